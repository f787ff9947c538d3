/-
  The document's answer (package trailref) on texts: the walks.
-/
import Derived.Test.YthboeppmlhbofaaGreatDoorWrt
import Derived.Test.YthboeppmlhbofaaGreatDoorRdr
namespace Go.Proofs.YthboeppmlhbofaaGreatDoor
open Go.RowKit Txt
set_option maxRecDepth 100000

set_option maxHeartbeats 400000 in
theorem blank_any (c : Int) (w : World) :
    Calls Tryz.prog 86 #[.int .u8 c] w fun e w' => e = .returned (.bool (gapI c)) ∧ w' = w := by
  go_enter Tryz.func86, Tryz.ntmps86
  go_wp2
  all_goals go_ret
  all_goals refine ⟨ret_bool ?_, rfl⟩
  all_goals simp_all [gapI]

set_option maxHeartbeats 400000 in
theorem mayBe_any (n : Int) (w : World) : Calls Tryz.prog 74 #[.int .i64 n] w fun e w' => e = .returned (.bool (litB n)) ∧ w' = w := by
  go_enter Tryz.func74, Tryz.ntmps74
  go_wp2
  all_goals go_ret
  all_goals refine ⟨ret_bool ?_, rfl⟩
  all_goals first
    | (simp_all [litB]; done)
    | (simp_all [litB]; omega)


set_option maxHeartbeats 1000000 in
theorem endsL_any (s : ByteArray) (k : Nat) (w : World) (hs : s.size ≤ 1000) (hk : k ≤ s.size) :
    Calls Tryz.prog 87 #[.string s, .int .i64 k, .bool false] w fun e w' => e = .returned (.int .i64 (k + llen ((bs s).drop k) : Nat)) ∧ w' = w := by
  go_enter Tryz.func87, Tryz.ntmps87
  go_wp2
  go_loop [1] (fun i => ∃ j : Nat, j ≤ s.size ∧ i = .int .i64 j ∧ Hid (j + llen ((bs s).drop j) = k + llen ((bs s).drop k))) (fun i => s.size - (intOf i).toNat)
  case atStart => exact ⟨k, hk, rfl, rfl⟩
  case round =>
    obtain ⟨j, hj, rfl, hl⟩ := hrel
    by_cases hlt : j < s.size
    · have hd := bs_drop s j hlt
      cases hb : ((s[j].toNat : Int) != 10)
      · have HS : Hid (llen ((bs s).drop j) = 0) := by
          have h1 : nlB s[j] = true := by simpa [nlB] using hb
          show _ = _
          rw [hd]; simp [llen, h1]
        clear hd
        go_wp2
        go_ret
        refine ⟨ret_int ?_, rfl⟩
        have h1 := hl.out; have h2 := HS.out
        show ((j : Nat) : Int) = _
        omega
      · have h1 : nlB s[j] = false := by simpa [nlB] using hb
        have HS : Hid (llen ((bs s).drop j) = llen ((bs s).drop (j + 1)) + 1) := by
          show _ = _
          rw [hd]; simp [llen, h1]
        clear hd h1
        go_wp2
        go_round
        case rel => exact ⟨j + 1, by omega, by go_num, by have h1 := hl.out; have h2 := HS.out; show _ = _; omega⟩
        case measure => simp [intOf]; omega
    · have HS : Hid (llen ((bs s).drop j) = 0) := by
        show _ = _
        rw [bs_drop_end s j (by omega)]; rfl
      go_wp2
      go_ret
      refine ⟨ret_int ?_, rfl⟩
      have h1 := hl.out; have h2 := HS.out
      show ((j : Nat) : Int) = _
      omega

set_option maxHeartbeats 1000000 in
theorem endsW_any (s : ByteArray) (k : Nat) (w : World) (hs : s.size ≤ 4194304) (hk : k ≤ s.size) :
    Calls Tryz.prog 87 #[.string s, .int .i64 k, .bool true] w fun e w' => e = .returned (.int .i64 (k + wlen ((bs s).drop k) : Nat)) ∧ w' = w := by
  go_enter Tryz.func87, Tryz.ntmps87
  go_wp2
  go_loop [1] (fun i => ∃ j : Nat, j ≤ s.size ∧ i = .int .i64 j ∧ Hid (j + wlen ((bs s).drop j) = k + wlen ((bs s).drop k))) (fun i => s.size - (intOf i).toNat)
  case atStart => exact ⟨k, hk, rfl, rfl⟩
  case round =>
    obtain ⟨j, hj, rfl, hl⟩ := hrel
    by_cases hlt : j < s.size
    · have hd := bs_drop s j hlt
      cases hb : ((s[j].toNat : Int) != 10)
      · have HS : Hid (wlen ((bs s).drop j) = 0) := by
          have h1 : nlB s[j] = true := by simpa [nlB] using hb
          have h2 := gapB_of_nl h1
          show _ = _
          rw [hd]; simp [wlen, h2]
        clear hd
        go_wp2
        go_ret
        refine ⟨ret_int ?_, rfl⟩
        have h1 := hl.out; have h2 := HS.out
        show ((j : Nat) : Int) = _
        omega
      · have h1 : nlB s[j] = false := by simpa [nlB] using hb
        cases hb2 : ((s[j].toNat : Int) != 32)
        · have HS : Hid (wlen ((bs s).drop j) = 0) := by
            have h2 : gapB s[j] = true := by rw [bne_eq_false_iff_eq] at hb2; simp [gapB, gapI, hb2]
            show _ = _
            rw [hd]; simp [wlen, h2]
          clear hd h1
          go_wp2
          go_ret
          refine ⟨ret_int ?_, rfl⟩
          have h1 := hl.out; have h2 := HS.out
          show ((j : Nat) : Int) = _
          omega
        · have HS : Hid (wlen ((bs s).drop j) = wlen ((bs s).drop (j + 1)) + 1) := by
            have h2 : gapB s[j] = false := by
              rw [bne_iff_ne] at hb hb2
              simp [gapB, gapI, hb, hb2]
            show _ = _
            rw [hd]; simp [wlen, h2]
          clear hd h1
          go_wp2
          go_round
          case rel => exact ⟨j + 1, by omega, by go_num, by have h1 := hl.out; have h2 := HS.out; show _ = _; omega⟩
          case measure => simp [intOf]; omega
    · have HS : Hid (wlen ((bs s).drop j) = 0) := by
        show _ = _
        rw [bs_drop_end s j (by omega)]; rfl
      go_wp2
      go_ret
      refine ⟨ret_int ?_, rfl⟩
      have h1 := hl.out; have h2 := HS.out
      show ((j : Nat) : Int) = _
      omega

set_option maxHeartbeats 2000000 in
theorem numberR_any (s : ByteArray) (w : World) (hs : s.size ≤ 4194304) :
    Calls Tryz.prog 88 #[.string s] w fun e w' => e = .returned (.tuple #[.int .i64 (numOf (bs s)).1, .int .i64 (numOf (bs s)).2]) ∧ w' = w := by
  by_cases h48 : bs s = [48]
  · have hb : (s.toList == [48]) = true := by rw [bs_toList, h48]; rfl
    have H : Hid (numOf (bs s) = (0, 0)) := by show _ = _; rw [h48]; rfl
    clear h48
    go_enter Tryz.func88, Tryz.ntmps88
    go_wp2
    go_ret2
    exact ⟨ret_two (congrArg Prod.fst H.out).symm (congrArg Prod.snd H.out).symm, rfl⟩
  have hb : (s.toList == [48]) = false := by rw [bs_toList]; exact beq_eq_false_iff_ne.2 h48
  by_cases h0 : s.size = 0
  · have H : Hid (numOf (bs s) = (0, 3)) := by show _ = _; rw [bs_nil s h0]; rfl
    clear h48
    go_enter Tryz.func88, Tryz.ntmps88
    go_wp2
    go_ret2
    exact ⟨ret_two (congrArg Prod.fst H.out).symm (congrArg Prod.snd H.out).symm, rfl⟩
  have hp : 0 < s.size := by omega
  have hz : ((s.size : Int) == 0) = false := by rw [beq_eq_false_iff_ne]; omega
  have hcs := bs_cons s hp
  cases h45 : ((s[0].toNat : Int) == 45)
  · have HN : numOf (bs s) = numP false (bs s) := by
      unfold numOf
      rw [if_neg h48, hcs]
      simp only [h45, numP]; rfl
    clear h48 h0
    cases h48 : ((s[0].toNat : Int) == 48)
    · have HC : Hid (cntB (bs s) = (bs s).all digB) := by
        show _ = _
        rw [hcs]; simp only [cntB, h48]; rfl
      clear hcs
      have HN' := hide HN
      clear HN
      go_enter Tryz.func88, Tryz.ntmps88
      go_wp2
      have HN := unhide HN'
      clear HN'

      go_loop [6, 7] (fun x i => ∃ (j : Nat) (n : Int), j ≤ s.size ∧ i = .int .i64 j ∧ x = .int .i64 n ∧ 0 ≤ n ∧ n ≤ 109 ∧ Hid (decOf (bs s) = valFrom n ((bs s).drop j)) ∧ Hid (cntB (bs s) = ((bs s).drop j).all digB)) (fun _ i => s.size - (intOf i).toNat)
      case atStart => exact ⟨0, 0, Nat.zero_le _, rfl, rfl, by omega, by omega, rfl, HC⟩
      case round =>
        obtain ⟨j, n, hj, rfl, rfl, hn0, hn1, hl, hdj⟩ := hrel
        by_cases hlt : j < s.size
        · have hd := bs_drop s j hlt
          have HE : Hid (((bs s).drop j).all digB = (digB s[j] && ((bs s).drop (j + 1)).all digB)) := by show _ = _; rw [hd]; rfl
          by_cases hg : 48 ≤ (s[j].toNat : Int) ∧ (s[j].toNat : Int) ≤ 57
          · have HD : Hid (digB s[j] = true) := by show _ = _; simp only [digB, hg.1, hg.2]; rfl
            obtain ⟨g1, g2⟩ := hg
            by_cases hle : n ≤ 10
            · have HS : Hid (valFrom n ((bs s).drop j) = valFrom (10 * n + ((s[j].toNat : Int) - 48)) ((bs s).drop (j + 1))) := by
                show _ = _
                rw [hd]; simp only [valFrom]; rw [if_pos hle, Int.mul_comm]
              clear hd
              go_wp2
              go_round
              case rel => exact ⟨j + 1, 10 * n + ((s[j].toNat : Int) - 48), by omega, by go_num, by go_num, by omega, by omega, hl.out.trans HS.out, by show _ = _; rw [hdj.out, HE.out, HD.out] <;> rfl⟩
              case measure => simp [intOf]; omega
            · have HS1 : Hid (valFrom n ((bs s).drop j) = n) := valFrom_stop n (by omega) _
              have HS2 : Hid (valFrom n ((bs s).drop (j + 1)) = n) := valFrom_stop n (by omega) _
              have hgt : 10 < n := by omega
              clear hd hle
              go_wp2
              go_round
              case rel => exact ⟨j + 1, n, by omega, by go_num, rfl, hn0, hn1, hl.out.trans (HS1.out.trans HS2.out.symm), by show _ = _; rw [hdj.out, HE.out, HD.out] <;> rfl⟩
              case measure => simp [intOf]; omega
          · have HD : Hid (digB s[j] = false) := by
              show _ = _
              simp only [digB, Bool.and_eq_false_iff, decide_eq_false_iff_not]; omega
            have HF : Hid (numOf (bs s) = (0, 3)) := by
              show _ = _
              have : cntB (bs s) = false := by rw [hdj.out, HE.out, HD.out] <;> rfl
              rw [HN]; simp only [numP, this]; rfl
            by_cases h1 : 48 ≤ (s[j].toNat : Int)
            · have h2 : 57 < (s[j].toNat : Int) := by omega
              clear hg hd HN
              go_wp2
              go_ret2
              exact ⟨ret_two (congrArg Prod.fst HF.out).symm (congrArg Prod.snd HF.out).symm, rfl⟩
            · have h2 : (s[j].toNat : Int) < 48 := by omega
              clear hg h1 hd HN
              go_wp2
              go_ret2
              exact ⟨ret_two (congrArg Prod.fst HF.out).symm (congrArg Prod.snd HF.out).symm, rfl⟩
        · have hnil := bs_drop_end s j (by omega)
          have hv : decOf (bs s) = n := by rw [hl.out, hnil]; rfl
          have hc : cntB (bs s) = true := by rw [hdj.out, hnil]; rfl
          by_cases hle : n ≤ 10
          · have HF : Hid (numOf (bs s) = (n, 0)) := by show _ = _; rw [HN]; simp only [numP, hc, hv, if_pos hle]; rfl
            clear hnil hv hc HN
            go_wp2
            go_ret2
            exact ⟨ret_two (by rw [HF.out] <;> go_num) (congrArg Prod.snd HF.out).symm, rfl⟩
          · have HF : Hid (numOf (bs s) = (0, 4)) := by show _ = _; rw [HN]; simp only [numP, hc, hv, if_neg hle]; rfl
            have hgt : 10 < n := by omega
            clear hnil hv hc HN hle
            go_wp2
            go_ret2
            exact ⟨ret_two (congrArg Prod.fst HF.out).symm (congrArg Prod.snd HF.out).symm, rfl⟩
    · have H : Hid (numOf (bs s) = (0, 3)) := by
        have : cntB (bs s) = false := by rw [hcs]; simp only [cntB, h48]; rfl
        show _ = _
        rw [HN]; simp only [numP, this]; rfl
      clear hcs HN
      go_enter Tryz.func88, Tryz.ntmps88
      go_wp2
      go_ret2
      exact ⟨ret_two (congrArg Prod.fst H.out).symm (congrArg Prod.snd H.out).symm, rfl⟩
  · have HN : numOf (bs s) = numP true (bs (s.extract 1 s.size)) := by
      unfold numOf
      rw [if_neg h48, bs_tail]
      rw [hcs]
      simp only [h45, numP]; rfl
    clear h48 h0
    have hse : (s.extract 1 s.size).size = s.size - 1 := size_tail s
    by_cases h1 : s.size = 1
    · have H : Hid (numOf (bs s) = (0, 3)) := by
        have : cntB (bs (s.extract 1 s.size)) = false := by rw [bs_nil _ (by rw [hse, h1])]; rfl
        show _ = _
        rw [HN]; simp only [numP, this]; rfl
      have hsz : ((s.size : Int) - 1 == 0) = true := by rw [beq_iff_eq]; omega
      clear hcs HN hse
      go_enter Tryz.func88, Tryz.ntmps88
      go_wp2
      go_ret2
      exact ⟨ret_two (congrArg Prod.fst H.out).symm (congrArg Prod.snd H.out).symm, rfl⟩
    · have hd1 : 0 < (s.extract 1 s.size).size := by rw [hse]; omega
      have hd2 : (s.extract 1 s.size).size ≤ 4194304 := by rw [hse]; omega
      clear hcs h1 hse
      obtain ⟨d, hd⟩ : ∃ d, s.extract 1 s.size = d := ⟨_, rfl⟩
      rw [hd] at HN hd1 hd2
      have hz2 : ((d.size : Int) == 0) = false := by rw [beq_eq_false_iff_ne]; omega
      have hcs := bs_cons d hd1
      cases h48 : ((d[0].toNat : Int) == 48)
      · have HC : Hid (cntB (bs d) = (bs d).all digB) := by
          show _ = _
          rw [hcs]; simp only [cntB, h48]; rfl
        clear hcs
        have HN' := hide HN
        clear HN
        go_enter Tryz.func88, Tryz.ntmps88
        go_wp2
        have HN := unhide HN'
        clear HN'
        go_loop [6, 7] (fun x i => ∃ (j : Nat) (n : Int), j ≤ d.size ∧ i = .int .i64 j ∧ x = .int .i64 n ∧ 0 ≤ n ∧ n ≤ 109 ∧ Hid (decOf (bs d) = valFrom n ((bs d).drop j)) ∧ Hid (cntB (bs d) = ((bs d).drop j).all digB)) (fun _ i => d.size - (intOf i).toNat)
        case atStart => exact ⟨0, 0, Nat.zero_le _, rfl, rfl, by omega, by omega, rfl, HC⟩
        case round =>
          obtain ⟨j, n, hj, rfl, rfl, hn0, hn1, hl, hdj⟩ := hrel
          by_cases hlt : j < d.size
          · have hd := bs_drop d j hlt
            have HE : Hid (((bs d).drop j).all digB = (digB d[j] && ((bs d).drop (j + 1)).all digB)) := by show _ = _; rw [hd]; rfl
            by_cases hg : 48 ≤ (d[j].toNat : Int) ∧ (d[j].toNat : Int) ≤ 57
            · have HD : Hid (digB d[j] = true) := by show _ = _; simp only [digB, hg.1, hg.2]; rfl
              obtain ⟨g1, g2⟩ := hg
              by_cases hle : n ≤ 10
              · have HS : Hid (valFrom n ((bs d).drop j) = valFrom (10 * n + ((d[j].toNat : Int) - 48)) ((bs d).drop (j + 1))) := by
                  show _ = _
                  rw [hd]; simp only [valFrom]; rw [if_pos hle, Int.mul_comm]
                clear hd
                go_wp2
                go_round
                case rel => exact ⟨j + 1, 10 * n + ((d[j].toNat : Int) - 48), by omega, by go_num, by go_num, by omega, by omega, hl.out.trans HS.out, by show _ = _; rw [hdj.out, HE.out, HD.out] <;> rfl⟩
                case measure => simp [intOf]; omega
              · have HS1 : Hid (valFrom n ((bs d).drop j) = n) := valFrom_stop n (by omega) _
                have HS2 : Hid (valFrom n ((bs d).drop (j + 1)) = n) := valFrom_stop n (by omega) _
                have hgt : 10 < n := by omega
                clear hd hle
                go_wp2
                go_round
                case rel => exact ⟨j + 1, n, by omega, by go_num, rfl, hn0, hn1, hl.out.trans (HS1.out.trans HS2.out.symm), by show _ = _; rw [hdj.out, HE.out, HD.out] <;> rfl⟩
                case measure => simp [intOf]; omega
            · have HD : Hid (digB d[j] = false) := by
                show _ = _
                simp only [digB, Bool.and_eq_false_iff, decide_eq_false_iff_not]; omega
              have HF : Hid (numOf (bs s) = (0, 3)) := by
                show _ = _
                have : cntB (bs d) = false := by rw [hdj.out, HE.out, HD.out] <;> rfl
                rw [HN]; simp only [numP, this]; rfl
              by_cases h1 : 48 ≤ (d[j].toNat : Int)
              · have h2 : 57 < (d[j].toNat : Int) := by omega
                clear hg hd HN
                go_wp2
                go_ret2
                exact ⟨ret_two (congrArg Prod.fst HF.out).symm (congrArg Prod.snd HF.out).symm, rfl⟩
              · have h2 : (d[j].toNat : Int) < 48 := by omega
                clear hg h1 hd HN
                go_wp2
                go_ret2
                exact ⟨ret_two (congrArg Prod.fst HF.out).symm (congrArg Prod.snd HF.out).symm, rfl⟩
          · have hnil := bs_drop_end d j (by omega)
            have hv : decOf (bs d) = n := by rw [hl.out, hnil]; rfl
            have hc : cntB (bs d) = true := by rw [hdj.out, hnil]; rfl
            by_cases hle : n ≤ 10
            · have HF : Hid (numOf (bs s) = (-n, 0)) := by show _ = _; rw [HN]; simp only [numP, hc, hv, if_pos hle]; rfl
              clear hnil hv hc HN
              go_wp2
              go_ret2
              exact ⟨ret_two (by rw [HF.out] <;> go_num) (congrArg Prod.snd HF.out).symm, rfl⟩
            · have HF : Hid (numOf (bs s) = (0, 4)) := by show _ = _; rw [HN]; simp only [numP, hc, hv, if_neg hle]; rfl
              have hgt : 10 < n := by omega
              clear hnil hv hc HN hle
              go_wp2
              go_ret2
              exact ⟨ret_two (congrArg Prod.fst HF.out).symm (congrArg Prod.snd HF.out).symm, rfl⟩
      · have H : Hid (numOf (bs s) = (0, 3)) := by
          have : cntB (bs d) = false := by rw [hcs]; simp only [cntB, h48]; rfl
          show _ = _
          rw [HN]; simp only [numP, this]; rfl
        clear hcs HN
        go_enter Tryz.func88, Tryz.ntmps88
        go_wp2
        go_ret2
        exact ⟨ret_two (congrArg Prod.fst H.out).symm (congrArg Prod.snd H.out).symm, rfl⟩

end Go.Proofs.YthboeppmlhbofaaGreatDoor
