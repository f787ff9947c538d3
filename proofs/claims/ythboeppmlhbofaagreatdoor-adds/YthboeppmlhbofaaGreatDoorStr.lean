/-
  Walks over package texts: the functions on strings that lay no memory.
-/
import Derived.Test.YthboeppmlhbofaaGreatDoorProg
import Derived.Test.YthboeppmlhbofaaGreatDoorTxt
import Derived.WalkKit
import Derived.WalkSpells
import Derived.WalkLawsBesides
import Derived.Lib.Bytes
namespace Go.Proofs.YthboeppmlhbofaaGreatDoor
open Go.RowKit Txt
set_option maxRecDepth 100000

theorem hide {p : Prop} (h : p) : Hid p := h
theorem unhide {p : Prop} (h : Hid p) : p := h
/-- a string's bytes -/
def bs (s : ByteArray) : List UInt8 := s.data.toList
theorem bs_length (s : ByteArray) : (bs s).length = s.size := Array.length_toList
theorem bs_lt {s : ByteArray} {j : Nat} (h : j < s.size) : j < (bs s).length := by rw [bs_length]; exact h
theorem bs_drop (s : ByteArray) (j : Nat) (h : j < s.size) : (bs s).drop j = s[j] :: (bs s).drop (j + 1) := by
  unfold bs
  rw [List.drop_eq_getElem_cons (by simpa using h)]
  rfl
theorem bs_drop_end (s : ByteArray) (j : Nat) (h : s.size ≤ j) : (bs s).drop j = [] := by
  rw [List.drop_eq_nil_iff, bs_length]; exact h

theorem ret_bool {a b : Bool} (h : a = b) : Ending.returned (.bool a) = .returned (.bool b) := by rw [h]
theorem ret_int {k : IntKind} {a b : Int} (h : a = b) : Ending.returned (.int k a) = .returned (.int k b) := by rw [h]

set_option maxHeartbeats 400000 in
theorem isGap_any (c : Int) (w : World) :
    Calls Tryz.prog 132 #[.int .u8 c] w fun e w' => e = .returned (.bool (gapI c)) ∧ w' = w := by
  go_enter Tryz.func132, Tryz.ntmps132
  go_wp2
  all_goals go_ret
  all_goals refine ⟨ret_bool ?_, rfl⟩
  all_goals simp_all [gapI]

set_option maxHeartbeats 400000 in
theorem lineEnd_any (s : ByteArray) (k : Nat) (w : World) (hs : s.size ≤ 1000) (hk : k ≤ s.size) :
    Calls Tryz.prog 131 #[.string s, .int .i64 k] w fun e w' => e = .returned (.int .i64 (k + llen ((bs s).drop k) : Nat)) ∧ w' = w := by
  go_enter Tryz.func131, Tryz.ntmps131
  go_wp2
  go_loop [1] (fun i => ∃ j : Nat, j ≤ s.size ∧ i = .int .i64 j ∧ Hid (j + llen ((bs s).drop j) = k + llen ((bs s).drop k))) (fun i => s.size - (intOf i).toNat)
  case atStart => exact ⟨k, hk, rfl, rfl⟩
  case round =>
    obtain ⟨j, hj, rfl, hl⟩ := hrel
    by_cases hlt : j < s.size
    · have hd := bs_drop s j hlt
      cases hb : ((s[j].toNat : Int) != 10)
      · have HS : Hid (llen ((bs s).drop j) = 0) := by
          have : nlB s[j] = true := by simpa [nlB] using hb
          show _ = _
          rw [hd]; simp [llen, this]
        clear hd
        go_wp2
        go_ret
        refine ⟨ret_int ?_, rfl⟩
        have h1 := hl.out; have h2 := HS.out
        show ((j : Nat) : Int) = _
        omega
      · have HS : Hid (llen ((bs s).drop j) = llen ((bs s).drop (j + 1)) + 1) := by
          have : nlB s[j] = false := by simpa [nlB] using hb
          show _ = _
          rw [hd]; simp [llen, this]
        clear hd
        go_wp2
        go_round
        case rel => exact ⟨j + 1, by omega, by go_num, by have h1 := hl.out; have h2 := HS.out; show _ = _; omega⟩
        case measure => simp [intOf]; omega
    · have HS : Hid (llen ((bs s).drop j) = 0) := by
        show _ = _
        rw [bs_drop_end s j (by omega)]; rfl
      go_wp2
      go_ret
      refine ⟨ret_int ?_, rfl⟩
      have h1 := hl.out; have h2 := HS.out
      show ((j : Nat) : Int) = _
      omega

set_option maxHeartbeats 400000 in
theorem wordEnd_any (s : ByteArray) (k : Nat) (w : World) (hs : s.size ≤ 4194304) (hk : k ≤ s.size) :
    Calls Tryz.prog 112 #[.string s, .int .i64 k] w fun e w' => e = .returned (.int .i64 (k + wlen ((bs s).drop k) : Nat)) ∧ w' = w := by
  go_enter Tryz.func112, Tryz.ntmps112
  go_wp2
  go_loop [1] (fun i => ∃ j : Nat, j ≤ s.size ∧ i = .int .i64 j ∧ Hid (j + wlen ((bs s).drop j) = k + wlen ((bs s).drop k))) (fun i => s.size - (intOf i).toNat)
  case atStart => exact ⟨k, hk, rfl, rfl⟩
  case round =>
    obtain ⟨j, hj, rfl, hl⟩ := hrel
    by_cases hlt : j < s.size
    · have hd := bs_drop s j hlt
      cases hb : gapI (s[j].toNat : Int)
      · have HS : Hid (wlen ((bs s).drop j) = wlen ((bs s).drop (j + 1)) + 1) := by
          have : gapB s[j] = false := hb
          show _ = _
          rw [hd]; simp [wlen, this]
        clear hd
        go_wp2_with (go_at_call 132; refine (isGap_any _ _).mono ?_; rintro e w' ⟨rfl, rfl⟩)
        go_round
        case rel => exact ⟨j + 1, by omega, by go_num, by have h1 := hl.out; have h2 := HS.out; show _ = _; omega⟩
        case measure => simp [intOf]; omega
      · have HS : Hid (wlen ((bs s).drop j) = 0) := by
          have : gapB s[j] = true := hb
          show _ = _
          rw [hd]; simp [wlen, this]
        clear hd
        go_wp2_with (go_at_call 132; refine (isGap_any _ _).mono ?_; rintro e w' ⟨rfl, rfl⟩)
        go_ret
        refine ⟨ret_int ?_, rfl⟩
        have h1 := hl.out; have h2 := HS.out
        show ((j : Nat) : Int) = _
        omega
    · have HS : Hid (wlen ((bs s).drop j) = 0) := by
        show _ = _
        rw [bs_drop_end s j (by omega)]; rfl
      go_wp2
      go_ret
      refine ⟨ret_int ?_, rfl⟩
      have h1 := hl.out; have h2 := HS.out
      show ((j : Nat) : Int) = _
      omega

theorem bs_getD (s : ByteArray) (j : Nat) (h : j < s.size) : (bs s).getD j 0 = s[j] := by
  have h' : j < (bs s).length := by rw [bs_length]; exact h
  rw [List.getD_eq_getElem?_getD, List.getElem?_eq_getElem h']
  rfl

set_option maxHeartbeats 400000 in
theorem beginsComment_any (s : ByteArray) (k : Nat) (w : World) (hs : s.size ≤ 1000) (hk : k < s.size) :
    Calls Tryz.prog 130 #[.string s, .int .i64 k] w fun e w' => e = .returned (.bool (cmB (bs s) k)) ∧ w' = w := by
  have g1 := bs_getD s k hk
  cases h1 : ((s[k].toNat : Int) == 99)
  · have H : Hid (cmB (bs s) k = false) := by show _ = _; rw [cmB, g1, h1]; rfl
    clear g1
    go_enter Tryz.func130, Tryz.ntmps130
    go_wp2
    go_ret
    exact ⟨ret_bool H.out.symm, rfl⟩
  · by_cases h2 : k = 0
    · subst h2
      have H : Hid (cmB (bs s) 0 = true) := by show _ = _; rw [cmB, g1, h1]; rfl
      clear g1
      go_enter Tryz.func130, Tryz.ntmps130
      go_wp2
      go_ret
      exact ⟨ret_bool H.out.symm, rfl⟩
    · obtain ⟨j, rfl⟩ : ∃ j, k = j + 1 := ⟨k - 1, by omega⟩
      have hj : j < s.size := by omega
      have g2 := bs_getD s j hj
      have H : Hid (cmB (bs s) (j + 1) = ((s[j].toNat : Int) == 10)) := by
        show _ = _
        rw [cmB, g1, h1, Nat.add_sub_cancel, g2]; simp [nlB]
      clear g1 g2
      go_enter Tryz.func130, Tryz.ntmps130
      go_wp2
      go_ret
      exact ⟨ret_bool H.out.symm, rfl⟩

set_option maxHeartbeats 400000 in
theorem nextWord_any (s : ByteArray) (k : Nat) (w : World) (hs : s.size ≤ 1000) (hk : k ≤ s.size) :
    Calls Tryz.prog 111 #[.string s, .int .i64 k] w fun e w' => e = .returned (.int .i64 (nxt (bs s) k : Nat)) ∧ w' = w := by
  go_enter Tryz.func111, Tryz.ntmps111
  go_wp2
  go_loop [1] (fun i => ∃ j : Nat, j ≤ s.size ∧ i = .int .i64 j ∧ Hid (nxt (bs s) j = nxt (bs s) k)) (fun i => s.size - (intOf i).toNat)
  case atStart => exact ⟨k, hk, rfl, rfl⟩
  case round =>
    obtain ⟨j, hj, rfl, hl⟩ := hrel
    by_cases hlt : j < s.size
    · have g1 := bs_getD s j hlt
      cases hc : cmB (bs s) j
      · cases hb : gapI (s[j].toNat : Int)
        · have HS : Hid (nxt (bs s) j = j) := nxt_word (bs_lt hlt) hc (by rw [g1]; exact hb)
          clear g1
          go_wp2_with (first
            | (go_at_call 132; refine (isGap_any _ _).mono ?_; rintro e w' ⟨rfl, rfl⟩)
            | (go_at_call 130; refine (beginsComment_any _ _ _ hs hlt).mono ?_; rintro e w' ⟨rfl, rfl⟩))
          go_ret
          refine ⟨ret_int ?_, rfl⟩
          have h1 := hl.out; have h2 := HS.out
          show ((j : Nat) : Int) = _
          omega
        · have HS : Hid (nxt (bs s) (j + 1) = nxt (bs s) j) := nxt_gap (bs_lt hlt) (by rw [g1]; exact hb)
          clear g1
          go_wp2_with (first
            | (go_at_call 132; refine (isGap_any _ _).mono ?_; rintro e w' ⟨rfl, rfl⟩)
            | (go_at_call 130; refine (beginsComment_any _ _ _ hs hlt).mono ?_; rintro e w' ⟨rfl, rfl⟩))
          go_round
          case rel => exact ⟨j + 1, by omega, by go_num, HS.out.trans hl.out⟩
          case measure => simp [intOf]; omega
      · have HS : Hid (nxt (bs s) (j + llen ((bs s).drop j)) = nxt (bs s) j) := nxt_com (bs_lt hlt) hc
        have h3 : 0 < llen ((bs s).drop j) := llen_com (bs_lt hlt) hc
        have h4 : j + llen ((bs s).drop j) ≤ s.size := by
          have := llen_le ((bs s).drop j)
          rw [List.length_drop, bs_length] at this
          omega
        clear g1
        go_wp2_with (first
          | (go_at_call 131; refine (lineEnd_any _ _ _ hs hj).mono ?_; rintro e w' ⟨rfl, rfl⟩)
          | (go_at_call 130; refine (beginsComment_any _ _ _ hs hlt).mono ?_; rintro e w' ⟨rfl, rfl⟩))
        go_round
        case rel => exact ⟨j + llen ((bs s).drop j), h4, by go_num, HS.out.trans hl.out⟩
        case measure => simp [intOf]; omega
    · have HS : Hid (nxt (bs s) j = j) := nxt_end (by rw [bs_length]; omega)
      go_wp2
      go_ret
      refine ⟨ret_int ?_, rfl⟩
      have h1 := hl.out; have h2 := HS.out
      show ((j : Nat) : Int) = _
      omega

theorem bs_nil (s : ByteArray) (h : s.size = 0) : bs s = [] := List.eq_nil_of_length_eq_zero (by rw [bs_length, h])
theorem bs_cons (s : ByteArray) (h : 0 < s.size) : bs s = s[0] :: (bs s).drop 1 := by
  have := bs_drop s 0 h
  simpa using this

set_option maxHeartbeats 400000 in
theorem isCount_any (s : ByteArray) (w : World) (hs : s.size ≤ 4194304) :
    Calls Tryz.prog 133 #[.string s] w fun e w' => e = .returned (.bool (cntB (bs s))) ∧ w' = w := by
  by_cases h0 : s.size = 0
  · have H : Hid (cntB (bs s) = false) := by show _ = _; rw [bs_nil s h0]; rfl
    go_enter Tryz.func133, Tryz.ntmps133
    go_wp2
    go_ret
    exact ⟨ret_bool H.out.symm, rfl⟩
  have hp : 0 < s.size := by omega
  have hz : ((s.size : Int) == 0) = false := by rw [beq_eq_false_iff_ne]; omega
  have hcs := bs_cons s hp
  cases h48 : ((s[0].toNat : Int) == 48)
  · have HC : Hid (cntB (bs s) = (bs s).all digB) := by
      show _ = _
      rw [hcs]; simp only [cntB, h48]; rfl
    clear hcs h0
    go_enter Tryz.func133, Tryz.ntmps133
    go_wp2
    go_loop [3] (fun i => ∃ j : Nat, j ≤ s.size ∧ i = .int .i64 j ∧ Hid (cntB (bs s) = ((bs s).drop j).all digB)) (fun i => s.size - (intOf i).toNat)
    case atStart => exact ⟨0, Nat.zero_le _, rfl, HC⟩
    case round =>
      obtain ⟨j, hj, rfl, hl⟩ := hrel
      by_cases hlt : j < s.size
      · have hd := bs_drop s j hlt
        have HE : Hid (((bs s).drop j).all digB = (digB s[j] && ((bs s).drop (j + 1)).all digB)) := by show _ = _; rw [hd]; rfl
        clear hd
        by_cases hg : 48 ≤ (s[j].toNat : Int) ∧ (s[j].toNat : Int) ≤ 57
        · have HD : Hid (digB s[j] = true) := by show _ = _; simp only [digB, hg.1, hg.2]; rfl
          obtain ⟨g1, g2⟩ := hg
          go_wp2
          go_round
          case rel => exact ⟨j + 1, by omega, by go_num, by show _ = _; rw [hl.out, HE.out, HD.out] <;> rfl⟩
          case measure => simp [intOf]; omega
        · have HD : Hid (digB s[j] = false) := by
            show _ = _
            simp only [digB, Bool.and_eq_false_iff, decide_eq_false_iff_not]; omega
          by_cases h1 : 48 ≤ (s[j].toNat : Int)
          · have h2 : 57 < (s[j].toNat : Int) := by omega
            clear hg
            go_wp2
            go_ret
            exact ⟨ret_bool (by rw [hl.out, HE.out, HD.out] <;> rfl), rfl⟩
          · have h2 : (s[j].toNat : Int) < 48 := by omega
            clear hg h1
            go_wp2
            go_ret
            exact ⟨ret_bool (by rw [hl.out, HE.out, HD.out] <;> rfl), rfl⟩
      · have HE : Hid (((bs s).drop j).all digB = true) := by show _ = _; rw [bs_drop_end s j (by omega)]; rfl
        go_wp2
        go_ret
        exact ⟨ret_bool (by rw [hl.out, HE.out] <;> rfl), rfl⟩
  · have H : Hid (cntB (bs s) = false) := by show _ = _; rw [hcs]; simp only [cntB, h48]; rfl
    clear hcs h0
    go_enter Tryz.func133, Tryz.ntmps133
    go_wp2
    go_ret
    exact ⟨ret_bool H.out.symm, rfl⟩

theorem valFrom_stop (n : Int) (h : 10 < n) (l : List UInt8) : valFrom n l = n := by
  cases l with
  | nil => rfl
  | cons c r => simp only [valFrom]; rw [if_neg (by omega)]

set_option maxHeartbeats 400000 in
theorem value_any (s : ByteArray) (w : World) (hs : s.size ≤ 4194304) (hdg : Hid ((bs s).all digB = true)) :
    Calls Tryz.prog 134 #[.string s] w fun e w' => e = .returned (.int .i64 (decOf (bs s))) ∧ w' = w := by
  go_enter Tryz.func134, Tryz.ntmps134
  go_wp2
  go_loop [3, 4] (fun x i => ∃ (j : Nat) (n : Int), j ≤ s.size ∧ i = .int .i64 j ∧ x = .int .i64 n ∧ 0 ≤ n ∧ n ≤ 109 ∧ Hid (decOf (bs s) = valFrom n ((bs s).drop j)) ∧ Hid (((bs s).drop j).all digB = true)) (fun _ i => s.size - (intOf i).toNat)
  case atStart => exact ⟨0, 0, Nat.zero_le _, rfl, rfl, by omega, by omega, rfl, hdg⟩
  case round =>
    obtain ⟨j, n, hj, rfl, rfl, hn0, hn1, hl, hdj⟩ := hrel
    by_cases hlt : j < s.size
    · have hd := bs_drop s j hlt
      have hda : digB s[j] = true ∧ ((bs s).drop (j + 1)).all digB = true := by
        have := hdj.out; rw [hd] at this; simpa using this
      have h1 : 48 ≤ (s[j].toNat : Int) := by have := hda.1; simp only [digB, Bool.and_eq_true, decide_eq_true_eq] at this; exact this.1
      have h2 : (s[j].toNat : Int) ≤ 57 := by have := hda.1; simp only [digB, Bool.and_eq_true, decide_eq_true_eq] at this; exact this.2
      have HD : Hid (((bs s).drop (j + 1)).all digB = true) := hda.2
      clear hda
      by_cases hle : n ≤ 10
      · have HS : Hid (valFrom n ((bs s).drop j) = valFrom (n * 10 + ((s[j].toNat : Int) - 48)) ((bs s).drop (j + 1))) := by
          show _ = _
          rw [hd]; simp only [valFrom]; rw [if_pos hle]
        clear hd
        go_wp2
        go_round
        case rel => exact ⟨j + 1, n * 10 + ((s[j].toNat : Int) - 48), by omega, by go_num, by go_num, by omega, by omega, hl.out.trans HS.out, HD⟩
        case measure => simp [intOf]; omega
      · have HS := valFrom_stop n (by omega) ((bs s).drop j)
        have HS' : Hid (valFrom n ((bs s).drop j) = n) := HS
        clear HS hd
        have hgt : 10 < n := by omega
        go_wp2
        go_ret
        exact ⟨ret_int (by rw [hl.out, HS'.out] <;> rfl), rfl⟩
    · have HS' : Hid (valFrom n ((bs s).drop j) = n) := by show _ = _; rw [bs_drop_end s j (by omega)]; rfl
      go_wp2
      go_ret
      exact ⟨ret_int (by rw [hl.out, HS'.out] <;> rfl), rfl⟩

theorem bs_extract (s : ByteArray) (a b : Nat) : bs (s.extract a b) = ((bs s).drop a).take (b - a) := by
  unfold bs
  rw [ByteArray.data_extract]; simp
theorem bs_tail (s : ByteArray) : bs (s.extract 1 s.size) = (bs s).drop 1 := by
  rw [bs_extract, List.take_of_length_le (by rw [List.length_drop, bs_length]; exact Nat.le_refl _)]
theorem size_tail (s : ByteArray) : (s.extract 1 s.size).size = s.size - 1 := by simp
theorem bs_toList (s : ByteArray) : s.toList = bs s := Lib.toList_data s

/-- what number says, of a word with a sign or without -/
def numP (neg : Bool) (d : List UInt8) : Int × Int := if cntB d then (if decOf d ≤ 10 then ((if neg then -decOf d else decOf d), 0) else (0, 4)) else (0, 3)
theorem cnt_all {d : List UInt8} (h : cntB d = true) : d.all digB = true := by
  cases d with
  | nil => cases h
  | cons c r => simp only [cntB, Bool.and_eq_true] at h; exact h.2
theorem dec_bd {d : List UInt8} (h : cntB d = true) : 0 ≤ decOf d ∧ decOf d ≤ 109 := valFrom_bd d (cnt_all h) 0 (by omega) (by omega)
theorem ret_two {a b c d : Int} (h : a = c) (h' : b = d) : Ending.returned (.tuple #[.int .i64 a, .int .i64 b]) = .returned (.tuple #[.int .i64 c, .int .i64 d]) := by rw [h, h']

set_option maxHeartbeats 1000000 in
theorem number_any (s : ByteArray) (w : World) (hs : s.size ≤ 4194304) :
    Calls Tryz.prog 113 #[.string s] w fun e w' => e = .returned (.tuple #[.int .i64 (numOf (bs s)).1, .int .i64 (numOf (bs s)).2]) ∧ w' = w := by
  by_cases h48 : bs s = [48]
  · have hb : (s.toList == [48]) = true := by rw [bs_toList, h48]; rfl
    have H : Hid (numOf (bs s) = (0, 0)) := by show _ = _; rw [h48]; rfl
    clear h48
    go_enter Tryz.func113, Tryz.ntmps113
    go_wp2
    go_ret2
    exact ⟨ret_two (congrArg Prod.fst H.out).symm (congrArg Prod.snd H.out).symm, rfl⟩
  have hb : (s.toList == [48]) = false := by rw [bs_toList]; exact beq_eq_false_iff_ne.2 h48
  by_cases h0 : s.size = 0
  · have H : Hid (numOf (bs s) = (0, 3)) := by show _ = _; rw [bs_nil s h0]; rfl
    have hq : cntB (bs s) = false := by rw [bs_nil s h0]; rfl
    clear h48
    go_enter Tryz.func113, Tryz.ntmps113
    go_wp2_with (go_at_call 133; refine (isCount_any _ _ hs).mono ?_; rintro e w' ⟨rfl, rfl⟩)
    go_ret2
    exact ⟨ret_two (congrArg Prod.fst H.out).symm (congrArg Prod.snd H.out).symm, rfl⟩
  have hp : 0 < s.size := by omega
  have hcs := bs_cons s hp
  cases h45 : ((s[0].toNat : Int) == 45)
  · have HN : numOf (bs s) = numP false (bs s) := by
      unfold numOf
      rw [if_neg h48, hcs]
      simp only [h45, numP]; rfl
    clear hcs h48 h0
    cases hc : cntB (bs s)
    · have H : Hid (numOf (bs s) = (0, 3)) := by show _ = _; rw [HN]; simp only [numP, hc]; rfl
      clear HN
      go_enter Tryz.func113, Tryz.ntmps113
      go_wp2_with (go_at_call 133; refine (isCount_any _ _ hs).mono ?_; rintro e w' ⟨rfl, rfl⟩)
      go_ret2
      exact ⟨ret_two (congrArg Prod.fst H.out).symm (congrArg Prod.snd H.out).symm, rfl⟩
    · have hall : Hid ((bs s).all digB = true) := cnt_all hc
      obtain ⟨hb0, hb1⟩ := dec_bd hc
      by_cases hle : decOf (bs s) ≤ 10
      · have H : Hid (numOf (bs s) = (decOf (bs s), 0)) := by show _ = _; rw [HN]; simp only [numP, hc, if_pos hle]; rfl
        clear HN
        go_enter Tryz.func113, Tryz.ntmps113
        go_wp2_with (first
          | (go_at_call 133; refine (isCount_any _ _ hs).mono ?_; rintro e w' ⟨rfl, rfl⟩)
          | (go_at_call 134; refine (value_any _ _ hs hall).mono ?_; rintro e w' ⟨rfl, rfl⟩))
        go_ret2
        exact ⟨ret_two (congrArg Prod.fst H.out).symm (congrArg Prod.snd H.out).symm, rfl⟩
      · have H : Hid (numOf (bs s) = (0, 4)) := by show _ = _; rw [HN]; simp only [numP, hc, if_neg hle]; rfl
        have hgt : 10 < decOf (bs s) := by omega
        clear HN hle
        go_enter Tryz.func113, Tryz.ntmps113
        go_wp2_with (first
          | (go_at_call 133; refine (isCount_any _ _ hs).mono ?_; rintro e w' ⟨rfl, rfl⟩)
          | (go_at_call 134; refine (value_any _ _ hs hall).mono ?_; rintro e w' ⟨rfl, rfl⟩))
        go_ret2
        exact ⟨ret_two (congrArg Prod.fst H.out).symm (congrArg Prod.snd H.out).symm, rfl⟩
  · have HN : numOf (bs s) = numP true ((bs s).drop 1) := by
      unfold numOf
      rw [if_neg h48]
      rw [hcs]
      simp only [h45, numP]; rfl
    have hse : (s.extract 1 s.size).size ≤ 4194304 := by rw [size_tail]; omega
    have hbt := bs_tail s
    clear hcs h48 h0
    generalize hd : (bs s).drop 1 = d at HN hbt
    cases hc : cntB d
    · have H : Hid (numOf (bs s) = (0, 3)) := by show _ = _; rw [HN]; simp only [numP, hc]; rfl
      have hc' : cntB (bs (s.extract 1 s.size)) = false := by rw [hbt]; exact hc
      clear HN hc hbt hd
      go_enter Tryz.func113, Tryz.ntmps113
      go_wp2_with (go_at_call 133; refine (isCount_any _ _ hse).mono ?_; rintro e w' ⟨rfl, rfl⟩)
      go_ret2
      exact ⟨ret_two (congrArg Prod.fst H.out).symm (congrArg Prod.snd H.out).symm, rfl⟩
    · have hc' : cntB (bs (s.extract 1 s.size)) = true := by rw [hbt]; exact hc
      have hall : Hid ((bs (s.extract 1 s.size)).all digB = true) := cnt_all hc'
      obtain ⟨hb0, hb1⟩ := dec_bd hc'
      have hdd : Hid (decOf (bs (s.extract 1 s.size)) = decOf d) := by show _ = _; rw [hbt]
      by_cases hle : decOf d ≤ 10
      · have H : Hid (numOf (bs s) = (-decOf (bs (s.extract 1 s.size)), 0)) := by show _ = _; rw [HN, hdd.out]; simp only [numP, hc, if_pos hle]; rfl
        have hle' : decOf (bs (s.extract 1 s.size)) ≤ 10 := by rw [hdd.out]; exact hle
        clear HN hc hbt hd hdd hle
        go_enter Tryz.func113, Tryz.ntmps113
        go_wp2_with (first
          | (go_at_call 133; refine (isCount_any _ _ hse).mono ?_; rintro e w' ⟨rfl, rfl⟩)
          | (go_at_call 134; refine (value_any _ _ hse hall).mono ?_; rintro e w' ⟨rfl, rfl⟩))
        go_ret2
        exact ⟨ret_two (congrArg Prod.fst H.out).symm (congrArg Prod.snd H.out).symm, rfl⟩
      · have H : Hid (numOf (bs s) = (0, 4)) := by show _ = _; rw [HN]; simp only [numP, hc, if_neg hle]; rfl
        have hgt : 10 < decOf (bs (s.extract 1 s.size)) := by rw [hdd.out]; omega
        clear HN hc hbt hd hdd hle
        go_enter Tryz.func113, Tryz.ntmps113
        go_wp2_with (first
          | (go_at_call 133; refine (isCount_any _ _ hse).mono ?_; rintro e w' ⟨rfl, rfl⟩)
          | (go_at_call 134; refine (value_any _ _ hse hall).mono ?_; rintro e w' ⟨rfl, rfl⟩))
        go_ret2
        exact ⟨ret_two (congrArg Prod.fst H.out).symm (congrArg Prod.snd H.out).symm, rfl⟩

def litB (n : Int) : Bool := n != 0 && decide (-10 ≤ n) && decide (n ≤ 10)
set_option maxHeartbeats 400000 in
theorem is_any (n : Int) (w : World) : Calls Tryz.prog 93 #[.int .i64 n] w fun e w' => e = .returned (.bool (litB n)) ∧ w' = w := by
  go_enter Tryz.func93, Tryz.ntmps93
  go_wp2
  all_goals go_ret
  all_goals refine ⟨ret_bool ?_, rfl⟩
  all_goals first
    | (simp_all [litB]; done)
    | (simp_all [litB]; omega)

end Go.Proofs.YthboeppmlhbofaaGreatDoor
