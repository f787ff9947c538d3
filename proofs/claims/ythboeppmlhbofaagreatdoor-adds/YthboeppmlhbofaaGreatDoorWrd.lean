/-
  The document's Write: the walk.
-/
import Derived.Test.YthboeppmlhbofaaGreatDoorSet
namespace Go.Proofs.YthboeppmlhbofaaGreatDoor
open Go.RowKit Txt
set_option maxRecDepth 100000

theorem arr_lit (t : List UInt8) (x : Int) : (⟨t.toArray⟩ : ByteArray) ++ ⟨(Lib.itoa x).toArray⟩ ++ ⟨#[32]⟩ = ⟨(t ++ litT x).toArray⟩ := by
  rw [arr_append]
  have := arr_append (t ++ Lib.itoa x) [32]
  rw [List.append_assoc] at this
  exact this
theorem ret_empty {a b : Int} (s : List UInt8) (h : s = []) (h' : a = b) : Ending.returned (.tuple #[.string ⟨#[]⟩, .int .i64 a]) = .returned (.tuple #[.string ⟨s.toArray⟩, .int .i64 b]) := by rw [h, h']

set_option maxHeartbeats 2000000 in
theorem writeR_any (a : Option Addr) (c : Nat) (A : Nat → Option Addr) (C : Nat → Nat) (xss : List (List Int)) (w : World) (hbd : xss.length ≤ 9223372036854775807) (hr : RowsAt w a A C xss) :
    Calls Tryz.prog 56 #[.slice a xss.length c] w fun e w' => e = .returned (.tuple #[.string ⟨(wrT xss).toArray⟩, .int .i64 (wrE xss)]) ∧ Below w.heap.size w w' := by
  go_enter Tryz.func56, Tryz.ntmps56
  go_wp2
  go_loop [4] (fun i => ∃ k : Nat, k ≤ xss.length ∧ i = .int .i64 k ∧ Hid (litsB xss = litsB (xss.drop k))) (fun i => xss.length - (intOf i).toNat)
  case atStart => exact ⟨0, Nat.zero_le _, rfl, rfl⟩
  case round =>
    obtain ⟨k, hk, rfl, hl⟩ := hrel
    by_cases hlt : k < xss.length
    · obtain ⟨b, off, rfl, hc⟩ := hr.get (by omega)
      obtain ⟨h1, h2, hbi⟩ := hc k hlt
      have HD : Hid (litsB (xss.drop k) = ((xss.getD k []).all litB && litsB (xss.drop (k + 1)))) := by
        show _ = _
        rw [drop_get xss [] k hlt]; rfl
      clear hc hr
      generalize xss.getD k [] = xs at h1 h2 HD hbi
      have hcs := set_any (A k) (C k) xs w hbi h2
      cases hx : xs.all litB
      · rw [hx] at hcs
        have HF : Hid (litsB xss = false) := by show _ = _; rw [hl.out, HD.out, hx]; rfl
        have HCS := hide hcs
        clear hcs hx
        go_wp2_with (go_at_call 43; refine (unhide HCS).mono ?_; rintro e w' ⟨rfl, hw⟩; obtain rfl := hw.symm)
        go_ret2
        exact ⟨ret_empty _ (by simp [wrT, HF.out]) (by simp [wrE, HF.out]), Below.refl _ _⟩
      · rw [hx] at hcs
        have HX := hide hx
        have HCS := hide hcs
        clear hcs hx
        go_wp2_with (go_at_call 43; refine (unhide HCS).mono ?_; rintro e w' ⟨rfl, hw⟩; obtain rfl := hw.symm)
        go_round
        case rel => exact ⟨k + 1, by omega, by go_num, by show _ = _; rw [hl.out, HD.out, HX.out]; rfl⟩
        case measure => simp [intOf]; omega
    · have H0 : Hid (litsB xss = true) := by show _ = _; rw [hl.out, List.drop_eq_nil_of_le (by omega)]; rfl
      have HL : Hid (∀ k, k < xss.length → (xss.getD k []).all litB = true) := by
        intro k hk
        exact List.all_eq_true.1 H0.out (xss.getD k []) (by rw [List.getD_eq_getElem?_getD, List.getElem?_eq_getElem hk]; exact List.getElem_mem hk)
      clear hl
      go_wp2
      clear hlt hk
      go_loopw [7, 8] (fun s i wr => ∃ (k : Nat) (t : List UInt8), k ≤ xss.length ∧ i = .int .i64 k ∧ s = .string ⟨t.toArray⟩ ∧ Below w.heap.size w wr ∧ t.length ≤ 1000 ∧ Hid (t = textT (xss.take k))) (fun _ i _ => xss.length - (intOf i).toNat)
      case atStart => exact ⟨0, [], Nat.zero_le _, rfl, rfl, Below.refl _ _, by simp, rfl⟩
      case round =>
        obtain ⟨k, t, hk, rfl, rfl, hbel, hlen, heq⟩ := hrel
        by_cases hlt : k < xss.length
        · obtain ⟨b, off, rfl, hc⟩ := hr.get (by omega)
          obtain ⟨p1, q1, s1⟩ := hc k hlt
          have p2 : Hid (∀ wz, Below w.heap.size w wz → wz.cell? ⟨b, off + k, none⟩ = some (.slice (A k) (xss.getD k []).length (C k))) := fun wz hb => (hb.cell (p := ⟨b, off + k, none⟩) (World.block_lt_of_cell? w _ p1)).trans p1
          have hlx : Hid ((xss.getD k []).all litB = true) := HL.out k hlt
          have HS : Hid (textT (xss.take (k + 1)) = textT (xss.take k) ++ clauseT (xss.getD k [])) := textT_succ xss k hlt
          have HT : Hid ((textT (xss.take (k + 1))).length ≤ (textT xss).length) := textT_le xss (k + 1)
          clear hc p1 hr
          generalize xss.getD k [] = xs at p2 q1 s1 hlx HS
          generalize A k = ak at p2 q1
          generalize C k = ck at p2
          go_wp2
          go_loopw [7, 9] (fun s i wz => ∃ (j : Nat) (t' : List UInt8), j ≤ xs.length ∧ i = .int .i64 j ∧ s = .string ⟨t'.toArray⟩ ∧ Below w.heap.size w wz ∧ t'.length ≤ 1000 ∧ Hid (t' = t ++ litsT (xs.take j))) (fun _ i _ => xs.length - (intOf i).toNat)
          case atStart => exact ⟨0, t, Nat.zero_le _, rfl, rfl, hbel, hlen, by show _ = _; simp [litsT]⟩
          case round =>
            clear hbel hlen
            obtain ⟨j, t', hj, rfl, rfl, hbel, hlen, heq'⟩ := hrel
            have p3 := p2.out wr hbel
            by_cases hjl : j < xs.length
            · obtain ⟨b2, off2, rfl, hc2⟩ := (q1.below hbel).get (by omega)
              have r2 := hc2 j hjl
              have hx : litB (xs.getD j 0) = true := List.all_eq_true.1 hlx.out (xs.getD j 0) (by rw [List.getD_eq_getElem?_getD, List.getElem?_eq_getElem hjl]; exact List.getElem_mem hjl)
              have HS2 : Hid (litsT (xs.take (j + 1)) = litsT (xs.take j) ++ litT (xs.getD j 0)) := litsT_succ xs j hjl
              have HT2 : Hid ((litsT (xs.take (j + 1))).length ≤ (litsT xs).length) := litsT_le xs (j + 1)
              clear hc2
              generalize xs.getD j 0 = x at r2 hx HS2
              have HX := hide hx
              have hil := itoa_short hx
              have HA := hide (arr_lit t' x)
              have hl2 : (t' ++ litT x).length = t'.length + (Lib.itoa x).length + 1 := by simp [litT]; omega
              have HL2 := hide hl2
              clear hx hl2
              go_wp2_with (go_at_call 90; refine (digits_any _ HX.out _).mono ?_; rintro e w1 ⟨rfl, hg1⟩)
              · have hgt : 1000 < (t' ++ litT x).length := by have := HL2.out; omega
                have hlong : 1000 < (textT xss).length := by
                  have a1 := HS.out; have a2 := HT.out; have a3 := heq.out; have a4 := heq'.out; have a5 := HS2.out; have a6 := HT2.out
                  rw [a4, List.append_assoc, ← a5, List.length_append, a3] at hgt
                  rw [a1] at a2
                  simp only [clauseT, List.length_append] at a2
                  omega
                go_ret2
                exact ⟨ret_empty _ (by simp [wrT, H0.out, hlong]) (by simp [wrE, H0.out, hlong]), hbel.grown hg1 hbel.size (by simp)⟩
              · have hle : (t' ++ litT x).length ≤ 1000 := by have := HL2.out; omega
                go_roundw
                case rel => exact ⟨j + 1, t' ++ litT x, by omega, by go_num, congrArg Value.string HA.out, hbel.grown hg1 hbel.size (by simp), hle, by show _ = _; rw [heq'.out, HS2.out, List.append_assoc]⟩
                case measure => simp [intOf]; omega
            · have HF : Hid (litsT (xs.take j) = litsT xs) := by show _ = _; rw [List.take_of_length_le (by omega)]
              have HA : Hid ((⟨t'.toArray⟩ : ByteArray) ++ ⟨#[48, 10]⟩ = ⟨(t' ++ [48, 10]).toArray⟩) := arr_append t' [48, 10]
              have HT' : Hid (t' ++ [48, 10] = textT (xss.take (k + 1))) := by show _ = _; rw [heq'.out, HF.out, HS.out, heq.out, clauseT, List.append_assoc]
              have HL2 : Hid ((t' ++ [48, 10]).length = t'.length + 2) := by show _ = _; simp
              go_wp2
              · have hgt : 1000 < (t' ++ [48, 10]).length := by have := HL2.out; omega
                have hlong : 1000 < (textT xss).length := by rw [HT'.out] at hgt; have := HT.out; omega
                go_ret2
                exact ⟨ret_empty _ (by simp [wrT, H0.out, hlong]) (by simp [wrE, H0.out, hlong]), hbel⟩
              · have hle : (t' ++ [48, 10]).length ≤ 1000 := by have := HL2.out; omega
                go_roundw
                case rel => exact ⟨k + 1, t' ++ [48, 10], by omega, by go_num, congrArg Value.string HA.out, hbel, hle, HT'⟩
                case measure => simp [intOf]; omega
        · have HF : Hid (t = textT xss) := by show _ = _; rw [heq.out, List.take_of_length_le (by omega)]
          go_wp2
          go_ret2
          have hs : ¬ 1000 < (textT xss).length := by rw [← HF.out]; omega
          exact ⟨ret_text (by rw [HF.out]; simp [wrT, H0.out, hs]) (by simp [wrE, H0.out, hs]), hbel⟩

end Go.Proofs.YthboeppmlhbofaaGreatDoor
