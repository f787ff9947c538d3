/-
  trailkeep.sameLists: two lists of lists are compared.
-/
import Derived.Test.YthboeppmlhbofaaDoorLst
namespace Go.Proofs.YthboeppmlhbofaaDoor
open Go.RowKit Txt
set_option maxRecDepth 100000

set_option maxHeartbeats 2000000 in
theorem sameLists_any (a1 a2 : Option Addr) (c1 c2 : Nat) (A1 A2 : Nat → Option Addr) (C1 C2 : Nat → Nat) (xss yss : List (List Int)) (w : World)
    (hx : xss.length ≤ 9223372036854775807) (hr1 : RowsAt w a1 A1 C1 xss) (hr2 : RowsAt w a2 A2 C2 yss) :
    Calls Tryd.prog 9 #[.slice a1 xss.length c1, .slice a2 yss.length c2] w fun e w' => e = .returned (.bool (eqB xss yss)) ∧ ∃ m, w' = w.drewN m := by
  by_cases hlen : ¬ xss.length = yss.length
  · have hne : ((xss.length : Int) != (yss.length : Int)) = true := by rw [bne_iff_ne]; omega
    have H : Hid (eqB xss yss = false) := eqB_len _ _ hlen
    clear hlen
    go_enter Tryd.func9, Tryd.ntmps9
    go_wp2
    go_ret
    exact ⟨ret_bool H.out.symm, 0, rfl⟩
  have hne : ((xss.length : Int) != (yss.length : Int)) = false := by rw [bne_eq_false_iff_eq]; omega
  have hlen := Decidable.not_not.1 hlen
  have HL : Hid (xss.length = yss.length) := hlen
  clear hlen
  go_enter Tryd.func9, Tryd.ntmps9
  go_wp2
  go_loopw [5] (fun i wr => ∃ k m : Nat, k ≤ xss.length ∧ i = .int .i64 k ∧ Hid (eqB xss yss = eqB (xss.drop k) (yss.drop k)) ∧ wr = w.drewN m) (fun i _ => xss.length - (intOf i).toNat)
  case atStart => exact ⟨0, 0, Nat.zero_le _, rfl, rfl, rfl⟩
  case round =>
    obtain ⟨k, m, hk, rfl, hl, rfl⟩ := hrel
    by_cases hlt : k < xss.length
    · have hlt2 : k < yss.length := by have := HL.out; omega
      obtain ⟨b1, o1, rfl, hc1⟩ := hr1.get (by omega)
      obtain ⟨b2, o2, rfl, hc2⟩ := hr2.get (by omega)
      obtain ⟨p1, q1, s1⟩ := hc1 k hlt
      obtain ⟨p2, q2, s2⟩ := hc2 k hlt2
      have HD : Hid (eqB (xss.drop k) (yss.drop k) = (eqB (xss.getD k []) (yss.getD k []) && eqB (xss.drop (k + 1)) (yss.drop (k + 1)))) := eqB_drop xss yss [] k hlt hlt2
      clear hc1 hc2 hr1 hr2
      generalize xss.getD k [] = xs at p1 q1 s1 HD
      generalize yss.getD k [] = ys at p2 q2 s2 HD
      generalize A1 k = a1 at p1 q1
      generalize A2 k = a2 at p2 q2
      generalize C1 k = c1 at p1
      generalize C2 k = c2 at p2
      by_cases hlen : xs.length = ys.length
      · have hne2 : ((xs.length : Int) != (ys.length : Int)) = false := by rw [bne_eq_false_iff_eq]; omega
        have HM : Hid (xs.length = ys.length) := hlen
        clear hlen
        go_wp2
        go_quiet (fail)
        go_wp2
        go_loopw [6] (fun i wr => ∃ j m2 : Nat, j ≤ xs.length ∧ i = .int .i64 j ∧ Hid (eqB xs ys = eqB (xs.drop j) (ys.drop j)) ∧ wr = w.drewN m2) (fun i _ => xs.length - (intOf i).toNat)
        case atStart => exact ⟨0, _, Nat.zero_le _, rfl, rfl, World.drewN_drewN _ _ _⟩
        case round =>
          obtain ⟨j, m2, hj, rfl, hl2, rfl⟩ := hrel
          by_cases hjl : j < xs.length
          · have hjl2 : j < ys.length := by have := HM.out; omega
            obtain ⟨b3, o3, rfl, hc3⟩ := q1.get (by omega)
            obtain ⟨b4, o4, rfl, hc4⟩ := q2.get (by omega)
            have r3 := hc3 j hjl
            have r4 := hc4 j hjl2
            have HE : Hid (eqB (xs.drop j) (ys.drop j) = (eqB (xs.getD j 0) (ys.getD j 0) && eqB (xs.drop (j + 1)) (ys.drop (j + 1)))) := eqB_drop xs ys 0 j hjl hjl2
            clear hc3 hc4 q1 q2 hne2 hne
            generalize xs.getD j 0 = x at r3 HE
            generalize ys.getD j 0 = y at r4 HE
            cases hb : (x != y)
            · have H : Hid (eqB x y = true) := by show _ = _; rw [bne_eq_false_iff_eq] at hb; simp [eqB, hb]
              go_wp2
              go_quiet (fail)
              go_wp2
              go_roundw
              case rel => exact ⟨j + 1, _, by omega, by go_num, by show _ = _; rw [hl2.out, HE.out, H.out] <;> rfl, rfl⟩
              case measure => simp [intOf]; omega
            · have H : Hid (eqB x y = false) := by show _ = _; rw [bne_iff_ne] at hb; simp [eqB, hb]
              go_wp2
              go_quiet (fail)
              go_wp2
              go_ret
              exact ⟨ret_bool (by rw [hl.out, HD.out, hl2.out, HE.out, H.out] <;> rfl), _, World.drewN_drewN _ _ _⟩
          · have HE : Hid (eqB (xs.drop j) (ys.drop j) = true) := eqB_end _ _ _ (by omega) (by have := HM.out; omega)
            go_wp2
            go_roundw
            case rel => exact ⟨k + 1, m2, by omega, by go_num, by show _ = _; rw [hl.out, HD.out, hl2.out, HE.out] <;> rfl, rfl⟩
            case measure => simp [intOf]; omega
      · have hne2 : ((xs.length : Int) != (ys.length : Int)) = true := by rw [bne_iff_ne]; omega
        have H : Hid (eqB xs ys = false) := eqB_len _ _ hlen
        clear hlen
        go_wp2
        go_quiet (fail)
        go_wp2
        go_ret
        exact ⟨ret_bool (by rw [hl.out, HD.out, H.out] <;> rfl), _, World.drewN_drewN _ _ _⟩
    · have HE : Hid (eqB (xss.drop k) (yss.drop k) = true) := eqB_end _ _ _ (by omega) (by have := HL.out; omega)
      go_wp2
      go_ret
      exact ⟨ret_bool (by rw [hl.out, HE.out] <;> rfl), m, rfl⟩

end Go.Proofs.YthboeppmlhbofaaDoor
