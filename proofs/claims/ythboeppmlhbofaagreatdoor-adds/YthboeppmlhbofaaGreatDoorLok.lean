/-
  traillaw's looks and small things: the walks.
-/
import Derived.Test.YthboeppmlhbofaaGreatDoorKep
namespace Go.Proofs.YthboeppmlhbofaaGreatDoor
open Go.RowKit Txt
set_option maxRecDepth 100000

/-- an owned list of lists, at an index -/
theorem lists_at {w : World} {B n c k : Nat} {a : Option Addr} {vs : List Value} {cs : List (List Int)} (ht : w.ownsRow B 24 1 (.slice a n c) n vs) (he : AllOwn w B 3 vs cs) (hk : k < cs.length) :
    ∃ g au cu, a = some ⟨g, 0, none⟩ ∧ w.cell? ⟨g, k, none⟩ = some (.slice au (cs.getD k []).length cu) ∧ IntsAt w au (cs.getD k []) := by
  obtain ⟨u, h1, h2⟩ := he.at k hk
  obtain ⟨au, cu, rfl, h3⟩ := own_list (cs.getD k []) rfl rfl h2
  have hl := he.length
  rcases ht.2 with ⟨_, h0⟩ | ⟨g, cap, cur, hv, _⟩
  · have := ht.1; omega
  · simp only [Value.slice.injEq] at hv
    obtain ⟨rfl, _, rfl⟩ := hv
    have h4 := ht.cells (g := g) rfl k _ h1
    rw [addr0, Nat.zero_add] at h4
    exact ⟨g, au, cu, rfl, h4, own_intsAt h3⟩

set_option maxHeartbeats 2000000 in
theorem looks_any (Wb B n : Nat) (V : WV) (s : St) (w : World) (h : WI w Wb B V s) (hbd : Bd n s) (hn : n ≤ 20000) :
    Calls Tryz.prog 13 #[.pointer (some ⟨Wb, 0, none⟩)] w fun e w' => e = .returned (.bool true) ∧ ∃ m, w' = w.drewN m := by
  have hlen : s.outs.length = s.want.length := by rw [hbd.same]
  have hol := hbd.outs
  have ho1 := hbd.out1
  have H := hide h
  have HS := hide hbd.same
  have HO1 := hide ho1
  have HLN := hide hlen
  clear h hbd ho1 hlen
  go_enter Tryz.func13, Tryz.ntmps13
  go_wp2
  go_loopw [3] (fun i wr => ∃ k m : Nat, k ≤ s.outs.length ∧ i = .int .i64 k ∧ Hid (wr = w.drewN m)) (fun i _ => s.outs.length - (intOf i).toNat)
  case atStart => exact ⟨0, 0, Nat.zero_le _, rfl, rfl⟩
  case round =>
    obtain ⟨k, m, hk, rfl, HW⟩ := hrel
    have Hr : Hid (WI wr Wb B V s) := by show WI _ _ _ _ _; rw [HW.out]; exact H.out.below (below_drew_size _ _)
    have k4 : wr.cell? ⟨Wb, 4, none⟩ = some (.slice V.ao s.outs.length V.co) := (Hr.out.blk.cell 4).trans rfl
    have k5 : wr.cell? ⟨Wb, 5, none⟩ = some (.slice V.aw s.want.length V.cw) := (Hr.out.blk.cell 5).trans rfl
    by_cases hlt : k < s.outs.length
    · obtain ⟨g1, a1, c1, e1, p1, q1⟩ := lists_at Hr.out.ot Hr.out.oe hlt
      obtain ⟨g2, a2, c2, e2, p2, q2⟩ := lists_at Hr.out.wt Hr.out.we (show k < s.want.length by have := HLN.out; omega)
      rw [e1] at k4
      rw [e2] at k5
      have hlx : (s.outs.getD k []).length ≤ 5000002 := HO1.out _ (by rw [List.getD_eq_getElem?_getD, List.getElem?_eq_getElem hlt]; exact List.getElem_mem hlt)
      rw [← HS.out] at p2 q2
      clear e1 e2
      generalize s.outs.getD k [] = xs at p1 q1 p2 q2 hlx
      have hcs : ∀ n, Calls Tryz.prog 23 #[.slice a1 xs.length c1, .slice a2 xs.length c2] (wr.drewN n) fun e w' => e = .returned (.bool true) ∧ ∃ m', w' = (wr.drewN n).drewN m' := fun n => by
        have := sameInts_any a1 a2 c1 c2 xs xs (wr.drewN n) (by omega) (q1.kept fun _ _ _ h => h) (q2.kept fun _ _ _ h => h)
        rwa [show eqB xs xs = true by simp [eqB]] at this
      have HCS := hide hcs
      have hlw : k < s.want.length := by have := HLN.out; omega
      clear hcs q1 q2
      have hi1 : (0 : Int) ≤ (k : Int) := by omega
      have hi2 : (k : Int) < (s.outs.length : Int) := by omega
      have hi3 : (k : Int) < (s.want.length : Int) := by omega
      go_wp2
      go_quiet ((go_at_call 23; exact Calls.quiet_of (unhide HCS _)))
      go_wp2
      go_roundw
      case rel => exact ⟨k + 1, _, by omega, by go_num, by show _ = _; rw [HW.out]; exact World.drewN_drewN _ _ _⟩
      case measure => simp [intOf]; omega
    · go_wp2
      go_ret
      exact ⟨rfl, m, HW.out⟩

end Go.Proofs.YthboeppmlhbofaaGreatDoor
