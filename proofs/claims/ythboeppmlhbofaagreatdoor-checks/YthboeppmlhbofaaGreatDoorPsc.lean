/-
  pushing: visit, the walk.
-/
import Derived.Test.YthboeppmlhbofaaGreatDoorPsa
namespace Go.Proofs.YthboeppmlhbofaaGreatDoor
open Go.RowKit Txt
set_option maxRecDepth 100000

theorem visitN_ok {ns : List Nd} {kt kf : Nat} : ∀ (m a v : Nat) (op : Int) (s : PS), m + v = 11 → 1 ≤ v → (op = 0 ∨ litB op = true) → s.Ok → (visitN ns kt kf m a v op s).Ok := by
  intro m
  induction m with
  | zero =>
    intro a v op s _ _ ho hs
    simp only [visitN]
    split
    · exact hs
    · exact meetN_ok hs ho
  | succ m ih =>
    intro a v op s hm hv ho hs
    have hl1 : litB (v : Int) = true := by simp only [litB, Bool.and_eq_true, bne_iff_ne, decide_eq_true_eq]; omega
    have hl2 : litB (-(v : Int)) = true := by simp only [litB, Bool.and_eq_true, bne_iff_ne, decide_eq_true_eq]; omega
    have g := fun (a : Nat) (op : Int) (ho : op = 0 ∨ litB op = true) (s : PS) (hs : s.Ok) => ih a (v + 1) op s (by omega) (by omega) ho hs
    simp only [visitN]
    split
    · exact hs
    · have k1 : (if (ns.getD a nd0).n0 = 0 then s else visitN ns kt kf m (ns.getD a nd0).n0 (v + 1) op s).Ok := by
        split
        · exact hs
        · exact g _ _ ho _ hs
      generalize (if (ns.getD a nd0).n0 = 0 then s else visitN ns kt kf m (ns.getD a nd0).n0 (v + 1) op s) = s1 at *
      have k2 : (if (ns.getD a nd0).n1 = 0 then s1 else if hasB kt kf (-(v : Int)) then visitN ns kt kf m (ns.getD a nd0).n1 (v + 1) op s1 else if op = 0 ∧ hasB kt kf (v : Int) = false then visitN ns kt kf m (ns.getD a nd0).n1 (v + 1) (v : Int) s1 else s1).Ok := by
        split
        · exact k1
        · split
          · exact g _ _ ho _ k1
          · split
            · exact g _ _ (.inr hl1) _ k1
            · exact k1
      generalize (if (ns.getD a nd0).n1 = 0 then s1 else if hasB kt kf (-(v : Int)) then visitN ns kt kf m (ns.getD a nd0).n1 (v + 1) op s1 else if op = 0 ∧ hasB kt kf (v : Int) = false then visitN ns kt kf m (ns.getD a nd0).n1 (v + 1) (v : Int) s1 else s1) = s2 at *
      split
      · exact k2
      · split
        · exact g _ _ ho _ k2
        · split
          · exact g _ _ (.inr hl2) _ k2
          · exact k2

set_option maxHeartbeats 4000000 in
theorem visit_zero (ns : List Nd) (kt kf : Nat) : VisitAt ns kt kf 0 11 := by
  intro g na nc a op s w ha ho h
  cases hcl : s.cl with
  | true =>
    have H : Hid (Env w g na ns nc kt kf (visitN ns kt kf 0 a 11 op s)) := by show Env _ _ _ _ _ _ _ _; simp only [visitN, hcl, if_true]; exact h
    have c5 : w.cell? ⟨g, 5, none⟩ = some (.bool true) := (h.row.cell 5).trans (by simp [psCells, hcl])
    generalize visitN ns kt kf 0 a 11 op s = R at *
    clear h ho ha
    go_enter Tryz.func138, Tryz.ntmps138
    go_wp2
    (try simp only [Exit.inBlock, Exit.then])
    refine bodyPost_ret (results_none rfl _ _ _) rfl ?_
    exact ⟨rfl, H.out, grown_self w _⟩
  | false =>
    obtain ⟨b, rfl, hb, hn⟩ := h.nodes
    have c4 := hn a ha 4 _ rfl
    simp only [Nat.zero_add] at c4
    have HM := hide (meet_any g (some ⟨b, 0, none⟩) ns.length nc kt kf s (ns.getD a nd0).c op w h.row h.ok ho)
    have HE : Hid (visitN ns kt kf 0 a 11 op s = meetN (ns.getD a nd0).c op s) := by show _ = _; simp [visitN, hcl]
    have HO : Hid (meetN (ns.getD a nd0).c op s).Ok := meetN_ok h.ok ho
    have c5 : w.cell? ⟨g, 5, none⟩ = some (.bool false) := (h.row.cell 5).trans (by simp [psCells, hcl])
    have c0 : w.cell? ⟨g, 0, none⟩ = some (.slice (some ⟨b, 0, none⟩) ns.length nc) := (h.row.cell 0).trans rfl
    have H := hide h
    generalize visitN ns kt kf 0 a 11 op s = R at *
    generalize ns.getD a nd0 = d at *
    have i1 : (0 : Int) ≤ (a : Int) := by omega
    have i2 : (a : Int) < (ns.length : Int) := by omega
    clear h ho hn
    go_enter Tryz.func138, Tryz.ntmps138
    go_wp2_with fail
    refine (unhide HM).mono ?_
    rintro e w2 ⟨rfl, hr, hg⟩
    have HZ : Hid (Env w2 g (some ⟨b, 0, none⟩) ns nc kt kf R ∧ w.grownBy w2 (some g)) := ⟨by rw [HE.out]; exact H.out.grown hg hr HO.out, hg⟩
    clear hr hg
    go_wp2
    (try simp only [Exit.inBlock, Exit.then])
    refine bodyPost_ret (results_none rfl _ _ _) rfl ?_
    exact ⟨rfl, HZ.out.1, HZ.out.2⟩

/-- a pass in the midst: the place in hand, and the next ways beside it -/
structure Mid (w0 w : World) (g q : Nat) (na : Option Addr) (ns : List Nd) (nc kt kf : Nat) (d : Nd) (s : PS) : Prop where
  e : Env w g na ns nc kt kf s
  gr : w0.grownBy w (some g)
  nx : Row w q 156 [.int .i64 d.n0, .int .i64 d.n1, .int .i64 d.n2, .int .i64 d.n3]
  ne : q ≠ g
theorem Mid.next {w0 w w' : World} {g q : Nat} {na : Option Addr} {ns : List Nd} {nc kt kf : Nat} {d : Nd} {s s' : PS} (h : Mid w0 w g q na ns nc kt kf d s) (hE : Env w' g na ns nc kt kf s') (hg : w.grownBy w' (some g)) : Mid w0 w' g q na ns nc kt kf d s' :=
  ⟨hE, grownT h.gr hg, (hg.block q h.nx.lt (fun e => h.ne (Option.some.inj e))).trans h.nx, h.ne⟩

set_option maxHeartbeats 8000000 in
theorem visit_succ (ns : List Nd) (kt kf m v : Nat) (hw : Wf ns) (hmv : m + 1 + v = 11) (hv1 : 1 ≤ v) (hkt : kt < 2 ^ 11) (hkf : kf < 2 ^ 11) (IH : VisitAt ns kt kf m (v + 1)) : VisitAt ns kt kf (m + 1) v := by
  intro g na nc a op s w ha ho h
  obtain ⟨wf0, wf1, wf2, _⟩ := hw a ha
  cases hcl : s.cl with
  | true =>
    have H : Hid (Env w g na ns nc kt kf (visitN ns kt kf (m + 1) a v op s)) := by show Env _ _ _ _ _ _ _ _; simp only [visitN, hcl, if_true]; exact h
    have c5 : w.cell? ⟨g, 5, none⟩ = some (.bool true) := (h.row.cell 5).trans (by simp [psCells, hcl])
    generalize visitN ns kt kf (m + 1) a v op s = R at *
    clear h ho ha
    go_enter Tryz.func138, Tryz.ntmps138
    go_wp2
    (try simp only [Exit.inBlock, Exit.then])
    refine bodyPost_ret (results_none rfl _ _ _) rfl ?_
    exact ⟨rfl, H.out, grown_self w _⟩
  | false =>
    obtain ⟨b, rfl, hb, hn⟩ := h.nodes
    have c0' := hn a ha 0 _ rfl
    have c1' := hn a ha 1 _ rfl
    have c2' := hn a ha 2 _ rfl
    have c3' := hn a ha 3 _ rfl
    simp only [Nat.zero_add, Nat.add_zero] at c0' c1' c2' c3'
    have HE : Hid (visitN ns kt kf (m + 1) a v op s = (let s1 := if (ns.getD a nd0).n0 = 0 then s else visitN ns kt kf m (ns.getD a nd0).n0 (v + 1) op s
      let s2 := if (ns.getD a nd0).n1 = 0 then s1 else if hasB kt kf (-(v : Int)) then visitN ns kt kf m (ns.getD a nd0).n1 (v + 1) op s1 else if op = 0 ∧ hasB kt kf (v : Int) = false then visitN ns kt kf m (ns.getD a nd0).n1 (v + 1) (v : Int) s1 else s1
      if (ns.getD a nd0).n2 = 0 then s2 else if hasB kt kf (v : Int) then visitN ns kt kf m (ns.getD a nd0).n2 (v + 1) op s2 else if op = 0 ∧ hasB kt kf (-(v : Int)) = false then visitN ns kt kf m (ns.getD a nd0).n2 (v + 1) (-(v : Int)) s2 else s2)) := by
      show _ = _
      simp [visitN, hcl]
    have c5 : w.cell? ⟨g, 5, none⟩ = some (.bool false) := (h.row.cell 5).trans (by simp [psCells, hcl])
    have c0 : w.cell? ⟨g, 0, none⟩ = some (.slice (some ⟨b, 0, none⟩) ns.length nc) := (h.row.cell 0).trans rfl
    generalize hd : ns.getD a nd0 = d at *
    have HV : Hid (∀ a' s' w', a' < ns.length → Env w' g (some ⟨b, 0, none⟩) ns nc kt kf s' → Calls Tryz.prog 138 #[.pointer (some ⟨g, 0, none⟩), .int .i64 (a' : Nat), .int .i64 ((v : Int) + 1), .int .i64 op] w' (PSt w' g (some ⟨b, 0, none⟩) ns nc kt kf (visitN ns kt kf m a' (v + 1) op s'))) := fun a' s' w' q1 q2 => by
      have := IH g (some ⟨b, 0, none⟩) nc a' op s' w' q1 ho q2
      rwa [show ((v + 1 : Nat) : Int) = (v : Int) + 1 by omega] at this
    have HW : Hid (∀ a' x s' w', a' < ns.length → (x = (v : Int) ∨ x = -(v : Int)) → Env w' g (some ⟨b, 0, none⟩) ns nc kt kf s' → Calls Tryz.prog 148 #[.pointer (some ⟨g, 0, none⟩), .int .i64 (a' : Nat), .int .i64 v, .int .i64 x, .int .i64 op] w' (PSt w' g (some ⟨b, 0, none⟩) ns nc kt kf (if hasB kt kf (-x) then visitN ns kt kf m a' (v + 1) op s' else if op = 0 ∧ hasB kt kf x = false then visitN ns kt kf m a' (v + 1) x s' else s'))) := fun a' x s' w' q1 q2 q3 => visitWith_any ns kt kf m v hv1 (by omega) hkt hkf IH g (some ⟨b, 0, none⟩) nc a' x op q2 s' w' q1 ho q3
    have hlt : g < w.heap.size := h.row.lt
    have M0 : Hid (Mid w (w.alloc (.cells #[.int .i64 d.n0, .int .i64 d.n1, .int .i64 d.n2, .int .i64 d.n3] 156)) g w.heap.size (some ⟨b, 0, none⟩) ns nc kt kf d s) := ⟨h.below ((Below.refl _ _).alloc (Nat.le_refl _) _), grown_below _ ((Below.refl _ _).alloc (Nat.le_refl _) _), heap_alloc_new w _, by omega⟩
    generalize visitN ns kt kf (m + 1) a v op s = R at *
    have WF : Hid (d.n0 < ns.length ∧ d.n1 < ns.length ∧ d.n2 < ns.length) := ⟨wf0, wf1, wf2⟩
    have i1 : (0 : Int) ≤ (a : Int) := by omega
    have i2 : (a : Int) < (ns.length : Int) := by omega
    have hwn : IntKind.i64.wrap (-(v : Int)) = -(v : Int) := by rw [IntKind.wrap_i64]; omega
    have hv10 : v ≤ 10 := by omega
    clear h ho hn wf0 wf1 wf2 IH hw hd hcl
    have q0 : (((d.n0 : Nat) : Int) != 0) = !(decide (d.n0 = 0)) := by cases d.n0 <;> rfl
    have q1 : (((d.n1 : Nat) : Int) != 0) = !(decide (d.n1 = 0)) := by cases d.n1 <;> rfl
    have q2 : (((d.n2 : Nat) : Int) != 0) = !(decide (d.n2 = 0)) := by cases d.n2 <;> rfl
    have M := M0
    clear M0
    cases z0 : decide (d.n0 = 0) <;> cases z1 : decide (d.n1 = 0) <;> cases z2 : decide (d.n2 = 0)
    all_goals
      rw [z0] at q0
      rw [z1] at q1
      rw [z2] at q2
      simp only [Bool.not_true, Bool.not_false] at q0 q1 q2
      have Z := hide (And.intro z0 (And.intro z1 z2))
      clear z0 z1 z2
      go_enter Tryz.func138, Tryz.ntmps138
      go_wp2_with (first
        | (go_at_call 138; refine (unhide HV _ _ _ WF.out.1 M.out.e).mono ?_; rintro e wn ⟨rfl, hE, hg⟩; have M := hide (M.out.next hE hg); clear hE hg; have t1 : wn.cell? ⟨w.heap.size, 1, none⟩ = some (.int .i64 d.n1) := (M.out.nx.cell 1).trans rfl; have t2 : wn.cell? ⟨w.heap.size, 2, none⟩ = some (.int .i64 d.n2) := (M.out.nx.cell 2).trans rfl)
        | (go_at_call 148; refine (unhide HW _ _ _ _ (by first | exact WF.out.2.1 | exact WF.out.2.2) (by first | exact .inl rfl | exact .inr rfl) M.out.e).mono ?_; rintro e wn ⟨rfl, hE, hg⟩; have M := hide (M.out.next hE hg); clear hE hg; have t1 : wn.cell? ⟨w.heap.size, 1, none⟩ = some (.int .i64 d.n1) := (M.out.nx.cell 1).trans rfl; have t2 : wn.cell? ⟨w.heap.size, 2, none⟩ = some (.int .i64 d.n2) := (M.out.nx.cell 2).trans rfl))
      go_end0
      refine ⟨rfl, ?_, M.out.gr⟩
      obtain ⟨z0, z1, z2⟩ := Z.out
      simp only [decide_eq_true_eq, decide_eq_false_iff_not] at z0 z1 z2
      have HE2 := HE.out
      simp only [z0, z1, z2, ↓reduceIte] at HE2
      rw [HE2]
      first
        | exact M.out.e
        | (have := M.out.e; simp only [Int.neg_neg] at this; exact this)

theorem visit_any (ns : List Nd) (kt kf : Nat) (hw : Wf ns) (hkt : kt < 2 ^ 11) (hkf : kf < 2 ^ 11) : ∀ (m v : Nat), m + v = 11 → 1 ≤ v → VisitAt ns kt kf m v := by
  intro m
  induction m with
  | zero =>
    intro v hv _
    obtain rfl : v = 11 := by omega
    exact visit_zero ns kt kf
  | succ m ih =>
    intro v hv h1
    exact visit_succ ns kt kf m v hw hv h1 hkt hkf (ih (v + 1) (by omega) (by omega))

end Go.Proofs.YthboeppmlhbofaaGreatDoor
