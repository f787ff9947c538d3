/-
  pushing: sets, ways; what a pass meets.
-/
import Derived.Test.YthboeppmlhbofaaGreatDoorApn
namespace Go.Proofs.YthboeppmlhbofaaGreatDoor
open Go.RowKit Txt
set_option maxRecDepth 100000

def hasB (t f : Nat) (x : Int) : Bool := (t &&& bitP x != 0) || (f &&& bitP (-x) != 0)
theorem nat_ne (z : Nat) : (((z : Nat) : Int) != 0) = (z != 0) := by cases z <;> rfl

set_option maxHeartbeats 2000000 in
theorem has_any (t f : Nat) (x : Int) (ht : t < 2 ^ 11) (hf : f < 2 ^ 11) (h1 : -10 ≤ x) (h2 : x ≤ 10) (w : World) :
    Calls Tryz.prog 126 #[.agg #[.int .i64 t, .int .i64 f], .int .i64 x] w fun e w' => e = .returned (.bool (hasB t f x)) ∧ Below w.heap.size w w' := by
  have HBIT : Hid (∀ y w, Calls Tryz.prog 95 #[.int .i64 y] w fun e w' => e = .returned (.int .i64 (bitP y : Nat)) ∧ w' = w) := fun y w => lbitP_any y w
  have b1 := bitP_lt x
  have b2 := bitP_lt (-x)
  have a1 := and64 t (bitP x) (by omega) (by omega)
  have a2 := and64 f (bitP (-x)) (by omega) (by omega)
  have hwn : IntKind.i64.wrap (-x) = -x := by rw [IntKind.wrap_i64]; omega
  have HN : Hid (∀ x n, Below w.heap.size w ((w.alloc x).drewN n)) := fun x n => below_drewN ((Below.refl _ _).alloc (Nat.le_refl _) _) n
  have n1 := nat_ne (t &&& bitP x)
  have n2 := nat_ne (f &&& bitP (-x))
  unfold hasB
  generalize t &&& bitP x = z1 at *
  generalize f &&& bitP (-x) = z2 at *
  cases hz : (z1 != 0) with
  | true =>
    rw [hz] at n1
    clear n2
    go_enter Tryz.func126, Tryz.ntmps126
    go_wp2
    go_quiet ((go_at_call 95; exact Calls.quiet_of_same (unhide HBIT _ _)))
    go_wp2
    go_ret
    exact ⟨rfl, HN.out _ _⟩
  | false =>
    rw [hz] at n1
    have HZ := hide n2
    clear n2
    go_enter Tryz.func126, Tryz.ntmps126
    go_wp2
    go_quiet ((go_at_call 95; exact Calls.quiet_of_same (unhide HBIT _ _)))
    go_wp2
    go_ret
    refine ⟨?_, HN.out _ _⟩
    rw [Bool.false_or, ← HZ.out]
    rfl

theorem opp_ret {w' : World} {tmps : Array Value} {g : Nat} {p q : Value} (hr : Row w' g 101 [p, q]) (h2 : tmps.getD 2 undef = .pointer (some ⟨g, 0, none⟩)) :
    (results Tryz.f141 tmps).run Tryz.prog w' = .ok (.agg #[p, q]) w' := by
  obtain ⟨fs, hu⟩ := setType
  exact results_cell_row rfl tmps w' g 101 #[p, q] (0, 0) (.struct fs) h2 hr hu rfl setSize
set_option maxHeartbeats 2000000 in
theorem lopp_any (t f : Nat) (w : World) :
    Calls Tryz.prog 141 #[.agg #[.int .i64 t, .int .i64 f]] w fun e w' => e = .returned (.agg #[.int .i64 f, .int .i64 t]) ∧ Below w.heap.size w w' := by
  have R9 : Hid (Row ((w.alloc (.cells #[.int .i64 t, .int .i64 f] 101)).alloc (.cells #[.int .i64 f, .int .i64 t] 101)) (w.heap.size + 1) 101 [.int .i64 f, .int .i64 t]) := heap_alloc2_new w _ _
  have HB : Hid (∀ x y, Below w.heap.size w ((w.alloc x).alloc y)) := fun x y => ((Below.refl _ _).alloc (Nat.le_refl _) _).alloc (by simp) _
  go_enter Tryz.func141, Tryz.ntmps141
  go_wp2
  exact bodyPost_ret (v := .agg #[.int .i64 f, .int .i64 t]) (opp_ret R9.out rfl) rfl ⟨rfl, HB.out _ _⟩

/-- the way in which a set has a variable -/
def wayN (t f : Nat) (v : Int) : Nat := (hasB t f v).toNat + 2 * (hasB t f (-v)).toNat
theorem wayN_lt (t f : Nat) (v : Int) : wayN t f v < 4 := by
  unfold wayN
  have h1 := Bool.toNat_le (hasB t f v)
  have h2 := Bool.toNat_le (hasB t f (-v))
  omega
set_option maxHeartbeats 2000000 in
theorem way_any (t f : Nat) (v : Int) (ht : t < 2 ^ 11) (hf : f < 2 ^ 11) (h1 : 1 ≤ v) (h2 : v ≤ 10) (w : World) :
    Calls Tryz.prog 119 #[.agg #[.int .i64 t, .int .i64 f], .int .i64 v] w fun e w' => e = .returned (.int .i64 (wayN t f v : Nat)) ∧ Below w.heap.size w w' := by
  have HH : Hid (∀ x w, -10 ≤ x → x ≤ 10 → Calls Tryz.prog 126 #[.agg #[.int .i64 t, .int .i64 f], .int .i64 x] w fun e w' => e = .returned (.bool (hasB t f x)) ∧ Below w.heap.size w w') := fun x w q1 q2 => has_any t f x ht hf q1 q2 w
  have hwn : IntKind.i64.wrap (-v) = -v := by rw [IntKind.wrap_i64]; omega
  have HN : Hid (∀ x, Below w.heap.size w (w.alloc x)) := fun x => (Below.refl _ _).alloc (Nat.le_refl _) _
  have m0 := new_cells1 w [.int .i64 (t : Nat), .int .i64 (f : Nat)] 101 0 _ rfl
  have m1 := new_cells1 w [.int .i64 (t : Nat), .int .i64 (f : Nat)] 101 1 _ rfl
  rw [addr0] at m0 m1
  simp only [Nat.zero_add] at m0 m1
  have e3 : w.heap.size < (w.alloc (.cells #[.int .i64 (t : Nat), .int .i64 (f : Nat)] 101)).heap.size := by simp
  unfold wayN
  go_enter Tryz.func119, Tryz.ntmps119
  go_wp2_with fail
  refine (unhide HH v _ (by omega) (by omega)).mono ?_
  have hb1 := HN.out (.cells #[.int .i64 (t : Nat), .int .i64 (f : Nat)] 101)
  generalize w.alloc (.cells #[.int .i64 (t : Nat), .int .i64 (f : Nat)] 101) = w1 at *
  rintro e w2 ⟨rfl, hb2⟩
  have k0 := (hb2.cell (p := ⟨w.heap.size, 0, none⟩) e3).trans m0
  have k1 := (hb2.cell (p := ⟨w.heap.size, 1, none⟩) e3).trans m1
  have HB2 : Hid (Below w.heap.size w w2) := hb1.trans (hb2.mono (Nat.le_of_lt e3))
  clear m0 m1 hb1 hb2 HN
  cases hq1 : hasB t f v with
  | false =>
    go_wp2_with fail
    refine (unhide HH (-v) _ (by omega) (by omega)).mono ?_
    rintro e w3 ⟨rfl, hb3⟩
    have HB3 : Hid (Below w.heap.size w w3) := HB2.out.trans (hb3.mono HB2.out.size)
    clear hb3
    cases hq2 : hasB t f (-v) with
    | false =>
      go_wp2
      go_ret
      exact ⟨by rw [hq1, hq2]; rfl, HB3.out⟩
    | true =>
      go_wp2
      go_ret
      exact ⟨by rw [hq1, hq2]; rfl, HB3.out⟩
  | true =>
    go_wp2_with fail
    refine (unhide HH (-v) _ (by omega) (by omega)).mono ?_
    rintro e w3 ⟨rfl, hb3⟩
    have HB3 : Hid (Below w.heap.size w w3) := HB2.out.trans (hb3.mono HB2.out.size)
    clear hb3
    cases hq2 : hasB t f (-v) with
    | false =>
      go_wp2
      go_ret
      exact ⟨by rw [hq1, hq2]; rfl, HB3.out⟩
    | true =>
      go_wp2
      go_ret
      exact ⟨by rw [hq1, hq2]; rfl, HB3.out⟩

/-- a pass: what is grown, and whether there is a clash -/
structure PS where
  gt : Nat
  gf : Nat
  cl : Bool
def PS.Ok (s : PS) : Prop := s.gt < 2 ^ 11 ∧ s.gf < 2 ^ 11
def psCells (na : Option Addr) (n nc : Nat) (kt kf : Nat) (s : PS) : List Value := [.slice na n nc, .int .i64 kt, .int .i64 kf, .int .i64 s.gt, .int .i64 s.gf, .bool s.cl]
def meetN (copies : Nat) (op : Int) (s : PS) : PS := if copies = 0 then s else if op = 0 then { s with cl := true } else ⟨s.gt ||| posB op, s.gf ||| negB op, s.cl⟩
theorem meetN_ok {copies : Nat} {op : Int} {s : PS} (h : s.Ok) (ho : op = 0 ∨ litB op = true) : (meetN copies op s).Ok := by
  unfold meetN
  split
  · exact h
  · split
    · exact h
    · rcases ho with ho | ho
      · contradiction
      · exact ⟨Nat.or_lt_two_pow h.1 ((bitP_pos ho) ▸ bitP_lt op), Nat.or_lt_two_pow h.2 ((bitP_neg ho) ▸ bitP_lt (-op))⟩

set_option maxHeartbeats 4000000 in
theorem meet_any (g : Nat) (na : Option Addr) (n nc kt kf : Nat) (s : PS) (copies : Nat) (op : Int) (w : World) (hr : Row w g 175 (psCells na n nc kt kf s)) (hs : s.Ok) (ho : op = 0 ∨ litB op = true) :
    Calls Tryz.prog 147 #[.pointer (some ⟨g, 0, none⟩), .int .i64 copies, .int .i64 op] w fun e w' => e = .returned (.tuple #[]) ∧ Row w' g 175 (psCells na n nc kt kf (meetN copies op s)) ∧ w.grownBy w' (some g) := by
  by_cases h0 : copies = 0
  · subst h0
    have HR := hide hr
    clear hr
    go_enter Tryz.func147, Tryz.ntmps147
    go_wp2
    (try simp only [Exit.inBlock, Exit.then])
    refine bodyPost_ret (results_none rfl _ _ _) rfl ?_
    exact ⟨rfl, HR.out, grown_self w _⟩
  · have hci : (((copies : Nat) : Int) == 0) = false := by simp; exact h0
    by_cases h1 : op = 0
    · subst h1
      have c5 : w.cell? ⟨g, 5, none⟩ = some (.bool s.cl) := (hr.cell 5).trans rfl
      have z5 := hr.frozen 5
      have HR := hide hr
      have HE : Hid (meetN copies 0 s = { s with cl := true }) := by show _ = _; simp [meetN, h0]
      clear hr
      go_enter Tryz.func147, Tryz.ntmps147
      go_wp2
      (try simp only [Exit.inBlock, Exit.then])
      refine bodyPost_ret (results_none rfl _ _ _) rfl ?_
      refine ⟨rfl, ?_, grown_set (grown_self w _)⟩
      rw [HE.out]
      exact HR.out.set 5 _
    · have hl : litB op = true := ho.resolve_left h1
      have HW : Hid (∀ w, Calls Tryz.prog 94 #[.agg #[.int .i64 s.gt, .int .i64 s.gf], .int .i64 op] w fun e w' => e = .returned (.agg #[.int .i64 (s.gt ||| posB op : Nat), .int .i64 (s.gf ||| negB op : Nat)]) ∧ Below w.heap.size w w') := fun w => with_any s.gt s.gf op hs.1 hs.2 hl w
      have HE : Hid (meetN copies op s = ⟨s.gt ||| posB op, s.gf ||| negB op, s.cl⟩) := by show _ = _; simp [meetN, h0, h1]
      have c3 : w.cell? ⟨g, 3, none⟩ = some (.int .i64 s.gt) := (hr.cell 3).trans rfl
      have c4 : w.cell? ⟨g, 4, none⟩ = some (.int .i64 s.gf) := (hr.cell 4).trans rfl
      have HR := hide hr
      clear hr ho hl
      go_enter Tryz.func147, Tryz.ntmps147
      go_wp2_with fail
      refine (unhide HW _).mono ?_
      rintro e w2 ⟨rfl, hb2⟩
      have R2 := hide (row_below HR.out hb2)
      have y3 : w2.cell? ⟨g, 3, none⟩ = some (.int .i64 s.gt) := (R2.out.cell 3).trans rfl
      have y4 : w2.cell? ⟨g, 4, none⟩ = some (.int .i64 s.gf) := (R2.out.cell 4).trans rfl
      have z3 := R2.out.frozen 3
      have z4 := R2.out.frozen 4
      have HB2 := hide hb2
      clear hb2 c3 c4
      go_wp2
      go_end0
      refine ⟨rfl, ?_, ?_⟩
      · rw [HE.out]
        exact (R2.out.set 3 _).set 4 _
      · have hg : w.grownBy w2 (some g) := ⟨HB2.out.os, HB2.out.tape, HB2.out.output, HB2.out.size, fun k hk _ => HB2.out.block k hk⟩
        exact grown_set (grown_set hg)

end Go.Proofs.YthboeppmlhbofaaGreatDoor

/-
  pushing: a pass over the tree.
-/
namespace Go.Proofs.YthboeppmlhbofaaGreatDoor
open Go.RowKit Txt
set_option maxRecDepth 100000

/-- a node: where the four ways lead, and how often its clause stands there -/
structure Nd where
  n0 : Nat
  n1 : Nat
  n2 : Nat
  n3 : Nat
  c : Nat
def nd0 : Nd := ⟨0, 0, 0, 0, 0⟩
def Nd.cells (d : Nd) : List Value := [.int .i64 d.n0, .int .i64 d.n1, .int .i64 d.n2, .int .i64 d.n3, .int .i64 d.c]
def ndCells (ns : List Nd) : List Value := ns.flatMap Nd.cells
theorem ndCells_at (l : List Nd) : ∀ (j : Nat), j < l.length → ∀ i v, (l.getD j nd0).cells[i]? = some v → (ndCells l)[j * 5 + i]? = some v := by
  induction l with
  | nil => intro j hj; simp at hj
  | cons p l ih =>
    intro j hj i v hv
    have e : ndCells (p :: l) = p.cells ++ ndCells l := by simp [ndCells]
    have hl : p.cells.length = 5 := rfl
    rw [e]
    cases j with
    | zero =>
      simp only [List.getD_cons_zero] at hv
      have hi : i < p.cells.length := (List.getElem?_eq_some_iff.1 hv).1
      rw [Nat.zero_mul, Nat.zero_add, List.getElem?_append_left hi]
      exact hv
    | succ j =>
      simp only [List.getD_cons_succ] at hv
      rw [List.getElem?_append_right (by rw [hl]; omega), hl, show (j + 1) * 5 + i - 5 = j * 5 + i by omega]
      exact ih j (by simpa using hj) i v hv
def NodesAt (w : World) (a : Option Addr) (ns : List Nd) : Prop :=
  ∃ b, a = some ⟨b, 0, none⟩ ∧ b < w.heap.size ∧ ∀ j, j < ns.length → ∀ i v, (ns.getD j nd0).cells[i]? = some v → w.cell? ⟨b, 0 + j * 5 + i, none⟩ = some v
theorem NodesAt.frame {w w' : World} {a : Option Addr} {ns : List Nd} (h : NodesAt w a ns) (hz : w.heap.size ≤ w'.heap.size) (hk : ∀ g, a = some g → w'.heap[g.block]? = w.heap[g.block]?) : NodesAt w' a ns := by
  obtain ⟨b, rfl, hb, h⟩ := h
  exact ⟨b, rfl, by omega, fun j hj i v hv => (World.cell?_of_block (a := ⟨b, 0 + j * 5 + i, none⟩) (hk ⟨b, 0, none⟩ rfl)).trans (h j hj i v hv)⟩
theorem nodes_own {w : World} {B c : Nat} {a : Option Addr} {l : List Nd} (h : w.ownsRow B 158 5 (.slice a l.length c) l.length (ndCells l)) (hp : 0 < l.length) : NodesAt w a l := by
  rcases h.2 with ⟨_, h0⟩ | ⟨g, cap, cur, hv, _⟩
  · omega
  · simp only [Value.slice.injEq] at hv
    obtain ⟨rfl, _, rfl⟩ := hv
    refine ⟨g, rfl, (h.lt g rfl).2, fun j hj i v hv => ?_⟩
    have h4 := h.cells (g := g) rfl (j * 5 + i) v (ndCells_at l j hj i v hv)
    rw [addr0] at h4
    rw [Nat.add_assoc]
    exact h4

/-- all ways lead to nodes -/
def Wf (ns : List Nd) : Prop := ∀ j, j < ns.length → (ns.getD j nd0).n0 < ns.length ∧ (ns.getD j nd0).n1 < ns.length ∧ (ns.getD j nd0).n2 < ns.length ∧ (ns.getD j nd0).n3 < ns.length

/-- a pass, from a node on -/
def visitN (ns : List Nd) (kt kf : Nat) : Nat → Nat → Nat → Int → PS → PS
  | 0, a, _, op, s => if s.cl then s else meetN (ns.getD a nd0).c op s
  | m + 1, a, v, op, s =>
    if s.cl then s else
      let s1 := if (ns.getD a nd0).n0 = 0 then s else visitN ns kt kf m (ns.getD a nd0).n0 (v + 1) op s
      let s2 := if (ns.getD a nd0).n1 = 0 then s1 else if hasB kt kf (-(v : Int)) then visitN ns kt kf m (ns.getD a nd0).n1 (v + 1) op s1 else if op = 0 ∧ hasB kt kf (v : Int) = false then visitN ns kt kf m (ns.getD a nd0).n1 (v + 1) (v : Int) s1 else s1
      if (ns.getD a nd0).n2 = 0 then s2 else if hasB kt kf (v : Int) then visitN ns kt kf m (ns.getD a nd0).n2 (v + 1) op s2 else if op = 0 ∧ hasB kt kf (-(v : Int)) = false then visitN ns kt kf m (ns.getD a nd0).n2 (v + 1) (-(v : Int)) s2 else s2

structure Env (w : World) (g : Nat) (na : Option Addr) (ns : List Nd) (nc kt kf : Nat) (s : PS) : Prop where
  row : Row w g 175 (psCells na ns.length nc kt kf s)
  nodes : NodesAt w na ns
  ne : ∀ b, na = some b → b.block ≠ g
  ok : s.Ok
def PSt (w : World) (g : Nat) (na : Option Addr) (ns : List Nd) (nc kt kf : Nat) (s : PS) (e : Ending) (w' : World) : Prop := e = .returned (.tuple #[]) ∧ Env w' g na ns nc kt kf s ∧ w.grownBy w' (some g)
theorem grown_below {w w' : World} (g : Option Nat) (h : Below w.heap.size w w') : w.grownBy w' g := ⟨h.os, h.tape, h.output, h.size, fun k hk _ => h.block k hk⟩
theorem grownT {w w1 w2 : World} {g : Option Nat} (h : w.grownBy w1 g) (h' : w1.grownBy w2 g) : w.grownBy w2 g := ⟨h'.os.trans h.os, h'.tape.trans h.tape, h'.output.trans h.output, Nat.le_trans h.size h'.size, fun k hk hn => (h'.block k (Nat.lt_of_lt_of_le hk h.size) hn).trans (h.block k hk hn)⟩
theorem Env.grown {w w' : World} {g : Nat} {na : Option Addr} {ns : List Nd} {nc kt kf : Nat} {s s' : PS} (h : Env w g na ns nc kt kf s) (hg : w.grownBy w' (some g)) (hr : Row w' g 175 (psCells na ns.length nc kt kf s')) (ho : s'.Ok) : Env w' g na ns nc kt kf s' :=
  ⟨hr, h.nodes.frame hg.size (fun b e => hg.block _ (by obtain ⟨b', e', hb, _⟩ := h.nodes; rw [e'] at e; cases e; exact hb) (fun e' => h.ne b e (Option.some.inj e'))), h.ne, ho⟩
theorem Env.below {w w' : World} {g : Nat} {na : Option Addr} {ns : List Nd} {nc kt kf : Nat} {s : PS} (h : Env w g na ns nc kt kf s) (hb : Below w.heap.size w w') : Env w' g na ns nc kt kf s := h.grown (grown_below _ hb) (row_below h.row hb) h.ok

/-- the contract of visit at v -/
def VisitAt (ns : List Nd) (kt kf m v : Nat) : Prop := ∀ (g : Nat) (na : Option Addr) (nc a : Nat) (op : Int) (s : PS) (w : World), a < ns.length → (op = 0 ∨ litB op = true) → Env w g na ns nc kt kf s →
  Calls Tryz.prog 138 #[.pointer (some ⟨g, 0, none⟩), .int .i64 a, .int .i64 v, .int .i64 op] w (PSt w g na ns nc kt kf (visitN ns kt kf m a v op s))

set_option maxHeartbeats 4000000 in
theorem visitWith_any (ns : List Nd) (kt kf m v : Nat) (hv1 : 1 ≤ v) (hv2 : v ≤ 10) (hkt : kt < 2 ^ 11) (hkf : kf < 2 ^ 11) (HV : Hid (VisitAt ns kt kf m (v + 1))) (g : Nat) (na : Option Addr) (nc a : Nat) (x op : Int) (hx : x = v ∨ x = -(v : Int)) (s : PS) (w : World) (ha : a < ns.length) (ho : op = 0 ∨ litB op = true) (h : Env w g na ns nc kt kf s) :
    Calls Tryz.prog 148 #[.pointer (some ⟨g, 0, none⟩), .int .i64 a, .int .i64 v, .int .i64 x, .int .i64 op] w (PSt w g na ns nc kt kf (if hasB kt kf (-x) then visitN ns kt kf m a (v + 1) op s else if op = 0 ∧ hasB kt kf x = false then visitN ns kt kf m a (v + 1) x s else s)) := by
  generalize hR : (if hasB kt kf (-x) then visitN ns kt kf m a (v + 1) op s else if op = 0 ∧ hasB kt kf x = false then visitN ns kt kf m a (v + 1) x s else s) = R
  have HRR := hide hR
  clear hR
  have HH : Hid (∀ y w, -10 ≤ y → y ≤ 10 → Calls Tryz.prog 126 #[.agg #[.int .i64 kt, .int .i64 kf], .int .i64 y] w fun e w' => e = .returned (.bool (hasB kt kf y)) ∧ Below w.heap.size w w') := fun x w q1 q2 => has_any kt kf x hkt hkf q1 q2 w
  have hlx : Hid (x = 0 ∨ litB x = true) := by
    right
    simp only [litB, Bool.and_eq_true, bne_iff_ne, decide_eq_true_eq]
    rcases hx with rfl | rfl <;> omega
  have hx1 : -10 ≤ x := by rcases hx with rfl | rfl <;> omega
  have hx2 : x ≤ 10 := by rcases hx with rfl | rfl <;> omega
  have hwn : IntKind.i64.wrap (-x) = -x := by rw [IntKind.wrap_i64]; omega
  have HA := hide ha
  have HO := hide ho
  have H := hide h
  have c1 : w.cell? ⟨g, 1, none⟩ = some (.int .i64 kt) := (h.row.cell 1).trans rfl
  have c2 : w.cell? ⟨g, 2, none⟩ = some (.int .i64 kf) := (h.row.cell 2).trans rfl
  clear h ha ho hx
  go_enter Tryz.func148, Tryz.ntmps148
  go_wp2_with fail
  refine (unhide HH (-x) _ (by omega) (by omega)).mono ?_
  rintro e w2 ⟨rfl, hb2⟩
  have H2 := hide (H.out.below hb2)
  have G2 := hide (grown_below (some g) hb2)
  have y1 : w2.cell? ⟨g, 1, none⟩ = some (.int .i64 kt) := (H2.out.row.cell 1).trans rfl
  have y2 : w2.cell? ⟨g, 2, none⟩ = some (.int .i64 kf) := (H2.out.row.cell 2).trans rfl
  clear hb2 c1 c2
  have ev : ((v : Int) + 1) = ((v + 1 : Nat) : Int) := by omega
  cases hq1 : hasB kt kf (-x) with
  | true =>
    have HC := hide (HV.out g na nc a op s w2 HA.out HO.out H2.out)
    rw [← ev] at HC
    clear ev
    go_wp2_with fail
    refine (unhide HC).mono ?_
    rintro e w3 ⟨rfl, hE, hg⟩
    have HZ : Hid (Env w3 g na ns nc kt kf (visitN ns kt kf m a (v + 1) op s) ∧ w.grownBy w3 (some g)) := ⟨hE, grownT G2.out hg⟩
    clear hE hg
    go_wp2
    (try simp only [Exit.inBlock, Exit.then])
    refine bodyPost_ret (results_none rfl _ _ _) rfl ?_
    exact ⟨rfl, by rw [← HRR.out, hq1]; exact HZ.out.1, HZ.out.2⟩
  | false =>
    by_cases h0 : op = 0
    · subst h0
      have hw2 := fun (hf : Bool) => hf
      clear hw2
      go_wp2_with fail
      refine (unhide HH x _ (by omega) (by omega)).mono ?_
      rintro e w3 ⟨rfl, hb3⟩
      have H3 := hide (H2.out.below hb3)
      have G3 : Hid (w.grownBy w3 (some g)) := grownT G2.out (grown_below _ hb3)
      clear hb3 y1 y2
      cases hq2 : hasB kt kf x with
      | true =>
        clear ev
        go_wp2
        go_end0
        exact ⟨rfl, by rw [← HRR.out, hq1, hq2]; simpa using H3.out, G3.out⟩
      | false =>
        have HC := hide (HV.out g na nc a x s w3 HA.out hlx.out H3.out)
        rw [← ev] at HC
        clear ev
        go_wp2_with fail
        refine (unhide HC).mono ?_
        rintro e w4 ⟨rfl, hE, hg⟩
        have HZ : Hid (Env w4 g na ns nc kt kf (visitN ns kt kf m a (v + 1) x s) ∧ w.grownBy w4 (some g)) := ⟨hE, grownT G3.out hg⟩
        clear hE hg
        go_wp2
        go_end0
        exact ⟨rfl, by rw [← HRR.out, hq1, hq2]; simpa using HZ.out.1, HZ.out.2⟩
    · have h0' : (op == 0) = false := by simpa using h0
      clear ev
      go_wp2
      go_end0
      exact ⟨rfl, by rw [← HRR.out, hq1]; simpa [h0] using H2.out, G2.out⟩

end Go.Proofs.YthboeppmlhbofaaGreatDoor
