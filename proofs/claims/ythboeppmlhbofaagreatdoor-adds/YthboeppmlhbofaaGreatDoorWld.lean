/-
  The script's world: what it owns, and what each change to it keeps.
-/
import Derived.Test.YthboeppmlhbofaaGreatDoorRdw
import Derived.Deep.AppendLies
namespace Go.Proofs.YthboeppmlhbofaaGreatDoor
open Go.RowKit Txt
set_option maxRecDepth 100000

/-- what the script has made, read as data -/
structure St where
  list : List Int
  clauses : List (List Int)
  texts : List ByteArray
  outs : List (List Int)
  want : List (List Int)
  mark : Int
/-- where it lies -/
structure WV where
  al : Option Addr
  ac : Option Addr
  at_ : Option Addr
  ax : Option Addr
  ao : Option Addr
  aw : Option Addr
  cl : Nat
  cc : Nat
  ct : Nat
  cx : Nat
  co : Nat
  cw : Nat
  nx : Nat
  vcs : List Value
  vos : List Value
  vws : List Value
  vxs : List Value
def WV.vl (V : WV) (s : St) : Value := .slice V.al s.list.length V.cl
def WV.vc (V : WV) (s : St) : Value := .slice V.ac s.clauses.length V.cc
def WV.vt (V : WV) (s : St) : Value := .slice V.at_ s.texts.length V.ct
def WV.vx (V : WV) : Value := .slice V.ax V.nx V.cx
def WV.vo (V : WV) (s : St) : Value := .slice V.ao s.outs.length V.co
def WV.vw (V : WV) (s : St) : Value := .slice V.aw s.want.length V.cw
def WV.cells (V : WV) (s : St) : List Value := [V.vl s, V.vc s, V.vt s, V.vx, V.vo s, V.vw s, .int .i64 s.mark]
def strs (ts : List ByteArray) : List Value := ts.map Value.string

structure WI (w : World) (Wb B : Nat) (V : WV) (s : St) : Prop where
  blk : Row w Wb 34 (V.cells s)
  base : B ≤ Wb
  list : w.ownsRow B 3 1 (V.vl s) s.list.length (i64s s.list)
  clt : w.ownsRow B 24 1 (V.vc s) s.clauses.length V.vcs
  cle : AllOwn w B 3 V.vcs s.clauses
  tx : w.ownsRow B 9 1 (V.vt s) s.texts.length (strs s.texts)
  xs : w.ownsRow B 37 1 V.vx V.nx V.vxs
  ot : w.ownsRow B 24 1 (V.vo s) s.outs.length V.vos
  oe : AllOwn w B 3 V.vos s.outs
  wt : w.ownsRow B 24 1 (V.vw s) s.want.length V.vws
  we : AllOwn w B 3 V.vws s.want
  a1 : Apart (V.vc s) (V.vo s)
  a2 : Apart (V.vc s) (V.vw s)
  a3 : Apart (V.vo s) (V.vw s)
  b1 : ∀ u ∈ V.vcs, Apart u (V.vl s)
  b2 : ∀ u ∈ V.vos, Apart u (V.vl s)
  b3 : ∀ u ∈ V.vws, Apart u (V.vl s)

/-- every list that is apart from v is kept -/
def Oth (w w' : World) (B : Nat) (v : Value) : Prop := ∀ e u n xs, e ≠ 34 → w.ownsRow B e 1 u n xs → Apart u v → w'.ownsRow B e 1 u n xs

theorem oth_alloc {w w' : World} {B : Nat} {v : Value} (o : Obj) (h : Oth (w.alloc o) w' B v) : Oth w w' B v := fun e u n xs he hu ha => h e u n xs he (hu.alloc o) ha
theorem oth_grown {w w' : World} {B : Nat} {v : Value} (h : w.grownBy w' v.ownBlock) : Oth w w' B v := fun _ _ _ _ _ hu ha => own_apart_kept hu h ha
theorem oth_trans {w w1 w2 : World} {B : Nat} {v : Value} (h : Oth w w1 B v) (h' : Oth w1 w2 B v) : Oth w w2 B v := fun e u n xs he hu ha => h' e u n xs he (h e u n xs he hu ha) ha
theorem oth_below {w w' : World} {B : Nat} {v : Value} (h : Below w.heap.size w w') : Oth w w' B v := fun _ _ _ _ _ hu _ => own_below hu h
theorem own_setW {w : World} {B Wb : Nat} {zs : List Value} (hr : Row w Wb 34 zs) (i : Nat) (x : Value) {e : Nat} {u : Value} {n : Nat} {xs : List Value} (he : e ≠ 34) (hu : w.ownsRow B e 1 u n xs) : (w.setCell ⟨Wb, i, none⟩ x).ownsRow B e 1 u n xs := by
  refine ⟨hu.1, ?_⟩
  rcases hu.2 with hn | ⟨g, cap, cur, hv, h1, hg, r⟩
  · exact .inl hn
  · refine .inr ⟨g, cap, cur, hv, h1, ?_, r⟩
    have hne : g ≠ Wb := by
      intro eq
      subst eq
      have hr' : w.heap[g]? = some (.cells zs.toArray 34 (0, 0)) := hr
      rw [hr'] at hg
      simp only [Option.some.injEq, Obj.cells.injEq] at hg
      exact he hg.2.1.symm
    rw [Below.heap_setCell _ _ _ _ hne]
    exact hg
theorem oth_setW {w : World} {B Wb : Nat} {zs : List Value} {v : Value} (hr : Row w Wb 34 zs) (i : Nat) (x : Value) : Oth w (w.setCell ⟨Wb, i, none⟩ x) B v := fun _ _ _ _ he hu _ => own_setW hr i x he hu
/-- the world's own block behind an append -/
theorem row_grown {w w' : World} {Wb : Nat} {zs : List Value} {v : Value} {B e n : Nat} {xs : List Value} (hr : Row w Wb 34 zs) (hv : w.ownsRow B e 1 v n xs) (he : e ≠ 34) (h : w.grownBy w' v.ownBlock) : Row w' Wb 34 zs := by
  refine (h.block Wb hr.lt ?_).trans hr
  intro eq
  rcases hv.2 with ⟨rfl, _⟩ | ⟨g, cap, cur, rfl, _, hg, _⟩
  · simp [Value.ownBlock] at eq
  · simp only [Value.ownBlock, Option.some.injEq] at eq
    subst eq
    have hr' : w.heap[Wb]? = some (.cells zs.toArray 34 (0, 0)) := hr
    rw [hr'] at hg
    simp only [Option.some.injEq, Obj.cells.injEq] at hg
    exact he hg.2.1.symm

theorem WI.below {w w' : World} {Wb B : Nat} {V : WV} {s : St} (h : WI w Wb B V s) (hb : Below w.heap.size w w') : WI w' Wb B V s :=
  ⟨row_below h.blk hb, h.base, own_below h.list hb, own_below h.clt hb, h.cle.map (fun _ _ _ _ hh => own_below hh hb), own_below h.tx hb, own_below h.xs hb, own_below h.ot hb, h.oe.map (fun _ _ _ _ hh => own_below hh hb),
    own_below h.wt hb, h.we.map (fun _ _ _ _ hh => own_below hh hb), h.a1, h.a2, h.a3, h.b1, h.b2, h.b3⟩

theorem t_int : (3 : Nat) ≠ 34 := by decide
theorem t_ints : (24 : Nat) ≠ 34 := by decide
theorem t_str : (9 : Nat) ≠ 34 := by decide
theorem t_sol : (37 : Nat) ≠ 34 := by decide
theorem n_is : (3 : Nat) ≠ 9 := by decide
theorem n_il : (3 : Nat) ≠ 24 := by decide
theorem n_ix : (3 : Nat) ≠ 37 := by decide
theorem n_ls : (24 : Nat) ≠ 9 := by decide
theorem n_lx : (24 : Nat) ≠ 37 := by decide
theorem n_sx : (9 : Nat) ≠ 37 := by decide

/-- the list is another -/
theorem WI.setList {w w' : World} {Wb B : Nat} {V : WV} {s : St} (h : WI w Wb B V s) (ho : Oth w w' B (V.vl s)) (a : Option Addr) (c : Nat) (l : List Int) (hblk : Row w' Wb 34 ((V.cells s).set 0 (.slice a l.length c)))
    (hown : w'.ownsRow B 3 1 (.slice a l.length c) l.length (i64s l)) (hap : ∀ u, (∃ n xs, w.ownsRow B 3 1 u n xs) → Apart u (V.vl s) → Apart u (.slice a l.length c)) :
    WI w' Wb B { V with al := a, cl := c } { s with list := l } := by
  have al1 := fun (u : Value) (hu : u ∈ V.vcs) => hap u (let ⟨xs, hx⟩ := h.cle.mem hu; ⟨_, _, hx⟩) (h.b1 u hu)
  have al2 := fun (u : Value) (hu : u ∈ V.vos) => hap u (let ⟨xs, hx⟩ := h.oe.mem hu; ⟨_, _, hx⟩) (h.b2 u hu)
  have al3 := fun (u : Value) (hu : u ∈ V.vws) => hap u (let ⟨xs, hx⟩ := h.we.mem hu; ⟨_, _, hx⟩) (h.b3 u hu)
  exact ⟨hblk, h.base, hown, ho _ _ _ _ t_ints h.clt (apart_types n_il.symm h.clt h.list), h.cle.map (fun u hu _ _ hh => ho _ _ _ _ t_int hh (h.b1 u hu)), ho _ _ _ _ t_str h.tx (apart_types n_is.symm h.tx h.list),
    ho _ _ _ _ t_sol h.xs (apart_types n_ix.symm h.xs h.list), ho _ _ _ _ t_ints h.ot (apart_types n_il.symm h.ot h.list), h.oe.map (fun u hu _ _ hh => ho _ _ _ _ t_int hh (h.b2 u hu)),
    ho _ _ _ _ t_ints h.wt (apart_types n_il.symm h.wt h.list), h.we.map (fun u hu _ _ hh => ho _ _ _ _ t_int hh (h.b3 u hu)), h.a1, h.a2, h.a3, al1, al2, al3⟩

/-- the clauses are others (Lists that are apart from the rest) -/
theorem WI.setClauses {w w' : World} {Wb B : Nat} {V : WV} {s : St} (h : WI w Wb B V s) (ho : Oth w w' B (V.vc s)) (a : Option Addr) (c : Nat) (cs : List (List Int)) (vs : List Value) (hblk : Row w' Wb 34 ((V.cells s).set 1 (.slice a cs.length c)))
    (hown : w'.ownsRow B 24 1 (.slice a cs.length c) cs.length vs) (heach : AllOwn w' B 3 vs cs) (hap : ∀ u ∈ vs, Apart u (V.vl s)) (h1 : Apart (.slice a cs.length c) (V.vo s)) (h2 : Apart (.slice a cs.length c) (V.vw s)) :
    WI w' Wb B { V with ac := a, cc := c, vcs := vs } { s with clauses := cs } :=
  ⟨hblk, h.base, ho _ _ _ _ t_int h.list (apart_types n_il h.list h.clt), hown, heach, ho _ _ _ _ t_str h.tx (apart_types n_ls.symm h.tx h.clt), ho _ _ _ _ t_sol h.xs (apart_types n_lx.symm h.xs h.clt),
    ho _ _ _ _ t_ints h.ot h.a1.symm, h.oe.map (fun _ _ _ _ hh => ho _ _ _ _ t_int hh (apart_types n_il hh h.clt)), ho _ _ _ _ t_ints h.wt h.a2.symm, h.we.map (fun _ _ _ _ hh => ho _ _ _ _ t_int hh (apart_types n_il hh h.clt)), h1, h2, h.a3, hap, h.b2, h.b3⟩

/-- the texts are others -/
theorem WI.setTexts {w w' : World} {Wb B : Nat} {V : WV} {s : St} (h : WI w Wb B V s) (ho : Oth w w' B (V.vt s)) (a : Option Addr) (c : Nat) (ts : List ByteArray) (hblk : Row w' Wb 34 ((V.cells s).set 2 (.slice a ts.length c)))
    (hown : w'.ownsRow B 9 1 (.slice a ts.length c) ts.length (strs ts)) :
    WI w' Wb B { V with at_ := a, ct := c } { s with texts := ts } :=
  ⟨hblk, h.base, ho _ _ _ _ t_int h.list (apart_types n_is h.list h.tx), ho _ _ _ _ t_ints h.clt (apart_types n_ls h.clt h.tx), h.cle.map (fun _ _ _ _ hh => ho _ _ _ _ t_int hh (apart_types n_is hh h.tx)), hown, ho _ _ _ _ t_sol h.xs (apart_types n_sx.symm h.xs h.tx),
    ho _ _ _ _ t_ints h.ot (apart_types n_ls h.ot h.tx), h.oe.map (fun _ _ _ _ hh => ho _ _ _ _ t_int hh (apart_types n_is hh h.tx)), ho _ _ _ _ t_ints h.wt (apart_types n_ls h.wt h.tx), h.we.map (fun _ _ _ _ hh => ho _ _ _ _ t_int hh (apart_types n_is hh h.tx)), h.a1, h.a2, h.a3, h.b1, h.b2, h.b3⟩

/-- the lists that came out are others -/
theorem WI.setOuts {w w' : World} {Wb B : Nat} {V : WV} {s : St} (h : WI w Wb B V s) (ho : Oth w w' B (V.vo s)) (a : Option Addr) (c : Nat) (cs : List (List Int)) (vs : List Value) (hblk : Row w' Wb 34 ((V.cells s).set 4 (.slice a cs.length c)))
    (hown : w'.ownsRow B 24 1 (.slice a cs.length c) cs.length vs) (heach : AllOwn w' B 3 vs cs) (hap : ∀ u ∈ vs, Apart u (V.vl s)) (h1 : Apart (V.vc s) (.slice a cs.length c)) (h3 : Apart (.slice a cs.length c) (V.vw s)) :
    WI w' Wb B { V with ao := a, co := c, vos := vs } { s with outs := cs } :=
  ⟨hblk, h.base, ho _ _ _ _ t_int h.list (apart_types n_il h.list h.ot), ho _ _ _ _ t_ints h.clt h.a1, h.cle.map (fun _ _ _ _ hh => ho _ _ _ _ t_int hh (apart_types n_il hh h.ot)), ho _ _ _ _ t_str h.tx (apart_types n_ls.symm h.tx h.ot), ho _ _ _ _ t_sol h.xs (apart_types n_lx.symm h.xs h.ot),
    hown, heach, ho _ _ _ _ t_ints h.wt h.a3.symm, h.we.map (fun _ _ _ _ hh => ho _ _ _ _ t_int hh (apart_types n_il hh h.ot)), h1, h.a2, h3, h.b1, hap, h.b3⟩
/-- what they must read as is another -/
theorem WI.setWant {w w' : World} {Wb B : Nat} {V : WV} {s : St} (h : WI w Wb B V s) (ho : Oth w w' B (V.vw s)) (a : Option Addr) (c : Nat) (cs : List (List Int)) (vs : List Value) (hblk : Row w' Wb 34 ((V.cells s).set 5 (.slice a cs.length c)))
    (hown : w'.ownsRow B 24 1 (.slice a cs.length c) cs.length vs) (heach : AllOwn w' B 3 vs cs) (hap : ∀ u ∈ vs, Apart u (V.vl s)) (h2 : Apart (V.vc s) (.slice a cs.length c)) (h3 : Apart (V.vo s) (.slice a cs.length c)) :
    WI w' Wb B { V with aw := a, cw := c, vws := vs } { s with want := cs } :=
  ⟨hblk, h.base, ho _ _ _ _ t_int h.list (apart_types n_il h.list h.wt), ho _ _ _ _ t_ints h.clt h.a2, h.cle.map (fun _ _ _ _ hh => ho _ _ _ _ t_int hh (apart_types n_il hh h.wt)), ho _ _ _ _ t_str h.tx (apart_types n_ls.symm h.tx h.wt), ho _ _ _ _ t_sol h.xs (apart_types n_lx.symm h.xs h.wt),
    ho _ _ _ _ t_ints h.ot h.a3, h.oe.map (fun _ _ _ _ hh => ho _ _ _ _ t_int hh (apart_types n_il hh h.wt)), hown, heach, h.a1, h2, h3, h.b1, h.b2, hap⟩

/-- the mark is another -/
theorem WI.setMark {w : World} {Wb B : Nat} {V : WV} {s : St} (h : WI w Wb B V s) (m : Int) : WI (w.setCell ⟨Wb, 6, none⟩ (.int .i64 m)) Wb B V { s with mark := m } := by
  have o := fun {e u n xs} (he : e ≠ 34) (hu : w.ownsRow B e 1 u n xs) => own_setW h.blk 6 (.int .i64 m) he hu
  exact ⟨h.blk.set 6 _, h.base, o t_int h.list, o t_ints h.clt, h.cle.map (fun _ _ _ _ hh => o t_int hh), o t_str h.tx, o t_sol h.xs, o t_ints h.ot, h.oe.map (fun _ _ _ _ hh => o t_int hh), o t_ints h.wt, h.we.map (fun _ _ _ _ hh => o t_int hh), h.a1, h.a2, h.a3, h.b1, h.b2, h.b3⟩

/-- an owned list that is apart from what lay there before, when it moved -/
theorem apart_moved2 {w : World} {b e s : Nat} {u v v' : Value} {n : Nat} {xs : List Value} (h : w.ownsRow b e s u n xs) (ha : Apart v u) {k : Nat} (hk : w.heap.size ≤ k) (hv : v'.ownBlock = v.ownBlock ∨ v'.ownBlock = some k) : Apart v' u := (apart_moved h ha.symm hk hv).symm

end Go.Proofs.YthboeppmlhbofaaGreatDoor
