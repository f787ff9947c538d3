/-
  Read: the walk.
-/
import Derived.Test.YthboeppmlhbofaaOwn
namespace Go.Proofs.Ythboeppmlhbofaa
open Go.RowKit Txt
set_option maxRecDepth 100000

theorem Try.infoInt : (Try.prog.info? 3).map (fun i => (i.zero, i.size, i.bytes)) = some (some (.int .i64 0), 1, 8) := by kernel_rfl
theorem Try.infoInts : (Try.prog.info? 24).map (fun i => (i.zero, i.size, i.bytes)) = some (some (.slice none 0 0), 1, 24) := by kernel_rfl
theorem Try.undInts : Try.prog.underlying 24 = some (.slice 3) := by kernel_rfl
theorem Try.undLists : Try.prog.underlying 22 = some (.slice 24) := by kernel_rfl

/-- a new block's cells (a list) -/
theorem new_cells1 (w : World) (l : List Value) (e : TypeId) : ∀ j u, l[j]? = some u → (w.alloc (.cells l.toArray e)).cell? ((⟨w.heap.size, 0, none⟩ : Addr).add j) = some u := by
  intro j u hu
  have hadd : (⟨w.heap.size, 0, none⟩ : Addr).add j = ⟨w.heap.size, j, none⟩ := by unfold Addr.add; split <;> simp_all
  rw [hadd, cell_of_row _ w.heap.size j l.toArray e (0, 0) (heap_alloc_new w _)]
  simpa using hu

/-- lists, and one more that is being made -/
structure Reading (w : World) (B : Nat) (v : Value) (vs : List Value) (cl : List (List Int)) (vo : Value) (op : List Int) : Prop where
  lists : Lists w B 24 3 v vs cl
  last : w.ownsRow B 3 1 vo op.length (i64s op)
  apart : ∀ u ∈ vs, Apart u vo

theorem Reading.start (w : World) (B : Nat) : Reading w B (.slice none 0 0) [] [] (.slice none 0 0) [] :=
  ⟨⟨World.ownsRow_nil _ _ _ _, trivial, List.Pairwise.nil⟩, World.ownsRow_nil _ _ _ _, by simp⟩

theorem ne_lists : (3 : Nat) ≠ 24 := by decide

/-- a number more -/
theorem Reading.push {w w' : World} {B : Nat} {v : Value} {vs : List Value} {cl : List (List Int)} {vo : Value} {op : List Int} (h : Reading w B v vs cl vo op) (o : Obj) (x : Int) {v' : Value}
    (hown : w'.ownsRow B 3 1 v' (op.length + 1) (i64s op ++ [.int .i64 x])) (hg : (w.alloc o).grownBy w' vo.ownBlock) (hwh : v'.ownBlock = vo.ownBlock ∨ v'.ownBlock = some (w.alloc o).heap.size) :
    ∃ a c, v' = .slice a (op ++ [x]).length c ∧ Reading w' B v vs cl (.slice a (op ++ [x]).length c) (op ++ [x]) := by
  obtain ⟨a, c, rfl, h2⟩ := own_list (op ++ [x]) (by simp) (by simp [i64s]) hown
  have hka : ∀ u, Apart u vo → ∀ e n xs, w.ownsRow B e 1 u n xs → w'.ownsRow B e 1 u n xs := fun u hu e n xs hh => own_apart_kept (hh.alloc o) hg hu
  refine ⟨a, c, rfl, ⟨⟨hka v (apart_types ne_lists h.last h.lists.top).symm _ _ _ h.lists.top, h.lists.each.map (fun u hu n xs hh => hka u (h.apart u hu) _ n xs hh), h.lists.apart⟩, h2, fun u hu => ?_⟩⟩
  obtain ⟨xs, hx⟩ := h.lists.each.mem hu
  exact apart_moved hx (h.apart u hu) (by simp) hwh

/-- a clause more -/
theorem Reading.close {w w' : World} {B : Nat} {v : Value} {vs : List Value} {cl : List (List Int)} {vo : Value} {op : List Int} (h : Reading w B v vs cl vo op) (o : Obj) {v' : Value}
    (hown : w'.ownsRow B 24 1 v' (cl.length + 1) (vs ++ [vo])) (hg : (w.alloc o).grownBy w' v.ownBlock) :
    ∃ a c, v' = .slice a (cl ++ [op]).length c ∧ Reading w' B (.slice a (cl ++ [op]).length c) (vs ++ [vo]) (cl ++ [op]) (.slice none 0 0) [] := by
  obtain ⟨a, c, rfl, h2⟩ := own_rows (m := (cl ++ [op]).length) (by simp) hown
  have hka : ∀ u, Apart u v → ∀ e n xs, w.ownsRow B e 1 u n xs → w'.ownsRow B e 1 u n xs := fun u hu e n xs hh => own_apart_kept (hh.alloc o) hg hu
  refine ⟨a, c, rfl, ⟨⟨h2, ?_, ?_⟩, World.ownsRow_nil _ _ _ _, fun u _ => apart_nil u⟩⟩
  · refine AllOwn.snoc (h.lists.each.map (fun u hu n xs hh => ?_)) (hka vo (apart_types ne_lists h.last h.lists.top) _ _ _ h.last)
    obtain ⟨ys, hy⟩ := h.lists.each.mem hu
    exact hka u (apart_types ne_lists hy h.lists.top) _ n xs hh
  · exact List.pairwise_append.2 ⟨h.lists.apart, by simp, fun u hu x hx => by simp at hx; subst hx; exact h.apart u hu⟩

/-- what Read hands back -/
def RdPost (B : Nat) (w : World) (r : Res) (e : Ending) (w' : World) : Prop :=
  Below B w w' ∧ match r with
  | .err x p => e = .returned (.tuple #[.slice none 0 0, .int .i64 x, .int .i64 p])
  | .ok cl => ∃ a c vs, e = .returned (.tuple #[.slice a cl.length c, .int .i64 0, .int .i64 0]) ∧ Lists w' B 24 3 (.slice a cl.length c) vs cl
theorem ret_err {x y : Int} {p q : Int} (h : x = y) (h' : p = q) : Ending.returned (.tuple #[.slice none 0 0, .int .i64 x, .int .i64 p]) = .returned (.tuple #[.slice none 0 0, .int .i64 y, .int .i64 q]) := by rw [h, h']

end Go.Proofs.Ythboeppmlhbofaa
