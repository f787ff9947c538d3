/-
  traillaw's spares and stills: lists of lists that are handed in with room behind them.
-/
import Derived.Test.YthboeppmlhbofaaLaw
import Derived.Deep.RegionHeld3
namespace Go.Proofs.Ythboeppmlhbofaa
open Go.RowKit Txt
set_option maxRecDepth 100000

/-- each block holds its list, and two sevens behind -/
def SpAll (w : World) : List Nat → List (List Int) → Prop
  | [], [] => True
  | g :: gs, c :: cs => Row w g 3 (i64s c ++ sevens) ∧ SpAll w gs cs
  | _, _ => False
def spCells : List Nat → List (List Int) → List Value
  | g :: gs, c :: cs => .slice (some ⟨g, 0, none⟩) c.length (c.length + 2) :: spCells gs cs
  | _, _ => []
theorem SpAll.len {w : World} {gs : List Nat} {cs : List (List Int)} (h : SpAll w gs cs) : gs.length = cs.length := by
  induction gs generalizing cs with
  | nil => cases cs with
    | nil => rfl
    | cons c cs => exact h.elim
  | cons g gs ih => cases cs with
    | nil => exact h.elim
    | cons c cs => simp [ih h.2]
theorem spCells_len {gs : List Nat} {cs : List (List Int)} (h : gs.length = cs.length) : (spCells gs cs).length = cs.length := by
  induction gs generalizing cs with
  | nil => cases cs with
    | nil => rfl
    | cons c cs => simp at h
  | cons g gs ih => cases cs with
    | nil => simp at h
    | cons c cs => simp [spCells, ih (by simpa using h)]
theorem SpAll.snoc {w : World} {gs : List Nat} {cs : List (List Int)} {g : Nat} {c : List Int} (h : SpAll w gs cs) (hg : Row w g 3 (i64s c ++ sevens)) : SpAll w (gs ++ [g]) (cs ++ [c]) := by
  induction gs generalizing cs with
  | nil => cases cs with
    | nil => exact ⟨hg, trivial⟩
    | cons c' cs => exact h.elim
  | cons g' gs ih => cases cs with
    | nil => exact h.elim
    | cons c' cs => exact ⟨h.1, ih h.2⟩
theorem spCells_snoc {gs : List Nat} {cs : List (List Int)} (h : gs.length = cs.length) (g : Nat) (c : List Int) : spCells (gs ++ [g]) (cs ++ [c]) = spCells gs cs ++ [.slice (some ⟨g, 0, none⟩) c.length (c.length + 2)] := by
  induction gs generalizing cs with
  | nil => cases cs with
    | nil => rfl
    | cons c' cs => simp at h
  | cons g' gs ih => cases cs with
    | nil => simp at h
    | cons c' cs => simp [spCells, ih (by simpa using h)]
theorem SpAll.map {w w' : World} {gs : List Nat} {cs : List (List Int)} (h : SpAll w gs cs) (hk : ∀ g ∈ gs, w'.heap[g]? = w.heap[g]?) : SpAll w' gs cs := by
  induction gs generalizing cs with
  | nil => cases cs with
    | nil => exact trivial
    | cons c' cs => exact h.elim
  | cons g' gs ih => cases cs with
    | nil => exact h.elim
    | cons c' cs => exact ⟨(hk g' (by simp)).trans h.1, ih h.2 (fun g hg => hk g (by simp [hg]))⟩
theorem SpAll.at {w : World} {gs : List Nat} {cs : List (List Int)} (h : SpAll w gs cs) (r : Nat) (hr : r < cs.length) :
    ∃ g, gs[r]? = some g ∧ Row w g 3 (i64s (cs.getD r []) ++ sevens) ∧ (spCells gs cs)[r]? = some (.slice (some ⟨g, 0, none⟩) (cs.getD r []).length ((cs.getD r []).length + 2)) := by
  induction gs generalizing cs r with
  | nil => cases cs with
    | nil => simp at hr
    | cons c' cs => exact h.elim
  | cons g' gs ih => cases cs with
    | nil => exact h.elim
    | cons c' cs => cases r with
      | zero => exact ⟨g', rfl, h.1, rfl⟩
      | succ r =>
        obtain ⟨g, h1, h2, h3⟩ := ih h.2 r (by simpa using hr)
        exact ⟨g, by simpa using h1, by simpa using h2, by simpa [spCells] using h3⟩
theorem SpAll.lt {w : World} {gs : List Nat} {cs : List (List Int)} (h : SpAll w gs cs) : ∀ g ∈ gs, g < w.heap.size := by
  induction gs generalizing cs with
  | nil => simp
  | cons g' gs ih => cases cs with
    | nil => exact h.elim
    | cons c' cs =>
      intro g hg
      rcases List.mem_cons.1 hg with rfl | hg
      · exact h.1.lt
      · exact ih h.2 g hg

theorem infoInts_size : (Try.prog.info? 24).map (·.size) = some 1 := by kernel_rfl
theorem made_nils (n : Nat) : (madeCells (Value.slice none 0 0).cells (n * 1)).toList = List.replicate n (.slice none 0 0) := by
  have := toList_madeCells_one (.slice none 0 0) n
  simpa [Value.cells] using this

/-- what spares hands back: the outer block G, the inner blocks gs, the last one's gl -/
structure Sp (w : World) (B G : Nat) (gs : List Nat) (gl : Nat) (xss : List (List Int)) : Prop where
  top : Row w G 24 (spCells gs xss ++ [.slice (some ⟨gl, 0, none⟩) 1 1])
  each : SpAll w gs xss
  last : Row w gl 3 [.int .i64 7]
  nodup : gs.Nodup
  out : ∀ g ∈ gs, g ≠ G ∧ g ≠ gl ∧ B ≤ g
  base : B ≤ G ∧ B ≤ gl ∧ gl ≠ G

/-- the handed list of lists, to be read -/
theorem Sp.rows {w : World} {B G gl : Nat} {gs : List Nat} {xss : List (List Int)} (h : Sp w B G gs gl xss) (hl : ∀ x ∈ xss, x.length ≤ 4294967296) : ∃ A C, RowsAt w (some ⟨G, 0, none⟩) A C xss := by
  refine ⟨fun r => some ⟨gs.getD r 0, 0, none⟩, fun r => (xss.getD r []).length + 2, ?_⟩
  by_cases h0 : xss = []
  · exact .inl h0
  refine .inr ⟨G, 0, rfl, fun r hr => ?_⟩
  obtain ⟨g, h1, h2, h3⟩ := h.each.at r hr
  have e : gs.getD r 0 = g := by rw [List.getD_eq_getElem?_getD, h1]; rfl
  dsimp only
  rw [e]
  refine ⟨?_, spare_ints _ _ _ h2, ?_⟩
  · rw [h.top.cell, Nat.zero_add, List.getElem?_append_left (by rw [spCells_len h.each.len]; exact hr), h3]
  · have := hl (xss.getD r []) (by rw [List.getD_eq_getElem?_getD, List.getElem?_eq_getElem hr]; exact List.getElem_mem hr)
    omega

end Go.Proofs.Ythboeppmlhbofaa
