/-
  traillaw's hold: the walk.
-/
import Derived.Test.YthboeppmlhbofaaFrr
namespace Go.Proofs.Ythboeppmlhbofaa
open Go.RowKit Txt
set_option maxRecDepth 100000

theorem splice_zero (xs : List Int) : splice (List.replicate xs.length (.int .i64 0)) 0 (i64s xs) = i64s xs := by
  simp only [splice, List.take_zero, List.nil_append, Nat.zero_add, i64s_length, List.drop_replicate, Nat.sub_self, List.replicate_zero, List.append_nil]
theorem own_of_row {w : World} {g B : Nat} {e : TypeId} {zs : List Value} (h : Row w g e zs) (hB : B ≤ g) (hz : zs.length ≤ maxLen) : w.ownsRow B e 1 (.slice (some ⟨g, 0, none⟩) zs.length zs.length) zs.length zs :=
  ⟨by simp, .inr ⟨g, zs.length, zs.toArray, rfl, hB, h, Nat.le_refl _, hz, by simp, by simp⟩⟩

theorem copy_own {w2 : World} {g B : Nat} {xs : List Int} (h : Hid (w2.heap[g]? = some (.cells (splice (List.replicate xs.length (.int .i64 0)) 0 (i64s xs)).toArray 3 (0, 0)))) (hB : B ≤ g) (b3 : xs.length ≤ maxLen) :
    w2.ownsRow B 3 1 (.slice (some ⟨g, 0, none⟩) xs.length xs.length) xs.length (i64s xs) := by
  have hq := own_of_row (B := B) (show Row w2 g 3 (i64s xs) from (splice_zero xs) ▸ h.out) hB (by rw [i64s_length]; exact b3)
  rw [i64s_length] at hq
  exact hq

theorem new_cells2 (w : World) (k : Nat) (hk : w.heap.size = k) (l : List Value) (e : TypeId) : ∀ j u, l[j]? = some u → (w.alloc (.cells l.toArray e)).cell? ((⟨k, 0, none⟩ : Addr).add j) = some u := by
  subst hk; exact new_cells1 w l e
theorem apart_new {w : World} {b e s : Nat} {u : Value} {n : Nat} {xs : List Value} (h : w.ownsRow b e s u n xs) {k : Nat} (hk : w.heap.size ≤ k) (a c : Nat) : Apart (.slice (some ⟨k, 0, none⟩) a c) u := by
  intro j hj hu
  simp only [Value.ownBlock, Option.some.injEq] at hj
  have := (h.lt j hu).2
  omega
theorem snoc_len {α : Type} (l : List α) (x : α) : (l ++ [x]).length = l.length + 1 := by simp

end Go.Proofs.Ythboeppmlhbofaa
