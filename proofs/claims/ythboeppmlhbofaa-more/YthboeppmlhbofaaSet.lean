/-
  The document's sets of literals: the walks.
-/
import Derived.Test.YthboeppmlhbofaaRef
namespace Go.Proofs.Ythboeppmlhbofaa
open Go.RowKit Txt
set_option maxRecDepth 100000

/-- a literal as a set of one -/
def bitN (l : Int) : Nat := if 0 < l then 2 ^ (2 * l - 2).toNat else 2 ^ (-2 * l - 1).toNat
def setN (xs : List Int) : Nat := xs.foldl (fun a l => a ||| bitN l) 0

theorem wraps_i64 (n : Int) (h0 : 0 ≤ n) (h1 : n < 2 ^ 63) : IntKind.i64.wrap n = n := by rw [IntKind.wrap_i64]; omega
theorem or64 (a b : Nat) (ha : a < 2 ^ 63) (hb : b < 2 ^ 63) : bits .or .i64 (a : Int) (b : Int) = ((a ||| b : Nat) : Int) := (bits_nat .i64 63 (by decide) wraps_i64 a b ha hb).2
theorem and64 (a b : Nat) (ha : a < 2 ^ 63) (hb : b < 2 ^ 63) : bits .and .i64 (a : Int) (b : Int) = ((a &&& b : Nat) : Int) := (bits_nat .i64 63 (by decide) wraps_i64 a b ha hb).1
theorem bitN_lt {l : Int} (h : litB l = true) : bitN l < 2 ^ 20 := by
  rcases lit_cases h with rfl | rfl | rfl | rfl | rfl | rfl | rfl | rfl | rfl | rfl | rfl | rfl | rfl | rfl | rfl | rfl | rfl | rfl | rfl | rfl <;> decide
theorem setN_snoc (xs : List Int) (x : Int) : setN (xs ++ [x]) = setN xs ||| bitN x := by simp [setN]
theorem setN_lt (xs : List Int) (h : xs.all litB = true) : setN xs < 2 ^ 20 := by
  have key : ∀ (ys : List Int) (a : Nat), ys.all litB = true → a < 2 ^ 20 → ys.foldl (fun a l => a ||| bitN l) a < 2 ^ 20 := by
    intro ys
    induction ys with
    | nil => intro a _ h; exact h
    | cons y ys ih =>
      intro a hy ha
      simp only [List.all_cons, Bool.and_eq_true] at hy
      exact ih _ hy.2 (Nat.or_lt_two_pow ha (bitN_lt hy.1))
  exact key xs 0 h (by decide)
theorem all_take {xs : List Int} (h : xs.all litB = true) (k : Nat) : (xs.take k).all litB = true :=
  List.all_eq_true.2 fun x hx => List.all_eq_true.1 h x (List.mem_of_mem_take hx)
theorem take_get (xs : List Int) (k : Nat) (h : k < xs.length) : xs.take (k + 1) = xs.take k ++ [xs.getD k 0] := by
  rw [List.take_succ_eq_append_getElem h, List.getD_eq_getElem?_getD, List.getElem?_eq_getElem h]; rfl
def setOk (xs : List Int) : Nat := if xs.all litB then setN xs else 0
theorem ret_set {a b : Int} {c d : Bool} (h : a = b) (h' : c = d) : Ending.returned (.tuple #[.int .i64 a, .bool c]) = .returned (.tuple #[.int .i64 b, .bool d]) := by rw [h, h']

theorem grown_trans {w w1 w2 : World} (h : w.grownBy w1 none) (h' : w1.grownBy w2 none) : w.grownBy w2 none :=
  ⟨h'.os.trans h.os, h'.tape.trans h.tape, h'.output.trans h.output, Nat.le_trans h.size h'.size, fun k hk hn => (h'.block k (Nat.lt_of_lt_of_le hk h.size) hn).trans (h.block k hk hn)⟩
/-! ### digits -/
theorem conv_new (w : World) (l : List UInt8) (c : Nat) : (convert 36 9 (.slice (some ⟨w.heap.size, 0, none⟩) l.length c)).run Try.prog (w.alloc (.cells (c8 l).toArray 5)) = .ok (.string ⟨l.toArray⟩) (w.alloc (.cells (c8 l).toArray 5)) := by
  have hb : Try.prog.underlying 5 = some (.int .u8) := by kernel_rfl
  refine run_convert_bytes_back (w.alloc (.cells (c8 l).toArray 5)) _ _ 5 _ c l Try.undBytes hb Try.undString fun j hj => ?_
  exact new_cells w (c8 l) 5 j _ (by simp [c8, hj])
theorem arr_append (s t : List UInt8) : (⟨s.toArray⟩ : ByteArray) ++ ⟨t.toArray⟩ = ⟨(s ++ t).toArray⟩ := by
  apply ByteArray.ext
  simp

theorem lit_nat {n : Int} (h : litB n = true) : (∃ k : Nat, n = k ∧ k ≤ 9) ∨ n = 10 ∨ ∃ k : Nat, n = -(k : Int) ∧ 1 ≤ k ∧ k ≤ 10 := by
  simp only [litB, Bool.and_eq_true, bne_iff_ne, decide_eq_true_eq] at h
  by_cases h0 : 0 ≤ n
  · by_cases h9 : n ≤ 9
    · exact .inl ⟨n.toNat, by omega, by omega⟩
    · exact .inr (.inl (by omega))
  · exact .inr (.inr ⟨(-n).toNat, by omega, by omega, by omega⟩)

end Go.Proofs.Ythboeppmlhbofaa
