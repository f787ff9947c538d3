/-
  Write: the walks that lay a text of clauses.
-/
import Derived.Test.YthboeppmlhbofaaLst
import Derived.Lib.AppendStr
import Derived.Deep.DeepMust
namespace Go.Proofs.Ythboeppmlhbofaa
open Go.RowKit Txt
set_option maxRecDepth 100000

theorem Try.infoByte : (Try.prog.info? 5).map (fun i => (i.zero, i.size, i.bytes)) = some (some (.int .u8 0), 1, 1) := by kernel_rfl
theorem Try.undBytes : Try.prog.underlying 36 = some (.slice 5) := by kernel_rfl
theorem Try.undString : Try.prog.underlying 9 = some .string := by kernel_rfl

/-- bytes as cells -/
def c8 (t : List UInt8) : List Value := t.map fun b => Value.int .u8 b.toNat
theorem c8_length (t : List UInt8) : (c8 t).length = t.length := by simp [c8]
theorem c8_append (s t : List UInt8) : c8 (s ++ t) = c8 s ++ c8 t := by simp [c8]
theorem c8_one (t : List UInt8) : ∀ u ∈ c8 t, u.oneCell' = true := by
  intro u hu
  simp only [c8, List.mem_map] at hu
  obtain ⟨b, _, rfl⟩ := hu
  rfl
theorem own_shape {w : World} {base e size : Nat} {v : Value} {n : Nat} {xs : List Value} (h : w.ownsRow base e size v n xs) : ∃ ao cap, v = .slice ao n cap := by
  rcases h.2 with ⟨rfl, rfl⟩ | ⟨g, cap, cur, rfl, _⟩
  · exact ⟨none, 0, rfl⟩
  · exact ⟨_, _, rfl⟩

theorem own_text {w : World} {base e n : Nat} {v : Value} {cs : List Value} (t : List UInt8) (hn : n = t.length) (hcs : cs = c8 t) (h : w.ownsRow base e 1 v n cs) :
    ∃ ao cap, v = .slice ao t.length cap ∧ w.ownsRow base e 1 (.slice ao t.length cap) t.length (c8 t) := by
  subst hn hcs
  obtain ⟨ao, cap, rfl⟩ := own_shape h
  exact ⟨ao, cap, rfl, h⟩
/-- a new block's cells -/
theorem new_cells (w : World) (l : List Value) (e : TypeId) : ∀ j u, l[j]? = some u → (w.alloc (.cells l.toArray e)).cell? ((⟨w.heap.size, 0, none⟩ : Addr).add j) = some u := by
  intro j u hu
  have hadd : (⟨w.heap.size, 0, none⟩ : Addr).add j = ⟨w.heap.size, j, none⟩ := by unfold Addr.add; split <;> simp_all
  rw [hadd, cell_of_row _ w.heap.size j l.toArray e (0, 0) (heap_alloc_new w _)]
  simpa using hu
theorem size_arr (l : List UInt8) : (⟨l.toArray⟩ : ByteArray).size = l.length := by show l.toArray.size = _; simp
theorem strCells_arr (l : List UInt8) : Lib.strCells ⟨l.toArray⟩ = c8 l := by simp [Lib.strCells, c8]
theorem lit_cases {n : Int} (h : litB n = true) : n = -10 ∨ n = -9 ∨ n = -8 ∨ n = -7 ∨ n = -6 ∨ n = -5 ∨ n = -4 ∨ n = -3 ∨ n = -2 ∨ n = -1 ∨ n = 1 ∨ n = 2 ∨ n = 3 ∨ n = 4 ∨ n = 5 ∨ n = 6 ∨ n = 7 ∨ n = 8 ∨ n = 9 ∨ n = 10 := by
  simp only [litB, Bool.and_eq_true, bne_iff_ne, decide_eq_true_eq] at h
  omega
theorem IntsAt.below {w w' : World} {a : Option Addr} {xs : List Int} (h : IntsAt w a xs) (hb : Below w.heap.size w w') : IntsAt w' a xs :=
  h.kept fun b off _ hv => (hb.cell (p := ⟨b, off, none⟩) (World.block_lt_of_cell? w _ hv)).trans hv

theorem conv_own {w : World} {base : Nat} {ao : Option Addr} {cap : Nat} {t : List UInt8} (h : w.ownsRow base 5 1 (.slice ao t.length cap) t.length (c8 t)) :
    (convert 36 9 (.slice ao t.length cap)).run Try.prog w = .ok (.string ⟨t.toArray⟩) w := by
  have hb : Try.prog.underlying 5 = some (.int .u8) := by kernel_rfl
  rcases h.2 with ⟨hv, hn⟩ | ⟨g, cap', cur, hv, _, hh, _⟩
  · have : t = [] := List.eq_nil_of_length_eq_zero hn
    subst this
    simp only [Value.slice.injEq] at hv
    obtain ⟨rfl, _, rfl⟩ := hv
    rw [run_convert_bytes_string w _ _ 5 none _ 0 Try.undBytes hb Try.undString]
    rfl
  · simp only [Value.slice.injEq] at hv
    obtain ⟨rfl, _, rfl⟩ := hv
    refine run_convert_bytes_back w _ _ 5 _ cap t Try.undBytes hb Try.undString fun j hj => ?_
    exact h.cells (g := g) rfl j _ (by simp [c8, hj])

theorem RowsAt.below {w w' : World} {a : Option Addr} {A : Nat → Option Addr} {C : Nat → Nat} {xss : List (List Int)} (h : RowsAt w a A C xss) (hb : Below w.heap.size w w') : RowsAt w' a A C xss :=
  h.kept fun b off _ hv => (hb.cell (p := ⟨b, off, none⟩) (World.block_lt_of_cell? w _ hv)).trans hv
theorem ret_text {s t : List UInt8} {a b : Int} (h : s = t) (h' : a = b) : Ending.returned (.tuple #[.string ⟨s.toArray⟩, .int .i64 a]) = .returned (.tuple #[.string ⟨t.toArray⟩, .int .i64 b]) := by rw [h, h']

end Go.Proofs.Ythboeppmlhbofaa
