/-
  proofs: a step, the walk.
-/
import Derived.Test.YthboeppmlhbofaaLns
import Derived.Test.YthboeppmlhbofaaAdc
namespace Go.Proofs.Ythboeppmlhbofaa
open Go.RowKit Txt
set_option maxRecDepth 100000

theorem posOk_lt (xs : List Int) : posOk xs < 2 ^ 11 := by
  unfold posOk
  split
  · rename_i h; exact posN_lt xs h
  · decide
theorem negOk_lt (xs : List Int) : negOk xs < 2 ^ 11 := by
  unfold negOk
  split
  · rename_i h; exact negN_lt xs h
  · decide
/-- a line's step -/
def stepN (ns : List Nd) (lt : Nat) (xs : List Int) : Int × List Nd :=
  if lt = 100 then (match dropN ns (posOk xs) (negOk xs) with | none => (8, ns) | some ns' => (0, ns'))
  else if followsN ns (posOk xs) (negOk xs) = false then (7, ns) else if lt = 97 then (0, addN ns (posOk xs) (negOk xs) 1) else (0, ns)

set_option maxHeartbeats 4000000 in
theorem step_anyP (w : World) (B cb : Nat) (na : Option Addr) (nc : Nat) (ns : List Nd) (h : TreeI w B cb na nc ns) (hw : Wf ns) (M : Nat) (hcb : CB ns M) (lt : Nat) (a : Option Addr) (c : Nat) (xs : List Int) (hx : xs.length ≤ 9223372036854775807) (hi : IntsAt w a xs) (hB : B ≤ w.heap.size) (hl : ns.length ≤ 90000000) (hM : M + 1 ≤ 9223372036854775807) :
    Calls Try.prog 22 #[.pointer (some ⟨cb, 0, none⟩), .agg #[.int .u8 lt, .slice a xs.length c]] w fun e w' => e = .returned (.int .i64 (stepN ns lt xs).1) ∧ ∃ na' nc', TreeN w w' B cb na nc ns.length na' nc' (stepN ns lt xs).2 := by
  have hb1 : Below w.heap.size w (w.alloc (.cells #[.int .u8 lt, .slice a xs.length c] 53)) := (Below.refl _ _).alloc (Nat.le_refl _) _
  have r1 : Row (w.alloc (.cells #[.int .u8 lt, .slice a xs.length c] 53)) w.heap.size 53 [.int .u8 lt, .slice a xs.length c] := heap_alloc_new w _
  have HO := hide (of_any a c xs (w.alloc (.cells #[.int .u8 lt, .slice a xs.length c] 53)) hx (hi.below hb1))
  have pl := posOk_lt xs
  have nl := negOk_lt xs
  have HI := hide h
  have HW := hide hw
  have HCB := hide hcb
  have HB1 := hide hb1
  have R1 := hide r1
  have HSN : Hid (stepN ns lt xs = (if lt = 100 then (match dropN ns (posOk xs) (negOk xs) with | none => ((8 : Int), ns) | some ns' => (0, ns')) else if followsN ns (posOk xs) (negOk xs) = false then (7, ns) else if lt = 97 then (0, addN ns (posOk xs) (negOk xs) 1) else (0, ns))) := rfl
  generalize stepN ns lt xs = SN at *
  generalize posOk xs = t at *
  generalize negOk xs = f at *
  generalize xs.all litB = al at *
  clear h hw hcb hb1 r1 hi
  go_enter Try.func22, Try.ntmps22
  go_wp2_with fail
  refine (unhide HO).mono ?_
  generalize w.alloc (.cells #[.int .u8 lt, .slice a xs.length c] 53) = w1 at *
  rintro e w2 ⟨rfl, hb2⟩
  have B2 : Hid (Below w.heap.size w w2) := HB1.out.trans (hb2.mono HB1.out.size)
  have hz2 : w.heap.size ≤ w2.heap.size := B2.out.size
  have hb3 : Below w2.heap.size w2 (w2.alloc (.cells #[.int .i64 t, .int .i64 f] 46)) := (Below.refl _ _).alloc (Nat.le_refl _) _
  have r3 : Row (w2.alloc (.cells #[.int .i64 t, .int .i64 f] 46)) w2.heap.size 46 [.int .i64 t, .int .i64 f] := heap_alloc_new w2 _
  have RL2 := row_below R1.out hb2
  have q0 : w2.cell? ⟨w.heap.size, 0, none⟩ = some (.int .u8 lt) := (RL2.cell 0).trans rfl
  have hlw : w.heap.size < w2.heap.size := RL2.lt
  have B3 : Hid (Below w.heap.size w (w2.alloc (.cells #[.int .i64 t, .int .i64 f] 46))) := B2.out.trans (hb3.mono hz2)
  have RL3 := hide (row_below RL2 hb3)
  have R3 := hide r3
  have T3 := hide (HI.out.below B3.out)
  have HD := hide (drop_any _ B cb na nc ns T3.out HW.out M HCB.out t f pl nl (by omega))
  have HF := hide (follows_any ns HW.out T3.out.pos cb na nc t f pl nl _ T3.out.row (nodes_own T3.out.own T3.out.pos))
  clear hb2 hb3 r3 HO RL2
  have hcast : ∀ b : Nat, (((lt : Nat) : Int) == (b : Int)) = (lt == b) := fun b => nat_beq _ _
  by_cases h100 : lt = 100
  · have k1 : (((lt : Nat) : Int) == 100) = true := by rw [show ((100 : Int)) = ((100 : Nat) : Int) from rfl, hcast]; simpa using h100
    have HSN2 := HSN.out
    rw [if_pos h100] at HSN2
    have HS2 := hide HSN2
    clear hcast HSN HSN2 h100 HF
    go_wp2_with fail
    refine (unhide HD).mono ?_
    intro e w4 hp
    cases hdr : dropN ns t f with
    | none =>
      rw [hdr] at hp HS2
      obtain ⟨rfl, hb4⟩ := hp
      have HN : Hid (TreeN w w4 B cb na nc ns.length na nc ns) := (TreeN.of HI.out B3.out).trans (TreeN.of T3.out hb4)
      clear hb4
      go_wp2
      go_ret
      rw [HS2.out]
      exact ⟨rfl, na, nc, HN.out⟩
    | some ns' =>
      rw [hdr] at hp HS2
      obtain ⟨rfl, na', nc', hn⟩ := hp
      have HN : Hid (TreeN w w4 B cb na nc ns.length na' nc' ns') := (TreeN.of HI.out B3.out).trans hn
      clear hn
      go_wp2
      go_ret
      rw [HS2.out]
      exact ⟨rfl, na', nc', HN.out⟩
  · have k1 : (((lt : Nat) : Int) == 100) = false := by rw [show ((100 : Int)) = ((100 : Nat) : Int) from rfl, hcast]; simpa using h100
    have HSN2 := HSN.out
    rw [if_neg h100] at HSN2
    have HS2 := hide HSN2
    clear HSN HSN2 h100 HD
    have k97 : (((lt : Nat) : Int) == 97) = (lt == 97) := hcast 97
    clear hcast
    go_wp2_with fail
    refine (unhide HF).mono ?_
    rintro e w4 ⟨rfl, hb4⟩
    have T4 := hide (T3.out.below hb4)
    have N4 : Hid (TreeN w w4 B cb na nc ns.length na nc ns) := (TreeN.of HI.out B3.out).trans (TreeN.of T3.out hb4)
    have RL4 := row_below RL3.out hb4
    have RS4 := row_below R3.out hb4
    have l0 : w4.cell? ⟨w.heap.size, 0, none⟩ = some (.int .u8 lt) := (RL4.cell 0).trans rfl
    have s0 : w4.cell? ⟨w2.heap.size, 0, none⟩ = some (.int .i64 t) := (RS4.cell 0).trans rfl
    have s1 : w4.cell? ⟨w2.heap.size, 1, none⟩ = some (.int .i64 f) := (RS4.cell 1).trans rfl
    have hz4 : B ≤ w4.heap.size := Nat.le_trans hB N4.out.kept.size
    have HA := hide (addC_any w4 B cb na nc ns T4.out HW.out M HCB.out t f 1 pl nl hz4 hl hM)
    clear hb4 RL4 RS4
    cases hfo : followsN ns t f with
    | false =>
      rw [hfo] at HS2
      go_wp2
      go_ret
      rw [HS2.out]
      exact ⟨rfl, na, nc, N4.out⟩
    | true =>
      rw [hfo] at HS2
      by_cases h97 : lt = 97
      · have k2 : (((lt : Nat) : Int) == 97) = true := by rw [k97]; simpa using h97
        have HS3 := HS2.out
        rw [if_neg (by simp), if_pos h97] at HS3
        have HS4 := hide HS3
        clear HS2 HS3 h97 k97
        go_wp2_with fail
        refine (unhide HA).mono ?_
        rintro e w5 ⟨rfl, na', nc', hn⟩
        have HN : Hid (TreeN w w5 B cb na nc ns.length na' nc' (addN ns t f 1)) := N4.out.trans hn
        clear hn
        go_wp2
        go_ret
        rw [HS4.out]
        exact ⟨rfl, na', nc', HN.out⟩
      · have k2 : (((lt : Nat) : Int) == 97) = false := by rw [k97]; simpa using h97
        have HS3 := HS2.out
        rw [if_neg (by simp), if_neg h97] at HS3
        have HS4 := hide HS3
        clear HS2 HS3 h97 k97
        go_wp2
        go_ret
        rw [HS4.out]
        exact ⟨rfl, na, nc, N4.out⟩

end Go.Proofs.Ythboeppmlhbofaa
