/-
  trail's Counts: the walk.
-/
import Derived.Test.YthboeppmlhbofaaGreatDoorAde
import Derived.Deep.RegionHeld3
namespace Go.Proofs.YthboeppmlhbofaaGreatDoor
open Go.RowKit Txt
set_option maxRecDepth 100000

theorem countsType : ∃ fs, Tryz.prog.underlying 66 = some (.struct fs) := by
  have h : (Tryz.prog.underlying 66).map isStruct = some true := by kernel_rfl
  cases hu : Tryz.prog.underlying 66 with
  | none => rw [hu] at h; simp at h
  | some d =>
    rw [hu] at h
    cases d with
    | struct fs => exact ⟨fs, rfl⟩
    | _ => simp [isStruct] at h
theorem countsSize : (Tryz.prog.info? 66).map (·.size) = some 7 := by kernel_rfl
def zeros7 : List Value := [.int .i64 0, .int .i64 0, .int .i64 0, .int .i64 0, .int .i64 0, .int .i64 0, .int .i64 0]
theorem counts_ret {w' : World} {tmps : Array Value} {g : Nat} {a b c d e f h : Value} (hr : Row w' g 66 [a, b, c, d, e, f, h]) (h2 : tmps.getD 2 undef = .pointer (some ⟨g, 0, none⟩)) :
    (results Tryz.f37 tmps).run Tryz.prog w' = .ok (.agg #[a, b, c, d, e, f, h]) w' := by
  obtain ⟨fs, hu⟩ := countsType
  exact results_cell_row rfl tmps w' g 66 #[a, b, c, d, e, f, h] (0, 0) (.struct fs) h2 hr hu rfl countsSize

set_option maxHeartbeats 8000000 in
theorem counts_any (g : Nat) (r h l : Int) (ta : Option Addr) (ss : List Pr) (tc em se : Nat) (w : World) (hr : Row w g 107 (solCells r h l ta ss.length tc em se)) (hsa : SetsAt w ta ss) (hsl : ss.length ≤ 1000000) (hsb : Hid (∀ p ∈ ss, p.1 < 2 ^ 11 ∧ p.2 < 2 ^ 11)) (hse : se < 2 ^ 11) (hem : em ≤ 1000000) :
    Calls Tryz.prog 37 #[.pointer (some ⟨g, 0, none⟩)] w fun e w' => e = .returned (.agg #[.int .i64 (cvN se : Nat), .int .i64 ((ss.length : Int) + em), .int .i64 (totalN ss : Nat), .int .i64 0, .int .i64 0, .int .i64 0, .int .i64 0]) ∧ Below w.heap.size w w' := by
  have HC : Hid (∀ w, Calls Tryz.prog 66 #[.int .i64 se] w fun e w' => e = .returned (.int .i64 (cvN se : Nat)) ∧ w' = w) := fun w => countVars_any se hse w
  have HTT : Hid (∀ w' v k, Below w.heap.size w w' → (v = .slice ta ss.length tc ∧ k = totalN ss ∨ v = .slice none 0 0 ∧ k = 0) → Calls Tryz.prog 62 #[v] w' fun e w'' => e = .returned (.int .i64 (k : Nat)) ∧ Below w'.heap.size w' w'') := by
    rintro w' v k hb (⟨rfl, rfl⟩ | ⟨rfl, rfl⟩)
    · exact total_any ta tc ss w' (hsa.below hb) hsl hsb
    · exact total_any none 0 [] w' (.inl rfl) (Nat.zero_le _) (fun p hp => by simp at hp)
  generalize cvN se = cv at *
  generalize totalN ss = tot at *
  have HR := hide hr
  have hgl : g < w.heap.size := hr.lt
  have rA : Row (w.alloc (.cells zeros7.toArray 66)) w.heap.size 66 zeros7 := heap_alloc_new w _
  have hbA : Below w.heap.size w (w.alloc (.cells zeros7.toArray 66)) := (Below.refl _ _).alloc (Nat.le_refl _) _
  have hwrap : IntKind.i64.wrap ((ss.length : Int) + em) = (ss.length : Int) + em := by rw [IntKind.wrap_i64]; omega
  clear hr hsa
  go_enter Tryz.func37, Tryz.ntmps37
  go_wp2_with fail
  simp only [zeros7] at rA hbA
  generalize w.alloc (.cells #[.int .i64 0, .int .i64 0, .int .i64 0, .int .i64 0, .int .i64 0, .int .i64 0, .int .i64 0] 66) = wA at *
  have F : Hid (∀ w', Below wA.heap.size wA w' → (w'.cell? ⟨g, 3, none⟩ = some (.slice ta ss.length tc) ∧ w'.cell? ⟨g, 4, none⟩ = some (.int .i64 em) ∧ w'.cell? ⟨g, 5, none⟩ = some (.int .i64 se) ∧ w'.cell? ⟨g, 6, none⟩ = some (.slice none 0 0) ∧ w'.cell? ⟨g, 8, none⟩ = some (.int .i64 0) ∧ w'.cell? ⟨g, 9, none⟩ = some (.int .i64 0)) ∧ Below w.heap.size w w' ∧ Row w' w.heap.size 66 zeros7) := by
    intro w' hb
    have hw' : Below w.heap.size w w' := hbA.trans (hb.mono hbA.size)
    have R := row_below HR.out hw'
    exact ⟨⟨(R.cell 3).trans rfl, (R.cell 4).trans rfl, (R.cell 5).trans rfl, (R.cell 6).trans rfl, (R.cell 8).trans rfl, (R.cell 9).trans rfl⟩, hw', row_below rA hb⟩
  have Bc : Hid (Below wA.heap.size wA wA.drew) := below_drewN (Below.refl _ _) 1
  obtain ⟨⟨c3, c4, c5, c6, c8, c9⟩, _, _⟩ := F.out wA (Below.refl _ _)
  have hne : w.heap.size ≠ g := by omega
  clear rA hbA HR
  go_region_held3 (fun w' => w'.cell? ⟨g, 3, none⟩ = some (.slice ta ss.length tc) ∧ w'.cell? ⟨g, 4, none⟩ = some (.int .i64 em) ∧ w'.cell? ⟨g, 5, none⟩ = some (.int .i64 se) ∧ w'.cell? ⟨g, 6, none⟩ = some (.slice none 0 0) ∧ w'.cell? ⟨g, 8, none⟩ = some (.int .i64 0) ∧ w'.cell? ⟨g, 9, none⟩ = some (.int .i64 0)) (go_keep)
    (first
      | (go_at_call 66; refine (unhide HC _).mono ?_; rintro e w' ⟨rfl, rfl⟩)
      | (go_at_call 62; refine (unhide HTT _ _ _ (F.out _ Bc.out).2.1 (by first | exact .inl ⟨rfl, rfl⟩ | exact .inr ⟨rfl, rfl⟩)).mono ?_; rintro e wa ⟨rfl, hba⟩; have Bc : Hid (Below wA.heap.size wA wa) := Bc.out.trans (hba.mono Bc.out.size); clear hba; obtain ⟨⟨c3, c4, c5, c6, c8, c9⟩, _, RZ⟩ := F.out wa Bc.out;
          have z0 := RZ.cell 0; have z1 := RZ.cell 1; have z2 := RZ.cell 2; have z3 := RZ.cell 3; have z4 := RZ.cell 4; have z5 := RZ.cell 5; have z6 := RZ.cell 6; simp only [zeros7, List.getElem?_cons_zero, List.getElem?_cons_succ] at z0 z1 z2 z3 z4 z5 z6;
          have y0 := RZ.frozen 0; have y1 := RZ.frozen 1; have y2 := RZ.frozen 2; have y3 := RZ.frozen 3; have y4 := RZ.frozen 4; have y5 := RZ.frozen 5; have y6 := RZ.frozen 6; have RZ := hide RZ))
  have R9 := hide (((((((RZ.out.set 0 (.int .i64 (cv : Nat))).set 1 (.int .i64 ((ss.length : Int) + em))).set 2 (.int .i64 (tot : Nat))).set 3 (.int .i64 0)).set 4 (.int .i64 0)).set 5 (.int .i64 0)).set 6 (.int .i64 0))
  have HB : Hid (Below w.heap.size w wa) := (F.out _ Bc.out).2.1
  clear F HTT HC
  go_wp2
  refine bodyPost_ret (v := .agg #[.int .i64 (cv : Nat), .int .i64 ((ss.length : Int) + em), .int .i64 (tot : Nat), .int .i64 0, .int .i64 0, .int .i64 0, .int .i64 0]) (counts_ret (a := .int .i64 (cv : Nat)) (b := .int .i64 ((ss.length : Int) + em)) (c := .int .i64 (tot : Nat)) (d := .int .i64 0) (e := .int .i64 0) (f := .int .i64 0) (h := .int .i64 0) R9.out rfl) rfl ⟨rfl, ?_⟩
  exact ((((((HB.out.setCell (p := ⟨w.heap.size, 0, none⟩) (Nat.le_refl _) _).setCell (p := ⟨w.heap.size, 1, none⟩) (Nat.le_refl _) _).setCell (p := ⟨w.heap.size, 2, none⟩) (Nat.le_refl _) _).setCell (p := ⟨w.heap.size, 3, none⟩) (Nat.le_refl _) _).setCell (p := ⟨w.heap.size, 4, none⟩) (Nat.le_refl _) _).setCell (p := ⟨w.heap.size, 5, none⟩) (Nat.le_refl _) _).setCell (p := ⟨w.heap.size, 6, none⟩) (Nat.le_refl _) _

end Go.Proofs.YthboeppmlhbofaaGreatDoor
