/-
  trail's New and Proof: the walks.
-/
import Derived.Test.YthboeppmlhbofaaGreatDoorLtx
namespace Go.Proofs.YthboeppmlhbofaaGreatDoor
open Go.RowKit Txt
set_option maxRecDepth 100000

/-- a solver's ten cells, as long as nothing is learnt -/
def solCells (r h l : Int) (ta : Option Addr) (n tc : Nat) (empty seen : Nat) : List Value :=
  [.int .i64 r, .int .i64 h, .int .i64 l, .slice ta n tc, .int .i64 empty, .int .i64 seen, .slice none 0 0, .slice none 0 0, .int .i64 0, .int .i64 0]

def reduceB (r : Int) : Bool := r == 0 || decide (12 ≤ r) && decide (r ≤ 64)
def roomB (h : Int) : Bool := decide (0 ≤ h) && decide (h ≤ 1048576)
theorem settings_parts (r h l : Int) : settingsB r h l = (reduceB r && roomB h && roomB l) := by
  unfold settingsB reduceB roomB
  simp only [Bool.and_assoc]

set_option maxHeartbeats 1000000 in
theorem isReduce_any (r : Int) (w : World) : Calls Tryz.prog 83 #[.int .i64 r] w fun e w' => e = .returned (.bool (reduceB r)) ∧ w' = w := by
  go_enter Tryz.func83, Tryz.ntmps83
  go_wp2
  all_goals
    go_ret
    refine ⟨?_, rfl⟩
    show Ending.returned (Value.bool _) = Ending.returned (Value.bool _)
    congr 2
    first
      | rfl
      | (rw [Bool.eq_iff_iff]; simp [reduceB]; omega)
      | (rw [Bool.eq_iff_iff]; simp [reduceB] <;> omega)
      | (simp_all [reduceB])
set_option maxHeartbeats 1000000 in
theorem isRoom_any (h : Int) (w : World) : Calls Tryz.prog 84 #[.int .i64 h] w fun e w' => e = .returned (.bool (roomB h)) ∧ w' = w := by
  go_enter Tryz.func84, Tryz.ntmps84
  go_wp2
  all_goals
    go_ret
    refine ⟨?_, rfl⟩
    show Ending.returned (Value.bool _) = Ending.returned (Value.bool _)
    congr 2
    rw [Bool.eq_iff_iff]
    simp only [roomB, Bool.and_eq_true, decide_eq_true_eq, Bool.false_eq_true, false_iff]
    omega

/-- what New hands back -/
def NewPost (r h l : Int) (w : World) (e : Ending) (w' : World) : Prop :=
  Below w.heap.size w w' ∧ if settingsB r h l then ∃ g, w.heap.size ≤ g ∧ e = .returned (.tuple #[.pointer (some ⟨g, 0, none⟩), .int .i64 0]) ∧ Row w' g 107 (solCells r h l none 0 0 0 0) else e = .returned (.tuple #[.pointer none, .int .i64 1])

set_option maxHeartbeats 2000000 in
theorem new_any (r h l : Int) (w : World) : Calls Tryz.prog 49 #[.agg #[.int .i64 r, .int .i64 h, .int .i64 l]] w fun e w' => NewPost r h l w e w' := by
  have A1 : Hid (∀ w, Calls Tryz.prog 83 #[.int .i64 r] w fun e w' => e = .returned (.bool (reduceB r)) ∧ w' = w) := fun w => isReduce_any r w
  have A2 : Hid (∀ n w, Calls Tryz.prog 84 #[.int .i64 n] w fun e w' => e = .returned (.bool (roomB n)) ∧ w' = w) := fun n w => isRoom_any n w
  have HS := hide (settings_parts r h l)
  have HB : Hid (∀ x, Below w.heap.size w (w.alloc x)) := fun x => (Below.refl _ _).alloc (Nat.le_refl _) x
  have HB2 : Hid (∀ x y, Below w.heap.size w ((w.alloc x).alloc y)) := fun x y => ((Below.refl _ _).alloc (Nat.le_refl _) x).alloc (by simp) y
  cases h1 : reduceB r with
  | false =>
    have hz : Hid (settingsB r h l = false) := by show _ = _; rw [HS.out, h1]; rfl
    rw [h1] at A1
    go_enter Tryz.func49, Tryz.ntmps49
    go_wp2_with (go_at_call 83; refine (unhide A1 _).mono ?_; rintro e w' ⟨rfl, hw⟩; obtain rfl := hw.symm)
    go_ret2
    exact ⟨HB.out _, by rw [hz.out]; rfl⟩
  | true =>
    rw [h1] at A1
    cases h2 : roomB h with
    | false =>
      have hz : Hid (settingsB r h l = false) := by show _ = _; rw [HS.out, h1, h2]; rfl
      go_enter Tryz.func49, Tryz.ntmps49
      go_wp2_with (first
        | (go_at_call 83; refine (unhide A1 _).mono ?_; rintro e w' ⟨rfl, hw⟩; obtain rfl := hw.symm)
        | (go_at_call 84; refine (unhide A2 _ _).mono ?_; rintro e w' ⟨rfl, hw⟩; obtain rfl := hw.symm))
      go_ret2
      exact ⟨HB.out _, by rw [hz.out]; rfl⟩
    | true =>
      cases h3 : roomB l with
      | false =>
        have hz : Hid (settingsB r h l = false) := by show _ = _; rw [HS.out, h1, h2, h3]; rfl
        go_enter Tryz.func49, Tryz.ntmps49
        go_wp2_with (first
          | (go_at_call 83; refine (unhide A1 _).mono ?_; rintro e w' ⟨rfl, hw⟩; obtain rfl := hw.symm)
          | (go_at_call 84; refine (unhide A2 _ _).mono ?_; rintro e w' ⟨rfl, hw⟩; obtain rfl := hw.symm))
        go_ret2
        exact ⟨HB.out _, by rw [hz.out]; rfl⟩
      | true =>
        have hz : Hid (settingsB r h l = true) := by show _ = _; rw [HS.out, h1, h2, h3]; rfl
        go_enter Tryz.func49, Tryz.ntmps49
        go_wp2_with (first
          | (go_at_call 83; refine (unhide A1 _).mono ?_; rintro e w' ⟨rfl, hw⟩; obtain rfl := hw.symm)
          | (go_at_call 84; refine (unhide A2 _ _).mono ?_; rintro e w' ⟨rfl, hw⟩; obtain rfl := hw.symm))
        go_ret2
        refine ⟨HB2.out _ _, ?_⟩
        rw [hz.out]
        exact ⟨w.heap.size + 1, Nat.le_succ _, rfl, heap_alloc2_new w _ _⟩

end Go.Proofs.YthboeppmlhbofaaGreatDoor

/-
  trail's Proof and Reset: the walks.
-/
namespace Go.Proofs.YthboeppmlhbofaaGreatDoor
open Go.RowKit Txt
set_option maxRecDepth 100000

set_option maxHeartbeats 1000000 in
theorem proof_any (g : Nat) (r h l : Int) (ta : Option Addr) (n tc em se : Nat) (w : World) (hr : Row w g 107 (solCells r h l ta n tc em se)) :
    Calls Tryz.prog 38 #[.pointer (some ⟨g, 0, none⟩)] w fun e w' => e = .returned (.string ⟨#[]⟩) ∧ w' = w := by
  have hcv : (convert 83 9 (.slice none 0 0)).run Tryz.prog w = .ok (.string ⟨#[]⟩) w := conv_own (t := []) (base := 0) ⟨rfl, .inl ⟨rfl, rfl⟩⟩
  have c7 : w.cell? ⟨g, 7, none⟩ = some (.slice none 0 0) := (hr.cell 7).trans rfl
  clear hr
  go_enter Tryz.func38, Tryz.ntmps38
  go_wp2
  go_ret
  exact ⟨rfl, rfl⟩

theorem grown_self (w : World) (g : Option Nat) : w.grownBy w g := ⟨rfl, rfl, rfl, Nat.le_refl _, fun _ _ _ => rfl⟩
theorem grown_set {w w' : World} {g i : Nat} {v : Value} (h : w.grownBy w' (some g)) : w.grownBy (w'.setCell ⟨g, i, none⟩ v) (some g) :=
  ⟨h.os, h.tape, h.output, by simpa [World.setCell] using h.size, fun k hk hn => (Below.heap_setCell w' ⟨g, i, none⟩ v k (fun e => hn (by rw [e]))).trans (h.block k hk hn)⟩

set_option maxHeartbeats 2000000 in
theorem resetS_any (g : Nat) (r h l : Int) (ta : Option Addr) (n tc em se : Nat) (w : World) (hr : Row w g 107 (solCells r h l ta n tc em se)) :
    Calls Tryz.prog 36 #[.pointer (some ⟨g, 0, none⟩)] w fun e w' => e = .returned (.tuple #[]) ∧ Row w' g 107 (solCells r h l none 0 0 0 0) ∧ w.grownBy w' (some g) := by
  have c0 : w.cell? ⟨g, 0, none⟩ = some (.int .i64 r) := (hr.cell 0).trans rfl
  have c1 : w.cell? ⟨g, 1, none⟩ = some (.int .i64 h) := (hr.cell 1).trans rfl
  have c2 : w.cell? ⟨g, 2, none⟩ = some (.int .i64 l) := (hr.cell 2).trans rfl
  have c3 : w.cell? ⟨g, 3, none⟩ = some (.slice ta n tc) := (hr.cell 3).trans rfl
  have c4 : w.cell? ⟨g, 4, none⟩ = some (.int .i64 em) := (hr.cell 4).trans rfl
  have c5 : w.cell? ⟨g, 5, none⟩ = some (.int .i64 se) := (hr.cell 5).trans rfl
  have c6 : w.cell? ⟨g, 6, none⟩ = some (.slice none 0 0) := (hr.cell 6).trans rfl
  have c7 : w.cell? ⟨g, 7, none⟩ = some (.slice none 0 0) := (hr.cell 7).trans rfl
  have c8 : w.cell? ⟨g, 8, none⟩ = some (.int .i64 0) := (hr.cell 8).trans rfl
  have c9 : w.cell? ⟨g, 9, none⟩ = some (.int .i64 0) := (hr.cell 9).trans rfl
  have z0 := hr.frozen 0
  have z1 := hr.frozen 1
  have z2 := hr.frozen 2
  have z3 := hr.frozen 3
  have z4 := hr.frozen 4
  have z5 := hr.frozen 5
  have z6 := hr.frozen 6
  have z7 := hr.frozen 7
  have z8 := hr.frozen 8
  have z9 := hr.frozen 9
  have HR := hide hr
  clear hr
  go_enter Tryz.func36, Tryz.ntmps36
  go_wp2
  go_end0
  refine ⟨rfl, ?_, ?_⟩
  · exact (((((((((HR.out.set 0 _).set 1 _).set 2 _).set 3 _).set 4 _).set 5 _).set 6 _).set 7 _).set 8 _).set 9 _
  · exact grown_set (grown_set (grown_set (grown_set (grown_set (grown_set (grown_set (grown_set (grown_set (grown_set (grown_self w _))))))))))

end Go.Proofs.YthboeppmlhbofaaGreatDoor
