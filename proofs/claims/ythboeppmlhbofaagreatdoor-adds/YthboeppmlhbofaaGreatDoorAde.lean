/-
  trail's Add, where the clause is full or taken: the walk.
-/
import Derived.Test.YthboeppmlhbofaaGreatDoorApn
namespace Go.Proofs.YthboeppmlhbofaaGreatDoor
open Go.RowKit Txt
set_option maxRecDepth 100000

set_option maxHeartbeats 4000000 in
theorem add_empty (g : Nat) (a : Option Addr) (c : Nat) (xs : List Int) (r h l : Int) (ta : Option Addr) (ss : List Pr) (tc em se : Nat) (w : World) (hx : xs.length ≤ 9223372036854775807) (hi : IntsAt w a xs) (hall : xs.all litB = true) (ht : (posN xs &&& negN xs != 0) = false)
    (hr : Row w g 107 (solCells r h l ta ss.length tc em se)) (hz : prSize (posN xs, negN xs) = 0) (hem : em ≤ 9223372036854775806) :
    Calls Tryz.prog 30 #[.pointer (some ⟨g, 0, none⟩), .slice a xs.length c] w fun e w' => e = .returned (.int .i64 0) ∧ Row w' g 107 (solCells r h l ta ss.length tc (em + 1) se) ∧ Kept w w' g (.slice none 0 0) := by
  have HO := hide (of_any a c xs w hx hi)
  have e1 : posOk xs = posN xs := by simp [posOk, hall]
  have e2 : negOk xs = negN xs := by simp [negOk, hall]
  have HT : Hid (∀ w, Calls Tryz.prog 60 #[.agg #[.int .i64 (posN xs : Nat), .int .i64 (negN xs : Nat)]] w fun e w' => e = .returned (.bool false) ∧ Below w.heap.size w w') := fun w => by
    have := isTaut_any (posN xs) (negN xs) (posN_lt xs hall) (negN_lt xs hall) w
    rwa [ht] at this
  have HZ : Hid (∀ w, Calls Tryz.prog 61 #[.agg #[.int .i64 (posN xs : Nat), .int .i64 (negN xs : Nat)]] w fun e w' => e = .returned (.int .i64 (prSize (posN xs, negN xs) : Nat)) ∧ Below w.heap.size w w') := fun w => lsize_any (posN xs) (negN xs) (posN_lt xs hall) (negN_lt xs hall) w
  rw [hall, e1, e2] at HO
  have h1 := prSize_le (posN xs, negN xs)
  generalize prSize (posN xs, negN xs) = z at *
  subst hz
  generalize posN xs = t at *
  generalize negN xs = f at *
  have HR := hide hr
  clear hi hall e1 e2 ht hr
  go_enter Tryz.func30, Tryz.ntmps30
  go_wp2_with fail
  refine (unhide HO).mono ?_
  rintro e w2 ⟨rfl, hb2⟩
  have hs2 : w.heap.size ≤ w2.heap.size := hb2.size
  have HB : Hid (∀ x, Below w.heap.size w (w2.alloc x)) := fun x => hb2.alloc hb2.size x
  clear hb2
  go_wp2_with fail
  refine (unhide HT _).mono ?_
  have m0 := new_cells1 w2 [.int .i64 (t : Nat), .int .i64 (f : Nat)] 101 0 _ rfl
  have m1 := new_cells1 w2 [.int .i64 (t : Nat), .int .i64 (f : Nat)] 101 1 _ rfl
  rw [addr0] at m0 m1
  simp only [Nat.zero_add] at m0 m1
  have e3 : w2.heap.size < (w2.alloc (.cells #[.int .i64 (t : Nat), .int .i64 (f : Nat)] 101)).heap.size := by simp
  have hbb := HB.out (.cells #[.int .i64 (t : Nat), .int .i64 (f : Nat)] 101)
  generalize w2.alloc (.cells #[.int .i64 (t : Nat), .int .i64 (f : Nat)] 101) = wb at *
  rintro e w3 ⟨rfl, hb3⟩
  have F : Hid (∀ w', Below w3.heap.size w3 w' → w'.cell? ⟨w2.heap.size, 0, none⟩ = some (.int .i64 (t : Nat)) ∧ w'.cell? ⟨w2.heap.size, 1, none⟩ = some (.int .i64 (f : Nat)) ∧ w'.cell? ⟨g, 3, none⟩ = some (.slice ta ss.length tc) ∧ Below w.heap.size w w') := by
    intro w' hb
    have hw3 : Below w.heap.size w w3 := hbb.trans (hb3.mono (by omega))
    have hw' : Below w.heap.size w w' := hw3.trans (hb.mono hw3.size)
    have hx3 : w2.heap.size < w3.heap.size := Nat.lt_of_lt_of_le e3 hb3.size
    exact ⟨(hb.cell (p := ⟨w2.heap.size, 0, none⟩) hx3).trans ((hb3.cell (p := ⟨w2.heap.size, 0, none⟩) e3).trans m0), (hb.cell (p := ⟨w2.heap.size, 1, none⟩) hx3).trans ((hb3.cell (p := ⟨w2.heap.size, 1, none⟩) e3).trans m1), ((row_below HR.out hw').cell 3).trans rfl, hw'⟩
  have hx3 : w2.heap.size < w3.heap.size := Nat.lt_of_lt_of_le e3 hb3.size
  clear hb3 hbb m0 m1 e3 HB HT HO
  obtain ⟨f0, f1, f2, _⟩ := F.out w3 (Below.refl _ _)
  go_wp2_with fail
  refine (unhide HZ _).mono ?_
  rintro e w4 ⟨rfl, hb4⟩
  have hbw : Below w.heap.size w w4 := (F.out w4 hb4).2.2.2
  have R2 := hide (row_below HR.out hbw)
  have c4 : w4.cell? ⟨g, 4, none⟩ = some (.int .i64 em) := (R2.out.cell 4).trans rfl
  have z4 := R2.out.frozen 4
  have HBW := hide hbw
  have HE : Hid (((em + 1 : Nat) : Int) = (em : Int) + 1) := by show _ = _; omega
  clear hb4 hbw F
  go_wp2
  go_ret
  refine ⟨rfl, ?_, (Kept.of g _ HBW.out).set 4 _⟩
  have := R2.out.set 4 (.int .i64 ((em : Int) + 1))
  rw [← HE.out] at this
  exact this

set_option maxHeartbeats 4000000 in
theorem add_full (g : Nat) (a : Option Addr) (c : Nat) (xs : List Int) (r h l : Int) (ta : Option Addr) (ss : List Pr) (tc em se : Nat) (w : World) (hx : xs.length ≤ 9223372036854775807) (hi : IntsAt w a xs) (hall : xs.all litB = true) (ht : (posN xs &&& negN xs != 0) = false)
    (hr : Row w g 107 (solCells r h l ta ss.length tc em se)) (hsa : SetsAt w ta ss) (hsl : ss.length ≤ 1000000) (hsb : Hid (∀ p ∈ ss, p.1 < 2 ^ 11 ∧ p.2 < 2 ^ 11)) (hz0 : prSize (posN xs, negN xs) ≠ 0) (hfull : 150 < prSize (posN xs, negN xs) + totalN ss) :
    Calls Tryz.prog 30 #[.pointer (some ⟨g, 0, none⟩), .slice a xs.length c] w fun e w' => e = .returned (.int .i64 5) ∧ Below w.heap.size w w' := by
  have HO := hide (of_any a c xs w hx hi)
  have e1 : posOk xs = posN xs := by simp [posOk, hall]
  have e2 : negOk xs = negN xs := by simp [negOk, hall]
  have HT : Hid (∀ w, Calls Tryz.prog 60 #[.agg #[.int .i64 (posN xs : Nat), .int .i64 (negN xs : Nat)]] w fun e w' => e = .returned (.bool false) ∧ Below w.heap.size w w') := fun w => by
    have := isTaut_any (posN xs) (negN xs) (posN_lt xs hall) (negN_lt xs hall) w
    rwa [ht] at this
  have HZ : Hid (∀ w, Calls Tryz.prog 61 #[.agg #[.int .i64 (posN xs : Nat), .int .i64 (negN xs : Nat)]] w fun e w' => e = .returned (.int .i64 (prSize (posN xs, negN xs) : Nat)) ∧ Below w.heap.size w w') := fun w => lsize_any (posN xs) (negN xs) (posN_lt xs hall) (negN_lt xs hall) w
  have HTT : Hid (∀ w', Below w.heap.size w w' → Calls Tryz.prog 62 #[.slice ta ss.length tc] w' fun e w'' => e = .returned (.int .i64 (totalN ss : Nat)) ∧ Below w'.heap.size w' w'') := fun w' hb => total_any ta tc ss w' (hsa.below hb) hsl hsb
  have h2 := totalN_le ss
  rw [hall, e1, e2] at HO
  have h1 := prSize_le (posN xs, negN xs)
  generalize prSize (posN xs, negN xs) = z at *
  generalize totalN ss = tot at *
  generalize posN xs = t at *
  generalize negN xs = f at *
  have HR := hide hr
  have hfi : ((z : Int) + tot > 150) := by omega
  clear hi hall e1 e2 ht hr hsa
  go_enter Tryz.func30, Tryz.ntmps30
  go_wp2_with fail
  refine (unhide HO).mono ?_
  rintro e w2 ⟨rfl, hb2⟩
  have hs2 : w.heap.size ≤ w2.heap.size := hb2.size
  have HB : Hid (∀ x, Below w.heap.size w (w2.alloc x)) := fun x => hb2.alloc hb2.size x
  clear hb2
  go_wp2_with fail
  refine (unhide HT _).mono ?_
  have m0 := new_cells1 w2 [.int .i64 (t : Nat), .int .i64 (f : Nat)] 101 0 _ rfl
  have m1 := new_cells1 w2 [.int .i64 (t : Nat), .int .i64 (f : Nat)] 101 1 _ rfl
  rw [addr0] at m0 m1
  simp only [Nat.zero_add] at m0 m1
  have e3 : w2.heap.size < (w2.alloc (.cells #[.int .i64 (t : Nat), .int .i64 (f : Nat)] 101)).heap.size := by simp
  have hbb := HB.out (.cells #[.int .i64 (t : Nat), .int .i64 (f : Nat)] 101)
  generalize w2.alloc (.cells #[.int .i64 (t : Nat), .int .i64 (f : Nat)] 101) = wb at *
  rintro e w3 ⟨rfl, hb3⟩
  have F : Hid (∀ w', Below w3.heap.size w3 w' → w'.cell? ⟨w2.heap.size, 0, none⟩ = some (.int .i64 (t : Nat)) ∧ w'.cell? ⟨w2.heap.size, 1, none⟩ = some (.int .i64 (f : Nat)) ∧ w'.cell? ⟨g, 3, none⟩ = some (.slice ta ss.length tc) ∧ Below w.heap.size w w') := by
    intro w' hb
    have hw3 : Below w.heap.size w w3 := hbb.trans (hb3.mono (by omega))
    have hw' : Below w.heap.size w w' := hw3.trans (hb.mono hw3.size)
    have hx3 : w2.heap.size < w3.heap.size := Nat.lt_of_lt_of_le e3 hb3.size
    exact ⟨(hb.cell (p := ⟨w2.heap.size, 0, none⟩) hx3).trans ((hb3.cell (p := ⟨w2.heap.size, 0, none⟩) e3).trans m0), (hb.cell (p := ⟨w2.heap.size, 1, none⟩) hx3).trans ((hb3.cell (p := ⟨w2.heap.size, 1, none⟩) e3).trans m1), ((row_below HR.out hw').cell 3).trans rfl, hw'⟩
  have hx3 : w2.heap.size < w3.heap.size := Nat.lt_of_lt_of_le e3 hb3.size
  clear hb3 hbb m0 m1 e3 HB HT HO
  obtain ⟨f0, f1, f2, _⟩ := F.out w3 (Below.refl _ _)
  go_wp2_with fail
  refine (unhide HZ _).mono ?_
  rintro e w4 ⟨rfl, hb4⟩
  clear f0 f1 f2
  obtain ⟨f0, f1, f2, _⟩ := F.out w4 hb4
  have Bc : Hid (Below w3.heap.size w3 w4.drew) := below_drewN hb4 1
  clear hb4
  have hwrap : IntKind.i64.wrap ((z : Int) + tot) = (z : Int) + tot := by rw [IntKind.wrap_i64]; omega
  have hzi : (((z : Nat) : Int) == 0) = false := by simp; omega
  go_wp2_with fail
  go_region_with (first
    | (go_at_call 61; refine (unhide HZ _).mono ?_; rintro e wa ⟨rfl, hba⟩; have Bc : Hid (Below w3.heap.size w3 wa) := Bc.out.trans (hba.mono Bc.out.size); clear hba; obtain ⟨f0, f1, f2, _⟩ := F.out wa Bc.out)
    | (go_at_call 62; refine (unhide HTT _ (F.out _ Bc.out).2.2.2).mono ?_; rintro e wa ⟨rfl, hba⟩; have Bc : Hid (Below w3.heap.size w3 wa) := Bc.out.trans (hba.mono Bc.out.size); clear hba; obtain ⟨f0, f1, f2, _⟩ := F.out wa Bc.out))
  all_goals
    go_wp2
    go_ret
    exact ⟨rfl, (F.out _ Bc.out).2.2.2⟩

end Go.Proofs.YthboeppmlhbofaaGreatDoor
