/-
  Lists of numbers, and lists of such lists, as they lie in memory; the walks that only read them.
-/
import Derived.Test.YthboeppmlhbofaaGreatDoorStr
import Derived.Deep.QuietTactic
import Derived.BigQuiet
namespace Go.Proofs.YthboeppmlhbofaaGreatDoor
open Go.RowKit Txt
set_option maxRecDepth 100000

/-- numbers behind an address -/
def IntsAt (w : World) (a : Option Addr) (xs : List Int) : Prop :=
  xs = [] ∨ ∃ b off, a = some ⟨b, off, none⟩ ∧ ∀ j, j < xs.length → w.cell? ⟨b, off + j, none⟩ = some (.int .i64 (xs.getD j 0))
/-- lists behind an address: row r is '.slice (A r) .. (C r)' -/
def RowsAt (w : World) (a : Option Addr) (A : Nat → Option Addr) (C : Nat → Nat) (xss : List (List Int)) : Prop :=
  xss = [] ∨ ∃ b off, a = some ⟨b, off, none⟩ ∧ ∀ r, r < xss.length → w.cell? ⟨b, off + r, none⟩ = some (.slice (A r) (xss.getD r []).length (C r)) ∧ IntsAt w (A r) (xss.getD r []) ∧ (xss.getD r []).length ≤ 9223372036854775807

theorem IntsAt.get {w : World} {a : Option Addr} {xs : List Int} (h : IntsAt w a xs) (hp : 0 < xs.length) :
    ∃ b off, a = some ⟨b, off, none⟩ ∧ ∀ j, j < xs.length → w.cell? ⟨b, off + j, none⟩ = some (.int .i64 (xs.getD j 0)) := by
  rcases h with rfl | h
  · simp at hp
  · exact h
theorem RowsAt.get {w : World} {a : Option Addr} {A : Nat → Option Addr} {C : Nat → Nat} {xss : List (List Int)} (h : RowsAt w a A C xss) (hp : 0 < xss.length) :
    ∃ b off, a = some ⟨b, off, none⟩ ∧ ∀ r, r < xss.length → w.cell? ⟨b, off + r, none⟩ = some (.slice (A r) (xss.getD r []).length (C r)) ∧ IntsAt w (A r) (xss.getD r []) ∧ (xss.getD r []).length ≤ 9223372036854775807 := by
  rcases h with rfl | h
  · simp at hp
  · exact h
theorem IntsAt.kept {w w' : World} {a : Option Addr} {xs : List Int} (h : IntsAt w a xs) (hk : ∀ b off v, w.cell? ⟨b, off, none⟩ = some v → w'.cell? ⟨b, off, none⟩ = some v) : IntsAt w' a xs := by
  rcases h with h | ⟨b, off, ha, h⟩
  · exact .inl h
  · exact .inr ⟨b, off, ha, fun j hj => hk _ _ _ (h j hj)⟩
theorem RowsAt.kept {w w' : World} {a : Option Addr} {A : Nat → Option Addr} {C : Nat → Nat} {xss : List (List Int)} (h : RowsAt w a A C xss) (hk : ∀ b off v, w.cell? ⟨b, off, none⟩ = some v → w'.cell? ⟨b, off, none⟩ = some v) : RowsAt w' a A C xss := by
  rcases h with h | ⟨b, off, ha, h⟩
  · exact .inl h
  · exact .inr ⟨b, off, ha, fun r hr => ⟨hk _ _ _ (h r hr).1, (h r hr).2.1.kept hk, (h r hr).2.2⟩⟩

theorem drop_get {α : Type} (l : List α) (d : α) (j : Nat) (h : j < l.length) : l.drop j = l.getD j d :: l.drop (j + 1) := by
  rw [List.drop_eq_getElem_cons h, List.getD_eq_getElem?_getD, List.getElem?_eq_getElem h]; rfl

def eqB {α : Type} [DecidableEq α] (a b : α) : Bool := decide (a = b)
theorem eqB_drop {α : Type} [DecidableEq α] (xs ys : List α) (d : α) (j : Nat) (h1 : j < xs.length) (h2 : j < ys.length) :
    eqB (xs.drop j) (ys.drop j) = (eqB (xs.getD j d) (ys.getD j d) && eqB (xs.drop (j + 1)) (ys.drop (j + 1))) := by
  rw [drop_get xs d j h1, drop_get ys d j h2]
  simp only [eqB, List.cons.injEq, Bool.decide_and]
theorem eqB_len {α : Type} [DecidableEq α] (xs ys : List α) (h : xs.length ≠ ys.length) : eqB xs ys = false := by
  simp only [eqB, decide_eq_false_iff_not]
  intro e; exact h (by rw [e])
theorem eqB_end {α : Type} [DecidableEq α] (xs ys : List α) (j : Nat) (h1 : xs.length ≤ j) (h2 : ys.length ≤ j) : eqB (xs.drop j) (ys.drop j) = true := by
  rw [List.drop_eq_nil_of_le h1, List.drop_eq_nil_of_le h2]; simp [eqB]

def litsB (xss : List (List Int)) : Bool := xss.all (·.all litB)

set_option maxHeartbeats 1000000 in
theorem allLiterals_any (a : Option Addr) (n c : Nat) (A : Nat → Option Addr) (C : Nat → Nat) (xss : List (List Int)) (w : World) (hn : n = xss.length) (hbd : n ≤ 9223372036854775807) (hr : RowsAt w a A C xss) :
    Calls Tryz.prog 114 #[.slice a n c] w fun e w' => e = .returned (.bool (litsB xss)) ∧ w' = w := by
  subst hn
  go_enter Tryz.func114, Tryz.ntmps114
  go_wp2
  go_loop [9] (fun i => ∃ k : Nat, k ≤ xss.length ∧ i = .int .i64 k ∧ Hid (litsB xss = litsB (xss.drop k))) (fun i => xss.length - (intOf i).toNat)
  case atStart => exact ⟨0, Nat.zero_le _, rfl, rfl⟩
  case round =>
    obtain ⟨k, hk, rfl, hl⟩ := hrel
    by_cases hlt : k < xss.length
    · obtain ⟨b, off, rfl, hc⟩ := hr.get (by omega)
      obtain ⟨h1, h2, hbi⟩ := hc k (by omega)
      have HD : Hid (litsB (xss.drop k) = ((xss.getD k []).all litB && litsB (xss.drop (k + 1)))) := by
        show _ = _
        rw [drop_get xss [] k (by omega)]; rfl
      clear hc hr
      generalize xss.getD k [] = xs at h1 h2 HD hbi
      generalize A k = ak at h1 h2
      go_wp2
      go_loop [15] (fun i => ∃ j : Nat, j ≤ xs.length ∧ i = .int .i64 j ∧ Hid (xs.all litB = (xs.drop j).all litB)) (fun i => xs.length - (intOf i).toNat)
      case atStart => exact ⟨0, Nat.zero_le _, rfl, rfl⟩
      case round =>
        obtain ⟨j, hj, rfl, hl2⟩ := hrel
        by_cases hlt2 : j < xs.length
        · obtain ⟨b2, off2, rfl, hc2⟩ := h2.get (by omega)
          have h3 := hc2 j hlt2
          have HE : Hid ((xs.drop j).all litB = (litB (xs.getD j 0) && (xs.drop (j + 1)).all litB)) := by
            show _ = _
            rw [drop_get xs 0 j hlt2]; rfl
          clear h2 hc2
          generalize xs.getD j 0 = x at h3 HE
          cases hb : litB x
          · go_wp2_with (go_at_call 93; refine (is_any _ _).mono ?_; rintro e w' ⟨rfl, rfl⟩)
            go_ret
            exact ⟨ret_bool (by rw [hl.out, HD.out, hl2.out, HE.out, hb] <;> rfl), rfl⟩
          · go_wp2_with (go_at_call 93; refine (is_any _ _).mono ?_; rintro e w' ⟨rfl, rfl⟩)
            go_round
            case rel => exact ⟨j + 1, by omega, by go_num, by show _ = _; rw [hl2.out, HE.out, hb] <;> rfl⟩
            case measure => simp [intOf]; omega
        · have HE : Hid ((xs.drop j).all litB = true) := by show _ = _; rw [List.drop_eq_nil_of_le (by omega)]; rfl
          go_wp2
          go_round
          case rel => exact ⟨k + 1, by omega, by go_num, by show _ = _; rw [hl.out, HD.out, hl2.out, HE.out] <;> rfl⟩
          case measure => simp [intOf]; omega
    · have HE : Hid (litsB (xss.drop k) = true) := by show _ = _; rw [List.drop_eq_nil_of_le (by omega)]; rfl
      go_wp2
      go_ret
      exact ⟨ret_bool (by rw [hl.out, HE.out] <;> rfl), rfl⟩

end Go.Proofs.YthboeppmlhbofaaGreatDoor
