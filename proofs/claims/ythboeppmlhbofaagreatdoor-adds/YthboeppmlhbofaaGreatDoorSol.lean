/-
  A solver of the program's, as the document counts it.
-/
import Derived.Test.YthboeppmlhbofaaGreatDoorCnt
import Derived.Test.YthboeppmlhbofaaGreatDoorAdf
namespace Go.Proofs.YthboeppmlhbofaaGreatDoor
open Go.RowKit Txt
set_option maxRecDepth 100000

theorem own_frame {w w' : World} {B e s n : Nat} {v : Value} {xs : List Value} (h : w.ownsRow B e s v n xs) (hk : ∀ b, v.ownBlock = some b → w'.heap[b]? = w.heap[b]?) : w'.ownsRow B e s v n xs := by
  refine ⟨h.1, ?_⟩
  rcases h.2 with hn | ⟨g, cap, cur, hv, h1, hg, r⟩
  · exact .inl hn
  · exact .inr ⟨g, cap, cur, hv, h1, (hk g (by subst hv; rfl)).trans hg, r⟩
theorem own_lt {w : World} {B e s n : Nat} {v : Value} {xs : List Value} (h : w.ownsRow B e s v n xs) (b : Nat) (hb : v.ownBlock = some b) : b < w.heap.size := (h.lt b hb).2
theorem own_setsAt {w : World} {B : Nat} {ta : Option Addr} {tc : Nat} {ss : List Pr} (h : w.ownsRow B 101 2 (.slice ta ss.length tc) ss.length (prCells ss)) : SetsAt w ta ss := by
  rcases h.2 with ⟨_, h0⟩ | ⟨g, cap, cur, hv, _⟩
  · exact .inl (List.eq_nil_of_length_eq_zero h0)
  · simp only [Value.slice.injEq] at hv
    obtain ⟨rfl, _, rfl⟩ := hv
    refine .inr ⟨g, 0, rfl, fun j hj => ?_⟩
    have key : ∀ (l : List Pr) (j : Nat), j < l.length → (prCells l)[j * 2]? = some (.int .i64 ((l.getD j (0, 0)).1 : Nat)) ∧ (prCells l)[j * 2 + 1]? = some (.int .i64 ((l.getD j (0, 0)).2 : Nat)) := by
      intro l
      induction l with
      | nil => intro j hj; simp at hj
      | cons p l ih =>
        intro j hj
        cases j with
        | zero => exact ⟨rfl, rfl⟩
        | succ j =>
          have := ih j (by simpa using hj)
          have e : prCells (p :: l) = .int .i64 (p.1 : Nat) :: .int .i64 (p.2 : Nat) :: prCells l := by simp [prCells]
          rw [e]
          have e2 : (j + 1) * 2 = j * 2 + 1 + 1 := by omega
          rw [e2]
          simpa using this
    have h1 := h.cells (g := g) rfl _ _ (key ss j hj).1
    have h2 := h.cells (g := g) rfl _ _ (key ss j hj).2
    rw [addr0] at h1 h2
    exact ⟨h1, h2⟩

/-- clauses taken, their literals, the variables seen -/
def TrI (w : World) (B g : Nat) (tv : Value) (cnt lits seen : Nat) : Prop :=
  ∃ (r h l : Int) (ta : Option Addr) (ss : List Pr) (tc em se : Nat), tv = .slice ta ss.length tc ∧ Row w g 107 (solCells r h l ta ss.length tc em se) ∧ w.ownsRow B 101 2 (.slice ta ss.length tc) ss.length (prCells ss) ∧ ss.length + em = cnt ∧ totalN ss = lits ∧ lits ≤ 150 ∧
    (∀ p ∈ ss, p.1 < 2 ^ 11 ∧ p.2 < 2 ^ 11) ∧ Two seen se 0
theorem TrI.frame {w w' : World} {B g cnt lits seen : Nat} {tv : Value} (h : TrI w B g tv cnt lits seen) (hg : w'.heap[g]? = w.heap[g]?) (hk : ∀ b, tv.ownBlock = some b → w'.heap[b]? = w.heap[b]?) : TrI w' B g tv cnt lits seen := by
  obtain ⟨r, h0, l, ta, ss, tc, em, se, e, h1, h2, h3⟩ := h
  subst e
  exact ⟨r, h0, l, ta, ss, tc, em, se, rfl, hg.trans h1, own_frame h2 hk, h3⟩
theorem TrI.lt {w : World} {B g cnt lits seen : Nat} {tv : Value} (h : TrI w B g tv cnt lits seen) : g < w.heap.size ∧ ∀ b, tv.ownBlock = some b → b < w.heap.size := by
  obtain ⟨r, h0, l, ta, ss, tc, em, se, e, h1, h2, h3⟩ := h
  subst e
  exact ⟨h1.lt, own_lt h2⟩
theorem TrI.le {w : World} {B g cnt lits seen : Nat} {tv : Value} (h : TrI w B g tv cnt lits seen) : ∀ b, tv.ownBlock = some b → B ≤ b := by
  obtain ⟨r, h0, l, ta, ss, tc, em, se, e, h1, h2, h3⟩ := h
  subst e
  exact fun b hb => (h2.lt b hb).1
theorem TrI.below {w w' : World} {B g cnt lits seen : Nat} {tv : Value} (h : TrI w B g tv cnt lits seen) (hb : Below w.heap.size w w') : TrI w' B g tv cnt lits seen := h.frame (hb.block g h.lt.1) (fun b e => hb.block b (h.lt.2 b e))
theorem TrI.ne {w : World} {B g cnt lits seen : Nat} {tv : Value} (h : TrI w B g tv cnt lits seen) (b : Nat) (e : tv.ownBlock = some b) : b ≠ g := by
  obtain ⟨r, h0, l, ta, ss, tc, em, se, e', h1, h2, h3⟩ := h
  subst e'
  intro eq
  subst eq
  rcases h2.2 with ⟨hv, _⟩ | ⟨g', cap, cur, hv, _, hg, _⟩
  · rw [hv] at e; simp [Value.ownBlock] at e
  · rw [hv] at e
    simp only [Value.ownBlock, Option.some.injEq] at e
    subst e
    have hr' : w.heap[g']? = some (.cells (solCells r h0 l ta ss.length tc em se).toArray 107 (0, 0)) := h1
    rw [hr'] at hg
    simp only [Option.some.injEq, Obj.cells.injEq] at hg
    exact n_set hg.2.1.symm
/-- the types of a solver's blocks -/
theorem TrI.types {w : World} {B g cnt lits seen : Nat} {tv : Value} (h : TrI w B g tv cnt lits seen) : (∃ cs fr, w.heap[g]? = some (.cells cs 107 fr)) ∧ ∀ b, tv.ownBlock = some b → ∃ cs fr, w.heap[b]? = some (.cells cs 101 fr) := by
  obtain ⟨r, h0, l, ta, ss, tc, em, se, e, h1, h2, h3⟩ := h
  subst e
  refine ⟨⟨_, _, h1⟩, fun b hb => ?_⟩
  rcases h2.2 with ⟨hv, _⟩ | ⟨g', cap, cur, hv, _, hg, _⟩
  · rw [hv] at hb; simp [Value.ownBlock] at hb
  · rw [hv] at hb
    simp only [Value.ownBlock, Option.some.injEq] at hb
    subst hb
    exact ⟨_, _, hg⟩

theorem cv_zero {t : Nat} (h : cvN t = 0) (ht : t < 2 ^ 11) (h0 : t.testBit 0 = false) : t = 0 := by
  refine lt_of_bits ht h0 (fun v hv => ?_)
  simp only [cvN, cvTo, Nat.add_eq_zero_iff, Bool.toNat_eq_zero] at h
  have hq : v = 0 ∨ v = 1 ∨ v = 2 ∨ v = 3 ∨ v = 4 ∨ v = 5 ∨ v = 6 ∨ v = 7 ∨ v = 8 ∨ v = 9 := by omega
  rcases hq with rfl | rfl | rfl | rfl | rfl | rfl | rfl | rfl | rfl | rfl <;> simp_all
theorem setN_zero {xs : List Int} (h : xs.all litB = true) (hz : prSize (posN xs, negN xs) = 0) : setN xs = 0 := by
  have hT := Two.set xs h
  have hz' : cvN (posN xs) + cvN (negN xs) = 0 := hz
  have e1 := cv_zero (t := posN xs) (by omega) hT.lt hT.zt
  have e2 := cv_zero (t := negN xs) (by omega) hT.lf hT.zf
  rw [e1, e2] at hT
  exact zero_of_bits hT.top (fun v hv => by rw [hT.pos v hv]; simp) (fun v hv => by rw [hT.neg v hv]; simp)
theorem varsN_zero : varsN 0 = 0 := by decide
theorem sizeN_zero : sizeN 0 = 0 := by decide
theorem totalN_snoc (ss : List Pr) (p : Pr) : totalN (ss ++ [p]) = totalN ss + prSize p := by simp [totalN]

end Go.Proofs.YthboeppmlhbofaaGreatDoor

/-
  trail's Add, as the document counts it.
-/
namespace Go.Proofs.YthboeppmlhbofaaGreatDoor
open Go.RowKit Txt
set_option maxRecDepth 100000

def Tk.tk (k : Tk) : Bool := match k with | .takes => true | _ => false
theorem Kept.weak {w w' : World} {g : Nat} (h : Kept w w' g (.slice none 0 0)) (v : Value) : Kept w w' g v := ⟨h.os, h.tape, h.output, h.size, fun k hk hg _ => h.block k hk hg (by simp [Value.ownBlock])⟩
/-- what Add did: its error; what the solver then counts -/
def AdPost (w : World) (B g : Nat) (tv : Value) (cnt lits seen : Nat) (xs : List Int) (e : Ending) (w' : World) : Prop :=
  e = .returned (.int .i64 (errOf (takenK xs lits))) ∧ ∃ tv', TrI w' B g tv' (if (takenK xs lits).tk then cnt + 1 else cnt) (if (takenK xs lits).tk then lits + sizeN (setN xs) else lits) (if (takenK xs lits).tk then seen ||| varsN (setN xs) else seen) ∧
    Kept w w' g tv ∧ (tv'.ownBlock = tv.ownBlock ∨ ∃ k, w.heap.size ≤ k ∧ tv'.ownBlock = some k)

theorem addT_any (B g : Nat) (tv : Value) (cnt lits seen : Nat) (a : Option Addr) (c : Nat) (xs : List Int) (w : World) (hx : xs.length ≤ 9223372036854775807) (hi : IntsAt w a xs) (hB : B ≤ w.heap.size) (h : TrI w B g tv cnt lits seen) (hcnt : cnt ≤ 1000000) :
    Calls Tryz.prog 30 #[.pointer (some ⟨g, 0, none⟩), .slice a xs.length c] w (AdPost w B g tv cnt lits seen xs) := by
  have hI := h
  obtain ⟨r, h0, l, ta, ss, tc, em, se, e, h1, h2, h3, h4, h5, h6, h7⟩ := h
  subst e
  have hsa := own_setsAt h2
  cases hall : xs.all litB with
  | false =>
    refine (add_lit g a c xs w hx hi hall).mono ?_
    rintro e w' ⟨rfl, hb⟩
    have hk : takenK xs lits = .lit := by simp [takenK, hall]
    refine ⟨by rw [hk]; rfl, .slice ta ss.length tc, ?_, Kept.of g _ hb, .inl rfl⟩
    rw [hk]
    exact hI.below hb
  | true =>
    have hT := Two.set xs hall
    cases ht : (posN xs &&& negN xs != 0) with
    | true =>
      refine (add_taut g a c xs w hx hi hall ht).mono ?_
      rintro e w' ⟨rfl, hb⟩
      have hk : takenK xs lits = .taut := by simp [takenK, hall, hT.twin, ht]
      refine ⟨by rw [hk]; rfl, .slice ta ss.length tc, ?_, Kept.of g _ hb, .inl rfl⟩
      rw [hk]
      exact hI.below hb
    | false =>
      have hsz : sizeN (setN xs) = prSize (posN xs, negN xs) := hT.size
      by_cases hz : prSize (posN xs, negN xs) = 0
      · refine (add_empty g a c xs r h0 l ta ss tc em se w hx hi hall ht h1 hz (by omega)).mono ?_
        rintro e w' ⟨rfl, hr, hkp⟩
        have hk : takenK xs lits = .takes := by simp [takenK, hall, hT.twin, ht, hsz, hz]; omega
        refine ⟨by rw [hk]; rfl, .slice ta ss.length tc, ?_, hkp.weak _, .inl rfl⟩
        rw [hk]
        show TrI w' B g _ (cnt + 1) (lits + sizeN (setN xs)) (seen ||| varsN (setN xs))
        rw [hsz, hz, setN_zero hall hz, varsN_zero, Nat.or_zero, Nat.add_zero]
        refine ⟨r, h0, l, ta, ss, tc, em + 1, se, rfl, hr, ?_, by omega, h4, h5, h6, h7⟩
        exact own_frame h2 (fun b hb => hkp.block b (own_lt h2 b hb) (hI.ne b hb) (by simp [Value.ownBlock]))
      · by_cases hf : 150 < prSize (posN xs, negN xs) + totalN ss
        · refine (add_full g a c xs r h0 l ta ss tc em se w hx hi hall ht h1 hsa (by omega) h6 hz hf).mono ?_
          rintro e w' ⟨rfl, hb⟩
          have hk : takenK xs lits = .full := by simp [takenK, hall, hT.twin, ht, hsz]; omega
          refine ⟨by rw [hk]; rfl, .slice ta ss.length tc, ?_, Kept.of g _ hb, .inl rfl⟩
          rw [hk]
          exact hI.below hb
        · refine (add_set B g a c xs r h0 l ta ss tc em se w hx hi hall ht h1 h2 hB hsa (by omega) h6 hz (by omega) h7.lt).mono ?_
          rintro e w' ⟨rfl, a3, c3, hr, ho, hkp, hl⟩
          have hk : takenK xs lits = .takes := by simp [takenK, hall, hT.twin, ht, hsz]; omega
          refine ⟨by rw [hk]; rfl, .slice a3 (ss.length + 1) c3, ?_, hkp, hl⟩
          rw [hk]
          show TrI w' B g _ (cnt + 1) (lits + sizeN (setN xs)) (seen ||| varsN (setN xs))
          refine ⟨r, h0, l, a3, ss ++ [(posN xs, negN xs)], c3, em, se ||| (posN xs ||| negN xs), by rw [snoc_len], by rw [snoc_len]; exact hr, by rw [snoc_len]; exact ho, by rw [snoc_len]; omega, by rw [totalN_snoc, hsz]; omega, by omega, ?_, ?_⟩
          · intro p hp
            rcases List.mem_append.1 hp with hp | hp
            · exact h6 p hp
            · simp at hp; subst hp; exact ⟨hT.lt, hT.lf⟩
          · exact h7.or hT.vars

end Go.Proofs.YthboeppmlhbofaaGreatDoor
