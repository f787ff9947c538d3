/-
  trail's Check: the clauses are taken; what stands there.
-/
import Derived.Test.YthboeppmlhbofaaGreatDoorPrf
import Derived.Test.YthboeppmlhbofaaGreatDoorAdf
namespace Go.Proofs.YthboeppmlhbofaaGreatDoor
open Go.RowKit Txt
set_option maxRecDepth 100000

theorem sets_own {w : World} {B : Nat} {ta : Option Addr} {tc : Nat} {ss : List Pr} (h : w.ownsRow B 101 2 (.slice ta ss.length tc) ss.length (prCells ss)) : SetsAt w ta ss := by
  rcases h.2 with ⟨_, h0⟩ | ⟨g, cap, cur, hv, _⟩
  · exact .inl (List.eq_nil_of_length_eq_zero h0)
  · simp only [Value.slice.injEq] at hv
    obtain ⟨rfl, _, rfl⟩ := hv
    refine .inr ⟨g, 0, rfl, fun j hj => ?_⟩
    have key : ∀ (l : List Pr) (j : Nat), j < l.length → (prCells l)[j * 2]? = some (.int .i64 ((l.getD j (0, 0)).1 : Nat)) ∧ (prCells l)[j * 2 + 1]? = some (.int .i64 ((l.getD j (0, 0)).2 : Nat)) := by
      intro l
      induction l with
      | nil => intro j hj; simp at hj
      | cons p l ih =>
        intro j hj
        cases j with
        | zero => exact ⟨rfl, rfl⟩
        | succ j =>
          have := ih j (by simpa using hj)
          have e : prCells (p :: l) = .int .i64 (p.1 : Nat) :: .int .i64 (p.2 : Nat) :: prCells l := by simp [prCells]
          rw [e, show (j + 1) * 2 = j * 2 + 1 + 1 by omega]
          simpa using this
    have h1 := h.cells (g := g) rfl _ _ (key ss j hj).1
    have h2 := h.cells (g := g) rfl _ _ (key ss j hj).2
    rw [addr0] at h1 h2
    exact ⟨h1, h2⟩

/-- what Add comes to -/
inductive AR where
  | err (e : Int)
  | ok (ss : List Pr) (em : Nat)
def addR (xs : List Int) (ss : List Pr) (em : Nat) : AR :=
  if xs.all litB = false then .err 4 else
    if (posN xs &&& negN xs != 0) = true then .ok ss em else
      if prSize (posN xs, negN xs) = 0 then .ok ss (em + 1) else
        if 150 < prSize (posN xs, negN xs) + totalN ss then .err 5 else .ok (ss ++ [(posN xs, negN xs)]) em
/-- what may be taken -/
structure Tak (ss : List Pr) : Prop where
  bd : ∀ p ∈ ss, p.1 < 2 ^ 11 ∧ p.2 < 2 ^ 11
  one : ss.length ≤ totalN ss
  all : totalN ss ≤ 150
theorem addR_tak {xs : List Int} {ss ss' : List Pr} {em em' : Nat} (h : Tak ss) (hr : addR xs ss em = .ok ss' em') : Tak ss' ∧ em' ≤ em + 1 := by
  unfold addR at hr
  split at hr
  · simp at hr
  · rename_i hall
    have hal : xs.all litB = true := by simpa using hall
    split at hr
    · simp only [AR.ok.injEq] at hr; obtain ⟨rfl, rfl⟩ := hr; exact ⟨h, by omega⟩
    · split at hr
      · simp only [AR.ok.injEq] at hr; obtain ⟨rfl, rfl⟩ := hr; exact ⟨h, by omega⟩
      · split at hr
        · simp at hr
        · rename_i hz hf
          simp only [AR.ok.injEq] at hr
          obtain ⟨rfl, rfl⟩ := hr
          have hT := Two.set xs hal
          have e : totalN (ss ++ [(posN xs, negN xs)]) = totalN ss + prSize (posN xs, negN xs) := by simp [totalN]
          refine ⟨⟨fun p hp => ?_, ?_, by omega⟩, by omega⟩
          · rcases List.mem_append.1 hp with hp | hp
            · exact h.bd p hp
            · simp at hp; subst hp; exact ⟨hT.lt, hT.lf⟩
          · rw [snoc_len, e]; have := h.one; omega

/-- a solver as Check has it -/
structure SvI (w : World) (B g : Nat) (ss : List Pr) (em : Nat) (ta : Option Addr) (tc se : Nat) : Prop where
  row : Row w g 107 (solCells 0 0 0 ta ss.length tc em se)
  own : w.ownsRow B 101 2 (.slice ta ss.length tc) ss.length (prCells ss)
  se : se < 2 ^ 11
  base : B ≤ g
theorem SvI.below {w w' : World} {B g : Nat} {ss : List Pr} {em : Nat} {ta : Option Addr} {tc se : Nat} (h : SvI w B g ss em ta tc se) (hb : Below w.heap.size w w') : SvI w' B g ss em ta tc se := ⟨row_below h.row hb, own_below h.own hb, h.se, h.base⟩
def SvPost (w : World) (B g : Nat) (r : AR) (e : Ending) (w' : World) : Prop := Below B w w' ∧ match r with
  | .err k => e = .returned (.int .i64 k)
  | .ok ss em => e = .returned (.int .i64 0) ∧ ∃ ta tc se, SvI w' B g ss em ta tc se
theorem kept_below {w w' : World} {B g n : Nat} {ta : Option Addr} {tc : Nat} {xs : List Value} {s e : Nat} (hk : Kept w w' g (.slice ta n tc)) (ho : w.ownsRow B e s (.slice ta n tc) n xs) (hg : B ≤ g) (hB : B ≤ w.heap.size) : Below B w w' :=
  ⟨hk.os, hk.tape, hk.output, hk.size, fun k hk' => hk.block k (by omega) (by omega) (fun e => by have := (ho.lt k e).1; omega)⟩

theorem addS_any (w : World) (B g : Nat) (ss : List Pr) (em : Nat) (ta : Option Addr) (tc se : Nat) (h : SvI w B g ss em ta tc se) (hT : Tak ss) (a : Option Addr) (c : Nat) (xs : List Int) (hx : xs.length ≤ 9223372036854775807) (hi : IntsAt w a xs) (hB : B ≤ w.heap.size) (hem : em ≤ 9223372036854775806) :
    Calls Tryz.prog 30 #[.pointer (some ⟨g, 0, none⟩), .slice a xs.length c] w (SvPost w B g (addR xs ss em)) := by
  have hsa := sets_own h.own
  have h1 := hT.one
  have h2 := hT.all
  unfold addR
  cases hall : xs.all litB with
  | false =>
    rw [if_pos rfl]
    refine (add_lit g a c xs w hx hi hall).mono ?_
    rintro e w' ⟨rfl, hb⟩
    exact ⟨hb.mono hB, rfl⟩
  | true =>
    rw [if_neg (by simp)]
    cases ht : (posN xs &&& negN xs != 0) with
    | true =>
      rw [if_pos rfl]
      refine (add_taut g a c xs w hx hi hall ht).mono ?_
      rintro e w' ⟨rfl, hb⟩
      exact ⟨hb.mono hB, rfl, ta, tc, se, h.below hb⟩
    | false =>
      rw [if_neg (by simp)]
      by_cases hz : prSize (posN xs, negN xs) = 0
      · rw [if_pos hz]
        refine (add_empty g a c xs 0 0 0 ta ss tc em se w hx hi hall ht h.row hz hem).mono ?_
        rintro e w' ⟨rfl, hr, hkp⟩
        have hne : ∀ b, (Value.slice ta ss.length tc).ownBlock = some b → b ≠ g := fun b e eq => own_ty h.own h.row n_set (eq ▸ e)
        refine ⟨⟨hkp.os, hkp.tape, hkp.output, hkp.size, fun k hk => hkp.block k (by omega) (by have := h.base; omega) (by simp [Value.ownBlock])⟩, rfl, ta, tc, se, hr, ⟨h.own.1, ?_⟩, h.se, h.base⟩
        rcases h.own.2 with hn | ⟨g', cap, cur, hv, q1, hg, r⟩
        · exact .inl hn
        · exact .inr ⟨g', cap, cur, hv, q1, (hkp.block g' (Array.getElem?_eq_some_iff.1 hg).1 (hne g' (by rw [hv]; rfl)) (by simp [Value.ownBlock])).trans hg, r⟩
      · rw [if_neg hz]
        by_cases hf : 150 < prSize (posN xs, negN xs) + totalN ss
        · rw [if_pos hf]
          refine (add_full g a c xs 0 0 0 ta ss tc em se w hx hi hall ht h.row hsa (by omega) hT.bd hz hf).mono ?_
          rintro e w' ⟨rfl, hb⟩
          exact ⟨hb.mono hB, rfl⟩
        · rw [if_neg hf]
          refine (add_set B g a c xs 0 0 0 ta ss tc em se w hx hi hall ht h.row h.own hB hsa (by omega) hT.bd hz (by omega) h.se).mono ?_
          rintro e w' ⟨rfl, a3, c3, hr, ho, hkp, _⟩
          have hTw := Two.set xs hall
          exact ⟨kept_below hkp h.own h.base hB, rfl, a3, c3, _, by rw [snoc_len]; exact hr, by rw [snoc_len]; exact ho, Nat.or_lt_two_pow h.se (Nat.or_lt_two_pow hTw.lt hTw.lf), h.base⟩

end Go.Proofs.YthboeppmlhbofaaGreatDoor

/-
  trail's standing and Check: the walks.
-/
namespace Go.Proofs.YthboeppmlhbofaaGreatDoor
open Go.RowKit Txt
set_option maxRecDepth 100000

/-- what stands there ahead of the first line -/
def standN (ss : List Pr) (em : Nat) : List Nd := ss.foldl (fun ns p => addN ns p.1 p.2 1) (addN [nd0] 0 0 em)
theorem wf_one : Wf [nd0] := by
  intro j hj
  have : j = 0 := by simp at hj; omega
  subst this
  exact ⟨by decide, by decide, by decide, by decide⟩
theorem cb_one : CB [nd0] 0 := by
  intro j
  cases j with
  | zero => exact Nat.le_refl _
  | succ j => exact Nat.le_refl _
theorem stand_wf (ss : List Pr) (em : Nat) : Wf (standN ss em) ∧ 0 < (standN ss em).length ∧ CB (standN ss em) (em + ss.length) ∧ (standN ss em).length ≤ 11 + 10 * ss.length := by
  have key : ∀ (l : List Pr) (ns : List Nd) (M : Nat), Wf ns → 0 < ns.length → CB ns M → Wf (l.foldl (fun ns p => addN ns p.1 p.2 1) ns) ∧ 0 < (l.foldl (fun ns p => addN ns p.1 p.2 1) ns).length ∧ CB (l.foldl (fun ns p => addN ns p.1 p.2 1) ns) (M + l.length) ∧ (l.foldl (fun ns p => addN ns p.1 p.2 1) ns).length ≤ ns.length + 10 * l.length := by
    intro l
    induction l with
    | nil => intro ns M h1 h2 h3; exact ⟨h1, h2, h3, by simp⟩
    | cons p l ih =>
      intro ns M h1 h2 h3
      obtain ⟨a1, a2, a3⟩ := addN_wf h1 h2 p.1 p.2 1
      obtain ⟨b1, b2, b3, b4⟩ := ih (addN ns p.1 p.2 1) (M + 1) a1 a3 (addN_cb h3 h1 h2 _ _ _)
      refine ⟨b1, b2, ?_, ?_⟩
      · intro j
        have := b3 j
        simp only [List.foldl_cons, List.length_cons]
        omega
      · simp only [List.foldl_cons, List.length_cons]
        omega
  obtain ⟨a1, a2, a3⟩ := addN_wf wf_one (by decide) 0 0 em
  obtain ⟨b1, b2, b3, b4⟩ := key ss (addN [nd0] 0 0 em) (0 + em) a1 a3 (addN_cb cb_one wf_one (by decide) _ _ _)
  refine ⟨b1, b2, fun j => ?_, ?_⟩
  · have := b3 j
    simp only [standN]
    omega
  · simp only [standN]
    simp only [List.length_cons, List.length_nil] at a2
    omega
theorem stand_take (ss : List Pr) (em k : Nat) (h : k < ss.length) : standN (ss.take (k + 1)) em = addN (standN (ss.take k) em) (ss.getD k (0, 0)).1 (ss.getD k (0, 0)).2 1 := by
  rw [List.take_succ_eq_append_getElem h]
  simp only [standN, List.foldl_append, List.foldl_cons, List.foldl_nil]
  rw [List.getD_eq_getElem?_getD, List.getElem?_eq_getElem h]
  rfl
theorem u_nS : (158 : Nat) ≠ 107 := by decide
theorem u_SC : (107 : Nat) ≠ 161 := by decide
theorem u_sC : (101 : Nat) ≠ 161 := by decide

set_option maxHeartbeats 8000000 in
theorem standing_any (w : World) (B g : Nat) (ss : List Pr) (em : Nat) (ta : Option Addr) (tc se : Nat) (h : SvI w B g ss em ta tc se) (hT : Tak ss) (hB : B ≤ w.heap.size) (hem : em ≤ 9223372036854775000) :
    Calls Tryz.prog 69 #[.pointer (some ⟨g, 0, none⟩)] w fun e w' => ∃ cb na nc, e = .returned (.pointer (some ⟨cb, 0, none⟩)) ∧ TreeI w' B cb na nc (standN ss em) ∧ Below B w w' := by
  have h1 := hT.one
  have h2 := hT.all
  have HN := hide (newC_any B w hB)
  have H := hide h
  have HT := hide hT
  clear h hT
  go_enter Tryz.func69, Tryz.ntmps69
  go_wp2_with fail
  refine (unhide HN).mono ?_
  rintro e w1 ⟨cb, na, nc, rfl, ht1, hb1, hcb⟩
  have T1 := hide ht1
  have S1 := hide (H.out.below hb1)
  have B1 := hide (hb1.mono hB)
  have hz1 : w.heap.size ≤ w1.heap.size := hb1.size
  have c4 : w1.cell? ⟨g, 4, none⟩ = some (.int .i64 em) := (S1.out.row.cell 4).trans rfl
  have HA := hide (addC_any w1 B cb na nc [nd0] ht1 wf_one 0 cb_one 0 0 em (by decide) (by decide) (by omega) (by decide) (by omega))
  clear ht1 hb1 HN
  go_wp2_with fail
  refine (unhide HA).mono ?_
  rintro e w2 ⟨rfl, na2, nc2, hn2⟩
  have T2 := hide hn2.t
  have B2 : Hid (Below B w w2) := B1.out.trans (tree_below T1.out hn2 (by omega))
  have R2 := hide (hn2.kept.row T1.out S1.out.row u_nS u_SC)
  have O2 := hide (hn2.kept.own T1.out S1.out.own u_ns u_sC)
  have c3 : w2.cell? ⟨g, 3, none⟩ = some (.slice ta ss.length tc) := (R2.out.cell 3).trans rfl
  clear hn2 HA c4
  go_wp2_with fail
  go_loopw [21] (fun i wr => ∃ (k : Nat) (na1 : Option Addr) (nc1 : Nat), k ≤ ss.length ∧ i = .int .i64 k ∧ Hid (TreeI wr B cb na1 nc1 (standN (ss.take k) em)) ∧ Hid (wr.ownsRow B 101 2 (.slice ta ss.length tc) ss.length (prCells ss)) ∧ Hid (Row wr g 107 (solCells 0 0 0 ta ss.length tc em se)) ∧ Hid (Below B w wr)) (fun i _ => ss.length - (intOf i).toNat)
  case atStart => exact ⟨0, na2, nc2, Nat.zero_le _, rfl, T2, O2, R2, B2⟩
  case round =>
    clear T2 O2 B2 R2 c3
    obtain ⟨k, na1, nc1, hk, rfl, T, O, RS, BB⟩ := hrel
    have hzr : B ≤ wr.heap.size := Nat.le_trans hB BB.out.size
    by_cases hlt : k < ss.length
    · obtain ⟨b, off, rfl, hc⟩ := (sets_own O.out).get (by omega)
      obtain ⟨q0, q1⟩ := hc k hlt
      have hmem : ss.getD k (0, 0) ∈ ss := by rw [List.getD_eq_getElem?_getD, List.getElem?_eq_getElem hlt]; exact List.getElem_mem hlt
      obtain ⟨p1, p2⟩ := HT.out.bd _ hmem
      have HE := hide (stand_take ss em k hlt)
      obtain ⟨w1', w2', w3', w4'⟩ := stand_wf (ss.take k) em
      have hlk : (ss.take k).length = k := by rw [List.length_take]; omega
      rw [hlk] at w3' w4'
      generalize ss.getD k (0, 0) = pr at *
      obtain ⟨t, f⟩ := pr
      simp only at q0 q1 p1 p2 HE
      have i1 : (0 : Int) ≤ (k : Int) := by omega
      have i2 : (k : Int) < (ss.length : Int) := by omega
      have hbA : Below wr.heap.size wr (wr.alloc (.cells #[.int .i64 t, .int .i64 f] 101)) := (Below.refl _ _).alloc (Nat.le_refl _) _
      have TA := hide (T.out.below hbA)
      have OA := hide (own_below O.out hbA)
      have SA := hide (row_below RS.out hbA)
      have HA := hide (addC_any _ B cb na1 nc1 (standN (ss.take k) em) TA.out w1' (em + k) w3' t f 1 p1 p2 (by simp; omega) (by omega) (by omega))
      have BA : Hid (Below B w (wr.alloc (.cells #[.int .i64 t, .int .i64 f] 101))) := BB.out.trans (hbA.mono hzr)
      clear hc hbA w1' w2' w3' w4' hmem
      go_wp2_with fail
      refine (unhide HA).mono ?_
      generalize wr.alloc (.cells #[.int .i64 t, .int .i64 f] 101) = wA at *
      rintro e w4 ⟨rfl, na4, nc4, hn4⟩
      have T4 : Hid (TreeI w4 B cb na4 nc4 (standN (ss.take (k + 1)) em)) := by rw [HE.out]; exact hn4.t
      have O4 := hide (hn4.kept.own TA.out OA.out u_ns u_sC)
      have S4 := hide (hn4.kept.row TA.out SA.out u_nS u_SC)
      have hzA : B ≤ wA.heap.size := Nat.le_trans hB BA.out.size
      have B4 : Hid (Below B w w4) := BA.out.trans (tree_below TA.out hn4 hzA)
      clear hn4 HA
      go_wp2
      go_roundw
      case rel => exact ⟨k + 1, na4, nc4, by omega, by go_num, T4, O4, S4, B4⟩
      case measure => simp [intOf]; omega
    · obtain rfl : k = ss.length := by omega
      rw [List.take_length] at T
      have c6 : wr.cell? ⟨g, 6, none⟩ = some (.slice none 0 0) := (RS.out.cell 6).trans rfl
      have c7 : wr.cell? ⟨g, 7, none⟩ = some (.slice none 0 0) := (RS.out.cell 7).trans rfl
      have HT := T
      have HBB := BB
      clear T BB
      go_wp2_with fail
      go_loopw [34] (fun i wq => i = .int .i64 0 ∧ wq = wr) (fun _ _ => 0)
      case atStart => exact ⟨rfl, rfl⟩
      case round =>
        obtain ⟨rfl, rfl⟩ := hrel
        go_wp2
        go_ret
        exact ⟨cb, na1, nc1, rfl, HT.out, HBB.out⟩

/-- the clauses, one behind the other -/
def takeN : List (List Int) → List Pr → Nat → Nat → (Int × Nat) ⊕ (List Pr × Nat)
  | [], ss, em, _ => .inr (ss, em)
  | c :: cs, ss, em, i => match addR c ss em with
    | .err e => .inl (e, i)
    | .ok ss' em' => takeN cs ss' em' (i + 1)
def checkN (cls : List (List Int)) (l : List UInt8) : List Int × Int × Nat :=
  if 4194304 < l.length then ([], 2, 0) else match takeN cls [] 0 0 with
    | .inl (e, i) => ([], e, i)
    | .inr (ss, em) => chkN l (l.length + 1) (standN ss em) 0 0 0 []

end Go.Proofs.YthboeppmlhbofaaGreatDoor
