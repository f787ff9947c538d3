/-
  trail's standing and Check: the walks.
-/
import Derived.Test.YthboeppmlhbofaaChk
namespace Go.Proofs.Ythboeppmlhbofaa
open Go.RowKit Txt
set_option maxRecDepth 100000

/-- what stands there ahead of the first line -/
def standN (ss : List Pr) (em : Nat) : List Nd := ss.foldl (fun ns p => addN ns p.1 p.2 1) (addN [nd0] 0 0 em)
theorem wf_one : Wf [nd0] := by
  intro j hj
  have : j = 0 := by simp at hj; omega
  subst this
  exact ⟨by decide, by decide, by decide, by decide⟩
theorem cb_one : CB [nd0] 0 := by
  intro j
  cases j with
  | zero => exact Nat.le_refl _
  | succ j => exact Nat.le_refl _
theorem stand_wf (ss : List Pr) (em : Nat) : Wf (standN ss em) ∧ 0 < (standN ss em).length ∧ CB (standN ss em) (em + ss.length) ∧ (standN ss em).length ≤ 11 + 10 * ss.length := by
  have key : ∀ (l : List Pr) (ns : List Nd) (M : Nat), Wf ns → 0 < ns.length → CB ns M → Wf (l.foldl (fun ns p => addN ns p.1 p.2 1) ns) ∧ 0 < (l.foldl (fun ns p => addN ns p.1 p.2 1) ns).length ∧ CB (l.foldl (fun ns p => addN ns p.1 p.2 1) ns) (M + l.length) ∧ (l.foldl (fun ns p => addN ns p.1 p.2 1) ns).length ≤ ns.length + 10 * l.length := by
    intro l
    induction l with
    | nil => intro ns M h1 h2 h3; exact ⟨h1, h2, h3, by simp⟩
    | cons p l ih =>
      intro ns M h1 h2 h3
      obtain ⟨a1, a2, a3⟩ := addN_wf h1 h2 p.1 p.2 1
      obtain ⟨b1, b2, b3, b4⟩ := ih (addN ns p.1 p.2 1) (M + 1) a1 a3 (addN_cb h3 h1 h2 _ _ _)
      refine ⟨b1, b2, ?_, ?_⟩
      · intro j
        have := b3 j
        simp only [List.foldl_cons, List.length_cons]
        omega
      · simp only [List.foldl_cons, List.length_cons]
        omega
  obtain ⟨a1, a2, a3⟩ := addN_wf wf_one (by decide) 0 0 em
  obtain ⟨b1, b2, b3, b4⟩ := key ss (addN [nd0] 0 0 em) (0 + em) a1 a3 (addN_cb cb_one wf_one (by decide) _ _ _)
  refine ⟨b1, b2, fun j => ?_, ?_⟩
  · have := b3 j
    simp only [standN]
    omega
  · simp only [standN]
    simp only [List.length_cons, List.length_nil] at a2
    omega
theorem stand_take (ss : List Pr) (em k : Nat) (h : k < ss.length) : standN (ss.take (k + 1)) em = addN (standN (ss.take k) em) (ss.getD k (0, 0)).1 (ss.getD k (0, 0)).2 1 := by
  rw [List.take_succ_eq_append_getElem h]
  simp only [standN, List.foldl_append, List.foldl_cons, List.foldl_nil]
  rw [List.getD_eq_getElem?_getD, List.getElem?_eq_getElem h]
  rfl
theorem u_nS : (62 : Nat) ≠ 38 := by decide
theorem u_SC : (38 : Nat) ≠ 65 := by decide
theorem u_sC : (46 : Nat) ≠ 65 := by decide

set_option maxHeartbeats 8000000 in
theorem standing_any (w : World) (B g : Nat) (ss : List Pr) (em : Nat) (ta : Option Addr) (tc se : Nat) (h : SvI w B g ss em ta tc se) (hT : Tak ss) (hB : B ≤ w.heap.size) (hem : em ≤ 9223372036854775000) :
    Calls Try.prog 11 #[.pointer (some ⟨g, 0, none⟩)] w fun e w' => ∃ cb na nc, e = .returned (.pointer (some ⟨cb, 0, none⟩)) ∧ TreeI w' B cb na nc (standN ss em) ∧ Below B w w' := by
  have h1 := hT.one
  have h2 := hT.all
  have HN := hide (newC_any B w hB)
  have H := hide h
  have HT := hide hT
  clear h hT
  go_enter Try.func11, Try.ntmps11
  go_wp2_with fail
  refine (unhide HN).mono ?_
  rintro e w1 ⟨cb, na, nc, rfl, ht1, hb1, hcb⟩
  have T1 := hide ht1
  have S1 := hide (H.out.below hb1)
  have B1 := hide (hb1.mono hB)
  have hz1 : w.heap.size ≤ w1.heap.size := hb1.size
  have c4 : w1.cell? ⟨g, 4, none⟩ = some (.int .i64 em) := (S1.out.row.cell 4).trans rfl
  have HA := hide (addC_any w1 B cb na nc [nd0] ht1 wf_one 0 cb_one 0 0 em (by decide) (by decide) (by omega) (by decide) (by omega))
  clear ht1 hb1 HN
  go_wp2_with fail
  refine (unhide HA).mono ?_
  rintro e w2 ⟨rfl, na2, nc2, hn2⟩
  have T2 := hide hn2.t
  have B2 : Hid (Below B w w2) := B1.out.trans (tree_below T1.out hn2 (by omega))
  have R2 := hide (hn2.kept.row T1.out S1.out.row u_nS u_SC)
  have O2 := hide (hn2.kept.own T1.out S1.out.own u_ns u_sC)
  have c3 : w2.cell? ⟨g, 3, none⟩ = some (.slice ta ss.length tc) := (R2.out.cell 3).trans rfl
  clear hn2 HA c4
  go_wp2_with fail
  go_loopw [21] (fun i wr => ∃ (k : Nat) (na1 : Option Addr) (nc1 : Nat), k ≤ ss.length ∧ i = .int .i64 k ∧ Hid (TreeI wr B cb na1 nc1 (standN (ss.take k) em)) ∧ Hid (wr.ownsRow B 46 2 (.slice ta ss.length tc) ss.length (prCells ss)) ∧ Hid (Row wr g 38 (solCells 0 0 0 ta ss.length tc em se)) ∧ Hid (Below B w wr)) (fun i _ => ss.length - (intOf i).toNat)
  case atStart => exact ⟨0, na2, nc2, Nat.zero_le _, rfl, T2, O2, R2, B2⟩
  case round =>
    clear T2 O2 B2 R2 c3
    obtain ⟨k, na1, nc1, hk, rfl, T, O, RS, BB⟩ := hrel
    have hzr : B ≤ wr.heap.size := Nat.le_trans hB BB.out.size
    by_cases hlt : k < ss.length
    · obtain ⟨b, off, rfl, hc⟩ := (sets_own O.out).get (by omega)
      obtain ⟨q0, q1⟩ := hc k hlt
      have hmem : ss.getD k (0, 0) ∈ ss := by rw [List.getD_eq_getElem?_getD, List.getElem?_eq_getElem hlt]; exact List.getElem_mem hlt
      obtain ⟨p1, p2⟩ := HT.out.bd _ hmem
      have HE := hide (stand_take ss em k hlt)
      obtain ⟨w1', w2', w3', w4'⟩ := stand_wf (ss.take k) em
      have hlk : (ss.take k).length = k := by rw [List.length_take]; omega
      rw [hlk] at w3' w4'
      generalize ss.getD k (0, 0) = pr at *
      obtain ⟨t, f⟩ := pr
      simp only at q0 q1 p1 p2 HE
      have i1 : (0 : Int) ≤ (k : Int) := by omega
      have i2 : (k : Int) < (ss.length : Int) := by omega
      have hbA : Below wr.heap.size wr (wr.alloc (.cells #[.int .i64 t, .int .i64 f] 46)) := (Below.refl _ _).alloc (Nat.le_refl _) _
      have TA := hide (T.out.below hbA)
      have OA := hide (own_below O.out hbA)
      have SA := hide (row_below RS.out hbA)
      have HA := hide (addC_any _ B cb na1 nc1 (standN (ss.take k) em) TA.out w1' (em + k) w3' t f 1 p1 p2 (by simp; omega) (by omega) (by omega))
      have BA : Hid (Below B w (wr.alloc (.cells #[.int .i64 t, .int .i64 f] 46))) := BB.out.trans (hbA.mono hzr)
      clear hc hbA w1' w2' w3' w4' hmem
      go_wp2_with fail
      refine (unhide HA).mono ?_
      generalize wr.alloc (.cells #[.int .i64 t, .int .i64 f] 46) = wA at *
      rintro e w4 ⟨rfl, na4, nc4, hn4⟩
      have T4 : Hid (TreeI w4 B cb na4 nc4 (standN (ss.take (k + 1)) em)) := by rw [HE.out]; exact hn4.t
      have O4 := hide (hn4.kept.own TA.out OA.out u_ns u_sC)
      have S4 := hide (hn4.kept.row TA.out SA.out u_nS u_SC)
      have hzA : B ≤ wA.heap.size := Nat.le_trans hB BA.out.size
      have B4 : Hid (Below B w w4) := BA.out.trans (tree_below TA.out hn4 hzA)
      clear hn4 HA
      go_wp2
      go_roundw
      case rel => exact ⟨k + 1, na4, nc4, by omega, by go_num, T4, O4, S4, B4⟩
      case measure => simp [intOf]; omega
    · obtain rfl : k = ss.length := by omega
      rw [List.take_length] at T
      have c6 : wr.cell? ⟨g, 6, none⟩ = some (.slice none 0 0) := (RS.out.cell 6).trans rfl
      have c7 : wr.cell? ⟨g, 7, none⟩ = some (.slice none 0 0) := (RS.out.cell 7).trans rfl
      have HT := T
      have HBB := BB
      clear T BB
      go_wp2_with fail
      go_loopw [34] (fun i wq => i = .int .i64 0 ∧ wq = wr) (fun _ _ => 0)
      case atStart => exact ⟨rfl, rfl⟩
      case round =>
        obtain ⟨rfl, rfl⟩ := hrel
        go_wp2
        go_ret
        exact ⟨cb, na1, nc1, rfl, HT.out, HBB.out⟩

/-- the clauses, one behind the other -/
def takeN : List (List Int) → List Pr → Nat → Nat → (Int × Nat) ⊕ (List Pr × Nat)
  | [], ss, em, _ => .inr (ss, em)
  | c :: cs, ss, em, i => match addR c ss em with
    | .err e => .inl (e, i)
    | .ok ss' em' => takeN cs ss' em' (i + 1)
def checkN (cls : List (List Int)) (l : List UInt8) : List Int × Int × Nat :=
  if 4194304 < l.length then ([], 2, 0) else match takeN cls [] 0 0 with
    | .inl (e, i) => ([], e, i)
    | .inr (ss, em) => chkN l (l.length + 1) (standN ss em) 0 0 0 []

end Go.Proofs.Ythboeppmlhbofaa
