/-
  pushing: New, Add, Drop, the walks.
-/
import Derived.Test.YthboeppmlhbofaaPsf
namespace Go.Proofs.Ythboeppmlhbofaa
open Go.RowKit Txt
set_option maxRecDepth 100000

theorem Wf.nx {ns : List Nd} (h : Wf ns) {a : Nat} (ha : a < ns.length) (k : Nat) : (ns.getD a nd0).nx k < ns.length := by
  obtain ⟨h0, h1, h2, h3⟩ := h a ha
  unfold Nd.nx
  split <;> assumption
theorem getD_set (ns : List Nd) (a j : Nat) (d : Nd) (ha : a < ns.length) : (ns.set a d).getD j nd0 = if j = a then d else ns.getD j nd0 := by
  rw [List.getD_eq_getElem?_getD, List.getElem?_set]
  by_cases e : a = j
  · subst e
    rw [if_pos rfl, if_pos ha, if_pos rfl]; rfl
  · rw [if_neg e, if_neg (fun h => e h.symm), List.getD_eq_getElem?_getD]
theorem getD_snoc (ns : List Nd) (j : Nat) : (ns ++ [nd0]).getD j nd0 = ns.getD j nd0 := by
  rw [List.getD_eq_getElem?_getD, List.getElem?_append, List.getD_eq_getElem?_getD]
  split
  · rfl
  · rename_i h
    rw [List.getElem?_eq_none (by omega : ns.length ≤ j)]
    by_cases e : j - ns.length = 0
    · rw [e]; rfl
    · rw [List.getElem?_eq_none (by simp; omega)]
theorem Nd.put_lt (d : Nd) (k x n : Nat) (h0 : d.n0 < n) (h1 : d.n1 < n) (h2 : d.n2 < n) (h3 : d.n3 < n) (hx : x < n) : (d.put k x).n0 < n ∧ (d.put k x).n1 < n ∧ (d.put k x).n2 < n ∧ (d.put k x).n3 < n := by
  unfold Nd.put
  split <;> exact ⟨by assumption, by assumption, by assumption, by assumption⟩
theorem growN_wf {ns : List Nd} (h : Wf ns) {a k : Nat} (ha : a < ns.length) : Wf (growN ns a k).1 ∧ (growN ns a k).2 < (growN ns a k).1.length ∧ (growN ns a k).1.length ≤ ns.length + 1 ∧ ns.length ≤ (growN ns a k).1.length := by
  unfold growN
  split
  · have hl : (ns.set a ((ns.getD a nd0).put k ns.length) ++ [nd0]).length = ns.length + 1 := by simp
    refine ⟨fun j hj => ?_, by simp, by simp, by simp⟩
    simp only [hl]
    rw [getD_snoc, getD_set _ _ _ _ ha]
    obtain ⟨h0, h1, h2, h3⟩ := h a ha
    split
    · exact Nd.put_lt _ _ _ _ (by omega) (by omega) (by omega) (by omega) (by omega)
    · by_cases hjl : j < ns.length
      · obtain ⟨q0, q1, q2, q3⟩ := h j hjl
        exact ⟨by omega, by omega, by omega, by omega⟩
      · have e : ns.getD j nd0 = nd0 := by rw [List.getD_eq_getElem?_getD, List.getElem?_eq_none (by omega)]; rfl
        rw [e]
        exact ⟨Nat.succ_pos _, Nat.succ_pos _, Nat.succ_pos _, Nat.succ_pos _⟩
  · exact ⟨h, h.nx ha k, Nat.le_succ _, Nat.le_refl _⟩
/-- the way down to a clause's node, which grows on the way -/
def addTo (ns : List Nd) (t f : Nat) : Nat → List Nd × Nat
  | 0 => (ns, 0)
  | k + 1 => growN (addTo ns t f k).1 (addTo ns t f k).2 (wayN t f ((k + 1 : Nat) : Int))
theorem addTo_wf {ns : List Nd} (h : Wf ns) (hp : 0 < ns.length) (t f k : Nat) : Wf (addTo ns t f k).1 ∧ (addTo ns t f k).2 < (addTo ns t f k).1.length ∧ (addTo ns t f k).1.length ≤ ns.length + k := by
  induction k with
  | zero => exact ⟨h, hp, Nat.le_refl _⟩
  | succ k ih =>
    obtain ⟨h1, h2, h3⟩ := ih
    obtain ⟨q1, q2, q3, _⟩ := growN_wf (k := wayN t f ((k + 1 : Nat) : Int)) h1 h2
    exact ⟨q1, q2, by simp only [addTo]; omega⟩
def addN (ns : List Nd) (t f c : Nat) : List Nd := (addTo ns t f 10).1.set (addTo ns t f 10).2 { (addTo ns t f 10).1.getD (addTo ns t f 10).2 nd0 with c := ((addTo ns t f 10).1.getD (addTo ns t f 10).2 nd0).c + c }
def CB (ns : List Nd) (M : Nat) : Prop := ∀ j, (ns.getD j nd0).c ≤ M
theorem put_c (d : Nd) (k x : Nat) : (d.put k x).c = d.c := by
  unfold Nd.put
  split <;> rfl
theorem growN_cb {ns : List Nd} {M a k : Nat} (h : CB ns M) (ha : a < ns.length) : CB (growN ns a k).1 M := by
  intro j
  unfold growN
  split
  · show ((ns.set a ((ns.getD a nd0).put k ns.length) ++ [nd0]).getD j nd0).c ≤ M
    rw [getD_snoc, getD_set _ _ _ _ ha]
    split
    · rw [put_c]; exact h a
    · exact h j
  · exact h j
theorem addTo_cb {ns : List Nd} {M : Nat} (h : CB ns M) (hw : Wf ns) (hp : 0 < ns.length) (t f k : Nat) : CB (addTo ns t f k).1 M := by
  induction k with
  | zero => exact h
  | succ k ih => exact growN_cb ih (addTo_wf hw hp t f k).2.1
theorem addN_wf {ns : List Nd} (h : Wf ns) (hp : 0 < ns.length) (t f c : Nat) : Wf (addN ns t f c) ∧ (addN ns t f c).length ≤ ns.length + 10 ∧ 0 < (addN ns t f c).length := by
  obtain ⟨h1, h2, h3⟩ := addTo_wf h hp t f 10
  unfold addN
  refine ⟨fun j hj => ?_, by rw [List.length_set]; exact h3, by rw [List.length_set]; omega⟩
  rw [List.length_set] at hj ⊢
  rw [getD_set _ _ _ _ h2]
  split
  · exact h1 _ h2
  · exact h1 j hj
theorem addN_cb {ns : List Nd} {M : Nat} (h : CB ns M) (hw : Wf ns) (hp : 0 < ns.length) (t f c : Nat) : CB (addN ns t f c) (M + c) := by
  intro j
  unfold addN
  rw [getD_set _ _ _ _ (addTo_wf hw hp t f 10).2.1]
  have := addTo_cb h hw hp t f 10
  split
  · show (_ : Nat) + c ≤ M + c
    have := this (addTo ns t f 10).2
    omega
  · have := this j
    omega

/-- a block of another type is none of an owned list's -/
theorem own_ty {w : World} {B e s n g t : Nat} {v : Value} {xs zs : List Value} (h : w.ownsRow B e s v n xs) (hr : Row w g t zs) (he : e ≠ t) : v.ownBlock ≠ some g := by
  intro hb
  rcases h.2 with ⟨rfl, _⟩ | ⟨g', cap, cur, rfl, _, hg, _⟩
  · simp [Value.ownBlock] at hb
  · simp only [Value.ownBlock, Option.some.injEq] at hb
    subst hb
    have hr' : w.heap[g']? = some (.cells zs.toArray t (0, 0)) := hr
    rw [hr'] at hg
    simp only [Option.some.injEq, Obj.cells.injEq] at hg
    exact he hg.2.1.symm
theorem u_ns : (62 : Nat) ≠ 46 := by decide

set_option maxHeartbeats 8000000 in
theorem addC_any (w : World) (B cb : Nat) (na : Option Addr) (nc : Nat) (ns : List Nd) (h : TreeI w B cb na nc ns) (hw : Wf ns) (M : Nat) (hcb : CB ns M) (t f c : Nat) (ht : t < 2 ^ 11) (hf : f < 2 ^ 11) (hB : B ≤ w.heap.size) (hl : ns.length ≤ 90000000) (hM : M + c ≤ 9223372036854775807) :
    Calls Try.prog 20 #[.pointer (some ⟨cb, 0, none⟩), .agg #[.int .i64 t, .int .i64 f], .int .i64 c] w fun e w' => e = .returned (.tuple #[]) ∧ ∃ na' nc', TreeN w w' B cb na nc ns.length na' nc' (addN ns t f c) := by
  have hp := h.pos
  have HWY : Hid (∀ v w, 1 ≤ v → v ≤ 10 → Calls Try.prog 27 #[.agg #[.int .i64 t, .int .i64 f], .int .i64 v] w fun e w' => e = .returned (.int .i64 (wayN t f v : Nat)) ∧ Below w.heap.size w w') := fun v w q1 q2 => way_any t f v ht hf q1 q2 w
  have hb1 : Below w.heap.size w (w.alloc (.cells #[.int .i64 t, .int .i64 f] 46)) := (Below.refl _ _).alloc (Nat.le_refl _) _
  have r1 : Row (w.alloc (.cells #[.int .i64 t, .int .i64 f] 46)) w.heap.size 46 [.int .i64 t, .int .i64 f] := heap_alloc_new w _
  have HT0 := hide (TreeN.of h hb1)
  have R1 := hide r1
  have HI := hide h
  have HW := hide hw
  have HCB := hide hcb
  clear h hw hcb hb1 r1
  go_enter Try.func20, Try.ntmps20
  go_wp2_with fail
  go_loopw [6, 7] (fun a v wr => ∃ (k : Nat) (na1 : Option Addr) (nc1 : Nat), k ≤ 10 ∧ a = .int .i64 ((addTo ns t f k).2 : Nat) ∧ v = .int .i64 ((k : Int) + 1) ∧ Hid (TreeN w wr B cb na nc ns.length na1 nc1 (addTo ns t f k).1) ∧ Hid (Row wr w.heap.size 46 [.int .i64 t, .int .i64 f])) (fun _ v _ => 11 - (intOf v).toNat)
  case atStart => exact ⟨0, na, nc, by omega, rfl, rfl, HT0, R1⟩
  case round =>
    clear HT0 R1
    obtain ⟨k, na1, nc1, hk, rfl, rfl, HT, RS⟩ := hrel
    have y0 : wr.cell? ⟨w.heap.size, 0, none⟩ = some (.int .i64 t) := (RS.out.cell 0).trans rfl
    have y1 : wr.cell? ⟨w.heap.size, 1, none⟩ = some (.int .i64 f) := (RS.out.cell 1).trans rfl
    obtain ⟨q1, q2, q3⟩ := addTo_wf HW.out hp t f k
    by_cases hlt : k < 10
    · have hv : ((k : Int) + 1 ≤ 10) := by omega
      go_wp2_with fail
      refine (unhide HWY ((k : Int) + 1) _ (by omega) hv).mono ?_
      rintro e w2 ⟨rfl, hb2⟩
      have HT2 := hide (HT.out.trans (TreeN.of HT.out.t hb2))
      have RS2 := hide (row_below RS.out hb2)
      have hz : w.heap.size ≤ w2.heap.size := HT2.out.kept.size
      have HG := hide (grow_any w2 B cb na1 nc1 (addTo ns t f k).1 HT2.out.t (addTo ns t f k).2 (wayN t f ((k : Int) + 1)) q2 (wayN_lt _ _ _) (by omega) (by omega))
      clear hb2 HT RS y0 y1
      go_wp2_with fail
      refine (unhide HG).mono ?_
      rintro e w3 ⟨rfl, na2, nc2, h3⟩
      have e1 : growN (addTo ns t f k).1 (addTo ns t f k).2 (wayN t f ((k : Int) + 1)) = addTo ns t f (k + 1) := by simp only [addTo]; rw [show ((k + 1 : Nat) : Int) = (k : Int) + 1 by omega]
      rw [e1] at h3
      have HT3 := hide (HT2.out.trans h3)
      have RS3 : Hid (Row w3 w.heap.size 46 [.int .i64 t, .int .i64 f]) := by
        refine (h3.kept.block _ RS2.out.lt ?_ ?_).trans RS2.out
        · have := HI.out.row.lt; omega
        · have e2 : (Value.slice na1 (addTo ns t f k).1.length nc1).ownBlock ≠ some w.heap.size := own_ty HT2.out.t.own RS2.out u_ns
          exact e2
      have HE1 := hide e1
      clear h3 HG HT2 RS2 e1
      go_wp2
      go_roundw
      case rel => exact ⟨k + 1, na2, nc2, by omega, by rw [HE1.out], by go_num, HT3, RS3⟩
      case measure => simp [intOf]; omega
    · obtain rfl : k = 10 := by omega
      obtain ⟨b, e0, hb, hn⟩ := nodes_own HT.out.t.own HT.out.t.pos
      subst e0
      have c4 := hn _ q2 4 _ rfl
      simp only [Nat.zero_add] at c4
      have c0 : wr.cell? ⟨cb, 0, none⟩ = some (.slice (some ⟨b, 0, none⟩) (addTo ns t f 10).1.length nc1) := (HT.out.t.row.cell 0).trans rfl
      have f4 := HT.out.t.own.frozenAt ((addTo ns t f 10).2 * 5 + 4)
      have hcc := addTo_cb HCB.out HW.out hp t f 10 (addTo ns t f 10).2
      have ST := hide (HT.out.t.own.stored ((addTo ns t f 10).2 * 5 + 4) (.int .i64 ((((addTo ns t f 10).1.getD (addTo ns t f 10).2 nd0).c : Int) + c)))
      have EQ : Hid ((ndCells (addTo ns t f 10).1).set ((addTo ns t f 10).2 * 5 + 4) (.int .i64 ((((addTo ns t f 10).1.getD (addTo ns t f 10).2 nd0).c : Int) + c)) = ndCells (addN ns t f c)) := by
        show _ = _
        exact ndCells_set _ _ q2 4 (by decide) _ _ (by simp [Nd.cells])
      have LEN : Hid ((addN ns t f c).length = (addTo ns t f 10).1.length) := by show _ = _; unfold addN; rw [List.length_set]
      have hne : cb ≠ b := by
        intro e
        subst e
        exact own_ty HT.out.t.own HT.out.t.row u_nc rfl
      generalize (addTo ns t f 10).1.getD (addTo ns t f 10).2 nd0 = d at *
      generalize (addTo ns t f 10).2 = a at *
      generalize (addTo ns t f 10).1 = ns1 at *
      have i1 : (0 : Int) ≤ (a : Int) := by omega
      have i2 : (a : Int) < (ns1.length : Int) := by omega
      have hwrap : IntKind.i64.wrap ((d.c : Int) + c) = (d.c : Int) + c := by rw [IntKind.wrap_i64]; omega
      clear hn y0 y1 RS
      go_wp2
      go_end0
      refine ⟨rfl, some ⟨b, 0, none⟩, nc1, ?_⟩
      have h5 := ST.out.1
      rw [EQ.out] at h5
      have k5 : Kept wr (wr.setCell ⟨b, a * 5 + 4, none⟩ (.int .i64 ((d.c : Int) + c))) cb (.slice (some ⟨b, 0, none⟩) ns1.length nc1) := ⟨ST.out.2.os, ST.out.2.tape, ST.out.2.output, ST.out.2.size, fun q hq _ hv => ST.out.2.block q hq (fun e => hv (by rw [e]; rfl))⟩
      have t5 : TreeI (wr.setCell ⟨b, a * 5 + 4, none⟩ (.int .i64 ((d.c : Int) + c))) B cb (some ⟨b, 0, none⟩) nc1 (addN ns t f c) := ⟨by rw [LEN.out]; exact (Below.heap_setCell wr ⟨b, a * 5 + 4, none⟩ _ cb hne).trans HT.out.t.row, by rw [LEN.out]; exact h5, by rw [LEN.out]; exact HT.out.t.pos, HT.out.t.base⟩
      exact HT.out.trans (n1 := ns1.length) ⟨t5, k5, .inl own_len⟩

end Go.Proofs.Ythboeppmlhbofaa
