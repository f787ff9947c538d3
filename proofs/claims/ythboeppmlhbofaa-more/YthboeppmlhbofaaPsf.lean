/-
  pushing: grow, the walk.
-/
import Derived.Test.YthboeppmlhbofaaPse
namespace Go.Proofs.Ythboeppmlhbofaa
open Go.RowKit Txt
set_option maxRecDepth 100000

theorem Nd.put_nx (d : Nd) {k : Nat} (hk : k < 4) (x : Nat) : (d.put k x).nx k = x := by
  have : k = 0 ∨ k = 1 ∨ k = 2 ∨ k = 3 := by omega
  rcases this with rfl | rfl | rfl | rfl <;> rfl
theorem get_grown {ns : List Nd} {a : Nat} (ha : a < ns.length) (d : Nd) : (ns.set a d ++ [nd0]).getD a nd0 = d := by
  rw [List.getD_eq_getElem?_getD, List.getElem?_append_left (by rw [List.length_set]; exact ha), List.getElem?_set_self ha]
  rfl

theorem grown_cell {w : World} {B c3 a k : Nat} {a3 : Option Addr} {ns : List Nd} {d' : Nd} (O : w.ownsRow B 62 5 (.slice a3 (ns.length + 1) c3) (ns.length + 1) (ndCells (ns.set a d' ++ [nd0]))) (ha : a < ns.length) (hk : k < 4) (HG : (ns.set a d' ++ [nd0]).getD a nd0 = d') (HP : d'.nx k = ns.length) :
    ∃ b3, a3 = some ⟨b3, 0, none⟩ ∧ w.cell? ⟨b3, a * 5 + k, none⟩ = some (.int .i64 (ns.length : Nat)) := by
  have hl : (ns.set a d' ++ [nd0]).length = ns.length + 1 := by simp
  rw [← hl] at O
  obtain ⟨b, rfl, hb, hn⟩ := nodes_own O (by rw [hl]; omega)
  have c1 := hn a (by rw [hl]; omega) k _ (Nd.cell_nx _ hk)
  simp only [Nat.zero_add] at c1
  rw [HG, HP] at c1
  exact ⟨b, rfl, c1⟩

set_option maxHeartbeats 8000000 in
theorem grow_new (w : World) (B cb : Nat) (na : Option Addr) (nc : Nat) (ns : List Nd) (h : TreeI w B cb na nc ns) (a k : Nat) (ha : a < ns.length) (hk : k < 4) (hz : (ns.getD a nd0).nx k = 0) (hB : B ≤ w.heap.size) (hl : ns.length ≤ 100000000) :
    Calls Try.prog 26 #[.pointer (some ⟨cb, 0, none⟩), .int .i64 a, .int .i64 k] w fun e w' => e = .returned (.int .i64 (ns.length : Nat)) ∧ ∃ na' nc', TreeN w w' B cb na nc ns.length na' nc' (ns.set a ((ns.getD a nd0).put k ns.length) ++ [nd0]) := by
  obtain ⟨i0, hi, hz0, hz1, hz2⟩ := info_parts Try.infoNode
  have HTI := hide h
  obtain ⟨b, rfl, hb, hn⟩ := nodes_own h.own h.pos
  have c1 := hn a ha k _ (Nd.cell_nx _ hk)
  simp only [Nat.zero_add] at c1
  rw [hz] at c1
  have c0 : w.cell? ⟨cb, 0, none⟩ = some (.slice (some ⟨b, 0, none⟩) ns.length nc) := (h.row.cell 0).trans rfl
  have f1 := h.own.frozenAt (a * 5 + k)
  have st := h.own.stored (a * 5 + k) (.int .i64 (ns.length : Nat))
  rw [ndCells_set ns a ha k (by omega) ((ns.getD a nd0).put k ns.length) _ (Nd.cells_put _ hk _)] at st
  have hne : b ≠ cb := by
    obtain ⟨_, _, q⟩ : ∃ cs fr, w.heap[b]? = some (.cells cs 62 fr) := by
      rcases h.own.2 with ⟨hv, _⟩ | ⟨g', cap, cur, hv, _, hg, _⟩
      · simp at hv
      · simp only [Value.slice.injEq, Option.some.injEq, Addr.mk.injEq, and_true] at hv
        obtain ⟨rfl, _⟩ := hv
        exact ⟨_, _, hg⟩
    intro e
    subst e
    have hr' : w.heap[b]? = some (.cells [Value.slice (some ⟨b, 0, none⟩) ns.length nc].toArray 65 (0, 0)) := h.row
    rw [hr'] at q
    simp only [Option.some.injEq, Obj.cells.injEq] at q
    exact u_nc q.2.1.symm
  have r1 : Row (w.setCell ⟨b, a * 5 + k, none⟩ (.int .i64 (ns.length : Nat))).drew cb 65 [.slice (some ⟨b, 0, none⟩) ns.length nc] := (Below.heap_setCell w ⟨b, a * 5 + k, none⟩ _ cb (fun e => hne e.symm)).trans h.row
  have o1 : (w.setCell ⟨b, a * 5 + k, none⟩ (.int .i64 (ns.length : Nat))).drew.ownsRow B 62 5 (.slice (some ⟨b, 0, none⟩) ns.length nc) ns.length (ndCells (ns.set a ((ns.getD a nd0).put k ns.length))) := st.1
  have g1 : w.grownBy (w.setCell ⟨b, a * 5 + k, none⟩ (.int .i64 (ns.length : Nat))).drew (some b) := ⟨st.2.os, st.2.tape, st.2.output, st.2.size, st.2.block⟩
  have d1 : Hid (ns.length + 1 ≤ maxLen) := by show _ ≤ _; unfold maxLen; omega
  have d2 : Hid ((ns.length + 1) * 40 ≤ 140737488355328) := by show _ ≤ _; omega
  have R1 := hide r1
  have O1 := hide o1
  have G1 := hide g1
  have i1 : (0 : Int) ≤ (a : Int) := by omega
  have i2 : (a : Int) < (ns.length : Int) := by omega
  have i3 : (0 : Int) ≤ (k : Int) := by omega
  have i4 : (k : Int) < 4 := by omega
  have HG : Hid ((ns.set a ((ns.getD a nd0).put k ns.length) ++ [nd0]).getD a nd0 = (ns.getD a nd0).put k ns.length) := get_grown ha _
  have HP : Hid (((ns.getD a nd0).put k ns.length).nx k = ns.length) := Nd.put_nx _ hk _
  have HL : Hid ((ns.set a ((ns.getD a nd0).put k ns.length)).length = ns.length) := by show _ = _; rw [List.length_set]
  generalize (ns.getD a nd0).put k ns.length = d' at *
  clear h hn st r1 o1 g1 hz
  go_enter Try.func26, Try.ntmps26
  go_wp2_with fail
  go_region
  generalize (w.setCell ⟨b, a * 5 + k, none⟩ (.int .i64 (ns.length : Nat))).drew = w1 at *
  have y0 : w1.cell? ⟨cb, 0, none⟩ = some (.slice (some ⟨b, 0, none⟩) ns.length nc) := (R1.out.cell 0).trans rfl
  have hz1' : w.heap.size ≤ w1.heap.size := G1.out.size
  have hcb1 : cb < w1.heap.size := R1.out.lt
  clear c0 c1 f1
  go_wp2_with (first
    | (at_builtin; refine wpList_append_many _ rfl (.tmp 36) (.tmp 38) 63 rfl B 62 i0 (.agg #[.int .i64 0, .int .i64 0, .int .i64 0, .int .i64 0, .int .i64 0]) 5 40 Try.undNodes hi hz0 hz1 hz2 rfl (by decide) (.slice (some ⟨b, 0, none⟩) ns.length nc) ns.length (ndCells (ns.set a d')) rfl (O1.out.alloc _) ⟨w1.heap.size, 0, none⟩ 1 1 [.int .i64 0, .int .i64 0, .int .i64 0, .int .i64 0, .int .i64 0] rfl rfl (new_cells1 w1 [.int .i64 0, .int .i64 0, .int .i64 0, .int .i64 0, .int .i64 0] 62) (by intro u hu; simp at hu; subst hu; rfl) (by decide) d1.out d2.out (by simp; omega) (w1.heap.size + 1) (by simp) ?_; intro a3 c3 w2 hown3 hg3 hl3;
        have HG3 := hide hg3; have LO3 := hide (lies_own (N := ns.length + 1) hl3);
        have R2 : Hid (Row w2 cb 65 [.slice (some ⟨b, 0, none⟩) ns.length nc]) := row_grownN (row_below R1.out ((Below.refl _ _).alloc (Nat.le_refl _) _)) (O1.out.alloc _) u_nc hg3;
        have O2 : Hid (w2.ownsRow B 62 5 (.slice a3 (ns.length + 1) c3) (ns.length + 1) (ndCells (ns.set a d' ++ [nd0]))) := (ndCells_snoc (ns.set a d')) ▸ hown3;
        have O3 : Hid ((w2.setCell ⟨cb, 0, none⟩ (.slice a3 (ns.length + 1) c3)).ownsRow B 62 5 (.slice a3 (ns.length + 1) c3) (ns.length + 1) (ndCells (ns.set a d' ++ [nd0]))) := own_setN R2.out 0 _ u_nc O2.out;
        have R3 : Hid (Row (w2.setCell ⟨cb, 0, none⟩ (.slice a3 (ns.length + 1) c3)) cb 65 [.slice a3 (ns.length + 1) c3]) := R2.out.set 0 _;
        have g2 : w2.cell? ⟨cb, 0, none⟩ = some (.slice (some ⟨b, 0, none⟩) ns.length nc) := (R2.out.cell 0).trans rfl;
        have g2' := R2.out.frozen 0;
        have hz2s : w1.heap.size ≤ w2.heap.size := Nat.le_trans (by simp) HG3.out.size;
        clear hown3 hg3 hl3; obtain ⟨b3, rfl, n3⟩ := grown_cell O3.out ha hk HG.out HP.out; have j2 : (a : Int) < (ns.length : Int) + 1 := by omega))
  go_ret
  refine ⟨rfl, some ⟨b3, 0, none⟩, c3, ?_⟩
  have hlen : (ns.set a d' ++ [nd0]).length = ns.length + 1 := by rw [snoc_len, HL.out]
  have lo : (Value.slice (some ⟨b3, 0, none⟩) (ns.length + 1) c3).ownBlock = (Value.slice (some ⟨b, 0, none⟩) ns.length nc).ownBlock ∨ ∃ k, w.heap.size ≤ k ∧ (Value.slice (some ⟨b3, 0, none⟩) (ns.length + 1) c3).ownBlock = some k := LO3.out.imp id (fun e => ⟨_, by omega, e⟩)
  refine ⟨⟨by rw [hlen]; exact R3.out, by rw [hlen]; exact O3.out, by omega, HTI.out.base⟩, ?_, by rw [hlen]; exact lo⟩
  have k1 : Kept w w1 cb (.slice (some ⟨b, 0, none⟩) ns.length nc) := ⟨G1.out.os, G1.out.tape, G1.out.output, G1.out.size, fun q hq _ hv => G1.out.block q hq (fun e => hv (by rw [e]; rfl))⟩
  exact ((k1.below ((Below.refl _ _).alloc (Nat.le_refl _) _)).grown HG3.out).set 0 _

theorem grow_any (w : World) (B cb : Nat) (na : Option Addr) (nc : Nat) (ns : List Nd) (h : TreeI w B cb na nc ns) (a k : Nat) (ha : a < ns.length) (hk : k < 4) (hB : B ≤ w.heap.size) (hl : ns.length ≤ 100000000) :
    Calls Try.prog 26 #[.pointer (some ⟨cb, 0, none⟩), .int .i64 a, .int .i64 k] w fun e w' => e = .returned (.int .i64 ((growN ns a k).2 : Nat)) ∧ ∃ na' nc', TreeN w w' B cb na nc ns.length na' nc' (growN ns a k).1 := by
  by_cases hz : (ns.getD a nd0).nx k = 0
  · have e : growN ns a k = (ns.set a ((ns.getD a nd0).put k ns.length) ++ [nd0], ns.length) := by unfold growN; rw [if_pos hz]
    rw [e]
    exact grow_new w B cb na nc ns h a k ha hk hz hB hl
  · have e : growN ns a k = (ns, (ns.getD a nd0).nx k) := by unfold growN; rw [if_neg hz]
    rw [e]
    refine (grow_old w B cb na nc ns h a k ha hk hz).mono ?_
    rintro e w' ⟨rfl, rfl⟩
    exact ⟨rfl, na, nc, TreeN.of h (Below.refl _ _)⟩

end Go.Proofs.Ythboeppmlhbofaa
