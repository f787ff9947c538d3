/-
  traillaw's keep: the walk.
-/
import Derived.Test.YthboeppmlhbofaaGreatDoorHld
import Derived.Test.YthboeppmlhbofaaGreatDoorApp
namespace Go.Proofs.YthboeppmlhbofaaGreatDoor
open Go.RowKit Txt
set_option maxRecDepth 100000

/-- a list of numbers that is apart from all of the world's is written into -/
theorem WI.touch {w w' : World} {Wb B : Nat} {V : WV} {s : St} (h : WI w Wb B V s) {u : Value} {n : Nat} {zs : List Value} (hu : w.ownsRow B 3 1 u n zs) (hg : w.grownBy w' u.ownBlock)
    (f0 : Apart u (V.vl s)) (fc : ∀ v ∈ V.vcs, Apart v u) (fo : ∀ v ∈ V.vos, Apart v u) (fw : ∀ v ∈ V.vws, Apart v u) : WI w' Wb B V s :=
  ⟨row_grown h.blk hu t_int hg, h.base, own_apart_kept h.list hg f0.symm, own_apart_kept h.clt hg (apart_types n_il.symm h.clt hu), h.cle.map (fun v hv _ _ hh => own_apart_kept hh hg (fc v hv)), own_apart_kept h.tx hg (apart_types n_is.symm h.tx hu),
    own_apart_kept h.xs hg (apart_types n_ix.symm h.xs hu), own_apart_kept h.ot hg (apart_types n_il.symm h.ot hu), h.oe.map (fun v hv _ _ hh => own_apart_kept hh hg (fo v hv)), own_apart_kept h.wt hg (apart_types n_il.symm h.wt hu), h.we.map (fun v hv _ _ hh => own_apart_kept hh hg (fw v hv)),
    h.a1, h.a2, h.a3, h.b1, h.b2, h.b3⟩

/-- what is still to be kept, apart from all of the world's -/
structure Rest (w : World) (B : Nat) (V : WV) (s : St) (tp : Value) (n : Nat) (vs : List Value) (us : List Value) (cs : List (List Int)) : Prop where
  top : w.ownsRow B 24 1 tp n vs
  each : AllOwn w B 3 us cs
  pw : us.Pairwise Apart
  t1 : Apart tp (V.vo s)
  t2 : Apart tp (V.vw s)
  f0 : ∀ u ∈ us, Apart u (V.vl s)
  fc : ∀ u ∈ us, ∀ v ∈ V.vcs, Apart v u
  fo : ∀ u ∈ us, ∀ v ∈ V.vos, Apart v u
  fw : ∀ u ∈ us, ∀ v ∈ V.vws, Apart v u

theorem Rest.setMark {w : World} {B Wb : Nat} {V : WV} {s : St} {top : Value} {n : Nat} {vs us : List Value} {cs : List (List Int)} (h : Rest w B V s top n vs us cs) (hi : WI w Wb B V s) (m : Int) : Rest (w.setCell ⟨Wb, 6, none⟩ (.int .i64 m)) B V { s with mark := m } top n vs us cs :=
  ⟨own_setW hi.blk 6 _ t_ints h.top, h.each.map (fun _ _ _ _ hh => own_setW hi.blk 6 _ t_int hh), h.pw, h.t1, h.t2, h.f0, h.fc, h.fo, h.fw⟩
theorem Rest.touch {w w' : World} {B : Nat} {V : WV} {s : St} {top : Value} {n : Nat} {vs us : List Value} {cs : List (List Int)} (h : Rest w B V s top n vs us cs) {u : Value} {k : Nat} {zs : List Value} (hu : w.ownsRow B 3 1 u k zs) (hg : w.grownBy w' u.ownBlock) (hap : ∀ v ∈ us, Apart v u) : Rest w' B V s top n vs us cs :=
  ⟨own_apart_kept h.top hg (apart_types n_il.symm h.top hu), h.each.map (fun v hv _ _ hh => own_apart_kept hh hg (hap v hv)), h.pw, h.t1, h.t2, h.f0, h.fc, h.fo, h.fw⟩
theorem Rest.below {w w' : World} {B : Nat} {V : WV} {s : St} {top : Value} {n : Nat} {vs us : List Value} {cs : List (List Int)} (h : Rest w B V s top n vs us cs) (hb : Below w.heap.size w w') : Rest w' B V s top n vs us cs :=
  ⟨own_below h.top hb, h.each.map (fun _ _ _ _ hh => own_below hh hb), h.pw, h.t1, h.t2, h.f0, h.fc, h.fo, h.fw⟩
/-- behind hold of a list v that is apart from what is still to come -/
theorem Rest.held {w w' : World} {B : Nat} {V V' : WV} {s s' : St} {top : Value} {n : Nat} {vs us : List Value} {cs : List (List Int)} (h : Rest w B V s top n vs us cs) (hh : Held w w' B V V' s s') (hl : s'.list = s.list) {v : Value} (hvo : V'.vos = V.vos ++ [v]) (hv : ∀ u ∈ us, Apart v u)
    (hot : w.ownsRow B 24 1 (V.vo s) s.outs.length V.vos) (hwt : w.ownsRow B 24 1 (V.vw s) s.want.length V.vws) : Rest w' B V' s' top n vs us cs := by
  have hvl : V'.vl s' = V.vl s := by simp only [WV.vl, hl, hh.al, hh.cl]
  have ht := hh.oth _ _ _ _ t_ints h.top h.t1 h.t2
  refine ⟨ht.1, h.each.map (fun _ _ _ _ hx => (hh.oth _ _ _ _ t_int hx (apart_types n_il hx hot) (apart_types n_il hx hwt)).1), h.pw, ht.2.1, ht.2.2, ?_, ?_, ?_, ?_⟩
  · rw [hvl]; exact h.f0
  · rw [hh.vcs]; exact h.fc
  · intro u hu x hx
    rw [hvo] at hx
    rcases List.mem_append.1 hx with hx | hx
    · exact h.fo u hu x hx
    · simp at hx; subst hx; exact hv u hu
  · intro u hu x hx
    rcases hh.vws x hx with hx | ⟨k, a, b, hk, rfl⟩
    · exact h.fw u hu x hx
    · obtain ⟨xs, hxs⟩ := h.each.mem hu
      exact apart_new hxs hk _ _

theorem Rest.tail {w : World} {B : Nat} {V : WV} {s : St} {top : Value} {n : Nat} {vs us : List Value} {cs : List (List Int)} {u : Value} {c : List Int} (h : Rest w B V s top n vs (u :: us) (c :: cs)) : Rest w B V s top n vs us cs :=
  ⟨h.top, h.each.2, (List.pairwise_cons.1 h.pw).2, h.t1, h.t2, fun x hx => h.f0 x (by simp [hx]), fun x hx => h.fc x (by simp [hx]), fun x hx => h.fo x (by simp [hx]), fun x hx => h.fw x (by simp [hx])⟩

theorem addr0 (g k : Nat) : (⟨g, 0, none⟩ : Addr).add k = ⟨g, 0 + k, none⟩ := by unfold Addr.add; split <;> simp_all

theorem grown_undrew {w w' : World} {r : Option Nat} (h : w.drew.grownBy w' r) : w.grownBy w' r := ⟨h.os, h.tape, h.output, h.size, h.block⟩
/-- behind a step of the marking loop -/
theorem mark_step {w : World} {Wb B : Nat} {V : WV} {s : St} {top : Value} {n : Nat} {vs us : List Value} {cs : List (List Int)} {g k cap : Nat} {zs : List Int} (hi : WI w Wb B V s) (hr : Rest w B V s top n vs us cs) (hu : w.ownsRow B 3 1 (.slice (some ⟨g, 0, none⟩) k cap) k (i64s zs))
    (f0 : Apart (.slice (some ⟨g, 0, none⟩) k cap) (V.vl s)) (fc : ∀ v ∈ V.vcs, Apart v (.slice (some ⟨g, 0, none⟩) k cap)) (fo : ∀ v ∈ V.vos, Apart v (.slice (some ⟨g, 0, none⟩) k cap)) (fw : ∀ v ∈ V.vws, Apart v (.slice (some ⟨g, 0, none⟩) k cap)) (hus : ∀ v ∈ us, Apart v (.slice (some ⟨g, 0, none⟩) k cap)) (j : Nat) (m x : Int) :
    WI ((w.setCell ⟨Wb, 6, none⟩ (.int .i64 m)).setCell ⟨g, j, none⟩ (.int .i64 x)) Wb B V { s with mark := m } ∧ Rest ((w.setCell ⟨Wb, 6, none⟩ (.int .i64 m)).setCell ⟨g, j, none⟩ (.int .i64 x)) B V { s with mark := m } top n vs us cs ∧
      ((w.setCell ⟨Wb, 6, none⟩ (.int .i64 m)).setCell ⟨g, j, none⟩ (.int .i64 x)).ownsRow B 3 1 (.slice (some ⟨g, 0, none⟩) k cap) k (i64s (zs.set j x)) := by
  have h1 := hi.setMark m
  have h2 := hr.setMark hi m
  have h3 := own_setW hi.blk 6 (.int .i64 m) t_int hu
  obtain ⟨h4, h5⟩ := h3.stored j (.int .i64 x)
  refine ⟨h1.touch h3 h5 f0 fc fo fw, h2.touch h3 h5 hus, ?_⟩
  have : (i64s zs).set j (.int .i64 x) = i64s (zs.set j x) := by simp [i64s, List.map_set]
  rwa [this] at h4

/-- behind the append of two more -/
theorem keep_mid {w W2 w3 : World} {Wb B : Nat} {V : WV} {s : St} {tp : Value} {n : Nat} {vs us : List Value} {cs : List (List Int)} {au a3 : Option Addr} {k cu c3 : Nat} {zs : List Int} {p q : Int} {o : Obj} (hi : WI W2 Wb B V s) (hr : Rest W2 B V s tp n vs us cs) (hu : W2.ownsRow B 3 1 (.slice au k cu) k (i64s zs))
    (hb : Below B w W2) (f0 : Apart (.slice au k cu) (V.vl s)) (fc : ∀ v ∈ V.vcs, Apart v (.slice au k cu)) (fo : ∀ v ∈ V.vos, Apart v (.slice au k cu)) (fw : ∀ v ∈ V.vws, Apart v (.slice au k cu)) (hus : ∀ v ∈ us, Apart v (.slice au k cu))
    (hown3 : w3.ownsRow B 3 1 (.slice a3 (k + 2) c3) (k + 2) (i64s zs ++ [.int .i64 p, .int .i64 q])) (hg3 : (W2.alloc o).drew.grownBy w3 (Value.slice au k cu).ownBlock)
    (hl3 : Value.slice au k cu = .slice a3 k c3 ∨ a3 = some ⟨W2.heap.size + 1, 0, none⟩ ∧ (W2.alloc o).drew.grownBy w3 none) :
    WI w3 Wb B V s ∧ Rest w3 B V s tp n vs us cs ∧ w3.ownsRow B 3 1 (.slice au k cu) k (i64s zs) ∧ w3.ownsRow B 3 1 (.slice a3 (k + 2) c3) (k + 2) (i64s (zs ++ [p, q])) ∧ Apart (.slice a3 (k + 2) c3) (V.vl s) ∧ (∀ v ∈ us, Apart (.slice a3 (k + 2) c3) v) ∧ Below B w w3 := by
  have hg := grown_undrew hg3
  have hb1 : Below W2.heap.size W2 (W2.alloc o) := (Below.refl _ _).alloc (Nat.le_refl _) _
  have hu1 := hu.alloc o
  have i1 := hi.below hb1
  have r1 := hr.below hb1
  have lo := lies_own (N := k + 2) hl3
  have hBs : B ≤ W2.heap.size := Nat.le_trans hi.base (Nat.le_of_lt hi.blk.lt)
  have hbA : Below B w (W2.alloc o) := hb.alloc hBs _
  refine ⟨i1.touch hu1 hg f0 fc fo fw, r1.touch hu1 hg hus, ?_, ?_, ?_, ?_, ?_⟩
  · exact own_short (w := (W2.alloc o).drew) hu1 (m := 2) rfl hown3 hl3
  · have e : i64s zs ++ [Value.int .i64 p, .int .i64 q] = i64s (zs ++ [p, q]) := by simp [i64s]
    rwa [e] at hown3
  · exact (apart_moved hi.list f0.symm (Nat.le_succ _) lo).symm
  · intro v hv
    obtain ⟨xs, hx⟩ := hr.each.mem hv
    exact (apart_moved hx (hus v hv) (Nat.le_succ _) lo).symm
  · exact hbA.grown hg (by simp; omega) (fun j hj => (hu.lt j hj).1)

set_option maxHeartbeats 4000000 in
theorem keep_fr (Wb B : Nat) (V : WV) (s : St) (w : World) (h : WI w Wb B V s) (a : Option Addr) (c : Nat) (cl : List (List Int)) (vs : List Value) (hr : Rest w B V s (.slice a cl.length c) cl.length vs vs cl)
    (hcl : cl.length ≤ 1000) (hc1 : Hid (∀ x ∈ cl, x.length ≤ 5000000)) (hout : s.outs.length ≤ 100000000) (hmk : 0 ≤ s.mark ∧ s.mark ≤ 4000000000000000) (hsame : Hid (s.outs = s.want)) :
    Calls Tryz.prog 22 #[.pointer (some ⟨Wb, 0, none⟩), .slice a cl.length c] w fun e w' => e = .returned (.tuple #[]) ∧ ∃ V' s', WI w' Wb B V' s' ∧ Below B w w' ∧ s'.list = s.list ∧ s'.clauses = s.clauses ∧ s'.texts = s.texts ∧ s'.outs = s'.want ∧
      s'.outs.length ≤ s.outs.length + 2 * cl.length ∧ (∀ x ∈ s'.outs, x ∈ s.outs ∨ x.length ≤ 5000002) ∧ s.mark ≤ s'.mark ∧ s'.mark ≤ s.mark + 5000002 * cl.length ∧ (V'.nx = V.nx ∧ V'.vxs = V.vxs ∧ V'.ax = V.ax ∧ V'.cx = V.cx) ∧ KFr w w' Wb V V' vs := by
  obtain ⟨i0, hi, hz0, hz1, hz2⟩ := info_parts Tryz.infoInt
  have H := hide h
  have HR := hide hr
  have hBs : B ≤ w.heap.size := Nat.le_trans h.base (Nat.le_of_lt h.blk.lt)
  clear h hr
  go_enter Tryz.func22, Tryz.ntmps22
  go_wp2
  go_loopw [4] (fun i wr => ∃ (k : Nat) (V1 : WV) (s1 : St), k ≤ cl.length ∧ i = .int .i64 k ∧ Hid (WI wr Wb B V1 s1) ∧ Hid (Rest wr B V1 s1 (.slice a cl.length c) cl.length vs (vs.drop k) (cl.drop k)) ∧ Below B w wr ∧ Hid (s1.list = s.list ∧ s1.clauses = s.clauses ∧ s1.texts = s.texts ∧ s1.outs = s1.want ∧ ∀ x ∈ s1.outs, x ∈ s.outs ∨ x.length ≤ 5000002) ∧
      s1.outs.length ≤ s.outs.length + 2 * k ∧ s1.want.length ≤ s.outs.length + 2 * k ∧ s.mark ≤ s1.mark ∧ s1.mark ≤ s.mark + 5000002 * k ∧ Hid (V1.nx = V.nx ∧ V1.vxs = V.vxs ∧ V1.ax = V.ax ∧ V1.cx = V.cx) ∧ Hid (KFr w wr Wb V V1 vs)) (fun i _ => cl.length - (intOf i).toNat)
  case atStart => exact ⟨0, V, s, Nat.zero_le _, rfl, H, HR, Below.refl _ _, ⟨rfl, rfl, rfl, hsame.out, fun x hx => .inl hx⟩, by omega, by rw [← hsame.out]; omega, by omega, by omega, ⟨rfl, rfl, rfl, rfl⟩, fun b _ _ h3 _ => ⟨rfl, h3⟩⟩
  case round =>
    clear H HR
    obtain ⟨k, V1, s1, hk, rfl, H, HR, hbel, HE, ho1, hw1, hm1, hm2, HV, HKF⟩ := hrel
    by_cases hlt : k < cl.length
    · have hvl : vs.length = cl.length := by have := HR.out.top.1; omega
      obtain ⟨u, hu⟩ : ∃ u, vs[k]? = some u := ⟨_, List.getElem?_eq_getElem (by omega)⟩
      have hdv : vs.drop k = u :: vs.drop (k + 1) := by
        rw [List.drop_eq_getElem_cons (by omega)]
        rw [List.getElem?_eq_getElem (by omega)] at hu
        simp at hu
        rw [hu]
      have hdc := drop_get cl [] k hlt
      have humem : u ∈ vs := List.mem_of_getElem? hu
      have hR := HR.out
      rw [hdv, hdc] at hR
      have hcx : (cl.getD k []).length ≤ 5000000 := hc1.out _ (by rw [List.getD_eq_getElem?_getD, List.getElem?_eq_getElem hlt]; exact List.getElem_mem hlt)
      obtain ⟨b, off, rfl, hcell⟩ : ∃ b off, a = some ⟨b, off, none⟩ ∧ wr.cell? ⟨b, off + k, none⟩ = some u := by
        rcases HR.out.top.2 with ⟨hv, h0⟩ | ⟨g, cap, cur, hv, _⟩
        · omega
        · simp only [Value.slice.injEq] at hv
          obtain ⟨rfl, _, rfl⟩ := hv
          have h3 := HR.out.top.cells (g := g) rfl k u hu
          rw [addr0] at h3
          exact ⟨g, 0, rfl, h3⟩
      obtain ⟨au, cu, rfl, hou⟩ := own_list (cl.getD k []) rfl rfl hR.each.1
      have HR2 := hide hR.tail
      have HF := hide (And.intro (hR.f0 _ List.mem_cons_self) (And.intro (hR.fc _ List.mem_cons_self) (And.intro (hR.fo _ List.mem_cons_self) (And.intro (hR.fw _ List.mem_cons_self) (fun v hv => ((List.pairwise_cons.1 hR.pw).1 v hv).symm : ∀ v ∈ vs.drop (k + 1), Apart v (.slice au (cl.getD k []).length cu))))))
      have HO := hide hou
      have HUM := hide humem
      clear hR hdv hdc hu hvl hou HR humem
      generalize cl.getD k [] = xs at hcx hcell HF HO HUM
      have hm0 : 0 ≤ s1.mark := by omega
      have hm9 : s1.mark ≤ 4000010000000000 := by omega
      go_wp2
      go_loopw [6] (fun i wz => ∃ (j : Nat) (zs : List Int), j ≤ xs.length ∧ i = .int .i64 j ∧ zs.length = xs.length ∧ Hid (wz.ownsRow B 3 1 (.slice au xs.length cu) xs.length (i64s zs)) ∧ Hid (WI wz Wb B V1 { s1 with mark := s1.mark + j }) ∧
        Hid (Rest wz B V1 { s1 with mark := s1.mark + j } (.slice (some ⟨b, off, none⟩) cl.length c) cl.length vs (vs.drop (k + 1)) (cl.drop (k + 1))) ∧ Below B w wz ∧ Hid (KFr w wz Wb V V1 vs)) (fun i _ => xs.length - (intOf i).toNat)
      case atStart => exact ⟨0, xs, Nat.zero_le _, rfl, rfl, HO, by show WI _ _ _ _ _; simpa using H.out, by show Rest _ _ _ _ _ _ _ _ _; simpa using HR2.out, hbel, HKF⟩
      case round =>
        clear HO H HR2 hbel hcell HKF
        obtain ⟨j, zs, hj, rfl, hzl, HO, H, HR2, hbel, HKF⟩ := hrel
        have k6 : wr.cell? ⟨Wb, 6, none⟩ = some (.int .i64 (s1.mark + j)) := (H.out.blk.cell 6).trans rfl
        have k6' := H.out.blk.frozen 6
        by_cases hjl : j < xs.length
        · obtain ⟨g, rfl⟩ : ∃ g, au = some ⟨g, 0, none⟩ := by
            rcases HO.out.2 with ⟨_, h0⟩ | ⟨g, cap, cur, hv, _⟩
            · omega
            · simp only [Value.slice.injEq] at hv; exact ⟨g, hv.1⟩
          have hgW : g ≠ Wb := by
            intro e; subst e
            rcases HO.out.2 with ⟨_, h0⟩ | ⟨g', cap, cur, hv, _, hg, _⟩
            · omega
            · simp only [Value.slice.injEq, Option.some.injEq, Addr.mk.injEq, and_true] at hv
              obtain ⟨rfl, _, rfl⟩ := hv
              have hb : wr.heap[g]? = some (.cells (V1.cells { s1 with mark := s1.mark + j }).toArray 34 (0, 0)) := H.out.blk
              rw [hb] at hg
              simp only [Option.some.injEq, Obj.cells.injEq] at hg
              exact t_int hg.2.1.symm
          have kc : ∃ v, wr.cell? ⟨g, j, none⟩ = some v := by
            rw [HO.out.cellAt j (by omega)]
            exact ⟨_, List.getElem?_eq_getElem (by rw [i64s_length]; omega)⟩
          obtain ⟨v0, kc⟩ := kc
          have kf := HO.out.frozenAt j
          have HM := hide (mark_step H.out HR2.out HO.out HF.out.1 HF.out.2.1 HF.out.2.2.1 HF.out.2.2.2.1 HF.out.2.2.2.2 j (s1.mark + j + 1) (s1.mark + j + 1))
          have hBg : B ≤ g := (HO.out.lt g rfl).1
          have em : s1.mark + ((j + 1 : Nat) : Int) = s1.mark + j + 1 := by omega
          have EM := hide em
          clear em
          go_wp2
          go_roundw
          case rel => exact ⟨j + 1, zs.set j (s1.mark + j + 1), by omega, by go_num, by simp [hzl], HM.out.2.2, by show WI _ _ _ _ _; rw [EM.out]; exact HM.out.1, by show Rest _ _ _ _ _ _ _ _ _; rw [EM.out]; exact HM.out.2.1, (hbel.setCell (p := ⟨Wb, 6, none⟩) H.out.base _).setCell (p := ⟨g, j, none⟩) hBg _, (HKF.out.set 6 _).put HUM.out rfl j _⟩
          case measure => simp [intOf]; omega
        · obtain rfl : j = xs.length := by omega
          have d1 : Hid (xs.length + 2 ≤ maxLen) := by show _ ≤ _; unfold maxLen; omega
          have d2 : Hid ((xs.length + 2) * 8 ≤ 140737488355328) := by show _ ≤ _; omega
          have hzB : B ≤ wr.heap.size := Nat.le_trans hBs hbel.size
          have HI2 : Hid (WI (wr.setCell ⟨Wb, 6, none⟩ (.int .i64 (s1.mark + xs.length + 2))) Wb B V1 { s1 with mark := s1.mark + xs.length + 2 }) := H.out.setMark _
          have HR3 : Hid (Rest (wr.setCell ⟨Wb, 6, none⟩ (.int .i64 (s1.mark + xs.length + 2))) B V1 { s1 with mark := s1.mark + xs.length + 2 } (.slice (some ⟨b, off, none⟩) cl.length c) cl.length vs (vs.drop (k + 1)) (cl.drop (k + 1))) := HR2.out.setMark H.out _
          have HO2 : Hid ((wr.setCell ⟨Wb, 6, none⟩ (.int .i64 (s1.mark + xs.length + 2))).ownsRow B 3 1 (.slice au xs.length cu) xs.length (i64s zs)) := own_setW H.out.blk 6 _ t_int HO.out
          have hbel2 : Below B w (wr.setCell ⟨Wb, 6, none⟩ (.int .i64 (s1.mark + xs.length + 2))) := hbel.setCell (p := ⟨Wb, 6, none⟩) H.out.base _
          have HB2 := hide hbel2
          have KF2 : Hid (KFr w (wr.setCell ⟨Wb, 6, none⟩ (.int .i64 (s1.mark + xs.length + 2))) Wb V V1 vs) := HKF.out.set 6 _
          have hszw : w.heap.size ≤ wr.heap.size := hbel.size
          go_wp2
          have hwz : (wr.setCell ⟨Wb, 6, none⟩ (.int .i64 (s1.mark + xs.length + 2))).heap.size = wr.heap.size := by simp [World.setCell]
          generalize hW2 : wr.setCell ⟨Wb, 6, none⟩ (.int .i64 (s1.mark + xs.length + 2)) = W2 at *
          have hzW : B ≤ W2.heap.size := by omega
          have k7 : W2.cell? ⟨Wb, 6, none⟩ = some (.int .i64 (s1.mark + xs.length + 2)) := (HI2.out.blk.cell 6).trans rfl
          have hne := World.new_ne W2 ⟨Wb, 6, none⟩ k7
          have hszW : w.heap.size ≤ W2.heap.size := by omega
          clear hW2 hwz H HO HR2 k6 k6' hbel hbel2 hzB HKF hszw
          have hwrap : IntKind.i64.wrap (s1.mark + (xs.length : Int) + 2 - 1) = s1.mark + xs.length + 1 := by rw [IntKind.wrap_i64]; omega
          go_region_held3 (fun w' => w'.cell? ⟨Wb, 6, none⟩ = some (.int .i64 (s1.mark + xs.length + 2))) (go_keep)
            ((refine step_append_full _ (by rfl) (.tmp 47) (.tmp 57) 24 (by rfl) B 3 i0 (.int .i64 0) 8 Tryz.undInts hi hz0 hz1 hz2 rfl (.slice au xs.length cu) xs.length (i64s zs) (by rfl) (by exact HO2.out.alloc _) ⟨W2.heap.size, 0, none⟩ 2 2 [.int .i64 (s1.mark + xs.length + 1), .int .i64 (s1.mark + xs.length + 2)] (by rfl) rfl (by exact new_cells1 W2 [.int .i64 (s1.mark + xs.length + 1), .int .i64 (s1.mark + xs.length + 2)] 3) (by intro u hu; simp at hu; rcases hu with rfl | rfl <;> rfl) (by decide) d1.out d2.out (by simp; omega) (W2.heap.size + 1) (by simp) ?_; intro a3 c3 w3 hown3 hg3 hl3; have g6 : w3.cell? ⟨Wb, 6, none⟩ = some (.int .i64 (s1.mark + xs.length + 2)) := ((row_grown (row_below HI2.out.blk ((Below.refl _ _).alloc (Nat.le_refl _) _)) (HO2.out.alloc _) t_int (grown_undrew hg3)).cell 6).trans rfl))
          obtain ⟨i3, r3, u3, v3, av, ar, hb3⟩ := keep_mid HI2.out HR3.out HO2.out HB2.out HF.out.1 HF.out.2.1 HF.out.2.2.1 HF.out.2.2.2.1 HF.out.2.2.2.2 hown3 hg3 hl3
          have hz2' : (zs ++ [s1.mark + (xs.length : Int) + 1, s1.mark + xs.length + 2]).length = xs.length + 2 := by simp [hzl]
          have hh1 := hold_any Wb B V1 { s1 with mark := s1.mark + xs.length + 2 } w3 i3 au cu zs (by rw [hzl]; exact u3) (by rw [hzl]; exact HF.out.1) (by omega) (by show s1.outs.length ≤ _; omega) (by show s1.want.length ≤ _; omega)
          rw [hzl] at hh1
          have KF3 : Hid (KFr w w3 Wb V V1 vs) := KF2.out.grown hszW HUM.out (grown_undrew hg3)
          have hsz3 : w.heap.size ≤ w3.heap.size := Nat.le_trans hszW (Nat.le_trans (by simp) hg3.size)
          have LG3 : Hid (∀ b, b < w.heap.size → (∀ u ∈ vs, u.ownBlock ≠ some b) → (Value.slice a3 (xs.length + 2) c3).ownBlock ≠ some b) := fun b h1 h2 e => off_own (off_moved (own_off (h2 _ HUM.out)) hl3 (by omega)) _ _ e.symm
          have HH1 := hide hh1
          have I3 := hide i3
          have R3 := hide r3
          have V3 := hide v3
          have AV := hide av
          have AR := hide ar
          have HB3 := hide hb3
          clear hh1 i3 r3 u3 v3 av ar hb3 hown3 hg3 hl3 g6 k7 hne hwrap HO2 HI2 HR3 HB2
          go_wp2_with fail
          refine (unhide HH1).mono ?_
          rintro e w4 ⟨rfl, V2, i4, hd4, hvo4, hfr4⟩
          have KF4 : Hid (KFr w w4 Wb V V2 vs) := KF3.out.held hsz3 hfr4 (fun b _ h2 => h2 _ HUM.out)
          have hsz4 : w.heap.size ≤ w4.heap.size := Nat.le_trans hsz3 hd4.below.size
          clear hfr4
          have R4 := hide (R3.out.held hd4 rfl hvo4 (fun u hu => (HF.out.2.2.2.2 u hu).symm) I3.out.ot I3.out.wt)
          have v4 := (hd4.oth _ _ _ _ t_int V3.out (apart_types n_il V3.out I3.out.ot) (apart_types n_il V3.out I3.out.wt)).1
          have hvl4 : V2.vl { s1 with mark := s1.mark + xs.length + 2, outs := s1.outs ++ [zs], want := s1.want ++ [zs] } = V1.vl { s1 with mark := s1.mark + xs.length + 2 } := by simp only [WV.vl, hd4.al, hd4.cl]
          have hh2 := hold_any Wb B V2 { s1 with mark := s1.mark + xs.length + 2, outs := s1.outs ++ [zs], want := s1.want ++ [zs] } w4 i4 a3 c3 (zs ++ [s1.mark + xs.length + 1, s1.mark + xs.length + 2]) (by rw [hz2']; exact v4) (by rw [hz2', hvl4]; exact AV.out) (by rw [hz2']; omega) (by show (s1.outs ++ [zs]).length ≤ _; rw [snoc_len]; omega) (by show (s1.want ++ [zs]).length ≤ _; rw [snoc_len]; omega)
          rw [hz2'] at hh2
          have HH2 := hide hh2
          have I4 := hide i4
          have HD4 := hide hd4
          clear hh2 HH1 i4 hd4 hvo4 v4 hvl4
          go_wp2_with fail
          refine (unhide HH2).mono ?_
          rintro e w5 ⟨rfl, V3', i5, hd5, hvo5, hfr5⟩
          have KF5 : Hid (KFr w w5 Wb V V3' vs) := KF4.out.held hsz4 hfr5 LG3.out
          clear hfr5
          have R5 := hide (R4.out.held hd5 rfl hvo5 (fun u hu => AR.out u hu) I4.out.ot I4.out.wt)
          have I5 := hide i5
          have hb5 : Below B w w5 := (HB3.out.trans HD4.out.below).trans hd5.below
          have HB5 := hide hb5
          have hv5 := hd5.xs
          have hv4 := HD4.out.xs
          have HV5 : Hid (V3'.nx = V.nx ∧ V3'.vxs = V.vxs ∧ V3'.ax = V.ax ∧ V3'.cx = V.cx) := ⟨hv5.1.trans (hv4.1.trans HV.out.1), hv5.2.1.trans (hv4.2.1.trans HV.out.2.1), hv5.2.2.1.trans (hv4.2.2.1.trans HV.out.2.2.1), hv5.2.2.2.trans (hv4.2.2.2.trans HV.out.2.2.2)⟩
          clear hv5 hv4
          clear HH2 i5 hd5 hvo5 hb5
          go_wp2
          go_roundw
          case rel =>
            refine ⟨k + 1, V3', _, by omega, by go_num, I5, R5, HB5.out, ?_, ?_, ?_, ?_, ?_, HV5, KF5⟩
            · obtain ⟨e1, e2, e3, e4, e5⟩ := HE.out
              refine ⟨e1, e2, e3, ?_, ?_⟩
              · show s1.outs ++ [zs] ++ _ = s1.want ++ [zs] ++ _
                rw [e4]
              · intro x hx
                rcases List.mem_append.1 hx with hx | hx
                · rcases List.mem_append.1 hx with hx | hx
                  · exact e5 x hx
                  · simp at hx; subst hx; right; omega
                · simp only [List.mem_singleton] at hx
                  subst hx
                  right
                  rw [hz2']; omega
            · show (s1.outs ++ [zs] ++ [_]).length ≤ _
              rw [snoc_len, snoc_len]; omega
            · show (s1.want ++ [zs] ++ [_]).length ≤ _
              rw [snoc_len, snoc_len]; omega
            · show _ ≤ s1.mark + (xs.length : Int) + 2
              omega
            · show s1.mark + (xs.length : Int) + 2 ≤ _
              omega
          case measure => simp [intOf]; omega
    · obtain rfl : k = cl.length := by omega
      go_wp2
      go_end0
      obtain ⟨e1, e2, e3, e4, e5⟩ := HE.out
      exact ⟨rfl, V1, s1, H.out, hbel, e1, e2, e3, e4, ho1, e5, hm1, hm2, HV.out, HKF.out⟩

theorem keep_any (Wb B : Nat) (V : WV) (s : St) (w : World) (h : WI w Wb B V s) (a : Option Addr) (c : Nat) (cl : List (List Int)) (vs : List Value) (hr : Rest w B V s (.slice a cl.length c) cl.length vs vs cl)
    (hcl : cl.length ≤ 1000) (hc1 : Hid (∀ x ∈ cl, x.length ≤ 5000000)) (hout : s.outs.length ≤ 100000000) (hmk : 0 ≤ s.mark ∧ s.mark ≤ 4000000000000000) (hsame : Hid (s.outs = s.want)) :
    Calls Tryz.prog 22 #[.pointer (some ⟨Wb, 0, none⟩), .slice a cl.length c] w fun e w' => e = .returned (.tuple #[]) ∧ ∃ V' s', WI w' Wb B V' s' ∧ Below B w w' ∧ s'.list = s.list ∧ s'.clauses = s.clauses ∧ s'.texts = s.texts ∧ s'.outs = s'.want ∧
      s'.outs.length ≤ s.outs.length + 2 * cl.length ∧ (∀ x ∈ s'.outs, x ∈ s.outs ∨ x.length ≤ 5000002) ∧ s.mark ≤ s'.mark ∧ s'.mark ≤ s.mark + 5000002 * cl.length ∧ V'.nx = V.nx ∧ V'.vxs = V.vxs ∧ V'.ax = V.ax ∧ V'.cx = V.cx := by
  refine (keep_fr Wb B V s w h a c cl vs hr hcl hc1 hout hmk hsame).mono ?_
  rintro e w' ⟨rfl, V', s', h1, h2, h3, h4, h5, h6, h7, h8, h9, h10, h11, _⟩
  exact ⟨rfl, V', s', h1, h2, h3, h4, h5, h6, h7, h8, h9, h10, h11⟩

end Go.Proofs.YthboeppmlhbofaaGreatDoor
