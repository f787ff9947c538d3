/-
  traillaw's pure and step, where they check: the walks.
-/
import Derived.Test.YthboeppmlhbofaaGreatDoorClj
import Derived.Test.YthboeppmlhbofaaGreatDoorStp
namespace Go.Proofs.YthboeppmlhbofaaGreatDoor
open Go.RowKit Txt
set_option maxRecDepth 100000

set_option maxHeartbeats 2000000 in
theorem pure_none19 (Wb B n : Nat) (V : WV) (s : St) (w : World) (o : OpD) (h : WI w Wb B V s) (hbd : Bd n s) (hn : n ≤ 16384) (hk : o.k = 19) (h0 : s.texts.length = 0) :
    Calls Tryz.prog 15 #[.pointer (some ⟨Wb, 0, none⟩), .agg o.cells] w fun e w' => e = .returned (.bool true) ∧ Nxt (n + 1) w w' Wb B V := by
  have hBs : B ≤ w.heap.size := Nat.le_trans h.base (Nat.le_of_lt h.blk.lt)
  have HB : Hid (∀ x, Below w.heap.size w (w.alloc x)) := fun x => (Below.refl _ _).alloc (Nat.le_refl _) x
  have HT : Hid (∀ x, Calls Tryz.prog 22 #[.pointer (some ⟨Wb, 0, none⟩), .slice none 0 0] (w.alloc x) fun e w' => e = .returned (.tuple #[]) ∧ Nxt n (w.alloc x) w' Wb B V) := fun x => keep_nil Wb B n V s (w.alloc x) (h.below (HB.out x)) hbd (by omega)
  obtain ⟨k, a, b, c, t⟩ := o
  have hlt : Wb < w.heap.size := h.blk.lt
  have f2 : w.cell? ⟨Wb, 2, none⟩ = some (.slice V.at_ s.texts.length V.ct) := (h.blk.cell 2).trans rfl
  simp only [OpD.cells] at *
  clear h hbd
  subst hk
  go_enter Tryz.func15, Tryz.ntmps15
  go_wp2_with fail
  refine (unhide HT _).mono ?_
  rintro e w' ⟨rfl, V', s', i1, i2, i3, i4, i5, i6⟩
  go_wp2
  go_ret
  exact ⟨rfl, V', s', i1, i2.next, ((HB.out _).mono hBs).trans i3, i4, i5, Frm.pre (HB.out _) i6⟩

/-- one list that came out is to be kept -/
theorem check_end {w1 w2 : World} {Wb B : Nat} {V : WV} {s : St} {a : Option Addr} {c : Nat} {xs : List Int} (H1 : WI w1 Wb B V s) (hB1 : B ≤ w1.heap.size) (hb2 : Below w1.heap.size w1 w2) (ho : w2.ownsRow w1.heap.size 3 1 (.slice a xs.length c) xs.length (i64s xs)) :
    Rest (w2.alloc (.cells #[.slice a xs.length c] 24)) B V s (.slice (some ⟨w2.heap.size, 0, none⟩) [xs].length 1) [xs].length [.slice a xs.length c] [.slice a xs.length c] [xs] := by
  have hB2 : B ≤ w2.heap.size := Nat.le_trans hB1 hb2.size
  have hu := own_base ho hB1
  have htop : ∀ B', B' ≤ w2.heap.size → (w2.alloc (.cells #[.slice a xs.length c] 24)).ownsRow B' 24 1 (.slice (some ⟨w2.heap.size, 0, none⟩) 1 1) 1 [.slice a xs.length c] := fun B' hB' => ⟨rfl, .inr ⟨w2.heap.size, 1, #[.slice a xs.length c], rfl, hB', heap_alloc_new w2 _, Nat.le_refl _, by unfold maxLen; omega, rfl, rfl⟩⟩
  have H2 := H1.below hb2
  refine ⟨htop B hB2, ⟨hu.alloc _, trivial⟩, List.pairwise_singleton _ _, ?_, ?_, ?_, ?_, ?_, ?_⟩
  · exact apart_late H2.ot (htop w2.heap.size (Nat.le_refl _)) (Nat.le_refl _)
  · exact apart_late H2.wt (htop w2.heap.size (Nat.le_refl _)) (Nat.le_refl _)
  · intro u hu
    simp only [List.mem_singleton] at hu
    subst hu
    exact apart_late H1.list ho (Nat.le_refl _)
  · intro u hu v hv
    simp only [List.mem_singleton] at hu
    subst hu
    obtain ⟨ys, hy⟩ := H1.cle.mem hv
    exact (apart_late hy ho (Nat.le_refl _)).symm
  · intro u hu v hv
    simp only [List.mem_singleton] at hu
    subst hu
    obtain ⟨ys, hy⟩ := H1.oe.mem hv
    exact (apart_late hy ho (Nat.le_refl _)).symm
  · intro u hu v hv
    simp only [List.mem_singleton] at hu
    subst hu
    obtain ⟨ys, hy⟩ := H1.we.mem hv
    exact (apart_late hy ho (Nat.le_refl _)).symm

set_option maxHeartbeats 4000000 in
theorem pure_checkF (Wb B n : Nat) (V : WV) (s : St) (w : World) (o : OpD) (ho : o.Ok) (hk : o.k = 19) (h : WI w Wb B V s) (hbd : Bd n s) (hn : n ≤ 16384) (h0 : 0 < s.texts.length) :
    Calls Tryz.prog 15 #[.pointer (some ⟨Wb, 0, none⟩), .agg o.cells] w fun e w' => e = .returned (.bool true) ∧ Nxt (n + 1) w w' Wb B V := by
  obtain ⟨k, a, b, c, t⟩ := o
  subst hk
  have hx := hbd.txs
  have hcl := hbd.cls
  have hBs : B ≤ w.heap.size := Nat.le_trans h.base (Nat.le_of_lt h.blk.lt)
  have p1 := fun w => pick_any a s.texts.length w h0 (by omega) ho.a.1 ho.a.2
  have l1 := pickN_lt a s.texts.length h0
  generalize pickN a s.texts.length = j1 at p1 l1
  obtain ⟨g, eg, c1⟩ := texts_at h.tx l1
  have s1 := hbd.tx1 (s.texts.getD j1 ByteArray.empty) (by rw [List.getD_eq_getElem?_getD, List.getElem?_eq_getElem l1]; exact List.getElem_mem l1)
  generalize s.texts.getD j1 ByteArray.empty = t1 at c1 s1
  have hln := check_len s.clauses (bs t1)
  rw [bs_length] at hln
  have CH : Hid (∀ w1, Below w.heap.size w w1 → Calls Tryz.prog 29 #[.slice V.ac s.clauses.length V.cc, .string t1] w1 (CdL w1.heap.size w1 (checkN s.clauses (bs t1)).1)) := by
    intro w1 hb
    have H1 := h.below hb
    obtain ⟨A, C, hr⟩ := own_rowsAt H1.clt H1.cle (fun c hc => Nat.le_trans (hbd.cl1 c hc) (by decide))
    exact checked_law V.ac V.cc A C s.clauses t1 w1 (by omega) (by omega) hr (fun c hc => Nat.le_trans (hbd.cl1 c hc) (by decide))
  generalize (checkN s.clauses (bs t1)).1 = xs at CH hln
  have H := hide h
  have HBD := hide hbd
  have P1 := hide p1
  have hlt : Wb < w.heap.size := h.blk.lt
  have hgt : g < w.heap.size := World.block_lt_of_cell? w _ c1
  have f1w : w.cell? ⟨Wb, 1, none⟩ = some (.slice V.ac s.clauses.length V.cc) := (h.blk.cell 1).trans rfl
  have f2w : w.cell? ⟨Wb, 2, none⟩ = some (.slice (some ⟨g, 0, none⟩) s.texts.length V.ct) := (h.blk.cell 2).trans (by simp only [WV.cells, WV.vt, eg]; rfl)
  simp only [OpD.cells] at *
  clear h hbd ho p1 eg
  have q1 : (0 : Int) ≤ (j1 : Int) := by omega
  have q3 : (j1 : Int) < (s.texts.length : Int) := by omega
  have hpt : ((s.texts.length : Int) > 0) := by omega
  go_enter Tryz.func15, Tryz.ntmps15
  go_wp2_with (go_at_call 16; refine (unhide P1 _).mono ?_; rintro e w' ⟨rfl, hw⟩; obtain rfl := hw.symm)
  have hb1 : Below w.heap.size w (w.alloc (.cells #[.int .i64 19, .int .i64 a, .int .i64 b, .int .i64 c, .string t] 27)) := (Below.refl _ _).alloc (Nat.le_refl _) _
  generalize w.alloc (.cells #[.int .i64 19, .int .i64 a, .int .i64 b, .int .i64 c, .string t] 27) = w1 at *
  have H0 := hide (H.out.below hb1)
  have hb1d : Below w.heap.size w w1.drew := below_drewN hb1 1
  have H1 := hide (H.out.below hb1d)
  have HB1 := hide hb1d
  have hB1 : B ≤ w1.drew.heap.size := Nat.le_trans hBs hb1d.size
  have CK := hide (CH.out w1.drew hb1d)
  have f1 : w1.cell? ⟨Wb, 1, none⟩ = some (.slice V.ac s.clauses.length V.cc) := (H0.out.blk.cell 1).trans rfl
  have f2 : w1.cell? ⟨Wb, 2, none⟩ = some (.slice (some ⟨g, 0, none⟩) s.texts.length V.ct) := (hb1.cell (p := ⟨Wb, 2, none⟩) hlt).trans f2w
  have f3 : w1.cell? ⟨g, j1, none⟩ = some (.string t1) := (hb1.cell (p := ⟨g, j1, none⟩) hgt).trans c1
  clear hb1 hb1d hw c1 f1w f2w P1 CH H0
  go_region_with (go_at_call 29; refine (unhide CK).mono ?_; rintro e w2 ⟨hb2, a', c', rfl, ho2⟩)
  all_goals
    have HR := hide (check_end H1.out hB1 hb2 ho2)
    have HW3 := hide ((H1.out.below hb2).below ((Below.refl w2.heap.size w2).alloc (Nat.le_refl _) (.cells #[.slice a' xs.length c'] 24)))
    have HB3 : Hid (Below B w (w2.alloc (.cells #[.slice a' xs.length c'] 24))) := (((HB1.out.mono hBs).trans (hb2.mono hB1)).alloc (Nat.le_trans hB1 hb2.size) _)
    have HV2 : Hid (∀ u ∈ [Value.slice a' xs.length c'], ∀ b, u.ownBlock = some b → w.heap.size ≤ b) := fun u hu b e => by
      simp only [List.mem_singleton] at hu
      subst hu
      exact Nat.le_trans HB1.out.size (ho2.lt b e).1
    have HF3 : Hid (Frm w (w2.alloc (.cells #[.slice a' xs.length c'] 24)) Wb V V) := Frm.of Wb V ((HB1.out.trans (hb2.mono HB1.out.size)).alloc (Nat.le_trans HB1.out.size hb2.size) _)
    have HK := hide (keep_nxk Wb B n V s _ HW3.out HBD.out (by omega) (some ⟨w2.heap.size, 0, none⟩) 1 [xs] [.slice a' xs.length c'] HR.out (by simp) (fun x hx => by simp only [List.mem_singleton] at hx; subst hx; omega))
    simp only [List.length_cons, List.length_nil, Nat.zero_add] at HK
    clear hb2 ho2 CK HR
    go_wp2_with fail
    refine (unhide HK).mono ?_
    rintro e w' ⟨rfl, hN⟩
    have HN := hide (hN.nxt HB3.out ⟨rfl, rfl⟩ HF3.out HV2.out)
    clear hN HK
    go_wp2
    go_ret
    exact ⟨rfl, HN.out⟩

theorem pure_check (Wb B n : Nat) (V : WV) (s : St) (w : World) (o : OpD) (ho : o.Ok) (hk : o.k = 19) (h : WI w Wb B V s) (hbd : Bd n s) (hn : n ≤ 16384) (h0 : 0 < s.texts.length) :
    Calls Tryz.prog 15 #[.pointer (some ⟨Wb, 0, none⟩), .agg o.cells] w fun e w' => e = .returned (.bool true) ∧ Nxw (n + 1) w w' Wb B V := (pure_checkF Wb B n V s w o ho hk h hbd hn h0).mono (fun _ _ h => ⟨h.1, h.2.weak⟩)

/-- a step that Checks plays -/
def kindCk (k : Int) : Prop := k < 10 ∨ k = 10 ∨ k = 19
theorem pure_ck (Wb B n : Nat) (V : WV) (s : St) (w : World) (o : OpD) (ho : o.Ok) (hk : kindCk o.k) (h : WI w Wb B V s) (hbd : Bd n s) (hn : n ≤ 16384) :
    Calls Tryz.prog 15 #[.pointer (some ⟨Wb, 0, none⟩), .agg o.cells] w fun e w' => e = .returned (.bool true) ∧ Nxw (n + 1) w w' Wb B V := by
  by_cases h19 : o.k = 19
  · by_cases h0 : s.texts.length = 0
    · exact (pure_none19 Wb B n V s w o h hbd hn h19 h0).mono (fun _ _ h => ⟨h.1, h.2.weak⟩)
    · exact pure_check Wb B n V s w o ho h19 h hbd hn (by omega)
  · have n1 : (o.k == 12) = false := by simp; rcases hk with h | h | h <;> omega
    have n2 : (o.k == 13) = false := by simp; rcases hk with h | h | h <;> omega
    have n3 : (o.k == 19) = false := by simpa using h19
    have n4 : (o.k == 11) = false := by simp; rcases hk with h | h | h <;> omega
    by_cases h10 : o.k = 10
    · by_cases h0 : s.texts.length = 0
      · exact (pure_none Wb B n V s w o h hbd hn (.inl ⟨by simpa using h10, h0⟩) n1 n2 n3).mono (fun _ _ h => ⟨h.1, h.2.weak⟩)
      · exact pure_read Wb B n V s w o ho h10 h hbd hn (by omega)
    · exact (pure_none Wb B n V s w o h hbd hn (.inr ⟨by simpa using h10, n4⟩) n1 n2 n3).mono (fun _ _ h => ⟨h.1, h.2.weak⟩)

set_option maxHeartbeats 4000000 in
theorem step_pureC (Wb B n : Nat) (V : WV) (s : St) (w : World) (o : OpD) (ho : o.Ok) (hio : isOwn o.k = false) (hk : kindCk o.k) (h9 : (o.k == 9) = false) (h : WI w Wb B V s) (hbd : Bd n s) (hn : n ≤ 16384) :
    Calls Tryz.prog 12 #[.pointer (some ⟨Wb, 0, none⟩), .agg o.cells] w fun e w' => e = .returned (.bool true) ∧ Nxw (n + 1) w w' Wb B V := by
  have hBs : B ≤ w.heap.size := Nat.le_trans h.base (Nat.le_of_lt h.blk.lt)
  have HB : Hid (∀ x, Below w.heap.size w (w.alloc x)) := fun x => (Below.refl _ _).alloc (Nat.le_refl _) x
  have HT : Hid (∀ x, Calls Tryz.prog 14 #[.pointer (some ⟨Wb, 0, none⟩), .agg o.cells] (w.alloc x) fun e w' => e = .returned (.bool false) ∧ Below (w.alloc x).heap.size (w.alloc x) w') := by
    intro x
    refine (owner_any Wb B n V s (w.alloc x) o ho (h.below (HB.out x)) hbd hn).mono ?_
    rintro e w' ⟨rfl, hm⟩
    exact ⟨by rw [hio], hm.no hio⟩
  have HP : Hid (∀ w1, Below w.heap.size w w1 → Calls Tryz.prog 15 #[.pointer (some ⟨Wb, 0, none⟩), .agg o.cells] w1 fun e w' => e = .returned (.bool true) ∧ Nxw (n + 1) w w' Wb B V) := by
    intro w1 hb
    refine (pure_ck Wb B n V s w1 o ho hk (h.below hb) hbd hn).mono ?_
    rintro e w' ⟨rfl, V', s', i1, i2, i3, i4, i5⟩
    exact ⟨rfl, V', s', i1, i2, (hb.mono hBs).trans i3, i4, i5⟩
  obtain ⟨k, a, b, c, t⟩ := o
  have hk14 : k < 14 ∨ k = 19 := by rcases hk with h | h | h <;> simp only at h <;> omega
  simp only [OpD.cells] at *
  have h9' : ¬ k = 9 := by simpa using h9
  clear h hbd ho hio hk
  rcases hk14 with hk14 | hk19
  · go_enter Tryz.func12, Tryz.ntmps12
    go_wp2_with fail
    refine (unhide HT _).mono ?_
    have e1 := fun j u hu => new_cells1 w [.int .i64 k, .int .i64 a, .int .i64 b, .int .i64 c, .string t] 27 j u hu
    have hb1 : Below w.heap.size w (w.alloc (.cells #[.int .i64 k, .int .i64 a, .int .i64 b, .int .i64 c, .string t] 27)) := (Below.refl _ _).alloc (Nat.le_refl _) _
    have e3 : w.heap.size < (w.alloc (.cells #[.int .i64 k, .int .i64 a, .int .i64 b, .int .i64 c, .string t] 27)).heap.size := by simp
    have m0 := e1 0 _ rfl
    have m1 := e1 1 _ rfl
    have m2 := e1 2 _ rfl
    have m3 := e1 3 _ rfl
    have m4 := e1 4 _ rfl
    rw [addr0] at m0 m1 m2 m3 m4
    simp only [Nat.zero_add] at m0 m1 m2 m3 m4
    clear e1
    generalize w.alloc (.cells #[.int .i64 k, .int .i64 a, .int .i64 b, .int .i64 c, .string t] 27) = w1 at *
    rintro e w2 ⟨rfl, hb2⟩
    have k0 := (hb2.cell (p := ⟨w.heap.size, 0, none⟩) e3).trans m0
    have k1 := (hb2.cell (p := ⟨w.heap.size, 1, none⟩) e3).trans m1
    have k2 := (hb2.cell (p := ⟨w.heap.size, 2, none⟩) e3).trans m2
    have k3 := (hb2.cell (p := ⟨w.heap.size, 3, none⟩) e3).trans m3
    have k4 := (hb2.cell (p := ⟨w.heap.size, 4, none⟩) e3).trans m4
    have HW2 : Hid (Below w.heap.size w w2) := hb1.trans (hb2.mono (Nat.le_of_lt e3))
    clear m0 m1 m2 m3 m4 hb1 hb2 HT
    go_wp2_with fail
    refine (unhide HP _ HW2.out).mono ?_
    rintro e w' ⟨rfl, hN⟩
    have HN := hide hN
    clear hN
    go_wp2
    go_ret
    exact ⟨rfl, HN.out⟩
  · subst hk19
    go_enter Tryz.func12, Tryz.ntmps12
    go_wp2_with fail
    refine (unhide HT _).mono ?_
    have e1 := fun j u hu => new_cells1 w [.int .i64 19, .int .i64 a, .int .i64 b, .int .i64 c, .string t] 27 j u hu
    have hb1 : Below w.heap.size w (w.alloc (.cells #[.int .i64 19, .int .i64 a, .int .i64 b, .int .i64 c, .string t] 27)) := (Below.refl _ _).alloc (Nat.le_refl _) _
    have e3 : w.heap.size < (w.alloc (.cells #[.int .i64 19, .int .i64 a, .int .i64 b, .int .i64 c, .string t] 27)).heap.size := by simp
    have m0 := e1 0 _ rfl
    have m1 := e1 1 _ rfl
    have m2 := e1 2 _ rfl
    have m3 := e1 3 _ rfl
    have m4 := e1 4 _ rfl
    rw [addr0] at m0 m1 m2 m3 m4
    simp only [Nat.zero_add] at m0 m1 m2 m3 m4
    clear e1
    generalize w.alloc (.cells #[.int .i64 19, .int .i64 a, .int .i64 b, .int .i64 c, .string t] 27) = w1 at *
    rintro e w2 ⟨rfl, hb2⟩
    have k0 := (hb2.cell (p := ⟨w.heap.size, 0, none⟩) e3).trans m0
    have k1 := (hb2.cell (p := ⟨w.heap.size, 1, none⟩) e3).trans m1
    have k2 := (hb2.cell (p := ⟨w.heap.size, 2, none⟩) e3).trans m2
    have k3 := (hb2.cell (p := ⟨w.heap.size, 3, none⟩) e3).trans m3
    have k4 := (hb2.cell (p := ⟨w.heap.size, 4, none⟩) e3).trans m4
    have HW2 : Hid (Below w.heap.size w w2) := hb1.trans (hb2.mono (Nat.le_of_lt e3))
    clear m0 m1 m2 m3 m4 hb1 hb2 HT
    go_wp2_with fail
    refine (unhide HP _ HW2.out).mono ?_
    rintro e w' ⟨rfl, hN⟩
    have HN := hide hN
    clear hN
    go_wp2
    go_ret
    exact ⟨rfl, HN.out⟩
theorem step_ck (Wb B n : Nat) (V : WV) (s : St) (w : World) (o : OpD) (ho : o.Ok) (hk : kindCk o.k) (h : WI w Wb B V s) (hbd : Bd n s) (hn : n ≤ 16384) (hx0 : V.nx = 0) :
    Calls Tryz.prog 12 #[.pointer (some ⟨Wb, 0, none⟩), .agg o.cells] w fun e w' => e = .returned (.bool true) ∧ Nxw (n + 1) w w' Wb B V := by
  cases hio : isOwn o.k with
  | true => exact (step_own Wb B n V s w o ho hio h hbd hn).mono (fun _ _ h => ⟨h.1, h.2.weak⟩)
  | false =>
    by_cases h9 : o.k = 9
    · exact (step_those Wb B n V s w o ho h9 h hbd hn hx0).mono (fun _ _ h => ⟨h.1, h.2.weak⟩)
    · exact step_pureC Wb B n V s w o ho hio hk (by simpa using h9) h hbd hn

end Go.Proofs.YthboeppmlhbofaaGreatDoor
