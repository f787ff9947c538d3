/-
  traillaw's pure: the walks.
-/
import Derived.Test.YthboeppmlhbofaaGreatDoorOnr
namespace Go.Proofs.YthboeppmlhbofaaGreatDoor
open Go.RowKit Txt
set_option maxRecDepth 100000

/-- behind keep: what is neither the world's own nor of these lists stays -/
def NxK (n : Nat) (w w' : World) (Wb B : Nat) (V : WV) (vs : List Value) : Prop := ∃ V' s', WI w' Wb B V' s' ∧ Bd n s' ∧ Below B w w' ∧ V'.nx = V.nx ∧ V'.vxs = V.vxs ∧ KFr w w' Wb V V' vs
theorem NxK.nxt {n : Nat} {w0 w1 w2 : World} {Wb B : Nat} {V V1 : WV} {vs : List Value} (h : NxK n w1 w2 Wb B V1 vs) (hb : Below B w0 w1) (h1 : V1.nx = V.nx ∧ V1.vxs = V.vxs) (hf : Frm w0 w1 Wb V V1) (hv : ∀ u ∈ vs, ∀ b, u.ownBlock = some b → w0.heap.size ≤ b) : Nxt n w0 w2 Wb B V := by
  obtain ⟨V', s', i1, i2, i3, i4, i5, i6⟩ := h
  have hs := hb.size
  refine ⟨V', s', i1, i2, hb.trans i3, i4.trans h1.1, i5.trans h1.2, fun b q1 q2 q3 => ?_⟩
  obtain ⟨e1, f1⟩ := hf b q1 q2 q3
  obtain ⟨e2, f2⟩ := i6 b (by omega) q2 f1 (fun u hu e => by have := hv u hu b e; omega)
  exact ⟨e2.trans e1, f2⟩
theorem keep_nxk (Wb B n : Nat) (V : WV) (s : St) (w : World) (h : WI w Wb B V s) (hbd : Bd n s) (hn : n ≤ 20000) (a : Option Addr) (c : Nat) (cl : List (List Int)) (vs : List Value) (hr : Rest w B V s (.slice a cl.length c) cl.length vs vs cl)
    (hcl : cl.length ≤ 1000) (hc1 : ∀ x ∈ cl, x.length ≤ 5000000) :
    Calls Tryz.prog 22 #[.pointer (some ⟨Wb, 0, none⟩), .slice a cl.length c] w fun e w' => e = .returned (.tuple #[]) ∧ NxK (n + 1) w w' Wb B V vs := by
  have h1 := hbd.outs
  have h2 := hbd.mark
  refine (keep_fr Wb B V s w h a c cl vs hr hcl hc1 (by omega) (by omega) hbd.same).mono ?_
  rintro e w' ⟨rfl, V', s', i, hb, e1, e2, e3, e4, e5, e6, e7, e8, ⟨e9, e10, _⟩, e11⟩
  refine ⟨rfl, V', s', i, ⟨by rw [e1]; exact hbd.next.list, by rw [e2]; exact hbd.next.cls, by rw [e2]; exact hbd.cl1, by rw [e3]; exact hbd.next.txs, by rw [e3]; exact hbd.tx1, by omega, ?_, by omega, e4⟩, hb, e9, e10, e11⟩
  intro x hx
  rcases e6 x hx with hx | hx
  · exact hbd.out1 x hx
  · omega
set_option maxHeartbeats 1000000 in
theorem keep_none (Wb : Nat) (w : World) : Calls Tryz.prog 22 #[.pointer (some ⟨Wb, 0, none⟩), .slice none 0 0] w fun e w' => e = .returned (.tuple #[]) ∧ w' = w := by
  go_enter Tryz.func22, Tryz.ntmps22
  go_wp2
  go_loopw [4] (fun i wr => i = .int .i64 0 ∧ wr = w) (fun _ _ => 0)
  case atStart => exact ⟨rfl, rfl⟩
  case round =>
    obtain ⟨rfl, rfl⟩ := hrel
    go_wp2
    go_end0
    exact ⟨rfl, rfl⟩
theorem keep_nil (Wb B n : Nat) (V : WV) (s : St) (w : World) (h : WI w Wb B V s) (hbd : Bd n s) (hn : n ≤ 20000) :
    Calls Tryz.prog 22 #[.pointer (some ⟨Wb, 0, none⟩), .slice none 0 0] w fun e w' => e = .returned (.tuple #[]) ∧ Nxt n w w' Wb B V := by
  have _ := hn
  refine (keep_none Wb w).mono ?_
  rintro e w' ⟨rfl, rfl⟩
  exact ⟨rfl, V, s, h, hbd, Below.refl _ _, rfl, rfl, Frm.of Wb V (Below.refl _ _)⟩
theorem Nxt.trans {m : Nat} {w w1 w2 : World} {Wb B : Nat} {V V1 : WV} (hb : Below B w w1) (h1 : V1.nx = V.nx ∧ V1.vxs = V.vxs) (hf : Frm w w1 Wb V V1) (h : Nxt m w1 w2 Wb B V1) : Nxt m w w2 Wb B V := by
  obtain ⟨V', s', i1, i2, i3, i4, i5, i6⟩ := h
  exact ⟨V', s', i1, i2, hb.trans i3, i4.trans h1.1, i5.trans h1.2, hf.trans hb.size i6⟩

set_option maxHeartbeats 2000000 in
theorem pure_none (Wb B n : Nat) (V : WV) (s : St) (w : World) (o : OpD) (h : WI w Wb B V s) (hbd : Bd n s) (hn : n ≤ 16384) (h1 : (o.k == 10) = true ∧ s.texts.length = 0 ∨ (o.k == 10) = false ∧ (o.k == 11) = false) (h3 : (o.k == 12) = false) (h4 : (o.k == 13) = false) (h5 : (o.k == 19) = false) :
    Calls Tryz.prog 15 #[.pointer (some ⟨Wb, 0, none⟩), .agg o.cells] w fun e w' => e = .returned (.bool true) ∧ Nxt (n + 1) w w' Wb B V := by
  have hBs : B ≤ w.heap.size := Nat.le_trans h.base (Nat.le_of_lt h.blk.lt)
  have HB : Hid (∀ x, Below w.heap.size w (w.alloc x)) := fun x => (Below.refl _ _).alloc (Nat.le_refl _) x
  have HT : Hid (∀ x, Calls Tryz.prog 22 #[.pointer (some ⟨Wb, 0, none⟩), .slice none 0 0] (w.alloc x) fun e w' => e = .returned (.tuple #[]) ∧ Nxt n (w.alloc x) w' Wb B V) := fun x => keep_nil Wb B n V s (w.alloc x) (h.below (HB.out x)) hbd (by omega)
  obtain ⟨k, a, b, c, t⟩ := o
  have hlt : Wb < w.heap.size := h.blk.lt
  have f2 : w.cell? ⟨Wb, 2, none⟩ = some (.slice V.at_ s.texts.length V.ct) := (h.blk.cell 2).trans rfl
  simp only [OpD.cells] at *
  clear h hbd
  rcases h1 with ⟨h1, h0⟩ | ⟨h1, h2⟩
  · obtain rfl : k = 10 := by simpa using h1
    go_enter Tryz.func15, Tryz.ntmps15
    go_wp2_with fail
    refine (unhide HT _).mono ?_
    rintro e w' ⟨rfl, V', s', i1, i2, i3, i4, i5, i6⟩
    go_wp2
    go_ret
    exact ⟨rfl, V', s', i1, i2.next, ((HB.out _).mono hBs).trans i3, i4, i5, Frm.pre (HB.out _) i6⟩
  · go_enter Tryz.func15, Tryz.ntmps15
    go_wp2_with fail
    refine (unhide HT _).mono ?_
    rintro e w' ⟨rfl, V', s', i1, i2, i3, i4, i5, i6⟩
    go_wp2
    go_ret
    exact ⟨rfl, V', s', i1, i2.next, ((HB.out _).mono hBs).trans i3, i4, i5, Frm.pre (HB.out _) i6⟩

theorem own_rowsAt {w : World} {base tl ti : Nat} {ao : Option Addr} {cap n : Nat} {vs : List Value} {cs : List (List Int)} (ht : w.ownsRow base tl 1 (.slice ao n cap) cs.length vs) (he : AllOwn w base ti vs cs) (hb : ∀ c ∈ cs, c.length ≤ 9223372036854775807) :
    ∃ A C, RowsAt w ao A C cs := by
  refine ⟨fun r => match vs.getD r (.slice none 0 0) with | .slice a _ _ => a | _ => none, fun r => match vs.getD r (.slice none 0 0) with | .slice _ _ c => c | _ => 0, ?_⟩
  rcases ht.2 with ⟨hv, h0⟩ | ⟨g, cap', cur, hv, _, hh, _⟩
  · exact .inl (List.eq_nil_of_length_eq_zero h0)
  · simp only [Value.slice.injEq] at hv
    obtain ⟨rfl, rfl, rfl⟩ := hv
    refine .inr ⟨g, 0, rfl, fun r hr => ?_⟩
    obtain ⟨u, h1, h2⟩ := he.at r hr
    have h3 := ht.cells (g := g) rfl r u h1
    rw [addr0] at h3
    obtain ⟨a', c', rfl, h4⟩ := own_list (cs.getD r []) rfl rfl h2
    have hg : vs.getD r (.slice none 0 0) = .slice a' (cs.getD r []).length c' := by rw [List.getD_eq_getElem?_getD, h1]; rfl
    dsimp only
    rw [hg]
    refine ⟨h3, own_intsAt h4, hb _ ?_⟩
    rw [List.getD_eq_getElem?_getD, List.getElem?_eq_getElem hr]
    exact List.getElem_mem hr
theorem own_base {w : World} {b B e n : Nat} {v : Value} {xs : List Value} (h : w.ownsRow b e 1 v n xs) (hb : B ≤ b) : w.ownsRow B e 1 v n xs := by
  refine ⟨h.1, ?_⟩
  rcases h.2 with hn | ⟨g, cap, cur, hv, h1, r⟩
  · exact .inl hn
  · exact .inr ⟨g, cap, cur, hv, Nat.le_trans hb h1, r⟩
/-- what came later is apart from what was there -/
theorem apart_late {w w' : World} {b b' e e' n m : Nat} {u v : Value} {xs ys : List Value} (h : w.ownsRow b e 1 u n xs) (h' : w'.ownsRow b' e' 1 v m ys) (hb : w.heap.size ≤ b') : Apart v u := by
  intro j hj hu
  have h1 := (h'.lt j hj).1
  have h2 := (h.lt j hu).2
  omega
theorem wrT_len (xss : List (List Int)) : (wrT xss).length ≤ 1000 := by
  unfold wrT
  split
  · split
    · simp
    · omega
  · simp

set_option maxHeartbeats 4000000 in
theorem pure_write (Wb B n : Nat) (V : WV) (s : St) (w : World) (o : OpD) (hk : o.k = 11) (h : WI w Wb B V s) (hbd : Bd n s) (hn : n ≤ 16384) (hB0 : 0 < B) (htab : Hid (Tab w)) :
    Calls Tryz.prog 15 #[.pointer (some ⟨Wb, 0, none⟩), .agg o.cells] w fun e w' => e = .returned (.bool true) ∧ Nxt (n + 1) w w' Wb B V := by
  obtain ⟨k, a, b, c, t⟩ := o
  subst hk
  obtain ⟨i0, hi, hz0, hz1, hz2⟩ := info_parts Tryz.infoString
  have hx := hbd.txs
  have hcl := hbd.cls
  have hBs : B ≤ w.heap.size := Nat.le_trans h.base (Nat.le_of_lt h.blk.lt)
  have d1 : Hid (s.texts.length + 1 ≤ maxLen) := by show _ ≤ _; unfold maxLen; omega
  have d2 : Hid ((s.texts.length + 1) * 16 ≤ 140737488355328) := by show _ ≤ _; omega
  have HW : Hid (∀ x, Calls Tryz.prog 28 #[.slice V.ac s.clauses.length V.cc] (w.alloc x) fun e w' => e = .returned (.tuple #[.string ⟨(wrT s.clauses).toArray⟩, .bool true]) ∧ Below (w.alloc x).heap.size (w.alloc x) w') := by
    intro x
    have hb : Below w.heap.size w (w.alloc x) := (Below.refl _ _).alloc (Nat.le_refl _) x
    have H1 := h.below hb
    obtain ⟨A, C, hr⟩ := own_rowsAt H1.clt H1.cle (fun c hc => Nat.le_trans (hbd.cl1 c hc) (by decide))
    exact wrote_law V.ac V.cc A C s.clauses (w.alloc x) (by simp) (Tab.below htab.out hb (by omega)) (by omega) hr (fun c hc => Nat.le_trans (hbd.cl1 c hc) (by decide))
  have H := hide h
  have HBD := hide hbd
  have hlt : Wb < w.heap.size := h.blk.lt
  have f1 : w.cell? ⟨Wb, 1, none⟩ = some (.slice V.ac s.clauses.length V.cc) := (h.blk.cell 1).trans rfl
  have f2 : w.cell? ⟨Wb, 2, none⟩ = some (.slice V.at_ s.texts.length V.ct) := (h.blk.cell 2).trans rfl
  have htz : (⟨(wrT s.clauses).toArray⟩ : ByteArray).size ≤ 4194304 := Nat.le_trans (wrT_len s.clauses) (by decide)
  generalize (⟨(wrT s.clauses).toArray⟩ : ByteArray) = t' at HW htz
  have HTZ := hide htz
  have HB : Hid (∀ x, Below w.heap.size w (w.alloc x)) := fun x => (Below.refl _ _).alloc (Nat.le_refl _) x
  simp only [OpD.cells] at *
  clear h hbd htz
  go_enter Tryz.func15, Tryz.ntmps15
  go_wp2_with fail
  refine (unhide HW _).mono ?_
  rintro e w2 ⟨rfl, hb2⟩
  have hbw : Below w.heap.size w w2 := (HB.out _).trans (hb2.mono (by simp))
  have H2 := hide (H.out.below hbw)
  have HB2 := hide hbw
  have k2 : w2.cell? ⟨Wb, 2, none⟩ = some (.slice V.at_ s.texts.length V.ct) := (H2.out.blk.cell 2).trans rfl
  have hz2s : w.heap.size ≤ w2.heap.size := hbw.size
  clear hb2 hbw f1 f2 HW
  go_wp2_with (first
    | (at_builtin; refine wpList_append_full _ rfl (.tmp 94) (.tmp 96) 31 rfl B 9 i0 (.string ByteArray.empty) 16 Tryz.undStrings hi hz0 hz1 hz2 rfl (.slice V.at_ s.texts.length V.ct) s.texts.length (strs s.texts) rfl (H2.out.tx.alloc _) ⟨w2.heap.size, 0, none⟩ 1 1 [.string t'] rfl rfl (new_cells1 w2 [.string t'] 9) (by intro u hu; simp at hu; subst hu; rfl) (by decide) d1.out d2.out (by simp; omega) (w2.heap.size + 1) (by simp) ?_; intro a3 c3 w4 hown3 hg3 hl3;
        have HR3 : Hid (Row w4 Wb 34 (V.cells s)) := row_grown (row_below H2.out.blk ((Below.refl _ _).alloc (Nat.le_refl _) _)) (H2.out.tx.alloc _) t_str hg3;
        have g2 : w4.cell? ⟨Wb, 2, none⟩ = some (.slice V.at_ s.texts.length V.ct) := (HR3.out.cell 2).trans rfl;
        have g2' := HR3.out.frozen 2;
        have HX3 := hide (text_end H2.out HBD.out HB2.out hBs HTZ.out hg3 hl3 (by omega) hown3); clear hown3 hg3 hl3))
  obtain ⟨V', s', i1, i2, i3, i4, i5, i6⟩ := HX3.out
  refine (keep_nil Wb B (n + 1) V' s' _ i1 i2 (by omega)).mono ?_
  rintro e w' ⟨rfl, hN⟩
  have HN := hide (Nxt.trans i3 ⟨i4, i5⟩ i6 hN)
  clear i1 i2 i3 i4 i5 i6 hN HX3
  go_wp2
  go_ret
  exact ⟨rfl, HN.out⟩

end Go.Proofs.YthboeppmlhbofaaGreatDoor

/-
  traillaw's pure, where it reads: the walk.
-/
namespace Go.Proofs.YthboeppmlhbofaaGreatDoor
open Go.RowKit Txt
set_option maxRecDepth 100000

theorem rdl_lists {B : Nat} {w w' : World} {l : List UInt8} {e : Ending} (h : RdL B w (rdAll l) e w') :
    ∃ a c vs cl, e = .returned (.tuple #[.slice a cl.length c, .bool true]) ∧ Lists w' B 24 3 (.slice a cl.length c) vs cl ∧ Below B w w' ∧ cl.length ≤ 1000 ∧ ∀ x ∈ cl, x.length ≤ 1000 := by
  obtain ⟨hb, h⟩ := h
  have hlens := rdAll_lens l
  cases hr : rdAll l with
  | err x p =>
    rw [hr] at h
    refine ⟨none, 0, [], [], h, ⟨⟨rfl, .inl ⟨rfl, rfl⟩⟩, trivial, List.Pairwise.nil⟩, hb, by simp, fun x hx => by simp at hx⟩
  | ok cl =>
    rw [hr] at h
    obtain ⟨a, c, vs, h1, h2⟩ := h
    obtain ⟨h3, h4⟩ := hlens cl hr
    exact ⟨a, c, vs, cl, h1, h2, hb, h3, h4⟩

theorem sp_cells_len {w : World} {gs : List Nat} {xss : List (List Int)} (h : SpAll w gs xss) : (spCells gs xss).length = xss.length := by
  induction gs generalizing xss with
  | nil => cases xss with
    | nil => rfl
    | cons c cs => exact h.elim
  | cons g gs ih => cases xss with
    | nil => exact h.elim
    | cons c cs => simp [spCells, ih h.2]
theorem sp_each {w : World} {B : Nat} {gs : List Nat} {xss : List (List Int)} (h : SpAll w gs xss) (hB : ∀ g ∈ gs, B ≤ g) (hl : ∀ x ∈ xss, x.length ≤ 1000) : AllOwn w B 3 (spCells gs xss) xss := by
  induction gs generalizing xss with
  | nil => cases xss with
    | nil => trivial
    | cons c cs => exact h.elim
  | cons g gs ih => cases xss with
    | nil => exact h.elim
    | cons c cs => exact ⟨own_spare h.1 (hB g (by simp)) (Nat.le_trans (hl c (by simp)) (by decide)), ih h.2 (fun x hx => hB x (by simp [hx])) (fun x hx => hl x (by simp [hx]))⟩
theorem sp_top {w : World} {B B' G gl : Nat} {gs : List Nat} {xss : List (List Int)} (h : Sp w B' G gs gl xss) (hB : B ≤ B') (hl : xss.length ≤ 1000) : w.ownsRow B 24 1 (.slice (some ⟨G, 0, none⟩) xss.length (xss.length + 1)) xss.length (spCells gs xss) := by
  have hc := sp_cells_len h.each
  exact ⟨by omega, .inr ⟨G, xss.length + 1, (spCells gs xss ++ [Value.slice (some ⟨gl, 0, none⟩) 1 1]).toArray, rfl, Nat.le_trans hB h.base.1, h.top, by omega, by unfold maxLen; omega, by simp [hc], by simp [← hc]⟩⟩

theorem all_base {w : World} {b B e : Nat} {vs : List Value} {cs : List (List Int)} (h : AllOwn w b e vs cs) (hb : B ≤ b) : AllOwn w B e vs cs := by
  induction vs generalizing cs with
  | nil => cases cs with
    | nil => trivial
    | cons _ _ => exact h.elim
  | cons u us ih => cases cs with
    | nil => exact h.elim
    | cons _ _ => exact ⟨own_base h.1 hb, ih h.2⟩

/-- behind Read: the clauses are what came out, and what came out is to be kept -/
theorem read_end {n : Nat} {w0 w1 w2 w3 : World} {Wb B : Nat} {V : WV} {s : St} {a : Option Addr} {c G gl : Nat} {gs : List Nat} {vs : List Value} {cl : List (List Int)} (H1 : WI w1 Wb B V s) (hbd : Bd n s) (hb1 : Below B w0 w1) (hB1 : B ≤ w1.heap.size)
    (hl : Lists w2 w1.heap.size 24 3 (.slice a cl.length c) vs cl) (hb2 : Below w1.heap.size w1 w2) (hsp : Sp w3 w2.heap.size G gs gl cl) (hb3 : Below w2.heap.size w2 w3) (hcl : cl.length ≤ 1000) (hc1 : ∀ x ∈ cl, x.length ≤ 1000) :
    ∃ V' s', WI (w3.setCell ⟨Wb, 1, none⟩ (.slice (some ⟨G, 0, none⟩) cl.length (cl.length + 1))) Wb B V' s' ∧ Bd n s' ∧ Below B w0 (w3.setCell ⟨Wb, 1, none⟩ (.slice (some ⟨G, 0, none⟩) cl.length (cl.length + 1))) ∧ (V'.nx = V.nx ∧ V'.vxs = V.vxs) ∧
      Rest (w3.setCell ⟨Wb, 1, none⟩ (.slice (some ⟨G, 0, none⟩) cl.length (cl.length + 1))) B V' s' (.slice a cl.length c) cl.length vs vs cl ∧ Frm w1 (w3.setCell ⟨Wb, 1, none⟩ (.slice (some ⟨G, 0, none⟩) cl.length (cl.length + 1))) Wb V V' ∧ ∀ u ∈ vs, ∀ b, u.ownBlock = some b → w1.heap.size ≤ b := by
  have H2 := H1.below hb2
  have H3 := H2.below hb3
  have hB2 : B ≤ w2.heap.size := Nat.le_trans hB1 hb2.size
  have htop := sp_top (B := B) hsp hB2 hcl
  have heach := sp_each (B := w2.heap.size) hsp.each (fun g hg => (hsp.out g hg).2.2) hc1
  have heachB : AllOwn w3 B 3 (spCells gs cl) cl := sp_each hsp.each (fun g hg => Nat.le_trans hB2 (hsp.out g hg).2.2) hc1
  have htop2 := sp_top (B := w2.heap.size) hsp (Nat.le_refl _) hcl
  have hset := fun {e u m xs} (he : e ≠ 34) (hu : w3.ownsRow B e 1 u m xs) => own_setW H3.blk 1 (.slice (some ⟨G, 0, none⟩) cl.length (cl.length + 1)) he hu
  have hmem : ∀ u ∈ vs, ∃ xs, w2.ownsRow w1.heap.size 3 1 u xs.length (i64s xs) := fun u hu => hl.each.mem hu
  refine ⟨{ V with ac := some ⟨G, 0, none⟩, cc := cl.length + 1, vcs := spCells gs cl }, { s with clauses := cl }, H3.setClauses (oth_setW H3.blk 1 _) _ _ cl (spCells gs cl) (H3.blk.set 1 _) (hset t_ints htop) (heachB.map (fun _ _ _ _ hh => hset t_int hh)) ?_ ?_ ?_, ?_, ?_, ⟨rfl, rfl⟩, ?_, fun b h1 h2 h3 => ⟨((Frm.of Wb V (hb2.trans (hb3.mono hb2.size))).set 1 _ b h1 h2 h3).1, h3.l, off_new (by have := hsp.base.1; have := hb2.size; omega), h3.t, h3.x, h3.o, h3.w, fun u hu e => ?_, h3.os, h3.ws⟩, fun u hu b e => ?_⟩
  · intro u hu
    obtain ⟨xs, hx⟩ := heach.mem hu
    exact apart_late H2.list hx (Nat.le_refl _)
  · exact apart_late H2.ot htop2 (Nat.le_refl _)
  · exact apart_late H2.wt htop2 (Nat.le_refl _)
  · exact ⟨hbd.list, by show cl.length ≤ _; omega, fun x hx => Nat.le_trans (hc1 x hx) (by decide), hbd.txs, hbd.tx1, hbd.outs, hbd.out1, hbd.mark, hbd.same⟩
  · exact ((hb1.trans (hb2.mono hB1)).trans (hb3.mono hB2)).setCell (p := ⟨Wb, 1, none⟩) H1.base _
  · refine ⟨hset t_ints (own_below (own_base hl.top hB1) hb3), ?_, hl.apart, ?_, ?_, ?_, ?_, ?_, ?_⟩
    · have := all_base hl.each hB1
      exact this.map (fun _ _ _ _ hh => hset t_int (own_below hh hb3))
    · exact apart_late H1.ot hl.top (Nat.le_refl _)
    · exact apart_late H1.wt hl.top (Nat.le_refl _)
    · intro u hu
      obtain ⟨xs, hx⟩ := hmem u hu
      exact apart_late H1.list hx (Nat.le_refl _)
    · intro u hu v hv
      obtain ⟨xs, hx⟩ := hmem u hu
      obtain ⟨ys, hy⟩ := heach.mem hv
      exact apart_late hx hy (Nat.le_refl _)
    · intro u hu v hv
      obtain ⟨xs, hx⟩ := hmem u hu
      obtain ⟨ys, hy⟩ := H1.oe.mem hv
      exact (apart_late hy hx (Nat.le_refl _)).symm
    · intro u hu v hv
      obtain ⟨xs, hx⟩ := hmem u hu
      obtain ⟨ys, hy⟩ := H1.we.mem hv
      exact (apart_late hy hx (Nat.le_refl _)).symm
  · obtain ⟨xs, hx⟩ := heach.mem hu
    have q1 := (hx.lt b e).1
    have q2 := hb2.size
    omega
  · obtain ⟨xs, hx⟩ := hmem u hu
    exact (hx.lt b e).1

set_option maxHeartbeats 4000000 in
theorem pure_readF (Wb B n : Nat) (V : WV) (s : St) (w : World) (o : OpD) (ho : o.Ok) (hk : o.k = 10) (h : WI w Wb B V s) (hbd : Bd n s) (hn : n ≤ 16384) (h0 : 0 < s.texts.length) :
    Calls Tryz.prog 15 #[.pointer (some ⟨Wb, 0, none⟩), .agg o.cells] w fun e w' => e = .returned (.bool true) ∧ Nxt (n + 1) w w' Wb B V := by
  obtain ⟨k, a, b, c, t⟩ := o
  subst hk
  have hx := hbd.txs
  have hBs : B ≤ w.heap.size := Nat.le_trans h.base (Nat.le_of_lt h.blk.lt)
  have p1 := fun w => pick_any a s.texts.length w h0 (by omega) ho.a.1 ho.a.2
  have l1 := pickN_lt a s.texts.length h0
  generalize pickN a s.texts.length = j1 at p1 l1
  obtain ⟨g, eg, c1⟩ := texts_at h.tx l1
  have s1 := hbd.tx1 (s.texts.getD j1 ByteArray.empty) (by rw [List.getD_eq_getElem?_getD, List.getElem?_eq_getElem l1]; exact List.getElem_mem l1)
  generalize s.texts.getD j1 ByteArray.empty = t1 at c1 s1
  have H := hide h
  have HBD := hide hbd
  have P1 := hide p1
  have hlt : Wb < w.heap.size := h.blk.lt
  have hgt : g < w.heap.size := World.block_lt_of_cell? w _ c1
  have f2w : w.cell? ⟨Wb, 2, none⟩ = some (.slice (some ⟨g, 0, none⟩) s.texts.length V.ct) := (h.blk.cell 2).trans (by simp only [WV.cells, WV.vt, eg]; rfl)
  have RD : Hid (∀ w, Calls Tryz.prog 27 #[.string t1] w fun e w' => RdL w.heap.size w (rdAll (bs t1)) e w') := fun w => read_law t1 w (by omega)
  simp only [OpD.cells] at *
  clear h hbd ho p1 eg
  have q1 : (0 : Int) ≤ (j1 : Int) := by omega
  have q3 : (j1 : Int) < (s.texts.length : Int) := by omega
  have hpt : ((s.texts.length : Int) > 0) := by omega
  go_enter Tryz.func15, Tryz.ntmps15
  go_wp2_with (go_at_call 16; refine (unhide P1 _).mono ?_; rintro e w' ⟨rfl, hw⟩; obtain rfl := hw.symm)
  have hb1 : Below w.heap.size w (w.alloc (.cells #[.int .i64 10, .int .i64 a, .int .i64 b, .int .i64 c, .string t] 27)) := (Below.refl _ _).alloc (Nat.le_refl _) _
  generalize w.alloc (.cells #[.int .i64 10, .int .i64 a, .int .i64 b, .int .i64 c, .string t] 27) = w1 at *
  have H1 := hide (H.out.below hb1)
  have HB1 := hide hb1
  have hB1 : B ≤ w1.heap.size := Nat.le_trans hBs hb1.size
  clear hb1 hw c1 f2w q1 q3 P1
  refine (unhide RD _).mono ?_
  intro e w2 hrd
  obtain ⟨a', c', vs, cl, rfl, hl, hb2, hcl, hc1⟩ := rdl_lists hrd
  obtain ⟨A, C, hr⟩ := hl.rowsAt (fun x hx => Nat.le_trans (hc1 x hx) (by decide))
  have SP := hide (spares_any a' c' A C cl w2 (by omega) hr (fun x hx => Nat.le_trans (hc1 x hx) (by decide)))
  have HL := hide hl
  have HC1 := hide hc1
  have HB2 := hide hb2
  clear hrd hl hb2 hr hc1 RD
  go_wp2_with fail
  refine (unhide SP).mono ?_
  rintro e w3 ⟨G, gs, gl, rfl, hsp, hb3⟩
  have H3 := hide ((H1.out.below HB2.out).below hb3)
  have k1 : w3.cell? ⟨Wb, 1, none⟩ = some (.slice V.ac s.clauses.length V.cc) := (H3.out.blk.cell 1).trans rfl
  have k1' := H3.out.blk.frozen 1
  have HE := hide (read_end H1.out HBD.out (HB1.out.mono hBs) hB1 HL.out HB2.out hsp hb3 hcl HC1.out)
  clear hsp hb3 SP HL
  go_wp2_with fail
  obtain ⟨V', s', i1, i2, i3, i4, i5, i6, i7⟩ := HE.out
  refine (keep_nxk Wb B n V' s' _ i1 i2 (by omega) a' c' cl vs i5 hcl (fun x hx => Nat.le_trans (HC1.out x hx) (by decide))).mono ?_
  rintro e w' ⟨rfl, hN⟩
  have HN := hide (hN.nxt i3 i4 (Frm.pre HB1.out i6) (fun u hu b e => Nat.le_trans HB1.out.size (i7 u hu b e)))
  clear i1 i2 i3 i4 i5 i6 i7 hN HE
  go_wp2
  go_ret
  exact ⟨rfl, HN.out⟩

theorem pure_read (Wb B n : Nat) (V : WV) (s : St) (w : World) (o : OpD) (ho : o.Ok) (hk : o.k = 10) (h : WI w Wb B V s) (hbd : Bd n s) (hn : n ≤ 16384) (h0 : 0 < s.texts.length) :
    Calls Tryz.prog 15 #[.pointer (some ⟨Wb, 0, none⟩), .agg o.cells] w fun e w' => e = .returned (.bool true) ∧ Nxw (n + 1) w w' Wb B V := (pure_readF Wb B n V s w o ho hk h hbd hn h0).mono (fun _ _ h => ⟨h.1, h.2.weak⟩)

end Go.Proofs.YthboeppmlhbofaaGreatDoor
