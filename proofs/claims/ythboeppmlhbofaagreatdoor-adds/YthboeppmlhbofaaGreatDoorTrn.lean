/-
  traillaw's texted, where it turns a byte: the walk.
-/
import Derived.Test.YthboeppmlhbofaaGreatDoorTxd
namespace Go.Proofs.YthboeppmlhbofaaGreatDoor
open Go.RowKit Txt
set_option maxRecDepth 100000

/-- n bytes lie there, and may be written -/
def Bys (w : World) (g n : Nat) : Prop := ∃ l : List UInt8, l.length = n ∧ (∀ j (hj : j < l.length), w.cell? ⟨g, j, none⟩ = some (.int .u8 (l[j].toNat : Int))) ∧ ∀ j, j < n → w.frozen? ⟨g, j, none⟩ = false
theorem Bys.cell {w : World} {g n : Nat} (h : Bys w g n) (j : Nat) (hj : j < n) : ∃ v, w.cell? ⟨g, j, none⟩ = some v := by
  obtain ⟨l, rfl, h1, _⟩ := h
  exact ⟨_, h1 j hj⟩
theorem Bys.frozen {w : World} {g n : Nat} (h : Bys w g n) (j : Nat) (hj : j < n) : w.frozen? ⟨g, j, none⟩ = false := by
  obtain ⟨l, rfl, _, h2⟩ := h
  exact h2 j hj
theorem Bys.drewN {w : World} {g n : Nat} (h : Bys w g n) (m : Nat) : Bys (w.drewN m) g n := h
theorem Bys.set {w : World} {g n : Nat} (h : Bys w g n) (j : Nat) (hj : j < n) (b : UInt8) : Bys (w.setCell ⟨g, j, none⟩ (.int .u8 (b.toNat : Int))) g n := by
  obtain ⟨l, rfl, h1, h2⟩ := h
  refine ⟨l.set j b, by simp, ?_, ?_⟩
  · intro k hk
    have hk' : k < l.length := by simpa using hk
    by_cases e : k = j
    · subst e
      rw [World.cell?_setCell_same w _ _ (h1 k hk')]
      simp
    · rw [World.cell?_setCell_other w _ _ _ (by intro e'; simp only [Addr.mk.injEq, and_true, true_and] at e'; omega), h1 k hk', List.getElem_set_ne (by omega)]
  · intro k hk
    rw [World.frozen?_setCell]
    exact h2 k hk
theorem conv_bys {w : World} {g n c : Nat} (h : Bys w g n) : ∃ t : ByteArray, t.size = n ∧ (convert 83 9 (.slice (some ⟨g, 0, none⟩) n c)).run Tryz.prog w = .ok (.string t) w := by
  have hb : Tryz.prog.underlying 5 = some (.int .u8) := by kernel_rfl
  obtain ⟨l, rfl, h1, _⟩ := h
  refine ⟨⟨l.toArray⟩, rfl, run_convert_bytes_back w _ _ 5 _ c l Tryz.undBytes hb Tryz.undString fun j hj => ?_⟩
  rw [addr0, Nat.zero_add]
  exact h1 j hj

theorem bytes_bys (w : World) (s : ByteArray) : Bys (Lib.bytesWorld w 5 s) w.heap.size s.size := by
  refine ⟨s.data.toList, by simp, ?_, ?_⟩
  · intro j hj
    have hj' : j < s.size := by simpa using hj
    rw [Lib.bytesWorld_cell w _ s j hj']
    simp [List.getD, List.getElem?_eq_getElem hj]
  · intro j hj
    have h1 := Lib.bytesWorld_at_new w 5 s
    have h2 : s.size ≤ (Lib.bytesCells w 5 s).size := by simp [Lib.bytesCells]
    simp [World.frozen?, h1]
    omega

theorem conv_there (w : World) (s : ByteArray) (H : Nat) (hH : w.heap.size = H) : ∃ c w', (convert 9 83 (.string s)).run Tryz.prog w = .ok (.slice (some ⟨H, 0, none⟩) s.size c) w' ∧ Bys w' H s.size ∧ w'.heap.size = H + 1 ∧ Below H w w' := by
  have hb : Tryz.prog.underlying 5 = some (.int .u8) := by kernel_rfl
  subst hH
  exact ⟨_, _, Lib.run_convert_string_bytes (P := Tryz.prog) w 9 83 5 s Tryz.undString Tryz.undBytes hb, bytes_bys w s, Lib.bytesWorld_size _ _ _, ⟨rfl, rfl, rfl, by rw [Lib.bytesWorld_size]; omega, fun k hk => Lib.bytesWorld_at_old _ _ _ k hk⟩⟩

set_option maxHeartbeats 4000000 in
theorem texted_turn (Wb B n : Nat) (V : WV) (s : St) (w : World) (o : OpD) (ho : o.Ok) (hk : o.k = 6) (h : WI w Wb B V s) (hbd : Bd n s) (hn : n ≤ 20000) (h0 : 0 < s.texts.length) :
    Calls Tryz.prog 25 #[.pointer (some ⟨Wb, 0, none⟩), .agg o.cells] w fun e w' => e = .returned (.bool true) ∧ Nxt (n + 1) w w' Wb B V := by
  obtain ⟨k, a, b, c, t⟩ := o
  subst hk
  obtain ⟨i0, hi, hz0, hz1, hz2⟩ := info_parts Tryz.infoString
  have hx := hbd.txs
  have hBs : B ≤ w.heap.size := Nat.le_trans h.base (Nat.le_of_lt h.blk.lt)
  have d1 : Hid (s.texts.length + 1 ≤ maxLen) := by show _ ≤ _; unfold maxLen; omega
  have d2 : Hid ((s.texts.length + 1) * 16 ≤ 140737488355328) := by show _ ≤ _; omega
  have p1 := fun w => pick_any a s.texts.length w h0 (by omega) ho.a.1 ho.a.2
  have l1 := pickN_lt a s.texts.length h0
  generalize pickN a s.texts.length = j1 at p1 l1
  obtain ⟨g, eg, c1⟩ := texts_at h.tx l1
  have s1 := hbd.tx1 (s.texts.getD j1 ByteArray.empty) (by rw [List.getD_eq_getElem?_getD, List.getElem?_eq_getElem l1]; exact List.getElem_mem l1)
  generalize s.texts.getD j1 ByteArray.empty = t1 at c1 s1
  have H := hide h
  have HBD := hide hbd
  have P1 := hide p1
  have hlt : Wb < w.heap.size := h.blk.lt
  have hgt : g < w.heap.size := World.block_lt_of_cell? w _ c1
  have f2w : w.cell? ⟨Wb, 2, none⟩ = some (.slice (some ⟨g, 0, none⟩) s.texts.length V.ct) := (h.blk.cell 2).trans (by simp only [WV.cells, WV.vt, eg]; rfl)
  have HEG := hide eg
  have HOB := hide ho.b
  simp only [OpD.cells] at *
  clear h hbd ho p1 eg
  have q1 : (0 : Int) ≤ (j1 : Int) := by omega
  have q3 : (j1 : Int) < (s.texts.length : Int) := by omega
  go_enter Tryz.func25, Tryz.ntmps25
  go_wp2_with fail
  have e1 := fun j u hu => new_cells1 w [.int .i64 6, .int .i64 a, .int .i64 b, .int .i64 c, .string t] 27 j u hu
  have hb1 : Below w.heap.size w (w.alloc (.cells #[.int .i64 6, .int .i64 a, .int .i64 b, .int .i64 c, .string t] 27)) := (Below.refl _ _).alloc (Nat.le_refl _) _
  have e3 : (w.alloc (.cells #[.int .i64 6, .int .i64 a, .int .i64 b, .int .i64 c, .string t] 27)).heap.size = w.heap.size + 1 := by simp
  have m1 := e1 1 _ rfl
  have m2 := e1 2 _ rfl
  have m3 := e1 3 _ rfl
  rw [addr0] at m1 m2 m3
  simp only [Nat.zero_add] at m1 m2 m3
  clear e1
  generalize w.alloc (.cells #[.int .i64 6, .int .i64 a, .int .i64 b, .int .i64 c, .string t] 27) = w1 at *
  have f2 : w1.cell? ⟨Wb, 2, none⟩ = some (.slice (some ⟨g, 0, none⟩) s.texts.length V.ct) := (hb1.cell (p := ⟨Wb, 2, none⟩) hlt).trans f2w
  have c1' : w1.cell? ⟨g, j1, none⟩ = some (.string t1) := (hb1.cell (p := ⟨g, j1, none⟩) hgt).trans c1
  have HB1 := hide hb1
  have E3 := hide e3
  clear f2w c1 hb1
  obtain ⟨cp, w2, hcv, hby2, hs2, hb2⟩ := conv_there w1.drew t1 (w.heap.size + 1) (by simp [e3])
  have n1 : w2.cell? ⟨Wb, 2, none⟩ = some (.slice (some ⟨g, 0, none⟩) s.texts.length V.ct) := (hb2.cell (p := ⟨Wb, 2, none⟩) (by simp; omega)).trans f2
  have n2 : w2.cell? ⟨g, j1, none⟩ = some (.string t1) := (hb2.cell (p := ⟨g, j1, none⟩) (by simp; omega)).trans c1'
  have n3 : w2.cell? ⟨w.heap.size, 1, none⟩ = some (.int .i64 a) := (hb2.cell (p := ⟨w.heap.size, 1, none⟩) (by simp)).trans m1
  have n4 : w2.cell? ⟨w.heap.size, 2, none⟩ = some (.int .i64 b) := (hb2.cell (p := ⟨w.heap.size, 2, none⟩) (by simp)).trans m2
  have n5 : w2.cell? ⟨w.heap.size, 3, none⟩ = some (.int .i64 c) := (hb2.cell (p := ⟨w.heap.size, 3, none⟩) (by simp)).trans m3
  have hbw : Below w.heap.size w w2 := HB1.out.trans (show Below w.heap.size w1 w2 from (below_drewN (Below.refl _ _) 1).trans (hb2.mono (by omega)))
  have HBW := hide hbw
  have HBY := hide hby2
  clear hby2 hb2 hbw
  go_region_with (first
      | (go_at_call 16; refine (unhide P1 _).mono ?_; rintro e w' ⟨rfl, rfl⟩))
  all_goals
    clear n2 n3 m1 m2 m3 f2 c1' hcv P1 q1 q3 E3
    by_cases hz : t1.size = 0
    · have hy0 := HBY.out
      rw [hz] at hy0
      obtain ⟨t', ht', hcv⟩ := conv_bys (c := cp) hy0
      have HTZ : Hid (t'.size ≤ 4194304) := by show _ ≤ _; omega
      have HB3 := HBW
      clear ht' hy0 n4 n5 hs2 n1
      generalize w2 = w3 at *
      have H3 := hide (H.out.below HB3.out)
      have HX : Hid (w3.ownsRow B 9 1 (.slice (some ⟨g, 0, none⟩) s.texts.length V.ct) s.texts.length (strs s.texts)) := by
        have := H3.out.tx
        rw [WV.vt, HEG.out] at this
        exact this
      have f3 : w3.cell? ⟨Wb, 2, none⟩ = some (.slice (some ⟨g, 0, none⟩) s.texts.length V.ct) := (H3.out.blk.cell 2).trans (by simp only [WV.cells, WV.vt, HEG.out]; rfl)
      have hz3s : w.heap.size ≤ w3.heap.size := HB3.out.size
      go_wp2_with (first
        | (at_builtin; refine wpList_append_full _ rfl (.tmp 102) (.tmp 104) 31 rfl B 9 i0 (.string ByteArray.empty) 16 Tryz.undStrings hi hz0 hz1 hz2 rfl (.slice (some ⟨g, 0, none⟩) s.texts.length V.ct) s.texts.length (strs s.texts) rfl (HX.out.alloc _) ⟨w3.heap.size, 0, none⟩ 1 1 [.string t'] rfl rfl (new_cells1 w3 [.string t'] 9) (by intro u hu; simp at hu; subst hu; rfl) (by decide) d1.out d2.out (by simp; omega) (w3.heap.size + 1) (by simp) ?_; intro a3 c3 w4 hown3 hg3 hl3; have HL3 := hide hl3; clear hl3;
            have HR3 : Hid (Row w4 Wb 34 (V.cells s)) := row_grown (row_below H3.out.blk ((Below.refl _ _).alloc (Nat.le_refl _) _)) (HX.out.alloc _) t_str hg3;
            have g2 : w4.cell? ⟨Wb, 2, none⟩ = some (.slice V.at_ s.texts.length V.ct) := (HR3.out.cell 2).trans rfl;
            have g2' := HR3.out.frozen 2))
      go_ret
      exact ⟨rfl, text_end H3.out HBD.out HB3.out hBs HTZ.out (by rw [WV.vt, HEG.out]; exact hg3) (by rw [WV.vt, HEG.out]; exact HL3.out) (by omega) hown3⟩

    · have hpos : 0 < t1.size := by omega
      have p2 := fun w => pick_any b t1.size w hpos (by omega) HOB.out.1 HOB.out.2
      have l2 := pickN_lt b t1.size hpos
      generalize pickN b t1.size = j2 at p2 l2
      have P2 := hide p2
      have q1 : (0 : Int) ≤ (j2 : Int) := by omega
      have q3 : (j2 : Int) < (t1.size : Int) := by omega
      obtain ⟨v0, hv0⟩ := HBY.out.cell j2 l2
      have hf0 := HBY.out.frozen j2 l2
      obtain ⟨b8, hb8⟩ : ∃ b8 : UInt8, IntKind.u8.wrap c = (b8.toNat : Int) := ⟨UInt8.ofNat (c % 256).toNat, by rw [IntKind.wrap_u8, UInt8.toNat_ofNat']; omega⟩
      clear p2 n1
      go_wp2_with fail
      go_region_held3 (fun w' => w'.cell? ⟨w.heap.size, 2, none⟩ = some (.int .i64 b) ∧ w'.cell? ⟨w.heap.size, 3, none⟩ = some (.int .i64 c)) (go_keep)
        (first
          | (go_at_call 16; refine (unhide P2 _).mono ?_; rintro e w' ⟨rfl, rfl⟩))
      have hy3 : Bys (w2.setCell ⟨w.heap.size + 1, j2, none⟩ (.int .u8 (b8.toNat : Int))).drew (w.heap.size + 1) t1.size := HBY.out.set j2 l2 b8
      have hb3 : Below w.heap.size w (w2.setCell ⟨w.heap.size + 1, j2, none⟩ (.int .u8 (b8.toNat : Int))).drew := below_drewN (HBW.out.setCell (p := ⟨w.heap.size + 1, j2, none⟩) (Nat.le_succ _) _) 1
      generalize (w2.setCell ⟨w.heap.size + 1, j2, none⟩ (.int .u8 (b8.toNat : Int))).drew = w3 at *
      obtain ⟨t', ht', hcv⟩ := conv_bys (c := cp) hy3
      have HTZ : Hid (t'.size ≤ 4194304) := by show _ ≤ _; omega
      have HB3 := hide hb3
      clear ht' hy3 n4 n5 hs2 hb3 hv0 hf0 hb8 q1 q3 P2
      have H3 := hide (H.out.below HB3.out)
      have HX : Hid (w3.ownsRow B 9 1 (.slice (some ⟨g, 0, none⟩) s.texts.length V.ct) s.texts.length (strs s.texts)) := by
        have := H3.out.tx
        rw [WV.vt, HEG.out] at this
        exact this
      have f3 : w3.cell? ⟨Wb, 2, none⟩ = some (.slice (some ⟨g, 0, none⟩) s.texts.length V.ct) := (H3.out.blk.cell 2).trans (by simp only [WV.cells, WV.vt, HEG.out]; rfl)
      have hz3s : w.heap.size ≤ w3.heap.size := HB3.out.size
      go_wp2_with (first
        | (at_builtin; refine wpList_append_full _ rfl (.tmp 102) (.tmp 104) 31 rfl B 9 i0 (.string ByteArray.empty) 16 Tryz.undStrings hi hz0 hz1 hz2 rfl (.slice (some ⟨g, 0, none⟩) s.texts.length V.ct) s.texts.length (strs s.texts) rfl (HX.out.alloc _) ⟨w3.heap.size, 0, none⟩ 1 1 [.string t'] rfl rfl (new_cells1 w3 [.string t'] 9) (by intro u hu; simp at hu; subst hu; rfl) (by decide) d1.out d2.out (by simp; omega) (w3.heap.size + 1) (by simp) ?_; intro a3 c3 w4 hown3 hg3 hl3; have HL3 := hide hl3; clear hl3;
            have HR3 : Hid (Row w4 Wb 34 (V.cells s)) := row_grown (row_below H3.out.blk ((Below.refl _ _).alloc (Nat.le_refl _) _)) (HX.out.alloc _) t_str hg3;
            have g2 : w4.cell? ⟨Wb, 2, none⟩ = some (.slice V.at_ s.texts.length V.ct) := (HR3.out.cell 2).trans rfl;
            have g2' := HR3.out.frozen 2))
      go_ret
      exact ⟨rfl, text_end H3.out HBD.out HB3.out hBs HTZ.out (by rw [WV.vt, HEG.out]; exact hg3) (by rw [WV.vt, HEG.out]; exact HL3.out) (by omega) hown3⟩

end Go.Proofs.YthboeppmlhbofaaGreatDoor
