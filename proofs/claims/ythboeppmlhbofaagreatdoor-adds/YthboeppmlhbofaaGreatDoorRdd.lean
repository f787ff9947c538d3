/-
  The document's Read: the walk.
-/
import Derived.Test.YthboeppmlhbofaaGreatDoorRef
namespace Go.Proofs.YthboeppmlhbofaaGreatDoor
open Go.RowKit Txt
set_option maxRecDepth 100000

theorem cm_false1 {s : ByteArray} {j : Nat} (h : j < s.size) (h9 : ((s[j].toNat : Int) == 99) = false) : cmB (bs s) j = false := by
  rw [cmB, bs_getD s j h, h9]; rfl
theorem cm_false2 {s : ByteArray} {i : Nat} (h : i + 1 < s.size) (h1 : ((s[i].toNat : Int) == 10) = false) : cmB (bs s) (i + 1) = false := by
  have h' : i < s.size := by omega
  have hn : nlB ((bs s).getD i 0) = false := by rw [bs_getD s i h']; exact h1
  simp only [cmB, Nat.add_sub_cancel, hn, Nat.add_one_ne_zero, decide_false, Bool.or_false, Bool.and_false]
theorem cm_true1 {s : ByteArray} (h : 0 < s.size) (h9 : ((s[0].toNat : Int) == 99) = true) : cmB (bs s) 0 = true := by
  rw [cmB, bs_getD s 0 h, h9]; rfl
theorem cm_true2 {s : ByteArray} {i : Nat} (h : i + 1 < s.size) (h9 : ((s[i + 1].toNat : Int) == 99) = true) (h1 : ((s[i].toNat : Int) == 10) = true) : cmB (bs s) (i + 1) = true := by
  have h' : i < s.size := by omega
  have hn : nlB ((bs s).getD i 0) = true := by rw [bs_getD s i h']; exact h1
  rw [cmB, bs_getD s (i + 1) h, h9]
  simp only [Nat.add_sub_cancel, hn, Bool.or_true, Bool.and_true]

set_option maxHeartbeats 4000000 in
theorem readR_any (s : ByteArray) (w : World) (hs : s.size ≤ 9223372036854775807) :
    Calls Tryz.prog 52 #[.string s] w fun e w' => RdPost w.heap.size w (rdAll (bs s)) e w' := by
  by_cases hbig : 1000 < s.size
  · have H : Hid (rdAll (bs s) = .err 2 0) := by show _ = _; rw [rdAll, if_pos (by rw [bs_length]; exact hbig)]
    go_enter Tryz.func52, Tryz.ntmps52
    go_wp2
    go_ret3
    rw [H.out]
    exact ⟨Below.refl _ _, rfl⟩
  have hle : s.size ≤ 1000 := by omega
  have HR : Hid (rdAll (bs s) = rd s.size (s.size + 1) [] [] ((bs s).drop (nxt (bs s) 0))) := by
    show _ = _
    rw [rdAll, if_neg (by rw [bs_length]; omega), bs_length, nxt_zero]
  obtain ⟨i0, hi, hz0, hz1, hz2⟩ := info_parts Tryz.infoInt
  obtain ⟨i1, gi, gz0, gz1, gz2⟩ := info_parts Tryz.infoInts
  clear hs hbig
  go_enter Tryz.func52, Tryz.ntmps52
  go_wp2
  go_loopw [5, 6, 7] (fun x5 x6 x7 wr => ∃ (j f : Nat) (cl : List (List Int)) (op : List Int) (a1 a2 : Option Addr) (c1 c2 : Nat) (vs : List Value), j ≤ s.size ∧ x7 = .int .i64 j ∧ x5 = .slice a1 cl.length c1 ∧ x6 = .slice a2 op.length c2 ∧
      Reading wr w.heap.size (.slice a1 cl.length c1) vs cl (.slice a2 op.length c2) op ∧ Below w.heap.size w wr ∧ cl.length ≤ j ∧ op.length ≤ j ∧ Hid (s.size < nxt (bs s) j + f) ∧ Hid (rdAll (bs s) = rd s.size f cl op ((bs s).drop (nxt (bs s) j)))) (fun _ _ x7 _ => s.size - (intOf x7).toNat)
  case atStart => exact ⟨0, s.size + 1, [], [], none, none, 0, 0, [], Nat.zero_le _, rfl, rfl, rfl, Reading.start _ _, Below.refl _ _, Nat.zero_le _, Nat.zero_le _, by show _ < _; omega, HR⟩
  case round =>
    clear HR
    obtain ⟨j, f, cl, op, a1, a2, c1, c2, vs, hj, rfl, rfl, rfl, hrd, hbel, hcl, hop, HF, HR⟩ := hrel
    have hb0 : w.heap.size ≤ wr.heap.size := hbel.size
    by_cases hlt : j < s.size
    · have g1 := bs_getD s j hlt
      cases hg : gapI (s[j].toNat : Int)
      · cases h9 : ((s[j].toNat : Int) == 99)
        · skip
          have hnx : nxt (bs s) j = j := nxt_word (bs_lt hlt) (cm_false1 hlt h9) (by rw [g1]; exact hg)
          have haw := atWord_nxt (bs s) j
          have hF := HF.out
          have hR := HR.out
          rw [hnx] at haw hF hR
          clear hnx HF HR g1
          obtain ⟨f, rfl⟩ : ∃ g, f = g + 1 := ⟨f - 1, by omega⟩
          obtain ⟨m, j', em, ej, hw1, hw2, hn2, hn1, _, hst⟩ := rd_step (bs_lt hlt) haw
          rw [bs_length] at hw2 hn1 hst
          have hcw := endsW_any s j wr (by omega) (Nat.le_of_lt hlt)
          have hcn := numberR_any (s.extract j (j + m)) wr (by rw [ByteArray.size_extract]; omega)
          rw [bs_extract, Nat.add_sub_cancel_left] at hcn
          rw [em] at hcw
          have hstep := hst f cl op
          rw [← ej] at hstep hn2
          clear em hst haw
          generalize numOf (((bs s).drop j).take m) = N at hcn hstep
          obtain ⟨n, er⟩ := N
          have HF' : Hid (s.size < nxt (bs s) (j + m) + f) := by show _ < _; omega
          have HCW := hide hcw
          have HCN := hide hcn
          have HST := hide hstep
          have HR2 := hide hR
          clear hcw hcn hstep hR hF hn2 hn1 ej
          by_cases her : er = 0
          · subst her
            by_cases hn : n = 0
            · subst hn
              have HX : Hid (rdAll (bs s) = rd s.size f (cl ++ [op]) [] ((bs s).drop (nxt (bs s) (j + m)))) := by show _ = _; rw [HR2.out, HST.out]; simp
              clear HST HR2
              have d1 : Hid (cl.length + 1 ≤ maxLen) := by show _ ≤ _; unfold maxLen; omega
              have d2 : Hid ((cl.length + 1) * 24 ≤ 140737488355328) := by show _ ≤ _; omega
              go_wp2_with (first
                | (go_at_call 86; refine (blank_any _ _).mono ?_; rintro e w' ⟨rfl, hw⟩; obtain rfl := hw.symm)
                | (go_at_call 87; refine (unhide HCW).mono ?_; rintro e w' ⟨rfl, hw⟩; obtain rfl := hw.symm)
                | (go_at_call 88; refine (unhide HCN).mono ?_; rintro e w' ⟨rfl, hw⟩; obtain rfl := hw.symm)
                | (at_builtin; refine wpList_append_at _ rfl (.tmp 40) (.tmp 42) 30 rfl w.heap.size 24 i1 (.slice none 0 0) 24 Tryz.undLists gi gz0 gz1 gz2 rfl (.slice a1 cl.length c1) cl.length vs rfl (hrd.lists.top.alloc _) ⟨wr.heap.size, 0, none⟩ 1 1 [.slice a2 op.length c2] rfl rfl (new_cells1 wr [.slice a2 op.length c2] 24) (by intro u hu; simp at hu; subst hu; rfl) (by decide) d1.out d2.out (by simp; exact Nat.le_succ_of_le hb0) ?_; intro v3 w3 hown3 hg3 hwh3))
              obtain ⟨a3, c3, hv3, hrd3⟩ := hrd.close _ hown3 hg3
              have hb3 : Below w.heap.size w w3 := (hbel.alloc hbel.size _).grown hg3 (hbel.alloc hbel.size _).size (fun k hk => (hrd.lists.top.lt k hk).1)
              go_roundw
              case rel => exact ⟨j + m, f, cl ++ [op], [], a3, none, c3, 0, _, hw2, by go_num, hv3, rfl, hrd3, hb3, by simp; omega, Nat.zero_le _, HF', HX⟩
              case measure => simp [intOf]; omega
            · have hnb : (n == 0) = false := beq_eq_false_iff_ne.2 hn
              have HX : Hid (rdAll (bs s) = rd s.size f cl (op ++ [n]) ((bs s).drop (nxt (bs s) (j + m)))) := by show _ = _; rw [HR2.out, HST.out]; simp [hn]
              clear HST HR2 hn
              have d1 : Hid (op.length + 1 ≤ maxLen) := by show _ ≤ _; unfold maxLen; omega
              have d2 : Hid ((op.length + 1) * 8 ≤ 140737488355328) := by show _ ≤ _; omega
              go_wp2_with (first
                | (go_at_call 86; refine (blank_any _ _).mono ?_; rintro e w' ⟨rfl, hw⟩; obtain rfl := hw.symm)
                | (go_at_call 87; refine (unhide HCW).mono ?_; rintro e w' ⟨rfl, hw⟩; obtain rfl := hw.symm)
                | (go_at_call 88; refine (unhide HCN).mono ?_; rintro e w' ⟨rfl, hw⟩; obtain rfl := hw.symm)
                | (at_builtin; refine wpList_append_at _ rfl (.tmp 44) (.tmp 46) 24 rfl w.heap.size 3 i0 (.int .i64 0) 8 Tryz.undInts hi hz0 hz1 hz2 rfl (.slice a2 op.length c2) op.length (i64s op) rfl (hrd.last.alloc _) ⟨wr.heap.size, 0, none⟩ 1 1 [.int .i64 n] rfl rfl (new_cells1 wr [.int .i64 n] 3) (by intro u hu; simp at hu; subst hu; rfl) (by decide) d1.out d2.out (by simp; exact Nat.le_succ_of_le hb0) ?_; intro v3 w3 hown3 hg3 hwh3))
              obtain ⟨a3, c3, hv3, hrd3⟩ := hrd.push _ n hown3 hg3 hwh3
              have hb3 : Below w.heap.size w w3 := (hbel.alloc hbel.size _).grown hg3 (hbel.alloc hbel.size _).size (fun k hk => (hrd.last.lt k hk).1)
              go_roundw
              case rel => exact ⟨j + m, f, cl, op ++ [n], a1, a3, c1, c3, vs, hw2, by go_num, rfl, hv3, hrd3, hb3, by omega, by simp; omega, HF', HX⟩
              case measure => simp [intOf]; omega
          · have heb : (er != 0) = true := bne_iff_ne.2 her
            have HX : Hid (rdAll (bs s) = .err er j) := by show _ = _; rw [HR2.out, HST.out]; simp [her]
            clear HST her HR2
            go_wp2_with (first
              | (go_at_call 86; refine (blank_any _ _).mono ?_; rintro e w' ⟨rfl, hw⟩; obtain rfl := hw.symm)
              | (go_at_call 87; refine (unhide HCW).mono ?_; rintro e w' ⟨rfl, hw⟩; obtain rfl := hw.symm)
              | (go_at_call 88; refine (unhide HCN).mono ?_; rintro e w' ⟨rfl, hw⟩; obtain rfl := hw.symm))
            go_ret3
            rw [HX.out]
            exact ⟨hbel, rfl⟩
        · by_cases hj0 : j = 0
          · subst hj0
            have hcm := cm_true1 hlt h9
            have hcl := endsL_any s 0 wr hle (Nat.le_of_lt hlt)
            have hx0 : nxt (bs s) (0 + llen ((bs s).drop 0)) = nxt (bs s) 0 := nxt_com (bs_lt hlt) hcm
            have h3 : 0 < llen ((bs s).drop 0) := llen_com (bs_lt hlt) hcm
            have h4 : 0 + llen ((bs s).drop 0) ≤ s.size := by
              have := llen_le ((bs s).drop 0)
              rw [List.length_drop, bs_length] at this
              omega
            obtain ⟨m, hm⟩ : ∃ m, 0 + llen ((bs s).drop 0) = m := ⟨_, rfl⟩
            rw [hm] at hcl hx0 h4
            have h5 : 0 < m := by omega
            have HX : Hid (nxt (bs s) m = nxt (bs s) 0) := hx0
            have HCL := hide hcl
            clear g1 hcm hcl hx0 h3 hm
            go_wp2_with (first
              | (go_at_call 86; refine (blank_any _ _).mono ?_; rintro e w' ⟨rfl, hw⟩; obtain rfl := hw.symm)
              | (go_at_call 87; refine (unhide HCL).mono ?_; rintro e w' ⟨rfl, hw⟩; obtain rfl := hw.symm))
            go_roundw
            case rel => exact ⟨m, f, cl, op, a1, a2, c1, c2, vs, h4, rfl, rfl, rfl, hrd, hbel, by omega, by omega, by show _ < _; rw [HX.out]; exact HF.out, by show _ = _; rw [HX.out]; exact HR.out⟩
            case measure => simp [intOf]; omega
          · obtain ⟨i, rfl⟩ : ∃ i, j = i + 1 := ⟨j - 1, by omega⟩
            have hi' : i < s.size := by omega
            clear hj0
            cases h1 : ((s[i].toNat : Int) == 10)
            · skip
              have hnx : nxt (bs s) (i + 1) = (i + 1) := nxt_word (bs_lt hlt) (cm_false2 hlt h1) (by rw [g1]; exact hg)
              have haw := atWord_nxt (bs s) (i + 1)
              have hF := HF.out
              have hR := HR.out
              rw [hnx] at haw hF hR
              clear hnx HF HR g1
              obtain ⟨f, rfl⟩ : ∃ g, f = g + 1 := ⟨f - 1, by omega⟩
              obtain ⟨m, j', em, ej, hw1, hw2, hn2, hn1, _, hst⟩ := rd_step (bs_lt hlt) haw
              rw [bs_length] at hw2 hn1 hst
              have hcw := endsW_any s (i + 1) wr (by omega) (Nat.le_of_lt hlt)
              have hcn := numberR_any (s.extract (i + 1) ((i + 1) + m)) wr (by rw [ByteArray.size_extract]; omega)
              rw [bs_extract, Nat.add_sub_cancel_left] at hcn
              rw [em] at hcw
              have hstep := hst f cl op
              rw [← ej] at hstep hn2
              clear em hst haw
              generalize numOf (((bs s).drop (i + 1)).take m) = N at hcn hstep
              obtain ⟨n, er⟩ := N
              have HF' : Hid (s.size < nxt (bs s) ((i + 1) + m) + f) := by show _ < _; omega
              have HCW := hide hcw
              have HCN := hide hcn
              have HST := hide hstep
              have HR2 := hide hR
              clear hcw hcn hstep hR hF hn2 hn1 ej
              by_cases her : er = 0
              · subst her
                by_cases hn : n = 0
                · subst hn
                  have HX : Hid (rdAll (bs s) = rd s.size f (cl ++ [op]) [] ((bs s).drop (nxt (bs s) ((i + 1) + m)))) := by show _ = _; rw [HR2.out, HST.out]; simp
                  clear HST HR2
                  have d1 : Hid (cl.length + 1 ≤ maxLen) := by show _ ≤ _; unfold maxLen; omega
                  have d2 : Hid ((cl.length + 1) * 24 ≤ 140737488355328) := by show _ ≤ _; omega
                  go_wp2_with (first
                    | (go_at_call 86; refine (blank_any _ _).mono ?_; rintro e w' ⟨rfl, hw⟩; obtain rfl := hw.symm)
                    | (go_at_call 87; refine (unhide HCW).mono ?_; rintro e w' ⟨rfl, hw⟩; obtain rfl := hw.symm)
                    | (go_at_call 88; refine (unhide HCN).mono ?_; rintro e w' ⟨rfl, hw⟩; obtain rfl := hw.symm)
                    | (at_builtin; refine wpList_append_at _ rfl (.tmp 40) (.tmp 42) 30 rfl w.heap.size 24 i1 (.slice none 0 0) 24 Tryz.undLists gi gz0 gz1 gz2 rfl (.slice a1 cl.length c1) cl.length vs rfl (hrd.lists.top.alloc _) ⟨wr.heap.size, 0, none⟩ 1 1 [.slice a2 op.length c2] rfl rfl (new_cells1 wr [.slice a2 op.length c2] 24) (by intro u hu; simp at hu; subst hu; rfl) (by decide) d1.out d2.out (by simp; exact Nat.le_succ_of_le hb0) ?_; intro v3 w3 hown3 hg3 hwh3))
                  obtain ⟨a3, c3, hv3, hrd3⟩ := hrd.close _ hown3 hg3
                  have hb3 : Below w.heap.size w w3 := (hbel.alloc hbel.size _).grown hg3 (hbel.alloc hbel.size _).size (fun k hk => (hrd.lists.top.lt k hk).1)
                  go_roundw
                  case rel => exact ⟨(i + 1) + m, f, cl ++ [op], [], a3, none, c3, 0, _, hw2, by go_num, hv3, rfl, hrd3, hb3, by simp; omega, Nat.zero_le _, HF', HX⟩
                  case measure => simp [intOf]; omega
                · have hnb : (n == 0) = false := beq_eq_false_iff_ne.2 hn
                  have HX : Hid (rdAll (bs s) = rd s.size f cl (op ++ [n]) ((bs s).drop (nxt (bs s) ((i + 1) + m)))) := by show _ = _; rw [HR2.out, HST.out]; simp [hn]
                  clear HST HR2 hn
                  have d1 : Hid (op.length + 1 ≤ maxLen) := by show _ ≤ _; unfold maxLen; omega
                  have d2 : Hid ((op.length + 1) * 8 ≤ 140737488355328) := by show _ ≤ _; omega
                  go_wp2_with (first
                    | (go_at_call 86; refine (blank_any _ _).mono ?_; rintro e w' ⟨rfl, hw⟩; obtain rfl := hw.symm)
                    | (go_at_call 87; refine (unhide HCW).mono ?_; rintro e w' ⟨rfl, hw⟩; obtain rfl := hw.symm)
                    | (go_at_call 88; refine (unhide HCN).mono ?_; rintro e w' ⟨rfl, hw⟩; obtain rfl := hw.symm)
                    | (at_builtin; refine wpList_append_at _ rfl (.tmp 44) (.tmp 46) 24 rfl w.heap.size 3 i0 (.int .i64 0) 8 Tryz.undInts hi hz0 hz1 hz2 rfl (.slice a2 op.length c2) op.length (i64s op) rfl (hrd.last.alloc _) ⟨wr.heap.size, 0, none⟩ 1 1 [.int .i64 n] rfl rfl (new_cells1 wr [.int .i64 n] 3) (by intro u hu; simp at hu; subst hu; rfl) (by decide) d1.out d2.out (by simp; exact Nat.le_succ_of_le hb0) ?_; intro v3 w3 hown3 hg3 hwh3))
                  obtain ⟨a3, c3, hv3, hrd3⟩ := hrd.push _ n hown3 hg3 hwh3
                  have hb3 : Below w.heap.size w w3 := (hbel.alloc hbel.size _).grown hg3 (hbel.alloc hbel.size _).size (fun k hk => (hrd.last.lt k hk).1)
                  go_roundw
                  case rel => exact ⟨(i + 1) + m, f, cl, op ++ [n], a1, a3, c1, c3, vs, hw2, by go_num, rfl, hv3, hrd3, hb3, by omega, by simp; omega, HF', HX⟩
                  case measure => simp [intOf]; omega
              · have heb : (er != 0) = true := bne_iff_ne.2 her
                have HX : Hid (rdAll (bs s) = .err er (i + 1)) := by show _ = _; rw [HR2.out, HST.out]; simp [her]
                clear HST her HR2
                go_wp2_with (first
                  | (go_at_call 86; refine (blank_any _ _).mono ?_; rintro e w' ⟨rfl, hw⟩; obtain rfl := hw.symm)
                  | (go_at_call 87; refine (unhide HCW).mono ?_; rintro e w' ⟨rfl, hw⟩; obtain rfl := hw.symm)
                  | (go_at_call 88; refine (unhide HCN).mono ?_; rintro e w' ⟨rfl, hw⟩; obtain rfl := hw.symm))
                go_ret3
                rw [HX.out]
                exact ⟨hbel, rfl⟩
            · skip
              have hcm := cm_true2 hlt h9 h1
              have hcl := endsL_any s (i + 1) wr hle (Nat.le_of_lt hlt)
              have hx0 : nxt (bs s) ((i + 1) + llen ((bs s).drop (i + 1))) = nxt (bs s) (i + 1) := nxt_com (bs_lt hlt) hcm
              have h3 : 0 < llen ((bs s).drop (i + 1)) := llen_com (bs_lt hlt) hcm
              have h4 : (i + 1) + llen ((bs s).drop (i + 1)) ≤ s.size := by
                have := llen_le ((bs s).drop (i + 1))
                rw [List.length_drop, bs_length] at this
                omega
              obtain ⟨m, hm⟩ : ∃ m, (i + 1) + llen ((bs s).drop (i + 1)) = m := ⟨_, rfl⟩
              rw [hm] at hcl hx0 h4
              have h5 : (i + 1) < m := by omega
              have HX : Hid (nxt (bs s) m = nxt (bs s) (i + 1)) := hx0
              have HCL := hide hcl
              clear g1 hcm hcl hx0 h3 hm
              go_wp2_with (first
                | (go_at_call 86; refine (blank_any _ _).mono ?_; rintro e w' ⟨rfl, hw⟩; obtain rfl := hw.symm)
                | (go_at_call 87; refine (unhide HCL).mono ?_; rintro e w' ⟨rfl, hw⟩; obtain rfl := hw.symm))
              go_roundw
              case rel => exact ⟨m, f, cl, op, a1, a2, c1, c2, vs, h4, rfl, rfl, rfl, hrd, hbel, by omega, by omega, by show _ < _; rw [HX.out]; exact HF.out, by show _ = _; rw [HX.out]; exact HR.out⟩
              case measure => simp [intOf]; omega
      · have HX : Hid (nxt (bs s) (j + 1) = nxt (bs s) j) := nxt_gap (bs_lt hlt) (by rw [g1]; exact hg)
        clear g1
        go_wp2_with (go_at_call 86; refine (blank_any _ _).mono ?_; rintro e w' ⟨rfl, hw⟩; obtain rfl := hw.symm)
        go_roundw
        case rel => exact ⟨j + 1, f, cl, op, a1, a2, c1, c2, vs, by omega, by go_num, rfl, rfl, hrd, hbel, by omega, by omega, by show _ < _; rw [HX.out]; exact HF.out, by show _ = _; rw [HX.out]; exact HR.out⟩
        case measure => simp [intOf]; omega
    · have hnx : nxt (bs s) j = j := nxt_end (by rw [bs_length]; omega)
      have hnil : (bs s).drop j = [] := bs_drop_end s j (by omega)
      have hF := HF.out
      have hR2 := HR.out
      rw [hnx] at hF hR2
      obtain ⟨f, rfl⟩ : ∃ g, f = g + 1 := ⟨f - 1, by omega⟩
      rw [hnil, rd_nil] at hR2
      clear hnil HR HF hF hnx
      by_cases hop0 : op = []
      · subst hop0
        have HX : Hid (rdAll (bs s) = .ok cl) := by show _ = _; rw [hR2]; simp
        clear hR2
        go_wp2
        go_ret3
        rw [HX.out]
        exact ⟨hbel, a1, c1, vs, rfl, hrd.lists⟩
      · have HX : Hid (rdAll (bs s) = .err 3 s.size) := by show _ = _; rw [hR2]; simp [hop0]
        have hpos : 0 < op.length := List.length_pos_iff.2 hop0
        clear hR2 hop0
        go_wp2
        go_ret3
        rw [HX.out]
        exact ⟨hbel, rfl⟩

end Go.Proofs.YthboeppmlhbofaaGreatDoor
