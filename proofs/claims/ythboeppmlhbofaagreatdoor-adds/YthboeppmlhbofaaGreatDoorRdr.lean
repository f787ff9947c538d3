/-
  Read: the walk.
-/
import Derived.Test.YthboeppmlhbofaaGreatDoorOwn
namespace Go.Proofs.YthboeppmlhbofaaGreatDoor
open Go.RowKit Txt
set_option maxRecDepth 100000

theorem Tryz.infoInt : (Tryz.prog.info? 3).map (fun i => (i.zero, i.size, i.bytes)) = some (some (.int .i64 0), 1, 8) := by kernel_rfl
theorem Tryz.infoInts : (Tryz.prog.info? 24).map (fun i => (i.zero, i.size, i.bytes)) = some (some (.slice none 0 0), 1, 24) := by kernel_rfl
theorem Tryz.undInts : Tryz.prog.underlying 24 = some (.slice 3) := by kernel_rfl
theorem Tryz.undLists : Tryz.prog.underlying 30 = some (.slice 24) := by kernel_rfl

/-- a new block's cells (a list) -/
theorem new_cells1 (w : World) (l : List Value) (e : TypeId) : ∀ j u, l[j]? = some u → (w.alloc (.cells l.toArray e)).cell? ((⟨w.heap.size, 0, none⟩ : Addr).add j) = some u := by
  intro j u hu
  have hadd : (⟨w.heap.size, 0, none⟩ : Addr).add j = ⟨w.heap.size, j, none⟩ := by unfold Addr.add; split <;> simp_all
  rw [hadd, cell_of_row _ w.heap.size j l.toArray e (0, 0) (heap_alloc_new w _)]
  simpa using hu

/-- lists, and one more that is being made -/
structure Reading (w : World) (B : Nat) (v : Value) (vs : List Value) (cl : List (List Int)) (vo : Value) (op : List Int) : Prop where
  lists : Lists w B 24 3 v vs cl
  last : w.ownsRow B 3 1 vo op.length (i64s op)
  apart : ∀ u ∈ vs, Apart u vo

theorem Reading.start (w : World) (B : Nat) : Reading w B (.slice none 0 0) [] [] (.slice none 0 0) [] :=
  ⟨⟨World.ownsRow_nil _ _ _ _, trivial, List.Pairwise.nil⟩, World.ownsRow_nil _ _ _ _, by simp⟩

theorem ne_lists : (3 : Nat) ≠ 24 := by decide

/-- a number more -/
theorem Reading.push {w w' : World} {B : Nat} {v : Value} {vs : List Value} {cl : List (List Int)} {vo : Value} {op : List Int} (h : Reading w B v vs cl vo op) (o : Obj) (x : Int) {v' : Value}
    (hown : w'.ownsRow B 3 1 v' (op.length + 1) (i64s op ++ [.int .i64 x])) (hg : (w.alloc o).grownBy w' vo.ownBlock) (hwh : v'.ownBlock = vo.ownBlock ∨ v'.ownBlock = some (w.alloc o).heap.size) :
    ∃ a c, v' = .slice a (op ++ [x]).length c ∧ Reading w' B v vs cl (.slice a (op ++ [x]).length c) (op ++ [x]) := by
  obtain ⟨a, c, rfl, h2⟩ := own_list (op ++ [x]) (by simp) (by simp [i64s]) hown
  have hka : ∀ u, Apart u vo → ∀ e n xs, w.ownsRow B e 1 u n xs → w'.ownsRow B e 1 u n xs := fun u hu e n xs hh => own_apart_kept (hh.alloc o) hg hu
  refine ⟨a, c, rfl, ⟨⟨hka v (apart_types ne_lists h.last h.lists.top).symm _ _ _ h.lists.top, h.lists.each.map (fun u hu n xs hh => hka u (h.apart u hu) _ n xs hh), h.lists.apart⟩, h2, fun u hu => ?_⟩⟩
  obtain ⟨xs, hx⟩ := h.lists.each.mem hu
  exact apart_moved hx (h.apart u hu) (by simp) hwh

/-- a clause more -/
theorem Reading.close {w w' : World} {B : Nat} {v : Value} {vs : List Value} {cl : List (List Int)} {vo : Value} {op : List Int} (h : Reading w B v vs cl vo op) (o : Obj) {v' : Value}
    (hown : w'.ownsRow B 24 1 v' (cl.length + 1) (vs ++ [vo])) (hg : (w.alloc o).grownBy w' v.ownBlock) :
    ∃ a c, v' = .slice a (cl ++ [op]).length c ∧ Reading w' B (.slice a (cl ++ [op]).length c) (vs ++ [vo]) (cl ++ [op]) (.slice none 0 0) [] := by
  obtain ⟨a, c, rfl, h2⟩ := own_rows (m := (cl ++ [op]).length) (by simp) hown
  have hka : ∀ u, Apart u v → ∀ e n xs, w.ownsRow B e 1 u n xs → w'.ownsRow B e 1 u n xs := fun u hu e n xs hh => own_apart_kept (hh.alloc o) hg hu
  refine ⟨a, c, rfl, ⟨⟨h2, ?_, ?_⟩, World.ownsRow_nil _ _ _ _, fun u _ => apart_nil u⟩⟩
  · refine AllOwn.snoc (h.lists.each.map (fun u hu n xs hh => ?_)) (hka vo (apart_types ne_lists h.last h.lists.top) _ _ _ h.last)
    obtain ⟨ys, hy⟩ := h.lists.each.mem hu
    exact hka u (apart_types ne_lists hy h.lists.top) _ n xs hh
  · exact List.pairwise_append.2 ⟨h.lists.apart, by simp, fun u hu x hx => by simp at hx; subst hx; exact h.apart u hu⟩

/-- what Read hands back -/
def RdPost (B : Nat) (w : World) (r : Res) (e : Ending) (w' : World) : Prop :=
  Below B w w' ∧ match r with
  | .err x p => e = .returned (.tuple #[.slice none 0 0, .int .i64 x, .int .i64 p])
  | .ok cl => ∃ a c vs, e = .returned (.tuple #[.slice a cl.length c, .int .i64 0, .int .i64 0]) ∧ Lists w' B 24 3 (.slice a cl.length c) vs cl
theorem ret_err {x y : Int} {p q : Int} (h : x = y) (h' : p = q) : Ending.returned (.tuple #[.slice none 0 0, .int .i64 x, .int .i64 p]) = .returned (.tuple #[.slice none 0 0, .int .i64 y, .int .i64 q]) := by rw [h, h']

set_option maxHeartbeats 2000000 in
theorem readT_any (s : ByteArray) (w : World) (hs : s.size ≤ 9223372036854775807) :
    Calls Tryz.prog 85 #[.string s] w fun e w' => RdPost w.heap.size w (rdAll (bs s)) e w' := by
  by_cases hbig : 1000 < s.size
  · have H : Hid (rdAll (bs s) = .err 2 0) := by show _ = _; rw [rdAll, if_pos (by rw [bs_length]; exact hbig)]
    go_enter Tryz.func85, Tryz.ntmps85
    go_wp2
    go_ret3
    rw [H.out]
    exact ⟨Below.refl _ _, rfl⟩
  have hle : s.size ≤ 1000 := by omega
  have hl0 := nxt_le (l := bs s) (p := 0) (by omega)
  rw [bs_length] at hl0
  have haw0 := atWord_nxt (bs s) 0
  have HR : Hid (rdAll (bs s) = rd s.size (s.size + 1) [] [] ((bs s).drop (nxt (bs s) 0))) := by
    show _ = _
    rw [rdAll, if_neg (by rw [bs_length]; omega), bs_length, nxt_zero]
  have hcall0 : Calls Tryz.prog 111 #[.string s, .int .i64 0] w fun e w' => e = .returned (.int .i64 (nxt (bs s) 0 : Nat)) ∧ w' = w := nextWord_any s 0 w hle (by omega)
  obtain ⟨i0, hi, hz0, hz1, hz2⟩ := info_parts Tryz.infoInt
  obtain ⟨i1, gi, gz0, gz1, gz2⟩ := info_parts Tryz.infoInts
  clear hs hbig
  generalize nxt (bs s) 0 = j0 at hl0 haw0 HR hcall0
  have HA0 : Hid (AtWord ((bs s).drop j0)) := haw0
  clear haw0
  have HC := hide hcall0
  clear hcall0
  go_enter Tryz.func85, Tryz.ntmps85
  go_wp2_with (go_at_call 111; refine (unhide HC).mono ?_; rintro e w' ⟨rfl, hw⟩; obtain rfl := hw.symm)
  clear HC
  go_loopw [5, 6, 7] (fun x5 x6 x7 wr => ∃ (j f : Nat) (cl : List (List Int)) (op : List Int) (a1 a2 : Option Addr) (c1 c2 : Nat) (vs : List Value), j ≤ s.size ∧ x7 = .int .i64 j ∧ x5 = .slice a1 cl.length c1 ∧ x6 = .slice a2 op.length c2 ∧
      Reading wr w.heap.size (.slice a1 cl.length c1) vs cl (.slice a2 op.length c2) op ∧ Below w.heap.size w wr ∧ cl.length ≤ j ∧ op.length ≤ j ∧ Hid (AtWord ((bs s).drop j)) ∧ s.size < j + f ∧ Hid (rdAll (bs s) = rd s.size f cl op ((bs s).drop j))) (fun _ _ x7 _ => s.size - (intOf x7).toNat)
  case atStart => exact ⟨j0, s.size + 1, [], [], none, none, 0, 0, [], hl0.1, rfl, rfl, rfl, Reading.start _ _, Below.refl _ _, Nat.zero_le _, Nat.zero_le _, HA0, by omega, HR⟩
  case round =>
    clear HA0 HR hl0
    obtain ⟨j, f, cl, op, a1, a2, c1, c2, vs, hj, rfl, rfl, rfl, hrd, hbel, hcl, hop, HA, hf, HR⟩ := hrel
    obtain ⟨f, rfl⟩ : ∃ g, f = g + 1 := ⟨f - 1, by omega⟩
    have hb0 : w.heap.size ≤ wr.heap.size := hbel.size
    by_cases hlt : j < s.size
    · obtain ⟨m, j', em, ej, hw1, hw2, hn2, hn1, haw, hst⟩ := rd_step (bs_lt hlt) HA.out
      rw [bs_length] at hw2 hn1 hst
      have hcw := wordEnd_any s j wr (Nat.le_trans hle (by decide)) hj
      have hcx : ∀ wz : World, Calls Tryz.prog 111 #[.string s, .int .i64 ((j + m : Nat) : Int)] wz fun e w' => e = .returned (.int .i64 (nxt (bs s) (j + m) : Nat)) ∧ w' = wz := fun wz => nextWord_any s (j + m) wz hle hw2
      have hcn := number_any (s.extract j (j + m)) wr (by rw [ByteArray.size_extract]; omega)
      rw [bs_extract, Nat.add_sub_cancel_left] at hcn
      rw [em] at hcw
      simp only [ej] at hcx
      have hstep := hst f cl op
      clear em ej hst
      generalize numOf (((bs s).drop j).take m) = N at hcn hstep
      obtain ⟨n, er⟩ := N
      have HA' : Hid (AtWord ((bs s).drop j')) := haw
      have HCW := hide hcw
      have HCN := hide hcn
      have HCX := hide hcx
      have HST := hide hstep
      clear hcw hcn hcx hstep haw
      by_cases her : er = 0
      · subst her
        by_cases hn : n = 0
        · subst hn
          have HX : Hid (rd s.size (f + 1) cl op ((bs s).drop j) = rd s.size f (cl ++ [op]) [] ((bs s).drop j')) := by show _ = _; rw [HST.out]; simp
          clear HST
          have d1 : Hid (cl.length + 1 ≤ maxLen) := by show _ ≤ _; unfold maxLen; omega
          have d2 : Hid ((cl.length + 1) * 24 ≤ 140737488355328) := by show _ ≤ _; omega
          go_wp2_with (first
            | (go_at_call 112; refine (unhide HCW).mono ?_; rintro e w' ⟨rfl, hw⟩; obtain rfl := hw.symm)
            | (go_at_call 113; refine (unhide HCN).mono ?_; rintro e w' ⟨rfl, hw⟩; obtain rfl := hw.symm)
            | (at_builtin; refine wpList_append_at _ rfl (.tmp 37) (.tmp 39) 30 rfl w.heap.size 24 i1 (.slice none 0 0) 24 Tryz.undLists gi gz0 gz1 gz2 rfl (.slice a1 cl.length c1) cl.length vs rfl (hrd.lists.top.alloc _) ⟨wr.heap.size, 0, none⟩ 1 1 [.slice a2 op.length c2] rfl rfl (new_cells1 wr [.slice a2 op.length c2] 24) (by intro u hu; simp at hu; subst hu; rfl) (by decide) d1.out d2.out (by simp; exact Nat.le_succ_of_le hb0) ?_; intro v3 w3 hown3 hg3 hwh3)
            | (go_at_call 111; refine (unhide HCX _).mono ?_; rintro e w' ⟨rfl, hw⟩; obtain rfl := hw.symm))
          obtain ⟨a3, c3, hv3, hrd3⟩ := hrd.close _ hown3 hg3
          have hb3 : Below w.heap.size w w3 := (hbel.alloc hbel.size _).grown hg3 (hbel.alloc hbel.size _).size (fun k hk => (hrd.lists.top.lt k hk).1)
          go_roundw
          case rel => exact ⟨j', f, cl ++ [op], [], a3, none, c3, 0, _, hn1, rfl, hv3, rfl, hrd3, hb3, by simp; omega, Nat.zero_le _, HA', by omega, HR.out.trans HX.out⟩
          case measure => simp [intOf]; omega
        · have hnb : (n == 0) = false := beq_eq_false_iff_ne.2 hn
          have HX : Hid (rd s.size (f + 1) cl op ((bs s).drop j) = rd s.size f cl (op ++ [n]) ((bs s).drop j')) := by show _ = _; rw [HST.out]; simp [hn]
          clear HST hn
          have d1 : Hid (op.length + 1 ≤ maxLen) := by show _ ≤ _; unfold maxLen; omega
          have d2 : Hid ((op.length + 1) * 8 ≤ 140737488355328) := by show _ ≤ _; omega
          go_wp2_with (first
            | (go_at_call 112; refine (unhide HCW).mono ?_; rintro e w' ⟨rfl, hw⟩; obtain rfl := hw.symm)
            | (go_at_call 113; refine (unhide HCN).mono ?_; rintro e w' ⟨rfl, hw⟩; obtain rfl := hw.symm)
            | (at_builtin; refine wpList_append_at _ rfl (.tmp 41) (.tmp 43) 24 rfl w.heap.size 3 i0 (.int .i64 0) 8 Tryz.undInts hi hz0 hz1 hz2 rfl (.slice a2 op.length c2) op.length (i64s op) rfl (hrd.last.alloc _) ⟨wr.heap.size, 0, none⟩ 1 1 [.int .i64 n] rfl rfl (new_cells1 wr [.int .i64 n] 3) (by intro u hu; simp at hu; subst hu; rfl) (by decide) d1.out d2.out (by simp; exact Nat.le_succ_of_le hb0) ?_; intro v3 w3 hown3 hg3 hwh3)
            | (go_at_call 111; refine (unhide HCX _).mono ?_; rintro e w' ⟨rfl, hw⟩; obtain rfl := hw.symm))
          obtain ⟨a3, c3, hv3, hrd3⟩ := hrd.push _ n hown3 hg3 hwh3
          have hb3 : Below w.heap.size w w3 := (hbel.alloc hbel.size _).grown hg3 (hbel.alloc hbel.size _).size (fun k hk => (hrd.last.lt k hk).1)
          go_roundw
          case rel => exact ⟨j', f, cl, op ++ [n], a1, a3, c1, c3, vs, hn1, rfl, rfl, hv3, hrd3, hb3, by omega, by simp; omega, HA', by omega, HR.out.trans HX.out⟩
          case measure => simp [intOf]; omega
      · have heb : (er != 0) = true := bne_iff_ne.2 her
        have HX : Hid (rdAll (bs s) = .err er j) := by show _ = _; rw [HR.out, HST.out]; simp [her]
        clear HST her
        go_wp2_with (first
          | (go_at_call 112; refine (unhide HCW).mono ?_; rintro e w' ⟨rfl, hw⟩; obtain rfl := hw.symm)
          | (go_at_call 113; refine (unhide HCN).mono ?_; rintro e w' ⟨rfl, hw⟩; obtain rfl := hw.symm))
        go_ret3
        rw [HX.out]
        exact ⟨hbel, rfl⟩
    · have hnil : (bs s).drop j = [] := bs_drop_end s j (by omega)
      have hR2 := HR.out
      rw [hnil, rd_nil] at hR2
      clear hnil HR
      by_cases hop0 : op = []
      · subst hop0
        have HX : Hid (rdAll (bs s) = .ok cl) := by show _ = _; rw [hR2]; simp
        clear hR2
        go_wp2
        go_ret3
        rw [HX.out]
        exact ⟨hbel, a1, c1, vs, rfl, hrd.lists⟩
      · have HX : Hid (rdAll (bs s) = .err 3 s.size) := by show _ = _; rw [hR2]; simp [hop0]
        have hpos : 0 < op.length := List.length_pos_iff.2 hop0
        clear hR2 hop0
        go_wp2
        go_ret3
        rw [HX.out]
        exact ⟨hbel, rfl⟩

set_option maxHeartbeats 400000 in
theorem read_any (s : ByteArray) (w : World) (hs : s.size ≤ 9223372036854775807) :
    Calls Tryz.prog 51 #[.string s] w fun e w' => RdPost w.heap.size w (rdAll (bs s)) e w' := by
  have h := readT_any s w hs
  have H := hide h
  clear h
  cases hr : rdAll (bs s) with
  | err x p =>
    rw [hr] at H
    go_enter Tryz.func51, Tryz.ntmps51
    go_wp2_with (go_at_call 85; refine (unhide H).mono ?_; rintro e w' ⟨hb, rfl⟩)
    go_ret3
    exact ⟨hb, rfl⟩
  | ok cl =>
    rw [hr] at H
    go_enter Tryz.func51, Tryz.ntmps51
    go_wp2_with (go_at_call 85; refine (unhide H).mono ?_; rintro e w' ⟨hb, a, c, vs, rfl, hL⟩)
    go_ret3
    exact ⟨hb, a, c, vs, rfl, hL⟩

end Go.Proofs.YthboeppmlhbofaaGreatDoor
