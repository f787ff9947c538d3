/-
  The document's In, Without, Clash, Follows: the walks.
-/
import Derived.Test.YthboeppmlhbofaaGreatDoorCld
import Derived.Test.YthboeppmlhbofaaGreatDoorRdr
namespace Go.Proofs.YthboeppmlhbofaaGreatDoor
open Go.RowKit Txt
set_option maxRecDepth 100000

def natI (cs : List Nat) : List Int := cs.map Int.ofNat
theorem natI_len (cs : List Nat) : (natI cs).length = cs.length := by simp [natI]
theorem natI_get (cs : List Nat) (j : Nat) : (natI cs).getD j 0 = ((cs.getD j 0 : Nat) : Int) := by
  rw [List.getD_eq_getElem?_getD, List.getD_eq_getElem?_getD]
  simp only [natI, List.getElem?_map]
  cases cs[j]? <;> rfl
theorem natI_snoc (cs : List Nat) (c : Nat) : natI (cs ++ [c]) = natI cs ++ [(c : Int)] := by simp [natI]
theorem nat_cells {w : World} {a : Option Addr} {cs : List Nat} (h : IntsAt w a (natI cs)) (hp : 0 < cs.length) : ∃ b off, a = some ⟨b, off, none⟩ ∧ ∀ j, j < cs.length → w.cell? ⟨b, off + j, none⟩ = some (.int .i64 ((cs.getD j 0 : Nat) : Int)) := by
  obtain ⟨b, off, e, hc⟩ := h.get (by rw [natI_len]; exact hp)
  refine ⟨b, off, e, fun j hj => ?_⟩
  have := hc j (by rw [natI_len]; exact hj)
  rwa [natI_get] at this
theorem take_nat (cs : List Nat) (k : Nat) (h : k < cs.length) : cs.take (k + 1) = cs.take k ++ [cs.getD k 0] := by
  rw [List.take_succ_eq_append_getElem h, List.getD_eq_getElem?_getD, List.getElem?_eq_getElem h]
  rfl
theorem get_mem (cs : List Nat) (k : Nat) (h : k < cs.length) : cs.getD k 0 ∈ cs := by
  rw [List.getD_eq_getElem?_getD, List.getElem?_eq_getElem h]
  exact List.getElem_mem h

/-- what In tells -/
def InP (cs : List Nat) (s : Nat) (r : Int) : Prop := (r = -1 ∧ ¬ s ∈ cs) ∨ ∃ k : Nat, k < cs.length ∧ r = k ∧ cs.getD k 0 = s ∧ ¬ s ∈ cs.take k
set_option maxHeartbeats 1000000 in
theorem in_any (a : Option Addr) (c : Nat) (cs : List Nat) (s : Nat) (w : World) (hr : IntsAt w a (natI cs)) (hbd : cs.length ≤ 9223372036854775807) :
    Calls Tryz.prog 105 #[.slice a cs.length c, .int .i64 s] w fun e w' => (∃ r, e = .returned (.int .i64 r) ∧ InP cs s r) ∧ w' = w := by
  go_enter Tryz.func105, Tryz.ntmps105
  go_wp2
  go_loop [5] (fun i => ∃ k : Nat, k ≤ cs.length ∧ i = .int .i64 k ∧ Hid (¬ s ∈ cs.take k)) (fun i => cs.length - (intOf i).toNat)
  case atStart => exact ⟨0, Nat.zero_le _, rfl, by show ¬ _; simp⟩
  case round =>
    obtain ⟨k, hk, rfl, hl⟩ := hrel
    by_cases hlt : k < cs.length
    · obtain ⟨b, off, rfl, hc⟩ := nat_cells hr (by omega)
      have h1 := hc k hlt
      have HT : Hid (cs.take (k + 1) = cs.take k ++ [cs.getD k 0]) := take_nat cs k hlt
      have HG : Hid (cs.getD k 0 = cs.getD k 0) := rfl
      generalize hx : cs.getD k 0 = x at h1 HT HG
      have HX := hide hx
      clear hc hx HG
      by_cases he : x = s
      · have hb : ((x : Int) == (s : Int)) = true := by rw [beq_iff_eq, he]
        have HE := hide he
        clear he
        go_wp2
        go_ret
        exact ⟨⟨_, rfl, .inr ⟨k, hlt, rfl, HX.out.trans HE.out, hl.out⟩⟩, rfl⟩
      · have hb : ((x : Int) == (s : Int)) = false := by rw [beq_eq_false_iff_ne]; omega
        have HE := hide he
        clear he
        go_wp2
        go_round
        case rel => exact ⟨k + 1, by omega, by go_num, by show ¬ _; rw [HT.out]; intro h; rcases List.mem_append.1 h with h | h; exact hl.out h; simp at h; exact HE.out h.symm⟩
        case measure => simp [intOf]; omega
    · have HF : Hid (¬ s ∈ cs) := by
        have := hl.out
        rwa [List.take_of_length_le (by omega)] at this
      go_wp2
      go_ret
      exact ⟨⟨_, rfl, .inl ⟨rfl, HF.out⟩⟩, rfl⟩

theorem erase_at : ∀ (cs : List Nat) (s k : Nat), k < cs.length → cs.getD k 0 = s → ¬ s ∈ cs.take k → cs.erase s = cs.take k ++ cs.drop (k + 1) := by
  intro cs
  induction cs with
  | nil => intro s k h; simp at h
  | cons c cs ih =>
    intro s k h h1 h2
    cases k with
    | zero =>
      have e : c = s := by simpa using h1
      subst e
      simp
    | succ k =>
      have hne : ¬ c = s := fun e => h2 (by simp [e])
      have h1' : cs.getD k 0 = s := by simpa using h1
      have h2' : ¬ s ∈ cs.take k := fun q => h2 (by simp [q])
      rw [List.erase_cons_tail (by simpa using hne), ih s k (by simpa using h) h1' h2']
      simp
/-- the first of a list, one left out -/
def woN (cs : List Nat) (i j : Nat) : List Nat := if j ≤ i then cs.take j else cs.take i ++ (cs.drop (i + 1)).take (j - i - 1)
theorem wo_len (cs : List Nat) (i j : Nat) : (woN cs i j).length ≤ j := by
  unfold woN
  split
  · simp; omega
  · simp; omega
theorem wo_same (cs : List Nat) (i : Nat) : woN cs i (i + 1) = woN cs i i := by
  unfold woN
  rw [if_neg (by omega), if_pos (Nat.le_refl _), show i + 1 - i - 1 = 0 by omega]
  simp
theorem wo_next (cs : List Nat) (i j : Nat) (hj : j < cs.length) (hne : j ≠ i) : woN cs i (j + 1) = woN cs i j ++ [cs.getD j 0] := by
  unfold woN
  by_cases h : j < i
  · rw [if_pos (by omega), if_pos (by omega), take_nat cs j hj]
  · rw [if_neg (by omega), if_neg (by omega), List.append_assoc]
    congr 1
    have hd : j - i - 1 < (cs.drop (i + 1)).length := by rw [List.length_drop]; omega
    rw [show j + 1 - i - 1 = (j - i - 1) + 1 by omega, take_nat _ _ hd]
    congr 1
    rw [List.getD_eq_getElem?_getD, List.getD_eq_getElem?_getD, List.getElem?_drop, show i + 1 + (j - i - 1) = j by omega]
theorem wo_all (cs : List Nat) (i : Nat) (hi : i < cs.length) : woN cs i cs.length = cs.take i ++ cs.drop (i + 1) := by
  unfold woN
  rw [if_neg (by omega)]
  congr 1
  exact List.take_of_length_le (by rw [List.length_drop]; omega)

set_option maxHeartbeats 2000000 in
theorem without_any (a : Option Addr) (c : Nat) (cs : List Nat) (i : Nat) (w : World) (hr : IntsAt w a (natI cs)) (hbd : cs.length ≤ 1000000000) :
    Calls Tryz.prog 106 #[.slice a cs.length c, .int .i64 i] w fun e w' => (∃ a' c', e = .returned (.slice a' (woN cs i cs.length).length c') ∧ w'.ownsRow w.heap.size 3 1 (.slice a' (woN cs i cs.length).length c') (woN cs i cs.length).length (i64s (natI (woN cs i cs.length)))) ∧ Below w.heap.size w w' := by
  obtain ⟨i0, hi0, hz0, hz1, hz2⟩ := info_parts Tryz.infoInt
  go_enter Tryz.func106, Tryz.ntmps106
  go_wp2
  go_loopw [5, 6] (fun x3 x4 wr => ∃ (k : Nat) (a1 : Option Addr) (c1 : Nat), k ≤ cs.length ∧ x4 = .int .i64 k ∧ x3 = .slice a1 (woN cs i k).length c1 ∧ Hid (wr.ownsRow w.heap.size 3 1 (.slice a1 (woN cs i k).length c1) (woN cs i k).length (i64s (natI (woN cs i k)))) ∧ Hid (Below w.heap.size w wr)) (fun _ x4 _ => cs.length - (intOf x4).toNat)
  case atStart => exact ⟨0, none, 0, Nat.zero_le _, rfl, by simp [woN], ⟨by simp [woN, natI, i64s], .inl ⟨by simp [woN], by simp [woN]⟩⟩, Below.refl _ _⟩
  case round =>
    obtain ⟨k, a1, c1, hk, rfl, rfl, HO, HB⟩ := hrel
    have hz : w.heap.size ≤ wr.heap.size := HB.out.size
    by_cases hlt : k < cs.length
    · obtain ⟨b, off, rfl, hc⟩ := nat_cells (hr.below HB.out) (by omega)
      have h1 := hc k hlt
      have hl := wo_len cs i k
      by_cases he : k = i
      · subst he
        have HS := hide (wo_same cs k)
        have hb : ((k : Int) != (k : Int)) = false := by simp
        clear hc
        go_wp2
        go_roundw
        case rel => exact ⟨k + 1, a1, c1, by omega, by go_num, by rw [HS.out], by rw [HS.out]; exact HO, HB⟩
        case measure => simp [intOf]; omega
      · have HS := hide (wo_next cs i k hlt he)
        have hb : ((k : Int) != (i : Int)) = true := by rw [bne_iff_ne]; omega
        generalize cs.getD k 0 = x at h1 HS
        have HW : Hid ((woN cs i k).length = (woN cs i k).length) := rfl
        generalize hg : woN cs i k = wo at HO HS hl HW
        have d1 : Hid (wo.length + 1 ≤ maxLen) := by show _ ≤ _; unfold maxLen; omega
        have d2 : Hid ((wo.length + 1) * 8 ≤ 140737488355328) := by show _ ≤ _; omega
        clear hc hg HW
        go_wp2_with (at_builtin; refine wpList_append_at _ rfl _ _ 24 rfl w.heap.size 3 i0 (.int .i64 0) 8 Tryz.undInts hi0 hz0 hz1 hz2 rfl (.slice a1 wo.length c1) wo.length (i64s (natI wo)) rfl (HO.out.alloc _) ⟨wr.heap.size, 0, none⟩ 1 1 [.int .i64 (x : Int)] rfl rfl (new_cells1 wr [.int .i64 (x : Int)] 3) (by intro u hu; simp at hu; subst hu; rfl) (by decide) d1.out d2.out (by simp; exact Nat.le_succ_of_le hz) ?_; intro v3 w3 hown3 hg3 hwh3)
        obtain ⟨a3, c3, rfl⟩ := own_shape hown3
        have HB3 : Hid (Below w.heap.size w w3) := (HB.out.alloc hz _).grown hg3 (HB.out.alloc hz _).size (fun k hk => (HO.out.lt k hk).1)
        have HO3 : Hid (w3.ownsRow w.heap.size 3 1 (.slice a3 (wo.length + 1) c3) (wo.length + 1) (i64s (natI (wo ++ [x])))) := by
          have : i64s (natI (wo ++ [x])) = i64s (natI wo) ++ [.int .i64 (x : Int)] := by simp [natI, i64s]
          rw [this]; exact hown3
        clear hown3 hg3 hwh3
        go_roundw
        case rel => exact ⟨k + 1, a3, c3, by omega, by go_num, by rw [HS.out]; simp, by rw [HS.out, List.length_append]; exact HO3, HB3⟩
        case measure => simp [intOf]; omega
    · obtain rfl : k = cs.length := by omega
      go_wp2
      go_ret
      exact ⟨⟨a1, c1, rfl, HO.out⟩, HB.out⟩

end Go.Proofs.YthboeppmlhbofaaGreatDoor

/-
  The document's Clash and Follows: the walks.
-/
namespace Go.Proofs.YthboeppmlhbofaaGreatDoor
open Go.RowKit Txt
set_option maxRecDepth 100000

theorem left_int (c o : Nat) (hc : c < 1048576) (ho : o < 1048576) : ((c : Int) - bits .and .i64 (c : Int) (o : Int)) = ((c - (c &&& o) : Nat) : Int) := by
  rw [and64 c o (by omega) (by omega)]
  have := @Nat.and_le_left c o
  omega
theorem one_int (x : Nat) (h0 : x ≠ 0) (hx : x < 1048576) : bits .and .i64 (x : Int) ((x : Int) - 1) = ((x &&& (x - 1) : Nat) : Int) := by
  rw [show ((x : Int) - 1) = ((x - 1 : Nat) : Int) by omega]
  exact and64 x (x - 1) (by omega) (by omega)
def clR : Option Nat → Bool
  | none => true
  | some k => twinB k
theorem clash_clR (cs : List Nat) (k : Nat) : clashD cs k = clR (rndD cs 21 k) := by
  unfold clashD clR
  cases rndD cs 21 k <;> rfl
theorem pass_at (cs : List Nat) (i k : Nat) (h : i < cs.length) : passD (cs.drop i) k = if leftN (cs.getD i 0) k = 0 then none else passD (cs.drop (i + 1)) (if leftN (cs.getD i 0) k &&& (leftN (cs.getD i 0) k - 1) = 0 then k ||| leftN (cs.getD i 0) k else k) := by
  rw [drop_get cs 0 i h]
  rfl

set_option maxHeartbeats 4000000 in
theorem clash_any (a : Option Addr) (c : Nat) (cs : List Nat) (k : Nat) (w : World) (hr : IntsAt w a (natI cs)) (hbd : cs.length ≤ 9223372036854775000) (hk : k < 1048576) (hc : ∀ x ∈ cs, x < 1048576) :
    Calls Tryz.prog 129 #[.slice a cs.length c, .int .i64 k] w fun e w' => e = .returned (.bool (clashD cs k)) ∧ Below w.heap.size w w' := by
  have HC := hide hc
  have HR := hide hr
  have HRES := hide (clash_clR cs k)
  have HB0 : Hid (Below w.heap.size w w) := Below.refl _ _
  generalize clashD cs k = RES at *
  clear hc hr
  go_enter Tryz.func129, Tryz.ntmps129
  go_wp2_with fail
  go_loopw [5, 6] (fun x5 x6 wr => ∃ (r q : Nat), r ≤ 21 ∧ q < 1048576 ∧ x5 = .int .i64 q ∧ x6 = .int .i64 r ∧ Hid (Below w.heap.size w wr) ∧ Hid (RES = clR (rndD cs (21 - r) q))) (fun _ x6 _ => 21 - (intOf x6).toNat)
  case atStart => exact ⟨0, k, by omega, hk, rfl, rfl, HB0, HRES⟩
  case round =>
    clear HRES HB0
    obtain ⟨r, q, hr21, hq, rfl, rfl, HB, HF⟩ := hrel
    by_cases hlt : r < 21
    · have HP : Hid (RES = clR (match passD cs q with | none => none | some q' => rndD cs (20 - r) q')) := by
        show _ = _
        rw [HF.out, show 21 - r = (20 - r) + 1 by omega]
        rfl
      generalize hpq : passD cs q = PQ at HP
      have HPQ := hide hpq
      have hr20 : (r : Int) ≤ 20 := by omega
      clear hpq HF
      go_wp2_with fail
      go_loopw [5, 7] (fun x5 x7 wr => ∃ (i q' : Nat), i ≤ cs.length ∧ q' < 1048576 ∧ x5 = .int .i64 q' ∧ x7 = .int .i64 i ∧ Hid (Below w.heap.size w wr) ∧ Hid (passD (cs.drop i) q' = PQ)) (fun _ x7 _ => cs.length - (intOf x7).toNat)
      case atStart => exact ⟨0, q, Nat.zero_le _, hq, rfl, rfl, HB, HPQ⟩
      case round =>
        clear HPQ hq HB
        obtain ⟨i, q', hi, hq', rfl, rfl, HBI, HI⟩ := hrel
        by_cases hlti : i < cs.length
        · obtain ⟨b, off, rfl, hcl⟩ := nat_cells (HR.out.below HBI.out) (by omega)
          have h1 := hcl i hlti
          have hx := HC.out _ (get_mem cs i hlti)
          have hi2 := HI.out
          rw [pass_at cs i q' hlti] at hi2
          generalize cs.getD i 0 = x at h1 hx hi2
          have HO : Hid (∀ w, Calls Tryz.prog 65 #[.int .i64 q'] w fun e w' => e = .returned (.int .i64 (oppN q' : Nat)) ∧ w' = w) := fun w => opposite_any q' hq' w
          have ho := oppN_lt q'
          have hli := left_int x (oppN q') hx ho
          have hle : leftN x q' ≤ x := left_le x q'
          have hl2 : ((x : Int) - bits .and .i64 (x : Int) ((oppN q' : Nat) : Int)) = ((leftN x q' : Nat) : Int) := hli
          have HI2 := hide hi2
          generalize oppN q' = o at *
          generalize leftN x q' = L at *
          clear hi2 hcl HI hli
          go_wp2_with fail
          go_region_with (go_at_call 65; refine (unhide HO _).mono ?_; rintro e w' ⟨rfl, rfl⟩)
          all_goals
            have HBD : Hid (Below w.heap.size w wr.drew) := below_drewN HBI.out 1
            generalize wr.drew = wd at *
            by_cases h0 : L = 0
            · subst h0
              have HPN : Hid (PQ = none) := by have := HI2.out; rw [if_pos rfl] at this; exact this.symm
              go_wp2
              go_ret
              exact ⟨by rw [HP.out, HPN.out]; rfl, HBD.out⟩
            · have hL0 : ((L : Int) == 0) = false := by rw [beq_eq_false_iff_ne]; omega
              have hLx : L < 1048576 := by omega
              have h1L := one_int L h0 hLx
              have hor := or64 q' L (by omega) (by omega)
              have hql : q' ||| L < 1048576 := Nat.or_lt_two_pow (n := 20) hq' hLx
              by_cases hs : L &&& (L - 1) = 0
              · rw [hs] at h1L
                have HPN : Hid (passD (cs.drop (i + 1)) (q' ||| L) = PQ) := by have := HI2.out; rw [if_neg h0, if_pos hs] at this; exact this
                have hLn : 0 < L := by omega
                generalize q' ||| L = qn at *
                clear hs h0 HI2
                go_wp2
                go_roundw
                case rel => exact ⟨i + 1, qn, by omega, hql, rfl, by go_num, HBD, HPN⟩
                case measure => simp [intOf]; omega
              · have hsb : (((L &&& (L - 1) : Nat) : Int) == 0) = false := by rw [beq_eq_false_iff_ne]; omega
                have HPN : Hid (passD (cs.drop (i + 1)) q' = PQ) := by have := HI2.out; rw [if_neg h0, if_neg hs] at this; exact this
                have hLn : 0 < L := by omega
                generalize L &&& (L - 1) = LL at *
                clear hs h0 HI2
                go_wp2
                go_roundw
                case rel => exact ⟨i + 1, q', by omega, hq', rfl, by go_num, HBD, HPN⟩
                case measure => simp [intOf]; omega
        · have HPN : Hid (some q' = PQ) := by
            have := HI.out
            rw [List.drop_eq_nil_of_le (by omega)] at this
            exact this
          have HRN : Hid (RES = clR (rndD cs (21 - (r + 1)) q')) := by
            show _ = _
            rw [HP.out, ← HPN.out, show 21 - (r + 1) = 20 - r by omega]
          clear HP HI HPN
          go_wp2
          go_roundw
          case rel => exact ⟨r + 1, q', by omega, hq', rfl, by go_num, HBI, HRN⟩
          case measure => simp [intOf]; omega
    · obtain rfl : r = 21 := by omega
      have HRN : Hid (RES = twinB q) := HF.out
      have HT := hide (twin_any q hq wr)
      clear HF
      go_wp2_with (go_at_call 64; refine (unhide HT).mono ?_; rintro e w' ⟨rfl, hw⟩; obtain rfl := hw.symm)
      go_ret
      exact ⟨ret_bool HRN.out.symm, HB.out⟩

set_option maxHeartbeats 1000000 in
theorem followsR_any (a : Option Addr) (c : Nat) (cs : List Nat) (s : Nat) (w : World) (hr : IntsAt w a (natI cs)) (hbd : cs.length ≤ 9223372036854775000) (hs : s < 1048576) (hc : ∀ x ∈ cs, x < 1048576) :
    Calls Tryz.prog 110 #[.slice a cs.length c, .int .i64 s] w fun e w' => e = .returned (.bool (clashD cs (oppN s))) ∧ Below w.heap.size w w' := by
  have HO := hide (opposite_any s hs w)
  have HCL := hide (clash_any a c cs (oppN s) w hr hbd (oppN_lt s) hc)
  generalize clashD cs (oppN s) = RES at *
  generalize oppN s = o at *
  clear hr hc
  go_enter Tryz.func110, Tryz.ntmps110
  go_wp2_with fail
  refine (unhide HO).mono ?_
  rintro e w' ⟨rfl, hw⟩
  obtain rfl := hw.symm
  go_wp2_with fail
  refine (unhide HCL).mono ?_
  rintro e w' ⟨rfl, hb⟩
  go_wp2
  go_ret
  exact ⟨rfl, hb⟩

end Go.Proofs.YthboeppmlhbofaaGreatDoor
