/-
  The document's lines: the walk.
-/
import Derived.Test.YthboeppmlhbofaaGreatDoorCli
import Derived.Test.YthboeppmlhbofaaGreatDoorClg
import Derived.Test.YthboeppmlhbofaaGreatDoorCld
import Derived.Test.YthboeppmlhbofaaGreatDoorChm
import Derived.Test.YthboeppmlhbofaaGreatDoorRdw
namespace Go.Proofs.YthboeppmlhbofaaGreatDoor
open Go.RowKit Txt
set_option maxRecDepth 100000

theorem stepD_len (cs : List Nat) (lt : Nat) (xs : List Int) : (stepD cs lt xs).2.length ≤ cs.length + 1 := by
  unfold stepD
  split
  · split
    · have := List.length_erase_le (a := setOk xs) (l := cs); simp only; omega
    · simp
  · split
    · simp
    · split
      · simp
      · simp
theorem setOk_lt (xs : List Int) : setOk xs < 1048576 := (Two.ok xs).top
theorem stepD_top (cs : List Nat) (lt : Nat) (xs : List Int) (h : ∀ c ∈ cs, c < 1048576) : ∀ c ∈ (stepD cs lt xs).2, c < 1048576 := by
  unfold stepD
  split
  · split
    · intro c hc; exact h c (List.mem_of_mem_erase hc)
    · exact h
  · split
    · exact h
    · split
      · intro c hc
        rcases List.mem_append.1 hc with hc | hc
        · exact h c hc
        · simp at hc; subst hc; exact setOk_lt xs
      · exact h
theorem own_nat {w : World} {B e c : Nat} {a : Option Addr} {cs : List Nat} (h : w.ownsRow B e 1 (.slice a cs.length c) cs.length (i64s (natI cs))) : IntsAt w a (natI cs) := by
  have h' : w.ownsRow B e 1 (.slice a cs.length c) (natI cs).length (i64s (natI cs)) := by rw [natI_len]; exact h
  exact own_intsAt h'
theorem apart_low {w : World} {B e s n m : Nat} {u : Value} {a : Option Addr} {c : Nat} {xs : List Value} (h : w.ownsRow B e s u n xs) {w2 : World} {ys : List Value} {e2 s2 : Nat} (h2 : w2.ownsRow w.heap.size e2 s2 (.slice a m c) m ys) : Apart (.slice a m c) u := by
  intro b hb hu
  have h3 := (h2.lt b hb).1
  have h4 := (h.lt b hu).2
  omega

set_option maxHeartbeats 8000000 in
theorem lines_any (B : Nat) (ha : Option Addr) (hc : Nat) (hv : List Nat) (s : ByteArray) (w : World) (hB : B ≤ w.heap.size) (ho : w.ownsRow B 3 1 (.slice ha hv.length hc) hv.length (i64s (natI hv))) (htop : ∀ c ∈ hv, c < 1048576) (hs : s.size ≤ 4194304) (hl : hv.length ≤ 100000000) :
    Calls Tryz.prog 92 #[.slice ha hv.length hc, .string s] w (CkPost B w (lnD (bs s) (s.size + 1) hv 0 0 0 [])) := by
  obtain ⟨i0, hi0, hy0, hy1, hy2⟩ := info_parts Tryz.infoInt
  have HO := hide ho
  have HT := hide htop
  have HB0 : Hid (Below B w w) := Below.refl _ _
  have HX0 : Hid (w.ownsRow B 3 1 (.slice none 0 0) 0 (i64s [])) := ⟨rfl, .inl ⟨rfl, rfl⟩⟩
  have HA0 : Hid (Apart (.slice none 0 0) (.slice ha hv.length hc)) := (apart_nil _).symm
  generalize hrs : lnD (bs s) (s.size + 1) hv 0 0 0 [] = RES
  have HRES := hide hrs
  clear ho htop hrs
  go_enter Tryz.func92, Tryz.ntmps92
  go_wp2_with fail
  go_loopw [0, 7, 8, 9, 10] (fun x0 x7 x8 x9 x10 wr => ∃ (cs : List Nat) (p n m lt : Nat) (xs : List Int) (a1 a2 : Option Addr) (c1 c2 : Nat), p ≤ s.size ∧ n ≤ p ∧ s.size < p + m ∧ cs.length ≤ hv.length + n ∧ xs.length ≤ p ∧ x0 = .slice a1 cs.length c1 ∧ x7 = .slice a2 xs.length c2 ∧ x8 = .bool (lt == 101) ∧ x9 = .int .i64 n ∧ x10 = .int .i64 p ∧ Hid (wr.ownsRow B 3 1 (.slice a1 cs.length c1) cs.length (i64s (natI cs))) ∧ Hid (∀ c ∈ cs, c < 1048576) ∧ Hid (wr.ownsRow B 3 1 (.slice a2 xs.length c2) xs.length (i64s xs)) ∧ Hid (Apart (.slice a2 xs.length c2) (.slice a1 cs.length c1)) ∧ Hid (Below B w wr) ∧ Hid (lnD (bs s) m cs p n lt xs = RES)) (fun _ _ _ _ x10 _ => s.size - (intOf x10).toNat)
  case atStart => exact ⟨hv, 0, 0, s.size + 1, 0, [], ha, none, hc, 0, by omega, by omega, by omega, by omega, by simp, rfl, rfl, rfl, rfl, rfl, HO, HT, HX0, HA0, HB0, HRES⟩
  case round =>
    clear HO HT HB0 HX0 HA0 HRES
    obtain ⟨cs, p, n, m, lt, xs, a1, a2, c1, c2, hp, hn, hm, hcl, hxl, rfl, rfl, rfl, rfl, rfl, HO, HT, HX, HAP, HB, HF⟩ := hrel
    obtain ⟨m, rfl⟩ : ∃ k, m = k + 1 := ⟨m - 1, by omega⟩
    have hf := HF.out
    simp only [lnD, bs_length] at hf
    have hzr : B ≤ wr.heap.size := Nat.le_trans hB HB.out.size
    by_cases hlt : p < s.size
    · rw [if_pos hlt] at hf
      have HLN := hide (lineR_any s p wr hs hlt)
      go_wp2_with fail
      refine (unhide HLN).mono ?_
      rintro e w2 ⟨hb2, hp2⟩
      have hz2 : wr.heap.size ≤ w2.heap.size := hb2.size
      have B2 : Hid (Below B w w2) := HB.out.trans (hb2.mono hzr)
      cases hrl : rdLine (bs s) p with
      | none =>
        rw [hrl] at hp2 hf
        simp only at hp2 hf
        subst hp2
        have HRR := hide hf
        clear hf hb2 HLN
        go_wp2
        go_ret3
        rw [← HRR.out]
        exact ⟨B2.out, none, 0, rfl, rfl, .inl ⟨rfl, rfl⟩⟩
      | some r =>
        obtain ⟨lt', xs', q⟩ := r
        rw [hrl] at hp2 hf
        simp only at hp2 hf
        obtain ⟨a', c', rfl, ho2⟩ := hp2
        obtain ⟨g1, g2, g3⟩ := rdLine_gt hrl
        rw [bs_length] at g2
        have O2 := hide (own_below HO.out hb2)
        have OX2 := hide (own_low ho2 hzr)
        have AP2 : Hid (Apart (.slice a' xs'.length c') (.slice a1 cs.length c1)) := apart_low HO.out ho2
        have HSE := hide (set_any a' c' xs' w2 (by omega) (own_intsAt ho2))
        have hsk := setOk_lt xs'
        have hsd := stepD_len cs lt' xs'
        have HST := hide (stepD_top cs lt' xs' HT.out)
        have HSD : Hid (stepD cs lt' xs' = if lt' = 100 then (if setOk xs' ∈ cs then ((0 : Int), cs.erase (setOk xs')) else (8, cs)) else if clashD cs (oppN (setOk xs')) = false then (7, cs) else if lt' = 97 then (0, cs ++ [setOk xs']) else (0, cs)) := rfl
        have HRR := hide hf
        have k101 : (((lt' : Nat) : Int) == 101) = (lt' == 101) := nat_beq lt' 101
        have k97 : (((lt' : Nat) : Int) == 97) = (lt' == 97) := nat_beq lt' 97
        have k100 : (((lt' : Nat) : Int) == 100) = (lt' == 100) := nat_beq lt' 100
        clear hf hb2 ho2 HLN hrl HO HX HAP HF HB
        have hz2B : B ≤ w2.heap.size := Nat.le_trans hzr hz2
        go_wp2_with fail
        refine (unhide HSE).mono ?_
        rintro e w' ⟨rfl, hw⟩
        obtain rfl := hw.symm
        generalize xs'.all litB = al at *
        generalize setOk xs' = sx at *
        generalize stepD cs lt' xs' = SD at *
        clear HSE
        by_cases h100 : lt' = 100
        · have k1 : (((lt' : Nat) : Int) == 100) = true := by rw [k100]; simpa using h100
          have k2 : (((lt' : Nat) : Int) == 97) = false := by rw [k97]; simp; omega
          have k3 : (((lt' : Nat) : Int) == 101) = false := by rw [k101]; simp; omega
          have HIN := hide (in_any a1 c1 cs sx w2 (own_nat O2.out) (by omega))
          have hsd2 := HSD.out
          rw [if_pos h100] at hsd2
          clear k101 k97 k100 HSD
          go_wp2_with fail
          refine (unhide HIN).mono ?_
          rintro e w' ⟨⟨r, rfl, hr⟩, hw⟩
          obtain rfl := hw.symm
          clear HIN
          rcases hr with ⟨rfl, hnm⟩ | ⟨k, hk, rfl, hk1, hk2⟩
          · rw [if_neg hnm] at hsd2
            subst hsd2
            have HR2 := HRR.out
            rw [if_pos (by simp)] at HR2
            have HR3 := hide HR2
            clear HRR HR2 hnm
            go_wp2
            go_ret3
            rw [← HR3.out]
            exact ⟨B2.out, none, 0, rfl, rfl, .inl ⟨rfl, rfl⟩⟩
          · have hmem : sx ∈ cs := by rw [← hk1]; exact get_mem cs k hk
            have her : woN cs k cs.length = cs.erase sx := by rw [erase_at cs sx k hk hk1 hk2, wo_all cs k hk]
            rw [if_pos hmem] at hsd2
            subst hsd2
            have HR2 := HRR.out
            rw [if_neg (by simp)] at HR2
            simp only at HR2 hsd HST
            have HWO := hide (without_any a1 c1 cs k w2 (own_nat O2.out) (by omega))
            rw [her] at HWO
            generalize cs.erase sx = cs' at *
            have HR3 := hide HR2
            have hkn : ¬ ((k : Int) < 0) := by omega
            clear HRR HR2 hk1 hk2 hmem her
            go_wp2_with fail
            refine (unhide HWO).mono ?_
            rintro e w3 ⟨⟨a3, c3, rfl, ho3⟩, hb3⟩
            have B3 : Hid (Below B w w3) := B2.out.trans (hb3.mono hz2B)
            have OX3 := hide (own_below OX2.out hb3)
            have O3 := hide (own_low ho3 hz2B)
            have AP3 : Hid (Apart (.slice a' xs'.length c') (.slice a3 cs'.length c3)) := (apart_low OX2.out ho3).symm
            clear ho3 hb3 HWO
            go_wp2
            go_roundw
            case rel => exact ⟨cs', q, n + 1, m, lt', xs', a3, a', c3, c', by omega, by omega, by omega, by omega, by omega, rfl, rfl, by simp; omega, by go_num, rfl, O3, HST, OX3, AP3, B3, HR3⟩
            case measure => simp [intOf]; omega
        · have k1 : (((lt' : Nat) : Int) == 100) = false := by rw [k100]; simpa using h100
          have HFO := hide (followsR_any a1 c1 cs sx w2 (own_nat O2.out) (by omega) hsk HT.out)
          have hsd2 := HSD.out
          rw [if_neg h100] at hsd2
          generalize clashD cs (oppN sx) = CD at *
          clear k100 HSD
          go_wp2_with fail
          refine (unhide HFO).mono ?_
          rintro e w3 ⟨rfl, hb3⟩
          have B3 : Hid (Below B w w3) := B2.out.trans (hb3.mono hz2B)
          have OX3 := hide (own_below OX2.out hb3)
          have O3 := hide (own_below O2.out hb3)
          have hz3 : B ≤ w3.heap.size := Nat.le_trans hz2B hb3.size
          clear hb3 HFO
          cases CD with
          | false =>
            rw [if_pos rfl] at hsd2
            subst hsd2
            have HR2 := HRR.out
            rw [if_pos (by simp)] at HR2
            have HR3 := hide HR2
            clear HRR HR2
            go_wp2
            go_ret3
            rw [← HR3.out]
            exact ⟨B3.out, none, 0, rfl, rfl, .inl ⟨rfl, rfl⟩⟩
          | true =>
            rw [if_neg (by decide)] at hsd2
            by_cases h97 : lt' = 97
            · rw [if_pos h97] at hsd2
              subst hsd2
              have HR2 := HRR.out
              rw [if_neg (by simp)] at HR2
              simp only at HR2 hsd HST
              have HR3 := hide HR2
              have k2 : (((lt' : Nat) : Int) == 97) = true := by rw [k97]; simpa using h97
              have k3 : (((lt' : Nat) : Int) == 101) = false := by rw [k101]; simp; omega
              have d1 : Hid (cs.length + 1 ≤ maxLen) := by show _ ≤ _; unfold maxLen; omega
              have d2 : Hid ((cs.length + 1) * 8 ≤ 140737488355328) := by show _ ≤ _; omega
              clear HRR HR2 k101 k97
              go_wp2_with (at_builtin; refine wpList_append_full _ rfl _ _ 24 rfl B 3 i0 (.int .i64 0) 8 Tryz.undInts hi0 hy0 hy1 hy2 rfl (.slice a1 cs.length c1) cs.length (i64s (natI cs)) rfl (O3.out.alloc _) ⟨w3.heap.size, 0, none⟩ 1 1 [.int .i64 (sx : Int)] rfl rfl (new_cells1 w3 [.int .i64 (sx : Int)] 3) (by intro u hu; simp at hu; subst hu; rfl) (by decide) d1.out d2.out (by simp; omega) (w3.heap.size + 1) (by simp) ?_; intro a4 c4 w4 hown4 hg4 hl4)
              have O4 : Hid (w4.ownsRow B 3 1 (.slice a4 (cs.length + 1) c4) (cs.length + 1) (i64s (natI (cs ++ [sx])))) := (show i64s (natI cs) ++ [Value.int .i64 (sx : Int)] = i64s (natI (cs ++ [sx])) by simp [i64s, natI]) ▸ hown4
              have B4 : Hid (Below B w w4) := (B3.out.alloc hz3 _).grown hg4 (by simp; omega) (fun j hj => (O3.out.lt j hj).1)
              have OX4 : Hid (w4.ownsRow B 3 1 (.slice a' xs'.length c') xs'.length (i64s xs')) := own_apart_kept (OX3.out.alloc _) hg4 AP2.out
              have AP4 : Hid (Apart (.slice a' xs'.length c') (.slice a4 (cs.length + 1) c4)) := by
                intro b hb hb4
                rcases hl4 with h | ⟨h, _⟩
                · simp only [Value.slice.injEq] at h
                  obtain ⟨rfl, _, rfl⟩ := h
                  exact AP2.out b hb (by cases a1 with | none => simp [Value.ownBlock] at hb4 | some x => exact hb4)
                · subst h
                  have h5 := (OX3.out.lt b hb).2
                  simp only [Value.ownBlock, Option.some.injEq] at hb4
                  omega
              clear hown4 hg4 hl4
              go_roundw
              case rel => exact ⟨cs ++ [sx], q, n + 1, m, lt', xs', a4, a', c4, c', by omega, by omega, by omega, by simp; omega, by omega, by simp, rfl, by simp; omega, by go_num, rfl, by rw [List.length_append]; exact O4, HST, OX4, by rw [List.length_append]; exact AP4, B4, HR3⟩
              case measure => simp [intOf]; omega
            · rw [if_neg h97] at hsd2
              subst hsd2
              have HR2 := HRR.out
              rw [if_neg (by simp)] at HR2
              simp only at HR2 hsd HST
              have HR3 := hide HR2
              have k2 : (((lt' : Nat) : Int) == 97) = false := by rw [k97]; simpa using h97
              clear HRR HR2 k97
              go_wp2
              go_roundw
              case rel => exact ⟨cs, q, n + 1, m, lt', xs', a1, a', c1, c', by omega, by omega, by omega, by omega, by omega, rfl, rfl, rfl, by go_num, rfl, O3, HST, OX3, AP2, B3, HR3⟩
              case measure => simp [intOf]; omega
    · rw [if_neg hlt] at hf
      by_cases h101 : lt = 101
      · have kb : (lt == 101) = true := by simpa using h101
        rw [if_neg (by simp [h101])] at hf
        have HRR := hide hf
        clear hf h101
        go_wp2
        go_ret3
        rw [← HRR.out]
        exact ⟨HB.out, a2, c2, rfl, HX.out⟩
      · have kb : (lt == 101) = false := by simpa using h101
        rw [if_pos h101] at hf
        have HRR := hide hf
        clear hf h101
        go_wp2
        go_ret3
        rw [← HRR.out]
        exact ⟨HB.out, none, 0, rfl, rfl, .inl ⟨rfl, rfl⟩⟩

end Go.Proofs.YthboeppmlhbofaaGreatDoor

/-
  The document's Check: the walk.
-/
namespace Go.Proofs.YthboeppmlhbofaaGreatDoor
open Go.RowKit Txt
set_option maxRecDepth 100000

theorem takeD_at (cls : List (List Int)) (k : Nat) (hv : List Nat) (lits : Nat) (h : k < cls.length) : takeD (cls.drop k) hv lits k = match takenK (cls.getD k []) lits with
    | .lit => .inl (4, k)
    | .full => .inl (5, k)
    | .taut => takeD (cls.drop (k + 1)) hv lits (k + 1)
    | .takes => takeD (cls.drop (k + 1)) (hv ++ [setN (cls.getD k [])]) (lits + sizeN (setN (cls.getD k []))) (k + 1) := by
  rw [List.drop_eq_getElem_cons h, List.getD_eq_getElem?_getD, List.getElem?_eq_getElem h]
  rfl
theorem taken_takes {xs : List Int} {lits : Nat} (h : takenK xs lits = .takes) : xs.all litB = true ∧ lits + sizeN (setN xs) ≤ 150 := by
  unfold takenK at h
  split at h
  · rename_i ha
    refine ⟨ha, ?_⟩
    split at h
    · simp at h
    · split at h
      · simp at h
      · omega
  · simp at h

set_option maxHeartbeats 4000000 in
theorem checkR_any (a : Option Addr) (c : Nat) (A : Nat → Option Addr) (C : Nat → Nat) (cls : List (List Int)) (s : ByteArray) (w : World) (hr : RowsAt w a A C cls) (hcl : cls.length ≤ 100000000) (hsz : s.size ≤ 4611686018427387904) :
    Calls Tryz.prog 58 #[.slice a cls.length c, .string s] w (CkPost w.heap.size w (checkD cls (bs s))) := by
  by_cases hbig : 4194304 < s.size
  · have HE : Hid (checkD cls (bs s) = ([], 2, 0)) := by show _ = _; unfold checkD; rw [bs_length, if_pos hbig]
    generalize checkD cls (bs s) = R at *
    have hbi : ((s.size : Int) > 4194304) := by omega
    clear hr
    go_enter Tryz.func58, Tryz.ntmps58
    go_wp2
    go_ret3
    rw [HE.out]
    exact ⟨Below.refl _ _, none, 0, rfl, rfl, .inl ⟨rfl, rfl⟩⟩
  · have HE : Hid (checkD cls (bs s) = match takeD cls [] 0 0 with | .inl (e, i) => ([], e, i) | .inr hv => lnD (bs s) (s.size + 1) hv 0 0 0 []) := by show _ = _; unfold checkD; rw [bs_length, if_neg hbig]; rfl
    generalize checkD cls (bs s) = R at *
    have hbi : ¬ ((s.size : Int) > 4194304) := by omega
    obtain ⟨i0, hi0, hy0, hy1, hy2⟩ := info_parts Tryz.infoInt
    have HR := hide hr
    have HB0 : Hid (Below w.heap.size w w) := Below.refl _ _
    have HX0 : Hid (w.ownsRow w.heap.size 3 1 (.slice none 0 0) 0 (i64s (natI []))) := ⟨rfl, .inl ⟨rfl, rfl⟩⟩
    have HT0 : Hid (∀ c ∈ ([] : List Nat), c < 1048576) := fun c h => by simp at h
    generalize htk : takeD cls [] 0 0 = TK at HE
    have HTK := hide htk
    clear hr htk
    go_enter Tryz.func58, Tryz.ntmps58
    go_wp2_with fail
    go_loopw [7, 8, 9] (fun x7 x8 x9 wr => ∃ (k lits : Nat) (hv : List Nat) (a1 : Option Addr) (c1 : Nat), k ≤ cls.length ∧ lits ≤ 150 ∧ hv.length ≤ k ∧ x7 = .slice a1 hv.length c1 ∧ x8 = .int .i64 lits ∧ x9 = .int .i64 k ∧ Hid (wr.ownsRow w.heap.size 3 1 (.slice a1 hv.length c1) hv.length (i64s (natI hv))) ∧ Hid (∀ c ∈ hv, c < 1048576) ∧ Hid (Below w.heap.size w wr) ∧ Hid (takeD (cls.drop k) hv lits k = TK)) (fun _ _ x9 _ => cls.length - (intOf x9).toNat)
    case atStart => exact ⟨0, 0, [], none, 0, Nat.zero_le _, by omega, Nat.le_refl _, rfl, rfl, rfl, HX0, HT0, HB0, HTK⟩
    case round =>
      clear HX0 HT0 HB0 HTK
      obtain ⟨k, lits, hv, a1, c1, hk, hli, hvl, rfl, rfl, rfl, HO, HT, HB, HK⟩ := hrel
      have hzr : w.heap.size ≤ wr.heap.size := HB.out.size
      by_cases hlt : k < cls.length
      · have hkk := HK.out
        rw [takeD_at cls k hv lits hlt] at hkk
        obtain ⟨b, off, rfl, hc⟩ := (rows_below HR.out HB.out).get (by omega)
        obtain ⟨q0, q1, q2⟩ := hc k hlt
        generalize cls.getD k [] = xs at *
        generalize A k = ak at *
        generalize C k = ck at *
        have HTA := hide (taken_any ak ck xs lits wr q2 (by omega) q1)
        have HTT : Hid (takenK xs lits = .takes → xs.all litB = true ∧ lits + sizeN (setN xs) ≤ 150) := fun h => taken_takes h
        have hlx : xs.all litB = true → setN xs < 1048576 := fun h => setN_lt xs h
        have HSL := hide hlx
        have i1 : (0 : Int) ≤ (k : Int) := by omega
        have i2 : (k : Int) < (cls.length : Int) := by omega
        have hmono : Hid (∀ w', Below wr.heap.size wr w' → True) := fun _ _ => trivial
        generalize takenK xs lits = TA at *
        have HKK := hide hkk
        clear hc q1 hkk hlx hmono
        go_wp2_with fail
        refine (unhide HTA).mono ?_
        rintro e w2 ⟨rfl, hw⟩
        obtain rfl := hw.symm
        clear HTA
        cases TA with
        | lit =>
          simp only [Tk.ret]
          have HE2 := HE.out
          have hk2 := HKK.out
          simp only at hk2
          rw [← hk2] at HE2
          simp only at HE2
          have HE3 := hide HE2
          clear HE2 hk2 HKK
          go_wp2
          go_ret3
          rw [HE3.out]
          exact ⟨HB.out, none, 0, rfl, rfl, .inl ⟨rfl, rfl⟩⟩
        | full =>
          simp only [Tk.ret]
          have HE2 := HE.out
          have hk2 := HKK.out
          simp only at hk2
          rw [← hk2] at HE2
          simp only at HE2
          have HE3 := hide HE2
          clear HE2 hk2 HKK
          go_wp2
          go_ret3
          rw [HE3.out]
          exact ⟨HB.out, none, 0, rfl, rfl, .inl ⟨rfl, rfl⟩⟩
        | taut =>
          simp only [Tk.ret]
          have hk2 := HKK.out
          simp only at hk2
          have HK2 := hide hk2
          clear hk2 HKK
          go_wp2
          go_roundw
          case rel => exact ⟨k + 1, lits, hv, a1, c1, by omega, hli, by omega, rfl, rfl, by go_num, HO, HT, HB, HK2⟩
          case measure => simp [intOf]; omega
        | takes =>
          simp only [Tk.ret]
          have hk2 := HKK.out
          simp only at hk2
          have HK2 := hide hk2
          obtain ⟨hal, hl150⟩ := HTT.out rfl
          have hsx := HSL.out hal
          have HSZ : Hid (∀ w, Calls Tryz.prog 34 #[.int .i64 (setN xs : Nat)] w fun e w' => e = .returned (.int .i64 (sizeN (setN xs) : Nat)) ∧ w' = w) := fun w => size_any (setN xs) hsx w
          have HTN : Hid (∀ c ∈ hv ++ [setN xs], c < 1048576) := by
            intro c hc
            rcases List.mem_append.1 hc with hc | hc
            · exact HT.out c hc
            · simp at hc; subst hc; exact hsx
          generalize setN xs = sx at *
          generalize sizeN sx = zx at *
          have d1 : Hid (hv.length + 1 ≤ maxLen) := by show _ ≤ _; unfold maxLen; omega
          have d2 : Hid ((hv.length + 1) * 8 ≤ 140737488355328) := by show _ ≤ _; omega
          clear hk2 HKK HTT HSL hal
          go_wp2_with (first
            | (go_at_call 34; refine (unhide HSZ _).mono ?_; rintro e w' ⟨rfl, hw⟩; obtain rfl := hw.symm)
            | (at_builtin; refine wpList_append_full _ rfl _ _ 24 rfl w.heap.size 3 i0 (.int .i64 0) 8 Tryz.undInts hi0 hy0 hy1 hy2 rfl (.slice a1 hv.length c1) hv.length (i64s (natI hv)) rfl (HO.out.alloc _) ⟨wr.heap.size, 0, none⟩ 1 1 [.int .i64 (sx : Int)] rfl rfl (new_cells1 wr [.int .i64 (sx : Int)] 3) (by intro u hu; simp at hu; subst hu; rfl) (by decide) d1.out d2.out (by simp; omega) (wr.heap.size + 1) (by simp) ?_; intro a4 c4 w4 hown4 hg4 hl4))
          have O4 : Hid (w4.ownsRow w.heap.size 3 1 (.slice a4 (hv.length + 1) c4) (hv.length + 1) (i64s (natI (hv ++ [sx])))) := (show i64s (natI hv) ++ [Value.int .i64 (sx : Int)] = i64s (natI (hv ++ [sx])) by simp [i64s, natI]) ▸ hown4
          have B4 : Hid (Below w.heap.size w w4) := (HB.out.alloc hzr _).grown hg4 (by simp; omega) (fun j hj => (HO.out.lt j hj).1)
          clear hown4 hg4 hl4
          go_roundw
          case rel => exact ⟨k + 1, lits + zx, hv ++ [sx], a4, c4, by omega, by omega, by simp; omega, by simp, by go_num, by go_num, by rw [List.length_append]; exact O4, HTN, B4, HK2⟩
          case measure => simp [intOf]; omega
      · obtain rfl : k = cls.length := by omega
        have hkk := HK.out
        rw [List.drop_length] at hkk
        simp only [takeD] at hkk
        have HE2 := HE.out
        rw [← hkk] at HE2
        simp only at HE2
        have HE3 := hide HE2
        have HL := hide (lines_any w.heap.size a1 c1 hv s wr hzr HO.out HT.out (by omega) (by omega))
        clear hkk HE2 HK
        go_wp2_with fail
        refine (unhide HL).mono ?_
        rintro e w3 ⟨hb3, a3, c3, rfl, ho3⟩
        have B3 : Hid (Below w.heap.size w w3) := HB.out.trans hb3
        have O3 := hide ho3
        clear hb3 ho3 HL
        generalize lnD (bs s) (s.size + 1) hv 0 0 0 [] = CR at *
        go_wp2
        go_ret3
        refine ⟨B3.out, a3, c3, ?_, ?_⟩
        · rw [HE3.out]; rfl
        · rw [HE3.out]; exact O3.out

end Go.Proofs.YthboeppmlhbofaaGreatDoor

/-
  traillaw's checked: the walk.
-/
namespace Go.Proofs.YthboeppmlhbofaaGreatDoor
open Go.RowKit Txt
set_option maxRecDepth 100000

theorem chk_len (l : List UInt8) : ∀ (m : Nat) (ns : List Nd) (p n lt : Nat) (xs : List Int), xs.length ≤ l.length → (chkN l m ns p n lt xs).1.length ≤ l.length := by
  intro m
  induction m with
  | zero => intro ns p n lt xs _; simp [chkN]
  | succ m ih =>
    intro ns p n lt xs hx
    simp only [chkN]
    split
    · cases hr : rdLine l p with
      | none => simp
      | some r =>
        obtain ⟨lt', xs', q⟩ := r
        obtain ⟨h1, h2, h3⟩ := rdLine_gt hr
        simp only
        split
        · simp
        · exact ih _ _ _ _ _ (by omega)
    · split
      · simp
      · exact hx
theorem check_len (cls : List (List Int)) (l : List UInt8) : (checkN cls l).1.length ≤ l.length := by
  unfold checkN
  split
  · simp
  · cases takeN cls [] 0 0 with
    | inl r => simp
    | inr r => exact chk_len l _ _ _ _ _ _ (by simp)
/-- behind checked -/
def CdL (B : Nat) (w : World) (xs : List Int) (e : Ending) (w' : World) : Prop := Below B w w' ∧ ∃ a c, e = .returned (.tuple #[.slice a xs.length c, .bool true]) ∧ w'.ownsRow B 3 1 (.slice a xs.length c) xs.length (i64s xs)
theorem own_block {w w' : World} {B e n : Nat} {v : Value} {xs : List Value} (h : w.ownsRow B e 1 v n xs) (hk : ∀ b, v.ownBlock = some b → w'.heap[b]? = w.heap[b]?) : w'.ownsRow B e 1 v n xs := by
  refine ⟨h.1, ?_⟩
  rcases h.2 with hn | ⟨g, cap, cur, rfl, q1, hg, r⟩
  · exact .inl hn
  · exact .inr ⟨g, cap, cur, rfl, q1, (hk g rfl).trans hg, r⟩

set_option maxHeartbeats 2000000 in
theorem checked_law (a : Option Addr) (c : Nat) (A : Nat → Option Addr) (C : Nat → Nat) (cls : List (List Int)) (s : ByteArray) (w : World) (hbd : cls.length ≤ 100000000) (hs : s.size ≤ 4294967296) (hr : RowsAt w a A C cls) (hlens : Hid (∀ x ∈ cls, x.length ≤ 4294967296)) :
    Calls Tryz.prog 29 #[.slice a cls.length c, .string s] w (CdL w.heap.size w (checkN cls (bs s)).1) := by
  have hsame := check_same cls (bs s)
  have hlen := check_len cls (bs s)
  rw [bs_length] at hlen
  have H0 := hide (spares_any a c A C cls w (by omega) hr hlens)
  have HCK : Hid (∀ (A1 : Nat → Option Addr) (C1 : Nat → Nat) (w1 : World) (a1 : Option Addr) (c1 : Nat), RowsAt w1 a1 A1 C1 cls → Calls Tryz.prog 57 #[.slice a1 cls.length c1, .string s] w1 (CkPost w1.heap.size w1 (checkN cls (bs s)))) := fun A1 C1 w1 a1 c1 h1 => checkT_any a1 c1 A1 C1 cls s w1 h1 (by omega) (by omega)
  have HRK : Hid (∀ (w1 : World), RowsAt w1 a A C cls → Calls Tryz.prog 58 #[.slice a cls.length c, .string s] w1 (CkPost w1.heap.size w1 (checkN cls (bs s)))) := fun w1 h1 => by rw [hsame]; exact checkR_any a c A C cls s w1 h1 hbd (by omega)
  have HR := hide hr
  generalize checkN cls (bs s) = R at *
  obtain ⟨xs, er, ln⟩ := R
  simp only at hlen HCK HRK ⊢
  have hp : ((er : Int) == er) = true := beq_self_eq_true _
  have hq : (((ln : Nat) : Int) == (ln : Int)) = true := beq_self_eq_true _
  clear hr hsame
  go_enter Tryz.func29, Tryz.ntmps29
  go_wp2_with fail
  refine (unhide H0).mono ?_
  rintro e w1 ⟨G, gs, gl, rfl, hsp, hb1⟩
  obtain ⟨A1, C1, hr1⟩ := hsp.rows hlens.out
  have H1 := hide (HCK.out A1 C1 w1 (some ⟨G, 0, none⟩) (cls.length + 1) hr1)
  have hz1 : w.heap.size ≤ w1.heap.size := hb1.size
  clear hr1 H0 HCK
  go_wp2_with fail
  refine (unhide H1).mono ?_
  rintro e w2 ⟨hb2, a2, c2, rfl, ho2⟩
  have hb2' : Below w.heap.size w w2 := hb1.trans (hb2.mono hz1)
  have hgl : ∀ g ∈ gs, g < w1.heap.size := hsp.each.lt
  have H2 := hide (stills_frame w.heap.size G gl gs a c A C cls w w2 (by omega) (hsp.below hb2) rfl hb2' HR.out hlens)
  have O2 := hide ho2
  have GL := hide hgl
  have B2 := hide hb2'
  clear hb1 hb2 hsp H1 ho2 hgl hb2'
  go_wp2_with fail
  refine (unhide H2).mono ?_
  rintro e w3 ⟨⟨rfl, hb3⟩, hz3, hk3⟩
  have O3 : Hid (w3.ownsRow w1.heap.size 3 1 (.slice a2 xs.length c2) xs.length (i64s xs)) := own_block O2.out (fun b hb => hk3 b (fun g hg e => by have h1 := (O2.out.lt b hb).1; have h2 := GL.out g hg; omega) (O2.out.lt b hb).2)
  have B3 := hide hb3
  have H3 := hide (HRK.out w3 (HR.out.below hb3))
  clear hb3 hk3 H2 O2 B2 GL HRK
  go_wp2_with fail
  refine (unhide H3).mono ?_
  rintro e w4 ⟨hb4, a4, c4, rfl, ho4⟩
  have O4 := hide (own_below O3.out hb4)
  have B4 : Hid (Below w.heap.size w w4) := B3.out.trans (hb4.mono B3.out.size)
  have h5 := sameInts_any a2 a4 c2 c4 xs xs w4 (by omega) (own_intsAt O4.out) (own_intsAt ho4)
  rw [show eqB xs xs = true by simp [eqB]] at h5
  have H5 := hide h5
  clear hb4 ho4 h5 H3 O3 B3
  go_wp2_with fail
  refine (unhide H5).mono ?_
  rintro e w5 ⟨rfl, m5, rfl⟩
  go_wp2_with (go_at_call 33; refine (num_any _ _).mono ?_; rintro e w' ⟨rfl, hw⟩; obtain rfl := hw.symm)
  go_ret2
  exact ⟨below_drewN B4.out _, a2, c2, rfl, own_below (own_low O4.out hz1) (below_drew_size _ _)⟩

end Go.Proofs.YthboeppmlhbofaaGreatDoor
