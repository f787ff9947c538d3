/-
  trail's Check: the walk.
-/
import Derived.Test.YthboeppmlhbofaaGreatDoorChk
namespace Go.Proofs.YthboeppmlhbofaaGreatDoor
open Go.RowKit Txt
set_option maxRecDepth 100000

theorem rows_below {w w' : World} {a : Option Addr} {A : Nat → Option Addr} {C : Nat → Nat} {xss : List (List Int)} (h : RowsAt w a A C xss) (hb : Below w.heap.size w w') : RowsAt w' a A C xss :=
  h.kept fun b off _ hv => (hb.cell (p := ⟨b, off, none⟩) (World.block_lt_of_cell? w _ hv)).trans hv
theorem tak_nil : Tak [] := ⟨fun p hp => by simp at hp, Nat.le_refl _, by decide⟩
theorem takeN_at (cls : List (List Int)) (k : Nat) (ss : List Pr) (em : Nat) (h : k < cls.length) : takeN (cls.drop k) ss em k = match addR (cls.getD k []) ss em with | .err e => .inl (e, k) | .ok ss' em' => takeN (cls.drop (k + 1)) ss' em' (k + 1) := by
  rw [List.drop_eq_getElem_cons h, List.getD_eq_getElem?_getD, List.getElem?_eq_getElem h]
  rfl

theorem addR_err {xs : List Int} {ss : List Pr} {em : Nat} {e : Int} (h : addR xs ss em = .err e) : e ≠ 0 := by
  unfold addR at h
  split at h
  · simp only [AR.err.injEq] at h; omega
  · split at h
    · simp at h
    · split at h
      · simp at h
      · split at h
        · simp only [AR.err.injEq] at h; omega
        · simp at h

set_option maxHeartbeats 4000000 in
theorem checkT_any (a : Option Addr) (c : Nat) (A : Nat → Option Addr) (C : Nat → Nat) (cls : List (List Int)) (s : ByteArray) (w : World) (hr : RowsAt w a A C cls) (hcl : cls.length ≤ 9223372036850000000) (hsz : s.size ≤ 4611686018427387904) :
    Calls Tryz.prog 57 #[.slice a cls.length c, .string s] w (CkPost w.heap.size w (checkN cls (bs s))) := by
  by_cases hbig : 4194304 < s.size
  · have HE : Hid (checkN cls (bs s) = ([], 2, 0)) := by show _ = _; unfold checkN; rw [bs_length, if_pos hbig]
    generalize checkN cls (bs s) = R at *
    have hbi : ((s.size : Int) > 4194304) := by omega
    clear hr
    go_enter Tryz.func57, Tryz.ntmps57
    go_wp2
    go_ret3
    rw [HE.out]
    exact ⟨Below.refl _ _, none, 0, rfl, rfl, .inl ⟨rfl, rfl⟩⟩
  · have HE : Hid (checkN cls (bs s) = match takeN cls [] 0 0 with | .inl (e, i) => ([], e, i) | .inr (ss, em) => chkN (bs s) (s.size + 1) (standN ss em) 0 0 0 []) := by show _ = _; unfold checkN; rw [bs_length, if_neg hbig]; rfl
    generalize checkN cls (bs s) = R at *
    have hbi : ¬ ((s.size : Int) > 4194304) := by omega
    have hb1 : Below w.heap.size w (w.alloc (.cells (solCells 0 0 0 none 0 0 0 0).toArray 107)) := (Below.refl _ _).alloc (Nat.le_refl _) _
    have S1 : Hid (SvI (w.alloc (.cells (solCells 0 0 0 none 0 0 0 0).toArray 107)) w.heap.size w.heap.size [] 0 none 0 0) := ⟨heap_alloc_new w _, ⟨rfl, .inl ⟨rfl, rfl⟩⟩, by decide, Nat.le_refl _⟩
    have HB1 := hide hb1
    have HR := hide hr
    generalize htk : takeN cls [] 0 0 = TK at HE
    have HTK := hide htk
    clear hr hb1 htk
    simp only [solCells] at S1 HB1
    go_enter Tryz.func57, Tryz.ntmps57
    go_wp2_with fail
    go_loopw [17] (fun i wr => ∃ (k : Nat) (ss : List Pr) (em : Nat) (ta : Option Addr) (tc se : Nat), k ≤ cls.length ∧ em ≤ k ∧ i = .int .i64 k ∧ Hid (SvI wr w.heap.size w.heap.size ss em ta tc se) ∧ Hid (Tak ss) ∧ Hid (Below w.heap.size w wr) ∧ Hid (takeN (cls.drop k) ss em k = TK)) (fun i _ => cls.length - (intOf i).toNat)
    case atStart => exact ⟨0, [], 0, none, 0, 0, Nat.zero_le _, Nat.le_refl _, rfl, S1, tak_nil, HB1, HTK⟩
    case round =>
      clear S1 HB1 HTK
      obtain ⟨k, ss, em, ta, tc, se, hk, hem, rfl, S, HT, HB, HK⟩ := hrel
      have hzr : w.heap.size ≤ wr.heap.size := HB.out.size
      by_cases hlt : k < cls.length
      · have hkk := HK.out
        rw [takeN_at cls k ss em hlt] at hkk
        obtain ⟨b, off, rfl, hc⟩ := (rows_below HR.out HB.out).get (by omega)
        obtain ⟨q0, q1, q2⟩ := hc k hlt
        generalize cls.getD k [] = xs at *
        generalize A k = ak at *
        generalize C k = ck at *
        have HA := hide (addS_any wr w.heap.size w.heap.size ss em ta tc se S.out HT.out ak ck xs q2 q1 hzr (by omega))
        have HTN : Hid (∀ ss' em', addR xs ss em = .ok ss' em' → Tak ss' ∧ em' ≤ em + 1) := fun ss' em' h => addR_tak HT.out h
        have HNE : Hid (∀ e, addR xs ss em = .err e → e ≠ 0) := fun e h => addR_err h
        have HKK := hide hkk
        have i1 : (0 : Int) ≤ (k : Int) := by omega
        have i2 : (k : Int) < (cls.length : Int) := by omega
        generalize addR xs ss em = AA at *
        clear hc q1 hkk
        go_wp2_with fail
        refine (unhide HA).mono ?_
        rintro e w2 ⟨hb2, hp2⟩
        have B2 : Hid (Below w.heap.size w w2) := HB.out.trans hb2
        cases AA with
        | err er =>
          simp only at hp2
          subst hp2
          have hk2 := HKK.out
          simp only at hk2
          have HE2 := HE.out
          rw [← hk2] at HE2
          simp only at HE2
          have HE3 := hide HE2
          clear hb2 HA HE2 hk2 HKK
          have heri : (er != 0) = true := by simp; exact HNE.out er rfl
          go_wp2
          go_ret3
          rw [HE3.out]
          exact ⟨B2.out, none, 0, rfl, rfl, .inl ⟨rfl, rfl⟩⟩
        | ok ss' em' =>
          simp only at hp2
          obtain ⟨rfl, ta', tc', se', hs2⟩ := hp2
          obtain ⟨t1, t2⟩ := HTN.out ss' em' rfl
          have S2 := hide hs2
          have T2 := hide t1
          have hk2 := HKK.out
          simp only at hk2
          have HK2 := hide hk2
          clear hb2 HA hs2 t1 hk2 HKK HTN
          go_wp2
          go_roundw
          case rel => exact ⟨k + 1, ss', em', ta', tc', se', by omega, by omega, by go_num, S2, T2, B2, HK2⟩
          case measure => simp [intOf]; omega
      · obtain rfl : k = cls.length := by omega
        have hkk := HK.out
        rw [List.drop_length] at hkk
        simp only [takeN] at hkk
        have HE2 := HE.out
        rw [← hkk] at HE2
        simp only at HE2
        have HE3 := hide HE2
        have h1 := HT.out.one
        have h2 := HT.out.all
        obtain ⟨w1', w2', w3', w4'⟩ := stand_wf ss em
        have W1 := hide w1'
        have W3 := hide w3'
        have HS := hide (standing_any wr w.heap.size w.heap.size ss em ta tc se S.out HT.out hzr (by omega))
        clear hkk HE2 HK w1' w3'
        go_wp2_with fail
        refine (unhide HS).mono ?_
        rintro e w2 ⟨cb, na, nc, rfl, t2, hb2⟩
        have B2 : Hid (Below w.heap.size w w2) := HB.out.trans hb2
        have HC := hide (check_anyP w2 w.heap.size cb na nc (standN ss em) t2 W1.out (em + ss.length) W3.out s (by omega) (Nat.le_trans hzr hb2.size) (by omega) (by omega))
        clear t2 hb2 HS
        go_wp2_with fail
        refine (unhide HC).mono ?_
        rintro e w3 ⟨hb3, a3, c3, rfl, ho3⟩
        have B3 : Hid (Below w.heap.size w w3) := B2.out.trans hb3
        have O3 := hide ho3
        clear hb3 ho3 HC
        generalize chkN (bs s) (s.size + 1) (standN ss em) 0 0 0 [] = CR at *
        go_wp2
        go_ret3
        refine ⟨B3.out, a3, c3, ?_, ?_⟩
        · rw [HE3.out]; rfl
        · rw [HE3.out]; exact O3.out

end Go.Proofs.YthboeppmlhbofaaGreatDoor
