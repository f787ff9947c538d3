/-
  traillaw's pick, read and wrote: the walks.
-/
import Derived.Test.YthboeppmlhbofaaGreatDoorSps
namespace Go.Proofs.YthboeppmlhbofaaGreatDoor
open Go.RowKit Txt
set_option maxRecDepth 100000

theorem own_below {w w' : World} {base e s : Nat} {v : Value} {n : Nat} {xs : List Value} (h : w.ownsRow base e s v n xs) (hb : Below w.heap.size w w') : w'.ownsRow base e s v n xs := by
  refine ⟨h.1, ?_⟩
  rcases h.2 with hn | ⟨g, cap, cur, hv, h1, hg, r⟩
  · exact .inl hn
  · exact .inr ⟨g, cap, cur, hv, h1, (hb.block g (Array.getElem?_eq_some_iff.1 hg).1).trans hg, r⟩
theorem Lists.below {w w' : World} {base tl ti : Nat} {v : Value} {vs : List Value} {cs : List (List Int)} (h : Lists w base tl ti v vs cs) (hb : Below w.heap.size w w') : Lists w' base tl ti v vs cs :=
  ⟨own_below h.top hb, h.each.map (fun _ _ _ _ hh => own_below hh hb), h.apart⟩
theorem row_below {w w' : World} {g : Nat} {e : TypeId} {zs : List Value} (h : Row w g e zs) (hb : Below w.heap.size w w') : Row w' g e zs := (hb.block g h.lt).trans h
theorem Sp.below {w w' : World} {B G gl : Nat} {gs : List Nat} {xss : List (List Int)} (h : Sp w B G gs gl xss) (hb : Below w.heap.size w w') : Sp w' B G gs gl xss :=
  ⟨row_below h.top hb, h.each.map (fun g hg => hb.block g (h.each.lt g hg)), row_below h.last hb, h.nodup, h.out, h.base⟩
theorem below_drew_size (w : World) (m : Nat) : Below w.heap.size w (w.drewN m) := below_drewN (Below.refl _ _) m

/-- which of n things a raw number speaks of -/
def pickN (c : Int) (n : Nat) : Nat := ((if c < 0 then -(c + 1) else c) % (n : Int)).toNat
theorem pickN_lt (c : Int) (n : Nat) (h : 0 < n) : pickN c n < n := by
  unfold pickN
  have h1 := Int.emod_lt_of_pos (if c < 0 then -(c + 1) else c) (show (0 : Int) < n by omega)
  have h2 := Int.emod_nonneg (if c < 0 then -(c + 1) else c) (show (n : Int) ≠ 0 by omega)
  omega
set_option maxHeartbeats 400000 in
theorem pick_any (c : Int) (n : Nat) (w : World) (h0 : 0 < n) (hn : n ≤ 4294967296) (h1 : -9223372036854775808 ≤ c) (h2 : c ≤ 9223372036854775807) :
    Calls Tryz.prog 16 #[.int .i64 c, .int .i64 n] w fun e w' => e = .returned (.int .i64 (pickN c n : Nat)) ∧ w' = w := by
  by_cases hc : c < 0
  · have e : Hid (((pickN c n : Nat) : Int) = -(c + 1) % (n : Int)) := by
      show _ = _
      unfold pickN
      rw [if_pos hc]
      have h2 := Int.emod_nonneg (-(c + 1)) (show (n : Int) ≠ 0 by omega)
      omega
    go_enter Tryz.func16, Tryz.ntmps16
    go_wp2
    go_ret
    refine ⟨ret_int ?_, rfl⟩
    rw [e.out]
    exact (Int.neg_tmod (c + 1) (n : Int)).symm.trans (Int.tmod_eq_emod_of_nonneg (by omega))
  · have e : Hid (((pickN c n : Nat) : Int) = c % (n : Int)) := by
      show _ = _
      unfold pickN
      rw [if_neg hc]
      have h2 := Int.emod_nonneg c (show (n : Int) ≠ 0 by omega)
      omega
    go_enter Tryz.func16, Tryz.ntmps16
    go_wp2
    go_ret
    exact ⟨ret_int (by rw [e.out] <;> go_num), rfl⟩

/-- what read hands back -/
def RdL (B : Nat) (w : World) (r : Res) (e : Ending) (w' : World) : Prop :=
  Below B w w' ∧ match r with
  | .err _ _ => e = .returned (.tuple #[.slice none 0 0, .bool true])
  | .ok cl => ∃ a c vs, e = .returned (.tuple #[.slice a cl.length c, .bool true]) ∧ Lists w' B 24 3 (.slice a cl.length c) vs cl

theorem rd_lens (L : Nat) : ∀ (f : Nat) (cl : List (List Int)) (op : List Int) (l : List UInt8) (r : List (List Int)), rd L f cl op l = .ok r → (∀ x ∈ cl, x.length ≤ L) → cl.length + op.length + l.length ≤ L → r.length ≤ L ∧ ∀ x ∈ r, x.length ≤ L := by
  intro f
  induction f with
  | zero =>
    intro cl op l r h _ _
    simp only [rd, Res.ok.injEq] at h
    subst h
    simp
  | succ f ih =>
    intro cl op l r h hcl hlen
    by_cases hl : l = []
    · subst hl
      rw [rd_nil] at h
      split at h
      · simp only [Res.ok.injEq] at h
        subst h
        exact ⟨by simp at hlen; omega, hcl⟩
      · cases h
    · rw [rd_word hl] at h
      split at h
      · cases h
      · have hz : (numOf (l.take (wlen l))).2 = 0 := Decidable.not_not.1 ‹_›
        have hw : 1 ≤ wlen l := by
          rcases Nat.eq_zero_or_pos (wlen l) with h0 | h0
          · rw [h0, List.take_zero] at hz; exact absurd hz (by decide)
          · exact h0
        have hw2 := wlen_le l
        have hd : ((l.drop (wlen l)).drop (sk .mid (l.drop (wlen l)))).length + 1 ≤ l.length := by
          simp only [List.length_drop]
          omega
        split at h
        · refine ih _ _ _ r h (fun x hx => ?_) (by simp only [List.length_append, List.length_cons, List.length_nil]; omega)
          rcases List.mem_append.1 hx with hx | hx
          · exact hcl x hx
          · simp at hx; subst hx; omega
        · exact ih _ _ _ r h hcl (by simp only [List.length_append, List.length_cons, List.length_nil]; omega)
theorem rdAll_lens (l : List UInt8) (r : List (List Int)) (h : rdAll l = .ok r) : r.length ≤ 1000 ∧ ∀ x ∈ r, x.length ≤ 1000 := by
  unfold rdAll at h
  split at h
  · cases h
  · have hs := sk_le .bol l
    obtain ⟨h1, h2⟩ := rd_lens l.length _ [] [] _ r h (by simp) (by simp)
    exact ⟨by omega, fun x hx => Nat.le_trans (h2 x hx) (by omega)⟩

set_option maxHeartbeats 1000000 in
theorem read_law (s : ByteArray) (w : World) (hs : s.size ≤ 9223372036854775807) :
    Calls Tryz.prog 27 #[.string s] w fun e w' => RdL w.heap.size w (rdAll (bs s)) e w' := by
  have h1 := fun w => read_any s w hs
  have h2 := fun w => readR_any s w hs
  have hlens := rdAll_lens (bs s)
  cases hr : rdAll (bs s) with
  | err x p =>
    rw [hr] at h1 h2
    have H1 := hide h1
    have H2 := hide h2
    clear h1 h2 hr hlens
    have h3 := fun w => sameListsL_any none none 0 0 (fun _ => none) (fun _ => none) (fun _ => 0) (fun _ => 0) [] [] w (by simp) (.inl rfl) (.inl rfl)
    simp only [List.length_nil, show eqB ([] : List (List Int)) [] = true by decide] at h3
    have H3 := hide h3
    clear h3
    have hp : ((x : Int) == x) = true := beq_self_eq_true _
    have hq : (((p : Nat) : Int) == (p : Int)) = true := beq_self_eq_true _
    go_enter Tryz.func27, Tryz.ntmps27
    go_wp2_with fail
    refine (unhide H1 _).mono ?_
    rintro e w1 ⟨hb1, rfl⟩
    go_wp2_with fail
    refine (unhide H2 _).mono ?_
    rintro e w2 ⟨hb2, rfl⟩
    go_wp2_with fail
    refine (unhide H3 _).mono ?_
    rintro e w3 ⟨rfl, m3, rfl⟩
    go_wp2_with (go_at_call 33; refine (num_any _ _).mono ?_; rintro e w' ⟨rfl, hw⟩; obtain rfl := hw.symm)
    go_ret2
    exact ⟨below_drewN (hb1.trans (hb2.mono hb1.size)) _, rfl⟩
  | ok cl =>
    obtain ⟨hl1, hl2⟩ := hlens cl hr
    rw [hr] at h1 h2
    have H1 := hide h1
    have H2 := hide h2
    clear h1 h2 hr hlens
    go_enter Tryz.func27, Tryz.ntmps27
    go_wp2_with fail
    refine (unhide H1 _).mono ?_
    rintro e w1 ⟨hb1, a1, c1, vs1, rfl, hL1⟩
    go_wp2_with fail
    refine (unhide H2 _).mono ?_
    rintro e w2 ⟨hb2, a2, c2, vs2, rfl, hL2⟩
    obtain ⟨A2, C2, hr2⟩ := hL2.rowsAt (fun x hx => Nat.le_trans (hl2 x hx) (by decide))
    have hL1' := hL1.below hb2
    obtain ⟨A1, C1, hr1⟩ := hL1'.rowsAt (fun x hx => Nat.le_trans (hl2 x hx) (by decide))
    have h3 := sameListsL_any a1 a2 c1 c2 A1 A2 C1 C2 cl cl w2 (by omega) hr1 hr2
    rw [show eqB cl cl = true by simp [eqB]] at h3
    have H3 := hide h3
    have hb : Below w.heap.size w w2 := hb1.trans (hb2.mono hb1.size)
    have HL := hide hL1'
    clear h3 hr1 hr2 hL1 hL2 hL1' hb1 hb2
    go_wp2_with fail
    refine (unhide H3).mono ?_
    rintro e w3 ⟨rfl, m3, rfl⟩
    go_wp2_with (go_at_call 33; refine (num_any _ _).mono ?_; rintro e w' ⟨rfl, hw⟩; obtain rfl := hw.symm)
    go_ret2
    exact ⟨below_drewN hb _, a1, c1, vs1, rfl, HL.out.below (below_drew_size _ _)⟩

set_option maxHeartbeats 1000000 in
theorem wrote_law (a : Option Addr) (c : Nat) (A : Nat → Option Addr) (C : Nat → Nat) (xss : List (List Int)) (w : World) (h0 : 0 < w.heap.size) (htab : Hid (Tab w)) (hbd : xss.length ≤ 4294967296) (hr : RowsAt w a A C xss) (hlens : Hid (∀ x ∈ xss, x.length ≤ 4294967296)) :
    Calls Tryz.prog 28 #[.slice a xss.length c] w fun e w' => e = .returned (.tuple #[.string ⟨(wrT xss).toArray⟩, .bool true]) ∧ Below w.heap.size w w' := by
  have hE : (wrE xss == wrE xss) = true := beq_self_eq_true _
  have hT : ((⟨(wrT xss).toArray⟩ : ByteArray).toList == (⟨(wrT xss).toArray⟩ : ByteArray).toList) = true := beq_self_eq_true _
  have H0 := hide (spares_any a c A C xss w hbd hr hlens)
  go_enter Tryz.func28, Tryz.ntmps28
  go_wp2_with fail
  refine (unhide H0).mono ?_
  rintro e w1 ⟨G, gs, gl, rfl, hsp, hb1⟩
  obtain ⟨A1, C1, hr1⟩ := hsp.rows hlens.out
  have H1 := hide (write_any (some ⟨G, 0, none⟩) (xss.length + 1) A1 C1 xss w1 (Nat.lt_of_lt_of_le h0 hb1.size) (Tab.below htab.out hb1 h0) (by omega) hr1)
  clear hr1
  go_wp2_with fail
  refine (unhide H1).mono ?_
  rintro e w2 ⟨rfl, hb2⟩
  have hb2' : Below w.heap.size w w2 := hb1.trans (hb2.mono hb1.size)
  have H2 := hide (stills_any w.heap.size G gl gs a c A C xss w w2 hbd (hsp.below hb2) rfl hb2' hr hlens)
  clear hb1 hb2 hsp H1 H0
  go_wp2_with fail
  refine (unhide H2).mono ?_
  rintro e w3 ⟨rfl, hb3⟩
  have H3 := hide (writeR_any a c A C xss w3 (by omega) (hr.below hb3))
  clear H2 hb2'
  go_wp2_with fail
  refine (unhide H3).mono ?_
  rintro e w4 ⟨rfl, hb4⟩
  have hb4' : Below w.heap.size w w4 := hb3.trans (hb4.mono hb3.size)
  clear hb3 hb4 H3
  go_wp2_with (go_at_call 33; refine (num_any _ _).mono ?_; rintro e w' ⟨rfl, hw⟩; obtain rfl := hw.symm)
  go_ret2
  exact ⟨rfl, hb4'⟩

end Go.Proofs.YthboeppmlhbofaaGreatDoor
