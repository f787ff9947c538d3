/-
  traillaw's pick, read and wrote: the walks.
-/
import Derived.Test.YthboeppmlhbofaaSps
namespace Go.Proofs.Ythboeppmlhbofaa
open Go.RowKit Txt
set_option maxRecDepth 100000

theorem own_below {w w' : World} {base e s : Nat} {v : Value} {n : Nat} {xs : List Value} (h : w.ownsRow base e s v n xs) (hb : Below w.heap.size w w') : w'.ownsRow base e s v n xs := by
  refine ⟨h.1, ?_⟩
  rcases h.2 with hn | ⟨g, cap, cur, hv, h1, hg, r⟩
  · exact .inl hn
  · exact .inr ⟨g, cap, cur, hv, h1, (hb.block g (Array.getElem?_eq_some_iff.1 hg).1).trans hg, r⟩
theorem Lists.below {w w' : World} {base tl ti : Nat} {v : Value} {vs : List Value} {cs : List (List Int)} (h : Lists w base tl ti v vs cs) (hb : Below w.heap.size w w') : Lists w' base tl ti v vs cs :=
  ⟨own_below h.top hb, h.each.map (fun _ _ _ _ hh => own_below hh hb), h.apart⟩
theorem row_below {w w' : World} {g : Nat} {e : TypeId} {zs : List Value} (h : Row w g e zs) (hb : Below w.heap.size w w') : Row w' g e zs := (hb.block g h.lt).trans h
theorem Sp.below {w w' : World} {B G gl : Nat} {gs : List Nat} {xss : List (List Int)} (h : Sp w B G gs gl xss) (hb : Below w.heap.size w w') : Sp w' B G gs gl xss :=
  ⟨row_below h.top hb, h.each.map (fun g hg => hb.block g (h.each.lt g hg)), row_below h.last hb, h.nodup, h.out, h.base⟩
theorem below_drew_size (w : World) (m : Nat) : Below w.heap.size w (w.drewN m) := below_drewN (Below.refl _ _) m

/-- which of n things a raw number speaks of -/
def pickN (c : Int) (n : Nat) : Nat := ((if c < 0 then -(c + 1) else c) % (n : Int)).toNat
theorem pickN_lt (c : Int) (n : Nat) (h : 0 < n) : pickN c n < n := by
  unfold pickN
  have h1 := Int.emod_lt_of_pos (if c < 0 then -(c + 1) else c) (show (0 : Int) < n by omega)
  have h2 := Int.emod_nonneg (if c < 0 then -(c + 1) else c) (show (n : Int) ≠ 0 by omega)
  omega
/-- what read hands back -/
def RdL (B : Nat) (w : World) (r : Res) (e : Ending) (w' : World) : Prop :=
  Below B w w' ∧ match r with
  | .err _ _ => e = .returned (.tuple #[.slice none 0 0, .bool true])
  | .ok cl => ∃ a c vs, e = .returned (.tuple #[.slice a cl.length c, .bool true]) ∧ Lists w' B 24 3 (.slice a cl.length c) vs cl

theorem rd_lens (L : Nat) : ∀ (f : Nat) (cl : List (List Int)) (op : List Int) (l : List UInt8) (r : List (List Int)), rd L f cl op l = .ok r → (∀ x ∈ cl, x.length ≤ L) → cl.length + op.length + l.length ≤ L → r.length ≤ L ∧ ∀ x ∈ r, x.length ≤ L := by
  intro f
  induction f with
  | zero =>
    intro cl op l r h _ _
    simp only [rd, Res.ok.injEq] at h
    subst h
    simp
  | succ f ih =>
    intro cl op l r h hcl hlen
    by_cases hl : l = []
    · subst hl
      rw [rd_nil] at h
      split at h
      · simp only [Res.ok.injEq] at h
        subst h
        exact ⟨by simp at hlen; omega, hcl⟩
      · cases h
    · rw [rd_word hl] at h
      split at h
      · cases h
      · have hz : (numOf (l.take (wlen l))).2 = 0 := Decidable.not_not.1 ‹_›
        have hw : 1 ≤ wlen l := by
          rcases Nat.eq_zero_or_pos (wlen l) with h0 | h0
          · rw [h0, List.take_zero] at hz; exact absurd hz (by decide)
          · exact h0
        have hw2 := wlen_le l
        have hd : ((l.drop (wlen l)).drop (sk .mid (l.drop (wlen l)))).length + 1 ≤ l.length := by
          simp only [List.length_drop]
          omega
        split at h
        · refine ih _ _ _ r h (fun x hx => ?_) (by simp only [List.length_append, List.length_cons, List.length_nil]; omega)
          rcases List.mem_append.1 hx with hx | hx
          · exact hcl x hx
          · simp at hx; subst hx; omega
        · exact ih _ _ _ r h hcl (by simp only [List.length_append, List.length_cons, List.length_nil]; omega)
theorem rdAll_lens (l : List UInt8) (r : List (List Int)) (h : rdAll l = .ok r) : r.length ≤ 1000 ∧ ∀ x ∈ r, x.length ≤ 1000 := by
  unfold rdAll at h
  split at h
  · cases h
  · have hs := sk_le .bol l
    obtain ⟨h1, h2⟩ := rd_lens l.length _ [] [] _ r h (by simp) (by simp)
    exact ⟨by omega, fun x hx => Nat.le_trans (h2 x hx) (by omega)⟩

end Go.Proofs.Ythboeppmlhbofaa
