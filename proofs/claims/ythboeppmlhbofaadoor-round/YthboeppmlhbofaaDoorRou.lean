/-
  trailkeep.Round: the walk.
-/
import Derived.Test.YthboeppmlhbofaaDoorRnd
import Derived.Test.YthboeppmlhbofaaDoorRdr
import Derived.Test.YthboeppmlhbofaaDoorSam
namespace Go.Proofs.YthboeppmlhbofaaDoor
open Go.RowKit Txt
set_option maxRecDepth 100000

theorem bs_arr (l : List UInt8) : bs ⟨l.toArray⟩ = l := by simp [bs]
theorem eqB_refl {α : Type} [DecidableEq α] (a : α) : eqB a a = true := by simp [eqB]
theorem one_text : wrT [[1, -10]] = [49, 32, 45, 49, 48, 32, 48, 10] := by decide +kernel
theorem one_err : wrE [[1, -10]] = 0 := by decide +kernel
theorem lens_of_text (xss : List (List Int)) (h : wrE xss = 0) : ∀ c ∈ xss, c.length ≤ 9223372036854775807 := by
  have hl : litsB xss = true := by cases hh : litsB xss with | true => rfl | false => simp [wrE, hh] at h
  have hs : ¬ 1000 < (textT xss).length := by intro hc; simp [wrE, hl, hc] at h
  have hw := wordsN_le xss hl
  intro c hc
  have : c.length ≤ wordsN xss := by
    clear h hl hs hw
    induction xss with
    | nil => simp at hc
    | cons x r ih =>
      simp only [wordsN]
      rcases List.mem_cons.1 hc with rfl | hc
      · omega
      · have := ih hc; omega
  omega
theorem wrT_le (xss : List (List Int)) : (wrT xss).length ≤ 1000 := by
  unfold wrT
  split
  · split
    · simp
    · omega
  · simp

theorem bs_cmt (t : List UInt8) : bs ((⟨#[99, 49, 10]⟩ : ByteArray) ++ ⟨t.toArray⟩ ++ ⟨#[99]⟩) = [99, 49, 10] ++ t ++ [99] := by
  unfold bs
  simp
theorem size_cmt (t : List UInt8) : ((⟨#[99, 49, 10]⟩ : ByteArray) ++ ⟨t.toArray⟩ ++ ⟨#[99]⟩).size = t.length + 4 := by
  rw [← bs_length, bs_cmt]; simp
/-- the two blocks of the first call's argument -/
theorem one_rows (w : World) : RowsAt ((w.alloc (.cells #[.int .i64 1, .int .i64 (-10)] 3)).alloc (.cells #[.slice (some ⟨w.heap.size, 0, none⟩) 2 2] 26)) (some ⟨w.heap.size + 1, 0, none⟩) (fun _ => some ⟨w.heap.size, 0, none⟩) (fun _ => 2) [[1, -10]] := by
  refine .inr ⟨w.heap.size + 1, 0, rfl, fun r hr => ?_⟩
  obtain rfl : r = 0 := by simp at hr; omega
  refine ⟨?_, .inr ⟨w.heap.size, 0, rfl, fun j hj => ?_⟩, by decide⟩
  · simp
  · have hold : ∀ o, (((w.alloc (.cells #[.int .i64 1, .int .i64 (-10)] 3)).alloc o).cell? ⟨w.heap.size, 0 + j, none⟩) = (w.alloc (.cells #[.int .i64 1, .int .i64 (-10)] 3)).cell? ⟨w.heap.size, 0 + j, none⟩ := fun o =>
      World.cell?_of_block (w := w.alloc (.cells #[.int .i64 1, .int .i64 (-10)] 3)) (heap_alloc_old _ o (by simp))
    rw [hold]
    match j, hj with
    | 0, _ => simp
    | 1, _ => simp

set_option maxHeartbeats 2000000 in
theorem round_any (a : Option Addr) (c : Nat) (A : Nat → Option Addr) (C : Nat → Nat) (xss : List (List Int)) (w : World) (h0 : 0 < w.heap.size) (htab : Hid (Tab w)) (hbd : xss.length ≤ 9223372036854775807) (hr : RowsAt w a A C xss) :
    Calls Tryd.prog 3 #[.slice a xss.length c] w fun e w' => e = .returned (.bool true) ∧ Below w.heap.size w w' := by
  have hone := one_rows w
  have htab1 : Hid (Tab ((w.alloc (.cells #[.int .i64 1, .int .i64 (-10)] 3)).alloc (.cells #[.slice (some ⟨w.heap.size, 0, none⟩) 2 2] 26))) :=
    Tab.below htab.out (((Below.refl _ w).alloc (Nat.le_refl _) _).alloc (by simp) _) h0
  have hcall := write_any (some ⟨w.heap.size + 1, 0, none⟩) 1 (fun _ => some ⟨w.heap.size, 0, none⟩) (fun _ => 2) [[1, -10]] _ (by simp) htab1 (by simp) hone
  rw [one_text, one_err] at hcall
  simp only [List.length_cons, List.length_nil, Nat.zero_add] at hcall
  have HC := hide hcall
  clear hcall hone htab1
  have hW : ∀ w1, Below w.heap.size w w1 → Calls Tryd.prog 7 #[.slice a xss.length c] w1 fun e w' => e = .returned (.tuple #[.string ⟨(wrT xss).toArray⟩, .int .i64 (wrE xss)]) ∧ Below w1.heap.size w1 w' :=
    fun w1 hb => write_any a c A C xss w1 (Nat.lt_of_lt_of_le h0 hb.size) (Tab.below htab.out hb h0) hbd (hr.below hb)
  have hE0 : Hid (wrE xss ≠ 0 → wrT xss = []) := by
    show _ → _
    intro h
    unfold wrE at h; unfold wrT
    split
    · rename_i h1; rw [if_pos h1] at h; split
      · rfl
      · rename_i h2; rw [if_neg h2] at h; exact absurd rfl h
    · rfl
  by_cases hE : wrE xss = 0
  · have hR1 := round_plain xss hE
    have hR2 := round_comments xss hE
    have hlen := lens_of_text xss hE
    have hle := wrT_le xss
    rw [hE] at hW
    generalize wrT xss = t at hW hR1 hR2 hle
    have HW := hide hW
    have HR2 := hide hR2
    have HL := hide hlen
    have hcr := fun w1 => read_any ⟨t.toArray⟩ w1 (by rw [size_arr]; omega)
    rw [bs_arr, hR1] at hcr
    have HCR := hide hcr
    clear hE hW hR1 hR2 hlen hE0 hcr
    go_enter Tryd.func3, Tryd.ntmps3
    go_wp2_with fail
    refine (unhide HC).mono ?_
    rintro e w1 ⟨rfl, hb1⟩
    have hb1' : Below w.heap.size w w1 := (((Below.refl _ w).alloc (Nat.le_refl _) _).alloc (by simp) _).trans (hb1.mono (by simp; omega))
    clear hb1 HC
    go_wp2_with fail
    refine (unhide HW w1 hb1').mono ?_
    rintro e w2 ⟨rfl, hb2⟩
    have hb2' : Below w.heap.size w w2 := hb1'.trans (hb2.mono hb1'.size)
    clear hb2 HW hb1'
    go_wp2_with fail
    refine (unhide HCR w2).mono ?_
    rintro e w3 ⟨hb3, a3, c3, vs3, rfl, hL3⟩
    have hb3' : Below w.heap.size w w3 := hb2'.trans (hb3.mono hb2'.size)
    clear hb3 hb2' HCR
    obtain ⟨A3, C3, hr3⟩ := hL3.rowsAt HL.out
    go_wp2_with fail
    refine (sameLists_any a3 a c3 c A3 A C3 C xss xss w3 hbd hr3 (hr.below hb3')).mono ?_
    rintro e w4 ⟨rfl, m4, rfl⟩
    rw [eqB_refl]
    clear hr3 hL3
    by_cases hbig : 1000 < t.length + 4
    · go_wp2_with fail
      go_ret
      exact ⟨rfl, below_drewN hb3' _⟩
    · have hcr2 := fun w1 => read_any ((⟨#[99, 49, 10]⟩ : ByteArray) ++ ⟨t.toArray⟩ ++ ⟨#[99]⟩) w1 (by rw [size_cmt]; omega)
      rw [bs_cmt, HR2.out (by omega)] at hcr2
      have HCR2 := hide hcr2
      clear hcr2
      go_wp2_with fail
      refine (unhide HCR2 _).mono ?_
      rintro e w5 ⟨hb5, a5, c5, vs5, rfl, hL5⟩
      have hb5' : Below w.heap.size w w5 := (below_drewN hb3' m4).trans (hb5.mono (below_drewN hb3' m4).size)
      clear hb5 hb3' HCR2
      obtain ⟨A5, C5, hr5⟩ := hL5.rowsAt HL.out
      go_wp2_with fail
      refine (sameLists_any a5 a c5 c A5 A C5 C xss xss w5 hbd hr5 (hr.below hb5')).mono ?_
      rintro e w6 ⟨rfl, m6, rfl⟩
      rw [eqB_refl]
      go_wp2_with fail
      go_ret
      exact ⟨rfl, below_drewN hb5' _⟩
  · have hT := hE0.out hE
    rw [hT] at hW
    have hEb : (wrE xss != 0) = true := bne_iff_ne.2 hE
    generalize wrE xss = er at hW hEb
    have HW := hide hW
    clear hE hW hE0 hT
    go_enter Tryd.func3, Tryd.ntmps3
    go_wp2_with fail
    refine (unhide HC).mono ?_
    rintro e w1 ⟨rfl, hb1⟩
    have hb1' : Below w.heap.size w w1 := (((Below.refl _ w).alloc (Nat.le_refl _) _).alloc (by simp) _).trans (hb1.mono (by simp; omega))
    clear hb1 HC
    go_wp2_with fail
    refine (unhide HW w1 hb1').mono ?_
    rintro e w2 ⟨rfl, hb2⟩
    have hb2' : Below w.heap.size w w2 := hb1'.trans (hb2.mono hb1'.size)
    clear hb2 HW hb1'
    go_wp2_with fail
    go_ret
    exact ⟨rfl, hb2'⟩

end Go.Proofs.YthboeppmlhbofaaDoor
