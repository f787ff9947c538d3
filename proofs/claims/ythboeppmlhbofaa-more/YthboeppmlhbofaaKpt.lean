/-
  trailkeep: allows, allowsAll, checks, Sound: the walks.
-/
import Derived.Test.YthboeppmlhbofaaKps
namespace Go.Proofs.Ythboeppmlhbofaa
open Go.RowKit Txt
set_option maxRecDepth 100000

theorem anyK_take (xs : List Int) (p : Int → Bool) (k : Nat) (hk : k < xs.length) : (xs.take (k + 1)).any p = ((xs.take k).any p || p (xs.getD k 0)) := by
  rw [List.take_succ_eq_append_getElem hk, List.any_append, List.getD_eq_getElem?_getD, List.getElem?_eq_getElem hk]
  simp
theorem anyK_at {xs : List Int} {p : Int → Bool} {k : Nat} (hk : k < xs.length) (h : p (xs.getD k 0) = true) : xs.any p = true := by
  rw [List.getD_eq_getElem?_getD, List.getElem?_eq_getElem hk] at h
  exact List.any_eq_true.2 ⟨_, List.getElem_mem hk, h⟩

set_option maxHeartbeats 2000000 in
theorem allowsK_any (a : Option Addr) (c : Nat) (xs : List Int) (v : Nat) (w : World) (hx : xs.length ≤ 9223372036854775807) (hr : IntsAt w a xs) (hv : v < 1024) :
    Calls Try.prog 9 #[.slice a xs.length c, .int .i64 v] w fun e w' => e = .returned (.bool (xs.any (soB v))) ∧ w' = w := by
  have HS : Hid (∀ x w, Calls Try.prog 13 #[.int .i64 x, .int .i64 v] w fun e w' => e = .returned (.bool (soB v x)) ∧ w' = w) := fun x w => so_any x v hv w
  have HR := hide hr
  clear hr
  go_enter Try.func9, Try.ntmps9
  go_wp2
  go_loopw [5] (fun i wr => ∃ k : Nat, k ≤ xs.length ∧ i = .int .i64 k ∧ wr = w ∧ Hid ((xs.take k).any (soB v) = false)) (fun i _ => xs.length - (intOf i).toNat)
  case atStart => exact ⟨0, Nat.zero_le _, rfl, rfl, rfl⟩
  case round =>
    obtain ⟨k, hk, rfl, rfl, HF⟩ := hrel
    by_cases hlt : k < xs.length
    · obtain ⟨b, off, rfl, hc⟩ := HR.out.get (by omega)
      have c0 := hc k hlt
      clear hc
      have HT := hide (anyK_take xs (soB v) k hlt)
      have HA := hide (fun h => anyK_at (p := soB v) hlt h)
      have i1 : (0 : Int) ≤ (k : Int) := by omega
      have i2 : (k : Int) < (xs.length : Int) := by omega
      generalize xs.getD k 0 = x at *
      have HX := hide (HS.out x)
      cases hs : soB v x with
      | true =>
        rw [hs] at HX
        have he : Hid (xs.any (soB v) = true) := HA.out hs
        clear HT HA
        go_wp2_with (go_at_call 13; refine (unhide HX _).mono ?_; rintro e w' ⟨rfl, hw⟩; obtain rfl := hw.symm)
        go_ret
        exact ⟨by rw [he.out]; rfl, rfl⟩
      | false =>
        rw [hs] at HX
        have he : Hid ((xs.take (k + 1)).any (soB v) = false) := by show _ = _; rw [HT.out, HF.out, hs]; rfl
        clear HT HA
        go_wp2_with (go_at_call 13; refine (unhide HX _).mono ?_; rintro e w' ⟨rfl, hw⟩; obtain rfl := hw.symm)
        go_roundw
        case rel => exact ⟨k + 1, by omega, by go_num, trivial, he⟩
        case measure => simp [intOf]; omega
    · obtain rfl : k = xs.length := by omega
      rw [List.take_length] at HF
      go_wp2
      go_ret
      exact ⟨by rw [HF.out]; rfl, rfl⟩

theorem allT (xs : List (List Int)) (p : List Int → Bool) (k : Nat) (hk : k < xs.length) : (xs.take (k + 1)).all p = ((xs.take k).all p && p (xs.getD k [])) := by
  rw [List.take_succ_eq_append_getElem hk, List.all_append, List.getD_eq_getElem?_getD, List.getElem?_eq_getElem hk]
  simp
theorem all_at {xs : List (List Int)} {p : List Int → Bool} {k : Nat} (hk : k < xs.length) (h : p (xs.getD k []) = false) : xs.all p = false := by
  rw [List.getD_eq_getElem?_getD, List.getElem?_eq_getElem hk] at h
  rw [List.all_eq_false]
  exact ⟨_, List.getElem_mem hk, by simpa using h⟩

set_option maxHeartbeats 2000000 in
theorem allowsKA_any (a : Option Addr) (c : Nat) (A : Nat → Option Addr) (C : Nat → Nat) (cls : List (List Int)) (v : Nat) (w : World) (hcl : cls.length ≤ 9223372036850000000) (hr : RowsAt w a A C cls) (hv : v < 1024) :
    Calls Try.prog 8 #[.slice a cls.length c, .slice none 0 0, .int .i64 v] w fun e w' => e = .returned (.bool (cls.all fun xs => xs.any (soB v))) ∧ w' = w := by
  have HR := hide hr
  clear hr
  go_enter Try.func8, Try.ntmps8
  go_wp2
  go_loopw [7] (fun i wr => ∃ k : Nat, k ≤ cls.length ∧ i = .int .i64 k ∧ wr = w ∧ Hid ((cls.take k).all (fun xs => xs.any (soB v)) = true)) (fun i _ => cls.length - (intOf i).toNat)
  case atStart => exact ⟨0, Nat.zero_le _, rfl, rfl, rfl⟩
  case round =>
    obtain ⟨k, hk, rfl, rfl, HF⟩ := hrel
    by_cases hlt : k < cls.length
    · obtain ⟨b, off, rfl, hc⟩ := HR.out.get (by omega)
      obtain ⟨c0, c1, c2⟩ := hc k hlt
      clear hc
      have HT := hide (allT cls (fun xs => xs.any (soB v)) k hlt)
      have HA := hide (fun h => all_at (p := fun xs => xs.any (soB v)) hlt h)
      have i1 : (0 : Int) ≤ (k : Int) := by omega
      have i2 : (k : Int) < (cls.length : Int) := by omega
      generalize cls.getD k [] = xs at *
      generalize A k = ak at *
      generalize C k = ck at *
      have HX := hide (allowsK_any ak ck xs v wr c2 c1 hv)
      clear c1
      cases hs : xs.any (soB v) with
      | false =>
        rw [hs] at HX
        have he : Hid ((cls.all fun xs => xs.any (soB v)) = false) := HA.out hs
        clear HT HA
        go_wp2_with (go_at_call 9; refine (unhide HX).mono ?_; rintro e w' ⟨rfl, hw⟩; obtain rfl := hw.symm)
        go_ret
        exact ⟨by rw [he.out]; rfl, rfl⟩
      | true =>
        rw [hs] at HX
        have he : Hid ((cls.take (k + 1)).all (fun xs => xs.any (soB v)) = true) := by show _ = _; rw [HT.out, HF.out, hs]; rfl
        clear HT HA
        go_wp2_with (go_at_call 9; refine (unhide HX).mono ?_; rintro e w' ⟨rfl, hw⟩; obtain rfl := hw.symm)
        go_roundw
        case rel => exact ⟨k + 1, by omega, by go_num, trivial, he⟩
        case measure => simp [intOf]; omega
    · obtain rfl : k = cls.length := by omega
      rw [List.take_length] at HF
      go_wp2
      go_loopw [9] (fun i wz => i = .int .i64 0 ∧ wz = wr) (fun _ _ => 0)
      case atStart => exact ⟨rfl, rfl⟩
      case round =>
        obtain ⟨rfl, rfl⟩ := hrel
        go_wp2
        go_ret
        exact ⟨by rw [HF.out]; rfl, rfl⟩

theorem checks_value : checkN [[1, 2], [1, -2], [-1, 2], [-1, -2]] [97, 32, 49, 32, 48, 10, 101, 32, 48, 10] = ([], 0, 2) := by decide +kernel

def four : List (List Int) := [[1, 2], [1, -2], [-1, 2], [-1, -2]]
theorem four_rows (w : World) (g : Nat) (hg : w.heap.size = g) : RowsAt (((((w.alloc (.cells #[.int .i64 1, .int .i64 2] 3)).alloc (.cells #[.int .i64 1, .int .i64 (-2)] 3)).alloc (.cells #[.int .i64 (-1), .int .i64 2] 3)).alloc (.cells #[.int .i64 (-1), .int .i64 (-2)] 3)).alloc (.cells #[.slice (some ⟨g, 0, none⟩) 2 2, .slice (some ⟨g + 1, 0, none⟩) 2 2, .slice (some ⟨g + 2, 0, none⟩) 2 2, .slice (some ⟨g + 3, 0, none⟩) 2 2] 24)) (some ⟨g + 4, 0, none⟩) (fun r => some ⟨g + r, 0, none⟩) (fun _ => 2) four := by
  subst hg
  generalize h1 : w.alloc (.cells #[.int .i64 1, .int .i64 2] 3) = w1
  generalize h2 : w1.alloc (.cells #[.int .i64 1, .int .i64 (-2)] 3) = w2
  generalize h3 : w2.alloc (.cells #[.int .i64 (-1), .int .i64 2] 3) = w3
  generalize h4 : w3.alloc (.cells #[.int .i64 (-1), .int .i64 (-2)] 3) = w4
  generalize h5 : w4.alloc (.cells #[.slice (some ⟨w.heap.size, 0, none⟩) 2 2, .slice (some ⟨w.heap.size + 1, 0, none⟩) 2 2, .slice (some ⟨w.heap.size + 2, 0, none⟩) 2 2, .slice (some ⟨w.heap.size + 3, 0, none⟩) 2 2] 24) = w5
  have z1 : w1.heap.size = w.heap.size + 1 := by rw [← h1]; simp
  have z2 : w2.heap.size = w.heap.size + 2 := by rw [← h2]; simp [z1]
  have z3 : w3.heap.size = w.heap.size + 3 := by rw [← h3]; simp [z2]
  have z4 : w4.heap.size = w.heap.size + 4 := by rw [← h4]; simp [z3]
  have b1 : Below w1.heap.size w1 w2 := by rw [← h2]; exact (Below.refl _ _).alloc (Nat.le_refl _) _
  have b2 : Below w2.heap.size w2 w3 := by rw [← h3]; exact (Below.refl _ _).alloc (Nat.le_refl _) _
  have b3 : Below w3.heap.size w3 w4 := by rw [← h4]; exact (Below.refl _ _).alloc (Nat.le_refl _) _
  have b4 : Below w4.heap.size w4 w5 := by rw [← h5]; exact (Below.refl _ _).alloc (Nat.le_refl _) _
  have r0 : Row w5 w.heap.size 3 [.int .i64 1, .int .i64 2] := row_below (row_below (row_below (row_below (by rw [← h1]; exact heap_alloc_new w _) b1) b2) b3) b4
  have r1 : Row w5 (w.heap.size + 1) 3 [.int .i64 1, .int .i64 (-2)] := row_below (row_below (row_below (by rw [← z1, ← h2]; exact heap_alloc_new w1 _) b2) b3) b4
  have r2 : Row w5 (w.heap.size + 2) 3 [.int .i64 (-1), .int .i64 2] := row_below (row_below (by rw [← z2, ← h3]; exact heap_alloc_new w2 _) b3) b4
  have r3 : Row w5 (w.heap.size + 3) 3 [.int .i64 (-1), .int .i64 (-2)] := row_below (by rw [← z3, ← h4]; exact heap_alloc_new w3 _) b4
  have r4 : Row w5 (w.heap.size + 4) 24 [.slice (some ⟨w.heap.size, 0, none⟩) 2 2, .slice (some ⟨w.heap.size + 1, 0, none⟩) 2 2, .slice (some ⟨w.heap.size + 2, 0, none⟩) 2 2, .slice (some ⟨w.heap.size + 3, 0, none⟩) 2 2] := by rw [← z4, ← h5]; exact heap_alloc_new w4 _
  refine .inr ⟨w.heap.size + 4, 0, rfl, fun r hr => ?_⟩
  have hr4 : r = 0 ∨ r = 1 ∨ r = 2 ∨ r = 3 := by simp [four] at hr; omega
  have two : ∀ {q : Nat} {x y : Int}, Row w5 q 3 [.int .i64 x, .int .i64 y] → IntsAt w5 (some ⟨q, 0, none⟩) [x, y] := fun {q x y} hq => .inr ⟨q, 0, rfl, fun j hj => by
    have : j = 0 ∨ j = 1 := by simp at hj; omega
    rcases this with rfl | rfl
    · exact (hq.cell 0).trans rfl
    · exact (hq.cell 1).trans rfl⟩
  rcases hr4 with rfl | rfl | rfl | rfl
  · exact ⟨(r4.cell 0).trans rfl, two r0, by decide⟩
  · exact ⟨(r4.cell 1).trans rfl, two r1, by decide⟩
  · exact ⟨(r4.cell 2).trans rfl, two r2, by decide⟩
  · exact ⟨(r4.cell 3).trans rfl, two r3, by decide⟩

set_option maxHeartbeats 2000000 in
theorem checksK_any (w : World) : Calls Try.prog 5 #[] w fun e w' => e = .returned (.bool true) ∧ Below w.heap.size w w' := by
  have HC := hide (checkT_any (some ⟨w.heap.size + 4, 0, none⟩) 4 (fun r => some ⟨w.heap.size + r, 0, none⟩) (fun _ => 2) four ⟨#[97, 32, 49, 32, 48, 10, 101, 32, 48, 10]⟩ _ (four_rows w _ rfl) (by decide) (by decide))
  have e : checkN four (bs ⟨#[97, 32, 49, 32, 48, 10, 101, 32, 48, 10]⟩) = ([], 0, 2) := checks_value
  rw [e] at HC
  have HB : Hid (∀ o1 o2 o3 o4 o5, Below w.heap.size w (((((w.alloc o1).alloc o2).alloc o3).alloc o4).alloc o5)) := fun o1 o2 o3 o4 o5 => (((((Below.refl _ _).alloc (Nat.le_refl _) _).alloc (by simp) _).alloc (by simp; omega) _).alloc (by simp; omega) _).alloc (by simp; omega) _
  have hsz : ∀ o1 o2 o3 o4 o5, w.heap.size ≤ (((((w.alloc o1).alloc o2).alloc o3).alloc o4).alloc o5).heap.size := fun o1 o2 o3 o4 o5 => (HB.out o1 o2 o3 o4 o5).size
  have HSZ := hide hsz
  clear hsz e
  go_enter Try.func5, Try.ntmps5
  go_wp2_with fail
  refine (unhide HC).mono ?_
  rintro e w2 ⟨hb2, a, c, rfl, ho⟩
  have B2 : Hid (Below w.heap.size w w2) := (HB.out _ _ _ _ _).trans (hb2.mono (HSZ.out _ _ _ _ _))
  clear hb2 ho HC
  go_wp2
  go_ret
  exact ⟨rfl, B2.out⟩

/-- the world of a number -/
def worldW (v : Nat) : Nat → Bool := fun u => v.testBit (u - 1)
theorem so_lit (v : Nat) (x : Int) : soB v x = true ↔ litB x = true ∧ litSo (worldW v) x := by
  unfold soB
  rw [Bool.and_eq_true]
  refine and_congr_right (fun hl => ?_)
  simp only [litB, Bool.and_eq_true, bne_iff_ne, decide_eq_true_eq] at hl
  by_cases hp : 0 < x
  · rw [if_pos hp]
    unfold litSo worldW
    constructor
    · intro h; exact .inl ⟨hp, h⟩
    · intro h; rcases h with ⟨_, h⟩ | ⟨h, _⟩
      · exact h
      · omega
  · rw [if_neg hp]
    unfold litSo worldW
    constructor
    · intro h; exact .inr ⟨by omega, by simpa using h⟩
    · intro h; rcases h with ⟨h, _⟩ | ⟨_, h⟩
      · omega
      · simpa using h
theorem any_sat (v : Nat) (xs : List Int) : xs.any (soB v) = true ↔ satL (worldW v) xs := by
  rw [List.any_eq_true]
  unfold satL
  constructor
  · rintro ⟨x, hx, h⟩; exact ⟨x, hx, (so_lit v x).1 h⟩
  · rintro ⟨x, hx, h⟩; exact ⟨x, hx, (so_lit v x).2 h⟩

set_option maxHeartbeats 4000000 in
theorem sound_any (a : Option Addr) (c : Nat) (A : Nat → Option Addr) (C : Nat → Nat) (cls : List (List Int)) (s : ByteArray) (z : Int) (w : World) (hr : RowsAt w a A C cls) (hcl : cls.length ≤ 9223372036850000000) (hsz : s.size ≤ 4611686018427387904) (h1 : -9223372036854775808 ≤ z) (h2 : z ≤ 9223372036854775807) :
    Calls Try.prog 3 #[.slice a cls.length c, .string s, .int .i64 z] w fun e w' => e = .returned (.bool true) ∧ Below w.heap.size w w' := by
  have HCK := hide (checksK_any w)
  have HR := hide hr
  have HP : Hid (∀ w, Calls Try.prog 7 #[.int .i64 z, .int .i64 1024] w fun e w' => e = .returned (.int .i64 (pickK z 1024 : Nat)) ∧ w' = w) := fun w => pickK_any z w h1 h2
  have hv : pickK z 1024 < 1024 := by
    unfold pickK
    have a1 := Int.emod_lt_of_pos (if z < 0 then -(z + 1) else z) (show (0 : Int) < ((1024 : Nat) : Int) by decide)
    have a2 := Int.emod_nonneg (if z < 0 then -(z + 1) else z) (show ((1024 : Nat) : Int) ≠ 0 by decide)
    omega
  generalize pickK z 1024 = v at *
  have HSO : Hid (∀ r, checkN cls (bs s) = r → r.2.1 = 0 → (cls.all fun xs => xs.any (soB v)) = true → r.1.any (soB v) = true) := by
    rintro r rfl he hall
    rw [any_sat]
    refine check_sound (worldW v) cls (bs s) (fun x hx => ?_) he
    exact (any_sat v x).1 (List.all_eq_true.1 hall x hx)
  have HER : Hid (∀ r, checkN cls (bs s) = r → r.2.1 ≠ 0 → r.1 = []) := by
    rintro r rfl he
    exact check_err cls (bs s) he
  clear hr
  go_enter Try.func3, Try.ntmps3
  go_wp2_with fail
  refine (unhide HCK).mono ?_
  rintro e w2 ⟨rfl, hb2⟩
  have B2 := hide hb2
  have HC := hide (checkT_any a c A C cls s w2 (rows_below HR.out hb2) hcl hsz)
  clear hb2 HCK
  go_wp2_with fail
  refine (unhide HC).mono ?_
  generalize hres : checkN cls (bs s) = R at *
  obtain ⟨rs, er, n⟩ := R
  rintro e w3 ⟨hb3, a3, c3, rfl, ho3⟩
  have B3 : Hid (Below w.heap.size w w3) := B2.out.trans (hb3.mono B2.out.size)
  have O3 := hide ho3
  have hso := HSO.out _ rfl
  have her := HER.out _ rfl
  simp only at hso her
  have HSO2 := hide hso
  have HER2 := hide her
  have hrl : rs.length ≤ 9223372036854775807 := by
    have hq : w3.ownsRow w2.heap.size 3 1 (.slice a3 rs.length c3) rs.length (i64s rs) := ho3
    rcases hq.2 with ⟨_, h0⟩ | ⟨g, cap, cur, hv', _, _, q1, q2, _⟩
    · omega
    · unfold maxLen at q2; omega
  clear hb3 ho3 HC hres HSO HER hso her
  simp only
  by_cases hez : er = 0
  · subst hez
    have HAL := hide (allowsKA_any a c A C cls v w3 hcl (rows_below HR.out B3.out) hv)
    have HAW := hide (allowsK_any a3 c3 rs v w3 hrl (own_intsAt O3.out) hv)
    cases hall : (cls.all fun xs => xs.any (soB v)) with
    | false =>
      rw [hall] at HAL
      clear HAW HSO2
      go_wp2_with (first
        | (go_at_call 7; refine (unhide HP _).mono ?_; rintro e w' ⟨rfl, hw⟩; obtain rfl := hw.symm)
        | (go_at_call 8; refine (unhide HAL).mono ?_; rintro e w' ⟨rfl, hw⟩; obtain rfl := hw.symm))
      go_ret
      exact ⟨rfl, B3.out⟩
    | true =>
      have hans := HSO2.out rfl hall
      rw [hall] at HAL
      rw [hans] at HAW
      clear HSO2 hans
      go_wp2_with (first
        | (go_at_call 7; refine (unhide HP _).mono ?_; rintro e w' ⟨rfl, hw⟩; obtain rfl := hw.symm)
        | (go_at_call 8; refine (unhide HAL).mono ?_; rintro e w' ⟨rfl, hw⟩; obtain rfl := hw.symm)
        | (go_at_call 9; refine (unhide HAW).mono ?_; rintro e w' ⟨rfl, hw⟩; obtain rfl := hw.symm))
      go_ret
      exact ⟨rfl, B3.out⟩
  · have hnil := HER2.out hez
    subst hnil
    have heri : (er != 0) = true := by simp; exact hez
    clear HSO2 HER2 hez
    go_wp2
    go_ret
    exact ⟨rfl, B3.out⟩

end Go.Proofs.Ythboeppmlhbofaa
