/-
  The document's sets of literals: the walks.
-/
import Derived.Test.YthboeppmlhbofaaGreatDoorRef
namespace Go.Proofs.YthboeppmlhbofaaGreatDoor
open Go.RowKit Txt
set_option maxRecDepth 100000

/-- a literal as a set of one -/
def bitN (l : Int) : Nat := if 0 < l then 2 ^ (2 * l - 2).toNat else 2 ^ (-2 * l - 1).toNat
def setN (xs : List Int) : Nat := xs.foldl (fun a l => a ||| bitN l) 0

set_option maxHeartbeats 1000000 in
theorem bit_any (l : Int) (h : litB l = true) (w : World) : Calls Tryz.prog 75 #[.int .i64 l] w fun e w' => e = .returned (.int .i64 (bitN l : Nat)) ∧ w' = w := by
  rcases lit_cases h with rfl | rfl | rfl | rfl | rfl | rfl | rfl | rfl | rfl | rfl | rfl | rfl | rfl | rfl | rfl | rfl | rfl | rfl | rfl | rfl
  all_goals
    clear h
    go_enter Tryz.func75, Tryz.ntmps75
    go_wp2
    go_ret
    exact ⟨rfl, rfl⟩

theorem wraps_i64 (n : Int) (h0 : 0 ≤ n) (h1 : n < 2 ^ 63) : IntKind.i64.wrap n = n := by rw [IntKind.wrap_i64]; omega
theorem or64 (a b : Nat) (ha : a < 2 ^ 63) (hb : b < 2 ^ 63) : bits .or .i64 (a : Int) (b : Int) = ((a ||| b : Nat) : Int) := (bits_nat .i64 63 (by decide) wraps_i64 a b ha hb).2
theorem and64 (a b : Nat) (ha : a < 2 ^ 63) (hb : b < 2 ^ 63) : bits .and .i64 (a : Int) (b : Int) = ((a &&& b : Nat) : Int) := (bits_nat .i64 63 (by decide) wraps_i64 a b ha hb).1
theorem bitN_lt {l : Int} (h : litB l = true) : bitN l < 2 ^ 20 := by
  rcases lit_cases h with rfl | rfl | rfl | rfl | rfl | rfl | rfl | rfl | rfl | rfl | rfl | rfl | rfl | rfl | rfl | rfl | rfl | rfl | rfl | rfl <;> decide
theorem setN_snoc (xs : List Int) (x : Int) : setN (xs ++ [x]) = setN xs ||| bitN x := by simp [setN]
theorem setN_lt (xs : List Int) (h : xs.all litB = true) : setN xs < 2 ^ 20 := by
  have key : ∀ (ys : List Int) (a : Nat), ys.all litB = true → a < 2 ^ 20 → ys.foldl (fun a l => a ||| bitN l) a < 2 ^ 20 := by
    intro ys
    induction ys with
    | nil => intro a _ h; exact h
    | cons y ys ih =>
      intro a hy ha
      simp only [List.all_cons, Bool.and_eq_true] at hy
      exact ih _ hy.2 (Nat.or_lt_two_pow ha (bitN_lt hy.1))
  exact key xs 0 h (by decide)
theorem all_take {xs : List Int} (h : xs.all litB = true) (k : Nat) : (xs.take k).all litB = true :=
  List.all_eq_true.2 fun x hx => List.all_eq_true.1 h x (List.mem_of_mem_take hx)
theorem take_get (xs : List Int) (k : Nat) (h : k < xs.length) : xs.take (k + 1) = xs.take k ++ [xs.getD k 0] := by
  rw [List.take_succ_eq_append_getElem h, List.getD_eq_getElem?_getD, List.getElem?_eq_getElem h]; rfl
def setOk (xs : List Int) : Nat := if xs.all litB then setN xs else 0
theorem ret_set {a b : Int} {c d : Bool} (h : a = b) (h' : c = d) : Ending.returned (.tuple #[.int .i64 a, .bool c]) = .returned (.tuple #[.int .i64 b, .bool d]) := by rw [h, h']

set_option maxHeartbeats 1000000 in
theorem set_any (a : Option Addr) (c : Nat) (xs : List Int) (w : World) (hbd : xs.length ≤ 9223372036854775807) (hr : IntsAt w a xs) :
    Calls Tryz.prog 43 #[.slice a xs.length c] w fun e w' => e = .returned (.tuple #[.int .i64 (setOk xs : Nat), .bool (xs.all litB)]) ∧ w' = w := by
  go_enter Tryz.func43, Tryz.ntmps43
  go_wp2
  go_loop [4, 5] (fun x i => ∃ (k s : Nat), k ≤ xs.length ∧ i = .int .i64 k ∧ x = .int .i64 s ∧ s < 1048576 ∧ Hid (s = setN (xs.take k)) ∧ Hid (xs.all litB = (xs.drop k).all litB)) (fun _ i => xs.length - (intOf i).toNat)
  case atStart => exact ⟨0, 0, Nat.zero_le _, rfl, rfl, by decide, rfl, rfl⟩
  case round =>
    obtain ⟨k, s, hk, rfl, rfl, hs, hset, hall⟩ := hrel
    by_cases hlt : k < xs.length
    · obtain ⟨b, off, rfl, hc⟩ := hr.get (by omega)
      have h1 := hc k hlt
      have HE : Hid ((xs.drop k).all litB = (litB (xs.getD k 0) && (xs.drop (k + 1)).all litB)) := by show _ = _; rw [drop_get xs 0 k hlt]; rfl
      have HT : Hid (setN (xs.take (k + 1)) = setN (xs.take k) ||| bitN (xs.getD k 0)) := by show _ = _; rw [take_get xs k hlt, setN_snoc]
      clear hc
      generalize xs.getD k 0 = x at h1 HE HT
      cases hx : litB x
      · have HF : Hid (xs.all litB = false) := by show _ = _; rw [hall.out, HE.out, hx]; rfl
        go_wp2_with (go_at_call 74; refine (mayBe_any _ _).mono ?_; rintro e w' ⟨rfl, hw⟩; obtain rfl := hw.symm)
        go_ret2
        exact ⟨ret_set (by simp [setOk, HF.out]) HF.out.symm, rfl⟩
      · have HX := hide hx
        have hbl := bitN_lt hx
        have HO : Hid (bits .or .i64 (s : Int) (bitN x : Int) = ((s ||| bitN x : Nat) : Int)) := or64 s (bitN x) (by omega) (by omega)
        have HL : Hid (s ||| bitN x < 1048576) := Nat.or_lt_two_pow (n := 20) hs hbl
        go_wp2_with (first
          | (go_at_call 74; refine (mayBe_any _ _).mono ?_; rintro e w' ⟨rfl, hw⟩; obtain rfl := hw.symm)
          | (go_at_call 75; refine (bit_any _ HX.out _).mono ?_; rintro e w' ⟨rfl, hw⟩; obtain rfl := hw.symm))
        go_round
        case rel => exact ⟨k + 1, s ||| bitN x, by omega, by go_num, congrArg (Value.int .i64) HO.out, HL.out, by show _ = _; rw [HT.out, ← hset.out], by show _ = _; rw [hall.out, HE.out, HX.out]; rfl⟩
        case measure => simp [intOf]; omega
    · have HF : Hid (xs.all litB = true) := by show _ = _; rw [hall.out, List.drop_eq_nil_of_le (by omega)]; rfl
      have HT : Hid (setN (xs.take k) = setN xs) := by show _ = _; rw [List.take_of_length_le (by omega)]
      go_wp2
      go_ret2
      exact ⟨ret_set (by show ((s : Nat) : Int) = _; rw [hset.out, HT.out]; simp [setOk, HF.out]) HF.out.symm, rfl⟩

theorem grown_trans {w w1 w2 : World} (h : w.grownBy w1 none) (h' : w1.grownBy w2 none) : w.grownBy w2 none :=
  ⟨h'.os.trans h.os, h'.tape.trans h.tape, h'.output.trans h.output, Nat.le_trans h.size h'.size, fun k hk hn => (h'.block k (Nat.lt_of_lt_of_le hk h.size) hn).trans (h.block k hk hn)⟩
/-! ### digits -/
theorem conv_new (w : World) (l : List UInt8) (c : Nat) : (convert 83 9 (.slice (some ⟨w.heap.size, 0, none⟩) l.length c)).run Tryz.prog (w.alloc (.cells (c8 l).toArray 5)) = .ok (.string ⟨l.toArray⟩) (w.alloc (.cells (c8 l).toArray 5)) := by
  have hb : Tryz.prog.underlying 5 = some (.int .u8) := by kernel_rfl
  refine run_convert_bytes_back (w.alloc (.cells (c8 l).toArray 5)) _ _ 5 _ c l Tryz.undBytes hb Tryz.undString fun j hj => ?_
  exact new_cells w (c8 l) 5 j _ (by simp [c8, hj])
theorem digit_text (k : Nat) (h : k ≤ 9) : Lib.itoa (k : Int) = [UInt8.ofNat (48 + k)] := by
  have : k = 0 ∨ k = 1 ∨ k = 2 ∨ k = 3 ∨ k = 4 ∨ k = 5 ∨ k = 6 ∨ k = 7 ∨ k = 8 ∨ k = 9 := by omega
  rcases this with rfl | rfl | rfl | rfl | rfl | rfl | rfl | rfl | rfl | rfl <;> decide +kernel

set_option maxHeartbeats 1000000 in
theorem digit_any (k : Nat) (h : k ≤ 9) (w : World) : Calls Tryz.prog 90 #[.int .i64 k] w fun e w' => e = .returned (.string ⟨(Lib.itoa k).toArray⟩) ∧ w.grownBy w' none := by
  rw [digit_text k h]
  have hcv : (convert 83 9 (.slice (some ⟨w.heap.size, 0, none⟩) 1 1)).run Tryz.prog (w.alloc (.cells #[.int .u8 (48 + (k : Int))] 5)) = .ok (.string ⟨[UInt8.ofNat (48 + k)].toArray⟩) (w.alloc (.cells #[.int .u8 (48 + (k : Int))] 5)) := by
    have e : (48 + (k : Int)) = ((UInt8.ofNat (48 + k)).toNat : Int) := by
      rw [UInt8.toNat_ofNat']; omega
    rw [e]
    exact conv_new w [UInt8.ofNat (48 + k)] 1
  generalize UInt8.ofNat (48 + k) = b at hcv
  go_enter Tryz.func90, Tryz.ntmps90
  go_wp2
  go_ret
  exact ⟨rfl, World.grownBy_alloc _ _ _⟩

theorem itoa_neg {k : Nat} (h1 : 1 ≤ k) (h2 : k ≤ 10) : Lib.itoa (-(k : Int)) = 45 :: Lib.itoa (k : Int) := by
  have : k = 1 ∨ k = 2 ∨ k = 3 ∨ k = 4 ∨ k = 5 ∨ k = 6 ∨ k = 7 ∨ k = 8 ∨ k = 9 ∨ k = 10 := by omega
  rcases this with rfl | rfl | rfl | rfl | rfl | rfl | rfl | rfl | rfl | rfl <;> decide +kernel
theorem itoa_ten : Lib.itoa 10 = Lib.itoa ((1 : Nat) : Int) ++ Lib.itoa ((0 : Nat) : Int) := by decide +kernel
theorem arr_append (s t : List UInt8) : (⟨s.toArray⟩ : ByteArray) ++ ⟨t.toArray⟩ = ⟨(s ++ t).toArray⟩ := by
  apply ByteArray.ext
  simp

set_option maxHeartbeats 1000000 in
theorem digits10_any (w : World) : Calls Tryz.prog 90 #[.int .i64 10] w fun e w' => e = .returned (.string ⟨(Lib.itoa 10).toArray⟩) ∧ w.grownBy w' none := by
  have h1 : ∀ w, Calls Tryz.prog 90 #[.int .i64 1] w fun e w' => e = .returned (.string ⟨(Lib.itoa ((1 : Nat) : Int)).toArray⟩) ∧ w.grownBy w' none := digit_any 1 (by decide)
  have h0 : ∀ w, Calls Tryz.prog 90 #[.int .i64 0] w fun e w' => e = .returned (.string ⟨(Lib.itoa ((0 : Nat) : Int)).toArray⟩) ∧ w.grownBy w' none := digit_any 0 (by decide)
  have e1 : (Lib.itoa ((1 : Nat) : Int)).length ≤ 3 := by decide +kernel
  have e0 : (Lib.itoa ((0 : Nat) : Int)).length ≤ 3 := by decide +kernel
  rw [itoa_ten]
  generalize Lib.itoa ((1 : Nat) : Int) = l1 at h1 e1
  generalize Lib.itoa ((0 : Nat) : Int) = l0 at h0 e0
  have H1 := hide h1
  have H0 := hide h0
  clear h1 h0
  go_enter Tryz.func90, Tryz.ntmps90
  go_wp2_with fail
  refine (unhide H1 _).mono ?_
  rintro e w1 ⟨rfl, hg1⟩
  go_wp2_with fail
  refine (unhide H0 _).mono ?_
  rintro e w2 ⟨rfl, hg2⟩
  go_wp2
  go_ret
  exact ⟨congrArg (fun s => Ending.returned (.string s)) (arr_append l1 l0), grown_trans hg1 hg2⟩

theorem lit_nat {n : Int} (h : litB n = true) : (∃ k : Nat, n = k ∧ k ≤ 9) ∨ n = 10 ∨ ∃ k : Nat, n = -(k : Int) ∧ 1 ≤ k ∧ k ≤ 10 := by
  simp only [litB, Bool.and_eq_true, bne_iff_ne, decide_eq_true_eq] at h
  by_cases h0 : 0 ≤ n
  · by_cases h9 : n ≤ 9
    · exact .inl ⟨n.toNat, by omega, by omega⟩
    · exact .inr (.inl (by omega))
  · exact .inr (.inr ⟨(-n).toNat, by omega, by omega, by omega⟩)

set_option maxHeartbeats 1000000 in
theorem digits_any (n : Int) (h : litB n = true) (w : World) : Calls Tryz.prog 90 #[.int .i64 n] w fun e w' => e = .returned (.string ⟨(Lib.itoa n).toArray⟩) ∧ w.grownBy w' none := by
  rcases lit_nat h with ⟨k, rfl, hk⟩ | rfl | ⟨k, rfl, hk1, hk2⟩
  · exact digit_any k hk w
  · exact digits10_any w
  · have hc : ∀ w, Calls Tryz.prog 90 #[.int .i64 (k : Int)] w fun e w' => e = .returned (.string ⟨(Lib.itoa (k : Int)).toArray⟩) ∧ w.grownBy w' none := by
      intro w
      by_cases h9 : k ≤ 9
      · exact digit_any k h9 w
      · obtain rfl : k = 10 := by omega
        exact digits10_any w
    have hl : (Lib.itoa (k : Int)).length ≤ 3 := by
      have : k = 1 ∨ k = 2 ∨ k = 3 ∨ k = 4 ∨ k = 5 ∨ k = 6 ∨ k = 7 ∨ k = 8 ∨ k = 9 ∨ k = 10 := by omega
      rcases this with rfl | rfl | rfl | rfl | rfl | rfl | rfl | rfl | rfl | rfl <;> decide +kernel
    rw [itoa_neg hk1 hk2]
    generalize Lib.itoa (k : Int) = l at hc hl
    have HC := hide hc
    clear hc h
    go_enter Tryz.func90, Tryz.ntmps90
    go_wp2_with fail
    refine (unhide HC _).mono ?_
    rintro e w1 ⟨rfl, hg1⟩
    go_wp2
    go_ret
    exact ⟨congrArg (fun s => Ending.returned (.string s)) (arr_append [45] l), hg1⟩

end Go.Proofs.YthboeppmlhbofaaGreatDoor
