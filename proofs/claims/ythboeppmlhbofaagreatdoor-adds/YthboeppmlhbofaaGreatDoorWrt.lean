/-
  Write: the walks that lay a text of clauses.
-/
import Derived.Test.YthboeppmlhbofaaGreatDoorLst
import Derived.Test.YthboeppmlhbofaaGreatDoorShelf
import Derived.Lib.AppendStr
import Derived.Deep.DeepMust
namespace Go.Proofs.YthboeppmlhbofaaGreatDoor
open Go.RowKit Txt
set_option maxRecDepth 100000

theorem Tryz.infoByte : (Tryz.prog.info? 5).map (fun i => (i.zero, i.size, i.bytes)) = some (some (.int .u8 0), 1, 1) := by kernel_rfl
theorem Tryz.undBytes : Tryz.prog.underlying 83 = some (.slice 5) := by kernel_rfl
theorem Tryz.undString : Tryz.prog.underlying 9 = some .string := by kernel_rfl

/-- bytes as cells -/
def c8 (t : List UInt8) : List Value := t.map fun b => Value.int .u8 b.toNat
theorem c8_length (t : List UInt8) : (c8 t).length = t.length := by simp [c8]
theorem c8_append (s t : List UInt8) : c8 (s ++ t) = c8 s ++ c8 t := by simp [c8]
theorem c8_one (t : List UInt8) : ∀ u ∈ c8 t, u.oneCell' = true := by
  intro u hu
  simp only [c8, List.mem_map] at hu
  obtain ⟨b, _, rfl⟩ := hu
  rfl
theorem own_shape {w : World} {base e size : Nat} {v : Value} {n : Nat} {xs : List Value} (h : w.ownsRow base e size v n xs) : ∃ ao cap, v = .slice ao n cap := by
  rcases h.2 with ⟨rfl, rfl⟩ | ⟨g, cap, cur, rfl, _⟩
  · exact ⟨none, 0, rfl⟩
  · exact ⟨_, _, rfl⟩

theorem own_text {w : World} {base e n : Nat} {v : Value} {cs : List Value} (t : List UInt8) (hn : n = t.length) (hcs : cs = c8 t) (h : w.ownsRow base e 1 v n cs) :
    ∃ ao cap, v = .slice ao t.length cap ∧ w.ownsRow base e 1 (.slice ao t.length cap) t.length (c8 t) := by
  subst hn hcs
  obtain ⟨ao, cap, rfl⟩ := own_shape h
  exact ⟨ao, cap, rfl, h⟩
/-- a literal and the blank behind it -/
def litT (n : Int) : List UInt8 := Lib.itoa n ++ [32]
def litsT (xs : List Int) : List UInt8 := xs.flatMap litT
def clauseT (xs : List Int) : List UInt8 := litsT xs ++ [48, 10]
def textT (xss : List (List Int)) : List UInt8 := xss.flatMap clauseT

theorem litsT_succ (xs : List Int) (k : Nat) (h : k < xs.length) : litsT (xs.take (k + 1)) = litsT (xs.take k) ++ litT (xs.getD k 0) := by
  rw [List.take_succ_eq_append_getElem h]
  unfold litsT
  rw [List.flatMap_append, List.getD_eq_getElem?_getD, List.getElem?_eq_getElem h]
  simp only [List.flatMap_cons, List.flatMap_nil, List.append_nil]
  rfl
theorem litsT_le (xs : List Int) (k : Nat) : (litsT (xs.take k)).length ≤ (litsT xs).length := by
  have h : litsT xs = litsT (xs.take k) ++ litsT (xs.drop k) := by
    unfold litsT
    rw [← List.flatMap_append, List.take_append_drop]
  rw [h, List.length_append]; omega
/-- a new block's cells -/
theorem new_cells (w : World) (l : List Value) (e : TypeId) : ∀ j u, l[j]? = some u → (w.alloc (.cells l.toArray e)).cell? ((⟨w.heap.size, 0, none⟩ : Addr).add j) = some u := by
  intro j u hu
  have hadd : (⟨w.heap.size, 0, none⟩ : Addr).add j = ⟨w.heap.size, j, none⟩ := by unfold Addr.add; split <;> simp_all
  rw [hadd, cell_of_row _ w.heap.size j l.toArray e (0, 0) (heap_alloc_new w _)]
  simpa using hu
theorem size_arr (l : List UInt8) : (⟨l.toArray⟩ : ByteArray).size = l.length := by show l.toArray.size = _; simp
theorem strCells_arr (l : List UInt8) : Lib.strCells ⟨l.toArray⟩ = c8 l := by simp [Lib.strCells, c8]
theorem lit_cases {n : Int} (h : litB n = true) : n = -10 ∨ n = -9 ∨ n = -8 ∨ n = -7 ∨ n = -6 ∨ n = -5 ∨ n = -4 ∨ n = -3 ∨ n = -2 ∨ n = -1 ∨ n = 1 ∨ n = 2 ∨ n = 3 ∨ n = 4 ∨ n = 5 ∨ n = 6 ∨ n = 7 ∨ n = 8 ∨ n = 9 ∨ n = 10 := by
  simp only [litB, Bool.and_eq_true, bne_iff_ne, decide_eq_true_eq] at h
  omega
theorem itoa_short {n : Int} (h : litB n = true) : 1 ≤ (Lib.itoa n).length ∧ (Lib.itoa n).length ≤ 3 := by
  rcases lit_cases h with rfl | rfl | rfl | rfl | rfl | rfl | rfl | rfl | rfl | rfl | rfl | rfl | rfl | rfl | rfl | rfl | rfl | rfl | rfl | rfl <;> decide +kernel

theorem grownBy_grow (w : World) (k : Nat) (os : Array Obj) : w.grownBy (Sort.grow (w.drewN k) os) none :=
  ⟨rfl, rfl, rfl, by simp, fun j hj _ => by show (w.heap ++ os)[j]? = _; rw [Array.getElem?_append_left hj]⟩

abbrev Tab (w : World) : Prop := Lib.TabIs Tryz.prog w "internal/strconv.uint64pow10" .u64 Lib.pow10Tab
theorem itoa_any (n : Int) (h : litB n = true) (w : World) (htab : Hid (Tab w)) :
    Calls Tryz.prog 146 #[.int .i64 n] w fun e w' => e = .returned (.string ⟨(Lib.itoa n).toArray⟩) ∧ w.grownBy w' none := by
  simp only [litB, Bool.and_eq_true, bne_iff_ne, decide_eq_true_eq] at h
  refine (Tryz.strconv_Itoa n (by omega) (by omega) w htab.out).mono ?_
  rintro e w' ⟨rfl, k, os, rfl⟩
  exact ⟨rfl, grownBy_grow w k os⟩

theorem gTab : Tryz.prog.globalNamed "internal/strconv.uint64pow10" = some 0 := by kernel_rfl
theorem Tab.below {B : Nat} {w w' : World} (h : Tab w) (hb : Below B w w') (hB : 0 < B) : Tab w' := var?_below hb gTab hB h

theorem IntsAt.below {w w' : World} {a : Option Addr} {xs : List Int} (h : IntsAt w a xs) (hb : Below w.heap.size w w') : IntsAt w' a xs :=
  h.kept fun b off _ hv => (hb.cell (p := ⟨b, off, none⟩) (World.block_lt_of_cell? w _ hv)).trans hv

set_option maxHeartbeats 1000000 in
theorem appendLit_any (B : Nat) (ao : Option Addr) (cap : Nat) (t : List UInt8) (x : Int) (w : World)
    (htab : Hid (Tab w)) (hB : B ≤ w.heap.size) (hown : w.ownsRow B 5 1 (.slice ao t.length cap) t.length (c8 t)) (ht : t.length ≤ 1000000000) (hx : Hid (litB x = true)) :
    Calls Tryz.prog 127 #[.slice ao t.length cap, .int .i64 x] w fun e w' => ∃ ao' cap', e = .returned (.slice ao' (t ++ litT x).length cap') ∧
      w'.ownsRow B 5 1 (.slice ao' (t ++ litT x).length cap') (t ++ litT x).length (c8 (t ++ litT x)) ∧ Below B w w' := by
  obtain ⟨i0, hi, hz0, hz1, hz2⟩ := info_parts Tryz.infoByte
  have c1 : Hid (t.length + (⟨(Lib.itoa x).toArray⟩ : ByteArray).size ≤ maxLen) := by
    show _ ≤ _
    rw [size_arr]; have := (itoa_short hx.out).2; unfold maxLen; omega
  have c2 : Hid (t.length + (⟨(Lib.itoa x).toArray⟩ : ByteArray).size ≤ 140737488355328) := by
    show _ ≤ _
    rw [size_arr]; have := (itoa_short hx.out).2; omega
  have d1 : Hid (t.length + (⟨(Lib.itoa x).toArray⟩ : ByteArray).size + 1 ≤ maxLen) := by
    show _ ≤ _
    rw [size_arr]; have := (itoa_short hx.out).2; unfold maxLen; omega
  have d2 : Hid ((t.length + (⟨(Lib.itoa x).toArray⟩ : ByteArray).size + 1) * 1 ≤ 140737488355328) := by
    show _ ≤ _
    rw [size_arr]; have := (itoa_short hx.out).2; omega
  go_enter Tryz.func127, Tryz.ntmps127
  go_wp2_with (first
    | (go_at_call 146; refine (itoa_any _ hx.out _ htab).mono ?_; rintro e w1 ⟨rfl, hg1⟩; have hown1 := hown.kept hg1 (Classical.em _))
    | (at_builtin; refine Lib.wpList_append_own_string _ rfl _ _ 83 9 rfl B 5 i0 Tryz.undBytes Tryz.undString hi hz0 hz1 hz2 (.slice ao t.length cap) t.length (c8 t) rfl hown1 ⟨(Lib.itoa x).toArray⟩ rfl c1.out c2.out (Nat.le_trans hB hg1.size) ?_; intro v2 w2 hown2 hg2 _)
    | (at_builtin; refine wpList_append_own _ rfl _ _ 83 rfl B 5 i0 (.int .u8 0) 1 1 Tryz.undBytes hi hz0 hz1 hz2 rfl (by decide) v2 _ _ rfl (hown2.alloc _) ⟨w2.heap.size, 0, none⟩ 1 1 [.int .u8 32] rfl rfl (new_cells w2 [.int .u8 32] 5) (c8_one [32]) d1.out d2.out (by simp; exact Nat.le_succ_of_le (Nat.le_trans hB (Nat.le_trans hg1.size hg2.size))) ?_; intro v3 w3 hown3 hg3 _))
  obtain ⟨ao3, cap3, hv3, hown3'⟩ := own_text (t ++ litT x) (by rw [size_arr]; simp [litT]; omega) (by rw [strCells_arr]; simp [litT, c8]) hown3
  have hb1 : Below B w w1 := (Below.refl B w).grown hg1 hB (by simp)
  have hb2 : Below B w w2 := hb1.grown hg2 (Nat.le_trans hB hb1.size) (fun k hk => (hown1.lt k hk).1)
  have hb3 : Below B w w3 := (hb2.alloc (Nat.le_trans hB hb2.size) _).grown hg3 (Nat.le_trans hB (hb2.alloc (Nat.le_trans hB hb2.size) _).size) (fun k hk => (hown2.lt k hk).1)
  go_ret
  exact ⟨ao3, cap3, congrArg Ending.returned hv3, hown3', hb3⟩

set_option maxHeartbeats 1000000 in
theorem appendEnd_any (B : Nat) (ao : Option Addr) (cap : Nat) (t : List UInt8) (w : World)
    (hB : B ≤ w.heap.size) (hown : w.ownsRow B 5 1 (.slice ao t.length cap) t.length (c8 t)) (ht : t.length ≤ 1000000000) :
    Calls Tryz.prog 128 #[.slice ao t.length cap] w fun e w' => ∃ ao' cap', e = .returned (.slice ao' (t ++ [48, 10]).length cap') ∧
      w'.ownsRow B 5 1 (.slice ao' (t ++ [48, 10]).length cap') (t ++ [48, 10]).length (c8 (t ++ [48, 10])) ∧ Below B w w' := by
  obtain ⟨i0, hi, hz0, hz1, hz2⟩ := info_parts Tryz.infoByte
  have d1 : Hid (t.length + 2 ≤ maxLen) := by show _ ≤ _; unfold maxLen; omega
  have d2 : Hid ((t.length + 2) * 1 ≤ 140737488355328) := by show _ ≤ _; omega
  go_enter Tryz.func128, Tryz.ntmps128
  go_wp2_with (at_builtin; refine wpList_append_own _ rfl _ _ 83 rfl B 5 i0 (.int .u8 0) 1 1 Tryz.undBytes hi hz0 hz1 hz2 rfl (by decide) (.slice ao t.length cap) t.length (c8 t) rfl (hown.alloc _) ⟨w.heap.size, 0, none⟩ 2 2 [.int .u8 48, .int .u8 10] rfl rfl (new_cells w [.int .u8 48, .int .u8 10] 5) (c8_one [48, 10]) d1.out d2.out (by simp; exact Nat.le_succ_of_le hB) ?_; intro v3 w3 hown3 hg3 _)
  obtain ⟨ao3, cap3, hv3, hown3'⟩ := own_text (t ++ [48, 10]) (by simp) (by simp [c8]) hown3
  have hb0 : Below B w (w.alloc (.cells [Value.int .u8 48, .int .u8 10].toArray 5)) := (Below.refl B w).alloc hB _
  have hb3 : Below B w w3 := hb0.grown hg3 (Nat.le_trans hB hb0.size) (fun k hk => (hown.lt k hk).1)
  go_ret
  exact ⟨ao3, cap3, congrArg Ending.returned hv3, hown3', hb3⟩

set_option maxHeartbeats 1000000 in
theorem appendClause_any (w0 : World) (ao : Option Addr) (cap : Nat) (t : List UInt8) (a : Option Addr) (c : Nat) (xs : List Int) (w : World)
    (h0 : 0 < w0.heap.size) (htab : Hid (Tab w0)) (hbel : Below w0.heap.size w0 w) (hown : w.ownsRow w0.heap.size 5 1 (.slice ao t.length cap) t.length (c8 t)) (ht : t.length ≤ 1000)
    (hr : IntsAt w0 a xs) (hlit : Hid (xs.all litB = true)) (hbd : xs.length ≤ 9223372036854775807) :
    Calls Tryz.prog 115 #[.slice ao t.length cap, .slice a xs.length c] w fun e w' => ∃ ao' cap' t', e = .returned (.slice ao' t'.length cap') ∧
      w'.ownsRow w0.heap.size 5 1 (.slice ao' t'.length cap') t'.length (c8 t') ∧ Below w0.heap.size w0 w' ∧ t'.length ≤ 1006 ∧ (t' = t ++ clauseT xs ∨ 1000 < t'.length ∧ 1000 < (t ++ clauseT xs).length) := by
  go_enter Tryz.func115, Tryz.ntmps115
  go_wp2
  go_loopw [0, 9] (fun s i wr => ∃ (k : Nat) (ao : Option Addr) (cap : Nat) (t' : List UInt8), k ≤ xs.length ∧ i = .int .i64 k ∧ s = .slice ao t'.length cap ∧ wr.ownsRow w0.heap.size 5 1 (.slice ao t'.length cap) t'.length (c8 t') ∧
      Below w0.heap.size w0 wr ∧ t'.length ≤ 1004 ∧ Hid (t' = t ++ litsT (xs.take k))) (fun _ i _ => xs.length - (intOf i).toNat)
  case atStart => exact ⟨0, ao, cap, t, Nat.zero_le _, rfl, rfl, hown, hbel, by omega, by show _ = _; simp [litsT]⟩
  case round =>
    clear hown hbel ao cap
    obtain ⟨k, ao, cap, t', hk, rfl, rfl, hown, hbel, hlen, heq⟩ := hrel
    by_cases hlt : k < xs.length
    · obtain ⟨b, off, rfl, hc⟩ := (hr.below hbel).get (by omega)
      have hck := hc k hlt
      have hx : litB (xs.getD k 0) = true := by
        have := List.all_eq_true.1 hlit.out (xs.getD k 0) (by rw [List.getD_eq_getElem?_getD, List.getElem?_eq_getElem hlt]; exact List.getElem_mem hlt)
        exact this
      have HS : Hid (litsT (xs.take (k + 1)) = litsT (xs.take k) ++ litT (xs.getD k 0)) := litsT_succ xs k hlt
      clear hc
      generalize xs.getD k 0 = x at hck hx HS
      have hx' : Hid (litB x = true) := hx
      clear hx
      by_cases hgt : 1000 < t'.length
      · have HF : Hid (1000 < (t ++ clauseT xs).length) := by
          show _ < _
          have e1 := heq.out
          have e2 : (litsT (xs.take k)).length ≤ (litsT xs).length := litsT_le xs k
          rw [e1, List.length_append] at hgt
          simp only [clauseT, List.length_append]
          omega
        go_wp2
        go_ret
        exact ⟨ao, cap, t', rfl, hown, hbel, by omega, .inr ⟨hgt, HF.out⟩⟩
      · have hle : t'.length ≤ 1000 := by omega
        have htab1 : Hid (Tab wr) := Tab.below htab.out hbel h0
        have hb0 : w0.heap.size ≤ wr.heap.size := hbel.size
        have HAL := hide (appendLit_any w0.heap.size ao cap t' x wr htab1 hb0 hown (by omega) hx')
        clear hgt
        go_wp2_with fail
        refine (unhide HAL).mono ?_
        rintro e w3 ⟨ao3, cap3, rfl, hown3, hb3⟩
        have hbw3 := hbel.trans hb3
        have hl3 : (t' ++ litT x).length ≤ 1004 := by have := (itoa_short hx'.out).2; simp [litT]; omega
        have HEQ : Hid (t' ++ litT x = t ++ litsT (xs.take (k + 1))) := by show _ = _; rw [heq.out, HS.out, List.append_assoc]
        generalize t' ++ litT x = t3 at *
        clear hb3
        go_wp2
        go_roundw
        case rel => exact ⟨k + 1, ao3, cap3, t3, by omega, by go_num, rfl, hown3, hbw3, hl3, HEQ⟩
        case measure => simp [intOf]; omega
    · have HF : Hid (litsT (xs.take k) = litsT xs) := by show _ = _; rw [List.take_of_length_le (by omega)]
      have hb0 : w0.heap.size ≤ wr.heap.size := hbel.size
      have HAE := hide (appendEnd_any w0.heap.size ao cap t' wr hb0 hown (by omega))
      go_wp2_with fail
      refine (unhide HAE).mono ?_
      rintro e w3 ⟨ao3, cap3, rfl, hown3, hb3⟩
      have hbw3 := hbel.trans hb3
      have hl3 : (t' ++ [48, 10]).length ≤ 1006 := by simp; omega
      have HEQ : Hid (t' ++ [48, 10] = t ++ clauseT xs) := by show _ = _; rw [heq.out, HF.out, clauseT, List.append_assoc]
      generalize t' ++ [48, 10] = t3 at *
      clear hb3
      go_wp2
      go_ret
      exact ⟨ao3, cap3, t3, rfl, hown3, hbw3, hl3, .inl HEQ.out⟩

theorem conv_own {w : World} {base : Nat} {ao : Option Addr} {cap : Nat} {t : List UInt8} (h : w.ownsRow base 5 1 (.slice ao t.length cap) t.length (c8 t)) :
    (convert 83 9 (.slice ao t.length cap)).run Tryz.prog w = .ok (.string ⟨t.toArray⟩) w := by
  have hb : Tryz.prog.underlying 5 = some (.int .u8) := by kernel_rfl
  rcases h.2 with ⟨hv, hn⟩ | ⟨g, cap', cur, hv, _, hh, _⟩
  · have : t = [] := List.eq_nil_of_length_eq_zero hn
    subst this
    simp only [Value.slice.injEq] at hv
    obtain ⟨rfl, _, rfl⟩ := hv
    rw [run_convert_bytes_string w _ _ 5 none _ 0 Tryz.undBytes hb Tryz.undString]
    rfl
  · simp only [Value.slice.injEq] at hv
    obtain ⟨rfl, _, rfl⟩ := hv
    refine run_convert_bytes_back w _ _ 5 _ cap t Tryz.undBytes hb Tryz.undString fun j hj => ?_
    exact h.cells (g := g) rfl j _ (by simp [c8, hj])

theorem textT_succ (xss : List (List Int)) (k : Nat) (h : k < xss.length) : textT (xss.take (k + 1)) = textT (xss.take k) ++ clauseT (xss.getD k []) := by
  rw [List.take_succ_eq_append_getElem h]
  unfold textT
  rw [List.flatMap_append, List.getD_eq_getElem?_getD, List.getElem?_eq_getElem h]
  simp only [List.flatMap_cons, List.flatMap_nil, List.append_nil]
  rfl
theorem textT_le (xss : List (List Int)) (k : Nat) : (textT (xss.take k)).length ≤ (textT xss).length := by
  have h : textT xss = textT (xss.take k) ++ textT (xss.drop k) := by
    unfold textT
    rw [← List.flatMap_append, List.take_append_drop]
  rw [h, List.length_append]; omega

/-- what Write comes to -/
def wrT (xss : List (List Int)) : List UInt8 := if litsB xss then (if 1000 < (textT xss).length then [] else textT xss) else []
def wrE (xss : List (List Int)) : Int := if litsB xss then (if 1000 < (textT xss).length then 2 else 0) else 4
theorem RowsAt.below {w w' : World} {a : Option Addr} {A : Nat → Option Addr} {C : Nat → Nat} {xss : List (List Int)} (h : RowsAt w a A C xss) (hb : Below w.heap.size w w') : RowsAt w' a A C xss :=
  h.kept fun b off _ hv => (hb.cell (p := ⟨b, off, none⟩) (World.block_lt_of_cell? w _ hv)).trans hv
theorem ret_text {s t : List UInt8} {a b : Int} (h : s = t) (h' : a = b) : Ending.returned (.tuple #[.string ⟨s.toArray⟩, .int .i64 a]) = .returned (.tuple #[.string ⟨t.toArray⟩, .int .i64 b]) := by rw [h, h']

set_option maxHeartbeats 1000000 in
theorem writeT_any (a : Option Addr) (c : Nat) (A : Nat → Option Addr) (C : Nat → Nat) (xss : List (List Int)) (w : World) (h0 : 0 < w.heap.size) (htab : Hid (Tab w)) (hbd : xss.length ≤ 9223372036854775807) (hr : RowsAt w a A C xss) :
    Calls Tryz.prog 89 #[.slice a xss.length c] w fun e w' => e = .returned (.tuple #[.string ⟨(wrT xss).toArray⟩, .int .i64 (wrE xss)]) ∧ Below w.heap.size w w' := by
  cases hl : litsB xss
  · have H1 : Hid (wrT xss = []) := by show _ = _; simp [wrT, hl]
    have H2 : Hid (wrE xss = 4) := by show _ = _; simp [wrE, hl]
    go_enter Tryz.func89, Tryz.ntmps89
    go_wp2_with (go_at_call 114; refine (allLiterals_any a xss.length c A C xss _ rfl hbd hr).mono ?_; rintro e w' ⟨rfl, hw⟩; obtain rfl := hw.symm)
    go_ret2
    exact ⟨ret_text H1.out.symm H2.out.symm, Below.refl _ _⟩
  · have HL : Hid (∀ k, k < xss.length → (xss.getD k []).all litB = true) := by
      intro k hk
      have := List.all_eq_true.1 hl (xss.getD k []) (by rw [List.getD_eq_getElem?_getD, List.getElem?_eq_getElem hk]; exact List.getElem_mem hk)
      exact this
    have H0 : Hid (litsB xss = true) := hl
    go_enter Tryz.func89, Tryz.ntmps89
    go_wp2_with (go_at_call 114; refine (allLiterals_any a xss.length c A C xss _ rfl hbd hr).mono ?_; rintro e w' ⟨rfl, hw⟩; obtain rfl := hw.symm)
    clear hl
    go_loopw [4, 12] (fun s i wr => ∃ (k : Nat) (ao : Option Addr) (cap : Nat) (t : List UInt8), k ≤ xss.length ∧ i = .int .i64 k ∧ s = .slice ao t.length cap ∧ wr.ownsRow w.heap.size 5 1 (.slice ao t.length cap) t.length (c8 t) ∧
      Below w.heap.size w wr ∧ t.length ≤ 1000 ∧ Hid (t = textT (xss.take k))) (fun _ i _ => xss.length - (intOf i).toNat)
    case atStart => exact ⟨0, none, 0, [], Nat.zero_le _, rfl, rfl, World.ownsRow_nil _ _ _ _, Below.refl _ _, by simp, rfl⟩
    case round =>
      obtain ⟨k, ao, cap, t, hk, rfl, rfl, hown, hbel, hlen, heq⟩ := hrel
      by_cases hlt : k < xss.length
      · obtain ⟨b, off, rfl, hc⟩ := hr.get (by omega)
        obtain ⟨p1, q1, s1⟩ := hc k hlt
        have p2 : wr.cell? ⟨b, off + k, none⟩ = some (.slice (A k) (xss.getD k []).length (C k)) := (hbel.cell (p := ⟨b, off + k, none⟩) (World.block_lt_of_cell? w _ p1)).trans p1
        have hlx : Hid ((xss.getD k []).all litB = true) := HL.out k hlt
        have HS : Hid (textT (xss.take (k + 1)) = textT (xss.take k) ++ clauseT (xss.getD k [])) := textT_succ xss k hlt
        have HT : Hid ((textT (xss.take (k + 1))).length ≤ (textT xss).length) := textT_le xss (k + 1)
        clear hc p1
        generalize xss.getD k [] = xs at p2 q1 s1 hlx HS
        go_wp2_with (go_at_call 115; refine (appendClause_any w ao cap t (A k) (C k) xs _ h0 htab hbel hown hlen q1 hlx s1).mono ?_; rintro e w1 ⟨ao', cap', t', rfl, hown', hbel', hlen', happ⟩)
        · have hgt : 1000 < t'.length := by omega
          have hlong : 1000 < (textT xss).length := by
            have h1 := HS.out; have h2 := HT.out; have h3 := heq.out
            rcases happ with h4 | h4
            · rw [h4, h3, ← h1] at hgt; omega
            · have := h4.2; rw [h3, ← h1] at this; omega
          go_ret2
          exact ⟨ret_text (by simp [wrT, H0.out, hlong]) (by simp [wrE, H0.out, hlong]), hbel'⟩
        · have hle : t'.length ≤ 1000 := by omega
          have happ' : t' = t ++ clauseT xs := by
            rcases happ with h4 | h4
            · exact h4
            · omega
          go_roundw
          case rel => exact ⟨k + 1, ao', cap', t', by omega, by go_num, rfl, hown', hbel', hle, by show _ = _; rw [happ', HS.out, heq.out]⟩
          case measure => simp [intOf]; omega
      · have hcv := conv_own hown
        have HF : Hid (t = textT xss) := by show _ = _; rw [heq.out, List.take_of_length_le (by omega)]
        go_wp2
        go_ret2
        have hs : ¬ 1000 < (textT xss).length := by rw [← HF.out]; omega
        exact ⟨ret_text (by rw [HF.out]; simp [wrT, H0.out, hs]) (by simp [wrE, H0.out, hs]), hbel⟩

set_option maxHeartbeats 400000 in
theorem write_any (a : Option Addr) (c : Nat) (A : Nat → Option Addr) (C : Nat → Nat) (xss : List (List Int)) (w : World) (h0 : 0 < w.heap.size) (htab : Hid (Tab w)) (hbd : xss.length ≤ 9223372036854775807) (hr : RowsAt w a A C xss) :
    Calls Tryz.prog 54 #[.slice a xss.length c] w fun e w' => e = .returned (.tuple #[.string ⟨(wrT xss).toArray⟩, .int .i64 (wrE xss)]) ∧ Below w.heap.size w w' := by
  go_enter Tryz.func54, Tryz.ntmps54
  go_wp2_with (go_at_call 89; refine (writeT_any a c A C xss _ h0 htab hbd hr).mono ?_; rintro e w' ⟨rfl, hb⟩)
  go_ret2
  exact ⟨rfl, hb⟩

end Go.Proofs.YthboeppmlhbofaaGreatDoor
