/-
  proofs: a step, the walk.
-/
import Derived.Test.YthboeppmlhbofaaGreatDoorLns
import Derived.Test.YthboeppmlhbofaaGreatDoorApn
namespace Go.Proofs.YthboeppmlhbofaaGreatDoor
open Go.RowKit Txt
set_option maxRecDepth 100000

theorem posOk_lt (xs : List Int) : posOk xs < 2 ^ 11 := by
  unfold posOk
  split
  · rename_i h; exact posN_lt xs h
  · decide
theorem negOk_lt (xs : List Int) : negOk xs < 2 ^ 11 := by
  unfold negOk
  split
  · rename_i h; exact negN_lt xs h
  · decide
/-- a line's step -/
def stepN (ns : List Nd) (lt : Nat) (xs : List Int) : Int × List Nd :=
  if lt = 100 then (match dropN ns (posOk xs) (negOk xs) with | none => (8, ns) | some ns' => (0, ns'))
  else if followsN ns (posOk xs) (negOk xs) = false then (7, ns) else if lt = 97 then (0, addN ns (posOk xs) (negOk xs) 1) else (0, ns)

set_option maxHeartbeats 4000000 in
theorem step_anyP (w : World) (B cb : Nat) (na : Option Addr) (nc : Nat) (ns : List Nd) (h : TreeI w B cb na nc ns) (hw : Wf ns) (M : Nat) (hcb : CB ns M) (lt : Nat) (a : Option Addr) (c : Nat) (xs : List Int) (hx : xs.length ≤ 9223372036854775807) (hi : IntsAt w a xs) (hB : B ≤ w.heap.size) (hl : ns.length ≤ 90000000) (hM : M + 1 ≤ 9223372036854775807) :
    Calls Tryz.prog 117 #[.pointer (some ⟨cb, 0, none⟩), .agg #[.int .u8 lt, .slice a xs.length c]] w fun e w' => e = .returned (.int .i64 (stepN ns lt xs).1) ∧ ∃ na' nc', TreeN w w' B cb na nc ns.length na' nc' (stepN ns lt xs).2 := by
  have hb1 : Below w.heap.size w (w.alloc (.cells #[.int .u8 lt, .slice a xs.length c] 121)) := (Below.refl _ _).alloc (Nat.le_refl _) _
  have r1 : Row (w.alloc (.cells #[.int .u8 lt, .slice a xs.length c] 121)) w.heap.size 121 [.int .u8 lt, .slice a xs.length c] := heap_alloc_new w _
  have HO := hide (of_any a c xs (w.alloc (.cells #[.int .u8 lt, .slice a xs.length c] 121)) hx (hi.below hb1))
  have pl := posOk_lt xs
  have nl := negOk_lt xs
  have HI := hide h
  have HW := hide hw
  have HCB := hide hcb
  have HB1 := hide hb1
  have R1 := hide r1
  have HSN : Hid (stepN ns lt xs = (if lt = 100 then (match dropN ns (posOk xs) (negOk xs) with | none => ((8 : Int), ns) | some ns' => (0, ns')) else if followsN ns (posOk xs) (negOk xs) = false then (7, ns) else if lt = 97 then (0, addN ns (posOk xs) (negOk xs) 1) else (0, ns))) := rfl
  generalize stepN ns lt xs = SN at *
  generalize posOk xs = t at *
  generalize negOk xs = f at *
  generalize xs.all litB = al at *
  clear h hw hcb hb1 r1 hi
  go_enter Tryz.func117, Tryz.ntmps117
  go_wp2_with fail
  refine (unhide HO).mono ?_
  generalize w.alloc (.cells #[.int .u8 lt, .slice a xs.length c] 121) = w1 at *
  rintro e w2 ⟨rfl, hb2⟩
  have B2 : Hid (Below w.heap.size w w2) := HB1.out.trans (hb2.mono HB1.out.size)
  have hz2 : w.heap.size ≤ w2.heap.size := B2.out.size
  have hb3 : Below w2.heap.size w2 (w2.alloc (.cells #[.int .i64 t, .int .i64 f] 101)) := (Below.refl _ _).alloc (Nat.le_refl _) _
  have r3 : Row (w2.alloc (.cells #[.int .i64 t, .int .i64 f] 101)) w2.heap.size 101 [.int .i64 t, .int .i64 f] := heap_alloc_new w2 _
  have RL2 := row_below R1.out hb2
  have q0 : w2.cell? ⟨w.heap.size, 0, none⟩ = some (.int .u8 lt) := (RL2.cell 0).trans rfl
  have hlw : w.heap.size < w2.heap.size := RL2.lt
  have B3 : Hid (Below w.heap.size w (w2.alloc (.cells #[.int .i64 t, .int .i64 f] 101))) := B2.out.trans (hb3.mono hz2)
  have RL3 := hide (row_below RL2 hb3)
  have R3 := hide r3
  have T3 := hide (HI.out.below B3.out)
  have HD := hide (drop_any _ B cb na nc ns T3.out HW.out M HCB.out t f pl nl (by omega))
  have HF := hide (follows_any ns HW.out T3.out.pos cb na nc t f pl nl _ T3.out.row (nodes_own T3.out.own T3.out.pos))
  clear hb2 hb3 r3 HO RL2
  have hcast : ∀ b : Nat, (((lt : Nat) : Int) == (b : Int)) = (lt == b) := fun b => nat_beq _ _
  by_cases h100 : lt = 100
  · have k1 : (((lt : Nat) : Int) == 100) = true := by rw [show ((100 : Int)) = ((100 : Nat) : Int) from rfl, hcast]; simpa using h100
    have HSN2 := HSN.out
    rw [if_pos h100] at HSN2
    have HS2 := hide HSN2
    clear hcast HSN HSN2 h100 HF
    go_wp2_with fail
    refine (unhide HD).mono ?_
    intro e w4 hp
    cases hdr : dropN ns t f with
    | none =>
      rw [hdr] at hp HS2
      obtain ⟨rfl, hb4⟩ := hp
      have HN : Hid (TreeN w w4 B cb na nc ns.length na nc ns) := (TreeN.of HI.out B3.out).trans (TreeN.of T3.out hb4)
      clear hb4
      go_wp2
      go_ret
      rw [HS2.out]
      exact ⟨rfl, na, nc, HN.out⟩
    | some ns' =>
      rw [hdr] at hp HS2
      obtain ⟨rfl, na', nc', hn⟩ := hp
      have HN : Hid (TreeN w w4 B cb na nc ns.length na' nc' ns') := (TreeN.of HI.out B3.out).trans hn
      clear hn
      go_wp2
      go_ret
      rw [HS2.out]
      exact ⟨rfl, na', nc', HN.out⟩
  · have k1 : (((lt : Nat) : Int) == 100) = false := by rw [show ((100 : Int)) = ((100 : Nat) : Int) from rfl, hcast]; simpa using h100
    have HSN2 := HSN.out
    rw [if_neg h100] at HSN2
    have HS2 := hide HSN2
    clear HSN HSN2 h100 HD
    have k97 : (((lt : Nat) : Int) == 97) = (lt == 97) := hcast 97
    clear hcast
    go_wp2_with fail
    refine (unhide HF).mono ?_
    rintro e w4 ⟨rfl, hb4⟩
    have T4 := hide (T3.out.below hb4)
    have N4 : Hid (TreeN w w4 B cb na nc ns.length na nc ns) := (TreeN.of HI.out B3.out).trans (TreeN.of T3.out hb4)
    have RL4 := row_below RL3.out hb4
    have RS4 := row_below R3.out hb4
    have l0 : w4.cell? ⟨w.heap.size, 0, none⟩ = some (.int .u8 lt) := (RL4.cell 0).trans rfl
    have s0 : w4.cell? ⟨w2.heap.size, 0, none⟩ = some (.int .i64 t) := (RS4.cell 0).trans rfl
    have s1 : w4.cell? ⟨w2.heap.size, 1, none⟩ = some (.int .i64 f) := (RS4.cell 1).trans rfl
    have hz4 : B ≤ w4.heap.size := Nat.le_trans hB N4.out.kept.size
    have HA := hide (addC_any w4 B cb na nc ns T4.out HW.out M HCB.out t f 1 pl nl hz4 hl hM)
    clear hb4 RL4 RS4
    cases hfo : followsN ns t f with
    | false =>
      rw [hfo] at HS2
      go_wp2
      go_ret
      rw [HS2.out]
      exact ⟨rfl, na, nc, N4.out⟩
    | true =>
      rw [hfo] at HS2
      by_cases h97 : lt = 97
      · have k2 : (((lt : Nat) : Int) == 97) = true := by rw [k97]; simpa using h97
        have HS3 := HS2.out
        rw [if_neg (by simp), if_pos h97] at HS3
        have HS4 := hide HS3
        clear HS2 HS3 h97 k97
        go_wp2_with fail
        refine (unhide HA).mono ?_
        rintro e w5 ⟨rfl, na', nc', hn⟩
        have HN : Hid (TreeN w w5 B cb na nc ns.length na' nc' (addN ns t f 1)) := N4.out.trans hn
        clear hn
        go_wp2
        go_ret
        rw [HS4.out]
        exact ⟨rfl, na', nc', HN.out⟩
      · have k2 : (((lt : Nat) : Int) == 97) = false := by rw [k97]; simpa using h97
        have HS3 := HS2.out
        rw [if_neg (by simp), if_neg h97] at HS3
        have HS4 := hide HS3
        clear HS2 HS3 h97 k97
        go_wp2
        go_ret
        rw [HS4.out]
        exact ⟨rfl, na, nc, N4.out⟩

end Go.Proofs.YthboeppmlhbofaaGreatDoor

/-
  proofs: Check, the walk.
-/
namespace Go.Proofs.YthboeppmlhbofaaGreatDoor
open Go.RowKit Txt
set_option maxRecDepth 100000

theorem rdl_gt {l : List UInt8} : ∀ (m p : Nat) (acc : List Int) (xs : List Int) (q : Nat), rdl l m p acc = some (xs, q) → p < q ∧ q ≤ l.length ∧ xs.length ≤ acc.length + (q - p) := by
  intro m
  induction m with
  | zero => intro p acc xs q h; simp [rdl] at h
  | succ m ih =>
    intro p acc xs q h
    simp only [rdl] at h
    split at h
    · split at h
      · simp at h
      · split at h
        · simp only [Option.some.injEq, Prod.mk.injEq] at h
          obtain ⟨rfl, rfl⟩ := h
          exact ⟨by omega, by omega, by omega⟩
        · split at h
          · simp at h
          · obtain ⟨h1, h2, h3⟩ := ih _ _ _ _ h
            rw [snoc_len] at h3
            exact ⟨by omega, h2, by omega⟩
    · simp at h
theorem rdLine_gt {l : List UInt8} {p lt q : Nat} {xs : List Int} (h : rdLine l p = some (lt, xs, q)) : p < q ∧ q ≤ l.length ∧ xs.length ≤ q := by
  unfold rdLine at h
  split at h
  · cases hr : rdl l (l.length + 1) (p + 2) [] with
    | none => rw [hr] at h; simp at h
    | some r =>
      obtain ⟨ys, z⟩ := r
      rw [hr] at h
      simp only [Option.map_some, Option.some.injEq, Prod.mk.injEq] at h
      obtain ⟨_, rfl, rfl⟩ := h
      obtain ⟨h1, h2, h3⟩ := rdl_gt _ _ _ _ _ hr
      simp only [List.length_nil] at h3
      exact ⟨by omega, h2, by omega⟩
  · simp at h
theorem stepN_wf {ns : List Nd} {M : Nat} (hw : Wf ns) (hp : 0 < ns.length) (hc : CB ns M) (lt : Nat) (xs : List Int) : Wf (stepN ns lt xs).2 ∧ 0 < (stepN ns lt xs).2.length ∧ CB (stepN ns lt xs).2 (M + 1) ∧ (stepN ns lt xs).2.length ≤ ns.length + 10 := by
  have h0 : Wf ns ∧ 0 < ns.length ∧ CB ns (M + 1) ∧ ns.length ≤ ns.length + 10 := ⟨hw, hp, fun j => Nat.le_succ_of_le (hc j), by omega⟩
  unfold stepN
  split
  · unfold dropN
    cases hd : dropTo ns (posOk xs) (negOk xs) 10 with
    | none => exact h0
    | some a =>
      have ha := dropTo_lt hw hp _ _ _ _ hd
      by_cases hz : (ns.getD a nd0).c = 0
      · simp only [hz, if_true]; exact h0
      · simp only [hz, if_false]
        refine ⟨fun j hj => ?_, by rw [List.length_set]; exact hp, fun j => ?_, by rw [List.length_set]; omega⟩
        · rw [List.length_set] at hj ⊢
          rw [getD_set _ _ _ _ ha]
          split
          · exact hw a ha
          · exact hw j hj
        · rw [getD_set _ _ _ _ ha]
          split
          · have := hc a
            show (ns.getD a nd0).c - 1 ≤ _
            omega
          · exact Nat.le_succ_of_le (hc j)
  · split
    · exact h0
    · split
      · obtain ⟨h1, h2, h3⟩ := addN_wf hw hp (posOk xs) (negOk xs) 1
        exact ⟨h1, h3, addN_cb hc hw hp _ _ _, h2⟩
      · exact h0

/-- the lines of a proof -/
def chkN (l : List UInt8) : Nat → List Nd → Nat → Nat → Nat → List Int → List Int × Int × Nat
  | 0, _, _, n, _, _ => ([], 3, n)
  | m + 1, ns, p, n, lt, xs =>
    if p < l.length then
      match rdLine l p with
      | none => ([], 3, n)
      | some (lt', xs', q) => if (stepN ns lt' xs').1 ≠ 0 then ([], (stepN ns lt' xs').1, n) else chkN l m (stepN ns lt' xs').2 q (n + 1) lt' xs'
    else if lt ≠ 101 then ([], 9, n) else (xs, 0, n)
/-- behind Check -/
def CkPost (B : Nat) (w : World) (r : List Int × Int × Nat) (e : Ending) (w' : World) : Prop := Below B w w' ∧ ∃ a c, e = .returned (.tuple #[.slice a r.1.length c, .int .i64 r.2.1, .int .i64 (r.2.2 : Nat)]) ∧ w'.ownsRow B 3 1 (.slice a r.1.length c) r.1.length (i64s r.1)
theorem u_nL : (158 : Nat) ≠ 121 := by decide
theorem u_ni : (158 : Nat) ≠ 3 := by decide
theorem u_Ci : (3 : Nat) ≠ 161 := by decide
theorem u_CL : (121 : Nat) ≠ 161 := by decide
/-- a row that is none of the tree's stays -/
theorem Kept.row {w w' : World} {B cb n g t : Nat} {na : Option Addr} {nc : Nat} {ns : List Nd} {zs : List Value} (hk : Kept w w' cb (.slice na n nc)) (h : TreeI w B cb na nc ns) (hr : Row w g t zs) (h1 : 158 ≠ t) (h2 : t ≠ 161) : Row w' g t zs := by
  refine (hk.block g hr.lt (fun e => ?_) ?_).trans hr
  · subst e
    have a1 : w.heap[g]? = some (.cells zs.toArray t (0, 0)) := hr
    have a2 : w.heap[g]? = some (.cells [Value.slice na ns.length nc].toArray 161 (0, 0)) := h.row
    rw [a1] at a2
    simp only [Option.some.injEq, Obj.cells.injEq] at a2
    exact h2 a2.2.1
  · have e : (Value.slice na n nc).ownBlock = (Value.slice na ns.length nc).ownBlock := own_len
    rw [e]
    exact own_ty h.own hr h1
theorem Kept.own {w w' : World} {B B' cb n m s t : Nat} {na : Option Addr} {nc : Nat} {ns : List Nd} {v : Value} {zs : List Value} (hk : Kept w w' cb (.slice na n nc)) (h : TreeI w B cb na nc ns) (hr : w.ownsRow B' t s v m zs) (h1 : 158 ≠ t) (h2 : t ≠ 161) : w'.ownsRow B' t s v m zs := by
  refine ⟨hr.1, ?_⟩
  rcases hr.2 with hn | ⟨g, cap, cur, hv, q1, hg, r⟩
  · exact .inl hn
  · refine .inr ⟨g, cap, cur, hv, q1, ?_, r⟩
    have hrow : Row w g t cur.toList := by show _ = _; rw [hg]
    exact (hk.row h hrow h1 h2).trans (by rw [Array.toArray_toList])
theorem tree_below {w w' : World} {B cb n : Nat} {na na' : Option Addr} {nc nc' : Nat} {ns ns' : List Nd} (h : TreeI w B cb na nc ns) (hn : TreeN w w' B cb na nc n na' nc' ns') (hB : B ≤ w.heap.size) : Below B w w' :=
  ⟨hn.kept.os, hn.kept.tape, hn.kept.output, hn.kept.size, fun k hk => hn.kept.block k (by omega) (by have := h.base; omega) (fun e => by
    have e' : (Value.slice na ns.length nc).ownBlock = some k := by rw [← e]; exact own_len
    have := (h.own.lt k e').1
    omega)⟩

theorem own_low {w : World} {b B e s n : Nat} {v : Value} {xs : List Value} (h : w.ownsRow b e s v n xs) (hb : B ≤ b) : w.ownsRow B e s v n xs := by
  refine ⟨h.1, ?_⟩
  rcases h.2 with hn | ⟨g, cap, cur, hv, h1, r⟩
  · exact .inl hn
  · exact .inr ⟨g, cap, cur, hv, Nat.le_trans hb h1, r⟩

set_option maxHeartbeats 4000000 in
theorem check_anyP (w : World) (B cb : Nat) (na : Option Addr) (nc : Nat) (ns : List Nd) (h : TreeI w B cb na nc ns) (hw : Wf ns) (M : Nat) (hcb : CB ns M) (s : ByteArray) (hs : s.size ≤ 4194304) (hB : B ≤ w.heap.size) (hl : ns.length ≤ 10000000) (hM : M + 4194304 ≤ 9223372036854775807) :
    Calls Tryz.prog 91 #[.pointer (some ⟨cb, 0, none⟩), .string s] w (CkPost B w (chkN (bs s) (s.size + 1) ns 0 0 0 [])) := by
  have hb1 : Below w.heap.size w (w.alloc (.cells #[.int .u8 0, .slice none 0 0] 121)) := (Below.refl _ _).alloc (Nat.le_refl _) _
  have r1 : Row (w.alloc (.cells #[.int .u8 0, .slice none 0 0] 121)) w.heap.size 121 [.int .u8 0, .slice none 0 0] := heap_alloc_new w _
  have N1 := hide (TreeN.of h hb1)
  have R1 := hide r1
  have HI := hide h
  have HW := hide hw
  have HCB := hide hcb
  have hp := h.pos
  have HRS : Hid (chkN (bs s) (s.size + 1) ns 0 0 0 [] = chkN (bs s) (s.size + 1) ns 0 0 0 []) := rfl
  generalize hres : chkN (bs s) (s.size + 1) ns 0 0 0 [] = RES at HRS ⊢
  have HRES := hide hres
  clear h hw hcb hb1 r1 hres HRS
  go_enter Tryz.func91, Tryz.ntmps91
  go_wp2_with fail
  generalize w.alloc (.cells #[.int .u8 0, .slice none 0 0] 121) = w1 at *
  go_loopw [8, 9] (fun x8 x9 wr => ∃ (n p m lt : Nat) (ns1 : List Nd) (na1 : Option Addr) (nc1 : Nat) (xs : List Int) (a : Option Addr) (c : Nat), x8 = .int .i64 n ∧ x9 = .int .i64 p ∧ n ≤ p ∧ p ≤ s.size ∧ s.size < p + m ∧ ns1.length ≤ ns.length + 10 * n ∧ Hid (TreeN w wr B cb na nc ns.length na1 nc1 ns1) ∧ Hid (Wf ns1) ∧ Hid (CB ns1 (M + n)) ∧ Hid (Row wr w.heap.size 121 [.int .u8 lt, .slice a xs.length c]) ∧ Hid (wr.ownsRow B 3 1 (.slice a xs.length c) xs.length (i64s xs)) ∧ Hid (chkN (bs s) m ns1 p n lt xs = RES)) (fun _ x9 _ => s.size - (intOf x9).toNat)
  case atStart => exact ⟨0, 0, s.size + 1, 0, ns, na, nc, [], none, 0, rfl, rfl, by omega, by omega, by omega, by omega, N1, HW, HCB, R1, ⟨rfl, .inl ⟨rfl, rfl⟩⟩, HRES⟩
  case round =>
    clear N1 R1 HRES
    obtain ⟨n, p, m, lt, ns1, na1, nc1, xs, a, c, rfl, rfl, hnp, hps, hm, hnl, HT, HW1, HC1, RL, HO, HF⟩ := hrel
    obtain ⟨m, rfl⟩ : ∃ k, m = k + 1 := ⟨m - 1, by omega⟩
    have hf := HF.out
    simp only [chkN, bs_length] at hf
    have l0 : wr.cell? ⟨w.heap.size, 0, none⟩ = some (.int .u8 lt) := (RL.out.cell 0).trans rfl
    have l1 : wr.cell? ⟨w.heap.size, 1, none⟩ = some (.slice a xs.length c) := (RL.out.cell 1).trans rfl
    have hzr : w.heap.size ≤ wr.heap.size := HT.out.kept.size
    have hcast : ∀ b : Nat, (((lt : Nat) : Int) == (b : Int)) = (lt == b) := fun b => nat_beq _ _
    by_cases hlt : p < s.size
    · rw [if_pos hlt] at hf
      have HRL := hide (readLine_any s p wr hs hps)
      clear hcast
      go_wp2_with fail
      refine (unhide HRL).mono ?_
      rintro e w2 ⟨hb2, hp2⟩
      cases hrl : rdLine (bs s) p with
      | none =>
        rw [hrl] at hp2 hf
        simp only at hp2 hf
        subst hp2
        have BB : Hid (∀ x, Below B w (w2.alloc x)) := fun x => (tree_below HI.out HT.out hB).trans ((hb2.alloc hb2.size x).mono (by omega))
        have HRR := hide hf
        clear hf hb2 HRL
        go_wp2
        go_ret3
        rw [← HRR.out]
        exact ⟨BB.out _, none, 0, rfl, rfl, .inl ⟨rfl, rfl⟩⟩
      | some r =>
        obtain ⟨lt', xs', q⟩ := r
        rw [hrl] at hp2 hf
        simp only at hp2 hf
        obtain ⟨a', c', rfl, ho2⟩ := hp2
        obtain ⟨g1, g2, g3⟩ := rdLine_gt hrl
        rw [bs_length] at g2
        have hb3 : Below w2.heap.size w2 (w2.alloc (.cells #[.int .u8 lt', .slice a' xs'.length c'] 121)) := (Below.refl _ _).alloc (Nat.le_refl _) _
        have r3 : Row (w2.alloc (.cells #[.int .u8 lt', .slice a' xs'.length c'] 121)) w2.heap.size 121 [.int .u8 lt', .slice a' xs'.length c'] := heap_alloc_new w2 _
        have hz2 : wr.heap.size ≤ w2.heap.size := hb2.size
        have hb23 : Below wr.heap.size wr (w2.alloc (.cells #[.int .u8 lt', .slice a' xs'.length c'] 121)) := hb2.trans (hb3.mono hz2)
        have T3 := hide (HT.out.t.below hb23)
        have N3 : Hid (TreeN w (w2.alloc (.cells #[.int .u8 lt', .slice a' xs'.length c'] 121)) B cb na nc ns.length na1 nc1 ns1) := HT.out.trans (TreeN.of HT.out.t hb23)
        have O3 : Hid ((w2.alloc (.cells #[.int .u8 lt', .slice a' xs'.length c'] 121)).ownsRow B 3 1 (.slice a' xs'.length c') xs'.length (i64s xs')) := (own_low ho2 (by omega)).alloc _
        have RL3 := hide (row_below RL.out hb23)
        have R3 := hide r3
        have hz3 : w2.heap.size < (w2.alloc (.cells #[.int .u8 lt', .slice a' xs'.length c'] 121)).heap.size := by simp
        have HST := hide (step_anyP _ B cb na1 nc1 ns1 T3.out HW1.out (M + n) HC1.out lt' a' c' xs' (by omega) (own_intsAt O3.out) (by omega) (by omega) (by omega))
        have WFS := hide (stepN_wf HW1.out T3.out.pos HC1.out lt' xs')
        have HRR := hide hf
        generalize stepN ns1 lt' xs' = SN at *
        obtain ⟨er, ns2⟩ := SN
        simp only at HST WFS HRR
        clear hf hb2 ho2 hb3 r3 hb23 HRL hrl
        go_wp2_with fail
        refine (unhide HST).mono ?_
        generalize w2.alloc (.cells #[.int .u8 lt', .slice a' xs'.length c'] 121) = w3 at *
        rintro e w4 ⟨rfl, na2, nc2, hn4⟩
        have N4 : Hid (TreeN w w4 B cb na nc ns.length na2 nc2 ns2) := N3.out.trans hn4
        have RL4 := hide (hn4.kept.row T3.out RL3.out u_nL u_CL)
        have R4 := hide (hn4.kept.row T3.out R3.out u_nL u_CL)
        have O4 := hide (hn4.kept.own T3.out O3.out u_ni u_Ci)
        have BB : Hid (Below B w w4) := tree_below HI.out N4.out hB
        clear hn4 HST
        by_cases her : er = 0
        · subst her
          have HR2 := HRR.out
          rw [if_neg (by simp)] at HR2
          have HR3 := hide HR2
          have y0 : w4.cell? ⟨w2.heap.size, 0, none⟩ = some (.int .u8 lt') := (R4.out.cell 0).trans rfl
          have y1 : w4.cell? ⟨w2.heap.size, 1, none⟩ = some (.slice a' xs'.length c') := (R4.out.cell 1).trans rfl
          have x0 : w4.cell? ⟨w.heap.size, 0, none⟩ = some (.int .u8 lt) := (RL4.out.cell 0).trans rfl
          have x1 : w4.cell? ⟨w.heap.size, 1, none⟩ = some (.slice a xs.length c) := (RL4.out.cell 1).trans rfl
          have z0 := RL4.out.frozen 0
          have z1 := RL4.out.frozen 1
          have R9 := hide ((RL4.out.set 0 (.int .u8 lt')).set 1 (.slice a' xs'.length c'))
          have O9 : Hid (((w4.setCell ⟨w.heap.size, 0, none⟩ (.int .u8 lt')).setCell ⟨w.heap.size, 1, none⟩ (.slice a' xs'.length c')).ownsRow B 3 1 (.slice a' xs'.length c') xs'.length (i64s xs')) := own_setN (RL4.out.set 0 _) 1 _ u_iL (own_setN RL4.out 0 _ u_iL O4.out)
          have hk9 : ∀ b, b ≠ w.heap.size → ((w4.setCell ⟨w.heap.size, 0, none⟩ (.int .u8 lt')).setCell ⟨w.heap.size, 1, none⟩ (.slice a' xs'.length c')).heap[b]? = w4.heap[b]? := fun b hb => (Below.heap_setCell _ ⟨w.heap.size, 1, none⟩ _ b hb).trans (Below.heap_setCell _ ⟨w.heap.size, 0, none⟩ _ b hb)
          have N9 : Hid (TreeN w ((w4.setCell ⟨w.heap.size, 0, none⟩ (.int .u8 lt')).setCell ⟨w.heap.size, 1, none⟩ (.slice a' xs'.length c')) B cb na nc ns.length na2 nc2 ns2) := by
            refine ⟨⟨?_, own_setN (RL4.out.set 0 _) 1 _ u_nL (own_setN RL4.out 0 _ u_nL N4.out.t.own), N4.out.t.pos, N4.out.t.base⟩, ?_, N4.out.lies⟩
            · exact (hk9 cb (by have := HI.out.row.lt; omega)).trans N4.out.t.row
            · exact ⟨N4.out.kept.os, N4.out.kept.tape, N4.out.kept.output, by simpa [World.setCell] using N4.out.kept.size, fun k hk hg hv => (hk9 k (by omega)).trans (N4.out.kept.block k hk hg hv)⟩
          clear hk9 HRR HR2
          go_wp2
          go_roundw
          case rel => exact ⟨n + 1, q, m, lt', ns2, na2, nc2, xs', a', c', by go_num, rfl, by omega, by omega, by omega, by have := WFS.out.2.2.2; omega, N9, WFS.out.1, by have := WFS.out.2.2.1; exact this, R9, O9, HR3⟩
          case measure => simp [intOf]; omega
        · have heri : (er != 0) = true := by simp; exact her
          have HR2 := HRR.out
          rw [if_pos her] at HR2
          have HR3 := hide HR2
          clear HRR HR2 her
          go_wp2
          go_ret3
          rw [← HR3.out]
          exact ⟨BB.out, none, 0, rfl, rfl, .inl ⟨rfl, rfl⟩⟩
    · rw [if_neg hlt] at hf
      have BB : Hid (Below B w wr) := tree_below HI.out HT.out hB
      by_cases h101 : lt = 101
      · rw [if_neg (by simp [h101])] at hf
        have HRR := hide hf
        have k1 : (((lt : Nat) : Int) != 101) = false := by rw [bne, show ((101 : Int)) = ((101 : Nat) : Int) from rfl, hcast]; simp [h101]
        clear hf hcast h101
        go_wp2
        go_ret3
        rw [← HRR.out]
        exact ⟨BB.out, a, c, rfl, HO.out⟩
      · rw [if_pos h101] at hf
        have HRR := hide hf
        have k1 : (((lt : Nat) : Int) != 101) = true := by rw [bne, show ((101 : Int)) = ((101 : Nat) : Int) from rfl, hcast]; simp [h101]
        clear hf hcast h101
        go_wp2
        go_ret3
        rw [← HRR.out]
        exact ⟨BB.out, none, 0, rfl, rfl, .inl ⟨rfl, rfl⟩⟩

end Go.Proofs.YthboeppmlhbofaaGreatDoor
