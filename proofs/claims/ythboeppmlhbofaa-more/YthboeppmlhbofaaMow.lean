/-
  trailkeep.More: the walk.
-/
import Derived.Test.YthboeppmlhbofaaMoq
import Derived.Test.YthboeppmlhbofaaKpt
import Derived.OwnWalk
namespace Go.Proofs.Ythboeppmlhbofaa
open Go.RowKit Txt
set_option maxRecDepth 100000

def vals (cls : List (List Int)) (A : Nat → Option Addr) (C : Nat → Nat) : List Value := (List.range cls.length).map fun r => .slice (A r) (cls.getD r []).length (C r)
theorem vals_len (cls : List (List Int)) (A : Nat → Option Addr) (C : Nat → Nat) : (vals cls A C).length = cls.length := by simp [vals]
theorem vals_at (cls : List (List Int)) (A : Nat → Option Addr) (C : Nat → Nat) {r : Nat} (h : r < cls.length) : (vals cls A C)[r]? = some (.slice (A r) (cls.getD r []).length (C r)) := by
  simp [vals, h]
theorem rows_more {w w' : World} {a ax a3 : Option Addr} {A : Nat → Option Addr} {C : Nat → Nat} {cls : List (List Int)} {xs : List Int} {B cx c3 : Nat} (hr : RowsAt w a A C cls) (hx : IntsAt w ax xs) (hxl : xs.length ≤ 9223372036854775807) (hb : Below w.heap.size w w')
    (ho : w'.ownsRow B 24 1 (.slice a3 (cls.length + 1) c3) (cls.length + 1) (vals cls A C ++ [.slice ax xs.length cx])) : RowsAt w' a3 (fun r => if r < cls.length then A r else ax) (fun r => if r < cls.length then C r else cx) (cls ++ [xs]) := by
  rcases ho.2 with ⟨_, h0⟩ | ⟨g, cap, cur, hv, _⟩
  · omega
  · simp only [Value.slice.injEq] at hv
    obtain ⟨rfl, _, rfl⟩ := hv
    refine .inr ⟨g, 0, rfl, fun r hl => ?_⟩
    have hl' : r < cls.length + 1 := by simpa using hl
    by_cases h : r < cls.length
    · have e : (cls ++ [xs]).getD r [] = cls.getD r [] := by rw [List.getD_eq_getElem?_getD, List.getElem?_append_left h, List.getD_eq_getElem?_getD]
      have h1 := ho.cells (g := g) rfl r _ (by rw [List.getElem?_append_left (by rw [vals_len]; exact h)]; exact vals_at cls A C h)
      rw [addr0] at h1
      obtain ⟨b, off, _, hc⟩ := (rows_below hr hb).get (by omega)
      obtain ⟨_, q1, q2⟩ := hc r h
      simp only [h, ↓reduceIte, e]
      exact ⟨h1, q1, q2⟩
    · have er : r = cls.length := by omega
      subst er
      have e : (cls ++ [xs]).getD cls.length [] = xs := by rw [List.getD_eq_getElem?_getD, List.getElem?_append_right (Nat.le_refl _), Nat.sub_self]; rfl
      have h1 := ho.cells (g := g) rfl cls.length (.slice ax xs.length cx) (by rw [List.getElem?_append_right (by rw [vals_len]; exact Nat.le_refl _), vals_len, Nat.sub_self]; rfl)
      rw [addr0] at h1
      simp only [Nat.lt_irrefl, ↓reduceIte, e]
      exact ⟨h1, hx.below hb, hxl⟩
theorem wpList_append_nothing {P : Program} (w : World) {ops : Array Oper} {rest : List Oper} {o : Oper} {a : Act} {Q : Exit → Act → World → Prop} (hgd : o.guard = none) (s x : Operand) (t : TypeId)
    (ho : o.op = .call { callee := .builtin .append, args := #[s, x], argTypes := #[t, t] })
    (base : Nat) (e : TypeId) (i : TypeInfo) (size : Nat) (ht : P.underlying t = some (.slice e)) (hi : P.info? e = some i)
    (v : Value) (n : Nat) (xs : List Value) (hs : a.eval s = v) (hown : w.ownsRow base e size v n xs) (hx : a.eval x = .slice none 0 0)
    (h : wpList P ops Q rest (a.put o.dst v) w) : wpList P ops Q (o :: rest) a w := by
  refine wpList_plain hgd fun _ hK => ?_
  have hr := run_append_owned_none (P := P) (w := w) base t o.type e i size ht hi v n xs hown
  unfold Oper.wp execOp
  simp only [ho, resolve, invoke, builtin, Sem.run_bind, Sem.run_pure, Result.andThen_ok, List.map_toArray, List.map_cons, List.map_nil, hs, hx, hr]
  exact hK _ _ h

theorem rows_src {w : World} {a : Option Addr} {A : Nat → Option Addr} {C : Nat → Nat} {cls : List (List Int)} (h : RowsAt w a A C cls) : ∀ ad, a = some ad → ∀ j u, (vals cls A C)[j]? = some u → w.cell? (ad.add j) = some u := by
  intro ad had j u hu
  have hj : j < cls.length := by have := (List.getElem?_eq_some_iff.1 hu).1; rwa [vals_len] at this
  rcases h with rfl | ⟨b, off, rfl, hc⟩
  · simp at hj
  · simp only [Option.some.injEq] at had
    subst had
    have hadd : (⟨b, off, none⟩ : Addr).add j = ⟨b, off + j, none⟩ := by unfold Addr.add; split <;> simp_all
    rw [vals_at cls A C hj] at hu
    rw [hadd, (hc j hj).1, hu]
theorem vals_one (cls : List (List Int)) (A : Nat → Option Addr) (C : Nat → Nat) : ∀ u ∈ vals cls A C, u.oneCell' = true := by
  intro u hu
  simp only [vals, List.mem_map] at hu
  obtain ⟨r, _, rfl⟩ := hu
  rfl

set_option maxHeartbeats 8000000 in
theorem more_any (a : Option Addr) (c : Nat) (A : Nat → Option Addr) (C : Nat → Nat) (cls : List (List Int)) (s : ByteArray) (ax : Option Addr) (cx : Nat) (xs : List Int) (w : World) (hr : RowsAt w a A C cls) (hcl : cls.length ≤ 9223372036850000000) (hsz : s.size ≤ 4611686018427387904) (hx : IntsAt w ax xs) (hxl : xs.length ≤ 9223372036854775807)
    (hnil : a = none → c = 0 ∧ cls.length = 0) :
    Calls Try.prog 4 #[.slice a cls.length c, .string s, .slice ax xs.length cx] w fun e w' => e = .returned (.bool true) ∧ Below w.heap.size w w' := by
  by_cases hbig : 16384 < cls.length
  · have hbi : ((cls.length : Int) > 16384) := by omega
    clear hr hx hnil
    go_enter Try.func4, Try.ntmps4
    go_wp2
    go_ret
    exact ⟨rfl, Below.refl _ _⟩
  · have hbi : ¬ ((cls.length : Int) > 16384) := by omega
    obtain ⟨i1, gi, gz0, gz1, gz2⟩ := info_parts Try.infoInts
    have HCK := hide (checksK_any w)
    have HR := hide hr
    have HX := hide hx
    have HNIL := hide hnil
    have HMO := hide (check_more cls xs (bs s))
    clear hr hx hnil
    go_enter Try.func4, Try.ntmps4
    go_wp2_with fail
    refine (unhide HCK).mono ?_
    rintro e w2 ⟨rfl, hb2⟩
    have B2 := hide hb2
    have HC := hide (checkT_any a c A C cls s w2 (rows_below HR.out hb2) hcl hsz)
    clear hb2 HCK
    go_wp2_with fail
    refine (unhide HC).mono ?_
    generalize checkN cls (bs s) = R at *
    obtain ⟨rs, er, n⟩ := R
    rintro e w3 ⟨hb3, a3, c3, rfl, ho3⟩
    have B3 : Hid (Below w.heap.size w w3) := B2.out.trans (hb3.mono B2.out.size)
    have hz23 : w2.heap.size ≤ w3.heap.size := hb3.size
    have hq : w3.ownsRow w2.heap.size 3 1 (.slice a3 rs.length c3) rs.length (i64s rs) := ho3
    have O3 := hide hq
    have hrl : rs.length ≤ 9223372036854775807 := by
      rcases hq.2 with ⟨_, h0⟩ | ⟨g, cap, cur, hv', _, _, q1, q2, _⟩
      · omega
      · unfold maxLen at q2; omega
    clear hb3 ho3 hq HC
    simp only at HMO
    simp only
    by_cases hez : er = 0
    · subst hez
      obtain ⟨hn1, hmore⟩ := HMO.out rfl
      have HM2 := hide hmore
      have hn1i : ¬ ((n : Int) < 1) := by omega
      have d1 : Hid (cls.length + 1 ≤ maxLen) := by show _ ≤ _; unfold maxLen; omega
      have d2 : Hid (i1.bytes * (cls.length + 1) ≤ 281474976710656) := by show _ ≤ _; rw [gz2]; omega
      have d3 : Hid ((cls.length + 1) * 24 ≤ 140737488355328) := by show _ ≤ _; omega
      have d4 : Hid (cls.length ≤ maxLen) := by show _ ≤ _; unfold maxLen; omega
      have d5 : Hid (cls.length * 24 ≤ 140737488355328) := by show _ ≤ _; omega
      have hlc : Hid (((cls.length : Int) + 1) = ((cls.length + 1 : Nat) : Int)) := by show _ = _; omega
      clear hmore HMO
      have R3 := hide (rows_below HR.out B3.out)
      have C3 := hide (rows_src R3.out)
      have hzw : w.heap.size ≤ w3.heap.size := B3.out.size
      go_wp2_with (first
        | (at_make; refine wpList_make_own _ rfl (.const (.int .i64 0)) (.tmp 35) 22 rfl w3.heap.size 24 i1 (.slice none 0 0) 1 Try.undLists gi gz0 gz1 .i64 .i64 _ (cls.length + 1) rfl rfl hlc.out d2.out d1.out (Nat.le_refl _) ?_; intro w4 hown4 hg4;
            have K4 : Hid (Below w3.heap.size w3 w4) := (Below.refl _ _).grown hg4 (Nat.le_refl _) (by simp);
            have O4 := hide hown4; clear hown4 hg4)
        | (at_builtin; refine wpList_append_fits_any _ rfl (.tmp 37) (.tmp 38) 22 rfl w3.heap.size 24 i1 1 Try.undLists gi gz1 w3.heap.size 0 (cls.length + 1) [] rfl O4.out a cls.length c (vals cls A C) rfl (by rw [vals_len, Nat.mul_one]) (fun h => ⟨(HNIL.out h).2, (HNIL.out h).1⟩) (fun ad had j u hu => by have hc := C3.out ad had j u hu; exact (K4.out.cell (World.block_lt_of_cell? w3 _ hc)).trans hc) (vals_one cls A C) (by omega) ?_; intro w5 hown5 hg5;
            have K5 : Hid (Below w3.heap.size w3 w5) := K4.out.grown hg5 K4.out.size (by intro k hk; simp at hk; omega);
            rw [Nat.zero_add, List.nil_append] at hown5;
            have O5 := hide hown5; clear hown5 hg5 O4 K4)
        | (at_builtin; refine wpList_append_fits _ rfl (.tmp 40) (.tmp 42) 22 rfl w3.heap.size 24 i1 1 Try.undLists gi gz1 w3.heap.size cls.length (cls.length + 1) (vals cls A C) rfl (O5.out.alloc _) ⟨w5.heap.size, 0, none⟩ 1 1 [.slice ax xs.length cx] rfl rfl (new_cells1 w5 [.slice ax xs.length cx] 24) (by intro u hu; simp at hu; subst hu; rfl) (Nat.le_refl _) ?_; intro w6 hown6 hg6;
            have K6 : Hid (Below w3.heap.size w3 w6) := (K5.out.alloc K5.out.size _).grown hg6 (by have := K5.out.size; simp; omega) (by intro k hk; simp at hk; omega);
            have O6 := hide hown6; clear hown6 hg6 O5 K5))
      have R6 := rows_more R3.out (HX.out.below B3.out) hxl K6.out O6.out
      have hlen : (cls ++ [xs]).length = cls.length + 1 := by simp
      have hcq := checkT_any (some ⟨w3.heap.size, 0, none⟩) (cls.length + 1) _ _ (cls ++ [xs]) s w6 R6 (by rw [hlen]; omega) hsz
      rw [hlen] at hcq
      have HC2 := hide hcq
      have I3 := hide (own_intsAt O3.out)
      clear hcq R6 hlen O6 R3 C3 O3 HR HX HNIL
      refine (unhide HC2).mono ?_
      clear HC2
      generalize checkN (cls ++ [xs]) (bs s) = R2 at *
      obtain ⟨rs2, er2, n2⟩ := R2
      rintro e w7 ⟨hb7, a7, c7, rfl, ho7⟩
      have K7 : Hid (Below w3.heap.size w3 w7) := K6.out.trans (hb7.mono K6.out.size)
      have B7 : Hid (Below w.heap.size w w7) := B3.out.trans (K7.out.mono hzw)
      have hi7 : IntsAt w7 a7 rs2 := own_intsAt ho7
      have hj7 : IntsAt w7 a3 rs := I3.out.below K7.out
      have I7 := hide hi7
      have J7 := hide hj7
      clear hb7 ho7 hi7 hj7
      simp only at HM2
      simp only
      rcases HM2.out with ⟨h45, hn, hr⟩ | heq
      · subst hn hr
        clear HM2
        rcases h45 with rfl | rfl
        · go_wp2
          go_ret
          exact ⟨rfl, B7.out⟩
        · go_wp2
          go_ret
          exact ⟨rfl, B7.out⟩
      · clear HM2
        simp only [Prod.mk.injEq] at heq
        obtain ⟨rfl, rfl, rfl⟩ := heq
        go_wp2
        go_loopw [15] (fun i wr => ∃ j m : Nat, j ≤ rs2.length ∧ i = .int .i64 j ∧ wr = w7.drewN m) (fun i _ => rs2.length - (intOf i).toNat)
        case atStart => exact ⟨0, 0, Nat.zero_le _, rfl, rfl⟩
        case round =>
          obtain ⟨j, m, hj, rfl, rfl⟩ := hrel
          by_cases hjl : j < rs2.length
          · obtain ⟨b3, o3, rfl, hc3⟩ := J7.out.get (by omega)
            obtain ⟨b4, o4, rfl, hc4⟩ := I7.out.get (by omega)
            have r3 := hc3 j hjl
            have r4 := hc4 j hjl
            clear hc3 hc4
            generalize rs2.getD j 0 = x at r3 r4
            have hb : (x != x) = false := by simp
            go_wp2
            go_quiet (fail)
            go_wp2
            go_roundw
            case rel => exact ⟨j + 1, _, by omega, by go_num, rfl⟩
            case measure => simp [intOf]; omega
          · go_wp2
            go_ret
            exact ⟨rfl, below_drewN B7.out _⟩
    · have heri : (er != 0) = true := by simp; exact hez
      go_wp2
      go_ret
      exact ⟨rfl, B3.out⟩

end Go.Proofs.Ythboeppmlhbofaa
