/-
  traillaw's plays and Reads: the walks.
-/
import Derived.Test.YthboeppmlhbofaaGreatDoorStp
namespace Go.Proofs.YthboeppmlhbofaaGreatDoor
open Go.RowKit Txt
set_option maxRecDepth 100000

theorem Tryz.infoOp : (Tryz.prog.info? 27).map (fun i => (i.zero, i.size, i.bytes)) = some (some (.agg #[.int .i64 0, .int .i64 0, .int .i64 0, .int .i64 0, .string ByteArray.empty]), 5, 48) := by kernel_rfl
theorem Tryz.undOps : Tryz.prog.underlying 22 = some (.slice 27) := by kernel_rfl

def opsCells (l : List OpD) : List Value := l.flatMap fun o => o.cells.toList
theorem opsCells_len (l : List OpD) : (opsCells l).length = l.length * 5 := by
  induction l with
  | nil => rfl
  | cons o l ih =>
    have hc : o.cells.toList.length = 5 := rfl
    have h1 : (opsCells (o :: l)).length = o.cells.toList.length + (opsCells l).length := by simp only [opsCells, List.flatMap_cons, List.length_append]
    rw [h1, ih, hc, List.length_cons]
    omega
theorem opsCells_at (l : List OpD) (j : Nat) (hj : j < l.length) (i : Nat) (v : Value) (hv : (l.getD j opZ).cells[i]? = some v) : (opsCells l)[j * 5 + i]? = some v := by
  induction l generalizing j with
  | nil => simp at hj
  | cons o l ih =>
    have hc : o.cells.toList.length = 5 := rfl
    simp only [opsCells, List.flatMap_cons]
    cases j with
    | zero =>
      have hi : i < 5 := by
        have := (Array.getElem?_eq_some_iff.1 hv).1
        simpa [OpD.cells] using this
      rw [List.getElem?_append_left (by omega)]
      simp only [List.getD_cons_zero] at hv
      simpa using hv
    | succ j =>
      rw [List.getElem?_append_right (by omega)]
      have := ih j (by simpa using hj) (by simpa using hv)
      have e : (j + 1) * 5 + i - o.cells.toList.length = j * 5 + i := by omega
      rw [e]
      exact this
theorem opsCells_snoc (l : List OpD) (o : OpD) : opsCells l ++ o.cells.toList = opsCells (l ++ [o]) := by simp [opsCells]
theorem ops_own {w : World} {B n c : Nat} {a : Option Addr} {l : List OpD} (h : w.ownsRow B 27 5 (.slice a n c) l.length (opsCells l)) : OpsAt w a l := by
  rcases h.2 with ⟨_, h0⟩ | ⟨g, cap, cur, hv, _⟩
  · exact .inl (List.eq_nil_of_length_eq_zero h0)
  · simp only [Value.slice.injEq] at hv
    obtain ⟨rfl, _, rfl⟩ := hv
    refine .inr ⟨g, 0, rfl, fun j hj i v hv => ?_⟩
    have h4 := h.cells (g := g) rfl (j * 5 + i) v (opsCells_at l j hj i v hv)
    rw [addr0] at h4
    rw [Nat.add_assoc]
    exact h4
theorem own_slice {w : World} {B e n size : Nat} {v : Value} {xs : List Value} (h : w.ownsRow B e size v n xs) : ∃ a c, v = .slice a n c := by
  rcases h.2 with ⟨rfl, h0⟩ | ⟨g, cap, cur, rfl, _⟩
  · exact ⟨none, 0, by rw [h0]⟩
  · exact ⟨_, _, rfl⟩

/-- is a step of this kind played? -/
def inK (kinds : List Int) (k : Int) : Bool := decide (k < 10) || kinds.any fun x => k == x
theorem any_take (kinds : List Int) (k : Int) (m : Nat) (h : m < kinds.length) : ((kinds.take (m + 1)).any fun x => k == x) = (((kinds.take m).any fun x => k == x) || k == kinds.getD m 0) := by
  rw [List.take_succ_eq_append_getElem h, List.any_append, List.getD_eq_getElem?_getD, List.getElem?_eq_getElem h]
  simp
theorem filter_take (ops : List OpD) (f : OpD → Bool) (k : Nat) (h : k < ops.length) : (ops.take (k + 1)).filter f = (ops.take k).filter f ++ (if f (ops.getD k opZ) then [ops.getD k opZ] else []) := by
  rw [List.take_succ_eq_append_getElem h, List.filter_append, List.getD_eq_getElem?_getD, List.getElem?_eq_getElem h]
  simp [List.filter_cons]

set_option maxHeartbeats 4000000 in
theorem plays_any (a ka : Option Addr) (c kc : Nat) (ops : List OpD) (kinds : List Int) (w : World) (h : OpsAt w a ops) (hlen : ops.length ≤ 9223372036854775807) (hs : Hid (∀ o ∈ ops, o.s.size ≤ 4611686018427387904)) (hkd : IntsAt w ka kinds) (hkl : kinds.length ≤ 100)
    (hup : Hid (∀ (a' : Option Addr) (c' : Nat) (w' : World), smallB ops = true → Below w.heap.size w w' → OpsAt w' a' (ops.filter fun o => inK kinds o.k) → Calls Tryz.prog 11 #[.slice a' (ops.filter fun o => inK kinds o.k).length c'] w' fun e w'' => e = .returned (.int .i64 (-1)) ∧ Below w'.heap.size w' w'')) :
    Calls Tryz.prog 9 #[.slice a ops.length c, .slice ka kinds.length kc] w fun e w' => e = .returned (.bool true) ∧ Below w.heap.size w w' := by
  obtain ⟨i0, hi, hz0, hz1, hz2⟩ := info_parts Tryz.infoOp
  have HS := hide (small_any a c ops w h hlen hs)
  have H := hide h
  have HK := hide hkd
  clear h hkd
  by_cases hsm : smallB ops = true
  · have HSM := hide hsm
    rw [hsm] at HS
    have hl2 : ops.length ≤ 16384 := by simp [smallB] at hsm; omega
    clear hsm
    go_enter Tryz.func9, Tryz.ntmps9
    go_wp2_with (go_at_call 10; refine (unhide HS).mono ?_; rintro e w' ⟨rfl, hw⟩; obtain rfl := hw.symm)
    go_loopw [6, 7] (fun l i wr => ∃ (k : Nat) (al : Option Addr) (cl : Nat) (ls : List OpD), k ≤ ops.length ∧ i = .int .i64 k ∧ l = .slice al ls.length cl ∧ ls.length ≤ k ∧ Hid (wr.ownsRow w.heap.size 27 5 (.slice al ls.length cl) ls.length (opsCells ls)) ∧ Hid (Below w.heap.size w wr) ∧ Hid (ls = (ops.take k).filter fun o => inK kinds o.k)) (fun _ i _ => ops.length - (intOf i).toNat)
    case atStart => exact ⟨0, none, 0, [], Nat.zero_le _, rfl, rfl, Nat.le_refl _, ⟨rfl, .inl ⟨rfl, rfl⟩⟩, Below.refl _ _, by show _ = _; simp⟩
    case round =>
      obtain ⟨k, al, cl, ls, hk, rfl, rfl, hlk, HO, HL, HF⟩ := hrel
      by_cases hlt : k < ops.length
      · obtain ⟨b, off, rfl, hc⟩ := (H.out.below HL.out).get (by omega)
        have c0 := hc k hlt 0 _ rfl
        have c1 := hc k hlt 1 _ rfl
        have c2 := hc k hlt 2 _ rfl
        have c3 := hc k hlt 3 _ rfl
        have c4 := hc k hlt 4 _ rfl
        clear hc
        have hft := filter_take ops (fun o => inK kinds o.k) k hlt
        generalize ops.getD k opZ = o at *
        obtain ⟨ok, oa, ob, oc, os⟩ := o
        simp only [OpD.cells, Nat.add_zero] at *
        have HFT := hide hft
        clear hft
        go_wp2
        go_loop [9, 10] (fun x j => ∃ m : Nat, m ≤ kinds.length ∧ j = .int .i64 m ∧ x = .bool (decide (ok < 10) || (kinds.take m).any fun x => ok == x)) (fun _ j => kinds.length - (intOf j).toNat)
        case atStart => exact ⟨0, Nat.zero_le _, rfl, by simp⟩
        case round =>
          obtain ⟨m, hm, rfl, rfl⟩ := hrel
          by_cases hml : m < kinds.length
          · obtain ⟨kb, koff, rfl, hkc⟩ := (HK.out.below HL.out).get (by omega)
            have kc := hkc m hml
            have ha := any_take kinds ok m hml
            have HA : Hid ((decide (ok < 10) || (kinds.take (m + 1)).any fun x => ok == x) = ((decide (ok < 10) || (kinds.take m).any fun x => ok == x) || ok == kinds.getD m 0)) := by show _ = _; rw [ha, Bool.or_assoc]
            clear hkc ha
            generalize (decide (ok < 10) || (kinds.take m).any fun x => ok == x) = x at *
            generalize kinds.getD m 0 = y at *
            have q1 : (0 : Int) ≤ (m : Int) := by omega
            have q2 : (m : Int) < (kinds.length : Int) := by omega
            cases x with
            | true =>
              go_wp2
              go_round
              case rel => exact ⟨m + 1, by omega, by go_num, by rw [HA.out]; rfl⟩
              case measure => simp [intOf]; omega
            | false =>
              go_wp2
              go_round
              case rel => exact ⟨m + 1, by omega, by go_num, by rw [HA.out]; rfl⟩
              case measure => simp [intOf]; omega
          · obtain rfl : m = kinds.length := by omega
            rw [List.take_length]
            have hin : (decide (ok < 10) || kinds.any fun x => ok == x) = inK kinds ok := rfl
            rw [hin]
            cases hik : inK kinds ok with
            | true =>
              rw [hik] at HFT
              have d1 : Hid (ls.length + 1 ≤ maxLen) := by show _ ≤ _; unfold maxLen; omega
              have d2 : Hid ((ls.length + 1) * 48 ≤ 140737488355328) := by show _ ≤ _; omega
              have hsz : w.heap.size ≤ wr.heap.size := HL.out.size
              go_wp2_with (first
                | (at_builtin; refine wpList_append_own _ rfl (.tmp 44) (.tmp 49) 22 rfl w.heap.size 27 i0 (.agg #[.int .i64 0, .int .i64 0, .int .i64 0, .int .i64 0, .string ByteArray.empty]) 5 48 Tryz.undOps hi hz0 hz1 hz2 rfl (by decide) (.slice al ls.length cl) ls.length (opsCells ls) rfl (HO.out.alloc _) ⟨wr.heap.size, 0, none⟩ 1 1 [.int .i64 ok, .int .i64 oa, .int .i64 ob, .int .i64 oc, .string os] rfl rfl (new_cells1 wr [.int .i64 ok, .int .i64 oa, .int .i64 ob, .int .i64 oc, .string os] 27) (by intro u hu; simp at hu; rcases hu with rfl | rfl | rfl | rfl | rfl <;> rfl) d1.out d2.out (by simp; omega) ?_; intro v3 w3 hown3 hg3 _;
                    obtain ⟨a3, c3, rfl⟩ := own_slice hown3;
                    have HO3 : Hid (w3.ownsRow w.heap.size 27 5 (.slice a3 (ls.length + 1) c3) (ls.length + 1) (opsCells (ls ++ [⟨ok, oa, ob, oc, os⟩]))) := (opsCells_snoc ls ⟨ok, oa, ob, oc, os⟩) ▸ hown3;
                    have HL3 : Hid (Below w.heap.size w w3) := (HL.out.alloc hsz _).grown hg3 (by simp; omega) (fun j hj => (HO.out.lt j hj).1);
                    clear hown3 hg3))
              go_roundw
              case rel => exact ⟨k + 1, a3, c3, ls ++ [⟨ok, oa, ob, oc, os⟩], by omega, by go_num, by rw [List.length_append]; rfl, by rw [List.length_append]; simp; omega, by rw [List.length_append]; exact HO3, HL3, by show _ = _; rw [HFT.out, ← HF.out]; simp⟩
              case measure => simp [intOf]; omega
            | false =>
              rw [hik] at HFT
              go_wp2
              go_roundw
              case rel => exact ⟨k + 1, al, cl, ls, by omega, by go_num, rfl, by omega, HO, HL, by show _ = _; rw [HFT.out, ← HF.out]; simp⟩
              case measure => simp [intOf]; omega
      · obtain rfl : k = ops.length := by omega
        have hff : ls = ops.filter fun o => inK kinds o.k := by
          have := HF.out
          rwa [List.take_length] at this
        have HU := hide (hup.out al cl wr HSM.out HL.out (hff ▸ ops_own HO.out))
        rw [← hff] at HU
        clear hff
        go_wp2_with fail
        refine (unhide HU).mono ?_
        rintro e w2 ⟨rfl, hb2⟩
        have HZ : Hid (Below w.heap.size w w2) := HL.out.trans (hb2.mono HL.out.size)
        clear hb2
        go_wp2
        go_ret
        exact ⟨rfl, HZ.out⟩
  · have hsm' : smallB ops = false := by simpa using hsm
    rw [hsm'] at HS
    go_enter Tryz.func9, Tryz.ntmps9
    go_wp2_with (go_at_call 10; refine (unhide HS).mono ?_; rintro e w' ⟨rfl, hw⟩; obtain rfl := hw.symm)
    go_ret
    exact ⟨rfl, Below.refl _ _⟩

theorem small_parts {ops : List OpD} (h : smallB ops = true) : ops.length ≤ 16384 ∧ ∀ o ∈ ops, o.s.size ≤ 16384 := by
  simp only [smallB, decide_eq_true_eq] at h
  exact ⟨by omega, fun o ho => by have := bytesOf_mem ho; omega⟩
end Go.Proofs.YthboeppmlhbofaaGreatDoor
