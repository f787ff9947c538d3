/-
  The document's Line: the walk.
-/
import Derived.Test.YthboeppmlhbofaaGreatDoorLns
import Derived.Test.YthboeppmlhbofaaGreatDoorRef
import Derived.Test.YthboeppmlhbofaaGreatDoorApp
namespace Go.Proofs.YthboeppmlhbofaaGreatDoor
open Go.RowKit Txt
set_option maxRecDepth 100000

theorem results_four {fn : Func} {p q u v : Tmp} (h : fn.results = #[.tmp p, .tmp q, .tmp u, .tmp v]) (tmps : Array Value) (P : Program) (w : World) :
    (results fn tmps).run P w = .ok (.tuple #[tmps.getD p undef, tmps.getD q undef, tmps.getD u undef, tmps.getD v undef]) w := by
  simp [results, h]
def LnPost (w : World) (r : Option (Nat × List Int × Nat)) (e : Ending) (w' : World) : Prop := Below w.heap.size w w' ∧ match r with
  | none => e = .returned (.tuple #[.int .u8 0, .slice none 0 0, .int .i64 0, .bool false])
  | some (lt, xs, q) => ∃ a c, e = .returned (.tuple #[.int .u8 lt, .slice a xs.length c, .int .i64 q, .bool true]) ∧ w'.ownsRow w.heap.size 3 1 (.slice a xs.length c) xs.length (i64s xs)

set_option maxHeartbeats 8000000 in
theorem lineR_any (s : ByteArray) (p : Nat) (w : World) (hs : s.size ≤ 4194304) (hp : p < s.size) :
    Calls Tryz.prog 76 #[.string s, .int .i64 p] w (LnPost w (rdLine (bs s) p)) := by
  by_cases h2 : p + 2 ≤ s.size
  · have hp1 : p + 1 < s.size := by omega
    have g1 := bs_getD s (p + 1) hp1
    have g0 := bs_getD s p hp
    by_cases h32 : s[p + 1].toNat = 32
    · have k32 : (((s[p + 1].toNat : Nat) : Int) != 32) = false := by rw [h32]; rfl
      by_cases h3 : s[p].toNat = 97 ∨ s[p].toNat = 100 ∨ s[p].toNat = 101
      · have hlb : lbB (bs s) p = true := by
          unfold lbB
          rw [bs_length, g1, g0, decide_eq_true h2]
          simp [h32, h3, or_assoc]
        have HR : Hid (rdLine (bs s) p = (rdl (bs s) (s.size + 1) (p + 2) []).map fun r => (s[p].toNat, r.1, r.2)) := by
          show _ = _
          simp only [rdLine, hlb, if_true]
          rw [bs_length, g0]
        generalize rdLine (bs s) p = R at *
        obtain ⟨i0, hi0, hz0, hz1, hz2⟩ := info_parts Tryz.infoInt
        have H3 := hide h3
        clear g0 g1 hlb h32 h3
        go_enter Tryz.func76, Tryz.ntmps76
        go_wp2_with fail
        rotate_left 2
        · exfalso
          have h3 := H3.out
          rename_i hx
          simp only [bne_iff_ne, ne_eq] at hx
          omega
        all_goals
          generalize s[p].toNat = lt at *
          generalize hrd : rdl (bs s) (s.size + 1) (p + 2) [] = RD at HR
          have HRD := hide hrd
          have HB0 : Hid (Below w.heap.size w w) := Below.refl _ _
          clear hrd H3
          go_loopw [1, 9] (fun x1 x9 wr => ∃ (q m : Nat) (acc : List Int) (a : Option Addr) (c : Nat), q ≤ s.size ∧ x1 = .int .i64 q ∧ x9 = .slice a acc.length c ∧ acc.length ≤ q ∧ s.size + 2 ≤ q + m ∧ Hid (wr.ownsRow w.heap.size 3 1 (.slice a acc.length c) acc.length (i64s acc)) ∧ Hid (Below w.heap.size w wr) ∧ Hid (rdl (bs s) m q acc = RD)) (fun x1 _ _ => s.size - (intOf x1).toNat)
          case atStart => exact ⟨p + 2, s.size + 1, [], none, 0, by omega, by go_num, rfl, Nat.zero_le _, by omega, ⟨rfl, .inl ⟨rfl, rfl⟩⟩, HB0, HRD⟩
          case round =>
            clear HRD HB0
            obtain ⟨q, m, acc, a, c, hq, rfl, rfl, hacc, hm, HO, HBR, HF⟩ := hrel
            obtain ⟨m, rfl⟩ : ∃ k, m = k + 1 := ⟨m - 1, by omega⟩
            have hf := HF.out
            have hwl := wlen_le ((bs s).drop q)
            rw [List.length_drop, bs_length] at hwl
            by_cases hlt : q < s.size
            · have HWE := hide (endsW_any s q wr hs hq)
              simp only [rdl, bs_length] at hf
              generalize hez : q + wlen ((bs s).drop q) = ez at *
              have hezs : ez ≤ s.size := by omega
              have hqe : q ≤ ez := by omega
              clear hez HF hwl
              by_cases hlz : ez < s.size
              · rw [if_pos hlz] at hf
                have HNU := hide (numberR_any (s.extract q ez) wr (by rw [ByteArray.size_extract]; omega))
                rw [bs_extract] at HNU
                have hge := bs_getD s ez hlz
                rw [hge] at hf
                generalize numOf (((bs s).drop q).take (ez - q)) = N at *
                obtain ⟨n, er⟩ := N
                simp only at hf HNU
                have i1 : (0 : Int) ≤ (q : Int) := by omega
                have i2 : (q : Int) ≤ (ez : Int) := by omega
                have i3 : (ez : Int) ≤ (s.size : Int) := by omega
                by_cases her : er = 0
                · subst her
                  rw [if_neg (by simp : ¬ ((0 : Int) ≠ 0))] at hf
                  have j1 : (0 : Int) ≤ (ez : Int) := by omega
                  have j2 : (ez : Int) < (s.size : Int) := by omega
                  have hcast : ∀ b : Nat, (((s[ez].toNat : Nat) : Int) == (b : Int)) = (s[ez].toNat == b) := fun b => nat_beq _ _
                  have t10 := hcast 10
                  have t32 := hcast 32
                  clear hcast hge
                  by_cases hn : n = 0
                  · subst hn
                    by_cases h10 : s[ez].toNat = 10
                    · rw [if_pos ⟨rfl, h10⟩] at hf
                      have hres : R = some (lt, acc, ez + 1) := by rw [HR.out, ← hf]; rfl
                      have HRN := hide hres
                      have t10' : (((s[ez].toNat : Nat) : Int) != 10) = false := by rw [bne, show ((10 : Int)) = ((10 : Nat) : Int) from rfl, t10]; simpa using h10
                      clear hf hres t10 t32 h10
                      go_wp2_with (first
                        | (go_at_call 87; refine (unhide HWE).mono ?_; rintro e w' ⟨rfl, hw⟩; obtain rfl := hw.symm)
                        | (go_at_call 88; refine (unhide HNU).mono ?_; rintro e w' ⟨rfl, hw⟩; obtain rfl := hw.symm))
                      (try simp only [Exit.inBlock, Exit.then])
                      refine bodyPost_ret (results_four rfl _ _ _) rfl ⟨HBR.out, ?_⟩
                      rw [HRN.out]
                      exact ⟨a, c, by first | (rw [show ((lt : Nat) : Int) = 97 by assumption]; rfl) | (rw [show ((lt : Nat) : Int) = 100 by assumption]; rfl) | rfl, HO.out⟩
                    · rw [if_neg (fun h => h10 h.2), if_pos (.inl rfl)] at hf
                      have hres : R = none := by rw [HR.out, ← hf]; rfl
                      have HRN := hide hres
                      have t10' : (((s[ez].toNat : Nat) : Int) != 10) = true := by rw [bne, show ((10 : Int)) = ((10 : Nat) : Int) from rfl, t10]; simpa using h10
                      clear hf hres t10 t32 h10
                      go_wp2_with (first
                        | (go_at_call 87; refine (unhide HWE).mono ?_; rintro e w' ⟨rfl, hw⟩; obtain rfl := hw.symm)
                        | (go_at_call 88; refine (unhide HNU).mono ?_; rintro e w' ⟨rfl, hw⟩; obtain rfl := hw.symm))
                      (try simp only [Exit.inBlock, Exit.then])
                      refine bodyPost_ret (results_four rfl _ _ _) rfl ⟨HBR.out, ?_⟩
                      rw [HRN.out]
                      rfl
                  · have hnb : (n == 0) = false := beq_eq_false_iff_ne.2 hn
                    have hnb' : (n != 0) = true := bne_iff_ne.2 hn
                    by_cases h32 : s[ez].toNat = 32
                    · rw [if_neg (fun h => hn h.1), if_neg (fun h => h.elim hn (fun h => h h32))] at hf
                      have HF2 := hide hf
                      have t32' : (((s[ez].toNat : Nat) : Int) != 32) = false := by rw [bne, show ((32 : Int)) = ((32 : Nat) : Int) from rfl, t32]; simp [h32]
                      have d1 : Hid (acc.length + 1 ≤ maxLen) := by show _ ≤ _; unfold maxLen; omega
                      have d2 : Hid ((acc.length + 1) * 8 ≤ 140737488355328) := by show _ ≤ _; omega
                      have hzr : w.heap.size ≤ wr.heap.size := HBR.out.size
                      clear hf t10 t32 h32
                      go_wp2_with (first
                        | (go_at_call 87; refine (unhide HWE).mono ?_; rintro e w' ⟨rfl, hw⟩; obtain rfl := hw.symm)
                        | (go_at_call 88; refine (unhide HNU).mono ?_; rintro e w' ⟨rfl, hw⟩; obtain rfl := hw.symm)
                        | (at_builtin; refine wpList_append_full _ rfl _ _ 24 rfl w.heap.size 3 i0 (.int .i64 0) 8 Tryz.undInts hi0 hz0 hz1 hz2 rfl (.slice a acc.length c) acc.length (i64s acc) rfl (HO.out.alloc _) ⟨wr.heap.size, 0, none⟩ 1 1 [.int .i64 n] rfl rfl (new_cells1 wr [.int .i64 n] 3) (by intro u hu; simp at hu; subst hu; rfl) (by decide) d1.out d2.out (by simp; omega) (wr.heap.size + 1) (by simp) ?_; intro a3 c3 w3 hown3 hg3 hl3;
                            have O3 : Hid (w3.ownsRow w.heap.size 3 1 (.slice a3 (acc.length + 1) c3) (acc.length + 1) (i64s (acc ++ [n]))) := (show i64s acc ++ [Value.int .i64 n] = i64s (acc ++ [n]) by simp [i64s]) ▸ hown3;
                            have B3 : Hid (Below w.heap.size w w3) := (HBR.out.alloc hzr _).grown hg3 (by simp; omega) (fun j hj => (HO.out.lt j hj).1);
                            clear hown3 hg3 hl3))
                      go_roundw
                      case rel => exact ⟨ez + 1, m, acc ++ [n], a3, c3, by omega, by go_num, by rw [snoc_len], by rw [snoc_len]; omega, by omega, by rw [snoc_len]; exact O3, B3, HF2⟩
                      case measure => simp [intOf]; omega
                    · rw [if_neg (fun h => hn h.1), if_pos (.inr h32)] at hf
                      have hres : R = none := by rw [HR.out, ← hf]; rfl
                      have HRN := hide hres
                      have t32' : (((s[ez].toNat : Nat) : Int) != 32) = true := by rw [bne, show ((32 : Int)) = ((32 : Nat) : Int) from rfl, t32]; simp [h32]
                      clear hf hres t10 t32 h32
                      go_wp2_with (first
                        | (go_at_call 87; refine (unhide HWE).mono ?_; rintro e w' ⟨rfl, hw⟩; obtain rfl := hw.symm)
                        | (go_at_call 88; refine (unhide HNU).mono ?_; rintro e w' ⟨rfl, hw⟩; obtain rfl := hw.symm))
                      (try simp only [Exit.inBlock, Exit.then])
                      refine bodyPost_ret (results_four rfl _ _ _) rfl ⟨HBR.out, ?_⟩
                      rw [HRN.out]
                      rfl
                · have hres : R = none := by
                    rw [if_pos her] at hf
                    rw [HR.out, ← hf]; rfl
                  have HRN := hide hres
                  have heri : (er != 0) = true := bne_iff_ne.2 her
                  clear hf her hres
                  go_wp2_with (first
                    | (go_at_call 87; refine (unhide HWE).mono ?_; rintro e w' ⟨rfl, hw⟩; obtain rfl := hw.symm)
                    | (go_at_call 88; refine (unhide HNU).mono ?_; rintro e w' ⟨rfl, hw⟩; obtain rfl := hw.symm))
                  (try simp only [Exit.inBlock, Exit.then])
                  refine bodyPost_ret (results_four rfl _ _ _) rfl ⟨HBR.out, ?_⟩
                  rw [HRN.out]
                  rfl
              · rw [if_neg hlz] at hf
                have hres : R = none := by rw [HR.out, ← hf]; rfl
                have HRN := hide hres
                have hgez : (ez : Int) ≥ (s.size : Int) := by omega
                clear hf hres
                go_wp2_with (go_at_call 87; refine (unhide HWE).mono ?_; rintro e w' ⟨rfl, hw⟩; obtain rfl := hw.symm)
                (try simp only [Exit.inBlock, Exit.then])
                refine bodyPost_ret (results_four rfl _ _ _) rfl ⟨HBR.out, ?_⟩
                rw [HRN.out]
                rfl
            · simp only [rdl, bs_length] at hf
              rw [if_neg (by omega)] at hf
              have hres : R = none := by rw [HR.out, ← hf]; rfl
              have HRN := hide hres
              clear hf hres
              go_wp2
              (try simp only [Exit.inBlock, Exit.then])
              refine bodyPost_ret (results_four rfl _ _ _) rfl ⟨HBR.out, ?_⟩
              rw [HRN.out]
              rfl
      · have HR : Hid (rdLine (bs s) p = none) := by
          show _ = _
          have : lbB (bs s) p = false := by
            unfold lbB
            rw [g0]
            have : (s[p].toNat == 97 || s[p].toNat == 100 || s[p].toNat == 101) = false := by simp [not_or] at h3 ⊢; omega
            rw [this, Bool.and_false]
          simp [rdLine, this]
        have H3 := hide h3
        clear g0 g1 h32 h3
        generalize rdLine (bs s) p = R at *
        go_enter Tryz.func76, Tryz.ntmps76
        go_wp2_with fail
        · exfalso
          have := H3.out
          omega
        · exfalso
          have := H3.out
          omega
        · (try simp only [Exit.inBlock, Exit.then])
          refine bodyPost_ret (results_four rfl _ _ _) rfl ⟨Below.refl _ _, ?_⟩
          rw [HR.out]
          rfl
        · exfalso
          have h3 := H3.out
          rename_i hx _ _
          simp only [bne_eq_false_iff_eq] at hx
          omega
    · have HR : Hid (rdLine (bs s) p = none) := by
        show _ = _
        have : lbB (bs s) p = false := by
          unfold lbB
          rw [g1]
          have : (s[p + 1].toNat == 32) = false := by simpa using h32
          rw [this, Bool.and_false, Bool.false_and]
        simp [rdLine, this]
      have k32 : (((s[p + 1].toNat : Nat) : Int) != 32) = true := by rw [bne_iff_ne]; omega
      clear g0 g1 h32
      generalize rdLine (bs s) p = R at *
      go_enter Tryz.func76, Tryz.ntmps76
      go_wp2
      (try simp only [Exit.inBlock, Exit.then])
      refine bodyPost_ret (results_four rfl _ _ _) rfl ⟨Below.refl _ _, ?_⟩
      rw [HR.out]
      rfl
  · have HR : Hid (rdLine (bs s) p = none) := by
      show _ = _
      have : lbB (bs s) p = false := by
        unfold lbB
        rw [bs_length, decide_eq_false h2, Bool.false_and, Bool.false_and]
      simp [rdLine, this]
    have i1 : (p : Int) + 1 ≥ (s.size : Int) := by omega
    generalize rdLine (bs s) p = R at *
    go_enter Tryz.func76, Tryz.ntmps76
    go_wp2
    (try simp only [Exit.inBlock, Exit.then])
    refine bodyPost_ret (results_four rfl _ _ _) rfl ⟨Below.refl _ _, ?_⟩
    rw [HR.out]
    rfl

end Go.Proofs.YthboeppmlhbofaaGreatDoor
