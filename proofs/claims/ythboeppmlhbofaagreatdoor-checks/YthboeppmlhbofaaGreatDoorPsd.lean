/-
  pushing: Follows, the walk.
-/
import Derived.Test.YthboeppmlhbofaaGreatDoorPsc
namespace Go.Proofs.YthboeppmlhbofaaGreatDoor
open Go.RowKit Txt
set_option maxRecDepth 100000

/-- what each meeting keeps, a pass keeps -/
theorem visitN_rel {ns : List Nd} {kt kf : Nat} (R : PS → PS → Prop) (hr : ∀ s, R s s) (ht : ∀ a b c, R a b → R b c → R a c) (hm : ∀ c op s, (op = 0 ∨ litB op = true) → R s (meetN c op s)) :
    ∀ (m a v : Nat) (op : Int) (s : PS), m + v = 11 → 1 ≤ v → (op = 0 ∨ litB op = true) → R s (visitN ns kt kf m a v op s) := by
  intro m
  induction m with
  | zero =>
    intro a v op s _ _ ho
    simp only [visitN]
    split
    · exact hr s
    · exact hm _ _ _ ho
  | succ m ih =>
    intro a v op s hmv hv ho
    have hl1 : litB (v : Int) = true := by simp only [litB, Bool.and_eq_true, bne_iff_ne, decide_eq_true_eq]; omega
    have hl2 : litB (-(v : Int)) = true := by simp only [litB, Bool.and_eq_true, bne_iff_ne, decide_eq_true_eq]; omega
    have g := fun (a : Nat) (op : Int) (ho : op = 0 ∨ litB op = true) (s : PS) => ih a (v + 1) op s (by omega) (by omega) ho
    simp only [visitN]
    split
    · exact hr s
    · have k1 : R s (if (ns.getD a nd0).n0 = 0 then s else visitN ns kt kf m (ns.getD a nd0).n0 (v + 1) op s) := by
        split
        · exact hr s
        · exact g _ _ ho _
      generalize (if (ns.getD a nd0).n0 = 0 then s else visitN ns kt kf m (ns.getD a nd0).n0 (v + 1) op s) = s1 at *
      have k2 : R s (if (ns.getD a nd0).n1 = 0 then s1 else if hasB kt kf (-(v : Int)) then visitN ns kt kf m (ns.getD a nd0).n1 (v + 1) op s1 else if op = 0 ∧ hasB kt kf (v : Int) = false then visitN ns kt kf m (ns.getD a nd0).n1 (v + 1) (v : Int) s1 else s1) := by
        split
        · exact k1
        · split
          · exact ht _ _ _ k1 (g _ _ ho _)
          · split
            · exact ht _ _ _ k1 (g _ _ (.inr hl1) _)
            · exact k1
      generalize (if (ns.getD a nd0).n1 = 0 then s1 else if hasB kt kf (-(v : Int)) then visitN ns kt kf m (ns.getD a nd0).n1 (v + 1) op s1 else if op = 0 ∧ hasB kt kf (v : Int) = false then visitN ns kt kf m (ns.getD a nd0).n1 (v + 1) (v : Int) s1 else s1) = s2 at *
      split
      · exact k2
      · split
        · exact ht _ _ _ k2 (g _ _ ho _)
        · split
          · exact ht _ _ _ k2 (g _ _ (.inr hl2) _)
          · exact k2
/-- a pass only adds -/
theorem visitN_sup {ns : List Nd} {kt kf : Nat} (m a v : Nat) (op : Int) (s : PS) (h : m + v = 11) (hv : 1 ≤ v) (ho : op = 0 ∨ litB op = true) : ∃ x y, (visitN ns kt kf m a v op s).gt = s.gt ||| x ∧ (visitN ns kt kf m a v op s).gf = s.gf ||| y := by
  refine visitN_rel (fun s r => ∃ x y, r.gt = s.gt ||| x ∧ r.gf = s.gf ||| y) (fun s => ⟨0, 0, by simp, by simp⟩) ?_ ?_ m a v op s h hv ho
  · rintro a b c ⟨x, y, h1, h2⟩ ⟨x', y', h3, h4⟩
    exact ⟨x ||| x', y ||| y', by rw [h3, h1, Nat.or_assoc], by rw [h4, h2, Nat.or_assoc]⟩
  · intro c op s _
    unfold meetN
    split
    · exact ⟨0, 0, by simp, by simp⟩
    · split
      · exact ⟨0, 0, by simp, by simp⟩
      · exact ⟨posB op, negB op, rfl, rfl⟩

/-- pushing, pass after pass -/
def fol (ns : List Nd) : Nat → Nat → Nat → Bool
  | 0, _, _ => false
  | m + 1, kt, kf =>
    if (kt &&& kf != 0) = true then true else
      if (visitN ns kt kf 10 0 1 0 ⟨kt, kf, false⟩).cl then true else
        if (visitN ns kt kf 10 0 1 0 ⟨kt, kf, false⟩).gt = kt ∧ (visitN ns kt kf 10 0 1 0 ⟨kt, kf, false⟩).gf = kf then false else fol ns m (visitN ns kt kf 10 0 1 0 ⟨kt, kf, false⟩).gt (visitN ns kt kf 10 0 1 0 ⟨kt, kf, false⟩).gf
def followsN (ns : List Nd) (t f : Nat) : Bool := fol ns 4096 f t

def cellN (w : World) (a : Addr) : Nat := match w.cell? a with
  | some (.int _ n) => n.toNat
  | _ => 0

/-- pushing, pass after pass: what is known at the end; none: a clash -/
def psh (ns : List Nd) : Nat → Nat → Nat → Option (Nat × Nat)
  | 0, kt, kf => some (kt, kf)
  | m + 1, kt, kf =>
    if (kt &&& kf != 0) = true then none else
      if (visitN ns kt kf 10 0 1 0 ⟨kt, kf, false⟩).cl then none else
        if (visitN ns kt kf 10 0 1 0 ⟨kt, kf, false⟩).gt = kt ∧ (visitN ns kt kf 10 0 1 0 ⟨kt, kf, false⟩).gf = kf then some (kt, kf) else psh ns m (visitN ns kt kf 10 0 1 0 ⟨kt, kf, false⟩).gt (visitN ns kt kf 10 0 1 0 ⟨kt, kf, false⟩).gf
theorem fol_psh (ns : List Nd) : ∀ (m kt kf : Nat), fol ns m kt kf = (psh ns m kt kf).isNone := by
  intro m
  induction m with
  | zero => intro kt kf; rfl
  | succ m ih =>
    intro kt kf
    simp only [fol, psh]
    split
    · rfl
    · split
      · rfl
      · split
        · rfl
        · exact ih _ _
def pshRet : Option (Nat × Nat) → Value
  | none => .tuple #[.agg #[.int .i64 0, .int .i64 0], .bool true]
  | some p => .tuple #[.agg #[.int .i64 (p.1 : Nat), .int .i64 (p.2 : Nat)], .bool false]
theorem psh_ret {w' : World} {tmps : Array Value} {g : Nat} {p q : Value} {b : Bool} (hr : Row w' g 101 [p, q]) (h2 : tmps.getD 4 undef = .pointer (some ⟨g, 0, none⟩)) (h3 : tmps.getD 5 undef = .bool b) :
    (results Tryz.f120 tmps).run Tryz.prog w' = .ok (.tuple #[.agg #[p, q], .bool b]) w' := by
  obtain ⟨fs, hu⟩ := setType
  rw [results_cell_tmp rfl, h2, h3]
  simp [asAddr, Result.andThen, run_loadVar_row (P := Tryz.prog) w' g 101 101 #[p, q] (0, 0) (.struct fs) hr hu rfl setSize]

set_option maxHeartbeats 8000000 in
theorem push_any (ns : List Nd) (hw : Wf ns) (hp : 0 < ns.length) (cb : Nat) (na : Option Addr) (nc : Nat) (t f : Nat) (ht : t < 2 ^ 11) (hf : f < 2 ^ 11) (w : World) (hr : Row w cb 161 [.slice na ns.length nc]) (hn : NodesAt w na ns) :
    Calls Tryz.prog 120 #[.pointer (some ⟨cb, 0, none⟩), .agg #[.int .i64 t, .int .i64 f]] w fun e w' => e = .returned (pshRet (psh ns 4096 t f)) ∧ Below w.heap.size w w' := by
  have hb1 : Below w.heap.size w (w.alloc (.cells #[.int .i64 t, .int .i64 f] 101)) := (Below.refl _ _).alloc (Nat.le_refl _) _
  have hb2 : Below w.heap.size w ((w.alloc (.cells #[.int .i64 t, .int .i64 f] 101)).alloc (.cells #[.int .i64 0, .int .i64 0] 101)) := hb1.alloc hb1.size _
  have hb3 : Below w.heap.size w (((w.alloc (.cells #[.int .i64 t, .int .i64 f] 101)).alloc (.cells #[.int .i64 0, .int .i64 0] 101)).alloc (.cells #[.int .i64 t, .int .i64 f] 101)) := hb2.alloc hb2.size _
  have q2 : Row ((w.alloc (.cells #[.int .i64 t, .int .i64 f] 101)).alloc (.cells #[.int .i64 0, .int .i64 0] 101)) (w.heap.size + 1) 101 [.int .i64 0, .int .i64 0] := by
    have := heap_alloc_new (w.alloc (.cells #[.int .i64 t, .int .i64 f] 101)) (.cells #[.int .i64 0, .int .i64 0] 101)
    simpa [Row] using this
  have r2 : Row (((w.alloc (.cells #[.int .i64 t, .int .i64 f] 101)).alloc (.cells #[.int .i64 0, .int .i64 0] 101)).alloc (.cells #[.int .i64 t, .int .i64 f] 101)) (w.heap.size + 1) 101 [.int .i64 0, .int .i64 0] := row_below q2 ((Below.refl _ _).alloc (Nat.le_refl _) _)
  have r3 : Row (((w.alloc (.cells #[.int .i64 t, .int .i64 f] 101)).alloc (.cells #[.int .i64 0, .int .i64 0] 101)).alloc (.cells #[.int .i64 t, .int .i64 f] 101)) (w.heap.size + 1 + 1) 101 [.int .i64 t, .int .i64 f] := by
    have := heap_alloc_new ((w.alloc (.cells #[.int .i64 t, .int .i64 f] 101)).alloc (.cells #[.int .i64 0, .int .i64 0] 101)) (.cells #[.int .i64 t, .int .i64 f] 101)
    simpa [Row] using this
  have HR := hide hr
  have HN := hide hn
  have HW := hide hw
  have R2 := hide r2
  have R3 := hide r3
  have HB3 := hide hb3
  generalize hrs : psh ns 4096 t f = RES
  have HF := hide hrs
  clear hr hn hw hrs hb1 hb2 hb3 q2 r2 r3
  go_enter Tryz.func120, Tryz.ntmps120
  go_wp2_with fail
  generalize ((w.alloc (.cells #[.int .i64 t, .int .i64 f] 101)).alloc (.cells #[.int .i64 0, .int .i64 0] 101)).alloc (.cells #[.int .i64 t, .int .i64 f] 101) = w3 at *
  go_loopw [] (fun wr => ∃ (kt kf m : Nat), kt < 2 ^ 11 ∧ kf < 2 ^ 11 ∧ 4096 ≤ kt + kf + m ∧ Hid (Row wr (w.heap.size + 1 + 1) 101 [.int .i64 kt, .int .i64 kf]) ∧ Hid (Row wr (w.heap.size + 1) 101 [.int .i64 0, .int .i64 0]) ∧ Hid (Below w.heap.size w wr) ∧ Hid (psh ns m kt kf = RES)) (fun wr => 8192 - (cellN wr ⟨w.heap.size + 1 + 1, 0, none⟩ + cellN wr ⟨w.heap.size + 1 + 1, 1, none⟩))
  case atStart => exact ⟨t, f, 4096, ht, hf, by omega, R3, R2, HB3, HF⟩
  case round =>
    clear R3 R2 HB3 HF
    obtain ⟨kt, kf, m, hkt, hkf, hm, RK, RR, HBK, HFK⟩ := hrel
    obtain ⟨m, rfl⟩ : ∃ k, m = k + 1 := ⟨m - 1, by omega⟩
    have y0 : wr.cell? ⟨w.heap.size + 1 + 1, 0, none⟩ = some (.int .i64 kt) := (RK.out.cell 0).trans rfl
    have y1 : wr.cell? ⟨w.heap.size + 1 + 1, 1, none⟩ = some (.int .i64 kf) := (RK.out.cell 1).trans rfl
    have HT := hide (isTaut_any kt kf hkt hkf wr)
    go_wp2_with fail
    refine (unhide HT).mono ?_
    rintro e w4 ⟨rfl, hb4⟩
    have RK4 := hide (row_below RK.out hb4)
    have RR4 := hide (row_below RR.out hb4)
    have HB4 : Hid (Below w.heap.size w w4) := HBK.out.trans (hb4.mono HBK.out.size)
    clear hb4 HT
    cases htw : (kt &&& kf != 0) with
    | true =>
      have hres : RES = none := by rw [← HFK.out]; simp only [psh]; rw [if_pos htw]
      have y0 : w4.cell? ⟨w.heap.size + 1, 0, none⟩ = some (.int .i64 0) := (RR4.out.cell 0).trans rfl
      have y1 : w4.cell? ⟨w.heap.size + 1, 1, none⟩ = some (.int .i64 0) := (RR4.out.cell 1).trans rfl
      have z0 := RR4.out.frozen 0
      have z1 := RR4.out.frozen 1
      have R9 : Hid (Row ((w4.setCell ⟨w.heap.size + 1, 0, none⟩ (.int .i64 0)).setCell ⟨w.heap.size + 1, 1, none⟩ (.int .i64 0)) (w.heap.size + 1) 101 [.int .i64 0, .int .i64 0]) := (RR4.out.set 0 _).set 1 _
      have B9 : Hid (Below w.heap.size w ((w4.setCell ⟨w.heap.size + 1, 0, none⟩ (.int .i64 0)).setCell ⟨w.heap.size + 1, 1, none⟩ (.int .i64 0))) := (HB4.out.setCell (p := ⟨w.heap.size + 1, 0, none⟩) (Nat.le_succ _) _).setCell (p := ⟨w.heap.size + 1, 1, none⟩) (Nat.le_succ _) _
      go_wp2
      refine bodyPost_ret (v := .tuple #[.agg #[.int .i64 0, .int .i64 0], .bool true]) (psh_ret R9.out rfl rfl) rfl ⟨?_, B9.out⟩
      rw [hres]; rfl
    | false =>
      have c0 : w4.cell? ⟨cb, 0, none⟩ = some (.slice na ns.length nc) := ((row_below HR.out HB4.out).cell 0).trans rfl
      have x0 : w4.cell? ⟨w.heap.size + 1 + 1, 0, none⟩ = some (.int .i64 kt) := (RK4.out.cell 0).trans rfl
      have x1 : w4.cell? ⟨w.heap.size + 1 + 1, 1, none⟩ = some (.int .i64 kf) := (RK4.out.cell 1).trans rfl
      have hcb : cb < w4.heap.size := Nat.lt_of_lt_of_le HR.out.lt HB4.out.size
      have hk4 : w.heap.size + 1 + 1 < w4.heap.size := RK4.out.lt
      have ca : ∀ o, (w4.alloc o).cell? ⟨cb, 0, none⟩ = some (.slice na ns.length nc) := fun o => (((Below.refl w4.heap.size w4).alloc (Nat.le_refl _) o).cell (p := ⟨cb, 0, none⟩) hcb).trans c0
      have xa0 : ∀ o, (w4.alloc o).cell? ⟨w.heap.size + 1 + 1, 0, none⟩ = some (.int .i64 kt) := fun o => (((Below.refl w4.heap.size w4).alloc (Nat.le_refl _) o).cell (p := ⟨w.heap.size + 1 + 1, 0, none⟩) hk4).trans x0
      have xa1 : ∀ o, (w4.alloc o).cell? ⟨w.heap.size + 1 + 1, 1, none⟩ = some (.int .i64 kf) := fun o => (((Below.refl w4.heap.size w4).alloc (Nat.le_refl _) o).cell (p := ⟨w.heap.size + 1 + 1, 1, none⟩) hk4).trans x1
      clear y0 y1
      go_wp2_with fail
      go_region
      have hb5 : Below w4.heap.size w4 (w4.alloc (.cells #[.slice na ns.length nc, .int .i64 kt, .int .i64 kf, .int .i64 kt, .int .i64 kf, .bool false] 175)).drew := below_drewN ((Below.refl _ _).alloc (Nat.le_refl _) _) 1
      have r5 : Row (w4.alloc (.cells #[.slice na ns.length nc, .int .i64 kt, .int .i64 kf, .int .i64 kt, .int .i64 kf, .bool false] 175)).drew w4.heap.size 175 (psCells na ns.length nc kt kf ⟨kt, kf, false⟩) := heap_alloc_new w4 _
      generalize (w4.alloc (.cells #[.slice na ns.length nc, .int .i64 kt, .int .i64 kf, .int .i64 kt, .int .i64 kf, .bool false] 175)).drew = w5 at *
      have HB5 : Hid (Below w.heap.size w w5) := HB4.out.trans (hb5.mono HB4.out.size)
      have hz4 : w.heap.size ≤ w4.heap.size := HB4.out.size
      have E5 : Env w5 w4.heap.size na ns nc kt kf ⟨kt, kf, false⟩ := ⟨r5, HN.out.frame HB5.out.size (fun q e => HB5.out.block _ (by obtain ⟨b', e', hb, _⟩ := HN.out; rw [e'] at e; cases e; exact hb)), fun q e => by obtain ⟨b', e', hb, _⟩ := HN.out; rw [e'] at e; cases e; show b' ≠ _; omega, ⟨hkt, hkf⟩⟩
      have HV : Hid (Calls Tryz.prog 138 #[.pointer (some ⟨w4.heap.size, 0, none⟩), .int .i64 0, .int .i64 1, .int .i64 0] w5 (PSt w5 w4.heap.size na ns nc kt kf (visitN ns kt kf 10 0 1 0 ⟨kt, kf, false⟩))) := visit_any ns kt kf HW.out hkt hkf 10 1 rfl (by decide) w4.heap.size na nc 0 0 ⟨kt, kf, false⟩ w5 hp (.inl rfl) E5
      have RK5 := hide (row_below RK4.out hb5)
      have RR5 := hide (row_below RR4.out hb5)
      have hsup := visitN_sup (ns := ns) (kt := kt) (kf := kf) 10 0 1 0 ⟨kt, kf, false⟩ rfl (by decide) (.inl rfl)
      have hfk := HFK.out
      simp only [psh] at hfk
      rw [htw] at hfk
      generalize visitN ns kt kf 10 0 1 0 ⟨kt, kf, false⟩ = S at *
      have HFK2 := hide hfk
      have HSUP := hide hsup
      clear hb5 r5 E5 c0 x0 x1 ca xa0 xa1 hfk hsup HFK
      go_wp2_with fail
      refine (unhide HV).mono ?_
      rintro e w6 ⟨rfl, hE, hg⟩
      have HB6 : Hid (Below w.heap.size w w6) := HB5.out.grown hg HB5.out.size (fun j hj => by cases hj; exact hz4)
      have RK6 : Hid (Row w6 (w.heap.size + 1 + 1) 101 [.int .i64 kt, .int .i64 kf]) := (hg.block _ RK5.out.lt (fun e => by have := Option.some.inj e; omega)).trans RK5.out
      have RR6 : Hid (Row w6 (w.heap.size + 1) 101 [.int .i64 0, .int .i64 0]) := (hg.block _ RR5.out.lt (fun e => by have := Option.some.inj e; omega)).trans RR5.out
      have v3 : w6.cell? ⟨w4.heap.size, 3, none⟩ = some (.int .i64 S.gt) := (hE.row.cell 3).trans rfl
      have v4 : w6.cell? ⟨w4.heap.size, 4, none⟩ = some (.int .i64 S.gf) := (hE.row.cell 4).trans rfl
      have v5 : w6.cell? ⟨w4.heap.size, 5, none⟩ = some (.bool S.cl) := (hE.row.cell 5).trans rfl
      have k0 : w6.cell? ⟨w.heap.size + 1 + 1, 0, none⟩ = some (.int .i64 kt) := (RK6.out.cell 0).trans rfl
      have k1 : w6.cell? ⟨w.heap.size + 1 + 1, 1, none⟩ = some (.int .i64 kf) := (RK6.out.cell 1).trans rfl
      have z0 := RK6.out.frozen 0
      have z1 := RK6.out.frozen 1
      have y0 : w6.cell? ⟨w.heap.size + 1, 0, none⟩ = some (.int .i64 0) := (RR6.out.cell 0).trans rfl
      have y1 : w6.cell? ⟨w.heap.size + 1, 1, none⟩ = some (.int .i64 0) := (RR6.out.cell 1).trans rfl
      have u0 := RR6.out.frozen 0
      have u1 := RR6.out.frozen 1
      have HOK := hide hE.ok
      clear hE hg HV
      cases hcl : S.cl with
      | true =>
        rw [hcl] at v5
        have hres : RES = none := by have := HFK2.out; rw [hcl] at this; simpa using this.symm
        have R9 : Hid (Row ((w6.setCell ⟨w.heap.size + 1, 0, none⟩ (.int .i64 0)).setCell ⟨w.heap.size + 1, 1, none⟩ (.int .i64 0)) (w.heap.size + 1) 101 [.int .i64 0, .int .i64 0]) := (RR6.out.set 0 _).set 1 _
        have B9 : Hid (Below w.heap.size w ((w6.setCell ⟨w.heap.size + 1, 0, none⟩ (.int .i64 0)).setCell ⟨w.heap.size + 1, 1, none⟩ (.int .i64 0))) := (HB6.out.setCell (p := ⟨w.heap.size + 1, 0, none⟩) (Nat.le_succ _) _).setCell (p := ⟨w.heap.size + 1, 1, none⟩) (Nat.le_succ _) _
        go_wp2
        refine bodyPost_ret (v := .tuple #[.agg #[.int .i64 0, .int .i64 0], .bool true]) (psh_ret R9.out rfl rfl) rfl ⟨?_, B9.out⟩
        rw [hres]; rfl
      | false =>
        rw [hcl] at v5
        by_cases heq : S.gt = kt ∧ S.gf = kf
        · have hres : RES = some (kt, kf) := by have := HFK2.out; rw [hcl] at this; simpa [heq] using this.symm
          have e1 := heq.1
          have e2 := heq.2
          rw [e1] at v3
          rw [e2] at v4
          have R9 : Hid (Row ((w6.setCell ⟨w.heap.size + 1, 0, none⟩ (.int .i64 kt)).setCell ⟨w.heap.size + 1, 1, none⟩ (.int .i64 kf)) (w.heap.size + 1) 101 [.int .i64 kt, .int .i64 kf]) := (RR6.out.set 0 _).set 1 _
          have B9 : Hid (Below w.heap.size w ((w6.setCell ⟨w.heap.size + 1, 0, none⟩ (.int .i64 kt)).setCell ⟨w.heap.size + 1, 1, none⟩ (.int .i64 kf))) := (HB6.out.setCell (p := ⟨w.heap.size + 1, 0, none⟩) (Nat.le_succ _) _).setCell (p := ⟨w.heap.size + 1, 1, none⟩) (Nat.le_succ _) _
          clear heq e1 e2 HFK2 HSUP HOK
          go_wp2
          refine bodyPost_ret (v := .tuple #[.agg #[.int .i64 kt, .int .i64 kf], .bool false]) (psh_ret R9.out rfl rfl) rfl ⟨?_, B9.out⟩
          rw [hres]; rfl
        · have hfm : psh ns m S.gt S.gf = RES := by have := HFK2.out; rw [hcl] at this; simpa [heq] using this
          have hsum : kt + kf < S.gt + S.gf := by
            obtain ⟨x, y, h1, h2⟩ := HSUP.out
            have q1 : kt ≤ S.gt := by rw [h1]; exact Nat.left_le_or
            have q2 : kf ≤ S.gf := by rw [h2]; exact Nat.left_le_or
            by_cases q : S.gt = kt
            · by_cases q' : S.gf = kf
              · exact absurd ⟨q, q'⟩ heq
              · omega
            · omega
          have R7 := hide ((RK6.out.set 0 (.int .i64 S.gt)).set 1 (.int .i64 S.gf))
          have RR7 : Hid (Row ((w6.setCell ⟨w.heap.size + 1 + 1, 0, none⟩ (.int .i64 S.gt)).setCell ⟨w.heap.size + 1 + 1, 1, none⟩ (.int .i64 S.gf)) (w.heap.size + 1) 101 [.int .i64 0, .int .i64 0]) := ((Below.heap_setCell _ ⟨w.heap.size + 1 + 1, 1, none⟩ _ _ (Nat.ne_of_lt (Nat.lt_succ_self _))).trans (Below.heap_setCell _ ⟨w.heap.size + 1 + 1, 0, none⟩ _ _ (Nat.ne_of_lt (Nat.lt_succ_self _)))).trans RR6.out
          have HB7 := hide ((HB6.out.setCell (p := ⟨w.heap.size + 1 + 1, 0, none⟩) (Nat.le_add_right _ 2) (.int .i64 S.gt)).setCell (p := ⟨w.heap.size + 1 + 1, 1, none⟩) (Nat.le_add_right _ 2) (.int .i64 S.gf))
          have HFM := hide hfm
          have ho1 : S.gt < 2 ^ 11 := HOK.out.1
          have ho2 : S.gf < 2 ^ 11 := HOK.out.2
          have HME : Hid (8192 - (cellN ((w6.setCell ⟨w.heap.size + 1 + 1, 0, none⟩ (.int .i64 S.gt)).setCell ⟨w.heap.size + 1 + 1, 1, none⟩ (.int .i64 S.gf)) ⟨w.heap.size + 1 + 1, 0, none⟩ + cellN ((w6.setCell ⟨w.heap.size + 1 + 1, 0, none⟩ (.int .i64 S.gt)).setCell ⟨w.heap.size + 1 + 1, 1, none⟩ (.int .i64 S.gf)) ⟨w.heap.size + 1 + 1, 1, none⟩) < 8192 - (cellN wr ⟨w.heap.size + 1 + 1, 0, none⟩ + cellN wr ⟨w.heap.size + 1 + 1, 1, none⟩)) := by
            show _ < _
            have a0 : cellN ((w6.setCell ⟨w.heap.size + 1 + 1, 0, none⟩ (.int .i64 S.gt)).setCell ⟨w.heap.size + 1 + 1, 1, none⟩ (.int .i64 S.gf)) ⟨w.heap.size + 1 + 1, 0, none⟩ = S.gt := by unfold cellN; rw [R7.out.cell 0]; simp
            have a1 : cellN ((w6.setCell ⟨w.heap.size + 1 + 1, 0, none⟩ (.int .i64 S.gt)).setCell ⟨w.heap.size + 1 + 1, 1, none⟩ (.int .i64 S.gf)) ⟨w.heap.size + 1 + 1, 1, none⟩ = S.gf := by unfold cellN; rw [R7.out.cell 1]; simp
            have b0 : cellN wr ⟨w.heap.size + 1 + 1, 0, none⟩ = kt := by unfold cellN; rw [RK.out.cell 0]; simp
            have b1 : cellN wr ⟨w.heap.size + 1 + 1, 1, none⟩ = kf := by unfold cellN; rw [RK.out.cell 1]; simp
            rw [a0, a1, b0, b1]
            omega
          clear HFK2 HSUP HOK hfm
          by_cases q : S.gt = kt
          · have q' : ((S.gf : Int) == (kf : Int)) = false := by
              have : ¬ S.gf = kf := fun e => heq ⟨q, e⟩
              simp; omega
            have q0 : ((S.gt : Int) == (kt : Int)) = true := by simp; omega
            clear heq q
            go_wp2
            go_roundw
            case rel => exact ⟨S.gt, S.gf, m, ho1, ho2, by omega, R7, RR7, HB7, HFM⟩
            case measure => exact HME.out
          · have q' : ((S.gt : Int) == (kt : Int)) = false := by simp; omega
            clear heq q
            go_wp2
            go_roundw
            case rel => exact ⟨S.gt, S.gf, m, ho1, ho2, by omega, R7, RR7, HB7, HFM⟩
            case measure => exact HME.out

set_option maxHeartbeats 2000000 in
theorem follows_any (ns : List Nd) (hw : Wf ns) (hp : 0 < ns.length) (cb : Nat) (na : Option Addr) (nc : Nat) (t f : Nat) (ht : t < 2 ^ 11) (hf : f < 2 ^ 11) (w : World) (hr : Row w cb 161 [.slice na ns.length nc]) (hn : NodesAt w na ns) :
    Calls Tryz.prog 137 #[.pointer (some ⟨cb, 0, none⟩), .agg #[.int .i64 t, .int .i64 f]] w fun e w' => e = .returned (.bool (followsN ns t f)) ∧ Below w.heap.size w w' := by
  have HOP : Hid (∀ w, Calls Tryz.prog 141 #[.agg #[.int .i64 t, .int .i64 f]] w fun e w' => e = .returned (.agg #[.int .i64 f, .int .i64 t]) ∧ Below w.heap.size w w') := fun w => lopp_any t f w
  have HPU : Hid (∀ w', Below w.heap.size w w' → Calls Tryz.prog 120 #[.pointer (some ⟨cb, 0, none⟩), .agg #[.int .i64 f, .int .i64 t]] w' fun e w2 => e = .returned (pshRet (psh ns 4096 f t)) ∧ Below w'.heap.size w' w2) := fun w' hb => push_any ns hw hp cb na nc f t hf ht w' (row_below hr hb) (hn.frame hb.size (fun q e => hb.block _ (by obtain ⟨b', e', hb', _⟩ := hn; rw [e'] at e; cases e; exact hb')))
  have HB : Hid (∀ x, Below w.heap.size w (w.alloc x)) := fun x => (Below.refl _ _).alloc (Nat.le_refl _) x
  have HF : Hid (followsN ns t f = (psh ns 4096 f t).isNone) := fol_psh ns 4096 f t
  generalize followsN ns t f = RES at *
  generalize psh ns 4096 f t = PR at *
  clear hr hn hw
  go_enter Tryz.func137, Tryz.ntmps137
  go_wp2_with fail
  refine (unhide HOP _).mono ?_
  rintro e w2 ⟨rfl, hb2⟩
  have hbw : Below w.heap.size w w2 := (HB.out _).trans (hb2.mono (by simp))
  have HP := hide (HPU.out w2 hbw)
  have HBW := hide hbw
  clear hb2 hbw HOP HB HPU
  go_wp2_with fail
  refine (unhide HP).mono ?_
  rintro e w3 ⟨rfl, hb3⟩
  have B3 : Hid (Below w.heap.size w w3) := HBW.out.trans (hb3.mono HBW.out.size)
  clear hb3 HP
  cases PR with
  | none =>
    simp only [pshRet]
    go_wp2
    go_ret
    exact ⟨by rw [HF.out]; rfl, B3.out.alloc B3.out.size _⟩
  | some p =>
    simp only [pshRet]
    go_wp2
    go_ret
    exact ⟨by rw [HF.out]; rfl, B3.out.alloc B3.out.size _⟩

end Go.Proofs.YthboeppmlhbofaaGreatDoor
