/-
  traillaw's owner: the walk.
-/
import Derived.Test.YthboeppmlhbofaaGreatDoorTrn
import Derived.Deep.RegionLaw
namespace Go.Proofs.YthboeppmlhbofaaGreatDoor
open Go.RowKit Txt
set_option maxRecDepth 100000

/-- a step on texts? -/
def isText (k : Int) : Bool := k == 5 || k == 6 || k == 7
/-- behind a step that may be none -/
def Mayb (b : Bool) (n : Nat) (w w' : World) (Wb B : Nat) (V : WV) : Prop := if b then Nxt (n + 1) w w' Wb B V else Below w.heap.size w w'
theorem Mayb.yes {b : Bool} {n : Nat} {w w' : World} {Wb B : Nat} {V : WV} (h : Mayb b n w w' Wb B V) (hb : b = true) : Nxt (n + 1) w w' Wb B V := by subst hb; exact h
theorem Mayb.no {b : Bool} {n : Nat} {w w' : World} {Wb B : Nat} {V : WV} (h : Mayb b n w w' Wb B V) (hb : b = false) : Below w.heap.size w w' := by subst hb; exact h
theorem texted_any (Wb B n : Nat) (V : WV) (s : St) (w : World) (o : OpD) (ho : o.Ok) (h : WI w Wb B V s) (hbd : Bd n s) (hn : n ≤ 20000) :
    Calls Tryz.prog 25 #[.pointer (some ⟨Wb, 0, none⟩), .agg o.cells] w fun e w' => e = .returned (.bool (isText o.k)) ∧ Mayb (isText o.k) n w w' Wb B V := by
  by_cases h5 : o.k = 5
  · have : isText o.k = true := by simp [isText, h5]
    rw [this]
    exact texted_text Wb B n V s w o ho h5 h hbd hn
  · by_cases h6 : o.k = 6
    · have : isText o.k = true := by simp [isText, h6]
      rw [this]
      by_cases h0 : s.texts.length = 0
      · exact texted_empty Wb B n V s w o (.inl h6) h hbd h0
      · exact texted_turn Wb B n V s w o ho h6 h hbd hn (by omega)
    · by_cases h7 : o.k = 7
      · have : isText o.k = true := by simp [isText, h7]
        rw [this]
        by_cases h0 : s.texts.length = 0
        · exact texted_empty Wb B n V s w o (.inr h7) h hbd h0
        · exact texted_join Wb B n V s w o ho h7 h hbd hn (by omega)
      · have : isText o.k = false := by simp [isText, h5, h6, h7]
        rw [this]
        exact texted_none Wb w o (by simpa using h5) (by simpa using h6) (by simpa using h7)

/-- the list one longer -/
theorem list_end {n : Nat} {w0 w w3 : World} {Wb B : Nat} {V : WV} {s : St} {x : Int} {a3 : Option Addr} {c3 : Nat} {o : Obj} {p : Prop} (H : WI w Wb B V s) (hbd : Bd n s) (hbs : Below w0.heap.size w0 w) (hB : B ≤ w0.heap.size) (hg3 : (w.alloc o).grownBy w3 (V.vl s).ownBlock)
    (hl3 : V.vl s = .slice a3 s.list.length c3 ∨ a3 = some ⟨w.heap.size + 1, 0, none⟩ ∧ p)
    (hown3 : w3.ownsRow B 3 1 (.slice a3 (s.list.length + 1) c3) (s.list.length + 1) (i64s s.list ++ [.int .i64 x])) : Nxt (n + 1) w0 (w3.setCell ⟨Wb, 0, none⟩ (.slice a3 (s.list.length + 1) c3)) Wb B V := by
  have hrow : Row w3 Wb 34 (V.cells s) := row_grown (row_below H.blk ((Below.refl _ _).alloc (Nat.le_refl _) _)) (H.list.alloc _) t_int hg3
  have hst : i64s s.list ++ [.int .i64 x] = i64s (s.list ++ [x]) := by simp [i64s]
  have hsl : (s.list ++ [x]).length = s.list.length + 1 := by simp
  have hb := hbs.mono hB
  have hsz := hbs.size
  refine ⟨{ V with al := a3, cl := c3 }, { s with list := s.list ++ [x] }, H.setList (oth_alloc o (oth_trans (oth_grown hg3) (oth_setW hrow 0 _))) a3 c3 (s.list ++ [x]) ?_ ?_ ?_, ?_, ?_, rfl, rfl, fun b h1 h2 h3 => ⟨grow_kept hbs hg3 0 _ h1 h2 h3.l, off_moved h3.l hl3 (by omega), h3.c, h3.t, h3.x, h3.o, h3.w, h3.cs, h3.os, h3.ws⟩⟩
  · rw [hsl]; exact hrow.set 0 _
  · rw [hsl, ← hst]; exact own_setW hrow 0 _ t_int hown3
  · intro u hu ha
    obtain ⟨m, xs, hx⟩ := hu
    exact apart_moved hx ha (Nat.le_succ _) (lies_own (N := (s.list ++ [x]).length) hl3)
  · refine ⟨?_, hbd.next.cls, hbd.cl1, hbd.next.txs, hbd.tx1, hbd.next.outs, hbd.out1, hbd.next.mark, hbd.same⟩
    show (s.list ++ [x]).length ≤ _
    rw [hsl]; have := hbd.list; omega
  · have hB2 : B ≤ w.heap.size := Nat.le_trans hB hb.size
    exact ((hb.alloc hB2 o).grown hg3 (by simp; omega) (fun j hj => (H.list.lt j hj).1)).setCell (p := ⟨Wb, 0, none⟩) H.base _

/-- the list empty again -/
theorem list_nil {n : Nat} {w0 w : World} {Wb B : Nat} {V : WV} {s : St} (H : WI w Wb B V s) (hbd : Bd n s) (hbs : Below w0.heap.size w0 w) (hB : B ≤ w0.heap.size) : Nxt (n + 1) w0 (w.setCell ⟨Wb, 0, none⟩ (.slice none 0 0)) Wb B V := by
  refine ⟨{ V with al := none, cl := 0 }, { s with list := [] }, H.setList (oth_setW H.blk 0 _) none 0 [] (H.blk.set 0 _) ⟨by simp [i64s], .inl ⟨rfl, rfl⟩⟩ (fun u _ _ => apart_nil u), ?_, ?_, rfl, rfl, fun b h1 h2 h3 => ⟨((Frm.of Wb V hbs).set 0 _ b h1 h2 h3).1, off_nil b, h3.c, h3.t, h3.x, h3.o, h3.w, h3.cs, h3.os, h3.ws⟩⟩
  · exact ⟨Nat.zero_le _, hbd.next.cls, hbd.cl1, hbd.next.txs, hbd.tx1, hbd.next.outs, hbd.out1, hbd.next.mark, hbd.same⟩
  · exact (hbs.mono hB).setCell (p := ⟨Wb, 0, none⟩) H.base _

/-- the clauses none again -/
theorem clauses_nil {n : Nat} {w0 w : World} {Wb B : Nat} {V : WV} {s : St} (H : WI w Wb B V s) (hbd : Bd n s) (hbs : Below w0.heap.size w0 w) (hB : B ≤ w0.heap.size) : Nxt (n + 1) w0 (w.setCell ⟨Wb, 1, none⟩ (.slice none 0 0)) Wb B V := by
  refine ⟨{ V with ac := none, cc := 0, vcs := [] }, { s with clauses := [] }, H.setClauses (oth_setW H.blk 1 _) none 0 [] [] (H.blk.set 1 _) ⟨by simp, .inl ⟨rfl, rfl⟩⟩ trivial (fun u hu => by simp at hu) (apart_nil _).symm (apart_nil _).symm, ?_, ?_, rfl, rfl, fun b h1 h2 h3 => ⟨((Frm.of Wb V hbs).set 1 _ b h1 h2 h3).1, h3.l, off_nil b, h3.t, h3.x, h3.o, h3.w, fun u hu => by simp at hu, h3.os, h3.ws⟩⟩
  · exact ⟨hbd.next.list, by show 0 ≤ _; omega, fun c hc => by simp at hc, hbd.next.txs, hbd.tx1, hbd.next.outs, hbd.out1, hbd.next.mark, hbd.same⟩
  · exact (hbs.mono hB).setCell (p := ⟨Wb, 1, none⟩) H.base _

theorem own_spare {w : World} {g B : Nat} {xs : List Int} (h : Row w g 3 (i64s xs ++ sevens)) (hB : B ≤ g) (hx : xs.length ≤ 4294967296) : w.ownsRow B 3 1 (.slice (some ⟨g, 0, none⟩) xs.length (xs.length + 2)) xs.length (i64s xs) :=
  ⟨by rw [i64s_length, Nat.mul_one], .inr ⟨g, xs.length + 2, (i64s xs ++ sevens).toArray, rfl, hB, h, by omega, by unfold maxLen; omega, by simp [i64s_length, sevens], by simp [i64s_length]⟩⟩

/-- the clauses one more -/
theorem clause_end {n g : Nat} {w0 w00 w w3 : World} {Wb B : Nat} {V : WV} {s : St} {a3 : Option Addr} {c3 : Nat} {o : Obj} {p : Prop} (H0 : WI w00 Wb B V s) (hbd : Bd n s) (hn : n ≤ 16384) (hbs : Below w0.heap.size w0 w00) (hbw : Below w00.heap.size w00 w) (hB : B ≤ w0.heap.size) (hg : w00.heap.size ≤ g) (hrow0 : Row w g 3 (i64s s.list ++ sevens))
    (hg3 : (w.alloc o).grownBy w3 (V.vc s).ownBlock) (hl3 : V.vc s = .slice a3 s.clauses.length c3 ∨ a3 = some ⟨w.heap.size + 1, 0, none⟩ ∧ p)
    (hown3 : w3.ownsRow B 24 1 (.slice a3 (s.clauses.length + 1) c3) (s.clauses.length + 1) (V.vcs ++ [.slice (some ⟨g, 0, none⟩) s.list.length (s.list.length + 2)])) : Nxt (n + 1) w0 (w3.setCell ⟨Wb, 1, none⟩ (.slice a3 (s.clauses.length + 1) c3)) Wb B V := by
  have H : WI w Wb B V s := H0.below hbw
  have hb := hbs.mono hB
  have hbsw : Below w0.heap.size w0 w := hbs.trans (hbw.mono hbs.size)
  have hsz := hbsw.size
  have hB2 : B ≤ w00.heap.size := Nat.le_trans hB hb.size
  have hrow : Row w3 Wb 34 (V.cells s) := row_grown (row_below H.blk ((Below.refl _ _).alloc (Nat.le_refl _) _)) (H.clt.alloc _) t_ints hg3
  have hll := hbd.list
  have hnew := own_spare hrow0 (Nat.le_trans hB2 hg) (by omega)
  have hlo := lies_own (N := (s.clauses ++ [s.list]).length) hl3
  have hsl : (s.clauses ++ [s.list]).length = s.clauses.length + 1 := by simp
  have hk : ∀ u m xs, w.ownsRow B 3 1 u m xs → (w3.setCell ⟨Wb, 1, none⟩ (.slice a3 (s.clauses.length + 1) c3)).ownsRow B 3 1 u m xs := fun u m xs hu => own_setW hrow 1 _ t_int (own_apart_kept (hu.alloc o) hg3 (apart_types n_il (hu.alloc o) (H.clt.alloc o)))
  refine ⟨{ V with ac := a3, cc := c3, vcs := _ }, { s with clauses := s.clauses ++ [s.list] }, H.setClauses (oth_alloc o (oth_trans (oth_grown hg3) (oth_setW hrow 1 _))) a3 c3 (s.clauses ++ [s.list]) (V.vcs ++ [.slice (some ⟨g, 0, none⟩) s.list.length (s.list.length + 2)]) ?_ ?_ ?_ ?_ ?_ ?_, ?_, ?_, rfl, rfl, fun b h1 h2 h3 => ⟨grow_kept hbsw hg3 1 _ h1 h2 h3.c, h3.l, off_moved h3.c hl3 (by omega), h3.t, h3.x, h3.o, h3.w, fun u hu => (List.mem_append.1 hu).elim (h3.cs u) (fun hq => by simp at hq; subst hq; have := hbs.size; simp only [Value.ownBlock, ne_eq, Option.some.injEq]; omega), h3.os, h3.ws⟩⟩
  · rw [hsl]; exact hrow.set 1 _
  · rw [hsl]; exact own_setW hrow 1 _ t_ints hown3
  · exact (H.cle.map (fun u _ m xs hu => hk u m xs hu)).snoc (hk _ _ _ hnew)
  · intro u hu
    rcases List.mem_append.1 hu with hu | hu
    · exact H.b1 u hu
    · simp at hu; subst hu; exact apart_new H0.list hg _ _
  · exact apart_moved2 H.ot H.a1 (Nat.le_succ _) hlo
  · exact apart_moved2 H.wt H.a2 (Nat.le_succ _) hlo
  · refine ⟨hbd.next.list, ?_, ?_, hbd.next.txs, hbd.tx1, hbd.next.outs, hbd.out1, hbd.next.mark, hbd.same⟩
    · show (s.clauses ++ [s.list]).length ≤ _
      rw [hsl]; have := hbd.cls; omega
    · intro x hx
      rcases List.mem_append.1 hx with hx | hx
      · exact hbd.cl1 x hx
      · simp at hx; subst hx; omega
  · have hbB : Below B w0 w := hb.trans (hbw.mono hB2)
    have hB3 : B ≤ w.heap.size := Nat.le_trans hB2 hbw.size
    exact ((hbB.alloc hB3 o).grown hg3 (by simp; omega) (fun j hj => (H.clt.lt j hj).1)).setCell (p := ⟨Wb, 1, none⟩) H.base _

end Go.Proofs.YthboeppmlhbofaaGreatDoor

/-
  traillaw's owner: the walk.
-/
namespace Go.Proofs.YthboeppmlhbofaaGreatDoor
open Go.RowKit Txt
set_option maxRecDepth 100000

theorem Nxt.alloc {n : Nat} {w w' : World} {Wb B : Nat} {V : WV} (h : Nxt n w w' Wb B V) (hB : B ≤ w.heap.size) (x : Obj) : Nxt n w (w'.alloc x) Wb B V := by
  obtain ⟨V', s', i1, i2, i3, i4, i5, i6⟩ := h
  exact ⟨V', s', i1.below ((Below.refl _ _).alloc (Nat.le_refl _) x), i2, i3.alloc (Nat.le_trans hB i3.size) x, i4, i5, i6.trans i3.size (Frm.of Wb V' ((Below.refl _ _).alloc (Nat.le_refl _) x))⟩

set_option maxHeartbeats 4000000 in
theorem owner_list (Wb B n : Nat) (V : WV) (s : St) (w : World) (o : OpD) (hk : o.k = 1) (h : WI w Wb B V s) (hbd : Bd n s) (hn : n ≤ 16384) :
    Calls Tryz.prog 14 #[.pointer (some ⟨Wb, 0, none⟩), .agg o.cells] w fun e w' => e = .returned (.bool true) ∧ Nxt (n + 1) w w' Wb B V := by
  obtain ⟨k, a, b, c, t⟩ := o
  subst hk
  obtain ⟨i0, hi, hz0, hz1, hz2⟩ := info_parts Tryz.infoInt
  have hx := hbd.list
  have hBs : B ≤ w.heap.size := Nat.le_trans h.base (Nat.le_of_lt h.blk.lt)
  have d1 : Hid (s.list.length + 1 ≤ maxLen) := by show _ ≤ _; unfold maxLen; omega
  have d2 : Hid ((s.list.length + 1) * 8 ≤ 140737488355328) := by show _ ≤ _; omega
  have H := hide h
  have HBD := hide hbd
  have hlt : Wb < w.heap.size := h.blk.lt
  have f0w : w.cell? ⟨Wb, 0, none⟩ = some (.slice V.al s.list.length V.cl) := (h.blk.cell 0).trans rfl
  simp only [OpD.cells] at *
  clear h hbd
  go_enter Tryz.func14, Tryz.ntmps14
  go_wp2_with fail
  have e1 := fun j u hu => new_cells1 w [.int .i64 1, .int .i64 a, .int .i64 b, .int .i64 c, .string t] 27 j u hu
  have hb1 : Below w.heap.size w (w.alloc (.cells #[.int .i64 1, .int .i64 a, .int .i64 b, .int .i64 c, .string t] 27)) := (Below.refl _ _).alloc (Nat.le_refl _) _
  have e3 : w.heap.size < (w.alloc (.cells #[.int .i64 1, .int .i64 a, .int .i64 b, .int .i64 c, .string t] 27)).heap.size := by simp
  have m1 := e1 1 _ rfl
  rw [addr0] at m1
  simp only [Nat.zero_add] at m1
  clear e1
  generalize w.alloc (.cells #[.int .i64 1, .int .i64 a, .int .i64 b, .int .i64 c, .string t] 27) = w1 at *
  have f0 : w1.cell? ⟨Wb, 0, none⟩ = some (.slice V.al s.list.length V.cl) := (hb1.cell (p := ⟨Wb, 0, none⟩) hlt).trans f0w
  have H1 := hide (H.out.below hb1)
  have HB1 := hide hb1
  have hB1 : B ≤ w1.heap.size := by omega
  clear f0w hb1
  have f0a : ∀ o, (w1.alloc o).cell? ⟨Wb, 0, none⟩ = some (.slice V.al s.list.length V.cl) := fun o => (((Below.refl w1.heap.size w1).alloc (Nat.le_refl _) o).cell (p := ⟨Wb, 0, none⟩) (show Wb < w1.heap.size by omega)).trans f0
  go_region_law (
    (refine step_append_full _ (by rfl) (.tmp 16) (.tmp 19) 24 (by rfl) B 3 i0 (.int .i64 0) 8 Tryz.undInts hi hz0 hz1 hz2 rfl (.slice V.al s.list.length V.cl) s.list.length (i64s s.list) (by rfl) (by exact H1.out.list.alloc _) ⟨w1.heap.size, 0, none⟩ 1 1 [.int .i64 a] (by rfl) rfl (by exact new_cells1 w1 [.int .i64 a] 3) (by intro u hu; simp at hu; subst hu; rfl) (by decide) d1.out d2.out (by simp; omega) (w1.heap.size + 1) (by simp) ?_; intro a3 c3 w3 hown3 hg3 hl3;
      have HR3 : Hid (Row w3 Wb 34 (V.cells s)) := row_grown (row_below H1.out.blk ((Below.refl _ _).alloc (Nat.le_refl _) _)) (H1.out.list.alloc _) t_int (grown_undrew hg3);
      have g2 : w3.cell? ⟨Wb, 0, none⟩ = some (.slice V.al s.list.length V.cl) := (HR3.out.cell 0).trans rfl;
      have g2' := HR3.out.frozen 0))
  all_goals
    go_wp2
    go_ret
    exact ⟨rfl, list_end H1.out HBD.out HB1.out hBs (grown_undrew hg3) hl3 hown3⟩

set_option maxHeartbeats 2000000 in
theorem owner_nil (Wb B n : Nat) (V : WV) (s : St) (w : World) (o : OpD) (hk : o.k = 2 ∨ o.k = 4) (h : WI w Wb B V s) (hbd : Bd n s) :
    Calls Tryz.prog 14 #[.pointer (some ⟨Wb, 0, none⟩), .agg o.cells] w fun e w' => e = .returned (.bool true) ∧ Nxt (n + 1) w w' Wb B V := by
  obtain ⟨k, a, b, c, t⟩ := o
  have hlt : Wb < w.heap.size := h.blk.lt
  have f0w : w.cell? ⟨Wb, 0, none⟩ = some (.slice V.al s.list.length V.cl) := (h.blk.cell 0).trans rfl
  have f1w : w.cell? ⟨Wb, 1, none⟩ = some (.slice V.ac s.clauses.length V.cc) := (h.blk.cell 1).trans rfl
  have z0 := h.blk.frozen 0
  have z1 := h.blk.frozen 1
  have hBs : B ≤ w.heap.size := Nat.le_trans h.base (Nat.le_of_lt h.blk.lt)
  have H := hide h
  have HBD := hide hbd
  simp only [OpD.cells] at *
  clear h hbd
  rcases hk with rfl | rfl
  · go_enter Tryz.func14, Tryz.ntmps14
    go_wp2
    go_ret
    exact ⟨rfl, (list_nil H.out HBD.out (Below.refl _ _) hBs).alloc hBs _⟩
  · go_enter Tryz.func14, Tryz.ntmps14
    go_wp2
    go_ret
    exact ⟨rfl, (clauses_nil H.out HBD.out (Below.refl _ _) hBs).alloc hBs _⟩

set_option maxHeartbeats 2000000 in
theorem owner_text (Wb B n : Nat) (V : WV) (s : St) (w : World) (o : OpD) (ho : o.Ok) (h : WI w Wb B V s) (hbd : Bd n s) (hn : n ≤ 16384) (h1 : (o.k == 1) = false) (h2 : (o.k == 2) = false) (h3 : (o.k == 3) = false) (h4 : (o.k == 4) = false) :
    Calls Tryz.prog 14 #[.pointer (some ⟨Wb, 0, none⟩), .agg o.cells] w fun e w' => e = .returned (.bool (isText o.k)) ∧ Mayb (isText o.k) n w w' Wb B V := by
  have hBs : B ≤ w.heap.size := Nat.le_trans h.base (Nat.le_of_lt h.blk.lt)
  have HB : Hid (∀ x, Below w.heap.size w (w.alloc x)) := fun x => (Below.refl _ _).alloc (Nat.le_refl _) x
  have HT : Hid (∀ x, Calls Tryz.prog 25 #[.pointer (some ⟨Wb, 0, none⟩), .agg o.cells] (w.alloc x) fun e w' => e = .returned (.bool (isText o.k)) ∧ Mayb (isText o.k) n (w.alloc x) w' Wb B V) := fun x => texted_any Wb B n V s (w.alloc x) o ho (h.below (HB.out x)) hbd (by omega)
  have HM : Hid (∀ x w', Mayb (isText o.k) n (w.alloc x) w' Wb B V → Mayb (isText o.k) n w w' Wb B V) := by
    intro x w' hm
    cases hb : isText o.k with
    | true =>
      obtain ⟨V', s', i1, i2, i3, i4, i5, i6⟩ := hm.yes hb
      exact ⟨V', s', i1, i2, ((HB.out _).mono hBs).trans i3, i4, i5, Frm.pre (HB.out _) i6⟩
    | false => exact (HB.out x).trans ((hm.no hb).mono (by simp))
  obtain ⟨k, a, b, c, t⟩ := o
  simp only [OpD.cells] at *
  clear h hbd ho
  go_enter Tryz.func14, Tryz.ntmps14
  go_wp2_with fail
  refine (unhide HT _).mono ?_
  rintro e w' ⟨rfl, hM⟩
  have HQ := hide hM
  clear hM
  go_wp2
  go_ret
  exact ⟨rfl, HM.out _ _ HQ.out⟩

set_option maxHeartbeats 4000000 in
theorem owner_clause (Wb B n : Nat) (V : WV) (s : St) (w : World) (o : OpD) (hk : o.k = 3) (h : WI w Wb B V s) (hbd : Bd n s) (hn : n ≤ 16384) :
    Calls Tryz.prog 14 #[.pointer (some ⟨Wb, 0, none⟩), .agg o.cells] w fun e w' => e = .returned (.bool true) ∧ Nxt (n + 1) w w' Wb B V := by
  obtain ⟨k, a, b, c, t⟩ := o
  subst hk
  obtain ⟨i1, gi, gz0, gz1, gz2⟩ := info_parts Tryz.infoInts
  have hx := hbd.cls
  have hy := hbd.list
  have hBs : B ≤ w.heap.size := Nat.le_trans h.base (Nat.le_of_lt h.blk.lt)
  have d1 : Hid (s.clauses.length + 1 ≤ maxLen) := by show _ ≤ _; unfold maxLen; omega
  have d2 : Hid ((s.clauses.length + 1) * 24 ≤ 140737488355328) := by show _ ≤ _; omega
  have hlb : Hid (s.list.length ≤ 4294967296) := by show _ ≤ _; omega
  have H := hide h
  have HBD := hide hbd
  have hlt : Wb < w.heap.size := h.blk.lt
  simp only [OpD.cells] at *
  clear h hbd
  go_enter Tryz.func14, Tryz.ntmps14
  go_wp2_with fail
  have hb1 : Below w.heap.size w (w.alloc (.cells #[.int .i64 3, .int .i64 a, .int .i64 b, .int .i64 c, .string t] 27)) := (Below.refl _ _).alloc (Nat.le_refl _) _
  have e3 : w.heap.size < (w.alloc (.cells #[.int .i64 3, .int .i64 a, .int .i64 b, .int .i64 c, .string t] 27)).heap.size := by simp
  generalize w.alloc (.cells #[.int .i64 3, .int .i64 a, .int .i64 b, .int .i64 c, .string t] 27) = w1 at *
  have H1 := hide (H.out.below hb1)
  have f0 : w1.cell? ⟨Wb, 0, none⟩ = some (.slice V.al s.list.length V.cl) := (H1.out.blk.cell 0).trans rfl
  have f1 : w1.cell? ⟨Wb, 1, none⟩ = some (.slice V.ac s.clauses.length V.cc) := (H1.out.blk.cell 1).trans rfl
  have HB1 := hide hb1
  have hB1 : B ≤ w1.heap.size := by omega
  have hri : Hid (IntsAt w1.drew V.al s.list) := by
    show IntsAt _ _ _
    exact (own_intsAt H1.out.list).kept fun _ _ _ h => h
  clear hb1
  go_region_law (
    first
    | (refine step_append_full _ rfl (.tmp 34) (.tmp 40) 30 rfl B 24 i1 (.slice none 0 0) 24 Tryz.undLists gi gz0 gz1 gz2 rfl (.slice V.ac s.clauses.length V.cc) s.clauses.length V.vcs rfl (H2.out.clt.alloc _) ⟨w2.heap.size, 0, none⟩ 1 1 [.slice (some ⟨w1.heap.size, 0, none⟩) s.list.length (s.list.length + 2)] rfl rfl (new_cells1 w2 [.slice (some ⟨w1.heap.size, 0, none⟩) s.list.length (s.list.length + 2)] 24) (by intro u hu; simp at hu; subst hu; rfl) (by decide) d1.out d2.out (by simp; omega) (w2.heap.size + 1) (by simp) ?_; intro a3 c3 w3 hown3 hg3 hl3;
        have HR3 : Hid (Row w3 Wb 34 (V.cells s)) := row_grown (row_below H2.out.blk ((Below.refl _ _).alloc (Nat.le_refl _) _)) (H2.out.clt.alloc _) t_ints hg3;
        have g2 : w3.cell? ⟨Wb, 1, none⟩ = some (.slice V.ac s.clauses.length V.cc) := (HR3.out.cell 1).trans rfl;
        have g2' := HR3.out.frozen 1)
    | (go_simp; go_at_call 24; refine (spare_any V.al V.cl s.list w1.drew hlb.out hri.out).mono ?_; rintro e w2 ⟨rfl, hrow2, hb2⟩;
        have HRW : Hid (Row w2 w1.heap.size 3 (i64s s.list ++ sevens)) := hrow2;
        have HB2 : Hid (Below w1.heap.size w1 w2) := (below_drewN (Below.refl _ _) 1).trans hb2;
        have H2 := hide (H1.out.below HB2.out);
        have hz2 : w1.heap.size ≤ w2.heap.size := HB2.out.size;
        have k1 : w2.cell? ⟨Wb, 1, none⟩ = some (.slice V.ac s.clauses.length V.cc) := (H2.out.blk.cell 1).trans rfl;
        have k1a : ∀ o, (w2.alloc o).cell? ⟨Wb, 1, none⟩ = some (.slice V.ac s.clauses.length V.cc) := fun o => (((Below.refl w2.heap.size w2).alloc (Nat.le_refl _) o).cell (p := ⟨Wb, 1, none⟩) (show Wb < w2.heap.size by omega)).trans k1;
        clear hrow2 hb2; go_wp2_with fail))
  all_goals
    go_wp2
    go_ret
    exact ⟨rfl, clause_end H1.out HBD.out hn HB1.out HB2.out hBs (Nat.le_refl _) HRW.out hg3 hl3 hown3⟩

/-- a step on what the caller owns? -/
def isOwn (k : Int) : Bool := k == 1 || k == 2 || k == 3 || k == 4 || isText k
theorem owner_any (Wb B n : Nat) (V : WV) (s : St) (w : World) (o : OpD) (ho : o.Ok) (h : WI w Wb B V s) (hbd : Bd n s) (hn : n ≤ 16384) :
    Calls Tryz.prog 14 #[.pointer (some ⟨Wb, 0, none⟩), .agg o.cells] w fun e w' => e = .returned (.bool (isOwn o.k)) ∧ Mayb (isOwn o.k) n w w' Wb B V := by
  by_cases h1 : o.k = 1
  · have : isOwn o.k = true := by simp [isOwn, h1]
    rw [this]
    exact owner_list Wb B n V s w o h1 h hbd hn
  · by_cases h2 : o.k = 2
    · have : isOwn o.k = true := by simp [isOwn, h2]
      rw [this]
      exact owner_nil Wb B n V s w o (.inl h2) h hbd
    · by_cases h3 : o.k = 3
      · have : isOwn o.k = true := by simp [isOwn, h3]
        rw [this]
        exact owner_clause Wb B n V s w o h3 h hbd hn
      · by_cases h4 : o.k = 4
        · have : isOwn o.k = true := by simp [isOwn, h4]
          rw [this]
          exact owner_nil Wb B n V s w o (.inr h4) h hbd
        · have e : isOwn o.k = isText o.k := by simp [isOwn, h1, h2, h3, h4]
          rw [e]
          exact owner_text Wb B n V s w o ho h hbd hn (by simpa using h1) (by simpa using h2) (by simpa using h3) (by simpa using h4)

end Go.Proofs.YthboeppmlhbofaaGreatDoor
