/-
  traillaw's owner: the walk.
-/
import Derived.Test.YtgohikopopgokaaGreatDoorTrn
import Derived.Deep.RegionLaw
namespace Go.Proofs.YtgohikopopgokaaGreatDoor
open Go.RowKit Txt
set_option maxRecDepth 100000

/-- a step on texts? -/
def isText (k : Int) : Bool := k == 5 || k == 6 || k == 7
/-- behind a step that may be none -/
def Mayb (b : Bool) (n : Nat) (w w' : World) (Wb B : Nat) (V : WV) : Prop := if b then Nxt (n + 1) w w' Wb B V else Below w.heap.size w w'
theorem Mayb.yes {b : Bool} {n : Nat} {w w' : World} {Wb B : Nat} {V : WV} (h : Mayb b n w w' Wb B V) (hb : b = true) : Nxt (n + 1) w w' Wb B V := by subst hb; exact h
theorem Mayb.no {b : Bool} {n : Nat} {w w' : World} {Wb B : Nat} {V : WV} (h : Mayb b n w w' Wb B V) (hb : b = false) : Below w.heap.size w w' := by subst hb; exact h
theorem texted_any (Wb B n : Nat) (V : WV) (s : St) (w : World) (o : OpD) (ho : o.Ok) (h : WI w Wb B V s) (hbd : Bd n s) (hn : n ≤ 20000) :
    Calls Tryz.prog 24 #[.pointer (some ⟨Wb, 0, none⟩), .agg o.cells] w fun e w' => e = .returned (.bool (isText o.k)) ∧ Mayb (isText o.k) n w w' Wb B V := by
  by_cases h5 : o.k = 5
  · have : isText o.k = true := by simp [isText, h5]
    rw [this]
    exact texted_text Wb B n V s w o ho h5 h hbd hn
  · by_cases h6 : o.k = 6
    · have : isText o.k = true := by simp [isText, h6]
      rw [this]
      by_cases h0 : s.texts.length = 0
      · exact texted_empty Wb B n V s w o (.inl h6) h hbd h0
      · exact texted_turn Wb B n V s w o ho h6 h hbd hn (by omega)
    · by_cases h7 : o.k = 7
      · have : isText o.k = true := by simp [isText, h7]
        rw [this]
        by_cases h0 : s.texts.length = 0
        · exact texted_empty Wb B n V s w o (.inr h7) h hbd h0
        · exact texted_join Wb B n V s w o ho h7 h hbd hn (by omega)
      · have : isText o.k = false := by simp [isText, h5, h6, h7]
        rw [this]
        exact texted_none Wb w o (by simpa using h5) (by simpa using h6) (by simpa using h7)

/-- the list one longer -/
theorem list_end {n : Nat} {w0 w w3 : World} {Wb B : Nat} {V : WV} {s : St} {x : Int} {a3 : Option Addr} {c3 : Nat} {o : Obj} {p : Prop} (H : WI w Wb B V s) (hbd : Bd n s) (hbs : Below w0.heap.size w0 w) (hB : B ≤ w0.heap.size) (hg3 : (w.alloc o).grownBy w3 (V.vl s).ownBlock)
    (hl3 : V.vl s = .slice a3 s.list.length c3 ∨ a3 = some ⟨w.heap.size + 1, 0, none⟩ ∧ p)
    (hown3 : w3.ownsRow B 3 1 (.slice a3 (s.list.length + 1) c3) (s.list.length + 1) (i64s s.list ++ [.int .i64 x])) : Nxt (n + 1) w0 (w3.setCell ⟨Wb, 0, none⟩ (.slice a3 (s.list.length + 1) c3)) Wb B V := by
  have hrow : Row w3 Wb 34 (V.cells s) := row_grown (row_below H.blk ((Below.refl _ _).alloc (Nat.le_refl _) _)) (H.list.alloc _) t_int hg3
  have hst : i64s s.list ++ [.int .i64 x] = i64s (s.list ++ [x]) := by simp [i64s]
  have hsl : (s.list ++ [x]).length = s.list.length + 1 := by simp
  have hb := hbs.mono hB
  have hsz := hbs.size
  refine ⟨{ V with al := a3, cl := c3 }, { s with list := s.list ++ [x] }, H.setList (oth_alloc o (oth_trans (oth_grown hg3) (oth_setW hrow 0 _))) a3 c3 (s.list ++ [x]) ?_ ?_ ?_, ?_, ?_, rfl, rfl, fun b h1 h2 h3 => ⟨grow_kept hbs hg3 0 _ h1 h2 h3.l, off_moved h3.l hl3 (by omega), h3.c, h3.t, h3.x, h3.o, h3.w, h3.cs, h3.os, h3.ws⟩⟩
  · rw [hsl]; exact hrow.set 0 _
  · rw [hsl, ← hst]; exact own_setW hrow 0 _ t_int hown3
  · intro u hu ha
    obtain ⟨m, xs, hx⟩ := hu
    exact apart_moved hx ha (Nat.le_succ _) (lies_own (N := (s.list ++ [x]).length) hl3)
  · refine ⟨?_, hbd.next.cls, hbd.cl1, hbd.next.txs, hbd.tx1, hbd.next.outs, hbd.out1, hbd.next.mark, hbd.same⟩
    show (s.list ++ [x]).length ≤ _
    rw [hsl]; have := hbd.list; omega
  · have hB2 : B ≤ w.heap.size := Nat.le_trans hB hb.size
    exact ((hb.alloc hB2 o).grown hg3 (by simp; omega) (fun j hj => (H.list.lt j hj).1)).setCell (p := ⟨Wb, 0, none⟩) H.base _

/-- the list empty again -/
theorem list_nil {n : Nat} {w0 w : World} {Wb B : Nat} {V : WV} {s : St} (H : WI w Wb B V s) (hbd : Bd n s) (hbs : Below w0.heap.size w0 w) (hB : B ≤ w0.heap.size) : Nxt (n + 1) w0 (w.setCell ⟨Wb, 0, none⟩ (.slice none 0 0)) Wb B V := by
  refine ⟨{ V with al := none, cl := 0 }, { s with list := [] }, H.setList (oth_setW H.blk 0 _) none 0 [] (H.blk.set 0 _) ⟨by simp [i64s], .inl ⟨rfl, rfl⟩⟩ (fun u _ _ => apart_nil u), ?_, ?_, rfl, rfl, fun b h1 h2 h3 => ⟨((Frm.of Wb V hbs).set 0 _ b h1 h2 h3).1, off_nil b, h3.c, h3.t, h3.x, h3.o, h3.w, h3.cs, h3.os, h3.ws⟩⟩
  · exact ⟨Nat.zero_le _, hbd.next.cls, hbd.cl1, hbd.next.txs, hbd.tx1, hbd.next.outs, hbd.out1, hbd.next.mark, hbd.same⟩
  · exact (hbs.mono hB).setCell (p := ⟨Wb, 0, none⟩) H.base _

/-- the clauses none again -/
theorem clauses_nil {n : Nat} {w0 w : World} {Wb B : Nat} {V : WV} {s : St} (H : WI w Wb B V s) (hbd : Bd n s) (hbs : Below w0.heap.size w0 w) (hB : B ≤ w0.heap.size) : Nxt (n + 1) w0 (w.setCell ⟨Wb, 1, none⟩ (.slice none 0 0)) Wb B V := by
  refine ⟨{ V with ac := none, cc := 0, vcs := [] }, { s with clauses := [] }, H.setClauses (oth_setW H.blk 1 _) none 0 [] [] (H.blk.set 1 _) ⟨by simp, .inl ⟨rfl, rfl⟩⟩ trivial (fun u hu => by simp at hu) (apart_nil _).symm (apart_nil _).symm, ?_, ?_, rfl, rfl, fun b h1 h2 h3 => ⟨((Frm.of Wb V hbs).set 1 _ b h1 h2 h3).1, h3.l, off_nil b, h3.t, h3.x, h3.o, h3.w, fun u hu => by simp at hu, h3.os, h3.ws⟩⟩
  · exact ⟨hbd.next.list, by show 0 ≤ _; omega, fun c hc => by simp at hc, hbd.next.txs, hbd.tx1, hbd.next.outs, hbd.out1, hbd.next.mark, hbd.same⟩
  · exact (hbs.mono hB).setCell (p := ⟨Wb, 1, none⟩) H.base _

theorem own_spare {w : World} {g B : Nat} {xs : List Int} (h : Row w g 3 (i64s xs ++ sevens)) (hB : B ≤ g) (hx : xs.length ≤ 4294967296) : w.ownsRow B 3 1 (.slice (some ⟨g, 0, none⟩) xs.length (xs.length + 2)) xs.length (i64s xs) :=
  ⟨by rw [i64s_length, Nat.mul_one], .inr ⟨g, xs.length + 2, (i64s xs ++ sevens).toArray, rfl, hB, h, by omega, by unfold maxLen; omega, by simp [i64s_length, sevens], by simp [i64s_length]⟩⟩

/-- the clauses one more -/
theorem clause_end {n g : Nat} {w0 w00 w w3 : World} {Wb B : Nat} {V : WV} {s : St} {a3 : Option Addr} {c3 : Nat} {o : Obj} {p : Prop} (H0 : WI w00 Wb B V s) (hbd : Bd n s) (hn : n ≤ 16384) (hbs : Below w0.heap.size w0 w00) (hbw : Below w00.heap.size w00 w) (hB : B ≤ w0.heap.size) (hg : w00.heap.size ≤ g) (hrow0 : Row w g 3 (i64s s.list ++ sevens))
    (hg3 : (w.alloc o).grownBy w3 (V.vc s).ownBlock) (hl3 : V.vc s = .slice a3 s.clauses.length c3 ∨ a3 = some ⟨w.heap.size + 1, 0, none⟩ ∧ p)
    (hown3 : w3.ownsRow B 24 1 (.slice a3 (s.clauses.length + 1) c3) (s.clauses.length + 1) (V.vcs ++ [.slice (some ⟨g, 0, none⟩) s.list.length (s.list.length + 2)])) : Nxt (n + 1) w0 (w3.setCell ⟨Wb, 1, none⟩ (.slice a3 (s.clauses.length + 1) c3)) Wb B V := by
  have H : WI w Wb B V s := H0.below hbw
  have hb := hbs.mono hB
  have hbsw : Below w0.heap.size w0 w := hbs.trans (hbw.mono hbs.size)
  have hsz := hbsw.size
  have hB2 : B ≤ w00.heap.size := Nat.le_trans hB hb.size
  have hrow : Row w3 Wb 34 (V.cells s) := row_grown (row_below H.blk ((Below.refl _ _).alloc (Nat.le_refl _) _)) (H.clt.alloc _) t_ints hg3
  have hll := hbd.list
  have hnew := own_spare hrow0 (Nat.le_trans hB2 hg) (by omega)
  have hlo := lies_own (N := (s.clauses ++ [s.list]).length) hl3
  have hsl : (s.clauses ++ [s.list]).length = s.clauses.length + 1 := by simp
  have hk : ∀ u m xs, w.ownsRow B 3 1 u m xs → (w3.setCell ⟨Wb, 1, none⟩ (.slice a3 (s.clauses.length + 1) c3)).ownsRow B 3 1 u m xs := fun u m xs hu => own_setW hrow 1 _ t_int (own_apart_kept (hu.alloc o) hg3 (apart_types n_il (hu.alloc o) (H.clt.alloc o)))
  refine ⟨{ V with ac := a3, cc := c3, vcs := _ }, { s with clauses := s.clauses ++ [s.list] }, H.setClauses (oth_alloc o (oth_trans (oth_grown hg3) (oth_setW hrow 1 _))) a3 c3 (s.clauses ++ [s.list]) (V.vcs ++ [.slice (some ⟨g, 0, none⟩) s.list.length (s.list.length + 2)]) ?_ ?_ ?_ ?_ ?_ ?_, ?_, ?_, rfl, rfl, fun b h1 h2 h3 => ⟨grow_kept hbsw hg3 1 _ h1 h2 h3.c, h3.l, off_moved h3.c hl3 (by omega), h3.t, h3.x, h3.o, h3.w, fun u hu => (List.mem_append.1 hu).elim (h3.cs u) (fun hq => by simp at hq; subst hq; have := hbs.size; simp only [Value.ownBlock, ne_eq, Option.some.injEq]; omega), h3.os, h3.ws⟩⟩
  · rw [hsl]; exact hrow.set 1 _
  · rw [hsl]; exact own_setW hrow 1 _ t_ints hown3
  · exact (H.cle.map (fun u _ m xs hu => hk u m xs hu)).snoc (hk _ _ _ hnew)
  · intro u hu
    rcases List.mem_append.1 hu with hu | hu
    · exact H.b1 u hu
    · simp at hu; subst hu; exact apart_new H0.list hg _ _
  · exact apart_moved2 H.ot H.a1 (Nat.le_succ _) hlo
  · exact apart_moved2 H.wt H.a2 (Nat.le_succ _) hlo
  · refine ⟨hbd.next.list, ?_, ?_, hbd.next.txs, hbd.tx1, hbd.next.outs, hbd.out1, hbd.next.mark, hbd.same⟩
    · show (s.clauses ++ [s.list]).length ≤ _
      rw [hsl]; have := hbd.cls; omega
    · intro x hx
      rcases List.mem_append.1 hx with hx | hx
      · exact hbd.cl1 x hx
      · simp at hx; subst hx; omega
  · have hbB : Below B w0 w := hb.trans (hbw.mono hB2)
    have hB3 : B ≤ w.heap.size := Nat.le_trans hB2 hbw.size
    exact ((hbB.alloc hB3 o).grown hg3 (by simp; omega) (fun j hj => (H.clt.lt j hj).1)).setCell (p := ⟨Wb, 1, none⟩) H.base _

end Go.Proofs.YtgohikopopgokaaGreatDoor
