/-
  pushing: the tree grows.
-/
import Derived.Test.YthboeppmlhbofaaPsd
import Derived.Laws.OwnMore
namespace Go.Proofs.Ythboeppmlhbofaa
open Go.RowKit Txt
set_option maxRecDepth 100000

theorem Try.infoNode : (Try.prog.info? 62).map (fun i => (i.zero, i.size, i.bytes)) = some (some (.agg #[.int .i64 0, .int .i64 0, .int .i64 0, .int .i64 0, .int .i64 0]), 5, 40) := by kernel_rfl
theorem Try.undNodes : Try.prog.underlying 63 = some (.slice 62) := by kernel_rfl
theorem u_nc : (62 : Nat) ≠ 65 := by decide

theorem wpList_append_many {P : Program} (w : World) {ops : Array Oper} {rest : List Oper} {o : Oper} {a : Act} {Q : Exit → Act → World → Prop} (hgd : o.guard = none) (s x : Operand) (t : TypeId)
    (ho : o.op = .call { callee := .builtin .append, args := #[s, x], argTypes := #[t, t] })
    (base : Nat) (e : TypeId) (i : TypeInfo) (z : Value) (size bytes : Nat) (ht : P.underlying t = some (.slice e)) (hi : P.info? e = some i) (hz : i.zero = some z)
    (hsize : i.size = size) (hby : i.bytes = bytes) (hzs : z.cells.size = size) (hpos : 0 < size)
    (v : Value) (n : Nat) (xs : List Value) (hs : a.eval s = v) (hown : w.ownsRow base e size v n xs)
    (ad : Addr) (m c : Nat) (news : List Value) (hx : a.eval x = .slice (some ad) m c) (hl : news.length = m * size) (hnews : ∀ j u, news[j]? = some u → w.cell? (ad.add j) = some u) (h1 : ∀ u ∈ news, u.oneCell' = true)
    (hm : 0 < m) (h63 : n + m ≤ maxLen) (hbytes : (n + m) * bytes ≤ 140737488355328) (hbase : base ≤ w.heap.size) (H : Nat) (hH : w.heap.size = H)
    (h : ∀ a' c' w', w'.ownsRow base e size (.slice a' (n + m) c') (n + m) (xs ++ news) → w.grownBy w' v.ownBlock → (v = .slice a' n c' ∨ a' = some ⟨H, 0, none⟩ ∧ w.grownBy w' none) → wpList P ops Q rest (a.put o.dst (.slice a' (n + m) c')) w') : wpList P ops Q (o :: rest) a w :=
  wpList_plain hgd fun _ hK => wp_append_many w s x t ho base e i z size bytes ht hi hz hsize hby hzs hpos v n xs hs hown ad m c news hx hl hnews h1 hm h63 hbytes hbase H hH fun a' c' w' h2 h3 h4 => hK _ _ (h a' c' w' h2 h3 h4)

def Nd.nx (d : Nd) : Nat → Nat
  | 0 => d.n0
  | 1 => d.n1
  | 2 => d.n2
  | _ => d.n3
def Nd.put (d : Nd) (k x : Nat) : Nd := match k with
  | 0 => { d with n0 := x }
  | 1 => { d with n1 := x }
  | 2 => { d with n2 := x }
  | _ => { d with n3 := x }
theorem Nd.cell_nx (d : Nd) {k : Nat} (hk : k < 4) : d.cells[k]? = some (.int .i64 (d.nx k : Nat)) := by
  have : k = 0 ∨ k = 1 ∨ k = 2 ∨ k = 3 := by omega
  rcases this with rfl | rfl | rfl | rfl <;> rfl
theorem Nd.cells_put (d : Nd) {k : Nat} (hk : k < 4) (x : Nat) : (d.put k x).cells = d.cells.set k (.int .i64 (x : Nat)) := by
  have : k = 0 ∨ k = 1 ∨ k = 2 ∨ k = 3 := by omega
  rcases this with rfl | rfl | rfl | rfl <;> rfl
theorem ndCells_set (l : List Nd) : ∀ (a : Nat), a < l.length → ∀ (i : Nat), i < 5 → ∀ (d' : Nd) (u : Value), d'.cells = (l.getD a nd0).cells.set i u → (ndCells l).set (a * 5 + i) u = ndCells (l.set a d') := by
  induction l with
  | nil => intro a ha; simp at ha
  | cons p l ih =>
    intro a ha i hi d' u hd
    have e : ndCells (p :: l) = p.cells ++ ndCells l := by simp [ndCells]
    have hl : p.cells.length = 5 := rfl
    rw [e]
    cases a with
    | zero =>
      simp only [List.getD_cons_zero] at hd
      rw [Nat.zero_mul, Nat.zero_add, List.set_append_left _ _ (by rw [hl]; exact hi), ← hd]
      simp [ndCells]
    | succ a =>
      simp only [List.getD_cons_succ] at hd
      rw [List.set_append_right _ _ (by rw [hl]; omega), hl, show (a + 1) * 5 + i - 5 = a * 5 + i by omega, ih a (by simpa using ha) i hi d' u hd]
      simp [ndCells]
theorem ndCells_len (l : List Nd) : (ndCells l).length = l.length * 5 := by
  induction l with
  | nil => rfl
  | cons p l ih =>
    have e : ndCells (p :: l) = p.cells ++ ndCells l := by simp [ndCells]
    have hl : p.cells.length = 5 := rfl
    rw [e, List.length_append, hl, ih, List.length_cons]; omega
theorem ndCells_snoc (l : List Nd) : ndCells l ++ [.int .i64 0, .int .i64 0, .int .i64 0, .int .i64 0, .int .i64 0] = ndCells (l ++ [nd0]) := by simp [ndCells, nd0, Nd.cells]

def growN (ns : List Nd) (a k : Nat) : List Nd × Nat := if (ns.getD a nd0).nx k = 0 then (ns.set a ((ns.getD a nd0).put k ns.length) ++ [nd0], ns.length) else (ns, (ns.getD a nd0).nx k)

structure TreeI (w : World) (B cb : Nat) (na : Option Addr) (nc : Nat) (ns : List Nd) : Prop where
  row : Row w cb 65 [.slice na ns.length nc]
  own : w.ownsRow B 62 5 (.slice na ns.length nc) ns.length (ndCells ns)
  pos : 0 < ns.length
  base : B ≤ cb
/-- behind a call that changes the tree -/
structure TreeN (w w' : World) (B cb : Nat) (na : Option Addr) (nc n : Nat) (na' : Option Addr) (nc' : Nat) (ns' : List Nd) : Prop where
  t : TreeI w' B cb na' nc' ns'
  kept : Kept w w' cb (.slice na n nc)
  lies : (Value.slice na' ns'.length nc').ownBlock = (Value.slice na n nc).ownBlock ∨ ∃ k, w.heap.size ≤ k ∧ (Value.slice na' ns'.length nc').ownBlock = some k
theorem own_len {a : Option Addr} {n n' c c' : Nat} : (Value.slice a n c).ownBlock = (Value.slice a n' c').ownBlock := by cases a <;> rfl
theorem TreeI.below {w w' : World} {B cb : Nat} {na : Option Addr} {nc : Nat} {ns : List Nd} (h : TreeI w B cb na nc ns) (hb : Below w.heap.size w w') : TreeI w' B cb na nc ns := ⟨row_below h.row hb, own_below h.own hb, h.pos, h.base⟩
theorem TreeN.of {w w' : World} {B cb : Nat} {na : Option Addr} {nc : Nat} {ns : List Nd} (h : TreeI w B cb na nc ns) (hb : Below w.heap.size w w') : TreeN w w' B cb na nc ns.length na nc ns := ⟨h.below hb, Kept.of _ _ hb, .inl rfl⟩
theorem TreeN.trans {w w1 w2 : World} {B cb n n1 : Nat} {na na1 na2 : Option Addr} {nc nc1 nc2 : Nat} {ns1 ns2 : List Nd} (h : TreeN w w1 B cb na nc n na1 nc1 ns1) (h' : TreeN w1 w2 B cb na1 nc1 n1 na2 nc2 ns2) : TreeN w w2 B cb na nc n na2 nc2 ns2 := by
  have e1 : (Value.slice na1 n1 nc1).ownBlock = (Value.slice na1 ns1.length nc1).ownBlock := own_len
  refine ⟨h'.t, ⟨h'.kept.os.trans h.kept.os, h'.kept.tape.trans h.kept.tape, h'.kept.output.trans h.kept.output, Nat.le_trans h.kept.size h'.kept.size, fun k hk hg hv => (h'.kept.block k (Nat.lt_of_lt_of_le hk h.kept.size) hg (fun e => ?_)).trans (h.kept.block k hk hg hv)⟩, ?_⟩
  · rw [e1] at e
    rcases h.lies with l | ⟨q, hq, l⟩
    · exact hv (l ▸ e)
    · rw [l] at e; have := Option.some.inj e; omega
  · rcases h'.lies with l | ⟨q, hq, l⟩
    · rw [e1] at l
      rcases h.lies with l' | l'
      · exact .inl (l.trans l')
      · obtain ⟨q, hq, l'⟩ := l'
        exact .inr ⟨q, hq, l.trans l'⟩
    · exact .inr ⟨q, Nat.le_trans h.kept.size hq, l⟩

set_option maxHeartbeats 4000000 in
theorem grow_old (w : World) (B cb : Nat) (na : Option Addr) (nc : Nat) (ns : List Nd) (h : TreeI w B cb na nc ns) (a k : Nat) (ha : a < ns.length) (hk : k < 4) (hnz : (ns.getD a nd0).nx k ≠ 0) :
    Calls Try.prog 26 #[.pointer (some ⟨cb, 0, none⟩), .int .i64 a, .int .i64 k] w fun e w' => e = .returned (.int .i64 ((ns.getD a nd0).nx k : Nat)) ∧ w' = w := by
  obtain ⟨b, rfl, hb, hn⟩ := nodes_own h.own h.pos
  have c1 := hn a ha k _ (Nd.cell_nx _ hk)
  simp only [Nat.zero_add] at c1
  have c0 : w.cell? ⟨cb, 0, none⟩ = some (.slice (some ⟨b, 0, none⟩) ns.length nc) := (h.row.cell 0).trans rfl
  generalize (ns.getD a nd0).nx k = x at *
  have hx : (((x : Nat) : Int) == 0) = false := by simp; exact hnz
  have i1 : (0 : Int) ≤ (a : Int) := by omega
  have i2 : (a : Int) < (ns.length : Int) := by omega
  have i3 : (0 : Int) ≤ (k : Int) := by omega
  have i4 : (k : Int) < 4 := by omega
  clear h hn
  go_enter Try.func26, Try.ntmps26
  go_wp2
  go_ret
  exact ⟨rfl, rfl⟩

end Go.Proofs.Ythboeppmlhbofaa
