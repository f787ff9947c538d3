import Derived.Test.YthboeppmlhbofaaDoorRdd
import Derived.Deep.RegionHeld3
namespace Go.Proofs.YthboeppmlhbofaaDoor
open Go.RowKit Txt
set_option maxRecDepth 100000
def FP(w:World):List Nat→List (List Int)→Prop
 | [],[]=>True
 | g :: gs,c :: cs=>Ab w g 3 (AW c++Mk)∧FP w gs cs
 | _,_=>False
def El:List Nat→List (List Int)→List Value
 | g :: gs,c :: cs=>.slice (some ⟨g,0,none⟩) c.length (c.length+2) :: El gs cs
 | _,_=>[]
theorem FP.len{w:World}{gs:List Nat}{cs:List (List Int)}(h:FP w gs cs):gs.length=cs.length:=by
 induction gs generalizing cs with
 | nil=>cases cs with
  | nil=>rfl
  | cons c cs=>exact h.elim
 | cons g gs ih=>cases cs with
  | nil=>exact h.elim
  | cons c cs=>simp[ih h.2]
theorem OW{gs:List Nat}{cs:List (List Int)}(h:gs.length=cs.length):(El gs cs).length=cs.length:=by
 induction gs generalizing cs with
 | nil=>cases cs with
  | nil=>rfl
  | cons c cs=>simp at h
 | cons g gs ih=>cases cs with
  | nil=>simp at h
  | cons c cs=>simp[El,ih (by simpa using h)]
theorem FP.snoc{w:World}{gs:List Nat}{cs:List (List Int)}{g:Nat}{c:List Int}(h:FP w gs cs)(hg:Ab w g 3 (AW c++Mk)):FP w (gs++[g]) (cs++[c]):=by
 induction gs generalizing cs with
 | nil=>cases cs with
  | nil=>exact⟨hg,trivial⟩
  | cons c' cs=>exact h.elim
 | cons g' gs ih=>cases cs with
  | nil=>exact h.elim
  | cons c' cs=>exact⟨h.1,ih h.2⟩
theorem WQ{gs:List Nat}{cs:List (List Int)}(h:gs.length=cs.length)(g:Nat)(c:List Int):El (gs++[g]) (cs++[c])=El gs cs++[.slice (some ⟨g,0,none⟩) c.length (c.length+2)]:=by
 induction gs generalizing cs with
 | nil=>cases cs with
  | nil=>rfl
  | cons c' cs=>simp at h
 | cons g' gs ih=>cases cs with
  | nil=>simp at h
  | cons c' cs=>simp[El,ih (by simpa using h)]
theorem FP.map{w w':World}{gs:List Nat}{cs:List (List Int)}(h:FP w gs cs)(hk:∀ g∈gs,w'.heap[g]?=w.heap[g]?):FP w' gs cs:=by
 induction gs generalizing cs with
 | nil=>cases cs with
  | nil=>exact trivial
  | cons c' cs=>exact h.elim
 | cons g' gs ih=>cases cs with
  | nil=>exact h.elim
  | cons c' cs=>exact⟨(hk g' (by simp)).trans h.1,ih h.2 (fun g hg=>hk g (by simp[hg]))⟩
theorem FP.at{w:World}{gs:List Nat}{cs:List (List Int)}(h:FP w gs cs)(r:Nat)(hr:r<cs.length) :
  ∃ g,gs[r]?=some g∧Ab w g 3 (AW (cs.getD r [])++Mk)∧(El gs cs)[r]?=some (.slice (some ⟨g,0,none⟩) (cs.getD r []).length ((cs.getD r []).length+2)):=by
 induction gs generalizing cs r with
 | nil=>cases cs with
  | nil=>simp at hr
  | cons c' cs=>exact h.elim
 | cons g' gs ih=>cases cs with
  | nil=>exact h.elim
  | cons c' cs=>cases r with
   | zero=>exact⟨g',rfl,h.1,rfl⟩
   | succ r =>
    obtain⟨g,h1,h2,h3⟩:=ih h.2 r (by simpa using hr)
    exact⟨g,by simpa using h1,by simpa using h2,by simpa [El] using h3⟩
theorem FP.lt{w:World}{gs:List Nat}{cs:List (List Int)}(h:FP w gs cs):∀ g∈gs,g<w.heap.size:=by
 induction gs generalizing cs with
 | nil=>simp
 | cons g' gs ih=>cases cs with
  | nil=>exact h.elim
  | cons c' cs =>
   intro g hg
   rcases List.mem_cons.1 hg with rfl | hg
   ·exact h.1.lt
   ·exact ih h.2 g hg
theorem Xk(n:Nat):(madeCells (Value.slice none 0 0).cells (n*1)).toList=List.replicate n (.slice none 0 0):=by
 have:=toList_madeCells_one (.slice none 0 0) n
 simpa [Value.cells] using this
structure Sp(w:World)(B G:Nat)(gs:List Nat)(gl:Nat)(xss:List (List Int)):Prop where
 top:Ab w G 26 (El gs xss++[.slice (some ⟨gl,0,none⟩) 1 1])
 each:FP w gs xss
 last:Ab w gl 3 [.int .i64 7]
 nodup:gs.Nodup
 out:∀ g∈gs,g≠G∧g≠gl∧B≤g
 base:B≤G∧B≤gl∧gl≠G
theorem Sp.rows{w:World}{B G gl:Nat}{gs:List Nat}{xss:List (List Int)}(h:Sp w B G gs gl xss)(hl:∀ x∈xss,x.length≤4294967296):∃ A C,Br w (some ⟨G,0,none⟩) A C xss:=by
 refine⟨fun r=>some ⟨gs.getD r 0,0,none⟩,fun r=>(xss.getD r []).length+2,?_⟩
 by_cases h0:xss=[]
 ·exact .inl h0
 refine .inr ⟨G,0,rfl,fun r hr=>?_⟩
 obtain⟨g,h1,h2,h3⟩:=h.each.at r hr
 have e:gs.getD r 0=g:=by rw[List.getD_eq_getElem?_getD,h1];rfl
 dsimp only
 rw[e]
 refine⟨?_,Po _ _ _ h2,?_⟩
 ·rw[h.top.cell,Nat.zero_add,List.getElem?_append_left (by rw[OW h.each.len];exact hr),h3]
 ·have:=hl (xss.getD r []) (by rw[List.getD_eq_getElem?_getD,List.getElem?_eq_getElem hr];exact List.getElem_mem hr)
  omega
theorem AL{w w':World}{base e s:Nat}{v:Value}{n:Nat}{xs:List Value}(h:w.ownsRow base e s v n xs)(hb:Below w.heap.size w w'):w'.ownsRow base e s v n xs:=by
 refine⟨h.1,?_⟩
 rcases h.2 with hn | ⟨g,cap,cur,hv,h1,hg,r⟩
 ·exact .inl hn
 ·exact .inr ⟨g,cap,cur,hv,h1,(hb.block g (Array.getElem?_eq_some_iff.1 hg).1).trans hg,r⟩
theorem JY.below{w w':World}{base tl ti:Nat}{v:Value}{vs:List Value}{cs:List (List Int)}(h:JY w base tl ti v vs cs)(hb:Below w.heap.size w w'):JY w' base tl ti v vs cs :=
 ⟨AL h.top hb,h.each.map (fun _ _ _ _ hh=>AL hh hb),h.apart⟩
theorem AB{w w':World}{g:Nat}{e:TypeId}{zs:List Value}(h:Ab w g e zs)(hb:Below w.heap.size w w'):Ab w' g e zs:=(hb.block g h.lt).trans h
theorem Sp.below{w w':World}{B G gl:Nat}{gs:List Nat}{xss:List (List Int)}(h:Sp w B G gs gl xss)(hb:Below w.heap.size w w'):Sp w' B G gs gl xss :=
 ⟨AB h.top hb,h.each.map (fun g hg=>hb.block g (h.each.lt g hg)),AB h.last hb,h.nodup,h.out,h.base⟩
theorem S6(w:World)(m:Nat):Below w.heap.size w (w.drewN m):=below_drewN (Below.refl _ _) m
def Wu(c:Int)(n:Nat):Nat:=((if c<0 then -(c+1) else c) % (n:Int)).toNat
theorem YW(c:Int)(n:Nat)(h:0<n):Wu c n<n:=by
 unfold Wu
 have h1:=Int.emod_lt_of_pos (if c<0 then -(c+1) else c) (show(0:Int)<n by omega)
 have h2:=Int.emod_nonneg (if c<0 then -(c+1) else c) (show(n:Int)≠0 by omega)
 omega
def Zo(B:Nat)(w:World)(r:XY)(e:Ending)(w':World):Prop :=
 Below B w w'∧match r with
 | .err _ _=>e=.returned (.tuple #[.slice none 0 0,.bool true])
 | .ok cl=>∃ a c vs,e=.returned (.tuple #[.slice a cl.length c,.bool true])∧JY w' B 26 3 (.slice a cl.length c) vs cl
theorem WC(L:Nat):∀ (f:Nat) (cl:List (List Int)) (op:List Int) (l:List UInt8) (r:List (List Int)),rd L f cl op l=.ok r→(∀ x∈cl,x.length≤L)→cl.length+op.length+l.length≤L→r.length≤L∧∀ x∈r,x.length≤L:=by
 intro f
 induction f with
 | zero =>
  intro cl op l r h _ _
  simp only[rd,XY.ok.injEq] at h
  subst h
  simp
 | succ f ih =>
  intro cl op l r h hcl hlen
  by_cases hl:l=[]
  ·subst hl
   rw[Uh] at h
   split at h
   ·simp only[XY.ok.injEq] at h
    subst h
    exact⟨by simp at hlen;omega,hcl⟩
   ·cases h
  ·rw[Qs hl] at h
   split at h
   ·cases h
   ·have hz:(CQ (l.take (CR l))).2=0:=Decidable.not_not.1 ‹_›
    have hw:1≤CR l:=by
     rcases Nat.eq_zero_or_pos (CR l) with h0 | h0
     ·rw[h0,List.take_zero] at hz;exact absurd hz (by decide)
     ·exact h0
    have hw2:=Q4 l
    have hd:((l.drop (CR l)).drop (sk .mid (l.drop (CR l)))).length+1≤l.length:=by
     simp only[List.length_drop]
     omega
    split at h
    ·refine ih _ _ _ r h (fun x hx=>?_) (by simp only[List.length_append,List.length_cons,List.length_nil];omega)
     rcases List.mem_append.1 hx with hx | hx
     ·exact hcl x hx
     ·simp at hx;subst hx;omega
    ·exact ih _ _ _ r h hcl (by simp only[List.length_append,List.length_cons,List.length_nil];omega)
theorem XI(l:List UInt8)(r:List (List Int))(h:GD l=.ok r):r.length≤1000∧∀ x∈r,x.length≤1000:=by
 unfold GD at h
 split at h
 ·cases h
 ·have hs:=Wx .bol l
  obtain⟨h1,h2⟩:=WC l.length _ [] [] _ r h (by simp) (by simp)
  exact⟨by omega,fun x hx=>Nat.le_trans (h2 x hx) (by omega)⟩
end Go.Proofs.YthboeppmlhbofaaDoor
