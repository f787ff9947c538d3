import Derived.Test.YthboeppmlhbofabDoorRdd
import Derived.Deep.RegionHeld3
namespace Go.Proofs.YthboeppmlhbofabDoor
open Go.RowKit Txt
set_option maxRecDepth 100000
def SpAll(w:World):List Nat→List (List Int)→Prop
 | [],[]=>True
 | g :: gs,c :: cs=>Row w g 3 (i64s c++sevens)∧SpAll w gs cs
 | _,_=>False
def spCells:List Nat→List (List Int)→List Value
 | g :: gs,c :: cs=>.slice (some ⟨g,0,none⟩) c.length (c.length+2) :: spCells gs cs
 | _,_=>[]
theorem SpAll.len{w:World}{gs:List Nat}{cs:List (List Int)}(h:SpAll w gs cs):gs.length=cs.length:=by
 induction gs generalizing cs with
 | nil=>cases cs with
  | nil=>rfl
  | cons c cs=>exact h.elim
 | cons g gs ih=>cases cs with
  | nil=>exact h.elim
  | cons c cs=>simp[ih h.2]
theorem spCells_len{gs:List Nat}{cs:List (List Int)}(h:gs.length=cs.length):(spCells gs cs).length=cs.length:=by
 induction gs generalizing cs with
 | nil=>cases cs with
  | nil=>rfl
  | cons c cs=>simp at h
 | cons g gs ih=>cases cs with
  | nil=>simp at h
  | cons c cs=>simp[spCells,ih (by simpa using h)]
theorem SpAll.snoc{w:World}{gs:List Nat}{cs:List (List Int)}{g:Nat}{c:List Int}(h:SpAll w gs cs)(hg:Row w g 3 (i64s c++sevens)):SpAll w (gs++[g]) (cs++[c]):=by
 induction gs generalizing cs with
 | nil=>cases cs with
  | nil=>exact⟨hg,trivial⟩
  | cons c' cs=>exact h.elim
 | cons g' gs ih=>cases cs with
  | nil=>exact h.elim
  | cons c' cs=>exact⟨h.1,ih h.2⟩
theorem spCells_snoc{gs:List Nat}{cs:List (List Int)}(h:gs.length=cs.length)(g:Nat)(c:List Int):spCells (gs++[g]) (cs++[c])=spCells gs cs++[.slice (some ⟨g,0,none⟩) c.length (c.length+2)]:=by
 induction gs generalizing cs with
 | nil=>cases cs with
  | nil=>rfl
  | cons c' cs=>simp at h
 | cons g' gs ih=>cases cs with
  | nil=>simp at h
  | cons c' cs=>simp[spCells,ih (by simpa using h)]
theorem SpAll.map{w w':World}{gs:List Nat}{cs:List (List Int)}(h:SpAll w gs cs)(hk:∀ g∈gs,w'.heap[g]?=w.heap[g]?):SpAll w' gs cs:=by
 induction gs generalizing cs with
 | nil=>cases cs with
  | nil=>exact trivial
  | cons c' cs=>exact h.elim
 | cons g' gs ih=>cases cs with
  | nil=>exact h.elim
  | cons c' cs=>exact⟨(hk g' (by simp)).trans h.1,ih h.2 (fun g hg=>hk g (by simp[hg]))⟩
theorem SpAll.at{w:World}{gs:List Nat}{cs:List (List Int)}(h:SpAll w gs cs)(r:Nat)(hr:r<cs.length) :
  ∃ g,gs[r]?=some g∧Row w g 3 (i64s (cs.getD r [])++sevens)∧(spCells gs cs)[r]?=some (.slice (some ⟨g,0,none⟩) (cs.getD r []).length ((cs.getD r []).length+2)):=by
 induction gs generalizing cs r with
 | nil=>cases cs with
  | nil=>simp at hr
  | cons c' cs=>exact h.elim
 | cons g' gs ih=>cases cs with
  | nil=>exact h.elim
  | cons c' cs=>cases r with
   | zero=>exact⟨g',rfl,h.1,rfl⟩
   | succ r =>
    obtain⟨g,h1,h2,h3⟩:=ih h.2 r (by simpa using hr)
    exact⟨g,by simpa using h1,by simpa using h2,by simpa [spCells] using h3⟩
theorem SpAll.lt{w:World}{gs:List Nat}{cs:List (List Int)}(h:SpAll w gs cs):∀ g∈gs,g<w.heap.size:=by
 induction gs generalizing cs with
 | nil=>simp
 | cons g' gs ih=>cases cs with
  | nil=>exact h.elim
  | cons c' cs =>
   intro g hg
   rcases List.mem_cons.1 hg with rfl | hg
   ·exact h.1.lt
   ·exact ih h.2 g hg
theorem infoInts_size:(Tryd.prog.info? 23).map (·.size)=some 1:=by kernel_rfl
theorem made_nils(n:Nat):(madeCells (Value.slice none 0 0).cells (n*1)).toList=List.replicate n (.slice none 0 0):=by
 have:=toList_madeCells_one (.slice none 0 0) n
 simpa [Value.cells] using this
structure Sp(w:World)(B G:Nat)(gs:List Nat)(gl:Nat)(xss:List (List Int)):Prop where
 top:Row w G 23 (spCells gs xss++[.slice (some ⟨gl,0,none⟩) 1 1])
 each:SpAll w gs xss
 last:Row w gl 3 [.int .i64 7]
 nodup:gs.Nodup
 out:∀ g∈gs,g≠G∧g≠gl∧B≤g
 base:B≤G∧B≤gl∧gl≠G
theorem Sp.rows{w:World}{B G gl:Nat}{gs:List Nat}{xss:List (List Int)}(h:Sp w B G gs gl xss)(hl:∀ x∈xss,x.length≤4294967296):∃ A C,RowsAt w (some ⟨G,0,none⟩) A C xss:=by
 refine⟨fun r=>some ⟨gs.getD r 0,0,none⟩,fun r=>(xss.getD r []).length+2,?_⟩
 by_cases h0:xss=[]
 ·exact .inl h0
 refine .inr ⟨G,0,rfl,fun r hr=>?_⟩
 obtain⟨g,h1,h2,h3⟩:=h.each.at r hr
 have e:gs.getD r 0=g:=by rw[List.getD_eq_getElem?_getD,h1];rfl
 dsimp only
 rw[e]
 refine⟨?_,spare_ints _ _ _ h2,?_⟩
 ·rw[h.top.cell,Nat.zero_add,List.getElem?_append_left (by rw[spCells_len h.each.len];exact hr),h3]
 ·have:=hl (xss.getD r []) (by rw[List.getD_eq_getElem?_getD,List.getElem?_eq_getElem hr];exact List.getElem_mem hr)
  omega
theorem own_below{w w':World}{base e s:Nat}{v:Value}{n:Nat}{xs:List Value}(h:w.ownsRow base e s v n xs)(hb:Below w.heap.size w w'):w'.ownsRow base e s v n xs:=by
 refine⟨h.1,?_⟩
 rcases h.2 with hn | ⟨g,cap,cur,hv,h1,hg,r⟩
 ·exact .inl hn
 ·exact .inr ⟨g,cap,cur,hv,h1,(hb.block g (Array.getElem?_eq_some_iff.1 hg).1).trans hg,r⟩
theorem Lists.below{w w':World}{base tl ti:Nat}{v:Value}{vs:List Value}{cs:List (List Int)}(h:Lists w base tl ti v vs cs)(hb:Below w.heap.size w w'):Lists w' base tl ti v vs cs :=
 ⟨own_below h.top hb,h.each.map (fun _ _ _ _ hh=>own_below hh hb),h.apart⟩
theorem row_below{w w':World}{g:Nat}{e:TypeId}{zs:List Value}(h:Row w g e zs)(hb:Below w.heap.size w w'):Row w' g e zs:=(hb.block g h.lt).trans h
theorem Sp.below{w w':World}{B G gl:Nat}{gs:List Nat}{xss:List (List Int)}(h:Sp w B G gs gl xss)(hb:Below w.heap.size w w'):Sp w' B G gs gl xss :=
 ⟨row_below h.top hb,h.each.map (fun g hg=>hb.block g (h.each.lt g hg)),row_below h.last hb,h.nodup,h.out,h.base⟩
theorem below_drew_size(w:World)(m:Nat):Below w.heap.size w (w.drewN m):=below_drewN (Below.refl _ _) m
def pickN(c:Int)(n:Nat):Nat:=((if c<0 then -(c+1) else c) % (n:Int)).toNat
theorem pickN_lt(c:Int)(n:Nat)(h:0<n):pickN c n<n:=by
 unfold pickN
 have h1:=Int.emod_lt_of_pos (if c<0 then -(c+1) else c) (show(0:Int)<n by omega)
 have h2:=Int.emod_nonneg (if c<0 then -(c+1) else c) (show(n:Int)≠0 by omega)
 omega
def RdL(B:Nat)(w:World)(r:Res)(e:Ending)(w':World):Prop :=
 Below B w w'∧match r with
 | .err _ _=>e=.returned (.tuple #[.slice none 0 0,.bool true])
 | .ok cl=>∃ a c vs,e=.returned (.tuple #[.slice a cl.length c,.bool true])∧Lists w' B 23 3 (.slice a cl.length c) vs cl
theorem rd_lens(L:Nat):∀ (f:Nat) (cl:List (List Int)) (op:List Int) (l:List UInt8) (r:List (List Int)),rd L f cl op l=.ok r→(∀ x∈cl,x.length≤L)→cl.length+op.length+l.length≤L→r.length≤L∧∀ x∈r,x.length≤L:=by
 intro f
 induction f with
 | zero =>
  intro cl op l r h _ _
  simp only[rd,Res.ok.injEq] at h
  subst h
  simp
 | succ f ih =>
  intro cl op l r h hcl hlen
  by_cases hl:l=[]
  ·subst hl
   rw[rd_nil] at h
   split at h
   ·simp only[Res.ok.injEq] at h
    subst h
    exact⟨by simp at hlen;omega,hcl⟩
   ·cases h
  ·rw[rd_word hl] at h
   split at h
   ·cases h
   ·have hz:(numOf (l.take (wlen l))).2=0:=Decidable.not_not.1 ‹_›
    have hw:1≤wlen l:=by
     rcases Nat.eq_zero_or_pos (wlen l) with h0 | h0
     ·rw[h0,List.take_zero] at hz;exact absurd hz (by decide)
     ·exact h0
    have hw2:=wlen_le l
    have hd:((l.drop (wlen l)).drop (sk .mid (l.drop (wlen l)))).length+1≤l.length:=by
     simp only[List.length_drop]
     omega
    split at h
    ·refine ih _ _ _ r h (fun x hx=>?_) (by simp only[List.length_append,List.length_cons,List.length_nil];omega)
     rcases List.mem_append.1 hx with hx | hx
     ·exact hcl x hx
     ·simp at hx;subst hx;omega
    ·exact ih _ _ _ r h hcl (by simp only[List.length_append,List.length_cons,List.length_nil];omega)
theorem rdAll_lens(l:List UInt8)(r:List (List Int))(h:rdAll l=.ok r):r.length≤1000∧∀ x∈r,x.length≤1000:=by
 unfold rdAll at h
 split at h
 ·cases h
 ·have hs:=sk_le .bol l
  obtain⟨h1,h2⟩:=rd_lens l.length _ [] [] _ r h (by simp) (by simp)
  exact⟨by omega,fun x hx=>Nat.le_trans (h2 x hx) (by omega)⟩
end Go.Proofs.YthboeppmlhbofabDoor
