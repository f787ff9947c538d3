import Derived.Test.YthboeppmlhbofaaDoorClh
import Derived.Test.YthboeppmlhbofaaDoorDcd
import Derived.Test.YthboeppmlhbofaaDoorSps
import Derived.Test.YthboeppmlhbofaaDoorRdd
namespace Go.Proofs.YthboeppmlhbofaaDoor
open Go.RowKit Txt
set_option maxRecDepth 100000
theorem Ye(cls:List (List Int))(k:Nat)(hv:List Nat)(lits:Nat)(h:k<cls.length):H7 (cls.drop k) hv lits k=match An (cls.getD k []) lits with
  | .lit=>.inl (4,k)
  | .full=>.inl (5,k)
  | .taut=>H7 (cls.drop (k+1)) hv lits (k+1)
  | .takes=>H7 (cls.drop (k+1)) (hv++[Ak (cls.getD k [])]) (lits+AG (Ak (cls.getD k []))) (k+1):=by
 rw[List.drop_eq_getElem_cons h,List.getD_eq_getElem?_getD,List.getElem?_eq_getElem h]
 rfl
theorem Wz{xs:List Int}{lits:Nat}(h:An xs lits=.takes):xs.all AK=true∧lits+AG (Ak xs)≤150:=by
 unfold An at h
 split at h
 ·rename_i ha
  refine⟨ha,?_⟩
  split at h
  ·simp at h
  ·split at h
   ·simp at h
   ·omega
 ·simp at h
theorem Vf(l:List UInt8):∀ (m:Nat) (ns:List Nd) (p n lt:Nat) (xs:List Int),xs.length≤l.length→(Oy l m ns p n lt xs).1.length≤l.length:=by
 intro m
 induction m with
 | zero=>intro ns p n lt xs _;simp[Oy]
 | succ m ih =>
  intro ns p n lt xs hx
  simp only[Oy]
  split
  ·cases hr:Gy l p with
   | none=>simp
   | some r =>
    obtain⟨lt',xs',q⟩:=r
    obtain⟨h1,h2,h3⟩:=SO hr
    simp only
    split
    ·simp
    ·exact ih _ _ _ _ _ (by omega)
  ·split
   ·simp
   ·exact hx
theorem Xd(cls:List (List Int))(l:List UInt8):(MP cls l).1.length≤l.length:=by
 unfold MP
 split
 ·simp
 ·cases Jq cls [] 0 0 with
  | inl r=>simp
  | inr r=>exact Vf l _ _ _ _ _ _ (by simp)
def Zm(B:Nat)(w:World)(xs:List Int)(e:Ending)(w':World):Prop:=Below B w w'∧∃ a c,e=.returned (.tuple #[.slice a xs.length c,.bool true])∧w'.ownsRow B 3 1 (.slice a xs.length c) xs.length (AW xs)
theorem Xm{w w':World}{B e n:Nat}{v:Value}{xs:List Value}(h:w.ownsRow B e 1 v n xs)(hk:∀ b,v.ownBlock=some b→w'.heap[b]?=w.heap[b]?):w'.ownsRow B e 1 v n xs:=by
 refine⟨h.1,?_⟩
 rcases h.2 with hn | ⟨g,cap,cur,rfl,q1,hg,r⟩
 ·exact .inl hn
 ·exact .inr ⟨g,cap,cur,rfl,q1,(hk g rfl).trans hg,r⟩
def IE:List EY→List Int
 | []=>[]
 | p :: ps=>match ps with
  | []=>p.2
  | _=>IE ps
def Dq(ls:List EY):Bool:=ls.any fun p=>p.1 == 101
theorem ZN{b:UInt8}(h:b.toNat=101):b=101:=UInt8.toNat_inj.1 h
theorem Ji:∀ (ls:List EY) (p:EY),IE (ls++[p])=p.2:=by
 intro ls
 induction ls with
 | nil=>intro p;rfl
 | cons q ls ih =>
  intro p
  have:=ih p
  cases ls with
  | nil=>rfl
  | cons r ls=>exact this
theorem LO(ls:List EY)(p:EY):Dq (ls++[p])=(Dq ls || p.1 == 101):=by simp[Dq]
theorem GP(j:JV)(ls:List EY)(p:EY):Ay j (ls++[p])=Bu (Ay j ls) p:=by simp[Ay]
theorem Rr(lt:UInt8)(xs:List Int):xs.all AK=true→xs.length+4≤(BZ lt xs).length:=by
 intro h
 have:xs.length≤(Aw xs).length:=by
  induction xs with
  | nil=>simp
  | cons x xs ih =>
   simp only[List.all_cons,Bool.and_eq_true] at h
   have:=ih h.2
   simp[Aw,Ci] at this ⊢
   omega
 simp[BZ]
 omega
theorem XC(j:JV):∀ (ls:List EY),(∀ p∈ls,p.2.all AK=true)→(Ay j ls).log≤j.log+(EC ls).length∧(Ay j ls).held≤j.held+(EC ls).length∧(Ay j ls).st≤j.st+(EC ls).length∧(Ay j ls).lr.length≤j.lr.length+(EC ls).length:=by
 intro ls
 induction ls generalizing j with
 | nil=>intro _;simp[Ay,EC]
 | cons p ls ih =>
  intro h
  obtain⟨h1,h2,h3,h4⟩:=ih (Bu j p) (fun q hq=>h q (List.mem_cons_of_mem _ hq))
  have hl:=Rr p.1 p.2 (h p (List.mem_cons_self ..))
  have e:Ay j (p :: ls)=Ay (Bu j p) ls:=rfl
  rw[e,Jj,List.length_append]
  have k:(Bu j p).log=j.log+p.2.length+1∧(Bu j p).held≤j.held+p.2.length∧(Bu j p).st≤j.st+1∧(Bu j p).lr.length≤j.lr.length+1:=by
   unfold Bu
   split
   ·exact⟨rfl,Nat.le_refl _,Nat.le_refl _,by simp⟩
   ·split
    ·exact⟨rfl,by show j.held - p.2.length≤_;omega,Nat.le_add_right _ _,Nat.le_trans List.length_erase_le (Nat.le_add_right _ _)⟩
    ·exact⟨rfl,Nat.le_add_right _ _,Nat.le_add_right _ _,Nat.le_add_right _ _⟩
  omega
theorem Io{r h l:Int}{hv:List Nat}:∀ (ls:List EY) (j:JV),Eg r h l hv j ls→∀ p∈ls,p.2.all AK=true:=by
 intro ls
 induction ls with
 | nil=>intro j _ p hp;simp at hp
 | cons q ls ih =>
  intro j h p hp
  rcases List.mem_cons.1 hp with rfl | hp
  ·exact h.1
  ·exact ih _ h.2.2.2 p hp
theorem VN{r h l:Int}{hv:List Nat}{j:JV}{p:EY}(h0:PQ r h l hv j p):p.1.toNat=97∨p.1.toNat=100∨p.1.toNat=101:=by
 rcases h0.2 with h | h | h
 ·rw[h.1];decide
 ·rw[h.1];decide
 ·rw[h.1];decide
def Cj(core:List Int):List Int→Nat→Nat
 | [],k=>k
 | x :: l,k=>Cj core l (if k<core.length∧core.getD k 0=x then k+1 else k)
def Ex(core l:List Int):Bool:=Cj core l 0 == core.length
structure Gg where
 st:Int
 re:Int
 vs:List Int
 co:List Int
 cl:List Int
structure A3 where
 a1:Option Addr
 a2:Option Addr
 a3:Option Addr
 c1:Nat
 c2:Nat
 c3:Nat
def Gg.cells(x:Gg)(p:A3):List Value:=[.int .i64 x.st,.int .i64 x.re,.slice p.a1 x.vs.length p.c1,.slice p.a2 x.co.length p.c2,.slice p.a3 x.cl.length p.c3]
structure TC(w:World)(x:Gg)(p:A3):Prop where
 vs:Ad w p.a1 x.vs
 co:Ad w p.a2 x.co
 cl:Ad w p.a3 x.cl
theorem TC.below{w w':World}{x:Gg}{p:A3}(h:TC w x p)(hb:Below w.heap.size w w'):TC w' x p:=⟨h.vs.below hb,h.co.below hb,h.cl.below hb⟩
def GC:Nat→Nat
 | 0=>1
 | n+1=>3*GC n
theorem Y6:∀ n,n≤20→GC n≤3486784401:=by decide
def DC(r h l budget:Int)(seen unsat:Nat):Bool :=
 budget == 0 && r == 0 && decide (((AG seen*GC (AG seen):Nat):Int)≤h) && decide ((((AG seen+1)*GC (AG seen)+(2*AG seen+1)*(unsat+1):Nat):Int)≤l)
end Go.Proofs.YthboeppmlhbofaaDoor
