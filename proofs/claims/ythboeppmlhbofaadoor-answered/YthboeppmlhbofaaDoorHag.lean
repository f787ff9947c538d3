import Derived.Test.YthboeppmlhbofaaDoorDcm
import Derived.Test.YthboeppmlhbofaaDoorLns
namespace Go.Proofs.YthboeppmlhbofaaDoor
open Go.RowKit Txt
set_option maxRecDepth 100000
theorem C8{k K:Nat}(hk:AH k K)(hK:K<2^20):k<2^20:=BX fun i hi=>by
 cases hb:k.testBit i with
 | false=>rfl
 | true=>have:=A8 hK (hk i hb);omega
theorem Ez{cs cs':List Nat}(hc:∀ c∈cs',c<2^20){k k':Nat}(hk:k'<2^20)(hs:∀ c∈cs,c∈cs')(hkk:AH k k')(h:AU cs' k'=false):AU cs k=false:=by
 cases hb:AU cs k with
 | false=>rfl
 | true=>rw[CX hc hk hs hkk hb] at h;exact h
theorem Fy(cs:List Nat):∀ (xs:List Int) (d:Nat),AH (Al cs xs d) d:=by
 intro xs
 induction xs with
 | nil=>intro d;exact AH.refl d
 | cons n xs ih =>
  intro d
  simp only[Al]
  refine(ih _).trans ?_
  split
  ·exact QK d n
  ·exact AH.refl d
theorem GS(cs:List Nat):∀ (xs:List Int) (d:Nat),AU cs d=true→AU cs (Al cs xs d)=true:=by
 intro xs
 induction xs with
 | nil=>intro d h;exact h
 | cons n xs ih =>
  intro d h
  simp only[Al]
  refine ih _ ?_
  split
  ·assumption
  ·exact h
theorem Ry(cs:List Nat){j:Nat}:∀ (xs:List Int) (d:Nat),d.testBit j=true→(∀ n∈xs,CS n≠j)→(Al cs xs d).testBit j=true:=by
 intro xs
 induction xs with
 | nil=>intro d h _;exact h
 | cons n xs ih =>
  intro d h hn
  simp only[Al]
  refine ih _ ?_ (fun m hm=>hn m (List.mem_cons_of_mem _ hm))
  split
  ·have hne:j≠CS n:=fun e=>hn n (List.mem_cons_self ..) e.symm
   rw[Fq,h];simp[hne]
  ·exact h
theorem Ny{cs:List Nat}(hc:∀ c∈cs,c<2^20):∀ (xs:List Int) (d:Nat),d<2^20→∀ n∈xs,(Al cs xs d).testBit (CS n)=true→AU cs (wo (Al cs xs d) n)=false:=by
 intro xs
 induction xs with
 | nil=>intro d _ n hn;simp at hn
 | cons m xs ih =>
  intro d hd n hn hb
  simp only[Al] at hb ⊢
  have hd1:(if AU cs (wo d m)=true then wo d m else d)<2^20:=by
   split
   ·exact Jr m hd
   ·exact hd
  rcases List.mem_cons.1 hn with rfl | hn
  ·have hs:=Fy cs xs (if AU cs (wo d n)=true then wo d n else d)
   cases hcl:AU cs (wo d n) with
   | true =>
    rw[hcl,if_pos rfl] at hb hs
    have:=hs _ hb
    rw[Fq] at this
    simp at this
   | false =>
    rw[hcl] at hs
    simp only[Bool.false_eq_true,if_false] at hs ⊢
    refine Ez hc (Jr n hd) (fun c h=>h) ?_ hcl
    intro i hi
    rw[Fq,Bool.and_eq_true] at hi ⊢
    exact⟨hs i hi.1,hi.2⟩
  ·exact ih _ hd1 n hn hb
theorem J7:∀ {xs:List Int} {j:Nat},(Ak xs).testBit j=true→∃ n∈xs,CS n=j:=by
 intro xs
 induction xs with
 | nil=>intro j h;simp[Ak] at h
 | cons x xs ih =>
  intro j h
  have e:Ak (x :: xs)=Ak [x]|||Ak xs:=GF [x] xs
  rw[e,Nat.testBit_or,Bool.or_eq_true,GG,Nat.testBit_two_pow] at h
  rcases h with h | h
  ·exact⟨x,List.mem_cons_self ..,by simpa using h⟩
  ·obtain⟨n,hn,e⟩:=ih h
   exact⟨n,List.mem_cons_of_mem _ hn,e⟩
theorem Jx:∀ {xs:List Int} {n:Int},n∈xs→(Ak xs).testBit (CS n)=true:=by
 intro xs
 induction xs with
 | nil=>intro n h;simp at h
 | cons x xs ih =>
  intro n h
  have e:Ak (x :: xs)=Ak [x]|||Ak xs:=GF [x] xs
  rw[e,Nat.testBit_or,Bool.or_eq_true,GG,Nat.testBit_two_pow]
  rcases List.mem_cons.1 h with rfl | h
  ·left;simp
  ·exact .inr (ih h)
theorem Fo{xs:List Int}(h:xs.all AK=true):AO xs=Ak xs:=by unfold AO;rw[h,if_pos rfl]
theorem JN(k W i:Nat):(k - (k&&&W)).testBit i=(k.testBit i && !W.testBit i):=BF k W i
theorem Vu{cs:List Nat}{A w:Nat}(h:Dl cs A w){xs:List Int}(hx:xs.all AK=true)(hA:A=AO xs){d:Nat}(hd:d<2^20)(hdA:∀ j,d.testBit j=true→(AI w).testBit j=false→A.testBit j=true)(hcl:AU cs d=true)(hno:AU cs A=false):AH (Al cs xs d) (AI w):=by
 have hDs:=Fy cs xs d
 have hD20:=C8 hDs hd
 have hDc:=GS cs xs d hcl
 have hmin:=Ny h.top xs d hd
 generalize Al cs xs d=D at *
 rcases Gm h.top (Ba w) h.sep hD20 hDc with q | q
 ·intro j hj
  cases hw:(AI w).testBit j with
  | true=>rfl
  | false =>
   have hAj:=hdA j (hDs j hj) hw
   rw[hA,Fo hx] at hAj
   obtain⟨n,hn,e⟩:=J7 hAj
   have:=hmin n hn (by rw[e];exact hj)
   rw[CX h.top (Jr n hD20) (fun c hc=>(Dt.1 hc).1) (fun i hi=>?_) q] at this
   ·exact this.symm
   ·rw[Nat.testBit_and,Bool.and_eq_true] at hi
    rw[Fq,hi.1,decide_eq_true]
    ·rfl
    ·intro e'
     rw[e',e,hw] at hi
     simp at hi
 ·rw[CX h.top h.asm (fun c hc=>(Hj.1 hc).1) (fun i hi=>?_) q] at hno
  ·simp at hno
  ·rw[JN,Bool.and_eq_true] at hi
   exact hdA i (hDs i hi.1) (by simpa using hi.2)
theorem Vh{cs:List Nat}{A w:Nat}(h:Dl cs A w){xs:List Int}(hx:xs.all AK=true)(hA:A=AO xs)(hcl:AU cs A=true){j:Nat}(hj:(Al cs xs A).testBit j=true)(hw:(AI w).testBit j=true):AH (Al cs xs A) (AI w):=by
 have hDs:=Fy cs xs A
 have hD20:=C8 hDs h.asm
 have hDc:=GS cs xs A hcl
 have hmin:=Ny h.top xs A h.asm
 generalize Al cs xs A=D at *
 have lit:∀ i,D.testBit i=true→∃ n∈xs,CS n=i:=fun i hi=>by
  have:=hDs i hi
  rw[hA,Fo hx] at this
  exact J7 this
 rcases Gm h.top (Ba w) h.sep hD20 hDc with q | q
 ·intro i hi
  cases hwi:(AI w).testBit i with
  | true=>rfl
  | false =>
   obtain⟨n,hn,e⟩:=lit i hi
   have:=hmin n hn (by rw[e];exact hi)
   rw[CX h.top (Jr n hD20) (fun c hc=>(Dt.1 hc).1) (fun x hx'=>?_) q] at this
   ·exact this.symm
   ·rw[Nat.testBit_and,Bool.and_eq_true] at hx'
    rw[Fq,hx'.1,decide_eq_true]
    ·rfl
    ·intro e'
     rw[e',e,hwi] at hx'
     simp at hx'
 ·obtain⟨n,hn,e⟩:=lit j hj
  have:=hmin n hn (by rw[e];exact hj)
  rw[CX h.top (Jr n hD20) (fun c hc=>(Hj.1 hc).1) (fun x hx'=>?_) q] at this
  ·simp at this
  ·rw[JN,Bool.and_eq_true] at hx'
   rw[Fq,hx'.1,decide_eq_true]
   ·rfl
   ·intro e'
    rw[e',e,hw] at hx'
    simp at hx'
theorem FZ{cs:List Nat}{A w:Nat}(h:Dl cs A w){d:Nat}(hd:d<2^20)(hdA:∀ j,d.testBit j=true→(AI w).testBit j=false→A.testBit j=true)(hno:AU cs A=false)(hcl:AU cs d=true):A5 cs (AI w) d=none:=by
 rcases Gm h.top (Ba w) h.sep hd hcl with q | q
 ·exact Bw.2 q
 ·rw[CX h.top h.asm (fun c hc=>(Hj.1 hc).1) (fun i hi=>?_) q] at hno
  ·simp at hno
  ·rw[JN,Bool.and_eq_true] at hi
   exact hdA i hi.1 (by simpa using hi.2)
theorem Ik{D kn i:Nat}:(Ah (AS D) kn).testBit i=(decide (i<20) && (D.testBit (Dk i) && !kn.testBit (Dk i))):=by
 rw[DO]
 by_cases hi:i<20
 ·rw[Bh _ hi,Bh _ hi,decide_eq_true hi,Bool.true_and]
 ·rw[GV _ hi,decide_eq_false hi];rfl
theorem Gx{D W:Nat}(hW:TF W)(h:AH D W):AH (AS D) W:=fun i hi=>by
 by_cases hi20:i<20
 ·rw[Bh _ hi20] at hi
  have:=h _ hi
  rw[hW.sym i hi20] at this
  exact this
 ·rw[GV _ hi20] at hi;simp at hi
theorem LA{k j:Nat}(hk:A4 k=false)(hp:k.testBit (Dk j)=false):A4 (k|||2^j)=false:=by
 rw[DS] at hk ⊢
 intro i hi h
 rw[Nat.testBit_or,Bool.or_eq_true,Nat.testBit_two_pow] at h
 rw[Nat.testBit_or,Nat.testBit_two_pow,Bool.or_eq_false_iff]
 rcases h with h | h
 ·refine⟨hk i hi h,?_⟩
  apply decide_eq_false
  intro e
  rw[e,Cm] at hp
  rw[hp] at h;simp at h
 ·have e:j=i:=by simpa using h
  subst e
  exact⟨hp,decide_eq_false (fun e=>XF j e.symm)⟩
theorem Rd{cs:List Nat}{A w:Nat}:∀ {m i d d':Nat},BM cs A w i=some d→BM cs A w (i+m)=some d'→AH d d':=by
 intro m
 induction m with
 | zero =>
  intro i d d' h1 h2
  rw[Nat.add_zero,h1] at h2
  simp only[Option.some.injEq] at h2
  subst h2;exact AH.refl _
 | succ m ih =>
  intro i d d' h1 h2
  obtain⟨d0,kn,a1,_,_,e⟩:=BV (i:=i+m) h2
  rw[e]
  exact(ih h1 a1).trans (AH.or_left _ _)
theorem Nx{cs cs':List Nat}{A w:Nat}(h:Dl cs A w){xs:List Int}(hx:xs.all AK=true)(hA:A=AO xs){k dec:Nat}(hk:BM cs A w (k+1)=some dec){i d kn:Nat}(hi:i≤k)(h1:BM cs A w i=some d)(h2:A5 cs (AI w) d=some kn)(h3:Cb w kn≠0):∃ j,Cs ((Cb w kn:Nat):Int)=2^j∧j<20∧(AI w).testBit j=true∧kn.testBit j=false∧kn.testBit (Dk j)=false∧(Al cs' xs dec).testBit j=true:=by
 obtain⟨a1,a2,_⟩:=Bg h h1
 obtain⟨q,_⟩:=De h a1 h2
 obtain⟨j,e,hj,_,hw,hb,hp⟩:=FG q.top h3
 refine⟨j,e,hj,hw,hb,hp,Ry cs' xs dec ?_ (fun n hn en=>?_)⟩
 ·have hn:BM cs A w (i+1)=some (d|||2^j):=by
   simp only[BM,h1,h2]
   rw[if_neg h3,e]
  have hs:AH (d|||2^j) dec:=Rd (m:=k - i) hn (by rw[show i+1+(k - i)=k+1 by omega];exact hk)
  exact hs j (GW d j)
 ·have hAj:A.testBit j=true:=by
   rw[hA,Fo hx,← en]
   exact Jx hn
  have:=q.sub j (by rw[Nat.testBit_and,a2 j hAj,hw];rfl)
  rw[hb] at this
  simp at this
theorem Rp{cs:List Nat}{A w:Nat}(h:Dl cs A w){d kn j D:Nat}(hd:d<2^20)(h2:A5 cs (AI w) d=some kn)(hj:j<20)(hb:kn.testBit j=false)(hp:kn.testBit (Dk j)=false)(hD:AH D (d|||2^j))(hDW:AH D (AI w))(hDj:D.testBit j=true):AS D ∉ cs:=by
 intro hmem
 have hD20:=C8 hDW (Ba w).top
 obtain⟨q,qw⟩:=De h hd h2
 obtain⟨q1,q2⟩:=q.cl (AS D) (Dt.2 ⟨hmem,Gx (Ba w) hDW⟩)
 have e:Ah (AS D) kn=2^Dk j:=by
  apply Nat.eq_of_testBit_eq
  intro i
  rw[Ik,Nat.testBit_two_pow]
  by_cases ei:Dk j=i
  ·subst ei
   rw[Cm,hDj,hb,decide_eq_true (Fm hj),decide_eq_true rfl];rfl
  ·rw[decide_eq_false ei]
   by_cases hi:i<20
   ·rw[decide_eq_true hi,Bool.true_and]
    cases hDi:D.testBit (Dk i) with
    | false=>rfl
    | true =>
     have:=hD _ hDi
     rw[Nat.testBit_or,Bool.or_eq_true,Nat.testBit_two_pow] at this
     rcases this with z | z
     ·have:=q.sub (Dk i) (by rw[Nat.testBit_and,z,hDW _ hDi];rfl)
      rw[this];rfl
     ·have z':j=Dk i:=by simpa using z
      rw[z',Cm] at ei
      exact absurd rfl ei
   ·rw[decide_eq_false hi];rfl
 have:=q2 ((EL _ q1).2 ⟨_,e⟩) (Dk j) (by rw[e,Nat.testBit_two_pow];simp)
 rw[hp] at this
 simp at this
theorem J3{cs:List Nat}{c W:Nat}(h:AH c W):Lg (cs++[c]) W=Lg cs W++[c]:=by
 unfold Lg
 rw[List.filter_append]
 congr 1
 simp[h.eq_and]
theorem PO{cs:List Nat}{A w:Nat}(h:Dl cs A w){k d kn j D:Nat}(h1:BM cs A w k=some d)(h2:A5 cs (AI w) d=some kn)(hj:j<20)(hb:kn.testBit j=false)(hp:kn.testBit (Dk j)=false)(hD:AH D (d|||2^j))(hDW:AH D (AI w))(hDj:D.testBit j=true)
  (hDd:∀ i d' kn',i<k→BM cs A w i=some d'→A5 cs (AI w) d'=some kn'→∃ j',j'<20∧kn'.testBit j'=false∧D.testBit j'=true∧∃ d1 kn1,BM cs A w (i+1)=some d1∧A5 cs (AI w) d1=some kn1∧kn1.testBit j'=true) :
  Dl (cs++[AS D]) A w∧FJ cs A w 12<FJ (cs++[AS D]) A w 12:=by
 have hD20:=C8 hDW (Ba w).top
 have hoW:=Gx (Ba w) hDW
 obtain⟨a1,_,_⟩:=Bg h h1
 obtain⟨q,qw⟩:=De h a1 h2
 have hok:Dl (cs++[AS D]) A w:=⟨fun c hc=>(List.mem_append.1 hc).elim (h.top c) (fun hc=>by rw[List.mem_singleton.1 hc];exact Cl D),fun c hc=>(List.mem_append.1 hc).elim (h.sep c) (fun hc=>.inl (by rw[List.mem_singleton.1 hc];exact hoW)),h.asm⟩
 have hsame:∀ i d',i<k→BM cs A w i=some d'→A5 (cs++[AS D]) (AI w) d'=A5 cs (AI w) d':=by
  intro i d' hi hd'
  obtain⟨d1,hd1⟩:=GM h1 (by omega:i+1≤k)
  obtain⟨d0,kn',b1,b2,_,_⟩:=BV hd1
  rw[hd'] at b1
  simp only[Option.some.injEq] at b1
  subst b1
  obtain⟨b0,_,_⟩:=Bg h hd'
  obtain⟨q',qw'⟩:=De h b0 b2
  rw[b2]
  refine Qr (KY hok.top _) (EI b0) ⟨q'.top,q'.sub,q'.twin,?_,fun K' hC hk=>q'.least K' (hC.sub fun c hc=>?_) hk⟩
  ·rw[J3 hoW]
   intro c hc
   rcases List.mem_append.1 hc with hc | hc
   ·exact q'.cl c hc
   ·rw[List.mem_singleton.1 hc]
    obtain⟨j',c1,c2,c3,d1',kn1,c4,c5,c6⟩:=hDd i d' kn' hi hd' b2
    have hm:AH kn' kn:=(Ka h (j:=k - i) hd' b2 (by rw[show i+(k - i)=k by omega];exact h1) h2).1
    have hm1:AH kn1 kn:=(Ka h (j:=k - (i+1)) c4 c5 (by rw[show i+1+(k - (i+1))=k by omega];exact h1) h2).1
    have hb':kn'.testBit j=false:=by
     cases z:kn'.testBit j with
     | false=>rfl
     | true=>have:=hm j z;rw[hb] at this;exact this.symm
    have ne:j'≠j:=fun e=>by
     have:=hm1 j' c6
     rw[e,hb] at this
     simp at this
    have z1:(Ah (AS D) kn').testBit (Dk j')=true:=by rw[Ik,Cm,c3,c2,decide_eq_true (Fm c1)];rfl
    have z2:(Ah (AS D) kn').testBit (Dk j)=true:=by rw[Ik,Cm,hDj,hb',decide_eq_true (Fm hj)];rfl
    refine⟨fun e=>by rw[e] at z1;simp at z1,fun hs=>?_⟩
    exfalso
    obtain⟨x,hx⟩:=(EL _ (fun e=>by rw[e] at z1;simp at z1)).1 hs
    rw[hx,Nat.testBit_two_pow] at z1 z2
    have y1:x=Dk j':=by simpa using z1
    have y2:x=Dk j:=by simpa using z2
    apply ne
    rw[← Cm j',← y1,y2,Cm]
  ·rw[J3 hoW];exact List.mem_append_left _ hc
 refine⟨hok,?_⟩
 have hdk:BM (cs++[AS D]) A w k=some d:=by rw[E7 hsame k (Nat.le_refl _)];exact h1
 have hk10:=(Ih h h1 h2)
 have hc10:=Fl w
 refine Ub h (k:=k) (fun i hi=>?_) ?_ 12 (by omega)
 ·unfold QZ
  rw[E7 hsame i (by omega)]
  cases hd':BM cs A w i with
  | none=>rfl
  | some d'=>simp only;rw[hsame i d' hi hd']
 ·have e1:QZ cs A w k=1+AG kn:=by simp only[QZ,h1,h2]
  rw[e1]
  unfold QZ
  rw[hdk]
  simp only
  cases hk':A5 (cs++[AS D]) (AI w) d with
  | none=>simp only;omega
  | some kn' =>
   simp only
   obtain⟨q',qw'⟩:=De hok a1 hk'
   have hsub:AH kn kn':=q.least _ (q'.cl.sub fun c hc=>by rw[J3 hoW];exact List.mem_append_left _ hc) q'.sub
   obtain⟨p1,p2⟩:=q'.cl (AS D) (by rw[J3 hoW];exact List.mem_append_right _ (List.mem_singleton.2 rfl))
   have hle:AH (Ah (AS D) kn') (2^Dk j):=by
    intro i hi
    rw[Ik,Bool.and_eq_true,Bool.and_eq_true] at hi
    rw[Nat.testBit_two_pow]
    have:=hD _ hi.2.1
    rw[Nat.testBit_or,Bool.or_eq_true,Nat.testBit_two_pow] at this
    rcases this with z | z
    ·have:=hsub _ (q.sub (Dk i) (by rw[Nat.testBit_and,z,hDW _ hi.2.1];rfl))
     rw[this] at hi
     simp at hi
    ·have z':j=Dk i:=by simpa using z
     rw[z',Cm]
     simp
   have e:=Mo hle p1
   have hpj:=p2 ((EL _ p1).2 ⟨_,e⟩) (Dk j) (by rw[e,Nat.testBit_two_pow];simp)
   have:=Cn hsub q'.top (fun e=>by rw[← e,hp] at hpj;simp at hpj)
   omega
theorem N1:∀ (l R:List Nat),l.Nodup→(∀ x∈l,x∈R)→l.length≤R.length:=by
 intro l
 induction l with
 | nil=>intro R _ _;simp
 | cons x l ih =>
  intro R hn hs
  obtain⟨h1,h2⟩:=List.nodup_cons.1 hn
  have hx:=hs x (List.mem_cons_self ..)
  have:=ih (R.erase x) h2 (fun y hy=>(List.mem_erase_of_ne (fun e=>h1 (by rw[← e];exact hy))).2 (hs y (List.mem_cons_of_mem _ hy)))
  rw[List.length_erase_of_mem hx] at this
  have hp:0<R.length:=List.length_pos_of_mem hx
  simp only[List.length_cons]
  omega
theorem YD{a b:Nat}(h:a&&&b=0):CU a+CU b≤CU (a|||b):=by
 refine PB 10 fun u _ _=>?_
 rw[Nat.testBit_or]
 cases ha:a.testBit u with
 | false=>simp
 | true=>rw[CC.2 h u ha];simp
theorem NX{w:Nat}:∀ (ws:List Nat),(∀ x∈ws,w&&&x=0)→w&&&ws.foldr (fun a b=>a|||b) 0=0:=by
 intro ws
 induction ws with
 | nil=>intro _;simp
 | cons x ws ih=>intro h;exact Gl (h x (List.mem_cons_self ..)) (ih fun y hy=>h y (List.mem_cons_of_mem _ hy))
theorem XS:∀ (ws:List Nat),ws.Pairwise (fun a b=>a&&&b=0)→(ws.map CU).sum≤CU (ws.foldr (fun a b=>a|||b) 0):=by
 intro ws
 induction ws with
 | nil=>intro _;simp
 | cons w ws ih =>
  intro h
  obtain⟨h1,h2⟩:=List.pairwise_cons.1 h
  have a:=ih h2
  have b:=YD (NX ws h1)
  simp only[List.map_cons,List.sum_cons,List.foldr_cons]
  omega
theorem WZ{ws:List Nat}(h:ws.Pairwise fun a b=>a&&&b=0):(ws.map CU).sum≤10:=Nat.le_trans (XS ws h) (Fl _)
structure Mz(cs:List Nat)(A w k:Nat):Prop where
 ok:Dl cs A w
 is:∃ d kn,BM cs A w k=some d∧A5 cs (AI w) d=some kn
def CI(cs:List Nat)(A:Nat)(T:List (Nat × Nat)):List H9:=T.flatMap fun t=>Bn cs A t.1 (t.2+1)
theorem Mz.reasons{cs:List Nat}{A w k:Nat}(h:Mz cs A w k):∃ R:List Nat,(∀ c∈R,c∈cs)∧R.length≤CU w∧Dm R (Bn cs A w (k+1)):=by
 obtain⟨d,kn,h1,h2⟩:=h.is
 obtain⟨R,r1,r2,r3⟩:=Ix h.ok k h1 h2
 have:=(Ih h.ok h1 h2).2
 exact⟨R,fun c hc=>(Dt.1 (r1 c hc)).1,by omega,r3⟩
theorem Dm.app{R:List Nat}{a b:List H9}(h:Dm R a)(h':Dm R b):Dm R (a++b):=fun p hp=>(List.mem_append.1 hp).elim (h p) (h' p)
theorem Ms{cs:List Nat}{A:Nat}:∀ (T:List (Nat × Nat)),(∀ t∈T,Mz cs A t.1 t.2)→∃ R:List Nat,(∀ c∈R,c∈cs)∧R.length≤(T.map fun t=>CU t.1).sum∧Dm R (CI cs A T):=by
 intro T
 induction T with
 | nil=>intro _;exact⟨[],by simp,by simp,fun p hp=>by simp[CI] at hp⟩
 | cons t T ih =>
  intro h
  obtain⟨R,r1,r2,r3⟩:=ih fun x hx=>h x (List.mem_cons_of_mem _ hx)
  obtain⟨R',s1,s2,s3⟩:=(h t (List.mem_cons_self ..)).reasons
  refine⟨R'++R,fun c hc=>(List.mem_append.1 hc).elim (s1 c) (r1 c),by simp only[List.length_append,List.map_cons,List.sum_cons];omega,?_⟩
  simp only[CI,List.flatMap_cons]
  exact(s3.sub fun c hc=>List.mem_append_left _ hc).app (r3.sub fun c hc=>List.mem_append_right _ hc)
theorem OQ{cs cs' R:List Nat}{A w:Nat}(h:Dl cs A w)(hno:AU cs A=false)(hs:∀ c∈cs',c∈cs)(hR:∀ c∈R,c∈cs'){n:Nat}(hE:Dm R (Bn cs A w n)):CT cs' (Bn cs A w n)=true:=by
 unfold CT
 rw[List.all_eq_true]
 intro p hp
 have he:=hE p hp
 obtain⟨i,d,kn,_,h1,h2,rfl⟩:=Is hp
 obtain⟨a1,a2,a3⟩:=Bg h h1
 obtain⟨q,qw⟩:=De h a1 h2
 have hcl:AU cs d=false:=by
  cases hb:AU cs d with
  | false=>rfl
  | true=>rw[FZ h a1 a3 hno hb] at h2;simp at h2
 cases hp1:BQ cs d with
 | none=>rw[Bw.1 hp1] at hcl;simp at hcl
 | some K =>
  obtain⟨K',e,hK⟩:=SN h.top a1 hs (AH.refl d) hp1
  have q':=DG (fun c hc=>h.top c (hs c hc)) a1 e
  have hl:=J4 h.top (Ba w) h.sep a1 hp1
  rw[h2] at hl
  simp only[Option.some.injEq] at hl
  have e1:K'&&&AI w=kn:=by
   refine AH.anti ?_ ?_
   ·rw[hl];exact hK.mono _
   ·exact(he K' (q'.cl.sub hR) ((GY _ _).trans q'.sub)).and qw
  simp only[Hz,e]
  simpa using e1
theorem Ks{cs cs':List Nat}{A w:Nat}(h:Dl cs A w)(hs:∀ c∈cs',c∈cs){n:Nat}(hr:CT cs' (Bn cs A w n)=true):∀ j d kn,j<n→BM cs A w j=some d→A5 cs (AI w) d=some kn→A5 cs' (AI w) d=some kn:=by
 intro j d kn hj h1 h2
 unfold CT at hr
 have hp:=(List.all_eq_true.1 hr) ⟨d,w,kn⟩ (Iw h1 h2 hj)
 have e:Hz cs' d&&&AI w=kn:=by simpa using hp
 obtain⟨a1,_,_⟩:=Bg h h1
 have h':=h.sub hs
 cases hpu:BQ cs' d with
 | some K' =>
  rw[J4 h'.top (Ba w) h'.sep a1 hpu]
  simp only[Hz,hpu] at e
  rw[e]
 | none =>
  simp only[Hz,hpu,Nat.zero_and] at e
  have q:=(De h a1 h2).1
  obtain⟨K',e',hK⟩:=Mi (cs:=Lg cs' (AI w)) (q.cl.sub fun c hc=>Dt.2 ⟨hs c (Dt.1 hc).1,(Dt.1 hc).2⟩) q.twin q.sub
  have:K'=0:=AH.anti (by rw[e];exact hK) (fun i z=>by rw[Nat.zero_testBit] at z;simp at z)
  show BQ _ _=_
  rw[e',this,e]
theorem OO(cs:List Nat)(a b:List H9):CT cs (a++b)=(CT cs a && CT cs b):=by simp[CT]
theorem Mz.keep{cs cs':List Nat}{A w k:Nat}(h:Mz cs A w k)(hs:∀ c∈cs',c∈cs)(hr:CT cs' (Bn cs A w (k+1))=true):Mz cs' A w k∧Bn cs' A w (k+1)=Bn cs A w (k+1):=by
 obtain⟨d,kn,h1,h2⟩:=h.is
 have hl:=Ks h.ok hs hr
 have hsame:∀ j d',j<k+1→BM cs A w j=some d'→A5 cs' (AI w) d'=A5 cs (AI w) d':=by
  intro j d' hj hd'
  have:∃ kn',A5 cs (AI w) d'=some kn':=by
   by_cases e:j=k
   ·subst e
    rw[h1] at hd'
    simp only[Option.some.injEq] at hd'
    subst hd'
    exact⟨kn,h2⟩
   ·obtain⟨d1,hd1⟩:=GM h1 (by omega:j+1≤k)
    obtain⟨d0,kn',b1,b2,_,_⟩:=BV hd1
    rw[hd'] at b1
    simp only[Option.some.injEq] at b1
    subst b1
    exact⟨kn',b2⟩
  obtain⟨kn',hk'⟩:=this
  rw[hk',hl j d' kn' hj hd' hk']
 refine⟨⟨h.ok.sub hs,d,kn,?_,hl k d kn (by omega) h1 h2⟩,Lo hsame (k+1) (Nat.le_refl _)⟩
 rw[E7 hsame k (by omega)]
 exact h1
theorem Si{cs cs':List Nat}{A:Nat}(hs:∀ c∈cs',c∈cs):∀ (T:List (Nat × Nat)),(∀ t∈T,Mz cs A t.1 t.2)→CT cs' (CI cs A T)=true→(∀ t∈T,Mz cs' A t.1 t.2)∧CI cs' A T=CI cs A T:=by
 intro T
 induction T with
 | nil=>intro _ _;exact⟨fun t ht=>by simp at ht,rfl⟩
 | cons t T ih =>
  intro h hr
  simp only[CI,List.flatMap_cons,OO,Bool.and_eq_true] at hr
  obtain⟨a1,a2⟩:=ih (fun x hx=>h x (List.mem_cons_of_mem _ hx)) hr.2
  obtain⟨b1,b2⟩:=(h t (List.mem_cons_self ..)).keep hs hr.1
  refine⟨fun x hx=>?_,?_⟩
  ·rcases List.mem_cons.1 hx with rfl | hx
   ·exact b1
   ·exact a1 x hx
  ·simp only[CI,List.flatMap_cons] at a2 ⊢
   rw[b2,a2]
theorem Lk(E:Sg)(s:Sr)(dec:Nat):∀ (cs:List Nat) (m:Nat),(CH E s dec cs m=m∧∀ c∈cs,AG c≤AG m∨FY E s c dec=false)∨(CH E s dec cs m∈cs∧FY E s (CH E s dec cs m) dec=true):=by
 intro cs
 induction cs with
 | nil=>intro m;exact .inl ⟨rfl,fun c hc=>by simp at hc⟩
 | cons c cs ih =>
  intro m
  simp only[CH]
  by_cases h1:AG c≤AG m
  ·rw[if_pos h1]
   rcases ih m with⟨a,b⟩ | ⟨a,b⟩
   ·refine .inl ⟨a,fun x hx=>?_⟩
    rcases List.mem_cons.1 hx with rfl | hx
    ·exact .inl h1
    ·exact b x hx
   ·exact .inr ⟨List.mem_cons_of_mem _ a,b⟩
  ·rw[if_neg h1]
   cases hi:FY E s c dec with
   | true =>
    rw[if_pos rfl]
    rcases ih c with⟨a,b⟩ | ⟨a,b⟩
    ·rw[a];exact .inr ⟨List.mem_cons_self ..,hi⟩
    ·exact .inr ⟨List.mem_cons_of_mem _ a,b⟩
   | false =>
    simp only[Bool.false_eq_true,if_false]
    rcases ih m with⟨a,b⟩ | ⟨a,b⟩
    ·refine .inl ⟨a,fun x hx=>?_⟩
     rcases List.mem_cons.1 hx with rfl | hx
     ·exact .inr hi
     ·exact b x hx
    ·exact .inr ⟨List.mem_cons_of_mem _ a,b⟩
theorem Qe{E:Sg}{s:Sr}{w k dec:Nat}{T:List (Nat × Nat)}(hn:s.lr.Nodup)(hl:10<s.lr.length)(hok:Dl (E.hv++s.lr) E.as w)(hT:∀ t∈T,Mz (E.hv++s.lr) E.as t.1 t.2)(hdone:s.done=CI (E.hv++s.lr) E.as T)(hdec:BM (E.hv++s.lr) E.as w (k+1)=some dec)(hpath:s.path=Bn (E.hv++s.lr) E.as w (k+1))(hcl:AU (E.hv++s.lr) dec=true)(hno:AU (E.hv++s.lr) E.as=false)(hdis:((T.map fun t=>t.1)++[w]).Pairwise fun a b=>a&&&b=0) :
  ∃ c∈s.lr,FY E s c dec=true:=by
 generalize hcs:E.hv++s.lr=cs at *
 obtain⟨d,kn,h1,h2,h3,ed⟩:=BV hdec
 obtain⟨a1,_,_⟩:=Bg hok h1
 obtain⟨c1,_,c3⟩:=Bg hok hdec
 obtain⟨q,qw⟩:=De hok a1 h2
 obtain⟨j,ej,hj,_,hjw,hb,hp⟩:=FG q.top h3
 rw[ej] at ed
 obtain⟨R0,r1,r2,r3⟩:=Ms T hT
 obtain⟨R1,s1,s2,s3⟩:=Ix hok k h1 h2
 have hlc:=Bw.1 (FZ hok c1 c3 hno hcl)
 have hk0:AH (dec&&&AI w) (kn|||2^j):=by
  intro x hx
  rw[Nat.testBit_and,Bool.and_eq_true,ed,Nat.testBit_or,Bool.or_eq_true] at hx
  rw[Nat.testBit_or,Bool.or_eq_true]
  rcases hx with⟨hx | hx,hw'⟩
  ·exact .inl (q.sub x (by rw[Nat.testBit_and,hx,hw'];rfl))
  ·exact .inr hx
 have hk0t:=Nat.or_lt_two_pow q.top (Uc hj)
 obtain⟨R2,t1,t2,t3⟩:=LN (Ba w) (m:=CU w) (fun k hk ht=>J8 hk ht) (fun c hc=>(Dt.1 hc).2) _ (kn|||2^j) (Nat.le_refl _) (Co qw hjw) (LA q.twin hp) (CX (KY hok.top _) hk0t (fun c hc=>hc) hk0 hlc)
 have hsz:=GH hj q.top hb
 have hsum:=WZ hdis
 rw[List.map_append,List.sum_append,List.map_map] at hsum
 simp only[List.map_cons,List.map_nil,List.sum_cons,List.sum_nil] at hsum
 have hT':(T.map fun t=>CU t.1).sum=(T.map (CU ∘ fun t=>t.1)).sum:=rfl
 have hlen:(R0++(R1++R2)).length≤10:=by
  simp only[List.length_append]
  omega
 have hex:∃ c∈s.lr,c ∉ R0++(R1++R2):=by
  apply Classical.byContradiction
  intro hne
  have:=N1 s.lr (R0++(R1++R2)) hn (fun x hx=>by
   apply Classical.byContradiction
   intro hx'
   exact hne ⟨x,hx,hx'⟩)
  omega
 obtain⟨c,hc,hcR⟩:=hex
 refine⟨c,hc,?_⟩
 have hin:∀ x∈R0++(R1++R2),x∈cs:=fun x hx=>by
  rcases List.mem_append.1 hx with hx | hx
  ·exact r1 x hx
  ·rcases List.mem_append.1 hx with hx | hx
   ·exact(Dt.1 (s1 x hx)).1
   ·exact(Dt.1 (t1 x hx)).1
 have hR:∀ x∈R0++(R1++R2),x∈E.hv++s.lr.erase c:=fun x hx=>by
  have hne:x≠c:=fun e=>hcR (by rw[← e];exact hx)
  have:=hin x hx
  rw[← hcs] at this
  rcases List.mem_append.1 this with q | q
  ·exact List.mem_append_left _ q
  ·exact List.mem_append_right _ ((List.mem_erase_of_ne hne).2 q)
 have hsub:∀ x∈E.hv++s.lr.erase c,x∈cs:=fun x hx=>by
  rw[← hcs]
  rcases List.mem_append.1 hx with q | q
  ·exact List.mem_append_left _ q
  ·exact List.mem_append_right _ (List.mem_of_mem_erase q)
 have E1:Dm (R0++(R1++R2)) (Bn cs E.as w (k+1)):=s3.sub fun x hx=>List.mem_append_right _ (List.mem_append_left _ hx)
 unfold FY
 rw[Bool.and_eq_true,Bool.and_eq_true]
 refine⟨⟨?_,?_⟩,?_⟩
 ·cases hbb:AU (E.hv++s.lr.erase c) dec with
  | true=>rfl
  | false =>
   exfalso
   obtain⟨K,_,b2,b3,b4⟩:=CW _ (fun x hx=>hok.top x (hsub x hx)) dec c1 hbb
   have hkn:=E1 ⟨d,w,kn⟩ (Iw h1 h2 (by omega)) K (b4.sub hR) (by
    refine AH.trans (GY _ _) (AH.trans ?_ b2)
    rw[ed];exact AH.or_left _ _)
   have:=CY (cs:=R2) (b4.sub fun x hx=>hR x (List.mem_append_right _ (List.mem_append_right _ hx))) b3 (Co hkn (b2 j (by rw[ed];exact GW d j)))
   rw[this] at t3
   simp at t3
 ·rw[hpath]
  exact OQ hok hno hsub hR E1
 ·rw[hdone]
  have E0:Dm (R0++(R1++R2)) (CI cs E.as T):=r3.sub fun x hx=>List.mem_append_left _ hx
  clear hdone r3 hdis hsum hT' r2
  generalize R0++(R1++R2)=R at *
  induction T with
  | nil=>rfl
  | cons t T ih =>
   simp only[CI,List.flatMap_cons] at E0 ⊢
   rw[OO,Bool.and_eq_true]
   refine⟨OQ (hT t (List.mem_cons_self ..)).ok hno hsub hR (fun p hp=>E0 p (List.mem_append_left _ hp)),ih (fun x hx=>hT x (List.mem_cons_of_mem _ hx)) (fun p hp=>E0 p (List.mem_append_right _ hp))⟩
theorem TY{cs cs':List Nat}{A w k dec:Nat}(h:Dl cs A w)(hs:∀ c∈cs',c∈cs)(hk:BM cs A w (k+1)=some dec)(hno:AU cs A=false)(hcl':AU cs' dec=true)(hr:CT cs' (Bn cs A w (k+1))=true):BM cs' A w (k+1)=some dec∧FJ cs' A w 12=FJ cs A w 12∧Bn cs' A w (k+1)=Bn cs A w (k+1)∧∀ i d kn,i≤k→BM cs A w i=some d→A5 cs (AI w) d=some kn→A5 cs' (AI w) d=some kn:=by
 obtain⟨d,kn,h1,h2,h3,ed⟩:=BV hk
 obtain⟨t1,t2⟩:=(Mz.mk h ⟨d,kn,h1,h2⟩).keep hs hr
 have hl:=Ks h hs hr
 have hsame:∀ j d',j<k+1→BM cs A w j=some d'→A5 cs' (AI w) d'=A5 cs (AI w) d':=by
  intro j d' hj hd'
  obtain⟨d1,hd1⟩:=GM hk (by omega:j+1≤k+1)
  obtain⟨d0,kn',b1,b2,_,_⟩:=BV hd1
  rw[hd'] at b1
  simp only[Option.some.injEq] at b1
  subst b1
  rw[b2,hl j d' kn' hj hd' b2]
 have hdk:=E7 hsame (k+1) (Nat.le_refl _)
 rw[hk] at hdk
 refine⟨hdk,?_,t2,fun i d' kn' hi a b=>hl i d' kn' (by omega) a b⟩
 have h':=h.sub hs
 obtain⟨c1,_,c3⟩:=Bg h hk
 have hno':=Ez h.top h.asm hs (AH.refl A) hno
 have hcl:=CX h.top c1 hs (AH.refl dec) hcl'
 have n1:=FZ h c1 c3 hno hcl
 have n2:=FZ h' c1 c3 hno' hcl'
 refine OJ 12 fun i _=>?_
 unfold QZ
 by_cases hi:i≤k
 ·rw[E7 hsame i (by omega)]
  cases hd':BM cs A w i with
  | none=>rfl
  | some d'=>simp only;rw[hsame i d' (by omega) hd']
 ·by_cases e:i=k+1
  ·subst e
   rw[hk,hdk]
   simp only
   rw[n1,n2]
  ·have z:∀ (cs:List Nat),BM cs A w (k+1)=some dec→A5 cs (AI w) dec=none→BM cs A w i=none:=by
    intro cs hd hn
    cases hz:BM cs A w i with
    | none=>rfl
    | some x =>
     obtain⟨d1,hd1⟩:=GM hz (by omega:k+1+1≤i)
     obtain⟨d0,kn',b1,b2,_,_⟩:=BV hd1
     rw[hd] at b1
     simp only[Option.some.injEq] at b1
     subst b1
     rw[hn] at b2
     simp at b2
   rw[z cs hk n1,z cs' hdk n2]
def bA(l:List UInt8):ByteArray:=⟨l.toArray⟩
theorem ZW(l:List UInt8):bs (bA l)=l:=by simp[bs,bA]
theorem Yp(l:List UInt8):(bA l).size=l.length:=Ch l
def AT(cs:List Nat):Nat:=(cs.map AG).sum
theorem FE(cs:List Nat)(c:Nat):AT (cs++[c])=AT cs+AG c:=by simp[AT]
def Tk.takes?(k:Tk):Bool:=match k with | .takes=>true | _=>false
structure Vw where
 r:Int
 h:Int
 l:Int
 hv:List Nat
 seen:Nat
 lr:List Nat
 log:Nat
 unsat:Nat
 pf:List UInt8
structure Xy(v:Vw):Prop where
 hvt:∀ c∈v.hv,c<1048576
 lrt:∀ c∈v.lr,c<1048576
 seen:v.seen<1048576
 lits:AT v.hv≤150
 held:AT v.lr≤1048576
 log:v.log≤1048576
 unsat:v.unsat≤1048576
 lrl:v.lr.length≤1048576
 pfl:v.pf.length≤4194304
def Vw.none(r h l:Int):Vw:=⟨r,h,l,[],0,[],0,0,[]⟩
def Vw.add(v:Vw)(xs:List Int):Vw:=if (An xs (AT v.hv)).takes? then { v with hv:=v.hv++[Ak xs],seen:=v.seen|||Ag (Ak xs) } else v
def Vw.se(v:Vw)(st:Nat):SE:=⟨0,0,0,v.r,v.h,v.l,.slice .none 0 0,.none,0,v.hv,AT v.hv,v.seen,.none,0,v.lr,AT v.lr,v.log,v.unsat,bA v.pf,st⟩
structure IT(v:Vw)(xs:List Int)(b:Int)(v':Vw)(x:Gg)(ls:List EY)(st:Nat):Prop where
 r:v'.r=v.r
 h:v'.h=v.h
 l:v'.l=v.l
 hv:v'.hv=v.hv
 seen:v'.seen=v.seen|||Ag (AO xs)
 pf:v'.pf=v.pf++EC ls
 ok:Eg v.r v.h v.l v.hv ⟨v.lr,AT v.lr,v.log,0⟩ ls
 to:Ay ⟨v.lr,AT v.lr,v.log,0⟩ ls=⟨v'.lr,AT v'.lr,v'.log,st⟩
 bud:(b == 0 || decide ((st:Int)≤b))=true
 len:x.vs.length≤1000∧x.co.length≤1000∧x.cl.length≤1000∧(IE ls).length≤1000
 how:(x.st=1∧Dq ls=false∧v'.unsat=v.unsat∧∃ u,M9 v.hv v'.seen (AO xs) x u)∨(x.st=2∧Dq ls=true∧v'.unsat=v.unsat+1∧Jv v.hv x xs (IE ls))∨(x.st=3∧Dq ls=false∧v'.unsat=v.unsat∧LZ (v'.se st) x b)
structure DJ(w:World)(B:Nat)(x:Gg)(p:A3):Prop where
 vs:w.ownsRow B 3 1 (.slice p.a1 x.vs.length p.c1) x.vs.length (AW x.vs)
 co:w.ownsRow B 3 1 (.slice p.a2 x.co.length p.c2) x.co.length (AW x.co)
 cl:w.ownsRow B 3 1 (.slice p.a3 x.cl.length p.c3) x.cl.length (AW x.cl)
 p12:Bp (.slice p.a1 x.vs.length p.c1) (.slice p.a2 x.co.length p.c2)
 p13:Bp (.slice p.a1 x.vs.length p.c1) (.slice p.a3 x.cl.length p.c3)
 p23:Bp (.slice p.a2 x.co.length p.c2) (.slice p.a3 x.cl.length p.c3)
def A3.At(p:A3)(b:Nat):Prop:=(Value.slice p.a1 0 p.c1).ownBlock=some b∨(Value.slice p.a2 0 p.c2).ownBlock=some b∨(Value.slice p.a3 0 p.c3).ownBlock=some b
def IY:Gg:=⟨0,0,[],[],[]⟩
def MC:A3:=⟨none,none,none,0,0,0⟩
def Wm{S:Type}(At:World→Nat→S→(Nat→Prop)→Prop)(F:Nat→Prop)(w w':World)(g:Nat)(s:S)(Q:(Nat→Prop)→Prop):Prop :=
 ∃ F',At w' g s F'∧EX F w w'∧(∀ b,F' b→F b∨w.heap.size≤b)∧Q F'
structure D0 where
 S:Type
 vw:S→Vw
 Ok:S→Prop
 At:World→Nat→S→(Nat→Prop)→Prop
 frame:∀ {w w':World} {g:Nat} {s:S} {F:Nat→Prop},At w g s F→(∀ b,F b→w'.heap[b]?=w.heap[b]?)→At w' g s F
 lt:∀ {w:World} {g:Nat} {s:S} {F:Nat→Prop},At w g s F→∀ b,F b→b<w.heap.size
 bd:∀ {s:S},Ok s→Xy (vw s)
 new:Int→Int→Int→S
 newV:∀ r h l,BY r h l=true→Ok (new r h l)∧vw (new r h l)=Vw.none r h l
 newC:∀ (r h l:Int) (w:World),Calls Tryd.prog 24 #[.agg #[.int .i64 r,.int .i64 h,.int .i64 l]] w fun e w'=>Below w.heap.size w w'∧if BY r h l then ∃ g F,e=.returned (.tuple #[.pointer (some ⟨g,0,none⟩),.int .i64 0])∧At w' g (new r h l) F∧∀ b,F b→w.heap.size≤b else e=.returned (.tuple #[.pointer none,.int .i64 1])
 add:S→List Int→S
 addV:∀ s xs,Ok s→Ok (add s xs)∧vw (add s xs)=(vw s).add xs
 addC:∀ {w:World} {g:Nat} {s:S} {F:Nat→Prop} (a:Option Addr) (c:Nat) (xs:List Int),At w g s F→Ok s→Ad w a xs→(∀ ad,a=some ad→¬ F ad.block)→xs.length≤100000→(vw s).hv.length≤1000000 →
  Calls Tryd.prog 25 #[.pointer (some ⟨g,0,none⟩),.slice a xs.length c] w fun e w'=>e=.returned (.int .i64 (Hx (An xs (AT (vw s).hv))))∧Wm At F w w' g (add s xs) fun _=>True
 countsC:∀ {w:World} {g:Nat} {s:S} {F:Nat→Prop},At w g s F→Ok s→(vw s).hv.length≤1000000 →
  Calls Tryd.prog 17 #[.pointer (some ⟨g,0,none⟩)] w fun e w'=>e=.returned (.agg #[.int .i64 (AG (vw s).seen:Nat),.int .i64 ((vw s).hv.length:Nat),.int .i64 (AT (vw s).hv:Nat),.int .i64 ((vw s).lr.length:Nat),.int .i64 (AT (vw s).lr:Nat),.int .i64 ((vw s).log:Nat),.int .i64 ((vw s).unsat:Nat)])∧Below w.heap.size w w'
 rst:S→S
 rstV:∀ s,Ok s→Ok (rst s)∧vw (rst s)=Vw.none (vw s).r (vw s).h (vw s).l
 slv:S→List Int→Int→S
 ans:S→List Int→Int→Gg
 slvN:∀ s xs b,BJ xs b≠0→slv s xs b=s∧ans s xs b=IY
 slvV:∀ s xs b,Ok s→BJ xs b=0→Ok (slv s xs b)∧∃ ls st,IT (vw s) xs b (vw (slv s xs b)) (ans s xs b) ls st
 slvC:∀ {w:World} {g:Nat} {s:S} {F:Nat→Prop} (a:Option Addr) (c:Nat) (xs:List Int) (b:Int),At w g s F→Ok s→FM w→0<w.heap.size→¬ F 0→Ad w a xs→(∀ ad,a=some ad→¬ F ad.block∧ad.block<w.heap.size)→xs.length≤100000→(vw s).hv.length≤1000000 →
  Calls Tryd.prog 13 #[.pointer (some ⟨g,0,none⟩),.slice a xs.length c,.int .i64 b] w fun e w'=>∃ p:A3,e=.returned (.tuple #[.agg #[.int .i64 (ans s xs b).st,.int .i64 (ans s xs b).re,.slice p.a1 (ans s xs b).vs.length p.c1,.slice p.a2 (ans s xs b).co.length p.c2,.slice p.a3 (ans s xs b).cl.length p.c3],.int .i64 (BJ xs b)]) ∧
   DJ w' w.heap.size (ans s xs b) p∧(BJ xs b≠0→p=MC)∧Wm At F w w' g (slv s xs b) fun F'=>∀ k,p.At k→¬ F' k
theorem D0.below(P:D0){w w':World}{g:Nat}{s:P.S}{F:Nat→Prop}(h:P.At w g s F)(hb:Below w.heap.size w w'):P.At w' g s F:=P.frame h (fun b hq=>hb.block b (P.lt h b hq))
end Go.Proofs.YthboeppmlhbofaaDoor
