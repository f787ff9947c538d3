import Derived.Test.YthboeppmlhbofaaGreatDoorDcm
import Derived.Test.YthboeppmlhbofaaGreatDoorLns
namespace Go.Proofs.YthboeppmlhbofaaGreatDoor
open Go.RowKit Txt
set_option maxRecDepth 100000
theorem EF{k K:Nat}(hk:AM k K)(hK:K<2^20):k<2^20:=B7 fun i hi=>by
 cases hb:k.testBit i with
 | false=>rfl
 | true=>have:=Bl hK (hk i hb);omega
theorem Gf{cs cs':List Nat}(hc:∀ c∈cs',c<2^20){k k':Nat}(hk:k'<2^20)(hs:∀ c∈cs,c∈cs')(hkk:AM k k')(h:Ab cs' k'=false):Ab cs k=false:=by
 cases hb:Ab cs k with
 | false=>rfl
 | true=>rw[Dc hc hk hs hkk hb] at h;exact h
theorem Hx(cs:List Nat):∀ (xs:List Int) (d:Nat),AM (A4 cs xs d) d:=by
 intro xs
 induction xs with
 | nil=>intro d;exact AM.refl d
 | cons n xs ih =>
  intro d
  simp only[A4]
  refine(ih _).trans ?_
  split
  ·exact Ug d n
  ·exact AM.refl d
theorem IS(cs:List Nat):∀ (xs:List Int) (d:Nat),Ab cs d=true→Ab cs (A4 cs xs d)=true:=by
 intro xs
 induction xs with
 | nil=>intro d h;exact h
 | cons n xs ih =>
  intro d h
  simp only[A4]
  refine ih _ ?_
  split
  ·assumption
  ·exact h
theorem We(cs:List Nat){j:Nat}:∀ (xs:List Int) (d:Nat),d.testBit j=true→(∀ n∈xs,Dz n≠j)→(A4 cs xs d).testBit j=true:=by
 intro xs
 induction xs with
 | nil=>intro d h _;exact h
 | cons n xs ih =>
  intro d h hn
  simp only[A4]
  refine ih _ ?_ (fun m hm=>hn m (List.mem_cons_of_mem _ hm))
  split
  ·have hne:j≠Dz n:=fun e=>hn n (List.mem_cons_self ..) e.symm
   rw[Hm,h];simp[hne]
  ·exact h
theorem RO{cs:List Nat}(hc:∀ c∈cs,c<2^20):∀ (xs:List Int) (d:Nat),d<2^20→∀ n∈xs,(A4 cs xs d).testBit (Dz n)=true→Ab cs (wo (A4 cs xs d) n)=false:=by
 intro xs
 induction xs with
 | nil=>intro d _ n hn;simp at hn
 | cons m xs ih =>
  intro d hd n hn hb
  simp only[A4] at hb ⊢
  have hd1:(if Ab cs (wo d m)=true then wo d m else d)<2^20:=by
   split
   ·exact MB m hd
   ·exact hd
  rcases List.mem_cons.1 hn with rfl | hn
  ·have hs:=Hx cs xs (if Ab cs (wo d n)=true then wo d n else d)
   cases hcl:Ab cs (wo d n) with
   | true =>
    rw[hcl,if_pos rfl] at hb hs
    have:=hs _ hb
    rw[Hm] at this
    simp at this
   | false =>
    rw[hcl] at hs
    simp only[Bool.false_eq_true,if_false] at hs ⊢
    refine Gf hc (MB n hd) (fun c h=>h) ?_ hcl
    intro i hi
    rw[Hm,Bool.and_eq_true] at hi ⊢
    exact⟨hs i hi.1,hi.2⟩
  ·exact ih _ hd1 n hn hb
theorem VP:∀ {xs:List Int} {j:Nat},(Ah xs).testBit j=true→∃ n∈xs,Dz n=j:=by
 intro xs
 induction xs with
 | nil=>intro j h;simp[Ah] at h
 | cons x xs ih =>
  intro j h
  have e:Ah (x :: xs)=Ah [x]|||Ah xs:=H8 [x] xs
  rw[e,Nat.testBit_or,Bool.or_eq_true,H9,Nat.testBit_two_pow] at h
  rcases h with h | h
  ·exact⟨x,List.mem_cons_self ..,by simpa using h⟩
  ·obtain⟨n,hn,e⟩:=ih h
   exact⟨n,List.mem_cons_of_mem _ hn,e⟩
theorem aP:∀ {xs:List Int} {n:Int},n∈xs→(Ah xs).testBit (Dz n)=true:=by
 intro xs
 induction xs with
 | nil=>intro n h;simp at h
 | cons x xs ih =>
  intro n h
  have e:Ah (x :: xs)=Ah [x]|||Ah xs:=H8 [x] xs
  rw[e,Nat.testBit_or,Bool.or_eq_true,H9,Nat.testBit_two_pow]
  rcases List.mem_cons.1 h with rfl | h
  ·left;simp
  ·exact .inr (ih h)
theorem KG{xs:List Int}(h:xs.all AT=true):AJ xs=Ah xs:=by unfold AJ;rw[h,if_pos rfl]
theorem Lf(k W i:Nat):(k - (k&&&W)).testBit i=(k.testBit i && !W.testBit i):=Bi k W i
theorem ay{cs:List Nat}{A w:Nat}(h:Et cs A w){xs:List Int}(hx:xs.all AT=true)(hA:A=AJ xs){d:Nat}(hd:d<2^20)(hdA:∀ j,d.testBit j=true→(AQ w).testBit j=false→A.testBit j=true)(hcl:Ab cs d=true)(hno:Ab cs A=false):AM (A4 cs xs d) (AQ w):=by
 have hDs:=Hx cs xs d
 have hD20:=EF hDs hd
 have hDc:=IS cs xs d hcl
 have hmin:=RO h.top xs d hd
 generalize A4 cs xs d=D at *
 rcases Is h.top (CI w) h.sep hD20 hDc with q | q
 ·intro j hj
  cases hw:(AQ w).testBit j with
  | true=>rfl
  | false =>
   have hAj:=hdA j (hDs j hj) hw
   rw[hA,KG hx] at hAj
   obtain⟨n,hn,e⟩:=VP hAj
   have:=hmin n hn (by rw[e];exact hj)
   rw[Dc h.top (MB n hD20) (fun c hc=>(E7.1 hc).1) (fun i hi=>?_) q] at this
   ·exact this.symm
   ·rw[Nat.testBit_and,Bool.and_eq_true] at hi
    rw[Hm,hi.1,decide_eq_true]
    ·rfl
    ·intro e'
     rw[e',e,hw] at hi
     simp at hi
 ·rw[Dc h.top h.asm (fun c hc=>(Jg.1 hc).1) (fun i hi=>?_) q] at hno
  ·simp at hno
  ·rw[Lf,Bool.and_eq_true] at hi
   exact hdA i (hDs i hi.1) (by simpa using hi.2)
theorem aT{cs:List Nat}{A w:Nat}(h:Et cs A w){xs:List Int}(hx:xs.all AT=true)(hA:A=AJ xs)(hcl:Ab cs A=true){j:Nat}(hj:(A4 cs xs A).testBit j=true)(hw:(AQ w).testBit j=true):AM (A4 cs xs A) (AQ w):=by
 have hDs:=Hx cs xs A
 have hD20:=EF hDs h.asm
 have hDc:=IS cs xs A hcl
 have hmin:=RO h.top xs A h.asm
 generalize A4 cs xs A=D at *
 have lit:∀ i,D.testBit i=true→∃ n∈xs,Dz n=i:=fun i hi=>by
  have:=hDs i hi
  rw[hA,KG hx] at this
  exact VP this
 rcases Is h.top (CI w) h.sep hD20 hDc with q | q
 ·intro i hi
  cases hwi:(AQ w).testBit i with
  | true=>rfl
  | false =>
   obtain⟨n,hn,e⟩:=lit i hi
   have:=hmin n hn (by rw[e];exact hi)
   rw[Dc h.top (MB n hD20) (fun c hc=>(E7.1 hc).1) (fun x hx'=>?_) q] at this
   ·exact this.symm
   ·rw[Nat.testBit_and,Bool.and_eq_true] at hx'
    rw[Hm,hx'.1,decide_eq_true]
    ·rfl
    ·intro e'
     rw[e',e,hwi] at hx'
     simp at hx'
 ·obtain⟨n,hn,e⟩:=lit j hj
  have:=hmin n hn (by rw[e];exact hj)
  rw[Dc h.top (MB n hD20) (fun c hc=>(Jg.1 hc).1) (fun x hx'=>?_) q] at this
  ·simp at this
  ·rw[Lf,Bool.and_eq_true] at hx'
   rw[Hm,hx'.1,decide_eq_true]
   ·rfl
   ·intro e'
    rw[e',e,hw] at hx'
    simp at hx'
theorem G7{cs:List Nat}{A w:Nat}(h:Et cs A w){d:Nat}(hd:d<2^20)(hdA:∀ j,d.testBit j=true→(AQ w).testBit j=false→A.testBit j=true)(hno:Ab cs A=false)(hcl:Ab cs d=true):Ba cs (AQ w) d=none:=by
 rcases Is h.top (CI w) h.sep hd hcl with q | q
 ·exact Cu.2 q
 ·rw[Dc h.top h.asm (fun c hc=>(Jg.1 hc).1) (fun i hi=>?_) q] at hno
  ·simp at hno
  ·rw[Lf,Bool.and_eq_true] at hi
   exact hdA i hi.1 (by simpa using hi.2)
theorem Kn{D kn i:Nat}:(Av (AW D) kn).testBit i=(decide (i<20) && (D.testBit (Fs i) && !kn.testBit (Fs i))):=by
 rw[EZ]
 by_cases hi:i<20
 ·rw[CQ _ hi,CQ _ hi,decide_eq_true hi,Bool.true_and]
 ·rw[IT _ hi,decide_eq_false hi];rfl
theorem JJ{D W:Nat}(hW:Xe W)(h:AM D W):AM (AW D) W:=fun i hi=>by
 by_cases hi20:i<20
 ·rw[CQ _ hi20] at hi
  have:=h _ hi
  rw[hW.sym i hi20] at this
  exact this
 ·rw[IT _ hi20] at hi;simp at hi
theorem Nf{k j:Nat}(hk:BN k=false)(hp:k.testBit (Fs j)=false):BN (k|||2^j)=false:=by
 rw[FK] at hk ⊢
 intro i hi h
 rw[Nat.testBit_or,Bool.or_eq_true,Nat.testBit_two_pow] at h
 rw[Nat.testBit_or,Nat.testBit_two_pow,Bool.or_eq_false_iff]
 rcases h with h | h
 ·refine⟨hk i hi h,?_⟩
  apply decide_eq_false
  intro e
  rw[e,Dt] at hp
  rw[hp] at h;simp at h
 ·have e:j=i:=by simpa using h
  subst e
  exact⟨hp,decide_eq_false (fun e=>cW j e.symm)⟩
theorem Vr{cs:List Nat}{A w:Nat}:∀ {m i d d':Nat},Bp cs A w i=some d→Bp cs A w (i+m)=some d'→AM d d':=by
 intro m
 induction m with
 | zero =>
  intro i d d' h1 h2
  rw[Nat.add_zero,h1] at h2
  simp only[Option.some.injEq] at h2
  subst h2;exact AM.refl _
 | succ m ih =>
  intro i d d' h1 h2
  obtain⟨d0,kn,a1,_,_,e⟩:=Bz (i:=i+m) h2
  rw[e]
  exact(ih h1 a1).trans (AM.or_left _ _)
theorem RJ{cs cs':List Nat}{A w:Nat}(h:Et cs A w){xs:List Int}(hx:xs.all AT=true)(hA:A=AJ xs){k dec:Nat}(hk:Bp cs A w (k+1)=some dec){i d kn:Nat}(hi:i≤k)(h1:Bp cs A w i=some d)(h2:Ba cs (AQ w) d=some kn)(h3:Dg w kn≠0):∃ j,DN ((Dg w kn:Nat):Int)=2^j∧j<20∧(AQ w).testBit j=true∧kn.testBit j=false∧kn.testBit (Fs j)=false∧(A4 cs' xs dec).testBit j=true:=by
 obtain⟨a1,a2,_⟩:=CO h h1
 obtain⟨q,_⟩:=En h a1 h2
 obtain⟨j,e,hj,_,hw,hb,hp⟩:=Gn q.top h3
 refine⟨j,e,hj,hw,hb,hp,We cs' xs dec ?_ (fun n hn en=>?_)⟩
 ·have hn:Bp cs A w (i+1)=some (d|||2^j):=by
   simp only[Bp,h1,h2]
   rw[if_neg h3,e]
  have hs:AM (d|||2^j) dec:=Vr (m:=k - i) hn (by rw[show i+1+(k - i)=k+1 by omega];exact hk)
  exact hs j (IV d j)
 ·have hAj:A.testBit j=true:=by
   rw[hA,KG hx,← en]
   exact aP hn
  have:=q.sub j (by rw[Nat.testBit_and,a2 j hAj,hw];rfl)
  rw[hb] at this
  simp at this
theorem WD{cs:List Nat}{A w:Nat}(h:Et cs A w){d kn j D:Nat}(hd:d<2^20)(h2:Ba cs (AQ w) d=some kn)(hj:j<20)(hb:kn.testBit j=false)(hp:kn.testBit (Fs j)=false)(hD:AM D (d|||2^j))(hDW:AM D (AQ w))(hDj:D.testBit j=true):AW D ∉ cs:=by
 intro hmem
 have hD20:=EF hDW (CI w).top
 obtain⟨q,qw⟩:=En h hd h2
 obtain⟨q1,q2⟩:=q.cl (AW D) (E7.2 ⟨hmem,JJ (CI w) hDW⟩)
 have e:Av (AW D) kn=2^Fs j:=by
  apply Nat.eq_of_testBit_eq
  intro i
  rw[Kn,Nat.testBit_two_pow]
  by_cases ei:Fs j=i
  ·subst ei
   rw[Dt,hDj,hb,decide_eq_true (Hk hj),decide_eq_true rfl];rfl
  ·rw[decide_eq_false ei]
   by_cases hi:i<20
   ·rw[decide_eq_true hi,Bool.true_and]
    cases hDi:D.testBit (Fs i) with
    | false=>rfl
    | true =>
     have:=hD _ hDi
     rw[Nat.testBit_or,Bool.or_eq_true,Nat.testBit_two_pow] at this
     rcases this with z | z
     ·have:=q.sub (Fs i) (by rw[Nat.testBit_and,z,hDW _ hDi];rfl)
      rw[this];rfl
     ·have z':j=Fs i:=by simpa using z
      rw[z',Dt] at ei
      exact absurd rfl ei
   ·rw[decide_eq_false hi];rfl
 have:=q2 ((Fj _ q1).2 ⟨_,e⟩) (Fs j) (by rw[e,Nat.testBit_two_pow];simp)
 rw[hp] at this
 simp at this
theorem MS{cs:List Nat}{c W:Nat}(h:AM c W):OT (cs++[c]) W=OT cs W++[c]:=by
 unfold OT
 rw[List.filter_append]
 congr 1
 simp[h.eq_and]
theorem Th{cs:List Nat}{A w:Nat}(h:Et cs A w){k d kn j D:Nat}(h1:Bp cs A w k=some d)(h2:Ba cs (AQ w) d=some kn)(hj:j<20)(hb:kn.testBit j=false)(hp:kn.testBit (Fs j)=false)(hD:AM D (d|||2^j))(hDW:AM D (AQ w))(hDj:D.testBit j=true)
  (hDd:∀ i d' kn',i<k→Bp cs A w i=some d'→Ba cs (AQ w) d'=some kn'→∃ j',j'<20∧kn'.testBit j'=false∧D.testBit j'=true∧∃ d1 kn1,Bp cs A w (i+1)=some d1∧Ba cs (AQ w) d1=some kn1∧kn1.testBit j'=true) :
  Et (cs++[AW D]) A w∧Gr cs A w 12<Gr (cs++[AW D]) A w 12:=by
 have hD20:=EF hDW (CI w).top
 have hoW:=JJ (CI w) hDW
 obtain⟨a1,_,_⟩:=CO h h1
 obtain⟨q,qw⟩:=En h a1 h2
 have hok:Et (cs++[AW D]) A w:=⟨fun c hc=>(List.mem_append.1 hc).elim (h.top c) (fun hc=>by rw[List.mem_singleton.1 hc];exact C6 D),fun c hc=>(List.mem_append.1 hc).elim (h.sep c) (fun hc=>.inl (by rw[List.mem_singleton.1 hc];exact hoW)),h.asm⟩
 have hsame:∀ i d',i<k→Bp cs A w i=some d'→Ba (cs++[AW D]) (AQ w) d'=Ba cs (AQ w) d':=by
  intro i d' hi hd'
  obtain⟨d1,hd1⟩:=IM h1 (by omega:i+1≤k)
  obtain⟨d0,kn',b1,b2,_,_⟩:=Bz hd1
  rw[hd'] at b1
  simp only[Option.some.injEq] at b1
  subst b1
  obtain⟨b0,_,_⟩:=CO h hd'
  obtain⟨q',qw'⟩:=En h b0 b2
  rw[b2]
  refine VL (Mo hok.top _) (Ff b0) ⟨q'.top,q'.sub,q'.twin,?_,fun K' hC hk=>q'.least K' (hC.sub fun c hc=>?_) hk⟩
  ·rw[MS hoW]
   intro c hc
   rcases List.mem_append.1 hc with hc | hc
   ·exact q'.cl c hc
   ·rw[List.mem_singleton.1 hc]
    obtain⟨j',c1,c2,c3,d1',kn1,c4,c5,c6⟩:=hDd i d' kn' hi hd' b2
    have hm:AM kn' kn:=(Ms h (j:=k - i) hd' b2 (by rw[show i+(k - i)=k by omega];exact h1) h2).1
    have hm1:AM kn1 kn:=(Ms h (j:=k - (i+1)) c4 c5 (by rw[show i+1+(k - (i+1))=k by omega];exact h1) h2).1
    have hb':kn'.testBit j=false:=by
     cases z:kn'.testBit j with
     | false=>rfl
     | true=>have:=hm j z;rw[hb] at this;exact this.symm
    have ne:j'≠j:=fun e=>by
     have:=hm1 j' c6
     rw[e,hb] at this
     simp at this
    have z1:(Av (AW D) kn').testBit (Fs j')=true:=by rw[Kn,Dt,c3,c2,decide_eq_true (Hk c1)];rfl
    have z2:(Av (AW D) kn').testBit (Fs j)=true:=by rw[Kn,Dt,hDj,hb',decide_eq_true (Hk hj)];rfl
    refine⟨fun e=>by rw[e] at z1;simp at z1,fun hs=>?_⟩
    exfalso
    obtain⟨x,hx⟩:=(Fj _ (fun e=>by rw[e] at z1;simp at z1)).1 hs
    rw[hx,Nat.testBit_two_pow] at z1 z2
    have y1:x=Fs j':=by simpa using z1
    have y2:x=Fs j:=by simpa using z2
    apply ne
    rw[← Dt j',← y1,y2,Dt]
  ·rw[MS hoW];exact List.mem_append_left _ hc
 refine⟨hok,?_⟩
 have hdk:Bp (cs++[AW D]) A w k=some d:=by rw[Gg hsame k (Nat.le_refl _)];exact h1
 have hk10:=(Kj h h1 h2)
 have hc10:=Hj w
 refine ZC h (k:=k) (fun i hi=>?_) ?_ 12 (by omega)
 ·unfold Uv
  rw[Gg hsame i (by omega)]
  cases hd':Bp cs A w i with
  | none=>rfl
  | some d'=>simp only;rw[hsame i d' hi hd']
 ·have e1:Uv cs A w k=1+AG kn:=by simp only[Uv,h1,h2]
  rw[e1]
  unfold Uv
  rw[hdk]
  simp only
  cases hk':Ba (cs++[AW D]) (AQ w) d with
  | none=>simp only;omega
  | some kn' =>
   simp only
   obtain⟨q',qw'⟩:=En hok a1 hk'
   have hsub:AM kn kn':=q.least _ (q'.cl.sub fun c hc=>by rw[MS hoW];exact List.mem_append_left _ hc) q'.sub
   obtain⟨p1,p2⟩:=q'.cl (AW D) (by rw[MS hoW];exact List.mem_append_right _ (List.mem_singleton.2 rfl))
   have hle:AM (Av (AW D) kn') (2^Fs j):=by
    intro i hi
    rw[Kn,Bool.and_eq_true,Bool.and_eq_true] at hi
    rw[Nat.testBit_two_pow]
    have:=hD _ hi.2.1
    rw[Nat.testBit_or,Bool.or_eq_true,Nat.testBit_two_pow] at this
    rcases this with z | z
    ·have:=hsub _ (q.sub (Fs i) (by rw[Nat.testBit_and,z,hDW _ hi.2.1];rfl))
     rw[this] at hi
     simp at hi
    ·have z':j=Fs i:=by simpa using z
     rw[z',Dt]
     simp
   have e:=Py hle p1
   have hpj:=p2 ((Fj _ p1).2 ⟨_,e⟩) (Fs j) (by rw[e,Nat.testBit_two_pow];simp)
   have:=Du hsub q'.top (fun e=>by rw[← e,hp] at hpj;simp at hpj)
   omega
theorem RV:∀ (l R:List Nat),l.Nodup→(∀ x∈l,x∈R)→l.length≤R.length:=by
 intro l
 induction l with
 | nil=>intro R _ _;simp
 | cons x l ih =>
  intro R hn hs
  obtain⟨h1,h2⟩:=List.nodup_cons.1 hn
  have hx:=hs x (List.mem_cons_self ..)
  have:=ih (R.erase x) h2 (fun y hy=>(List.mem_erase_of_ne (fun e=>h1 (by rw[← e];exact hy))).2 (hs y (List.mem_cons_of_mem _ hy)))
  rw[List.length_erase_of_mem hx] at this
  have hp:0<R.length:=List.length_pos_of_mem hx
  simp only[List.length_cons]
  omega
theorem dP{a b:Nat}(h:a&&&b=0):Da a+Da b≤Da (a|||b):=by
 refine TO 10 fun u _ _=>?_
 rw[Nat.testBit_or]
 cases ha:a.testBit u with
 | false=>simp
 | true=>rw[Cz.2 h u ha];simp
theorem Qi{w:Nat}:∀ (ws:List Nat),(∀ x∈ws,w&&&x=0)→w&&&ws.foldr (fun a b=>a|||b) 0=0:=by
 intro ws
 induction ws with
 | nil=>intro _;simp
 | cons x ws ih=>intro h;exact Ip (h x (List.mem_cons_self ..)) (ih fun y hy=>h y (List.mem_cons_of_mem _ hy))
theorem cz:∀ (ws:List Nat),ws.Pairwise (fun a b=>a&&&b=0)→(ws.map Da).sum≤Da (ws.foldr (fun a b=>a|||b) 0):=by
 intro ws
 induction ws with
 | nil=>intro _;simp
 | cons w ws ih =>
  intro h
  obtain⟨h1,h2⟩:=List.pairwise_cons.1 h
  have a:=ih h2
  have b:=dP (Qi ws h1)
  simp only[List.map_cons,List.sum_cons,List.foldr_cons]
  omega
theorem ba{ws:List Nat}(h:ws.Pairwise fun a b=>a&&&b=0):(ws.map Da).sum≤10:=Nat.le_trans (cz ws h) (Hj _)
structure QF(cs:List Nat)(A w k:Nat):Prop where
 ok:Et cs A w
 is:∃ d kn,Bp cs A w k=some d∧Ba cs (AQ w) d=some kn
def DG(cs:List Nat)(A:Nat)(T:List (Nat × Nat)):List Jy:=T.flatMap fun t=>Cd cs A t.1 (t.2+1)
theorem QF.reasons{cs:List Nat}{A w k:Nat}(h:QF cs A w k):∃ R:List Nat,(∀ c∈R,c∈cs)∧R.length≤Da w∧Eu R (Cd cs A w (k+1)):=by
 obtain⟨d,kn,h1,h2⟩:=h.is
 obtain⟨R,r1,r2,r3⟩:=Kz h.ok k h1 h2
 have:=(Kj h.ok h1 h2).2
 exact⟨R,fun c hc=>(E7.1 (r1 c hc)).1,by omega,r3⟩
theorem Eu.app{R:List Nat}{a b:List Jy}(h:Eu R a)(h':Eu R b):Eu R (a++b):=fun p hp=>(List.mem_append.1 hp).elim (h p) (h' p)
theorem P6{cs:List Nat}{A:Nat}:∀ (T:List (Nat × Nat)),(∀ t∈T,QF cs A t.1 t.2)→∃ R:List Nat,(∀ c∈R,c∈cs)∧R.length≤(T.map fun t=>Da t.1).sum∧Eu R (DG cs A T):=by
 intro T
 induction T with
 | nil=>intro _;exact⟨[],by simp,by simp,fun p hp=>by simp[DG] at hp⟩
 | cons t T ih =>
  intro h
  obtain⟨R,r1,r2,r3⟩:=ih fun x hx=>h x (List.mem_cons_of_mem _ hx)
  obtain⟨R',s1,s2,s3⟩:=(h t (List.mem_cons_self ..)).reasons
  refine⟨R'++R,fun c hc=>(List.mem_append.1 hc).elim (s1 c) (r1 c),by simp only[List.length_append,List.map_cons,List.sum_cons];omega,?_⟩
  simp only[DG,List.flatMap_cons]
  exact(s3.sub fun c hc=>List.mem_append_left _ hc).app (r3.sub fun c hc=>List.mem_append_right _ hc)
theorem Rp{cs cs' R:List Nat}{A w:Nat}(h:Et cs A w)(hno:Ab cs A=false)(hs:∀ c∈cs',c∈cs)(hR:∀ c∈R,c∈cs'){n:Nat}(hE:Eu R (Cd cs A w n)):DW cs' (Cd cs A w n)=true:=by
 unfold DW
 rw[List.all_eq_true]
 intro p hp
 have he:=hE p hp
 obtain⟨i,d,kn,_,h1,h2,rfl⟩:=Ks hp
 obtain⟨a1,a2,a3⟩:=CO h h1
 obtain⟨q,qw⟩:=En h a1 h2
 have hcl:Ab cs d=false:=by
  cases hb:Ab cs d with
  | false=>rfl
  | true=>rw[G7 h a1 a3 hno hb] at h2;simp at h2
 cases hp1:Bs cs d with
 | none=>rw[Cu.1 hp1] at hcl;simp at hcl
 | some K =>
  obtain⟨K',e,hK⟩:=Wv h.top a1 hs (AM.refl d) hp1
  have q':=ER (fun c hc=>h.top c (hs c hc)) a1 e
  have hl:=MU h.top (CI w) h.sep a1 hp1
  rw[h2] at hl
  simp only[Option.some.injEq] at hl
  have e1:K'&&&AQ w=kn:=by
   refine AM.anti ?_ ?_
   ·rw[hl];exact hK.mono _
   ·exact(he K' (q'.cl.sub hR) ((Ib _ _).trans q'.sub)).and qw
  simp only[Jw,e]
  simpa using e1
theorem NT{cs cs':List Nat}{A w:Nat}(h:Et cs A w)(hs:∀ c∈cs',c∈cs){n:Nat}(hr:DW cs' (Cd cs A w n)=true):∀ j d kn,j<n→Bp cs A w j=some d→Ba cs (AQ w) d=some kn→Ba cs' (AQ w) d=some kn:=by
 intro j d kn hj h1 h2
 unfold DW at hr
 have hp:=(List.all_eq_true.1 hr) ⟨d,w,kn⟩ (Ky h1 h2 hj)
 have e:Jw cs' d&&&AQ w=kn:=by simpa using hp
 obtain⟨a1,_,_⟩:=CO h h1
 have h':=h.sub hs
 cases hpu:Bs cs' d with
 | some K' =>
  rw[MU h'.top (CI w) h'.sep a1 hpu]
  simp only[Jw,hpu] at e
  rw[e]
 | none =>
  simp only[Jw,hpu,Nat.zero_and] at e
  have q:=(En h a1 h2).1
  obtain⟨K',e',hK⟩:=Pn (cs:=OT cs' (AQ w)) (q.cl.sub fun c hc=>E7.2 ⟨hs c (E7.1 hc).1,(E7.1 hc).2⟩) q.twin q.sub
  have:K'=0:=AM.anti (by rw[e];exact hK) (fun i z=>by rw[Nat.zero_testBit] at z;simp at z)
  show Bs _ _=_
  rw[e',this,e]
theorem Ro(cs:List Nat)(a b:List Jy):DW cs (a++b)=(DW cs a && DW cs b):=by simp[DW]
theorem QF.keep{cs cs':List Nat}{A w k:Nat}(h:QF cs A w k)(hs:∀ c∈cs',c∈cs)(hr:DW cs' (Cd cs A w (k+1))=true):QF cs' A w k∧Cd cs' A w (k+1)=Cd cs A w (k+1):=by
 obtain⟨d,kn,h1,h2⟩:=h.is
 have hl:=NT h.ok hs hr
 have hsame:∀ j d',j<k+1→Bp cs A w j=some d'→Ba cs' (AQ w) d'=Ba cs (AQ w) d':=by
  intro j d' hj hd'
  have:∃ kn',Ba cs (AQ w) d'=some kn':=by
   by_cases e:j=k
   ·subst e
    rw[h1] at hd'
    simp only[Option.some.injEq] at hd'
    subst hd'
    exact⟨kn,h2⟩
   ·obtain⟨d1,hd1⟩:=IM h1 (by omega:j+1≤k)
    obtain⟨d0,kn',b1,b2,_,_⟩:=Bz hd1
    rw[hd'] at b1
    simp only[Option.some.injEq] at b1
    subst b1
    exact⟨kn',b2⟩
  obtain⟨kn',hk'⟩:=this
  rw[hk',hl j d' kn' hj hd' hk']
 refine⟨⟨h.ok.sub hs,d,kn,?_,hl k d kn (by omega) h1 h2⟩,Oh hsame (k+1) (Nat.le_refl _)⟩
 rw[Gg hsame k (by omega)]
 exact h1
theorem XI{cs cs':List Nat}{A:Nat}(hs:∀ c∈cs',c∈cs):∀ (T:List (Nat × Nat)),(∀ t∈T,QF cs A t.1 t.2)→DW cs' (DG cs A T)=true→(∀ t∈T,QF cs' A t.1 t.2)∧DG cs' A T=DG cs A T:=by
 intro T
 induction T with
 | nil=>intro _ _;exact⟨fun t ht=>by simp at ht,rfl⟩
 | cons t T ih =>
  intro h hr
  simp only[DG,List.flatMap_cons,Ro,Bool.and_eq_true] at hr
  obtain⟨a1,a2⟩:=ih (fun x hx=>h x (List.mem_cons_of_mem _ hx)) hr.2
  obtain⟨b1,b2⟩:=(h t (List.mem_cons_self ..)).keep hs hr.1
  refine⟨fun x hx=>?_,?_⟩
  ·rcases List.mem_cons.1 hx with rfl | hx
   ·exact b1
   ·exact a1 x hx
  ·simp only[DG,List.flatMap_cons] at a2 ⊢
   rw[b2,a2]
theorem Oa(E:Sg)(s:Sr)(dec:Nat):∀ (cs:List Nat) (m:Nat),(DC E s dec cs m=m∧∀ c∈cs,AG c≤AG m∨G6 E s c dec=false)∨(DC E s dec cs m∈cs∧G6 E s (DC E s dec cs m) dec=true):=by
 intro cs
 induction cs with
 | nil=>intro m;exact .inl ⟨rfl,fun c hc=>by simp at hc⟩
 | cons c cs ih =>
  intro m
  simp only[DC]
  by_cases h1:AG c≤AG m
  ·rw[if_pos h1]
   rcases ih m with⟨a,b⟩ | ⟨a,b⟩
   ·refine .inl ⟨a,fun x hx=>?_⟩
    rcases List.mem_cons.1 hx with rfl | hx
    ·exact .inl h1
    ·exact b x hx
   ·exact .inr ⟨List.mem_cons_of_mem _ a,b⟩
  ·rw[if_neg h1]
   cases hi:G6 E s c dec with
   | true =>
    rw[if_pos rfl]
    rcases ih c with⟨a,b⟩ | ⟨a,b⟩
    ·rw[a];exact .inr ⟨List.mem_cons_self ..,hi⟩
    ·exact .inr ⟨List.mem_cons_of_mem _ a,b⟩
   | false =>
    simp only[Bool.false_eq_true,if_false]
    rcases ih m with⟨a,b⟩ | ⟨a,b⟩
    ·refine .inl ⟨a,fun x hx=>?_⟩
     rcases List.mem_cons.1 hx with rfl | hx
     ·exact .inr hi
     ·exact b x hx
    ·exact .inr ⟨List.mem_cons_of_mem _ a,b⟩
theorem U3{E:Sg}{s:Sr}{w k dec:Nat}{T:List (Nat × Nat)}(hn:s.lr.Nodup)(hl:10<s.lr.length)(hok:Et (E.hv++s.lr) E.as w)(hT:∀ t∈T,QF (E.hv++s.lr) E.as t.1 t.2)(hdone:s.done=DG (E.hv++s.lr) E.as T)(hdec:Bp (E.hv++s.lr) E.as w (k+1)=some dec)(hpath:s.path=Cd (E.hv++s.lr) E.as w (k+1))(hcl:Ab (E.hv++s.lr) dec=true)(hno:Ab (E.hv++s.lr) E.as=false)(hdis:((T.map fun t=>t.1)++[w]).Pairwise fun a b=>a&&&b=0) :
  ∃ c∈s.lr,G6 E s c dec=true:=by
 generalize hcs:E.hv++s.lr=cs at *
 obtain⟨d,kn,h1,h2,h3,ed⟩:=Bz hdec
 obtain⟨a1,_,_⟩:=CO hok h1
 obtain⟨c1,_,c3⟩:=CO hok hdec
 obtain⟨q,qw⟩:=En hok a1 h2
 obtain⟨j,ej,hj,_,hjw,hb,hp⟩:=Gn q.top h3
 rw[ej] at ed
 obtain⟨R0,r1,r2,r3⟩:=P6 T hT
 obtain⟨R1,s1,s2,s3⟩:=Kz hok k h1 h2
 have hlc:=Cu.1 (G7 hok c1 c3 hno hcl)
 have hk0:AM (dec&&&AQ w) (kn|||2^j):=by
  intro x hx
  rw[Nat.testBit_and,Bool.and_eq_true,ed,Nat.testBit_or,Bool.or_eq_true] at hx
  rw[Nat.testBit_or,Bool.or_eq_true]
  rcases hx with⟨hx | hx,hw'⟩
  ·exact .inl (q.sub x (by rw[Nat.testBit_and,hx,hw'];rfl))
  ·exact .inr hx
 have hk0t:=Nat.or_lt_two_pow q.top (ZD hj)
 obtain⟨R2,t1,t2,t3⟩:=Nw (CI w) (m:=Da w) (fun k hk ht=>MY hk ht) (fun c hc=>(E7.1 hc).2) _ (kn|||2^j) (Nat.le_refl _) (Dv qw hjw) (Nf q.twin hp) (Dc (Mo hok.top _) hk0t (fun c hc=>hc) hk0 hlc)
 have hsz:=IA hj q.top hb
 have hsum:=ba hdis
 rw[List.map_append,List.sum_append,List.map_map] at hsum
 simp only[List.map_cons,List.map_nil,List.sum_cons,List.sum_nil] at hsum
 have hT':(T.map fun t=>Da t.1).sum=(T.map (Da ∘ fun t=>t.1)).sum:=rfl
 have hlen:(R0++(R1++R2)).length≤10:=by
  simp only[List.length_append]
  omega
 have hex:∃ c∈s.lr,c ∉ R0++(R1++R2):=by
  apply Classical.byContradiction
  intro hne
  have:=RV s.lr (R0++(R1++R2)) hn (fun x hx=>by
   apply Classical.byContradiction
   intro hx'
   exact hne ⟨x,hx,hx'⟩)
  omega
 obtain⟨c,hc,hcR⟩:=hex
 refine⟨c,hc,?_⟩
 have hin:∀ x∈R0++(R1++R2),x∈cs:=fun x hx=>by
  rcases List.mem_append.1 hx with hx | hx
  ·exact r1 x hx
  ·rcases List.mem_append.1 hx with hx | hx
   ·exact(E7.1 (s1 x hx)).1
   ·exact(E7.1 (t1 x hx)).1
 have hR:∀ x∈R0++(R1++R2),x∈E.hv++s.lr.erase c:=fun x hx=>by
  have hne:x≠c:=fun e=>hcR (by rw[← e];exact hx)
  have:=hin x hx
  rw[← hcs] at this
  rcases List.mem_append.1 this with q | q
  ·exact List.mem_append_left _ q
  ·exact List.mem_append_right _ ((List.mem_erase_of_ne hne).2 q)
 have hsub:∀ x∈E.hv++s.lr.erase c,x∈cs:=fun x hx=>by
  rw[← hcs]
  rcases List.mem_append.1 hx with q | q
  ·exact List.mem_append_left _ q
  ·exact List.mem_append_right _ (List.mem_of_mem_erase q)
 have E1:Eu (R0++(R1++R2)) (Cd cs E.as w (k+1)):=s3.sub fun x hx=>List.mem_append_right _ (List.mem_append_left _ hx)
 unfold G6
 rw[Bool.and_eq_true,Bool.and_eq_true]
 refine⟨⟨?_,?_⟩,?_⟩
 ·cases hbb:Ab (E.hv++s.lr.erase c) dec with
  | true=>rfl
  | false =>
   exfalso
   obtain⟨K,_,b2,b3,b4⟩:=Db _ (fun x hx=>hok.top x (hsub x hx)) dec c1 hbb
   have hkn:=E1 ⟨d,w,kn⟩ (Ky h1 h2 (by omega)) K (b4.sub hR) (by
    refine AM.trans (Ib _ _) (AM.trans ?_ b2)
    rw[ed];exact AM.or_left _ _)
   have:=Dd (cs:=R2) (b4.sub fun x hx=>hR x (List.mem_append_right _ (List.mem_append_right _ hx))) b3 (Dv hkn (b2 j (by rw[ed];exact IV d j)))
   rw[this] at t3
   simp at t3
 ·rw[hpath]
  exact Rp hok hno hsub hR E1
 ·rw[hdone]
  have E0:Eu (R0++(R1++R2)) (DG cs E.as T):=r3.sub fun x hx=>List.mem_append_left _ hx
  clear hdone r3 hdis hsum hT' r2
  generalize R0++(R1++R2)=R at *
  induction T with
  | nil=>rfl
  | cons t T ih =>
   simp only[DG,List.flatMap_cons] at E0 ⊢
   rw[Ro,Bool.and_eq_true]
   refine⟨Rp (hT t (List.mem_cons_self ..)).ok hno hsub hR (fun p hp=>E0 p (List.mem_append_left _ hp)),ih (fun x hx=>hT x (List.mem_cons_of_mem _ hx)) (fun p hp=>E0 p (List.mem_append_right _ hp))⟩
theorem X7{cs cs':List Nat}{A w k dec:Nat}(h:Et cs A w)(hs:∀ c∈cs',c∈cs)(hk:Bp cs A w (k+1)=some dec)(hno:Ab cs A=false)(hcl':Ab cs' dec=true)(hr:DW cs' (Cd cs A w (k+1))=true):Bp cs' A w (k+1)=some dec∧Gr cs' A w 12=Gr cs A w 12∧Cd cs' A w (k+1)=Cd cs A w (k+1)∧∀ i d kn,i≤k→Bp cs A w i=some d→Ba cs (AQ w) d=some kn→Ba cs' (AQ w) d=some kn:=by
 obtain⟨d,kn,h1,h2,h3,ed⟩:=Bz hk
 obtain⟨t1,t2⟩:=(QF.mk h ⟨d,kn,h1,h2⟩).keep hs hr
 have hl:=NT h hs hr
 have hsame:∀ j d',j<k+1→Bp cs A w j=some d'→Ba cs' (AQ w) d'=Ba cs (AQ w) d':=by
  intro j d' hj hd'
  obtain⟨d1,hd1⟩:=IM hk (by omega:j+1≤k+1)
  obtain⟨d0,kn',b1,b2,_,_⟩:=Bz hd1
  rw[hd'] at b1
  simp only[Option.some.injEq] at b1
  subst b1
  rw[b2,hl j d' kn' hj hd' b2]
 have hdk:=Gg hsame (k+1) (Nat.le_refl _)
 rw[hk] at hdk
 refine⟨hdk,?_,t2,fun i d' kn' hi a b=>hl i d' kn' (by omega) a b⟩
 have h':=h.sub hs
 obtain⟨c1,_,c3⟩:=CO h hk
 have hno':=Gf h.top h.asm hs (AM.refl A) hno
 have hcl:=Dc h.top c1 hs (AM.refl dec) hcl'
 have n1:=G7 h c1 c3 hno hcl
 have n2:=G7 h' c1 c3 hno' hcl'
 refine Rh 12 fun i _=>?_
 unfold Uv
 by_cases hi:i≤k
 ·rw[Gg hsame i (by omega)]
  cases hd':Bp cs A w i with
  | none=>rfl
  | some d'=>simp only;rw[hsame i d' (by omega) hd']
 ·by_cases e:i=k+1
  ·subst e
   rw[hk,hdk]
   simp only
   rw[n1,n2]
  ·have z:∀ (cs:List Nat),Bp cs A w (k+1)=some dec→Ba cs (AQ w) dec=none→Bp cs A w i=none:=by
    intro cs hd hn
    cases hz:Bp cs A w i with
    | none=>rfl
    | some x =>
     obtain⟨d1,hd1⟩:=IM hz (by omega:k+1+1≤i)
     obtain⟨d0,kn',b1,b2,_,_⟩:=Bz hd1
     rw[hd] at b1
     simp only[Option.some.injEq] at b1
     subst b1
     rw[hn] at b2
     simp at b2
   rw[z cs hk n1,z cs' hdk n2]
def bA(l:List UInt8):ByteArray:=⟨l.toArray⟩
theorem cB(l:List UInt8):bs (bA l)=l:=by simp[bs,bA]
theorem Up(l:List UInt8):(bA l).size=l.length:=Dl l
def Ad(cs:List Nat):Nat:=(cs.map AG).sum
theorem FW(cs:List Nat)(c:Nat):Ad (cs++[c])=Ad cs+AG c:=by simp[Ad]
def Tk.takes?(k:Tk):Bool:=match k with | .takes=>true | _=>false
structure Vw where
 r:Int
 h:Int
 l:Int
 hv:List Nat
 seen:Nat
 lr:List Nat
 log:Nat
 unsat:Nat
 pf:List UInt8
structure dN(v:Vw):Prop where
 hvt:∀ c∈v.hv,c<1048576
 lrt:∀ c∈v.lr,c<1048576
 seen:v.seen<1048576
 lits:Ad v.hv≤150
 held:Ad v.lr≤1048576
 log:v.log≤1048576
 unsat:v.unsat≤1048576
 lrl:v.lr.length≤1048576
 pfl:v.pf.length≤4194304
def Vw.none(r h l:Int):Vw:=⟨r,h,l,[],0,[],0,0,[]⟩
def Vw.add(v:Vw)(xs:List Int):Vw:=if (Aw xs (Ad v.hv)).takes? then { v with hv:=v.hv++[Ah xs],seen:=v.seen|||An (Ah xs) } else v
def Vw.se(v:Vw)(st:Nat):SE:=⟨0,0,0,v.r,v.h,v.l,.slice .none 0 0,.none,0,v.hv,Ad v.hv,v.seen,.none,0,v.lr,Ad v.lr,v.log,v.unsat,bA v.pf,st⟩
structure KT(v:Vw)(xs:List Int)(b:Int)(v':Vw)(x:Fe)(ls:List FO)(st:Nat):Prop where
 r:v'.r=v.r
 h:v'.h=v.h
 l:v'.l=v.l
 hv:v'.hv=v.hv
 seen:v'.seen=v.seen|||An (AJ xs)
 pf:v'.pf=v.pf++BY ls
 ok:EO v.r v.h v.l v.hv ⟨v.lr,Ad v.lr,v.log,0⟩ ls
 to:Ag ⟨v.lr,Ad v.lr,v.log,0⟩ ls=⟨v'.lr,Ad v'.lr,v'.log,st⟩
 bud:(b == 0 || decide ((st:Int)≤b))=true
 len:x.vs.length≤1000∧x.co.length≤1000∧x.cl.length≤1000∧(Dp ls).length≤1000
 how:(x.st=1∧Cb ls=false∧v'.unsat=v.unsat∧∃ u,QG v.hv v'.seen (AJ xs) x u)∨(x.st=2∧Cb ls=true∧v'.unsat=v.unsat+1∧MH v.hv x xs (Dp ls))∨(x.st=3∧Cb ls=false∧v'.unsat=v.unsat∧FP (v'.se st) x b)
structure Bf(w:World)(B:Nat)(x:Fe)(p:A3):Prop where
 vs:w.ownsRow B 3 1 (.slice p.a1 x.vs.length p.c1) x.vs.length (AO x.vs)
 co:w.ownsRow B 3 1 (.slice p.a2 x.co.length p.c2) x.co.length (AO x.co)
 cl:w.ownsRow B 3 1 (.slice p.a3 x.cl.length p.c3) x.cl.length (AO x.cl)
 p12:Af (.slice p.a1 x.vs.length p.c1) (.slice p.a2 x.co.length p.c2)
 p13:Af (.slice p.a1 x.vs.length p.c1) (.slice p.a3 x.cl.length p.c3)
 p23:Af (.slice p.a2 x.co.length p.c2) (.slice p.a3 x.cl.length p.c3)
def A3.At(p:A3)(b:Nat):Prop:=(Value.slice p.a1 0 p.c1).ownBlock=some b∨(Value.slice p.a2 0 p.c2).ownBlock=some b∨(Value.slice p.a3 0 p.c3).ownBlock=some b
def Fg:Fe:=⟨0,0,[],[],[]⟩
def Jz:A3:=⟨none,none,none,0,0,0⟩
def Z9{S:Type}(At:World→Nat→S→(Nat→Prop)→Prop)(F:Nat→Prop)(w w':World)(g:Nat)(s:S)(Q:(Nat→Prop)→Prop):Prop :=
 ∃ F',At w' g s F'∧CM F w w'∧(∀ b,F' b→F b∨w.heap.size≤b)∧Q F'
structure DH where
 S:Type
 vw:S→Vw
 Ok:S→Prop
 At:World→Nat→S→(Nat→Prop)→Prop
 frame:∀ {w w':World} {g:Nat} {s:S} {F:Nat→Prop},At w g s F→(∀ b,F b→w'.heap[b]?=w.heap[b]?)→At w' g s F
 lt:∀ {w:World} {g:Nat} {s:S} {F:Nat→Prop},At w g s F→∀ b,F b→b<w.heap.size
 bd:∀ {s:S},Ok s→dN (vw s)
 new:Int→Int→Int→S
 newV:∀ r h l,BT r h l=true→Ok (new r h l)∧vw (new r h l)=Vw.none r h l
 newC:∀ (r h l:Int) (w:World),Calls Tryz.prog 49 #[.agg #[.int .i64 r,.int .i64 h,.int .i64 l]] w fun e w'=>Below w.heap.size w w'∧if BT r h l then ∃ g F,e=.returned (.tuple #[.pointer (some ⟨g,0,none⟩),.int .i64 0])∧At w' g (new r h l) F∧∀ b,F b→w.heap.size≤b else e=.returned (.tuple #[.pointer none,.int .i64 1])
 add:S→List Int→S
 addV:∀ s xs,Ok s→Ok (add s xs)∧vw (add s xs)=(vw s).add xs
 addC:∀ {w:World} {g:Nat} {s:S} {F:Nat→Prop} (a:Option Addr) (c:Nat) (xs:List Int),At w g s F→Ok s→AS w a xs→(∀ ad,a=some ad→¬ F ad.block)→xs.length≤100000→(vw s).hv.length≤1000000 →
  Calls Tryz.prog 30 #[.pointer (some ⟨g,0,none⟩),.slice a xs.length c] w fun e w'=>e=.returned (.int .i64 (OQ (Aw xs (Ad (vw s).hv))))∧Z9 At F w w' g (add s xs) fun _=>True
 countsC:∀ {w:World} {g:Nat} {s:S} {F:Nat→Prop},At w g s F→Ok s→(vw s).hv.length≤1000000 →
  Calls Tryz.prog 37 #[.pointer (some ⟨g,0,none⟩)] w fun e w'=>e=.returned (.agg #[.int .i64 (AG (vw s).seen:Nat),.int .i64 ((vw s).hv.length:Nat),.int .i64 (Ad (vw s).hv:Nat),.int .i64 ((vw s).lr.length:Nat),.int .i64 (Ad (vw s).lr:Nat),.int .i64 ((vw s).log:Nat),.int .i64 ((vw s).unsat:Nat)])∧Below w.heap.size w w'
 proofC:∀ {w:World} {g:Nat} {s:S} {F:Nat→Prop},At w g s F→Ok s→Calls Tryz.prog 38 #[.pointer (some ⟨g,0,none⟩)] w fun e w'=>e=.returned (.string (bA (vw s).pf))∧Below w.heap.size w w'
 rst:S→S
 rstV:∀ s,Ok s→Ok (rst s)∧vw (rst s)=Vw.none (vw s).r (vw s).h (vw s).l
 rstC:∀ {w:World} {g:Nat} {s:S} {F:Nat→Prop},At w g s F→Ok s→Calls Tryz.prog 36 #[.pointer (some ⟨g,0,none⟩)] w fun e w'=>e=.returned (.tuple #[])∧Z9 At F w w' g (rst s) fun _=>True
 slv:S→List Int→Int→S
 ans:S→List Int→Int→Fe
 slvN:∀ s xs b,A9 xs b≠0→slv s xs b=s∧ans s xs b=Fg
 slvV:∀ s xs b,Ok s→A9 xs b=0→Ok (slv s xs b)∧∃ ls st,KT (vw s) xs b (vw (slv s xs b)) (ans s xs b) ls st
 slvC:∀ {w:World} {g:Nat} {s:S} {F:Nat→Prop} (a:Option Addr) (c:Nat) (xs:List Int) (b:Int),At w g s F→Ok s→Fx w→0<w.heap.size→¬ F 0→AS w a xs→(∀ ad,a=some ad→¬ F ad.block∧ad.block<w.heap.size)→xs.length≤100000→(vw s).hv.length≤1000000 →
  Calls Tryz.prog 39 #[.pointer (some ⟨g,0,none⟩),.slice a xs.length c,.int .i64 b] w fun e w'=>∃ p:A3,e=.returned (.tuple #[.agg #[.int .i64 (ans s xs b).st,.int .i64 (ans s xs b).re,.slice p.a1 (ans s xs b).vs.length p.c1,.slice p.a2 (ans s xs b).co.length p.c2,.slice p.a3 (ans s xs b).cl.length p.c3],.int .i64 (A9 xs b)]) ∧
   Bf w' w.heap.size (ans s xs b) p∧(A9 xs b≠0→p=Jz)∧Z9 At F w w' g (slv s xs b) fun F'=>∀ k,p.At k→¬ F' k
theorem DH.below(P:DH){w w':World}{g:Nat}{s:P.S}{F:Nat→Prop}(h:P.At w g s F)(hb:Below w.heap.size w w'):P.At w' g s F:=P.frame h (fun b hq=>hb.block b (P.lt h b hq))
end Go.Proofs.YthboeppmlhbofaaGreatDoor
