import Derived.Test.YthboeppmlhbofaaGreatDoorHai
namespace Go.Proofs.YthboeppmlhbofaaGreatDoor
open Go.RowKit Txt
set_option maxRecDepth 100000
structure aK(hv:List Nat)(A w kn:Nat):Prop where
 sub:AM kn (AQ w)
 twin:BN kn=false
 all:∀ u,1≤u→u<11→w.testBit u=true→(vN kn).testBit u=true
 asm:AM (A&&&AQ w) kn
 so:∀ c∈hv,c<2^20→AM c (AQ w)→c&&&kn≠0
theorem cP{w K:Nat}(hK:K<2^20):w&&&vN (K&&&AQ w)=w&&&vN K:=by
 apply Nat.eq_of_testBit_eq
 intro u
 rw[Nat.testBit_and,Nat.testBit_and]
 cases hw:w.testBit u with
 | false=>rfl
 | true =>
  simp only[Bool.true_and]
  rw[Bool.eq_iff_iff]
  constructor
  ·intro h
   obtain⟨_,_,i,e,hi⟩:=Jx (Ff hK) h
   rw[Nat.testBit_and,Bool.and_eq_true] at hi
   rw[← e]
   exact Hf hK hi.1
  ·intro h
   obtain⟨_,_,i,e,hi⟩:=Jx hK h
   rw[← e]
   refine Hf (Ff hK) ?_
   rw[Nat.testBit_and,hi,BM,decide_eq_true (Bl hK hi),e,hw]
   rfl
theorem NH{w K:Nat}(hK:K<2^20):Dg w (K&&&AQ w)=Dg w K:=by
 unfold Dg
 rw[cP hK]
theorem eA{cs hv:List Nat}{A w dec K:Nat}(hs:∀ c∈hv,c∈cs)(q:O8 cs dec K)(hA:AM A dec)(hn:Dg w K=0):aK hv A w (K&&&AQ w):=by
 have hall:∀ u,1≤u→u<11→w.testBit u=true→(vN (K&&&AQ w)).testBit u=true:=fun u h1 h2 hw=>by
  have:=Yz (kn:=K&&&AQ w) (by rw[NH q.top];exact hn) u h1 h2 hw
  exact this
 refine⟨FJ _ _,(Ib K (AQ w)).twin q.twin,hall,(hA.trans q.sub).mono _,fun c hc hc20 hcw e=>?_⟩
 obtain⟨q1,_⟩:=q.cl c (hs c hc)
 apply q1
 apply Nat.eq_of_testBit_eq
 intro i
 rw[Nat.zero_testBit,EZ]
 cases hi:c.testBit i with
 | false=>rfl
 | true =>
  have hi20:=Bl hc20 hi
  have hiw:=hcw i hi
  have hKi:K.testBit i=false:=by
   have:=Cz.2 e i hi
   rw[Nat.testBit_and,hiw,Bool.and_true] at this
   exact this
  have hw:w.testBit (i / 2+1)=true:=by
   rw[BM,Bool.and_eq_true] at hiw
   exact hiw.2
  obtain⟨_,_,x,ex,hx⟩:=Jx (Ff q.top) (hall (i / 2+1) (by omega) (by omega) hw)
  rw[Nat.testBit_and,Bool.and_eq_true] at hx
  have hxp:x=i∨x=Fs i:=by
   unfold Fs
   split <;> omega
  rcases hxp with rfl|rfl
  ·rw[hKi] at hx;simp at hx
  ·rw[CQ _ hi20,hx.1];rfl
theorem Uu{cs:List Nat}{A w:Nat}(h:Et cs A w){i d:Nat}(hd:Bp cs A w i=some d):i≤10:=by
 cases i with
 | zero=>omega
 | succ i =>
  obtain⟨d0,kn,a1,a2,a3,_⟩:=Bz hd
  obtain⟨b1,_,_⟩:=CO h a1
  obtain⟨q,qw⟩:=En h b1 a2
  obtain⟨j,_,hj,_,hw,hb,hp⟩:=Gn q.top a3
  have h1:=(Kj h a1 a2).1
  have h2:=IA hj q.top hb
  have h3:=MY (Dv qw hw) (Nf q.twin hp)
  have:=Hj w
  omega
def cM(X:Cx)(T:List (Nat × Nat))(w:Nat)(vals:Nat):Rs→Prop
 | .fin s x=>Xc X s x
 | .go s=>SI X s∧s.path=[]∧(∃ k,(∀ t∈T++[(w,k)],QF (X.E.hv++s.lr) X.E.as t.1 t.2)∧s.done=DG (X.E.hv++s.lr) X.E.as (T++[(w,k)]))∧∃ kn,s.vals=vals|||kn∧aK X.E.hv X.E.as w kn
theorem bS{X:Cx}(hX:Il X){T:List (Nat × Nat)}{w:Nat}(hW:Xf X T w):∀ (n i dec:Nat) (s:Sr),Hd X T w i dec s→(13^12 - Gr (X.E.hv++s.lr) X.E.as w 12)*12+(11 - i)<n→∃ R,FN X.E w n dec s=some R∧cM X T w s.vals R:=by
 intro n
 induction n with
 | zero=>intro i dec s _ hm;omega
 | succ n ih =>
  intro i dec s h hm
  have hok:=h.si.csok hX hW.me
  have hi10:=Uu hok h.dec
  obtain⟨d20,dsub,dA⟩:=CO hok h.dec
  have hpl:=ZB hok 12
  simp only[FN]
  cases hp:Bs (X.E.hv++s.lr) dec with
  | none =>
   simp only
   have hcl:=Cu.1 hp
   by_cases hde:dec=X.E.as
   ·rw[if_pos hde]
    rw[hde] at hcl
    obtain⟨s',x,e,hf⟩:=cR hX h.si hcl
    exact⟨_,rfl,by rw[e];exact hf⟩
   ·rw[if_neg hde]
    cases i with
    | zero =>
     exfalso
     apply hde
     have:=h.dec
     simp only[Bp,Option.some.injEq] at this
     exact this.symm
    | succ k =>
     rcases ZK hX hW h hcl with⟨s',x,e,hs',hu⟩ | ⟨s',e,hH,hv,hpot⟩
     ·rw[e]
      exact⟨_,rfl,.inl ⟨hs',hu⟩⟩
     ·rw[e]
      simp only
      have hok':=hH.si.csok hX hW.me
      have hpl':=ZB hok' 12
      change Gr (X.E.hv++s'.lr) X.E.as w 12<13^12 at hpl'
      obtain⟨R,e',hR⟩:=ih 0 X.E.as { s' with path:=[] } hH (by
       show(13^12 - Gr (X.E.hv++s'.lr) X.E.as w 12)*12+(11 - 0)<n
       generalize 13^12=P at *
       omega)
      refine⟨R,e',?_⟩
      have hv':({ s' with path:=[] }:Sr).vals=s.vals:=hv
      rw[hv'] at hR
      exact hR
  | some K =>
   simp only
   have q:=ER hok.top d20 hp
   have hl:=MU hok.top (CI w) hok.sep d20 hp
   have hno:Ab (X.E.hv++s.lr) X.E.as=false:=by
    refine Gf hok.top d20 (fun c hc=>hc) dsub ?_
    cases hb:Ab (X.E.hv++s.lr) dec with
    | false=>rfl
    | true=>rw[Cu.2 hb] at hp;simp at hp
   have hpath:s.path++[⟨dec,w,K&&&AQ w⟩]=Cd (X.E.hv++s.lr) X.E.as w (i+1):=by
    simp only[Cd,h.dec,hl]
    rw[h.path]
   by_cases hn:Dg w K=0
   ·rw[if_pos hn]
    refine⟨_,rfl,h.si.path _ _ _,rfl,⟨i,fun t ht=>?_,?_⟩,K&&&AQ w,rfl,eA (fun c hc=>List.mem_append_left _ hc) q dsub hn⟩
    ·rcases List.mem_append.1 ht with ht | ht
     ·exact h.trk t ht
     ·rw[List.mem_singleton.1 ht]
      exact⟨hok,dec,_,h.dec,hl⟩
    ·show s.done++(s.path++[⟨dec,w,K&&&AQ w⟩])=_
     rw[hpath,h.done]
     simp[DG]
   ·rw[if_neg hn]
    have hn':Dg w (K&&&AQ w)≠0:=by rw[NH q.top];exact hn
    refine ih (i+1) _ { s with path:=s.path++[⟨dec,w,K&&&AQ w⟩] } ⟨h.si.path _ s.done s.vals,h.trk,h.done,?_,hpath,fun _=>hno⟩ ?_
    ·show Bp (X.E.hv++s.lr) X.E.as w (i+1)=_
     simp only[Bp,h.dec,hl]
     rw[if_neg hn',NH q.top]
    ·show(13^12 - Gr (X.E.hv++s.lr) X.E.as w 12)*12+(11 - (i+1))<n
     generalize 13^12=P at *
     omega
def Jv:Nat:=13^12*12+12
structure bx(X:Cx)(T:List (Nat × Nat))(s:Sr):Prop where
 si:SI X s
 path:s.path=[]
 trk:∀ t∈T,QF (X.E.hv++s.lr) X.E.as t.1 t.2
 done:s.done=DG (X.E.hv++s.lr) X.E.as T
 vals:AM s.vals (AQ X.sn)∧BN s.vals=false∧∀ i,s.vals.testBit i=true→∃ t∈T,(AQ t.1).testBit i=true
 fin:∀ t∈T,∃ kn,AM kn s.vals∧aK X.E.hv X.E.as t.1 kn
theorem WQ{a b:Nat}(h:AM a b):AM (AQ a) (AQ b):=fun i hi=>by
 rw[BM,Bool.and_eq_true] at hi
 rw[BM,hi.1,h _ hi.2];rfl
theorem cD{X:Cx}(hX:Il X):∀ (ws:List Nat) (T:List (Nat × Nat)) (s:Sr),bx X T s→(∀ w∈ws,w=0∨w∈X.ws)→(∀ t∈T,t.1=0∨t.1∈X.ws)→((T.map fun t=>t.1)++ws).Pairwise (fun a b=>a&&&b=0) →
  ∃ R,ME X.E Jv ws s=some R∧match R with
   | .fin s x=>Xc X s x
   | .go s'=>∃ T',bx X T' s'∧(T'.map fun t=>t.1)=(T.map fun t=>t.1)++ws:=by
 intro ws
 induction ws with
 | nil=>intro T s h _ _ _;exact⟨_,rfl,T,h,by simp⟩
 | cons w ws ih =>
  intro T s h hw hT hd
  have hd1:((T.map fun t=>t.1)++[w]).Pairwise fun a b=>a&&&b=0:=by
   have:=List.pairwise_append.1 hd
   exact List.pairwise_append.2 ⟨this.1,List.pairwise_singleton _ _,fun a ha b hb=>by rw[List.mem_singleton.1 hb];exact this.2.2 a ha w (List.mem_cons_self ..)⟩
  have hW:Xf X T w:=⟨hw w (List.mem_cons_self ..),hT,hd1⟩
  have hH:Hd X T w 0 X.E.as s:=⟨h.si,h.trk,h.done,rfl,by rw[h.path];rfl,fun q=>by omega⟩
  obtain⟨R,e,hR⟩:=bS hX hW Jv 0 X.E.as s hH (by
   show(13^12 - Gr (X.E.hv++s.lr) X.E.as w 12)*12+(11 - 0)<13^12*12+12
   generalize 13^12=P
   omega)
  simp only[ME]
  rw[e]
  cases R with
  | fin s' x=>exact⟨_,rfl,hR⟩
  | go s' =>
   simp only
   obtain⟨r1,r2,⟨k,r3,r4⟩,kn,r5,r6⟩:=hR
   have hoff:∀ i,s.vals.testBit i=true→(AQ w).testBit i=false:=fun i hi=>by
    obtain⟨t,ht,hti⟩:=h.vals.2.2 i hi
    exact Q8 (hW.off ht) hti
   have hB:bx X (T++[(w,k)]) s':=by
    refine⟨r1,r2,r3,r4,⟨?_,?_,fun i hi=>?_⟩,fun t ht=>?_⟩
    ·rw[r5]
     refine h.vals.1.or ?_
     rcases hW.me with e0 | e0
     ·refine r6.sub.trans ?_
      rw[e0]
      intro i hi
      rw[BM] at hi
      simp at hi
     ·exact r6.sub.trans (WQ (hX.cmp.sub w e0))
    ·rw[r5,FK]
     have t1:=(FK _).1 h.vals.2.1
     have t2:=(FK _).1 r6.twin
     have sym:=(CI w).sym
     intro i hi hb
     rw[Nat.testBit_or,Bool.or_eq_true] at hb
     rw[Nat.testBit_or,Bool.or_eq_false_iff]
     rcases hb with hb | hb
     ·refine⟨t1 i hi hb,?_⟩
      cases z:kn.testBit (Fs i) with
      | false=>rfl
      | true =>
       have:=r6.sub _ z
       rw[sym i hi,hoff i hb] at this
       exact this.symm
     ·refine⟨?_,t2 i hi hb⟩
      cases z:s.vals.testBit (Fs i) with
      | false=>rfl
      | true =>
       have:=hoff _ z
       rw[sym i hi,r6.sub i hb] at this
       exact this
    ·rw[r5,Nat.testBit_or,Bool.or_eq_true] at hi
     rcases hi with hi | hi
     ·obtain⟨t,ht,hti⟩:=h.vals.2.2 i hi
      exact⟨t,List.mem_append_left _ ht,hti⟩
     ·exact⟨(w,k),List.mem_append_right _ (List.mem_singleton.2 rfl),r6.sub i hi⟩
    ·rcases List.mem_append.1 ht with ht | ht
     ·obtain⟨kn',a,b⟩:=h.fin t ht
      exact⟨kn',by rw[r5];exact a.trans (AM.or_left _ _),b⟩
     ·rw[List.mem_singleton.1 ht]
      exact⟨kn,by rw[r5];intro i hi;rw[Nat.testBit_or,hi,Bool.or_true],r6⟩
   obtain⟨R',e',hR'⟩:=ih (T++[(w,k)]) s' hB (fun x hx=>hw x (List.mem_cons_of_mem _ hx)) (fun t ht=>by
    rcases List.mem_append.1 ht with ht | ht
    ·exact hT t ht
    ·rw[List.mem_singleton.1 ht];exact hW.me) (by simpa using hd)
   refine⟨R',e',?_⟩
   cases R' with
   | fin s2 x=>exact hR'
   | go s2 =>
    obtain⟨T',b1,b2⟩:=hR'
    exact⟨T',b1,by rw[b2];simp⟩
structure Ay where
 r:Int
 h:Int
 l:Int
 hv:List Nat
 sn:Nat
 lr:List Nat
 pf:List UInt8
 log:Nat
 un:Nat
def H6(V:Nat):Nat:=AQ V&&&349525
theorem H7{V:Nat}(hV:V<2^11)(h0:V.testBit 0=false):CT (H6 V) V 0:=by
 refine⟨fun v hv=>?_,fun v hv=>?_,Nat.lt_of_le_of_lt Nat.and_le_right (by decide),h0,by simp,hV,by decide⟩
 ·unfold H6
  rw[Nat.testBit_and,Jf v hv,BM,decide_eq_true (by omega),show 2*v / 2=v by omega]
  simp
 ·unfold H6
  rw[Nat.testBit_and,NC v hv]
  simp
theorem VJ{V c:Nat}(hV:V<2^11)(h0:V.testBit 0=false)(hc:c<2^20):H6 (V|||vN c)=H6 V|||An c:=by
 have h1:=(H7 hV h0).or (CT.of hc).vars
 have h2:=H7 (Nat.or_lt_two_pow hV (Nk c)) (by rw[Nat.testBit_or,h0,LP];rfl)
 rw[Nat.or_zero] at h1
 exact h2.same h1
def Ay.vw(s:Ay):Vw:=⟨s.r,s.h,s.l,s.hv,H6 s.sn,s.lr,s.log,s.un,s.pf⟩
structure Ay.Ok(s:Ay):Prop where
 set:BT s.r s.h s.l=true
 hvt:∀ c∈s.hv,c<2^20
 hvs:∀ c∈s.hv,AM (vN c) s.sn
 lits:Ad s.hv≤150
 sn:s.sn<2^11
 sz:s.sn.testBit 0=false
 lt:∀ c∈s.lr,c<2^20∧c≠0∧BN c=false∧AM (vN c) s.sn∧Cj s.hv (An c)=true
 nod:s.lr.Nodup
 sem:∀ u,(∀ c∈s.hv,c&&&Cf u≠0)→∀ c∈s.lr,c&&&Cf u≠0
 len:s.r=0∨(s.lr.length:Int)≤s.r
 held:(Ad s.lr:Int)≤s.h
 log:(s.log:Int)≤s.l
 sum:s.r=0→s.log≤Ad s.lr+s.lr.length+(2*Da s.sn+1)*s.un
 un:s.un≤s.log
 pf:s.pf.length≤4*s.log
theorem Mv:∀ (lr:List Nat),(∀ c∈lr,c<2^20∧c≠0)→lr.length≤Ad lr:=by
 intro lr
 induction lr with
 | nil=>intro _;simp[Ad]
 | cons c lr ih =>
  intro h
  have a:=ih fun x hx=>h x (List.mem_cons_of_mem _ hx)
  obtain⟨b1,b2⟩:=h c (List.mem_cons_self ..)
  have:AG 0<AG c:=Du (fun i q=>by rw[Nat.zero_testBit] at q;simp at q) b1 (fun e=>b2 e.symm)
  simp only[Ad,List.map_cons,List.sum_cons,List.length_cons] at a ⊢
  omega
theorem Jj{r h l:Int}(hs:BT r h l=true):(r=0∨12≤r∧r≤64)∧0≤h∧h≤1048576∧0≤l∧l≤1048576:=by
 unfold BT at hs
 simp only[Bool.and_eq_true,Bool.or_eq_true,decide_eq_true_eq,beq_iff_eq] at hs
 omega
theorem Ay.Ok.vw{s:Ay}(h:s.Ok):dN s.vw:=by
 obtain⟨_,_,h2,_,h4⟩:=Jj h.set
 have a1:=h.held
 have a2:=h.log
 have a3:=h.un
 have a4:=h.pf
 have a5:=Mv s.lr fun c hc=>⟨(h.lt c hc).1,(h.lt c hc).2.1⟩
 refine⟨h.hvt,fun c hc=>(h.lt c hc).1,(H7 h.sn h.sz).top,h.lits,?_,?_,?_,?_,?_⟩
 ·show Ad s.lr≤1048576;omega
 ·show s.log≤1048576;omega
 ·show s.un≤1048576;omega
 ·show s.lr.length≤1048576;omega
 ·show s.pf.length≤4194304;omega
def Ay.new(r h l:Int):Ay:=⟨r,h,l,[],0,[],[],0,0⟩
theorem Ay.new_ok{r h l:Int}(hs:BT r h l=true):(Ay.new r h l).Ok:=by
 have:=Jj hs
 refine⟨hs,fun c hc=>by simp[Ay.new] at hc,fun c hc=>by simp[Ay.new] at hc,by simp[Ay.new,Ad],by simp[Ay.new],by simp[Ay.new],fun c hc=>by simp[Ay.new] at hc,by simp[Ay.new],fun u _ c hc=>by simp[Ay.new] at hc,?_,?_,?_,fun _=>by simp[Ay.new],by simp[Ay.new],by simp[Ay.new]⟩
 ·show r=0∨((0:Nat):Int)≤r;omega
 ·show((0:Nat):Int)≤h;omega
 ·show((0:Nat):Int)≤l;omega
theorem Ws:H6 0=0:=by decide
theorem Ay.new_vw(r h l:Int):(Ay.new r h l).vw=Vw.none r h l:=by
 simp only[Ay.vw,Ay.new,Vw.none,Ws]
def Ay.add(s:Ay)(xs:List Int):Ay:=if (Aw xs (Ad s.hv)).takes? then { s with hv:=s.hv++[Ah xs],sn:=s.sn|||vN (Ah xs) } else s
theorem Zs{xs:List Int}{n:Nat}(h:(Aw xs n).takes?=true):xs.all AT=true∧n+AG (Ah xs)≤150:=by
 unfold Aw at h
 split at h
 ·rename_i hall
  refine⟨hall,?_⟩
  split at h
  ·simp[Tk.takes?] at h
  ·split at h
   ·simp[Tk.takes?] at h
   ·omega
 ·simp[Tk.takes?] at h
theorem Qt{hv:List Nat}{D:Nat}(c:Nat)(hj:Cj hv (An D)=true):Cj (hv++[c]) (An D)=true:=by
 have hv20:An D<2^20:=Ec D
 by_cases h0:An D=0
 ·rw[h0];exact Lv _
 ·obtain⟨j,hj1,hl⟩:=Kq h0 hv20
  have hlm:AM (DK (An D)) 349525:=(Pc _).trans (Lm D)
  have hz:AG 0<AG (DK (An D)):=Du (fun i q=>by rw[Nat.zero_testBit] at q;simp at q) (Tn hv20) (fun q=>by
   have:(DK (An D)).testBit j=true:=by rw[hl,Nat.testBit_two_pow];simp
   rw[← q] at this;simp at this)
  have hfix:=Qr (hv++[c]) 10 _ hlm (by omega)
  have hsub:=Qs (hv++[c]) 10 (DK (An D))
  have hst:=OU (X:=DS (hv++[c]) 10 (DK (An D))) (cs:=hv) (fun x hx=>Lw (Qh _ _ hfix x (List.mem_append_left _ hx))) 10 _ hsub
  unfold Cj at hj ⊢
  have hj':An D&&&DS hv 10 (DK (An D))=An D:=by simpa using hj
  have:AM (An D) (DS (hv++[c]) 10 (DK (An D))):=fun i hi=>by
   rw[← hj'] at hi
   exact hst i (FJ _ _ i hi)
  simpa using this.eq_and
theorem Ay.add_ok{s:Ay}(h:s.Ok)(xs:List Int):(s.add xs).Ok∧(s.add xs).vw=s.vw.add xs:=by
 unfold Ay.add Vw.add
 show _∧_=if (Aw xs (Ad s.hv)).takes?=true then _ else _
 by_cases ht:(Aw xs (Ad s.hv)).takes?=true
 ·rw[if_pos ht,if_pos ht]
  obtain⟨hall,hsz⟩:=Zs ht
  have hc:=Pq xs hall
  have hsub:AM s.sn (s.sn|||vN (Ah xs)):=AM.or_left _ _
  refine⟨⟨h.set,fun c hcc=>?_,fun c hcc=>?_,?_,Nat.or_lt_two_pow h.sn (Nk _),?_,fun c hcc=>?_,h.nod,fun u hu=>h.sem u (fun c hcc=>hu c (List.mem_append_left _ hcc)),h.len,h.held,h.log,fun hr=>?_,h.un,h.pf⟩,?_⟩
  ·rcases List.mem_append.1 hcc with q | q
   ·exact h.hvt c q
   ·rw[List.mem_singleton.1 q];exact hc
  ·rcases List.mem_append.1 hcc with q | q
   ·exact(h.hvs c q).trans hsub
   ·rw[List.mem_singleton.1 q]
    intro i hi
    show(s.sn|||vN (Ah xs)).testBit i=true
    rw[Nat.testBit_or,hi,Bool.or_true]
  ·show Ad (s.hv++[Ah xs])≤150
   rw[FW];exact hsz
  ·show(s.sn|||vN (Ah xs)).testBit 0=false
   rw[Nat.testBit_or,h.sz,LP];rfl
  ·obtain⟨a1,a2,a3,a4,a5⟩:=h.lt c hcc
   exact⟨a1,a2,a3,a4.trans hsub,Qt _ a5⟩
  ·have h1:=h.sum hr
   have h2:=MN hsub
   have h3:(2*Da s.sn+1)*s.un≤(2*Da (s.sn|||vN (Ah xs))+1)*s.un:=Nat.mul_le_mul_right _ (by omega)
   show s.log≤Ad s.lr+s.lr.length+(2*Da (s.sn|||vN (Ah xs))+1)*s.un
   omega
  ·simp only[Ay.vw,VJ h.sn h.sz hc]
 ·rw[if_neg ht,if_neg ht]
  exact⟨h,rfl⟩
def Ay.rst(s:Ay):Ay:=Ay.new s.r s.h s.l
def Ay.keep(s:Ay)(p:FO):Ay:={ s with pf:=s.pf++Bo p.1 p.2,log:=s.log+(p.2.length+1),lr:=if p.1=97 then s.lr++[AJ p.2] else if p.1=100 then s.lr.erase (AJ p.2) else s.lr,un:=if p.1=101 then s.un+1 else s.un }
theorem keeps(held st:Nat):∀ (ls:List FO) (s:Ay),(ls.foldl Ay.keep s).r=s.r∧(ls.foldl Ay.keep s).h=s.h∧(ls.foldl Ay.keep s).l=s.l∧(ls.foldl Ay.keep s).hv=s.hv∧(ls.foldl Ay.keep s).sn=s.sn∧(ls.foldl Ay.keep s).pf=s.pf++BY ls∧(ls.foldl Ay.keep s).lr=(Ag ⟨s.lr,held,s.log,st⟩ ls).lr∧(ls.foldl Ay.keep s).log=(Ag ⟨s.lr,held,s.log,st⟩ ls).log:=by
 intro ls
 induction ls generalizing held st with
 | nil=>intro s;simp[BY,Ag]
 | cons p ls ih =>
  intro s
  simp only[List.foldl_cons]
  have key:∃ held' st',Bh ⟨s.lr,held,s.log,st⟩ p=⟨(s.keep p).lr,held',(s.keep p).log,st'⟩:=by
   unfold Bh Ay.keep
   by_cases h1:p.1=97
   ·rw[if_pos h1]
    refine⟨held+p.2.length,st+1,?_⟩
    simp only[h1,if_true,Nat.add_assoc]
   ·rw[if_neg h1]
    by_cases h2:p.1=100
    ·rw[if_pos h2]
     refine⟨held - p.2.length,st,?_⟩
     simp only[h2,if_true,Nat.add_assoc]
     rw[if_neg (by decide)]
    ·rw[if_neg h2]
     refine⟨held,st,?_⟩
     simp only[h1,h2,if_false,Nat.add_assoc]
  obtain⟨held',st',e⟩:=key
  obtain⟨b1,b2,b3,b4,b5,b6,b7,b8⟩:=ih held' st' (s.keep p)
  have e2:Ag ⟨s.lr,held,s.log,st⟩ (p :: ls)=Ag ⟨(s.keep p).lr,held',(s.keep p).log,st'⟩ ls:=by
   show Ag (Bh ⟨s.lr,held,s.log,st⟩ p) ls=_
   rw[e]
  rw[e2]
  refine⟨b1,b2,b3,b4,b5,?_,b7,b8⟩
  rw[b6,JA]
  simp[Ay.keep]
theorem Tj{j:JV}:∀ (ls:List FO),j.log≤(Ag j ls).log:=by
 intro ls
 induction ls generalizing j with
 | nil=>exact Nat.le_refl _
 | cons p ls ih =>
  refine Nat.le_trans ?_ (ih (j:=Bh j p))
  unfold Bh
  split
  ·simp only;omega
  ·split
   ·simp only;omega
   ·simp only;omega
theorem YR:∀ (ls:List FO) (s:Ay),(∀ p∈ls,p.1≠101)→(ls.foldl Ay.keep s).un=s.un:=by
 intro ls
 induction ls with
 | nil=>intro s _;rfl
 | cons p ls ih =>
  intro s h
  simp only[List.foldl_cons]
  rw[ih _ fun q hq=>h q (List.mem_cons_of_mem _ hq)]
  simp[Ay.keep,h p (List.mem_cons_self ..)]
theorem ae{x:Int}(h:AT x=true):(DJ x).length≤4:=by
 have key:(Lib.itoa x).length≤3:=by
  rcases GQ h with rfl|rfl|rfl|rfl|rfl|rfl|rfl|rfl|rfl|rfl|rfl|rfl|rfl|rfl|rfl|rfl|rfl|rfl|rfl|rfl <;> decide +kernel
 simp[DJ]
 omega
theorem Qy(lt:UInt8)(xs:List Int)(h:xs.all AT=true):(Bo lt xs).length≤4*(xs.length+1):=by
 have key:(A6 xs).length≤4*xs.length:=by
  induction xs with
  | nil=>simp[A6]
  | cons x xs ih =>
   simp only[List.all_cons,Bool.and_eq_true] at h
   have a:=ih h.2
   have b:=ae h.1
   simp only[A6,List.flatMap_cons,List.length_append,List.length_cons] at a ⊢
   omega
 simp only[Bo,List.length_append,List.length_cons,List.length_nil]
 omega
theorem WM:∀ (ls:List FO) (s:Ay),(∀ p∈ls,p.2.all AT=true)→s.pf.length≤4*s.log→(ls.foldl Ay.keep s).pf.length≤4*(ls.foldl Ay.keep s).log:=by
 intro ls
 induction ls with
 | nil=>intro s _ h;exact h
 | cons p ls ih =>
  intro s hl h
  simp only[List.foldl_cons]
  refine ih _ (fun q hq=>hl q (List.mem_cons_of_mem _ hq)) ?_
  have:=Qy p.1 p.2 (hl p (List.mem_cons_self ..))
  simp only[Ay.keep,List.length_append]
  omega
def Ay.cx(s:Ay)(xs:List Int)(b:Int):Cx:=⟨⟨s.hv,xs,b,s.r⟩,s.h,s.l,s.lr,s.log,s.un,s.sn|||vN (AJ xs),D7 (s.hv.filter fun c=>c != 0) (s.sn|||vN (AJ xs))⟩
def Ay.sr(s:Ay):Sr:=⟨s.lr,s.h - (Ad s.lr:Int),s.l - (s.log:Int),0,[],[],[],0⟩
def Ay.run(s:Ay)(xs:List Int)(b:Int):Option (Sr × Fe):=bO (s.cx xs b).E Jv (s.cx xs b).ws s.sr
def Ay.slv(s:Ay)(xs:List Int)(b:Int):Ay:=if A9 xs b=0 then (match s.run xs b with
 | none=>s
 | some (t,_)=>t.ls.foldl Ay.keep { s with sn:=s.sn|||vN (AJ xs) }) else s
def Ay.ans(s:Ay)(xs:List Int)(b:Int):Fe:=if A9 xs b=0 then (match s.run xs b with
 | none=>Fg
 | some (_,x)=>x) else Fg
theorem di{c:Nat}(hc:c<2^20)(h:c≠0):vN c≠0:=fun e=>h (by
 apply Nat.eq_of_testBit_eq
 intro i
 rw[Nat.zero_testBit]
 cases hb:c.testBit i with
 | false=>rfl
 | true=>have:=Hf hc hb;rw[e] at this;simp at this)
theorem Xw{hv ws:List Nat}{sn:Nat}(h:Uk (hv.filter fun c=>c != 0) sn ws):Uk hv sn ws:=by
 have hsub:∀ c∈hv.filter (fun c=>c != 0),c∈hv:=fun c hc=>(List.mem_filter.1 hc).1
 refine⟨h.ne,h.sub,h.dis,h.cov,fun c hc=>?_,fun w hw C hC=>h.con w hw C fun c hc=>hC c (hsub c hc)⟩
 by_cases e:c=0
 ·left;rw[e];decide
 ·exact h.own c (List.mem_filter.2 ⟨hc,by simpa using e⟩)
theorem Gy{xs:List Int}{b:Int}(h:A9 xs b=0):xs.length≤20∧xs.all AT=true∧0≤b:=by
 unfold A9 at h
 split at h
 ·simp at h
 ·split at h
  ·simp at h
  ·rename_i h2
   split at h
   ·simp at h
   ·exact⟨by omega,by simpa using h2,by omega⟩
theorem Ay.Ok.cx{s:Ay}(h:s.Ok){xs:List Int}{b:Int}(ha:A9 xs b=0):Il (s.cx xs b):=by
 obtain⟨_,hx,hb⟩:=Gy ha
 have hA:=DX xs
 have hsub:AM s.sn (s.sn|||vN (AJ xs)):=AM.or_left _ _
 have hsn:s.sn|||vN (AJ xs)<2^11:=Nat.or_lt_two_pow h.sn (Nk _)
 refine⟨h.hvt,fun c hc=>(h.hvs c hc).trans hsub,hx,?_,hsn,?_,hb,?_⟩
 ·intro i hi
  show(s.sn|||vN (AJ xs)).testBit i=true
  have hi':(vN (AJ xs)).testBit i=true:=hi
  rw[Nat.testBit_or,hi',Bool.or_true]
 ·have:=(Jj h.set).1
  show s.r=0∨12≤s.r
  omega
 ·refine Xw (Vp hsn _ fun c hc=>?_)
  obtain⟨q1,q2⟩:=List.mem_filter.1 hc
  exact⟨di (h.hvt c q1) (by simpa using q2),(h.hvs c q1).trans hsub⟩
theorem Ay.Ok.si{s:Ay}(h:s.Ok)(xs:List Int)(b:Int)(ha:A9 xs b=0):SI (s.cx xs b) s.sr:=by
 have hsub:AM s.sn (s.sn|||vN (AJ xs)):=AM.or_left _ _
 have hb:=(Gy ha).2.2
 have h1:=h.held
 have h2:=h.log
 refine⟨trivial,fun p hp=>by simp[Ay.sr] at hp,⟨s.log,rfl,?_,fun hr=>?_⟩,rfl,fun c hc=>?_,h.nod,h.sem,h.len,?_,?_,?_⟩
 ·show(s.log:Int)=s.l - (s.l - (s.log:Int));omega
 ·have h1:=h.sum hr
  have h2:=MN hsub
  have h3:(2*Da s.sn+1)*s.un≤(2*Da (s.sn|||vN (AJ xs))+1)*s.un:=Nat.mul_le_mul_right _ (by omega)
  show s.log≤Ad s.lr+s.lr.length+(2*Da (s.sn|||vN (AJ xs))+1)*s.un
  omega
 ·obtain⟨a1,a2,a3,a4,a5⟩:=h.lt c hc
  exact⟨a1,a2,a3,a4.trans hsub,a5⟩
 ·show b=0∨((0:Nat):Int)≤b;omega
 ·show 0≤s.h - (Ad s.lr:Int);omega
 ·show 0≤s.l - (s.log:Int);omega
theorem JB{r h l:Int}{hv:List Nat}:∀ (ls:List FO) (j:JV),EO r h l hv j ls→∀ p∈ls,p.2.length≤20:=by
 intro ls
 induction ls with
 | nil=>intro j _ p hp;simp at hp
 | cons q ls ih =>
  intro j h p hp
  obtain⟨_,a2,_,a4⟩:=h
  rcases List.mem_cons.1 hp with rfl | hp
  ·have cl:∀ lr tail,CA hv lr p.2 tail=true→p.2.length≤20:=fun lr tail hc=>by
    unfold CA at hc
    simp only[Bool.and_eq_true,beq_iff_eq] at hc
    have:=hc.1.1.1.2
    have:=Cw (AJ p.2)
    omega
   rcases a2.2 with⟨_,b,_⟩ | ⟨_,b⟩ | ⟨_,_,_,b,_⟩
   ·exact cl _ _ b
   ·exact cl _ _ b
   ·rw[← b];exact Cw _
  ·exact ih _ a4 p hp
theorem Tg:∀ (ls:List FO),(∀ p∈ls,p.2.length≤20)→(Dp ls).length≤20:=by
 intro ls
 induction ls with
 | nil=>intro _;simp[Dp]
 | cons p ls ih =>
  intro h
  cases ls with
  | nil=>exact h p (List.mem_cons_self ..)
  | cons q ls=>exact ih fun x hx=>h x (List.mem_cons_of_mem _ hx)
theorem Vm{ls:List FO}(h:∀ p∈ls,p.1≠101):Cb ls=false:=by
 unfold Cb
 rw[List.any_eq_false]
 intro p hp
 simpa using h p hp
theorem Ay.Ok.kept{s:Ay}(h:s.Ok){xs:List Int}{b:Int}(hX:Il (s.cx xs b)){t:Sr}(ht:SI (s.cx xs b) t):(t.ls.foldl Ay.keep { s with sn:=s.sn|||vN (AJ xs) }).Ok∧∃ log:Nat,Ag (s.cx xs b).j0 t.ls=⟨t.lr,Ad t.lr,log,t.sp⟩∧(log:Int)=s.l - t.l∧(t.ls.foldl Ay.keep { s with sn:=s.sn|||vN (AJ xs) }).lr=t.lr∧(t.ls.foldl Ay.keep { s with sn:=s.sn|||vN (AJ xs) }).log=log∧(t.ls.foldl Ay.keep { s with sn:=s.sn|||vN (AJ xs) }).un=s.un:=by
 obtain⟨log,t1,t2,t3⟩:=ht.to
 obtain⟨k1,k2,k3,k4,k5,k6,k7,k8⟩:=keeps (Ad s.lr) 0 t.ls { s with sn:=s.sn|||vN (AJ xs) }
 have e:Ag ⟨s.lr,Ad s.lr,s.log,0⟩ t.ls=⟨t.lr,Ad t.lr,log,t.sp⟩:=t1
 simp only at k7 k8
 rw[e] at k7 k8
 simp only at k7 k8
 have ku:=YR t.ls { s with sn:=s.sn|||vN (AJ xs) } ht.opn
 have kp:=WM t.ls { s with sn:=s.sn|||vN (AJ xs) } (IN _ _ ht.ok) h.pf
 have kl:=(Tj (j:=⟨s.lr,Ad s.lr,s.log,0⟩) t.ls)
 rw[e] at kl
 simp only at kl
 have hrl:=ht.rl
 have hrh:=ht.rh
 have hheld:=ht.held
 generalize t.ls.foldl Ay.keep { s with sn:=s.sn|||vN (AJ xs) }=s' at *
 simp only at k1 k2 k3 k4 k5 k6 ku
 have t2':(log:Int)=s.l - t.l:=t2
 have hheld':t.h=s.h - (Ad t.lr:Int):=hheld
 refine⟨⟨by rw[k1,k2,k3];exact h.set,by rw[k4];exact h.hvt,?_,by rw[k4];exact h.lits,by rw[k5];exact hX.sn,?_,?_,by rw[k7];exact ht.nod,by rw[k4,k7];exact ht.sem,by rw[k1,k7];exact ht.len,by rw[k2,k7];omega,by rw[k3,k8];omega,?_,by rw[ku,k8];have:=h.un;omega,kp⟩,log,t1,t2,k7,k8,ku⟩
 ·rw[k4,k5];exact hX.hvs
 ·rw[k5,Nat.testBit_or,h.sz,LP];rfl
 ·rw[k7,k4,k5]
  intro c hc
  have:=ht.lr c hc
  exact⟨this.top,this.ne,this.twin,this.sub,this.join⟩
 ·rw[k1,k5,k7,k8,ku]
  exact t3
theorem Zu(u i:Nat)(hi:i<20):(Cf u).testBit i=if i % 2=0 then u.testBit (i / 2) else !u.testBit (i / 2):=by
 unfold Cf
 rw[JP,decide_eq_true (by omega),Bool.true_and]
theorem XP{vals u seen:Nat}:∀ k,k≤10→(∀ v,v<k→(seen.testBit (2*v)=true∧u.testBit v=vals.testBit (2*v)∧vals.testBit (2*v+1)=!vals.testBit (2*v))∨(seen.testBit (2*v)=false∧vals.testBit (2*v)=false∧vals.testBit (2*v+1)=false))→Gw vals k=CE seen u k:=by
 intro k
 induction k with
 | zero=>intro _ _;rfl
 | succ k ih =>
  intro hk h
  simp only[Gw,CE]
  rw[ih (by omega) fun v hv=>h v (by omega)]
  congr 1
  rcases h k (by omega) with⟨a,b,c⟩ | ⟨a,b,c⟩
  ·rw[a,b,c]
   cases vals.testBit (2*k) <;> simp
  ·rw[a,b,c]
   simp
theorem cm{X:Cx}(hX:Il X)(hz:X.sn.testBit 0=false){T:List (Nat × Nat)}{s:Sr}(h:bx X T s)(hT:T.map (fun t=>t.1)=0 :: X.ws):∃ u,QG X.E.hv (H6 X.sn) X.E.as ⟨1,0,AZ s.vals,[],[]⟩ u:=by
 obtain⟨v1,v2,_⟩:=h.vals
 have hv20:=EF v1 (CI X.sn).top
 have hsn:=H7 hX.sn hz
 have htw:=(FK _).1 v2
 obtain⟨u,hu1,hu2⟩:=Ge (fun k=>s.vals.testBit (2*k)) 10
 have hfin:∀ w,w=0∨w∈X.ws→∃ kn,AM kn s.vals∧aK X.E.hv X.E.as w kn:=fun w hw=>by
  have:w∈T.map fun t=>t.1:=by
   rw[hT]
   rcases hw with e | e
   ·rw[e];exact List.mem_cons_self ..
   ·exact List.mem_cons_of_mem _ e
  obtain⟨t,ht,rfl⟩:=List.mem_map.1 this
  exact h.fin t ht
 have hodd:∀ v,v<10→Fs (2*v)=2*v+1:=fun v _=>by unfold Fs;rw[if_pos (by omega)]
 have hone:∀ v,v<10→X.sn.testBit (v+1)=true→s.vals.testBit (2*v+1)=!s.vals.testBit (2*v):=fun v hv hs=>by
  obtain⟨w,hw,hwu⟩:=hX.cmp.cov _ hs
  obtain⟨kn,k1,k2⟩:=hfin w (.inr hw)
  have hkn20:=EF k1 hv20
  have hk:=k2.all (v+1) (by omega) (by omega) hwu
  rw[QC hkn20 hv,Bool.or_eq_true] at hk
  cases ha:s.vals.testBit (2*v) with
  | true =>
   have:=htw (2*v) (by omega) ha
   rw[hodd v hv] at this
   rw[this];rfl
  | false =>
   rcases hk with hk | hk
   ·rw[k1 _ hk] at ha;simp at ha
   ·rw[k1 _ hk];rfl
 have hnone:∀ v,v<10→X.sn.testBit (v+1)=false→s.vals.testBit (2*v)=false∧s.vals.testBit (2*v+1)=false:=fun v hv hs=>by
  constructor
  ·cases ha:s.vals.testBit (2*v) with
   | false=>rfl
   | true =>
    have:=v1 _ ha
    rw[BM,show 2*v / 2=v by omega,hs] at this
    simp at this
  ·cases ha:s.vals.testBit (2*v+1) with
   | false=>rfl
   | true =>
    have:=v1 _ ha
    rw[BM,show(2*v+1) / 2=v by omega,hs] at this
    simp at this
 have hsub:AM s.vals (Cf u):=fun i hi=>by
  have hi20:=Bl hv20 hi
  rw[Zu u i hi20]
  rcases E9 i with e | e
  ·rw[if_pos (by omega),hu2 _ (by omega),← e];exact hi
  ·rw[if_neg (by omega),hu2 _ (by omega)]
   have:=htw i hi20 hi
   have ep:Fs i=2*(i / 2):=by unfold Fs;rw[if_neg (by omega)];omega
   rw[ep] at this
   rw[this];rfl
 refine⟨u,hu1,?_,fun k hk hs=>?_,?_,rfl,rfl,rfl⟩
 ·show Gw s.vals 10=CE (H6 X.sn) u 10
  refine XP 10 (Nat.le_refl _) fun v hv=>?_
  rw[hsn.pos v hv,hu2 v hv]
  cases hs:X.sn.testBit (v+1) with
  | true=>exact .inl ⟨rfl,rfl,hone v hv hs⟩
  | false=>exact .inr ⟨rfl,hnone v hv hs⟩
 ·rw[hsn.pos k hk] at hs
  rw[hu2 k hk]
  exact(hnone k hk hs).1
 ·unfold EH
  rw[Bool.and_eq_true,List.all_eq_true]
  refine⟨fun c hc=>?_,?_⟩
  ·have key:∃ w,(w=0∨w∈X.ws)∧AM c (AQ w):=by
    rcases hX.cmp.own c hc with e | ⟨w,hw,e⟩
    ·exact⟨0,.inl rfl,by
      rw[Fv (hX.hvt c hc),e]
      intro i q
      rw[Nat.zero_testBit] at q
      simp at q⟩
    ·exact⟨w,.inr hw,(Fv (hX.hvt c hc)).2 e⟩
   obtain⟨w,hw,hcw⟩:=key
   obtain⟨kn,k1,k2⟩:=hfin w hw
   obtain⟨i,i1,i2⟩:=MT (k2.so c hc (hX.hvt c hc) hcw)
   have:c&&&Cf u≠0:=fun e=>by
    have:=Cz.2 e i i1
    rw[hsub i (k1 i i2)] at this
    simp at this
   simpa using this
  ·have:AM X.E.as (Cf u):=fun i hi=>by
    have hA:=QP X
    obtain⟨w,hw,hwu⟩:=hX.cmp.cov _ (hX.asm _ (Hf hA hi))
    obtain⟨kn,k1,k2⟩:=hfin w (.inr hw)
    refine hsub i (k1 i (k2.asm i ?_))
    rw[Nat.testBit_and,hi,BM,decide_eq_true (Bl hA hi),hwu];rfl
   simpa using this.eq_and
theorem Xq{X:Cx}{s:Sr}(h:SI X s):(X.E.b == 0 || decide ((s.sp:Int)≤X.E.b))=true:=by
 rw[Bool.or_eq_true]
 rcases h.bud with q | q
 ·left;simpa using q
 ·right;simpa using q
theorem Ay.run_ok{s:Ay}(h:s.Ok){xs:List Int}{b:Int}(ha:A9 xs b=0):∃ t x,s.run xs b=some (t,x)∧(s.slv xs b).Ok∧∃ st,KT s.vw xs b (s.slv xs b).vw x t.ls st:=by
 have hX:=h.cx ha
 have hS:=h.si xs b ha
 have hlx:xs.length≤20:=(Gy ha).1
 have hsz:(s.cx xs b).sn.testBit 0=false:=by
  show(s.sn|||vN (AJ xs)).testBit 0=false
  rw[Nat.testBit_or,h.sz,LP];rfl
 have hB:bx (s.cx xs b) [] s.sr:=⟨hS,rfl,fun t ht=>by simp at ht,rfl,⟨fun i q=>by
   have q':(0:Nat).testBit i=true:=q
   rw[Nat.zero_testBit] at q'
   simp at q',by show BN 0=false;decide,fun i q=>by
   have q':(0:Nat).testBit i=true:=q
   rw[Nat.zero_testBit] at q'
   simp at q'⟩,fun t ht=>by simp at ht⟩
 obtain⟨R,e,hR⟩:=cD hX (0 :: (s.cx xs b).ws) [] s.sr hB (fun w hw=>(List.mem_cons.1 hw).elim .inl .inr) (fun t ht=>by simp at ht) (by
  simp only[List.map_nil,List.nil_append]
  exact List.pairwise_cons.2 ⟨fun x _=>Nat.zero_and x,hX.cmp.dis⟩)
 have hseen:H6 (s.sn|||vN (AJ xs))=H6 s.sn|||An (AJ xs):=VJ h.sn h.sz (DX xs)
 have common:∀ (t:Sr),SI (s.cx xs b) t→∀ (x:Fe),x.vs.length≤1000∧x.co.length≤1000∧x.cl.length≤1000→(t.ls.foldl Ay.keep { s with sn:=s.sn|||vN (AJ xs) }).Ok∧∃ log:Nat,(log:Int)=s.l - t.l∧(t.ls.foldl Ay.keep { s with sn:=s.sn|||vN (AJ xs) }).log=log ∧
   (((x.st=1∧∃ u,QG s.hv (H6 (s.sn|||vN (AJ xs))) (AJ xs) x u)∨(x.st=3∧FP ((t.ls.foldl Ay.keep { s with sn:=s.sn|||vN (AJ xs) }).vw.se t.sp) x b))→KT s.vw xs b (t.ls.foldl Ay.keep { s with sn:=s.sn|||vN (AJ xs) }).vw x t.ls t.sp):=by
  intro t ht x hlen
  obtain⟨ok,log,k1,k2,k3,k4,k5⟩:=h.kept hX ht
  obtain⟨b1,b2,b3,b4,b5,b6,_,_⟩:=keeps (Ad s.lr) 0 t.ls { s with sn:=s.sn|||vN (AJ xs) }
  have hshort:=Tg t.ls (JB t.ls _ ht.ok)
  have hcl:=Vm ht.opn
  have hbud:=Xq ht
  refine⟨ok,log,k2,k4,fun how=>?_⟩
  generalize t.ls.foldl Ay.keep { s with sn:=s.sn|||vN (AJ xs) }=s' at *
  simp only at b1 b2 b3 b4 b5 b6
  refine⟨b1,b2,b3,b4,?_,b6,ht.ok,?_,hbud,⟨hlen.1,hlen.2.1,hlen.2.2,by omega⟩,?_⟩
  ·show H6 s'.sn=H6 s.sn|||An (AJ xs)
   rw[b5,hseen]
  ·show Ag (s.cx xs b).j0 t.ls=⟨s'.lr,Ad s'.lr,s'.log,t.sp⟩
   rw[k1,k3,k4]
  ·have hun:s'.vw.unsat=s.vw.unsat:=k5
   have hsn:s'.vw.seen=H6 (s.sn|||vN (AJ xs)):=by show H6 s'.sn=_;rw[b5]
   rcases how with⟨a1,u,a2⟩ | ⟨a1,a2⟩
   ·exact .inl ⟨a1,hcl,hun,u,by rw[hsn];exact a2⟩
   ·exact .inr (.inr ⟨a1,hcl,hun,a2⟩)
 have hrun:s.run xs b=match ME (s.cx xs b).E Jv (0 :: (s.cx xs b).ws) s.sr with
   | none=>none
   | some (.fin s x)=>some (s,x)
   | some (.go s)=>some (s,⟨1,0,AZ s.vals,[],[]⟩):=rfl
 rw[e] at hrun
 cases R with
 | go t =>
  obtain⟨T,hT,hTm⟩:=hR
  simp only at hrun
  refine⟨t,_,hrun,?_⟩
  have hs:s.slv xs b=t.ls.foldl Ay.keep { s with sn:=s.sn|||vN (AJ xs) }:=by unfold Ay.slv;rw[if_pos ha,hrun]
  rw[hs]
  obtain⟨u,hu⟩:=cm hX hsz hT (by simpa using hTm)
  have hl20:=Cw t.vals
  obtain⟨ok,_,_,_,hso⟩:=common t hT.si ⟨1,0,AZ t.vals,[],[]⟩ ⟨by show(AZ t.vals).length≤1000;rw[Bk];omega,by simp,by simp⟩
  exact⟨ok,_,hso (.inl ⟨rfl,u,hu⟩)⟩
 | fin t x =>
  simp only at hrun hR
  refine⟨t,x,hrun,?_⟩
  have hs:s.slv xs b=t.ls.foldl Ay.keep { s with sn:=s.sn|||vN (AJ xs) }:=by unfold Ay.slv;rw[if_pos ha,hrun]
  rw[hs]
  rcases hR with⟨ht,hu⟩ | ⟨t0,D,ht,rfl,hl,hsz2,hcd,hst,hco,hun⟩
  ·obtain⟨ok,log,k2,k4,hso⟩:=common t ht x ⟨by rw[hu.vs];simp,by rw[hu.co];simp,by have:=hu.len;omega⟩
   refine⟨ok,_,hso (.inr ⟨hu.st,?_⟩)⟩
   obtain⟨_,log',q1,q2,q3,q4,q5⟩:=h.kept hX ht
   obtain⟨b1,b2,b3,b4,b5,_,_,_⟩:=keeps (Ad s.lr) 0 t.ls { s with sn:=s.sn|||vN (AJ xs) }
   generalize t.ls.foldl Ay.keep { s with sn:=s.sn|||vN (AJ xs) }=s' at *
   simp only at b1 b2 b3 b4 b5
   have hroom:=hu.room (H6 (s.sn|||vN (AJ xs))) (H7 hX.sn hsz)
   refine⟨hu.vs,hu.co,?_,?_⟩
   ·show EL s'.r s'.h s'.l b (H6 s'.sn) s'.un=false
    rw[b1,b2,b3,b5,q5]
    exact hroom
   ·rcases hu.why with⟨a1,a2,a3,a4⟩ | ⟨a1,a2,a3⟩ | ⟨a1,a2,a3⟩
    ·exact .inl ⟨a1,a2,a3,a4⟩
    ·refine .inr (.inl ⟨a1,?_,?_⟩)
     ·show CA s'.hv s'.lr x.cl false=true
      rw[b4,q3];exact a2
     ·show s'.h<((Ad s'.lr:Nat):Int)+x.cl.length
      rw[b2,q3];exact a3
    ·refine .inr (.inr ⟨a1,?_,?_⟩)
     ·show CA s'.hv s'.lr x.cl true=true
      rw[b4,q3];exact a2
     ·show s'.l<((s'.log:Nat):Int)+x.cl.length+1
      have q2':(log':Int)=s.l - t.l:=q2
      rw[b3,q4]
      omega
  ·obtain⟨ok,log,q1,q2,q3,q4,q5⟩:=h.kept hX ht
   obtain⟨b1,b2,b3,b4,b5,b6,_,_⟩:=keeps (Ad s.lr) 0 t0.ls { s with sn:=s.sn|||vN (AJ xs) }
   have hshort:=JB t0.ls _ ht.ok
   have hbud:=Xq ht
   have q2':(log:Int)=s.l - t0.l:=q2
   simp only[List.foldl_append,List.foldl_cons,List.foldl_nil]
   generalize t0.ls.foldl Ay.keep { s with sn:=s.sn|||vN (AJ xs) }=s' at *
   simp only at b1 b2 b3 b4 b5 b6
   have hk:s'.keep (101,AZ (AW D))={ s' with pf:=s'.pf++Bo 101 (AZ (AW D)),log:=s'.log+(AG (AW D)+1),un:=s'.un+1 }:=by
    unfold Ay.keep
    rw[if_neg (by simp only;decide),if_neg (by simp only;decide),if_pos rfl]
    simp only[Bk]
   have hok:EO s.r s.h s.l s.hv (s.cx xs b).j0 (t0.ls++[(101,AZ (AW D))]):=by
    refine IP _ _ _ ht.ok ht.opn (FU _) ?_
    rw[q1]
    refine⟨?_,.inr (.inl ⟨rfl,hcd⟩)⟩
    show(log:Int)+(AZ (AW D)).length+1≤s.l
    rw[Bk]
    omega
   rw[hk]
   refine⟨⟨ok.set,ok.hvt,ok.hvs,ok.lits,ok.sn,ok.sz,ok.lt,ok.nod,ok.sem,ok.len,ok.held,?_,fun hr=>?_,?_,?_⟩,t0.sp,b1,b2,b3,b4,?_,?_,hok,?_,hbud,?_,.inr (.inl ⟨hst,?_,?_,?_⟩)⟩
   ·show((s'.log+(AG (AW D)+1):Nat):Int)≤s'.l
    rw[b3,q4];omega
   ·have:=ok.sum hr
    have hsz3:AG (AW D)≤2*Da s'.sn:=by rw[b5];exact hsz2
    show s'.log+(AG (AW D)+1)≤Ad s'.lr+s'.lr.length+(2*Da s'.sn+1)*(s'.un+1)
    rw[Nat.mul_add,Nat.mul_one]
    omega
   ·have:=ok.un
    show s'.un+1≤s'.log+(AG (AW D)+1)
    omega
   ·have:=ok.pf
    have hl:=Qy 101 (AZ (AW D)) (FU _)
    rw[Bk] at hl
    show(s'.pf++Bo 101 (AZ (AW D))).length≤4*(s'.log+(AG (AW D)+1))
    rw[List.length_append]
    omega
   ·show H6 s'.sn=H6 s.sn|||An (AJ xs)
    rw[b5,hseen]
   ·show s'.pf++Bo 101 (AZ (AW D))=s.pf++BY (t0.ls++[(101,AZ (AW D))])
    rw[b6]
    simp[BY]
   ·show Ag (s.cx xs b).j0 (t0.ls++[(101,AZ (AW D))])=⟨s'.lr,Ad s'.lr,s'.log+(AG (AW D)+1),t0.sp⟩
    rw[GF,q1,q3,q4]
    simp only[Bh,Bk]
    rw[if_neg (by decide),if_neg (by decide)]
    simp[Nat.add_assoc]
   ·have h1:x.vs.length=0:=by rw[hun.vs];rfl
    have h2:x.cl.length=0:=by rw[hun.cl];rfl
    refine⟨by omega,by omega,by omega,?_⟩
    rw[Iy]
    show(AZ (AW D)).length≤1000
    rw[Bk]
    have:=Cw (AW D)
    omega
   ·rw[Jt];simp
   ·show s'.un+1=s.un+1
    rw[q5]
   ·rw[Iy];exact hun
end Go.Proofs.YthboeppmlhbofaaGreatDoor
