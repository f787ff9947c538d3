import Derived.Test.YthboeppmlhbofaaDoorHai
namespace Go.Proofs.YthboeppmlhbofaaDoor
open Go.RowKit Txt
set_option maxRecDepth 100000
structure VX(hv:List Nat)(A w kn:Nat):Prop where
 sub:AH kn (AI w)
 twin:A4 kn=false
 all:∀ u,1≤u→u<11→w.testBit u=true→(vN kn).testBit u=true
 asm:AH (A&&&AI w) kn
 so:∀ c∈hv,c<2^20→AH c (AI w)→c&&&kn≠0
theorem W5{w K:Nat}(hK:K<2^20):w&&&vN (K&&&AI w)=w&&&vN K:=by
 apply Nat.eq_of_testBit_eq
 intro u
 rw[Nat.testBit_and,Nat.testBit_and]
 cases hw:w.testBit u with
 | false=>rfl
 | true =>
  simp only[Bool.true_and]
  rw[Bool.eq_iff_iff]
  constructor
  ·intro h
   obtain⟨_,_,i,e,hi⟩:=H8 (EI hK) h
   rw[Nat.testBit_and,Bool.and_eq_true] at hi
   rw[← e]
   exact Fg hK hi.1
  ·intro h
   obtain⟨_,_,i,e,hi⟩:=H8 hK h
   rw[← e]
   refine Fg (EI hK) ?_
   rw[Nat.testBit_and,hi,Av,decide_eq_true (A8 hK hi),e,hw]
   rfl
theorem Km{w K:Nat}(hK:K<2^20):Cb w (K&&&AI w)=Cb w K:=by
 unfold Cb
 rw[W5 hK]
theorem ZP{cs hv:List Nat}{A w dec K:Nat}(hs:∀ c∈hv,c∈cs)(q:MA cs dec K)(hA:AH A dec)(hn:Cb w K=0):VX hv A w (K&&&AI w):=by
 have hall:∀ u,1≤u→u<11→w.testBit u=true→(vN (K&&&AI w)).testBit u=true:=fun u h1 h2 hw=>by
  have:=UQ (kn:=K&&&AI w) (by rw[Km q.top];exact hn) u h1 h2 hw
  exact this
 refine⟨Dy _ _,(GY K (AI w)).twin q.twin,hall,(hA.trans q.sub).mono _,fun c hc hc20 hcw e=>?_⟩
 obtain⟨q1,_⟩:=q.cl c (hs c hc)
 apply q1
 apply Nat.eq_of_testBit_eq
 intro i
 rw[Nat.zero_testBit,DO]
 cases hi:c.testBit i with
 | false=>rfl
 | true =>
  have hi20:=A8 hc20 hi
  have hiw:=hcw i hi
  have hKi:K.testBit i=false:=by
   have:=CC.2 e i hi
   rw[Nat.testBit_and,hiw,Bool.and_true] at this
   exact this
  have hw:w.testBit (i / 2+1)=true:=by
   rw[Av,Bool.and_eq_true] at hiw
   exact hiw.2
  obtain⟨_,_,x,ex,hx⟩:=H8 (EI q.top) (hall (i / 2+1) (by omega) (by omega) hw)
  rw[Nat.testBit_and,Bool.and_eq_true] at hx
  have hxp:x=i∨x=Dk i:=by
   unfold Dk
   split <;> omega
  rcases hxp with rfl|rfl
  ·rw[hKi] at hx;simp at hx
  ·rw[Bh _ hi20,hx.1];rfl
theorem QY{cs:List Nat}{A w:Nat}(h:Dl cs A w){i d:Nat}(hd:BM cs A w i=some d):i≤10:=by
 cases i with
 | zero=>omega
 | succ i =>
  obtain⟨d0,kn,a1,a2,a3,_⟩:=BV hd
  obtain⟨b1,_,_⟩:=Bg h a1
  obtain⟨q,qw⟩:=De h b1 a2
  obtain⟨j,_,hj,_,hw,hb,hp⟩:=FG q.top a3
  have h1:=(Ih h a1 a2).1
  have h2:=GH hj q.top hb
  have h3:=J8 (Co qw hw) (LA q.twin hp)
  have:=Fl w
  omega
def W2(X:Cx)(T:List (Nat × Nat))(w:Nat)(vals:Nat):Rs→Prop
 | .fin s x=>TE X s x
 | .go s=>SI X s∧s.path=[]∧(∃ k,(∀ t∈T++[(w,k)],Mz (X.E.hv++s.lr) X.E.as t.1 t.2)∧s.done=CI (X.E.hv++s.lr) X.E.as (T++[(w,k)]))∧∃ kn,s.vals=vals|||kn∧VX X.E.hv X.E.as w kn
theorem WN{X:Cx}(hX:Gi X){T:List (Nat × Nat)}{w:Nat}(hW:TH X T w):∀ (n i dec:Nat) (s:Sr),Hd X T w i dec s→(13^12 - FJ (X.E.hv++s.lr) X.E.as w 12)*12+(11 - i)<n→∃ R,D9 X.E w n dec s=some R∧W2 X T w s.vals R:=by
 intro n
 induction n with
 | zero=>intro i dec s _ hm;omega
 | succ n ih =>
  intro i dec s h hm
  have hok:=h.si.csok hX hW.me
  have hi10:=QY hok h.dec
  obtain⟨d20,dsub,dA⟩:=Bg hok h.dec
  have hpl:=Ua hok 12
  simp only[D9]
  cases hp:BQ (X.E.hv++s.lr) dec with
  | none =>
   simp only
   have hcl:=Bw.1 hp
   by_cases hde:dec=X.E.as
   ·rw[if_pos hde]
    rw[hde] at hcl
    obtain⟨s',x,e,hf⟩:=W8 hX h.si hcl
    exact⟨_,rfl,by rw[e];exact hf⟩
   ·rw[if_neg hde]
    cases i with
    | zero =>
     exfalso
     apply hde
     have:=h.dec
     simp only[BM,Option.some.injEq] at this
     exact this.symm
    | succ k =>
     rcases Uj hX hW h hcl with⟨s',x,e,hs',hu⟩ | ⟨s',e,hH,hv,hpot⟩
     ·rw[e]
      exact⟨_,rfl,.inl ⟨hs',hu⟩⟩
     ·rw[e]
      simp only
      have hok':=hH.si.csok hX hW.me
      have hpl':=Ua hok' 12
      change FJ (X.E.hv++s'.lr) X.E.as w 12<13^12 at hpl'
      obtain⟨R,e',hR⟩:=ih 0 X.E.as { s' with path:=[] } hH (by
       show(13^12 - FJ (X.E.hv++s'.lr) X.E.as w 12)*12+(11 - 0)<n
       generalize 13^12=P at *
       omega)
      refine⟨R,e',?_⟩
      have hv':({ s' with path:=[] }:Sr).vals=s.vals:=hv
      rw[hv'] at hR
      exact hR
  | some K =>
   simp only
   have q:=DG hok.top d20 hp
   have hl:=J4 hok.top (Ba w) hok.sep d20 hp
   have hno:AU (X.E.hv++s.lr) X.E.as=false:=by
    refine Ez hok.top d20 (fun c hc=>hc) dsub ?_
    cases hb:AU (X.E.hv++s.lr) dec with
    | false=>rfl
    | true=>rw[Bw.2 hb] at hp;simp at hp
   have hpath:s.path++[⟨dec,w,K&&&AI w⟩]=Bn (X.E.hv++s.lr) X.E.as w (i+1):=by
    simp only[Bn,h.dec,hl]
    rw[h.path]
   by_cases hn:Cb w K=0
   ·rw[if_pos hn]
    refine⟨_,rfl,h.si.path _ _ _,rfl,⟨i,fun t ht=>?_,?_⟩,K&&&AI w,rfl,ZP (fun c hc=>List.mem_append_left _ hc) q dsub hn⟩
    ·rcases List.mem_append.1 ht with ht | ht
     ·exact h.trk t ht
     ·rw[List.mem_singleton.1 ht]
      exact⟨hok,dec,_,h.dec,hl⟩
    ·show s.done++(s.path++[⟨dec,w,K&&&AI w⟩])=_
     rw[hpath,h.done]
     simp[CI]
   ·rw[if_neg hn]
    have hn':Cb w (K&&&AI w)≠0:=by rw[Km q.top];exact hn
    refine ih (i+1) _ { s with path:=s.path++[⟨dec,w,K&&&AI w⟩] } ⟨h.si.path _ s.done s.vals,h.trk,h.done,?_,hpath,fun _=>hno⟩ ?_
    ·show BM (X.E.hv++s.lr) X.E.as w (i+1)=_
     simp only[BM,h.dec,hl]
     rw[if_neg hn',Km q.top]
    ·show(13^12 - FJ (X.E.hv++s.lr) X.E.as w 12)*12+(11 - (i+1))<n
     generalize 13^12=P at *
     omega
def Hy:Nat:=13^12*12+12
structure Wl(X:Cx)(T:List (Nat × Nat))(s:Sr):Prop where
 si:SI X s
 path:s.path=[]
 trk:∀ t∈T,Mz (X.E.hv++s.lr) X.E.as t.1 t.2
 done:s.done=CI (X.E.hv++s.lr) X.E.as T
 vals:AH s.vals (AI X.sn)∧A4 s.vals=false∧∀ i,s.vals.testBit i=true→∃ t∈T,(AI t.1).testBit i=true
 fin:∀ t∈T,∃ kn,AH kn s.vals∧VX X.E.hv X.E.as t.1 kn
theorem Rv{a b:Nat}(h:AH a b):AH (AI a) (AI b):=fun i hi=>by
 rw[Av,Bool.and_eq_true] at hi
 rw[Av,hi.1,h _ hi.2];rfl
theorem Wq{X:Cx}(hX:Gi X):∀ (ws:List Nat) (T:List (Nat × Nat)) (s:Sr),Wl X T s→(∀ w∈ws,w=0∨w∈X.ws)→(∀ t∈T,t.1=0∨t.1∈X.ws)→((T.map fun t=>t.1)++ws).Pairwise (fun a b=>a&&&b=0) →
  ∃ R,Js X.E Hy ws s=some R∧match R with
   | .fin s x=>TE X s x
   | .go s'=>∃ T',Wl X T' s'∧(T'.map fun t=>t.1)=(T.map fun t=>t.1)++ws:=by
 intro ws
 induction ws with
 | nil=>intro T s h _ _ _;exact⟨_,rfl,T,h,by simp⟩
 | cons w ws ih =>
  intro T s h hw hT hd
  have hd1:((T.map fun t=>t.1)++[w]).Pairwise fun a b=>a&&&b=0:=by
   have:=List.pairwise_append.1 hd
   exact List.pairwise_append.2 ⟨this.1,List.pairwise_singleton _ _,fun a ha b hb=>by rw[List.mem_singleton.1 hb];exact this.2.2 a ha w (List.mem_cons_self ..)⟩
  have hW:TH X T w:=⟨hw w (List.mem_cons_self ..),hT,hd1⟩
  have hH:Hd X T w 0 X.E.as s:=⟨h.si,h.trk,h.done,rfl,by rw[h.path];rfl,fun q=>by omega⟩
  obtain⟨R,e,hR⟩:=WN hX hW Hy 0 X.E.as s hH (by
   show(13^12 - FJ (X.E.hv++s.lr) X.E.as w 12)*12+(11 - 0)<13^12*12+12
   generalize 13^12=P
   omega)
  simp only[Js]
  rw[e]
  cases R with
  | fin s' x=>exact⟨_,rfl,hR⟩
  | go s' =>
   simp only
   obtain⟨r1,r2,⟨k,r3,r4⟩,kn,r5,r6⟩:=hR
   have hoff:∀ i,s.vals.testBit i=true→(AI w).testBit i=false:=fun i hi=>by
    obtain⟨t,ht,hti⟩:=h.vals.2.2 i hi
    exact Nr (hW.off ht) hti
   have hB:Wl X (T++[(w,k)]) s':=by
    refine⟨r1,r2,r3,r4,⟨?_,?_,fun i hi=>?_⟩,fun t ht=>?_⟩
    ·rw[r5]
     refine h.vals.1.or ?_
     rcases hW.me with e0 | e0
     ·refine r6.sub.trans ?_
      rw[e0]
      intro i hi
      rw[Av] at hi
      simp at hi
     ·exact r6.sub.trans (Rv (hX.cmp.sub w e0))
    ·rw[r5,DS]
     have t1:=(DS _).1 h.vals.2.1
     have t2:=(DS _).1 r6.twin
     have sym:=(Ba w).sym
     intro i hi hb
     rw[Nat.testBit_or,Bool.or_eq_true] at hb
     rw[Nat.testBit_or,Bool.or_eq_false_iff]
     rcases hb with hb | hb
     ·refine⟨t1 i hi hb,?_⟩
      cases z:kn.testBit (Dk i) with
      | false=>rfl
      | true =>
       have:=r6.sub _ z
       rw[sym i hi,hoff i hb] at this
       exact this.symm
     ·refine⟨?_,t2 i hi hb⟩
      cases z:s.vals.testBit (Dk i) with
      | false=>rfl
      | true =>
       have:=hoff _ z
       rw[sym i hi,r6.sub i hb] at this
       exact this
    ·rw[r5,Nat.testBit_or,Bool.or_eq_true] at hi
     rcases hi with hi | hi
     ·obtain⟨t,ht,hti⟩:=h.vals.2.2 i hi
      exact⟨t,List.mem_append_left _ ht,hti⟩
     ·exact⟨(w,k),List.mem_append_right _ (List.mem_singleton.2 rfl),r6.sub i hi⟩
    ·rcases List.mem_append.1 ht with ht | ht
     ·obtain⟨kn',a,b⟩:=h.fin t ht
      exact⟨kn',by rw[r5];exact a.trans (AH.or_left _ _),b⟩
     ·rw[List.mem_singleton.1 ht]
      exact⟨kn,by rw[r5];intro i hi;rw[Nat.testBit_or,hi,Bool.or_true],r6⟩
   obtain⟨R',e',hR'⟩:=ih (T++[(w,k)]) s' hB (fun x hx=>hw x (List.mem_cons_of_mem _ hx)) (fun t ht=>by
    rcases List.mem_append.1 ht with ht | ht
    ·exact hT t ht
    ·rw[List.mem_singleton.1 ht];exact hW.me) (by simpa using hd)
   refine⟨R',e',?_⟩
   cases R' with
   | fin s2 x=>exact hR'
   | go s2 =>
    obtain⟨T',b1,b2⟩:=hR'
    exact⟨T',b1,by rw[b2];simp⟩
structure Aj where
 r:Int
 h:Int
 l:Int
 hv:List Nat
 sn:Nat
 lr:List Nat
 pf:List UInt8
 log:Nat
 un:Nat
def GA(V:Nat):Nat:=AI V&&&349525
theorem GB{V:Nat}(hV:V<2^11)(h0:V.testBit 0=false):Bf (GA V) V 0:=by
 refine⟨fun v hv=>?_,fun v hv=>?_,Nat.lt_of_le_of_lt Nat.and_le_right (by decide),h0,by simp,hV,by decide⟩
 ·unfold GA
  rw[Nat.testBit_and,Hi v hv,Av,decide_eq_true (by omega),show 2*v / 2=v by omega]
  simp
 ·unfold GA
  rw[Nat.testBit_and,Ir v hv]
  simp
theorem Qp{V c:Nat}(hV:V<2^11)(h0:V.testBit 0=false)(hc:c<2^20):GA (V|||vN c)=GA V|||Ag c:=by
 have h1:=(GB hV h0).or (Bf.of hc).vars
 have h2:=GB (Nat.or_lt_two_pow hV (LB c)) (by rw[Nat.testBit_or,h0,JE];rfl)
 rw[Nat.or_zero] at h1
 exact h2.same h1
def Aj.vw(s:Aj):Vw:=⟨s.r,s.h,s.l,s.hv,GA s.sn,s.lr,s.log,s.un,s.pf⟩
structure Aj.Ok(s:Aj):Prop where
 set:BY s.r s.h s.l=true
 hvt:∀ c∈s.hv,c<2^20
 hvs:∀ c∈s.hv,AH (vN c) s.sn
 lits:AT s.hv≤150
 sn:s.sn<2^11
 sz:s.sn.testBit 0=false
 lt:∀ c∈s.lr,c<2^20∧c≠0∧A4 c=false∧AH (vN c) s.sn∧Ca s.hv (Ag c)=true
 nod:s.lr.Nodup
 sem:∀ u,(∀ c∈s.hv,c&&&Be u≠0)→∀ c∈s.lr,c&&&Be u≠0
 len:s.r=0∨(s.lr.length:Int)≤s.r
 held:(AT s.lr:Int)≤s.h
 log:(s.log:Int)≤s.l
 sum:s.r=0→s.log≤AT s.lr+s.lr.length+(2*CU s.sn+1)*s.un
 un:s.un≤s.log
 pf:s.pf.length≤4*s.log
theorem Kd:∀ (lr:List Nat),(∀ c∈lr,c<2^20∧c≠0)→lr.length≤AT lr:=by
 intro lr
 induction lr with
 | nil=>intro _;simp[AT]
 | cons c lr ih =>
  intro h
  have a:=ih fun x hx=>h x (List.mem_cons_of_mem _ hx)
  obtain⟨b1,b2⟩:=h c (List.mem_cons_self ..)
  have:AG 0<AG c:=Cn (fun i q=>by rw[Nat.zero_testBit] at q;simp at q) b1 (fun e=>b2 e.symm)
  simp only[AT,List.map_cons,List.sum_cons,List.length_cons] at a ⊢
  omega
theorem Hn{r h l:Int}(hs:BY r h l=true):(r=0∨12≤r∧r≤64)∧0≤h∧h≤1048576∧0≤l∧l≤1048576:=by
 unfold BY at hs
 simp only[Bool.and_eq_true,Bool.or_eq_true,decide_eq_true_eq,beq_iff_eq] at hs
 omega
theorem Aj.Ok.vw{s:Aj}(h:s.Ok):Xy s.vw:=by
 obtain⟨_,_,h2,_,h4⟩:=Hn h.set
 have a1:=h.held
 have a2:=h.log
 have a3:=h.un
 have a4:=h.pf
 have a5:=Kd s.lr fun c hc=>⟨(h.lt c hc).1,(h.lt c hc).2.1⟩
 refine⟨h.hvt,fun c hc=>(h.lt c hc).1,(GB h.sn h.sz).top,h.lits,?_,?_,?_,?_,?_⟩
 ·show AT s.lr≤1048576;omega
 ·show s.log≤1048576;omega
 ·show s.un≤1048576;omega
 ·show s.lr.length≤1048576;omega
 ·show s.pf.length≤4194304;omega
def Aj.new(r h l:Int):Aj:=⟨r,h,l,[],0,[],[],0,0⟩
theorem Aj.new_ok{r h l:Int}(hs:BY r h l=true):(Aj.new r h l).Ok:=by
 have:=Hn hs
 refine⟨hs,fun c hc=>by simp[Aj.new] at hc,fun c hc=>by simp[Aj.new] at hc,by simp[Aj.new,AT],by simp[Aj.new],by simp[Aj.new],fun c hc=>by simp[Aj.new] at hc,by simp[Aj.new],fun u _ c hc=>by simp[Aj.new] at hc,?_,?_,?_,fun _=>by simp[Aj.new],by simp[Aj.new],by simp[Aj.new]⟩
 ·show r=0∨((0:Nat):Int)≤r;omega
 ·show((0:Nat):Int)≤h;omega
 ·show((0:Nat):Int)≤l;omega
theorem SM:GA 0=0:=by decide
theorem Aj.new_vw(r h l:Int):(Aj.new r h l).vw=Vw.none r h l:=by
 simp only[Aj.vw,Aj.new,Vw.none,SM]
def Aj.add(s:Aj)(xs:List Int):Aj:=if (An xs (AT s.hv)).takes? then { s with hv:=s.hv++[Ak xs],sn:=s.sn|||vN (Ak xs) } else s
theorem U3{xs:List Int}{n:Nat}(h:(An xs n).takes?=true):xs.all AK=true∧n+AG (Ak xs)≤150:=by
 unfold An at h
 split at h
 ·rename_i hall
  refine⟨hall,?_⟩
  split at h
  ·simp[Tk.takes?] at h
  ·split at h
   ·simp[Tk.takes?] at h
   ·omega
 ·simp[Tk.takes?] at h
theorem Ni{hv:List Nat}{D:Nat}(c:Nat)(hj:Ca hv (Ag D)=true):Ca (hv++[c]) (Ag D)=true:=by
 have hv20:Ag D<2^20:=GJ D
 by_cases h0:Ag D=0
 ·rw[h0];exact Jh _
 ·obtain⟨j,hj1,hl⟩:=Ip h0 hv20
  have hlm:AH (CV (Ag D)) 349525:=(Mb _).trans (EF D)
  have hz:AG 0<AG (CV (Ag D)):=Cn (fun i q=>by rw[Nat.zero_testBit] at q;simp at q) (PW hv20) (fun q=>by
   have:(CV (Ag D)).testBit j=true:=by rw[hl,Nat.testBit_two_pow];simp
   rw[← q] at this;simp at this)
  have hfix:=Ng (hv++[c]) 10 _ hlm (by omega)
  have hsub:=Nh (hv++[c]) 10 (CV (Ag D))
  have hst:=Lh (X:=DL (hv++[c]) 10 (CV (Ag D))) (cs:=hv) (fun x hx=>Jk (NW _ _ hfix x (List.mem_append_left _ hx))) 10 _ hsub
  unfold Ca at hj ⊢
  have hj':Ag D&&&DL hv 10 (CV (Ag D))=Ag D:=by simpa using hj
  have:AH (Ag D) (DL (hv++[c]) 10 (CV (Ag D))):=fun i hi=>by
   rw[← hj'] at hi
   exact hst i (Dy _ _ i hi)
  simpa using this.eq_and
theorem Aj.add_ok{s:Aj}(h:s.Ok)(xs:List Int):(s.add xs).Ok∧(s.add xs).vw=s.vw.add xs:=by
 unfold Aj.add Vw.add
 show _∧_=if (An xs (AT s.hv)).takes?=true then _ else _
 by_cases ht:(An xs (AT s.hv)).takes?=true
 ·rw[if_pos ht,if_pos ht]
  obtain⟨hall,hsz⟩:=U3 ht
  have hc:=Qv xs hall
  have hsub:AH s.sn (s.sn|||vN (Ak xs)):=AH.or_left _ _
  refine⟨⟨h.set,fun c hcc=>?_,fun c hcc=>?_,?_,Nat.or_lt_two_pow h.sn (LB _),?_,fun c hcc=>?_,h.nod,fun u hu=>h.sem u (fun c hcc=>hu c (List.mem_append_left _ hcc)),h.len,h.held,h.log,fun hr=>?_,h.un,h.pf⟩,?_⟩
  ·rcases List.mem_append.1 hcc with q | q
   ·exact h.hvt c q
   ·rw[List.mem_singleton.1 q];exact hc
  ·rcases List.mem_append.1 hcc with q | q
   ·exact(h.hvs c q).trans hsub
   ·rw[List.mem_singleton.1 q]
    intro i hi
    show(s.sn|||vN (Ak xs)).testBit i=true
    rw[Nat.testBit_or,hi,Bool.or_true]
  ·show AT (s.hv++[Ak xs])≤150
   rw[FE];exact hsz
  ·show(s.sn|||vN (Ak xs)).testBit 0=false
   rw[Nat.testBit_or,h.sz,JE];rfl
  ·obtain⟨a1,a2,a3,a4,a5⟩:=h.lt c hcc
   exact⟨a1,a2,a3,a4.trans hsub,Ni _ a5⟩
  ·have h1:=h.sum hr
   have h2:=Jy hsub
   have h3:(2*CU s.sn+1)*s.un≤(2*CU (s.sn|||vN (Ak xs))+1)*s.un:=Nat.mul_le_mul_right _ (by omega)
   show s.log≤AT s.lr+s.lr.length+(2*CU (s.sn|||vN (Ak xs))+1)*s.un
   omega
  ·simp only[Aj.vw,Qp h.sn h.sz hc]
 ·rw[if_neg ht,if_neg ht]
  exact⟨h,rfl⟩
def Aj.rst(s:Aj):Aj:=Aj.new s.r s.h s.l
def Aj.keep(s:Aj)(p:EY):Aj:={ s with pf:=s.pf++BZ p.1 p.2,log:=s.log+(p.2.length+1),lr:=if p.1=97 then s.lr++[AO p.2] else if p.1=100 then s.lr.erase (AO p.2) else s.lr,un:=if p.1=101 then s.un+1 else s.un }
theorem keeps(held st:Nat):∀ (ls:List EY) (s:Aj),(ls.foldl Aj.keep s).r=s.r∧(ls.foldl Aj.keep s).h=s.h∧(ls.foldl Aj.keep s).l=s.l∧(ls.foldl Aj.keep s).hv=s.hv∧(ls.foldl Aj.keep s).sn=s.sn∧(ls.foldl Aj.keep s).pf=s.pf++EC ls∧(ls.foldl Aj.keep s).lr=(Ay ⟨s.lr,held,s.log,st⟩ ls).lr∧(ls.foldl Aj.keep s).log=(Ay ⟨s.lr,held,s.log,st⟩ ls).log:=by
 intro ls
 induction ls generalizing held st with
 | nil=>intro s;simp[EC,Ay]
 | cons p ls ih =>
  intro s
  simp only[List.foldl_cons]
  have key:∃ held' st',Bu ⟨s.lr,held,s.log,st⟩ p=⟨(s.keep p).lr,held',(s.keep p).log,st'⟩:=by
   unfold Bu Aj.keep
   by_cases h1:p.1=97
   ·rw[if_pos h1]
    refine⟨held+p.2.length,st+1,?_⟩
    simp only[h1,if_true,Nat.add_assoc]
   ·rw[if_neg h1]
    by_cases h2:p.1=100
    ·rw[if_pos h2]
     refine⟨held - p.2.length,st,?_⟩
     simp only[h2,if_true,Nat.add_assoc]
     rw[if_neg (by decide)]
    ·rw[if_neg h2]
     refine⟨held,st,?_⟩
     simp only[h1,h2,if_false,Nat.add_assoc]
  obtain⟨held',st',e⟩:=key
  obtain⟨b1,b2,b3,b4,b5,b6,b7,b8⟩:=ih held' st' (s.keep p)
  have e2:Ay ⟨s.lr,held,s.log,st⟩ (p :: ls)=Ay ⟨(s.keep p).lr,held',(s.keep p).log,st'⟩ ls:=by
   show Ay (Bu ⟨s.lr,held,s.log,st⟩ p) ls=_
   rw[e]
  rw[e2]
  refine⟨b1,b2,b3,b4,b5,?_,b7,b8⟩
  rw[b6,Jj]
  simp[Aj.keep]
theorem PT{j:JV}:∀ (ls:List EY),j.log≤(Ay j ls).log:=by
 intro ls
 induction ls generalizing j with
 | nil=>exact Nat.le_refl _
 | cons p ls ih =>
  refine Nat.le_trans ?_ (ih (j:=Bu j p))
  unfold Bu
  split
  ·simp only;omega
  ·split
   ·simp only;omega
   ·simp only;omega
theorem Tp:∀ (ls:List EY) (s:Aj),(∀ p∈ls,p.1≠101)→(ls.foldl Aj.keep s).un=s.un:=by
 intro ls
 induction ls with
 | nil=>intro s _;rfl
 | cons p ls ih =>
  intro s h
  simp only[List.foldl_cons]
  rw[ih _ fun q hq=>h q (List.mem_cons_of_mem _ hq)]
  simp[Aj.keep,h p (List.mem_cons_self ..)]
theorem Vo{x:Int}(h:AK x=true):(Ci x).length≤4:=by
 have key:(Lib.itoa x).length≤3:=by
  rcases Eo h with rfl|rfl|rfl|rfl|rfl|rfl|rfl|rfl|rfl|rfl|rfl|rfl|rfl|rfl|rfl|rfl|rfl|rfl|rfl|rfl <;> decide +kernel
 simp[Ci]
 omega
theorem Nn(lt:UInt8)(xs:List Int)(h:xs.all AK=true):(BZ lt xs).length≤4*(xs.length+1):=by
 have key:(Aw xs).length≤4*xs.length:=by
  induction xs with
  | nil=>simp[Aw]
  | cons x xs ih =>
   simp only[List.all_cons,Bool.and_eq_true] at h
   have a:=ih h.2
   have b:=Vo h.1
   simp only[Aw,List.flatMap_cons,List.length_append,List.length_cons] at a ⊢
   omega
 simp only[BZ,List.length_append,List.length_cons,List.length_nil]
 omega
theorem Rt:∀ (ls:List EY) (s:Aj),(∀ p∈ls,p.2.all AK=true)→s.pf.length≤4*s.log→(ls.foldl Aj.keep s).pf.length≤4*(ls.foldl Aj.keep s).log:=by
 intro ls
 induction ls with
 | nil=>intro s _ h;exact h
 | cons p ls ih =>
  intro s hl h
  simp only[List.foldl_cons]
  refine ih _ (fun q hq=>hl q (List.mem_cons_of_mem _ hq)) ?_
  have:=Nn p.1 p.2 (hl p (List.mem_cons_self ..))
  simp only[Aj.keep,List.length_append]
  omega
def Aj.cx(s:Aj)(xs:List Int)(b:Int):Cx:=⟨⟨s.hv,xs,b,s.r⟩,s.h,s.l,s.lr,s.log,s.un,s.sn|||vN (AO xs),Ct (s.hv.filter fun c=>c != 0) (s.sn|||vN (AO xs))⟩
def Aj.sr(s:Aj):Sr:=⟨s.lr,s.h - (AT s.lr:Int),s.l - (s.log:Int),0,[],[],[],0⟩
def Aj.run(s:Aj)(xs:List Int)(b:Int):Option (Sr × Gg):=WJ (s.cx xs b).E Hy (s.cx xs b).ws s.sr
def Aj.slv(s:Aj)(xs:List Int)(b:Int):Aj:=if BJ xs b=0 then (match s.run xs b with
 | none=>s
 | some (t,_)=>t.ls.foldl Aj.keep { s with sn:=s.sn|||vN (AO xs) }) else s
def Aj.ans(s:Aj)(xs:List Int)(b:Int):Gg:=if BJ xs b=0 then (match s.run xs b with
 | none=>IY
 | some (_,x)=>x) else IY
theorem Yk{c:Nat}(hc:c<2^20)(h:c≠0):vN c≠0:=fun e=>h (by
 apply Nat.eq_of_testBit_eq
 intro i
 rw[Nat.zero_testBit]
 cases hb:c.testBit i with
 | false=>rfl
 | true=>have:=Fg hc hb;rw[e] at this;simp at this)
theorem TS{hv ws:List Nat}{sn:Nat}(h:QO (hv.filter fun c=>c != 0) sn ws):QO hv sn ws:=by
 have hsub:∀ c∈hv.filter (fun c=>c != 0),c∈hv:=fun c hc=>(List.mem_filter.1 hc).1
 refine⟨h.ne,h.sub,h.dis,h.cov,fun c hc=>?_,fun w hw C hC=>h.con w hw C fun c hc=>hC c (hsub c hc)⟩
 by_cases e:c=0
 ·left;rw[e];decide
 ·exact h.own c (List.mem_filter.2 ⟨hc,by simpa using e⟩)
theorem FT{xs:List Int}{b:Int}(h:BJ xs b=0):xs.length≤20∧xs.all AK=true∧0≤b:=by
 unfold BJ at h
 split at h
 ·simp at h
 ·split at h
  ·simp at h
  ·rename_i h2
   split at h
   ·simp at h
   ·exact⟨by omega,by simpa using h2,by omega⟩
theorem Aj.Ok.cx{s:Aj}(h:s.Ok){xs:List Int}{b:Int}(ha:BJ xs b=0):Gi (s.cx xs b):=by
 obtain⟨_,hx,hb⟩:=FT ha
 have hA:=Dw xs
 have hsub:AH s.sn (s.sn|||vN (AO xs)):=AH.or_left _ _
 have hsn:s.sn|||vN (AO xs)<2^11:=Nat.or_lt_two_pow h.sn (LB _)
 refine⟨h.hvt,fun c hc=>(h.hvs c hc).trans hsub,hx,?_,hsn,?_,hb,?_⟩
 ·intro i hi
  show(s.sn|||vN (AO xs)).testBit i=true
  have hi':(vN (AO xs)).testBit i=true:=hi
  rw[Nat.testBit_or,hi',Bool.or_true]
 ·have:=(Hn h.set).1
  show s.r=0∨12≤s.r
  omega
 ·refine TS (Rb hsn _ fun c hc=>?_)
  obtain⟨q1,q2⟩:=List.mem_filter.1 hc
  exact⟨Yk (h.hvt c q1) (by simpa using q2),(h.hvs c q1).trans hsub⟩
theorem Aj.Ok.si{s:Aj}(h:s.Ok)(xs:List Int)(b:Int)(ha:BJ xs b=0):SI (s.cx xs b) s.sr:=by
 have hsub:AH s.sn (s.sn|||vN (AO xs)):=AH.or_left _ _
 have hb:=(FT ha).2.2
 have h1:=h.held
 have h2:=h.log
 refine⟨trivial,fun p hp=>by simp[Aj.sr] at hp,⟨s.log,rfl,?_,fun hr=>?_⟩,rfl,fun c hc=>?_,h.nod,h.sem,h.len,?_,?_,?_⟩
 ·show(s.log:Int)=s.l - (s.l - (s.log:Int));omega
 ·have h1:=h.sum hr
  have h2:=Jy hsub
  have h3:(2*CU s.sn+1)*s.un≤(2*CU (s.sn|||vN (AO xs))+1)*s.un:=Nat.mul_le_mul_right _ (by omega)
  show s.log≤AT s.lr+s.lr.length+(2*CU (s.sn|||vN (AO xs))+1)*s.un
  omega
 ·obtain⟨a1,a2,a3,a4,a5⟩:=h.lt c hc
  exact⟨a1,a2,a3,a4.trans hsub,a5⟩
 ·show b=0∨((0:Nat):Int)≤b;omega
 ·show 0≤s.h - (AT s.lr:Int);omega
 ·show 0≤s.l - (s.log:Int);omega
theorem Gu{r h l:Int}{hv:List Nat}:∀ (ls:List EY) (j:JV),Eg r h l hv j ls→∀ p∈ls,p.2.length≤20:=by
 intro ls
 induction ls with
 | nil=>intro j _ p hp;simp at hp
 | cons q ls ih =>
  intro j h p hp
  obtain⟨_,a2,_,a4⟩:=h
  rcases List.mem_cons.1 hp with rfl | hp
  ·have cl:∀ lr tail,Bz hv lr p.2 tail=true→p.2.length≤20:=fun lr tail hc=>by
    unfold Bz at hc
    simp only[Bool.and_eq_true,beq_iff_eq] at hc
    have:=hc.1.1.1.2
    have:=C7 (AO p.2)
    omega
   rcases a2.2 with⟨_,b,_⟩ | ⟨_,b⟩ | ⟨_,_,_,b,_⟩
   ·exact cl _ _ b
   ·exact cl _ _ b
   ·rw[← b];exact C7 _
  ·exact ih _ a4 p hp
theorem PN:∀ (ls:List EY),(∀ p∈ls,p.2.length≤20)→(IE ls).length≤20:=by
 intro ls
 induction ls with
 | nil=>intro _;simp[IE]
 | cons p ls ih =>
  intro h
  cases ls with
  | nil=>exact h p (List.mem_cons_self ..)
  | cons q ls=>exact ih fun x hx=>h x (List.mem_cons_of_mem _ hx)
theorem Ra{ls:List EY}(h:∀ p∈ls,p.1≠101):Dq ls=false:=by
 unfold Dq
 rw[List.any_eq_false]
 intro p hp
 simpa using h p hp
theorem Aj.Ok.kept{s:Aj}(h:s.Ok){xs:List Int}{b:Int}(hX:Gi (s.cx xs b)){t:Sr}(ht:SI (s.cx xs b) t):(t.ls.foldl Aj.keep { s with sn:=s.sn|||vN (AO xs) }).Ok∧∃ log:Nat,Ay (s.cx xs b).j0 t.ls=⟨t.lr,AT t.lr,log,t.sp⟩∧(log:Int)=s.l - t.l∧(t.ls.foldl Aj.keep { s with sn:=s.sn|||vN (AO xs) }).lr=t.lr∧(t.ls.foldl Aj.keep { s with sn:=s.sn|||vN (AO xs) }).log=log∧(t.ls.foldl Aj.keep { s with sn:=s.sn|||vN (AO xs) }).un=s.un:=by
 obtain⟨log,t1,t2,t3⟩:=ht.to
 obtain⟨k1,k2,k3,k4,k5,k6,k7,k8⟩:=keeps (AT s.lr) 0 t.ls { s with sn:=s.sn|||vN (AO xs) }
 have e:Ay ⟨s.lr,AT s.lr,s.log,0⟩ t.ls=⟨t.lr,AT t.lr,log,t.sp⟩:=t1
 simp only at k7 k8
 rw[e] at k7 k8
 simp only at k7 k8
 have ku:=Tp t.ls { s with sn:=s.sn|||vN (AO xs) } ht.opn
 have kp:=Rt t.ls { s with sn:=s.sn|||vN (AO xs) } (Io _ _ ht.ok) h.pf
 have kl:=(PT (j:=⟨s.lr,AT s.lr,s.log,0⟩) t.ls)
 rw[e] at kl
 simp only at kl
 have hrl:=ht.rl
 have hrh:=ht.rh
 have hheld:=ht.held
 generalize t.ls.foldl Aj.keep { s with sn:=s.sn|||vN (AO xs) }=s' at *
 simp only at k1 k2 k3 k4 k5 k6 ku
 have t2':(log:Int)=s.l - t.l:=t2
 have hheld':t.h=s.h - (AT t.lr:Int):=hheld
 refine⟨⟨by rw[k1,k2,k3];exact h.set,by rw[k4];exact h.hvt,?_,by rw[k4];exact h.lits,by rw[k5];exact hX.sn,?_,?_,by rw[k7];exact ht.nod,by rw[k4,k7];exact ht.sem,by rw[k1,k7];exact ht.len,by rw[k2,k7];omega,by rw[k3,k8];omega,?_,by rw[ku,k8];have:=h.un;omega,kp⟩,log,t1,t2,k7,k8,ku⟩
 ·rw[k4,k5];exact hX.hvs
 ·rw[k5,Nat.testBit_or,h.sz,JE];rfl
 ·rw[k7,k4,k5]
  intro c hc
  have:=ht.lr c hc
  exact⟨this.top,this.ne,this.twin,this.sub,this.join⟩
 ·rw[k1,k5,k7,k8,ku]
  exact t3
theorem JC(u i:Nat)(hi:i<20):(Be u).testBit i=if i % 2=0 then u.testBit (i / 2) else !u.testBit (i / 2):=by
 unfold Be
 rw[G5,decide_eq_true (by omega),Bool.true_and]
theorem Sn{vals u seen:Nat}:∀ k,k≤10→(∀ v,v<k→(seen.testBit (2*v)=true∧u.testBit v=vals.testBit (2*v)∧vals.testBit (2*v+1)=!vals.testBit (2*v))∨(seen.testBit (2*v)=false∧vals.testBit (2*v)=false∧vals.testBit (2*v+1)=false))→FO vals k=BG seen u k:=by
 intro k
 induction k with
 | zero=>intro _ _;rfl
 | succ k ih =>
  intro hk h
  simp only[FO,BG]
  rw[ih (by omega) fun v hv=>h v (by omega)]
  congr 1
  rcases h k (by omega) with⟨a,b,c⟩ | ⟨a,b,c⟩
  ·rw[a,b,c]
   cases vals.testBit (2*k) <;> simp
  ·rw[a,b,c]
   simp
theorem XP{X:Cx}(hX:Gi X)(hz:X.sn.testBit 0=false){T:List (Nat × Nat)}{s:Sr}(h:Wl X T s)(hT:T.map (fun t=>t.1)=0 :: X.ws):∃ u,M9 X.E.hv (GA X.sn) X.E.as ⟨1,0,AM s.vals,[],[]⟩ u:=by
 obtain⟨v1,v2,_⟩:=h.vals
 have hv20:=C8 v1 (Ba X.sn).top
 have hsn:=GB hX.sn hz
 have htw:=(DS _).1 v2
 obtain⟨u,hu1,hu2⟩:=Ey (fun k=>s.vals.testBit (2*k)) 10
 have hfin:∀ w,w=0∨w∈X.ws→∃ kn,AH kn s.vals∧VX X.E.hv X.E.as w kn:=fun w hw=>by
  have:w∈T.map fun t=>t.1:=by
   rw[hT]
   rcases hw with e | e
   ·rw[e];exact List.mem_cons_self ..
   ·exact List.mem_cons_of_mem _ e
  obtain⟨t,ht,rfl⟩:=List.mem_map.1 this
  exact h.fin t ht
 have hodd:∀ v,v<10→Dk (2*v)=2*v+1:=fun v _=>by unfold Dk;rw[if_pos (by omega)]
 have hone:∀ v,v<10→X.sn.testBit (v+1)=true→s.vals.testBit (2*v+1)=!s.vals.testBit (2*v):=fun v hv hs=>by
  obtain⟨w,hw,hwu⟩:=hX.cmp.cov _ hs
  obtain⟨kn,k1,k2⟩:=hfin w (.inr hw)
  have hkn20:=C8 k1 hv20
  have hk:=k2.all (v+1) (by omega) (by omega) hwu
  rw[Mw hkn20 hv,Bool.or_eq_true] at hk
  cases ha:s.vals.testBit (2*v) with
  | true =>
   have:=htw (2*v) (by omega) ha
   rw[hodd v hv] at this
   rw[this];rfl
  | false =>
   rcases hk with hk | hk
   ·rw[k1 _ hk] at ha;simp at ha
   ·rw[k1 _ hk];rfl
 have hnone:∀ v,v<10→X.sn.testBit (v+1)=false→s.vals.testBit (2*v)=false∧s.vals.testBit (2*v+1)=false:=fun v hv hs=>by
  constructor
  ·cases ha:s.vals.testBit (2*v) with
   | false=>rfl
   | true =>
    have:=v1 _ ha
    rw[Av,show 2*v / 2=v by omega,hs] at this
    simp at this
  ·cases ha:s.vals.testBit (2*v+1) with
   | false=>rfl
   | true =>
    have:=v1 _ ha
    rw[Av,show(2*v+1) / 2=v by omega,hs] at this
    simp at this
 have hsub:AH s.vals (Be u):=fun i hi=>by
  have hi20:=A8 hv20 hi
  rw[JC u i hi20]
  rcases DU i with e | e
  ·rw[if_pos (by omega),hu2 _ (by omega),← e];exact hi
  ·rw[if_neg (by omega),hu2 _ (by omega)]
   have:=htw i hi20 hi
   have ep:Dk i=2*(i / 2):=by unfold Dk;rw[if_neg (by omega)];omega
   rw[ep] at this
   rw[this];rfl
 refine⟨u,hu1,?_,fun k hk hs=>?_,?_,rfl,rfl,rfl⟩
 ·show FO s.vals 10=BG (GA X.sn) u 10
  refine Sn 10 (Nat.le_refl _) fun v hv=>?_
  rw[hsn.pos v hv,hu2 v hv]
  cases hs:X.sn.testBit (v+1) with
  | true=>exact .inl ⟨rfl,rfl,hone v hv hs⟩
  | false=>exact .inr ⟨rfl,hnone v hv hs⟩
 ·rw[hsn.pos k hk] at hs
  rw[hu2 k hk]
  exact(hnone k hk hs).1
 ·unfold EH
  rw[Bool.and_eq_true,List.all_eq_true]
  refine⟨fun c hc=>?_,?_⟩
  ·have key:∃ w,(w=0∨w∈X.ws)∧AH c (AI w):=by
    rcases hX.cmp.own c hc with e | ⟨w,hw,e⟩
    ·exact⟨0,.inl rfl,by
      rw[EW (hX.hvt c hc),e]
      intro i q
      rw[Nat.zero_testBit] at q
      simp at q⟩
    ·exact⟨w,.inr hw,(EW (hX.hvt c hc)).2 e⟩
   obtain⟨w,hw,hcw⟩:=key
   obtain⟨kn,k1,k2⟩:=hfin w hw
   obtain⟨i,i1,i2⟩:=Iu (k2.so c hc (hX.hvt c hc) hcw)
   have:c&&&Be u≠0:=fun e=>by
    have:=CC.2 e i i1
    rw[hsub i (k1 i i2)] at this
    simp at this
   simpa using this
  ·have:AH X.E.as (Be u):=fun i hi=>by
    have hA:=NI X
    obtain⟨w,hw,hwu⟩:=hX.cmp.cov _ (hX.asm _ (Fg hA hi))
    obtain⟨kn,k1,k2⟩:=hfin w (.inr hw)
    refine hsub i (k1 i (k2.asm i ?_))
    rw[Nat.testBit_and,hi,Av,decide_eq_true (A8 hA hi),hwu];rfl
   simpa using this.eq_and
theorem TP{X:Cx}{s:Sr}(h:SI X s):(X.E.b == 0 || decide ((s.sp:Int)≤X.E.b))=true:=by
 rw[Bool.or_eq_true]
 rcases h.bud with q | q
 ·left;simpa using q
 ·right;simpa using q
theorem Aj.run_ok{s:Aj}(h:s.Ok){xs:List Int}{b:Int}(ha:BJ xs b=0):∃ t x,s.run xs b=some (t,x)∧(s.slv xs b).Ok∧∃ st,IT s.vw xs b (s.slv xs b).vw x t.ls st:=by
 have hX:=h.cx ha
 have hS:=h.si xs b ha
 have hlx:xs.length≤20:=(FT ha).1
 have hsz:(s.cx xs b).sn.testBit 0=false:=by
  show(s.sn|||vN (AO xs)).testBit 0=false
  rw[Nat.testBit_or,h.sz,JE];rfl
 have hB:Wl (s.cx xs b) [] s.sr:=⟨hS,rfl,fun t ht=>by simp at ht,rfl,⟨fun i q=>by
   have q':(0:Nat).testBit i=true:=q
   rw[Nat.zero_testBit] at q'
   simp at q',by show A4 0=false;decide,fun i q=>by
   have q':(0:Nat).testBit i=true:=q
   rw[Nat.zero_testBit] at q'
   simp at q'⟩,fun t ht=>by simp at ht⟩
 obtain⟨R,e,hR⟩:=Wq hX (0 :: (s.cx xs b).ws) [] s.sr hB (fun w hw=>(List.mem_cons.1 hw).elim .inl .inr) (fun t ht=>by simp at ht) (by
  simp only[List.map_nil,List.nil_append]
  exact List.pairwise_cons.2 ⟨fun x _=>Nat.zero_and x,hX.cmp.dis⟩)
 have hseen:GA (s.sn|||vN (AO xs))=GA s.sn|||Ag (AO xs):=Qp h.sn h.sz (Dw xs)
 have common:∀ (t:Sr),SI (s.cx xs b) t→∀ (x:Gg),x.vs.length≤1000∧x.co.length≤1000∧x.cl.length≤1000→(t.ls.foldl Aj.keep { s with sn:=s.sn|||vN (AO xs) }).Ok∧∃ log:Nat,(log:Int)=s.l - t.l∧(t.ls.foldl Aj.keep { s with sn:=s.sn|||vN (AO xs) }).log=log ∧
   (((x.st=1∧∃ u,M9 s.hv (GA (s.sn|||vN (AO xs))) (AO xs) x u)∨(x.st=3∧LZ ((t.ls.foldl Aj.keep { s with sn:=s.sn|||vN (AO xs) }).vw.se t.sp) x b))→IT s.vw xs b (t.ls.foldl Aj.keep { s with sn:=s.sn|||vN (AO xs) }).vw x t.ls t.sp):=by
  intro t ht x hlen
  obtain⟨ok,log,k1,k2,k3,k4,k5⟩:=h.kept hX ht
  obtain⟨b1,b2,b3,b4,b5,b6,_,_⟩:=keeps (AT s.lr) 0 t.ls { s with sn:=s.sn|||vN (AO xs) }
  have hshort:=PN t.ls (Gu t.ls _ ht.ok)
  have hcl:=Ra ht.opn
  have hbud:=TP ht
  refine⟨ok,log,k2,k4,fun how=>?_⟩
  generalize t.ls.foldl Aj.keep { s with sn:=s.sn|||vN (AO xs) }=s' at *
  simp only at b1 b2 b3 b4 b5 b6
  refine⟨b1,b2,b3,b4,?_,b6,ht.ok,?_,hbud,⟨hlen.1,hlen.2.1,hlen.2.2,by omega⟩,?_⟩
  ·show GA s'.sn=GA s.sn|||Ag (AO xs)
   rw[b5,hseen]
  ·show Ay (s.cx xs b).j0 t.ls=⟨s'.lr,AT s'.lr,s'.log,t.sp⟩
   rw[k1,k3,k4]
  ·have hun:s'.vw.unsat=s.vw.unsat:=k5
   have hsn:s'.vw.seen=GA (s.sn|||vN (AO xs)):=by show GA s'.sn=_;rw[b5]
   rcases how with⟨a1,u,a2⟩ | ⟨a1,a2⟩
   ·exact .inl ⟨a1,hcl,hun,u,by rw[hsn];exact a2⟩
   ·exact .inr (.inr ⟨a1,hcl,hun,a2⟩)
 have hrun:s.run xs b=match Js (s.cx xs b).E Hy (0 :: (s.cx xs b).ws) s.sr with
   | none=>none
   | some (.fin s x)=>some (s,x)
   | some (.go s)=>some (s,⟨1,0,AM s.vals,[],[]⟩):=rfl
 rw[e] at hrun
 cases R with
 | go t =>
  obtain⟨T,hT,hTm⟩:=hR
  simp only at hrun
  refine⟨t,_,hrun,?_⟩
  have hs:s.slv xs b=t.ls.foldl Aj.keep { s with sn:=s.sn|||vN (AO xs) }:=by unfold Aj.slv;rw[if_pos ha,hrun]
  rw[hs]
  obtain⟨u,hu⟩:=XP hX hsz hT (by simpa using hTm)
  have hl20:=C7 t.vals
  obtain⟨ok,_,_,_,hso⟩:=common t hT.si ⟨1,0,AM t.vals,[],[]⟩ ⟨by show(AM t.vals).length≤1000;rw[BH];omega,by simp,by simp⟩
  exact⟨ok,_,hso (.inl ⟨rfl,u,hu⟩)⟩
 | fin t x =>
  simp only at hrun hR
  refine⟨t,x,hrun,?_⟩
  have hs:s.slv xs b=t.ls.foldl Aj.keep { s with sn:=s.sn|||vN (AO xs) }:=by unfold Aj.slv;rw[if_pos ha,hrun]
  rw[hs]
  rcases hR with⟨ht,hu⟩ | ⟨t0,D,ht,rfl,hl,hsz2,hcd,hst,hco,hun⟩
  ·obtain⟨ok,log,k2,k4,hso⟩:=common t ht x ⟨by rw[hu.vs];simp,by rw[hu.co];simp,by have:=hu.len;omega⟩
   refine⟨ok,_,hso (.inr ⟨hu.st,?_⟩)⟩
   obtain⟨_,log',q1,q2,q3,q4,q5⟩:=h.kept hX ht
   obtain⟨b1,b2,b3,b4,b5,_,_,_⟩:=keeps (AT s.lr) 0 t.ls { s with sn:=s.sn|||vN (AO xs) }
   generalize t.ls.foldl Aj.keep { s with sn:=s.sn|||vN (AO xs) }=s' at *
   simp only at b1 b2 b3 b4 b5
   have hroom:=hu.room (GA (s.sn|||vN (AO xs))) (GB hX.sn hsz)
   refine⟨hu.vs,hu.co,?_,?_⟩
   ·show DC s'.r s'.h s'.l b (GA s'.sn) s'.un=false
    rw[b1,b2,b3,b5,q5]
    exact hroom
   ·rcases hu.why with⟨a1,a2,a3,a4⟩ | ⟨a1,a2,a3⟩ | ⟨a1,a2,a3⟩
    ·exact .inl ⟨a1,a2,a3,a4⟩
    ·refine .inr (.inl ⟨a1,?_,?_⟩)
     ·show Bz s'.hv s'.lr x.cl false=true
      rw[b4,q3];exact a2
     ·show s'.h<((AT s'.lr:Nat):Int)+x.cl.length
      rw[b2,q3];exact a3
    ·refine .inr (.inr ⟨a1,?_,?_⟩)
     ·show Bz s'.hv s'.lr x.cl true=true
      rw[b4,q3];exact a2
     ·show s'.l<((s'.log:Nat):Int)+x.cl.length+1
      have q2':(log':Int)=s.l - t.l:=q2
      rw[b3,q4]
      omega
  ·obtain⟨ok,log,q1,q2,q3,q4,q5⟩:=h.kept hX ht
   obtain⟨b1,b2,b3,b4,b5,b6,_,_⟩:=keeps (AT s.lr) 0 t0.ls { s with sn:=s.sn|||vN (AO xs) }
   have hshort:=Gu t0.ls _ ht.ok
   have hbud:=TP ht
   have q2':(log:Int)=s.l - t0.l:=q2
   simp only[List.foldl_append,List.foldl_cons,List.foldl_nil]
   generalize t0.ls.foldl Aj.keep { s with sn:=s.sn|||vN (AO xs) }=s' at *
   simp only at b1 b2 b3 b4 b5 b6
   have hk:s'.keep (101,AM (AS D))={ s' with pf:=s'.pf++BZ 101 (AM (AS D)),log:=s'.log+(AG (AS D)+1),un:=s'.un+1 }:=by
    unfold Aj.keep
    rw[if_neg (by simp only;decide),if_neg (by simp only;decide),if_pos rfl]
    simp only[BH]
   have hok:Eg s.r s.h s.l s.hv (s.cx xs b).j0 (t0.ls++[(101,AM (AS D))]):=by
    refine GO _ _ _ ht.ok ht.opn (ED _) ?_
    rw[q1]
    refine⟨?_,.inr (.inl ⟨rfl,hcd⟩)⟩
    show(log:Int)+(AM (AS D)).length+1≤s.l
    rw[BH]
    omega
   rw[hk]
   refine⟨⟨ok.set,ok.hvt,ok.hvs,ok.lits,ok.sn,ok.sz,ok.lt,ok.nod,ok.sem,ok.len,ok.held,?_,fun hr=>?_,?_,?_⟩,t0.sp,b1,b2,b3,b4,?_,?_,hok,?_,hbud,?_,.inr (.inl ⟨hst,?_,?_,?_⟩)⟩
   ·show((s'.log+(AG (AS D)+1):Nat):Int)≤s'.l
    rw[b3,q4];omega
   ·have:=ok.sum hr
    have hsz3:AG (AS D)≤2*CU s'.sn:=by rw[b5];exact hsz2
    show s'.log+(AG (AS D)+1)≤AT s'.lr+s'.lr.length+(2*CU s'.sn+1)*(s'.un+1)
    rw[Nat.mul_add,Nat.mul_one]
    omega
   ·have:=ok.un
    show s'.un+1≤s'.log+(AG (AS D)+1)
    omega
   ·have:=ok.pf
    have hl:=Nn 101 (AM (AS D)) (ED _)
    rw[BH] at hl
    show(s'.pf++BZ 101 (AM (AS D))).length≤4*(s'.log+(AG (AS D)+1))
    rw[List.length_append]
    omega
   ·show GA s'.sn=GA s.sn|||Ag (AO xs)
    rw[b5,hseen]
   ·show s'.pf++BZ 101 (AM (AS D))=s.pf++EC (t0.ls++[(101,AM (AS D))])
    rw[b6]
    simp[EC]
   ·show Ay (s.cx xs b).j0 (t0.ls++[(101,AM (AS D))])=⟨s'.lr,AT s'.lr,s'.log+(AG (AS D)+1),t0.sp⟩
    rw[GP,q1,q3,q4]
    simp only[Bu,BH]
    rw[if_neg (by decide),if_neg (by decide)]
    simp[Nat.add_assoc]
   ·have h1:x.vs.length=0:=by rw[hun.vs];rfl
    have h2:x.cl.length=0:=by rw[hun.cl];rfl
    refine⟨by omega,by omega,by omega,?_⟩
    rw[Ji]
    show(AM (AS D)).length≤1000
    rw[BH]
    have:=C7 (AS D)
    omega
   ·rw[LO];simp
   ·show s'.un+1=s.un+1
    rw[q5]
   ·rw[Ji];exact hun
end Go.Proofs.YthboeppmlhbofaaDoor
