import Derived.Test.YthboeppmlhbofabDoorHai
namespace Go.Proofs.YthboeppmlhbofabDoor
open Go.RowKit Txt
set_option maxRecDepth 100000
structure VFin(hv:List Nat)(A w kn:Nat):Prop where
 sub:SubN kn (litsV w)
 twin:twinB kn=false
 all:∀ u,1≤u→u<11→w.testBit u=true→(vN kn).testBit u=true
 asm:SubN (A&&&litsV w) kn
 so:∀ c∈hv,c<2^20→SubN c (litsV w)→c&&&kn≠0
theorem and_vN{w K:Nat}(hK:K<2^20):w&&&vN (K&&&litsV w)=w&&&vN K:=by
 apply Nat.eq_of_testBit_eq
 intro u
 rw[Nat.testBit_and,Nat.testBit_and]
 cases hw:w.testBit u with
 | false=>rfl
 | true =>
  simp only[Bool.true_and]
  rw[Bool.eq_iff_iff]
  constructor
  ·intro h
   obtain⟨_,_,i,e,hi⟩:=vN_ex (and_top hK) h
   rw[Nat.testBit_and,Bool.and_eq_true] at hi
   rw[← e]
   exact vN_half hK hi.1
  ·intro h
   obtain⟨_,_,i,e,hi⟩:=vN_ex hK h
   rw[← e]
   refine vN_half (and_top hK) ?_
   rw[Nat.testBit_and,hi,lits_bit,decide_eq_true (bit_lt hK hi),e,hw]
   rfl
theorem nxt_in{w K:Nat}(hK:K<2^20):nxtD w (K&&&litsV w)=nxtD w K:=by
 unfold nxtD
 rw[and_vN hK]
theorem vfin{cs hv:List Nat}{A w dec K:Nat}(hs:∀ c∈hv,c∈cs)(q:PushOk cs dec K)(hA:SubN A dec)(hn:nxtD w K=0):VFin hv A w (K&&&litsV w):=by
 have hall:∀ u,1≤u→u<11→w.testBit u=true→(vN (K&&&litsV w)).testBit u=true:=fun u h1 h2 hw=>by
  have:=nxt_none (kn:=K&&&litsV w) (by rw[nxt_in q.top];exact hn) u h1 h2 hw
  exact this
 refine⟨sub_and2 _ _,(sub_and K (litsV w)).twin q.twin,hall,(hA.trans q.sub).mono _,fun c hc hc20 hcw e=>?_⟩
 obtain⟨q1,_⟩:=q.cl c (hs c hc)
 apply q1
 apply Nat.eq_of_testBit_eq
 intro i
 rw[Nat.zero_testBit,left_bit]
 cases hi:c.testBit i with
 | false=>rfl
 | true =>
  have hi20:=bit_lt hc20 hi
  have hiw:=hcw i hi
  have hKi:K.testBit i=false:=by
   have:=off_iff.2 e i hi
   rw[Nat.testBit_and,hiw,Bool.and_true] at this
   exact this
  have hw:w.testBit (i / 2+1)=true:=by
   rw[lits_bit,Bool.and_eq_true] at hiw
   exact hiw.2
  obtain⟨_,_,x,ex,hx⟩:=vN_ex (and_top q.top) (hall (i / 2+1) (by omega) (by omega) hw)
  rw[Nat.testBit_and,Bool.and_eq_true] at hx
  have hxp:x=i∨x=par i:=by
   unfold par
   split <;> omega
  rcases hxp with rfl|rfl
  ·rw[hKi] at hx;simp at hx
  ·rw[opp_par _ hi20,hx.1];rfl
theorem dec_ten{cs:List Nat}{A w:Nat}(h:CsOk cs A w){i d:Nat}(hd:decF cs A w i=some d):i≤10:=by
 cases i with
 | zero=>omega
 | succ i =>
  obtain⟨d0,kn,a1,a2,a3,_⟩:=decF_next hd
  obtain⟨b1,_,_⟩:=decF_ok h a1
  obtain⟨q,qw⟩:=kn_ok h b1 a2
  obtain⟨j,_,hj,_,hw,hb,hp⟩:=nxt_spec q.top a3
  have h1:=(kn_size h a1 a2).1
  have h2:=size_pow hj q.top hb
  have h3:=size_cv (sub_pow qw hw) (twin_add q.twin hp)
  have:=cvN_le w
  omega
def SeekOk(X:Cx)(T:List (Nat × Nat))(w:Nat)(vals:Nat):Rs→Prop
 | .fin s x=>FinOk X s x
 | .go s=>SI X s∧s.path=[]∧(∃ k,(∀ t∈T++[(w,k)],Trk (X.E.hv++s.lr) X.E.as t.1 t.2)∧s.done=tracks (X.E.hv++s.lr) X.E.as (T++[(w,k)]))∧∃ kn,s.vals=vals|||kn∧VFin X.E.hv X.E.as w kn
theorem seek_ok{X:Cx}(hX:CxOk X){T:List (Nat × Nat)}{w:Nat}(hW:Wks X T w):∀ (n i dec:Nat) (s:Sr),Hd X T w i dec s→(13^12 - potF (X.E.hv++s.lr) X.E.as w 12)*12+(11 - i)<n→∃ R,seekS X.E w n dec s=some R∧SeekOk X T w s.vals R:=by
 intro n
 induction n with
 | zero=>intro i dec s _ hm;omega
 | succ n ih =>
  intro i dec s h hm
  have hok:=h.si.csok hX hW.me
  have hi10:=dec_ten hok h.dec
  obtain⟨d20,dsub,dA⟩:=decF_ok hok h.dec
  have hpl:=pot_lt hok 12
  simp only[seekS]
  cases hp:pushD (X.E.hv++s.lr) dec with
  | none =>
   simp only
   have hcl:=push_none.1 hp
   by_cases hde:dec=X.E.as
   ·rw[if_pos hde]
    rw[hde] at hcl
    obtain⟨s',x,e,hf⟩:=end_ok hX h.si hcl
    exact⟨_,rfl,by rw[e];exact hf⟩
   ·rw[if_neg hde]
    cases i with
    | zero =>
     exfalso
     apply hde
     have:=h.dec
     simp only[decF,Option.some.injEq] at this
     exact this.symm
    | succ k =>
     rcases rft_ok hX hW h hcl with⟨s',x,e,hs',hu⟩ | ⟨s',e,hH,hv,hpot⟩
     ·rw[e]
      exact⟨_,rfl,.inl ⟨hs',hu⟩⟩
     ·rw[e]
      simp only
      have hok':=hH.si.csok hX hW.me
      have hpl':=pot_lt hok' 12
      change potF (X.E.hv++s'.lr) X.E.as w 12<13^12 at hpl'
      obtain⟨R,e',hR⟩:=ih 0 X.E.as { s' with path:=[] } hH (by
       show(13^12 - potF (X.E.hv++s'.lr) X.E.as w 12)*12+(11 - 0)<n
       generalize 13^12=P at *
       omega)
      refine⟨R,e',?_⟩
      have hv':({ s' with path:=[] }:Sr).vals=s.vals:=hv
      rw[hv'] at hR
      exact hR
  | some K =>
   simp only
   have q:=push_some hok.top d20 hp
   have hl:=push_in hok.top (lits_msk w) hok.sep d20 hp
   have hno:clashD (X.E.hv++s.lr) X.E.as=false:=by
    refine clash_anti hok.top d20 (fun c hc=>hc) dsub ?_
    cases hb:clashD (X.E.hv++s.lr) dec with
    | false=>rfl
    | true=>rw[push_none.2 hb] at hp;simp at hp
   have hpath:s.path++[⟨dec,w,K&&&litsV w⟩]=pathF (X.E.hv++s.lr) X.E.as w (i+1):=by
    simp only[pathF,h.dec,hl]
    rw[h.path]
   by_cases hn:nxtD w K=0
   ·rw[if_pos hn]
    refine⟨_,rfl,h.si.path _ _ _,rfl,⟨i,fun t ht=>?_,?_⟩,K&&&litsV w,rfl,vfin (fun c hc=>List.mem_append_left _ hc) q dsub hn⟩
    ·rcases List.mem_append.1 ht with ht | ht
     ·exact h.trk t ht
     ·rw[List.mem_singleton.1 ht]
      exact⟨hok,dec,_,h.dec,hl⟩
    ·show s.done++(s.path++[⟨dec,w,K&&&litsV w⟩])=_
     rw[hpath,h.done]
     simp[tracks]
   ·rw[if_neg hn]
    have hn':nxtD w (K&&&litsV w)≠0:=by rw[nxt_in q.top];exact hn
    refine ih (i+1) _ { s with path:=s.path++[⟨dec,w,K&&&litsV w⟩] } ⟨h.si.path _ s.done s.vals,h.trk,h.done,?_,hpath,fun _=>hno⟩ ?_
    ·show decF (X.E.hv++s.lr) X.E.as w (i+1)=_
     simp only[decF,h.dec,hl]
     rw[if_neg hn',nxt_in q.top]
    ·show(13^12 - potF (X.E.hv++s.lr) X.E.as w 12)*12+(11 - (i+1))<n
     generalize 13^12=P at *
     omega
def fuelN:Nat:=13^12*12+12
structure Btw(X:Cx)(T:List (Nat × Nat))(s:Sr):Prop where
 si:SI X s
 path:s.path=[]
 trk:∀ t∈T,Trk (X.E.hv++s.lr) X.E.as t.1 t.2
 done:s.done=tracks (X.E.hv++s.lr) X.E.as T
 vals:SubN s.vals (litsV X.sn)∧twinB s.vals=false∧∀ i,s.vals.testBit i=true→∃ t∈T,(litsV t.1).testBit i=true
 fin:∀ t∈T,∃ kn,SubN kn s.vals∧VFin X.E.hv X.E.as t.1 kn
theorem lits_mono{a b:Nat}(h:SubN a b):SubN (litsV a) (litsV b):=fun i hi=>by
 rw[lits_bit,Bool.and_eq_true] at hi
 rw[lits_bit,hi.1,h _ hi.2];rfl
theorem go_ok{X:Cx}(hX:CxOk X):∀ (ws:List Nat) (T:List (Nat × Nat)) (s:Sr),Btw X T s→(∀ w∈ws,w=0∨w∈X.ws)→(∀ t∈T,t.1=0∨t.1∈X.ws)→((T.map fun t=>t.1)++ws).Pairwise (fun a b=>a&&&b=0) →
  ∃ R,goOn X.E fuelN ws s=some R∧match R with
   | .fin s x=>FinOk X s x
   | .go s'=>∃ T',Btw X T' s'∧(T'.map fun t=>t.1)=(T.map fun t=>t.1)++ws:=by
 intro ws
 induction ws with
 | nil=>intro T s h _ _ _;exact⟨_,rfl,T,h,by simp⟩
 | cons w ws ih =>
  intro T s h hw hT hd
  have hd1:((T.map fun t=>t.1)++[w]).Pairwise fun a b=>a&&&b=0:=by
   have:=List.pairwise_append.1 hd
   exact List.pairwise_append.2 ⟨this.1,List.pairwise_singleton _ _,fun a ha b hb=>by rw[List.mem_singleton.1 hb];exact this.2.2 a ha w (List.mem_cons_self ..)⟩
  have hW:Wks X T w:=⟨hw w (List.mem_cons_self ..),hT,hd1⟩
  have hH:Hd X T w 0 X.E.as s:=⟨h.si,h.trk,h.done,rfl,by rw[h.path];rfl,fun q=>by omega⟩
  obtain⟨R,e,hR⟩:=seek_ok hX hW fuelN 0 X.E.as s hH (by
   show(13^12 - potF (X.E.hv++s.lr) X.E.as w 12)*12+(11 - 0)<13^12*12+12
   generalize 13^12=P
   omega)
  simp only[goOn]
  rw[e]
  cases R with
  | fin s' x=>exact⟨_,rfl,hR⟩
  | go s' =>
   simp only
   obtain⟨r1,r2,⟨k,r3,r4⟩,kn,r5,r6⟩:=hR
   have hoff:∀ i,s.vals.testBit i=true→(litsV w).testBit i=false:=fun i hi=>by
    obtain⟨t,ht,hti⟩:=h.vals.2.2 i hi
    exact lits_off (hW.off ht) hti
   have hB:Btw X (T++[(w,k)]) s':=by
    refine⟨r1,r2,r3,r4,⟨?_,?_,fun i hi=>?_⟩,fun t ht=>?_⟩
    ·rw[r5]
     refine h.vals.1.or ?_
     rcases hW.me with e0 | e0
     ·refine r6.sub.trans ?_
      rw[e0]
      intro i hi
      rw[lits_bit] at hi
      simp at hi
     ·exact r6.sub.trans (lits_mono (hX.cmp.sub w e0))
    ·rw[r5,twin_iff]
     have t1:=(twin_iff _).1 h.vals.2.1
     have t2:=(twin_iff _).1 r6.twin
     have sym:=(lits_msk w).sym
     intro i hi hb
     rw[Nat.testBit_or,Bool.or_eq_true] at hb
     rw[Nat.testBit_or,Bool.or_eq_false_iff]
     rcases hb with hb | hb
     ·refine⟨t1 i hi hb,?_⟩
      cases z:kn.testBit (par i) with
      | false=>rfl
      | true =>
       have:=r6.sub _ z
       rw[sym i hi,hoff i hb] at this
       exact this.symm
     ·refine⟨?_,t2 i hi hb⟩
      cases z:s.vals.testBit (par i) with
      | false=>rfl
      | true =>
       have:=hoff _ z
       rw[sym i hi,r6.sub i hb] at this
       exact this
    ·rw[r5,Nat.testBit_or,Bool.or_eq_true] at hi
     rcases hi with hi | hi
     ·obtain⟨t,ht,hti⟩:=h.vals.2.2 i hi
      exact⟨t,List.mem_append_left _ ht,hti⟩
     ·exact⟨(w,k),List.mem_append_right _ (List.mem_singleton.2 rfl),r6.sub i hi⟩
    ·rcases List.mem_append.1 ht with ht | ht
     ·obtain⟨kn',a,b⟩:=h.fin t ht
      exact⟨kn',by rw[r5];exact a.trans (SubN.or_left _ _),b⟩
     ·rw[List.mem_singleton.1 ht]
      exact⟨kn,by rw[r5];intro i hi;rw[Nat.testBit_or,hi,Bool.or_true],r6⟩
   obtain⟨R',e',hR'⟩:=ih (T++[(w,k)]) s' hB (fun x hx=>hw x (List.mem_cons_of_mem _ hx)) (fun t ht=>by
    rcases List.mem_append.1 ht with ht | ht
    ·exact hT t ht
    ·rw[List.mem_singleton.1 ht];exact hW.me) (by simpa using hd)
   refine⟨R',e',?_⟩
   cases R' with
   | fin s2 x=>exact hR'
   | go s2 =>
    obtain⟨T',b1,b2⟩:=hR'
    exact⟨T',b1,by rw[b2];simp⟩
structure Sst where
 r:Int
 h:Int
 l:Int
 hv:List Nat
 sn:Nat
 lr:List Nat
 pf:List UInt8
 log:Nat
 un:Nat
def posV(V:Nat):Nat:=litsV V&&&349525
theorem posV_two{V:Nat}(hV:V<2^11)(h0:V.testBit 0=false):Two (posV V) V 0:=by
 refine⟨fun v hv=>?_,fun v hv=>?_,Nat.lt_of_le_of_lt Nat.and_le_right (by decide),h0,by simp,hV,by decide⟩
 ·unfold posV
  rw[Nat.testBit_and,mask_even v hv,lits_bit,decide_eq_true (by omega),show 2*v / 2=v by omega]
  simp
 ·unfold posV
  rw[Nat.testBit_and,mask_odd v hv]
  simp
theorem posV_or{V c:Nat}(hV:V<2^11)(h0:V.testBit 0=false)(hc:c<2^20):posV (V|||vN c)=posV V|||varsN c:=by
 have h1:=(posV_two hV h0).or (Two.of hc).vars
 have h2:=posV_two (Nat.or_lt_two_pow hV (vN_lt c)) (by rw[Nat.testBit_or,h0,vN_zero];rfl)
 rw[Nat.or_zero] at h1
 exact h2.same h1
def Sst.vw(s:Sst):Vw:=⟨s.r,s.h,s.l,s.hv,posV s.sn,s.lr,s.log,s.un,s.pf⟩
structure Sst.Ok(s:Sst):Prop where
 set:settingsB s.r s.h s.l=true
 hvt:∀ c∈s.hv,c<2^20
 hvs:∀ c∈s.hv,SubN (vN c) s.sn
 lits:litsN s.hv≤150
 sn:s.sn<2^11
 sz:s.sn.testBit 0=false
 lt:∀ c∈s.lr,c<2^20∧c≠0∧twinB c=false∧SubN (vN c) s.sn∧joinedD s.hv (varsN c)=true
 nod:s.lr.Nodup
 sem:∀ u,(∀ c∈s.hv,c&&&trueN u≠0)→∀ c∈s.lr,c&&&trueN u≠0
 len:s.r=0∨(s.lr.length:Int)≤s.r
 held:(litsN s.lr:Int)≤s.h
 log:(s.log:Int)≤s.l
 sum:s.r=0→s.log≤litsN s.lr+s.lr.length+(2*cvN s.sn+1)*s.un
 un:s.un≤s.log
 pf:s.pf.length≤4*s.log
theorem len_lits:∀ (lr:List Nat),(∀ c∈lr,c<2^20∧c≠0)→lr.length≤litsN lr:=by
 intro lr
 induction lr with
 | nil=>intro _;simp[litsN]
 | cons c lr ih =>
  intro h
  have a:=ih fun x hx=>h x (List.mem_cons_of_mem _ hx)
  obtain⟨b1,b2⟩:=h c (List.mem_cons_self ..)
  have:sizeN 0<sizeN c:=size_lt (fun i q=>by rw[Nat.zero_testBit] at q;simp at q) b1 (fun e=>b2 e.symm)
  simp only[litsN,List.map_cons,List.sum_cons,List.length_cons] at a ⊢
  omega
theorem set_parts{r h l:Int}(hs:settingsB r h l=true):(r=0∨12≤r∧r≤64)∧0≤h∧h≤1048576∧0≤l∧l≤1048576:=by
 unfold settingsB at hs
 simp only[Bool.and_eq_true,Bool.or_eq_true,decide_eq_true_eq,beq_iff_eq] at hs
 omega
theorem Sst.Ok.vw{s:Sst}(h:s.Ok):VwOk s.vw:=by
 obtain⟨_,_,h2,_,h4⟩:=set_parts h.set
 have a1:=h.held
 have a2:=h.log
 have a3:=h.un
 have a4:=h.pf
 have a5:=len_lits s.lr fun c hc=>⟨(h.lt c hc).1,(h.lt c hc).2.1⟩
 refine⟨h.hvt,fun c hc=>(h.lt c hc).1,(posV_two h.sn h.sz).top,h.lits,?_,?_,?_,?_,?_,⟨h.nod,fun c hc=>⟨(h.lt c hc).2.2.1,fun i hi=>?_⟩⟩,fun e=>?_⟩
 ·show litsN s.lr≤1048576;omega
 ·show s.log≤1048576;omega
 ·show s.un≤1048576;omega
 ·show s.lr.length≤1048576;omega
 ·show s.pf.length≤4194304;omega
 ·obtain⟨q1,q2,q3⟩:=vars_half (h.lt c hc).1 hi
  show(posV s.sn).testBit i=true
  rw[q1,(posV_two h.sn h.sz).pos _ q2]
  exact(h.lt c hc).2.2.2.1 _ q3
 ·have b1:=h.sum e
  have b2:=cvN_le s.sn
  have b3:(2*cvN s.sn+1)*s.un≤21*s.un:=Nat.mul_le_mul_right _ (by omega)
  show s.log≤litsN s.lr+s.lr.length+21*s.un
  omega
def Sst.new(r h l:Int):Sst:=⟨r,h,l,[],0,[],[],0,0⟩
theorem Sst.new_ok{r h l:Int}(hs:settingsB r h l=true):(Sst.new r h l).Ok:=by
 have:=set_parts hs
 refine⟨hs,fun c hc=>by simp[Sst.new] at hc,fun c hc=>by simp[Sst.new] at hc,by simp[Sst.new,litsN],by simp[Sst.new],by simp[Sst.new],fun c hc=>by simp[Sst.new] at hc,by simp[Sst.new],fun u _ c hc=>by simp[Sst.new] at hc,?_,?_,?_,fun _=>by simp[Sst.new],by simp[Sst.new],by simp[Sst.new]⟩
 ·show r=0∨((0:Nat):Int)≤r;omega
 ·show((0:Nat):Int)≤h;omega
 ·show((0:Nat):Int)≤l;omega
theorem posV_zero:posV 0=0:=by decide
theorem Sst.new_vw(r h l:Int):(Sst.new r h l).vw=Vw.none r h l:=by
 simp only[Sst.vw,Sst.new,Vw.none,posV_zero]
def Sst.add(s:Sst)(xs:List Int):Sst:=if (takenK xs (litsN s.hv)).takes? then { s with hv:=s.hv++[setN xs],sn:=s.sn|||vN (setN xs) } else s
theorem takes_is{xs:List Int}{n:Nat}(h:(takenK xs n).takes?=true):xs.all litB=true∧n+sizeN (setN xs)≤150:=by
 unfold takenK at h
 split at h
 ·rename_i hall
  refine⟨hall,?_⟩
  split at h
  ·simp[Tk.takes?] at h
  ·split at h
   ·simp[Tk.takes?] at h
   ·omega
 ·simp[Tk.takes?] at h
theorem joined_more{hv:List Nat}{D:Nat}(c:Nat)(hj:joinedD hv (varsN D)=true):joinedD (hv++[c]) (varsN D)=true:=by
 have hv20:varsN D<2^20:=varsN_lt D
 by_cases h0:varsN D=0
 ·rw[h0];exact joined_zero _
 ·obtain⟨j,hj1,hl⟩:=low_pow h0 hv20
  have hlm:SubN (lowN (varsN D)) 349525:=(low_sub _).trans (vars_mask D)
  have hz:sizeN 0<sizeN (lowN (varsN D)):=size_lt (fun i q=>by rw[Nat.zero_testBit] at q;simp at q) (low_lt hv20) (fun q=>by
   have:(lowN (varsN D)).testBit j=true:=by rw[hl,Nat.testBit_two_pow];simp
   rw[← q] at this;simp at this)
  have hfix:=join_fix (hv++[c]) 10 _ hlm (by omega)
  have hsub:=join_sub (hv++[c]) 10 (lowN (varsN D))
  have hst:=join_stay (X:=joinTo (hv++[c]) 10 (lowN (varsN D))) (cs:=hv) (fun x hx=>link_closed (fold_fix _ _ hfix x (List.mem_append_left _ hx))) 10 _ hsub
  unfold joinedD at hj ⊢
  have hj':varsN D&&&joinTo hv 10 (lowN (varsN D))=varsN D:=by simpa using hj
  have:SubN (varsN D) (joinTo (hv++[c]) 10 (lowN (varsN D))):=fun i hi=>by
   rw[← hj'] at hi
   exact hst i (sub_and2 _ _ i hi)
  simpa using this.eq_and
theorem Sst.add_ok{s:Sst}(h:s.Ok)(xs:List Int):(s.add xs).Ok∧(s.add xs).vw=s.vw.add xs:=by
 unfold Sst.add Vw.add
 show _∧_=if (takenK xs (litsN s.hv)).takes?=true then _ else _
 by_cases ht:(takenK xs (litsN s.hv)).takes?=true
 ·rw[if_pos ht,if_pos ht]
  obtain⟨hall,hsz⟩:=takes_is ht
  have hc:=setN_lt xs hall
  have hsub:SubN s.sn (s.sn|||vN (setN xs)):=SubN.or_left _ _
  refine⟨⟨h.set,fun c hcc=>?_,fun c hcc=>?_,?_,Nat.or_lt_two_pow h.sn (vN_lt _),?_,fun c hcc=>?_,h.nod,fun u hu=>h.sem u (fun c hcc=>hu c (List.mem_append_left _ hcc)),h.len,h.held,h.log,fun hr=>?_,h.un,h.pf⟩,?_⟩
  ·rcases List.mem_append.1 hcc with q | q
   ·exact h.hvt c q
   ·rw[List.mem_singleton.1 q];exact hc
  ·rcases List.mem_append.1 hcc with q | q
   ·exact(h.hvs c q).trans hsub
   ·rw[List.mem_singleton.1 q]
    intro i hi
    show(s.sn|||vN (setN xs)).testBit i=true
    rw[Nat.testBit_or,hi,Bool.or_true]
  ·show litsN (s.hv++[setN xs])≤150
   rw[litsN_snoc];exact hsz
  ·show(s.sn|||vN (setN xs)).testBit 0=false
   rw[Nat.testBit_or,h.sz,vN_zero];rfl
  ·obtain⟨a1,a2,a3,a4,a5⟩:=h.lt c hcc
   exact⟨a1,a2,a3,a4.trans hsub,joined_more _ a5⟩
  ·have h1:=h.sum hr
   have h2:=cv_mono hsub
   have h3:(2*cvN s.sn+1)*s.un≤(2*cvN (s.sn|||vN (setN xs))+1)*s.un:=Nat.mul_le_mul_right _ (by omega)
   show s.log≤litsN s.lr+s.lr.length+(2*cvN (s.sn|||vN (setN xs))+1)*s.un
   omega
  ·simp only[Sst.vw,posV_or h.sn h.sz hc]
 ·rw[if_neg ht,if_neg ht]
  exact⟨h,rfl⟩
def Sst.rst(s:Sst):Sst:=Sst.new s.r s.h s.l
def Sst.keep(s:Sst)(p:Lin):Sst:={ s with pf:=s.pf++lineT p.1 p.2,log:=s.log+(p.2.length+1),lr:=if p.1=97 then s.lr++[setOk p.2] else if p.1=100 then s.lr.erase (setOk p.2) else s.lr,un:=if p.1=101 then s.un+1 else s.un }
theorem keeps(held st:Nat):∀ (ls:List Lin) (s:Sst),(ls.foldl Sst.keep s).r=s.r∧(ls.foldl Sst.keep s).h=s.h∧(ls.foldl Sst.keep s).l=s.l∧(ls.foldl Sst.keep s).hv=s.hv∧(ls.foldl Sst.keep s).sn=s.sn∧(ls.foldl Sst.keep s).pf=s.pf++linesT ls∧(ls.foldl Sst.keep s).lr=(linesTo ⟨s.lr,held,s.log,st⟩ ls).lr∧(ls.foldl Sst.keep s).log=(linesTo ⟨s.lr,held,s.log,st⟩ ls).log:=by
 intro ls
 induction ls generalizing held st with
 | nil=>intro s;simp[linesT,linesTo]
 | cons p ls ih =>
  intro s
  simp only[List.foldl_cons]
  have key:∃ held' st',lineTo ⟨s.lr,held,s.log,st⟩ p=⟨(s.keep p).lr,held',(s.keep p).log,st'⟩:=by
   unfold lineTo Sst.keep
   by_cases h1:p.1=97
   ·rw[if_pos h1]
    refine⟨held+p.2.length,st+1,?_⟩
    simp only[h1,if_true,Nat.add_assoc]
   ·rw[if_neg h1]
    by_cases h2:p.1=100
    ·rw[if_pos h2]
     refine⟨held - p.2.length,st,?_⟩
     simp only[h2,if_true,Nat.add_assoc]
     rw[if_neg (by decide)]
    ·rw[if_neg h2]
     refine⟨held,st,?_⟩
     simp only[h1,h2,if_false,Nat.add_assoc]
  obtain⟨held',st',e⟩:=key
  obtain⟨b1,b2,b3,b4,b5,b6,b7,b8⟩:=ih held' st' (s.keep p)
  have e2:linesTo ⟨s.lr,held,s.log,st⟩ (p :: ls)=linesTo ⟨(s.keep p).lr,held',(s.keep p).log,st'⟩ ls:=by
   show linesTo (lineTo ⟨s.lr,held,s.log,st⟩ p) ls=_
   rw[e]
  rw[e2]
  refine⟨b1,b2,b3,b4,b5,?_,b7,b8⟩
  rw[b6,linesT_cons]
  simp[Sst.keep]
theorem linesTo_ge{j:JV}:∀ (ls:List Lin),j.log≤(linesTo j ls).log:=by
 intro ls
 induction ls generalizing j with
 | nil=>exact Nat.le_refl _
 | cons p ls ih =>
  refine Nat.le_trans ?_ (ih (j:=lineTo j p))
  unfold lineTo
  split
  ·simp only;omega
  ·split
   ·simp only;omega
   ·simp only;omega
theorem keeps_un:∀ (ls:List Lin) (s:Sst),(∀ p∈ls,p.1≠101)→(ls.foldl Sst.keep s).un=s.un:=by
 intro ls
 induction ls with
 | nil=>intro s _;rfl
 | cons p ls ih =>
  intro s h
  simp only[List.foldl_cons]
  rw[ih _ fun q hq=>h q (List.mem_cons_of_mem _ hq)]
  simp[Sst.keep,h p (List.mem_cons_self ..)]
theorem lit_len{x:Int}(h:litB x=true):(litT x).length≤4:=by
 have key:(Lib.itoa x).length≤3:=by
  rcases lit_cases h with rfl|rfl|rfl|rfl|rfl|rfl|rfl|rfl|rfl|rfl|rfl|rfl|rfl|rfl|rfl|rfl|rfl|rfl|rfl|rfl <;> decide +kernel
 simp[litT]
 omega
theorem line_len(lt:UInt8)(xs:List Int)(h:xs.all litB=true):(lineT lt xs).length≤4*(xs.length+1):=by
 have key:(litsT xs).length≤4*xs.length:=by
  induction xs with
  | nil=>simp[litsT]
  | cons x xs ih =>
   simp only[List.all_cons,Bool.and_eq_true] at h
   have a:=ih h.2
   have b:=lit_len h.1
   simp only[litsT,List.flatMap_cons,List.length_append,List.length_cons] at a ⊢
   omega
 simp only[lineT,List.length_append,List.length_cons,List.length_nil]
 omega
theorem lines_len:∀ (ls:List Lin) (s:Sst),(∀ p∈ls,p.2.all litB=true)→s.pf.length≤4*s.log→(ls.foldl Sst.keep s).pf.length≤4*(ls.foldl Sst.keep s).log:=by
 intro ls
 induction ls with
 | nil=>intro s _ h;exact h
 | cons p ls ih =>
  intro s hl h
  simp only[List.foldl_cons]
  refine ih _ (fun q hq=>hl q (List.mem_cons_of_mem _ hq)) ?_
  have:=line_len p.1 p.2 (hl p (List.mem_cons_self ..))
  simp only[Sst.keep,List.length_append]
  omega
def Sst.cx(s:Sst)(xs:List Int)(b:Int):Cx:=⟨⟨s.hv,xs,b,s.r⟩,s.h,s.l,s.lr,s.log,s.un,s.sn|||vN (setOk xs),compsN (s.hv.filter fun c=>c != 0) (s.sn|||vN (setOk xs))⟩
def Sst.sr(s:Sst):Sr:=⟨s.lr,s.h - (litsN s.lr:Int),s.l - (s.log:Int),0,[],[],[],0⟩
def Sst.run(s:Sst)(xs:List Int)(b:Int):Option (Sr × Ans):=runS (s.cx xs b).E fuelN (s.cx xs b).ws s.sr
def Sst.slv(s:Sst)(xs:List Int)(b:Int):Sst:=if askedD xs b=0 then (match s.run xs b with
 | none=>s
 | some (t,_)=>t.ls.foldl Sst.keep { s with sn:=s.sn|||vN (setOk xs) }) else s
def Sst.ans(s:Sst)(xs:List Int)(b:Int):Ans:=if askedD xs b=0 then (match s.run xs b with
 | none=>ansNone
 | some (_,x)=>x) else ansNone
theorem vN_ne{c:Nat}(hc:c<2^20)(h:c≠0):vN c≠0:=fun e=>h (by
 apply Nat.eq_of_testBit_eq
 intro i
 rw[Nat.zero_testBit]
 cases hb:c.testBit i with
 | false=>rfl
 | true=>have:=vN_half hc hb;rw[e] at this;simp at this)
theorem cmp_zero{hv ws:List Nat}{sn:Nat}(h:Cmp (hv.filter fun c=>c != 0) sn ws):Cmp hv sn ws:=by
 have hsub:∀ c∈hv.filter (fun c=>c != 0),c∈hv:=fun c hc=>(List.mem_filter.1 hc).1
 refine⟨h.ne,h.sub,h.dis,h.cov,fun c hc=>?_,fun w hw C hC=>h.con w hw C fun c hc=>hC c (hsub c hc)⟩
 by_cases e:c=0
 ·left;rw[e];decide
 ·exact h.own c (List.mem_filter.2 ⟨hc,by simpa using e⟩)
theorem asked_parts{xs:List Int}{b:Int}(h:askedD xs b=0):xs.length≤20∧xs.all litB=true∧0≤b:=by
 unfold askedD at h
 split at h
 ·simp at h
 ·split at h
  ·simp at h
  ·rename_i h2
   split at h
   ·simp at h
   ·exact⟨by omega,by simpa using h2,by omega⟩
theorem Sst.Ok.cx{s:Sst}(h:s.Ok){xs:List Int}{b:Int}(ha:askedD xs b=0):CxOk (s.cx xs b):=by
 obtain⟨_,hx,hb⟩:=asked_parts ha
 have hA:=setOk_lt xs
 have hsub:SubN s.sn (s.sn|||vN (setOk xs)):=SubN.or_left _ _
 have hsn:s.sn|||vN (setOk xs)<2^11:=Nat.or_lt_two_pow h.sn (vN_lt _)
 refine⟨h.hvt,fun c hc=>(h.hvs c hc).trans hsub,hx,?_,hsn,?_,hb,?_⟩
 ·intro i hi
  show(s.sn|||vN (setOk xs)).testBit i=true
  have hi':(vN (setOk xs)).testBit i=true:=hi
  rw[Nat.testBit_or,hi',Bool.or_true]
 ·have:=(set_parts h.set).1
  show s.r=0∨12≤s.r
  omega
 ·refine cmp_zero (comps_cmp hsn _ fun c hc=>?_)
  obtain⟨q1,q2⟩:=List.mem_filter.1 hc
  exact⟨vN_ne (h.hvt c q1) (by simpa using q2),(h.hvs c q1).trans hsub⟩
theorem Sst.Ok.si{s:Sst}(h:s.Ok)(xs:List Int)(b:Int)(ha:askedD xs b=0):SI (s.cx xs b) s.sr:=by
 have hsub:SubN s.sn (s.sn|||vN (setOk xs)):=SubN.or_left _ _
 have hb:=(asked_parts ha).2.2
 have h1:=h.held
 have h2:=h.log
 refine⟨trivial,fun p hp=>by simp[Sst.sr] at hp,⟨s.log,rfl,?_,fun hr=>?_⟩,rfl,fun c hc=>?_,h.nod,h.sem,h.len,?_,?_,?_⟩
 ·show(s.log:Int)=s.l - (s.l - (s.log:Int));omega
 ·have h1:=h.sum hr
  have h2:=cv_mono hsub
  have h3:(2*cvN s.sn+1)*s.un≤(2*cvN (s.sn|||vN (setOk xs))+1)*s.un:=Nat.mul_le_mul_right _ (by omega)
  show s.log≤litsN s.lr+s.lr.length+(2*cvN (s.sn|||vN (setOk xs))+1)*s.un
  omega
 ·obtain⟨a1,a2,a3,a4,a5⟩:=h.lt c hc
  exact⟨a1,a2,a3,a4.trans hsub,a5⟩
 ·show b=0∨((0:Nat):Int)≤b;omega
 ·show 0≤s.h - (litsN s.lr:Int);omega
 ·show 0≤s.l - (s.log:Int);omega
theorem lines_short{r h l:Int}{hv:List Nat}:∀ (ls:List Lin) (j:JV),linesOk r h l hv j ls→∀ p∈ls,p.2.length≤20:=by
 intro ls
 induction ls with
 | nil=>intro j _ p hp;simp at hp
 | cons q ls ih =>
  intro j h p hp
  obtain⟨_,a2,_,a4⟩:=h
  rcases List.mem_cons.1 hp with rfl | hp
  ·have cl:∀ lr tail,clauseD hv lr p.2 tail=true→p.2.length≤20:=fun lr tail hc=>by
    unfold clauseD at hc
    simp only[Bool.and_eq_true,beq_iff_eq] at hc
    have:=hc.1.1.1.2
    have:=sizeN_le (setOk p.2)
    omega
   rcases a2.2 with⟨_,b,_⟩ | ⟨_,b⟩ | ⟨_,_,_,b,_⟩
   ·exact cl _ _ b
   ·exact cl _ _ b
   ·rw[← b];exact sizeN_le _
  ·exact ih _ a4 p hp
theorem last_short:∀ (ls:List Lin),(∀ p∈ls,p.2.length≤20)→(lastOf ls).length≤20:=by
 intro ls
 induction ls with
 | nil=>intro _;simp[lastOf]
 | cons p ls ih =>
  intro h
  cases ls with
  | nil=>exact h p (List.mem_cons_self ..)
  | cons q ls=>exact ih fun x hx=>h x (List.mem_cons_of_mem _ hx)
theorem closed_no{ls:List Lin}(h:∀ p∈ls,p.1≠101):closedOf ls=false:=by
 unfold closedOf
 rw[List.any_eq_false]
 intro p hp
 simpa using h p hp
theorem Sst.Ok.kept{s:Sst}(h:s.Ok){xs:List Int}{b:Int}(hX:CxOk (s.cx xs b)){t:Sr}(ht:SI (s.cx xs b) t):(t.ls.foldl Sst.keep { s with sn:=s.sn|||vN (setOk xs) }).Ok∧∃ log:Nat,linesTo (s.cx xs b).j0 t.ls=⟨t.lr,litsN t.lr,log,t.sp⟩∧(log:Int)=s.l - t.l∧(t.ls.foldl Sst.keep { s with sn:=s.sn|||vN (setOk xs) }).lr=t.lr∧(t.ls.foldl Sst.keep { s with sn:=s.sn|||vN (setOk xs) }).log=log∧(t.ls.foldl Sst.keep { s with sn:=s.sn|||vN (setOk xs) }).un=s.un:=by
 obtain⟨log,t1,t2,t3⟩:=ht.to
 obtain⟨k1,k2,k3,k4,k5,k6,k7,k8⟩:=keeps (litsN s.lr) 0 t.ls { s with sn:=s.sn|||vN (setOk xs) }
 have e:linesTo ⟨s.lr,litsN s.lr,s.log,0⟩ t.ls=⟨t.lr,litsN t.lr,log,t.sp⟩:=t1
 simp only at k7 k8
 rw[e] at k7 k8
 simp only at k7 k8
 have ku:=keeps_un t.ls { s with sn:=s.sn|||vN (setOk xs) } ht.opn
 have kp:=lines_len t.ls { s with sn:=s.sn|||vN (setOk xs) } (linesOk_lits _ _ ht.ok) h.pf
 have kl:=(linesTo_ge (j:=⟨s.lr,litsN s.lr,s.log,0⟩) t.ls)
 rw[e] at kl
 simp only at kl
 have hrl:=ht.rl
 have hrh:=ht.rh
 have hheld:=ht.held
 generalize t.ls.foldl Sst.keep { s with sn:=s.sn|||vN (setOk xs) }=s' at *
 simp only at k1 k2 k3 k4 k5 k6 ku
 have t2':(log:Int)=s.l - t.l:=t2
 have hheld':t.h=s.h - (litsN t.lr:Int):=hheld
 refine⟨⟨by rw[k1,k2,k3];exact h.set,by rw[k4];exact h.hvt,?_,by rw[k4];exact h.lits,by rw[k5];exact hX.sn,?_,?_,by rw[k7];exact ht.nod,by rw[k4,k7];exact ht.sem,by rw[k1,k7];exact ht.len,by rw[k2,k7];omega,by rw[k3,k8];omega,?_,by rw[ku,k8];have:=h.un;omega,kp⟩,log,t1,t2,k7,k8,ku⟩
 ·rw[k4,k5];exact hX.hvs
 ·rw[k5,Nat.testBit_or,h.sz,vN_zero];rfl
 ·rw[k7,k4,k5]
  intro c hc
  have:=ht.lr c hc
  exact⟨this.top,this.ne,this.twin,this.sub,this.join⟩
 ·rw[k1,k5,k7,k8,ku]
  exact t3
theorem true_bit(u i:Nat)(hi:i<20):(trueN u).testBit i=if i % 2=0 then u.testBit (i / 2) else !u.testBit (i / 2):=by
 unfold trueN
 rw[trueTo_bits,decide_eq_true (by omega),Bool.true_and]
theorem vals_list{vals u seen:Nat}:∀ k,k≤10→(∀ v,v<k→(seen.testBit (2*v)=true∧u.testBit v=vals.testBit (2*v)∧vals.testBit (2*v+1)=!vals.testBit (2*v))∨(seen.testBit (2*v)=false∧vals.testBit (2*v)=false∧vals.testBit (2*v+1)=false))→lsTo vals k=valsTo seen u k:=by
 intro k
 induction k with
 | zero=>intro _ _;rfl
 | succ k ih =>
  intro hk h
  simp only[lsTo,valsTo]
  rw[ih (by omega) fun v hv=>h v (by omega)]
  congr 1
  rcases h k (by omega) with⟨a,b,c⟩ | ⟨a,b,c⟩
  ·rw[a,b,c]
   cases vals.testBit (2*k) <;> simp
  ·rw[a,b,c]
   simp
theorem sat_ok{X:Cx}(hX:CxOk X)(hz:X.sn.testBit 0=false){T:List (Nat × Nat)}{s:Sr}(h:Btw X T s)(hT:T.map (fun t=>t.1)=0 :: X.ws):∃ u,SatOk X.E.hv (posV X.sn) X.E.as ⟨1,0,listN s.vals,[],[]⟩ u:=by
 obtain⟨v1,v2,_⟩:=h.vals
 have hv20:=sub_lt20 v1 (lits_msk X.sn).top
 have hsn:=posV_two hX.sn hz
 have htw:=(twin_iff _).1 v2
 obtain⟨u,hu1,hu2⟩:=bits_are (fun k=>s.vals.testBit (2*k)) 10
 have hfin:∀ w,w=0∨w∈X.ws→∃ kn,SubN kn s.vals∧VFin X.E.hv X.E.as w kn:=fun w hw=>by
  have:w∈T.map fun t=>t.1:=by
   rw[hT]
   rcases hw with e | e
   ·rw[e];exact List.mem_cons_self ..
   ·exact List.mem_cons_of_mem _ e
  obtain⟨t,ht,rfl⟩:=List.mem_map.1 this
  exact h.fin t ht
 have hodd:∀ v,v<10→par (2*v)=2*v+1:=fun v _=>by unfold par;rw[if_pos (by omega)]
 have hone:∀ v,v<10→X.sn.testBit (v+1)=true→s.vals.testBit (2*v+1)=!s.vals.testBit (2*v):=fun v hv hs=>by
  obtain⟨w,hw,hwu⟩:=hX.cmp.cov _ hs
  obtain⟨kn,k1,k2⟩:=hfin w (.inr hw)
  have hkn20:=sub_lt20 k1 hv20
  have hk:=k2.all (v+1) (by omega) (by omega) hwu
  rw[vN_bit hkn20 hv,Bool.or_eq_true] at hk
  cases ha:s.vals.testBit (2*v) with
  | true =>
   have:=htw (2*v) (by omega) ha
   rw[hodd v hv] at this
   rw[this];rfl
  | false =>
   rcases hk with hk | hk
   ·rw[k1 _ hk] at ha;simp at ha
   ·rw[k1 _ hk];rfl
 have hnone:∀ v,v<10→X.sn.testBit (v+1)=false→s.vals.testBit (2*v)=false∧s.vals.testBit (2*v+1)=false:=fun v hv hs=>by
  constructor
  ·cases ha:s.vals.testBit (2*v) with
   | false=>rfl
   | true =>
    have:=v1 _ ha
    rw[lits_bit,show 2*v / 2=v by omega,hs] at this
    simp at this
  ·cases ha:s.vals.testBit (2*v+1) with
   | false=>rfl
   | true =>
    have:=v1 _ ha
    rw[lits_bit,show(2*v+1) / 2=v by omega,hs] at this
    simp at this
 have hsub:SubN s.vals (trueN u):=fun i hi=>by
  have hi20:=bit_lt hv20 hi
  rw[true_bit u i hi20]
  rcases nat_par i with e | e
  ·rw[if_pos (by omega),hu2 _ (by omega),← e];exact hi
  ·rw[if_neg (by omega),hu2 _ (by omega)]
   have:=htw i hi20 hi
   have ep:par i=2*(i / 2):=by unfold par;rw[if_neg (by omega)];omega
   rw[ep] at this
   rw[this];rfl
 refine⟨u,hu1,?_,fun k hk hs=>?_,?_,rfl,rfl,rfl⟩
 ·show lsTo s.vals 10=valsTo (posV X.sn) u 10
  refine vals_list 10 (Nat.le_refl _) fun v hv=>?_
  rw[hsn.pos v hv,hu2 v hv]
  cases hs:X.sn.testBit (v+1) with
  | true=>exact .inl ⟨rfl,rfl,hone v hv hs⟩
  | false=>exact .inr ⟨rfl,hnone v hv hs⟩
 ·rw[hsn.pos k hk] at hs
  rw[hu2 k hk]
  exact(hnone k hk hs).1
 ·unfold allowsD
  rw[Bool.and_eq_true,List.all_eq_true]
  refine⟨fun c hc=>?_,?_⟩
  ·have key:∃ w,(w=0∨w∈X.ws)∧SubN c (litsV w):=by
    rcases hX.cmp.own c hc with e | ⟨w,hw,e⟩
    ·exact⟨0,.inl rfl,by
      rw[sub_lits (hX.hvt c hc),e]
      intro i q
      rw[Nat.zero_testBit] at q
      simp at q⟩
    ·exact⟨w,.inr hw,(sub_lits (hX.hvt c hc)).2 e⟩
   obtain⟨w,hw,hcw⟩:=key
   obtain⟨kn,k1,k2⟩:=hfin w hw
   obtain⟨i,i1,i2⟩:=not_off (k2.so c hc (hX.hvt c hc) hcw)
   have:c&&&trueN u≠0:=fun e=>by
    have:=off_iff.2 e i i1
    rw[hsub i (k1 i i2)] at this
    simp at this
   simpa using this
  ·have:SubN X.E.as (trueN u):=fun i hi=>by
    have hA:=as_lt X
    obtain⟨w,hw,hwu⟩:=hX.cmp.cov _ (hX.asm _ (vN_half hA hi))
    obtain⟨kn,k1,k2⟩:=hfin w (.inr hw)
    refine hsub i (k1 i (k2.asm i ?_))
    rw[Nat.testBit_and,hi,lits_bit,decide_eq_true (bit_lt hA hi),hwu];rfl
   simpa using this.eq_and
theorem bud_ok{X:Cx}{s:Sr}(h:SI X s):(X.E.b == 0 || decide ((s.sp:Int)≤X.E.b))=true:=by
 rw[Bool.or_eq_true]
 rcases h.bud with q | q
 ·left;simpa using q
 ·right;simpa using q
theorem Sst.run_ok{s:Sst}(h:s.Ok){xs:List Int}{b:Int}(ha:askedD xs b=0):∃ t x,s.run xs b=some (t,x)∧(s.slv xs b).Ok∧∃ st,SolveOk s.vw xs b (s.slv xs b).vw x t.ls st:=by
 have hX:=h.cx ha
 have hS:=h.si xs b ha
 have hlx:xs.length≤20:=(asked_parts ha).1
 have hsz:(s.cx xs b).sn.testBit 0=false:=by
  show(s.sn|||vN (setOk xs)).testBit 0=false
  rw[Nat.testBit_or,h.sz,vN_zero];rfl
 have hB:Btw (s.cx xs b) [] s.sr:=⟨hS,rfl,fun t ht=>by simp at ht,rfl,⟨fun i q=>by
   have q':(0:Nat).testBit i=true:=q
   rw[Nat.zero_testBit] at q'
   simp at q',by show twinB 0=false;decide,fun i q=>by
   have q':(0:Nat).testBit i=true:=q
   rw[Nat.zero_testBit] at q'
   simp at q'⟩,fun t ht=>by simp at ht⟩
 obtain⟨R,e,hR⟩:=go_ok hX (0 :: (s.cx xs b).ws) [] s.sr hB (fun w hw=>(List.mem_cons.1 hw).elim .inl .inr) (fun t ht=>by simp at ht) (by
  simp only[List.map_nil,List.nil_append]
  exact List.pairwise_cons.2 ⟨fun x _=>Nat.zero_and x,hX.cmp.dis⟩)
 have hseen:posV (s.sn|||vN (setOk xs))=posV s.sn|||varsN (setOk xs):=posV_or h.sn h.sz (setOk_lt xs)
 have common:∀ (t:Sr),SI (s.cx xs b) t→∀ (x:Ans),x.vs.length≤1000∧x.co.length≤1000∧x.cl.length≤1000→(t.ls.foldl Sst.keep { s with sn:=s.sn|||vN (setOk xs) }).Ok∧∃ log:Nat,(log:Int)=s.l - t.l∧(t.ls.foldl Sst.keep { s with sn:=s.sn|||vN (setOk xs) }).log=log ∧
   (((x.st=1∧∃ u,SatOk s.hv (posV (s.sn|||vN (setOk xs))) (setOk xs) x u)∨(x.st=3∧UnknownOk ((t.ls.foldl Sst.keep { s with sn:=s.sn|||vN (setOk xs) }).vw.se t.sp) x b))→SolveOk s.vw xs b (t.ls.foldl Sst.keep { s with sn:=s.sn|||vN (setOk xs) }).vw x t.ls t.sp):=by
  intro t ht x hlen
  obtain⟨ok,log,k1,k2,k3,k4,k5⟩:=h.kept hX ht
  obtain⟨b1,b2,b3,b4,b5,b6,_,_⟩:=keeps (litsN s.lr) 0 t.ls { s with sn:=s.sn|||vN (setOk xs) }
  have hshort:=last_short t.ls (lines_short t.ls _ ht.ok)
  have hcl:=closed_no ht.opn
  have hbud:=bud_ok ht
  refine⟨ok,log,k2,k4,fun how=>?_⟩
  generalize t.ls.foldl Sst.keep { s with sn:=s.sn|||vN (setOk xs) }=s' at *
  simp only at b1 b2 b3 b4 b5 b6
  refine⟨b1,b2,b3,b4,?_,b6,ht.ok,?_,hbud,⟨hlen.1,hlen.2.1,hlen.2.2,by omega⟩,?_⟩
  ·show posV s'.sn=posV s.sn|||varsN (setOk xs)
   rw[b5,hseen]
  ·show linesTo (s.cx xs b).j0 t.ls=⟨s'.lr,litsN s'.lr,s'.log,t.sp⟩
   rw[k1,k3,k4]
  ·have hun:s'.vw.unsat=s.vw.unsat:=k5
   have hsn:s'.vw.seen=posV (s.sn|||vN (setOk xs)):=by show posV s'.sn=_;rw[b5]
   rcases how with⟨a1,u,a2⟩ | ⟨a1,a2⟩
   ·exact .inl ⟨a1,hcl,hun,u,by rw[hsn];exact a2⟩
   ·exact .inr (.inr ⟨a1,hcl,hun,a2⟩)
 have hrun:s.run xs b=match goOn (s.cx xs b).E fuelN (0 :: (s.cx xs b).ws) s.sr with
   | none=>none
   | some (.fin s x)=>some (s,x)
   | some (.go s)=>some (s,⟨1,0,listN s.vals,[],[]⟩):=rfl
 rw[e] at hrun
 cases R with
 | go t =>
  obtain⟨T,hT,hTm⟩:=hR
  simp only at hrun
  refine⟨t,_,hrun,?_⟩
  have hs:s.slv xs b=t.ls.foldl Sst.keep { s with sn:=s.sn|||vN (setOk xs) }:=by unfold Sst.slv;rw[if_pos ha,hrun]
  rw[hs]
  obtain⟨u,hu⟩:=sat_ok hX hsz hT (by simpa using hTm)
  have hl20:=sizeN_le t.vals
  obtain⟨ok,_,_,_,hso⟩:=common t hT.si ⟨1,0,listN t.vals,[],[]⟩ ⟨by show(listN t.vals).length≤1000;rw[listN_len];omega,by simp,by simp⟩
  exact⟨ok,_,hso (.inl ⟨rfl,u,hu⟩)⟩
 | fin t x =>
  simp only at hrun hR
  refine⟨t,x,hrun,?_⟩
  have hs:s.slv xs b=t.ls.foldl Sst.keep { s with sn:=s.sn|||vN (setOk xs) }:=by unfold Sst.slv;rw[if_pos ha,hrun]
  rw[hs]
  rcases hR with⟨ht,hu⟩ | ⟨t0,D,ht,rfl,hl,hsz2,hcd,hst,hco,hun⟩
  ·obtain⟨ok,log,k2,k4,hso⟩:=common t ht x ⟨by rw[hu.vs];simp,by rw[hu.co];simp,by have:=hu.len;omega⟩
   refine⟨ok,_,hso (.inr ⟨hu.st,?_⟩)⟩
   obtain⟨_,log',q1,q2,q3,q4,q5⟩:=h.kept hX ht
   obtain⟨b1,b2,b3,b4,b5,_,_,_⟩:=keeps (litsN s.lr) 0 t.ls { s with sn:=s.sn|||vN (setOk xs) }
   generalize t.ls.foldl Sst.keep { s with sn:=s.sn|||vN (setOk xs) }=s' at *
   simp only at b1 b2 b3 b4 b5
   have hroom:=hu.room (posV (s.sn|||vN (setOk xs))) (posV_two hX.sn hsz)
   refine⟨hu.vs,hu.co,?_,?_⟩
   ·show enoughD s'.r s'.h s'.l b (posV s'.sn) s'.un=false
    rw[b1,b2,b3,b5,q5]
    exact hroom
   ·rcases hu.why with⟨a1,a2,a3,a4⟩ | ⟨a1,a2,a3⟩ | ⟨a1,a2,a3⟩
    ·exact .inl ⟨a1,a2,a3,a4⟩
    ·refine .inr (.inl ⟨a1,?_,?_⟩)
     ·show clauseD s'.hv s'.lr x.cl false=true
      rw[b4,q3];exact a2
     ·show s'.h<((litsN s'.lr:Nat):Int)+x.cl.length
      rw[b2,q3];exact a3
    ·refine .inr (.inr ⟨a1,?_,?_⟩)
     ·show clauseD s'.hv s'.lr x.cl true=true
      rw[b4,q3];exact a2
     ·show s'.l<((s'.log:Nat):Int)+x.cl.length+1
      have q2':(log':Int)=s.l - t.l:=q2
      rw[b3,q4]
      omega
  ·obtain⟨ok,log,q1,q2,q3,q4,q5⟩:=h.kept hX ht
   obtain⟨b1,b2,b3,b4,b5,b6,_,_⟩:=keeps (litsN s.lr) 0 t0.ls { s with sn:=s.sn|||vN (setOk xs) }
   have hshort:=lines_short t0.ls _ ht.ok
   have hbud:=bud_ok ht
   have q2':(log:Int)=s.l - t0.l:=q2
   simp only[List.foldl_append,List.foldl_cons,List.foldl_nil]
   generalize t0.ls.foldl Sst.keep { s with sn:=s.sn|||vN (setOk xs) }=s' at *
   simp only at b1 b2 b3 b4 b5 b6
   have hk:s'.keep (101,listN (oppN D))={ s' with pf:=s'.pf++lineT 101 (listN (oppN D)),log:=s'.log+(sizeN (oppN D)+1),un:=s'.un+1 }:=by
    unfold Sst.keep
    rw[if_neg (by simp only;decide),if_neg (by simp only;decide),if_pos rfl]
    simp only[listN_len]
   have hok:linesOk s.r s.h s.l s.hv (s.cx xs b).j0 (t0.ls++[(101,listN (oppN D))]):=by
    refine linesOk_snoc _ _ _ ht.ok ht.opn (listN_lits _) ?_
    rw[q1]
    refine⟨?_,.inr (.inl ⟨rfl,hcd⟩)⟩
    show(log:Int)+(listN (oppN D)).length+1≤s.l
    rw[listN_len]
    omega
   rw[hk]
   refine⟨⟨ok.set,ok.hvt,ok.hvs,ok.lits,ok.sn,ok.sz,ok.lt,ok.nod,ok.sem,ok.len,ok.held,?_,fun hr=>?_,?_,?_⟩,t0.sp,b1,b2,b3,b4,?_,?_,hok,?_,hbud,?_,.inr (.inl ⟨hst,?_,?_,?_⟩)⟩
   ·show((s'.log+(sizeN (oppN D)+1):Nat):Int)≤s'.l
    rw[b3,q4];omega
   ·have:=ok.sum hr
    have hsz3:sizeN (oppN D)≤2*cvN s'.sn:=by rw[b5];exact hsz2
    show s'.log+(sizeN (oppN D)+1)≤litsN s'.lr+s'.lr.length+(2*cvN s'.sn+1)*(s'.un+1)
    rw[Nat.mul_add,Nat.mul_one]
    omega
   ·have:=ok.un
    show s'.un+1≤s'.log+(sizeN (oppN D)+1)
    omega
   ·have:=ok.pf
    have hl:=line_len 101 (listN (oppN D)) (listN_lits _)
    rw[listN_len] at hl
    show(s'.pf++lineT 101 (listN (oppN D))).length≤4*(s'.log+(sizeN (oppN D)+1))
    rw[List.length_append]
    omega
   ·show posV s'.sn=posV s.sn|||varsN (setOk xs)
    rw[b5,hseen]
   ·show s'.pf++lineT 101 (listN (oppN D))=s.pf++linesT (t0.ls++[(101,listN (oppN D))])
    rw[b6]
    simp[linesT]
   ·show linesTo (s.cx xs b).j0 (t0.ls++[(101,listN (oppN D))])=⟨s'.lr,litsN s'.lr,s'.log+(sizeN (oppN D)+1),t0.sp⟩
    rw[linesTo_snoc,q1,q3,q4]
    simp only[lineTo,listN_len]
    rw[if_neg (by decide),if_neg (by decide)]
    simp[Nat.add_assoc]
   ·have h1:x.vs.length=0:=by rw[hun.vs];rfl
    have h2:x.cl.length=0:=by rw[hun.cl];rfl
    refine⟨by omega,by omega,by omega,?_⟩
    rw[lastOf_snoc]
    show(listN (oppN D)).length≤1000
    rw[listN_len]
    have:=sizeN_le (oppN D)
    omega
   ·rw[closedOf_snoc];simp
   ·show s'.un+1=s.un+1
    rw[q5]
   ·rw[lastOf_snoc];exact hun
end Go.Proofs.YthboeppmlhbofabDoor
