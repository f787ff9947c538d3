import Derived.Test.YthboeppmlhbofabDoorKba
import Derived.Test.YthboeppmlhbofabDoorHai
import Derived.Test.YthboeppmlhbofabDoorKpt
namespace Go.Proofs.YthboeppmlhbofabDoor
open Go.RowKit Txt
set_option maxRecDepth 100000
theorem lines_red{r h l:Int}{hv:List Nat}(hr:r≠0):∀ (ls:List Lin) (j:JV),linesOk r h l hv j ls→(j.lr.length:Int)≤r→((linesTo j ls).lr.length:Int)≤r:=by
 intro ls
 induction ls with
 | nil=>intro j _ hj;exact hj
 | cons p ls ih =>
  intro j hl hj
  obtain⟨_,a2,_,a4⟩:=hl
  refine ih (lineTo j p) a4 ?_
  unfold lineTo
  rcases a2.2 with⟨e,_,_,b⟩ | ⟨e,_⟩ | ⟨e,_⟩
  ·rw[if_pos e]
   rcases b with b | b
   ·exact absurd b hr
   ·simp only[List.length_append,List.length_cons,List.length_nil]
    omega
  ·rw[e,if_neg (by decide),if_neg (by decide)]
   exact hj
  ·rw[e,if_neg (by decide),if_pos rfl]
   have:=List.length_erase_le (a:=setOk p.2) (l:=j.lr)
   simp only
   omega
theorem beg_same{P:Prg}{r h l r' h' l':Int}{s s':P.S}(t:TkOk P r h l s [])(t':TkOk P r' h' l' s' [])(cs:List (List Int)):(begL P s cs).2=(begL P s' cs).2:=by
 have key:∀ (cs:List (List Int)) (p q:P.S × List (List Int)),TkOk P r h l p.1 p.2→TkOk P r' h' l' q.1 q.2→p.2=q.2→(cs.foldl (begStep P) p).2=(cs.foldl (begStep P) q).2:=by
  intro cs
  induction cs with
  | nil=>intro p q _ _ e;exact e
  | cons c cs ih =>
   intro p q hp hq e
   refine ih _ _ (hp.step c) (hq.step c) ?_
   have e1:(begStep P p c).2=if errOf (takenK c (litsN (P.vw p.1).hv))=0 then p.2++[c] else p.2:=rfl
   have e2:(begStep P q c).2=if errOf (takenK c (litsN (P.vw q.1).hv))=0 then q.2++[c] else q.2:=rfl
   have e3:(P.vw p.1).hv=(P.vw q.1).hv:=by rw[hp.v,hq.v,e]
   rw[e1,e2,e3,e]
 exact key cs (s,[]) (s',[]) t t' rfl
theorem sat_not_unsat{hv:List Nat}{seen u:Nat}{xs last:List Int}{x y:Ans}(hx:xs.all litB=true)(h1:SatOk hv seen (setOk xs) x u)(h2:UnsatOk hv y xs last):False:=by
 have hco:y.co.all litB=true:=by
  rw[List.all_eq_true]
  intro n hn
  exact List.all_eq_true.1 hx n (among_sub h2.am n hn)
 have hsub:SubN (setOk y.co) (setOk xs):=fun i hi=>by
  rw[set_ok hco] at hi
  obtain⟨n,hn,rfl⟩:=set_bit hi
  rw[set_ok hx]
  exact bit_set (among_sub h2.am n hn)
 have h3:=h1.al
 unfold allowsD at h3
 rw[Bool.and_eq_true] at h3
 have h4:SubN (setOk xs) (trueN u):=fun i hi=>by
  have h5:setOk xs&&&trueN u=setOk xs:=by simpa using h3.2
  rw[← h5,Nat.testBit_and,Bool.and_eq_true] at hi
  exact hi.2
 have h6:allowsD hv (setOk y.co) u=true:=by
  unfold allowsD
  rw[Bool.and_eq_true]
  refine⟨h3.1,?_⟩
  have:=(hsub.trans h4).eq_and
  simpa using this
 have h7:=h2.no
 unfold someD at h7
 rw[List.any_eq_false] at h7
 exact h7 u (List.mem_range.2 h1.lt) h6
def Says(hv:List Nat)(xs:List Int)(x:Ans):Prop:=(x.st=1∧∃ seen u,SatOk hv seen (setOk xs) x u)∨(x.st=2∧∃ last,UnsatOk hv x xs last)
theorem says_same{hv:List Nat}{xs:List Int}{x y:Ans}(hx:xs.all litB=true)(h1:Says hv xs x)(h2:Says hv xs y):x.st=y.st:=by
 rcases h1 with⟨e1,s1,u1,a1⟩ | ⟨e1,l1,a1⟩ <;> rcases h2 with⟨e2,s2,u2,a2⟩ | ⟨e2,l2,a2⟩
 ·rw[e1,e2]
 ·exact(sat_not_unsat hx a1 a2).elim
 ·exact(sat_not_unsat hx a2 a1).elim
 ·rw[e1,e2]
theorem slv_says{v v':Vw}{xs:List Int}{b:Int}{x:Ans}{ls:List Lin}{st:Nat}(so:SolveOk v xs b v' x ls st):Says v.hv xs x∨x.st=3:=by
 rcases so.how with⟨h1,_,_,u,h4⟩ | ⟨h1,_,_,h4⟩ | ⟨h1,_⟩
 ·exact .inl (.inl ⟨h1,_,u,h4⟩)
 ·exact .inl (.inr ⟨h1,_,h4⟩)
 ·exact .inr h1
theorem wide_says{P:Prg}{s:P.S}(ok:P.Ok s)(hw:Roomy (P.vw s)){xs:List Int}(ha:askedD xs 0=0):Says (P.vw s).hv xs (P.ans s xs 0):=by
 obtain⟨_,ls,st,so,how⟩:=wide_ok ok hw ha
 rcases how with⟨h1,_,u,h4⟩ | ⟨h1,_,_,h4⟩
 ·exact .inl ⟨h1,_,u,h4⟩
 ·exact .inr ⟨h1,_,h4⟩
theorem lines_grow{h l:Int}{hv:List Nat}:∀ (ls:List Lin) (j:JV),linesOk 0 h l hv j ls→(linesTo j ls).lr.length+j.st=j.lr.length+(linesTo j ls).st:=by
 intro ls
 induction ls with
 | nil=>intro j _;simp[linesTo]
 | cons p ls ih =>
  intro j hl
  obtain⟨_,a2,_,a4⟩:=hl
  have h1:=ih (lineTo j p) a4
  have e:linesTo j (p :: ls)=linesTo (lineTo j p) ls:=rfl
  rw[e]
  rcases a2.2 with⟨e,_⟩ | ⟨e,_⟩ | ⟨_,_,e,_⟩
  ·have e1:(lineTo j p).lr.length=j.lr.length+1:=by unfold lineTo;rw[if_pos e];simp
   have e2:(lineTo j p).st=j.st+1:=by unfold lineTo;rw[if_pos e]
   omega
  ·have e1:(lineTo j p).lr.length=j.lr.length:=by unfold lineTo;rw[e,if_neg (by decide),if_neg (by decide)]
   have e2:(lineTo j p).st=j.st:=by unfold lineTo;rw[e,if_neg (by decide),if_neg (by decide)]
   omega
  ·exact absurd rfl e
theorem vars_five:∀ c,c<1024→varsN c&&&341=varsN c:=by decide +kernel
theorem set_five{xs:List Int}(h:∀ x∈xs,litB x=true∧-5≤x∧x≤5):setN xs<1024:=by
 have key:∀ (ys:List Int) (a:Nat),(∀ x∈ys,litB x=true∧-5≤x∧x≤5)→a<2^10→ys.foldl (fun a l=>a|||bitN l) a<2^10:=by
  intro ys
  induction ys with
  | nil=>intro a _ ha;exact ha
  | cons y ys ih =>
   intro a h ha
   refine ih _ (fun x hx=>h x (List.mem_cons_of_mem _ hx)) (Nat.or_lt_two_pow ha ?_)
   obtain⟨h1,h2,h3⟩:=h y (List.mem_cons_self ..)
   simp only[litB,Bool.and_eq_true,bne_iff_ne,decide_eq_true_eq] at h1
   rw[bitN_pow]
   refine Nat.pow_lt_pow_right (by decide) ?_
   unfold bitI
   split <;> omega
 exact key xs 0 h (by decide)
theorem seen_five{tk:List (List Int)}(h:∀ c∈tk,∀ x∈c,litB x=true∧-5≤x∧x≤5):SubN (seenN (hvOf tk)) 341:=by
 have key:∀ (cs:List Nat) (a:Nat),(∀ c∈cs,c<1024)→SubN a 341→SubN (cs.foldl (fun a c=>a|||varsN c) a) 341:=by
  intro cs
  induction cs with
  | nil=>intro a _ h;exact h
  | cons c cs ih =>
   intro a hc ha
   refine ih _ (fun x hx=>hc x (List.mem_cons_of_mem _ hx)) (sub_or ha ?_)
   rw[← vars_five c (hc c (List.mem_cons_self ..))]
   exact sub_and2 _ _
 refine key _ 0 (fun c hc=>?_) fun i q=>by rw[Nat.zero_testBit] at q;simp at q
 unfold hvOf at hc
 obtain⟨d,hd,rfl⟩:=List.mem_map.1 hc
 exact set_five (h d (List.mem_filter.1 hd).1)
theorem vn_five{c:Nat}(hc:c<1048576)(h:SubN (varsN c) 341):SubN (vN c) 62:=by
 intro i hi
 have h11:i<11:=by
  by_cases q:i<11
  ·exact q
  ·exfalso
   have:=Nat.testBit_lt_two_pow (Nat.lt_of_lt_of_le (vN_lt c) (Nat.pow_le_pow_right (by decide) (by omega:11≤i)))
   rw[this] at hi
   simp at hi
 cases i with
 | zero=>rw[vN_zero] at hi;simp at hi
 | succ v =>
  have h1:=(vars_bit hc (show v<10 by omega)).1
  rw[hi] at h1
  have h2:=h _ h1
  have h3:∀ v,v<10→(341:Nat).testBit (2*v)=true→(62:Nat).testBit (v+1)=true:=by decide
  exact h3 v (by omega) h2
theorem five_cap{v:Vw}(ok:VwOk v)(h:SubN v.seen 341):v.lr.length≤243∧litsN v.lr≤1215:=by
 have h1:=count_le (V:=62) ok.few.1 fun c hc=>⟨ok.lrt c hc,(ok.few.2 c hc).1,vn_five (ok.lrt c hc) ((ok.few.2 c hc).2.trans h)⟩
 have e1:cvN 62=5:=by decide
 have e2:pow3 5=243:=by decide
 rw[e1,e2] at h1
 omega
structure Bgt(P:Prg)(tk:List (List Int))(n:Nat)(s:P.S):Prop where
 ok:P.Ok s
 room:Roomy (P.vw s)
 hv:(P.vw s).hv=hvOf tk
 seen:SubN (P.vw s).seen 341
 un:(P.vw s).unsat=0
 len:n≤(P.vw s).lr.length
theorem Bgt.cap{P:Prg}{tk:List (List Int)}{n:Nat}{s:P.S}(h:Bgt P tk n s):n≤243:=Nat.le_trans h.len (five_cap (P.bd h.ok) h.seen).1
theorem asked_nil{b:Int}(hb:0≤b):askedD [] b=0:=by
 unfold askedD
 rw[if_neg (by simp),if_neg (by simp),if_neg (by omega)]
theorem Bgt.step{P:Prg}{tk:List (List Int)}{n:Nat}{s:P.S}(h:Bgt P tk n s){b:Int}(hb:1≤b):((P.ans s [] b).st=3∧(P.ans s [] b).re=1∧Bgt P tk (n+1) (P.slv s [] b))∨((P.ans s [] b).st≠3∧Says (hvOf tk) [] (P.ans s [] b)):=by
 obtain⟨ok',ls,st,so⟩:=P.slvV s [] b h.ok (asked_nil (by omega))
 rcases slv_says so with hs | h3
 ·refine .inr ⟨?_,by rw[← h.hv];exact hs⟩
  rcases hs with⟨e,_⟩ | ⟨e,_⟩ <;> rw[e] <;> decide
 ·refine .inl ⟨h3,?_⟩
  rcases so.how with⟨h1,_⟩ | ⟨h1,_⟩ | ⟨_,_,hun,hk⟩
  ·rw[h1] at h3;simp at h3
  ·rw[h1] at h3;simp at h3
  ·have hv0:varsN (setOk ([]:List Int))=0:=by decide
   have hseen:SubN (P.vw (P.slv s [] b)).seen 341:=by rw[so.seen,hv0,Nat.or_zero];exact h.seen
   have hun0:(P.vw (P.slv s [] b)).unsat=0:=by rw[hun];exact h.un
   obtain⟨c1,c2⟩:=five_cap (P.bd ok') hseen
   have hr:=so.r
   rw[h.room.r] at hr
   have c3:=(P.bd ok').sum hr
   have hlen:=so.len.2.2.1
   have hh:(P.vw (P.slv s [] b)).h=1048576:=so.h.trans h.room.h
   have hl:(P.vw (P.slv s [] b)).l=1048576:=so.l.trans h.room.l
   rcases hk.why with⟨q1,_,q3,_⟩ | ⟨_,_,q3⟩ | ⟨_,_,q3⟩
   ·refine⟨q1,ok',h.room.solve so (by omega),so.hv.trans h.hv,hseen,hun0,?_⟩
    have hok:=so.ok
    rw[h.room.r] at hok
    have hg:=lines_grow ls _ hok
    rw[so.to] at hg
    simp only at hg
    have q3':((st:Nat):Int)=b:=q3
    have:=h.len
    omega
   ·exfalso
    have q3':(P.vw (P.slv s [] b)).h<((litsN (P.vw (P.slv s [] b)).lr:Nat):Int)+(P.ans s [] b).cl.length:=q3
    omega
   ·exfalso
    have q3':(P.vw (P.slv s [] b)).l<(((P.vw (P.slv s [] b)).log:Nat):Int)+(P.ans s [] b).cl.length+1:=q3
    omega
theorem TkOk.bgt{P:Prg}{s:P.S}{tk:List (List Int)}(t:TkOk P 0 1048576 1048576 s tk)(h:∀ c∈tk,∀ x∈c,-5≤x∧x≤5):Bgt P tk 0 s:=by
 refine⟨t.ok,t.roomy,by rw[t.v],?_,by rw[t.v],Nat.zero_le _⟩
 rw[t.v]
 exact seen_five fun c hc x hx=>⟨List.all_eq_true.1 (t.lit c hc) x hx,h c hc x hx⟩
structure Duo(P:Prg)(w wr:World)(g1 g2:Nat)(s1 s2:P.S)(F1 F2 K:Nat→Prop):Prop where
 x1:P.At wr g1 s1 F1
 x2:P.At wr g2 s2 F2
 b1:∀ b,F1 b→w.heap.size≤b
 b2:∀ b,F2 b→w.heap.size≤b
 d12:∀ b,F1 b→¬ F2 b
 k1:∀ b,K b→¬ F1 b
 k2:∀ b,K b→¬ F2 b
 kl:∀ b,K b→b<wr.heap.size
 bel:Below w.heap.size w wr
theorem Duo.below{P:Prg}{w wr wz:World}{g1 g2:Nat}{s1 s2:P.S}{F1 F2 K:Nat→Prop}(h:Duo P w wr g1 g2 s1 s2 F1 F2 K)(hb:Below wr.heap.size wr wz):Duo P w wz g1 g2 s1 s2 F1 F2 K :=
 ⟨P.below h.x1 hb,P.below h.x2 hb,h.b1,h.b2,h.d12,h.k1,h.k2,fun b q=>Nat.lt_of_lt_of_le (h.kl b q) hb.size,h.bel.trans (hb.mono h.bel.size)⟩
theorem Duo.more{P:Prg}{w wr:World}{g1 g2:Nat}{s1 s2:P.S}{F1 F2 K:Nat→Prop}(h:Duo P w wr g1 g2 s1 s2 F1 F2 K){n:Nat}(h1:¬ F1 n)(h2:¬ F2 n)(hn:n<wr.heap.size):Duo P w wr g1 g2 s1 s2 F1 F2 (fun b=>K b∨b=n) :=
 ⟨h.x1,h.x2,h.b1,h.b2,h.d12,fun b q=>q.elim (h.k1 b) (fun e=>e ▸ h1),fun b q=>q.elim (h.k2 b) (fun e=>e ▸ h2),fun b q=>q.elim (h.kl b) (fun e=>e ▸ hn),h.bel⟩
theorem Duo.less{P:Prg}{w wr:World}{g1 g2:Nat}{s1 s2:P.S}{F1 F2 K K':Nat→Prop}(h:Duo P w wr g1 g2 s1 s2 F1 F2 K)(hk:∀ b,K' b→K b):Duo P w wr g1 g2 s1 s2 F1 F2 K' :=
 ⟨h.x1,h.x2,h.b1,h.b2,h.d12,fun b q=>h.k1 b (hk b q),fun b q=>h.k2 b (hk b q),fun b q=>h.kl b (hk b q),h.bel⟩
theorem Duo.set{P:Prg}{w wr:World}{g1 g2:Nat}{s1 s2:P.S}{F1 F2 K:Nat→Prop}(h:Duo P w wr g1 g2 s1 s2 F1 F2 K){n:Nat}(hn:K n)(hw:w.heap.size≤n)(i:Nat)(v:Value):Duo P w (wr.setCell ⟨n,i,none⟩ v) g1 g2 s1 s2 F1 F2 K:=by
 have hs:(wr.setCell ⟨n,i,none⟩ v).heap.size=wr.heap.size:=World.size_setCell wr ⟨n,i,none⟩ v
 have kk:∀ b,b≠n→(wr.setCell ⟨n,i,none⟩ v).heap[b]?=wr.heap[b]?:=fun b hb=>Below.heap_setCell wr ⟨n,i,none⟩ v b hb
 exact⟨P.frame h.x1 fun b q=>kk b fun e=>h.k1 n hn (e ▸ q),P.frame h.x2 fun b q=>kk b fun e=>h.k2 n hn (e ▸ q),h.b1,h.b2,h.d12,h.k1,h.k2,fun b q=>by rw[hs];exact h.kl b q,h.bel.setCell (p:=⟨n,i,none⟩) hw v⟩
theorem Duo.call1{P:Prg}{w wr w':World}{g1 g2:Nat}{s1 s2 s':P.S}{F1 F2 F' K:Nat→Prop}(h:Duo P w wr g1 g2 s1 s2 F1 F2 K)(x:P.At w' g1 s' F')(c:Chn F1 wr w')(n:∀ b,F' b→F1 b∨wr.heap.size≤b):Duo P w w' g1 g2 s' s2 F' F2 K∧∀ b,K b→w'.heap[b]?=wr.heap[b]?:=by
 have kk:∀ b,K b→w'.heap[b]?=wr.heap[b]?:=fun b q=>c.block b (h.kl b q) (h.k1 b q)
 have hz:=h.bel.size
 refine⟨⟨x,P.frame h.x2 fun b q=>c.block b (P.lt h.x2 b q) fun e=>h.d12 b e q,fun b q=>(n b q).elim (h.b1 b) fun e=>by omega,h.b2,fun b q e=>?_,fun b q e=>?_,h.k2,fun b q=>Nat.lt_of_lt_of_le (h.kl b q) c.size,chn_below h.bel c hz h.b1⟩,kk⟩
 ·rcases n b q with z | z
  ·exact h.d12 b z e
  ·have:=P.lt h.x2 b e;omega
 ·rcases n b e with z | z
  ·exact h.k1 b q z
  ·have:=h.kl b q;omega
theorem Duo.swap{P:Prg}{w wr:World}{g1 g2:Nat}{s1 s2:P.S}{F1 F2 K:Nat→Prop}(h:Duo P w wr g1 g2 s1 s2 F1 F2 K):Duo P w wr g2 g1 s2 s1 F2 F1 K :=
 ⟨h.x2,h.x1,h.b2,h.b1,fun b q e=>h.d12 b e q,h.k2,h.k1,h.kl,h.bel⟩
theorem Duo.call2{P:Prg}{w wr w':World}{g1 g2:Nat}{s1 s2 s':P.S}{F1 F2 F' K:Nat→Prop}(h:Duo P w wr g1 g2 s1 s2 F1 F2 K)(x:P.At w' g2 s' F')(c:Chn F2 wr w')(n:∀ b,F' b→F2 b∨wr.heap.size≤b):Duo P w w' g1 g2 s1 s' F1 F' K∧∀ b,K b→w'.heap[b]?=wr.heap[b]?:=by
 obtain⟨a,b⟩:=h.swap.call1 x c n
 exact⟨a.swap,b⟩
theorem row_keep{w w':World}{b t:Nat}{vs:List Value}(h:Row w b t vs)(hk:w'.heap[b]?=w.heap[b]?):Row w' b t vs:=hk.trans h
theorem solve_none(P:Prg){w:World}{g:Nat}{s:P.S}{F:Nat→Prop}(h:P.At w g s F)(ok:P.Ok s)(hn:(P.vw s).hv.length≤1000)(ht:Tab w)(h0:0<w.heap.size)(hF:¬ F 0)(b:Int) :
  Calls Tryd.prog 13 #[.pointer (some ⟨g,0,none⟩),.slice none 0 0,.int .i64 b] w fun e w'=>∃ p:A3,e=.returned (.tuple #[.agg #[.int .i64 (P.ans s [] b).st,.int .i64 (P.ans s [] b).re,.slice p.a1 (P.ans s [] b).vs.length p.c1,.slice p.a2 (P.ans s [] b).co.length p.c2,.slice p.a3 (P.ans s [] b).cl.length p.c3],.int .i64 (askedD [] b)]) ∧
   AnsOwn w' w.heap.size (P.ans s [] b) p∧∃ F',P.At w' g (P.slv s [] b) F'∧Chn F w w'∧(∀ q,F' q→F q∨w.heap.size≤q)∧∀ k,p.At k→¬ F' k:=by
 refine(P.slvC none 0 [] b h ok ht h0 hF (.inl rfl) (fun ad e=>by simp at e) (by simp) (by omega)).mono ?_
 rintro e w' ⟨p,he,ha,_,F',x,c,n,q⟩
 exact⟨p,he,ha,F',x,c,n,q⟩
structure Tkn(w:World)(B:Nat)(ta:Option Addr)(tc:Nat)(vs:List Value)(tk:List (List Int)):Prop where
 top:w.ownsRow B 23 1 (.slice ta tk.length tc) tk.length vs
 each:AllOwn w B 3 vs tk
def TkB(ta:Option Addr)(tc:Nat)(vs:List Value)(b:Nat):Prop:=(Value.slice ta 0 tc).ownBlock=some b∨∃ u∈vs,u.ownBlock=some b
theorem top_block(ta:Option Addr)(n tc:Nat):(Value.slice ta n tc).ownBlock=(Value.slice ta 0 tc).ownBlock:=by cases ta <;> rfl
theorem Beg.tkn{P:Prg}{w:World}{B g:Nat}{s:P.S}{F:Nat→Prop}{ta:Option Addr}{tc:Nat}{vs:List Value}{tk:List (List Int)}(h:Beg P w B g s F ta tc vs tk):Tkn w B ta tc vs tk:=⟨h.top,h.each⟩
theorem Tkn.frame{w w':World}{B:Nat}{ta:Option Addr}{tc:Nat}{vs:List Value}{tk:List (List Int)}(h:Tkn w B ta tc vs tk)(hk:∀ b,TkB ta tc vs b→w'.heap[b]?=w.heap[b]?):Tkn w' B ta tc vs tk :=
 ⟨own_keep h.top (fun b e=>hk b (.inl (by rw[top_block] at e;exact e))),h.each.map (fun u hu _ _ ho=>own_keep ho (fun b e=>hk b (.inr ⟨u,hu,e⟩)))⟩
theorem Tkn.lt{w:World}{B:Nat}{ta:Option Addr}{tc:Nat}{vs:List Value}{tk:List (List Int)}(h:Tkn w B ta tc vs tk){b:Nat}(hb:TkB ta tc vs b):B≤b∧b<w.heap.size:=by
 rcases hb with e | ⟨u,hu,e⟩
 ·exact h.top.lt b (by rw[top_block];exact e)
 ·obtain⟨xs,hx⟩:=h.each.mem hu
  exact hx.lt b e
theorem Tkn.below{w w':World}{B:Nat}{ta:Option Addr}{tc:Nat}{vs:List Value}{tk:List (List Int)}(h:Tkn w B ta tc vs tk)(hb:Below w.heap.size w w'):Tkn w' B ta tc vs tk:=h.frame fun b q=>hb.block b (h.lt q).2
theorem Beg.tkB{P:Prg}{w:World}{B g:Nat}{s:P.S}{F:Nat→Prop}{ta:Option Addr}{tc:Nat}{vs:List Value}{tk:List (List Int)}(h:Beg P w B g s F ta tc vs tk){b:Nat}(hb:TkB ta tc vs b):¬ F b:=fun hf=>by
 rcases hb with e | ⟨u,hu,e⟩
 ·exact h.ap1 b hf (by rw[top_block];exact e)
 ·exact h.ap2 b hf u hu e
theorem Tkn.at{w:World}{B:Nat}{ta:Option Addr}{tc:Nat}{vs:List Value}{tk:List (List Int)}(h:Tkn w B ta tc vs tk){r:Nat}(hr:r<tk.length):∃ g a c,ta=some ⟨g,0,none⟩∧w.cell? ⟨g,r,none⟩=some (.slice a (tk.getD r []).length c)∧w.ownsRow B 3 1 (.slice a (tk.getD r []).length c) (tk.getD r []).length (i64s (tk.getD r []))∧∀ b,(Value.slice a (tk.getD r []).length c).ownBlock=some b→TkB ta tc vs b:=by
 obtain⟨g',cap,e,_,_⟩:=h.top.form (by omega)
 simp only[Value.slice.injEq] at e
 obtain⟨rfl,_,rfl⟩:=e
 obtain⟨u,h1,h2⟩:=h.each.at r hr
 obtain⟨a,c,rfl⟩:=own_shape h2
 have hc:=h.top.cells (g:=g') rfl r _ h1
 rw[addr0,Nat.zero_add] at hc
 exact⟨g',a,c,rfl,hc,h2,fun b e=>.inr ⟨_,List.mem_of_getElem? h1,e⟩⟩
theorem duo_start{P:Prg}{w wa w1 w2:World}{g1 g2:Nat}{s1 s2:P.S}{F1 F2:Nat→Prop}{ta1 ta2:Option Addr}{tc1 tc2:Nat}{vs1 vs2:List Value}{tk1 tk2:List (List Int)}{r1 r2:List Value}{o1 o2:Obj}(e1:o1=.cells r1.toArray 26)(e2:o2=.cells r2.toArray 26)
  (hw:Below w.heap.size w wa) (h1:Beg P w1 wa.heap.size g1 s1 F1 ta1 tc1 vs1 tk1) (hb1:Below wa.heap.size wa w1) (h2:Beg P w2 (w1.alloc o1).heap.size g2 s2 F2 ta2 tc2 vs2 tk2) (hb2:Below (w1.alloc o1).heap.size (w1.alloc o1) w2) :
  Duo P w (w2.alloc o2) g1 g2 s1 s2 F1 F2 (fun b=>b=w1.heap.size∨b=w2.heap.size∨TkB ta2 tc2 vs2 b)∧Row (w2.alloc o2) w1.heap.size 26 r1∧Row (w2.alloc o2) w2.heap.size 26 r2∧Tkn (w2.alloc o2) w.heap.size ta2 tc2 vs2 tk2:=by
 subst e1 e2
 have z0:w.heap.size≤wa.heap.size:=hw.size
 have z1:wa.heap.size≤w1.heap.size:=hb1.size
 have za:(w1.alloc (.cells r1.toArray 26)).heap.size=w1.heap.size+1:=by simp
 have z2:=hb2.size
 have zb:(w2.alloc (.cells r2.toArray 26)).heap.size=w2.heap.size+1:=by simp
 have q1:=al_below w1 (.cells r1.toArray 26)
 have q2:=al_below w2 (.cells r2.toArray 26)
 have x1:P.At (w2.alloc (.cells r2.toArray 26)) g1 s1 F1:=P.below (P.below (P.below h1.x q1) hb2) q2
 have x2:P.At (w2.alloc (.cells r2.toArray 26)) g2 s2 F2:=P.below h2.x q2
 have l1:∀ b,F1 b→b<w1.heap.size:=P.lt h1.x
 have l2:∀ b,F2 b→b<w2.heap.size:=P.lt h2.x
 have r1':Row (w1.alloc (.cells r1.toArray 26)) w1.heap.size 26 r1:=heap_alloc_new w1 _
 refine⟨⟨x1,x2,fun b q=>Nat.le_trans z0 (h1.fb b q),fun b q=>?_,fun b q e=>?_,fun b q e=>?_,fun b q e=>?_,fun b q=>?_,?_⟩,row_below (row_below r1' hb2) q2,heap_alloc_new w2 _,?_⟩
 ·have:=h2.fb b q;omega
 ·have a1:=l1 b q
  have a2:=h2.fb b e
  omega
 ·have a1:=l1 b e
  rcases q with rfl|rfl | q
  ·omega
  ·omega
  ·have:=(h2.tkn.lt q).1;omega
 ·rcases q with rfl|rfl | q
  ·have:=h2.fb _ e;omega
  ·have:=l2 _ e;omega
  ·exact h2.tkB q e
 ·rcases q with rfl|rfl | q
  ·omega
  ·omega
  ·have:=(h2.tkn.lt q).2;omega
 ·exact((hw.trans (hb1.mono z0)).trans (q1.mono (by omega))).trans ((hb2.mono (by omega)).trans (q2.mono (by omega)))
 ·have h3:=(h2.low (B':=w.heap.size) (by omega)).tkn
  exact h3.below q2
theorem beg_fold{P:Prg}(s0:P.S)(cs:List (List Int)):(begL P s0 cs).2.foldl P.add s0=(begL P s0 cs).1∧∀ k,k<(begL P s0 cs).2.length→errOf (takenK ((begL P s0 cs).2.getD k []) (litsN (P.vw (((begL P s0 cs).2.take k).foldl P.add s0)).hv))=0:=by
 have key:∀ (cs:List (List Int)) (p:P.S × List (List Int)),(p.2.foldl P.add s0=p.1∧∀ k,k<p.2.length→errOf (takenK (p.2.getD k []) (litsN (P.vw ((p.2.take k).foldl P.add s0)).hv))=0)→((cs.foldl (begStep P) p).2.foldl P.add s0=(cs.foldl (begStep P) p).1∧∀ k,k<(cs.foldl (begStep P) p).2.length→errOf (takenK ((cs.foldl (begStep P) p).2.getD k []) (litsN (P.vw (((cs.foldl (begStep P) p).2.take k).foldl P.add s0)).hv))=0):=by
  intro cs
  induction cs with
  | nil=>intro p h;exact h
  | cons c cs ih =>
   intro p h
   refine ih _ ?_
   have e1:(begStep P p c).1=P.add p.1 c:=rfl
   have e2:(begStep P p c).2=if errOf (takenK c (litsN (P.vw p.1).hv))=0 then p.2++[c] else p.2:=rfl
   rw[e1,e2]
   by_cases he:errOf (takenK c (litsN (P.vw p.1).hv))=0
   ·rw[if_pos he]
    refine⟨by rw[List.foldl_append,h.1];rfl,fun k hk=>?_⟩
    simp only[List.length_append,List.length_cons,List.length_nil] at hk
    by_cases hlt:k<p.2.length
    ·have q:=h.2 k hlt
     rw[List.take_append_of_le_length (by omega),List.getD_eq_getElem?_getD,List.getElem?_append_left hlt,← List.getD_eq_getElem?_getD]
     exact q
    ·obtain rfl:k=p.2.length:=by omega
     rw[List.take_left,h.1,List.getD_eq_getElem?_getD,List.getElem?_append_right (Nat.le_refl _),Nat.sub_self]
     exact he
   ·rw[if_neg he]
    have hn:(takenK c (litsN (P.vw p.1).hv)).takes?=false:=by
     cases hk:takenK c (litsN (P.vw p.1).hv) with
     | takes=>rw[hk] at he;exact absurd rfl he
     | _=>rfl
    rw[P.addN p.1 c hn]
    exact h
 exact key cs (s0,[]) ⟨rfl,fun k hk=>by simp at hk⟩
theorem fold_ok{P:Prg}{s0:P.S}(h:P.Ok s0):∀ (cs:List (List Int)),P.Ok (cs.foldl P.add s0):=by
 intro cs
 induction cs generalizing s0 with
 | nil=>exact h
 | cons c cs ih=>exact ih (P.addV s0 c h).1
theorem add_hv{P:Prg}{s:P.S}(h:P.Ok s)(c:List Int):(P.vw (P.add s c)).hv.length≤(P.vw s).hv.length+1:=by
 rw[(P.addV s c h).2]
 unfold Vw.add
 split <;> simp
theorem fold_hv{P:Prg}{s0:P.S}(h:P.Ok s0):∀ (cs:List (List Int)),(P.vw (cs.foldl P.add s0)).hv.length≤(P.vw s0).hv.length+cs.length:=by
 intro cs
 induction cs generalizing s0 with
 | nil=>simp
 | cons c cs ih =>
  have h1:=ih (P.addV s0 c h).1
  have h2:=add_hv h c
  simp only[List.foldl_cons,List.length_cons]
  omega
theorem anew_state{P:Prg}{s:P.S}{tk:List (List Int)}(t:TkOk P 0 1048576 1048576 s tk){xs:List Int}{b:Int}(ha:askedD xs b=0):P.Ok (P.slv s xs b)∧P.rst (P.slv s xs b)=P.new 0 1048576 1048576:=by
 obtain⟨ok,ls,st,so⟩:=P.slvV s xs b t.ok ha
 refine⟨ok,?_⟩
 rw[P.rstE _ ok,so.r,so.h,so.l,t.v]
theorem slv_hv{P:Prg}{s:P.S}(ok:P.Ok s){xs:List Int}{b:Int}(ha:askedD xs b=0):P.Ok (P.slv s xs b)∧(P.vw (P.slv s xs b)).hv=(P.vw s).hv:=by
 obtain⟨ok',ls,st,so⟩:=P.slvV s xs b ok ha
 exact⟨ok',so.hv⟩
structure Rmy(P:Prg)(tk:List (List Int))(n:Nat)(s:P.S):Prop where
 ok:P.Ok s
 room:Roomy (P.vw s)
 un:(P.vw s).unsat≤n
 hv:(P.vw s).hv=hvOf tk
theorem TkOk.rmy{P:Prg}{s:P.S}{tk:List (List Int)}(t:TkOk P 0 1048576 1048576 s tk):Rmy P tk 0 s:=⟨t.ok,t.roomy,by rw[t.v];exact Nat.le_refl _,by rw[t.v]⟩
theorem Rmy.step{P:Prg}{tk:List (List Int)}{n:Nat}{s:P.S}(h:Rmy P tk n s)(hn:n≤800){xs:List Int}(ha:askedD xs 0=0):Rmy P tk (n+1) (P.slv s xs 0)∧Says (hvOf tk) xs (P.ans s xs 0):=by
 obtain⟨ok',ls,st,so,how⟩:=wide_ok h.ok h.room ha
 have hu:(P.vw (P.slv s xs 0)).unsat≤n+1:=by
  have:=h.un
  rcases how with⟨_,e,_⟩ | ⟨_,e,_⟩ <;> omega
 exact⟨⟨ok',h.room.solve so (by omega),hu,so.hv.trans h.hv⟩,by rw[← h.hv];exact wide_says h.ok h.room ha⟩
structure Rdc(P:Prg)(r:Int)(tk:List (List Int))(s:P.S):Prop where
 ok:P.Ok s
 rr:(P.vw s).r=r
 hv:(P.vw s).hv=hvOf tk
 len:((P.vw s).lr.length:Int)≤r
theorem TkOk.rdc{P:Prg}{r h l:Int}{s:P.S}{tk:List (List Int)}(t:TkOk P r h l s tk)(hr:0≤r):Rdc P r tk s:=⟨t.ok,by rw[t.v],by rw[t.v],by rw[t.v];exact hr⟩
theorem Rdc.step{P:Prg}{r:Int}{tk:List (List Int)}{s:P.S}(h:Rdc P r tk s)(hr:r≠0){xs:List Int}{b:Int}(ha:askedD xs b=0):Rdc P r tk (P.slv s xs b)∧(Says (hvOf tk) xs (P.ans s xs b)∨(P.ans s xs b).st=3):=by
 obtain⟨ok',ls,st,so⟩:=P.slvV s xs b h.ok ha
 refine⟨⟨ok',so.r.trans h.rr,so.hv.trans h.hv,?_⟩,by rw[← h.hv];exact slv_says so⟩
 have h1:=so.ok
 rw[h.rr] at h1
 have h2:=lines_red hr ls _ h1 h.len
 rw[so.to] at h2
 exact h2
theorem red_agree{tk:List (List Int)}{xs:List Int}{x y:Ans}(hx:xs.all litB=true)(h1:Says (hvOf tk) xs x)(h2:Says (hvOf tk) xs y∨y.st=3):(x.st=1∨x.st=2)∧(y.st=x.st∨y.st=3):=by
 refine⟨h1.imp (fun q=>q.1) fun q=>q.1,h2.imp (fun q=>(says_same hx h1 q).symm) id⟩
def turnI(x:Int):Int:=if x=10 then 3 else if x=-10 then -3 else -x
theorem turn_lit{x:Int}(h:litB x=true):litB (turnI x)=true:=by
 rcases lit_cases h with rfl|rfl|rfl|rfl|rfl|rfl|rfl|rfl|rfl|rfl|rfl|rfl|rfl|rfl|rfl|rfl|rfl|rfl|rfl|rfl <;> decide
def turnL(xs:List Int):List Int:=xs.map turnI
theorem turnL_lits{xs:List Int}(h:xs.all litB=true):(turnL xs).all litB=true:=by
 unfold turnL
 rw[List.all_eq_true]
 intro y hy
 obtain⟨x,hx,rfl⟩:=List.mem_map.1 hy
 exact turn_lit (List.all_eq_true.1 h x hx)
theorem turnL_len(xs:List Int):(turnL xs).length=xs.length:=by simp[turnL]
theorem lits_asked{xs:List Int}{b:Int}(h:xs.all litB=true)(hl:xs.length≤20)(hb:0≤b):askedD xs b=0:=by
 unfold askedD
 rw[if_neg (by omega),if_neg (by rw[h];simp),if_neg (by omega)]
def turnP(ys:List Int)(k:Nat):List Int:=(ys.take k).map turnI++ys.drop k
theorem turnP_len(ys:List Int)(k:Nat):(turnP ys k).length=ys.length:=by simp[turnP];omega
theorem turnP_get(ys:List Int)(k:Nat)(hk:k<ys.length):(turnP ys k)[k]?=some (ys.getD k 0):=by
 unfold turnP
 rw[List.getElem?_append_right (by simp;omega)]
 simp only[List.length_map,List.length_take]
 rw[Nat.min_eq_left (by omega),Nat.sub_self,List.getElem?_drop,Nat.add_zero,List.getD_eq_getElem?_getD,List.getElem?_eq_getElem hk]
 rfl
theorem turnP_succ(ys:List Int)(k:Nat)(hk:k<ys.length):turnP ys (k+1)=(turnP ys k).set k (turnI (ys.getD k 0)):=by
 have e:ys.drop k=ys.getD k 0 :: ys.drop (k+1):=by
  rw[List.drop_eq_getElem_cons hk,List.getD_eq_getElem?_getD,List.getElem?_eq_getElem hk];rfl
 unfold turnP
 rw[List.take_succ_eq_append_getElem hk,List.map_append,e,List.set_append_right _ _ (by simp;omega)]
 simp only[List.length_map,List.length_take,Nat.min_eq_left (Nat.le_of_lt hk),Nat.sub_self,List.set_cons_zero,List.append_assoc]
 rw[List.getD_eq_getElem?_getD,List.getElem?_eq_getElem hk]
 rfl
theorem turnP_end(ys:List Int):turnP ys ys.length=turnL ys:=by
 unfold turnP turnL
 rw[List.take_of_length_le (Nat.le_refl _),List.drop_eq_nil_of_le (Nat.le_refl _),List.append_nil]
end Go.Proofs.YthboeppmlhbofabDoor
