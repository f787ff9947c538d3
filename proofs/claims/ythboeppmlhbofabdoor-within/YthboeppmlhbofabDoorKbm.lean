import Derived.Test.YthboeppmlhbofabDoorKba
import Derived.Test.YthboeppmlhbofabDoorKbk
import Derived.Test.YthboeppmlhbofabDoorKad
import Derived.Test.YthboeppmlhbofabDoorKbv
namespace Go.Proofs.YthboeppmlhbofabDoor
open Go.RowKit Txt
set_option maxRecDepth 100000
theorem pow_sub{i m:Nat}(h:m.testBit i=true):SubN (2^i) m:=fun j hj=>by
 rw[Nat.testBit_two_pow] at hj
 have:i=j:=by simpa using hj
 exact this ▸ h
theorem low_one{v:Nat}(hv:v<2^20)(h0:v≠0):∃ j,v.testBit j=true∧lowN v=2^j:=by
 obtain⟨j,h1,h2⟩:=low_bit v 64 h0 (Nat.lt_of_lt_of_le hv (by decide))
 exact⟨j,h1,h2⟩
theorem joined_reach{cs:List Nat}{v:Nat}(hv:v<2^20)(hm:SubN v 349525)(hj:joinedD cs v=true){i j:Nat}(hi:v.testBit i=true)(hjj:v.testBit j=true):(joinTo cs 11 (2^i)).testBit j=true:=by
 have h0:v≠0:=fun e=>by rw[e,Nat.zero_testBit] at hi;simp at hi
 obtain⟨k,hk,elow⟩:=low_one hv h0
 have hX:SubN v (joinTo cs 10 (2^k)):=by
  unfold joinedD at hj
  rw[elow] at hj
  have hj':v&&&joinTo cs 10 (2^k)=v:=by simpa using hj
  intro q hq
  rw[← hj',Nat.testBit_and,Bool.and_eq_true] at hq
  exact hq.2
 have hY:=join_fix cs 11 (2^i) (pow_sub (hm i hi)) (by omega)
 have hcl:∀ c∈cs,varsN c&&&joinTo cs 11 (2^i)=0∨SubN (varsN c) (joinTo cs 11 (2^i)):=fun c hc=>link_closed (fold_fix cs _ hY c hc)
 have hYm:SubN (joinTo cs 11 (2^i)) 349525:=join_stay (fun c _=>.inr (vars_mask c)) 11 _ (pow_sub (hm i hi))
 have hiY:(joinTo cs 11 (2^i)).testBit i=true:=join_sub cs 11 (2^i) i (by rw[Nat.testBit_two_pow];simp)
 generalize joinTo cs 11 (2^i)=Y at *
 by_cases hkY:Y.testBit k=true
 ·exact join_stay hcl 10 (2^k) (pow_sub hkY) j (hX j hjj)
 ·exfalso
  have hN:SubN (joinTo cs 10 (2^k)) (349525 ^^^ Y):=by
   refine join_stay (fun c hc=>?_) 10 _ (pow_sub ?_)
   ·rcases hcl c hc with e | e
    ·refine .inr fun q hq=>?_
     rw[Nat.testBit_xor,vars_mask c q hq]
     have:(varsN c&&&Y).testBit q=false:=by rw[e,Nat.zero_testBit]
     rw[Nat.testBit_and,hq,Bool.true_and] at this
     rw[this]
     rfl
    ·refine .inl (Nat.eq_of_testBit_eq fun q=>?_)
     rw[Nat.testBit_and,Nat.zero_testBit,Nat.testBit_xor]
     cases hq:(varsN c).testBit q with
     | false=>rfl
     | true=>rw[vars_mask c q hq,e q hq];rfl
   ·rw[Nat.testBit_xor,hm k hk]
    cases hq:Y.testBit k with
    | false=>rfl
    | true=>exact absurd hq hkY
  have:=hN i (hX i hi)
  rw[Nat.testBit_xor,hm i hi,hiY] at this
  simp at this
def varI(x:Int):Nat:=2*(x.natAbs - 1)
def varL(xs:List Int):Nat:=varsN (setN xs)
theorem varI_bit{x:Int}(h:litB x=true):2^varI x=varsN (setN [x]):=by
 rcases lit_cases h with rfl|rfl|rfl|rfl|rfl|rfl|rfl|rfl|rfl|rfl|rfl|rfl|rfl|rfl|rfl|rfl|rfl|rfl|rfl|rfl <;> decide +kernel
theorem varsN_or{a b:Nat}(ha:a<2^20)(hb:b<2^20):varsN (a|||b)=varsN a|||varsN b:=by
 have h1:=((Two.of ha).or (Two.of hb)).vars
 have h2:=(Two.of ha).vars.or (Two.of hb).vars
 have e:(tN a|||tN b)|||(fN a|||fN b)=(tN a|||fN a)|||(tN b|||fN b):=by
  apply Nat.eq_of_testBit_eq
  intro i
  simp only[Nat.testBit_or]
  cases (tN a).testBit i <;> cases (tN b).testBit i <;> cases (fN a).testBit i <;> cases (fN b).testBit i <;> rfl
 rw[e] at h1
 rw[Nat.or_zero] at h2
 exact h1.same h2
theorem varL_snoc{xs:List Int}{x:Int}(h:xs.all litB=true)(hx:litB x=true):varL (xs++[x])=varL xs|||2^varI x:=by
 unfold varL
 rw[setN_app,varI_bit hx,varsN_or (setN_lt xs h) (setN_lt [x] (by simp[hx]))]
def hasL(xs:List Int)(v:Int):Bool:=xs.any (fun y=>y == v || y == -v)
theorem varI_eq{x y:Int}(hx:litB x=true)(hy:litB y=true):(varI x=varI y)↔(y=x∨y=-x):=by
 simp only[litB,Bool.and_eq_true,bne_iff_ne,decide_eq_true_eq] at hx hy
 unfold varI
 omega
theorem hasL_bit{v:Int}(hv:litB v=true):∀ {xs:List Int},xs.all litB=true→hasL xs v=(varL xs).testBit (varI v):=by
 have key:∀ (ys:List Int),ys.all litB=true→(varL ys.reverse).testBit (varI v)=hasL ys.reverse v:=by
  intro ys
  induction ys with
  | nil=>intro _;simp[varL,hasL,setN,varsN,oppN]
  | cons y ys ih =>
   intro h
   simp only[List.all_cons,Bool.and_eq_true] at h
   rw[List.reverse_cons,varL_snoc (by rw[List.all_reverse];exact h.2) h.1,Nat.testBit_or,ih h.2,Nat.testBit_two_pow]
   unfold hasL
   rw[List.any_append]
   have e:decide (varI y=varI v)=(y == v || y == -v):=by
    rw[Bool.eq_iff_iff,decide_eq_true_eq,Bool.or_eq_true,beq_iff_eq,beq_iff_eq]
    constructor
    ·intro q;exact(varI_eq hv h.1).1 q.symm
    ·intro q;exact((varI_eq hv h.1).2 q).symm
   rw[e]
   simp
 intro xs h
 have:=key xs.reverse (by rw[List.all_reverse];exact h)
 rw[List.reverse_reverse] at this
 exact this.symm
theorem touch_bit{near c:List Int}(hn:near.all litB=true)(hc:c.all litB=true):c.any (fun x=>hasL near x)=(varL c&&&varL near != 0):=by
 rw[Bool.eq_iff_iff,List.any_eq_true,bne_iff_ne]
 constructor
 ·rintro⟨x,hx,h⟩ e
  have hl:=List.all_eq_true.1 hc x hx
  rw[hasL_bit hl hn] at h
  have h2:hasL c x=true:=List.any_eq_true.2 ⟨x,hx,by simp⟩
  rw[hasL_bit hl hc] at h2
  have:(varL c&&&varL near).testBit (varI x)=true:=by rw[Nat.testBit_and,h,h2];rfl
  rw[e,Nat.zero_testBit] at this
  simp at this
 ·intro hne
  obtain⟨i,hi⟩:=Nat.exists_testBit_of_ne_zero hne
  rw[Nat.testBit_and,Bool.and_eq_true] at hi
  obtain⟨q1,q2,q3⟩:=vars_half (setN_lt c hc) hi.1
  have h4:∃ x∈c,varI x=i:=by
   have h5:=vN_bit (setN_lt c hc) q2
   rw[q3] at h5
   rcases Bool.or_eq_true .. ▸ h5.symm with h6 | h6
   ·obtain⟨x,hx,e⟩:=set_bit h6
    have hl:=List.all_eq_true.1 hc x hx
    refine⟨x,hx,?_⟩
    simp only[litB,Bool.and_eq_true,bne_iff_ne,decide_eq_true_eq] at hl
    unfold bitI at e
    unfold varI
    split at e <;> omega
   ·obtain⟨x,hx,e⟩:=set_bit h6
    have hl:=List.all_eq_true.1 hc x hx
    refine⟨x,hx,?_⟩
    simp only[litB,Bool.and_eq_true,bne_iff_ne,decide_eq_true_eq] at hl
    unfold bitI at e
    unfold varI
    split at e <;> omega
  obtain⟨x,hx,rfl⟩:=h4
  exact⟨x,hx,by rw[hasL_bit (List.all_eq_true.1 hc x hx) hn];exact hi.2⟩
def nearP(near:List Int)(x:Int):List Int:=if hasL near x then near else near++[x]
def nearC(near c:List Int):List Int:=c.foldl nearP near
def nearS(near c:List Int):List Int:=if c.any (fun x=>hasL near x) && !twinB (setN c) then nearC near c else near
theorem nearP_all{near:List Int}{x:Int}(h:near.all litB=true)(hx:litB x=true):(nearP near x).all litB=true∧varL (nearP near x)=varL near|||2^varI x:=by
 unfold nearP
 split
 ·rename_i q
  rw[hasL_bit hx h] at q
  refine⟨h,?_⟩
  apply Nat.eq_of_testBit_eq
  intro i
  rw[Nat.testBit_or,Nat.testBit_two_pow]
  by_cases e:varI x=i
  ·subst e;rw[q];rfl
  ·rw[decide_eq_false e,Bool.or_false]
 ·exact⟨by rw[List.all_append,h];simp[hx],varL_snoc h hx⟩
theorem nearC_all:∀ {c near:List Int},near.all litB=true→c.all litB=true→(nearC near c).all litB=true∧varL (nearC near c)=varL near|||varL c:=by
 have key:∀ (c near pre:List Int),near.all litB=true→c.all litB=true→pre.all litB=true→(nearC near c).all litB=true∧varL (nearC near c)|||varL pre=varL near|||varL (pre++c):=by
  intro c
  induction c with
  | nil=>intro near pre h _ _;exact⟨h,by simp[nearC]⟩
  | cons x c ih =>
   intro near pre h hc hp
   simp only[List.all_cons,Bool.and_eq_true] at hc
   obtain⟨a1,a2⟩:=nearP_all h hc.1
   obtain⟨b1,b2⟩:=ih (nearP near x) (pre++[x]) a1 hc.2 (by rw[List.all_append,hp];simp[hc.1])
   refine⟨b1,?_⟩
   have e:nearC near (x :: c)=nearC (nearP near x) c:=rfl
   rw[e]
   have e2:pre++[x]++c=pre++x :: c:=by simp
   rw[e2,varL_snoc hp hc.1,a2] at b2
   have hle:SubN (2^varI x) (varL (nearC (nearP near x) c)):=by
    have:SubN (varL (nearP near x)) (varL (nearC (nearP near x) c)):=by
     obtain⟨_,d⟩:=ih (nearP near x) [] a1 hc.2 rfl
     have e0:varL ([]:List Int)=0:=by simp[varL,setN,varsN,oppN]
     rw[e0,Nat.or_zero] at d
     rw[d]
     intro i hi
     rw[Nat.testBit_or,hi];rfl
    refine SubN.trans ?_ this
    rw[a2]
    intro i hi
    rw[Nat.testBit_or,hi,Bool.or_true]
   apply Nat.eq_of_testBit_eq
   intro i
   have b3:=congrArg (fun n=>n.testBit i) b2
   simp only[Nat.testBit_or] at b3 ⊢
   have hq:=hle i
   have hw:SubN (2^varI x) (varL (pre++x :: c)):=by
    have hall:(pre++x :: c).all litB=true:=by rw[List.all_append,hp];simp[hc.1,hc.2]
    intro j hj
    rw[Nat.testBit_two_pow] at hj
    have:varI x=j:=by simpa using hj
    subst this
    rw[← hasL_bit hc.1 hall]
    exact List.any_eq_true.2 ⟨x,by simp,by simp⟩
   have hw':=hw i
   cases h1:(2^varI x).testBit i with
   | false=>rw[h1] at b3;simpa using b3
   | true=>rw[hq h1,hw' h1];simp
 intro c near h hc
 obtain⟨a,b⟩:=key c near [] h hc rfl
 have e0:varL ([]:List Int)=0:=by simp[varL,setN,varsN,oppN]
 rw[e0,Nat.or_zero] at b
 exact⟨a,b⟩
theorem nearS_all{near c:List Int}(h:near.all litB=true)(hc:c.all litB=true):(nearS near c).all litB=true∧varL (nearS near c)=if twinB (setN c) then varL near else linkD (varL near) (setN c):=by
 unfold nearS
 rw[touch_bit h hc]
 cases ht:twinB (setN c) with
 | true=>simp[h]
 | false =>
  unfold linkD
  by_cases e:varL c&&&varL near=0
  ·have e':varsN (setN c)&&&varL near=0:=e
   rw[e]
   simp[h,e']
  ·have e':¬ varsN (setN c)&&&varL near=0:=e
   have e2:(varL c&&&varL near != 0)=true:=by rw[bne_iff_ne];exact e
   rw[e2]
   simp only[Bool.true_and,Bool.not_false,if_true,Bool.false_eq_true,if_false,if_neg e']
   exact nearC_all h hc
def nearR(tk:List (List Int))(near:List Int):List Int:=tk.foldl nearS near
theorem nearR_all:∀ {tk:List (List Int)} {near:List Int},near.all litB=true→(∀ c∈tk,c.all litB=true)→(nearR tk near).all litB=true∧varL (nearR tk near)=(hvOf tk).foldl linkD (varL near):=by
 intro tk
 induction tk with
 | nil=>intro near h _;exact⟨h,rfl⟩
 | cons c tk ih =>
  intro near h hc
  obtain⟨a1,a2⟩:=nearS_all h (hc c (List.mem_cons_self ..))
  obtain⟨b1,b2⟩:=ih a1 fun x hx=>hc x (List.mem_cons_of_mem _ hx)
  have e:nearR (c :: tk) near=nearR tk (nearS near c):=rfl
  rw[e]
  refine⟨b1,?_⟩
  rw[b2,a2]
  cases ht:twinB (setN c) with
  | true=>simp[hvOf,ht]
  | false=>simp[hvOf,ht]
def nearN(tk:List (List Int)):Nat→List Int→List Int
 | 0,near=>near
 | m+1,near=>nearN tk m (nearR tk near)
theorem nearN_all{tk:List (List Int)}(hc:∀ c∈tk,c.all litB=true):∀ (m:Nat) {near:List Int},near.all litB=true→(nearN tk m near).all litB=true∧varL (nearN tk m near)=joinTo (hvOf tk) m (varL near):=by
 intro m
 induction m with
 | zero=>intro near h;exact⟨h,rfl⟩
 | succ m ih =>
  intro near h
  obtain⟨a1,a2⟩:=nearR_all h hc
  obtain⟨b1,b2⟩:=ih a1
  have e:nearN tk (m+1) near=nearN tk m (nearR tk near):=rfl
  have e2:joinTo (hvOf tk) (m+1) (varL near)=joinTo (hvOf tk) m ((hvOf tk).foldl linkD (varL near)):=rfl
  rw[e,e2,← a2]
  exact⟨b1,b2⟩
theorem nearN_succ(tk:List (List Int)):∀ (m:Nat) (near:List Int),nearN tk (m+1) near=nearR tk (nearN tk m near):=by
 intro m
 induction m with
 | zero=>intro near;rfl
 | succ m ih=>intro near;exact ih (nearR tk near)
theorem line_linked{tk:List (List Int)}(htk:∀ c∈tk,c.all litB=true){c:List Int}(hc:c.all litB=true)(hj:joinedD (hvOf tk) (varsN (setOk c))=true){a b:Int}(ha:a∈c)(hb:b∈c):hasL (nearN tk 11 [a]) b=true:=by
 have la:=List.all_eq_true.1 hc a ha
 have lb:=List.all_eq_true.1 hc b hb
 have l1:[a].all litB=true:=by simp[la]
 obtain⟨q1,q2⟩:=nearN_all htk 11 l1
 have e1:varL [a]=2^varI a:=(varI_bit la).symm
 rw[hasL_bit lb q1,q2,e1]
 rw[set_ok hc] at hj
 refine joined_reach (varsN_lt _) (vars_mask _) hj ?_ ?_
 ·have:(varL c).testBit (varI a)=true:=by rw[← hasL_bit la hc];exact List.any_eq_true.2 ⟨a,ha,by simp⟩
  exact this
 ·have:(varL c).testBit (varI b)=true:=by rw[← hasL_bit lb hc];exact List.any_eq_true.2 ⟨b,hb,by simp⟩
  exact this
theorem lines_joined{r h l:Int}{hv:List Nat}(hr:r=0):∀ (ls:List Lin) (j:JV),linesOk r h l hv j ls→∀ p∈ls,p.2.all litB=true∧joinedD hv (varsN (setOk p.2))=true:=by
 intro ls
 induction ls with
 | nil=>intro j _ p hp;simp at hp
 | cons q ls ih =>
  intro j hl p hp
  obtain⟨a1,a2,_,a4⟩:=hl
  rcases List.mem_cons.1 hp with rfl | hp
  ·refine⟨a1,?_⟩
   rcases a2.2 with⟨_,b,_⟩ | ⟨_,b⟩ | ⟨_,_,b,_⟩
   ·unfold clauseD at b
    simp only[Bool.and_eq_true] at b
    exact b.1.1.2
   ·unfold clauseD at b
    simp only[Bool.and_eq_true] at b
    exact b.1.1.2
   ·exact absurd hr b
  ·exact ih _ a4 p hp
theorem within_one{P:Prg}{s:P.S}{tk:List (List Int)}(t:TkOk P 0 1048576 1048576 s tk){xs:List Int}(ha:askedD xs 0=0):P.Ok (P.slv s xs 0)∧∃ L,(P.vw (P.slv s xs 0)).pf=linesT L∧∀ p∈L,p.2.all litB=true∧joinedD (hvOf tk) (varsN (setOk p.2))=true:=by
 obtain⟨o1,l1,t1,q1⟩:=P.slvV s xs 0 t.ok ha
 have hv0:(P.vw s).hv=hvOf tk:=by rw[t.v]
 have hr0:(P.vw s).r=0:=by rw[t.v]
 have hp0:(P.vw s).pf=[]:=by rw[t.v]
 refine⟨o1,l1,by rw[q1.pf,hp0];simp,?_⟩
 have:=lines_joined hr0 l1 _ q1.ok
 rw[hv0] at this
 exact this
theorem hasL_cons(xs:List Int)(k:Nat)(v:Int)(hk:k<xs.length):hasL (xs.drop k) v=((xs.getD k 0 == v) || (xs.getD k 0 == -v) || hasL (xs.drop (k+1)) v):=by
 rw[drop_get xs 0 k hk]
 unfold hasL
 rw[List.any_cons]
set_option maxHeartbeats 4000000 in
theorem hasL_any(a:Option Addr)(c:Nat)(xs:List Int)(v:Int)(w:World)(hi:IntsAt w a xs)(hx:xs.length≤1000000)(hv:litB v=true) :
  Calls Tryd.prog 39 #[.slice a xs.length c,.int .i64 v] w fun e w'=>e=.returned (.bool (hasL xs v))∧w'=w:=by
 have HI:=hide hi
 simp only[litB,Bool.and_eq_true,bne_iff_ne,decide_eq_true_eq] at hv
 have hvb:-10≤v∧v≤10:=⟨hv.1.2,hv.2⟩
 have hng:IntKind.i64.wrap (-v)=-v:=by rw[IntKind.wrap_i64];omega
 have HU:Hid (hasL xs v=hasL (xs.drop 0) v):=rfl
 generalize hasL xs v=RES at *
 clear hi hv
 go_enter Tryd.func39,Tryd.ntmps39
 go_wp2
 go_loopw [5] (fun x5 wr=>∃ k:Nat,k≤xs.length∧x5=.int .i64 k∧wr=w∧Hid (RES=hasL (xs.drop k) v)) (fun x5 _=>xs.length - (intOf x5).toNat)
 case atStart=>exact⟨0,Nat.zero_le _,rfl,rfl,HU⟩
 case round =>
  clear HU
  obtain⟨k,hk,rfl,rfl,HW⟩:=hrel
  by_cases hlt:k<xs.length
  ·obtain⟨b,off,rfl,hc⟩:=HI.out.get (by omega)
   have c0:=hc k hlt
   have hw:=HW.out
   rw[hasL_cons xs k v hlt] at hw
   have i1:(0:Int)≤(k:Int):=by omega
   have i2:(k:Int)<(xs.length:Int):=by omega
   generalize xs.getD k 0=x at *
   clear hc HW
   cases h1:(x == v) with
   | true =>
    have hr:RES=true:=by rw[hw,h1];rfl
    subst hr
    clear hw
    go_wp2
    go_ret
    exact⟨rfl,rfl⟩
   | false =>
    cases h2:(x == -v) with
    | true =>
     have hr:RES=true:=by rw[hw,h1,h2];rfl
     subst hr
     clear hw
     go_wp2
     go_ret
     exact⟨rfl,rfl⟩
    | false =>
     have HW2:Hid (RES=hasL (xs.drop (k+1)) v):=by show _=_;rw[hw,h1,h2];rfl
     clear hw
     go_wp2
     go_roundw
     case rel=>exact⟨k+1,by omega,by go_num,trivial,HW2⟩
     case measure=>simp[intOf];omega
  ·have hr:RES=false:=by rw[HW.out,List.drop_eq_nil_of_le (by omega)];rfl
   subst hr
   clear HW
   go_wp2
   go_ret
   exact⟨rfl,rfl⟩
theorem litI_lt{x:Int}(h:litB x=true):bitI x<20:=by
 simp only[litB,Bool.and_eq_true,bne_iff_ne,decide_eq_true_eq] at h
 unfold bitI
 split <;> omega
theorem getD_mem{xs:List Int}{i:Nat}(h:i<xs.length):xs.getD i 0∈xs:=by
 rw[List.getD_eq_getElem?_getD,List.getElem?_eq_getElem h]
 exact List.getElem_mem h
theorem pair_twin{xs:List Int}(hl:xs.all litB=true){i k:Nat}(hi:i<xs.length)(hk:k<xs.length)(e:xs.getD i 0=-(xs.getD k 0)):twinB (setN xs)=true:=by
 cases h:twinB (setN xs) with
 | true=>rfl
 | false =>
  exfalso
  have lk:=List.all_eq_true.1 hl _ (getD_mem hk)
  have h1:=(twin_iff _).1 h (bitI (xs.getD k 0)) (litI_lt lk) (bit_set (getD_mem hk))
  have h2:=bit_set (getD_mem hi)
  rw[e,litI_neg lk,h1] at h2
  simp at h2
theorem no_pair{xs:List Int}(hl:xs.all litB=true)(h:∀ i,i<xs.length→∀ k,k<i→xs.getD i 0≠-(xs.getD k 0)):twinB (setN xs)=false:=by
 rw[twin_iff]
 intro b _ hb
 obtain⟨x,hx,rfl⟩:=set_bit hb
 cases hp:(setN xs).testBit (par (bitI x)) with
 | false=>rfl
 | true =>
  exfalso
  obtain⟨y,hy,e⟩:=set_bit hp
  have lx:=List.all_eq_true.1 hl x hx
  have ly:=List.all_eq_true.1 hl y hy
  rw[← litI_neg lx] at e
  have e2:=litI_inj ly (lit_neg lx) e
  obtain⟨i,hi,ei⟩:=List.getElem_of_mem hx
  obtain⟨k,hk,ek⟩:=List.getElem_of_mem hy
  have gi:xs.getD i 0=x:=by rw[List.getD_eq_getElem?_getD,List.getElem?_eq_getElem hi];exact ei
  have gk:xs.getD k 0=y:=by rw[List.getD_eq_getElem?_getD,List.getElem?_eq_getElem hk];exact ek
  have hx0:x≠0:=by
   simp only[litB,Bool.and_eq_true,bne_iff_ne,decide_eq_true_eq] at lx
   exact lx.1.1
  rcases Nat.lt_trichotomy i k with q | q | q
  ·exact h k hk i q (by rw[gi,gk];exact e2)
  ·subst q;rw[gi] at gk;omega
  ·exact h i hi k q (by rw[gi,gk];omega)
set_option maxHeartbeats 4000000 in
theorem tautT_any(a:Option Addr)(c:Nat)(xs:List Int)(w:World)(hi:IntsAt w a xs)(hx:xs.length≤1000)(hl:xs.all litB=true) :
  Calls Tryd.prog 40 #[.slice a xs.length c] w fun e w'=>e=.returned (.bool (twinB (setN xs)))∧Below w.heap.size w w':=by
 have HI:=hide hi
 have HL:=hide hl
 have HYES:Hid (∀ i k,i<xs.length→k<xs.length→xs.getD i 0=-(xs.getD k 0)→twinB (setN xs)=true):=fun i k h1 h2 e=>pair_twin hl h1 h2 e
 have HNO:Hid ((∀ i,i<xs.length→∀ k,k<i→xs.getD i 0≠-(xs.getD k 0))→twinB (setN xs)=false):=no_pair hl
 have HB0:Hid (Below w.heap.size w w):=Below.refl _ _
 generalize twinB (setN xs)=RES at *
 clear hi hl
 go_enter Tryd.func40,Tryd.ntmps40
 go_wp2_with fail
 go_loopw [3] (fun x3 wr=>∃ i:Nat,i≤xs.length∧x3=.int .i64 i∧Hid (∀ i',i'<i→∀ k,k<i'→xs.getD i' 0≠-(xs.getD k 0))∧Hid (Below w.heap.size w wr)) (fun x3 _=>xs.length - (intOf x3).toNat)
 case atStart=>exact⟨0,Nat.zero_le _,rfl,fun i' h=>by omega,HB0⟩
 case round =>
  clear HB0
  obtain⟨i,hi,rfl,HP,BB⟩:=hrel
  by_cases hlt:i<xs.length
  ·have HX1:Hid (∀ wr,Below w.heap.size w wr→∃ b off,a=some ⟨b,off,none⟩∧wr.cell? ⟨b,off+i,none⟩=some (.int .i64 (xs.getD i 0))∧∀ k,k<xs.length→wr.cell? ⟨b,off+k,none⟩=some (.int .i64 (xs.getD k 0))):=fun wr hb=>by
    obtain⟨b,off,e,hc⟩:=(HI.out.below hb).get (by omega)
    exact⟨b,off,e,hc i hlt,hc⟩
   have i1:(0:Int)≤(i:Int):=by omega
   have i2:(i:Int)<(xs.length:Int):=by omega
   have HY:=hide (HYES.out i)
   generalize hxi:xs.getD i 0=x at *
   have HXI:=hide hxi
   clear hxi
   go_wp2_with fail
   go_loopw [4] (fun x4 wz=>∃ k:Nat,k≤i∧x4=.int .i64 k∧Hid (∀ k',k'<k→x≠-(xs.getD k' 0))∧Hid (Below w.heap.size w wz)) (fun x4 _=>i - (intOf x4).toNat)
   case atStart=>exact⟨0,Nat.zero_le _,rfl,fun k' h=>by omega,BB⟩
   case round =>
    clear BB
    obtain⟨k,hk,rfl,HQ,BZ⟩:=hrel
    have BD:Hid (Below w.heap.size w wr.drew):=below_drewN BZ.out 1
    by_cases hk2:k<i
    ·obtain⟨b,off,rfl,x1,hc⟩:=HX1.out wr BZ.out
     have y1:=hc k (by omega)
     have hly:=List.all_eq_true.1 HL.out _ (getD_mem (xs:=xs) (i:=k) (by omega))
     simp only[litB,Bool.and_eq_true,bne_iff_ne,decide_eq_true_eq] at hly
     have hyb:-10≤xs.getD k 0∧xs.getD k 0≤10:=⟨hly.1.2,hly.2⟩
     have HYK:=hide (HY.out k hlt (by omega))
     have HQ2:Hid (x≠-(xs.getD k 0)→∀ k',k'<k+1→x≠-(xs.getD k' 0)):=fun q k' h=>by
      by_cases e:k'=k
      ·rw[e];exact q
      ·exact HQ.out k' (by omega)
     have k1:(0:Int)≤(k:Int):=by omega
     have k2:(k:Int)<(xs.length:Int):=by omega
     have k3:(k:Int)<(i:Int):=by omega
     generalize xs.getD k 0=y at *
     have hng:IntKind.i64.wrap (-y)=-y:=by rw[IntKind.wrap_i64];omega
     clear hc hly HQ
     by_cases e:x=-y
     ·have eb:(x == -y)=true:=by simpa using e
      have hr:RES=true:=HYK.out e
      subst hr
      clear e HYK HQ2 HYES HNO HY
      go_wp2_with fail
      go_region
      all_goals
       go_wp2
       go_ret
       exact⟨rfl,BD.out⟩
     ·have eb:(x == -y)=false:=by simpa using e
      have HQ3:=hide (HQ2.out e)
      clear e HYK HQ2
      go_wp2_with fail
      go_region
      all_goals
       go_wp2
       go_roundw
       case rel=>exact⟨k+1,by omega,by go_num,HQ3,BD⟩
       case measure=>simp[intOf];omega
    ·obtain rfl:k=i:=by omega
     have HP2:Hid (∀ i',i'<k+1→∀ k',k'<i'→xs.getD i' 0≠-(xs.getD k' 0)):=fun i' h k' h'=>by
      by_cases e:i'=k
      ·rw[e,HXI.out];exact HQ.out k' (by omega)
      ·exact HP.out i' (by omega) k' h'
     clear HQ HP HY
     go_wp2
     go_roundw
     case rel=>exact⟨k+1,by omega,by go_num,HP2,BZ⟩
     case measure=>simp[intOf];omega
  ·obtain rfl:i=xs.length:=by omega
   have hr:RES=false:=HNO.out HP.out
   subst hr
   clear HP HYES HNO
   go_wp2
   go_ret
   exact⟨rfl,BB.out⟩
theorem own_made{w:World}{B:Nat}(x:Int)(hB:B≤w.heap.size):(w.alloc (.cells #[.int .i64 x] 3)).ownsRow B 3 1 (.slice (some ⟨w.heap.size,0,none⟩) 1 1) 1 (i64s [x]) :=
 ⟨rfl,.inr ⟨w.heap.size,1,#[.int .i64 x],rfl,hB,heap_alloc_new w _,Nat.le_refl _,by unfold maxLen;omega,rfl,rfl⟩⟩
theorem nearS_fold(tk:List (List Int))(i:Nat)(N:List Int)(hi:i<tk.length):(tk.take (i+1)).foldl nearS N=nearS ((tk.take i).foldl nearS N) (tk.getD i []):=by
 rw[List.take_succ_eq_append_getElem hi,List.foldl_append,List.getD_eq_getElem?_getD,List.getElem?_eq_getElem hi]
 rfl
theorem nearP_fold(c:List Int)(k:Nat)(N:List Int)(hk:k<c.length):(c.take (k+1)).foldl nearP N=nearP ((c.take k).foldl nearP N) (c.getD k 0):=by
 rw[List.take_succ_eq_append_getElem hk,List.foldl_append,List.getD_eq_getElem?_getD,List.getElem?_eq_getElem hk]
 rfl
theorem any_take(c:List Int)(f:Int→Bool)(k:Nat)(hk:k<c.length):(c.take (k+1)).any f=((c.take k).any f || f (c.getD k 0)):=by
 rw[List.take_succ_eq_append_getElem hk,List.any_append,List.getD_eq_getElem?_getD,List.getElem?_eq_getElem hk]
 simp
theorem nearC_len:∀ (c near:List Int),(nearC near c).length≤near.length+c.length:=by
 intro c
 induction c with
 | nil=>intro near;simp[nearC]
 | cons x c ih =>
  intro near
  have h:=ih (nearP near x)
  have e:nearC near (x :: c)=nearC (nearP near x) c:=rfl
  rw[e]
  have h2:(nearP near x).length≤near.length+1:=by
   unfold nearP
   split
   ·omega
   ·simp
  simp only[List.length_cons]
  omega
theorem nearS_len(near c:List Int):(nearS near c).length≤near.length+c.length:=by
 unfold nearS
 split
 ·exact nearC_len c near
 ·omega
set_option maxHeartbeats 8000000 in
theorem linked_any(a:Option Addr)(c:Nat)(A:Nat→Option Addr)(C:Nat→Nat)(tk:List (List Int))(x y:Int)(w:World)(hr:RowsAt w a A C tk)(h40:tk.length≤40)(h12:∀ c∈tk,c.length≤12)(hlit:∀ c∈tk,c.all litB=true)(hx:litB x=true)(hy:litB y=true) :
  Calls Tryd.prog 18 #[.slice a tk.length c,.int .i64 x,.int .i64 y] w fun e w'=>e=.returned (.bool (hasL (nearN tk 11 [x]) y))∧Below w.heap.size w w':=by
 obtain⟨i0,hi0,hz0,hz1,hz2⟩:=info_parts Tryd.infoInt
 have HR:=hide hr
 have H12:=hide h12
 have HLIT:=hide hlit
 have HX:=hide hx
 have HY:=hide hy
 have HRES:Hid (∀ nl:List Int,nl=nearN tk 11 [x]→hasL nl y=hasL (nearN tk 11 [x]) y):=fun nl e=>by rw[e]
 generalize hasL (nearN tk 11 [x]) y=RES at *
 have O0:Hid ((w.alloc (.cells #[.int .i64 x] 3)).ownsRow w.heap.size 3 1 (.slice (some ⟨w.heap.size,0,none⟩) [x].length 1) [x].length (i64s [x])):=own_made x (Nat.le_refl _)
 have B0:=hide (al_below w (.cells #[.int .i64 x] 3))
 clear hr h12 hlit hx hy
 go_enter Tryd.func18,Tryd.ntmps18
 go_wp2_with fail
 go_loopw [7,8] (fun x7 x8 wr=>∃ (r:Nat) (nl:List Int) (a1:Option Addr) (c1:Nat),r≤11∧x8=.int .i64 r∧x7=.slice a1 nl.length c1∧nl.length≤480*r+1∧Hid (nl=nearN tk r [x])∧Hid (wr.ownsRow w.heap.size 3 1 (.slice a1 nl.length c1) nl.length (i64s nl))∧Hid (Below w.heap.size w wr)) (fun _ x8 _=>11 - (intOf x8).toNat)
 case atStart=>exact⟨0,[x],some ⟨w.heap.size,0,none⟩,1,by omega,rfl,rfl,by simp,rfl,O0,B0⟩
 case round =>
  clear O0 B0
  obtain⟨r,nl,a1,c1,hr11,rfl,rfl,hnl,HN,HO,HB⟩:=hrel
  by_cases hr10:r=11
  ·subst hr10
   have HRR:=hide (HRES.out nl HN.out)
   have HH:=hide (hasL_any a1 c1 nl y wr (own_intsAt HO.out) (by omega) HY.out)
   rw[HRR.out] at HH
   clear HN HO HRES HRR
   go_wp2_with fail
   refine(unhide HH).mono ?_
   rintro e w2 ⟨rfl,hw⟩
   obtain rfl:=hw.symm
   go_wp2
   go_ret
   exact⟨rfl,HB.out⟩
  ·have hr10':(r:Int)≤10:=by omega
   have hrl:r≤10:=by omega
   clear hr10
   have HN0:Hid (nl=(tk.take 0).foldl nearS (nearN tk r [x])):=HN.out
   clear HN
   go_wp2_with fail
   go_loopw [7,9] (fun x7 x9 wz=>∃ (i:Nat) (nl:List Int) (a1:Option Addr) (c1:Nat),i≤tk.length∧x9=.int .i64 i∧x7=.slice a1 nl.length c1∧nl.length≤480*r+12*i+1∧Hid (nl=(tk.take i).foldl nearS (nearN tk r [x]))∧Hid (wz.ownsRow w.heap.size 3 1 (.slice a1 nl.length c1) nl.length (i64s nl))∧Hid (Below w.heap.size w wz)) (fun _ x9 _=>tk.length - (intOf x9).toNat)
   case atStart=>exact⟨0,nl,a1,c1,Nat.zero_le _,rfl,rfl,by omega,HN0,HO,HB⟩
   case round =>
    clear HN0 HO HB hnl
    obtain⟨i,nl,a1,c1,hi,rfl,rfl,hnl,HN,HO,HB⟩:=hrel
    generalize wr=wq at *
    by_cases hil:i<tk.length
    ·have QW:Hid (IntsAt w (A i) (tk.getD i [])):=by
      obtain⟨_,_,_,hcw'⟩:=HR.out.get (by omega)
      exact(hcw' i hil).2.1
     obtain⟨b,off,rfl,hcw⟩:=(rows_below HR.out HB.out).get (by omega)
     obtain⟨q1,q2,q3⟩:=hcw i hil
     have hmem:tk.getD i []∈tk:=by
      rw[List.getD_eq_getElem?_getD,List.getElem?_eq_getElem hil]
      exact List.getElem_mem hil
     have hc12:=H12.out _ hmem
     have hcl:=HLIT.out _ hmem
     have HFS:=hide (nearS_fold tk i (nearN tk r [x]) hil)
     have i1:(0:Int)≤(i:Int):=by omega
     have i2:(i:Int)<(tk.length:Int):=by omega
     generalize tk.getD i []=cc at *
     have HCL:=hide hcl
     have Q2:=hide q2
     have HTT:=hide (tautT_any (A i) (C i) cc wq q2 (by omega) hcl)
     have HNS:Hid ((tk.take (i+1)).foldl nearS (nearN tk r [x])=nearS nl cc):=by show _=_;rw[HFS.out,← HN.out]
     have HSL:=hide (nearS_len nl cc)
     have HS0:Hid (nearS nl cc=if cc.any (fun x=>hasL nl x) && !twinB (setN cc) then nearC nl cc else nl):=rfl
     generalize A i=ai at *
     generalize C i=ci at *
     clear hcw q2 hmem hcl HFS HN
     go_wp2_with fail
     go_loopw [11,12] (fun x11 x12 wz=>∃ k:Nat,k≤cc.length∧x12=.int .i64 k∧x11=.bool ((cc.take k).any (fun x=>hasL nl x))∧wz=wq) (fun _ x12 _=>cc.length - (intOf x12).toNat)
     case atStart=>exact⟨0,Nat.zero_le _,rfl,rfl,rfl⟩
     case round =>
      obtain⟨k,hk,rfl,rfl,e⟩:=hrel
      subst e
      by_cases hkl:k<cc.length
      ·obtain⟨b2,off2,rfl,hc2⟩:=Q2.out.get (by omega)
       have x0:=hc2 k hkl
       have hlz:=List.all_eq_true.1 HCL.out _ (getD_mem hkl)
       have HH:=hide (hasL_any a1 c1 nl (cc.getD k 0) wr (own_intsAt HO.out) (by omega) hlz)
       have HAT:=hide (any_take cc (fun x=>hasL nl x) k hkl)
       have k1:(0:Int)≤(k:Int):=by omega
       have k2:(k:Int)<(cc.length:Int):=by omega
       generalize cc.getD k 0=v at *
       generalize (cc.take k).any (fun x=>hasL nl x)=B at *
       generalize hasL nl v=D at *
       clear hc2 hlz
       cases B with
       | true =>
        go_wp2_with fail
        refine(unhide HH).mono ?_
        rintro e w2 ⟨rfl,hw⟩
        obtain rfl:=hw.symm
        go_wp2
        go_roundw
        case rel=>exact⟨k+1,by omega,by go_num,by rw[HAT.out];rfl,trivial⟩
        case measure=>simp[intOf];omega
       | false =>
        go_wp2_with fail
        refine(unhide HH).mono ?_
        rintro e w2 ⟨rfl,hw⟩
        obtain rfl:=hw.symm
        go_wp2
        go_roundw
        case rel=>exact⟨k+1,by omega,by go_num,by rw[HAT.out];rfl,trivial⟩
        case measure=>simp[intOf];omega
      ·obtain rfl:k=cc.length:=by omega
       have HAL:Hid ((cc.take cc.length).any (fun x=>hasL nl x)=cc.any (fun x=>hasL nl x)):=by show _=_;rw[List.take_length]
       rw[HAL.out]
       generalize cc.any (fun x=>hasL nl x)=TO at *
       generalize twinB (setN cc)=TW at *
       clear HAL
       go_wp2_with fail
       refine(unhide HTT).mono ?_
       rintro e w3 ⟨rfl,hb3⟩
       have HO3:=hide (own_below HO.out hb3)
       have HB3:Hid (Below w.heap.size w w3):=HB.out.trans (hb3.mono HB.out.size)
       clear hb3 HTT
       cases TO with
       | false =>
        have HS1:Hid (nearS nl cc=nl):=by show _=_;rw[HS0.out];rfl
        go_wp2_with fail
        go_loopw [7,15] (fun x7 x15 wz=>x7=.slice a1 nl.length c1∧x15=.int .i64 0∧Hid (wz.ownsRow w.heap.size 3 1 (.slice a1 nl.length c1) nl.length (i64s nl))∧Hid (Below w.heap.size w wz)) (fun _ _ _=>0)
        case atStart=>exact⟨rfl,rfl,HO3,HB3⟩
        case round =>
         clear HO3 HB3 HO HB
         obtain⟨rfl,rfl,OZ,BZ⟩:=hrel
         by_cases hc0:0<cc.length
         ·have hc0':(0:Int)<(cc.length:Int):=by omega
          go_wp2
          go_roundw
          case rel=>exact⟨i+1,nl,a1,c1,by omega,by go_num,rfl,by omega,by show _=_;rw[HNS.out,HS1.out],OZ,BZ⟩
          case measure=>simp[intOf];omega
         ·have hc0':¬ (0:Int)<(cc.length:Int):=by omega
          go_wp2
          go_roundw
          case rel=>exact⟨i+1,nl,a1,c1,by omega,by go_num,rfl,by omega,by show _=_;rw[HNS.out,HS1.out],OZ,BZ⟩
          case measure=>simp[intOf];omega
       | true =>
        cases TW with
        | true =>
         have HS1:Hid (nearS nl cc=nl):=by show _=_;rw[HS0.out];rfl
         go_wp2_with fail
         go_loopw [7,15] (fun x7 x15 wz=>x7=.slice a1 nl.length c1∧x15=.int .i64 0∧Hid (wz.ownsRow w.heap.size 3 1 (.slice a1 nl.length c1) nl.length (i64s nl))∧Hid (Below w.heap.size w wz)) (fun _ _ _=>0)
         case atStart=>exact⟨rfl,rfl,HO3,HB3⟩
         case round =>
          clear HO3 HB3 HO HB
          obtain⟨rfl,rfl,OZ,BZ⟩:=hrel
          by_cases hc0:0<cc.length
          ·have hc0':(0:Int)<(cc.length:Int):=by omega
           go_wp2
           go_roundw
           case rel=>exact⟨i+1,nl,a1,c1,by omega,by go_num,rfl,by omega,by show _=_;rw[HNS.out,HS1.out],OZ,BZ⟩
           case measure=>simp[intOf];omega
          ·have hc0':¬ (0:Int)<(cc.length:Int):=by omega
           go_wp2
           go_roundw
           case rel=>exact⟨i+1,nl,a1,c1,by omega,by go_num,rfl,by omega,by show _=_;rw[HNS.out,HS1.out],OZ,BZ⟩
           case measure=>simp[intOf];omega
        | false =>
         have HS1:Hid (nearS nl cc=nearC nl cc):=by show _=_;rw[HS0.out];rfl
         have HC0:Hid (nl=(cc.take 0).foldl nearP nl):=rfl
         go_wp2_with fail
         go_loopw [7,15] (fun x7 x15 wz=>∃ (k:Nat) (nl2:List Int) (a2:Option Addr) (c2:Nat),k≤cc.length∧x15=.int .i64 k∧x7=.slice a2 nl2.length c2∧nl2.length≤nl.length+k∧Hid (nl2=(cc.take k).foldl nearP nl)∧Hid (wz.ownsRow w.heap.size 3 1 (.slice a2 nl2.length c2) nl2.length (i64s nl2))∧Hid (Below w.heap.size w wz)) (fun _ x15 _=>cc.length - (intOf x15).toNat)
         case atStart=>exact⟨0,nl,a1,c1,Nat.zero_le _,rfl,rfl,by omega,HC0,HO3,HB3⟩
         case round =>
          clear HO3 HB3 HO HB HC0
          obtain⟨k,nl2,a2,c2,hk,rfl,rfl,hn2,HN2,OZ,BZ⟩:=hrel
          have zz:w.heap.size≤wr.heap.size:=BZ.out.size
          by_cases hkl:k<cc.length
          ·obtain⟨b2,off2,rfl,hc2⟩:=(QW.out.below BZ.out).get (by omega)
           have x0:=hc2 k hkl
           have hlz:=List.all_eq_true.1 HCL.out _ (getD_mem hkl)
           have HH:=hide (hasL_any a2 c2 nl2 (cc.getD k 0) wr (own_intsAt OZ.out) (by omega) hlz)
           have HPF:Hid ((cc.take (k+1)).foldl nearP nl=if hasL nl2 (cc.getD k 0) then nl2 else nl2++[cc.getD k 0]):=by
            show _=_
            rw[nearP_fold cc k nl hkl,← HN2.out]
            rfl
           have k1:(0:Int)≤(k:Int):=by omega
           have k2:(k:Int)<(cc.length:Int):=by omega
           generalize cc.getD k 0=v at *
           generalize hasL nl2 v=D at *
           clear hc2 hlz HN2
           cases D with
           | true =>
            have HN3:Hid (nl2=(cc.take (k+1)).foldl nearP nl):=by show _=_;rw[HPF.out];rfl
            go_wp2_with fail
            refine(unhide HH).mono ?_
            rintro e w4 ⟨rfl,hw⟩
            obtain rfl:=hw.symm
            go_wp2
            go_roundw
            case rel=>exact⟨k+1,nl2,a2,c2,by omega,by go_num,rfl,by omega,HN3,OZ,BZ⟩
            case measure=>simp[intOf];omega
           | false =>
            have HN3:Hid (nl2++[v]=(cc.take (k+1)).foldl nearP nl):=by show _=_;rw[HPF.out];rfl
            have d1:Hid (nl2.length+1≤maxLen):=by show _≤_;unfold maxLen;omega
            have d2:Hid ((nl2.length+1)*8≤140737488355328):=by show _≤_;omega
            go_wp2_with fail
            refine(unhide HH).mono ?_
            rintro e w4 ⟨rfl,hw⟩
            obtain rfl:=hw.symm
            clear hw HH
            go_wp2_with (at_builtin;refine wpList_append_at _ rfl _ _ 23 rfl w.heap.size 3 i0 (.int .i64 0) 8 Tryd.undInts hi0 hz0 hz1 hz2 rfl (.slice a2 nl2.length c2) nl2.length (i64s nl2) rfl (OZ.out.alloc _) ⟨wr.heap.size,0,none⟩ 1 1 [.int .i64 v] rfl rfl (new_cells1 wr [.int .i64 v] 3) (by intro u hu;simp at hu;subst hu;rfl) (by decide) d1.out d2.out (by simp;exact Nat.le_succ_of_le zz) ?_;intro v5 w5 hown5 hg5 hwh5)
            obtain⟨a5,c5,rfl⟩:=own_shape hown5
            have BZ5:Hid (Below w.heap.size w w5):=(BZ.out.alloc zz _).grown hg5 (BZ.out.alloc zz _).size (fun k hk=>(OZ.out.lt k hk).1)
            have OZ5:Hid (w5.ownsRow w.heap.size 3 1 (.slice a5 (nl2++[v]).length c5) (nl2++[v]).length (i64s (nl2++[v]))):=by
             have e:i64s (nl2++[v])=i64s nl2++[.int .i64 v]:=by simp[i64s]
             rw[e,List.length_append];exact hown5
            clear hown5 hg5 hwh5
            go_wp2
            go_roundw
            case rel=>exact⟨k+1,nl2++[v],a5,c5,by omega,by go_num,by rw[List.length_append];rfl,by simp;omega,HN3,OZ5,BZ5⟩
            case measure=>simp[intOf];omega
          ·obtain rfl:k=cc.length:=by omega
           have HN3:Hid (nl2=(tk.take (i+1)).foldl nearS (nearN tk r [x])):=by
            show _=_
            rw[HNS.out,HS1.out,HN2.out,List.take_length]
            rfl
           clear HN2
           go_wp2
           go_roundw
           case rel=>exact⟨i+1,nl2,a2,c2,by omega,by go_num,rfl,by omega,HN3,OZ,BZ⟩
           case measure=>simp[intOf];omega
    ·obtain rfl:i=tk.length:=by omega
     have HN2:Hid (nl=nearN tk (r+1) [x]):=by
      show _=_
      rw[nearN_succ,HN.out,List.take_length]
      rfl
     clear HN
     go_wp2
     go_roundw
     case rel=>exact⟨r+1,nl,a1,c1,by omega,by go_num,rfl,by omega,HN2,HO,HB⟩
     case measure=>simp[intOf];omega
theorem tkS_len12w{P:Prg}{cls:List (List Int)}:∀ c∈(tkS P cls).2,c.length≤12:=by
 intro c hc
 have h1:=(begL_len P (P.new 0 1048576 1048576) (begC cls)).2 c hc
 unfold begC at h1
 obtain⟨d,_,rfl⟩:=List.mem_map.1 h1
 simp
 omega
theorem lits_lenW(xs:List Int):xs.length≤(litsT xs).length:=by
 induction xs with
 | nil=>simp[litsT]
 | cons x xs ih =>
  have e:litsT (x :: xs)=litT x++litsT xs:=by simp[litsT]
  rw[e,List.length_append,List.length_cons]
  have:1≤(litT x).length:=by simp[litT]
  omega
theorem Tkn.rows{w:World}{B:Nat}{ta:Option Addr}{tc:Nat}{vs:List Value}{tk:List (List Int)}(h:Tkn w B ta tc vs tk):∃ A C,RowsAt w ta A C tk:=by
 by_cases h0:tk=[]
 ·exact⟨fun _=>none,fun _=>0,.inl h0⟩
 have hp:0<tk.length:=List.length_pos_iff.2 h0
 obtain⟨g',cap,e,_,_⟩:=h.top.form hp
 simp only[Value.slice.injEq] at e
 obtain⟨rfl,_,rfl⟩:=e
 refine⟨fun r=>match vs.getD r undef with | .slice a _ _=>a | _=>none,fun r=>match vs.getD r undef with | .slice _ _ c=>c | _=>0,.inr ⟨g',0,rfl,fun r hr=>?_⟩⟩
 obtain⟨u,h1,h2⟩:=h.each.at r hr
 obtain⟨a,c,rfl⟩:=own_shape h2
 have e1:vs.getD r undef=.slice a (tk.getD r []).length c:=by rw[List.getD_eq_getElem?_getD,h1];rfl
 simp only[e1]
 have hc:=h.top.cells (g:=g') rfl r _ h1
 rw[addr0] at hc
 refine⟨hc,own_intsAt h2,?_⟩
 rcases h2.2 with⟨_,z⟩ | ⟨_,cap,_,_,_,_,q1,q2,_⟩
 ·omega
 ·unfold maxLen at q2;omega
set_option maxHeartbeats 8000000 in
theorem withinT_any(P:Prg)(a a2:Option Addr)(c c2:Nat)(A:Nat→Option Addr)(C:Nat→Nat)(cls:List (List Int))(xs:List Int)(w:World)(hr:RowsAt w a A C cls)(hcl:cls.length≤9223372036854775807)(_hcb:∀ c∈cls,∀ x∈c,-9223372036854775808≤x∧x≤9223372036854775807)(hi:IntsAt w a2 xs)(hx:xs.length≤9223372036854775807)(hxb:∀ x∈xs,-9223372036854775808≤x∧x≤9223372036854775807)(htab:Tab w)(h0:0<w.heap.size) :
  Calls Tryd.prog 4 #[.slice a cls.length c,.slice a2 xs.length c2] w fun e w'=>e=.returned (.bool true)∧Below w.heap.size w w':=by
 have HW:=hide (widely_any P a c A C cls w hr hcl)
 have T:=tkS_ok P cls
 have hl40:=tkS_len P cls
 have hln:=T.len hl40
 have HLI:Hid (∀ w',Below w.heap.size w w'→Calls Tryd.prog 11 #[] w' fun e w''=>e=.returned (.bool true)∧Below w'.heap.size w' w''):=fun w' hb=>lives_any P w' (htab.below hb h0) (Nat.lt_of_lt_of_le h0 hb.size)
 have HWI:Hid (∀ w',Below w.heap.size w w'→Calls Tryd.prog 12 #[.slice a2 xs.length c2] w' fun e w''=>∃ a' c',e=.returned (.slice a' (wishL xs).length c')∧w''.ownsRow w'.heap.size 3 1 (.slice a' (wishL xs).length c') (wishL xs).length (i64s (wishL xs))∧Below w'.heap.size w' w''):=fun w' hb=>wishes_any a2 c2 xs w' (hi.below hb) hx hxb
 have hwl:=wishL_len xs
 have hask:askedD (wishL xs) 0=0:=wishL_asked xs
 obtain⟨o1,L,hpf,hln2⟩:=within_one T hask
 have hpfl:=(P.bd o1).pfl
 rw[hpf] at hpfl
 have TB:=hide htab
 have HTO:=hide T.ok
 have HO1:=hide o1
 have HLIT:=hide T.lit
 have HPF:=hide hpf
 have HJN:=hide hln2
 have HSHT:Hid (∀ b∈(tkS P cls).2,b.length≤12):=tkS_len12w
 have e1:begL P (P.new 0 1048576 1048576) (begC cls)=tkS P cls:=rfl
 rw[e1] at HW
 have HSO:Hid (∀ (w':World) (g:Nat) (F:Nat→Prop),P.At w' g (tkS P cls).1 F→Tab w'→0<w'.heap.size→¬ F 0→∀ (b0:Nat) (a:Option Addr) (c:Nat),w'.ownsRow b0 3 1 (.slice a (wishL xs).length c) (wishL xs).length (i64s (wishL xs))→(∀ q,F q→(Value.slice a (wishL xs).length c).ownBlock≠some q)→_):=fun w' g F h1 h2 h3 h4 b0 a c h5 h6=>solve_own P h1 HTO.out hln h2 h3 h4 h5 h6 (by omega) 0
 rw[hask] at HSO
 generalize tkS P cls=sk at *
 generalize wishL xs=l at *
 generalize P.ans sk.1 l 0=x1 at *
 generalize P.slv sk.1 l 0=s1 at *
 clear hr hi hxb htab T e1 o1 hpf hln2 hask
 go_enter Tryd.func4,Tryd.ntmps4
 go_wp2_with fail
 refine(unhide HW).mono ?_
 rintro e w1 ⟨g,F,ta,tc,vs,rfl,X1,hb1⟩
 have hbA:=al_below w1 (.cells #[.pointer (some ⟨g,0,none⟩),.slice ta sk.2.length tc,.bool true] 26)
 have r2:Row (w1.alloc (.cells #[.pointer (some ⟨g,0,none⟩),.slice ta sk.2.length tc,.bool true] 26)) w1.heap.size 26 [.pointer (some ⟨g,0,none⟩),.slice ta sk.2.length tc,.bool true]:=heap_alloc_new w1 _
 have M2:Hid (OnM P w g sk.2 w1.heap.size [.pointer (some ⟨g,0,none⟩),.slice ta sk.2.length tc,.bool true] ta tc vs (w1.alloc (.cells #[.pointer (some ⟨g,0,none⟩),.slice ta sk.2.length tc,.bool true] 26)) sk.1 F):=⟨X1.below hbA,r2,fun q=>by have:=P.lt X1.x _ q;omega,hb1.trans (hbA.mono hb1.size)⟩
 have HL:=hide (HLI.out _ M2.out.bel)
 clear hbA r2 X1 hb1 HLI HW
 go_wp2_with fail
 refine(unhide HL).mono ?_
 generalize w1.alloc (.cells #[.pointer (some ⟨g,0,none⟩),.slice ta sk.2.length tc,.bool true] 26)=w2 at *
 rintro e w3 ⟨rfl,hb3⟩
 have M3:=hide (M2.out.below hb3)
 have f2:w3.cell? ⟨w1.heap.size,2,none⟩=some (.bool true):=(M3.out.row.cell 2).trans rfl
 have HW3:=hide (HWI.out _ M3.out.bel)
 clear hb3 HL HWI M2
 go_wp2_with fail
 refine(unhide HW3).mono ?_
 rintro e w4 ⟨a4,c4,rfl,o4,hb4⟩
 have M4:=hide (M3.out.below hb4)
 have O4:=hide o4
 have HFL:Hid (∀ q,F q→q<w3.heap.size):=P.lt M3.out.beg.x
 have f0:w4.cell? ⟨w1.heap.size,0,none⟩=some (.pointer (some ⟨g,0,none⟩)):=(M4.out.row.cell 0).trans rfl
 have z4:w.heap.size≤w4.heap.size:=M4.out.bel.size
 have HS1:=hide (HSO.out w4 g F M4.out.beg.x (TB.out.below M4.out.bel h0) (by omega) (fun q=>by have:=M4.out.beg.fb 0 q;omega) _ a4 c4 O4.out (fun q hq e=>by
  have h1:=(O4.out.lt q e).1
  have h2:=HFL.out q hq
  omega))
 clear hb4 o4 HW3 f2 M3 HSO O4 HFL
 go_wp2_with fail
 refine(unhide HS1).mono ?_
 rintro e w5 ⟨p,rfl,_,F5,x5,c5,n5,_⟩
 obtain⟨G5,m5⟩:=M4.out.call x5 c5 n5
 have M5:=hide (m5.below (al_below w5 (.cells #[.int .i64 x1.st,.int .i64 x1.re,.slice p.a1 x1.vs.length p.c1,.slice p.a2 x1.co.length p.c2,.slice p.a3 x1.cl.length p.c3] 31)))
 have f0:(w5.alloc (.cells #[.int .i64 x1.st,.int .i64 x1.re,.slice p.a1 x1.vs.length p.c1,.slice p.a2 x1.co.length p.c2,.slice p.a3 x1.cl.length p.c3] 31)).cell? ⟨w1.heap.size,0,none⟩=some (.pointer (some ⟨g,0,none⟩)):=(M5.out.row.cell 0).trans rfl
 have HP7:=hide (P.proofC M5.out.beg.x HO1.out)
 rw[HPF.out] at HP7
 clear m5 x5 c5 n5 HS1 M4 TB HTO HO1
 go_wp2_with fail
 refine(unhide HP7).mono ?_
 generalize w5.alloc (.cells #[.int .i64 x1.st,.int .i64 x1.re,.slice p.a1 x1.vs.length p.c1,.slice p.a2 x1.co.length p.c2,.slice p.a3 x1.cl.length p.c3] 31)=w6 at *
 rintro e w8 ⟨rfl,hb8⟩
 have M8:=hide (M5.out.below hb8)
 have z8:w.heap.size≤w8.heap.size:=M8.out.bel.size
 have K8:=hide M8.out.beg.tkn
 have R8:=hide M8.out.row
 have B8:=hide M8.out.bel
 clear hb8 HP7 M5 f0 M8
 have HLN:Hid (∀ (k:Nat) (w':World),k<L.length→(L.getD k (0,[])).2.all litB=true→_):=fun k w' hk hl=>lineL_any L k hk hl (by omega) w'
 have hsz:((bA (linesT L)).size:Int)=((linesT L).length:Nat):=by rw[bA_size]
 have HP1:Hid (∀ k,k<L.length→posL L k+2≤(linesT L).length):=fun k hk=>by have:=pos_lt hk;omega
 have HPE:=hide (pos_end L)
 have HPS:Hid (∀ k,k<L.length→posL L k<posL L (k+1)∧posL L (k+1)≤(linesT L).length):=fun k hk=>by have h1:=pos_lt hk;have h2:=pos_succ hk;omega
 have HPL:Hid (∀ k,k<L.length→(L.getD k (0,[])).2.length≤(linesT L).length):=fun k hk=>by
  have h1:=pos_lt hk
  have h2:=lits_lenW (L.getD k (0,[])).2
  have h3:(bodyT (L.getD k (0,[])).2).length=(litsT (L.getD k (0,[])).2).length+2:=by simp[bodyT]
  omega
 have HP0:Hid (posL L 0=0):=by show _=_;simp[posL,linesT]
 have HLK:Hid (∀ k,k<L.length→(L.getD k (0,[])).2.all litB=true∧∀ i,i<(L.getD k (0,[])).2.length→hasL (nearN sk.2 11 [(L.getD k (0,[])).2.getD 0 0]) ((L.getD k (0,[])).2.getD i 0)=true):=fun k hk=>by
  have hm:L.getD k (0,[])∈L:=by
   rw[List.getD_eq_getElem?_getD,List.getElem?_eq_getElem hk]
   exact List.getElem_mem hk
  obtain⟨q1,q2⟩:=HJN.out _ hm
  exact⟨q1,fun i hi=>line_linked HLIT.out q1 q2 (getD_mem (by omega)) (getD_mem hi)⟩
 have HLE:Hid (∀ (w':World) (x y:Int),Tkn w' w.heap.size ta tc vs sk.2→litB x=true→litB y=true→Calls Tryd.prog 18 #[.slice ta sk.2.length tc,.int .i64 x,.int .i64 y] w' fun e w''=>e=.returned (.bool (hasL (nearN sk.2 11 [x]) y))∧Below w'.heap.size w' w''):=fun w' x y h hx hy=>by
  obtain⟨A',C',hrows⟩:=h.rows
  exact linked_any ta tc A' C' sk.2 x y w' hrows hl40 HSHT.out HLIT.out hx hy
 generalize bA (linesT L)=pfb at *
 generalize (linesT L).length=N at *
 generalize hP:posL L=PL at *
 clear hP HJN HLIT
 generalize hT1:w1.heap.size=T1 at *
 clear hT1
 go_wp2_with fail
 go_loopw [11] (fun x11 wr=>∃ k:Nat,k≤L.length∧x11=.int .i64 (PL k:Nat)∧Hid (Tkn wr w.heap.size ta tc vs sk.2)∧Hid (Row wr T1 26 [.pointer (some ⟨g,0,none⟩),.slice ta sk.2.length tc,.bool true])∧Hid (Below w.heap.size w wr)) (fun x11 _=>N - (intOf x11).toNat)
 case atStart=>exact⟨0,Nat.zero_le _,by rw[HP0.out];rfl,K8,R8,B8⟩
 case round =>
  clear K8 R8 B8 HP0
  obtain⟨k,hk,rfl,HT,HRW,HB⟩:=hrel
  have zr:w.heap.size≤wr.heap.size:=HB.out.size
  by_cases hlt:k<L.length
  ·have hp1:=HP1.out k hlt
   obtain⟨hlit,hall⟩:=HLK.out k hlt
   have HQ:=hide (HLN.out k wr hlt hlit)
   have hps:PL k<PL (k+1)∧PL (k+1)≤N:=HPS.out k hlt
   have hlt2:((PL k:Nat):Int)<(N:Int):=by omega
   have hcl2:=HPL.out k hlt
   generalize L.getD k (0,[])=pr at *
   obtain⟨lt,cl⟩:=pr
   simp only at HQ hlit hall hcl2
   have HLI2:=hide hlit
   have HALL:=hide hall
   clear hlit hall
   go_wp2_with fail
   refine(unhide HQ).mono ?_
   rintro e w2 ⟨a5,c5,rfl,o5,hb5⟩
   have T5:=hide (HT.out.below hb5)
   have R5:=hide (row_below HRW.out hb5)
   have B5:Hid (Below w.heap.size w w2):=HB.out.trans (hb5.mono zr)
   have O5:=hide (own_low o5 zr)
   clear hb5 o5 HQ HT HB HRW
   go_wp2_with fail
   go_loopw [15] (fun x15 wz=>∃ i:Nat,1≤i∧x15=.int .i64 i∧(i≤cl.length∨i=1)∧Hid (Tkn wz w.heap.size ta tc vs sk.2)∧Hid (Row wz T1 26 [.pointer (some ⟨g,0,none⟩),.slice ta sk.2.length tc,.bool true])∧Hid (wz.ownsRow w.heap.size 3 1 (.slice a5 cl.length c5) cl.length (i64s cl))∧Hid (Below w.heap.size w wz)) (fun x15 _=>cl.length - (intOf x15).toNat)
   case atStart=>exact⟨1,Nat.le_refl _,rfl,.inr rfl,T5,R5,O5,B5⟩
   case round =>
    clear T5 R5 O5 B5
    obtain⟨i,hi1,rfl,hi,TZ,RZ,OZ,BZ⟩:=hrel
    by_cases hil:i<cl.length
    ·have BD:Below wr.heap.size wr wr.drew:=below_drewN (Below.refl _ _) 1
     have TD:=TZ.out.below BD
     have RD:=hide (row_below RZ.out BD)
     have OD:=hide (own_below OZ.out BD)
     have BBD:Hid (Below w.heap.size w wr.drew):=BZ.out.trans (BD.mono BZ.out.size)
     have q1:wr.cell? ⟨T1,1,none⟩=some (.slice ta sk.2.length tc):=(RZ.out.cell 1).trans rfl
     obtain⟨b,off,e5,hc⟩:=(own_intsAt OZ.out).get (show 0<cl.length by omega)
     subst e5
     have c0:=hc 0 (by omega)
     have ci:=hc i hil
     rw[Nat.add_zero] at c0
     have l0:=List.all_eq_true.1 HLI2.out _ (getD_mem (xs:=cl) (i:=0) (by omega))
     have li:=List.all_eq_true.1 HLI2.out _ (getD_mem hil)
     have hle:=HLE.out wr.drew (cl.getD 0 0) (cl.getD i 0) TD l0 li
     rw[HALL.out i hil] at hle
     have HLK2:=hide hle
     have TDH:=hide TD
     have i1':(0:Int)≤(i:Int):=by omega
     have i2':(i:Int)<(cl.length:Int):=by omega
     have i3':(0:Int)<(cl.length:Int):=by omega
     generalize cl.getD 0 0=v0 at *
     generalize cl.getD i 0=vi at *
     clear hc l0 li hle TD BD
     go_wp2_with fail
     go_region_with (go_at_call 18;refine(unhide HLK2).mono ?_;rintro e w7 ⟨rfl,hb7⟩;have T7:=hide (TDH.out.below hb7);have R7:=hide (row_below RD.out hb7);have O7:=hide (own_below OD.out hb7);have B7:Hid (Below w.heap.size w w7):=BBD.out.trans (hb7.mono BBD.out.size);clear hb7 HLK2)
     all_goals
      go_wp2
      go_roundw
      case rel=>exact⟨i+1,by omega,by go_num,.inl (by omega),T7,R7,O7,B7⟩
      case measure=>simp[intOf];omega
    ·have hin:¬ (i:Int)<(cl.length:Int):=by omega
     go_wp2
     go_roundw
     case rel=>exact⟨k+1,by omega,rfl,TZ,RZ,BZ⟩
     case measure=>simp[intOf];omega
  ·obtain rfl:k=L.length:=by omega
   have hpe:=HPE.out
   have hnl:¬ ((PL L.length:Nat):Int)<(N:Int):=by omega
   clear hpe
   go_wp2
   go_ret
   exact⟨rfl,HB.out⟩
end Go.Proofs.YthboeppmlhbofabDoor
