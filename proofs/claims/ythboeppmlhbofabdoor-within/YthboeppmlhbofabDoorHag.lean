import Derived.Test.YthboeppmlhbofabDoorDcm
import Derived.Test.YthboeppmlhbofabDoorLns
namespace Go.Proofs.YthboeppmlhbofabDoor
open Go.RowKit Txt
set_option maxRecDepth 100000
theorem sub_lt20{k K:Nat}(hk:SubN k K)(hK:K<2^20):k<2^20:=lt_pow_bits fun i hi=>by
 cases hb:k.testBit i with
 | false=>rfl
 | true=>have:=bit_lt hK (hk i hb);omega
theorem clash_anti{cs cs':List Nat}(hc:∀ c∈cs',c<2^20){k k':Nat}(hk:k'<2^20)(hs:∀ c∈cs,c∈cs')(hkk:SubN k k')(h:clashD cs' k'=false):clashD cs k=false:=by
 cases hb:clashD cs k with
 | false=>rfl
 | true=>rw[clash_mono hc hk hs hkk hb] at h;exact h
theorem need_sub(cs:List Nat):∀ (xs:List Int) (d:Nat),SubN (needD cs xs d) d:=by
 intro xs
 induction xs with
 | nil=>intro d;exact SubN.refl d
 | cons n xs ih =>
  intro d
  simp only[needD]
  refine(ih _).trans ?_
  split
  ·exact wo_sub d n
  ·exact SubN.refl d
theorem need_clash(cs:List Nat):∀ (xs:List Int) (d:Nat),clashD cs d=true→clashD cs (needD cs xs d)=true:=by
 intro xs
 induction xs with
 | nil=>intro d h;exact h
 | cons n xs ih =>
  intro d h
  simp only[needD]
  refine ih _ ?_
  split
  ·assumption
  ·exact h
theorem need_keep(cs:List Nat){j:Nat}:∀ (xs:List Int) (d:Nat),d.testBit j=true→(∀ n∈xs,bitI n≠j)→(needD cs xs d).testBit j=true:=by
 intro xs
 induction xs with
 | nil=>intro d h _;exact h
 | cons n xs ih =>
  intro d h hn
  simp only[needD]
  refine ih _ ?_ (fun m hm=>hn m (List.mem_cons_of_mem _ hm))
  split
  ·have hne:j≠bitI n:=fun e=>hn n (List.mem_cons_self ..) e.symm
   rw[wo_bit,h];simp[hne]
  ·exact h
theorem need_min{cs:List Nat}(hc:∀ c∈cs,c<2^20):∀ (xs:List Int) (d:Nat),d<2^20→∀ n∈xs,(needD cs xs d).testBit (bitI n)=true→clashD cs (wo (needD cs xs d) n)=false:=by
 intro xs
 induction xs with
 | nil=>intro d _ n hn;simp at hn
 | cons m xs ih =>
  intro d hd n hn hb
  simp only[needD] at hb ⊢
  have hd1:(if clashD cs (wo d m)=true then wo d m else d)<2^20:=by
   split
   ·exact wo_lt m hd
   ·exact hd
  rcases List.mem_cons.1 hn with rfl | hn
  ·have hs:=need_sub cs xs (if clashD cs (wo d n)=true then wo d n else d)
   cases hcl:clashD cs (wo d n) with
   | true =>
    rw[hcl,if_pos rfl] at hb hs
    have:=hs _ hb
    rw[wo_bit] at this
    simp at this
   | false =>
    rw[hcl] at hs
    simp only[Bool.false_eq_true,if_false] at hs ⊢
    refine clash_anti hc (wo_lt n hd) (fun c h=>h) ?_ hcl
    intro i hi
    rw[wo_bit,Bool.and_eq_true] at hi ⊢
    exact⟨hs i hi.1,hi.2⟩
  ·exact ih _ hd1 n hn hb
theorem set_bit:∀ {xs:List Int} {j:Nat},(setN xs).testBit j=true→∃ n∈xs,bitI n=j:=by
 intro xs
 induction xs with
 | nil=>intro j h;simp[setN] at h
 | cons x xs ih =>
  intro j h
  have e:setN (x :: xs)=setN [x]|||setN xs:=setN_app [x] xs
  rw[e,Nat.testBit_or,Bool.or_eq_true,setN_one,Nat.testBit_two_pow] at h
  rcases h with h | h
  ·exact⟨x,List.mem_cons_self ..,by simpa using h⟩
  ·obtain⟨n,hn,e⟩:=ih h
   exact⟨n,List.mem_cons_of_mem _ hn,e⟩
theorem bit_set:∀ {xs:List Int} {n:Int},n∈xs→(setN xs).testBit (bitI n)=true:=by
 intro xs
 induction xs with
 | nil=>intro n h;simp at h
 | cons x xs ih =>
  intro n h
  have e:setN (x :: xs)=setN [x]|||setN xs:=setN_app [x] xs
  rw[e,Nat.testBit_or,Bool.or_eq_true,setN_one,Nat.testBit_two_pow]
  rcases List.mem_cons.1 h with rfl | h
  ·left;simp
  ·exact .inr (ih h)
theorem set_ok{xs:List Int}(h:xs.all litB=true):setOk xs=setN xs:=by unfold setOk;rw[h,if_pos rfl]
theorem minus_bit(k W i:Nat):(k - (k&&&W)).testBit i=(k.testBit i && !W.testBit i):=sub_and_bit k W i
theorem need_in{cs:List Nat}{A w:Nat}(h:CsOk cs A w){xs:List Int}(hx:xs.all litB=true)(hA:A=setOk xs){d:Nat}(hd:d<2^20)(hdA:∀ j,d.testBit j=true→(litsV w).testBit j=false→A.testBit j=true)(hcl:clashD cs d=true)(hno:clashD cs A=false):SubN (needD cs xs d) (litsV w):=by
 have hDs:=need_sub cs xs d
 have hD20:=sub_lt20 hDs hd
 have hDc:=need_clash cs xs d hcl
 have hmin:=need_min h.top xs d hd
 generalize needD cs xs d=D at *
 rcases clash_split h.top (lits_msk w) h.sep hD20 hDc with q | q
 ·intro j hj
  cases hw:(litsV w).testBit j with
  | true=>rfl
  | false =>
   have hAj:=hdA j (hDs j hj) hw
   rw[hA,set_ok hx] at hAj
   obtain⟨n,hn,e⟩:=set_bit hAj
   have:=hmin n hn (by rw[e];exact hj)
   rw[clash_mono h.top (wo_lt n hD20) (fun c hc=>(mem_in.1 hc).1) (fun i hi=>?_) q] at this
   ·exact this.symm
   ·rw[Nat.testBit_and,Bool.and_eq_true] at hi
    rw[wo_bit,hi.1,decide_eq_true]
    ·rfl
    ·intro e'
     rw[e',e,hw] at hi
     simp at hi
 ·rw[clash_mono h.top h.asm (fun c hc=>(mem_off.1 hc).1) (fun i hi=>?_) q] at hno
  ·simp at hno
  ·rw[minus_bit,Bool.and_eq_true] at hi
   exact hdA i (hDs i hi.1) (by simpa using hi.2)
theorem core_in{cs:List Nat}{A w:Nat}(h:CsOk cs A w){xs:List Int}(hx:xs.all litB=true)(hA:A=setOk xs)(hcl:clashD cs A=true){j:Nat}(hj:(needD cs xs A).testBit j=true)(hw:(litsV w).testBit j=true):SubN (needD cs xs A) (litsV w):=by
 have hDs:=need_sub cs xs A
 have hD20:=sub_lt20 hDs h.asm
 have hDc:=need_clash cs xs A hcl
 have hmin:=need_min h.top xs A h.asm
 generalize needD cs xs A=D at *
 have lit:∀ i,D.testBit i=true→∃ n∈xs,bitI n=i:=fun i hi=>by
  have:=hDs i hi
  rw[hA,set_ok hx] at this
  exact set_bit this
 rcases clash_split h.top (lits_msk w) h.sep hD20 hDc with q | q
 ·intro i hi
  cases hwi:(litsV w).testBit i with
  | true=>rfl
  | false =>
   obtain⟨n,hn,e⟩:=lit i hi
   have:=hmin n hn (by rw[e];exact hi)
   rw[clash_mono h.top (wo_lt n hD20) (fun c hc=>(mem_in.1 hc).1) (fun x hx'=>?_) q] at this
   ·exact this.symm
   ·rw[Nat.testBit_and,Bool.and_eq_true] at hx'
    rw[wo_bit,hx'.1,decide_eq_true]
    ·rfl
    ·intro e'
     rw[e',e,hwi] at hx'
     simp at hx'
 ·obtain⟨n,hn,e⟩:=lit j hj
  have:=hmin n hn (by rw[e];exact hj)
  rw[clash_mono h.top (wo_lt n hD20) (fun c hc=>(mem_off.1 hc).1) (fun x hx'=>?_) q] at this
  ·simp at this
  ·rw[minus_bit,Bool.and_eq_true] at hx'
   rw[wo_bit,hx'.1,decide_eq_true]
   ·rfl
   ·intro e'
    rw[e',e,hw] at hx'
    simp at hx'
theorem local_clash{cs:List Nat}{A w:Nat}(h:CsOk cs A w){d:Nat}(hd:d<2^20)(hdA:∀ j,d.testBit j=true→(litsV w).testBit j=false→A.testBit j=true)(hno:clashD cs A=false)(hcl:clashD cs d=true):lpush cs (litsV w) d=none:=by
 rcases clash_split h.top (lits_msk w) h.sep hd hcl with q | q
 ·exact push_none.2 q
 ·rw[clash_mono h.top h.asm (fun c hc=>(mem_off.1 hc).1) (fun i hi=>?_) q] at hno
  ·simp at hno
  ·rw[minus_bit,Bool.and_eq_true] at hi
   exact hdA i hi.1 (by simpa using hi.2)
theorem left_opp{D kn i:Nat}:(leftN (oppN D) kn).testBit i=(decide (i<20) && (D.testBit (par i) && !kn.testBit (par i))):=by
 rw[left_bit]
 by_cases hi:i<20
 ·rw[opp_par _ hi,opp_par _ hi,decide_eq_true hi,Bool.true_and]
 ·rw[opp_top _ hi,decide_eq_false hi];rfl
theorem opp_sub_msk{D W:Nat}(hW:Msk W)(h:SubN D W):SubN (oppN D) W:=fun i hi=>by
 by_cases hi20:i<20
 ·rw[opp_par _ hi20] at hi
  have:=h _ hi
  rw[hW.sym i hi20] at this
  exact this
 ·rw[opp_top _ hi20] at hi;simp at hi
theorem twin_add{k j:Nat}(hk:twinB k=false)(hp:k.testBit (par j)=false):twinB (k|||2^j)=false:=by
 rw[twin_iff] at hk ⊢
 intro i hi h
 rw[Nat.testBit_or,Bool.or_eq_true,Nat.testBit_two_pow] at h
 rw[Nat.testBit_or,Nat.testBit_two_pow,Bool.or_eq_false_iff]
 rcases h with h | h
 ·refine⟨hk i hi h,?_⟩
  apply decide_eq_false
  intro e
  rw[e,par_par] at hp
  rw[hp] at h;simp at h
 ·have e:j=i:=by simpa using h
  subst e
  exact⟨hp,decide_eq_false (fun e=>par_ne j e.symm)⟩
theorem decF_mono{cs:List Nat}{A w:Nat}:∀ {m i d d':Nat},decF cs A w i=some d→decF cs A w (i+m)=some d'→SubN d d':=by
 intro m
 induction m with
 | zero =>
  intro i d d' h1 h2
  rw[Nat.add_zero,h1] at h2
  simp only[Option.some.injEq] at h2
  subst h2;exact SubN.refl _
 | succ m ih =>
  intro i d d' h1 h2
  obtain⟨d0,kn,a1,_,_,e⟩:=decF_next (i:=i+m) h2
  rw[e]
  exact(ih h1 a1).trans (SubN.or_left _ _)
theorem need_dec{cs cs':List Nat}{A w:Nat}(h:CsOk cs A w){xs:List Int}(hx:xs.all litB=true)(hA:A=setOk xs){k dec:Nat}(hk:decF cs A w (k+1)=some dec){i d kn:Nat}(hi:i≤k)(h1:decF cs A w i=some d)(h2:lpush cs (litsV w) d=some kn)(h3:nxtD w kn≠0):∃ j,bitN ((nxtD w kn:Nat):Int)=2^j∧j<20∧(litsV w).testBit j=true∧kn.testBit j=false∧kn.testBit (par j)=false∧(needD cs' xs dec).testBit j=true:=by
 obtain⟨a1,a2,_⟩:=decF_ok h h1
 obtain⟨q,_⟩:=kn_ok h a1 h2
 obtain⟨j,e,hj,_,hw,hb,hp⟩:=nxt_spec q.top h3
 refine⟨j,e,hj,hw,hb,hp,need_keep cs' xs dec ?_ (fun n hn en=>?_)⟩
 ·have hn:decF cs A w (i+1)=some (d|||2^j):=by
   simp only[decF,h1,h2]
   rw[if_neg h3,e]
  have hs:SubN (d|||2^j) dec:=decF_mono (m:=k - i) hn (by rw[show i+1+(k - i)=k+1 by omega];exact hk)
  exact hs j (pow_bit d j)
 ·have hAj:A.testBit j=true:=by
   rw[hA,set_ok hx,← en]
   exact bit_set hn
  have:=q.sub j (by rw[Nat.testBit_and,a2 j hAj,hw];rfl)
  rw[hb] at this
  simp at this
theorem learn_new{cs:List Nat}{A w:Nat}(h:CsOk cs A w){d kn j D:Nat}(hd:d<2^20)(h2:lpush cs (litsV w) d=some kn)(hj:j<20)(hb:kn.testBit j=false)(hp:kn.testBit (par j)=false)(hD:SubN D (d|||2^j))(hDW:SubN D (litsV w))(hDj:D.testBit j=true):oppN D ∉ cs:=by
 intro hmem
 have hD20:=sub_lt20 hDW (lits_msk w).top
 obtain⟨q,qw⟩:=kn_ok h hd h2
 obtain⟨q1,q2⟩:=q.cl (oppN D) (mem_in.2 ⟨hmem,opp_sub_msk (lits_msk w) hDW⟩)
 have e:leftN (oppN D) kn=2^par j:=by
  apply Nat.eq_of_testBit_eq
  intro i
  rw[left_opp,Nat.testBit_two_pow]
  by_cases ei:par j=i
  ·subst ei
   rw[par_par,hDj,hb,decide_eq_true (par_lt hj),decide_eq_true rfl];rfl
  ·rw[decide_eq_false ei]
   by_cases hi:i<20
   ·rw[decide_eq_true hi,Bool.true_and]
    cases hDi:D.testBit (par i) with
    | false=>rfl
    | true =>
     have:=hD _ hDi
     rw[Nat.testBit_or,Bool.or_eq_true,Nat.testBit_two_pow] at this
     rcases this with z | z
     ·have:=q.sub (par i) (by rw[Nat.testBit_and,z,hDW _ hDi];rfl)
      rw[this];rfl
     ·have z':j=par i:=by simpa using z
      rw[z',par_par] at ei
      exact absurd rfl ei
   ·rw[decide_eq_false hi];rfl
 have:=q2 ((one_bit _ q1).2 ⟨_,e⟩) (par j) (by rw[e,Nat.testBit_two_pow];simp)
 rw[hp] at this
 simp at this
theorem in_snoc{cs:List Nat}{c W:Nat}(h:SubN c W):inW (cs++[c]) W=inW cs W++[c]:=by
 unfold inW
 rw[List.filter_append]
 congr 1
 simp[h.eq_and]
theorem learn_more{cs:List Nat}{A w:Nat}(h:CsOk cs A w){k d kn j D:Nat}(h1:decF cs A w k=some d)(h2:lpush cs (litsV w) d=some kn)(hj:j<20)(hb:kn.testBit j=false)(hp:kn.testBit (par j)=false)(hD:SubN D (d|||2^j))(hDW:SubN D (litsV w))(hDj:D.testBit j=true)
  (hDd:∀ i d' kn',i<k→decF cs A w i=some d'→lpush cs (litsV w) d'=some kn'→∃ j',j'<20∧kn'.testBit j'=false∧D.testBit j'=true∧∃ d1 kn1,decF cs A w (i+1)=some d1∧lpush cs (litsV w) d1=some kn1∧kn1.testBit j'=true) :
  CsOk (cs++[oppN D]) A w∧potF cs A w 12<potF (cs++[oppN D]) A w 12:=by
 have hD20:=sub_lt20 hDW (lits_msk w).top
 have hoW:=opp_sub_msk (lits_msk w) hDW
 obtain⟨a1,_,_⟩:=decF_ok h h1
 obtain⟨q,qw⟩:=kn_ok h a1 h2
 have hok:CsOk (cs++[oppN D]) A w:=⟨fun c hc=>(List.mem_append.1 hc).elim (h.top c) (fun hc=>by rw[List.mem_singleton.1 hc];exact oppN_lt D),fun c hc=>(List.mem_append.1 hc).elim (h.sep c) (fun hc=>.inl (by rw[List.mem_singleton.1 hc];exact hoW)),h.asm⟩
 have hsame:∀ i d',i<k→decF cs A w i=some d'→lpush (cs++[oppN D]) (litsV w) d'=lpush cs (litsV w) d':=by
  intro i d' hi hd'
  obtain⟨d1,hd1⟩:=decF_le h1 (by omega:i+1≤k)
  obtain⟨d0,kn',b1,b2,_,_⟩:=decF_next hd1
  rw[hd'] at b1
  simp only[Option.some.injEq] at b1
  subst b1
  obtain⟨b0,_,_⟩:=decF_ok h hd'
  obtain⟨q',qw'⟩:=kn_ok h b0 b2
  rw[b2]
  refine push_eq (in_top hok.top _) (and_top b0) ⟨q'.top,q'.sub,q'.twin,?_,fun K' hC hk=>q'.least K' (hC.sub fun c hc=>?_) hk⟩
  ·rw[in_snoc hoW]
   intro c hc
   rcases List.mem_append.1 hc with hc | hc
   ·exact q'.cl c hc
   ·rw[List.mem_singleton.1 hc]
    obtain⟨j',c1,c2,c3,d1',kn1,c4,c5,c6⟩:=hDd i d' kn' hi hd' b2
    have hm:SubN kn' kn:=(kn_monos h (j:=k - i) hd' b2 (by rw[show i+(k - i)=k by omega];exact h1) h2).1
    have hm1:SubN kn1 kn:=(kn_monos h (j:=k - (i+1)) c4 c5 (by rw[show i+1+(k - (i+1))=k by omega];exact h1) h2).1
    have hb':kn'.testBit j=false:=by
     cases z:kn'.testBit j with
     | false=>rfl
     | true=>have:=hm j z;rw[hb] at this;exact this.symm
    have ne:j'≠j:=fun e=>by
     have:=hm1 j' c6
     rw[e,hb] at this
     simp at this
    have z1:(leftN (oppN D) kn').testBit (par j')=true:=by rw[left_opp,par_par,c3,c2,decide_eq_true (par_lt c1)];rfl
    have z2:(leftN (oppN D) kn').testBit (par j)=true:=by rw[left_opp,par_par,hDj,hb',decide_eq_true (par_lt hj)];rfl
    refine⟨fun e=>by rw[e] at z1;simp at z1,fun hs=>?_⟩
    exfalso
    obtain⟨x,hx⟩:=(one_bit _ (fun e=>by rw[e] at z1;simp at z1)).1 hs
    rw[hx,Nat.testBit_two_pow] at z1 z2
    have y1:x=par j':=by simpa using z1
    have y2:x=par j:=by simpa using z2
    apply ne
    rw[← par_par j',← y1,y2,par_par]
  ·rw[in_snoc hoW];exact List.mem_append_left _ hc
 refine⟨hok,?_⟩
 have hdk:decF (cs++[oppN D]) A w k=some d:=by rw[dec_same hsame k (Nat.le_refl _)];exact h1
 have hk10:=(kn_size h h1 h2)
 have hc10:=cvN_le w
 refine pot_more h (k:=k) (fun i hi=>?_) ?_ 12 (by omega)
 ·unfold dgF
  rw[dec_same hsame i (by omega)]
  cases hd':decF cs A w i with
  | none=>rfl
  | some d'=>simp only;rw[hsame i d' hi hd']
 ·have e1:dgF cs A w k=1+sizeN kn:=by simp only[dgF,h1,h2]
  rw[e1]
  unfold dgF
  rw[hdk]
  simp only
  cases hk':lpush (cs++[oppN D]) (litsV w) d with
  | none=>simp only;omega
  | some kn' =>
   simp only
   obtain⟨q',qw'⟩:=kn_ok hok a1 hk'
   have hsub:SubN kn kn':=q.least _ (q'.cl.sub fun c hc=>by rw[in_snoc hoW];exact List.mem_append_left _ hc) q'.sub
   obtain⟨p1,p2⟩:=q'.cl (oppN D) (by rw[in_snoc hoW];exact List.mem_append_right _ (List.mem_singleton.2 rfl))
   have hle:SubN (leftN (oppN D) kn') (2^par j):=by
    intro i hi
    rw[left_opp,Bool.and_eq_true,Bool.and_eq_true] at hi
    rw[Nat.testBit_two_pow]
    have:=hD _ hi.2.1
    rw[Nat.testBit_or,Bool.or_eq_true,Nat.testBit_two_pow] at this
    rcases this with z | z
    ·have:=hsub _ (q.sub (par i) (by rw[Nat.testBit_and,z,hDW _ hi.2.1];rfl))
     rw[this] at hi
     simp at hi
    ·have z':j=par i:=by simpa using z
     rw[z',par_par]
     simp
   have e:=sub_one hle p1
   have hpj:=p2 ((one_bit _ p1).2 ⟨_,e⟩) (par j) (by rw[e,Nat.testBit_two_pow];simp)
   have:=size_lt hsub q'.top (fun e=>by rw[← e,hp] at hpj;simp at hpj)
   omega
theorem nodup_le:∀ (l R:List Nat),l.Nodup→(∀ x∈l,x∈R)→l.length≤R.length:=by
 intro l
 induction l with
 | nil=>intro R _ _;simp
 | cons x l ih =>
  intro R hn hs
  obtain⟨h1,h2⟩:=List.nodup_cons.1 hn
  have hx:=hs x (List.mem_cons_self ..)
  have:=ih (R.erase x) h2 (fun y hy=>(List.mem_erase_of_ne (fun e=>h1 (by rw[← e];exact hy))).2 (hs y (List.mem_cons_of_mem _ hy)))
  rw[List.length_erase_of_mem hx] at this
  have hp:0<R.length:=List.length_pos_of_mem hx
  simp only[List.length_cons]
  omega
theorem cv_or{a b:Nat}(h:a&&&b=0):cvN a+cvN b≤cvN (a|||b):=by
 refine cv_add 10 fun u _ _=>?_
 rw[Nat.testBit_or]
 cases ha:a.testBit u with
 | false=>simp
 | true=>rw[off_iff.2 h u ha];simp
theorem fold_or_dis{w:Nat}:∀ (ws:List Nat),(∀ x∈ws,w&&&x=0)→w&&&ws.foldr (fun a b=>a|||b) 0=0:=by
 intro ws
 induction ws with
 | nil=>intro _;simp
 | cons x ws ih=>intro h;exact and_or_zero (h x (List.mem_cons_self ..)) (ih fun y hy=>h y (List.mem_cons_of_mem _ hy))
theorem sum_cv:∀ (ws:List Nat),ws.Pairwise (fun a b=>a&&&b=0)→(ws.map cvN).sum≤cvN (ws.foldr (fun a b=>a|||b) 0):=by
 intro ws
 induction ws with
 | nil=>intro _;simp
 | cons w ws ih =>
  intro h
  obtain⟨h1,h2⟩:=List.pairwise_cons.1 h
  have a:=ih h2
  have b:=cv_or (fold_or_dis ws h1)
  simp only[List.map_cons,List.sum_cons,List.foldr_cons]
  omega
theorem sum_ten{ws:List Nat}(h:ws.Pairwise fun a b=>a&&&b=0):(ws.map cvN).sum≤10:=Nat.le_trans (sum_cv ws h) (cvN_le _)
structure Trk(cs:List Nat)(A w k:Nat):Prop where
 ok:CsOk cs A w
 is:∃ d kn,decF cs A w k=some d∧lpush cs (litsV w) d=some kn
def tracks(cs:List Nat)(A:Nat)(T:List (Nat × Nat)):List Stp:=T.flatMap fun t=>pathF cs A t.1 (t.2+1)
theorem Trk.reasons{cs:List Nat}{A w k:Nat}(h:Trk cs A w k):∃ R:List Nat,(∀ c∈R,c∈cs)∧R.length≤cvN w∧Enough R (pathF cs A w (k+1)):=by
 obtain⟨d,kn,h1,h2⟩:=h.is
 obtain⟨R,r1,r2,r3⟩:=path_reasons h.ok k h1 h2
 have:=(kn_size h.ok h1 h2).2
 exact⟨R,fun c hc=>(mem_in.1 (r1 c hc)).1,by omega,r3⟩
theorem Enough.app{R:List Nat}{a b:List Stp}(h:Enough R a)(h':Enough R b):Enough R (a++b):=fun p hp=>(List.mem_append.1 hp).elim (h p) (h' p)
theorem trks_reasons{cs:List Nat}{A:Nat}:∀ (T:List (Nat × Nat)),(∀ t∈T,Trk cs A t.1 t.2)→∃ R:List Nat,(∀ c∈R,c∈cs)∧R.length≤(T.map fun t=>cvN t.1).sum∧Enough R (tracks cs A T):=by
 intro T
 induction T with
 | nil=>intro _;exact⟨[],by simp,by simp,fun p hp=>by simp[tracks] at hp⟩
 | cons t T ih =>
  intro h
  obtain⟨R,r1,r2,r3⟩:=ih fun x hx=>h x (List.mem_cons_of_mem _ hx)
  obtain⟨R',s1,s2,s3⟩:=(h t (List.mem_cons_self ..)).reasons
  refine⟨R'++R,fun c hc=>(List.mem_append.1 hc).elim (s1 c) (r1 c),by simp only[List.length_append,List.map_cons,List.sum_cons];omega,?_⟩
  simp only[tracks,List.flatMap_cons]
  exact(s3.sub fun c hc=>List.mem_append_left _ hc).app (r3.sub fun c hc=>List.mem_append_right _ hc)
theorem reps_yes{cs cs' R:List Nat}{A w:Nat}(h:CsOk cs A w)(hno:clashD cs A=false)(hs:∀ c∈cs',c∈cs)(hR:∀ c∈R,c∈cs'){n:Nat}(hE:Enough R (pathF cs A w n)):repsD cs' (pathF cs A w n)=true:=by
 unfold repsD
 rw[List.all_eq_true]
 intro p hp
 have he:=hE p hp
 obtain⟨i,d,kn,_,h1,h2,rfl⟩:=mem_path hp
 obtain⟨a1,a2,a3⟩:=decF_ok h h1
 obtain⟨q,qw⟩:=kn_ok h a1 h2
 have hcl:clashD cs d=false:=by
  cases hb:clashD cs d with
  | false=>rfl
  | true=>rw[local_clash h a1 a3 hno hb] at h2;simp at h2
 cases hp1:pushD cs d with
 | none=>rw[push_none.1 hp1] at hcl;simp at hcl
 | some K =>
  obtain⟨K',e,hK⟩:=push_mono h.top a1 hs (SubN.refl d) hp1
  have q':=push_some (fun c hc=>h.top c (hs c hc)) a1 e
  have hl:=push_in h.top (lits_msk w) h.sep a1 hp1
  rw[h2] at hl
  simp only[Option.some.injEq] at hl
  have e1:K'&&&litsV w=kn:=by
   refine SubN.anti ?_ ?_
   ·rw[hl];exact hK.mono _
   ·exact(he K' (q'.cl.sub hR) ((sub_and _ _).trans q'.sub)).and qw
  simp only[knD,e]
  simpa using e1
theorem reps_lpush{cs cs':List Nat}{A w:Nat}(h:CsOk cs A w)(hs:∀ c∈cs',c∈cs){n:Nat}(hr:repsD cs' (pathF cs A w n)=true):∀ j d kn,j<n→decF cs A w j=some d→lpush cs (litsV w) d=some kn→lpush cs' (litsV w) d=some kn:=by
 intro j d kn hj h1 h2
 unfold repsD at hr
 have hp:=(List.all_eq_true.1 hr) ⟨d,w,kn⟩ (path_mem h1 h2 hj)
 have e:knD cs' d&&&litsV w=kn:=by simpa using hp
 obtain⟨a1,_,_⟩:=decF_ok h h1
 have h':=h.sub hs
 cases hpu:pushD cs' d with
 | some K' =>
  rw[push_in h'.top (lits_msk w) h'.sep a1 hpu]
  simp only[knD,hpu] at e
  rw[e]
 | none =>
  simp only[knD,hpu,Nat.zero_and] at e
  have q:=(kn_ok h a1 h2).1
  obtain⟨K',e',hK⟩:=push_ex (cs:=inW cs' (litsV w)) (q.cl.sub fun c hc=>mem_in.2 ⟨hs c (mem_in.1 hc).1,(mem_in.1 hc).2⟩) q.twin q.sub
  have:K'=0:=SubN.anti (by rw[e];exact hK) (fun i z=>by rw[Nat.zero_testBit] at z;simp at z)
  show pushD _ _=_
  rw[e',this,e]
theorem reps_app(cs:List Nat)(a b:List Stp):repsD cs (a++b)=(repsD cs a && repsD cs b):=by simp[repsD]
theorem Trk.keep{cs cs':List Nat}{A w k:Nat}(h:Trk cs A w k)(hs:∀ c∈cs',c∈cs)(hr:repsD cs' (pathF cs A w (k+1))=true):Trk cs' A w k∧pathF cs' A w (k+1)=pathF cs A w (k+1):=by
 obtain⟨d,kn,h1,h2⟩:=h.is
 have hl:=reps_lpush h.ok hs hr
 have hsame:∀ j d',j<k+1→decF cs A w j=some d'→lpush cs' (litsV w) d'=lpush cs (litsV w) d':=by
  intro j d' hj hd'
  have:∃ kn',lpush cs (litsV w) d'=some kn':=by
   by_cases e:j=k
   ·subst e
    rw[h1] at hd'
    simp only[Option.some.injEq] at hd'
    subst hd'
    exact⟨kn,h2⟩
   ·obtain⟨d1,hd1⟩:=decF_le h1 (by omega:j+1≤k)
    obtain⟨d0,kn',b1,b2,_,_⟩:=decF_next hd1
    rw[hd'] at b1
    simp only[Option.some.injEq] at b1
    subst b1
    exact⟨kn',b2⟩
  obtain⟨kn',hk'⟩:=this
  rw[hk',hl j d' kn' hj hd' hk']
 refine⟨⟨h.ok.sub hs,d,kn,?_,hl k d kn (by omega) h1 h2⟩,path_same hsame (k+1) (Nat.le_refl _)⟩
 rw[dec_same hsame k (by omega)]
 exact h1
theorem trks_keep{cs cs':List Nat}{A:Nat}(hs:∀ c∈cs',c∈cs):∀ (T:List (Nat × Nat)),(∀ t∈T,Trk cs A t.1 t.2)→repsD cs' (tracks cs A T)=true→(∀ t∈T,Trk cs' A t.1 t.2)∧tracks cs' A T=tracks cs A T:=by
 intro T
 induction T with
 | nil=>intro _ _;exact⟨fun t ht=>by simp at ht,rfl⟩
 | cons t T ih =>
  intro h hr
  simp only[tracks,List.flatMap_cons,reps_app,Bool.and_eq_true] at hr
  obtain⟨a1,a2⟩:=ih (fun x hx=>h x (List.mem_cons_of_mem _ hx)) hr.2
  obtain⟨b1,b2⟩:=(h t (List.mem_cons_self ..)).keep hs hr.1
  refine⟨fun x hx=>?_,?_⟩
  ·rcases List.mem_cons.1 hx with rfl | hx
   ·exact b1
   ·exact a1 x hx
  ·simp only[tracks,List.flatMap_cons] at a2 ⊢
   rw[b2,a2]
theorem long_spec(E:Sg)(s:Sr)(dec:Nat):∀ (cs:List Nat) (m:Nat),(longD E s dec cs m=m∧∀ c∈cs,sizeN c≤sizeN m∨idleD E s c dec=false)∨(longD E s dec cs m∈cs∧idleD E s (longD E s dec cs m) dec=true):=by
 intro cs
 induction cs with
 | nil=>intro m;exact .inl ⟨rfl,fun c hc=>by simp at hc⟩
 | cons c cs ih =>
  intro m
  simp only[longD]
  by_cases h1:sizeN c≤sizeN m
  ·rw[if_pos h1]
   rcases ih m with⟨a,b⟩ | ⟨a,b⟩
   ·refine .inl ⟨a,fun x hx=>?_⟩
    rcases List.mem_cons.1 hx with rfl | hx
    ·exact .inl h1
    ·exact b x hx
   ·exact .inr ⟨List.mem_cons_of_mem _ a,b⟩
  ·rw[if_neg h1]
   cases hi:idleD E s c dec with
   | true =>
    rw[if_pos rfl]
    rcases ih c with⟨a,b⟩ | ⟨a,b⟩
    ·rw[a];exact .inr ⟨List.mem_cons_self ..,hi⟩
    ·exact .inr ⟨List.mem_cons_of_mem _ a,b⟩
   | false =>
    simp only[Bool.false_eq_true,if_false]
    rcases ih m with⟨a,b⟩ | ⟨a,b⟩
    ·refine .inl ⟨a,fun x hx=>?_⟩
     rcases List.mem_cons.1 hx with rfl | hx
     ·exact .inr hi
     ·exact b x hx
    ·exact .inr ⟨List.mem_cons_of_mem _ a,b⟩
theorem idle_ex{E:Sg}{s:Sr}{w k dec:Nat}{T:List (Nat × Nat)}(hn:s.lr.Nodup)(hl:10<s.lr.length)(hok:CsOk (E.hv++s.lr) E.as w)(hT:∀ t∈T,Trk (E.hv++s.lr) E.as t.1 t.2)(hdone:s.done=tracks (E.hv++s.lr) E.as T)(hdec:decF (E.hv++s.lr) E.as w (k+1)=some dec)(hpath:s.path=pathF (E.hv++s.lr) E.as w (k+1))(hcl:clashD (E.hv++s.lr) dec=true)(hno:clashD (E.hv++s.lr) E.as=false)(hdis:((T.map fun t=>t.1)++[w]).Pairwise fun a b=>a&&&b=0) :
  ∃ c∈s.lr,idleD E s c dec=true:=by
 generalize hcs:E.hv++s.lr=cs at *
 obtain⟨d,kn,h1,h2,h3,ed⟩:=decF_next hdec
 obtain⟨a1,_,_⟩:=decF_ok hok h1
 obtain⟨c1,_,c3⟩:=decF_ok hok hdec
 obtain⟨q,qw⟩:=kn_ok hok a1 h2
 obtain⟨j,ej,hj,_,hjw,hb,hp⟩:=nxt_spec q.top h3
 rw[ej] at ed
 obtain⟨R0,r1,r2,r3⟩:=trks_reasons T hT
 obtain⟨R1,s1,s2,s3⟩:=path_reasons hok k h1 h2
 have hlc:=push_none.1 (local_clash hok c1 c3 hno hcl)
 have hk0:SubN (dec&&&litsV w) (kn|||2^j):=by
  intro x hx
  rw[Nat.testBit_and,Bool.and_eq_true,ed,Nat.testBit_or,Bool.or_eq_true] at hx
  rw[Nat.testBit_or,Bool.or_eq_true]
  rcases hx with⟨hx | hx,hw'⟩
  ·exact .inl (q.sub x (by rw[Nat.testBit_and,hx,hw'];rfl))
  ·exact .inr hx
 have hk0t:=Nat.or_lt_two_pow q.top (pow20 hj)
 obtain⟨R2,t1,t2,t3⟩:=clash_reasons (lits_msk w) (m:=cvN w) (fun k hk ht=>size_cv hk ht) (fun c hc=>(mem_in.1 hc).2) _ (kn|||2^j) (Nat.le_refl _) (sub_pow qw hjw) (twin_add q.twin hp) (clash_mono (in_top hok.top _) hk0t (fun c hc=>hc) hk0 hlc)
 have hsz:=size_pow hj q.top hb
 have hsum:=sum_ten hdis
 rw[List.map_append,List.sum_append,List.map_map] at hsum
 simp only[List.map_cons,List.map_nil,List.sum_cons,List.sum_nil] at hsum
 have hT':(T.map fun t=>cvN t.1).sum=(T.map (cvN ∘ fun t=>t.1)).sum:=rfl
 have hlen:(R0++(R1++R2)).length≤10:=by
  simp only[List.length_append]
  omega
 have hex:∃ c∈s.lr,c ∉ R0++(R1++R2):=by
  apply Classical.byContradiction
  intro hne
  have:=nodup_le s.lr (R0++(R1++R2)) hn (fun x hx=>by
   apply Classical.byContradiction
   intro hx'
   exact hne ⟨x,hx,hx'⟩)
  omega
 obtain⟨c,hc,hcR⟩:=hex
 refine⟨c,hc,?_⟩
 have hin:∀ x∈R0++(R1++R2),x∈cs:=fun x hx=>by
  rcases List.mem_append.1 hx with hx | hx
  ·exact r1 x hx
  ·rcases List.mem_append.1 hx with hx | hx
   ·exact(mem_in.1 (s1 x hx)).1
   ·exact(mem_in.1 (t1 x hx)).1
 have hR:∀ x∈R0++(R1++R2),x∈E.hv++s.lr.erase c:=fun x hx=>by
  have hne:x≠c:=fun e=>hcR (by rw[← e];exact hx)
  have:=hin x hx
  rw[← hcs] at this
  rcases List.mem_append.1 this with q | q
  ·exact List.mem_append_left _ q
  ·exact List.mem_append_right _ ((List.mem_erase_of_ne hne).2 q)
 have hsub:∀ x∈E.hv++s.lr.erase c,x∈cs:=fun x hx=>by
  rw[← hcs]
  rcases List.mem_append.1 hx with q | q
  ·exact List.mem_append_left _ q
  ·exact List.mem_append_right _ (List.mem_of_mem_erase q)
 have E1:Enough (R0++(R1++R2)) (pathF cs E.as w (k+1)):=s3.sub fun x hx=>List.mem_append_right _ (List.mem_append_left _ hx)
 unfold idleD
 rw[Bool.and_eq_true,Bool.and_eq_true]
 refine⟨⟨?_,?_⟩,?_⟩
 ·cases hbb:clashD (E.hv++s.lr.erase c) dec with
  | true=>rfl
  | false =>
   exfalso
   obtain⟨K,_,b2,b3,b4⟩:=clash_false _ (fun x hx=>hok.top x (hsub x hx)) dec c1 hbb
   have hkn:=E1 ⟨d,w,kn⟩ (path_mem h1 h2 (by omega)) K (b4.sub hR) (by
    refine SubN.trans (sub_and _ _) (SubN.trans ?_ b2)
    rw[ed];exact SubN.or_left _ _)
   have:=clash_stay (cs:=R2) (b4.sub fun x hx=>hR x (List.mem_append_right _ (List.mem_append_right _ hx))) b3 (sub_pow hkn (b2 j (by rw[ed];exact pow_bit d j)))
   rw[this] at t3
   simp at t3
 ·rw[hpath]
  exact reps_yes hok hno hsub hR E1
 ·rw[hdone]
  have E0:Enough (R0++(R1++R2)) (tracks cs E.as T):=r3.sub fun x hx=>List.mem_append_left _ hx
  clear hdone r3 hdis hsum hT' r2
  generalize R0++(R1++R2)=R at *
  induction T with
  | nil=>rfl
  | cons t T ih =>
   simp only[tracks,List.flatMap_cons] at E0 ⊢
   rw[reps_app,Bool.and_eq_true]
   refine⟨reps_yes (hT t (List.mem_cons_self ..)).ok hno hsub hR (fun p hp=>E0 p (List.mem_append_left _ hp)),ih (fun x hx=>hT x (List.mem_cons_of_mem _ hx)) (fun p hp=>E0 p (List.mem_append_right _ hp))⟩
theorem drop_pot{cs cs':List Nat}{A w k dec:Nat}(h:CsOk cs A w)(hs:∀ c∈cs',c∈cs)(hk:decF cs A w (k+1)=some dec)(hno:clashD cs A=false)(hcl':clashD cs' dec=true)(hr:repsD cs' (pathF cs A w (k+1))=true):decF cs' A w (k+1)=some dec∧potF cs' A w 12=potF cs A w 12∧pathF cs' A w (k+1)=pathF cs A w (k+1)∧∀ i d kn,i≤k→decF cs A w i=some d→lpush cs (litsV w) d=some kn→lpush cs' (litsV w) d=some kn:=by
 obtain⟨d,kn,h1,h2,h3,ed⟩:=decF_next hk
 obtain⟨t1,t2⟩:=(Trk.mk h ⟨d,kn,h1,h2⟩).keep hs hr
 have hl:=reps_lpush h hs hr
 have hsame:∀ j d',j<k+1→decF cs A w j=some d'→lpush cs' (litsV w) d'=lpush cs (litsV w) d':=by
  intro j d' hj hd'
  obtain⟨d1,hd1⟩:=decF_le hk (by omega:j+1≤k+1)
  obtain⟨d0,kn',b1,b2,_,_⟩:=decF_next hd1
  rw[hd'] at b1
  simp only[Option.some.injEq] at b1
  subst b1
  rw[b2,hl j d' kn' hj hd' b2]
 have hdk:=dec_same hsame (k+1) (Nat.le_refl _)
 rw[hk] at hdk
 refine⟨hdk,?_,t2,fun i d' kn' hi a b=>hl i d' kn' (by omega) a b⟩
 have h':=h.sub hs
 obtain⟨c1,_,c3⟩:=decF_ok h hk
 have hno':=clash_anti h.top h.asm hs (SubN.refl A) hno
 have hcl:=clash_mono h.top c1 hs (SubN.refl dec) hcl'
 have n1:=local_clash h c1 c3 hno hcl
 have n2:=local_clash h' c1 c3 hno' hcl'
 refine pot_same 12 fun i _=>?_
 unfold dgF
 by_cases hi:i≤k
 ·rw[dec_same hsame i (by omega)]
  cases hd':decF cs A w i with
  | none=>rfl
  | some d'=>simp only;rw[hsame i d' (by omega) hd']
 ·by_cases e:i=k+1
  ·subst e
   rw[hk,hdk]
   simp only
   rw[n1,n2]
  ·have z:∀ (cs:List Nat),decF cs A w (k+1)=some dec→lpush cs (litsV w) dec=none→decF cs A w i=none:=by
    intro cs hd hn
    cases hz:decF cs A w i with
    | none=>rfl
    | some x =>
     obtain⟨d1,hd1⟩:=decF_le hz (by omega:k+1+1≤i)
     obtain⟨d0,kn',b1,b2,_,_⟩:=decF_next hd1
     rw[hd] at b1
     simp only[Option.some.injEq] at b1
     subst b1
     rw[hn] at b2
     simp at b2
   rw[z cs hk n1,z cs' hdk n2]
def bA(l:List UInt8):ByteArray:=⟨l.toArray⟩
theorem bs_bA(l:List UInt8):bs (bA l)=l:=by simp[bs,bA]
theorem bA_size(l:List UInt8):(bA l).size=l.length:=size_arr l
def litsN(cs:List Nat):Nat:=(cs.map sizeN).sum
theorem litsN_snoc(cs:List Nat)(c:Nat):litsN (cs++[c])=litsN cs+sizeN c:=by simp[litsN]
def Tk.takes?(k:Tk):Bool:=match k with | .takes=>true | _=>false
structure Vw where
 r:Int
 h:Int
 l:Int
 hv:List Nat
 seen:Nat
 lr:List Nat
 log:Nat
 unsat:Nat
 pf:List UInt8
structure VwOk(v:Vw):Prop where
 hvt:∀ c∈v.hv,c<1048576
 lrt:∀ c∈v.lr,c<1048576
 seen:v.seen<1048576
 lits:litsN v.hv≤150
 held:litsN v.lr≤1048576
 log:v.log≤1048576
 unsat:v.unsat≤1048576
 lrl:v.lr.length≤1048576
 pfl:v.pf.length≤4194304
 few:v.lr.Nodup∧∀ c∈v.lr,twinB c=false∧SubN (varsN c) v.seen
 sum:v.r=0→v.log≤litsN v.lr+v.lr.length+21*v.unsat
def Vw.none(r h l:Int):Vw:=⟨r,h,l,[],0,[],0,0,[]⟩
def Vw.add(v:Vw)(xs:List Int):Vw:=if (takenK xs (litsN v.hv)).takes? then { v with hv:=v.hv++[setN xs],seen:=v.seen|||varsN (setN xs) } else v
def Vw.se(v:Vw)(st:Nat):SE:=⟨0,0,0,v.r,v.h,v.l,.slice .none 0 0,.none,0,v.hv,litsN v.hv,v.seen,.none,0,v.lr,litsN v.lr,v.log,v.unsat,bA v.pf,st⟩
structure SolveOk(v:Vw)(xs:List Int)(b:Int)(v':Vw)(x:Ans)(ls:List Lin)(st:Nat):Prop where
 r:v'.r=v.r
 h:v'.h=v.h
 l:v'.l=v.l
 hv:v'.hv=v.hv
 seen:v'.seen=v.seen|||varsN (setOk xs)
 pf:v'.pf=v.pf++linesT ls
 ok:linesOk v.r v.h v.l v.hv ⟨v.lr,litsN v.lr,v.log,0⟩ ls
 to:linesTo ⟨v.lr,litsN v.lr,v.log,0⟩ ls=⟨v'.lr,litsN v'.lr,v'.log,st⟩
 bud:(b == 0 || decide ((st:Int)≤b))=true
 len:x.vs.length≤1000∧x.co.length≤1000∧x.cl.length≤1000∧(lastOf ls).length≤1000
 how:(x.st=1∧closedOf ls=false∧v'.unsat=v.unsat∧∃ u,SatOk v.hv v'.seen (setOk xs) x u)∨(x.st=2∧closedOf ls=true∧v'.unsat=v.unsat+1∧UnsatOk v.hv x xs (lastOf ls))∨(x.st=3∧closedOf ls=false∧v'.unsat=v.unsat∧UnknownOk (v'.se st) x b)
structure AnsOwn(w:World)(B:Nat)(x:Ans)(p:A3):Prop where
 vs:w.ownsRow B 3 1 (.slice p.a1 x.vs.length p.c1) x.vs.length (i64s x.vs)
 co:w.ownsRow B 3 1 (.slice p.a2 x.co.length p.c2) x.co.length (i64s x.co)
 cl:w.ownsRow B 3 1 (.slice p.a3 x.cl.length p.c3) x.cl.length (i64s x.cl)
 p12:Apart (.slice p.a1 x.vs.length p.c1) (.slice p.a2 x.co.length p.c2)
 p13:Apart (.slice p.a1 x.vs.length p.c1) (.slice p.a3 x.cl.length p.c3)
 p23:Apart (.slice p.a2 x.co.length p.c2) (.slice p.a3 x.cl.length p.c3)
def A3.At(p:A3)(b:Nat):Prop:=(Value.slice p.a1 0 p.c1).ownBlock=some b∨(Value.slice p.a2 0 p.c2).ownBlock=some b∨(Value.slice p.a3 0 p.c3).ownBlock=some b
def ansNone:Ans:=⟨0,0,[],[],[]⟩
def a3None:A3:=⟨none,none,none,0,0,0⟩
def Nxs{S:Type}(At:World→Nat→S→(Nat→Prop)→Prop)(F:Nat→Prop)(w w':World)(g:Nat)(s:S)(Q:(Nat→Prop)→Prop):Prop :=
 ∃ F',At w' g s F'∧Chn F w w'∧(∀ b,F' b→F b∨w.heap.size≤b)∧Q F'
structure Prg where
 S:Type
 vw:S→Vw
 Ok:S→Prop
 At:World→Nat→S→(Nat→Prop)→Prop
 frame:∀ {w w':World} {g:Nat} {s:S} {F:Nat→Prop},At w g s F→(∀ b,F b→w'.heap[b]?=w.heap[b]?)→At w' g s F
 lt:∀ {w:World} {g:Nat} {s:S} {F:Nat→Prop},At w g s F→∀ b,F b→b<w.heap.size
 bd:∀ {s:S},Ok s→VwOk (vw s)
 new:Int→Int→Int→S
 newV:∀ r h l,settingsB r h l=true→Ok (new r h l)∧vw (new r h l)=Vw.none r h l
 newC:∀ (r h l:Int) (w:World),Calls Tryd.prog 28 #[.agg #[.int .i64 r,.int .i64 h,.int .i64 l]] w fun e w'=>Below w.heap.size w w'∧if settingsB r h l then ∃ g F,e=.returned (.tuple #[.pointer (some ⟨g,0,none⟩),.int .i64 0])∧At w' g (new r h l) F∧∀ b,F b→w.heap.size≤b else e=.returned (.tuple #[.pointer none,.int .i64 1])
 add:S→List Int→S
 addV:∀ s xs,Ok s→Ok (add s xs)∧vw (add s xs)=(vw s).add xs
 addN:∀ s xs,(takenK xs (litsN (vw s).hv)).takes?=false→add s xs=s
 addC:∀ {w:World} {g:Nat} {s:S} {F:Nat→Prop} (a:Option Addr) (c:Nat) (xs:List Int),At w g s F→Ok s→IntsAt w a xs→(∀ ad,a=some ad→¬ F ad.block)→xs.length≤100000→(vw s).hv.length≤1000000 →
  Calls Tryd.prog 23 #[.pointer (some ⟨g,0,none⟩),.slice a xs.length c] w fun e w'=>e=.returned (.int .i64 (errOf (takenK xs (litsN (vw s).hv))))∧Nxs At F w w' g (add s xs) fun _=>True
 addE:∀ {w:World} {g:Nat} {s:S} {F:Nat→Prop} (a:Option Addr) (c:Nat) (xs:List Int),At w g s F→IntsAt w a xs→xs.length≤9223372036854775807→xs.all litB=false →
  Calls Tryd.prog 23 #[.pointer (some ⟨g,0,none⟩),.slice a xs.length c] w fun e w'=>e=.returned (.int .i64 4)∧Below w.heap.size w w'
 countsC:∀ {w:World} {g:Nat} {s:S} {F:Nat→Prop},At w g s F→Ok s→(vw s).hv.length≤1000000 →
  Calls Tryd.prog 21 #[.pointer (some ⟨g,0,none⟩)] w fun e w'=>e=.returned (.agg #[.int .i64 (sizeN (vw s).seen:Nat),.int .i64 ((vw s).hv.length:Nat),.int .i64 (litsN (vw s).hv:Nat),.int .i64 ((vw s).lr.length:Nat),.int .i64 (litsN (vw s).lr:Nat),.int .i64 ((vw s).log:Nat),.int .i64 ((vw s).unsat:Nat)])∧Below w.heap.size w w'
 proofC:∀ {w:World} {g:Nat} {s:S} {F:Nat→Prop},At w g s F→Ok s→Calls Tryd.prog 14 #[.pointer (some ⟨g,0,none⟩)] w fun e w'=>e=.returned (.string (bA (vw s).pf))∧Below w.heap.size w w'
 rst:S→S
 rstV:∀ s,Ok s→Ok (rst s)∧vw (rst s)=Vw.none (vw s).r (vw s).h (vw s).l
 rstC:∀ {w:World} {g:Nat} {s:S} {F:Nat→Prop},At w g s F→Ok s→Calls Tryd.prog 24 #[.pointer (some ⟨g,0,none⟩)] w fun e w'=>e=.returned (.tuple #[])∧Nxs At F w w' g (rst s) fun _=>True
 rstE:∀ s,Ok s→rst s=new (vw s).r (vw s).h (vw s).l
 slv:S→List Int→Int→S
 ans:S→List Int→Int→Ans
 slvN:∀ s xs b,askedD xs b≠0→slv s xs b=s∧ans s xs b=ansNone
 slvV:∀ s xs b,Ok s→askedD xs b=0→Ok (slv s xs b)∧∃ ls st,SolveOk (vw s) xs b (vw (slv s xs b)) (ans s xs b) ls st
 slvC:∀ {w:World} {g:Nat} {s:S} {F:Nat→Prop} (a:Option Addr) (c:Nat) (xs:List Int) (b:Int),At w g s F→Ok s→Tab w→0<w.heap.size→¬ F 0→IntsAt w a xs→(∀ ad,a=some ad→¬ F ad.block∧ad.block<w.heap.size)→xs.length≤100000→(vw s).hv.length≤1000000 →
  Calls Tryd.prog 13 #[.pointer (some ⟨g,0,none⟩),.slice a xs.length c,.int .i64 b] w fun e w'=>∃ p:A3,e=.returned (.tuple #[.agg #[.int .i64 (ans s xs b).st,.int .i64 (ans s xs b).re,.slice p.a1 (ans s xs b).vs.length p.c1,.slice p.a2 (ans s xs b).co.length p.c2,.slice p.a3 (ans s xs b).cl.length p.c3],.int .i64 (askedD xs b)]) ∧
   AnsOwn w' w.heap.size (ans s xs b) p∧(askedD xs b≠0→p=a3None)∧Nxs At F w w' g (slv s xs b) fun F'=>∀ k,p.At k→¬ F' k
 slvE:∀ {w:World} {g:Nat} {s:S} {F:Nat→Prop} (a:Option Addr) (c:Nat) (xs:List Int) (b:Int),At w g s F→IntsAt w a xs→xs.length≤9223372036854775807→askedD xs b≠0 →
  Calls Tryd.prog 13 #[.pointer (some ⟨g,0,none⟩),.slice a xs.length c,.int .i64 b] w fun e w'=>e=.returned (.tuple #[.agg #[.int .i64 0,.int .i64 0,.slice none 0 0,.slice none 0 0,.slice none 0 0],.int .i64 (askedD xs b)])∧Below w.heap.size w w'
theorem Prg.below(P:Prg){w w':World}{g:Nat}{s:P.S}{F:Nat→Prop}(h:P.At w g s F)(hb:Below w.heap.size w w'):P.At w' g s F:=P.frame h (fun b hq=>hb.block b (P.lt h b hq))
end Go.Proofs.YthboeppmlhbofabDoor
