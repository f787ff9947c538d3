import Derived.Test.YthboeppmlhbofabDoorAdf
import Derived.Test.YthboeppmlhbofabDoorPrg
import Derived.Test.YthboeppmlhbofabDoorMoo
import Derived.Test.YthboeppmlhbofabDoorDca
namespace Go.Proofs.YthboeppmlhbofabDoor
open Go.RowKit Txt
set_option maxRecDepth 100000
def standN(ss:List Pr)(em:Nat):List Nd:=ss.foldl (fun ns p=>addN ns p.1 p.2 1) (addN [nd0] 0 0 em)
theorem wf_one:Wf [nd0]:=by
 intro j hj
 have:j=0:=by simp at hj;omega
 subst this
 exact⟨by decide,by decide,by decide,by decide⟩
theorem cb_one:CB [nd0] 0:=by
 intro j
 cases j with
 | zero=>exact Nat.le_refl _
 | succ j=>exact Nat.le_refl _
theorem stand_wf(ss:List Pr)(em:Nat):Wf (standN ss em)∧0<(standN ss em).length∧CB (standN ss em) (em+ss.length)∧(standN ss em).length≤11+10*ss.length:=by
 have key:∀ (l:List Pr) (ns:List Nd) (M:Nat),Wf ns→0<ns.length→CB ns M→Wf (l.foldl (fun ns p=>addN ns p.1 p.2 1) ns)∧0<(l.foldl (fun ns p=>addN ns p.1 p.2 1) ns).length∧CB (l.foldl (fun ns p=>addN ns p.1 p.2 1) ns) (M+l.length)∧(l.foldl (fun ns p=>addN ns p.1 p.2 1) ns).length≤ns.length+10*l.length:=by
  intro l
  induction l with
  | nil=>intro ns M h1 h2 h3;exact⟨h1,h2,h3,by simp⟩
  | cons p l ih =>
   intro ns M h1 h2 h3
   obtain⟨a1,a2,a3⟩:=addN_wf h1 h2 p.1 p.2 1
   obtain⟨b1,b2,b3,b4⟩:=ih (addN ns p.1 p.2 1) (M+1) a1 a3 (addN_cb h3 h1 h2 _ _ _)
   refine⟨b1,b2,?_,?_⟩
   ·intro j
    have:=b3 j
    simp only[List.foldl_cons,List.length_cons]
    omega
   ·simp only[List.foldl_cons,List.length_cons]
    omega
 obtain⟨a1,a2,a3⟩:=addN_wf wf_one (by decide) 0 0 em
 obtain⟨b1,b2,b3,b4⟩:=key ss (addN [nd0] 0 0 em) (0+em) a1 a3 (addN_cb cb_one wf_one (by decide) _ _ _)
 refine⟨b1,b2,fun j=>?_,?_⟩
 ·have:=b3 j
  simp only[standN]
  omega
 ·simp only[standN]
  simp only[List.length_cons,List.length_nil] at a2
  omega
theorem stand_take(ss:List Pr)(em k:Nat)(h:k<ss.length):standN (ss.take (k+1)) em=addN (standN (ss.take k) em) (ss.getD k (0,0)).1 (ss.getD k (0,0)).2 1:=by
 rw[List.take_succ_eq_append_getElem h]
 simp only[standN,List.foldl_append,List.foldl_cons,List.foldl_nil]
 rw[List.getD_eq_getElem?_getD,List.getElem?_eq_getElem h]
 rfl
theorem u_nS:(103:Nat)≠68:=by decide
theorem u_SC:(68:Nat)≠106:=by decide
theorem u_sC:(84:Nat)≠106:=by decide
set_option maxHeartbeats 8000000 in
theorem standing_any(w:World)(B g:Nat)(ss:List Pr)(em:Nat)(ta:Option Addr)(tc se:Nat)(h:SvI w B g ss em ta tc se)(hT:Tak ss)(hB:B≤w.heap.size)(hem:em≤9223372036854775000) :
  Calls Tryd.prog 32 #[.pointer (some ⟨g,0,none⟩)] w fun e w'=>∃ cb na nc,e=.returned (.pointer (some ⟨cb,0,none⟩))∧TreeI w' B cb na nc (standN ss em)∧Below B w w':=by
 have h1:=hT.one
 have h2:=hT.all
 have HN:=hide (newC_any B w hB)
 have H:=hide h
 have HT:=hide hT
 clear h hT
 go_enter Tryd.func32,Tryd.ntmps32
 go_wp2_with fail
 refine(unhide HN).mono ?_
 rintro e w1 ⟨cb,na,nc,rfl,ht1,hb1,hcb⟩
 have T1:=hide ht1
 have S1:=hide (H.out.below hb1)
 have B1:=hide (hb1.mono hB)
 have hz1:w.heap.size≤w1.heap.size:=hb1.size
 have c4:w1.cell? ⟨g,4,none⟩=some (.int .i64 em):=(S1.out.row.cell 4).trans rfl
 have HA:=hide (addC_any w1 B cb na nc [nd0] ht1 wf_one 0 cb_one 0 0 em (by decide) (by decide) (by omega) (by decide) (by omega))
 clear ht1 hb1 HN
 go_wp2_with fail
 refine(unhide HA).mono ?_
 rintro e w2 ⟨rfl,na2,nc2,hn2⟩
 have T2:=hide hn2.t
 have B2:Hid (Below B w w2):=B1.out.trans (tree_below T1.out hn2 (by omega))
 have R2:=hide (hn2.kept.row T1.out S1.out.row u_nS u_SC)
 have O2:=hide (hn2.kept.own T1.out S1.out.own u_ns u_sC)
 have c3:w2.cell? ⟨g,3,none⟩=some (.slice ta ss.length tc):=(R2.out.cell 3).trans rfl
 clear hn2 HA c4
 go_wp2_with fail
 go_loopw [21] (fun i wr=>∃ (k:Nat) (na1:Option Addr) (nc1:Nat),k≤ss.length∧i=.int .i64 k∧Hid (TreeI wr B cb na1 nc1 (standN (ss.take k) em))∧Hid (wr.ownsRow B 84 2 (.slice ta ss.length tc) ss.length (prCells ss))∧Hid (Row wr g 68 (solCells 0 0 0 ta ss.length tc em se))∧Hid (Below B w wr)) (fun i _=>ss.length - (intOf i).toNat)
 case atStart=>exact⟨0,na2,nc2,Nat.zero_le _,rfl,T2,O2,R2,B2⟩
 case round =>
  clear T2 O2 B2 R2 c3
  obtain⟨k,na1,nc1,hk,rfl,T,O,RS,BB⟩:=hrel
  have hzr:B≤wr.heap.size:=Nat.le_trans hB BB.out.size
  by_cases hlt:k<ss.length
  ·obtain⟨b,off,rfl,hc⟩:=(sets_own O.out).get (by omega)
   obtain⟨q0,q1⟩:=hc k hlt
   have hmem:ss.getD k (0,0)∈ss:=by rw[List.getD_eq_getElem?_getD,List.getElem?_eq_getElem hlt];exact List.getElem_mem hlt
   obtain⟨p1,p2⟩:=HT.out.bd _ hmem
   have HE:=hide (stand_take ss em k hlt)
   obtain⟨w1',w2',w3',w4'⟩:=stand_wf (ss.take k) em
   have hlk:(ss.take k).length=k:=by rw[List.length_take];omega
   rw[hlk] at w3' w4'
   generalize ss.getD k (0,0)=pr at *
   obtain⟨t,f⟩:=pr
   simp only at q0 q1 p1 p2 HE
   have i1:(0:Int)≤(k:Int):=by omega
   have i2:(k:Int)<(ss.length:Int):=by omega
   have hbA:Below wr.heap.size wr (wr.alloc (.cells #[.int .i64 t,.int .i64 f] 84)):=(Below.refl _ _).alloc (Nat.le_refl _) _
   have TA:=hide (T.out.below hbA)
   have OA:=hide (own_below O.out hbA)
   have SA:=hide (row_below RS.out hbA)
   have HA:=hide (addC_any _ B cb na1 nc1 (standN (ss.take k) em) TA.out w1' (em+k) w3' t f 1 p1 p2 (by simp;omega) (by omega) (by omega))
   have BA:Hid (Below B w (wr.alloc (.cells #[.int .i64 t,.int .i64 f] 84))):=BB.out.trans (hbA.mono hzr)
   clear hc hbA w1' w2' w3' w4' hmem
   go_wp2_with fail
   refine(unhide HA).mono ?_
   generalize wr.alloc (.cells #[.int .i64 t,.int .i64 f] 84)=wA at *
   rintro e w4 ⟨rfl,na4,nc4,hn4⟩
   have T4:Hid (TreeI w4 B cb na4 nc4 (standN (ss.take (k+1)) em)):=by rw[HE.out];exact hn4.t
   have O4:=hide (hn4.kept.own TA.out OA.out u_ns u_sC)
   have S4:=hide (hn4.kept.row TA.out SA.out u_nS u_SC)
   have hzA:B≤wA.heap.size:=Nat.le_trans hB BA.out.size
   have B4:Hid (Below B w w4):=BA.out.trans (tree_below TA.out hn4 hzA)
   clear hn4 HA
   go_wp2
   go_roundw
   case rel=>exact⟨k+1,na4,nc4,by omega,by go_num,T4,O4,S4,B4⟩
   case measure=>simp[intOf];omega
  ·obtain rfl:k=ss.length:=by omega
   rw[List.take_length] at T
   have c6:wr.cell? ⟨g,6,none⟩=some (.slice none 0 0):=(RS.out.cell 6).trans rfl
   have c7:wr.cell? ⟨g,7,none⟩=some (.slice none 0 0):=(RS.out.cell 7).trans rfl
   have HT:=T
   have HBB:=BB
   clear T BB
   go_wp2_with fail
   go_loopw [34] (fun i wq=>i=.int .i64 0∧wq=wr) (fun _ _=>0)
   case atStart=>exact⟨rfl,rfl⟩
   case round =>
    obtain⟨rfl,rfl⟩:=hrel
    go_wp2
    go_ret
    exact⟨cb,na1,nc1,rfl,HT.out,HBB.out⟩
def takeN:List (List Int)→List Pr→Nat→Nat→(Int × Nat) ⊕ (List Pr × Nat)
 | [],ss,em,_=>.inr (ss,em)
 | c :: cs,ss,em,i=>match addR c ss em with
  | .err e=>.inl (e,i)
  | .ok ss' em'=>takeN cs ss' em' (i+1)
def checkN(cls:List (List Int))(l:List UInt8):List Int × Int × Nat :=
 if 4194304<l.length then ([],2,0) else match takeN cls [] 0 0 with
  | .inl (e,i)=>([],e,i)
  | .inr (ss,em)=>chkN l (l.length+1) (standN ss em) 0 0 0 []
theorem way_bits(t f:Nat){v:Nat}(h1:1≤v)(h2:v≤10):wayN t f ((v:Nat):Int)=(t.testBit v).toNat+2*(f.testBit v).toNat:=by
 unfold wayN
 rw[has_pos t f h1 h2,has_neg t f h1 h2]
theorem Inv.add{W:Nat→Bool}{ns:List Nd}(hI:Inv W ns)(h:Tre ns){t f c:Nat}(hs:satW W 1 (ways t f 1 10)):Inv W (addN ns t f c):=by
 intro ws hl h4 hne
 by_cases e:ws=ways t f 1 10
 ·rw[e];exact hs
 ·rw[(h.add t f c).2 ws h4 e] at hne
  exact hI ws hl h4 hne
theorem tre_one:Tre [nd0]:=⟨wf_one,by decide,fun _=>[],rfl,fun a ha k hk hne=>by
 have:a=0:=by simp at ha;omega
 subst this
 exfalso
 apply hne
 have h4:k=0∨k=1∨k=2∨k=3:=by omega
 rcases h4 with rfl|rfl|rfl|rfl <;> rfl⟩
def offU(t f kt kf u:Nat):Prop:=(t.testBit u=false∧f.testBit u=false)∨(t.testBit u=true∧f.testBit u=false∧kf.testBit u=true)∨(t.testBit u=false∧f.testBit u=true∧kt.testBit u=true)
def opnU(t f kt kf u:Nat)(x:Int):Prop:=((t.testBit u=true∧f.testBit u=false∧x=(u:Int))∨(t.testBit u=false∧f.testBit u=true∧x=-(u:Int)))∧kt.testBit u=false∧kf.testBit u=false
theorem off_way{t f kt kf v:Nat}(h1:1≤v)(h2:v≤10):(wayN t f (v:Int)=0∨offK kt kf v (wayN t f (v:Int)))↔offU t f kt kf v:=by
 rw[way_bits t f h1 h2]
 unfold offK offU
 cases t.testBit v <;> cases f.testBit v <;> simp
theorem allOff_ways(t f kt kf:Nat):∀ (m v:Nat),1≤v→v+m≤11→(allOff kt kf v (ways t f v m)↔∀ u,v≤u→u<v+m→offU t f kt kf u):=by
 intro m
 induction m with
 | zero=>intro v _ _;exact⟨fun _ u a b=>by omega,fun _=>trivial⟩
 | succ m ih =>
  intro v h1 h2
  simp only[ways,allOff]
  rw[ih (v+1) (by omega) (by omega),off_way h1 (by omega)]
  constructor
  ·rintro⟨a,b⟩ u hu hl
   by_cases e:u=v
   ·subst e;exact a
   ·exact b u (by omega) (by omega)
  ·intro h
   exact⟨h v (Nat.le_refl _) (by omega),fun u a b=>h u (by omega) (by omega)⟩
theorem opn_way{t f kt kf v:Nat}{x:Int}(h1:1≤v)(h2:v≤10):(((wayN t f (v:Int)=1∧x=(v:Int))∨(wayN t f (v:Int)=2∧x=-(v:Int)))∧¬ hasK kt kf v (wayN t f (v:Int))∧¬ offK kt kf v (wayN t f (v:Int)))↔opnU t f kt kf v x:=by
 rw[way_bits t f h1 h2]
 unfold offK hasK opnU
 cases t.testBit v <;> cases f.testBit v <;> cases kt.testBit v <;> cases kf.testBit v <;> simp
theorem oneOpen_ways(t f kt kf:Nat)(x:Int):∀ (m v:Nat),1≤v→v+m≤11→(oneOpen kt kf v (ways t f v m) x↔∃ u,v≤u∧u<v+m∧opnU t f kt kf u x∧∀ u',v≤u'→u'<v+m→u'≠u→offU t f kt kf u'):=by
 intro m
 induction m with
 | zero=>intro v _ _;exact⟨fun h=>h.elim,fun ⟨u,a,b,_⟩=>by omega⟩
 | succ m ih =>
  intro v h1 h2
  simp only[ways,oneOpen]
  rw[ih (v+1) (by omega) (by omega),off_way h1 (by omega),allOff_ways t f kt kf m (v+1) (by omega) (by omega)]
  constructor
  ·rintro(⟨a,u,b1,b2,b3,b4⟩ | ⟨a1,a2,a3,a4⟩)
   ·refine⟨u,by omega,by omega,b3,fun u' c1 c2 c3=>?_⟩
    by_cases e:u'=v
    ·subst e;exact a
    ·exact b4 u' (by omega) (by omega) c3
   ·exact⟨v,Nat.le_refl _,by omega,(opn_way h1 (by omega)).1 ⟨a1,a2,a3⟩,fun u' c1 c2 c3=>a4 u' (by omega) (by omega)⟩
  ·rintro⟨u,b1,b2,b3,b4⟩
   by_cases e:u=v
   ·subst e
    obtain⟨a1,a2,a3⟩:=(opn_way h1 (by omega)).2 b3
    exact .inr ⟨a1,a2,a3,fun u' c1 c2=>b4 u' (by omega) (by omega) (by omega)⟩
   ·exact .inl ⟨b4 v (Nat.le_refl _) (by omega) (fun h=>e h.symm),u,by omega,by omega,b3,fun u' c1 c2 c3=>b4 u' (by omega) (by omega) c3⟩
structure Bt(k kt kf:Nat):Prop where
 pos:∀ v,v<10→k.testBit (2*v)=kt.testBit (v+1)
 neg:∀ v,v<10→k.testBit (2*v+1)=kf.testBit (v+1)
 top:k<2^20
theorem Two.bt{s t f:Nat}(h:Two s t f):Bt s t f:=⟨h.pos,h.neg,h.top⟩
theorem bt_is(kt kf:Nat):∃ k,Bt k kt kf:=by
 obtain⟨k,h1,h2⟩:=bits_are (fun i=>if i % 2=0 then kt.testBit (i / 2+1) else kf.testBit (i / 2+1)) 20
 refine⟨k,fun v hv=>?_,fun v hv=>?_,h1⟩
 ·rw[h2 _ (by omega),if_pos (by omega),show 2*v / 2=v by omega]
 ·rw[h2 _ (by omega),if_neg (by omega),show(2*v+1) / 2=v by omega]
theorem two_is(k:Nat)(hk:k<2^20):∃ kt kf,Two k kt kf:=by
 obtain⟨t,t1,t2⟩:=bits_are (fun i=>if i=0 then false else k.testBit (2*(i - 1))) 11
 obtain⟨f,f1,f2⟩:=bits_are (fun i=>if i=0 then false else k.testBit (2*(i - 1)+1)) 11
 refine⟨t,f,fun v hv=>?_,fun v hv=>?_,hk,?_,?_,t1,f1⟩
 ·rw[t2 _ (by omega),if_neg (by omega),Nat.add_sub_cancel]
 ·rw[f2 _ (by omega),if_neg (by omega),Nat.add_sub_cancel]
 ·rw[t2 _ (by omega),if_pos rfl]
 ·rw[f2 _ (by omega),if_pos rfl]
theorem left_pos{s t f k kt kf:Nat}(h:Bt s t f)(hk:Bt k kt kf){v:Nat}(hv:v<10):(leftN s k).testBit (2*v)=(t.testBit (v+1) && !kf.testBit (v+1)):=by
 rw[left_bit,opp_bit_even k v hv,h.pos v hv,hk.neg v hv]
theorem left_neg{s t f k kt kf:Nat}(h:Bt s t f)(hk:Bt k kt kf){v:Nat}(hv:v<10):(leftN s k).testBit (2*v+1)=(f.testBit (v+1) && !kt.testBit (v+1)):=by
 rw[left_bit,opp_bit_odd k v hv,h.neg v hv,hk.pos v hv]
theorem left_top{s t f:Nat}(h:Bt s t f)(k:Nat):leftN s k<2^20:=Nat.lt_of_le_of_lt (left_le _ _) h.top
theorem bit_lt{n x i:Nat}(hx:x<2^n)(h:x.testBit i=true):i<n:=by
 apply Classical.byContradiction
 intro hge
 rw[Nat.testBit_lt_two_pow (Nat.lt_of_lt_of_le hx (Nat.pow_le_pow_right (by decide) (by omega)))] at h
 simp at h
theorem left_none{s t f k kt kf:Nat}(h:Bt s t f)(hk:Bt k kt kf)(ha:∀ u,1≤u→u<11→offU t f kt kf u):leftN s k=0:=by
 refine zero_of_bits (left_top h k) (fun v hv=>?_) (fun v hv=>?_)
 ·rw[left_pos h hk hv]
  rcases ha (v+1) (by omega) (by omega) with⟨a,b⟩ | ⟨a,b,c⟩ | ⟨a,b,c⟩
  ·rw[a];rfl
  ·rw[a,c];rfl
  ·rw[a];rfl
 ·rw[left_neg h hk hv]
  rcases ha (v+1) (by omega) (by omega) with⟨a,b⟩ | ⟨a,b,c⟩ | ⟨a,b,c⟩
  ·rw[b];rfl
  ·rw[b];rfl
  ·rw[b,c];rfl
theorem bo1:∀ a b c d:Bool,false=(a && !d)→false=(b && !c)→¬ (a=true∧b=true)→((a=false∧b=false)∨(a=true∧b=false∧d=true)∨(a=false∧b=true∧c=true)):=by decide
theorem bo2:∀ a b d:Bool,true=(a && !d)→¬ (a=true∧b=true)→a=true∧b=false∧d=false:=by decide
theorem bo3:∀ c d:Bool,false=!d→false=!c→¬ (c=true∧d=true)→False:=by decide
theorem bo4:∀ c d:Bool,c=true→¬ (c=true∧d=true)→d=false:=by decide
theorem bo5:∀ a b c d:Bool,((a=false∧b=false)∨(a=true∧b=false∧d=true)∨(a=false∧b=true∧c=true))→true=(a && !d)→False:=by decide
theorem bo6:∀ a b c d:Bool,((a=false∧b=false)∨(a=true∧b=false∧d=true)∨(a=false∧b=true∧c=true))→true=(b && !c)→False:=by decide
theorem nat_par(i:Nat):i=2*(i / 2)∨i=2*(i / 2)+1:=by omega
theorem ok_bits{s t f k kt kf:Nat}(h:Bt s t f)(hk:Bt k kt kf)(hd:∀ u,1≤u→u<11→¬ (kt.testBit u=true∧kf.testBit u=true))
  (ho:(∀ u,1≤u→u<11→¬ (t.testBit u=true∧f.testBit u=true))→(¬ ∀ u,1≤u→u<11→offU t f kt kf u)∧∀ x,¬ ∃ u,1≤u∧u<11∧opnU t f kt kf u x∧∀ u',1≤u'→u'<11→u'≠u→offU t f kt kf u') :
  leftN s k≠0∧(leftN s k&&&(leftN s k - 1)=0→SubN (leftN s k) k):=by
 by_cases hn:∀ u,1≤u→u<11→¬ (t.testBit u=true∧f.testBit u=true)
 ·obtain⟨o1,o2⟩:=ho hn
  have h0:leftN s k≠0:=fun e=>by
   apply o1
   intro u hu1 hu2
   have p:=left_pos h hk (v:=u - 1) (by omega)
   have q:=left_neg h hk (v:=u - 1) (by omega)
   rw[e,Nat.zero_testBit,show u - 1+1=u by omega] at p q
   exact bo1 _ _ _ _ p q (hn u hu1 hu2)
  refine⟨h0,fun hs i hi=>?_⟩
  obtain⟨j,hj⟩:=(one_bit _ h0).1 hs
  have e:j=i:=by rw[hj,Nat.testBit_two_pow] at hi;simpa using hi
  subst e
  have hj20:j<20:=bit_lt (left_top h k) hi
  apply Classical.byContradiction
  intro hkj
  have hkj':k.testBit j=false:=by simpa using hkj
  have oth:∀ i,i≠j→(leftN s k).testBit i=false:=fun i hne=>by rw[hj,Nat.testBit_two_pow];simp;omega
  have off:∀ u,1≤u→u<11→u≠j / 2+1→offU t f kt kf u:=by
   intro u h1 h2 h3
   have p:=left_pos h hk (v:=u - 1) (by omega)
   have q:=left_neg h hk (v:=u - 1) (by omega)
   rw[oth _ (by omega),show u - 1+1=u by omega] at p q
   exact bo1 _ _ _ _ p q (hn u h1 h2)
  have hnu:=hn (j / 2+1) (by omega) (by omega)
  rcases nat_par j with e | e
  ·have p:=left_pos h hk (v:=j / 2) (by omega)
   rw[← e,hi] at p
   have z:=hk.pos (j / 2) (by omega)
   rw[← e,hkj'] at z
   obtain⟨b1,b2,b3⟩:=bo2 _ _ _ p hnu
   exact o2 ((j / 2+1:Nat):Int) ⟨j / 2+1,by omega,by omega,⟨.inl ⟨b1,b2,rfl⟩,z.symm,b3⟩,off⟩
  ·have p:=left_neg h hk (v:=j / 2) (by omega)
   rw[← e,hi] at p
   have z:=hk.neg (j / 2) (by omega)
   rw[← e,hkj'] at z
   obtain⟨b1,b2,b3⟩:=bo2 _ _ _ p (fun q=>hnu ⟨q.2,q.1⟩)
   exact o2 (-((j / 2+1:Nat):Int)) ⟨j / 2+1,by omega,by omega,⟨.inr ⟨b2,b1,rfl⟩,b3,z.symm⟩,off⟩
 ·have:∃ u,1≤u∧u<11∧t.testBit u=true∧f.testBit u=true:=by
   apply Classical.byContradiction
   intro hc
   exact hn fun u a b c=>hc ⟨u,a,b,c.1,c.2⟩
  obtain⟨u,u1,u2,ut,uf⟩:=this
  have p:=left_pos h hk (v:=u - 1) (by omega)
  have q:=left_neg h hk (v:=u - 1) (by omega)
  have z1:=hk.pos (u - 1) (by omega)
  have z2:=hk.neg (u - 1) (by omega)
  rw[show u - 1+1=u by omega] at p q z1 z2
  rw[ut,Bool.true_and] at p
  rw[uf,Bool.true_and] at q
  have hdu:=hd u u1 u2
  have h0:leftN s k≠0:=fun e=>by
   rw[e,Nat.zero_testBit] at p q
   exact bo3 _ _ p q hdu
  refine⟨h0,fun hs i hi=>?_⟩
  obtain⟨j,hj⟩:=(one_bit _ h0).1 hs
  have e:j=i:=by rw[hj,Nat.testBit_two_pow] at hi;simpa using hi
  subst e
  rw[hj,Nat.testBit_two_pow] at p q
  cases c:kt.testBit u with
  | true =>
   have d:kf.testBit u=false:=bo4 _ _ c hdu
   rw[d] at p
   have e:j=2*(u - 1):=by simpa using p
   rw[e,z1,c]
  | false =>
   rw[c] at q
   have e:j=2*(u - 1)+1:=by simpa using q
   rw[e,z2]
   cases d:kf.testBit u with
   | true=>rfl
   | false =>
    rw[d] at p
    have e':j=2*(u - 1):=by simpa using p
    omega
theorem bits_ok{s t f k kt kf:Nat}(h:Bt s t f)(hk:Bt k kt kf)(ho:leftN s k≠0∧(leftN s k&&&(leftN s k - 1)=0→SubN (leftN s k) k)) :
  (¬ ∀ u,1≤u→u<11→offU t f kt kf u)∧∀ x,¬ ∃ u,1≤u∧u<11∧opnU t f kt kf u x∧∀ u',1≤u'→u'<11→u'≠u→offU t f kt kf u':=by
 refine⟨fun ha=>ho.1 (left_none h hk ha),?_⟩
 rintro x ⟨u,u1,u2,⟨hx,ktf,kff⟩,off⟩
 have oth:∀ i,i / 2+1≠u→(leftN s k).testBit i=false:=by
  intro i hi
  cases hb:(leftN s k).testBit i with
  | false=>rfl
  | true =>
   have h20:=bit_lt (left_top h k) hb
   have hof:=off (i / 2+1) (by omega) (by omega) hi
   rcases nat_par i with e | e
   ·have p:=left_pos h hk (v:=i / 2) (by omega)
    rw[← e,hb] at p
    exact(bo5 _ _ _ _ hof p).elim
   ·have p:=left_neg h hk (v:=i / 2) (by omega)
    rw[← e,hb] at p
    exact(bo6 _ _ _ _ hof p).elim
 have p:=left_pos h hk (v:=u - 1) (by omega)
 have q:=left_neg h hk (v:=u - 1) (by omega)
 have z1:=hk.pos (u - 1) (by omega)
 have z2:=hk.neg (u - 1) (by omega)
 rw[show u - 1+1=u by omega] at p q z1 z2
 rw[kff] at p z2
 rw[ktf] at q z1
 rcases hx with⟨a,b,_⟩ | ⟨a,b,_⟩
 ·rw[a] at p
  rw[b] at q
  have e:leftN s k=2^(2*(u - 1)):=by
   apply Nat.eq_of_testBit_eq
   intro i
   rw[Nat.testBit_two_pow]
   by_cases e1:i / 2+1=u
   ·rcases nat_par i with e | e
    ·have:i=2*(u - 1):=by omega
     rw[this,p];simp
    ·have:i=2*(u - 1)+1:=by omega
     rw[this,q];simp
   ·rw[oth i e1];symm;simp;omega
  have:=ho.2 ((one_bit _ ho.1).2 ⟨_,e⟩) (2*(u - 1)) (by rw[p];rfl)
  rw[z1] at this
  simp at this
 ·rw[a] at p
  rw[b] at q
  have e:leftN s k=2^(2*(u - 1)+1):=by
   apply Nat.eq_of_testBit_eq
   intro i
   rw[Nat.testBit_two_pow]
   by_cases e1:i / 2+1=u
   ·rcases nat_par i with e | e
    ·have:i=2*(u - 1):=by omega
     rw[this,p];simp
    ·have:i=2*(u - 1)+1:=by omega
     rw[this,q];simp
   ·rw[oth i e1];symm;simp;omega
  have:=ho.2 ((one_bit _ ho.1).2 ⟨_,e⟩) (2*(u - 1)+1) (by rw[q];rfl)
  rw[z2] at this
  simp at this
theorem ways_is(ws:List Nat)(hl:ws.length=10)(h4:∀ k∈ws,k<4):∃ t f,t<2^11∧f<2^11∧t.testBit 0=false∧f.testBit 0=false∧ways t f 1 10=ws:=by
 obtain⟨t,t1,t2⟩:=bits_are (fun i=>if i=0 then false else decide ((ws.getD (i - 1) 0) % 2=1)) 11
 obtain⟨f,f1,f2⟩:=bits_are (fun i=>if i=0 then false else decide (2≤(ws.getD (i - 1) 0))) 11
 refine⟨t,f,t1,f1,by rw[t2 _ (by omega),if_pos rfl],by rw[f2 _ (by omega),if_pos rfl],?_⟩
 have key:∀ (m v:Nat) (l:List Nat),1≤v→v+m=11→l=ws.drop (v - 1)→ways t f v m=l:=by
  intro m
  induction m with
  | zero =>
   intro v l h1 h2 e
   have:ws.drop (v - 1)=[]:=List.drop_eq_nil_of_le (by omega)
   rw[e,this];rfl
  | succ m ih =>
   intro v l h1 h2 e
   have hlt:v - 1<ws.length:=by omega
   rw[List.drop_eq_getElem_cons hlt] at e
   rw[e]
   simp only[ways]
   have hg:ws.getD (v - 1) 0=ws[v - 1]:=by rw[List.getD_eq_getElem?_getD,List.getElem?_eq_getElem hlt];rfl
   have hk:=h4 ws[v - 1] (List.getElem_mem hlt)
   congr 1
   ·rw[way_bits t f h1 (by omega),t2 _ (by omega),f2 _ (by omega),if_neg (by omega),if_neg (by omega),hg]
    generalize ws[v - 1]=k at *
    match k,hk with
    | 0,_=>rfl
    | 1,_=>rfl
    | 2,_=>rfl
    | 3,_=>rfl
   ·exact ih (v+1) _ (by omega) (by omega) (by rw[show v - 1+1=v+1 - 1 by omega])
 exact key 10 1 ws (by omega) rfl (by simp)
theorem ways_three(t f:Nat):∀ (m v:Nat),1≤v→v+m≤11→((∀ k∈ways t f v m,k<3)↔∀ u,v≤u→u<v+m→¬ (t.testBit u=true∧f.testBit u=true)):=by
 intro m
 induction m with
 | zero=>intro v _ _;exact⟨fun _ u a b=>by omega,fun _ k hk=>by simp[ways] at hk⟩
 | succ m ih =>
  intro v h1 h2
  have hh:wayN t f (v:Int)<3↔¬ (t.testBit v=true∧f.testBit v=true):=by
   rw[way_bits t f h1 (by omega)]
   cases t.testBit v <;> cases f.testBit v <;> simp
  constructor
  ·intro h u a b
   by_cases e:u=v
   ·subst e;exact hh.1 (h _ (by simp[ways]))
   ·exact(ih (v+1) (by omega) (by omega)).1 (fun k hk=>h k (by simp only[ways];exact List.mem_cons_of_mem _ hk)) u (by omega) (by omega)
  ·intro h k hk
   simp only[ways] at hk
   rcases List.mem_cons.1 hk with rfl | hk
   ·exact hh.2 (h v (Nat.le_refl _) (by omega))
   ·exact(ih (v+1) (by omega) (by omega)).2 (fun u a b=>h u (by omega) (by omega)) k hk
structure Stand(ns:List Nd)(cs:List Nat):Prop where
 tre:Tre ns
 top:∀ c∈cs,c<2^20
 cnt:∀ s t f,Two s t f→leafP ns 0 (ways t f 1 10)=cs.count s
theorem disj_bits{kt kf:Nat}(h:(kt&&&kf != 0)=false)(u:Nat):¬ (kt.testBit u=true∧kf.testBit u=true):=by
 rintro⟨a,b⟩
 have hz:kt&&&kf=0:=by simpa using h
 have:=congrArg (fun n=>n.testBit u) hz
 simp[Nat.testBit_and,a,b] at this
theorem Bt.twin{k kt kf:Nat}(h:Bt k kt kf)(hd:∀ u,1≤u→u<11→¬ (kt.testBit u=true∧kf.testBit u=true)):twinB k=false:=by
 obtain⟨t,f,h2⟩:=two_is k h.top
 rw[h2.twin]
 have:t&&&f=0:=by
  refine lt_of_bits (Nat.and_lt_two_pow _ h2.lf) (by rw[Nat.testBit_and,h2.zt];rfl) (fun v hv=>?_)
  rw[Nat.testBit_and,← h2.pos v hv,← h2.neg v hv,h.pos v hv,h.neg v hv]
  have:=hd (v+1) (by omega) (by omega)
  cases a:kt.testBit (v+1) with
  | false=>rfl
  | true =>
   cases b:kf.testBit (v+1) with
   | false=>rfl
   | true=>exact absurd ⟨a,b⟩ this
 simp[this]
theorem Stand.closed{ns:List Nd}{cs:List Nat}(h:Stand ns cs){k kt kf:Nat}(hk:Bt k kt kf)(hd:∀ u,1≤u→u<11→¬ (kt.testBit u=true∧kf.testBit u=true)):ClosedK ns kt kf↔ClD cs k:=by
 constructor
 ·intro hC c hc
  obtain⟨t,f,h2⟩:=two_is c (h.top c hc)
  refine ok_bits h2.bt hk hd (fun hn=>?_)
  have hq:leafP ns 0 (ways t f 1 10)≠0:=by
   rw[h.cnt c t f h2]
   have:=List.count_pos_iff.2 hc
   omega
  obtain⟨a,b⟩:=hC (ways t f 1 10) (ways_len t f 10 1) ((ways_three t f 10 1 (by omega) (by omega)).2 hn) hq
  rw[allOff_ways t f kt kf 10 1 (by omega) (by omega)] at a
  exact⟨a,fun x hx=>b x ((oneOpen_ways t f kt kf x 10 1 (by omega) (by omega)).2 hx)⟩
 ·intro hC ws hl h3 hq
  obtain⟨t,f,t1,f1,t0,f0,rfl⟩:=ways_is ws hl (fun k hk=>Nat.lt_succ_of_lt (h3 k hk))
  obtain⟨s,hs⟩:=bt_is t f
  have h2:Two s t f:=⟨hs.pos,hs.neg,hs.top,t0,f0,t1,f1⟩
  rw[h.cnt s t f h2] at hq
  have hm:s∈cs:=List.count_pos_iff.1 (by omega)
  obtain⟨a,b⟩:=bits_ok hs hk (hC s hm)
  rw[allOff_ways t f kt kf 10 1 (by omega) (by omega)]
  exact⟨a,fun x hx=>b x ((oneOpen_ways t f kt kf x 10 1 (by omega) (by omega)).1 hx)⟩
theorem SubK.sub{a b kt kf k K Kt Kf:Nat}(h:Two k a b)(hK:Bt K Kt Kf)(hs:SubK a b Kt Kf)(_:kt=kf):SubN k K:=by
 intro i hi
 have h20:=bit_lt h.top hi
 rcases nat_par i with e | e
 ·rw[e,h.pos _ (by omega)] at hi
  rw[e,hK.pos _ (by omega)]
  exact hs.t _ hi
 ·rw[e,h.neg _ (by omega)] at hi
  rw[e,hK.neg _ (by omega)]
  exact hs.f _ hi
theorem Stand.folS{ns:List Nd}{cs:List Nat}(h:Stand ns cs){k kt kf:Nat}(hk:Two k kt kf):fol ns 4096 kt kf=clashD cs k:=by
 cases hb:clashD cs k with
 | false =>
  obtain⟨K,h1,h2,h3,h4⟩:=clash_false cs h.top k hk.top hb
  obtain⟨Kt,Kf,hK⟩:=two_is K h1
  have ht:=hK.twin
  rw[h3] at ht
  refine fol_stay ns Kt Kf ht.symm ((h.closed hK.bt (fun u _ _=>disj_bits ht.symm u)).2 h4) 4096 kt kf ⟨fun v hv=>?_,fun v hv=>?_⟩
  ·have h11:=bit_lt hk.lt hv
   have h0:v≠0:=fun e=>by subst e;rw[hk.zt] at hv;simp at hv
   have a:=hk.pos (v - 1) (by omega)
   have b:=hK.pos (v - 1) (by omega)
   rw[show v - 1+1=v by omega] at a b
   rw[← b];exact h2 _ (by rw[a];exact hv)
  ·have h11:=bit_lt hk.lf hv
   have h0:v≠0:=fun e=>by subst e;rw[hk.zf] at hv;simp at hv
   have a:=hk.neg (v - 1) (by omega)
   have b:=hK.neg (v - 1) (by omega)
   rw[show v - 1+1=v by omega] at a b
   rw[← b];exact h2 _ (by rw[a];exact hv)
 | true =>
  cases hf:fol ns 4096 kt kf with
  | true=>rfl
  | false =>
   obtain⟨Kt,Kf,a1,a2,a3⟩:=fol_false ns 4096 kt kf hk.lt hk.lf (by omega) hf
   obtain⟨K,hK⟩:=bt_is Kt Kf
   have hd:∀ u,1≤u→u<11→¬ (Kt.testBit u=true∧Kf.testBit u=true):=fun u _ _=>disj_bits a2 u
   have:=clash_stay ((h.closed hK hd).1 a3) (hK.twin hd) (SubK.sub (kt:=0) hk hK a1 rfl)
   rw[this] at hb
   exact hb
theorem Stand.follows{ns:List Nd}{cs:List Nat}(h:Stand ns cs){s t f:Nat}(hs:Two s t f):followsN ns t f=clashD cs (oppN s):=h.folS hs.opp
end Go.Proofs.YthboeppmlhbofabDoor
