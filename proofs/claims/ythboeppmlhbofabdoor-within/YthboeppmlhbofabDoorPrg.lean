import Derived.Test.YthboeppmlhbofabDoorLns
namespace Go.Proofs.YthboeppmlhbofabDoor
open Go.RowKit Txt
set_option maxRecDepth 100000
theorem rdl_gt{l:List UInt8}:∀ (m p:Nat) (acc:List Int) (xs:List Int) (q:Nat),rdl l m p acc=some (xs,q)→p<q∧q≤l.length∧xs.length≤acc.length+(q - p):=by
 intro m
 induction m with
 | zero=>intro p acc xs q h;simp[rdl] at h
 | succ m ih =>
  intro p acc xs q h
  simp only[rdl] at h
  split at h
  ·split at h
   ·simp at h
   ·split at h
    ·simp only[Option.some.injEq,Prod.mk.injEq] at h
     obtain⟨rfl,rfl⟩:=h
     exact⟨by omega,by omega,by omega⟩
    ·split at h
     ·simp at h
     ·obtain⟨h1,h2,h3⟩:=ih _ _ _ _ h
      rw[snoc_len] at h3
      exact⟨by omega,h2,by omega⟩
  ·simp at h
theorem rdLine_gt{l:List UInt8}{p lt q:Nat}{xs:List Int}(h:rdLine l p=some (lt,xs,q)):p<q∧q≤l.length∧xs.length≤q:=by
 unfold rdLine at h
 split at h
 ·cases hr:rdl l (l.length+1) (p+2) [] with
  | none=>rw[hr] at h;simp at h
  | some r =>
   obtain⟨ys,z⟩:=r
   rw[hr] at h
   simp only[Option.map_some,Option.some.injEq,Prod.mk.injEq] at h
   obtain⟨_,rfl,rfl⟩:=h
   obtain⟨h1,h2,h3⟩:=rdl_gt _ _ _ _ _ hr
   simp only[List.length_nil] at h3
   exact⟨by omega,h2,by omega⟩
 ·simp at h
theorem stepN_wf{ns:List Nd}{M:Nat}(hw:Wf ns)(hp:0<ns.length)(hc:CB ns M)(lt:Nat)(xs:List Int):Wf (stepN ns lt xs).2∧0<(stepN ns lt xs).2.length∧CB (stepN ns lt xs).2 (M+1)∧(stepN ns lt xs).2.length≤ns.length+10:=by
 have h0:Wf ns∧0<ns.length∧CB ns (M+1)∧ns.length≤ns.length+10:=⟨hw,hp,fun j=>Nat.le_succ_of_le (hc j),by omega⟩
 unfold stepN
 split
 ·unfold dropN
  cases hd:dropTo ns (posOk xs) (negOk xs) 10 with
  | none=>exact h0
  | some a =>
   have ha:=dropTo_lt hw hp _ _ _ _ hd
   by_cases hz:(ns.getD a nd0).c=0
   ·simp only[hz,if_true];exact h0
   ·simp only[hz,if_false]
    refine⟨fun j hj=>?_,by rw[List.length_set];exact hp,fun j=>?_,by rw[List.length_set];omega⟩
    ·rw[List.length_set] at hj ⊢
     rw[getD_set _ _ _ _ ha]
     split
     ·exact hw a ha
     ·exact hw j hj
    ·rw[getD_set _ _ _ _ ha]
     split
     ·have:=hc a
      show(ns.getD a nd0).c - 1≤_
      omega
     ·exact Nat.le_succ_of_le (hc j)
 ·split
  ·exact h0
  ·split
   ·obtain⟨h1,h2,h3⟩:=addN_wf hw hp (posOk xs) (negOk xs) 1
    exact⟨h1,h3,addN_cb hc hw hp _ _ _,h2⟩
   ·exact h0
def chkN(l:List UInt8):Nat→List Nd→Nat→Nat→Nat→List Int→List Int × Int × Nat
 | 0,_,_,n,_,_=>([],3,n)
 | m+1,ns,p,n,lt,xs =>
  if p<l.length then
   match rdLine l p with
   | none=>([],3,n)
   | some (lt',xs',q)=>if (stepN ns lt' xs').1≠0 then ([],(stepN ns lt' xs').1,n) else chkN l m (stepN ns lt' xs').2 q (n+1) lt' xs'
  else if lt≠101 then ([],9,n) else (xs,0,n)
def CkPost(B:Nat)(w:World)(r:List Int × Int × Nat)(e:Ending)(w':World):Prop:=Below B w w'∧∃ a c,e=.returned (.tuple #[.slice a r.1.length c,.int .i64 r.2.1,.int .i64 (r.2.2:Nat)])∧w'.ownsRow B 3 1 (.slice a r.1.length c) r.1.length (i64s r.1)
theorem u_nL:(103:Nat)≠76:=by decide
theorem u_ni:(103:Nat)≠3:=by decide
theorem u_Ci:(3:Nat)≠106:=by decide
theorem u_CL:(76:Nat)≠106:=by decide
theorem Kept.row{w w':World}{B cb n g t:Nat}{na:Option Addr}{nc:Nat}{ns:List Nd}{zs:List Value}(hk:Kept w w' cb (.slice na n nc))(h:TreeI w B cb na nc ns)(hr:Row w g t zs)(h1:103≠t)(h2:t≠106):Row w' g t zs:=by
 refine(hk.block g hr.lt (fun e=>?_) ?_).trans hr
 ·subst e
  have a1:w.heap[g]?=some (.cells zs.toArray t (0,0)):=hr
  have a2:w.heap[g]?=some (.cells [Value.slice na ns.length nc].toArray 106 (0,0)):=h.row
  rw[a1] at a2
  simp only[Option.some.injEq,Obj.cells.injEq] at a2
  exact h2 a2.2.1
 ·have e:(Value.slice na n nc).ownBlock=(Value.slice na ns.length nc).ownBlock:=own_len
  rw[e]
  exact own_ty h.own hr h1
theorem Kept.own{w w':World}{B B' cb n m s t:Nat}{na:Option Addr}{nc:Nat}{ns:List Nd}{v:Value}{zs:List Value}(hk:Kept w w' cb (.slice na n nc))(h:TreeI w B cb na nc ns)(hr:w.ownsRow B' t s v m zs)(h1:103≠t)(h2:t≠106):w'.ownsRow B' t s v m zs:=by
 refine⟨hr.1,?_⟩
 rcases hr.2 with hn | ⟨g,cap,cur,hv,q1,hg,r⟩
 ·exact .inl hn
 ·refine .inr ⟨g,cap,cur,hv,q1,?_,r⟩
  have hrow:Row w g t cur.toList:=by show _=_;rw[hg]
  exact(hk.row h hrow h1 h2).trans (by rw[Array.toArray_toList])
theorem tree_below{w w':World}{B cb n:Nat}{na na':Option Addr}{nc nc':Nat}{ns ns':List Nd}(h:TreeI w B cb na nc ns)(hn:TreeN w w' B cb na nc n na' nc' ns')(hB:B≤w.heap.size):Below B w w' :=
 ⟨hn.kept.os,hn.kept.tape,hn.kept.output,hn.kept.size,fun k hk=>hn.kept.block k (by omega) (by have:=h.base;omega) (fun e=>by
  have e':(Value.slice na ns.length nc).ownBlock=some k:=by rw[← e];exact own_len
  have:=(h.own.lt k e').1
  omega)⟩
theorem own_low{w:World}{b B e s n:Nat}{v:Value}{xs:List Value}(h:w.ownsRow b e s v n xs)(hb:B≤b):w.ownsRow B e s v n xs:=by
 refine⟨h.1,?_⟩
 rcases h.2 with hn | ⟨g,cap,cur,hv,h1,r⟩
 ·exact .inl hn
 ·exact .inr ⟨g,cap,cur,hv,Nat.le_trans hb h1,r⟩
set_option maxHeartbeats 4000000 in
theorem check_anyP(w:World)(B cb:Nat)(na:Option Addr)(nc:Nat)(ns:List Nd)(h:TreeI w B cb na nc ns)(hw:Wf ns)(M:Nat)(hcb:CB ns M)(s:ByteArray)(hs:s.size≤4194304)(hB:B≤w.heap.size)(hl:ns.length≤10000000)(hM:M+4194304≤9223372036854775807) :
  Calls Tryd.prog 37 #[.pointer (some ⟨cb,0,none⟩),.string s] w (CkPost B w (chkN (bs s) (s.size+1) ns 0 0 0 [])):=by
 have hb1:Below w.heap.size w (w.alloc (.cells #[.int .u8 0,.slice none 0 0] 76)):=(Below.refl _ _).alloc (Nat.le_refl _) _
 have r1:Row (w.alloc (.cells #[.int .u8 0,.slice none 0 0] 76)) w.heap.size 76 [.int .u8 0,.slice none 0 0]:=heap_alloc_new w _
 have N1:=hide (TreeN.of h hb1)
 have R1:=hide r1
 have HI:=hide h
 have HW:=hide hw
 have HCB:=hide hcb
 have hp:=h.pos
 have HRS:Hid (chkN (bs s) (s.size+1) ns 0 0 0 []=chkN (bs s) (s.size+1) ns 0 0 0 []):=rfl
 generalize hres:chkN (bs s) (s.size+1) ns 0 0 0 []=RES at HRS ⊢
 have HRES:=hide hres
 clear h hw hcb hb1 r1 hres HRS
 go_enter Tryd.func37,Tryd.ntmps37
 go_wp2_with fail
 generalize w.alloc (.cells #[.int .u8 0,.slice none 0 0] 76)=w1 at *
 go_loopw [8,9] (fun x8 x9 wr=>∃ (n p m lt:Nat) (ns1:List Nd) (na1:Option Addr) (nc1:Nat) (xs:List Int) (a:Option Addr) (c:Nat),x8=.int .i64 n∧x9=.int .i64 p∧n≤p∧p≤s.size∧s.size<p+m∧ns1.length≤ns.length+10*n∧Hid (TreeN w wr B cb na nc ns.length na1 nc1 ns1)∧Hid (Wf ns1)∧Hid (CB ns1 (M+n))∧Hid (Row wr w.heap.size 76 [.int .u8 lt,.slice a xs.length c])∧Hid (wr.ownsRow B 3 1 (.slice a xs.length c) xs.length (i64s xs))∧Hid (chkN (bs s) m ns1 p n lt xs=RES)) (fun _ x9 _=>s.size - (intOf x9).toNat)
 case atStart=>exact⟨0,0,s.size+1,0,ns,na,nc,[],none,0,rfl,rfl,by omega,by omega,by omega,by omega,N1,HW,HCB,R1,⟨rfl,.inl ⟨rfl,rfl⟩⟩,HRES⟩
 case round =>
  clear N1 R1 HRES
  obtain⟨n,p,m,lt,ns1,na1,nc1,xs,a,c,rfl,rfl,hnp,hps,hm,hnl,HT,HW1,HC1,RL,HO,HF⟩:=hrel
  obtain⟨m,rfl⟩:∃ k,m=k+1:=⟨m - 1,by omega⟩
  have hf:=HF.out
  simp only[chkN,bs_length] at hf
  have l0:wr.cell? ⟨w.heap.size,0,none⟩=some (.int .u8 lt):=(RL.out.cell 0).trans rfl
  have l1:wr.cell? ⟨w.heap.size,1,none⟩=some (.slice a xs.length c):=(RL.out.cell 1).trans rfl
  have hzr:w.heap.size≤wr.heap.size:=HT.out.kept.size
  have hcast:∀ b:Nat,(((lt:Nat):Int) == (b:Int))=(lt == b):=fun b=>nat_beq _ _
  by_cases hlt:p<s.size
  ·rw[if_pos hlt] at hf
   have HRL:=hide (readLine_any s p wr hs hps)
   clear hcast
   go_wp2_with fail
   refine(unhide HRL).mono ?_
   rintro e w2 ⟨hb2,hp2⟩
   cases hrl:rdLine (bs s) p with
   | none =>
    rw[hrl] at hp2 hf
    simp only at hp2 hf
    subst hp2
    have BB:Hid (∀ x,Below B w (w2.alloc x)):=fun x=>(tree_below HI.out HT.out hB).trans ((hb2.alloc hb2.size x).mono (by omega))
    have HRR:=hide hf
    clear hf hb2 HRL
    go_wp2
    go_ret3
    rw[← HRR.out]
    exact⟨BB.out _,none,0,rfl,rfl,.inl ⟨rfl,rfl⟩⟩
   | some r =>
    obtain⟨lt',xs',q⟩:=r
    rw[hrl] at hp2 hf
    simp only at hp2 hf
    obtain⟨a',c',rfl,ho2⟩:=hp2
    obtain⟨g1,g2,g3⟩:=rdLine_gt hrl
    rw[bs_length] at g2
    have hb3:Below w2.heap.size w2 (w2.alloc (.cells #[.int .u8 lt',.slice a' xs'.length c'] 76)):=(Below.refl _ _).alloc (Nat.le_refl _) _
    have r3:Row (w2.alloc (.cells #[.int .u8 lt',.slice a' xs'.length c'] 76)) w2.heap.size 76 [.int .u8 lt',.slice a' xs'.length c']:=heap_alloc_new w2 _
    have hz2:wr.heap.size≤w2.heap.size:=hb2.size
    have hb23:Below wr.heap.size wr (w2.alloc (.cells #[.int .u8 lt',.slice a' xs'.length c'] 76)):=hb2.trans (hb3.mono hz2)
    have T3:=hide (HT.out.t.below hb23)
    have N3:Hid (TreeN w (w2.alloc (.cells #[.int .u8 lt',.slice a' xs'.length c'] 76)) B cb na nc ns.length na1 nc1 ns1):=HT.out.trans (TreeN.of HT.out.t hb23)
    have O3:Hid ((w2.alloc (.cells #[.int .u8 lt',.slice a' xs'.length c'] 76)).ownsRow B 3 1 (.slice a' xs'.length c') xs'.length (i64s xs')):=(own_low ho2 (by omega)).alloc _
    have RL3:=hide (row_below RL.out hb23)
    have R3:=hide r3
    have hz3:w2.heap.size<(w2.alloc (.cells #[.int .u8 lt',.slice a' xs'.length c'] 76)).heap.size:=by simp
    have HST:=hide (step_anyP _ B cb na1 nc1 ns1 T3.out HW1.out (M+n) HC1.out lt' a' c' xs' (by omega) (own_intsAt O3.out) (by omega) (by omega) (by omega))
    have WFS:=hide (stepN_wf HW1.out T3.out.pos HC1.out lt' xs')
    have HRR:=hide hf
    generalize stepN ns1 lt' xs'=SN at *
    obtain⟨er,ns2⟩:=SN
    simp only at HST WFS HRR
    clear hf hb2 ho2 hb3 r3 hb23 HRL hrl
    go_wp2_with fail
    refine(unhide HST).mono ?_
    generalize w2.alloc (.cells #[.int .u8 lt',.slice a' xs'.length c'] 76)=w3 at *
    rintro e w4 ⟨rfl,na2,nc2,hn4⟩
    have N4:Hid (TreeN w w4 B cb na nc ns.length na2 nc2 ns2):=N3.out.trans hn4
    have RL4:=hide (hn4.kept.row T3.out RL3.out u_nL u_CL)
    have R4:=hide (hn4.kept.row T3.out R3.out u_nL u_CL)
    have O4:=hide (hn4.kept.own T3.out O3.out u_ni u_Ci)
    have BB:Hid (Below B w w4):=tree_below HI.out N4.out hB
    clear hn4 HST
    by_cases her:er=0
    ·subst her
     have HR2:=HRR.out
     rw[if_neg (by simp)] at HR2
     have HR3:=hide HR2
     have y0:w4.cell? ⟨w2.heap.size,0,none⟩=some (.int .u8 lt'):=(R4.out.cell 0).trans rfl
     have y1:w4.cell? ⟨w2.heap.size,1,none⟩=some (.slice a' xs'.length c'):=(R4.out.cell 1).trans rfl
     have x0:w4.cell? ⟨w.heap.size,0,none⟩=some (.int .u8 lt):=(RL4.out.cell 0).trans rfl
     have x1:w4.cell? ⟨w.heap.size,1,none⟩=some (.slice a xs.length c):=(RL4.out.cell 1).trans rfl
     have z0:=RL4.out.frozen 0
     have z1:=RL4.out.frozen 1
     have R9:=hide ((RL4.out.set 0 (.int .u8 lt')).set 1 (.slice a' xs'.length c'))
     have O9:Hid (((w4.setCell ⟨w.heap.size,0,none⟩ (.int .u8 lt')).setCell ⟨w.heap.size,1,none⟩ (.slice a' xs'.length c')).ownsRow B 3 1 (.slice a' xs'.length c') xs'.length (i64s xs')):=own_setN (RL4.out.set 0 _) 1 _ u_iL (own_setN RL4.out 0 _ u_iL O4.out)
     have hk9:∀ b,b≠w.heap.size→((w4.setCell ⟨w.heap.size,0,none⟩ (.int .u8 lt')).setCell ⟨w.heap.size,1,none⟩ (.slice a' xs'.length c')).heap[b]?=w4.heap[b]?:=fun b hb=>(Below.heap_setCell _ ⟨w.heap.size,1,none⟩ _ b hb).trans (Below.heap_setCell _ ⟨w.heap.size,0,none⟩ _ b hb)
     have N9:Hid (TreeN w ((w4.setCell ⟨w.heap.size,0,none⟩ (.int .u8 lt')).setCell ⟨w.heap.size,1,none⟩ (.slice a' xs'.length c')) B cb na nc ns.length na2 nc2 ns2):=by
      refine⟨⟨?_,own_setN (RL4.out.set 0 _) 1 _ u_nL (own_setN RL4.out 0 _ u_nL N4.out.t.own),N4.out.t.pos,N4.out.t.base⟩,?_,N4.out.lies⟩
      ·exact(hk9 cb (by have:=HI.out.row.lt;omega)).trans N4.out.t.row
      ·exact⟨N4.out.kept.os,N4.out.kept.tape,N4.out.kept.output,by simpa [World.setCell] using N4.out.kept.size,fun k hk hg hv=>(hk9 k (by omega)).trans (N4.out.kept.block k hk hg hv)⟩
     clear hk9 HRR HR2
     go_wp2
     go_roundw
     case rel=>exact⟨n+1,q,m,lt',ns2,na2,nc2,xs',a',c',by go_num,rfl,by omega,by omega,by omega,by have:=WFS.out.2.2.2;omega,N9,WFS.out.1,by have:=WFS.out.2.2.1;exact this,R9,O9,HR3⟩
     case measure=>simp[intOf];omega
    ·have heri:(er != 0)=true:=by simp;exact her
     have HR2:=HRR.out
     rw[if_pos her] at HR2
     have HR3:=hide HR2
     clear HRR HR2 her
     go_wp2
     go_ret3
     rw[← HR3.out]
     exact⟨BB.out,none,0,rfl,rfl,.inl ⟨rfl,rfl⟩⟩
  ·rw[if_neg hlt] at hf
   have BB:Hid (Below B w wr):=tree_below HI.out HT.out hB
   by_cases h101:lt=101
   ·rw[if_neg (by simp[h101])] at hf
    have HRR:=hide hf
    have k1:(((lt:Nat):Int) != 101)=false:=by rw[bne,show((101:Int))=((101:Nat):Int) from rfl,hcast];simp[h101]
    clear hf hcast h101
    go_wp2
    go_ret3
    rw[← HRR.out]
    exact⟨BB.out,a,c,rfl,HO.out⟩
   ·rw[if_pos h101] at hf
    have HRR:=hide hf
    have k1:(((lt:Nat):Int) != 101)=true:=by rw[bne,show((101:Int))=((101:Nat):Int) from rfl,hcast];simp[h101]
    clear hf hcast h101
    go_wp2
    go_ret3
    rw[← HRR.out]
    exact⟨BB.out,none,0,rfl,rfl,.inl ⟨rfl,rfl⟩⟩
def leafP(ns:List Nd):Nat→List Nat→Nat
 | a,[]=>(ns.getD a nd0).c
 | a,k :: ws=>if (ns.getD a nd0).nx k=0 then 0 else leafP ns ((ns.getD a nd0).nx k) ws
def satW(W:Nat→Bool):Nat→List Nat→Prop
 | _,[]=>False
 | v,k :: ws=>((k=1∨k=3)∧W v=true)∨((k=2∨k=3)∧W v=false)∨satW W (v+1) ws
def ways(t f:Nat):Nat→Nat→List Nat
 | _,0=>[]
 | v,m+1=>wayN t f ((v:Nat):Int) :: ways t f (v+1) m
theorem has_pos(t f:Nat){v:Nat}(h1:1≤v)(h2:v≤10):hasB t f (v:Int)=t.testBit v:=by
 have e1:bitP (v:Int)=2^v:=by unfold bitP;rw[if_pos (by omega),Int.toNat_natCast]
 have e2:bitP (-(v:Int))=0:=by unfold bitP;rw[if_neg (by omega)]
 unfold hasB
 rw[e1,e2,Nat.and_zero,and_pow]
 cases t.testBit v <;> simp
theorem has_neg(t f:Nat){v:Nat}(h1:1≤v)(h2:v≤10):hasB t f (-(v:Int))=f.testBit v:=by
 have e1:bitP (v:Int)=2^v:=by unfold bitP;rw[if_pos (by omega),Int.toNat_natCast]
 have e2:bitP (-(v:Int))=0:=by unfold bitP;rw[if_neg (by omega)]
 unfold hasB
 rw[Int.neg_neg,e1,e2,Nat.and_zero,and_pow]
 cases f.testBit v <;> simp
structure KW(W:Nat→Bool)(kt kf:Nat):Prop where
 t:∀ v,1≤v→v≤10→kt.testBit v=true→W v=true
 f:∀ v,1≤v→v≤10→kf.testBit v=true→W v=false
 zt:kt.testBit 0=false
 zf:kf.testBit 0=false
def litSo(W:Nat→Bool)(x:Int):Prop:=(0<x∧W x.toNat=true)∨(x<0∧W (-x).toNat=false)
theorem KW.lit{W:Nat→Bool}{kt kf:Nat}(h:KW W kt kf){x:Int}(hx:litB x=true)(hs:litSo W x):KW W (kt|||posB x) (kf|||negB x):=by
 simp only[litB,Bool.and_eq_true,bne_iff_ne,decide_eq_true_eq] at hx
 rcases hs with⟨hp,hs⟩ | ⟨hp,hs⟩
 ·have e1:posB x=2^x.toNat:=by unfold posB;rw[if_pos hp]
  have e2:negB x=0:=by unfold negB;rw[if_pos hp]
  rw[e1,e2,Nat.or_zero]
  refine⟨fun v h1 h2 hb=>?_,h.f,?_,h.zf⟩
  ·rw[Nat.testBit_or,Nat.testBit_two_pow,Bool.or_eq_true,decide_eq_true_eq] at hb
   rcases hb with hb | hb
   ·exact h.t v h1 h2 hb
   ·rw[← hb];exact hs
  ·rw[Nat.testBit_or,h.zt,Nat.testBit_two_pow,Bool.false_or,decide_eq_false_iff_not];omega
 ·have e1:posB x=0:=by unfold posB;rw[if_neg (by omega)]
  have e2:negB x=2^(-x).toNat:=by unfold negB;rw[if_neg (by omega)]
  rw[e1,e2,Nat.or_zero]
  refine⟨h.t,fun v h1 h2 hb=>?_,h.zt,?_⟩
  ·rw[Nat.testBit_or,Nat.testBit_two_pow,Bool.or_eq_true,decide_eq_true_eq] at hb
   rcases hb with hb | hb
   ·exact h.f v h1 h2 hb
   ·rw[← hb];exact hs
  ·rw[Nat.testBit_or,h.zf,Nat.testBit_two_pow,Bool.false_or,decide_eq_false_iff_not];omega
theorem KW.twin{W:Nat→Bool}{kt kf:Nat}(h:KW W kt kf)(ht:kt<2^11):(kt&&&kf != 0)=false:=by
 have:kt&&&kf=0:=by
  apply Nat.eq_of_testBit_eq
  intro i
  rw[Nat.zero_testBit,Nat.testBit_and]
  by_cases h0:i=0
  ·subst h0;rw[h.zt];rfl
  ·by_cases h1:i<11
   ·cases a:kt.testBit i with
    | false=>rfl
    | true =>
     cases b:kf.testBit i with
     | false=>rfl
     | true =>
      have p:=h.t i (by omega) (by omega) a
      have q:=h.f i (by omega) (by omega) b
      rw[p] at q;simp at q
   ·rw[Nat.testBit_lt_two_pow (Nat.lt_of_lt_of_le ht (Nat.pow_le_pow_right (by decide) (by omega)))];rfl
 rw[this];rfl
theorem visit_sound(W:Nat→Bool)(ns:List Nd)(kt kf:Nat)(hk:KW W kt kf):∀ (m a v:Nat) (op:Int) (s:PS),m+v=11→1≤v→(op=0∨litB op=true)→s.cl=false→KW W s.gt s.gf →
  (∀ ws,ws.length=m→(∀ k∈ws,k<4)→leafP ns a ws≠0→satW W v ws∨(op≠0∧litSo W op))→(visitN ns kt kf m a v op s).cl=false∧KW W (visitN ns kt kf m a v op s).gt (visitN ns kt kf m a v op s).gf:=by
 intro m
 induction m with
 | zero =>
  intro a v op s _ _ ho hc hs hH
  simp only[visitN,hc]
  unfold meetN
  by_cases h0:(ns.getD a nd0).c=0
  ·simp only[h0,if_true];exact⟨hc,hs⟩
  ·rcases hH [] rfl (fun k hk=>by simp at hk) h0 with h | ⟨h1,h2⟩
   ·exact h.elim
   ·simp only[h0,if_false,h1]
    exact⟨hc,hs.lit (ho.resolve_left h1) h2⟩
 | succ m ih =>
  intro a v op s hmv hv ho hc hs hH
  have hl1:litB (v:Int)=true:=by simp only[litB,Bool.and_eq_true,bne_iff_ne,decide_eq_true_eq];omega
  have hl2:litB (-(v:Int))=true:=by simp only[litB,Bool.and_eq_true,bne_iff_ne,decide_eq_true_eq];omega
  have sub:∀ (k:Nat) (ws:List Nat),k<4→ws.length=m→(∀ k∈ws,k<4)→(ns.getD a nd0).nx k≠0→leafP ns ((ns.getD a nd0).nx k) ws≠0→satW W v (k :: ws)∨(op≠0∧litSo W op):=fun k ws hk4 hl h4 hx hq=>hH (k :: ws) (by simp[hl]) (fun j hj=>(List.mem_cons.1 hj).elim (fun e=>e ▸ hk4) (h4 j)) (by simp only[leafP,hx,if_false];exact hq)
  simp only[visitN,hc]
  have k1:(if (ns.getD a nd0).n0=0 then s else visitN ns kt kf m (ns.getD a nd0).n0 (v+1) op s).cl=false∧KW W (if (ns.getD a nd0).n0=0 then s else visitN ns kt kf m (ns.getD a nd0).n0 (v+1) op s).gt (if (ns.getD a nd0).n0=0 then s else visitN ns kt kf m (ns.getD a nd0).n0 (v+1) op s).gf:=by
   split
   ·exact⟨hc,hs⟩
   ·rename_i hx
    refine ih _ (v+1) op s (by omega) (by omega) ho hc hs (fun ws hl h4 hq=>?_)
    rcases sub 0 ws (by decide) hl h4 hx hq with h | h
    ·simp only[satW] at h
     rcases h with h | h | h
     ·omega
     ·omega
     ·exact .inl h
    ·exact .inr h
  generalize (if (ns.getD a nd0).n0=0 then s else visitN ns kt kf m (ns.getD a nd0).n0 (v+1) op s)=s1 at *
  have k2:(if (ns.getD a nd0).n1=0 then s1 else if hasB kt kf (-(v:Int)) then visitN ns kt kf m (ns.getD a nd0).n1 (v+1) op s1 else if op=0∧hasB kt kf (v:Int)=false then visitN ns kt kf m (ns.getD a nd0).n1 (v+1) (v:Int) s1 else s1).cl=false∧KW W (if (ns.getD a nd0).n1=0 then s1 else if hasB kt kf (-(v:Int)) then visitN ns kt kf m (ns.getD a nd0).n1 (v+1) op s1 else if op=0∧hasB kt kf (v:Int)=false then visitN ns kt kf m (ns.getD a nd0).n1 (v+1) (v:Int) s1 else s1).gt (if (ns.getD a nd0).n1=0 then s1 else if hasB kt kf (-(v:Int)) then visitN ns kt kf m (ns.getD a nd0).n1 (v+1) op s1 else if op=0∧hasB kt kf (v:Int)=false then visitN ns kt kf m (ns.getD a nd0).n1 (v+1) (v:Int) s1 else s1).gf:=by
   split
   ·exact k1
   ·rename_i hx
    split
    ·rename_i hh
     rw[has_neg kt kf hv (by omega)] at hh
     have hwv:=hk.f v hv (by omega) hh
     refine ih _ (v+1) op s1 (by omega) (by omega) ho k1.1 k1.2 (fun ws hl h4 hq=>?_)
     rcases sub 1 ws (by decide) hl h4 hx hq with h | h
     ·simp only[satW,hwv] at h
      rcases h with h | h | h
      ·simp at h
      ·omega
      ·exact .inl h
     ·exact .inr h
    ·split
     ·rename_i hcond
      refine ih _ (v+1) (v:Int) s1 (by omega) (by omega) (.inr hl1) k1.1 k1.2 (fun ws hl h4 hq=>?_)
      rcases sub 1 ws (by decide) hl h4 hx hq with h | h
      ·simp only[satW] at h
       rcases h with h | h | h
       ·exact .inr ⟨by omega,.inl ⟨by omega,by rw[Int.toNat_natCast];exact h.2⟩⟩
       ·omega
       ·exact .inl h
      ·exact absurd hcond.1 h.1
     ·exact k1
  generalize (if (ns.getD a nd0).n1=0 then s1 else if hasB kt kf (-(v:Int)) then visitN ns kt kf m (ns.getD a nd0).n1 (v+1) op s1 else if op=0∧hasB kt kf (v:Int)=false then visitN ns kt kf m (ns.getD a nd0).n1 (v+1) (v:Int) s1 else s1)=s2 at *
  simp only[Bool.false_eq_true,if_false]
  split
  ·exact k2
  ·rename_i hx
   split
   ·rename_i hh
    rw[has_pos kt kf hv (by omega)] at hh
    have hwv:=hk.t v hv (by omega) hh
    refine ih _ (v+1) op s2 (by omega) (by omega) ho k2.1 k2.2 (fun ws hl h4 hq=>?_)
    rcases sub 2 ws (by decide) hl h4 hx hq with h | h
    ·simp only[satW,hwv] at h
     rcases h with h | h | h
     ·omega
     ·simp at h
     ·exact .inl h
    ·exact .inr h
   ·split
    ·rename_i hcond
     refine ih _ (v+1) (-(v:Int)) s2 (by omega) (by omega) (.inr hl2) k2.1 k2.2 (fun ws hl h4 hq=>?_)
     rcases sub 2 ws (by decide) hl h4 hx hq with h | h
     ·simp only[satW] at h
      rcases h with h | h | h
      ·omega
      ·exact .inr ⟨by omega,.inr ⟨by omega,by rw[Int.neg_neg,Int.toNat_natCast];exact h.2⟩⟩
      ·exact .inl h
     ·exact absurd hcond.1 h.1
    ·exact k2
def Inv(W:Nat→Bool)(ns:List Nd):Prop:=∀ ws,ws.length=10→(∀ k∈ws,k<4)→leafP ns 0 ws≠0→satW W 1 ws
theorem fol_sound(W:Nat→Bool)(ns:List Nd)(hI:Inv W ns):∀ (m kt kf:Nat),kt<2^11→kf<2^11→KW W kt kf→fol ns m kt kf=false:=by
 intro m
 induction m with
 | zero=>intro kt kf _ _ _;rfl
 | succ m ih =>
  intro kt kf ht hf hk
  obtain⟨h1,h2⟩:=visit_sound W ns kt kf hk 10 0 1 0 ⟨kt,kf,false⟩ rfl (by decide) (.inl rfl) rfl hk (fun ws hl h4 hq=>.inl (hI ws hl h4 hq))
  obtain⟨o1,o2⟩:=visitN_ok (ns:=ns) (kt:=kt) (kf:=kf) 10 0 1 0 ⟨kt,kf,false⟩ rfl (by decide) (.inl rfl) ⟨ht,hf⟩
  simp only[fol,hk.twin ht,h1,Bool.false_eq_true,if_false]
  split
  ·rfl
  ·exact ih _ _ o1 o2 h2
structure Pth(ns:List Nd)(path:Nat→List Nat):Prop where
 root:path 0=[]
 step:∀ a,a<ns.length→∀ k,k<4→(ns.getD a nd0).nx k≠0→path ((ns.getD a nd0).nx k)=path a++[k]
theorem put_other(d:Nd){k j x:Nat}(hk:k<4)(hj:j<4)(h:j≠k):(d.put k x).nx j=d.nx j:=by
 have a:k=0∨k=1∨k=2∨k=3:=by omega
 have b:j=0∨j=1∨j=2∨j=3:=by omega
 rcases a with rfl|rfl|rfl|rfl <;> rcases b with rfl|rfl|rfl|rfl <;> first | rfl | omega
theorem leaf_nd0(ns:List Nd)(b:Nat)(h:ns.getD b nd0=nd0)(ws:List Nat):leafP ns b ws=0:=by
 cases ws with
 | nil=>simp only[leafP,h];rfl
 | cons k ws =>
  simp only[leafP,h]
  rw[if_pos]
  unfold Nd.nx nd0
  split <;> rfl
theorem leaf_grow{ns:List Nd}(hw:Wf ns){a k:Nat}(ha:a<ns.length)(hk:k<4):∀ (ws:List Nat) (b:Nat),b<ns.length→(∀ j∈ws,j<4)→leafP (growN ns a k).1 b ws=leafP ns b ws:=by
 unfold growN
 split
 ·rename_i hz
  intro ws
  induction ws with
  | nil =>
   intro b hb _
   simp only[leafP]
   rw[getD_snoc,getD_set _ _ _ _ ha]
   split
   ·rename_i e;rw[put_c,e]
   ·rfl
  | cons j ws ih =>
   intro b hb h4
   have hj:j<4:=h4 j (by simp)
   have hsame:b≠a∨j≠k→((ns.set a ((ns.getD a nd0).put k ns.length)++[nd0]).getD b nd0).nx j=(ns.getD b nd0).nx j:=by
    intro h
    rw[getD_snoc,getD_set _ _ _ _ ha]
    split
    ·rename_i e
     rw[e]
     exact put_other _ hk hj (h.resolve_left (fun hne=>hne e))
    ·rfl
   by_cases hc:b=a∧j=k
   ·obtain⟨rfl,rfl⟩:=hc
    simp only[leafP,hz,if_true]
    rw[getD_snoc,getD_set _ _ _ _ ha,if_pos rfl,Nd.put_nx _ hk]
    rw[if_neg (by omega)]
    apply leaf_nd0
    rw[getD_snoc,List.getD_eq_getElem?_getD,List.getElem?_eq_none (by rw[List.length_set];exact Nat.le_refl _)]
    rfl
   ·have hs:=hsame (by
     by_cases e:b=a
     ·exact .inr (fun e2=>hc ⟨e,e2⟩)
     ·exact .inl e)
    simp only[leafP,hs]
    split
    ·rfl
    ·exact ih _ (hw.nx hb j) (fun x hx=>h4 x (by simp[hx]))
 ·intro ws b _ _;rfl
theorem path_grow{ns:List Nd}(hw:Wf ns)(hp:0<ns.length){path:Nat→List Nat}(h:Pth ns path){a k:Nat}(ha:a<ns.length)(hk:k<4):∃ path',Pth (growN ns a k).1 path'∧path' (growN ns a k).2=path a++[k]:=by
 unfold growN
 split
 ·rename_i hz
  refine⟨fun i=>if i=ns.length then path a++[k] else path i,⟨?_,?_⟩,by simp⟩
  ·show(if 0=ns.length then _ else _)=_
   rw[if_neg (by omega)];exact h.root
  ·intro b hb j hj hne
   have hlen:(ns.set a ((ns.getD a nd0).put k ns.length)++[nd0]).length=ns.length+1:=by simp
   rw[hlen] at hb
   rw[getD_snoc,getD_set _ _ _ _ ha] at hne ⊢
   by_cases hbl:b=ns.length
   ·subst hbl
    rw[if_neg (by omega)] at hne
    have e:ns.getD ns.length nd0=nd0:=by rw[List.getD_eq_getElem?_getD,List.getElem?_eq_none (Nat.le_refl _)];rfl
    rw[e] at hne
    exfalso
    apply hne
    unfold Nd.nx nd0
    split <;> rfl
   ·have hb2:b<ns.length:=by omega
    by_cases e:b=a
    ·subst e
     rw[if_pos rfl] at hne ⊢
     by_cases ej:j=k
     ·subst ej
      rw[Nd.put_nx _ hk]
      show(if ns.length=ns.length then _ else _)=(if b=ns.length then _ else _)++_
      rw[if_pos rfl,if_neg (by omega)]
     ·rw[put_other _ hk hj ej] at hne ⊢
      have hl:=hw.nx hb2 j
      show(if _=ns.length then _ else _)=(if b=ns.length then _ else _)++_
      rw[if_neg (by omega),if_neg (by omega)]
      exact h.step b hb2 j hj hne
    ·rw[if_neg e] at hne ⊢
     have hl:=hw.nx hb2 j
     show(if _=ns.length then _ else _)=(if b=ns.length then _ else _)++_
     rw[if_neg (by omega),if_neg (by omega)]
     exact h.step b hb2 j hj hne
 ·rename_i hz
  exact⟨path,h,h.step a ha k hk hz⟩
theorem ways_len(t f:Nat):∀ (m v:Nat),(ways t f v m).length=m:=by
 intro m
 induction m with
 | zero=>intro v;rfl
 | succ m ih=>intro v;simp[ways,ih]
theorem ways_snoc(t f:Nat):∀ (m v:Nat),ways t f v (m+1)=ways t f v m++[wayN t f ((v+m:Nat):Int)]:=by
 intro m
 induction m with
 | zero=>intro v;rfl
 | succ m ih =>
  intro v
  have:=ih (v+1)
  simp only[ways] at this ⊢
  rw[this,show v+1+m=v+(m+1) by omega]
  rfl
theorem addTo_leaf{ns:List Nd}(hw:Wf ns)(hp:0<ns.length){path:Nat→List Nat}(h:Pth ns path)(t f:Nat):∀ k,(∃ path',Pth (addTo ns t f k).1 path'∧path' (addTo ns t f k).2=ways t f 1 k)∧∀ ws,(∀ j∈ws,j<4)→leafP (addTo ns t f k).1 0 ws=leafP ns 0 ws:=by
 intro k
 induction k with
 | zero=>exact⟨⟨path,h,h.root⟩,fun ws _=>rfl⟩
 | succ k ih =>
  obtain⟨⟨p1,q1,q2⟩,q3⟩:=ih
  obtain⟨w1,w2,w3⟩:=addTo_wf hw hp t f k
  have hp1:0<(addTo ns t f k).1.length:=by omega
  obtain⟨p2,r1,r2⟩:=path_grow w1 hp1 q1 w2 (wayN_lt t f ((k+1:Nat):Int))
  refine⟨⟨p2,r1,?_⟩,fun ws h4=>?_⟩
  ·show p2 (growN _ _ _).2=_
   rw[r2,q2,ways_snoc,show 1+k=k+1 by omega]
  ·show leafP (growN _ _ _).1 0 ws=_
   rw[leaf_grow w1 w2 (wayN_lt _ _ _) ws 0 hp1 h4]
   exact q3 ws h4
theorem leaf_set{ns:List Nd}(hw:Wf ns){path:Nat→List Nat}(h:Pth ns path){a:Nat}(ha:a<ns.length)(x:Nat):∀ (ws:List Nat) (b:Nat),b<ns.length→(∀ j∈ws,j<4)→path b++ws≠path a→leafP (ns.set a { ns.getD a nd0 with c:=x }) b ws=leafP ns b ws:=by
 intro ws
 induction ws with
 | nil =>
  intro b hb _ hne
  simp only[leafP]
  rw[getD_set _ _ _ _ ha,if_neg (fun e=>hne (by rw[e];simp))]
 | cons k ws ih =>
  intro b hb h4 hne
  have hnx:((ns.set a { ns.getD a nd0 with c:=x }).getD b nd0).nx k=(ns.getD b nd0).nx k:=by
   rw[getD_set _ _ _ _ ha]
   split
   ·rename_i e;rw[e];rfl
   ·rfl
  simp only[leafP,hnx]
  split
  ·rfl
  ·rename_i hz
   refine ih _ (hw.nx hb k) (fun j hj=>h4 j (by simp[hj])) ?_
   rw[h.step b hb k (h4 k (by simp)) hz,List.append_assoc]
   exact hne
theorem path_set{ns:List Nd}{path:Nat→List Nat}(h:Pth ns path){a:Nat}(ha:a<ns.length)(x:Nat):Pth (ns.set a { ns.getD a nd0 with c:=x }) path:=by
 refine⟨h.root,fun b hb k hk hne=>?_⟩
 rw[List.length_set] at hb
 have hnx:((ns.set a { ns.getD a nd0 with c:=x }).getD b nd0).nx k=(ns.getD b nd0).nx k:=by
  rw[getD_set _ _ _ _ ha]
  split
  ·rename_i e;rw[e];rfl
  ·rfl
 rw[hnx] at hne ⊢
 exact h.step b hb k hk hne
structure Tre(ns:List Nd):Prop where
 wf:Wf ns
 pos:0<ns.length
 path:∃ path,Pth ns path
theorem Tre.add{ns:List Nd}(h:Tre ns)(t f c:Nat):Tre (addN ns t f c)∧∀ ws,(∀ j∈ws,j<4)→ws≠ways t f 1 10→leafP (addN ns t f c) 0 ws=leafP ns 0 ws:=by
 obtain⟨path,hp⟩:=h.path
 obtain⟨⟨p1,q1,q2⟩,q3⟩:=addTo_leaf h.wf h.pos hp t f 10
 obtain⟨w1,w2,w3⟩:=addTo_wf h.wf h.pos t f 10
 obtain⟨a1,a2,a3⟩:=addN_wf h.wf h.pos t f c
 refine⟨⟨a1,a3,p1,path_set q1 w2 _⟩,fun ws h4 hne=>?_⟩
 rw[← q3 ws h4]
 refine leaf_set w1 q1 w2 _ ws 0 (by omega) h4 ?_
 rw[q1.root,q2]
 exact hne
theorem leaf_le{ns ns':List Nd}(hnx:∀ b k,(ns'.getD b nd0).nx k=(ns.getD b nd0).nx k)(hc:∀ b,(ns'.getD b nd0).c≤(ns.getD b nd0).c):∀ (ws:List Nat) (b:Nat),leafP ns' b ws≤leafP ns b ws:=by
 intro ws
 induction ws with
 | nil=>intro b;exact hc b
 | cons k ws ih =>
  intro b
  simp only[leafP,hnx]
  split
  ·exact Nat.le_refl _
  ·exact ih _
theorem Tre.drop{ns ns':List Nd}(h:Tre ns){t f:Nat}(hd:dropN ns t f=some ns'):Tre ns'∧∀ ws,leafP ns' 0 ws≤leafP ns 0 ws:=by
 unfold dropN at hd
 cases ha:dropTo ns t f 10 with
 | none=>rw[ha] at hd;simp at hd
 | some a =>
  have hal:=dropTo_lt h.wf h.pos t f 10 a ha
  rw[ha] at hd
  simp only at hd
  split at hd
  ·simp at hd
  ·simp only[Option.some.injEq] at hd
   subst hd
   obtain⟨path,hp⟩:=h.path
   refine⟨⟨fun j hj=>?_,by rw[List.length_set];exact h.pos,path,path_set hp hal _⟩,fun ws=>leaf_le (fun b k=>?_) (fun b=>?_) ws 0⟩
   ·rw[List.length_set] at hj ⊢
    rw[getD_set _ _ _ _ hal]
    split
    ·exact h.wf a hal
    ·exact h.wf j hj
   ·rw[getD_set _ _ _ _ hal]
    split
    ·rename_i e;rw[e];rfl
    ·rfl
   ·rw[getD_set _ _ _ _ hal]
    split
    ·rename_i e
     rw[e]
     show(ns.getD a nd0).c - 1≤_
     omega
    ·exact Nat.le_refl _
def hasK(kt kf v k:Nat):Prop:=(k=1∧kt.testBit v=true)∨(k=2∧kf.testBit v=true)
def offK(kt kf v k:Nat):Prop:=(k=1∧kf.testBit v=true)∨(k=2∧kt.testBit v=true)
def hitK(kt kf:Nat):Nat→List Nat→Prop
 | _,[]=>False
 | v,k :: ws=>hasK kt kf v k∨hitK kt kf (v+1) ws
def allOff(kt kf:Nat):Nat→List Nat→Prop
 | _,[]=>True
 | v,k :: ws=>(k=0∨offK kt kf v k)∧allOff kt kf (v+1) ws
def oneOpen(kt kf:Nat):Nat→List Nat→Int→Prop
 | _,[],_=>False
 | v,k :: ws,x=>((k=0∨offK kt kf v k)∧oneOpen kt kf (v+1) ws x)∨(((k=1∧x=(v:Int))∨(k=2∧x=-(v:Int)))∧¬ hasK kt kf v k∧¬ offK kt kf v k∧allOff kt kf (v+1) ws)
def inG(x:Int)(s:PS):Prop:=(0<x∧s.gt.testBit x.toNat=true)∨(x<0∧s.gf.testBit (-x).toNat=true)
theorem inG_meet{x:Int}{s:PS}(h:inG x s)(c:Nat)(op:Int):inG x (meetN c op s):=by
 unfold meetN
 split
 ·exact h
 ·split
  ·exact h
  ·rcases h with⟨h1,h2⟩ | ⟨h1,h2⟩
   ·exact .inl ⟨h1,by show(s.gt|||posB op).testBit _=true;rw[Nat.testBit_or,h2];rfl⟩
   ·exact .inr ⟨h1,by show(s.gf|||negB op).testBit _=true;rw[Nat.testBit_or,h2];rfl⟩
theorem cl_meet{s:PS}(h:s.cl=true)(c:Nat)(op:Int):(meetN c op s).cl=true:=by
 unfold meetN
 split
 ·exact h
 ·split
  ·rfl
  ·exact h
theorem visit_keep{ns:List Nd}{kt kf:Nat}(m a v:Nat)(op:Int)(s:PS)(h:m+v=11)(hv:1≤v)(ho:op=0∨litB op=true):(∀ x,inG x s→inG x (visitN ns kt kf m a v op s))∧(s.cl=true→(visitN ns kt kf m a v op s).cl=true) :=
 visitN_rel (fun s r=>(∀ x,inG x s→inG x r)∧(s.cl=true→r.cl=true)) (fun _=>⟨fun _ h=>h,fun h=>h⟩) (fun _ _ _ h h'=>⟨fun x q=>h'.1 x (h.1 x q),fun q=>h'.2 (h.2 q)⟩) (fun c op _ _=>⟨fun _ q=>inG_meet q c op,fun q=>cl_meet q c op⟩) m a v op s h hv ho
theorem lit_grown{x:Int}(hx:litB x=true){s:PS}{c:Nat}(hc:c≠0):inG x (meetN c x s):=by
 simp only[litB,Bool.and_eq_true,bne_iff_ne,decide_eq_true_eq] at hx
 unfold meetN
 rw[if_neg hc,if_neg hx.1.1]
 by_cases hp:0<x
 ·refine .inl ⟨hp,?_⟩
  show(s.gt|||posB x).testBit _=true
  unfold posB
  rw[if_pos hp,Nat.testBit_or,Nat.testBit_two_pow]
  simp
 ·refine .inr ⟨by omega,?_⟩
  show(s.gf|||negB x).testBit _=true
  unfold negB
  rw[if_neg hp,Nat.testBit_or,Nat.testBit_two_pow]
  simp
theorem visit_complete(ns:List Nd)(kt kf:Nat):∀ (m a v:Nat) (op:Int) (s:PS),m+v=11→1≤v→(op=0∨litB op=true)→(visitN ns kt kf m a v op s).cl=false →
  ∀ ws,ws.length=m→(∀ k∈ws,k<3)→leafP ns a ws≠0→(op=0→¬ allOff kt kf v ws)∧(op≠0→allOff kt kf v ws→inG op (visitN ns kt kf m a v op s))∧(op=0→∀ x,oneOpen kt kf v ws x→inG x (visitN ns kt kf m a v op s)):=by
 intro m
 induction m with
 | zero =>
  intro a v op s _ _ ho hc ws hl _ hleaf
  have:ws=[]:=List.eq_nil_of_length_eq_zero hl
  subst this
  have hleaf':(ns.getD a nd0).c≠0:=hleaf
  simp only[visitN] at hc ⊢
  by_cases hs:s.cl=true
  ·rw[if_pos hs] at hc;rw[hs] at hc;simp at hc
  ·rw[if_neg hs] at hc ⊢
   refine⟨fun h0 _=>?_,fun h0 _=>lit_grown (ho.resolve_left h0) hleaf',fun _ x h=>h.elim⟩
   unfold meetN at hc
   rw[if_neg hleaf',if_pos h0] at hc
   simp at hc
 | succ m ih =>
  intro a v op s hmv hv ho hc ws hl h3 hleaf
  cases ws with
  | nil=>simp at hl
  | cons k ws =>
   have hl':ws.length=m:=by simpa using hl
   have h3':∀ j∈ws,j<3:=fun j hj=>h3 j (by simp[hj])
   have hk3:k<3:=h3 k (by simp)
   have hnz:(ns.getD a nd0).nx k≠0:=by
    intro e
    apply hleaf
    simp only[leafP,e,if_true]
   have hq:leafP ns ((ns.getD a nd0).nx k) ws≠0:=by
    have:=hleaf
    simp only[leafP,hnz,if_false] at this
    exact this
   have hl1:litB (v:Int)=true:=by simp only[litB,Bool.and_eq_true,bne_iff_ne,decide_eq_true_eq];omega
   have hl2:litB (-(v:Int))=true:=by simp only[litB,Bool.and_eq_true,bne_iff_ne,decide_eq_true_eq];omega
   have hp:=has_pos kt kf hv (show v≤10 by omega)
   have hn:=has_neg kt kf hv (show v≤10 by omega)
   have keep:=fun (a:Nat) (op:Int) (ho:op=0∨litB op=true) (s:PS)=>visit_keep (ns:=ns) (kt:=kt) (kf:=kf) m a (v+1) op s (by omega) (by omega) ho
   simp only[visitN,hp,hn] at hc ⊢
   by_cases hs:s.cl=true
   ·rw[if_pos hs] at hc;rw[hs] at hc;simp at hc
   rw[if_neg hs] at hc ⊢
   generalize e1:(if (ns.getD a nd0).n0=0 then s else visitN ns kt kf m (ns.getD a nd0).n0 (v+1) op s)=s1 at hc ⊢
   generalize e2:(if (ns.getD a nd0).n1=0 then s1 else if kf.testBit v=true then visitN ns kt kf m (ns.getD a nd0).n1 (v+1) op s1 else if op=0∧kt.testBit v=false then visitN ns kt kf m (ns.getD a nd0).n1 (v+1) (v:Int) s1 else s1)=s2 at hc ⊢
   generalize e3:(if (ns.getD a nd0).n2=0 then s2 else if kt.testBit v=true then visitN ns kt kf m (ns.getD a nd0).n2 (v+1) op s2 else if op=0∧kf.testBit v=false then visitN ns kt kf m (ns.getD a nd0).n2 (v+1) (-(v:Int)) s2 else s2)=s3 at hc ⊢
   have k23:(∀ x,inG x s2→inG x s3)∧(s2.cl=true→s3.cl=true):=by
    rw[← e3]
    split
    ·exact⟨fun _ h=>h,fun h=>h⟩
    ·split
     ·exact keep _ _ ho _
     ·split
      ·exact keep _ _ (.inr hl2) _
      ·exact⟨fun _ h=>h,fun h=>h⟩
   have k12:(∀ x,inG x s1→inG x s2)∧(s1.cl=true→s2.cl=true):=by
    rw[← e2]
    split
    ·exact⟨fun _ h=>h,fun h=>h⟩
    ·split
     ·exact keep _ _ ho _
     ·split
      ·exact keep _ _ (.inr hl1) _
      ·exact⟨fun _ h=>h,fun h=>h⟩
   have c2:s2.cl=false:=by
    cases h:s2.cl with
    | false=>rfl
    | true=>rw[k23.2 h] at hc;simp at hc
   have c1:s1.cl=false:=by
    cases h:s1.cl with
    | false=>rfl
    | true=>rw[k12.2 h] at c2;simp at c2
   have hk:k=0∨k=1∨k=2:=by omega
   rcases hk with rfl|rfl|rfl
   ·have hnz':(ns.getD a nd0).n0≠0:=hnz
    rw[if_neg hnz'] at e1
    obtain⟨q1,q2,q3⟩:=ih (ns.getD a nd0).n0 (v+1) op s (by omega) (by omega) ho (by rw[e1];exact c1) ws hl' h3' hq
    change (op≠0→allOff kt kf (v+1) ws→inG op (visitN ns kt kf m (ns.getD a nd0).n0 (v+1) op s)) at q2
    change (op=0→∀ x,oneOpen kt kf (v+1) ws x→inG x (visitN ns kt kf m (ns.getD a nd0).n0 (v+1) op s)) at q3
    rw[e1] at q2 q3
    refine⟨fun h0 h=>q1 h0 h.2,fun h0 h=>k23.1 _ (k12.1 _ (q2 h0 h.2)),fun h0 x h=>?_⟩
    rcases h with⟨_,h⟩ | ⟨h,_⟩
    ·exact k23.1 _ (k12.1 _ (q3 h0 x h))
    ·rcases h with⟨h,_⟩ | ⟨h,_⟩ <;> omega
   ·have hnz':(ns.getD a nd0).n1≠0:=hnz
    rw[if_neg hnz'] at e2
    by_cases hf:kf.testBit v=true
    ·rw[if_pos hf] at e2
     obtain⟨q1,q2,q3⟩:=ih (ns.getD a nd0).n1 (v+1) op s1 (by omega) (by omega) ho (by rw[e2];exact c2) ws hl' h3' hq
     change (op≠0→allOff kt kf (v+1) ws→inG op (visitN ns kt kf m (ns.getD a nd0).n1 (v+1) op s1)) at q2
     change (op=0→∀ x,oneOpen kt kf (v+1) ws x→inG x (visitN ns kt kf m (ns.getD a nd0).n1 (v+1) op s1)) at q3
     rw[e2] at q2 q3
     refine⟨fun h0 h=>q1 h0 h.2,fun h0 h=>k23.1 _ (q2 h0 h.2),fun h0 x h=>?_⟩
     rcases h with⟨_,h⟩ | ⟨_,_,h,_⟩
     ·exact k23.1 _ (q3 h0 x h)
     ·exact absurd (.inl ⟨rfl,hf⟩) h
    ·rw[if_neg hf] at e2
     have noff:¬ offK kt kf v 1:=by
      rintro(⟨_,h⟩ | ⟨h,_⟩)
      ·exact hf h
      ·omega
     refine⟨fun _ h=>?_,fun _ h=>?_,fun h0 x h=>?_⟩
     ·rcases h.1 with h | h
      ·omega
      ·exact noff h
     ·rcases h.1 with h | h
      ·omega
      ·exact absurd h noff
     ·rcases h with⟨h,_⟩ | ⟨h,hin,_,hoff⟩
      ·rcases h with h | h
       ·omega
       ·exact absurd h noff
      ·have hx:x=(v:Int):=by
        rcases h with⟨_,h⟩ | ⟨h,_⟩
        ·exact h
        ·omega
       have hkt:kt.testBit v=false:=by
        cases hb:kt.testBit v with
        | false=>rfl
        | true=>exact absurd (.inl ⟨rfl,hb⟩) hin
       rw[if_pos ⟨h0,hkt⟩] at e2
       obtain⟨_,q2,_⟩:=ih (ns.getD a nd0).n1 (v+1) (v:Int) s1 (by omega) (by omega) (.inr hl1) (by rw[e2];exact c2) ws hl' h3' hq
       change ((v:Int)≠0→allOff kt kf (v+1) ws→inG (v:Int) (visitN ns kt kf m (ns.getD a nd0).n1 (v+1) (v:Int) s1)) at q2
       rw[e2] at q2
       rw[hx]
       exact k23.1 _ (q2 (by omega) hoff)
   ·have hnz':(ns.getD a nd0).n2≠0:=hnz
    rw[if_neg hnz'] at e3
    by_cases hf:kt.testBit v=true
    ·rw[if_pos hf] at e3
     obtain⟨q1,q2,q3⟩:=ih (ns.getD a nd0).n2 (v+1) op s2 (by omega) (by omega) ho (by rw[e3];exact hc) ws hl' h3' hq
     change (op≠0→allOff kt kf (v+1) ws→inG op (visitN ns kt kf m (ns.getD a nd0).n2 (v+1) op s2)) at q2
     change (op=0→∀ x,oneOpen kt kf (v+1) ws x→inG x (visitN ns kt kf m (ns.getD a nd0).n2 (v+1) op s2)) at q3
     rw[e3] at q2 q3
     refine⟨fun h0 h=>q1 h0 h.2,fun h0 h=>q2 h0 h.2,fun h0 x h=>?_⟩
     rcases h with⟨_,h⟩ | ⟨_,_,h,_⟩
     ·exact q3 h0 x h
     ·exact absurd (.inr ⟨rfl,hf⟩) h
    ·rw[if_neg hf] at e3
     have noff:¬ offK kt kf v 2:=by
      rintro(⟨h,_⟩ | ⟨_,h⟩)
      ·omega
      ·exact hf h
     refine⟨fun _ h=>?_,fun _ h=>?_,fun h0 x h=>?_⟩
     ·rcases h.1 with h | h
      ·omega
      ·exact noff h
     ·rcases h.1 with h | h
      ·omega
      ·exact absurd h noff
     ·rcases h with⟨h,_⟩ | ⟨h,hin,_,hoff⟩
      ·rcases h with h | h
       ·omega
       ·exact absurd h noff
      ·have hx:x=-(v:Int):=by
        rcases h with⟨h,_⟩ | ⟨_,h⟩
        ·omega
        ·exact h
       have hkf:kf.testBit v=false:=by
        cases hb:kf.testBit v with
        | false=>rfl
        | true=>exact absurd (.inr ⟨rfl,hb⟩) hin
       rw[if_pos ⟨h0,hkf⟩] at e3
       obtain⟨_,q2,_⟩:=ih (ns.getD a nd0).n2 (v+1) (-(v:Int)) s2 (by omega) (by omega) (.inr hl2) (by rw[e3];exact hc) ws hl' h3' hq
       change (-(v:Int)≠0→allOff kt kf (v+1) ws→inG (-(v:Int)) (visitN ns kt kf m (ns.getD a nd0).n2 (v+1) (-(v:Int)) s2)) at q2
       rw[e3] at q2
       rw[hx]
       exact q2 (by omega) hoff
end Go.Proofs.YthboeppmlhbofabDoor
