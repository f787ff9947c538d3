import Derived.Test.YthboeppmlhbofabDoorDca
import Derived.Test.YthboeppmlhbofabDoorPrg
namespace Go.Proofs.YthboeppmlhbofabDoor
open Go.RowKit Txt
set_option maxRecDepth 100000
set_option maxHeartbeats 8000000 in
theorem add_set(B:Nat)(g:Nat)(a:Option Addr)(c:Nat)(xs:List Int)(r h l:Int)(ta:Option Addr)(ss:List Pr)(tc em se:Nat)(w:World)(hx:xs.length≤9223372036854775807)(hi:IntsAt w a xs)(hall:xs.all litB=true)(ht:(posN xs&&&negN xs != 0)=false)
  (hr:Row w g 68 (solCells r h l ta ss.length tc em se)) (hown:w.ownsRow B 84 2 (.slice ta ss.length tc) ss.length (prCells ss)) (hB:B≤w.heap.size) (hsa:SetsAt w ta ss) (hsl:ss.length≤1000000) (hsb:Hid (∀ p∈ss,p.1<2^11∧p.2<2^11)) (hz0:prSize (posN xs,negN xs)≠0) (hfit:prSize (posN xs,negN xs)+totalN ss≤150) (hse:se<2^11) :
  Calls Tryd.prog 23 #[.pointer (some ⟨g,0,none⟩),.slice a xs.length c] w fun e w'=>e=.returned (.int .i64 0)∧∃ a3 c3,Row w' g 68 (solCells r h l a3 (ss.length+1) c3 em (se|||(posN xs|||negN xs))) ∧
   w'.ownsRow B 84 2 (.slice a3 (ss.length+1) c3) (ss.length+1) (prCells (ss++[(posN xs,negN xs)]))∧Kept w w' g (.slice ta ss.length tc)∧((Value.slice a3 (ss.length+1) c3).ownBlock=(Value.slice ta ss.length tc).ownBlock∨∃ k,w.heap.size≤k∧(Value.slice a3 (ss.length+1) c3).ownBlock=some k):=by
 obtain⟨i1,gi,gz0,gz1,gz2⟩:=info_parts Tryd.infoSet
 have HO:=hide (of_any a c xs w hx hi)
 have e1:posOk xs=posN xs:=by simp[posOk,hall]
 have e2:negOk xs=negN xs:=by simp[negOk,hall]
 have HT:Hid (∀ w,Calls Tryd.prog 44 #[.agg #[.int .i64 (posN xs:Nat),.int .i64 (negN xs:Nat)]] w fun e w'=>e=.returned (.bool false)∧Below w.heap.size w w'):=fun w=>by
  have:=isTaut_any (posN xs) (negN xs) (posN_lt xs hall) (negN_lt xs hall) w
  rwa [ht] at this
 have HZ:Hid (∀ w,Calls Tryd.prog 45 #[.agg #[.int .i64 (posN xs:Nat),.int .i64 (negN xs:Nat)]] w fun e w'=>e=.returned (.int .i64 (prSize (posN xs,negN xs):Nat))∧Below w.heap.size w w'):=fun w=>lsize_any (posN xs) (negN xs) (posN_lt xs hall) (negN_lt xs hall) w
 have HTT:Hid (∀ w',Below w.heap.size w w'→Calls Tryd.prog 42 #[.slice ta ss.length tc] w' fun e w''=>e=.returned (.int .i64 (totalN ss:Nat))∧Below w'.heap.size w' w''):=fun w' hb=>total_any ta tc ss w' (hsa.below hb) hsl hsb
 have HV:Hid (∀ w,Calls Tryd.prog 46 #[.agg #[.int .i64 (posN xs:Nat),.int .i64 (negN xs:Nat)]] w fun e w'=>e=.returned (.int .i64 (posN xs|||negN xs:Nat))∧Below w.heap.size w w'):=fun w=>lvars_any _ _ (posN_lt xs hall) (negN_lt xs hall) w
 have hlo:posN xs|||negN xs<2^11:=Nat.or_lt_two_pow (posN_lt xs hall) (negN_lt xs hall)
 have ho:=or64 se (posN xs|||negN xs) (by omega) (by omega)
 have d1:Hid (ss.length+1≤maxLen):=by show _≤_;unfold maxLen;omega
 have d2:Hid ((ss.length+1)*16≤140737488355328):=by show _≤_;omega
 have h2:=totalN_le ss
 rw[hall,e1,e2] at HO
 have h1:=prSize_le (posN xs,negN xs)
 generalize prSize (posN xs,negN xs)=z at *
 generalize totalN ss=tot at *
 generalize posN xs|||negN xs=vv at *
 generalize posN xs=t at *
 generalize negN xs=f at *
 have HR:=hide hr
 have HO':=hide hown
 have hgl:g<w.heap.size:=hr.lt
 have hfi:((z:Int)+tot≤150):=by omega
 clear hi hall e1 e2 ht hr hsa hown
 go_enter Tryd.func23,Tryd.ntmps23
 go_wp2_with fail
 refine(unhide HO).mono ?_
 rintro e w2 ⟨rfl,hb2⟩
 have hs2:w.heap.size≤w2.heap.size:=hb2.size
 have HB:Hid (∀ x,Below w.heap.size w (w2.alloc x)):=fun x=>hb2.alloc hb2.size x
 clear hb2
 go_wp2_with fail
 refine(unhide HT _).mono ?_
 have m0:=new_cells1 w2 [.int .i64 (t:Nat),.int .i64 (f:Nat)] 84 0 _ rfl
 have m1:=new_cells1 w2 [.int .i64 (t:Nat),.int .i64 (f:Nat)] 84 1 _ rfl
 rw[addr0] at m0 m1
 simp only[Nat.zero_add] at m0 m1
 have e3:w2.heap.size<(w2.alloc (.cells #[.int .i64 (t:Nat),.int .i64 (f:Nat)] 84)).heap.size:=by simp
 have hbb:=HB.out (.cells #[.int .i64 (t:Nat),.int .i64 (f:Nat)] 84)
 generalize w2.alloc (.cells #[.int .i64 (t:Nat),.int .i64 (f:Nat)] 84)=wb at *
 rintro e w3 ⟨rfl,hb3⟩
 have F:Hid (∀ w',Below w3.heap.size w3 w'→w'.cell? ⟨w2.heap.size,0,none⟩=some (.int .i64 (t:Nat))∧w'.cell? ⟨w2.heap.size,1,none⟩=some (.int .i64 (f:Nat))∧w'.cell? ⟨g,3,none⟩=some (.slice ta ss.length tc)∧Below w.heap.size w w'):=by
  intro w' hb
  have hw3:Below w.heap.size w w3:=hbb.trans (hb3.mono (by omega))
  have hw':Below w.heap.size w w':=hw3.trans (hb.mono hw3.size)
  have hx3:w2.heap.size<w3.heap.size:=Nat.lt_of_lt_of_le e3 hb3.size
  exact⟨(hb.cell (p:=⟨w2.heap.size,0,none⟩) hx3).trans ((hb3.cell (p:=⟨w2.heap.size,0,none⟩) e3).trans m0),(hb.cell (p:=⟨w2.heap.size,1,none⟩) hx3).trans ((hb3.cell (p:=⟨w2.heap.size,1,none⟩) e3).trans m1),((row_below HR.out hw').cell 3).trans rfl,hw'⟩
 have hx3:w2.heap.size<w3.heap.size:=Nat.lt_of_lt_of_le e3 hb3.size
 clear hb3 hbb m0 m1 e3 HB HT HO
 obtain⟨f0,f1,f2,_⟩:=F.out w3 (Below.refl _ _)
 go_wp2_with fail
 refine(unhide HZ _).mono ?_
 rintro e w4 ⟨rfl,hb4⟩
 clear f0 f1 f2
 obtain⟨f0,f1,f2,_⟩:=F.out w4 hb4
 have Bc:Hid (Below w3.heap.size w3 w4.drew):=below_drewN hb4 1
 clear hb4
 have hwrap:IntKind.i64.wrap ((z:Int)+tot)=(z:Int)+tot:=by rw[IntKind.wrap_i64];omega
 have hzi:(((z:Nat):Int) == 0)=false:=by simp;omega
 go_wp2_with fail
 go_region_with (first
  | (go_at_call 45;refine(unhide HZ _).mono ?_;rintro e wa ⟨rfl,hba⟩;have Bc:Hid (Below w3.heap.size w3 wa):=Bc.out.trans (hba.mono Bc.out.size);clear hba;obtain⟨f0,f1,f2,_⟩:=F.out wa Bc.out)
  | (go_at_call 42;refine(unhide HTT _ (F.out _ Bc.out).2.2.2).mono ?_;rintro e wa ⟨rfl,hba⟩;have Bc:Hid (Below w3.heap.size w3 wa):=Bc.out.trans (hba.mono Bc.out.size);clear hba;obtain⟨f0,f1,f2,_⟩:=F.out wa Bc.out))
 all_goals
  clear HTT HZ hfit h1 h2 hz0
  have B4:=hide (F.out _ Bc.out).2.2.2
  generalize hwq:wa=w5 at *
  clear hwq
  have R2:=hide (row_below HR.out B4.out)
  have hz5:w.heap.size≤w5.heap.size:=B4.out.size
  have hx5:w2.heap.size<w5.heap.size:=Nat.lt_of_lt_of_le hx3 Bc.out.size
  have k0:=f0
  have k1:=f1
  have c3':=f2
  have c3a:∀ o,(w5.alloc o).cell? ⟨g,3,none⟩=some (.slice ta ss.length tc):=fun o=>(((Below.refl w5.heap.size w5).alloc (Nat.le_refl _) o).cell (p:=⟨g,3,none⟩) (show g<w5.heap.size by omega)).trans c3'
  have HO2:Hid (w5.ownsRow B 84 2 (.slice ta ss.length tc) ss.length (prCells ss)):=own_below HO'.out B4.out
  have hB2:B≤w5.heap.size:=by omega
  clear F Bc
  go_wp2_with fail
  go_region_law (
   (refine step_append_many _ rfl (.tmp 39) (.tmp 41) 65 rfl B 84 i1 (.agg #[.int .i64 0,.int .i64 0]) 2 16 Tryd.undSets gi gz0 gz1 gz2 rfl (by decide) (.slice ta ss.length tc) ss.length (prCells ss) rfl (by exact HO2.out.alloc _) ⟨w5.heap.size,0,none⟩ 1 1 [.int .i64 (t:Nat),.int .i64 (f:Nat)] rfl rfl (by exact new_cells1 w5 [.int .i64 (t:Nat),.int .i64 (f:Nat)] 84) (by intro u hu;simp at hu;rcases hu with rfl|rfl <;> rfl) (by decide) d1.out d2.out (by simp;omega) (w5.heap.size+1) (by simp) ?_;intro a3 c3 w6 hown3 hg3 hl3;
        have HG3:=hide (grown_undrew hg3);
        have R3:Hid (Row w6 g 68 (solCells r h l ta ss.length tc em se)):=row_grownN (row_below R2.out ((Below.refl _ _).alloc (Nat.le_refl _) _)) (HO2.out.alloc _) n_set HG3.out;
        have g3:w6.cell? ⟨g,3,none⟩=some (.slice ta ss.length tc):=(R3.out.cell 3).trans rfl;
        have g3':=R3.out.frozen 3))
  all_goals
   have hbk:w6.heap[w2.heap.size]?=w5.heap[w2.heap.size]?:=(HG3.out.block w2.heap.size (by simp;omega) (fun e=>by have:=(HO'.out.lt _ e.symm).2;omega)).trans (heap_alloc_old w5 _ hx5)
   have q0:(w6.setCell ⟨g,3,none⟩ (.slice a3 (ss.length+1) c3)).cell? ⟨w2.heap.size,0,none⟩=some (.int .i64 (t:Nat)):=(World.cell?_of_block ((Below.heap_setCell w6 ⟨g,3,none⟩ _ w2.heap.size (by show w2.heap.size≠g;omega)).trans hbk)).trans k0
   have q1:(w6.setCell ⟨g,3,none⟩ (.slice a3 (ss.length+1) c3)).cell? ⟨w2.heap.size,1,none⟩=some (.int .i64 (f:Nat)):=(World.cell?_of_block ((Below.heap_setCell w6 ⟨g,3,none⟩ _ w2.heap.size (by show w2.heap.size≠g;omega)).trans hbk)).trans k1
   have R4:Hid (Row (w6.setCell ⟨g,3,none⟩ (.slice a3 (ss.length+1) c3)) g 68 (solCells r h l a3 (ss.length+1) c3 em se)):=R3.out.set 3 _
   have O4:Hid ((w6.setCell ⟨g,3,none⟩ (.slice a3 (ss.length+1) c3)).ownsRow B 84 2 (.slice a3 (ss.length+1) c3) (ss.length+1) (prCells (ss++[(t,f)]))):=own_setN R3.out 3 _ n_set ((prCells_snoc ss (t,f)) ▸ hown3)
   have K4:Hid (Kept w (w6.setCell ⟨g,3,none⟩ (.slice a3 (ss.length+1) c3)) g (.slice ta ss.length tc)):=(((Kept.of g _ B4.out).below ((Below.refl _ _).alloc (Nat.le_refl _) _)).grown HG3.out).set 3 _
   have L4:Hid ((Value.slice a3 (ss.length+1) c3).ownBlock=(Value.slice ta ss.length tc).ownBlock∨∃ k,w.heap.size≤k∧(Value.slice a3 (ss.length+1) c3).ownBlock=some k):=by
    rcases lies_own (N:=ss.length+1) hl3 with e | e
    ·exact .inl e
    ·exact .inr ⟨_,by omega,e⟩
   clear hbk hown3 hg3 hl3 g3 g3' HG3 R3 k0 k1
   generalize w6.setCell ⟨g,3,none⟩ (.slice a3 (ss.length+1) c3)=w7 at *
   have p5:w7.cell? ⟨g,5,none⟩=some (.int .i64 se):=(R4.out.cell 5).trans rfl
   have hg4:g<w7.heap.size:=R4.out.lt
   go_wp2_with fail
   go_region_with (go_at_call 46;refine(unhide HV _).mono ?_;rintro e w8 ⟨rfl,hb5⟩;have B5:Hid (Below w7.heap.size w7 w8):=(below_drewN (Below.refl _ _) 1).trans hb5;have R5:=hide (row_below R4.out B5.out);have s5:w8.cell? ⟨g,5,none⟩=some (.int .i64 se):=(R5.out.cell 5).trans rfl;have s5':=R5.out.frozen 5)
   all_goals
    go_wp2
    go_ret
    refine⟨rfl,a3,c3,R5.out.set 5 _,own_setN R5.out 5 _ n_set (own_below O4.out B5.out),?_,L4.out⟩
    exact(K4.out.below B5.out).set 5 _
theorem sets_own{w:World}{B:Nat}{ta:Option Addr}{tc:Nat}{ss:List Pr}(h:w.ownsRow B 84 2 (.slice ta ss.length tc) ss.length (prCells ss)):SetsAt w ta ss:=by
 rcases h.2 with⟨_,h0⟩ | ⟨g,cap,cur,hv,_⟩
 ·exact .inl (List.eq_nil_of_length_eq_zero h0)
 ·simp only[Value.slice.injEq] at hv
  obtain⟨rfl,_,rfl⟩:=hv
  refine .inr ⟨g,0,rfl,fun j hj=>?_⟩
  have key:∀ (l:List Pr) (j:Nat),j<l.length→(prCells l)[j*2]?=some (.int .i64 ((l.getD j (0,0)).1:Nat))∧(prCells l)[j*2+1]?=some (.int .i64 ((l.getD j (0,0)).2:Nat)):=by
   intro l
   induction l with
   | nil=>intro j hj;simp at hj
   | cons p l ih =>
    intro j hj
    cases j with
    | zero=>exact⟨rfl,rfl⟩
    | succ j =>
     have:=ih j (by simpa using hj)
     have e:prCells (p :: l)=.int .i64 (p.1:Nat) :: .int .i64 (p.2:Nat) :: prCells l:=by simp[prCells]
     rw[e,show(j+1)*2=j*2+1+1 by omega]
     simpa using this
  have h1:=h.cells (g:=g) rfl _ _ (key ss j hj).1
  have h2:=h.cells (g:=g) rfl _ _ (key ss j hj).2
  rw[addr0] at h1 h2
  exact⟨h1,h2⟩
inductive AR where
 | err (e:Int)
 | ok (ss:List Pr) (em:Nat)
def addR(xs:List Int)(ss:List Pr)(em:Nat):AR :=
 if xs.all litB=false then .err 4 else
  if (posN xs&&&negN xs != 0)=true then .ok ss em else
   if prSize (posN xs,negN xs)=0 then .ok ss (em+1) else
    if 150<prSize (posN xs,negN xs)+totalN ss then .err 5 else .ok (ss++[(posN xs,negN xs)]) em
structure Tak(ss:List Pr):Prop where
 bd:∀ p∈ss,p.1<2^11∧p.2<2^11
 one:ss.length≤totalN ss
 all:totalN ss≤150
theorem addR_tak{xs:List Int}{ss ss':List Pr}{em em':Nat}(h:Tak ss)(hr:addR xs ss em=.ok ss' em'):Tak ss'∧em'≤em+1:=by
 unfold addR at hr
 split at hr
 ·simp at hr
 ·rename_i hall
  have hal:xs.all litB=true:=by simpa using hall
  split at hr
  ·simp only[AR.ok.injEq] at hr;obtain⟨rfl,rfl⟩:=hr;exact⟨h,by omega⟩
  ·split at hr
   ·simp only[AR.ok.injEq] at hr;obtain⟨rfl,rfl⟩:=hr;exact⟨h,by omega⟩
   ·split at hr
    ·simp at hr
    ·rename_i hz hf
     simp only[AR.ok.injEq] at hr
     obtain⟨rfl,rfl⟩:=hr
     have hT:=Two.set xs hal
     have e:totalN (ss++[(posN xs,negN xs)])=totalN ss+prSize (posN xs,negN xs):=by simp[totalN]
     refine⟨⟨fun p hp=>?_,?_,by omega⟩,by omega⟩
     ·rcases List.mem_append.1 hp with hp | hp
      ·exact h.bd p hp
      ·simp at hp;subst hp;exact⟨hT.lt,hT.lf⟩
     ·rw[snoc_len,e];have:=h.one;omega
structure SvI(w:World)(B g:Nat)(ss:List Pr)(em:Nat)(ta:Option Addr)(tc se:Nat):Prop where
 row:Row w g 68 (solCells 0 0 0 ta ss.length tc em se)
 own:w.ownsRow B 84 2 (.slice ta ss.length tc) ss.length (prCells ss)
 se:se<2^11
 base:B≤g
theorem SvI.below{w w':World}{B g:Nat}{ss:List Pr}{em:Nat}{ta:Option Addr}{tc se:Nat}(h:SvI w B g ss em ta tc se)(hb:Below w.heap.size w w'):SvI w' B g ss em ta tc se:=⟨row_below h.row hb,own_below h.own hb,h.se,h.base⟩
def SvPost(w:World)(B g:Nat)(r:AR)(e:Ending)(w':World):Prop:=Below B w w'∧match r with
 | .err k=>e=.returned (.int .i64 k)
 | .ok ss em=>e=.returned (.int .i64 0)∧∃ ta tc se,SvI w' B g ss em ta tc se
theorem kept_below{w w':World}{B g n:Nat}{ta:Option Addr}{tc:Nat}{xs:List Value}{s e:Nat}(hk:Kept w w' g (.slice ta n tc))(ho:w.ownsRow B e s (.slice ta n tc) n xs)(hg:B≤g)(hB:B≤w.heap.size):Below B w w' :=
 ⟨hk.os,hk.tape,hk.output,hk.size,fun k hk'=>hk.block k (by omega) (by omega) (fun e=>by have:=(ho.lt k e).1;omega)⟩
theorem addS_any(w:World)(B g:Nat)(ss:List Pr)(em:Nat)(ta:Option Addr)(tc se:Nat)(h:SvI w B g ss em ta tc se)(hT:Tak ss)(a:Option Addr)(c:Nat)(xs:List Int)(hx:xs.length≤9223372036854775807)(hi:IntsAt w a xs)(hB:B≤w.heap.size)(hem:em≤9223372036854775806) :
  Calls Tryd.prog 23 #[.pointer (some ⟨g,0,none⟩),.slice a xs.length c] w (SvPost w B g (addR xs ss em)):=by
 have hsa:=sets_own h.own
 have h1:=hT.one
 have h2:=hT.all
 unfold addR
 cases hall:xs.all litB with
 | false =>
  rw[if_pos rfl]
  refine(add_lit g a c xs w hx hi hall).mono ?_
  rintro e w' ⟨rfl,hb⟩
  exact⟨hb.mono hB,rfl⟩
 | true =>
  rw[if_neg (by simp)]
  cases ht:(posN xs&&&negN xs != 0) with
  | true =>
   rw[if_pos rfl]
   refine(add_taut g a c xs w hx hi hall ht).mono ?_
   rintro e w' ⟨rfl,hb⟩
   exact⟨hb.mono hB,rfl,ta,tc,se,h.below hb⟩
  | false =>
   rw[if_neg (by simp)]
   by_cases hz:prSize (posN xs,negN xs)=0
   ·rw[if_pos hz]
    refine(add_empty g a c xs 0 0 0 ta ss tc em se w hx hi hall ht h.row hz hem).mono ?_
    rintro e w' ⟨rfl,hr,hkp⟩
    have hne:∀ b,(Value.slice ta ss.length tc).ownBlock=some b→b≠g:=fun b e eq=>own_ty h.own h.row n_set (eq ▸ e)
    refine⟨⟨hkp.os,hkp.tape,hkp.output,hkp.size,fun k hk=>hkp.block k (by omega) (by have:=h.base;omega) (by simp[Value.ownBlock])⟩,rfl,ta,tc,se,hr,⟨h.own.1,?_⟩,h.se,h.base⟩
    rcases h.own.2 with hn | ⟨g',cap,cur,hv,q1,hg,r⟩
    ·exact .inl hn
    ·exact .inr ⟨g',cap,cur,hv,q1,(hkp.block g' (Array.getElem?_eq_some_iff.1 hg).1 (hne g' (by rw[hv];rfl)) (by simp[Value.ownBlock])).trans hg,r⟩
   ·rw[if_neg hz]
    by_cases hf:150<prSize (posN xs,negN xs)+totalN ss
    ·rw[if_pos hf]
     refine(add_full g a c xs 0 0 0 ta ss tc em se w hx hi hall ht h.row hsa (by omega) hT.bd hz hf).mono ?_
     rintro e w' ⟨rfl,hb⟩
     exact⟨hb.mono hB,rfl⟩
    ·rw[if_neg hf]
     refine(add_set B g a c xs 0 0 0 ta ss tc em se w hx hi hall ht h.row h.own hB hsa (by omega) hT.bd hz (by omega) h.se).mono ?_
     rintro e w' ⟨rfl,a3,c3,hr,ho,hkp,_⟩
     have hTw:=Two.set xs hall
     exact⟨kept_below hkp h.own h.base hB,rfl,a3,c3,_,by rw[snoc_len];exact hr,by rw[snoc_len];exact ho,Nat.or_lt_two_pow h.se (Nat.or_lt_two_pow hTw.lt hTw.lf),h.base⟩
end Go.Proofs.YthboeppmlhbofabDoor
