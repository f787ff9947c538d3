import Derived.Test.YthboeppmlhbofaaDoorDca
import Derived.Test.YthboeppmlhbofaaDoorPrg
namespace Go.Proofs.YthboeppmlhbofaaDoor
open Go.RowKit Txt
set_option maxRecDepth 100000
set_option maxHeartbeats 8000000 in
theorem VY(B:Nat)(g:Nat)(a:Option Addr)(c:Nat)(xs:List Int)(r h l:Int)(ta:Option Addr)(ss:List Pr)(tc em se:Nat)(w:World)(hx:xs.length≤9223372036854775807)(hi:Ad w a xs)(hall:xs.all AK=true)(ht:(Aa xs&&&AZ xs != 0)=false)
  (hr:Ab w g 67 (DQ r h l ta ss.length tc em se)) (hown:w.ownsRow B 86 2 (.slice ta ss.length tc) ss.length (AQ ss)) (hB:B≤w.heap.size) (hsa:Cr w ta ss) (hsl:ss.length≤1000000) (hsb:Hid (∀ p∈ss,p.1<2^11∧p.2<2^11)) (hz0:Am (Aa xs,AZ xs)≠0) (hfit:Am (Aa xs,AZ xs)+Af ss≤150) (hse:se<2^11) :
  Calls Tryd.prog 25 #[.pointer (some ⟨g,0,none⟩),.slice a xs.length c] w fun e w'=>e=.returned (.int .i64 0)∧∃ a3 c3,Ab w' g 67 (DQ r h l a3 (ss.length+1) c3 em (se|||(Aa xs|||AZ xs))) ∧
   w'.ownsRow B 86 2 (.slice a3 (ss.length+1) c3) (ss.length+1) (AQ (ss++[(Aa xs,AZ xs)]))∧DW w w' g (.slice ta ss.length tc)∧((Value.slice a3 (ss.length+1) c3).ownBlock=(Value.slice ta ss.length tc).ownBlock∨∃ k,w.heap.size≤k∧(Value.slice a3 (ss.length+1) c3).ownBlock=some k):=by
 obtain⟨i1,gi,gz0,gz1,gz2⟩:=info_parts Tryd.infoSet
 have HO:=AA (Ea a c xs w hx hi)
 have e1:CO xs=Aa xs:=by simp[CO,hall]
 have e2:CN xs=AZ xs:=by simp[CN,hall]
 have HT:Hid (∀ w,Calls Tryd.prog 46 #[.agg #[.int .i64 (Aa xs:Nat),.int .i64 (AZ xs:Nat)]] w fun e w'=>e=.returned (.bool false)∧Below w.heap.size w w'):=fun w=>by
  have:=Cw (Aa xs) (AZ xs) (CF xs hall) (CA xs hall) w
  rwa [ht] at this
 have HZ:Hid (∀ w,Calls Tryd.prog 47 #[.agg #[.int .i64 (Aa xs:Nat),.int .i64 (AZ xs:Nat)]] w fun e w'=>e=.returned (.int .i64 (Am (Aa xs,AZ xs):Nat))∧Below w.heap.size w w'):=fun w=>Df (Aa xs) (AZ xs) (CF xs hall) (CA xs hall) w
 have HTT:Hid (∀ w',Below w.heap.size w w'→Calls Tryd.prog 37 #[.slice ta ss.length tc] w' fun e w''=>e=.returned (.int .i64 (Af ss:Nat))∧Below w'.heap.size w' w''):=fun w' hb=>EE ta tc ss w' (hsa.below hb) hsl hsb
 have HV:Hid (∀ w,Calls Tryd.prog 48 #[.agg #[.int .i64 (Aa xs:Nat),.int .i64 (AZ xs:Nat)]] w fun e w'=>e=.returned (.int .i64 (Aa xs|||AZ xs:Nat))∧Below w.heap.size w w'):=fun w=>Fw _ _ (CF xs hall) (CA xs hall) w
 have hlo:Aa xs|||AZ xs<2^11:=Nat.or_lt_two_pow (CF xs hall) (CA xs hall)
 have ho:=Kn se (Aa xs|||AZ xs) (by omega) (by omega)
 have d1:Hid (ss.length+1≤maxLen):=by show _≤_;unfold maxLen;omega
 have d2:Hid ((ss.length+1)*16≤140737488355328):=by show _≤_;omega
 have h2:=Eu ss
 rw[hall,e1,e2] at HO
 have h1:=Dh (Aa xs,AZ xs)
 generalize Am (Aa xs,AZ xs)=z at *
 generalize Af ss=tot at *
 generalize Aa xs|||AZ xs=vv at *
 generalize Aa xs=t at *
 generalize AZ xs=f at *
 have HR:=AA hr
 have HO':=AA hown
 have hgl:g<w.heap.size:=hr.lt
 have hfi:((z:Int)+tot≤150):=by omega
 clear hi hall e1 e2 ht hr hsa hown
 go_enter Tryd.func25,Tryd.ntmps25
 go_wp2_with fail
 refine(AE HO).mono ?_
 rintro e w2 ⟨rfl,hb2⟩
 have hs2:w.heap.size≤w2.heap.size:=hb2.size
 have HB:Hid (∀ x,Below w.heap.size w (w2.alloc x)):=fun x=>hb2.alloc hb2.size x
 clear hb2
 go_wp2_with fail
 refine(AE HT _).mono ?_
 have m0:=AX w2 [.int .i64 (t:Nat),.int .i64 (f:Nat)] 86 0 _ rfl
 have m1:=AX w2 [.int .i64 (t:Nat),.int .i64 (f:Nat)] 86 1 _ rfl
 rw[FR] at m0 m1
 simp only[Nat.zero_add] at m0 m1
 have e3:w2.heap.size<(w2.alloc (.cells #[.int .i64 (t:Nat),.int .i64 (f:Nat)] 86)).heap.size:=by simp
 have hbb:=HB.out (.cells #[.int .i64 (t:Nat),.int .i64 (f:Nat)] 86)
 generalize w2.alloc (.cells #[.int .i64 (t:Nat),.int .i64 (f:Nat)] 86)=wb at *
 rintro e w3 ⟨rfl,hb3⟩
 have F:Hid (∀ w',Below w3.heap.size w3 w'→w'.cell? ⟨w2.heap.size,0,none⟩=some (.int .i64 (t:Nat))∧w'.cell? ⟨w2.heap.size,1,none⟩=some (.int .i64 (f:Nat))∧w'.cell? ⟨g,3,none⟩=some (.slice ta ss.length tc)∧Below w.heap.size w w'):=by
  intro w' hb
  have hw3:Below w.heap.size w w3:=hbb.trans (hb3.mono (by omega))
  have hw':Below w.heap.size w w':=hw3.trans (hb.mono hw3.size)
  have hx3:w2.heap.size<w3.heap.size:=Nat.lt_of_lt_of_le e3 hb3.size
  exact⟨(hb.cell (p:=⟨w2.heap.size,0,none⟩) hx3).trans ((hb3.cell (p:=⟨w2.heap.size,0,none⟩) e3).trans m0),(hb.cell (p:=⟨w2.heap.size,1,none⟩) hx3).trans ((hb3.cell (p:=⟨w2.heap.size,1,none⟩) e3).trans m1),((AB HR.out hw').cell 3).trans rfl,hw'⟩
 have hx3:w2.heap.size<w3.heap.size:=Nat.lt_of_lt_of_le e3 hb3.size
 clear hb3 hbb m0 m1 e3 HB HT HO
 obtain⟨f0,f1,f2,_⟩:=F.out w3 (Below.refl _ _)
 go_wp2_with fail
 refine(AE HZ _).mono ?_
 rintro e w4 ⟨rfl,hb4⟩
 clear f0 f1 f2
 obtain⟨f0,f1,f2,_⟩:=F.out w4 hb4
 have Bc:Hid (Below w3.heap.size w3 w4.drew):=below_drewN hb4 1
 clear hb4
 have hwrap:IntKind.i64.wrap ((z:Int)+tot)=(z:Int)+tot:=by rw[IntKind.wrap_i64];omega
 have hzi:(((z:Nat):Int) == 0)=false:=by simp;omega
 go_wp2_with fail
 go_region_with (first
  | (go_at_call 47;refine(AE HZ _).mono ?_;rintro e wa ⟨rfl,hba⟩;have Bc:Hid (Below w3.heap.size w3 wa):=Bc.out.trans (hba.mono Bc.out.size);clear hba;obtain⟨f0,f1,f2,_⟩:=F.out wa Bc.out)
  | (go_at_call 37;refine(AE HTT _ (F.out _ Bc.out).2.2.2).mono ?_;rintro e wa ⟨rfl,hba⟩;have Bc:Hid (Below w3.heap.size w3 wa):=Bc.out.trans (hba.mono Bc.out.size);clear hba;obtain⟨f0,f1,f2,_⟩:=F.out wa Bc.out))
 all_goals
  clear HTT HZ hfit h1 h2 hz0
  have B4:=AA (F.out _ Bc.out).2.2.2
  generalize hwq:wa=w5 at *
  clear hwq
  have R2:=AA (AB HR.out B4.out)
  have hz5:w.heap.size≤w5.heap.size:=B4.out.size
  have hx5:w2.heap.size<w5.heap.size:=Nat.lt_of_lt_of_le hx3 Bc.out.size
  have k0:=f0
  have k1:=f1
  have c3':=f2
  have c3a:∀ o,(w5.alloc o).cell? ⟨g,3,none⟩=some (.slice ta ss.length tc):=fun o=>(((Below.refl w5.heap.size w5).alloc (Nat.le_refl _) o).cell (p:=⟨g,3,none⟩) (show g<w5.heap.size by omega)).trans c3'
  have HO2:Hid (w5.ownsRow B 86 2 (.slice ta ss.length tc) ss.length (AQ ss)):=AL HO'.out B4.out
  have hB2:B≤w5.heap.size:=by omega
  clear F Bc
  go_wp2_with fail
  go_region_law (
   (refine Bl _ rfl (.tmp 39) (.tmp 41) 64 rfl B 86 i1 (.agg #[.int .i64 0,.int .i64 0]) 2 16 Tryd.undSets gi gz0 gz1 gz2 rfl (by decide) (.slice ta ss.length tc) ss.length (AQ ss) rfl (by exact HO2.out.alloc _) ⟨w5.heap.size,0,none⟩ 1 1 [.int .i64 (t:Nat),.int .i64 (f:Nat)] rfl rfl (by exact AX w5 [.int .i64 (t:Nat),.int .i64 (f:Nat)] 86) (by intro u hu;simp at hu;rcases hu with rfl|rfl <;> rfl) (by decide) d1.out d2.out (by simp;omega) (w5.heap.size+1) (by simp) ?_;intro a3 c3 w6 hown3 hg3 hl3;
        have HG3:=AA (DE hg3);
        have R3:Hid (Ab w6 g 67 (DQ r h l ta ss.length tc em se)):=BU (AB R2.out ((Below.refl _ _).alloc (Nat.le_refl _) _)) (HO2.out.alloc _) Fx HG3.out;
        have g3:w6.cell? ⟨g,3,none⟩=some (.slice ta ss.length tc):=(R3.out.cell 3).trans rfl;
        have g3':=R3.out.frozen 3))
  all_goals
   have hbk:w6.heap[w2.heap.size]?=w5.heap[w2.heap.size]?:=(HG3.out.block w2.heap.size (by simp;omega) (fun e=>by have:=(HO'.out.lt _ e.symm).2;omega)).trans (heap_alloc_old w5 _ hx5)
   have q0:(w6.setCell ⟨g,3,none⟩ (.slice a3 (ss.length+1) c3)).cell? ⟨w2.heap.size,0,none⟩=some (.int .i64 (t:Nat)):=(World.cell?_of_block ((Below.heap_setCell w6 ⟨g,3,none⟩ _ w2.heap.size (by show w2.heap.size≠g;omega)).trans hbk)).trans k0
   have q1:(w6.setCell ⟨g,3,none⟩ (.slice a3 (ss.length+1) c3)).cell? ⟨w2.heap.size,1,none⟩=some (.int .i64 (f:Nat)):=(World.cell?_of_block ((Below.heap_setCell w6 ⟨g,3,none⟩ _ w2.heap.size (by show w2.heap.size≠g;omega)).trans hbk)).trans k1
   have R4:Hid (Ab (w6.setCell ⟨g,3,none⟩ (.slice a3 (ss.length+1) c3)) g 67 (DQ r h l a3 (ss.length+1) c3 em se)):=R3.out.set 3 _
   have O4:Hid ((w6.setCell ⟨g,3,none⟩ (.slice a3 (ss.length+1) c3)).ownsRow B 86 2 (.slice a3 (ss.length+1) c3) (ss.length+1) (AQ (ss++[(t,f)]))):=Ai R3.out 3 _ Fx ((Dv ss (t,f)) ▸ hown3)
   have K4:Hid (DW w (w6.setCell ⟨g,3,none⟩ (.slice a3 (ss.length+1) c3)) g (.slice ta ss.length tc)):=(((DW.of g _ B4.out).below ((Below.refl _ _).alloc (Nat.le_refl _) _)).grown HG3.out).set 3 _
   have L4:Hid ((Value.slice a3 (ss.length+1) c3).ownBlock=(Value.slice ta ss.length tc).ownBlock∨∃ k,w.heap.size≤k∧(Value.slice a3 (ss.length+1) c3).ownBlock=some k):=by
    rcases FD (N:=ss.length+1) hl3 with e | e
    ·exact .inl e
    ·exact .inr ⟨_,by omega,e⟩
   clear hbk hown3 hg3 hl3 g3 g3' HG3 R3 k0 k1
   generalize w6.setCell ⟨g,3,none⟩ (.slice a3 (ss.length+1) c3)=w7 at *
   have p5:w7.cell? ⟨g,5,none⟩=some (.int .i64 se):=(R4.out.cell 5).trans rfl
   have hg4:g<w7.heap.size:=R4.out.lt
   go_wp2_with fail
   go_region_with (go_at_call 48;refine(AE HV _).mono ?_;rintro e w8 ⟨rfl,hb5⟩;have B5:Hid (Below w7.heap.size w7 w8):=(below_drewN (Below.refl _ _) 1).trans hb5;have R5:=AA (AB R4.out B5.out);have s5:w8.cell? ⟨g,5,none⟩=some (.int .i64 se):=(R5.out.cell 5).trans rfl;have s5':=R5.out.frozen 5)
   all_goals
    go_wp2
    go_ret
    refine⟨rfl,a3,c3,R5.out.set 5 _,Ai R5.out 5 _ Fx (AL O4.out B5.out),?_,L4.out⟩
    exact(K4.out.below B5.out).set 5 _
theorem EV{w:World}{B:Nat}{ta:Option Addr}{tc:Nat}{ss:List Pr}(h:w.ownsRow B 86 2 (.slice ta ss.length tc) ss.length (AQ ss)):Cr w ta ss:=by
 rcases h.2 with⟨_,h0⟩ | ⟨g,cap,cur,hv,_⟩
 ·exact .inl (List.eq_nil_of_length_eq_zero h0)
 ·simp only[Value.slice.injEq] at hv
  obtain⟨rfl,_,rfl⟩:=hv
  refine .inr ⟨g,0,rfl,fun j hj=>?_⟩
  have key:∀ (l:List Pr) (j:Nat),j<l.length→(AQ l)[j*2]?=some (.int .i64 ((l.getD j (0,0)).1:Nat))∧(AQ l)[j*2+1]?=some (.int .i64 ((l.getD j (0,0)).2:Nat)):=by
   intro l
   induction l with
   | nil=>intro j hj;simp at hj
   | cons p l ih =>
    intro j hj
    cases j with
    | zero=>exact⟨rfl,rfl⟩
    | succ j =>
     have:=ih j (by simpa using hj)
     have e:AQ (p :: l)=.int .i64 (p.1:Nat) :: .int .i64 (p.2:Nat) :: AQ l:=by simp[AQ]
     rw[e,show(j+1)*2=j*2+1+1 by omega]
     simpa using this
  have h1:=h.cells (g:=g) rfl _ _ (key ss j hj).1
  have h2:=h.cells (g:=g) rfl _ _ (key ss j hj).2
  rw[FR] at h1 h2
  exact⟨h1,h2⟩
inductive AR where
 | err (e:Int)
 | ok (ss:List Pr) (em:Nat)
def Gc(xs:List Int)(ss:List Pr)(em:Nat):AR :=
 if xs.all AK=false then .err 4 else
  if (Aa xs&&&AZ xs != 0)=true then .ok ss em else
   if Am (Aa xs,AZ xs)=0 then .ok ss (em+1) else
    if 150<Am (Aa xs,AZ xs)+Af ss then .err 5 else .ok (ss++[(Aa xs,AZ xs)]) em
structure Xa(ss:List Pr):Prop where
 bd:∀ p∈ss,p.1<2^11∧p.2<2^11
 one:ss.length≤Af ss
 all:Af ss≤150
theorem TI{xs:List Int}{ss ss':List Pr}{em em':Nat}(h:Xa ss)(hr:Gc xs ss em=.ok ss' em'):Xa ss'∧em'≤em+1:=by
 unfold Gc at hr
 split at hr
 ·simp at hr
 ·rename_i hall
  have hal:xs.all AK=true:=by simpa using hall
  split at hr
  ·simp only[AR.ok.injEq] at hr;obtain⟨rfl,rfl⟩:=hr;exact⟨h,by omega⟩
  ·split at hr
   ·simp only[AR.ok.injEq] at hr;obtain⟨rfl,rfl⟩:=hr;exact⟨h,by omega⟩
   ·split at hr
    ·simp at hr
    ·rename_i hz hf
     simp only[AR.ok.injEq] at hr
     obtain⟨rfl,rfl⟩:=hr
     have hT:=Bf.set xs hal
     have e:Af (ss++[(Aa xs,AZ xs)])=Af ss+Am (Aa xs,AZ xs):=by simp[Af]
     refine⟨⟨fun p hp=>?_,?_,by omega⟩,by omega⟩
     ·rcases List.mem_append.1 hp with hp | hp
      ·exact h.bd p hp
      ·simp at hp;subst hp;exact⟨hT.lt,hT.lf⟩
     ·rw[GI,e];have:=h.one;omega
structure XZ(w:World)(B g:Nat)(ss:List Pr)(em:Nat)(ta:Option Addr)(tc se:Nat):Prop where
 row:Ab w g 67 (DQ 0 0 0 ta ss.length tc em se)
 own:w.ownsRow B 86 2 (.slice ta ss.length tc) ss.length (AQ ss)
 se:se<2^11
 base:B≤g
theorem XZ.below{w w':World}{B g:Nat}{ss:List Pr}{em:Nat}{ta:Option Addr}{tc se:Nat}(h:XZ w B g ss em ta tc se)(hb:Below w.heap.size w w'):XZ w' B g ss em ta tc se:=⟨AB h.row hb,AL h.own hb,h.se,h.base⟩
def W3(w:World)(B g:Nat)(r:AR)(e:Ending)(w':World):Prop:=Below B w w'∧match r with
 | .err k=>e=.returned (.int .i64 k)
 | .ok ss em=>e=.returned (.int .i64 0)∧∃ ta tc se,XZ w' B g ss em ta tc se
theorem PM{w w':World}{B g n:Nat}{ta:Option Addr}{tc:Nat}{xs:List Value}{s e:Nat}(hk:DW w w' g (.slice ta n tc))(ho:w.ownsRow B e s (.slice ta n tc) n xs)(hg:B≤g)(hB:B≤w.heap.size):Below B w w' :=
 ⟨hk.os,hk.tape,hk.output,hk.size,fun k hk'=>hk.block k (by omega) (by omega) (fun e=>by have:=(ho.lt k e).1;omega)⟩
theorem X0(w:World)(B g:Nat)(ss:List Pr)(em:Nat)(ta:Option Addr)(tc se:Nat)(h:XZ w B g ss em ta tc se)(hT:Xa ss)(a:Option Addr)(c:Nat)(xs:List Int)(hx:xs.length≤9223372036854775807)(hi:Ad w a xs)(hB:B≤w.heap.size)(hem:em≤9223372036854775806) :
  Calls Tryd.prog 25 #[.pointer (some ⟨g,0,none⟩),.slice a xs.length c] w (W3 w B g (Gc xs ss em)):=by
 have hsa:=EV h.own
 have h1:=hT.one
 have h2:=hT.all
 unfold Gc
 cases hall:xs.all AK with
 | false =>
  rw[if_pos rfl]
  refine(QS g a c xs w hx hi hall).mono ?_
  rintro e w' ⟨rfl,hb⟩
  exact⟨hb.mono hB,rfl⟩
 | true =>
  rw[if_neg (by simp)]
  cases ht:(Aa xs&&&AZ xs != 0) with
  | true =>
   rw[if_pos rfl]
   refine(NG g a c xs w hx hi hall ht).mono ?_
   rintro e w' ⟨rfl,hb⟩
   exact⟨hb.mono hB,rfl,ta,tc,se,h.below hb⟩
  | false =>
   rw[if_neg (by simp)]
   by_cases hz:Am (Aa xs,AZ xs)=0
   ·rw[if_pos hz]
    refine(Q7 g a c xs 0 0 0 ta ss tc em se w hx hi hall ht h.row hz hem).mono ?_
    rintro e w' ⟨rfl,hr,hkp⟩
    have hne:∀ b,(Value.slice ta ss.length tc).ownBlock=some b→b≠g:=fun b e eq=>DZ h.own h.row Fx (eq ▸ e)
    refine⟨⟨hkp.os,hkp.tape,hkp.output,hkp.size,fun k hk=>hkp.block k (by omega) (by have:=h.base;omega) (by simp[Value.ownBlock])⟩,rfl,ta,tc,se,hr,⟨h.own.1,?_⟩,h.se,h.base⟩
    rcases h.own.2 with hn | ⟨g',cap,cur,hv,q1,hg,r⟩
    ·exact .inl hn
    ·exact .inr ⟨g',cap,cur,hv,q1,(hkp.block g' (Array.getElem?_eq_some_iff.1 hg).1 (hne g' (by rw[hv];rfl)) (by simp[Value.ownBlock])).trans hg,r⟩
   ·rw[if_neg hz]
    by_cases hf:150<Am (Aa xs,AZ xs)+Af ss
    ·rw[if_pos hf]
     refine(TJ g a c xs 0 0 0 ta ss tc em se w hx hi hall ht h.row hsa (by omega) hT.bd hz hf).mono ?_
     rintro e w' ⟨rfl,hb⟩
     exact⟨hb.mono hB,rfl⟩
    ·rw[if_neg hf]
     refine(VY B g a c xs 0 0 0 ta ss tc em se w hx hi hall ht h.row h.own hB hsa (by omega) hT.bd hz (by omega) h.se).mono ?_
     rintro e w' ⟨rfl,a3,c3,hr,ho,hkp,_⟩
     have hTw:=Bf.set xs hall
     exact⟨PM hkp h.own h.base hB,rfl,a3,c3,_,by rw[GI];exact hr,by rw[GI];exact ho,Nat.or_lt_two_pow h.se (Nat.or_lt_two_pow hTw.lt hTw.lf),h.base⟩
end Go.Proofs.YthboeppmlhbofaaDoor
