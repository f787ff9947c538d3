import Derived.Test.YthboeppmlhbofabDoorLba
namespace Go.Proofs.YthboeppmlhbofabDoor
open Go.RowKit Txt
set_option maxRecDepth 100000
set_option maxHeartbeats 8000000 in
theorem add_setG(B:Nat)(g:Nat)(a:Option Addr)(c:Nat)(xs:List Int)(r h l:Int)(ta:Option Addr)(ss:List Pr)(tc em se:Nat)(v6 v7:Value)(lo un:Nat)(w:World)(hx:xs.length≤9223372036854775807)(hi:IntsAt w a xs)(hall:xs.all litB=true)(ht:(posN xs&&&negN xs != 0)=false)
  (hr:Row w g 68 (svCells r h l (.slice ta ss.length tc) em se v6 v7 lo un)) (hown:w.ownsRow B 84 2 (.slice ta ss.length tc) ss.length (prCells ss)) (hB:B≤w.heap.size) (hsa:SetsAt w ta ss) (hsl:ss.length≤1000000) (hsb:Hid (∀ p∈ss,p.1<2^11∧p.2<2^11)) (hz0:prSize (posN xs,negN xs)≠0) (hfit:prSize (posN xs,negN xs)+totalN ss≤150) (hse:se<2^11) :
  Calls Tryd.prog 23 #[.pointer (some ⟨g,0,none⟩),.slice a xs.length c] w fun e w'=>e=.returned (.int .i64 0)∧∃ a3 c3,Row w' g 68 (svCells r h l (.slice a3 (ss.length+1) c3) em (se|||(posN xs|||negN xs)) v6 v7 lo un) ∧
   w'.ownsRow B 84 2 (.slice a3 (ss.length+1) c3) (ss.length+1) (prCells (ss++[(posN xs,negN xs)]))∧Kept w w' g (.slice ta ss.length tc)∧((Value.slice a3 (ss.length+1) c3).ownBlock=(Value.slice ta ss.length tc).ownBlock∨∃ k,w.heap.size≤k∧(Value.slice a3 (ss.length+1) c3).ownBlock=some k):=by
 obtain⟨i1,gi,gz0,gz1,gz2⟩:=info_parts Tryd.infoSet
 have HO:=hide (of_any a c xs w hx hi)
 have e1:posOk xs=posN xs:=by simp[posOk,hall]
 have e2:negOk xs=negN xs:=by simp[negOk,hall]
 have HT:Hid (∀ w,Calls Tryd.prog 44 #[.agg #[.int .i64 (posN xs:Nat),.int .i64 (negN xs:Nat)]] w fun e w'=>e=.returned (.bool false)∧Below w.heap.size w w'):=fun w=>by
  have:=isTaut_any (posN xs) (negN xs) (posN_lt xs hall) (negN_lt xs hall) w
  rwa [ht] at this
 have HZ:Hid (∀ w,Calls Tryd.prog 45 #[.agg #[.int .i64 (posN xs:Nat),.int .i64 (negN xs:Nat)]] w fun e w'=>e=.returned (.int .i64 (prSize (posN xs,negN xs):Nat))∧Below w.heap.size w w'):=fun w=>lsize_any (posN xs) (negN xs) (posN_lt xs hall) (negN_lt xs hall) w
 have HTT:Hid (∀ w',Below w.heap.size w w'→Calls Tryd.prog 42 #[.slice ta ss.length tc] w' fun e w''=>e=.returned (.int .i64 (totalN ss:Nat))∧Below w'.heap.size w' w''):=fun w' hb=>total_any ta tc ss w' (hsa.below hb) hsl hsb
 have HV:Hid (∀ w,Calls Tryd.prog 46 #[.agg #[.int .i64 (posN xs:Nat),.int .i64 (negN xs:Nat)]] w fun e w'=>e=.returned (.int .i64 (posN xs|||negN xs:Nat))∧Below w.heap.size w w'):=fun w=>lvars_any _ _ (posN_lt xs hall) (negN_lt xs hall) w
 have hlo:posN xs|||negN xs<2^11:=Nat.or_lt_two_pow (posN_lt xs hall) (negN_lt xs hall)
 have ho:=or64 se (posN xs|||negN xs) (by omega) (by omega)
 have d1:Hid (ss.length+1≤maxLen):=by show _≤_;unfold maxLen;omega
 have d2:Hid ((ss.length+1)*16≤140737488355328):=by show _≤_;omega
 have h2:=totalN_le ss
 rw[hall,e1,e2] at HO
 have h1:=prSize_le (posN xs,negN xs)
 generalize prSize (posN xs,negN xs)=z at *
 generalize totalN ss=tot at *
 generalize posN xs|||negN xs=vv at *
 generalize posN xs=t at *
 generalize negN xs=f at *
 have HR:=hide hr
 have HO':=hide hown
 have hgl:g<w.heap.size:=hr.lt
 have hfi:((z:Int)+tot≤150):=by omega
 clear hi hall e1 e2 ht hr hsa hown
 go_enter Tryd.func23,Tryd.ntmps23
 go_wp2_with fail
 refine(unhide HO).mono ?_
 rintro e w2 ⟨rfl,hb2⟩
 have hs2:w.heap.size≤w2.heap.size:=hb2.size
 have HB:Hid (∀ x,Below w.heap.size w (w2.alloc x)):=fun x=>hb2.alloc hb2.size x
 clear hb2
 go_wp2_with fail
 refine(unhide HT _).mono ?_
 have m0:=new_cells1 w2 [.int .i64 (t:Nat),.int .i64 (f:Nat)] 84 0 _ rfl
 have m1:=new_cells1 w2 [.int .i64 (t:Nat),.int .i64 (f:Nat)] 84 1 _ rfl
 rw[addr0] at m0 m1
 simp only[Nat.zero_add] at m0 m1
 have e3:w2.heap.size<(w2.alloc (.cells #[.int .i64 (t:Nat),.int .i64 (f:Nat)] 84)).heap.size:=by simp
 have hbb:=HB.out (.cells #[.int .i64 (t:Nat),.int .i64 (f:Nat)] 84)
 generalize w2.alloc (.cells #[.int .i64 (t:Nat),.int .i64 (f:Nat)] 84)=wb at *
 rintro e w3 ⟨rfl,hb3⟩
 have F:Hid (∀ w',Below w3.heap.size w3 w'→w'.cell? ⟨w2.heap.size,0,none⟩=some (.int .i64 (t:Nat))∧w'.cell? ⟨w2.heap.size,1,none⟩=some (.int .i64 (f:Nat))∧w'.cell? ⟨g,3,none⟩=some (.slice ta ss.length tc)∧Below w.heap.size w w'):=by
  intro w' hb
  have hw3:Below w.heap.size w w3:=hbb.trans (hb3.mono (by omega))
  have hw':Below w.heap.size w w':=hw3.trans (hb.mono hw3.size)
  have hx3:w2.heap.size<w3.heap.size:=Nat.lt_of_lt_of_le e3 hb3.size
  exact⟨(hb.cell (p:=⟨w2.heap.size,0,none⟩) hx3).trans ((hb3.cell (p:=⟨w2.heap.size,0,none⟩) e3).trans m0),(hb.cell (p:=⟨w2.heap.size,1,none⟩) hx3).trans ((hb3.cell (p:=⟨w2.heap.size,1,none⟩) e3).trans m1),((row_below HR.out hw').cell 3).trans rfl,hw'⟩
 have hx3:w2.heap.size<w3.heap.size:=Nat.lt_of_lt_of_le e3 hb3.size
 clear hb3 hbb m0 m1 e3 HB HT HO
 obtain⟨f0,f1,f2,_⟩:=F.out w3 (Below.refl _ _)
 go_wp2_with fail
 refine(unhide HZ _).mono ?_
 rintro e w4 ⟨rfl,hb4⟩
 clear f0 f1 f2
 obtain⟨f0,f1,f2,_⟩:=F.out w4 hb4
 have Bc:Hid (Below w3.heap.size w3 w4.drew):=below_drewN hb4 1
 clear hb4
 have hwrap:IntKind.i64.wrap ((z:Int)+tot)=(z:Int)+tot:=by rw[IntKind.wrap_i64];omega
 have hzi:(((z:Nat):Int) == 0)=false:=by simp;omega
 go_wp2_with fail
 go_region_with (first
  | (go_at_call 45;refine(unhide HZ _).mono ?_;rintro e wa ⟨rfl,hba⟩;have Bc:Hid (Below w3.heap.size w3 wa):=Bc.out.trans (hba.mono Bc.out.size);clear hba;obtain⟨f0,f1,f2,_⟩:=F.out wa Bc.out)
  | (go_at_call 42;refine(unhide HTT _ (F.out _ Bc.out).2.2.2).mono ?_;rintro e wa ⟨rfl,hba⟩;have Bc:Hid (Below w3.heap.size w3 wa):=Bc.out.trans (hba.mono Bc.out.size);clear hba;obtain⟨f0,f1,f2,_⟩:=F.out wa Bc.out))
 all_goals
  clear HTT HZ hfit h1 h2 hz0
  have B4:=hide (F.out _ Bc.out).2.2.2
  generalize hwq:wa=w5 at *
  clear hwq
  have R2:=hide (row_below HR.out B4.out)
  have hz5:w.heap.size≤w5.heap.size:=B4.out.size
  have hx5:w2.heap.size<w5.heap.size:=Nat.lt_of_lt_of_le hx3 Bc.out.size
  have k0:=f0
  have k1:=f1
  have c3':=f2
  have c3a:∀ o,(w5.alloc o).cell? ⟨g,3,none⟩=some (.slice ta ss.length tc):=fun o=>(((Below.refl w5.heap.size w5).alloc (Nat.le_refl _) o).cell (p:=⟨g,3,none⟩) (show g<w5.heap.size by omega)).trans c3'
  have HO2:Hid (w5.ownsRow B 84 2 (.slice ta ss.length tc) ss.length (prCells ss)):=own_below HO'.out B4.out
  have hB2:B≤w5.heap.size:=by omega
  clear F Bc
  go_wp2_with fail
  go_region_law (
   (refine step_append_many _ rfl (.tmp 39) (.tmp 41) 65 rfl B 84 i1 (.agg #[.int .i64 0,.int .i64 0]) 2 16 Tryd.undSets gi gz0 gz1 gz2 rfl (by decide) (.slice ta ss.length tc) ss.length (prCells ss) rfl (by exact HO2.out.alloc _) ⟨w5.heap.size,0,none⟩ 1 1 [.int .i64 (t:Nat),.int .i64 (f:Nat)] rfl rfl (by exact new_cells1 w5 [.int .i64 (t:Nat),.int .i64 (f:Nat)] 84) (by intro u hu;simp at hu;rcases hu with rfl|rfl <;> rfl) (by decide) d1.out d2.out (by simp;omega) (w5.heap.size+1) (by simp) ?_;intro a3 c3 w6 hown3 hg3 hl3;
        have HG3:=hide (grown_undrew hg3);
        have R3:Hid (Row w6 g 68 (svCells r h l (.slice ta ss.length tc) em se v6 v7 lo un)):=row_grownN (row_below R2.out ((Below.refl _ _).alloc (Nat.le_refl _) _)) (HO2.out.alloc _) n_set HG3.out;
        have g3:w6.cell? ⟨g,3,none⟩=some (.slice ta ss.length tc):=(R3.out.cell 3).trans rfl;
        have g3':=R3.out.frozen 3))
  all_goals
   have hbk:w6.heap[w2.heap.size]?=w5.heap[w2.heap.size]?:=(HG3.out.block w2.heap.size (by simp;omega) (fun e=>by have:=(HO'.out.lt _ e.symm).2;omega)).trans (heap_alloc_old w5 _ hx5)
   have q0:(w6.setCell ⟨g,3,none⟩ (.slice a3 (ss.length+1) c3)).cell? ⟨w2.heap.size,0,none⟩=some (.int .i64 (t:Nat)):=(World.cell?_of_block ((Below.heap_setCell w6 ⟨g,3,none⟩ _ w2.heap.size (by show w2.heap.size≠g;omega)).trans hbk)).trans k0
   have q1:(w6.setCell ⟨g,3,none⟩ (.slice a3 (ss.length+1) c3)).cell? ⟨w2.heap.size,1,none⟩=some (.int .i64 (f:Nat)):=(World.cell?_of_block ((Below.heap_setCell w6 ⟨g,3,none⟩ _ w2.heap.size (by show w2.heap.size≠g;omega)).trans hbk)).trans k1
   have R4:Hid (Row (w6.setCell ⟨g,3,none⟩ (.slice a3 (ss.length+1) c3)) g 68 (svCells r h l (.slice a3 (ss.length+1) c3) em se v6 v7 lo un)):=R3.out.set 3 _
   have O4:Hid ((w6.setCell ⟨g,3,none⟩ (.slice a3 (ss.length+1) c3)).ownsRow B 84 2 (.slice a3 (ss.length+1) c3) (ss.length+1) (prCells (ss++[(t,f)]))):=own_setN R3.out 3 _ n_set ((prCells_snoc ss (t,f)) ▸ hown3)
   have K4:Hid (Kept w (w6.setCell ⟨g,3,none⟩ (.slice a3 (ss.length+1) c3)) g (.slice ta ss.length tc)):=(((Kept.of g _ B4.out).below ((Below.refl _ _).alloc (Nat.le_refl _) _)).grown HG3.out).set 3 _
   have L4:Hid ((Value.slice a3 (ss.length+1) c3).ownBlock=(Value.slice ta ss.length tc).ownBlock∨∃ k,w.heap.size≤k∧(Value.slice a3 (ss.length+1) c3).ownBlock=some k):=by
    rcases lies_own (N:=ss.length+1) hl3 with e | e
    ·exact .inl e
    ·exact .inr ⟨_,by omega,e⟩
   clear hbk hown3 hg3 hl3 g3 g3' HG3 R3 k0 k1
   generalize w6.setCell ⟨g,3,none⟩ (.slice a3 (ss.length+1) c3)=w7 at *
   have p5:w7.cell? ⟨g,5,none⟩=some (.int .i64 se):=(R4.out.cell 5).trans rfl
   have hg4:g<w7.heap.size:=R4.out.lt
   go_wp2_with fail
   go_region_with (go_at_call 46;refine(unhide HV _).mono ?_;rintro e w8 ⟨rfl,hb5⟩;have B5:Hid (Below w7.heap.size w7 w8):=(below_drewN (Below.refl _ _) 1).trans hb5;have R5:=hide (row_below R4.out B5.out);have s5:w8.cell? ⟨g,5,none⟩=some (.int .i64 se):=(R5.out.cell 5).trans rfl;have s5':=R5.out.frozen 5)
   all_goals
    go_wp2
    go_ret
    refine⟨rfl,a3,c3,R5.out.set 5 _,own_setN R5.out 5 _ n_set (own_below O4.out B5.out),?_,L4.out⟩
    exact(K4.out.below B5.out).set 5 _
end Go.Proofs.YthboeppmlhbofabDoor
