import Derived.Test.YthboeppmlhbofaaGreatDoorWrt
namespace Go.Proofs.YthboeppmlhbofaaGreatDoor
open Go.RowKit Txt
set_option maxRecDepth 100000
theorem Tryz.infoInt:(Tryz.prog.info? 3).map (fun i=>(i.zero,i.size,i.bytes))=some (some (.int .i64 0),1,8):=by kernel_rfl
theorem Tryz.infoInts:(Tryz.prog.info? 24).map (fun i=>(i.zero,i.size,i.bytes))=some (some (.slice none 0 0),1,24):=by kernel_rfl
theorem Tryz.undInts:Tryz.prog.underlying 24=some (.slice 3):=by kernel_rfl
theorem Tryz.undLists:Tryz.prog.underlying 30=some (.slice 24):=by kernel_rfl
theorem AH(w:World)(l:List Value)(e:TypeId):∀ j u,l[j]?=some u→(w.alloc (.cells l.toArray e)).cell? ((⟨w.heap.size,0,none⟩:Addr).add j)=some u:=by
 intro j u hu
 have hadd:(⟨w.heap.size,0,none⟩:Addr).add j=⟨w.heap.size,j,none⟩:=by unfold Addr.add;split <;> simp_all
 rw[hadd,cell_of_row _ w.heap.size j l.toArray e (0,0) (heap_alloc_new w _)]
 simpa using hu
structure Ee(w:World)(B:Nat)(v:Value)(vs:List Value)(cl:List (List Int))(vo:Value)(op:List Int):Prop where
 lists:Js w B 24 3 v vs cl
 last:w.ownsRow B 3 1 vo op.length (AO op)
 apart:∀ u∈vs,Af u vo
theorem Ee.start(w:World)(B:Nat):Ee w B (.slice none 0 0) [] [] (.slice none 0 0) [] :=
 ⟨⟨World.ownsRow_nil _ _ _ _,trivial,List.Pairwise.nil⟩,World.ownsRow_nil _ _ _ _,by simp⟩
theorem ND:(3:Nat)≠24:=by decide
theorem Ee.push{w w':World}{B:Nat}{v:Value}{vs:List Value}{cl:List (List Int)}{vo:Value}{op:List Int}(h:Ee w B v vs cl vo op)(o:Obj)(x:Int){v':Value}
  (hown:w'.ownsRow B 3 1 v' (op.length+1) (AO op++[.int .i64 x])) (hg:(w.alloc o).grownBy w' vo.ownBlock) (hwh:v'.ownBlock=vo.ownBlock∨v'.ownBlock=some (w.alloc o).heap.size) :
  ∃ a c,v'=.slice a (op++[x]).length c∧Ee w' B v vs cl (.slice a (op++[x]).length c) (op++[x]):=by
 obtain⟨a,c,rfl,h2⟩:=JK (op++[x]) (by simp) (by simp[AO]) hown
 have hka:∀ u,Af u vo→∀ e n xs,w.ownsRow B e 1 u n xs→w'.ownsRow B e 1 u n xs:=fun u hu e n xs hh=>Aj (hh.alloc o) hg hu
 refine⟨a,c,rfl,⟨⟨hka v (AL ND h.last h.lists.top).symm _ _ _ h.lists.top,h.lists.each.map (fun u hu n xs hh=>hka u (h.apart u hu) _ n xs hh),h.lists.apart⟩,h2,fun u hu=>?_⟩⟩
 obtain⟨xs,hx⟩:=h.lists.each.mem hu
 exact Ca hx (h.apart u hu) (by simp) hwh
theorem Ee.close{w w':World}{B:Nat}{v:Value}{vs:List Value}{cl:List (List Int)}{vo:Value}{op:List Int}(h:Ee w B v vs cl vo op)(o:Obj){v':Value}
  (hown:w'.ownsRow B 24 1 v' (cl.length+1) (vs++[vo])) (hg:(w.alloc o).grownBy w' v.ownBlock) :
  ∃ a c,v'=.slice a (cl++[op]).length c∧Ee w' B (.slice a (cl++[op]).length c) (vs++[vo]) (cl++[op]) (.slice none 0 0) []:=by
 obtain⟨a,c,rfl,h2⟩:=Y8 (m:=(cl++[op]).length) (by simp) hown
 have hka:∀ u,Af u v→∀ e n xs,w.ownsRow B e 1 u n xs→w'.ownsRow B e 1 u n xs:=fun u hu e n xs hh=>Aj (hh.alloc o) hg hu
 refine⟨a,c,rfl,⟨⟨h2,?_,?_⟩,World.ownsRow_nil _ _ _ _,fun u _=>Dm u⟩⟩
 ·refine Aq.snoc (h.lists.each.map (fun u hu n xs hh=>?_)) (hka vo (AL ND h.last h.lists.top) _ _ _ h.last)
  obtain⟨ys,hy⟩:=h.lists.each.mem hu
  exact hka u (AL ND hy h.lists.top) _ n xs hh
 ·exact List.pairwise_append.2 ⟨h.lists.apart,by simp,fun u hu x hx=>by simp at hx;subst hx;exact h.apart u hu⟩
def Sl(B:Nat)(w:World)(r:dK)(e:Ending)(w':World):Prop :=
 Below B w w'∧match r with
 | .err x p=>e=.returned (.tuple #[.slice none 0 0,.int .i64 x,.int .i64 p])
 | .ok cl=>∃ a c vs,e=.returned (.tuple #[.slice a cl.length c,.int .i64 0,.int .i64 0])∧Js w' B 24 3 (.slice a cl.length c) vs cl
set_option maxHeartbeats 2000000 in
theorem Wy(s:ByteArray)(w:World)(hs:s.size≤9223372036854775807) :
  Calls Tryz.prog 85 #[.string s] w fun e w'=>Sl w.heap.size w (Cs (bs s)) e w':=by
 by_cases hbig:1000<s.size
 ·have H:Hid (Cs (bs s)=.err 2 0):=by show _=_;rw[Cs,if_pos (by rw[Aa];exact hbig)]
  go_enter Tryz.func85,Tryz.ntmps85
  go_wp2
  go_ret3
  rw[H.out]
  exact⟨Below.refl _ _,rfl⟩
 have hle:s.size≤1000:=by omega
 have hl0:=Yy (l:=bs s) (p:=0) (by omega)
 rw[Aa] at hl0
 have haw0:=IK (bs s) 0
 have HR:Hid (Cs (bs s)=rd s.size (s.size+1) [] [] ((bs s).drop (nxt (bs s) 0))):=by
  show _=_
  rw[Cs,if_neg (by rw[Aa];omega),Aa,RW]
 have hcall0:Calls Tryz.prog 111 #[.string s,.int .i64 0] w fun e w'=>e=.returned (.int .i64 (nxt (bs s) 0:Nat))∧w'=w:=Ku s 0 w hle (by omega)
 obtain⟨i0,hi,hz0,hz1,hz2⟩:=info_parts Tryz.infoInt
 obtain⟨i1,gi,gz0,gz1,gz2⟩:=info_parts Tryz.infoInts
 clear hs hbig
 generalize nxt (bs s) 0=j0 at hl0 haw0 HR hcall0
 have HA0:Hid (Ik ((bs s).drop j0)):=haw0
 clear haw0
 have HC:=AB hcall0
 clear hcall0
 go_enter Tryz.func85,Tryz.ntmps85
 go_wp2_with (go_at_call 111;refine(AE HC).mono ?_;rintro e w' ⟨rfl,hw⟩;obtain rfl:=hw.symm)
 clear HC
 go_loopw [5,6,7] (fun x5 x6 x7 wr=>∃ (j f:Nat) (cl:List (List Int)) (op:List Int) (a1 a2:Option Addr) (c1 c2:Nat) (vs:List Value),j≤s.size∧x7=.int .i64 j∧x5=.slice a1 cl.length c1∧x6=.slice a2 op.length c2 ∧
   Ee wr w.heap.size (.slice a1 cl.length c1) vs cl (.slice a2 op.length c2) op∧Below w.heap.size w wr∧cl.length≤j∧op.length≤j∧Hid (Ik ((bs s).drop j))∧s.size<j+f∧Hid (Cs (bs s)=rd s.size f cl op ((bs s).drop j))) (fun _ _ x7 _=>s.size - (intOf x7).toNat)
 case atStart=>exact⟨j0,s.size+1,[],[],none,none,0,0,[],hl0.1,rfl,rfl,rfl,Ee.start _ _,Below.refl _ _,Nat.zero_le _,Nat.zero_le _,HA0,by omega,HR⟩
 case round =>
  clear HA0 HR hl0
  obtain⟨j,f,cl,op,a1,a2,c1,c2,vs,hj,rfl,rfl,rfl,hrd,hbel,hcl,hop,HA,hf,HR⟩:=hrel
  obtain⟨f,rfl⟩:∃ g,f=g+1:=⟨f - 1,by omega⟩
  have hb0:w.heap.size≤wr.heap.size:=hbel.size
  by_cases hlt:j<s.size
  ·obtain⟨m,j',em,ej,hw1,hw2,hn2,hn1,haw,hst⟩:=Po (Gz hlt) HA.out
   rw[Aa] at hw2 hn1 hst
   have hcw:=MC s j wr (Nat.le_trans hle (by decide)) hj
   have hcx:∀ wz:World,Calls Tryz.prog 111 #[.string s,.int .i64 ((j+m:Nat):Int)] wz fun e w'=>e=.returned (.int .i64 (nxt (bs s) (j+m):Nat))∧w'=wz:=fun wz=>Ku s (j+m) wz hle hw2
   have hcn:=NF (s.extract j (j+m)) wr (by rw[ByteArray.size_extract];omega)
   rw[Ei,Nat.add_sub_cancel_left] at hcn
   rw[em] at hcw
   simp only[ej] at hcx
   have hstep:=hst f cl op
   clear em ej hst
   generalize BU (((bs s).drop j).take m)=N at hcn hstep
   obtain⟨n,er⟩:=N
   have HA':Hid (Ik ((bs s).drop j')):=haw
   have HCW:=AB hcw
   have HCN:=AB hcn
   have HCX:=AB hcx
   have HST:=AB hstep
   clear hcw hcn hcx hstep haw
   by_cases her:er=0
   ·subst her
    by_cases hn:n=0
    ·subst hn
     have HX:Hid (rd s.size (f+1) cl op ((bs s).drop j)=rd s.size f (cl++[op]) [] ((bs s).drop j')):=by show _=_;rw[HST.out];simp
     clear HST
     have d1:Hid (cl.length+1≤maxLen):=by show _≤_;unfold maxLen;omega
     have d2:Hid ((cl.length+1)*24≤140737488355328):=by show _≤_;omega
     go_wp2_with (first
      | (go_at_call 112;refine(AE HCW).mono ?_;rintro e w' ⟨rfl,hw⟩;obtain rfl:=hw.symm)
      | (go_at_call 113;refine(AE HCN).mono ?_;rintro e w' ⟨rfl,hw⟩;obtain rfl:=hw.symm)
      | (at_builtin;refine Au _ rfl (.tmp 37) (.tmp 39) 30 rfl w.heap.size 24 i1 (.slice none 0 0) 24 Tryz.undLists gi gz0 gz1 gz2 rfl (.slice a1 cl.length c1) cl.length vs rfl (hrd.lists.top.alloc _) ⟨wr.heap.size,0,none⟩ 1 1 [.slice a2 op.length c2] rfl rfl (AH wr [.slice a2 op.length c2] 24) (by intro u hu;simp at hu;subst hu;rfl) (by decide) d1.out d2.out (by simp;exact Nat.le_succ_of_le hb0) ?_;intro v3 w3 hown3 hg3 hwh3)
      | (go_at_call 111;refine(AE HCX _).mono ?_;rintro e w' ⟨rfl,hw⟩;obtain rfl:=hw.symm))
     obtain⟨a3,c3,hv3,hrd3⟩:=hrd.close _ hown3 hg3
     have hb3:Below w.heap.size w w3:=(hbel.alloc hbel.size _).grown hg3 (hbel.alloc hbel.size _).size (fun k hk=>(hrd.lists.top.lt k hk).1)
     go_roundw
     case rel=>exact⟨j',f,cl++[op],[],a3,none,c3,0,_,hn1,rfl,hv3,rfl,hrd3,hb3,by simp;omega,Nat.zero_le _,HA',by omega,HR.out.trans HX.out⟩
     case measure=>simp[intOf];omega
    ·have hnb:(n == 0)=false:=beq_eq_false_iff_ne.2 hn
     have HX:Hid (rd s.size (f+1) cl op ((bs s).drop j)=rd s.size f cl (op++[n]) ((bs s).drop j')):=by show _=_;rw[HST.out];simp[hn]
     clear HST hn
     have d1:Hid (op.length+1≤maxLen):=by show _≤_;unfold maxLen;omega
     have d2:Hid ((op.length+1)*8≤140737488355328):=by show _≤_;omega
     go_wp2_with (first
      | (go_at_call 112;refine(AE HCW).mono ?_;rintro e w' ⟨rfl,hw⟩;obtain rfl:=hw.symm)
      | (go_at_call 113;refine(AE HCN).mono ?_;rintro e w' ⟨rfl,hw⟩;obtain rfl:=hw.symm)
      | (at_builtin;refine Au _ rfl (.tmp 41) (.tmp 43) 24 rfl w.heap.size 3 i0 (.int .i64 0) 8 Tryz.undInts hi hz0 hz1 hz2 rfl (.slice a2 op.length c2) op.length (AO op) rfl (hrd.last.alloc _) ⟨wr.heap.size,0,none⟩ 1 1 [.int .i64 n] rfl rfl (AH wr [.int .i64 n] 3) (by intro u hu;simp at hu;subst hu;rfl) (by decide) d1.out d2.out (by simp;exact Nat.le_succ_of_le hb0) ?_;intro v3 w3 hown3 hg3 hwh3)
      | (go_at_call 111;refine(AE HCX _).mono ?_;rintro e w' ⟨rfl,hw⟩;obtain rfl:=hw.symm))
     obtain⟨a3,c3,hv3,hrd3⟩:=hrd.push _ n hown3 hg3 hwh3
     have hb3:Below w.heap.size w w3:=(hbel.alloc hbel.size _).grown hg3 (hbel.alloc hbel.size _).size (fun k hk=>(hrd.last.lt k hk).1)
     go_roundw
     case rel=>exact⟨j',f,cl,op++[n],a1,a3,c1,c3,vs,hn1,rfl,rfl,hv3,hrd3,hb3,by omega,by simp;omega,HA',by omega,HR.out.trans HX.out⟩
     case measure=>simp[intOf];omega
   ·have heb:(er != 0)=true:=bne_iff_ne.2 her
    have HX:Hid (Cs (bs s)=.err er j):=by show _=_;rw[HR.out,HST.out];simp[her]
    clear HST her
    go_wp2_with (first
     | (go_at_call 112;refine(AE HCW).mono ?_;rintro e w' ⟨rfl,hw⟩;obtain rfl:=hw.symm)
     | (go_at_call 113;refine(AE HCN).mono ?_;rintro e w' ⟨rfl,hw⟩;obtain rfl:=hw.symm))
    go_ret3
    rw[HX.out]
    exact⟨hbel,rfl⟩
  ·have hnil:(bs s).drop j=[]:=Cr s j (by omega)
   have hR2:=HR.out
   rw[hnil,Ty] at hR2
   clear hnil HR
   by_cases hop0:op=[]
   ·subst hop0
    have HX:Hid (Cs (bs s)=.ok cl):=by show _=_;rw[hR2];simp
    clear hR2
    go_wp2
    go_ret3
    rw[HX.out]
    exact⟨hbel,a1,c1,vs,rfl,hrd.lists⟩
   ·have HX:Hid (Cs (bs s)=.err 3 s.size):=by show _=_;rw[hR2];simp[hop0]
    have hpos:0<op.length:=List.length_pos_iff.2 hop0
    clear hR2 hop0
    go_wp2
    go_ret3
    rw[HX.out]
    exact⟨hbel,rfl⟩
set_option maxHeartbeats 400000 in
theorem ZH(s:ByteArray)(w:World)(hs:s.size≤9223372036854775807) :
  Calls Tryz.prog 51 #[.string s] w fun e w'=>Sl w.heap.size w (Cs (bs s)) e w':=by
 have h:=Wy s w hs
 have H:=AB h
 clear h
 cases hr:Cs (bs s) with
 | err x p =>
  rw[hr] at H
  go_enter Tryz.func51,Tryz.ntmps51
  go_wp2_with (go_at_call 85;refine(AE H).mono ?_;rintro e w' ⟨hb,rfl⟩)
  go_ret3
  exact⟨hb,rfl⟩
 | ok cl =>
  rw[hr] at H
  go_enter Tryz.func51,Tryz.ntmps51
  go_wp2_with (go_at_call 85;refine(AE H).mono ?_;rintro e w' ⟨hb,a,c,vs,rfl,hL⟩)
  go_ret3
  exact⟨hb,a,c,vs,rfl,hL⟩
set_option maxHeartbeats 400000 in
theorem EJ(c:Int)(w:World) :
  Calls Tryz.prog 86 #[.int .u8 c] w fun e w'=>e=.returned (.bool (MD c))∧w'=w:=by
 go_enter Tryz.func86,Tryz.ntmps86
 go_wp2
 all_goals go_ret
 all_goals refine⟨Am ?_,rfl⟩
 all_goals simp_all[MD]
set_option maxHeartbeats 400000 in
theorem Ob(n:Int)(w:World):Calls Tryz.prog 74 #[.int .i64 n] w fun e w'=>e=.returned (.bool (AT n))∧w'=w:=by
 go_enter Tryz.func74,Tryz.ntmps74
 go_wp2
 all_goals go_ret
 all_goals refine⟨Am ?_,rfl⟩
 all_goals first
  | (simp_all[AT];done)
  | (simp_all[AT];omega)
set_option maxHeartbeats 1000000 in
theorem OO(s:ByteArray)(k:Nat)(w:World)(hs:s.size≤1000)(hk:k≤s.size) :
  Calls Tryz.prog 87 #[.string s,.int .i64 k,.bool false] w fun e w'=>e=.returned (.int .i64 (k+Cg ((bs s).drop k):Nat))∧w'=w:=by
 go_enter Tryz.func87,Tryz.ntmps87
 go_wp2
 go_loop [1] (fun i=>∃ j:Nat,j≤s.size∧i=.int .i64 j∧Hid (j+Cg ((bs s).drop j)=k+Cg ((bs s).drop k))) (fun i=>s.size - (intOf i).toNat)
 case atStart=>exact⟨k,hk,rfl,rfl⟩
 case round =>
  obtain⟨j,hj,rfl,hl⟩:=hrel
  by_cases hlt:j<s.size
  ·have hd:=GC s j hlt
   cases hb:((s[j].toNat:Int) != 10)
   ·have HS:Hid (Cg ((bs s).drop j)=0):=by
     have h1:JG s[j]=true:=by simpa [JG] using hb
     show _=_
     rw[hd];simp[Cg,h1]
    clear hd
    go_wp2
    go_ret
    refine⟨CJ ?_,rfl⟩
    have h1:=hl.out;have h2:=HS.out
    show((j:Nat):Int)=_
    omega
   ·have h1:JG s[j]=false:=by simpa [JG] using hb
    have HS:Hid (Cg ((bs s).drop j)=Cg ((bs s).drop (j+1))+1):=by
     show _=_
     rw[hd];simp[Cg,h1]
    clear hd h1
    go_wp2
    go_round
    case rel=>exact⟨j+1,by omega,by go_num,by have h1:=hl.out;have h2:=HS.out;show _=_;omega⟩
    case measure=>simp[intOf];omega
  ·have HS:Hid (Cg ((bs s).drop j)=0):=by
    show _=_
    rw[Cr s j (by omega)];rfl
   go_wp2
   go_ret
   refine⟨CJ ?_,rfl⟩
   have h1:=hl.out;have h2:=HS.out
   show((j:Nat):Int)=_
   omega
set_option maxHeartbeats 1000000 in
theorem Lc(s:ByteArray)(k:Nat)(w:World)(hs:s.size≤4194304)(hk:k≤s.size) :
  Calls Tryz.prog 87 #[.string s,.int .i64 k,.bool true] w fun e w'=>e=.returned (.int .i64 (k+CN ((bs s).drop k):Nat))∧w'=w:=by
 go_enter Tryz.func87,Tryz.ntmps87
 go_wp2
 go_loop [1] (fun i=>∃ j:Nat,j≤s.size∧i=.int .i64 j∧Hid (j+CN ((bs s).drop j)=k+CN ((bs s).drop k))) (fun i=>s.size - (intOf i).toNat)
 case atStart=>exact⟨k,hk,rfl,rfl⟩
 case round =>
  obtain⟨j,hj,rfl,hl⟩:=hrel
  by_cases hlt:j<s.size
  ·have hd:=GC s j hlt
   cases hb:((s[j].toNat:Int) != 10)
   ·have HS:Hid (CN ((bs s).drop j)=0):=by
     have h1:JG s[j]=true:=by simpa [JG] using hb
     have h2:=J7 h1
     show _=_
     rw[hd];simp[CN,h2]
    clear hd
    go_wp2
    go_ret
    refine⟨CJ ?_,rfl⟩
    have h1:=hl.out;have h2:=HS.out
    show((j:Nat):Int)=_
    omega
   ·have h1:JG s[j]=false:=by simpa [JG] using hb
    cases hb2:((s[j].toNat:Int) != 32)
    ·have HS:Hid (CN ((bs s).drop j)=0):=by
      have h2:Ey s[j]=true:=by rw[bne_eq_false_iff_eq] at hb2;simp[Ey,MD,hb2]
      show _=_
      rw[hd];simp[CN,h2]
     clear hd h1
     go_wp2
     go_ret
     refine⟨CJ ?_,rfl⟩
     have h1:=hl.out;have h2:=HS.out
     show((j:Nat):Int)=_
     omega
    ·have HS:Hid (CN ((bs s).drop j)=CN ((bs s).drop (j+1))+1):=by
      have h2:Ey s[j]=false:=by
       rw[bne_iff_ne] at hb hb2
       simp[Ey,MD,hb,hb2]
      show _=_
      rw[hd];simp[CN,h2]
     clear hd h1
     go_wp2
     go_round
     case rel=>exact⟨j+1,by omega,by go_num,by have h1:=hl.out;have h2:=HS.out;show _=_;omega⟩
     case measure=>simp[intOf];omega
  ·have HS:Hid (CN ((bs s).drop j)=0):=by
    show _=_
    rw[Cr s j (by omega)];rfl
   go_wp2
   go_ret
   refine⟨CJ ?_,rfl⟩
   have h1:=hl.out;have h2:=HS.out
   show((j:Nat):Int)=_
   omega
set_option maxHeartbeats 2000000 in
theorem JH(s:ByteArray)(w:World)(hs:s.size≤4194304) :
  Calls Tryz.prog 88 #[.string s] w fun e w'=>e=.returned (.tuple #[.int .i64 (BU (bs s)).1,.int .i64 (BU (bs s)).2])∧w'=w:=by
 by_cases h48:bs s=[48]
 ·have hb:(s.toList == [48])=true:=by rw[GN,h48];rfl
  have H:Hid (BU (bs s)=(0,0)):=by show _=_;rw[h48];rfl
  clear h48
  go_enter Tryz.func88,Tryz.ntmps88
  go_wp2
  go_ret2
  exact⟨CY (congrArg Prod.fst H.out).symm (congrArg Prod.snd H.out).symm,rfl⟩
 have hb:(s.toList == [48])=false:=by rw[GN];exact beq_eq_false_iff_ne.2 h48
 by_cases h0:s.size=0
 ·have H:Hid (BU (bs s)=(0,3)):=by show _=_;rw[Mi s h0];rfl
  clear h48
  go_enter Tryz.func88,Tryz.ntmps88
  go_wp2
  go_ret2
  exact⟨CY (congrArg Prod.fst H.out).symm (congrArg Prod.snd H.out).symm,rfl⟩
 have hp:0<s.size:=by omega
 have hz:((s.size:Int) == 0)=false:=by rw[beq_eq_false_iff_ne];omega
 have hcs:=ML s hp
 cases h45:((s[0].toNat:Int) == 45)
 ·have HN:BU (bs s)=Gm false (bs s):=by
   unfold BU
   rw[if_neg h48,hcs]
   simp only[h45,Gm];rfl
  clear h48 h0
  cases h48:((s[0].toNat:Int) == 48)
  ·have HC:Hid (EV (bs s)=(bs s).all DQ):=by
    show _=_
    rw[hcs];simp only[EV,h48];rfl
   clear hcs
   have HN':=AB HN
   clear HN
   go_enter Tryz.func88,Tryz.ntmps88
   go_wp2
   have HN:=AE HN'
   clear HN'
   go_loop [6,7] (fun x i=>∃ (j:Nat) (n:Int),j≤s.size∧i=.int .i64 j∧x=.int .i64 n∧0≤n∧n≤109∧Hid (Dr (bs s)=Br n ((bs s).drop j))∧Hid (EV (bs s)=((bs s).drop j).all DQ)) (fun _ i=>s.size - (intOf i).toNat)
   case atStart=>exact⟨0,0,Nat.zero_le _,rfl,rfl,by omega,by omega,rfl,HC⟩
   case round =>
    obtain⟨j,n,hj,rfl,rfl,hn0,hn1,hl,hdj⟩:=hrel
    by_cases hlt:j<s.size
    ·have hd:=GC s j hlt
     have HE:Hid (((bs s).drop j).all DQ=(DQ s[j] && ((bs s).drop (j+1)).all DQ)):=by show _=_;rw[hd];rfl
     by_cases hg:48≤(s[j].toNat:Int)∧(s[j].toNat:Int)≤57
     ·have HD:Hid (DQ s[j]=true):=by show _=_;simp only[DQ,hg.1,hg.2];rfl
      obtain⟨g1,g2⟩:=hg
      by_cases hle:n≤10
      ·have HS:Hid (Br n ((bs s).drop j)=Br (10*n+((s[j].toNat:Int) - 48)) ((bs s).drop (j+1))):=by
        show _=_
        rw[hd];simp only[Br];rw[if_pos hle,Int.mul_comm]
       clear hd
       go_wp2
       go_round
       case rel=>exact⟨j+1,10*n+((s[j].toNat:Int) - 48),by omega,by go_num,by go_num,by omega,by omega,hl.out.trans HS.out,by show _=_;rw[hdj.out,HE.out,HD.out] <;> rfl⟩
       case measure=>simp[intOf];omega
      ·have HS1:Hid (Br n ((bs s).drop j)=n):=FL n (by omega) _
       have HS2:Hid (Br n ((bs s).drop (j+1))=n):=FL n (by omega) _
       have hgt:10<n:=by omega
       clear hd hle
       go_wp2
       go_round
       case rel=>exact⟨j+1,n,by omega,by go_num,rfl,hn0,hn1,hl.out.trans (HS1.out.trans HS2.out.symm),by show _=_;rw[hdj.out,HE.out,HD.out] <;> rfl⟩
       case measure=>simp[intOf];omega
     ·have HD:Hid (DQ s[j]=false):=by
       show _=_
       simp only[DQ,Bool.and_eq_false_iff,decide_eq_false_iff_not];omega
      have HF:Hid (BU (bs s)=(0,3)):=by
       show _=_
       have:EV (bs s)=false:=by rw[hdj.out,HE.out,HD.out] <;> rfl
       rw[HN];simp only[Gm,this];rfl
      by_cases h1:48≤(s[j].toNat:Int)
      ·have h2:57<(s[j].toNat:Int):=by omega
       clear hg hd HN
       go_wp2
       go_ret2
       exact⟨CY (congrArg Prod.fst HF.out).symm (congrArg Prod.snd HF.out).symm,rfl⟩
      ·have h2:(s[j].toNat:Int)<48:=by omega
       clear hg h1 hd HN
       go_wp2
       go_ret2
       exact⟨CY (congrArg Prod.fst HF.out).symm (congrArg Prod.snd HF.out).symm,rfl⟩
    ·have hnil:=Cr s j (by omega)
     have hv:Dr (bs s)=n:=by rw[hl.out,hnil];rfl
     have hc:EV (bs s)=true:=by rw[hdj.out,hnil];rfl
     by_cases hle:n≤10
     ·have HF:Hid (BU (bs s)=(n,0)):=by show _=_;rw[HN];simp only[Gm,hc,hv,if_pos hle];rfl
      clear hnil hv hc HN
      go_wp2
      go_ret2
      exact⟨CY (by rw[HF.out] <;> go_num) (congrArg Prod.snd HF.out).symm,rfl⟩
     ·have HF:Hid (BU (bs s)=(0,4)):=by show _=_;rw[HN];simp only[Gm,hc,hv,if_neg hle];rfl
      have hgt:10<n:=by omega
      clear hnil hv hc HN hle
      go_wp2
      go_ret2
      exact⟨CY (congrArg Prod.fst HF.out).symm (congrArg Prod.snd HF.out).symm,rfl⟩
  ·have H:Hid (BU (bs s)=(0,3)):=by
    have:EV (bs s)=false:=by rw[hcs];simp only[EV,h48];rfl
    show _=_
    rw[HN];simp only[Gm,this];rfl
   clear hcs HN
   go_enter Tryz.func88,Tryz.ntmps88
   go_wp2
   go_ret2
   exact⟨CY (congrArg Prod.fst H.out).symm (congrArg Prod.snd H.out).symm,rfl⟩
 ·have HN:BU (bs s)=Gm true (bs (s.extract 1 s.size)):=by
   unfold BU
   rw[if_neg h48,Uq]
   rw[hcs]
   simp only[h45,Gm];rfl
  clear h48 h0
  have hse:(s.extract 1 s.size).size=s.size - 1:=Oq s
  by_cases h1:s.size=1
  ·have H:Hid (BU (bs s)=(0,3)):=by
    have:EV (bs (s.extract 1 s.size))=false:=by rw[Mi _ (by rw[hse,h1])];rfl
    show _=_
    rw[HN];simp only[Gm,this];rfl
   have hsz:((s.size:Int) - 1 == 0)=true:=by rw[beq_iff_eq];omega
   clear hcs HN hse
   go_enter Tryz.func88,Tryz.ntmps88
   go_wp2
   go_ret2
   exact⟨CY (congrArg Prod.fst H.out).symm (congrArg Prod.snd H.out).symm,rfl⟩
  ·have hd1:0<(s.extract 1 s.size).size:=by rw[hse];omega
   have hd2:(s.extract 1 s.size).size≤4194304:=by rw[hse];omega
   clear hcs h1 hse
   obtain⟨d,hd⟩:∃ d,s.extract 1 s.size=d:=⟨_,rfl⟩
   rw[hd] at HN hd1 hd2
   have hz2:((d.size:Int) == 0)=false:=by rw[beq_eq_false_iff_ne];omega
   have hcs:=ML d hd1
   cases h48:((d[0].toNat:Int) == 48)
   ·have HC:Hid (EV (bs d)=(bs d).all DQ):=by
     show _=_
     rw[hcs];simp only[EV,h48];rfl
    clear hcs
    have HN':=AB HN
    clear HN
    go_enter Tryz.func88,Tryz.ntmps88
    go_wp2
    have HN:=AE HN'
    clear HN'
    go_loop [6,7] (fun x i=>∃ (j:Nat) (n:Int),j≤d.size∧i=.int .i64 j∧x=.int .i64 n∧0≤n∧n≤109∧Hid (Dr (bs d)=Br n ((bs d).drop j))∧Hid (EV (bs d)=((bs d).drop j).all DQ)) (fun _ i=>d.size - (intOf i).toNat)
    case atStart=>exact⟨0,0,Nat.zero_le _,rfl,rfl,by omega,by omega,rfl,HC⟩
    case round =>
     obtain⟨j,n,hj,rfl,rfl,hn0,hn1,hl,hdj⟩:=hrel
     by_cases hlt:j<d.size
     ·have hd:=GC d j hlt
      have HE:Hid (((bs d).drop j).all DQ=(DQ d[j] && ((bs d).drop (j+1)).all DQ)):=by show _=_;rw[hd];rfl
      by_cases hg:48≤(d[j].toNat:Int)∧(d[j].toNat:Int)≤57
      ·have HD:Hid (DQ d[j]=true):=by show _=_;simp only[DQ,hg.1,hg.2];rfl
       obtain⟨g1,g2⟩:=hg
       by_cases hle:n≤10
       ·have HS:Hid (Br n ((bs d).drop j)=Br (10*n+((d[j].toNat:Int) - 48)) ((bs d).drop (j+1))):=by
         show _=_
         rw[hd];simp only[Br];rw[if_pos hle,Int.mul_comm]
        clear hd
        go_wp2
        go_round
        case rel=>exact⟨j+1,10*n+((d[j].toNat:Int) - 48),by omega,by go_num,by go_num,by omega,by omega,hl.out.trans HS.out,by show _=_;rw[hdj.out,HE.out,HD.out] <;> rfl⟩
        case measure=>simp[intOf];omega
       ·have HS1:Hid (Br n ((bs d).drop j)=n):=FL n (by omega) _
        have HS2:Hid (Br n ((bs d).drop (j+1))=n):=FL n (by omega) _
        have hgt:10<n:=by omega
        clear hd hle
        go_wp2
        go_round
        case rel=>exact⟨j+1,n,by omega,by go_num,rfl,hn0,hn1,hl.out.trans (HS1.out.trans HS2.out.symm),by show _=_;rw[hdj.out,HE.out,HD.out] <;> rfl⟩
        case measure=>simp[intOf];omega
      ·have HD:Hid (DQ d[j]=false):=by
        show _=_
        simp only[DQ,Bool.and_eq_false_iff,decide_eq_false_iff_not];omega
       have HF:Hid (BU (bs s)=(0,3)):=by
        show _=_
        have:EV (bs d)=false:=by rw[hdj.out,HE.out,HD.out] <;> rfl
        rw[HN];simp only[Gm,this];rfl
       by_cases h1:48≤(d[j].toNat:Int)
       ·have h2:57<(d[j].toNat:Int):=by omega
        clear hg hd HN
        go_wp2
        go_ret2
        exact⟨CY (congrArg Prod.fst HF.out).symm (congrArg Prod.snd HF.out).symm,rfl⟩
       ·have h2:(d[j].toNat:Int)<48:=by omega
        clear hg h1 hd HN
        go_wp2
        go_ret2
        exact⟨CY (congrArg Prod.fst HF.out).symm (congrArg Prod.snd HF.out).symm,rfl⟩
     ·have hnil:=Cr d j (by omega)
      have hv:Dr (bs d)=n:=by rw[hl.out,hnil];rfl
      have hc:EV (bs d)=true:=by rw[hdj.out,hnil];rfl
      by_cases hle:n≤10
      ·have HF:Hid (BU (bs s)=(-n,0)):=by show _=_;rw[HN];simp only[Gm,hc,hv,if_pos hle];rfl
       clear hnil hv hc HN
       go_wp2
       go_ret2
       exact⟨CY (by rw[HF.out] <;> go_num) (congrArg Prod.snd HF.out).symm,rfl⟩
      ·have HF:Hid (BU (bs s)=(0,4)):=by show _=_;rw[HN];simp only[Gm,hc,hv,if_neg hle];rfl
       have hgt:10<n:=by omega
       clear hnil hv hc HN hle
       go_wp2
       go_ret2
       exact⟨CY (congrArg Prod.fst HF.out).symm (congrArg Prod.snd HF.out).symm,rfl⟩
   ·have H:Hid (BU (bs s)=(0,3)):=by
     have:EV (bs d)=false:=by rw[hcs];simp only[EV,h48];rfl
     show _=_
     rw[HN];simp only[Gm,this];rfl
    clear hcs HN
    go_enter Tryz.func88,Tryz.ntmps88
    go_wp2
    go_ret2
    exact⟨CY (congrArg Prod.fst H.out).symm (congrArg Prod.snd H.out).symm,rfl⟩
def DN(l:Int):Nat:=if 0<l then 2^(2*l - 2).toNat else 2^(-2*l - 1).toNat
def Ah(xs:List Int):Nat:=xs.foldl (fun a l=>a|||DN l) 0
set_option maxHeartbeats 1000000 in
theorem MJ(l:Int)(h:AT l=true)(w:World):Calls Tryz.prog 75 #[.int .i64 l] w fun e w'=>e=.returned (.int .i64 (DN l:Nat))∧w'=w:=by
 rcases GQ h with rfl|rfl|rfl|rfl|rfl|rfl|rfl|rfl|rfl|rfl|rfl|rfl|rfl|rfl|rfl|rfl|rfl|rfl|rfl|rfl
 all_goals
  clear h
  go_enter Tryz.func75,Tryz.ntmps75
  go_wp2
  go_ret
  exact⟨rfl,rfl⟩
theorem Jo(n:Int)(h0:0≤n)(h1:n<2^63):IntKind.i64.wrap n=n:=by rw[IntKind.wrap_i64];omega
theorem IU(a b:Nat)(ha:a<2^63)(hb:b<2^63):bits .or .i64 (a:Int) (b:Int)=((a|||b:Nat):Int):=(bits_nat .i64 63 (by decide) Jo a b ha hb).2
theorem EX(a b:Nat)(ha:a<2^63)(hb:b<2^63):bits .and .i64 (a:Int) (b:Int)=((a&&&b:Nat):Int):=(bits_nat .i64 63 (by decide) Jo a b ha hb).1
theorem PI{l:Int}(h:AT l=true):DN l<2^20:=by
 rcases GQ h with rfl|rfl|rfl|rfl|rfl|rfl|rfl|rfl|rfl|rfl|rfl|rfl|rfl|rfl|rfl|rfl|rfl|rfl|rfl|rfl <;> decide
theorem W4(xs:List Int)(x:Int):Ah (xs++[x])=Ah xs|||DN x:=by simp[Ah]
theorem Pq(xs:List Int)(h:xs.all AT=true):Ah xs<2^20:=by
 have key:∀ (ys:List Int) (a:Nat),ys.all AT=true→a<2^20→ys.foldl (fun a l=>a|||DN l) a<2^20:=by
  intro ys
  induction ys with
  | nil=>intro a _ h;exact h
  | cons y ys ih =>
   intro a hy ha
   simp only[List.all_cons,Bool.and_eq_true] at hy
   exact ih _ hy.2 (Nat.or_lt_two_pow ha (PI hy.1))
 exact key xs 0 h (by decide)
theorem Zr(xs:List Int)(k:Nat)(h:k<xs.length):xs.take (k+1)=xs.take k++[xs.getD k 0]:=by
 rw[List.take_succ_eq_append_getElem h,List.getD_eq_getElem?_getD,List.getElem?_eq_getElem h];rfl
def AJ(xs:List Int):Nat:=if xs.all AT then Ah xs else 0
theorem VN{a b:Int}{c d:Bool}(h:a=b)(h':c=d):Ending.returned (.tuple #[.int .i64 a,.bool c])=.returned (.tuple #[.int .i64 b,.bool d]):=by rw[h,h']
set_option maxHeartbeats 1000000 in
theorem FH(a:Option Addr)(c:Nat)(xs:List Int)(w:World)(hbd:xs.length≤9223372036854775807)(hr:AS w a xs) :
  Calls Tryz.prog 43 #[.slice a xs.length c] w fun e w'=>e=.returned (.tuple #[.int .i64 (AJ xs:Nat),.bool (xs.all AT)])∧w'=w:=by
 go_enter Tryz.func43,Tryz.ntmps43
 go_wp2
 go_loop [4,5] (fun x i=>∃ (k s:Nat),k≤xs.length∧i=.int .i64 k∧x=.int .i64 s∧s<1048576∧Hid (s=Ah (xs.take k))∧Hid (xs.all AT=(xs.drop k).all AT)) (fun _ i=>xs.length - (intOf i).toNat)
 case atStart=>exact⟨0,0,Nat.zero_le _,rfl,rfl,by decide,rfl,rfl⟩
 case round =>
  obtain⟨k,s,hk,rfl,rfl,hs,hset,hall⟩:=hrel
  by_cases hlt:k<xs.length
  ·obtain⟨b,off,rfl,hc⟩:=hr.get (by omega)
   have h1:=hc k hlt
   have HE:Hid ((xs.drop k).all AT=(AT (xs.getD k 0) && (xs.drop (k+1)).all AT)):=by show _=_;rw[Cc xs 0 k hlt];rfl
   have HT:Hid (Ah (xs.take (k+1))=Ah (xs.take k)|||DN (xs.getD k 0)):=by show _=_;rw[Zr xs k hlt,W4]
   clear hc
   generalize xs.getD k 0=x at h1 HE HT
   cases hx:AT x
   ·have HF:Hid (xs.all AT=false):=by show _=_;rw[hall.out,HE.out,hx];rfl
    go_wp2_with (go_at_call 74;refine(Ob _ _).mono ?_;rintro e w' ⟨rfl,hw⟩;obtain rfl:=hw.symm)
    go_ret2
    exact⟨VN (by simp[AJ,HF.out]) HF.out.symm,rfl⟩
   ·have HX:=AB hx
    have hbl:=PI hx
    have HO:Hid (bits .or .i64 (s:Int) (DN x:Int)=((s|||DN x:Nat):Int)):=IU s (DN x) (by omega) (by omega)
    have HL:Hid (s|||DN x<1048576):=Nat.or_lt_two_pow (n:=20) hs hbl
    go_wp2_with (first
     | (go_at_call 74;refine(Ob _ _).mono ?_;rintro e w' ⟨rfl,hw⟩;obtain rfl:=hw.symm)
     | (go_at_call 75;refine(MJ _ HX.out _).mono ?_;rintro e w' ⟨rfl,hw⟩;obtain rfl:=hw.symm))
    go_round
    case rel=>exact⟨k+1,s|||DN x,by omega,by go_num,congrArg (Value.int .i64) HO.out,HL.out,by show _=_;rw[HT.out,← hset.out],by show _=_;rw[hall.out,HE.out,HX.out];rfl⟩
    case measure=>simp[intOf];omega
  ·have HF:Hid (xs.all AT=true):=by show _=_;rw[hall.out,List.drop_eq_nil_of_le (by omega)];rfl
   have HT:Hid (Ah (xs.take k)=Ah xs):=by show _=_;rw[List.take_of_length_le (by omega)]
   go_wp2
   go_ret2
   exact⟨VN (by show((s:Nat):Int)=_;rw[hset.out,HT.out];simp[AJ,HF.out]) HF.out.symm,rfl⟩
theorem Qm{w w1 w2:World}(h:w.grownBy w1 none)(h':w1.grownBy w2 none):w.grownBy w2 none :=
 ⟨h'.os.trans h.os,h'.tape.trans h.tape,h'.output.trans h.output,Nat.le_trans h.size h'.size,fun k hk hn=>(h'.block k (Nat.lt_of_lt_of_le hk h.size) hn).trans (h.block k hk hn)⟩
theorem Xx(w:World)(l:List UInt8)(c:Nat):(convert 83 9 (.slice (some ⟨w.heap.size,0,none⟩) l.length c)).run Tryz.prog (w.alloc (.cells (c8 l).toArray 5))=.ok (.string ⟨l.toArray⟩) (w.alloc (.cells (c8 l).toArray 5)):=by
 have hb:Tryz.prog.underlying 5=some (.int .u8):=by kernel_rfl
 refine run_convert_bytes_back (w.alloc (.cells (c8 l).toArray 5)) _ _ 5 _ c l Tryz.undBytes hb Tryz.undString fun j hj=>?_
 exact Hy w (c8 l) 5 j _ (by simp[c8,hj])
theorem TP(k:Nat)(h:k≤9):Lib.itoa (k:Int)=[UInt8.ofNat (48+k)]:=by
 have:k=0∨k=1∨k=2∨k=3∨k=4∨k=5∨k=6∨k=7∨k=8∨k=9:=by omega
 rcases this with rfl|rfl|rfl|rfl|rfl|rfl|rfl|rfl|rfl|rfl <;> decide +kernel
set_option maxHeartbeats 1000000 in
theorem JZ(k:Nat)(h:k≤9)(w:World):Calls Tryz.prog 90 #[.int .i64 k] w fun e w'=>e=.returned (.string ⟨(Lib.itoa k).toArray⟩)∧w.grownBy w' none:=by
 rw[TP k h]
 have hcv:(convert 83 9 (.slice (some ⟨w.heap.size,0,none⟩) 1 1)).run Tryz.prog (w.alloc (.cells #[.int .u8 (48+(k:Int))] 5))=.ok (.string ⟨[UInt8.ofNat (48+k)].toArray⟩) (w.alloc (.cells #[.int .u8 (48+(k:Int))] 5)):=by
  have e:(48+(k:Int))=((UInt8.ofNat (48+k)).toNat:Int):=by
   rw[UInt8.toNat_ofNat'];omega
  rw[e]
  exact Xx w [UInt8.ofNat (48+k)] 1
 generalize UInt8.ofNat (48+k)=b at hcv
 go_enter Tryz.func90,Tryz.ntmps90
 go_wp2
 go_ret
 exact⟨rfl,World.grownBy_alloc _ _ _⟩
theorem YM{k:Nat}(h1:1≤k)(h2:k≤10):Lib.itoa (-(k:Int))=45 :: Lib.itoa (k:Int):=by
 have:k=1∨k=2∨k=3∨k=4∨k=5∨k=6∨k=7∨k=8∨k=9∨k=10:=by omega
 rcases this with rfl|rfl|rfl|rfl|rfl|rfl|rfl|rfl|rfl|rfl <;> decide +kernel
theorem YN:Lib.itoa 10=Lib.itoa ((1:Nat):Int)++Lib.itoa ((0:Nat):Int):=by decide +kernel
theorem Gc(s t:List UInt8):(⟨s.toArray⟩:ByteArray)++⟨t.toArray⟩=⟨(s++t).toArray⟩:=by
 apply ByteArray.ext
 simp
set_option maxHeartbeats 1000000 in
theorem Kd(w:World):Calls Tryz.prog 90 #[.int .i64 10] w fun e w'=>e=.returned (.string ⟨(Lib.itoa 10).toArray⟩)∧w.grownBy w' none:=by
 have h1:∀ w,Calls Tryz.prog 90 #[.int .i64 1] w fun e w'=>e=.returned (.string ⟨(Lib.itoa ((1:Nat):Int)).toArray⟩)∧w.grownBy w' none:=JZ 1 (by decide)
 have h0:∀ w,Calls Tryz.prog 90 #[.int .i64 0] w fun e w'=>e=.returned (.string ⟨(Lib.itoa ((0:Nat):Int)).toArray⟩)∧w.grownBy w' none:=JZ 0 (by decide)
 have e1:(Lib.itoa ((1:Nat):Int)).length≤3:=by decide +kernel
 have e0:(Lib.itoa ((0:Nat):Int)).length≤3:=by decide +kernel
 rw[YN]
 generalize Lib.itoa ((1:Nat):Int)=l1 at h1 e1
 generalize Lib.itoa ((0:Nat):Int)=l0 at h0 e0
 have H1:=AB h1
 have H0:=AB h0
 clear h1 h0
 go_enter Tryz.func90,Tryz.ntmps90
 go_wp2_with fail
 refine(AE H1 _).mono ?_
 rintro e w1 ⟨rfl,hg1⟩
 go_wp2_with fail
 refine(AE H0 _).mono ?_
 rintro e w2 ⟨rfl,hg2⟩
 go_wp2
 go_ret
 exact⟨congrArg (fun s=>Ending.returned (.string s)) (Gc l1 l0),Qm hg1 hg2⟩
theorem af{n:Int}(h:AT n=true):(∃ k:Nat,n=k∧k≤9)∨n=10∨∃ k:Nat,n=-(k:Int)∧1≤k∧k≤10:=by
 simp only[AT,Bool.and_eq_true,bne_iff_ne,decide_eq_true_eq] at h
 by_cases h0:0≤n
 ·by_cases h9:n≤9
  ·exact .inl ⟨n.toNat,by omega,by omega⟩
  ·exact .inr (.inl (by omega))
 ·exact .inr (.inr ⟨(-n).toNat,by omega,by omega,by omega⟩)
set_option maxHeartbeats 1000000 in
theorem TQ(n:Int)(h:AT n=true)(w:World):Calls Tryz.prog 90 #[.int .i64 n] w fun e w'=>e=.returned (.string ⟨(Lib.itoa n).toArray⟩)∧w.grownBy w' none:=by
 rcases af h with⟨k,rfl,hk⟩ | rfl | ⟨k,rfl,hk1,hk2⟩
 ·exact JZ k hk w
 ·exact Kd w
 ·have hc:∀ w,Calls Tryz.prog 90 #[.int .i64 (k:Int)] w fun e w'=>e=.returned (.string ⟨(Lib.itoa (k:Int)).toArray⟩)∧w.grownBy w' none:=by
   intro w
   by_cases h9:k≤9
   ·exact JZ k h9 w
   ·obtain rfl:k=10:=by omega
    exact Kd w
  have hl:(Lib.itoa (k:Int)).length≤3:=by
   have:k=1∨k=2∨k=3∨k=4∨k=5∨k=6∨k=7∨k=8∨k=9∨k=10:=by omega
   rcases this with rfl|rfl|rfl|rfl|rfl|rfl|rfl|rfl|rfl|rfl <;> decide +kernel
  rw[YM hk1 hk2]
  generalize Lib.itoa (k:Int)=l at hc hl
  have HC:=AB hc
  clear hc h
  go_enter Tryz.func90,Tryz.ntmps90
  go_wp2_with fail
  refine(AE HC _).mono ?_
  rintro e w1 ⟨rfl,hg1⟩
  go_wp2
  go_ret
  exact⟨congrArg (fun s=>Ending.returned (.string s)) (Gc [45] l),hg1⟩
end Go.Proofs.YthboeppmlhbofaaGreatDoor
