import Derived.Test.YthboeppmlhbofaaDoorWrt
namespace Go.Proofs.YthboeppmlhbofaaDoor
open Go.RowKit Txt
set_option maxRecDepth 100000
theorem Tryd.infoInt:(Tryd.prog.info? 3).map (fun i=>(i.zero,i.size,i.bytes))=some (some (.int .i64 0),1,8):=by kernel_rfl
theorem Tryd.infoInts:(Tryd.prog.info? 26).map (fun i=>(i.zero,i.size,i.bytes))=some (some (.slice none 0 0),1,24):=by kernel_rfl
theorem Tryd.undInts:Tryd.prog.underlying 26=some (.slice 3):=by kernel_rfl
theorem Tryd.undLists:Tryd.prog.underlying 22=some (.slice 26):=by kernel_rfl
theorem AX(w:World)(l:List Value)(e:TypeId):∀ j u,l[j]?=some u→(w.alloc (.cells l.toArray e)).cell? ((⟨w.heap.size,0,none⟩:Addr).add j)=some u:=by
 intro j u hu
 have hadd:(⟨w.heap.size,0,none⟩:Addr).add j=⟨w.heap.size,j,none⟩:=by unfold Addr.add;split <;> simp_all
 rw[hadd,cell_of_row _ w.heap.size j l.toArray e (0,0) (heap_alloc_new w _)]
 simpa using hu
structure EG(w:World)(B:Nat)(v:Value)(vs:List Value)(cl:List (List Int))(vo:Value)(op:List Int):Prop where
 lists:JY w B 26 3 v vs cl
 last:w.ownsRow B 3 1 vo op.length (AW op)
 apart:∀ u∈vs,Bp u vo
theorem EG.start(w:World)(B:Nat):EG w B (.slice none 0 0) [] [] (.slice none 0 0) [] :=
 ⟨⟨World.ownsRow_nil _ _ _ _,trivial,List.Pairwise.nil⟩,World.ownsRow_nil _ _ _ _,by simp⟩
theorem Kk:(3:Nat)≠26:=by decide
theorem EG.push{w w':World}{B:Nat}{v:Value}{vs:List Value}{cl:List (List Int)}{vo:Value}{op:List Int}(h:EG w B v vs cl vo op)(o:Obj)(x:Int){v':Value}
  (hown:w'.ownsRow B 3 1 v' (op.length+1) (AW op++[.int .i64 x])) (hg:(w.alloc o).grownBy w' vo.ownBlock) (hwh:v'.ownBlock=vo.ownBlock∨v'.ownBlock=some (w.alloc o).heap.size) :
  ∃ a c,v'=.slice a (op++[x]).length c∧EG w' B v vs cl (.slice a (op++[x]).length c) (op++[x]):=by
 obtain⟨a,c,rfl,h2⟩:=N9 (op++[x]) (by simp) (by simp[AW]) hown
 have hka:∀ u,Bp u vo→∀ e n xs,w.ownsRow B e 1 u n xs→w'.ownsRow B e 1 u n xs:=fun u hu e n xs hh=>Cz (hh.alloc o) hg hu
 refine⟨a,c,rfl,⟨⟨hka v (EP Kk h.last h.lists.top).symm _ _ _ h.lists.top,h.lists.each.map (fun u hu n xs hh=>hka u (h.apart u hu) _ n xs hh),h.lists.apart⟩,h2,fun u hu=>?_⟩⟩
 obtain⟨xs,hx⟩:=h.lists.each.mem hu
 exact Ja hx (h.apart u hu) (by simp) hwh
theorem EG.close{w w':World}{B:Nat}{v:Value}{vs:List Value}{cl:List (List Int)}{vo:Value}{op:List Int}(h:EG w B v vs cl vo op)(o:Obj){v':Value}
  (hown:w'.ownsRow B 26 1 v' (cl.length+1) (vs++[vo])) (hg:(w.alloc o).grownBy w' v.ownBlock) :
  ∃ a c,v'=.slice a (cl++[op]).length c∧EG w' B (.slice a (cl++[op]).length c) (vs++[vo]) (cl++[op]) (.slice none 0 0) []:=by
 obtain⟨a,c,rfl,h2⟩:=UX (m:=(cl++[op]).length) (by simp) hown
 have hka:∀ u,Bp u v→∀ e n xs,w.ownsRow B e 1 u n xs→w'.ownsRow B e 1 u n xs:=fun u hu e n xs hh=>Cz (hh.alloc o) hg hu
 refine⟨a,c,rfl,⟨⟨h2,?_,?_⟩,World.ownsRow_nil _ _ _ _,fun u _=>RO u⟩⟩
 ·refine Aq.snoc (h.lists.each.map (fun u hu n xs hh=>?_)) (hka vo (EP Kk h.last h.lists.top) _ _ _ h.last)
  obtain⟨ys,hy⟩:=h.lists.each.mem hu
  exact hka u (EP Kk hy h.lists.top) _ n xs hh
 ·exact List.pairwise_append.2 ⟨h.lists.apart,by simp,fun u hu x hx=>by simp at hx;subst hx;exact h.apart u hu⟩
def TG(B:Nat)(w:World)(r:XY)(e:Ending)(w':World):Prop :=
 Below B w w'∧match r with
 | .err x p=>e=.returned (.tuple #[.slice none 0 0,.int .i64 x,.int .i64 p])
 | .ok cl=>∃ a c vs,e=.returned (.tuple #[.slice a cl.length c,.int .i64 0,.int .i64 0])∧JY w' B 26 3 (.slice a cl.length c) vs cl
set_option maxHeartbeats 2000000 in
theorem SP(s:ByteArray)(w:World)(hs:s.size≤9223372036854775807) :
  Calls Tryd.prog 21 #[.string s] w fun e w'=>TG w.heap.size w (GD (bs s)) e w':=by
 by_cases hbig:1000<s.size
 ·have H:Hid (GD (bs s)=.err 2 0):=by show _=_;rw[GD,if_pos (by rw[CJ];exact hbig)]
  go_enter Tryd.func21,Tryd.ntmps21
  go_wp2
  go_ret3
  rw[H.out]
  exact⟨Below.refl _ _,rfl⟩
 have hle:s.size≤1000:=by omega
 have hl0:=UP (l:=bs s) (p:=0) (by omega)
 rw[CJ] at hl0
 have haw0:=KG (bs s) 0
 have HR:Hid (GD (bs s)=rd s.size (s.size+1) [] [] ((bs s).drop (H5 (bs s) 0))):=by
  show _=_
  rw[GD,if_neg (by rw[CJ];omega),CJ,US]
 have hcall0:Calls Tryd.prog 40 #[.string s,.int .i64 0] w fun e w'=>e=.returned (.int .i64 (H5 (bs s) 0:Nat))∧w'=w:=It s 0 w hle (by omega)
 obtain⟨i0,hi,hz0,hz1,hz2⟩:=info_parts Tryd.infoInt
 obtain⟨i1,gi,gz0,gz1,gz2⟩:=info_parts Tryd.infoInts
 clear hs hbig
 generalize H5 (bs s) 0=j0 at hl0 haw0 HR hcall0
 have HA0:Hid (Gh ((bs s).drop j0)):=haw0
 clear haw0
 have HC:=AA hcall0
 clear hcall0
 go_enter Tryd.func21,Tryd.ntmps21
 go_wp2_with (go_at_call 40;refine(AE HC).mono ?_;rintro e w' ⟨rfl,hw⟩;obtain rfl:=hw.symm)
 clear HC
 go_loopw [5,6,7] (fun x5 x6 x7 wr=>∃ (j f:Nat) (cl:List (List Int)) (op:List Int) (a1 a2:Option Addr) (c1 c2:Nat) (vs:List Value),j≤s.size∧x7=.int .i64 j∧x5=.slice a1 cl.length c1∧x6=.slice a2 op.length c2 ∧
   EG wr w.heap.size (.slice a1 cl.length c1) vs cl (.slice a2 op.length c2) op∧Below w.heap.size w wr∧cl.length≤j∧op.length≤j∧Hid (Gh ((bs s).drop j))∧s.size<j+f∧Hid (GD (bs s)=rd s.size f cl op ((bs s).drop j))) (fun _ _ x7 _=>s.size - (intOf x7).toNat)
 case atStart=>exact⟨j0,s.size+1,[],[],none,none,0,0,[],hl0.1,rfl,rfl,rfl,EG.start _ _,Below.refl _ _,Nat.zero_le _,Nat.zero_le _,HA0,by omega,HR⟩
 case round =>
  clear HA0 HR hl0
  obtain⟨j,f,cl,op,a1,a2,c1,c2,vs,hj,rfl,rfl,rfl,hrd,hbel,hcl,hop,HA,hf,HR⟩:=hrel
  obtain⟨f,rfl⟩:∃ g,f=g+1:=⟨f - 1,by omega⟩
  have hb0:w.heap.size≤wr.heap.size:=hbel.size
  by_cases hlt:j<s.size
  ·obtain⟨m,j',em,ej,hw1,hw2,hn2,hn1,haw,hst⟩:=WD (NK hlt) HA.out
   rw[CJ] at hw2 hn1 hst
   have hcw:=Oh s j wr (Nat.le_trans hle (by decide)) hj
   have hcx:∀ wz:World,Calls Tryd.prog 40 #[.string s,.int .i64 ((j+m:Nat):Int)] wz fun e w'=>e=.returned (.int .i64 (H5 (bs s) (j+m):Nat))∧w'=wz:=fun wz=>It s (j+m) wz hle hw2
   have hcn:=PZ (s.extract j (j+m)) wr (by rw[ByteArray.size_extract];omega)
   rw[KM,Nat.add_sub_cancel_left] at hcn
   rw[em] at hcw
   simp only[ej] at hcx
   have hstep:=hst f cl op
   clear em ej hst
   generalize CQ (((bs s).drop j).take m)=N at hcn hstep
   obtain⟨n,er⟩:=N
   have HA':Hid (Gh ((bs s).drop j')):=haw
   have HCW:=AA hcw
   have HCN:=AA hcn
   have HCX:=AA hcx
   have HST:=AA hstep
   clear hcw hcn hcx hstep haw
   by_cases her:er=0
   ·subst her
    by_cases hn:n=0
    ·subst hn
     have HX:Hid (rd s.size (f+1) cl op ((bs s).drop j)=rd s.size f (cl++[op]) [] ((bs s).drop j')):=by show _=_;rw[HST.out];simp
     clear HST
     have d1:Hid (cl.length+1≤maxLen):=by show _≤_;unfold maxLen;omega
     have d2:Hid ((cl.length+1)*24≤140737488355328):=by show _≤_;omega
     go_wp2_with (first
      | (go_at_call 41;refine(AE HCW).mono ?_;rintro e w' ⟨rfl,hw⟩;obtain rfl:=hw.symm)
      | (go_at_call 42;refine(AE HCN).mono ?_;rintro e w' ⟨rfl,hw⟩;obtain rfl:=hw.symm)
      | (at_builtin;refine Ap _ rfl (.tmp 37) (.tmp 39) 22 rfl w.heap.size 26 i1 (.slice none 0 0) 24 Tryd.undLists gi gz0 gz1 gz2 rfl (.slice a1 cl.length c1) cl.length vs rfl (hrd.lists.top.alloc _) ⟨wr.heap.size,0,none⟩ 1 1 [.slice a2 op.length c2] rfl rfl (AX wr [.slice a2 op.length c2] 26) (by intro u hu;simp at hu;subst hu;rfl) (by decide) d1.out d2.out (by simp;exact Nat.le_succ_of_le hb0) ?_;intro v3 w3 hown3 hg3 hwh3)
      | (go_at_call 40;refine(AE HCX _).mono ?_;rintro e w' ⟨rfl,hw⟩;obtain rfl:=hw.symm))
     obtain⟨a3,c3,hv3,hrd3⟩:=hrd.close _ hown3 hg3
     have hb3:Below w.heap.size w w3:=(hbel.alloc hbel.size _).grown hg3 (hbel.alloc hbel.size _).size (fun k hk=>(hrd.lists.top.lt k hk).1)
     go_roundw
     case rel=>exact⟨j',f,cl++[op],[],a3,none,c3,0,_,hn1,rfl,hv3,rfl,hrd3,hb3,by simp;omega,Nat.zero_le _,HA',by omega,HR.out.trans HX.out⟩
     case measure=>simp[intOf];omega
    ·have hnb:(n == 0)=false:=beq_eq_false_iff_ne.2 hn
     have HX:Hid (rd s.size (f+1) cl op ((bs s).drop j)=rd s.size f cl (op++[n]) ((bs s).drop j')):=by show _=_;rw[HST.out];simp[hn]
     clear HST hn
     have d1:Hid (op.length+1≤maxLen):=by show _≤_;unfold maxLen;omega
     have d2:Hid ((op.length+1)*8≤140737488355328):=by show _≤_;omega
     go_wp2_with (first
      | (go_at_call 41;refine(AE HCW).mono ?_;rintro e w' ⟨rfl,hw⟩;obtain rfl:=hw.symm)
      | (go_at_call 42;refine(AE HCN).mono ?_;rintro e w' ⟨rfl,hw⟩;obtain rfl:=hw.symm)
      | (at_builtin;refine Ap _ rfl (.tmp 41) (.tmp 43) 26 rfl w.heap.size 3 i0 (.int .i64 0) 8 Tryd.undInts hi hz0 hz1 hz2 rfl (.slice a2 op.length c2) op.length (AW op) rfl (hrd.last.alloc _) ⟨wr.heap.size,0,none⟩ 1 1 [.int .i64 n] rfl rfl (AX wr [.int .i64 n] 3) (by intro u hu;simp at hu;subst hu;rfl) (by decide) d1.out d2.out (by simp;exact Nat.le_succ_of_le hb0) ?_;intro v3 w3 hown3 hg3 hwh3)
      | (go_at_call 40;refine(AE HCX _).mono ?_;rintro e w' ⟨rfl,hw⟩;obtain rfl:=hw.symm))
     obtain⟨a3,c3,hv3,hrd3⟩:=hrd.push _ n hown3 hg3 hwh3
     have hb3:Below w.heap.size w w3:=(hbel.alloc hbel.size _).grown hg3 (hbel.alloc hbel.size _).size (fun k hk=>(hrd.last.lt k hk).1)
     go_roundw
     case rel=>exact⟨j',f,cl,op++[n],a1,a3,c1,c3,vs,hn1,rfl,rfl,hv3,hrd3,hb3,by omega,by simp;omega,HA',by omega,HR.out.trans HX.out⟩
     case measure=>simp[intOf];omega
   ·have heb:(er != 0)=true:=bne_iff_ne.2 her
    have HX:Hid (GD (bs s)=.err er j):=by show _=_;rw[HR.out,HST.out];simp[her]
    clear HST her
    go_wp2_with (first
     | (go_at_call 41;refine(AE HCW).mono ?_;rintro e w' ⟨rfl,hw⟩;obtain rfl:=hw.symm)
     | (go_at_call 42;refine(AE HCN).mono ?_;rintro e w' ⟨rfl,hw⟩;obtain rfl:=hw.symm))
    go_ret3
    rw[HX.out]
    exact⟨hbel,rfl⟩
  ·have hnil:(bs s).drop j=[]:=ES s j (by omega)
   have hR2:=HR.out
   rw[hnil,Uh] at hR2
   clear hnil HR
   by_cases hop0:op=[]
   ·subst hop0
    have HX:Hid (GD (bs s)=.ok cl):=by show _=_;rw[hR2];simp
    clear hR2
    go_wp2
    go_ret3
    rw[HX.out]
    exact⟨hbel,a1,c1,vs,rfl,hrd.lists⟩
   ·have HX:Hid (GD (bs s)=.err 3 s.size):=by show _=_;rw[hR2];simp[hop0]
    have hpos:0<op.length:=List.length_pos_iff.2 hop0
    clear hR2 hop0
    go_wp2
    go_ret3
    rw[HX.out]
    exact⟨hbel,rfl⟩
set_option maxHeartbeats 400000 in
theorem YY(s:ByteArray)(w:World)(hs:s.size≤9223372036854775807) :
  Calls Tryd.prog 8 #[.string s] w fun e w'=>TG w.heap.size w (GD (bs s)) e w':=by
 have h:=SP s w hs
 have H:=AA h
 clear h
 cases hr:GD (bs s) with
 | err x p =>
  rw[hr] at H
  go_enter Tryd.func8,Tryd.ntmps8
  go_wp2_with (go_at_call 21;refine(AE H).mono ?_;rintro e w' ⟨hb,rfl⟩)
  go_ret3
  exact⟨hb,rfl⟩
 | ok cl =>
  rw[hr] at H
  go_enter Tryd.func8,Tryd.ntmps8
  go_wp2_with (go_at_call 21;refine(AE H).mono ?_;rintro e w' ⟨hb,a,c,vs,rfl,hL⟩)
  go_ret3
  exact⟨hb,a,c,vs,rfl,hL⟩
def Cs(l:Int):Nat:=if 0<l then 2^(2*l - 2).toNat else 2^(-2*l - 1).toNat
def Ak(xs:List Int):Nat:=xs.foldl (fun a l=>a|||Cs l) 0
theorem Hs(n:Int)(h0:0≤n)(h1:n<2^63):IntKind.i64.wrap n=n:=by rw[IntKind.wrap_i64];omega
theorem Kn(a b:Nat)(ha:a<2^63)(hb:b<2^63):bits .or .i64 (a:Int) (b:Int)=((a|||b:Nat):Int):=(bits_nat .i64 63 (by decide) Hs a b ha hb).2
theorem Eb(a b:Nat)(ha:a<2^63)(hb:b<2^63):bits .and .i64 (a:Int) (b:Int)=((a&&&b:Nat):Int):=(bits_nat .i64 63 (by decide) Hs a b ha hb).1
theorem QU{l:Int}(h:AK l=true):Cs l<2^20:=by
 rcases Eo h with rfl|rfl|rfl|rfl|rfl|rfl|rfl|rfl|rfl|rfl|rfl|rfl|rfl|rfl|rfl|rfl|rfl|rfl|rfl|rfl <;> decide
theorem Xq(xs:List Int)(x:Int):Ak (xs++[x])=Ak xs|||Cs x:=by simp[Ak]
theorem Qv(xs:List Int)(h:xs.all AK=true):Ak xs<2^20:=by
 have key:∀ (ys:List Int) (a:Nat),ys.all AK=true→a<2^20→ys.foldl (fun a l=>a|||Cs l) a<2^20:=by
  intro ys
  induction ys with
  | nil=>intro a _ h;exact h
  | cons y ys ih =>
   intro a hy ha
   simp only[List.all_cons,Bool.and_eq_true] at hy
   exact ih _ hy.2 (Nat.or_lt_two_pow ha (QU hy.1))
 exact key xs 0 h (by decide)
theorem Yg(xs:List Int)(k:Nat)(h:k<xs.length):xs.take (k+1)=xs.take k++[xs.getD k 0]:=by
 rw[List.take_succ_eq_append_getElem h,List.getD_eq_getElem?_getD,List.getElem?_eq_getElem h];rfl
def AO(xs:List Int):Nat:=if xs.all AK then Ak xs else 0
theorem Y7{a b:Int}{c d:Bool}(h:a=b)(h':c=d):Ending.returned (.tuple #[.int .i64 a,.bool c])=.returned (.tuple #[.int .i64 b,.bool d]):=by rw[h,h']
theorem Ws{w w1 w2:World}(h:w.grownBy w1 none)(h':w1.grownBy w2 none):w.grownBy w2 none :=
 ⟨h'.os.trans h.os,h'.tape.trans h.tape,h'.output.trans h.output,Nat.le_trans h.size h'.size,fun k hk hn=>(h'.block k (Nat.lt_of_lt_of_le hk h.size) hn).trans (h.block k hk hn)⟩
theorem YB(w:World)(l:List UInt8)(c:Nat):(convert 65 9 (.slice (some ⟨w.heap.size,0,none⟩) l.length c)).run Tryd.prog (w.alloc (.cells (c8 l).toArray 5))=.ok (.string ⟨l.toArray⟩) (w.alloc (.cells (c8 l).toArray 5)):=by
 have hb:Tryd.prog.underlying 5=some (.int .u8):=by kernel_rfl
 refine run_convert_bytes_back (w.alloc (.cells (c8 l).toArray 5)) _ _ 5 _ c l Tryd.undBytes hb Tryd.undString fun j hj=>?_
 exact Fz w (c8 l) 5 j _ (by simp[c8,hj])
theorem W7(k:Nat)(h:k≤9):Lib.itoa (k:Int)=[UInt8.ofNat (48+k)]:=by
 have:k=0∨k=1∨k=2∨k=3∨k=4∨k=5∨k=6∨k=7∨k=8∨k=9:=by omega
 rcases this with rfl|rfl|rfl|rfl|rfl|rfl|rfl|rfl|rfl|rfl <;> decide +kernel
theorem YL{k:Nat}(h1:1≤k)(h2:k≤10):Lib.itoa (-(k:Int))=45 :: Lib.itoa (k:Int):=by
 have:k=1∨k=2∨k=3∨k=4∨k=5∨k=6∨k=7∨k=8∨k=9∨k=10:=by omega
 rcases this with rfl|rfl|rfl|rfl|rfl|rfl|rfl|rfl|rfl|rfl <;> decide +kernel
theorem YM:Lib.itoa 10=Lib.itoa ((1:Nat):Int)++Lib.itoa ((0:Nat):Int):=by decide +kernel
theorem KF(s t:List UInt8):(⟨s.toArray⟩:ByteArray)++⟨t.toArray⟩=⟨(s++t).toArray⟩:=by
 apply ByteArray.ext
 simp
theorem Yu{n:Int}(h:AK n=true):(∃ k:Nat,n=k∧k≤9)∨n=10∨∃ k:Nat,n=-(k:Int)∧1≤k∧k≤10:=by
 simp only[AK,Bool.and_eq_true,bne_iff_ne,decide_eq_true_eq] at h
 by_cases h0:0≤n
 ·by_cases h9:n≤9
  ·exact .inl ⟨n.toNat,by omega,by omega⟩
  ·exact .inr (.inl (by omega))
 ·exact .inr (.inr ⟨(-n).toNat,by omega,by omega,by omega⟩)
end Go.Proofs.YthboeppmlhbofaaDoor
