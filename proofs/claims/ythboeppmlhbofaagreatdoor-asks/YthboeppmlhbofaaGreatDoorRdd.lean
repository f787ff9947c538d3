import Derived.Test.YthboeppmlhbofaaGreatDoorRdr
import Derived.Test.YthboeppmlhbofaaGreatDoorOpp
import Derived.Laws.CopyOwn
namespace Go.Proofs.YthboeppmlhbofaaGreatDoor
open Go.RowKit Txt
set_option maxRecDepth 100000
theorem Vn{s:ByteArray}{j:Nat}(h:j<s.size)(h9:((s[j].toNat:Int) == 99)=false):Mj (bs s) j=false:=by
 rw[Mj,DO s j h,h9];rfl
theorem Vo{s:ByteArray}{i:Nat}(h:i+1<s.size)(h1:((s[i].toNat:Int) == 10)=false):Mj (bs s) (i+1)=false:=by
 have h':i<s.size:=by omega
 have hn:JG ((bs s).getD i 0)=false:=by rw[DO s i h'];exact h1
 simp only[Mj,Nat.add_sub_cancel,hn,Nat.add_one_ne_zero,decide_false,Bool.or_false,Bool.and_false]
theorem Xu{s:ByteArray}(h:0<s.size)(h9:((s[0].toNat:Int) == 99)=true):Mj (bs s) 0=true:=by
 rw[Mj,DO s 0 h,h9];rfl
theorem Xv{s:ByteArray}{i:Nat}(h:i+1<s.size)(h9:((s[i+1].toNat:Int) == 99)=true)(h1:((s[i].toNat:Int) == 10)=true):Mj (bs s) (i+1)=true:=by
 have h':i<s.size:=by omega
 have hn:JG ((bs s).getD i 0)=true:=by rw[DO s i h'];exact h1
 rw[Mj,DO s (i+1) h,h9]
 simp only[Nat.add_sub_cancel,hn,Bool.or_true,Bool.and_true]
set_option maxHeartbeats 4000000 in
theorem Wx(s:ByteArray)(w:World)(hs:s.size≤9223372036854775807) :
  Calls Tryz.prog 52 #[.string s] w fun e w'=>Sl w.heap.size w (Cs (bs s)) e w':=by
 by_cases hbig:1000<s.size
 ·have H:Hid (Cs (bs s)=.err 2 0):=by show _=_;rw[Cs,if_pos (by rw[Aa];exact hbig)]
  go_enter Tryz.func52,Tryz.ntmps52
  go_wp2
  go_ret3
  rw[H.out]
  exact⟨Below.refl _ _,rfl⟩
 have hle:s.size≤1000:=by omega
 have HR:Hid (Cs (bs s)=rd s.size (s.size+1) [] [] ((bs s).drop (nxt (bs s) 0))):=by
  show _=_
  rw[Cs,if_neg (by rw[Aa];omega),Aa,RW]
 obtain⟨i0,hi,hz0,hz1,hz2⟩:=info_parts Tryz.infoInt
 obtain⟨i1,gi,gz0,gz1,gz2⟩:=info_parts Tryz.infoInts
 clear hs hbig
 go_enter Tryz.func52,Tryz.ntmps52
 go_wp2
 go_loopw [5,6,7] (fun x5 x6 x7 wr=>∃ (j f:Nat) (cl:List (List Int)) (op:List Int) (a1 a2:Option Addr) (c1 c2:Nat) (vs:List Value),j≤s.size∧x7=.int .i64 j∧x5=.slice a1 cl.length c1∧x6=.slice a2 op.length c2 ∧
   Ee wr w.heap.size (.slice a1 cl.length c1) vs cl (.slice a2 op.length c2) op∧Below w.heap.size w wr∧cl.length≤j∧op.length≤j∧Hid (s.size<nxt (bs s) j+f)∧Hid (Cs (bs s)=rd s.size f cl op ((bs s).drop (nxt (bs s) j)))) (fun _ _ x7 _=>s.size - (intOf x7).toNat)
 case atStart=>exact⟨0,s.size+1,[],[],none,none,0,0,[],Nat.zero_le _,rfl,rfl,rfl,Ee.start _ _,Below.refl _ _,Nat.zero_le _,Nat.zero_le _,by show _<_;omega,HR⟩
 case round =>
  clear HR
  obtain⟨j,f,cl,op,a1,a2,c1,c2,vs,hj,rfl,rfl,rfl,hrd,hbel,hcl,hop,HF,HR⟩:=hrel
  have hb0:w.heap.size≤wr.heap.size:=hbel.size
  by_cases hlt:j<s.size
  ·have g1:=DO s j hlt
   cases hg:MD (s[j].toNat:Int)
   ·cases h9:((s[j].toNat:Int) == 99)
    ·skip
     have hnx:nxt (bs s) j=j:=NI (Gz hlt) (Vn hlt h9) (by rw[g1];exact hg)
     have haw:=IK (bs s) j
     have hF:=HF.out
     have hR:=HR.out
     rw[hnx] at haw hF hR
     clear hnx HF HR g1
     obtain⟨f,rfl⟩:∃ g,f=g+1:=⟨f - 1,by omega⟩
     obtain⟨m,j',em,ej,hw1,hw2,hn2,hn1,_,hst⟩:=Po (Gz hlt) haw
     rw[Aa] at hw2 hn1 hst
     have hcw:=Lc s j wr (by omega) (Nat.le_of_lt hlt)
     have hcn:=JH (s.extract j (j+m)) wr (by rw[ByteArray.size_extract];omega)
     rw[Ei,Nat.add_sub_cancel_left] at hcn
     rw[em] at hcw
     have hstep:=hst f cl op
     rw[← ej] at hstep hn2
     clear em hst haw
     generalize BU (((bs s).drop j).take m)=N at hcn hstep
     obtain⟨n,er⟩:=N
     have HF':Hid (s.size<nxt (bs s) (j+m)+f):=by show _<_;omega
     have HCW:=AB hcw
     have HCN:=AB hcn
     have HST:=AB hstep
     have HR2:=AB hR
     clear hcw hcn hstep hR hF hn2 hn1 ej
     by_cases her:er=0
     ·subst her
      by_cases hn:n=0
      ·subst hn
       have HX:Hid (Cs (bs s)=rd s.size f (cl++[op]) [] ((bs s).drop (nxt (bs s) (j+m)))):=by show _=_;rw[HR2.out,HST.out];simp
       clear HST HR2
       have d1:Hid (cl.length+1≤maxLen):=by show _≤_;unfold maxLen;omega
       have d2:Hid ((cl.length+1)*24≤140737488355328):=by show _≤_;omega
       go_wp2_with (first
        | (go_at_call 86;refine(EJ _ _).mono ?_;rintro e w' ⟨rfl,hw⟩;obtain rfl:=hw.symm)
        | (go_at_call 87;refine(AE HCW).mono ?_;rintro e w' ⟨rfl,hw⟩;obtain rfl:=hw.symm)
        | (go_at_call 88;refine(AE HCN).mono ?_;rintro e w' ⟨rfl,hw⟩;obtain rfl:=hw.symm)
        | (at_builtin;refine Au _ rfl (.tmp 40) (.tmp 42) 30 rfl w.heap.size 24 i1 (.slice none 0 0) 24 Tryz.undLists gi gz0 gz1 gz2 rfl (.slice a1 cl.length c1) cl.length vs rfl (hrd.lists.top.alloc _) ⟨wr.heap.size,0,none⟩ 1 1 [.slice a2 op.length c2] rfl rfl (AH wr [.slice a2 op.length c2] 24) (by intro u hu;simp at hu;subst hu;rfl) (by decide) d1.out d2.out (by simp;exact Nat.le_succ_of_le hb0) ?_;intro v3 w3 hown3 hg3 hwh3))
       obtain⟨a3,c3,hv3,hrd3⟩:=hrd.close _ hown3 hg3
       have hb3:Below w.heap.size w w3:=(hbel.alloc hbel.size _).grown hg3 (hbel.alloc hbel.size _).size (fun k hk=>(hrd.lists.top.lt k hk).1)
       go_roundw
       case rel=>exact⟨j+m,f,cl++[op],[],a3,none,c3,0,_,hw2,by go_num,hv3,rfl,hrd3,hb3,by simp;omega,Nat.zero_le _,HF',HX⟩
       case measure=>simp[intOf];omega
      ·have hnb:(n == 0)=false:=beq_eq_false_iff_ne.2 hn
       have HX:Hid (Cs (bs s)=rd s.size f cl (op++[n]) ((bs s).drop (nxt (bs s) (j+m)))):=by show _=_;rw[HR2.out,HST.out];simp[hn]
       clear HST HR2 hn
       have d1:Hid (op.length+1≤maxLen):=by show _≤_;unfold maxLen;omega
       have d2:Hid ((op.length+1)*8≤140737488355328):=by show _≤_;omega
       go_wp2_with (first
        | (go_at_call 86;refine(EJ _ _).mono ?_;rintro e w' ⟨rfl,hw⟩;obtain rfl:=hw.symm)
        | (go_at_call 87;refine(AE HCW).mono ?_;rintro e w' ⟨rfl,hw⟩;obtain rfl:=hw.symm)
        | (go_at_call 88;refine(AE HCN).mono ?_;rintro e w' ⟨rfl,hw⟩;obtain rfl:=hw.symm)
        | (at_builtin;refine Au _ rfl (.tmp 44) (.tmp 46) 24 rfl w.heap.size 3 i0 (.int .i64 0) 8 Tryz.undInts hi hz0 hz1 hz2 rfl (.slice a2 op.length c2) op.length (AO op) rfl (hrd.last.alloc _) ⟨wr.heap.size,0,none⟩ 1 1 [.int .i64 n] rfl rfl (AH wr [.int .i64 n] 3) (by intro u hu;simp at hu;subst hu;rfl) (by decide) d1.out d2.out (by simp;exact Nat.le_succ_of_le hb0) ?_;intro v3 w3 hown3 hg3 hwh3))
       obtain⟨a3,c3,hv3,hrd3⟩:=hrd.push _ n hown3 hg3 hwh3
       have hb3:Below w.heap.size w w3:=(hbel.alloc hbel.size _).grown hg3 (hbel.alloc hbel.size _).size (fun k hk=>(hrd.last.lt k hk).1)
       go_roundw
       case rel=>exact⟨j+m,f,cl,op++[n],a1,a3,c1,c3,vs,hw2,by go_num,rfl,hv3,hrd3,hb3,by omega,by simp;omega,HF',HX⟩
       case measure=>simp[intOf];omega
     ·have heb:(er != 0)=true:=bne_iff_ne.2 her
      have HX:Hid (Cs (bs s)=.err er j):=by show _=_;rw[HR2.out,HST.out];simp[her]
      clear HST her HR2
      go_wp2_with (first
       | (go_at_call 86;refine(EJ _ _).mono ?_;rintro e w' ⟨rfl,hw⟩;obtain rfl:=hw.symm)
       | (go_at_call 87;refine(AE HCW).mono ?_;rintro e w' ⟨rfl,hw⟩;obtain rfl:=hw.symm)
       | (go_at_call 88;refine(AE HCN).mono ?_;rintro e w' ⟨rfl,hw⟩;obtain rfl:=hw.symm))
      go_ret3
      rw[HX.out]
      exact⟨hbel,rfl⟩
    ·by_cases hj0:j=0
     ·subst hj0
      have hcm:=Xu hlt h9
      have hcl:=OO s 0 wr hle (Nat.le_of_lt hlt)
      have hx0:nxt (bs s) (0+Cg ((bs s).drop 0))=nxt (bs s) 0:=Pf (Gz hlt) hcm
      have h3:0<Cg ((bs s).drop 0):=Mz (Gz hlt) hcm
      have h4:0+Cg ((bs s).drop 0)≤s.size:=by
       have:=Pb ((bs s).drop 0)
       rw[List.length_drop,Aa] at this
       omega
      obtain⟨m,hm⟩:∃ m,0+Cg ((bs s).drop 0)=m:=⟨_,rfl⟩
      rw[hm] at hcl hx0 h4
      have h5:0<m:=by omega
      have HX:Hid (nxt (bs s) m=nxt (bs s) 0):=hx0
      have HCL:=AB hcl
      clear g1 hcm hcl hx0 h3 hm
      go_wp2_with (first
       | (go_at_call 86;refine(EJ _ _).mono ?_;rintro e w' ⟨rfl,hw⟩;obtain rfl:=hw.symm)
       | (go_at_call 87;refine(AE HCL).mono ?_;rintro e w' ⟨rfl,hw⟩;obtain rfl:=hw.symm))
      go_roundw
      case rel=>exact⟨m,f,cl,op,a1,a2,c1,c2,vs,h4,rfl,rfl,rfl,hrd,hbel,by omega,by omega,by show _<_;rw[HX.out];exact HF.out,by show _=_;rw[HX.out];exact HR.out⟩
      case measure=>simp[intOf];omega
     ·obtain⟨i,rfl⟩:∃ i,j=i+1:=⟨j - 1,by omega⟩
      have hi':i<s.size:=by omega
      clear hj0
      cases h1:((s[i].toNat:Int) == 10)
      ·skip
       have hnx:nxt (bs s) (i+1)=(i+1):=NI (Gz hlt) (Vo hlt h1) (by rw[g1];exact hg)
       have haw:=IK (bs s) (i+1)
       have hF:=HF.out
       have hR:=HR.out
       rw[hnx] at haw hF hR
       clear hnx HF HR g1
       obtain⟨f,rfl⟩:∃ g,f=g+1:=⟨f - 1,by omega⟩
       obtain⟨m,j',em,ej,hw1,hw2,hn2,hn1,_,hst⟩:=Po (Gz hlt) haw
       rw[Aa] at hw2 hn1 hst
       have hcw:=Lc s (i+1) wr (by omega) (Nat.le_of_lt hlt)
       have hcn:=JH (s.extract (i+1) ((i+1)+m)) wr (by rw[ByteArray.size_extract];omega)
       rw[Ei,Nat.add_sub_cancel_left] at hcn
       rw[em] at hcw
       have hstep:=hst f cl op
       rw[← ej] at hstep hn2
       clear em hst haw
       generalize BU (((bs s).drop (i+1)).take m)=N at hcn hstep
       obtain⟨n,er⟩:=N
       have HF':Hid (s.size<nxt (bs s) ((i+1)+m)+f):=by show _<_;omega
       have HCW:=AB hcw
       have HCN:=AB hcn
       have HST:=AB hstep
       have HR2:=AB hR
       clear hcw hcn hstep hR hF hn2 hn1 ej
       by_cases her:er=0
       ·subst her
        by_cases hn:n=0
        ·subst hn
         have HX:Hid (Cs (bs s)=rd s.size f (cl++[op]) [] ((bs s).drop (nxt (bs s) ((i+1)+m)))):=by show _=_;rw[HR2.out,HST.out];simp
         clear HST HR2
         have d1:Hid (cl.length+1≤maxLen):=by show _≤_;unfold maxLen;omega
         have d2:Hid ((cl.length+1)*24≤140737488355328):=by show _≤_;omega
         go_wp2_with (first
          | (go_at_call 86;refine(EJ _ _).mono ?_;rintro e w' ⟨rfl,hw⟩;obtain rfl:=hw.symm)
          | (go_at_call 87;refine(AE HCW).mono ?_;rintro e w' ⟨rfl,hw⟩;obtain rfl:=hw.symm)
          | (go_at_call 88;refine(AE HCN).mono ?_;rintro e w' ⟨rfl,hw⟩;obtain rfl:=hw.symm)
          | (at_builtin;refine Au _ rfl (.tmp 40) (.tmp 42) 30 rfl w.heap.size 24 i1 (.slice none 0 0) 24 Tryz.undLists gi gz0 gz1 gz2 rfl (.slice a1 cl.length c1) cl.length vs rfl (hrd.lists.top.alloc _) ⟨wr.heap.size,0,none⟩ 1 1 [.slice a2 op.length c2] rfl rfl (AH wr [.slice a2 op.length c2] 24) (by intro u hu;simp at hu;subst hu;rfl) (by decide) d1.out d2.out (by simp;exact Nat.le_succ_of_le hb0) ?_;intro v3 w3 hown3 hg3 hwh3))
         obtain⟨a3,c3,hv3,hrd3⟩:=hrd.close _ hown3 hg3
         have hb3:Below w.heap.size w w3:=(hbel.alloc hbel.size _).grown hg3 (hbel.alloc hbel.size _).size (fun k hk=>(hrd.lists.top.lt k hk).1)
         go_roundw
         case rel=>exact⟨(i+1)+m,f,cl++[op],[],a3,none,c3,0,_,hw2,by go_num,hv3,rfl,hrd3,hb3,by simp;omega,Nat.zero_le _,HF',HX⟩
         case measure=>simp[intOf];omega
        ·have hnb:(n == 0)=false:=beq_eq_false_iff_ne.2 hn
         have HX:Hid (Cs (bs s)=rd s.size f cl (op++[n]) ((bs s).drop (nxt (bs s) ((i+1)+m)))):=by show _=_;rw[HR2.out,HST.out];simp[hn]
         clear HST HR2 hn
         have d1:Hid (op.length+1≤maxLen):=by show _≤_;unfold maxLen;omega
         have d2:Hid ((op.length+1)*8≤140737488355328):=by show _≤_;omega
         go_wp2_with (first
          | (go_at_call 86;refine(EJ _ _).mono ?_;rintro e w' ⟨rfl,hw⟩;obtain rfl:=hw.symm)
          | (go_at_call 87;refine(AE HCW).mono ?_;rintro e w' ⟨rfl,hw⟩;obtain rfl:=hw.symm)
          | (go_at_call 88;refine(AE HCN).mono ?_;rintro e w' ⟨rfl,hw⟩;obtain rfl:=hw.symm)
          | (at_builtin;refine Au _ rfl (.tmp 44) (.tmp 46) 24 rfl w.heap.size 3 i0 (.int .i64 0) 8 Tryz.undInts hi hz0 hz1 hz2 rfl (.slice a2 op.length c2) op.length (AO op) rfl (hrd.last.alloc _) ⟨wr.heap.size,0,none⟩ 1 1 [.int .i64 n] rfl rfl (AH wr [.int .i64 n] 3) (by intro u hu;simp at hu;subst hu;rfl) (by decide) d1.out d2.out (by simp;exact Nat.le_succ_of_le hb0) ?_;intro v3 w3 hown3 hg3 hwh3))
         obtain⟨a3,c3,hv3,hrd3⟩:=hrd.push _ n hown3 hg3 hwh3
         have hb3:Below w.heap.size w w3:=(hbel.alloc hbel.size _).grown hg3 (hbel.alloc hbel.size _).size (fun k hk=>(hrd.last.lt k hk).1)
         go_roundw
         case rel=>exact⟨(i+1)+m,f,cl,op++[n],a1,a3,c1,c3,vs,hw2,by go_num,rfl,hv3,hrd3,hb3,by omega,by simp;omega,HF',HX⟩
         case measure=>simp[intOf];omega
       ·have heb:(er != 0)=true:=bne_iff_ne.2 her
        have HX:Hid (Cs (bs s)=.err er (i+1)):=by show _=_;rw[HR2.out,HST.out];simp[her]
        clear HST her HR2
        go_wp2_with (first
         | (go_at_call 86;refine(EJ _ _).mono ?_;rintro e w' ⟨rfl,hw⟩;obtain rfl:=hw.symm)
         | (go_at_call 87;refine(AE HCW).mono ?_;rintro e w' ⟨rfl,hw⟩;obtain rfl:=hw.symm)
         | (go_at_call 88;refine(AE HCN).mono ?_;rintro e w' ⟨rfl,hw⟩;obtain rfl:=hw.symm))
        go_ret3
        rw[HX.out]
        exact⟨hbel,rfl⟩
      ·skip
       have hcm:=Xv hlt h9 h1
       have hcl:=OO s (i+1) wr hle (Nat.le_of_lt hlt)
       have hx0:nxt (bs s) ((i+1)+Cg ((bs s).drop (i+1)))=nxt (bs s) (i+1):=Pf (Gz hlt) hcm
       have h3:0<Cg ((bs s).drop (i+1)):=Mz (Gz hlt) hcm
       have h4:(i+1)+Cg ((bs s).drop (i+1))≤s.size:=by
        have:=Pb ((bs s).drop (i+1))
        rw[List.length_drop,Aa] at this
        omega
       obtain⟨m,hm⟩:∃ m,(i+1)+Cg ((bs s).drop (i+1))=m:=⟨_,rfl⟩
       rw[hm] at hcl hx0 h4
       have h5:(i+1)<m:=by omega
       have HX:Hid (nxt (bs s) m=nxt (bs s) (i+1)):=hx0
       have HCL:=AB hcl
       clear g1 hcm hcl hx0 h3 hm
       go_wp2_with (first
        | (go_at_call 86;refine(EJ _ _).mono ?_;rintro e w' ⟨rfl,hw⟩;obtain rfl:=hw.symm)
        | (go_at_call 87;refine(AE HCL).mono ?_;rintro e w' ⟨rfl,hw⟩;obtain rfl:=hw.symm))
       go_roundw
       case rel=>exact⟨m,f,cl,op,a1,a2,c1,c2,vs,h4,rfl,rfl,rfl,hrd,hbel,by omega,by omega,by show _<_;rw[HX.out];exact HF.out,by show _=_;rw[HX.out];exact HR.out⟩
       case measure=>simp[intOf];omega
   ·have HX:Hid (nxt (bs s) (j+1)=nxt (bs s) j):=U9 (Gz hlt) (by rw[g1];exact hg)
    clear g1
    go_wp2_with (go_at_call 86;refine(EJ _ _).mono ?_;rintro e w' ⟨rfl,hw⟩;obtain rfl:=hw.symm)
    go_roundw
    case rel=>exact⟨j+1,f,cl,op,a1,a2,c1,c2,vs,by omega,by go_num,rfl,rfl,hrd,hbel,by omega,by omega,by show _<_;rw[HX.out];exact HF.out,by show _=_;rw[HX.out];exact HR.out⟩
    case measure=>simp[intOf];omega
  ·have hnx:nxt (bs s) j=j:=U8 (by rw[Aa];omega)
   have hnil:(bs s).drop j=[]:=Cr s j (by omega)
   have hF:=HF.out
   have hR2:=HR.out
   rw[hnx] at hF hR2
   obtain⟨f,rfl⟩:∃ g,f=g+1:=⟨f - 1,by omega⟩
   rw[hnil,Ty] at hR2
   clear hnil HR HF hF hnx
   by_cases hop0:op=[]
   ·subst hop0
    have HX:Hid (Cs (bs s)=.ok cl):=by show _=_;rw[hR2];simp
    clear hR2
    go_wp2
    go_ret3
    rw[HX.out]
    exact⟨hbel,a1,c1,vs,rfl,hrd.lists⟩
   ·have HX:Hid (Cs (bs s)=.err 3 s.size):=by show _=_;rw[hR2];simp[hop0]
    have hpos:0<op.length:=List.length_pos_iff.2 hop0
    clear hR2 hop0
    go_wp2
    go_ret3
    rw[HX.out]
    exact⟨hbel,rfl⟩
def AY(w:World)(g:Nat)(e:TypeId)(zs:List Value):Prop:=w.heap[g]?=some (.cells zs.toArray e (0,0))
theorem AY.cell{w:World}{g:Nat}{e:TypeId}{zs:List Value}(h:AY w g e zs)(j:Nat):w.cell? ⟨g,j,none⟩=zs[j]?:=by
 rw[cell_of_row w g j zs.toArray e (0,0) h];simp
theorem AY.frozen{w:World}{g:Nat}{e:TypeId}{zs:List Value}(h:AY w g e zs)(j:Nat):w.frozen? ⟨g,j,none⟩=false:=by
 have h':w.heap[g]?=some (.cells zs.toArray e (0,0)):=h
 simp[World.frozen?,h']
theorem AY.lt{w:World}{g:Nat}{e:TypeId}{zs:List Value}(h:AY w g e zs):g<w.heap.size:=(Array.getElem?_eq_some_iff.1 h).1
theorem AY.set{w:World}{g:Nat}{e:TypeId}{zs:List Value}(h:AY w g e zs)(j:Nat)(v:Value):AY (w.setCell ⟨g,j,none⟩ v) g e (zs.set j v):=by
 have h':w.heap[g]?=some (.cells zs.toArray e (0,0)):=h
 unfold AY
 simp only[World.setCell,Array.getElem?_modify,h']
 simp
set_option maxHeartbeats 1000000 in
theorem FE(a1 a2:Option Addr)(c1 c2:Nat)(xs ys:List Int)(w:World)(hx:xs.length≤9223372036854775807)(q1:AS w a1 xs)(q2:AS w a2 ys) :
  Calls Tryz.prog 23 #[.slice a1 xs.length c1,.slice a2 ys.length c2] w fun e w'=>e=.returned (.bool (Hq xs ys))∧∃ m,w'=w.drewN m:=by
 by_cases hlen:¬ xs.length=ys.length
 ·have hne:((xs.length:Int) != (ys.length:Int))=true:=by rw[bne_iff_ne];omega
  have H:Hid (Hq xs ys=false):=Uy _ _ hlen
  clear hlen
  go_enter Tryz.func23,Tryz.ntmps23
  go_wp2
  go_ret
  exact⟨Am H.out.symm,0,rfl⟩
 have hne:((xs.length:Int) != (ys.length:Int))=false:=by rw[bne_eq_false_iff_eq];omega
 have hlen':=Decidable.not_not.1 hlen
 have HM:=AB hlen'
 clear hlen hlen'
 go_enter Tryz.func23,Tryz.ntmps23
 go_wp2
 go_loopw [5] (fun i wr=>∃ j m:Nat,j≤xs.length∧i=.int .i64 j∧Hid (Hq xs ys=Hq (xs.drop j) (ys.drop j))∧wr=w.drewN m) (fun i _=>xs.length - (intOf i).toNat)
 case atStart=>exact⟨0,0,Nat.zero_le _,rfl,rfl,rfl⟩
 case round =>
  obtain⟨j,m,hj,rfl,hl,rfl⟩:=hrel
  by_cases hjl:j<xs.length
  ·have hjl2:j<ys.length:=by have:=HM.out;omega
   obtain⟨b3,o3,rfl,hc3⟩:=q1.get (by omega)
   obtain⟨b4,o4,rfl,hc4⟩:=q2.get (by omega)
   have r3:=hc3 j hjl
   have r4:=hc4 j hjl2
   have HE:Hid (Hq (xs.drop j) (ys.drop j)=(Hq (xs.getD j 0) (ys.getD j 0) && Hq (xs.drop (j+1)) (ys.drop (j+1)))):=Qd xs ys 0 j hjl hjl2
   clear hc3 hc4 q1 q2 hne
   generalize xs.getD j 0=x at r3 HE
   generalize ys.getD j 0=y at r4 HE
   cases hb:(x != y)
   ·have H:Hid (Hq x y=true):=by show _=_;rw[bne_eq_false_iff_eq] at hb;simp[Hq,hb]
    go_wp2
    go_quiet (fail)
    go_wp2
    go_roundw
    case rel=>exact⟨j+1,_,by omega,by go_num,by show _=_;rw[hl.out,HE.out,H.out] <;> rfl,rfl⟩
    case measure=>simp[intOf];omega
   ·have H:Hid (Hq x y=false):=by show _=_;rw[bne_iff_ne] at hb;simp[Hq,hb]
    go_wp2
    go_quiet (fail)
    go_wp2
    go_ret
    exact⟨Am (by rw[hl.out,HE.out,H.out] <;> rfl),_,World.drewN_drewN _ _ _⟩
  ·have HE:Hid (Hq (xs.drop j) (ys.drop j)=true):=Ux _ _ _ (by omega) (by have:=HM.out;omega)
   go_wp2
   go_ret
   exact⟨Am (by rw[hl.out,HE.out] <;> rfl),m,rfl⟩
theorem G8(n:Int)(w:World):Calls Tryz.prog 33 #[.int .i64 n] w fun e w'=>e=.returned (.int .i64 n)∧w'=w:=by
 go_enter Tryz.func33,Tryz.ntmps33
 go_wp2
 go_ret
 exact⟨rfl,rfl⟩
def Bx:List Value:=[.int .i64 7,.int .i64 7]
theorem M9(n:Nat):(madeCells (Value.int .i64 0).cells (n*1)).toList=List.replicate n (.int .i64 0):=by
 have:=toList_madeCells_one (.int .i64 0) n
 simpa [Value.cells] using this
theorem KF{w:World}{base e g n:Nat}{zs:List Value}(h:w.ownsRow base e 1 (.slice (some ⟨g,0,none⟩) n n) n zs):AY w g e zs:=by
 rcases h.2 with⟨hv,_⟩ | ⟨g',cap,cur,hv,_,hh,_,_,hsz,htake⟩
 ·simp at hv
 ·simp only[Value.slice.injEq,Option.some.injEq,Addr.mk.injEq,and_true] at hv
  obtain⟨rfl,_,rfl⟩:=hv
  unfold AY
  rw[hh,← htake,List.take_of_length_le (by simp[hsz])]
theorem Pu(xs:List Int):splice (List.replicate (xs.length+2) (.int .i64 0)) 0 (AO xs)=AO xs++[.int .i64 0,.int .i64 0]:=by
 simp only[splice,List.take_zero,List.nil_append,Nat.zero_add,Az,List.drop_replicate]
 rw[show xs.length+2 - xs.length=2 by omega]
 rfl
theorem Mq{w:World}{a:Option Addr}{xs:List Int}(h:AS w a xs)(hp:0<(AO xs).length):∃ ad,a=some ad∧∀ j v,(AO xs)[j]?=some v→w.cell? (ad.add j)=some v:=by
 rw[Az] at hp
 obtain⟨b,off,rfl,hc⟩:=h.get hp
 refine⟨_,rfl,fun j v hv=>?_⟩
 have hj:j<xs.length:=by have:=(List.getElem?_eq_some_iff.1 hv).1;rwa [Az] at this
 have hadd:(⟨b,off,none⟩:Addr).add j=⟨b,off+j,none⟩:=by unfold Addr.add;split <;> simp_all
 rw[hadd,hc j hj]
 simp only[AO,List.getElem?_map,List.getElem?_eq_getElem hj,Option.map_some] at hv
 rw[← hv,List.getD_eq_getElem?_getD,List.getElem?_eq_getElem hj]
 rfl
set_option maxHeartbeats 1000000 in
theorem IB(a:Option Addr)(c:Nat)(xs:List Int)(w:World)(hbd:xs.length≤4294967296)(hr:AS w a xs) :
  Calls Tryz.prog 24 #[.slice a xs.length c] w fun e w'=>e=.returned (.slice (some ⟨w.heap.size,0,none⟩) xs.length (xs.length+2))∧AY w' w.heap.size 3 (AO xs++Bx)∧Below w.heap.size w w':=by
 obtain⟨i0,hi,hz0,hz1,hz2⟩:=info_parts Tryz.infoInt
 have b2:Hid (i0.bytes*(xs.length+2)≤281474976710656):=by show _≤_;rw[hz2];omega
 have b3:Hid (xs.length+2≤maxLen):=by show _≤_;unfold maxLen;omega
 have hsz:(Tryz.prog.info? 3).map (·.size)=some 1:=by rw[hi];simp[hz1]
 have HSZ:=AB hsz
 clear hsz
 go_enter Tryz.func24,Tryz.ntmps24
 go_wp2_with (first
  | (at_make;refine wpList_make_full _ rfl (.tmp 8) (.tmp 8) 24 rfl w.heap.size 3 i0 (.int .i64 0) 1 Tryz.undInts hi hz0 hz1 .i64 .i64 _ _ (xs.length+2) rfl rfl (by omega) (by omega) b2.out b3.out (Nat.le_refl _) ?_;intro w1 hown1 hg1;have hrow1:=KF hown1;rw[M9] at hrow1;have hb1:Below w.heap.size w w1:=(Below.refl _ _).grown hg1 (Nat.le_refl _) (by simp);have hr1:=hr.below hb1;clear hown1 hg1)
  | (refine wpList_copy_splice rfl (.tmp 10) (.tmp 11) 24 24 rfl 3 Tryz.undInts HSZ.out _ _ _ _ _ _ rfl rfl w.heap.size 0 (List.replicate (xs.length+2) (.int .i64 0)) 3 hrow1 (AO xs) (by rw[Az];exact(Nat.min_eq_left (by omega)).symm) (fun hp=>⟨rfl,Mq hr1 hp⟩) (by rw[Az,List.length_replicate];omega) (Kh xs) w.heap.size w hb1 (Nat.le_refl _) ?_;intro w2 hrow2 hb2;clear hrow1 hb1 hr1 hr;
        have hrow3:AY w2 w.heap.size 3 (AO xs++[.int .i64 0,.int .i64 0]):=(Pu xs) ▸ hrow2.out;
        have k1:w2.cell? ⟨w.heap.size,xs.length,none⟩=some (.int .i64 0):=(hrow3.cell xs.length).trans (by simp[AO]);
        have k2:w2.cell? ⟨w.heap.size,xs.length+1,none⟩=some (.int .i64 0):=(hrow3.cell (xs.length+1)).trans (by simp[AO]);
        have k3:=hrow3.frozen xs.length;
        have k4:=hrow3.frozen (xs.length+1);clear hrow2))
 go_ret
 refine⟨rfl,?_,(hb2.setCell (Nat.le_refl _) _).setCell (Nat.le_refl _) _⟩
 have h5:=(hrow3.set xs.length (.int .i64 7)).set (xs.length+1) (.int .i64 7)
 have e:((AO xs++[Value.int .i64 0,Value.int .i64 0]).set xs.length (.int .i64 7)).set (xs.length+1) (.int .i64 7)=AO xs++Bx:=by
  rw[List.set_append_right _ _ (by rw[Az];exact Nat.le_refl _),List.set_append_right _ _ (by rw[Az];omega),Az]
  simp[Bx]
 rwa [e] at h5
theorem EE(xs:List Int)(w:World)(g:Nat)(h:AY w g 3 (AO xs++Bx)):AS w (some ⟨g,0,none⟩) xs:=by
 refine .inr ⟨g,0,rfl,fun j hj=>?_⟩
 rw[h.cell,Nat.zero_add,List.getElem?_append_left (by rw[Az];exact hj)]
 simp[AO,hj]
theorem bT{zs:List Value}(k n:Nat)(hk:k≤n)(hz:zs.length=n):(List.replicate k (Value.int .i64 7)++zs.drop k).length=n:=by simp;omega
theorem bU{zs:List Value}(k:Nat)(hk:k<zs.length):(List.replicate k (Value.int .i64 7)++zs.drop k).set k (.int .i64 7)=List.replicate (k+1) (.int .i64 7)++zs.drop (k+1):=by
 rw[List.set_append_right _ _ (by simp),List.length_replicate,Nat.sub_self,List.drop_eq_getElem_cons hk,List.set_cons_zero,List.replicate_succ',List.append_assoc]
 rfl
theorem Vy{w w1 w2:World}{r:Option Nat}(h:w.grownBy w1 r)(h':w1.grownBy w2 r):w.grownBy w2 r :=
 ⟨h'.os.trans h.os,h'.tape.trans h.tape,h'.output.trans h.output,Nat.le_trans h.size h'.size,fun k hk hn=>(h'.block k (Nat.lt_of_lt_of_le hk h.size) hn).trans (h.block k hk hn)⟩
theorem Ql(w:World)(m:Nat)(r:Option Nat):w.grownBy (w.drewN m) r:=⟨rfl,rfl,rfl,Nat.le_refl _,fun _ _ _=>rfl⟩
theorem Ny(w:World)(g j:Nat)(v:Value):w.grownBy (w.setCell ⟨g,j,none⟩ v) (some g) :=
 ⟨rfl,rfl,rfl,by simp[World.setCell],fun k _ hn=>Below.heap_setCell _ _ _ _ (by intro e;exact hn (by rw[e]))⟩
set_option maxHeartbeats 1000000 in
theorem IC(g:Nat)(a:Option Addr)(c:Nat)(xs:List Int)(w:World)(hbd:xs.length≤4294967296)(hrow:AY w g 3 (AO xs++Bx))(hr:AS w a xs) :
  Calls Tryz.prog 31 #[.slice (some ⟨g,0,none⟩) xs.length (xs.length+2),.slice a xs.length c] w fun e w'=>e=.returned (.bool true)∧w.grownBy w' (some g):=by
 have hsi:=EE xs w g hrow
 have hcs:=FE (some ⟨g,0,none⟩) a (xs.length+2) c xs xs w (by omega) hsi hr
 rw[show Hq xs xs=true by simp[Hq]] at hcs
 have HCS:=AB hcs
 have k1:w.cell? ⟨g,xs.length,none⟩=some (.int .i64 7):=(hrow.cell xs.length).trans (by simp[AO,Bx])
 have k2:w.cell? ⟨g,xs.length+1,none⟩=some (.int .i64 7):=(hrow.cell (xs.length+1)).trans (by simp[AO,Bx])
 have HR:=AB hrow
 clear hcs hsi hr hrow
 go_enter Tryz.func31,Tryz.ntmps31
 go_wp2_with fail
 refine(AE HCS).mono ?_
 rintro e w1 ⟨rfl,m1,rfl⟩
 go_wp2
 go_loopw [9] (fun i wr=>∃ k:Nat,k≤xs.length+2∧i=.int .i64 k∧Hid (AY wr g 3 (List.replicate k (.int .i64 7)++(AO xs++Bx).drop k))∧w.grownBy wr (some g)) (fun i _=>xs.length+2 - (intOf i).toNat)
 case atStart=>exact⟨0,Nat.zero_le _,rfl,HR.out,Ql _ _ _⟩
 case round =>
  obtain⟨k,hk,rfl,hrow,hg⟩:=hrel
  by_cases hlt:k<xs.length+2
  ·have hz:(AO xs++Bx).length=xs.length+2:=by simp[AO,Bx]
   have hcell:∃ v,wr.cell? ⟨g,k,none⟩=some v:=by
    rw[hrow.out.cell]
    exact⟨_,List.getElem?_eq_getElem (by rw[bT k (xs.length+2) (by omega) hz];exact hlt)⟩
   obtain⟨v,hv⟩:=hcell
   have hf:=hrow.out.frozen k
   have HN:Hid (AY (wr.setCell ⟨g,k,none⟩ (.int .i64 7)) g 3 (List.replicate (k+1) (.int .i64 7)++(AO xs++Bx).drop (k+1))):=by
    have:=hrow.out.set k (.int .i64 7)
    rwa [bU k (by rw[hz];exact hlt)] at this
   clear hz
   go_wp2
   go_roundw
   case rel=>exact⟨k+1,by omega,by go_num,HN,Vy hg (Ny _ _ _ _)⟩
   case measure=>simp[intOf];omega
  ·go_wp2
   go_ret
   exact⟨rfl,hg⟩
set_option maxHeartbeats 1000000 in
theorem JL(a1 a2:Option Addr)(c1 c2:Nat)(A1 A2:Nat→Option Addr)(C1 C2:Nat→Nat)(xss yss:List (List Int))(w:World)
  (hx:xss.length≤9223372036854775807) (hr1:CC w a1 A1 C1 xss) (hr2:CC w a2 A2 C2 yss) :
  Calls Tryz.prog 53 #[.slice a1 xss.length c1,.slice a2 yss.length c2] w fun e w'=>e=.returned (.bool (Hq xss yss))∧∃ m,w'=w.drewN m:=by
 by_cases hlen:¬ xss.length=yss.length
 ·have hne:((xss.length:Int) != (yss.length:Int))=true:=by rw[bne_iff_ne];omega
  have H:Hid (Hq xss yss=false):=Uy _ _ hlen
  clear hlen
  go_enter Tryz.func53,Tryz.ntmps53
  go_wp2
  go_ret
  exact⟨Am H.out.symm,0,rfl⟩
 have hne:((xss.length:Int) != (yss.length:Int))=false:=by rw[bne_eq_false_iff_eq];omega
 have hlen':=Decidable.not_not.1 hlen
 have HL:=AB hlen'
 clear hlen hlen'
 go_enter Tryz.func53,Tryz.ntmps53
 go_wp2
 go_loopw [5] (fun i wr=>∃ k m:Nat,k≤xss.length∧i=.int .i64 k∧Hid (Hq xss yss=Hq (xss.drop k) (yss.drop k))∧wr=w.drewN m) (fun i _=>xss.length - (intOf i).toNat)
 case atStart=>exact⟨0,0,Nat.zero_le _,rfl,rfl,rfl⟩
 case round =>
  obtain⟨k,m,hk,rfl,hl,hw⟩:=hrel
  have HW:=AB hw
  by_cases hlt:k<xss.length
  ·have hlt2:k<yss.length:=by have:=HL.out;omega
   obtain⟨b1,o1,rfl,hc1⟩:=(show CC wr _ _ _ _ from hr1.kept (fun _ _ _ h=>by rw[hw];exact h)).get (by omega)
   obtain⟨b2,o2,rfl,hc2⟩:=(show CC wr _ _ _ _ from hr2.kept (fun _ _ _ h=>by rw[hw];exact h)).get (by omega)
   clear hw
   obtain⟨p1,q1,s1⟩:=hc1 k hlt
   obtain⟨p2,q2,s2⟩:=hc2 k hlt2
   have HD:Hid (Hq (xss.drop k) (yss.drop k)=(Hq (xss.getD k []) (yss.getD k []) && Hq (xss.drop (k+1)) (yss.drop (k+1)))):=Qd xss yss [] k hlt hlt2
   clear hc1 hc2 hr1 hr2 hne
   generalize xss.getD k []=xs at p1 q1 s1 HD
   generalize yss.getD k []=ys at p2 q2 s2 HD
   generalize A1 k=a1 at p1 q1
   generalize A2 k=a2 at p2 q2
   generalize C1 k=c1 at p1
   generalize C2 k=c2 at p2
   have hcs:∀ n,Calls Tryz.prog 23 #[.slice a1 xs.length c1,.slice a2 ys.length c2] (wr.drewN n) fun e w'=>e=.returned (.bool (Hq xs ys))∧∃ m',w'=(wr.drewN n).drewN m':=fun n=>FE a1 a2 c1 c2 xs ys (wr.drewN n) s1 (q1.kept fun _ _ _ h=>h) (q2.kept fun _ _ _ h=>h)
   have HCS:=AB hcs
   clear hcs q1 q2 s1 s2
   go_wp2
   go_quiet ((go_at_call 23;exact Calls.quiet_of (AE HCS _)))
   cases hb:Hq xs ys
   ·go_wp2
    go_ret
    exact⟨Am (by rw[hl.out,HD.out,hb] <;> rfl),_,by rw[HW.out];exact World.drewN_drewN _ _ _⟩
   ·go_wp2
    go_roundw
    case rel=>exact⟨k+1,_,by omega,by go_num,by show _=_;rw[hl.out,HD.out,hb] <;> rfl,by rw[HW.out];exact World.drewN_drewN _ _ _⟩
    case measure=>simp[intOf];omega
  ·have HE:Hid (Hq (xss.drop k) (yss.drop k)=true):=Ux _ _ _ (by omega) (by have:=HL.out;omega)
   clear hw
   go_wp2
   go_ret
   exact⟨Am (by rw[hl.out,HE.out] <;> rfl),m,HW.out⟩
end Go.Proofs.YthboeppmlhbofaaGreatDoor
