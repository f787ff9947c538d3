import Derived.Test.YthboeppmlhbofaaGreatDoorMoo
import Derived.Test.YthboeppmlhbofaaGreatDoorHac
import Derived.Test.YthboeppmlhbofaaGreatDoorClf
import Derived.Test.YthboeppmlhbofaaGreatDoorDca
namespace Go.Proofs.YthboeppmlhbofaaGreatDoor
open Go.RowKit Txt
set_option maxRecDepth 100000
theorem YT(c o:Nat)(hc:c<1048576)(ho:o<1048576):((c:Int) - bits .and .i64 (c:Int) (o:Int))=((c - (c&&&o):Nat):Int):=by
 rw[EX c o (by omega) (by omega)]
 have:=@Nat.and_le_left c o
 omega
theorem bD(x:Nat)(h0:x≠0)(hx:x<1048576):bits .and .i64 (x:Int) ((x:Int) - 1)=((x&&&(x - 1):Nat):Int):=by
 rw[show((x:Int) - 1)=((x - 1:Nat):Int) by omega]
 exact EX x (x - 1) (by omega) (by omega)
def dO:Option Nat→Bool
 | none=>true
 | some k=>BN k
theorem Vk(cs:List Nat)(k:Nat):Ab cs k=dO (IW cs 21 k):=by
 unfold Ab dO
 cases IW cs 21 k <;> rfl
theorem bJ(cs:List Nat)(i k:Nat)(h:i<cs.length):FC (cs.drop i) k=if Av (cs.getD i 0) k=0 then none else FC (cs.drop (i+1)) (if Av (cs.getD i 0) k&&&(Av (cs.getD i 0) k - 1)=0 then k|||Av (cs.getD i 0) k else k):=by
 rw[Cc cs 0 i h]
 rfl
set_option maxHeartbeats 4000000 in
theorem Vj(a:Option Addr)(c:Nat)(cs:List Nat)(k:Nat)(w:World)(hr:AS w a (A8 cs))(hbd:cs.length≤9223372036854775000)(hk:k<1048576)(hc:∀ x∈cs,x<1048576) :
  Calls Tryz.prog 129 #[.slice a cs.length c,.int .i64 k] w fun e w'=>e=.returned (.bool (Ab cs k))∧Below w.heap.size w w':=by
 have HC:=AB hc
 have HR:=AB hr
 have HRES:=AB (Vk cs k)
 have HB0:Hid (Below w.heap.size w w):=Below.refl _ _
 generalize Ab cs k=RES at *
 clear hc hr
 go_enter Tryz.func129,Tryz.ntmps129
 go_wp2_with fail
 go_loopw [5,6] (fun x5 x6 wr=>∃ (r q:Nat),r≤21∧q<1048576∧x5=.int .i64 q∧x6=.int .i64 r∧Hid (Below w.heap.size w wr)∧Hid (RES=dO (IW cs (21 - r) q))) (fun _ x6 _=>21 - (intOf x6).toNat)
 case atStart=>exact⟨0,k,by omega,hk,rfl,rfl,HB0,HRES⟩
 case round =>
  clear HRES HB0
  obtain⟨r,q,hr21,hq,rfl,rfl,HB,HF⟩:=hrel
  by_cases hlt:r<21
  ·have HP:Hid (RES=dO (match FC cs q with | none=>none | some q'=>IW cs (20 - r) q')):=by
    show _=_
    rw[HF.out,show 21 - r=(20 - r)+1 by omega]
    rfl
   generalize hpq:FC cs q=PQ at HP
   have HPQ:=AB hpq
   have hr20:(r:Int)≤20:=by omega
   clear hpq HF
   go_wp2_with fail
   go_loopw [5,7] (fun x5 x7 wr=>∃ (i q':Nat),i≤cs.length∧q'<1048576∧x5=.int .i64 q'∧x7=.int .i64 i∧Hid (Below w.heap.size w wr)∧Hid (FC (cs.drop i) q'=PQ)) (fun _ x7 _=>cs.length - (intOf x7).toNat)
   case atStart=>exact⟨0,q,Nat.zero_le _,hq,rfl,rfl,HB,HPQ⟩
   case round =>
    clear HPQ hq HB
    obtain⟨i,q',hi,hq',rfl,rfl,HBI,HI⟩:=hrel
    by_cases hlti:i<cs.length
    ·obtain⟨b,off,rfl,hcl⟩:=FX (HR.out.below HBI.out) (by omega)
     have h1:=hcl i hlti
     have hx:=HC.out _ (Fh cs i hlti)
     have hi2:=HI.out
     rw[bJ cs i q' hlti] at hi2
     generalize cs.getD i 0=x at h1 hx hi2
     have HO:Hid (∀ w,Calls Tryz.prog 65 #[.int .i64 q'] w fun e w'=>e=.returned (.int .i64 (AW q':Nat))∧w'=w):=fun w=>FA q' hq' w
     have ho:=C6 q'
     have hli:=YT x (AW q') hx ho
     have hle:Av x q'≤x:=PW x q'
     have hl2:((x:Int) - bits .and .i64 (x:Int) ((AW q':Nat):Int))=((Av x q':Nat):Int):=hli
     have HI2:=AB hi2
     generalize AW q'=o at *
     generalize Av x q'=L at *
     clear hi2 hcl HI hli
     go_wp2_with fail
     go_region_with (go_at_call 65;refine(AE HO _).mono ?_;rintro e w' ⟨rfl,rfl⟩)
     all_goals
      have HBD:Hid (Below w.heap.size w wr.drew):=below_drewN HBI.out 1
      generalize wr.drew=wd at *
      by_cases h0:L=0
      ·subst h0
       have HPN:Hid (PQ=none):=by have:=HI2.out;rw[if_pos rfl] at this;exact this.symm
       go_wp2
       go_ret
       exact⟨by rw[HP.out,HPN.out];rfl,HBD.out⟩
      ·have hL0:((L:Int) == 0)=false:=by rw[beq_eq_false_iff_ne];omega
       have hLx:L<1048576:=by omega
       have h1L:=bD L h0 hLx
       have hor:=IU q' L (by omega) (by omega)
       have hql:q'|||L<1048576:=Nat.or_lt_two_pow (n:=20) hq' hLx
       by_cases hs:L&&&(L - 1)=0
       ·rw[hs] at h1L
        have HPN:Hid (FC (cs.drop (i+1)) (q'|||L)=PQ):=by have:=HI2.out;rw[if_neg h0,if_pos hs] at this;exact this
        have hLn:0<L:=by omega
        generalize q'|||L=qn at *
        clear hs h0 HI2
        go_wp2
        go_roundw
        case rel=>exact⟨i+1,qn,by omega,hql,rfl,by go_num,HBD,HPN⟩
        case measure=>simp[intOf];omega
       ·have hsb:(((L&&&(L - 1):Nat):Int) == 0)=false:=by rw[beq_eq_false_iff_ne];omega
        have HPN:Hid (FC (cs.drop (i+1)) q'=PQ):=by have:=HI2.out;rw[if_neg h0,if_neg hs] at this;exact this
        have hLn:0<L:=by omega
        generalize L&&&(L - 1)=LL at *
        clear hs h0 HI2
        go_wp2
        go_roundw
        case rel=>exact⟨i+1,q',by omega,hq',rfl,by go_num,HBD,HPN⟩
        case measure=>simp[intOf];omega
    ·have HPN:Hid (some q'=PQ):=by
      have:=HI.out
      rw[List.drop_eq_nil_of_le (by omega)] at this
      exact this
     have HRN:Hid (RES=dO (IW cs (21 - (r+1)) q')):=by
      show _=_
      rw[HP.out,← HPN.out,show 21 - (r+1)=20 - r by omega]
     clear HP HI HPN
     go_wp2
     go_roundw
     case rel=>exact⟨r+1,q',by omega,hq',rfl,by go_num,HBI,HRN⟩
     case measure=>simp[intOf];omega
  ·obtain rfl:r=21:=by omega
   have HRN:Hid (RES=BN q):=HF.out
   have HT:=AB (Ng q hq wr)
   clear HF
   go_wp2_with (go_at_call 64;refine(AE HT).mono ?_;rintro e w' ⟨rfl,hw⟩;obtain rfl:=hw.symm)
   go_ret
   exact⟨Am HRN.out.symm,HB.out⟩
set_option maxHeartbeats 1000000 in
theorem Kg(a:Option Addr)(c:Nat)(cs:List Nat)(s:Nat)(w:World)(hr:AS w a (A8 cs))(hbd:cs.length≤9223372036854775000)(hs:s<1048576)(hc:∀ x∈cs,x<1048576) :
  Calls Tryz.prog 110 #[.slice a cs.length c,.int .i64 s] w fun e w'=>e=.returned (.bool (Ab cs (AW s)))∧Below w.heap.size w w':=by
 have HO:=AB (FA s hs w)
 have HCL:=AB (Vj a c cs (AW s) w hr hbd (C6 s) hc)
 generalize Ab cs (AW s)=RES at *
 generalize AW s=o at *
 clear hr hc
 go_enter Tryz.func110,Tryz.ntmps110
 go_wp2_with fail
 refine(AE HO).mono ?_
 rintro e w' ⟨rfl,hw⟩
 obtain rfl:=hw.symm
 go_wp2_with fail
 refine(AE HCL).mono ?_
 rintro e w' ⟨rfl,hb⟩
 go_wp2
 go_ret
 exact⟨rfl,hb⟩
theorem XA(cs:List Nat)(lt:Nat)(xs:List Int):(Ig cs lt xs).2.length≤cs.length+1:=by
 unfold Ig
 split
 ·split
  ·have:=List.length_erase_le (a:=AJ xs) (l:=cs);simp only;omega
  ·simp
 ·split
  ·simp
  ·split
   ·simp
   ·simp
theorem DX(xs:List Int):AJ xs<1048576:=(CT.ok xs).top
theorem XB(cs:List Nat)(lt:Nat)(xs:List Int)(h:∀ c∈cs,c<1048576):∀ c∈(Ig cs lt xs).2,c<1048576:=by
 unfold Ig
 split
 ·split
  ·intro c hc;exact h c (List.mem_of_mem_erase hc)
  ·exact h
 ·split
  ·exact h
  ·split
   ·intro c hc
    rcases List.mem_append.1 hc with hc | hc
    ·exact h c hc
    ·simp at hc;subst hc;exact DX xs
   ·exact h
theorem Fk{w:World}{B e c:Nat}{a:Option Addr}{cs:List Nat}(h:w.ownsRow B e 1 (.slice a cs.length c) cs.length (AO (A8 cs))):AS w a (A8 cs):=by
 have h':w.ownsRow B e 1 (.slice a cs.length c) (A8 cs).length (AO (A8 cs)):=by rw[Ea];exact h
 exact BF h'
theorem OM{w:World}{B e s n m:Nat}{u:Value}{a:Option Addr}{c:Nat}{xs:List Value}(h:w.ownsRow B e s u n xs){w2:World}{ys:List Value}{e2 s2:Nat}(h2:w2.ownsRow w.heap.size e2 s2 (.slice a m c) m ys):Af (.slice a m c) u:=by
 intro b hb hu
 have h3:=(h2.lt b hb).1
 have h4:=(h.lt b hu).2
 omega
set_option maxHeartbeats 8000000 in
theorem WK(B:Nat)(ha:Option Addr)(hc:Nat)(hv:List Nat)(s:ByteArray)(w:World)(hB:B≤w.heap.size)(ho:w.ownsRow B 3 1 (.slice ha hv.length hc) hv.length (AO (A8 hv)))(htop:∀ c∈hv,c<1048576)(hs:s.size≤4194304)(hl:hv.length≤100000000) :
  Calls Tryz.prog 92 #[.slice ha hv.length hc,.string s] w (LX B w (aC (bs s) (s.size+1) hv 0 0 0 [])):=by
 obtain⟨i0,hi0,hy0,hy1,hy2⟩:=info_parts Tryz.infoInt
 have HO:=AB ho
 have HT:=AB htop
 have HB0:Hid (Below B w w):=Below.refl _ _
 have HX0:Hid (w.ownsRow B 3 1 (.slice none 0 0) 0 (AO [])):=⟨rfl,.inl ⟨rfl,rfl⟩⟩
 have HA0:Hid (Af (.slice none 0 0) (.slice ha hv.length hc)):=(Dm _).symm
 generalize hrs:aC (bs s) (s.size+1) hv 0 0 0 []=RES
 have HRES:=AB hrs
 clear ho htop hrs
 go_enter Tryz.func92,Tryz.ntmps92
 go_wp2_with fail
 go_loopw [0,7,8,9,10] (fun x0 x7 x8 x9 x10 wr=>∃ (cs:List Nat) (p n m lt:Nat) (xs:List Int) (a1 a2:Option Addr) (c1 c2:Nat),p≤s.size∧n≤p∧s.size<p+m∧cs.length≤hv.length+n∧xs.length≤p∧x0=.slice a1 cs.length c1∧x7=.slice a2 xs.length c2∧x8=.bool (lt == 101)∧x9=.int .i64 n∧x10=.int .i64 p∧Hid (wr.ownsRow B 3 1 (.slice a1 cs.length c1) cs.length (AO (A8 cs)))∧Hid (∀ c∈cs,c<1048576)∧Hid (wr.ownsRow B 3 1 (.slice a2 xs.length c2) xs.length (AO xs))∧Hid (Af (.slice a2 xs.length c2) (.slice a1 cs.length c1))∧Hid (Below B w wr)∧Hid (aC (bs s) m cs p n lt xs=RES)) (fun _ _ _ _ x10 _=>s.size - (intOf x10).toNat)
 case atStart=>exact⟨hv,0,0,s.size+1,0,[],ha,none,hc,0,by omega,by omega,by omega,by omega,by simp,rfl,rfl,rfl,rfl,rfl,HO,HT,HX0,HA0,HB0,HRES⟩
 case round =>
  clear HO HT HB0 HX0 HA0 HRES
  obtain⟨cs,p,n,m,lt,xs,a1,a2,c1,c2,hp,hn,hm,hcl,hxl,rfl,rfl,rfl,rfl,rfl,HO,HT,HX,HAP,HB,HF⟩:=hrel
  obtain⟨m,rfl⟩:∃ k,m=k+1:=⟨m - 1,by omega⟩
  have hf:=HF.out
  simp only[aC,Aa] at hf
  have hzr:B≤wr.heap.size:=Nat.le_trans hB HB.out.size
  by_cases hlt:p<s.size
  ·rw[if_pos hlt] at hf
   have HLN:=AB (OW s p wr hs hlt)
   go_wp2_with fail
   refine(AE HLN).mono ?_
   rintro e w2 ⟨hb2,hp2⟩
   have hz2:wr.heap.size≤w2.heap.size:=hb2.size
   have B2:Hid (Below B w w2):=HB.out.trans (hb2.mono hzr)
   cases hrl:Bw (bs s) p with
   | none =>
    rw[hrl] at hp2 hf
    simp only at hp2 hf
    subst hp2
    have HRR:=AB hf
    clear hf hb2 HLN
    go_wp2
    go_ret3
    rw[← HRR.out]
    exact⟨B2.out,none,0,rfl,rfl,.inl ⟨rfl,rfl⟩⟩
   | some r =>
    obtain⟨lt',xs',q⟩:=r
    rw[hrl] at hp2 hf
    simp only at hp2 hf
    obtain⟨a',c',rfl,ho2⟩:=hp2
    obtain⟨g1,g2,g3⟩:=Lj hrl
    rw[Aa] at g2
    have O2:=AB (AK HO.out hb2)
    have OX2:=AB (BO ho2 hzr)
    have AP2:Hid (Af (.slice a' xs'.length c') (.slice a1 cs.length c1)):=OM HO.out ho2
    have HSE:=AB (FH a' c' xs' w2 (by omega) (BF ho2))
    have hsk:=DX xs'
    have hsd:=XA cs lt' xs'
    have HST:=AB (XB cs lt' xs' HT.out)
    have HSD:Hid (Ig cs lt' xs'=if lt'=100 then (if AJ xs'∈cs then ((0:Int),cs.erase (AJ xs')) else (8,cs)) else if Ab cs (AW (AJ xs'))=false then (7,cs) else if lt'=97 then (0,cs++[AJ xs']) else (0,cs)):=rfl
    have HRR:=AB hf
    have k101:(((lt':Nat):Int) == 101)=(lt' == 101):=E8 lt' 101
    have k97:(((lt':Nat):Int) == 97)=(lt' == 97):=E8 lt' 97
    have k100:(((lt':Nat):Int) == 100)=(lt' == 100):=E8 lt' 100
    clear hf hb2 ho2 HLN hrl HO HX HAP HF HB
    have hz2B:B≤w2.heap.size:=Nat.le_trans hzr hz2
    go_wp2_with fail
    refine(AE HSE).mono ?_
    rintro e w' ⟨rfl,hw⟩
    obtain rfl:=hw.symm
    generalize xs'.all AT=al at *
    generalize AJ xs'=sx at *
    generalize Ig cs lt' xs'=SD at *
    clear HSE
    by_cases h100:lt'=100
    ·have k1:(((lt':Nat):Int) == 100)=true:=by rw[k100];simpa using h100
     have k2:(((lt':Nat):Int) == 97)=false:=by rw[k97];simp;omega
     have k3:(((lt':Nat):Int) == 101)=false:=by rw[k101];simp;omega
     have HIN:=AB (Ta a1 c1 cs sx w2 (Fk O2.out) (by omega))
     have hsd2:=HSD.out
     rw[if_pos h100] at hsd2
     clear k101 k97 k100 HSD
     go_wp2_with fail
     refine(AE HIN).mono ?_
     rintro e w' ⟨⟨r,rfl,hr⟩,hw⟩
     obtain rfl:=hw.symm
     clear HIN
     rcases hr with⟨rfl,hnm⟩ | ⟨k,hk,rfl,hk1,hk2⟩
     ·rw[if_neg hnm] at hsd2
      subst hsd2
      have HR2:=HRR.out
      rw[if_pos (by simp)] at HR2
      have HR3:=AB HR2
      clear HRR HR2 hnm
      go_wp2
      go_ret3
      rw[← HR3.out]
      exact⟨B2.out,none,0,rfl,rfl,.inl ⟨rfl,rfl⟩⟩
     ·have hmem:sx∈cs:=by rw[← hk1];exact Fh cs k hk
      have her:Ln cs k cs.length=cs.erase sx:=by rw[Qe cs sx k hk hk1 hk2,Z2 cs k hk]
      rw[if_pos hmem] at hsd2
      subst hsd2
      have HR2:=HRR.out
      rw[if_neg (by simp)] at HR2
      simp only at HR2 hsd HST
      have HWO:=AB (MA a1 c1 cs k w2 (Fk O2.out) (by omega))
      rw[her] at HWO
      generalize cs.erase sx=cs' at *
      have HR3:=AB HR2
      have hkn:¬ ((k:Int)<0):=by omega
      clear HRR HR2 hk1 hk2 hmem her
      go_wp2_with fail
      refine(AE HWO).mono ?_
      rintro e w3 ⟨⟨a3,c3,rfl,ho3⟩,hb3⟩
      have B3:Hid (Below B w w3):=B2.out.trans (hb3.mono hz2B)
      have OX3:=AB (AK OX2.out hb3)
      have O3:=AB (BO ho3 hz2B)
      have AP3:Hid (Af (.slice a' xs'.length c') (.slice a3 cs'.length c3)):=(OM OX2.out ho3).symm
      clear ho3 hb3 HWO
      go_wp2
      go_roundw
      case rel=>exact⟨cs',q,n+1,m,lt',xs',a3,a',c3,c',by omega,by omega,by omega,by omega,by omega,rfl,rfl,by simp;omega,by go_num,rfl,O3,HST,OX3,AP3,B3,HR3⟩
      case measure=>simp[intOf];omega
    ·have k1:(((lt':Nat):Int) == 100)=false:=by rw[k100];simpa using h100
     have HFO:=AB (Kg a1 c1 cs sx w2 (Fk O2.out) (by omega) hsk HT.out)
     have hsd2:=HSD.out
     rw[if_neg h100] at hsd2
     generalize Ab cs (AW sx)=CD at *
     clear k100 HSD
     go_wp2_with fail
     refine(AE HFO).mono ?_
     rintro e w3 ⟨rfl,hb3⟩
     have B3:Hid (Below B w w3):=B2.out.trans (hb3.mono hz2B)
     have OX3:=AB (AK OX2.out hb3)
     have O3:=AB (AK O2.out hb3)
     have hz3:B≤w3.heap.size:=Nat.le_trans hz2B hb3.size
     clear hb3 HFO
     cases CD with
     | false =>
      rw[if_pos rfl] at hsd2
      subst hsd2
      have HR2:=HRR.out
      rw[if_pos (by simp)] at HR2
      have HR3:=AB HR2
      clear HRR HR2
      go_wp2
      go_ret3
      rw[← HR3.out]
      exact⟨B3.out,none,0,rfl,rfl,.inl ⟨rfl,rfl⟩⟩
     | true =>
      rw[if_neg (by decide)] at hsd2
      by_cases h97:lt'=97
      ·rw[if_pos h97] at hsd2
       subst hsd2
       have HR2:=HRR.out
       rw[if_neg (by simp)] at HR2
       simp only at HR2 hsd HST
       have HR3:=AB HR2
       have k2:(((lt':Nat):Int) == 97)=true:=by rw[k97];simpa using h97
       have k3:(((lt':Nat):Int) == 101)=false:=by rw[k101];simp;omega
       have d1:Hid (cs.length+1≤maxLen):=by show _≤_;unfold maxLen;omega
       have d2:Hid ((cs.length+1)*8≤140737488355328):=by show _≤_;omega
       clear HRR HR2 k101 k97
       go_wp2_with (at_builtin;refine Ap _ rfl _ _ 24 rfl B 3 i0 (.int .i64 0) 8 Tryz.undInts hi0 hy0 hy1 hy2 rfl (.slice a1 cs.length c1) cs.length (AO (A8 cs)) rfl (O3.out.alloc _) ⟨w3.heap.size,0,none⟩ 1 1 [.int .i64 (sx:Int)] rfl rfl (AH w3 [.int .i64 (sx:Int)] 3) (by intro u hu;simp at hu;subst hu;rfl) (by decide) d1.out d2.out (by simp;omega) (w3.heap.size+1) (by simp) ?_;intro a4 c4 w4 hown4 hg4 hl4)
       have O4:Hid (w4.ownsRow B 3 1 (.slice a4 (cs.length+1) c4) (cs.length+1) (AO (A8 (cs++[sx])))):=(show AO (A8 cs)++[Value.int .i64 (sx:Int)]=AO (A8 (cs++[sx])) by simp[AO,A8]) ▸ hown4
       have B4:Hid (Below B w w4):=(B3.out.alloc hz3 _).grown hg4 (by simp;omega) (fun j hj=>(O3.out.lt j hj).1)
       have OX4:Hid (w4.ownsRow B 3 1 (.slice a' xs'.length c') xs'.length (AO xs')):=Aj (OX3.out.alloc _) hg4 AP2.out
       have AP4:Hid (Af (.slice a' xs'.length c') (.slice a4 (cs.length+1) c4)):=by
        intro b hb hb4
        rcases hl4 with h | ⟨h,_⟩
        ·simp only[Value.slice.injEq] at h
         obtain⟨rfl,_,rfl⟩:=h
         exact AP2.out b hb (by cases a1 with | none=>simp[Value.ownBlock] at hb4 | some x=>exact hb4)
        ·subst h
         have h5:=(OX3.out.lt b hb).2
         simp only[Value.ownBlock,Option.some.injEq] at hb4
         omega
       clear hown4 hg4 hl4
       go_roundw
       case rel=>exact⟨cs++[sx],q,n+1,m,lt',xs',a4,a',c4,c',by omega,by omega,by omega,by simp;omega,by omega,by simp,rfl,by simp;omega,by go_num,rfl,by rw[List.length_append];exact O4,HST,OX4,by rw[List.length_append];exact AP4,B4,HR3⟩
       case measure=>simp[intOf];omega
      ·rw[if_neg h97] at hsd2
       subst hsd2
       have HR2:=HRR.out
       rw[if_neg (by simp)] at HR2
       simp only at HR2 hsd HST
       have HR3:=AB HR2
       have k2:(((lt':Nat):Int) == 97)=false:=by rw[k97];simpa using h97
       clear HRR HR2 k97
       go_wp2
       go_roundw
       case rel=>exact⟨cs,q,n+1,m,lt',xs',a1,a',c1,c',by omega,by omega,by omega,by omega,by omega,rfl,rfl,rfl,by go_num,rfl,O3,HST,OX3,AP2,B3,HR3⟩
       case measure=>simp[intOf];omega
  ·rw[if_neg hlt] at hf
   by_cases h101:lt=101
   ·have kb:(lt == 101)=true:=by simpa using h101
    rw[if_neg (by simp[h101])] at hf
    have HRR:=AB hf
    clear hf h101
    go_wp2
    go_ret3
    rw[← HRR.out]
    exact⟨HB.out,a2,c2,rfl,HX.out⟩
   ·have kb:(lt == 101)=false:=by simpa using h101
    rw[if_pos h101] at hf
    have HRR:=AB hf
    clear hf h101
    go_wp2
    go_ret3
    rw[← HRR.out]
    exact⟨HB.out,none,0,rfl,rfl,.inl ⟨rfl,rfl⟩⟩
theorem Od{w:World}{B c:Nat}{a:Option Addr}{xs:List Int}(h:w.ownsRow B 3 1 (.slice a xs.length c) xs.length (AO xs)):(a=none→xs.length=0∧c=0)∧∀ ad,a=some ad→∀ j u,(AO xs)[j]?=some u→w.cell? (ad.add j)=some u:=by
 rcases h.2 with⟨hv,h0⟩ | ⟨g,cap,cur,hv,_⟩
 ·simp only[Value.slice.injEq] at hv
  obtain⟨rfl,_,rfl⟩:=hv
  exact⟨fun _=>⟨h0,rfl⟩,fun ad e=>by simp at e⟩
 ·simp only[Value.slice.injEq] at hv
  obtain⟨rfl,_,rfl⟩:=hv
  refine⟨fun e=>by simp at e,fun ad e j u hu=>?_⟩
  simp only[Option.some.injEq] at e
  subst e
  exact h.cells (g:=g) rfl j u hu
set_option maxHeartbeats 2000000 in
theorem Rz(B1 B2:Nat)(a1 a2:Option Addr)(c1 c2:Nat)(xs ys:List Int)(w:World)(h1:w.ownsRow B1 3 1 (.slice a1 xs.length c1) xs.length (AO xs))(h2:w.ownsRow B2 3 1 (.slice a2 ys.length c2) ys.length (AO ys))(hl:xs.length+ys.length≤1000000000) :
  Calls Tryz.prog 109 #[.slice a1 xs.length c1,.slice a2 ys.length c2] w fun e w'=>(∃ a c,e=.returned (.slice a (xs++ys).length c)∧AS w' a (xs++ys))∧Below w.heap.size w w':=by
 obtain⟨i0,hi0,hy0,hy1,hy2⟩:=info_parts Tryz.infoInt
 have hlc:Hid ((xs.length:Int)+(ys.length:Int)=((xs.length+ys.length:Nat):Int)):=by show _=_;omega
 have d2:Hid (i0.bytes*(xs.length+ys.length)≤281474976710656):=by show _≤_;rw[hy2];omega
 have d1:Hid (xs.length+ys.length≤maxLen):=by show _≤_;unfold maxLen;omega
 have O1:=AB (Od h1)
 have O2:=AB (Od h2)
 clear h1 h2
 go_enter Tryz.func109,Tryz.ntmps109
 go_wp2_with (first
  | (at_make;refine wpList_make_own _ rfl _ _ 24 rfl w.heap.size 3 i0 (.int .i64 0) 1 Tryz.undInts hi0 hy0 hy1 .i64 .i64 _ (xs.length+ys.length) rfl rfl hlc.out d2.out d1.out (Nat.le_refl _) ?_;intro w4 hown4 hg4;
        have K4:Hid (Below w.heap.size w w4):=(Below.refl _ _).grown hg4 (Nat.le_refl _) (by simp);
        have O4:=AB hown4;clear hown4 hg4)
  | (at_builtin;refine wpList_append_fits_any _ rfl _ _ 24 rfl w.heap.size 3 i0 1 Tryz.undInts hi0 hy1 w.heap.size 0 (xs.length+ys.length) [] rfl O4.out a1 xs.length c1 (AO xs) rfl (by rw[Az,Nat.mul_one]) O1.out.1 (fun ad had j u hu=>by have hc:=O1.out.2 ad had j u hu;exact(K4.out.cell (World.block_lt_of_cell? w _ hc)).trans hc) (Kh xs) (by omega) ?_;intro w5 hown5 hg5;
        have K5:Hid (Below w.heap.size w w5):=K4.out.grown hg5 K4.out.size (by intro k hk;simp at hk;omega);
        rw[Nat.zero_add,List.nil_append] at hown5;
        have O5:=AB hown5;clear hown5 hg5 O4 K4)
  | (at_builtin;refine wpList_append_fits_any _ rfl _ _ 24 rfl w.heap.size 3 i0 1 Tryz.undInts hi0 hy1 w.heap.size xs.length (xs.length+ys.length) (AO xs) rfl O5.out a2 ys.length c2 (AO ys) rfl (by rw[Az,Nat.mul_one]) O2.out.1 (fun ad had j u hu=>by have hc:=O2.out.2 ad had j u hu;exact(K5.out.cell (World.block_lt_of_cell? w _ hc)).trans hc) (Kh ys) (by omega) ?_;intro w6 hown6 hg6;
        have K6:Hid (Below w.heap.size w w6):=K5.out.grown hg6 K5.out.size (by intro k hk;simp at hk;omega);
        have O6:=AB hown6;clear hown6 hg6 O5 K5))
 have hlen:(xs++ys).length=xs.length+ys.length:=List.length_append
 have e:AO xs++AO ys=AO (xs++ys):=by simp[AO]
 have O7:w6.ownsRow w.heap.size 3 1 (.slice (some ⟨w.heap.size,0,none⟩) (xs.length+ys.length) (xs.length+ys.length)) (xs++ys).length (AO (xs++ys)):=by rw[hlen,← e];exact O6.out
 go_ret
 exact⟨⟨some ⟨w.heap.size,0,none⟩,xs.length+ys.length,by rw[hlen];rfl,BF O7⟩,K6.out⟩
structure SE where
 cb:Nat
 gx:Nat
 gy:Nat
 r:Int
 h:Int
 l:Int
 vg:Value
 ah:Option Addr
 ch:Nat
 hv:List Nat
 lits:Nat
 seen:Nat
 al:Option Addr
 cl:Nat
 lr:List Nat
 held:Nat
 log:Nat
 unsat:Nat
 pf:ByteArray
 st:Nat
def SE.cells(d:SE):List Value:=[.pointer (some ⟨d.gx,0,none⟩),.pointer (some ⟨d.gy,0,none⟩),.int .i64 d.r,.int .i64 d.h,.int .i64 d.l,d.vg,.slice d.ah d.hv.length d.ch,.int .i64 d.lits,.int .i64 d.seen,.slice d.al d.lr.length d.cl,.int .i64 d.held,.int .i64 d.log,.int .i64 d.unsat,.string d.pf,.int .i64 d.st]
structure JI(w:World)(B:Nat)(d:SE):Prop where
 blk:AY w d.cb 44 d.cells
 hv:w.ownsRow B 3 1 (.slice d.ah d.hv.length d.ch) d.hv.length (AO (A8 d.hv))
 lr:w.ownsRow B 3 1 (.slice d.al d.lr.length d.cl) d.lr.length (AO (A8 d.lr))
 top:(∀ c∈d.hv,c<1048576)∧∀ c∈d.lr,c<1048576
 len:d.hv.length≤10000000∧d.lr.length≤10000000
theorem JI.below{w w':World}{B:Nat}{d:SE}(h:JI w B d)(hb:Below w.heap.size w w'):JI w' B d:=⟨AF h.blk hb,AK h.hv hb,AK h.lr hb,h.top,h.len⟩
def CA(hv lr:List Nat)(xs:List Int)(tail:Bool):Bool :=
 xs.all AT && (AG (AJ xs) == xs.length) && Cj hv (An (AJ xs)) && Ab (hv++lr) (AW (AJ xs)) && (tail || (!BN (AJ xs) && !decide (AJ xs∈hv++lr)))
theorem Yp(a b:List Nat):A8 a++A8 b=A8 (a++b):=by simp[A8]
set_option maxHeartbeats 4000000 in
theorem J6(B:Nat)(d:SE)(a:Option Addr)(c:Nat)(xs:List Int)(tail:Bool)(w:World)(h:JI w B d)(hi:AS w a xs)(hx:xs.length≤1000000000) :
  Calls Tryz.prog 82 #[.pointer (some ⟨d.cb,0,none⟩),.slice a xs.length c,.bool tail] w fun e w'=>e=.returned (.bool (CA d.hv d.lr xs tail))∧Below w.heap.size w w':=by
 have hsl:=DX xs
 have HS:=AB (FH a c xs w (by omega) hi)
 have HZ:=AB (Fu (AJ xs) hsl w)
 have hzl:=Cw (AJ xs)
 have HRES:Hid (CA d.hv d.lr xs tail=(xs.all AT && (AG (AJ xs) == xs.length) && Cj d.hv (An (AJ xs)) && Ab (d.hv++d.lr) (AW (AJ xs)) && (tail || (!BN (AJ xs) && !decide (AJ xs∈d.hv++d.lr))))):=rfl
 have HV:=AB (LQ (AJ xs) hsl w)
 have c6:w.cell? ⟨d.cb,6,none⟩=some (.slice d.ah d.hv.length d.ch):=(h.blk.cell 6).trans rfl
 have c9:w.cell? ⟨d.cb,9,none⟩=some (.slice d.al d.lr.length d.cl):=(h.blk.cell 9).trans rfl
 have HJ:=AB (Te d.ah d.ch d.hv (An (AJ xs)) w (Fk h.hv) (by have:=h.len;omega) (Ec _) h.top.1)
 have hdw:Below w.heap.size w w.drew:=below_drewN (Below.refl _ _) 1
 have hd:=h.below hdw
 have hsp:=Rz B B d.ah d.al d.ch d.cl (A8 d.hv) (A8 d.lr) w.drew (by rw[Ea];exact hd.hv) (by rw[Ea];exact hd.lr) (by rw[Ea,Ea];have:=h.len;omega)
 rw[Ea,Ea,Yp] at hsp
 have HDW:=AB hdw
 have HSP:=AB hsp
 have htop:∀ x∈d.hv++d.lr,x<1048576:=fun x hx=>(List.mem_append.1 hx).elim (h.top.1 x) (h.top.2 x)
 have hll:(d.hv++d.lr).length≤20000000:=by rw[List.length_append];have:=h.len;omega
 have HFO:Hid (∀ (a:Option Addr) (c:Nat) (w:World),AS w a (A8 (d.hv++d.lr))→Calls Tryz.prog 110 #[.slice a (d.hv++d.lr).length c,.int .i64 (AJ xs:Nat)] w fun e w'=>e=.returned (.bool (Ab (d.hv++d.lr) (AW (AJ xs))))∧Below w.heap.size w w'):=fun a c w hi=>Kg a c _ _ w hi (by omega) hsl htop
 have HTW:Hid (∀ w,Calls Tryz.prog 64 #[.int .i64 (AJ xs:Nat)] w fun e w'=>e=.returned (.bool (BN (AJ xs)))∧w'=w):=fun w=>Ng _ hsl w
 have HIN:Hid (∀ (a:Option Addr) (c:Nat) (w:World),AS w a (A8 (d.hv++d.lr))→Calls Tryz.prog 105 #[.slice a (d.hv++d.lr).length c,.int .i64 (AJ xs:Nat)] w fun e w'=>(∃ r,e=.returned (.int .i64 r)∧eE (d.hv++d.lr) (AJ xs) r)∧w'=w):=fun a c w hi=>Ta a c _ _ w hi (by omega)
 clear h hi hsp htop hd hdw
 generalize CA d.hv d.lr xs tail=RES at *
 generalize Cj d.hv (An (AJ xs))=JD at *
 generalize Ab (d.hv++d.lr) (AW (AJ xs))=CD at *
 generalize BN (AJ xs)=TW at *
 generalize An (AJ xs)=vs at *
 generalize AG (AJ xs)=zs at *
 generalize AJ xs=sx at *
 generalize hss:d.hv++d.lr=ss at *
 generalize xs.all AT=al at *
 cases al with
 | false =>
  have HRN:Hid (RES=false):=by show _=_;rw[HRES.out];rfl
  go_enter Tryz.func82,Tryz.ntmps82
  go_wp2_with (first
   | (go_at_call 43;refine(AE HS).mono ?_;rintro e w' ⟨rfl,hw⟩;obtain rfl:=hw.symm)
   | (go_at_call 34;refine(AE HZ).mono ?_;rintro e w' ⟨rfl,hw⟩;obtain rfl:=hw.symm))
  go_ret
  exact⟨Am HRN.out.symm,Below.refl _ _⟩
 | true =>
  by_cases hz:zs=xs.length
  ·have hzb:((zs:Int) != (xs.length:Int))=false:=by rw[bne_eq_false_iff_eq];omega
   have hzb':(zs == xs.length)=true:=by simpa using hz
   rw[hzb'] at HRES
   clear hz hzb'
   go_enter Tryz.func82,Tryz.ntmps82
   go_wp2_with (first
    | (go_at_call 43;refine(AE HS).mono ?_;rintro e w' ⟨rfl,hw⟩;obtain rfl:=hw.symm)
    | (go_at_call 34;refine(AE HZ).mono ?_;rintro e w' ⟨rfl,hw⟩;obtain rfl:=hw.symm)
    | (go_at_call 35;refine(AE HV).mono ?_;rintro e w' ⟨rfl,hw⟩;obtain rfl:=hw.symm)
    | (go_at_call 108;refine(AE HJ).mono ?_;rintro e w' ⟨rfl,hw⟩;obtain rfl:=hw.symm))
   go_region_with (go_at_call 109;refine(AE HSP).mono ?_;rintro e w2 ⟨⟨a2,c2,rfl,hi2⟩,hb2⟩;rw[Ea])
   all_goals
    have HI2:=AB hi2
    have HB2:Hid (Below w.heap.size w w2):=HDW.out.trans (hb2.mono HDW.out.size)
    clear hi2 hb2 HSP
    go_wp2_with fail
    refine(AE HFO _ _ _ HI2.out).mono ?_
    rintro e w3 ⟨rfl,hb3⟩
    have HI3:=AB (HI2.out.below hb3)
    have HB3:Hid (Below w.heap.size w w3):=HB2.out.trans (hb3.mono HB2.out.size)
    clear hb3 HI2 HB2 HFO
    cases JD with
    | false =>
     have HRN:Hid (RES=false):=by show _=_;rw[HRES.out];rfl
     go_wp2
     go_ret
     exact⟨Am HRN.out.symm,HB3.out⟩
    | true =>
     cases CD with
     | false =>
      have HRN:Hid (RES=false):=by show _=_;rw[HRES.out];rfl
      go_wp2
      go_ret
      exact⟨Am HRN.out.symm,HB3.out⟩
     | true =>
      cases tail with
      | true =>
       have HRN:Hid (RES=true):=by show _=_;rw[HRES.out];rfl
       go_wp2
       go_ret
       exact⟨Am HRN.out.symm,HB3.out⟩
      | false =>
       have HRN:Hid (RES=(!TW && !decide (sx∈ss))):=by show _=_;rw[HRES.out];simp
       have HI4:=AB (HIN.out a2 c2 w3 HI3.out)
       clear HRES HIN
       cases TW with
       | true =>
        go_wp2_with (first
         | (go_at_call 64;refine(AE HTW _).mono ?_;rintro e w' ⟨rfl,hw⟩;obtain rfl:=hw.symm)
         | (go_at_call 105;refine(AE HI4).mono ?_;rintro e w' ⟨⟨rr,rfl,hrr⟩,hw⟩;obtain rfl:=hw.symm))
        go_ret
        exact⟨Am (by rw[HRN.out];rfl),HB3.out⟩
       | false =>
        go_wp2_with (first
         | (go_at_call 64;refine(AE HTW _).mono ?_;rintro e w' ⟨rfl,hw⟩;obtain rfl:=hw.symm)
         | (go_at_call 105;refine(AE HI4).mono ?_;rintro e w' ⟨⟨rr,rfl,hrr⟩,hw⟩;obtain rfl:=hw.symm))
        have HRR:RES=decide (rr<0):=by
         rw[HRN.out]
         rcases hrr with⟨rfl,hn⟩ | ⟨kk,hk1,rfl,hk2,_⟩
         ·simp[hn]
         ·have hm:sx∈ss:=by rw[← hk2];exact Fh ss kk hk1
          simp[hm]
        go_ret
        exact⟨Am HRR.symm,HB3.out⟩
  ·have hzb:((zs:Int) != (xs.length:Int))=true:=by rw[bne_iff_ne];omega
   have hzb':(zs == xs.length)=false:=by simpa using hz
   have HRN:Hid (RES=false):=by show _=_;rw[HRES.out,hzb'];rfl
   clear hz hzb' HRES
   go_enter Tryz.func82,Tryz.ntmps82
   go_wp2_with (first
    | (go_at_call 43;refine(AE HS).mono ?_;rintro e w' ⟨rfl,hw⟩;obtain rfl:=hw.symm)
    | (go_at_call 34;refine(AE HZ).mono ?_;rintro e w' ⟨rfl,hw⟩;obtain rfl:=hw.symm))
   go_ret
   exact⟨Am HRN.out.symm,Below.refl _ _⟩
end Go.Proofs.YthboeppmlhbofaaGreatDoor
