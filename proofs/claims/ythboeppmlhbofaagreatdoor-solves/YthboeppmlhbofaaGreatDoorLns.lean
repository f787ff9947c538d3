import Derived.Test.YthboeppmlhbofaaGreatDoorPse
import Derived.Test.YthboeppmlhbofaaGreatDoorKep
namespace Go.Proofs.YthboeppmlhbofaaGreatDoor
open Go.RowKit Txt
set_option maxRecDepth 100000
def PV(l:List UInt8)(p:Nat):Bool:=decide (p+2≤l.length) && ((l.getD (p+1) 0).toNat == 32) && ((l.getD p 0).toNat == 97 || (l.getD p 0).toNat == 100 || (l.getD p 0).toNat == 101)
theorem E8(a b:Nat):((a:Int) == (b:Int))=(a == b):=by
 rw[Bool.eq_iff_iff]
 simp only[beq_iff_eq]
 omega
set_option maxHeartbeats 2000000 in
theorem Mx(s:ByteArray)(p:Nat)(w:World)(hs:s.size≤4194304)(hp:p≤s.size) :
  Calls Tryz.prog 135 #[.string s,.int .i64 p] w fun e w'=>e=.returned (.bool (PV (bs s) p))∧w'=w:=by
 by_cases h2:p+2≤s.size
 ·have hp1:p+1<s.size:=by omega
  have hp0:p<s.size:=by omega
  have g1:=DO s (p+1) hp1
  have g0:=DO s p hp0
  have H:Hid (PV (bs s) p=((((s[p+1].toNat:Nat):Int) == 32) && ((((s[p].toNat:Nat):Int) == 97) || (((s[p].toNat:Nat):Int) == 100) || (((s[p].toNat:Nat):Int) == 101)))):=by
   show _=_
   unfold PV
   rw[g1,g0,Aa,decide_eq_true h2,Bool.true_and]
   rw[← E8,← E8,← E8,← E8]
   rfl
  clear g0 g1
  generalize PV (bs s) p=R at *
  have i1:¬ ((s.size:Int) - (p:Int)<2):=by omega
  cases k1:(((s[p+1].toNat:Nat):Int) == 32) with
  | false =>
   have hr:R=false:=by rw[H.out,k1];rfl
   subst hr
   have k1':(((s[p+1].toNat:Nat):Int) != 32)=true:=by simp[bne,k1]
   clear H
   go_enter Tryz.func135,Tryz.ntmps135
   go_wp2
   go_ret
   exact⟨rfl,rfl⟩
  | true =>
   have k1':(((s[p+1].toNat:Nat):Int) != 32)=false:=by simp[bne,k1]
   cases k2:(((s[p].toNat:Nat):Int) == 97) with
   | true =>
    have hr:R=true:=by rw[H.out,k1,k2];rfl
    subst hr
    clear H
    go_enter Tryz.func135,Tryz.ntmps135
    go_wp2
    go_ret
    exact⟨rfl,rfl⟩
   | false =>
    cases k3:(((s[p].toNat:Nat):Int) == 100) with
    | true =>
     have hr:R=true:=by rw[H.out,k1,k2,k3];rfl
     subst hr
     clear H
     go_enter Tryz.func135,Tryz.ntmps135
     go_wp2
     go_ret
     exact⟨rfl,rfl⟩
    | false =>
     have hr:R=(((s[p].toNat:Nat):Int) == 101):=by rw[H.out,k1,k2,k3];rfl
     have HRR:=AB hr
     clear H hr
     go_enter Tryz.func135,Tryz.ntmps135
     go_wp2
     go_ret
     exact⟨by rw[HRR.out];rfl,rfl⟩
 ·have hr:PV (bs s) p=false:=by
   unfold PV
   rw[Aa,decide_eq_false h2]
   rfl
  rw[hr]
  have i1:((s.size:Int) - (p:Int)<2):=by omega
  clear hr
  go_enter Tryz.func135,Tryz.ntmps135
  go_wp2
  go_ret
  exact⟨rfl,rfl⟩
def Ol(l:List UInt8):Nat→Nat→List Int→Option (List Int × Nat)
 | 0,_,_=>none
 | m+1,p,acc =>
  let q:=p+CN (l.drop p)
  if q<l.length then
   let n:=BU ((l.drop p).take (q - p))
   if n.2≠0 then none else
    if n.1=0∧(l.getD q 0).toNat=10 then some (acc,q+1) else
     if n.1=0∨(l.getD q 0).toNat≠32 then none else Ol l m (q+1) (acc++[n.1])
  else none
def Bw(l:List UInt8)(p:Nat):Option (Nat × List Int × Nat) :=
 if PV l p then (Ol l (l.length+1) (p+2) []).map fun r=>((l.getD p 0).toNat,r.1,r.2) else none
theorem LA{fn:Func}{p u v:Tmp}{ty:TypeId}(h:fn.results=#[.cell p ty,.tmp u,.tmp v])(tmps:Array Value)(P:Program)(w:World) :
  (results fn tmps).run P w =
   ((asAddr (tmps.getD p undef)).run P w).andThen fun a w₁=>((loadVar ty a).run P w₁).andThen fun x w₂=>.ok (.tuple #[x,tmps.getD u undef,tmps.getD v undef]) w₂:=by
 simp only[results,h]
 simp[Sem.run_bind,Result.andThen]
theorem YW:∃ fs,Tryz.prog.underlying 121=some (.struct fs):=by
 have h:(Tryz.prog.underlying 121).map EY=some true:=by kernel_rfl
 cases hu:Tryz.prog.underlying 121 with
 | none=>rw[hu] at h;simp at h
 | some d =>
  rw[hu] at h
  cases d with
  | struct fs=>exact⟨fs,rfl⟩
  | _=>simp[EY] at h
theorem YV:(Tryz.prog.info? 121).map (·.size)=some 2:=by kernel_rfl
theorem Hu{w':World}{tmps:Array Value}{g:Nat}{p q u v:Value}(hr:AY w' g 121 [p,q])(h2:tmps.getD 4 undef=.pointer (some ⟨g,0,none⟩))(h3:tmps.getD 5 undef=u)(h4:tmps.getD 6 undef=v) :
  (results Tryz.f116 tmps).run Tryz.prog w'=.ok (.tuple #[.agg #[p,q],u,v]) w':=by
 obtain⟨fs,hu⟩:=YW
 rw[LA rfl,h2,h3,h4]
 simp[asAddr,Result.andThen,run_loadVar_row (P:=Tryz.prog) w' g 121 121 #[p,q] (0,0) (.struct fs) hr hu rfl YV]
theorem UX:(3:Nat)≠121:=by decide
def cL(w:World)(r:Option (Nat × List Int × Nat))(e:Ending)(w':World):Prop:=Below w.heap.size w w'∧match r with
 | none=>e=.returned (.tuple #[.agg #[.int .u8 0,.slice none 0 0],.int .i64 0,.bool false])
 | some (lt,xs,q)=>∃ a c,e=.returned (.tuple #[.agg #[.int .u8 lt,.slice a xs.length c],.int .i64 q,.bool true])∧w'.ownsRow w.heap.size 3 1 (.slice a xs.length c) xs.length (AO xs)
set_option maxHeartbeats 8000000 in
theorem Pp(s:ByteArray)(p:Nat)(w:World)(hs:s.size≤4194304)(hp:p≤s.size) :
  Calls Tryz.prog 116 #[.string s,.int .i64 p] w (cL w (Bw (bs s) p)):=by
 have HLB:=AB (Mx s p (w.alloc (.cells #[.int .u8 0,.slice none 0 0] 121)) hs hp)
 have hb1:Below w.heap.size w (w.alloc (.cells #[.int .u8 0,.slice none 0 0] 121)):=(Below.refl _ _).alloc (Nat.le_refl _) _
 have r1:AY (w.alloc (.cells #[.int .u8 0,.slice none 0 0] 121)) w.heap.size 121 [.int .u8 0,.slice none 0 0]:=heap_alloc_new w _
 cases hlb:PV (bs s) p with
 | false =>
  rw[hlb] at HLB
  have HR:Hid (Bw (bs s) p=none):=by show _=_;simp[Bw,hlb]
  generalize Bw (bs s) p=R at *
  have HB1:=AB hb1
  have R1:=AB r1
  clear hb1 r1 hlb
  go_enter Tryz.func116,Tryz.ntmps116
  go_wp2_with fail
  refine(AE HLB).mono ?_
  generalize w.alloc (.cells #[.int .u8 0,.slice none 0 0] 121)=w1 at *
  rintro e w' ⟨rfl,hw⟩
  obtain rfl:=hw.symm
  have y0:w1.cell? ⟨w.heap.size,0,none⟩=some (.int .u8 0):=(R1.out.cell 0).trans rfl
  have y1:w1.cell? ⟨w.heap.size,1,none⟩=some (.slice none 0 0):=(R1.out.cell 1).trans rfl
  have z0:=R1.out.frozen 0
  have z1:=R1.out.frozen 1
  go_wp2
  have R9:Hid (AY ((w1.setCell ⟨w.heap.size,0,none⟩ (.int .u8 0)).setCell ⟨w.heap.size,1,none⟩ (.slice none 0 0)) w.heap.size 121 [.int .u8 0,.slice none 0 0]):=(R1.out.set 0 _).set 1 _
  refine bodyPost_ret (v:=.tuple #[.agg #[.int .u8 0,.slice none 0 0],.int .i64 0,.bool false]) (Hu R9.out rfl rfl rfl) rfl ⟨?_,?_⟩
  ·exact(HB1.out.setCell (p:=⟨w.heap.size,0,none⟩) (Nat.le_refl _) _).setCell (p:=⟨w.heap.size,1,none⟩) (Nat.le_refl _) _
  ·rw[HR.out]
 | true =>
  rw[hlb] at HLB
  have h2:p+2≤s.size:=by
   simp only[PV,Bool.and_eq_true,decide_eq_true_eq,Aa] at hlb
   exact hlb.1.1
  have hp0:p<s.size:=by omega
  have HR:Hid (Bw (bs s) p=(Ol (bs s) (s.size+1) (p+2) []).map fun r=>(s[p].toNat,r.1,r.2)):=by
   show _=_
   simp only[Bw,hlb,if_true]
   rw[Aa,DO s p hp0]
  generalize Bw (bs s) p=R at *
  obtain⟨i0,hi0,hz0,hz1,hz2⟩:=info_parts Tryz.infoInt
  have HB1:=AB hb1
  have R1:=AB r1
  have HWE:Hid (∀ q w,q≤s.size→Calls Tryz.prog 112 #[.string s,.int .i64 q] w fun e w'=>e=.returned (.int .i64 (q+CN ((bs s).drop q):Nat))∧w'=w):=fun q w hq=>MC s q w hs hq
  have HWP:=AB (HWE.out (p+2))
  rw[show((p+2:Nat):Int)=(p:Int)+2 by omega] at HWP
  clear hb1 r1 hlb
  go_enter Tryz.func116,Tryz.ntmps116
  go_wp2_with fail
  refine(AE HLB).mono ?_
  generalize w.alloc (.cells #[.int .u8 0,.slice none 0 0] 121)=w1 at *
  rintro e w' ⟨rfl,hw⟩
  obtain rfl:=hw.symm
  have hlt1:w.heap.size<w1.heap.size:=R1.out.lt
  have HB2:Hid (Below w.heap.size w (w1.alloc (.cells #[.int .u8 (s[p].toNat:Nat),.slice none 0 0] 121))):=HB1.out.alloc (by omega) _
  have RA2:Hid (AY (w1.alloc (.cells #[.int .u8 (s[p].toNat:Nat),.slice none 0 0] 121)) w.heap.size 121 [.int .u8 0,.slice none 0 0]):=AF R1.out ((Below.refl _ _).alloc (Nat.le_refl _) _)
  have RL2:Hid (AY (w1.alloc (.cells #[.int .u8 (s[p].toNat:Nat),.slice none 0 0] 121)) w1.heap.size 121 [.int .u8 (s[p].toNat:Nat),.slice none 0 0]):=heap_alloc_new w1 _
  generalize hlet:s[p].toNat=lt at *
  go_wp2_with (go_at_call 112;refine(AE HWP _ h2).mono ?_;rintro e w' ⟨rfl,hw⟩;obtain rfl:=hw.symm)
  have HRD:Hid (Ol (bs s) (s.size+1) (p+2) []=Ol (bs s) (s.size+1) (p+2) []):=rfl
  generalize hrd:Ol (bs s) (s.size+1) (p+2) []=RD at HR HRD
  have HRD:=AB hrd
  clear hrd HWP HLB R1 HB1
  have hwl1:=LS ((bs s).drop (p+2))
  rw[List.length_drop,Aa] at hwl1
  go_loopw [1,8] (fun x1 x8 wr=>∃ (q ez m:Nat) (acc:List Int) (a:Option Addr) (c:Nat),q≤s.size∧ez=q+CN ((bs s).drop q)∧ez≤s.size∧x1=.int .i64 q∧x8=.int .i64 ez∧acc.length≤q∧s.size+2≤q+m∧Hid (AY wr w.heap.size 121 [.int .u8 0,.slice none 0 0])∧Hid (AY wr w1.heap.size 121 [.int .u8 (lt:Nat),.slice a acc.length c])∧Hid (wr.ownsRow w.heap.size 3 1 (.slice a acc.length c) acc.length (AO acc))∧Hid (Below w.heap.size w wr)∧Hid (Ol (bs s) m q acc=RD)) (fun x1 _ _=>s.size - (intOf x1).toNat)
  case atStart=>exact⟨p+2,p+2+CN ((bs s).drop (p+2)),s.size+1,[],none,0,h2,rfl,by omega,by simp,by simp,Nat.zero_le _,by omega,RA2,RL2,⟨rfl,.inl ⟨rfl,rfl⟩⟩,HB2,HRD⟩
  case round =>
   clear RA2 RL2 HB2 hwl1 HRD
   obtain⟨q,ez,m,acc,a,c,hq,hez,hezs,rfl,rfl,hacc,hm,RA,RL,HO,HBR,HF⟩:=hrel
   obtain⟨m,rfl⟩:∃ k,m=k+1:=⟨m - 1,by omega⟩
   have hqe:q≤ez:=by omega
   have hf:=HF.out
   simp only[Ol,← hez,Aa] at hf
   have HEZ:=AB hez
   clear hez
   have y0:wr.cell? ⟨w.heap.size,0,none⟩=some (.int .u8 0):=(RA.out.cell 0).trans rfl
   have y1:wr.cell? ⟨w.heap.size,1,none⟩=some (.slice none 0 0):=(RA.out.cell 1).trans rfl
   have z0:=RA.out.frozen 0
   have z1:=RA.out.frozen 1
   have l0:wr.cell? ⟨w1.heap.size,0,none⟩=some (.int .u8 (lt:Nat)):=(RL.out.cell 0).trans rfl
   have l1:wr.cell? ⟨w1.heap.size,1,none⟩=some (.slice a acc.length c):=(RL.out.cell 1).trans rfl
   have R9:Hid (AY ((wr.setCell ⟨w.heap.size,0,none⟩ (.int .u8 0)).setCell ⟨w.heap.size,1,none⟩ (.slice none 0 0)) w.heap.size 121 [.int .u8 0,.slice none 0 0]):=(RA.out.set 0 _).set 1 _
   have B9:Hid (Below w.heap.size w ((wr.setCell ⟨w.heap.size,0,none⟩ (.int .u8 0)).setCell ⟨w.heap.size,1,none⟩ (.slice none 0 0))):=(HBR.out.setCell (p:=⟨w.heap.size,0,none⟩) (Nat.le_refl _) _).setCell (p:=⟨w.heap.size,1,none⟩) (Nat.le_refl _) _
   by_cases hlt:ez<s.size
   ·rw[if_pos hlt] at hf
    have HNU:=AB (NF (s.extract q ez) wr (by rw[ByteArray.size_extract];omega))
    rw[Ei] at HNU
    have hge:=DO s ez hlt
    rw[hge] at hf
    generalize BU (((bs s).drop q).take (ez - q))=N at *
    obtain⟨n,er⟩:=N
    simp only at hf HNU
    have i1:(0:Int)≤(q:Int):=by omega
    have i2:(q:Int)≤(ez:Int):=by omega
    have i3:(ez:Int)≤(s.size:Int):=by omega
    by_cases her:er=0
    ·subst her
     rw[if_neg (by simp:¬ ((0:Int)≠0))] at hf
     have j1:(0:Int)≤(ez:Int):=by omega
     have j2:(ez:Int)<(s.size:Int):=by omega
     have hcast:∀ b:Nat,(((s[ez].toNat:Nat):Int) == (b:Int))=(s[ez].toNat == b):=fun b=>E8 _ _
     have t10:=hcast 10
     have t32:=hcast 32
     clear hcast hge
     by_cases hn:n=0
     ·subst hn
      by_cases h10:s[ez].toNat=10
      ·rw[if_pos ⟨rfl,h10⟩] at hf
       have hres:R=some (lt,acc,ez+1):=by rw[HR.out,← hf];rfl
       have HRN:=AB hres
       have t10':(((s[ez].toNat:Nat):Int) == 10)=true:=by rw[show((10:Int))=((10:Nat):Int) from rfl,t10];simpa using h10
       have RZ:Hid (AY ((wr.setCell ⟨w.heap.size,0,none⟩ (.int .u8 (lt:Nat))).setCell ⟨w.heap.size,1,none⟩ (.slice a acc.length c)) w.heap.size 121 [.int .u8 (lt:Nat),.slice a acc.length c]):=(RA.out.set 0 _).set 1 _
       have BZ:Hid (Below w.heap.size w ((wr.setCell ⟨w.heap.size,0,none⟩ (.int .u8 (lt:Nat))).setCell ⟨w.heap.size,1,none⟩ (.slice a acc.length c))):=(HBR.out.setCell (p:=⟨w.heap.size,0,none⟩) (Nat.le_refl _) _).setCell (p:=⟨w.heap.size,1,none⟩) (Nat.le_refl _) _
       have OZ:Hid (((wr.setCell ⟨w.heap.size,0,none⟩ (.int .u8 (lt:Nat))).setCell ⟨w.heap.size,1,none⟩ (.slice a acc.length c)).ownsRow w.heap.size 3 1 (.slice a acc.length c) acc.length (AO acc)):=Ae (RA.out.set 0 _) 1 _ UX (Ae RA.out 0 _ UX HO.out)
       clear hf hres t10 t32 h10
       go_wp2_with (go_at_call 113;refine(AE HNU).mono ?_;rintro e w' ⟨rfl,hw⟩;obtain rfl:=hw.symm)
       refine bodyPost_ret (v:=.tuple #[.agg #[.int .u8 (lt:Nat),.slice a acc.length c],.int .i64 ((ez:Int)+1),.bool true]) (Hu RZ.out rfl rfl rfl) rfl ⟨BZ.out,?_⟩
       rw[HRN.out]
       exact⟨a,c,rfl,OZ.out⟩
      ·rw[if_neg (fun h=>h10 h.2),if_pos (.inl rfl)] at hf
       have hres:R=none:=by rw[HR.out,← hf];rfl
       have HRN:=AB hres
       have t10':(((s[ez].toNat:Nat):Int) == 10)=false:=by rw[show((10:Int))=((10:Nat):Int) from rfl,t10];simpa using h10
       clear hf hres t10 t32 h10
       go_wp2_with (go_at_call 113;refine(AE HNU).mono ?_;rintro e w' ⟨rfl,hw⟩;obtain rfl:=hw.symm)
       refine bodyPost_ret (v:=.tuple #[.agg #[.int .u8 0,.slice none 0 0],.int .i64 0,.bool false]) (Hu R9.out rfl rfl rfl) rfl ⟨B9.out,?_⟩
       rw[HRN.out]
     ·have hnb:(n == 0)=false:=beq_eq_false_iff_ne.2 hn
      by_cases h32:s[ez].toNat=32
      ·rw[if_neg (fun h=>hn h.1),if_neg (fun h=>h.elim hn (fun h=>h h32))] at hf
       have HF2:=AB hf
       have t32':(((s[ez].toNat:Nat):Int) != 32)=false:=by rw[bne,show((32:Int))=((32:Nat):Int) from rfl,t32];simp[h32]
       have d1:Hid (acc.length+1≤maxLen):=by show _≤_;unfold maxLen;omega
       have d2:Hid ((acc.length+1)*8≤140737488355328):=by show _≤_;omega
       have hzr:w.heap.size≤wr.heap.size:=HBR.out.size
       have HWP:=AB (HWE.out (ez+1))
       rw[show((ez+1:Nat):Int)=(ez:Int)+1 by omega] at HWP
       have hwl:=LS ((bs s).drop (ez+1))
       rw[List.length_drop,Aa] at hwl
       have hL:w1.heap.size<wr.heap.size:=RL.out.lt
       clear hf t10 t32 h32 y0 y1 z0 z1
       go_wp2_with (first
        | (go_at_call 113;refine(AE HNU).mono ?_;rintro e w' ⟨rfl,hw⟩;obtain rfl:=hw.symm)
        | (at_builtin;refine Ap _ rfl (.tmp 61) (.tmp 63) 24 rfl w.heap.size 3 i0 (.int .i64 0) 8 Tryz.undInts hi0 hz0 hz1 hz2 rfl (.slice a acc.length c) acc.length (AO acc) rfl (HO.out.alloc _) ⟨wr.heap.size,0,none⟩ 1 1 [.int .i64 n] rfl rfl (AH wr [.int .i64 n] 3) (by intro u hu;simp at hu;subst hu;rfl) (by decide) d1.out d2.out (by simp;omega) (wr.heap.size+1) (by simp) ?_;intro a3 c3 w3 hown3 hg3 hl3;
              have HG3:=AB hg3;clear hl3;
              have RL3:Hid (AY w3 w1.heap.size 121 [.int .u8 (lt:Nat),.slice a acc.length c]):=BG (AF RL.out ((Below.refl _ _).alloc (Nat.le_refl _) _)) (HO.out.alloc _) UX hg3;
              have RA3:Hid (AY w3 w.heap.size 121 [.int .u8 0,.slice none 0 0]):=BG (AF RA.out ((Below.refl _ _).alloc (Nat.le_refl _) _)) (HO.out.alloc _) UX hg3;
              have O3:Hid (w3.ownsRow w.heap.size 3 1 (.slice a3 (acc.length+1) c3) (acc.length+1) (AO (acc++[n]))):=(show AO acc++[Value.int .i64 n]=AO (acc++[n]) by simp[AO]) ▸ hown3;
              have g2:w3.cell? ⟨w1.heap.size,1,none⟩=some (.slice a acc.length c):=(RL3.out.cell 1).trans rfl;
              have g2':=RL3.out.frozen 1;
              have B3:Hid (Below w.heap.size w w3):=(HBR.out.alloc hzr _).grown hg3 (by simp;omega) (fun j hj=>(HO.out.lt j hj).1);
              clear hown3 hg3)
        | (go_at_call 112;refine(AE HWP _ (by omega)).mono ?_;rintro e w' ⟨rfl,hw⟩;obtain rfl:=hw.symm))
       go_roundw
       case rel =>
        refine⟨ez+1,ez+1+CN ((bs s).drop (ez+1)),m,acc++[n],a3,c3,by omega,rfl,by omega,by simp,by simp,by rw[Ar];omega,by omega,?_,?_,?_,B3.out.setCell (p:=⟨w1.heap.size,1,none⟩) (by show w.heap.size≤w1.heap.size;omega) _,HF2⟩
        ·exact(Below.heap_setCell w3 ⟨w1.heap.size,1,none⟩ _ w.heap.size (by show w.heap.size≠w1.heap.size;omega)).trans RA3.out
        ·rw[Ar];exact RL3.out.set 1 _
        ·rw[Ar];exact Ae RL3.out 1 _ UX O3.out
       case measure=>simp[intOf];omega
      ·rw[if_neg (fun h=>hn h.1),if_pos (.inr h32)] at hf
       have hres:R=none:=by rw[HR.out,← hf];rfl
       have HRN:=AB hres
       have t32':(((s[ez].toNat:Nat):Int) != 32)=true:=by rw[bne,show((32:Int))=((32:Nat):Int) from rfl,t32];simp[h32]
       clear hf hres t10 t32 h32
       go_wp2_with (go_at_call 113;refine(AE HNU).mono ?_;rintro e w' ⟨rfl,hw⟩;obtain rfl:=hw.symm)
       refine bodyPost_ret (v:=.tuple #[.agg #[.int .u8 0,.slice none 0 0],.int .i64 0,.bool false]) (Hu R9.out rfl rfl rfl) rfl ⟨B9.out,?_⟩
       rw[HRN.out]
    ·have hres:R=none:=by
      rw[if_pos her] at hf
      rw[HR.out,← hf];rfl
     have HRN:=AB hres
     have heri:(er != 0)=true:=by simp;exact her
     clear hf her hres
     go_wp2_with (go_at_call 113;refine(AE HNU).mono ?_;rintro e w' ⟨rfl,hw⟩;obtain rfl:=hw.symm)
     refine bodyPost_ret (v:=.tuple #[.agg #[.int .u8 0,.slice none 0 0],.int .i64 0,.bool false]) (Hu R9.out rfl rfl rfl) rfl ⟨B9.out,?_⟩
     rw[HRN.out]
   ·have hres:R=none:=by
     rw[if_neg hlt] at hf
     rw[HR.out,← hf];rfl
    have HRN:=AB hres
    clear hf hres
    go_wp2
    refine bodyPost_ret (v:=.tuple #[.agg #[.int .u8 0,.slice none 0 0],.int .i64 0,.bool false]) (Hu R9.out rfl rfl rfl) rfl ⟨B9.out,?_⟩
    rw[HRN.out]
theorem DA(xs:List Int)(h:xs.all AT=true):Al xs<2^11:=(CT.set xs h).lt
theorem Cy(xs:List Int)(h:xs.all AT=true):Ak xs<2^11:=(CT.set xs h).lf
def OQ(k:Tk):Int:=match k with
 | .lit=>4
 | .taut=>0
 | .full=>5
 | .takes=>0
set_option maxHeartbeats 2000000 in
theorem Uo(g:Nat)(a:Option Addr)(c:Nat)(xs:List Int)(w:World)(hx:xs.length≤9223372036854775807)(hi:AS w a xs)(hall:xs.all AT=false) :
  Calls Tryz.prog 30 #[.pointer (some ⟨g,0,none⟩),.slice a xs.length c] w fun e w'=>e=.returned (.int .i64 4)∧Below w.heap.size w w':=by
 have HO:=AB (Fa a c xs w hx hi)
 have e1:Cm xs=0:=by simp[Cm,hall]
 have e2:Ck xs=0:=by simp[Ck,hall]
 rw[hall,e1,e2] at HO
 clear hi hall e1 e2
 go_enter Tryz.func30,Tryz.ntmps30
 go_wp2_with fail
 refine(AE HO).mono ?_
 rintro e w2 ⟨rfl,hb2⟩
 have HB:Hid (∀ x,Below w.heap.size w (w2.alloc x)):=fun x=>hb2.alloc hb2.size x
 clear hb2
 go_wp2
 go_ret
 exact⟨rfl,HB.out _⟩
set_option maxHeartbeats 2000000 in
theorem QM(g:Nat)(a:Option Addr)(c:Nat)(xs:List Int)(w:World)(hx:xs.length≤9223372036854775807)(hi:AS w a xs)(hall:xs.all AT=true)(ht:(Al xs&&&Ak xs != 0)=true) :
  Calls Tryz.prog 30 #[.pointer (some ⟨g,0,none⟩),.slice a xs.length c] w fun e w'=>e=.returned (.int .i64 0)∧Below w.heap.size w w':=by
 have HO:=AB (Fa a c xs w hx hi)
 have e1:Cm xs=Al xs:=by simp[Cm,hall]
 have e2:Ck xs=Ak xs:=by simp[Ck,hall]
 have HT:Hid (∀ w,Calls Tryz.prog 60 #[.agg #[.int .i64 (Al xs:Nat),.int .i64 (Ak xs:Nat)]] w fun e w'=>e=.returned (.bool true)∧Below w.heap.size w w'):=fun w=>by
  have:=EA (Al xs) (Ak xs) (DA xs hall) (Cy xs hall) w
  rwa [ht] at this
 rw[hall,e1,e2] at HO
 generalize Al xs=t at *
 generalize Ak xs=f at *
 clear hi hall e1 e2 ht
 go_enter Tryz.func30,Tryz.ntmps30
 go_wp2_with fail
 refine(AE HO).mono ?_
 rintro e w2 ⟨rfl,hb2⟩
 have HB:Hid (∀ x,Below w.heap.size w (w2.alloc x)):=fun x=>hb2.alloc hb2.size x
 have hs2:w.heap.size≤w2.heap.size:=hb2.size
 clear hb2
 go_wp2_with fail
 refine(AE HT _).mono ?_
 rintro e w3 ⟨rfl,hb3⟩
 have HB3:Hid (Below w.heap.size w w3):=(HB.out _).trans (hb3.mono (by simp;omega))
 clear hb3
 go_wp2
 go_ret
 exact⟨rfl,HB3.out⟩
theorem ZA(xs:List Int):Cm xs<2^11:=by
 unfold Cm
 split
 ·rename_i h;exact DA xs h
 ·decide
theorem Yt(xs:List Int):Ck xs<2^11:=by
 unfold Ck
 split
 ·rename_i h;exact Cy xs h
 ·decide
def F9(ns:List Nd)(lt:Nat)(xs:List Int):Int × List Nd :=
 if lt=100 then (match Ds ns (Cm xs) (Ck xs) with | none=>(8,ns) | some ns'=>(0,ns'))
 else if Gi ns (Cm xs) (Ck xs)=false then (7,ns) else if lt=97 then (0,EU ns (Cm xs) (Ck xs) 1) else (0,ns)
set_option maxHeartbeats 4000000 in
theorem XC(w:World)(B cb:Nat)(na:Option Addr)(nc:Nat)(ns:List Nd)(h:DP w B cb na nc ns)(hw:Wf ns)(M:Nat)(hcb:CB ns M)(lt:Nat)(a:Option Addr)(c:Nat)(xs:List Int)(hx:xs.length≤9223372036854775807)(hi:AS w a xs)(hB:B≤w.heap.size)(hl:ns.length≤90000000)(hM:M+1≤9223372036854775807) :
  Calls Tryz.prog 117 #[.pointer (some ⟨cb,0,none⟩),.agg #[.int .u8 lt,.slice a xs.length c]] w fun e w'=>e=.returned (.int .i64 (F9 ns lt xs).1)∧∃ na' nc',CS w w' B cb na nc ns.length na' nc' (F9 ns lt xs).2:=by
 have hb1:Below w.heap.size w (w.alloc (.cells #[.int .u8 lt,.slice a xs.length c] 121)):=(Below.refl _ _).alloc (Nat.le_refl _) _
 have r1:AY (w.alloc (.cells #[.int .u8 lt,.slice a xs.length c] 121)) w.heap.size 121 [.int .u8 lt,.slice a xs.length c]:=heap_alloc_new w _
 have HO:=AB (Fa a c xs (w.alloc (.cells #[.int .u8 lt,.slice a xs.length c] 121)) hx (hi.below hb1))
 have pl:=ZA xs
 have nl:=Yt xs
 have HI:=AB h
 have HW:=AB hw
 have HCB:=AB hcb
 have HB1:=AB hb1
 have R1:=AB r1
 have HSN:Hid (F9 ns lt xs=(if lt=100 then (match Ds ns (Cm xs) (Ck xs) with | none=>((8:Int),ns) | some ns'=>(0,ns')) else if Gi ns (Cm xs) (Ck xs)=false then (7,ns) else if lt=97 then (0,EU ns (Cm xs) (Ck xs) 1) else (0,ns))):=rfl
 generalize F9 ns lt xs=SN at *
 generalize Cm xs=t at *
 generalize Ck xs=f at *
 generalize xs.all AT=al at *
 clear h hw hcb hb1 r1 hi
 go_enter Tryz.func117,Tryz.ntmps117
 go_wp2_with fail
 refine(AE HO).mono ?_
 generalize w.alloc (.cells #[.int .u8 lt,.slice a xs.length c] 121)=w1 at *
 rintro e w2 ⟨rfl,hb2⟩
 have B2:Hid (Below w.heap.size w w2):=HB1.out.trans (hb2.mono HB1.out.size)
 have hz2:w.heap.size≤w2.heap.size:=B2.out.size
 have hb3:Below w2.heap.size w2 (w2.alloc (.cells #[.int .i64 t,.int .i64 f] 101)):=(Below.refl _ _).alloc (Nat.le_refl _) _
 have r3:AY (w2.alloc (.cells #[.int .i64 t,.int .i64 f] 101)) w2.heap.size 101 [.int .i64 t,.int .i64 f]:=heap_alloc_new w2 _
 have RL2:=AF R1.out hb2
 have q0:w2.cell? ⟨w.heap.size,0,none⟩=some (.int .u8 lt):=(RL2.cell 0).trans rfl
 have hlw:w.heap.size<w2.heap.size:=RL2.lt
 have B3:Hid (Below w.heap.size w (w2.alloc (.cells #[.int .i64 t,.int .i64 f] 101))):=B2.out.trans (hb3.mono hz2)
 have RL3:=AB (AF RL2 hb3)
 have R3:=AB r3
 have T3:=AB (HI.out.below B3.out)
 have HD:=AB (Qb _ B cb na nc ns T3.out HW.out M HCB.out t f pl nl (by omega))
 have HF:=AB (Qj ns HW.out T3.out.pos cb na nc t f pl nl _ T3.out.row (FZ T3.out.own T3.out.pos))
 clear hb2 hb3 r3 HO RL2
 have hcast:∀ b:Nat,(((lt:Nat):Int) == (b:Int))=(lt == b):=fun b=>E8 _ _
 by_cases h100:lt=100
 ·have k1:(((lt:Nat):Int) == 100)=true:=by rw[show((100:Int))=((100:Nat):Int) from rfl,hcast];simpa using h100
  have HSN2:=HSN.out
  rw[if_pos h100] at HSN2
  have HS2:=AB HSN2
  clear hcast HSN HSN2 h100 HF
  go_wp2_with fail
  refine(AE HD).mono ?_
  intro e w4 hp
  cases hdr:Ds ns t f with
  | none =>
   rw[hdr] at hp HS2
   obtain⟨rfl,hb4⟩:=hp
   have HN:Hid (CS w w4 B cb na nc ns.length na nc ns):=(CS.of HI.out B3.out).trans (CS.of T3.out hb4)
   clear hb4
   go_wp2
   go_ret
   rw[HS2.out]
   exact⟨rfl,na,nc,HN.out⟩
  | some ns' =>
   rw[hdr] at hp HS2
   obtain⟨rfl,na',nc',hn⟩:=hp
   have HN:Hid (CS w w4 B cb na nc ns.length na' nc' ns'):=(CS.of HI.out B3.out).trans hn
   clear hn
   go_wp2
   go_ret
   rw[HS2.out]
   exact⟨rfl,na',nc',HN.out⟩
 ·have k1:(((lt:Nat):Int) == 100)=false:=by rw[show((100:Int))=((100:Nat):Int) from rfl,hcast];simpa using h100
  have HSN2:=HSN.out
  rw[if_neg h100] at HSN2
  have HS2:=AB HSN2
  clear HSN HSN2 h100 HD
  have k97:(((lt:Nat):Int) == 97)=(lt == 97):=hcast 97
  clear hcast
  go_wp2_with fail
  refine(AE HF).mono ?_
  rintro e w4 ⟨rfl,hb4⟩
  have T4:=AB (T3.out.below hb4)
  have N4:Hid (CS w w4 B cb na nc ns.length na nc ns):=(CS.of HI.out B3.out).trans (CS.of T3.out hb4)
  have RL4:=AF RL3.out hb4
  have RS4:=AF R3.out hb4
  have l0:w4.cell? ⟨w.heap.size,0,none⟩=some (.int .u8 lt):=(RL4.cell 0).trans rfl
  have s0:w4.cell? ⟨w2.heap.size,0,none⟩=some (.int .i64 t):=(RS4.cell 0).trans rfl
  have s1:w4.cell? ⟨w2.heap.size,1,none⟩=some (.int .i64 f):=(RS4.cell 1).trans rfl
  have hz4:B≤w4.heap.size:=Nat.le_trans hB N4.out.kept.size
  have HA:=AB (Ho w4 B cb na nc ns T4.out HW.out M HCB.out t f 1 pl nl hz4 hl hM)
  clear hb4 RL4 RS4
  cases hfo:Gi ns t f with
  | false =>
   rw[hfo] at HS2
   go_wp2
   go_ret
   rw[HS2.out]
   exact⟨rfl,na,nc,N4.out⟩
  | true =>
   rw[hfo] at HS2
   by_cases h97:lt=97
   ·have k2:(((lt:Nat):Int) == 97)=true:=by rw[k97];simpa using h97
    have HS3:=HS2.out
    rw[if_neg (by simp),if_pos h97] at HS3
    have HS4:=AB HS3
    clear HS2 HS3 h97 k97
    go_wp2_with fail
    refine(AE HA).mono ?_
    rintro e w5 ⟨rfl,na',nc',hn⟩
    have HN:Hid (CS w w5 B cb na nc ns.length na' nc' (EU ns t f 1)):=N4.out.trans hn
    clear hn
    go_wp2
    go_ret
    rw[HS4.out]
    exact⟨rfl,na',nc',HN.out⟩
   ·have k2:(((lt:Nat):Int) == 97)=false:=by rw[k97];simpa using h97
    have HS3:=HS2.out
    rw[if_neg (by simp),if_neg h97] at HS3
    have HS4:=AB HS3
    clear HS2 HS3 h97 k97
    go_wp2
    go_ret
    rw[HS4.out]
    exact⟨rfl,na,nc,N4.out⟩
end Go.Proofs.YthboeppmlhbofaaGreatDoor
