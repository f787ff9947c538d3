import Derived.Test.YthboeppmlhbofabDoorPse
import Derived.Test.YthboeppmlhbofabDoorKep
namespace Go.Proofs.YthboeppmlhbofabDoor
open Go.RowKit Txt
set_option maxRecDepth 100000
def lbB(l:List UInt8)(p:Nat):Bool:=decide (p+2≤l.length) && ((l.getD (p+1) 0).toNat == 32) && ((l.getD p 0).toNat == 97 || (l.getD p 0).toNat == 100 || (l.getD p 0).toNat == 101)
theorem nat_beq(a b:Nat):((a:Int) == (b:Int))=(a == b):=by
 rw[Bool.eq_iff_iff]
 simp only[beq_iff_eq]
 omega
set_option maxHeartbeats 2000000 in
theorem lineBegins_any(s:ByteArray)(p:Nat)(w:World)(hs:s.size≤4194304)(hp:p≤s.size) :
  Calls Tryd.prog 74 #[.string s,.int .i64 p] w fun e w'=>e=.returned (.bool (lbB (bs s) p))∧w'=w:=by
 by_cases h2:p+2≤s.size
 ·have hp1:p+1<s.size:=by omega
  have hp0:p<s.size:=by omega
  have g1:=bs_getD s (p+1) hp1
  have g0:=bs_getD s p hp0
  have H:Hid (lbB (bs s) p=((((s[p+1].toNat:Nat):Int) == 32) && ((((s[p].toNat:Nat):Int) == 97) || (((s[p].toNat:Nat):Int) == 100) || (((s[p].toNat:Nat):Int) == 101)))):=by
   show _=_
   unfold lbB
   rw[g1,g0,bs_length,decide_eq_true h2,Bool.true_and]
   rw[← nat_beq,← nat_beq,← nat_beq,← nat_beq]
   rfl
  clear g0 g1
  generalize lbB (bs s) p=R at *
  have i1:¬ ((s.size:Int) - (p:Int)<2):=by omega
  cases k1:(((s[p+1].toNat:Nat):Int) == 32) with
  | false =>
   have hr:R=false:=by rw[H.out,k1];rfl
   subst hr
   have k1':(((s[p+1].toNat:Nat):Int) != 32)=true:=by simp[bne,k1]
   clear H
   go_enter Tryd.func74,Tryd.ntmps74
   go_wp2
   go_ret
   exact⟨rfl,rfl⟩
  | true =>
   have k1':(((s[p+1].toNat:Nat):Int) != 32)=false:=by simp[bne,k1]
   cases k2:(((s[p].toNat:Nat):Int) == 97) with
   | true =>
    have hr:R=true:=by rw[H.out,k1,k2];rfl
    subst hr
    clear H
    go_enter Tryd.func74,Tryd.ntmps74
    go_wp2
    go_ret
    exact⟨rfl,rfl⟩
   | false =>
    cases k3:(((s[p].toNat:Nat):Int) == 100) with
    | true =>
     have hr:R=true:=by rw[H.out,k1,k2,k3];rfl
     subst hr
     clear H
     go_enter Tryd.func74,Tryd.ntmps74
     go_wp2
     go_ret
     exact⟨rfl,rfl⟩
    | false =>
     have hr:R=(((s[p].toNat:Nat):Int) == 101):=by rw[H.out,k1,k2,k3];rfl
     have HRR:=hide hr
     clear H hr
     go_enter Tryd.func74,Tryd.ntmps74
     go_wp2
     go_ret
     exact⟨by rw[HRR.out];rfl,rfl⟩
 ·have hr:lbB (bs s) p=false:=by
   unfold lbB
   rw[bs_length,decide_eq_false h2]
   rfl
  rw[hr]
  have i1:((s.size:Int) - (p:Int)<2):=by omega
  clear hr
  go_enter Tryd.func74,Tryd.ntmps74
  go_wp2
  go_ret
  exact⟨rfl,rfl⟩
def rdl(l:List UInt8):Nat→Nat→List Int→Option (List Int × Nat)
 | 0,_,_=>none
 | m+1,p,acc =>
  let q:=p+wlen (l.drop p)
  if q<l.length then
   let n:=numOf ((l.drop p).take (q - p))
   if n.2≠0 then none else
    if n.1=0∧(l.getD q 0).toNat=10 then some (acc,q+1) else
     if n.1=0∨(l.getD q 0).toNat≠32 then none else rdl l m (q+1) (acc++[n.1])
  else none
def rdLine(l:List UInt8)(p:Nat):Option (Nat × List Int × Nat) :=
 if lbB l p then (rdl l (l.length+1) (p+2) []).map fun r=>((l.getD p 0).toNat,r.1,r.2) else none
theorem results_cell_tmp2{fn:Func}{p u v:Tmp}{ty:TypeId}(h:fn.results=#[.cell p ty,.tmp u,.tmp v])(tmps:Array Value)(P:Program)(w:World) :
  (results fn tmps).run P w =
   ((asAddr (tmps.getD p undef)).run P w).andThen fun a w₁=>((loadVar ty a).run P w₁).andThen fun x w₂=>.ok (.tuple #[x,tmps.getD u undef,tmps.getD v undef]) w₂:=by
 simp only[results,h]
 simp[Sem.run_bind,Result.andThen]
theorem lineType:∃ fs,Tryd.prog.underlying 76=some (.struct fs):=by
 have h:(Tryd.prog.underlying 76).map isStruct=some true:=by kernel_rfl
 cases hu:Tryd.prog.underlying 76 with
 | none=>rw[hu] at h;simp at h
 | some d =>
  rw[hu] at h
  cases d with
  | struct fs=>exact⟨fs,rfl⟩
  | _=>simp[isStruct] at h
theorem lineSize:(Tryd.prog.info? 76).map (·.size)=some 2:=by kernel_rfl
theorem line_ret{w':World}{tmps:Array Value}{g:Nat}{p q u v:Value}(hr:Row w' g 76 [p,q])(h2:tmps.getD 4 undef=.pointer (some ⟨g,0,none⟩))(h3:tmps.getD 5 undef=u)(h4:tmps.getD 6 undef=v) :
  (results Tryd.f58 tmps).run Tryd.prog w'=.ok (.tuple #[.agg #[p,q],u,v]) w':=by
 obtain⟨fs,hu⟩:=lineType
 rw[results_cell_tmp2 rfl,h2,h3,h4]
 simp[asAddr,Result.andThen,run_loadVar_row (P:=Tryd.prog) w' g 76 76 #[p,q] (0,0) (.struct fs) hr hu rfl lineSize]
theorem u_iL:(3:Nat)≠76:=by decide
def RlPost(w:World)(r:Option (Nat × List Int × Nat))(e:Ending)(w':World):Prop:=Below w.heap.size w w'∧match r with
 | none=>e=.returned (.tuple #[.agg #[.int .u8 0,.slice none 0 0],.int .i64 0,.bool false])
 | some (lt,xs,q)=>∃ a c,e=.returned (.tuple #[.agg #[.int .u8 lt,.slice a xs.length c],.int .i64 q,.bool true])∧w'.ownsRow w.heap.size 3 1 (.slice a xs.length c) xs.length (i64s xs)
set_option maxHeartbeats 8000000 in
theorem readLine_any(s:ByteArray)(p:Nat)(w:World)(hs:s.size≤4194304)(hp:p≤s.size) :
  Calls Tryd.prog 58 #[.string s,.int .i64 p] w (RlPost w (rdLine (bs s) p)):=by
 have HLB:=hide (lineBegins_any s p (w.alloc (.cells #[.int .u8 0,.slice none 0 0] 76)) hs hp)
 have hb1:Below w.heap.size w (w.alloc (.cells #[.int .u8 0,.slice none 0 0] 76)):=(Below.refl _ _).alloc (Nat.le_refl _) _
 have r1:Row (w.alloc (.cells #[.int .u8 0,.slice none 0 0] 76)) w.heap.size 76 [.int .u8 0,.slice none 0 0]:=heap_alloc_new w _
 cases hlb:lbB (bs s) p with
 | false =>
  rw[hlb] at HLB
  have HR:Hid (rdLine (bs s) p=none):=by show _=_;simp[rdLine,hlb]
  generalize rdLine (bs s) p=R at *
  have HB1:=hide hb1
  have R1:=hide r1
  clear hb1 r1 hlb
  go_enter Tryd.func58,Tryd.ntmps58
  go_wp2_with fail
  refine(unhide HLB).mono ?_
  generalize w.alloc (.cells #[.int .u8 0,.slice none 0 0] 76)=w1 at *
  rintro e w' ⟨rfl,hw⟩
  obtain rfl:=hw.symm
  have y0:w1.cell? ⟨w.heap.size,0,none⟩=some (.int .u8 0):=(R1.out.cell 0).trans rfl
  have y1:w1.cell? ⟨w.heap.size,1,none⟩=some (.slice none 0 0):=(R1.out.cell 1).trans rfl
  have z0:=R1.out.frozen 0
  have z1:=R1.out.frozen 1
  go_wp2
  have R9:Hid (Row ((w1.setCell ⟨w.heap.size,0,none⟩ (.int .u8 0)).setCell ⟨w.heap.size,1,none⟩ (.slice none 0 0)) w.heap.size 76 [.int .u8 0,.slice none 0 0]):=(R1.out.set 0 _).set 1 _
  refine bodyPost_ret (v:=.tuple #[.agg #[.int .u8 0,.slice none 0 0],.int .i64 0,.bool false]) (line_ret R9.out rfl rfl rfl) rfl ⟨?_,?_⟩
  ·exact(HB1.out.setCell (p:=⟨w.heap.size,0,none⟩) (Nat.le_refl _) _).setCell (p:=⟨w.heap.size,1,none⟩) (Nat.le_refl _) _
  ·rw[HR.out]
 | true =>
  rw[hlb] at HLB
  have h2:p+2≤s.size:=by
   simp only[lbB,Bool.and_eq_true,decide_eq_true_eq,bs_length] at hlb
   exact hlb.1.1
  have hp0:p<s.size:=by omega
  have HR:Hid (rdLine (bs s) p=(rdl (bs s) (s.size+1) (p+2) []).map fun r=>(s[p].toNat,r.1,r.2)):=by
   show _=_
   simp only[rdLine,hlb,if_true]
   rw[bs_length,bs_getD s p hp0]
  generalize rdLine (bs s) p=R at *
  obtain⟨i0,hi0,hz0,hz1,hz2⟩:=info_parts Tryd.infoInt
  have HB1:=hide hb1
  have R1:=hide r1
  have HWE:Hid (∀ q w,q≤s.size→Calls Tryd.prog 75 #[.string s,.int .i64 q] w fun e w'=>e=.returned (.int .i64 (q+wlen ((bs s).drop q):Nat))∧w'=w):=fun q w hq=>wordEnd_any s q w hs hq
  have HWP:=hide (HWE.out (p+2))
  rw[show((p+2:Nat):Int)=(p:Int)+2 by omega] at HWP
  clear hb1 r1 hlb
  go_enter Tryd.func58,Tryd.ntmps58
  go_wp2_with fail
  refine(unhide HLB).mono ?_
  generalize w.alloc (.cells #[.int .u8 0,.slice none 0 0] 76)=w1 at *
  rintro e w' ⟨rfl,hw⟩
  obtain rfl:=hw.symm
  have hlt1:w.heap.size<w1.heap.size:=R1.out.lt
  have HB2:Hid (Below w.heap.size w (w1.alloc (.cells #[.int .u8 (s[p].toNat:Nat),.slice none 0 0] 76))):=HB1.out.alloc (by omega) _
  have RA2:Hid (Row (w1.alloc (.cells #[.int .u8 (s[p].toNat:Nat),.slice none 0 0] 76)) w.heap.size 76 [.int .u8 0,.slice none 0 0]):=row_below R1.out ((Below.refl _ _).alloc (Nat.le_refl _) _)
  have RL2:Hid (Row (w1.alloc (.cells #[.int .u8 (s[p].toNat:Nat),.slice none 0 0] 76)) w1.heap.size 76 [.int .u8 (s[p].toNat:Nat),.slice none 0 0]):=heap_alloc_new w1 _
  generalize hlet:s[p].toNat=lt at *
  go_wp2_with (go_at_call 75;refine(unhide HWP _ h2).mono ?_;rintro e w' ⟨rfl,hw⟩;obtain rfl:=hw.symm)
  have HRD:Hid (rdl (bs s) (s.size+1) (p+2) []=rdl (bs s) (s.size+1) (p+2) []):=rfl
  generalize hrd:rdl (bs s) (s.size+1) (p+2) []=RD at HR HRD
  have HRD:=hide hrd
  clear hrd HWP HLB R1 HB1
  have hwl1:=wlen_le ((bs s).drop (p+2))
  rw[List.length_drop,bs_length] at hwl1
  go_loopw [1,8] (fun x1 x8 wr=>∃ (q ez m:Nat) (acc:List Int) (a:Option Addr) (c:Nat),q≤s.size∧ez=q+wlen ((bs s).drop q)∧ez≤s.size∧x1=.int .i64 q∧x8=.int .i64 ez∧acc.length≤q∧s.size+2≤q+m∧Hid (Row wr w.heap.size 76 [.int .u8 0,.slice none 0 0])∧Hid (Row wr w1.heap.size 76 [.int .u8 (lt:Nat),.slice a acc.length c])∧Hid (wr.ownsRow w.heap.size 3 1 (.slice a acc.length c) acc.length (i64s acc))∧Hid (Below w.heap.size w wr)∧Hid (rdl (bs s) m q acc=RD)) (fun x1 _ _=>s.size - (intOf x1).toNat)
  case atStart=>exact⟨p+2,p+2+wlen ((bs s).drop (p+2)),s.size+1,[],none,0,h2,rfl,by omega,by simp,by simp,Nat.zero_le _,by omega,RA2,RL2,⟨rfl,.inl ⟨rfl,rfl⟩⟩,HB2,HRD⟩
  case round =>
   clear RA2 RL2 HB2 hwl1 HRD
   obtain⟨q,ez,m,acc,a,c,hq,hez,hezs,rfl,rfl,hacc,hm,RA,RL,HO,HBR,HF⟩:=hrel
   obtain⟨m,rfl⟩:∃ k,m=k+1:=⟨m - 1,by omega⟩
   have hqe:q≤ez:=by omega
   have hf:=HF.out
   simp only[rdl,← hez,bs_length] at hf
   have HEZ:=hide hez
   clear hez
   have y0:wr.cell? ⟨w.heap.size,0,none⟩=some (.int .u8 0):=(RA.out.cell 0).trans rfl
   have y1:wr.cell? ⟨w.heap.size,1,none⟩=some (.slice none 0 0):=(RA.out.cell 1).trans rfl
   have z0:=RA.out.frozen 0
   have z1:=RA.out.frozen 1
   have l0:wr.cell? ⟨w1.heap.size,0,none⟩=some (.int .u8 (lt:Nat)):=(RL.out.cell 0).trans rfl
   have l1:wr.cell? ⟨w1.heap.size,1,none⟩=some (.slice a acc.length c):=(RL.out.cell 1).trans rfl
   have R9:Hid (Row ((wr.setCell ⟨w.heap.size,0,none⟩ (.int .u8 0)).setCell ⟨w.heap.size,1,none⟩ (.slice none 0 0)) w.heap.size 76 [.int .u8 0,.slice none 0 0]):=(RA.out.set 0 _).set 1 _
   have B9:Hid (Below w.heap.size w ((wr.setCell ⟨w.heap.size,0,none⟩ (.int .u8 0)).setCell ⟨w.heap.size,1,none⟩ (.slice none 0 0))):=(HBR.out.setCell (p:=⟨w.heap.size,0,none⟩) (Nat.le_refl _) _).setCell (p:=⟨w.heap.size,1,none⟩) (Nat.le_refl _) _
   by_cases hlt:ez<s.size
   ·rw[if_pos hlt] at hf
    have HNU:=hide (number_any (s.extract q ez) wr (by rw[ByteArray.size_extract];omega))
    rw[bs_extract] at HNU
    have hge:=bs_getD s ez hlt
    rw[hge] at hf
    generalize numOf (((bs s).drop q).take (ez - q))=N at *
    obtain⟨n,er⟩:=N
    simp only at hf HNU
    have i1:(0:Int)≤(q:Int):=by omega
    have i2:(q:Int)≤(ez:Int):=by omega
    have i3:(ez:Int)≤(s.size:Int):=by omega
    by_cases her:er=0
    ·subst her
     rw[if_neg (by simp:¬ ((0:Int)≠0))] at hf
     have j1:(0:Int)≤(ez:Int):=by omega
     have j2:(ez:Int)<(s.size:Int):=by omega
     have hcast:∀ b:Nat,(((s[ez].toNat:Nat):Int) == (b:Int))=(s[ez].toNat == b):=fun b=>nat_beq _ _
     have t10:=hcast 10
     have t32:=hcast 32
     clear hcast hge
     by_cases hn:n=0
     ·subst hn
      by_cases h10:s[ez].toNat=10
      ·rw[if_pos ⟨rfl,h10⟩] at hf
       have hres:R=some (lt,acc,ez+1):=by rw[HR.out,← hf];rfl
       have HRN:=hide hres
       have t10':(((s[ez].toNat:Nat):Int) == 10)=true:=by rw[show((10:Int))=((10:Nat):Int) from rfl,t10];simpa using h10
       have RZ:Hid (Row ((wr.setCell ⟨w.heap.size,0,none⟩ (.int .u8 (lt:Nat))).setCell ⟨w.heap.size,1,none⟩ (.slice a acc.length c)) w.heap.size 76 [.int .u8 (lt:Nat),.slice a acc.length c]):=(RA.out.set 0 _).set 1 _
       have BZ:Hid (Below w.heap.size w ((wr.setCell ⟨w.heap.size,0,none⟩ (.int .u8 (lt:Nat))).setCell ⟨w.heap.size,1,none⟩ (.slice a acc.length c))):=(HBR.out.setCell (p:=⟨w.heap.size,0,none⟩) (Nat.le_refl _) _).setCell (p:=⟨w.heap.size,1,none⟩) (Nat.le_refl _) _
       have OZ:Hid (((wr.setCell ⟨w.heap.size,0,none⟩ (.int .u8 (lt:Nat))).setCell ⟨w.heap.size,1,none⟩ (.slice a acc.length c)).ownsRow w.heap.size 3 1 (.slice a acc.length c) acc.length (i64s acc)):=own_setN (RA.out.set 0 _) 1 _ u_iL (own_setN RA.out 0 _ u_iL HO.out)
       clear hf hres t10 t32 h10
       go_wp2_with (go_at_call 76;refine(unhide HNU).mono ?_;rintro e w' ⟨rfl,hw⟩;obtain rfl:=hw.symm)
       refine bodyPost_ret (v:=.tuple #[.agg #[.int .u8 (lt:Nat),.slice a acc.length c],.int .i64 ((ez:Int)+1),.bool true]) (line_ret RZ.out rfl rfl rfl) rfl ⟨BZ.out,?_⟩
       rw[HRN.out]
       exact⟨a,c,rfl,OZ.out⟩
      ·rw[if_neg (fun h=>h10 h.2),if_pos (.inl rfl)] at hf
       have hres:R=none:=by rw[HR.out,← hf];rfl
       have HRN:=hide hres
       have t10':(((s[ez].toNat:Nat):Int) == 10)=false:=by rw[show((10:Int))=((10:Nat):Int) from rfl,t10];simpa using h10
       clear hf hres t10 t32 h10
       go_wp2_with (go_at_call 76;refine(unhide HNU).mono ?_;rintro e w' ⟨rfl,hw⟩;obtain rfl:=hw.symm)
       refine bodyPost_ret (v:=.tuple #[.agg #[.int .u8 0,.slice none 0 0],.int .i64 0,.bool false]) (line_ret R9.out rfl rfl rfl) rfl ⟨B9.out,?_⟩
       rw[HRN.out]
     ·have hnb:(n == 0)=false:=beq_eq_false_iff_ne.2 hn
      by_cases h32:s[ez].toNat=32
      ·rw[if_neg (fun h=>hn h.1),if_neg (fun h=>h.elim hn (fun h=>h h32))] at hf
       have HF2:=hide hf
       have t32':(((s[ez].toNat:Nat):Int) != 32)=false:=by rw[bne,show((32:Int))=((32:Nat):Int) from rfl,t32];simp[h32]
       have d1:Hid (acc.length+1≤maxLen):=by show _≤_;unfold maxLen;omega
       have d2:Hid ((acc.length+1)*8≤140737488355328):=by show _≤_;omega
       have hzr:w.heap.size≤wr.heap.size:=HBR.out.size
       have HWP:=hide (HWE.out (ez+1))
       rw[show((ez+1:Nat):Int)=(ez:Int)+1 by omega] at HWP
       have hwl:=wlen_le ((bs s).drop (ez+1))
       rw[List.length_drop,bs_length] at hwl
       have hL:w1.heap.size<wr.heap.size:=RL.out.lt
       clear hf t10 t32 h32 y0 y1 z0 z1
       go_wp2_with (first
        | (go_at_call 76;refine(unhide HNU).mono ?_;rintro e w' ⟨rfl,hw⟩;obtain rfl:=hw.symm)
        | (at_builtin;refine wpList_append_full _ rfl (.tmp 61) (.tmp 63) 23 rfl w.heap.size 3 i0 (.int .i64 0) 8 Tryd.undInts hi0 hz0 hz1 hz2 rfl (.slice a acc.length c) acc.length (i64s acc) rfl (HO.out.alloc _) ⟨wr.heap.size,0,none⟩ 1 1 [.int .i64 n] rfl rfl (new_cells1 wr [.int .i64 n] 3) (by intro u hu;simp at hu;subst hu;rfl) (by decide) d1.out d2.out (by simp;omega) (wr.heap.size+1) (by simp) ?_;intro a3 c3 w3 hown3 hg3 hl3;
              have HG3:=hide hg3;clear hl3;
              have RL3:Hid (Row w3 w1.heap.size 76 [.int .u8 (lt:Nat),.slice a acc.length c]):=row_grownN (row_below RL.out ((Below.refl _ _).alloc (Nat.le_refl _) _)) (HO.out.alloc _) u_iL hg3;
              have RA3:Hid (Row w3 w.heap.size 76 [.int .u8 0,.slice none 0 0]):=row_grownN (row_below RA.out ((Below.refl _ _).alloc (Nat.le_refl _) _)) (HO.out.alloc _) u_iL hg3;
              have O3:Hid (w3.ownsRow w.heap.size 3 1 (.slice a3 (acc.length+1) c3) (acc.length+1) (i64s (acc++[n]))):=(show i64s acc++[Value.int .i64 n]=i64s (acc++[n]) by simp[i64s]) ▸ hown3;
              have g2:w3.cell? ⟨w1.heap.size,1,none⟩=some (.slice a acc.length c):=(RL3.out.cell 1).trans rfl;
              have g2':=RL3.out.frozen 1;
              have B3:Hid (Below w.heap.size w w3):=(HBR.out.alloc hzr _).grown hg3 (by simp;omega) (fun j hj=>(HO.out.lt j hj).1);
              clear hown3 hg3)
        | (go_at_call 75;refine(unhide HWP _ (by omega)).mono ?_;rintro e w' ⟨rfl,hw⟩;obtain rfl:=hw.symm))
       go_roundw
       case rel =>
        refine⟨ez+1,ez+1+wlen ((bs s).drop (ez+1)),m,acc++[n],a3,c3,by omega,rfl,by omega,by simp,by simp,by rw[snoc_len];omega,by omega,?_,?_,?_,B3.out.setCell (p:=⟨w1.heap.size,1,none⟩) (by show w.heap.size≤w1.heap.size;omega) _,HF2⟩
        ·exact(Below.heap_setCell w3 ⟨w1.heap.size,1,none⟩ _ w.heap.size (by show w.heap.size≠w1.heap.size;omega)).trans RA3.out
        ·rw[snoc_len];exact RL3.out.set 1 _
        ·rw[snoc_len];exact own_setN RL3.out 1 _ u_iL O3.out
       case measure=>simp[intOf];omega
      ·rw[if_neg (fun h=>hn h.1),if_pos (.inr h32)] at hf
       have hres:R=none:=by rw[HR.out,← hf];rfl
       have HRN:=hide hres
       have t32':(((s[ez].toNat:Nat):Int) != 32)=true:=by rw[bne,show((32:Int))=((32:Nat):Int) from rfl,t32];simp[h32]
       clear hf hres t10 t32 h32
       go_wp2_with (go_at_call 76;refine(unhide HNU).mono ?_;rintro e w' ⟨rfl,hw⟩;obtain rfl:=hw.symm)
       refine bodyPost_ret (v:=.tuple #[.agg #[.int .u8 0,.slice none 0 0],.int .i64 0,.bool false]) (line_ret R9.out rfl rfl rfl) rfl ⟨B9.out,?_⟩
       rw[HRN.out]
    ·have hres:R=none:=by
      rw[if_pos her] at hf
      rw[HR.out,← hf];rfl
     have HRN:=hide hres
     have heri:(er != 0)=true:=by simp;exact her
     clear hf her hres
     go_wp2_with (go_at_call 76;refine(unhide HNU).mono ?_;rintro e w' ⟨rfl,hw⟩;obtain rfl:=hw.symm)
     refine bodyPost_ret (v:=.tuple #[.agg #[.int .u8 0,.slice none 0 0],.int .i64 0,.bool false]) (line_ret R9.out rfl rfl rfl) rfl ⟨B9.out,?_⟩
     rw[HRN.out]
   ·have hres:R=none:=by
     rw[if_neg hlt] at hf
     rw[HR.out,← hf];rfl
    have HRN:=hide hres
    clear hf hres
    go_wp2
    refine bodyPost_ret (v:=.tuple #[.agg #[.int .u8 0,.slice none 0 0],.int .i64 0,.bool false]) (line_ret R9.out rfl rfl rfl) rfl ⟨B9.out,?_⟩
    rw[HRN.out]
theorem posN_lt(xs:List Int)(h:xs.all litB=true):posN xs<2^11:=(Two.set xs h).lt
theorem negN_lt(xs:List Int)(h:xs.all litB=true):negN xs<2^11:=(Two.set xs h).lf
def errOf(k:Tk):Int:=match k with
 | .lit=>4
 | .taut=>0
 | .full=>5
 | .takes=>0
set_option maxHeartbeats 2000000 in
theorem add_lit(g:Nat)(a:Option Addr)(c:Nat)(xs:List Int)(w:World)(hx:xs.length≤9223372036854775807)(hi:IntsAt w a xs)(hall:xs.all litB=false) :
  Calls Tryd.prog 23 #[.pointer (some ⟨g,0,none⟩),.slice a xs.length c] w fun e w'=>e=.returned (.int .i64 4)∧Below w.heap.size w w':=by
 have HO:=hide (of_any a c xs w hx hi)
 have e1:posOk xs=0:=by simp[posOk,hall]
 have e2:negOk xs=0:=by simp[negOk,hall]
 rw[hall,e1,e2] at HO
 clear hi hall e1 e2
 go_enter Tryd.func23,Tryd.ntmps23
 go_wp2_with fail
 refine(unhide HO).mono ?_
 rintro e w2 ⟨rfl,hb2⟩
 have HB:Hid (∀ x,Below w.heap.size w (w2.alloc x)):=fun x=>hb2.alloc hb2.size x
 clear hb2
 go_wp2
 go_ret
 exact⟨rfl,HB.out _⟩
set_option maxHeartbeats 2000000 in
theorem add_taut(g:Nat)(a:Option Addr)(c:Nat)(xs:List Int)(w:World)(hx:xs.length≤9223372036854775807)(hi:IntsAt w a xs)(hall:xs.all litB=true)(ht:(posN xs&&&negN xs != 0)=true) :
  Calls Tryd.prog 23 #[.pointer (some ⟨g,0,none⟩),.slice a xs.length c] w fun e w'=>e=.returned (.int .i64 0)∧Below w.heap.size w w':=by
 have HO:=hide (of_any a c xs w hx hi)
 have e1:posOk xs=posN xs:=by simp[posOk,hall]
 have e2:negOk xs=negN xs:=by simp[negOk,hall]
 have HT:Hid (∀ w,Calls Tryd.prog 44 #[.agg #[.int .i64 (posN xs:Nat),.int .i64 (negN xs:Nat)]] w fun e w'=>e=.returned (.bool true)∧Below w.heap.size w w'):=fun w=>by
  have:=isTaut_any (posN xs) (negN xs) (posN_lt xs hall) (negN_lt xs hall) w
  rwa [ht] at this
 rw[hall,e1,e2] at HO
 generalize posN xs=t at *
 generalize negN xs=f at *
 clear hi hall e1 e2 ht
 go_enter Tryd.func23,Tryd.ntmps23
 go_wp2_with fail
 refine(unhide HO).mono ?_
 rintro e w2 ⟨rfl,hb2⟩
 have HB:Hid (∀ x,Below w.heap.size w (w2.alloc x)):=fun x=>hb2.alloc hb2.size x
 have hs2:w.heap.size≤w2.heap.size:=hb2.size
 clear hb2
 go_wp2_with fail
 refine(unhide HT _).mono ?_
 rintro e w3 ⟨rfl,hb3⟩
 have HB3:Hid (Below w.heap.size w w3):=(HB.out _).trans (hb3.mono (by simp;omega))
 clear hb3
 go_wp2
 go_ret
 exact⟨rfl,HB3.out⟩
theorem posOk_lt(xs:List Int):posOk xs<2^11:=by
 unfold posOk
 split
 ·rename_i h;exact posN_lt xs h
 ·decide
theorem negOk_lt(xs:List Int):negOk xs<2^11:=by
 unfold negOk
 split
 ·rename_i h;exact negN_lt xs h
 ·decide
def stepN(ns:List Nd)(lt:Nat)(xs:List Int):Int × List Nd :=
 if lt=100 then (match dropN ns (posOk xs) (negOk xs) with | none=>(8,ns) | some ns'=>(0,ns'))
 else if followsN ns (posOk xs) (negOk xs)=false then (7,ns) else if lt=97 then (0,addN ns (posOk xs) (negOk xs) 1) else (0,ns)
set_option maxHeartbeats 4000000 in
theorem step_anyP(w:World)(B cb:Nat)(na:Option Addr)(nc:Nat)(ns:List Nd)(h:TreeI w B cb na nc ns)(hw:Wf ns)(M:Nat)(hcb:CB ns M)(lt:Nat)(a:Option Addr)(c:Nat)(xs:List Int)(hx:xs.length≤9223372036854775807)(hi:IntsAt w a xs)(hB:B≤w.heap.size)(hl:ns.length≤90000000)(hM:M+1≤9223372036854775807) :
  Calls Tryd.prog 59 #[.pointer (some ⟨cb,0,none⟩),.agg #[.int .u8 lt,.slice a xs.length c]] w fun e w'=>e=.returned (.int .i64 (stepN ns lt xs).1)∧∃ na' nc',TreeN w w' B cb na nc ns.length na' nc' (stepN ns lt xs).2:=by
 have hb1:Below w.heap.size w (w.alloc (.cells #[.int .u8 lt,.slice a xs.length c] 76)):=(Below.refl _ _).alloc (Nat.le_refl _) _
 have r1:Row (w.alloc (.cells #[.int .u8 lt,.slice a xs.length c] 76)) w.heap.size 76 [.int .u8 lt,.slice a xs.length c]:=heap_alloc_new w _
 have HO:=hide (of_any a c xs (w.alloc (.cells #[.int .u8 lt,.slice a xs.length c] 76)) hx (hi.below hb1))
 have pl:=posOk_lt xs
 have nl:=negOk_lt xs
 have HI:=hide h
 have HW:=hide hw
 have HCB:=hide hcb
 have HB1:=hide hb1
 have R1:=hide r1
 have HSN:Hid (stepN ns lt xs=(if lt=100 then (match dropN ns (posOk xs) (negOk xs) with | none=>((8:Int),ns) | some ns'=>(0,ns')) else if followsN ns (posOk xs) (negOk xs)=false then (7,ns) else if lt=97 then (0,addN ns (posOk xs) (negOk xs) 1) else (0,ns))):=rfl
 generalize stepN ns lt xs=SN at *
 generalize posOk xs=t at *
 generalize negOk xs=f at *
 generalize xs.all litB=al at *
 clear h hw hcb hb1 r1 hi
 go_enter Tryd.func59,Tryd.ntmps59
 go_wp2_with fail
 refine(unhide HO).mono ?_
 generalize w.alloc (.cells #[.int .u8 lt,.slice a xs.length c] 76)=w1 at *
 rintro e w2 ⟨rfl,hb2⟩
 have B2:Hid (Below w.heap.size w w2):=HB1.out.trans (hb2.mono HB1.out.size)
 have hz2:w.heap.size≤w2.heap.size:=B2.out.size
 have hb3:Below w2.heap.size w2 (w2.alloc (.cells #[.int .i64 t,.int .i64 f] 84)):=(Below.refl _ _).alloc (Nat.le_refl _) _
 have r3:Row (w2.alloc (.cells #[.int .i64 t,.int .i64 f] 84)) w2.heap.size 84 [.int .i64 t,.int .i64 f]:=heap_alloc_new w2 _
 have RL2:=row_below R1.out hb2
 have q0:w2.cell? ⟨w.heap.size,0,none⟩=some (.int .u8 lt):=(RL2.cell 0).trans rfl
 have hlw:w.heap.size<w2.heap.size:=RL2.lt
 have B3:Hid (Below w.heap.size w (w2.alloc (.cells #[.int .i64 t,.int .i64 f] 84))):=B2.out.trans (hb3.mono hz2)
 have RL3:=hide (row_below RL2 hb3)
 have R3:=hide r3
 have T3:=hide (HI.out.below B3.out)
 have HD:=hide (drop_any _ B cb na nc ns T3.out HW.out M HCB.out t f pl nl (by omega))
 have HF:=hide (follows_any ns HW.out T3.out.pos cb na nc t f pl nl _ T3.out.row (nodes_own T3.out.own T3.out.pos))
 clear hb2 hb3 r3 HO RL2
 have hcast:∀ b:Nat,(((lt:Nat):Int) == (b:Int))=(lt == b):=fun b=>nat_beq _ _
 by_cases h100:lt=100
 ·have k1:(((lt:Nat):Int) == 100)=true:=by rw[show((100:Int))=((100:Nat):Int) from rfl,hcast];simpa using h100
  have HSN2:=HSN.out
  rw[if_pos h100] at HSN2
  have HS2:=hide HSN2
  clear hcast HSN HSN2 h100 HF
  go_wp2_with fail
  refine(unhide HD).mono ?_
  intro e w4 hp
  cases hdr:dropN ns t f with
  | none =>
   rw[hdr] at hp HS2
   obtain⟨rfl,hb4⟩:=hp
   have HN:Hid (TreeN w w4 B cb na nc ns.length na nc ns):=(TreeN.of HI.out B3.out).trans (TreeN.of T3.out hb4)
   clear hb4
   go_wp2
   go_ret
   rw[HS2.out]
   exact⟨rfl,na,nc,HN.out⟩
  | some ns' =>
   rw[hdr] at hp HS2
   obtain⟨rfl,na',nc',hn⟩:=hp
   have HN:Hid (TreeN w w4 B cb na nc ns.length na' nc' ns'):=(TreeN.of HI.out B3.out).trans hn
   clear hn
   go_wp2
   go_ret
   rw[HS2.out]
   exact⟨rfl,na',nc',HN.out⟩
 ·have k1:(((lt:Nat):Int) == 100)=false:=by rw[show((100:Int))=((100:Nat):Int) from rfl,hcast];simpa using h100
  have HSN2:=HSN.out
  rw[if_neg h100] at HSN2
  have HS2:=hide HSN2
  clear HSN HSN2 h100 HD
  have k97:(((lt:Nat):Int) == 97)=(lt == 97):=hcast 97
  clear hcast
  go_wp2_with fail
  refine(unhide HF).mono ?_
  rintro e w4 ⟨rfl,hb4⟩
  have T4:=hide (T3.out.below hb4)
  have N4:Hid (TreeN w w4 B cb na nc ns.length na nc ns):=(TreeN.of HI.out B3.out).trans (TreeN.of T3.out hb4)
  have RL4:=row_below RL3.out hb4
  have RS4:=row_below R3.out hb4
  have l0:w4.cell? ⟨w.heap.size,0,none⟩=some (.int .u8 lt):=(RL4.cell 0).trans rfl
  have s0:w4.cell? ⟨w2.heap.size,0,none⟩=some (.int .i64 t):=(RS4.cell 0).trans rfl
  have s1:w4.cell? ⟨w2.heap.size,1,none⟩=some (.int .i64 f):=(RS4.cell 1).trans rfl
  have hz4:B≤w4.heap.size:=Nat.le_trans hB N4.out.kept.size
  have HA:=hide (addC_any w4 B cb na nc ns T4.out HW.out M HCB.out t f 1 pl nl hz4 hl hM)
  clear hb4 RL4 RS4
  cases hfo:followsN ns t f with
  | false =>
   rw[hfo] at HS2
   go_wp2
   go_ret
   rw[HS2.out]
   exact⟨rfl,na,nc,N4.out⟩
  | true =>
   rw[hfo] at HS2
   by_cases h97:lt=97
   ·have k2:(((lt:Nat):Int) == 97)=true:=by rw[k97];simpa using h97
    have HS3:=HS2.out
    rw[if_neg (by simp),if_pos h97] at HS3
    have HS4:=hide HS3
    clear HS2 HS3 h97 k97
    go_wp2_with fail
    refine(unhide HA).mono ?_
    rintro e w5 ⟨rfl,na',nc',hn⟩
    have HN:Hid (TreeN w w5 B cb na nc ns.length na' nc' (addN ns t f 1)):=N4.out.trans hn
    clear hn
    go_wp2
    go_ret
    rw[HS4.out]
    exact⟨rfl,na',nc',HN.out⟩
   ·have k2:(((lt:Nat):Int) == 97)=false:=by rw[k97];simpa using h97
    have HS3:=HS2.out
    rw[if_neg (by simp),if_neg h97] at HS3
    have HS4:=hide HS3
    clear HS2 HS3 h97 k97
    go_wp2
    go_ret
    rw[HS4.out]
    exact⟨rfl,na,nc,N4.out⟩
end Go.Proofs.YthboeppmlhbofabDoor
