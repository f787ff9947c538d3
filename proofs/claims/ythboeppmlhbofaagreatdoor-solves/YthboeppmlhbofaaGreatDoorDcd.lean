import Derived.Test.YthboeppmlhbofaaGreatDoorClh
import Derived.Test.YthboeppmlhbofaaGreatDoorWrt
import Derived.Test.YthboeppmlhbofaaGreatDoorChl
namespace Go.Proofs.YthboeppmlhbofaaGreatDoor
open Go.RowKit Txt
set_option maxRecDepth 100000
structure CM(P:Nat→Prop)(w w':World):Prop where
 os:w'.os=w.os
 tape:w'.tape=w.tape
 output:w'.output=w.output
 size:w.heap.size≤w'.heap.size
 block:∀ k,k<w.heap.size→¬ P k→w'.heap[k]?=w.heap[k]?
theorem CM.of{P:Nat→Prop}{w w':World}(h:Below w.heap.size w w'):CM P w w':=⟨h.os,h.tape,h.output,h.size,fun k hk _=>h.block k hk⟩
theorem CM.trans{P:Nat→Prop}{w w1 w2:World}(h:CM P w w1)(h':CM P w1 w2):CM P w w2:=⟨h'.os.trans h.os,h'.tape.trans h.tape,h'.output.trans h.output,Nat.le_trans h.size h'.size,fun k hk hn=>(h'.block k (Nat.lt_of_lt_of_le hk h.size) hn).trans (h.block k hk hn)⟩
theorem CM.mono{P Q:Nat→Prop}{w w':World}(h:CM P w w')(hp:∀ k,k<w.heap.size→P k→Q k):CM Q w w':=⟨h.os,h.tape,h.output,h.size,fun k hk hn=>h.block k hk (fun hq=>hn (hp k hk hq))⟩
theorem CM.below{P:Nat→Prop}{w w1 w2:World}(h:CM P w w1)(hb:Below w1.heap.size w1 w2):CM P w w2:=h.trans (CM.of hb)
theorem CM.grown{P:Nat→Prop}{w w1 w2:World}{q:Option Nat}(h:CM P w w1)(hk:w1.grownBy w2 q)(hq:∀ b,q=some b→P b∨w.heap.size≤b):CM P w w2 :=
 ⟨hk.os.trans h.os,hk.tape.trans h.tape,hk.output.trans h.output,Nat.le_trans h.size hk.size,fun k hl hn=>(hk.block k (Nat.lt_of_lt_of_le hl h.size) (fun e=>(hq k e.symm).elim hn (fun h=>by omega))).trans (h.block k hl hn)⟩
theorem CM.set{P:Nat→Prop}{w w1:World}(h:CM P w w1)(g i:Nat)(x:Value)(hq:P g∨w.heap.size≤g):CM P w (w1.setCell ⟨g,i,none⟩ x) :=
 ⟨h.os,h.tape,h.output,by simpa [World.setCell] using h.size,fun k hl hn=>(Below.heap_setCell w1 ⟨g,i,none⟩ x k (fun e=>by have e':k=g:=e;subst e';exact hq.elim hn (fun h=>by omega))).trans (h.block k hl hn)⟩
theorem Sb:(3:Nat)≠44:=by decide
def SE.Own(d:SE)(b:Nat):Prop:=b=d.cb∨(Value.slice d.al d.lr.length d.cl).ownBlock=some b
structure JS(w:World)(B:Nat)(d:SE):Prop where
 ji:JI w B d
 ap:Af (.slice d.ah d.hv.length d.ch) (.slice d.al d.lr.length d.cl)
 base:B≤d.cb
theorem JS.below{w w':World}{B:Nat}{d:SE}(h:JS w B d)(hb:Below w.heap.size w w'):JS w' B d:=⟨h.ji.below hb,h.ap,h.base⟩
theorem JI.set{w:World}{B:Nat}{d d':SE}(h:JI w B d)(i:Nat)(x:Value)(hc:d'.cells=d.cells.set i x)(h0:d'.cb=d.cb)(h1:d'.hv=d.hv∧d'.ah=d.ah∧d'.ch=d.ch)(h2:d'.lr=d.lr∧d'.al=d.al∧d'.cl=d.cl):JI (w.setCell ⟨d.cb,i,none⟩ x) B d':=by
 obtain⟨a1,a2,a3⟩:=h1
 obtain⟨b1,b2,b3⟩:=h2
 refine⟨?_,?_,?_,by rw[a1,b1];exact h.top,by rw[a1,b1];exact h.len⟩
 ·rw[hc,h0];exact h.blk.set i x
 ·rw[a1,a2,a3];exact Ae h.blk i x Sb h.hv
 ·rw[b1,b2,b3];exact Ae h.blk i x Sb h.lr
set_option maxHeartbeats 8000000 in
theorem WG(B:Nat)(d:SE)(a:Option Addr)(c:Nat)(xs:List Int)(w:World)(h:JS w B d)(hB:B≤w.heap.size)(hi:AS w a xs)(hx:xs.length≤10000000)(hna:∀ g,a=some g→¬ d.Own g.block)
  (hlog:d.log≤100000000∧d.held≤100000000∧d.st≤100000000∧d.lr.length<10000000)
  (h1:(d.log:Int)+xs.length+1≤d.l) (h2:CA d.hv d.lr xs false=true) (h3:(d.held:Int)+xs.length≤d.h) (h4:d.r=0∨(d.lr.length:Int)+1≤d.r) :
  Calls Tryz.prog 77 #[.pointer (some ⟨d.cb,0,none⟩),.int .u8 97,.slice a xs.length c] w fun e w'=>e=.returned (.bool true)∧∃ al' cl',JS w' B { d with lr:=d.lr++[AJ xs],al:=al',cl:=cl',held:=d.held+xs.length,log:=d.log+xs.length+1,st:=d.st+1 }∧CM d.Own w w'∧((Value.slice al' (d.lr.length+1) cl').ownBlock=(Value.slice d.al d.lr.length d.cl).ownBlock∨∃ b,(Value.slice al' (d.lr.length+1) cl').ownBlock=some b∧w.heap.size≤b):=by
 obtain⟨i0,hi0,hy0,hy1,hy2⟩:=info_parts Tryz.infoInt
 have hsl:=DX xs
 have b3:w.cell? ⟨d.cb,11,none⟩=some (.int .i64 (d.log:Nat)):=(h.ji.blk.cell 11).trans rfl
 have b4:w.cell? ⟨d.cb,4,none⟩=some (.int .i64 d.l):=(h.ji.blk.cell 4).trans rfl
 have z3:=h.ji.blk.frozen 11
 have J1:JI (w.setCell ⟨d.cb,11,none⟩ (.int .i64 ((d.log+xs.length+1:Nat):Int))) B { d with log:=d.log+xs.length+1 }:=h.ji.set 11 _ rfl rfl ⟨rfl,rfl,rfl⟩ ⟨rfl,rfl,rfl⟩
 have I1:AS (w.setCell ⟨d.cb,11,none⟩ (.int .i64 ((d.log+xs.length+1:Nat):Int))) a xs:=by
  rcases hi with h0 | ⟨b,off,rfl,hc⟩
  ·exact .inl h0
  ·refine .inr ⟨b,off,rfl,fun j hj=>?_⟩
   exact(World.cell?_of_block (a:=⟨b,off+j,none⟩) (Below.heap_setCell w ⟨d.cb,11,none⟩ _ b (fun e=>hna _ rfl (.inl e)))).trans (hc j hj)
 have HJ:=AB h
 have HSE:Hid (∀ w2,Below (w.setCell ⟨d.cb,11,none⟩ (.int .i64 ((d.log+xs.length+1:Nat):Int))).heap.size (w.setCell ⟨d.cb,11,none⟩ (.int .i64 ((d.log+xs.length+1:Nat):Int))) w2→Calls Tryz.prog 43 #[.slice a xs.length c] w2 fun e w'=>e=.returned (.tuple #[.int .i64 (AJ xs:Nat),.bool (xs.all AT)])∧w'=w2):=fun w2 hb=>FH a c xs w2 (by omega) (I1.below hb)
 have HCL:Hid (∀ w2,Below (w.setCell ⟨d.cb,11,none⟩ (.int .i64 ((d.log+xs.length+1:Nat):Int))).heap.size (w.setCell ⟨d.cb,11,none⟩ (.int .i64 ((d.log+xs.length+1:Nat):Int))) w2→Calls Tryz.prog 82 #[.pointer (some ⟨d.cb,0,none⟩),.slice a xs.length c,.bool false] w2 fun e w'=>e=.returned (.bool true)∧Below w2.heap.size w2 w'):=fun w2 hb=>by
  have:=J6 B { d with log:=d.log+xs.length+1 } a c xs false w2 (J1.below hb) (I1.below hb) (by omega)
  simp only[h2] at this
  exact this
 have HJ1:=AB J1
 have C1:Hid (CM d.Own w (w.setCell ⟨d.cb,11,none⟩ (.int .i64 ((d.log+xs.length+1:Nat):Int)))):=(CM.of (Below.refl _ _)).set d.cb 11 _ (.inl (.inl rfl))
 have hle:¬ ((d.log:Int)+xs.length+1 > d.l):=by omega
 have hsz1:(w.setCell ⟨d.cb,11,none⟩ (.int .i64 ((d.log+xs.length+1:Nat):Int))).heap.size=w.heap.size:=by simp[World.setCell]
 have ew:((d.log+xs.length+1:Nat):Int)=(d.log:Int)+(xs.length:Int)+1:=by omega
 simp only[ew] at HSE HCL HJ1 C1 hsz1
 clear h hi J1 I1 h2
 go_enter Tryz.func77,Tryz.ntmps77
 go_wp2_with fail
 generalize w.setCell ⟨d.cb,11,none⟩ (.int .i64 ((d.log:Int)+(xs.length:Int)+1))=w1 at *
 have k11:w1.cell? ⟨d.cb,11,none⟩=some (.int .i64 ((d.log:Int)+(xs.length:Int)+1)):=by rw[← ew];exact(HJ1.out.blk.cell 11).trans rfl
 have k4:w1.cell? ⟨d.cb,4,none⟩=some (.int .i64 d.l):=(HJ1.out.blk.cell 4).trans rfl
 clear b3 b4 z3
 go_quiet (fail)
 go_wp2_with fail
 refine(AE HSE (w1.drewN nq) (below_drewN (Below.refl _ _) nq)).mono ?_
 rintro e w' ⟨rfl,hw⟩
 obtain rfl:=hw.symm
 go_wp2_with fail
 refine(AE HCL (w1.drewN nq) (below_drewN (Below.refl _ _) nq)).mono ?_
 rintro e w2 ⟨rfl,hb2⟩
 have HB2:Hid (Below w1.heap.size w1 w2):=(below_drewN (Below.refl _ _) nq).trans hb2
 have J2:=AB (HJ1.out.below HB2.out)
 have C2:=AB (C1.out.below HB2.out)
 clear hb2 HSE HCL k11 k4
 have k9:w2.cell? ⟨d.cb,9,none⟩=some (.slice d.al d.lr.length d.cl):=(J2.out.blk.cell 9).trans rfl
 have d1:Hid (d.lr.length+1≤maxLen):=by show _≤_;unfold maxLen;omega
 have d2:Hid ((d.lr.length+1)*8≤140737488355328):=by show _≤_;omega
 have hz2:w.heap.size≤w2.heap.size:=C2.out.size
 go_wp2_with (first
  | (at_builtin;refine Ap _ rfl _ _ 24 rfl B 3 i0 (.int .i64 0) 8 Tryz.undInts hi0 hy0 hy1 hy2 rfl (.slice d.al d.lr.length d.cl) d.lr.length (AO (A8 d.lr)) rfl (J2.out.lr.alloc _) ⟨w2.heap.size,0,none⟩ 1 1 [.int .i64 (AJ xs:Nat)] rfl rfl (AH w2 [.int .i64 (AJ xs:Nat)] 3) (by intro u hu;simp at hu;subst hu;rfl) (by decide) d1.out d2.out (by simp;omega) (w2.heap.size+1) (by simp) ?_;intro a4 c4 w4 hown4 hg4 hl4;
        have R4:=AB (BG (AF J2.out.blk ((Below.refl _ _).alloc (Nat.le_refl _) _)) (J2.out.lr.alloc _) Sb hg4);
        have g9:w4.cell? ⟨d.cb,9,none⟩=some (.slice d.al d.lr.length d.cl):=(R4.out.cell 9).trans rfl;
        have g10:w4.cell? ⟨d.cb,10,none⟩=some (.int .i64 (d.held:Nat)):=(R4.out.cell 10).trans rfl;
        have g14:w4.cell? ⟨d.cb,14,none⟩=some (.int .i64 (d.st:Nat)):=(R4.out.cell 14).trans rfl;
        have g3:w4.cell? ⟨d.cb,3,none⟩=some (.int .i64 d.h):=(R4.out.cell 3).trans rfl;
        have g2:w4.cell? ⟨d.cb,2,none⟩=some (.int .i64 d.r):=(R4.out.cell 2).trans rfl;
        have y9:=R4.out.frozen 9;have y10:=R4.out.frozen 10;have y14:=R4.out.frozen 14))
 have R7:=((R4.out.set 9 (.slice a4 (d.lr.length+1) c4)).set 10 (.int .i64 ((d.held:Int)+(xs.length:Int)))).set 14 (.int .i64 ((d.st:Int)+1))
 have hsn:∀ {v:Value} {n:Nat} {zs:List Value},w4.ownsRow B 3 1 v n zs→(((w4.setCell ⟨d.cb,9,none⟩ (.slice a4 (d.lr.length+1) c4)).setCell ⟨d.cb,10,none⟩ (.int .i64 ((d.held:Int)+(xs.length:Int)))).setCell ⟨d.cb,14,none⟩ (.int .i64 ((d.st:Int)+1))).ownsRow B 3 1 v n zs:=fun ho=>Ae ((R4.out.set 9 _).set 10 _) 14 _ Sb (Ae (R4.out.set 9 _) 10 _ Sb (Ae R4.out 9 _ Sb ho))
 have OH:Hid ((((w4.setCell ⟨d.cb,9,none⟩ (.slice a4 (d.lr.length+1) c4)).setCell ⟨d.cb,10,none⟩ (.int .i64 ((d.held:Int)+(xs.length:Int)))).setCell ⟨d.cb,14,none⟩ (.int .i64 ((d.st:Int)+1))).ownsRow B 3 1 (.slice d.ah d.hv.length d.ch) d.hv.length (AO (A8 d.hv))):=hsn (Aj (J2.out.hv.alloc _) hg4 HJ.out.ap)
 have OL:Hid ((((w4.setCell ⟨d.cb,9,none⟩ (.slice a4 (d.lr.length+1) c4)).setCell ⟨d.cb,10,none⟩ (.int .i64 ((d.held:Int)+(xs.length:Int)))).setCell ⟨d.cb,14,none⟩ (.int .i64 ((d.st:Int)+1))).ownsRow B 3 1 (.slice a4 (d.lr.length+1) c4) (d.lr.length+1) (AO (A8 (d.lr++[AJ xs])))):=hsn ((show AO (A8 d.lr)++[Value.int .i64 ((AJ xs:Nat):Int)]=AO (A8 (d.lr++[AJ xs])) by simp[AO,A8]) ▸ hown4)
 have hcb:d.cb<w.heap.size:=HJ.out.ji.blk.lt
 have C7:Hid (CM d.Own w (((w4.setCell ⟨d.cb,9,none⟩ (.slice a4 (d.lr.length+1) c4)).setCell ⟨d.cb,10,none⟩ (.int .i64 ((d.held:Int)+(xs.length:Int)))).setCell ⟨d.cb,14,none⟩ (.int .i64 ((d.st:Int)+1)))):=((((C2.out.below ((Below.refl _ _).alloc (Nat.le_refl _) _)).grown hg4 (fun b hb=>.inl (.inr hb))).set d.cb 9 _ (.inl (.inl rfl))).set d.cb 10 _ (.inl (.inl rfl))).set d.cb 14 _ (.inl (.inl rfl))
 have HOB:Hid ((Value.slice a4 (d.lr.length+1) c4).ownBlock=(Value.slice d.al d.lr.length d.cl).ownBlock∨∃ b,(Value.slice a4 (d.lr.length+1) c4).ownBlock=some b∧w.heap.size≤b):=by
  rcases hl4 with hh | ⟨hh,_⟩
  ·simp only[Value.slice.injEq] at hh
   obtain⟨rfl,_,rfl⟩:=hh
   exact .inl (by cases d.al <;> rfl)
  ·subst hh
   exact .inr ⟨w2.heap.size+1,rfl,by omega⟩
 have HAP:Hid (Af (.slice d.ah d.hv.length d.ch) (.slice a4 (d.lr.length+1) c4)):=by
  intro b hb hb4
  rcases HOB.out with hh | ⟨b',hh,hlt⟩
  ·exact HJ.out.ap b hb (hh ▸ hb4)
  ·rw[hh] at hb4
   simp only[Option.some.injEq] at hb4
   have:=(HJ.out.ji.hv.lt b hb).2
   omega
 have HR7:=AB R7
 clear hsn R7 R4 hown4 hg4 hl4 g9 g10 g14 g3 g2 y9 y10 y14 k9
 generalize ((w4.setCell ⟨d.cb,9,none⟩ (.slice a4 (d.lr.length+1) c4)).setCell ⟨d.cb,10,none⟩ (.int .i64 ((d.held:Int)+(xs.length:Int)))).setCell ⟨d.cb,14,none⟩ (.int .i64 ((d.st:Int)+1))=w7 at *
 have g9:w7.cell? ⟨d.cb,9,none⟩=some (.slice a4 (d.lr.length+1) c4):=(HR7.out.cell 9).trans rfl
 have g10:w7.cell? ⟨d.cb,10,none⟩=some (.int .i64 ((d.held:Int)+(xs.length:Int))):=(HR7.out.cell 10).trans rfl
 have g3:w7.cell? ⟨d.cb,3,none⟩=some (.int .i64 d.h):=(HR7.out.cell 3).trans rfl
 have g2:w7.cell? ⟨d.cb,2,none⟩=some (.int .i64 d.r):=(HR7.out.cell 2).trans rfl
 have HFIN:Hid (∀ w8,Below w7.heap.size w7 w8→∃ al' cl',JS w8 B { d with lr:=d.lr++[AJ xs],al:=al',cl:=cl',held:=d.held+xs.length,log:=d.log+xs.length+1,st:=d.st+1 }∧CM d.Own w w8∧((Value.slice al' (d.lr.length+1) cl').ownBlock=(Value.slice d.al d.lr.length d.cl).ownBlock∨∃ b,(Value.slice al' (d.lr.length+1) cl').ownBlock=some b∧w.heap.size≤b)):=by
  intro w8 hb8
  refine⟨a4,c4,JS.below (w:=w7) ⟨⟨?_,OH.out,by rw[List.length_append];exact OL.out,⟨HJ.out.ji.top.1,?_⟩,⟨HJ.out.ji.len.1,by simp;omega⟩⟩,by rw[List.length_append];exact HAP.out,HJ.out.base⟩ hb8,C7.out.below hb8,HOB.out⟩
  ·have:=HR7.out
   simp only[SE.cells,List.set_cons_succ,List.set_cons_zero,List.length_append,List.length_cons,List.length_nil,Nat.zero_add] at this ⊢
   simpa using this
  ·intro x hx
   rcases List.mem_append.1 hx with hx | hx
   ·exact HJ.out.ji.top.2 x hx
   ·simp at hx;subst hx;exact hsl
 clear OH OL C7 HAP HOB HR7
 rcases h4 with h4 | h4
 ·have hr0:(d.r == 0)=true:=by simpa using h4
  go_region
  go_wp2
  go_ret
  exact⟨rfl,HFIN.out w7.drew (below_drewN (Below.refl _ _) 1)⟩
 ·have hz:¬ d.r=0:=by omega
  have hr0:(d.r == 0)=false:=by simpa using hz
  go_region
  go_wp2
  go_ret
  exact⟨rfl,HFIN.out w7.drew (below_drewN (Below.refl _ _) 1)⟩
open Txt
def dT:List UInt8→Bool
 | []=>false
 | c :: _=>!((c.toNat:Int) == 99)
structure aF(n:Int)(l:List UInt8):Prop where
 num:BU l=(n,0)
 gaps:l.all (fun c=>!Ey c)=true
 head:dT l=true
theorem V4{n:Int}(h:AT n=true):aF n (Lib.itoa n):=by
 rcases GQ h with rfl|rfl|rfl|rfl|rfl|rfl|rfl|rfl|rfl|rfl|rfl|rfl|rfl|rfl|rfl|rfl|rfl|rfl|rfl|rfl <;>
  exact⟨by decide +kernel,by decide +kernel,by decide +kernel⟩
theorem Sh(l:List UInt8)(h:l.all (fun c=>!Ey c)=true)(g:UInt8)(hg:Ey g=true)(r:List UInt8):CN (l++g :: r)=l.length:=by
 induction l with
 | nil=>simp[CN,hg]
 | cons c l ih =>
  simp only[List.all_cons,Bool.and_eq_true,Bool.not_eq_true'] at h
  simp[CN,h.1,ih h.2]
theorem dS:Ey 32=true:=by decide
theorem dR:Ey 10=true:=by decide
theorem dw:BU [48]=(0,0):=by decide
def Bo(lt:UInt8)(xs:List Int):List UInt8:=[lt,32]++(A6 xs++[48,10])
theorem Gh{l a b:List UInt8}{p:Nat}(h:l.drop p=a++b):l.drop (p+a.length)=b:=by
 rw[← List.drop_drop,h,List.drop_left]
theorem MO{l b:List UInt8}{p:Nat}{c:UInt8}(h:l.drop p=c :: b):l.getD p 0=c∧p<l.length:=by
 have hp:p<l.length:=by
  apply Classical.byContradiction
  intro hn
  rw[List.drop_eq_nil_of_le (by omega)] at h
  simp at h
 rw[List.drop_eq_getElem_cons hp] at h
 simp only[List.cons.injEq] at h
 exact⟨by rw[List.getD_eq_getElem?_getD,List.getElem?_eq_getElem hp];exact h.1,hp⟩
theorem ZG(l post:List UInt8):∀ (xs:List Int) (m p:Nat) (acc:List Int),xs.all AT=true→xs.length<m→l.drop p=A6 xs++(48 :: 10 :: post)→Ol l m p acc=some (acc++xs,p+(A6 xs).length+2):=by
 intro xs
 induction xs with
 | nil =>
  intro m p acc _ hm h
  obtain⟨m,rfl⟩:∃ k,m=k+1:=⟨m - 1,by omega⟩
  have h':l.drop p=48 :: 10 :: post:=by simpa [A6] using h
  have hw:CN (l.drop p)=1:=by
   rw[h']
   exact Sh [48] (by decide) 10 dR post
  have hd1:l.drop (p+1)=10 :: post:=Gh (a:=[48]) (by rw[h'];rfl)
  obtain⟨g1,g2⟩:=MO hd1
  simp only[Ol,hw]
  rw[if_pos g2,show p+1 - p=1 by omega,h']
  have ht:(48 :: 10 :: post).take 1=[48]:=rfl
  rw[ht,dw,if_neg (by simp),g1,if_pos ⟨rfl,by decide⟩]
  simp[A6]
 | cons x xs ih =>
  intro m p acc hall hm h
  obtain⟨m,rfl⟩:∃ k,m=k+1:=⟨m - 1,by omega⟩
  simp only[List.all_cons,Bool.and_eq_true] at hall
  have hx:=V4 hall.1
  have h':l.drop p=Lib.itoa x++(32 :: (A6 xs++(48 :: 10 :: post))):=by
   rw[h]
   simp[A6,DJ]
  have hw:CN (l.drop p)=(Lib.itoa x).length:=by
   rw[h']
   exact Sh _ hx.gaps 32 dS _
  have hd1:=Gh h'
  obtain⟨g1,g2⟩:=MO hd1
  have hd2:l.drop (p+(Lib.itoa x).length+1)=A6 xs++(48 :: 10 :: post):=Gh (a:=[32]) (by rw[hd1];rfl)
  have hne:x≠0:=by
   have:=hall.1
   simp only[AT,Bool.and_eq_true,bne_iff_ne] at this
   exact this.1.1
  simp only[Ol,hw]
  rw[if_pos g2,show p+(Lib.itoa x).length - p=(Lib.itoa x).length by omega,h',List.take_left,hx.num]
  rw[if_neg (by simp),g1,if_neg (fun q=>hne q.1),if_neg (fun q=>q.elim hne (fun q=>q (by decide)))]
  rw[ih m _ _ hall.2 (by simpa using hm) hd2]
  simp[A6,DJ]
  omega
theorem Rm(pre post:List UInt8)(lt:UInt8)(xs:List Int)(h:xs.all AT=true)(hl:lt.toNat=97∨lt.toNat=100∨lt.toNat=101):Bw (pre++(Bo lt xs++post)) pre.length=some (lt.toNat,xs,pre.length+(Bo lt xs).length):=by
 have h0:(pre++(Bo lt xs++post)).drop pre.length=lt :: 32 :: (A6 xs++(48 :: 10 :: post)):=by
  rw[List.drop_left]
  simp[Bo]
 have h1:(pre++(Bo lt xs++post)).drop (pre.length+1)=32 :: (A6 xs++(48 :: 10 :: post)):=Gh (a:=[lt]) (by rw[h0];rfl)
 have h2:(pre++(Bo lt xs++post)).drop (pre.length+2)=A6 xs++(48 :: 10 :: post):=Gh (a:=[lt,32]) (by rw[h0];rfl)
 obtain⟨a1,a2⟩:=MO h0
 obtain⟨b1,b2⟩:=MO h1
 have hlen:xs.length≤(A6 xs).length:=by
  clear h0 h1 h2 a1 a2 b1 b2
  induction xs with
  | nil=>simp
  | cons x xs ih =>
   simp only[List.all_cons,Bool.and_eq_true] at h
   have:=ih h.2
   simp[A6,DJ] at this ⊢
   omega
 have hlb:PV (pre++(Bo lt xs++post)) pre.length=true:=by
  unfold PV
  rw[a1,b1,decide_eq_true (by omega)]
  rcases hl with e | e | e <;> rw[e] <;> decide
 have hlt:(pre++(Bo lt xs++post)).length=pre.length+((A6 xs).length+4)+post.length:=by simp[Bo];omega
 unfold Bw
 rw[if_pos hlb,ZG _ post xs _ _ [] h (by omega) h2,a1]
 simp[Bo]
 omega
set_option maxHeartbeats 4000000 in
theorem WJ(B:Nat)(d:SE)(a:Option Addr)(c:Nat)(xs:List Int)(w:World)(h:JS w B d)(hi:AS w a xs)(hx:xs.length≤10000000)(hna:∀ g,a=some g→¬ d.Own g.block)
  (hlog:d.log≤100000000) (h1:(d.log:Int)+xs.length+1≤d.l) (h2:CA d.hv d.lr xs true=true) :
  Calls Tryz.prog 77 #[.pointer (some ⟨d.cb,0,none⟩),.int .u8 101,.slice a xs.length c] w fun e w'=>e=.returned (.bool true)∧JS w' B { d with log:=d.log+xs.length+1 }∧CM d.Own w w':=by
 have b3:w.cell? ⟨d.cb,11,none⟩=some (.int .i64 (d.log:Nat)):=(h.ji.blk.cell 11).trans rfl
 have b4:w.cell? ⟨d.cb,4,none⟩=some (.int .i64 d.l):=(h.ji.blk.cell 4).trans rfl
 have z3:=h.ji.blk.frozen 11
 have J1:JI (w.setCell ⟨d.cb,11,none⟩ (.int .i64 ((d.log+xs.length+1:Nat):Int))) B { d with log:=d.log+xs.length+1 }:=h.ji.set 11 _ rfl rfl ⟨rfl,rfl,rfl⟩ ⟨rfl,rfl,rfl⟩
 have I1:AS (w.setCell ⟨d.cb,11,none⟩ (.int .i64 ((d.log+xs.length+1:Nat):Int))) a xs:=by
  rcases hi with h0 | ⟨b,off,rfl,hc⟩
  ·exact .inl h0
  ·refine .inr ⟨b,off,rfl,fun j hj=>?_⟩
   exact(World.cell?_of_block (a:=⟨b,off+j,none⟩) (Below.heap_setCell w ⟨d.cb,11,none⟩ _ b (fun e=>hna _ rfl (.inl e)))).trans (hc j hj)
 have HJ:=AB h
 have HSE:Hid (∀ w2,Below (w.setCell ⟨d.cb,11,none⟩ (.int .i64 ((d.log+xs.length+1:Nat):Int))).heap.size (w.setCell ⟨d.cb,11,none⟩ (.int .i64 ((d.log+xs.length+1:Nat):Int))) w2→Calls Tryz.prog 43 #[.slice a xs.length c] w2 fun e w'=>e=.returned (.tuple #[.int .i64 (AJ xs:Nat),.bool (xs.all AT)])∧w'=w2):=fun w2 hb=>FH a c xs w2 (by omega) (I1.below hb)
 have HCL:Hid (∀ w2,Below (w.setCell ⟨d.cb,11,none⟩ (.int .i64 ((d.log+xs.length+1:Nat):Int))).heap.size (w.setCell ⟨d.cb,11,none⟩ (.int .i64 ((d.log+xs.length+1:Nat):Int))) w2→Calls Tryz.prog 82 #[.pointer (some ⟨d.cb,0,none⟩),.slice a xs.length c,.bool true] w2 fun e w'=>e=.returned (.bool true)∧Below w2.heap.size w2 w'):=fun w2 hb=>by
  have:=J6 B { d with log:=d.log+xs.length+1 } a c xs true w2 (J1.below hb) (I1.below hb) (by omega)
  simp only[h2] at this
  exact this
 have HJ1:=AB J1
 have C1:Hid (CM d.Own w (w.setCell ⟨d.cb,11,none⟩ (.int .i64 ((d.log+xs.length+1:Nat):Int)))):=(CM.of (Below.refl _ _)).set d.cb 11 _ (.inl (.inl rfl))
 have hle:¬ ((d.log:Int)+xs.length+1 > d.l):=by omega
 have ew:((d.log+xs.length+1:Nat):Int)=(d.log:Int)+(xs.length:Int)+1:=by omega
 simp only[ew] at HSE HCL HJ1 C1
 clear h hi J1 I1 h2
 go_enter Tryz.func77,Tryz.ntmps77
 go_wp2_with fail
 generalize w.setCell ⟨d.cb,11,none⟩ (.int .i64 ((d.log:Int)+(xs.length:Int)+1))=w1 at *
 have k11:w1.cell? ⟨d.cb,11,none⟩=some (.int .i64 ((d.log:Int)+(xs.length:Int)+1)):=by rw[← ew];exact(HJ1.out.blk.cell 11).trans rfl
 have k4:w1.cell? ⟨d.cb,4,none⟩=some (.int .i64 d.l):=(HJ1.out.blk.cell 4).trans rfl
 clear b3 b4 z3
 go_quiet (fail)
 go_wp2_with fail
 refine(AE HSE (w1.drewN nq) (below_drewN (Below.refl _ _) nq)).mono ?_
 rintro e w' ⟨rfl,hw⟩
 obtain rfl:=hw.symm
 go_wp2_with fail
 refine(AE HCL (w1.drewN nq) (below_drewN (Below.refl _ _) nq)).mono ?_
 rintro e w2 ⟨rfl,hb2⟩
 have HB2:Hid (Below w1.heap.size w1 w2):=(below_drewN (Below.refl _ _) nq).trans hb2
 have J2:=AB (HJ1.out.below HB2.out)
 have C2:=AB (C1.out.below HB2.out)
 clear hb2 HSE HCL k11 k4
 go_wp2
 go_ret
 exact⟨rfl,⟨J2.out,HJ.out.ap,HJ.out.base⟩,C2.out⟩
set_option maxHeartbeats 4000000 in
theorem WH(B:Nat)(d:SE)(a:Option Addr)(c:Nat)(xs:List Int)(w:World)(h:JS w B d)(hB:B≤w.heap.size)(hi:AS w a xs)(hx:xs.length≤10000000)(hna:∀ g,a=some g→¬ d.Own g.block)
  (hlog:d.log≤100000000∧d.held≤100000000) (h1:(d.log:Int)+xs.length+1≤d.l) (h2:AJ xs∈d.lr) (h3:d.r≠0) (h4:AG (AJ xs)=xs.length) (h5:xs.length≤d.held) :
  Calls Tryz.prog 77 #[.pointer (some ⟨d.cb,0,none⟩),.int .u8 100,.slice a xs.length c] w fun e w'=>e=.returned (.bool true)∧∃ al' cl',JS w' B { d with lr:=d.lr.erase (AJ xs),al:=al',cl:=cl',held:=d.held - xs.length,log:=d.log+xs.length+1 }∧CM d.Own w w'∧∀ b,(Value.slice al' (d.lr.erase (AJ xs)).length cl').ownBlock=some b→w.heap.size≤b:=by
 have hsl:=DX xs
 have b3:w.cell? ⟨d.cb,11,none⟩=some (.int .i64 (d.log:Nat)):=(h.ji.blk.cell 11).trans rfl
 have b4:w.cell? ⟨d.cb,4,none⟩=some (.int .i64 d.l):=(h.ji.blk.cell 4).trans rfl
 have z3:=h.ji.blk.frozen 11
 have J1:JI (w.setCell ⟨d.cb,11,none⟩ (.int .i64 ((d.log+xs.length+1:Nat):Int))) B { d with log:=d.log+xs.length+1 }:=h.ji.set 11 _ rfl rfl ⟨rfl,rfl,rfl⟩ ⟨rfl,rfl,rfl⟩
 have I1:AS (w.setCell ⟨d.cb,11,none⟩ (.int .i64 ((d.log+xs.length+1:Nat):Int))) a xs:=by
  rcases hi with h0 | ⟨b,off,rfl,hc⟩
  ·exact .inl h0
  ·refine .inr ⟨b,off,rfl,fun j hj=>?_⟩
   exact(World.cell?_of_block (a:=⟨b,off+j,none⟩) (Below.heap_setCell w ⟨d.cb,11,none⟩ _ b (fun e=>hna _ rfl (.inl e)))).trans (hc j hj)
 have HJ:=AB h
 have HSE:Hid (∀ w2,Below (w.setCell ⟨d.cb,11,none⟩ (.int .i64 ((d.log+xs.length+1:Nat):Int))).heap.size (w.setCell ⟨d.cb,11,none⟩ (.int .i64 ((d.log+xs.length+1:Nat):Int))) w2→Calls Tryz.prog 43 #[.slice a xs.length c] w2 fun e w'=>e=.returned (.tuple #[.int .i64 (AJ xs:Nat),.bool (xs.all AT)])∧w'=w2):=fun w2 hb=>FH a c xs w2 (by omega) (I1.below hb)
 have HSZ:Hid (∀ w2,Calls Tryz.prog 34 #[.int .i64 (AJ xs:Nat)] w2 fun e w'=>e=.returned (.int .i64 (xs.length:Nat))∧w'=w2):=fun w2=>by
  have:=Fu (AJ xs) hsl w2
  rwa [h4] at this
 have HJ1:=AB J1
 have C1:Hid (CM d.Own w (w.setCell ⟨d.cb,11,none⟩ (.int .i64 ((d.log+xs.length+1:Nat):Int)))):=(CM.of (Below.refl _ _)).set d.cb 11 _ (.inl (.inl rfl))
 have hle:¬ ((d.log:Int)+xs.length+1 > d.l):=by omega
 have ew:((d.log+xs.length+1:Nat):Int)=(d.log:Int)+(xs.length:Int)+1:=by omega
 have hsz1:(w.setCell ⟨d.cb,11,none⟩ (.int .i64 ((d.log+xs.length+1:Nat):Int))).heap.size=w.heap.size:=by simp[World.setCell]
 simp only[ew] at HSE HJ1 C1 hsz1
 clear h hi J1 I1
 go_enter Tryz.func77,Tryz.ntmps77
 go_wp2_with fail
 generalize w.setCell ⟨d.cb,11,none⟩ (.int .i64 ((d.log:Int)+(xs.length:Int)+1))=w1 at *
 have k11:w1.cell? ⟨d.cb,11,none⟩=some (.int .i64 ((d.log:Int)+(xs.length:Int)+1)):=by rw[← ew];exact(HJ1.out.blk.cell 11).trans rfl
 have k4:w1.cell? ⟨d.cb,4,none⟩=some (.int .i64 d.l):=(HJ1.out.blk.cell 4).trans rfl
 clear b3 b4 z3
 go_quiet (fail)
 go_wp2_with fail
 refine(AE HSE (w1.drewN nq) (below_drewN (Below.refl _ _) nq)).mono ?_
 rintro e w' ⟨rfl,hw⟩
 obtain rfl:=hw.symm
 have HB2:Hid (Below w1.heap.size w1 (w1.drewN nq)):=below_drewN (Below.refl _ _) nq
 generalize w1.drewN nq=w2 at *
 have J2:=AB (HJ1.out.below HB2.out)
 have C2:=AB (C1.out.below HB2.out)
 clear HSE k11 k4
 have k9:w2.cell? ⟨d.cb,9,none⟩=some (.slice d.al d.lr.length d.cl):=(J2.out.blk.cell 9).trans rfl
 have k2:w2.cell? ⟨d.cb,2,none⟩=some (.int .i64 d.r):=(J2.out.blk.cell 2).trans rfl
 have hll:d.lr.length≤10000000:=HJ.out.ji.len.2
 have HIN:=AB (Ta d.al d.cl d.lr (AJ xs) w2 (Fk J2.out.lr) (by omega))
 have hr0:(d.r == 0)=false:=by simpa using h3
 have hsx:((xs.length:Int) != (xs.length:Int))=false:=by simp
 go_wp2_with fail
 refine(AE HIN).mono ?_
 rintro e w' ⟨⟨rr,rfl,hrr⟩,hw⟩
 obtain rfl:=hw.symm
 rcases hrr with⟨_,hn⟩ | ⟨kk,hk1,rfl,hk2,hk3⟩
 ·exact absurd h2 hn
 have her:Ln d.lr kk d.lr.length=d.lr.erase (AJ xs):=by rw[Qe d.lr (AJ xs) kk hk1 hk2 hk3,Z2 d.lr kk hk1]
 have hkn:¬ ((kk:Int)<0):=by omega
 have HWO:Hid (∀ w3,Below w2.heap.size w2 w3→Calls Tryz.prog 106 #[.slice d.al d.lr.length d.cl,.int .i64 kk] w3 fun e w'=>(∃ a' c',e=.returned (.slice a' (d.lr.erase (AJ xs)).length c')∧w'.ownsRow w3.heap.size 3 1 (.slice a' (d.lr.erase (AJ xs)).length c') (d.lr.erase (AJ xs)).length (AO (A8 (d.lr.erase (AJ xs)))))∧Below w3.heap.size w3 w'):=fun w3 hb=>by
  have:=MA d.al d.cl d.lr kk w3 (Fk (AK J2.out.lr hb)) (by omega)
  rwa [her] at this
 have hlen:(d.lr.erase (AJ xs)).length≤d.lr.length:=List.length_erase_le
 have hsub:∀ x∈d.lr.erase (AJ xs),x∈d.lr:=fun x hx=>List.mem_of_mem_erase hx
 have HSUB:=AB hsub
 have HLEN:=AB hlen
 generalize hlr:d.lr.erase (AJ xs)=lr' at *
 have HLR:=AB hlr
 clear hlr hk1 hk2 hk3 her h2 hsub hlen HIN
 have J3:=AB J2.out
 have C3:=AB C2.out
 go_wp2_with (go_at_call 34;refine(AE HSZ _).mono ?_;rintro e w' ⟨rfl,hw⟩;obtain rfl:=hw.symm)
 refine(AE HWO w2 (Below.refl _ _)).mono ?_
 rintro e w4 ⟨⟨a4,c4,rfl,ho4⟩,hb4⟩
 have J4:=AB (J3.out.below hb4)
 have C4:=AB (C3.out.below hb4)
 have O4:=AB ho4
 have hz3:w.heap.size≤w2.heap.size:=C3.out.size
 have g9:w4.cell? ⟨d.cb,9,none⟩=some (.slice d.al d.lr.length d.cl):=(J4.out.blk.cell 9).trans rfl
 have g10:w4.cell? ⟨d.cb,10,none⟩=some (.int .i64 (d.held:Nat)):=(J4.out.blk.cell 10).trans rfl
 have y9:=J4.out.blk.frozen 9
 have y10:=J4.out.blk.frozen 10
 have eh:((d.held - xs.length:Nat):Int)=(d.held:Int) - (xs.length:Int):=by omega
 have R6:=(J4.out.blk.set 9 (.slice a4 lr'.length c4)).set 10 (.int .i64 ((d.held:Int) - (xs.length:Int)))
 have hsn:∀ {v:Value} {n:Nat} {zs:List Value},w4.ownsRow B 3 1 v n zs→((w4.setCell ⟨d.cb,9,none⟩ (.slice a4 lr'.length c4)).setCell ⟨d.cb,10,none⟩ (.int .i64 ((d.held:Int) - (xs.length:Int)))).ownsRow B 3 1 v n zs:=fun ho=>Ae (J4.out.blk.set 9 _) 10 _ Sb (Ae J4.out.blk 9 _ Sb ho)
 have HFIN:Hid (∃ al' cl',JS ((w4.setCell ⟨d.cb,9,none⟩ (.slice a4 lr'.length c4)).setCell ⟨d.cb,10,none⟩ (.int .i64 ((d.held:Int) - (xs.length:Int)))) B { d with lr:=lr',al:=al',cl:=cl',held:=d.held - xs.length,log:=d.log+xs.length+1 }∧CM d.Own w ((w4.setCell ⟨d.cb,9,none⟩ (.slice a4 lr'.length c4)).setCell ⟨d.cb,10,none⟩ (.int .i64 ((d.held:Int) - (xs.length:Int))))∧∀ b,(Value.slice al' lr'.length cl').ownBlock=some b→w.heap.size≤b):=by
  have hle2:=HLEN.out
  refine⟨a4,c4,⟨⟨?_,hsn J4.out.hv,hsn (BO O4.out (Nat.le_trans hB hz3)),⟨HJ.out.ji.top.1,fun x hx=>HJ.out.ji.top.2 x (HSUB.out x hx)⟩,⟨HJ.out.ji.len.1,by show lr'.length≤_;omega⟩⟩,fun b hb hb4=>?_,HJ.out.base⟩,(C4.out.set d.cb 9 _ (.inl (.inl rfl))).set d.cb 10 _ (.inl (.inl rfl)),fun b hb=>Nat.le_trans hz3 (O4.out.lt b hb).1⟩
  ·have:=R6
   simp only[SE.cells,List.set_cons_succ,List.set_cons_zero] at this ⊢
   rw[eh]
   exact this
  ·have q1:=(HJ.out.ji.hv.lt b hb).2
   have q2:=(O4.out.lt b hb4).1
   omega
 clear R6 hsn J4 C4 O4 ho4 hb4 HWO HSUB HLEN J3 C3
 go_wp2
 go_ret
 have hlr:=HLR.out
 subst hlr
 exact⟨rfl,HFIN.out⟩
structure JV where
 lr:List Nat
 held:Nat
 log:Nat
 st:Nat
abbrev FO:=UInt8 × List Int
def BY(ls:List FO):List UInt8:=ls.flatMap fun p=>Bo p.1 p.2
def PZ(r h l:Int)(hv:List Nat)(j:JV)(p:FO):Prop :=
 (j.log:Int)+p.2.length+1≤l∧((p.1=97∧CA hv j.lr p.2 false=true∧(j.held:Int)+p.2.length≤h∧(r=0∨(j.lr.length:Int)+1≤r))∨(p.1=101∧CA hv j.lr p.2 true=true)∨(p.1=100∧AJ p.2∈j.lr∧r≠0∧AG (AJ p.2)=p.2.length∧p.2.length≤j.held))
def Bh(j:JV)(p:FO):JV:=if p.1=97 then ⟨j.lr++[AJ p.2],j.held+p.2.length,j.log+p.2.length+1,j.st+1⟩ else if p.1=100 then ⟨j.lr.erase (AJ p.2),j.held - p.2.length,j.log+p.2.length+1,j.st⟩ else { j with log:=j.log+p.2.length+1 }
def EO(r h l:Int)(hv:List Nat):JV→List FO→Prop
 | _,[]=>True
 | j,p :: ps=>p.2.all AT=true∧PZ r h l hv j p∧(p.1=101→ps=[])∧EO r h l hv (Bh j p) ps
def Ag(j:JV)(ls:List FO):JV:=ls.foldl Bh j
def SE.jv(d:SE):JV:=⟨d.lr,d.held,d.log,d.st⟩
def SE.put(d:SE)(j:JV)(al:Option Addr)(cl:Nat):SE:={ d with lr:=j.lr,held:=j.held,log:=j.log,st:=j.st,al:=al,cl:=cl }
theorem JA(p:FO)(ls:List FO):BY (p :: ls)=Bo p.1 p.2++BY ls:=by simp[BY]
theorem Ti(B:Nat)(d:SE)(a:Option Addr)(c:Nat)(p:FO)(w:World)(h:JS w B d)(hB:B≤w.heap.size)(hi:AS w a p.2)(hx:p.2.length≤10000000)(hna:∀ g,a=some g→¬ d.Own g.block)
  (hlog:d.log≤100000000∧d.held≤100000000∧d.st≤100000000∧d.lr.length<10000000) (ho:PZ d.r d.h d.l d.hv d.jv p) :
  Calls Tryz.prog 77 #[.pointer (some ⟨d.cb,0,none⟩),.int .u8 (p.1.toNat:Nat),.slice a p.2.length c] w fun e w'=>e=.returned (.bool true)∧∃ al cl,JS w' B (d.put (Bh d.jv p) al cl)∧CM d.Own w w'∧∀ b,(d.put (Bh d.jv p) al cl).Own b→d.Own b∨w.heap.size≤b:=by
 obtain⟨lt,xs⟩:=p
 obtain⟨h1,⟨e,h2,h3,h4⟩ | ⟨e,h2⟩ | ⟨e,h2,h3,h4,h5⟩⟩:=ho
 ·simp only at e h1 h2 h3 h4 hi hx
  subst e
  have hto:Bh d.jv ((97:UInt8),xs)=⟨d.lr++[AJ xs],d.held+xs.length,d.log+xs.length+1,d.st+1⟩:=by simp[Bh,SE.jv]
  refine(WG B d a c xs w h hB hi hx hna hlog h1 h2 h3 h4).mono ?_
  rintro e w' ⟨rfl,al,cl,j,ch,ob⟩
  refine⟨rfl,al,cl,by rw[hto];exact j,ch,fun b hb=>?_⟩
  rw[hto] at hb
  rcases hb with hb | hb
  ·exact .inl (.inl hb)
  ·have hb':(Value.slice al (d.lr.length+1) cl).ownBlock=some b:=by
    have e2:(d.lr++[AJ xs]).length=d.lr.length+1:=by simp
    have:(Value.slice al (d.lr++[AJ xs]).length cl).ownBlock=some b:=hb
    rwa [e2] at this
   rcases ob with ob | ⟨b',ob,hlt⟩
   ·exact .inl (.inr (ob ▸ hb'))
   ·rw[ob] at hb'
    simp only[Option.some.injEq] at hb'
    exact .inr (by omega)
 ·simp only at e h1 h2 hi hx
  subst e
  have hto:Bh d.jv ((101:UInt8),xs)={ d.jv with log:=d.log+xs.length+1 }:=by simp[Bh,SE.jv]
  refine(WJ B d a c xs w h hi hx hna hlog.1 h1 h2).mono ?_
  rintro e w' ⟨rfl,j,ch⟩
  exact⟨rfl,d.al,d.cl,by rw[hto];exact j,ch,fun b hb=>by rw[hto] at hb;exact .inl hb⟩
 ·simp only at e h1 h2 h3 h4 h5 hi hx
  subst e
  have hto:Bh d.jv ((100:UInt8),xs)=⟨d.lr.erase (AJ xs),d.held - xs.length,d.log+xs.length+1,d.st⟩:=by simp[Bh,SE.jv]
  refine(WH B d a c xs w h hB hi hx hna ⟨hlog.1,hlog.2.1⟩ h1 h2 h3 h4 h5).mono ?_
  rintro e w' ⟨rfl,al,cl,j,ch,ob⟩
  refine⟨rfl,al,cl,by rw[hto];exact j,ch,fun b hb=>?_⟩
  rw[hto] at hb
  rcases hb with hb | hb
  ·exact .inl (.inl hb)
  ·exact .inr (ob b hb)
theorem NV{w w':World}{a:Option Addr}{A:Nat→Option Addr}{C:Nat→Nat}{xss:List (List Int)}(h:CC w a A C xss)(hb:Below w.heap.size w w'):CC w' a A C xss :=
 h.kept fun b off _ hv=>(hb.cell (p:=⟨b,off,none⟩) (World.block_lt_of_cell? w _ hv)).trans hv
theorem be:cA []:=⟨fun p hp=>by simp at hp,Nat.le_refl _,by decide⟩
theorem Zp(cls:List (List Int))(k:Nat)(ss:List Pr)(em:Nat)(h:k<cls.length):Ih (cls.drop k) ss em k=match Hi (cls.getD k []) ss em with | .err e=>.inl (e,k) | .ok ss' em'=>Ih (cls.drop (k+1)) ss' em' (k+1):=by
 rw[List.drop_eq_getElem_cons h,List.getD_eq_getElem?_getD,List.getElem?_eq_getElem h]
 rfl
theorem Xg{xs:List Int}{ss:List Pr}{em:Nat}{e:Int}(h:Hi xs ss em=.err e):e≠0:=by
 unfold Hi at h
 split at h
 ·simp only[AR.err.injEq] at h;omega
 ·split at h
  ·simp at h
  ·split at h
   ·simp at h
   ·split at h
    ·simp only[AR.err.injEq] at h;omega
    ·simp at h
set_option maxHeartbeats 4000000 in
theorem TE(a:Option Addr)(c:Nat)(A:Nat→Option Addr)(C:Nat→Nat)(cls:List (List Int))(s:ByteArray)(w:World)(hr:CC w a A C cls)(hcl:cls.length≤9223372036850000000)(hsz:s.size≤4611686018427387904) :
  Calls Tryz.prog 57 #[.slice a cls.length c,.string s] w (LX w.heap.size w (D0 cls (bs s))):=by
 by_cases hbig:4194304<s.size
 ·have HE:Hid (D0 cls (bs s)=([],2,0)):=by show _=_;unfold D0;rw[Aa,if_pos hbig]
  generalize D0 cls (bs s)=R at *
  have hbi:((s.size:Int) > 4194304):=by omega
  clear hr
  go_enter Tryz.func57,Tryz.ntmps57
  go_wp2
  go_ret3
  rw[HE.out]
  exact⟨Below.refl _ _,none,0,rfl,rfl,.inl ⟨rfl,rfl⟩⟩
 ·have HE:Hid (D0 cls (bs s)=match Ih cls [] 0 0 with | .inl (e,i)=>([],e,i) | .inr (ss,em)=>J5 (bs s) (s.size+1) (Dq ss em) 0 0 0 []):=by show _=_;unfold D0;rw[Aa,if_neg hbig];rfl
  generalize D0 cls (bs s)=R at *
  have hbi:¬ ((s.size:Int) > 4194304):=by omega
  have hb1:Below w.heap.size w (w.alloc (.cells (DY 0 0 0 none 0 0 0 0).toArray 107)):=(Below.refl _ _).alloc (Nat.le_refl _) _
  have S1:Hid (bz (w.alloc (.cells (DY 0 0 0 none 0 0 0 0).toArray 107)) w.heap.size w.heap.size [] 0 none 0 0):=⟨heap_alloc_new w _,⟨rfl,.inl ⟨rfl,rfl⟩⟩,by decide,Nat.le_refl _⟩
  have HB1:=AB hb1
  have HR:=AB hr
  generalize htk:Ih cls [] 0 0=TK at HE
  have HTK:=AB htk
  clear hr hb1 htk
  simp only[DY] at S1 HB1
  go_enter Tryz.func57,Tryz.ntmps57
  go_wp2_with fail
  go_loopw [17] (fun i wr=>∃ (k:Nat) (ss:List Pr) (em:Nat) (ta:Option Addr) (tc se:Nat),k≤cls.length∧em≤k∧i=.int .i64 k∧Hid (bz wr w.heap.size w.heap.size ss em ta tc se)∧Hid (cA ss)∧Hid (Below w.heap.size w wr)∧Hid (Ih (cls.drop k) ss em k=TK)) (fun i _=>cls.length - (intOf i).toNat)
  case atStart=>exact⟨0,[],0,none,0,0,Nat.zero_le _,Nat.le_refl _,rfl,S1,be,HB1,HTK⟩
  case round =>
   clear S1 HB1 HTK
   obtain⟨k,ss,em,ta,tc,se,hk,hem,rfl,S,HT,HB,HK⟩:=hrel
   have hzr:w.heap.size≤wr.heap.size:=HB.out.size
   by_cases hlt:k<cls.length
   ·have hkk:=HK.out
    rw[Zp cls k ss em hlt] at hkk
    obtain⟨b,off,rfl,hc⟩:=(NV HR.out HB.out).get (by omega)
    obtain⟨q0,q1,q2⟩:=hc k hlt
    generalize cls.getD k []=xs at *
    generalize A k=ak at *
    generalize C k=ck at *
    have HA:=AB (Xh wr w.heap.size w.heap.size ss em ta tc se S.out HT.out ak ck xs q2 q1 hzr (by omega))
    have HTN:Hid (∀ ss' em',Hi xs ss em=.ok ss' em'→cA ss'∧em'≤em+1):=fun ss' em' h=>QK HT.out h
    have HNE:Hid (∀ e,Hi xs ss em=.err e→e≠0):=fun e h=>Xg h
    have HKK:=AB hkk
    have i1:(0:Int)≤(k:Int):=by omega
    have i2:(k:Int)<(cls.length:Int):=by omega
    generalize Hi xs ss em=AA at *
    clear hc q1 hkk
    go_wp2_with fail
    refine(AE HA).mono ?_
    rintro e w2 ⟨hb2,hp2⟩
    have B2:Hid (Below w.heap.size w w2):=HB.out.trans hb2
    cases AA with
    | err er =>
     simp only at hp2
     subst hp2
     have hk2:=HKK.out
     simp only at hk2
     have HE2:=HE.out
     rw[← hk2] at HE2
     simp only at HE2
     have HE3:=AB HE2
     clear hb2 HA HE2 hk2 HKK
     have heri:(er != 0)=true:=by simp;exact HNE.out er rfl
     go_wp2
     go_ret3
     rw[HE3.out]
     exact⟨B2.out,none,0,rfl,rfl,.inl ⟨rfl,rfl⟩⟩
    | ok ss' em' =>
     simp only at hp2
     obtain⟨rfl,ta',tc',se',hs2⟩:=hp2
     obtain⟨t1,t2⟩:=HTN.out ss' em' rfl
     have S2:=AB hs2
     have T2:=AB t1
     have hk2:=HKK.out
     simp only at hk2
     have HK2:=AB hk2
     clear hb2 HA hs2 t1 hk2 HKK HTN
     go_wp2
     go_roundw
     case rel=>exact⟨k+1,ss',em',ta',tc',se',by omega,by omega,by go_num,S2,T2,B2,HK2⟩
     case measure=>simp[intOf];omega
   ·obtain rfl:k=cls.length:=by omega
    have hkk:=HK.out
    rw[List.drop_length] at hkk
    simp only[Ih] at hkk
    have HE2:=HE.out
    rw[← hkk] at HE2
    simp only at HE2
    have HE3:=AB HE2
    have h1:=HT.out.one
    have h2:=HT.out.all
    obtain⟨w1',w2',w3',w4'⟩:=SH ss em
    have W1:=AB w1'
    have W3:=AB w3'
    have HS:=AB (Px wr w.heap.size w.heap.size ss em ta tc se S.out HT.out hzr (by omega))
    clear hkk HE2 HK w1' w3'
    go_wp2_with fail
    refine(AE HS).mono ?_
    rintro e w2 ⟨cb,na,nc,rfl,t2,hb2⟩
    have B2:Hid (Below w.heap.size w w2):=HB.out.trans hb2
    have HC:=AB (TF w2 w.heap.size cb na nc (Dq ss em) t2 W1.out (em+ss.length) W3.out s (by omega) (Nat.le_trans hzr hb2.size) (by omega) (by omega))
    clear t2 hb2 HS
    go_wp2_with fail
    refine(AE HC).mono ?_
    rintro e w3 ⟨hb3,a3,c3,rfl,ho3⟩
    have B3:Hid (Below w.heap.size w w3):=B2.out.trans hb3
    have O3:=AB ho3
    clear hb3 ho3 HC
    generalize J5 (bs s) (s.size+1) (Dq ss em) 0 0 0 []=CR at *
    go_wp2
    go_ret3
    refine⟨B3.out,a3,c3,?_,?_⟩
    ·rw[HE3.out];rfl
    ·rw[HE3.out];exact O3.out
end Go.Proofs.YthboeppmlhbofaaGreatDoor
