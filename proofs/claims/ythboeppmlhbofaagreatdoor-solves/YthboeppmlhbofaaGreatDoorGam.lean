import Derived.Test.YthboeppmlhbofaaGreatDoorPrd
import Derived.Test.YthboeppmlhbofaaGreatDoorGsb
import Derived.Test.YthboeppmlhbofaaGreatDoorGsf
import Derived.ProofKit
import Derived.OpenShut
import Derived.Deep.Slices
import Derived.SizedLaws
import Derived.DataShut
namespace Go.Proofs.YthboeppmlhbofaaGreatDoor
open Go.RowKit Txt
set_option maxRecDepth 100000
theorem Wt(P:DH)(Wb B n:Nat)(V:WV)(s:St)(ds:List (SX P))(w:World)(o:Cq)(ho:o.Ok)(_hk:o.k<14∨o.k=19)(h:AX w Wb B n V s ds)(hn:n≤16384)(h0:0<B)(htab:Hid (Fx w)) :
  Calls Tryz.prog 15 #[.pointer (some ⟨Wb,0,none⟩),.agg o.cells] w fun e w'=>e=.returned (.bool true)∧MF P (n+1) w w' Wb B:=by
 have up:∀ {e:Ending} {w':World},(e=.returned (.bool true)∧II (n+1) w w' Wb B V)→(e=.returned (.bool true)∧MF P (n+1) w w' Wb B):=fun hh=>⟨hh.1,h.nxt hh.2⟩
 by_cases h12:o.k=12
 ·exact NM P Wb B n V s ds w o (.inl h12) h hn
 by_cases h13:o.k=13
 ·exact NM P Wb B n V s ds w o (.inr h13) h hn
 by_cases h19:o.k=19
 ·by_cases ht:s.texts.length=0
  ·exact(Rk Wb B n V s w o h.i h.b hn h19 ht).mono (fun _ _ hh=>up hh)
  ·exact(Rj Wb B n V s w o ho h19 h.i h.b hn (by omega)).mono (fun _ _ hh=>up hh)
 have n1:(o.k == 12)=false:=by simpa using h12
 have n2:(o.k == 13)=false:=by simpa using h13
 have n3:(o.k == 19)=false:=by simpa using h19
 by_cases h10:o.k=10
 ·by_cases ht:s.texts.length=0
  ·exact(Oj Wb B n V s w o h.i h.b hn (.inl ⟨by simpa using h10,ht⟩) n1 n2 n3).mono (fun _ _ hh=>up hh)
  ·exact(Tw Wb B n V s w o ho h10 h.i h.b hn (by omega)).mono (fun _ _ hh=>up hh)
 by_cases h11:o.k=11
 ·exact(Tx Wb B n V s w o h11 h.i h.b hn h0 htab).mono (fun _ _ hh=>up hh)
 ·exact(Oj Wb B n V s w o h.i h.b hn (.inr ⟨by simpa using h10,by simpa using h11⟩) n1 n2 n3).mono (fun _ _ hh=>up hh)
set_option maxHeartbeats 4000000 in
theorem UM(P:DH)(Wb B n:Nat)(V:WV)(s:St)(ds:List (SX P))(w:World)(o:Cq)(ho:o.Ok)(hio:D9 o.k=false)(hk:o.k<14∨o.k=19)(h9:(o.k == 9)=false)(h:AX w Wb B n V s ds)(hn:n≤16384)(h0:0<B)(htab:Hid (Fx w)) :
  Calls Tryz.prog 12 #[.pointer (some ⟨Wb,0,none⟩),.agg o.cells] w fun e w'=>e=.returned (.bool true)∧MF P (n+1) w w' Wb B:=by
 have hBs:=h.hB
 have HB:Hid (∀ x,Below w.heap.size w (w.alloc x)):=fun x=>(Below.refl _ _).alloc (Nat.le_refl _) x
 have HT:Hid (∀ x,Calls Tryz.prog 14 #[.pointer (some ⟨Wb,0,none⟩),.agg o.cells] (w.alloc x) fun e w'=>e=.returned (.bool false)∧Below (w.alloc x).heap.size (w.alloc x) w'):=by
  intro x
  refine(Dn Wb B n V s (w.alloc x) o ho (h.i.below (HB.out x)) h.b hn).mono ?_
  rintro e w' ⟨rfl,hm⟩
  exact⟨by rw[hio],hm.no hio⟩
 have HP:Hid (∀ w1,Below w.heap.size w w1→Calls Tryz.prog 15 #[.pointer (some ⟨Wb,0,none⟩),.agg o.cells] w1 fun e w'=>e=.returned (.bool true)∧MF P (n+1) w w' Wb B):=by
  intro w1 hb
  refine(Wt P Wb B n V s ds w1 o ho hk (h.below hb) hn h0 (Fx.below htab.out hb (by omega))).mono ?_
  rintro e w' ⟨rfl,hN⟩
  exact⟨rfl,hN.pre (hb.mono hBs)⟩
 obtain⟨k,a,b,c,t⟩:=o
 have hk14:k<14∨k=19:=hk
 simp only[Cq.cells] at *
 have h9':¬ k=9:=by simpa using h9
 clear h ho hio hk htab
 rcases hk14 with hk14 | hk19
 ·go_enter Tryz.func12,Tryz.ntmps12
  go_wp2_with fail
  refine(AE HT _).mono ?_
  have e1:=fun j u hu=>AH w [.int .i64 k,.int .i64 a,.int .i64 b,.int .i64 c,.string t] 27 j u hu
  have hb1:Below w.heap.size w (w.alloc (.cells #[.int .i64 k,.int .i64 a,.int .i64 b,.int .i64 c,.string t] 27)):=(Below.refl _ _).alloc (Nat.le_refl _) _
  have e3:w.heap.size<(w.alloc (.cells #[.int .i64 k,.int .i64 a,.int .i64 b,.int .i64 c,.string t] 27)).heap.size:=by simp
  have m0:=e1 0 _ rfl
  have m1:=e1 1 _ rfl
  have m2:=e1 2 _ rfl
  have m3:=e1 3 _ rfl
  have m4:=e1 4 _ rfl
  rw[Ch] at m0 m1 m2 m3 m4
  simp only[Nat.zero_add] at m0 m1 m2 m3 m4
  clear e1
  generalize w.alloc (.cells #[.int .i64 k,.int .i64 a,.int .i64 b,.int .i64 c,.string t] 27)=w1 at *
  rintro e w2 ⟨rfl,hb2⟩
  have k0:=(hb2.cell (p:=⟨w.heap.size,0,none⟩) e3).trans m0
  have k1:=(hb2.cell (p:=⟨w.heap.size,1,none⟩) e3).trans m1
  have k2:=(hb2.cell (p:=⟨w.heap.size,2,none⟩) e3).trans m2
  have k3:=(hb2.cell (p:=⟨w.heap.size,3,none⟩) e3).trans m3
  have k4:=(hb2.cell (p:=⟨w.heap.size,4,none⟩) e3).trans m4
  have HW2:Hid (Below w.heap.size w w2):=hb1.trans (hb2.mono (Nat.le_of_lt e3))
  clear m0 m1 m2 m3 m4 hb1 hb2 HT
  go_wp2_with fail
  refine(AE HP _ HW2.out).mono ?_
  rintro e w' ⟨rfl,hN⟩
  have HN:=AB hN
  clear hN
  go_wp2
  go_ret
  exact⟨rfl,HN.out⟩
 ·subst hk19
  go_enter Tryz.func12,Tryz.ntmps12
  go_wp2_with fail
  refine(AE HT _).mono ?_
  have e1:=fun j u hu=>AH w [.int .i64 19,.int .i64 a,.int .i64 b,.int .i64 c,.string t] 27 j u hu
  have hb1:Below w.heap.size w (w.alloc (.cells #[.int .i64 19,.int .i64 a,.int .i64 b,.int .i64 c,.string t] 27)):=(Below.refl _ _).alloc (Nat.le_refl _) _
  have e3:w.heap.size<(w.alloc (.cells #[.int .i64 19,.int .i64 a,.int .i64 b,.int .i64 c,.string t] 27)).heap.size:=by simp
  have m0:=e1 0 _ rfl
  have m1:=e1 1 _ rfl
  have m2:=e1 2 _ rfl
  have m3:=e1 3 _ rfl
  have m4:=e1 4 _ rfl
  rw[Ch] at m0 m1 m2 m3 m4
  simp only[Nat.zero_add] at m0 m1 m2 m3 m4
  clear e1
  generalize w.alloc (.cells #[.int .i64 19,.int .i64 a,.int .i64 b,.int .i64 c,.string t] 27)=w1 at *
  rintro e w2 ⟨rfl,hb2⟩
  have k0:=(hb2.cell (p:=⟨w.heap.size,0,none⟩) e3).trans m0
  have k1:=(hb2.cell (p:=⟨w.heap.size,1,none⟩) e3).trans m1
  have k2:=(hb2.cell (p:=⟨w.heap.size,2,none⟩) e3).trans m2
  have k3:=(hb2.cell (p:=⟨w.heap.size,3,none⟩) e3).trans m3
  have k4:=(hb2.cell (p:=⟨w.heap.size,4,none⟩) e3).trans m4
  have HW2:Hid (Below w.heap.size w w2):=hb1.trans (hb2.mono (Nat.le_of_lt e3))
  clear m0 m1 m2 m3 m4 hb1 hb2 HT
  go_wp2_with fail
  refine(AE HP _ HW2.out).mono ?_
  rintro e w' ⟨rfl,hN⟩
  have HN:=AB hN
  clear hN
  go_wp2
  go_ret
  exact⟨rfl,HN.out⟩
set_option maxHeartbeats 4000000 in
theorem NY(P:DH)(Wb B n:Nat)(V:WV)(s:St)(ds:List (SX P))(w:World)(o:Cq)(ho:o.Ok)(hio:D9 o.k=false)(hk:o.k=9∨(o.k<14)=False∧(o.k == 19)=false)(h:AX w Wb B n V s ds)(hn:n≤16384)(hx0:V.nx=0) :
  Calls Tryz.prog 12 #[.pointer (some ⟨Wb,0,none⟩),.agg o.cells] w fun e w'=>e=.returned (.bool true)∧MF P (n+1) w w' Wb B:=by
 have hBs:=h.hB
 have HB:Hid (∀ x,Below w.heap.size w (w.alloc x)):=fun x=>(Below.refl _ _).alloc (Nat.le_refl _) x
 have HT:Hid (∀ x,Calls Tryz.prog 14 #[.pointer (some ⟨Wb,0,none⟩),.agg o.cells] (w.alloc x) fun e w'=>e=.returned (.bool false)∧Below (w.alloc x).heap.size (w.alloc x) w'):=by
  intro x
  refine(Dn Wb B n V s (w.alloc x) o ho (h.i.below (HB.out x)) h.b hn).mono ?_
  rintro e w' ⟨rfl,hm⟩
  exact⟨by rw[hio],hm.no hio⟩
 have H:=AB h
 obtain⟨k,a,b,c,t⟩:=o
 simp only[Cq.cells] at *
 clear h ho hio
 rcases hk with rfl | ⟨hk,hk19⟩
 ·go_enter Tryz.func12,Tryz.ntmps12
  go_wp2_with fail
  refine(AE HT _).mono ?_
  have m0:=AH w [.int .i64 9,.int .i64 a,.int .i64 b,.int .i64 c,.string t] 27 0 _ rfl
  have hb1:Below w.heap.size w (w.alloc (.cells #[.int .i64 9,.int .i64 a,.int .i64 b,.int .i64 c,.string t] 27)):=(Below.refl _ _).alloc (Nat.le_refl _) _
  have e3:w.heap.size<(w.alloc (.cells #[.int .i64 9,.int .i64 a,.int .i64 b,.int .i64 c,.string t] 27)).heap.size:=by simp
  rw[Ch] at m0
  simp only[Nat.zero_add] at m0
  generalize w.alloc (.cells #[.int .i64 9,.int .i64 a,.int .i64 b,.int .i64 c,.string t] 27)=w1 at *
  rintro e w2 ⟨rfl,hb2⟩
  have k0:=(hb2.cell (p:=⟨w.heap.size,0,none⟩) e3).trans m0
  have hbw:Below w.heap.size w w2:=hb1.trans (hb2.mono (Nat.le_of_lt e3))
  have HW2:=AB hbw
  have k3:w2.cell? ⟨Wb,3,none⟩=some (.slice V.ax 0 V.cx):=((H.out.i.below hbw).blk.cell 3).trans (by simp only[WV.cells,WV.vx,hx0];rfl)
  clear m0 hb1 hb2 HT hbw
  go_wp2
  go_ret
  exact⟨rfl,V,s,ds,(H.out.below HW2.out).on,HW2.out.mono hBs⟩
 ·have hk14:¬ k<14:=by simp[hk]
  clear hk
  go_enter Tryz.func12,Tryz.ntmps12
  go_wp2_with fail
  refine(AE HT _).mono ?_
  have m0:=AH w [.int .i64 k,.int .i64 a,.int .i64 b,.int .i64 c,.string t] 27 0 _ rfl
  have hb1:Below w.heap.size w (w.alloc (.cells #[.int .i64 k,.int .i64 a,.int .i64 b,.int .i64 c,.string t] 27)):=(Below.refl _ _).alloc (Nat.le_refl _) _
  have e3:w.heap.size<(w.alloc (.cells #[.int .i64 k,.int .i64 a,.int .i64 b,.int .i64 c,.string t] 27)).heap.size:=by simp
  rw[Ch] at m0
  simp only[Nat.zero_add] at m0
  generalize w.alloc (.cells #[.int .i64 k,.int .i64 a,.int .i64 b,.int .i64 c,.string t] 27)=w1 at *
  rintro e w2 ⟨rfl,hb2⟩
  have k0:=(hb2.cell (p:=⟨w.heap.size,0,none⟩) e3).trans m0
  have hbw:Below w.heap.size w w2:=hb1.trans (hb2.mono (Nat.le_of_lt e3))
  have HW2:=AB hbw
  have k3:w2.cell? ⟨Wb,3,none⟩=some (.slice V.ax 0 V.cx):=((H.out.i.below hbw).blk.cell 3).trans (by simp only[WV.cells,WV.vx,hx0];rfl)
  clear m0 hb1 hb2 HT hbw
  go_wp2
  go_ret
  exact⟨rfl,V,s,ds,(H.out.below HW2.out).on,HW2.out.mono hBs⟩
def OV(k:Int):Prop:=k<14∨k=14∨k=15∨k=16∨k=17∨k=18∨k=19∨k=20
theorem dX(P:DH)(Wb B n:Nat)(V:WV)(s:St)(ds:List (SX P))(w:World)(o:Cq)(ho:o.Ok)(hk:OV o.k)(h:AX w Wb B n V s ds)(hn:n≤16384)(h0:0<B)(htab:Hid (Fx w)) :
  Calls Tryz.prog 12 #[.pointer (some ⟨Wb,0,none⟩),.agg o.cells] w fun e w'=>e=.returned (.bool true)∧MF P (n+1) w w' Wb B:=by
 cases hio:D9 o.k with
 | true =>
  refine(Zm Wb B n V s w o ho hio h.i h.b hn).mono ?_
  rintro e w' ⟨rfl,hN⟩
  exact⟨rfl,h.nxt hN⟩
 | false =>
  by_cases h9:o.k=9
  ·by_cases hp:0<ds.length
   ·exact bY P Wb B n V s ds w o ho h9 h hn hp
   ·exact NY P Wb B n V s ds w o ho hio (.inl h9) h hn (by rw[h.nx];omega)
  ·by_cases h14:o.k<14∨o.k=19
   ·exact UM P Wb B n V s ds w o ho hio h14 (by simpa using h9) h hn h0 htab
   ·by_cases hp:0<ds.length
    ·rcases hk with hk | hk | hk | hk | hk | hk | hk | hk
     ·omega
     ·exact Zg P Wb B n V s ds w o ho hk h hn hp
     ·exact Zh P Wb B n V s ds w o ho hk h hn hp
     ·exact Zi P Wb B n V s ds w o ho hk h hn hp
     ·exact Zj P Wb B n V s ds w o ho hk h hn hp h0 htab
     ·exact Zk P Wb B n V s ds w o ho hk h hn hp h0 htab
     ·omega
     ·exact Zl P Wb B n V s ds w o ho hk h hn hp
    ·refine NY P Wb B n V s ds w o ho hio (.inr ⟨by simp;omega,by simp;omega⟩) h hn (by rw[h.nx];omega)
theorem cO(P:DH)(w:World):AX (P:=P) (w.alloc (.cells #[.slice none 0 0,.slice none 0 0,.slice none 0 0,.slice none 0 0,.slice none 0 0,.slice none 0 0,.int .i64 0] 34)) w.heap.size w.heap.size 0 V0 s0 [] :=
 ⟨dF w,cQ,rfl,fun j d h=>by simp at h,fun j d h=>by simp at h,fun j d h=>by simp at h,fun j k d d' h=>by simp at h,fun j d h=>by simp at h,Nat.le_refl _⟩
set_option maxHeartbeats 4000000 in
theorem dh(P:DH)(a:Option Addr)(c:Nat)(ops:List Cq)(w:World)(h:Gb w a ops)(hlen:ops.length≤16384)(hok:Hid (∀ o∈ops,o.Ok∧OV o.k))(h0:0<w.heap.size)(htab:Hid (Fx w)) :
  Calls Tryz.prog 11 #[.slice a ops.length c] w fun e w'=>e=.returned (.int .i64 (-1))∧Below w.heap.size w w':=by
 have HW:=AB (cO P w)
 have HB:Hid (∀ x,Below w.heap.size w (w.alloc x)):=fun x=>(Below.refl _ _).alloc (Nat.le_refl _) x
 have H:=AB h
 clear h
 go_enter Tryz.func11,Tryz.ntmps11
 go_wp2
 go_loopw [4] (fun i wr=>∃ (k:Nat) (V:WV) (s:St) (ds:List (SX P)),k≤ops.length∧i=.int .i64 k∧Hid (AX wr w.heap.size w.heap.size k V s ds)∧Hid (Below w.heap.size w wr)) (fun i _=>ops.length - (intOf i).toNat)
 case atStart=>exact⟨0,V0,s0,[],Nat.zero_le _,rfl,HW,HB.out _⟩
 case round =>
  clear HW
  obtain⟨k,V,s,ds,hk,rfl,HI,HL⟩:=hrel
  by_cases hlt:k<ops.length
  ·have hmem:ops.getD k VD∈ops:=by rw[List.getD_eq_getElem?_getD,List.getElem?_eq_getElem hlt];exact List.getElem_mem hlt
   obtain⟨o1,o2⟩:=hok.out _ hmem
   obtain⟨b,off,rfl,hc⟩:=(H.out.below HL.out).get (by omega)
   have c0:=hc k hlt 0 _ rfl
   have c1:=hc k hlt 1 _ rfl
   have c2:=hc k hlt 2 _ rfl
   have c3:=hc k hlt 3 _ rfl
   have c4:=hc k hlt 4 _ rfl
   clear hc hmem
   generalize ops.getD k VD=o at *
   have HS:=AB (dX P w.heap.size w.heap.size k V s ds wr o o1 o2 HI.out (by omega) h0 (Fx.below htab.out HL.out h0))
   obtain⟨ok,oa,ob,oc,os⟩:=o
   simp only[Cq.cells,Nat.add_zero] at *
   clear o1 o2
   go_wp2_with fail
   refine(AE HS).mono ?_
   rintro e w1 ⟨rfl,V',s',ds',i1,i3⟩
   have HI1:=AB i1
   have HL1:=AB (HL.out.trans i3)
   have LK:=AB (WT w.heap.size w.heap.size (k+1) V' s' w1 i1.i i1.b (by omega))
   clear i1 i3 HS c0 c1 c2 c3 c4 HI HL
   go_wp2_with fail
   refine(AE LK).mono ?_
   rintro e w2 ⟨rfl,m,hw⟩
   have HI2:Hid (AX w2 w.heap.size w.heap.size (k+1) V' s' ds'):=by rw[hw];exact HI1.out.below (Ef _ _)
   have HL2:Hid (Below w.heap.size w w2):=by rw[hw];exact below_drewN HL1.out _
   clear hw LK HI1 HL1
   go_wp2
   go_roundw
   case rel=>exact⟨k+1,V',s',ds',by omega,by go_num,HI2,HL2⟩
   case measure=>simp[intOf];omega
  ·obtain rfl:k=ops.length:=by omega
   go_wp2
   go_ret
   exact⟨rfl,HL.out⟩
theorem Tryz.infoOp:(Tryz.prog.info? 27).map (fun i=>(i.zero,i.size,i.bytes))=some (some (.agg #[.int .i64 0,.int .i64 0,.int .i64 0,.int .i64 0,.string ByteArray.empty]),5,48):=by kernel_rfl
theorem Tryz.undOps:Tryz.prog.underlying 22=some (.slice 27):=by kernel_rfl
def FB(l:List Cq):List Value:=l.flatMap fun o=>o.cells.toList
theorem Rb(l:List Cq)(j:Nat)(hj:j<l.length)(i:Nat)(v:Value)(hv:(l.getD j VD).cells[i]?=some v):(FB l)[j*5+i]?=some v:=by
 induction l generalizing j with
 | nil=>simp at hj
 | cons o l ih =>
  have hc:o.cells.toList.length=5:=rfl
  simp only[FB,List.flatMap_cons]
  cases j with
  | zero =>
   have hi:i<5:=by
    have:=(Array.getElem?_eq_some_iff.1 hv).1
    simpa [Cq.cells] using this
   rw[List.getElem?_append_left (by omega)]
   simp only[List.getD_cons_zero] at hv
   simpa using hv
  | succ j =>
   rw[List.getElem?_append_right (by omega)]
   have:=ih j (by simpa using hj) (by simpa using hv)
   have e:(j+1)*5+i - o.cells.toList.length=j*5+i:=by omega
   rw[e]
   exact this
theorem N6(l:List Cq)(o:Cq):FB l++o.cells.toList=FB (l++[o]):=by simp[FB]
theorem bH{w:World}{B n c:Nat}{a:Option Addr}{l:List Cq}(h:w.ownsRow B 27 5 (.slice a n c) l.length (FB l)):Gb w a l:=by
 rcases h.2 with⟨_,h0⟩ | ⟨g,cap,cur,hv,_⟩
 ·exact .inl (List.eq_nil_of_length_eq_zero h0)
 ·simp only[Value.slice.injEq] at hv
  obtain⟨rfl,_,rfl⟩:=hv
  refine .inr ⟨g,0,rfl,fun j hj i v hv=>?_⟩
  have h4:=h.cells (g:=g) rfl (j*5+i) v (Rb l j hj i v hv)
  rw[Ch] at h4
  rw[Nat.add_assoc]
  exact h4
theorem Wn{w:World}{B e n size:Nat}{v:Value}{xs:List Value}(h:w.ownsRow B e size v n xs):∃ a c,v=.slice a n c:=by
 rcases h.2 with⟨rfl,h0⟩ | ⟨g,cap,cur,rfl,_⟩
 ·exact⟨none,0,by rw[h0]⟩
 ·exact⟨_,_,rfl⟩
def YH(kinds:List Int)(k:Int):Bool:=decide (k<10) || kinds.any fun x=>k == x
theorem Xm(kinds:List Int)(k:Int)(m:Nat)(h:m<kinds.length):((kinds.take (m+1)).any fun x=>k == x)=(((kinds.take m).any fun x=>k == x) || k == kinds.getD m 0):=by
 rw[List.take_succ_eq_append_getElem h,List.any_append,List.getD_eq_getElem?_getD,List.getElem?_eq_getElem h]
 simp
theorem Qf(ops:List Cq)(f:Cq→Bool)(k:Nat)(h:k<ops.length):(ops.take (k+1)).filter f=(ops.take k).filter f++(if f (ops.getD k VD) then [ops.getD k VD] else []):=by
 rw[List.take_succ_eq_append_getElem h,List.filter_append,List.getD_eq_getElem?_getD,List.getElem?_eq_getElem h]
 simp[List.filter_cons]
set_option maxHeartbeats 4000000 in
theorem Wq(a ka:Option Addr)(c kc:Nat)(ops:List Cq)(kinds:List Int)(w:World)(h:Gb w a ops)(hlen:ops.length≤9223372036854775807)(hs:Hid (∀ o∈ops,o.s.size≤4611686018427387904))(hkd:AS w ka kinds)(hkl:kinds.length≤100)
  (hup:Hid (∀ (a':Option Addr) (c':Nat) (w':World),Fb ops=true→Below w.heap.size w w'→Gb w' a' (ops.filter fun o=>YH kinds o.k)→Calls Tryz.prog 11 #[.slice a' (ops.filter fun o=>YH kinds o.k).length c'] w' fun e w''=>e=.returned (.int .i64 (-1))∧Below w'.heap.size w' w'')) :
  Calls Tryz.prog 9 #[.slice a ops.length c,.slice ka kinds.length kc] w fun e w'=>e=.returned (.bool true)∧Below w.heap.size w w':=by
 obtain⟨i0,hi,hz0,hz1,hz2⟩:=info_parts Tryz.infoOp
 have HS:=AB (W8 a c ops w h hlen hs)
 have H:=AB h
 have HK:=AB hkd
 clear h hkd
 by_cases hsm:Fb ops=true
 ·have HSM:=AB hsm
  rw[hsm] at HS
  have hl2:ops.length≤16384:=by simp[Fb] at hsm;omega
  clear hsm
  go_enter Tryz.func9,Tryz.ntmps9
  go_wp2_with (go_at_call 10;refine(AE HS).mono ?_;rintro e w' ⟨rfl,hw⟩;obtain rfl:=hw.symm)
  go_loopw [6,7] (fun l i wr=>∃ (k:Nat) (al:Option Addr) (cl:Nat) (ls:List Cq),k≤ops.length∧i=.int .i64 k∧l=.slice al ls.length cl∧ls.length≤k∧Hid (wr.ownsRow w.heap.size 27 5 (.slice al ls.length cl) ls.length (FB ls))∧Hid (Below w.heap.size w wr)∧Hid (ls=(ops.take k).filter fun o=>YH kinds o.k)) (fun _ i _=>ops.length - (intOf i).toNat)
  case atStart=>exact⟨0,none,0,[],Nat.zero_le _,rfl,rfl,Nat.le_refl _,⟨rfl,.inl ⟨rfl,rfl⟩⟩,Below.refl _ _,by show _=_;simp⟩
  case round =>
   obtain⟨k,al,cl,ls,hk,rfl,rfl,hlk,HO,HL,HF⟩:=hrel
   by_cases hlt:k<ops.length
   ·obtain⟨b,off,rfl,hc⟩:=(H.out.below HL.out).get (by omega)
    have c0:=hc k hlt 0 _ rfl
    have c1:=hc k hlt 1 _ rfl
    have c2:=hc k hlt 2 _ rfl
    have c3:=hc k hlt 3 _ rfl
    have c4:=hc k hlt 4 _ rfl
    clear hc
    have hft:=Qf ops (fun o=>YH kinds o.k) k hlt
    generalize ops.getD k VD=o at *
    obtain⟨ok,oa,ob,oc,os⟩:=o
    simp only[Cq.cells,Nat.add_zero] at *
    have HFT:=AB hft
    clear hft
    go_wp2
    go_loop [9,10] (fun x j=>∃ m:Nat,m≤kinds.length∧j=.int .i64 m∧x=.bool (decide (ok<10) || (kinds.take m).any fun x=>ok == x)) (fun _ j=>kinds.length - (intOf j).toNat)
    case atStart=>exact⟨0,Nat.zero_le _,rfl,by simp⟩
    case round =>
     obtain⟨m,hm,rfl,rfl⟩:=hrel
     by_cases hml:m<kinds.length
     ·obtain⟨kb,koff,rfl,hkc⟩:=(HK.out.below HL.out).get (by omega)
      have kc:=hkc m hml
      have ha:=Xm kinds ok m hml
      have HA:Hid ((decide (ok<10) || (kinds.take (m+1)).any fun x=>ok == x)=((decide (ok<10) || (kinds.take m).any fun x=>ok == x) || ok == kinds.getD m 0)):=by show _=_;rw[ha,Bool.or_assoc]
      clear hkc ha
      generalize (decide (ok<10) || (kinds.take m).any fun x=>ok == x)=x at *
      generalize kinds.getD m 0=y at *
      have q1:(0:Int)≤(m:Int):=by omega
      have q2:(m:Int)<(kinds.length:Int):=by omega
      cases x with
      | true =>
       go_wp2
       go_round
       case rel=>exact⟨m+1,by omega,by go_num,by rw[HA.out];rfl⟩
       case measure=>simp[intOf];omega
      | false =>
       go_wp2
       go_round
       case rel=>exact⟨m+1,by omega,by go_num,by rw[HA.out];rfl⟩
       case measure=>simp[intOf];omega
     ·obtain rfl:m=kinds.length:=by omega
      rw[List.take_length]
      have hin:(decide (ok<10) || kinds.any fun x=>ok == x)=YH kinds ok:=rfl
      rw[hin]
      cases hik:YH kinds ok with
      | true =>
       rw[hik] at HFT
       have d1:Hid (ls.length+1≤maxLen):=by show _≤_;unfold maxLen;omega
       have d2:Hid ((ls.length+1)*48≤140737488355328):=by show _≤_;omega
       have hsz:w.heap.size≤wr.heap.size:=HL.out.size
       go_wp2_with (first
        | (at_builtin;refine wpList_append_own _ rfl (.tmp 44) (.tmp 49) 22 rfl w.heap.size 27 i0 (.agg #[.int .i64 0,.int .i64 0,.int .i64 0,.int .i64 0,.string ByteArray.empty]) 5 48 Tryz.undOps hi hz0 hz1 hz2 rfl (by decide) (.slice al ls.length cl) ls.length (FB ls) rfl (HO.out.alloc _) ⟨wr.heap.size,0,none⟩ 1 1 [.int .i64 ok,.int .i64 oa,.int .i64 ob,.int .i64 oc,.string os] rfl rfl (AH wr [.int .i64 ok,.int .i64 oa,.int .i64 ob,.int .i64 oc,.string os] 27) (by intro u hu;simp at hu;rcases hu with rfl|rfl|rfl|rfl|rfl <;> rfl) d1.out d2.out (by simp;omega) ?_;intro v3 w3 hown3 hg3 _;
              obtain⟨a3,c3,rfl⟩:=Wn hown3;
              have HO3:Hid (w3.ownsRow w.heap.size 27 5 (.slice a3 (ls.length+1) c3) (ls.length+1) (FB (ls++[⟨ok,oa,ob,oc,os⟩]))):=(N6 ls ⟨ok,oa,ob,oc,os⟩) ▸ hown3;
              have HL3:Hid (Below w.heap.size w w3):=(HL.out.alloc hsz _).grown hg3 (by simp;omega) (fun j hj=>(HO.out.lt j hj).1);
              clear hown3 hg3))
       go_roundw
       case rel=>exact⟨k+1,a3,c3,ls++[⟨ok,oa,ob,oc,os⟩],by omega,by go_num,by rw[List.length_append];rfl,by rw[List.length_append];simp;omega,by rw[List.length_append];exact HO3,HL3,by show _=_;rw[HFT.out,← HF.out];simp⟩
       case measure=>simp[intOf];omega
      | false =>
       rw[hik] at HFT
       go_wp2
       go_roundw
       case rel=>exact⟨k+1,al,cl,ls,by omega,by go_num,rfl,by omega,HO,HL,by show _=_;rw[HFT.out,← HF.out];simp⟩
       case measure=>simp[intOf];omega
   ·obtain rfl:k=ops.length:=by omega
    have hff:ls=ops.filter fun o=>YH kinds o.k:=by
     have:=HF.out
     rwa [List.take_length] at this
    have HU:=AB (hup.out al cl wr HSM.out HL.out (hff ▸ bH HO.out))
    rw[← hff] at HU
    clear hff
    go_wp2_with fail
    refine(AE HU).mono ?_
    rintro e w2 ⟨rfl,hb2⟩
    have HZ:Hid (Below w.heap.size w w2):=HL.out.trans (hb2.mono HL.out.size)
    clear hb2
    go_wp2
    go_ret
    exact⟨rfl,HZ.out⟩
 ·have hsm':Fb ops=false:=by simpa using hsm
  rw[hsm'] at HS
  go_enter Tryz.func9,Tryz.ntmps9
  go_wp2_with (go_at_call 10;refine(AE HS).mono ?_;rintro e w' ⟨rfl,hw⟩;obtain rfl:=hw.symm)
  go_ret
  exact⟨rfl,Below.refl _ _⟩
theorem Rx{ops:List Cq}(h:Fb ops=true):ops.length≤16384∧∀ o∈ops,o.s.size≤16384:=by
 simp only[Fb,decide_eq_true_eq] at h
 exact⟨by omega,fun o ho=>by have:=QQ ho;omega⟩
theorem cS{k:Int}(h:YH [12,14,15,16,20,17,19] k=true):OV k:=by
 simp only[YH,List.any_cons,List.any_nil,Bool.or_false,Bool.or_eq_true,decide_eq_true_eq,beq_iff_eq] at h
 unfold OV
 omega
theorem aW{k:Int}(h:YH [10,11,12,13,14,15,16,20,17,18,19] k=true):OV k:=by
 simp only[YH,List.any_cons,List.any_nil,Bool.or_false,Bool.or_eq_true,decide_eq_true_eq,beq_iff_eq] at h
 unfold OV
 omega
set_option maxHeartbeats 2000000 in
theorem Xk(P:DH)(a:Option Addr)(c:Nat)(ops:List Cq)(w:World)(h:Gb w a ops)(hlen:ops.length≤9223372036854775807)(hs:∀ o∈ops,o.s.size≤4611686018427387904)
  (hr:∀ o∈ops,(-9223372036854775808≤o.a∧o.a≤9223372036854775807)∧(-9223372036854775808≤o.b∧o.b≤9223372036854775807)) (h0:0<w.heap.size) (htab:Fx w) :
  Calls Tryz.prog 8 #[.slice a ops.length c] w fun e w'=>e=.returned (.bool true)∧Below w.heap.size w w':=by
 have hb:Below w.heap.size w (w.alloc (.cells #[.int .i64 10,.int .i64 11,.int .i64 12,.int .i64 13,.int .i64 14,.int .i64 15,.int .i64 16,.int .i64 20,.int .i64 17,.int .i64 18,.int .i64 19] 3)):=(Below.refl _ _).alloc (Nat.le_refl _) _
 have hki:AS (w.alloc (.cells #[.int .i64 10,.int .i64 11,.int .i64 12,.int .i64 13,.int .i64 14,.int .i64 15,.int .i64 16,.int .i64 20,.int .i64 17,.int .i64 18,.int .i64 19] 3)) (some ⟨w.heap.size,0,none⟩) [10,11,12,13,14,15,16,20,17,18,19]:=by
  refine .inr ⟨w.heap.size,0,rfl,fun j hj=>?_⟩
  have:=AH w [.int .i64 10,.int .i64 11,.int .i64 12,.int .i64 13,.int .i64 14,.int .i64 15,.int .i64 16,.int .i64 20,.int .i64 17,.int .i64 18,.int .i64 19] 3 j (.int .i64 (([10,11,12,13,14,15,16,20,17,18,19]:List Int).getD j 0)) (by
   have:j=0∨j=1∨j=2∨j=3∨j=4∨j=5∨j=6∨j=7∨j=8∨j=9∨j=10:=by simp at hj;omega
   rcases this with rfl|rfl|rfl|rfl|rfl|rfl|rfl|rfl|rfl|rfl|rfl <;> rfl)
  rwa [Ch] at this
 have HP:=AB (Wq a (some ⟨w.heap.size,0,none⟩) c 11 ops [10,11,12,13,14,15,16,20,17,18,19] (w.alloc (.cells #[.int .i64 10,.int .i64 11,.int .i64 12,.int .i64 13,.int .i64 14,.int .i64 15,.int .i64 16,.int .i64 20,.int .i64 17,.int .i64 18,.int .i64 19] 3)) (h.below hb) hlen hs hki (by simp) (by
  intro a' c' w' hsm hb' hops
  obtain⟨p1,p2⟩:=Rx hsm
  refine dh P a' c' _ w' hops (Nat.le_trans (List.length_filter_le _ _) p1) (fun o ho=>?_) (Nat.lt_of_lt_of_le (by simp) hb'.size) (Fx.below (Fx.below htab hb h0) hb' (by simp))
  obtain⟨m1,m2⟩:=List.mem_filter.1 ho
  exact⟨⟨(hr o m1).1,(hr o m1).2,p2 o m1⟩,aW m2⟩))
 have HB:=AB hb
 clear hb hki h hs hr
 go_enter Tryz.func8,Tryz.ntmps8
 go_wp2_with fail
 refine(AE HP).mono ?_
 rintro e w' ⟨rfl,hb'⟩
 have HZ:Hid (Below w.heap.size w w'):=HB.out.trans (hb'.mono HB.out.size)
 clear hb'
 go_wp2
 go_ret
 exact⟨rfl,HZ.out⟩
open Go.ChangeShapes Go.WideShapes Go.ChangeAt Go.RowKit Go.Deep
theorem QA:Tryz.prog.underlying 3=some (.int .i64):=by kernel_rfl
theorem P9:Tryz.prog.underlying 4=some .bool:=by kernel_rfl
theorem Xr:Tryz.prog.cellsOf 3=1:=by kernel_rfl
theorem Xs:Tryz.prog.cellsOf 9=1:=by kernel_rfl
theorem Ur:Tryz.prog.cellsOf 27=5:=by kernel_rfl
def VI(d:TypeDesc):List (Nat × Nat):=match d with | .struct fs=>fs.toList.map (fun f=>(f.type,f.offset)) | _=>[]
def Kw:List (Nat × Nat):=[(3,0),(3,1),(3,2),(3,3),(9,4)]
theorem bI:(Tryz.prog.underlying 27).map VI=some Kw:=by kernel_rfl
theorem SJ:∃ fs:Array Field,Tryz.prog.underlying 27=some (.struct fs)∧fs.toList.map (fun f=>(f.type,f.offset))=Kw:=by
 have h:=bI
 cases hu:Tryz.prog.underlying 27 with
 | none=>rw[hu] at h;simp at h
 | some d =>
  rw[hu] at h
  simp only[Option.map_some,Option.some.injEq] at h
  cases d with
  | struct fs=>exact⟨fs,rfl,h⟩
  | _=>simp[VI,Kw] at h
def Cq.datum{H:Type}(o:Cq):DataW H:=.agg [.lit (.int .i64 o.k),.lit (.int .i64 o.a),.lit (.int .i64 o.b),.lit (.int .i64 o.c),.lit (.string o.s.data.toList)]
theorem dj{n:Int}(h:(Lit.int .i64 n).wf=true):-9223372036854775808≤n∧n≤9223372036854775807:=(Lit.wf_int_iff .i64 n).1 h
theorem bE{H:Type}{enc:TypeId × Value→H}{w:World}{base:Nat}{spare:Nat→Bool}{held:Bool}{fuel:Nat}{cs:List Value}{x:DataW H × List MemPlace}(h:DataW.trod enc Tryz.prog w base spare held fuel 27 cs=some x) :
  ∃ o:Cq,cs=o.cells.toList∧x.1=o.datum∧(-9223372036854775808≤o.a∧o.a≤9223372036854775807)∧(-9223372036854775808≤o.b∧o.b≤9223372036854775807):=by
 obtain⟨fs,hu,hp⟩:=SJ
 obtain⟨xs,n,_,rfl,hl,hxl,hf⟩:=DataW.trod_struct hu h
 rw[Ur] at hl
 have hsz:fs.size=5:=by have:=congrArg List.length hp;simpa [Kw] using this
 rw[hsz] at hxl
 have hat:∀ (i t off:Nat),Kw[i]?=some (t,off)→DataW.trod enc Tryz.prog w base spare held n t ((cs.drop off).take (Tryz.prog.cellsOf t))=xs[i]?:=by
  intro i t off hi
  rw[← hp,List.getElem?_map,Array.getElem?_toList] at hi
  obtain⟨f,hf1,hf2⟩:=Option.map_eq_some_iff.1 hi
  simp only[Prod.mk.injEq] at hf2
  obtain⟨rfl,rfl⟩:=hf2
  exact hf i f hf1
 match cs,hl,xs,hxl with
 | [c0,c1,c2,c3,c4],_,[x0,x1,x2,x3,x4],_ =>
  have g0:=hat 0 _ _ rfl
  have g1:=hat 1 _ _ rfl
  have g2:=hat 2 _ _ rfl
  have g3:=hat 3 _ _ rfl
  have g4:=hat 4 _ _ rfl
  rw[Xr] at g0 g1 g2 g3
  rw[Xs] at g4
  simp only[List.drop_zero,List.drop_succ_cons,List.take_succ_cons,List.take_zero,List.getElem?_cons_zero,List.getElem?_cons_succ] at g0 g1 g2 g3 g4
  obtain⟨n0,e0,y0,_⟩:=DataW.trod_int QA g0
  obtain⟨n1,e1,y1,r1⟩:=DataW.trod_int QA g1
  obtain⟨n2,e2,y2,r2⟩:=DataW.trod_int QA g2
  obtain⟨n3,e3,y3,_⟩:=DataW.trod_int QA g3
  obtain⟨s4,e4,y4,_⟩:=DataW.trod_string Tryz.undString g4
  simp only[List.cons.injEq,and_true] at e0 e1 e2 e3 e4
  subst e0 e1 e2 e3 e4 y0 y1 y2 y3 y4
  exact⟨⟨n0,n1,n2,n3,s4⟩,rfl,rfl,dj r1,dj r2⟩
theorem Se{H:Type}{P:Program}{e:TypeId}{l:List (DataW H)}{d:DataW H}(hd:d∈l){n:Nat}(hn:n∈d.weights P e):n∈DataW.weightsAll P e l:=by
 induction l with
 | nil=>simp at hd
 | cons x l ih =>
  simp only[DataW.weightsAll,List.mem_append]
  rcases List.mem_cons.1 hd with rfl | hd
  ·exact .inl hn
  ·exact .inr (ih hd)
theorem Wk{H:Type}(o:Cq):o.s.size∈(o.datum:DataW H).weights Tryz.prog 27:=by
 obtain⟨fs,hu,hp⟩:=SJ
 simp only[Cq.datum,DataW.weights,hu]
 have ht:(fs.toList.map (·.type))[4]?=some 9:=by
  have h1:fs.toList.map (·.type)=(fs.toList.map (fun f=>(f.type,f.offset))).map (·.1):=by simp
  rw[h1,hp]
  rfl
 exact DataW.weights_mem_each (j:=4) ht rfl _ (by simp[DataW.weights])
theorem NJ{H:Type}{enc:TypeId × Value→H}{w:World}{held:Bool}{fuel:Nat}{a0:Option Addr}{len cap:Nat}{d:DataW H}{p:List MemPlace}(h:DataW.trod enc Tryz.prog w 0 (fun _=>true) held fuel 22 [.slice a0 len cap]=some (d,p))
  (hz:∀ n∈d.weights Tryz.prog 22,n≤reachBytes) :
  ∃ ops:List Cq,ops.length=len∧Gb w a0 ops∧len≤9223372036854775807∧(∀ o∈ops,o.s.size≤4611686018427387904)∧∀ o∈ops,(-9223372036854775808≤o.a∧o.a≤9223372036854775807)∧(-9223372036854775808≤o.b∧o.b≤9223372036854775807):=by
 rcases open_slice Tryz.undOps h with⟨hcs,_⟩ | ⟨a,len',cap',m,n,D,Pl,hcs,_,hl,hm,hmm,hx0,hx⟩
 ·simp only[List.cons.injEq,Value.slice.injEq,and_true] at hcs
  obtain⟨rfl,rfl,rfl⟩:=hcs
  exact⟨[],rfl,.inl rfl,by simp,fun o ho=>by simp at ho,fun o ho=>by simp at ho⟩
 ·simp only[List.cons.injEq,Value.slice.injEq,and_true] at hcs
  obtain⟨rfl,rfl,rfl⟩:=hcs
  simp only[if_true] at hmm
  subst hmm
  simp only[Prod.mk.injEq] at hx0
  obtain⟨rfl,_⟩:=hx0
  rw[Ur] at hx
  have each:∀ i,i<len→∃ o:Cq,(∀ j v,o.cells[j]?=some v→w.cell? (a.add (i*5+j))=some v)∧D i=o.datum∧(-9223372036854775808≤o.a∧o.a≤9223372036854775807)∧(-9223372036854775808≤o.b∧o.b≤9223372036854775807):=by
   intro i hi
   obtain⟨cs',h1,h2⟩:=hx i (by omega)
   obtain⟨_,hlen,hcell⟩:=World.cells?_some h1
   obtain⟨o,rfl,hd,hr1,hr2⟩:=bE h2
   refine⟨o,fun j v hv=>?_,hd,hr1,hr2⟩
   have hj:j<5:=by
    have:=(Array.getElem?_eq_some_iff.1 hv).1
    simpa [Cq.cells] using this
   have:=hcell j hj
   rw[add_add] at this
   rw[this]
   simpa using hv
  have:Inhabited Cq:=⟨VD⟩
  obtain⟨f,hf⟩:=choose_lt each
  have el:((List.range len).map f).length=len:=by simp
  have eg:∀ i,i<len→((List.range len).map f).getD i VD=f i:=fun i hi=>by simp[List.getD,hi]
  refine⟨(List.range len).map f,el,?_,by unfold maxLen at hm;omega,?_,?_⟩
  ·by_cases h0:len=0
   ·subst h0;exact .inl rfl
   obtain⟨b,off,spot⟩:=a
   have hspot:spot=none:=by
    have:=World.cell?_spot ((hf 0 (by omega)).1 0 _ rfl)
    simpa [Addr.add] using this
   subst hspot
   refine .inr ⟨b,off,rfl,fun j hj i v hv=>?_⟩
   rw[el] at hj
   rw[eg j hj] at hv
   have:=(hf j hj).1 i v hv
   rw[add_plain] at this
   rw[Nat.add_assoc]
   exact this
  ·intro o ho
   obtain⟨i,hi,rfl⟩:=List.mem_map.1 ho
   have hi':i<len:=by simpa using hi
   have hw:(f i).s.size∈(DataW.slice ((List.range len).map D) ((List.range (m - len)).map fun j=>D (len+j))).weights Tryz.prog 22:=by
    simp only[DataW.weights,Tryz.undOps]
    refine List.mem_cons_of_mem _ (List.mem_append_left _ (Se (d:=D i) (List.mem_map.2 ⟨i,hi,rfl⟩) ?_))
    rw[(hf i hi').2.1]
    exact Wk _
   have:=hz _ hw
   have hr:reachBytes<2^47:=by decide
   omega
  ·intro o ho
   obtain⟨i,hi,rfl⟩:=List.mem_map.1 ho
   have hi':i<len:=by simpa using hi
   exact(hf i hi').2.2
end Go.Proofs.YthboeppmlhbofaaGreatDoor
