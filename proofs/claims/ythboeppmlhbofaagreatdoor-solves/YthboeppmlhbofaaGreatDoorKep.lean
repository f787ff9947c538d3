import Derived.Test.YthboeppmlhbofaaGreatDoorApp
import Derived.Test.YthboeppmlhbofaaGreatDoorLtx
import Derived.Deep.RegionLaw
namespace Go.Proofs.YthboeppmlhbofaaGreatDoor
open Go.RowKit Txt
set_option maxRecDepth 100000
theorem WI.touch{w w':World}{Wb B:Nat}{V:WV}{s:St}(h:WI w Wb B V s){u:Value}{n:Nat}{zs:List Value}(hu:w.ownsRow B 3 1 u n zs)(hg:w.grownBy w' u.ownBlock)
  (f0:Af u (V.vl s)) (fc:∀ v∈V.vcs,Af v u) (fo:∀ v∈V.vos,Af v u) (fw:∀ v∈V.vws,Af v u):WI w' Wb B V s :=
 ⟨B8 h.blk hu Bm hg,h.base,Aj h.list hg f0.symm,Aj h.clt hg (AL Fq.symm h.clt hu),h.cle.map (fun v hv _ _ hh=>Aj hh hg (fc v hv)),Aj h.tx hg (AL WZ.symm h.tx hu),
  Aj h.xs hg (AL Wa.symm h.xs hu),Aj h.ot hg (AL Fq.symm h.ot hu),h.oe.map (fun v hv _ _ hh=>Aj hh hg (fo v hv)),Aj h.wt hg (AL Fq.symm h.wt hu),h.we.map (fun v hv _ _ hh=>Aj hh hg (fw v hv)),
  h.a1,h.a2,h.a3,h.b1,h.b2,h.b3⟩
structure Ev(w:World)(B:Nat)(V:WV)(s:St)(tp:Value)(n:Nat)(vs:List Value)(us:List Value)(cs:List (List Int)):Prop where
 top:w.ownsRow B 24 1 tp n vs
 each:Aq w B 3 us cs
 pw:us.Pairwise Af
 t1:Af tp (V.vo s)
 t2:Af tp (V.vw s)
 f0:∀ u∈us,Af u (V.vl s)
 fc:∀ u∈us,∀ v∈V.vcs,Af v u
 fo:∀ u∈us,∀ v∈V.vos,Af v u
 fw:∀ u∈us,∀ v∈V.vws,Af v u
theorem Ev.setMark{w:World}{B Wb:Nat}{V:WV}{s:St}{top:Value}{n:Nat}{vs us:List Value}{cs:List (List Int)}(h:Ev w B V s top n vs us cs)(hi:WI w Wb B V s)(m:Int):Ev (w.setCell ⟨Wb,6,none⟩ (.int .i64 m)) B V { s with mark:=m } top n vs us cs :=
 ⟨Cl hi.blk 6 _ By h.top,h.each.map (fun _ _ _ _ hh=>Cl hi.blk 6 _ Bm hh),h.pw,h.t1,h.t2,h.f0,h.fc,h.fo,h.fw⟩
theorem Ev.touch{w w':World}{B:Nat}{V:WV}{s:St}{top:Value}{n:Nat}{vs us:List Value}{cs:List (List Int)}(h:Ev w B V s top n vs us cs){u:Value}{k:Nat}{zs:List Value}(hu:w.ownsRow B 3 1 u k zs)(hg:w.grownBy w' u.ownBlock)(hap:∀ v∈us,Af v u):Ev w' B V s top n vs us cs :=
 ⟨Aj h.top hg (AL Fq.symm h.top hu),h.each.map (fun v hv _ _ hh=>Aj hh hg (hap v hv)),h.pw,h.t1,h.t2,h.f0,h.fc,h.fo,h.fw⟩
theorem Ev.below{w w':World}{B:Nat}{V:WV}{s:St}{top:Value}{n:Nat}{vs us:List Value}{cs:List (List Int)}(h:Ev w B V s top n vs us cs)(hb:Below w.heap.size w w'):Ev w' B V s top n vs us cs :=
 ⟨AK h.top hb,h.each.map (fun _ _ _ _ hh=>AK hh hb),h.pw,h.t1,h.t2,h.f0,h.fc,h.fo,h.fw⟩
theorem Ev.held{w w':World}{B:Nat}{V V':WV}{s s':St}{top:Value}{n:Nat}{vs us:List Value}{cs:List (List Int)}(h:Ev w B V s top n vs us cs)(hh:cJ w w' B V V' s s')(hl:s'.list=s.list){v:Value}(hvo:V'.vos=V.vos++[v])(hv:∀ u∈us,Af v u)
  (hot:w.ownsRow B 24 1 (V.vo s) s.outs.length V.vos) (hwt:w.ownsRow B 24 1 (V.vw s) s.want.length V.vws):Ev w' B V' s' top n vs us cs:=by
 have hvl:V'.vl s'=V.vl s:=by simp only[WV.vl,hl,hh.al,hh.cl]
 have ht:=hh.oth _ _ _ _ By h.top h.t1 h.t2
 refine⟨ht.1,h.each.map (fun _ _ _ _ hx=>(hh.oth _ _ _ _ Bm hx (AL Fq hx hot) (AL Fq hx hwt)).1),h.pw,ht.2.1,ht.2.2,?_,?_,?_,?_⟩
 ·rw[hvl];exact h.f0
 ·rw[hh.vcs];exact h.fc
 ·intro u hu x hx
  rw[hvo] at hx
  rcases List.mem_append.1 hx with hx | hx
  ·exact h.fo u hu x hx
  ·simp at hx;subst hx;exact hv u hu
 ·intro u hu x hx
  rcases hh.vws x hx with hx | ⟨k,a,b,hk,rfl⟩
  ·exact h.fw u hu x hx
  ·obtain⟨xs,hxs⟩:=h.each.mem hu
   exact La hxs hk _ _
theorem Ev.tail{w:World}{B:Nat}{V:WV}{s:St}{top:Value}{n:Nat}{vs us:List Value}{cs:List (List Int)}{u:Value}{c:List Int}(h:Ev w B V s top n vs (u :: us) (c :: cs)):Ev w B V s top n vs us cs :=
 ⟨h.top,h.each.2,(List.pairwise_cons.1 h.pw).2,h.t1,h.t2,fun x hx=>h.f0 x (by simp[hx]),fun x hx=>h.fc x (by simp[hx]),fun x hx=>h.fo x (by simp[hx]),fun x hx=>h.fw x (by simp[hx])⟩
theorem Ch(g k:Nat):(⟨g,0,none⟩:Addr).add k=⟨g,0+k,none⟩:=by unfold Addr.add;split <;> simp_all
theorem Bj{w w':World}{r:Option Nat}(h:w.drew.grownBy w' r):w.grownBy w' r:=⟨h.os,h.tape,h.output,h.size,h.block⟩
theorem WY{w:World}{Wb B:Nat}{V:WV}{s:St}{top:Value}{n:Nat}{vs us:List Value}{cs:List (List Int)}{g k cap:Nat}{zs:List Int}(hi:WI w Wb B V s)(hr:Ev w B V s top n vs us cs)(hu:w.ownsRow B 3 1 (.slice (some ⟨g,0,none⟩) k cap) k (AO zs))
  (f0:Af (.slice (some ⟨g,0,none⟩) k cap) (V.vl s)) (fc:∀ v∈V.vcs,Af v (.slice (some ⟨g,0,none⟩) k cap)) (fo:∀ v∈V.vos,Af v (.slice (some ⟨g,0,none⟩) k cap)) (fw:∀ v∈V.vws,Af v (.slice (some ⟨g,0,none⟩) k cap)) (hus:∀ v∈us,Af v (.slice (some ⟨g,0,none⟩) k cap)) (j:Nat) (m x:Int) :
  WI ((w.setCell ⟨Wb,6,none⟩ (.int .i64 m)).setCell ⟨g,j,none⟩ (.int .i64 x)) Wb B V { s with mark:=m }∧Ev ((w.setCell ⟨Wb,6,none⟩ (.int .i64 m)).setCell ⟨g,j,none⟩ (.int .i64 x)) B V { s with mark:=m } top n vs us cs ∧
   ((w.setCell ⟨Wb,6,none⟩ (.int .i64 m)).setCell ⟨g,j,none⟩ (.int .i64 x)).ownsRow B 3 1 (.slice (some ⟨g,0,none⟩) k cap) k (AO (zs.set j x)):=by
 have h1:=hi.setMark m
 have h2:=hr.setMark hi m
 have h3:=Cl hi.blk 6 (.int .i64 m) Bm hu
 obtain⟨h4,h5⟩:=h3.stored j (.int .i64 x)
 refine⟨h1.touch h3 h5 f0 fc fo fw,h2.touch h3 h5 hus,?_⟩
 have:(AO zs).set j (.int .i64 x)=AO (zs.set j x):=by simp[AO,List.map_set]
 rwa [this] at h4
theorem YP{w W2 w3:World}{Wb B:Nat}{V:WV}{s:St}{tp:Value}{n:Nat}{vs us:List Value}{cs:List (List Int)}{au a3:Option Addr}{k cu c3:Nat}{zs:List Int}{p q:Int}{o:Obj}(hi:WI W2 Wb B V s)(hr:Ev W2 B V s tp n vs us cs)(hu:W2.ownsRow B 3 1 (.slice au k cu) k (AO zs))
  (hb:Below B w W2) (f0:Af (.slice au k cu) (V.vl s)) (fc:∀ v∈V.vcs,Af v (.slice au k cu)) (fo:∀ v∈V.vos,Af v (.slice au k cu)) (fw:∀ v∈V.vws,Af v (.slice au k cu)) (hus:∀ v∈us,Af v (.slice au k cu))
  (hown3:w3.ownsRow B 3 1 (.slice a3 (k+2) c3) (k+2) (AO zs++[.int .i64 p,.int .i64 q])) (hg3:(W2.alloc o).drew.grownBy w3 (Value.slice au k cu).ownBlock)
  (hl3:Value.slice au k cu=.slice a3 k c3∨a3=some ⟨W2.heap.size+1,0,none⟩∧(W2.alloc o).drew.grownBy w3 none) :
  WI w3 Wb B V s∧Ev w3 B V s tp n vs us cs∧w3.ownsRow B 3 1 (.slice au k cu) k (AO zs)∧w3.ownsRow B 3 1 (.slice a3 (k+2) c3) (k+2) (AO (zs++[p,q]))∧Af (.slice a3 (k+2) c3) (V.vl s)∧(∀ v∈us,Af (.slice a3 (k+2) c3) v)∧Below B w w3:=by
 have hg:=Bj hg3
 have hb1:Below W2.heap.size W2 (W2.alloc o):=(Below.refl _ _).alloc (Nat.le_refl _) _
 have hu1:=hu.alloc o
 have i1:=hi.below hb1
 have r1:=hr.below hb1
 have lo:=DT (N:=k+2) hl3
 have hBs:B≤W2.heap.size:=Nat.le_trans hi.base (Nat.le_of_lt hi.blk.lt)
 have hbA:Below B w (W2.alloc o):=hb.alloc hBs _
 refine⟨i1.touch hu1 hg f0 fc fo fw,r1.touch hu1 hg hus,?_,?_,?_,?_,?_⟩
 ·exact Wm (w:=(W2.alloc o).drew) hu1 (m:=2) rfl hown3 hl3
 ·have e:AO zs++[Value.int .i64 p,.int .i64 q]=AO (zs++[p,q]):=by simp[AO]
  rwa [e] at hown3
 ·exact(Ca hi.list f0.symm (Nat.le_succ _) lo).symm
 ·intro v hv
  obtain⟨xs,hx⟩:=hr.each.mem hv
  exact(Ca hx (hus v hv) (Nat.le_succ _) lo).symm
 ·exact hbA.grown hg (by simp;omega) (fun j hj=>(hu.lt j hj).1)
set_option maxHeartbeats 4000000 in
theorem aX(Wb B:Nat)(V:WV)(s:St)(w:World)(h:WI w Wb B V s)(a:Option Addr)(c:Nat)(cl:List (List Int))(vs:List Value)(hr:Ev w B V s (.slice a cl.length c) cl.length vs vs cl)
  (hcl:cl.length≤1000) (hc1:Hid (∀ x∈cl,x.length≤5000000)) (hout:s.outs.length≤100000000) (hmk:0≤s.mark∧s.mark≤4000000000000000) (hsame:Hid (s.outs=s.want)) :
  Calls Tryz.prog 22 #[.pointer (some ⟨Wb,0,none⟩),.slice a cl.length c] w fun e w'=>e=.returned (.tuple #[])∧∃ V' s',WI w' Wb B V' s'∧Below B w w'∧s'.list=s.list∧s'.clauses=s.clauses∧s'.texts=s.texts∧s'.outs=s'.want ∧
   s'.outs.length≤s.outs.length+2*cl.length∧(∀ x∈s'.outs,x∈s.outs∨x.length≤5000002)∧s.mark≤s'.mark∧s'.mark≤s.mark+5000002*cl.length∧(V'.nx=V.nx∧V'.vxs=V.vxs∧V'.ax=V.ax∧V'.cx=V.cx)∧OF w w' Wb V V' vs:=by
 obtain⟨i0,hi,hz0,hz1,hz2⟩:=info_parts Tryz.infoInt
 have H:=AB h
 have HR:=AB hr
 have hBs:B≤w.heap.size:=Nat.le_trans h.base (Nat.le_of_lt h.blk.lt)
 clear h hr
 go_enter Tryz.func22,Tryz.ntmps22
 go_wp2
 go_loopw [4] (fun i wr=>∃ (k:Nat) (V1:WV) (s1:St),k≤cl.length∧i=.int .i64 k∧Hid (WI wr Wb B V1 s1)∧Hid (Ev wr B V1 s1 (.slice a cl.length c) cl.length vs (vs.drop k) (cl.drop k))∧Below B w wr∧Hid (s1.list=s.list∧s1.clauses=s.clauses∧s1.texts=s.texts∧s1.outs=s1.want∧∀ x∈s1.outs,x∈s.outs∨x.length≤5000002) ∧
   s1.outs.length≤s.outs.length+2*k∧s1.want.length≤s.outs.length+2*k∧s.mark≤s1.mark∧s1.mark≤s.mark+5000002*k∧Hid (V1.nx=V.nx∧V1.vxs=V.vxs∧V1.ax=V.ax∧V1.cx=V.cx)∧Hid (OF w wr Wb V V1 vs)) (fun i _=>cl.length - (intOf i).toNat)
 case atStart=>exact⟨0,V,s,Nat.zero_le _,rfl,H,HR,Below.refl _ _,⟨rfl,rfl,rfl,hsame.out,fun x hx=>.inl hx⟩,by omega,by rw[← hsame.out];omega,by omega,by omega,⟨rfl,rfl,rfl,rfl⟩,fun b _ _ h3 _=>⟨rfl,h3⟩⟩
 case round =>
  clear H HR
  obtain⟨k,V1,s1,hk,rfl,H,HR,hbel,HE,ho1,hw1,hm1,hm2,HV,HKF⟩:=hrel
  by_cases hlt:k<cl.length
  ·have hvl:vs.length=cl.length:=by have:=HR.out.top.1;omega
   obtain⟨u,hu⟩:∃ u,vs[k]?=some u:=⟨_,List.getElem?_eq_getElem (by omega)⟩
   have hdv:vs.drop k=u :: vs.drop (k+1):=by
    rw[List.drop_eq_getElem_cons (by omega)]
    rw[List.getElem?_eq_getElem (by omega)] at hu
    simp at hu
    rw[hu]
   have hdc:=Cc cl [] k hlt
   have humem:u∈vs:=List.mem_of_getElem? hu
   have hR:=HR.out
   rw[hdv,hdc] at hR
   have hcx:(cl.getD k []).length≤5000000:=hc1.out _ (by rw[List.getD_eq_getElem?_getD,List.getElem?_eq_getElem hlt];exact List.getElem_mem hlt)
   obtain⟨b,off,rfl,hcell⟩:∃ b off,a=some ⟨b,off,none⟩∧wr.cell? ⟨b,off+k,none⟩=some u:=by
    rcases HR.out.top.2 with⟨hv,h0⟩ | ⟨g,cap,cur,hv,_⟩
    ·omega
    ·simp only[Value.slice.injEq] at hv
     obtain⟨rfl,_,rfl⟩:=hv
     have h3:=HR.out.top.cells (g:=g) rfl k u hu
     rw[Ch] at h3
     exact⟨g,0,rfl,h3⟩
   obtain⟨au,cu,rfl,hou⟩:=JK (cl.getD k []) rfl rfl hR.each.1
   have HR2:=AB hR.tail
   have HF:=AB (And.intro (hR.f0 _ List.mem_cons_self) (And.intro (hR.fc _ List.mem_cons_self) (And.intro (hR.fo _ List.mem_cons_self) (And.intro (hR.fw _ List.mem_cons_self) (fun v hv=>((List.pairwise_cons.1 hR.pw).1 v hv).symm:∀ v∈vs.drop (k+1),Af v (.slice au (cl.getD k []).length cu))))))
   have HO:=AB hou
   have HUM:=AB humem
   clear hR hdv hdc hu hvl hou HR humem
   generalize cl.getD k []=xs at hcx hcell HF HO HUM
   have hm0:0≤s1.mark:=by omega
   have hm9:s1.mark≤4000010000000000:=by omega
   go_wp2
   go_loopw [6] (fun i wz=>∃ (j:Nat) (zs:List Int),j≤xs.length∧i=.int .i64 j∧zs.length=xs.length∧Hid (wz.ownsRow B 3 1 (.slice au xs.length cu) xs.length (AO zs))∧Hid (WI wz Wb B V1 { s1 with mark:=s1.mark+j }) ∧
    Hid (Ev wz B V1 { s1 with mark:=s1.mark+j } (.slice (some ⟨b,off,none⟩) cl.length c) cl.length vs (vs.drop (k+1)) (cl.drop (k+1)))∧Below B w wz∧Hid (OF w wz Wb V V1 vs)) (fun i _=>xs.length - (intOf i).toNat)
   case atStart=>exact⟨0,xs,Nat.zero_le _,rfl,rfl,HO,by show WI _ _ _ _ _;simpa using H.out,by show Ev _ _ _ _ _ _ _ _ _;simpa using HR2.out,hbel,HKF⟩
   case round =>
    clear HO H HR2 hbel hcell HKF
    obtain⟨j,zs,hj,rfl,hzl,HO,H,HR2,hbel,HKF⟩:=hrel
    have k6:wr.cell? ⟨Wb,6,none⟩=some (.int .i64 (s1.mark+j)):=(H.out.blk.cell 6).trans rfl
    have k6':=H.out.blk.frozen 6
    by_cases hjl:j<xs.length
    ·obtain⟨g,rfl⟩:∃ g,au=some ⟨g,0,none⟩:=by
      rcases HO.out.2 with⟨_,h0⟩ | ⟨g,cap,cur,hv,_⟩
      ·omega
      ·simp only[Value.slice.injEq] at hv;exact⟨g,hv.1⟩
     have hgW:g≠Wb:=by
      intro e;subst e
      rcases HO.out.2 with⟨_,h0⟩ | ⟨g',cap,cur,hv,_,hg,_⟩
      ·omega
      ·simp only[Value.slice.injEq,Option.some.injEq,Addr.mk.injEq,and_true] at hv
       obtain⟨rfl,_,rfl⟩:=hv
       have hb:wr.heap[g]?=some (.cells (V1.cells { s1 with mark:=s1.mark+j }).toArray 34 (0,0)):=H.out.blk
       rw[hb] at hg
       simp only[Option.some.injEq,Obj.cells.injEq] at hg
       exact Bm hg.2.1.symm
     have kc:∃ v,wr.cell? ⟨g,j,none⟩=some v:=by
      rw[HO.out.cellAt j (by omega)]
      exact⟨_,List.getElem?_eq_getElem (by rw[Az];omega)⟩
     obtain⟨v0,kc⟩:=kc
     have kf:=HO.out.frozenAt j
     have HM:=AB (WY H.out HR2.out HO.out HF.out.1 HF.out.2.1 HF.out.2.2.1 HF.out.2.2.2.1 HF.out.2.2.2.2 j (s1.mark+j+1) (s1.mark+j+1))
     have hBg:B≤g:=(HO.out.lt g rfl).1
     have em:s1.mark+((j+1:Nat):Int)=s1.mark+j+1:=by omega
     have EM:=AB em
     clear em
     go_wp2
     go_roundw
     case rel=>exact⟨j+1,zs.set j (s1.mark+j+1),by omega,by go_num,by simp[hzl],HM.out.2.2,by show WI _ _ _ _ _;rw[EM.out];exact HM.out.1,by show Ev _ _ _ _ _ _ _ _ _;rw[EM.out];exact HM.out.2.1,(hbel.setCell (p:=⟨Wb,6,none⟩) H.out.base _).setCell (p:=⟨g,j,none⟩) hBg _,(HKF.out.set 6 _).put HUM.out rfl j _⟩
     case measure=>simp[intOf];omega
    ·obtain rfl:j=xs.length:=by omega
     have d1:Hid (xs.length+2≤maxLen):=by show _≤_;unfold maxLen;omega
     have d2:Hid ((xs.length+2)*8≤140737488355328):=by show _≤_;omega
     have hzB:B≤wr.heap.size:=Nat.le_trans hBs hbel.size
     have HI2:Hid (WI (wr.setCell ⟨Wb,6,none⟩ (.int .i64 (s1.mark+xs.length+2))) Wb B V1 { s1 with mark:=s1.mark+xs.length+2 }):=H.out.setMark _
     have HR3:Hid (Ev (wr.setCell ⟨Wb,6,none⟩ (.int .i64 (s1.mark+xs.length+2))) B V1 { s1 with mark:=s1.mark+xs.length+2 } (.slice (some ⟨b,off,none⟩) cl.length c) cl.length vs (vs.drop (k+1)) (cl.drop (k+1))):=HR2.out.setMark H.out _
     have HO2:Hid ((wr.setCell ⟨Wb,6,none⟩ (.int .i64 (s1.mark+xs.length+2))).ownsRow B 3 1 (.slice au xs.length cu) xs.length (AO zs)):=Cl H.out.blk 6 _ Bm HO.out
     have hbel2:Below B w (wr.setCell ⟨Wb,6,none⟩ (.int .i64 (s1.mark+xs.length+2))):=hbel.setCell (p:=⟨Wb,6,none⟩) H.out.base _
     have HB2:=AB hbel2
     have KF2:Hid (OF w (wr.setCell ⟨Wb,6,none⟩ (.int .i64 (s1.mark+xs.length+2))) Wb V V1 vs):=HKF.out.set 6 _
     have hszw:w.heap.size≤wr.heap.size:=hbel.size
     go_wp2
     have hwz:(wr.setCell ⟨Wb,6,none⟩ (.int .i64 (s1.mark+xs.length+2))).heap.size=wr.heap.size:=by simp[World.setCell]
     generalize hW2:wr.setCell ⟨Wb,6,none⟩ (.int .i64 (s1.mark+xs.length+2))=W2 at *
     have hzW:B≤W2.heap.size:=by omega
     have k7:W2.cell? ⟨Wb,6,none⟩=some (.int .i64 (s1.mark+xs.length+2)):=(HI2.out.blk.cell 6).trans rfl
     have hne:=World.new_ne W2 ⟨Wb,6,none⟩ k7
     have hszW:w.heap.size≤W2.heap.size:=by omega
     clear hW2 hwz H HO HR2 k6 k6' hbel hbel2 hzB HKF hszw
     have hwrap:IntKind.i64.wrap (s1.mark+(xs.length:Int)+2 - 1)=s1.mark+xs.length+1:=by rw[IntKind.wrap_i64];omega
     go_region_held3 (fun w'=>w'.cell? ⟨Wb,6,none⟩=some (.int .i64 (s1.mark+xs.length+2))) (go_keep)
      ((refine DZ _ (by rfl) (.tmp 47) (.tmp 57) 24 (by rfl) B 3 i0 (.int .i64 0) 8 Tryz.undInts hi hz0 hz1 hz2 rfl (.slice au xs.length cu) xs.length (AO zs) (by rfl) (by exact HO2.out.alloc _) ⟨W2.heap.size,0,none⟩ 2 2 [.int .i64 (s1.mark+xs.length+1),.int .i64 (s1.mark+xs.length+2)] (by rfl) rfl (by exact AH W2 [.int .i64 (s1.mark+xs.length+1),.int .i64 (s1.mark+xs.length+2)] 3) (by intro u hu;simp at hu;rcases hu with rfl|rfl <;> rfl) (by decide) d1.out d2.out (by simp;omega) (W2.heap.size+1) (by simp) ?_;intro a3 c3 w3 hown3 hg3 hl3;have g6:w3.cell? ⟨Wb,6,none⟩=some (.int .i64 (s1.mark+xs.length+2)):=((B8 (AF HI2.out.blk ((Below.refl _ _).alloc (Nat.le_refl _) _)) (HO2.out.alloc _) Bm (Bj hg3)).cell 6).trans rfl))
     obtain⟨i3,r3,u3,v3,av,ar,hb3⟩:=YP HI2.out HR3.out HO2.out HB2.out HF.out.1 HF.out.2.1 HF.out.2.2.1 HF.out.2.2.2.1 HF.out.2.2.2.2 hown3 hg3 hl3
     have hz2':(zs++[s1.mark+(xs.length:Int)+1,s1.mark+xs.length+2]).length=xs.length+2:=by simp[hzl]
     have hh1:=Qn Wb B V1 { s1 with mark:=s1.mark+xs.length+2 } w3 i3 au cu zs (by rw[hzl];exact u3) (by rw[hzl];exact HF.out.1) (by omega) (by show s1.outs.length≤_;omega) (by show s1.want.length≤_;omega)
     rw[hzl] at hh1
     have KF3:Hid (OF w w3 Wb V V1 vs):=KF2.out.grown hszW HUM.out (Bj hg3)
     have hsz3:w.heap.size≤w3.heap.size:=Nat.le_trans hszW (Nat.le_trans (by simp) hg3.size)
     have LG3:Hid (∀ b,b<w.heap.size→(∀ u∈vs,u.ownBlock≠some b)→(Value.slice a3 (xs.length+2) c3).ownBlock≠some b):=fun b h1 h2 e=>GG (Hz (VH (h2 _ HUM.out)) hl3 (by omega)) _ _ e.symm
     have HH1:=AB hh1
     have I3:=AB i3
     have R3:=AB r3
     have V3:=AB v3
     have AV:=AB av
     have AR:=AB ar
     have HB3:=AB hb3
     clear hh1 i3 r3 u3 v3 av ar hb3 hown3 hg3 hl3 g6 k7 hne hwrap HO2 HI2 HR3 HB2
     go_wp2_with fail
     refine(AE HH1).mono ?_
     rintro e w4 ⟨rfl,V2,i4,hd4,hvo4,hfr4⟩
     have KF4:Hid (OF w w4 Wb V V2 vs):=KF3.out.held hsz3 hfr4 (fun b _ h2=>h2 _ HUM.out)
     have hsz4:w.heap.size≤w4.heap.size:=Nat.le_trans hsz3 hd4.below.size
     clear hfr4
     have R4:=AB (R3.out.held hd4 rfl hvo4 (fun u hu=>(HF.out.2.2.2.2 u hu).symm) I3.out.ot I3.out.wt)
     have v4:=(hd4.oth _ _ _ _ Bm V3.out (AL Fq V3.out I3.out.ot) (AL Fq V3.out I3.out.wt)).1
     have hvl4:V2.vl { s1 with mark:=s1.mark+xs.length+2,outs:=s1.outs++[zs],want:=s1.want++[zs] }=V1.vl { s1 with mark:=s1.mark+xs.length+2 }:=by simp only[WV.vl,hd4.al,hd4.cl]
     have hh2:=Qn Wb B V2 { s1 with mark:=s1.mark+xs.length+2,outs:=s1.outs++[zs],want:=s1.want++[zs] } w4 i4 a3 c3 (zs++[s1.mark+xs.length+1,s1.mark+xs.length+2]) (by rw[hz2'];exact v4) (by rw[hz2',hvl4];exact AV.out) (by rw[hz2'];omega) (by show(s1.outs++[zs]).length≤_;rw[Ar];omega) (by show(s1.want++[zs]).length≤_;rw[Ar];omega)
     rw[hz2'] at hh2
     have HH2:=AB hh2
     have I4:=AB i4
     have HD4:=AB hd4
     clear hh2 HH1 i4 hd4 hvo4 v4 hvl4
     go_wp2_with fail
     refine(AE HH2).mono ?_
     rintro e w5 ⟨rfl,V3',i5,hd5,hvo5,hfr5⟩
     have KF5:Hid (OF w w5 Wb V V3' vs):=KF4.out.held hsz4 hfr5 LG3.out
     clear hfr5
     have R5:=AB (R4.out.held hd5 rfl hvo5 (fun u hu=>AR.out u hu) I4.out.ot I4.out.wt)
     have I5:=AB i5
     have hb5:Below B w w5:=(HB3.out.trans HD4.out.below).trans hd5.below
     have HB5:=AB hb5
     have hv5:=hd5.xs
     have hv4:=HD4.out.xs
     have HV5:Hid (V3'.nx=V.nx∧V3'.vxs=V.vxs∧V3'.ax=V.ax∧V3'.cx=V.cx):=⟨hv5.1.trans (hv4.1.trans HV.out.1),hv5.2.1.trans (hv4.2.1.trans HV.out.2.1),hv5.2.2.1.trans (hv4.2.2.1.trans HV.out.2.2.1),hv5.2.2.2.trans (hv4.2.2.2.trans HV.out.2.2.2)⟩
     clear hv5 hv4
     clear HH2 i5 hd5 hvo5 hb5
     go_wp2
     go_roundw
     case rel =>
      refine⟨k+1,V3',_,by omega,by go_num,I5,R5,HB5.out,?_,?_,?_,?_,?_,HV5,KF5⟩
      ·obtain⟨e1,e2,e3,e4,e5⟩:=HE.out
       refine⟨e1,e2,e3,?_,?_⟩
       ·show s1.outs++[zs]++_=s1.want++[zs]++_
        rw[e4]
       ·intro x hx
        rcases List.mem_append.1 hx with hx | hx
        ·rcases List.mem_append.1 hx with hx | hx
         ·exact e5 x hx
         ·simp at hx;subst hx;right;omega
        ·simp only[List.mem_singleton] at hx
         subst hx
         right
         rw[hz2'];omega
      ·show(s1.outs++[zs]++[_]).length≤_
       rw[Ar,Ar];omega
      ·show(s1.want++[zs]++[_]).length≤_
       rw[Ar,Ar];omega
      ·show _≤s1.mark+(xs.length:Int)+2
       omega
      ·show s1.mark+(xs.length:Int)+2≤_
       omega
     case measure=>simp[intOf];omega
  ·obtain rfl:k=cl.length:=by omega
   go_wp2
   go_end0
   obtain⟨e1,e2,e3,e4,e5⟩:=HE.out
   exact⟨rfl,V1,s1,H.out,hbel,e1,e2,e3,e4,ho1,e5,hm1,hm2,HV.out,HKF.out⟩
theorem Tryz.infoSet:(Tryz.prog.info? 101).map (fun i=>(i.zero,i.size,i.bytes))=some (some (.agg #[.int .i64 0,.int .i64 0]),2,16):=by kernel_rfl
theorem Tryz.undSets:Tryz.prog.underlying 105=some (.slice 101):=by kernel_rfl
def Ac(ss:List Pr):List Value:=ss.flatMap fun p=>[.int .i64 (p.1:Nat),.int .i64 (p.2:Nat)]
theorem FD(ss:List Pr)(p:Pr):Ac ss++[.int .i64 (p.1:Nat),.int .i64 (p.2:Nat)]=Ac (ss++[p]):=by simp[Ac]
theorem Hw:(101:Nat)≠107:=by decide
theorem BG{w w':World}{g t e size n B:Nat}{zs xs:List Value}{v:Value}(hr:AY w g t zs)(hv:w.ownsRow B e size v n xs)(he:e≠t)(h:w.grownBy w' v.ownBlock):AY w' g t zs:=by
 refine(h.block g hr.lt ?_).trans hr
 intro eq
 rcases hv.2 with⟨rfl,_⟩ | ⟨g',cap,cur,rfl,_,hg,_⟩
 ·simp[Value.ownBlock] at eq
 ·simp only[Value.ownBlock,Option.some.injEq] at eq
  subst eq
  have hr':w.heap[g]?=some (.cells zs.toArray t (0,0)):=hr
  rw[hr'] at hg
  simp only[Option.some.injEq,Obj.cells.injEq] at hg
  exact he hg.2.1.symm
theorem Ae{w:World}{B g t e size n:Nat}{zs xs:List Value}{u:Value}(hr:AY w g t zs)(i:Nat)(x:Value)(he:e≠t)(hu:w.ownsRow B e size u n xs):(w.setCell ⟨g,i,none⟩ x).ownsRow B e size u n xs:=by
 refine⟨hu.1,?_⟩
 rcases hu.2 with hn | ⟨g',cap,cur,hv,h1,hg,r⟩
 ·exact .inl hn
 ·refine .inr ⟨g',cap,cur,hv,h1,?_,r⟩
  have hne:g'≠g:=by
   intro eq
   subst eq
   have hr':w.heap[g']?=some (.cells zs.toArray t (0,0)):=hr
   rw[hr'] at hg
   simp only[Option.some.injEq,Obj.cells.injEq] at hg
   exact he hg.2.1.symm
  rw[Below.heap_setCell _ _ _ _ hne]
  exact hg
structure Eh(w w':World)(g:Nat)(v:Value):Prop where
 os:w'.os=w.os
 tape:w'.tape=w.tape
 output:w'.output=w.output
 size:w.heap.size≤w'.heap.size
 block:∀ k,k<w.heap.size→k≠g→v.ownBlock≠some k→w'.heap[k]?=w.heap[k]?
theorem Eh.of{w w':World}(g:Nat)(v:Value)(h:Below w.heap.size w w'):Eh w w' g v:=⟨h.os,h.tape,h.output,h.size,fun k hk _ _=>h.block k hk⟩
theorem Eh.set{w w':World}{g:Nat}{v:Value}(h:Eh w w' g v)(i:Nat)(x:Value):Eh w (w'.setCell ⟨g,i,none⟩ x) g v :=
 ⟨h.os,h.tape,h.output,by simpa [World.setCell] using h.size,fun k hk hg hv=>(Below.heap_setCell w' ⟨g,i,none⟩ x k hg).trans (h.block k hk hg hv)⟩
theorem Eh.below{w w' w'':World}{g:Nat}{v:Value}(h:Eh w w' g v)(hb:Below w'.heap.size w' w''):Eh w w'' g v :=
 ⟨hb.os.trans h.os,hb.tape.trans h.tape,hb.output.trans h.output,Nat.le_trans h.size hb.size,fun k hk hg hv=>(hb.block k (Nat.lt_of_lt_of_le hk h.size)).trans (h.block k hk hg hv)⟩
theorem Eh.grown{w w' w'':World}{g:Nat}{v:Value}(h:Eh w w' g v)(hb:w'.grownBy w'' v.ownBlock):Eh w w'' g v :=
 ⟨hb.os.trans h.os,hb.tape.trans h.tape,hb.output.trans h.output,Nat.le_trans h.size hb.size,fun k hk hg hv=>(hb.block k (Nat.lt_of_lt_of_le hk h.size) (fun e=>hv e.symm)).trans (h.block k hk hg hv)⟩
def Ct(t f:Nat)(x:Int):Bool:=(t&&&Fo x != 0) || (f&&&Fo (-x) != 0)
theorem Yr(z:Nat):(((z:Nat):Int) != 0)=(z != 0):=by cases z <;> rfl
set_option maxHeartbeats 2000000 in
theorem MP(t f:Nat)(x:Int)(ht:t<2^11)(hf:f<2^11)(h1:-10≤x)(h2:x≤10)(w:World) :
  Calls Tryz.prog 126 #[.agg #[.int .i64 t,.int .i64 f],.int .i64 x] w fun e w'=>e=.returned (.bool (Ct t f x))∧Below w.heap.size w w':=by
 have HBIT:Hid (∀ y w,Calls Tryz.prog 95 #[.int .i64 y] w fun e w'=>e=.returned (.int .i64 (Fo y:Nat))∧w'=w):=fun y w=>Hs y w
 have b1:=JY x
 have b2:=JY (-x)
 have a1:=EX t (Fo x) (by omega) (by omega)
 have a2:=EX f (Fo (-x)) (by omega) (by omega)
 have hwn:IntKind.i64.wrap (-x)=-x:=by rw[IntKind.wrap_i64];omega
 have HN:Hid (∀ x n,Below w.heap.size w ((w.alloc x).drewN n)):=fun x n=>below_drewN ((Below.refl _ _).alloc (Nat.le_refl _) _) n
 have n1:=Yr (t&&&Fo x)
 have n2:=Yr (f&&&Fo (-x))
 unfold Ct
 generalize t&&&Fo x=z1 at *
 generalize f&&&Fo (-x)=z2 at *
 cases hz:(z1 != 0) with
 | true =>
  rw[hz] at n1
  clear n2
  go_enter Tryz.func126,Tryz.ntmps126
  go_wp2
  go_quiet ((go_at_call 95;exact Calls.quiet_of_same (AE HBIT _ _)))
  go_wp2
  go_ret
  exact⟨rfl,HN.out _ _⟩
 | false =>
  rw[hz] at n1
  have HZ:=AB n2
  clear n2
  go_enter Tryz.func126,Tryz.ntmps126
  go_wp2
  go_quiet ((go_at_call 95;exact Calls.quiet_of_same (AE HBIT _ _)))
  go_wp2
  go_ret
  refine⟨?_,HN.out _ _⟩
  rw[Bool.false_or,← HZ.out]
  rfl
theorem bG{w':World}{tmps:Array Value}{g:Nat}{p q:Value}(hr:AY w' g 101 [p,q])(h2:tmps.getD 2 undef=.pointer (some ⟨g,0,none⟩)) :
  (results Tryz.f141 tmps).run Tryz.prog w'=.ok (.agg #[p,q]) w':=by
 obtain⟨fs,hu⟩:=GK
 exact results_cell_row rfl tmps w' g 101 #[p,q] (0,0) (.struct fs) h2 hr hu rfl GJ
set_option maxHeartbeats 2000000 in
theorem M8(t f:Nat)(w:World) :
  Calls Tryz.prog 141 #[.agg #[.int .i64 t,.int .i64 f]] w fun e w'=>e=.returned (.agg #[.int .i64 f,.int .i64 t])∧Below w.heap.size w w':=by
 have R9:Hid (AY ((w.alloc (.cells #[.int .i64 t,.int .i64 f] 101)).alloc (.cells #[.int .i64 f,.int .i64 t] 101)) (w.heap.size+1) 101 [.int .i64 f,.int .i64 t]):=heap_alloc2_new w _ _
 have HB:Hid (∀ x y,Below w.heap.size w ((w.alloc x).alloc y)):=fun x y=>((Below.refl _ _).alloc (Nat.le_refl _) _).alloc (by simp) _
 go_enter Tryz.func141,Tryz.ntmps141
 go_wp2
 exact bodyPost_ret (v:=.agg #[.int .i64 f,.int .i64 t]) (bG R9.out rfl) rfl ⟨rfl,HB.out _ _⟩
def EG(t f:Nat)(v:Int):Nat:=(Ct t f v).toNat+2*(Ct t f (-v)).toNat
theorem Fl(t f:Nat)(v:Int):EG t f v<4:=by
 unfold EG
 have h1:=Bool.toNat_le (Ct t f v)
 have h2:=Bool.toNat_le (Ct t f (-v))
 omega
set_option maxHeartbeats 2000000 in
theorem VV(t f:Nat)(v:Int)(ht:t<2^11)(hf:f<2^11)(h1:1≤v)(h2:v≤10)(w:World) :
  Calls Tryz.prog 119 #[.agg #[.int .i64 t,.int .i64 f],.int .i64 v] w fun e w'=>e=.returned (.int .i64 (EG t f v:Nat))∧Below w.heap.size w w':=by
 have HH:Hid (∀ x w,-10≤x→x≤10→Calls Tryz.prog 126 #[.agg #[.int .i64 t,.int .i64 f],.int .i64 x] w fun e w'=>e=.returned (.bool (Ct t f x))∧Below w.heap.size w w'):=fun x w q1 q2=>MP t f x ht hf q1 q2 w
 have hwn:IntKind.i64.wrap (-v)=-v:=by rw[IntKind.wrap_i64];omega
 have HN:Hid (∀ x,Below w.heap.size w (w.alloc x)):=fun x=>(Below.refl _ _).alloc (Nat.le_refl _) _
 have m0:=AH w [.int .i64 (t:Nat),.int .i64 (f:Nat)] 101 0 _ rfl
 have m1:=AH w [.int .i64 (t:Nat),.int .i64 (f:Nat)] 101 1 _ rfl
 rw[Ch] at m0 m1
 simp only[Nat.zero_add] at m0 m1
 have e3:w.heap.size<(w.alloc (.cells #[.int .i64 (t:Nat),.int .i64 (f:Nat)] 101)).heap.size:=by simp
 unfold EG
 go_enter Tryz.func119,Tryz.ntmps119
 go_wp2_with fail
 refine(AE HH v _ (by omega) (by omega)).mono ?_
 have hb1:=HN.out (.cells #[.int .i64 (t:Nat),.int .i64 (f:Nat)] 101)
 generalize w.alloc (.cells #[.int .i64 (t:Nat),.int .i64 (f:Nat)] 101)=w1 at *
 rintro e w2 ⟨rfl,hb2⟩
 have k0:=(hb2.cell (p:=⟨w.heap.size,0,none⟩) e3).trans m0
 have k1:=(hb2.cell (p:=⟨w.heap.size,1,none⟩) e3).trans m1
 have HB2:Hid (Below w.heap.size w w2):=hb1.trans (hb2.mono (Nat.le_of_lt e3))
 clear m0 m1 hb1 hb2 HN
 cases hq1:Ct t f v with
 | false =>
  go_wp2_with fail
  refine(AE HH (-v) _ (by omega) (by omega)).mono ?_
  rintro e w3 ⟨rfl,hb3⟩
  have HB3:Hid (Below w.heap.size w w3):=HB2.out.trans (hb3.mono HB2.out.size)
  clear hb3
  cases hq2:Ct t f (-v) with
  | false =>
   go_wp2
   go_ret
   exact⟨by rw[hq1,hq2];rfl,HB3.out⟩
  | true =>
   go_wp2
   go_ret
   exact⟨by rw[hq1,hq2];rfl,HB3.out⟩
 | true =>
  go_wp2_with fail
  refine(AE HH (-v) _ (by omega) (by omega)).mono ?_
  rintro e w3 ⟨rfl,hb3⟩
  have HB3:Hid (Below w.heap.size w w3):=HB2.out.trans (hb3.mono HB2.out.size)
  clear hb3
  cases hq2:Ct t f (-v) with
  | false =>
   go_wp2
   go_ret
   exact⟨by rw[hq1,hq2];rfl,HB3.out⟩
  | true =>
   go_wp2
   go_ret
   exact⟨by rw[hq1,hq2];rfl,HB3.out⟩
structure PS where
 gt:Nat
 gf:Nat
 cl:Bool
def PS.Ok(s:PS):Prop:=s.gt<2^11∧s.gf<2^11
def GI(na:Option Addr)(n nc:Nat)(kt kf:Nat)(s:PS):List Value:=[.slice na n nc,.int .i64 kt,.int .i64 kf,.int .i64 s.gt,.int .i64 s.gf,.bool s.cl]
def Ep(copies:Nat)(op:Int)(s:PS):PS:=if copies=0 then s else if op=0 then { s with cl:=true } else ⟨s.gt|||Dx op,s.gf|||Dw op,s.cl⟩
theorem RG{copies:Nat}{op:Int}{s:PS}(h:s.Ok)(ho:op=0∨AT op=true):(Ep copies op s).Ok:=by
 unfold Ep
 split
 ·exact h
 ·split
  ·exact h
  ·rcases ho with ho | ho
   ·contradiction
   ·exact⟨Nat.or_lt_two_pow h.1 ((Kb ho) ▸ JY op),Nat.or_lt_two_pow h.2 ((Ka ho) ▸ JY (-op))⟩
set_option maxHeartbeats 4000000 in
theorem Yl(g:Nat)(na:Option Addr)(n nc kt kf:Nat)(s:PS)(copies:Nat)(op:Int)(w:World)(hr:AY w g 175 (GI na n nc kt kf s))(hs:s.Ok)(ho:op=0∨AT op=true) :
  Calls Tryz.prog 147 #[.pointer (some ⟨g,0,none⟩),.int .i64 copies,.int .i64 op] w fun e w'=>e=.returned (.tuple #[])∧AY w' g 175 (GI na n nc kt kf (Ep copies op s))∧w.grownBy w' (some g):=by
 by_cases h0:copies=0
 ·subst h0
  have HR:=AB hr
  clear hr
  go_enter Tryz.func147,Tryz.ntmps147
  go_wp2
  (try simp only[Exit.inBlock,Exit.then])
  refine bodyPost_ret (results_none rfl _ _ _) rfl ?_
  exact⟨rfl,HR.out,Gj w _⟩
 ·have hci:(((copies:Nat):Int) == 0)=false:=by simp;exact h0
  by_cases h1:op=0
  ·subst h1
   have c5:w.cell? ⟨g,5,none⟩=some (.bool s.cl):=(hr.cell 5).trans rfl
   have z5:=hr.frozen 5
   have HR:=AB hr
   have HE:Hid (Ep copies 0 s={ s with cl:=true }):=by show _=_;simp[Ep,h0]
   clear hr
   go_enter Tryz.func147,Tryz.ntmps147
   go_wp2
   (try simp only[Exit.inBlock,Exit.then])
   refine bodyPost_ret (results_none rfl _ _ _) rfl ?_
   refine⟨rfl,?_,Ci (Gj w _)⟩
   rw[HE.out]
   exact HR.out.set 5 _
  ·have hl:AT op=true:=ho.resolve_left h1
   have HW:Hid (∀ w,Calls Tryz.prog 94 #[.agg #[.int .i64 s.gt,.int .i64 s.gf],.int .i64 op] w fun e w'=>e=.returned (.agg #[.int .i64 (s.gt|||Dx op:Nat),.int .i64 (s.gf|||Dw op:Nat)])∧Below w.heap.size w w'):=fun w=>Nn s.gt s.gf op hs.1 hs.2 hl w
   have HE:Hid (Ep copies op s=⟨s.gt|||Dx op,s.gf|||Dw op,s.cl⟩):=by show _=_;simp[Ep,h0,h1]
   have c3:w.cell? ⟨g,3,none⟩=some (.int .i64 s.gt):=(hr.cell 3).trans rfl
   have c4:w.cell? ⟨g,4,none⟩=some (.int .i64 s.gf):=(hr.cell 4).trans rfl
   have HR:=AB hr
   clear hr ho hl
   go_enter Tryz.func147,Tryz.ntmps147
   go_wp2_with fail
   refine(AE HW _).mono ?_
   rintro e w2 ⟨rfl,hb2⟩
   have R2:=AB (AF HR.out hb2)
   have y3:w2.cell? ⟨g,3,none⟩=some (.int .i64 s.gt):=(R2.out.cell 3).trans rfl
   have y4:w2.cell? ⟨g,4,none⟩=some (.int .i64 s.gf):=(R2.out.cell 4).trans rfl
   have z3:=R2.out.frozen 3
   have z4:=R2.out.frozen 4
   have HB2:=AB hb2
   clear hb2 c3 c4
   go_wp2
   go_end0
   refine⟨rfl,?_,?_⟩
   ·rw[HE.out]
    exact(R2.out.set 3 _).set 4 _
   ·have hg:w.grownBy w2 (some g):=⟨HB2.out.os,HB2.out.tape,HB2.out.output,HB2.out.size,fun k hk _=>HB2.out.block k hk⟩
    exact Ci (Ci hg)
end Go.Proofs.YthboeppmlhbofaaGreatDoor
