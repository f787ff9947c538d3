import Derived.Test.YthboeppmlhbofabDoorLaj
namespace Go.Proofs.YthboeppmlhbofabDoor
open Go.RowKit Txt
set_option maxRecDepth 100000
def DropSt(w:World)(B cb:Nat)(cs:List Nat)(N c:Nat):Prop:=∃ na nc ns ns',TreeI w B cb na nc ns'∧dropN ns (tN c) (fN c)=some ns'∧Stand ns cs∧ns.length≤N∧CB ns N∧0<ns.length
theorem DropSt.fr{T:Nat→Prop}{B':Nat}{w w':World}{B cb N c:Nat}{cs:List Nat}(h:DropSt w B cb cs N c)(hf:Fr T B' w w')(ht:∀ t,T t→¬ treeT t):DropSt w' B cb cs N c:=by
 obtain⟨na,nc,ns,ns',h1,h2⟩:=h
 exact⟨na,nc,ns,ns',⟨hf.row h1.row fun z=>ht _ z (.inr rfl),hf.own h1.own fun z=>ht _ z (.inl rfl),h1.pos,h1.base⟩,h2⟩
theorem DropSt.below{w w':World}{B cb N c:Nat}{cs:List Nat}(h:DropSt w B cb cs N c)(hb:Below w.heap.size w w'):DropSt w' B cb cs N c:=h.fr (T:=fun _=>False) (Fr.of _ 0 hb) fun _ q=>q.elim
theorem drop_len{ns ns':List Nd}(hw:Wf ns)(hp:0<ns.length){t f:Nat}(hd:dropN ns t f=some ns'):ns'.length=ns.length∧∀ j,(ns'.getD j nd0).c≤(ns.getD j nd0).c:=by
 unfold dropN at hd
 split at hd
 ·simp at hd
 ·rename_i a ha
  split at hd
  ·simp at hd
  ·simp only[Option.some.injEq] at hd
   subst hd
   refine⟨List.length_set,fun j=>?_⟩
   rw[getD_set _ _ _ _ (dropTo_lt hw hp _ _ 10 a ha)]
   split
   ·rename_i e;subst e;show(ns.getD j nd0).c - 1≤_;omega
   ·exact Nat.le_refl _
theorem DropSt.tr{w:World}{B cb N c:Nat}{cs:List Nat}(h:DropSt w B cb cs N c)(hc:c<2^20):Tr w B cb (cs.erase c) N:=by
 obtain⟨na,nc,ns,ns',h1,h2,h3,h4,h5,h6⟩:=h
 obtain⟨l1,l2⟩:=drop_len h3.tre.wf h6 h2
 exact⟨na,nc,ns',h1,h3.drop (Two.of hc) h2,by omega,fun j=>Nat.le_trans (l2 j) (h5 j)⟩
theorem dropSt_any{w:World}{B cb N:Nat}{cs:List Nat}(h:Tr w B cb cs N)(c:Nat)(hc:c<2^20)(hm:c∈cs)(hN:N≤80000000) :
  Calls Tryd.prog 77 #[.pointer (some ⟨cb,0,none⟩),setV c] w fun e w'=>e=.returned (.bool true)∧DropSt w' B cb cs N c∧Fr treeT B w w':=by
 refine(drop_tr h c hc hm hN).mono ?_
 rintro e w' ⟨rfl,⟨na,nc,ns,ns',na',nc',h1,h2,h3,h4,h5,h6⟩,_,hf⟩
 exact⟨rfl,⟨na',nc',ns,ns',h6,h5,h2,h3,h4,h1.pos⟩,hf⟩
theorem readd_any{w:World}{B cb N c:Nat}{cs:List Nat}(h:DropSt w B cb cs N c)(hB:B≤w.heap.size)(hN:N≤80000000) :
  Calls Tryd.prog 50 #[.pointer (some ⟨cb,0,none⟩),setV c,.int .i64 1] w fun e w'=>e=.returned (.tuple #[])∧Tr w' B cb cs N∧Fr treeT B w w':=by
 obtain⟨na,nc,ns,ns',h1,h2,h3,h4,h5,h6⟩:=h
 obtain⟨l1,l2⟩:=drop_len h3.tre.wf h6 h2
 have hw:=(h3.tre.drop h2).1.wf
 refine(addC_any w B cb na nc ns' h1 hw N (fun j=>Nat.le_trans (l2 j) (h5 j)) (tN c) (fN c) 1 (tN_lt c) (fN_lt c) hB (by omega) (by omega)).mono ?_
 rintro e w' ⟨rfl,na',nc',hn⟩
 have ht:=hn.t
 rw[drop_add h3.tre.wf h6 h2] at ht
 exact⟨rfl,⟨na',nc',ns,ht,h3,h4,h5⟩,TreeN.fr h1 hn⟩
theorem erase_perm{hv lr:List Nat}{c:Nat}(h:c∈lr):((hv++lr).erase c).Perm (hv++lr.erase c):=by
 have h1:(hv++lr).Perm (c :: (hv++lr).erase c):=List.perm_cons_erase (List.mem_append_right _ h)
 have h2:(hv++lr).Perm (c :: (hv++lr.erase c)):=((List.perm_cons_erase h).append_left hv).trans List.perm_middle
 exact(h1.symm.trans h2).cons_inv
theorem set_tree:¬ treeT 84:=not_tree (by decide) (by decide)
set_option maxHeartbeats 16000000 in
theorem isIdle_any(w:World)(B g N:Nat)(E:Sg)(s:Sr)(A:SrA)(an:List Value)(c dec:Nat)(h:SrI w B g N E s A an)(hb:SrB s)(hc:c∈s.lr)(hd:dec<2^20)(hN:N+10*s.sp≤80000000) :
  Calls Tryd.prog 96 #[.pointer (some ⟨g,0,none⟩),setV c,setV dec] w fun e w'=>e=.returned (.bool (idleD E s c dec))∧SrI w' B g N E s A an∧Fr treeT B w w':=by
 have hB:=h.size
 have hc20:=hb.lrt c hc
 have hBx:Below w.heap.size w ((w.alloc (.cells #[.int .i64 (tN c:Nat),.int .i64 (fN c:Nat)] 84)).alloc (.cells #[.int .i64 (tN dec:Nat),.int .i64 (fN dec:Nat)] 84)):=((Below.refl _ _).alloc (Nat.le_refl _) _).alloc (by simp) _
 have F0:Hid (Fr treeT B w ((w.alloc (.cells #[.int .i64 (tN c:Nat),.int .i64 (fN c:Nat)] 84)).alloc (.cells #[.int .i64 (tN dec:Nat),.int .i64 (fN dec:Nat)] 84))):=Fr.of _ B hBx
 have I0:=hide (h.below hB hBx)
 have R0:Hid (Row ((w.alloc (.cells #[.int .i64 (tN c:Nat),.int .i64 (fN c:Nat)] 84)).alloc (.cells #[.int .i64 (tN dec:Nat),.int .i64 (fN dec:Nat)] 84)) w.heap.size 84 [.int .i64 (tN c:Nat),.int .i64 (fN c:Nat)]):=(heap_alloc_old (w.alloc _) _ (by simp)).trans (heap_alloc_new w _)
 have R1:Hid (Row ((w.alloc (.cells #[.int .i64 (tN c:Nat),.int .i64 (fN c:Nat)] 84)).alloc (.cells #[.int .i64 (tN dec:Nat),.int .i64 (fN dec:Nat)] 84)) (w.heap.size+1) 84 [.int .i64 (tN dec:Nat),.int .i64 (fN dec:Nat)]):=heap_alloc2_new w _ _
 have HC:=hide hc
 have HBB:=hide hb
 have HSH:Hid (∃ ap cp ad cd,A.vp=.slice ap s.path.length cp∧A.vd=.slice ad s.done.length cd):=by
  obtain⟨ap,cp,e1⟩:=own_shape h.m.path
  obtain⟨ad,cd,e2⟩:=own_shape h.m.done
  exact⟨ap,cp,ad,cd,e1,e2⟩
 obtain⟨ap,cp,ad,cd,evp,evd⟩:=HSH.out
 have EVP:=hide evp
 have EVD:=hide evd
 have HRES:Hid (idleD E s c dec=(clashD (E.hv++s.lr.erase c) dec && repsD (E.hv++s.lr.erase c) s.path && repsD (E.hv++s.lr.erase c) s.done)):=rfl
 generalize idleD E s c dec=RES at *
 unfold setV
 clear h hBx hb hc evp evd HSH
 go_enter Tryd.func96,Tryd.ntmps96
 go_wp2_with fail
 generalize (w.alloc (.cells #[.int .i64 (tN c:Nat),.int .i64 (fN c:Nat)] 84)).alloc (.cells #[.int .i64 (tN dec:Nat),.int .i64 (fN dec:Nat)] 84)=w0 at *
 have x0:w0.cell? ⟨g,0,none⟩=some (.pointer (some ⟨A.cb,0,none⟩)):=(I0.out.m.row.cell 0).trans rfl
 have r0:w0.cell? ⟨w.heap.size,0,none⟩=some (.int .i64 (tN c:Nat)):=(R0.out.cell 0).trans rfl
 have r1:w0.cell? ⟨w.heap.size,1,none⟩=some (.int .i64 (fN c:Nat)):=(R0.out.cell 1).trans rfl
 have BD0:Hid (Below w0.heap.size w0 w0.drew):=below_drewN (Below.refl _ _) 1
 have HDR:=hide (dropSt_any (I0.out.t.below BD0.out) c hc20 (List.mem_append_right _ HC.out) hN)
 unfold setV at HDR
 go_cut [] from 9 (fun wc=>Hid (DropSt wc B A.cb (E.hv++s.lr) (N+10*s.sp) c)∧Hid (Fr treeT B w0 wc))
 case first =>
  go_region_with (go_at_call 77;refine(unhide HDR).mono ?_;rintro e w1 ⟨rfl,hd1,hf1⟩)
  all_goals
   go_wp2
   go_meet
   case rel=>exact⟨hd1,(Fr.of treeT B BD0.out).trans hf1⟩
 case rest =>
  obtain⟨D1,G1⟩:=hcut
  clear HDR BD0 x0 r0 r1
  generalize hwc:wc=w1 at *
  clear hwc
  have hB0:B≤w0.heap.size:=I0.out.size
  have M1:=hide (I0.out.m.tree hB0 G1.out)
  have Q0:=hide (G1.out.row R0.out set_tree)
  have Q1:=hide (G1.out.row R1.out set_tree)
  have F1:=hide (F0.out.trans G1.out)
  clear F0 G1 R0 R1 I0
  have hB1:B≤w1.heap.size:=Nat.le_of_lt (Nat.lt_of_le_of_lt M1.out.base M1.out.row.lt)
  have T1:=hide ((D1.out.tr hc20).perm (erase_perm HC.out))
  have HPU:Hid (∀ w',Below w1.heap.size w1 w'→Calls Tryd.prog 65 #[.pointer (some ⟨A.cb,0,none⟩),.agg #[.int .i64 (tN dec:Nat),.int .i64 (fN dec:Nat)]] w' fun e w''=>e=.returned (.tuple #[.agg #[.int .i64 (tN (knD (E.hv++s.lr.erase c) dec):Nat),.int .i64 (fN (knD (E.hv++s.lr.erase c) dec):Nat)],.bool (pushD (E.hv++s.lr.erase c) dec).isNone])∧Below w'.heap.size w' w''):=fun w' hb=>by
   have:=push_tr (T1.out.below hb) dec hd
   rw[pushV_kn] at this
   exact this
  have HCL:Hid (clashD (E.hv++s.lr.erase c) dec=(pushD (E.hv++s.lr.erase c) dec).isNone):=by
   show _=_
   cases hp:pushD (E.hv++s.lr.erase c) dec with
   | none=>rw[push_none.1 hp];rfl
   | some K =>
    cases hq:clashD (E.hv++s.lr.erase c) dec with
    | false=>rfl
    | true=>rw[push_none.2 hq] at hp;simp at hp
  have RP1:Hid (∀ w',Below w1.heap.size w1 w'→Calls Tryd.prog 98 #[.pointer (some ⟨g,0,none⟩),.slice ap s.path.length cp] w' fun e w''=>e=.returned (.bool (repsD (E.hv++s.lr.erase c) s.path))∧Below w'.heap.size w' w''):=fun w' hb=>by
   have m:=M1.out.below hB1 hb
   have o:=m.path
   rw[EVP.out] at o
   exact repeats_any w' B g E s A an _ _ m.row (T1.out.below hb) ap cp s.path (steps_own o) (by have:=HBB.out.path;omega) (fun p hp=>HBB.out.stp p (List.mem_append_left _ hp))
  have RP2:Hid (∀ w',Below w1.heap.size w1 w'→Calls Tryd.prog 98 #[.pointer (some ⟨g,0,none⟩),.slice ad s.done.length cd] w' fun e w''=>e=.returned (.bool (repsD (E.hv++s.lr.erase c) s.done))∧Below w'.heap.size w' w''):=fun w' hb=>by
   have m:=M1.out.below hB1 hb
   have o:=m.done
   rw[EVD.out] at o
   exact repeats_any w' B g E s A an _ _ m.row (T1.out.below hb) ad cd s.done (steps_own o) (by have:=HBB.out.done;omega) (fun p hp=>HBB.out.stp p (List.mem_append_right _ hp))
  have HAD:Hid (∀ w',Below w1.heap.size w1 w'→Calls Tryd.prog 50 #[.pointer (some ⟨A.cb,0,none⟩),.agg #[.int .i64 (tN c:Nat),.int .i64 (fN c:Nat)],.int .i64 1] w' fun e w''=>e=.returned (.tuple #[])∧Tr w'' B A.cb (E.hv++s.lr) (N+10*s.sp)∧Fr treeT B w' w''):=fun w' hb=>readd_any (D1.out.below hb) (Nat.le_trans hB1 hb.size) hN
  have C:Hid (∀ w',Below w1.heap.size w1 w'→w'.cell? ⟨g,0,none⟩=some (.pointer (some ⟨A.cb,0,none⟩))∧w'.cell? ⟨g,10,none⟩=some (.slice ap s.path.length cp)∧w'.cell? ⟨g,11,none⟩=some (.slice ad s.done.length cd)∧w'.cell? ⟨w.heap.size,0,none⟩=some (.int .i64 (tN c:Nat))∧w'.cell? ⟨w.heap.size,1,none⟩=some (.int .i64 (fN c:Nat))∧w'.cell? ⟨w.heap.size+1,0,none⟩=some (.int .i64 (tN dec:Nat))∧w'.cell? ⟨w.heap.size+1,1,none⟩=some (.int .i64 (fN dec:Nat))):=fun w' hb=>by
   have hr:=row_below M1.out.row hb
   exact⟨(hr.cell 0).trans rfl,(hr.cell 10).trans (by rw[← EVP.out];rfl),(hr.cell 11).trans (by rw[← EVD.out];rfl),((row_below Q0.out hb).cell 0).trans rfl,((row_below Q0.out hb).cell 1).trans rfl,((row_below Q1.out hb).cell 0).trans rfl,((row_below Q1.out hb).cell 1).trans rfl⟩
  generalize knD (E.hv++s.lr.erase c) dec=KN at *
  have FIN:Hid (∀ w',Tr w' B A.cb (E.hv++s.lr) (N+10*s.sp)→(∃ wm,Below w1.heap.size w1 wm∧Fr treeT B wm w')→SrI w' B g N E s A an∧Fr treeT B w w'):=fun w' ht ⟨wm,hb,hf⟩=>by
   have hf1:Fr treeT B w1 w':=(Fr.of treeT B hb).trans hf
   exact⟨⟨M1.out.tree hB1 hf1,ht⟩,F1.out.trans hf1⟩
  clear T1 D1 M1 Q0 Q1 F1 EVP EVD HC
  obtain⟨c0,_,_,_,_,c5,c6⟩:=C.out w1 (Below.refl _ _)
  obtain⟨a0,_,_,_,_,a5,a6⟩:(∀ o,(w1.alloc o).cell? ⟨g,0,none⟩=some (.pointer (some ⟨A.cb,0,none⟩)))∧True∧True∧True∧True∧(∀ o,(w1.alloc o).cell? ⟨w.heap.size+1,0,none⟩=some (.int .i64 (tN dec:Nat)))∧(∀ o,(w1.alloc o).cell? ⟨w.heap.size+1,1,none⟩=some (.int .i64 (fN dec:Nat))):=⟨fun o=>(C.out _ (alloc_below w1 o)).1,trivial,trivial,trivial,trivial,fun o=>(C.out _ (alloc_below w1 o)).2.2.2.2.2.1,fun o=>(C.out _ (alloc_below w1 o)).2.2.2.2.2.2⟩
  have BA:Hid (Below w1.heap.size w1 (w1.alloc (.cells #[.int .i64 0,.int .i64 0] 84)).drew):=below_drewN (alloc_below w1 _) 1
  have RA:Hid (Row (w1.alloc (.cells #[.int .i64 0,.int .i64 0] 84)).drew w1.heap.size 84 [.int .i64 0,.int .i64 0]):=heap_alloc_new w1 _
  have BD:Hid (Below w1.heap.size w1 w1.drew):=below_drewN (Below.refl _ _) 1
  generalize (pushD (E.hv++s.lr.erase c) dec).isNone=NB at *
  go_wp2_with fail
  go_cut [8] from 9 (fun s8 wc=>s8=.bool NB∧Hid (Below w1.heap.size w1 wc))
  case first =>
   go_region_with (first
    | (go_at_call 65;refine(unhide HPU (w1.alloc (.cells #[.int .i64 0,.int .i64 0] 84)).drew BA.out).mono ?_;rintro e w4 ⟨rfl,hb4⟩;have B4:Hid (Below w1.heap.size w1 w4):=BA.out.trans (hb4.mono BA.out.size);have X4:=hide (row_below RA.out hb4);have x0:w4.cell? ⟨w1.heap.size,0,none⟩=some (.int .i64 0):=(X4.out.cell 0).trans rfl;have x1:w4.cell? ⟨w1.heap.size,1,none⟩=some (.int .i64 0):=(X4.out.cell 1).trans rfl;have xz0:=X4.out.frozen 0;have xz1:=X4.out.frozen 1;clear hb4)
    | (go_at_call 65;refine(unhide HPU w1.drew BD.out).mono ?_;rintro e w4 ⟨rfl,hb4⟩;have B4:Hid (Below w1.heap.size w1 w4):=BD.out.trans (hb4.mono BD.out.size);clear hb4))
   all_goals
    go_wp2
    go_meet
    case rel =>
     first
      | exact⟨rfl,(B4.out.setCell (p:=⟨w1.heap.size,0,none⟩) (Nat.le_refl _) _).setCell (p:=⟨w1.heap.size,1,none⟩) (Nat.le_refl _) _⟩
      | exact⟨rfl,B4.out.alloc B4.out.size _⟩
  case rest =>
   obtain⟨rfl,B2⟩:=hcut
   clear HPU BA RA BD c0 c5 c6 a0 a5 a6
   obtain⟨c0,c1,c2,c3,c4,_,_⟩:=C.out wc B2.out
   cases NB with
   | false =>
    have HR2:Hid (RES=false):=by show _=_;rw[HRES.out,HCL.out];rfl
    clear RP1 RP2 HRES HCL
    have BD2:Hid (Below w1.heap.size w1 wc.drew):=below_drewN B2.out 1
    go_wp2_with fail
    go_region_with (go_at_call 50;refine(unhide HAD _ BD2.out).mono ?_;rintro e w5 ⟨rfl,ht5,hf5⟩)
    all_goals
     go_wp2
     go_ret
     exact⟨ret_bool HR2.out.symm,FIN.out w5 ht5 ⟨_,BD2.out,hf5⟩⟩
   | true =>
    go_wp2_with fail
    refine(unhide RP1 _ B2.out).mono ?_
    rintro e w3 ⟨rfl,hb3⟩
    have B3:Hid (Below w1.heap.size w1 w3):=B2.out.trans (hb3.mono B2.out.size)
    clear hb3 RP1 c0 c1 c2 c3 c4
    obtain⟨c0,c1,c2,c3,c4,_,_⟩:=C.out w3 B3.out
    generalize repsD (E.hv++s.lr.erase c) s.path=R1 at *
    cases R1 with
    | false =>
     have HR2:Hid (RES=false):=by show _=_;rw[HRES.out];simp
     clear RP2 HRES HCL
     have BD2:Hid (Below w1.heap.size w1 w3.drew):=below_drewN B3.out 1
     go_wp2_with fail
     go_region_with (go_at_call 50;refine(unhide HAD _ BD2.out).mono ?_;rintro e w5 ⟨rfl,ht5,hf5⟩)
     all_goals
      go_wp2
      go_ret
      exact⟨ret_bool HR2.out.symm,FIN.out w5 ht5 ⟨_,BD2.out,hf5⟩⟩
    | true =>
     go_wp2_with fail
     refine(unhide RP2 _ B3.out).mono ?_
     rintro e w4 ⟨rfl,hb4⟩
     have B4:Hid (Below w1.heap.size w1 w4):=B3.out.trans (hb4.mono B3.out.size)
     clear hb4 RP2 c0 c1 c2 c3 c4
     obtain⟨c0,c1,c2,c3,c4,_,_⟩:=C.out w4 B4.out
     have HR2:Hid (RES=repsD (E.hv++s.lr.erase c) s.done):=by show _=_;rw[HRES.out,HCL.out];simp
     generalize repsD (E.hv++s.lr.erase c) s.done=R2 at *
     clear HRES HCL
     have BD2:Hid (Below w1.heap.size w1 w4.drew):=below_drewN B4.out 1
     go_wp2_with fail
     go_region_with (go_at_call 50;refine(unhide HAD _ BD2.out).mono ?_;rintro e w5 ⟨rfl,ht5,hf5⟩)
     all_goals
      go_wp2
      go_ret
      exact⟨ret_bool HR2.out.symm,FIN.out w5 ht5 ⟨_,BD2.out,hf5⟩⟩
end Go.Proofs.YthboeppmlhbofabDoor
