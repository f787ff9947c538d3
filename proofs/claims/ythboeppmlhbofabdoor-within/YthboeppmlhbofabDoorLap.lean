import Derived.Test.YthboeppmlhbofabDoorLam
import Derived.Test.YthboeppmlhbofabDoorLak
namespace Go.Proofs.YthboeppmlhbofabDoor
open Go.RowKit Txt
set_option maxRecDepth 100000
theorem long_ret{w':World}{tmps:Array Value}{g:Nat}{p q:Value}(hr:Row w' g 84 [p,q])(h2:tmps.getD 4 undef=.pointer (some ⟨g,0,none⟩)) :
  (results Tryd.f94 tmps).run Tryd.prog w'=.ok (.agg #[p,q]) w':=by
 obtain⟨fs,hu⟩:=setType
 exact results_cell_row rfl tmps w' g 84 #[p,q] (0,0) (.struct fs) h2 hr hu rfl setSize
theorem Fr.setAbove{T:Nat→Prop}{B:Nat}{w w':World}(h:Fr T B w w'){g i:Nat}{x:Value}(hg:w.heap.size≤g):Fr T B w (w'.setCell ⟨g,i,none⟩ x):=⟨h.os,h.tape,h.output,by simpa [World.setCell] using h.size,fun b hb hc=>(Below.heap_setCell w' ⟨g,i,none⟩ x b (by show b≠g;omega)).trans (h.blk b hb hc)⟩
theorem SrI.box{w:World}{B g N:Nat}{E:Sg}{s:Sr}{A:SrA}{an:List Value}(h:SrI w B g N E s A an){gb:Nat}{zs:List Value}(hr:Row w gb 84 zs)(hv:A.vl.ownBlock≠some gb)(hB:B≤gb)(i:Nat)(x:Value):SrI (w.setCell ⟨gb,i,none⟩ x) B g N E s A an:=by
 have hBw:=h.size
 have hf:Fr (fun t=>t=84) B w (w.setCell ⟨gb,i,none⟩ x):=(Fr.refl (fun t=>t=84) B w).set hr rfl hB i x
 refine⟨⟨hf.row h.m.row (by decide),h.m.base,h.m.asm.fr hf hBw h.m.asb,h.m.asb,?_,hf.own h.m.path (by decide),hf.own h.m.done (by decide),h.m.apart,?_⟩,h.t.fr hf fun t e=>by rw[e];exact not_tree (by decide) (by decide)⟩
 ·refine⟨h.m.lr.1,?_⟩
  rcases h.m.lr.2 with hn | ⟨g',cap,cur,e,q1,hg,r⟩
  ·exact .inl hn
  ·exact .inr ⟨g',cap,cur,e,q1,(Below.heap_setCell w ⟨gb,i,none⟩ x g' (fun q=>hv (by rw[e];simp only[Value.ownBlock];exact congrArg some q))).trans hg,r⟩
 ·obtain⟨us,l1,l2,l3⟩:=h.m.lines
  exact⟨us,l1,hf.own l2 (by decide),hf.allOwn l3 (by decide)⟩
set_option maxHeartbeats 16000000 in
theorem longest_any(w:World)(B g N:Nat)(E:Sg)(s:Sr)(A:SrA)(dec:Nat)(h:SrI w B g N E s A anZero)(hb:SrB s)(hd:dec<2^20)(hN:N+10*s.sp≤80000000) :
  Calls Tryd.prog 94 #[.pointer (some ⟨g,0,none⟩),setV dec] w fun e w'=>e=.returned (setV (longD E s dec s.lr 0))∧SrI w' B g N E s A anZero∧Fr treeT B w w':=by
 have hB:=h.size
 have hB0:Below w.heap.size w (((w.alloc (.cells #[.int .i64 (tN dec:Nat),.int .i64 (fN dec:Nat)] 84)).alloc (.cells #[.int .i64 0,.int .i64 0] 84)).alloc (.cells #[.int .i64 0,.int .i64 0] 84)):=(((Below.refl _ _).alloc (Nat.le_refl _) _).alloc (by simp) _).alloc (by simp;omega) _
 have I0:=hide (h.below hB hB0)
 have F0:Hid (Fr treeT B w (((w.alloc (.cells #[.int .i64 (tN dec:Nat),.int .i64 (fN dec:Nat)] 84)).alloc (.cells #[.int .i64 0,.int .i64 0] 84)).alloc (.cells #[.int .i64 0,.int .i64 0] 84))):=Fr.of treeT B hB0
 have R2:Hid (Row (((w.alloc (.cells #[.int .i64 (tN dec:Nat),.int .i64 (fN dec:Nat)] 84)).alloc (.cells #[.int .i64 0,.int .i64 0] 84)).alloc (.cells #[.int .i64 0,.int .i64 0] 84)) (w.heap.size+1+1) 84 [.int .i64 0,.int .i64 0]):=row_alloc3 w _ _ _ _
 have q1:Row ((w.alloc (.cells #[.int .i64 (tN dec:Nat),.int .i64 (fN dec:Nat)] 84)).alloc (.cells #[.int .i64 0,.int .i64 0] 84)) (w.heap.size+1) 84 [.int .i64 0,.int .i64 0]:=heap_alloc2_new w _ _
 have R1:Hid (Row (((w.alloc (.cells #[.int .i64 (tN dec:Nat),.int .i64 (fN dec:Nat)] 84)).alloc (.cells #[.int .i64 0,.int .i64 0] 84)).alloc (.cells #[.int .i64 0,.int .i64 0] 84)) (w.heap.size+1) 84 [.int .i64 0,.int .i64 0]):=row_below q1 (alloc_below _ _)
 have q0:Row ((w.alloc (.cells #[.int .i64 (tN dec:Nat),.int .i64 (fN dec:Nat)] 84)).alloc (.cells #[.int .i64 0,.int .i64 0] 84)) w.heap.size 84 [.int .i64 (tN dec:Nat),.int .i64 (fN dec:Nat)]:=(heap_alloc_old (w.alloc _) _ (by simp)).trans (heap_alloc_new w _)
 have R0:Hid (Row (((w.alloc (.cells #[.int .i64 (tN dec:Nat),.int .i64 (fN dec:Nat)] 84)).alloc (.cells #[.int .i64 0,.int .i64 0] 84)).alloc (.cells #[.int .i64 0,.int .i64 0] 84)) w.heap.size 84 [.int .i64 (tN dec:Nat),.int .i64 (fN dec:Nat)]):=row_below q0 (alloc_below _ _)
 have HSH:Hid (∃ al cl,A.vl=.slice al s.lr.length cl):=own_shape h.m.lr
 obtain⟨al,cl,evl⟩:=HSH.out
 have EVL:=hide evl
 have OWN:Hid (∀ b,A.vl.ownBlock=some b→b<w.heap.size):=fun b q=>(h.m.lr.lt b q).2
 have HBB:=hide hb
 have z00:tN 0=0∧fN 0=0:=by
  obtain⟨a,b⟩:=Two.zero.eq
  exact⟨a.symm,b.symm⟩
 have HF:Hid (longD E s dec (s.lr.drop 0) 0=longD E s dec s.lr 0):=rfl
 generalize longD E s dec s.lr 0=RES at *
 have hll:=hb.lr
 unfold setV
 clear h hB0 q0 q1 hb evl HSH
 go_enter Tryd.func94,Tryd.ntmps94
 have c8:=(I0.out.m.row.cell 8).trans (show _=some (Value.slice al s.lr.length cl) by rw[← EVL.out];rfl)
 go_wp2_with fail
 clear c8
 generalize (((w.alloc (.cells #[.int .i64 (tN dec:Nat),.int .i64 (fN dec:Nat)] 84)).alloc (.cells #[.int .i64 0,.int .i64 0] 84)).alloc (.cells #[.int .i64 0,.int .i64 0] 84))=w0 at *
 go_loopw [14] (fun x14 wr=>∃ (k m:Nat),k≤s.lr.length∧m<2^20∧x14=.int .i64 k∧Hid (longD E s dec (s.lr.drop k) m=RES)∧Hid (SrI wr B g N E s A anZero)∧Hid (Fr treeT B w wr)∧Hid (Row wr w.heap.size 84 [.int .i64 (tN dec:Nat),.int .i64 (fN dec:Nat)])∧Hid (Row wr (w.heap.size+1) 84 [.int .i64 0,.int .i64 0])∧Hid (Row wr (w.heap.size+1+1) 84 [.int .i64 (tN m:Nat),.int .i64 (fN m:Nat)])) (fun x14 _=>s.lr.length - (intOf x14).toNat)
 case atStart=>exact⟨0,0,Nat.zero_le _,by decide,rfl,HF,I0,F0,R0,R1,by rw[z00.1,z00.2];exact R2⟩
 case round =>
  clear HF I0 F0 R0 R1 R2
  obtain⟨k,m,hk,hm,rfl,L,I,F,D,Z,M⟩:=hrel
  by_cases hlt:k<s.lr.length
  ·have ol:=I.out.m.lr
   rw[EVL.out] at ol
   have ol':wr.ownsRow B 84 2 (.slice al (prL s.lr).length cl) (prL s.lr).length (prCells (prL s.lr)):=by rw[prL_len];exact ol
   obtain⟨b,off,rfl,hcc⟩:=(sets_own ol').get (by rw[prL_len];omega)
   obtain⟨q0,q1⟩:=hcc k (by rw[prL_len];omega)
   rw[prL_get s.lr k hlt] at q0 q1
   have l2:=L.out
   rw[drop_get s.lr 0 k hlt] at l2
   simp only[longD] at l2
   have hmem:=get_mem s.lr k hlt
   generalize s.lr.getD k 0=c at *
   have L2:=hide l2
   have HM:=hide hmem
   have hc20:=HBB.out.lrt c hmem
   have i1:(0:Int)≤(k:Int):=by omega
   have i2:(k:Int)<(s.lr.length:Int):=by omega
   have HS1:Hid (∀ w,Calls Tryd.prog 45 #[.agg #[.int .i64 (tN c:Nat),.int .i64 (fN c:Nat)]] w fun e w'=>e=.returned (.int .i64 (sizeN c:Nat))∧Below w.heap.size w w'):=fun w=>ssize_any c hc20 w
   have HS2:Hid (∀ w,Calls Tryd.prog 45 #[.agg #[.int .i64 (tN m:Nat),.int .i64 (fN m:Nat)]] w fun e w'=>e=.returned (.int .i64 (sizeN m:Nat))∧Below w.heap.size w w'):=fun w=>ssize_any m hm w
   have HID:Hid (∀ w',SrI w' B g N E s A anZero→Calls Tryd.prog 96 #[.pointer (some ⟨g,0,none⟩),.agg #[.int .i64 (tN c:Nat),.int .i64 (fN c:Nat)],.agg #[.int .i64 (tN dec:Nat),.int .i64 (fN dec:Nat)]] w' fun e w''=>e=.returned (.bool (idleD E s c dec))∧SrI w'' B g N E s A anZero∧Fr treeT B w' w''):=fun w' hi=>isIdle_any w' B g N E s A anZero c dec hi HBB.out HM.out hd hN
   clear hcc l2 L ol ol' hmem
   go_wp2_with fail
   have bA:=alloc_below wr (.cells #[.int .i64 (tN c:Nat),.int .i64 (fN c:Nat)] 84)
   have C3:Hid (Row (wr.alloc (.cells #[.int .i64 (tN c:Nat),.int .i64 (fN c:Nat)] 84)) wr.heap.size 84 [.int .i64 (tN c:Nat),.int .i64 (fN c:Nat)]):=heap_alloc_new wr _
   have I3:=hide (I.out.below I.out.size bA)
   have F3:=hide (F.out.below bA)
   have D3:=hide (row_below D.out bA)
   have Z3:=hide (row_below Z.out bA)
   have M3:=hide (row_below M.out bA)
   have hgc:w.heap.size+1+1<wr.heap.size:=M.out.lt
   clear bA q0 q1 I F D Z M
   generalize wr.alloc (.cells #[.int .i64 (tN c:Nat),.int .i64 (fN c:Nat)] 84)=w3 at *
   generalize wr.heap.size=gc at *
   have C:Hid (∀ w',Below w3.heap.size w3 w'→w'.cell? ⟨gc,0,none⟩=some (.int .i64 (tN c:Nat))∧w'.cell? ⟨gc,1,none⟩=some (.int .i64 (fN c:Nat))∧w'.cell? ⟨w.heap.size+1+1,0,none⟩=some (.int .i64 (tN m:Nat))∧w'.cell? ⟨w.heap.size+1+1,1,none⟩=some (.int .i64 (fN m:Nat))):=fun w' hb=>⟨((row_below C3.out hb).cell 0).trans rfl,((row_below C3.out hb).cell 1).trans rfl,((row_below M3.out hb).cell 0).trans rfl,((row_below M3.out hb).cell 1).trans rfl⟩
   obtain⟨f1,f2,f3,f4⟩:=C.out w3 (Below.refl _ _)
   have BD:Hid (Below w3.heap.size w3 w3.drew):=below_drewN (Below.refl _ _) 1
   go_cut [22] from 15 to 29 (fun s22 wc=>s22=.bool (decide (sizeN c≤sizeN m))∧Hid (Below w3.heap.size w3 wc))
   case first =>
    go_region_with (first
     | (go_at_call_of 45 (Value.agg #[.int .i64 (tN c:Nat),.int .i64 (fN c:Nat)]);refine(unhide HS1 _).mono ?_;rintro e wa ⟨rfl,hba⟩;have BD:Hid (Below w3.heap.size w3 wa):=BD.out.trans (hba.mono BD.out.size);clear hba;obtain⟨f1,f2,f3,f4⟩:=C.out wa BD.out)
     | (go_at_call_of 45 (Value.agg #[.int .i64 (tN m:Nat),.int .i64 (fN m:Nat)]);refine(unhide HS2 _).mono ?_;rintro e wa ⟨rfl,hba⟩;have BD:Hid (Below w3.heap.size w3 wa):=BD.out.trans (hba.mono BD.out.size);clear hba;obtain⟨f1,f2,f3,f4⟩:=C.out wa BD.out))
    all_goals
     go_wp2
     go_meet
     case rel=>exact⟨rfl,BD⟩
   case rest =>
    obtain⟨rfl,BC⟩:=hcut
    have I4:=hide (I3.out.below I3.out.size BC.out)
    have F4:=hide (F3.out.below BC.out)
    have D4:=hide (row_below D3.out BC.out)
    have Z4:=hide (row_below Z3.out BC.out)
    have M4:=hide (row_below M3.out BC.out)
    have C4:=hide (row_below C3.out BC.out)
    clear I3 F3 D3 Z3 M3 C3 C f1 f2 f3 f4 BD HS1 HS2
    by_cases hle:sizeN c≤sizeN m
    ·have L3:Hid (longD E s dec (s.lr.drop (k+1)) m=RES):=by
      have:=L2.out
      rw[if_pos hle] at this
      exact this
     have hlei:=hle
     clear L2 HID
     go_wp2
     go_roundw
     case rel=>exact⟨k+1,m,by omega,hm,by go_num,L3,I4,F4,D4,Z4,M4⟩
     case measure=>simp[intOf];omega
    ·have hlei:=hle
     have x0:wc.cell? ⟨gc,0,none⟩=some (.int .i64 (tN c:Nat)):=(C4.out.cell 0).trans rfl
     have x1:wc.cell? ⟨gc,1,none⟩=some (.int .i64 (fN c:Nat)):=(C4.out.cell 1).trans rfl
     have x2:wc.cell? ⟨w.heap.size,0,none⟩=some (.int .i64 (tN dec:Nat)):=(D4.out.cell 0).trans rfl
     have x3:wc.cell? ⟨w.heap.size,1,none⟩=some (.int .i64 (fN dec:Nat)):=(D4.out.cell 1).trans rfl
     have L3:Hid (longD E s dec (s.lr.drop (k+1)) (if idleD E s c dec then c else m)=RES):=by
      have:=L2.out
      rw[if_neg hle] at this
      exact this
     clear L2
     go_wp2_with fail
     refine(unhide HID _ I4.out).mono ?_
     rintro e w5 ⟨rfl,hi5,hf5⟩
     have I5:=hide hi5
     have F5:=hide (F4.out.trans hf5)
     have D5:=hide (hf5.row D4.out set_tree)
     have Z5:=hide (hf5.row Z4.out set_tree)
     have M5:=hide (hf5.row M4.out set_tree)
     have C5:=hide (hf5.row C4.out set_tree)
     clear hi5 hf5 I4 F4 D4 Z4 M4 C4 x0 x1 x2 x3 HID
     generalize idleD E s c dec=ID at *
     cases ID with
     | true =>
      have x0:w5.cell? ⟨gc,0,none⟩=some (.int .i64 (tN c:Nat)):=(C5.out.cell 0).trans rfl
      have x1:w5.cell? ⟨gc,1,none⟩=some (.int .i64 (fN c:Nat)):=(C5.out.cell 1).trans rfl
      have x2:w5.cell? ⟨w.heap.size+1+1,0,none⟩=some (.int .i64 (tN m:Nat)):=(M5.out.cell 0).trans rfl
      have x3:w5.cell? ⟨w.heap.size+1+1,1,none⟩=some (.int .i64 (fN m:Nat)):=(M5.out.cell 1).trans rfl
      have z0:=M5.out.frozen 0
      have z1:=M5.out.frozen 1
      have hv:A.vl.ownBlock≠some (w.heap.size+1+1):=fun q=>by have:=OWN.out _ q;omega
      have I6:=hide ((I5.out.box M5.out hv (by omega) 0 (.int .i64 (tN c:Nat))).box (M5.out.set 0 _) hv (by omega) 1 (.int .i64 (fN c:Nat)))
      have F6:Hid (Fr treeT B w ((w5.setCell ⟨w.heap.size+1+1,0,none⟩ (.int .i64 (tN c:Nat))).setCell ⟨w.heap.size+1+1,1,none⟩ (.int .i64 (fN c:Nat)))):=(F5.out.setAbove (by omega)).setAbove (by omega)
      have M6:=hide ((M5.out.set 0 (.int .i64 (tN c:Nat))).set 1 (.int .i64 (fN c:Nat)))
      have D6:Hid (Row ((w5.setCell ⟨w.heap.size+1+1,0,none⟩ (.int .i64 (tN c:Nat))).setCell ⟨w.heap.size+1+1,1,none⟩ (.int .i64 (fN c:Nat))) w.heap.size 84 [.int .i64 (tN dec:Nat),.int .i64 (fN dec:Nat)]):=((Below.heap_setCell _ ⟨w.heap.size+1+1,1,none⟩ _ _ (by show w.heap.size≠w.heap.size+1+1;omega)).trans (Below.heap_setCell _ ⟨w.heap.size+1+1,0,none⟩ _ _ (by show w.heap.size≠w.heap.size+1+1;omega))).trans D5.out
      have Z6:Hid (Row ((w5.setCell ⟨w.heap.size+1+1,0,none⟩ (.int .i64 (tN c:Nat))).setCell ⟨w.heap.size+1+1,1,none⟩ (.int .i64 (fN c:Nat))) (w.heap.size+1) 84 [.int .i64 0,.int .i64 0]):=((Below.heap_setCell _ ⟨w.heap.size+1+1,1,none⟩ _ _ (by show w.heap.size+1≠w.heap.size+1+1;omega)).trans (Below.heap_setCell _ ⟨w.heap.size+1+1,0,none⟩ _ _ (by show w.heap.size+1≠w.heap.size+1+1;omega))).trans Z5.out
      have L4:Hid (longD E s dec (s.lr.drop (k+1)) c=RES):=L3.out
      clear I5 F5 D5 Z5 M5 C5 L3 hv
      go_wp2
      go_roundw
      case rel=>exact⟨k+1,c,by omega,hc20,by go_num,L4,I6,F6,D6,Z6,M6⟩
      case measure=>simp[intOf];omega
     | false =>
      have L4:Hid (longD E s dec (s.lr.drop (k+1)) m=RES):=L3.out
      clear L3
      go_wp2
      go_roundw
      case rel=>exact⟨k+1,m,by omega,hm,by go_num,L4,I5,F5,D5,Z5,M5⟩
      case measure=>simp[intOf];omega
  ·obtain rfl:k=s.lr.length:=by omega
   have HRS:Hid (m=RES):=by
    show _=_
    have:=L.out
    rw[List.drop_eq_nil_of_le (Nat.le_refl _)] at this
    exact this
   have x0:wr.cell? ⟨w.heap.size+1+1,0,none⟩=some (.int .i64 (tN m:Nat)):=(M.out.cell 0).trans rfl
   have x1:wr.cell? ⟨w.heap.size+1+1,1,none⟩=some (.int .i64 (fN m:Nat)):=(M.out.cell 1).trans rfl
   have y0:wr.cell? ⟨w.heap.size+1,0,none⟩=some (.int .i64 0):=(Z.out.cell 0).trans rfl
   have y1:wr.cell? ⟨w.heap.size+1,1,none⟩=some (.int .i64 0):=(Z.out.cell 1).trans rfl
   have z0:=Z.out.frozen 0
   have z1:=Z.out.frozen 1
   have hv:A.vl.ownBlock≠some (w.heap.size+1):=fun q=>by have:=OWN.out _ q;omega
   have I6:=hide ((I.out.box Z.out hv (by omega) 0 (.int .i64 (tN m:Nat))).box (Z.out.set 0 _) hv (by omega) 1 (.int .i64 (fN m:Nat)))
   have F6:Hid (Fr treeT B w ((wr.setCell ⟨w.heap.size+1,0,none⟩ (.int .i64 (tN m:Nat))).setCell ⟨w.heap.size+1,1,none⟩ (.int .i64 (fN m:Nat)))):=(F.out.setAbove (by omega)).setAbove (by omega)
   have R9:=hide ((Z.out.set 0 (.int .i64 (tN m:Nat))).set 1 (.int .i64 (fN m:Nat)))
   clear hv L
   go_wp2
   refine bodyPost_ret (v:=.agg #[.int .i64 (tN m:Nat),.int .i64 (fN m:Nat)]) (long_ret R9.out rfl) rfl ⟨by rw[HRS.out],I6.out,F6.out⟩
theorem SrM.newLearnt{w:World}{B g:Nat}{E:Sg}{s:Sr}{A:SrA}(h:SrM w B g E s A anZero){v':Value}{lr':List Nat}(hown:w.ownsRow B 84 2 v' lr'.length (prCells (prL lr'))) :
  SrM (w.setCell ⟨g,8,none⟩ v') B g E { s with lr:=lr' } { A with vl:=v' } anZero∧Fr lwT B w (w.setCell ⟨g,8,none⟩ v'):=by
 have hB:B≤w.heap.size:=Nat.le_of_lt (Nat.lt_of_le_of_lt h.base h.row.lt)
 have st:∀ {b e k n:Nat} {v:Value} {zs:List Value},w.ownsRow b e k v n zs→e≠93→(w.setCell ⟨g,8,none⟩ v').ownsRow b e k v n zs:=fun ho he=>own_setN h.row 8 v' he ho
 have hfs:Fr lwT B w (w.setCell ⟨g,8,none⟩ v'):=(Fr.refl lwT B w).set h.row (.inr rfl) h.base 8 v'
 obtain⟨us,l1,l2,l3⟩:=h.lines
 exact⟨⟨h.row.set 8 v',h.base,h.asm.fr hfs hB h.asb,h.asb,st hown (by decide),st h.path (by decide),st h.done (by decide),h.apart,us,l1,st l2 (by decide),l3.map fun _ _ _ _ ho=>st ho (by decide)⟩,hfs⟩
set_option maxHeartbeats 16000000 in
theorem makeRoom_any(w:World)(B g N:Nat)(E:Sg)(s:Sr)(A:SrA)(dec:Nat)(h:SrI w B g N E s A anZero)(hb:SrB s)(hd:dec<2^20)(hN:N+10*s.sp≤80000000)(hlong:¬ (E.r=0∨(s.lr.length:Int)<E.r)→longD E s dec s.lr 0∈s.lr) :
  Calls Tryd.prog 85 #[.pointer (some ⟨g,0,none⟩),setV dec] w (SrPost w B g N E A (mkr E s dec)):=by
 have hB:=h.size
 have HSH:Hid (∃ al cl,A.vl=.slice al s.lr.length cl):=own_shape h.m.lr
 obtain⟨al,cl,evl⟩:=HSH.out
 have EVL:=hide evl
 clear evl HSH
 have OWN:Hid (∀ b,A.vl.ownBlock=some b→b<w.heap.size):=fun b q=>(h.m.lr.lt b q).2
 have h1:=hb.h1
 have h2:=hb.h2
 have hll:=hb.lr
 have HBB:=hide hb
 have HLG:Hid (∀ w',SrI w' B g N E s A anZero→Calls Tryd.prog 94 #[.pointer (some ⟨g,0,none⟩),.agg #[.int .i64 (tN dec:Nat),.int .i64 (fN dec:Nat)]] w' fun e w''=>e=.returned (.agg #[.int .i64 (tN (longD E s dec s.lr 0):Nat),.int .i64 (fN (longD E s dec s.lr 0):Nat)])∧SrI w'' B g N E s A anZero∧Fr treeT B w' w''):=fun w' hi=>longest_any w' B g N E s A dec hi HBB.out hd hN
 have HRES:Hid (mkr E s dec=if E.r=0∨(s.lr.length:Int)<E.r then .go s else match wrt 100 (longD E s dec s.lr 0) s with | .fin s x=>.fin s x | .go s'=>.go { s' with lr:=s'.lr.erase (longD E s dec s.lr 0),h:=s'.h+(sizeN (longD E s dec s.lr 0):Int) }):=rfl
 have HLO:=hide hlong
 generalize mkr E s dec=RES at *
 generalize longD E s dec s.lr 0=c at *
 have B0:=hide (alloc_below w (.cells #[.int .i64 (tN dec:Nat),.int .i64 (fN dec:Nat)] 84))
 have I0:=hide (h.below hB B0.out)
 have R0:Hid (Row (w.alloc (.cells #[.int .i64 (tN dec:Nat),.int .i64 (fN dec:Nat)] 84)) w.heap.size 84 [.int .i64 (tN dec:Nat),.int .i64 (fN dec:Nat)]):=heap_alloc_new w _
 unfold setV
 clear h hb hlong
 go_enter Tryd.func85,Tryd.ntmps85
 go_wp2_with fail
 generalize w.alloc (.cells #[.int .i64 (tN dec:Nat),.int .i64 (fN dec:Nat)] 84)=w0 at *
 have c5:w0.cell? ⟨g,5,none⟩=some (.int .i64 E.r):=(I0.out.m.row.cell 5).trans rfl
 have c8:w0.cell? ⟨g,8,none⟩=some (.slice al s.lr.length cl):=(I0.out.m.row.cell 8).trans (by rw[← EVL.out];rfl)
 have BD:Hid (Below w0.heap.size w0 w0.drew):=below_drewN (Below.refl _ _) 1
 go_cut [24] from 6 (fun s24 wc=>s24=.bool (decide (E.r=0∨(s.lr.length:Int)<E.r))∧Hid (Below w0.heap.size w0 wc))
 case first =>
  by_cases hr0:E.r=0
  ·have e0:(E.r == 0)=true:=by simpa using hr0
   go_region
   all_goals
    go_wp2
    go_meet
    case rel=>exact⟨by simp[hr0],BD⟩
  ·have e0:(E.r == 0)=false:=by simpa using hr0
   by_cases hlt:(s.lr.length:Int)<E.r
   ·go_region
    all_goals
     go_wp2
     go_meet
     case rel=>exact⟨by simp[hlt],BD⟩
   ·go_region
    all_goals
     go_wp2
     go_meet
     case rel=>exact⟨by simp[hr0,hlt],BD⟩
 case rest =>
  obtain⟨rfl,BC⟩:=hcut
  have I1:=hide (I0.out.below I0.out.size BC.out)
  have R1:=hide (row_below R0.out BC.out)
  have B1:Hid (Below w.heap.size w wc):=B0.out.trans (BC.out.mono B0.out.size)
  clear I0 R0 B0 BC BD c5 c8
  by_cases hcond:E.r=0∨(s.lr.length:Int)<E.r
  ·have HR:Hid (RES=.go s):=by show _=_;rw[HRES.out,if_pos hcond]
   have hdc:decide (E.r=0∨(s.lr.length:Int)<E.r)=true:=by simpa using hcond
   rw[hdc]
   clear hcond hdc HRES HLO HLG
   go_wp2
   go_ret
   rw[HR.out]
   exact⟨Fr.of srT B B1.out,SetK.fr _ (Fr.of (fun _=>False) B B1.out) id,rfl,A,rfl,rfl,rfl,Mov.refl _ _,I1.out⟩
  ·have HR:Hid (RES=match wrt 100 c s with | .fin s x=>.fin s x | .go s'=>.go { s' with lr:=s'.lr.erase c,h:=s'.h+(sizeN c:Int) }):=by show _=_;rw[HRES.out,if_neg hcond]
   have hmem:=HLO.out hcond
   have hc20:=HBB.out.lrt c hmem
   have HM:=hide hmem
   have hsz:=sizeN_le c
   have hdc:decide (E.r=0∨(s.lr.length:Int)<E.r)=false:=by simpa using hcond
   rw[hdc]
   have HSZ:Hid (∀ w,Calls Tryd.prog 45 #[.agg #[.int .i64 (tN c:Nat),.int .i64 (fN c:Nat)]] w fun e w'=>e=.returned (.int .i64 (sizeN c:Nat))∧Below w.heap.size w w'):=fun w=>ssize_any c hc20 w
   have HWR:Hid (∀ w',SrI w' B g N E s A anZero→Calls Tryd.prog 81 #[.pointer (some ⟨g,0,none⟩),.int .u8 100,.agg #[.int .i64 (tN c:Nat),.int .i64 (fN c:Nat)]] w' (SrPost w' B g N E A (wrt 100 c s))):=fun w' hi=>swrite_any w' B g N E s A 100 c hi HBB.out hc20
   have HWD:Hid ((∃ s1 x,wrt 100 c s=.fin s1 x)∨∃ l1 ls1,wrt 100 c s=.go { s with l:=l1,ls:=ls1 }):=by
    unfold wrt
    split
    ·exact .inl ⟨_,_,rfl⟩
    ·exact .inr ⟨_,_,rfl⟩
   have x0:wc.cell? ⟨w.heap.size,0,none⟩=some (.int .i64 (tN dec:Nat)):=(R1.out.cell 0).trans rfl
   have x1:wc.cell? ⟨w.heap.size,1,none⟩=some (.int .i64 (fN dec:Nat)):=(R1.out.cell 1).trans rfl
   clear HRES HLO hcond hdc hmem
   go_wp2_with fail
   refine(unhide HLG _ I1.out).mono ?_
   rintro e w1 ⟨rfl,hi1,hf1⟩
   have I2:=hide hi1
   have F2:=hide ((Fr.of treeT B B1.out).trans hf1)
   clear hi1 hf1 HLG x0 x1 I1 R1
   go_wp2_with fail
   have C3:Hid (Row (w1.alloc (.cells #[.int .i64 (tN c:Nat),.int .i64 (fN c:Nat)] 84)) w1.heap.size 84 [.int .i64 (tN c:Nat),.int .i64 (fN c:Nat)]):=heap_alloc_new w1 _
   have I3:=hide (I2.out.below I2.out.size (alloc_below w1 (.cells #[.int .i64 (tN c:Nat),.int .i64 (fN c:Nat)] 84)))
   have F3:=hide (F2.out.below (alloc_below w1 (.cells #[.int .i64 (tN c:Nat),.int .i64 (fN c:Nat)] 84)))
   have hbx:A.vl.ownBlock≠some w1.heap.size:=fun q=>by have:=OWN.out _ q;have:=F2.out.size;omega
   have HBX:=hide hbx
   refine(unhide HWR _ I3.out).mono ?_
   generalize w1.alloc (.cells #[.int .i64 (tN c:Nat),.int .i64 (fN c:Nat)] 84)=w3 at *
   generalize w1.heap.size=gc at *
   clear hbx I2 F2
   intro e w4 hp
   have K3:=hide (SetK.fr A.vl F3.out set_tree)
   rcases HWD.out with⟨s1,x,hw⟩ | ⟨l1,ls1,hw⟩
   ·rw[hw] at hp
    obtain⟨p1,p2,rfl,A1,an1,q1,q2,q3,q4,q5,q6⟩:=hp
    have HR2:Hid (RES=.fin s1 x):=by show _=_;rw[HR.out,hw]
    have P:=hide (And.intro p1 (And.intro p2 (And.intro q4 (And.intro q5 q6))))
    have HQ:=hide (And.intro q1 (And.intro q2 q3))
    clear p1 p2 q1 q2 q3 q4 q5 q6 hw HR HWD HWR
    go_wp2
    go_ret
    rw[HR2.out]
    exact⟨(F3.out.mono fun t q=>srT_tree q).trans P.out.1,K3.out.trans (Mov.refl _ _) F3.out.size P.out.2.1,rfl,A1,an1,HQ.out.1,HQ.out.2.1,HQ.out.2.2,fun b hb=>(P.out.2.2.1 b hb).imp id fun q=>Nat.le_trans F3.out.size q,P.out.2.2.2.1,P.out.2.2.2.2⟩
   ·rw[hw] at hp
    obtain⟨p1,p2,rfl,A1,q1,q2,q3,q4,q5⟩:=hp
    have HR2:Hid (RES=.go { lr:=s.lr.erase c,h:=s.h+(sizeN c:Int),l:=l1,sp:=s.sp,path:=s.path,done:=s.done,ls:=ls1,vals:=s.vals }):=by show _=_;rw[HR.out,hw]
    have I4:=hide q5
    have HQ:=hide (And.intro q1 (And.intro q2 q3))
    have F4:=hide ((F3.out.mono fun t q=>srT_tree q).trans p1)
    have K4:=hide (K3.out.trans (Mov.refl _ _) F3.out.size p2)
    have M4:Hid (Mov A.vl A1.vl w):=fun b hb=>(q4 b hb).imp id fun q=>Nat.le_trans F3.out.size q
    have R4:=hide (p2.row C3.out HBX.out)
    have HSH:Hid (∃ al cl,A1.vl=.slice al s.lr.length cl):=own_shape q5.m.lr
    clear p1 p2 q1 q2 q3 q4 q5 hw HR HWD HWR I3 C3 F3 K3
    obtain⟨al1,cl1,evl⟩:=HSH.out
    have EVL1:=hide evl
    clear evl HSH
    have e0:w4.cell? ⟨g,0,none⟩=some (.pointer (some ⟨A1.cb,0,none⟩)):=(I4.out.m.row.cell 0).trans rfl
    have e1:w4.cell? ⟨gc,0,none⟩=some (.int .i64 (tN c:Nat)):=(R4.out.cell 0).trans rfl
    have e2:w4.cell? ⟨gc,1,none⟩=some (.int .i64 (fN c:Nat)):=(R4.out.cell 1).trans rfl
    have BD4:Hid (Below w4.heap.size w4 w4.drew):=below_drewN (Below.refl _ _) 1
    have HDR:=hide (drop_tr (I4.out.t.below BD4.out) c hc20 (List.mem_append_right _ HM.out) hN)
    unfold setV at HDR
    go_wp2_with fail
    go_cut [] from 6 (fun wx=>Hid (Tr wx B A1.cb (E.hv++s.lr.erase c) (N+10*s.sp))∧Hid (Fr treeT B w4 wx))
    case first =>
     go_region_with (go_at_call 77;refine(unhide HDR).mono ?_;rintro e w5 ⟨rfl,_,ht5,hf5⟩)
     all_goals
      go_wp2
      go_meet
      case rel=>exact⟨ht5.perm (erase_perm HM.out),(Fr.of treeT B BD4.out).trans hf5⟩
    case rest =>
     obtain⟨T5,F5⟩:=hcut
     generalize hwx:wc=w5 at *
     clear hwx HDR BD4 e0 e1 e2
     have M5:=hide (I4.out.m.tree I4.out.size F5.out)
     have R5:=hide (F5.out.row R4.out set_tree)
     have hB5:B≤w5.heap.size:=Nat.le_of_lt (Nat.lt_of_le_of_lt M5.out.base M5.out.row.lt)
     have ol:=M5.out.lr
     rw[EVL1.out] at ol
     have ol':w5.ownsRow B 84 2 (.slice al1 (prL s.lr).length cl1) (prL s.lr).length (prCells (prL s.lr)):=by rw[prL_len];exact ol
     have SA:=hide (sets_own ol')
     clear ol ol'
     have e8:w5.cell? ⟨g,8,none⟩=some (.slice al1 s.lr.length cl1):=(M5.out.row.cell 8).trans (by rw[← EVL1.out];rfl)
     have e1:w5.cell? ⟨gc,0,none⟩=some (.int .i64 (tN c:Nat)):=(R5.out.cell 0).trans rfl
     have e2:w5.cell? ⟨gc,1,none⟩=some (.int .i64 (fN c:Nat)):=(R5.out.cell 1).trans rfl
     have BD5:Hid (Below w5.heap.size w5 w5.drew):=below_drewN (Below.refl _ _) 1
     have HLV:=hide (leaveOut_any al1 cl1 s.lr c w5.drew (SA.out.below BD5.out) (by omega) HBB.out.lrt hc20)
     unfold setV at HLV
     go_wp2_with fail
     go_cut [] from 6 (fun wx=>∃ v',Hid (SrM wx B g E { lr:=s.lr.erase c,h:=s.h,l:=l1,sp:=s.sp,path:=s.path,done:=s.done,ls:=ls1,vals:=s.vals } { A1 with vl:=v' } anZero)∧Hid (Fr lwT B w5 wx)∧Hid (Mov A1.vl v' w5))
     case first =>
      go_region_with (go_at_call 57;refine(unhide HLV).mono ?_;rintro e w6 ⟨⟨a6,c6,rfl,ho6⟩,hb6⟩;have B6:Hid (Below w5.heap.size w5 w6):=BD5.out.trans (hb6.mono BD5.out.size);have M6:=hide (M5.out.below hB5 B6.out);have g8:w6.cell? ⟨g,8,none⟩=some (.slice al1 s.lr.length cl1):=(M6.out.row.cell 8).trans (by rw[← EVL1.out];rfl);have g8':=M6.out.row.frozen 8)
      all_goals
       have FIN:=hide (M6.out.newLearnt (v':=.slice a6 (s.lr.erase c).length c6) (own_low ho6 (Nat.le_trans hB5 BD5.out.size)))
       have MM:Hid (Mov A1.vl (.slice a6 (s.lr.erase c).length c6) w5):=fun b hbk=>.inr (Nat.le_trans BD5.out.size (ho6.lt b hbk).1)
       clear ho6 hb6
       go_wp2
       go_meet
       case rel=>exact⟨_,FIN.out.1,(Fr.of lwT B B6.out).trans FIN.out.2,MM⟩
     case rest =>
      obtain⟨v',M7,F7,MV7⟩:=hcut
      generalize hwx:wc=w7 at *
      clear hwx HLV BD5 e8 e1 e2
      have R7:=hide (F7.out.row R5.out set_wr)
      have T7:=hide (T5.out.fr F7.out tree_lw)
      have C:Hid (∀ w',Below w7.heap.size w7 w'→w'.cell? ⟨g,6,none⟩=some (.int .i64 s.h)∧w'.cell? ⟨gc,0,none⟩=some (.int .i64 (tN c:Nat))∧w'.cell? ⟨gc,1,none⟩=some (.int .i64 (fN c:Nat))):=fun w' hb'=>⟨((row_below M7.out.row hb').cell 6).trans rfl,((row_below R7.out hb').cell 0).trans rfl,((row_below R7.out hb').cell 1).trans rfl⟩
      obtain⟨f1,f2,f3⟩:=C.out w7 (Below.refl _ _)
      have BD:Hid (Below w7.heap.size w7 w7.drew):=below_drewN (Below.refl _ _) 1
      have hwr:IntKind.i64.wrap (s.h+(sizeN c:Int))=s.h+(sizeN c:Int):=by rw[IntKind.wrap_i64];omega
      have hB7:B≤w7.heap.size:=Nat.le_of_lt (Nat.lt_of_le_of_lt M7.out.base M7.out.row.lt)
      go_wp2_with fail
      go_region_with (go_at_call 45;refine(unhide HSZ _).mono ?_;rintro e wb ⟨rfl,hbb⟩;have Bd:Hid (Below w7.heap.size w7 wb):=BD.out.trans (hbb.mono BD.out.size);clear hbb;obtain⟨f1,f2,f3⟩:=C.out wb Bd.out;have z6:=(row_below M7.out.row Bd.out).frozen 6)
      all_goals
       have p2:=M7.out.below hB7 Bd.out
       have m6:=p2.put 6 (.int .i64 (s.h+(sizeN c:Int))) (s':={ lr:=s.lr.erase c,h:=s.h+(sizeN c:Int),l:=l1,sp:=s.sp,path:=s.path,done:=s.done,ls:=ls1,vals:=s.vals }) (A':={ A1 with vl:=v' }) (an':=anZero) rfl rfl rfl rfl rfl rfl rfl rfl rfl rfl
       have I8:Hid (SrI (wb.setCell ⟨g,6,none⟩ (.int .i64 (s.h+(sizeN c:Int)))) B g N E { lr:=s.lr.erase c,h:=s.h+(sizeN c:Int),l:=l1,sp:=s.sp,path:=s.path,done:=s.done,ls:=ls1,vals:=s.vals } { A1 with vl:=v' } anZero):=⟨m6,(T7.out.below Bd.out).set p2.row 6 _ me_tree⟩
       have F8:Hid (Fr lwT B w7 (wb.setCell ⟨g,6,none⟩ (.int .i64 (s.h+(sizeN c:Int))))):=(Fr.of lwT B Bd.out).set p2.row (.inr rfl) p2.base 6 _
       clear p2 m6 C f1 f2 f3 z6
       go_wp2
       go_ret
       rw[HR2.out]
       have k45:SetK A1.vl w4 w5:=SetK.fr _ F5.out set_tree
       have k57:SetK A1.vl w5 w7:=SetK.fr _ F7.out set_wr
       have s4:=F4.out.size
       have s5:=Nat.le_trans s4 F5.out.size
       have s7:=Nat.le_trans s5 F7.out.size
       have mv:=M4.out.trans MV7.out s5
       exact⟨((F4.out.trans (F5.out.mono fun t q=>srT_tree q)).trans (F7.out.mono wr_sr)).trans (F8.out.mono wr_sr),((K4.out.trans M4.out s4 k45).trans M4.out s5 k57).trans mv s7 (SetK.fr v' F8.out set_wr),rfl,{ A1 with vl:=v' },HQ.out.1,HQ.out.2.1,HQ.out.2.2,mv,I8.out⟩
end Go.Proofs.YthboeppmlhbofabDoor
