import Derived.Test.YthboeppmlhbofabDoorHal
import Derived.Test.YthboeppmlhbofabDoorPse
import Derived.Test.YthboeppmlhbofabDoorAdf
namespace Go.Proofs.YthboeppmlhbofabDoor
open Go.RowKit Txt
set_option maxRecDepth 100000
theorem andnot64(a b:Nat)(ha:a<2^63):bits .andNot .i64 (a:Int) (b:Int)=((a - (a&&&b):Nat):Int):=by
 have e:(BitVec.ofInt IntKind.i64.bits (a:Int)&&&~~~BitVec.ofInt IntKind.i64.bits (b:Int)).toNat=a - (a&&&b):=by
  apply Nat.eq_of_testBit_eq
  intro i
  rw[sub_and_bit,BitVec.testBit_toNat,BitVec.getLsbD_and,BitVec.getLsbD_not,BitVec.ofInt_natCast,BitVec.ofInt_natCast,BitVec.getLsbD_ofNat,BitVec.getLsbD_ofNat]
  show(decide (i<64) && a.testBit i && (decide (i<64) && !(decide (i<64) && b.testBit i)))=_
  by_cases h:i<64
  ·rw[decide_eq_true h];simp
  ·rw[decide_eq_false h,Nat.testBit_lt_two_pow (Nat.lt_of_lt_of_le ha (Nat.pow_le_pow_right (by decide) (by omega)))];rfl
 have hle:a - (a&&&b)≤a:=Nat.sub_le _ _
 unfold bits
 simp only
 rw[e]
 exact wraps_i64 _ (by omega) (by omega)
def setV(s:Nat):Value:=.agg #[.int .i64 (tN s:Nat),.int .i64 (fN s:Nat)]
theorem tN_lt(s:Nat):tN s<2^11:=lt_pow_bits fun i hi=>by unfold tN;rw[tTo_bit,decide_eq_false (by omega:¬ i≤10)];simp
theorem fN_lt(s:Nat):fN s<2^11:=lt_pow_bits fun i hi=>by unfold fN;rw[fTo_bit,decide_eq_false (by omega:¬ i≤10)];simp
theorem tN_or{a b:Nat}(ha:a<2^20)(hb:b<2^20):tN (a|||b)=tN a|||tN b∧fN (a|||b)=fN a|||fN b:=by
 obtain⟨h1,h2⟩:=((Two.of ha).or (Two.of hb)).eq
 exact⟨h1.symm,h2.symm⟩
theorem tN_in{a V:Nat}(ha:a<2^20):tN (a&&&litsV V)=tN a&&&V∧fN (a&&&litsV V)=fN a&&&V:=by
 have h:=Two.of ha
 have key:Two (a&&&litsV V) (tN a&&&V) (fN a&&&V):=by
  refine⟨fun v hv=>?_,fun v hv=>?_,and_top ha,by rw[Nat.testBit_and,h.zt];rfl,by rw[Nat.testBit_and,h.zf];rfl,Nat.lt_of_le_of_lt Nat.and_le_left h.lt,Nat.lt_of_le_of_lt Nat.and_le_left h.lf⟩
  ·rw[Nat.testBit_and,Nat.testBit_and,h.pos v hv,lits_bit,decide_eq_true (by omega),show 2*v / 2=v by omega];simp
  ·rw[Nat.testBit_and,Nat.testBit_and,h.neg v hv,lits_bit,decide_eq_true (by omega),show(2*v+1) / 2=v by omega];simp
 obtain⟨h1,h2⟩:=key.eq
 exact⟨h1.symm,h2.symm⟩
theorem tN_bit{n:Int}(h:litB n=true):tN (bitN n)=posB n∧fN (bitN n)=negB n:=by
 obtain⟨h1,h2⟩:=(Two.bit h).eq
 exact⟨h1.symm,h2.symm⟩
theorem tN_wo{a:Nat}(ha:a<2^20){n:Int}(h:litB n=true):tN (wo a n)=tN a - (tN a&&&posB n)∧fN (wo a n)=fN a - (fN a&&&negB n):=by
 have h1:=Two.of ha
 have h2:=Two.bit h
 have key:Two (wo a n) (tN a - (tN a&&&posB n)) (fN a - (fN a&&&negB n)):=by
  refine⟨fun v hv=>?_,fun v hv=>?_,wo_lt n ha,by rw[sub_and_bit,h1.zt];rfl,by rw[sub_and_bit,h1.zf];rfl,Nat.lt_of_le_of_lt (Nat.sub_le _ _) h1.lt,Nat.lt_of_le_of_lt (Nat.sub_le _ _) h1.lf⟩
  ·unfold wo;rw[sub_and_bit,sub_and_bit,h1.pos v hv,h2.pos v hv]
  ·unfold wo;rw[sub_and_bit,sub_and_bit,h1.neg v hv,h2.neg v hv]
 obtain⟨q1,q2⟩:=key.eq
 exact⟨q1.symm,q2.symm⟩
theorem tN_opp{a:Nat}(ha:a<2^20):tN (oppN a)=fN a∧fN (oppN a)=tN a:=by
 obtain⟨q1,q2⟩:=(Two.of ha).opp.eq
 exact⟨q1.symm,q2.symm⟩
theorem has_bit{a:Nat}(ha:a<2^20){n:Int}(h:litB n=true):hasB (tN a) (fN a) n=a.testBit (bitI n):=by
 have h1:=Two.of ha
 simp only[litB,Bool.and_eq_true,bne_iff_ne,decide_eq_true_eq] at h
 by_cases hp:0<n
 ·obtain⟨v,rfl⟩:∃ v:Nat,n=(v:Int)+1:=⟨(n - 1).toNat,by omega⟩
  rw[bitI_pos,h1.pos v (by omega),← has_pos (tN a) (fN a) (v:=v+1) (by omega) (by omega)]
  rfl
 ·obtain⟨v,rfl⟩:∃ v:Nat,n=-((v:Int)+1):=⟨(-n - 1).toNat,by omega⟩
  rw[bitI_neg,h1.neg v (by omega),← has_neg (tN a) (fN a) (v:=v+1) (by omega) (by omega)]
  rfl
theorem row_alloc3(w:World)(x y:Obj)(zs:List Value)(t:Nat):Row (((w.alloc x).alloc y).alloc (.cells zs.toArray t)) (w.heap.size+1+1) t zs:=by
 have:=heap_alloc_new ((w.alloc x).alloc y) (.cells zs.toArray t)
 simpa [Row] using this
theorem join_ret{w':World}{tmps:Array Value}{g:Nat}{p q:Value}(hr:Row w' g 84 [p,q])(h2:tmps.getD 4 undef=.pointer (some ⟨g,0,none⟩)) :
  (results Tryd.f70 tmps).run Tryd.prog w'=.ok (.agg #[p,q]) w':=by
 obtain⟨fs,hu⟩:=setType
 exact results_cell_row rfl tmps w' g 84 #[p,q] (0,0) (.struct fs) h2 hr hu rfl setSize
set_option maxHeartbeats 2000000 in
theorem ljoin_any(a b:Nat)(ha:a<2^20)(hb:b<2^20)(w:World) :
  Calls Tryd.prog 70 #[setV a,setV b] w fun e w'=>e=.returned (setV (a|||b))∧Below w.heap.size w w':=by
 obtain⟨e1,e2⟩:=tN_or ha hb
 have l1:=tN_lt a
 have l2:=fN_lt a
 have l3:=tN_lt b
 have l4:=fN_lt b
 unfold setV
 rw[e1,e2]
 generalize tN a=t at *
 generalize fN a=f at *
 generalize tN b=t' at *
 generalize fN b=f' at *
 have o1:=or64 t t' (by omega) (by omega)
 have o2:=or64 f f' (by omega) (by omega)
 have R9:Hid (Row (((w.alloc (.cells #[.int .i64 t,.int .i64 f] 84)).alloc (.cells #[.int .i64 t',.int .i64 f'] 84)).alloc (.cells #[.int .i64 (t|||t':Nat),.int .i64 (f|||f':Nat)] 84)) (w.heap.size+1+1) 84 [.int .i64 (t|||t':Nat),.int .i64 (f|||f':Nat)]):=row_alloc3 w _ _ _ _
 have HB:Hid (∀ x y z,Below w.heap.size w (((w.alloc x).alloc y).alloc z)):=fun x y z=>(((Below.refl _ _).alloc (Nat.le_refl _) _).alloc (by simp) _).alloc (by simp;omega) _
 clear ha hb l1 l2 l3 l4 e1 e2
 go_enter Tryd.func70,Tryd.ntmps70
 go_wp2
 exact bodyPost_ret (v:=.agg #[.int .i64 (t|||t':Nat),.int .i64 (f|||f':Nat)]) (join_ret R9.out rfl) rfl ⟨rfl,HB.out _ _ _⟩
theorem within_ret{w':World}{tmps:Array Value}{g:Nat}{p q:Value}(hr:Row w' g 84 [p,q])(h2:tmps.getD 4 undef=.pointer (some ⟨g,0,none⟩)) :
  (results Tryd.f68 tmps).run Tryd.prog w'=.ok (.agg #[p,q]) w':=by
 obtain⟨fs,hu⟩:=setType
 exact results_cell_row rfl tmps w' g 84 #[p,q] (0,0) (.struct fs) h2 hr hu rfl setSize
set_option maxHeartbeats 2000000 in
theorem within_any(a V:Nat)(ha:a<2^20)(hV:V<2^11)(w:World) :
  Calls Tryd.prog 68 #[setV a,.int .i64 V] w fun e w'=>e=.returned (setV (a&&&litsV V))∧Below w.heap.size w w':=by
 obtain⟨e1,e2⟩:=tN_in (V:=V) ha
 have l1:=tN_lt a
 have l2:=fN_lt a
 unfold setV
 rw[e1,e2]
 generalize tN a=t at *
 generalize fN a=f at *
 have o1:=and64 t V (by omega) (by omega)
 have o2:=and64 f V (by omega) (by omega)
 have R9:Hid (Row ((w.alloc (.cells #[.int .i64 t,.int .i64 f] 84)).alloc (.cells #[.int .i64 (t&&&V:Nat),.int .i64 (f&&&V:Nat)] 84)) (w.heap.size+1) 84 [.int .i64 (t&&&V:Nat),.int .i64 (f&&&V:Nat)]):=heap_alloc2_new w _ _
 have HB:Hid (∀ x y,Below w.heap.size w ((w.alloc x).alloc y)):=fun x y=>((Below.refl _ _).alloc (Nat.le_refl _) _).alloc (by simp) _
 clear ha hV l1 l2 e1 e2
 go_enter Tryd.func68,Tryd.ntmps68
 go_wp2
 exact bodyPost_ret (v:=.agg #[.int .i64 (t&&&V:Nat),.int .i64 (f&&&V:Nat)]) (within_ret R9.out rfl) rfl ⟨rfl,HB.out _ _⟩
theorem without_ret{w':World}{tmps:Array Value}{g:Nat}{p q:Value}(hr:Row w' g 84 [p,q])(h2:tmps.getD 4 undef=.pointer (some ⟨g,0,none⟩)) :
  (results Tryd.f93 tmps).run Tryd.prog w'=.ok (.agg #[p,q]) w':=by
 obtain⟨fs,hu⟩:=setType
 exact results_cell_row rfl tmps w' g 84 #[p,q] (0,0) (.struct fs) h2 hr hu rfl setSize
set_option maxHeartbeats 4000000 in
theorem lwithout_any(a:Nat)(ha:a<2^20)(x:Int)(hx:litB x=true)(w:World) :
  Calls Tryd.prog 93 #[setV a,.int .i64 x] w fun e w'=>e=.returned (setV (wo a x))∧Below w.heap.size w w':=by
 obtain⟨e1,e2⟩:=tN_wo ha hx
 have ht:=tN_lt a
 have hf:=fN_lt a
 unfold setV
 rw[e1,e2]
 generalize tN a=t at *
 generalize fN a=f at *
 have A1:Hid (∀ w,Calls Tryd.prog 60 #[.int .i64 x] w fun e w'=>e=.returned (.int .i64 (posB x:Nat))∧w'=w):=fun w=>by
  have:=lbitP_any x w
  rwa [bitP_pos hx] at this
 have A2:Hid (∀ w,Calls Tryd.prog 60 #[.int .i64 (-x)] w fun e w'=>e=.returned (.int .i64 (negB x:Nat))∧w'=w):=fun w=>by
  have:=lbitP_any (-x) w
  rwa [bitP_neg hx] at this
 have o1:=andnot64 t (posB x) (by omega)
 have o2:=andnot64 f (negB x) (by omega)
 have hwn:IntKind.i64.wrap (-x)=-x:=by
  simp only[litB,Bool.and_eq_true,bne_iff_ne,decide_eq_true_eq] at hx
  rw[IntKind.wrap_i64];omega
 have r0:Row ((w.alloc (.cells #[.int .i64 t,.int .i64 f] 84)).alloc (.cells #[.int .i64 0,.int .i64 0] 84)) w.heap.size 84 [.int .i64 t,.int .i64 f]:=(heap_alloc_old (w.alloc _) _ (by simp)).trans (heap_alloc_new w _)
 have r1:Row ((w.alloc (.cells #[.int .i64 t,.int .i64 f] 84)).alloc (.cells #[.int .i64 0,.int .i64 0] 84)) (w.heap.size+1) 84 [.int .i64 0,.int .i64 0]:=heap_alloc2_new w _ _
 have hb0:Below w.heap.size w ((w.alloc (.cells #[.int .i64 t,.int .i64 f] 84)).alloc (.cells #[.int .i64 0,.int .i64 0] 84)):=((Below.refl _ _).alloc (Nat.le_refl _) _).alloc (by simp) _
 clear e1 e2 ha hx
 generalize posB x=pb at *
 generalize negB x=nb at *
 generalize t - (t&&&pb)=z1 at *
 generalize f - (f&&&nb)=z2 at *
 clear ht hf
 go_enter Tryd.func93,Tryd.ntmps93
 go_wp2_with fail
 generalize (w.alloc (.cells #[.int .i64 t,.int .i64 f] 84)).alloc (.cells #[.int .i64 0,.int .i64 0] 84)=w1 at *
 have y0:=r0.cell 0
 have y1:=r0.cell 1
 have g0:=r0.frozen 0
 have g1:=r0.frozen 1
 simp only[List.getElem?_cons_zero,List.getElem?_cons_succ] at y0 y1
 have R0:=hide r0
 have R1:=hide r1
 have HB:=hide hb0
 clear r0 r1 hb0
 go_region_with (go_at_call 60;refine(unhide A1 _).mono ?_;rintro e w' ⟨rfl,rfl⟩)
 all_goals
  have HB2:Hid (Below w.heap.size w (w1.setCell ⟨w.heap.size,0,none⟩ (.int .i64 (z1:Nat))).drew):=below_drewN (HB.out.setCell (p:=⟨w.heap.size,0,none⟩) (Nat.le_refl _) _) 1
  have Q0:Hid (Row (w1.setCell ⟨w.heap.size,0,none⟩ (.int .i64 (z1:Nat))).drew w.heap.size 84 [.int .i64 (z1:Nat),.int .i64 f]):=R0.out.set 0 _
  have Q1:Hid (Row (w1.setCell ⟨w.heap.size,0,none⟩ (.int .i64 (z1:Nat))).drew (w.heap.size+1) 84 [.int .i64 0,.int .i64 0]):=(Below.heap_setCell w1 ⟨w.heap.size,0,none⟩ (.int .i64 (z1:Nat)) (w.heap.size+1) (Nat.ne_of_gt (Nat.lt_succ_self _))).trans R1.out
  generalize (w1.setCell ⟨w.heap.size,0,none⟩ (.int .i64 (z1:Nat))).drew=w2 at *
  clear HB R0 R1 y0 y1 g0 g1
  have y1:=Q0.out.cell 1
  have g1:=Q0.out.frozen 1
  simp only[List.getElem?_cons_zero,List.getElem?_cons_succ] at y1
  go_wp2_with fail
  go_region_with (go_at_call 60;refine(unhide A2 _).mono ?_;rintro e w' ⟨rfl,rfl⟩)
  all_goals
   have HB3:Hid (Below w.heap.size w (w2.setCell ⟨w.heap.size,1,none⟩ (.int .i64 (z2:Nat))).drew):=below_drewN (HB2.out.setCell (p:=⟨w.heap.size,1,none⟩) (Nat.le_refl _) _) 1
   have P0:Hid (Row (w2.setCell ⟨w.heap.size,1,none⟩ (.int .i64 (z2:Nat))).drew w.heap.size 84 [.int .i64 (z1:Nat),.int .i64 (z2:Nat)]):=Q0.out.set 1 _
   have P1:Hid (Row (w2.setCell ⟨w.heap.size,1,none⟩ (.int .i64 (z2:Nat))).drew (w.heap.size+1) 84 [.int .i64 0,.int .i64 0]):=(Below.heap_setCell w2 ⟨w.heap.size,1,none⟩ (.int .i64 (z2:Nat)) (w.heap.size+1) (Nat.ne_of_gt (Nat.lt_succ_self _))).trans Q1.out
   generalize (w2.setCell ⟨w.heap.size,1,none⟩ (.int .i64 (z2:Nat))).drew=w3 at *
   clear HB2 Q0 Q1 y1 g1
   have y0:=P0.out.cell 0
   have y1:=P0.out.cell 1
   have z0:=P1.out.cell 0
   have zz1:=P1.out.cell 1
   have g0:=P1.out.frozen 0
   have g1:=P1.out.frozen 1
   simp only[List.getElem?_cons_zero,List.getElem?_cons_succ] at y0 y1 z0 zz1
   go_wp2
   have R9:Hid (Row ((w3.setCell ⟨w.heap.size+1,0,none⟩ (.int .i64 (z1:Nat))).setCell ⟨w.heap.size+1,1,none⟩ (.int .i64 (z2:Nat))) (w.heap.size+1) 84 [.int .i64 (z1:Nat),.int .i64 (z2:Nat)]):=(P1.out.set 0 _).set 1 _
   refine bodyPost_ret (v:=.agg #[.int .i64 (z1:Nat),.int .i64 (z2:Nat)]) (without_ret R9.out rfl) rfl ⟨rfl,?_⟩
   exact(HB3.out.setCell (p:=⟨w.heap.size+1,0,none⟩) (Nat.le_succ _) _).setCell (p:=⟨w.heap.size+1,1,none⟩) (Nat.le_succ _) _
set_option maxHeartbeats 1000000 in
theorem firstVar_any(t:Nat)(ht:t<2^11)(w:World):Calls Tryd.prog 69 #[.int .i64 t] w fun e w'=>e=.returned (.int .i64 (firstV t:Nat))∧w'=w:=by
 have HF:Hid (firstV t=fvF t 10 1):=rfl
 generalize firstV t=RES at *
 go_enter Tryd.func69,Tryd.ntmps69
 go_wp2
 go_loop [3] (fun v=>∃ k:Nat,k≤10∧v=.int .i64 ((k:Int)+1)∧Hid (RES=fvF t (10 - k) (k+1))) (fun v=>11 - (intOf v).toNat)
 case atStart=>exact⟨0,by omega,rfl,HF⟩
 case round =>
  clear HF
  obtain⟨k,hk,rfl,HK⟩:=hrel
  by_cases hlt:k<10
  ·have hb:=lbit_any (k+1) (by omega) (by omega) w
   have hp:2^(k+1)≤2^10:=Nat.pow_le_pow_right (by decide) (by omega)
   have hp0:0<2^(k+1):=Nat.pow_pos (by decide)
   have ha:=and64 t (2^(k+1)) (by omega) (by omega)
   rw[and_pow] at ha
   have HC:Hid (RES=if t.testBit (k+1) then k+1 else fvF t (10 - (k+1)) (k+1+1)):=by
    show _=_
    rw[HK.out,show 10 - k=(10 - (k+1))+1 by omega]
    rfl
   have hkc:((k+1:Nat):Int)=(k:Int)+1:=by omega
   rw[hkc] at hb
   generalize 2^(k+1)=p at *
   have HB:=hide hb
   clear hb HK
   cases hbit:t.testBit (k+1) with
   | true =>
    rw[hbit] at ha HC
    simp only[Bool.toNat_true,Nat.one_mul] at ha
    have hpn:(((p:Int) != 0)=true):=by simp;omega
    have HR:Hid ((RES:Int)=(k:Int)+1):=by show _=_;rw[HC.out,if_pos rfl];omega
    clear hbit HC hkc
    go_wp2_with (go_at_call 60;refine(unhide HB).mono ?_;rintro e w' ⟨rfl,hw⟩;obtain rfl:=hw.symm)
    go_ret
    exact⟨by rw[HR.out];rfl,rfl⟩
   | false =>
    rw[hbit] at ha HC
    simp only[Bool.toNat_false,Nat.zero_mul] at ha
    have HC2:Hid (RES=fvF t (10 - (k+1)) (k+1+1)):=HC.out
    clear hbit HC hkc
    go_wp2_with (go_at_call 60;refine(unhide HB).mono ?_;rintro e w' ⟨rfl,hw⟩;obtain rfl:=hw.symm)
    go_round
    case rel=>exact⟨k+1,by omega,by go_num,HC2⟩
    case measure=>simp[intOf];omega
  ·obtain rfl:k=10:=by omega
   have HR:Hid (RES=0):=HK.out
   go_wp2
   go_ret
   exact⟨by rw[HR.out];rfl,rfl⟩
theorem n_int_set:(3:Nat)≠84:=by decide
theorem lsTo_le(s:Nat):∀ k,(lsTo s k).length≤2*k:=by
 intro k
 rw[lsTo_len]
 exact sizeTo_le s (2*k)
set_option maxHeartbeats 4000000 in
theorem list_any(s:Nat)(hs:s<2^20)(w:World) :
  Calls Tryd.prog 54 #[setV s] w fun e w'=>(∃ a c,e=.returned (.slice a (listN s).length c)∧w'.ownsRow w.heap.size 3 1 (.slice a (listN s).length c) (listN s).length (i64s (listN s)))∧Below w.heap.size w w':=by
 obtain⟨i0,hi0,hz0,hz1,hz2⟩:=info_parts Tryd.infoInt
 have HH:Hid (∀ (x:Int) (w:World),litB x=true→Calls Tryd.prog 71 #[.agg #[.int .i64 (tN s:Nat),.int .i64 (fN s:Nat)],.int .i64 x] w fun e w'=>e=.returned (.bool (s.testBit (bitI x)))∧Below w.heap.size w w'):=fun x w hx=>by
  have:=has_any (tN s) (fN s) x (tN_lt s) (fN_lt s) (by simp only[litB,Bool.and_eq_true,bne_iff_ne,decide_eq_true_eq] at hx;omega) (by simp only[litB,Bool.and_eq_true,bne_iff_ne,decide_eq_true_eq] at hx;omega) w
  rwa [has_bit hs hx] at this
 unfold setV
 generalize tN s=t at *
 generalize fN s=f at *
 have hb0:Below w.heap.size w (w.alloc (.cells #[.int .i64 t,.int .i64 f] 84)):=(Below.refl _ _).alloc (Nat.le_refl _) _
 have r0:Row (w.alloc (.cells #[.int .i64 t,.int .i64 f] 84)) w.heap.size 84 [.int .i64 t,.int .i64 f]:=heap_alloc_new w _
 have RL:Hid (listN s=lsTo s 10):=rfl
 generalize listN s=RES at *
 have R0:=hide r0
 have B0:=hide hb0
 clear r0 hb0
 go_enter Tryd.func54,Tryd.ntmps54
 go_wp2_with fail
 generalize w.alloc (.cells #[.int .i64 t,.int .i64 f] 84)=w0 at *
 go_loopw [3,4] (fun l v wr=>∃ (k:Nat) (a1:Option Addr) (c1:Nat),k≤10∧v=.int .i64 ((k:Int)+1)∧l=.slice a1 (lsTo s k).length c1∧Hid (wr.ownsRow w.heap.size 3 1 (.slice a1 (lsTo s k).length c1) (lsTo s k).length (i64s (lsTo s k)))∧Hid (Row wr w.heap.size 84 [.int .i64 t,.int .i64 f])∧Hid (Below w.heap.size w wr)) (fun _ v _=>11 - (intOf v).toNat)
 case atStart=>exact⟨0,none,0,by omega,rfl,rfl,⟨rfl,.inl ⟨rfl,rfl⟩⟩,R0,B0⟩
 case round =>
  clear R0 B0
  obtain⟨k,a1,c1,hk,rfl,rfl,O,R,B⟩:=hrel
  have hle:=lsTo_le s k
  by_cases hlt:k<10
  ·have HS:Hid (lsTo s (k+1)=lsTo s k++((if s.testBit (2*k) then [(k:Int)+1] else [])++(if s.testBit (2*k+1) then [-((k:Int)+1)] else []))):=rfl
   have hv:((k:Int)+1≤10):=by omega
   have q1:=bitI_pos k
   have q2:=bitI_neg k
   have hng:IntKind.i64.wrap (-((k:Int)+1))=-((k:Int)+1):=by rw[IntKind.wrap_i64];omega
   have y0:wr.cell? ⟨w.heap.size,0,none⟩=some (.int .i64 t):=(R.out.cell 0).trans rfl
   have y1:wr.cell? ⟨w.heap.size,1,none⟩=some (.int .i64 f):=(R.out.cell 1).trans rfl
   have hl1:litB ((k:Int)+1)=true:=by simp only[litB,Bool.and_eq_true,bne_iff_ne,decide_eq_true_eq];omega
   have hl2:litB (-((k:Int)+1))=true:=by simp only[litB,Bool.and_eq_true,bne_iff_ne,decide_eq_true_eq];omega
   have HK:Hid ((k:Int)+1=((k+1:Nat):Int)):=by show _=_;omega
   have hx1:(1:Int)≤(k:Int)+1:=by omega
   generalize lsTo s k=ls at *
   generalize hxk:(k:Int)+1=x at *
   have HX:=hide hxk.symm
   clear hxk
   have Q1:=hide q1
   have Q2:=hide q2
   have L1:=hide hl1
   have L2:=hide hl2
   clear q1 q2 hl1 hl2
   go_wp2_with fail
   refine(unhide HH (x) _ L1.out).mono ?_
   rintro e w2 ⟨rfl,hb2⟩
   have R2:=hide (row_below R.out hb2)
   have O2:=hide (own_below O.out hb2)
   have B2:Hid (Below w.heap.size w w2):=B.out.trans (hb2.mono B.out.size)
   have y20:w2.cell? ⟨w.heap.size,0,none⟩=some (.int .i64 t):=(R2.out.cell 0).trans rfl
   have y21:w2.cell? ⟨w.heap.size,1,none⟩=some (.int .i64 f):=(R2.out.cell 1).trans rfl
   clear hb2
   rw[Q1.out]
   cases hb1:s.testBit (2*k) with
   | true =>
    rw[hb1] at HS
    have d3_1:Hid (ls.length+1≤maxLen):=by show _≤_;unfold maxLen;omega
    have d3_2:Hid ((ls.length+1)*8≤140737488355328):=by show _≤_;omega
    have d3_3:Hid (∀ o,w.heap.size≤(w2.alloc o).heap.size):=fun o=>by have:=B2.out.size;simp;omega
    go_wp2_with (at_builtin;refine wpList_append_at _ rfl _ _ 23 rfl w.heap.size 3 i0 (.int .i64 0) 8 Tryd.undInts hi0 hz0 hz1 hz2 rfl (.slice a1 ls.length c1) ls.length (i64s ls) rfl (O2.out.alloc _) ⟨w2.heap.size,0,none⟩ 1 1 [.int .i64 (x)] rfl rfl (new_cells1 w2 [.int .i64 (x)] 3) (by intro u hu;simp at hu;subst hu;rfl) (by decide) d3_1.out d3_2.out (d3_3.out _) ?_;intro v3 w3 hown3 hg3 hwh3;obtain⟨a3,c3,rfl⟩:=own_shape hown3;have ba3:Below w2.heap.size w2 (w2.alloc (.cells #[.int .i64 (x)] 3)):=(Below.refl _ _).alloc (Nat.le_refl _) _;have B3:Hid (Below w.heap.size w w3):=(B2.out.alloc B2.out.size _).grown hg3 (B2.out.alloc B2.out.size _).size (fun k hk=>(O2.out.lt k hk).1);have R3:=hide (row_grownN (row_below R2.out ba3) (own_below O2.out ba3) n_int_set hg3);have O3:Hid (w3.ownsRow w.heap.size 3 1 (.slice a3 (ls.length+1) c3) (ls.length+1) (i64s (ls++[x]))):=(by show _;rw[show i64s (ls++[x])=i64s ls++[.int .i64 (x)] by simp[i64s]];exact hown3);have y30:w3.cell? ⟨w.heap.size,0,none⟩=some (.int .i64 t):=(R3.out.cell 0).trans rfl;have y31:w3.cell? ⟨w.heap.size,1,none⟩=some (.int .i64 f):=(R3.out.cell 1).trans rfl;clear hown3 hg3 hwh3 ba3)
    refine(unhide HH (-x) _ L2.out).mono ?_
    rintro e w4 ⟨rfl,hb4⟩
    have R4:=hide (row_below R3.out hb4)
    have O4:=hide (own_below O3.out hb4)
    have B4:Hid (Below w.heap.size w w4):=B3.out.trans (hb4.mono B3.out.size)
    have y40:w4.cell? ⟨w.heap.size,0,none⟩=some (.int .i64 t):=(R4.out.cell 0).trans rfl
    have y41:w4.cell? ⟨w.heap.size,1,none⟩=some (.int .i64 f):=(R4.out.cell 1).trans rfl
    clear hb4
    rw[Q2.out]
    cases hb2:s.testBit (2*k+1) with
    | true =>
     rw[hb2] at HS
     have hl3:(ls++[x]).length=ls.length+1:=by simp
     have d5_1:Hid ((ls.length+1)+1≤maxLen):=by show _≤_;unfold maxLen;omega
     have d5_2:Hid (((ls.length+1)+1)*8≤140737488355328):=by show _≤_;omega
     have d5_5:Hid (∀ o,w.heap.size≤(w4.alloc o).heap.size):=fun o=>by have:=B4.out.size;simp;omega
     go_wp2_with (at_builtin;refine wpList_append_at _ rfl _ _ 23 rfl w.heap.size 3 i0 (.int .i64 0) 8 Tryd.undInts hi0 hz0 hz1 hz2 rfl (.slice a3 (ls.length+1) c3) (ls.length+1) (i64s (ls++[x])) rfl (O4.out.alloc _) ⟨w4.heap.size,0,none⟩ 1 1 [.int .i64 (-x)] rfl rfl (new_cells1 w4 [.int .i64 (-x)] 3) (by intro u hu;simp at hu;subst hu;rfl) (by decide) d5_1.out d5_2.out (d5_5.out _) ?_;intro v5 w5 hown5 hg5 hwh5;obtain⟨a5,c5,rfl⟩:=own_shape hown5;have ba5:Below w4.heap.size w4 (w4.alloc (.cells #[.int .i64 (-x)] 3)):=(Below.refl _ _).alloc (Nat.le_refl _) _;have B5:Hid (Below w.heap.size w w5):=(B4.out.alloc B4.out.size _).grown hg5 (B4.out.alloc B4.out.size _).size (fun k hk=>(O4.out.lt k hk).1);have R5:=hide (row_grownN (row_below R4.out ba5) (own_below O4.out ba5) n_int_set hg5);have O5:Hid (w5.ownsRow w.heap.size 3 1 (.slice a5 ((ls.length+1)+1) c5) ((ls.length+1)+1) (i64s ((ls++[x])++[-x]))):=(by show _;rw[show i64s ((ls++[x])++[-x])=i64s (ls++[x])++[.int .i64 (-x)] by simp[i64s]];exact hown5);have y50:w5.cell? ⟨w.heap.size,0,none⟩=some (.int .i64 t):=(R5.out.cell 0).trans rfl;have y51:w5.cell? ⟨w.heap.size,1,none⟩=some (.int .i64 f):=(R5.out.cell 1).trans rfl;clear hown5 hg5 hwh5 ba5)
     go_roundw
     case rel=>exact⟨k+1,a5,c5,by omega,by rw[HX.out];go_num,by rw[HS.out];simp,by rw[HS.out];simp only[if_true,List.length_append,List.length_singleton,← List.append_assoc] at O5 ⊢;exact O5,R5,B5⟩
     case measure=>rw[HX.out];simp[intOf];omega
    | false =>
     rw[hb2] at HS
     go_wp2
     go_roundw
     case rel=>exact⟨k+1,a3,c3,by omega,by rw[HX.out];go_num,by rw[HS.out];simp,by rw[HS.out];simp only[if_true,Bool.false_eq_true,if_false,List.append_nil,List.length_append,List.length_singleton] at O4 ⊢;exact O4,R4,B4⟩
     case measure=>rw[HX.out];simp[intOf];omega
   | false =>
    rw[hb1] at HS
    go_wp2_with fail
    refine(unhide HH (-x) _ L2.out).mono ?_
    rintro e w4 ⟨rfl,hb4⟩
    have R4:=hide (row_below R2.out hb4)
    have O4:=hide (own_below O2.out hb4)
    have B4:Hid (Below w.heap.size w w4):=B2.out.trans (hb4.mono B2.out.size)
    have y40:w4.cell? ⟨w.heap.size,0,none⟩=some (.int .i64 t):=(R4.out.cell 0).trans rfl
    have y41:w4.cell? ⟨w.heap.size,1,none⟩=some (.int .i64 f):=(R4.out.cell 1).trans rfl
    clear hb4
    rw[Q2.out]
    cases hb2:s.testBit (2*k+1) with
    | true =>
     rw[hb2] at HS
     have d5_1:Hid (ls.length+1≤maxLen):=by show _≤_;unfold maxLen;omega
     have d5_2:Hid ((ls.length+1)*8≤140737488355328):=by show _≤_;omega
     have d5_5:Hid (∀ o,w.heap.size≤(w4.alloc o).heap.size):=fun o=>by have:=B4.out.size;simp;omega
     go_wp2_with (at_builtin;refine wpList_append_at _ rfl _ _ 23 rfl w.heap.size 3 i0 (.int .i64 0) 8 Tryd.undInts hi0 hz0 hz1 hz2 rfl (.slice a1 ls.length c1) ls.length (i64s ls) rfl (O4.out.alloc _) ⟨w4.heap.size,0,none⟩ 1 1 [.int .i64 (-x)] rfl rfl (new_cells1 w4 [.int .i64 (-x)] 3) (by intro u hu;simp at hu;subst hu;rfl) (by decide) d5_1.out d5_2.out (d5_5.out _) ?_;intro v5 w5 hown5 hg5 hwh5;obtain⟨a5,c5,rfl⟩:=own_shape hown5;have ba5:Below w4.heap.size w4 (w4.alloc (.cells #[.int .i64 (-x)] 3)):=(Below.refl _ _).alloc (Nat.le_refl _) _;have B5:Hid (Below w.heap.size w w5):=(B4.out.alloc B4.out.size _).grown hg5 (B4.out.alloc B4.out.size _).size (fun k hk=>(O4.out.lt k hk).1);have R5:=hide (row_grownN (row_below R4.out ba5) (own_below O4.out ba5) n_int_set hg5);have O5:Hid (w5.ownsRow w.heap.size 3 1 (.slice a5 (ls.length+1) c5) (ls.length+1) (i64s (ls++[-x]))):=(by show _;rw[show i64s (ls++[-x])=i64s ls++[.int .i64 (-x)] by simp[i64s]];exact hown5);have y50:w5.cell? ⟨w.heap.size,0,none⟩=some (.int .i64 t):=(R5.out.cell 0).trans rfl;have y51:w5.cell? ⟨w.heap.size,1,none⟩=some (.int .i64 f):=(R5.out.cell 1).trans rfl;clear hown5 hg5 hwh5 ba5)
     go_roundw
     case rel=>exact⟨k+1,a5,c5,by omega,by rw[HX.out];go_num,by rw[HS.out];simp,by rw[HS.out];simp only[if_true,Bool.false_eq_true,if_false,List.nil_append,List.length_append,List.length_singleton] at O5 ⊢;exact O5,R5,B5⟩
     case measure=>rw[HX.out];simp[intOf];omega
    | false =>
     rw[hb2] at HS
     go_wp2
     go_roundw
     case rel=>exact⟨k+1,a1,c1,by omega,by rw[HX.out];go_num,by rw[HS.out];simp,by rw[HS.out];simp only[Bool.false_eq_true,if_false,List.append_nil] at O4 ⊢;exact O4,R4,B4⟩
     case measure=>rw[HX.out];simp[intOf];omega
  ·obtain rfl:k=10:=by omega
   go_wp2
   go_ret
   exact⟨⟨a1,c1,by rw[RL.out];rfl,by rw[RL.out];exact O.out⟩,B.out⟩
def prL(cs:List Nat):List Pr:=cs.map fun c=>(tN c,fN c)
theorem prL_len(cs:List Nat):(prL cs).length=cs.length:=by simp[prL]
theorem prL_snoc(cs:List Nat)(c:Nat):prL (cs++[c])=prL cs++[(tN c,fN c)]:=by simp[prL]
theorem prL_get(cs:List Nat)(k:Nat)(h:k<cs.length):(prL cs).getD k (0,0)=(tN (cs.getD k 0),fN (cs.getD k 0)):=by
 rw[List.getD_eq_getElem?_getD,List.getD_eq_getElem?_getD,prL,List.getElem?_map,List.getElem?_eq_getElem h]
 rfl
theorem prL_bd(cs:List Nat):∀ p∈prL cs,p.1<2^11∧p.2<2^11:=by
 intro p hp
 simp only[prL,List.mem_map] at hp
 obtain⟨c,_,rfl⟩:=hp
 exact⟨tN_lt c,fN_lt c⟩
theorem prL_total:∀ (cs:List Nat),(∀ c∈cs,c<2^20)→totalN (prL cs)=litsN cs:=by
 intro cs
 induction cs with
 | nil=>intro _;rfl
 | cons c cs ih =>
  intro h
  have a:=ih fun x hx=>h x (List.mem_cons_of_mem _ hx)
  have b:=(Two.of (h c (List.mem_cons_self ..))).size
  simp only[totalN,prL,litsN,List.map_cons,List.sum_cons,prSize] at a ⊢
  omega
theorem tf_inj{a b:Nat}(ha:a<2^20)(hb:b<2^20)(h1:tN a=tN b)(h2:fN a=fN b):a=b:=by
 have x:=Two.of ha
 rw[h1,h2] at x
 exact x.same (Two.of hb)
theorem erase_take{cs:List Nat}{c k:Nat}(h:k<cs.length):(cs.take (k+1)).erase c=if cs.getD k 0=c∧c ∉ cs.take k then (cs.take k).erase c else (cs.take k).erase c++[cs.getD k 0]:=by
 have e:cs.take (k+1)=cs.take k++[cs.getD k 0]:=by rw[List.take_succ_eq_append_getElem h,List.getD_eq_getElem?_getD,List.getElem?_eq_getElem h];rfl
 rw[e]
 by_cases hm:c∈cs.take k
 ·rw[List.erase_append_left _ hm,if_neg (fun q=>q.2 hm)]
 ·rw[List.erase_append_right _ hm]
  by_cases hc:cs.getD k 0=c
  ·rw[if_pos ⟨hc,hm⟩,hc]
   simp[List.erase_of_not_mem hm]
  ·rw[if_neg (fun q=>hc q.1),List.erase_of_not_mem hm]
   have:([cs.getD k 0]:List Nat).erase c=[cs.getD k 0]:=List.erase_of_not_mem (fun q=>hc (List.mem_singleton.1 q).symm)
   rw[this]
theorem mem_take{cs:List Nat}{c k:Nat}(h:k<cs.length):(c∈cs.take (k+1))↔(c∈cs.take k∨cs.getD k 0=c):=by
 have e:cs.take (k+1)=cs.take k++[cs.getD k 0]:=by rw[List.take_succ_eq_append_getElem h,List.getD_eq_getElem?_getD,List.getElem?_eq_getElem h];rfl
 rw[e,List.mem_append,List.mem_singleton]
 constructor
 ·rintro(a | a)
  ·exact .inl a
  ·exact .inr a.symm
 ·rintro(a | a)
  ·exact .inl a
  ·exact .inr a.symm
set_option maxHeartbeats 4000000 in
theorem leaveOut_any(a:Option Addr)(cp:Nat)(cs:List Nat)(c:Nat)(w:World)(h:SetsAt w a (prL cs))(hl:cs.length≤10000000)(ht:∀ x∈cs,x<2^20)(hc:c<2^20) :
  Calls Tryd.prog 57 #[.slice a cs.length cp,setV c] w fun e w'=>(∃ a' c',e=.returned (.slice a' (cs.erase c).length c')∧w'.ownsRow w.heap.size 84 2 (.slice a' (cs.erase c).length c') (cs.erase c).length (prCells (prL (cs.erase c))))∧Below w.heap.size w w':=by
 obtain⟨i1,gi,gz0,gz1,gz2⟩:=info_parts Tryd.infoSet
 have hb0:Below w.heap.size w (w.alloc (.cells #[.int .i64 (tN c:Nat),.int .i64 (fN c:Nat)] 84)):=(Below.refl _ _).alloc (Nat.le_refl _) _
 have r0:Row (w.alloc (.cells #[.int .i64 (tN c:Nat),.int .i64 (fN c:Nat)] 84)) w.heap.size 84 [.int .i64 (tN c:Nat),.int .i64 (fN c:Nat)]:=heap_alloc_new w _
 have hinj:∀ x∈cs,x≠c→tN x≠tN c∨fN x≠fN c:=fun x hx hne=>by
  by_cases q:tN x=tN c
  ·exact .inr fun q'=>hne (tf_inj (ht x hx) hc q q')
  ·exact .inl q
 have H:=hide h
 have HI:=hide hinj
 have R0:=hide r0
 have B0:=hide hb0
 unfold setV
 clear h hinj r0 hb0 ht hc
 go_enter Tryd.func57,Tryd.ntmps57
 go_wp2_with fail
 generalize w.alloc (.cells #[.int .i64 (tN c:Nat),.int .i64 (fN c:Nat)] 84)=w0 at *
 go_loopw [5,6,11] (fun l fd ix wr=>∃ (k:Nat) (a1:Option Addr) (c1:Nat),k≤cs.length∧ix=.int .i64 k∧fd=.bool (decide (c∈cs.take k))∧l=.slice a1 ((cs.take k).erase c).length c1∧Hid (wr.ownsRow (w.heap.size+1) 84 2 (.slice a1 ((cs.take k).erase c).length c1) ((cs.take k).erase c).length (prCells (prL ((cs.take k).erase c))))∧Hid (Row wr w.heap.size 84 [.int .i64 (tN c:Nat),.int .i64 (fN c:Nat)])∧Hid (Below w.heap.size w wr)) (fun _ _ ix _=>cs.length - (intOf ix).toNat)
 case atStart=>exact⟨0,none,0,Nat.zero_le _,rfl,by simp,rfl,⟨rfl,.inl ⟨rfl,rfl⟩⟩,R0,B0⟩
 case round =>
  clear R0 B0
  obtain⟨k,a1,c1,hk,rfl,rfl,rfl,O,R,B⟩:=hrel
  have hz:w.heap.size+1≤wr.heap.size:=R.out.lt
  by_cases hlt:k<cs.length
  ·obtain⟨b,off,rfl,hcc⟩:=(H.out.below B.out).get (by rw[prL_len];omega)
   obtain⟨q0,q1⟩:=hcc k (by rw[prL_len];omega)
   rw[prL_get cs k hlt] at q0 q1
   have HE:=hide (erase_take (c:=c) hlt)
   have HM:=hide (mem_take (c:=c) hlt)
   have HX:=hide (HI.out (cs.getD k 0) (get_mem cs k hlt))
   have hln:((cs.take k).erase c).length≤k:=Nat.le_trans List.length_erase_le (by rw[List.length_take];omega)
   have y0:wr.cell? ⟨w.heap.size,0,none⟩=some (.int .i64 (tN c:Nat)):=(R.out.cell 0).trans rfl
   have y1:wr.cell? ⟨w.heap.size,1,none⟩=some (.int .i64 (fN c:Nat)):=(R.out.cell 1).trans rfl
   have i1':(0:Int)≤(k:Int):=by omega
   have i2':(k:Int)<(cs.length:Int):=by omega
   have hsz:w.heap.size<wr.heap.size:=by omega
   have ya:∀ o,(wr.alloc o).cell? ⟨w.heap.size,0,none⟩=some (.int .i64 (tN c:Nat)):=fun o=>(((Below.refl wr.heap.size wr).alloc (Nat.le_refl _) o).cell (p:=⟨w.heap.size,0,none⟩) hsz).trans y0
   have yb:∀ o,(wr.alloc o).cell? ⟨w.heap.size,1,none⟩=some (.int .i64 (fN c:Nat)):=fun o=>(((Below.refl wr.heap.size wr).alloc (Nat.le_refl _) o).cell (p:=⟨w.heap.size,1,none⟩) hsz).trans y1
   generalize hx:cs.getD k 0=x at *
   have HBA:Hid (∀ o,Below w.heap.size w (wr.alloc o)):=fun o=>B.out.alloc (by omega) o
   have HRA:Hid (∀ o,Row (wr.alloc o) w.heap.size 84 [.int .i64 (tN c:Nat),.int .i64 (fN c:Nat)]):=fun o=>row_below R.out ((Below.refl _ _).alloc (Nat.le_refl _) o)
   have HOA:Hid (∀ o,(wr.alloc o).ownsRow (w.heap.size+1) 84 2 (.slice a1 ((cs.take k).erase c).length c1) ((cs.take k).erase c).length (prCells (prL ((cs.take k).erase c)))):=fun o=>O.out.alloc o
   have d1:Hid (((cs.take k).erase c).length+1≤maxLen):=by show _≤_;unfold maxLen;omega
   have d2:Hid ((((cs.take k).erase c).length+1)*16≤140737488355328):=by show _≤_;omega
   have d3:Hid (∀ o o',w.heap.size+1≤((wr.alloc o).alloc o').heap.size):=fun o o'=>by simp;omega
   have d4:Hid (∀ o o',((wr.alloc o).alloc o').heap.size=wr.heap.size+1+1):=fun o o'=>by simp
   clear hcc H
   by_cases hyes:x=c∧c ∉ cs.take k
   ·rw[if_pos hyes] at HE
    obtain⟨e1,e2⟩:=hyes
    have HM2:Hid (decide (c∈cs.take (k+1))=true):=by show _=_;rw[decide_eq_true_iff,HM.out];exact .inr e1
    have hnf:decide (c∈cs.take k)=false:=by simpa using e2
    rw[hnf]
    subst e1
    have z1:(((tN x:Nat):Int) == ((tN x:Nat):Int))=true:=by simp
    have z2:(((fN x:Nat):Int) == ((fN x:Nat):Int))=true:=by simp
    clear e2 hnf HM HX
    generalize (cs.take k).erase x=L at *
    go_wp2
    go_roundw
    case rel=>exact⟨k+1,a1,c1,by omega,by go_num,by rw[HM2.out],by rw[HE.out],by rw[HE.out];exact HOA.out _,HRA.out _,HBA.out _⟩
    case measure=>simp[intOf];omega
   ·rw[if_neg hyes] at HE
    have HC2:Hid (∀ o o',((wr.alloc o).alloc o').ownsRow (w.heap.size+1) 84 2 (.slice a1 ((cs.take k).erase c).length c1) ((cs.take k).erase c).length (prCells (prL ((cs.take k).erase c)))):=fun o o'=>(O.out.alloc o).alloc o'
    have HBB:Hid (∀ o o',Below w.heap.size w ((wr.alloc o).alloc o')):=fun o o'=>(B.out.alloc (by omega) o).alloc (by simp;omega) o'
    have HRB:Hid (∀ o o',Row ((wr.alloc o).alloc o') w.heap.size 84 [.int .i64 (tN c:Nat),.int .i64 (fN c:Nat)]):=fun o o'=>row_below (HRA.out o) ((Below.refl _ _).alloc (Nat.le_refl _) o')
    have HPC:Hid (prCells (prL ((cs.take k).erase c++[x]))=prCells (prL ((cs.take k).erase c))++[.int .i64 (tN x:Nat),.int .i64 (fN x:Nat)]):=by show _=_;rw[prL_snoc,← prCells_snoc]
    by_cases exc:x=c
    ·have hfd:c∈cs.take k:=Classical.byContradiction fun q=>hyes ⟨exc,q⟩
     have HM2:Hid (decide (c∈cs.take (k+1))=true):=by show _=_;rw[decide_eq_true_iff,HM.out];exact .inl hfd
     have hf:decide (c∈cs.take k)=true:=by simpa using hfd
     rw[hf]
     have z1:(((tN x:Nat):Int) == ((tN c:Nat):Int))=true:=by rw[exc];simp
     have z2:(((fN x:Nat):Int) == ((fN c:Nat):Int))=true:=by rw[exc];simp
     clear hyes hf hfd HM HX exc
     generalize (cs.take k).erase c=L at *
     generalize tN x=tx at *
     generalize fN x=fx at *
     go_wp2_with (at_builtin;refine wpList_append_many _ rfl (.tmp 22) (.tmp 24) 65 rfl (w.heap.size+1) 84 i1 (.agg #[.int .i64 0,.int .i64 0]) 2 16 Tryd.undSets gi gz0 gz1 gz2 rfl (by decide) (.slice a1 L.length c1) L.length (prCells (prL L)) rfl (HC2.out _ _) ⟨wr.heap.size+1,0,none⟩ 1 1 [.int .i64 (tx:Nat),.int .i64 (fx:Nat)] rfl rfl (new_cells2 _ _ (by simp) [.int .i64 (tx:Nat),.int .i64 (fx:Nat)] 84) (by intro u hu;simp at hu;rcases hu with rfl|rfl <;> rfl) (by decide) d1.out d2.out (d3.out _ _) (wr.heap.size+1+1) (d4.out _ _) ?_;intro a3 c3 w6 hown3 hg3 hl3)
     have B6:Hid (Below w.heap.size w w6):=(HBB.out _ _).grown hg3 (HBB.out _ _).size (fun q hq=>Nat.le_of_succ_le (O.out.lt q hq).1)
     have R6:Hid (Row w6 w.heap.size 84 [.int .i64 (tN c:Nat),.int .i64 (fN c:Nat)]):=(hg3.block _ (by simp;omega) (fun e=>by have:=(O.out.lt _ e.symm).1;omega)).trans (HRB.out _ _)
     have O6:Hid (w6.ownsRow (w.heap.size+1) 84 2 (.slice a3 (L++[x]).length c3) (L++[x]).length (prCells (prL (L++[x])))):=by
      show _
      rw[List.length_append,List.length_singleton,HPC.out]
      exact hown3
     clear hown3 hg3 hl3
     go_roundw
     case rel=>exact⟨k+1,a3,c3,by omega,by go_num,by rw[HM2.out],by rw[HE.out,List.length_append,List.length_singleton],by rw[HE.out];exact O6,R6,B6⟩
     case measure=>simp[intOf];omega
    ·have HM2:Hid (decide (c∈cs.take (k+1))=decide (c∈cs.take k)):=by
      show _=_
      rw[Bool.eq_iff_iff,decide_eq_true_iff,decide_eq_true_iff,HM.out]
      exact⟨fun q=>q.resolve_right exc,.inl⟩
     generalize decide (c∈cs.take k)=fb at *
     have hne:=HX.out exc
     clear hyes HM HX exc
     generalize (cs.take k).erase c=L at *
     by_cases et:tN x=tN c
     ·have ef:fN x≠fN c:=hne.resolve_left fun q=>q et
      have z1:(((tN x:Nat):Int) == ((tN c:Nat):Int))=true:=by rw[et];simp
      have z2:(((fN x:Nat):Int) == ((fN c:Nat):Int))=false:=by
       have:((fN x:Nat):Int)≠((fN c:Nat):Int):=by omega
       simpa using this
      clear hne et ef
      generalize tN x=tx at *
      generalize fN x=fx at *
      go_wp2_with (at_builtin;refine wpList_append_many _ rfl (.tmp 22) (.tmp 24) 65 rfl (w.heap.size+1) 84 i1 (.agg #[.int .i64 0,.int .i64 0]) 2 16 Tryd.undSets gi gz0 gz1 gz2 rfl (by decide) (.slice a1 L.length c1) L.length (prCells (prL L)) rfl (HC2.out _ _) ⟨wr.heap.size+1,0,none⟩ 1 1 [.int .i64 (tx:Nat),.int .i64 (fx:Nat)] rfl rfl (new_cells2 _ _ (by simp) [.int .i64 (tx:Nat),.int .i64 (fx:Nat)] 84) (by intro u hu;simp at hu;rcases hu with rfl|rfl <;> rfl) (by decide) d1.out d2.out (d3.out _ _) (wr.heap.size+1+1) (d4.out _ _) ?_;intro a3 c3 w6 hown3 hg3 hl3)
      have B6:Hid (Below w.heap.size w w6):=(HBB.out _ _).grown hg3 (HBB.out _ _).size (fun q hq=>Nat.le_of_succ_le (O.out.lt q hq).1)
      have R6:Hid (Row w6 w.heap.size 84 [.int .i64 (tN c:Nat),.int .i64 (fN c:Nat)]):=(hg3.block _ (by simp;omega) (fun e=>by have:=(O.out.lt _ e.symm).1;omega)).trans (HRB.out _ _)
      have O6:Hid (w6.ownsRow (w.heap.size+1) 84 2 (.slice a3 (L++[x]).length c3) (L++[x]).length (prCells (prL (L++[x])))):=by
       show _
       rw[List.length_append,List.length_singleton,HPC.out]
       exact hown3
      clear hown3 hg3 hl3
      go_roundw
      case rel=>exact⟨k+1,a3,c3,by omega,by go_num,by rw[HM2.out],by rw[HE.out,List.length_append,List.length_singleton],by rw[HE.out];exact O6,R6,B6⟩
      case measure=>simp[intOf];omega
     ·have z1:(((tN x:Nat):Int) == ((tN c:Nat):Int))=false:=by
       have:((tN x:Nat):Int)≠((tN c:Nat):Int):=by omega
       simpa using this
      clear hne et
      generalize tN x=tx at *
      generalize fN x=fx at *
      go_wp2_with (at_builtin;refine wpList_append_many _ rfl (.tmp 22) (.tmp 24) 65 rfl (w.heap.size+1) 84 i1 (.agg #[.int .i64 0,.int .i64 0]) 2 16 Tryd.undSets gi gz0 gz1 gz2 rfl (by decide) (.slice a1 L.length c1) L.length (prCells (prL L)) rfl (HC2.out _ _) ⟨wr.heap.size+1,0,none⟩ 1 1 [.int .i64 (tx:Nat),.int .i64 (fx:Nat)] rfl rfl (new_cells2 _ _ (by simp) [.int .i64 (tx:Nat),.int .i64 (fx:Nat)] 84) (by intro u hu;simp at hu;rcases hu with rfl|rfl <;> rfl) (by decide) d1.out d2.out (d3.out _ _) (wr.heap.size+1+1) (d4.out _ _) ?_;intro a3 c3 w6 hown3 hg3 hl3)
      have B6:Hid (Below w.heap.size w w6):=(HBB.out _ _).grown hg3 (HBB.out _ _).size (fun q hq=>Nat.le_of_succ_le (O.out.lt q hq).1)
      have R6:Hid (Row w6 w.heap.size 84 [.int .i64 (tN c:Nat),.int .i64 (fN c:Nat)]):=(hg3.block _ (by simp;omega) (fun e=>by have:=(O.out.lt _ e.symm).1;omega)).trans (HRB.out _ _)
      have O6:Hid (w6.ownsRow (w.heap.size+1) 84 2 (.slice a3 (L++[x]).length c3) (L++[x]).length (prCells (prL (L++[x])))):=by
       show _
       rw[List.length_append,List.length_singleton,HPC.out]
       exact hown3
      clear hown3 hg3 hl3
      go_roundw
      case rel=>exact⟨k+1,a3,c3,by omega,by go_num,by rw[HM2.out],by rw[HE.out,List.length_append,List.length_singleton],by rw[HE.out];exact O6,R6,B6⟩
      case measure=>simp[intOf];omega
  ·obtain rfl:k=cs.length:=by omega
   rw[List.take_length] at O
   rw[List.take_length]
   go_wp2
   go_ret
   exact⟨⟨a1,c1,rfl,own_low O.out (Nat.le_succ _)⟩,B.out⟩
end Go.Proofs.YthboeppmlhbofabDoor
