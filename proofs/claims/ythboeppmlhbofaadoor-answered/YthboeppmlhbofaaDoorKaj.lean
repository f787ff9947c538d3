import Derived.Test.YthboeppmlhbofaaDoorKpt
namespace Go.Proofs.YthboeppmlhbofaaDoor
open Go.RowKit Txt
set_option maxRecDepth 100000
def Dz:List Int→Nat→Nat→Option Nat
 | [],q,_=>some q
 | x :: l,q,last=>if x.natAbs≤last∨10<x.natAbs then none else Dz l (if 0<x then q|||2^(x.natAbs - 1) else q) x.natAbs
set_option maxHeartbeats 4000000 in
theorem Sw(a:Option Addr)(c:Nat)(xs:List Int)(u:Nat)(w:World)(hi:Ad w a xs)(hx:xs.length≤1000)(hu:Dz xs 0 0=some u) :
  Calls Tryd.prog 14 #[.slice a xs.length c] w fun e w'=>e=.returned (.tuple #[.int .i64 (u:Nat),.bool true])∧w'=w:=by
 have HI:=AA hi
 have HU:Hid (Dz (xs.drop 0) 0 0=some u):=hu
 clear hi hu
 go_enter Tryd.func14,Tryd.ntmps14
 go_wp2
 go_loopw [4,5,6] (fun x4 x5 x6 wr=>∃ (k q last:Nat),k≤xs.length∧q<1024∧last≤10∧x4=.int .i64 q∧x5=.int .i64 last∧x6=.int .i64 k∧wr=w∧Hid (Dz (xs.drop k) q last=some u)) (fun _ _ x6 _=>xs.length - (intOf x6).toNat)
 case atStart=>exact⟨0,0,0,Nat.zero_le _,by decide,by decide,rfl,rfl,rfl,rfl,HU⟩
 case round =>
  clear HU
  obtain⟨k,q,last,hk,hq,hla,rfl,rfl,rfl,rfl,HW⟩:=hrel
  by_cases hlt:k<xs.length
  ·obtain⟨b,off,rfl,hc⟩:=HI.out.get (by omega)
   have c0:=hc k hlt
   have hw:=HW.out
   rw[CK xs 0 k hlt] at hw
   simp only[Dz] at hw
   have i1:(0:Int)≤(k:Int):=by omega
   have i2:(k:Int)<(xs.length:Int):=by omega
   generalize xs.getD k 0=x at *
   clear hc HW
   split at hw
   ·simp at hw
   ·rename_i hv
    by_cases hp:0<x
    ·obtain⟨m,rfl⟩:∃ m:Nat,x=(m:Int)+1:=⟨x.toNat - 1,by omega⟩
     have hm:m<10:=by omega
     have e1:((m:Int)+1).natAbs=m+1:=by omega
     rw[if_pos hp,e1,Nat.add_sub_cancel] at hw
     have HW2:=AA hw
     have hor:=XE q m hq hm
     have hq2:q|||2^m<1024:=Nat.or_lt_two_pow (n:=10) hq (Nat.pow_lt_pow_right (by decide) hm)
     have h3:¬ ((m:Int)+1<0):=by omega
     have h4:¬ ((m:Int)+1≤(last:Int)):=by omega
     have h5:¬ ((m:Int)+1 > 10):=by omega
     clear hw hv e1
     generalize hqq:q|||2^m=q2 at *
     clear hqq
     go_wp2
     go_roundw
     case rel=>exact⟨k+1,q2,m+1,by omega,hq2,by omega,by go_num,by go_num,by go_num,trivial,HW2⟩
     case measure=>simp[intOf];omega
    ·rw[if_neg hp] at hw
     obtain⟨m,rfl⟩:∃ m:Nat,x=-((m:Int)+1):=⟨(-x).toNat - 1,by omega⟩
     have e1:(-((m:Int)+1)).natAbs=m+1:=by omega
     rw[e1] at hw
     have HW2:=AA hw
     have h3:(-((m:Int)+1)<0):=by omega
     have h4:¬ ((m:Int)+1≤(last:Int)):=by omega
     have h5:¬ ((m:Int)+1 > 10):=by omega
     have h6:¬ (-((m:Int)+1) > 0):=by omega
     have h7:IntKind.i64.wrap (-(-((m:Int)+1)))=(m:Int)+1:=by rw[IntKind.wrap_i64];omega
     have hm:m<10:=by omega
     clear hw hv e1
     go_wp2
     go_roundw
     case rel=>exact⟨k+1,q,m+1,by omega,hq,by omega,rfl,by go_num,by go_num,trivial,HW2⟩
     case measure=>simp[intOf];omega
  ·have HW2:Hid (some q=some u):=by
    have:=HW.out
    rw[List.drop_eq_nil_of_le (by omega)] at this
    exact this
   obtain rfl:=Option.some.inj HW2.out
   clear HW HW2
   go_wp2
   go_ret2
   exact⟨rfl,rfl⟩
set_option maxHeartbeats 4000000 in
theorem Tg(a:Option Addr)(c:Nat)(xs:List Int)(v:Int)(w:World)(hi:Ad w a xs)(hx:xs.length≤1000)(hv:AK v=true)(hin:∃ y∈xs,y=v∨y=-v) :
  Calls Tryd.prog 16 #[.slice a xs.length c,.int .i64 v] w fun e w'=>e=.returned (.bool true)∧w'=w:=by
 have HI:=AA hi
 have HU:Hid (∃ y∈xs.drop 0,y=v∨y=-v):=hin
 simp only[AK,Bool.and_eq_true,bne_iff_ne,decide_eq_true_eq] at hv
 have hvb:-10≤v∧v≤10:=⟨hv.1.2,hv.2⟩
 have hng:IntKind.i64.wrap (-v)=-v:=by rw[IntKind.wrap_i64];omega
 clear hi hin hv
 go_enter Tryd.func16,Tryd.ntmps16
 go_wp2
 go_loopw [5] (fun x5 wr=>∃ k:Nat,k≤xs.length∧x5=.int .i64 k∧wr=w∧Hid (∃ y∈xs.drop k,y=v∨y=-v)) (fun x5 _=>xs.length - (intOf x5).toNat)
 case atStart=>exact⟨0,Nat.zero_le _,rfl,rfl,HU⟩
 case round =>
  clear HU
  obtain⟨k,hk,rfl,rfl,HW⟩:=hrel
  by_cases hlt:k<xs.length
  ·obtain⟨b,off,rfl,hc⟩:=HI.out.get (by omega)
   have c0:=hc k hlt
   have hw:=HW.out
   rw[CK xs 0 k hlt] at hw
   have i1:(0:Int)≤(k:Int):=by omega
   have i2:(k:Int)<(xs.length:Int):=by omega
   generalize xs.getD k 0=x at *
   clear hc HW
   by_cases e1:x=v
   ·have h1:(x == v)=true:=by simpa using e1
    clear e1 hw
    go_wp2
    go_ret
    exact⟨rfl,rfl⟩
   ·have h1:(x == v)=false:=by simpa using e1
    by_cases e2:x=-v
    ·have h2:(x == -v)=true:=by simpa using e2
     clear e1 e2 hw
     go_wp2
     go_ret
     exact⟨rfl,rfl⟩
    ·have h2:(x == -v)=false:=by simpa using e2
     have HW2:Hid (∃ y∈xs.drop (k+1),y=v∨y=-v):=by
      obtain⟨y,hy,e⟩:=hw
      rcases List.mem_cons.1 hy with rfl | hy
      ·exact absurd e (fun q=>q.elim e1 e2)
      ·exact⟨y,hy,e⟩
     clear e1 e2 hw
     go_wp2
     go_roundw
     case rel=>exact⟨k+1,by omega,by go_num,trivial,HW2⟩
     case measure=>simp[intOf];omega
  ·exfalso
   have:=HW.out
   rw[List.drop_eq_nil_of_le (by omega)] at this
   obtain⟨y,hy,_⟩:=this
   simp at hy
theorem QL{seen u:Nat}(hun:∀ k,k<10→seen.testBit (2*k)=false→u.testBit k=false):∀ k,k≤10→∃ last,last≤k∧∀ rest,Dz (BG seen u k++rest) 0 0=Dz rest (M8 u k) last:=by
 intro k
 induction k with
 | zero=>intro _;exact⟨0,Nat.le_refl _,fun rest=>rfl⟩
 | succ k ih =>
  intro hk
  obtain⟨last,hl,h⟩:=ih (by omega)
  cases hs:seen.testBit (2*k) with
  | false =>
   refine⟨last,by omega,fun rest=>?_⟩
   have e1:BG seen u (k+1)=BG seen u k:=by simp[BG,hs]
   have e2:M8 u (k+1)=M8 u k:=by simp[M8,hun k (by omega) hs]
   rw[e1,e2];exact h rest
  | true =>
   refine⟨k+1,Nat.le_refl _,fun rest=>?_⟩
   cases hb:u.testBit k with
   | true =>
    have e1:BG seen u (k+1)=BG seen u k++[(k:Int)+1]:=by simp[BG,hs,hb]
    have e2:M8 u (k+1)=M8 u k|||2^k:=by simp[M8,hb]
    have e3:((k:Int)+1).natAbs=k+1:=by omega
    rw[e1,e2,List.append_assoc,h]
    simp only[List.cons_append,List.nil_append,Dz,e3]
    rw[if_neg (by omega),if_pos (by omega),Nat.add_sub_cancel]
   | false =>
    have e1:BG seen u (k+1)=BG seen u k++[-((k:Int)+1)]:=by simp[BG,hs,hb]
    have e2:M8 u (k+1)=M8 u k:=by simp[M8,hb]
    have e3:(-((k:Int)+1)).natAbs=k+1:=by omega
    rw[e1,e2,List.append_assoc,h]
    simp only[List.cons_append,List.nil_append,Dz,e3]
    rw[if_neg (by omega),if_neg (by omega)]
theorem SU{hv:List Nat}{seen must u:Nat}{x:Gg}(h:M9 hv seen must x u):Dz x.vs 0 0=some u:=by
 obtain⟨last,_,hw⟩:=QL h.un 10 (Nat.le_refl _)
 have:=hw []
 rw[List.append_nil,Wi h.lt] at this
 rw[h.vs];exact this
theorem Pj{tk:List (List Int)}{ms:List Int}{v:Nat}(hl:∀ c∈tk,c.all AK=true)(hm:ms.all AK=true)(h:EH (Gr tk) (AO ms) v=true):((tk.all fun xs=>xs.any (Et v)) && ms.all (Et v))=true:=by
 unfold EH at h
 rw[Bool.and_eq_true,List.all_eq_true] at h
 rw[Bool.and_eq_true,List.all_eq_true,List.all_eq_true]
 refine⟨fun c hc=>?_,fun n hn=>?_⟩
 ·have hlc:=hl c hc
  have h20:=Qv c hlc
  have key:∃ i,i<20∧(Ak c).testBit i=true∧(Be v).testBit i=true:=by
   cases ht:A4 (Ak c) with
   | false =>
    have hm:Ak c∈Gr tk:=List.mem_map.2 ⟨c,List.mem_filter.2 ⟨hc,by simp[ht]⟩,rfl⟩
    have:=h.1 _ hm
    obtain⟨i,q1,q2⟩:=Iu (show Ak c&&&Be v≠0 by simpa using this)
    exact⟨i,A8 h20 q1,q1,q2⟩
   | true =>
    by_cases hn:∃ i,i<20∧(Ak c).testBit i=true∧(Ak c).testBit (Dk i)=true
    ·obtain⟨i,hi,q1,q2⟩:=hn
     have hp:=A8 h20 q2
     cases hb:(Be v).testBit i with
     | true=>exact⟨i,hi,q1,hb⟩
     | false =>
      refine⟨Dk i,hp,q2,?_⟩
      rw[JC v i hi] at hb
      rw[JC v _ hp]
      rcases DU i with e | e
      ·have ep:Dk i=i+1:=by unfold Dk;rw[if_pos (by omega)]
       rw[if_pos (by omega)] at hb
       rw[ep,if_neg (by omega),show(i+1) / 2=i / 2 by omega,hb];rfl
      ·have ep:Dk i=i - 1:=by unfold Dk;rw[if_neg (by omega)]
       rw[if_neg (by omega)] at hb
       rw[ep,if_pos (by omega),show(i - 1) / 2=i / 2 by omega]
       simpa using hb
    ·exfalso
     have:A4 (Ak c)=false:=(DS _).2 fun i hi q=>by
      cases hb:(Ak c).testBit (Dk i) with
      | false=>rfl
      | true=>exact absurd ⟨i,hi,q,hb⟩ hn
     rw[this] at ht;simp at ht
  obtain⟨i,_,q1,q2⟩:=key
  obtain⟨n,hn,rfl⟩:=J7 q1
  rw[List.any_eq_true]
  exact⟨n,hn,by rw[Ml (List.all_eq_true.1 hlc n hn)];exact q2⟩
 ·rw[Ml (List.all_eq_true.1 hm n hn)]
  have hb:(AO ms).testBit (CS n)=true:=by rw[Fo hm];exact Jx hn
  have h2:AO ms&&&Be v=AO ms:=by simpa using h.2
  rw[← h2,Nat.testBit_and,Bool.and_eq_true] at hb
  exact hb.2
theorem VC{seen:Nat}(hs:AH seen 349525)(u:Nat):(BG seen u 10).length=AG seen:=by
 have key:∀ k,k≤10→(BG seen u k).length=Bq seen (2*k):=by
  intro k
  induction k with
  | zero=>intro _;rfl
  | succ k ih =>
   intro hk
   have h1:=ih (by omega)
   have hodd:seen.testBit (2*k+1)=false:=by
    cases hb:seen.testBit (2*k+1) with
    | false=>rfl
    | true =>
     have:=hs _ hb
     rw[Ir k (by omega)] at this
     simp at this
   have e:Bq seen (2*(k+1))=Bq seen (2*k)+(seen.testBit (2*k)).toNat:=by
    rw[show 2*(k+1)=2*k+1+1 by omega]
    simp only[Bq]
    rw[← Nat.toNat_testBit,← Nat.toNat_testBit,hodd]
    rfl
   rw[e,← h1]
   cases hb:seen.testBit (2*k) <;> simp[BG,hb]
 exact key 10 (Nat.le_refl _)
theorem VB{seen u:Nat}{x:Int}(hx:AK x=true)(hs:seen.testBit (2*(x.natAbs - 1))=true):∃ y∈BG seen u 10,y=x∨y=-x:=by
 simp only[AK,Bool.and_eq_true,bne_iff_ne,decide_eq_true_eq] at hx
 obtain⟨h1,h2⟩:=Sm seen u (x.natAbs - 1) (by omega) hs
 refine⟨_,List.getElem_mem h1,?_⟩
 rw[List.getD_eq_getElem?_getD,List.getElem?_eq_getElem h1] at h2
 have h3:(BG seen u 10)[(BG seen u (x.natAbs - 1)).length]=if u.testBit (x.natAbs - 1) then ((x.natAbs - 1:Nat):Int)+1 else -(((x.natAbs - 1:Nat):Int)+1):=h2
 rw[h3]
 split <;> omega
theorem MR(n o1 o2 o3 o4 o5 o6:Int)(w:World):(Instr.field 46 (.agg #[.int .i64 n,.int .i64 o1,.int .i64 o2,.int .i64 o3,.int .i64 o4,.int .i64 o5,.int .i64 o6]) 0).run Tryd.prog w=.ok (.int .i64 n) w:=by kernel_rfl
theorem So{s v:Nat}(hs:s<2^20)(hv:v<10):(Ag s).testBit (2*v)=(s.testBit (2*v) || s.testBit (2*v+1)):=by
 have h1:=(Bf.of hs).vars.pos v hv
 have h2:=Bf.of hs
 rw[h1,Nat.testBit_or,h2.pos v hv,h2.neg v hv]
set_option maxHeartbeats 8000000 in
theorem LV(P:D0)(a a2:Option Addr)(c c2:Nat)(A:Nat→Option Addr)(C:Nat→Nat)(cls:List (List Int))(xs:List Int)(w:World)(hr:Br w a A C cls)(hcl:cls.length≤9223372036854775807)(_hcb:∀ c∈cls,∀ x∈c,-9223372036854775808≤x∧x≤9223372036854775807)(hi:Ad w a2 xs)(hx:xs.length≤9223372036854775807)(hxb:∀ x∈xs,-9223372036854775808≤x∧x≤9223372036854775807)(htab:FM w)(h0:0<w.heap.size) :
  Calls Tryd.prog 4 #[.slice a cls.length c,.slice a2 xs.length c2] w fun e w'=>e=.returned (.bool true)∧Below w.heap.size w w':=by
 have HW:=AA (IL P a c A C cls w hr hcl)
 have T:=Pw P cls
 have hl40:=Mr P cls
 have hln:=T.len hl40
 obtain⟨ok',ls,st,so,how⟩:=JF T.ok T.roomy (Dj xs)
 have HST:Hid (((P.ans (Ee P cls).1 (Ae xs) 0).st=1∧∃ u,u<1024∧Dz (P.ans (Ee P cls).1 (Ae xs) 0).vs 0 0=some u∧(((Ee P cls).2.all fun c=>c.any (Et u)) && (Ae xs).all (Et u))=true∧(∀ y∈Ae xs,AK y=true∧∃ q∈(P.ans (Ee P cls).1 (Ae xs) 0).vs,q=y∨q=-y)∧(P.ans (Ee P cls).1 (Ae xs) 0).vs.length=AG (P.vw (P.slv (Ee P cls).1 (Ae xs) 0)).seen)∨(P.ans (Ee P cls).1 (Ae xs) 0).st=2):=how.elim (fun q=>.inl ⟨q.1,by
   obtain⟨_,_,u,h4⟩:=q
   rw[T.v] at h4
   have hll:=IM xs
   have hss:AH (P.vw (P.slv (Ee P cls).1 (Ae xs) 0)).seen 349525:=by rw[so.seen];exact Mp T.roomy.seen (EF _)
   refine⟨u,h4.lt,SU h4,Pj T.lit hll h4.al,fun y hy=>?_,by rw[h4.vs];exact VC hss u⟩
   have hly:AK y=true:=List.all_eq_true.1 hll y hy
   refine⟨hly,?_⟩
   rw[h4.vs]
   refine VB hly ?_
   rw[so.seen,Nat.testBit_or]
   have hb:(AO (Ae xs)).testBit (CS y)=true:=by rw[Fo hll];exact Jx hy
   have hv:=(Bf.of (Dw (Ae xs))).vars
   have hyl:=hly
   simp only[AK,Bool.and_eq_true,bne_iff_ne,decide_eq_true_eq] at hyl
   have h9:(Ag (AO (Ae xs))).testBit (2*(y.natAbs - 1))=true:=by
    rw[So (Dw _) (by omega)]
    unfold CS at hb
    split at hb
    ·rw[show(2*y - 2).toNat=2*(y.natAbs - 1) by omega] at hb
     rw[hb];rfl
    ·rw[show(-2*y - 1).toNat=2*(y.natAbs - 1)+1 by omega] at hb
     rw[hb,Bool.or_true]
   rw[h9,Bool.or_true]⟩) fun q=>.inr q.1
 have HLI:Hid (∀ w',Below w.heap.size w w'→Calls Tryd.prog 11 #[] w' fun e w''=>e=.returned (.bool true)∧Below w'.heap.size w' w''):=fun w' hb=>JM P w' (htab.below hb h0) (Nat.lt_of_lt_of_le h0 hb.size)
 have HWI:Hid (∀ w',Below w.heap.size w w'→Calls Tryd.prog 12 #[.slice a2 xs.length c2] w' fun e w''=>∃ a' c',e=.returned (.slice a' (Ae xs).length c')∧w''.ownsRow w'.heap.size 3 1 (.slice a' (Ae xs).length c') (Ae xs).length (AW (Ae xs))∧Below w'.heap.size w' w''):=fun w' hb=>IN a2 c2 xs w' (hi.below hb) hx hxb
 have hal:=Dj xs
 have hwl:=Hr xs
 have TB:=AA htab
 have TO:=AA T.ok
 have HSO:Hid (∀ (w:World) (g:Nat) (F:Nat→Prop),P.At w g (Ee P cls).1 F→FM w→0<w.heap.size→¬ F 0→∀ (b0:Nat) (a:Option Addr) (c:Nat),w.ownsRow b0 3 1 (.slice a (Ae xs).length c) (Ae xs).length (AW (Ae xs))→(∀ q,F q→(Value.slice a (Ae xs).length c).ownBlock≠some q)→Calls Tryd.prog 13 #[.pointer (some ⟨g,0,none⟩),.slice a (Ae xs).length c,.int .i64 0] w fun e w'=>∃ p:A3,e=.returned (.tuple #[.agg #[.int .i64 (P.ans (Ee P cls).1 (Ae xs) 0).st,.int .i64 (P.ans (Ee P cls).1 (Ae xs) 0).re,.slice p.a1 (P.ans (Ee P cls).1 (Ae xs) 0).vs.length p.c1,.slice p.a2 (P.ans (Ee P cls).1 (Ae xs) 0).co.length p.c2,.slice p.a3 (P.ans (Ee P cls).1 (Ae xs) 0).cl.length p.c3],.int .i64 0])∧DJ w' w.heap.size (P.ans (Ee P cls).1 (Ae xs) 0) p∧Wm P.At F w w' g (P.slv (Ee P cls).1 (Ae xs) 0) fun F'=>∀ k,p.At k→¬ F' k):=fun w g F h1 h2 h3 h4 b0 a c h5 h6=>by
  have:=JU P h1 TO.out hln h2 h3 h4 h5 h6 (by omega) 0
  rw[hal] at this
  refine this.mono ?_
  rintro e w' ⟨p,he,ha,F',q1,q2,q3,q4⟩
  exact⟨p,he,ha,F',q1,q2,q3,q4⟩
 have e1:Fk P (P.new 0 1048576 1048576) (Hu cls)=Ee P cls:=rfl
 rw[e1] at HW
 generalize P.ans (Ee P cls).1 (Ae xs) 0=x at *
 have hvl:x.vs.length≤1000:=so.len.1
 have hn5:(P.vw (P.slv (Ee P cls).1 (Ae xs) 0)).hv.length≤1000000:=by rw[so.hv];omega
 have OK5:=AA ok'
 generalize P.slv (Ee P cls).1 (Ae xs) 0=s5 at *
 generalize Ee P cls=sk at *
 generalize Ae xs=l at *
 clear hr hi hxb htab T hln ok' so how hal e1
 go_enter Tryd.func4,Tryd.ntmps4
 go_wp2_with fail
 refine(AE HW).mono ?_
 rintro e w1 ⟨g,F,ta,tc,vs,rfl,X1,hb1⟩
 have X1':=X1.x
 have hbA:=Cg w1 (.cells #[.pointer (some ⟨g,0,none⟩),.slice ta sk.2.length tc,.bool true] 33)
 have r2:Ab (w1.alloc (.cells #[.pointer (some ⟨g,0,none⟩),.slice ta sk.2.length tc,.bool true] 33)) w1.heap.size 33 [.pointer (some ⟨g,0,none⟩),.slice ta sk.2.length tc,.bool true]:=heap_alloc_new w1 _
 have R2:=AA r2
 have X2:=AA (X1.below hbA)
 have b2:Below w.heap.size w (w1.alloc (.cells #[.pointer (some ⟨g,0,none⟩),.slice ta sk.2.length tc,.bool true] 33)):=hb1.trans (hbA.mono hb1.size)
 have B2:=AA b2
 have HL:=AA (HLI.out _ b2)
 clear hbA r2 X1 hb1 b2 HLI HW
 go_wp2_with fail
 refine(AE HL).mono ?_
 generalize w1.alloc (.cells #[.pointer (some ⟨g,0,none⟩),.slice ta sk.2.length tc,.bool true] 33)=w2 at *
 rintro e w3 ⟨rfl,hb3⟩
 have R3:=AA (AB R2.out hb3)
 have X3:=AA (X2.out.below hb3)
 have B3:Hid (Below w.heap.size w w3):=B2.out.trans (hb3.mono B2.out.size)
 have f2:w3.cell? ⟨w1.heap.size,2,none⟩=some (.bool true):=(R3.out.cell 2).trans rfl
 have HW3:=AA (HWI.out _ B3.out)
 clear hb3 HL HWI R2 X2 B2
 go_wp2_with fail
 refine(AE HW3).mono ?_
 rintro e w4 ⟨a4,c4,rfl,o4,hb4⟩
 have R4:=AA (AB R3.out hb4)
 have X4:=AA (X3.out.below hb4)
 have hz3:w.heap.size≤w3.heap.size:=B3.out.size
 have B4:Hid (Below w.heap.size w w4):=B3.out.trans (hb4.mono hz3)
 have f0:w4.cell? ⟨w1.heap.size,0,none⟩=some (.pointer (some ⟨g,0,none⟩)):=(R4.out.cell 0).trans rfl
 have hz4:w3.heap.size≤w4.heap.size:=hb4.size
 have HS:=AA (HSO.out w4 g F X4.out.x (FM.below TB.out B4.out h0) (by omega) (fun q=>by have:=X4.out.fb 0 q;omega) _ a4 c4 o4 (fun q hq e=>by
  have h1:=(o4.lt q e).1
  have h2:=P.lt X3.out.x q hq
  omega))
 have O4:=AA o4
 have HDJ:Hid (∀ q,F q→(Value.slice a4 l.length c4).ownBlock≠some q):=fun q hq e=>by
  have h1:=(o4.lt q e).1
  have h2:=P.lt X3.out.x q hq
  omega
 clear hb4 o4 HSO f2
 go_wp2_with fail
 refine(AE HS).mono ?_
 rintro e w5 ⟨p,rfl,ha5,hn5'⟩
 obtain⟨F5,X5,hc5,hn5'',hq5⟩:=X4.out.call (by omega) hn5'
 have B5:Hid (Below w.heap.size w w5):=DB B4.out hc5 (by omega) X4.out.fb
 have hz5:w4.heap.size≤w5.heap.size:=hc5.size
 have hwF:¬ F w1.heap.size:=fun q=>by have:=P.lt X1' _ q;omega
 have R5:Ab w5 w1.heap.size 33 [.pointer (some ⟨g,0,none⟩),.slice ta sk.2.length tc,.bool true]:=(hc5.block _ R4.out.lt hwF).trans R4.out
 have O5:w5.ownsRow w3.heap.size 3 1 (.slice a4 l.length c4) l.length (AW l):=Du O4.out fun q e=>hc5.block q (O4.out.lt q e).2 fun hq=>HDJ.out q hq e
 have hbB:=Cg w5 (.cells #[.int .i64 x.st,.int .i64 x.re,.slice p.a1 x.vs.length p.c1,.slice p.a2 x.co.length p.c2,.slice p.a3 x.cl.length p.c3] 38)
 have RA:Hid (Ab (w5.alloc (.cells #[.int .i64 x.st,.int .i64 x.re,.slice p.a1 x.vs.length p.c1,.slice p.a2 x.co.length p.c2,.slice p.a3 x.cl.length p.c3] 38)) w5.heap.size 38 [.int .i64 x.st,.int .i64 x.re,.slice p.a1 x.vs.length p.c1,.slice p.a2 x.co.length p.c2,.slice p.a3 x.cl.length p.c3]):=heap_alloc_new w5 _
 have R6:=AA (AB R5 hbB)
 have O6:=AA (By (AL O5 hbB))
 have V6:=AA (By (AL ha5.vs hbB))
 have X6:=AA (X5.below hbB)
 have B6:Hid (Below w.heap.size w (w5.alloc (.cells #[.int .i64 x.st,.int .i64 x.re,.slice p.a1 x.vs.length p.c1,.slice p.a2 x.co.length p.c2,.slice p.a3 x.cl.length p.c3] 38))):=B5.out.trans (hbB.mono B5.out.size)
 obtain⟨xst,xre,xvs,xco,xcl⟩:=x
 simp only at HST RA O6 V6 R6 B6 X6 hvl
 clear HS ha5 hq5 hn5'' X5 hn5' hbB R5 O5 X4 R4 O4 HDJ X3 R3 B4 B3 f0 hc5
 rcases HST.out with⟨e,u,hu,huw,hual,huh,hun⟩ | e
 ·subst e
  have HUN:=AA hun
  clear hun
  have g0:(w5.alloc (.cells #[.int .i64 1,.int .i64 xre,.slice p.a1 xvs.length p.c1,.slice p.a2 xco.length p.c2,.slice p.a3 xcl.length p.c3] 38)).cell? ⟨w5.heap.size,0,none⟩=some (.int .i64 1):=(RA.out.cell 0).trans rfl
  have g2:(w5.alloc (.cells #[.int .i64 1,.int .i64 xre,.slice p.a1 xvs.length p.c1,.slice p.a2 xco.length p.c2,.slice p.a3 xcl.length p.c3] 38)).cell? ⟨w5.heap.size,2,none⟩=some (.slice p.a1 xvs.length p.c1):=(RA.out.cell 2).trans rfl
  have g1:(w5.alloc (.cells #[.int .i64 1,.int .i64 xre,.slice p.a1 xvs.length p.c1,.slice p.a2 xco.length p.c2,.slice p.a3 xcl.length p.c3] 38)).cell? ⟨w1.heap.size,1,none⟩=some (.slice ta sk.2.length tc):=(R6.out.cell 1).trans rfl
  have HWO:=AA (Sw p.a1 p.c1 xvs u _ V6.out hvl huw)
  obtain⟨A6,C6',hr6⟩:=X6.out.rows
  have HAA:=AA (JZ ta a4 tc c4 l A6 C6' sk.2 u _ (by omega) hr6 hu O6.out (by omega))
  rw[hual] at HAA
  have HUH:=AA huh
  clear hr6 hual huw huh HST
  go_wp2_with fail
  generalize w5.alloc (.cells #[.int .i64 1,.int .i64 xre,.slice p.a1 xvs.length p.c1,.slice p.a2 xco.length p.c2,.slice p.a3 xcl.length p.c3] 38)=w6 at *
  refine(AE HWO).mono ?_
  rintro e w7 ⟨rfl,hw⟩
  obtain rfl:=hw.symm
  go_wp2_with fail
  refine(AE HAA).mono ?_
  rintro e w7 ⟨rfl,hw⟩
  obtain rfl:=hw.symm
  clear HWO HAA
  have HCE:Hid (∀ wr,Below w6.heap.size w6 wr→wr.cell? ⟨w5.heap.size,2,none⟩=some (.slice p.a1 xvs.length p.c1)∧wr.cell? ⟨w1.heap.size,0,none⟩=some (.pointer (some ⟨g,0,none⟩))∧Ad wr p.a1 xvs∧Ad wr a4 l):=fun wr hb=>⟨((AB RA.out hb).cell 2).trans rfl,((AB R6.out hb).cell 0).trans rfl,V6.out.below hb,O6.out.below hb⟩
  have HCT:Hid (∀ wr,Below w6.heap.size w6 wr→Calls Tryd.prog 17 #[.pointer (some ⟨g,0,none⟩)] wr fun e w'=>(∃ o1 o2 o3 o4 o5 o6:Int,e=.returned (.agg #[.int .i64 (xvs.length:Nat),.int .i64 o1,.int .i64 o2,.int .i64 o3,.int .i64 o4,.int .i64 o5,.int .i64 o6]))∧Below wr.heap.size wr w'):=fun wr hb=>(P.countsC (P.below X6.out.x hb) OK5.out hn5).mono (by
   rintro e w' ⟨rfl,hb'⟩
   rw[HUN.out]
   exact⟨⟨_,_,_,_,_,_,rfl⟩,hb'⟩)
  have BB0:Hid (Below w6.heap.size w6 w6):=Below.refl _ _
  clear g0 g1 g2
  go_wp2_with fail
  go_loopw [11,12] (fun x11 x12 wr=>∃ k:Nat,k≤l.length∧x11=.bool true∧x12=.int .i64 k∧Hid (Below w6.heap.size w6 wr)) (fun _ x12 _=>l.length - (intOf x12).toNat)
  case atStart=>exact⟨0,Nat.zero_le _,rfl,rfl,BB0⟩
  case round =>
   clear BB0
   obtain⟨k,hk,rfl,rfl,BB⟩:=hrel
   obtain⟨q2,q0,qv,ql⟩:=HCE.out wr BB.out
   have BD:Hid (Below w6.heap.size w6 wr.drew):=below_drewN BB.out 1
   by_cases hlt:k<l.length
   ·obtain⟨b,off,rfl,hc⟩:=ql.get (by omega)
    have c0:=hc k hlt
    have hm:l.getD k 0∈l:=by
     rw[List.getD_eq_getElem?_getD,List.getElem?_eq_getElem hlt]
     exact List.getElem_mem hlt
    obtain⟨hly,hin⟩:=HUH.out _ hm
    have i1:(0:Int)≤(k:Int):=by omega
    have i2:(k:Int)<(l.length:Int):=by omega
    generalize l.getD k 0=y at *
    have HH:=AA (Tg p.a1 p.c1 xvs y wr.drew (HCE.out _ BD.out).2.2.1 hvl hly hin)
    clear hc ql qv hm hly hin
    go_wp2_with fail
    go_region_with (go_at_call 16;refine(AE HH).mono ?_;rintro e w8 ⟨rfl,hw⟩;obtain rfl:=hw.symm)
    all_goals
     go_wp2
     go_roundw
     case rel=>exact⟨k+1,by omega,rfl,by go_num,BD⟩
     case measure=>simp[intOf];omega
   ·clear ql qv
    have hfd:=fun o1 o2 o3 o4 o5 o6 w=>MR (xvs.length:Nat) o1 o2 o3 o4 o5 o6 w
    go_wp2_with fail
    go_region_with (go_at_call 17;refine(AE HCT _ BD.out).mono ?_;rintro e w8 ⟨⟨o1,o2,o3,o4,o5,o6,rfl⟩,hb8⟩;have B8:Hid (Below w6.heap.size w6 w8):=BD.out.trans (hb8.mono BD.out.size);clear hb8;obtain⟨r2,r0,_,_⟩:=HCE.out w8 B8.out)
    all_goals
     go_wp2
     go_ret
     exact⟨rfl,B6.out.trans (B8.out.mono B6.out.size)⟩
 ·subst e
  have g0:(w5.alloc (.cells #[.int .i64 2,.int .i64 xre,.slice p.a1 xvs.length p.c1,.slice p.a2 xco.length p.c2,.slice p.a3 xcl.length p.c3] 38)).cell? ⟨w5.heap.size,0,none⟩=some (.int .i64 2):=(RA.out.cell 0).trans rfl
  clear HST
  go_wp2
  go_ret
  exact⟨rfl,B6.out⟩
end Go.Proofs.YthboeppmlhbofaaDoor
