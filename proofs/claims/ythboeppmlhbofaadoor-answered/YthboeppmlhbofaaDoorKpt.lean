import Derived.Test.YthboeppmlhbofaaDoorKaa
import Derived.Test.YthboeppmlhbofaaDoorKad
import Derived.Test.YthboeppmlhbofaaDoorHal
namespace Go.Proofs.YthboeppmlhbofaaDoor
open Go.RowKit Txt
set_option maxRecDepth 100000
theorem RI(xs:List Int)(p:Int→Bool)(k:Nat)(hk:k<xs.length):(xs.take (k+1)).any p=((xs.take k).any p || p (xs.getD k 0)):=by
 rw[List.take_succ_eq_append_getElem hk,List.any_append,List.getD_eq_getElem?_getD,List.getElem?_eq_getElem hk]
 simp
theorem Va{xs:List Int}{p:Int→Bool}{k:Nat}(hk:k<xs.length)(h:p (xs.getD k 0)=true):xs.any p=true:=by
 rw[List.getD_eq_getElem?_getD,List.getElem?_eq_getElem hk] at h
 exact List.any_eq_true.2 ⟨_,List.getElem_mem hk,h⟩
set_option maxHeartbeats 2000000 in
theorem NH(a:Option Addr)(c:Nat)(xs:List Int)(v:Nat)(w:World)(hx:xs.length≤9223372036854775807)(hr:Ad w a xs)(hv:v<1024) :
  Calls Tryd.prog 34 #[.slice a xs.length c,.int .i64 v] w fun e w'=>e=.returned (.bool (xs.any (Et v)))∧w'=w:=by
 have HS:Hid (∀ x w,Calls Tryd.prog 35 #[.int .i64 x,.int .i64 v] w fun e w'=>e=.returned (.bool (Et v x))∧w'=w):=fun x w=>Ux x v hv w
 have HR:=AA hr
 clear hr
 go_enter Tryd.func34,Tryd.ntmps34
 go_wp2
 go_loopw [5] (fun i wr=>∃ k:Nat,k≤xs.length∧i=.int .i64 k∧wr=w∧Hid ((xs.take k).any (Et v)=false)) (fun i _=>xs.length - (intOf i).toNat)
 case atStart=>exact⟨0,Nat.zero_le _,rfl,rfl,rfl⟩
 case round =>
  obtain⟨k,hk,rfl,rfl,HF⟩:=hrel
  by_cases hlt:k<xs.length
  ·obtain⟨b,off,rfl,hc⟩:=HR.out.get (by omega)
   have c0:=hc k hlt
   clear hc
   have HT:=AA (RI xs (Et v) k hlt)
   have HA:=AA (fun h=>Va (p:=Et v) hlt h)
   have i1:(0:Int)≤(k:Int):=by omega
   have i2:(k:Int)<(xs.length:Int):=by omega
   generalize xs.getD k 0=x at *
   have HX:=AA (HS.out x)
   cases hs:Et v x with
   | true =>
    rw[hs] at HX
    have he:Hid (xs.any (Et v)=true):=HA.out hs
    clear HT HA
    go_wp2_with (go_at_call 35;refine(AE HX _).mono ?_;rintro e w' ⟨rfl,hw⟩;obtain rfl:=hw.symm)
    go_ret
    exact⟨by rw[he.out];rfl,rfl⟩
   | false =>
    rw[hs] at HX
    have he:Hid ((xs.take (k+1)).any (Et v)=false):=by show _=_;rw[HT.out,HF.out,hs];rfl
    clear HT HA
    go_wp2_with (go_at_call 35;refine(AE HX _).mono ?_;rintro e w' ⟨rfl,hw⟩;obtain rfl:=hw.symm)
    go_roundw
    case rel=>exact⟨k+1,by omega,by go_num,trivial,he⟩
    case measure=>simp[intOf];omega
  ·obtain rfl:k=xs.length:=by omega
   rw[List.take_length] at HF
   go_wp2
   go_ret
   exact⟨by rw[HF.out];rfl,rfl⟩
theorem ZG(xs:List (List Int))(p:List Int→Bool)(k:Nat)(hk:k<xs.length):(xs.take (k+1)).all p=((xs.take k).all p && p (xs.getD k [])):=by
 rw[List.take_succ_eq_append_getElem hk,List.all_append,List.getD_eq_getElem?_getD,List.getElem?_eq_getElem hk]
 simp
theorem W4{xs:List (List Int)}{p:List Int→Bool}{k:Nat}(hk:k<xs.length)(h:p (xs.getD k [])=false):xs.all p=false:=by
 rw[List.getD_eq_getElem?_getD,List.getElem?_eq_getElem hk] at h
 rw[List.all_eq_false]
 exact⟨_,List.getElem_mem hk,by simpa using h⟩
set_option maxHeartbeats 2000000 in
theorem UZ(a1 a2:Option Addr)(c1 c2:Nat)(xs ys:List Int)(w:World)(h1:Ad w a1 xs)(h2:Ad w a2 ys)(hx:xs.length≤1000000000)(hy:ys.length≤1000000000) :
  Calls Tryd.prog 19 #[.slice a1 xs.length c1,.slice a2 ys.length c2] w fun e w'=>e=.returned (.bool (Ex xs ys))∧Below w.heap.size w w':=by
 have H1:=AA h1
 have H2:=AA h2
 have HRES:Hid (Ex xs ys=(Cj xs ys 0 == xs.length)):=rfl
 have HB0:Hid (Below w.heap.size w w):=Below.refl _ _
 generalize Ex xs ys=RES at *
 clear h1 h2
 go_enter Tryd.func19,Tryd.ntmps19
 go_wp2_with fail
 go_loopw [5,6] (fun x5 x6 wr=>∃ (i k:Nat),i≤ys.length∧k≤i∧x5=.int .i64 k∧x6=.int .i64 i∧Hid (Below w.heap.size w wr)∧Hid (RES=(Cj xs (ys.drop i) k == xs.length))) (fun _ x6 _=>ys.length - (intOf x6).toNat)
 case atStart=>exact⟨0,0,Nat.zero_le _,Nat.le_refl _,rfl,rfl,HB0,HRES⟩
 case round =>
  clear HRES HB0
  obtain⟨i,k,hi,hk,rfl,rfl,HB,HF⟩:=hrel
  by_cases hlt:i<ys.length
  ·obtain⟨b2,o2,rfl,hc2⟩:=(H2.out.below HB.out).get (by omega)
   have y1:=hc2 i hlt
   have hf:=HF.out
   rw[CK ys 0 i hlt] at hf
   simp only[Cj] at hf
   generalize ys.getD i 0=y at *
   by_cases hk2:k<xs.length
   ·obtain⟨b1,o1,rfl,hc1⟩:=(H1.out.below HB.out).get (by omega)
    have x1:=hc1 k hk2
    generalize xs.getD k 0=x at *
    by_cases he:x=y
    ·rw[if_pos ⟨hk2,he⟩] at hf
     have HF2:=AA hf
     have heb:(x == y)=true:=by simpa using he
     have HBD:Hid (Below w.heap.size w wr.drew):=below_drewN HB.out 1
     clear hf HF hc1 hc2 he
     go_wp2_with fail
     go_region
     go_wp2
     go_roundw
     case rel=>exact⟨i+1,k+1,by omega,by omega,by go_num,by go_num,HBD,HF2⟩
     case measure=>simp[intOf];omega
    ·rw[if_neg (fun q=>he q.2)] at hf
     have HF2:=AA hf
     have heb:(x == y)=false:=by simpa using he
     have HBD:Hid (Below w.heap.size w wr.drew):=below_drewN HB.out 1
     clear hf HF hc1 hc2 he
     go_wp2_with fail
     go_region
     go_wp2
     go_roundw
     case rel=>exact⟨i+1,k,by omega,by omega,rfl,by go_num,HBD,HF2⟩
     case measure=>simp[intOf];omega
   ·rw[if_neg (fun q=>hk2 q.1)] at hf
    have HF2:=AA hf
    have HBD:Hid (Below w.heap.size w wr.drew):=below_drewN HB.out 1
    clear hf HF hc2
    go_wp2_with fail
    go_region
    go_wp2
    go_roundw
    case rel=>exact⟨i+1,k,by omega,by omega,rfl,by go_num,HBD,HF2⟩
    case measure=>simp[intOf];omega
  ·have HRN:Hid (RES=(k == xs.length)):=by
    have:=HF.out
    rw[List.drop_eq_nil_of_le (by omega)] at this
    exact this
   have hb:((k:Int) == (xs.length:Int))=(k == xs.length):=UK _ _
   clear HF
   go_wp2
   go_ret
   exact⟨Bi (by rw[HRN.out,← hb]),HB.out⟩
set_option maxHeartbeats 2000000 in
theorem JZ(a a2:Option Addr)(c c2:Nat)(ms:List Int)(A:Nat→Option Addr)(C:Nat→Nat)(cls:List (List Int))(v:Nat)(w:World)(hcl:cls.length≤9223372036850000000)(hr:Br w a A C cls)(hv:v<1024)(hi:Ad w a2 ms)(hml:ms.length≤9223372036850000000) :
  Calls Tryd.prog 15 #[.slice a cls.length c,.slice a2 ms.length c2,.int .i64 v] w fun e w'=>e=.returned (.bool ((cls.all fun xs=>xs.any (Et v)) && ms.all (Et v)))∧w'=w:=by
 have HR:=AA hr
 have HI:=AA hi
 clear hr hi
 go_enter Tryd.func15,Tryd.ntmps15
 go_wp2
 go_loopw [7] (fun i wr=>∃ k:Nat,k≤cls.length∧i=.int .i64 k∧wr=w∧Hid ((cls.take k).all (fun xs=>xs.any (Et v))=true)) (fun i _=>cls.length - (intOf i).toNat)
 case atStart=>exact⟨0,Nat.zero_le _,rfl,rfl,rfl⟩
 case round =>
  obtain⟨k,hk,rfl,rfl,HF⟩:=hrel
  by_cases hlt:k<cls.length
  ·obtain⟨b,off,rfl,hc⟩:=HR.out.get (by omega)
   obtain⟨c0,c1,c2⟩:=hc k hlt
   clear hc
   have HT:=AA (ZG cls (fun xs=>xs.any (Et v)) k hlt)
   have HA:=AA (fun h=>W4 (p:=fun xs=>xs.any (Et v)) hlt h)
   have i1:(0:Int)≤(k:Int):=by omega
   have i2:(k:Int)<(cls.length:Int):=by omega
   generalize cls.getD k []=xs at *
   generalize A k=ak at *
   generalize C k=ck at *
   have HX:=AA (NH ak ck xs v wr c2 c1 hv)
   clear c1
   cases hs:xs.any (Et v) with
   | false =>
    rw[hs] at HX
    have he:Hid ((cls.all fun xs=>xs.any (Et v))=false):=HA.out hs
    clear HT HA
    go_wp2_with (go_at_call 34;refine(AE HX).mono ?_;rintro e w' ⟨rfl,hw⟩;obtain rfl:=hw.symm)
    go_ret
    exact⟨by rw[he.out];rfl,rfl⟩
   | true =>
    rw[hs] at HX
    have he:Hid ((cls.take (k+1)).all (fun xs=>xs.any (Et v))=true):=by show _=_;rw[HT.out,HF.out,hs];rfl
    clear HT HA
    go_wp2_with (go_at_call 34;refine(AE HX).mono ?_;rintro e w' ⟨rfl,hw⟩;obtain rfl:=hw.symm)
    go_roundw
    case rel=>exact⟨k+1,by omega,by go_num,trivial,he⟩
    case measure=>simp[intOf];omega
  ·obtain rfl:k=cls.length:=by omega
   rw[List.take_length] at HF
   go_wp2
   go_loopw [9] (fun i wz=>∃ k:Nat,k≤ms.length∧i=.int .i64 k∧wz=wr∧Hid ((ms.take k).all (Et v)=true)) (fun i _=>ms.length - (intOf i).toNat)
   case atStart=>exact⟨0,Nat.zero_le _,rfl,rfl,rfl⟩
   case round =>
    obtain⟨m,hm,rfl,rfl,HG⟩:=hrel
    by_cases hlt:m<ms.length
    ·obtain⟨b,off,rfl,hc⟩:=HI.out.get (by omega)
     have c0:=hc m hlt
     have i1:(0:Int)≤(m:Int):=by omega
     have i2:(m:Int)<(ms.length:Int):=by omega
     have HT:Hid ((ms.take (m+1)).all (Et v)=((ms.take m).all (Et v) && Et v (ms.getD m 0))):=by
      show _=_
      rw[List.take_succ_eq_append_getElem hlt,List.all_append,List.getD_eq_getElem?_getD,List.getElem?_eq_getElem hlt]
      simp
     have HA:Hid (Et v (ms.getD m 0)=false→ms.all (Et v)=false):=fun h=>by
      rw[List.getD_eq_getElem?_getD,List.getElem?_eq_getElem hlt] at h
      rw[List.all_eq_false]
      exact⟨_,List.getElem_mem hlt,by simpa using h⟩
     generalize ms.getD m 0=y at *
     have HX:=AA (Ux y v hv wr)
     clear hc
     cases hs:Et v y with
     | false =>
      rw[hs] at HX
      have he:Hid (ms.all (Et v)=false):=HA.out hs
      clear HT HA
      go_wp2_with (go_at_call 35;refine(AE HX).mono ?_;rintro e w' ⟨rfl,hw⟩;obtain rfl:=hw.symm)
      go_ret
      exact⟨by rw[he.out,Bool.and_false];rfl,rfl⟩
     | true =>
      rw[hs] at HX
      have he:Hid ((ms.take (m+1)).all (Et v)=true):=by show _=_;rw[HT.out,HG.out,hs];rfl
      clear HT HA
      go_wp2_with (go_at_call 35;refine(AE HX).mono ?_;rintro e w' ⟨rfl,hw⟩;obtain rfl:=hw.symm)
      go_roundw
      case rel=>exact⟨m+1,by omega,by go_num,trivial,he⟩
      case measure=>simp[intOf];omega
    ·obtain rfl:m=ms.length:=by omega
     rw[List.take_length] at HG
     go_wp2
     go_ret
     exact⟨by rw[HF.out,HG.out];rfl,rfl⟩
theorem Ml{x:Int}(h:AK x=true)(v:Nat):Et v x=(Be v).testBit (CS x):=by
 rcases Eo h with rfl|rfl|rfl|rfl|rfl|rfl|rfl|rfl|rfl|rfl|rfl|rfl|rfl|rfl|rfl|rfl|rfl|rfl|rfl|rfl <;> (rw[JC v _ (by decide)];simp[Et,AK,CS])
theorem Oq{tk:List (List Int)}{ms:List Int}{v:Nat}(hl:∀ c∈tk,c.all AK=true)(hm:ms.all AK=true)(h1:(tk.all fun xs=>xs.any (Et v))=true)(h2:ms.all (Et v)=true):EH (Gr tk) (AO ms) v=true:=by
 unfold EH
 rw[Bool.and_eq_true,List.all_eq_true]
 refine⟨fun c hc=>?_,?_⟩
 ·unfold Gr at hc
  obtain⟨cl,hcl,rfl⟩:=List.mem_map.1 hc
  have hcl:=(List.mem_filter.1 hcl).1
  obtain⟨x,hx,hs⟩:=List.any_eq_true.1 (List.all_eq_true.1 h1 cl hcl)
  have hlx:AK x=true:=List.all_eq_true.1 (hl cl hcl) x hx
  rw[Ml hlx] at hs
  have hb:=Jx hx
  have:Ak cl&&&Be v≠0:=fun e=>by
   have h3:(Ak cl&&&Be v).testBit (CS x)=true:=by rw[Nat.testBit_and,hb,hs];rfl
   rw[e] at h3
   simp at h3
  simpa using this
 ·have hsub:AH (AO ms) (Be v):=fun i hi=>by
   rw[Fo hm] at hi
   obtain⟨n,hn,rfl⟩:=J7 hi
   rw[← Ml (List.all_eq_true.1 hm n hn)]
   exact List.all_eq_true.1 h2 n hn
  simpa using hsub.eq_and
theorem RE{core:List Int}:∀ (l:List Int) (k j:Nat),k≤j→j<Cj core l k→core.getD j 0∈l:=by
 intro l
 induction l with
 | nil=>intro k j h1 h2;simp only[Cj] at h2;omega
 | cons x l ih =>
  intro k j h1 h2
  simp only[Cj] at h2
  split at h2
  ·rename_i hc
   by_cases hk:j=k
   ·rw[hk,hc.2];exact List.mem_cons_self ..
   ·exact List.mem_cons_of_mem _ (ih (k+1) j (by omega) h2)
  ·exact List.mem_cons_of_mem _ (ih k j h1 h2)
theorem RH{core l:List Int}(h:Ex core l=true):∀ x∈core,x∈l:=by
 intro x hx
 unfold Ex at h
 have h':Cj core l 0=core.length:=by simpa using h
 obtain⟨j,hj,rfl⟩:=List.mem_iff_getElem.1 hx
 have:=RE (core:=core) l 0 j (Nat.zero_le _) (by omega)
 rw[List.getD_eq_getElem?_getD,List.getElem?_eq_getElem hj] at this
 exact this
theorem U9{tk:List (List Int)}{x:Gg}{l last:List Int}(hl:∀ c∈tk,c.all AK=true)(hll:l.all AK=true)(h:Jv (Gr tk) x l last){v:Nat}(hv:v<1024):((tk.all fun xs=>xs.any (Et v)) && x.co.all (Et v))=false:=by
 have hco:x.co.all AK=true:=by
  rw[List.all_eq_true]
  intro n hn
  exact List.all_eq_true.1 hll n (RH h.am n hn)
 cases h1:(tk.all fun xs=>xs.any (Et v)) with
 | false=>rfl
 | true =>
  cases h2:x.co.all (Et v) with
  | false=>rfl
  | true =>
   exfalso
   have h3:=Oq hl hco h1 h2
   have h4:=h.no
   unfold Ky at h4
   rw[List.any_eq_false] at h4
   exact h4 v (List.mem_range.2 hv) h3
theorem Jt.rows{P:D0}{w:World}{B g:Nat}{s:P.S}{F:Nat→Prop}{ta:Option Addr}{tc:Nat}{vs:List Value}{tk:List (List Int)}(h:Jt P w B g s F ta tc vs tk):∃ A C,Br w ta A C tk:=by
 by_cases h0:tk=[]
 ·exact⟨fun _=>none,fun _=>0,.inl h0⟩
 have hp:0<tk.length:=List.length_pos_iff.2 h0
 obtain⟨g',cap,e,_,_⟩:=h.top.form hp
 simp only[Value.slice.injEq] at e
 obtain⟨rfl,_,rfl⟩:=e
 refine⟨fun r=>match vs.getD r undef with | .slice a _ _=>a | _=>none,fun r=>match vs.getD r undef with | .slice _ _ c=>c | _=>0,.inr ⟨g',0,rfl,fun r hr=>?_⟩⟩
 obtain⟨u,h1,h2⟩:=h.each.at r hr
 obtain⟨a,c,rfl⟩:=Ax h2
 have e1:vs.getD r undef=.slice a (tk.getD r []).length c:=by rw[List.getD_eq_getElem?_getD,h1];rfl
 simp only[e1]
 have hc:=h.top.cells (g:=g') rfl r _ h1
 rw[FR] at hc
 refine⟨hc,By h2,?_⟩
 rcases h2.2 with⟨_,z⟩ | ⟨_,cap,_,_,_,_,q1,q2,_⟩
 ·omega
 ·unfold maxLen at q2;omega
set_option maxHeartbeats 8000000 in
theorem ON(P:D0)(a a2:Option Addr)(c c2:Nat)(A:Nat→Option Addr)(C:Nat→Nat)(cls:List (List Int))(xs:List Int)(z:Int)(w:World)(hr:Br w a A C cls)(hcl:cls.length≤9223372036854775807)(_hcb:∀ c∈cls,∀ x∈c,-9223372036854775808≤x∧x≤9223372036854775807)(hi:Ad w a2 xs)(hx:xs.length≤9223372036854775807)(hxb:∀ x∈xs,-9223372036854775808≤x∧x≤9223372036854775807)(hz:-9223372036854775808≤z∧z≤9223372036854775807)(htab:FM w)(h0:0<w.heap.size) :
  Calls Tryd.prog 5 #[.slice a cls.length c,.slice a2 xs.length c2,.int .i64 z] w fun e w'=>e=.returned (.bool true)∧Below w.heap.size w w':=by
 have HW:=AA (IL P a c A C cls w hr hcl)
 have T:=Pw P cls
 have hl40:=Mr P cls
 have hln:=T.len hl40
 obtain⟨ok',ls,st,so,how⟩:=JF T.ok T.roomy (Dj xs)
 have HST:Hid ((P.ans (Ee P cls).1 (Ae xs) 0).st=1∨((P.ans (Ee P cls).1 (Ae xs) 0).st=2∧(((Ee P cls).2.all fun c=>c.any (Et (D8 z 1024))) && (P.ans (Ee P cls).1 (Ae xs) 0).co.all (Et (D8 z 1024)))=false∧Ex (P.ans (Ee P cls).1 (Ae xs) 0).co (Ae xs)=true)):=how.imp (fun q=>q.1) fun q=>⟨q.1,by
   have h4:=q.2.2.2
   rw[T.v] at h4
   exact U9 T.lit (IM xs) h4 (Hm z 1024 (by decide)),q.2.2.2.am⟩
 have HLI:Hid (∀ w',Below w.heap.size w w'→Calls Tryd.prog 11 #[] w' fun e w''=>e=.returned (.bool true)∧Below w'.heap.size w' w''):=fun w' hb=>JM P w' (htab.below hb h0) (Nat.lt_of_lt_of_le h0 hb.size)
 have HWI:Hid (∀ w',Below w.heap.size w w'→Calls Tryd.prog 12 #[.slice a2 xs.length c2] w' fun e w''=>∃ a' c',e=.returned (.slice a' (Ae xs).length c')∧w''.ownsRow w'.heap.size 3 1 (.slice a' (Ae xs).length c') (Ae xs).length (AW (Ae xs))∧Below w'.heap.size w' w''):=fun w' hb=>IN a2 c2 xs w' (hi.below hb) hx hxb
 have hal:=Dj xs
 have hwl:=Hr xs
 have TB:=AA htab
 have TO:=AA T.ok
 have HSO:Hid (∀ (w:World) (g:Nat) (F:Nat→Prop),P.At w g (Ee P cls).1 F→FM w→0<w.heap.size→¬ F 0→∀ (b0:Nat) (a:Option Addr) (c:Nat),w.ownsRow b0 3 1 (.slice a (Ae xs).length c) (Ae xs).length (AW (Ae xs))→(∀ q,F q→(Value.slice a (Ae xs).length c).ownBlock≠some q)→Calls Tryd.prog 13 #[.pointer (some ⟨g,0,none⟩),.slice a (Ae xs).length c,.int .i64 0] w fun e w'=>∃ p:A3,e=.returned (.tuple #[.agg #[.int .i64 (P.ans (Ee P cls).1 (Ae xs) 0).st,.int .i64 (P.ans (Ee P cls).1 (Ae xs) 0).re,.slice p.a1 (P.ans (Ee P cls).1 (Ae xs) 0).vs.length p.c1,.slice p.a2 (P.ans (Ee P cls).1 (Ae xs) 0).co.length p.c2,.slice p.a3 (P.ans (Ee P cls).1 (Ae xs) 0).cl.length p.c3],.int .i64 0])∧DJ w' w.heap.size (P.ans (Ee P cls).1 (Ae xs) 0) p∧∃ s',Wm P.At F w w' g s' fun F'=>∀ k,p.At k→¬ F' k):=fun w g F h1 h2 h3 h4 b0 a c h5 h6=>by
  have:=JU P h1 TO.out hln h2 h3 h4 h5 h6 (by omega) 0
  rw[hal] at this
  refine this.mono ?_
  rintro e w' ⟨p,he,ha,F',q1,q2,q3,q4⟩
  exact⟨p,he,ha,_,F',q1,q2,q3,q4⟩
 have e1:Fk P (P.new 0 1048576 1048576) (Hu cls)=Ee P cls:=rfl
 rw[e1] at HW
 generalize P.ans (Ee P cls).1 (Ae xs) 0=x at *
 generalize Ee P cls=sk at *
 generalize Ae xs=l at *
 have hp24:=Hm z 1024 (by decide)
 have HPK:=AA (fun w=>Lp z 1024 (by decide) (by decide) w hz.1 hz.2)
 have hco:x.co.length≤1000:=so.len.2.1
 generalize D8 z 1024=v at *
 clear hr hi hxb htab T hln ok' so how hal e1 hz
 go_enter Tryd.func5,Tryd.ntmps5
 go_wp2_with fail
 refine(AE HW).mono ?_
 rintro e w1 ⟨g,F,ta,tc,vs,rfl,X1,hb1⟩
 have X1':=X1.x
 have hbA:=Cg w1 (.cells #[.pointer (some ⟨g,0,none⟩),.slice ta sk.2.length tc,.bool true] 33)
 have r2:Ab (w1.alloc (.cells #[.pointer (some ⟨g,0,none⟩),.slice ta sk.2.length tc,.bool true] 33)) w1.heap.size 33 [.pointer (some ⟨g,0,none⟩),.slice ta sk.2.length tc,.bool true]:=heap_alloc_new w1 _
 have R2:=AA r2
 have X2:=AA (X1.below hbA)
 have b2:Below w.heap.size w (w1.alloc (.cells #[.pointer (some ⟨g,0,none⟩),.slice ta sk.2.length tc,.bool true] 33)):=hb1.trans (hbA.mono hb1.size)
 have B2:=AA b2
 have HL:=AA (HLI.out _ b2)
 clear hbA r2 X1 hb1 b2 HLI HW
 go_wp2_with fail
 refine(AE HL).mono ?_
 generalize w1.alloc (.cells #[.pointer (some ⟨g,0,none⟩),.slice ta sk.2.length tc,.bool true] 33)=w2 at *
 rintro e w3 ⟨rfl,hb3⟩
 have R3:=AA (AB R2.out hb3)
 have X3:=AA (X2.out.below hb3)
 have B3:Hid (Below w.heap.size w w3):=B2.out.trans (hb3.mono B2.out.size)
 have f2:w3.cell? ⟨w1.heap.size,2,none⟩=some (.bool true):=(R3.out.cell 2).trans rfl
 have HW3:=AA (HWI.out _ B3.out)
 clear hb3 HL HWI R2 X2 B2
 go_wp2_with fail
 refine(AE HW3).mono ?_
 rintro e w4 ⟨a4,c4,rfl,o4,hb4⟩
 have R4:=AA (AB R3.out hb4)
 have X4:=AA (X3.out.below hb4)
 have hz3:w.heap.size≤w3.heap.size:=B3.out.size
 have B4:Hid (Below w.heap.size w w4):=B3.out.trans (hb4.mono hz3)
 have f0:w4.cell? ⟨w1.heap.size,0,none⟩=some (.pointer (some ⟨g,0,none⟩)):=(R4.out.cell 0).trans rfl
 have hz4:w3.heap.size≤w4.heap.size:=hb4.size
 have HS:=AA (HSO.out w4 g F X4.out.x (FM.below TB.out B4.out h0) (by omega) (fun q=>by have:=X4.out.fb 0 q;omega) _ a4 c4 o4 (fun q hq e=>by
  have h1:=(o4.lt q e).1
  have h2:=P.lt X3.out.x q hq
  omega))
 have O4:=AA o4
 have HDJ:Hid (∀ q,F q→(Value.slice a4 l.length c4).ownBlock≠some q):=fun q hq e=>by
  have h1:=(o4.lt q e).1
  have h2:=P.lt X3.out.x q hq
  omega
 clear hb4 o4 HSO f2
 go_wp2_with fail
 refine(AE HS).mono ?_
 rintro e w5 ⟨p,rfl,ha5,s5,hn5⟩
 obtain⟨F5,X5,hc5,hn5,hq5⟩:=X4.out.call (by omega) hn5
 have B5:Hid (Below w.heap.size w w5):=DB B4.out hc5 (by omega) X4.out.fb
 have hz5:w4.heap.size≤w5.heap.size:=hc5.size
 have hwF:¬ F w1.heap.size:=fun q=>by have:=P.lt X1' _ q;omega
 have R5:Ab w5 w1.heap.size 33 [.pointer (some ⟨g,0,none⟩),.slice ta sk.2.length tc,.bool true]:=(hc5.block _ R4.out.lt hwF).trans R4.out
 have O5:w5.ownsRow w3.heap.size 3 1 (.slice a4 l.length c4) l.length (AW l):=Du O4.out fun q e=>hc5.block q (O4.out.lt q e).2 fun hq=>HDJ.out q hq e
 have hbB:=Cg w5 (.cells #[.int .i64 x.st,.int .i64 x.re,.slice p.a1 x.vs.length p.c1,.slice p.a2 x.co.length p.c2,.slice p.a3 x.cl.length p.c3] 38)
 have RA:Ab (w5.alloc (.cells #[.int .i64 x.st,.int .i64 x.re,.slice p.a1 x.vs.length p.c1,.slice p.a2 x.co.length p.c2,.slice p.a3 x.cl.length p.c3] 38)) w5.heap.size 38 [.int .i64 x.st,.int .i64 x.re,.slice p.a1 x.vs.length p.c1,.slice p.a2 x.co.length p.c2,.slice p.a3 x.cl.length p.c3]:=heap_alloc_new w5 _
 have R6:=AB R5 hbB
 have O6:=AA (By (AL O5 hbB))
 have C6:=AA (By (AL ha5.co hbB))
 obtain⟨A6,C6',hr6⟩:=(X5.below hbB).rows
 have HR6:=AA hr6
 have B6:Hid (Below w.heap.size w (w5.alloc (.cells #[.int .i64 x.st,.int .i64 x.re,.slice p.a1 x.vs.length p.c1,.slice p.a2 x.co.length p.c2,.slice p.a3 x.cl.length p.c3] 38))):=B5.out.trans (hbB.mono B5.out.size)
 have g0:(w5.alloc (.cells #[.int .i64 x.st,.int .i64 x.re,.slice p.a1 x.vs.length p.c1,.slice p.a2 x.co.length p.c2,.slice p.a3 x.cl.length p.c3] 38)).cell? ⟨w5.heap.size,0,none⟩=some (.int .i64 x.st):=(RA.cell 0).trans rfl
 have g3:(w5.alloc (.cells #[.int .i64 x.st,.int .i64 x.re,.slice p.a1 x.vs.length p.c1,.slice p.a2 x.co.length p.c2,.slice p.a3 x.cl.length p.c3] 38)).cell? ⟨w5.heap.size,3,none⟩=some (.slice p.a2 x.co.length p.c2):=(RA.cell 3).trans rfl
 have g1:(w5.alloc (.cells #[.int .i64 x.st,.int .i64 x.re,.slice p.a1 x.vs.length p.c1,.slice p.a2 x.co.length p.c2,.slice p.a3 x.cl.length p.c3] 38)).cell? ⟨w1.heap.size,1,none⟩=some (.slice ta sk.2.length tc):=(R6.cell 1).trans rfl
 obtain⟨xst,xre,xvs,xco,xcl⟩:=x
 simp only at HST g0 g1 g3 O6 C6 HR6 B6 hco
 rcases HST.out with e | ⟨e,hno,ham⟩
 ·subst e
  clear HS HST HPK
  go_wp2
  go_ret
  exact⟨rfl,B6.out⟩
 ·subst e
  have HNO:=AA hno
  have HAM:=AA ham
  have HAA:=AA (JZ ta p.a2 tc p.c2 xco A6 C6' sk.2 v _ (by omega) HR6.out hp24 C6.out (by omega))
  have HPA:=AA (UZ p.a2 a4 p.c2 c4 xco l _ C6.out O6.out (by omega) (by omega))
  rw[HNO.out] at HAA
  rw[HAM.out] at HPA
  clear HS HST hno ham RA R5 R6 hbB O5 hr6 ha5 hq5 X5
  go_wp2_with fail
  generalize w5.alloc (.cells #[.int .i64 2,.int .i64 xre,.slice p.a1 xvs.length p.c1,.slice p.a2 xco.length p.c2,.slice p.a3 xcl.length p.c3] 38)=w6 at *
  refine(AE HPK w6).mono ?_
  rintro e w7 ⟨rfl,hw⟩
  obtain rfl:=hw.symm
  go_wp2_with fail
  refine(AE HAA).mono ?_
  rintro e w7 ⟨rfl,hw⟩
  obtain rfl:=hw.symm
  go_wp2_with fail
  refine(AE HPA).mono ?_
  rintro e w8 ⟨rfl,hb8⟩
  have B8:Hid (Below w.heap.size w w8):=B6.out.trans (hb8.mono B6.out.size)
  clear hb8
  go_wp2
  go_ret
  exact⟨rfl,B8.out⟩
end Go.Proofs.YthboeppmlhbofaaDoor
