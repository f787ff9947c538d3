import Derived.Test.YthboeppmlhbofaaDoorLaa
import Derived.Deep.LoopGhost
namespace Go.Proofs.YthboeppmlhbofaaDoor
open Go.RowKit Txt
set_option maxRecDepth 100000
theorem Hf(xs:List Int)(x:Int):AW (xs++[x])=AW xs++[.int .i64 x]:=by simp[AW]
theorem Ou{x:Nat}(h0:x≠0)(hx:x<2^20):AG (x - CV x)<AG x∧x&&&CV x=CV x:=by
 obtain⟨j,hj,hl⟩:=Ip h0 hx
 have hb:=Ff hl hj
 refine⟨Cn (fun i hi=>by rw[hb,Bool.and_eq_true] at hi;exact hi.1) hx (fun e=>by have:=hb j;rw[e,hj] at this;simp at this),?_⟩
 have hs:AH (CV x) x:=Mb x
 rw[Nat.and_comm]
 exact hs.eq_and
set_option maxHeartbeats 4000000 in
theorem RJ(x:Nat)(hx:x<2^11)(w:World) :
  Calls Tryd.prog 51 #[.int .i64 x] w fun e w'=>(∃ a c,e=.returned (.slice a (BT 11 x).length c)∧w'.ownsRow w.heap.size 3 1 (.slice a (BT 11 x).length c) (BT 11 x).length (AW (DP (BT 11 x))))∧Below w.heap.size w w':=by
 obtain⟨i0,hi0,hz0,hz1,hz2⟩:=info_parts Tryd.infoInt
 have hsz:AG x≤11:=by
  have:AH x 2047:=fun i hi=>by
   have:=A8 hx hi
   have hh:i=0∨i=1∨i=2∨i=3∨i=4∨i=5∨i=6∨i=7∨i=8∨i=9∨i=10:=by omega
   rcases hh with rfl|rfl|rfl|rfl|rfl|rfl|rfl|rfl|rfl|rfl|rfl <;> decide
  exact Nat.le_trans (I9 this) (by decide)
 generalize hres:BT 11 x=RES
 have HF:Hid ([]++BT 11 x=RES):=by show _=_;rw[List.nil_append];exact hres
 clear hres
 go_enter Tryd.func51,Tryd.ntmps51
 go_wp2_with fail
 go_loopg [0,3] 11 (fun m v l wr=>∃ (y:Nat) (ls:List Nat) (a1:Option Addr) (c1:Nat),y<2^11∧AG y≤m∧m≤11∧ls.length+m≤11∧v=.int .i64 y∧l=.slice a1 ls.length c1∧Hid (ls++BT m y=RES)∧Hid (wr.ownsRow w.heap.size 3 1 (.slice a1 ls.length c1) ls.length (AW (DP ls)))∧Hid (Below w.heap.size w wr))
 case atStart=>exact⟨x,[],none,0,hx,hsz,Nat.le_refl _,Nat.le_refl _,rfl,rfl,HF,⟨rfl,.inl ⟨rfl,rfl⟩⟩,Below.refl _ _⟩
 case round =>
  clear HF
  obtain⟨y,ls,a1,c1,hy,hs,hm,hlm,rfl,rfl,F,O,B⟩:=hrel
  by_cases h0:y=0
  ·subst h0
   have HR:Hid (ls=RES):=by
    show _=_
    have:=F.out
    cases gk with
    | zero=>simpa [BT] using this
    | succ m=>simpa [BT] using this
   go_wp2
   go_ret
   exact⟨⟨a1,c1,by rw[← HR.out];rfl,by rw[← HR.out];exact O.out⟩,B.out⟩
  ·obtain⟨s1,s2⟩:=Ou h0 (Nat.lt_trans hy (by decide))
   obtain⟨m,rfl⟩:∃ m,gk=m+1:=⟨gk - 1,by omega⟩
   have F2:Hid ((ls++[CV y])++BT m (y - CV y)=RES):=by
    show _=_
    have:=F.out
    simp only[BT] at this
    rw[if_neg h0] at this
    simpa using this
   have hlo:=Vs y (by omega)
   have hne:((y:Int) != 0)=true:=by simp;exact h0
   have hll:CV y≤y:=Nat.and_le_left
   have han:=IX y (CV y) (by omega)
   rw[s2] at han
   have hyl:y - CV y<2^11:=by omega
   have hwn:IntKind.i64.wrap (-(y:Int))=-(y:Int):=by rw[IntKind.wrap_i64];omega
   have hz:w.heap.size≤wr.heap.size:=B.out.size
   have d1:Hid (ls.length+1≤maxLen):=by show _≤_;unfold maxLen;omega
   have d2:Hid ((ls.length+1)*8≤140737488355328):=by show _≤_;omega
   have d3:Hid (∀ o,w.heap.size≤(wr.alloc o).heap.size):=fun o=>by simp;omega
   have S1:=AA (And.intro s1 hyl)
   generalize hlw:CV y=lo at *
   have HLY:=AA hll
   clear s1 s2 F hlw hyl hll
   generalize hyy:y - lo=y2 at *
   clear hyy
   go_wp2_with (at_builtin;refine Ap _ rfl _ _ 26 rfl w.heap.size 3 i0 (.int .i64 0) 8 Tryd.undInts hi0 hz0 hz1 hz2 rfl (.slice a1 ls.length c1) ls.length (AW (DP ls)) rfl (O.out.alloc _) ⟨wr.heap.size,0,none⟩ 1 1 [.int .i64 (lo:Int)] rfl rfl (AX wr [.int .i64 (lo:Int)] 3) (by intro u hu;simp at hu;subst hu;rfl) (by decide) d1.out d2.out (d3.out _) ?_;intro v3 w3 hown3 hg3 hwh3;obtain⟨a3,c3,rfl⟩:=Ax hown3)
   have B3:Hid (Below w.heap.size w w3):=(B.out.alloc hz _).grown hg3 (B.out.alloc hz _).size (fun k hk=>(O.out.lt k hk).1)
   have O3:Hid (w3.ownsRow w.heap.size 3 1 (.slice a3 (ls.length+1) c3) (ls.length+1) (AW (DP (ls++[lo])))):=by
    show _
    rw[JO,Hf]
    exact hown3
   clear hown3 hg3 hwh3
   go_roundg m
   case measure=>omega
   case rel=>exact⟨y2,ls++[lo],a3,c3,S1.out.2,by have:=S1.out.1;omega,by omega,by rw[List.length_append,List.length_singleton];omega,rfl,by rw[List.length_append,List.length_singleton],F2,by rw[List.length_append,List.length_singleton];exact O3,B3⟩
theorem Li:∀ (ws l:List Nat) (v:Nat),(EU ws l v).length≤l.length+ws.length+1:=by
 intro ws
 induction ws with
 | nil=>intro l v;simp[EU]
 | cons c ws ih =>
  intro l v
  simp only[EU]
  split
  ·have:=ih (l++[c]) v
   simp only[List.length_append,List.length_nil,List.length_cons] at this ⊢
   omega
  ·have:=ih l (v|||c)
   simp only[List.length_cons]
   omega
theorem Tu:∀ (ws l:List Nat) (v:Nat),(∀ x∈ws,x<2^11)→(∀ x∈l,x<2^11)→v<2^11→∀ x∈EU ws l v,x<2^11:=by
 intro ws
 induction ws with
 | nil =>
  intro l v _ hl hv x hx
  simp only[EU,List.mem_append,List.mem_singleton] at hx
  rcases hx with hx | rfl
  ·exact hl x hx
  ·exact hv
 | cons c ws ih =>
  intro l v hw hl hv x hx
  simp only[EU] at hx
  have hc:=hw c (List.mem_cons_self ..)
  have hw':∀ x∈ws,x<2^11:=fun x hx=>hw x (List.mem_cons_of_mem _ hx)
  split at hx
  ·exact ih _ _ hw' (fun y hy=>by
    rcases List.mem_append.1 hy with hy | hy
    ·exact hl y hy
    ·rw[List.mem_singleton.1 hy];exact hc) hv x hx
  ·exact ih _ _ hw' hl (Nat.or_lt_two_pow hv hc) x hx
set_option maxHeartbeats 4000000 in
theorem Tv(a:Option Addr)(cp:Nat)(ws:List Nat)(v:Nat)(w:World)(hr:Ad w a (DP ws))(hl:ws.length≤1000000)(hw:∀ x∈ws,x<2^11)(hv:v<2^11) :
  Calls Tryd.prog 52 #[.slice a ws.length cp,.int .i64 v] w fun e w'=>(∃ a' c',e=.returned (.slice a' (D7 ws v).length c')∧w'.ownsRow w.heap.size 3 1 (.slice a' (D7 ws v).length c') (D7 ws v).length (AW (DP (D7 ws v))))∧Below w.heap.size w w':=by
 obtain⟨i0,hi0,hz0,hz1,hz2⟩:=info_parts Tryd.infoInt
 have HF:Hid (EU (ws.drop 0) [] v=D7 ws v):=rfl
 have HR:=AA hr
 have HW:=AA hw
 generalize D7 ws v=RES at *
 clear hr hw
 go_enter Tryd.func52,Tryd.ntmps52
 go_wp2_with fail
 go_loopw [1,5,10] (fun x1 x5 x10 wr=>∃ (k y:Nat) (ls:List Nat) (a1:Option Addr) (c1:Nat),k≤ws.length∧y<2^11∧ls.length≤k∧x1=.int .i64 y∧x5=.slice a1 ls.length c1∧x10=.int .i64 k∧Hid (EU (ws.drop k) ls y=RES)∧Hid (wr.ownsRow w.heap.size 3 1 (.slice a1 ls.length c1) ls.length (AW (DP ls)))∧Hid (Below w.heap.size w wr)) (fun _ _ x10 _=>ws.length - (intOf x10).toNat)
 case atStart=>exact⟨0,v,[],none,0,Nat.zero_le _,hv,Nat.le_refl _,rfl,rfl,rfl,HF,⟨rfl,.inl ⟨rfl,rfl⟩⟩,Below.refl _ _⟩
 case round =>
  clear HF
  obtain⟨k,y,ls,a1,c1,hk,hy,hls,rfl,rfl,rfl,F,O,B⟩:=hrel
  have hz:w.heap.size≤wr.heap.size:=B.out.size
  have d1:Hid (ls.length+1≤maxLen):=by show _≤_;unfold maxLen;omega
  have d2:Hid ((ls.length+1)*8≤140737488355328):=by show _≤_;omega
  have d3:Hid (∀ o,w.heap.size≤(wr.alloc o).heap.size):=fun o=>by simp;omega
  by_cases hlt:k<ws.length
  ·obtain⟨b,off,rfl,hc⟩:=Ll (HR.out.below B.out) (by omega)
   have h1:=hc k hlt
   have hx:=HW.out _ (Ig ws k hlt)
   have f2:=F.out
   rw[CK ws 0 k hlt] at f2
   simp only[EU] at f2
   generalize ws.getD k 0=x at *
   have ha:=Eb x y (by omega) (by omega)
   have ho:=Kn y x (by omega) (by omega)
   have hol:y|||x<2^11:=Nat.or_lt_two_pow hy hx
   clear hc F
   by_cases hz0':x&&&y=0
   ·rw[if_pos hz0'] at f2
    rw[hz0'] at ha
    have F2:=AA f2
    clear f2 hz0'
    go_wp2_with (at_builtin;refine Ap _ rfl _ _ 26 rfl w.heap.size 3 i0 (.int .i64 0) 8 Tryd.undInts hi0 hz0 hz1 hz2 rfl (.slice a1 ls.length c1) ls.length (AW (DP ls)) rfl (O.out.alloc _) ⟨wr.heap.size,0,none⟩ 1 1 [.int .i64 (x:Int)] rfl rfl (AX wr [.int .i64 (x:Int)] 3) (by intro u hu;simp at hu;subst hu;rfl) (by decide) d1.out d2.out (d3.out _) ?_;intro v3 w3 hown3 hg3 hwh3;obtain⟨a3,c3,rfl⟩:=Ax hown3)
    have B3:Hid (Below w.heap.size w w3):=(B.out.alloc hz _).grown hg3 (B.out.alloc hz _).size (fun k hk=>(O.out.lt k hk).1)
    have O3:Hid (w3.ownsRow w.heap.size 3 1 (.slice a3 (ls.length+1) c3) (ls.length+1) (AW (DP (ls++[x])))):=by
     show _
     rw[JO,Hf]
     exact hown3
    clear hown3 hg3 hwh3
    go_roundw
    case rel=>exact⟨k+1,y,ls++[x],a3,c3,by omega,hy,by rw[List.length_append,List.length_singleton];omega,rfl,by rw[List.length_append,List.length_singleton],by go_num,F2,by rw[List.length_append,List.length_singleton];exact O3,B3⟩
    case measure=>simp[intOf];omega
   ·rw[if_neg hz0'] at f2
    have hzb:(((x&&&y:Nat):Int) != 0)=true:=by rw[bne_iff_ne];omega
    have F2:=AA f2
    have OL:=AA hol
    generalize x&&&y=z at *
    generalize y|||x=yn at *
    clear f2 hz0' hol
    go_wp2
    go_roundw
    case rel=>exact⟨k+1,yn,ls,a1,c1,by omega,OL.out,by omega,rfl,rfl,by go_num,F2,O,B⟩
    case measure=>simp[intOf];omega
  ·obtain rfl:k=ws.length:=by omega
   have HRS:Hid (ls++[y]=RES):=by
    show _=_
    have:=F.out
    rw[List.drop_eq_nil_of_le (Nat.le_refl _)] at this
    exact this
   clear F
   go_wp2_with (at_builtin;refine Ap _ rfl _ _ 26 rfl w.heap.size 3 i0 (.int .i64 0) 8 Tryd.undInts hi0 hz0 hz1 hz2 rfl (.slice a1 ls.length c1) ls.length (AW (DP ls)) rfl (O.out.alloc _) ⟨wr.heap.size,0,none⟩ 1 1 [.int .i64 (y:Int)] rfl rfl (AX wr [.int .i64 (y:Int)] 3) (by intro u hu;simp at hu;subst hu;rfl) (by decide) d1.out d2.out (d3.out _) ?_;intro v3 w3 hown3 hg3 hwh3;obtain⟨a3,c3,rfl⟩:=Ax hown3)
   have B3:Hid (Below w.heap.size w w3):=(B.out.alloc hz _).grown hg3 (B.out.alloc hz _).size (fun k hk=>(O.out.lt k hk).1)
   go_ret
   refine⟨⟨a3,c3,?_,?_⟩,B3.out⟩
   ·rw[← HRS.out,List.length_append,List.length_singleton];rfl
   ·rw[← HRS.out,List.length_append,List.length_singleton,JO,Hf];exact hown3
set_option maxHeartbeats 4000000 in
theorem NN(a:Option Addr)(cp:Nat)(cs:List Nat)(seen:Nat)(w:World)(h:Cr w a (Ce cs))(hl:cs.length≤100000)(hs:seen<2^11) :
  Calls Tryd.prog 30 #[.slice a cs.length cp,.int .i64 seen] w fun e w'=>(∃ a' c',e=.returned (.slice a' (Ct cs seen).length c')∧w'.ownsRow w.heap.size 3 1 (.slice a' (Ct cs seen).length c') (Ct cs seen).length (AW (DP (Ct cs seen))))∧Below w.heap.size w w':=by
 have HA:=AA (RJ seen hs w)
 have hsz:AG seen≤11:=by
  have:AH seen 2047:=fun i hi=>by
   have:=A8 hs hi
   have hh:i=0∨i=1∨i=2∨i=3∨i=4∨i=5∨i=6∨i=7∨i=8∨i=9∨i=10:=by omega
   rcases hh with rfl|rfl|rfl|rfl|rfl|rfl|rfl|rfl|rfl|rfl|rfl <;> decide
  exact Nat.le_trans (I9 this) (by decide)
 have hap:=Lb 11 seen (Nat.lt_trans hs (by decide)) hsz
 have hapl:∀ x∈BT 11 seen,x<2^11:=fun x hx=>by
  have:=(hap.1 x hx).2.1
  exact BX fun i hi=>by
   cases hb:x.testBit i with
   | false=>rfl
   | true=>have:=A8 hs (this i hb);omega
 have hapn:∀ m x,(BT m x).length≤m:=by
  intro m
  induction m with
  | zero=>intro x;simp[BT]
  | succ m ih =>
   intro x
   simp only[BT]
   split
   ·simp
   ·have:=ih (x - CV x)
    simp only[List.length_cons]
    omega
 have HF:Hid ((cs.drop 0).foldl (fun ws c=>D7 ws (vN c)) (BT 11 seen)=Ct cs seen):=rfl
 have HA1:=AA (And.intro hapl (hapn 11 seen))
 have H:=AA h
 generalize Ct cs seen=RES at *
 generalize BT 11 seen=ap at *
 clear h hap hapl hapn hsz hs
 go_enter Tryd.func30,Tryd.ntmps30
 go_wp2_with fail
 refine(AE HA).mono ?_
 rintro e w1 ⟨⟨aa,ca,rfl,ho⟩,hb⟩
 have O1:=AA ho
 have B1:=AA hb
 clear ho hb HA
 go_wp2_with fail
 go_loopw [5,12] (fun x5 x12 wr=>∃ (k:Nat) (ls:List Nat) (a1:Option Addr) (c1:Nat),k≤cs.length∧ls.length≤11+k∧x5=.slice a1 ls.length c1∧x12=.int .i64 k∧Hid (∀ x∈ls,x<2^11)∧Hid ((cs.drop k).foldl (fun ws c=>D7 ws (vN c)) ls=RES)∧Hid (wr.ownsRow w.heap.size 3 1 (.slice a1 ls.length c1) ls.length (AW (DP ls)))∧Hid (Below w.heap.size w wr)) (fun _ x12 _=>cs.length - (intOf x12).toNat)
 case atStart=>exact⟨0,ap,aa,ca,Nat.zero_le _,HA1.out.2,rfl,rfl,HA1.out.1,HF,O1,B1⟩
 case round =>
  clear HF O1 B1 HA1
  obtain⟨k,ls,a1,c1,hk,hls,rfl,rfl,HL,F,O,B⟩:=hrel
  have hz:w.heap.size≤wr.heap.size:=B.out.size
  by_cases hlt:k<cs.length
  ·obtain⟨b,off,rfl,hcc⟩:=(H.out.below B.out).get (by rw[Az];omega)
   obtain⟨q0,q1⟩:=hcc k (by rw[Az];omega)
   rw[Iy cs k hlt] at q0 q1
   have f2:=F.out
   rw[CK cs 0 k hlt] at f2
   simp only[List.foldl_cons] at f2
   generalize cs.getD k 0=x at *
   have F2:=AA f2
   have i1:(0:Int)≤(k:Int):=by omega
   have i2:(k:Int)<(cs.length:Int):=by omega
   have l1:=Ed x
   have l2:=Ec x
   have HV:Hid (∀ w,Calls Tryd.prog 48 #[.agg #[.int .i64 (tN x:Nat),.int .i64 (fN x:Nat)]] w fun e w'=>e=.returned (.int .i64 (vN x:Nat))∧Below w.heap.size w w'):=fun w=>Fw (tN x) (fN x) l1 l2 w
   have hvl:=LB x
   have LEN:=AA (Li ls [] (vN x))
   have LLT:=AA (Tu ls [] (vN x) HL.out (fun y hy=>by simp at hy) hvl)
   have HBA:Hid (∀ o,Below w.heap.size w (wr.alloc o)):=fun o=>B.out.alloc hz o
   have HOA:Hid (∀ o,(wr.alloc o).ownsRow w.heap.size 3 1 (.slice a1 ls.length c1) ls.length (AW (DP ls))):=fun o=>O.out.alloc o
   clear hcc f2 F
   generalize tN x=tx at *
   generalize fN x=fx at *
   go_wp2_with fail
   refine(AE HV _).mono ?_
   rintro e w2 ⟨rfl,hb2⟩
   have B2:Hid (Below w.heap.size w w2):=(HBA.out _).trans (hb2.mono (HBA.out _).size)
   have O2:=AA (AL (HOA.out _) hb2)
   have HK:=AA (Tv a1 c1 ls (vN x) w2 (Qo O2.out) (by omega) HL.out hvl)
   clear hb2 HV
   generalize vN x=vx at *
   go_wp2_with fail
   refine(AE HK).mono ?_
   rintro e w3 ⟨⟨a3,c3,rfl,ho3⟩,hb3⟩
   have B3:Hid (Below w.heap.size w w3):=B2.out.trans (hb3.mono B2.out.size)
   have O3:=AA (BO ho3 B2.out.size)
   have LEN2:Hid ((D7 ls vx).length≤11+(k+1)):=by
    show _≤_
    have:=LEN.out
    simp only[List.length_nil] at this
    show(EU ls [] vx).length≤_
    omega
   have LL2:Hid (∀ x∈D7 ls vx,x<2^11):=LLT.out
   generalize D7 ls vx=L at *
   clear ho3 hb3 HK
   go_wp2
   go_roundw
   case rel=>exact⟨k+1,L,a3,c3,by omega,LEN2.out,rfl,by go_num,LL2,F2,O3,B3⟩
   case measure=>simp[intOf];omega
  ·obtain rfl:k=cs.length:=by omega
   have HRS:Hid (ls=RES):=by
    show _=_
    have:=F.out
    rw[List.drop_eq_nil_of_le (Nat.le_refl _)] at this
    exact this
   clear F
   go_wp2
   go_ret
   exact⟨⟨a1,c1,by rw[← HRS.out];rfl,by rw[← HRS.out];exact O.out⟩,B.out⟩
def Xx(T:Nat→Prop)(w:World)(b:Nat):Prop:=∃ cs t fr,w.heap[b]?=some (.cells cs t fr)∧T t
structure Fr(T:Nat→Prop)(B:Nat)(w w':World):Prop where
 os:w'.os=w.os
 tape:w'.tape=w.tape
 output:w'.output=w.output
 size:w.heap.size≤w'.heap.size
 blk:∀ b,b<w.heap.size→(b<B∨¬ Xx T w b)→w'.heap[b]?=w.heap[b]?
theorem Fr.refl(T:Nat→Prop)(B:Nat)(w:World):Fr T B w w:=⟨rfl,rfl,rfl,Nat.le_refl _,fun _ _ _=>rfl⟩
theorem Fr.of{w w':World}(T:Nat→Prop)(B:Nat)(h:Below w.heap.size w w'):Fr T B w w':=⟨h.os,h.tape,h.output,h.size,fun b hb _=>h.block b hb⟩
theorem Fr.trans{T:Nat→Prop}{B:Nat}{w w1 w2:World}(h:Fr T B w w1)(h':Fr T B w1 w2):Fr T B w w2:=by
 refine⟨h'.os.trans h.os,h'.tape.trans h.tape,h'.output.trans h.output,Nat.le_trans h.size h'.size,fun b hb hc=>?_⟩
 have e:=h.blk b hb hc
 refine(h'.blk b (Nat.lt_of_lt_of_le hb h.size) (hc.imp id fun q z=>q ?_)).trans e
 obtain⟨cs,t,fr,z1,z2⟩:=z
 exact⟨cs,t,fr,by rw[← e];exact z1,z2⟩
theorem Fr.mono{T T':Nat→Prop}{B:Nat}{w w':World}(h:Fr T B w w')(ht:∀ t,T t→T' t):Fr T' B w w':=⟨h.os,h.tape,h.output,h.size,fun b hb hc=>h.blk b hb (hc.imp id fun q z=>q (by obtain⟨cs,t,fr,z1,z2⟩:=z;exact⟨cs,t,fr,z1,ht t z2⟩))⟩
theorem Fr.below{T:Nat→Prop}{B:Nat}{w w1 w2:World}(h:Fr T B w w1)(hb:Below w1.heap.size w1 w2):Fr T B w w2:=h.trans (Fr.of T B hb)
theorem Fr.row{T:Nat→Prop}{B:Nat}{w w':World}(h:Fr T B w w'){g t:Nat}{zs:List Value}(hr:Ab w g t zs)(ht:¬ T t):Ab w' g t zs:=by
 refine(h.blk g hr.lt (.inr fun z=>?_)).trans hr
 obtain⟨cs,t',fr,z1,z2⟩:=z
 have hr':w.heap[g]?=some (.cells zs.toArray t (0,0)):=hr
 rw[hr'] at z1
 simp only[Option.some.injEq,Obj.cells.injEq] at z1
 exact ht (z1.2.1 ▸ z2)
theorem Fr.own{T:Nat→Prop}{B:Nat}{w w':World}(h:Fr T B w w'){b e s n:Nat}{v:Value}{zs:List Value}(hr:w.ownsRow b e s v n zs)(ht:¬ T e):w'.ownsRow b e s v n zs:=by
 refine⟨hr.1,?_⟩
 rcases hr.2 with hn | ⟨g,cap,cur,hv,q1,hg,r⟩
 ·exact .inl hn
 ·exact .inr ⟨g,cap,cur,hv,q1,(h.row (zs:=cur.toList) (show Ab w g e cur.toList by show _=_;rw[hg]) ht).trans (by show _=_;simp),r⟩
theorem Fr.allOwn{T:Nat→Prop}{B:Nat}{w w':World}(h:Fr T B w w'){b e:Nat}{vs:List Value}{cs:List (List Int)}(hr:Aq w b e vs cs)(ht:¬ T e):Aq w' b e vs cs:=hr.map fun _ _ _ _ ho=>h.own ho ht
theorem Fr.belowB{T:Nat→Prop}{B:Nat}{w w':World}(h:Fr T B w w')(hB:B≤w.heap.size):Below B w w':=⟨h.os,h.tape,h.output,h.size,fun b hb=>h.blk b (Nat.lt_of_lt_of_le hb hB) (.inl hb)⟩
theorem Fr.set{T:Nat→Prop}{B:Nat}{w w':World}(h:Fr T B w w'){g t:Nat}{zs:List Value}(hr:Ab w' g t zs)(ht:T t)(hB:B≤g)(i:Nat)(x:Value):Fr T B w (w'.setCell ⟨g,i,none⟩ x):=by
 refine h.trans ⟨rfl,rfl,rfl,by simp[World.setCell],fun b hb hc=>Below.heap_setCell w' ⟨g,i,none⟩ x b fun e=>?_⟩
 rcases hc with hc | hc
 ·have:b=g:=e;omega
 ·exact hc ⟨zs.toArray,t,(0,0),by rw[show b=g from e];exact hr,ht⟩
theorem Fr.grown{T:Nat→Prop}{B:Nat}{w w1 w2:World}(h:Fr T B w w1){e s n:Nat}{v:Value}{zs:List Value}(ho:w1.ownsRow B e s v n zs)(ht:T e)(hg:w1.grownBy w2 v.ownBlock):Fr T B w w2:=by
 refine h.trans ⟨hg.os,hg.tape,hg.output,hg.size,fun b hb hc=>hg.block b hb fun q=>?_⟩
 rcases hc with hc | hc
 ·have:=(ho.lt b q.symm).1;omega
 ·apply hc
  rcases ho.2 with⟨rfl,_⟩ | ⟨g,cap,cur,rfl,_,hgg,_⟩
  ·simp[Value.ownBlock] at q
  ·simp only[Value.ownBlock,Option.some.injEq] at q
   subst q
   exact⟨cur,e,_,hgg,ht⟩
def Bb(t:Nat):Prop:=t=107∨t=110
theorem DN.fr{w w':World}{B cb n:Nat}{na na':Option Addr}{nc nc':Nat}{ns ns':List Nd}(h:Cf w B cb na nc ns)(hn:DN w w' B cb na nc n na' nc' ns'):Fr Bb B w w':=by
 refine⟨hn.kept.os,hn.kept.tape,hn.kept.output,hn.kept.size,fun b hb hc=>hn.kept.block b hb (fun e=>?_) (fun e=>?_)⟩
 ·subst e
  rcases hc with hc | hc
  ·have:=h.base;omega
  ·exact hc ⟨_,_,_,h.row,.inr rfl⟩
 ·have e':(Value.slice na ns.length nc).ownBlock=some b:=by rw[← e];exact Hl
  rcases hc with hc | hc
  ·have:=(h.own.lt b e').1;omega
  ·apply hc
   rcases h.own.2 with⟨q,_⟩ | ⟨g,cap,cur,q,_,hgg,_⟩
   ·rw[q] at e';simp[Value.ownBlock] at e'
   ·rw[q] at e'
    simp only[Value.ownBlock,Option.some.injEq] at e'
    subst e'
    exact⟨cur,_,_,hgg,.inl rfl⟩
def Tr(w:World)(B cb:Nat)(cs:List Nat)(N:Nat):Prop:=∃ na nc ns,Cf w B cb na nc ns∧Bm ns cs∧ns.length≤N∧CB ns N
theorem Tr.below{w w':World}{B cb N:Nat}{cs:List Nat}(h:Tr w B cb cs N)(hb:Below w.heap.size w w'):Tr w' B cb cs N:=by
 obtain⟨na,nc,ns,h1,h2⟩:=h
 exact⟨na,nc,ns,h1.below hb,h2⟩
theorem Tr.fr{T:Nat→Prop}{B':Nat}{w w':World}{B cb N:Nat}{cs:List Nat}(h:Tr w B cb cs N)(hf:Fr T B' w w')(ht:∀ t,T t→¬ Bb t):Tr w' B cb cs N:=by
 obtain⟨na,nc,ns,h1,h2⟩:=h
 exact⟨na,nc,ns,⟨hf.row h1.row fun z=>ht _ z (.inr rfl),hf.own h1.own fun z=>ht _ z (.inl rfl),h1.pos,h1.base⟩,h2⟩
theorem Tr.perm{w:World}{B cb N:Nat}{cs cs':List Nat}(h:Tr w B cb cs N)(hp:cs.Perm cs'):Tr w B cb cs' N:=by
 obtain⟨na,nc,ns,h1,h2,h3⟩:=h
 exact⟨na,nc,ns,h1,h2.perm hp,h3⟩
theorem Tr.top{w:World}{B cb N:Nat}{cs:List Nat}(h:Tr w B cb cs N):∀ c∈cs,c<2^20:=by
 obtain⟨na,nc,ns,_,h2,_⟩:=h
 exact h2.top
def Kp:Option Nat→Value
 | none=>.tuple #[Bo 0,.bool true]
 | some K=>.tuple #[Bo K,.bool false]
theorem Ls:Bo 0=.agg #[.int .i64 0,.int .i64 0]:=by
 have h:Bf 0 0 0:=Bf.zero
 obtain⟨a,b⟩:=h.eq
 unfold Bo
 rw[← a,← b]
 rfl
theorem J5{w:World}{B cb N:Nat}{cs:List Nat}(h:Tr w B cb cs N)(d:Nat)(hd:d<2^20) :
  Calls Tryd.prog 70 #[.pointer (some ⟨cb,0,none⟩),Bo d] w fun e w'=>e=.returned (Kp (BQ cs d))∧Below w.heap.size w w':=by
 obtain⟨na,nc,ns,h1,h2,h3,h4⟩:=h
 refine(Ug ns h2.tre.wf h1.pos cb na nc (tN d) (fN d) (Ed d) (Ec d) w h1.row (Er h1.own h1.pos)).mono ?_
 rintro e w' ⟨rfl,hb⟩
 refine⟨?_,hb⟩
 rw[h2.push hd]
 cases BQ cs d with
 | none=>simp only[Option.map_none,Ud,Kp,Ls]
 | some K=>rfl
theorem Oo{w:World}{B cb N:Nat}{cs:List Nat}(h:Tr w B cb cs N)(c:Nat)(hc:c<2^20)(hB:B≤w.heap.size)(hN:N≤80000000) :
  Calls Tryd.prog 50 #[.pointer (some ⟨cb,0,none⟩),Bo c,.int .i64 1] w fun e w'=>e=.returned (.tuple #[])∧Tr w' B cb (cs++[c]) (N+10)∧Fr Bb B w w':=by
 obtain⟨na,nc,ns,h1,h2,h3,h4⟩:=h
 refine(Gj w B cb na nc ns h1 h2.tre.wf N h4 (tN c) (fN c) 1 (Ed c) (Ec c) hB (by omega) (by omega)).mono ?_
 rintro e w' ⟨rfl,na',nc',hn⟩
 have hw:=HJ h2.tre.wf h1.pos (tN c) (fN c) 1
 refine⟨rfl,⟨na',nc',_,hn.t,h2.add (Bf.of hc),by omega,fun j=>?_⟩,DN.fr h1 hn⟩
 have:=IW h4 h2.tre.wf h1.pos (tN c) (fN c) 1 j
 omega
theorem Qa{w:World}{B cb N:Nat}{cs:List Nat}(h:Tr w B cb cs N)(c:Nat)(hc:c<2^20)(hm:c∈cs)(hN:N≤80000000) :
  Calls Tryd.prog 91 #[.pointer (some ⟨cb,0,none⟩),Bo c] w fun e w'=>e=.returned (.bool true)∧(∃ na nc ns ns' na' nc',Cf w B cb na nc ns∧Bm ns cs∧ns.length≤N∧CB ns N∧DI ns (tN c) (fN c)=some ns'∧Cf w' B cb na' nc' ns')∧Tr w' B cb (cs.erase c) N∧Fr Bb B w w':=by
 obtain⟨na,nc,ns,h1,h2,h3,h4⟩:=h
 refine(TX w B cb na nc ns h1 h2.tre.wf N h4 (tN c) (fN c) (Ed c) (Ec c) (by omega)).mono ?_
 intro e w' hp
 cases hd:DI ns (tN c) (fN c) with
 | none=>exact absurd hm ((h2.gone (Bf.of hc)).1 hd)
 | some ns' =>
  rw[hd] at hp
  obtain⟨rfl,na',nc',hn⟩:=hp
  have hl:ns'.length=ns.length∧∀ j,(ns'.getD j Ac).c≤(ns.getD j Ac).c:=by
   unfold DI at hd
   split at hd
   ·simp at hd
   ·rename_i a ha
    split at hd
    ·simp at hd
    ·simp only[Option.some.injEq] at hd
     subst hd
     refine⟨List.length_set,fun j=>?_⟩
     rw[A9 _ _ _ _ (Dc h2.tre.wf h1.pos _ _ 10 a ha)]
     split
     ·rename_i e;subst e;show(ns.getD j Ac).c - 1≤_;omega
     ·exact Nat.le_refl _
  exact⟨rfl,⟨na,nc,ns,ns',na',nc',h1,h2,h3,h4,hd,hn.t⟩,⟨na',nc',ns',hn.t,h2.drop (Bf.of hc) hd,by omega,fun j=>Nat.le_trans (hl.2 j) (h4 j)⟩,DN.fr h1 hn⟩
theorem Om{ns:List Nd}{t f:Nat}:∀ (k a:Nat),Ar ns t f k=some a→As ns t f k=(ns,a):=by
 intro k
 induction k with
 | zero=>intro a h;simp only[Ar,Option.some.injEq] at h;simp only[As,h]
 | succ k ih =>
  intro a h
  simp only[Ar] at h
  split at h
  ·simp at h
  ·rename_i b hb
   split at h
   ·simp at h
   ·rename_i hne
    simp only[Option.some.injEq] at h
    simp only[As,ih b hb,CG]
    rw[if_neg hne,h]
theorem TW{ns ns':List Nd}(hw:Wf ns)(hp:0<ns.length){t f:Nat}(h:DI ns t f=some ns'):DX ns' t f 1=ns:=by
 unfold DI at h
 split at h
 ·simp at h
 ·rename_i a ha
  split at h
  ·simp at h
  ·rename_i hc
   simp only[Option.some.injEq] at h
   have hal:=Dc hw hp t f 10 a ha
   have hd:Ar ns' t f 10=some a:=by
    rw[← h,Gq (Ph hal _)]
    exact ha
   unfold DX
   rw[Om 10 a hd]
   simp only
   rw[← h,A9 _ _ _ _ hal,if_pos rfl]
   simp only[List.set_set]
   have e:(⟨(ns.getD a Ac).n0,(ns.getD a Ac).n1,(ns.getD a Ac).n2,(ns.getD a Ac).n3,(ns.getD a Ac).c - 1+1⟩:Nd)=ns.getD a Ac:=by
    rw[show(ns.getD a Ac).c - 1+1=(ns.getD a Ac).c by omega]
   rw[e]
   rw[List.getD_eq_getElem?_getD,List.getElem?_eq_getElem hal]
   exact List.set_getElem_self hal
def H9.cells(p:H9):List Value:=[.int .i64 (tN p.dec:Nat),.int .i64 (fN p.dec:Nat),.int .i64 (p.vs:Nat),.int .i64 (tN p.kn:Nat),.int .i64 (fN p.kn:Nat)]
def A7(ps:List H9):List Value:=ps.flatMap H9.cells
def Bs:List Value→List EY→List Value
 | u :: us,p :: ls=>.int .u8 (p.1.toNat:Int) :: u :: Bs us ls
 | _,_=>[]
theorem MZ:∀ (us:List Value) (ls:List EY) (u:Value) (p:EY),us.length=ls.length→Bs (us++[u]) (ls++[p])=Bs us ls++[.int .u8 (p.1.toNat:Int),u]:=by
 intro us
 induction us with
 | nil =>
  intro ls u p h
  cases ls with
  | nil=>rfl
  | cons q ls=>simp at h
 | cons v us ih =>
  intro ls u p h
  cases ls with
  | nil=>simp at h
  | cons q ls =>
   simp only[List.cons_append,Bs]
   rw[ih ls u p (by simpa using h)]
theorem Mn(ps:List H9)(p:H9):A7 (ps++[p])=A7 ps++p.cells:=by simp[A7]
theorem OY(ps qs:List H9):A7 (ps++qs)=A7 ps++A7 qs:=by simp[A7]
structure Gf where
 cb:Nat
 aa:Option Addr
 ca:Nat
 vl:Value
 vp:Value
 vd:Value
 vq:Value
def Em(E:Sg)(s:Sr)(A:Gf)(an:List Value):List Value:=[.pointer (some ⟨A.cb,0,none⟩),.slice A.aa E.xs.length A.ca,.int .i64 (tN E.as:Nat),.int .i64 (fN E.as:Nat),.int .i64 E.b,.int .i64 E.r,.int .i64 s.h,.int .i64 s.l,A.vl,.int .i64 (s.sp:Nat),A.vp,A.vd,A.vq,.int .i64 (tN s.vals:Nat),.int .i64 (fN s.vals:Nat)]++an
def AY:List Value:=[.int .i64 0,.int .i64 0,.slice none 0 0,.slice none 0 0,.slice none 0 0]
structure LH(w:World)(B g:Nat)(E:Sg)(s:Sr)(A:Gf)(an:List Value):Prop where
 row:Ab w g 94 (Em E s A an)
 base:B≤g
 asm:Ad w A.aa E.xs
 asb:∀ ad,A.aa=some ad→ad.block<B
 lr:w.ownsRow B 86 2 A.vl s.lr.length (AQ (Ce s.lr))
 path:w.ownsRow B 116 5 A.vp s.path.length (A7 s.path)
 done:w.ownsRow B 116 5 A.vd s.done.length (A7 s.done)
 apart:Bp A.vp A.vd
 lines:∃ us,us.length=s.ls.length∧w.ownsRow B 75 2 A.vq s.ls.length (Bs us s.ls)∧Aq w B 3 us (s.ls.map fun p=>p.2)
structure VV(s:Sr):Prop where
 lr:s.lr.length≤2000000
 ls:s.ls.length≤2000000
 sp:s.sp≤2000000
 path:s.path.length≤1000
 done:s.done.length≤1000000
 h1:-4000000≤s.h
 h2:s.h≤4000000
 l1:-4000000≤s.l
 l2:s.l≤4000000
 lrt:∀ c∈s.lr,c<2^20
 vals:s.vals<2^20
 stp:∀ p∈s.path++s.done,p.dec<2^20∧p.kn<2^20∧p.vs<2^11
structure DK(w:World)(B g N:Nat)(E:Sg)(s:Sr)(A:Gf)(an:List Value):Prop where
 m:LH w B g E s A an
 t:Tr w B A.cb (E.hv++s.lr) (N+10*s.sp)
def GX(t:Nat):Prop:=Bb t∨t=86∨t=116∨t=75∨t=94
theorem LH.fr{T:Nat→Prop}{w w':World}{B g:Nat}{E:Sg}{s:Sr}{A:Gf}{an:List Value}(h:LH w B g E s A an)(hB:B≤w.heap.size)(hf:Fr T B w w')(h1:¬ T 94)(h2:¬ T 86)(h3:¬ T 116)(h4:¬ T 75)(h5:¬ T 3):LH w' B g E s A an:=by
 refine⟨hf.row h.row h1,h.base,?_,h.asb,hf.own h.lr h2,hf.own h.path h3,hf.own h.done h3,h.apart,?_⟩
 ·rcases h.asm with e | ⟨b,off,e,hc⟩
  ·exact .inl e
  ·refine .inr ⟨b,off,e,fun j hj=>?_⟩
   have hb:b<B:=h.asb ⟨b,off,none⟩ e
   rw[← hc j hj]
   have e2:=hf.blk b (by omega) (.inl hb)
   unfold World.cell?
   simp only[e2]
 ·obtain⟨us,l1,l2,l3⟩:=h.lines
  exact⟨us,l1,hf.own l2 h4,hf.allOwn l3 h5⟩
theorem Bx{t:Nat}(h1:t≠107)(h2:t≠110):¬ Bb t:=fun q=>q.elim h1 h2
theorem LH.tree{w w':World}{B g:Nat}{E:Sg}{s:Sr}{A:Gf}{an:List Value}(h:LH w B g E s A an)(hB:B≤w.heap.size)(hf:Fr Bb B w w'):LH w' B g E s A an :=
 h.fr hB hf (Bx (by decide) (by decide)) (Bx (by decide) (by decide)) (Bx (by decide) (by decide)) (Bx (by decide) (by decide)) (Bx (by decide) (by decide))
theorem LH.below{w w':World}{B g:Nat}{E:Sg}{s:Sr}{A:Gf}{an:List Value}(h:LH w B g E s A an)(hB:B≤w.heap.size)(hb:Below w.heap.size w w'):LH w' B g E s A an :=
 h.fr (T:=fun _=>False) hB (Fr.of _ B hb) id id id id id
theorem DK.below{w w':World}{B g N:Nat}{E:Sg}{s:Sr}{A:Gf}{an:List Value}(h:DK w B g N E s A an)(hB:B≤w.heap.size)(hb:Below w.heap.size w w'):DK w' B g N E s A an:=⟨h.m.below hB hb,h.t.below hb⟩
set_option maxHeartbeats 1000000 in
theorem Im(lt:Value)(a:Option Addr)(n c:Nat)(hn:n≤1000000)(w:World) :
  Calls Tryd.prog 56 #[.agg #[lt,.slice a n c]] w fun e w'=>e=.returned (.int .i64 ((n:Int)+1))∧Below w.heap.size w w':=by
 have HB:Hid (∀ x,Below w.heap.size w (w.alloc x)):=fun x=>(Below.refl _ _).alloc (Nat.le_refl _) x
 go_enter Tryd.func56,Tryd.ntmps56
 go_wp2
 go_ret
 exact⟨rfl,HB.out _⟩
theorem ME:∃ fs,Tryd.prog.underlying 38=some (.struct fs):=by
 have:(Tryd.prog.underlying 38).map CL=some true:=by kernel_rfl
 cases h:Tryd.prog.underlying 38 with
 | none=>rw[h] at this;simp at this
 | some d =>
  rw[h] at this
  cases d <;> simp[CL] at this
  exact⟨_,rfl⟩
theorem MD:(Tryd.prog.info? 38).map (·.size)=some 5:=by kernel_rfl
theorem Wj{w':World}{tmps:Array Value}{g:Nat}{p q x y z:Value}(hr:Ab w' g 38 [p,q,x,y,z])(h2:tmps.getD 4 undef=.pointer (some ⟨g,0,none⟩)) :
  (results Tryd.f83 tmps).run Tryd.prog w'=.ok (.agg #[p,q,x,y,z]) w':=by
 obtain⟨fs,hu⟩:=ME
 exact results_cell_row rfl tmps w' g 38 #[p,q,x,y,z] (0,0) (.struct fs) h2 hr hu rfl MD
set_option maxHeartbeats 4000000 in
theorem Kz(re:Int)(c:Nat)(hc:c<2^20)(w:World) :
  Calls Tryd.prog 83 #[.int .i64 re,Bo c] w fun e w'=>(∃ a cp,e=.returned (.agg #[.int .i64 3,.int .i64 re,.slice none 0 0,.slice none 0 0,.slice a (AM c).length cp])∧w'.ownsRow w.heap.size 3 1 (.slice a (AM c).length cp) (AM c).length (AW (AM c)))∧Below w.heap.size w w':=by
 have HL:Hid (∀ w,Calls Tryd.prog 54 #[.agg #[.int .i64 (tN c:Nat),.int .i64 (fN c:Nat)]] w fun e w'=>(∃ a cp,e=.returned (.slice a (AM c).length cp)∧w'.ownsRow w.heap.size 3 1 (.slice a (AM c).length cp) (AM c).length (AW (AM c)))∧Below w.heap.size w w'):=fun w=>Kg c hc w
 unfold Bo
 generalize tN c=t at *
 generalize fN c=f at *
 have b1:Below w.heap.size w (w.alloc (.cells #[.int .i64 t,.int .i64 f] 86)):=(Below.refl _ _).alloc (Nat.le_refl _) _
 have b2:Below w.heap.size w ((w.alloc (.cells #[.int .i64 t,.int .i64 f] 86)).alloc (.cells AY.toArray 38)):=b1.alloc b1.size _
 have r2:Ab ((w.alloc (.cells #[.int .i64 t,.int .i64 f] 86)).alloc (.cells AY.toArray 38)) (w.heap.size+1) 38 AY:=heap_alloc2_new w _ _
 have B2:=AA b2
 have R2:=AA r2
 clear b1 b2 r2
 simp only[AY] at B2 R2
 go_enter Tryd.func83,Tryd.ntmps83
 go_wp2_with fail
 refine(AE HL _).mono ?_
 generalize (w.alloc (.cells #[.int .i64 t,.int .i64 f] 86)).alloc (.cells _ 38)=w2 at *
 rintro e w3 ⟨⟨a,cp,rfl,ho⟩,hb⟩
 have B3:Hid (Below w.heap.size w w3):=B2.out.trans (hb.mono B2.out.size)
 have R3:=AA (AB R2.out hb)
 have O3:=AA (BO ho B2.out.size)
 have y0:w3.cell? ⟨w.heap.size+1,0,none⟩=some (.int .i64 0):=(R3.out.cell 0).trans rfl
 have y1:w3.cell? ⟨w.heap.size+1,1,none⟩=some (.int .i64 0):=(R3.out.cell 1).trans rfl
 have y2:w3.cell? ⟨w.heap.size+1,2,none⟩=some (.slice none 0 0):=(R3.out.cell 2).trans rfl
 have y3:w3.cell? ⟨w.heap.size+1,3,none⟩=some (.slice none 0 0):=(R3.out.cell 3).trans rfl
 have y4:w3.cell? ⟨w.heap.size+1,4,none⟩=some (.slice none 0 0):=(R3.out.cell 4).trans rfl
 have z0:=R3.out.frozen 0
 have z1:=R3.out.frozen 1
 have z2:=R3.out.frozen 2
 have z3:=R3.out.frozen 3
 have z4:=R3.out.frozen 4
 clear ho hb HL
 go_wp2
 have R9:=((((R3.out.set 0 (.int .i64 3)).set 1 (.int .i64 re)).set 2 (.slice none 0 0)).set 3 (.slice none 0 0)).set 4 (.slice a (AM c).length cp)
 refine bodyPost_ret (v:=.agg #[.int .i64 3,.int .i64 re,.slice none 0 0,.slice none 0 0,.slice a (AM c).length cp]) (Wj R9 rfl) rfl ⟨⟨a,cp,rfl,?_⟩,?_⟩
 ·refine Ai (t:=38) ((((R3.out.set 0 _).set 1 _).set 2 _).set 3 _) 4 _ (by decide) ?_
  refine Ai (t:=38) (((R3.out.set 0 _).set 1 _).set 2 _) 3 _ (by decide) ?_
  refine Ai (t:=38) ((R3.out.set 0 _).set 1 _) 2 _ (by decide) ?_
  refine Ai (t:=38) (R3.out.set 0 _) 1 _ (by decide) ?_
  exact Ai R3.out 0 _ (by decide) O3.out
 ·exact((((B3.out.setCell (p:=⟨w.heap.size+1,0,none⟩) (Nat.le_succ _) _).setCell (p:=⟨w.heap.size+1,1,none⟩) (Nat.le_succ _) _).setCell (p:=⟨w.heap.size+1,2,none⟩) (Nat.le_succ _) _).setCell (p:=⟨w.heap.size+1,3,none⟩) (Nat.le_succ _) _).setCell (p:=⟨w.heap.size+1,4,none⟩) (Nat.le_succ _) _
def Oi(w:World)(B:Nat)(an:List Value)(x:Gg):Prop:=∃ p:A3,an=x.cells p∧DJ w B x p
theorem CE(w:World)(B e s:Nat):w.ownsRow B e s (.slice none 0 0) 0 []:=⟨by simp,.inl ⟨rfl,rfl⟩⟩
theorem DJ.fr{T:Nat→Prop}{B B':Nat}{w w':World}{x:Gg}{p:A3}(h:DJ w B' x p)(hf:Fr T B w w')(ht:¬ T 3):DJ w' B' x p:=⟨hf.own h.vs ht,hf.own h.co ht,hf.own h.cl ht,h.p12,h.p13,h.p23⟩
theorem Bk(v:Value):Bp (.slice none 0 0) v:=fun _ h=>by simp[Value.ownBlock] at h
theorem MF{w:World}{B:Nat}{re:Int}{c:Nat}{a:Option Addr}{cp:Nat}(h:w.ownsRow B 3 1 (.slice a (AM c).length cp) (AM c).length (AW (AM c))):Oi w B [.int .i64 3,.int .i64 re,.slice none 0 0,.slice none 0 0,.slice a (AM c).length cp] (U8 re c) :=
 ⟨⟨none,none,a,0,0,cp⟩,rfl,CE _ _ _ _,CE _ _ _ _,h,Bk _,Bk _,Bk _⟩
theorem JA{t:Nat}(h:Bb t):GX t:=.inl h
theorem WT:GX 86:=.inr (.inl rfl)
theorem Uz:GX 116:=.inr (.inr (.inl rfl))
theorem Uy:GX 75:=.inr (.inr (.inr (.inl rfl)))
theorem Mm:GX 94:=.inr (.inr (.inr (.inr rfl)))
theorem UO{t:Nat}(h1:t≠107)(h2:t≠110)(h3:t≠86)(h4:t≠116)(h5:t≠75)(h6:t≠94):¬ GX t:=by
 rintro(q | q | q | q | q)
 ·exact Bx h1 h2 q
 ·exact h3 q
 ·exact h4 q
 ·exact h5 q
 ·exact h6 q
theorem Tm:¬ GX 3:=UO (by decide) (by decide) (by decide) (by decide) (by decide) (by decide)
theorem Tryd.infoLine:(Tryd.prog.info? 75).map (fun i=>(i.zero,i.size,i.bytes))=some (some (.agg #[.int .u8 0,.slice none 0 0]),2,32):=by kernel_rfl
theorem Tryd.undLines:Tryd.prog.underlying 71=some (.slice 75):=by kernel_rfl
theorem LH.put{w:World}{B g:Nat}{E:Sg}{s s':Sr}{A A':Gf}{an an':List Value}(h:LH w B g E s A an)(i:Nat)(x:Value)(hc:(Em E s A an).set i x=Em E s' A' an')(ha:A'.aa=A.aa)
  (h1:A'.vl=A.vl) (h2:A'.vp=A.vp) (h3:A'.vd=A.vd) (h4:A'.vq=A.vq) (e1:s'.lr=s.lr) (e2:s'.path=s.path) (e3:s'.done=s.done) (e4:s'.ls=s.ls):LH (w.setCell ⟨g,i,none⟩ x) B g E s' A' an':=by
 have hr:=h.row.set i x
 rw[hc] at hr
 have hf:∀ {b e k n:Nat} {v:Value} {zs:List Value},w.ownsRow b e k v n zs→e≠94→(w.setCell ⟨g,i,none⟩ x).ownsRow b e k v n zs:=fun ho he=>Ai h.row i x he ho
 refine⟨hr,h.base,?_,by rw[ha];exact h.asb,by rw[h1,e1];exact hf h.lr (by decide),by rw[h2,e2];exact hf h.path (by decide),by rw[h3,e3];exact hf h.done (by decide),by rw[h2,h3];exact h.apart,?_⟩
 ·rw[ha]
  rcases h.asm with e | ⟨b,off,e,hcc⟩
  ·exact .inl e
  ·refine .inr ⟨b,off,e,fun j hj=>?_⟩
   rw[← hcc j hj]
   have hb:b<B:=h.asb ⟨b,off,none⟩ e
   have e2:=Below.heap_setCell w ⟨g,i,none⟩ x b (by have:=h.base;show b≠g;omega)
   unfold World.cell?
   simp only[e2]
 ·obtain⟨us,l1,l2,l3⟩:=h.lines
  rw[h4,e4]
  exact⟨us,l1,hf l2 (by decide),l3.map fun _ _ _ _ ho=>hf ho (by decide)⟩
theorem DK.size{w:World}{B g N:Nat}{E:Sg}{s:Sr}{A:Gf}{an:List Value}(h:DK w B g N E s A an):B≤w.heap.size:=Nat.le_of_lt (Nat.lt_of_le_of_lt h.m.base h.m.row.lt)
theorem Tr.set{w:World}{B cb N g t:Nat}{cs:List Nat}(h:Tr w B cb cs N){zs:List Value}(hr:Ab w g t zs)(i:Nat)(x:Value)(h1:¬ Bb t):Tr (w.setCell ⟨g,i,none⟩ x) B cb cs N :=
 h.fr (T:=fun t'=>t'=t) (B':=0) ((Fr.refl (fun t'=>t'=t) 0 w).set hr rfl (Nat.zero_le _) i x) (fun t' e=>by rw[e];exact h1)
theorem CM:¬ Bb 94:=Bx (by decide) (by decide)
def IQ(t:Nat):Prop:=t=75∨t=94
theorem JH(t:Nat)(h:IQ t):GX t:=h.elim (fun e=>by rw[e];exact Uy) (fun e=>by rw[e];exact Mm)
theorem Fp:¬ IQ 86:=fun h=>h.elim (by decide) (by decide)
theorem KZ:¬ IQ 3:=fun h=>h.elim (by decide) (by decide)
def BR(v:Value)(w w':World):Prop:=∀ b,b<w.heap.size→Xx (fun t=>t=86) w b→v.ownBlock≠some b→w'.heap[b]?=w.heap[b]?
def DM(v v':Value)(w:World):Prop:=∀ b,v'.ownBlock=some b→v.ownBlock=some b∨w.heap.size≤b
theorem DM.refl(v:Value)(w:World):DM v v w:=fun _ h=>.inl h
theorem DM.trans{v v1 v2:Value}{w w1:World}(h:DM v v1 w)(h':DM v1 v2 w1)(hs:w.heap.size≤w1.heap.size):DM v v2 w:=fun b hb=>(h' b hb).elim (h b) (fun q=>.inr (Nat.le_trans hs q))
theorem BR.fr{T:Nat→Prop}{B:Nat}{w w':World}(v:Value)(h:Fr T B w w')(ht:¬ T 86):BR v w w':=fun b hb hty _=>h.blk b hb (.inr fun z=>by
 obtain⟨cs,t,fr,z1,z2⟩:=z
 obtain⟨cs',t',fr',y1,y2⟩:=hty
 rw[z1] at y1
 simp only[Option.some.injEq,Obj.cells.injEq] at y1
 exact ht (by rw[← y2,← y1.2.1];exact z2))
theorem BR.trans{v v1:Value}{w w1 w2:World}(h:BR v w w1)(hm:DM v v1 w)(hs:w.heap.size≤w1.heap.size)(h':BR v1 w1 w2):BR v w w2:=fun b hb hty hv=>by
 have e:=h b hb hty hv
 refine(h' b (Nat.lt_of_lt_of_le hb hs) ?_ fun q=>?_).trans e
 ·obtain⟨cs,t,fr,z1,z2⟩:=hty
  exact⟨cs,t,fr,by rw[e];exact z1,z2⟩
 ·rcases hm b q with q | q
  ·exact hv q
  ·omega
theorem BR.row{v:Value}{w w':World}(h:BR v w w'){g:Nat}{zs:List Value}(hr:Ab w g 86 zs)(hv:v.ownBlock≠some g):Ab w' g 86 zs:=(h g hr.lt ⟨_,_,_,hr,rfl⟩ hv).trans hr
theorem DK.ans5{w:World}{B g N:Nat}{E:Sg}{s:Sr}{A:Gf}(h:DK w B g N E s A AY)(v0 v1 v2 v3 v4:Value) :
  DK (((((w.setCell ⟨g,15,none⟩ v0).setCell ⟨g,16,none⟩ v1).setCell ⟨g,17,none⟩ v2).setCell ⟨g,18,none⟩ v3).setCell ⟨g,19,none⟩ v4) B g N E s A [v0,v1,v2,v3,v4]∧Fr IQ B w (((((w.setCell ⟨g,15,none⟩ v0).setCell ⟨g,16,none⟩ v1).setCell ⟨g,17,none⟩ v2).setCell ⟨g,18,none⟩ v3).setCell ⟨g,19,none⟩ v4):=by
 have m1:=h.m.put 15 v0 (s':=s) (A':=A) (an':=[v0,.int .i64 0,.slice none 0 0,.slice none 0 0,.slice none 0 0]) rfl rfl rfl rfl rfl rfl rfl rfl rfl rfl
 have m2:=m1.put 16 v1 (s':=s) (A':=A) (an':=[v0,v1,.slice none 0 0,.slice none 0 0,.slice none 0 0]) rfl rfl rfl rfl rfl rfl rfl rfl rfl rfl
 have m3:=m2.put 17 v2 (s':=s) (A':=A) (an':=[v0,v1,v2,.slice none 0 0,.slice none 0 0]) rfl rfl rfl rfl rfl rfl rfl rfl rfl rfl
 have m4:=m3.put 18 v3 (s':=s) (A':=A) (an':=[v0,v1,v2,v3,.slice none 0 0]) rfl rfl rfl rfl rfl rfl rfl rfl rfl rfl
 have m5:=m4.put 19 v4 (s':=s) (A':=A) (an':=[v0,v1,v2,v3,v4]) rfl rfl rfl rfl rfl rfl rfl rfl rfl rfl
 have t5:=((((h.t.set h.m.row 15 v0 CM).set m1.row 16 v1 CM).set m2.row 17 v2 CM).set m3.row 18 v3 CM).set m4.row 19 v4 CM
 exact⟨⟨m5,t5⟩,(((((Fr.refl IQ B w).set h.m.row (.inr rfl) h.m.base 15 v0).set m1.row (.inr rfl) h.m.base 16 v1).set m2.row (.inr rfl) h.m.base 17 v2).set m3.row (.inr rfl) h.m.base 18 v3).set m4.row (.inr rfl) h.m.base 19 v4⟩
theorem Ad.fr{T:Nat→Prop}{B:Nat}{w w':World}{a:Option Addr}{xs:List Int}(h:Ad w a xs)(hf:Fr T B w w')(hB:B≤w.heap.size)(hb:∀ ad,a=some ad→ad.block<B):Ad w' a xs:=by
 rcases h with e | ⟨b,off,e,hc⟩
 ·exact .inl e
 ·refine .inr ⟨b,off,e,fun j hj=>?_⟩
  have hb:b<B:=hb ⟨b,off,none⟩ e
  rw[← hc j hj]
  have e2:=hf.blk b (by omega) (.inl hb)
  unfold World.cell?
  simp only[e2]
theorem Es{w:World}{g g' t t':Nat}{zs zs':List Value}(h:Ab w g t zs)(h':Ab w g' t' zs')(ht:t≠t')(i:Nat)(x:Value):Ab (w.setCell ⟨g,i,none⟩ x) g' t' zs':=by
 refine(Below.heap_setCell w ⟨g,i,none⟩ x g' fun e=>?_).trans h'
 have e':g'=g:=e
 subst e'
 have a1:w.heap[g']?=some (.cells zs.toArray t (0,0)):=h
 have a2:w.heap[g']?=some (.cells zs'.toArray t' (0,0)):=h'
 rw[a1] at a2
 simp only[Option.some.injEq,Obj.cells.injEq] at a2
 exact ht a2.2.1
theorem AF(w:World)(o:Obj):Below w.heap.size w (w.alloc o):=(Below.refl _ _).alloc (Nat.le_refl _) o
theorem DK.addLine{w w6:World}{B g N:Nat}{E:Sg}{s:Sr}{A:Gf}(h:DK w B g N E s A AY){us:List Value}(lu1:us.length=s.ls.length)(lu2:w.ownsRow B 75 2 A.vq s.ls.length (Bs us s.ls))(lu3:Aq w B 3 us (s.ls.map fun p=>p.2)){o:Obj}(hg:(w.alloc o).grownBy w6 A.vq.ownBlock){v' u:Value}{p:EY}(hown:w6.ownsRow B 75 2 v' (s.ls.length+1) (Bs us s.ls++[.int .u8 (p.1.toNat:Int),u]))(hu:w.ownsRow B 3 1 u p.2.length (AW p.2)) :
  DK (w6.setCell ⟨g,12,none⟩ v') B g N E { s with ls:=s.ls++[p] } { A with vq:=v' } AY∧Fr IQ B w (w6.setCell ⟨g,12,none⟩ v'):=by
 have hB:=h.size
 have hf:Fr (fun t=>t=75) B w w6:=(Fr.of _ B (AF w o)).grown (AL lu2 (AF w o)) rfl hg
 have r6:=hf.row h.m.row (by decide)
 have st:∀ {b e k n:Nat} {v:Value} {zs:List Value},w6.ownsRow b e k v n zs→e≠94→(w6.setCell ⟨g,12,none⟩ v').ownsRow b e k v n zs:=fun ho he=>Ai r6 12 v' he ho
 have hfs:Fr IQ B w (w6.setCell ⟨g,12,none⟩ v'):=(hf.mono fun t e=>.inl e).set r6 (.inr rfl) h.m.base 12 v'
 refine⟨⟨⟨r6.set 12 v',h.m.base,h.m.asm.fr hfs hB h.m.asb,h.m.asb,st (hf.own h.m.lr (by decide)) (by decide),st (hf.own h.m.path (by decide)) (by decide),st (hf.own h.m.done (by decide)) (by decide),h.m.apart,us++[u],by simp[lu1],?_,?_⟩,?_⟩,hfs⟩
 ·show(w6.setCell ⟨g,12,none⟩ v').ownsRow B 75 2 v' (s.ls++[p]).length (Bs (us++[u]) (s.ls++[p]))
  rw[MZ _ _ _ _ lu1,List.length_append,List.length_singleton]
  exact st hown (by decide)
 ·show Aq _ _ _ (us++[u]) ((s.ls++[p]).map fun p=>p.2)
  rw[List.map_append]
  exact(lu3.map fun _ _ _ _ ho=>st (hf.own ho (by decide)) (by decide)).snoc (st (hf.own hu (by decide)) (by decide))
 ·exact(h.t.fr hf fun t e=>by rw[e];exact Bx (by decide) (by decide)).set r6 12 v' CM
def Fi(w:World)(B g N:Nat)(E:Sg)(A:Gf)(r:Rs)(e:Ending)(w':World):Prop:=Fr GX B w w'∧BR A.vl w w'∧match r with
 | .fin s x=>e=.returned (.bool false)∧∃ A' an,A'.cb=A.cb∧A'.aa=A.aa∧A'.ca=A.ca∧DM A.vl A'.vl w∧DK w' B g N E s A' an∧Oi w' B an x
 | .go s=>e=.returned (.bool true)∧∃ A',A'.cb=A.cb∧A'.aa=A.aa∧A'.ca=A.ca∧DM A.vl A'.vl w∧DK w' B g N E s A' AY
end Go.Proofs.YthboeppmlhbofaaDoor
