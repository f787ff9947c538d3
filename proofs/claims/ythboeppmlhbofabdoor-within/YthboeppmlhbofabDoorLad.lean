import Derived.Test.YthboeppmlhbofabDoorLaa
import Derived.Deep.LoopGhost
namespace Go.Proofs.YthboeppmlhbofabDoor
open Go.RowKit Txt
set_option maxRecDepth 100000
theorem i64s_snoc(xs:List Int)(x:Int):i64s (xs++[x])=i64s xs++[.int .i64 x]:=by simp[i64s]
theorem apart_step{x:Nat}(h0:x≠0)(hx:x<2^20):sizeN (x - lowN x)<sizeN x∧x&&&lowN x=lowN x:=by
 obtain⟨j,hj,hl⟩:=low_pow h0 hx
 have hb:=sub_bit hl hj
 refine⟨size_lt (fun i hi=>by rw[hb,Bool.and_eq_true] at hi;exact hi.1) hx (fun e=>by have:=hb j;rw[e,hj] at this;simp at this),?_⟩
 have hs:SubN (lowN x) x:=low_sub x
 rw[Nat.and_comm]
 exact hs.eq_and
set_option maxHeartbeats 4000000 in
theorem apart_any(x:Nat)(hx:x<2^11)(w:World) :
  Calls Tryd.prog 51 #[.int .i64 x] w fun e w'=>(∃ a c,e=.returned (.slice a (apartF 11 x).length c)∧w'.ownsRow w.heap.size 3 1 (.slice a (apartF 11 x).length c) (apartF 11 x).length (i64s (natI (apartF 11 x))))∧Below w.heap.size w w':=by
 obtain⟨i0,hi0,hz0,hz1,hz2⟩:=info_parts Tryd.infoInt
 have hsz:sizeN x≤11:=by
  have:SubN x 2047:=fun i hi=>by
   have:=bit_lt hx hi
   have hh:i=0∨i=1∨i=2∨i=3∨i=4∨i=5∨i=6∨i=7∨i=8∨i=9∨i=10:=by omega
   rcases hh with rfl|rfl|rfl|rfl|rfl|rfl|rfl|rfl|rfl|rfl|rfl <;> decide
  exact Nat.le_trans (size_le this) (by decide)
 generalize hres:apartF 11 x=RES
 have HF:Hid ([]++apartF 11 x=RES):=by show _=_;rw[List.nil_append];exact hres
 clear hres
 go_enter Tryd.func51,Tryd.ntmps51
 go_wp2_with fail
 go_loopg [0,3] 11 (fun m v l wr=>∃ (y:Nat) (ls:List Nat) (a1:Option Addr) (c1:Nat),y<2^11∧sizeN y≤m∧m≤11∧ls.length+m≤11∧v=.int .i64 y∧l=.slice a1 ls.length c1∧Hid (ls++apartF m y=RES)∧Hid (wr.ownsRow w.heap.size 3 1 (.slice a1 ls.length c1) ls.length (i64s (natI ls)))∧Hid (Below w.heap.size w wr))
 case atStart=>exact⟨x,[],none,0,hx,hsz,Nat.le_refl _,Nat.le_refl _,rfl,rfl,HF,⟨rfl,.inl ⟨rfl,rfl⟩⟩,Below.refl _ _⟩
 case round =>
  clear HF
  obtain⟨y,ls,a1,c1,hy,hs,hm,hlm,rfl,rfl,F,O,B⟩:=hrel
  by_cases h0:y=0
  ·subst h0
   have HR:Hid (ls=RES):=by
    show _=_
    have:=F.out
    cases gk with
    | zero=>simpa [apartF] using this
    | succ m=>simpa [apartF] using this
   go_wp2
   go_ret
   exact⟨⟨a1,c1,by rw[← HR.out];rfl,by rw[← HR.out];exact O.out⟩,B.out⟩
  ·obtain⟨s1,s2⟩:=apart_step h0 (Nat.lt_trans hy (by decide))
   obtain⟨m,rfl⟩:∃ m,gk=m+1:=⟨gk - 1,by omega⟩
   have F2:Hid ((ls++[lowN y])++apartF m (y - lowN y)=RES):=by
    show _=_
    have:=F.out
    simp only[apartF] at this
    rw[if_neg h0] at this
    simpa using this
   have hlo:=low_int y (by omega)
   have hne:((y:Int) != 0)=true:=by simp;exact h0
   have hll:lowN y≤y:=Nat.and_le_left
   have han:=andnot64 y (lowN y) (by omega)
   rw[s2] at han
   have hyl:y - lowN y<2^11:=by omega
   have hwn:IntKind.i64.wrap (-(y:Int))=-(y:Int):=by rw[IntKind.wrap_i64];omega
   have hz:w.heap.size≤wr.heap.size:=B.out.size
   have d1:Hid (ls.length+1≤maxLen):=by show _≤_;unfold maxLen;omega
   have d2:Hid ((ls.length+1)*8≤140737488355328):=by show _≤_;omega
   have d3:Hid (∀ o,w.heap.size≤(wr.alloc o).heap.size):=fun o=>by simp;omega
   have S1:=hide (And.intro s1 hyl)
   generalize hlw:lowN y=lo at *
   have HLY:=hide hll
   clear s1 s2 F hlw hyl hll
   generalize hyy:y - lo=y2 at *
   clear hyy
   go_wp2_with (at_builtin;refine wpList_append_at _ rfl _ _ 23 rfl w.heap.size 3 i0 (.int .i64 0) 8 Tryd.undInts hi0 hz0 hz1 hz2 rfl (.slice a1 ls.length c1) ls.length (i64s (natI ls)) rfl (O.out.alloc _) ⟨wr.heap.size,0,none⟩ 1 1 [.int .i64 (lo:Int)] rfl rfl (new_cells1 wr [.int .i64 (lo:Int)] 3) (by intro u hu;simp at hu;subst hu;rfl) (by decide) d1.out d2.out (d3.out _) ?_;intro v3 w3 hown3 hg3 hwh3;obtain⟨a3,c3,rfl⟩:=own_shape hown3)
   have B3:Hid (Below w.heap.size w w3):=(B.out.alloc hz _).grown hg3 (B.out.alloc hz _).size (fun k hk=>(O.out.lt k hk).1)
   have O3:Hid (w3.ownsRow w.heap.size 3 1 (.slice a3 (ls.length+1) c3) (ls.length+1) (i64s (natI (ls++[lo])))):=by
    show _
    rw[natI_snoc,i64s_snoc]
    exact hown3
   clear hown3 hg3 hwh3
   go_roundg m
   case measure=>omega
   case rel=>exact⟨y2,ls++[lo],a3,c3,S1.out.2,by have:=S1.out.1;omega,by omega,by rw[List.length_append,List.length_singleton];omega,rfl,by rw[List.length_append,List.length_singleton],F2,by rw[List.length_append,List.length_singleton];exact O3,B3⟩
theorem linkF_len:∀ (ws l:List Nat) (v:Nat),(linkF ws l v).length≤l.length+ws.length+1:=by
 intro ws
 induction ws with
 | nil=>intro l v;simp[linkF]
 | cons c ws ih =>
  intro l v
  simp only[linkF]
  split
  ·have:=ih (l++[c]) v
   simp only[List.length_append,List.length_nil,List.length_cons] at this ⊢
   omega
  ·have:=ih l (v|||c)
   simp only[List.length_cons]
   omega
theorem linkF_lt:∀ (ws l:List Nat) (v:Nat),(∀ x∈ws,x<2^11)→(∀ x∈l,x<2^11)→v<2^11→∀ x∈linkF ws l v,x<2^11:=by
 intro ws
 induction ws with
 | nil =>
  intro l v _ hl hv x hx
  simp only[linkF,List.mem_append,List.mem_singleton] at hx
  rcases hx with hx | rfl
  ·exact hl x hx
  ·exact hv
 | cons c ws ih =>
  intro l v hw hl hv x hx
  simp only[linkF] at hx
  have hc:=hw c (List.mem_cons_self ..)
  have hw':∀ x∈ws,x<2^11:=fun x hx=>hw x (List.mem_cons_of_mem _ hx)
  split at hx
  ·exact ih _ _ hw' (fun y hy=>by
    rcases List.mem_append.1 hy with hy | hy
    ·exact hl y hy
    ·rw[List.mem_singleton.1 hy];exact hc) hv x hx
  ·exact ih _ _ hw' hl (Nat.or_lt_two_pow hv hc) x hx
set_option maxHeartbeats 4000000 in
theorem link_any(a:Option Addr)(cp:Nat)(ws:List Nat)(v:Nat)(w:World)(hr:IntsAt w a (natI ws))(hl:ws.length≤1000000)(hw:∀ x∈ws,x<2^11)(hv:v<2^11) :
  Calls Tryd.prog 52 #[.slice a ws.length cp,.int .i64 v] w fun e w'=>(∃ a' c',e=.returned (.slice a' (linkN ws v).length c')∧w'.ownsRow w.heap.size 3 1 (.slice a' (linkN ws v).length c') (linkN ws v).length (i64s (natI (linkN ws v))))∧Below w.heap.size w w':=by
 obtain⟨i0,hi0,hz0,hz1,hz2⟩:=info_parts Tryd.infoInt
 have HF:Hid (linkF (ws.drop 0) [] v=linkN ws v):=rfl
 have HR:=hide hr
 have HW:=hide hw
 generalize linkN ws v=RES at *
 clear hr hw
 go_enter Tryd.func52,Tryd.ntmps52
 go_wp2_with fail
 go_loopw [1,5,10] (fun x1 x5 x10 wr=>∃ (k y:Nat) (ls:List Nat) (a1:Option Addr) (c1:Nat),k≤ws.length∧y<2^11∧ls.length≤k∧x1=.int .i64 y∧x5=.slice a1 ls.length c1∧x10=.int .i64 k∧Hid (linkF (ws.drop k) ls y=RES)∧Hid (wr.ownsRow w.heap.size 3 1 (.slice a1 ls.length c1) ls.length (i64s (natI ls)))∧Hid (Below w.heap.size w wr)) (fun _ _ x10 _=>ws.length - (intOf x10).toNat)
 case atStart=>exact⟨0,v,[],none,0,Nat.zero_le _,hv,Nat.le_refl _,rfl,rfl,rfl,HF,⟨rfl,.inl ⟨rfl,rfl⟩⟩,Below.refl _ _⟩
 case round =>
  clear HF
  obtain⟨k,y,ls,a1,c1,hk,hy,hls,rfl,rfl,rfl,F,O,B⟩:=hrel
  have hz:w.heap.size≤wr.heap.size:=B.out.size
  have d1:Hid (ls.length+1≤maxLen):=by show _≤_;unfold maxLen;omega
  have d2:Hid ((ls.length+1)*8≤140737488355328):=by show _≤_;omega
  have d3:Hid (∀ o,w.heap.size≤(wr.alloc o).heap.size):=fun o=>by simp;omega
  by_cases hlt:k<ws.length
  ·obtain⟨b,off,rfl,hc⟩:=nat_cells (HR.out.below B.out) (by omega)
   have h1:=hc k hlt
   have hx:=HW.out _ (get_mem ws k hlt)
   have f2:=F.out
   rw[drop_get ws 0 k hlt] at f2
   simp only[linkF] at f2
   generalize ws.getD k 0=x at *
   have ha:=and64 x y (by omega) (by omega)
   have ho:=or64 y x (by omega) (by omega)
   have hol:y|||x<2^11:=Nat.or_lt_two_pow hy hx
   clear hc F
   by_cases hz0':x&&&y=0
   ·rw[if_pos hz0'] at f2
    rw[hz0'] at ha
    have F2:=hide f2
    clear f2 hz0'
    go_wp2_with (at_builtin;refine wpList_append_at _ rfl _ _ 23 rfl w.heap.size 3 i0 (.int .i64 0) 8 Tryd.undInts hi0 hz0 hz1 hz2 rfl (.slice a1 ls.length c1) ls.length (i64s (natI ls)) rfl (O.out.alloc _) ⟨wr.heap.size,0,none⟩ 1 1 [.int .i64 (x:Int)] rfl rfl (new_cells1 wr [.int .i64 (x:Int)] 3) (by intro u hu;simp at hu;subst hu;rfl) (by decide) d1.out d2.out (d3.out _) ?_;intro v3 w3 hown3 hg3 hwh3;obtain⟨a3,c3,rfl⟩:=own_shape hown3)
    have B3:Hid (Below w.heap.size w w3):=(B.out.alloc hz _).grown hg3 (B.out.alloc hz _).size (fun k hk=>(O.out.lt k hk).1)
    have O3:Hid (w3.ownsRow w.heap.size 3 1 (.slice a3 (ls.length+1) c3) (ls.length+1) (i64s (natI (ls++[x])))):=by
     show _
     rw[natI_snoc,i64s_snoc]
     exact hown3
    clear hown3 hg3 hwh3
    go_roundw
    case rel=>exact⟨k+1,y,ls++[x],a3,c3,by omega,hy,by rw[List.length_append,List.length_singleton];omega,rfl,by rw[List.length_append,List.length_singleton],by go_num,F2,by rw[List.length_append,List.length_singleton];exact O3,B3⟩
    case measure=>simp[intOf];omega
   ·rw[if_neg hz0'] at f2
    have hzb:(((x&&&y:Nat):Int) != 0)=true:=by rw[bne_iff_ne];omega
    have F2:=hide f2
    have OL:=hide hol
    generalize x&&&y=z at *
    generalize y|||x=yn at *
    clear f2 hz0' hol
    go_wp2
    go_roundw
    case rel=>exact⟨k+1,yn,ls,a1,c1,by omega,OL.out,by omega,rfl,rfl,by go_num,F2,O,B⟩
    case measure=>simp[intOf];omega
  ·obtain rfl:k=ws.length:=by omega
   have HRS:Hid (ls++[y]=RES):=by
    show _=_
    have:=F.out
    rw[List.drop_eq_nil_of_le (Nat.le_refl _)] at this
    exact this
   clear F
   go_wp2_with (at_builtin;refine wpList_append_at _ rfl _ _ 23 rfl w.heap.size 3 i0 (.int .i64 0) 8 Tryd.undInts hi0 hz0 hz1 hz2 rfl (.slice a1 ls.length c1) ls.length (i64s (natI ls)) rfl (O.out.alloc _) ⟨wr.heap.size,0,none⟩ 1 1 [.int .i64 (y:Int)] rfl rfl (new_cells1 wr [.int .i64 (y:Int)] 3) (by intro u hu;simp at hu;subst hu;rfl) (by decide) d1.out d2.out (d3.out _) ?_;intro v3 w3 hown3 hg3 hwh3;obtain⟨a3,c3,rfl⟩:=own_shape hown3)
   have B3:Hid (Below w.heap.size w w3):=(B.out.alloc hz _).grown hg3 (B.out.alloc hz _).size (fun k hk=>(O.out.lt k hk).1)
   go_ret
   refine⟨⟨a3,c3,?_,?_⟩,B3.out⟩
   ·rw[← HRS.out,List.length_append,List.length_singleton];rfl
   ·rw[← HRS.out,List.length_append,List.length_singleton,natI_snoc,i64s_snoc];exact hown3
set_option maxHeartbeats 4000000 in
theorem compsOf_any(a:Option Addr)(cp:Nat)(cs:List Nat)(seen:Nat)(w:World)(h:SetsAt w a (prL cs))(hl:cs.length≤100000)(hs:seen<2^11) :
  Calls Tryd.prog 33 #[.slice a cs.length cp,.int .i64 seen] w fun e w'=>(∃ a' c',e=.returned (.slice a' (compsN cs seen).length c')∧w'.ownsRow w.heap.size 3 1 (.slice a' (compsN cs seen).length c') (compsN cs seen).length (i64s (natI (compsN cs seen))))∧Below w.heap.size w w':=by
 have HA:=hide (apart_any seen hs w)
 have hsz:sizeN seen≤11:=by
  have:SubN seen 2047:=fun i hi=>by
   have:=bit_lt hs hi
   have hh:i=0∨i=1∨i=2∨i=3∨i=4∨i=5∨i=6∨i=7∨i=8∨i=9∨i=10:=by omega
   rcases hh with rfl|rfl|rfl|rfl|rfl|rfl|rfl|rfl|rfl|rfl|rfl <;> decide
  exact Nat.le_trans (size_le this) (by decide)
 have hap:=apart_cmp 11 seen (Nat.lt_trans hs (by decide)) hsz
 have hapl:∀ x∈apartF 11 seen,x<2^11:=fun x hx=>by
  have:=(hap.1 x hx).2.1
  exact lt_pow_bits fun i hi=>by
   cases hb:x.testBit i with
   | false=>rfl
   | true=>have:=bit_lt hs (this i hb);omega
 have hapn:∀ m x,(apartF m x).length≤m:=by
  intro m
  induction m with
  | zero=>intro x;simp[apartF]
  | succ m ih =>
   intro x
   simp only[apartF]
   split
   ·simp
   ·have:=ih (x - lowN x)
    simp only[List.length_cons]
    omega
 have HF:Hid ((cs.drop 0).foldl (fun ws c=>linkN ws (vN c)) (apartF 11 seen)=compsN cs seen):=rfl
 have HA1:=hide (And.intro hapl (hapn 11 seen))
 have H:=hide h
 generalize compsN cs seen=RES at *
 generalize apartF 11 seen=ap at *
 clear h hap hapl hapn hsz hs
 go_enter Tryd.func33,Tryd.ntmps33
 go_wp2_with fail
 refine(unhide HA).mono ?_
 rintro e w1 ⟨⟨aa,ca,rfl,ho⟩,hb⟩
 have O1:=hide ho
 have B1:=hide hb
 clear ho hb HA
 go_wp2_with fail
 go_loopw [5,12] (fun x5 x12 wr=>∃ (k:Nat) (ls:List Nat) (a1:Option Addr) (c1:Nat),k≤cs.length∧ls.length≤11+k∧x5=.slice a1 ls.length c1∧x12=.int .i64 k∧Hid (∀ x∈ls,x<2^11)∧Hid ((cs.drop k).foldl (fun ws c=>linkN ws (vN c)) ls=RES)∧Hid (wr.ownsRow w.heap.size 3 1 (.slice a1 ls.length c1) ls.length (i64s (natI ls)))∧Hid (Below w.heap.size w wr)) (fun _ x12 _=>cs.length - (intOf x12).toNat)
 case atStart=>exact⟨0,ap,aa,ca,Nat.zero_le _,HA1.out.2,rfl,rfl,HA1.out.1,HF,O1,B1⟩
 case round =>
  clear HF O1 B1 HA1
  obtain⟨k,ls,a1,c1,hk,hls,rfl,rfl,HL,F,O,B⟩:=hrel
  have hz:w.heap.size≤wr.heap.size:=B.out.size
  by_cases hlt:k<cs.length
  ·obtain⟨b,off,rfl,hcc⟩:=(H.out.below B.out).get (by rw[prL_len];omega)
   obtain⟨q0,q1⟩:=hcc k (by rw[prL_len];omega)
   rw[prL_get cs k hlt] at q0 q1
   have f2:=F.out
   rw[drop_get cs 0 k hlt] at f2
   simp only[List.foldl_cons] at f2
   generalize cs.getD k 0=x at *
   have F2:=hide f2
   have i1:(0:Int)≤(k:Int):=by omega
   have i2:(k:Int)<(cs.length:Int):=by omega
   have l1:=tN_lt x
   have l2:=fN_lt x
   have HV:Hid (∀ w,Calls Tryd.prog 46 #[.agg #[.int .i64 (tN x:Nat),.int .i64 (fN x:Nat)]] w fun e w'=>e=.returned (.int .i64 (vN x:Nat))∧Below w.heap.size w w'):=fun w=>lvars_any (tN x) (fN x) l1 l2 w
   have hvl:=vN_lt x
   have LEN:=hide (linkF_len ls [] (vN x))
   have LLT:=hide (linkF_lt ls [] (vN x) HL.out (fun y hy=>by simp at hy) hvl)
   have HBA:Hid (∀ o,Below w.heap.size w (wr.alloc o)):=fun o=>B.out.alloc hz o
   have HOA:Hid (∀ o,(wr.alloc o).ownsRow w.heap.size 3 1 (.slice a1 ls.length c1) ls.length (i64s (natI ls))):=fun o=>O.out.alloc o
   clear hcc f2 F
   generalize tN x=tx at *
   generalize fN x=fx at *
   go_wp2_with fail
   refine(unhide HV _).mono ?_
   rintro e w2 ⟨rfl,hb2⟩
   have B2:Hid (Below w.heap.size w w2):=(HBA.out _).trans (hb2.mono (HBA.out _).size)
   have O2:=hide (own_below (HOA.out _) hb2)
   have HK:=hide (link_any a1 c1 ls (vN x) w2 (own_nat O2.out) (by omega) HL.out hvl)
   clear hb2 HV
   generalize vN x=vx at *
   go_wp2_with fail
   refine(unhide HK).mono ?_
   rintro e w3 ⟨⟨a3,c3,rfl,ho3⟩,hb3⟩
   have B3:Hid (Below w.heap.size w w3):=B2.out.trans (hb3.mono B2.out.size)
   have O3:=hide (own_low ho3 B2.out.size)
   have LEN2:Hid ((linkN ls vx).length≤11+(k+1)):=by
    show _≤_
    have:=LEN.out
    simp only[List.length_nil] at this
    show(linkF ls [] vx).length≤_
    omega
   have LL2:Hid (∀ x∈linkN ls vx,x<2^11):=LLT.out
   generalize linkN ls vx=L at *
   clear ho3 hb3 HK
   go_wp2
   go_roundw
   case rel=>exact⟨k+1,L,a3,c3,by omega,LEN2.out,rfl,by go_num,LL2,F2,O3,B3⟩
   case measure=>simp[intOf];omega
  ·obtain rfl:k=cs.length:=by omega
   have HRS:Hid (ls=RES):=by
    show _=_
    have:=F.out
    rw[List.drop_eq_nil_of_le (Nat.le_refl _)] at this
    exact this
   clear F
   go_wp2
   go_ret
   exact⟨⟨a1,c1,by rw[← HRS.out];rfl,by rw[← HRS.out];exact O.out⟩,B.out⟩
def TyIn(T:Nat→Prop)(w:World)(b:Nat):Prop:=∃ cs t fr,w.heap[b]?=some (.cells cs t fr)∧T t
structure Fr(T:Nat→Prop)(B:Nat)(w w':World):Prop where
 os:w'.os=w.os
 tape:w'.tape=w.tape
 output:w'.output=w.output
 size:w.heap.size≤w'.heap.size
 blk:∀ b,b<w.heap.size→(b<B∨¬ TyIn T w b)→w'.heap[b]?=w.heap[b]?
theorem Fr.refl(T:Nat→Prop)(B:Nat)(w:World):Fr T B w w:=⟨rfl,rfl,rfl,Nat.le_refl _,fun _ _ _=>rfl⟩
theorem Fr.of{w w':World}(T:Nat→Prop)(B:Nat)(h:Below w.heap.size w w'):Fr T B w w':=⟨h.os,h.tape,h.output,h.size,fun b hb _=>h.block b hb⟩
theorem Fr.trans{T:Nat→Prop}{B:Nat}{w w1 w2:World}(h:Fr T B w w1)(h':Fr T B w1 w2):Fr T B w w2:=by
 refine⟨h'.os.trans h.os,h'.tape.trans h.tape,h'.output.trans h.output,Nat.le_trans h.size h'.size,fun b hb hc=>?_⟩
 have e:=h.blk b hb hc
 refine(h'.blk b (Nat.lt_of_lt_of_le hb h.size) (hc.imp id fun q z=>q ?_)).trans e
 obtain⟨cs,t,fr,z1,z2⟩:=z
 exact⟨cs,t,fr,by rw[← e];exact z1,z2⟩
theorem Fr.mono{T T':Nat→Prop}{B:Nat}{w w':World}(h:Fr T B w w')(ht:∀ t,T t→T' t):Fr T' B w w':=⟨h.os,h.tape,h.output,h.size,fun b hb hc=>h.blk b hb (hc.imp id fun q z=>q (by obtain⟨cs,t,fr,z1,z2⟩:=z;exact⟨cs,t,fr,z1,ht t z2⟩))⟩
theorem Fr.below{T:Nat→Prop}{B:Nat}{w w1 w2:World}(h:Fr T B w w1)(hb:Below w1.heap.size w1 w2):Fr T B w w2:=h.trans (Fr.of T B hb)
theorem Fr.row{T:Nat→Prop}{B:Nat}{w w':World}(h:Fr T B w w'){g t:Nat}{zs:List Value}(hr:Row w g t zs)(ht:¬ T t):Row w' g t zs:=by
 refine(h.blk g hr.lt (.inr fun z=>?_)).trans hr
 obtain⟨cs,t',fr,z1,z2⟩:=z
 have hr':w.heap[g]?=some (.cells zs.toArray t (0,0)):=hr
 rw[hr'] at z1
 simp only[Option.some.injEq,Obj.cells.injEq] at z1
 exact ht (z1.2.1 ▸ z2)
theorem Fr.own{T:Nat→Prop}{B:Nat}{w w':World}(h:Fr T B w w'){b e s n:Nat}{v:Value}{zs:List Value}(hr:w.ownsRow b e s v n zs)(ht:¬ T e):w'.ownsRow b e s v n zs:=by
 refine⟨hr.1,?_⟩
 rcases hr.2 with hn | ⟨g,cap,cur,hv,q1,hg,r⟩
 ·exact .inl hn
 ·exact .inr ⟨g,cap,cur,hv,q1,(h.row (zs:=cur.toList) (show Row w g e cur.toList by show _=_;rw[hg]) ht).trans (by show _=_;simp),r⟩
theorem Fr.allOwn{T:Nat→Prop}{B:Nat}{w w':World}(h:Fr T B w w'){b e:Nat}{vs:List Value}{cs:List (List Int)}(hr:AllOwn w b e vs cs)(ht:¬ T e):AllOwn w' b e vs cs:=hr.map fun _ _ _ _ ho=>h.own ho ht
theorem Fr.belowB{T:Nat→Prop}{B:Nat}{w w':World}(h:Fr T B w w')(hB:B≤w.heap.size):Below B w w':=⟨h.os,h.tape,h.output,h.size,fun b hb=>h.blk b (Nat.lt_of_lt_of_le hb hB) (.inl hb)⟩
theorem Fr.set{T:Nat→Prop}{B:Nat}{w w':World}(h:Fr T B w w'){g t:Nat}{zs:List Value}(hr:Row w' g t zs)(ht:T t)(hB:B≤g)(i:Nat)(x:Value):Fr T B w (w'.setCell ⟨g,i,none⟩ x):=by
 refine h.trans ⟨rfl,rfl,rfl,by simp[World.setCell],fun b hb hc=>Below.heap_setCell w' ⟨g,i,none⟩ x b fun e=>?_⟩
 rcases hc with hc | hc
 ·have:b=g:=e;omega
 ·exact hc ⟨zs.toArray,t,(0,0),by rw[show b=g from e];exact hr,ht⟩
theorem Fr.grown{T:Nat→Prop}{B:Nat}{w w1 w2:World}(h:Fr T B w w1){e s n:Nat}{v:Value}{zs:List Value}(ho:w1.ownsRow B e s v n zs)(ht:T e)(hg:w1.grownBy w2 v.ownBlock):Fr T B w w2:=by
 refine h.trans ⟨hg.os,hg.tape,hg.output,hg.size,fun b hb hc=>hg.block b hb fun q=>?_⟩
 rcases hc with hc | hc
 ·have:=(ho.lt b q.symm).1;omega
 ·apply hc
  rcases ho.2 with⟨rfl,_⟩ | ⟨g,cap,cur,rfl,_,hgg,_⟩
  ·simp[Value.ownBlock] at q
  ·simp only[Value.ownBlock,Option.some.injEq] at q
   subst q
   exact⟨cur,e,_,hgg,ht⟩
def treeT(t:Nat):Prop:=t=103∨t=106
theorem TreeN.fr{w w':World}{B cb n:Nat}{na na':Option Addr}{nc nc':Nat}{ns ns':List Nd}(h:TreeI w B cb na nc ns)(hn:TreeN w w' B cb na nc n na' nc' ns'):Fr treeT B w w':=by
 refine⟨hn.kept.os,hn.kept.tape,hn.kept.output,hn.kept.size,fun b hb hc=>hn.kept.block b hb (fun e=>?_) (fun e=>?_)⟩
 ·subst e
  rcases hc with hc | hc
  ·have:=h.base;omega
  ·exact hc ⟨_,_,_,h.row,.inr rfl⟩
 ·have e':(Value.slice na ns.length nc).ownBlock=some b:=by rw[← e];exact own_len
  rcases hc with hc | hc
  ·have:=(h.own.lt b e').1;omega
  ·apply hc
   rcases h.own.2 with⟨q,_⟩ | ⟨g,cap,cur,q,_,hgg,_⟩
   ·rw[q] at e';simp[Value.ownBlock] at e'
   ·rw[q] at e'
    simp only[Value.ownBlock,Option.some.injEq] at e'
    subst e'
    exact⟨cur,_,_,hgg,.inl rfl⟩
def Tr(w:World)(B cb:Nat)(cs:List Nat)(N:Nat):Prop:=∃ na nc ns,TreeI w B cb na nc ns∧Stand ns cs∧ns.length≤N∧CB ns N
theorem Tr.below{w w':World}{B cb N:Nat}{cs:List Nat}(h:Tr w B cb cs N)(hb:Below w.heap.size w w'):Tr w' B cb cs N:=by
 obtain⟨na,nc,ns,h1,h2⟩:=h
 exact⟨na,nc,ns,h1.below hb,h2⟩
theorem Tr.fr{T:Nat→Prop}{B':Nat}{w w':World}{B cb N:Nat}{cs:List Nat}(h:Tr w B cb cs N)(hf:Fr T B' w w')(ht:∀ t,T t→¬ treeT t):Tr w' B cb cs N:=by
 obtain⟨na,nc,ns,h1,h2⟩:=h
 exact⟨na,nc,ns,⟨hf.row h1.row fun z=>ht _ z (.inr rfl),hf.own h1.own fun z=>ht _ z (.inl rfl),h1.pos,h1.base⟩,h2⟩
theorem Tr.perm{w:World}{B cb N:Nat}{cs cs':List Nat}(h:Tr w B cb cs N)(hp:cs.Perm cs'):Tr w B cb cs' N:=by
 obtain⟨na,nc,ns,h1,h2,h3⟩:=h
 exact⟨na,nc,ns,h1,h2.perm hp,h3⟩
theorem Tr.base{w:World}{B cb N:Nat}{cs:List Nat}(h:Tr w B cb cs N):B≤cb:=by
 obtain⟨na,nc,ns,h1,_⟩:=h
 exact h1.base
theorem Tr.top{w:World}{B cb N:Nat}{cs:List Nat}(h:Tr w B cb cs N):∀ c∈cs,c<2^20:=by
 obtain⟨na,nc,ns,_,h2,_⟩:=h
 exact h2.top
def pushV:Option Nat→Value
 | none=>.tuple #[setV 0,.bool true]
 | some K=>.tuple #[setV K,.bool false]
theorem setV_zero:setV 0=.agg #[.int .i64 0,.int .i64 0]:=by
 have h:Two 0 0 0:=Two.zero
 obtain⟨a,b⟩:=h.eq
 unfold setV
 rw[← a,← b]
 rfl
theorem push_tr{w:World}{B cb N:Nat}{cs:List Nat}(h:Tr w B cb cs N)(d:Nat)(hd:d<2^20) :
  Calls Tryd.prog 65 #[.pointer (some ⟨cb,0,none⟩),setV d] w fun e w'=>e=.returned (pushV (pushD cs d))∧Below w.heap.size w w':=by
 obtain⟨na,nc,ns,h1,h2,h3,h4⟩:=h
 refine(push_any ns h2.tre.wf h1.pos cb na nc (tN d) (fN d) (tN_lt d) (fN_lt d) w h1.row (nodes_own h1.own h1.pos)).mono ?_
 rintro e w' ⟨rfl,hb⟩
 refine⟨?_,hb⟩
 rw[h2.push hd]
 cases pushD cs d with
 | none=>simp only[Option.map_none,pshRet,pushV,setV_zero]
 | some K=>rfl
theorem add_tr{w:World}{B cb N:Nat}{cs:List Nat}(h:Tr w B cb cs N)(c:Nat)(hc:c<2^20)(hB:B≤w.heap.size)(hN:N≤80000000) :
  Calls Tryd.prog 50 #[.pointer (some ⟨cb,0,none⟩),setV c,.int .i64 1] w fun e w'=>e=.returned (.tuple #[])∧Tr w' B cb (cs++[c]) (N+10)∧Fr treeT B w w':=by
 obtain⟨na,nc,ns,h1,h2,h3,h4⟩:=h
 refine(addC_any w B cb na nc ns h1 h2.tre.wf N h4 (tN c) (fN c) 1 (tN_lt c) (fN_lt c) hB (by omega) (by omega)).mono ?_
 rintro e w' ⟨rfl,na',nc',hn⟩
 have hw:=addN_wf h2.tre.wf h1.pos (tN c) (fN c) 1
 refine⟨rfl,⟨na',nc',_,hn.t,h2.add (Two.of hc),by omega,fun j=>?_⟩,TreeN.fr h1 hn⟩
 have:=addN_cb h4 h2.tre.wf h1.pos (tN c) (fN c) 1 j
 omega
theorem drop_tr{w:World}{B cb N:Nat}{cs:List Nat}(h:Tr w B cb cs N)(c:Nat)(hc:c<2^20)(hm:c∈cs)(hN:N≤80000000) :
  Calls Tryd.prog 77 #[.pointer (some ⟨cb,0,none⟩),setV c] w fun e w'=>e=.returned (.bool true)∧(∃ na nc ns ns' na' nc',TreeI w B cb na nc ns∧Stand ns cs∧ns.length≤N∧CB ns N∧dropN ns (tN c) (fN c)=some ns'∧TreeI w' B cb na' nc' ns')∧Tr w' B cb (cs.erase c) N∧Fr treeT B w w':=by
 obtain⟨na,nc,ns,h1,h2,h3,h4⟩:=h
 refine(drop_any w B cb na nc ns h1 h2.tre.wf N h4 (tN c) (fN c) (tN_lt c) (fN_lt c) (by omega)).mono ?_
 intro e w' hp
 cases hd:dropN ns (tN c) (fN c) with
 | none=>exact absurd hm ((h2.gone (Two.of hc)).1 hd)
 | some ns' =>
  rw[hd] at hp
  obtain⟨rfl,na',nc',hn⟩:=hp
  have hl:ns'.length=ns.length∧∀ j,(ns'.getD j nd0).c≤(ns.getD j nd0).c:=by
   unfold dropN at hd
   split at hd
   ·simp at hd
   ·rename_i a ha
    split at hd
    ·simp at hd
    ·simp only[Option.some.injEq] at hd
     subst hd
     refine⟨List.length_set,fun j=>?_⟩
     rw[getD_set _ _ _ _ (dropTo_lt h2.tre.wf h1.pos _ _ 10 a ha)]
     split
     ·rename_i e;subst e;show(ns.getD j nd0).c - 1≤_;omega
     ·exact Nat.le_refl _
  exact⟨rfl,⟨na,nc,ns,ns',na',nc',h1,h2,h3,h4,hd,hn.t⟩,⟨na',nc',ns',hn.t,h2.drop (Two.of hc) hd,by omega,fun j=>Nat.le_trans (hl.2 j) (h4 j)⟩,TreeN.fr h1 hn⟩
theorem addTo_path{ns:List Nd}{t f:Nat}:∀ (k a:Nat),dropTo ns t f k=some a→addTo ns t f k=(ns,a):=by
 intro k
 induction k with
 | zero=>intro a h;simp only[dropTo,Option.some.injEq] at h;simp only[addTo,h]
 | succ k ih =>
  intro a h
  simp only[dropTo] at h
  split at h
  ·simp at h
  ·rename_i b hb
   split at h
   ·simp at h
   ·rename_i hne
    simp only[Option.some.injEq] at h
    simp only[addTo,ih b hb,growN]
    rw[if_neg hne,h]
theorem drop_add{ns ns':List Nd}(hw:Wf ns)(hp:0<ns.length){t f:Nat}(h:dropN ns t f=some ns'):addN ns' t f 1=ns:=by
 unfold dropN at h
 split at h
 ·simp at h
 ·rename_i a ha
  split at h
  ·simp at h
  ·rename_i hc
   simp only[Option.some.injEq] at h
   have hal:=dropTo_lt hw hp t f 10 a ha
   have hd:dropTo ns' t f 10=some a:=by
    rw[← h,dropTo_same (set_nx hal _)]
    exact ha
   unfold addN
   rw[addTo_path 10 a hd]
   simp only
   rw[← h,getD_set _ _ _ _ hal,if_pos rfl]
   simp only[List.set_set]
   have e:(⟨(ns.getD a nd0).n0,(ns.getD a nd0).n1,(ns.getD a nd0).n2,(ns.getD a nd0).n3,(ns.getD a nd0).c - 1+1⟩:Nd)=ns.getD a nd0:=by
    rw[show(ns.getD a nd0).c - 1+1=(ns.getD a nd0).c by omega]
   rw[e]
   rw[List.getD_eq_getElem?_getD,List.getElem?_eq_getElem hal]
   exact List.set_getElem_self hal
def Stp.cells(p:Stp):List Value:=[.int .i64 (tN p.dec:Nat),.int .i64 (fN p.dec:Nat),.int .i64 (p.vs:Nat),.int .i64 (tN p.kn:Nat),.int .i64 (fN p.kn:Nat)]
def stCells(ps:List Stp):List Value:=ps.flatMap Stp.cells
def liCells:List Value→List Lin→List Value
 | u :: us,p :: ls=>.int .u8 (p.1.toNat:Int) :: u :: liCells us ls
 | _,_=>[]
theorem liCells_snoc:∀ (us:List Value) (ls:List Lin) (u:Value) (p:Lin),us.length=ls.length→liCells (us++[u]) (ls++[p])=liCells us ls++[.int .u8 (p.1.toNat:Int),u]:=by
 intro us
 induction us with
 | nil =>
  intro ls u p h
  cases ls with
  | nil=>rfl
  | cons q ls=>simp at h
 | cons v us ih =>
  intro ls u p h
  cases ls with
  | nil=>simp at h
  | cons q ls =>
   simp only[List.cons_append,liCells]
   rw[ih ls u p (by simpa using h)]
theorem stCells_snoc(ps:List Stp)(p:Stp):stCells (ps++[p])=stCells ps++p.cells:=by simp[stCells]
theorem stCells_app(ps qs:List Stp):stCells (ps++qs)=stCells ps++stCells qs:=by simp[stCells]
structure SrA where
 cb:Nat
 aa:Option Addr
 ca:Nat
 vl:Value
 vp:Value
 vd:Value
 vq:Value
def srCells(E:Sg)(s:Sr)(A:SrA)(an:List Value):List Value:=[.pointer (some ⟨A.cb,0,none⟩),.slice A.aa E.xs.length A.ca,.int .i64 (tN E.as:Nat),.int .i64 (fN E.as:Nat),.int .i64 E.b,.int .i64 E.r,.int .i64 s.h,.int .i64 s.l,A.vl,.int .i64 (s.sp:Nat),A.vp,A.vd,A.vq,.int .i64 (tN s.vals:Nat),.int .i64 (fN s.vals:Nat)]++an
def anZero:List Value:=[.int .i64 0,.int .i64 0,.slice none 0 0,.slice none 0 0,.slice none 0 0]
structure SrM(w:World)(B g:Nat)(E:Sg)(s:Sr)(A:SrA)(an:List Value):Prop where
 row:Row w g 93 (srCells E s A an)
 base:B≤g
 asm:IntsAt w A.aa E.xs
 asb:∀ ad,A.aa=some ad→ad.block<B
 lr:w.ownsRow B 84 2 A.vl s.lr.length (prCells (prL s.lr))
 path:w.ownsRow B 112 5 A.vp s.path.length (stCells s.path)
 done:w.ownsRow B 112 5 A.vd s.done.length (stCells s.done)
 apart:Apart A.vp A.vd
 lines:∃ us,us.length=s.ls.length∧w.ownsRow B 76 2 A.vq s.ls.length (liCells us s.ls)∧AllOwn w B 3 us (s.ls.map fun p=>p.2)
structure SrB(s:Sr):Prop where
 lr:s.lr.length≤2000000
 ls:s.ls.length≤2000000
 sp:s.sp≤2000000
 path:s.path.length≤1000
 done:s.done.length≤1000000
 h1:-4000000≤s.h
 h2:s.h≤4000000
 l1:-4000000≤s.l
 l2:s.l≤4000000
 lrt:∀ c∈s.lr,c<2^20
 vals:s.vals<2^20
 stp:∀ p∈s.path++s.done,p.dec<2^20∧p.kn<2^20∧p.vs<2^11
structure SrI(w:World)(B g N:Nat)(E:Sg)(s:Sr)(A:SrA)(an:List Value):Prop where
 m:SrM w B g E s A an
 t:Tr w B A.cb (E.hv++s.lr) (N+10*s.sp)
def srT(t:Nat):Prop:=treeT t∨t=84∨t=112∨t=76∨t=93
theorem SrM.fr{T:Nat→Prop}{w w':World}{B g:Nat}{E:Sg}{s:Sr}{A:SrA}{an:List Value}(h:SrM w B g E s A an)(hB:B≤w.heap.size)(hf:Fr T B w w')(h1:¬ T 93)(h2:¬ T 84)(h3:¬ T 112)(h4:¬ T 76)(h5:¬ T 3):SrM w' B g E s A an:=by
 refine⟨hf.row h.row h1,h.base,?_,h.asb,hf.own h.lr h2,hf.own h.path h3,hf.own h.done h3,h.apart,?_⟩
 ·rcases h.asm with e | ⟨b,off,e,hc⟩
  ·exact .inl e
  ·refine .inr ⟨b,off,e,fun j hj=>?_⟩
   have hb:b<B:=h.asb ⟨b,off,none⟩ e
   rw[← hc j hj]
   have e2:=hf.blk b (by omega) (.inl hb)
   unfold World.cell?
   simp only[e2]
 ·obtain⟨us,l1,l2,l3⟩:=h.lines
  exact⟨us,l1,hf.own l2 h4,hf.allOwn l3 h5⟩
theorem not_tree{t:Nat}(h1:t≠103)(h2:t≠106):¬ treeT t:=fun q=>q.elim h1 h2
theorem SrM.tree{w w':World}{B g:Nat}{E:Sg}{s:Sr}{A:SrA}{an:List Value}(h:SrM w B g E s A an)(hB:B≤w.heap.size)(hf:Fr treeT B w w'):SrM w' B g E s A an :=
 h.fr hB hf (not_tree (by decide) (by decide)) (not_tree (by decide) (by decide)) (not_tree (by decide) (by decide)) (not_tree (by decide) (by decide)) (not_tree (by decide) (by decide))
theorem SrM.below{w w':World}{B g:Nat}{E:Sg}{s:Sr}{A:SrA}{an:List Value}(h:SrM w B g E s A an)(hB:B≤w.heap.size)(hb:Below w.heap.size w w'):SrM w' B g E s A an :=
 h.fr (T:=fun _=>False) hB (Fr.of _ B hb) id id id id id
theorem SrI.below{w w':World}{B g N:Nat}{E:Sg}{s:Sr}{A:SrA}{an:List Value}(h:SrI w B g N E s A an)(hB:B≤w.heap.size)(hb:Below w.heap.size w w'):SrI w' B g N E s A an:=⟨h.m.below hB hb,h.t.below hb⟩
set_option maxHeartbeats 1000000 in
theorem lineSize_any(lt:Value)(a:Option Addr)(n c:Nat)(hn:n≤1000000)(w:World) :
  Calls Tryd.prog 56 #[.agg #[lt,.slice a n c]] w fun e w'=>e=.returned (.int .i64 ((n:Int)+1))∧Below w.heap.size w w':=by
 have HB:Hid (∀ x,Below w.heap.size w (w.alloc x)):=fun x=>(Below.refl _ _).alloc (Nat.le_refl _) x
 go_enter Tryd.func56,Tryd.ntmps56
 go_wp2
 go_ret
 exact⟨rfl,HB.out _⟩
theorem ansType:∃ fs,Tryd.prog.underlying 31=some (.struct fs):=by
 have:(Tryd.prog.underlying 31).map isStruct=some true:=by kernel_rfl
 cases h:Tryd.prog.underlying 31 with
 | none=>rw[h] at this;simp at this
 | some d =>
  rw[h] at this
  cases d <;> simp[isStruct] at this
  exact⟨_,rfl⟩
theorem ansSize:(Tryd.prog.info? 31).map (·.size)=some 5:=by kernel_rfl
theorem unk_ret{w':World}{tmps:Array Value}{g:Nat}{p q x y z:Value}(hr:Row w' g 31 [p,q,x,y,z])(h2:tmps.getD 4 undef=.pointer (some ⟨g,0,none⟩)) :
  (results Tryd.f84 tmps).run Tryd.prog w'=.ok (.agg #[p,q,x,y,z]) w':=by
 obtain⟨fs,hu⟩:=ansType
 exact results_cell_row rfl tmps w' g 31 #[p,q,x,y,z] (0,0) (.struct fs) h2 hr hu rfl ansSize
set_option maxHeartbeats 4000000 in
theorem sunk_any(re:Int)(c:Nat)(hc:c<2^20)(w:World) :
  Calls Tryd.prog 84 #[.int .i64 re,setV c] w fun e w'=>(∃ a cp,e=.returned (.agg #[.int .i64 3,.int .i64 re,.slice none 0 0,.slice none 0 0,.slice a (listN c).length cp])∧w'.ownsRow w.heap.size 3 1 (.slice a (listN c).length cp) (listN c).length (i64s (listN c)))∧Below w.heap.size w w':=by
 have HL:Hid (∀ w,Calls Tryd.prog 54 #[.agg #[.int .i64 (tN c:Nat),.int .i64 (fN c:Nat)]] w fun e w'=>(∃ a cp,e=.returned (.slice a (listN c).length cp)∧w'.ownsRow w.heap.size 3 1 (.slice a (listN c).length cp) (listN c).length (i64s (listN c)))∧Below w.heap.size w w'):=fun w=>list_any c hc w
 unfold setV
 generalize tN c=t at *
 generalize fN c=f at *
 have b1:Below w.heap.size w (w.alloc (.cells #[.int .i64 t,.int .i64 f] 84)):=(Below.refl _ _).alloc (Nat.le_refl _) _
 have b2:Below w.heap.size w ((w.alloc (.cells #[.int .i64 t,.int .i64 f] 84)).alloc (.cells anZero.toArray 31)):=b1.alloc b1.size _
 have r2:Row ((w.alloc (.cells #[.int .i64 t,.int .i64 f] 84)).alloc (.cells anZero.toArray 31)) (w.heap.size+1) 31 anZero:=heap_alloc2_new w _ _
 have B2:=hide b2
 have R2:=hide r2
 clear b1 b2 r2
 simp only[anZero] at B2 R2
 go_enter Tryd.func84,Tryd.ntmps84
 go_wp2_with fail
 refine(unhide HL _).mono ?_
 generalize (w.alloc (.cells #[.int .i64 t,.int .i64 f] 84)).alloc (.cells _ 31)=w2 at *
 rintro e w3 ⟨⟨a,cp,rfl,ho⟩,hb⟩
 have B3:Hid (Below w.heap.size w w3):=B2.out.trans (hb.mono B2.out.size)
 have R3:=hide (row_below R2.out hb)
 have O3:=hide (own_low ho B2.out.size)
 have y0:w3.cell? ⟨w.heap.size+1,0,none⟩=some (.int .i64 0):=(R3.out.cell 0).trans rfl
 have y1:w3.cell? ⟨w.heap.size+1,1,none⟩=some (.int .i64 0):=(R3.out.cell 1).trans rfl
 have y2:w3.cell? ⟨w.heap.size+1,2,none⟩=some (.slice none 0 0):=(R3.out.cell 2).trans rfl
 have y3:w3.cell? ⟨w.heap.size+1,3,none⟩=some (.slice none 0 0):=(R3.out.cell 3).trans rfl
 have y4:w3.cell? ⟨w.heap.size+1,4,none⟩=some (.slice none 0 0):=(R3.out.cell 4).trans rfl
 have z0:=R3.out.frozen 0
 have z1:=R3.out.frozen 1
 have z2:=R3.out.frozen 2
 have z3:=R3.out.frozen 3
 have z4:=R3.out.frozen 4
 clear ho hb HL
 go_wp2
 have R9:=((((R3.out.set 0 (.int .i64 3)).set 1 (.int .i64 re)).set 2 (.slice none 0 0)).set 3 (.slice none 0 0)).set 4 (.slice a (listN c).length cp)
 refine bodyPost_ret (v:=.agg #[.int .i64 3,.int .i64 re,.slice none 0 0,.slice none 0 0,.slice a (listN c).length cp]) (unk_ret R9 rfl) rfl ⟨⟨a,cp,rfl,?_⟩,?_⟩
 ·refine own_setN (t:=31) ((((R3.out.set 0 _).set 1 _).set 2 _).set 3 _) 4 _ (by decide) ?_
  refine own_setN (t:=31) (((R3.out.set 0 _).set 1 _).set 2 _) 3 _ (by decide) ?_
  refine own_setN (t:=31) ((R3.out.set 0 _).set 1 _) 2 _ (by decide) ?_
  refine own_setN (t:=31) (R3.out.set 0 _) 1 _ (by decide) ?_
  exact own_setN R3.out 0 _ (by decide) O3.out
 ·exact((((B3.out.setCell (p:=⟨w.heap.size+1,0,none⟩) (Nat.le_succ _) _).setCell (p:=⟨w.heap.size+1,1,none⟩) (Nat.le_succ _) _).setCell (p:=⟨w.heap.size+1,2,none⟩) (Nat.le_succ _) _).setCell (p:=⟨w.heap.size+1,3,none⟩) (Nat.le_succ _) _).setCell (p:=⟨w.heap.size+1,4,none⟩) (Nat.le_succ _) _
def AnsC(w:World)(B:Nat)(an:List Value)(x:Ans):Prop:=∃ p:A3,an=x.cells p∧AnsOwn w B x p
theorem own_nil(w:World)(B e s:Nat):w.ownsRow B e s (.slice none 0 0) 0 []:=⟨by simp,.inl ⟨rfl,rfl⟩⟩
theorem AnsOwn.fr{T:Nat→Prop}{B B':Nat}{w w':World}{x:Ans}{p:A3}(h:AnsOwn w B' x p)(hf:Fr T B w w')(ht:¬ T 3):AnsOwn w' B' x p:=⟨hf.own h.vs ht,hf.own h.co ht,hf.own h.cl ht,h.p12,h.p13,h.p23⟩
theorem apart_none(v:Value):Apart (.slice none 0 0) v:=fun _ h=>by simp[Value.ownBlock] at h
theorem ans_unk{w:World}{B:Nat}{re:Int}{c:Nat}{a:Option Addr}{cp:Nat}(h:w.ownsRow B 3 1 (.slice a (listN c).length cp) (listN c).length (i64s (listN c))):AnsC w B [.int .i64 3,.int .i64 re,.slice none 0 0,.slice none 0 0,.slice a (listN c).length cp] (unk re c) :=
 ⟨⟨none,none,a,0,0,cp⟩,rfl,own_nil _ _ _ _,own_nil _ _ _ _,h,apart_none _,apart_none _,apart_none _⟩
theorem srT_tree{t:Nat}(h:treeT t):srT t:=.inl h
theorem srT_set:srT 84:=.inr (.inl rfl)
theorem srT_step:srT 112:=.inr (.inr (.inl rfl))
theorem srT_line:srT 76:=.inr (.inr (.inr (.inl rfl)))
theorem srT_me:srT 93:=.inr (.inr (.inr (.inr rfl)))
theorem not_sr{t:Nat}(h1:t≠103)(h2:t≠106)(h3:t≠84)(h4:t≠112)(h5:t≠76)(h6:t≠93):¬ srT t:=by
 rintro(q | q | q | q | q)
 ·exact not_tree h1 h2 q
 ·exact h3 q
 ·exact h4 q
 ·exact h5 q
 ·exact h6 q
theorem int_sr:¬ srT 3:=not_sr (by decide) (by decide) (by decide) (by decide) (by decide) (by decide)
theorem Tryd.infoLine:(Tryd.prog.info? 76).map (fun i=>(i.zero,i.size,i.bytes))=some (some (.agg #[.int .u8 0,.slice none 0 0]),2,32):=by kernel_rfl
theorem Tryd.undLines:Tryd.prog.underlying 72=some (.slice 76):=by kernel_rfl
theorem SrM.put{w:World}{B g:Nat}{E:Sg}{s s':Sr}{A A':SrA}{an an':List Value}(h:SrM w B g E s A an)(i:Nat)(x:Value)(hc:(srCells E s A an).set i x=srCells E s' A' an')(ha:A'.aa=A.aa)
  (h1:A'.vl=A.vl) (h2:A'.vp=A.vp) (h3:A'.vd=A.vd) (h4:A'.vq=A.vq) (e1:s'.lr=s.lr) (e2:s'.path=s.path) (e3:s'.done=s.done) (e4:s'.ls=s.ls):SrM (w.setCell ⟨g,i,none⟩ x) B g E s' A' an':=by
 have hr:=h.row.set i x
 rw[hc] at hr
 have hf:∀ {b e k n:Nat} {v:Value} {zs:List Value},w.ownsRow b e k v n zs→e≠93→(w.setCell ⟨g,i,none⟩ x).ownsRow b e k v n zs:=fun ho he=>own_setN h.row i x he ho
 refine⟨hr,h.base,?_,by rw[ha];exact h.asb,by rw[h1,e1];exact hf h.lr (by decide),by rw[h2,e2];exact hf h.path (by decide),by rw[h3,e3];exact hf h.done (by decide),by rw[h2,h3];exact h.apart,?_⟩
 ·rw[ha]
  rcases h.asm with e | ⟨b,off,e,hcc⟩
  ·exact .inl e
  ·refine .inr ⟨b,off,e,fun j hj=>?_⟩
   rw[← hcc j hj]
   have hb:b<B:=h.asb ⟨b,off,none⟩ e
   have e2:=Below.heap_setCell w ⟨g,i,none⟩ x b (by have:=h.base;show b≠g;omega)
   unfold World.cell?
   simp only[e2]
 ·obtain⟨us,l1,l2,l3⟩:=h.lines
  rw[h4,e4]
  exact⟨us,l1,hf l2 (by decide),l3.map fun _ _ _ _ ho=>hf ho (by decide)⟩
theorem SrI.size{w:World}{B g N:Nat}{E:Sg}{s:Sr}{A:SrA}{an:List Value}(h:SrI w B g N E s A an):B≤w.heap.size:=Nat.le_of_lt (Nat.lt_of_le_of_lt h.m.base h.m.row.lt)
theorem Tr.set{w:World}{B cb N g t:Nat}{cs:List Nat}(h:Tr w B cb cs N){zs:List Value}(hr:Row w g t zs)(i:Nat)(x:Value)(h1:¬ treeT t):Tr (w.setCell ⟨g,i,none⟩ x) B cb cs N :=
 h.fr (T:=fun t'=>t'=t) (B':=0) ((Fr.refl (fun t'=>t'=t) 0 w).set hr rfl (Nat.zero_le _) i x) (fun t' e=>by rw[e];exact h1)
theorem me_tree:¬ treeT 93:=not_tree (by decide) (by decide)
def lwT(t:Nat):Prop:=t=76∨t=93
theorem wr_sr(t:Nat)(h:lwT t):srT t:=h.elim (fun e=>by rw[e];exact srT_line) (fun e=>by rw[e];exact srT_me)
theorem set_wr:¬ lwT 84:=fun h=>h.elim (by decide) (by decide)
theorem int_wr:¬ lwT 3:=fun h=>h.elim (by decide) (by decide)
def SetK(v:Value)(w w':World):Prop:=∀ b,b<w.heap.size→TyIn (fun t=>t=84) w b→v.ownBlock≠some b→w'.heap[b]?=w.heap[b]?
def Mov(v v':Value)(w:World):Prop:=∀ b,v'.ownBlock=some b→v.ownBlock=some b∨w.heap.size≤b
theorem Mov.refl(v:Value)(w:World):Mov v v w:=fun _ h=>.inl h
theorem Mov.trans{v v1 v2:Value}{w w1:World}(h:Mov v v1 w)(h':Mov v1 v2 w1)(hs:w.heap.size≤w1.heap.size):Mov v v2 w:=fun b hb=>(h' b hb).elim (h b) (fun q=>.inr (Nat.le_trans hs q))
theorem SetK.fr{T:Nat→Prop}{B:Nat}{w w':World}(v:Value)(h:Fr T B w w')(ht:¬ T 84):SetK v w w':=fun b hb hty _=>h.blk b hb (.inr fun z=>by
 obtain⟨cs,t,fr,z1,z2⟩:=z
 obtain⟨cs',t',fr',y1,y2⟩:=hty
 rw[z1] at y1
 simp only[Option.some.injEq,Obj.cells.injEq] at y1
 exact ht (by rw[← y2,← y1.2.1];exact z2))
theorem SetK.trans{v v1:Value}{w w1 w2:World}(h:SetK v w w1)(hm:Mov v v1 w)(hs:w.heap.size≤w1.heap.size)(h':SetK v1 w1 w2):SetK v w w2:=fun b hb hty hv=>by
 have e:=h b hb hty hv
 refine(h' b (Nat.lt_of_lt_of_le hb hs) ?_ fun q=>?_).trans e
 ·obtain⟨cs,t,fr,z1,z2⟩:=hty
  exact⟨cs,t,fr,by rw[e];exact z1,z2⟩
 ·rcases hm b q with q | q
  ·exact hv q
  ·omega
theorem SetK.row{v:Value}{w w':World}(h:SetK v w w'){g:Nat}{zs:List Value}(hr:Row w g 84 zs)(hv:v.ownBlock≠some g):Row w' g 84 zs:=(h g hr.lt ⟨_,_,_,hr,rfl⟩ hv).trans hr
theorem SrI.ans5{w:World}{B g N:Nat}{E:Sg}{s:Sr}{A:SrA}(h:SrI w B g N E s A anZero)(v0 v1 v2 v3 v4:Value) :
  SrI (((((w.setCell ⟨g,15,none⟩ v0).setCell ⟨g,16,none⟩ v1).setCell ⟨g,17,none⟩ v2).setCell ⟨g,18,none⟩ v3).setCell ⟨g,19,none⟩ v4) B g N E s A [v0,v1,v2,v3,v4]∧Fr lwT B w (((((w.setCell ⟨g,15,none⟩ v0).setCell ⟨g,16,none⟩ v1).setCell ⟨g,17,none⟩ v2).setCell ⟨g,18,none⟩ v3).setCell ⟨g,19,none⟩ v4):=by
 have m1:=h.m.put 15 v0 (s':=s) (A':=A) (an':=[v0,.int .i64 0,.slice none 0 0,.slice none 0 0,.slice none 0 0]) rfl rfl rfl rfl rfl rfl rfl rfl rfl rfl
 have m2:=m1.put 16 v1 (s':=s) (A':=A) (an':=[v0,v1,.slice none 0 0,.slice none 0 0,.slice none 0 0]) rfl rfl rfl rfl rfl rfl rfl rfl rfl rfl
 have m3:=m2.put 17 v2 (s':=s) (A':=A) (an':=[v0,v1,v2,.slice none 0 0,.slice none 0 0]) rfl rfl rfl rfl rfl rfl rfl rfl rfl rfl
 have m4:=m3.put 18 v3 (s':=s) (A':=A) (an':=[v0,v1,v2,v3,.slice none 0 0]) rfl rfl rfl rfl rfl rfl rfl rfl rfl rfl
 have m5:=m4.put 19 v4 (s':=s) (A':=A) (an':=[v0,v1,v2,v3,v4]) rfl rfl rfl rfl rfl rfl rfl rfl rfl rfl
 have t5:=((((h.t.set h.m.row 15 v0 me_tree).set m1.row 16 v1 me_tree).set m2.row 17 v2 me_tree).set m3.row 18 v3 me_tree).set m4.row 19 v4 me_tree
 exact⟨⟨m5,t5⟩,(((((Fr.refl lwT B w).set h.m.row (.inr rfl) h.m.base 15 v0).set m1.row (.inr rfl) h.m.base 16 v1).set m2.row (.inr rfl) h.m.base 17 v2).set m3.row (.inr rfl) h.m.base 18 v3).set m4.row (.inr rfl) h.m.base 19 v4⟩
theorem IntsAt.fr{T:Nat→Prop}{B:Nat}{w w':World}{a:Option Addr}{xs:List Int}(h:IntsAt w a xs)(hf:Fr T B w w')(hB:B≤w.heap.size)(hb:∀ ad,a=some ad→ad.block<B):IntsAt w' a xs:=by
 rcases h with e | ⟨b,off,e,hc⟩
 ·exact .inl e
 ·refine .inr ⟨b,off,e,fun j hj=>?_⟩
  have hb:b<B:=hb ⟨b,off,none⟩ e
  rw[← hc j hj]
  have e2:=hf.blk b (by omega) (.inl hb)
  unfold World.cell?
  simp only[e2]
theorem row_other{w:World}{g g' t t':Nat}{zs zs':List Value}(h:Row w g t zs)(h':Row w g' t' zs')(ht:t≠t')(i:Nat)(x:Value):Row (w.setCell ⟨g,i,none⟩ x) g' t' zs':=by
 refine(Below.heap_setCell w ⟨g,i,none⟩ x g' fun e=>?_).trans h'
 have e':g'=g:=e
 subst e'
 have a1:w.heap[g']?=some (.cells zs.toArray t (0,0)):=h
 have a2:w.heap[g']?=some (.cells zs'.toArray t' (0,0)):=h'
 rw[a1] at a2
 simp only[Option.some.injEq,Obj.cells.injEq] at a2
 exact ht a2.2.1
theorem alloc_below(w:World)(o:Obj):Below w.heap.size w (w.alloc o):=(Below.refl _ _).alloc (Nat.le_refl _) o
theorem SrI.addLine{w w6:World}{B g N:Nat}{E:Sg}{s:Sr}{A:SrA}(h:SrI w B g N E s A anZero){us:List Value}(lu1:us.length=s.ls.length)(lu2:w.ownsRow B 76 2 A.vq s.ls.length (liCells us s.ls))(lu3:AllOwn w B 3 us (s.ls.map fun p=>p.2)){o:Obj}(hg:(w.alloc o).grownBy w6 A.vq.ownBlock){v' u:Value}{p:Lin}(hown:w6.ownsRow B 76 2 v' (s.ls.length+1) (liCells us s.ls++[.int .u8 (p.1.toNat:Int),u]))(hu:w.ownsRow B 3 1 u p.2.length (i64s p.2)) :
  SrI (w6.setCell ⟨g,12,none⟩ v') B g N E { s with ls:=s.ls++[p] } { A with vq:=v' } anZero∧Fr lwT B w (w6.setCell ⟨g,12,none⟩ v'):=by
 have hB:=h.size
 have hf:Fr (fun t=>t=76) B w w6:=(Fr.of _ B (alloc_below w o)).grown (own_below lu2 (alloc_below w o)) rfl hg
 have r6:=hf.row h.m.row (by decide)
 have st:∀ {b e k n:Nat} {v:Value} {zs:List Value},w6.ownsRow b e k v n zs→e≠93→(w6.setCell ⟨g,12,none⟩ v').ownsRow b e k v n zs:=fun ho he=>own_setN r6 12 v' he ho
 have hfs:Fr lwT B w (w6.setCell ⟨g,12,none⟩ v'):=(hf.mono fun t e=>.inl e).set r6 (.inr rfl) h.m.base 12 v'
 refine⟨⟨⟨r6.set 12 v',h.m.base,h.m.asm.fr hfs hB h.m.asb,h.m.asb,st (hf.own h.m.lr (by decide)) (by decide),st (hf.own h.m.path (by decide)) (by decide),st (hf.own h.m.done (by decide)) (by decide),h.m.apart,us++[u],by simp[lu1],?_,?_⟩,?_⟩,hfs⟩
 ·show(w6.setCell ⟨g,12,none⟩ v').ownsRow B 76 2 v' (s.ls++[p]).length (liCells (us++[u]) (s.ls++[p]))
  rw[liCells_snoc _ _ _ _ lu1,List.length_append,List.length_singleton]
  exact st hown (by decide)
 ·show AllOwn _ _ _ (us++[u]) ((s.ls++[p]).map fun p=>p.2)
  rw[List.map_append]
  exact(lu3.map fun _ _ _ _ ho=>st (hf.own ho (by decide)) (by decide)).snoc (st (hf.own hu (by decide)) (by decide))
 ·exact(h.t.fr hf fun t e=>by rw[e];exact not_tree (by decide) (by decide)).set r6 12 v' me_tree
def SrPost(w:World)(B g N:Nat)(E:Sg)(A:SrA)(r:Rs)(e:Ending)(w':World):Prop:=Fr srT B w w'∧SetK A.vl w w'∧match r with
 | .fin s x=>e=.returned (.bool false)∧∃ A' an,A'.cb=A.cb∧A'.aa=A.aa∧A'.ca=A.ca∧Mov A.vl A'.vl w∧SrI w' B g N E s A' an∧AnsC w' B an x
 | .go s=>e=.returned (.bool true)∧∃ A',A'.cb=A.cb∧A'.aa=A.aa∧A'.ca=A.ca∧Mov A.vl A'.vl w∧SrI w' B g N E s A' anZero
end Go.Proofs.YthboeppmlhbofabDoor
