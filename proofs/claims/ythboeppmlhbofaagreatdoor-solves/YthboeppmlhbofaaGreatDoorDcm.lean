import Derived.Test.YthboeppmlhbofaaGreatDoorDcj
import Derived.Test.YthboeppmlhbofaaGreatDoorHac
namespace Go.Proofs.YthboeppmlhbofaaGreatDoor
open Go.RowKit Txt
set_option maxRecDepth 100000
def CE(seen u:Nat):Nat→List Int
 | 0=>[]
 | k+1=>CE seen u k++(if seen.testBit (2*k) then [if u.testBit k then (k:Int)+1 else -((k:Int)+1)] else [])
def P8(u:Nat):Nat→Nat
 | 0=>0
 | k+1=>P8 u k|||(if u.testBit k then 2^k else 0)
theorem Zw(u:Nat):∀ k i,(P8 u k).testBit i=(decide (i<k) && u.testBit i):=by
 intro k
 induction k with
 | zero=>intro i;simp[P8]
 | succ k ih =>
  intro i
  simp only[P8]
  rw[Nat.testBit_or,ih]
  by_cases e:i=k
  ·subst e
   rw[decide_eq_false (by omega:¬ i<i),decide_eq_true (by omega:i<i+1)]
   cases h:u.testBit i
   ·simp
   ·simp
  ·have hz:(if u.testBit k=true then 2^k else 0).testBit i=false:=by
    split
    ·rw[Nat.testBit_two_pow];simp;omega
    ·simp
   rw[hz,Bool.or_false]
   by_cases h:i<k
   ·rw[decide_eq_true h,decide_eq_true (by omega:i<k+1)]
   ·rw[decide_eq_false h,decide_eq_false (by omega:¬ i<k+1)]
theorem dC(u:Nat):∀ k,P8 u k<2^k:=by
 intro k
 induction k with
 | zero=>simp[P8]
 | succ k ih =>
  simp only[P8]
  refine Nat.or_lt_two_pow (Nat.lt_trans ih (Nat.pow_lt_pow_right (by decide) (by omega))) ?_
  split
  ·exact Nat.pow_lt_pow_right (by decide) (by omega)
  ·exact Nat.pow_pos (by decide)
theorem bn{u:Nat}(hu:u<1024):P8 u 10=u:=by
 apply Nat.eq_of_testBit_eq
 intro i
 rw[Zw]
 by_cases h:i<10
 ·rw[decide_eq_true h,Bool.true_and]
 ·rw[decide_eq_false h,Bool.false_and,Nat.testBit_lt_two_pow (Nat.lt_of_lt_of_le hu (Nat.pow_le_pow_right (n:=2) (i:=10) (by decide) (by omega)))]
theorem UZ(seen u:Nat):∀ k,(CE seen u k).length≤k:=by
 intro k
 induction k with
 | zero=>simp[CE]
 | succ k ih =>
  simp only[CE,List.length_append]
  split <;> simp <;> omega
theorem Ua(seen u k:Nat):∀ m,∃ l,CE seen u (k+m)=CE seen u k++l:=by
 intro m
 induction m with
 | zero=>exact⟨[],by simp⟩
 | succ m ih =>
  obtain⟨l,h⟩:=ih
  exact⟨l++(if seen.testBit (2*(k+m)) then [if u.testBit (k+m) then ((k+m:Nat):Int)+1 else -(((k+m:Nat):Int)+1)] else []),by rw[show k+(m+1)=(k+m)+1 by omega];simp only[CE];rw[h,List.append_assoc]⟩
theorem XO(seen u k:Nat)(hk:k<10)(hs:seen.testBit (2*k)=true):(CE seen u k).length<(CE seen u 10).length∧(CE seen u 10).getD (CE seen u k).length 0=(if u.testBit k then (k:Int)+1 else -((k:Int)+1)):=by
 obtain⟨l,h⟩:=Ua seen u (k+1) (9 - k)
 rw[show k+1+(9 - k)=10 by omega] at h
 have h1:CE seen u (k+1)=CE seen u k++[if u.testBit k then (k:Int)+1 else -((k:Int)+1)]:=by simp only[CE];rw[hs];rfl
 rw[h,h1,List.append_assoc]
 refine⟨by simp,?_⟩
 rw[List.getD_eq_getElem?_getD,List.getElem?_append_right (Nat.le_refl _),Nat.sub_self]
 rfl
theorem Uh(n:Nat)(h:n<2^10):wrap64 (n:Int)=(n:Int):=by unfold wrap64;omega
theorem cV(q k:Nat)(hq:q<1024)(hk:k<10):bits .or .i64 (q:Int) (wrap64 (2^k))=((q|||2^k:Nat):Int):=by
 have e2:((2:Int)^k)=((2^k:Nat):Int):=by rw[Int.natCast_pow];rfl
 have hp:2^k<2^10:=Nat.pow_lt_pow_right (by decide) hk
 rw[e2]
 generalize 2^k=pk at *
 rw[Uh pk hp]
 exact IU q pk (by omega) (by omega)
structure QG(hv:List Nat)(seen must:Nat)(x:Fe)(u:Nat):Prop where
 lt:u<1024
 vs:x.vs=CE seen u 10
 un:∀ k,k<10→seen.testBit (2*k)=false→u.testBit k=false
 al:EH hv must u=true
 co:x.co=[]
 cl:x.cl=[]
 re:x.re=0
theorem QO(s k:Nat)(hs:s<1048576)(hk:k<10):bits .and .i64 (s:Int) ((2^(2*k):Nat):Int)=(((s.testBit (2*k)).toNat*2^(2*k):Nat):Int):=by
 have hp:2^(2*k)<2^20:=Nat.pow_lt_pow_right (by decide) (by omega)
 rw[EX s (2^(2*k)) (by omega) (by omega)]
 congr 1
 apply Nat.eq_of_testBit_eq
 intro i
 rw[Nat.testBit_and,Nat.testBit_two_pow]
 cases h:s.testBit (2*k)
 ·by_cases e:2*k=i
  ·subst e;rw[h];simp
  ·rw[decide_eq_false e];simp
 ·by_cases e:2*k=i
  ·subst e;rw[h];simp
  ·rw[decide_eq_false e];simp[Nat.testBit_two_pow];omega
set_option maxHeartbeats 4000000 in
theorem bQ(B:Nat)(d:SE)(x:Fe)(p:A3)(must u:Nat)(w:World)(h:JI w B d)(hx:KR w x p)(hb:d.seen<1048576∧must<1048576)(ho:QG d.hv d.seen must x u) :
  Calls Tryz.prog 45 #[.pointer (some ⟨d.cb,0,none⟩),.agg #[.int .i64 x.st,.int .i64 x.re,.slice p.a1 x.vs.length p.c1,.slice p.a2 x.co.length p.c2,.slice p.a3 x.cl.length p.c3],.int .i64 must] w fun e w'=>e=.returned (.bool true)∧Below w.heap.size w w':=by
 obtain⟨o1,o2,o3,o4,o5,o6,o7⟩:=ho
 obtain⟨pa1,pa2,pa3,pc1,pc2,pc3⟩:=p
 obtain⟨hx1,_,_⟩:=hx
 simp only at hx1
 have hb0:∀ y,Below w.heap.size w (w.alloc y):=fun y=>(Below.refl _ _).alloc (Nat.le_refl _) y
 have HAL:Hid (∀ w',Below w.heap.size w w'→Calls Tryz.prog 78 #[.slice d.ah d.hv.length d.ch,.int .i64 must,.int .i64 u] w' fun e w''=>e=.returned (.bool true)∧w''=w'):=fun w' hbw=>by
  have:=Ma d.ah d.ch d.hv must u w' (Fk (h.below hbw).hv) (by have:=h.len;omega) hb.2 o1 h.top.1
  rwa [o4] at this
 have HBI:Hid (∀ k:Nat,k<10→∀ w',Calls Tryz.prog 75 #[.int .i64 ((k:Int)+1)] w' fun e w''=>e=.returned (.int .i64 (2^(2*k):Nat))∧w''=w'):=fun k hk w'=>by rw[← Xo];exact MJ _ (U6 k hk) w'
 have HJ:=AB h
 have ra:AY (w.alloc (.cells #[.int .i64 x.st,.int .i64 x.re,.slice pa1 x.vs.length pc1,.slice pa2 x.co.length pc2,.slice pa3 x.cl.length pc3] 70)) w.heap.size 70 [.int .i64 x.st,.int .i64 x.re,.slice pa1 x.vs.length pc1,.slice pa2 x.co.length pc2,.slice pa3 x.cl.length pc3]:=heap_alloc_new w _
 have RA:=AB ra
 have HB0:=AB (hb0 (.cells #[.int .i64 x.st,.int .i64 x.re,.slice pa1 x.vs.length pc1,.slice pa2 x.co.length pc2,.slice pa3 x.cl.length pc3] 70))
 have HVS:=AB hx1
 have HO2:=AB o2
 have HO3:=AB o3
 have HC0:Hid (x.co.length=0):=by show _=_;rw[o5];rfl
 have HL0:Hid (x.cl.length=0):=by show _=_;rw[o6];rfl
 have HR0:=AB o7
 have hvl:x.vs.length≤10:=by rw[o2];exact UZ _ _ _
 clear h hx1 ra hb0 o2 o3 o4 o5 o6 o7
 go_enter Tryz.func45,Tryz.ntmps45
 go_wp2_with fail
 generalize w.alloc (.cells #[.int .i64 x.st,.int .i64 x.re,.slice pa1 x.vs.length pc1,.slice pa2 x.co.length pc2,.slice pa3 x.cl.length pc3] 70)=w0 at *
 go_loopw [7,8,9] (fun x7 x8 x9 wr=>∃ k:Nat,k≤10∧x9=.int .i64 ((k:Int)+1)∧x7=.int .i64 ((CE d.seen u k).length:Nat)∧x8=.int .i64 (P8 u k:Nat)∧Hid (Below w0.heap.size w0 wr)) (fun _ _ x9 _=>11 - (intOf x9).toNat)
 case atStart=>exact⟨0,by omega,rfl,rfl,rfl,Below.refl _ _⟩
 case round =>
  obtain⟨k,hk,rfl,rfl,rfl,HBR⟩:=hrel
  have RAR:=AB (AF RA.out HBR.out)
  have BW:Hid (Below w.heap.size w wr):=HB0.out.trans (HBR.out.mono HB0.out.size)
  have JR:=AB (HJ.out.below BW.out)
  have s8:wr.cell? ⟨d.cb,8,none⟩=some (.int .i64 (d.seen:Nat)):=(JR.out.blk.cell 8).trans rfl
  have s6:wr.cell? ⟨d.cb,6,none⟩=some (.slice d.ah d.hv.length d.ch):=(JR.out.blk.cell 6).trans rfl
  have q2:wr.cell? ⟨w.heap.size,2,none⟩=some (.slice pa1 x.vs.length pc1):=(RAR.out.cell 2).trans rfl
  by_cases hlt:k<10
  ·have HB1:=AB (HBI.out k hlt)
   have hai:=QO d.seen k hb.1 hlt
   have hk9:(k:Int)+1≤10:=by omega
   cases hs:d.seen.testBit (2*k) with
   | false =>
    rw[hs] at hai
    simp only[Bool.toNat_false,Nat.zero_mul] at hai
    have HV1:Hid (CE d.seen u (k+1)=CE d.seen u k):=by show _=_;simp only[CE];rw[hs];simp
    have HU1:Hid (P8 u (k+1)=P8 u k):=by show _=_;simp only[P8];rw[HO3.out k hlt hs];simp
    have HBN:Hid (Below w0.heap.size w0 wr.drew):=below_drewN HBR.out 1
    generalize 2^(2*k)=z at *
    go_wp2_with fail
    go_region_with (go_at_call 75;refine(AE HB1 _).mono ?_;rintro e w' ⟨rfl,rfl⟩)
    all_goals
     go_wp2
     go_roundw
     case rel=>exact⟨k+1,by omega,by go_num,by rw[HV1.out],by rw[HU1.out],HBN⟩
     case measure=>simp[intOf];omega
   | true =>
    rw[hs] at hai
    simp only[Bool.toNat_true,Nat.one_mul] at hai
    have hzp:0<2^(2*k):=Nat.pow_pos (by decide)
    have hzb:(((2^(2*k):Nat):Int) != 0)=true:=by rw[bne_iff_ne];omega
    obtain⟨v1,v2⟩:=XO d.seen u k hlt hs
    have hv1:CE d.seen u (k+1)=CE d.seen u k++[if u.testBit k then (k:Int)+1 else -((k:Int)+1)]:=by simp only[CE];rw[hs];rfl
    have HV1:Hid ((CE d.seen u (k+1)).length=(CE d.seen u k).length+1):=by show _=_;rw[hv1];simp
    rw[← HO2.out] at v1 v2
    obtain⟨b,off,rfl,hc⟩:=(HVS.out.below BW.out).get (by omega)
    have x1:=hc _ v1
    rw[v2] at x1
    have hu1:P8 u (k+1)=P8 u k|||(if u.testBit k then 2^k else 0):=rfl
    have hul:=dC u k
    have hp2:2^k<2^10:=Nat.pow_lt_pow_right (by decide) hlt
    have hup:P8 u k<1024:=Nat.lt_of_lt_of_le hul (Nat.pow_le_pow_right (n:=2) (j:=10) (by decide) (by omega))
    generalize 2^(2*k)=z at *
    have HBN:Hid (Below w0.heap.size w0 wr.drew):=below_drewN HBR.out 1
    cases hub:u.testBit k with
    | true =>
     rw[hub] at x1 hu1
     simp only[if_true] at x1 hu1
     have HU1:=AB hu1
     clear hv1 v2 hc hu1
     generalize hvn:(CE d.seen u k).length=vn at *
     have HVN:=AB hvn
     clear hvn
     have HOR:=AB (cV (P8 u k) k hup hlt)
     generalize P8 u k=uk at *
     go_wp2_with fail
     go_region_with (go_at_call 75;refine(AE HB1 _).mono ?_;rintro e w' ⟨rfl,rfl⟩)
     all_goals
      go_wp2_with fail
      go_roundw
      case rel=>exact⟨k+1,by omega,by go_num,by rw[HV1.out];go_num,by rw[HU1.out];exact congrArg (Value.int .i64) HOR.out,HBN⟩
      case measure=>simp[intOf];omega
    | false =>
     rw[hub] at x1 hu1
     simp only[Bool.false_eq_true,if_false,Nat.or_zero] at x1 hu1
     have HU1:=AB hu1
     clear hv1 v2 hc hu1
     generalize hvn:(CE d.seen u k).length=vn at *
     have HVN:=AB hvn
     clear hvn
     generalize P8 u k=uk at *
     go_wp2_with fail
     go_region_with (go_at_call 75;refine(AE HB1 _).mono ?_;rintro e w' ⟨rfl,rfl⟩)
     all_goals
      go_wp2_with fail
      go_roundw
      case rel=>exact⟨k+1,by omega,by go_num,by rw[HV1.out];go_num,by rw[HU1.out],HBN⟩
      case measure=>simp[intOf];omega
  ·obtain rfl:k=10:=by omega
   have HUA:Hid (P8 u 10=u):=bn o1
   have hvl2:(CE d.seen u 10).length=x.vs.length:=by rw[HO2.out]
   have q3:wr.cell? ⟨w.heap.size,3,none⟩=some (.slice pa2 0 pc2):=by rw[← HC0.out];exact(RAR.out.cell 3).trans rfl
   have q4:wr.cell? ⟨w.heap.size,4,none⟩=some (.slice pa3 0 pc3):=by rw[← HL0.out];exact(RAR.out.cell 4).trans rfl
   have q1:wr.cell? ⟨w.heap.size,1,none⟩=some (.int .i64 0):=by rw[← HR0.out];exact(RAR.out.cell 1).trans rfl
   have HA1:=AB (HAL.out wr BW.out)
   rw[hvl2,HUA.out]
   clear hvl2 HUA HAL RAR JR
   go_wp2_with (go_at_call 78;refine(AE HA1).mono ?_;rintro e w' ⟨rfl,hw⟩;obtain rfl:=hw.symm)
   go_ret
   exact⟨rfl,BW.out⟩
def Dz(n:Int):Nat:=if 0<n then (2*n - 2).toNat else (-2*n - 1).toNat
theorem Mg(n:Int):DN n=2^Dz n:=by
 unfold DN Dz
 split <;> rfl
theorem aN{n:Int}(h:AT n=true):Dz n<20:=by
 simp only[AT,Bool.and_eq_true,bne_iff_ne,decide_eq_true_eq] at h
 unfold Dz
 split <;> omega
def wo(s:Nat)(n:Int):Nat:=s - (s&&&DN n)
theorem Hm(s:Nat)(n:Int)(i:Nat):(wo s n).testBit i=(s.testBit i && decide (i≠Dz n)):=by
 unfold wo
 rw[Bi,Mg,Nat.testBit_two_pow]
 congr 1
 by_cases h:Dz n=i
 ·subst h;simp
 ·have h':i≠Dz n:=fun e=>h e.symm
  simp[h,h']
theorem Ug(s:Nat)(n:Int):AM (wo s n) s:=fun i h=>by rw[Hm,Bool.and_eq_true] at h;exact h.1
theorem MB{s:Nat}(n:Int)(h:s<2^20):wo s n<2^20:=Nat.lt_of_le_of_lt (Nat.sub_le _ _) h
def Gw(s:Nat):Nat→List Int
 | 0=>[]
 | v+1=>Gw s v++((if s.testBit (2*v) then [(v:Int)+1] else [])++(if s.testBit (2*v+1) then [-((v:Int)+1)] else []))
def AZ(s:Nat):List Int:=Gw s 10
theorem WU(s:Nat):∀ k,k≤10→∀ x∈Gw s k,AT x=true:=by
 intro k
 induction k with
 | zero=>intro _ x hx;simp[Gw] at hx
 | succ k ih =>
  intro hk x hx
  simp only[Gw,List.mem_append] at hx
  rcases hx with hx | hx | hx
  ·exact ih (by omega) x hx
  ·split at hx
   ·rw[List.mem_singleton.1 hx]
    simp only[AT,Bool.and_eq_true,bne_iff_ne,decide_eq_true_eq];omega
   ·simp at hx
  ·split at hx
   ·rw[List.mem_singleton.1 hx]
    simp only[AT,Bool.and_eq_true,bne_iff_ne,decide_eq_true_eq];omega
   ·simp at hx
theorem FU(s:Nat):(AZ s).all AT=true:=List.all_eq_true.2 fun x hx=>WU s 10 (by omega) x hx
theorem H8(xs ys:List Int):Ah (xs++ys)=Ah xs|||Ah ys:=by
 have key:∀ (ys:List Int) (a:Nat),ys.foldl (fun a l=>a|||DN l) a=a|||ys.foldl (fun a l=>a|||DN l) 0:=by
  intro ys
  induction ys with
  | nil=>intro a;simp
  | cons y ys ih=>intro a;simp only[List.foldl_cons];rw[ih (a|||DN y),ih (0|||DN y),Nat.zero_or,Nat.or_assoc]
 unfold Ah
 rw[List.foldl_append,key]
theorem KZ(v:Nat):Dz ((v:Int)+1)=2*v:=by unfold Dz;rw[if_pos (by omega)];omega
theorem Mf(v:Nat):Dz (-((v:Int)+1))=2*v+1:=by unfold Dz;rw[if_neg (by omega)];omega
theorem H9(x:Int):Ah [x]=2^Dz x:=by simp[Ah,Mg]
theorem Yg(s:Nat):∀ k i,(Ah (Gw s k)).testBit i=(decide (i<2*k) && s.testBit i):=by
 intro k
 induction k with
 | zero=>intro i;simp[Gw,Ah]
 | succ k ih =>
  intro i
  simp only[Gw]
  rw[H8,H8,Nat.testBit_or,Nat.testBit_or,ih]
  have h1:(Ah (if s.testBit (2*k)=true then [(k:Int)+1] else [])).testBit i=(s.testBit (2*k) && decide (i=2*k)):=by
   cases s.testBit (2*k)
   ·simp[Ah]
   ·rw[if_pos rfl,H9,KZ,Nat.testBit_two_pow,Bool.true_and]
    by_cases h:2*k=i
    ·subst h;simp
    ·rw[decide_eq_false h,decide_eq_false (fun e=>h e.symm)]
  have h2:(Ah (if s.testBit (2*k+1)=true then [-((k:Int)+1)] else [])).testBit i=(s.testBit (2*k+1) && decide (i=2*k+1)):=by
   cases s.testBit (2*k+1)
   ·simp[Ah]
   ·rw[if_pos rfl,H9,Mf,Nat.testBit_two_pow,Bool.true_and]
    by_cases h:2*k+1=i
    ·subst h;simp
    ·rw[decide_eq_false h,decide_eq_false (fun e=>h e.symm)]
  rw[h1,h2]
  by_cases e1:i=2*k
  ·subst e1
   rw[decide_eq_false (by omega:¬ 2*k<2*k),decide_eq_true (by omega:2*k<2*(k+1)),decide_eq_false (by omega:¬ 2*k=2*k+1)]
   simp
  ·by_cases e2:i=2*k+1
   ·subst e2
    rw[decide_eq_false (by omega:¬ 2*k+1<2*k),decide_eq_true (by omega:2*k+1<2*(k+1)),decide_eq_false (by omega:¬ 2*k+1=2*k)]
    simp
   ·rw[decide_eq_false e1,decide_eq_false e2]
    by_cases h:i<2*k
    ·rw[decide_eq_true h,decide_eq_true (by omega:i<2*(k+1))];simp
    ·rw[decide_eq_false h,decide_eq_false (by omega:¬ i<2*(k+1))];simp
theorem GP{s:Nat}(hs:s<2^20):AJ (AZ s)=s:=by
 unfold AJ
 rw[FU,if_pos rfl]
 apply Nat.eq_of_testBit_eq
 intro i
 unfold AZ
 rw[Yg]
 by_cases h:i<20
 ·rw[decide_eq_true (by omega:i<2*10),Bool.true_and]
 ·rw[decide_eq_false (by omega:¬ i<2*10),Bool.false_and,Nat.testBit_lt_two_pow (Nat.lt_of_lt_of_le hs (Nat.pow_le_pow_right (n:=2) (i:=20) (by decide) (by omega)))]
theorem RE(s:Nat):∀ k,(Gw s k).length=DF s (2*k):=by
 intro k
 induction k with
 | zero=>rfl
 | succ k ih =>
  rw[show 2*(k+1)=2*k+1+1 by omega]
  simp only[Gw,DF,List.length_append,ih,Kc]
  cases s.testBit (2*k) <;> cases s.testBit (2*k+1) <;> simp
theorem Bk(s:Nat):(AZ s).length=AG s:=RE s 10
def X9(V:Nat):Nat→Nat→Nat
 | 0,_=>0
 | m+1,v=>if V.testBit v then v else X9 V m (v+1)
def FR(V:Nat):Nat:=X9 V 10 1
theorem Qk(V:Nat):∀ m v,1≤v→(X9 V m v=0∧∀ u,v≤u→u<v+m→V.testBit u=false)∨(v≤X9 V m v∧X9 V m v<v+m∧V.testBit (X9 V m v)=true):=by
 intro m
 induction m with
 | zero=>intro v _;exact .inl ⟨rfl,fun u a b=>by omega⟩
 | succ m ih =>
  intro v hv
  simp only[X9]
  cases hb:V.testBit v with
  | true=>exact .inr ⟨by simp,by simp,by simpa using hb⟩
  | false =>
   simp only[Bool.false_eq_true,if_false]
   rcases ih (v+1) (by omega) with⟨h1,h2⟩ | ⟨h1,h2,h3⟩
   ·refine .inl ⟨h1,fun u a b=>?_⟩
    by_cases e:u=v
    ·subst e;exact hb
    ·exact h2 u (by omega) (by omega)
   ·exact .inr ⟨by omega,by omega,h3⟩
theorem Qg{V:Nat}(h:FR V=0):∀ u,1≤u→u<11→V.testBit u=false:=by
 rcases Qk V 10 1 (by omega) with⟨_,h2⟩ | ⟨h1,h2,_⟩
 ·exact fun u a b=>h2 u a (by omega)
 ·unfold FR at h;omega
theorem Lu{V:Nat}(h:FR V≠0):1≤FR V∧FR V<11∧V.testBit (FR V)=true:=by
 rcases Qk V 10 1 (by omega) with⟨h1,_⟩ | ⟨h1,h2,h3⟩
 ·exact absurd h1 h
 ·exact⟨h1,by unfold FR;omega,h3⟩
structure Jy where
 dec:Nat
 vs:Nat
 kn:Nat
structure Sr where
 lr:List Nat
 h:Int
 l:Int
 sp:Nat
 path:List Jy
 done:List Jy
 ls:List FO
 vals:Nat
inductive Rs where
 | go (s:Sr)
 | fin (s:Sr) (x:Fe)
structure Sg where
 hv:List Nat
 xs:List Int
 b:Int
 r:Int
def Sg.as(E:Sg):Nat:=AJ E.xs
def Zy(re:Int)(c:Nat):Fe:=⟨3,re,[],[],AZ c⟩
def LW(lt:UInt8)(c:Nat)(s:Sr):Rs:=if s.l<(AG c:Int)+1 then .fin s (Zy 3 c) else .go { s with l:=s.l - ((AG c:Int)+1),ls:=s.ls++[(lt,AZ c)] }
def aD(c:Nat)(s:Sr):Rs:=if s.h<(AG c:Int) then .fin s (Zy 2 c) else match LW 97 c s with
 | .fin s x=>.fin s x
 | .go s=>.go { s with h:=s.h - (AG c:Int),sp:=s.sp+1,lr:=s.lr++[c] }
def A4(cs:List Nat):List Int→Nat→Nat
 | [],d=>d
 | n :: xs,d=>A4 cs xs (if Ab cs (wo d n) then wo d n else d)
def Jw(cs:List Nat)(d:Nat):Nat:=match Bs cs d with
 | none=>0
 | some K=>K
def DW(cs:List Nat)(ps:List Jy):Bool:=ps.all fun p=>Jw cs p.dec&&&AQ p.vs == p.kn
def G6(E:Sg)(s:Sr)(c dec:Nat):Bool:=Ab (E.hv++s.lr.erase c) dec && DW (E.hv++s.lr.erase c) s.path && DW (E.hv++s.lr.erase c) s.done
def DC(E:Sg)(s:Sr)(dec:Nat):List Nat→Nat→Nat
 | [],m=>m
 | c :: cs,m=>DC E s dec cs (if AG c≤AG m then m else if G6 E s c dec then c else m)
def XZ(E:Sg)(s:Sr)(dec:Nat):Rs:=if E.r=0∨(s.lr.length:Int)<E.r then .go s else match LW 100 (DC E s dec s.lr 0) s with
 | .fin s x=>.fin s x
 | .go s'=>.go { s' with lr:=s'.lr.erase (DC E s dec s.lr 0),h:=s'.h+(AG (DC E s dec s.lr 0):Int) }
def bN(E:Sg)(s:Sr)(dec:Nat):Rs:=if 0<E.b∧E.b≤(s.sp:Int) then .fin s (Zy 1 0) else match XZ E s dec with
 | .fin s x=>.fin s x
 | .go s=>aD (AW (A4 (E.hv++s.lr) E.xs dec)) s
def BK:Nat→List Int→List Int
 | _,[]=>[]
 | c,n :: xs=>if c.testBit (Dz n) then n :: BK (wo c n) xs else BK c xs
def Nx(E:Sg)(s:Sr):Rs:=match LW 101 (AW (A4 (E.hv++s.lr) E.xs E.as)) s with
 | .fin s x=>.fin s x
 | .go s=>.fin s ⟨2,0,[],BK (A4 (E.hv++s.lr) E.xs E.as) E.xs,[]⟩
def Dg(w kn:Nat):Nat:=FR (w - (w&&&vN kn))
def FN(E:Sg)(w:Nat):Nat→Nat→Sr→Option Rs
 | 0,_,_=>none
 | m+1,dec,s=>match Bs (E.hv++s.lr) dec with
  | none=>if dec=E.as then some (Nx E s) else match bN E s dec with
   | .fin s x=>some (.fin s x)
   | .go s=>FN E w m E.as { s with path:=[] }
  | some K =>
   if Dg w K=0 then some (.go { s with vals:=s.vals|||(K&&&AQ w),done:=s.done++(s.path++[⟨dec,w,K&&&AQ w⟩]),path:=[] })
   else FN E w m (dec|||DN ((Dg w K:Nat):Int)) { s with path:=s.path++[⟨dec,w,K&&&AQ w⟩] }
def ME(E:Sg)(m:Nat):List Nat→Sr→Option Rs
 | [],s=>some (.go s)
 | w :: ws,s=>match FN E w m E.as s with
  | none=>none
  | some (.fin s x)=>some (.fin s x)
  | some (.go s)=>ME E m ws s
def bO(E:Sg)(m:Nat)(ws:List Nat)(s:Sr):Option (Sr × Fe):=match ME E m (0 :: ws) s with
 | none=>none
 | some (.fin s x)=>some (s,x)
 | some (.go s)=>some (s,⟨1,0,AZ s.vals,[],[]⟩)
theorem TO{a b w:Nat}:∀ n,(∀ u,1≤u→u≤n→(a.testBit u).toNat+(b.testBit u).toNat≤(w.testBit u).toNat)→Iu a n+Iu b n≤Iu w n:=by
 intro n
 induction n with
 | zero=>intro _;simp[Iu]
 | succ n ih =>
  intro h
  have h1:=ih (fun u a b=>h u a (by omega))
  have h2:=h (n+1) (by omega) (by omega)
  simp only[Iu]
  omega
theorem MY{k w:Nat}(hk:AM k (AQ w))(ht:BN k=false):AG k≤Da w:=by
 have hk20:k<2^20:=B7 fun i hi=>by
  cases hb:k.testBit i with
  | false=>rfl
  | true=>have:=Bl (CI w).top (hk i hb);omega
 have h2:=CT.of hk20
 rw[h2.size]
 refine TO 10 fun u h1 h10=>?_
 obtain⟨v,rfl⟩:∃ v,u=v+1:=⟨u - 1,by omega⟩
 rw[← h2.pos v (by omega),← h2.neg v (by omega)]
 have hp:=(FK k).1 ht (2*v) (by omega)
 have e1:Fs (2*v)=2*v+1:=by unfold Fs;rw[if_pos (by omega)]
 rw[e1] at hp
 have q1:=hk (2*v)
 have q2:=hk (2*v+1)
 rw[BM,show 2*v / 2=v by omega,decide_eq_true (by omega:2*v<20),Bool.true_and] at q1
 rw[BM,show(2*v+1) / 2=v by omega,decide_eq_true (by omega:2*v+1<20),Bool.true_and] at q2
 cases a:k.testBit (2*v) with
 | true=>rw[hp a,q1 a];simp
 | false =>
  cases b:k.testBit (2*v+1) with
  | true=>rw[q2 b];simp
  | false=>simp
theorem Vl{cs:List Nat}{W K:Nat}(hW:Xe W)(hs:∀ c∈cs,AM c W)(h:Jp cs K):Jp cs (K&&&W):=by
 intro c hc
 obtain⟨q1,q2⟩:=h c hc
 have e:Av c (K&&&W)=Av c K:=Km fun i hi=>by
  have hw:=hs c hc i hi
  have hi20:=Bl hW.top hw
  rw[CQ _ hi20,CQ _ hi20,Nat.testBit_and,hW.sym i hi20,hw,Bool.and_true]
 rw[e]
 exact⟨q1,fun q'=>(q2 q').and ((Ht c K).trans (hs c hc))⟩
structure Et(cs:List Nat)(A w:Nat):Prop where
 top:∀ c∈cs,c<2^20
 sep:dp cs (AQ w)
 asm:A<2^20
theorem Et.sub{cs cs':List Nat}{A w:Nat}(h:Et cs A w)(hs:∀ c∈cs',c∈cs):Et cs' A w:=⟨fun c hc=>h.top c (hs c hc),fun c hc=>h.sep c (hs c hc),h.asm⟩
theorem En{cs:List Nat}{A w:Nat}(h:Et cs A w){d kn:Nat}(hd:d<2^20)(hk:Ba cs (AQ w) d=some kn):O8 (OT cs (AQ w)) (d&&&AQ w) kn∧AM kn (AQ w):=by
 have q:=ER (Mo h.top _) (Ff hd) hk
 refine⟨q,?_⟩
 have hc:=Vl (CI w) (fun c hc=>(E7.1 hc).2) q.cl
 exact(q.least _ hc (q.sub.and (FJ _ _))).trans (FJ _ _)
def Bp(cs:List Nat)(A w:Nat):Nat→Option Nat
 | 0=>some A
 | i+1=>match Bp cs A w i with
  | none=>none
  | some d=>match Ba cs (AQ w) d with
   | none=>none
   | some kn=>if Dg w kn=0 then none else some (d|||DN ((Dg w kn:Nat):Int))
def Cd(cs:List Nat)(A w:Nat):Nat→List Jy
 | 0=>[]
 | i+1=>Cd cs A w i++(match Bp cs A w i with
  | none=>[]
  | some d=>match Ba cs (AQ w) d with
   | none=>[]
   | some kn=>[⟨d,w,kn⟩])
theorem Bz{cs:List Nat}{A w i d':Nat}(h:Bp cs A w (i+1)=some d'):∃ d kn,Bp cs A w i=some d∧Ba cs (AQ w) d=some kn∧Dg w kn≠0∧d'=d|||DN ((Dg w kn:Nat):Int):=by
 simp only[Bp] at h
 split at h
 ·simp at h
 ·rename_i d hd
  split at h
  ·simp at h
  ·rename_i kn hkn
   split at h
   ·simp at h
   ·rename_i hn
    simp only[Option.some.injEq] at h
    exact⟨d,kn,hd,hkn,hn,h.symm⟩
theorem Gn{w kn:Nat}(hkn:kn<2^20)(h:Dg w kn≠0):∃ j,DN ((Dg w kn:Nat):Int)=2^j∧j<20∧j % 2=0∧(AQ w).testBit j=true∧kn.testBit j=false∧kn.testBit (Fs j)=false:=by
 obtain⟨h1,h2,h3⟩:=Lu h
 change 1≤Dg w kn at h1
 change Dg w kn<11 at h2
 have h3':(w - (w&&&vN kn)).testBit (Dg w kn)=true:=h3
 rw[Bi,Bool.and_eq_true] at h3'
 generalize Dg w kn=v at *
 obtain⟨u,rfl⟩:∃ u,v=u+1:=⟨v - 1,by omega⟩
 have hv:(vN kn).testBit (u+1)=false:=by simpa using h3'.2
 rw[QC hkn (by omega),Bool.or_eq_false_iff] at hv
 have e1:Fs (2*u)=2*u+1:=by unfold Fs;rw[if_pos (by omega)]
 refine⟨2*u,?_,by omega,by omega,?_,hv.1,by rw[e1];exact hv.2⟩
 ·rw[Mg]
  congr 1
  rw[show((u+1:Nat):Int)=(u:Int)+1 by omega,KZ]
 ·rw[BM,decide_eq_true (by omega),show 2*u / 2=u by omega,h3'.1];rfl
theorem Yz{w kn:Nat}(h:Dg w kn=0):∀ u,1≤u→u<11→w.testBit u=true→(vN kn).testBit u=true:=by
 intro u h1 h2 hw
 have:=Qg (V:=w - (w&&&vN kn)) h u h1 h2
 rw[Bi,hw,Bool.true_and] at this
 simpa using this
theorem ZD{j:Nat}(h:j<20):2^j<2^20:=Nat.pow_lt_pow_right (by decide) h
theorem CO{cs:List Nat}{A w:Nat}(h:Et cs A w):∀ {i d:Nat},Bp cs A w i=some d→d<2^20∧AM A d∧∀ j,d.testBit j=true→(AQ w).testBit j=false→A.testBit j=true:=by
 intro i
 induction i with
 | zero =>
  intro d hd
  simp only[Bp,Option.some.injEq] at hd
  subst hd
  exact⟨h.asm,AM.refl _,fun j a _=>a⟩
 | succ i ih =>
  intro d hd
  obtain⟨d0,kn,h1,h2,h3,rfl⟩:=Bz hd
  obtain⟨a1,a2,a3⟩:=ih h1
  obtain⟨q,_⟩:=En h a1 h2
  obtain⟨j,e,hj,_,hw,_⟩:=Gn q.top h3
  rw[e]
  refine⟨Nat.or_lt_two_pow a1 (ZD hj),a2.trans (AM.or_left _ _),fun i hi hn=>?_⟩
  rw[Nat.testBit_or,Bool.or_eq_true] at hi
  rcases hi with hi | hi
  ·exact a3 i hi hn
  ·rw[Nat.testBit_two_pow] at hi
   have:j=i:=by simpa using hi
   subst this
   rw[hw] at hn
   simp at hn
theorem IM{cs:List Nat}{A w i j d:Nat}(hd:Bp cs A w j=some d)(hij:i≤j):∃ d',Bp cs A w i=some d':=by
 induction j generalizing d with
 | zero=>exact⟨d,by rw[show i=0 by omega];exact hd⟩
 | succ j ih =>
  by_cases e:i=j+1
  ·exact⟨d,by rw[e];exact hd⟩
  ·obtain⟨d0,kn,h1,_⟩:=Bz hd
   exact ih h1 (by omega)
theorem U5{cs:List Nat}{A w:Nat}(h:Et cs A w){i d kn d' kn':Nat}(h1:Bp cs A w i=some d)(h2:Ba cs (AQ w) d=some kn)(h3:Bp cs A w (i+1)=some d')(h4:Ba cs (AQ w) d'=some kn'):AM kn kn'∧AG kn+1≤AG kn':=by
 obtain⟨d0,kn0,a1,a2,a3,rfl⟩:=Bz h3
 rw[h1] at a1
 simp only[Option.some.injEq] at a1
 subst a1
 rw[h2] at a2
 simp only[Option.some.injEq] at a2
 subst a2
 obtain⟨b1,_,_⟩:=CO h h1
 obtain⟨c1,_,_⟩:=CO h h3
 obtain⟨q,qw⟩:=En h b1 h2
 obtain⟨q',_⟩:=En h c1 h4
 obtain⟨j,e,hj,_,hw,hb,_⟩:=Gn q.top a3
 rw[e] at q'
 have hs:AM kn kn':=q.least _ q'.cl (((AM.or_left d (2^j)).mono _).trans q'.sub)
 refine⟨hs,?_⟩
 have hjk:kn'.testBit j=true:=q'.sub j (by rw[Nat.testBit_and,IV,hw];rfl)
 exact Du hs q'.top (fun e=>by rw[← e,hb] at hjk;simp at hjk)
theorem Ms{cs:List Nat}{A w:Nat}(h:Et cs A w):∀ {j i d kn d' kn':Nat},Bp cs A w i=some d→Ba cs (AQ w) d=some kn→Bp cs A w (i+j)=some d'→Ba cs (AQ w) d'=some kn'→AM kn kn'∧AG kn+j≤AG kn':=by
 intro j
 induction j with
 | zero =>
  intro i d kn d' kn' h1 h2 h3 h4
  rw[Nat.add_zero,h1] at h3
  simp only[Option.some.injEq] at h3
  subst h3
  rw[h2] at h4
  simp only[Option.some.injEq] at h4
  subst h4
  exact⟨AM.refl _,Nat.le_refl _⟩
 | succ j ih =>
  intro i d kn d' kn' h1 h2 h3 h4
  obtain⟨d0,kn0,a1,a2,_,_⟩:=Bz (i:=i+j) h3
  obtain⟨b1,b2⟩:=ih h1 h2 a1 a2
  obtain⟨c1,c2⟩:=U5 h a1 a2 h3 h4
  exact⟨b1.trans c1,by omega⟩
theorem Kj{cs:List Nat}{A w:Nat}(h:Et cs A w){i d kn:Nat}(h1:Bp cs A w i=some d)(h2:Ba cs (AQ w) d=some kn):i≤AG kn∧AG kn≤Da w:=by
 obtain⟨a1,_,_⟩:=CO h h1
 obtain⟨q,qw⟩:=En h a1 h2
 refine⟨?_,MY qw q.twin⟩
 cases i with
 | zero=>omega
 | succ i =>
  obtain⟨d0,kn0,b1,b2,_,_⟩:=Bz h1
  obtain⟨dA,hA⟩:=IM h1 (Nat.zero_le _)
  have hz:∃ kz,Ba cs (AQ w) A=some kz:=by
   have:Bp cs A w 1≠none:=by
    obtain⟨d1,hd1⟩:=IM h1 (by omega:1≤i+1)
    rw[hd1];simp
   cases hk:Ba cs (AQ w) A with
   | none=>simp[Bp,hk] at this
   | some kz=>exact⟨kz,rfl⟩
  obtain⟨kz,hkz⟩:=hz
  have:=(Ms h (j:=i+1) (i:=0) (d:=A) rfl hkz (by rw[Nat.zero_add];exact h1) h2).2
  omega
def Uv(cs:List Nat)(A w:Nat)(i:Nat):Nat:=match Bp cs A w i with
 | none=>0
 | some d=>match Ba cs (AQ w) d with
  | none=>12
  | some kn=>1+AG kn
def Gr(cs:List Nat)(A w:Nat):Nat→Nat
 | 0=>0
 | n+1=>13*Gr cs A w n+Uv cs A w n
theorem cC{cs:List Nat}{A w:Nat}(h:Et cs A w)(i:Nat):Uv cs A w i≤12:=by
 unfold Uv
 cases hd:Bp cs A w i with
 | none=>simp
 | some d =>
  simp only
  cases hk:Ba cs (AQ w) d with
  | none=>simp
  | some kn =>
   have:=(Kj h hd hk).2
   have:=Hj w
   simp only
   omega
theorem ZB{cs:List Nat}{A w:Nat}(h:Et cs A w):∀ n,Gr cs A w n<13^n:=by
 intro n
 induction n with
 | zero=>simp[Gr]
 | succ n ih =>
  have:=cC h n
  simp only[Gr,Nat.pow_succ]
  omega
theorem Rh{cs cs':List Nat}{A w:Nat}:∀ n,(∀ i,i<n→Uv cs A w i=Uv cs' A w i)→Gr cs A w n=Gr cs' A w n:=by
 intro n
 induction n with
 | zero=>intro _;rfl
 | succ n ih =>
  intro h
  simp only[Gr]
  rw[ih (fun i hi=>h i (by omega)),h n (by omega)]
theorem ZC{cs cs':List Nat}{A w:Nat}(h:Et cs A w){k:Nat}(hs:∀ i,i<k→Uv cs A w i=Uv cs' A w i)(hk:Uv cs A w k<Uv cs' A w k):∀ n,k<n→Gr cs A w n<Gr cs' A w n:=by
 intro n
 induction n with
 | zero=>intro h;omega
 | succ n ih =>
  intro hn
  simp only[Gr]
  by_cases e:n=k
  ·subst e
   rw[Rh n hs]
   omega
  ·have:=ih (by omega)
   have:=cC h n
   omega
theorem Gg{cs cs':List Nat}{A w:Nat}:∀ {k:Nat},(∀ j d,j<k→Bp cs A w j=some d→Ba cs' (AQ w) d=Ba cs (AQ w) d)→∀ i,i≤k→Bp cs' A w i=Bp cs A w i:=by
 intro k h i
 induction i with
 | zero=>intro _;rfl
 | succ i ih =>
  intro hi
  have e:=ih (by omega)
  simp only[Bp]
  rw[e]
  cases hd:Bp cs A w i with
  | none=>rfl
  | some d =>
   simp only
   rw[h i d (by omega) hd]
theorem Oh{cs cs':List Nat}{A w:Nat}{k:Nat}(h:∀ j d,j<k→Bp cs A w j=some d→Ba cs' (AQ w) d=Ba cs (AQ w) d):∀ i,i≤k→Cd cs' A w i=Cd cs A w i:=by
 intro i
 induction i with
 | zero=>intro _;rfl
 | succ i ih =>
  intro hi
  simp only[Cd]
  rw[ih (by omega),Gg h i (by omega)]
  cases hd:Bp cs A w i with
  | none=>rfl
  | some d =>
   simp only
   rw[h i d (by omega) hd]
theorem Ks{cs:List Nat}{A w:Nat}:∀ {n:Nat} {p:Jy},p∈Cd cs A w n→∃ i d kn,i<n∧Bp cs A w i=some d∧Ba cs (AQ w) d=some kn∧p=⟨d,w,kn⟩:=by
 intro n
 induction n with
 | zero=>intro p hp;simp[Cd] at hp
 | succ n ih =>
  intro p hp
  simp only[Cd] at hp
  rcases List.mem_append.1 hp with hp | hp
  ·obtain⟨i,d,kn,a,b,c,e⟩:=ih hp
   exact⟨i,d,kn,by omega,b,c,e⟩
  ·cases hd:Bp cs A w n with
   | none=>rw[hd] at hp;simp at hp
   | some d =>
    rw[hd] at hp
    simp only at hp
    cases hk:Ba cs (AQ w) d with
    | none=>rw[hk] at hp;simp at hp
    | some kn =>
     rw[hk] at hp
     exact⟨n,d,kn,by omega,hd,hk,List.mem_singleton.1 hp⟩
theorem Ky{cs:List Nat}{A w:Nat}{i d kn:Nat}(h1:Bp cs A w i=some d)(h2:Ba cs (AQ w) d=some kn):∀ {n:Nat},i<n→(⟨d,w,kn⟩:Jy)∈Cd cs A w n:=by
 intro n
 induction n with
 | zero=>intro h;omega
 | succ n ih =>
  intro hi
  simp only[Cd]
  by_cases e:i=n
  ·subst e
   rw[h1]
   simp only
   rw[h2]
   exact List.mem_append_right _ (List.mem_singleton.2 rfl)
  ·exact List.mem_append_left _ (ih (by omega))
def Eu(R:List Nat)(ps:List Jy):Prop:=∀ p∈ps,∀ K',Jp R K'→AM (p.dec&&&AQ p.vs) K'→AM p.kn K'
theorem Eu.sub{R R':List Nat}{ps:List Jy}(h:Eu R ps)(hs:∀ c∈R,c∈R'):Eu R' ps:=fun p hp K' hC hk=>h p hp K' (hC.sub hs) hk
theorem Kz{cs:List Nat}{A w:Nat}(h:Et cs A w):∀ (i:Nat) {d kn:Nat},Bp cs A w i=some d→Ba cs (AQ w) d=some kn→∃ R:List Nat,(∀ c∈R,c∈OT cs (AQ w))∧R.length+i≤AG kn∧Eu R (Cd cs A w (i+1)):=by
 intro i
 induction i with
 | zero =>
  intro d kn h1 h2
  obtain⟨a1,_,_⟩:=CO h h1
  obtain⟨q,qw⟩:=En h a1 h2
  obtain⟨R,r1,r2,r3⟩:=reasons q.top q.cl _ (d&&&AQ w) (Nat.le_refl _) q.sub q.least
  refine⟨R,r1,by omega,fun p hp K' hC hk=>?_⟩
  obtain⟨j,d',kn',hj,b1,b2,rfl⟩:=Ks hp
  have:j=0:=by omega
  subst this
  rw[h1] at b1
  simp only[Option.some.injEq] at b1
  subst b1
  rw[h2] at b2
  simp only[Option.some.injEq] at b2
  subst b2
  exact r3 K' hC hk
 | succ i ih =>
  intro d kn h1 h2
  obtain⟨d0,kn0,a1,a2,a3,ed⟩:=Bz h1
  obtain⟨R,r1,r2,r3⟩:=ih a1 a2
  obtain⟨b1,_,_⟩:=CO h a1
  obtain⟨c1,_,_⟩:=CO h h1
  obtain⟨q0,qw0⟩:=En h b1 a2
  obtain⟨q,qw⟩:=En h c1 h2
  obtain⟨j,ej,hj,_,hw,hb,_⟩:=Gn q0.top a3
  rw[ej] at ed
  obtain⟨hs,_⟩:=U5 h a1 a2 h1 h2
  have hjk:kn.testBit j=true:=q.sub j (by rw[Nat.testBit_and,ed,IV,hw];rfl)
  have hd1:AM (d&&&AQ w) (kn0|||2^j):=by
   intro x hx
   rw[Nat.testBit_and,Bool.and_eq_true,ed,Nat.testBit_or,Bool.or_eq_true] at hx
   rw[Nat.testBit_or,Bool.or_eq_true]
   rcases hx with⟨hx | hx,hw'⟩
   ·exact .inl (q0.sub x (by rw[Nat.testBit_and,hx,hw'];rfl))
   ·exact .inr hx
  obtain⟨R2,s1,s2,s3⟩:=reasons q.top q.cl _ (kn0|||2^j) (Nat.le_refl _) (Dv hs hjk) (fun K' hC hk=>q.least K' hC (hd1.trans hk))
  have hsz:=IA hj q0.top hb
  refine⟨R++R2,fun c hc=>(List.mem_append.1 hc).elim (r1 c) (s1 c),by rw[List.length_append];omega,?_⟩
  have hR:Eu (R++R2) (Cd cs A w (i+1)):=r3.sub fun c hc=>List.mem_append_left _ hc
  intro p hp K' hC hk
  obtain⟨jj,d',kn',hjj,b1',b2',rfl⟩:=Ks hp
  by_cases e:jj=i+1
  ·subst e
   rw[h1] at b1'
   simp only[Option.some.injEq] at b1'
   subst b1'
   rw[h2] at b2'
   simp only[Option.some.injEq] at b2'
   subst b2'
   refine s3 K' (hC.sub fun c hc=>List.mem_append_right _ hc) ?_
   have hk0:=hR ⟨d0,w,kn0⟩ (Ky a1 a2 (by omega)) K' hC (by
    refine AM.trans ?_ hk
    rw[ed]
    exact(AM.or_left _ _).mono _)
   exact Dv hk0 (hk j (by rw[Nat.testBit_and,ed,IV,hw];rfl))
  ·exact hR _ (Ky b1' b2' (by omega)) K' hC hk
end Go.Proofs.YthboeppmlhbofaaGreatDoor
