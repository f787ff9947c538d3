import Derived.Test.YthboeppmlhbofaaGreatDoorRdr
import Derived.Laws.ResultCell
import Derived.Laws.Rows
namespace Go.Proofs.YthboeppmlhbofaaGreatDoor
open Go.RowKit Txt
set_option maxRecDepth 100000
def AW(s:Nat):Nat:=((s&&&349525)*2)|||((s / 2)&&&349525)
theorem C6(s:Nat):AW s<1048576:=by
 have h1:(s&&&349525)*2<1048576:=by have:=@Nat.and_le_right s 349525;omega
 have h2:(s / 2)&&&349525<1048576:=by have:=@Nat.and_le_right (s / 2) 349525;omega
 exact Nat.or_lt_two_pow (n:=20) h1 h2
theorem bF(s:Nat)(hs:s<1048576):bits .or .i64 (wrap64 (bits .and .i64 (s:Int) 349525*2)) (bits .and .i64 ((s:Int) / 2) 349525)=((AW s:Nat):Int):=by
 have e1:bits .and .i64 (s:Int) 349525=((s&&&349525:Nat):Int):=EX s 349525 (by omega) (by decide)
 have e2:bits .and .i64 ((s:Int) / 2) 349525=((s / 2&&&349525:Nat):Int):=EX (s / 2) 349525 (by omega) (by decide)
 have h1:=@Nat.and_le_right s 349525
 have h2:=@Nat.and_le_right (s / 2) 349525
 rw[e1,e2]
 have e3:wrap64 (((s&&&349525:Nat):Int)*2)=(((s&&&349525)*2:Nat):Int):=by
  unfold wrap64
  omega
 rw[e3]
 exact IU _ _ (by omega) (by omega)
set_option maxHeartbeats 400000 in
theorem FA(s:Nat)(hs:s<1048576)(w:World):Calls Tryz.prog 65 #[.int .i64 s] w fun e w'=>e=.returned (.int .i64 (AW s:Nat))∧w'=w:=by
 have h:=AB (bF s hs)
 go_enter Tryz.func65,Tryz.ntmps65
 go_wp2
 go_ret
 exact⟨CJ h.out,rfl⟩
def BN(s:Nat):Bool:=s&&&AW s != 0
set_option maxHeartbeats 400000 in
theorem Ng(s:Nat)(hs:s<1048576)(w:World):Calls Tryz.prog 64 #[.int .i64 s] w fun e w'=>e=.returned (.bool (BN s))∧w'=w:=by
 have h:=AB (FA s hs w)
 have hl:=C6 s
 have ha:Hid (bits .and .i64 (s:Int) ((AW s:Nat):Int)=((s&&&AW s:Nat):Int)):=EX s (AW s) (by omega) (by omega)
 have hb:Hid (BN s=(((s&&&AW s:Nat):Int) != 0)):=by
  show _=_
  unfold BN
  cases h:s&&&AW s <;> rfl
 generalize AW s=o at *
 go_enter Tryz.func64,Tryz.ntmps64
 go_wp2_with fail
 refine(AE h).mono ?_
 rintro e w' ⟨rfl,hw⟩
 obtain rfl:=hw.symm
 go_wp2
 go_ret
 exact⟨by rw[hb.out,← ha.out];rfl,rfl⟩
def An(s:Nat):Nat:=(s|||AW s)&&&349525
theorem Ec(s:Nat):An s<1048576:=by
 have:=@Nat.and_le_right (s|||AW s) 349525
 unfold An
 omega
set_option maxHeartbeats 400000 in
theorem LQ(s:Nat)(hs:s<1048576)(w:World):Calls Tryz.prog 35 #[.int .i64 s] w fun e w'=>e=.returned (.int .i64 (An s:Nat))∧w'=w:=by
 have h:=AB (FA s hs w)
 have hl:=C6 s
 have ha:Hid (bits .and .i64 (bits .or .i64 (s:Int) ((AW s:Nat):Int)) 349525=((An s:Nat):Int)):=by
  show _=_
  rw[IU s (AW s) (by omega) (by omega)]
  exact EX (s|||AW s) 349525 (Nat.lt_of_lt_of_le (Nat.or_lt_two_pow (n:=20) hs hl) (by decide)) (by decide)
 generalize AW s=o at *
 go_enter Tryz.func35,Tryz.ntmps35
 go_wp2_with fail
 refine(AE h).mono ?_
 rintro e w' ⟨rfl,hw⟩
 obtain rfl:=hw.symm
 go_wp2
 go_ret
 exact⟨CJ ha.out,rfl⟩
def DF(s:Nat):Nat→Nat
 | 0=>0
 | k+1=>DF s k+s / 2^k % 2
theorem Jk(s k:Nat):DF s k≤k:=by
 induction k with
 | zero=>exact Nat.le_refl _
 | succ k ih=>simp only[DF];omega
theorem ZY(s k:Nat)(hs:s<1048576)(hk:k<20):wrap64 (((DF s k:Nat):Int)+bits .and .i64 ((s:Int) / 2^k) 1)=((DF s (k+1):Nat):Int):=by
 have h1:((s:Int) / 2^k)=((s / 2^k:Nat):Int):=by rw[Int.natCast_ediv,Int.natCast_pow];rfl
 have h2:s / 2^k≤s:=Nat.div_le_self _ _
 have h3:bits .and .i64 ((s / 2^k:Nat):Int) 1=((s / 2^k&&&1:Nat):Int):=EX (s / 2^k) 1 (by omega) (by decide)
 have h4:=Jk s k
 rw[h1,h3,Nat.and_one_is_mod]
 simp only[DF]
 unfold wrap64
 omega
def AG(s:Nat):Nat:=DF s 20
set_option maxHeartbeats 1000000 in
theorem Fu(s:Nat)(hs:s<1048576)(w:World):Calls Tryz.prog 34 #[.int .i64 s] w fun e w'=>e=.returned (.int .i64 (AG s:Nat))∧w'=w:=by
 go_enter Tryz.func34,Tryz.ntmps34
 go_wp2
 go_loop [3,4] (fun n i=>∃ k:Nat,k≤20∧i=.int .i64 k∧n=.int .i64 (DF s k:Nat)) (fun _ i=>20 - (intOf i).toNat)
 case atStart=>exact⟨0,by omega,rfl,rfl⟩
 case round =>
  obtain⟨k,hk,rfl,rfl⟩:=hrel
  have hle:=Jk s k
  by_cases hlt:k<20
  ·have HI:Hid (wrap64 (((DF s k:Nat):Int)+bits .and .i64 ((s:Int) / 2^k) 1)=((DF s (k+1):Nat):Int)):=ZY s k hs hlt
   go_wp2
   go_round
   case rel=>exact⟨k+1,by omega,by go_num,congrArg (Value.int .i64) HI.out⟩
   case measure=>simp[intOf];omega
  ·obtain rfl:k=20:=by omega
   go_wp2
   go_ret
   exact⟨rfl,rfl⟩
theorem Cw(s:Nat):AG s≤20:=Jk s 20
inductive Tk where
 | lit
 | taut
 | full
 | takes
def Aw(xs:List Int)(lits:Nat):Tk:=if xs.all AT then (if BN (Ah xs) then .taut else if 150<lits+AG (Ah xs) then .full else .takes) else .lit
def Tk.ret(k:Tk)(xs:List Int):Value:=match k with
 | .lit=>.tuple #[.int .i64 0,.bool false,.int .i64 4]
 | .taut=>.tuple #[.int .i64 0,.bool false,.int .i64 0]
 | .full=>.tuple #[.int .i64 0,.bool false,.int .i64 5]
 | .takes=>.tuple #[.int .i64 (Ah xs:Nat),.bool true,.int .i64 0]
set_option maxHeartbeats 1000000 in
theorem Ll(a:Option Addr)(c:Nat)(xs:List Int)(lits:Nat)(w:World)(hx:xs.length≤9223372036854775807)(hl:lits≤1000)(hr:AS w a xs) :
  Calls Tryz.prog 32 #[.slice a xs.length c,.int .i64 lits] w fun e w'=>e=.returned ((Aw xs lits).ret xs)∧w'=w:=by
 have HS:=AB (FH a c xs w hx hr)
 cases hall:xs.all AT with
 | false =>
  have hk:Hid (Aw xs lits=.lit):=by show _=_;simp[Aw,hall]
  rw[hall] at HS
  clear hr hall
  go_enter Tryz.func32,Tryz.ntmps32
  go_wp2_with fail
  refine(AE HS).mono ?_
  rintro e w' ⟨rfl,hw⟩
  obtain rfl:=hw.symm
  go_wp2
  go_ret3
  exact⟨by rw[hk.out];rfl,rfl⟩
 | true =>
  have hsl:=Pq xs hall
  have hso:AJ xs=Ah xs:=by simp[AJ,hall]
  rw[hall,hso] at HS
  have hkk:Aw xs lits=(if BN (Ah xs) then .taut else if 150<lits+AG (Ah xs) then .full else .takes):=by simp[Aw,hall]
  have HR:∀ k:Tk,Hid (k.ret xs=match k with
   | .lit=>.tuple #[.int .i64 0,.bool false,.int .i64 4]
   | .taut=>.tuple #[.int .i64 0,.bool false,.int .i64 0]
   | .full=>.tuple #[.int .i64 0,.bool false,.int .i64 5]
   | .takes=>.tuple #[.int .i64 (Ah xs:Nat),.bool true,.int .i64 0]):=fun k=>rfl
  generalize Ah xs=s at *
  have HT:=AB (Ng s hsl w)
  have HZ:=AB (Fu s hsl w)
  have hz:=Cw s
  clear hr hall hso
  cases ht:BN s with
  | true =>
   have hk:Hid (Aw xs lits=.taut):=by show _=_;rw[hkk,ht];rfl
   rw[ht] at HT
   clear hkk ht
   go_enter Tryz.func32,Tryz.ntmps32
   go_wp2_with (first
    | (go_at_call 43;refine(AE HS).mono ?_;rintro e w' ⟨rfl,hw⟩;obtain rfl:=hw.symm)
    | (go_at_call 64;refine(AE HT).mono ?_;rintro e w' ⟨rfl,hw⟩;obtain rfl:=hw.symm))
   go_ret3
   exact⟨by rw[hk.out];rfl,rfl⟩
  | false =>
   rw[ht] at HT
   by_cases hf:150<lits+AG s
   ·have hk:Hid (Aw xs lits=.full):=by show _=_;rw[hkk,ht,if_pos hf];rfl
    clear hkk ht
    generalize AG s=z at *
    have hfi:((lits:Int)+z > 150):=by omega
    go_enter Tryz.func32,Tryz.ntmps32
    go_wp2_with (first
     | (go_at_call 43;refine(AE HS).mono ?_;rintro e w' ⟨rfl,hw⟩;obtain rfl:=hw.symm)
     | (go_at_call 64;refine(AE HT).mono ?_;rintro e w' ⟨rfl,hw⟩;obtain rfl:=hw.symm)
     | (go_at_call 34;refine(AE HZ).mono ?_;rintro e w' ⟨rfl,hw⟩;obtain rfl:=hw.symm))
    go_ret3
    exact⟨by rw[hk.out];rfl,rfl⟩
   ·have hk:Hid (Aw xs lits=.takes):=by show _=_;rw[hkk,ht,if_neg hf];rfl
    clear hkk ht
    generalize AG s=z at *
    have hfi:((lits:Int)+z≤150):=by omega
    go_enter Tryz.func32,Tryz.ntmps32
    go_wp2_with (first
     | (go_at_call 43;refine(AE HS).mono ?_;rintro e w' ⟨rfl,hw⟩;obtain rfl:=hw.symm)
     | (go_at_call 64;refine(AE HT).mono ?_;rintro e w' ⟨rfl,hw⟩;obtain rfl:=hw.symm)
     | (go_at_call 34;refine(AE HZ).mono ?_;rintro e w' ⟨rfl,hw⟩;obtain rfl:=hw.symm))
    go_ret3
    exact⟨by rw[hk.out,(HR .takes).out];rfl,rfl⟩
def BT(r h l:Int):Bool:=(r == 0 || decide (12≤r) && decide (r≤64)) && decide (0≤h) && decide (h≤1048576) && decide (0≤l) && decide (l≤1048576)
set_option maxHeartbeats 1000000 in
theorem LC(r h l:Int)(w:World):Calls Tryz.prog 50 #[.int .i64 r,.int .i64 h,.int .i64 l] w fun e w'=>e=.returned (.bool (BT r h l))∧w'=w:=by
 go_enter Tryz.func50,Tryz.ntmps50
 go_wp2
 all_goals
  go_ret
  refine⟨?_,rfl⟩
  show Ending.returned (Value.bool _)=Ending.returned (Value.bool _)
  congr 2
  rw[Bool.eq_iff_iff]
  simp only[BT,Bool.and_eq_true,Bool.or_eq_true,decide_eq_true_eq,beq_iff_eq,Bool.false_eq_true,false_iff]
  omega
def Iu(t:Nat):Nat→Nat
 | 0=>0
 | k+1=>Iu t k+(t.testBit (k+1)).toNat
def Da(t:Nat):Nat:=Iu t 10
structure CT(s t f:Nat):Prop where
 pos:∀ v,v<10→s.testBit (2*v)=t.testBit (v+1)
 neg:∀ v,v<10→s.testBit (2*v+1)=f.testBit (v+1)
 top:s<2^20
 zt:t.testBit 0=false
 zf:f.testBit 0=false
 lt:t<2^11
 lf:f<2^11
theorem CT.zero:CT 0 0 0:=⟨by simp,by simp,by decide,by simp,by simp,by decide,by decide⟩
theorem CT.or{s t f s' t' f':Nat}(h:CT s t f)(h':CT s' t' f'):CT (s|||s') (t|||t') (f|||f') :=
 ⟨fun v hv=>by rw[Nat.testBit_or,Nat.testBit_or,h.pos v hv,h'.pos v hv],fun v hv=>by rw[Nat.testBit_or,Nat.testBit_or,h.neg v hv,h'.neg v hv],Nat.or_lt_two_pow h.top h'.top,
  by rw[Nat.testBit_or,h.zt,h'.zt];rfl,by rw[Nat.testBit_or,h.zf,h'.zf];rfl,Nat.or_lt_two_pow h.lt h'.lt,Nat.or_lt_two_pow h.lf h'.lf⟩
def Dx(l:Int):Nat:=if 0<l then 2^l.toNat else 0
def Dw(l:Int):Nat:=if 0<l then 0 else 2^(-l).toNat
theorem CT.bit{l:Int}(h:AT l=true):CT (DN l) (Dx l) (Dw l):=by
 have key:∀ l:Int,AT l=true→(∀ v,v<10→(DN l).testBit (2*v)=(Dx l).testBit (v+1))∧(∀ v,v<10→(DN l).testBit (2*v+1)=(Dw l).testBit (v+1))∧(Dx l).testBit 0=false∧(Dw l).testBit 0=false∧Dx l<2^11∧Dw l<2^11:=by
  intro l h
  rcases GQ h with rfl|rfl|rfl|rfl|rfl|rfl|rfl|rfl|rfl|rfl|rfl|rfl|rfl|rfl|rfl|rfl|rfl|rfl|rfl|rfl <;> decide
 obtain⟨h1,h2,h3,h4,h5,h6⟩:=key l h
 exact⟨h1,h2,PI h,h3,h4,h5,h6⟩
def Al(xs:List Int):Nat:=xs.foldl (fun a l=>a|||Dx l) 0
def Ak(xs:List Int):Nat:=xs.foldl (fun a l=>a|||Dw l) 0
theorem Wr(xs:List Int)(x:Int):Al (xs++[x])=Al xs|||Dx x:=by simp[Al]
theorem Wg(xs:List Int)(x:Int):Ak (xs++[x])=Ak xs|||Dw x:=by simp[Ak]
theorem CT.set(xs:List Int)(h:xs.all AT=true):CT (Ah xs) (Al xs) (Ak xs):=by
 have key:∀ (ys:List Int) (a b c:Nat),ys.all AT=true→CT a b c→CT (ys.foldl (fun a l=>a|||DN l) a) (ys.foldl (fun a l=>a|||Dx l) b) (ys.foldl (fun a l=>a|||Dw l) c):=by
  intro ys
  induction ys with
  | nil=>intro a b c _ h;exact h
  | cons y ys ih =>
   intro a b c hy ha
   simp only[List.all_cons,Bool.and_eq_true] at hy
   exact ih _ _ _ hy.2 (ha.or (CT.bit hy.1))
 exact key xs 0 0 0 h CT.zero
theorem Kc(s k:Nat):s / 2^k % 2=(s.testBit k).toNat:=(Nat.toNat_testBit s k).symm
theorem CT.size{s t f:Nat}(h:CT s t f):AG s=Da t+Da f:=by
 have p:=h.pos
 have n:=h.neg
 simp only[AG,DF,Da,Iu,Kc]
 have p0:=p 0 (by omega);have p1:=p 1 (by omega);have p2:=p 2 (by omega);have p3:=p 3 (by omega);have p4:=p 4 (by omega)
 have p5:=p 5 (by omega);have p6:=p 6 (by omega);have p7:=p 7 (by omega);have p8:=p 8 (by omega);have p9:=p 9 (by omega)
 have n0:=n 0 (by omega);have n1:=n 1 (by omega);have n2:=n 2 (by omega);have n3:=n 3 (by omega);have n4:=n 4 (by omega)
 have n5:=n 5 (by omega);have n6:=n 6 (by omega);have n7:=n 7 (by omega);have n8:=n 8 (by omega);have n9:=n 9 (by omega)
 simp only[Nat.mul_zero,Nat.zero_add,Nat.reduceMul,Nat.reduceAdd] at *
 rw[p0,p1,p2,p3,p4,p5,p6,p7,p8,p9,n0,n1,n2,n3,n4,n5,n6,n7,n8,n9]
 omega
theorem Ph(s j:Nat):(AW s).testBit j=((decide (1≤j) && (s.testBit (j - 1) && Nat.testBit 349525 (j - 1))) || (s.testBit (j+1) && Nat.testBit 349525 j)):=by
 have e:(s&&&349525)*2=(s&&&349525) <<< 1:=by rw[Nat.shiftLeft_eq]
 unfold AW
 rw[e,Nat.testBit_or,Nat.testBit_shiftLeft,Nat.testBit_and,Nat.testBit_and,Nat.testBit_div_two]
theorem Jf:∀ v,v<10→Nat.testBit 349525 (2*v)=true:=by decide
theorem NC:∀ v,v<10→Nat.testBit 349525 (2*v+1)=false:=by decide
theorem Yk:∀ v,v<10→1≤2*v→Nat.testBit 349525 (2*v - 1)=false:=by decide
theorem GH(s v:Nat)(hv:v<10):(AW s).testBit (2*v)=s.testBit (2*v+1):=by
 rw[Ph,Jf v hv]
 by_cases h:1≤2*v
 ·rw[Yk v hv h];simp
 ·simp;omega
theorem G9(s v:Nat)(hv:v<10):(AW s).testBit (2*v+1)=s.testBit (2*v):=by
 rw[Ph,NC v hv]
 have:2*v+1 - 1=2*v:=by omega
 rw[this,Jf v hv]
 simp
theorem CT.opp{s t f:Nat}(h:CT s t f):CT (AW s) f t :=
 ⟨fun v hv=>by rw[GH s v hv,h.neg v hv],fun v hv=>by rw[G9 s v hv,h.pos v hv],C6 s,h.zf,h.zt,h.lf,h.lt⟩
theorem IQ{t:Nat}(ht:t<2^11)(hz:t.testBit 0=false)(h:∀ v,v<10→t.testBit (v+1)=false):t=0:=by
 apply Nat.eq_of_testBit_eq
 intro i
 rw[Nat.zero_testBit]
 by_cases h0:i=0
 ·subst h0;exact hz
 ·by_cases h1:i<11
  ·have:=h (i - 1) (by omega)
   rwa [show i - 1+1=i by omega] at this
  ·exact Nat.testBit_lt_two_pow (Nat.lt_of_lt_of_le ht (Nat.pow_le_pow_right (by decide) (by omega)))
theorem Ic{s:Nat}(hs:s<2^20)(h1:∀ v,v<10→s.testBit (2*v)=false)(h2:∀ v,v<10→s.testBit (2*v+1)=false):s=0:=by
 apply Nat.eq_of_testBit_eq
 intro i
 rw[Nat.zero_testBit]
 by_cases hi:i<20
 ·rcases Nat.mod_two_eq_zero_or_one i with hm | hm
  ·have:=h1 (i / 2) (by omega)
   rwa [show 2*(i / 2)=i by omega] at this
  ·have:=h2 (i / 2) (by omega)
   rwa [show 2*(i / 2)+1=i by omega] at this
 ·exact Nat.testBit_lt_two_pow (Nat.lt_of_lt_of_le hs (Nat.pow_le_pow_right (by decide) (by omega)))
theorem CT.twin{s t f:Nat}(h:CT s t f):BN s=(t&&&f != 0):=by
 have ho:=h.opp
 have e:(s&&&AW s=0)↔(t&&&f=0):=by
  constructor
  ·intro hz
   refine IQ (Nat.and_lt_two_pow _ h.lf) (by rw[Nat.testBit_and,h.zt];rfl) (fun v hv=>?_)
   have:=congrArg (fun n=>n.testBit (2*v)) hz
   simp only[Nat.testBit_and,Nat.zero_testBit,h.pos v hv,ho.pos v hv] at this
   rw[Nat.testBit_and]
   exact this
  ·intro hz
   have hb:∀ v,v<10→(t.testBit (v+1) && f.testBit (v+1))=false:=fun v _=>by
    have:=congrArg (fun n=>n.testBit (v+1)) hz
    simpa only [Nat.testBit_and,Nat.zero_testBit] using this
   refine Ic (Nat.and_lt_two_pow _ ho.top) (fun v hv=>?_) (fun v hv=>?_)
   ·rw[Nat.testBit_and,h.pos v hv,ho.pos v hv];exact hb v hv
   ·rw[Nat.testBit_and,h.neg v hv,ho.neg v hv,Bool.and_comm];exact hb v hv
 unfold BN
 rw[Bool.eq_iff_iff]
 simp only[bne_iff_ne,ne_eq,e]
theorem CT.vars{s t f:Nat}(h:CT s t f):CT (An s) (t|||f) 0:=by
 have ho:=h.opp
 refine⟨fun v hv=>?_,fun v hv=>?_,Ec s,?_,by simp,Nat.or_lt_two_pow h.lt h.lf,by decide⟩
 ·unfold An
  rw[Nat.testBit_and,Nat.testBit_or,Jf v hv,h.pos v hv,ho.pos v hv,Nat.testBit_or,Bool.and_true]
 ·unfold An
  rw[Nat.testBit_and,NC v hv,Bool.and_false,Nat.zero_testBit]
 ·rw[Nat.testBit_or,h.zt,h.zf];rfl
theorem QZ:Da 0=0:=by decide
set_option maxHeartbeats 1000000 in
theorem Mt(v:Nat)(h1:1≤v)(h2:v≤10)(w:World):Calls Tryz.prog 95 #[.int .i64 v] w fun e w'=>e=.returned (.int .i64 (2^v:Nat))∧w'=w:=by
 have hv:v=1∨v=2∨v=3∨v=4∨v=5∨v=6∨v=7∨v=8∨v=9∨v=10:=by omega
 clear h1 h2
 rcases hv with rfl|rfl|rfl|rfl|rfl|rfl|rfl|rfl|rfl|rfl
 all_goals
  go_enter Tryz.func95,Tryz.ntmps95
  go_wp2
  go_ret
  exact⟨rfl,rfl⟩
theorem MI(t j:Nat):t&&&2^j=(t.testBit j).toNat*2^j:=by
 apply Nat.eq_of_testBit_eq
 intro i
 rw[Nat.testBit_and,Nat.testBit_two_pow]
 cases h:t.testBit j with
 | true =>
  rw[Bool.toNat_true,Nat.one_mul,Nat.testBit_two_pow]
  by_cases e:j=i
  ·subst e;simp[h]
  ·simp[e]
 | false =>
  rw[Bool.toNat_false,Nat.zero_mul,Nat.zero_testBit]
  by_cases e:j=i
  ·subst e;simp[h]
  ·simp[e]
theorem Us(t k:Nat):Iu t k≤k:=by
 induction k with
 | zero=>exact Nat.le_refl _
 | succ k ih=>simp only[Iu];have:=Bool.toNat_le (t.testBit (k+1));omega
theorem Hj(t:Nat):Da t≤10:=Us t 10
set_option maxHeartbeats 1000000 in
theorem Ju(t:Nat)(ht:t<2^11)(w:World):Calls Tryz.prog 66 #[.int .i64 t] w fun e w'=>e=.returned (.int .i64 (Da t:Nat))∧w'=w:=by
 go_enter Tryz.func66,Tryz.ntmps66
 go_wp2
 go_loop [3,4] (fun n v=>∃ k:Nat,k≤10∧v=.int .i64 ((k:Int)+1)∧n=.int .i64 (Iu t k:Nat)) (fun _ v=>11 - (intOf v).toNat)
 case atStart=>exact⟨0,by omega,rfl,rfl⟩
 case round =>
  obtain⟨k,hk,rfl,rfl⟩:=hrel
  have hle:=Us t k
  by_cases hlt:k<10
  ·have hb:=Mt (k+1) (by omega) (by omega) w
   have hp:2^(k+1)≤2^10:=Nat.pow_le_pow_right (by decide) (by omega)
   have hp0:0<2^(k+1):=Nat.pow_pos (by decide)
   have ha:=EX t (2^(k+1)) (by omega) (by omega)
   rw[MI] at ha
   have HC:Hid (Iu t (k+1)=Iu t k+(t.testBit (k+1)).toNat):=rfl
   have hkc:((k+1:Nat):Int)=(k:Int)+1:=by omega
   rw[hkc] at hb
   clear hkc
   generalize 2^(k+1)=p at *
   have HB:=AB hb
   clear hb
   cases hbit:t.testBit (k+1) with
   | true =>
    rw[hbit] at ha HC
    simp only[Bool.toNat_true,Nat.one_mul] at ha
    have hpn:(((p:Int) != 0)=true):=by simp;omega
    clear hbit
    go_wp2_with (go_at_call 95;refine(AE HB).mono ?_;rintro e w' ⟨rfl,hw⟩;obtain rfl:=hw.symm)
    go_round
    case rel=>exact⟨k+1,by omega,by go_num,by rw[HC.out];rfl⟩
    case measure=>simp[intOf];omega
   | false =>
    rw[hbit] at ha HC
    simp only[Bool.toNat_false,Nat.zero_mul] at ha
    clear hbit
    go_wp2_with (go_at_call 95;refine(AE HB).mono ?_;rintro e w' ⟨rfl,hw⟩;obtain rfl:=hw.symm)
    go_round
    case rel=>exact⟨k+1,by omega,by go_num,by rw[HC.out];rfl⟩
    case measure=>simp[intOf];omega
  ·obtain rfl:k=10:=by omega
   go_wp2
   go_ret
   exact⟨rfl,rfl⟩
set_option maxHeartbeats 400000 in
theorem EA(t f:Nat)(ht:t<2^11)(hf:f<2^11)(w:World):Calls Tryz.prog 60 #[.agg #[.int .i64 t,.int .i64 f]] w fun e w'=>e=.returned (.bool (t&&&f != 0))∧Below w.heap.size w w':=by
 have ha:=EX t f (by omega) (by omega)
 have hb:Hid ((((t&&&f:Nat):Int) != 0)=(t&&&f != 0)):=by
  show _=_
  cases h:t&&&f <;> rfl
 have HN:Hid (∀ x,Below w.heap.size w (w.alloc x)):=fun x=>(Below.refl _ _).alloc (Nat.le_refl _) _
 generalize t&&&f=z at *
 go_enter Tryz.func60,Tryz.ntmps60
 go_wp2
 go_ret
 exact⟨by rw[← hb.out];rfl,HN.out _⟩
set_option maxHeartbeats 400000 in
theorem Hv(t f:Nat)(ht:t<2^11)(hf:f<2^11)(w:World):Calls Tryz.prog 63 #[.agg #[.int .i64 t,.int .i64 f]] w fun e w'=>e=.returned (.int .i64 (t|||f:Nat))∧Below w.heap.size w w':=by
 have ha:=AB (IU t f (by omega) (by omega))
 have HN:Hid (∀ x,Below w.heap.size w (w.alloc x)):=fun x=>(Below.refl _ _).alloc (Nat.le_refl _) _
 go_enter Tryz.func63,Tryz.ntmps63
 go_wp2
 go_ret
 exact⟨CJ ha.out,HN.out _⟩
set_option maxHeartbeats 1000000 in
theorem Eo(t f:Nat)(ht:t<2^11)(hf:f<2^11)(w:World):Calls Tryz.prog 61 #[.agg #[.int .i64 t,.int .i64 f]] w fun e w'=>e=.returned (.int .i64 (Da t+Da f:Nat))∧Below w.heap.size w w':=by
 have h1:=Hj t
 have h2:=Hj f
 have HN:Hid (∀ x n,Below w.heap.size w ((w.alloc x).drewN n)):=fun x n=>below_drewN ((Below.refl _ _).alloc (Nat.le_refl _) _) n
 go_enter Tryz.func61,Tryz.ntmps61
 go_wp2
 go_quiet ((go_at_call 66;exact Calls.quiet_of_same (Ju _ (by assumption) _)))
 go_wp2
 go_ret
 exact⟨CJ (by go_num),HN.out _ _⟩
theorem aM(t:List UInt8)(x:Int):(⟨t.toArray⟩:ByteArray)++⟨(Lib.itoa x).toArray⟩++⟨#[32]⟩=⟨(t++DJ x).toArray⟩:=by
 rw[Gc]
 have:=Gc (t++Lib.itoa x) [32]
 rw[List.append_assoc] at this
 exact this
theorem Lk{a b:Int}(s:List UInt8)(h:s=[])(h':a=b):Ending.returned (.tuple #[.string ⟨#[]⟩,.int .i64 a])=.returned (.tuple #[.string ⟨s.toArray⟩,.int .i64 b]):=by rw[h,h']
set_option maxHeartbeats 2000000 in
theorem Ui(a:Option Addr)(c:Nat)(A:Nat→Option Addr)(C:Nat→Nat)(xss:List (List Int))(w:World)(hbd:xss.length≤9223372036854775807)(hr:CC w a A C xss) :
  Calls Tryz.prog 56 #[.slice a xss.length c] w fun e w'=>e=.returned (.tuple #[.string ⟨(QE xss).toArray⟩,.int .i64 (XT xss)])∧Below w.heap.size w w':=by
 go_enter Tryz.func56,Tryz.ntmps56
 go_wp2
 go_loop [4] (fun i=>∃ k:Nat,k≤xss.length∧i=.int .i64 k∧Hid (Fz xss=Fz (xss.drop k))) (fun i=>xss.length - (intOf i).toNat)
 case atStart=>exact⟨0,Nat.zero_le _,rfl,rfl⟩
 case round =>
  obtain⟨k,hk,rfl,hl⟩:=hrel
  by_cases hlt:k<xss.length
  ·obtain⟨b,off,rfl,hc⟩:=hr.get (by omega)
   obtain⟨h1,h2,hbi⟩:=hc k hlt
   have HD:Hid (Fz (xss.drop k)=((xss.getD k []).all AT && Fz (xss.drop (k+1)))):=by
    show _=_
    rw[Cc xss [] k hlt];rfl
   clear hc hr
   generalize xss.getD k []=xs at h1 h2 HD hbi
   have hcs:=FH (A k) (C k) xs w hbi h2
   cases hx:xs.all AT
   ·rw[hx] at hcs
    have HF:Hid (Fz xss=false):=by show _=_;rw[hl.out,HD.out,hx];rfl
    have HCS:=AB hcs
    clear hcs hx
    go_wp2_with (go_at_call 43;refine(AE HCS).mono ?_;rintro e w' ⟨rfl,hw⟩;obtain rfl:=hw.symm)
    go_ret2
    exact⟨Lk _ (by simp[QE,HF.out]) (by simp[XT,HF.out]),Below.refl _ _⟩
   ·rw[hx] at hcs
    have HX:=AB hx
    have HCS:=AB hcs
    clear hcs hx
    go_wp2_with (go_at_call 43;refine(AE HCS).mono ?_;rintro e w' ⟨rfl,hw⟩;obtain rfl:=hw.symm)
    go_round
    case rel=>exact⟨k+1,by omega,by go_num,by show _=_;rw[hl.out,HD.out,HX.out];rfl⟩
    case measure=>simp[intOf];omega
  ·have H0:Hid (Fz xss=true):=by show _=_;rw[hl.out,List.drop_eq_nil_of_le (by omega)];rfl
   have HL:Hid (∀ k,k<xss.length→(xss.getD k []).all AT=true):=by
    intro k hk
    exact List.all_eq_true.1 H0.out (xss.getD k []) (by rw[List.getD_eq_getElem?_getD,List.getElem?_eq_getElem hk];exact List.getElem_mem hk)
   clear hl
   go_wp2
   clear hlt hk
   go_loopw [7,8] (fun s i wr=>∃ (k:Nat) (t:List UInt8),k≤xss.length∧i=.int .i64 k∧s=.string ⟨t.toArray⟩∧Below w.heap.size w wr∧t.length≤1000∧Hid (t=DE (xss.take k))) (fun _ i _=>xss.length - (intOf i).toNat)
   case atStart=>exact⟨0,[],Nat.zero_le _,rfl,rfl,Below.refl _ _,by simp,rfl⟩
   case round =>
    obtain⟨k,t,hk,rfl,rfl,hbel,hlen,heq⟩:=hrel
    by_cases hlt:k<xss.length
    ·obtain⟨b,off,rfl,hc⟩:=hr.get (by omega)
     obtain⟨p1,q1,s1⟩:=hc k hlt
     have p2:Hid (∀ wz,Below w.heap.size w wz→wz.cell? ⟨b,off+k,none⟩=some (.slice (A k) (xss.getD k []).length (C k))):=fun wz hb=>(hb.cell (p:=⟨b,off+k,none⟩) (World.block_lt_of_cell? w _ p1)).trans p1
     have hlx:Hid ((xss.getD k []).all AT=true):=HL.out k hlt
     have HS:Hid (DE (xss.take (k+1))=DE (xss.take k)++EK (xss.getD k [])):=Nb xss k hlt
     have HT:Hid ((DE (xss.take (k+1))).length≤(DE xss).length):=SO xss (k+1)
     clear hc p1 hr
     generalize xss.getD k []=xs at p2 q1 s1 hlx HS
     generalize A k=ak at p2 q1
     generalize C k=ck at p2
     go_wp2
     go_loopw [7,9] (fun s i wz=>∃ (j:Nat) (t':List UInt8),j≤xs.length∧i=.int .i64 j∧s=.string ⟨t'.toArray⟩∧Below w.heap.size w wz∧t'.length≤1000∧Hid (t'=t++A6 (xs.take j))) (fun _ i _=>xs.length - (intOf i).toNat)
     case atStart=>exact⟨0,t,Nat.zero_le _,rfl,rfl,hbel,hlen,by show _=_;simp[A6]⟩
     case round =>
      clear hbel hlen
      obtain⟨j,t',hj,rfl,rfl,hbel,hlen,heq'⟩:=hrel
      have p3:=p2.out wr hbel
      by_cases hjl:j<xs.length
      ·obtain⟨b2,off2,rfl,hc2⟩:=(q1.below hbel).get (by omega)
       have r2:=hc2 j hjl
       have hx:AT (xs.getD j 0)=true:=List.all_eq_true.1 hlx.out (xs.getD j 0) (by rw[List.getD_eq_getElem?_getD,List.getElem?_eq_getElem hjl];exact List.getElem_mem hjl)
       have HS2:Hid (A6 (xs.take (j+1))=A6 (xs.take j)++DJ (xs.getD j 0)):=KC xs j hjl
       have HT2:Hid ((A6 (xs.take (j+1))).length≤(A6 xs).length):=Q7 xs (j+1)
       clear hc2
       generalize xs.getD j 0=x at r2 hx HS2
       have HX:=AB hx
       have hil:=EB hx
       have HA:=AB (aM t' x)
       have hl2:(t'++DJ x).length=t'.length+(Lib.itoa x).length+1:=by simp[DJ];omega
       have HL2:=AB hl2
       clear hx hl2
       go_wp2_with (go_at_call 90;refine(TQ _ HX.out _).mono ?_;rintro e w1 ⟨rfl,hg1⟩)
       ·have hgt:1000<(t'++DJ x).length:=by have:=HL2.out;omega
        have hlong:1000<(DE xss).length:=by
         have a1:=HS.out;have a2:=HT.out;have a3:=heq.out;have a4:=heq'.out;have a5:=HS2.out;have a6:=HT2.out
         rw[a4,List.append_assoc,← a5,List.length_append,a3] at hgt
         rw[a1] at a2
         simp only[EK,List.length_append] at a2
         omega
        go_ret2
        exact⟨Lk _ (by simp[QE,H0.out,hlong]) (by simp[XT,H0.out,hlong]),hbel.grown hg1 hbel.size (by simp)⟩
       ·have hle:(t'++DJ x).length≤1000:=by have:=HL2.out;omega
        go_roundw
        case rel=>exact⟨j+1,t'++DJ x,by omega,by go_num,congrArg Value.string HA.out,hbel.grown hg1 hbel.size (by simp),hle,by show _=_;rw[heq'.out,HS2.out,List.append_assoc]⟩
        case measure=>simp[intOf];omega
      ·have HF:Hid (A6 (xs.take j)=A6 xs):=by show _=_;rw[List.take_of_length_le (by omega)]
       have HA:Hid ((⟨t'.toArray⟩:ByteArray)++⟨#[48,10]⟩=⟨(t'++[48,10]).toArray⟩):=Gc t' [48,10]
       have HT':Hid (t'++[48,10]=DE (xss.take (k+1))):=by show _=_;rw[heq'.out,HF.out,HS.out,heq.out,EK,List.append_assoc]
       have HL2:Hid ((t'++[48,10]).length=t'.length+2):=by show _=_;simp
       go_wp2
       ·have hgt:1000<(t'++[48,10]).length:=by have:=HL2.out;omega
        have hlong:1000<(DE xss).length:=by rw[HT'.out] at hgt;have:=HT.out;omega
        go_ret2
        exact⟨Lk _ (by simp[QE,H0.out,hlong]) (by simp[XT,H0.out,hlong]),hbel⟩
       ·have hle:(t'++[48,10]).length≤1000:=by have:=HL2.out;omega
        go_roundw
        case rel=>exact⟨k+1,t'++[48,10],by omega,by go_num,congrArg Value.string HA.out,hbel,hle,HT'⟩
        case measure=>simp[intOf];omega
    ·have HF:Hid (t=DE xss):=by show _=_;rw[heq.out,List.take_of_length_le (by omega)]
     go_wp2
     go_ret2
     have hs:¬ 1000<(DE xss).length:=by rw[← HF.out];omega
     exact⟨LB (by rw[HF.out];simp[QE,H0.out,hs]) (by simp[XT,H0.out,hs]),hbel⟩
end Go.Proofs.YthboeppmlhbofaaGreatDoor
