import Derived.Test.YthboeppmlhbofaaDoorRdr
import Derived.Laws.ResultCell
import Derived.Laws.Rows
namespace Go.Proofs.YthboeppmlhbofaaDoor
open Go.RowKit Txt
set_option maxRecDepth 100000
def AS(s:Nat):Nat:=((s&&&349525)*2)|||((s / 2)&&&349525)
theorem Cl(s:Nat):AS s<1048576:=by
 have h1:(s&&&349525)*2<1048576:=by have:=@Nat.and_le_right s 349525;omega
 have h2:(s / 2)&&&349525<1048576:=by have:=@Nat.and_le_right (s / 2) 349525;omega
 exact Nat.or_lt_two_pow (n:=20) h1 h2
theorem Yz(s:Nat)(hs:s<1048576):bits .or .i64 (wrap64 (bits .and .i64 (s:Int) 349525*2)) (bits .and .i64 ((s:Int) / 2) 349525)=((AS s:Nat):Int):=by
 have e1:bits .and .i64 (s:Int) 349525=((s&&&349525:Nat):Int):=Eb s 349525 (by omega) (by decide)
 have e2:bits .and .i64 ((s:Int) / 2) 349525=((s / 2&&&349525:Nat):Int):=Eb (s / 2) 349525 (by omega) (by decide)
 have h1:=@Nat.and_le_right s 349525
 have h2:=@Nat.and_le_right (s / 2) 349525
 rw[e1,e2]
 have e3:wrap64 (((s&&&349525:Nat):Int)*2)=(((s&&&349525)*2:Nat):Int):=by
  unfold wrap64
  omega
 rw[e3]
 exact Kn _ _ (by omega) (by omega)
def A4(s:Nat):Bool:=s&&&AS s != 0
def Ag(s:Nat):Nat:=(s|||AS s)&&&349525
theorem GJ(s:Nat):Ag s<1048576:=by
 have:=@Nat.and_le_right (s|||AS s) 349525
 unfold Ag
 omega
def Bq(s:Nat):Nat→Nat
 | 0=>0
 | k+1=>Bq s k+s / 2^k % 2
theorem JS(s k:Nat):Bq s k≤k:=by
 induction k with
 | zero=>exact Nat.le_refl _
 | succ k ih=>simp only[Bq];omega
theorem YZ(s k:Nat)(hs:s<1048576)(hk:k<20):wrap64 (((Bq s k:Nat):Int)+bits .and .i64 ((s:Int) / 2^k) 1)=((Bq s (k+1):Nat):Int):=by
 have h1:((s:Int) / 2^k)=((s / 2^k:Nat):Int):=by rw[Int.natCast_ediv,Int.natCast_pow];rfl
 have h2:s / 2^k≤s:=Nat.div_le_self _ _
 have h3:bits .and .i64 ((s / 2^k:Nat):Int) 1=((s / 2^k&&&1:Nat):Int):=Eb (s / 2^k) 1 (by omega) (by decide)
 have h4:=JS s k
 rw[h1,h3,Nat.and_one_is_mod]
 simp only[Bq]
 unfold wrap64
 omega
def AG(s:Nat):Nat:=Bq s 20
theorem C7(s:Nat):AG s≤20:=JS s 20
inductive Tk where
 | lit
 | taut
 | full
 | takes
def An(xs:List Int)(lits:Nat):Tk:=if xs.all AK then (if A4 (Ak xs) then .taut else if 150<lits+AG (Ak xs) then .full else .takes) else .lit
def Tk.ret(k:Tk)(xs:List Int):Value:=match k with
 | .lit=>.tuple #[.int .i64 0,.bool false,.int .i64 4]
 | .taut=>.tuple #[.int .i64 0,.bool false,.int .i64 0]
 | .full=>.tuple #[.int .i64 0,.bool false,.int .i64 5]
 | .takes=>.tuple #[.int .i64 (Ak xs:Nat),.bool true,.int .i64 0]
def BY(r h l:Int):Bool:=(r == 0 || decide (12≤r) && decide (r≤64)) && decide (0≤h) && decide (h≤1048576) && decide (0≤l) && decide (l≤1048576)
def Gp(t:Nat):Nat→Nat
 | 0=>0
 | k+1=>Gp t k+(t.testBit (k+1)).toNat
def CU(t:Nat):Nat:=Gp t 10
structure Bf(s t f:Nat):Prop where
 pos:∀ v,v<10→s.testBit (2*v)=t.testBit (v+1)
 neg:∀ v,v<10→s.testBit (2*v+1)=f.testBit (v+1)
 top:s<2^20
 zt:t.testBit 0=false
 zf:f.testBit 0=false
 lt:t<2^11
 lf:f<2^11
theorem Bf.zero:Bf 0 0 0:=⟨by simp,by simp,by decide,by simp,by simp,by decide,by decide⟩
theorem Bf.or{s t f s' t' f':Nat}(h:Bf s t f)(h':Bf s' t' f'):Bf (s|||s') (t|||t') (f|||f') :=
 ⟨fun v hv=>by rw[Nat.testBit_or,Nat.testBit_or,h.pos v hv,h'.pos v hv],fun v hv=>by rw[Nat.testBit_or,Nat.testBit_or,h.neg v hv,h'.neg v hv],Nat.or_lt_two_pow h.top h'.top,
  by rw[Nat.testBit_or,h.zt,h'.zt];rfl,by rw[Nat.testBit_or,h.zf,h'.zf];rfl,Nat.or_lt_two_pow h.lt h'.lt,Nat.or_lt_two_pow h.lf h'.lf⟩
def Cq(l:Int):Nat:=if 0<l then 2^l.toNat else 0
def Cp(l:Int):Nat:=if 0<l then 0 else 2^(-l).toNat
theorem Bf.bit{l:Int}(h:AK l=true):Bf (Cs l) (Cq l) (Cp l):=by
 have key:∀ l:Int,AK l=true→(∀ v,v<10→(Cs l).testBit (2*v)=(Cq l).testBit (v+1))∧(∀ v,v<10→(Cs l).testBit (2*v+1)=(Cp l).testBit (v+1))∧(Cq l).testBit 0=false∧(Cp l).testBit 0=false∧Cq l<2^11∧Cp l<2^11:=by
  intro l h
  rcases Eo h with rfl|rfl|rfl|rfl|rfl|rfl|rfl|rfl|rfl|rfl|rfl|rfl|rfl|rfl|rfl|rfl|rfl|rfl|rfl|rfl <;> decide
 obtain⟨h1,h2,h3,h4,h5,h6⟩:=key l h
 exact⟨h1,h2,QU h,h3,h4,h5,h6⟩
def Aa(xs:List Int):Nat:=xs.foldl (fun a l=>a|||Cq l) 0
def AZ(xs:List Int):Nat:=xs.foldl (fun a l=>a|||Cp l) 0
theorem SL(xs:List Int)(x:Int):Aa (xs++[x])=Aa xs|||Cq x:=by simp[Aa]
theorem Rz(xs:List Int)(x:Int):AZ (xs++[x])=AZ xs|||Cp x:=by simp[AZ]
theorem Bf.set(xs:List Int)(h:xs.all AK=true):Bf (Ak xs) (Aa xs) (AZ xs):=by
 have key:∀ (ys:List Int) (a b c:Nat),ys.all AK=true→Bf a b c→Bf (ys.foldl (fun a l=>a|||Cs l) a) (ys.foldl (fun a l=>a|||Cq l) b) (ys.foldl (fun a l=>a|||Cp l) c):=by
  intro ys
  induction ys with
  | nil=>intro a b c _ h;exact h
  | cons y ys ih =>
   intro a b c hy ha
   simp only[List.all_cons,Bool.and_eq_true] at hy
   exact ih _ _ _ hy.2 (ha.or (Bf.bit hy.1))
 exact key xs 0 0 0 h Bf.zero
theorem Ic(s k:Nat):s / 2^k % 2=(s.testBit k).toNat:=(Nat.toNat_testBit s k).symm
theorem Bf.size{s t f:Nat}(h:Bf s t f):AG s=CU t+CU f:=by
 have p:=h.pos
 have n:=h.neg
 simp only[AG,Bq,CU,Gp,Ic]
 have p0:=p 0 (by omega);have p1:=p 1 (by omega);have p2:=p 2 (by omega);have p3:=p 3 (by omega);have p4:=p 4 (by omega)
 have p5:=p 5 (by omega);have p6:=p 6 (by omega);have p7:=p 7 (by omega);have p8:=p 8 (by omega);have p9:=p 9 (by omega)
 have n0:=n 0 (by omega);have n1:=n 1 (by omega);have n2:=n 2 (by omega);have n3:=n 3 (by omega);have n4:=n 4 (by omega)
 have n5:=n 5 (by omega);have n6:=n 6 (by omega);have n7:=n 7 (by omega);have n8:=n 8 (by omega);have n9:=n 9 (by omega)
 simp only[Nat.mul_zero,Nat.zero_add,Nat.reduceMul,Nat.reduceAdd] at *
 rw[p0,p1,p2,p3,p4,p5,p6,p7,p8,p9,n0,n1,n2,n3,n4,n5,n6,n7,n8,n9]
 omega
theorem Mf(s j:Nat):(AS s).testBit j=((decide (1≤j) && (s.testBit (j - 1) && Nat.testBit 349525 (j - 1))) || (s.testBit (j+1) && Nat.testBit 349525 j)):=by
 have e:(s&&&349525)*2=(s&&&349525) <<< 1:=by rw[Nat.shiftLeft_eq]
 unfold AS
 rw[e,Nat.testBit_or,Nat.testBit_shiftLeft,Nat.testBit_and,Nat.testBit_and,Nat.testBit_div_two]
theorem Hi:∀ v,v<10→Nat.testBit 349525 (2*v)=true:=by decide
theorem Ir:∀ v,v<10→Nat.testBit 349525 (2*v+1)=false:=by decide
theorem UE:∀ v,v<10→1≤2*v→Nat.testBit 349525 (2*v - 1)=false:=by decide
theorem Eh(s v:Nat)(hv:v<10):(AS s).testBit (2*v)=s.testBit (2*v+1):=by
 rw[Mf,Hi v hv]
 by_cases h:1≤2*v
 ·rw[UE v hv h];simp
 ·simp;omega
theorem Fa(s v:Nat)(hv:v<10):(AS s).testBit (2*v+1)=s.testBit (2*v):=by
 rw[Mf,Ir v hv]
 have:2*v+1 - 1=2*v:=by omega
 rw[this,Hi v hv]
 simp
theorem Bf.opp{s t f:Nat}(h:Bf s t f):Bf (AS s) f t :=
 ⟨fun v hv=>by rw[Eh s v hv,h.neg v hv],fun v hv=>by rw[Fa s v hv,h.pos v hv],Cl s,h.zf,h.zt,h.lf,h.lt⟩
theorem GR{t:Nat}(ht:t<2^11)(hz:t.testBit 0=false)(h:∀ v,v<10→t.testBit (v+1)=false):t=0:=by
 apply Nat.eq_of_testBit_eq
 intro i
 rw[Nat.zero_testBit]
 by_cases h0:i=0
 ·subst h0;exact hz
 ·by_cases h1:i<11
  ·have:=h (i - 1) (by omega)
   rwa [show i - 1+1=i by omega] at this
  ·exact Nat.testBit_lt_two_pow (Nat.lt_of_lt_of_le ht (Nat.pow_le_pow_right (by decide) (by omega)))
theorem GZ{s:Nat}(hs:s<2^20)(h1:∀ v,v<10→s.testBit (2*v)=false)(h2:∀ v,v<10→s.testBit (2*v+1)=false):s=0:=by
 apply Nat.eq_of_testBit_eq
 intro i
 rw[Nat.zero_testBit]
 by_cases hi:i<20
 ·rcases Nat.mod_two_eq_zero_or_one i with hm | hm
  ·have:=h1 (i / 2) (by omega)
   rwa [show 2*(i / 2)=i by omega] at this
  ·have:=h2 (i / 2) (by omega)
   rwa [show 2*(i / 2)+1=i by omega] at this
 ·exact Nat.testBit_lt_two_pow (Nat.lt_of_lt_of_le hs (Nat.pow_le_pow_right (by decide) (by omega)))
theorem Bf.twin{s t f:Nat}(h:Bf s t f):A4 s=(t&&&f != 0):=by
 have ho:=h.opp
 have e:(s&&&AS s=0)↔(t&&&f=0):=by
  constructor
  ·intro hz
   refine GR (Nat.and_lt_two_pow _ h.lf) (by rw[Nat.testBit_and,h.zt];rfl) (fun v hv=>?_)
   have:=congrArg (fun n=>n.testBit (2*v)) hz
   simp only[Nat.testBit_and,Nat.zero_testBit,h.pos v hv,ho.pos v hv] at this
   rw[Nat.testBit_and]
   exact this
  ·intro hz
   have hb:∀ v,v<10→(t.testBit (v+1) && f.testBit (v+1))=false:=fun v _=>by
    have:=congrArg (fun n=>n.testBit (v+1)) hz
    simpa only [Nat.testBit_and,Nat.zero_testBit] using this
   refine GZ (Nat.and_lt_two_pow _ ho.top) (fun v hv=>?_) (fun v hv=>?_)
   ·rw[Nat.testBit_and,h.pos v hv,ho.pos v hv];exact hb v hv
   ·rw[Nat.testBit_and,h.neg v hv,ho.neg v hv,Bool.and_comm];exact hb v hv
 unfold A4
 rw[Bool.eq_iff_iff]
 simp only[bne_iff_ne,ne_eq,e]
theorem Bf.vars{s t f:Nat}(h:Bf s t f):Bf (Ag s) (t|||f) 0:=by
 have ho:=h.opp
 refine⟨fun v hv=>?_,fun v hv=>?_,GJ s,?_,by simp,Nat.or_lt_two_pow h.lt h.lf,by decide⟩
 ·unfold Ag
  rw[Nat.testBit_and,Nat.testBit_or,Hi v hv,h.pos v hv,ho.pos v hv,Nat.testBit_or,Bool.and_true]
 ·unfold Ag
  rw[Nat.testBit_and,Ir v hv,Bool.and_false,Nat.zero_testBit]
 ·rw[Nat.testBit_or,h.zt,h.zf];rfl
theorem NR:CU 0=0:=by decide
set_option maxHeartbeats 1000000 in
theorem Kb(v:Nat)(h1:1≤v)(h2:v≤10)(w:World):Calls Tryd.prog 58 #[.int .i64 v] w fun e w'=>e=.returned (.int .i64 (2^v:Nat))∧w'=w:=by
 have hv:v=1∨v=2∨v=3∨v=4∨v=5∨v=6∨v=7∨v=8∨v=9∨v=10:=by omega
 clear h1 h2
 rcases hv with rfl|rfl|rfl|rfl|rfl|rfl|rfl|rfl|rfl|rfl
 all_goals
  go_enter Tryd.func58,Tryd.ntmps58
  go_wp2
  go_ret
  exact⟨rfl,rfl⟩
theorem Jw(t j:Nat):t&&&2^j=(t.testBit j).toNat*2^j:=by
 apply Nat.eq_of_testBit_eq
 intro i
 rw[Nat.testBit_and,Nat.testBit_two_pow]
 cases h:t.testBit j with
 | true =>
  rw[Bool.toNat_true,Nat.one_mul,Nat.testBit_two_pow]
  by_cases e:j=i
  ·subst e;simp[h]
  ·simp[e]
 | false =>
  rw[Bool.toNat_false,Nat.zero_mul,Nat.zero_testBit]
  by_cases e:j=i
  ·subst e;simp[h]
  ·simp[e]
theorem QW(t k:Nat):Gp t k≤k:=by
 induction k with
 | zero=>exact Nat.le_refl _
 | succ k ih=>simp only[Gp];have:=Bool.toNat_le (t.testBit (k+1));omega
theorem Fl(t:Nat):CU t≤10:=QW t 10
set_option maxHeartbeats 1000000 in
theorem Hw(t:Nat)(ht:t<2^11)(w:World):Calls Tryd.prog 36 #[.int .i64 t] w fun e w'=>e=.returned (.int .i64 (CU t:Nat))∧w'=w:=by
 go_enter Tryd.func36,Tryd.ntmps36
 go_wp2
 go_loop [3,4] (fun n v=>∃ k:Nat,k≤10∧v=.int .i64 ((k:Int)+1)∧n=.int .i64 (Gp t k:Nat)) (fun _ v=>11 - (intOf v).toNat)
 case atStart=>exact⟨0,by omega,rfl,rfl⟩
 case round =>
  obtain⟨k,hk,rfl,rfl⟩:=hrel
  have hle:=QW t k
  by_cases hlt:k<10
  ·have hb:=Kb (k+1) (by omega) (by omega) w
   have hp:2^(k+1)≤2^10:=Nat.pow_le_pow_right (by decide) (by omega)
   have hp0:0<2^(k+1):=Nat.pow_pos (by decide)
   have ha:=Eb t (2^(k+1)) (by omega) (by omega)
   rw[Jw] at ha
   have HC:Hid (Gp t (k+1)=Gp t k+(t.testBit (k+1)).toNat):=rfl
   have hkc:((k+1:Nat):Int)=(k:Int)+1:=by omega
   rw[hkc] at hb
   clear hkc
   generalize 2^(k+1)=p at *
   have HB:=AA hb
   clear hb
   cases hbit:t.testBit (k+1) with
   | true =>
    rw[hbit] at ha HC
    simp only[Bool.toNat_true,Nat.one_mul] at ha
    have hpn:(((p:Int) != 0)=true):=by simp;omega
    clear hbit
    go_wp2_with (go_at_call 58;refine(AE HB).mono ?_;rintro e w' ⟨rfl,hw⟩;obtain rfl:=hw.symm)
    go_round
    case rel=>exact⟨k+1,by omega,by go_num,by rw[HC.out];rfl⟩
    case measure=>simp[intOf];omega
   | false =>
    rw[hbit] at ha HC
    simp only[Bool.toNat_false,Nat.zero_mul] at ha
    clear hbit
    go_wp2_with (go_at_call 58;refine(AE HB).mono ?_;rintro e w' ⟨rfl,hw⟩;obtain rfl:=hw.symm)
    go_round
    case rel=>exact⟨k+1,by omega,by go_num,by rw[HC.out];rfl⟩
    case measure=>simp[intOf];omega
  ·obtain rfl:k=10:=by omega
   go_wp2
   go_ret
   exact⟨rfl,rfl⟩
set_option maxHeartbeats 400000 in
theorem Cw(t f:Nat)(ht:t<2^11)(hf:f<2^11)(w:World):Calls Tryd.prog 46 #[.agg #[.int .i64 t,.int .i64 f]] w fun e w'=>e=.returned (.bool (t&&&f != 0))∧Below w.heap.size w w':=by
 have ha:=Eb t f (by omega) (by omega)
 have hb:Hid ((((t&&&f:Nat):Int) != 0)=(t&&&f != 0)):=by
  show _=_
  cases h:t&&&f <;> rfl
 have HN:Hid (∀ x,Below w.heap.size w (w.alloc x)):=fun x=>(Below.refl _ _).alloc (Nat.le_refl _) _
 generalize t&&&f=z at *
 go_enter Tryd.func46,Tryd.ntmps46
 go_wp2
 go_ret
 exact⟨by rw[← hb.out];rfl,HN.out _⟩
set_option maxHeartbeats 400000 in
theorem Fw(t f:Nat)(ht:t<2^11)(hf:f<2^11)(w:World):Calls Tryd.prog 48 #[.agg #[.int .i64 t,.int .i64 f]] w fun e w'=>e=.returned (.int .i64 (t|||f:Nat))∧Below w.heap.size w w':=by
 have ha:=AA (Kn t f (by omega) (by omega))
 have HN:Hid (∀ x,Below w.heap.size w (w.alloc x)):=fun x=>(Below.refl _ _).alloc (Nat.le_refl _) _
 go_enter Tryd.func48,Tryd.ntmps48
 go_wp2
 go_ret
 exact⟨DV ha.out,HN.out _⟩
set_option maxHeartbeats 1000000 in
theorem Df(t f:Nat)(ht:t<2^11)(hf:f<2^11)(w:World):Calls Tryd.prog 47 #[.agg #[.int .i64 t,.int .i64 f]] w fun e w'=>e=.returned (.int .i64 (CU t+CU f:Nat))∧Below w.heap.size w w':=by
 have h1:=Fl t
 have h2:=Fl f
 have HN:Hid (∀ x n,Below w.heap.size w ((w.alloc x).drewN n)):=fun x n=>below_drewN ((Below.refl _ _).alloc (Nat.le_refl _) _) n
 go_enter Tryd.func47,Tryd.ntmps47
 go_wp2
 go_quiet ((go_at_call 36;exact Calls.quiet_of_same (Hw _ (by assumption) _)))
 go_wp2
 go_ret
 exact⟨DV (by go_num),HN.out _ _⟩
theorem Yo(t:List UInt8)(x:Int):(⟨t.toArray⟩:ByteArray)++⟨(Lib.itoa x).toArray⟩++⟨#[32]⟩=⟨(t++Ci x).toArray⟩:=by
 rw[KF]
 have:=KF (t++Lib.itoa x) [32]
 rw[List.append_assoc] at this
 exact this
theorem Xp{a b:Int}(s:List UInt8)(h:s=[])(h':a=b):Ending.returned (.tuple #[.string ⟨#[]⟩,.int .i64 a])=.returned (.tuple #[.string ⟨s.toArray⟩,.int .i64 b]):=by rw[h,h']
end Go.Proofs.YthboeppmlhbofaaDoor
