import Derived.Test.YthboeppmlhbofabDoorRdr
import Derived.Laws.ResultCell
import Derived.Laws.Rows
namespace Go.Proofs.YthboeppmlhbofabDoor
open Go.RowKit Txt
set_option maxRecDepth 100000
def oppN(s:Nat):Nat:=((s&&&349525)*2)|||((s / 2)&&&349525)
theorem oppN_lt(s:Nat):oppN s<1048576:=by
 have h1:(s&&&349525)*2<1048576:=by have:=@Nat.and_le_right s 349525;omega
 have h2:(s / 2)&&&349525<1048576:=by have:=@Nat.and_le_right (s / 2) 349525;omega
 exact Nat.or_lt_two_pow (n:=20) h1 h2
theorem opp_int(s:Nat)(hs:s<1048576):bits .or .i64 (wrap64 (bits .and .i64 (s:Int) 349525*2)) (bits .and .i64 ((s:Int) / 2) 349525)=((oppN s:Nat):Int):=by
 have e1:bits .and .i64 (s:Int) 349525=((s&&&349525:Nat):Int):=and64 s 349525 (by omega) (by decide)
 have e2:bits .and .i64 ((s:Int) / 2) 349525=((s / 2&&&349525:Nat):Int):=and64 (s / 2) 349525 (by omega) (by decide)
 have h1:=@Nat.and_le_right s 349525
 have h2:=@Nat.and_le_right (s / 2) 349525
 rw[e1,e2]
 have e3:wrap64 (((s&&&349525:Nat):Int)*2)=(((s&&&349525)*2:Nat):Int):=by
  unfold wrap64
  omega
 rw[e3]
 exact or64 _ _ (by omega) (by omega)
def twinB(s:Nat):Bool:=s&&&oppN s != 0
def varsN(s:Nat):Nat:=(s|||oppN s)&&&349525
theorem varsN_lt(s:Nat):varsN s<1048576:=by
 have:=@Nat.and_le_right (s|||oppN s) 349525
 unfold varsN
 omega
def sizeTo(s:Nat):Nat→Nat
 | 0=>0
 | k+1=>sizeTo s k+s / 2^k % 2
theorem sizeTo_le(s k:Nat):sizeTo s k≤k:=by
 induction k with
 | zero=>exact Nat.le_refl _
 | succ k ih=>simp only[sizeTo];omega
theorem size_int(s k:Nat)(hs:s<1048576)(hk:k<20):wrap64 (((sizeTo s k:Nat):Int)+bits .and .i64 ((s:Int) / 2^k) 1)=((sizeTo s (k+1):Nat):Int):=by
 have h1:((s:Int) / 2^k)=((s / 2^k:Nat):Int):=by rw[Int.natCast_ediv,Int.natCast_pow];rfl
 have h2:s / 2^k≤s:=Nat.div_le_self _ _
 have h3:bits .and .i64 ((s / 2^k:Nat):Int) 1=((s / 2^k&&&1:Nat):Int):=and64 (s / 2^k) 1 (by omega) (by decide)
 have h4:=sizeTo_le s k
 rw[h1,h3,Nat.and_one_is_mod]
 simp only[sizeTo]
 unfold wrap64
 omega
def sizeN(s:Nat):Nat:=sizeTo s 20
theorem sizeN_le(s:Nat):sizeN s≤20:=sizeTo_le s 20
inductive Tk where
 | lit
 | taut
 | full
 | takes
def takenK(xs:List Int)(lits:Nat):Tk:=if xs.all litB then (if twinB (setN xs) then .taut else if 150<lits+sizeN (setN xs) then .full else .takes) else .lit
def Tk.ret(k:Tk)(xs:List Int):Value:=match k with
 | .lit=>.tuple #[.int .i64 0,.bool false,.int .i64 4]
 | .taut=>.tuple #[.int .i64 0,.bool false,.int .i64 0]
 | .full=>.tuple #[.int .i64 0,.bool false,.int .i64 5]
 | .takes=>.tuple #[.int .i64 (setN xs:Nat),.bool true,.int .i64 0]
def settingsB(r h l:Int):Bool:=(r == 0 || decide (12≤r) && decide (r≤64)) && decide (0≤h) && decide (h≤1048576) && decide (0≤l) && decide (l≤1048576)
def cvTo(t:Nat):Nat→Nat
 | 0=>0
 | k+1=>cvTo t k+(t.testBit (k+1)).toNat
def cvN(t:Nat):Nat:=cvTo t 10
structure Two(s t f:Nat):Prop where
 pos:∀ v,v<10→s.testBit (2*v)=t.testBit (v+1)
 neg:∀ v,v<10→s.testBit (2*v+1)=f.testBit (v+1)
 top:s<2^20
 zt:t.testBit 0=false
 zf:f.testBit 0=false
 lt:t<2^11
 lf:f<2^11
theorem Two.zero:Two 0 0 0:=⟨by simp,by simp,by decide,by simp,by simp,by decide,by decide⟩
theorem Two.or{s t f s' t' f':Nat}(h:Two s t f)(h':Two s' t' f'):Two (s|||s') (t|||t') (f|||f') :=
 ⟨fun v hv=>by rw[Nat.testBit_or,Nat.testBit_or,h.pos v hv,h'.pos v hv],fun v hv=>by rw[Nat.testBit_or,Nat.testBit_or,h.neg v hv,h'.neg v hv],Nat.or_lt_two_pow h.top h'.top,
  by rw[Nat.testBit_or,h.zt,h'.zt];rfl,by rw[Nat.testBit_or,h.zf,h'.zf];rfl,Nat.or_lt_two_pow h.lt h'.lt,Nat.or_lt_two_pow h.lf h'.lf⟩
def posB(l:Int):Nat:=if 0<l then 2^l.toNat else 0
def negB(l:Int):Nat:=if 0<l then 0 else 2^(-l).toNat
theorem Two.bit{l:Int}(h:litB l=true):Two (bitN l) (posB l) (negB l):=by
 have key:∀ l:Int,litB l=true→(∀ v,v<10→(bitN l).testBit (2*v)=(posB l).testBit (v+1))∧(∀ v,v<10→(bitN l).testBit (2*v+1)=(negB l).testBit (v+1))∧(posB l).testBit 0=false∧(negB l).testBit 0=false∧posB l<2^11∧negB l<2^11:=by
  intro l h
  rcases lit_cases h with rfl|rfl|rfl|rfl|rfl|rfl|rfl|rfl|rfl|rfl|rfl|rfl|rfl|rfl|rfl|rfl|rfl|rfl|rfl|rfl <;> decide
 obtain⟨h1,h2,h3,h4,h5,h6⟩:=key l h
 exact⟨h1,h2,bitN_lt h,h3,h4,h5,h6⟩
def posN(xs:List Int):Nat:=xs.foldl (fun a l=>a|||posB l) 0
def negN(xs:List Int):Nat:=xs.foldl (fun a l=>a|||negB l) 0
theorem posN_snoc(xs:List Int)(x:Int):posN (xs++[x])=posN xs|||posB x:=by simp[posN]
theorem negN_snoc(xs:List Int)(x:Int):negN (xs++[x])=negN xs|||negB x:=by simp[negN]
theorem Two.set(xs:List Int)(h:xs.all litB=true):Two (setN xs) (posN xs) (negN xs):=by
 have key:∀ (ys:List Int) (a b c:Nat),ys.all litB=true→Two a b c→Two (ys.foldl (fun a l=>a|||bitN l) a) (ys.foldl (fun a l=>a|||posB l) b) (ys.foldl (fun a l=>a|||negB l) c):=by
  intro ys
  induction ys with
  | nil=>intro a b c _ h;exact h
  | cons y ys ih =>
   intro a b c hy ha
   simp only[List.all_cons,Bool.and_eq_true] at hy
   exact ih _ _ _ hy.2 (ha.or (Two.bit hy.1))
 exact key xs 0 0 0 h Two.zero
theorem bit_div(s k:Nat):s / 2^k % 2=(s.testBit k).toNat:=(Nat.toNat_testBit s k).symm
theorem Two.size{s t f:Nat}(h:Two s t f):sizeN s=cvN t+cvN f:=by
 have p:=h.pos
 have n:=h.neg
 simp only[sizeN,sizeTo,cvN,cvTo,bit_div]
 have p0:=p 0 (by omega);have p1:=p 1 (by omega);have p2:=p 2 (by omega);have p3:=p 3 (by omega);have p4:=p 4 (by omega)
 have p5:=p 5 (by omega);have p6:=p 6 (by omega);have p7:=p 7 (by omega);have p8:=p 8 (by omega);have p9:=p 9 (by omega)
 have n0:=n 0 (by omega);have n1:=n 1 (by omega);have n2:=n 2 (by omega);have n3:=n 3 (by omega);have n4:=n 4 (by omega)
 have n5:=n 5 (by omega);have n6:=n 6 (by omega);have n7:=n 7 (by omega);have n8:=n 8 (by omega);have n9:=n 9 (by omega)
 simp only[Nat.mul_zero,Nat.zero_add,Nat.reduceMul,Nat.reduceAdd] at *
 rw[p0,p1,p2,p3,p4,p5,p6,p7,p8,p9,n0,n1,n2,n3,n4,n5,n6,n7,n8,n9]
 omega
theorem opp_bit(s j:Nat):(oppN s).testBit j=((decide (1≤j) && (s.testBit (j - 1) && Nat.testBit 349525 (j - 1))) || (s.testBit (j+1) && Nat.testBit 349525 j)):=by
 have e:(s&&&349525)*2=(s&&&349525) <<< 1:=by rw[Nat.shiftLeft_eq]
 unfold oppN
 rw[e,Nat.testBit_or,Nat.testBit_shiftLeft,Nat.testBit_and,Nat.testBit_and,Nat.testBit_div_two]
theorem mask_even:∀ v,v<10→Nat.testBit 349525 (2*v)=true:=by decide
theorem mask_odd:∀ v,v<10→Nat.testBit 349525 (2*v+1)=false:=by decide
theorem mask_pre:∀ v,v<10→1≤2*v→Nat.testBit 349525 (2*v - 1)=false:=by decide
theorem opp_bit_even(s v:Nat)(hv:v<10):(oppN s).testBit (2*v)=s.testBit (2*v+1):=by
 rw[opp_bit,mask_even v hv]
 by_cases h:1≤2*v
 ·rw[mask_pre v hv h];simp
 ·simp;omega
theorem opp_bit_odd(s v:Nat)(hv:v<10):(oppN s).testBit (2*v+1)=s.testBit (2*v):=by
 rw[opp_bit,mask_odd v hv]
 have:2*v+1 - 1=2*v:=by omega
 rw[this,mask_even v hv]
 simp
theorem Two.opp{s t f:Nat}(h:Two s t f):Two (oppN s) f t :=
 ⟨fun v hv=>by rw[opp_bit_even s v hv,h.neg v hv],fun v hv=>by rw[opp_bit_odd s v hv,h.pos v hv],oppN_lt s,h.zf,h.zt,h.lf,h.lt⟩
theorem lt_of_bits{t:Nat}(ht:t<2^11)(hz:t.testBit 0=false)(h:∀ v,v<10→t.testBit (v+1)=false):t=0:=by
 apply Nat.eq_of_testBit_eq
 intro i
 rw[Nat.zero_testBit]
 by_cases h0:i=0
 ·subst h0;exact hz
 ·by_cases h1:i<11
  ·have:=h (i - 1) (by omega)
   rwa [show i - 1+1=i by omega] at this
  ·exact Nat.testBit_lt_two_pow (Nat.lt_of_lt_of_le ht (Nat.pow_le_pow_right (by decide) (by omega)))
theorem zero_of_bits{s:Nat}(hs:s<2^20)(h1:∀ v,v<10→s.testBit (2*v)=false)(h2:∀ v,v<10→s.testBit (2*v+1)=false):s=0:=by
 apply Nat.eq_of_testBit_eq
 intro i
 rw[Nat.zero_testBit]
 by_cases hi:i<20
 ·rcases Nat.mod_two_eq_zero_or_one i with hm | hm
  ·have:=h1 (i / 2) (by omega)
   rwa [show 2*(i / 2)=i by omega] at this
  ·have:=h2 (i / 2) (by omega)
   rwa [show 2*(i / 2)+1=i by omega] at this
 ·exact Nat.testBit_lt_two_pow (Nat.lt_of_lt_of_le hs (Nat.pow_le_pow_right (by decide) (by omega)))
theorem Two.twin{s t f:Nat}(h:Two s t f):twinB s=(t&&&f != 0):=by
 have ho:=h.opp
 have e:(s&&&oppN s=0)↔(t&&&f=0):=by
  constructor
  ·intro hz
   refine lt_of_bits (Nat.and_lt_two_pow _ h.lf) (by rw[Nat.testBit_and,h.zt];rfl) (fun v hv=>?_)
   have:=congrArg (fun n=>n.testBit (2*v)) hz
   simp only[Nat.testBit_and,Nat.zero_testBit,h.pos v hv,ho.pos v hv] at this
   rw[Nat.testBit_and]
   exact this
  ·intro hz
   have hb:∀ v,v<10→(t.testBit (v+1) && f.testBit (v+1))=false:=fun v _=>by
    have:=congrArg (fun n=>n.testBit (v+1)) hz
    simpa only [Nat.testBit_and,Nat.zero_testBit] using this
   refine zero_of_bits (Nat.and_lt_two_pow _ ho.top) (fun v hv=>?_) (fun v hv=>?_)
   ·rw[Nat.testBit_and,h.pos v hv,ho.pos v hv];exact hb v hv
   ·rw[Nat.testBit_and,h.neg v hv,ho.neg v hv,Bool.and_comm];exact hb v hv
 unfold twinB
 rw[Bool.eq_iff_iff]
 simp only[bne_iff_ne,ne_eq,e]
theorem Two.vars{s t f:Nat}(h:Two s t f):Two (varsN s) (t|||f) 0:=by
 have ho:=h.opp
 refine⟨fun v hv=>?_,fun v hv=>?_,varsN_lt s,?_,by simp,Nat.or_lt_two_pow h.lt h.lf,by decide⟩
 ·unfold varsN
  rw[Nat.testBit_and,Nat.testBit_or,mask_even v hv,h.pos v hv,ho.pos v hv,Nat.testBit_or,Bool.and_true]
 ·unfold varsN
  rw[Nat.testBit_and,mask_odd v hv,Bool.and_false,Nat.zero_testBit]
 ·rw[Nat.testBit_or,h.zt,h.zf];rfl
theorem cvN_zero:cvN 0=0:=by decide
set_option maxHeartbeats 1000000 in
theorem lbit_any(v:Nat)(h1:1≤v)(h2:v≤10)(w:World):Calls Tryd.prog 60 #[.int .i64 v] w fun e w'=>e=.returned (.int .i64 (2^v:Nat))∧w'=w:=by
 have hv:v=1∨v=2∨v=3∨v=4∨v=5∨v=6∨v=7∨v=8∨v=9∨v=10:=by omega
 clear h1 h2
 rcases hv with rfl|rfl|rfl|rfl|rfl|rfl|rfl|rfl|rfl|rfl
 all_goals
  go_enter Tryd.func60,Tryd.ntmps60
  go_wp2
  go_ret
  exact⟨rfl,rfl⟩
theorem and_pow(t j:Nat):t&&&2^j=(t.testBit j).toNat*2^j:=by
 apply Nat.eq_of_testBit_eq
 intro i
 rw[Nat.testBit_and,Nat.testBit_two_pow]
 cases h:t.testBit j with
 | true =>
  rw[Bool.toNat_true,Nat.one_mul,Nat.testBit_two_pow]
  by_cases e:j=i
  ·subst e;simp[h]
  ·simp[e]
 | false =>
  rw[Bool.toNat_false,Nat.zero_mul,Nat.zero_testBit]
  by_cases e:j=i
  ·subst e;simp[h]
  ·simp[e]
theorem cvTo_le(t k:Nat):cvTo t k≤k:=by
 induction k with
 | zero=>exact Nat.le_refl _
 | succ k ih=>simp only[cvTo];have:=Bool.toNat_le (t.testBit (k+1));omega
theorem cvN_le(t:Nat):cvN t≤10:=cvTo_le t 10
set_option maxHeartbeats 1000000 in
theorem countVars_any(t:Nat)(ht:t<2^11)(w:World):Calls Tryd.prog 41 #[.int .i64 t] w fun e w'=>e=.returned (.int .i64 (cvN t:Nat))∧w'=w:=by
 go_enter Tryd.func41,Tryd.ntmps41
 go_wp2
 go_loop [3,4] (fun n v=>∃ k:Nat,k≤10∧v=.int .i64 ((k:Int)+1)∧n=.int .i64 (cvTo t k:Nat)) (fun _ v=>11 - (intOf v).toNat)
 case atStart=>exact⟨0,by omega,rfl,rfl⟩
 case round =>
  obtain⟨k,hk,rfl,rfl⟩:=hrel
  have hle:=cvTo_le t k
  by_cases hlt:k<10
  ·have hb:=lbit_any (k+1) (by omega) (by omega) w
   have hp:2^(k+1)≤2^10:=Nat.pow_le_pow_right (by decide) (by omega)
   have hp0:0<2^(k+1):=Nat.pow_pos (by decide)
   have ha:=and64 t (2^(k+1)) (by omega) (by omega)
   rw[and_pow] at ha
   have HC:Hid (cvTo t (k+1)=cvTo t k+(t.testBit (k+1)).toNat):=rfl
   have hkc:((k+1:Nat):Int)=(k:Int)+1:=by omega
   rw[hkc] at hb
   clear hkc
   generalize 2^(k+1)=p at *
   have HB:=hide hb
   clear hb
   cases hbit:t.testBit (k+1) with
   | true =>
    rw[hbit] at ha HC
    simp only[Bool.toNat_true,Nat.one_mul] at ha
    have hpn:(((p:Int) != 0)=true):=by simp;omega
    clear hbit
    go_wp2_with (go_at_call 60;refine(unhide HB).mono ?_;rintro e w' ⟨rfl,hw⟩;obtain rfl:=hw.symm)
    go_round
    case rel=>exact⟨k+1,by omega,by go_num,by rw[HC.out];rfl⟩
    case measure=>simp[intOf];omega
   | false =>
    rw[hbit] at ha HC
    simp only[Bool.toNat_false,Nat.zero_mul] at ha
    clear hbit
    go_wp2_with (go_at_call 60;refine(unhide HB).mono ?_;rintro e w' ⟨rfl,hw⟩;obtain rfl:=hw.symm)
    go_round
    case rel=>exact⟨k+1,by omega,by go_num,by rw[HC.out];rfl⟩
    case measure=>simp[intOf];omega
  ·obtain rfl:k=10:=by omega
   go_wp2
   go_ret
   exact⟨rfl,rfl⟩
set_option maxHeartbeats 400000 in
theorem isTaut_any(t f:Nat)(ht:t<2^11)(hf:f<2^11)(w:World):Calls Tryd.prog 44 #[.agg #[.int .i64 t,.int .i64 f]] w fun e w'=>e=.returned (.bool (t&&&f != 0))∧Below w.heap.size w w':=by
 have ha:=and64 t f (by omega) (by omega)
 have hb:Hid ((((t&&&f:Nat):Int) != 0)=(t&&&f != 0)):=by
  show _=_
  cases h:t&&&f <;> rfl
 have HN:Hid (∀ x,Below w.heap.size w (w.alloc x)):=fun x=>(Below.refl _ _).alloc (Nat.le_refl _) _
 generalize t&&&f=z at *
 go_enter Tryd.func44,Tryd.ntmps44
 go_wp2
 go_ret
 exact⟨by rw[← hb.out];rfl,HN.out _⟩
set_option maxHeartbeats 400000 in
theorem lvars_any(t f:Nat)(ht:t<2^11)(hf:f<2^11)(w:World):Calls Tryd.prog 46 #[.agg #[.int .i64 t,.int .i64 f]] w fun e w'=>e=.returned (.int .i64 (t|||f:Nat))∧Below w.heap.size w w':=by
 have ha:=hide (or64 t f (by omega) (by omega))
 have HN:Hid (∀ x,Below w.heap.size w (w.alloc x)):=fun x=>(Below.refl _ _).alloc (Nat.le_refl _) _
 go_enter Tryd.func46,Tryd.ntmps46
 go_wp2
 go_ret
 exact⟨ret_int ha.out,HN.out _⟩
set_option maxHeartbeats 1000000 in
theorem lsize_any(t f:Nat)(ht:t<2^11)(hf:f<2^11)(w:World):Calls Tryd.prog 45 #[.agg #[.int .i64 t,.int .i64 f]] w fun e w'=>e=.returned (.int .i64 (cvN t+cvN f:Nat))∧Below w.heap.size w w':=by
 have h1:=cvN_le t
 have h2:=cvN_le f
 have HN:Hid (∀ x n,Below w.heap.size w ((w.alloc x).drewN n)):=fun x n=>below_drewN ((Below.refl _ _).alloc (Nat.le_refl _) _) n
 go_enter Tryd.func45,Tryd.ntmps45
 go_wp2
 go_quiet ((go_at_call 41;exact Calls.quiet_of_same (countVars_any _ (by assumption) _)))
 go_wp2
 go_ret
 exact⟨ret_int (by go_num),HN.out _ _⟩
theorem arr_lit(t:List UInt8)(x:Int):(⟨t.toArray⟩:ByteArray)++⟨(Lib.itoa x).toArray⟩++⟨#[32]⟩=⟨(t++litT x).toArray⟩:=by
 rw[arr_append]
 have:=arr_append (t++Lib.itoa x) [32]
 rw[List.append_assoc] at this
 exact this
theorem ret_empty{a b:Int}(s:List UInt8)(h:s=[])(h':a=b):Ending.returned (.tuple #[.string ⟨#[]⟩,.int .i64 a])=.returned (.tuple #[.string ⟨s.toArray⟩,.int .i64 b]):=by rw[h,h']
end Go.Proofs.YthboeppmlhbofabDoor
