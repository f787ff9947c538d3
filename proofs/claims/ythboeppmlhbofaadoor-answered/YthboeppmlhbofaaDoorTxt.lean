import Derived.Laws.Wrap64
import Derived.Test.YthboeppmlhbofaaDoorProg
import Derived.WalkKit
import Derived.WalkSpells
import Derived.WalkLawsBesides
import Derived.Lib.Bytes
import Derived.Deep.QuietTactic
import Derived.BigQuiet
namespace Go.Proofs.YthboeppmlhbofaaDoor.Txt
def PF(c:Int):Bool:=c == 32 || c == 10
def JP(c:UInt8):Bool:=(c.toNat:Int) == 10
def EZ(c:UInt8):Bool:=PF c.toNat
def Cy:List UInt8→Nat
 | []=>0
 | c :: r=>if JP c then 0 else Cy r+1
def CR:List UInt8→Nat
 | []=>0
 | c :: r=>if EZ c then 0 else CR r+1
inductive Md | bol | mid | com
def sk:Md→List UInt8→Nat
 | _,[]=>0
 | .com,c :: r=>if JP c then sk .bol r+1 else sk .com r+1
 | .bol,c :: r=>if (c.toNat:Int) == 99 then sk .com r+1 else if EZ c then (if JP c then sk .bol r else sk .mid r)+1 else 0
 | .mid,c :: r=>if EZ c then (if JP c then sk .bol r else sk .mid r)+1 else 0
theorem KV{c:UInt8}(h:JP c=true):EZ c=true:=by
 simp only[JP,EZ,PF] at *
 simp[h]
theorem PY{c:UInt8}(h:JP c=true):((c.toNat:Int) == 99)=false:=by
 simp only[JP,beq_iff_eq] at h
 simp[h]
theorem Jl{c:UInt8}(h:EZ c=true):((c.toNat:Int) == 99)=false:=by
 simp only[EZ,PF,Bool.or_eq_true,beq_iff_eq] at h
 rcases h with h | h <;> simp[h]
theorem XQ(l:List UInt8):sk .com l=Cy l+sk .bol (l.drop (Cy l)):=by
 induction l with
 | nil=>rfl
 | cons c r ih =>
  by_cases h:JP c=true
  ·simp[sk,Cy,h,KV h,PY h]
  ·simp only[Bool.not_eq_true] at h
   simp[sk,Cy,h,ih]
   omega
def LY:List UInt8→Prop
 | []=>True
 | c :: _=>EZ c=true
theorem Ow(l:List UInt8):LY (l.drop (CR l)):=by
 induction l with
 | nil=>exact trivial
 | cons c r ih =>
  by_cases h:EZ c=true
  ·simp[CR,h,LY]
  ·simp only[Bool.not_eq_true] at h
   simpa [CR,h] using ih
theorem Kx{l:List UInt8}(h:LY l):sk .bol l=sk .mid l:=by
 cases l with
 | nil=>rfl
 | cons c r =>
  have h':EZ c=true:=h
  simp[sk,h',Jl h']
theorem Vq(l:List UInt8):Cy l≤l.length:=by
 induction l with
 | nil=>simp[Cy]
 | cons c r ih=>simp only[Cy];split <;> simp <;> omega
theorem Q4(l:List UInt8):CR l≤l.length:=by
 induction l with
 | nil=>simp[CR]
 | cons c r ih=>simp only[CR];split <;> simp <;> omega
theorem Wx(m:Md)(l:List UInt8):sk m l≤l.length:=by
 induction l generalizing m with
 | nil=>cases m <;> simp[sk]
 | cons c r ih =>
  have h1:=ih .bol;have h2:=ih .mid;have h3:=ih .com
  cases m <;> simp only[sk,List.length_cons] <;> repeat' split
  all_goals omega
def Gv(l:List UInt8)(p:Nat):Md:=if p=0 then .bol else if JP (l.getD (p - 1) 0) then .bol else .mid
def KQ(l:List UInt8)(p:Nat):Bool:=((l.getD p 0).toNat:Int) == 99 && (decide (p=0) || JP (l.getD (p - 1) 0))
def H5(l:List UInt8)(p:Nat):Nat:=p+sk (Gv l p) (l.drop p)
theorem Ft{l:List UInt8}{j:Nat}(h:j<l.length):l.drop j=l.getD j 0 :: l.drop (j+1):=by
 rw[List.drop_eq_getElem_cons h,List.getD_eq_getElem?_getD,List.getElem?_eq_getElem h]
 rfl
theorem Vz{l:List UInt8}{j:Nat}(h:l.length≤j):H5 l j=j:=by
 unfold H5
 rw[List.drop_eq_nil_of_le h]
 cases Gv l j <;> simp[sk]
theorem UR{l:List UInt8}{j:Nat}(h:j<l.length)(hc:KQ l j=false)(hg:EZ (l.getD j 0)=false):H5 l j=j:=by
 unfold H5
 rw[Ft h]
 unfold Gv
 unfold KQ at hc
 by_cases h0:j=0
 ·subst h0
  simp only[decide_true,Bool.true_or,Bool.and_true] at hc
  simp only[if_true,sk,hc,hg]
  rfl
 ·rw[if_neg h0]
  cases hn:JP (l.getD (j - 1) 0)
  ·simp only[Bool.false_eq_true,if_false,sk,hg];rfl
  ·simp only[hn,Bool.or_true,Bool.and_true] at hc
   simp only[if_true,sk,hc,hg];rfl
theorem N0{c:UInt8}(h:((c.toNat:Int) == 99)=true):JP c=false:=by
 simp only[beq_iff_eq] at h
 simp[JP,h]
theorem V0{l:List UInt8}{j:Nat}(h:j<l.length)(hg:EZ (l.getD j 0)=true):H5 l (j+1)=H5 l j:=by
 have h9:=Jl hg
 have e:sk (Gv l j) (l.drop j)=sk (Gv l (j+1)) (l.drop (j+1))+1:=by
  rw[Ft h]
  have:Gv l (j+1)=if JP (l.getD j 0) then .bol else .mid:=by simp[Gv]
  rw[this]
  unfold Gv
  split
  ·simp only[sk,h9,hg];cases JP (l.getD j 0) <;> simp
  ·split <;> (simp only[sk,h9,hg];cases JP (l.getD j 0) <;> simp)
 unfold H5
 omega
theorem T0{l:List UInt8}{j:Nat}(h:j<l.length)(hc:KQ l j=true):0<Cy (l.drop j):=by
 rw[Ft h]
 simp only[KQ,Bool.and_eq_true] at hc
 have:JP (l.getD j 0)=false:=N0 hc.1
 simp only[Cy,this]
 simp
theorem Ov(l:List UInt8):LY (l.drop (Cy l)):=by
 induction l with
 | nil=>exact trivial
 | cons c r ih =>
  by_cases h:JP c=true
  ·simp[Cy,h,LY,KV h]
  ·simp only[Bool.not_eq_true] at h
   simpa [Cy,h] using ih
theorem Vy{l:List UInt8}{j:Nat}(h:j<l.length)(hc:KQ l j=true):H5 l (j+Cy (l.drop j))=H5 l j:=by
 have hb:Gv l j=.bol:=by
  simp only[KQ,Bool.and_eq_true,Bool.or_eq_true,decide_eq_true_eq] at hc
  unfold Gv
  rcases hc.2 with h0 | h0
  ·rw[if_pos h0]
  ·rw[if_pos h0]
   split <;> rfl
 have h99:(((l.getD j 0).toNat:Int) == 99)=true:=by
  simp only[KQ,Bool.and_eq_true] at hc;exact hc.1
 have hn:JP (l.getD j 0)=false:=N0 h99
 have e1:Cy (l.drop j)=Cy (l.drop (j+1))+1:=by rw[Ft h];simp only[Cy,hn];rfl
 have e2:sk (Gv l j) (l.drop j)=sk .com (l.drop (j+1))+1:=by rw[hb,Ft h];simp only[sk,h99];rfl
 have e3:=XQ (l.drop (j+1))
 have e4:(l.drop (j+1)).drop (Cy (l.drop (j+1)))=l.drop (j+Cy (l.drop j)):=by rw[List.drop_drop,e1];congr 1;omega
 have e5:=Ov (l.drop (j+1))
 rw[e4] at e3 e5
 have e6:sk (Gv l (j+Cy (l.drop j))) (l.drop (j+Cy (l.drop j)))=sk .bol (l.drop (j+Cy (l.drop j))):=by
  unfold Gv
  split
  ·rfl
  ·split
   ·rfl
   ·exact(Kx e5).symm
 unfold H5
 omega
def E8(c:UInt8):Bool:=decide (48≤(c.toNat:Int)) && decide ((c.toNat:Int)≤57)
def Ge:List UInt8→Bool
 | []=>false
 | c :: r=>!((c.toNat:Int) == 48) && (c :: r).all E8
def DH(n:Int):List UInt8→Int
 | []=>n
 | c :: r=>if n≤10 then DH (n*10+((c.toNat:Int) - 48)) r else n
def Db(l:List UInt8):Int:=DH 0 l
def CQ(l:List UInt8):Int × Int :=
 if l=[48] then (0,0) else
  match l with
  | []=>(0,3)
  | c :: r =>
   if (c.toNat:Int) == 45 then (if Ge r then (if Db r≤10 then (-Db r,0) else (0,4)) else (0,3))
   else (if Ge (c :: r) then (if Db (c :: r)≤10 then (Db (c :: r),0) else (0,4)) else (0,3))
theorem QB(l:List UInt8)(hd:l.all E8=true)(n:Int)(h0:0≤n)(h1:n≤109):0≤DH n l∧DH n l≤109:=by
 induction l generalizing n with
 | nil=>exact⟨h0,h1⟩
 | cons c r ih =>
  simp only[List.all_cons,Bool.and_eq_true,E8,decide_eq_true_eq] at hd
  simp only[DH]
  split
  ·exact ih hd.2 _ (by omega) (by omega)
  ·exact⟨h0,h1⟩
inductive XY
 | err (e:Int) (p:Nat)
 | ok (cl:List (List Int))
def rd(L:Nat):Nat→List (List Int)→List Int→List UInt8→XY
 | 0,_,_,_=>.ok []
 | f+1,cl,op,l =>
  if l=[] then (if op=[] then .ok cl else .err 3 L)
  else
   let x:=CQ (l.take (CR l))
   let r:=l.drop (CR l)
   if x.2≠0 then .err x.2 (L - l.length)
   else if x.1=0 then rd L f (cl++[op]) [] (r.drop (sk .mid r))
   else rd L f cl (op++[x.1]) (r.drop (sk .mid r))
theorem WO(m:Md)(l:List UInt8):∀ c r,l.drop (sk m l)=c :: r→EZ c=false:=by
 induction l generalizing m with
 | nil=>intro c r h;cases m <;> simp[sk] at h
 | cons d l ih =>
  have key:∀ n (m':Md) (c:UInt8) (r:List UInt8),n=sk m' l+1→(d :: l).drop n=c :: r→EZ c=false:=by
   intro n m' c r hn h
   subst hn
   rw[List.drop_succ_cons] at h
   exact ih m' c r h
  have stop:∀ (c:UInt8) (r:List UInt8),EZ d=false→(d :: l).drop 0=c :: r→EZ c=false:=by
   intro c r hd h
   simp only[List.drop_zero,List.cons.injEq] at h
   rw[← h.1];exact hd
  intro c r h
  cases m with
  | com =>
   simp only[sk] at h
   split at h
   ·exact key _ _ c r rfl h
   ·exact key _ _ c r rfl h
  | bol =>
   simp only[sk] at h
   split at h
   ·exact key _ _ c r rfl h
   ·split at h
    ·split at h
     ·exact key _ _ c r rfl h
     ·exact key _ _ c r rfl h
    ·exact stop c r (by simpa using ‹¬EZ d=true›) h
  | mid =>
   simp only[sk] at h
   split at h
   ·split at h
    ·exact key _ _ c r rfl h
    ·exact key _ _ c r rfl h
   ·exact stop c r (by simpa using ‹¬EZ d=true›) h
def Gh:List UInt8→Prop
 | []=>True
 | c :: _=>EZ c=false
theorem RQ(m:Md)(l:List UInt8):Gh (l.drop (sk m l)):=by
 cases h:l.drop (sk m l) with
 | nil=>exact trivial
 | cons c r=>exact WO m l c r h
theorem VH{l:List UInt8}(h:Gh l)(hne:l≠[]):1≤CR l:=by
 cases l with
 | nil=>exact absurd rfl hne
 | cons c r =>
  have h':EZ c=false:=h
  simp[CR,h']
theorem SC{l:List UInt8}{e:Nat}(h:LY (l.drop e)):H5 l e=e+sk .mid (l.drop e):=by
 unfold H5 Gv
 split
 ·rw[Kx h]
 ·split
  ·rw[Kx h]
  ·rfl
theorem US(l:List UInt8):H5 l 0=sk .bol l:=by simp[H5,Gv]
theorem UP{l:List UInt8}{p:Nat}(h:p≤l.length):H5 l p≤l.length∧p≤H5 l p:=by
 unfold H5
 have:=Wx (Gv l p) (l.drop p)
 rw[List.length_drop] at this
 omega
theorem KG(l:List UInt8)(p:Nat):Gh (l.drop (H5 l p)):=by
 have:=RQ (Gv l p) (l.drop p)
 rwa [List.drop_drop] at this
theorem Uh(L f:Nat)(cl:List (List Int))(op:List Int):rd L (f+1) cl op []=if op=[] then .ok cl else .err 3 L:=by simp[rd]
theorem Qs{L f:Nat}{cl:List (List Int)}{op:List Int}{l:List UInt8}(hne:l≠[]):rd L (f+1) cl op l =
  if (CQ (l.take (CR l))).2≠0 then .err (CQ (l.take (CR l))).2 (L - l.length)
  else if (CQ (l.take (CR l))).1=0 then rd L f (cl++[op]) [] ((l.drop (CR l)).drop (sk .mid (l.drop (CR l))))
  else rd L f cl (op++[(CQ (l.take (CR l))).1]) ((l.drop (CR l)).drop (sk .mid (l.drop (CR l)))):=by
 rw[rd,if_neg hne]
theorem WD{l:List UInt8}{j:Nat}(hj:j<l.length)(ha:Gh (l.drop j)):∃ m j',CR (l.drop j)=m∧H5 l (j+m)=j'∧1≤m∧j+m≤l.length∧j+m≤j'∧j'≤l.length∧Gh (l.drop j') ∧
  ∀ f cl op,rd l.length (f+1) cl op (l.drop j)=if (CQ ((l.drop j).take m)).2≠0 then .err (CQ ((l.drop j).take m)).2 j else if (CQ ((l.drop j).take m)).1=0 then rd l.length f (cl++[op]) [] (l.drop j')
   else rd l.length f cl (op++[(CQ ((l.drop j).take m)).1]) (l.drop j'):=by
 have hne:l.drop j≠[]:=by intro h;have:=congrArg List.length h;rw[List.length_drop] at this;simp at this;omega
 have h1:=VH ha hne
 have h2:j+CR (l.drop j)≤l.length:=by have:=Q4 (l.drop j);rw[List.length_drop] at this;omega
 have h3:=Ow (l.drop j)
 rw[List.drop_drop] at h3
 have h4:=SC h3
 have h5:=UP h2
 refine⟨_,_,rfl,rfl,h1,h2,h5.2,h5.1,KG l _,fun f cl op=>?_⟩
 rw[Qs hne,List.drop_drop (i:=CR (l.drop j)),List.drop_drop,← h4,List.length_drop,show l.length - (l.length - j)=j by omega]
def GD(l:List UInt8):XY :=
 if 1000<l.length then .err 2 0 else rd l.length (l.length+1) [] [] (l.drop (sk .bol l))
end Go.Proofs.YthboeppmlhbofaaDoor.Txt
namespace Go.Proofs.YthboeppmlhbofaaDoor
open Go.RowKit Txt
set_option maxRecDepth 100000
theorem AA{p:Prop}(h:p):Hid p:=h
theorem AE{p:Prop}(h:Hid p):p:=h
def bs(s:ByteArray):List UInt8:=s.data.toList
theorem CJ(s:ByteArray):(bs s).length=s.size:=Array.length_toList
theorem NK{s:ByteArray}{j:Nat}(h:j<s.size):j<(bs s).length:=by rw[CJ];exact h
theorem Ie(s:ByteArray)(j:Nat)(h:j<s.size):(bs s).drop j=s[j] :: (bs s).drop (j+1):=by
 unfold bs
 rw[List.drop_eq_getElem_cons (by simpa using h)]
 rfl
theorem ES(s:ByteArray)(j:Nat)(h:s.size≤j):(bs s).drop j=[]:=by
 rw[List.drop_eq_nil_iff,CJ];exact h
theorem Bi{a b:Bool}(h:a=b):Ending.returned (.bool a)=.returned (.bool b):=by rw[h]
theorem DV{k:IntKind}{a b:Int}(h:a=b):Ending.returned (.int k a)=.returned (.int k b):=by rw[h]
set_option maxHeartbeats 400000 in
theorem Hg(c:Int)(w:World) :
  Calls Tryd.prog 64 #[.int .u8 c] w fun e w'=>e=.returned (.bool (PF c))∧w'=w:=by
 go_enter Tryd.func64,Tryd.ntmps64
 go_wp2
 all_goals go_ret
 all_goals refine⟨Bi ?_,rfl⟩
 all_goals simp_all[PF]
set_option maxHeartbeats 400000 in
theorem Nm(s:ByteArray)(k:Nat)(w:World)(hs:s.size≤1000)(hk:k≤s.size) :
  Calls Tryd.prog 63 #[.string s,.int .i64 k] w fun e w'=>e=.returned (.int .i64 (k+Cy ((bs s).drop k):Nat))∧w'=w:=by
 go_enter Tryd.func63,Tryd.ntmps63
 go_wp2
 go_loop [1] (fun i=>∃ j:Nat,j≤s.size∧i=.int .i64 j∧Hid (j+Cy ((bs s).drop j)=k+Cy ((bs s).drop k))) (fun i=>s.size - (intOf i).toNat)
 case atStart=>exact⟨k,hk,rfl,rfl⟩
 case round =>
  obtain⟨j,hj,rfl,hl⟩:=hrel
  by_cases hlt:j<s.size
  ·have hd:=Ie s j hlt
   cases hb:((s[j].toNat:Int) != 10)
   ·have HS:Hid (Cy ((bs s).drop j)=0):=by
     have:JP s[j]=true:=by simpa [JP] using hb
     show _=_
     rw[hd];simp[Cy,this]
    clear hd
    go_wp2
    go_ret
    refine⟨DV ?_,rfl⟩
    have h1:=hl.out;have h2:=HS.out
    show((j:Nat):Int)=_
    omega
   ·have HS:Hid (Cy ((bs s).drop j)=Cy ((bs s).drop (j+1))+1):=by
     have:JP s[j]=false:=by simpa [JP] using hb
     show _=_
     rw[hd];simp[Cy,this]
    clear hd
    go_wp2
    go_round
    case rel=>exact⟨j+1,by omega,by go_num,by have h1:=hl.out;have h2:=HS.out;show _=_;omega⟩
    case measure=>simp[intOf];omega
  ·have HS:Hid (Cy ((bs s).drop j)=0):=by
    show _=_
    rw[ES s j (by omega)];rfl
   go_wp2
   go_ret
   refine⟨DV ?_,rfl⟩
   have h1:=hl.out;have h2:=HS.out
   show((j:Nat):Int)=_
   omega
set_option maxHeartbeats 400000 in
theorem Oh(s:ByteArray)(k:Nat)(w:World)(hs:s.size≤4194304)(hk:k≤s.size) :
  Calls Tryd.prog 41 #[.string s,.int .i64 k] w fun e w'=>e=.returned (.int .i64 (k+CR ((bs s).drop k):Nat))∧w'=w:=by
 go_enter Tryd.func41,Tryd.ntmps41
 go_wp2
 go_loop [1] (fun i=>∃ j:Nat,j≤s.size∧i=.int .i64 j∧Hid (j+CR ((bs s).drop j)=k+CR ((bs s).drop k))) (fun i=>s.size - (intOf i).toNat)
 case atStart=>exact⟨k,hk,rfl,rfl⟩
 case round =>
  obtain⟨j,hj,rfl,hl⟩:=hrel
  by_cases hlt:j<s.size
  ·have hd:=Ie s j hlt
   cases hb:PF (s[j].toNat:Int)
   ·have HS:Hid (CR ((bs s).drop j)=CR ((bs s).drop (j+1))+1):=by
     have:EZ s[j]=false:=hb
     show _=_
     rw[hd];simp[CR,this]
    clear hd
    go_wp2_with (go_at_call 64;refine(Hg _ _).mono ?_;rintro e w' ⟨rfl,rfl⟩)
    go_round
    case rel=>exact⟨j+1,by omega,by go_num,by have h1:=hl.out;have h2:=HS.out;show _=_;omega⟩
    case measure=>simp[intOf];omega
   ·have HS:Hid (CR ((bs s).drop j)=0):=by
     have:EZ s[j]=true:=hb
     show _=_
     rw[hd];simp[CR,this]
    clear hd
    go_wp2_with (go_at_call 64;refine(Hg _ _).mono ?_;rintro e w' ⟨rfl,rfl⟩)
    go_ret
    refine⟨DV ?_,rfl⟩
    have h1:=hl.out;have h2:=HS.out
    show((j:Nat):Int)=_
    omega
  ·have HS:Hid (CR ((bs s).drop j)=0):=by
    show _=_
    rw[ES s j (by omega)];rfl
   go_wp2
   go_ret
   refine⟨DV ?_,rfl⟩
   have h1:=hl.out;have h2:=HS.out
   show((j:Nat):Int)=_
   omega
theorem FU(s:ByteArray)(j:Nat)(h:j<s.size):(bs s).getD j 0=s[j]:=by
 have h':j<(bs s).length:=by rw[CJ];exact h
 rw[List.getD_eq_getElem?_getD,List.getElem?_eq_getElem h']
 rfl
set_option maxHeartbeats 400000 in
theorem Dp(s:ByteArray)(k:Nat)(w:World)(hs:s.size≤1000)(hk:k<s.size) :
  Calls Tryd.prog 62 #[.string s,.int .i64 k] w fun e w'=>e=.returned (.bool (KQ (bs s) k))∧w'=w:=by
 have g1:=FU s k hk
 cases h1:((s[k].toNat:Int) == 99)
 ·have H:Hid (KQ (bs s) k=false):=by show _=_;rw[KQ,g1,h1];rfl
  clear g1
  go_enter Tryd.func62,Tryd.ntmps62
  go_wp2
  go_ret
  exact⟨Bi H.out.symm,rfl⟩
 ·by_cases h2:k=0
  ·subst h2
   have H:Hid (KQ (bs s) 0=true):=by show _=_;rw[KQ,g1,h1];rfl
   clear g1
   go_enter Tryd.func62,Tryd.ntmps62
   go_wp2
   go_ret
   exact⟨Bi H.out.symm,rfl⟩
  ·obtain⟨j,rfl⟩:∃ j,k=j+1:=⟨k - 1,by omega⟩
   have hj:j<s.size:=by omega
   have g2:=FU s j hj
   have H:Hid (KQ (bs s) (j+1)=((s[j].toNat:Int) == 10)):=by
    show _=_
    rw[KQ,g1,h1,Nat.add_sub_cancel,g2];simp[JP]
   clear g1 g2
   go_enter Tryd.func62,Tryd.ntmps62
   go_wp2
   go_ret
   exact⟨Bi H.out.symm,rfl⟩
set_option maxHeartbeats 400000 in
theorem It(s:ByteArray)(k:Nat)(w:World)(hs:s.size≤1000)(hk:k≤s.size) :
  Calls Tryd.prog 40 #[.string s,.int .i64 k] w fun e w'=>e=.returned (.int .i64 (H5 (bs s) k:Nat))∧w'=w:=by
 go_enter Tryd.func40,Tryd.ntmps40
 go_wp2
 go_loop [1] (fun i=>∃ j:Nat,j≤s.size∧i=.int .i64 j∧Hid (H5 (bs s) j=H5 (bs s) k)) (fun i=>s.size - (intOf i).toNat)
 case atStart=>exact⟨k,hk,rfl,rfl⟩
 case round =>
  obtain⟨j,hj,rfl,hl⟩:=hrel
  by_cases hlt:j<s.size
  ·have g1:=FU s j hlt
   cases hc:KQ (bs s) j
   ·cases hb:PF (s[j].toNat:Int)
    ·have HS:Hid (H5 (bs s) j=j):=UR (NK hlt) hc (by rw[g1];exact hb)
     clear g1
     go_wp2_with (first
      | (go_at_call 64;refine(Hg _ _).mono ?_;rintro e w' ⟨rfl,rfl⟩)
      | (go_at_call 62;refine(Dp _ _ _ hs hlt).mono ?_;rintro e w' ⟨rfl,rfl⟩))
     go_ret
     refine⟨DV ?_,rfl⟩
     have h1:=hl.out;have h2:=HS.out
     show((j:Nat):Int)=_
     omega
    ·have HS:Hid (H5 (bs s) (j+1)=H5 (bs s) j):=V0 (NK hlt) (by rw[g1];exact hb)
     clear g1
     go_wp2_with (first
      | (go_at_call 64;refine(Hg _ _).mono ?_;rintro e w' ⟨rfl,rfl⟩)
      | (go_at_call 62;refine(Dp _ _ _ hs hlt).mono ?_;rintro e w' ⟨rfl,rfl⟩))
     go_round
     case rel=>exact⟨j+1,by omega,by go_num,HS.out.trans hl.out⟩
     case measure=>simp[intOf];omega
   ·have HS:Hid (H5 (bs s) (j+Cy ((bs s).drop j))=H5 (bs s) j):=Vy (NK hlt) hc
    have h3:0<Cy ((bs s).drop j):=T0 (NK hlt) hc
    have h4:j+Cy ((bs s).drop j)≤s.size:=by
     have:=Vq ((bs s).drop j)
     rw[List.length_drop,CJ] at this
     omega
    clear g1
    go_wp2_with (first
     | (go_at_call 63;refine(Nm _ _ _ hs hj).mono ?_;rintro e w' ⟨rfl,rfl⟩)
     | (go_at_call 62;refine(Dp _ _ _ hs hlt).mono ?_;rintro e w' ⟨rfl,rfl⟩))
    go_round
    case rel=>exact⟨j+Cy ((bs s).drop j),h4,by go_num,HS.out.trans hl.out⟩
    case measure=>simp[intOf];omega
  ·have HS:Hid (H5 (bs s) j=j):=Vz (by rw[CJ];omega)
   go_wp2
   go_ret
   refine⟨DV ?_,rfl⟩
   have h1:=hl.out;have h2:=HS.out
   show((j:Nat):Int)=_
   omega
theorem Ox(s:ByteArray)(h:s.size=0):bs s=[]:=List.eq_nil_of_length_eq_zero (by rw[CJ,h])
theorem QV(s:ByteArray)(h:0<s.size):bs s=s[0] :: (bs s).drop 1:=by
 have:=Ie s 0 h
 simpa using this
set_option maxHeartbeats 400000 in
theorem Cv(s:ByteArray)(w:World)(hs:s.size≤4194304) :
  Calls Tryd.prog 65 #[.string s] w fun e w'=>e=.returned (.bool (Ge (bs s)))∧w'=w:=by
 by_cases h0:s.size=0
 ·have H:Hid (Ge (bs s)=false):=by show _=_;rw[Ox s h0];rfl
  go_enter Tryd.func65,Tryd.ntmps65
  go_wp2
  go_ret
  exact⟨Bi H.out.symm,rfl⟩
 have hp:0<s.size:=by omega
 have hz:((s.size:Int) == 0)=false:=by rw[beq_eq_false_iff_ne];omega
 have hcs:=QV s hp
 cases h48:((s[0].toNat:Int) == 48)
 ·have HC:Hid (Ge (bs s)=(bs s).all E8):=by
   show _=_
   rw[hcs];simp only[Ge,h48];rfl
  clear hcs h0
  go_enter Tryd.func65,Tryd.ntmps65
  go_wp2
  go_loop [3] (fun i=>∃ j:Nat,j≤s.size∧i=.int .i64 j∧Hid (Ge (bs s)=((bs s).drop j).all E8)) (fun i=>s.size - (intOf i).toNat)
  case atStart=>exact⟨0,Nat.zero_le _,rfl,HC⟩
  case round =>
   obtain⟨j,hj,rfl,hl⟩:=hrel
   by_cases hlt:j<s.size
   ·have hd:=Ie s j hlt
    have HE:Hid (((bs s).drop j).all E8=(E8 s[j] && ((bs s).drop (j+1)).all E8)):=by show _=_;rw[hd];rfl
    clear hd
    by_cases hg:48≤(s[j].toNat:Int)∧(s[j].toNat:Int)≤57
    ·have HD:Hid (E8 s[j]=true):=by show _=_;simp only[E8,hg.1,hg.2];rfl
     obtain⟨g1,g2⟩:=hg
     go_wp2
     go_round
     case rel=>exact⟨j+1,by omega,by go_num,by show _=_;rw[hl.out,HE.out,HD.out] <;> rfl⟩
     case measure=>simp[intOf];omega
    ·have HD:Hid (E8 s[j]=false):=by
      show _=_
      simp only[E8,Bool.and_eq_false_iff,decide_eq_false_iff_not];omega
     by_cases h1:48≤(s[j].toNat:Int)
     ·have h2:57<(s[j].toNat:Int):=by omega
      clear hg
      go_wp2
      go_ret
      exact⟨Bi (by rw[hl.out,HE.out,HD.out] <;> rfl),rfl⟩
     ·have h2:(s[j].toNat:Int)<48:=by omega
      clear hg h1
      go_wp2
      go_ret
      exact⟨Bi (by rw[hl.out,HE.out,HD.out] <;> rfl),rfl⟩
   ·have HE:Hid (((bs s).drop j).all E8=true):=by show _=_;rw[ES s j (by omega)];rfl
    go_wp2
    go_ret
    exact⟨Bi (by rw[hl.out,HE.out] <;> rfl),rfl⟩
 ·have H:Hid (Ge (bs s)=false):=by show _=_;rw[hcs];simp only[Ge,h48];rfl
  clear hcs h0
  go_enter Tryd.func65,Tryd.ntmps65
  go_wp2
  go_ret
  exact⟨Bi H.out.symm,rfl⟩
theorem My(n:Int)(h:10<n)(l:List UInt8):DH n l=n:=by
 cases l with
 | nil=>rfl
 | cons c r=>simp only[DH];rw[if_neg (by omega)]
set_option maxHeartbeats 400000 in
theorem Hq(s:ByteArray)(w:World)(hs:s.size≤4194304)(hdg:Hid ((bs s).all E8=true)) :
  Calls Tryd.prog 66 #[.string s] w fun e w'=>e=.returned (.int .i64 (Db (bs s)))∧w'=w:=by
 go_enter Tryd.func66,Tryd.ntmps66
 go_wp2
 go_loop [3,4] (fun x i=>∃ (j:Nat) (n:Int),j≤s.size∧i=.int .i64 j∧x=.int .i64 n∧0≤n∧n≤109∧Hid (Db (bs s)=DH n ((bs s).drop j))∧Hid (((bs s).drop j).all E8=true)) (fun _ i=>s.size - (intOf i).toNat)
 case atStart=>exact⟨0,0,Nat.zero_le _,rfl,rfl,by omega,by omega,rfl,hdg⟩
 case round =>
  obtain⟨j,n,hj,rfl,rfl,hn0,hn1,hl,hdj⟩:=hrel
  by_cases hlt:j<s.size
  ·have hd:=Ie s j hlt
   have hda:E8 s[j]=true∧((bs s).drop (j+1)).all E8=true:=by
    have:=hdj.out;rw[hd] at this;simpa using this
   have h1:48≤(s[j].toNat:Int):=by have:=hda.1;simp only[E8,Bool.and_eq_true,decide_eq_true_eq] at this;exact this.1
   have h2:(s[j].toNat:Int)≤57:=by have:=hda.1;simp only[E8,Bool.and_eq_true,decide_eq_true_eq] at this;exact this.2
   have HD:Hid (((bs s).drop (j+1)).all E8=true):=hda.2
   clear hda
   by_cases hle:n≤10
   ·have HS:Hid (DH n ((bs s).drop j)=DH (n*10+((s[j].toNat:Int) - 48)) ((bs s).drop (j+1))):=by
     show _=_
     rw[hd];simp only[DH];rw[if_pos hle]
    clear hd
    go_wp2
    go_round
    case rel=>exact⟨j+1,n*10+((s[j].toNat:Int) - 48),by omega,by go_num,by go_num,by omega,by omega,hl.out.trans HS.out,HD⟩
    case measure=>simp[intOf];omega
   ·have HS:=My n (by omega) ((bs s).drop j)
    have HS':Hid (DH n ((bs s).drop j)=n):=HS
    clear HS hd
    have hgt:10<n:=by omega
    go_wp2
    go_ret
    exact⟨DV (by rw[hl.out,HS'.out] <;> rfl),rfl⟩
  ·have HS':Hid (DH n ((bs s).drop j)=n):=by show _=_;rw[ES s j (by omega)];rfl
   go_wp2
   go_ret
   exact⟨DV (by rw[hl.out,HS'.out] <;> rfl),rfl⟩
theorem KM(s:ByteArray)(a b:Nat):bs (s.extract a b)=((bs s).drop a).take (b - a):=by
 unfold bs
 rw[ByteArray.data_extract];simp
theorem Ve(s:ByteArray):bs (s.extract 1 s.size)=(bs s).drop 1:=by
 rw[KM,List.take_of_length_le (by rw[List.length_drop,CJ];exact Nat.le_refl _)]
theorem SX(s:ByteArray):(s.extract 1 s.size).size=s.size - 1:=by simp
theorem Ld(s:ByteArray):s.toList=bs s:=Lib.toList_data s
def LQ(neg:Bool)(d:List UInt8):Int × Int:=if Ge d then (if Db d≤10 then ((if neg then -Db d else Db d),0) else (0,4)) else (0,3)
theorem MQ{d:List UInt8}(h:Ge d=true):d.all E8=true:=by
 cases d with
 | nil=>cases h
 | cons c r=>simp only[Ge,Bool.and_eq_true] at h;exact h.2
theorem TV{d:List UInt8}(h:Ge d=true):0≤Db d∧Db d≤109:=QB d (MQ h) 0 (by omega) (by omega)
theorem Fe{a b c d:Int}(h:a=c)(h':b=d):Ending.returned (.tuple #[.int .i64 a,.int .i64 b])=.returned (.tuple #[.int .i64 c,.int .i64 d]):=by rw[h,h']
set_option maxHeartbeats 1000000 in
theorem PZ(s:ByteArray)(w:World)(hs:s.size≤4194304) :
  Calls Tryd.prog 42 #[.string s] w fun e w'=>e=.returned (.tuple #[.int .i64 (CQ (bs s)).1,.int .i64 (CQ (bs s)).2])∧w'=w:=by
 by_cases h48:bs s=[48]
 ·have hb:(s.toList == [48])=true:=by rw[Ld,h48];rfl
  have H:Hid (CQ (bs s)=(0,0)):=by show _=_;rw[h48];rfl
  clear h48
  go_enter Tryd.func42,Tryd.ntmps42
  go_wp2
  go_ret2
  exact⟨Fe (congrArg Prod.fst H.out).symm (congrArg Prod.snd H.out).symm,rfl⟩
 have hb:(s.toList == [48])=false:=by rw[Ld];exact beq_eq_false_iff_ne.2 h48
 by_cases h0:s.size=0
 ·have H:Hid (CQ (bs s)=(0,3)):=by show _=_;rw[Ox s h0];rfl
  have hq:Ge (bs s)=false:=by rw[Ox s h0];rfl
  clear h48
  go_enter Tryd.func42,Tryd.ntmps42
  go_wp2_with (go_at_call 65;refine(Cv _ _ hs).mono ?_;rintro e w' ⟨rfl,rfl⟩)
  go_ret2
  exact⟨Fe (congrArg Prod.fst H.out).symm (congrArg Prod.snd H.out).symm,rfl⟩
 have hp:0<s.size:=by omega
 have hcs:=QV s hp
 cases h45:((s[0].toNat:Int) == 45)
 ·have HN:CQ (bs s)=LQ false (bs s):=by
   unfold CQ
   rw[if_neg h48,hcs]
   simp only[h45,LQ];rfl
  clear hcs h48 h0
  cases hc:Ge (bs s)
  ·have H:Hid (CQ (bs s)=(0,3)):=by show _=_;rw[HN];simp only[LQ,hc];rfl
   clear HN
   go_enter Tryd.func42,Tryd.ntmps42
   go_wp2_with (go_at_call 65;refine(Cv _ _ hs).mono ?_;rintro e w' ⟨rfl,rfl⟩)
   go_ret2
   exact⟨Fe (congrArg Prod.fst H.out).symm (congrArg Prod.snd H.out).symm,rfl⟩
  ·have hall:Hid ((bs s).all E8=true):=MQ hc
   obtain⟨hb0,hb1⟩:=TV hc
   by_cases hle:Db (bs s)≤10
   ·have H:Hid (CQ (bs s)=(Db (bs s),0)):=by show _=_;rw[HN];simp only[LQ,hc,if_pos hle];rfl
    clear HN
    go_enter Tryd.func42,Tryd.ntmps42
    go_wp2_with (first
     | (go_at_call 65;refine(Cv _ _ hs).mono ?_;rintro e w' ⟨rfl,rfl⟩)
     | (go_at_call 66;refine(Hq _ _ hs hall).mono ?_;rintro e w' ⟨rfl,rfl⟩))
    go_ret2
    exact⟨Fe (congrArg Prod.fst H.out).symm (congrArg Prod.snd H.out).symm,rfl⟩
   ·have H:Hid (CQ (bs s)=(0,4)):=by show _=_;rw[HN];simp only[LQ,hc,if_neg hle];rfl
    have hgt:10<Db (bs s):=by omega
    clear HN hle
    go_enter Tryd.func42,Tryd.ntmps42
    go_wp2_with (first
     | (go_at_call 65;refine(Cv _ _ hs).mono ?_;rintro e w' ⟨rfl,rfl⟩)
     | (go_at_call 66;refine(Hq _ _ hs hall).mono ?_;rintro e w' ⟨rfl,rfl⟩))
    go_ret2
    exact⟨Fe (congrArg Prod.fst H.out).symm (congrArg Prod.snd H.out).symm,rfl⟩
 ·have HN:CQ (bs s)=LQ true ((bs s).drop 1):=by
   unfold CQ
   rw[if_neg h48]
   rw[hcs]
   simp only[h45,LQ];rfl
  have hse:(s.extract 1 s.size).size≤4194304:=by rw[SX];omega
  have hbt:=Ve s
  clear hcs h48 h0
  generalize hd:(bs s).drop 1=d at HN hbt
  cases hc:Ge d
  ·have H:Hid (CQ (bs s)=(0,3)):=by show _=_;rw[HN];simp only[LQ,hc];rfl
   have hc':Ge (bs (s.extract 1 s.size))=false:=by rw[hbt];exact hc
   clear HN hc hbt hd
   go_enter Tryd.func42,Tryd.ntmps42
   go_wp2_with (go_at_call 65;refine(Cv _ _ hse).mono ?_;rintro e w' ⟨rfl,rfl⟩)
   go_ret2
   exact⟨Fe (congrArg Prod.fst H.out).symm (congrArg Prod.snd H.out).symm,rfl⟩
  ·have hc':Ge (bs (s.extract 1 s.size))=true:=by rw[hbt];exact hc
   have hall:Hid ((bs (s.extract 1 s.size)).all E8=true):=MQ hc'
   obtain⟨hb0,hb1⟩:=TV hc'
   have hdd:Hid (Db (bs (s.extract 1 s.size))=Db d):=by show _=_;rw[hbt]
   by_cases hle:Db d≤10
   ·have H:Hid (CQ (bs s)=(-Db (bs (s.extract 1 s.size)),0)):=by show _=_;rw[HN,hdd.out];simp only[LQ,hc,if_pos hle];rfl
    have hle':Db (bs (s.extract 1 s.size))≤10:=by rw[hdd.out];exact hle
    clear HN hc hbt hd hdd hle
    go_enter Tryd.func42,Tryd.ntmps42
    go_wp2_with (first
     | (go_at_call 65;refine(Cv _ _ hse).mono ?_;rintro e w' ⟨rfl,rfl⟩)
     | (go_at_call 66;refine(Hq _ _ hse hall).mono ?_;rintro e w' ⟨rfl,rfl⟩))
    go_ret2
    exact⟨Fe (congrArg Prod.fst H.out).symm (congrArg Prod.snd H.out).symm,rfl⟩
   ·have H:Hid (CQ (bs s)=(0,4)):=by show _=_;rw[HN];simp only[LQ,hc,if_neg hle];rfl
    have hgt:10<Db (bs (s.extract 1 s.size)):=by rw[hdd.out];omega
    clear HN hc hbt hd hdd hle
    go_enter Tryd.func42,Tryd.ntmps42
    go_wp2_with (first
     | (go_at_call 65;refine(Cv _ _ hse).mono ?_;rintro e w' ⟨rfl,rfl⟩)
     | (go_at_call 66;refine(Hq _ _ hse hall).mono ?_;rintro e w' ⟨rfl,rfl⟩))
    go_ret2
    exact⟨Fe (congrArg Prod.fst H.out).symm (congrArg Prod.snd H.out).symm,rfl⟩
def AK(n:Int):Bool:=n != 0 && decide (-10≤n) && decide (n≤10)
set_option maxHeartbeats 400000 in
theorem PL(n:Int)(w:World):Calls Tryd.prog 59 #[.int .i64 n] w fun e w'=>e=.returned (.bool (AK n))∧w'=w:=by
 go_enter Tryd.func59,Tryd.ntmps59
 go_wp2
 all_goals go_ret
 all_goals refine⟨Bi ?_,rfl⟩
 all_goals first
  | (simp_all[AK];done)
  | (simp_all[AK];omega)
open Go.RowKit Txt
def Ad(w:World)(a:Option Addr)(xs:List Int):Prop :=
 xs=[]∨∃ b off,a=some ⟨b,off,none⟩∧∀ j,j<xs.length→w.cell? ⟨b,off+j,none⟩=some (.int .i64 (xs.getD j 0))
def Br(w:World)(a:Option Addr)(A:Nat→Option Addr)(C:Nat→Nat)(xss:List (List Int)):Prop :=
 xss=[]∨∃ b off,a=some ⟨b,off,none⟩∧∀ r,r<xss.length→w.cell? ⟨b,off+r,none⟩=some (.slice (A r) (xss.getD r []).length (C r))∧Ad w (A r) (xss.getD r [])∧(xss.getD r []).length≤9223372036854775807
theorem Ad.get{w:World}{a:Option Addr}{xs:List Int}(h:Ad w a xs)(hp:0<xs.length) :
  ∃ b off,a=some ⟨b,off,none⟩∧∀ j,j<xs.length→w.cell? ⟨b,off+j,none⟩=some (.int .i64 (xs.getD j 0)):=by
 rcases h with rfl | h
 ·simp at hp
 ·exact h
theorem Br.get{w:World}{a:Option Addr}{A:Nat→Option Addr}{C:Nat→Nat}{xss:List (List Int)}(h:Br w a A C xss)(hp:0<xss.length) :
  ∃ b off,a=some ⟨b,off,none⟩∧∀ r,r<xss.length→w.cell? ⟨b,off+r,none⟩=some (.slice (A r) (xss.getD r []).length (C r))∧Ad w (A r) (xss.getD r [])∧(xss.getD r []).length≤9223372036854775807:=by
 rcases h with rfl | h
 ·simp at hp
 ·exact h
theorem Ad.kept{w w':World}{a:Option Addr}{xs:List Int}(h:Ad w a xs)(hk:∀ b off v,w.cell? ⟨b,off,none⟩=some v→w'.cell? ⟨b,off,none⟩=some v):Ad w' a xs:=by
 rcases h with h | ⟨b,off,ha,h⟩
 ·exact .inl h
 ·exact .inr ⟨b,off,ha,fun j hj=>hk _ _ _ (h j hj)⟩
theorem Br.kept{w w':World}{a:Option Addr}{A:Nat→Option Addr}{C:Nat→Nat}{xss:List (List Int)}(h:Br w a A C xss)(hk:∀ b off v,w.cell? ⟨b,off,none⟩=some v→w'.cell? ⟨b,off,none⟩=some v):Br w' a A C xss:=by
 rcases h with h | ⟨b,off,ha,h⟩
 ·exact .inl h
 ·exact .inr ⟨b,off,ha,fun r hr=>⟨hk _ _ _ (h r hr).1,(h r hr).2.1.kept hk,(h r hr).2.2⟩⟩
theorem CK{α:Type}(l:List α)(d:α)(j:Nat)(h:j<l.length):l.drop j=l.getD j d :: l.drop (j+1):=by
 rw[List.drop_eq_getElem_cons h,List.getD_eq_getElem?_getD,List.getElem?_eq_getElem h];rfl
def Wp{α:Type} [DecidableEq α](a b:α):Bool:=decide (a=b)
theorem YE{α:Type} [DecidableEq α](xs ys:List α)(d:α)(j:Nat)(h1:j<xs.length)(h2:j<ys.length) :
  Wp (xs.drop j) (ys.drop j)=(Wp (xs.getD j d) (ys.getD j d) && Wp (xs.drop (j+1)) (ys.drop (j+1))):=by
 rw[CK xs d j h1,CK ys d j h2]
 simp only[Wp,List.cons.injEq,Bool.decide_and]
theorem Ys{α:Type} [DecidableEq α](xs ys:List α)(h:xs.length≠ys.length):Wp xs ys=false:=by
 simp only[Wp,decide_eq_false_iff_not]
 intro e;exact h (by rw[e])
theorem Yr{α:Type} [DecidableEq α](xs ys:List α)(j:Nat)(h1:xs.length≤j)(h2:ys.length≤j):Wp (xs.drop j) (ys.drop j)=true:=by
 rw[List.drop_eq_nil_of_le h1,List.drop_eq_nil_of_le h2];simp[Wp]
def H4(xss:List (List Int)):Bool:=xss.all (·.all AK)
set_option maxHeartbeats 1000000 in
theorem Ga(a:Option Addr)(n c:Nat)(A:Nat→Option Addr)(C:Nat→Nat)(xss:List (List Int))(w:World)(hn:n=xss.length)(hbd:n≤9223372036854775807)(hr:Br w a A C xss) :
  Calls Tryd.prog 38 #[.slice a n c] w fun e w'=>e=.returned (.bool (H4 xss))∧w'=w:=by
 subst hn
 go_enter Tryd.func38,Tryd.ntmps38
 go_wp2
 go_loop [9] (fun i=>∃ k:Nat,k≤xss.length∧i=.int .i64 k∧Hid (H4 xss=H4 (xss.drop k))) (fun i=>xss.length - (intOf i).toNat)
 case atStart=>exact⟨0,Nat.zero_le _,rfl,rfl⟩
 case round =>
  obtain⟨k,hk,rfl,hl⟩:=hrel
  by_cases hlt:k<xss.length
  ·obtain⟨b,off,rfl,hc⟩:=hr.get (by omega)
   obtain⟨h1,h2,hbi⟩:=hc k (by omega)
   have HD:Hid (H4 (xss.drop k)=((xss.getD k []).all AK && H4 (xss.drop (k+1)))):=by
    show _=_
    rw[CK xss [] k (by omega)];rfl
   clear hc hr
   generalize xss.getD k []=xs at h1 h2 HD hbi
   generalize A k=ak at h1 h2
   go_wp2
   go_loop [15] (fun i=>∃ j:Nat,j≤xs.length∧i=.int .i64 j∧Hid (xs.all AK=(xs.drop j).all AK)) (fun i=>xs.length - (intOf i).toNat)
   case atStart=>exact⟨0,Nat.zero_le _,rfl,rfl⟩
   case round =>
    obtain⟨j,hj,rfl,hl2⟩:=hrel
    by_cases hlt2:j<xs.length
    ·obtain⟨b2,off2,rfl,hc2⟩:=h2.get (by omega)
     have h3:=hc2 j hlt2
     have HE:Hid ((xs.drop j).all AK=(AK (xs.getD j 0) && (xs.drop (j+1)).all AK)):=by
      show _=_
      rw[CK xs 0 j hlt2];rfl
     clear h2 hc2
     generalize xs.getD j 0=x at h3 HE
     cases hb:AK x
     ·go_wp2_with (go_at_call 59;refine(PL _ _).mono ?_;rintro e w' ⟨rfl,rfl⟩)
      go_ret
      exact⟨Bi (by rw[hl.out,HD.out,hl2.out,HE.out,hb] <;> rfl),rfl⟩
     ·go_wp2_with (go_at_call 59;refine(PL _ _).mono ?_;rintro e w' ⟨rfl,rfl⟩)
      go_round
      case rel=>exact⟨j+1,by omega,by go_num,by show _=_;rw[hl2.out,HE.out,hb] <;> rfl⟩
      case measure=>simp[intOf];omega
    ·have HE:Hid ((xs.drop j).all AK=true):=by show _=_;rw[List.drop_eq_nil_of_le (by omega)];rfl
     go_wp2
     go_round
     case rel=>exact⟨k+1,by omega,by go_num,by show _=_;rw[hl.out,HD.out,hl2.out,HE.out] <;> rfl⟩
     case measure=>simp[intOf];omega
  ·have HE:Hid (H4 (xss.drop k)=true):=by show _=_;rw[List.drop_eq_nil_of_le (by omega)];rfl
   go_wp2
   go_ret
   exact⟨Bi (by rw[hl.out,HE.out] <;> rfl),rfl⟩
end Go.Proofs.YthboeppmlhbofaaDoor
