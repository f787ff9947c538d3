import Derived.Laws.Wrap64
import Derived.Test.YthboeppmlhbofaaGreatDoorProg
import Derived.WalkKit
import Derived.WalkSpells
import Derived.WalkLawsBesides
import Derived.Lib.Bytes
import Derived.Deep.QuietTactic
import Derived.BigQuiet
namespace Go.Proofs.YthboeppmlhbofaaGreatDoor.Txt
def MD(c:Int):Bool:=c == 32 || c == 10
def JG(c:UInt8):Bool:=(c.toNat:Int) == 10
def Ey(c:UInt8):Bool:=MD c.toNat
def Cg:List UInt8→Nat
 | []=>0
 | c :: r=>if JG c then 0 else Cg r+1
def CN:List UInt8→Nat
 | []=>0
 | c :: r=>if Ey c then 0 else CN r+1
inductive Md | bol | mid | com
def sk:Md→List UInt8→Nat
 | _,[]=>0
 | .com,c :: r=>if JG c then sk .bol r+1 else sk .com r+1
 | .bol,c :: r=>if (c.toNat:Int) == 99 then sk .com r+1 else if Ey c then (if JG c then sk .bol r else sk .mid r)+1 else 0
 | .mid,c :: r=>if Ey c then (if JG c then sk .bol r else sk .mid r)+1 else 0
theorem J7{c:UInt8}(h:JG c=true):Ey c=true:=by
 simp only[JG,Ey,MD] at *
 simp[h]
theorem Tp{c:UInt8}(h:JG c=true):((c.toNat:Int) == 99)=false:=by
 simp only[JG,beq_iff_eq] at h
 simp[h]
theorem Lx{c:UInt8}(h:Ey c=true):((c.toNat:Int) == 99)=false:=by
 simp only[Ey,MD,Bool.or_eq_true,beq_iff_eq] at h
 rcases h with h | h <;> simp[h]
theorem cn(l:List UInt8):sk .com l=Cg l+sk .bol (l.drop (Cg l)):=by
 induction l with
 | nil=>rfl
 | cons c r ih =>
  by_cases h:JG c=true
  ·simp[sk,Cg,h,J7 h,Tp h]
  ·simp only[Bool.not_eq_true] at h
   simp[sk,Cg,h,ih]
   omega
def OE:List UInt8→Prop
 | []=>True
 | c :: _=>Ey c=true
theorem S8(l:List UInt8):OE (l.drop (CN l)):=by
 induction l with
 | nil=>exact trivial
 | cons c r ih =>
  by_cases h:Ey c=true
  ·simp[CN,h,OE]
  ·simp only[Bool.not_eq_true] at h
   simpa [CN,h] using ih
theorem NX{l:List UInt8}(h:OE l):sk .bol l=sk .mid l:=by
 cases l with
 | nil=>rfl
 | cons c r =>
  have h':Ey c=true:=h
  simp[sk,h',Lx h']
theorem Pb(l:List UInt8):Cg l≤l.length:=by
 induction l with
 | nil=>simp[Cg]
 | cons c r ih=>simp only[Cg];split <;> simp <;> omega
theorem LS(l:List UInt8):CN l≤l.length:=by
 induction l with
 | nil=>simp[CN]
 | cons c r ih=>simp only[CN];split <;> simp <;> omega
theorem cG(m:Md)(l:List UInt8):sk m l≤l.length:=by
 induction l generalizing m with
 | nil=>cases m <;> simp[sk]
 | cons c r ih =>
  have h1:=ih .bol;have h2:=ih .mid;have h3:=ih .com
  cases m <;> simp only[sk,List.length_cons] <;> repeat' split
  all_goals omega
def JC(l:List UInt8)(p:Nat):Md:=if p=0 then .bol else if JG (l.getD (p - 1) 0) then .bol else .mid
def Mj(l:List UInt8)(p:Nat):Bool:=((l.getD p 0).toNat:Int) == 99 && (decide (p=0) || JG (l.getD (p - 1) 0))
def nxt(l:List UInt8)(p:Nat):Nat:=p+sk (JC l p) (l.drop p)
theorem Hp{l:List UInt8}{j:Nat}(h:j<l.length):l.drop j=l.getD j 0 :: l.drop (j+1):=by
 rw[List.drop_eq_getElem_cons h,List.getD_eq_getElem?_getD,List.getElem?_eq_getElem h]
 rfl
theorem U8{l:List UInt8}{j:Nat}(h:l.length≤j):nxt l j=j:=by
 unfold nxt
 rw[List.drop_eq_nil_of_le h]
 cases JC l j <;> simp[sk]
theorem NI{l:List UInt8}{j:Nat}(h:j<l.length)(hc:Mj l j=false)(hg:Ey (l.getD j 0)=false):nxt l j=j:=by
 unfold nxt
 rw[Hp h]
 unfold JC
 unfold Mj at hc
 by_cases h0:j=0
 ·subst h0
  simp only[decide_true,Bool.true_or,Bool.and_true] at hc
  simp only[if_true,sk,hc,hg]
  rfl
 ·rw[if_neg h0]
  cases hn:JG (l.getD (j - 1) 0)
  ·simp only[Bool.false_eq_true,if_false,sk,hg];rfl
  ·simp only[hn,Bool.or_true,Bool.and_true] at hc
   simp only[if_true,sk,hc,hg];rfl
theorem RU{c:UInt8}(h:((c.toNat:Int) == 99)=true):JG c=false:=by
 simp only[beq_iff_eq] at h
 simp[JG,h]
theorem U9{l:List UInt8}{j:Nat}(h:j<l.length)(hg:Ey (l.getD j 0)=true):nxt l (j+1)=nxt l j:=by
 have h9:=Lx hg
 have e:sk (JC l j) (l.drop j)=sk (JC l (j+1)) (l.drop (j+1))+1:=by
  rw[Hp h]
  have:JC l (j+1)=if JG (l.getD j 0) then .bol else .mid:=by simp[JC]
  rw[this]
  unfold JC
  split
  ·simp only[sk,h9,hg];cases JG (l.getD j 0) <;> simp
  ·split <;> (simp only[sk,h9,hg];cases JG (l.getD j 0) <;> simp)
 unfold nxt
 omega
theorem Mz{l:List UInt8}{j:Nat}(h:j<l.length)(hc:Mj l j=true):0<Cg (l.drop j):=by
 rw[Hp h]
 simp only[Mj,Bool.and_eq_true] at hc
 have:JG (l.getD j 0)=false:=RU hc.1
 simp only[Cg,this]
 simp
theorem S6(l:List UInt8):OE (l.drop (Cg l)):=by
 induction l with
 | nil=>exact trivial
 | cons c r ih =>
  by_cases h:JG c=true
  ·simp[Cg,h,OE,J7 h]
  ·simp only[Bool.not_eq_true] at h
   simpa [Cg,h] using ih
theorem Pf{l:List UInt8}{j:Nat}(h:j<l.length)(hc:Mj l j=true):nxt l (j+Cg (l.drop j))=nxt l j:=by
 have hb:JC l j=.bol:=by
  simp only[Mj,Bool.and_eq_true,Bool.or_eq_true,decide_eq_true_eq] at hc
  unfold JC
  rcases hc.2 with h0 | h0
  ·rw[if_pos h0]
  ·rw[if_pos h0]
   split <;> rfl
 have h99:(((l.getD j 0).toNat:Int) == 99)=true:=by
  simp only[Mj,Bool.and_eq_true] at hc;exact hc.1
 have hn:JG (l.getD j 0)=false:=RU h99
 have e1:Cg (l.drop j)=Cg (l.drop (j+1))+1:=by rw[Hp h];simp only[Cg,hn];rfl
 have e2:sk (JC l j) (l.drop j)=sk .com (l.drop (j+1))+1:=by rw[hb,Hp h];simp only[sk,h99];rfl
 have e3:=cn (l.drop (j+1))
 have e4:(l.drop (j+1)).drop (Cg (l.drop (j+1)))=l.drop (j+Cg (l.drop j)):=by rw[List.drop_drop,e1];congr 1;omega
 have e5:=S6 (l.drop (j+1))
 rw[e4] at e3 e5
 have e6:sk (JC l (j+Cg (l.drop j))) (l.drop (j+Cg (l.drop j)))=sk .bol (l.drop (j+Cg (l.drop j))):=by
  unfold JC
  split
  ·rfl
  ·split
   ·rfl
   ·exact(NX e5).symm
 unfold nxt
 omega
def DQ(c:UInt8):Bool:=decide (48≤(c.toNat:Int)) && decide ((c.toNat:Int)≤57)
def EV:List UInt8→Bool
 | []=>false
 | c :: r=>!((c.toNat:Int) == 48) && (c :: r).all DQ
def Br(n:Int):List UInt8→Int
 | []=>n
 | c :: r=>if n≤10 then Br (n*10+((c.toNat:Int) - 48)) r else n
def Dr(l:List UInt8):Int:=Br 0 l
def BU(l:List UInt8):Int × Int :=
 if l=[48] then (0,0) else
  match l with
  | []=>(0,3)
  | c :: r =>
   if (c.toNat:Int) == 45 then (if EV r then (if Dr r≤10 then (-Dr r,0) else (0,4)) else (0,3))
   else (if EV (c :: r) then (if Dr (c :: r)≤10 then (Dr (c :: r),0) else (0,4)) else (0,3))
theorem UY(l:List UInt8)(hd:l.all DQ=true)(n:Int)(h0:0≤n)(h1:n≤109):0≤Br n l∧Br n l≤109:=by
 induction l generalizing n with
 | nil=>exact⟨h0,h1⟩
 | cons c r ih =>
  simp only[List.all_cons,Bool.and_eq_true,DQ,decide_eq_true_eq] at hd
  simp only[Br]
  split
  ·exact ih hd.2 _ (by omega) (by omega)
  ·exact⟨h0,h1⟩
inductive dK
 | err (e:Int) (p:Nat)
 | ok (cl:List (List Int))
def rd(L:Nat):Nat→List (List Int)→List Int→List UInt8→dK
 | 0,_,_,_=>.ok []
 | f+1,cl,op,l =>
  if l=[] then (if op=[] then .ok cl else .err 3 L)
  else
   let x:=BU (l.take (CN l))
   let r:=l.drop (CN l)
   if x.2≠0 then .err x.2 (L - l.length)
   else if x.1=0 then rd L f (cl++[op]) [] (r.drop (sk .mid r))
   else rd L f cl (op++[x.1]) (r.drop (sk .mid r))
theorem bV(m:Md)(l:List UInt8):∀ c r,l.drop (sk m l)=c :: r→Ey c=false:=by
 induction l generalizing m with
 | nil=>intro c r h;cases m <;> simp[sk] at h
 | cons d l ih =>
  have key:∀ n (m':Md) (c:UInt8) (r:List UInt8),n=sk m' l+1→(d :: l).drop n=c :: r→Ey c=false:=by
   intro n m' c r hn h
   subst hn
   rw[List.drop_succ_cons] at h
   exact ih m' c r h
  have stop:∀ (c:UInt8) (r:List UInt8),Ey d=false→(d :: l).drop 0=c :: r→Ey c=false:=by
   intro c r hd h
   simp only[List.drop_zero,List.cons.injEq] at h
   rw[← h.1];exact hd
  intro c r h
  cases m with
  | com =>
   simp only[sk] at h
   split at h
   ·exact key _ _ c r rfl h
   ·exact key _ _ c r rfl h
  | bol =>
   simp only[sk] at h
   split at h
   ·exact key _ _ c r rfl h
   ·split at h
    ·split at h
     ·exact key _ _ c r rfl h
     ·exact key _ _ c r rfl h
    ·exact stop c r (by simpa using ‹¬Ey d=true›) h
  | mid =>
   simp only[sk] at h
   split at h
   ·split at h
    ·exact key _ _ c r rfl h
    ·exact key _ _ c r rfl h
   ·exact stop c r (by simpa using ‹¬Ey d=true›) h
def Ik:List UInt8→Prop
 | []=>True
 | c :: _=>Ey c=false
theorem Vg(m:Md)(l:List UInt8):Ik (l.drop (sk m l)):=by
 cases h:l.drop (sk m l) with
 | nil=>exact trivial
 | cons c r=>exact bV m l c r h
theorem Z1{l:List UInt8}(h:Ik l)(hne:l≠[]):1≤CN l:=by
 cases l with
 | nil=>exact absurd rfl hne
 | cons c r =>
  have h':Ey c=false:=h
  simp[CN,h']
theorem Wh{l:List UInt8}{e:Nat}(h:OE (l.drop e)):nxt l e=e+sk .mid (l.drop e):=by
 unfold nxt JC
 split
 ·rw[NX h]
 ·split
  ·rw[NX h]
  ·rfl
theorem RW(l:List UInt8):nxt l 0=sk .bol l:=by simp[nxt,JC]
theorem Yy{l:List UInt8}{p:Nat}(h:p≤l.length):nxt l p≤l.length∧p≤nxt l p:=by
 unfold nxt
 have:=cG (JC l p) (l.drop p)
 rw[List.length_drop] at this
 omega
theorem IK(l:List UInt8)(p:Nat):Ik (l.drop (nxt l p)):=by
 have:=Vg (JC l p) (l.drop p)
 rwa [List.drop_drop] at this
theorem Ty(L f:Nat)(cl:List (List Int))(op:List Int):rd L (f+1) cl op []=if op=[] then .ok cl else .err 3 L:=by simp[rd]
theorem VM{L f:Nat}{cl:List (List Int)}{op:List Int}{l:List UInt8}(hne:l≠[]):rd L (f+1) cl op l =
  if (BU (l.take (CN l))).2≠0 then .err (BU (l.take (CN l))).2 (L - l.length)
  else if (BU (l.take (CN l))).1=0 then rd L f (cl++[op]) [] ((l.drop (CN l)).drop (sk .mid (l.drop (CN l))))
  else rd L f cl (op++[(BU (l.take (CN l))).1]) ((l.drop (CN l)).drop (sk .mid (l.drop (CN l)))):=by
 rw[rd,if_neg hne]
theorem Po{l:List UInt8}{j:Nat}(hj:j<l.length)(ha:Ik (l.drop j)):∃ m j',CN (l.drop j)=m∧nxt l (j+m)=j'∧1≤m∧j+m≤l.length∧j+m≤j'∧j'≤l.length∧Ik (l.drop j') ∧
  ∀ f cl op,rd l.length (f+1) cl op (l.drop j)=if (BU ((l.drop j).take m)).2≠0 then .err (BU ((l.drop j).take m)).2 j else if (BU ((l.drop j).take m)).1=0 then rd l.length f (cl++[op]) [] (l.drop j')
   else rd l.length f cl (op++[(BU ((l.drop j).take m)).1]) (l.drop j'):=by
 have hne:l.drop j≠[]:=by intro h;have:=congrArg List.length h;rw[List.length_drop] at this;simp at this;omega
 have h1:=Z1 ha hne
 have h2:j+CN (l.drop j)≤l.length:=by have:=LS (l.drop j);rw[List.length_drop] at this;omega
 have h3:=S8 (l.drop j)
 rw[List.drop_drop] at h3
 have h4:=Wh h3
 have h5:=Yy h2
 refine⟨_,_,rfl,rfl,h1,h2,h5.2,h5.1,IK l _,fun f cl op=>?_⟩
 rw[VM hne,List.drop_drop (i:=CN (l.drop j)),List.drop_drop,← h4,List.length_drop,show l.length - (l.length - j)=j by omega]
def Cs(l:List UInt8):dK :=
 if 1000<l.length then .err 2 0 else rd l.length (l.length+1) [] [] (l.drop (sk .bol l))
end Go.Proofs.YthboeppmlhbofaaGreatDoor.Txt
namespace Go.Proofs.YthboeppmlhbofaaGreatDoor
open Go.RowKit Txt
set_option maxRecDepth 100000
theorem AB{p:Prop}(h:p):Hid p:=h
theorem AE{p:Prop}(h:Hid p):p:=h
def bs(s:ByteArray):List UInt8:=s.data.toList
theorem Aa(s:ByteArray):(bs s).length=s.size:=Array.length_toList
theorem Gz{s:ByteArray}{j:Nat}(h:j<s.size):j<(bs s).length:=by rw[Aa];exact h
theorem GC(s:ByteArray)(j:Nat)(h:j<s.size):(bs s).drop j=s[j] :: (bs s).drop (j+1):=by
 unfold bs
 rw[List.drop_eq_getElem_cons (by simpa using h)]
 rfl
theorem Cr(s:ByteArray)(j:Nat)(h:s.size≤j):(bs s).drop j=[]:=by
 rw[List.drop_eq_nil_iff,Aa];exact h
theorem Am{a b:Bool}(h:a=b):Ending.returned (.bool a)=.returned (.bool b):=by rw[h]
theorem CJ{k:IntKind}{a b:Int}(h:a=b):Ending.returned (.int k a)=.returned (.int k b):=by rw[h]
set_option maxHeartbeats 400000 in
theorem Je(c:Int)(w:World) :
  Calls Tryz.prog 132 #[.int .u8 c] w fun e w'=>e=.returned (.bool (MD c))∧w'=w:=by
 go_enter Tryz.func132,Tryz.ntmps132
 go_wp2
 all_goals go_ret
 all_goals refine⟨Am ?_,rfl⟩
 all_goals simp_all[MD]
set_option maxHeartbeats 400000 in
theorem Qx(s:ByteArray)(k:Nat)(w:World)(hs:s.size≤1000)(hk:k≤s.size) :
  Calls Tryz.prog 131 #[.string s,.int .i64 k] w fun e w'=>e=.returned (.int .i64 (k+Cg ((bs s).drop k):Nat))∧w'=w:=by
 go_enter Tryz.func131,Tryz.ntmps131
 go_wp2
 go_loop [1] (fun i=>∃ j:Nat,j≤s.size∧i=.int .i64 j∧Hid (j+Cg ((bs s).drop j)=k+Cg ((bs s).drop k))) (fun i=>s.size - (intOf i).toNat)
 case atStart=>exact⟨k,hk,rfl,rfl⟩
 case round =>
  obtain⟨j,hj,rfl,hl⟩:=hrel
  by_cases hlt:j<s.size
  ·have hd:=GC s j hlt
   cases hb:((s[j].toNat:Int) != 10)
   ·have HS:Hid (Cg ((bs s).drop j)=0):=by
     have:JG s[j]=true:=by simpa [JG] using hb
     show _=_
     rw[hd];simp[Cg,this]
    clear hd
    go_wp2
    go_ret
    refine⟨CJ ?_,rfl⟩
    have h1:=hl.out;have h2:=HS.out
    show((j:Nat):Int)=_
    omega
   ·have HS:Hid (Cg ((bs s).drop j)=Cg ((bs s).drop (j+1))+1):=by
     have:JG s[j]=false:=by simpa [JG] using hb
     show _=_
     rw[hd];simp[Cg,this]
    clear hd
    go_wp2
    go_round
    case rel=>exact⟨j+1,by omega,by go_num,by have h1:=hl.out;have h2:=HS.out;show _=_;omega⟩
    case measure=>simp[intOf];omega
  ·have HS:Hid (Cg ((bs s).drop j)=0):=by
    show _=_
    rw[Cr s j (by omega)];rfl
   go_wp2
   go_ret
   refine⟨CJ ?_,rfl⟩
   have h1:=hl.out;have h2:=HS.out
   show((j:Nat):Int)=_
   omega
set_option maxHeartbeats 400000 in
theorem MC(s:ByteArray)(k:Nat)(w:World)(hs:s.size≤4194304)(hk:k≤s.size) :
  Calls Tryz.prog 112 #[.string s,.int .i64 k] w fun e w'=>e=.returned (.int .i64 (k+CN ((bs s).drop k):Nat))∧w'=w:=by
 go_enter Tryz.func112,Tryz.ntmps112
 go_wp2
 go_loop [1] (fun i=>∃ j:Nat,j≤s.size∧i=.int .i64 j∧Hid (j+CN ((bs s).drop j)=k+CN ((bs s).drop k))) (fun i=>s.size - (intOf i).toNat)
 case atStart=>exact⟨k,hk,rfl,rfl⟩
 case round =>
  obtain⟨j,hj,rfl,hl⟩:=hrel
  by_cases hlt:j<s.size
  ·have hd:=GC s j hlt
   cases hb:MD (s[j].toNat:Int)
   ·have HS:Hid (CN ((bs s).drop j)=CN ((bs s).drop (j+1))+1):=by
     have:Ey s[j]=false:=hb
     show _=_
     rw[hd];simp[CN,this]
    clear hd
    go_wp2_with (go_at_call 132;refine(Je _ _).mono ?_;rintro e w' ⟨rfl,rfl⟩)
    go_round
    case rel=>exact⟨j+1,by omega,by go_num,by have h1:=hl.out;have h2:=HS.out;show _=_;omega⟩
    case measure=>simp[intOf];omega
   ·have HS:Hid (CN ((bs s).drop j)=0):=by
     have:Ey s[j]=true:=hb
     show _=_
     rw[hd];simp[CN,this]
    clear hd
    go_wp2_with (go_at_call 132;refine(Je _ _).mono ?_;rintro e w' ⟨rfl,rfl⟩)
    go_ret
    refine⟨CJ ?_,rfl⟩
    have h1:=hl.out;have h2:=HS.out
    show((j:Nat):Int)=_
    omega
  ·have HS:Hid (CN ((bs s).drop j)=0):=by
    show _=_
    rw[Cr s j (by omega)];rfl
   go_wp2
   go_ret
   refine⟨CJ ?_,rfl⟩
   have h1:=hl.out;have h2:=HS.out
   show((j:Nat):Int)=_
   omega
theorem DO(s:ByteArray)(j:Nat)(h:j<s.size):(bs s).getD j 0=s[j]:=by
 have h':j<(bs s).length:=by rw[Aa];exact h
 rw[List.getD_eq_getElem?_getD,List.getElem?_eq_getElem h']
 rfl
set_option maxHeartbeats 400000 in
theorem Ex(s:ByteArray)(k:Nat)(w:World)(hs:s.size≤1000)(hk:k<s.size) :
  Calls Tryz.prog 130 #[.string s,.int .i64 k] w fun e w'=>e=.returned (.bool (Mj (bs s) k))∧w'=w:=by
 have g1:=DO s k hk
 cases h1:((s[k].toNat:Int) == 99)
 ·have H:Hid (Mj (bs s) k=false):=by show _=_;rw[Mj,g1,h1];rfl
  clear g1
  go_enter Tryz.func130,Tryz.ntmps130
  go_wp2
  go_ret
  exact⟨Am H.out.symm,rfl⟩
 ·by_cases h2:k=0
  ·subst h2
   have H:Hid (Mj (bs s) 0=true):=by show _=_;rw[Mj,g1,h1];rfl
   clear g1
   go_enter Tryz.func130,Tryz.ntmps130
   go_wp2
   go_ret
   exact⟨Am H.out.symm,rfl⟩
  ·obtain⟨j,rfl⟩:∃ j,k=j+1:=⟨k - 1,by omega⟩
   have hj:j<s.size:=by omega
   have g2:=DO s j hj
   have H:Hid (Mj (bs s) (j+1)=((s[j].toNat:Int) == 10)):=by
    show _=_
    rw[Mj,g1,h1,Nat.add_sub_cancel,g2];simp[JG]
   clear g1 g2
   go_enter Tryz.func130,Tryz.ntmps130
   go_wp2
   go_ret
   exact⟨Am H.out.symm,rfl⟩
set_option maxHeartbeats 400000 in
theorem Ku(s:ByteArray)(k:Nat)(w:World)(hs:s.size≤1000)(hk:k≤s.size) :
  Calls Tryz.prog 111 #[.string s,.int .i64 k] w fun e w'=>e=.returned (.int .i64 (nxt (bs s) k:Nat))∧w'=w:=by
 go_enter Tryz.func111,Tryz.ntmps111
 go_wp2
 go_loop [1] (fun i=>∃ j:Nat,j≤s.size∧i=.int .i64 j∧Hid (nxt (bs s) j=nxt (bs s) k)) (fun i=>s.size - (intOf i).toNat)
 case atStart=>exact⟨k,hk,rfl,rfl⟩
 case round =>
  obtain⟨j,hj,rfl,hl⟩:=hrel
  by_cases hlt:j<s.size
  ·have g1:=DO s j hlt
   cases hc:Mj (bs s) j
   ·cases hb:MD (s[j].toNat:Int)
    ·have HS:Hid (nxt (bs s) j=j):=NI (Gz hlt) hc (by rw[g1];exact hb)
     clear g1
     go_wp2_with (first
      | (go_at_call 132;refine(Je _ _).mono ?_;rintro e w' ⟨rfl,rfl⟩)
      | (go_at_call 130;refine(Ex _ _ _ hs hlt).mono ?_;rintro e w' ⟨rfl,rfl⟩))
     go_ret
     refine⟨CJ ?_,rfl⟩
     have h1:=hl.out;have h2:=HS.out
     show((j:Nat):Int)=_
     omega
    ·have HS:Hid (nxt (bs s) (j+1)=nxt (bs s) j):=U9 (Gz hlt) (by rw[g1];exact hb)
     clear g1
     go_wp2_with (first
      | (go_at_call 132;refine(Je _ _).mono ?_;rintro e w' ⟨rfl,rfl⟩)
      | (go_at_call 130;refine(Ex _ _ _ hs hlt).mono ?_;rintro e w' ⟨rfl,rfl⟩))
     go_round
     case rel=>exact⟨j+1,by omega,by go_num,HS.out.trans hl.out⟩
     case measure=>simp[intOf];omega
   ·have HS:Hid (nxt (bs s) (j+Cg ((bs s).drop j))=nxt (bs s) j):=Pf (Gz hlt) hc
    have h3:0<Cg ((bs s).drop j):=Mz (Gz hlt) hc
    have h4:j+Cg ((bs s).drop j)≤s.size:=by
     have:=Pb ((bs s).drop j)
     rw[List.length_drop,Aa] at this
     omega
    clear g1
    go_wp2_with (first
     | (go_at_call 131;refine(Qx _ _ _ hs hj).mono ?_;rintro e w' ⟨rfl,rfl⟩)
     | (go_at_call 130;refine(Ex _ _ _ hs hlt).mono ?_;rintro e w' ⟨rfl,rfl⟩))
    go_round
    case rel=>exact⟨j+Cg ((bs s).drop j),h4,by go_num,HS.out.trans hl.out⟩
    case measure=>simp[intOf];omega
  ·have HS:Hid (nxt (bs s) j=j):=U8 (by rw[Aa];omega)
   go_wp2
   go_ret
   refine⟨CJ ?_,rfl⟩
   have h1:=hl.out;have h2:=HS.out
   show((j:Nat):Int)=_
   omega
theorem Mi(s:ByteArray)(h:s.size=0):bs s=[]:=List.eq_nil_of_length_eq_zero (by rw[Aa,h])
theorem ML(s:ByteArray)(h:0<s.size):bs s=s[0] :: (bs s).drop 1:=by
 have:=GC s 0 h
 simpa using this
set_option maxHeartbeats 400000 in
theorem D8(s:ByteArray)(w:World)(hs:s.size≤4194304) :
  Calls Tryz.prog 133 #[.string s] w fun e w'=>e=.returned (.bool (EV (bs s)))∧w'=w:=by
 by_cases h0:s.size=0
 ·have H:Hid (EV (bs s)=false):=by show _=_;rw[Mi s h0];rfl
  go_enter Tryz.func133,Tryz.ntmps133
  go_wp2
  go_ret
  exact⟨Am H.out.symm,rfl⟩
 have hp:0<s.size:=by omega
 have hz:((s.size:Int) == 0)=false:=by rw[beq_eq_false_iff_ne];omega
 have hcs:=ML s hp
 cases h48:((s[0].toNat:Int) == 48)
 ·have HC:Hid (EV (bs s)=(bs s).all DQ):=by
   show _=_
   rw[hcs];simp only[EV,h48];rfl
  clear hcs h0
  go_enter Tryz.func133,Tryz.ntmps133
  go_wp2
  go_loop [3] (fun i=>∃ j:Nat,j≤s.size∧i=.int .i64 j∧Hid (EV (bs s)=((bs s).drop j).all DQ)) (fun i=>s.size - (intOf i).toNat)
  case atStart=>exact⟨0,Nat.zero_le _,rfl,HC⟩
  case round =>
   obtain⟨j,hj,rfl,hl⟩:=hrel
   by_cases hlt:j<s.size
   ·have hd:=GC s j hlt
    have HE:Hid (((bs s).drop j).all DQ=(DQ s[j] && ((bs s).drop (j+1)).all DQ)):=by show _=_;rw[hd];rfl
    clear hd
    by_cases hg:48≤(s[j].toNat:Int)∧(s[j].toNat:Int)≤57
    ·have HD:Hid (DQ s[j]=true):=by show _=_;simp only[DQ,hg.1,hg.2];rfl
     obtain⟨g1,g2⟩:=hg
     go_wp2
     go_round
     case rel=>exact⟨j+1,by omega,by go_num,by show _=_;rw[hl.out,HE.out,HD.out] <;> rfl⟩
     case measure=>simp[intOf];omega
    ·have HD:Hid (DQ s[j]=false):=by
      show _=_
      simp only[DQ,Bool.and_eq_false_iff,decide_eq_false_iff_not];omega
     by_cases h1:48≤(s[j].toNat:Int)
     ·have h2:57<(s[j].toNat:Int):=by omega
      clear hg
      go_wp2
      go_ret
      exact⟨Am (by rw[hl.out,HE.out,HD.out] <;> rfl),rfl⟩
     ·have h2:(s[j].toNat:Int)<48:=by omega
      clear hg h1
      go_wp2
      go_ret
      exact⟨Am (by rw[hl.out,HE.out,HD.out] <;> rfl),rfl⟩
   ·have HE:Hid (((bs s).drop j).all DQ=true):=by show _=_;rw[Cr s j (by omega)];rfl
    go_wp2
    go_ret
    exact⟨Am (by rw[hl.out,HE.out] <;> rfl),rfl⟩
 ·have H:Hid (EV (bs s)=false):=by show _=_;rw[hcs];simp only[EV,h48];rfl
  clear hcs h0
  go_enter Tryz.func133,Tryz.ntmps133
  go_wp2
  go_ret
  exact⟨Am H.out.symm,rfl⟩
theorem FL(n:Int)(h:10<n)(l:List UInt8):Br n l=n:=by
 cases l with
 | nil=>rfl
 | cons c r=>simp only[Br];rw[if_neg (by omega)]
set_option maxHeartbeats 400000 in
theorem Jn(s:ByteArray)(w:World)(hs:s.size≤4194304)(hdg:Hid ((bs s).all DQ=true)) :
  Calls Tryz.prog 134 #[.string s] w fun e w'=>e=.returned (.int .i64 (Dr (bs s)))∧w'=w:=by
 go_enter Tryz.func134,Tryz.ntmps134
 go_wp2
 go_loop [3,4] (fun x i=>∃ (j:Nat) (n:Int),j≤s.size∧i=.int .i64 j∧x=.int .i64 n∧0≤n∧n≤109∧Hid (Dr (bs s)=Br n ((bs s).drop j))∧Hid (((bs s).drop j).all DQ=true)) (fun _ i=>s.size - (intOf i).toNat)
 case atStart=>exact⟨0,0,Nat.zero_le _,rfl,rfl,by omega,by omega,rfl,hdg⟩
 case round =>
  obtain⟨j,n,hj,rfl,rfl,hn0,hn1,hl,hdj⟩:=hrel
  by_cases hlt:j<s.size
  ·have hd:=GC s j hlt
   have hda:DQ s[j]=true∧((bs s).drop (j+1)).all DQ=true:=by
    have:=hdj.out;rw[hd] at this;simpa using this
   have h1:48≤(s[j].toNat:Int):=by have:=hda.1;simp only[DQ,Bool.and_eq_true,decide_eq_true_eq] at this;exact this.1
   have h2:(s[j].toNat:Int)≤57:=by have:=hda.1;simp only[DQ,Bool.and_eq_true,decide_eq_true_eq] at this;exact this.2
   have HD:Hid (((bs s).drop (j+1)).all DQ=true):=hda.2
   clear hda
   by_cases hle:n≤10
   ·have HS:Hid (Br n ((bs s).drop j)=Br (n*10+((s[j].toNat:Int) - 48)) ((bs s).drop (j+1))):=by
     show _=_
     rw[hd];simp only[Br];rw[if_pos hle]
    clear hd
    go_wp2
    go_round
    case rel=>exact⟨j+1,n*10+((s[j].toNat:Int) - 48),by omega,by go_num,by go_num,by omega,by omega,hl.out.trans HS.out,HD⟩
    case measure=>simp[intOf];omega
   ·have HS:=FL n (by omega) ((bs s).drop j)
    have HS':Hid (Br n ((bs s).drop j)=n):=HS
    clear HS hd
    have hgt:10<n:=by omega
    go_wp2
    go_ret
    exact⟨CJ (by rw[hl.out,HS'.out] <;> rfl),rfl⟩
  ·have HS':Hid (Br n ((bs s).drop j)=n):=by show _=_;rw[Cr s j (by omega)];rfl
   go_wp2
   go_ret
   exact⟨CJ (by rw[hl.out,HS'.out] <;> rfl),rfl⟩
theorem Ei(s:ByteArray)(a b:Nat):bs (s.extract a b)=((bs s).drop a).take (b - a):=by
 unfold bs
 rw[ByteArray.data_extract];simp
theorem Uq(s:ByteArray):bs (s.extract 1 s.size)=(bs s).drop 1:=by
 rw[Ei,List.take_of_length_le (by rw[List.length_drop,Aa];exact Nat.le_refl _)]
theorem Oq(s:ByteArray):(s.extract 1 s.size).size=s.size - 1:=by simp
theorem GN(s:ByteArray):s.toList=bs s:=Lib.toList_data s
def Gm(neg:Bool)(d:List UInt8):Int × Int:=if EV d then (if Dr d≤10 then ((if neg then -Dr d else Dr d),0) else (0,4)) else (0,3)
theorem PM{d:List UInt8}(h:EV d=true):d.all DQ=true:=by
 cases d with
 | nil=>cases h
 | cons c r=>simp only[EV,Bool.and_eq_true] at h;exact h.2
theorem Xz{d:List UInt8}(h:EV d=true):0≤Dr d∧Dr d≤109:=UY d (PM h) 0 (by omega) (by omega)
theorem CY{a b c d:Int}(h:a=c)(h':b=d):Ending.returned (.tuple #[.int .i64 a,.int .i64 b])=.returned (.tuple #[.int .i64 c,.int .i64 d]):=by rw[h,h']
set_option maxHeartbeats 1000000 in
theorem NF(s:ByteArray)(w:World)(hs:s.size≤4194304) :
  Calls Tryz.prog 113 #[.string s] w fun e w'=>e=.returned (.tuple #[.int .i64 (BU (bs s)).1,.int .i64 (BU (bs s)).2])∧w'=w:=by
 by_cases h48:bs s=[48]
 ·have hb:(s.toList == [48])=true:=by rw[GN,h48];rfl
  have H:Hid (BU (bs s)=(0,0)):=by show _=_;rw[h48];rfl
  clear h48
  go_enter Tryz.func113,Tryz.ntmps113
  go_wp2
  go_ret2
  exact⟨CY (congrArg Prod.fst H.out).symm (congrArg Prod.snd H.out).symm,rfl⟩
 have hb:(s.toList == [48])=false:=by rw[GN];exact beq_eq_false_iff_ne.2 h48
 by_cases h0:s.size=0
 ·have H:Hid (BU (bs s)=(0,3)):=by show _=_;rw[Mi s h0];rfl
  have hq:EV (bs s)=false:=by rw[Mi s h0];rfl
  clear h48
  go_enter Tryz.func113,Tryz.ntmps113
  go_wp2_with (go_at_call 133;refine(D8 _ _ hs).mono ?_;rintro e w' ⟨rfl,rfl⟩)
  go_ret2
  exact⟨CY (congrArg Prod.fst H.out).symm (congrArg Prod.snd H.out).symm,rfl⟩
 have hp:0<s.size:=by omega
 have hcs:=ML s hp
 cases h45:((s[0].toNat:Int) == 45)
 ·have HN:BU (bs s)=Gm false (bs s):=by
   unfold BU
   rw[if_neg h48,hcs]
   simp only[h45,Gm];rfl
  clear hcs h48 h0
  cases hc:EV (bs s)
  ·have H:Hid (BU (bs s)=(0,3)):=by show _=_;rw[HN];simp only[Gm,hc];rfl
   clear HN
   go_enter Tryz.func113,Tryz.ntmps113
   go_wp2_with (go_at_call 133;refine(D8 _ _ hs).mono ?_;rintro e w' ⟨rfl,rfl⟩)
   go_ret2
   exact⟨CY (congrArg Prod.fst H.out).symm (congrArg Prod.snd H.out).symm,rfl⟩
  ·have hall:Hid ((bs s).all DQ=true):=PM hc
   obtain⟨hb0,hb1⟩:=Xz hc
   by_cases hle:Dr (bs s)≤10
   ·have H:Hid (BU (bs s)=(Dr (bs s),0)):=by show _=_;rw[HN];simp only[Gm,hc,if_pos hle];rfl
    clear HN
    go_enter Tryz.func113,Tryz.ntmps113
    go_wp2_with (first
     | (go_at_call 133;refine(D8 _ _ hs).mono ?_;rintro e w' ⟨rfl,rfl⟩)
     | (go_at_call 134;refine(Jn _ _ hs hall).mono ?_;rintro e w' ⟨rfl,rfl⟩))
    go_ret2
    exact⟨CY (congrArg Prod.fst H.out).symm (congrArg Prod.snd H.out).symm,rfl⟩
   ·have H:Hid (BU (bs s)=(0,4)):=by show _=_;rw[HN];simp only[Gm,hc,if_neg hle];rfl
    have hgt:10<Dr (bs s):=by omega
    clear HN hle
    go_enter Tryz.func113,Tryz.ntmps113
    go_wp2_with (first
     | (go_at_call 133;refine(D8 _ _ hs).mono ?_;rintro e w' ⟨rfl,rfl⟩)
     | (go_at_call 134;refine(Jn _ _ hs hall).mono ?_;rintro e w' ⟨rfl,rfl⟩))
    go_ret2
    exact⟨CY (congrArg Prod.fst H.out).symm (congrArg Prod.snd H.out).symm,rfl⟩
 ·have HN:BU (bs s)=Gm true ((bs s).drop 1):=by
   unfold BU
   rw[if_neg h48]
   rw[hcs]
   simp only[h45,Gm];rfl
  have hse:(s.extract 1 s.size).size≤4194304:=by rw[Oq];omega
  have hbt:=Uq s
  clear hcs h48 h0
  generalize hd:(bs s).drop 1=d at HN hbt
  cases hc:EV d
  ·have H:Hid (BU (bs s)=(0,3)):=by show _=_;rw[HN];simp only[Gm,hc];rfl
   have hc':EV (bs (s.extract 1 s.size))=false:=by rw[hbt];exact hc
   clear HN hc hbt hd
   go_enter Tryz.func113,Tryz.ntmps113
   go_wp2_with (go_at_call 133;refine(D8 _ _ hse).mono ?_;rintro e w' ⟨rfl,rfl⟩)
   go_ret2
   exact⟨CY (congrArg Prod.fst H.out).symm (congrArg Prod.snd H.out).symm,rfl⟩
  ·have hc':EV (bs (s.extract 1 s.size))=true:=by rw[hbt];exact hc
   have hall:Hid ((bs (s.extract 1 s.size)).all DQ=true):=PM hc'
   obtain⟨hb0,hb1⟩:=Xz hc'
   have hdd:Hid (Dr (bs (s.extract 1 s.size))=Dr d):=by show _=_;rw[hbt]
   by_cases hle:Dr d≤10
   ·have H:Hid (BU (bs s)=(-Dr (bs (s.extract 1 s.size)),0)):=by show _=_;rw[HN,hdd.out];simp only[Gm,hc,if_pos hle];rfl
    have hle':Dr (bs (s.extract 1 s.size))≤10:=by rw[hdd.out];exact hle
    clear HN hc hbt hd hdd hle
    go_enter Tryz.func113,Tryz.ntmps113
    go_wp2_with (first
     | (go_at_call 133;refine(D8 _ _ hse).mono ?_;rintro e w' ⟨rfl,rfl⟩)
     | (go_at_call 134;refine(Jn _ _ hse hall).mono ?_;rintro e w' ⟨rfl,rfl⟩))
    go_ret2
    exact⟨CY (congrArg Prod.fst H.out).symm (congrArg Prod.snd H.out).symm,rfl⟩
   ·have H:Hid (BU (bs s)=(0,4)):=by show _=_;rw[HN];simp only[Gm,hc,if_neg hle];rfl
    have hgt:10<Dr (bs (s.extract 1 s.size)):=by rw[hdd.out];omega
    clear HN hc hbt hd hdd hle
    go_enter Tryz.func113,Tryz.ntmps113
    go_wp2_with (first
     | (go_at_call 133;refine(D8 _ _ hse).mono ?_;rintro e w' ⟨rfl,rfl⟩)
     | (go_at_call 134;refine(Jn _ _ hse hall).mono ?_;rintro e w' ⟨rfl,rfl⟩))
    go_ret2
    exact⟨CY (congrArg Prod.fst H.out).symm (congrArg Prod.snd H.out).symm,rfl⟩
def AT(n:Int):Bool:=n != 0 && decide (-10≤n) && decide (n≤10)
set_option maxHeartbeats 400000 in
theorem Td(n:Int)(w:World):Calls Tryz.prog 93 #[.int .i64 n] w fun e w'=>e=.returned (.bool (AT n))∧w'=w:=by
 go_enter Tryz.func93,Tryz.ntmps93
 go_wp2
 all_goals go_ret
 all_goals refine⟨Am ?_,rfl⟩
 all_goals first
  | (simp_all[AT];done)
  | (simp_all[AT];omega)
open Go.RowKit Txt
def AS(w:World)(a:Option Addr)(xs:List Int):Prop :=
 xs=[]∨∃ b off,a=some ⟨b,off,none⟩∧∀ j,j<xs.length→w.cell? ⟨b,off+j,none⟩=some (.int .i64 (xs.getD j 0))
def CC(w:World)(a:Option Addr)(A:Nat→Option Addr)(C:Nat→Nat)(xss:List (List Int)):Prop :=
 xss=[]∨∃ b off,a=some ⟨b,off,none⟩∧∀ r,r<xss.length→w.cell? ⟨b,off+r,none⟩=some (.slice (A r) (xss.getD r []).length (C r))∧AS w (A r) (xss.getD r [])∧(xss.getD r []).length≤9223372036854775807
theorem AS.get{w:World}{a:Option Addr}{xs:List Int}(h:AS w a xs)(hp:0<xs.length) :
  ∃ b off,a=some ⟨b,off,none⟩∧∀ j,j<xs.length→w.cell? ⟨b,off+j,none⟩=some (.int .i64 (xs.getD j 0)):=by
 rcases h with rfl | h
 ·simp at hp
 ·exact h
theorem CC.get{w:World}{a:Option Addr}{A:Nat→Option Addr}{C:Nat→Nat}{xss:List (List Int)}(h:CC w a A C xss)(hp:0<xss.length) :
  ∃ b off,a=some ⟨b,off,none⟩∧∀ r,r<xss.length→w.cell? ⟨b,off+r,none⟩=some (.slice (A r) (xss.getD r []).length (C r))∧AS w (A r) (xss.getD r [])∧(xss.getD r []).length≤9223372036854775807:=by
 rcases h with rfl | h
 ·simp at hp
 ·exact h
theorem AS.kept{w w':World}{a:Option Addr}{xs:List Int}(h:AS w a xs)(hk:∀ b off v,w.cell? ⟨b,off,none⟩=some v→w'.cell? ⟨b,off,none⟩=some v):AS w' a xs:=by
 rcases h with h | ⟨b,off,ha,h⟩
 ·exact .inl h
 ·exact .inr ⟨b,off,ha,fun j hj=>hk _ _ _ (h j hj)⟩
theorem CC.kept{w w':World}{a:Option Addr}{A:Nat→Option Addr}{C:Nat→Nat}{xss:List (List Int)}(h:CC w a A C xss)(hk:∀ b off v,w.cell? ⟨b,off,none⟩=some v→w'.cell? ⟨b,off,none⟩=some v):CC w' a A C xss:=by
 rcases h with h | ⟨b,off,ha,h⟩
 ·exact .inl h
 ·exact .inr ⟨b,off,ha,fun r hr=>⟨hk _ _ _ (h r hr).1,(h r hr).2.1.kept hk,(h r hr).2.2⟩⟩
theorem Cc{α:Type}(l:List α)(d:α)(j:Nat)(h:j<l.length):l.drop j=l.getD j d :: l.drop (j+1):=by
 rw[List.drop_eq_getElem_cons h,List.getD_eq_getElem?_getD,List.getElem?_eq_getElem h];rfl
def Hq{α:Type} [DecidableEq α](a b:α):Bool:=decide (a=b)
theorem Qd{α:Type} [DecidableEq α](xs ys:List α)(d:α)(j:Nat)(h1:j<xs.length)(h2:j<ys.length) :
  Hq (xs.drop j) (ys.drop j)=(Hq (xs.getD j d) (ys.getD j d) && Hq (xs.drop (j+1)) (ys.drop (j+1))):=by
 rw[Cc xs d j h1,Cc ys d j h2]
 simp only[Hq,List.cons.injEq,Bool.decide_and]
theorem Uy{α:Type} [DecidableEq α](xs ys:List α)(h:xs.length≠ys.length):Hq xs ys=false:=by
 simp only[Hq,decide_eq_false_iff_not]
 intro e;exact h (by rw[e])
theorem Ux{α:Type} [DecidableEq α](xs ys:List α)(j:Nat)(h1:xs.length≤j)(h2:ys.length≤j):Hq (xs.drop j) (ys.drop j)=true:=by
 rw[List.drop_eq_nil_of_le h1,List.drop_eq_nil_of_le h2];simp[Hq]
def Fz(xss:List (List Int)):Bool:=xss.all (·.all AT)
set_option maxHeartbeats 1000000 in
theorem Ie(a:Option Addr)(n c:Nat)(A:Nat→Option Addr)(C:Nat→Nat)(xss:List (List Int))(w:World)(hn:n=xss.length)(hbd:n≤9223372036854775807)(hr:CC w a A C xss) :
  Calls Tryz.prog 114 #[.slice a n c] w fun e w'=>e=.returned (.bool (Fz xss))∧w'=w:=by
 subst hn
 go_enter Tryz.func114,Tryz.ntmps114
 go_wp2
 go_loop [9] (fun i=>∃ k:Nat,k≤xss.length∧i=.int .i64 k∧Hid (Fz xss=Fz (xss.drop k))) (fun i=>xss.length - (intOf i).toNat)
 case atStart=>exact⟨0,Nat.zero_le _,rfl,rfl⟩
 case round =>
  obtain⟨k,hk,rfl,hl⟩:=hrel
  by_cases hlt:k<xss.length
  ·obtain⟨b,off,rfl,hc⟩:=hr.get (by omega)
   obtain⟨h1,h2,hbi⟩:=hc k (by omega)
   have HD:Hid (Fz (xss.drop k)=((xss.getD k []).all AT && Fz (xss.drop (k+1)))):=by
    show _=_
    rw[Cc xss [] k (by omega)];rfl
   clear hc hr
   generalize xss.getD k []=xs at h1 h2 HD hbi
   generalize A k=ak at h1 h2
   go_wp2
   go_loop [15] (fun i=>∃ j:Nat,j≤xs.length∧i=.int .i64 j∧Hid (xs.all AT=(xs.drop j).all AT)) (fun i=>xs.length - (intOf i).toNat)
   case atStart=>exact⟨0,Nat.zero_le _,rfl,rfl⟩
   case round =>
    obtain⟨j,hj,rfl,hl2⟩:=hrel
    by_cases hlt2:j<xs.length
    ·obtain⟨b2,off2,rfl,hc2⟩:=h2.get (by omega)
     have h3:=hc2 j hlt2
     have HE:Hid ((xs.drop j).all AT=(AT (xs.getD j 0) && (xs.drop (j+1)).all AT)):=by
      show _=_
      rw[Cc xs 0 j hlt2];rfl
     clear h2 hc2
     generalize xs.getD j 0=x at h3 HE
     cases hb:AT x
     ·go_wp2_with (go_at_call 93;refine(Td _ _).mono ?_;rintro e w' ⟨rfl,rfl⟩)
      go_ret
      exact⟨Am (by rw[hl.out,HD.out,hl2.out,HE.out,hb] <;> rfl),rfl⟩
     ·go_wp2_with (go_at_call 93;refine(Td _ _).mono ?_;rintro e w' ⟨rfl,rfl⟩)
      go_round
      case rel=>exact⟨j+1,by omega,by go_num,by show _=_;rw[hl2.out,HE.out,hb] <;> rfl⟩
      case measure=>simp[intOf];omega
    ·have HE:Hid ((xs.drop j).all AT=true):=by show _=_;rw[List.drop_eq_nil_of_le (by omega)];rfl
     go_wp2
     go_round
     case rel=>exact⟨k+1,by omega,by go_num,by show _=_;rw[hl.out,HD.out,hl2.out,HE.out] <;> rfl⟩
     case measure=>simp[intOf];omega
  ·have HE:Hid (Fz (xss.drop k)=true):=by show _=_;rw[List.drop_eq_nil_of_le (by omega)];rfl
   go_wp2
   go_ret
   exact⟨Am (by rw[hl.out,HE.out] <;> rfl),rfl⟩
end Go.Proofs.YthboeppmlhbofaaGreatDoor
