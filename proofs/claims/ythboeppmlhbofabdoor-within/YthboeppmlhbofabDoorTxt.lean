import Derived.Laws.Wrap64
import Derived.Test.YthboeppmlhbofabDoorProg
import Derived.WalkKit
import Derived.WalkSpells
import Derived.WalkLawsBesides
import Derived.Lib.Bytes
import Derived.Deep.QuietTactic
import Derived.BigQuiet
namespace Go.Proofs.YthboeppmlhbofabDoor.Txt
def gapI(c:Int):Bool:=c == 32 || c == 10
def nlB(c:UInt8):Bool:=(c.toNat:Int) == 10
def gapB(c:UInt8):Bool:=gapI c.toNat
def llen:List UInt8→Nat
 | []=>0
 | c :: r=>if nlB c then 0 else llen r+1
def wlen:List UInt8→Nat
 | []=>0
 | c :: r=>if gapB c then 0 else wlen r+1
inductive Md | bol | mid | com
def sk:Md→List UInt8→Nat
 | _,[]=>0
 | .com,c :: r=>if nlB c then sk .bol r+1 else sk .com r+1
 | .bol,c :: r=>if (c.toNat:Int) == 99 then sk .com r+1 else if gapB c then (if nlB c then sk .bol r else sk .mid r)+1 else 0
 | .mid,c :: r=>if gapB c then (if nlB c then sk .bol r else sk .mid r)+1 else 0
theorem gapB_of_nl{c:UInt8}(h:nlB c=true):gapB c=true:=by
 simp only[nlB,gapB,gapI] at *
 simp[h]
theorem ne99_of_nl{c:UInt8}(h:nlB c=true):((c.toNat:Int) == 99)=false:=by
 simp only[nlB,beq_iff_eq] at h
 simp[h]
theorem ne99_of_gap{c:UInt8}(h:gapB c=true):((c.toNat:Int) == 99)=false:=by
 simp only[gapB,gapI,Bool.or_eq_true,beq_iff_eq] at h
 rcases h with h | h <;> simp[h]
theorem sk_com(l:List UInt8):sk .com l=llen l+sk .bol (l.drop (llen l)):=by
 induction l with
 | nil=>rfl
 | cons c r ih =>
  by_cases h:nlB c=true
  ·simp[sk,llen,h,gapB_of_nl h,ne99_of_nl h]
  ·simp only[Bool.not_eq_true] at h
   simp[sk,llen,h,ih]
   omega
def AtGap:List UInt8→Prop
 | []=>True
 | c :: _=>gapB c=true
theorem atGap_wlen(l:List UInt8):AtGap (l.drop (wlen l)):=by
 induction l with
 | nil=>exact trivial
 | cons c r ih =>
  by_cases h:gapB c=true
  ·simp[wlen,h,AtGap]
  ·simp only[Bool.not_eq_true] at h
   simpa [wlen,h] using ih
theorem sk_atGap{l:List UInt8}(h:AtGap l):sk .bol l=sk .mid l:=by
 cases l with
 | nil=>rfl
 | cons c r =>
  have h':gapB c=true:=h
  simp[sk,h',ne99_of_gap h']
theorem llen_le(l:List UInt8):llen l≤l.length:=by
 induction l with
 | nil=>simp[llen]
 | cons c r ih=>simp only[llen];split <;> simp <;> omega
theorem wlen_le(l:List UInt8):wlen l≤l.length:=by
 induction l with
 | nil=>simp[wlen]
 | cons c r ih=>simp only[wlen];split <;> simp <;> omega
theorem sk_le(m:Md)(l:List UInt8):sk m l≤l.length:=by
 induction l generalizing m with
 | nil=>cases m <;> simp[sk]
 | cons c r ih =>
  have h1:=ih .bol;have h2:=ih .mid;have h3:=ih .com
  cases m <;> simp only[sk,List.length_cons] <;> repeat' split
  all_goals omega
def mdAt(l:List UInt8)(p:Nat):Md:=if p=0 then .bol else if nlB (l.getD (p - 1) 0) then .bol else .mid
def cmB(l:List UInt8)(p:Nat):Bool:=((l.getD p 0).toNat:Int) == 99 && (decide (p=0) || nlB (l.getD (p - 1) 0))
def nxt(l:List UInt8)(p:Nat):Nat:=p+sk (mdAt l p) (l.drop p)
theorem drop_getD{l:List UInt8}{j:Nat}(h:j<l.length):l.drop j=l.getD j 0 :: l.drop (j+1):=by
 rw[List.drop_eq_getElem_cons h,List.getD_eq_getElem?_getD,List.getElem?_eq_getElem h]
 rfl
theorem nxt_end{l:List UInt8}{j:Nat}(h:l.length≤j):nxt l j=j:=by
 unfold nxt
 rw[List.drop_eq_nil_of_le h]
 cases mdAt l j <;> simp[sk]
theorem nxt_word{l:List UInt8}{j:Nat}(h:j<l.length)(hc:cmB l j=false)(hg:gapB (l.getD j 0)=false):nxt l j=j:=by
 unfold nxt
 rw[drop_getD h]
 unfold mdAt
 unfold cmB at hc
 by_cases h0:j=0
 ·subst h0
  simp only[decide_true,Bool.true_or,Bool.and_true] at hc
  simp only[if_true,sk,hc,hg]
  rfl
 ·rw[if_neg h0]
  cases hn:nlB (l.getD (j - 1) 0)
  ·simp only[Bool.false_eq_true,if_false,sk,hg];rfl
  ·simp only[hn,Bool.or_true,Bool.and_true] at hc
   simp only[if_true,sk,hc,hg];rfl
theorem nl_of_99{c:UInt8}(h:((c.toNat:Int) == 99)=true):nlB c=false:=by
 simp only[beq_iff_eq] at h
 simp[nlB,h]
theorem nxt_gap{l:List UInt8}{j:Nat}(h:j<l.length)(hg:gapB (l.getD j 0)=true):nxt l (j+1)=nxt l j:=by
 have h9:=ne99_of_gap hg
 have e:sk (mdAt l j) (l.drop j)=sk (mdAt l (j+1)) (l.drop (j+1))+1:=by
  rw[drop_getD h]
  have:mdAt l (j+1)=if nlB (l.getD j 0) then .bol else .mid:=by simp[mdAt]
  rw[this]
  unfold mdAt
  split
  ·simp only[sk,h9,hg];cases nlB (l.getD j 0) <;> simp
  ·split <;> (simp only[sk,h9,hg];cases nlB (l.getD j 0) <;> simp)
 unfold nxt
 omega
theorem llen_com{l:List UInt8}{j:Nat}(h:j<l.length)(hc:cmB l j=true):0<llen (l.drop j):=by
 rw[drop_getD h]
 simp only[cmB,Bool.and_eq_true] at hc
 have:nlB (l.getD j 0)=false:=nl_of_99 hc.1
 simp only[llen,this]
 simp
theorem atGap_llen(l:List UInt8):AtGap (l.drop (llen l)):=by
 induction l with
 | nil=>exact trivial
 | cons c r ih =>
  by_cases h:nlB c=true
  ·simp[llen,h,AtGap,gapB_of_nl h]
  ·simp only[Bool.not_eq_true] at h
   simpa [llen,h] using ih
theorem nxt_com{l:List UInt8}{j:Nat}(h:j<l.length)(hc:cmB l j=true):nxt l (j+llen (l.drop j))=nxt l j:=by
 have hb:mdAt l j=.bol:=by
  simp only[cmB,Bool.and_eq_true,Bool.or_eq_true,decide_eq_true_eq] at hc
  unfold mdAt
  rcases hc.2 with h0 | h0
  ·rw[if_pos h0]
  ·rw[if_pos h0]
   split <;> rfl
 have h99:(((l.getD j 0).toNat:Int) == 99)=true:=by
  simp only[cmB,Bool.and_eq_true] at hc;exact hc.1
 have hn:nlB (l.getD j 0)=false:=nl_of_99 h99
 have e1:llen (l.drop j)=llen (l.drop (j+1))+1:=by rw[drop_getD h];simp only[llen,hn];rfl
 have e2:sk (mdAt l j) (l.drop j)=sk .com (l.drop (j+1))+1:=by rw[hb,drop_getD h];simp only[sk,h99];rfl
 have e3:=sk_com (l.drop (j+1))
 have e4:(l.drop (j+1)).drop (llen (l.drop (j+1)))=l.drop (j+llen (l.drop j)):=by rw[List.drop_drop,e1];congr 1;omega
 have e5:=atGap_llen (l.drop (j+1))
 rw[e4] at e3 e5
 have e6:sk (mdAt l (j+llen (l.drop j))) (l.drop (j+llen (l.drop j)))=sk .bol (l.drop (j+llen (l.drop j))):=by
  unfold mdAt
  split
  ·rfl
  ·split
   ·rfl
   ·exact(sk_atGap e5).symm
 unfold nxt
 omega
def digB(c:UInt8):Bool:=decide (48≤(c.toNat:Int)) && decide ((c.toNat:Int)≤57)
def cntB:List UInt8→Bool
 | []=>false
 | c :: r=>!((c.toNat:Int) == 48) && (c :: r).all digB
def valFrom(n:Int):List UInt8→Int
 | []=>n
 | c :: r=>if n≤10 then valFrom (n*10+((c.toNat:Int) - 48)) r else n
def decOf(l:List UInt8):Int:=valFrom 0 l
def numOf(l:List UInt8):Int × Int :=
 if l=[48] then (0,0) else
  match l with
  | []=>(0,3)
  | c :: r =>
   if (c.toNat:Int) == 45 then (if cntB r then (if decOf r≤10 then (-decOf r,0) else (0,4)) else (0,3))
   else (if cntB (c :: r) then (if decOf (c :: r)≤10 then (decOf (c :: r),0) else (0,4)) else (0,3))
theorem valFrom_bd(l:List UInt8)(hd:l.all digB=true)(n:Int)(h0:0≤n)(h1:n≤109):0≤valFrom n l∧valFrom n l≤109:=by
 induction l generalizing n with
 | nil=>exact⟨h0,h1⟩
 | cons c r ih =>
  simp only[List.all_cons,Bool.and_eq_true,digB,decide_eq_true_eq] at hd
  simp only[valFrom]
  split
  ·exact ih hd.2 _ (by omega) (by omega)
  ·exact⟨h0,h1⟩
inductive Res
 | err (e:Int) (p:Nat)
 | ok (cl:List (List Int))
def rd(L:Nat):Nat→List (List Int)→List Int→List UInt8→Res
 | 0,_,_,_=>.ok []
 | f+1,cl,op,l =>
  if l=[] then (if op=[] then .ok cl else .err 3 L)
  else
   let x:=numOf (l.take (wlen l))
   let r:=l.drop (wlen l)
   if x.2≠0 then .err x.2 (L - l.length)
   else if x.1=0 then rd L f (cl++[op]) [] (r.drop (sk .mid r))
   else rd L f cl (op++[x.1]) (r.drop (sk .mid r))
theorem sk_stop(m:Md)(l:List UInt8):∀ c r,l.drop (sk m l)=c :: r→gapB c=false:=by
 induction l generalizing m with
 | nil=>intro c r h;cases m <;> simp[sk] at h
 | cons d l ih =>
  have key:∀ n (m':Md) (c:UInt8) (r:List UInt8),n=sk m' l+1→(d :: l).drop n=c :: r→gapB c=false:=by
   intro n m' c r hn h
   subst hn
   rw[List.drop_succ_cons] at h
   exact ih m' c r h
  have stop:∀ (c:UInt8) (r:List UInt8),gapB d=false→(d :: l).drop 0=c :: r→gapB c=false:=by
   intro c r hd h
   simp only[List.drop_zero,List.cons.injEq] at h
   rw[← h.1];exact hd
  intro c r h
  cases m with
  | com =>
   simp only[sk] at h
   split at h
   ·exact key _ _ c r rfl h
   ·exact key _ _ c r rfl h
  | bol =>
   simp only[sk] at h
   split at h
   ·exact key _ _ c r rfl h
   ·split at h
    ·split at h
     ·exact key _ _ c r rfl h
     ·exact key _ _ c r rfl h
    ·exact stop c r (by simpa using ‹¬gapB d=true›) h
  | mid =>
   simp only[sk] at h
   split at h
   ·split at h
    ·exact key _ _ c r rfl h
    ·exact key _ _ c r rfl h
   ·exact stop c r (by simpa using ‹¬gapB d=true›) h
def AtWord:List UInt8→Prop
 | []=>True
 | c :: _=>gapB c=false
theorem atWord_sk(m:Md)(l:List UInt8):AtWord (l.drop (sk m l)):=by
 cases h:l.drop (sk m l) with
 | nil=>exact trivial
 | cons c r=>exact sk_stop m l c r h
theorem wlen_pos{l:List UInt8}(h:AtWord l)(hne:l≠[]):1≤wlen l:=by
 cases l with
 | nil=>exact absurd rfl hne
 | cons c r =>
  have h':gapB c=false:=h
  simp[wlen,h']
theorem nxt_atGap{l:List UInt8}{e:Nat}(h:AtGap (l.drop e)):nxt l e=e+sk .mid (l.drop e):=by
 unfold nxt mdAt
 split
 ·rw[sk_atGap h]
 ·split
  ·rw[sk_atGap h]
  ·rfl
theorem nxt_zero(l:List UInt8):nxt l 0=sk .bol l:=by simp[nxt,mdAt]
theorem nxt_le{l:List UInt8}{p:Nat}(h:p≤l.length):nxt l p≤l.length∧p≤nxt l p:=by
 unfold nxt
 have:=sk_le (mdAt l p) (l.drop p)
 rw[List.length_drop] at this
 omega
theorem atWord_nxt(l:List UInt8)(p:Nat):AtWord (l.drop (nxt l p)):=by
 have:=atWord_sk (mdAt l p) (l.drop p)
 rwa [List.drop_drop] at this
theorem rd_nil(L f:Nat)(cl:List (List Int))(op:List Int):rd L (f+1) cl op []=if op=[] then .ok cl else .err 3 L:=by simp[rd]
theorem rd_word{L f:Nat}{cl:List (List Int)}{op:List Int}{l:List UInt8}(hne:l≠[]):rd L (f+1) cl op l =
  if (numOf (l.take (wlen l))).2≠0 then .err (numOf (l.take (wlen l))).2 (L - l.length)
  else if (numOf (l.take (wlen l))).1=0 then rd L f (cl++[op]) [] ((l.drop (wlen l)).drop (sk .mid (l.drop (wlen l))))
  else rd L f cl (op++[(numOf (l.take (wlen l))).1]) ((l.drop (wlen l)).drop (sk .mid (l.drop (wlen l)))):=by
 rw[rd,if_neg hne]
theorem rd_step{l:List UInt8}{j:Nat}(hj:j<l.length)(ha:AtWord (l.drop j)):∃ m j',wlen (l.drop j)=m∧nxt l (j+m)=j'∧1≤m∧j+m≤l.length∧j+m≤j'∧j'≤l.length∧AtWord (l.drop j') ∧
  ∀ f cl op,rd l.length (f+1) cl op (l.drop j)=if (numOf ((l.drop j).take m)).2≠0 then .err (numOf ((l.drop j).take m)).2 j else if (numOf ((l.drop j).take m)).1=0 then rd l.length f (cl++[op]) [] (l.drop j')
   else rd l.length f cl (op++[(numOf ((l.drop j).take m)).1]) (l.drop j'):=by
 have hne:l.drop j≠[]:=by intro h;have:=congrArg List.length h;rw[List.length_drop] at this;simp at this;omega
 have h1:=wlen_pos ha hne
 have h2:j+wlen (l.drop j)≤l.length:=by have:=wlen_le (l.drop j);rw[List.length_drop] at this;omega
 have h3:=atGap_wlen (l.drop j)
 rw[List.drop_drop] at h3
 have h4:=nxt_atGap h3
 have h5:=nxt_le h2
 refine⟨_,_,rfl,rfl,h1,h2,h5.2,h5.1,atWord_nxt l _,fun f cl op=>?_⟩
 rw[rd_word hne,List.drop_drop (i:=wlen (l.drop j)),List.drop_drop,← h4,List.length_drop,show l.length - (l.length - j)=j by omega]
def rdAll(l:List UInt8):Res :=
 if 1000<l.length then .err 2 0 else rd l.length (l.length+1) [] [] (l.drop (sk .bol l))
end Go.Proofs.YthboeppmlhbofabDoor.Txt
namespace Go.Proofs.YthboeppmlhbofabDoor
open Go.RowKit Txt
set_option maxRecDepth 100000
theorem hide{p:Prop}(h:p):Hid p:=h
theorem unhide{p:Prop}(h:Hid p):p:=h
def bs(s:ByteArray):List UInt8:=s.data.toList
theorem bs_length(s:ByteArray):(bs s).length=s.size:=Array.length_toList
theorem bs_lt{s:ByteArray}{j:Nat}(h:j<s.size):j<(bs s).length:=by rw[bs_length];exact h
theorem bs_drop(s:ByteArray)(j:Nat)(h:j<s.size):(bs s).drop j=s[j] :: (bs s).drop (j+1):=by
 unfold bs
 rw[List.drop_eq_getElem_cons (by simpa using h)]
 rfl
theorem bs_drop_end(s:ByteArray)(j:Nat)(h:s.size≤j):(bs s).drop j=[]:=by
 rw[List.drop_eq_nil_iff,bs_length];exact h
theorem ret_bool{a b:Bool}(h:a=b):Ending.returned (.bool a)=.returned (.bool b):=by rw[h]
theorem ret_int{k:IntKind}{a b:Int}(h:a=b):Ending.returned (.int k a)=.returned (.int k b):=by rw[h]
set_option maxHeartbeats 400000 in
theorem isGap_any(c:Int)(w:World) :
  Calls Tryd.prog 88 #[.int .u8 c] w fun e w'=>e=.returned (.bool (gapI c))∧w'=w:=by
 go_enter Tryd.func88,Tryd.ntmps88
 go_wp2
 all_goals go_ret
 all_goals refine⟨ret_bool ?_,rfl⟩
 all_goals simp_all[gapI]
set_option maxHeartbeats 400000 in
theorem wordEnd_any(s:ByteArray)(k:Nat)(w:World)(hs:s.size≤4194304)(hk:k≤s.size) :
  Calls Tryd.prog 75 #[.string s,.int .i64 k] w fun e w'=>e=.returned (.int .i64 (k+wlen ((bs s).drop k):Nat))∧w'=w:=by
 go_enter Tryd.func75,Tryd.ntmps75
 go_wp2
 go_loop [1] (fun i=>∃ j:Nat,j≤s.size∧i=.int .i64 j∧Hid (j+wlen ((bs s).drop j)=k+wlen ((bs s).drop k))) (fun i=>s.size - (intOf i).toNat)
 case atStart=>exact⟨k,hk,rfl,rfl⟩
 case round =>
  obtain⟨j,hj,rfl,hl⟩:=hrel
  by_cases hlt:j<s.size
  ·have hd:=bs_drop s j hlt
   cases hb:gapI (s[j].toNat:Int)
   ·have HS:Hid (wlen ((bs s).drop j)=wlen ((bs s).drop (j+1))+1):=by
     have:gapB s[j]=false:=hb
     show _=_
     rw[hd];simp[wlen,this]
    clear hd
    go_wp2_with (go_at_call 88;refine(isGap_any _ _).mono ?_;rintro e w' ⟨rfl,rfl⟩)
    go_round
    case rel=>exact⟨j+1,by omega,by go_num,by have h1:=hl.out;have h2:=HS.out;show _=_;omega⟩
    case measure=>simp[intOf];omega
   ·have HS:Hid (wlen ((bs s).drop j)=0):=by
     have:gapB s[j]=true:=hb
     show _=_
     rw[hd];simp[wlen,this]
    clear hd
    go_wp2_with (go_at_call 88;refine(isGap_any _ _).mono ?_;rintro e w' ⟨rfl,rfl⟩)
    go_ret
    refine⟨ret_int ?_,rfl⟩
    have h1:=hl.out;have h2:=HS.out
    show((j:Nat):Int)=_
    omega
  ·have HS:Hid (wlen ((bs s).drop j)=0):=by
    show _=_
    rw[bs_drop_end s j (by omega)];rfl
   go_wp2
   go_ret
   refine⟨ret_int ?_,rfl⟩
   have h1:=hl.out;have h2:=HS.out
   show((j:Nat):Int)=_
   omega
theorem bs_getD(s:ByteArray)(j:Nat)(h:j<s.size):(bs s).getD j 0=s[j]:=by
 have h':j<(bs s).length:=by rw[bs_length];exact h
 rw[List.getD_eq_getElem?_getD,List.getElem?_eq_getElem h']
 rfl
theorem bs_nil(s:ByteArray)(h:s.size=0):bs s=[]:=List.eq_nil_of_length_eq_zero (by rw[bs_length,h])
theorem bs_cons(s:ByteArray)(h:0<s.size):bs s=s[0] :: (bs s).drop 1:=by
 have:=bs_drop s 0 h
 simpa using this
set_option maxHeartbeats 400000 in
theorem isCount_any(s:ByteArray)(w:World)(hs:s.size≤4194304) :
  Calls Tryd.prog 89 #[.string s] w fun e w'=>e=.returned (.bool (cntB (bs s)))∧w'=w:=by
 by_cases h0:s.size=0
 ·have H:Hid (cntB (bs s)=false):=by show _=_;rw[bs_nil s h0];rfl
  go_enter Tryd.func89,Tryd.ntmps89
  go_wp2
  go_ret
  exact⟨ret_bool H.out.symm,rfl⟩
 have hp:0<s.size:=by omega
 have hz:((s.size:Int) == 0)=false:=by rw[beq_eq_false_iff_ne];omega
 have hcs:=bs_cons s hp
 cases h48:((s[0].toNat:Int) == 48)
 ·have HC:Hid (cntB (bs s)=(bs s).all digB):=by
   show _=_
   rw[hcs];simp only[cntB,h48];rfl
  clear hcs h0
  go_enter Tryd.func89,Tryd.ntmps89
  go_wp2
  go_loop [3] (fun i=>∃ j:Nat,j≤s.size∧i=.int .i64 j∧Hid (cntB (bs s)=((bs s).drop j).all digB)) (fun i=>s.size - (intOf i).toNat)
  case atStart=>exact⟨0,Nat.zero_le _,rfl,HC⟩
  case round =>
   obtain⟨j,hj,rfl,hl⟩:=hrel
   by_cases hlt:j<s.size
   ·have hd:=bs_drop s j hlt
    have HE:Hid (((bs s).drop j).all digB=(digB s[j] && ((bs s).drop (j+1)).all digB)):=by show _=_;rw[hd];rfl
    clear hd
    by_cases hg:48≤(s[j].toNat:Int)∧(s[j].toNat:Int)≤57
    ·have HD:Hid (digB s[j]=true):=by show _=_;simp only[digB,hg.1,hg.2];rfl
     obtain⟨g1,g2⟩:=hg
     go_wp2
     go_round
     case rel=>exact⟨j+1,by omega,by go_num,by show _=_;rw[hl.out,HE.out,HD.out] <;> rfl⟩
     case measure=>simp[intOf];omega
    ·have HD:Hid (digB s[j]=false):=by
      show _=_
      simp only[digB,Bool.and_eq_false_iff,decide_eq_false_iff_not];omega
     by_cases h1:48≤(s[j].toNat:Int)
     ·have h2:57<(s[j].toNat:Int):=by omega
      clear hg
      go_wp2
      go_ret
      exact⟨ret_bool (by rw[hl.out,HE.out,HD.out] <;> rfl),rfl⟩
     ·have h2:(s[j].toNat:Int)<48:=by omega
      clear hg h1
      go_wp2
      go_ret
      exact⟨ret_bool (by rw[hl.out,HE.out,HD.out] <;> rfl),rfl⟩
   ·have HE:Hid (((bs s).drop j).all digB=true):=by show _=_;rw[bs_drop_end s j (by omega)];rfl
    go_wp2
    go_ret
    exact⟨ret_bool (by rw[hl.out,HE.out] <;> rfl),rfl⟩
 ·have H:Hid (cntB (bs s)=false):=by show _=_;rw[hcs];simp only[cntB,h48];rfl
  clear hcs h0
  go_enter Tryd.func89,Tryd.ntmps89
  go_wp2
  go_ret
  exact⟨ret_bool H.out.symm,rfl⟩
theorem valFrom_stop(n:Int)(h:10<n)(l:List UInt8):valFrom n l=n:=by
 cases l with
 | nil=>rfl
 | cons c r=>simp only[valFrom];rw[if_neg (by omega)]
set_option maxHeartbeats 400000 in
theorem value_any(s:ByteArray)(w:World)(hs:s.size≤4194304)(hdg:Hid ((bs s).all digB=true)) :
  Calls Tryd.prog 90 #[.string s] w fun e w'=>e=.returned (.int .i64 (decOf (bs s)))∧w'=w:=by
 go_enter Tryd.func90,Tryd.ntmps90
 go_wp2
 go_loop [3,4] (fun x i=>∃ (j:Nat) (n:Int),j≤s.size∧i=.int .i64 j∧x=.int .i64 n∧0≤n∧n≤109∧Hid (decOf (bs s)=valFrom n ((bs s).drop j))∧Hid (((bs s).drop j).all digB=true)) (fun _ i=>s.size - (intOf i).toNat)
 case atStart=>exact⟨0,0,Nat.zero_le _,rfl,rfl,by omega,by omega,rfl,hdg⟩
 case round =>
  obtain⟨j,n,hj,rfl,rfl,hn0,hn1,hl,hdj⟩:=hrel
  by_cases hlt:j<s.size
  ·have hd:=bs_drop s j hlt
   have hda:digB s[j]=true∧((bs s).drop (j+1)).all digB=true:=by
    have:=hdj.out;rw[hd] at this;simpa using this
   have h1:48≤(s[j].toNat:Int):=by have:=hda.1;simp only[digB,Bool.and_eq_true,decide_eq_true_eq] at this;exact this.1
   have h2:(s[j].toNat:Int)≤57:=by have:=hda.1;simp only[digB,Bool.and_eq_true,decide_eq_true_eq] at this;exact this.2
   have HD:Hid (((bs s).drop (j+1)).all digB=true):=hda.2
   clear hda
   by_cases hle:n≤10
   ·have HS:Hid (valFrom n ((bs s).drop j)=valFrom (n*10+((s[j].toNat:Int) - 48)) ((bs s).drop (j+1))):=by
     show _=_
     rw[hd];simp only[valFrom];rw[if_pos hle]
    clear hd
    go_wp2
    go_round
    case rel=>exact⟨j+1,n*10+((s[j].toNat:Int) - 48),by omega,by go_num,by go_num,by omega,by omega,hl.out.trans HS.out,HD⟩
    case measure=>simp[intOf];omega
   ·have HS:=valFrom_stop n (by omega) ((bs s).drop j)
    have HS':Hid (valFrom n ((bs s).drop j)=n):=HS
    clear HS hd
    have hgt:10<n:=by omega
    go_wp2
    go_ret
    exact⟨ret_int (by rw[hl.out,HS'.out] <;> rfl),rfl⟩
  ·have HS':Hid (valFrom n ((bs s).drop j)=n):=by show _=_;rw[bs_drop_end s j (by omega)];rfl
   go_wp2
   go_ret
   exact⟨ret_int (by rw[hl.out,HS'.out] <;> rfl),rfl⟩
theorem bs_extract(s:ByteArray)(a b:Nat):bs (s.extract a b)=((bs s).drop a).take (b - a):=by
 unfold bs
 rw[ByteArray.data_extract];simp
theorem bs_tail(s:ByteArray):bs (s.extract 1 s.size)=(bs s).drop 1:=by
 rw[bs_extract,List.take_of_length_le (by rw[List.length_drop,bs_length];exact Nat.le_refl _)]
theorem size_tail(s:ByteArray):(s.extract 1 s.size).size=s.size - 1:=by simp
theorem bs_toList(s:ByteArray):s.toList=bs s:=Lib.toList_data s
def numP(neg:Bool)(d:List UInt8):Int × Int:=if cntB d then (if decOf d≤10 then ((if neg then -decOf d else decOf d),0) else (0,4)) else (0,3)
theorem cnt_all{d:List UInt8}(h:cntB d=true):d.all digB=true:=by
 cases d with
 | nil=>cases h
 | cons c r=>simp only[cntB,Bool.and_eq_true] at h;exact h.2
theorem dec_bd{d:List UInt8}(h:cntB d=true):0≤decOf d∧decOf d≤109:=valFrom_bd d (cnt_all h) 0 (by omega) (by omega)
theorem ret_two{a b c d:Int}(h:a=c)(h':b=d):Ending.returned (.tuple #[.int .i64 a,.int .i64 b])=.returned (.tuple #[.int .i64 c,.int .i64 d]):=by rw[h,h']
set_option maxHeartbeats 1000000 in
theorem number_any(s:ByteArray)(w:World)(hs:s.size≤4194304) :
  Calls Tryd.prog 76 #[.string s] w fun e w'=>e=.returned (.tuple #[.int .i64 (numOf (bs s)).1,.int .i64 (numOf (bs s)).2])∧w'=w:=by
 by_cases h48:bs s=[48]
 ·have hb:(s.toList == [48])=true:=by rw[bs_toList,h48];rfl
  have H:Hid (numOf (bs s)=(0,0)):=by show _=_;rw[h48];rfl
  clear h48
  go_enter Tryd.func76,Tryd.ntmps76
  go_wp2
  go_ret2
  exact⟨ret_two (congrArg Prod.fst H.out).symm (congrArg Prod.snd H.out).symm,rfl⟩
 have hb:(s.toList == [48])=false:=by rw[bs_toList];exact beq_eq_false_iff_ne.2 h48
 by_cases h0:s.size=0
 ·have H:Hid (numOf (bs s)=(0,3)):=by show _=_;rw[bs_nil s h0];rfl
  have hq:cntB (bs s)=false:=by rw[bs_nil s h0];rfl
  clear h48
  go_enter Tryd.func76,Tryd.ntmps76
  go_wp2_with (go_at_call 89;refine(isCount_any _ _ hs).mono ?_;rintro e w' ⟨rfl,rfl⟩)
  go_ret2
  exact⟨ret_two (congrArg Prod.fst H.out).symm (congrArg Prod.snd H.out).symm,rfl⟩
 have hp:0<s.size:=by omega
 have hcs:=bs_cons s hp
 cases h45:((s[0].toNat:Int) == 45)
 ·have HN:numOf (bs s)=numP false (bs s):=by
   unfold numOf
   rw[if_neg h48,hcs]
   simp only[h45,numP];rfl
  clear hcs h48 h0
  cases hc:cntB (bs s)
  ·have H:Hid (numOf (bs s)=(0,3)):=by show _=_;rw[HN];simp only[numP,hc];rfl
   clear HN
   go_enter Tryd.func76,Tryd.ntmps76
   go_wp2_with (go_at_call 89;refine(isCount_any _ _ hs).mono ?_;rintro e w' ⟨rfl,rfl⟩)
   go_ret2
   exact⟨ret_two (congrArg Prod.fst H.out).symm (congrArg Prod.snd H.out).symm,rfl⟩
  ·have hall:Hid ((bs s).all digB=true):=cnt_all hc
   obtain⟨hb0,hb1⟩:=dec_bd hc
   by_cases hle:decOf (bs s)≤10
   ·have H:Hid (numOf (bs s)=(decOf (bs s),0)):=by show _=_;rw[HN];simp only[numP,hc,if_pos hle];rfl
    clear HN
    go_enter Tryd.func76,Tryd.ntmps76
    go_wp2_with (first
     | (go_at_call 89;refine(isCount_any _ _ hs).mono ?_;rintro e w' ⟨rfl,rfl⟩)
     | (go_at_call 90;refine(value_any _ _ hs hall).mono ?_;rintro e w' ⟨rfl,rfl⟩))
    go_ret2
    exact⟨ret_two (congrArg Prod.fst H.out).symm (congrArg Prod.snd H.out).symm,rfl⟩
   ·have H:Hid (numOf (bs s)=(0,4)):=by show _=_;rw[HN];simp only[numP,hc,if_neg hle];rfl
    have hgt:10<decOf (bs s):=by omega
    clear HN hle
    go_enter Tryd.func76,Tryd.ntmps76
    go_wp2_with (first
     | (go_at_call 89;refine(isCount_any _ _ hs).mono ?_;rintro e w' ⟨rfl,rfl⟩)
     | (go_at_call 90;refine(value_any _ _ hs hall).mono ?_;rintro e w' ⟨rfl,rfl⟩))
    go_ret2
    exact⟨ret_two (congrArg Prod.fst H.out).symm (congrArg Prod.snd H.out).symm,rfl⟩
 ·have HN:numOf (bs s)=numP true ((bs s).drop 1):=by
   unfold numOf
   rw[if_neg h48]
   rw[hcs]
   simp only[h45,numP];rfl
  have hse:(s.extract 1 s.size).size≤4194304:=by rw[size_tail];omega
  have hbt:=bs_tail s
  clear hcs h48 h0
  generalize hd:(bs s).drop 1=d at HN hbt
  cases hc:cntB d
  ·have H:Hid (numOf (bs s)=(0,3)):=by show _=_;rw[HN];simp only[numP,hc];rfl
   have hc':cntB (bs (s.extract 1 s.size))=false:=by rw[hbt];exact hc
   clear HN hc hbt hd
   go_enter Tryd.func76,Tryd.ntmps76
   go_wp2_with (go_at_call 89;refine(isCount_any _ _ hse).mono ?_;rintro e w' ⟨rfl,rfl⟩)
   go_ret2
   exact⟨ret_two (congrArg Prod.fst H.out).symm (congrArg Prod.snd H.out).symm,rfl⟩
  ·have hc':cntB (bs (s.extract 1 s.size))=true:=by rw[hbt];exact hc
   have hall:Hid ((bs (s.extract 1 s.size)).all digB=true):=cnt_all hc'
   obtain⟨hb0,hb1⟩:=dec_bd hc'
   have hdd:Hid (decOf (bs (s.extract 1 s.size))=decOf d):=by show _=_;rw[hbt]
   by_cases hle:decOf d≤10
   ·have H:Hid (numOf (bs s)=(-decOf (bs (s.extract 1 s.size)),0)):=by show _=_;rw[HN,hdd.out];simp only[numP,hc,if_pos hle];rfl
    have hle':decOf (bs (s.extract 1 s.size))≤10:=by rw[hdd.out];exact hle
    clear HN hc hbt hd hdd hle
    go_enter Tryd.func76,Tryd.ntmps76
    go_wp2_with (first
     | (go_at_call 89;refine(isCount_any _ _ hse).mono ?_;rintro e w' ⟨rfl,rfl⟩)
     | (go_at_call 90;refine(value_any _ _ hse hall).mono ?_;rintro e w' ⟨rfl,rfl⟩))
    go_ret2
    exact⟨ret_two (congrArg Prod.fst H.out).symm (congrArg Prod.snd H.out).symm,rfl⟩
   ·have H:Hid (numOf (bs s)=(0,4)):=by show _=_;rw[HN];simp only[numP,hc,if_neg hle];rfl
    have hgt:10<decOf (bs (s.extract 1 s.size)):=by rw[hdd.out];omega
    clear HN hc hbt hd hdd hle
    go_enter Tryd.func76,Tryd.ntmps76
    go_wp2_with (first
     | (go_at_call 89;refine(isCount_any _ _ hse).mono ?_;rintro e w' ⟨rfl,rfl⟩)
     | (go_at_call 90;refine(value_any _ _ hse hall).mono ?_;rintro e w' ⟨rfl,rfl⟩))
    go_ret2
    exact⟨ret_two (congrArg Prod.fst H.out).symm (congrArg Prod.snd H.out).symm,rfl⟩
def litB(n:Int):Bool:=n != 0 && decide (-10≤n) && decide (n≤10)
set_option maxHeartbeats 400000 in
theorem is_any(n:Int)(w:World):Calls Tryd.prog 61 #[.int .i64 n] w fun e w'=>e=.returned (.bool (litB n))∧w'=w:=by
 go_enter Tryd.func61,Tryd.ntmps61
 go_wp2
 all_goals go_ret
 all_goals refine⟨ret_bool ?_,rfl⟩
 all_goals first
  | (simp_all[litB];done)
  | (simp_all[litB];omega)
open Go.RowKit Txt
def IntsAt(w:World)(a:Option Addr)(xs:List Int):Prop :=
 xs=[]∨∃ b off,a=some ⟨b,off,none⟩∧∀ j,j<xs.length→w.cell? ⟨b,off+j,none⟩=some (.int .i64 (xs.getD j 0))
def RowsAt(w:World)(a:Option Addr)(A:Nat→Option Addr)(C:Nat→Nat)(xss:List (List Int)):Prop :=
 xss=[]∨∃ b off,a=some ⟨b,off,none⟩∧∀ r,r<xss.length→w.cell? ⟨b,off+r,none⟩=some (.slice (A r) (xss.getD r []).length (C r))∧IntsAt w (A r) (xss.getD r [])∧(xss.getD r []).length≤9223372036854775807
theorem IntsAt.get{w:World}{a:Option Addr}{xs:List Int}(h:IntsAt w a xs)(hp:0<xs.length) :
  ∃ b off,a=some ⟨b,off,none⟩∧∀ j,j<xs.length→w.cell? ⟨b,off+j,none⟩=some (.int .i64 (xs.getD j 0)):=by
 rcases h with rfl | h
 ·simp at hp
 ·exact h
theorem RowsAt.get{w:World}{a:Option Addr}{A:Nat→Option Addr}{C:Nat→Nat}{xss:List (List Int)}(h:RowsAt w a A C xss)(hp:0<xss.length) :
  ∃ b off,a=some ⟨b,off,none⟩∧∀ r,r<xss.length→w.cell? ⟨b,off+r,none⟩=some (.slice (A r) (xss.getD r []).length (C r))∧IntsAt w (A r) (xss.getD r [])∧(xss.getD r []).length≤9223372036854775807:=by
 rcases h with rfl | h
 ·simp at hp
 ·exact h
theorem IntsAt.kept{w w':World}{a:Option Addr}{xs:List Int}(h:IntsAt w a xs)(hk:∀ b off v,w.cell? ⟨b,off,none⟩=some v→w'.cell? ⟨b,off,none⟩=some v):IntsAt w' a xs:=by
 rcases h with h | ⟨b,off,ha,h⟩
 ·exact .inl h
 ·exact .inr ⟨b,off,ha,fun j hj=>hk _ _ _ (h j hj)⟩
theorem RowsAt.kept{w w':World}{a:Option Addr}{A:Nat→Option Addr}{C:Nat→Nat}{xss:List (List Int)}(h:RowsAt w a A C xss)(hk:∀ b off v,w.cell? ⟨b,off,none⟩=some v→w'.cell? ⟨b,off,none⟩=some v):RowsAt w' a A C xss:=by
 rcases h with h | ⟨b,off,ha,h⟩
 ·exact .inl h
 ·exact .inr ⟨b,off,ha,fun r hr=>⟨hk _ _ _ (h r hr).1,(h r hr).2.1.kept hk,(h r hr).2.2⟩⟩
theorem drop_get{α:Type}(l:List α)(d:α)(j:Nat)(h:j<l.length):l.drop j=l.getD j d :: l.drop (j+1):=by
 rw[List.drop_eq_getElem_cons h,List.getD_eq_getElem?_getD,List.getElem?_eq_getElem h];rfl
def eqB{α:Type} [DecidableEq α](a b:α):Bool:=decide (a=b)
theorem eqB_drop{α:Type} [DecidableEq α](xs ys:List α)(d:α)(j:Nat)(h1:j<xs.length)(h2:j<ys.length) :
  eqB (xs.drop j) (ys.drop j)=(eqB (xs.getD j d) (ys.getD j d) && eqB (xs.drop (j+1)) (ys.drop (j+1))):=by
 rw[drop_get xs d j h1,drop_get ys d j h2]
 simp only[eqB,List.cons.injEq,Bool.decide_and]
theorem eqB_len{α:Type} [DecidableEq α](xs ys:List α)(h:xs.length≠ys.length):eqB xs ys=false:=by
 simp only[eqB,decide_eq_false_iff_not]
 intro e;exact h (by rw[e])
theorem eqB_end{α:Type} [DecidableEq α](xs ys:List α)(j:Nat)(h1:xs.length≤j)(h2:ys.length≤j):eqB (xs.drop j) (ys.drop j)=true:=by
 rw[List.drop_eq_nil_of_le h1,List.drop_eq_nil_of_le h2];simp[eqB]
def litsB(xss:List (List Int)):Bool:=xss.all (·.all litB)
end Go.Proofs.YthboeppmlhbofabDoor
