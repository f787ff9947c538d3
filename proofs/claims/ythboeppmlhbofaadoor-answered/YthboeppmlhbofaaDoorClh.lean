import Derived.Test.YthboeppmlhbofaaDoorMoo
import Derived.Test.YthboeppmlhbofaaDoorHac
import Derived.Test.YthboeppmlhbofaaDoorClf
import Derived.Test.YthboeppmlhbofaaDoorDca
namespace Go.Proofs.YthboeppmlhbofaaDoor
open Go.RowKit Txt
set_option maxRecDepth 100000
theorem YN(c o:Nat)(hc:c<1048576)(ho:o<1048576):((c:Int) - bits .and .i64 (c:Int) (o:Int))=((c - (c&&&o):Nat):Int):=by
 rw[Eb c o (by omega) (by omega)]
 have:=@Nat.and_le_left c o
 omega
theorem Yy(x:Nat)(h0:x≠0)(hx:x<1048576):bits .and .i64 (x:Int) ((x:Int) - 1)=((x&&&(x - 1):Nat):Int):=by
 rw[show((x:Int) - 1)=((x - 1:Nat):Int) by omega]
 exact Eb x (x - 1) (by omega) (by omega)
def ZX:Option Nat→Bool
 | none=>true
 | some k=>A4 k
theorem Xe(cs:List Nat)(k:Nat):AU cs k=ZX (Hv cs 21 k):=by
 unfold AU ZX
 cases Hv cs 21 k <;> rfl
theorem Y0(cs:List Nat)(i k:Nat)(h:i<cs.length):Fb (cs.drop i) k=if Ah (cs.getD i 0) k=0 then none else Fb (cs.drop (i+1)) (if Ah (cs.getD i 0) k&&&(Ah (cs.getD i 0) k - 1)=0 then k|||Ah (cs.getD i 0) k else k):=by
 rw[CK cs 0 i h]
 rfl
theorem Xr(cs:List Nat)(lt:Nat)(xs:List Int):(H6 cs lt xs).2.length≤cs.length+1:=by
 unfold H6
 split
 ·split
  ·have:=List.length_erase_le (a:=AO xs) (l:=cs);simp only;omega
  ·simp
 ·split
  ·simp
  ·split
   ·simp
   ·simp
theorem Dw(xs:List Int):AO xs<1048576:=(Bf.ok xs).top
theorem Xs(cs:List Nat)(lt:Nat)(xs:List Int)(h:∀ c∈cs,c<1048576):∀ c∈(H6 cs lt xs).2,c<1048576:=by
 unfold H6
 split
 ·split
  ·intro c hc;exact h c (List.mem_of_mem_erase hc)
  ·exact h
 ·split
  ·exact h
  ·split
   ·intro c hc
    rcases List.mem_append.1 hc with hc | hc
    ·exact h c hc
    ·simp at hc;subst hc;exact Dw xs
   ·exact h
theorem Qo{w:World}{B e c:Nat}{a:Option Addr}{cs:List Nat}(h:w.ownsRow B e 1 (.slice a cs.length c) cs.length (AW (DP cs))):Ad w a (DP cs):=by
 have h':w.ownsRow B e 1 (.slice a cs.length c) (DP cs).length (AW (DP cs)):=by rw[Kj];exact h
 exact By h'
theorem Xb{w:World}{B e s n m:Nat}{u:Value}{a:Option Addr}{c:Nat}{xs:List Value}(h:w.ownsRow B e s u n xs){w2:World}{ys:List Value}{e2 s2:Nat}(h2:w2.ownsRow w.heap.size e2 s2 (.slice a m c) m ys):Bp (.slice a m c) u:=by
 intro b hb hu
 have h3:=(h2.lt b hb).1
 have h4:=(h.lt b hu).2
 omega
theorem Xn{w:World}{B c:Nat}{a:Option Addr}{xs:List Int}(h:w.ownsRow B 3 1 (.slice a xs.length c) xs.length (AW xs)):(a=none→xs.length=0∧c=0)∧∀ ad,a=some ad→∀ j u,(AW xs)[j]?=some u→w.cell? (ad.add j)=some u:=by
 rcases h.2 with⟨hv,h0⟩ | ⟨g,cap,cur,hv,_⟩
 ·simp only[Value.slice.injEq] at hv
  obtain⟨rfl,_,rfl⟩:=hv
  exact⟨fun _=>⟨h0,rfl⟩,fun ad e=>by simp at e⟩
 ·simp only[Value.slice.injEq] at hv
  obtain⟨rfl,_,rfl⟩:=hv
  refine⟨fun e=>by simp at e,fun ad e j u hu=>?_⟩
  simp only[Option.some.injEq] at e
  subst e
  exact h.cells (g:=g) rfl j u hu
structure SE where
 cb:Nat
 gx:Nat
 gy:Nat
 r:Int
 h:Int
 l:Int
 vg:Value
 ah:Option Addr
 ch:Nat
 hv:List Nat
 lits:Nat
 seen:Nat
 al:Option Addr
 cl:Nat
 lr:List Nat
 held:Nat
 log:Nat
 unsat:Nat
 pf:ByteArray
 st:Nat
def SE.cells(d:SE):List Value:=[.pointer (some ⟨d.gx,0,none⟩),.pointer (some ⟨d.gy,0,none⟩),.int .i64 d.r,.int .i64 d.h,.int .i64 d.l,d.vg,.slice d.ah d.hv.length d.ch,.int .i64 d.lits,.int .i64 d.seen,.slice d.al d.lr.length d.cl,.int .i64 d.held,.int .i64 d.log,.int .i64 d.unsat,.string d.pf,.int .i64 d.st]
def Bz(hv lr:List Nat)(xs:List Int)(tail:Bool):Bool :=
 xs.all AK && (AG (AO xs) == xs.length) && Ca hv (Ag (AO xs)) && AU (hv++lr) (AS (AO xs)) && (tail || (!A4 (AO xs) && !decide (AO xs∈hv++lr)))
theorem YT(a b:List Nat):DP a++DP b=DP (a++b):=by simp[DP]
end Go.Proofs.YthboeppmlhbofaaDoor
