import Derived.Test.YthboeppmlhbofaaDoorPse
import Derived.Test.YthboeppmlhbofaaDoorKep
namespace Go.Proofs.YthboeppmlhbofaaDoor
open Go.RowKit Txt
set_option maxRecDepth 100000
def ZJ(l:List UInt8)(p:Nat):Bool:=decide (p+2≤l.length) && ((l.getD (p+1) 0).toNat == 32) && ((l.getD p 0).toNat == 97 || (l.getD p 0).toNat == 100 || (l.getD p 0).toNat == 101)
theorem Yw(a b:Nat):((a:Int) == (b:Int))=(a == b):=by
 rw[Bool.eq_iff_iff]
 simp only[beq_iff_eq]
 omega
def WE(l:List UInt8):Nat→Nat→List Int→Option (List Int × Nat)
 | 0,_,_=>none
 | m+1,p,acc =>
  let q:=p+CR (l.drop p)
  if q<l.length then
   let n:=CQ ((l.drop p).take (q - p))
   if n.2≠0 then none else
    if n.1=0∧(l.getD q 0).toNat=10 then some (acc,q+1) else
     if n.1=0∨(l.getD q 0).toNat≠32 then none else WE l m (q+1) (acc++[n.1])
  else none
def Gy(l:List UInt8)(p:Nat):Option (Nat × List Int × Nat) :=
 if ZJ l p then (WE l (l.length+1) (p+2) []).map fun r=>((l.getD p 0).toNat,r.1,r.2) else none
theorem Qt{fn:Func}{p u v:Tmp}{ty:TypeId}(h:fn.results=#[.cell p ty,.tmp u,.tmp v])(tmps:Array Value)(P:Program)(w:World) :
  (results fn tmps).run P w =
   ((asAddr (tmps.getD p undef)).run P w).andThen fun a w₁=>((loadVar ty a).run P w₁).andThen fun x w₂=>.ok (.tuple #[x,tmps.getD u undef,tmps.getD v undef]) w₂:=by
 simp only[results,h]
 simp[Sem.run_bind,Result.andThen]
theorem YP:∃ fs,Tryd.prog.underlying 75=some (.struct fs):=by
 have h:(Tryd.prog.underlying 75).map CL=some true:=by kernel_rfl
 cases hu:Tryd.prog.underlying 75 with
 | none=>rw[hu] at h;simp at h
 | some d =>
  rw[hu] at h
  cases d with
  | struct fs=>exact⟨fs,rfl⟩
  | _=>simp[CL] at h
theorem YO:(Tryd.prog.info? 75).map (·.size)=some 2:=by kernel_rfl
theorem Zj:(3:Nat)≠75:=by decide
def ZF(w:World)(r:Option (Nat × List Int × Nat))(e:Ending)(w':World):Prop:=Below w.heap.size w w'∧match r with
 | none=>e=.returned (.tuple #[.agg #[.int .u8 0,.slice none 0 0],.int .i64 0,.bool false])
 | some (lt,xs,q)=>∃ a c,e=.returned (.tuple #[.agg #[.int .u8 lt,.slice a xs.length c],.int .i64 q,.bool true])∧w'.ownsRow w.heap.size 3 1 (.slice a xs.length c) xs.length (AW xs)
theorem CF(xs:List Int)(h:xs.all AK=true):Aa xs<2^11:=(Bf.set xs h).lt
theorem CA(xs:List Int)(h:xs.all AK=true):AZ xs<2^11:=(Bf.set xs h).lf
def Hx(k:Tk):Int:=match k with
 | .lit=>4
 | .taut=>0
 | .full=>5
 | .takes=>0
set_option maxHeartbeats 2000000 in
theorem QS(g:Nat)(a:Option Addr)(c:Nat)(xs:List Int)(w:World)(hx:xs.length≤9223372036854775807)(hi:Ad w a xs)(hall:xs.all AK=false) :
  Calls Tryd.prog 25 #[.pointer (some ⟨g,0,none⟩),.slice a xs.length c] w fun e w'=>e=.returned (.int .i64 4)∧Below w.heap.size w w':=by
 have HO:=AA (Ea a c xs w hx hi)
 have e1:CO xs=0:=by simp[CO,hall]
 have e2:CN xs=0:=by simp[CN,hall]
 rw[hall,e1,e2] at HO
 clear hi hall e1 e2
 go_enter Tryd.func25,Tryd.ntmps25
 go_wp2_with fail
 refine(AE HO).mono ?_
 rintro e w2 ⟨rfl,hb2⟩
 have HB:Hid (∀ x,Below w.heap.size w (w2.alloc x)):=fun x=>hb2.alloc hb2.size x
 clear hb2
 go_wp2
 go_ret
 exact⟨rfl,HB.out _⟩
set_option maxHeartbeats 2000000 in
theorem NG(g:Nat)(a:Option Addr)(c:Nat)(xs:List Int)(w:World)(hx:xs.length≤9223372036854775807)(hi:Ad w a xs)(hall:xs.all AK=true)(ht:(Aa xs&&&AZ xs != 0)=true) :
  Calls Tryd.prog 25 #[.pointer (some ⟨g,0,none⟩),.slice a xs.length c] w fun e w'=>e=.returned (.int .i64 0)∧Below w.heap.size w w':=by
 have HO:=AA (Ea a c xs w hx hi)
 have e1:CO xs=Aa xs:=by simp[CO,hall]
 have e2:CN xs=AZ xs:=by simp[CN,hall]
 have HT:Hid (∀ w,Calls Tryd.prog 46 #[.agg #[.int .i64 (Aa xs:Nat),.int .i64 (AZ xs:Nat)]] w fun e w'=>e=.returned (.bool true)∧Below w.heap.size w w'):=fun w=>by
  have:=Cw (Aa xs) (AZ xs) (CF xs hall) (CA xs hall) w
  rwa [ht] at this
 rw[hall,e1,e2] at HO
 generalize Aa xs=t at *
 generalize AZ xs=f at *
 clear hi hall e1 e2 ht
 go_enter Tryd.func25,Tryd.ntmps25
 go_wp2_with fail
 refine(AE HO).mono ?_
 rintro e w2 ⟨rfl,hb2⟩
 have HB:Hid (∀ x,Below w.heap.size w (w2.alloc x)):=fun x=>hb2.alloc hb2.size x
 have hs2:w.heap.size≤w2.heap.size:=hb2.size
 clear hb2
 go_wp2_with fail
 refine(AE HT _).mono ?_
 rintro e w3 ⟨rfl,hb3⟩
 have HB3:Hid (Below w.heap.size w w3):=(HB.out _).trans (hb3.mono (by simp;omega))
 clear hb3
 go_wp2
 go_ret
 exact⟨rfl,HB3.out⟩
theorem YX(xs:List Int):CO xs<2^11:=by
 unfold CO
 split
 ·rename_i h;exact CF xs h
 ·decide
theorem YU(xs:List Int):CN xs<2^11:=by
 unfold CN
 split
 ·rename_i h;exact CA xs h
 ·decide
def Gz(ns:List Nd)(lt:Nat)(xs:List Int):Int × List Nd :=
 if lt=100 then (match DI ns (CO xs) (CN xs) with | none=>(8,ns) | some ns'=>(0,ns'))
 else if NY ns (CO xs) (CN xs)=false then (7,ns) else if lt=97 then (0,DX ns (CO xs) (CN xs) 1) else (0,ns)
end Go.Proofs.YthboeppmlhbofaaDoor
