import Derived.Test.YthboeppmlhbofabDoorKep
import Derived.ProofKit
import Derived.OpenShut
import Derived.LaidMore
import Derived.LaidSub
import Derived.Deep.DeepHandedRow
import Derived.Deep.Matrix
import Derived.Lib.LaidTab
namespace Go.Proofs.YthboeppmlhbofabDoor
open Go.ChangeShapes Go.WideShapes Go.ChangeAt Go.RowKit Go.Deep
set_option maxRecDepth 100000
theorem own:ownKnob Tryd.prog.godebug=none:=by kernel_rfl
theorem gTabType:(Tryd.prog.globals[0]?).map (·.type)=some 143:=by kernel_rfl
theorem undTab:Tryd.prog.underlying 143=some (.array 20 137):=by kernel_rfl
theorem undU64:Tryd.prog.underlying 137=some (.int .u64):=by kernel_rfl
theorem undInt:Tryd.prog.underlying 3=some (.int .i64):=by kernel_rfl
theorem undBool:Tryd.prog.underlying 4=some .bool:=by kernel_rfl
theorem cellsTab:Tryd.prog.cellsOf 143=20:=by kernel_rfl
theorem cellsU64:Tryd.prog.cellsOf 137=1:=by kernel_rfl
theorem cellsInt:Tryd.prog.cellsOf 3=1:=by kernel_rfl
theorem cellsInts:Tryd.prog.cellsOf 23=1:=by kernel_rfl
theorem laidOut:laidOutB Tryd.prog=true:=by kernel_rfl
theorem rows_of{W:World}{a:Addr}{len cap:Nat}{A:Nat→Option Addr}{L C:Nat→Nat}{Z:Nat→List Int}(hl:len≤cap)
  (h:∀ r,r<cap→W.cell? (a.add r)=some (.slice (A r) (L r) (C r))∧L r≤C r∧C r≤maxLen∧(Z r).length=C r∧(∀ n∈Z r,(Lit.int .i64 n).wf=true)∧(A r=none→C r=0) ∧
    ∀ a',A r=some a'→0≤a'.block∧∀ c,c<C r→W.cell? (a'.add c)=some (.int .i64 ((Z r).getD c 0))) :
  RowsAt W (some a) A C ((List.range len).map fun r=>(Z r).take (L r)):=by
 by_cases h0:len=0
 ·subst h0;exact .inl rfl
 obtain⟨b,off,spot⟩:=a
 have hspot:spot=none:=by simpa [Addr.add] using World.cell?_spot (h 0 (by omega)).1
 subst hspot
 refine .inr ⟨b,off,rfl,fun r hr=>?_⟩
 have hr':r<len:=by simpa using hr
 obtain⟨h1,h2,h3,h4,_,h6,h7⟩:=h r (by omega)
 have e:((List.range len).map fun r=>(Z r).take (L r)).getD r []=(Z r).take (L r):=by simp[List.getD,hr']
 have el:((Z r).take (L r)).length=L r:=by rw[List.length_take,h4];omega
 rw[e,el]
 refine⟨by rw[← add_plain];exact h1,?_,by unfold maxLen at h3;omega⟩
 by_cases hL:L r=0
 ·exact .inl (List.eq_nil_of_length_eq_zero (by rw[el,hL]))
 cases hA:A r with
 | none=>have:=h6 hA;omega
 | some a' =>
  obtain⟨_,h8⟩:=h7 a' hA
  obtain⟨b',off',spot'⟩:=a'
  have hspot':spot'=none:=by simpa [Addr.add] using World.cell?_spot (h8 0 (by omega))
  subst hspot'
  refine .inr ⟨b',off',rfl,fun j hj=>?_⟩
  rw[el] at hj
  have:=h8 j (by omega)
  rw[add_plain] at this
  rw[this]
  simp[List.getD,hj]
theorem wf_bounds{n:Int}(h:(Lit.int .i64 n).wf=true):-9223372036854775808≤n∧n≤9223372036854775807:=by simpa [Lit.wf,IntKind.min,IntKind.max,IntKind.signed,IntKind.bits] using h
theorem rows_in{H:Type}{enc:TypeId × Value→H}{W:World}{fuel:Nat}{a0:Option Addr}{len cap:Nat}{x:DataW H × List MemPlace}(hf:DataW.trod enc Tryd.prog W 0 (fun _=>true) true fuel 22 (Value.slice a0 len cap).cells.toList=some x) :
  ∃ (A:Nat→Option Addr) (C:Nat→Nat) (cls:List (List Int)),cls.length=len∧RowsAt W a0 A C cls∧cls.length≤9223372036854775807∧∀ c∈cls,∀ x∈c,-9223372036854775808≤x∧x≤9223372036854775807:=by
 rcases open_int_rows Tryd.undLists Tryd.undInts undInt cellsInts cellsInt hf with⟨hcs,_⟩ | ⟨a,len',cap',A,L,C,Z,hcs,_,hl,hm,_,hx⟩
 ·simp only[Value.cells,List.cons.injEq,Value.slice.injEq,and_true] at hcs
  obtain⟨rfl,rfl,rfl⟩:=hcs
  exact⟨fun _=>none,fun _=>0,[],rfl,.inl rfl,by simp,fun c hc=>by simp at hc⟩
 ·simp only[Value.cells,List.cons.injEq,Value.slice.injEq,and_true] at hcs
  obtain⟨rfl,rfl,rfl⟩:=hcs
  have hr:=rows_of hl hx
  have el:((List.range len).map fun r=>(Z r).take (L r)).length=len:=by simp
  refine⟨A,C,_,el,hr,by rw[el];unfold maxLen at hm;omega,fun c hc y hy=>?_⟩
  obtain⟨r,hr1,rfl⟩:=List.mem_map.1 hc
  exact wf_bounds ((hx r (by have:=List.mem_range.1 hr1;omega)).2.2.2.2.1 y (List.mem_of_mem_take hy))
theorem ints_in{H:Type}{enc:TypeId × Value→H}{W:World}{fuel:Nat}{a0:Option Addr}{len cap:Nat}{x:DataW H × List MemPlace}(hf:DataW.trod enc Tryd.prog W 0 (fun _=>true) true fuel 23 (Value.slice a0 len cap).cells.toList=some x) :
  ∃ xs:List Int,xs.length=len∧IntsAt W a0 xs∧xs.length≤9223372036854775807∧∀ x∈xs,-9223372036854775808≤x∧x≤9223372036854775807:=by
 rcases open_ints Tryd.undInts undInt cellsInt hf with⟨hcs,_⟩ | ⟨a,len',cap',zs,hcs,_,hl,hm,hzl,_,hc,hw⟩
 ·simp only[Value.cells,List.cons.injEq,Value.slice.injEq,and_true] at hcs
  obtain⟨rfl,rfl,rfl⟩:=hcs
  exact⟨[],rfl,.inl rfl,by simp,fun x hx=>by simp at hx⟩
 ·simp only[Value.cells,List.cons.injEq,Value.slice.injEq,and_true] at hcs
  obtain⟨rfl,rfl,rfl⟩:=hcs
  have hzc:zs.length=cap:=by simpa using hzl
  have el:(zs.take len).length=len:=by rw[List.length_take,hzc];omega
  refine⟨zs.take len,el,?_,by rw[el];unfold maxLen at hm;omega,fun x hx=>wf_bounds (hw x (List.mem_of_mem_take hx))⟩
  by_cases h0:len=0
  ·exact .inl (List.eq_nil_of_length_eq_zero (by rw[el,h0]))
  obtain⟨b,off,spot⟩:=a
  have hspot:spot=none:=by simpa [Addr.add] using World.cell?_spot (hc 0 (by omega))
  subst hspot
  refine .inr ⟨b,off,rfl,fun j hj=>?_⟩
  rw[el] at hj
  have:=hc j (by omega)
  rw[add_plain] at this
  rw[this]
  simp[List.getD,hj]
end Go.Proofs.YthboeppmlhbofabDoor
