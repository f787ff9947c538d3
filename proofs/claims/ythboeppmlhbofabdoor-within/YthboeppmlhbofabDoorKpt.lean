import Derived.Test.YthboeppmlhbofabDoorKaa
import Derived.Test.YthboeppmlhbofabDoorKad
import Derived.Test.YthboeppmlhbofabDoorHal
namespace Go.Proofs.YthboeppmlhbofabDoor
open Go.RowKit Txt
set_option maxRecDepth 100000
def four:List (List Int):=[[1,2],[1,-2],[-1,2],[-1,-2]]
theorem among_mem{core:List Int}:∀ (l:List Int) (k j:Nat),k≤j→j<amongTo core l k→core.getD j 0∈l:=by
 intro l
 induction l with
 | nil=>intro k j h1 h2;simp only[amongTo] at h2;omega
 | cons x l ih =>
  intro k j h1 h2
  simp only[amongTo] at h2
  split at h2
  ·rename_i hc
   by_cases hk:j=k
   ·rw[hk,hc.2];exact List.mem_cons_self ..
   ·exact List.mem_cons_of_mem _ (ih (k+1) j (by omega) h2)
  ·exact List.mem_cons_of_mem _ (ih k j h1 h2)
theorem among_sub{core l:List Int}(h:amongD core l=true):∀ x∈core,x∈l:=by
 intro x hx
 unfold amongD at h
 have h':amongTo core l 0=core.length:=by simpa using h
 obtain⟨j,hj,rfl⟩:=List.mem_iff_getElem.1 hx
 have:=among_mem (core:=core) l 0 j (Nat.zero_le _) (by omega)
 rw[List.getD_eq_getElem?_getD,List.getElem?_eq_getElem hj] at this
 exact this
theorem Beg.rows{P:Prg}{w:World}{B g:Nat}{s:P.S}{F:Nat→Prop}{ta:Option Addr}{tc:Nat}{vs:List Value}{tk:List (List Int)}(h:Beg P w B g s F ta tc vs tk):∃ A C,RowsAt w ta A C tk:=by
 by_cases h0:tk=[]
 ·exact⟨fun _=>none,fun _=>0,.inl h0⟩
 have hp:0<tk.length:=List.length_pos_iff.2 h0
 obtain⟨g',cap,e,_,_⟩:=h.top.form hp
 simp only[Value.slice.injEq] at e
 obtain⟨rfl,_,rfl⟩:=e
 refine⟨fun r=>match vs.getD r undef with | .slice a _ _=>a | _=>none,fun r=>match vs.getD r undef with | .slice _ _ c=>c | _=>0,.inr ⟨g',0,rfl,fun r hr=>?_⟩⟩
 obtain⟨u,h1,h2⟩:=h.each.at r hr
 obtain⟨a,c,rfl⟩:=own_shape h2
 have e1:vs.getD r undef=.slice a (tk.getD r []).length c:=by rw[List.getD_eq_getElem?_getD,h1];rfl
 simp only[e1]
 have hc:=h.top.cells (g:=g') rfl r _ h1
 rw[addr0] at hc
 refine⟨hc,own_intsAt h2,?_⟩
 rcases h2.2 with⟨_,z⟩ | ⟨_,cap,_,_,_,_,q1,q2,_⟩
 ·omega
 ·unfold maxLen at q2;omega
end Go.Proofs.YthboeppmlhbofabDoor
