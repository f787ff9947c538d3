import Derived.Test.YthboeppmlhbofabDoorRdr
import Derived.Test.YthboeppmlhbofabDoorOpp
import Derived.Laws.CopyOwn
namespace Go.Proofs.YthboeppmlhbofabDoor
open Go.RowKit Txt
set_option maxRecDepth 100000
theorem cm_false1{s:ByteArray}{j:Nat}(h:j<s.size)(h9:((s[j].toNat:Int) == 99)=false):cmB (bs s) j=false:=by
 rw[cmB,bs_getD s j h,h9];rfl
theorem cm_false2{s:ByteArray}{i:Nat}(h:i+1<s.size)(h1:((s[i].toNat:Int) == 10)=false):cmB (bs s) (i+1)=false:=by
 have h':i<s.size:=by omega
 have hn:nlB ((bs s).getD i 0)=false:=by rw[bs_getD s i h'];exact h1
 simp only[cmB,Nat.add_sub_cancel,hn,Nat.add_one_ne_zero,decide_false,Bool.or_false,Bool.and_false]
theorem cm_true1{s:ByteArray}(h:0<s.size)(h9:((s[0].toNat:Int) == 99)=true):cmB (bs s) 0=true:=by
 rw[cmB,bs_getD s 0 h,h9];rfl
theorem cm_true2{s:ByteArray}{i:Nat}(h:i+1<s.size)(h9:((s[i+1].toNat:Int) == 99)=true)(h1:((s[i].toNat:Int) == 10)=true):cmB (bs s) (i+1)=true:=by
 have h':i<s.size:=by omega
 have hn:nlB ((bs s).getD i 0)=true:=by rw[bs_getD s i h'];exact h1
 rw[cmB,bs_getD s (i+1) h,h9]
 simp only[Nat.add_sub_cancel,hn,Bool.or_true,Bool.and_true]
def Row(w:World)(g:Nat)(e:TypeId)(zs:List Value):Prop:=w.heap[g]?=some (.cells zs.toArray e (0,0))
theorem Row.cell{w:World}{g:Nat}{e:TypeId}{zs:List Value}(h:Row w g e zs)(j:Nat):w.cell? ⟨g,j,none⟩=zs[j]?:=by
 rw[cell_of_row w g j zs.toArray e (0,0) h];simp
theorem Row.frozen{w:World}{g:Nat}{e:TypeId}{zs:List Value}(h:Row w g e zs)(j:Nat):w.frozen? ⟨g,j,none⟩=false:=by
 have h':w.heap[g]?=some (.cells zs.toArray e (0,0)):=h
 simp[World.frozen?,h']
theorem Row.lt{w:World}{g:Nat}{e:TypeId}{zs:List Value}(h:Row w g e zs):g<w.heap.size:=(Array.getElem?_eq_some_iff.1 h).1
theorem Row.set{w:World}{g:Nat}{e:TypeId}{zs:List Value}(h:Row w g e zs)(j:Nat)(v:Value):Row (w.setCell ⟨g,j,none⟩ v) g e (zs.set j v):=by
 have h':w.heap[g]?=some (.cells zs.toArray e (0,0)):=h
 unfold Row
 simp only[World.setCell,Array.getElem?_modify,h']
 simp
def sevens:List Value:=[.int .i64 7,.int .i64 7]
theorem made_zeros(n:Nat):(madeCells (Value.int .i64 0).cells (n*1)).toList=List.replicate n (.int .i64 0):=by
 have:=toList_madeCells_one (.int .i64 0) n
 simpa [Value.cells] using this
theorem row_of_own{w:World}{base e g n:Nat}{zs:List Value}(h:w.ownsRow base e 1 (.slice (some ⟨g,0,none⟩) n n) n zs):Row w g e zs:=by
 rcases h.2 with⟨hv,_⟩ | ⟨g',cap,cur,hv,_,hh,_,_,hsz,htake⟩
 ·simp at hv
 ·simp only[Value.slice.injEq,Option.some.injEq,Addr.mk.injEq,and_true] at hv
  obtain⟨rfl,_,rfl⟩:=hv
  unfold Row
  rw[hh,← htake,List.take_of_length_le (by simp[hsz])]
theorem splice_spare(xs:List Int):splice (List.replicate (xs.length+2) (.int .i64 0)) 0 (i64s xs)=i64s xs++[.int .i64 0,.int .i64 0]:=by
 simp only[splice,List.take_zero,List.nil_append,Nat.zero_add,i64s_length,List.drop_replicate]
 rw[show xs.length+2 - xs.length=2 by omega]
 rfl
theorem intsAt_src{w:World}{a:Option Addr}{xs:List Int}(h:IntsAt w a xs)(hp:0<(i64s xs).length):∃ ad,a=some ad∧∀ j v,(i64s xs)[j]?=some v→w.cell? (ad.add j)=some v:=by
 rw[i64s_length] at hp
 obtain⟨b,off,rfl,hc⟩:=h.get hp
 refine⟨_,rfl,fun j v hv=>?_⟩
 have hj:j<xs.length:=by have:=(List.getElem?_eq_some_iff.1 hv).1;rwa [i64s_length] at this
 have hadd:(⟨b,off,none⟩:Addr).add j=⟨b,off+j,none⟩:=by unfold Addr.add;split <;> simp_all
 rw[hadd,hc j hj]
 simp only[i64s,List.getElem?_map,List.getElem?_eq_getElem hj,Option.map_some] at hv
 rw[← hv,List.getD_eq_getElem?_getD,List.getElem?_eq_getElem hj]
 rfl
theorem spare_ints(xs:List Int)(w:World)(g:Nat)(h:Row w g 3 (i64s xs++sevens)):IntsAt w (some ⟨g,0,none⟩) xs:=by
 refine .inr ⟨g,0,rfl,fun j hj=>?_⟩
 rw[h.cell,Nat.zero_add,List.getElem?_append_left (by rw[i64s_length];exact hj)]
 simp[i64s,hj]
theorem sev_get{zs:List Value}(k n:Nat)(hk:k≤n)(hz:zs.length=n):(List.replicate k (Value.int .i64 7)++zs.drop k).length=n:=by simp;omega
theorem sev_set{zs:List Value}(k:Nat)(hk:k<zs.length):(List.replicate k (Value.int .i64 7)++zs.drop k).set k (.int .i64 7)=List.replicate (k+1) (.int .i64 7)++zs.drop (k+1):=by
 rw[List.set_append_right _ _ (by simp),List.length_replicate,Nat.sub_self,List.drop_eq_getElem_cons hk,List.set_cons_zero,List.replicate_succ',List.append_assoc]
 rfl
theorem grown_one{w w1 w2:World}{r:Option Nat}(h:w.grownBy w1 r)(h':w1.grownBy w2 r):w.grownBy w2 r :=
 ⟨h'.os.trans h.os,h'.tape.trans h.tape,h'.output.trans h.output,Nat.le_trans h.size h'.size,fun k hk hn=>(h'.block k (Nat.lt_of_lt_of_le hk h.size) hn).trans (h.block k hk hn)⟩
theorem grown_drewN(w:World)(m:Nat)(r:Option Nat):w.grownBy (w.drewN m) r:=⟨rfl,rfl,rfl,Nat.le_refl _,fun _ _ _=>rfl⟩
theorem grown_setCell(w:World)(g j:Nat)(v:Value):w.grownBy (w.setCell ⟨g,j,none⟩ v) (some g) :=
 ⟨rfl,rfl,rfl,by simp[World.setCell],fun k _ hn=>Below.heap_setCell _ _ _ _ (by intro e;exact hn (by rw[e]))⟩
end Go.Proofs.YthboeppmlhbofabDoor
