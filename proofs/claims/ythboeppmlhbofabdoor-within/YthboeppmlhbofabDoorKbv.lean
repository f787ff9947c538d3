import Derived.Test.YthboeppmlhbofabDoorKbk
import Derived.Test.YthboeppmlhbofabDoorKbg
namespace Go.Proofs.YthboeppmlhbofabDoor
open Go.RowKit Txt
set_option maxRecDepth 100000
structure OnM(P:Prg)(w:World)(g:Nat)(tk:List (List Int))(T:Nat)(ra:List Value)(ta:Option Addr)(tc:Nat)(vs:List Value)(wr:World)(s:P.S)(F:Nat→Prop):Prop where
 beg:Beg P wr w.heap.size g s F ta tc vs tk
 row:Row wr T 26 ra
 nf:¬ F T
 bel:Below w.heap.size w wr
theorem OnM.below{P:Prg}{w:World}{g:Nat}{tk:List (List Int)}{T:Nat}{ra:List Value}{ta:Option Addr}{tc:Nat}{vs:List Value}{wr wz:World}{s:P.S}{F:Nat→Prop}(h:OnM P w g tk T ra ta tc vs wr s F)(hb:Below wr.heap.size wr wz):OnM P w g tk T ra ta tc vs wz s F :=
 ⟨h.beg.below hb,row_below h.row hb,h.nf,h.bel.trans (hb.mono h.bel.size)⟩
theorem OnM.call{P:Prg}{w:World}{g:Nat}{tk:List (List Int)}{T:Nat}{ra:List Value}{ta:Option Addr}{tc:Nat}{vs:List Value}{wr w':World}{s s':P.S}{F F':Nat→Prop}(h:OnM P w g tk T ra ta tc vs wr s F)(x:P.At w' g s' F')(c:Chn F wr w')(n:∀ b,F' b→F b∨wr.heap.size≤b):∃ F2,OnM P w g tk T ra ta tc vs w' s' F2:=by
 have hz:=h.bel.size
 obtain⟨F2,X2,hc2,hn2,_⟩:=h.beg.call hz (Q:=fun _=>True) ⟨F',x,c,n,trivial⟩
 refine⟨F2,X2,(c.block _ h.row.lt h.nf).trans h.row,fun q=>?_,chn_below h.bel c hz h.beg.fb⟩
 rcases hn2 _ q with z | z
 ·exact h.nf z
 ·have:=h.row.lt;omega
theorem Tkn.push{w w':World}{B:Nat}{ta a3:Option Addr}{tc c3:Nat}{vs:List Value}{tk:List (List Int)}{au:Option Addr}{cu:Nat}{xs:List Int}{o:Obj}(h:Tkn w B ta tc vs tk)(hu:w.ownsRow B 3 1 (.slice au xs.length cu) xs.length (i64s xs))(hg:(w.alloc o).grownBy w' (Value.slice ta tk.length tc).ownBlock)(hown:w'.ownsRow B 23 1 (.slice a3 (tk.length+1) c3) (tk.length+1) (vs++[.slice au xs.length cu])) :
  Tkn w' B a3 c3 (vs++[.slice au xs.length cu]) (tk++[xs]):=by
 have hz:(w.alloc o).heap.size=w.heap.size+1:=by simp
 have kk:∀ b,b<w.heap.size→(Value.slice ta tk.length tc).ownBlock≠some b→w'.heap[b]?=w.heap[b]?:=fun b h1 h2=>(hg.block b (by omega) (fun e=>h2 e.symm)).trans (heap_alloc_old w o h1)
 have hlen:(tk++[xs]).length=tk.length+1:=by simp
 have hty:∀ {u:Value} {n:Nat} {zs:List Value},w.ownsRow B 3 1 u n zs→∀ b,u.ownBlock=some b→(Value.slice ta tk.length tc).ownBlock≠some b:=fun ho b e e'=>apart_types n_ill ho h.top b e e'
 exact⟨by rw[hlen];exact hown,AllOwn.snoc (h.each.map (fun u hu _ _ ho=>own_keep ho (fun b e=>kk b (ho.lt b e).2 (hty ho b e)))) (own_keep hu (fun b e=>kk b (hu.lt b e).2 (hty hu b e)))⟩
theorem linesT_len:∀ L:List Lin,L.length≤(linesT L).length:=by
 intro L
 induction L with
 | nil=>simp
 | cons p L ih =>
  rw[linesT_cons,List.length_append,List.length_cons,line_parts]
  simp only[List.length_cons,List.length_append]
  omega
theorem drop_one{L:List Lin}{k:Nat}(hk:k<L.length):L.drop k=L.getD k (0,[]) :: L.drop (k+1):=by
 rw[List.drop_eq_getElem_cons hk,List.getD_eq_getElem?_getD,List.getElem?_eq_getElem hk]
 rfl
theorem lineL_any(L:List Lin)(k:Nat)(hk:k<L.length)(hl:(L.getD k (0,[])).2.all litB=true)(hs:(linesT L).length≤4194304)(w:World) :
  Calls Tryd.prog 17 #[.string (bA (linesT L)),.int .i64 (posL L k:Nat)] w fun e w'=>∃ a' c',e=.returned (.tuple #[.int .u8 ((L.getD k (0,[])).1.toNat:Nat),.slice a' (L.getD k (0,[])).2.length c',.int .i64 (posL L (k+1):Nat)])∧w'.ownsRow w.heap.size 3 1 (.slice a' (L.getD k (0,[])).2.length c') (L.getD k (0,[])).2.length (i64s (L.getD k (0,[])).2)∧Below w.heap.size w w':=by
 have h1:=lineT_any (bA (linesT L)) (posL L k) (L.getD k (0,[])).1 (bodyT (L.getD k (0,[])).2) (linesT (L.drop (k+1))) w (by rw[bs_bA];exact pos_drop hk) (body_end hl) (by rw[bA_size];exact hs)
 rw[cu_body hl,← pos_succ hk] at h1
 exact h1
end Go.Proofs.YthboeppmlhbofabDoor
