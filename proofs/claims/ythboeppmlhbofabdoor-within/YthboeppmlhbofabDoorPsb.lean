import Derived.Test.YthboeppmlhbofabDoorKep
namespace Go.Proofs.YthboeppmlhbofabDoor
open Go.RowKit Txt
set_option maxRecDepth 100000
structure Nd where
 n0:Nat
 n1:Nat
 n2:Nat
 n3:Nat
 c:Nat
def nd0:Nd:=⟨0,0,0,0,0⟩
def Nd.cells(d:Nd):List Value:=[.int .i64 d.n0,.int .i64 d.n1,.int .i64 d.n2,.int .i64 d.n3,.int .i64 d.c]
def ndCells(ns:List Nd):List Value:=ns.flatMap Nd.cells
theorem ndCells_at(l:List Nd):∀ (j:Nat),j<l.length→∀ i v,(l.getD j nd0).cells[i]?=some v→(ndCells l)[j*5+i]?=some v:=by
 induction l with
 | nil=>intro j hj;simp at hj
 | cons p l ih =>
  intro j hj i v hv
  have e:ndCells (p :: l)=p.cells++ndCells l:=by simp[ndCells]
  have hl:p.cells.length=5:=rfl
  rw[e]
  cases j with
  | zero =>
   simp only[List.getD_cons_zero] at hv
   have hi:i<p.cells.length:=(List.getElem?_eq_some_iff.1 hv).1
   rw[Nat.zero_mul,Nat.zero_add,List.getElem?_append_left hi]
   exact hv
  | succ j =>
   simp only[List.getD_cons_succ] at hv
   rw[List.getElem?_append_right (by rw[hl];omega),hl,show(j+1)*5+i - 5=j*5+i by omega]
   exact ih j (by simpa using hj) i v hv
def NodesAt(w:World)(a:Option Addr)(ns:List Nd):Prop :=
 ∃ b,a=some ⟨b,0,none⟩∧b<w.heap.size∧∀ j,j<ns.length→∀ i v,(ns.getD j nd0).cells[i]?=some v→w.cell? ⟨b,0+j*5+i,none⟩=some v
theorem NodesAt.frame{w w':World}{a:Option Addr}{ns:List Nd}(h:NodesAt w a ns)(hz:w.heap.size≤w'.heap.size)(hk:∀ g,a=some g→w'.heap[g.block]?=w.heap[g.block]?):NodesAt w' a ns:=by
 obtain⟨b,rfl,hb,h⟩:=h
 exact⟨b,rfl,by omega,fun j hj i v hv=>(World.cell?_of_block (a:=⟨b,0+j*5+i,none⟩) (hk ⟨b,0,none⟩ rfl)).trans (h j hj i v hv)⟩
theorem nodes_own{w:World}{B c:Nat}{a:Option Addr}{l:List Nd}(h:w.ownsRow B 103 5 (.slice a l.length c) l.length (ndCells l))(hp:0<l.length):NodesAt w a l:=by
 rcases h.2 with⟨_,h0⟩ | ⟨g,cap,cur,hv,_⟩
 ·omega
 ·simp only[Value.slice.injEq] at hv
  obtain⟨rfl,_,rfl⟩:=hv
  refine⟨g,rfl,(h.lt g rfl).2,fun j hj i v hv=>?_⟩
  have h4:=h.cells (g:=g) rfl (j*5+i) v (ndCells_at l j hj i v hv)
  rw[addr0] at h4
  rw[Nat.add_assoc]
  exact h4
def Wf(ns:List Nd):Prop:=∀ j,j<ns.length→(ns.getD j nd0).n0<ns.length∧(ns.getD j nd0).n1<ns.length∧(ns.getD j nd0).n2<ns.length∧(ns.getD j nd0).n3<ns.length
def visitN(ns:List Nd)(kt kf:Nat):Nat→Nat→Nat→Int→PS→PS
 | 0,a,_,op,s=>if s.cl then s else meetN (ns.getD a nd0).c op s
 | m+1,a,v,op,s =>
  if s.cl then s else
   let s1:=if (ns.getD a nd0).n0=0 then s else visitN ns kt kf m (ns.getD a nd0).n0 (v+1) op s
   let s2:=if (ns.getD a nd0).n1=0 then s1 else if hasB kt kf (-(v:Int)) then visitN ns kt kf m (ns.getD a nd0).n1 (v+1) op s1 else if op=0∧hasB kt kf (v:Int)=false then visitN ns kt kf m (ns.getD a nd0).n1 (v+1) (v:Int) s1 else s1
   if (ns.getD a nd0).n2=0 then s2 else if hasB kt kf (v:Int) then visitN ns kt kf m (ns.getD a nd0).n2 (v+1) op s2 else if op=0∧hasB kt kf (-(v:Int))=false then visitN ns kt kf m (ns.getD a nd0).n2 (v+1) (-(v:Int)) s2 else s2
structure Env(w:World)(g:Nat)(na:Option Addr)(ns:List Nd)(nc kt kf:Nat)(s:PS):Prop where
 row:Row w g 121 (psCells na ns.length nc kt kf s)
 nodes:NodesAt w na ns
 ne:∀ b,na=some b→b.block≠g
 ok:s.Ok
def PSt(w:World)(g:Nat)(na:Option Addr)(ns:List Nd)(nc kt kf:Nat)(s:PS)(e:Ending)(w':World):Prop:=e=.returned (.tuple #[])∧Env w' g na ns nc kt kf s∧w.grownBy w' (some g)
theorem grown_below{w w':World}(g:Option Nat)(h:Below w.heap.size w w'):w.grownBy w' g:=⟨h.os,h.tape,h.output,h.size,fun k hk _=>h.block k hk⟩
theorem grownT{w w1 w2:World}{g:Option Nat}(h:w.grownBy w1 g)(h':w1.grownBy w2 g):w.grownBy w2 g:=⟨h'.os.trans h.os,h'.tape.trans h.tape,h'.output.trans h.output,Nat.le_trans h.size h'.size,fun k hk hn=>(h'.block k (Nat.lt_of_lt_of_le hk h.size) hn).trans (h.block k hk hn)⟩
theorem Env.grown{w w':World}{g:Nat}{na:Option Addr}{ns:List Nd}{nc kt kf:Nat}{s s':PS}(h:Env w g na ns nc kt kf s)(hg:w.grownBy w' (some g))(hr:Row w' g 121 (psCells na ns.length nc kt kf s'))(ho:s'.Ok):Env w' g na ns nc kt kf s' :=
 ⟨hr,h.nodes.frame hg.size (fun b e=>hg.block _ (by obtain⟨b',e',hb,_⟩:=h.nodes;rw[e'] at e;cases e;exact hb) (fun e'=>h.ne b e (Option.some.inj e'))),h.ne,ho⟩
theorem Env.below{w w':World}{g:Nat}{na:Option Addr}{ns:List Nd}{nc kt kf:Nat}{s:PS}(h:Env w g na ns nc kt kf s)(hb:Below w.heap.size w w'):Env w' g na ns nc kt kf s:=h.grown (grown_below _ hb) (row_below h.row hb) h.ok
def VisitAt(ns:List Nd)(kt kf m v:Nat):Prop:=∀ (g:Nat) (na:Option Addr) (nc a:Nat) (op:Int) (s:PS) (w:World),a<ns.length→(op=0∨litB op=true)→Env w g na ns nc kt kf s →
 Calls Tryd.prog 79 #[.pointer (some ⟨g,0,none⟩),.int .i64 a,.int .i64 v,.int .i64 op] w (PSt w g na ns nc kt kf (visitN ns kt kf m a v op s))
set_option maxHeartbeats 4000000 in
theorem visitWith_any(ns:List Nd)(kt kf m v:Nat)(hv1:1≤v)(hv2:v≤10)(hkt:kt<2^11)(hkf:kf<2^11)(HV:Hid (VisitAt ns kt kf m (v+1)))(g:Nat)(na:Option Addr)(nc a:Nat)(x op:Int)(hx:x=v∨x=-(v:Int))(s:PS)(w:World)(ha:a<ns.length)(ho:op=0∨litB op=true)(h:Env w g na ns nc kt kf s) :
  Calls Tryd.prog 92 #[.pointer (some ⟨g,0,none⟩),.int .i64 a,.int .i64 v,.int .i64 x,.int .i64 op] w (PSt w g na ns nc kt kf (if hasB kt kf (-x) then visitN ns kt kf m a (v+1) op s else if op=0∧hasB kt kf x=false then visitN ns kt kf m a (v+1) x s else s)):=by
 generalize hR:(if hasB kt kf (-x) then visitN ns kt kf m a (v+1) op s else if op=0∧hasB kt kf x=false then visitN ns kt kf m a (v+1) x s else s)=R
 have HRR:=hide hR
 clear hR
 have HH:Hid (∀ y w,-10≤y→y≤10→Calls Tryd.prog 71 #[.agg #[.int .i64 kt,.int .i64 kf],.int .i64 y] w fun e w'=>e=.returned (.bool (hasB kt kf y))∧Below w.heap.size w w'):=fun x w q1 q2=>has_any kt kf x hkt hkf q1 q2 w
 have hlx:Hid (x=0∨litB x=true):=by
  right
  simp only[litB,Bool.and_eq_true,bne_iff_ne,decide_eq_true_eq]
  rcases hx with rfl|rfl <;> omega
 have hx1:-10≤x:=by rcases hx with rfl|rfl <;> omega
 have hx2:x≤10:=by rcases hx with rfl|rfl <;> omega
 have hwn:IntKind.i64.wrap (-x)=-x:=by rw[IntKind.wrap_i64];omega
 have HA:=hide ha
 have HO:=hide ho
 have H:=hide h
 have c1:w.cell? ⟨g,1,none⟩=some (.int .i64 kt):=(h.row.cell 1).trans rfl
 have c2:w.cell? ⟨g,2,none⟩=some (.int .i64 kf):=(h.row.cell 2).trans rfl
 clear h ha ho hx
 go_enter Tryd.func92,Tryd.ntmps92
 go_wp2_with fail
 refine(unhide HH (-x) _ (by omega) (by omega)).mono ?_
 rintro e w2 ⟨rfl,hb2⟩
 have H2:=hide (H.out.below hb2)
 have G2:=hide (grown_below (some g) hb2)
 have y1:w2.cell? ⟨g,1,none⟩=some (.int .i64 kt):=(H2.out.row.cell 1).trans rfl
 have y2:w2.cell? ⟨g,2,none⟩=some (.int .i64 kf):=(H2.out.row.cell 2).trans rfl
 clear hb2 c1 c2
 have ev:((v:Int)+1)=((v+1:Nat):Int):=by omega
 cases hq1:hasB kt kf (-x) with
 | true =>
  have HC:=hide (HV.out g na nc a op s w2 HA.out HO.out H2.out)
  rw[← ev] at HC
  clear ev
  go_wp2_with fail
  refine(unhide HC).mono ?_
  rintro e w3 ⟨rfl,hE,hg⟩
  have HZ:Hid (Env w3 g na ns nc kt kf (visitN ns kt kf m a (v+1) op s)∧w.grownBy w3 (some g)):=⟨hE,grownT G2.out hg⟩
  clear hE hg
  go_wp2
  (try simp only[Exit.inBlock,Exit.then])
  refine bodyPost_ret (results_none rfl _ _ _) rfl ?_
  exact⟨rfl,by rw[← HRR.out,hq1];exact HZ.out.1,HZ.out.2⟩
 | false =>
  by_cases h0:op=0
  ·subst h0
   have hw2:=fun (hf:Bool)=>hf
   clear hw2
   go_wp2_with fail
   refine(unhide HH x _ (by omega) (by omega)).mono ?_
   rintro e w3 ⟨rfl,hb3⟩
   have H3:=hide (H2.out.below hb3)
   have G3:Hid (w.grownBy w3 (some g)):=grownT G2.out (grown_below _ hb3)
   clear hb3 y1 y2
   cases hq2:hasB kt kf x with
   | true =>
    clear ev
    go_wp2
    go_end0
    exact⟨rfl,by rw[← HRR.out,hq1,hq2];simpa using H3.out,G3.out⟩
   | false =>
    have HC:=hide (HV.out g na nc a x s w3 HA.out hlx.out H3.out)
    rw[← ev] at HC
    clear ev
    go_wp2_with fail
    refine(unhide HC).mono ?_
    rintro e w4 ⟨rfl,hE,hg⟩
    have HZ:Hid (Env w4 g na ns nc kt kf (visitN ns kt kf m a (v+1) x s)∧w.grownBy w4 (some g)):=⟨hE,grownT G3.out hg⟩
    clear hE hg
    go_wp2
    go_end0
    exact⟨rfl,by rw[← HRR.out,hq1,hq2];simpa using HZ.out.1,HZ.out.2⟩
  ·have h0':(op == 0)=false:=by simpa using h0
   clear ev
   go_wp2
   go_end0
   exact⟨rfl,by rw[← HRR.out,hq1];simpa [h0] using H2.out,G2.out⟩
theorem visitN_ok{ns:List Nd}{kt kf:Nat}:∀ (m a v:Nat) (op:Int) (s:PS),m+v=11→1≤v→(op=0∨litB op=true)→s.Ok→(visitN ns kt kf m a v op s).Ok:=by
 intro m
 induction m with
 | zero =>
  intro a v op s _ _ ho hs
  simp only[visitN]
  split
  ·exact hs
  ·exact meetN_ok hs ho
 | succ m ih =>
  intro a v op s hm hv ho hs
  have hl1:litB (v:Int)=true:=by simp only[litB,Bool.and_eq_true,bne_iff_ne,decide_eq_true_eq];omega
  have hl2:litB (-(v:Int))=true:=by simp only[litB,Bool.and_eq_true,bne_iff_ne,decide_eq_true_eq];omega
  have g:=fun (a:Nat) (op:Int) (ho:op=0∨litB op=true) (s:PS) (hs:s.Ok)=>ih a (v+1) op s (by omega) (by omega) ho hs
  simp only[visitN]
  split
  ·exact hs
  ·have k1:(if (ns.getD a nd0).n0=0 then s else visitN ns kt kf m (ns.getD a nd0).n0 (v+1) op s).Ok:=by
    split
    ·exact hs
    ·exact g _ _ ho _ hs
   generalize (if (ns.getD a nd0).n0=0 then s else visitN ns kt kf m (ns.getD a nd0).n0 (v+1) op s)=s1 at *
   have k2:(if (ns.getD a nd0).n1=0 then s1 else if hasB kt kf (-(v:Int)) then visitN ns kt kf m (ns.getD a nd0).n1 (v+1) op s1 else if op=0∧hasB kt kf (v:Int)=false then visitN ns kt kf m (ns.getD a nd0).n1 (v+1) (v:Int) s1 else s1).Ok:=by
    split
    ·exact k1
    ·split
     ·exact g _ _ ho _ k1
     ·split
      ·exact g _ _ (.inr hl1) _ k1
      ·exact k1
   generalize (if (ns.getD a nd0).n1=0 then s1 else if hasB kt kf (-(v:Int)) then visitN ns kt kf m (ns.getD a nd0).n1 (v+1) op s1 else if op=0∧hasB kt kf (v:Int)=false then visitN ns kt kf m (ns.getD a nd0).n1 (v+1) (v:Int) s1 else s1)=s2 at *
   split
   ·exact k2
   ·split
    ·exact g _ _ ho _ k2
    ·split
     ·exact g _ _ (.inr hl2) _ k2
     ·exact k2
set_option maxHeartbeats 4000000 in
theorem visit_zero(ns:List Nd)(kt kf:Nat):VisitAt ns kt kf 0 11:=by
 intro g na nc a op s w ha ho h
 cases hcl:s.cl with
 | true =>
  have H:Hid (Env w g na ns nc kt kf (visitN ns kt kf 0 a 11 op s)):=by show Env _ _ _ _ _ _ _ _;simp only[visitN,hcl,if_true];exact h
  have c5:w.cell? ⟨g,5,none⟩=some (.bool true):=(h.row.cell 5).trans (by simp[psCells,hcl])
  generalize visitN ns kt kf 0 a 11 op s=R at *
  clear h ho ha
  go_enter Tryd.func79,Tryd.ntmps79
  go_wp2
  (try simp only[Exit.inBlock,Exit.then])
  refine bodyPost_ret (results_none rfl _ _ _) rfl ?_
  exact⟨rfl,H.out,grown_self w _⟩
 | false =>
  obtain⟨b,rfl,hb,hn⟩:=h.nodes
  have c4:=hn a ha 4 _ rfl
  simp only[Nat.zero_add] at c4
  have HM:=hide (meet_any g (some ⟨b,0,none⟩) ns.length nc kt kf s (ns.getD a nd0).c op w h.row h.ok ho)
  have HE:Hid (visitN ns kt kf 0 a 11 op s=meetN (ns.getD a nd0).c op s):=by show _=_;simp[visitN,hcl]
  have HO:Hid (meetN (ns.getD a nd0).c op s).Ok:=meetN_ok h.ok ho
  have c5:w.cell? ⟨g,5,none⟩=some (.bool false):=(h.row.cell 5).trans (by simp[psCells,hcl])
  have c0:w.cell? ⟨g,0,none⟩=some (.slice (some ⟨b,0,none⟩) ns.length nc):=(h.row.cell 0).trans rfl
  have H:=hide h
  generalize visitN ns kt kf 0 a 11 op s=R at *
  generalize ns.getD a nd0=d at *
  have i1:(0:Int)≤(a:Int):=by omega
  have i2:(a:Int)<(ns.length:Int):=by omega
  clear h ho hn
  go_enter Tryd.func79,Tryd.ntmps79
  go_wp2_with fail
  refine(unhide HM).mono ?_
  rintro e w2 ⟨rfl,hr,hg⟩
  have HZ:Hid (Env w2 g (some ⟨b,0,none⟩) ns nc kt kf R∧w.grownBy w2 (some g)):=⟨by rw[HE.out];exact H.out.grown hg hr HO.out,hg⟩
  clear hr hg
  go_wp2
  (try simp only[Exit.inBlock,Exit.then])
  refine bodyPost_ret (results_none rfl _ _ _) rfl ?_
  exact⟨rfl,HZ.out.1,HZ.out.2⟩
structure Mid(w0 w:World)(g q:Nat)(na:Option Addr)(ns:List Nd)(nc kt kf:Nat)(d:Nd)(s:PS):Prop where
 e:Env w g na ns nc kt kf s
 gr:w0.grownBy w (some g)
 nx:Row w q 101 [.int .i64 d.n0,.int .i64 d.n1,.int .i64 d.n2,.int .i64 d.n3]
 ne:q≠g
theorem Mid.next{w0 w w':World}{g q:Nat}{na:Option Addr}{ns:List Nd}{nc kt kf:Nat}{d:Nd}{s s':PS}(h:Mid w0 w g q na ns nc kt kf d s)(hE:Env w' g na ns nc kt kf s')(hg:w.grownBy w' (some g)):Mid w0 w' g q na ns nc kt kf d s' :=
 ⟨hE,grownT h.gr hg,(hg.block q h.nx.lt (fun e=>h.ne (Option.some.inj e))).trans h.nx,h.ne⟩
set_option maxHeartbeats 8000000 in
theorem visit_succ(ns:List Nd)(kt kf m v:Nat)(hw:Wf ns)(hmv:m+1+v=11)(hv1:1≤v)(hkt:kt<2^11)(hkf:kf<2^11)(IH:VisitAt ns kt kf m (v+1)):VisitAt ns kt kf (m+1) v:=by
 intro g na nc a op s w ha ho h
 obtain⟨wf0,wf1,wf2,_⟩:=hw a ha
 cases hcl:s.cl with
 | true =>
  have H:Hid (Env w g na ns nc kt kf (visitN ns kt kf (m+1) a v op s)):=by show Env _ _ _ _ _ _ _ _;simp only[visitN,hcl,if_true];exact h
  have c5:w.cell? ⟨g,5,none⟩=some (.bool true):=(h.row.cell 5).trans (by simp[psCells,hcl])
  generalize visitN ns kt kf (m+1) a v op s=R at *
  clear h ho ha
  go_enter Tryd.func79,Tryd.ntmps79
  go_wp2
  (try simp only[Exit.inBlock,Exit.then])
  refine bodyPost_ret (results_none rfl _ _ _) rfl ?_
  exact⟨rfl,H.out,grown_self w _⟩
 | false =>
  obtain⟨b,rfl,hb,hn⟩:=h.nodes
  have c0':=hn a ha 0 _ rfl
  have c1':=hn a ha 1 _ rfl
  have c2':=hn a ha 2 _ rfl
  have c3':=hn a ha 3 _ rfl
  simp only[Nat.zero_add,Nat.add_zero] at c0' c1' c2' c3'
  have HE:Hid (visitN ns kt kf (m+1) a v op s=(let s1:=if (ns.getD a nd0).n0=0 then s else visitN ns kt kf m (ns.getD a nd0).n0 (v+1) op s
   let s2:=if (ns.getD a nd0).n1=0 then s1 else if hasB kt kf (-(v:Int)) then visitN ns kt kf m (ns.getD a nd0).n1 (v+1) op s1 else if op=0∧hasB kt kf (v:Int)=false then visitN ns kt kf m (ns.getD a nd0).n1 (v+1) (v:Int) s1 else s1
   if (ns.getD a nd0).n2=0 then s2 else if hasB kt kf (v:Int) then visitN ns kt kf m (ns.getD a nd0).n2 (v+1) op s2 else if op=0∧hasB kt kf (-(v:Int))=false then visitN ns kt kf m (ns.getD a nd0).n2 (v+1) (-(v:Int)) s2 else s2)):=by
   show _=_
   simp[visitN,hcl]
  have c5:w.cell? ⟨g,5,none⟩=some (.bool false):=(h.row.cell 5).trans (by simp[psCells,hcl])
  have c0:w.cell? ⟨g,0,none⟩=some (.slice (some ⟨b,0,none⟩) ns.length nc):=(h.row.cell 0).trans rfl
  generalize hd:ns.getD a nd0=d at *
  have HV:Hid (∀ a' s' w',a'<ns.length→Env w' g (some ⟨b,0,none⟩) ns nc kt kf s'→Calls Tryd.prog 79 #[.pointer (some ⟨g,0,none⟩),.int .i64 (a':Nat),.int .i64 ((v:Int)+1),.int .i64 op] w' (PSt w' g (some ⟨b,0,none⟩) ns nc kt kf (visitN ns kt kf m a' (v+1) op s'))):=fun a' s' w' q1 q2=>by
   have:=IH g (some ⟨b,0,none⟩) nc a' op s' w' q1 ho q2
   rwa [show((v+1:Nat):Int)=(v:Int)+1 by omega] at this
  have HW:Hid (∀ a' x s' w',a'<ns.length→(x=(v:Int)∨x=-(v:Int))→Env w' g (some ⟨b,0,none⟩) ns nc kt kf s'→Calls Tryd.prog 92 #[.pointer (some ⟨g,0,none⟩),.int .i64 (a':Nat),.int .i64 v,.int .i64 x,.int .i64 op] w' (PSt w' g (some ⟨b,0,none⟩) ns nc kt kf (if hasB kt kf (-x) then visitN ns kt kf m a' (v+1) op s' else if op=0∧hasB kt kf x=false then visitN ns kt kf m a' (v+1) x s' else s'))):=fun a' x s' w' q1 q2 q3=>visitWith_any ns kt kf m v hv1 (by omega) hkt hkf IH g (some ⟨b,0,none⟩) nc a' x op q2 s' w' q1 ho q3
  have hlt:g<w.heap.size:=h.row.lt
  have M0:Hid (Mid w (w.alloc (.cells #[.int .i64 d.n0,.int .i64 d.n1,.int .i64 d.n2,.int .i64 d.n3] 101)) g w.heap.size (some ⟨b,0,none⟩) ns nc kt kf d s):=⟨h.below ((Below.refl _ _).alloc (Nat.le_refl _) _),grown_below _ ((Below.refl _ _).alloc (Nat.le_refl _) _),heap_alloc_new w _,by omega⟩
  generalize visitN ns kt kf (m+1) a v op s=R at *
  have WF:Hid (d.n0<ns.length∧d.n1<ns.length∧d.n2<ns.length):=⟨wf0,wf1,wf2⟩
  have i1:(0:Int)≤(a:Int):=by omega
  have i2:(a:Int)<(ns.length:Int):=by omega
  have hwn:IntKind.i64.wrap (-(v:Int))=-(v:Int):=by rw[IntKind.wrap_i64];omega
  have hv10:v≤10:=by omega
  clear h ho hn wf0 wf1 wf2 IH hw hd hcl
  have q0:(((d.n0:Nat):Int) != 0)=!(decide (d.n0=0)):=by cases d.n0 <;> rfl
  have q1:(((d.n1:Nat):Int) != 0)=!(decide (d.n1=0)):=by cases d.n1 <;> rfl
  have q2:(((d.n2:Nat):Int) != 0)=!(decide (d.n2=0)):=by cases d.n2 <;> rfl
  have M:=M0
  clear M0
  cases z0:decide (d.n0=0) <;> cases z1:decide (d.n1=0) <;> cases z2:decide (d.n2=0)
  all_goals
   rw[z0] at q0
   rw[z1] at q1
   rw[z2] at q2
   simp only[Bool.not_true,Bool.not_false] at q0 q1 q2
   have Z:=hide (And.intro z0 (And.intro z1 z2))
   clear z0 z1 z2
   go_enter Tryd.func79,Tryd.ntmps79
   go_wp2_with (first
    | (go_at_call 79;refine(unhide HV _ _ _ WF.out.1 M.out.e).mono ?_;rintro e wn ⟨rfl,hE,hg⟩;have M:=hide (M.out.next hE hg);clear hE hg;have t1:wn.cell? ⟨w.heap.size,1,none⟩=some (.int .i64 d.n1):=(M.out.nx.cell 1).trans rfl;have t2:wn.cell? ⟨w.heap.size,2,none⟩=some (.int .i64 d.n2):=(M.out.nx.cell 2).trans rfl)
    | (go_at_call 92;refine(unhide HW _ _ _ _ (by first | exact WF.out.2.1 | exact WF.out.2.2) (by first | exact .inl rfl | exact .inr rfl) M.out.e).mono ?_;rintro e wn ⟨rfl,hE,hg⟩;have M:=hide (M.out.next hE hg);clear hE hg;have t1:wn.cell? ⟨w.heap.size,1,none⟩=some (.int .i64 d.n1):=(M.out.nx.cell 1).trans rfl;have t2:wn.cell? ⟨w.heap.size,2,none⟩=some (.int .i64 d.n2):=(M.out.nx.cell 2).trans rfl))
   go_end0
   refine⟨rfl,?_,M.out.gr⟩
   obtain⟨z0,z1,z2⟩:=Z.out
   simp only[decide_eq_true_eq,decide_eq_false_iff_not] at z0 z1 z2
   have HE2:=HE.out
   simp only[z0,z1,z2,↓reduceIte] at HE2
   rw[HE2]
   first
    | exact M.out.e
    | (have:=M.out.e;simp only[Int.neg_neg] at this;exact this)
theorem visit_any(ns:List Nd)(kt kf:Nat)(hw:Wf ns)(hkt:kt<2^11)(hkf:kf<2^11):∀ (m v:Nat),m+v=11→1≤v→VisitAt ns kt kf m v:=by
 intro m
 induction m with
 | zero =>
  intro v hv _
  obtain rfl:v=11:=by omega
  exact visit_zero ns kt kf
 | succ m ih =>
  intro v hv h1
  exact visit_succ ns kt kf m v hw hv h1 hkt hkf (ih (v+1) (by omega) (by omega))
theorem visitN_rel{ns:List Nd}{kt kf:Nat}(R:PS→PS→Prop)(hr:∀ s,R s s)(ht:∀ a b c,R a b→R b c→R a c)(hm:∀ c op s,(op=0∨litB op=true)→R s (meetN c op s)) :
  ∀ (m a v:Nat) (op:Int) (s:PS),m+v=11→1≤v→(op=0∨litB op=true)→R s (visitN ns kt kf m a v op s):=by
 intro m
 induction m with
 | zero =>
  intro a v op s _ _ ho
  simp only[visitN]
  split
  ·exact hr s
  ·exact hm _ _ _ ho
 | succ m ih =>
  intro a v op s hmv hv ho
  have hl1:litB (v:Int)=true:=by simp only[litB,Bool.and_eq_true,bne_iff_ne,decide_eq_true_eq];omega
  have hl2:litB (-(v:Int))=true:=by simp only[litB,Bool.and_eq_true,bne_iff_ne,decide_eq_true_eq];omega
  have g:=fun (a:Nat) (op:Int) (ho:op=0∨litB op=true) (s:PS)=>ih a (v+1) op s (by omega) (by omega) ho
  simp only[visitN]
  split
  ·exact hr s
  ·have k1:R s (if (ns.getD a nd0).n0=0 then s else visitN ns kt kf m (ns.getD a nd0).n0 (v+1) op s):=by
    split
    ·exact hr s
    ·exact g _ _ ho _
   generalize (if (ns.getD a nd0).n0=0 then s else visitN ns kt kf m (ns.getD a nd0).n0 (v+1) op s)=s1 at *
   have k2:R s (if (ns.getD a nd0).n1=0 then s1 else if hasB kt kf (-(v:Int)) then visitN ns kt kf m (ns.getD a nd0).n1 (v+1) op s1 else if op=0∧hasB kt kf (v:Int)=false then visitN ns kt kf m (ns.getD a nd0).n1 (v+1) (v:Int) s1 else s1):=by
    split
    ·exact k1
    ·split
     ·exact ht _ _ _ k1 (g _ _ ho _)
     ·split
      ·exact ht _ _ _ k1 (g _ _ (.inr hl1) _)
      ·exact k1
   generalize (if (ns.getD a nd0).n1=0 then s1 else if hasB kt kf (-(v:Int)) then visitN ns kt kf m (ns.getD a nd0).n1 (v+1) op s1 else if op=0∧hasB kt kf (v:Int)=false then visitN ns kt kf m (ns.getD a nd0).n1 (v+1) (v:Int) s1 else s1)=s2 at *
   split
   ·exact k2
   ·split
    ·exact ht _ _ _ k2 (g _ _ ho _)
    ·split
     ·exact ht _ _ _ k2 (g _ _ (.inr hl2) _)
     ·exact k2
theorem visitN_sup{ns:List Nd}{kt kf:Nat}(m a v:Nat)(op:Int)(s:PS)(h:m+v=11)(hv:1≤v)(ho:op=0∨litB op=true):∃ x y,(visitN ns kt kf m a v op s).gt=s.gt|||x∧(visitN ns kt kf m a v op s).gf=s.gf|||y:=by
 refine visitN_rel (fun s r=>∃ x y,r.gt=s.gt|||x∧r.gf=s.gf|||y) (fun s=>⟨0,0,by simp,by simp⟩) ?_ ?_ m a v op s h hv ho
 ·rintro a b c ⟨x,y,h1,h2⟩ ⟨x',y',h3,h4⟩
  exact⟨x|||x',y|||y',by rw[h3,h1,Nat.or_assoc],by rw[h4,h2,Nat.or_assoc]⟩
 ·intro c op s _
  unfold meetN
  split
  ·exact⟨0,0,by simp,by simp⟩
  ·split
   ·exact⟨0,0,by simp,by simp⟩
   ·exact⟨posB op,negB op,rfl,rfl⟩
def fol(ns:List Nd):Nat→Nat→Nat→Bool
 | 0,_,_=>false
 | m+1,kt,kf =>
  if (kt&&&kf != 0)=true then true else
   if (visitN ns kt kf 10 0 1 0 ⟨kt,kf,false⟩).cl then true else
    if (visitN ns kt kf 10 0 1 0 ⟨kt,kf,false⟩).gt=kt∧(visitN ns kt kf 10 0 1 0 ⟨kt,kf,false⟩).gf=kf then false else fol ns m (visitN ns kt kf 10 0 1 0 ⟨kt,kf,false⟩).gt (visitN ns kt kf 10 0 1 0 ⟨kt,kf,false⟩).gf
def followsN(ns:List Nd)(t f:Nat):Bool:=fol ns 4096 f t
def cellN(w:World)(a:Addr):Nat:=match w.cell? a with
 | some (.int _ n)=>n.toNat
 | _=>0
def psh(ns:List Nd):Nat→Nat→Nat→Option (Nat × Nat)
 | 0,kt,kf=>some (kt,kf)
 | m+1,kt,kf =>
  if (kt&&&kf != 0)=true then none else
   if (visitN ns kt kf 10 0 1 0 ⟨kt,kf,false⟩).cl then none else
    if (visitN ns kt kf 10 0 1 0 ⟨kt,kf,false⟩).gt=kt∧(visitN ns kt kf 10 0 1 0 ⟨kt,kf,false⟩).gf=kf then some (kt,kf) else psh ns m (visitN ns kt kf 10 0 1 0 ⟨kt,kf,false⟩).gt (visitN ns kt kf 10 0 1 0 ⟨kt,kf,false⟩).gf
theorem fol_psh(ns:List Nd):∀ (m kt kf:Nat),fol ns m kt kf=(psh ns m kt kf).isNone:=by
 intro m
 induction m with
 | zero=>intro kt kf;rfl
 | succ m ih =>
  intro kt kf
  simp only[fol,psh]
  split
  ·rfl
  ·split
   ·rfl
   ·split
    ·rfl
    ·exact ih _ _
def pshRet:Option (Nat × Nat)→Value
 | none=>.tuple #[.agg #[.int .i64 0,.int .i64 0],.bool true]
 | some p=>.tuple #[.agg #[.int .i64 (p.1:Nat),.int .i64 (p.2:Nat)],.bool false]
theorem psh_ret{w':World}{tmps:Array Value}{g:Nat}{p q:Value}{b:Bool}(hr:Row w' g 84 [p,q])(h2:tmps.getD 4 undef=.pointer (some ⟨g,0,none⟩))(h3:tmps.getD 5 undef=.bool b) :
  (results Tryd.f65 tmps).run Tryd.prog w'=.ok (.tuple #[.agg #[p,q],.bool b]) w':=by
 obtain⟨fs,hu⟩:=setType
 rw[results_cell_tmp rfl,h2,h3]
 simp[asAddr,Result.andThen,run_loadVar_row (P:=Tryd.prog) w' g 84 84 #[p,q] (0,0) (.struct fs) hr hu rfl setSize]
set_option maxHeartbeats 8000000 in
theorem push_any(ns:List Nd)(hw:Wf ns)(hp:0<ns.length)(cb:Nat)(na:Option Addr)(nc:Nat)(t f:Nat)(ht:t<2^11)(hf:f<2^11)(w:World)(hr:Row w cb 106 [.slice na ns.length nc])(hn:NodesAt w na ns) :
  Calls Tryd.prog 65 #[.pointer (some ⟨cb,0,none⟩),.agg #[.int .i64 t,.int .i64 f]] w fun e w'=>e=.returned (pshRet (psh ns 4096 t f))∧Below w.heap.size w w':=by
 have hb1:Below w.heap.size w (w.alloc (.cells #[.int .i64 t,.int .i64 f] 84)):=(Below.refl _ _).alloc (Nat.le_refl _) _
 have hb2:Below w.heap.size w ((w.alloc (.cells #[.int .i64 t,.int .i64 f] 84)).alloc (.cells #[.int .i64 0,.int .i64 0] 84)):=hb1.alloc hb1.size _
 have hb3:Below w.heap.size w (((w.alloc (.cells #[.int .i64 t,.int .i64 f] 84)).alloc (.cells #[.int .i64 0,.int .i64 0] 84)).alloc (.cells #[.int .i64 t,.int .i64 f] 84)):=hb2.alloc hb2.size _
 have q2:Row ((w.alloc (.cells #[.int .i64 t,.int .i64 f] 84)).alloc (.cells #[.int .i64 0,.int .i64 0] 84)) (w.heap.size+1) 84 [.int .i64 0,.int .i64 0]:=by
  have:=heap_alloc_new (w.alloc (.cells #[.int .i64 t,.int .i64 f] 84)) (.cells #[.int .i64 0,.int .i64 0] 84)
  simpa [Row] using this
 have r2:Row (((w.alloc (.cells #[.int .i64 t,.int .i64 f] 84)).alloc (.cells #[.int .i64 0,.int .i64 0] 84)).alloc (.cells #[.int .i64 t,.int .i64 f] 84)) (w.heap.size+1) 84 [.int .i64 0,.int .i64 0]:=row_below q2 ((Below.refl _ _).alloc (Nat.le_refl _) _)
 have r3:Row (((w.alloc (.cells #[.int .i64 t,.int .i64 f] 84)).alloc (.cells #[.int .i64 0,.int .i64 0] 84)).alloc (.cells #[.int .i64 t,.int .i64 f] 84)) (w.heap.size+1+1) 84 [.int .i64 t,.int .i64 f]:=by
  have:=heap_alloc_new ((w.alloc (.cells #[.int .i64 t,.int .i64 f] 84)).alloc (.cells #[.int .i64 0,.int .i64 0] 84)) (.cells #[.int .i64 t,.int .i64 f] 84)
  simpa [Row] using this
 have HR:=hide hr
 have HN:=hide hn
 have HW:=hide hw
 have R2:=hide r2
 have R3:=hide r3
 have HB3:=hide hb3
 generalize hrs:psh ns 4096 t f=RES
 have HF:=hide hrs
 clear hr hn hw hrs hb1 hb2 hb3 q2 r2 r3
 go_enter Tryd.func65,Tryd.ntmps65
 go_wp2_with fail
 generalize ((w.alloc (.cells #[.int .i64 t,.int .i64 f] 84)).alloc (.cells #[.int .i64 0,.int .i64 0] 84)).alloc (.cells #[.int .i64 t,.int .i64 f] 84)=w3 at *
 go_loopw [] (fun wr=>∃ (kt kf m:Nat),kt<2^11∧kf<2^11∧4096≤kt+kf+m∧Hid (Row wr (w.heap.size+1+1) 84 [.int .i64 kt,.int .i64 kf])∧Hid (Row wr (w.heap.size+1) 84 [.int .i64 0,.int .i64 0])∧Hid (Below w.heap.size w wr)∧Hid (psh ns m kt kf=RES)) (fun wr=>8192 - (cellN wr ⟨w.heap.size+1+1,0,none⟩+cellN wr ⟨w.heap.size+1+1,1,none⟩))
 case atStart=>exact⟨t,f,4096,ht,hf,by omega,R3,R2,HB3,HF⟩
 case round =>
  clear R3 R2 HB3 HF
  obtain⟨kt,kf,m,hkt,hkf,hm,RK,RR,HBK,HFK⟩:=hrel
  obtain⟨m,rfl⟩:∃ k,m=k+1:=⟨m - 1,by omega⟩
  have y0:wr.cell? ⟨w.heap.size+1+1,0,none⟩=some (.int .i64 kt):=(RK.out.cell 0).trans rfl
  have y1:wr.cell? ⟨w.heap.size+1+1,1,none⟩=some (.int .i64 kf):=(RK.out.cell 1).trans rfl
  have HT:=hide (isTaut_any kt kf hkt hkf wr)
  go_wp2_with fail
  refine(unhide HT).mono ?_
  rintro e w4 ⟨rfl,hb4⟩
  have RK4:=hide (row_below RK.out hb4)
  have RR4:=hide (row_below RR.out hb4)
  have HB4:Hid (Below w.heap.size w w4):=HBK.out.trans (hb4.mono HBK.out.size)
  clear hb4 HT
  cases htw:(kt&&&kf != 0) with
  | true =>
   have hres:RES=none:=by rw[← HFK.out];simp only[psh];rw[if_pos htw]
   have y0:w4.cell? ⟨w.heap.size+1,0,none⟩=some (.int .i64 0):=(RR4.out.cell 0).trans rfl
   have y1:w4.cell? ⟨w.heap.size+1,1,none⟩=some (.int .i64 0):=(RR4.out.cell 1).trans rfl
   have z0:=RR4.out.frozen 0
   have z1:=RR4.out.frozen 1
   have R9:Hid (Row ((w4.setCell ⟨w.heap.size+1,0,none⟩ (.int .i64 0)).setCell ⟨w.heap.size+1,1,none⟩ (.int .i64 0)) (w.heap.size+1) 84 [.int .i64 0,.int .i64 0]):=(RR4.out.set 0 _).set 1 _
   have B9:Hid (Below w.heap.size w ((w4.setCell ⟨w.heap.size+1,0,none⟩ (.int .i64 0)).setCell ⟨w.heap.size+1,1,none⟩ (.int .i64 0))):=(HB4.out.setCell (p:=⟨w.heap.size+1,0,none⟩) (Nat.le_succ _) _).setCell (p:=⟨w.heap.size+1,1,none⟩) (Nat.le_succ _) _
   go_wp2
   refine bodyPost_ret (v:=.tuple #[.agg #[.int .i64 0,.int .i64 0],.bool true]) (psh_ret R9.out rfl rfl) rfl ⟨?_,B9.out⟩
   rw[hres];rfl
  | false =>
   have c0:w4.cell? ⟨cb,0,none⟩=some (.slice na ns.length nc):=((row_below HR.out HB4.out).cell 0).trans rfl
   have x0:w4.cell? ⟨w.heap.size+1+1,0,none⟩=some (.int .i64 kt):=(RK4.out.cell 0).trans rfl
   have x1:w4.cell? ⟨w.heap.size+1+1,1,none⟩=some (.int .i64 kf):=(RK4.out.cell 1).trans rfl
   have hcb:cb<w4.heap.size:=Nat.lt_of_lt_of_le HR.out.lt HB4.out.size
   have hk4:w.heap.size+1+1<w4.heap.size:=RK4.out.lt
   have ca:∀ o,(w4.alloc o).cell? ⟨cb,0,none⟩=some (.slice na ns.length nc):=fun o=>(((Below.refl w4.heap.size w4).alloc (Nat.le_refl _) o).cell (p:=⟨cb,0,none⟩) hcb).trans c0
   have xa0:∀ o,(w4.alloc o).cell? ⟨w.heap.size+1+1,0,none⟩=some (.int .i64 kt):=fun o=>(((Below.refl w4.heap.size w4).alloc (Nat.le_refl _) o).cell (p:=⟨w.heap.size+1+1,0,none⟩) hk4).trans x0
   have xa1:∀ o,(w4.alloc o).cell? ⟨w.heap.size+1+1,1,none⟩=some (.int .i64 kf):=fun o=>(((Below.refl w4.heap.size w4).alloc (Nat.le_refl _) o).cell (p:=⟨w.heap.size+1+1,1,none⟩) hk4).trans x1
   clear y0 y1
   go_wp2_with fail
   go_region
   have hb5:Below w4.heap.size w4 (w4.alloc (.cells #[.slice na ns.length nc,.int .i64 kt,.int .i64 kf,.int .i64 kt,.int .i64 kf,.bool false] 121)).drew:=below_drewN ((Below.refl _ _).alloc (Nat.le_refl _) _) 1
   have r5:Row (w4.alloc (.cells #[.slice na ns.length nc,.int .i64 kt,.int .i64 kf,.int .i64 kt,.int .i64 kf,.bool false] 121)).drew w4.heap.size 121 (psCells na ns.length nc kt kf ⟨kt,kf,false⟩):=heap_alloc_new w4 _
   generalize (w4.alloc (.cells #[.slice na ns.length nc,.int .i64 kt,.int .i64 kf,.int .i64 kt,.int .i64 kf,.bool false] 121)).drew=w5 at *
   have HB5:Hid (Below w.heap.size w w5):=HB4.out.trans (hb5.mono HB4.out.size)
   have hz4:w.heap.size≤w4.heap.size:=HB4.out.size
   have E5:Env w5 w4.heap.size na ns nc kt kf ⟨kt,kf,false⟩:=⟨r5,HN.out.frame HB5.out.size (fun q e=>HB5.out.block _ (by obtain⟨b',e',hb,_⟩:=HN.out;rw[e'] at e;cases e;exact hb)),fun q e=>by obtain⟨b',e',hb,_⟩:=HN.out;rw[e'] at e;cases e;show b'≠_;omega,⟨hkt,hkf⟩⟩
   have HV:Hid (Calls Tryd.prog 79 #[.pointer (some ⟨w4.heap.size,0,none⟩),.int .i64 0,.int .i64 1,.int .i64 0] w5 (PSt w5 w4.heap.size na ns nc kt kf (visitN ns kt kf 10 0 1 0 ⟨kt,kf,false⟩))):=visit_any ns kt kf HW.out hkt hkf 10 1 rfl (by decide) w4.heap.size na nc 0 0 ⟨kt,kf,false⟩ w5 hp (.inl rfl) E5
   have RK5:=hide (row_below RK4.out hb5)
   have RR5:=hide (row_below RR4.out hb5)
   have hsup:=visitN_sup (ns:=ns) (kt:=kt) (kf:=kf) 10 0 1 0 ⟨kt,kf,false⟩ rfl (by decide) (.inl rfl)
   have hfk:=HFK.out
   simp only[psh] at hfk
   rw[htw] at hfk
   generalize visitN ns kt kf 10 0 1 0 ⟨kt,kf,false⟩=S at *
   have HFK2:=hide hfk
   have HSUP:=hide hsup
   clear hb5 r5 E5 c0 x0 x1 ca xa0 xa1 hfk hsup HFK
   go_wp2_with fail
   refine(unhide HV).mono ?_
   rintro e w6 ⟨rfl,hE,hg⟩
   have HB6:Hid (Below w.heap.size w w6):=HB5.out.grown hg HB5.out.size (fun j hj=>by cases hj;exact hz4)
   have RK6:Hid (Row w6 (w.heap.size+1+1) 84 [.int .i64 kt,.int .i64 kf]):=(hg.block _ RK5.out.lt (fun e=>by have:=Option.some.inj e;omega)).trans RK5.out
   have RR6:Hid (Row w6 (w.heap.size+1) 84 [.int .i64 0,.int .i64 0]):=(hg.block _ RR5.out.lt (fun e=>by have:=Option.some.inj e;omega)).trans RR5.out
   have v3:w6.cell? ⟨w4.heap.size,3,none⟩=some (.int .i64 S.gt):=(hE.row.cell 3).trans rfl
   have v4:w6.cell? ⟨w4.heap.size,4,none⟩=some (.int .i64 S.gf):=(hE.row.cell 4).trans rfl
   have v5:w6.cell? ⟨w4.heap.size,5,none⟩=some (.bool S.cl):=(hE.row.cell 5).trans rfl
   have k0:w6.cell? ⟨w.heap.size+1+1,0,none⟩=some (.int .i64 kt):=(RK6.out.cell 0).trans rfl
   have k1:w6.cell? ⟨w.heap.size+1+1,1,none⟩=some (.int .i64 kf):=(RK6.out.cell 1).trans rfl
   have z0:=RK6.out.frozen 0
   have z1:=RK6.out.frozen 1
   have y0:w6.cell? ⟨w.heap.size+1,0,none⟩=some (.int .i64 0):=(RR6.out.cell 0).trans rfl
   have y1:w6.cell? ⟨w.heap.size+1,1,none⟩=some (.int .i64 0):=(RR6.out.cell 1).trans rfl
   have u0:=RR6.out.frozen 0
   have u1:=RR6.out.frozen 1
   have HOK:=hide hE.ok
   clear hE hg HV
   cases hcl:S.cl with
   | true =>
    rw[hcl] at v5
    have hres:RES=none:=by have:=HFK2.out;rw[hcl] at this;simpa using this.symm
    have R9:Hid (Row ((w6.setCell ⟨w.heap.size+1,0,none⟩ (.int .i64 0)).setCell ⟨w.heap.size+1,1,none⟩ (.int .i64 0)) (w.heap.size+1) 84 [.int .i64 0,.int .i64 0]):=(RR6.out.set 0 _).set 1 _
    have B9:Hid (Below w.heap.size w ((w6.setCell ⟨w.heap.size+1,0,none⟩ (.int .i64 0)).setCell ⟨w.heap.size+1,1,none⟩ (.int .i64 0))):=(HB6.out.setCell (p:=⟨w.heap.size+1,0,none⟩) (Nat.le_succ _) _).setCell (p:=⟨w.heap.size+1,1,none⟩) (Nat.le_succ _) _
    go_wp2
    refine bodyPost_ret (v:=.tuple #[.agg #[.int .i64 0,.int .i64 0],.bool true]) (psh_ret R9.out rfl rfl) rfl ⟨?_,B9.out⟩
    rw[hres];rfl
   | false =>
    rw[hcl] at v5
    by_cases heq:S.gt=kt∧S.gf=kf
    ·have hres:RES=some (kt,kf):=by have:=HFK2.out;rw[hcl] at this;simpa [heq] using this.symm
     have e1:=heq.1
     have e2:=heq.2
     rw[e1] at v3
     rw[e2] at v4
     have R9:Hid (Row ((w6.setCell ⟨w.heap.size+1,0,none⟩ (.int .i64 kt)).setCell ⟨w.heap.size+1,1,none⟩ (.int .i64 kf)) (w.heap.size+1) 84 [.int .i64 kt,.int .i64 kf]):=(RR6.out.set 0 _).set 1 _
     have B9:Hid (Below w.heap.size w ((w6.setCell ⟨w.heap.size+1,0,none⟩ (.int .i64 kt)).setCell ⟨w.heap.size+1,1,none⟩ (.int .i64 kf))):=(HB6.out.setCell (p:=⟨w.heap.size+1,0,none⟩) (Nat.le_succ _) _).setCell (p:=⟨w.heap.size+1,1,none⟩) (Nat.le_succ _) _
     clear heq e1 e2 HFK2 HSUP HOK
     go_wp2
     refine bodyPost_ret (v:=.tuple #[.agg #[.int .i64 kt,.int .i64 kf],.bool false]) (psh_ret R9.out rfl rfl) rfl ⟨?_,B9.out⟩
     rw[hres];rfl
    ·have hfm:psh ns m S.gt S.gf=RES:=by have:=HFK2.out;rw[hcl] at this;simpa [heq] using this
     have hsum:kt+kf<S.gt+S.gf:=by
      obtain⟨x,y,h1,h2⟩:=HSUP.out
      have q1:kt≤S.gt:=by rw[h1];exact Nat.left_le_or
      have q2:kf≤S.gf:=by rw[h2];exact Nat.left_le_or
      by_cases q:S.gt=kt
      ·by_cases q':S.gf=kf
       ·exact absurd ⟨q,q'⟩ heq
       ·omega
      ·omega
     have R7:=hide ((RK6.out.set 0 (.int .i64 S.gt)).set 1 (.int .i64 S.gf))
     have RR7:Hid (Row ((w6.setCell ⟨w.heap.size+1+1,0,none⟩ (.int .i64 S.gt)).setCell ⟨w.heap.size+1+1,1,none⟩ (.int .i64 S.gf)) (w.heap.size+1) 84 [.int .i64 0,.int .i64 0]):=((Below.heap_setCell _ ⟨w.heap.size+1+1,1,none⟩ _ _ (Nat.ne_of_lt (Nat.lt_succ_self _))).trans (Below.heap_setCell _ ⟨w.heap.size+1+1,0,none⟩ _ _ (Nat.ne_of_lt (Nat.lt_succ_self _)))).trans RR6.out
     have HB7:=hide ((HB6.out.setCell (p:=⟨w.heap.size+1+1,0,none⟩) (Nat.le_add_right _ 2) (.int .i64 S.gt)).setCell (p:=⟨w.heap.size+1+1,1,none⟩) (Nat.le_add_right _ 2) (.int .i64 S.gf))
     have HFM:=hide hfm
     have ho1:S.gt<2^11:=HOK.out.1
     have ho2:S.gf<2^11:=HOK.out.2
     have HME:Hid (8192 - (cellN ((w6.setCell ⟨w.heap.size+1+1,0,none⟩ (.int .i64 S.gt)).setCell ⟨w.heap.size+1+1,1,none⟩ (.int .i64 S.gf)) ⟨w.heap.size+1+1,0,none⟩+cellN ((w6.setCell ⟨w.heap.size+1+1,0,none⟩ (.int .i64 S.gt)).setCell ⟨w.heap.size+1+1,1,none⟩ (.int .i64 S.gf)) ⟨w.heap.size+1+1,1,none⟩)<8192 - (cellN wr ⟨w.heap.size+1+1,0,none⟩+cellN wr ⟨w.heap.size+1+1,1,none⟩)):=by
      show _<_
      have a0:cellN ((w6.setCell ⟨w.heap.size+1+1,0,none⟩ (.int .i64 S.gt)).setCell ⟨w.heap.size+1+1,1,none⟩ (.int .i64 S.gf)) ⟨w.heap.size+1+1,0,none⟩=S.gt:=by unfold cellN;rw[R7.out.cell 0];simp
      have a1:cellN ((w6.setCell ⟨w.heap.size+1+1,0,none⟩ (.int .i64 S.gt)).setCell ⟨w.heap.size+1+1,1,none⟩ (.int .i64 S.gf)) ⟨w.heap.size+1+1,1,none⟩=S.gf:=by unfold cellN;rw[R7.out.cell 1];simp
      have b0:cellN wr ⟨w.heap.size+1+1,0,none⟩=kt:=by unfold cellN;rw[RK.out.cell 0];simp
      have b1:cellN wr ⟨w.heap.size+1+1,1,none⟩=kf:=by unfold cellN;rw[RK.out.cell 1];simp
      rw[a0,a1,b0,b1]
      omega
     clear HFK2 HSUP HOK hfm
     by_cases q:S.gt=kt
     ·have q':((S.gf:Int) == (kf:Int))=false:=by
       have:¬ S.gf=kf:=fun e=>heq ⟨q,e⟩
       simp;omega
      have q0:((S.gt:Int) == (kt:Int))=true:=by simp;omega
      clear heq q
      go_wp2
      go_roundw
      case rel=>exact⟨S.gt,S.gf,m,ho1,ho2,by omega,R7,RR7,HB7,HFM⟩
      case measure=>exact HME.out
     ·have q':((S.gt:Int) == (kt:Int))=false:=by simp;omega
      clear heq q
      go_wp2
      go_roundw
      case rel=>exact⟨S.gt,S.gf,m,ho1,ho2,by omega,R7,RR7,HB7,HFM⟩
      case measure=>exact HME.out
set_option maxHeartbeats 2000000 in
theorem follows_any(ns:List Nd)(hw:Wf ns)(hp:0<ns.length)(cb:Nat)(na:Option Addr)(nc:Nat)(t f:Nat)(ht:t<2^11)(hf:f<2^11)(w:World)(hr:Row w cb 106 [.slice na ns.length nc])(hn:NodesAt w na ns) :
  Calls Tryd.prog 78 #[.pointer (some ⟨cb,0,none⟩),.agg #[.int .i64 t,.int .i64 f]] w fun e w'=>e=.returned (.bool (followsN ns t f))∧Below w.heap.size w w':=by
 have HOP:Hid (∀ w,Calls Tryd.prog 82 #[.agg #[.int .i64 t,.int .i64 f]] w fun e w'=>e=.returned (.agg #[.int .i64 f,.int .i64 t])∧Below w.heap.size w w'):=fun w=>lopp_any t f w
 have HPU:Hid (∀ w',Below w.heap.size w w'→Calls Tryd.prog 65 #[.pointer (some ⟨cb,0,none⟩),.agg #[.int .i64 f,.int .i64 t]] w' fun e w2=>e=.returned (pshRet (psh ns 4096 f t))∧Below w'.heap.size w' w2):=fun w' hb=>push_any ns hw hp cb na nc f t hf ht w' (row_below hr hb) (hn.frame hb.size (fun q e=>hb.block _ (by obtain⟨b',e',hb',_⟩:=hn;rw[e'] at e;cases e;exact hb')))
 have HB:Hid (∀ x,Below w.heap.size w (w.alloc x)):=fun x=>(Below.refl _ _).alloc (Nat.le_refl _) x
 have HF:Hid (followsN ns t f=(psh ns 4096 f t).isNone):=fol_psh ns 4096 f t
 generalize followsN ns t f=RES at *
 generalize psh ns 4096 f t=PR at *
 clear hr hn hw
 go_enter Tryd.func78,Tryd.ntmps78
 go_wp2_with fail
 refine(unhide HOP _).mono ?_
 rintro e w2 ⟨rfl,hb2⟩
 have hbw:Below w.heap.size w w2:=(HB.out _).trans (hb2.mono (by simp))
 have HP:=hide (HPU.out w2 hbw)
 have HBW:=hide hbw
 clear hb2 hbw HOP HB HPU
 go_wp2_with fail
 refine(unhide HP).mono ?_
 rintro e w3 ⟨rfl,hb3⟩
 have B3:Hid (Below w.heap.size w w3):=HBW.out.trans (hb3.mono HBW.out.size)
 clear hb3 HP
 cases PR with
 | none =>
  simp only[pshRet]
  go_wp2
  go_ret
  exact⟨by rw[HF.out];rfl,B3.out.alloc B3.out.size _⟩
 | some p =>
  simp only[pshRet]
  go_wp2
  go_ret
  exact⟨by rw[HF.out];rfl,B3.out.alloc B3.out.size _⟩
end Go.Proofs.YthboeppmlhbofabDoor
