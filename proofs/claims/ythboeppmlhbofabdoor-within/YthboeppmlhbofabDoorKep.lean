import Derived.Test.YthboeppmlhbofabDoorApp
import Derived.Test.YthboeppmlhbofabDoorLtx
import Derived.Deep.RegionLaw
namespace Go.Proofs.YthboeppmlhbofabDoor
open Go.RowKit Txt
set_option maxRecDepth 100000
structure Rest(w:World)(B:Nat)(V:WV)(s:St)(tp:Value)(n:Nat)(vs:List Value)(us:List Value)(cs:List (List Int)):Prop where
 top:w.ownsRow B 23 1 tp n vs
 each:AllOwn w B 3 us cs
 pw:us.Pairwise Apart
 t1:Apart tp (V.vo s)
 t2:Apart tp (V.vw s)
 f0:∀ u∈us,Apart u (V.vl s)
 fc:∀ u∈us,∀ v∈V.vcs,Apart v u
 fo:∀ u∈us,∀ v∈V.vos,Apart v u
 fw:∀ u∈us,∀ v∈V.vws,Apart v u
theorem Rest.touch{w w':World}{B:Nat}{V:WV}{s:St}{top:Value}{n:Nat}{vs us:List Value}{cs:List (List Int)}(h:Rest w B V s top n vs us cs){u:Value}{k:Nat}{zs:List Value}(hu:w.ownsRow B 3 1 u k zs)(hg:w.grownBy w' u.ownBlock)(hap:∀ v∈us,Apart v u):Rest w' B V s top n vs us cs :=
 ⟨own_apart_kept h.top hg (apart_types n_il.symm h.top hu),h.each.map (fun v hv _ _ hh=>own_apart_kept hh hg (hap v hv)),h.pw,h.t1,h.t2,h.f0,h.fc,h.fo,h.fw⟩
theorem Rest.below{w w':World}{B:Nat}{V:WV}{s:St}{top:Value}{n:Nat}{vs us:List Value}{cs:List (List Int)}(h:Rest w B V s top n vs us cs)(hb:Below w.heap.size w w'):Rest w' B V s top n vs us cs :=
 ⟨own_below h.top hb,h.each.map (fun _ _ _ _ hh=>own_below hh hb),h.pw,h.t1,h.t2,h.f0,h.fc,h.fo,h.fw⟩
theorem Rest.tail{w:World}{B:Nat}{V:WV}{s:St}{top:Value}{n:Nat}{vs us:List Value}{cs:List (List Int)}{u:Value}{c:List Int}(h:Rest w B V s top n vs (u :: us) (c :: cs)):Rest w B V s top n vs us cs :=
 ⟨h.top,h.each.2,(List.pairwise_cons.1 h.pw).2,h.t1,h.t2,fun x hx=>h.f0 x (by simp[hx]),fun x hx=>h.fc x (by simp[hx]),fun x hx=>h.fo x (by simp[hx]),fun x hx=>h.fw x (by simp[hx])⟩
theorem addr0(g k:Nat):(⟨g,0,none⟩:Addr).add k=⟨g,0+k,none⟩:=by unfold Addr.add;split <;> simp_all
theorem grown_undrew{w w':World}{r:Option Nat}(h:w.drew.grownBy w' r):w.grownBy w' r:=⟨h.os,h.tape,h.output,h.size,h.block⟩
theorem Tryd.infoSet:(Tryd.prog.info? 84).map (fun i=>(i.zero,i.size,i.bytes))=some (some (.agg #[.int .i64 0,.int .i64 0]),2,16):=by kernel_rfl
theorem Tryd.undSets:Tryd.prog.underlying 65=some (.slice 84):=by kernel_rfl
def prCells(ss:List Pr):List Value:=ss.flatMap fun p=>[.int .i64 (p.1:Nat),.int .i64 (p.2:Nat)]
theorem prCells_snoc(ss:List Pr)(p:Pr):prCells ss++[.int .i64 (p.1:Nat),.int .i64 (p.2:Nat)]=prCells (ss++[p]):=by simp[prCells]
theorem n_set:(84:Nat)≠68:=by decide
theorem row_grownN{w w':World}{g t e size n B:Nat}{zs xs:List Value}{v:Value}(hr:Row w g t zs)(hv:w.ownsRow B e size v n xs)(he:e≠t)(h:w.grownBy w' v.ownBlock):Row w' g t zs:=by
 refine(h.block g hr.lt ?_).trans hr
 intro eq
 rcases hv.2 with⟨rfl,_⟩ | ⟨g',cap,cur,rfl,_,hg,_⟩
 ·simp[Value.ownBlock] at eq
 ·simp only[Value.ownBlock,Option.some.injEq] at eq
  subst eq
  have hr':w.heap[g]?=some (.cells zs.toArray t (0,0)):=hr
  rw[hr'] at hg
  simp only[Option.some.injEq,Obj.cells.injEq] at hg
  exact he hg.2.1.symm
theorem own_setN{w:World}{B g t e size n:Nat}{zs xs:List Value}{u:Value}(hr:Row w g t zs)(i:Nat)(x:Value)(he:e≠t)(hu:w.ownsRow B e size u n xs):(w.setCell ⟨g,i,none⟩ x).ownsRow B e size u n xs:=by
 refine⟨hu.1,?_⟩
 rcases hu.2 with hn | ⟨g',cap,cur,hv,h1,hg,r⟩
 ·exact .inl hn
 ·refine .inr ⟨g',cap,cur,hv,h1,?_,r⟩
  have hne:g'≠g:=by
   intro eq
   subst eq
   have hr':w.heap[g']?=some (.cells zs.toArray t (0,0)):=hr
   rw[hr'] at hg
   simp only[Option.some.injEq,Obj.cells.injEq] at hg
   exact he hg.2.1.symm
  rw[Below.heap_setCell _ _ _ _ hne]
  exact hg
structure Kept(w w':World)(g:Nat)(v:Value):Prop where
 os:w'.os=w.os
 tape:w'.tape=w.tape
 output:w'.output=w.output
 size:w.heap.size≤w'.heap.size
 block:∀ k,k<w.heap.size→k≠g→v.ownBlock≠some k→w'.heap[k]?=w.heap[k]?
theorem Kept.of{w w':World}(g:Nat)(v:Value)(h:Below w.heap.size w w'):Kept w w' g v:=⟨h.os,h.tape,h.output,h.size,fun k hk _ _=>h.block k hk⟩
theorem Kept.set{w w':World}{g:Nat}{v:Value}(h:Kept w w' g v)(i:Nat)(x:Value):Kept w (w'.setCell ⟨g,i,none⟩ x) g v :=
 ⟨h.os,h.tape,h.output,by simpa [World.setCell] using h.size,fun k hk hg hv=>(Below.heap_setCell w' ⟨g,i,none⟩ x k hg).trans (h.block k hk hg hv)⟩
theorem Kept.below{w w' w'':World}{g:Nat}{v:Value}(h:Kept w w' g v)(hb:Below w'.heap.size w' w''):Kept w w'' g v :=
 ⟨hb.os.trans h.os,hb.tape.trans h.tape,hb.output.trans h.output,Nat.le_trans h.size hb.size,fun k hk hg hv=>(hb.block k (Nat.lt_of_lt_of_le hk h.size)).trans (h.block k hk hg hv)⟩
theorem Kept.grown{w w' w'':World}{g:Nat}{v:Value}(h:Kept w w' g v)(hb:w'.grownBy w'' v.ownBlock):Kept w w'' g v :=
 ⟨hb.os.trans h.os,hb.tape.trans h.tape,hb.output.trans h.output,Nat.le_trans h.size hb.size,fun k hk hg hv=>(hb.block k (Nat.lt_of_lt_of_le hk h.size) (fun e=>hv e.symm)).trans (h.block k hk hg hv)⟩
def hasB(t f:Nat)(x:Int):Bool:=(t&&&bitP x != 0) || (f&&&bitP (-x) != 0)
theorem nat_ne(z:Nat):(((z:Nat):Int) != 0)=(z != 0):=by cases z <;> rfl
set_option maxHeartbeats 2000000 in
theorem has_any(t f:Nat)(x:Int)(ht:t<2^11)(hf:f<2^11)(h1:-10≤x)(h2:x≤10)(w:World) :
  Calls Tryd.prog 71 #[.agg #[.int .i64 t,.int .i64 f],.int .i64 x] w fun e w'=>e=.returned (.bool (hasB t f x))∧Below w.heap.size w w':=by
 have HBIT:Hid (∀ y w,Calls Tryd.prog 60 #[.int .i64 y] w fun e w'=>e=.returned (.int .i64 (bitP y:Nat))∧w'=w):=fun y w=>lbitP_any y w
 have b1:=bitP_lt x
 have b2:=bitP_lt (-x)
 have a1:=and64 t (bitP x) (by omega) (by omega)
 have a2:=and64 f (bitP (-x)) (by omega) (by omega)
 have hwn:IntKind.i64.wrap (-x)=-x:=by rw[IntKind.wrap_i64];omega
 have HN:Hid (∀ x n,Below w.heap.size w ((w.alloc x).drewN n)):=fun x n=>below_drewN ((Below.refl _ _).alloc (Nat.le_refl _) _) n
 have n1:=nat_ne (t&&&bitP x)
 have n2:=nat_ne (f&&&bitP (-x))
 unfold hasB
 generalize t&&&bitP x=z1 at *
 generalize f&&&bitP (-x)=z2 at *
 cases hz:(z1 != 0) with
 | true =>
  rw[hz] at n1
  clear n2
  go_enter Tryd.func71,Tryd.ntmps71
  go_wp2
  go_quiet ((go_at_call 60;exact Calls.quiet_of_same (unhide HBIT _ _)))
  go_wp2
  go_ret
  exact⟨rfl,HN.out _ _⟩
 | false =>
  rw[hz] at n1
  have HZ:=hide n2
  clear n2
  go_enter Tryd.func71,Tryd.ntmps71
  go_wp2
  go_quiet ((go_at_call 60;exact Calls.quiet_of_same (unhide HBIT _ _)))
  go_wp2
  go_ret
  refine⟨?_,HN.out _ _⟩
  rw[Bool.false_or,← HZ.out]
  rfl
theorem opp_ret{w':World}{tmps:Array Value}{g:Nat}{p q:Value}(hr:Row w' g 84 [p,q])(h2:tmps.getD 2 undef=.pointer (some ⟨g,0,none⟩)) :
  (results Tryd.f82 tmps).run Tryd.prog w'=.ok (.agg #[p,q]) w':=by
 obtain⟨fs,hu⟩:=setType
 exact results_cell_row rfl tmps w' g 84 #[p,q] (0,0) (.struct fs) h2 hr hu rfl setSize
set_option maxHeartbeats 2000000 in
theorem lopp_any(t f:Nat)(w:World) :
  Calls Tryd.prog 82 #[.agg #[.int .i64 t,.int .i64 f]] w fun e w'=>e=.returned (.agg #[.int .i64 f,.int .i64 t])∧Below w.heap.size w w':=by
 have R9:Hid (Row ((w.alloc (.cells #[.int .i64 t,.int .i64 f] 84)).alloc (.cells #[.int .i64 f,.int .i64 t] 84)) (w.heap.size+1) 84 [.int .i64 f,.int .i64 t]):=heap_alloc2_new w _ _
 have HB:Hid (∀ x y,Below w.heap.size w ((w.alloc x).alloc y)):=fun x y=>((Below.refl _ _).alloc (Nat.le_refl _) _).alloc (by simp) _
 go_enter Tryd.func82,Tryd.ntmps82
 go_wp2
 exact bodyPost_ret (v:=.agg #[.int .i64 f,.int .i64 t]) (opp_ret R9.out rfl) rfl ⟨rfl,HB.out _ _⟩
def wayN(t f:Nat)(v:Int):Nat:=(hasB t f v).toNat+2*(hasB t f (-v)).toNat
theorem wayN_lt(t f:Nat)(v:Int):wayN t f v<4:=by
 unfold wayN
 have h1:=Bool.toNat_le (hasB t f v)
 have h2:=Bool.toNat_le (hasB t f (-v))
 omega
set_option maxHeartbeats 2000000 in
theorem way_any(t f:Nat)(v:Int)(ht:t<2^11)(hf:f<2^11)(h1:1≤v)(h2:v≤10)(w:World) :
  Calls Tryd.prog 64 #[.agg #[.int .i64 t,.int .i64 f],.int .i64 v] w fun e w'=>e=.returned (.int .i64 (wayN t f v:Nat))∧Below w.heap.size w w':=by
 have HH:Hid (∀ x w,-10≤x→x≤10→Calls Tryd.prog 71 #[.agg #[.int .i64 t,.int .i64 f],.int .i64 x] w fun e w'=>e=.returned (.bool (hasB t f x))∧Below w.heap.size w w'):=fun x w q1 q2=>has_any t f x ht hf q1 q2 w
 have hwn:IntKind.i64.wrap (-v)=-v:=by rw[IntKind.wrap_i64];omega
 have HN:Hid (∀ x,Below w.heap.size w (w.alloc x)):=fun x=>(Below.refl _ _).alloc (Nat.le_refl _) _
 have m0:=new_cells1 w [.int .i64 (t:Nat),.int .i64 (f:Nat)] 84 0 _ rfl
 have m1:=new_cells1 w [.int .i64 (t:Nat),.int .i64 (f:Nat)] 84 1 _ rfl
 rw[addr0] at m0 m1
 simp only[Nat.zero_add] at m0 m1
 have e3:w.heap.size<(w.alloc (.cells #[.int .i64 (t:Nat),.int .i64 (f:Nat)] 84)).heap.size:=by simp
 unfold wayN
 go_enter Tryd.func64,Tryd.ntmps64
 go_wp2_with fail
 refine(unhide HH v _ (by omega) (by omega)).mono ?_
 have hb1:=HN.out (.cells #[.int .i64 (t:Nat),.int .i64 (f:Nat)] 84)
 generalize w.alloc (.cells #[.int .i64 (t:Nat),.int .i64 (f:Nat)] 84)=w1 at *
 rintro e w2 ⟨rfl,hb2⟩
 have k0:=(hb2.cell (p:=⟨w.heap.size,0,none⟩) e3).trans m0
 have k1:=(hb2.cell (p:=⟨w.heap.size,1,none⟩) e3).trans m1
 have HB2:Hid (Below w.heap.size w w2):=hb1.trans (hb2.mono (Nat.le_of_lt e3))
 clear m0 m1 hb1 hb2 HN
 cases hq1:hasB t f v with
 | false =>
  go_wp2_with fail
  refine(unhide HH (-v) _ (by omega) (by omega)).mono ?_
  rintro e w3 ⟨rfl,hb3⟩
  have HB3:Hid (Below w.heap.size w w3):=HB2.out.trans (hb3.mono HB2.out.size)
  clear hb3
  cases hq2:hasB t f (-v) with
  | false =>
   go_wp2
   go_ret
   exact⟨by rw[hq1,hq2];rfl,HB3.out⟩
  | true =>
   go_wp2
   go_ret
   exact⟨by rw[hq1,hq2];rfl,HB3.out⟩
 | true =>
  go_wp2_with fail
  refine(unhide HH (-v) _ (by omega) (by omega)).mono ?_
  rintro e w3 ⟨rfl,hb3⟩
  have HB3:Hid (Below w.heap.size w w3):=HB2.out.trans (hb3.mono HB2.out.size)
  clear hb3
  cases hq2:hasB t f (-v) with
  | false =>
   go_wp2
   go_ret
   exact⟨by rw[hq1,hq2];rfl,HB3.out⟩
  | true =>
   go_wp2
   go_ret
   exact⟨by rw[hq1,hq2];rfl,HB3.out⟩
structure PS where
 gt:Nat
 gf:Nat
 cl:Bool
def PS.Ok(s:PS):Prop:=s.gt<2^11∧s.gf<2^11
def psCells(na:Option Addr)(n nc:Nat)(kt kf:Nat)(s:PS):List Value:=[.slice na n nc,.int .i64 kt,.int .i64 kf,.int .i64 s.gt,.int .i64 s.gf,.bool s.cl]
def meetN(copies:Nat)(op:Int)(s:PS):PS:=if copies=0 then s else if op=0 then { s with cl:=true } else ⟨s.gt|||posB op,s.gf|||negB op,s.cl⟩
theorem meetN_ok{copies:Nat}{op:Int}{s:PS}(h:s.Ok)(ho:op=0∨litB op=true):(meetN copies op s).Ok:=by
 unfold meetN
 split
 ·exact h
 ·split
  ·exact h
  ·rcases ho with ho | ho
   ·contradiction
   ·exact⟨Nat.or_lt_two_pow h.1 ((bitP_pos ho) ▸ bitP_lt op),Nat.or_lt_two_pow h.2 ((bitP_neg ho) ▸ bitP_lt (-op))⟩
set_option maxHeartbeats 4000000 in
theorem meet_any(g:Nat)(na:Option Addr)(n nc kt kf:Nat)(s:PS)(copies:Nat)(op:Int)(w:World)(hr:Row w g 121 (psCells na n nc kt kf s))(hs:s.Ok)(ho:op=0∨litB op=true) :
  Calls Tryd.prog 91 #[.pointer (some ⟨g,0,none⟩),.int .i64 copies,.int .i64 op] w fun e w'=>e=.returned (.tuple #[])∧Row w' g 121 (psCells na n nc kt kf (meetN copies op s))∧w.grownBy w' (some g):=by
 by_cases h0:copies=0
 ·subst h0
  have HR:=hide hr
  clear hr
  go_enter Tryd.func91,Tryd.ntmps91
  go_wp2
  (try simp only[Exit.inBlock,Exit.then])
  refine bodyPost_ret (results_none rfl _ _ _) rfl ?_
  exact⟨rfl,HR.out,grown_self w _⟩
 ·have hci:(((copies:Nat):Int) == 0)=false:=by simp;exact h0
  by_cases h1:op=0
  ·subst h1
   have c5:w.cell? ⟨g,5,none⟩=some (.bool s.cl):=(hr.cell 5).trans rfl
   have z5:=hr.frozen 5
   have HR:=hide hr
   have HE:Hid (meetN copies 0 s={ s with cl:=true }):=by show _=_;simp[meetN,h0]
   clear hr
   go_enter Tryd.func91,Tryd.ntmps91
   go_wp2
   (try simp only[Exit.inBlock,Exit.then])
   refine bodyPost_ret (results_none rfl _ _ _) rfl ?_
   refine⟨rfl,?_,grown_set (grown_self w _)⟩
   rw[HE.out]
   exact HR.out.set 5 _
  ·have hl:litB op=true:=ho.resolve_left h1
   have HW:Hid (∀ w,Calls Tryd.prog 62 #[.agg #[.int .i64 s.gt,.int .i64 s.gf],.int .i64 op] w fun e w'=>e=.returned (.agg #[.int .i64 (s.gt|||posB op:Nat),.int .i64 (s.gf|||negB op:Nat)])∧Below w.heap.size w w'):=fun w=>with_any s.gt s.gf op hs.1 hs.2 hl w
   have HE:Hid (meetN copies op s=⟨s.gt|||posB op,s.gf|||negB op,s.cl⟩):=by show _=_;simp[meetN,h0,h1]
   have c3:w.cell? ⟨g,3,none⟩=some (.int .i64 s.gt):=(hr.cell 3).trans rfl
   have c4:w.cell? ⟨g,4,none⟩=some (.int .i64 s.gf):=(hr.cell 4).trans rfl
   have HR:=hide hr
   clear hr ho hl
   go_enter Tryd.func91,Tryd.ntmps91
   go_wp2_with fail
   refine(unhide HW _).mono ?_
   rintro e w2 ⟨rfl,hb2⟩
   have R2:=hide (row_below HR.out hb2)
   have y3:w2.cell? ⟨g,3,none⟩=some (.int .i64 s.gt):=(R2.out.cell 3).trans rfl
   have y4:w2.cell? ⟨g,4,none⟩=some (.int .i64 s.gf):=(R2.out.cell 4).trans rfl
   have z3:=R2.out.frozen 3
   have z4:=R2.out.frozen 4
   have HB2:=hide hb2
   clear hb2 c3 c4
   go_wp2
   go_end0
   refine⟨rfl,?_,?_⟩
   ·rw[HE.out]
    exact(R2.out.set 3 _).set 4 _
   ·have hg:w.grownBy w2 (some g):=⟨HB2.out.os,HB2.out.tape,HB2.out.output,HB2.out.size,fun k hk _=>HB2.out.block k hk⟩
    exact grown_set (grown_set hg)
end Go.Proofs.YthboeppmlhbofabDoor
