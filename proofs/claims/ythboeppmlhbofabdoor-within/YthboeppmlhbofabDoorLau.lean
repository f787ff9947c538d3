import Derived.Test.YthboeppmlhbofabDoorLat
import Derived.Deep.AppendSrc
import Derived.Great.BuildSlice
namespace Go.Proofs.YthboeppmlhbofabDoor
open Go.RowKit Txt
set_option maxRecDepth 100000
theorem grown_none{w w':World}(h:w.grownBy w' none):Below w.heap.size w w':=⟨h.os,h.tape,h.output,h.size,fun b hb=>h.block b hb (by simp)⟩
theorem wpList_append_copy{P:Program}(w:World){ops:Array Oper}{rest:List Oper}{o:Oper}{a:Act}{Q:Exit→Act→World→Prop}(hgd:o.guard=none)(s x:Operand)(t:TypeId)
  (ho:o.op=.call { callee:=.builtin .append,args:=#[s,x],argTypes:=#[t,t] })
  (base:Nat) (e:TypeId) (i:TypeInfo) (z:Value) (size bytes:Nat) (ht:P.underlying t=some (.slice e)) (hi:P.info? e=some i) (hz:i.zero=some z)
  (hsize:i.size=size) (hby:i.bytes=bytes) (hzs:z.cells.size=size) (hpos:0<size)
  (hs:a.eval s=.slice none 0 0) (v:Value) (n:Nat) (xs:List Value) (hx:a.eval x=v) (hown:w.ownsRow base e size v n xs) (h1:∀ u∈xs,u.oneCell'=true)
  (h63:n≤maxLen) (hbytes:n*bytes≤140737488355328)
  (h:∀ a' c' w',w'.ownsRow w.heap.size e size (.slice a' n c') n xs→Below w.heap.size w w'→wpList P ops Q rest (a.put o.dst (.slice a' n c')) w'):wpList P ops Q (o :: rest) a w:=by
 by_cases hn:0<n
 ·obtain⟨g,cap,rfl,_,_⟩:=hown.form hn
  refine wpList_plain hgd fun _ hK=>wp_append_many w s x t ho w.heap.size e i z size bytes ht hi hz hsize hby hzs hpos (.slice none 0 0) 0 [] hs (own_nil _ _ _ _) ⟨g,0,none⟩ n cap xs hx hown.1 (hown.cells rfl) h1 hn (by omega) (by rw[Nat.zero_add];exact hbytes) (Nat.le_refl _) w.heap.size rfl fun a' c' w' h2 h3 h4=>hK _ _ ?_
  have h2':w'.ownsRow w.heap.size e size (.slice a' n c') n xs:=by
   rw[Nat.zero_add,List.nil_append] at h2;exact h2
  rw[Nat.zero_add]
  exact h a' c' w' h2' (grown_none h3)
 ·obtain rfl:n=0:=by omega
  have hxs:xs=[]:=by
   have:=hown.1
   rw[Nat.zero_mul] at this
   exact List.length_eq_zero_iff.1 this
  subst hxs
  have hr:(Builtin.append_ #[t,t] o.type #[.slice none 0 0,v]).run P w=.ok (.slice none 0 0) w:=by
   have hsrc:Src P i.size t v 0 [] w:=by
    rcases hown.2 with⟨rfl,_⟩ | ⟨g,cap,cur,rfl,_,_,_⟩
    ·exact Src.ofNil (P:=P) w ht 0
    ·exact Src.ofSlice (P:=P) w ht ⟨g,0,none⟩ 0 cap [] (by simp) (fun j u q=>by simp at q) (fun u q=>by simp at q)
   simp[Builtin.append_,run_underlying ht,sizeOf,typeInfo,hi,hsrc.len,hsrc.cells]
  refine wpList_plain hgd fun _ hK=>?_
  unfold Oper.wp execOp
  simp only[ho,resolve,invoke,builtin,Sem.run_bind,Sem.run_pure,Result.andThen_ok,List.map_toArray,List.map_cons,List.map_nil,hs,hx,hr]
  exact hK _ _ (h none 0 w (own_nil _ _ _ _) (Below.refl _ _))
theorem below_setRow{n:Nat}{w w':World}(h:Below n w w'){g:Nat}(hg:n≤g)(cs:Array Value):Below n w (w'.setRow g cs):=⟨h.os,h.tape,h.output,by rw[setRow_size];exact h.size,fun b hb=>(setRow_other w' g b cs (by omega)).trans (h.block b hb)⟩
theorem search_size:(Tryd.prog.info? 93).map (·.size)=some 20:=by kernel_rfl
theorem apart_none'(v:Value):Apart v (.slice none 0 0):=fun _ _ h=>by simp[Value.ownBlock] at h
theorem pr_one(ss:List Pr):∀ u∈prCells ss,u.oneCell'=true:=by
 intro u hu
 simp only[prCells,List.mem_flatMap] at hu
 obtain⟨p,_,hu⟩:=hu
 simp at hu
 rcases hu with rfl|rfl <;> rfl
def RunAt(X:Cx)(B g N:Nat)(R:Rs)(ws:List Nat)(b:Bool)(w:World):Prop :=
 (b=true∧∃ s A T,Btw X T s∧SrI w B g N X.E s A anZero∧goOn X.E fuelN ws s=some R∧(∀ u∈ws,u=0∨u∈X.ws)∧(∀ t∈T,t.1=0∨t.1∈X.ws)∧((T.map fun t=>t.1)++ws).Pairwise (fun a b=>a&&&b=0)∧T.length+ws.length≤5000) ∨
 (b=false∧∃ s x A an,R=.fin s x∧SrI w B g N X.E s A an∧AnsC w B an x)
theorem RunAt.skip{X:Cx}{B g N:Nat}{R:Rs}{ws ws':List Nat}{w:World}(h:RunAt X B g N R ws false w):RunAt X B g N R ws' false w:=by
 rcases h with⟨q,_⟩ | h
 ·simp at q
 ·exact .inr h
theorem seek_run(X:Cx)(hX:CxOk X)(hh:X.h≤1048576)(hl:X.l≤1048576)(hxl:X.E.xs.length≤1000)(w:World)(B g N:Nat)(hN:N≤60000000)(R:Rs)(u:Nat)(ws:List Nat)(h:RunAt X B g N R (u :: ws) true w) :
  Calls Tryd.prog 53 #[.pointer (some ⟨g,0,none⟩),.int .i64 (u:Nat)] w fun e w'=>∃ b,e=.returned (.bool b)∧RunAt X B g N R ws b w'∧Fr srT B w w':=by
 rcases h with⟨_,s,A,T,hb,hi,hg,hw,hT,hd,hlen⟩ | ⟨q,_⟩
 ·have hd1:((T.map fun t=>t.1)++[u]).Pairwise fun a b=>a&&&b=0:=by
   have:=List.pairwise_append.1 hd
   exact List.pairwise_append.2 ⟨this.1,List.pairwise_singleton _ _,fun a ha b hb=>by rw[List.mem_singleton.1 hb];exact this.2.2 a ha u (List.mem_cons_self ..)⟩
  have hW:Wks X T u:=⟨hw u (List.mem_cons_self ..),hT,hd1⟩
  have hH:Hd X T u 0 X.E.as s:=⟨hb.si,hb.trk,hb.done,rfl,by rw[hb.path];rfl,fun q=>by omega⟩
  simp only[List.length_cons] at hlen
  obtain⟨R1,e1,h1⟩:=go_ok hX [u] T s hb (fun x hx=>by rw[List.mem_singleton.1 hx];exact hW.me) hT hd1
  simp only[goOn] at e1 hg
  have hv:=sub_lt20 hb.vals.1 (lits_msk X.sn).top
  cases hs:seekS X.E u fuelN X.E.as s with
  | none=>rw[hs] at hg;simp at hg
  | some RES =>
   rw[hs] at e1 hg
   refine(seek_any X hX T ⟨hh,hl,by omega⟩ u hW w B g N s A hi hH hv hxl hN fuelN RES hs).mono ?_
   rintro e w' ⟨p1,p2,hp⟩
   cases RES with
   | fin s' x =>
    obtain⟨rfl,A2,an,_,_,_,_,q1,q2⟩:=hp
    simp only at hg
    exact⟨false,rfl,.inr ⟨rfl,s',x,A2,an,(Option.some.inj hg).symm,q1,q2⟩,p1⟩
   | go s' =>
    obtain⟨rfl,A2,_,_,_,_,q1⟩:=hp
    simp only at hg e1
    obtain rfl:=Option.some.inj e1
    obtain⟨T',b1,b2⟩:=h1
    have hTl:T'.length=T.length+1:=by
     have:=congrArg List.length b2
     simpa using this
    refine⟨true,rfl,.inl ⟨rfl,s',A2,T',b1,q1,hg,fun x hx=>hw x (List.mem_cons_of_mem _ hx),fun t ht=>?_,?_,by omega⟩,p1⟩
    ·have:t.1∈(T.map fun t=>t.1)++[u]:=by rw[← b2];exact List.mem_map.2 ⟨t,ht,rfl⟩
     rcases List.mem_append.1 this with q | q
     ·obtain⟨t',ht',e⟩:=List.mem_map.1 q
      rw[← e];exact hT t' ht'
     ·rw[List.mem_singleton.1 q];exact hW.me
    ·rw[b2]
     simpa using hd
 ·simp at q
def rsOf:Rs→Sr × Ans
 | .fin s x=>(s,x)
 | .go s=>(s,⟨1,0,listN s.vals,[],[]⟩)
theorem run_of{E:Sg}{m:Nat}{ws:List Nat}{s:Sr}{R:Rs}(h:goOn E m (0 :: ws) s=some R):runS E m ws s=some (rsOf R):=by
 unfold runS
 rw[h]
 cases R <;> rfl
def RunPost(w:World)(B:Nat)(R:Sr × Ans)(e:Ending)(w':World):Prop:=Fr srT B w w'∧∃ (p:A3) (vq:Value) (us:List Value),e=.returned (.tuple #[.agg (R.2.cells p).toArray,vq])∧AnsOwn w' B R.2 p∧us.length=R.1.ls.length∧w'.ownsRow B 76 2 vq R.1.ls.length (liCells us R.1.ls)∧AllOwn w' B 3 us (R.1.ls.map fun p=>p.2)
theorem run_ret{w':World}{tmps:Array Value}{g:Nat}{p q x y z u:Value}(hr:Row w' g 31 [p,q,x,y,z])(h2:tmps.getD 10 undef=.pointer (some ⟨g,0,none⟩))(h3:tmps.getD 11 undef=u) :
  (results Tryd.f35 tmps).run Tryd.prog w'=.ok (.tuple #[.agg #[p,q,x,y,z],u]) w':=by
 obtain⟨fs,hu⟩:=ansType
 rw[results_cell_tmp rfl,h2,h3]
 simp[asAddr,Result.andThen,run_loadVar_row (P:=Tryd.prog) w' g 31 31 #[p,q,x,y,z] (0,0) (.struct fs) hr hu rfl ansSize]
theorem ans_sr:¬ srT 31:=not_sr (by decide) (by decide) (by decide) (by decide) (by decide) (by decide)
set_option maxHeartbeats 16000000 in
theorem run_any(X:Cx)(hX:CxOk X)(hh:X.h≤1048576)(hl:X.l≤1048576)(hxl:X.E.xs.length≤1000)(hwl:X.ws.length≤1000)(w:World)(B cb N:Nat)(hB:B≤w.heap.size)(hN:N≤60000000)(lr:List Nat)(rh rl:Int)(hlr:lr.length≤10000000)(hb:Btw X [] ⟨lr,rh,rl,0,[],[],[],0⟩)(R:Rs)(hR:goOn X.E fuelN (0 :: X.ws) ⟨lr,rh,rl,0,[],[],[],0⟩=some R)
  (aa:Option Addr) (ca:Nat) (ha:IntsAt w aa X.E.xs) (hab:∀ ad,aa=some ad→ad.block<B) (b0:Nat) (al:Option Addr) (cl:Nat) (hol:w.ownsRow b0 84 2 (.slice al lr.length cl) lr.length (prCells (prL lr))) (ap:Option Addr) (cp b1:Nat) (hop:w.ownsRow b1 3 1 (.slice ap X.ws.length cp) X.ws.length (i64s (natI X.ws))) (ht:Tr w B cb (X.E.hv++lr) N) :
  Calls Tryd.prog 35 #[.pointer (some ⟨cb,0,none⟩),.slice al lr.length cl,.slice ap X.ws.length cp,.slice aa X.E.xs.length ca,.agg #[.int .i64 X.E.b,.int .i64 X.E.r,.int .i64 rh,.int .i64 rl]] w (RunPost w B (rsOf R)):=by
 obtain⟨i1,gi,gz0,gz1,gz2⟩:=info_parts Tryd.infoSet
 have HSK:Hid (∀ (w':World) (g u:Nat) (ws:List Nat),RunAt X B g N R (u :: ws) true w'→Calls Tryd.prog 53 #[.pointer (some ⟨g,0,none⟩),.int .i64 (u:Nat)] w' fun e w''=>∃ b,e=.returned (.bool b)∧RunAt X B g N R ws b w''∧Fr srT B w' w''):=fun w' g u ws h=>seek_run X hX hh hl hxl w' B g N hN R u ws h
 have hxw:∀ u∈X.ws,u<2^11:=fun u hu=>ws_lt hX (.inr hu)
 have hdis:((([]:List (Nat × Nat)).map fun t=>t.1)++(0 :: X.ws)).Pairwise fun a b=>a&&&b=0:=by
  simp only[List.map_nil,List.nil_append]
  exact List.pairwise_cons.2 ⟨fun x _=>Nat.zero_and x,hX.cmp.dis⟩
 have HST:Hid (∀ (w':World) (g:Nat) (A:SrA),SrI w' B g N X.E ⟨lr,rh,rl,0,[],[],[],0⟩ A anZero→RunAt X B g N R (0 :: X.ws) true w'):=fun w' g A hi=>.inl ⟨rfl,_,A,[],hb,hi,hR,fun u hu=>(List.mem_cons.1 hu).elim .inl .inr,fun t ht=>by simp at ht,hdis,by simp only[List.length_cons,List.length_nil];omega⟩
 have BW:Hid (Below w.heap.size w ((w.alloc (.cells #[.int .i64 X.E.b,.int .i64 X.E.r,.int .i64 rh,.int .i64 rl] 70)).alloc (.cells #[.int .i64 0,.int .i64 0,.slice none 0 0,.slice none 0 0,.slice none 0 0] 31))):=((Below.refl _ _).alloc (Nat.le_refl _) _).alloc (by simp) _
 have r0:Row (w.alloc (.cells #[.int .i64 X.E.b,.int .i64 X.E.r,.int .i64 rh,.int .i64 rl] 70)) w.heap.size 70 [.int .i64 X.E.b,.int .i64 X.E.r,.int .i64 rh,.int .i64 rl]:=heap_alloc_new w _
 have RM:=hide (row_below r0 (alloc_below _ (.cells #[.int .i64 0,.int .i64 0,.slice none 0 0,.slice none 0 0,.slice none 0 0] 31)))
 have RA:Hid (Row ((w.alloc (.cells #[.int .i64 X.E.b,.int .i64 X.E.r,.int .i64 rh,.int .i64 rl] 70)).alloc (.cells #[.int .i64 0,.int .i64 0,.slice none 0 0,.slice none 0 0,.slice none 0 0] 31)) (w.heap.size+1) 31 [.int .i64 0,.int .i64 0,.slice none 0 0,.slice none 0 0,.slice none 0 0]):=heap_alloc2_new w _ _
 have HOF:Hid (∀ w',Below w.heap.size w w'→Calls Tryd.prog 43 #[.slice aa X.E.xs.length ca] w' fun e w''=>e=.returned (.tuple #[.agg #[.int .i64 (tN X.E.as:Nat),.int .i64 (fN X.E.as:Nat)],.bool true])∧Below w'.heap.size w' w''):=fun w' hbb=>by
  have h1:=of_any aa ca X.E.xs w' (by omega) (ha.below hbb)
  have h2:=(Two.ok X.E.xs).eq
  rw[hX.xs,h2.1,h2.2] at h1
  exact h1
 have HIN:=hide (And.intro ha (And.intro hab (And.intro hol (And.intro hop ht))))
 clear ha hab hol hop ht hb hR hX hdis r0
 go_enter Tryd.func35,Tryd.ntmps35
 go_wp2_with fail
 generalize (w.alloc (.cells #[.int .i64 X.E.b,.int .i64 X.E.r,.int .i64 rh,.int .i64 rl] 70)).alloc (.cells #[.int .i64 0,.int .i64 0,.slice none 0 0,.slice none 0 0,.slice none 0 0] 31)=w0 at *
 refine(unhide HOF w0 BW.out).mono ?_
 rintro e w1 ⟨rfl,hb1⟩
 have BW1:Hid (Below w.heap.size w w1):=BW.out.trans (hb1.mono BW.out.size)
 have RM1:=hide (row_below RM.out hb1)
 have RA1:=hide (row_below RA.out hb1)
 clear hb1 BW RM RA HOF
 have hrm:w.heap.size<w1.heap.size:=RM1.out.lt
 have z00:tN 0=0∧fN 0=0:=by
  obtain⟨a,b⟩:=Two.zero.eq
  exact⟨a.symm,b.symm⟩
 have m0:∀ o,(w1.alloc o).cell? ⟨w.heap.size,0,none⟩=some (.int .i64 X.E.b):=fun o=>((alloc_below w1 o).cell (p:=⟨w.heap.size,0,none⟩) hrm).trans ((RM1.out.cell 0).trans rfl)
 have m1:∀ o,(w1.alloc o).cell? ⟨w.heap.size,1,none⟩=some (.int .i64 X.E.r):=fun o=>((alloc_below w1 o).cell (p:=⟨w.heap.size,1,none⟩) hrm).trans ((RM1.out.cell 1).trans rfl)
 have m2:∀ o,(w1.alloc o).cell? ⟨w.heap.size,2,none⟩=some (.int .i64 rh):=fun o=>((alloc_below w1 o).cell (p:=⟨w.heap.size,2,none⟩) hrm).trans ((RM1.out.cell 2).trans rfl)
 have m3:∀ o,(w1.alloc o).cell? ⟨w.heap.size,3,none⟩=some (.int .i64 rl):=fun o=>((alloc_below w1 o).cell (p:=⟨w.heap.size,3,none⟩) hrm).trans ((RM1.out.cell 3).trans rfl)
 have y0:(w1.alloc (.cells #[.int .i64 (tN X.E.as:Nat),.int .i64 (fN X.E.as:Nat)] 84)).cell? ⟨w1.heap.size,0,none⟩=some (.int .i64 (tN X.E.as:Nat)):=((show Row (w1.alloc (.cells #[.int .i64 (tN X.E.as:Nat),.int .i64 (fN X.E.as:Nat)] 84)) w1.heap.size 84 [.int .i64 (tN X.E.as:Nat),.int .i64 (fN X.E.as:Nat)] from heap_alloc_new w1 _).cell 0).trans rfl
 have y1:(w1.alloc (.cells #[.int .i64 (tN X.E.as:Nat),.int .i64 (fN X.E.as:Nat)] 84)).cell? ⟨w1.heap.size,1,none⟩=some (.int .i64 (fN X.E.as:Nat)):=((show Row (w1.alloc (.cells #[.int .i64 (tN X.E.as:Nat),.int .i64 (fN X.E.as:Nat)] 84)) w1.heap.size 84 [.int .i64 (tN X.E.as:Nat),.int .i64 (fN X.E.as:Nat)] from heap_alloc_new w1 _).cell 1).trans rfl
 have hs1:(w1.alloc (.cells #[.int .i64 (tN X.E.as:Nat),.int .i64 (fN X.E.as:Nat)] 84)).heap.size=w1.heap.size+1:=by simp
 have BS:=hide (alloc_below w1 (.cells #[.int .i64 (tN X.E.as:Nat),.int .i64 (fN X.E.as:Nat)] 84))
 have R2:Hid (((w1.alloc (.cells #[.int .i64 (tN X.E.as:Nat),.int .i64 (fN X.E.as:Nat)] 84)).alloc (.cells #[.pointer none,.slice none 0 0,.int .i64 0,.int .i64 0,.int .i64 0,.int .i64 0,.int .i64 0,.int .i64 0,.slice none 0 0,.int .i64 0,.slice none 0 0,.slice none 0 0,.slice none 0 0,.int .i64 0,.int .i64 0,.int .i64 0,.int .i64 0,.slice none 0 0,.slice none 0 0,.slice none 0 0] 93)).heap[w1.heap.size+1]?=some (.cells #[.pointer none,.slice none 0 0,.int .i64 0,.int .i64 0,.int .i64 0,.int .i64 0,.int .i64 0,.int .i64 0,.slice none 0 0,.int .i64 0,.slice none 0 0,.slice none 0 0,.slice none 0 0,.int .i64 0,.int .i64 0,.int .i64 0,.int .i64 0,.slice none 0 0,.slice none 0 0,.slice none 0 0] 93 (0,0))):=heap_alloc2_new w1 _ _
 have R3:Hid (Row (((w1.alloc (.cells #[.int .i64 (tN X.E.as:Nat),.int .i64 (fN X.E.as:Nat)] 84)).alloc (.cells #[.pointer none,.slice none 0 0,.int .i64 0,.int .i64 0,.int .i64 0,.int .i64 0,.int .i64 0,.int .i64 0,.slice none 0 0,.int .i64 0,.slice none 0 0,.slice none 0 0,.slice none 0 0,.int .i64 0,.int .i64 0,.int .i64 0,.int .i64 0,.slice none 0 0,.slice none 0 0,.slice none 0 0] 93)).setRow (w1.heap.size+1) #[.pointer (some ⟨cb,0,none⟩),.slice aa X.E.xs.length ca,.int .i64 (tN X.E.as:Nat),.int .i64 (fN X.E.as:Nat),.int .i64 X.E.b,.int .i64 X.E.r,.int .i64 rh,.int .i64 rl,.slice none 0 0,.int .i64 0,.slice none 0 0,.slice none 0 0,.slice none 0 0,.int .i64 0,.int .i64 0,.int .i64 0,.int .i64 0,.slice none 0 0,.slice none 0 0,.slice none 0 0]) (w1.heap.size+1) 93 [.pointer (some ⟨cb,0,none⟩),.slice aa X.E.xs.length ca,.int .i64 (tN X.E.as:Nat),.int .i64 (fN X.E.as:Nat),.int .i64 X.E.b,.int .i64 X.E.r,.int .i64 rh,.int .i64 rl,.slice none 0 0,.int .i64 0,.slice none 0 0,.slice none 0 0,.slice none 0 0,.int .i64 0,.int .i64 0,.int .i64 0,.int .i64 0,.slice none 0 0,.slice none 0 0,.slice none 0 0]):=setRow_heap _ _ _ _ _ _ R2.out
 have B3:Hid (Below w1.heap.size w1 (((w1.alloc (.cells #[.int .i64 (tN X.E.as:Nat),.int .i64 (fN X.E.as:Nat)] 84)).alloc (.cells #[.pointer none,.slice none 0 0,.int .i64 0,.int .i64 0,.int .i64 0,.int .i64 0,.int .i64 0,.int .i64 0,.slice none 0 0,.int .i64 0,.slice none 0 0,.slice none 0 0,.slice none 0 0,.int .i64 0,.int .i64 0,.int .i64 0,.int .i64 0,.slice none 0 0,.slice none 0 0,.slice none 0 0] 93)).setRow (w1.heap.size+1) #[.pointer (some ⟨cb,0,none⟩),.slice aa X.E.xs.length ca,.int .i64 (tN X.E.as:Nat),.int .i64 (fN X.E.as:Nat),.int .i64 X.E.b,.int .i64 X.E.r,.int .i64 rh,.int .i64 rl,.slice none 0 0,.int .i64 0,.slice none 0 0,.slice none 0 0,.slice none 0 0,.int .i64 0,.int .i64 0,.int .i64 0,.int .i64 0,.slice none 0 0,.slice none 0 0,.slice none 0 0])):=below_setRow (((Below.refl _ _).alloc (Nat.le_refl _) _).alloc (by simp) _) (by omega) _
 have BW3:Hid (Below w.heap.size w (((w1.alloc (.cells #[.int .i64 (tN X.E.as:Nat),.int .i64 (fN X.E.as:Nat)] 84)).alloc (.cells #[.pointer none,.slice none 0 0,.int .i64 0,.int .i64 0,.int .i64 0,.int .i64 0,.int .i64 0,.int .i64 0,.slice none 0 0,.int .i64 0,.slice none 0 0,.slice none 0 0,.slice none 0 0,.int .i64 0,.int .i64 0,.int .i64 0,.int .i64 0,.slice none 0 0,.slice none 0 0,.slice none 0 0] 93)).setRow (w1.heap.size+1) #[.pointer (some ⟨cb,0,none⟩),.slice aa X.E.xs.length ca,.int .i64 (tN X.E.as:Nat),.int .i64 (fN X.E.as:Nat),.int .i64 X.E.b,.int .i64 X.E.r,.int .i64 rh,.int .i64 rl,.slice none 0 0,.int .i64 0,.slice none 0 0,.slice none 0 0,.slice none 0 0,.int .i64 0,.int .i64 0,.int .i64 0,.int .i64 0,.slice none 0 0,.slice none 0 0,.slice none 0 0])):=BW1.out.trans (B3.out.mono BW1.out.size)
 have RA3:=hide (row_below RA1.out B3.out)
 have hsg:w.heap.size<w1.heap.size+1:=by omega
 clear B3 BW1 RA1
 have e8:(((w1.alloc (.cells #[.int .i64 (tN X.E.as:Nat),.int .i64 (fN X.E.as:Nat)] 84)).alloc (.cells #[.pointer none,.slice none 0 0,.int .i64 0,.int .i64 0,.int .i64 0,.int .i64 0,.int .i64 0,.int .i64 0,.slice none 0 0,.int .i64 0,.slice none 0 0,.slice none 0 0,.slice none 0 0,.int .i64 0,.int .i64 0,.int .i64 0,.int .i64 0,.slice none 0 0,.slice none 0 0,.slice none 0 0] 93)).setRow (w1.heap.size+1) #[.pointer (some ⟨cb,0,none⟩),.slice aa X.E.xs.length ca,.int .i64 (tN X.E.as:Nat),.int .i64 (fN X.E.as:Nat),.int .i64 X.E.b,.int .i64 X.E.r,.int .i64 rh,.int .i64 rl,.slice none 0 0,.int .i64 0,.slice none 0 0,.slice none 0 0,.slice none 0 0,.int .i64 0,.int .i64 0,.int .i64 0,.int .i64 0,.slice none 0 0,.slice none 0 0,.slice none 0 0]).cell? ⟨w1.heap.size+1,8,none⟩=some (.slice none 0 0):=(R3.out.cell 8).trans rfl
 have OL3:Hid ((((w1.alloc (.cells #[.int .i64 (tN X.E.as:Nat),.int .i64 (fN X.E.as:Nat)] 84)).alloc (.cells #[.pointer none,.slice none 0 0,.int .i64 0,.int .i64 0,.int .i64 0,.int .i64 0,.int .i64 0,.int .i64 0,.slice none 0 0,.int .i64 0,.slice none 0 0,.slice none 0 0,.slice none 0 0,.int .i64 0,.int .i64 0,.int .i64 0,.int .i64 0,.slice none 0 0,.slice none 0 0,.slice none 0 0] 93)).setRow (w1.heap.size+1) #[.pointer (some ⟨cb,0,none⟩),.slice aa X.E.xs.length ca,.int .i64 (tN X.E.as:Nat),.int .i64 (fN X.E.as:Nat),.int .i64 X.E.b,.int .i64 X.E.r,.int .i64 rh,.int .i64 rl,.slice none 0 0,.int .i64 0,.slice none 0 0,.slice none 0 0,.slice none 0 0,.int .i64 0,.int .i64 0,.int .i64 0,.int .i64 0,.slice none 0 0,.slice none 0 0,.slice none 0 0]).ownsRow b0 84 2 (.slice al lr.length cl) lr.length (prCells (prL lr))):=own_below HIN.out.2.2.1 BW3.out
 have d1:Hid (lr.length≤maxLen):=by show _≤_;unfold maxLen;omega
 have d2:Hid (lr.length*16≤140737488355328):=by show _≤_;omega
 have HAP:Hid (∀ (a4:Option Addr) (c4:Nat) (w4:World),w4.ownsRow (((w1.alloc (.cells #[.int .i64 (tN X.E.as:Nat),.int .i64 (fN X.E.as:Nat)] 84)).alloc (.cells #[.pointer none,.slice none 0 0,.int .i64 0,.int .i64 0,.int .i64 0,.int .i64 0,.int .i64 0,.int .i64 0,.slice none 0 0,.int .i64 0,.slice none 0 0,.slice none 0 0,.slice none 0 0,.int .i64 0,.int .i64 0,.int .i64 0,.int .i64 0,.slice none 0 0,.slice none 0 0,.slice none 0 0] 93)).setRow (w1.heap.size+1) #[.pointer (some ⟨cb,0,none⟩),.slice aa X.E.xs.length ca,.int .i64 (tN X.E.as:Nat),.int .i64 (fN X.E.as:Nat),.int .i64 X.E.b,.int .i64 X.E.r,.int .i64 rh,.int .i64 rl,.slice none 0 0,.int .i64 0,.slice none 0 0,.slice none 0 0,.slice none 0 0,.int .i64 0,.int .i64 0,.int .i64 0,.int .i64 0,.slice none 0 0,.slice none 0 0,.slice none 0 0]).heap.size 84 2 (.slice a4 lr.length c4) lr.length (prCells (prL lr))→Below (((w1.alloc (.cells #[.int .i64 (tN X.E.as:Nat),.int .i64 (fN X.E.as:Nat)] 84)).alloc (.cells #[.pointer none,.slice none 0 0,.int .i64 0,.int .i64 0,.int .i64 0,.int .i64 0,.int .i64 0,.int .i64 0,.slice none 0 0,.int .i64 0,.slice none 0 0,.slice none 0 0,.slice none 0 0,.int .i64 0,.int .i64 0,.int .i64 0,.int .i64 0,.slice none 0 0,.slice none 0 0,.slice none 0 0] 93)).setRow (w1.heap.size+1) #[.pointer (some ⟨cb,0,none⟩),.slice aa X.E.xs.length ca,.int .i64 (tN X.E.as:Nat),.int .i64 (fN X.E.as:Nat),.int .i64 X.E.b,.int .i64 X.E.r,.int .i64 rh,.int .i64 rl,.slice none 0 0,.int .i64 0,.slice none 0 0,.slice none 0 0,.slice none 0 0,.int .i64 0,.int .i64 0,.int .i64 0,.int .i64 0,.slice none 0 0,.slice none 0 0,.slice none 0 0]).heap.size (((w1.alloc (.cells #[.int .i64 (tN X.E.as:Nat),.int .i64 (fN X.E.as:Nat)] 84)).alloc (.cells #[.pointer none,.slice none 0 0,.int .i64 0,.int .i64 0,.int .i64 0,.int .i64 0,.int .i64 0,.int .i64 0,.slice none 0 0,.int .i64 0,.slice none 0 0,.slice none 0 0,.slice none 0 0,.int .i64 0,.int .i64 0,.int .i64 0,.int .i64 0,.slice none 0 0,.slice none 0 0,.slice none 0 0] 93)).setRow (w1.heap.size+1) #[.pointer (some ⟨cb,0,none⟩),.slice aa X.E.xs.length ca,.int .i64 (tN X.E.as:Nat),.int .i64 (fN X.E.as:Nat),.int .i64 X.E.b,.int .i64 X.E.r,.int .i64 rh,.int .i64 rl,.slice none 0 0,.int .i64 0,.slice none 0 0,.slice none 0 0,.slice none 0 0,.int .i64 0,.int .i64 0,.int .i64 0,.int .i64 0,.slice none 0 0,.slice none 0 0,.slice none 0 0]) w4→RunAt X B (w1.heap.size+1) N R (0 :: X.ws) true (w4.setCell ⟨w1.heap.size+1,8,none⟩ (.slice a4 lr.length c4))∧Fr srT B w (w4.setCell ⟨w1.heap.size+1,8,none⟩ (.slice a4 lr.length c4))∧Row (w4.setCell ⟨w1.heap.size+1,8,none⟩ (.slice a4 lr.length c4)) (w.heap.size+1) 31 [.int .i64 0,.int .i64 0,.slice none 0 0,.slice none 0 0,.slice none 0 0]∧w4.cell? ⟨w1.heap.size+1,8,none⟩=some (.slice none 0 0)∧w4.frozen? ⟨w1.heap.size+1,8,none⟩=false):=fun a4 c4 w4 ho4 hb4=>by
  generalize (((w1.alloc (.cells #[.int .i64 (tN X.E.as:Nat),.int .i64 (fN X.E.as:Nat)] 84)).alloc (.cells #[.pointer none,.slice none 0 0,.int .i64 0,.int .i64 0,.int .i64 0,.int .i64 0,.int .i64 0,.int .i64 0,.slice none 0 0,.int .i64 0,.slice none 0 0,.slice none 0 0,.slice none 0 0,.int .i64 0,.int .i64 0,.int .i64 0,.int .i64 0,.slice none 0 0,.slice none 0 0,.slice none 0 0] 93)).setRow (w1.heap.size+1) #[.pointer (some ⟨cb,0,none⟩),.slice aa X.E.xs.length ca,.int .i64 (tN X.E.as:Nat),.int .i64 (fN X.E.as:Nat),.int .i64 X.E.b,.int .i64 X.E.r,.int .i64 rh,.int .i64 rl,.slice none 0 0,.int .i64 0,.slice none 0 0,.slice none 0 0,.slice none 0 0,.int .i64 0,.int .i64 0,.int .i64 0,.int .i64 0,.slice none 0 0,.slice none 0 0,.slice none 0 0])=w3 at *
  generalize w1.heap.size+1=g at *
  have hBg:B≤g:=by omega
  have bw4:=BW3.out.trans (hb4.mono BW3.out.size)
  have r4:=row_below R3.out hb4
  have f5:Fr srT B w (w4.setCell ⟨g,8,none⟩ (.slice a4 lr.length c4)):=(Fr.of srT B bw4).set r4 srT_me hBg 8 _
  have o4:=own_low ho4 (Nat.le_trans hB BW3.out.size)
  refine⟨HST.out _ g ⟨cb,aa,ca,.slice a4 lr.length c4,.slice none 0 0,.slice none 0 0,.slice none 0 0⟩ ⟨⟨?_,hBg,HIN.out.1.fr f5 hB HIN.out.2.1,HIN.out.2.1,own_setN r4 8 _ (by decide) o4,own_nil _ _ _ _,own_nil _ _ _ _,apart_none _,[],rfl,own_nil _ _ _ _,trivial⟩,(HIN.out.2.2.2.2.below bw4).set r4 8 _ me_tree⟩,f5,row_other r4 (row_below RA3.out hb4) (by decide) 8 _,(r4.cell 8).trans rfl,r4.frozen 8⟩
  have q:=r4.set 8 (.slice a4 lr.length c4)
  show Row _ g 93 (srCells X.E ⟨lr,rh,rl,0,[],[],[],0⟩ ⟨cb,aa,ca,.slice a4 lr.length c4,.slice none 0 0,.slice none 0 0,.slice none 0 0⟩ anZero)
  simp only[srCells,z00.1,z00.2]
  exact q
 clear R3 RA3 BW3 HST BS z00
 go_wp2_with (first | (refine wpList_buildTo rfl 93 #[(0,.tmp 23),(1,.tmp 24),(2,.tmp 25),(3,.tmp 26)] rfl (some 27) rfl #[.pointer (some ⟨cb,0,none⟩),.slice aa X.E.xs.length ca,.int .i64 (tN X.E.as:Nat),.int .i64 (fN X.E.as:Nat),.int .i64 X.E.b,.int .i64 X.E.r,.int .i64 rh,.int .i64 rl,.slice none 0 0,.int .i64 0,.slice none 0 0,.slice none 0 0,.slice none 0 0,.int .i64 0,.int .i64 0,.int .i64 0,.int .i64 0,.slice none 0 0,.slice none 0 0,.slice none 0 0] (by kernel_rfl) ?_) | (refine wpList_store_row rfl 93 (.tmp 14) (.tmp 27) rfl (w1.heap.size+1) #[.pointer (some ⟨cb,0,none⟩),.slice aa X.E.xs.length ca,.int .i64 (tN X.E.as:Nat),.int .i64 (fN X.E.as:Nat),.int .i64 X.E.b,.int .i64 X.E.r,.int .i64 rh,.int .i64 rl,.slice none 0 0,.int .i64 0,.slice none 0 0,.slice none 0 0,.slice none 0 0,.int .i64 0,.int .i64 0,.int .i64 0,.int .i64 0,.slice none 0 0,.slice none 0 0,.slice none 0 0] rfl rfl 93 #[.pointer none,.slice none 0 0,.int .i64 0,.int .i64 0,.int .i64 0,.int .i64 0,.int .i64 0,.int .i64 0,.slice none 0 0,.int .i64 0,.slice none 0 0,.slice none 0 0,.slice none 0 0,.int .i64 0,.int .i64 0,.int .i64 0,.int .i64 0,.slice none 0 0,.slice none 0 0,.slice none 0 0] R2.out search_size rfl (by kernel_rfl) ?_) | (at_builtin;refine wpList_append_copy _ rfl (.tmp 29) (.tmp 30) 65 rfl b0 84 i1 (.agg #[.int .i64 0,.int .i64 0]) 2 16 Tryd.undSets gi gz0 gz1 gz2 rfl (by decide) rfl (.slice al lr.length cl) lr.length (prCells (prL lr)) rfl OL3.out (pr_one _) d1.out d2.out ?_;intro a4 c4 w4 ho4 hb4;obtain⟨p1,p2,p3,p4,p5⟩:=HAP.out a4 c4 w4 ho4 hb4;have P1:=hide p1;have P2:=hide p2;have P3:=hide p3;clear p1 p2 p3 ho4 hb4))
 clear m0 m1 m2 m3 y0 y1 hs1 e8 OL3 HAP R2
 generalize w1.heap.size+1=g at *
 refine(unhide HSK _ g 0 X.ws P1.out).mono ?_
 generalize w4.setCell ⟨g,8,none⟩ (.slice a4 lr.length c4)=w5 at *
 rintro e w6 ⟨b,rfl,hq1,hq2⟩
 have Q1:=hide hq1
 have Q2:=hide (P2.out.trans hq2)
 have Q3:=hide (hq2.row P3.out ans_sr)
 have OP6:=hide (Q2.out.own HIN.out.2.2.2.1 int_sr)
 clear hq1 hq2 P1 P2 P3 p4 p5 OP6
 go_wp2_with fail
 go_loopw [15,36] (fun x15 x36 wr=>∃ (k:Nat) (b:Bool),k≤X.ws.length∧x15=.bool b∧x36=.int .i64 k∧Hid (RunAt X B g N R (X.ws.drop k) b wr)∧Hid (Fr srT B w wr)∧Hid (Row wr (w.heap.size+1) 31 [.int .i64 0,.int .i64 0,.slice none 0 0,.slice none 0 0,.slice none 0 0])) (fun _ x36 _=>X.ws.length - (intOf x36).toNat)
 case atStart=>exact⟨0,b,Nat.zero_le _,rfl,rfl,Q1,Q2,Q3⟩
 case round =>
  clear Q1 Q2 Q3
  obtain⟨k,b,hk,rfl,rfl,RN,FF,RR⟩:=hrel
  by_cases hlt:k<X.ws.length
  ·have OP:=own_nat (FF.out.own HIN.out.2.2.2.1 int_sr)
   obtain⟨bb,off,rfl,hc⟩:=nat_cells OP (by omega)
   have h1:=hc k hlt
   have RN1:Hid (RunAt X B g N R (X.ws.getD k 0 :: X.ws.drop (k+1)) b wr):=by
    have:=RN.out
    rw[drop_get X.ws 0 k hlt] at this
    exact this
   have i1':(0:Int)≤(k:Int):=by omega
   have i2':(k:Int)<(X.ws.length:Int):=by omega
   clear hc OP RN
   generalize X.ws.getD k 0=u at *
   cases b with
   | true =>
    go_wp2_with fail
    refine(unhide HSK wr g u (X.ws.drop (k+1)) RN1.out).mono ?_
    rintro e w7 ⟨b,rfl,hq1,hq2⟩
    have Q1:=hide hq1
    have Q2:=hide (FF.out.trans hq2)
    have Q3:=hide (hq2.row RR.out ans_sr)
    clear hq1 hq2 h1 RN1
    go_wp2
    go_roundw
    case rel=>exact⟨k+1,b,by omega,rfl,by go_num,Q1,Q2,Q3⟩
    case measure=>simp[intOf];omega
   | false =>
    have RN2:Hid (RunAt X B g N R (X.ws.drop (k+1)) false wr):=RN1.out.skip
    go_wp2
    go_roundw
    case rel=>exact⟨k+1,false,by omega,rfl,by go_num,RN2,FF,RR⟩
    case measure=>simp[intOf];omega
  ·obtain rfl:k=X.ws.length:=by omega
   have RN1:Hid (RunAt X B g N R [] b wr):=by
    have:=RN.out
    rw[List.drop_eq_nil_of_le (Nat.le_refl _)] at this
    exact this
   clear RN hlt hk
   have HFIN:Hid (∀ (s:Sr) (x:Ans) (A:SrA) (an:List Value) (w8:World),SrI w8 B g N X.E s A an→AnsC w8 B an x→Fr srT B w w8→Row w8 (w.heap.size+1) 31 [.int .i64 0,.int .i64 0,.slice none 0 0,.slice none 0 0,.slice none 0 0]→rsOf R=(s,x)→∃ p:A3,w8.cell? ⟨g,15,none⟩=some (.int .i64 x.st)∧w8.cell? ⟨g,16,none⟩=some (.int .i64 x.re)∧w8.cell? ⟨g,17,none⟩=some (.slice p.a1 x.vs.length p.c1)∧w8.cell? ⟨g,18,none⟩=some (.slice p.a2 x.co.length p.c2)∧w8.cell? ⟨g,19,none⟩=some (.slice p.a3 x.cl.length p.c3)∧w8.cell? ⟨g,12,none⟩=some A.vq∧(∀ i:Nat,w8.frozen? ⟨w.heap.size+1,i,none⟩=false)∧w8.cell? ⟨w.heap.size+1,0,none⟩=some (.int .i64 0)∧w8.cell? ⟨w.heap.size+1,1,none⟩=some (.int .i64 0)∧w8.cell? ⟨w.heap.size+1,2,none⟩=some (.slice none 0 0)∧w8.cell? ⟨w.heap.size+1,3,none⟩=some (.slice none 0 0)∧w8.cell? ⟨w.heap.size+1,4,none⟩=some (.slice none 0 0) ∧
     ∀ w9,w9=w8∨w9=w8.drew→Row (((((w9.setCell ⟨w.heap.size+1,0,none⟩ (.int .i64 x.st)).setCell ⟨w.heap.size+1,1,none⟩ (.int .i64 x.re)).setCell ⟨w.heap.size+1,2,none⟩ (.slice p.a1 x.vs.length p.c1)).setCell ⟨w.heap.size+1,3,none⟩ (.slice p.a2 x.co.length p.c2)).setCell ⟨w.heap.size+1,4,none⟩ (.slice p.a3 x.cl.length p.c3)) (w.heap.size+1) 31 [.int .i64 x.st,.int .i64 x.re,.slice p.a1 x.vs.length p.c1,.slice p.a2 x.co.length p.c2,.slice p.a3 x.cl.length p.c3]∧RunPost w B (rsOf R) (.returned (.tuple #[.agg #[.int .i64 x.st,.int .i64 x.re,.slice p.a1 x.vs.length p.c1,.slice p.a2 x.co.length p.c2,.slice p.a3 x.cl.length p.c3],A.vq])) (((((w9.setCell ⟨w.heap.size+1,0,none⟩ (.int .i64 x.st)).setCell ⟨w.heap.size+1,1,none⟩ (.int .i64 x.re)).setCell ⟨w.heap.size+1,2,none⟩ (.slice p.a1 x.vs.length p.c1)).setCell ⟨w.heap.size+1,3,none⟩ (.slice p.a2 x.co.length p.c2)).setCell ⟨w.heap.size+1,4,none⟩ (.slice p.a3 x.cl.length p.c3))):=by
    intro s x A an w8 hi hac hf hrr he
    obtain⟨p,rfl,hao⟩:=hac
    refine⟨p,(hi.m.row.cell 15).trans rfl,(hi.m.row.cell 16).trans rfl,(hi.m.row.cell 17).trans rfl,(hi.m.row.cell 18).trans rfl,(hi.m.row.cell 19).trans rfl,(hi.m.row.cell 12).trans rfl,fun i=>hrr.frozen i,(hrr.cell 0).trans rfl,(hrr.cell 1).trans rfl,(hrr.cell 2).trans rfl,(hrr.cell 3).trans rfl,(hrr.cell 4).trans rfl,fun w9 h9=>?_⟩
    have b9:Below w8.heap.size w8 w9:=by
     rcases h9 with e | e
     ·rw[e];exact Below.refl _ _
     ·rw[e];exact below_drewN (Below.refl _ _) 1
    have r9:=row_below hrr b9
    have hT:Fr (fun t=>t=31) 0 w8 (((((w9.setCell ⟨w.heap.size+1,0,none⟩ (.int .i64 x.st)).setCell ⟨w.heap.size+1,1,none⟩ (.int .i64 x.re)).setCell ⟨w.heap.size+1,2,none⟩ (.slice p.a1 x.vs.length p.c1)).setCell ⟨w.heap.size+1,3,none⟩ (.slice p.a2 x.co.length p.c2)).setCell ⟨w.heap.size+1,4,none⟩ (.slice p.a3 x.cl.length p.c3)):=(((((Fr.of (fun t=>t=31) 0 b9).set r9 rfl (Nat.zero_le _) 0 _).set (r9.set 0 _) rfl (Nat.zero_le _) 1 _).set ((r9.set 0 _).set 1 _) rfl (Nat.zero_le _) 2 _).set (((r9.set 0 _).set 1 _).set 2 _) rfl (Nat.zero_le _) 3 _).set ((((r9.set 0 _).set 1 _).set 2 _).set 3 _) rfl (Nat.zero_le _) 4 _
    refine⟨((((r9.set 0 _).set 1 _).set 2 _).set 3 _).set 4 _,?_⟩
    rw[he]
    obtain⟨us,l1,l2,l3⟩:=hi.m.lines
    refine⟨((((((hf.below b9).setAbove (by omega)).setAbove (by omega)).setAbove (by omega)).setAbove (by omega)).setAbove (by omega)),p,A.vq,us,rfl,hao.fr hT (by decide),l1,hT.own l2 (by decide),hT.allOwn l3 (by decide)⟩
   cases b with
   | true =>
    rcases RN1.out with⟨_,s,A,T,hb,hi,hg,_⟩ | ⟨q,_⟩
    ·simp only[goOn,Option.some.injEq] at hg
     have hv:=sub_lt20 hb.vals.1 (lits_msk X.sn).top
     have HLS:Hid (∀ w,Calls Tryd.prog 54 #[.agg #[.int .i64 (tN s.vals:Nat),.int .i64 (fN s.vals:Nat)]] w fun e w'=>(∃ a c,e=.returned (.slice a (listN s.vals).length c)∧w'.ownsRow w.heap.size 3 1 (.slice a (listN s.vals).length c) (listN s.vals).length (i64s (listN s.vals)))∧Below w.heap.size w w'):=fun w=>list_any s.vals hv w
     have HE:Hid (rsOf R=(s,⟨1,0,listN s.vals,[],[]⟩)):=by rw[← hg];rfl
     have I:=hide hi
     have v0:wr.cell? ⟨g,13,none⟩=some (.int .i64 (tN s.vals:Nat)):=(hi.m.row.cell 13).trans rfl
     have v1:wr.cell? ⟨g,14,none⟩=some (.int .i64 (fN s.vals:Nat)):=(hi.m.row.cell 14).trans rfl
     clear hb hi hg hv RN1
     go_wp2_with fail
     refine(unhide HLS wr).mono ?_
     rintro e w7 ⟨⟨a7,c7,rfl,ho7⟩,hb7⟩
     have P2:=hide (I.out.below I.out.size hb7)
     have O7:=hide (own_low ho7 I.out.size)
     have z0:=P2.out.m.row.frozen 15
     have z1:=P2.out.m.row.frozen 16
     have z2:=P2.out.m.row.frozen 17
     have z3:=P2.out.m.row.frozen 18
     have z4:=P2.out.m.row.frozen 19
     have y0:w7.cell? ⟨g,15,none⟩=some (.int .i64 0):=(P2.out.m.row.cell 15).trans rfl
     have y1:w7.cell? ⟨g,16,none⟩=some (.int .i64 0):=(P2.out.m.row.cell 16).trans rfl
     have y2:w7.cell? ⟨g,17,none⟩=some (.slice none 0 0):=(P2.out.m.row.cell 17).trans rfl
     have y3:w7.cell? ⟨g,18,none⟩=some (.slice none 0 0):=(P2.out.m.row.cell 18).trans rfl
     have y4:w7.cell? ⟨g,19,none⟩=some (.slice none 0 0):=(P2.out.m.row.cell 19).trans rfl
     have AN:=hide (P2.out.ans5 (.int .i64 1) (.int .i64 0) (.slice a7 (listN s.vals).length c7) (.slice none 0 0) (.slice none 0 0))
     have F8:=hide ((FF.out.below hb7).trans (AN.out.2.mono wr_sr))
     have R8:=hide (AN.out.2.row (row_below RR.out hb7) (fun h=>h.elim (by decide) (by decide)))
     have AC:Hid (AnsC _ B [.int .i64 1,.int .i64 0,.slice a7 (listN s.vals).length c7,.slice none 0 0,.slice none 0 0] (⟨1,0,listN s.vals,[],[]⟩:Ans)):=⟨⟨a7,none,none,c7,0,0⟩,rfl,AN.out.2.own O7.out int_wr,own_nil _ _ _ _,own_nil _ _ _ _,apart_none' _,apart_none' _,apart_none _⟩
     have FIN:=hide (HFIN.out s _ A _ _ AN.out.1 AC.out F8.out R8.out HE.out)
     clear HFIN HLS ho7 hb7 v0 v1 FF RR I P2 HE HSK
     go_wp2_with fail
     generalize ((((w7.setCell ⟨g,15,none⟩ (.int .i64 1)).setCell ⟨g,16,none⟩ (.int .i64 0)).setCell ⟨g,17,none⟩ (.slice a7 (listN s.vals).length c7)).setCell ⟨g,18,none⟩ (.slice none 0 0)).setCell ⟨g,19,none⟩ (.slice none 0 0)=w8 at *
     clear z0 z1 z2 z3 z4 y0 y1 y2 y3 y4 AN F8 R8 AC O7
     obtain⟨p,k0,k1,k2,k3,k4,k12,kf,f0,f1,f2,f3,f4,kk⟩:=FIN.out
     have KK:=hide kk
     have e0:=kf 0
     have e1:=kf 1
     have e2:=kf 2
     have e3:=kf 3
     have e4:=kf 4
     clear kk kf FIN
     go_region
     all_goals
      go_wp2
      first
       | exact bodyPost_ret (run_ret (KK.out w8.drew (.inr rfl)).1 rfl rfl) rfl (KK.out w8.drew (.inr rfl)).2
       | exact bodyPost_ret (run_ret (KK.out w8 (.inl rfl)).1 rfl rfl) rfl (KK.out w8 (.inl rfl)).2
    ·simp at q
   | false =>
    rcases RN1.out with⟨q,_⟩ | ⟨_,s,x,A,an,hr,hi,hac⟩
    ·simp at q
    ·have FIN:=hide (HFIN.out s x A an wr hi hac FF.out RR.out (by rw[hr];rfl))
     clear HFIN hi hac hr RN1 FF RR HSK
     go_wp2_with fail
     generalize wr=w8 at *
     obtain⟨p,k0,k1,k2,k3,k4,k12,kf,f0,f1,f2,f3,f4,kk⟩:=FIN.out
     have KK:=hide kk
     have e0:=kf 0
     have e1:=kf 1
     have e2:=kf 2
     have e3:=kf 3
     have e4:=kf 4
     clear kk kf FIN
     go_region
     all_goals
      go_wp2
      first
       | exact bodyPost_ret (run_ret (KK.out w8.drew (.inr rfl)).1 rfl rfl) rfl (KK.out w8.drew (.inr rfl)).2
       | exact bodyPost_ret (run_ret (KK.out w8 (.inl rfl)).1 rfl rfl) rfl (KK.out w8 (.inl rfl)).2
end Go.Proofs.YthboeppmlhbofabDoor
