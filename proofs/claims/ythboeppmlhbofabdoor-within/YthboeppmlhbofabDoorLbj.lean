import Derived.Test.YthboeppmlhbofabDoorCnt
namespace Go.Proofs.YthboeppmlhbofabDoor
open Go.RowKit Txt
set_option maxRecDepth 100000
def Sst.saw(s:Sst)(xs:List Int):Sst:={ s with sn:=s.sn|||vN (setOk xs) }
theorem Sst.Ok.btw{s:Sst}(h:s.Ok){xs:List Int}{b:Int}(ha:askedD xs b=0):Btw (s.cx xs b) [] s.sr:=⟨h.si xs b ha,rfl,fun t ht=>by simp at ht,rfl,⟨fun i q=>by
  have q':(0:Nat).testBit i=true:=q
  rw[Nat.zero_testBit] at q'
  simp at q',by show twinB 0=false;decide,fun i q=>by
  have q':(0:Nat).testBit i=true:=q
  rw[Nat.zero_testBit] at q'
  simp at q'⟩,fun t ht=>by simp at ht⟩
structure SlvD(s:Sst)(xs:List Int)(b:Int)(R:Rs)(ls:List Lin)(x:Ans):Prop where
 go:goOn (s.cx xs b).E fuelN (0 :: (s.cx xs b).ws) s.sr=some R
 li:(rsOf R).1.ls=ls
 an:(rsOf R).2=x
 slv:s.slv xs b=ls.foldl Sst.keep (s.saw xs)
 ans:s.ans xs b=x
 each:∀ p∈ls,(p.1=97∨p.1=100∨p.1=101)∧p.2.all litB=true∧p.2.length≤1000
 log:(ls.foldl Sst.keep (s.saw xs)).log≤1048576
 pf:(ls.foldl Sst.keep (s.saw xs)).pf.length≤4194304
theorem Sst.Ok.solve{s:Sst}(h:s.Ok){xs:List Int}{b:Int}(ha:askedD xs b=0):∃ R ls x,SlvD s xs b R ls x:=by
 obtain⟨t,x,e,ok,st,so⟩:=Sst.run_ok h ha
 have es:s.slv xs b=t.ls.foldl Sst.keep (s.saw xs):=by unfold Sst.slv;rw[if_pos ha,e];rfl
 have ea:s.ans xs b=x:=by unfold Sst.ans;rw[if_pos ha,e]
 have v:=ok.vw
 rw[es] at v
 have e':=e
 unfold Sst.run runS at e'
 cases hg:goOn (s.cx xs b).E fuelN (0 :: (s.cx xs b).ws) s.sr with
 | none=>rw[hg] at e';simp at e'
 | some R =>
  have er:rsOf R=(t,x):=by
   have:=run_of hg
   unfold Sst.run at e
   rw[this] at e
   exact Option.some.inj e
  refine⟨R,t.ls,x,hg,by rw[er],by rw[er],es,ea,fun p hp=>⟨lines_letter t.ls _ so.ok p hp,linesOk_lits _ _ so.ok p hp,?_⟩,v.log,v.pfl⟩
  have:=lines_short t.ls _ so.ok p hp
  omega
theorem SlvD.part{s:Sst}{xs:List Int}{b:Int}{R:Rs}{ls:List Lin}{x:Ans}(h:SlvD s xs b R ls x)(ok:s.Ok){k:Nat}(hk:k≤ls.length){t:Sst}(ht:t=(ls.take k).foldl Sst.keep (s.saw xs)):(∀ c∈t.lr,c<2^20)∧t.lr.length≤10000000∧t.pf.length≤100000000∧t.log≤100000000∧t.un≤100000000:=by
 have hl:=h.log
 have hp:=h.pf
 have hv:=ok.vw
 have hlr:=ok.lrs.1
 have hun:=hv.unsat
 have e:ls.foldl Sst.keep (s.saw xs)=(ls.drop k).foldl Sst.keep t:=by
  rw[ht,← List.foldl_append,List.take_append_drop]
 obtain⟨a1,a2,a3,a4⟩:=keeps_grow (ls.take k) (s.saw xs)
 rw[← ht,List.length_take,Nat.min_eq_left hk] at a1 a3 a4
 obtain⟨b1,b2,_,_⟩:=keeps_grow (ls.drop k) t
 rw[← e] at b1 b2
 have c1:(s.saw xs).lr.length≤1000000:=hlr
 have c2:(s.saw xs).un≤1048576:=hun
 refine⟨?_,by omega,by omega,by omega,by omega⟩
 rw[ht]
 exact keeps_lt _ _ fun c hc=>(ok.lt c hc).1
theorem comps_len(cs:List Nat)(V:Nat):(compsN cs V).length≤11+cs.length:=by
 have key:∀ (cs ws:List Nat),(cs.foldl (fun ws c=>linkN ws (vN c)) ws).length≤ws.length+cs.length:=by
  intro cs
  induction cs with
  | nil=>intro ws;simp
  | cons c cs ih =>
   intro ws
   simp only[List.foldl_cons,List.length_cons]
   have a:=ih (linkN ws (vN c))
   have b:=linkF_len ws [] (vN c)
   simp only[List.length_nil] at b
   have c':(linkN ws (vN c)).length=(linkF ws [] (vN c)).length:=rfl
   omega
 have ap:∀ m x,(apartF m x).length≤m:=by
  intro m
  induction m with
  | zero=>intro x;simp[apartF]
  | succ m ih =>
   intro x
   unfold apartF
   split
   ·simp
   ·have:=ih (x - lowN x)
    simp only[List.length_cons]
    omega
 have:=key cs (apartF 11 V)
 have:=ap 11 V
 unfold compsN
 omega
theorem blk_same{a:Option Addr}{n m c:Nat}:(Value.slice a n c).ownBlock=(Value.slice a m c).ownBlock:=by cases a <;> rfl
theorem SlM.saw{w w':World}{g:Nat}{s:Sst}{ta la pa:Option Addr}{tc lc pc:Nat}(m:SlM w g s ta la pa tc lc pc)(xs:List Int)(hr:Row w' g 68 (svCells s.r s.h s.l (.slice ta (tkOf s.hv).length tc) (emOf s.hv) (s.sn|||vN (setOk xs)) (.slice la s.lr.length lc) (.slice pa s.pf.length pc) s.log s.un))(hg:w.grownBy w' (some g)):SlM w' g (s.saw xs) ta la pa tc lc pc:=by
 have k:∀ {e s' n:Nat} {v:Value} {zs:List Value},w.ownsRow 0 e s' v n zs→e≠68→w'.ownsRow 0 e s' v n zs:=fun ho he=>own_frame ho fun b hb=>hg.block b (own_lt ho b hb) fun q=>own_ty ho m.row he (by simp only[Option.some.injEq] at q;rw[← q];exact hb)
 exact⟨hr,k m.ot n_set,k m.ol n_set,k m.op (by decide),m.ap⟩
theorem li_get:∀ (us:List Value) (ls:List Lin) (j:Nat),us.length=ls.length→j<ls.length→(liCells us ls)[j*2]?=some (.int .u8 ((ls.getD j (0,[])).1.toNat:Int))∧(liCells us ls)[j*2+1]?=some (us.getD j undef):=by
 intro us
 induction us with
 | nil=>intro ls j h hj;simp at h;omega
 | cons u us ih =>
  intro ls j h hj
  cases ls with
  | nil=>simp at hj
  | cons p ls =>
   cases j with
   | zero=>exact⟨rfl,rfl⟩
   | succ j =>
    have:=ih ls j (by simpa using h) (by simpa using hj)
    rw[show(j+1)*2=j*2+1+1 by omega]
    simpa [liCells] using this
theorem li_cells{w:World}{B n:Nat}{a:Option Addr}{c:Nat}{us:List Value}{ls:List Lin}(ho:w.ownsRow B 76 2 (.slice a n c) n (liCells us ls))(hl:us.length=ls.length)(hn:n=ls.length){j:Nat}(hj:j<ls.length):∃ b off,a=some ⟨b,off,none⟩∧w.cell? ⟨b,off+j*2,none⟩=some (.int .u8 ((ls.getD j (0,[])).1.toNat:Int))∧w.cell? ⟨b,off+j*2+1,none⟩=some (us.getD j undef):=by
 obtain⟨g,cap,e,_,_⟩:=ho.form (by omega)
 simp only[Value.slice.injEq] at e
 obtain⟨rfl,_,rfl⟩:=e
 obtain⟨k1,k2⟩:=li_get us ls j hl hj
 have h1:=ho.cells (g:=g) rfl _ _ k1
 have h2:=ho.cells (g:=g) rfl _ _ k2
 rw[addr0] at h1 h2
 exact⟨g,0,rfl,h1,h2⟩
theorem AllOwn.get2{w:World}{B e:Nat}{vs:List Value}{cs:List (List Int)}(h:AllOwn w B e vs cs){k:Nat}(hk:k<cs.length):w.ownsRow B e 1 (vs.getD k undef) (cs.getD k []).length (i64s (cs.getD k [])):=by
 obtain⟨u,h1,h2⟩:=h.at k hk
 rw[List.getD_eq_getElem?_getD,h1]
 exact h2
theorem solve_ret{w':World}{tmps:Array Value}{g:Nat}{p q x y z u:Value}(hr:Row w' g 31 [p,q,x,y,z])(h2:tmps.getD 6 undef=.pointer (some ⟨g,0,none⟩))(h3:tmps.getD 7 undef=u) :
  (results Tryd.f13 tmps).run Tryd.prog w'=.ok (.tuple #[.agg #[p,q,x,y,z],u]) w':=by
 obtain⟨fs,hu⟩:=ansType
 rw[results_cell_tmp rfl,h2,h3]
 simp[asAddr,Result.andThen,run_loadVar_row (P:=Tryd.prog) w' g 31 31 #[p,q,x,y,z] (0,0) (.struct fs) hr hu rfl ansSize]
def SvPost2(w:World)(g:Nat)(F:Nat→Prop)(er:Int)(s':Sst)(x:Ans)(e:Ending)(w':World):Prop:=∃ p:A3,e=.returned (.tuple #[.agg #[.int .i64 x.st,.int .i64 x.re,.slice p.a1 x.vs.length p.c1,.slice p.a2 x.co.length p.c2,.slice p.a3 x.cl.length p.c3],.int .i64 er]) ∧
 AnsOwn w' w.heap.size x p∧(er≠0→p=a3None)∧Nxs SlAt F w w' g s' fun F'=>∀ k,p.At k→¬ F' k
set_option maxHeartbeats 4000000 in
theorem solveN_any{w:World}{g:Nat}(a:Option Addr)(c:Nat)(xs:List Int)(b:Int)(hi:IntsAt w a xs)(hx:xs.length≤9223372036854775807)(her:askedD xs b≠0) :
  Calls Tryd.prog 13 #[.pointer (some ⟨g,0,none⟩),.slice a xs.length c,.int .i64 b] w (fun e w'=>e=.returned (.tuple #[.agg #[.int .i64 0,.int .i64 0,.slice none 0 0,.slice none 0 0,.slice none 0 0],.int .i64 (askedD xs b)])∧Below w.heap.size w w'):=by
 have hb0:=alloc_below w (.cells #[.int .i64 0,.int .i64 0,.slice none 0 0,.slice none 0 0,.slice none 0 0] 31)
 have r0:Row (w.alloc (.cells #[.int .i64 0,.int .i64 0,.slice none 0 0,.slice none 0 0,.slice none 0 0] 31)) w.heap.size 31 [.int .i64 0,.int .i64 0,.slice none 0 0,.slice none 0 0,.slice none 0 0]:=heap_alloc_new w _
 have HRF:=hide (refusal_any a c xs b _ (hi.below hb0) (by omega))
 have B0:=hide hb0
 have R0:=hide r0
 generalize askedD xs b=er at *
 clear hi hb0 r0
 go_enter Tryd.func13,Tryd.ntmps13
 go_wp2_with fail
 refine(unhide HRF).mono ?_
 generalize w.alloc (.cells #[.int .i64 0,.int .i64 0,.slice none 0 0,.slice none 0 0,.slice none 0 0] 31)=w0 at *
 rintro e w1 ⟨rfl,hb1⟩
 have B1:Hid (Below w.heap.size w w1):=B0.out.trans (hb1.mono B0.out.size)
 have R1:=hide (row_below R0.out hb1)
 have f0:w1.cell? ⟨w.heap.size,0,none⟩=some (.int .i64 0):=(R1.out.cell 0).trans rfl
 have f1:w1.cell? ⟨w.heap.size,1,none⟩=some (.int .i64 0):=(R1.out.cell 1).trans rfl
 have f2:w1.cell? ⟨w.heap.size,2,none⟩=some (.slice none 0 0):=(R1.out.cell 2).trans rfl
 have f3:w1.cell? ⟨w.heap.size,3,none⟩=some (.slice none 0 0):=(R1.out.cell 3).trans rfl
 have f4:w1.cell? ⟨w.heap.size,4,none⟩=some (.slice none 0 0):=(R1.out.cell 4).trans rfl
 have z0:=R1.out.frozen 0
 have z1:=R1.out.frozen 1
 have z2:=R1.out.frozen 2
 have z3:=R1.out.frozen 3
 have z4:=R1.out.frozen 4
 have R9:=hide (((((R1.out.set 0 (.int .i64 0)).set 1 (.int .i64 0)).set 2 (.slice none 0 0)).set 3 (.slice none 0 0)).set 4 (.slice none 0 0))
 have B9:=hide (((((B1.out.setCell (p:=⟨w.heap.size,0,none⟩) (Nat.le_refl _) (.int .i64 0)).setCell (p:=⟨w.heap.size,1,none⟩) (Nat.le_refl _) (.int .i64 0)).setCell (p:=⟨w.heap.size,2,none⟩) (Nat.le_refl _) (.slice none 0 0)).setCell (p:=⟨w.heap.size,3,none⟩) (Nat.le_refl _) (.slice none 0 0)).setCell (p:=⟨w.heap.size,4,none⟩) (Nat.le_refl _) (.slice none 0 0))
 clear hb1 HRF B0 R0
 go_wp2
 exact bodyPost_ret (solve_ret R9.out rfl rfl) rfl ⟨rfl,B9.out⟩
end Go.Proofs.YthboeppmlhbofabDoor
