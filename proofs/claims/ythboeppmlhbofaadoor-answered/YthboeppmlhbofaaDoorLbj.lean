import Derived.Test.YthboeppmlhbofaaDoorCnt
namespace Go.Proofs.YthboeppmlhbofaaDoor
open Go.RowKit Txt
set_option maxRecDepth 100000
def Aj.saw(s:Aj)(xs:List Int):Aj:={ s with sn:=s.sn|||vN (AO xs) }
theorem Aj.Ok.btw{s:Aj}(h:s.Ok){xs:List Int}{b:Int}(ha:BJ xs b=0):Wl (s.cx xs b) [] s.sr:=⟨h.si xs b ha,rfl,fun t ht=>by simp at ht,rfl,⟨fun i q=>by
  have q':(0:Nat).testBit i=true:=q
  rw[Nat.zero_testBit] at q'
  simp at q',by show A4 0=false;decide,fun i q=>by
  have q':(0:Nat).testBit i=true:=q
  rw[Nat.zero_testBit] at q'
  simp at q'⟩,fun t ht=>by simp at ht⟩
structure VU(s:Aj)(xs:List Int)(b:Int)(R:Rs)(ls:List EY)(x:Gg):Prop where
 go:Js (s.cx xs b).E Hy (0 :: (s.cx xs b).ws) s.sr=some R
 li:(OS R).1.ls=ls
 an:(OS R).2=x
 slv:s.slv xs b=ls.foldl Aj.keep (s.saw xs)
 ans:s.ans xs b=x
 each:∀ p∈ls,(p.1=97∨p.1=100∨p.1=101)∧p.2.all AK=true∧p.2.length≤1000
 log:(ls.foldl Aj.keep (s.saw xs)).log≤1048576
 pf:(ls.foldl Aj.keep (s.saw xs)).pf.length≤4194304
theorem Aj.Ok.solve{s:Aj}(h:s.Ok){xs:List Int}{b:Int}(ha:BJ xs b=0):∃ R ls x,VU s xs b R ls x:=by
 obtain⟨t,x,e,ok,st,so⟩:=Aj.run_ok h ha
 have es:s.slv xs b=t.ls.foldl Aj.keep (s.saw xs):=by unfold Aj.slv;rw[if_pos ha,e];rfl
 have ea:s.ans xs b=x:=by unfold Aj.ans;rw[if_pos ha,e]
 have v:=ok.vw
 rw[es] at v
 have e':=e
 unfold Aj.run WJ at e'
 cases hg:Js (s.cx xs b).E Hy (0 :: (s.cx xs b).ws) s.sr with
 | none=>rw[hg] at e';simp at e'
 | some R =>
  have er:OS R=(t,x):=by
   have:=XO hg
   unfold Aj.run at e
   rw[this] at e
   exact Option.some.inj e
  refine⟨R,t.ls,x,hg,by rw[er],by rw[er],es,ea,fun p hp=>⟨Ma t.ls _ so.ok p hp,Io _ _ so.ok p hp,?_⟩,v.log,v.pfl⟩
  have:=Gu t.ls _ so.ok p hp
  omega
theorem VU.part{s:Aj}{xs:List Int}{b:Int}{R:Rs}{ls:List EY}{x:Gg}(h:VU s xs b R ls x)(ok:s.Ok){k:Nat}(hk:k≤ls.length){t:Aj}(ht:t=(ls.take k).foldl Aj.keep (s.saw xs)):(∀ c∈t.lr,c<2^20)∧t.lr.length≤10000000∧t.pf.length≤100000000∧t.log≤100000000∧t.un≤100000000:=by
 have hl:=h.log
 have hp:=h.pf
 have hv:=ok.vw
 have hlr:=ok.lrs.1
 have hun:=hv.unsat
 have e:ls.foldl Aj.keep (s.saw xs)=(ls.drop k).foldl Aj.keep t:=by
  rw[ht,← List.foldl_append,List.take_append_drop]
 obtain⟨a1,a2,a3,a4⟩:=IC (ls.take k) (s.saw xs)
 rw[← ht,List.length_take,Nat.min_eq_left hk] at a1 a3 a4
 obtain⟨b1,b2,_,_⟩:=IC (ls.drop k) t
 rw[← e] at b1 b2
 have c1:(s.saw xs).lr.length≤1000000:=hlr
 have c2:(s.saw xs).un≤1048576:=hun
 refine⟨?_,by omega,by omega,by omega,by omega⟩
 rw[ht]
 exact To _ _ fun c hc=>(ok.lt c hc).1
theorem Rc(cs:List Nat)(V:Nat):(Ct cs V).length≤11+cs.length:=by
 have key:∀ (cs ws:List Nat),(cs.foldl (fun ws c=>D7 ws (vN c)) ws).length≤ws.length+cs.length:=by
  intro cs
  induction cs with
  | nil=>intro ws;simp
  | cons c cs ih =>
   intro ws
   simp only[List.foldl_cons,List.length_cons]
   have a:=ih (D7 ws (vN c))
   have b:=Li ws [] (vN c)
   simp only[List.length_nil] at b
   have c':(D7 ws (vN c)).length=(EU ws [] (vN c)).length:=rfl
   omega
 have ap:∀ m x,(BT m x).length≤m:=by
  intro m
  induction m with
  | zero=>intro x;simp[BT]
  | succ m ih =>
   intro x
   unfold BT
   split
   ·simp
   ·have:=ih (x - CV x)
    simp only[List.length_cons]
    omega
 have:=key cs (BT 11 V)
 have:=ap 11 V
 unfold Ct
 omega
theorem KJ{a:Option Addr}{n m c:Nat}:(Value.slice a n c).ownBlock=(Value.slice a m c).ownBlock:=by cases a <;> rfl
theorem LK.saw{w w':World}{g:Nat}{s:Aj}{ta la pa:Option Addr}{tc lc pc:Nat}(m:LK w g s ta la pa tc lc pc)(xs:List Int)(hr:Ab w' g 67 (BI s.r s.h s.l (.slice ta (Ao s.hv).length tc) (EA s.hv) (s.sn|||vN (AO xs)) (.slice la s.lr.length lc) (.slice pa s.pf.length pc) s.log s.un))(hg:w.grownBy w' (some g)):LK w' g (s.saw xs) ta la pa tc lc pc:=by
 have k:∀ {e s' n:Nat} {v:Value} {zs:List Value},w.ownsRow 0 e s' v n zs→e≠67→w'.ownsRow 0 e s' v n zs:=fun ho he=>DF ho fun b hb=>hg.block b (FI ho b hb) fun q=>DZ ho m.row he (by simp only[Option.some.injEq] at q;rw[← q];exact hb)
 exact⟨hr,k m.ot Fx,k m.ol Fx,k m.op (by decide),m.ap⟩
theorem XB:∀ (us:List Value) (ls:List EY) (j:Nat),us.length=ls.length→j<ls.length→(Bs us ls)[j*2]?=some (.int .u8 ((ls.getD j (0,[])).1.toNat:Int))∧(Bs us ls)[j*2+1]?=some (us.getD j undef):=by
 intro us
 induction us with
 | nil=>intro ls j h hj;simp at h;omega
 | cons u us ih =>
  intro ls j h hj
  cases ls with
  | nil=>simp at hj
  | cons p ls =>
   cases j with
   | zero=>exact⟨rfl,rfl⟩
   | succ j =>
    have:=ih ls j (by simpa using h) (by simpa using hj)
    rw[show(j+1)*2=j*2+1+1 by omega]
    simpa [Bs] using this
theorem Ts{w:World}{B n:Nat}{a:Option Addr}{c:Nat}{us:List Value}{ls:List EY}(ho:w.ownsRow B 75 2 (.slice a n c) n (Bs us ls))(hl:us.length=ls.length)(hn:n=ls.length){j:Nat}(hj:j<ls.length):∃ b off,a=some ⟨b,off,none⟩∧w.cell? ⟨b,off+j*2,none⟩=some (.int .u8 ((ls.getD j (0,[])).1.toNat:Int))∧w.cell? ⟨b,off+j*2+1,none⟩=some (us.getD j undef):=by
 obtain⟨g,cap,e,_,_⟩:=ho.form (by omega)
 simp only[Value.slice.injEq] at e
 obtain⟨rfl,_,rfl⟩:=e
 obtain⟨k1,k2⟩:=XB us ls j hl hj
 have h1:=ho.cells (g:=g) rfl _ _ k1
 have h2:=ho.cells (g:=g) rfl _ _ k2
 rw[FR] at h1 h2
 exact⟨g,0,rfl,h1,h2⟩
theorem Aq.get2{w:World}{B e:Nat}{vs:List Value}{cs:List (List Int)}(h:Aq w B e vs cs){k:Nat}(hk:k<cs.length):w.ownsRow B e 1 (vs.getD k undef) (cs.getD k []).length (AW (cs.getD k [])):=by
 obtain⟨u,h1,h2⟩:=h.at k hk
 rw[List.getD_eq_getElem?_getD,h1]
 exact h2
theorem Lu{w':World}{tmps:Array Value}{g:Nat}{p q x y z u:Value}(hr:Ab w' g 38 [p,q,x,y,z])(h2:tmps.getD 6 undef=.pointer (some ⟨g,0,none⟩))(h3:tmps.getD 7 undef=u) :
  (results Tryd.f13 tmps).run Tryd.prog w'=.ok (.tuple #[.agg #[p,q,x,y,z],u]) w':=by
 obtain⟨fs,hu⟩:=ME
 rw[results_cell_tmp rfl,h2,h3]
 simp[asAddr,Result.andThen,run_loadVar_row (P:=Tryd.prog) w' g 38 38 #[p,q,x,y,z] (0,0) (.struct fs) hr hu rfl MD]
def Ju(w:World)(g:Nat)(F:Nat→Prop)(er:Int)(s':Aj)(x:Gg)(e:Ending)(w':World):Prop:=∃ p:A3,e=.returned (.tuple #[.agg #[.int .i64 x.st,.int .i64 x.re,.slice p.a1 x.vs.length p.c1,.slice p.a2 x.co.length p.c2,.slice p.a3 x.cl.length p.c3],.int .i64 er]) ∧
 DJ w' w.heap.size x p∧(er≠0→p=MC)∧Wm GL F w w' g s' fun F'=>∀ k,p.At k→¬ F' k
set_option maxHeartbeats 4000000 in
theorem Pm{w:World}{g:Nat}{s:Aj}{F:Nat→Prop}(a:Option Addr)(c:Nat)(xs:List Int)(b:Int)(h:GL w g s F)(hi:Ad w a xs)(hx:xs.length≤100000)(her:BJ xs b≠0) :
  Calls Tryd.prog 13 #[.pointer (some ⟨g,0,none⟩),.slice a xs.length c,.int .i64 b] w (Ju w g F (BJ xs b) s IY):=by
 have hb0:=AF w (.cells #[.int .i64 0,.int .i64 0,.slice none 0 0,.slice none 0 0,.slice none 0 0] 38)
 have r0:Ab (w.alloc (.cells #[.int .i64 0,.int .i64 0,.slice none 0 0,.slice none 0 0,.slice none 0 0] 38)) w.heap.size 38 [.int .i64 0,.int .i64 0,.slice none 0 0,.slice none 0 0,.slice none 0 0]:=heap_alloc_new w _
 have HRF:=AA (Jm a c xs b _ (hi.below hb0) (by omega))
 have B0:=AA hb0
 have R0:=AA r0
 have H:=AA h
 generalize BJ xs b=er at *
 clear hi h hb0 r0
 go_enter Tryd.func13,Tryd.ntmps13
 go_wp2_with fail
 refine(AE HRF).mono ?_
 generalize w.alloc (.cells #[.int .i64 0,.int .i64 0,.slice none 0 0,.slice none 0 0,.slice none 0 0] 38)=w0 at *
 rintro e w1 ⟨rfl,hb1⟩
 have B1:Hid (Below w.heap.size w w1):=B0.out.trans (hb1.mono B0.out.size)
 have R1:=AA (AB R0.out hb1)
 have f0:w1.cell? ⟨w.heap.size,0,none⟩=some (.int .i64 0):=(R1.out.cell 0).trans rfl
 have f1:w1.cell? ⟨w.heap.size,1,none⟩=some (.int .i64 0):=(R1.out.cell 1).trans rfl
 have f2:w1.cell? ⟨w.heap.size,2,none⟩=some (.slice none 0 0):=(R1.out.cell 2).trans rfl
 have f3:w1.cell? ⟨w.heap.size,3,none⟩=some (.slice none 0 0):=(R1.out.cell 3).trans rfl
 have f4:w1.cell? ⟨w.heap.size,4,none⟩=some (.slice none 0 0):=(R1.out.cell 4).trans rfl
 have z0:=R1.out.frozen 0
 have z1:=R1.out.frozen 1
 have z2:=R1.out.frozen 2
 have z3:=R1.out.frozen 3
 have z4:=R1.out.frozen 4
 have R9:=AA (((((R1.out.set 0 (.int .i64 0)).set 1 (.int .i64 0)).set 2 (.slice none 0 0)).set 3 (.slice none 0 0)).set 4 (.slice none 0 0))
 have B9:=AA (((((B1.out.setCell (p:=⟨w.heap.size,0,none⟩) (Nat.le_refl _) (.int .i64 0)).setCell (p:=⟨w.heap.size,1,none⟩) (Nat.le_refl _) (.int .i64 0)).setCell (p:=⟨w.heap.size,2,none⟩) (Nat.le_refl _) (.slice none 0 0)).setCell (p:=⟨w.heap.size,3,none⟩) (Nat.le_refl _) (.slice none 0 0)).setCell (p:=⟨w.heap.size,4,none⟩) (Nat.le_refl _) (.slice none 0 0))
 clear hb1 HRF B0 R0
 go_wp2
 refine bodyPost_ret (Lu R9.out rfl rfl) rfl ⟨MC,rfl,⟨CE _ _ _ _,CE _ _ _ _,CE _ _ _ _,Bk _,Bk _,Bk _⟩,fun _=>rfl,F,H.out.below B9.out,EX.of B9.out,fun _ q=>.inl q,fun k hk=>?_⟩
 simp[A3.At,MC,Value.ownBlock] at hk
end Go.Proofs.YthboeppmlhbofaaDoor
