import Derived.Test.YthboeppmlhbofaaGreatDoorLtx
import Derived.Deep.RegionHeld3
namespace Go.Proofs.YthboeppmlhbofaaGreatDoor
open Go.RowKit
theorem Lq{P:Program}{w:World}{base:Nat}{t ty e:TypeId}{i:TypeInfo}{z:Value}(ht:P.underlying t=some (.slice e))(hi:P.info? e=some i)(hz:i.zero=some z)
  {v:Value} {n:Nat} {xs:List Value} (hown:w.ownsRow base e i.size v n xs) {a:Addr} {m c:Nat} {news:List Value} (hl:news.length=m*i.size)
  (hnews:∀ j u,news[j]?=some u→w.cell? (a.add j)=some u) (h1:∀ u∈news,u.oneCell'=true) (h63:n+m≤maxLen) (hbytes:(n+m)*i.bytes≤140737488355328)
  {v':Value} {w':World} (hr:(Builtin.append_ #[t,t] ty #[v,.slice (some a) m c]).run P w=.ok v' w') (hm:0<m) :
  ∃ a' c',v'=.slice a' (n+m) c'∧(v=.slice a' n c'∨a'=some ⟨w.heap.size,0,none⟩∧w.grownBy w' none):=by
 have hsmall:n+m≤9223372036854775807:=by simp only[maxLen] at h63;omega
 rcases hown.2 with⟨rfl,rfl⟩ | ⟨g,cap,cur,rfl,hbg,hg,hnc,hcm,hcs,htake⟩
 ·have h2:=run_append_nil (P:=P) w t ty e i z ht hi hz a m c news hl hnews (by omega) (by omega) (by have hb:=hbytes;simp only[Nat.zero_add] at hb;omega)
  rw[h2] at hr
  cases hr
  exact⟨_,_,by rw[Nat.zero_add],.inr ⟨rfl,⟨rfl,rfl,rfl,by simp,fun k hk _=>heap_alloc_old w.drew _ hk⟩⟩⟩
 ·by_cases hroom:n+m≤cap
  ·have hfit:n*i.size+news.length≤cur.size:=by rw[hl,hcs,← Nat.add_mul];exact Nat.mul_le_mul_right _ hroom
   have h2:=run_append_room (P:=P) w t ty e i ht hi g n cap cur hg a m c news hl hnews h1 hroom hfit
   rw[h2] at hr
   cases hr
   exact⟨_,_,rfl,.inl rfl⟩
  ·have h2:=run_append_grow (P:=P) w t ty e i z ht hi hz ⟨g,0,none⟩ n cap xs hown.1 (hown.cells (g:=g) rfl) a m c news hl hnews (by omega) (by omega) (growslice_fits (by omega) hbytes)
   rw[h2] at hr
   cases hr
   exact⟨_,_,rfl,.inr ⟨rfl,⟨rfl,rfl,rfl,by simp,fun k hk _=>heap_alloc_old w.drew _ hk⟩⟩⟩
theorem JW{P:Program}(w:World){o:Oper}{a:Act}{K:Act→World→Prop}{Q:Exit→Act→World→Prop}(s x:Operand)(t:TypeId)
  (ho:o.op=.call { callee:=.builtin .append,args:=#[s,x],argTypes:=#[t,t] })
  (base:Nat) (e:TypeId) (i:TypeInfo) (z:Value) (bytes:Nat) (ht:P.underlying t=some (.slice e)) (hi:P.info? e=some i) (hz:i.zero=some z)
  (hsize:i.size=1) (hby:i.bytes=bytes) (hzs:z.cells.size=1)
  (v:Value) (n:Nat) (xs:List Value) (hs:a.eval s=v) (hown:w.ownsRow base e 1 v n xs)
  (ad:Addr) (m c:Nat) (news:List Value) (hx:a.eval x=.slice (some ad) m c) (hl:news.length=m) (hnews:∀ j u,news[j]?=some u→w.cell? (ad.add j)=some u) (h1:∀ u∈news,u.oneCell'=true)
  (hm:0<m) (h63:n+m≤maxLen) (hbytes:(n+m)*bytes≤140737488355328) (hbase:base≤w.heap.size) (H:Nat) (hH:w.heap.size=H)
  (h:∀ a' c' w',w'.ownsRow base e 1 (.slice a' (n+m) c') (n+m) (xs++news)→w.grownBy w' v.ownBlock→(v=.slice a' n c'∨a'=some ⟨H,0,none⟩∧w.grownBy w' none)→K (a.put o.dst (.slice a' (n+m) c')) w'):o.wp P a w K Q:=by
 obtain⟨v',w',hr,h2,h3,_⟩:=run_append_own (P:=P) w base t o.type e i z 1 bytes ht hi hz hsize hby hzs (by decide) v n xs hown ad m c news (by omega) hnews h1 h63 hbytes hbase
 obtain⟨a',c',rfl,h5⟩:=Lq (P:=P) (w:=w) ht hi hz (by rw[hsize];exact hown) (by rw[hsize];omega) hnews h1 h63 (by rw[hby];exact hbytes) hr hm
 unfold Oper.wp execOp
 simp only[ho,resolve,invoke,builtin,Sem.run_bind,Sem.run_pure,Result.andThen_ok,List.map_toArray,List.map_cons,List.map_nil,hs,hx,hr]
 subst hH
 exact h a' c' w' h2 h3 h5
theorem Ap{P:Program}(w:World){ops:Array Oper}{rest:List Oper}{o:Oper}{a:Act}{Q:Exit→Act→World→Prop}(hgd:o.guard=none)(s x:Operand)(t:TypeId)
  (ho:o.op=.call { callee:=.builtin .append,args:=#[s,x],argTypes:=#[t,t] })
  (base:Nat) (e:TypeId) (i:TypeInfo) (z:Value) (bytes:Nat) (ht:P.underlying t=some (.slice e)) (hi:P.info? e=some i) (hz:i.zero=some z)
  (hsize:i.size=1) (hby:i.bytes=bytes) (hzs:z.cells.size=1)
  (v:Value) (n:Nat) (xs:List Value) (hs:a.eval s=v) (hown:w.ownsRow base e 1 v n xs)
  (ad:Addr) (m c:Nat) (news:List Value) (hx:a.eval x=.slice (some ad) m c) (hl:news.length=m) (hnews:∀ j u,news[j]?=some u→w.cell? (ad.add j)=some u) (h1:∀ u∈news,u.oneCell'=true)
  (hm:0<m) (h63:n+m≤maxLen) (hbytes:(n+m)*bytes≤140737488355328) (hbase:base≤w.heap.size) (H:Nat) (hH:w.heap.size=H)
  (h:∀ a' c' w',w'.ownsRow base e 1 (.slice a' (n+m) c') (n+m) (xs++news)→w.grownBy w' v.ownBlock→(v=.slice a' n c'∨a'=some ⟨H,0,none⟩∧w.grownBy w' none)→wpList P ops Q rest (a.put o.dst (.slice a' (n+m) c')) w'):wpList P ops Q (o :: rest) a w :=
 wpList_plain hgd fun _ hK=>JW w s x t ho base e i z bytes ht hi hz hsize hby hzs v n xs hs hown ad m c news hx hl hnews h1 hm h63 hbytes hbase H hH fun a' c' w' h2 h3 h4=>hK _ _ (h a' c' w' h2 h3 h4)
theorem DZ{P:Program}(w:World){ops:Array Oper}{o:Oper}{a:Act}{K:Act→World→Prop}{Q:Exit→Act→World→Prop}{E:Prop}(hgd:o.guard=none)(s x:Operand)(t:TypeId)
  (ho:o.op=.call { callee:=.builtin .append,args:=#[s,x],argTypes:=#[t,t] })
  (base:Nat) (e:TypeId) (i:TypeInfo) (z:Value) (bytes:Nat) (ht:P.underlying t=some (.slice e)) (hi:P.info? e=some i) (hz:i.zero=some z)
  (hsize:i.size=1) (hby:i.bytes=bytes) (hzs:z.cells.size=1)
  (v:Value) (n:Nat) (xs:List Value) (hs:a.eval s=v) (hown:w.ownsRow base e 1 v n xs)
  (ad:Addr) (m c:Nat) (news:List Value) (hx:a.eval x=.slice (some ad) m c) (hl:news.length=m) (hnews:∀ j u,news[j]?=some u→w.cell? (ad.add j)=some u) (h1:∀ u∈news,u.oneCell'=true)
  (hm:0<m) (h63:n+m≤maxLen) (hbytes:(n+m)*bytes≤140737488355328) (hbase:base≤w.heap.size) (H:Nat) (hH:w.heap.size=H)
  (h:∀ a' c' w',w'.ownsRow base e 1 (.slice a' (n+m) c') (n+m) (xs++news)→w.grownBy w' v.ownBlock→(v=.slice a' n c'∨a'=some ⟨H,0,none⟩∧w.grownBy w' none)→K (a.put o.dst (.slice a' (n+m) c')) w') :
  if Region.wanted o (yielded ops a.tmps)=true then Oper.wp P o a w K Q else E:=by
 have hw:Region.wanted o (yielded ops a.tmps)=true:=by simp[Region.wanted,hgd]
 rw[if_pos hw]
 exact JW w s x t ho base e i z bytes ht hi hz hsize hby hzs v n xs hs hown ad m c news hx hl hnews h1 hm h63 hbytes hbase H hH h
theorem DT{v:Value}{a':Option Addr}{n N c' H:Nat}{p:Prop}(h:v=.slice a' n c'∨a'=some ⟨H,0,none⟩∧p):(Value.slice a' N c').ownBlock=v.ownBlock∨(Value.slice a' N c').ownBlock=some H:=by
 rcases h with rfl | ⟨rfl,_⟩
 ·left
  cases a' <;> rfl
 ·exact .inr rfl
theorem Wm{w w':World}{base e:Nat}{v:Value}{n m c' H:Nat}{a':Option Addr}{xs news:List Value}(hv:w.ownsRow base e 1 v n xs)(hm:news.length=m)(h:w'.ownsRow base e 1 (.slice a' (n+m) c') (n+m) (xs++news))
  (hl:v=.slice a' n c'∨a'=some ⟨H,0,none⟩∧w.grownBy w' none):w'.ownsRow base e 1 v n xs:=by
 have hxl:xs.length=n:=by have:=hv.1;omega
 rcases hl with rfl | ⟨_,hg⟩
 ·refine⟨hv.1,?_⟩
  rcases h.2 with⟨h0,_⟩ | ⟨g,cap,cur,h0,h1,h2,h3,h4,h5,h6⟩
  ·simp only[Value.slice.injEq] at h0
   obtain⟨rfl,h7,rfl⟩:=h0
   have:n=0:=by omega
   subst this
   exact .inl ⟨rfl,rfl⟩
  ·simp only[Value.slice.injEq] at h0
   obtain⟨rfl,_,rfl⟩:=h0
   refine .inr ⟨g,c',cur,rfl,h1,h2,by omega,h4,h5,?_⟩
   have:=congrArg (List.take n) h6
   rw[List.take_take,Nat.min_eq_left (by omega),List.take_left' hxl] at this
   rw[Nat.mul_one]
   exact this
 ·exact N7 hv hg
theorem Gu{P:Program}(w:World){o:Oper}{a:Act}{K:Act→World→Prop}{Q:Exit→Act→World→Prop}(s x:Operand)(t:TypeId)
  (ho:o.op=.call { callee:=.builtin .append,args:=#[s,x],argTypes:=#[t,t] })
  (base:Nat) (e:TypeId) (i:TypeInfo) (z:Value) (size bytes:Nat) (ht:P.underlying t=some (.slice e)) (hi:P.info? e=some i) (hz:i.zero=some z)
  (hsize:i.size=size) (hby:i.bytes=bytes) (hzs:z.cells.size=size) (hpos:0<size)
  (v:Value) (n:Nat) (xs:List Value) (hs:a.eval s=v) (hown:w.ownsRow base e size v n xs)
  (ad:Addr) (m c:Nat) (news:List Value) (hx:a.eval x=.slice (some ad) m c) (hl:news.length=m*size) (hnews:∀ j u,news[j]?=some u→w.cell? (ad.add j)=some u) (h1:∀ u∈news,u.oneCell'=true)
  (hm:0<m) (h63:n+m≤maxLen) (hbytes:(n+m)*bytes≤140737488355328) (hbase:base≤w.heap.size) (H:Nat) (hH:w.heap.size=H)
  (h:∀ a' c' w',w'.ownsRow base e size (.slice a' (n+m) c') (n+m) (xs++news)→w.grownBy w' v.ownBlock→(v=.slice a' n c'∨a'=some ⟨H,0,none⟩∧w.grownBy w' none)→K (a.put o.dst (.slice a' (n+m) c')) w'):o.wp P a w K Q:=by
 obtain⟨v',w',hr,h2,h3,_⟩:=run_append_own (P:=P) w base t o.type e i z size bytes ht hi hz hsize hby hzs hpos v n xs hown ad m c news hl hnews h1 h63 hbytes hbase
 obtain⟨a',c',rfl,h5⟩:=Lq (P:=P) (w:=w) ht hi hz (by rw[hsize];exact hown) (by rw[hsize];exact hl) hnews h1 h63 (by rw[hby];exact hbytes) hr hm
 unfold Oper.wp execOp
 simp only[ho,resolve,invoke,builtin,Sem.run_bind,Sem.run_pure,Result.andThen_ok,List.map_toArray,List.map_cons,List.map_nil,hs,hx,hr]
 subst hH
 exact h a' c' w' h2 h3 h5
theorem CW{P:Program}(w:World){ops:Array Oper}{o:Oper}{a:Act}{K:Act→World→Prop}{Q:Exit→Act→World→Prop}{E:Prop}(hgd:o.guard=none)(s x:Operand)(t:TypeId)
  (ho:o.op=.call { callee:=.builtin .append,args:=#[s,x],argTypes:=#[t,t] })
  (base:Nat) (e:TypeId) (i:TypeInfo) (z:Value) (size bytes:Nat) (ht:P.underlying t=some (.slice e)) (hi:P.info? e=some i) (hz:i.zero=some z)
  (hsize:i.size=size) (hby:i.bytes=bytes) (hzs:z.cells.size=size) (hpos:0<size)
  (v:Value) (n:Nat) (xs:List Value) (hs:a.eval s=v) (hown:w.ownsRow base e size v n xs)
  (ad:Addr) (m c:Nat) (news:List Value) (hx:a.eval x=.slice (some ad) m c) (hl:news.length=m*size) (hnews:∀ j u,news[j]?=some u→w.cell? (ad.add j)=some u) (h1:∀ u∈news,u.oneCell'=true)
  (hm:0<m) (h63:n+m≤maxLen) (hbytes:(n+m)*bytes≤140737488355328) (hbase:base≤w.heap.size) (H:Nat) (hH:w.heap.size=H)
  (h:∀ a' c' w',w'.ownsRow base e size (.slice a' (n+m) c') (n+m) (xs++news)→w.grownBy w' v.ownBlock→(v=.slice a' n c'∨a'=some ⟨H,0,none⟩∧w.grownBy w' none)→K (a.put o.dst (.slice a' (n+m) c')) w') :
  if Region.wanted o (yielded ops a.tmps)=true then Oper.wp P o a w K Q else E:=by
 have hw:Region.wanted o (yielded ops a.tmps)=true:=by simp[Region.wanted,hgd]
 rw[if_pos hw]
 exact Gu w s x t ho base e i z size bytes ht hi hz hsize hby hzs hpos v n xs hs hown ad m c news hx hl hnews h1 hm h63 hbytes hbase H hH h
open Go.RowKit Txt
def off(a:Option Addr)(b:Nat):Prop:=∀ g,a=some g→g.block≠b
theorem VB(b:Nat):off none b:=fun _ h=>by simp at h
theorem GG{a:Option Addr}{b:Nat}(h:off a b)(n c:Nat):some b≠(Value.slice a n c).ownBlock:=by
 cases a with
 | none=>simp[Value.ownBlock]
 | some g=>intro e;simp only[Value.ownBlock,Option.some.injEq] at e;exact h g rfl e.symm
theorem Pg{k b:Nat}(h:b<k):off (some ⟨k,0,none⟩) b:=fun g e=>by
 simp only[Option.some.injEq] at e
 subst e
 show k≠b
 omega
theorem Hz{a a3:Option Addr}{b n c n' c3 k:Nat}{p:Prop}(h:off a b)(hl:Value.slice a n c=.slice a3 n' c3∨a3=some ⟨k,0,none⟩∧p)(hk:b<k):off a3 b:=by
 rcases hl with e | ⟨rfl,_⟩
 ·simp only[Value.slice.injEq] at e
  obtain⟨rfl,_⟩:=e
  exact h
 ·exact Pg hk
structure WV.Free(V:WV)(b:Nat):Prop where
 l:off V.al b
 c:off V.ac b
 t:off V.at_ b
 x:off V.ax b
 o:off V.ao b
 w:off V.aw b
 cs:∀ u∈V.vcs,u.ownBlock≠some b
 os:∀ u∈V.vos,u.ownBlock≠some b
 ws:∀ u∈V.vws,u.ownBlock≠some b
def Jr(w w':World)(Wb:Nat)(V V':WV):Prop:=∀ b,b<w.heap.size→b≠Wb→V.Free b→w'.heap[b]?=w.heap[b]?∧V'.Free b
theorem Jr.trans{w w1 w2:World}{Wb:Nat}{V V1 V2:WV}(h:Jr w w1 Wb V V1)(hs:w.heap.size≤w1.heap.size)(h':Jr w1 w2 Wb V1 V2):Jr w w2 Wb V V2:=fun b hb hn hf =>
 let ⟨e1,f1⟩:=h b hb hn hf
 let ⟨e2,f2⟩:=h' b (Nat.lt_of_lt_of_le hb hs) hn f1
 ⟨e2.trans e1,f2⟩
theorem Jr.of{w w':World}(Wb:Nat)(V:WV)(h:Below w.heap.size w w'):Jr w w' Wb V V:=fun b hb _ hf=>⟨h.block b hb,hf⟩
theorem Jr.pre{w w1 w2:World}{Wb:Nat}{V V2:WV}(h:Below w.heap.size w w1)(h':Jr w1 w2 Wb V V2):Jr w w2 Wb V V2:=(Jr.of Wb V h).trans h.size h'
theorem Jr.set{w w':World}{Wb:Nat}{V V':WV}(h:Jr w w' Wb V V')(i:Nat)(x:Value):Jr w (w'.setCell ⟨Wb,i,none⟩ x) Wb V V':=fun b hb hn hf =>
 let ⟨e,f⟩:=h b hb hn hf
 ⟨(Below.heap_setCell w' ⟨Wb,i,none⟩ x b hn).trans e,f⟩
theorem GO{w0 w w3:World}{o:Obj}{a:Option Addr}{n c b Wb:Nat}(hb:Below w0.heap.size w0 w)(hg:(w.alloc o).grownBy w3 (Value.slice a n c).ownBlock)(i:Nat)(x:Value)(h1:b<w0.heap.size)(h2:b≠Wb)(h3:off a b):(w3.setCell ⟨Wb,i,none⟩ x).heap[b]?=w0.heap[b]?:=by
 have hs:=hb.size
 exact(Below.heap_setCell w3 ⟨Wb,i,none⟩ x b h2).trans ((hg.block b (by simp;omega) (GG h3 n c)).trans ((heap_alloc_old w o (by omega)).trans (hb.block b h1)))
theorem VH{a:Option Addr}{b n c:Nat}(h:(Value.slice a n c).ownBlock≠some b):off a b:=fun g e e'=>by
 subst e
 exact h (by simp[Value.ownBlock,e'])
theorem RX{a a3:Option Addr}{b n c n3 c3 k:Nat}(h:off a b)(hh:(Value.slice a3 n3 c3).ownBlock=(Value.slice a n c).ownBlock∨(Value.slice a3 n3 c3).ownBlock=some k)(hk:b<k):off a3 b:=by
 refine VH (n:=n3) (c:=c3) (fun e=>?_)
 rcases hh with q | q
 ·rw[q] at e;exact GG h n c e.symm
 ·rw[q,Option.some.injEq] at e;omega
def dq(w w':World)(Wb:Nat)(V V':WV)(v:Value):Prop:=∀ b,b<w.heap.size→b≠Wb→V.Free b→v.ownBlock≠some b→w'.heap[b]?=w.heap[b]?∧V'.Free b
def OF(w w':World)(Wb:Nat)(V V':WV)(vs:List Value):Prop:=∀ b,b<w.heap.size→b≠Wb→V.Free b→(∀ u∈vs,u.ownBlock≠some b)→w'.heap[b]?=w.heap[b]?∧V'.Free b
theorem OF.set{w w':World}{Wb:Nat}{V V':WV}{vs:List Value}(h:OF w w' Wb V V' vs)(i:Nat)(x:Value):OF w (w'.setCell ⟨Wb,i,none⟩ x) Wb V V' vs:=fun b h1 h2 h3 h4 =>
 ⟨(Below.heap_setCell w' ⟨Wb,i,none⟩ x b h2).trans (h b h1 h2 h3 h4).1,(h b h1 h2 h3 h4).2⟩
theorem OF.put{w w':World}{Wb g:Nat}{V V':WV}{vs:List Value}{u:Value}(h:OF w w' Wb V V' vs)(hu:u∈vs)(hg:u.ownBlock=some g)(i:Nat)(x:Value):OF w (w'.setCell ⟨g,i,none⟩ x) Wb V V' vs:=fun b h1 h2 h3 h4 =>
 ⟨(Below.heap_setCell w' ⟨g,i,none⟩ x b (fun e=>h4 u hu (by rw[hg];exact congrArg some e.symm))).trans (h b h1 h2 h3 h4).1,(h b h1 h2 h3 h4).2⟩
theorem OF.grown{w w1 w2:World}{Wb:Nat}{V V':WV}{vs:List Value}{u:Value}{o:Obj}(h:OF w w1 Wb V V' vs)(hs:w.heap.size≤w1.heap.size)(hu:u∈vs)(hg:(w1.alloc o).grownBy w2 u.ownBlock):OF w w2 Wb V V' vs:=fun b h1 h2 h3 h4 =>
 ⟨(hg.block b (by simp;omega) (fun e=>h4 u hu e.symm)).trans ((heap_alloc_old w1 o (by omega)).trans (h b h1 h2 h3 h4).1),(h b h1 h2 h3 h4).2⟩
theorem OF.held{w w1 w2:World}{Wb:Nat}{V V1 V2:WV}{vs:List Value}{v:Value}(h:OF w w1 Wb V V1 vs)(hs:w.heap.size≤w1.heap.size)(hh:dq w1 w2 Wb V1 V2 v)(hv:∀ b,b<w.heap.size→(∀ u∈vs,u.ownBlock≠some b)→v.ownBlock≠some b):OF w w2 Wb V V2 vs:=fun b h1 h2 h3 h4 =>
 let ⟨e1,f1⟩:=h b h1 h2 h3 h4
 let ⟨e2,f2⟩:=hh b (by omega) h2 f1 (hv b h1 h4)
 ⟨e2.trans e1,f2⟩
structure Bd(n:Nat)(s:St):Prop where
 list:s.list.length≤n
 cls:s.clauses.length≤n+1000
 cl1:∀ c∈s.clauses,c.length≤17384
 txs:s.texts.length≤n
 tx1:∀ t∈s.texts,t.size≤4194304
 outs:s.outs.length≤2000*n
 out1:∀ c∈s.outs,c.length≤5000002
 mark:0≤s.mark∧s.mark≤6000000000*n
 same:s.outs=s.want
open Go.RowKit Txt
structure cJ(w w':World)(B:Nat)(V V':WV)(s s':St):Prop where
 al:V'.al=V.al
 cl:V'.cl=V.cl
 oth:∀ e u n xs,e≠34→w.ownsRow B e 1 u n xs→Af u (V.vo s)→Af u (V.vw s)→w'.ownsRow B e 1 u n xs∧Af u (V'.vo s')∧Af u (V'.vw s')
 below:Below B w w'
 vcs:V'.vcs=V.vcs
 xs:V'.nx=V.nx∧V'.vxs=V.vxs∧V'.ax=V.ax∧V'.cx=V.cx
 vws:∀ v∈V'.vws,v∈V.vws∨∃ k n m,w.heap.size≤k∧v=.slice (some ⟨k,0,none⟩) n m
theorem SC(xs:List Int):splice (List.replicate xs.length (.int .i64 0)) 0 (AO xs)=AO xs:=by
 simp only[splice,List.take_zero,List.nil_append,Nat.zero_add,Az,List.drop_replicate,Nat.sub_self,List.replicate_zero,List.append_nil]
theorem Tq{w:World}{g B:Nat}{e:TypeId}{zs:List Value}(h:AY w g e zs)(hB:B≤g)(hz:zs.length≤maxLen):w.ownsRow B e 1 (.slice (some ⟨g,0,none⟩) zs.length zs.length) zs.length zs :=
 ⟨by simp,.inr ⟨g,zs.length,zs.toArray,rfl,hB,h,Nat.le_refl _,hz,by simp,by simp⟩⟩
theorem Xy{w2:World}{g B:Nat}{xs:List Int}(h:Hid (w2.heap[g]?=some (.cells (splice (List.replicate xs.length (.int .i64 0)) 0 (AO xs)).toArray 3 (0,0))))(hB:B≤g)(b3:xs.length≤maxLen) :
  w2.ownsRow B 3 1 (.slice (some ⟨g,0,none⟩) xs.length xs.length) xs.length (AO xs):=by
 have hq:=Tq (B:=B) (show AY w2 g 3 (AO xs) from(SC xs) ▸ h.out) hB (by rw[Az];exact b3)
 rw[Az] at hq
 exact hq
theorem FY(w:World)(k:Nat)(hk:w.heap.size=k)(l:List Value)(e:TypeId):∀ j u,l[j]?=some u→(w.alloc (.cells l.toArray e)).cell? ((⟨k,0,none⟩:Addr).add j)=some u:=by
 subst hk;exact AH w l e
theorem Sd{w2 w3:World}{Wb B:Nat}{V:WV}{s:St}(h:WI w2 Wb B V s){o:Obj}(hg:(w2.alloc o).grownBy w3 (V.vo s).ownBlock)(hr:AY w3 Wb 34 (V.cells s))(x:Value)(o':Obj) :
  ((w3.setCell ⟨Wb,4,none⟩ x).alloc o').ownsRow B 24 1 (V.vw s) s.want.length V.vws :=
 (Cl hr 4 x By (Aj (h.wt.alloc o) hg h.a3.symm)).alloc o'
theorem La{w:World}{b e s:Nat}{u:Value}{n:Nat}{xs:List Value}(h:w.ownsRow b e s u n xs){k:Nat}(hk:w.heap.size≤k)(a c:Nat):Af (.slice (some ⟨k,0,none⟩) a c) u:=by
 intro j hj hu
 simp only[Value.ownBlock,Option.some.injEq] at hj
 have:=(h.lt j hu).2
 omega
theorem Ar{α:Type}(l:List α)(x:α):(l++[x]).length=l.length+1:=by simp
theorem YF{w w2 w3 w5:World}{Wb B:Nat}{V:WV}{s:St}{xs:List Int}{a a3 a5:Option Addr}{c c3 c5:Nat}{o1 o2:Obj}(H:WI w Wb B V s)(hb2:Below w.heap.size w w2)
  (HL2:w2.ownsRow B 3 1 (.slice a xs.length c) xs.length (AO xs)) (HC:w2.ownsRow B 3 1 (.slice (some ⟨w.heap.size,0,none⟩) xs.length xs.length) xs.length (AO xs)) (HAP:Af (.slice a xs.length c) (V.vl s))
  (hg3:(w2.alloc o1).grownBy w3 (V.vo s).ownBlock) (HR3:AY w3 Wb 34 (V.cells s)) (HO3:w3.ownsRow B 24 1 (.slice a3 (s.outs.length+1) c3) (s.outs.length+1) (V.vos++[.slice a xs.length c]))
  (hh3:(Value.slice a3 (s.outs.length+1) c3).ownBlock=(V.vo s).ownBlock∨(Value.slice a3 (s.outs.length+1) c3).ownBlock=some (w2.alloc o1).heap.size)
  (hg5:((w3.setCell ⟨Wb,4,none⟩ (.slice a3 (s.outs.length+1) c3)).alloc o2).grownBy w5 (V.vw s).ownBlock) (HR5:AY w5 Wb 34 ((V.cells s).set 4 (.slice a3 (s.outs.length+1) c3)))
  (HO5:w5.ownsRow B 24 1 (.slice a5 (s.want.length+1) c5) (s.want.length+1) (V.vws++[.slice (some ⟨w.heap.size,0,none⟩) xs.length xs.length]))
  (hh5:(Value.slice a5 (s.want.length+1) c5).ownBlock=(V.vw s).ownBlock∨(Value.slice a5 (s.want.length+1) c5).ownBlock=some ((w3.setCell ⟨Wb,4,none⟩ (.slice a3 (s.outs.length+1) c3)).alloc o2).heap.size) :
  ∃ V',WI (w5.setCell ⟨Wb,5,none⟩ (.slice a5 (s.want.length+1) c5)) Wb B V' { s with outs:=s.outs++[xs],want:=s.want++[xs] }∧cJ w (w5.setCell ⟨Wb,5,none⟩ (.slice a5 (s.want.length+1) c5)) B V V' s { s with outs:=s.outs++[xs],want:=s.want++[xs] }∧V'.vos=V.vos++[.slice a xs.length c]∧dq w (w5.setCell ⟨Wb,5,none⟩ (.slice a5 (s.want.length+1) c5)) Wb V V' (.slice a xs.length c):=by
 have H2:=H.below hb2
 have ho3:Sk w2 (w3.setCell ⟨Wb,4,none⟩ (.slice a3 (s.outs.length+1) c3)) B (V.vo s):=GS o1 (GW (GU hg3) (Eb HR3 4 _))
 have sz1:w2.heap.size≤(w2.alloc o1).heap.size:=by simp
 have I3:WI (w3.setCell ⟨Wb,4,none⟩ (.slice a3 (s.outs.length+1) c3)) Wb B { V with ao:=a3,co:=c3,vos:=V.vos++[.slice a xs.length c] } { s with outs:=s.outs++[xs] }:=by
  refine H2.setOuts ho3 a3 c3 (s.outs++[xs]) (V.vos++[.slice a xs.length c]) ?_ ?_ ?_ ?_ ?_ ?_
  ·rw[Ar];exact HR3.set 4 _
  ·rw[Ar];exact Cl HR3 4 _ By HO3
  ·exact Aq.snoc (H2.oe.map (fun _ _ _ _ hh=>ho3 _ _ _ _ Bm hh (AL Fq hh H2.ot))) (ho3 _ _ _ _ Bm HL2 (AL Fq HL2 H2.ot))
  ·intro u hu
   rcases List.mem_append.1 hu with hu | hu
   ·exact H2.b2 u hu
   ·simp at hu;subst hu;exact HAP
  ·rw[Ar];exact Ca H2.clt H2.a1 sz1 hh3
  ·rw[Ar];exact(Ca H2.wt H2.a3.symm sz1 hh3).symm
 have ho5:Sk (w3.setCell ⟨Wb,4,none⟩ (.slice a3 (s.outs.length+1) c3)) (w5.setCell ⟨Wb,5,none⟩ (.slice a5 (s.want.length+1) c5)) B (V.vw s):=GS o2 (GW (GU hg5) (Eb HR5 5 _))
 have sz2:(w3.setCell ⟨Wb,4,none⟩ (.slice a3 (s.outs.length+1) c3)).heap.size≤((w3.setCell ⟨Wb,4,none⟩ (.slice a3 (s.outs.length+1) c3)).alloc o2).heap.size:=by simp
 have hC3:=ho3 _ _ _ _ Bm HC (AL Fq HC H2.ot)
 refine⟨{ V with ao:=a3,co:=c3,vos:=V.vos++[.slice a xs.length c],aw:=a5,cw:=c5,vws:=V.vws++[.slice (some ⟨w.heap.size,0,none⟩) xs.length xs.length] },?_,⟨rfl,rfl,?_,?_,rfl,⟨rfl,rfl,rfl,rfl⟩,?_⟩,rfl,?_⟩
 ·refine I3.setWant ho5 a5 c5 (s.want++[xs]) (V.vws++[.slice (some ⟨w.heap.size,0,none⟩) xs.length xs.length]) ?_ ?_ ?_ ?_ ?_ ?_
  ·have:=HR5.set 5 (.slice a5 (s.want.length+1) c5)
   simp only[WV.cells,WV.vo,WV.vl,WV.vc,WV.vt,WV.vx,WV.vw,Ar]
   exact this
  ·rw[Ar];exact Cl HR5 5 _ By HO5
  ·exact Aq.snoc (I3.we.map (fun _ _ _ _ hh=>ho5 _ _ _ _ Bm hh (AL Fq hh I3.wt))) (ho5 _ _ _ _ Bm hC3 (AL Fq hC3 I3.wt))
  ·intro u hu
   rcases List.mem_append.1 hu with hu | hu
   ·exact I3.b3 u hu
   ·simp at hu;subst hu;exact La H.list (Nat.le_refl _) _ _
  ·rw[Ar];exact Ca I3.clt I3.a2 sz2 hh5
  ·rw[Ar]
   have:=Ca I3.ot I3.a3 sz2 hh5
   simpa only [WV.vo,Ar] using this
 ·intro e u n zs he hu h1 h2
  have u2:=AK hu hb2
  have u3:=ho3 _ _ _ _ he u2 h1
  refine⟨ho5 _ _ _ _ he u3 h2,?_,?_⟩
  ·show Af u (.slice a3 (s.outs++[xs]).length c3)
   rw[Ar];exact Ca u2 h1 sz1 hh3
  ·show Af u (.slice a5 (s.want++[xs]).length c5)
   rw[Ar];exact Ca u3 h2 sz2 hh5
 ·have hBs:B≤w.heap.size:=Nat.le_trans H.base (Nat.le_of_lt H.blk.lt)
  have b2:Below B w w2:=hb2.mono hBs
  have b2a:Below B w (w2.alloc o1):=b2.alloc (Nat.le_trans hBs b2.size) _
  have b3:=(b2a.grown hg3 (Nat.le_trans hBs b2a.size) (fun k hk=>(H2.ot.lt k hk).1)).setCell (p:=⟨Wb,4,none⟩) H.base (.slice a3 (s.outs.length+1) c3)
  have b3a:=b3.alloc (Nat.le_trans hBs b3.size) o2
  exact(b3a.grown hg5 (Nat.le_trans hBs b3a.size) (fun k hk=>(H.wt.lt k hk).1)).setCell (p:=⟨Wb,5,none⟩) H.base _
 ·intro v hv
  rcases List.mem_append.1 hv with hv | hv
  ·exact .inl hv
  ·simp at hv;subst hv;exact .inr ⟨_,_,_,Nat.le_refl _,rfl⟩
 ·intro b h1 h2 h3 h4
  have e3:(w3.setCell ⟨Wb,4,none⟩ (.slice a3 (s.outs.length+1) c3)).heap[b]?=w.heap[b]?:=GO (a:=V.ao) (n:=s.outs.length) (c:=V.co) hb2 hg3 4 _ h1 h2 h3.o
  have zs2:=hb2.size
  have zs3:(w2.alloc o1).heap.size≤w3.heap.size:=hg3.size
  have zs4:(w3.setCell ⟨Wb,4,none⟩ (.slice a3 (s.outs.length+1) c3)).heap.size=w3.heap.size:=by simp[World.setCell]
  simp only[World.size_alloc] at zs3
  have e5:(w5.setCell ⟨Wb,5,none⟩ (.slice a5 (s.want.length+1) c5)).heap[b]?=(w3.setCell ⟨Wb,4,none⟩ (.slice a3 (s.outs.length+1) c3)).heap[b]?:=GO (a:=V.aw) (n:=s.want.length) (c:=V.cw) (Below.refl _ _) hg5 5 _ (by omega) h2 h3.w
  refine⟨e5.trans e3,h3.l,h3.c,h3.t,h3.x,RX (n:=s.outs.length) (c:=V.co) h3.o hh3 (by simp;omega),RX (n:=s.want.length) (c:=V.cw) h3.w hh5 (by simp;omega),h3.cs,?_,?_⟩
  ·intro u hu
   rcases List.mem_append.1 hu with hu | hu
   ·exact h3.os u hu
   ·simp at hu;subst hu;exact h4
  ·intro u hu
   rcases List.mem_append.1 hu with hu | hu
   ·exact h3.ws u hu
   ·simp at hu;subst hu
    simp only[Value.ownBlock,ne_eq,Option.some.injEq]
    omega
set_option maxHeartbeats 4000000 in
theorem Qn(Wb B:Nat)(V:WV)(s:St)(w:World)(h:WI w Wb B V s)(a:Option Addr)(c:Nat)(xs:List Int)(hl:w.ownsRow B 3 1 (.slice a xs.length c) xs.length (AO xs))(hap:Af (.slice a xs.length c) (V.vl s))
  (hx:xs.length≤4294967296) (ho:s.outs.length≤4294967296) (hw:s.want.length≤4294967296) :
  Calls Tryz.prog 48 #[.pointer (some ⟨Wb,0,none⟩),.slice a xs.length c] w fun e w'=>e=.returned (.tuple #[])∧∃ V',WI w' Wb B V' { s with outs:=s.outs++[xs],want:=s.want++[xs] }∧cJ w w' B V V' s { s with outs:=s.outs++[xs],want:=s.want++[xs] }∧V'.vos=V.vos++[.slice a xs.length c]∧dq w w' Wb V V' (.slice a xs.length c):=by
 obtain⟨i0,hi,hz0,hz1,hz2⟩:=info_parts Tryz.infoInt
 obtain⟨i1,gi,gz0,gz1,gz2⟩:=info_parts Tryz.infoInts
 have b2:Hid (i0.bytes*xs.length≤281474976710656):=by show _≤_;rw[hz2];omega
 have b3:Hid (xs.length≤maxLen):=by show _≤_;unfold maxLen;omega
 have hsz:Hid ((Tryz.prog.info? 3).map (·.size)=some 1):=by show _=_;rw[hi];simp[hz1]
 have hBs:B≤w.heap.size:=Nat.le_trans h.base (Nat.le_of_lt h.blk.lt)
 have hr:=BF hl
 have d1:Hid (s.outs.length+1≤maxLen):=by show _≤_;unfold maxLen;omega
 have d2:Hid ((s.outs.length+1)*24≤140737488355328):=by show _≤_;omega
 have d3:Hid (s.want.length+1≤maxLen):=by show _≤_;unfold maxLen;omega
 have d4:Hid ((s.want.length+1)*24≤140737488355328):=by show _≤_;omega
 have H:=AB h
 have HL:=AB hl
 have HAP:=AB hap
 clear h hl hap
 go_enter Tryz.func48,Tryz.ntmps48
 go_wp2_with (first
  | (at_make;refine wpList_make_full _ rfl (.tmp 8) (.tmp 8) 24 rfl w.heap.size 3 i0 (.int .i64 0) 1 Tryz.undInts hi hz0 hz1 .i64 .i64 _ _ xs.length rfl rfl rfl rfl b2.out b3.out (Nat.le_refl _) ?_;intro w1 hown1 hg1;have hrow1:=KF hown1;rw[M9] at hrow1;have hb1:Below w.heap.size w w1:=(Below.refl _ _).grown hg1 (Nat.le_refl _) (by simp);have hr1:=hr.below hb1;clear hown1 hg1 hr)
  | (refine wpList_copy_splice rfl (.tmp 10) (.tmp 11) 24 24 rfl 3 Tryz.undInts hsz.out _ _ _ _ _ _ rfl rfl w.heap.size 0 (List.replicate xs.length (.int .i64 0)) 3 hrow1 (AO xs) (by rw[Az];exact(Nat.min_self _).symm) (fun hp=>⟨rfl,Mq hr1 hp⟩) (by rw[Az,List.length_replicate];omega) (Kh xs) w.heap.size w hb1 (Nat.le_refl _) ?_;intro w2 hrow2 hb2;clear hrow1 hb1 hr1;
        have H2:Hid (WI w2 Wb B V s):=H.out.below hb2;
        have HC:=AB (Xy hrow2 hBs b3.out);
        have HL2:Hid (w2.ownsRow B 3 1 (.slice a xs.length c) xs.length (AO xs)):=AK HL.out hb2;
        have HB2:=AB hb2;
        have f4:w2.cell? ⟨Wb,4,none⟩=some (.slice V.ao s.outs.length V.co):=(H2.out.blk.cell 4).trans rfl;
        have f4':=H2.out.blk.frozen 4;
        have f5:w2.cell? ⟨Wb,5,none⟩=some (.slice V.aw s.want.length V.cw):=(H2.out.blk.cell 5).trans rfl;
        have f5':=H2.out.blk.frozen 5;clear hrow2 hb2)
  | (at_builtin;refine IG _ rfl (.tmp 16) (.tmp 18) 30 rfl B 24 i1 (.slice none 0 0) 24 Tryz.undLists gi gz0 gz1 gz2 rfl (.slice V.ao s.outs.length V.co) s.outs.length V.vos rfl (H2.out.ot.alloc _) ⟨w2.heap.size,0,none⟩ 1 1 [.slice a xs.length c] rfl rfl (AH w2 [.slice a xs.length c] 24) (by intro u hu;simp at hu;subst hu;rfl) (by decide) d1.out d2.out (by simp;exact Nat.le_succ_of_le (Nat.le_trans hBs HB2.out.size)) (s.outs.length+1) rfl ?_;intro a3 c3 w3 hown3 hg3 hwh3;
        have HX3:=AB hg3;
        have HR3:Hid (AY w3 Wb 34 (V.cells s)):=B8 (AF H2.out.blk ((Below.refl _ _).alloc (Nat.le_refl _) _)) (H2.out.ot.alloc _) By hg3;
        have g4:w3.cell? ⟨Wb,4,none⟩=some (.slice V.ao s.outs.length V.co):=(HR3.out.cell 4).trans rfl;
        have g4':=HR3.out.frozen 4;
        have g5:w3.cell? ⟨Wb,5,none⟩=some (.slice V.aw s.want.length V.cw):=(HR3.out.cell 5).trans rfl;
        have g5':=HR3.out.frozen 5;
        have hz3:B≤w3.heap.size:=Nat.le_trans hBs (Nat.le_trans HB2.out.size (Nat.le_trans (by simp) hg3.size));
        have HH3:=AB hwh3;
        have HO3:=AB hown3;
        have HO3':Hid True:=trivial;clear hown3 hg3 hwh3)
  | (at_builtin;have _t:=HO3';refine IG _ rfl (.tmp 27) (.tmp 29) 30 rfl B 24 i1 (.slice none 0 0) 24 Tryz.undLists gi gz0 gz1 gz2 rfl (.slice V.aw s.want.length V.cw) s.want.length V.vws rfl (Sd H2.out HX3.out HR3.out (.slice a3 (s.outs.length+1) c3) _) ⟨w3.heap.size,0,none⟩ 1 1 [.slice (some ⟨w.heap.size,0,none⟩) xs.length xs.length] rfl rfl (FY (w3.setCell ⟨Wb,4,none⟩ (.slice a3 (s.outs.length+1) c3)) w3.heap.size (by simp[World.setCell]) [.slice (some ⟨w.heap.size,0,none⟩) xs.length xs.length] 24) (by intro u hu;simp at hu;subst hu;rfl) (by decide) d3.out d4.out (by simp[World.setCell];omega) (s.want.length+1) rfl ?_;intro a5 c5 w5 hown5 hg5 hwh5;
        have HR4:Hid (AY (w3.setCell ⟨Wb,4,none⟩ (.slice a3 (s.outs.length+1) c3)) Wb 34 ((V.cells s).set 4 (.slice a3 (s.outs.length+1) c3))):=HR3.out.set 4 _;
        have HR5:Hid (AY w5 Wb 34 ((V.cells s).set 4 (.slice a3 (s.outs.length+1) c3))):=B8 (AF HR4.out ((Below.refl _ _).alloc (Nat.le_refl _) _)) (Sd H2.out HX3.out HR3.out (.slice a3 (s.outs.length+1) c3) _) By hg5;
        have q5:w5.cell? ⟨Wb,5,none⟩=some (.slice V.aw s.want.length V.cw):=(HR5.out.cell 5).trans rfl;
        have q5':=HR5.out.frozen 5;
        have HG5:=AB hg5;
        have HH5:=AB hwh5;
        have HO5:=AB hown5;clear hown5 hg5 hwh5 HO3'))
 go_end0
 exact⟨rfl,YF H.out HB2.out HL2.out HC.out HAP.out HX3.out HR3.out HO3.out HH3.out HG5.out HR5.out HO5.out HH5.out⟩
end Go.Proofs.YthboeppmlhbofaaGreatDoor
