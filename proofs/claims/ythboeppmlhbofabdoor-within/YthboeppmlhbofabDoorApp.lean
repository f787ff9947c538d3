import Derived.Test.YthboeppmlhbofabDoorLtx
import Derived.Deep.RegionHeld3
namespace Go.Proofs.YthboeppmlhbofabDoor
open Go.RowKit
theorem append_lies{P:Program}{w:World}{base:Nat}{t ty e:TypeId}{i:TypeInfo}{z:Value}(ht:P.underlying t=some (.slice e))(hi:P.info? e=some i)(hz:i.zero=some z)
  {v:Value} {n:Nat} {xs:List Value} (hown:w.ownsRow base e i.size v n xs) {a:Addr} {m c:Nat} {news:List Value} (hl:news.length=m*i.size)
  (hnews:∀ j u,news[j]?=some u→w.cell? (a.add j)=some u) (h1:∀ u∈news,u.oneCell'=true) (h63:n+m≤maxLen) (hbytes:(n+m)*i.bytes≤140737488355328)
  {v':Value} {w':World} (hr:(Builtin.append_ #[t,t] ty #[v,.slice (some a) m c]).run P w=.ok v' w') (hm:0<m) :
  ∃ a' c',v'=.slice a' (n+m) c'∧(v=.slice a' n c'∨a'=some ⟨w.heap.size,0,none⟩∧w.grownBy w' none):=by
 have hsmall:n+m≤9223372036854775807:=by simp only[maxLen] at h63;omega
 rcases hown.2 with⟨rfl,rfl⟩ | ⟨g,cap,cur,rfl,hbg,hg,hnc,hcm,hcs,htake⟩
 ·have h2:=run_append_nil (P:=P) w t ty e i z ht hi hz a m c news hl hnews (by omega) (by omega) (by have hb:=hbytes;simp only[Nat.zero_add] at hb;omega)
  rw[h2] at hr
  cases hr
  exact⟨_,_,by rw[Nat.zero_add],.inr ⟨rfl,⟨rfl,rfl,rfl,by simp,fun k hk _=>heap_alloc_old w.drew _ hk⟩⟩⟩
 ·by_cases hroom:n+m≤cap
  ·have hfit:n*i.size+news.length≤cur.size:=by rw[hl,hcs,← Nat.add_mul];exact Nat.mul_le_mul_right _ hroom
   have h2:=run_append_room (P:=P) w t ty e i ht hi g n cap cur hg a m c news hl hnews h1 hroom hfit
   rw[h2] at hr
   cases hr
   exact⟨_,_,rfl,.inl rfl⟩
  ·have h2:=run_append_grow (P:=P) w t ty e i z ht hi hz ⟨g,0,none⟩ n cap xs hown.1 (hown.cells (g:=g) rfl) a m c news hl hnews (by omega) (by omega) (growslice_fits (by omega) hbytes)
   rw[h2] at hr
   cases hr
   exact⟨_,_,rfl,.inr ⟨rfl,⟨rfl,rfl,rfl,by simp,fun k hk _=>heap_alloc_old w.drew _ hk⟩⟩⟩
theorem wp_append_full{P:Program}(w:World){o:Oper}{a:Act}{K:Act→World→Prop}{Q:Exit→Act→World→Prop}(s x:Operand)(t:TypeId)
  (ho:o.op=.call { callee:=.builtin .append,args:=#[s,x],argTypes:=#[t,t] })
  (base:Nat) (e:TypeId) (i:TypeInfo) (z:Value) (bytes:Nat) (ht:P.underlying t=some (.slice e)) (hi:P.info? e=some i) (hz:i.zero=some z)
  (hsize:i.size=1) (hby:i.bytes=bytes) (hzs:z.cells.size=1)
  (v:Value) (n:Nat) (xs:List Value) (hs:a.eval s=v) (hown:w.ownsRow base e 1 v n xs)
  (ad:Addr) (m c:Nat) (news:List Value) (hx:a.eval x=.slice (some ad) m c) (hl:news.length=m) (hnews:∀ j u,news[j]?=some u→w.cell? (ad.add j)=some u) (h1:∀ u∈news,u.oneCell'=true)
  (hm:0<m) (h63:n+m≤maxLen) (hbytes:(n+m)*bytes≤140737488355328) (hbase:base≤w.heap.size) (H:Nat) (hH:w.heap.size=H)
  (h:∀ a' c' w',w'.ownsRow base e 1 (.slice a' (n+m) c') (n+m) (xs++news)→w.grownBy w' v.ownBlock→(v=.slice a' n c'∨a'=some ⟨H,0,none⟩∧w.grownBy w' none)→K (a.put o.dst (.slice a' (n+m) c')) w'):o.wp P a w K Q:=by
 obtain⟨v',w',hr,h2,h3,_⟩:=run_append_own (P:=P) w base t o.type e i z 1 bytes ht hi hz hsize hby hzs (by decide) v n xs hown ad m c news (by omega) hnews h1 h63 hbytes hbase
 obtain⟨a',c',rfl,h5⟩:=append_lies (P:=P) (w:=w) ht hi hz (by rw[hsize];exact hown) (by rw[hsize];omega) hnews h1 h63 (by rw[hby];exact hbytes) hr hm
 unfold Oper.wp execOp
 simp only[ho,resolve,invoke,builtin,Sem.run_bind,Sem.run_pure,Result.andThen_ok,List.map_toArray,List.map_cons,List.map_nil,hs,hx,hr]
 subst hH
 exact h a' c' w' h2 h3 h5
theorem wpList_append_full{P:Program}(w:World){ops:Array Oper}{rest:List Oper}{o:Oper}{a:Act}{Q:Exit→Act→World→Prop}(hgd:o.guard=none)(s x:Operand)(t:TypeId)
  (ho:o.op=.call { callee:=.builtin .append,args:=#[s,x],argTypes:=#[t,t] })
  (base:Nat) (e:TypeId) (i:TypeInfo) (z:Value) (bytes:Nat) (ht:P.underlying t=some (.slice e)) (hi:P.info? e=some i) (hz:i.zero=some z)
  (hsize:i.size=1) (hby:i.bytes=bytes) (hzs:z.cells.size=1)
  (v:Value) (n:Nat) (xs:List Value) (hs:a.eval s=v) (hown:w.ownsRow base e 1 v n xs)
  (ad:Addr) (m c:Nat) (news:List Value) (hx:a.eval x=.slice (some ad) m c) (hl:news.length=m) (hnews:∀ j u,news[j]?=some u→w.cell? (ad.add j)=some u) (h1:∀ u∈news,u.oneCell'=true)
  (hm:0<m) (h63:n+m≤maxLen) (hbytes:(n+m)*bytes≤140737488355328) (hbase:base≤w.heap.size) (H:Nat) (hH:w.heap.size=H)
  (h:∀ a' c' w',w'.ownsRow base e 1 (.slice a' (n+m) c') (n+m) (xs++news)→w.grownBy w' v.ownBlock→(v=.slice a' n c'∨a'=some ⟨H,0,none⟩∧w.grownBy w' none)→wpList P ops Q rest (a.put o.dst (.slice a' (n+m) c')) w'):wpList P ops Q (o :: rest) a w :=
 wpList_plain hgd fun _ hK=>wp_append_full w s x t ho base e i z bytes ht hi hz hsize hby hzs v n xs hs hown ad m c news hx hl hnews h1 hm h63 hbytes hbase H hH fun a' c' w' h2 h3 h4=>hK _ _ (h a' c' w' h2 h3 h4)
theorem step_append_full{P:Program}(w:World){ops:Array Oper}{o:Oper}{a:Act}{K:Act→World→Prop}{Q:Exit→Act→World→Prop}{E:Prop}(hgd:o.guard=none)(s x:Operand)(t:TypeId)
  (ho:o.op=.call { callee:=.builtin .append,args:=#[s,x],argTypes:=#[t,t] })
  (base:Nat) (e:TypeId) (i:TypeInfo) (z:Value) (bytes:Nat) (ht:P.underlying t=some (.slice e)) (hi:P.info? e=some i) (hz:i.zero=some z)
  (hsize:i.size=1) (hby:i.bytes=bytes) (hzs:z.cells.size=1)
  (v:Value) (n:Nat) (xs:List Value) (hs:a.eval s=v) (hown:w.ownsRow base e 1 v n xs)
  (ad:Addr) (m c:Nat) (news:List Value) (hx:a.eval x=.slice (some ad) m c) (hl:news.length=m) (hnews:∀ j u,news[j]?=some u→w.cell? (ad.add j)=some u) (h1:∀ u∈news,u.oneCell'=true)
  (hm:0<m) (h63:n+m≤maxLen) (hbytes:(n+m)*bytes≤140737488355328) (hbase:base≤w.heap.size) (H:Nat) (hH:w.heap.size=H)
  (h:∀ a' c' w',w'.ownsRow base e 1 (.slice a' (n+m) c') (n+m) (xs++news)→w.grownBy w' v.ownBlock→(v=.slice a' n c'∨a'=some ⟨H,0,none⟩∧w.grownBy w' none)→K (a.put o.dst (.slice a' (n+m) c')) w') :
  if Region.wanted o (yielded ops a.tmps)=true then Oper.wp P o a w K Q else E:=by
 have hw:Region.wanted o (yielded ops a.tmps)=true:=by simp[Region.wanted,hgd]
 rw[if_pos hw]
 exact wp_append_full w s x t ho base e i z bytes ht hi hz hsize hby hzs v n xs hs hown ad m c news hx hl hnews h1 hm h63 hbytes hbase H hH h
theorem lies_own{v:Value}{a':Option Addr}{n N c' H:Nat}{p:Prop}(h:v=.slice a' n c'∨a'=some ⟨H,0,none⟩∧p):(Value.slice a' N c').ownBlock=v.ownBlock∨(Value.slice a' N c').ownBlock=some H:=by
 rcases h with rfl | ⟨rfl,_⟩
 ·left
  cases a' <;> rfl
 ·exact .inr rfl
theorem own_short{w w':World}{base e:Nat}{v:Value}{n m c' H:Nat}{a':Option Addr}{xs news:List Value}(hv:w.ownsRow base e 1 v n xs)(hm:news.length=m)(h:w'.ownsRow base e 1 (.slice a' (n+m) c') (n+m) (xs++news))
  (hl:v=.slice a' n c'∨a'=some ⟨H,0,none⟩∧w.grownBy w' none):w'.ownsRow base e 1 v n xs:=by
 have hxl:xs.length=n:=by have:=hv.1;omega
 rcases hl with rfl | ⟨_,hg⟩
 ·refine⟨hv.1,?_⟩
  rcases h.2 with⟨h0,_⟩ | ⟨g,cap,cur,h0,h1,h2,h3,h4,h5,h6⟩
  ·simp only[Value.slice.injEq] at h0
   obtain⟨rfl,h7,rfl⟩:=h0
   have:n=0:=by omega
   subst this
   exact .inl ⟨rfl,rfl⟩
  ·simp only[Value.slice.injEq] at h0
   obtain⟨rfl,_,rfl⟩:=h0
   refine .inr ⟨g,c',cur,rfl,h1,h2,by omega,h4,h5,?_⟩
   have:=congrArg (List.take n) h6
   rw[List.take_take,Nat.min_eq_left (by omega),List.take_left' hxl] at this
   rw[Nat.mul_one]
   exact this
 ·exact own_none_kept hv hg
theorem wp_append_many{P:Program}(w:World){o:Oper}{a:Act}{K:Act→World→Prop}{Q:Exit→Act→World→Prop}(s x:Operand)(t:TypeId)
  (ho:o.op=.call { callee:=.builtin .append,args:=#[s,x],argTypes:=#[t,t] })
  (base:Nat) (e:TypeId) (i:TypeInfo) (z:Value) (size bytes:Nat) (ht:P.underlying t=some (.slice e)) (hi:P.info? e=some i) (hz:i.zero=some z)
  (hsize:i.size=size) (hby:i.bytes=bytes) (hzs:z.cells.size=size) (hpos:0<size)
  (v:Value) (n:Nat) (xs:List Value) (hs:a.eval s=v) (hown:w.ownsRow base e size v n xs)
  (ad:Addr) (m c:Nat) (news:List Value) (hx:a.eval x=.slice (some ad) m c) (hl:news.length=m*size) (hnews:∀ j u,news[j]?=some u→w.cell? (ad.add j)=some u) (h1:∀ u∈news,u.oneCell'=true)
  (hm:0<m) (h63:n+m≤maxLen) (hbytes:(n+m)*bytes≤140737488355328) (hbase:base≤w.heap.size) (H:Nat) (hH:w.heap.size=H)
  (h:∀ a' c' w',w'.ownsRow base e size (.slice a' (n+m) c') (n+m) (xs++news)→w.grownBy w' v.ownBlock→(v=.slice a' n c'∨a'=some ⟨H,0,none⟩∧w.grownBy w' none)→K (a.put o.dst (.slice a' (n+m) c')) w'):o.wp P a w K Q:=by
 obtain⟨v',w',hr,h2,h3,_⟩:=run_append_own (P:=P) w base t o.type e i z size bytes ht hi hz hsize hby hzs hpos v n xs hown ad m c news hl hnews h1 h63 hbytes hbase
 obtain⟨a',c',rfl,h5⟩:=append_lies (P:=P) (w:=w) ht hi hz (by rw[hsize];exact hown) (by rw[hsize];exact hl) hnews h1 h63 (by rw[hby];exact hbytes) hr hm
 unfold Oper.wp execOp
 simp only[ho,resolve,invoke,builtin,Sem.run_bind,Sem.run_pure,Result.andThen_ok,List.map_toArray,List.map_cons,List.map_nil,hs,hx,hr]
 subst hH
 exact h a' c' w' h2 h3 h5
theorem step_append_many{P:Program}(w:World){ops:Array Oper}{o:Oper}{a:Act}{K:Act→World→Prop}{Q:Exit→Act→World→Prop}{E:Prop}(hgd:o.guard=none)(s x:Operand)(t:TypeId)
  (ho:o.op=.call { callee:=.builtin .append,args:=#[s,x],argTypes:=#[t,t] })
  (base:Nat) (e:TypeId) (i:TypeInfo) (z:Value) (size bytes:Nat) (ht:P.underlying t=some (.slice e)) (hi:P.info? e=some i) (hz:i.zero=some z)
  (hsize:i.size=size) (hby:i.bytes=bytes) (hzs:z.cells.size=size) (hpos:0<size)
  (v:Value) (n:Nat) (xs:List Value) (hs:a.eval s=v) (hown:w.ownsRow base e size v n xs)
  (ad:Addr) (m c:Nat) (news:List Value) (hx:a.eval x=.slice (some ad) m c) (hl:news.length=m*size) (hnews:∀ j u,news[j]?=some u→w.cell? (ad.add j)=some u) (h1:∀ u∈news,u.oneCell'=true)
  (hm:0<m) (h63:n+m≤maxLen) (hbytes:(n+m)*bytes≤140737488355328) (hbase:base≤w.heap.size) (H:Nat) (hH:w.heap.size=H)
  (h:∀ a' c' w',w'.ownsRow base e size (.slice a' (n+m) c') (n+m) (xs++news)→w.grownBy w' v.ownBlock→(v=.slice a' n c'∨a'=some ⟨H,0,none⟩∧w.grownBy w' none)→K (a.put o.dst (.slice a' (n+m) c')) w') :
  if Region.wanted o (yielded ops a.tmps)=true then Oper.wp P o a w K Q else E:=by
 have hw:Region.wanted o (yielded ops a.tmps)=true:=by simp[Region.wanted,hgd]
 rw[if_pos hw]
 exact wp_append_many w s x t ho base e i z size bytes ht hi hz hsize hby hzs hpos v n xs hs hown ad m c news hx hl hnews h1 hm h63 hbytes hbase H hH h
open Go.RowKit Txt
def off(a:Option Addr)(b:Nat):Prop:=∀ g,a=some g→g.block≠b
theorem off_nil(b:Nat):off none b:=fun _ h=>by simp at h
theorem off_own{a:Option Addr}{b:Nat}(h:off a b)(n c:Nat):some b≠(Value.slice a n c).ownBlock:=by
 cases a with
 | none=>simp[Value.ownBlock]
 | some g=>intro e;simp only[Value.ownBlock,Option.some.injEq] at e;exact h g rfl e.symm
theorem off_new{k b:Nat}(h:b<k):off (some ⟨k,0,none⟩) b:=fun g e=>by
 simp only[Option.some.injEq] at e
 subst e
 show k≠b
 omega
theorem off_moved{a a3:Option Addr}{b n c n' c3 k:Nat}{p:Prop}(h:off a b)(hl:Value.slice a n c=.slice a3 n' c3∨a3=some ⟨k,0,none⟩∧p)(hk:b<k):off a3 b:=by
 rcases hl with e | ⟨rfl,_⟩
 ·simp only[Value.slice.injEq] at e
  obtain⟨rfl,_⟩:=e
  exact h
 ·exact off_new hk
structure WV.Free(V:WV)(b:Nat):Prop where
 l:off V.al b
 c:off V.ac b
 t:off V.at_ b
 x:off V.ax b
 o:off V.ao b
 w:off V.aw b
 cs:∀ u∈V.vcs,u.ownBlock≠some b
 os:∀ u∈V.vos,u.ownBlock≠some b
 ws:∀ u∈V.vws,u.ownBlock≠some b
def Frm(w w':World)(Wb:Nat)(V V':WV):Prop:=∀ b,b<w.heap.size→b≠Wb→V.Free b→w'.heap[b]?=w.heap[b]?∧V'.Free b
theorem Frm.trans{w w1 w2:World}{Wb:Nat}{V V1 V2:WV}(h:Frm w w1 Wb V V1)(hs:w.heap.size≤w1.heap.size)(h':Frm w1 w2 Wb V1 V2):Frm w w2 Wb V V2:=fun b hb hn hf =>
 let ⟨e1,f1⟩:=h b hb hn hf
 let ⟨e2,f2⟩:=h' b (Nat.lt_of_lt_of_le hb hs) hn f1
 ⟨e2.trans e1,f2⟩
theorem Frm.of{w w':World}(Wb:Nat)(V:WV)(h:Below w.heap.size w w'):Frm w w' Wb V V:=fun b hb _ hf=>⟨h.block b hb,hf⟩
theorem Frm.pre{w w1 w2:World}{Wb:Nat}{V V2:WV}(h:Below w.heap.size w w1)(h':Frm w1 w2 Wb V V2):Frm w w2 Wb V V2:=(Frm.of Wb V h).trans h.size h'
theorem Frm.set{w w':World}{Wb:Nat}{V V':WV}(h:Frm w w' Wb V V')(i:Nat)(x:Value):Frm w (w'.setCell ⟨Wb,i,none⟩ x) Wb V V':=fun b hb hn hf =>
 let ⟨e,f⟩:=h b hb hn hf
 ⟨(Below.heap_setCell w' ⟨Wb,i,none⟩ x b hn).trans e,f⟩
theorem grow_kept{w0 w w3:World}{o:Obj}{a:Option Addr}{n c b Wb:Nat}(hb:Below w0.heap.size w0 w)(hg:(w.alloc o).grownBy w3 (Value.slice a n c).ownBlock)(i:Nat)(x:Value)(h1:b<w0.heap.size)(h2:b≠Wb)(h3:off a b):(w3.setCell ⟨Wb,i,none⟩ x).heap[b]?=w0.heap[b]?:=by
 have hs:=hb.size
 exact(Below.heap_setCell w3 ⟨Wb,i,none⟩ x b h2).trans ((hg.block b (by simp;omega) (off_own h3 n c)).trans ((heap_alloc_old w o (by omega)).trans (hb.block b h1)))
theorem own_off{a:Option Addr}{b n c:Nat}(h:(Value.slice a n c).ownBlock≠some b):off a b:=fun g e e'=>by
 subst e
 exact h (by simp[Value.ownBlock,e'])
theorem off_lies{a a3:Option Addr}{b n c n3 c3 k:Nat}(h:off a b)(hh:(Value.slice a3 n3 c3).ownBlock=(Value.slice a n c).ownBlock∨(Value.slice a3 n3 c3).ownBlock=some k)(hk:b<k):off a3 b:=by
 refine own_off (n:=n3) (c:=c3) (fun e=>?_)
 rcases hh with q | q
 ·rw[q] at e;exact off_own h n c e.symm
 ·rw[q,Option.some.injEq] at e;omega
def HFr(w w':World)(Wb:Nat)(V V':WV)(v:Value):Prop:=∀ b,b<w.heap.size→b≠Wb→V.Free b→v.ownBlock≠some b→w'.heap[b]?=w.heap[b]?∧V'.Free b
def KFr(w w':World)(Wb:Nat)(V V':WV)(vs:List Value):Prop:=∀ b,b<w.heap.size→b≠Wb→V.Free b→(∀ u∈vs,u.ownBlock≠some b)→w'.heap[b]?=w.heap[b]?∧V'.Free b
theorem KFr.set{w w':World}{Wb:Nat}{V V':WV}{vs:List Value}(h:KFr w w' Wb V V' vs)(i:Nat)(x:Value):KFr w (w'.setCell ⟨Wb,i,none⟩ x) Wb V V' vs:=fun b h1 h2 h3 h4 =>
 ⟨(Below.heap_setCell w' ⟨Wb,i,none⟩ x b h2).trans (h b h1 h2 h3 h4).1,(h b h1 h2 h3 h4).2⟩
theorem KFr.put{w w':World}{Wb g:Nat}{V V':WV}{vs:List Value}{u:Value}(h:KFr w w' Wb V V' vs)(hu:u∈vs)(hg:u.ownBlock=some g)(i:Nat)(x:Value):KFr w (w'.setCell ⟨g,i,none⟩ x) Wb V V' vs:=fun b h1 h2 h3 h4 =>
 ⟨(Below.heap_setCell w' ⟨g,i,none⟩ x b (fun e=>h4 u hu (by rw[hg];exact congrArg some e.symm))).trans (h b h1 h2 h3 h4).1,(h b h1 h2 h3 h4).2⟩
theorem KFr.grown{w w1 w2:World}{Wb:Nat}{V V':WV}{vs:List Value}{u:Value}{o:Obj}(h:KFr w w1 Wb V V' vs)(hs:w.heap.size≤w1.heap.size)(hu:u∈vs)(hg:(w1.alloc o).grownBy w2 u.ownBlock):KFr w w2 Wb V V' vs:=fun b h1 h2 h3 h4 =>
 ⟨(hg.block b (by simp;omega) (fun e=>h4 u hu e.symm)).trans ((heap_alloc_old w1 o (by omega)).trans (h b h1 h2 h3 h4).1),(h b h1 h2 h3 h4).2⟩
theorem KFr.held{w w1 w2:World}{Wb:Nat}{V V1 V2:WV}{vs:List Value}{v:Value}(h:KFr w w1 Wb V V1 vs)(hs:w.heap.size≤w1.heap.size)(hh:HFr w1 w2 Wb V1 V2 v)(hv:∀ b,b<w.heap.size→(∀ u∈vs,u.ownBlock≠some b)→v.ownBlock≠some b):KFr w w2 Wb V V2 vs:=fun b h1 h2 h3 h4 =>
 let ⟨e1,f1⟩:=h b h1 h2 h3 h4
 let ⟨e2,f2⟩:=hh b (by omega) h2 f1 (hv b h1 h4)
 ⟨e2.trans e1,f2⟩
structure Bd(n:Nat)(s:St):Prop where
 list:s.list.length≤n
 cls:s.clauses.length≤n+1000
 cl1:∀ c∈s.clauses,c.length≤17384
 txs:s.texts.length≤n
 tx1:∀ t∈s.texts,t.size≤4194304
 outs:s.outs.length≤2000*n
 out1:∀ c∈s.outs,c.length≤5000002
 mark:0≤s.mark∧s.mark≤6000000000*n
 same:s.outs=s.want
open Go.RowKit Txt
theorem splice_zero(xs:List Int):splice (List.replicate xs.length (.int .i64 0)) 0 (i64s xs)=i64s xs:=by
 simp only[splice,List.take_zero,List.nil_append,Nat.zero_add,i64s_length,List.drop_replicate,Nat.sub_self,List.replicate_zero,List.append_nil]
theorem own_of_row{w:World}{g B:Nat}{e:TypeId}{zs:List Value}(h:Row w g e zs)(hB:B≤g)(hz:zs.length≤maxLen):w.ownsRow B e 1 (.slice (some ⟨g,0,none⟩) zs.length zs.length) zs.length zs :=
 ⟨by simp,.inr ⟨g,zs.length,zs.toArray,rfl,hB,h,Nat.le_refl _,hz,by simp,by simp⟩⟩
theorem copy_own{w2:World}{g B:Nat}{xs:List Int}(h:Hid (w2.heap[g]?=some (.cells (splice (List.replicate xs.length (.int .i64 0)) 0 (i64s xs)).toArray 3 (0,0))))(hB:B≤g)(b3:xs.length≤maxLen) :
  w2.ownsRow B 3 1 (.slice (some ⟨g,0,none⟩) xs.length xs.length) xs.length (i64s xs):=by
 have hq:=own_of_row (B:=B) (show Row w2 g 3 (i64s xs) from(splice_zero xs) ▸ h.out) hB (by rw[i64s_length];exact b3)
 rw[i64s_length] at hq
 exact hq
theorem new_cells2(w:World)(k:Nat)(hk:w.heap.size=k)(l:List Value)(e:TypeId):∀ j u,l[j]?=some u→(w.alloc (.cells l.toArray e)).cell? ((⟨k,0,none⟩:Addr).add j)=some u:=by
 subst hk;exact new_cells1 w l e
theorem apart_new{w:World}{b e s:Nat}{u:Value}{n:Nat}{xs:List Value}(h:w.ownsRow b e s u n xs){k:Nat}(hk:w.heap.size≤k)(a c:Nat):Apart (.slice (some ⟨k,0,none⟩) a c) u:=by
 intro j hj hu
 simp only[Value.ownBlock,Option.some.injEq] at hj
 have:=(h.lt j hu).2
 omega
theorem snoc_len{α:Type}(l:List α)(x:α):(l++[x]).length=l.length+1:=by simp
end Go.Proofs.YthboeppmlhbofabDoor
