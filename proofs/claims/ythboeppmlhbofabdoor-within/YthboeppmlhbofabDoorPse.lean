import Derived.Test.YthboeppmlhbofabDoorPsb
import Derived.Laws.OwnMore
namespace Go.Proofs.YthboeppmlhbofabDoor
open Go.RowKit Txt
set_option maxRecDepth 100000
theorem Tryd.infoNode:(Tryd.prog.info? 103).map (fun i=>(i.zero,i.size,i.bytes))=some (some (.agg #[.int .i64 0,.int .i64 0,.int .i64 0,.int .i64 0,.int .i64 0]),5,40):=by kernel_rfl
theorem Tryd.undNodes:Tryd.prog.underlying 104=some (.slice 103):=by kernel_rfl
theorem u_nc:(103:Nat)≠106:=by decide
theorem wpList_append_many{P:Program}(w:World){ops:Array Oper}{rest:List Oper}{o:Oper}{a:Act}{Q:Exit→Act→World→Prop}(hgd:o.guard=none)(s x:Operand)(t:TypeId)
  (ho:o.op=.call { callee:=.builtin .append,args:=#[s,x],argTypes:=#[t,t] })
  (base:Nat) (e:TypeId) (i:TypeInfo) (z:Value) (size bytes:Nat) (ht:P.underlying t=some (.slice e)) (hi:P.info? e=some i) (hz:i.zero=some z)
  (hsize:i.size=size) (hby:i.bytes=bytes) (hzs:z.cells.size=size) (hpos:0<size)
  (v:Value) (n:Nat) (xs:List Value) (hs:a.eval s=v) (hown:w.ownsRow base e size v n xs)
  (ad:Addr) (m c:Nat) (news:List Value) (hx:a.eval x=.slice (some ad) m c) (hl:news.length=m*size) (hnews:∀ j u,news[j]?=some u→w.cell? (ad.add j)=some u) (h1:∀ u∈news,u.oneCell'=true)
  (hm:0<m) (h63:n+m≤maxLen) (hbytes:(n+m)*bytes≤140737488355328) (hbase:base≤w.heap.size) (H:Nat) (hH:w.heap.size=H)
  (h:∀ a' c' w',w'.ownsRow base e size (.slice a' (n+m) c') (n+m) (xs++news)→w.grownBy w' v.ownBlock→(v=.slice a' n c'∨a'=some ⟨H,0,none⟩∧w.grownBy w' none)→wpList P ops Q rest (a.put o.dst (.slice a' (n+m) c')) w'):wpList P ops Q (o :: rest) a w :=
 wpList_plain hgd fun _ hK=>wp_append_many w s x t ho base e i z size bytes ht hi hz hsize hby hzs hpos v n xs hs hown ad m c news hx hl hnews h1 hm h63 hbytes hbase H hH fun a' c' w' h2 h3 h4=>hK _ _ (h a' c' w' h2 h3 h4)
def Nd.nx(d:Nd):Nat→Nat
 | 0=>d.n0
 | 1=>d.n1
 | 2=>d.n2
 | _=>d.n3
def Nd.put(d:Nd)(k x:Nat):Nd:=match k with
 | 0=>{ d with n0:=x }
 | 1=>{ d with n1:=x }
 | 2=>{ d with n2:=x }
 | _=>{ d with n3:=x }
theorem Nd.cell_nx(d:Nd){k:Nat}(hk:k<4):d.cells[k]?=some (.int .i64 (d.nx k:Nat)):=by
 have:k=0∨k=1∨k=2∨k=3:=by omega
 rcases this with rfl|rfl|rfl|rfl <;> rfl
theorem Nd.cells_put(d:Nd){k:Nat}(hk:k<4)(x:Nat):(d.put k x).cells=d.cells.set k (.int .i64 (x:Nat)):=by
 have:k=0∨k=1∨k=2∨k=3:=by omega
 rcases this with rfl|rfl|rfl|rfl <;> rfl
theorem ndCells_set(l:List Nd):∀ (a:Nat),a<l.length→∀ (i:Nat),i<5→∀ (d':Nd) (u:Value),d'.cells=(l.getD a nd0).cells.set i u→(ndCells l).set (a*5+i) u=ndCells (l.set a d'):=by
 induction l with
 | nil=>intro a ha;simp at ha
 | cons p l ih =>
  intro a ha i hi d' u hd
  have e:ndCells (p :: l)=p.cells++ndCells l:=by simp[ndCells]
  have hl:p.cells.length=5:=rfl
  rw[e]
  cases a with
  | zero =>
   simp only[List.getD_cons_zero] at hd
   rw[Nat.zero_mul,Nat.zero_add,List.set_append_left _ _ (by rw[hl];exact hi),← hd]
   simp[ndCells]
  | succ a =>
   simp only[List.getD_cons_succ] at hd
   rw[List.set_append_right _ _ (by rw[hl];omega),hl,show(a+1)*5+i - 5=a*5+i by omega,ih a (by simpa using ha) i hi d' u hd]
   simp[ndCells]
theorem ndCells_len(l:List Nd):(ndCells l).length=l.length*5:=by
 induction l with
 | nil=>rfl
 | cons p l ih =>
  have e:ndCells (p :: l)=p.cells++ndCells l:=by simp[ndCells]
  have hl:p.cells.length=5:=rfl
  rw[e,List.length_append,hl,ih,List.length_cons];omega
theorem ndCells_snoc(l:List Nd):ndCells l++[.int .i64 0,.int .i64 0,.int .i64 0,.int .i64 0,.int .i64 0]=ndCells (l++[nd0]):=by simp[ndCells,nd0,Nd.cells]
def growN(ns:List Nd)(a k:Nat):List Nd × Nat:=if (ns.getD a nd0).nx k=0 then (ns.set a ((ns.getD a nd0).put k ns.length)++[nd0],ns.length) else (ns,(ns.getD a nd0).nx k)
structure TreeI(w:World)(B cb:Nat)(na:Option Addr)(nc:Nat)(ns:List Nd):Prop where
 row:Row w cb 106 [.slice na ns.length nc]
 own:w.ownsRow B 103 5 (.slice na ns.length nc) ns.length (ndCells ns)
 pos:0<ns.length
 base:B≤cb
structure TreeN(w w':World)(B cb:Nat)(na:Option Addr)(nc n:Nat)(na':Option Addr)(nc':Nat)(ns':List Nd):Prop where
 t:TreeI w' B cb na' nc' ns'
 kept:Kept w w' cb (.slice na n nc)
 lies:(Value.slice na' ns'.length nc').ownBlock=(Value.slice na n nc).ownBlock∨∃ k,w.heap.size≤k∧(Value.slice na' ns'.length nc').ownBlock=some k
theorem own_len{a:Option Addr}{n n' c c':Nat}:(Value.slice a n c).ownBlock=(Value.slice a n' c').ownBlock:=by cases a <;> rfl
theorem TreeI.below{w w':World}{B cb:Nat}{na:Option Addr}{nc:Nat}{ns:List Nd}(h:TreeI w B cb na nc ns)(hb:Below w.heap.size w w'):TreeI w' B cb na nc ns:=⟨row_below h.row hb,own_below h.own hb,h.pos,h.base⟩
theorem TreeN.of{w w':World}{B cb:Nat}{na:Option Addr}{nc:Nat}{ns:List Nd}(h:TreeI w B cb na nc ns)(hb:Below w.heap.size w w'):TreeN w w' B cb na nc ns.length na nc ns:=⟨h.below hb,Kept.of _ _ hb,.inl rfl⟩
theorem TreeN.trans{w w1 w2:World}{B cb n n1:Nat}{na na1 na2:Option Addr}{nc nc1 nc2:Nat}{ns1 ns2:List Nd}(h:TreeN w w1 B cb na nc n na1 nc1 ns1)(h':TreeN w1 w2 B cb na1 nc1 n1 na2 nc2 ns2):TreeN w w2 B cb na nc n na2 nc2 ns2:=by
 have e1:(Value.slice na1 n1 nc1).ownBlock=(Value.slice na1 ns1.length nc1).ownBlock:=own_len
 refine⟨h'.t,⟨h'.kept.os.trans h.kept.os,h'.kept.tape.trans h.kept.tape,h'.kept.output.trans h.kept.output,Nat.le_trans h.kept.size h'.kept.size,fun k hk hg hv=>(h'.kept.block k (Nat.lt_of_lt_of_le hk h.kept.size) hg (fun e=>?_)).trans (h.kept.block k hk hg hv)⟩,?_⟩
 ·rw[e1] at e
  rcases h.lies with l | ⟨q,hq,l⟩
  ·exact hv (l ▸ e)
  ·rw[l] at e;have:=Option.some.inj e;omega
 ·rcases h'.lies with l | ⟨q,hq,l⟩
  ·rw[e1] at l
   rcases h.lies with l' | l'
   ·exact .inl (l.trans l')
   ·obtain⟨q,hq,l'⟩:=l'
    exact .inr ⟨q,hq,l.trans l'⟩
  ·exact .inr ⟨q,Nat.le_trans h.kept.size hq,l⟩
set_option maxHeartbeats 4000000 in
theorem grow_old(w:World)(B cb:Nat)(na:Option Addr)(nc:Nat)(ns:List Nd)(h:TreeI w B cb na nc ns)(a k:Nat)(ha:a<ns.length)(hk:k<4)(hnz:(ns.getD a nd0).nx k≠0) :
  Calls Tryd.prog 63 #[.pointer (some ⟨cb,0,none⟩),.int .i64 a,.int .i64 k] w fun e w'=>e=.returned (.int .i64 ((ns.getD a nd0).nx k:Nat))∧w'=w:=by
 obtain⟨b,rfl,hb,hn⟩:=nodes_own h.own h.pos
 have c1:=hn a ha k _ (Nd.cell_nx _ hk)
 simp only[Nat.zero_add] at c1
 have c0:w.cell? ⟨cb,0,none⟩=some (.slice (some ⟨b,0,none⟩) ns.length nc):=(h.row.cell 0).trans rfl
 generalize (ns.getD a nd0).nx k=x at *
 have hx:(((x:Nat):Int) == 0)=false:=by simp;exact hnz
 have i1:(0:Int)≤(a:Int):=by omega
 have i2:(a:Int)<(ns.length:Int):=by omega
 have i3:(0:Int)≤(k:Int):=by omega
 have i4:(k:Int)<4:=by omega
 clear h hn
 go_enter Tryd.func63,Tryd.ntmps63
 go_wp2
 go_ret
 exact⟨rfl,rfl⟩
theorem Nd.put_nx(d:Nd){k:Nat}(hk:k<4)(x:Nat):(d.put k x).nx k=x:=by
 have:k=0∨k=1∨k=2∨k=3:=by omega
 rcases this with rfl|rfl|rfl|rfl <;> rfl
theorem get_grown{ns:List Nd}{a:Nat}(ha:a<ns.length)(d:Nd):(ns.set a d++[nd0]).getD a nd0=d:=by
 rw[List.getD_eq_getElem?_getD,List.getElem?_append_left (by rw[List.length_set];exact ha),List.getElem?_set_self ha]
 rfl
theorem grown_cell{w:World}{B c3 a k:Nat}{a3:Option Addr}{ns:List Nd}{d':Nd}(O:w.ownsRow B 103 5 (.slice a3 (ns.length+1) c3) (ns.length+1) (ndCells (ns.set a d'++[nd0])))(ha:a<ns.length)(hk:k<4)(HG:(ns.set a d'++[nd0]).getD a nd0=d')(HP:d'.nx k=ns.length) :
  ∃ b3,a3=some ⟨b3,0,none⟩∧w.cell? ⟨b3,a*5+k,none⟩=some (.int .i64 (ns.length:Nat)):=by
 have hl:(ns.set a d'++[nd0]).length=ns.length+1:=by simp
 rw[← hl] at O
 obtain⟨b,rfl,hb,hn⟩:=nodes_own O (by rw[hl];omega)
 have c1:=hn a (by rw[hl];omega) k _ (Nd.cell_nx _ hk)
 simp only[Nat.zero_add] at c1
 rw[HG,HP] at c1
 exact⟨b,rfl,c1⟩
set_option maxHeartbeats 8000000 in
theorem grow_new(w:World)(B cb:Nat)(na:Option Addr)(nc:Nat)(ns:List Nd)(h:TreeI w B cb na nc ns)(a k:Nat)(ha:a<ns.length)(hk:k<4)(hz:(ns.getD a nd0).nx k=0)(hB:B≤w.heap.size)(hl:ns.length≤100000000) :
  Calls Tryd.prog 63 #[.pointer (some ⟨cb,0,none⟩),.int .i64 a,.int .i64 k] w fun e w'=>e=.returned (.int .i64 (ns.length:Nat))∧∃ na' nc',TreeN w w' B cb na nc ns.length na' nc' (ns.set a ((ns.getD a nd0).put k ns.length)++[nd0]):=by
 obtain⟨i0,hi,hz0,hz1,hz2⟩:=info_parts Tryd.infoNode
 have HTI:=hide h
 obtain⟨b,rfl,hb,hn⟩:=nodes_own h.own h.pos
 have c1:=hn a ha k _ (Nd.cell_nx _ hk)
 simp only[Nat.zero_add] at c1
 rw[hz] at c1
 have c0:w.cell? ⟨cb,0,none⟩=some (.slice (some ⟨b,0,none⟩) ns.length nc):=(h.row.cell 0).trans rfl
 have f1:=h.own.frozenAt (a*5+k)
 have st:=h.own.stored (a*5+k) (.int .i64 (ns.length:Nat))
 rw[ndCells_set ns a ha k (by omega) ((ns.getD a nd0).put k ns.length) _ (Nd.cells_put _ hk _)] at st
 have hne:b≠cb:=by
  obtain⟨_,_,q⟩:∃ cs fr,w.heap[b]?=some (.cells cs 103 fr):=by
   rcases h.own.2 with⟨hv,_⟩ | ⟨g',cap,cur,hv,_,hg,_⟩
   ·simp at hv
   ·simp only[Value.slice.injEq,Option.some.injEq,Addr.mk.injEq,and_true] at hv
    obtain⟨rfl,_⟩:=hv
    exact⟨_,_,hg⟩
  intro e
  subst e
  have hr':w.heap[b]?=some (.cells [Value.slice (some ⟨b,0,none⟩) ns.length nc].toArray 106 (0,0)):=h.row
  rw[hr'] at q
  simp only[Option.some.injEq,Obj.cells.injEq] at q
  exact u_nc q.2.1.symm
 have r1:Row (w.setCell ⟨b,a*5+k,none⟩ (.int .i64 (ns.length:Nat))).drew cb 106 [.slice (some ⟨b,0,none⟩) ns.length nc]:=(Below.heap_setCell w ⟨b,a*5+k,none⟩ _ cb (fun e=>hne e.symm)).trans h.row
 have o1:(w.setCell ⟨b,a*5+k,none⟩ (.int .i64 (ns.length:Nat))).drew.ownsRow B 103 5 (.slice (some ⟨b,0,none⟩) ns.length nc) ns.length (ndCells (ns.set a ((ns.getD a nd0).put k ns.length))):=st.1
 have g1:w.grownBy (w.setCell ⟨b,a*5+k,none⟩ (.int .i64 (ns.length:Nat))).drew (some b):=⟨st.2.os,st.2.tape,st.2.output,st.2.size,st.2.block⟩
 have d1:Hid (ns.length+1≤maxLen):=by show _≤_;unfold maxLen;omega
 have d2:Hid ((ns.length+1)*40≤140737488355328):=by show _≤_;omega
 have R1:=hide r1
 have O1:=hide o1
 have G1:=hide g1
 have i1:(0:Int)≤(a:Int):=by omega
 have i2:(a:Int)<(ns.length:Int):=by omega
 have i3:(0:Int)≤(k:Int):=by omega
 have i4:(k:Int)<4:=by omega
 have HG:Hid ((ns.set a ((ns.getD a nd0).put k ns.length)++[nd0]).getD a nd0=(ns.getD a nd0).put k ns.length):=get_grown ha _
 have HP:Hid (((ns.getD a nd0).put k ns.length).nx k=ns.length):=Nd.put_nx _ hk _
 have HL:Hid ((ns.set a ((ns.getD a nd0).put k ns.length)).length=ns.length):=by show _=_;rw[List.length_set]
 generalize (ns.getD a nd0).put k ns.length=d' at *
 clear h hn st r1 o1 g1 hz
 go_enter Tryd.func63,Tryd.ntmps63
 go_wp2_with fail
 go_region
 generalize (w.setCell ⟨b,a*5+k,none⟩ (.int .i64 (ns.length:Nat))).drew=w1 at *
 have y0:w1.cell? ⟨cb,0,none⟩=some (.slice (some ⟨b,0,none⟩) ns.length nc):=(R1.out.cell 0).trans rfl
 have hz1':w.heap.size≤w1.heap.size:=G1.out.size
 have hcb1:cb<w1.heap.size:=R1.out.lt
 clear c0 c1 f1
 go_wp2_with (first
  | (at_builtin;refine wpList_append_many _ rfl (.tmp 36) (.tmp 38) 104 rfl B 103 i0 (.agg #[.int .i64 0,.int .i64 0,.int .i64 0,.int .i64 0,.int .i64 0]) 5 40 Tryd.undNodes hi hz0 hz1 hz2 rfl (by decide) (.slice (some ⟨b,0,none⟩) ns.length nc) ns.length (ndCells (ns.set a d')) rfl (O1.out.alloc _) ⟨w1.heap.size,0,none⟩ 1 1 [.int .i64 0,.int .i64 0,.int .i64 0,.int .i64 0,.int .i64 0] rfl rfl (new_cells1 w1 [.int .i64 0,.int .i64 0,.int .i64 0,.int .i64 0,.int .i64 0] 103) (by intro u hu;simp at hu;subst hu;rfl) (by decide) d1.out d2.out (by simp;omega) (w1.heap.size+1) (by simp) ?_;intro a3 c3 w2 hown3 hg3 hl3;
        have HG3:=hide hg3;have LO3:=hide (lies_own (N:=ns.length+1) hl3);
        have R2:Hid (Row w2 cb 106 [.slice (some ⟨b,0,none⟩) ns.length nc]):=row_grownN (row_below R1.out ((Below.refl _ _).alloc (Nat.le_refl _) _)) (O1.out.alloc _) u_nc hg3;
        have O2:Hid (w2.ownsRow B 103 5 (.slice a3 (ns.length+1) c3) (ns.length+1) (ndCells (ns.set a d'++[nd0]))):=(ndCells_snoc (ns.set a d')) ▸ hown3;
        have O3:Hid ((w2.setCell ⟨cb,0,none⟩ (.slice a3 (ns.length+1) c3)).ownsRow B 103 5 (.slice a3 (ns.length+1) c3) (ns.length+1) (ndCells (ns.set a d'++[nd0]))):=own_setN R2.out 0 _ u_nc O2.out;
        have R3:Hid (Row (w2.setCell ⟨cb,0,none⟩ (.slice a3 (ns.length+1) c3)) cb 106 [.slice a3 (ns.length+1) c3]):=R2.out.set 0 _;
        have g2:w2.cell? ⟨cb,0,none⟩=some (.slice (some ⟨b,0,none⟩) ns.length nc):=(R2.out.cell 0).trans rfl;
        have g2':=R2.out.frozen 0;
        have hz2s:w1.heap.size≤w2.heap.size:=Nat.le_trans (by simp) HG3.out.size;
        clear hown3 hg3 hl3;obtain⟨b3,rfl,n3⟩:=grown_cell O3.out ha hk HG.out HP.out;have j2:(a:Int)<(ns.length:Int)+1:=by omega))
 go_ret
 refine⟨rfl,some ⟨b3,0,none⟩,c3,?_⟩
 have hlen:(ns.set a d'++[nd0]).length=ns.length+1:=by rw[snoc_len,HL.out]
 have lo:(Value.slice (some ⟨b3,0,none⟩) (ns.length+1) c3).ownBlock=(Value.slice (some ⟨b,0,none⟩) ns.length nc).ownBlock∨∃ k,w.heap.size≤k∧(Value.slice (some ⟨b3,0,none⟩) (ns.length+1) c3).ownBlock=some k:=LO3.out.imp id (fun e=>⟨_,by omega,e⟩)
 refine⟨⟨by rw[hlen];exact R3.out,by rw[hlen];exact O3.out,by omega,HTI.out.base⟩,?_,by rw[hlen];exact lo⟩
 have k1:Kept w w1 cb (.slice (some ⟨b,0,none⟩) ns.length nc):=⟨G1.out.os,G1.out.tape,G1.out.output,G1.out.size,fun q hq _ hv=>G1.out.block q hq (fun e=>hv (by rw[e];rfl))⟩
 exact((k1.below ((Below.refl _ _).alloc (Nat.le_refl _) _)).grown HG3.out).set 0 _
theorem grow_any(w:World)(B cb:Nat)(na:Option Addr)(nc:Nat)(ns:List Nd)(h:TreeI w B cb na nc ns)(a k:Nat)(ha:a<ns.length)(hk:k<4)(hB:B≤w.heap.size)(hl:ns.length≤100000000) :
  Calls Tryd.prog 63 #[.pointer (some ⟨cb,0,none⟩),.int .i64 a,.int .i64 k] w fun e w'=>e=.returned (.int .i64 ((growN ns a k).2:Nat))∧∃ na' nc',TreeN w w' B cb na nc ns.length na' nc' (growN ns a k).1:=by
 by_cases hz:(ns.getD a nd0).nx k=0
 ·have e:growN ns a k=(ns.set a ((ns.getD a nd0).put k ns.length)++[nd0],ns.length):=by unfold growN;rw[if_pos hz]
  rw[e]
  exact grow_new w B cb na nc ns h a k ha hk hz hB hl
 ·have e:growN ns a k=(ns,(ns.getD a nd0).nx k):=by unfold growN;rw[if_neg hz]
  rw[e]
  refine(grow_old w B cb na nc ns h a k ha hk hz).mono ?_
  rintro e w' ⟨rfl,rfl⟩
  exact⟨rfl,na,nc,TreeN.of h (Below.refl _ _)⟩
theorem Wf.nx{ns:List Nd}(h:Wf ns){a:Nat}(ha:a<ns.length)(k:Nat):(ns.getD a nd0).nx k<ns.length:=by
 obtain⟨h0,h1,h2,h3⟩:=h a ha
 unfold Nd.nx
 split <;> assumption
theorem getD_set(ns:List Nd)(a j:Nat)(d:Nd)(ha:a<ns.length):(ns.set a d).getD j nd0=if j=a then d else ns.getD j nd0:=by
 rw[List.getD_eq_getElem?_getD,List.getElem?_set]
 by_cases e:a=j
 ·subst e
  rw[if_pos rfl,if_pos ha,if_pos rfl];rfl
 ·rw[if_neg e,if_neg (fun h=>e h.symm),List.getD_eq_getElem?_getD]
theorem getD_snoc(ns:List Nd)(j:Nat):(ns++[nd0]).getD j nd0=ns.getD j nd0:=by
 rw[List.getD_eq_getElem?_getD,List.getElem?_append,List.getD_eq_getElem?_getD]
 split
 ·rfl
 ·rename_i h
  rw[List.getElem?_eq_none (by omega:ns.length≤j)]
  by_cases e:j - ns.length=0
  ·rw[e];rfl
  ·rw[List.getElem?_eq_none (by simp;omega)]
theorem Nd.put_lt(d:Nd)(k x n:Nat)(h0:d.n0<n)(h1:d.n1<n)(h2:d.n2<n)(h3:d.n3<n)(hx:x<n):(d.put k x).n0<n∧(d.put k x).n1<n∧(d.put k x).n2<n∧(d.put k x).n3<n:=by
 unfold Nd.put
 split <;> exact⟨by assumption,by assumption,by assumption,by assumption⟩
theorem growN_wf{ns:List Nd}(h:Wf ns){a k:Nat}(ha:a<ns.length):Wf (growN ns a k).1∧(growN ns a k).2<(growN ns a k).1.length∧(growN ns a k).1.length≤ns.length+1∧ns.length≤(growN ns a k).1.length:=by
 unfold growN
 split
 ·have hl:(ns.set a ((ns.getD a nd0).put k ns.length)++[nd0]).length=ns.length+1:=by simp
  refine⟨fun j hj=>?_,by simp,by simp,by simp⟩
  simp only[hl]
  rw[getD_snoc,getD_set _ _ _ _ ha]
  obtain⟨h0,h1,h2,h3⟩:=h a ha
  split
  ·exact Nd.put_lt _ _ _ _ (by omega) (by omega) (by omega) (by omega) (by omega)
  ·by_cases hjl:j<ns.length
   ·obtain⟨q0,q1,q2,q3⟩:=h j hjl
    exact⟨by omega,by omega,by omega,by omega⟩
   ·have e:ns.getD j nd0=nd0:=by rw[List.getD_eq_getElem?_getD,List.getElem?_eq_none (by omega)];rfl
    rw[e]
    exact⟨Nat.succ_pos _,Nat.succ_pos _,Nat.succ_pos _,Nat.succ_pos _⟩
 ·exact⟨h,h.nx ha k,Nat.le_succ _,Nat.le_refl _⟩
def addTo(ns:List Nd)(t f:Nat):Nat→List Nd × Nat
 | 0=>(ns,0)
 | k+1=>growN (addTo ns t f k).1 (addTo ns t f k).2 (wayN t f ((k+1:Nat):Int))
theorem addTo_wf{ns:List Nd}(h:Wf ns)(hp:0<ns.length)(t f k:Nat):Wf (addTo ns t f k).1∧(addTo ns t f k).2<(addTo ns t f k).1.length∧(addTo ns t f k).1.length≤ns.length+k:=by
 induction k with
 | zero=>exact⟨h,hp,Nat.le_refl _⟩
 | succ k ih =>
  obtain⟨h1,h2,h3⟩:=ih
  obtain⟨q1,q2,q3,_⟩:=growN_wf (k:=wayN t f ((k+1:Nat):Int)) h1 h2
  exact⟨q1,q2,by simp only[addTo];omega⟩
def addN(ns:List Nd)(t f c:Nat):List Nd:=(addTo ns t f 10).1.set (addTo ns t f 10).2 { (addTo ns t f 10).1.getD (addTo ns t f 10).2 nd0 with c:=((addTo ns t f 10).1.getD (addTo ns t f 10).2 nd0).c+c }
def CB(ns:List Nd)(M:Nat):Prop:=∀ j,(ns.getD j nd0).c≤M
theorem put_c(d:Nd)(k x:Nat):(d.put k x).c=d.c:=by
 unfold Nd.put
 split <;> rfl
theorem growN_cb{ns:List Nd}{M a k:Nat}(h:CB ns M)(ha:a<ns.length):CB (growN ns a k).1 M:=by
 intro j
 unfold growN
 split
 ·show((ns.set a ((ns.getD a nd0).put k ns.length)++[nd0]).getD j nd0).c≤M
  rw[getD_snoc,getD_set _ _ _ _ ha]
  split
  ·rw[put_c];exact h a
  ·exact h j
 ·exact h j
theorem addTo_cb{ns:List Nd}{M:Nat}(h:CB ns M)(hw:Wf ns)(hp:0<ns.length)(t f k:Nat):CB (addTo ns t f k).1 M:=by
 induction k with
 | zero=>exact h
 | succ k ih=>exact growN_cb ih (addTo_wf hw hp t f k).2.1
theorem addN_wf{ns:List Nd}(h:Wf ns)(hp:0<ns.length)(t f c:Nat):Wf (addN ns t f c)∧(addN ns t f c).length≤ns.length+10∧0<(addN ns t f c).length:=by
 obtain⟨h1,h2,h3⟩:=addTo_wf h hp t f 10
 unfold addN
 refine⟨fun j hj=>?_,by rw[List.length_set];exact h3,by rw[List.length_set];omega⟩
 rw[List.length_set] at hj ⊢
 rw[getD_set _ _ _ _ h2]
 split
 ·exact h1 _ h2
 ·exact h1 j hj
theorem addN_cb{ns:List Nd}{M:Nat}(h:CB ns M)(hw:Wf ns)(hp:0<ns.length)(t f c:Nat):CB (addN ns t f c) (M+c):=by
 intro j
 unfold addN
 rw[getD_set _ _ _ _ (addTo_wf hw hp t f 10).2.1]
 have:=addTo_cb h hw hp t f 10
 split
 ·show(_:Nat)+c≤M+c
  have:=this (addTo ns t f 10).2
  omega
 ·have:=this j
  omega
theorem own_ty{w:World}{B e s n g t:Nat}{v:Value}{xs zs:List Value}(h:w.ownsRow B e s v n xs)(hr:Row w g t zs)(he:e≠t):v.ownBlock≠some g:=by
 intro hb
 rcases h.2 with⟨rfl,_⟩ | ⟨g',cap,cur,rfl,_,hg,_⟩
 ·simp[Value.ownBlock] at hb
 ·simp only[Value.ownBlock,Option.some.injEq] at hb
  subst hb
  have hr':w.heap[g']?=some (.cells zs.toArray t (0,0)):=hr
  rw[hr'] at hg
  simp only[Option.some.injEq,Obj.cells.injEq] at hg
  exact he hg.2.1.symm
theorem u_ns:(103:Nat)≠84:=by decide
set_option maxHeartbeats 8000000 in
theorem addC_any(w:World)(B cb:Nat)(na:Option Addr)(nc:Nat)(ns:List Nd)(h:TreeI w B cb na nc ns)(hw:Wf ns)(M:Nat)(hcb:CB ns M)(t f c:Nat)(ht:t<2^11)(hf:f<2^11)(hB:B≤w.heap.size)(hl:ns.length≤90000000)(hM:M+c≤9223372036854775807) :
  Calls Tryd.prog 50 #[.pointer (some ⟨cb,0,none⟩),.agg #[.int .i64 t,.int .i64 f],.int .i64 c] w fun e w'=>e=.returned (.tuple #[])∧∃ na' nc',TreeN w w' B cb na nc ns.length na' nc' (addN ns t f c):=by
 have hp:=h.pos
 have HWY:Hid (∀ v w,1≤v→v≤10→Calls Tryd.prog 64 #[.agg #[.int .i64 t,.int .i64 f],.int .i64 v] w fun e w'=>e=.returned (.int .i64 (wayN t f v:Nat))∧Below w.heap.size w w'):=fun v w q1 q2=>way_any t f v ht hf q1 q2 w
 have hb1:Below w.heap.size w (w.alloc (.cells #[.int .i64 t,.int .i64 f] 84)):=(Below.refl _ _).alloc (Nat.le_refl _) _
 have r1:Row (w.alloc (.cells #[.int .i64 t,.int .i64 f] 84)) w.heap.size 84 [.int .i64 t,.int .i64 f]:=heap_alloc_new w _
 have HT0:=hide (TreeN.of h hb1)
 have R1:=hide r1
 have HI:=hide h
 have HW:=hide hw
 have HCB:=hide hcb
 clear h hw hcb hb1 r1
 go_enter Tryd.func50,Tryd.ntmps50
 go_wp2_with fail
 go_loopw [6,7] (fun a v wr=>∃ (k:Nat) (na1:Option Addr) (nc1:Nat),k≤10∧a=.int .i64 ((addTo ns t f k).2:Nat)∧v=.int .i64 ((k:Int)+1)∧Hid (TreeN w wr B cb na nc ns.length na1 nc1 (addTo ns t f k).1)∧Hid (Row wr w.heap.size 84 [.int .i64 t,.int .i64 f])) (fun _ v _=>11 - (intOf v).toNat)
 case atStart=>exact⟨0,na,nc,by omega,rfl,rfl,HT0,R1⟩
 case round =>
  clear HT0 R1
  obtain⟨k,na1,nc1,hk,rfl,rfl,HT,RS⟩:=hrel
  have y0:wr.cell? ⟨w.heap.size,0,none⟩=some (.int .i64 t):=(RS.out.cell 0).trans rfl
  have y1:wr.cell? ⟨w.heap.size,1,none⟩=some (.int .i64 f):=(RS.out.cell 1).trans rfl
  obtain⟨q1,q2,q3⟩:=addTo_wf HW.out hp t f k
  by_cases hlt:k<10
  ·have hv:((k:Int)+1≤10):=by omega
   go_wp2_with fail
   refine(unhide HWY ((k:Int)+1) _ (by omega) hv).mono ?_
   rintro e w2 ⟨rfl,hb2⟩
   have HT2:=hide (HT.out.trans (TreeN.of HT.out.t hb2))
   have RS2:=hide (row_below RS.out hb2)
   have hz:w.heap.size≤w2.heap.size:=HT2.out.kept.size
   have HG:=hide (grow_any w2 B cb na1 nc1 (addTo ns t f k).1 HT2.out.t (addTo ns t f k).2 (wayN t f ((k:Int)+1)) q2 (wayN_lt _ _ _) (by omega) (by omega))
   clear hb2 HT RS y0 y1
   go_wp2_with fail
   refine(unhide HG).mono ?_
   rintro e w3 ⟨rfl,na2,nc2,h3⟩
   have e1:growN (addTo ns t f k).1 (addTo ns t f k).2 (wayN t f ((k:Int)+1))=addTo ns t f (k+1):=by simp only[addTo];rw[show((k+1:Nat):Int)=(k:Int)+1 by omega]
   rw[e1] at h3
   have HT3:=hide (HT2.out.trans h3)
   have RS3:Hid (Row w3 w.heap.size 84 [.int .i64 t,.int .i64 f]):=by
    refine(h3.kept.block _ RS2.out.lt ?_ ?_).trans RS2.out
    ·have:=HI.out.row.lt;omega
    ·have e2:(Value.slice na1 (addTo ns t f k).1.length nc1).ownBlock≠some w.heap.size:=own_ty HT2.out.t.own RS2.out u_ns
     exact e2
   have HE1:=hide e1
   clear h3 HG HT2 RS2 e1
   go_wp2
   go_roundw
   case rel=>exact⟨k+1,na2,nc2,by omega,by rw[HE1.out],by go_num,HT3,RS3⟩
   case measure=>simp[intOf];omega
  ·obtain rfl:k=10:=by omega
   obtain⟨b,e0,hb,hn⟩:=nodes_own HT.out.t.own HT.out.t.pos
   subst e0
   have c4:=hn _ q2 4 _ rfl
   simp only[Nat.zero_add] at c4
   have c0:wr.cell? ⟨cb,0,none⟩=some (.slice (some ⟨b,0,none⟩) (addTo ns t f 10).1.length nc1):=(HT.out.t.row.cell 0).trans rfl
   have f4:=HT.out.t.own.frozenAt ((addTo ns t f 10).2*5+4)
   have hcc:=addTo_cb HCB.out HW.out hp t f 10 (addTo ns t f 10).2
   have ST:=hide (HT.out.t.own.stored ((addTo ns t f 10).2*5+4) (.int .i64 ((((addTo ns t f 10).1.getD (addTo ns t f 10).2 nd0).c:Int)+c)))
   have EQ:Hid ((ndCells (addTo ns t f 10).1).set ((addTo ns t f 10).2*5+4) (.int .i64 ((((addTo ns t f 10).1.getD (addTo ns t f 10).2 nd0).c:Int)+c))=ndCells (addN ns t f c)):=by
    show _=_
    exact ndCells_set _ _ q2 4 (by decide) _ _ (by simp[Nd.cells])
   have LEN:Hid ((addN ns t f c).length=(addTo ns t f 10).1.length):=by show _=_;unfold addN;rw[List.length_set]
   have hne:cb≠b:=by
    intro e
    subst e
    exact own_ty HT.out.t.own HT.out.t.row u_nc rfl
   generalize (addTo ns t f 10).1.getD (addTo ns t f 10).2 nd0=d at *
   generalize (addTo ns t f 10).2=a at *
   generalize (addTo ns t f 10).1=ns1 at *
   have i1:(0:Int)≤(a:Int):=by omega
   have i2:(a:Int)<(ns1.length:Int):=by omega
   have hwrap:IntKind.i64.wrap ((d.c:Int)+c)=(d.c:Int)+c:=by rw[IntKind.wrap_i64];omega
   clear hn y0 y1 RS
   go_wp2
   go_end0
   refine⟨rfl,some ⟨b,0,none⟩,nc1,?_⟩
   have h5:=ST.out.1
   rw[EQ.out] at h5
   have k5:Kept wr (wr.setCell ⟨b,a*5+4,none⟩ (.int .i64 ((d.c:Int)+c))) cb (.slice (some ⟨b,0,none⟩) ns1.length nc1):=⟨ST.out.2.os,ST.out.2.tape,ST.out.2.output,ST.out.2.size,fun q hq _ hv=>ST.out.2.block q hq (fun e=>hv (by rw[e];rfl))⟩
   have t5:TreeI (wr.setCell ⟨b,a*5+4,none⟩ (.int .i64 ((d.c:Int)+c))) B cb (some ⟨b,0,none⟩) nc1 (addN ns t f c):=⟨by rw[LEN.out];exact(Below.heap_setCell wr ⟨b,a*5+4,none⟩ _ cb hne).trans HT.out.t.row,by rw[LEN.out];exact h5,by rw[LEN.out];exact HT.out.t.pos,HT.out.t.base⟩
   exact HT.out.trans (n1:=ns1.length) ⟨t5,k5,.inl own_len⟩
set_option maxHeartbeats 2000000 in
theorem newC_any(B:Nat)(w:World)(hB:B≤w.heap.size) :
  Calls Tryd.prog 49 #[] w fun e w'=>∃ cb na nc,e=.returned (.pointer (some ⟨cb,0,none⟩))∧TreeI w' B cb na nc [nd0]∧Below w.heap.size w w'∧w.heap.size≤cb:=by
 have HB:Hid (∀ x y,Below w.heap.size w ((w.alloc x).alloc y)):=fun x y=>((Below.refl _ _).alloc (Nat.le_refl _) _).alloc (by simp) _
 have HT:Hid (TreeI ((w.alloc (.cells #[.int .i64 0,.int .i64 0,.int .i64 0,.int .i64 0,.int .i64 0] 103)).alloc (.cells #[.slice (some ⟨w.heap.size,0,none⟩) 1 1] 106)) B (w.heap.size+1) (some ⟨w.heap.size,0,none⟩) 1 [nd0]):=by
  refine⟨heap_alloc2_new w _ _,?_,by decide,by omega⟩
  have:=World.ownsRow_lit (base:=B) (e:=103) (size:=5) w #[.int .i64 0,.int .i64 0,.int .i64 0,.int .i64 0,.int .i64 0] 1 hB (by decide) rfl
  exact this.alloc _
 go_enter Tryd.func49,Tryd.ntmps49
 go_wp2
 go_ret
 exact⟨w.heap.size+1,some ⟨w.heap.size,0,none⟩,1,rfl,HT.out,HB.out _ _,Nat.le_succ _⟩
def dropTo(ns:List Nd)(t f:Nat):Nat→Option Nat
 | 0=>some 0
 | k+1=>match dropTo ns t f k with
  | none=>none
  | some a=>if (ns.getD a nd0).nx (wayN t f ((k+1:Nat):Int))=0 then none else some ((ns.getD a nd0).nx (wayN t f ((k+1:Nat):Int)))
theorem dropTo_lt{ns:List Nd}(h:Wf ns)(hp:0<ns.length)(t f:Nat):∀ (k a:Nat),dropTo ns t f k=some a→a<ns.length:=by
 intro k
 induction k with
 | zero=>intro a e;simp only[dropTo,Option.some.injEq] at e;omega
 | succ k ih =>
  intro a e
  simp only[dropTo] at e
  split at e
  ·simp at e
  ·rename_i b hb
   split at e
   ·simp at e
   ·simp only[Option.some.injEq] at e
    rw[← e]
    exact h.nx (ih b hb) _
theorem dropTo_none{ns:List Nd}{t f:Nat}:∀ (j k:Nat),dropTo ns t f k=none→dropTo ns t f (k+j)=none:=by
 intro j
 induction j with
 | zero=>intro k h;exact h
 | succ j ih =>
  intro k h
  have:=ih k h
  show dropTo ns t f (k+j+1)=none
  simp only[dropTo,this]
def dropN(ns:List Nd)(t f:Nat):Option (List Nd):=match dropTo ns t f 10 with
 | none=>none
 | some a=>if (ns.getD a nd0).c=0 then none else some (ns.set a { ns.getD a nd0 with c:=(ns.getD a nd0).c - 1 })
def DropPost(w:World)(B cb:Nat)(na:Option Addr)(nc:Nat)(ns:List Nd)(r:Option (List Nd))(e:Ending)(w':World):Prop:=match r with
 | none=>e=.returned (.bool false)∧Below w.heap.size w w'
 | some ns'=>e=.returned (.bool true)∧∃ na' nc',TreeN w w' B cb na nc ns.length na' nc' ns'
set_option maxHeartbeats 8000000 in
theorem drop_any(w:World)(B cb:Nat)(na:Option Addr)(nc:Nat)(ns:List Nd)(h:TreeI w B cb na nc ns)(hw:Wf ns)(M:Nat)(hcb:CB ns M)(t f:Nat)(ht:t<2^11)(hf:f<2^11)(hM:M≤9223372036854775807) :
  Calls Tryd.prog 77 #[.pointer (some ⟨cb,0,none⟩),.agg #[.int .i64 t,.int .i64 f]] w (DropPost w B cb na nc ns (dropN ns t f)):=by
 have hp:=h.pos
 have HWY:Hid (∀ v w,1≤v→v≤10→Calls Tryd.prog 64 #[.agg #[.int .i64 t,.int .i64 f],.int .i64 v] w fun e w'=>e=.returned (.int .i64 (wayN t f v:Nat))∧Below w.heap.size w w'):=fun v w q1 q2=>way_any t f v ht hf q1 q2 w
 have hb1:Below w.heap.size w (w.alloc (.cells #[.int .i64 t,.int .i64 f] 84)):=(Below.refl _ _).alloc (Nat.le_refl _) _
 have r1:Row (w.alloc (.cells #[.int .i64 t,.int .i64 f] 84)) w.heap.size 84 [.int .i64 t,.int .i64 f]:=heap_alloc_new w _
 obtain⟨b,rfl,hb,hn⟩:=nodes_own h.own h.pos
 have HB1:=hide hb1
 have R1:=hide r1
 have HI:=hide h
 have HW:=hide hw
 have HCB:=hide hcb
 have HN:=hide hn
 have HDR:Hid (dropN ns t f=match dropTo ns t f 10 with | none=>none | some a=>if (ns.getD a nd0).c=0 then none else some (ns.set a { ns.getD a nd0 with c:=(ns.getD a nd0).c - 1 })):=rfl
 generalize dropN ns t f=DR at *
 clear h hw hcb hb1 r1 hn
 go_enter Tryd.func77,Tryd.ntmps77
 go_wp2_with fail
 go_loopw [5,6] (fun a v wr=>∃ (k x:Nat),k≤10∧Hid (dropTo ns t f k=some x)∧a=.int .i64 (x:Nat)∧v=.int .i64 ((k:Int)+1)∧Hid (Below w.heap.size w wr)∧Hid (Row wr w.heap.size 84 [.int .i64 t,.int .i64 f])) (fun _ v _=>11 - (intOf v).toNat)
 case atStart=>exact⟨0,0,by omega,rfl,rfl,rfl,HB1,R1⟩
 case round =>
  clear HB1 R1
  obtain⟨k,x,hk,HD,rfl,rfl,HB,RS⟩:=hrel
  have hxl:=dropTo_lt HW.out hp t f k x HD.out
  have i1:(0:Int)≤(x:Int):=by omega
  have i2:(x:Int)<(ns.length:Int):=by omega
  have F:Hid (∀ w',Below wr.heap.size wr w'→(w'.cell? ⟨cb,0,none⟩=some (.slice (some ⟨b,0,none⟩) ns.length nc)∧w'.cell? ⟨w.heap.size,0,none⟩=some (.int .i64 t)∧w'.cell? ⟨w.heap.size,1,none⟩=some (.int .i64 f))∧Below w.heap.size w w'∧Row w' w.heap.size 84 [.int .i64 t,.int .i64 f]∧∀ i v,(ns.getD x nd0).cells[i]?=some v→w'.cell? ⟨b,x*5+i,none⟩=some v):=by
   intro w' hb'
   have hw':=HB.out.trans (hb'.mono HB.out.size)
   have hs':=row_below RS.out hb'
   refine⟨⟨((row_below HI.out.row hw').cell 0).trans rfl,(hs'.cell 0).trans rfl,(hs'.cell 1).trans rfl⟩,hw',hs',fun i v hv=>?_⟩
   have:=(hw'.cell (p:=⟨b,0+x*5+i,none⟩) hb).trans (HN.out x hxl i v hv)
   rw[Nat.zero_add] at this
   exact this
  obtain⟨⟨f0,f1,f2⟩,_⟩:=F.out wr (Below.refl _ _)
  by_cases hlt:k<10
  ·have hv:((k:Int)+1≤10):=by omega
   have hwl:=wayN_lt t f ((k:Int)+1)
   have HE:Hid (dropTo ns t f (k+1)=if (ns.getD x nd0).nx (wayN t f ((k:Int)+1))=0 then none else some ((ns.getD x nd0).nx (wayN t f ((k:Int)+1)))):=by
    show _=_
    simp only[dropTo,HD.out]
    rw[show((k+1:Nat):Int)=(k:Int)+1 by omega]
   have HC:=hide (fun (w':World) (hb':Below wr.heap.size wr w')=>(F.out w' hb').2.2.2 _ _ (Nd.cell_nx (ns.getD x nd0) hwl))
   have i3:(0:Int)≤((wayN t f ((k:Int)+1):Nat):Int):=by omega
   have i4:((wayN t f ((k:Int)+1):Nat):Int)<4:=by omega
   generalize (ns.getD x nd0).nx (wayN t f ((k:Int)+1))=y at *
   have HWK:=hide (fun w'=>HWY.out ((k:Int)+1) w' (by omega) hv)
   generalize wayN t f ((k:Int)+1)=wy at *
   have Bc:Hid (Below wr.heap.size wr wr.drew):=below_drewN (Below.refl _ _) 1
   go_wp2_with fail
   go_region_with (go_at_call 64;refine(unhide HWK _).mono ?_;rintro e wa ⟨rfl,hba⟩;have Bc:Hid (Below wr.heap.size wr wa):=Bc.out.trans (hba.mono Bc.out.size);clear hba;obtain⟨⟨f0,f1,f2⟩,_⟩:=F.out wa Bc.out;have g0:=HC.out wa Bc.out)
   all_goals
    have HBW:Hid (Below w.heap.size w wa):=(F.out wa Bc.out).2.1
    have RS2:=hide (F.out wa Bc.out).2.2.1
    clear F HC HWK
    by_cases hy:y=0
    ·subst hy
     have hdr:DR=none:=by
      have h1:dropTo ns t f (k+1)=none:=by rw[HE.out];simp
      have h2:=dropTo_none (10 - (k+1)) (k+1) h1
      rw[show k+1+(10 - (k+1))=10 by omega] at h2
      rw[HDR.out,h2]
     have HDN:=hide hdr
     clear hdr HDR HE
     go_wp2
     go_ret
     rw[HDN.out]
     exact⟨rfl,HBW.out⟩
    ·have hyi:(((y:Nat):Int) == 0)=false:=by simp;exact hy
     have HE2:Hid (dropTo ns t f (k+1)=some y):=by show _=_;rw[HE.out,if_neg hy]
     clear HE hy
     go_wp2
     go_roundw
     case rel=>exact⟨k+1,y,by omega,HE2,rfl,by go_num,HBW,RS2⟩
     case measure=>simp[intOf];omega
  ·obtain rfl:k=10:=by omega
   have c4:=(F.out wr (Below.refl _ _)).2.2.2 4 _ rfl
   have hwr:=hide (F.out wr (Below.refl _ _)).2.1
   have T5:=hide (HI.out.below hwr.out)
   have hcx:=HCB.out x
   have hdr:=HDR.out
   rw[HD.out] at hdr
   simp only at hdr
   have hne:cb≠b:=by
    intro e
    subst e
    exact own_ty HI.out.own HI.out.row u_nc rfl
   by_cases hc:(ns.getD x nd0).c=0
   ·rw[if_pos hc] at hdr
    rw[hc] at c4
    have HDN:=hide hdr
    clear hdr HDR F
    go_wp2
    go_ret
    rw[HDN.out]
    exact⟨rfl,hwr.out⟩
   ·rw[if_neg hc] at hdr
    have f4:=T5.out.own.frozenAt (x*5+4)
    have ST:=hide (T5.out.own.stored (x*5+4) (.int .i64 (((ns.getD x nd0).c:Int) - 1)))
    have EQ:Hid ((ndCells ns).set (x*5+4) (.int .i64 (((ns.getD x nd0).c:Int) - 1))=ndCells (ns.set x { ns.getD x nd0 with c:=(ns.getD x nd0).c - 1 })):=by
     show _=_
     refine ndCells_set _ _ hxl 4 (by decide) _ _ ?_
     simp only[Nd.cells,List.set_cons_succ,List.set_cons_zero]
     rw[show(((ns.getD x nd0).c - 1:Nat):Int)=((ns.getD x nd0).c:Int) - 1 by omega]
    have LEN:Hid ((ns.set x { ns.getD x nd0 with c:=(ns.getD x nd0).c - 1 }).length=ns.length):=by show _=_;rw[List.length_set]
    have HDN:=hide hdr
    have hci:((((ns.getD x nd0).c:Nat):Int) == 0)=false:=by simp;exact hc
    have hwrap:IntKind.i64.wrap (((ns.getD x nd0).c:Int) - 1)=((ns.getD x nd0).c:Int) - 1:=by rw[IntKind.wrap_i64];omega
    generalize ns.set x { ns.getD x nd0 with c:=(ns.getD x nd0).c - 1 }=NS at *
    generalize ns.getD x nd0=d at *
    clear hdr HDR F hc
    go_wp2
    go_ret
    rw[HDN.out]
    refine⟨rfl,some ⟨b,0,none⟩,nc,?_⟩
    have h5:=ST.out.1
    rw[EQ.out] at h5
    have k5:Kept wr (wr.setCell ⟨b,x*5+4,none⟩ (.int .i64 ((d.c:Int) - 1))) cb (.slice (some ⟨b,0,none⟩) ns.length nc):=⟨ST.out.2.os,ST.out.2.tape,ST.out.2.output,ST.out.2.size,fun q hq _ hv=>ST.out.2.block q hq (fun e=>hv (by rw[e];rfl))⟩
    have t5:TreeI (wr.setCell ⟨b,x*5+4,none⟩ (.int .i64 ((d.c:Int) - 1))) B cb (some ⟨b,0,none⟩) nc NS:=⟨by rw[LEN.out];exact(Below.heap_setCell wr ⟨b,x*5+4,none⟩ _ cb hne).trans T5.out.row,by rw[LEN.out];exact h5,by rw[LEN.out];exact T5.out.pos,T5.out.base⟩
    exact(TreeN.of HI.out hwr.out).trans (n1:=ns.length) ⟨t5,k5,.inl own_len⟩
end Go.Proofs.YthboeppmlhbofabDoor
