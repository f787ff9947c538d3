import Derived.Test.YthboeppmlhbofabDoorTxt
import Derived.Test.YthboeppmlhbofabDoorShelf
import Derived.Lib.AppendStr
import Derived.Deep.DeepMust
namespace Go.Proofs.YthboeppmlhbofabDoor
open Go.RowKit Txt
set_option maxRecDepth 100000
theorem Tryd.infoByte:(Tryd.prog.info? 5).map (fun i=>(i.zero,i.size,i.bytes))=some (some (.int .u8 0),1,1):=by kernel_rfl
theorem Tryd.undBytes:Tryd.prog.underlying 66=some (.slice 5):=by kernel_rfl
theorem Tryd.undString:Tryd.prog.underlying 9=some .string:=by kernel_rfl
def c8(t:List UInt8):List Value:=t.map fun b=>Value.int .u8 b.toNat
theorem c8_length(t:List UInt8):(c8 t).length=t.length:=by simp[c8]
theorem c8_append(s t:List UInt8):c8 (s++t)=c8 s++c8 t:=by simp[c8]
theorem c8_one(t:List UInt8):∀ u∈c8 t,u.oneCell'=true:=by
 intro u hu
 simp only[c8,List.mem_map] at hu
 obtain⟨b,_,rfl⟩:=hu
 rfl
theorem own_shape{w:World}{base e size:Nat}{v:Value}{n:Nat}{xs:List Value}(h:w.ownsRow base e size v n xs):∃ ao cap,v=.slice ao n cap:=by
 rcases h.2 with⟨rfl,rfl⟩ | ⟨g,cap,cur,rfl,_⟩
 ·exact⟨none,0,rfl⟩
 ·exact⟨_,_,rfl⟩
theorem own_text{w:World}{base e n:Nat}{v:Value}{cs:List Value}(t:List UInt8)(hn:n=t.length)(hcs:cs=c8 t)(h:w.ownsRow base e 1 v n cs) :
  ∃ ao cap,v=.slice ao t.length cap∧w.ownsRow base e 1 (.slice ao t.length cap) t.length (c8 t):=by
 subst hn hcs
 obtain⟨ao,cap,rfl⟩:=own_shape h
 exact⟨ao,cap,rfl,h⟩
def litT(n:Int):List UInt8:=Lib.itoa n++[32]
def litsT(xs:List Int):List UInt8:=xs.flatMap litT
def clauseT(xs:List Int):List UInt8:=litsT xs++[48,10]
def textT(xss:List (List Int)):List UInt8:=xss.flatMap clauseT
theorem litsT_succ(xs:List Int)(k:Nat)(h:k<xs.length):litsT (xs.take (k+1))=litsT (xs.take k)++litT (xs.getD k 0):=by
 rw[List.take_succ_eq_append_getElem h]
 unfold litsT
 rw[List.flatMap_append,List.getD_eq_getElem?_getD,List.getElem?_eq_getElem h]
 simp only[List.flatMap_cons,List.flatMap_nil,List.append_nil]
 rfl
theorem litsT_le(xs:List Int)(k:Nat):(litsT (xs.take k)).length≤(litsT xs).length:=by
 have h:litsT xs=litsT (xs.take k)++litsT (xs.drop k):=by
  unfold litsT
  rw[← List.flatMap_append,List.take_append_drop]
 rw[h,List.length_append];omega
theorem new_cells(w:World)(l:List Value)(e:TypeId):∀ j u,l[j]?=some u→(w.alloc (.cells l.toArray e)).cell? ((⟨w.heap.size,0,none⟩:Addr).add j)=some u:=by
 intro j u hu
 have hadd:(⟨w.heap.size,0,none⟩:Addr).add j=⟨w.heap.size,j,none⟩:=by unfold Addr.add;split <;> simp_all
 rw[hadd,cell_of_row _ w.heap.size j l.toArray e (0,0) (heap_alloc_new w _)]
 simpa using hu
theorem size_arr(l:List UInt8):(⟨l.toArray⟩:ByteArray).size=l.length:=by show l.toArray.size=_;simp
theorem strCells_arr(l:List UInt8):Lib.strCells ⟨l.toArray⟩=c8 l:=by simp[Lib.strCells,c8]
theorem lit_cases{n:Int}(h:litB n=true):n=-10∨n=-9∨n=-8∨n=-7∨n=-6∨n=-5∨n=-4∨n=-3∨n=-2∨n=-1∨n=1∨n=2∨n=3∨n=4∨n=5∨n=6∨n=7∨n=8∨n=9∨n=10:=by
 simp only[litB,Bool.and_eq_true,bne_iff_ne,decide_eq_true_eq] at h
 omega
theorem itoa_short{n:Int}(h:litB n=true):1≤(Lib.itoa n).length∧(Lib.itoa n).length≤3:=by
 rcases lit_cases h with rfl|rfl|rfl|rfl|rfl|rfl|rfl|rfl|rfl|rfl|rfl|rfl|rfl|rfl|rfl|rfl|rfl|rfl|rfl|rfl <;> decide +kernel
theorem grownBy_grow(w:World)(k:Nat)(os:Array Obj):w.grownBy (Sort.grow (w.drewN k) os) none :=
 ⟨rfl,rfl,rfl,by simp,fun j hj _=>by show(w.heap++os)[j]?=_;rw[Array.getElem?_append_left hj]⟩
abbrev Tab (w : World) : Prop := Lib.TabIs Tryd.prog w "internal/strconv.uint64pow10" .u64 Lib.pow10Tab
theorem itoa_any(n:Int)(h:litB n=true)(w:World)(htab:Hid (Tab w)) :
  Calls Tryd.prog 87 #[.int .i64 n] w fun e w'=>e=.returned (.string ⟨(Lib.itoa n).toArray⟩)∧w.grownBy w' none:=by
 simp only[litB,Bool.and_eq_true,bne_iff_ne,decide_eq_true_eq] at h
 refine(Tryd.strconv_Itoa n (by omega) (by omega) w htab.out).mono ?_
 rintro e w' ⟨rfl,k,os,rfl⟩
 exact⟨rfl,grownBy_grow w k os⟩
theorem gTab : Tryd.prog.globalNamed "internal/strconv.uint64pow10" = some 0 := by kernel_rfl
theorem Tab.below{B:Nat}{w w':World}(h:Tab w)(hb:Below B w w')(hB:0<B):Tab w':=var?_below hb gTab hB h
theorem IntsAt.below{w w':World}{a:Option Addr}{xs:List Int}(h:IntsAt w a xs)(hb:Below w.heap.size w w'):IntsAt w' a xs :=
 h.kept fun b off _ hv=>(hb.cell (p:=⟨b,off,none⟩) (World.block_lt_of_cell? w _ hv)).trans hv
set_option maxHeartbeats 1000000 in
theorem appendLit_any(B:Nat)(ao:Option Addr)(cap:Nat)(t:List UInt8)(x:Int)(w:World)
  (htab:Hid (Tab w)) (hB:B≤w.heap.size) (hown:w.ownsRow B 5 1 (.slice ao t.length cap) t.length (c8 t)) (ht:t.length≤1000000000) (hx:Hid (litB x=true)) :
  Calls Tryd.prog 72 #[.slice ao t.length cap,.int .i64 x] w fun e w'=>∃ ao' cap',e=.returned (.slice ao' (t++litT x).length cap') ∧
   w'.ownsRow B 5 1 (.slice ao' (t++litT x).length cap') (t++litT x).length (c8 (t++litT x))∧Below B w w':=by
 obtain⟨i0,hi,hz0,hz1,hz2⟩:=info_parts Tryd.infoByte
 have c1:Hid (t.length+(⟨(Lib.itoa x).toArray⟩:ByteArray).size≤maxLen):=by
  show _≤_
  rw[size_arr];have:=(itoa_short hx.out).2;unfold maxLen;omega
 have c2:Hid (t.length+(⟨(Lib.itoa x).toArray⟩:ByteArray).size≤140737488355328):=by
  show _≤_
  rw[size_arr];have:=(itoa_short hx.out).2;omega
 have d1:Hid (t.length+(⟨(Lib.itoa x).toArray⟩:ByteArray).size+1≤maxLen):=by
  show _≤_
  rw[size_arr];have:=(itoa_short hx.out).2;unfold maxLen;omega
 have d2:Hid ((t.length+(⟨(Lib.itoa x).toArray⟩:ByteArray).size+1)*1≤140737488355328):=by
  show _≤_
  rw[size_arr];have:=(itoa_short hx.out).2;omega
 go_enter Tryd.func72,Tryd.ntmps72
 go_wp2_with (first
  | (go_at_call 87;refine(itoa_any _ hx.out _ htab).mono ?_;rintro e w1 ⟨rfl,hg1⟩;have hown1:=hown.kept hg1 (Classical.em _))
  | (at_builtin;refine Lib.wpList_append_own_string _ rfl _ _ 66 9 rfl B 5 i0 Tryd.undBytes Tryd.undString hi hz0 hz1 hz2 (.slice ao t.length cap) t.length (c8 t) rfl hown1 ⟨(Lib.itoa x).toArray⟩ rfl c1.out c2.out (Nat.le_trans hB hg1.size) ?_;intro v2 w2 hown2 hg2 _)
  | (at_builtin;refine wpList_append_own _ rfl _ _ 66 rfl B 5 i0 (.int .u8 0) 1 1 Tryd.undBytes hi hz0 hz1 hz2 rfl (by decide) v2 _ _ rfl (hown2.alloc _) ⟨w2.heap.size,0,none⟩ 1 1 [.int .u8 32] rfl rfl (new_cells w2 [.int .u8 32] 5) (c8_one [32]) d1.out d2.out (by simp;exact Nat.le_succ_of_le (Nat.le_trans hB (Nat.le_trans hg1.size hg2.size))) ?_;intro v3 w3 hown3 hg3 _))
 obtain⟨ao3,cap3,hv3,hown3'⟩:=own_text (t++litT x) (by rw[size_arr];simp[litT];omega) (by rw[strCells_arr];simp[litT,c8]) hown3
 have hb1:Below B w w1:=(Below.refl B w).grown hg1 hB (by simp)
 have hb2:Below B w w2:=hb1.grown hg2 (Nat.le_trans hB hb1.size) (fun k hk=>(hown1.lt k hk).1)
 have hb3:Below B w w3:=(hb2.alloc (Nat.le_trans hB hb2.size) _).grown hg3 (Nat.le_trans hB (hb2.alloc (Nat.le_trans hB hb2.size) _).size) (fun k hk=>(hown2.lt k hk).1)
 go_ret
 exact⟨ao3,cap3,congrArg Ending.returned hv3,hown3',hb3⟩
set_option maxHeartbeats 1000000 in
theorem appendEnd_any(B:Nat)(ao:Option Addr)(cap:Nat)(t:List UInt8)(w:World)
  (hB:B≤w.heap.size) (hown:w.ownsRow B 5 1 (.slice ao t.length cap) t.length (c8 t)) (ht:t.length≤1000000000) :
  Calls Tryd.prog 73 #[.slice ao t.length cap] w fun e w'=>∃ ao' cap',e=.returned (.slice ao' (t++[48,10]).length cap') ∧
   w'.ownsRow B 5 1 (.slice ao' (t++[48,10]).length cap') (t++[48,10]).length (c8 (t++[48,10]))∧Below B w w':=by
 obtain⟨i0,hi,hz0,hz1,hz2⟩:=info_parts Tryd.infoByte
 have d1:Hid (t.length+2≤maxLen):=by show _≤_;unfold maxLen;omega
 have d2:Hid ((t.length+2)*1≤140737488355328):=by show _≤_;omega
 go_enter Tryd.func73,Tryd.ntmps73
 go_wp2_with (at_builtin;refine wpList_append_own _ rfl _ _ 66 rfl B 5 i0 (.int .u8 0) 1 1 Tryd.undBytes hi hz0 hz1 hz2 rfl (by decide) (.slice ao t.length cap) t.length (c8 t) rfl (hown.alloc _) ⟨w.heap.size,0,none⟩ 2 2 [.int .u8 48,.int .u8 10] rfl rfl (new_cells w [.int .u8 48,.int .u8 10] 5) (c8_one [48,10]) d1.out d2.out (by simp;exact Nat.le_succ_of_le hB) ?_;intro v3 w3 hown3 hg3 _)
 obtain⟨ao3,cap3,hv3,hown3'⟩:=own_text (t++[48,10]) (by simp) (by simp[c8]) hown3
 have hb0:Below B w (w.alloc (.cells [Value.int .u8 48,.int .u8 10].toArray 5)):=(Below.refl B w).alloc hB _
 have hb3:Below B w w3:=hb0.grown hg3 (Nat.le_trans hB hb0.size) (fun k hk=>(hown.lt k hk).1)
 go_ret
 exact⟨ao3,cap3,congrArg Ending.returned hv3,hown3',hb3⟩
theorem conv_own{w:World}{base:Nat}{ao:Option Addr}{cap:Nat}{t:List UInt8}(h:w.ownsRow base 5 1 (.slice ao t.length cap) t.length (c8 t)) :
  (convert 66 9 (.slice ao t.length cap)).run Tryd.prog w=.ok (.string ⟨t.toArray⟩) w:=by
 have hb:Tryd.prog.underlying 5=some (.int .u8):=by kernel_rfl
 rcases h.2 with⟨hv,hn⟩ | ⟨g,cap',cur,hv,_,hh,_⟩
 ·have:t=[]:=List.eq_nil_of_length_eq_zero hn
  subst this
  simp only[Value.slice.injEq] at hv
  obtain⟨rfl,_,rfl⟩:=hv
  rw[run_convert_bytes_string w _ _ 5 none _ 0 Tryd.undBytes hb Tryd.undString]
  rfl
 ·simp only[Value.slice.injEq] at hv
  obtain⟨rfl,_,rfl⟩:=hv
  refine run_convert_bytes_back w _ _ 5 _ cap t Tryd.undBytes hb Tryd.undString fun j hj=>?_
  exact h.cells (g:=g) rfl j _ (by simp[c8,hj])
theorem textT_succ(xss:List (List Int))(k:Nat)(h:k<xss.length):textT (xss.take (k+1))=textT (xss.take k)++clauseT (xss.getD k []):=by
 rw[List.take_succ_eq_append_getElem h]
 unfold textT
 rw[List.flatMap_append,List.getD_eq_getElem?_getD,List.getElem?_eq_getElem h]
 simp only[List.flatMap_cons,List.flatMap_nil,List.append_nil]
 rfl
theorem textT_le(xss:List (List Int))(k:Nat):(textT (xss.take k)).length≤(textT xss).length:=by
 have h:textT xss=textT (xss.take k)++textT (xss.drop k):=by
  unfold textT
  rw[← List.flatMap_append,List.take_append_drop]
 rw[h,List.length_append];omega
def wrT(xss:List (List Int)):List UInt8:=if litsB xss then (if 1000<(textT xss).length then [] else textT xss) else []
def wrE(xss:List (List Int)):Int:=if litsB xss then (if 1000<(textT xss).length then 2 else 0) else 4
theorem RowsAt.below{w w':World}{a:Option Addr}{A:Nat→Option Addr}{C:Nat→Nat}{xss:List (List Int)}(h:RowsAt w a A C xss)(hb:Below w.heap.size w w'):RowsAt w' a A C xss :=
 h.kept fun b off _ hv=>(hb.cell (p:=⟨b,off,none⟩) (World.block_lt_of_cell? w _ hv)).trans hv
theorem ret_text{s t:List UInt8}{a b:Int}(h:s=t)(h':a=b):Ending.returned (.tuple #[.string ⟨s.toArray⟩,.int .i64 a])=.returned (.tuple #[.string ⟨t.toArray⟩,.int .i64 b]):=by rw[h,h']
open Go.RowKit
theorem append_where{P:Program}{w:World}{base:Nat}{t ty e:TypeId}{i:TypeInfo}{z:Value}(ht:P.underlying t=some (.slice e))(hi:P.info? e=some i)(hz:i.zero=some z)
  {v:Value} {n:Nat} {xs:List Value} (hown:w.ownsRow base e i.size v n xs) {a:Addr} {m c:Nat} {news:List Value} (hl:news.length=m*i.size)
  (hnews:∀ j u,news[j]?=some u→w.cell? (a.add j)=some u) (h1:∀ u∈news,u.oneCell'=true) (h63:n+m≤maxLen) (hbytes:(n+m)*i.bytes≤140737488355328)
  {v':Value} {w':World} (hr:(Builtin.append_ #[t,t] ty #[v,.slice (some a) m c]).run P w=.ok v' w') (hm:0<m) :
  v'.ownBlock=v.ownBlock∨v'.ownBlock=some w.heap.size:=by
 have hsmall:n+m≤9223372036854775807:=by simp only[maxLen] at h63;omega
 rcases hown.2 with⟨rfl,rfl⟩ | ⟨g,cap,cur,rfl,hbg,hg,hnc,hcm,hcs,htake⟩
 ·have h2:=run_append_nil (P:=P) w t ty e i z ht hi hz a m c news hl hnews (by omega) (by omega) (by have hb:=hbytes;simp only[Nat.zero_add] at hb;omega)
  rw[h2] at hr
  cases hr
  exact .inr rfl
 ·by_cases hroom:n+m≤cap
  ·have hfit:n*i.size+news.length≤cur.size:=by rw[hl,hcs,← Nat.add_mul];exact Nat.mul_le_mul_right _ hroom
   have h2:=run_append_room (P:=P) w t ty e i ht hi g n cap cur hg a m c news hl hnews h1 hroom hfit
   rw[h2] at hr
   cases hr
   exact .inl rfl
  ·have h2:=run_append_grow (P:=P) w t ty e i z ht hi hz ⟨g,0,none⟩ n cap xs hown.1 (hown.cells (g:=g) rfl) a m c news hl hnews (by omega) (by omega) (growslice_fits (by omega) hbytes)
   rw[h2] at hr
   cases hr
   exact .inr rfl
theorem wpList_append_at{P:Program}(w:World){ops:Array Oper}{rest:List Oper}{o:Oper}{a:Act}{Q:Exit→Act→World→Prop}(hgd:o.guard=none)(s x:Operand)(t:TypeId)
  (ho:o.op=.call { callee:=.builtin .append,args:=#[s,x],argTypes:=#[t,t] })
  (base:Nat) (e:TypeId) (i:TypeInfo) (z:Value) (bytes:Nat) (ht:P.underlying t=some (.slice e)) (hi:P.info? e=some i) (hz:i.zero=some z)
  (hsize:i.size=1) (hby:i.bytes=bytes) (hzs:z.cells.size=1)
  (v:Value) (n:Nat) (xs:List Value) (hs:a.eval s=v) (hown:w.ownsRow base e 1 v n xs)
  (ad:Addr) (m c:Nat) (news:List Value) (hx:a.eval x=.slice (some ad) m c) (hl:news.length=m) (hnews:∀ j u,news[j]?=some u→w.cell? (ad.add j)=some u) (h1:∀ u∈news,u.oneCell'=true)
  (hm:0<m) (h63:n+m≤maxLen) (hbytes:(n+m)*bytes≤140737488355328) (hbase:base≤w.heap.size)
  (h:∀ v' w',w'.ownsRow base e 1 v' (n+m) (xs++news)→w.grownBy w' v.ownBlock→(v'.ownBlock=v.ownBlock∨v'.ownBlock=some w.heap.size)→wpList P ops Q rest (a.put o.dst v') w'):wpList P ops Q (o :: rest) a w:=by
 refine wpList_plain hgd fun K hK=>?_
 obtain⟨v',w',hr,h2,h3,_⟩:=run_append_own (P:=P) w base t o.type e i z 1 bytes ht hi hz hsize hby hzs (by decide) v n xs hown ad m c news (by omega) hnews h1 h63 hbytes hbase
 have h5:=append_where (P:=P) (w:=w) ht hi hz (by rw[hsize];exact hown) (by rw[hsize];omega) hnews h1 h63 (by rw[hby];exact hbytes) hr hm
 unfold Oper.wp execOp
 simp only[ho,resolve,invoke,builtin,Sem.run_bind,Sem.run_pure,Result.andThen_ok,List.map_toArray,List.map_cons,List.map_nil,hs,hx,hr]
 exact hK _ _ (h v' w' h2 h3 h5)
theorem wpList_append_sl{P:Program}(w:World){ops:Array Oper}{rest:List Oper}{o:Oper}{a:Act}{Q:Exit→Act→World→Prop}(hgd:o.guard=none)(s x:Operand)(t:TypeId)
  (ho:o.op=.call { callee:=.builtin .append,args:=#[s,x],argTypes:=#[t,t] })
  (base:Nat) (e:TypeId) (i:TypeInfo) (z:Value) (bytes:Nat) (ht:P.underlying t=some (.slice e)) (hi:P.info? e=some i) (hz:i.zero=some z)
  (hsize:i.size=1) (hby:i.bytes=bytes) (hzs:z.cells.size=1)
  (v:Value) (n:Nat) (xs:List Value) (hs:a.eval s=v) (hown:w.ownsRow base e 1 v n xs)
  (ad:Addr) (m c:Nat) (news:List Value) (hx:a.eval x=.slice (some ad) m c) (hl:news.length=m) (hnews:∀ j u,news[j]?=some u→w.cell? (ad.add j)=some u) (h1:∀ u∈news,u.oneCell'=true)
  (hm:0<m) (h63:n+m≤maxLen) (hbytes:(n+m)*bytes≤140737488355328) (hbase:base≤w.heap.size) (N:Nat) (hN:n+m=N)
  (h:∀ a' c' w',w'.ownsRow base e 1 (.slice a' N c') N (xs++news)→w.grownBy w' v.ownBlock→((Value.slice a' N c').ownBlock=v.ownBlock∨(Value.slice a' N c').ownBlock=some w.heap.size)→wpList P ops Q rest (a.put o.dst (.slice a' N c')) w'):wpList P ops Q (o :: rest) a w:=by
 refine wpList_append_at w hgd s x t ho base e i z bytes ht hi hz hsize hby hzs v n xs hs hown ad m c news hx hl hnews h1 hm h63 hbytes hbase fun v' w' h2 h3 h4=>?_
 subst hN
 rcases h2.2 with⟨rfl,h0⟩ | ⟨g,cap,cur,rfl,_⟩
 ·omega
 ·exact h _ _ w' h2 h3 h4
def Apart(u v:Value):Prop:=∀ b,u.ownBlock=some b→v.ownBlock≠some b
theorem Apart.symm{u v:Value}(h:Apart u v):Apart v u:=fun b hb hu=>h b hu hb
theorem apart_nil(u:Value):Apart u (.slice none 0 0):=fun _ _ h=>by simp[Value.ownBlock] at h
theorem apart_types{w:World}{b b' e e' s s':Nat}{u v:Value}{n m:Nat}{xs ys:List Value}(he:e≠e')(h:w.ownsRow b e s u n xs)(h':w.ownsRow b' e' s' v m ys):Apart u v:=by
 intro k hk hv
 rcases h.2 with⟨rfl,_⟩ | ⟨g,cap,cur,rfl,_,hg,_⟩
 ·simp[Value.ownBlock] at hk
 ·rcases h'.2 with⟨rfl,_⟩ | ⟨g',cap',cur',rfl,_,hg',_⟩
  ·simp[Value.ownBlock] at hv
  ·simp only[Value.ownBlock,Option.some.injEq] at hk hv
   subst hk;subst hv
   rw[hg] at hg'
   simp only[Option.some.injEq,Obj.cells.injEq] at hg'
   exact he hg'.2.1
theorem own_apart_kept{w w':World}{b e s:Nat}{u v:Value}{n:Nat}{xs:List Value}(h:w.ownsRow b e s u n xs)(hg:w.grownBy w' v.ownBlock)(ha:Apart u v):w'.ownsRow b e s u n xs:=by
 refine h.kept hg ?_
 cases hu:u.ownBlock with
 | none=>exact .inl rfl
 | some k=>exact .inr (fun e=>ha k hu e.symm)
theorem own_none_kept{w w':World}{b e s:Nat}{u:Value}{n:Nat}{xs:List Value}(h:w.ownsRow b e s u n xs)(hg:w.grownBy w' none):w'.ownsRow b e s u n xs :=
 h.kept hg (Classical.em _)
theorem apart_moved{w:World}{b e s:Nat}{u v v':Value}{n:Nat}{xs:List Value}(h:w.ownsRow b e s u n xs)(ha:Apart u v){k:Nat}(hk:w.heap.size≤k)(hv:v'.ownBlock=v.ownBlock∨v'.ownBlock=some k):Apart u v':=by
 intro j hj hv'
 rcases hv with hv | hv
 ·exact ha j hj (hv ▸ hv')
 ·rw[hv] at hv'
  simp only[Option.some.injEq] at hv'
  have:=(h.lt j hj).2
  omega
def i64s(xs:List Int):List Value:=xs.map (Value.int .i64)
theorem i64s_length(xs:List Int):(i64s xs).length=xs.length:=by simp[i64s]
theorem i64s_one(xs:List Int):∀ u∈i64s xs,u.oneCell'=true:=by
 intro u hu
 simp only[i64s,List.mem_map] at hu
 obtain⟨_,_,rfl⟩:=hu
 rfl
theorem own_list{w:World}{base e n:Nat}{v:Value}{cs:List Value}(xs:List Int)(hn:n=xs.length)(hcs:cs=i64s xs)(h:w.ownsRow base e 1 v n cs) :
  ∃ ao cap,v=.slice ao xs.length cap∧w.ownsRow base e 1 (.slice ao xs.length cap) xs.length (i64s xs):=by
 subst hn hcs
 rcases h.2 with⟨rfl,h0⟩ | ⟨g,cap,cur,rfl,_⟩
 ·refine⟨none,0,?_,?_⟩
  ·rw[h0]
  ·rw[h0] at h ⊢;exact h
 ·exact⟨_,_,rfl,h⟩
theorem own_rows{w:World}{base e:Nat}{v:Value}{n m:Nat}{vs:List Value}(hn:n=m)(h:w.ownsRow base e 1 v n vs) :
  ∃ ao cap,v=.slice ao m cap∧w.ownsRow base e 1 (.slice ao m cap) m vs:=by
 subst hn
 rcases h.2 with⟨rfl,h0⟩ | ⟨g,cap,cur,rfl,_⟩
 ·refine⟨none,0,?_,?_⟩
  ·rw[h0]
  ·rw[h0] at h ⊢;exact h
 ·exact⟨_,_,rfl,h⟩
def AllOwn(w:World)(base e:Nat):List Value→List (List Int)→Prop
 | [],[]=>True
 | u :: vs,c :: cs=>w.ownsRow base e 1 u c.length (i64s c)∧AllOwn w base e vs cs
 | _,_=>False
theorem AllOwn.snoc{w:World}{base e:Nat}{vs:List Value}{cs:List (List Int)}{u:Value}{c:List Int}(h:AllOwn w base e vs cs)(hu:w.ownsRow base e 1 u c.length (i64s c)):AllOwn w base e (vs++[u]) (cs++[c]):=by
 induction vs generalizing cs with
 | nil=>cases cs with
  | nil=>exact⟨hu,trivial⟩
  | cons c' cs=>exact h.elim
 | cons v vs ih=>cases cs with
  | nil=>exact h.elim
  | cons c' cs=>exact⟨h.1,ih h.2⟩
theorem AllOwn.map{w w':World}{base e:Nat}{vs:List Value}{cs:List (List Int)}(h:AllOwn w base e vs cs)(hk:∀ u∈vs,∀ n xs,w.ownsRow base e 1 u n xs→w'.ownsRow base e 1 u n xs):AllOwn w' base e vs cs:=by
 induction vs generalizing cs with
 | nil=>cases cs with
  | nil=>exact trivial
  | cons c' cs=>exact h.elim
 | cons v vs ih=>cases cs with
  | nil=>exact h.elim
  | cons c' cs=>exact⟨hk v (by simp) _ _ h.1,ih h.2 (fun u hu=>hk u (by simp[hu]))⟩
theorem AllOwn.length{w:World}{base e:Nat}{vs:List Value}{cs:List (List Int)}(h:AllOwn w base e vs cs):vs.length=cs.length:=by
 induction vs generalizing cs with
 | nil=>cases cs with
  | nil=>rfl
  | cons c' cs=>exact h.elim
 | cons v vs ih=>cases cs with
  | nil=>exact h.elim
  | cons c' cs=>simp[ih h.2]
theorem AllOwn.at{w:World}{base e:Nat}{vs:List Value}{cs:List (List Int)}(h:AllOwn w base e vs cs)(r:Nat)(hr:r<cs.length) :
  ∃ u,vs[r]?=some u∧w.ownsRow base e 1 u (cs.getD r []).length (i64s (cs.getD r [])):=by
 induction vs generalizing cs r with
 | nil=>cases cs with
  | nil=>simp at hr
  | cons c' cs=>exact h.elim
 | cons v vs ih=>cases cs with
  | nil=>exact h.elim
  | cons c' cs=>cases r with
   | zero=>exact⟨v,rfl,h.1⟩
   | succ r =>
    obtain⟨u,h1,h2⟩:=ih h.2 r (by simpa using hr)
    exact⟨u,by simpa using h1,by simpa using h2⟩
theorem AllOwn.mem{w:World}{base e:Nat}{vs:List Value}{cs:List (List Int)}(h:AllOwn w base e vs cs){u:Value}(hu:u∈vs):∃ xs,w.ownsRow base e 1 u xs.length (i64s xs):=by
 induction vs generalizing cs with
 | nil=>simp at hu
 | cons v vs ih=>cases cs with
  | nil=>exact h.elim
  | cons c' cs =>
   rcases List.mem_cons.1 hu with rfl | hu
   ·exact⟨c',h.1⟩
   ·exact ih h.2 hu
structure Lists(w:World)(base tl ti:Nat)(v:Value)(vs:List Value)(cs:List (List Int)):Prop where
 top:w.ownsRow base tl 1 v cs.length vs
 each:AllOwn w base ti vs cs
 apart:vs.Pairwise Apart
theorem own_intsAt{w:World}{base e:Nat}{ao:Option Addr}{cap n:Nat}{xs:List Int}(h:w.ownsRow base e 1 (.slice ao n cap) xs.length (i64s xs)):IntsAt w ao xs:=by
 rcases h.2 with⟨hv,h0⟩ | ⟨g,cap',cur,hv,_,hh,_⟩
 ·exact .inl (List.eq_nil_of_length_eq_zero h0)
 ·simp only[Value.slice.injEq] at hv
  obtain⟨rfl,rfl,rfl⟩:=hv
  refine .inr ⟨g,0,rfl,fun j hj=>?_⟩
  have:=h.cells (g:=g) rfl j (.int .i64 (xs.getD j 0)) (by simp[i64s,List.getElem?_eq_getElem hj])
  have hadd:(⟨g,0,none⟩:Addr).add j=⟨g,0+j,none⟩:=by unfold Addr.add;split <;> simp_all
  rwa [hadd] at this
theorem Lists.rowsAt{w:World}{base tl ti:Nat}{ao:Option Addr}{cap n:Nat}{vs:List Value}{cs:List (List Int)}(h:Lists w base tl ti (.slice ao n cap) vs cs)(hb:∀ c∈cs,c.length≤9223372036854775807) :
  ∃ A C,RowsAt w ao A C cs:=by
 refine⟨fun r=>match vs.getD r (.slice none 0 0) with | .slice a _ _=>a | _=>none,fun r=>match vs.getD r (.slice none 0 0) with | .slice _ _ c=>c | _=>0,?_⟩
 rcases h.top.2 with⟨hv,h0⟩ | ⟨g,cap',cur,hv,_,hh,_⟩
 ·exact .inl (List.eq_nil_of_length_eq_zero h0)
 ·simp only[Value.slice.injEq] at hv
  obtain⟨rfl,rfl,rfl⟩:=hv
  refine .inr ⟨g,0,rfl,fun r hr=>?_⟩
  obtain⟨u,h1,h2⟩:=h.each.at r hr
  have h3:=h.top.cells (g:=g) rfl r u h1
  have hadd:(⟨g,0,none⟩:Addr).add r=⟨g,0+r,none⟩:=by unfold Addr.add;split <;> simp_all
  rw[hadd] at h3
  obtain⟨a',c',rfl,h4⟩:=own_list (cs.getD r []) rfl rfl h2
  have hg:vs.getD r (.slice none 0 0)=.slice a' (cs.getD r []).length c':=by rw[List.getD_eq_getElem?_getD,h1];rfl
  dsimp only
  rw[hg]
  refine⟨h3,own_intsAt h4,hb _ ?_⟩
  rw[List.getD_eq_getElem?_getD,List.getElem?_eq_getElem hr]
  exact List.getElem_mem hr
end Go.Proofs.YthboeppmlhbofabDoor
