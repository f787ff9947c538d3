import Derived.Test.YthboeppmlhbofabDoorLau
import Derived.Deep.RegionHeld3
namespace Go.Proofs.YthboeppmlhbofabDoor
open Go.RowKit Txt
set_option maxRecDepth 100000
theorem append_lies_string{P:Program}{w:World}{base:Nat}{t u ty e:TypeId}{i:TypeInfo}(ht:P.underlying t=some (.slice e))(hu:P.underlying u=some .string)(hi:P.info? e=some i)(hz:i.zero=some (.int .u8 0))(hsize:i.size=1)(hby:i.bytes=1)
  {v:Value} {n:Nat} {xs:List Value} (hown:w.ownsRow base e 1 v n xs) {s:ByteArray} (h63:n+s.size≤maxLen) (hbytes:n+s.size≤140737488355328) (hs0:0<s.size)
  {v':Value} {w':World} (hr:(Builtin.append_ #[t,u] ty #[v,.string s]).run P w=.ok v' w'):Mov v v' w:=by
 have hsmall:n+s.size≤9223372036854775807:=by simp only[maxLen] at h63;omega
 have hxl:xs.length=n:=by simpa using hown.1
 rcases hown.2 with⟨rfl,rfl⟩ | ⟨g,cap,cur,rfl,hbg,hg,hnc,hcm,hcs,htake⟩
 ·have h2:=run_append_nil_string (P:=P) w t u ty e i (.int .u8 0) ht hu hi hz s (by omega) (by omega) (by rw[hby];omega)
  rw[h2] at hr
  cases hr
  intro b hb
  simp only[Value.ownBlock,Option.some.injEq] at hb
  right;omega
 ·by_cases hroom:n+s.size≤cap
  ·have hcs':cur.size=cap:=by simpa using hcs
   have h2:=Lib.run_append_room_string (P:=P) w t u ty e i ht hu hi hsize g n cap cur hg s hroom (by omega)
   rw[h2] at hr
   cases hr
   intro b hb
   left
   exact hb
  ·have holds:∀ j u,xs[j]?=some u→w.cell? ((⟨g,0,none⟩:Addr).add j)=some u:=hown.cells (g:=g) rfl
   have h2:=Lib.run_append_grow_string (P:=P) w t u ty e i (.int .u8 0) ht hu hi hz ⟨g,0,none⟩ n cap xs (by rw[hsize];simpa using hxl) holds s (by omega) (by omega) (by rw[hby];exact growslice_fits (by omega) (by omega))
   rw[h2] at hr
   cases hr
   intro b hb
   simp only[Value.ownBlock,Option.some.injEq] at hb
   right;omega
theorem wpList_append_str{P:Program}(w:World){ops:Array Oper}{rest:List Oper}{o:Oper}{a:Act}{Q:Exit→Act→World→Prop}(hgd:o.guard=none)(sl x:Operand)(t u:TypeId)
  (ho:o.op=.call { callee:=.builtin .append,args:=#[sl,x],argTypes:=#[t,u] })
  (base:Nat) (e:TypeId) (i:TypeInfo) (ht:P.underlying t=some (.slice e)) (hu:P.underlying u=some .string) (hi:P.info? e=some i) (hz:i.zero=some (.int .u8 0))
  (hsize:i.size=1) (hby:i.bytes=1)
  (v:Value) (n:Nat) (xs:List Value) (hs:a.eval sl=v) (hown:w.ownsRow base e 1 v n xs) (s:ByteArray) (hx:a.eval x=.string s)
  (h63:n+s.size≤maxLen) (hbytes:n+s.size≤140737488355328) (hbase:base≤w.heap.size) (hs0:0<s.size)
  (h:∀ v' w',w'.ownsRow base e 1 v' (n+s.size) (xs++Lib.strCells s)→w.grownBy w' v.ownBlock→Mov v v' w→wpList P ops Q rest (a.put o.dst v') w'):wpList P ops Q (o :: rest) a w:=by
 refine wpList_plain hgd fun K hK=>?_
 obtain⟨v',w',hr,h2,h3,h4⟩:=Lib.run_append_own_string (P:=P) w base t u o.type e i ht hu hi hz hsize hby v n xs hown s h63 hbytes hbase
 have h5:=append_lies_string ht hu hi hz hsize hby hown h63 hbytes hs0 hr
 unfold Oper.wp execOp
 simp only[ho,resolve,invoke,builtin,Sem.run_bind,Sem.run_pure,Result.andThen_ok,List.map_toArray,List.map_cons,List.map_nil,hs,hx,hr]
 exact hK _ _ (h v' w' h2 h3 h5)
theorem grownV_trans{v v1:Value}{w w1 w2:World}(h:w.grownBy w1 v.ownBlock)(hm:Mov v v1 w)(h':w1.grownBy w2 v1.ownBlock):w.grownBy w2 v.ownBlock :=
 ⟨h'.os.trans h.os,h'.tape.trans h.tape,h'.output.trans h.output,Nat.le_trans h.size h'.size,fun k hk hn=>(h'.block k (Nat.lt_of_lt_of_le hk h.size) (fun q=>(hm k q.symm).elim (fun z=>hn z.symm) (fun z=>by omega))).trans (h.block k hk hn)⟩
theorem grownV_below{w w':World}(r:Option Nat)(h:Below w.heap.size w w'):w.grownBy w' r:=⟨h.os,h.tape,h.output,h.size,fun k hk _=>h.block k hk⟩
theorem lies_mov{v:Value}{a':Option Addr}{n N c' H:Nat}{p:Prop}{w:World}(h:v=.slice a' n c'∨a'=some ⟨H,0,none⟩∧p)(hH:w.heap.size≤H):Mov v (.slice a' N c') w:=fun b hb=>by
 rcases lies_own (N:=N) h with q | q
 ·rw[← q];exact .inl hb
 ·rw[q,Option.some.injEq] at hb;right;omega
theorem tab_grown{w w':World}{r:Option Nat}(h:Tab w)(hg:w.grownBy w' r)(h0:0<w.heap.size)(hr:r≠some 0):Tab w' :=
 h.below (B:=1) ⟨hg.os,hg.tape,hg.output,hg.size,fun b hb=>hg.block b (by omega) (fun q=>by
  have:b=0:=by omega
  rw[this] at q
  exact hr q.symm)⟩ (by omega)
theorem own_diff{w:World}{B B' e e' s s' n n':Nat}{v v':Value}{xs xs':List Value}(h:w.ownsRow B e s v n xs)(h':w.ownsRow B' e' s' v' n' xs')(he:e≠e'):v.ownBlock=none∨v.ownBlock≠v'.ownBlock:=by
 rcases h.2 with⟨rfl,_⟩ | ⟨g,cap,cur,rfl,_,hg,_⟩
 ·exact .inl rfl
 ·right
  intro q
  rcases h'.2 with⟨rfl,_⟩ | ⟨g',cap',cur',rfl,_,hg',_⟩
  ·simp[Value.ownBlock] at q
  ·simp only[Value.ownBlock,Option.some.injEq] at q
   subst q
   rw[hg] at hg'
   simp only[Option.some.injEq,Obj.cells.injEq] at hg'
   exact he hg'.2.1
set_option maxHeartbeats 2000000 in
theorem appendLitG_any(ao:Option Addr)(cap:Nat)(t:List UInt8)(x:Int)(w:World)
  (htab:Hid (Tab w)) (hown:w.ownsRow 0 5 1 (.slice ao t.length cap) t.length (c8 t)) (ht:t.length≤1000000000) (hx:Hid (litB x=true)) :
  Calls Tryd.prog 72 #[.slice ao t.length cap,.int .i64 x] w fun e w'=>∃ ao' cap',e=.returned (.slice ao' (t++litT x).length cap') ∧
   w'.ownsRow 0 5 1 (.slice ao' (t++litT x).length cap') (t++litT x).length (c8 (t++litT x))∧w.grownBy w' (Value.slice ao t.length cap).ownBlock∧Mov (.slice ao t.length cap) (.slice ao' (t++litT x).length cap') w:=by
 obtain⟨i0,hi,hz0,hz1,hz2⟩:=info_parts Tryd.infoByte
 have hit:=(itoa_short hx.out)
 have c0:Hid (0<(⟨(Lib.itoa x).toArray⟩:ByteArray).size):=by show _<_;rw[size_arr];omega
 have c1:Hid (t.length+(⟨(Lib.itoa x).toArray⟩:ByteArray).size≤maxLen):=by
  show _≤_
  rw[size_arr];unfold maxLen;omega
 have c2:Hid (t.length+(⟨(Lib.itoa x).toArray⟩:ByteArray).size≤140737488355328):=by
  show _≤_
  rw[size_arr];omega
 have d1:Hid (t.length+(⟨(Lib.itoa x).toArray⟩:ByteArray).size+1≤maxLen):=by
  show _≤_
  rw[size_arr];unfold maxLen;omega
 have d2:Hid ((t.length+(⟨(Lib.itoa x).toArray⟩:ByteArray).size+1)*1≤140737488355328):=by
  show _≤_
  rw[size_arr];omega
 clear hit
 go_enter Tryd.func72,Tryd.ntmps72
 go_wp2_with (first
  | (go_at_call 87;refine(itoa_any _ hx.out _ htab).mono ?_;rintro e w1 ⟨rfl,hg1⟩;have hown1:=hown.kept hg1 (Classical.em _))
  | (at_builtin;refine wpList_append_str _ rfl _ _ 66 9 rfl 0 5 i0 Tryd.undBytes Tryd.undString hi hz0 hz1 hz2 (.slice ao t.length cap) t.length (c8 t) rfl hown1 ⟨(Lib.itoa x).toArray⟩ rfl c1.out c2.out (Nat.zero_le _) c0.out ?_;intro v2 w2 hown2 hg2 hm2)
  | (at_builtin;refine wpList_append_full _ rfl _ _ 66 rfl 0 5 i0 (.int .u8 0) 1 Tryd.undBytes hi hz0 hz1 hz2 rfl v2 _ _ rfl (hown2.alloc _) ⟨w2.heap.size,0,none⟩ 1 1 [.int .u8 32] rfl rfl (new_cells w2 [.int .u8 32] 5) (c8_one [32]) (by decide) d1.out d2.out (Nat.zero_le _) (w2.heap.size+1) (by simp) ?_;intro a3 c3 w3 hown3 hg3 hl3))
 have e1:t.length+(⟨(Lib.itoa x).toArray⟩:ByteArray).size+1=(t++litT x).length:=by rw[size_arr];simp[litT];omega
 have e2:c8 t++Lib.strCells ⟨(Lib.itoa x).toArray⟩++[.int .u8 32]=c8 (t++litT x):=by rw[strCells_arr];simp[litT,c8]
 rw[e1,e2] at hown3
 have k1:w.grownBy w1 (Value.slice ao t.length cap).ownBlock:=grownV_below _ (grown_none hg1)
 have k2:w.grownBy w2 (Value.slice ao t.length cap).ownBlock:=grownV_trans k1 (Mov.refl _ _) hg2
 have m2:Mov (.slice ao t.length cap) v2 w:=fun b hb=>(hm2 b hb).imp id fun q=>Nat.le_trans hg1.size q
 have k3:w.grownBy (w2.alloc (.cells [Value.int .u8 32].toArray 5)) (Value.slice ao t.length cap).ownBlock:=grownV_trans k2 m2 (grownV_below _ (alloc_below _ _))
 have k4:w.grownBy w3 (Value.slice ao t.length cap).ownBlock:=grownV_trans k3 m2 hg3
 have m3:Mov v2 (.slice a3 (t++litT x).length c3) w:=lies_mov hl3 (by have:=k2.size;omega)
 go_ret
 refine⟨a3,c3,?_,hown3,k4,fun b hb=>(m3 b hb).elim (m2 b) .inr⟩
 rw[← e1]
 rfl
set_option maxHeartbeats 2000000 in
theorem appendEndG_any(ao:Option Addr)(cap:Nat)(t:List UInt8)(w:World)
  (hown:w.ownsRow 0 5 1 (.slice ao t.length cap) t.length (c8 t)) (ht:t.length≤1000000000) :
  Calls Tryd.prog 73 #[.slice ao t.length cap] w fun e w'=>∃ ao' cap',e=.returned (.slice ao' (t++[48,10]).length cap') ∧
   w'.ownsRow 0 5 1 (.slice ao' (t++[48,10]).length cap') (t++[48,10]).length (c8 (t++[48,10]))∧w.grownBy w' (Value.slice ao t.length cap).ownBlock∧Mov (.slice ao t.length cap) (.slice ao' (t++[48,10]).length cap') w:=by
 obtain⟨i0,hi,hz0,hz1,hz2⟩:=info_parts Tryd.infoByte
 have d1:Hid (t.length+2≤maxLen):=by show _≤_;unfold maxLen;omega
 have d2:Hid ((t.length+2)*1≤140737488355328):=by show _≤_;omega
 go_enter Tryd.func73,Tryd.ntmps73
 go_wp2_with (at_builtin;refine wpList_append_full _ rfl _ _ 66 rfl 0 5 i0 (.int .u8 0) 1 Tryd.undBytes hi hz0 hz1 hz2 rfl (.slice ao t.length cap) t.length (c8 t) rfl (hown.alloc _) ⟨w.heap.size,0,none⟩ 2 2 [.int .u8 48,.int .u8 10] rfl rfl (new_cells w [.int .u8 48,.int .u8 10] 5) (c8_one [48,10]) (by decide) d1.out d2.out (Nat.zero_le _) (w.heap.size+1) (by simp) ?_;intro a3 c3 w3 hown3 hg3 hl3)
 have e1:t.length+2=(t++[48,10]).length:=by simp
 have e2:c8 t++[.int .u8 48,.int .u8 10]=c8 (t++[48,10]):=by simp[c8]
 rw[e1,e2] at hown3
 have k4:w.grownBy w3 (Value.slice ao t.length cap).ownBlock:=grownV_trans (grownV_below _ (alloc_below _ _)) (Mov.refl _ _) hg3
 have m3:Mov (.slice ao t.length cap) (.slice a3 (t++[48,10]).length c3) w:=lies_mov hl3 (by omega)
 go_ret
 refine⟨a3,c3,?_,hown3,k4,m3⟩
 rw[← e1]
 rfl
set_option maxHeartbeats 4000000 in
theorem appendLine_any(ao:Option Addr)(cap:Nat)(t:List UInt8)(lt:UInt8)(a:Option Addr)(c b0:Nat)(xs:List Int)(w:World)(h0:0<w.heap.size)(hn0:(Value.slice ao t.length cap).ownBlock≠some 0)
  (htab:Tab w) (hown:w.ownsRow 0 5 1 (.slice ao t.length cap) t.length (c8 t)) (ht:t.length≤100000000) (hol:w.ownsRow b0 3 1 (.slice a xs.length c) xs.length (i64s xs)) (hlit:xs.all litB=true) (hxl:xs.length≤1000) :
  Calls Tryd.prog 55 #[.slice ao t.length cap,.agg #[.int .u8 (lt.toNat:Int),.slice a xs.length c]] w fun e w'=>∃ ao' cap',e=.returned (.slice ao' (t++lineT lt xs).length cap') ∧
   w'.ownsRow 0 5 1 (.slice ao' (t++lineT lt xs).length cap') (t++lineT lt xs).length (c8 (t++lineT lt xs))∧w.grownBy w' (Value.slice ao t.length cap).ownBlock∧Mov (.slice ao t.length cap) (.slice ao' (t++lineT lt xs).length cap') w:=by
 obtain⟨i0,hi,hz0,hz1,hz2⟩:=info_parts Tryd.infoByte
 have d1:Hid (t.length+2≤maxLen):=by show _≤_;unfold maxLen;omega
 have d2:Hid ((t.length+2)*1≤140737488355328):=by show _≤_;omega
 have HIN:=hide (And.intro htab (And.intro hown (And.intro hol hlit)))
 have hne:(Value.slice a xs.length c).ownBlock=none∨(Value.slice a xs.length c).ownBlock≠(Value.slice ao t.length cap).ownBlock:=own_diff hol hown (by decide)
 have HNE:=hide hne
 have HN0:=hide hn0
 have r0:Row (w.alloc (.cells #[.int .u8 (lt.toNat:Int),.slice a xs.length c] 76)) w.heap.size 76 [.int .u8 (lt.toNat:Int),.slice a xs.length c]:=heap_alloc_new w _
 have R0:=hide r0
 have x0:(w.alloc (.cells #[.int .u8 (lt.toNat:Int),.slice a xs.length c] 76)).cell? ⟨w.heap.size,0,none⟩=some (.int .u8 (lt.toNat:Int)):=(r0.cell 0).trans rfl
 have x1:(w.alloc (.cells #[.int .u8 (lt.toNat:Int),.slice a xs.length c] 76)).cell? ⟨w.heap.size,1,none⟩=some (.slice a xs.length c):=(r0.cell 1).trans rfl
 have O0:=hide (hown.alloc (.cells #[.int .u8 (lt.toNat:Int),.slice a xs.length c] 76))
 have B0:=hide (alloc_below w (.cells #[.int .u8 (lt.toNat:Int),.slice a xs.length c] 76))
 have hsz:(w.alloc (.cells #[.int .u8 (lt.toNat:Int),.slice a xs.length c] 76)).heap.size=w.heap.size+1:=by simp
 clear htab hown hol hlit hne hn0 r0
 go_enter Tryd.func55,Tryd.ntmps55
 go_wp2_with (at_builtin;refine wpList_append_full _ rfl _ _ 66 rfl 0 5 i0 (.int .u8 0) 1 Tryd.undBytes hi hz0 hz1 hz2 rfl (.slice ao t.length cap) t.length (c8 t) rfl (O0.out.alloc _) ⟨w.heap.size+1,0,none⟩ 2 2 [.int .u8 (lt.toNat:Int),.int .u8 32] rfl rfl (new_cells2 _ _ (by simp) [.int .u8 (lt.toNat:Int),.int .u8 32] 5) (by intro u hu;simp at hu;rcases hu with rfl|rfl <;> rfl) (by decide) d1.out d2.out (Nat.zero_le _) (w.heap.size+1+1) (by simp) ?_;intro a3 c3 w3 hown3 hg3 hl3;have R3:=hide (row_grownN (row_below R0.out (alloc_below _ _)) (O0.out.alloc _) (by decide) hg3);have y1:w3.cell? ⟨w.heap.size,1,none⟩=some (.slice a xs.length c):=(R3.out.cell 1).trans rfl)
 have G3:Hid (w.grownBy w3 (Value.slice ao t.length cap).ownBlock):=grownV_trans (grownV_below _ (B0.out.trans ((alloc_below _ _).mono B0.out.size))) (Mov.refl _ _) hg3
 have M3:Hid (Mov (Value.slice ao t.length cap) (.slice a3 (t++([lt,32]++litsT (xs.take 0))).length c3) w):=lies_mov hl3 (by omega)
 have e1:t.length+2=(t++([lt,32]++litsT (xs.take 0))).length:=by simp[litsT]
 have e2:c8 t++[.int .u8 (lt.toNat:Int),.int .u8 32]=c8 (t++([lt,32]++litsT (xs.take 0))):=by simp[c8,litsT]
 have O3:Hid (w3.ownsRow 0 5 1 (.slice a3 (t++([lt,32]++litsT (xs.take 0))).length c3) (t++([lt,32]++litsT (xs.take 0))).length (c8 (t++([lt,32]++litsT (xs.take 0))))):=by
  have:=hown3
  rw[e1,e2] at this
  exact this
 have E1:=hide e1
 clear hown3 hg3 hl3 x0 x1 R0 O0 B0 hsz e1 e2 y1 R3
 go_loopw [0,15] (fun s i wr=>∃ (k:Nat) (ao1:Option Addr) (cap1:Nat) (t1:List UInt8),k≤xs.length∧i=.int .i64 k∧s=.slice ao1 t1.length cap1∧t1.length≤t.length+2+4*k∧Hid (t1=t++([lt,32]++litsT (xs.take k)))∧Hid (wr.ownsRow 0 5 1 (.slice ao1 t1.length cap1) t1.length (c8 t1))∧Hid (w.grownBy wr (Value.slice ao t.length cap).ownBlock)∧Hid (Mov (Value.slice ao t.length cap) (.slice ao1 t1.length cap1) w)) (fun _ i _=>xs.length - (intOf i).toNat)
 case atStart=>exact⟨0,a3,c3,_,Nat.zero_le _,rfl,by rw[← E1.out],by have:=E1.out;omega,rfl,O3,G3,M3⟩
 case round =>
  clear G3 M3 O3 E1
  obtain⟨k,ao1,cap1,t1,hk,rfl,rfl,hl1,ET,O,G,M⟩:=hrel
  have TB:Hid (Tab wr):=tab_grown HIN.out.1 G.out h0 HN0.out
  have OI:Hid (wr.ownsRow b0 3 1 (.slice a xs.length c) xs.length (i64s xs)):=HIN.out.2.2.1.kept G.out HNE.out
  by_cases hlt:k<xs.length
  ·obtain⟨b,off,rfl,hc⟩:=(own_intsAt OI.out).get (by omega)
   have hck:=hc k hlt
   have hx:litB (xs.getD k 0)=true:=by
    have:=List.all_eq_true.1 HIN.out.2.2.2 (xs.getD k 0) (by rw[List.getD_eq_getElem?_getD,List.getElem?_eq_getElem hlt];exact List.getElem_mem hlt)
    exact this
   have HS:Hid (litsT (xs.take (k+1))=litsT (xs.take k)++litT (xs.getD k 0)):=litsT_succ xs k hlt
   clear hc OI
   generalize xs.getD k 0=x at hck hx HS
   have hit:=itoa_short hx
   have HX:=hide hx
   have HAL:=hide (appendLitG_any ao1 cap1 t1 x wr TB O.out (by omega) HX)
   have i1':(0:Int)≤(k:Int):=by omega
   have i2':(k:Int)<(xs.length:Int):=by omega
   clear hx
   go_wp2_with fail
   refine(unhide HAL).mono ?_
   rintro e w4 ⟨ao4,cap4,rfl,ho4,hg4,hm4⟩
   have O4:=hide ho4
   have G4:=hide (grownV_trans G.out M.out hg4)
   have M4:Hid (Mov (Value.slice ao t.length cap) (.slice ao4 (t1++litT x).length cap4) w):=M.out.trans hm4 G.out.size
   have L4:(t1++litT x).length≤t.length+2+4*(k+1):=by simp[litT];omega
   have E4:Hid (t1++litT x=t++([lt,32]++litsT (xs.take (k+1)))):=by show _=_;rw[ET.out,HS.out];simp
   clear ho4 hg4 hm4 HAL
   generalize t1++litT x=t4 at *
   go_wp2
   go_roundw
   case rel=>exact⟨k+1,ao4,cap4,t4,by omega,by go_num,rfl,L4,E4,O4,G4,M4⟩
   case measure=>simp[intOf];omega
  ·have E5:Hid (t1=t++([lt,32]++litsT xs)):=by show _=_;rw[ET.out,List.take_of_length_le (by omega)]
   have HAE:=hide (appendEndG_any ao1 cap1 t1 wr O.out (by omega))
   go_wp2_with fail
   refine(unhide HAE).mono ?_
   rintro e w4 ⟨ao4,cap4,rfl,ho4,hg4,hm4⟩
   have O4:=hide ho4
   have G4:=hide (grownV_trans G.out M.out hg4)
   have M4:Hid (Mov (Value.slice ao t.length cap) (.slice ao4 (t1++[48,10]).length cap4) w):=M.out.trans hm4 G.out.size
   have E6:Hid (t1++[48,10]=t++lineT lt xs):=by show _=_;rw[E5.out,lineT];simp
   clear ho4 hg4 hm4 HAE
   generalize t1++[48,10]=t4 at *
   go_wp2
   go_ret
   rw[← E6.out]
   exact⟨ao4,cap4,rfl,O4.out,G4.out,M4.out⟩
def svCells(r h l:Int)(v3:Value)(em se:Nat)(v6 v7:Value)(lo un:Nat):List Value :=
 [.int .i64 r,.int .i64 h,.int .i64 l,v3,.int .i64 em,.int .i64 se,v6,v7,.int .i64 lo,.int .i64 un]
set_option maxHeartbeats 1000000 in
theorem proofG_any(g:Nat)(r h l:Int)(v3 v6:Value)(em se lo un:Nat)(pa:Option Addr)(pc:Nat)(pf:List UInt8)(w:World)(hr:Row w g 68 (svCells r h l v3 em se v6 (.slice pa pf.length pc) lo un))(ho:w.ownsRow 0 5 1 (.slice pa pf.length pc) pf.length (c8 pf)) :
  Calls Tryd.prog 14 #[.pointer (some ⟨g,0,none⟩)] w fun e w'=>e=.returned (.string (bA pf))∧w'=w:=by
 have hcv:(convert 66 9 (.slice pa pf.length pc)).run Tryd.prog w=.ok (.string ⟨pf.toArray⟩) w:=conv_own ho
 have c7:w.cell? ⟨g,7,none⟩=some (.slice pa pf.length pc):=(hr.cell 7).trans rfl
 clear hr
 go_enter Tryd.func14,Tryd.ntmps14
 go_wp2
 go_ret
 exact⟨rfl,rfl⟩
set_option maxHeartbeats 2000000 in
theorem resetG_any(g:Nat)(r h l:Int)(v3 v6 v7:Value)(em se lo un:Nat)(w:World)(hr:Row w g 68 (svCells r h l v3 em se v6 v7 lo un)) :
  Calls Tryd.prog 24 #[.pointer (some ⟨g,0,none⟩)] w fun e w'=>e=.returned (.tuple #[])∧Row w' g 68 (svCells r h l (.slice none 0 0) 0 0 (.slice none 0 0) (.slice none 0 0) 0 0)∧w.grownBy w' (some g):=by
 have c0:w.cell? ⟨g,0,none⟩=some (.int .i64 r):=(hr.cell 0).trans rfl
 have c1:w.cell? ⟨g,1,none⟩=some (.int .i64 h):=(hr.cell 1).trans rfl
 have c2:w.cell? ⟨g,2,none⟩=some (.int .i64 l):=(hr.cell 2).trans rfl
 have c3:w.cell? ⟨g,3,none⟩=some v3:=(hr.cell 3).trans rfl
 have c4:w.cell? ⟨g,4,none⟩=some (.int .i64 em):=(hr.cell 4).trans rfl
 have c5:w.cell? ⟨g,5,none⟩=some (.int .i64 se):=(hr.cell 5).trans rfl
 have c6:w.cell? ⟨g,6,none⟩=some v6:=(hr.cell 6).trans rfl
 have c7:w.cell? ⟨g,7,none⟩=some v7:=(hr.cell 7).trans rfl
 have c8:w.cell? ⟨g,8,none⟩=some (.int .i64 lo):=(hr.cell 8).trans rfl
 have c9:w.cell? ⟨g,9,none⟩=some (.int .i64 un):=(hr.cell 9).trans rfl
 have z0:=hr.frozen 0
 have z1:=hr.frozen 1
 have z2:=hr.frozen 2
 have z3:=hr.frozen 3
 have z4:=hr.frozen 4
 have z5:=hr.frozen 5
 have z6:=hr.frozen 6
 have z7:=hr.frozen 7
 have z8:=hr.frozen 8
 have z9:=hr.frozen 9
 have HR:=hide hr
 clear hr
 go_enter Tryd.func24,Tryd.ntmps24
 go_wp2
 go_end0
 refine⟨rfl,?_,?_⟩
 ·exact(((((((((HR.out.set 0 _).set 1 _).set 2 _).set 3 _).set 4 _).set 5 _).set 6 _).set 7 _).set 8 _).set 9 _
 ·exact grown_set (grown_set (grown_set (grown_set (grown_set (grown_set (grown_set (grown_set (grown_set (grown_set (grown_self w _))))))))))
set_option maxHeartbeats 4000000 in
theorem add_emptyG(g:Nat)(a:Option Addr)(c:Nat)(xs:List Int)(r h l:Int)(ta:Option Addr)(ss:List Pr)(tc em se:Nat)(v6 v7:Value)(lo un:Nat)(w:World)(hx:xs.length≤9223372036854775807)(hi:IntsAt w a xs)(hall:xs.all litB=true)(ht:(posN xs&&&negN xs != 0)=false)
  (hr:Row w g 68 (svCells r h l (.slice ta ss.length tc) em se v6 v7 lo un)) (hz:prSize (posN xs,negN xs)=0) (hem:em≤9223372036854775806) :
  Calls Tryd.prog 23 #[.pointer (some ⟨g,0,none⟩),.slice a xs.length c] w fun e w'=>e=.returned (.int .i64 0)∧Row w' g 68 (svCells r h l (.slice ta ss.length tc) (em+1) se v6 v7 lo un)∧Kept w w' g (.slice none 0 0):=by
 have HO:=hide (of_any a c xs w hx hi)
 have e1:posOk xs=posN xs:=by simp[posOk,hall]
 have e2:negOk xs=negN xs:=by simp[negOk,hall]
 have HT:Hid (∀ w,Calls Tryd.prog 44 #[.agg #[.int .i64 (posN xs:Nat),.int .i64 (negN xs:Nat)]] w fun e w'=>e=.returned (.bool false)∧Below w.heap.size w w'):=fun w=>by
  have:=isTaut_any (posN xs) (negN xs) (posN_lt xs hall) (negN_lt xs hall) w
  rwa [ht] at this
 have HZ:Hid (∀ w,Calls Tryd.prog 45 #[.agg #[.int .i64 (posN xs:Nat),.int .i64 (negN xs:Nat)]] w fun e w'=>e=.returned (.int .i64 (prSize (posN xs,negN xs):Nat))∧Below w.heap.size w w'):=fun w=>lsize_any (posN xs) (negN xs) (posN_lt xs hall) (negN_lt xs hall) w
 rw[hall,e1,e2] at HO
 have h1:=prSize_le (posN xs,negN xs)
 generalize prSize (posN xs,negN xs)=z at *
 subst hz
 generalize posN xs=t at *
 generalize negN xs=f at *
 have HR:=hide hr
 clear hi hall e1 e2 ht hr
 go_enter Tryd.func23,Tryd.ntmps23
 go_wp2_with fail
 refine(unhide HO).mono ?_
 rintro e w2 ⟨rfl,hb2⟩
 have hs2:w.heap.size≤w2.heap.size:=hb2.size
 have HB:Hid (∀ x,Below w.heap.size w (w2.alloc x)):=fun x=>hb2.alloc hb2.size x
 clear hb2
 go_wp2_with fail
 refine(unhide HT _).mono ?_
 have m0:=new_cells1 w2 [.int .i64 (t:Nat),.int .i64 (f:Nat)] 84 0 _ rfl
 have m1:=new_cells1 w2 [.int .i64 (t:Nat),.int .i64 (f:Nat)] 84 1 _ rfl
 rw[addr0] at m0 m1
 simp only[Nat.zero_add] at m0 m1
 have e3:w2.heap.size<(w2.alloc (.cells #[.int .i64 (t:Nat),.int .i64 (f:Nat)] 84)).heap.size:=by simp
 have hbb:=HB.out (.cells #[.int .i64 (t:Nat),.int .i64 (f:Nat)] 84)
 generalize w2.alloc (.cells #[.int .i64 (t:Nat),.int .i64 (f:Nat)] 84)=wb at *
 rintro e w3 ⟨rfl,hb3⟩
 have F:Hid (∀ w',Below w3.heap.size w3 w'→w'.cell? ⟨w2.heap.size,0,none⟩=some (.int .i64 (t:Nat))∧w'.cell? ⟨w2.heap.size,1,none⟩=some (.int .i64 (f:Nat))∧w'.cell? ⟨g,3,none⟩=some (.slice ta ss.length tc)∧Below w.heap.size w w'):=by
  intro w' hb
  have hw3:Below w.heap.size w w3:=hbb.trans (hb3.mono (by omega))
  have hw':Below w.heap.size w w':=hw3.trans (hb.mono hw3.size)
  have hx3:w2.heap.size<w3.heap.size:=Nat.lt_of_lt_of_le e3 hb3.size
  exact⟨(hb.cell (p:=⟨w2.heap.size,0,none⟩) hx3).trans ((hb3.cell (p:=⟨w2.heap.size,0,none⟩) e3).trans m0),(hb.cell (p:=⟨w2.heap.size,1,none⟩) hx3).trans ((hb3.cell (p:=⟨w2.heap.size,1,none⟩) e3).trans m1),((row_below HR.out hw').cell 3).trans rfl,hw'⟩
 have hx3:w2.heap.size<w3.heap.size:=Nat.lt_of_lt_of_le e3 hb3.size
 clear hb3 hbb m0 m1 e3 HB HT HO
 obtain⟨f0,f1,f2,_⟩:=F.out w3 (Below.refl _ _)
 go_wp2_with fail
 refine(unhide HZ _).mono ?_
 rintro e w4 ⟨rfl,hb4⟩
 have hbw:Below w.heap.size w w4:=(F.out w4 hb4).2.2.2
 have R2:=hide (row_below HR.out hbw)
 have c4:w4.cell? ⟨g,4,none⟩=some (.int .i64 em):=(R2.out.cell 4).trans rfl
 have z4:=R2.out.frozen 4
 have HBW:=hide hbw
 have HE:Hid (((em+1:Nat):Int)=(em:Int)+1):=by show _=_;omega
 clear hb4 hbw F
 go_wp2
 go_ret
 refine⟨rfl,?_,(Kept.of g _ HBW.out).set 4 _⟩
 have:=R2.out.set 4 (.int .i64 ((em:Int)+1))
 rw[← HE.out] at this
 exact this
set_option maxHeartbeats 4000000 in
theorem add_fullG(g:Nat)(a:Option Addr)(c:Nat)(xs:List Int)(r h l:Int)(ta:Option Addr)(ss:List Pr)(tc em se:Nat)(v6 v7:Value)(lo un:Nat)(w:World)(hx:xs.length≤9223372036854775807)(hi:IntsAt w a xs)(hall:xs.all litB=true)(ht:(posN xs&&&negN xs != 0)=false)
  (hr:Row w g 68 (svCells r h l (.slice ta ss.length tc) em se v6 v7 lo un)) (hsa:SetsAt w ta ss) (hsl:ss.length≤1000000) (hsb:Hid (∀ p∈ss,p.1<2^11∧p.2<2^11)) (hz0:prSize (posN xs,negN xs)≠0) (hfull:150<prSize (posN xs,negN xs)+totalN ss) :
  Calls Tryd.prog 23 #[.pointer (some ⟨g,0,none⟩),.slice a xs.length c] w fun e w'=>e=.returned (.int .i64 5)∧Below w.heap.size w w':=by
 have HO:=hide (of_any a c xs w hx hi)
 have e1:posOk xs=posN xs:=by simp[posOk,hall]
 have e2:negOk xs=negN xs:=by simp[negOk,hall]
 have HT:Hid (∀ w,Calls Tryd.prog 44 #[.agg #[.int .i64 (posN xs:Nat),.int .i64 (negN xs:Nat)]] w fun e w'=>e=.returned (.bool false)∧Below w.heap.size w w'):=fun w=>by
  have:=isTaut_any (posN xs) (negN xs) (posN_lt xs hall) (negN_lt xs hall) w
  rwa [ht] at this
 have HZ:Hid (∀ w,Calls Tryd.prog 45 #[.agg #[.int .i64 (posN xs:Nat),.int .i64 (negN xs:Nat)]] w fun e w'=>e=.returned (.int .i64 (prSize (posN xs,negN xs):Nat))∧Below w.heap.size w w'):=fun w=>lsize_any (posN xs) (negN xs) (posN_lt xs hall) (negN_lt xs hall) w
 have HTT:Hid (∀ w',Below w.heap.size w w'→Calls Tryd.prog 42 #[.slice ta ss.length tc] w' fun e w''=>e=.returned (.int .i64 (totalN ss:Nat))∧Below w'.heap.size w' w''):=fun w' hb=>total_any ta tc ss w' (hsa.below hb) hsl hsb
 have h2:=totalN_le ss
 rw[hall,e1,e2] at HO
 have h1:=prSize_le (posN xs,negN xs)
 generalize prSize (posN xs,negN xs)=z at *
 generalize totalN ss=tot at *
 generalize posN xs=t at *
 generalize negN xs=f at *
 have HR:=hide hr
 have hfi:((z:Int)+tot > 150):=by omega
 clear hi hall e1 e2 ht hr hsa
 go_enter Tryd.func23,Tryd.ntmps23
 go_wp2_with fail
 refine(unhide HO).mono ?_
 rintro e w2 ⟨rfl,hb2⟩
 have hs2:w.heap.size≤w2.heap.size:=hb2.size
 have HB:Hid (∀ x,Below w.heap.size w (w2.alloc x)):=fun x=>hb2.alloc hb2.size x
 clear hb2
 go_wp2_with fail
 refine(unhide HT _).mono ?_
 have m0:=new_cells1 w2 [.int .i64 (t:Nat),.int .i64 (f:Nat)] 84 0 _ rfl
 have m1:=new_cells1 w2 [.int .i64 (t:Nat),.int .i64 (f:Nat)] 84 1 _ rfl
 rw[addr0] at m0 m1
 simp only[Nat.zero_add] at m0 m1
 have e3:w2.heap.size<(w2.alloc (.cells #[.int .i64 (t:Nat),.int .i64 (f:Nat)] 84)).heap.size:=by simp
 have hbb:=HB.out (.cells #[.int .i64 (t:Nat),.int .i64 (f:Nat)] 84)
 generalize w2.alloc (.cells #[.int .i64 (t:Nat),.int .i64 (f:Nat)] 84)=wb at *
 rintro e w3 ⟨rfl,hb3⟩
 have F:Hid (∀ w',Below w3.heap.size w3 w'→w'.cell? ⟨w2.heap.size,0,none⟩=some (.int .i64 (t:Nat))∧w'.cell? ⟨w2.heap.size,1,none⟩=some (.int .i64 (f:Nat))∧w'.cell? ⟨g,3,none⟩=some (.slice ta ss.length tc)∧Below w.heap.size w w'):=by
  intro w' hb
  have hw3:Below w.heap.size w w3:=hbb.trans (hb3.mono (by omega))
  have hw':Below w.heap.size w w':=hw3.trans (hb.mono hw3.size)
  have hx3:w2.heap.size<w3.heap.size:=Nat.lt_of_lt_of_le e3 hb3.size
  exact⟨(hb.cell (p:=⟨w2.heap.size,0,none⟩) hx3).trans ((hb3.cell (p:=⟨w2.heap.size,0,none⟩) e3).trans m0),(hb.cell (p:=⟨w2.heap.size,1,none⟩) hx3).trans ((hb3.cell (p:=⟨w2.heap.size,1,none⟩) e3).trans m1),((row_below HR.out hw').cell 3).trans rfl,hw'⟩
 have hx3:w2.heap.size<w3.heap.size:=Nat.lt_of_lt_of_le e3 hb3.size
 clear hb3 hbb m0 m1 e3 HB HT HO
 obtain⟨f0,f1,f2,_⟩:=F.out w3 (Below.refl _ _)
 go_wp2_with fail
 refine(unhide HZ _).mono ?_
 rintro e w4 ⟨rfl,hb4⟩
 clear f0 f1 f2
 obtain⟨f0,f1,f2,_⟩:=F.out w4 hb4
 have Bc:Hid (Below w3.heap.size w3 w4.drew):=below_drewN hb4 1
 clear hb4
 have hwrap:IntKind.i64.wrap ((z:Int)+tot)=(z:Int)+tot:=by rw[IntKind.wrap_i64];omega
 have hzi:(((z:Nat):Int) == 0)=false:=by simp;omega
 go_wp2_with fail
 go_region_with (first
  | (go_at_call 45;refine(unhide HZ _).mono ?_;rintro e wa ⟨rfl,hba⟩;have Bc:Hid (Below w3.heap.size w3 wa):=Bc.out.trans (hba.mono Bc.out.size);clear hba;obtain⟨f0,f1,f2,_⟩:=F.out wa Bc.out)
  | (go_at_call 42;refine(unhide HTT _ (F.out _ Bc.out).2.2.2).mono ?_;rintro e wa ⟨rfl,hba⟩;have Bc:Hid (Below w3.heap.size w3 wa):=Bc.out.trans (hba.mono Bc.out.size);clear hba;obtain⟨f0,f1,f2,_⟩:=F.out wa Bc.out))
 all_goals
  go_wp2
  go_ret
  exact⟨rfl,(F.out _ Bc.out).2.2.2⟩
set_option maxHeartbeats 4000000 in
theorem refusal_any(a:Option Addr)(c:Nat)(xs:List Int)(b:Int)(w:World)(hr:IntsAt w a xs)(hx:xs.length≤9223372036854775807) :
  Calls Tryd.prog 30 #[.slice a xs.length c,.int .i64 b] w fun e w'=>e=.returned (.int .i64 (askedD xs b))∧Below w.heap.size w w':=by
 have HO:=hide (of_any a c xs w (by omega) hr)
 have HB:Hid (∀ w' x,Below w.heap.size w w'→Below w.heap.size w (w'.alloc x)):=fun w' x hb=>hb.alloc hb.size x
 clear hr
 by_cases h20:20<xs.length
 ·have e0:askedD xs b=2:=by unfold askedD;rw[if_pos h20]
  rw[e0]
  have hi:((xs.length:Int) > 20):=by omega
  clear HO h20 e0
  go_enter Tryd.func30,Tryd.ntmps30
  go_wp2
  go_ret
  exact⟨rfl,Below.refl _ _⟩
 ·have hi:¬ ((xs.length:Int) > 20):=by omega
  cases hall:xs.all litB with
  | false =>
   have e0:askedD xs b=4:=by unfold askedD;rw[if_neg h20,if_pos hall]
   rw[e0]
   rw[hall] at HO
   clear h20 e0 hall
   go_enter Tryd.func30,Tryd.ntmps30
   go_wp2_with fail
   refine(unhide HO).mono ?_
   rintro e w1 ⟨rfl,hb1⟩
   have B1:=hide hb1
   clear hb1
   go_wp2
   go_ret
   exact⟨rfl,HB.out _ _ B1.out⟩
  | true =>
   rw[hall] at HO
   by_cases hb:b<0
   ·have e0:askedD xs b=6:=by unfold askedD;rw[if_neg h20,if_neg (by rw[hall];simp),if_pos hb]
    rw[e0]
    clear h20 e0 hall
    go_enter Tryd.func30,Tryd.ntmps30
    go_wp2_with fail
    refine(unhide HO).mono ?_
    rintro e w1 ⟨rfl,hb1⟩
    have B1:=hide hb1
    clear hb1
    go_wp2
    go_ret
    exact⟨rfl,HB.out _ _ B1.out⟩
   ·have e0:askedD xs b=0:=by unfold askedD;rw[if_neg h20,if_neg (by rw[hall];simp),if_neg hb]
    rw[e0]
    clear h20 e0 hall
    go_enter Tryd.func30,Tryd.ntmps30
    go_wp2_with fail
    refine(unhide HO).mono ?_
    rintro e w1 ⟨rfl,hb1⟩
    have B1:=hide hb1
    clear hb1
    go_wp2
    go_ret
    exact⟨rfl,HB.out _ _ B1.out⟩
set_option maxHeartbeats 4000000 in
theorem see_any(g:Nat)(r h l:Int)(v3 v6 v7:Value)(em se lo un:Nat)(a:Option Addr)(c:Nat)(xs:List Int)(w:World)(hr:Row w g 68 (svCells r h l v3 em se v6 v7 lo un))(hi:IntsAt w a xs)(hx:xs.length≤1000000)(hse:se<2^11) :
  Calls Tryd.prog 31 #[.pointer (some ⟨g,0,none⟩),.slice a xs.length c] w fun e w'=>e=.returned (.tuple #[])∧Row w' g 68 (svCells r h l v3 em (se|||vN (setOk xs)) v6 v7 lo un)∧w.grownBy w' (some g):=by
 have HO:=hide (of_any a c xs w (by omega) hi)
 have h2:=(Two.ok xs).eq
 rw[h2.1,h2.2] at HO
 have HV:Hid (∀ w,Calls Tryd.prog 46 #[.agg #[.int .i64 (tN (setOk xs):Nat),.int .i64 (fN (setOk xs):Nat)]] w fun e w'=>e=.returned (.int .i64 (vN (setOk xs):Nat))∧Below w.heap.size w w'):=fun w=>lvars_any _ _ (tN_lt _) (fN_lt _) w
 have hvl:=vN_lt (setOk xs)
 have ho:=or64 se (vN (setOk xs)) (by omega) (by omega)
 have HR:=hide hr
 generalize vN (setOk xs)=vx at *
 generalize tN (setOk xs)=tx at *
 generalize fN (setOk xs)=fx at *
 generalize xs.all litB=bb at *
 clear hr hi h2
 go_enter Tryd.func31,Tryd.ntmps31
 go_wp2_with fail
 refine(unhide HO).mono ?_
 rintro e w1 ⟨rfl,hb1⟩
 have B1:=hide hb1
 have hbA:=alloc_below w1 (.cells #[.int .i64 (tx:Nat),.int .i64 (fx:Nat)] 84)
 have r1:Row (w1.alloc (.cells #[.int .i64 (tx:Nat),.int .i64 (fx:Nat)] 84)) w1.heap.size 84 [.int .i64 (tx:Nat),.int .i64 (fx:Nat)]:=heap_alloc_new w1 _
 have R1:=hide r1
 have S1:=hide (row_below (row_below HR.out hb1) hbA)
 have B2:Hid (Below w.heap.size w (w1.alloc (.cells #[.int .i64 (tx:Nat),.int .i64 (fx:Nat)] 84))):=hb1.trans (hbA.mono hb1.size)
 have c5:(w1.alloc (.cells #[.int .i64 (tx:Nat),.int .i64 (fx:Nat)] 84)).cell? ⟨g,5,none⟩=some (.int .i64 se):=(S1.out.cell 5).trans rfl
 have x0:(w1.alloc (.cells #[.int .i64 (tx:Nat),.int .i64 (fx:Nat)] 84)).cell? ⟨w1.heap.size,0,none⟩=some (.int .i64 (tx:Nat)):=(r1.cell 0).trans rfl
 have x1:(w1.alloc (.cells #[.int .i64 (tx:Nat),.int .i64 (fx:Nat)] 84)).cell? ⟨w1.heap.size,1,none⟩=some (.int .i64 (fx:Nat)):=(r1.cell 1).trans rfl
 clear hb1 hbA r1 HO HR B1
 go_wp2_with fail
 generalize w1.alloc (.cells #[.int .i64 (tx:Nat),.int .i64 (fx:Nat)] 84)=w2 at *
 go_region_with (go_at_call 46;refine(unhide HV _).mono ?_;rintro e w3 ⟨rfl,hb3⟩;have B3:Hid (Below w2.heap.size w2 w3):=(below_drewN (Below.refl _ _) 1).trans hb3;have S3:=hide (row_below S1.out B3.out);have c5':w3.cell? ⟨g,5,none⟩=some (.int .i64 se):=(S3.out.cell 5).trans rfl;have z5:=S3.out.frozen 5;clear hb3)
 all_goals
  go_wp2
  go_end0
  exact⟨rfl,S3.out.set 5 _,grown_set (grownV_below _ (B2.out.trans (B3.out.mono B2.out.size)))⟩
theorem roomType:∃ fs,Tryd.prog.underlying 70=some (.struct fs):=by
 have h:(Tryd.prog.underlying 70).map isStruct=some true:=by kernel_rfl
 cases hu:Tryd.prog.underlying 70 with
 | none=>rw[hu] at h;simp at h
 | some d =>
  rw[hu] at h
  cases d with
  | struct fs=>exact⟨fs,rfl⟩
  | _=>simp[isStruct] at h
theorem roomSize:(Tryd.prog.info? 70).map (·.size)=some 4:=by kernel_rfl
theorem room_ret{w':World}{tmps:Array Value}{g:Nat}{p q x y:Value}(hr:Row w' g 70 [p,q,x,y])(h2:tmps.getD 4 undef=.pointer (some ⟨g,0,none⟩)) :
  (results Tryd.f34 tmps).run Tryd.prog w'=.ok (.agg #[p,q,x,y]) w':=by
 obtain⟨fs,hu⟩:=roomType
 exact results_cell_row rfl tmps w' g 70 #[p,q,x,y] (0,0) (.struct fs) h2 hr hu rfl roomSize
set_option maxHeartbeats 8000000 in
theorem room_any(g:Nat)(r h l:Int)(v3 v7:Value)(em se lo un:Nat)(la:Option Addr)(lc:Nat)(ls:List Pr)(b:Int)(w:World)(hr:Row w g 68 (svCells r h l v3 em se (.slice la ls.length lc) v7 lo un))(hla:SetsAt w la ls)(hll:ls.length≤1000000)(hlb:Hid (∀ p∈ls,p.1<2^11∧p.2<2^11))(hh:0≤h∧h≤1048576)(hl:0≤l∧l≤1048576)(hlo:lo≤1048576) :
  Calls Tryd.prog 34 #[.pointer (some ⟨g,0,none⟩),.int .i64 b] w fun e w'=>e=.returned (.agg #[.int .i64 b,.int .i64 r,.int .i64 (h - (totalN ls:Int)),.int .i64 (l - (lo:Int))])∧Below w.heap.size w w':=by
 have HTT:Hid (∀ w',Below w.heap.size w w'→Calls Tryd.prog 42 #[.slice la ls.length lc] w' fun e w''=>e=.returned (.int .i64 (totalN ls:Nat))∧Below w'.heap.size w' w''):=fun w' hb=>total_any la lc ls w' (hla.below hb) hll hlb
 have htl:=totalN_le ls
 generalize totalN ls=tot at *
 have HR:=hide hr
 have hgl:g<w.heap.size:=hr.lt
 have rA:Row (w.alloc (.cells #[.int .i64 0,.int .i64 0,.int .i64 0,.int .i64 0] 70)) w.heap.size 70 [.int .i64 0,.int .i64 0,.int .i64 0,.int .i64 0]:=heap_alloc_new w _
 have hbA:=alloc_below w (.cells #[.int .i64 0,.int .i64 0,.int .i64 0,.int .i64 0] 70)
 have w1':IntKind.i64.wrap (h - (tot:Int))=h - (tot:Int):=by rw[IntKind.wrap_i64];omega
 have w2':IntKind.i64.wrap (l - (lo:Int))=l - (lo:Int):=by rw[IntKind.wrap_i64];omega
 clear hr hla
 go_enter Tryd.func34,Tryd.ntmps34
 go_wp2_with fail
 generalize w.alloc (.cells #[.int .i64 0,.int .i64 0,.int .i64 0,.int .i64 0] 70)=wA at *
 have F:Hid (∀ w',Below wA.heap.size wA w'→(w'.cell? ⟨g,0,none⟩=some (.int .i64 r)∧w'.cell? ⟨g,1,none⟩=some (.int .i64 h)∧w'.cell? ⟨g,2,none⟩=some (.int .i64 l)∧w'.cell? ⟨g,6,none⟩=some (.slice la ls.length lc)∧w'.cell? ⟨g,8,none⟩=some (.int .i64 lo))∧Below w.heap.size w w'∧Row w' w.heap.size 70 [.int .i64 0,.int .i64 0,.int .i64 0,.int .i64 0]):=by
  intro w' hb
  have hw':Below w.heap.size w w':=hbA.trans (hb.mono hbA.size)
  have R:=row_below HR.out hw'
  exact⟨⟨(R.cell 0).trans rfl,(R.cell 1).trans rfl,(R.cell 2).trans rfl,(R.cell 6).trans rfl,(R.cell 8).trans rfl⟩,hw',row_below rA hb⟩
 have Bc:Hid (Below wA.heap.size wA wA.drew):=below_drewN (Below.refl _ _) 1
 obtain⟨⟨c0,c1,c2,c6,c8⟩,_,_⟩:=F.out wA (Below.refl _ _)
 have hne:w.heap.size≠g:=by omega
 clear rA hbA HR
 go_region_held3 (fun w'=>w'.cell? ⟨g,0,none⟩=some (.int .i64 r)∧w'.cell? ⟨g,1,none⟩=some (.int .i64 h)∧w'.cell? ⟨g,2,none⟩=some (.int .i64 l)∧w'.cell? ⟨g,6,none⟩=some (.slice la ls.length lc)∧w'.cell? ⟨g,8,none⟩=some (.int .i64 lo)) (go_keep)
  (first | (go_at_call 42;refine(unhide HTT _ (F.out _ Bc.out).2.1).mono ?_;rintro e wa ⟨rfl,hba⟩;have Bc:Hid (Below wA.heap.size wA wa):=Bc.out.trans (hba.mono Bc.out.size);clear hba;obtain⟨⟨c0,c1,c2,c6,c8⟩,_,RZ⟩:=F.out wa Bc.out;have z0:wa.cell? ⟨w.heap.size,0,none⟩=some (.int .i64 0):=(RZ.cell 0).trans rfl;have z1:wa.cell? ⟨w.heap.size,1,none⟩=some (.int .i64 0):=(RZ.cell 1).trans rfl;have z2:wa.cell? ⟨w.heap.size,2,none⟩=some (.int .i64 0):=(RZ.cell 2).trans rfl;have z3:wa.cell? ⟨w.heap.size,3,none⟩=some (.int .i64 0):=(RZ.cell 3).trans rfl;have y0:=RZ.frozen 0;have y1:=RZ.frozen 1;have y2:=RZ.frozen 2;have y3:=RZ.frozen 3;have RZ:=hide RZ))
 have R9:=hide ((((RZ.out.set 0 (.int .i64 b)).set 1 (.int .i64 r)).set 2 (.int .i64 (h - (tot:Int)))).set 3 (.int .i64 (l - (lo:Int))))
 have HB:Hid (Below w.heap.size w wa):=(F.out _ Bc.out).2.1
 clear F HTT
 go_wp2
 refine bodyPost_ret (v:=.agg #[.int .i64 b,.int .i64 r,.int .i64 (h - (tot:Int)),.int .i64 (l - (lo:Int))]) (room_ret R9.out rfl) rfl ⟨rfl,?_⟩
 exact(((HB.out.setCell (p:=⟨w.heap.size,0,none⟩) (Nat.le_refl _) _).setCell (p:=⟨w.heap.size,1,none⟩) (Nat.le_refl _) _).setCell (p:=⟨w.heap.size,2,none⟩) (Nat.le_refl _) _).setCell (p:=⟨w.heap.size,3,none⟩) (Nat.le_refl _) _
end Go.Proofs.YthboeppmlhbofabDoor
