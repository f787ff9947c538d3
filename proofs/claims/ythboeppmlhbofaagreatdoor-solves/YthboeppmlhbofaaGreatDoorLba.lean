import Derived.Test.YthboeppmlhbofaaGreatDoorLau
import Derived.Deep.RegionHeld3
namespace Go.Proofs.YthboeppmlhbofaaGreatDoor
open Go.RowKit Txt
set_option maxRecDepth 100000
theorem J0{P:Program}{w:World}{base:Nat}{t u ty e:TypeId}{i:TypeInfo}(ht:P.underlying t=some (.slice e))(hu:P.underlying u=some .string)(hi:P.info? e=some i)(hz:i.zero=some (.int .u8 0))(hsize:i.size=1)(hby:i.bytes=1)
  {v:Value} {n:Nat} {xs:List Value} (hown:w.ownsRow base e 1 v n xs) {s:ByteArray} (h63:n+s.size≤maxLen) (hbytes:n+s.size≤140737488355328) (hs0:0<s.size)
  {v':Value} {w':World} (hr:(Builtin.append_ #[t,u] ty #[v,.string s]).run P w=.ok v' w'):EW v v' w:=by
 have hsmall:n+s.size≤9223372036854775807:=by simp only[maxLen] at h63;omega
 have hxl:xs.length=n:=by simpa using hown.1
 rcases hown.2 with⟨rfl,rfl⟩ | ⟨g,cap,cur,rfl,hbg,hg,hnc,hcm,hcs,htake⟩
 ·have h2:=run_append_nil_string (P:=P) w t u ty e i (.int .u8 0) ht hu hi hz s (by omega) (by omega) (by rw[hby];omega)
  rw[h2] at hr
  cases hr
  intro b hb
  simp only[Value.ownBlock,Option.some.injEq] at hb
  right;omega
 ·by_cases hroom:n+s.size≤cap
  ·have hcs':cur.size=cap:=by simpa using hcs
   have h2:=Lib.run_append_room_string (P:=P) w t u ty e i ht hu hi hsize g n cap cur hg s hroom (by omega)
   rw[h2] at hr
   cases hr
   intro b hb
   left
   exact hb
  ·have holds:∀ j u,xs[j]?=some u→w.cell? ((⟨g,0,none⟩:Addr).add j)=some u:=hown.cells (g:=g) rfl
   have h2:=Lib.run_append_grow_string (P:=P) w t u ty e i (.int .u8 0) ht hu hi hz ⟨g,0,none⟩ n cap xs (by rw[hsize];simpa using hxl) holds s (by omega) (by omega) (by rw[hby];exact growslice_fits (by omega) (by omega))
   rw[h2] at hr
   cases hr
   intro b hb
   simp only[Value.ownBlock,Option.some.injEq] at hb
   right;omega
theorem LU{P:Program}(w:World){ops:Array Oper}{rest:List Oper}{o:Oper}{a:Act}{Q:Exit→Act→World→Prop}(hgd:o.guard=none)(sl x:Operand)(t u:TypeId)
  (ho:o.op=.call { callee:=.builtin .append,args:=#[sl,x],argTypes:=#[t,u] })
  (base:Nat) (e:TypeId) (i:TypeInfo) (ht:P.underlying t=some (.slice e)) (hu:P.underlying u=some .string) (hi:P.info? e=some i) (hz:i.zero=some (.int .u8 0))
  (hsize:i.size=1) (hby:i.bytes=1)
  (v:Value) (n:Nat) (xs:List Value) (hs:a.eval sl=v) (hown:w.ownsRow base e 1 v n xs) (s:ByteArray) (hx:a.eval x=.string s)
  (h63:n+s.size≤maxLen) (hbytes:n+s.size≤140737488355328) (hbase:base≤w.heap.size) (hs0:0<s.size)
  (h:∀ v' w',w'.ownsRow base e 1 v' (n+s.size) (xs++Lib.strCells s)→w.grownBy w' v.ownBlock→EW v v' w→wpList P ops Q rest (a.put o.dst v') w'):wpList P ops Q (o :: rest) a w:=by
 refine wpList_plain hgd fun K hK=>?_
 obtain⟨v',w',hr,h2,h3,h4⟩:=Lib.run_append_own_string (P:=P) w base t u o.type e i ht hu hi hz hsize hby v n xs hown s h63 hbytes hbase
 have h5:=J0 ht hu hi hz hsize hby hown h63 hbytes hs0 hr
 unfold Oper.wp execOp
 simp only[ho,resolve,invoke,builtin,Sem.run_bind,Sem.run_pure,Result.andThen_ok,List.map_toArray,List.map_cons,List.map_nil,hs,hx,hr]
 exact hK _ _ (h v' w' h2 h3 h5)
theorem De{v v1:Value}{w w1 w2:World}(h:w.grownBy w1 v.ownBlock)(hm:EW v v1 w)(h':w1.grownBy w2 v1.ownBlock):w.grownBy w2 v.ownBlock :=
 ⟨h'.os.trans h.os,h'.tape.trans h.tape,h'.output.trans h.output,Nat.le_trans h.size h'.size,fun k hk hn=>(h'.block k (Nat.lt_of_lt_of_le hk h.size) (fun q=>(hm k q.symm).elim (fun z=>hn z.symm) (fun z=>by omega))).trans (h.block k hk hn)⟩
theorem Ez{w w':World}(r:Option Nat)(h:Below w.heap.size w w'):w.grownBy w' r:=⟨h.os,h.tape,h.output,h.size,fun k hk _=>h.block k hk⟩
theorem Ko{v:Value}{a':Option Addr}{n N c' H:Nat}{p:Prop}{w:World}(h:v=.slice a' n c'∨a'=some ⟨H,0,none⟩∧p)(hH:w.heap.size≤H):EW v (.slice a' N c') w:=fun b hb=>by
 rcases DT (N:=N) h with q | q
 ·rw[← q];exact .inl hb
 ·rw[q,Option.some.injEq] at hb;right;omega
theorem XF{w w':World}{r:Option Nat}(h:Fx w)(hg:w.grownBy w' r)(h0:0<w.heap.size)(hr:r≠some 0):Fx w' :=
 h.below (B:=1) ⟨hg.os,hg.tape,hg.output,hg.size,fun b hb=>hg.block b (by omega) (fun q=>by
  have:b=0:=by omega
  rw[this] at q
  exact hr q.symm)⟩ (by omega)
theorem Gp{w:World}{B B' e e' s s' n n':Nat}{v v':Value}{xs xs':List Value}(h:w.ownsRow B e s v n xs)(h':w.ownsRow B' e' s' v' n' xs')(he:e≠e'):v.ownBlock=none∨v.ownBlock≠v'.ownBlock:=by
 rcases h.2 with⟨rfl,_⟩ | ⟨g,cap,cur,rfl,_,hg,_⟩
 ·exact .inl rfl
 ·right
  intro q
  rcases h'.2 with⟨rfl,_⟩ | ⟨g',cap',cur',rfl,_,hg',_⟩
  ·simp[Value.ownBlock] at q
  ·simp only[Value.ownBlock,Option.some.injEq] at q
   subst q
   rw[hg] at hg'
   simp only[Option.some.injEq,Obj.cells.injEq] at hg'
   exact he hg'.2.1
set_option maxHeartbeats 2000000 in
theorem Me(ao:Option Addr)(cap:Nat)(t:List UInt8)(x:Int)(w:World)
  (htab:Hid (Fx w)) (hown:w.ownsRow 0 5 1 (.slice ao t.length cap) t.length (c8 t)) (ht:t.length≤1000000000) (hx:Hid (AT x=true)) :
  Calls Tryz.prog 127 #[.slice ao t.length cap,.int .i64 x] w fun e w'=>∃ ao' cap',e=.returned (.slice ao' (t++DJ x).length cap') ∧
   w'.ownsRow 0 5 1 (.slice ao' (t++DJ x).length cap') (t++DJ x).length (c8 (t++DJ x))∧w.grownBy w' (Value.slice ao t.length cap).ownBlock∧EW (.slice ao t.length cap) (.slice ao' (t++DJ x).length cap') w:=by
 obtain⟨i0,hi,hz0,hz1,hz2⟩:=info_parts Tryz.infoByte
 have hit:=(EB hx.out)
 have c0:Hid (0<(⟨(Lib.itoa x).toArray⟩:ByteArray).size):=by show _<_;rw[Dl];omega
 have c1:Hid (t.length+(⟨(Lib.itoa x).toArray⟩:ByteArray).size≤maxLen):=by
  show _≤_
  rw[Dl];unfold maxLen;omega
 have c2:Hid (t.length+(⟨(Lib.itoa x).toArray⟩:ByteArray).size≤140737488355328):=by
  show _≤_
  rw[Dl];omega
 have d1:Hid (t.length+(⟨(Lib.itoa x).toArray⟩:ByteArray).size+1≤maxLen):=by
  show _≤_
  rw[Dl];unfold maxLen;omega
 have d2:Hid ((t.length+(⟨(Lib.itoa x).toArray⟩:ByteArray).size+1)*1≤140737488355328):=by
  show _≤_
  rw[Dl];omega
 clear hit
 go_enter Tryz.func127,Tryz.ntmps127
 go_wp2_with (first
  | (go_at_call 146;refine(Qq _ hx.out _ htab).mono ?_;rintro e w1 ⟨rfl,hg1⟩;have hown1:=hown.kept hg1 (Classical.em _))
  | (at_builtin;refine LU _ rfl _ _ 83 9 rfl 0 5 i0 Tryz.undBytes Tryz.undString hi hz0 hz1 hz2 (.slice ao t.length cap) t.length (c8 t) rfl hown1 ⟨(Lib.itoa x).toArray⟩ rfl c1.out c2.out (Nat.zero_le _) c0.out ?_;intro v2 w2 hown2 hg2 hm2)
  | (at_builtin;refine Ap _ rfl _ _ 83 rfl 0 5 i0 (.int .u8 0) 1 Tryz.undBytes hi hz0 hz1 hz2 rfl v2 _ _ rfl (hown2.alloc _) ⟨w2.heap.size,0,none⟩ 1 1 [.int .u8 32] rfl rfl (Hy w2 [.int .u8 32] 5) (PK [32]) (by decide) d1.out d2.out (Nat.zero_le _) (w2.heap.size+1) (by simp) ?_;intro a3 c3 w3 hown3 hg3 hl3))
 have e1:t.length+(⟨(Lib.itoa x).toArray⟩:ByteArray).size+1=(t++DJ x).length:=by rw[Dl];simp[DJ];omega
 have e2:c8 t++Lib.strCells ⟨(Lib.itoa x).toArray⟩++[.int .u8 32]=c8 (t++DJ x):=by rw[LJ];simp[DJ,c8]
 rw[e1,e2] at hown3
 have k1:w.grownBy w1 (Value.slice ao t.length cap).ownBlock:=Ez _ (Mn hg1)
 have k2:w.grownBy w2 (Value.slice ao t.length cap).ownBlock:=De k1 (EW.refl _ _) hg2
 have m2:EW (.slice ao t.length cap) v2 w:=fun b hb=>(hm2 b hb).imp id fun q=>Nat.le_trans hg1.size q
 have k3:w.grownBy (w2.alloc (.cells [Value.int .u8 32].toArray 5)) (Value.slice ao t.length cap).ownBlock:=De k2 m2 (Ez _ (AI _ _))
 have k4:w.grownBy w3 (Value.slice ao t.length cap).ownBlock:=De k3 m2 hg3
 have m3:EW v2 (.slice a3 (t++DJ x).length c3) w:=Ko hl3 (by have:=k2.size;omega)
 go_ret
 refine⟨a3,c3,?_,hown3,k4,fun b hb=>(m3 b hb).elim (m2 b) .inr⟩
 rw[← e1]
 rfl
set_option maxHeartbeats 2000000 in
theorem Mb(ao:Option Addr)(cap:Nat)(t:List UInt8)(w:World)
  (hown:w.ownsRow 0 5 1 (.slice ao t.length cap) t.length (c8 t)) (ht:t.length≤1000000000) :
  Calls Tryz.prog 128 #[.slice ao t.length cap] w fun e w'=>∃ ao' cap',e=.returned (.slice ao' (t++[48,10]).length cap') ∧
   w'.ownsRow 0 5 1 (.slice ao' (t++[48,10]).length cap') (t++[48,10]).length (c8 (t++[48,10]))∧w.grownBy w' (Value.slice ao t.length cap).ownBlock∧EW (.slice ao t.length cap) (.slice ao' (t++[48,10]).length cap') w:=by
 obtain⟨i0,hi,hz0,hz1,hz2⟩:=info_parts Tryz.infoByte
 have d1:Hid (t.length+2≤maxLen):=by show _≤_;unfold maxLen;omega
 have d2:Hid ((t.length+2)*1≤140737488355328):=by show _≤_;omega
 go_enter Tryz.func128,Tryz.ntmps128
 go_wp2_with (at_builtin;refine Ap _ rfl _ _ 83 rfl 0 5 i0 (.int .u8 0) 1 Tryz.undBytes hi hz0 hz1 hz2 rfl (.slice ao t.length cap) t.length (c8 t) rfl (hown.alloc _) ⟨w.heap.size,0,none⟩ 2 2 [.int .u8 48,.int .u8 10] rfl rfl (Hy w [.int .u8 48,.int .u8 10] 5) (PK [48,10]) (by decide) d1.out d2.out (Nat.zero_le _) (w.heap.size+1) (by simp) ?_;intro a3 c3 w3 hown3 hg3 hl3)
 have e1:t.length+2=(t++[48,10]).length:=by simp
 have e2:c8 t++[.int .u8 48,.int .u8 10]=c8 (t++[48,10]):=by simp[c8]
 rw[e1,e2] at hown3
 have k4:w.grownBy w3 (Value.slice ao t.length cap).ownBlock:=De (Ez _ (AI _ _)) (EW.refl _ _) hg3
 have m3:EW (.slice ao t.length cap) (.slice a3 (t++[48,10]).length c3) w:=Ko hl3 (by omega)
 go_ret
 refine⟨a3,c3,?_,hown3,k4,m3⟩
 rw[← e1]
 rfl
set_option maxHeartbeats 4000000 in
theorem Mc(ao:Option Addr)(cap:Nat)(t:List UInt8)(lt:UInt8)(a:Option Addr)(c b0:Nat)(xs:List Int)(w:World)(h0:0<w.heap.size)(hn0:(Value.slice ao t.length cap).ownBlock≠some 0)
  (htab:Fx w) (hown:w.ownsRow 0 5 1 (.slice ao t.length cap) t.length (c8 t)) (ht:t.length≤100000000) (hol:w.ownsRow b0 3 1 (.slice a xs.length c) xs.length (AO xs)) (hlit:xs.all AT=true) (hxl:xs.length≤1000) :
  Calls Tryz.prog 102 #[.slice ao t.length cap,.agg #[.int .u8 (lt.toNat:Int),.slice a xs.length c]] w fun e w'=>∃ ao' cap',e=.returned (.slice ao' (t++Bo lt xs).length cap') ∧
   w'.ownsRow 0 5 1 (.slice ao' (t++Bo lt xs).length cap') (t++Bo lt xs).length (c8 (t++Bo lt xs))∧w.grownBy w' (Value.slice ao t.length cap).ownBlock∧EW (.slice ao t.length cap) (.slice ao' (t++Bo lt xs).length cap') w:=by
 obtain⟨i0,hi,hz0,hz1,hz2⟩:=info_parts Tryz.infoByte
 have d1:Hid (t.length+2≤maxLen):=by show _≤_;unfold maxLen;omega
 have d2:Hid ((t.length+2)*1≤140737488355328):=by show _≤_;omega
 have HIN:=AB (And.intro htab (And.intro hown (And.intro hol hlit)))
 have hne:(Value.slice a xs.length c).ownBlock=none∨(Value.slice a xs.length c).ownBlock≠(Value.slice ao t.length cap).ownBlock:=Gp hol hown (by decide)
 have HNE:=AB hne
 have HN0:=AB hn0
 have r0:AY (w.alloc (.cells #[.int .u8 (lt.toNat:Int),.slice a xs.length c] 121)) w.heap.size 121 [.int .u8 (lt.toNat:Int),.slice a xs.length c]:=heap_alloc_new w _
 have R0:=AB r0
 have x0:(w.alloc (.cells #[.int .u8 (lt.toNat:Int),.slice a xs.length c] 121)).cell? ⟨w.heap.size,0,none⟩=some (.int .u8 (lt.toNat:Int)):=(r0.cell 0).trans rfl
 have x1:(w.alloc (.cells #[.int .u8 (lt.toNat:Int),.slice a xs.length c] 121)).cell? ⟨w.heap.size,1,none⟩=some (.slice a xs.length c):=(r0.cell 1).trans rfl
 have O0:=AB (hown.alloc (.cells #[.int .u8 (lt.toNat:Int),.slice a xs.length c] 121))
 have B0:=AB (AI w (.cells #[.int .u8 (lt.toNat:Int),.slice a xs.length c] 121))
 have hsz:(w.alloc (.cells #[.int .u8 (lt.toNat:Int),.slice a xs.length c] 121)).heap.size=w.heap.size+1:=by simp
 clear htab hown hol hlit hne hn0 r0
 go_enter Tryz.func102,Tryz.ntmps102
 go_wp2_with (at_builtin;refine Ap _ rfl _ _ 83 rfl 0 5 i0 (.int .u8 0) 1 Tryz.undBytes hi hz0 hz1 hz2 rfl (.slice ao t.length cap) t.length (c8 t) rfl (O0.out.alloc _) ⟨w.heap.size+1,0,none⟩ 2 2 [.int .u8 (lt.toNat:Int),.int .u8 32] rfl rfl (FY _ _ (by simp) [.int .u8 (lt.toNat:Int),.int .u8 32] 5) (by intro u hu;simp at hu;rcases hu with rfl|rfl <;> rfl) (by decide) d1.out d2.out (Nat.zero_le _) (w.heap.size+1+1) (by simp) ?_;intro a3 c3 w3 hown3 hg3 hl3;have R3:=AB (BG (AF R0.out (AI _ _)) (O0.out.alloc _) (by decide) hg3);have y1:w3.cell? ⟨w.heap.size,1,none⟩=some (.slice a xs.length c):=(R3.out.cell 1).trans rfl)
 have G3:Hid (w.grownBy w3 (Value.slice ao t.length cap).ownBlock):=De (Ez _ (B0.out.trans ((AI _ _).mono B0.out.size))) (EW.refl _ _) hg3
 have M3:Hid (EW (Value.slice ao t.length cap) (.slice a3 (t++([lt,32]++A6 (xs.take 0))).length c3) w):=Ko hl3 (by omega)
 have e1:t.length+2=(t++([lt,32]++A6 (xs.take 0))).length:=by simp[A6]
 have e2:c8 t++[.int .u8 (lt.toNat:Int),.int .u8 32]=c8 (t++([lt,32]++A6 (xs.take 0))):=by simp[c8,A6]
 have O3:Hid (w3.ownsRow 0 5 1 (.slice a3 (t++([lt,32]++A6 (xs.take 0))).length c3) (t++([lt,32]++A6 (xs.take 0))).length (c8 (t++([lt,32]++A6 (xs.take 0))))):=by
  have:=hown3
  rw[e1,e2] at this
  exact this
 have E1:=AB e1
 clear hown3 hg3 hl3 x0 x1 R0 O0 B0 hsz e1 e2 y1 R3
 go_loopw [0,15] (fun s i wr=>∃ (k:Nat) (ao1:Option Addr) (cap1:Nat) (t1:List UInt8),k≤xs.length∧i=.int .i64 k∧s=.slice ao1 t1.length cap1∧t1.length≤t.length+2+4*k∧Hid (t1=t++([lt,32]++A6 (xs.take k)))∧Hid (wr.ownsRow 0 5 1 (.slice ao1 t1.length cap1) t1.length (c8 t1))∧Hid (w.grownBy wr (Value.slice ao t.length cap).ownBlock)∧Hid (EW (Value.slice ao t.length cap) (.slice ao1 t1.length cap1) w)) (fun _ i _=>xs.length - (intOf i).toNat)
 case atStart=>exact⟨0,a3,c3,_,Nat.zero_le _,rfl,by rw[← E1.out],by have:=E1.out;omega,rfl,O3,G3,M3⟩
 case round =>
  clear G3 M3 O3 E1
  obtain⟨k,ao1,cap1,t1,hk,rfl,rfl,hl1,ET,O,G,M⟩:=hrel
  have TB:Hid (Fx wr):=XF HIN.out.1 G.out h0 HN0.out
  have OI:Hid (wr.ownsRow b0 3 1 (.slice a xs.length c) xs.length (AO xs)):=HIN.out.2.2.1.kept G.out HNE.out
  by_cases hlt:k<xs.length
  ·obtain⟨b,off,rfl,hc⟩:=(BF OI.out).get (by omega)
   have hck:=hc k hlt
   have hx:AT (xs.getD k 0)=true:=by
    have:=List.all_eq_true.1 HIN.out.2.2.2 (xs.getD k 0) (by rw[List.getD_eq_getElem?_getD,List.getElem?_eq_getElem hlt];exact List.getElem_mem hlt)
    exact this
   have HS:Hid (A6 (xs.take (k+1))=A6 (xs.take k)++DJ (xs.getD k 0)):=KC xs k hlt
   clear hc OI
   generalize xs.getD k 0=x at hck hx HS
   have hit:=EB hx
   have HX:=AB hx
   have HAL:=AB (Me ao1 cap1 t1 x wr TB O.out (by omega) HX)
   have i1':(0:Int)≤(k:Int):=by omega
   have i2':(k:Int)<(xs.length:Int):=by omega
   clear hx
   go_wp2_with fail
   refine(AE HAL).mono ?_
   rintro e w4 ⟨ao4,cap4,rfl,ho4,hg4,hm4⟩
   have O4:=AB ho4
   have G4:=AB (De G.out M.out hg4)
   have M4:Hid (EW (Value.slice ao t.length cap) (.slice ao4 (t1++DJ x).length cap4) w):=M.out.trans hm4 G.out.size
   have L4:(t1++DJ x).length≤t.length+2+4*(k+1):=by simp[DJ];omega
   have E4:Hid (t1++DJ x=t++([lt,32]++A6 (xs.take (k+1)))):=by show _=_;rw[ET.out,HS.out];simp
   clear ho4 hg4 hm4 HAL
   generalize t1++DJ x=t4 at *
   go_wp2
   go_roundw
   case rel=>exact⟨k+1,ao4,cap4,t4,by omega,by go_num,rfl,L4,E4,O4,G4,M4⟩
   case measure=>simp[intOf];omega
  ·have E5:Hid (t1=t++([lt,32]++A6 xs)):=by show _=_;rw[ET.out,List.take_of_length_le (by omega)]
   have HAE:=AB (Mb ao1 cap1 t1 wr O.out (by omega))
   go_wp2_with fail
   refine(AE HAE).mono ?_
   rintro e w4 ⟨ao4,cap4,rfl,ho4,hg4,hm4⟩
   have O4:=AB ho4
   have G4:=AB (De G.out M.out hg4)
   have M4:Hid (EW (Value.slice ao t.length cap) (.slice ao4 (t1++[48,10]).length cap4) w):=M.out.trans hm4 G.out.size
   have E6:Hid (t1++[48,10]=t++Bo lt xs):=by show _=_;rw[E5.out,Bo];simp
   clear ho4 hg4 hm4 HAE
   generalize t1++[48,10]=t4 at *
   go_wp2
   go_ret
   rw[← E6.out]
   exact⟨ao4,cap4,rfl,O4.out,G4.out,M4.out⟩
def BR(r h l:Int)(v3:Value)(em se:Nat)(v6 v7:Value)(lo un:Nat):List Value :=
 [.int .i64 r,.int .i64 h,.int .i64 l,v3,.int .i64 em,.int .i64 se,v6,v7,.int .i64 lo,.int .i64 un]
set_option maxHeartbeats 1000000 in
theorem Tu(g:Nat)(r h l:Int)(v3 v6:Value)(em se lo un:Nat)(pa:Option Addr)(pc:Nat)(pf:List UInt8)(w:World)(hr:AY w g 107 (BR r h l v3 em se v6 (.slice pa pf.length pc) lo un))(ho:w.ownsRow 0 5 1 (.slice pa pf.length pc) pf.length (c8 pf)) :
  Calls Tryz.prog 38 #[.pointer (some ⟨g,0,none⟩)] w fun e w'=>e=.returned (.string (bA pf))∧w'=w:=by
 have hcv:(convert 83 9 (.slice pa pf.length pc)).run Tryz.prog w=.ok (.string ⟨pf.toArray⟩) w:=QW ho
 have c7:w.cell? ⟨g,7,none⟩=some (.slice pa pf.length pc):=(hr.cell 7).trans rfl
 clear hr
 go_enter Tryz.func38,Tryz.ntmps38
 go_wp2
 go_ret
 exact⟨rfl,rfl⟩
set_option maxHeartbeats 2000000 in
theorem T0(g:Nat)(r h l:Int)(v3 v6 v7:Value)(em se lo un:Nat)(w:World)(hr:AY w g 107 (BR r h l v3 em se v6 v7 lo un)) :
  Calls Tryz.prog 36 #[.pointer (some ⟨g,0,none⟩)] w fun e w'=>e=.returned (.tuple #[])∧AY w' g 107 (BR r h l (.slice none 0 0) 0 0 (.slice none 0 0) (.slice none 0 0) 0 0)∧w.grownBy w' (some g):=by
 have c0:w.cell? ⟨g,0,none⟩=some (.int .i64 r):=(hr.cell 0).trans rfl
 have c1:w.cell? ⟨g,1,none⟩=some (.int .i64 h):=(hr.cell 1).trans rfl
 have c2:w.cell? ⟨g,2,none⟩=some (.int .i64 l):=(hr.cell 2).trans rfl
 have c3:w.cell? ⟨g,3,none⟩=some v3:=(hr.cell 3).trans rfl
 have c4:w.cell? ⟨g,4,none⟩=some (.int .i64 em):=(hr.cell 4).trans rfl
 have c5:w.cell? ⟨g,5,none⟩=some (.int .i64 se):=(hr.cell 5).trans rfl
 have c6:w.cell? ⟨g,6,none⟩=some v6:=(hr.cell 6).trans rfl
 have c7:w.cell? ⟨g,7,none⟩=some v7:=(hr.cell 7).trans rfl
 have c8:w.cell? ⟨g,8,none⟩=some (.int .i64 lo):=(hr.cell 8).trans rfl
 have c9:w.cell? ⟨g,9,none⟩=some (.int .i64 un):=(hr.cell 9).trans rfl
 have z0:=hr.frozen 0
 have z1:=hr.frozen 1
 have z2:=hr.frozen 2
 have z3:=hr.frozen 3
 have z4:=hr.frozen 4
 have z5:=hr.frozen 5
 have z6:=hr.frozen 6
 have z7:=hr.frozen 7
 have z8:=hr.frozen 8
 have z9:=hr.frozen 9
 have HR:=AB hr
 clear hr
 go_enter Tryz.func36,Tryz.ntmps36
 go_wp2
 go_end0
 refine⟨rfl,?_,?_⟩
 ·exact(((((((((HR.out.set 0 _).set 1 _).set 2 _).set 3 _).set 4 _).set 5 _).set 6 _).set 7 _).set 8 _).set 9 _
 ·exact Ci (Ci (Ci (Ci (Ci (Ci (Ci (Ci (Ci (Ci (Gj w _))))))))))
set_option maxHeartbeats 4000000 in
theorem Ss(g:Nat)(a:Option Addr)(c:Nat)(xs:List Int)(r h l:Int)(ta:Option Addr)(ss:List Pr)(tc em se:Nat)(v6 v7:Value)(lo un:Nat)(w:World)(hx:xs.length≤9223372036854775807)(hi:AS w a xs)(hall:xs.all AT=true)(ht:(Al xs&&&Ak xs != 0)=false)
  (hr:AY w g 107 (BR r h l (.slice ta ss.length tc) em se v6 v7 lo un)) (hz:A7 (Al xs,Ak xs)=0) (hem:em≤9223372036854775806) :
  Calls Tryz.prog 30 #[.pointer (some ⟨g,0,none⟩),.slice a xs.length c] w fun e w'=>e=.returned (.int .i64 0)∧AY w' g 107 (BR r h l (.slice ta ss.length tc) (em+1) se v6 v7 lo un)∧Eh w w' g (.slice none 0 0):=by
 have HO:=AB (Fa a c xs w hx hi)
 have e1:Cm xs=Al xs:=by simp[Cm,hall]
 have e2:Ck xs=Ak xs:=by simp[Ck,hall]
 have HT:Hid (∀ w,Calls Tryz.prog 60 #[.agg #[.int .i64 (Al xs:Nat),.int .i64 (Ak xs:Nat)]] w fun e w'=>e=.returned (.bool false)∧Below w.heap.size w w'):=fun w=>by
  have:=EA (Al xs) (Ak xs) (DA xs hall) (Cy xs hall) w
  rwa [ht] at this
 have HZ:Hid (∀ w,Calls Tryz.prog 61 #[.agg #[.int .i64 (Al xs:Nat),.int .i64 (Ak xs:Nat)]] w fun e w'=>e=.returned (.int .i64 (A7 (Al xs,Ak xs):Nat))∧Below w.heap.size w w'):=fun w=>Eo (Al xs) (Ak xs) (DA xs hall) (Cy xs hall) w
 rw[hall,e1,e2] at HO
 have h1:=Es (Al xs,Ak xs)
 generalize A7 (Al xs,Ak xs)=z at *
 subst hz
 generalize Al xs=t at *
 generalize Ak xs=f at *
 have HR:=AB hr
 clear hi hall e1 e2 ht hr
 go_enter Tryz.func30,Tryz.ntmps30
 go_wp2_with fail
 refine(AE HO).mono ?_
 rintro e w2 ⟨rfl,hb2⟩
 have hs2:w.heap.size≤w2.heap.size:=hb2.size
 have HB:Hid (∀ x,Below w.heap.size w (w2.alloc x)):=fun x=>hb2.alloc hb2.size x
 clear hb2
 go_wp2_with fail
 refine(AE HT _).mono ?_
 have m0:=AH w2 [.int .i64 (t:Nat),.int .i64 (f:Nat)] 101 0 _ rfl
 have m1:=AH w2 [.int .i64 (t:Nat),.int .i64 (f:Nat)] 101 1 _ rfl
 rw[Ch] at m0 m1
 simp only[Nat.zero_add] at m0 m1
 have e3:w2.heap.size<(w2.alloc (.cells #[.int .i64 (t:Nat),.int .i64 (f:Nat)] 101)).heap.size:=by simp
 have hbb:=HB.out (.cells #[.int .i64 (t:Nat),.int .i64 (f:Nat)] 101)
 generalize w2.alloc (.cells #[.int .i64 (t:Nat),.int .i64 (f:Nat)] 101)=wb at *
 rintro e w3 ⟨rfl,hb3⟩
 have F:Hid (∀ w',Below w3.heap.size w3 w'→w'.cell? ⟨w2.heap.size,0,none⟩=some (.int .i64 (t:Nat))∧w'.cell? ⟨w2.heap.size,1,none⟩=some (.int .i64 (f:Nat))∧w'.cell? ⟨g,3,none⟩=some (.slice ta ss.length tc)∧Below w.heap.size w w'):=by
  intro w' hb
  have hw3:Below w.heap.size w w3:=hbb.trans (hb3.mono (by omega))
  have hw':Below w.heap.size w w':=hw3.trans (hb.mono hw3.size)
  have hx3:w2.heap.size<w3.heap.size:=Nat.lt_of_lt_of_le e3 hb3.size
  exact⟨(hb.cell (p:=⟨w2.heap.size,0,none⟩) hx3).trans ((hb3.cell (p:=⟨w2.heap.size,0,none⟩) e3).trans m0),(hb.cell (p:=⟨w2.heap.size,1,none⟩) hx3).trans ((hb3.cell (p:=⟨w2.heap.size,1,none⟩) e3).trans m1),((AF HR.out hw').cell 3).trans rfl,hw'⟩
 have hx3:w2.heap.size<w3.heap.size:=Nat.lt_of_lt_of_le e3 hb3.size
 clear hb3 hbb m0 m1 e3 HB HT HO
 obtain⟨f0,f1,f2,_⟩:=F.out w3 (Below.refl _ _)
 go_wp2_with fail
 refine(AE HZ _).mono ?_
 rintro e w4 ⟨rfl,hb4⟩
 have hbw:Below w.heap.size w w4:=(F.out w4 hb4).2.2.2
 have R2:=AB (AF HR.out hbw)
 have c4:w4.cell? ⟨g,4,none⟩=some (.int .i64 em):=(R2.out.cell 4).trans rfl
 have z4:=R2.out.frozen 4
 have HBW:=AB hbw
 have HE:Hid (((em+1:Nat):Int)=(em:Int)+1):=by show _=_;omega
 clear hb4 hbw F
 go_wp2
 go_ret
 refine⟨rfl,?_,(Eh.of g _ HBW.out).set 4 _⟩
 have:=R2.out.set 4 (.int .i64 ((em:Int)+1))
 rw[← HE.out] at this
 exact this
set_option maxHeartbeats 4000000 in
theorem VZ(g:Nat)(a:Option Addr)(c:Nat)(xs:List Int)(r h l:Int)(ta:Option Addr)(ss:List Pr)(tc em se:Nat)(v6 v7:Value)(lo un:Nat)(w:World)(hx:xs.length≤9223372036854775807)(hi:AS w a xs)(hall:xs.all AT=true)(ht:(Al xs&&&Ak xs != 0)=false)
  (hr:AY w g 107 (BR r h l (.slice ta ss.length tc) em se v6 v7 lo un)) (hsa:Dy w ta ss) (hsl:ss.length≤1000000) (hsb:Hid (∀ p∈ss,p.1<2^11∧p.2<2^11)) (hz0:A7 (Al xs,Ak xs)≠0) (hfull:150<A7 (Al xs,Ak xs)+As ss) :
  Calls Tryz.prog 30 #[.pointer (some ⟨g,0,none⟩),.slice a xs.length c] w fun e w'=>e=.returned (.int .i64 5)∧Below w.heap.size w w':=by
 have HO:=AB (Fa a c xs w hx hi)
 have e1:Cm xs=Al xs:=by simp[Cm,hall]
 have e2:Ck xs=Ak xs:=by simp[Ck,hall]
 have HT:Hid (∀ w,Calls Tryz.prog 60 #[.agg #[.int .i64 (Al xs:Nat),.int .i64 (Ak xs:Nat)]] w fun e w'=>e=.returned (.bool false)∧Below w.heap.size w w'):=fun w=>by
  have:=EA (Al xs) (Ak xs) (DA xs hall) (Cy xs hall) w
  rwa [ht] at this
 have HZ:Hid (∀ w,Calls Tryz.prog 61 #[.agg #[.int .i64 (Al xs:Nat),.int .i64 (Ak xs:Nat)]] w fun e w'=>e=.returned (.int .i64 (A7 (Al xs,Ak xs):Nat))∧Below w.heap.size w w'):=fun w=>Eo (Al xs) (Ak xs) (DA xs hall) (Cy xs hall) w
 have HTT:Hid (∀ w',Below w.heap.size w w'→Calls Tryz.prog 62 #[.slice ta ss.length tc] w' fun e w''=>e=.returned (.int .i64 (As ss:Nat))∧Below w'.heap.size w' w''):=fun w' hb=>Fc ta tc ss w' (hsa.below hb) hsl hsb
 have h2:=GY ss
 rw[hall,e1,e2] at HO
 have h1:=Es (Al xs,Ak xs)
 generalize A7 (Al xs,Ak xs)=z at *
 generalize As ss=tot at *
 generalize Al xs=t at *
 generalize Ak xs=f at *
 have HR:=AB hr
 have hfi:((z:Int)+tot > 150):=by omega
 clear hi hall e1 e2 ht hr hsa
 go_enter Tryz.func30,Tryz.ntmps30
 go_wp2_with fail
 refine(AE HO).mono ?_
 rintro e w2 ⟨rfl,hb2⟩
 have hs2:w.heap.size≤w2.heap.size:=hb2.size
 have HB:Hid (∀ x,Below w.heap.size w (w2.alloc x)):=fun x=>hb2.alloc hb2.size x
 clear hb2
 go_wp2_with fail
 refine(AE HT _).mono ?_
 have m0:=AH w2 [.int .i64 (t:Nat),.int .i64 (f:Nat)] 101 0 _ rfl
 have m1:=AH w2 [.int .i64 (t:Nat),.int .i64 (f:Nat)] 101 1 _ rfl
 rw[Ch] at m0 m1
 simp only[Nat.zero_add] at m0 m1
 have e3:w2.heap.size<(w2.alloc (.cells #[.int .i64 (t:Nat),.int .i64 (f:Nat)] 101)).heap.size:=by simp
 have hbb:=HB.out (.cells #[.int .i64 (t:Nat),.int .i64 (f:Nat)] 101)
 generalize w2.alloc (.cells #[.int .i64 (t:Nat),.int .i64 (f:Nat)] 101)=wb at *
 rintro e w3 ⟨rfl,hb3⟩
 have F:Hid (∀ w',Below w3.heap.size w3 w'→w'.cell? ⟨w2.heap.size,0,none⟩=some (.int .i64 (t:Nat))∧w'.cell? ⟨w2.heap.size,1,none⟩=some (.int .i64 (f:Nat))∧w'.cell? ⟨g,3,none⟩=some (.slice ta ss.length tc)∧Below w.heap.size w w'):=by
  intro w' hb
  have hw3:Below w.heap.size w w3:=hbb.trans (hb3.mono (by omega))
  have hw':Below w.heap.size w w':=hw3.trans (hb.mono hw3.size)
  have hx3:w2.heap.size<w3.heap.size:=Nat.lt_of_lt_of_le e3 hb3.size
  exact⟨(hb.cell (p:=⟨w2.heap.size,0,none⟩) hx3).trans ((hb3.cell (p:=⟨w2.heap.size,0,none⟩) e3).trans m0),(hb.cell (p:=⟨w2.heap.size,1,none⟩) hx3).trans ((hb3.cell (p:=⟨w2.heap.size,1,none⟩) e3).trans m1),((AF HR.out hw').cell 3).trans rfl,hw'⟩
 have hx3:w2.heap.size<w3.heap.size:=Nat.lt_of_lt_of_le e3 hb3.size
 clear hb3 hbb m0 m1 e3 HB HT HO
 obtain⟨f0,f1,f2,_⟩:=F.out w3 (Below.refl _ _)
 go_wp2_with fail
 refine(AE HZ _).mono ?_
 rintro e w4 ⟨rfl,hb4⟩
 clear f0 f1 f2
 obtain⟨f0,f1,f2,_⟩:=F.out w4 hb4
 have Bc:Hid (Below w3.heap.size w3 w4.drew):=below_drewN hb4 1
 clear hb4
 have hwrap:IntKind.i64.wrap ((z:Int)+tot)=(z:Int)+tot:=by rw[IntKind.wrap_i64];omega
 have hzi:(((z:Nat):Int) == 0)=false:=by simp;omega
 go_wp2_with fail
 go_region_with (first
  | (go_at_call 61;refine(AE HZ _).mono ?_;rintro e wa ⟨rfl,hba⟩;have Bc:Hid (Below w3.heap.size w3 wa):=Bc.out.trans (hba.mono Bc.out.size);clear hba;obtain⟨f0,f1,f2,_⟩:=F.out wa Bc.out)
  | (go_at_call 62;refine(AE HTT _ (F.out _ Bc.out).2.2.2).mono ?_;rintro e wa ⟨rfl,hba⟩;have Bc:Hid (Below w3.heap.size w3 wa):=Bc.out.trans (hba.mono Bc.out.size);clear hba;obtain⟨f0,f1,f2,_⟩:=F.out wa Bc.out))
 all_goals
  go_wp2
  go_ret
  exact⟨rfl,(F.out _ Bc.out).2.2.2⟩
set_option maxHeartbeats 4000000 in
theorem Ly(a:Option Addr)(c:Nat)(xs:List Int)(b:Int)(w:World)(hr:AS w a xs)(hx:xs.length≤1000000) :
  Calls Tryz.prog 67 #[.slice a xs.length c,.int .i64 b] w fun e w'=>e=.returned (.int .i64 (A9 xs b))∧Below w.heap.size w w':=by
 have HO:=AB (Fa a c xs w (by omega) hr)
 have HB:Hid (∀ w' x,Below w.heap.size w w'→Below w.heap.size w (w'.alloc x)):=fun w' x hb=>hb.alloc hb.size x
 clear hr
 by_cases h20:20<xs.length
 ·have e0:A9 xs b=2:=by unfold A9;rw[if_pos h20]
  rw[e0]
  have hi:((xs.length:Int) > 20):=by omega
  clear HO h20 e0
  go_enter Tryz.func67,Tryz.ntmps67
  go_wp2
  go_ret
  exact⟨rfl,Below.refl _ _⟩
 ·have hi:¬ ((xs.length:Int) > 20):=by omega
  cases hall:xs.all AT with
  | false =>
   have e0:A9 xs b=4:=by unfold A9;rw[if_neg h20,if_pos hall]
   rw[e0]
   rw[hall] at HO
   clear h20 e0 hall
   go_enter Tryz.func67,Tryz.ntmps67
   go_wp2_with fail
   refine(AE HO).mono ?_
   rintro e w1 ⟨rfl,hb1⟩
   have B1:=AB hb1
   clear hb1
   go_wp2
   go_ret
   exact⟨rfl,HB.out _ _ B1.out⟩
  | true =>
   rw[hall] at HO
   by_cases hb:b<0
   ·have e0:A9 xs b=6:=by unfold A9;rw[if_neg h20,if_neg (by rw[hall];simp),if_pos hb]
    rw[e0]
    clear h20 e0 hall
    go_enter Tryz.func67,Tryz.ntmps67
    go_wp2_with fail
    refine(AE HO).mono ?_
    rintro e w1 ⟨rfl,hb1⟩
    have B1:=AB hb1
    clear hb1
    go_wp2
    go_ret
    exact⟨rfl,HB.out _ _ B1.out⟩
   ·have e0:A9 xs b=0:=by unfold A9;rw[if_neg h20,if_neg (by rw[hall];simp),if_neg hb]
    rw[e0]
    clear h20 e0 hall
    go_enter Tryz.func67,Tryz.ntmps67
    go_wp2_with fail
    refine(AE HO).mono ?_
    rintro e w1 ⟨rfl,hb1⟩
    have B1:=AB hb1
    clear hb1
    go_wp2
    go_ret
    exact⟨rfl,HB.out _ _ B1.out⟩
set_option maxHeartbeats 4000000 in
theorem bR(g:Nat)(r h l:Int)(v3 v6 v7:Value)(em se lo un:Nat)(a:Option Addr)(c:Nat)(xs:List Int)(w:World)(hr:AY w g 107 (BR r h l v3 em se v6 v7 lo un))(hi:AS w a xs)(hx:xs.length≤1000000)(hse:se<2^11) :
  Calls Tryz.prog 68 #[.pointer (some ⟨g,0,none⟩),.slice a xs.length c] w fun e w'=>e=.returned (.tuple #[])∧AY w' g 107 (BR r h l v3 em (se|||vN (AJ xs)) v6 v7 lo un)∧w.grownBy w' (some g):=by
 have HO:=AB (Fa a c xs w (by omega) hi)
 have h2:=(CT.ok xs).eq
 rw[h2.1,h2.2] at HO
 have HV:Hid (∀ w,Calls Tryz.prog 63 #[.agg #[.int .i64 (tN (AJ xs):Nat),.int .i64 (fN (AJ xs):Nat)]] w fun e w'=>e=.returned (.int .i64 (vN (AJ xs):Nat))∧Below w.heap.size w w'):=fun w=>Hv _ _ (GA _) (Fy _) w
 have hvl:=Nk (AJ xs)
 have ho:=IU se (vN (AJ xs)) (by omega) (by omega)
 have HR:=AB hr
 generalize vN (AJ xs)=vx at *
 generalize tN (AJ xs)=tx at *
 generalize fN (AJ xs)=fx at *
 generalize xs.all AT=bb at *
 clear hr hi h2
 go_enter Tryz.func68,Tryz.ntmps68
 go_wp2_with fail
 refine(AE HO).mono ?_
 rintro e w1 ⟨rfl,hb1⟩
 have B1:=AB hb1
 have hbA:=AI w1 (.cells #[.int .i64 (tx:Nat),.int .i64 (fx:Nat)] 101)
 have r1:AY (w1.alloc (.cells #[.int .i64 (tx:Nat),.int .i64 (fx:Nat)] 101)) w1.heap.size 101 [.int .i64 (tx:Nat),.int .i64 (fx:Nat)]:=heap_alloc_new w1 _
 have R1:=AB r1
 have S1:=AB (AF (AF HR.out hb1) hbA)
 have B2:Hid (Below w.heap.size w (w1.alloc (.cells #[.int .i64 (tx:Nat),.int .i64 (fx:Nat)] 101))):=hb1.trans (hbA.mono hb1.size)
 have c5:(w1.alloc (.cells #[.int .i64 (tx:Nat),.int .i64 (fx:Nat)] 101)).cell? ⟨g,5,none⟩=some (.int .i64 se):=(S1.out.cell 5).trans rfl
 have x0:(w1.alloc (.cells #[.int .i64 (tx:Nat),.int .i64 (fx:Nat)] 101)).cell? ⟨w1.heap.size,0,none⟩=some (.int .i64 (tx:Nat)):=(r1.cell 0).trans rfl
 have x1:(w1.alloc (.cells #[.int .i64 (tx:Nat),.int .i64 (fx:Nat)] 101)).cell? ⟨w1.heap.size,1,none⟩=some (.int .i64 (fx:Nat)):=(r1.cell 1).trans rfl
 clear hb1 hbA r1 HO HR B1
 go_wp2_with fail
 generalize w1.alloc (.cells #[.int .i64 (tx:Nat),.int .i64 (fx:Nat)] 101)=w2 at *
 go_region_with (go_at_call 63;refine(AE HV _).mono ?_;rintro e w3 ⟨rfl,hb3⟩;have B3:Hid (Below w2.heap.size w2 w3):=(below_drewN (Below.refl _ _) 1).trans hb3;have S3:=AB (AF S1.out B3.out);have c5':w3.cell? ⟨g,5,none⟩=some (.int .i64 se):=(S3.out.cell 5).trans rfl;have z5:=S3.out.frozen 5;clear hb3)
 all_goals
  go_wp2
  go_end0
  exact⟨rfl,S3.out.set 5 _,Ci (Ez _ (B2.out.trans (B3.out.mono B2.out.size)))⟩
theorem ZN:∃ fs,Tryz.prog.underlying 115=some (.struct fs):=by
 have h:(Tryz.prog.underlying 115).map EY=some true:=by kernel_rfl
 cases hu:Tryz.prog.underlying 115 with
 | none=>rw[hu] at h;simp at h
 | some d =>
  rw[hu] at h
  cases d with
  | struct fs=>exact⟨fs,rfl⟩
  | _=>simp[EY] at h
theorem ZM:(Tryz.prog.info? 115).map (·.size)=some 4:=by kernel_rfl
theorem ZP{w':World}{tmps:Array Value}{g:Nat}{p q x y:Value}(hr:AY w' g 115 [p,q,x,y])(h2:tmps.getD 4 undef=.pointer (some ⟨g,0,none⟩)) :
  (results Tryz.f71 tmps).run Tryz.prog w'=.ok (.agg #[p,q,x,y]) w':=by
 obtain⟨fs,hu⟩:=ZN
 exact results_cell_row rfl tmps w' g 115 #[p,q,x,y] (0,0) (.struct fs) h2 hr hu rfl ZM
set_option maxHeartbeats 8000000 in
theorem ZO(g:Nat)(r h l:Int)(v3 v7:Value)(em se lo un:Nat)(la:Option Addr)(lc:Nat)(ls:List Pr)(b:Int)(w:World)(hr:AY w g 107 (BR r h l v3 em se (.slice la ls.length lc) v7 lo un))(hla:Dy w la ls)(hll:ls.length≤1000000)(hlb:Hid (∀ p∈ls,p.1<2^11∧p.2<2^11))(hh:0≤h∧h≤1048576)(hl:0≤l∧l≤1048576)(hlo:lo≤1048576) :
  Calls Tryz.prog 71 #[.pointer (some ⟨g,0,none⟩),.int .i64 b] w fun e w'=>e=.returned (.agg #[.int .i64 b,.int .i64 r,.int .i64 (h - (As ls:Int)),.int .i64 (l - (lo:Int))])∧Below w.heap.size w w':=by
 have HTT:Hid (∀ w',Below w.heap.size w w'→Calls Tryz.prog 62 #[.slice la ls.length lc] w' fun e w''=>e=.returned (.int .i64 (As ls:Nat))∧Below w'.heap.size w' w''):=fun w' hb=>Fc la lc ls w' (hla.below hb) hll hlb
 have htl:=GY ls
 generalize As ls=tot at *
 have HR:=AB hr
 have hgl:g<w.heap.size:=hr.lt
 have rA:AY (w.alloc (.cells #[.int .i64 0,.int .i64 0,.int .i64 0,.int .i64 0] 115)) w.heap.size 115 [.int .i64 0,.int .i64 0,.int .i64 0,.int .i64 0]:=heap_alloc_new w _
 have hbA:=AI w (.cells #[.int .i64 0,.int .i64 0,.int .i64 0,.int .i64 0] 115)
 have w1':IntKind.i64.wrap (h - (tot:Int))=h - (tot:Int):=by rw[IntKind.wrap_i64];omega
 have w2':IntKind.i64.wrap (l - (lo:Int))=l - (lo:Int):=by rw[IntKind.wrap_i64];omega
 clear hr hla
 go_enter Tryz.func71,Tryz.ntmps71
 go_wp2_with fail
 generalize w.alloc (.cells #[.int .i64 0,.int .i64 0,.int .i64 0,.int .i64 0] 115)=wA at *
 have F:Hid (∀ w',Below wA.heap.size wA w'→(w'.cell? ⟨g,0,none⟩=some (.int .i64 r)∧w'.cell? ⟨g,1,none⟩=some (.int .i64 h)∧w'.cell? ⟨g,2,none⟩=some (.int .i64 l)∧w'.cell? ⟨g,6,none⟩=some (.slice la ls.length lc)∧w'.cell? ⟨g,8,none⟩=some (.int .i64 lo))∧Below w.heap.size w w'∧AY w' w.heap.size 115 [.int .i64 0,.int .i64 0,.int .i64 0,.int .i64 0]):=by
  intro w' hb
  have hw':Below w.heap.size w w':=hbA.trans (hb.mono hbA.size)
  have R:=AF HR.out hw'
  exact⟨⟨(R.cell 0).trans rfl,(R.cell 1).trans rfl,(R.cell 2).trans rfl,(R.cell 6).trans rfl,(R.cell 8).trans rfl⟩,hw',AF rA hb⟩
 have Bc:Hid (Below wA.heap.size wA wA.drew):=below_drewN (Below.refl _ _) 1
 obtain⟨⟨c0,c1,c2,c6,c8⟩,_,_⟩:=F.out wA (Below.refl _ _)
 have hne:w.heap.size≠g:=by omega
 clear rA hbA HR
 go_region_held3 (fun w'=>w'.cell? ⟨g,0,none⟩=some (.int .i64 r)∧w'.cell? ⟨g,1,none⟩=some (.int .i64 h)∧w'.cell? ⟨g,2,none⟩=some (.int .i64 l)∧w'.cell? ⟨g,6,none⟩=some (.slice la ls.length lc)∧w'.cell? ⟨g,8,none⟩=some (.int .i64 lo)) (go_keep)
  (first | (go_at_call 62;refine(AE HTT _ (F.out _ Bc.out).2.1).mono ?_;rintro e wa ⟨rfl,hba⟩;have Bc:Hid (Below wA.heap.size wA wa):=Bc.out.trans (hba.mono Bc.out.size);clear hba;obtain⟨⟨c0,c1,c2,c6,c8⟩,_,RZ⟩:=F.out wa Bc.out;have z0:wa.cell? ⟨w.heap.size,0,none⟩=some (.int .i64 0):=(RZ.cell 0).trans rfl;have z1:wa.cell? ⟨w.heap.size,1,none⟩=some (.int .i64 0):=(RZ.cell 1).trans rfl;have z2:wa.cell? ⟨w.heap.size,2,none⟩=some (.int .i64 0):=(RZ.cell 2).trans rfl;have z3:wa.cell? ⟨w.heap.size,3,none⟩=some (.int .i64 0):=(RZ.cell 3).trans rfl;have y0:=RZ.frozen 0;have y1:=RZ.frozen 1;have y2:=RZ.frozen 2;have y3:=RZ.frozen 3;have RZ:=AB RZ))
 have R9:=AB ((((RZ.out.set 0 (.int .i64 b)).set 1 (.int .i64 r)).set 2 (.int .i64 (h - (tot:Int)))).set 3 (.int .i64 (l - (lo:Int))))
 have HB:Hid (Below w.heap.size w wa):=(F.out _ Bc.out).2.1
 clear F HTT
 go_wp2
 refine bodyPost_ret (v:=.agg #[.int .i64 b,.int .i64 r,.int .i64 (h - (tot:Int)),.int .i64 (l - (lo:Int))]) (ZP R9.out rfl) rfl ⟨rfl,?_⟩
 exact(((HB.out.setCell (p:=⟨w.heap.size,0,none⟩) (Nat.le_refl _) _).setCell (p:=⟨w.heap.size,1,none⟩) (Nat.le_refl _) _).setCell (p:=⟨w.heap.size,2,none⟩) (Nat.le_refl _) _).setCell (p:=⟨w.heap.size,3,none⟩) (Nat.le_refl _) _
end Go.Proofs.YthboeppmlhbofaaGreatDoor
