import Derived.Test.YthboeppmlhbofaaDoorLau
import Derived.Deep.RegionHeld3
namespace Go.Proofs.YthboeppmlhbofaaDoor
open Go.RowKit Txt
set_option maxRecDepth 100000
theorem IA{P:Program}{w:World}{base:Nat}{t u ty e:TypeId}{i:TypeInfo}(ht:P.underlying t=some (.slice e))(hu:P.underlying u=some .string)(hi:P.info? e=some i)(hz:i.zero=some (.int .u8 0))(hsize:i.size=1)(hby:i.bytes=1)
  {v:Value} {n:Nat} {xs:List Value} (hown:w.ownsRow base e 1 v n xs) {s:ByteArray} (h63:n+s.size≤maxLen) (hbytes:n+s.size≤140737488355328) (hs0:0<s.size)
  {v':Value} {w':World} (hr:(Builtin.append_ #[t,u] ty #[v,.string s]).run P w=.ok v' w'):DM v v' w:=by
 have hsmall:n+s.size≤9223372036854775807:=by simp only[maxLen] at h63;omega
 have hxl:xs.length=n:=by simpa using hown.1
 rcases hown.2 with⟨rfl,rfl⟩ | ⟨g,cap,cur,rfl,hbg,hg,hnc,hcm,hcs,htake⟩
 ·have h2:=run_append_nil_string (P:=P) w t u ty e i (.int .u8 0) ht hu hi hz s (by omega) (by omega) (by rw[hby];omega)
  rw[h2] at hr
  cases hr
  intro b hb
  simp only[Value.ownBlock,Option.some.injEq] at hb
  right;omega
 ·by_cases hroom:n+s.size≤cap
  ·have hcs':cur.size=cap:=by simpa using hcs
   have h2:=Lib.run_append_room_string (P:=P) w t u ty e i ht hu hi hsize g n cap cur hg s hroom (by omega)
   rw[h2] at hr
   cases hr
   intro b hb
   left
   exact hb
  ·have holds:∀ j u,xs[j]?=some u→w.cell? ((⟨g,0,none⟩:Addr).add j)=some u:=hown.cells (g:=g) rfl
   have h2:=Lib.run_append_grow_string (P:=P) w t u ty e i (.int .u8 0) ht hu hi hz ⟨g,0,none⟩ n cap xs (by rw[hsize];simpa using hxl) holds s (by omega) (by omega) (by rw[hby];exact growslice_fits (by omega) (by omega))
   rw[h2] at hr
   cases hr
   intro b hb
   simp only[Value.ownBlock,Option.some.injEq] at hb
   right;omega
theorem JG{P:Program}(w:World){ops:Array Oper}{rest:List Oper}{o:Oper}{a:Act}{Q:Exit→Act→World→Prop}(hgd:o.guard=none)(sl x:Operand)(t u:TypeId)
  (ho:o.op=.call { callee:=.builtin .append,args:=#[sl,x],argTypes:=#[t,u] })
  (base:Nat) (e:TypeId) (i:TypeInfo) (ht:P.underlying t=some (.slice e)) (hu:P.underlying u=some .string) (hi:P.info? e=some i) (hz:i.zero=some (.int .u8 0))
  (hsize:i.size=1) (hby:i.bytes=1)
  (v:Value) (n:Nat) (xs:List Value) (hs:a.eval sl=v) (hown:w.ownsRow base e 1 v n xs) (s:ByteArray) (hx:a.eval x=.string s)
  (h63:n+s.size≤maxLen) (hbytes:n+s.size≤140737488355328) (hbase:base≤w.heap.size) (hs0:0<s.size)
  (h:∀ v' w',w'.ownsRow base e 1 v' (n+s.size) (xs++Lib.strCells s)→w.grownBy w' v.ownBlock→DM v v' w→wpList P ops Q rest (a.put o.dst v') w'):wpList P ops Q (o :: rest) a w:=by
 refine wpList_plain hgd fun K hK=>?_
 obtain⟨v',w',hr,h2,h3,h4⟩:=Lib.run_append_own_string (P:=P) w base t u o.type e i ht hu hi hz hsize hby v n xs hown s h63 hbytes hbase
 have h5:=IA ht hu hi hz hsize hby hown h63 hbytes hs0 hr
 unfold Oper.wp execOp
 simp only[ho,resolve,invoke,builtin,Sem.run_bind,Sem.run_pure,Result.andThen_ok,List.map_toArray,List.map_cons,List.map_nil,hs,hx,hr]
 exact hK _ _ (h v' w' h2 h3 h5)
theorem CZ{v v1:Value}{w w1 w2:World}(h:w.grownBy w1 v.ownBlock)(hm:DM v v1 w)(h':w1.grownBy w2 v1.ownBlock):w.grownBy w2 v.ownBlock :=
 ⟨h'.os.trans h.os,h'.tape.trans h.tape,h'.output.trans h.output,Nat.le_trans h.size h'.size,fun k hk hn=>(h'.block k (Nat.lt_of_lt_of_le hk h.size) (fun q=>(hm k q.symm).elim (fun z=>hn z.symm) (fun z=>by omega))).trans (h.block k hk hn)⟩
theorem Dr{w w':World}(r:Option Nat)(h:Below w.heap.size w w'):w.grownBy w' r:=⟨h.os,h.tape,h.output,h.size,fun k hk _=>h.block k hk⟩
theorem Il{v:Value}{a':Option Addr}{n N c' H:Nat}{p:Prop}{w:World}(h:v=.slice a' n c'∨a'=some ⟨H,0,none⟩∧p)(hH:w.heap.size≤H):DM v (.slice a' N c') w:=fun b hb=>by
 rcases FD (N:=N) h with q | q
 ·rw[← q];exact .inl hb
 ·rw[q,Option.some.injEq] at hb;right;omega
theorem Se{w w':World}{r:Option Nat}(h:FM w)(hg:w.grownBy w' r)(h0:0<w.heap.size)(hr:r≠some 0):FM w' :=
 h.below (B:=1) ⟨hg.os,hg.tape,hg.output,hg.size,fun b hb=>hg.block b (by omega) (fun q=>by
  have:b=0:=by omega
  rw[this] at q
  exact hr q.symm)⟩ (by omega)
theorem FH{w:World}{B B' e e' s s' n n':Nat}{v v':Value}{xs xs':List Value}(h:w.ownsRow B e s v n xs)(h':w.ownsRow B' e' s' v' n' xs')(he:e≠e'):v.ownBlock=none∨v.ownBlock≠v'.ownBlock:=by
 rcases h.2 with⟨rfl,_⟩ | ⟨g,cap,cur,rfl,_,hg,_⟩
 ·exact .inl rfl
 ·right
  intro q
  rcases h'.2 with⟨rfl,_⟩ | ⟨g',cap',cur',rfl,_,hg',_⟩
  ·simp[Value.ownBlock] at q
  ·simp only[Value.ownBlock,Option.some.injEq] at q
   subst q
   rw[hg] at hg'
   simp only[Option.some.injEq,Obj.cells.injEq] at hg'
   exact he hg'.2.1
set_option maxHeartbeats 2000000 in
theorem KE(ao:Option Addr)(cap:Nat)(t:List UInt8)(x:Int)(w:World)
  (htab:Hid (FM w)) (hown:w.ownsRow 0 5 1 (.slice ao t.length cap) t.length (c8 t)) (ht:t.length≤1000000000) (hx:Hid (AK x=true)) :
  Calls Tryd.prog 60 #[.slice ao t.length cap,.int .i64 x] w fun e w'=>∃ ao' cap',e=.returned (.slice ao' (t++Ci x).length cap') ∧
   w'.ownsRow 0 5 1 (.slice ao' (t++Ci x).length cap') (t++Ci x).length (c8 (t++Ci x))∧w.grownBy w' (Value.slice ao t.length cap).ownBlock∧DM (.slice ao t.length cap) (.slice ao' (t++Ci x).length cap') w:=by
 obtain⟨i0,hi,hz0,hz1,hz2⟩:=info_parts Tryd.infoByte
 have hit:=(DY hx.out)
 have c0:Hid (0<(⟨(Lib.itoa x).toArray⟩:ByteArray).size):=by show _<_;rw[Ch];omega
 have c1:Hid (t.length+(⟨(Lib.itoa x).toArray⟩:ByteArray).size≤maxLen):=by
  show _≤_
  rw[Ch];unfold maxLen;omega
 have c2:Hid (t.length+(⟨(Lib.itoa x).toArray⟩:ByteArray).size≤140737488355328):=by
  show _≤_
  rw[Ch];omega
 have d1:Hid (t.length+(⟨(Lib.itoa x).toArray⟩:ByteArray).size+1≤maxLen):=by
  show _≤_
  rw[Ch];unfold maxLen;omega
 have d2:Hid ((t.length+(⟨(Lib.itoa x).toArray⟩:ByteArray).size+1)*1≤140737488355328):=by
  show _≤_
  rw[Ch];omega
 clear hit
 go_enter Tryd.func60,Tryd.ntmps60
 go_wp2_with (first
  | (go_at_call 77;refine(Nf _ hx.out _ htab).mono ?_;rintro e w1 ⟨rfl,hg1⟩;have hown1:=hown.kept hg1 (Classical.em _))
  | (at_builtin;refine JG _ rfl _ _ 65 9 rfl 0 5 i0 Tryd.undBytes Tryd.undString hi hz0 hz1 hz2 (.slice ao t.length cap) t.length (c8 t) rfl hown1 ⟨(Lib.itoa x).toArray⟩ rfl c1.out c2.out (Nat.zero_le _) c0.out ?_;intro v2 w2 hown2 hg2 hm2)
  | (at_builtin;refine Cc _ rfl _ _ 65 rfl 0 5 i0 (.int .u8 0) 1 Tryd.undBytes hi hz0 hz1 hz2 rfl v2 _ _ rfl (hown2.alloc _) ⟨w2.heap.size,0,none⟩ 1 1 [.int .u8 32] rfl rfl (Fz w2 [.int .u8 32] 5) (MN [32]) (by decide) d1.out d2.out (Nat.zero_le _) (w2.heap.size+1) (by simp) ?_;intro a3 c3 w3 hown3 hg3 hl3))
 have e1:t.length+(⟨(Lib.itoa x).toArray⟩:ByteArray).size+1=(t++Ci x).length:=by rw[Ch];simp[Ci];omega
 have e2:c8 t++Lib.strCells ⟨(Lib.itoa x).toArray⟩++[.int .u8 32]=c8 (t++Ci x):=by rw[JB];simp[Ci,c8]
 rw[e1,e2] at hown3
 have k1:w.grownBy w1 (Value.slice ao t.length cap).ownBlock:=Dr _ (KX hg1)
 have k2:w.grownBy w2 (Value.slice ao t.length cap).ownBlock:=CZ k1 (DM.refl _ _) hg2
 have m2:DM (.slice ao t.length cap) v2 w:=fun b hb=>(hm2 b hb).imp id fun q=>Nat.le_trans hg1.size q
 have k3:w.grownBy (w2.alloc (.cells [Value.int .u8 32].toArray 5)) (Value.slice ao t.length cap).ownBlock:=CZ k2 m2 (Dr _ (AF _ _))
 have k4:w.grownBy w3 (Value.slice ao t.length cap).ownBlock:=CZ k3 m2 hg3
 have m3:DM v2 (.slice a3 (t++Ci x).length c3) w:=Il hl3 (by have:=k2.size;omega)
 go_ret
 refine⟨a3,c3,?_,hown3,k4,fun b hb=>(m3 b hb).elim (m2 b) .inr⟩
 rw[← e1]
 rfl
set_option maxHeartbeats 2000000 in
theorem KC(ao:Option Addr)(cap:Nat)(t:List UInt8)(w:World)
  (hown:w.ownsRow 0 5 1 (.slice ao t.length cap) t.length (c8 t)) (ht:t.length≤1000000000) :
  Calls Tryd.prog 61 #[.slice ao t.length cap] w fun e w'=>∃ ao' cap',e=.returned (.slice ao' (t++[48,10]).length cap') ∧
   w'.ownsRow 0 5 1 (.slice ao' (t++[48,10]).length cap') (t++[48,10]).length (c8 (t++[48,10]))∧w.grownBy w' (Value.slice ao t.length cap).ownBlock∧DM (.slice ao t.length cap) (.slice ao' (t++[48,10]).length cap') w:=by
 obtain⟨i0,hi,hz0,hz1,hz2⟩:=info_parts Tryd.infoByte
 have d1:Hid (t.length+2≤maxLen):=by show _≤_;unfold maxLen;omega
 have d2:Hid ((t.length+2)*1≤140737488355328):=by show _≤_;omega
 go_enter Tryd.func61,Tryd.ntmps61
 go_wp2_with (at_builtin;refine Cc _ rfl _ _ 65 rfl 0 5 i0 (.int .u8 0) 1 Tryd.undBytes hi hz0 hz1 hz2 rfl (.slice ao t.length cap) t.length (c8 t) rfl (hown.alloc _) ⟨w.heap.size,0,none⟩ 2 2 [.int .u8 48,.int .u8 10] rfl rfl (Fz w [.int .u8 48,.int .u8 10] 5) (MN [48,10]) (by decide) d1.out d2.out (Nat.zero_le _) (w.heap.size+1) (by simp) ?_;intro a3 c3 w3 hown3 hg3 hl3)
 have e1:t.length+2=(t++[48,10]).length:=by simp
 have e2:c8 t++[.int .u8 48,.int .u8 10]=c8 (t++[48,10]):=by simp[c8]
 rw[e1,e2] at hown3
 have k4:w.grownBy w3 (Value.slice ao t.length cap).ownBlock:=CZ (Dr _ (AF _ _)) (DM.refl _ _) hg3
 have m3:DM (.slice ao t.length cap) (.slice a3 (t++[48,10]).length c3) w:=Il hl3 (by omega)
 go_ret
 refine⟨a3,c3,?_,hown3,k4,m3⟩
 rw[← e1]
 rfl
set_option maxHeartbeats 4000000 in
theorem KD(ao:Option Addr)(cap:Nat)(t:List UInt8)(lt:UInt8)(a:Option Addr)(c b0:Nat)(xs:List Int)(w:World)(h0:0<w.heap.size)(hn0:(Value.slice ao t.length cap).ownBlock≠some 0)
  (htab:FM w) (hown:w.ownsRow 0 5 1 (.slice ao t.length cap) t.length (c8 t)) (ht:t.length≤100000000) (hol:w.ownsRow b0 3 1 (.slice a xs.length c) xs.length (AW xs)) (hlit:xs.all AK=true) (hxl:xs.length≤1000) :
  Calls Tryd.prog 55 #[.slice ao t.length cap,.agg #[.int .u8 (lt.toNat:Int),.slice a xs.length c]] w fun e w'=>∃ ao' cap',e=.returned (.slice ao' (t++BZ lt xs).length cap') ∧
   w'.ownsRow 0 5 1 (.slice ao' (t++BZ lt xs).length cap') (t++BZ lt xs).length (c8 (t++BZ lt xs))∧w.grownBy w' (Value.slice ao t.length cap).ownBlock∧DM (.slice ao t.length cap) (.slice ao' (t++BZ lt xs).length cap') w:=by
 obtain⟨i0,hi,hz0,hz1,hz2⟩:=info_parts Tryd.infoByte
 have d1:Hid (t.length+2≤maxLen):=by show _≤_;unfold maxLen;omega
 have d2:Hid ((t.length+2)*1≤140737488355328):=by show _≤_;omega
 have HIN:=AA (And.intro htab (And.intro hown (And.intro hol hlit)))
 have hne:(Value.slice a xs.length c).ownBlock=none∨(Value.slice a xs.length c).ownBlock≠(Value.slice ao t.length cap).ownBlock:=FH hol hown (by decide)
 have HNE:=AA hne
 have HN0:=AA hn0
 have r0:Ab (w.alloc (.cells #[.int .u8 (lt.toNat:Int),.slice a xs.length c] 75)) w.heap.size 75 [.int .u8 (lt.toNat:Int),.slice a xs.length c]:=heap_alloc_new w _
 have R0:=AA r0
 have x0:(w.alloc (.cells #[.int .u8 (lt.toNat:Int),.slice a xs.length c] 75)).cell? ⟨w.heap.size,0,none⟩=some (.int .u8 (lt.toNat:Int)):=(r0.cell 0).trans rfl
 have x1:(w.alloc (.cells #[.int .u8 (lt.toNat:Int),.slice a xs.length c] 75)).cell? ⟨w.heap.size,1,none⟩=some (.slice a xs.length c):=(r0.cell 1).trans rfl
 have O0:=AA (hown.alloc (.cells #[.int .u8 (lt.toNat:Int),.slice a xs.length c] 75))
 have B0:=AA (AF w (.cells #[.int .u8 (lt.toNat:Int),.slice a xs.length c] 75))
 have hsz:(w.alloc (.cells #[.int .u8 (lt.toNat:Int),.slice a xs.length c] 75)).heap.size=w.heap.size+1:=by simp
 clear htab hown hol hlit hne hn0 r0
 go_enter Tryd.func55,Tryd.ntmps55
 go_wp2_with (at_builtin;refine Cc _ rfl _ _ 65 rfl 0 5 i0 (.int .u8 0) 1 Tryd.undBytes hi hz0 hz1 hz2 rfl (.slice ao t.length cap) t.length (c8 t) rfl (O0.out.alloc _) ⟨w.heap.size+1,0,none⟩ 2 2 [.int .u8 (lt.toNat:Int),.int .u8 32] rfl rfl (GU _ _ (by simp) [.int .u8 (lt.toNat:Int),.int .u8 32] 5) (by intro u hu;simp at hu;rcases hu with rfl|rfl <;> rfl) (by decide) d1.out d2.out (Nat.zero_le _) (w.heap.size+1+1) (by simp) ?_;intro a3 c3 w3 hown3 hg3 hl3;have R3:=AA (BU (AB R0.out (AF _ _)) (O0.out.alloc _) (by decide) hg3);have y1:w3.cell? ⟨w.heap.size,1,none⟩=some (.slice a xs.length c):=(R3.out.cell 1).trans rfl)
 have G3:Hid (w.grownBy w3 (Value.slice ao t.length cap).ownBlock):=CZ (Dr _ (B0.out.trans ((AF _ _).mono B0.out.size))) (DM.refl _ _) hg3
 have M3:Hid (DM (Value.slice ao t.length cap) (.slice a3 (t++([lt,32]++Aw (xs.take 0))).length c3) w):=Il hl3 (by omega)
 have e1:t.length+2=(t++([lt,32]++Aw (xs.take 0))).length:=by simp[Aw]
 have e2:c8 t++[.int .u8 (lt.toNat:Int),.int .u8 32]=c8 (t++([lt,32]++Aw (xs.take 0))):=by simp[c8,Aw]
 have O3:Hid (w3.ownsRow 0 5 1 (.slice a3 (t++([lt,32]++Aw (xs.take 0))).length c3) (t++([lt,32]++Aw (xs.take 0))).length (c8 (t++([lt,32]++Aw (xs.take 0))))):=by
  have:=hown3
  rw[e1,e2] at this
  exact this
 have E1:=AA e1
 clear hown3 hg3 hl3 x0 x1 R0 O0 B0 hsz e1 e2 y1 R3
 go_loopw [0,15] (fun s i wr=>∃ (k:Nat) (ao1:Option Addr) (cap1:Nat) (t1:List UInt8),k≤xs.length∧i=.int .i64 k∧s=.slice ao1 t1.length cap1∧t1.length≤t.length+2+4*k∧Hid (t1=t++([lt,32]++Aw (xs.take k)))∧Hid (wr.ownsRow 0 5 1 (.slice ao1 t1.length cap1) t1.length (c8 t1))∧Hid (w.grownBy wr (Value.slice ao t.length cap).ownBlock)∧Hid (DM (Value.slice ao t.length cap) (.slice ao1 t1.length cap1) w)) (fun _ i _=>xs.length - (intOf i).toNat)
 case atStart=>exact⟨0,a3,c3,_,Nat.zero_le _,rfl,by rw[← E1.out],by have:=E1.out;omega,rfl,O3,G3,M3⟩
 case round =>
  clear G3 M3 O3 E1
  obtain⟨k,ao1,cap1,t1,hk,rfl,rfl,hl1,ET,O,G,M⟩:=hrel
  have TB:Hid (FM wr):=Se HIN.out.1 G.out h0 HN0.out
  have OI:Hid (wr.ownsRow b0 3 1 (.slice a xs.length c) xs.length (AW xs)):=HIN.out.2.2.1.kept G.out HNE.out
  by_cases hlt:k<xs.length
  ·obtain⟨b,off,rfl,hc⟩:=(By OI.out).get (by omega)
   have hck:=hc k hlt
   have hx:AK (xs.getD k 0)=true:=by
    have:=List.all_eq_true.1 HIN.out.2.2.2 (xs.getD k 0) (by rw[List.getD_eq_getElem?_getD,List.getElem?_eq_getElem hlt];exact List.getElem_mem hlt)
    exact this
   have HS:Hid (Aw (xs.take (k+1))=Aw (xs.take k)++Ci (xs.getD k 0)):=Kh xs k hlt
   clear hc OI
   generalize xs.getD k 0=x at hck hx HS
   have hit:=DY hx
   have HX:=AA hx
   have HAL:=AA (KE ao1 cap1 t1 x wr TB O.out (by omega) HX)
   have i1':(0:Int)≤(k:Int):=by omega
   have i2':(k:Int)<(xs.length:Int):=by omega
   clear hx
   go_wp2_with fail
   refine(AE HAL).mono ?_
   rintro e w4 ⟨ao4,cap4,rfl,ho4,hg4,hm4⟩
   have O4:=AA ho4
   have G4:=AA (CZ G.out M.out hg4)
   have M4:Hid (DM (Value.slice ao t.length cap) (.slice ao4 (t1++Ci x).length cap4) w):=M.out.trans hm4 G.out.size
   have L4:(t1++Ci x).length≤t.length+2+4*(k+1):=by simp[Ci];omega
   have E4:Hid (t1++Ci x=t++([lt,32]++Aw (xs.take (k+1)))):=by show _=_;rw[ET.out,HS.out];simp
   clear ho4 hg4 hm4 HAL
   generalize t1++Ci x=t4 at *
   go_wp2
   go_roundw
   case rel=>exact⟨k+1,ao4,cap4,t4,by omega,by go_num,rfl,L4,E4,O4,G4,M4⟩
   case measure=>simp[intOf];omega
  ·have E5:Hid (t1=t++([lt,32]++Aw xs)):=by show _=_;rw[ET.out,List.take_of_length_le (by omega)]
   have HAE:=AA (KC ao1 cap1 t1 wr O.out (by omega))
   go_wp2_with fail
   refine(AE HAE).mono ?_
   rintro e w4 ⟨ao4,cap4,rfl,ho4,hg4,hm4⟩
   have O4:=AA ho4
   have G4:=AA (CZ G.out M.out hg4)
   have M4:Hid (DM (Value.slice ao t.length cap) (.slice ao4 (t1++[48,10]).length cap4) w):=M.out.trans hm4 G.out.size
   have E6:Hid (t1++[48,10]=t++BZ lt xs):=by show _=_;rw[E5.out,BZ];simp
   clear ho4 hg4 hm4 HAE
   generalize t1++[48,10]=t4 at *
   go_wp2
   go_ret
   rw[← E6.out]
   exact⟨ao4,cap4,rfl,O4.out,G4.out,M4.out⟩
def BI(r h l:Int)(v3:Value)(em se:Nat)(v6 v7:Value)(lo un:Nat):List Value :=
 [.int .i64 r,.int .i64 h,.int .i64 l,v3,.int .i64 em,.int .i64 se,v6,v7,.int .i64 lo,.int .i64 un]
set_option maxHeartbeats 4000000 in
theorem On(g:Nat)(a:Option Addr)(c:Nat)(xs:List Int)(r h l:Int)(ta:Option Addr)(ss:List Pr)(tc em se:Nat)(v6 v7:Value)(lo un:Nat)(w:World)(hx:xs.length≤9223372036854775807)(hi:Ad w a xs)(hall:xs.all AK=true)(ht:(Aa xs&&&AZ xs != 0)=false)
  (hr:Ab w g 67 (BI r h l (.slice ta ss.length tc) em se v6 v7 lo un)) (hz:Am (Aa xs,AZ xs)=0) (hem:em≤9223372036854775806) :
  Calls Tryd.prog 25 #[.pointer (some ⟨g,0,none⟩),.slice a xs.length c] w fun e w'=>e=.returned (.int .i64 0)∧Ab w' g 67 (BI r h l (.slice ta ss.length tc) (em+1) se v6 v7 lo un)∧DW w w' g (.slice none 0 0):=by
 have HO:=AA (Ea a c xs w hx hi)
 have e1:CO xs=Aa xs:=by simp[CO,hall]
 have e2:CN xs=AZ xs:=by simp[CN,hall]
 have HT:Hid (∀ w,Calls Tryd.prog 46 #[.agg #[.int .i64 (Aa xs:Nat),.int .i64 (AZ xs:Nat)]] w fun e w'=>e=.returned (.bool false)∧Below w.heap.size w w'):=fun w=>by
  have:=Cw (Aa xs) (AZ xs) (CF xs hall) (CA xs hall) w
  rwa [ht] at this
 have HZ:Hid (∀ w,Calls Tryd.prog 47 #[.agg #[.int .i64 (Aa xs:Nat),.int .i64 (AZ xs:Nat)]] w fun e w'=>e=.returned (.int .i64 (Am (Aa xs,AZ xs):Nat))∧Below w.heap.size w w'):=fun w=>Df (Aa xs) (AZ xs) (CF xs hall) (CA xs hall) w
 rw[hall,e1,e2] at HO
 have h1:=Dh (Aa xs,AZ xs)
 generalize Am (Aa xs,AZ xs)=z at *
 subst hz
 generalize Aa xs=t at *
 generalize AZ xs=f at *
 have HR:=AA hr
 clear hi hall e1 e2 ht hr
 go_enter Tryd.func25,Tryd.ntmps25
 go_wp2_with fail
 refine(AE HO).mono ?_
 rintro e w2 ⟨rfl,hb2⟩
 have hs2:w.heap.size≤w2.heap.size:=hb2.size
 have HB:Hid (∀ x,Below w.heap.size w (w2.alloc x)):=fun x=>hb2.alloc hb2.size x
 clear hb2
 go_wp2_with fail
 refine(AE HT _).mono ?_
 have m0:=AX w2 [.int .i64 (t:Nat),.int .i64 (f:Nat)] 86 0 _ rfl
 have m1:=AX w2 [.int .i64 (t:Nat),.int .i64 (f:Nat)] 86 1 _ rfl
 rw[FR] at m0 m1
 simp only[Nat.zero_add] at m0 m1
 have e3:w2.heap.size<(w2.alloc (.cells #[.int .i64 (t:Nat),.int .i64 (f:Nat)] 86)).heap.size:=by simp
 have hbb:=HB.out (.cells #[.int .i64 (t:Nat),.int .i64 (f:Nat)] 86)
 generalize w2.alloc (.cells #[.int .i64 (t:Nat),.int .i64 (f:Nat)] 86)=wb at *
 rintro e w3 ⟨rfl,hb3⟩
 have F:Hid (∀ w',Below w3.heap.size w3 w'→w'.cell? ⟨w2.heap.size,0,none⟩=some (.int .i64 (t:Nat))∧w'.cell? ⟨w2.heap.size,1,none⟩=some (.int .i64 (f:Nat))∧w'.cell? ⟨g,3,none⟩=some (.slice ta ss.length tc)∧Below w.heap.size w w'):=by
  intro w' hb
  have hw3:Below w.heap.size w w3:=hbb.trans (hb3.mono (by omega))
  have hw':Below w.heap.size w w':=hw3.trans (hb.mono hw3.size)
  have hx3:w2.heap.size<w3.heap.size:=Nat.lt_of_lt_of_le e3 hb3.size
  exact⟨(hb.cell (p:=⟨w2.heap.size,0,none⟩) hx3).trans ((hb3.cell (p:=⟨w2.heap.size,0,none⟩) e3).trans m0),(hb.cell (p:=⟨w2.heap.size,1,none⟩) hx3).trans ((hb3.cell (p:=⟨w2.heap.size,1,none⟩) e3).trans m1),((AB HR.out hw').cell 3).trans rfl,hw'⟩
 have hx3:w2.heap.size<w3.heap.size:=Nat.lt_of_lt_of_le e3 hb3.size
 clear hb3 hbb m0 m1 e3 HB HT HO
 obtain⟨f0,f1,f2,_⟩:=F.out w3 (Below.refl _ _)
 go_wp2_with fail
 refine(AE HZ _).mono ?_
 rintro e w4 ⟨rfl,hb4⟩
 have hbw:Below w.heap.size w w4:=(F.out w4 hb4).2.2.2
 have R2:=AA (AB HR.out hbw)
 have c4:w4.cell? ⟨g,4,none⟩=some (.int .i64 em):=(R2.out.cell 4).trans rfl
 have z4:=R2.out.frozen 4
 have HBW:=AA hbw
 have HE:Hid (((em+1:Nat):Int)=(em:Int)+1):=by show _=_;omega
 clear hb4 hbw F
 go_wp2
 go_ret
 refine⟨rfl,?_,(DW.of g _ HBW.out).set 4 _⟩
 have:=R2.out.set 4 (.int .i64 ((em:Int)+1))
 rw[← HE.out] at this
 exact this
set_option maxHeartbeats 4000000 in
theorem Q8(g:Nat)(a:Option Addr)(c:Nat)(xs:List Int)(r h l:Int)(ta:Option Addr)(ss:List Pr)(tc em se:Nat)(v6 v7:Value)(lo un:Nat)(w:World)(hx:xs.length≤9223372036854775807)(hi:Ad w a xs)(hall:xs.all AK=true)(ht:(Aa xs&&&AZ xs != 0)=false)
  (hr:Ab w g 67 (BI r h l (.slice ta ss.length tc) em se v6 v7 lo un)) (hsa:Cr w ta ss) (hsl:ss.length≤1000000) (hsb:Hid (∀ p∈ss,p.1<2^11∧p.2<2^11)) (hz0:Am (Aa xs,AZ xs)≠0) (hfull:150<Am (Aa xs,AZ xs)+Af ss) :
  Calls Tryd.prog 25 #[.pointer (some ⟨g,0,none⟩),.slice a xs.length c] w fun e w'=>e=.returned (.int .i64 5)∧Below w.heap.size w w':=by
 have HO:=AA (Ea a c xs w hx hi)
 have e1:CO xs=Aa xs:=by simp[CO,hall]
 have e2:CN xs=AZ xs:=by simp[CN,hall]
 have HT:Hid (∀ w,Calls Tryd.prog 46 #[.agg #[.int .i64 (Aa xs:Nat),.int .i64 (AZ xs:Nat)]] w fun e w'=>e=.returned (.bool false)∧Below w.heap.size w w'):=fun w=>by
  have:=Cw (Aa xs) (AZ xs) (CF xs hall) (CA xs hall) w
  rwa [ht] at this
 have HZ:Hid (∀ w,Calls Tryd.prog 47 #[.agg #[.int .i64 (Aa xs:Nat),.int .i64 (AZ xs:Nat)]] w fun e w'=>e=.returned (.int .i64 (Am (Aa xs,AZ xs):Nat))∧Below w.heap.size w w'):=fun w=>Df (Aa xs) (AZ xs) (CF xs hall) (CA xs hall) w
 have HTT:Hid (∀ w',Below w.heap.size w w'→Calls Tryd.prog 37 #[.slice ta ss.length tc] w' fun e w''=>e=.returned (.int .i64 (Af ss:Nat))∧Below w'.heap.size w' w''):=fun w' hb=>EE ta tc ss w' (hsa.below hb) hsl hsb
 have h2:=Eu ss
 rw[hall,e1,e2] at HO
 have h1:=Dh (Aa xs,AZ xs)
 generalize Am (Aa xs,AZ xs)=z at *
 generalize Af ss=tot at *
 generalize Aa xs=t at *
 generalize AZ xs=f at *
 have HR:=AA hr
 have hfi:((z:Int)+tot > 150):=by omega
 clear hi hall e1 e2 ht hr hsa
 go_enter Tryd.func25,Tryd.ntmps25
 go_wp2_with fail
 refine(AE HO).mono ?_
 rintro e w2 ⟨rfl,hb2⟩
 have hs2:w.heap.size≤w2.heap.size:=hb2.size
 have HB:Hid (∀ x,Below w.heap.size w (w2.alloc x)):=fun x=>hb2.alloc hb2.size x
 clear hb2
 go_wp2_with fail
 refine(AE HT _).mono ?_
 have m0:=AX w2 [.int .i64 (t:Nat),.int .i64 (f:Nat)] 86 0 _ rfl
 have m1:=AX w2 [.int .i64 (t:Nat),.int .i64 (f:Nat)] 86 1 _ rfl
 rw[FR] at m0 m1
 simp only[Nat.zero_add] at m0 m1
 have e3:w2.heap.size<(w2.alloc (.cells #[.int .i64 (t:Nat),.int .i64 (f:Nat)] 86)).heap.size:=by simp
 have hbb:=HB.out (.cells #[.int .i64 (t:Nat),.int .i64 (f:Nat)] 86)
 generalize w2.alloc (.cells #[.int .i64 (t:Nat),.int .i64 (f:Nat)] 86)=wb at *
 rintro e w3 ⟨rfl,hb3⟩
 have F:Hid (∀ w',Below w3.heap.size w3 w'→w'.cell? ⟨w2.heap.size,0,none⟩=some (.int .i64 (t:Nat))∧w'.cell? ⟨w2.heap.size,1,none⟩=some (.int .i64 (f:Nat))∧w'.cell? ⟨g,3,none⟩=some (.slice ta ss.length tc)∧Below w.heap.size w w'):=by
  intro w' hb
  have hw3:Below w.heap.size w w3:=hbb.trans (hb3.mono (by omega))
  have hw':Below w.heap.size w w':=hw3.trans (hb.mono hw3.size)
  have hx3:w2.heap.size<w3.heap.size:=Nat.lt_of_lt_of_le e3 hb3.size
  exact⟨(hb.cell (p:=⟨w2.heap.size,0,none⟩) hx3).trans ((hb3.cell (p:=⟨w2.heap.size,0,none⟩) e3).trans m0),(hb.cell (p:=⟨w2.heap.size,1,none⟩) hx3).trans ((hb3.cell (p:=⟨w2.heap.size,1,none⟩) e3).trans m1),((AB HR.out hw').cell 3).trans rfl,hw'⟩
 have hx3:w2.heap.size<w3.heap.size:=Nat.lt_of_lt_of_le e3 hb3.size
 clear hb3 hbb m0 m1 e3 HB HT HO
 obtain⟨f0,f1,f2,_⟩:=F.out w3 (Below.refl _ _)
 go_wp2_with fail
 refine(AE HZ _).mono ?_
 rintro e w4 ⟨rfl,hb4⟩
 clear f0 f1 f2
 obtain⟨f0,f1,f2,_⟩:=F.out w4 hb4
 have Bc:Hid (Below w3.heap.size w3 w4.drew):=below_drewN hb4 1
 clear hb4
 have hwrap:IntKind.i64.wrap ((z:Int)+tot)=(z:Int)+tot:=by rw[IntKind.wrap_i64];omega
 have hzi:(((z:Nat):Int) == 0)=false:=by simp;omega
 go_wp2_with fail
 go_region_with (first
  | (go_at_call 47;refine(AE HZ _).mono ?_;rintro e wa ⟨rfl,hba⟩;have Bc:Hid (Below w3.heap.size w3 wa):=Bc.out.trans (hba.mono Bc.out.size);clear hba;obtain⟨f0,f1,f2,_⟩:=F.out wa Bc.out)
  | (go_at_call 37;refine(AE HTT _ (F.out _ Bc.out).2.2.2).mono ?_;rintro e wa ⟨rfl,hba⟩;have Bc:Hid (Below w3.heap.size w3 wa):=Bc.out.trans (hba.mono Bc.out.size);clear hba;obtain⟨f0,f1,f2,_⟩:=F.out wa Bc.out))
 all_goals
  go_wp2
  go_ret
  exact⟨rfl,(F.out _ Bc.out).2.2.2⟩
set_option maxHeartbeats 4000000 in
theorem Jm(a:Option Addr)(c:Nat)(xs:List Int)(b:Int)(w:World)(hr:Ad w a xs)(hx:xs.length≤1000000) :
  Calls Tryd.prog 27 #[.slice a xs.length c,.int .i64 b] w fun e w'=>e=.returned (.int .i64 (BJ xs b))∧Below w.heap.size w w':=by
 have HO:=AA (Ea a c xs w (by omega) hr)
 have HB:Hid (∀ w' x,Below w.heap.size w w'→Below w.heap.size w (w'.alloc x)):=fun w' x hb=>hb.alloc hb.size x
 clear hr
 by_cases h20:20<xs.length
 ·have e0:BJ xs b=2:=by unfold BJ;rw[if_pos h20]
  rw[e0]
  have hi:((xs.length:Int) > 20):=by omega
  clear HO h20 e0
  go_enter Tryd.func27,Tryd.ntmps27
  go_wp2
  go_ret
  exact⟨rfl,Below.refl _ _⟩
 ·have hi:¬ ((xs.length:Int) > 20):=by omega
  cases hall:xs.all AK with
  | false =>
   have e0:BJ xs b=4:=by unfold BJ;rw[if_neg h20,if_pos hall]
   rw[e0]
   rw[hall] at HO
   clear h20 e0 hall
   go_enter Tryd.func27,Tryd.ntmps27
   go_wp2_with fail
   refine(AE HO).mono ?_
   rintro e w1 ⟨rfl,hb1⟩
   have B1:=AA hb1
   clear hb1
   go_wp2
   go_ret
   exact⟨rfl,HB.out _ _ B1.out⟩
  | true =>
   rw[hall] at HO
   by_cases hb:b<0
   ·have e0:BJ xs b=6:=by unfold BJ;rw[if_neg h20,if_neg (by rw[hall];simp),if_pos hb]
    rw[e0]
    clear h20 e0 hall
    go_enter Tryd.func27,Tryd.ntmps27
    go_wp2_with fail
    refine(AE HO).mono ?_
    rintro e w1 ⟨rfl,hb1⟩
    have B1:=AA hb1
    clear hb1
    go_wp2
    go_ret
    exact⟨rfl,HB.out _ _ B1.out⟩
   ·have e0:BJ xs b=0:=by unfold BJ;rw[if_neg h20,if_neg (by rw[hall];simp),if_neg hb]
    rw[e0]
    clear h20 e0 hall
    go_enter Tryd.func27,Tryd.ntmps27
    go_wp2_with fail
    refine(AE HO).mono ?_
    rintro e w1 ⟨rfl,hb1⟩
    have B1:=AA hb1
    clear hb1
    go_wp2
    go_ret
    exact⟨rfl,HB.out _ _ B1.out⟩
set_option maxHeartbeats 4000000 in
theorem WM(g:Nat)(r h l:Int)(v3 v6 v7:Value)(em se lo un:Nat)(a:Option Addr)(c:Nat)(xs:List Int)(w:World)(hr:Ab w g 67 (BI r h l v3 em se v6 v7 lo un))(hi:Ad w a xs)(hx:xs.length≤1000000)(hse:se<2^11) :
  Calls Tryd.prog 28 #[.pointer (some ⟨g,0,none⟩),.slice a xs.length c] w fun e w'=>e=.returned (.tuple #[])∧Ab w' g 67 (BI r h l v3 em (se|||vN (AO xs)) v6 v7 lo un)∧w.grownBy w' (some g):=by
 have HO:=AA (Ea a c xs w (by omega) hi)
 have h2:=(Bf.ok xs).eq
 rw[h2.1,h2.2] at HO
 have HV:Hid (∀ w,Calls Tryd.prog 48 #[.agg #[.int .i64 (tN (AO xs):Nat),.int .i64 (fN (AO xs):Nat)]] w fun e w'=>e=.returned (.int .i64 (vN (AO xs):Nat))∧Below w.heap.size w w'):=fun w=>Fw _ _ (Ed _) (Ec _) w
 have hvl:=LB (AO xs)
 have ho:=Kn se (vN (AO xs)) (by omega) (by omega)
 have HR:=AA hr
 generalize vN (AO xs)=vx at *
 generalize tN (AO xs)=tx at *
 generalize fN (AO xs)=fx at *
 generalize xs.all AK=bb at *
 clear hr hi h2
 go_enter Tryd.func28,Tryd.ntmps28
 go_wp2_with fail
 refine(AE HO).mono ?_
 rintro e w1 ⟨rfl,hb1⟩
 have B1:=AA hb1
 have hbA:=AF w1 (.cells #[.int .i64 (tx:Nat),.int .i64 (fx:Nat)] 86)
 have r1:Ab (w1.alloc (.cells #[.int .i64 (tx:Nat),.int .i64 (fx:Nat)] 86)) w1.heap.size 86 [.int .i64 (tx:Nat),.int .i64 (fx:Nat)]:=heap_alloc_new w1 _
 have R1:=AA r1
 have S1:=AA (AB (AB HR.out hb1) hbA)
 have B2:Hid (Below w.heap.size w (w1.alloc (.cells #[.int .i64 (tx:Nat),.int .i64 (fx:Nat)] 86))):=hb1.trans (hbA.mono hb1.size)
 have c5:(w1.alloc (.cells #[.int .i64 (tx:Nat),.int .i64 (fx:Nat)] 86)).cell? ⟨g,5,none⟩=some (.int .i64 se):=(S1.out.cell 5).trans rfl
 have x0:(w1.alloc (.cells #[.int .i64 (tx:Nat),.int .i64 (fx:Nat)] 86)).cell? ⟨w1.heap.size,0,none⟩=some (.int .i64 (tx:Nat)):=(r1.cell 0).trans rfl
 have x1:(w1.alloc (.cells #[.int .i64 (tx:Nat),.int .i64 (fx:Nat)] 86)).cell? ⟨w1.heap.size,1,none⟩=some (.int .i64 (fx:Nat)):=(r1.cell 1).trans rfl
 clear hb1 hbA r1 HO HR B1
 go_wp2_with fail
 generalize w1.alloc (.cells #[.int .i64 (tx:Nat),.int .i64 (fx:Nat)] 86)=w2 at *
 go_region_with (go_at_call 48;refine(AE HV _).mono ?_;rintro e w3 ⟨rfl,hb3⟩;have B3:Hid (Below w2.heap.size w2 w3):=(below_drewN (Below.refl _ _) 1).trans hb3;have S3:=AA (AB S1.out B3.out);have c5':w3.cell? ⟨g,5,none⟩=some (.int .i64 se):=(S3.out.cell 5).trans rfl;have z5:=S3.out.frozen 5;clear hb3)
 all_goals
  go_wp2
  go_end0
  exact⟨rfl,S3.out.set 5 _,He (Dr _ (B2.out.trans (B3.out.mono B2.out.size)))⟩
theorem Um:∃ fs,Tryd.prog.underlying 69=some (.struct fs):=by
 have h:(Tryd.prog.underlying 69).map CL=some true:=by kernel_rfl
 cases hu:Tryd.prog.underlying 69 with
 | none=>rw[hu] at h;simp at h
 | some d =>
  rw[hu] at h
  cases d with
  | struct fs=>exact⟨fs,rfl⟩
  | _=>simp[CL] at h
theorem Ul:(Tryd.prog.info? 69).map (·.size)=some 4:=by kernel_rfl
theorem Uo{w':World}{tmps:Array Value}{g:Nat}{p q x y:Value}(hr:Ab w' g 69 [p,q,x,y])(h2:tmps.getD 4 undef=.pointer (some ⟨g,0,none⟩)) :
  (results Tryd.f31 tmps).run Tryd.prog w'=.ok (.agg #[p,q,x,y]) w':=by
 obtain⟨fs,hu⟩:=Um
 exact results_cell_row rfl tmps w' g 69 #[p,q,x,y] (0,0) (.struct fs) h2 hr hu rfl Ul
set_option maxHeartbeats 8000000 in
theorem Un(g:Nat)(r h l:Int)(v3 v7:Value)(em se lo un:Nat)(la:Option Addr)(lc:Nat)(ls:List Pr)(b:Int)(w:World)(hr:Ab w g 67 (BI r h l v3 em se (.slice la ls.length lc) v7 lo un))(hla:Cr w la ls)(hll:ls.length≤1000000)(hlb:Hid (∀ p∈ls,p.1<2^11∧p.2<2^11))(hh:0≤h∧h≤1048576)(hl:0≤l∧l≤1048576)(hlo:lo≤1048576) :
  Calls Tryd.prog 31 #[.pointer (some ⟨g,0,none⟩),.int .i64 b] w fun e w'=>e=.returned (.agg #[.int .i64 b,.int .i64 r,.int .i64 (h - (Af ls:Int)),.int .i64 (l - (lo:Int))])∧Below w.heap.size w w':=by
 have HTT:Hid (∀ w',Below w.heap.size w w'→Calls Tryd.prog 37 #[.slice la ls.length lc] w' fun e w''=>e=.returned (.int .i64 (Af ls:Nat))∧Below w'.heap.size w' w''):=fun w' hb=>EE la lc ls w' (hla.below hb) hll hlb
 have htl:=Eu ls
 generalize Af ls=tot at *
 have HR:=AA hr
 have hgl:g<w.heap.size:=hr.lt
 have rA:Ab (w.alloc (.cells #[.int .i64 0,.int .i64 0,.int .i64 0,.int .i64 0] 69)) w.heap.size 69 [.int .i64 0,.int .i64 0,.int .i64 0,.int .i64 0]:=heap_alloc_new w _
 have hbA:=AF w (.cells #[.int .i64 0,.int .i64 0,.int .i64 0,.int .i64 0] 69)
 have w1':IntKind.i64.wrap (h - (tot:Int))=h - (tot:Int):=by rw[IntKind.wrap_i64];omega
 have w2':IntKind.i64.wrap (l - (lo:Int))=l - (lo:Int):=by rw[IntKind.wrap_i64];omega
 clear hr hla
 go_enter Tryd.func31,Tryd.ntmps31
 go_wp2_with fail
 generalize w.alloc (.cells #[.int .i64 0,.int .i64 0,.int .i64 0,.int .i64 0] 69)=wA at *
 have F:Hid (∀ w',Below wA.heap.size wA w'→(w'.cell? ⟨g,0,none⟩=some (.int .i64 r)∧w'.cell? ⟨g,1,none⟩=some (.int .i64 h)∧w'.cell? ⟨g,2,none⟩=some (.int .i64 l)∧w'.cell? ⟨g,6,none⟩=some (.slice la ls.length lc)∧w'.cell? ⟨g,8,none⟩=some (.int .i64 lo))∧Below w.heap.size w w'∧Ab w' w.heap.size 69 [.int .i64 0,.int .i64 0,.int .i64 0,.int .i64 0]):=by
  intro w' hb
  have hw':Below w.heap.size w w':=hbA.trans (hb.mono hbA.size)
  have R:=AB HR.out hw'
  exact⟨⟨(R.cell 0).trans rfl,(R.cell 1).trans rfl,(R.cell 2).trans rfl,(R.cell 6).trans rfl,(R.cell 8).trans rfl⟩,hw',AB rA hb⟩
 have Bc:Hid (Below wA.heap.size wA wA.drew):=below_drewN (Below.refl _ _) 1
 obtain⟨⟨c0,c1,c2,c6,c8⟩,_,_⟩:=F.out wA (Below.refl _ _)
 have hne:w.heap.size≠g:=by omega
 clear rA hbA HR
 go_region_held3 (fun w'=>w'.cell? ⟨g,0,none⟩=some (.int .i64 r)∧w'.cell? ⟨g,1,none⟩=some (.int .i64 h)∧w'.cell? ⟨g,2,none⟩=some (.int .i64 l)∧w'.cell? ⟨g,6,none⟩=some (.slice la ls.length lc)∧w'.cell? ⟨g,8,none⟩=some (.int .i64 lo)) (go_keep)
  (first | (go_at_call 37;refine(AE HTT _ (F.out _ Bc.out).2.1).mono ?_;rintro e wa ⟨rfl,hba⟩;have Bc:Hid (Below wA.heap.size wA wa):=Bc.out.trans (hba.mono Bc.out.size);clear hba;obtain⟨⟨c0,c1,c2,c6,c8⟩,_,RZ⟩:=F.out wa Bc.out;have z0:wa.cell? ⟨w.heap.size,0,none⟩=some (.int .i64 0):=(RZ.cell 0).trans rfl;have z1:wa.cell? ⟨w.heap.size,1,none⟩=some (.int .i64 0):=(RZ.cell 1).trans rfl;have z2:wa.cell? ⟨w.heap.size,2,none⟩=some (.int .i64 0):=(RZ.cell 2).trans rfl;have z3:wa.cell? ⟨w.heap.size,3,none⟩=some (.int .i64 0):=(RZ.cell 3).trans rfl;have y0:=RZ.frozen 0;have y1:=RZ.frozen 1;have y2:=RZ.frozen 2;have y3:=RZ.frozen 3;have RZ:=AA RZ))
 have R9:=AA ((((RZ.out.set 0 (.int .i64 b)).set 1 (.int .i64 r)).set 2 (.int .i64 (h - (tot:Int)))).set 3 (.int .i64 (l - (lo:Int))))
 have HB:Hid (Below w.heap.size w wa):=(F.out _ Bc.out).2.1
 clear F HTT
 go_wp2
 refine bodyPost_ret (v:=.agg #[.int .i64 b,.int .i64 r,.int .i64 (h - (tot:Int)),.int .i64 (l - (lo:Int))]) (Uo R9.out rfl) rfl ⟨rfl,?_⟩
 exact(((HB.out.setCell (p:=⟨w.heap.size,0,none⟩) (Nat.le_refl _) _).setCell (p:=⟨w.heap.size,1,none⟩) (Nat.le_refl _) _).setCell (p:=⟨w.heap.size,2,none⟩) (Nat.le_refl _) _).setCell (p:=⟨w.heap.size,3,none⟩) (Nat.le_refl _) _
end Go.Proofs.YthboeppmlhbofaaDoor
