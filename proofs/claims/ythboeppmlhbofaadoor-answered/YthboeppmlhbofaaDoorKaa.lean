import Derived.Test.YthboeppmlhbofaaDoorHag
import Derived.Test.YthboeppmlhbofaaDoorChl
import Derived.Test.YthboeppmlhbofaaDoorDcd
namespace Go.Proofs.YthboeppmlhbofaaDoor
open Go.RowKit Txt
set_option maxRecDepth 100000
def Hu(cls:List (List Int)):List (List Int):=(cls.take 40).map (fun c=>c.take 12)
def Ck(P:D0)(p:P.S × List (List Int))(c:List Int):P.S × List (List Int):=(P.add p.1 c,if Hx (An c (AT (P.vw p.1).hv))=0 then p.2++[c] else p.2)
def Fk(P:D0)(s:P.S)(cs:List (List Int)):P.S × List (List Int):=cs.foldl (Ck P) (s,[])
def Gr(tk:List (List Int)):List Nat:=(tk.filter (fun c=>!A4 (Ak c))).map Ak
def OU(cs:List Nat):Nat:=cs.foldl (fun a c=>a|||Ag c) 0
theorem Pg(cs:List Nat)(c:Nat):OU (cs++[c])=OU cs|||Ag c:=by simp[OU]
structure IU(P:D0)(r h l:Int)(s:P.S)(tk:List (List Int)):Prop where
 ok:P.Ok s
 v:P.vw s=⟨r,h,l,Gr tk,OU (Gr tk),[],0,0,[]⟩
 lit:∀ c∈tk,c.all AK=true
theorem IU.step{P:D0}{r h l:Int}{s:P.S}{tk:List (List Int)}(t:IU P r h l s tk)(c:List Int):IU P r h l (Ck P (s,tk) c).1 (Ck P (s,tk) c).2:=by
 obtain⟨h1,h2⟩:=P.addV s c t.ok
 have e1:(Ck P (s,tk) c).1=P.add s c:=rfl
 have e2:(Ck P (s,tk) c).2=if Hx (An c (AT (P.vw s).hv))=0 then tk++[c] else tk:=rfl
 rw[e1,e2]
 unfold Vw.add at h2
 cases hk:An c (AT (P.vw s).hv) with
 | lit =>
  rw[hk] at h2
  simp only[Tk.takes?,Bool.false_eq_true,if_false] at h2
  rw[if_neg (by decide)]
  exact⟨h1,h2.trans t.v,t.lit⟩
 | full =>
  rw[hk] at h2
  simp only[Tk.takes?,Bool.false_eq_true,if_false] at h2
  rw[if_neg (by decide)]
  exact⟨h1,h2.trans t.v,t.lit⟩
 | taut =>
  rw[hk] at h2
  simp only[Tk.takes?,Bool.false_eq_true,if_false] at h2
  rw[if_pos (show Hx Tk.taut=0 from rfl)]
  have hq:=hk
  unfold An at hq
  have ha:c.all AK=true:=by
   split at hq
   ·assumption
   ·simp at hq
  have ht:A4 (Ak c)=true:=by
   rw[if_pos ha] at hq
   split at hq
   ·assumption
   ·split at hq <;> simp at hq
  have hh:Gr (tk++[c])=Gr tk:=by simp[Gr,List.filter_append,ht]
  refine⟨h1,by rw[hh];exact h2.trans t.v,fun x hx=>?_⟩
  rcases List.mem_append.1 hx with hx | hx
  ·exact t.lit x hx
  ·simp at hx;subst hx;exact ha
 | takes =>
  rw[hk] at h2
  simp only[Tk.takes?,if_true] at h2
  rw[if_pos (show Hx Tk.takes=0 from rfl)]
  have hq:=hk
  unfold An at hq
  have ha:c.all AK=true:=by
   split at hq
   ·assumption
   ·simp at hq
  have ht:A4 (Ak c)=false:=by
   rw[if_pos ha] at hq
   cases hb:A4 (Ak c) with
   | false=>rfl
   | true=>rw[hb] at hq;simp at hq
  have hh:Gr (tk++[c])=Gr tk++[Ak c]:=by simp[Gr,List.filter_append,ht]
  refine⟨h1,?_,fun x hx=>?_⟩
  ·rw[h2,t.v,hh,Pg]
  ·rcases List.mem_append.1 hx with hx | hx
   ·exact t.lit x hx
   ·simp at hx;subst hx;exact ha
theorem RV(P:D0)(s:P.S)(cs:List (List Int))(c:List Int):Fk P s (cs++[c])=Ck P (Fk P s cs) c:=by simp[Fk]
theorem QT{P:D0}{r h l:Int}{s:P.S}(t:IU P r h l s []):∀ cs:List (List Int),IU P r h l (Fk P s cs).1 (Fk P s cs).2:=by
 have key:∀ (cs:List (List Int)) (p:P.S × List (List Int)),IU P r h l p.1 p.2→IU P r h l (cs.foldl (Ck P) p).1 (cs.foldl (Ck P) p).2:=by
  intro cs
  induction cs with
  | nil=>intro p h;exact h
  | cons c cs ih=>intro p h;exact ih _ (h.step c)
 exact fun cs=>key cs (s,[]) t
theorem NJ(P:D0)(s:P.S):∀ cs:List (List Int),(Fk P s cs).2.length≤cs.length∧∀ c∈(Fk P s cs).2,c∈cs:=by
 have key:∀ (cs:List (List Int)) (p:P.S × List (List Int)),(cs.foldl (Ck P) p).2.length≤p.2.length+cs.length∧∀ c∈(cs.foldl (Ck P) p).2,c∈p.2∨c∈cs:=by
  intro cs
  induction cs with
  | nil=>intro p;exact⟨by simp,fun c hc=>.inl hc⟩
  | cons c cs ih =>
   intro p
   obtain⟨a,b⟩:=ih (Ck P p c)
   simp only[List.foldl_cons,List.length_cons]
   have e2:(Ck P p c).2=if Hx (An c (AT (P.vw p.1).hv))=0 then p.2++[c] else p.2:=rfl
   rw[e2] at a b
   split at a
   ·rename_i h0
    rw[if_pos h0] at b
    simp only[List.length_append,List.length_cons,List.length_nil] at a
    refine⟨by omega,fun x hx=>?_⟩
    rcases b x hx with q | q
    ·rcases List.mem_append.1 q with q | q
     ·exact .inl q
     ·exact .inr (by rw[List.mem_singleton.1 q];exact List.mem_cons_self ..)
    ·exact .inr (List.mem_cons_of_mem _ q)
   ·rename_i h0
    rw[if_neg h0] at b
    refine⟨by omega,fun x hx=>(b x hx).imp id (List.mem_cons_of_mem _)⟩
 intro cs
 obtain⟨a,b⟩:=key cs (s,[])
 exact⟨by simp only[List.length_nil,Nat.zero_add] at a;exact a,fun c hc=>(b c hc).elim (fun q=>by simp at q) id⟩
theorem Na(tk:List (List Int)):(Gr tk).length≤tk.length:=by unfold Gr;rw[List.length_map];exact List.length_filter_le _ _
theorem Wt(P:D0)(r h l:Int)(hs:BY r h l=true):IU P r h l (P.new r h l) []:=⟨(P.newV r h l hs).1,(P.newV r h l hs).2,fun c hc=>by simp at hc⟩
set_option maxHeartbeats 2000000 in
theorem Qb(a:Option Addr)(c:Nat)(xs:List Int)(n:Nat)(w:World)(hi:Ad w a xs)(hx:xs.length≤9223372036854775807)(hn:n≤1000) :
  Calls Tryd.prog 26 #[.slice a xs.length c,.int .i64 n] w fun e w'=>∃ a' c',e=.returned (.slice a' (xs.take n).length c')∧w'.ownsRow w.heap.size 3 1 (.slice a' (xs.take n).length c') (xs.take n).length (AW (xs.take n))∧Below w.heap.size w w':=by
 obtain⟨i0,hi0,hz0,hz1,hz2⟩:=info_parts Tryd.infoInt
 have HI:=AA hi
 clear hi
 go_enter Tryd.func26,Tryd.ntmps26
 go_wp2
 go_loopw [5,6] (fun x5 x6 wr=>∃ (k:Nat) (a1:Option Addr) (c1:Nat),k≤xs.length∧k≤n∧x6=.int .i64 k∧x5=.slice a1 (xs.take k).length c1∧Hid (wr.ownsRow w.heap.size 3 1 (.slice a1 (xs.take k).length c1) (xs.take k).length (AW (xs.take k)))∧Hid (Below w.heap.size w wr)) (fun _ x6 _=>n - (intOf x6).toNat)
 case atStart=>exact⟨0,none,0,Nat.zero_le _,Nat.zero_le _,rfl,by simp,⟨by simp[AW],.inl ⟨by simp,by simp⟩⟩,Below.refl _ _⟩
 case round =>
  obtain⟨k,a1,c1,hk,hkn,rfl,rfl,HO,HB⟩:=hrel
  have hz:w.heap.size≤wr.heap.size:=HB.out.size
  have hl:(xs.take k).length=k:=by simp;omega
  by_cases hlt:k<xs.length
  ·by_cases hln:k<n
   ·obtain⟨b,off,rfl,hc⟩:=(HI.out.below HB.out).get (by omega)
    have h1:=hc k hlt
    have HS:Hid (xs.take (k+1)=xs.take k++[xs.getD k 0]):=by
     show _=_
     rw[List.take_succ_eq_append_getElem hlt,List.getD_eq_getElem?_getD,List.getElem?_eq_getElem hlt]
     rfl
    have HL:Hid ((xs.take k).length=k):=hl
    generalize xs.getD k 0=y at h1 HS
    generalize hg:xs.take k=wo at HO HS hl HL
    have d1:Hid (wo.length+1≤maxLen):=by show _≤_;unfold maxLen;omega
    have d2:Hid ((wo.length+1)*8≤140737488355328):=by show _≤_;omega
    clear hc hg
    go_wp2_with (at_builtin;refine Ap _ rfl _ _ 26 rfl w.heap.size 3 i0 (.int .i64 0) 8 Tryd.undInts hi0 hz0 hz1 hz2 rfl (.slice a1 wo.length c1) wo.length (AW wo) rfl (HO.out.alloc _) ⟨wr.heap.size,0,none⟩ 1 1 [.int .i64 y] rfl rfl (AX wr [.int .i64 y] 3) (by intro u hu;simp at hu;subst hu;rfl) (by decide) d1.out d2.out (by simp;exact Nat.le_succ_of_le hz) ?_;intro v3 w3 hown3 hg3 hwh3)
    obtain⟨a3,c3,rfl⟩:=Ax hown3
    have HB3:Hid (Below w.heap.size w w3):=(HB.out.alloc hz _).grown hg3 (HB.out.alloc hz _).size (fun k hk=>(HO.out.lt k hk).1)
    have HO3:Hid (w3.ownsRow w.heap.size 3 1 (.slice a3 (wo.length+1) c3) (wo.length+1) (AW (wo++[y]))):=by
     have:AW (wo++[y])=AW wo++[.int .i64 y]:=by simp[AW]
     rw[this];exact hown3
    clear hown3 hg3 hwh3
    go_roundw
    case rel=>exact⟨k+1,a3,c3,by omega,by omega,by go_num,by rw[HS.out];simp,by rw[HS.out,List.length_append];exact HO3,HB3⟩
    case measure=>simp[intOf];omega
   ·obtain rfl:k=n:=by omega
    go_wp2
    go_ret
    exact⟨a1,c1,rfl,HO.out,HB.out⟩
  ·obtain rfl:k=xs.length:=by omega
   have HT:Hid (xs.take n=xs.take xs.length):=by show _=_;rw[List.take_of_length_le (Nat.le_refl _),List.take_of_length_le hkn]
   go_wp2
   go_ret
   rw[HT.out]
   exact⟨a1,c1,rfl,HO.out,HB.out⟩
theorem Du{w w':World}{B e s n:Nat}{v:Value}{xs:List Value}(h:w.ownsRow B e s v n xs)(hk:∀ b,v.ownBlock=some b→w'.heap[b]?=w.heap[b]?):w'.ownsRow B e s v n xs:=by
 refine⟨h.1,?_⟩
 rcases h.2 with hn | ⟨g,cap,cur,hv,h1,hg,r⟩
 ·exact .inl hn
 ·exact .inr ⟨g,cap,cur,hv,h1,(hk g (by subst hv;rfl)).trans hg,r⟩
structure Jt(P:D0)(w:World)(B g:Nat)(s:P.S)(F:Nat→Prop)(ta:Option Addr)(tc:Nat)(vs:List Value)(tk:List (List Int)):Prop where
 x:P.At w g s F
 fb:∀ b,F b→B≤b
 top:w.ownsRow B 26 1 (.slice ta tk.length tc) tk.length vs
 each:Aq w B 3 vs tk
 ap1:∀ b,F b→(Value.slice ta tk.length tc).ownBlock≠some b
 ap2:∀ b,F b→∀ u∈vs,u.ownBlock≠some b
theorem Jt.frame{P:D0}{w w':World}{B g:Nat}{s:P.S}{F:Nat→Prop}{ta:Option Addr}{tc:Nat}{vs:List Value}{tk:List (List Int)}(h:Jt P w B g s F ta tc vs tk)(hk:∀ b,(F b∨(Value.slice ta tk.length tc).ownBlock=some b∨∃ u∈vs,u.ownBlock=some b)→w'.heap[b]?=w.heap[b]?):Jt P w' B g s F ta tc vs tk :=
 ⟨P.frame h.x (fun b hb=>hk b (.inl hb)),h.fb,Du h.top (fun b e=>hk b (.inr (.inl e))),h.each.map (fun u hu _ _ ho=>Du ho (fun b e=>hk b (.inr (.inr ⟨u,hu,e⟩)))),h.ap1,h.ap2⟩
theorem Jt.lt{P:D0}{w:World}{B g:Nat}{s:P.S}{F:Nat→Prop}{ta:Option Addr}{tc:Nat}{vs:List Value}{tk:List (List Int)}(h:Jt P w B g s F ta tc vs tk){b:Nat}(hb:F b∨(Value.slice ta tk.length tc).ownBlock=some b∨∃ u∈vs,u.ownBlock=some b):B≤b∧b<w.heap.size:=by
 rcases hb with e | e | ⟨u,hu,e⟩
 ·exact⟨h.fb b e,P.lt h.x b e⟩
 ·exact h.top.lt b e
 ·obtain⟨xs,hx⟩:=h.each.mem hu
  exact hx.lt b e
theorem Jt.below{P:D0}{w w':World}{B g:Nat}{s:P.S}{F:Nat→Prop}{ta:Option Addr}{tc:Nat}{vs:List Value}{tk:List (List Int)}(h:Jt P w B g s F ta tc vs tk)(hb:Below w.heap.size w w'):Jt P w' B g s F ta tc vs tk:=h.frame (fun b hd=>hb.block b (h.lt hd).2)
theorem Jt.call{P:D0}{w w':World}{B g:Nat}{s s':P.S}{F:Nat→Prop}{ta:Option Addr}{tc:Nat}{vs:List Value}{tk:List (List Int)}{Q:(Nat→Prop)→Prop}(h:Jt P w B g s F ta tc vs tk)(hB:B≤w.heap.size)(hn:Wm P.At F w w' g s' Q):∃ F',Jt P w' B g s' F' ta tc vs tk∧EX F w w'∧(∀ b,F' b→F b∨w.heap.size≤b)∧Q F':=by
 obtain⟨F',x,c,n,q⟩:=hn
 refine⟨F',⟨x,fun b hb=>(n b hb).elim (h.fb b) (fun e=>by omega),Du h.top (fun b e=>c.block b (h.top.lt b e).2 (fun hf=>h.ap1 b hf e)),h.each.map (fun u hu _ _ ho=>Du ho (fun b e=>c.block b (ho.lt b e).2 (fun hf=>h.ap2 b hf u hu e))),fun b hb e=>?_,fun b hb u hu e=>?_⟩,c,n,q⟩
 ·rcases n b hb with hf | hf
  ·exact h.ap1 b hf e
  ·have:=(h.top.lt b e).2;omega
 ·rcases n b hb with hf | hf
  ·exact h.ap2 b hf u hu e
  ·obtain⟨xs,hx⟩:=h.each.mem hu
   have:=(hx.lt b e).2;omega
theorem YS:(3:Nat)≠26:=by decide
theorem Jt.push{P:D0}{w w':World}{B g k:Nat}{s:P.S}{F:Nat→Prop}{ta a3:Option Addr}{tc c3:Nat}{vs:List Value}{tk:List (List Int)}{au:Option Addr}{cu:Nat}{xs:List Int}{o:Obj}{p:Prop}(h:Jt P w B g s F ta tc vs tk)(hu:w.ownsRow B 3 1 (.slice au xs.length cu) xs.length (AW xs))(hf:∀ b,F b→(Value.slice au xs.length cu).ownBlock≠some b)
  (hg:(w.alloc o).grownBy w' (Value.slice ta tk.length tc).ownBlock) (hown:w'.ownsRow B 26 1 (.slice a3 (tk.length+1) c3) (tk.length+1) (vs++[.slice au xs.length cu])) (hl:Value.slice ta tk.length tc=.slice a3 tk.length c3∨a3=some ⟨k,0,none⟩∧p) (hk:w.heap.size≤k) :
  Jt P w' B g s F a3 c3 (vs++[.slice au xs.length cu]) (tk++[xs]):=by
 have hz:(w.alloc o).heap.size=w.heap.size+1:=by simp
 have kk:∀ b,b<w.heap.size→(Value.slice ta tk.length tc).ownBlock≠some b→w'.heap[b]?=w.heap[b]?:=fun b h1 h2=>(hg.block b (by omega) (fun e=>h2 e.symm)).trans (heap_alloc_old w o h1)
 have hlen:(tk++[xs]).length=tk.length+1:=by simp
 have hty:∀ {u:Value} {n:Nat} {zs:List Value},w.ownsRow B 3 1 u n zs→∀ b,u.ownBlock=some b→(Value.slice ta tk.length tc).ownBlock≠some b:=fun ho b e e'=>EP YS ho h.top b e e'
 refine⟨P.frame h.x (fun b hb=>kk b (P.lt h.x b hb) (h.ap1 b hb)),h.fb,by rw[hlen];exact hown,Aq.snoc (h.each.map (fun u hu _ _ ho=>Du ho (fun b e=>kk b (ho.lt b e).2 (hty ho b e)))) (Du hu (fun b e=>kk b (hu.lt b e).2 (hty hu b e))),fun b hb e=>?_,fun b hb u hm e=>?_⟩
 ·rw[hlen] at e
  rcases hl with hl | ⟨hl,_⟩
  ·have e2:(Value.slice ta tk.length tc).ownBlock=some b:=by rw[hl,← e];cases a3 <;> rfl
   exact h.ap1 b hb e2
  ·subst hl
   simp only[Value.ownBlock,Option.some.injEq] at e
   have:=P.lt h.x b hb
   omega
 ·rcases List.mem_append.1 hm with hm | hm
  ·exact h.ap2 b hb u hm e
  ·simp only[List.mem_singleton] at hm
   subst hm
   exact hf b hb e
def FN(P:D0)(s:P.S)(cls:List (List Int))(k:Nat):P.S × List (List Int):=Fk P s ((cls.take k).map (fun c=>c.take 12))
theorem RU(P:D0)(s:P.S)(cls:List (List Int))(k:Nat)(h:k<cls.length):FN P s cls (k+1)=Ck P (FN P s cls k) ((cls.getD k []).take 12):=by
 unfold FN
 rw[List.take_succ_eq_append_getElem h,List.map_append,List.getD_eq_getElem?_getD,List.getElem?_eq_getElem h]
 exact RV _ _ _ _
theorem TM(P:D0)(s:P.S)(cls:List (List Int))(k:Nat):(FN P s cls k).2.length≤k:=by
 have:=(NJ P s ((cls.take k).map (fun c=>c.take 12))).1
 simp only[List.length_map,List.length_take] at this
 unfold FN
 omega
def L9(P:D0)(w:World)(s:P.S)(tk:List (List Int))(e:Ending)(w':World):Prop :=
 ∃ g F ta tc vs,e=.returned (.agg #[.pointer (some ⟨g,0,none⟩),.slice ta tk.length tc,.bool true])∧Jt P w' w.heap.size g s F ta tc vs tk∧Below w.heap.size w w'
theorem Jt.low{P:D0}{w:World}{B B' g:Nat}{s:P.S}{F:Nat→Prop}{ta:Option Addr}{tc:Nat}{vs:List Value}{tk:List (List Int)}(h:Jt P w B g s F ta tc vs tk)(hb:B'≤B):Jt P w B' g s F ta tc vs tk:=by
 have key:∀ (vs:List Value) (cs:List (List Int)),Aq w B 3 vs cs→Aq w B' 3 vs cs:=by
  intro vs
  induction vs with
  | nil=>intro cs h;cases cs <;> exact h
  | cons u vs ih =>
   intro cs h
   cases cs with
   | nil=>exact h
   | cons c cs=>exact⟨BO h.1 hb,ih cs h.2⟩
 exact⟨h.x,fun b q=>Nat.le_trans hb (h.fb b q),BO h.top hb,key _ _ h.each,h.ap1,h.ap2⟩
theorem DB{F:Nat→Prop}{w0 w w':World}{B:Nat}(hb:Below B w0 w)(h:EX F w w')(hB:B≤w.heap.size)(hp:∀ b,F b→B≤b):Below B w0 w' :=
 hb.trans ⟨h.os,h.tape,h.output,h.size,fun k hk=>h.block k (by omega) (fun hq=>by have:=hp k hq;omega)⟩
theorem Ly:∃ fs,Tryd.prog.underlying 33=some (.struct fs):=by
 have h:(Tryd.prog.underlying 33).map CL=some true:=by kernel_rfl
 cases hu:Tryd.prog.underlying 33 with
 | none=>rw[hu] at h;simp at h
 | some d =>
  rw[hu] at h
  cases d with
  | struct fs=>exact⟨fs,rfl⟩
  | _=>simp[CL] at h
theorem Lx:(Tryd.prog.info? 33).map (·.size)=some 3:=by kernel_rfl
theorem Lc{w':World}{tmps:Array Value}{g:Nat}{p q x:Value}(hr:Ab w' g 33 [p,q,x])(h2:tmps.getD 4 undef=.pointer (some ⟨g,0,none⟩)) :
  (results Tryd.f23 tmps).run Tryd.prog w'=.ok (.agg #[p,q,x]) w':=by
 obtain⟨fs,hu⟩:=Ly
 exact results_cell_row rfl tmps w' g 33 #[p,q,x] (0,0) (.struct fs) h2 hr hu rfl Lx
theorem MI{P:D0}{w wr:World}{B T H g:Nat}{s:P.S}{F:Nat→Prop}{ta:Option Addr}{tc:Nat}{vs:List Value}{tk:List (List Int)}(X:Jt P wr B g s F ta tc vs tk)(hT:T<B)(hb:Below H w wr)(hH:H≤T)(v0 v1 v2:Value):Jt P (((wr.setCell ⟨T,0,none⟩ v0).setCell ⟨T,1,none⟩ v1).setCell ⟨T,2,none⟩ v2) B g s F ta tc vs tk∧Below H w (((wr.setCell ⟨T,0,none⟩ v0).setCell ⟨T,1,none⟩ v1).setCell ⟨T,2,none⟩ v2):=by
 refine⟨X.frame fun b hd=>?_,((hb.setCell (p:=⟨T,0,none⟩) hH _).setCell (p:=⟨T,1,none⟩) hH _).setCell (p:=⟨T,2,none⟩) hH _⟩
 have hne:b≠T:=by have:=(X.lt hd).1;omega
 exact((Below.heap_setCell _ ⟨T,2,none⟩ v2 b hne).trans (Below.heap_setCell _ ⟨T,1,none⟩ v1 b hne)).trans (Below.heap_setCell _ ⟨T,0,none⟩ v0 b hne)
set_option maxHeartbeats 4000000 in
theorem RW(P:D0)(r h l:Int)(hs:BY r h l=true)(a:Option Addr)(c:Nat)(A:Nat→Option Addr)(C:Nat→Nat)(cls:List (List Int))(w:World)(hr:Br w a A C cls)(hcl:cls.length≤9223372036854775807) :
  Calls Tryd.prog 23 #[.agg #[.int .i64 r,.int .i64 h,.int .i64 l],.slice a cls.length c] w (L9 P w (Fk P (P.new r h l) (Hu cls)).1 (Fk P (P.new r h l) (Hu cls)).2):=by
 obtain⟨i1,gi,gz0,gz1,gz2⟩:=info_parts Tryd.infoInts
 have HN:Hid (∀ w,Calls Tryd.prog 24 #[.agg #[.int .i64 r,.int .i64 h,.int .i64 l]] w fun e w'=>∃ g F,e=.returned (.tuple #[.pointer (some ⟨g,0,none⟩),.int .i64 0])∧P.At w' g (P.new r h l) F∧(∀ b,F b→w.heap.size≤b)∧Below w.heap.size w w'):=fun w=>by
  refine(P.newC r h l w).mono ?_
  rintro e w' ⟨h1,h2⟩
  rw[hs] at h2
  obtain⟨g,F,q1,q2,q3⟩:=h2
  exact⟨g,F,q1,q2,q3,h1⟩
 have HTK:Hid (∀ k,IU P r h l (FN P (P.new r h l) cls k).1 (FN P (P.new r h l) cls k).2):=fun k=>QT (Wt P r h l hs) _
 have HE:Hid (∀ k,k≤cls.length→(k=40∨k=cls.length∧k≤40)→Fk P (P.new r h l) (Hu cls)=FN P (P.new r h l) cls k):=fun k h1 h2=>by
  unfold Hu FN
  rcases h2 with rfl | ⟨rfl,h2⟩
  ·rfl
  ·rw[List.take_of_length_le (Nat.le_refl _),List.take_of_length_le h2]
 have HS0:Hid ((FN P (P.new r h l) cls 0)=(P.new r h l,[])):=by simp[Hid,FN,Fk]
 have BW:Hid (Below w.heap.size w ((w.alloc (.cells #[.int .i64 r,.int .i64 h,.int .i64 l] 52)).alloc (.cells #[.pointer none,.slice none 0 0,.bool false] 33))):=((Below.refl _ _).alloc (Nat.le_refl _) _).alloc (by simp) _
 have RT:Hid (Ab ((w.alloc (.cells #[.int .i64 r,.int .i64 h,.int .i64 l] 52)).alloc (.cells #[.pointer none,.slice none 0 0,.bool false] 33)) (w.heap.size+1) 33 [.pointer none,.slice none 0 0,.bool false]):=heap_alloc2_new w _ _
 have hz0:((w.alloc (.cells #[.int .i64 r,.int .i64 h,.int .i64 l] 52)).alloc (.cells #[.pointer none,.slice none 0 0,.bool false] 33)).heap.size=w.heap.size+2:=by simp
 have HR:=AA hr
 generalize P.new r h l=s0 at *
 clear hr
 go_enter Tryd.func23,Tryd.ntmps23
 go_wp2_with fail
 refine(AE HN _).mono ?_
 generalize (w.alloc (.cells #[.int .i64 r,.int .i64 h,.int .i64 l] 52)).alloc (.cells #[.pointer none,.slice none 0 0,.bool false] 33)=w0 at *
 rintro e w1 ⟨g,F,rfl,hx1,hn1,hb1⟩
 have X1:Hid (Jt P w1 w0.heap.size g (FN P s0 cls 0).1 F none 0 [] (FN P s0 cls 0).2):=by
  rw[HS0.out]
  exact⟨hx1,hn1,⟨by simp,.inl ⟨rfl,rfl⟩⟩,trivial,fun b _ e=>by simp[Value.ownBlock] at e,fun b _ u hu=>by simp at hu⟩
 have B1:=AA hb1
 have HL0:Hid ((FN P s0 cls 0).2.length=0):=by show _=_;rw[HS0.out];rfl
 clear hx1 hn1 hb1 HN
 go_wp2_with fail
 go_loopw [7,8] (fun x7 x8 wr=>∃ (k:Nat) (F:Nat→Prop) (ta:Option Addr) (tc:Nat) (vs:List Value),k≤cls.length∧k≤40∧x8=.int .i64 k∧x7=.slice ta (FN P s0 cls k).2.length tc∧Hid (Jt P wr w0.heap.size g (FN P s0 cls k).1 F ta tc vs (FN P s0 cls k).2)∧Hid (Below w0.heap.size w0 wr)) (fun _ x8 _=>40 - (intOf x8).toNat)
 case atStart=>exact⟨0,F,none,0,[],Nat.zero_le _,Nat.zero_le _,rfl,by rw[HL0.out],X1,B1⟩
 case round =>
  clear X1 B1
  obtain⟨k,F,ta,tc,vs,hk,hk40,rfl,rfl,X,BB⟩:=hrel
  have hzr:w0.heap.size≤wr.heap.size:=BB.out.size
  have hlen:=TM P s0 cls k
  by_cases hlt:k<cls.length
  ·by_cases h40:k<40
   ·have BWr:Hid (Below w.heap.size w wr):=BW.out.trans (BB.out.mono (by omega))
    obtain⟨b,off,rfl,hc⟩:=(HR.out.below BWr.out).get (by omega)
    obtain⟨q1,q2,q3⟩:=hc k hlt
    have HST:=AA (RU P s0 cls k hlt)
    have HF:=AA (Qb (A k) (C k) (cls.getD k []) 12 wr q2 q3 (by decide))
    have HT:=AA (HTK.out k)
    generalize cls.getD k []=xs at *
    generalize FN P s0 cls k=sk at *
    have i1':(0:Int)≤(k:Int):=by omega
    have i2':(k:Int)<(cls.length:Int):=by omega
    clear hc q2
    go_wp2_with fail
    refine(AE HF).mono ?_
    rintro e w2 ⟨a2,c2,rfl,ho2,hb2⟩
    have hln:(xs.take 12).length≤12:=by simp;omega
    generalize xs.take 12=ys at *
    have X2:=AA (X.out.below hb2)
    have B2:Hid (Below w0.heap.size w0 w2):=BB.out.trans (hb2.mono hzr)
    have hz2:wr.heap.size≤w2.heap.size:=hb2.size
    have O2:=AA ho2
    have hdis:∀ q,F q→(Value.slice a2 ys.length c2).ownBlock≠some q:=fun q hq e=>by
     have h1:=(ho2.lt q e).1
     have h2:=P.lt X.out.x q hq
     omega
    have HAD:=AA (P.addC a2 c2 ys X2.out.x HT.out.ok (By ho2) (fun ad e hq=>by
     subst e
     exact hdis _ hq rfl) (by omega) (by rw[HT.out.v];show(Gr sk.2).length≤_;have:=Na sk.2;omega))
    have HDI:=AA hdis
    clear hdis ho2 hb2 HF q1
    go_wp2_with fail
    refine(AE HAD).mono ?_
    rintro e w3 ⟨rfl,hnx⟩
    obtain⟨F3,hx3,hc3,hn3,_⟩:=X2.out.call (Nat.le_trans hzr hz2) hnx
    have X3:=AA hx3
    have B3:Hid (Below w0.heap.size w0 w3):=DB B2.out hc3 (Nat.le_trans hzr hz2) X2.out.fb
    have hz3:w2.heap.size≤w3.heap.size:=hc3.size
    have O3:Hid (w3.ownsRow w0.heap.size 3 1 (.slice a2 ys.length c2) ys.length (AW ys)):=BO (Du O2.out fun q e=>hc3.block q (O2.out.lt q e).2 fun hq=>HDI.out q hq e) hzr
    have HDI3:Hid (∀ q,F3 q→(Value.slice a2 ys.length c2).ownBlock≠some q):=fun q hq e=>(hn3 q hq).elim (fun z=>HDI.out q z e) fun z=>by
     have:=(O2.out.lt q e).2
     omega
    have HBS:Hid (Ck P sk ys=(P.add sk.1 ys,if Hx (An ys (AT (P.vw sk.1).hv))=0 then sk.2++[ys] else sk.2)):=rfl
    clear hnx hx3 hc3 hn3 HAD X2 B2 O2 HDI HTK
    generalize Hx (An ys (AT (P.vw sk.1).hv))=er at *
    by_cases her:er=0
    ·subst her
     have HST2:Hid (FN P s0 cls (k+1)=(P.add sk.1 ys,sk.2++[ys])):=by show _=_;rw[HST.out,HBS.out,if_pos rfl]
     have d1:Hid (sk.2.length+1≤maxLen):=by show _≤_;unfold maxLen;omega
     have d2:Hid ((sk.2.length+1)*24≤140737488355328):=by show _≤_;omega
     go_wp2_with (at_builtin;refine Cc _ rfl _ _ 22 rfl w0.heap.size 26 i1 (.slice none 0 0) 24 Tryd.undLists gi gz0 gz1 gz2 rfl (.slice ta sk.2.length tc) sk.2.length vs rfl (X3.out.top.alloc _) ⟨w3.heap.size,0,none⟩ 1 1 [.slice a2 ys.length c2] rfl rfl (AX w3 [.slice a2 ys.length c2] 26) (by intro u hu;simp at hu;subst hu;rfl) (by decide) d1.out d2.out (by simp;omega) (w3.heap.size+1) (by simp) ?_;intro a4 c4 w4 hown4 hg4 hl4)
     have X4:=AA (X3.out.push O3.out HDI3.out hg4 hown4 hl4 (by omega))
     have B4:Hid (Below w0.heap.size w0 w4):=(B3.out.alloc B3.out.size _).grown hg4 (B3.out.alloc B3.out.size _).size (fun q hq=>(X3.out.top.lt q hq).1)
     clear hown4 hg4 hl4
     go_roundw
     case rel=>exact⟨k+1,F3,a4,c4,vs++[.slice a2 ys.length c2],by omega,by omega,by go_num,by rw[HST2.out];simp,by rw[HST2.out];exact X4,B4⟩
     case measure=>simp[intOf];omega
    ·have HST2:Hid (FN P s0 cls (k+1)=(P.add sk.1 ys,sk.2)):=by show _=_;rw[HST.out,HBS.out,if_neg her]
     go_wp2
     go_roundw
     case rel=>exact⟨k+1,F3,ta,tc,vs,by omega,by omega,by go_num,by rw[HST2.out],by rw[HST2.out];exact X3,B3⟩
     case measure=>simp[intOf];omega
   ·obtain rfl:k=40:=by omega
    have HEQ:=AA (HE.out 40 hk (.inl rfl))
    clear HE HTK HS0 HL0
    generalize FN P s0 cls 40=sk at *
    have R9:=AA (AB RT.out BB.out)
    have f0:wr.cell? ⟨w.heap.size+1,0,none⟩=some (.pointer none):=(R9.out.cell 0).trans rfl
    have f1:wr.cell? ⟨w.heap.size+1,1,none⟩=some (.slice none 0 0):=(R9.out.cell 1).trans rfl
    have f2:wr.cell? ⟨w.heap.size+1,2,none⟩=some (.bool false):=(R9.out.cell 2).trans rfl
    have z0:=R9.out.frozen 0
    have z1:=R9.out.frozen 1
    have z2:=R9.out.frozen 2
    have E9:=AA (MI X.out (T:=w.heap.size+1) (by omega) (BW.out.trans (BB.out.mono (by omega))) (by omega) (.pointer (some ⟨g,0,none⟩)) (.slice ta sk.2.length tc) (.bool true))
    go_wp2
    refine bodyPost_ret (Lc (((R9.out.set 0 _).set 1 _).set 2 _) rfl) rfl ?_
    rw[HEQ.out]
    exact⟨g,F,ta,tc,vs,rfl,E9.out.1.low (by omega),E9.out.2⟩
  ·obtain rfl:k=cls.length:=by omega
   have HEQ:=AA (HE.out cls.length hk (.inr ⟨rfl,hk40⟩))
   clear HE HTK HS0 HL0
   generalize FN P s0 cls cls.length=sk at *
   have R9:=AA (AB RT.out BB.out)
   have f0:wr.cell? ⟨w.heap.size+1,0,none⟩=some (.pointer none):=(R9.out.cell 0).trans rfl
   have f1:wr.cell? ⟨w.heap.size+1,1,none⟩=some (.slice none 0 0):=(R9.out.cell 1).trans rfl
   have f2:wr.cell? ⟨w.heap.size+1,2,none⟩=some (.bool false):=(R9.out.cell 2).trans rfl
   have z0:=R9.out.frozen 0
   have z1:=R9.out.frozen 1
   have z2:=R9.out.frozen 2
   have E9:=AA (MI X.out (T:=w.heap.size+1) (by omega) (BW.out.trans (BB.out.mono (by omega))) (by omega) (.pointer (some ⟨g,0,none⟩)) (.slice ta sk.2.length tc) (.bool true))
   go_wp2
   refine bodyPost_ret (Lc (((R9.out.set 0 _).set 1 _).set 2 _) rfl) rfl ?_
   rw[HEQ.out]
   exact⟨g,F,ta,tc,vs,rfl,E9.out.1.low (by omega),E9.out.2⟩
def D8(c:Int)(n:Nat):Nat:=((if c<0 then -(c+1) else c) % (n:Int)).toNat
def Et(v:Nat)(x:Int):Bool:=AK x && (if 0<x then v.testBit (x.toNat - 1) else !(v.testBit ((-x).toNat - 1)))
theorem VZ(v k:Nat)(hv:v<1024):bits .and .i64 ((v:Int) / 2^k) 1=(((v.testBit k).toNat:Nat):Int):=by
 have h1:((v:Int) / 2^k)=((v / 2^k:Nat):Int):=by rw[Int.natCast_ediv,Int.natCast_pow];rfl
 have h2:v / 2^k≤v:=Nat.div_le_self _ _
 have h3:bits .and .i64 ((v / 2^k:Nat):Int) 1=((v / 2^k&&&1:Nat):Int):=Eb (v / 2^k) 1 (by omega) (by decide)
 rw[h1,h3,Nat.and_one_is_mod,Nat.toNat_testBit]
set_option maxHeartbeats 2000000 in
theorem Ux(x:Int)(v:Nat)(hv:v<1024)(w:World) :
  Calls Tryd.prog 35 #[.int .i64 x,.int .i64 v] w fun e w'=>e=.returned (.bool (Et v x))∧w'=w:=by
 have hA:=fun k=>VZ v k hv
 cases hl:AK x with
 | false =>
  have HE:Hid (Et v x=false):=by show _=_;simp[Et,hl]
  simp only[AK,Bool.and_eq_false_iff,bne_eq_false_iff_eq,decide_eq_false_iff_not] at hl
  clear hA
  by_cases h0:x=0
  ·subst h0
   go_enter Tryd.func35,Tryd.ntmps35
   go_wp2
   go_ret
   exact⟨by rw[HE.out];rfl,rfl⟩
  ·have h0':(x == 0)=false:=by simpa using h0
   by_cases h1:x < -10
   ·clear hl
    go_enter Tryd.func35,Tryd.ntmps35
    go_wp2
    go_ret
    exact⟨by rw[HE.out];rfl,rfl⟩
   ·have h2:x > 10:=by rcases hl with(hl | hl) | hl <;> omega
    clear hl
    go_enter Tryd.func35,Tryd.ntmps35
    go_wp2
    go_ret
    exact⟨by rw[HE.out];rfl,rfl⟩
 | true =>
  have hl':=hl
  simp only[AK,Bool.and_eq_true,bne_iff_ne,decide_eq_true_eq] at hl
  by_cases hp:0<x
  ·obtain⟨k,rfl⟩:∃ k:Nat,x=(k:Int)+1:=⟨(x - 1).toNat,by omega⟩
   have HE:Hid (Et v ((k:Int)+1)=v.testBit k):=by
    show _=_
    unfold Et
    rw[hl',if_pos hp,show((k:Int)+1).toNat - 1=k by omega];rfl
   have ha:=hA k
   have h0:(((k:Int)+1) == 0)=false:=by simp;omega
   have hk10:k<10:=by omega
   clear hA hl hl'
   generalize Et v ((k:Int)+1)=R at *
   cases hb:v.testBit k with
   | true =>
    rw[hb] at ha
    go_enter Tryd.func35,Tryd.ntmps35
    go_wp2
    go_ret
    exact⟨by rw[HE.out,hb];rfl,rfl⟩
   | false =>
    rw[hb] at ha
    go_enter Tryd.func35,Tryd.ntmps35
    go_wp2
    go_ret
    exact⟨by rw[HE.out,hb];rfl,rfl⟩
  ·obtain⟨k,rfl⟩:∃ k:Nat,x=-((k:Int)+1):=⟨(-x - 1).toNat,by omega⟩
   have HE:Hid (Et v (-((k:Int)+1))=!(v.testBit k)):=by
    show _=_
    unfold Et
    rw[hl',if_neg hp,Int.neg_neg,show((k:Int)+1).toNat - 1=k by omega];rfl
   have ha:=hA k
   have h0:((-((k:Int)+1)) == 0)=false:=by simp;omega
   have hk10:k<10:=by omega
   have hwn:IntKind.i64.wrap (-(-((k:Int)+1)))=(k:Int)+1:=by rw[IntKind.wrap_i64];omega
   clear hA hl hl'
   generalize hxx:-((k:Int)+1)=xx at *
   have hn1:¬ xx > 0:=by omega
   have hn2:¬ xx > 10:=by omega
   have hn3:¬ xx < -10:=by omega
   have hwx:-xx=(k:Int)+1:=by omega
   generalize Et v xx=R at *
   clear hxx
   cases hb:v.testBit k with
   | true =>
    rw[hb] at ha
    go_enter Tryd.func35,Tryd.ntmps35
    go_wp2
    go_ret
    exact⟨by rw[HE.out,hb];rfl,rfl⟩
   | false =>
    rw[hb] at ha
    go_enter Tryd.func35,Tryd.ntmps35
    go_wp2
    go_ret
    exact⟨by rw[HE.out,hb];rfl,rfl⟩
set_option maxHeartbeats 1000000 in
theorem Lp(c:Int)(n:Nat)(hn:0<n)(hn2:n≤4611686018427387904)(w:World)(h1:-9223372036854775808≤c)(h2:c≤9223372036854775807) :
  Calls Tryd.prog 18 #[.int .i64 c,.int .i64 n] w fun e w'=>e=.returned (.int .i64 (D8 c n:Nat))∧w'=w:=by
 have hz:((n:Int) == 0)=false:=by simp;omega
 have hz':(n:Int)≠0:=by omega
 by_cases hc:c<0
 ·have e:Hid (((D8 c n:Nat):Int)=-(c+1) % (n:Int)):=by
   show _=_
   unfold D8
   rw[if_pos hc]
   have:=Int.emod_nonneg (-(c+1)) hz'
   omega
  have t1:Hid (Int.tmod (-(c+1)) n=-(c+1) % (n:Int)):=by show _=_;exact Int.tmod_eq_emod_of_nonneg (by omega)
  have b1:=Int.emod_nonneg (-(c+1)) hz'
  have b2:=Int.emod_lt_of_pos (-(c+1)) (show(0:Int)<n by omega)
  have t2:IntKind.i64.wrap (Int.tmod (-(c+1)) n)=-(c+1) % (n:Int):=by rw[t1.out,IntKind.wrap_i64];omega
  go_enter Tryd.func18,Tryd.ntmps18
  go_wp2
  go_ret
  refine⟨DV ?_,rfl⟩
  rw[e.out,← t1.out,Int.neg_tmod]
 ·have e:Hid (((D8 c n:Nat):Int)=c % (n:Int)):=by
   show _=_
   unfold D8
   rw[if_neg hc]
   have:=Int.emod_nonneg c hz'
   omega
  have t1:Hid (Int.tmod c n=c % (n:Int)):=by show _=_;exact Int.tmod_eq_emod_of_nonneg (by omega)
  go_enter Tryd.func18,Tryd.ntmps18
  go_wp2
  go_ret
  refine⟨DV ?_,rfl⟩
  rw[e.out]
  first | done | exact t1.out | rw[← t1.out]
theorem Hm(c:Int)(n:Nat)(hn:0<n):D8 c n<n:=by
 unfold D8
 have h1:=Int.emod_lt_of_pos (if c<0 then -(c+1) else c) (show(0:Int)<n by omega)
 have h2:=Int.emod_nonneg (if c<0 then -(c+1) else c) (show(n:Int)≠0 by omega)
 omega
theorem WY:∃ fs,Tryd.prog.underlying 52=some (.struct fs):=by
 have h:(Tryd.prog.underlying 52).map CL=some true:=by kernel_rfl
 cases hu:Tryd.prog.underlying 52 with
 | none=>rw[hu] at h;simp at h
 | some d =>
  rw[hu] at h
  cases d with
  | struct fs=>exact⟨fs,rfl⟩
  | _=>simp[CL] at h
theorem WX:(Tryd.prog.info? 52).map (·.size)=some 3:=by kernel_rfl
theorem VE{w':World}{tmps:Array Value}{g:Nat}{p q x:Value}(hr:Ab w' g 52 [p,q,x])(h2:tmps.getD 0 undef=.pointer (some ⟨g,0,none⟩)) :
  (results Tryd.f22 tmps).run Tryd.prog w'=.ok (.agg #[p,q,x]) w':=by
 obtain⟨fs,hu⟩:=WY
 exact results_cell_row rfl tmps w' g 52 #[p,q,x] (0,0) (.struct fs) h2 hr hu rfl WX
theorem Od(w:World):Calls Tryd.prog 22 #[] w fun e w'=>e=.returned (.agg #[.int .i64 0,.int .i64 1048576,.int .i64 1048576])∧Below w.heap.size w w':=by
 have B0:=AA ((Below.refl w.heap.size w).alloc (Nat.le_refl _) (.cells #[.int .i64 0,.int .i64 1048576,.int .i64 1048576] 52))
 have R0:Hid (Ab (w.alloc (.cells #[.int .i64 0,.int .i64 1048576,.int .i64 1048576] 52)) w.heap.size 52 [.int .i64 0,.int .i64 1048576,.int .i64 1048576]):=heap_alloc_new w _
 go_enter Tryd.func22,Tryd.ntmps22
 go_wp2
 exact bodyPost_ret (VE R0.out rfl) rfl ⟨rfl,B0.out⟩
theorem QH{w':World}{tmps:Array Value}{g:Nat}{p q x:Value}(hr:Ab w' g 33 [p,q,x])(h2:tmps.getD 2 undef=.pointer (some ⟨g,0,none⟩)) :
  (results Tryd.f10 tmps).run Tryd.prog w'=.ok (.agg #[p,q,x]) w':=by
 obtain⟨fs,hu⟩:=Ly
 exact results_cell_row rfl tmps w' g 33 #[p,q,x] (0,0) (.struct fs) h2 hr hu rfl Lx
set_option maxHeartbeats 2000000 in
theorem IL(P:D0)(a:Option Addr)(c:Nat)(A:Nat→Option Addr)(C:Nat→Nat)(cls:List (List Int))(w:World)(hr:Br w a A C cls)(hcl:cls.length≤9223372036854775807) :
  Calls Tryd.prog 10 #[.slice a cls.length c] w (L9 P w (Fk P (P.new 0 1048576 1048576) (Hu cls)).1 (Fk P (P.new 0 1048576 1048576) (Hu cls)).2):=by
 have HB:Hid (∀ w',Below w.heap.size w w'→Calls Tryd.prog 23 #[.agg #[.int .i64 0,.int .i64 1048576,.int .i64 1048576],.slice a cls.length c] w' (L9 P w' (Fk P (P.new 0 1048576 1048576) (Hu cls)).1 (Fk P (P.new 0 1048576 1048576) (Hu cls)).2)):=fun w' hb=>RW P 0 1048576 1048576 (by decide) a c A C cls w' (hr.below hb) hcl
 have B0:=AA ((Below.refl w.heap.size w).alloc (Nat.le_refl _) (.cells #[.pointer none,.slice none 0 0,.bool false] 33))
 have R0:Hid (Ab (w.alloc (.cells #[.pointer none,.slice none 0 0,.bool false] 33)) w.heap.size 33 [.pointer none,.slice none 0 0,.bool false]):=heap_alloc_new w _
 generalize Fk P (P.new 0 1048576 1048576) (Hu cls)=sk at *
 have HW:Hid (∀ w,Calls Tryd.prog 22 #[] w fun e w'=>e=.returned (.agg #[.int .i64 0,.int .i64 1048576,.int .i64 1048576])∧Below w.heap.size w w'):=fun w=>Od w
 clear hr
 go_enter Tryd.func10,Tryd.ntmps10
 go_wp2_with fail
 refine(AE HW _).mono ?_
 generalize w.alloc (.cells #[.pointer none,.slice none 0 0,.bool false] 33)=w0 at *
 rintro e w1 ⟨rfl,hb1⟩
 have hbA:=(Below.refl w1.heap.size w1).alloc (Nat.le_refl _) (.cells #[.int .i64 0,.int .i64 1048576,.int .i64 1048576] 52)
 have b1:Below w.heap.size w (w1.alloc (.cells #[.int .i64 0,.int .i64 1048576,.int .i64 1048576] 52)):=(B0.out.trans (hb1.mono B0.out.size)).trans (hbA.mono (Nat.le_trans B0.out.size hb1.size))
 have R1:=AA (AB (AB R0.out hb1) hbA)
 have HB1:=AA (HB.out _ b1)
 have B1:=AA b1
 clear hb1 hbA b1 HB
 go_wp2_with fail
 refine(AE HB1).mono ?_
 generalize w1.alloc (.cells #[.int .i64 0,.int .i64 1048576,.int .i64 1048576] 52)=w2 at *
 rintro e w3 ⟨g,F,ta,tc,vs,rfl,hx,hb3⟩
 have hT:w.heap.size<w2.heap.size:=R1.out.lt
 have R3:=AA (AB R1.out hb3)
 have f0:w3.cell? ⟨w.heap.size,0,none⟩=some (.pointer none):=(R3.out.cell 0).trans rfl
 have f1:w3.cell? ⟨w.heap.size,1,none⟩=some (.slice none 0 0):=(R3.out.cell 1).trans rfl
 have f2:w3.cell? ⟨w.heap.size,2,none⟩=some (.bool false):=(R3.out.cell 2).trans rfl
 have z0:=R3.out.frozen 0
 have z1:=R3.out.frozen 1
 have z2:=R3.out.frozen 2
 have E9:=AA (MI hx hT (B1.out.trans (hb3.mono B1.out.size)) (Nat.le_refl _) (.pointer (some ⟨g,0,none⟩)) (.slice ta sk.2.length tc) (.bool true))
 clear hx hb3
 go_wp2
 exact bodyPost_ret (QH (((R3.out.set 0 _).set 1 _).set 2 _) rfl) rfl ⟨g,F,ta,tc,vs,rfl,E9.out.1.low (by omega),E9.out.2⟩
end Go.Proofs.YthboeppmlhbofaaDoor
