import Derived.Test.YthboeppmlhbofabDoorHag
import Derived.Test.YthboeppmlhbofabDoorChl
import Derived.Test.YthboeppmlhbofabDoorDcd
namespace Go.Proofs.YthboeppmlhbofabDoor
open Go.RowKit Txt
set_option maxRecDepth 100000
def begC(cls:List (List Int)):List (List Int):=(cls.take 40).map (fun c=>c.take 12)
def begStep(P:Prg)(p:P.S × List (List Int))(c:List Int):P.S × List (List Int):=(P.add p.1 c,if errOf (takenK c (litsN (P.vw p.1).hv))=0 then p.2++[c] else p.2)
def begL(P:Prg)(s:P.S)(cs:List (List Int)):P.S × List (List Int):=cs.foldl (begStep P) (s,[])
def hvOf(tk:List (List Int)):List Nat:=(tk.filter (fun c=>!twinB (setN c))).map setN
def seenN(cs:List Nat):Nat:=cs.foldl (fun a c=>a|||varsN c) 0
theorem seenN_snoc(cs:List Nat)(c:Nat):seenN (cs++[c])=seenN cs|||varsN c:=by simp[seenN]
structure TkOk(P:Prg)(r h l:Int)(s:P.S)(tk:List (List Int)):Prop where
 ok:P.Ok s
 v:P.vw s=⟨r,h,l,hvOf tk,seenN (hvOf tk),[],0,0,[]⟩
 lit:∀ c∈tk,c.all litB=true
theorem TkOk.step{P:Prg}{r h l:Int}{s:P.S}{tk:List (List Int)}(t:TkOk P r h l s tk)(c:List Int):TkOk P r h l (begStep P (s,tk) c).1 (begStep P (s,tk) c).2:=by
 obtain⟨h1,h2⟩:=P.addV s c t.ok
 have e1:(begStep P (s,tk) c).1=P.add s c:=rfl
 have e2:(begStep P (s,tk) c).2=if errOf (takenK c (litsN (P.vw s).hv))=0 then tk++[c] else tk:=rfl
 rw[e1,e2]
 unfold Vw.add at h2
 cases hk:takenK c (litsN (P.vw s).hv) with
 | lit =>
  rw[hk] at h2
  simp only[Tk.takes?,Bool.false_eq_true,if_false] at h2
  rw[if_neg (by decide)]
  exact⟨h1,h2.trans t.v,t.lit⟩
 | full =>
  rw[hk] at h2
  simp only[Tk.takes?,Bool.false_eq_true,if_false] at h2
  rw[if_neg (by decide)]
  exact⟨h1,h2.trans t.v,t.lit⟩
 | taut =>
  rw[hk] at h2
  simp only[Tk.takes?,Bool.false_eq_true,if_false] at h2
  rw[if_pos (show errOf Tk.taut=0 from rfl)]
  have hq:=hk
  unfold takenK at hq
  have ha:c.all litB=true:=by
   split at hq
   ·assumption
   ·simp at hq
  have ht:twinB (setN c)=true:=by
   rw[if_pos ha] at hq
   split at hq
   ·assumption
   ·split at hq <;> simp at hq
  have hh:hvOf (tk++[c])=hvOf tk:=by simp[hvOf,List.filter_append,ht]
  refine⟨h1,by rw[hh];exact h2.trans t.v,fun x hx=>?_⟩
  rcases List.mem_append.1 hx with hx | hx
  ·exact t.lit x hx
  ·simp at hx;subst hx;exact ha
 | takes =>
  rw[hk] at h2
  simp only[Tk.takes?,if_true] at h2
  rw[if_pos (show errOf Tk.takes=0 from rfl)]
  have hq:=hk
  unfold takenK at hq
  have ha:c.all litB=true:=by
   split at hq
   ·assumption
   ·simp at hq
  have ht:twinB (setN c)=false:=by
   rw[if_pos ha] at hq
   cases hb:twinB (setN c) with
   | false=>rfl
   | true=>rw[hb] at hq;simp at hq
  have hh:hvOf (tk++[c])=hvOf tk++[setN c]:=by simp[hvOf,List.filter_append,ht]
  refine⟨h1,?_,fun x hx=>?_⟩
  ·rw[h2,t.v,hh,seenN_snoc]
  ·rcases List.mem_append.1 hx with hx | hx
   ·exact t.lit x hx
   ·simp at hx;subst hx;exact ha
theorem begL_snoc(P:Prg)(s:P.S)(cs:List (List Int))(c:List Int):begL P s (cs++[c])=begStep P (begL P s cs) c:=by simp[begL]
theorem begL_ok{P:Prg}{r h l:Int}{s:P.S}(t:TkOk P r h l s []):∀ cs:List (List Int),TkOk P r h l (begL P s cs).1 (begL P s cs).2:=by
 have key:∀ (cs:List (List Int)) (p:P.S × List (List Int)),TkOk P r h l p.1 p.2→TkOk P r h l (cs.foldl (begStep P) p).1 (cs.foldl (begStep P) p).2:=by
  intro cs
  induction cs with
  | nil=>intro p h;exact h
  | cons c cs ih=>intro p h;exact ih _ (h.step c)
 exact fun cs=>key cs (s,[]) t
theorem begL_len(P:Prg)(s:P.S):∀ cs:List (List Int),(begL P s cs).2.length≤cs.length∧∀ c∈(begL P s cs).2,c∈cs:=by
 have key:∀ (cs:List (List Int)) (p:P.S × List (List Int)),(cs.foldl (begStep P) p).2.length≤p.2.length+cs.length∧∀ c∈(cs.foldl (begStep P) p).2,c∈p.2∨c∈cs:=by
  intro cs
  induction cs with
  | nil=>intro p;exact⟨by simp,fun c hc=>.inl hc⟩
  | cons c cs ih =>
   intro p
   obtain⟨a,b⟩:=ih (begStep P p c)
   simp only[List.foldl_cons,List.length_cons]
   have e2:(begStep P p c).2=if errOf (takenK c (litsN (P.vw p.1).hv))=0 then p.2++[c] else p.2:=rfl
   rw[e2] at a b
   split at a
   ·rename_i h0
    rw[if_pos h0] at b
    simp only[List.length_append,List.length_cons,List.length_nil] at a
    refine⟨by omega,fun x hx=>?_⟩
    rcases b x hx with q | q
    ·rcases List.mem_append.1 q with q | q
     ·exact .inl q
     ·exact .inr (by rw[List.mem_singleton.1 q];exact List.mem_cons_self ..)
    ·exact .inr (List.mem_cons_of_mem _ q)
   ·rename_i h0
    rw[if_neg h0] at b
    refine⟨by omega,fun x hx=>(b x hx).imp id (List.mem_cons_of_mem _)⟩
 intro cs
 obtain⟨a,b⟩:=key cs (s,[])
 exact⟨by simp only[List.length_nil,Nat.zero_add] at a;exact a,fun c hc=>(b c hc).elim (fun q=>by simp at q) id⟩
theorem hvOf_len(tk:List (List Int)):(hvOf tk).length≤tk.length:=by unfold hvOf;rw[List.length_map];exact List.length_filter_le _ _
theorem newTk(P:Prg)(r h l:Int)(hs:settingsB r h l=true):TkOk P r h l (P.new r h l) []:=⟨(P.newV r h l hs).1,(P.newV r h l hs).2,fun c hc=>by simp at hc⟩
set_option maxHeartbeats 2000000 in
theorem few_any(a:Option Addr)(c:Nat)(xs:List Int)(n:Nat)(w:World)(hi:IntsAt w a xs)(hx:xs.length≤9223372036854775807)(hn:n≤1000) :
  Calls Tryd.prog 29 #[.slice a xs.length c,.int .i64 n] w fun e w'=>∃ a' c',e=.returned (.slice a' (xs.take n).length c')∧w'.ownsRow w.heap.size 3 1 (.slice a' (xs.take n).length c') (xs.take n).length (i64s (xs.take n))∧Below w.heap.size w w':=by
 obtain⟨i0,hi0,hz0,hz1,hz2⟩:=info_parts Tryd.infoInt
 have HI:=hide hi
 clear hi
 go_enter Tryd.func29,Tryd.ntmps29
 go_wp2
 go_loopw [5,6] (fun x5 x6 wr=>∃ (k:Nat) (a1:Option Addr) (c1:Nat),k≤xs.length∧k≤n∧x6=.int .i64 k∧x5=.slice a1 (xs.take k).length c1∧Hid (wr.ownsRow w.heap.size 3 1 (.slice a1 (xs.take k).length c1) (xs.take k).length (i64s (xs.take k)))∧Hid (Below w.heap.size w wr)) (fun _ x6 _=>n - (intOf x6).toNat)
 case atStart=>exact⟨0,none,0,Nat.zero_le _,Nat.zero_le _,rfl,by simp,⟨by simp[i64s],.inl ⟨by simp,by simp⟩⟩,Below.refl _ _⟩
 case round =>
  obtain⟨k,a1,c1,hk,hkn,rfl,rfl,HO,HB⟩:=hrel
  have hz:w.heap.size≤wr.heap.size:=HB.out.size
  have hl:(xs.take k).length=k:=by simp;omega
  by_cases hlt:k<xs.length
  ·by_cases hln:k<n
   ·obtain⟨b,off,rfl,hc⟩:=(HI.out.below HB.out).get (by omega)
    have h1:=hc k hlt
    have HS:Hid (xs.take (k+1)=xs.take k++[xs.getD k 0]):=by
     show _=_
     rw[List.take_succ_eq_append_getElem hlt,List.getD_eq_getElem?_getD,List.getElem?_eq_getElem hlt]
     rfl
    have HL:Hid ((xs.take k).length=k):=hl
    generalize xs.getD k 0=y at h1 HS
    generalize hg:xs.take k=wo at HO HS hl HL
    have d1:Hid (wo.length+1≤maxLen):=by show _≤_;unfold maxLen;omega
    have d2:Hid ((wo.length+1)*8≤140737488355328):=by show _≤_;omega
    clear hc hg
    go_wp2_with (at_builtin;refine wpList_append_at _ rfl _ _ 23 rfl w.heap.size 3 i0 (.int .i64 0) 8 Tryd.undInts hi0 hz0 hz1 hz2 rfl (.slice a1 wo.length c1) wo.length (i64s wo) rfl (HO.out.alloc _) ⟨wr.heap.size,0,none⟩ 1 1 [.int .i64 y] rfl rfl (new_cells1 wr [.int .i64 y] 3) (by intro u hu;simp at hu;subst hu;rfl) (by decide) d1.out d2.out (by simp;exact Nat.le_succ_of_le hz) ?_;intro v3 w3 hown3 hg3 hwh3)
    obtain⟨a3,c3,rfl⟩:=own_shape hown3
    have HB3:Hid (Below w.heap.size w w3):=(HB.out.alloc hz _).grown hg3 (HB.out.alloc hz _).size (fun k hk=>(HO.out.lt k hk).1)
    have HO3:Hid (w3.ownsRow w.heap.size 3 1 (.slice a3 (wo.length+1) c3) (wo.length+1) (i64s (wo++[y]))):=by
     have:i64s (wo++[y])=i64s wo++[.int .i64 y]:=by simp[i64s]
     rw[this];exact hown3
    clear hown3 hg3 hwh3
    go_roundw
    case rel=>exact⟨k+1,a3,c3,by omega,by omega,by go_num,by rw[HS.out];simp,by rw[HS.out,List.length_append];exact HO3,HB3⟩
    case measure=>simp[intOf];omega
   ·obtain rfl:k=n:=by omega
    go_wp2
    go_ret
    exact⟨a1,c1,rfl,HO.out,HB.out⟩
  ·obtain rfl:k=xs.length:=by omega
   have HT:Hid (xs.take n=xs.take xs.length):=by show _=_;rw[List.take_of_length_le (Nat.le_refl _),List.take_of_length_le hkn]
   go_wp2
   go_ret
   rw[HT.out]
   exact⟨a1,c1,rfl,HO.out,HB.out⟩
theorem own_keep{w w':World}{B e s n:Nat}{v:Value}{xs:List Value}(h:w.ownsRow B e s v n xs)(hk:∀ b,v.ownBlock=some b→w'.heap[b]?=w.heap[b]?):w'.ownsRow B e s v n xs:=by
 refine⟨h.1,?_⟩
 rcases h.2 with hn | ⟨g,cap,cur,hv,h1,hg,r⟩
 ·exact .inl hn
 ·exact .inr ⟨g,cap,cur,hv,h1,(hk g (by subst hv;rfl)).trans hg,r⟩
structure Beg(P:Prg)(w:World)(B g:Nat)(s:P.S)(F:Nat→Prop)(ta:Option Addr)(tc:Nat)(vs:List Value)(tk:List (List Int)):Prop where
 x:P.At w g s F
 fb:∀ b,F b→B≤b
 top:w.ownsRow B 23 1 (.slice ta tk.length tc) tk.length vs
 each:AllOwn w B 3 vs tk
 ap1:∀ b,F b→(Value.slice ta tk.length tc).ownBlock≠some b
 ap2:∀ b,F b→∀ u∈vs,u.ownBlock≠some b
theorem Beg.frame{P:Prg}{w w':World}{B g:Nat}{s:P.S}{F:Nat→Prop}{ta:Option Addr}{tc:Nat}{vs:List Value}{tk:List (List Int)}(h:Beg P w B g s F ta tc vs tk)(hk:∀ b,(F b∨(Value.slice ta tk.length tc).ownBlock=some b∨∃ u∈vs,u.ownBlock=some b)→w'.heap[b]?=w.heap[b]?):Beg P w' B g s F ta tc vs tk :=
 ⟨P.frame h.x (fun b hb=>hk b (.inl hb)),h.fb,own_keep h.top (fun b e=>hk b (.inr (.inl e))),h.each.map (fun u hu _ _ ho=>own_keep ho (fun b e=>hk b (.inr (.inr ⟨u,hu,e⟩)))),h.ap1,h.ap2⟩
theorem Beg.lt{P:Prg}{w:World}{B g:Nat}{s:P.S}{F:Nat→Prop}{ta:Option Addr}{tc:Nat}{vs:List Value}{tk:List (List Int)}(h:Beg P w B g s F ta tc vs tk){b:Nat}(hb:F b∨(Value.slice ta tk.length tc).ownBlock=some b∨∃ u∈vs,u.ownBlock=some b):B≤b∧b<w.heap.size:=by
 rcases hb with e | e | ⟨u,hu,e⟩
 ·exact⟨h.fb b e,P.lt h.x b e⟩
 ·exact h.top.lt b e
 ·obtain⟨xs,hx⟩:=h.each.mem hu
  exact hx.lt b e
theorem Beg.below{P:Prg}{w w':World}{B g:Nat}{s:P.S}{F:Nat→Prop}{ta:Option Addr}{tc:Nat}{vs:List Value}{tk:List (List Int)}(h:Beg P w B g s F ta tc vs tk)(hb:Below w.heap.size w w'):Beg P w' B g s F ta tc vs tk:=h.frame (fun b hd=>hb.block b (h.lt hd).2)
theorem Beg.call{P:Prg}{w w':World}{B g:Nat}{s s':P.S}{F:Nat→Prop}{ta:Option Addr}{tc:Nat}{vs:List Value}{tk:List (List Int)}{Q:(Nat→Prop)→Prop}(h:Beg P w B g s F ta tc vs tk)(hB:B≤w.heap.size)(hn:Nxs P.At F w w' g s' Q):∃ F',Beg P w' B g s' F' ta tc vs tk∧Chn F w w'∧(∀ b,F' b→F b∨w.heap.size≤b)∧Q F':=by
 obtain⟨F',x,c,n,q⟩:=hn
 refine⟨F',⟨x,fun b hb=>(n b hb).elim (h.fb b) (fun e=>by omega),own_keep h.top (fun b e=>c.block b (h.top.lt b e).2 (fun hf=>h.ap1 b hf e)),h.each.map (fun u hu _ _ ho=>own_keep ho (fun b e=>c.block b (ho.lt b e).2 (fun hf=>h.ap2 b hf u hu e))),fun b hb e=>?_,fun b hb u hu e=>?_⟩,c,n,q⟩
 ·rcases n b hb with hf | hf
  ·exact h.ap1 b hf e
  ·have:=(h.top.lt b e).2;omega
 ·rcases n b hb with hf | hf
  ·exact h.ap2 b hf u hu e
  ·obtain⟨xs,hx⟩:=h.each.mem hu
   have:=(hx.lt b e).2;omega
theorem n_ill:(3:Nat)≠23:=by decide
theorem Beg.push{P:Prg}{w w':World}{B g k:Nat}{s:P.S}{F:Nat→Prop}{ta a3:Option Addr}{tc c3:Nat}{vs:List Value}{tk:List (List Int)}{au:Option Addr}{cu:Nat}{xs:List Int}{o:Obj}{p:Prop}(h:Beg P w B g s F ta tc vs tk)(hu:w.ownsRow B 3 1 (.slice au xs.length cu) xs.length (i64s xs))(hf:∀ b,F b→(Value.slice au xs.length cu).ownBlock≠some b)
  (hg:(w.alloc o).grownBy w' (Value.slice ta tk.length tc).ownBlock) (hown:w'.ownsRow B 23 1 (.slice a3 (tk.length+1) c3) (tk.length+1) (vs++[.slice au xs.length cu])) (hl:Value.slice ta tk.length tc=.slice a3 tk.length c3∨a3=some ⟨k,0,none⟩∧p) (hk:w.heap.size≤k) :
  Beg P w' B g s F a3 c3 (vs++[.slice au xs.length cu]) (tk++[xs]):=by
 have hz:(w.alloc o).heap.size=w.heap.size+1:=by simp
 have kk:∀ b,b<w.heap.size→(Value.slice ta tk.length tc).ownBlock≠some b→w'.heap[b]?=w.heap[b]?:=fun b h1 h2=>(hg.block b (by omega) (fun e=>h2 e.symm)).trans (heap_alloc_old w o h1)
 have hlen:(tk++[xs]).length=tk.length+1:=by simp
 have hty:∀ {u:Value} {n:Nat} {zs:List Value},w.ownsRow B 3 1 u n zs→∀ b,u.ownBlock=some b→(Value.slice ta tk.length tc).ownBlock≠some b:=fun ho b e e'=>apart_types n_ill ho h.top b e e'
 refine⟨P.frame h.x (fun b hb=>kk b (P.lt h.x b hb) (h.ap1 b hb)),h.fb,by rw[hlen];exact hown,AllOwn.snoc (h.each.map (fun u hu _ _ ho=>own_keep ho (fun b e=>kk b (ho.lt b e).2 (hty ho b e)))) (own_keep hu (fun b e=>kk b (hu.lt b e).2 (hty hu b e))),fun b hb e=>?_,fun b hb u hm e=>?_⟩
 ·rw[hlen] at e
  rcases hl with hl | ⟨hl,_⟩
  ·have e2:(Value.slice ta tk.length tc).ownBlock=some b:=by rw[hl,← e];cases a3 <;> rfl
   exact h.ap1 b hb e2
  ·subst hl
   simp only[Value.ownBlock,Option.some.injEq] at e
   have:=P.lt h.x b hb
   omega
 ·rcases List.mem_append.1 hm with hm | hm
  ·exact h.ap2 b hb u hm e
  ·simp only[List.mem_singleton] at hm
   subst hm
   exact hf b hb e
def begK(P:Prg)(s:P.S)(cls:List (List Int))(k:Nat):P.S × List (List Int):=begL P s ((cls.take k).map (fun c=>c.take 12))
theorem begK_succ(P:Prg)(s:P.S)(cls:List (List Int))(k:Nat)(h:k<cls.length):begK P s cls (k+1)=begStep P (begK P s cls k) ((cls.getD k []).take 12):=by
 unfold begK
 rw[List.take_succ_eq_append_getElem h,List.map_append,List.getD_eq_getElem?_getD,List.getElem?_eq_getElem h]
 exact begL_snoc _ _ _ _
theorem begK_len(P:Prg)(s:P.S)(cls:List (List Int))(k:Nat):(begK P s cls k).2.length≤k:=by
 have:=(begL_len P s ((cls.take k).map (fun c=>c.take 12))).1
 simp only[List.length_map,List.length_take] at this
 unfold begK
 omega
def BegPost(P:Prg)(w:World)(s:P.S)(tk:List (List Int))(e:Ending)(w':World):Prop :=
 ∃ g F ta tc vs,e=.returned (.agg #[.pointer (some ⟨g,0,none⟩),.slice ta tk.length tc,.bool true])∧Beg P w' w.heap.size g s F ta tc vs tk∧Below w.heap.size w w'
theorem Beg.low{P:Prg}{w:World}{B B' g:Nat}{s:P.S}{F:Nat→Prop}{ta:Option Addr}{tc:Nat}{vs:List Value}{tk:List (List Int)}(h:Beg P w B g s F ta tc vs tk)(hb:B'≤B):Beg P w B' g s F ta tc vs tk:=by
 have key:∀ (vs:List Value) (cs:List (List Int)),AllOwn w B 3 vs cs→AllOwn w B' 3 vs cs:=by
  intro vs
  induction vs with
  | nil=>intro cs h;cases cs <;> exact h
  | cons u vs ih =>
   intro cs h
   cases cs with
   | nil=>exact h
   | cons c cs=>exact⟨own_low h.1 hb,ih cs h.2⟩
 exact⟨h.x,fun b q=>Nat.le_trans hb (h.fb b q),own_low h.top hb,key _ _ h.each,h.ap1,h.ap2⟩
theorem chn_below{F:Nat→Prop}{w0 w w':World}{B:Nat}(hb:Below B w0 w)(h:Chn F w w')(hB:B≤w.heap.size)(hp:∀ b,F b→B≤b):Below B w0 w' :=
 hb.trans ⟨h.os,h.tape,h.output,h.size,fun k hk=>h.block k (by omega) (fun hq=>by have:=hp k hq;omega)⟩
theorem trialType:∃ fs,Tryd.prog.underlying 26=some (.struct fs):=by
 have h:(Tryd.prog.underlying 26).map isStruct=some true:=by kernel_rfl
 cases hu:Tryd.prog.underlying 26 with
 | none=>rw[hu] at h;simp at h
 | some d =>
  rw[hu] at h
  cases d with
  | struct fs=>exact⟨fs,rfl⟩
  | _=>simp[isStruct] at h
theorem trialSize:(Tryd.prog.info? 26).map (·.size)=some 3:=by kernel_rfl
theorem begun_ret{w':World}{tmps:Array Value}{g:Nat}{p q x:Value}(hr:Row w' g 26 [p,q,x])(h2:tmps.getD 4 undef=.pointer (some ⟨g,0,none⟩)) :
  (results Tryd.f26 tmps).run Tryd.prog w'=.ok (.agg #[p,q,x]) w':=by
 obtain⟨fs,hu⟩:=trialType
 exact results_cell_row rfl tmps w' g 26 #[p,q,x] (0,0) (.struct fs) h2 hr hu rfl trialSize
theorem beg_end{P:Prg}{w wr:World}{B T H g:Nat}{s:P.S}{F:Nat→Prop}{ta:Option Addr}{tc:Nat}{vs:List Value}{tk:List (List Int)}(X:Beg P wr B g s F ta tc vs tk)(hT:T<B)(hb:Below H w wr)(hH:H≤T)(v0 v1 v2:Value):Beg P (((wr.setCell ⟨T,0,none⟩ v0).setCell ⟨T,1,none⟩ v1).setCell ⟨T,2,none⟩ v2) B g s F ta tc vs tk∧Below H w (((wr.setCell ⟨T,0,none⟩ v0).setCell ⟨T,1,none⟩ v1).setCell ⟨T,2,none⟩ v2):=by
 refine⟨X.frame fun b hd=>?_,((hb.setCell (p:=⟨T,0,none⟩) hH _).setCell (p:=⟨T,1,none⟩) hH _).setCell (p:=⟨T,2,none⟩) hH _⟩
 have hne:b≠T:=by have:=(X.lt hd).1;omega
 exact((Below.heap_setCell _ ⟨T,2,none⟩ v2 b hne).trans (Below.heap_setCell _ ⟨T,1,none⟩ v1 b hne)).trans (Below.heap_setCell _ ⟨T,0,none⟩ v0 b hne)
set_option maxHeartbeats 4000000 in
theorem begun_any(P:Prg)(r h l:Int)(hs:settingsB r h l=true)(a:Option Addr)(c:Nat)(A:Nat→Option Addr)(C:Nat→Nat)(cls:List (List Int))(w:World)(hr:RowsAt w a A C cls)(hcl:cls.length≤9223372036854775807) :
  Calls Tryd.prog 26 #[.agg #[.int .i64 r,.int .i64 h,.int .i64 l],.slice a cls.length c] w (BegPost P w (begL P (P.new r h l) (begC cls)).1 (begL P (P.new r h l) (begC cls)).2):=by
 obtain⟨i1,gi,gz0,gz1,gz2⟩:=info_parts Tryd.infoInts
 have HN:Hid (∀ w,Calls Tryd.prog 28 #[.agg #[.int .i64 r,.int .i64 h,.int .i64 l]] w fun e w'=>∃ g F,e=.returned (.tuple #[.pointer (some ⟨g,0,none⟩),.int .i64 0])∧P.At w' g (P.new r h l) F∧(∀ b,F b→w.heap.size≤b)∧Below w.heap.size w w'):=fun w=>by
  refine(P.newC r h l w).mono ?_
  rintro e w' ⟨h1,h2⟩
  rw[hs] at h2
  obtain⟨g,F,q1,q2,q3⟩:=h2
  exact⟨g,F,q1,q2,q3,h1⟩
 have HTK:Hid (∀ k,TkOk P r h l (begK P (P.new r h l) cls k).1 (begK P (P.new r h l) cls k).2):=fun k=>begL_ok (newTk P r h l hs) _
 have HE:Hid (∀ k,k≤cls.length→(k=40∨k=cls.length∧k≤40)→begL P (P.new r h l) (begC cls)=begK P (P.new r h l) cls k):=fun k h1 h2=>by
  unfold begC begK
  rcases h2 with rfl | ⟨rfl,h2⟩
  ·rfl
  ·rw[List.take_of_length_le (Nat.le_refl _),List.take_of_length_le h2]
 have HS0:Hid ((begK P (P.new r h l) cls 0)=(P.new r h l,[])):=by simp[Hid,begK,begL]
 have BW:Hid (Below w.heap.size w ((w.alloc (.cells #[.int .i64 r,.int .i64 h,.int .i64 l] 54)).alloc (.cells #[.pointer none,.slice none 0 0,.bool false] 26))):=((Below.refl _ _).alloc (Nat.le_refl _) _).alloc (by simp) _
 have RT:Hid (Row ((w.alloc (.cells #[.int .i64 r,.int .i64 h,.int .i64 l] 54)).alloc (.cells #[.pointer none,.slice none 0 0,.bool false] 26)) (w.heap.size+1) 26 [.pointer none,.slice none 0 0,.bool false]):=heap_alloc2_new w _ _
 have hz0:((w.alloc (.cells #[.int .i64 r,.int .i64 h,.int .i64 l] 54)).alloc (.cells #[.pointer none,.slice none 0 0,.bool false] 26)).heap.size=w.heap.size+2:=by simp
 have HR:=hide hr
 generalize P.new r h l=s0 at *
 clear hr
 go_enter Tryd.func26,Tryd.ntmps26
 go_wp2_with fail
 refine(unhide HN _).mono ?_
 generalize (w.alloc (.cells #[.int .i64 r,.int .i64 h,.int .i64 l] 54)).alloc (.cells #[.pointer none,.slice none 0 0,.bool false] 26)=w0 at *
 rintro e w1 ⟨g,F,rfl,hx1,hn1,hb1⟩
 have X1:Hid (Beg P w1 w0.heap.size g (begK P s0 cls 0).1 F none 0 [] (begK P s0 cls 0).2):=by
  rw[HS0.out]
  exact⟨hx1,hn1,⟨by simp,.inl ⟨rfl,rfl⟩⟩,trivial,fun b _ e=>by simp[Value.ownBlock] at e,fun b _ u hu=>by simp at hu⟩
 have B1:=hide hb1
 have HL0:Hid ((begK P s0 cls 0).2.length=0):=by show _=_;rw[HS0.out];rfl
 clear hx1 hn1 hb1 HN
 go_wp2_with fail
 go_loopw [7,8] (fun x7 x8 wr=>∃ (k:Nat) (F:Nat→Prop) (ta:Option Addr) (tc:Nat) (vs:List Value),k≤cls.length∧k≤40∧x8=.int .i64 k∧x7=.slice ta (begK P s0 cls k).2.length tc∧Hid (Beg P wr w0.heap.size g (begK P s0 cls k).1 F ta tc vs (begK P s0 cls k).2)∧Hid (Below w0.heap.size w0 wr)) (fun _ x8 _=>40 - (intOf x8).toNat)
 case atStart=>exact⟨0,F,none,0,[],Nat.zero_le _,Nat.zero_le _,rfl,by rw[HL0.out],X1,B1⟩
 case round =>
  clear X1 B1
  obtain⟨k,F,ta,tc,vs,hk,hk40,rfl,rfl,X,BB⟩:=hrel
  have hzr:w0.heap.size≤wr.heap.size:=BB.out.size
  have hlen:=begK_len P s0 cls k
  by_cases hlt:k<cls.length
  ·by_cases h40:k<40
   ·have BWr:Hid (Below w.heap.size w wr):=BW.out.trans (BB.out.mono (by omega))
    obtain⟨b,off,rfl,hc⟩:=(HR.out.below BWr.out).get (by omega)
    obtain⟨q1,q2,q3⟩:=hc k hlt
    have HST:=hide (begK_succ P s0 cls k hlt)
    have HF:=hide (few_any (A k) (C k) (cls.getD k []) 12 wr q2 q3 (by decide))
    have HT:=hide (HTK.out k)
    generalize cls.getD k []=xs at *
    generalize begK P s0 cls k=sk at *
    have i1':(0:Int)≤(k:Int):=by omega
    have i2':(k:Int)<(cls.length:Int):=by omega
    clear hc q2
    go_wp2_with fail
    refine(unhide HF).mono ?_
    rintro e w2 ⟨a2,c2,rfl,ho2,hb2⟩
    have hln:(xs.take 12).length≤12:=by simp;omega
    generalize xs.take 12=ys at *
    have X2:=hide (X.out.below hb2)
    have B2:Hid (Below w0.heap.size w0 w2):=BB.out.trans (hb2.mono hzr)
    have hz2:wr.heap.size≤w2.heap.size:=hb2.size
    have O2:=hide ho2
    have hdis:∀ q,F q→(Value.slice a2 ys.length c2).ownBlock≠some q:=fun q hq e=>by
     have h1:=(ho2.lt q e).1
     have h2:=P.lt X.out.x q hq
     omega
    have HAD:=hide (P.addC a2 c2 ys X2.out.x HT.out.ok (own_intsAt ho2) (fun ad e hq=>by
     subst e
     exact hdis _ hq rfl) (by omega) (by rw[HT.out.v];show(hvOf sk.2).length≤_;have:=hvOf_len sk.2;omega))
    have HDI:=hide hdis
    clear hdis ho2 hb2 HF q1
    go_wp2_with fail
    refine(unhide HAD).mono ?_
    rintro e w3 ⟨rfl,hnx⟩
    obtain⟨F3,hx3,hc3,hn3,_⟩:=X2.out.call (Nat.le_trans hzr hz2) hnx
    have X3:=hide hx3
    have B3:Hid (Below w0.heap.size w0 w3):=chn_below B2.out hc3 (Nat.le_trans hzr hz2) X2.out.fb
    have hz3:w2.heap.size≤w3.heap.size:=hc3.size
    have O3:Hid (w3.ownsRow w0.heap.size 3 1 (.slice a2 ys.length c2) ys.length (i64s ys)):=own_low (own_keep O2.out fun q e=>hc3.block q (O2.out.lt q e).2 fun hq=>HDI.out q hq e) hzr
    have HDI3:Hid (∀ q,F3 q→(Value.slice a2 ys.length c2).ownBlock≠some q):=fun q hq e=>(hn3 q hq).elim (fun z=>HDI.out q z e) fun z=>by
     have:=(O2.out.lt q e).2
     omega
    have HBS:Hid (begStep P sk ys=(P.add sk.1 ys,if errOf (takenK ys (litsN (P.vw sk.1).hv))=0 then sk.2++[ys] else sk.2)):=rfl
    clear hnx hx3 hc3 hn3 HAD X2 B2 O2 HDI HTK
    generalize errOf (takenK ys (litsN (P.vw sk.1).hv))=er at *
    by_cases her:er=0
    ·subst her
     have HST2:Hid (begK P s0 cls (k+1)=(P.add sk.1 ys,sk.2++[ys])):=by show _=_;rw[HST.out,HBS.out,if_pos rfl]
     have d1:Hid (sk.2.length+1≤maxLen):=by show _≤_;unfold maxLen;omega
     have d2:Hid ((sk.2.length+1)*24≤140737488355328):=by show _≤_;omega
     go_wp2_with (at_builtin;refine wpList_append_full _ rfl _ _ 22 rfl w0.heap.size 23 i1 (.slice none 0 0) 24 Tryd.undLists gi gz0 gz1 gz2 rfl (.slice ta sk.2.length tc) sk.2.length vs rfl (X3.out.top.alloc _) ⟨w3.heap.size,0,none⟩ 1 1 [.slice a2 ys.length c2] rfl rfl (new_cells1 w3 [.slice a2 ys.length c2] 23) (by intro u hu;simp at hu;subst hu;rfl) (by decide) d1.out d2.out (by simp;omega) (w3.heap.size+1) (by simp) ?_;intro a4 c4 w4 hown4 hg4 hl4)
     have X4:=hide (X3.out.push O3.out HDI3.out hg4 hown4 hl4 (by omega))
     have B4:Hid (Below w0.heap.size w0 w4):=(B3.out.alloc B3.out.size _).grown hg4 (B3.out.alloc B3.out.size _).size (fun q hq=>(X3.out.top.lt q hq).1)
     clear hown4 hg4 hl4
     go_roundw
     case rel=>exact⟨k+1,F3,a4,c4,vs++[.slice a2 ys.length c2],by omega,by omega,by go_num,by rw[HST2.out];simp,by rw[HST2.out];exact X4,B4⟩
     case measure=>simp[intOf];omega
    ·have HST2:Hid (begK P s0 cls (k+1)=(P.add sk.1 ys,sk.2)):=by show _=_;rw[HST.out,HBS.out,if_neg her]
     go_wp2
     go_roundw
     case rel=>exact⟨k+1,F3,ta,tc,vs,by omega,by omega,by go_num,by rw[HST2.out],by rw[HST2.out];exact X3,B3⟩
     case measure=>simp[intOf];omega
   ·obtain rfl:k=40:=by omega
    have HEQ:=hide (HE.out 40 hk (.inl rfl))
    clear HE HTK HS0 HL0
    generalize begK P s0 cls 40=sk at *
    have R9:=hide (row_below RT.out BB.out)
    have f0:wr.cell? ⟨w.heap.size+1,0,none⟩=some (.pointer none):=(R9.out.cell 0).trans rfl
    have f1:wr.cell? ⟨w.heap.size+1,1,none⟩=some (.slice none 0 0):=(R9.out.cell 1).trans rfl
    have f2:wr.cell? ⟨w.heap.size+1,2,none⟩=some (.bool false):=(R9.out.cell 2).trans rfl
    have z0:=R9.out.frozen 0
    have z1:=R9.out.frozen 1
    have z2:=R9.out.frozen 2
    have E9:=hide (beg_end X.out (T:=w.heap.size+1) (by omega) (BW.out.trans (BB.out.mono (by omega))) (by omega) (.pointer (some ⟨g,0,none⟩)) (.slice ta sk.2.length tc) (.bool true))
    go_wp2
    refine bodyPost_ret (begun_ret (((R9.out.set 0 _).set 1 _).set 2 _) rfl) rfl ?_
    rw[HEQ.out]
    exact⟨g,F,ta,tc,vs,rfl,E9.out.1.low (by omega),E9.out.2⟩
  ·obtain rfl:k=cls.length:=by omega
   have HEQ:=hide (HE.out cls.length hk (.inr ⟨rfl,hk40⟩))
   clear HE HTK HS0 HL0
   generalize begK P s0 cls cls.length=sk at *
   have R9:=hide (row_below RT.out BB.out)
   have f0:wr.cell? ⟨w.heap.size+1,0,none⟩=some (.pointer none):=(R9.out.cell 0).trans rfl
   have f1:wr.cell? ⟨w.heap.size+1,1,none⟩=some (.slice none 0 0):=(R9.out.cell 1).trans rfl
   have f2:wr.cell? ⟨w.heap.size+1,2,none⟩=some (.bool false):=(R9.out.cell 2).trans rfl
   have z0:=R9.out.frozen 0
   have z1:=R9.out.frozen 1
   have z2:=R9.out.frozen 2
   have E9:=hide (beg_end X.out (T:=w.heap.size+1) (by omega) (BW.out.trans (BB.out.mono (by omega))) (by omega) (.pointer (some ⟨g,0,none⟩)) (.slice ta sk.2.length tc) (.bool true))
   go_wp2
   refine bodyPost_ret (begun_ret (((R9.out.set 0 _).set 1 _).set 2 _) rfl) rfl ?_
   rw[HEQ.out]
   exact⟨g,F,ta,tc,vs,rfl,E9.out.1.low (by omega),E9.out.2⟩
def pickK(c:Int)(n:Nat):Nat:=((if c<0 then -(c+1) else c) % (n:Int)).toNat
def soB(v:Nat)(x:Int):Bool:=litB x && (if 0<x then v.testBit (x.toNat - 1) else !(v.testBit ((-x).toNat - 1)))
theorem and_one(v k:Nat)(hv:v<1024):bits .and .i64 ((v:Int) / 2^k) 1=(((v.testBit k).toNat:Nat):Int):=by
 have h1:((v:Int) / 2^k)=((v / 2^k:Nat):Int):=by rw[Int.natCast_ediv,Int.natCast_pow];rfl
 have h2:v / 2^k≤v:=Nat.div_le_self _ _
 have h3:bits .and .i64 ((v / 2^k:Nat):Int) 1=((v / 2^k&&&1:Nat):Int):=and64 (v / 2^k) 1 (by omega) (by decide)
 rw[h1,h3,Nat.and_one_is_mod,Nat.toNat_testBit]
set_option maxHeartbeats 2000000 in
theorem pickK_any(c:Int)(w:World)(h1:-9223372036854775808≤c)(h2:c≤9223372036854775807) :
  Calls Tryd.prog 19 #[.int .i64 c,.int .i64 1024] w fun e w'=>e=.returned (.int .i64 (pickK c 1024:Nat))∧w'=w:=by
 by_cases hc:c<0
 ·have e:Hid (((pickK c 1024:Nat):Int)=-(c+1) % 1024):=by
   show _=_
   unfold pickK
   rw[if_pos hc]
   have:=Int.emod_nonneg (-(c+1)) (show(1024:Int)≠0 by omega)
   omega
  have t1:Hid (Int.tmod (-(c+1)) 1024=-(c+1) % 1024):=by show _=_;exact Int.tmod_eq_emod_of_nonneg (by omega)
  go_enter Tryd.func19,Tryd.ntmps19
  go_wp2
  go_ret
  refine⟨ret_int ?_,rfl⟩
  rw[e.out,← t1.out,Int.neg_tmod]
 ·have e:Hid (((pickK c 1024:Nat):Int)=c % 1024):=by
   show _=_
   unfold pickK
   rw[if_neg hc]
   have:=Int.emod_nonneg c (show(1024:Int)≠0 by omega)
   omega
  have t1:Hid (Int.tmod c 1024=c % 1024):=by show _=_;exact Int.tmod_eq_emod_of_nonneg (by omega)
  go_enter Tryd.func19,Tryd.ntmps19
  go_wp2
  go_ret
  refine⟨ret_int ?_,rfl⟩
  rw[e.out]
  first | done | exact t1.out | rw[← t1.out]
set_option maxHeartbeats 1000000 in
theorem pickG_any(c:Int)(n:Nat)(hn:0<n)(hn2:n≤4611686018427387904)(w:World)(h1:-9223372036854775808≤c)(h2:c≤9223372036854775807) :
  Calls Tryd.prog 19 #[.int .i64 c,.int .i64 n] w fun e w'=>e=.returned (.int .i64 (pickK c n:Nat))∧w'=w:=by
 have hz:((n:Int) == 0)=false:=by simp;omega
 have hz':(n:Int)≠0:=by omega
 by_cases hc:c<0
 ·have e:Hid (((pickK c n:Nat):Int)=-(c+1) % (n:Int)):=by
   show _=_
   unfold pickK
   rw[if_pos hc]
   have:=Int.emod_nonneg (-(c+1)) hz'
   omega
  have t1:Hid (Int.tmod (-(c+1)) n=-(c+1) % (n:Int)):=by show _=_;exact Int.tmod_eq_emod_of_nonneg (by omega)
  have b1:=Int.emod_nonneg (-(c+1)) hz'
  have b2:=Int.emod_lt_of_pos (-(c+1)) (show(0:Int)<n by omega)
  have t2:IntKind.i64.wrap (Int.tmod (-(c+1)) n)=-(c+1) % (n:Int):=by rw[t1.out,IntKind.wrap_i64];omega
  go_enter Tryd.func19,Tryd.ntmps19
  go_wp2
  go_ret
  refine⟨ret_int ?_,rfl⟩
  rw[e.out,← t1.out,Int.neg_tmod]
 ·have e:Hid (((pickK c n:Nat):Int)=c % (n:Int)):=by
   show _=_
   unfold pickK
   rw[if_neg hc]
   have:=Int.emod_nonneg c hz'
   omega
  have t1:Hid (Int.tmod c n=c % (n:Int)):=by show _=_;exact Int.tmod_eq_emod_of_nonneg (by omega)
  go_enter Tryd.func19,Tryd.ntmps19
  go_wp2
  go_ret
  refine⟨ret_int ?_,rfl⟩
  rw[e.out]
  first | done | exact t1.out | rw[← t1.out]
theorem pick_lt(c:Int)(n:Nat)(hn:0<n):pickK c n<n:=by
 unfold pickK
 have h1:=Int.emod_lt_of_pos (if c<0 then -(c+1) else c) (show(0:Int)<n by omega)
 have h2:=Int.emod_nonneg (if c<0 then -(c+1) else c) (show(n:Int)≠0 by omega)
 omega
theorem stgType:∃ fs,Tryd.prog.underlying 54=some (.struct fs):=by
 have h:(Tryd.prog.underlying 54).map isStruct=some true:=by kernel_rfl
 cases hu:Tryd.prog.underlying 54 with
 | none=>rw[hu] at h;simp at h
 | some d =>
  rw[hu] at h
  cases d with
  | struct fs=>exact⟨fs,rfl⟩
  | _=>simp[isStruct] at h
theorem stgSize:(Tryd.prog.info? 54).map (·.size)=some 3:=by kernel_rfl
theorem wide_ret{w':World}{tmps:Array Value}{g:Nat}{p q x:Value}(hr:Row w' g 54 [p,q,x])(h2:tmps.getD 0 undef=.pointer (some ⟨g,0,none⟩)) :
  (results Tryd.f27 tmps).run Tryd.prog w'=.ok (.agg #[p,q,x]) w':=by
 obtain⟨fs,hu⟩:=stgType
 exact results_cell_row rfl tmps w' g 54 #[p,q,x] (0,0) (.struct fs) h2 hr hu rfl stgSize
theorem wide_any(w:World):Calls Tryd.prog 27 #[] w fun e w'=>e=.returned (.agg #[.int .i64 0,.int .i64 1048576,.int .i64 1048576])∧Below w.heap.size w w':=by
 have B0:=hide ((Below.refl w.heap.size w).alloc (Nat.le_refl _) (.cells #[.int .i64 0,.int .i64 1048576,.int .i64 1048576] 54))
 have R0:Hid (Row (w.alloc (.cells #[.int .i64 0,.int .i64 1048576,.int .i64 1048576] 54)) w.heap.size 54 [.int .i64 0,.int .i64 1048576,.int .i64 1048576]):=heap_alloc_new w _
 go_enter Tryd.func27,Tryd.ntmps27
 go_wp2
 exact bodyPost_ret (wide_ret R0.out rfl) rfl ⟨rfl,B0.out⟩
theorem widely_ret{w':World}{tmps:Array Value}{g:Nat}{p q x:Value}(hr:Row w' g 26 [p,q,x])(h2:tmps.getD 2 undef=.pointer (some ⟨g,0,none⟩)) :
  (results Tryd.f10 tmps).run Tryd.prog w'=.ok (.agg #[p,q,x]) w':=by
 obtain⟨fs,hu⟩:=trialType
 exact results_cell_row rfl tmps w' g 26 #[p,q,x] (0,0) (.struct fs) h2 hr hu rfl trialSize
set_option maxHeartbeats 2000000 in
theorem widely_any(P:Prg)(a:Option Addr)(c:Nat)(A:Nat→Option Addr)(C:Nat→Nat)(cls:List (List Int))(w:World)(hr:RowsAt w a A C cls)(hcl:cls.length≤9223372036854775807) :
  Calls Tryd.prog 10 #[.slice a cls.length c] w (BegPost P w (begL P (P.new 0 1048576 1048576) (begC cls)).1 (begL P (P.new 0 1048576 1048576) (begC cls)).2):=by
 have HB:Hid (∀ w',Below w.heap.size w w'→Calls Tryd.prog 26 #[.agg #[.int .i64 0,.int .i64 1048576,.int .i64 1048576],.slice a cls.length c] w' (BegPost P w' (begL P (P.new 0 1048576 1048576) (begC cls)).1 (begL P (P.new 0 1048576 1048576) (begC cls)).2)):=fun w' hb=>begun_any P 0 1048576 1048576 (by decide) a c A C cls w' (hr.below hb) hcl
 have B0:=hide ((Below.refl w.heap.size w).alloc (Nat.le_refl _) (.cells #[.pointer none,.slice none 0 0,.bool false] 26))
 have R0:Hid (Row (w.alloc (.cells #[.pointer none,.slice none 0 0,.bool false] 26)) w.heap.size 26 [.pointer none,.slice none 0 0,.bool false]):=heap_alloc_new w _
 generalize begL P (P.new 0 1048576 1048576) (begC cls)=sk at *
 have HW:Hid (∀ w,Calls Tryd.prog 27 #[] w fun e w'=>e=.returned (.agg #[.int .i64 0,.int .i64 1048576,.int .i64 1048576])∧Below w.heap.size w w'):=fun w=>wide_any w
 clear hr
 go_enter Tryd.func10,Tryd.ntmps10
 go_wp2_with fail
 refine(unhide HW _).mono ?_
 generalize w.alloc (.cells #[.pointer none,.slice none 0 0,.bool false] 26)=w0 at *
 rintro e w1 ⟨rfl,hb1⟩
 have hbA:=(Below.refl w1.heap.size w1).alloc (Nat.le_refl _) (.cells #[.int .i64 0,.int .i64 1048576,.int .i64 1048576] 54)
 have b1:Below w.heap.size w (w1.alloc (.cells #[.int .i64 0,.int .i64 1048576,.int .i64 1048576] 54)):=(B0.out.trans (hb1.mono B0.out.size)).trans (hbA.mono (Nat.le_trans B0.out.size hb1.size))
 have R1:=hide (row_below (row_below R0.out hb1) hbA)
 have HB1:=hide (HB.out _ b1)
 have B1:=hide b1
 clear hb1 hbA b1 HB
 go_wp2_with fail
 refine(unhide HB1).mono ?_
 generalize w1.alloc (.cells #[.int .i64 0,.int .i64 1048576,.int .i64 1048576] 54)=w2 at *
 rintro e w3 ⟨g,F,ta,tc,vs,rfl,hx,hb3⟩
 have hT:w.heap.size<w2.heap.size:=R1.out.lt
 have R3:=hide (row_below R1.out hb3)
 have f0:w3.cell? ⟨w.heap.size,0,none⟩=some (.pointer none):=(R3.out.cell 0).trans rfl
 have f1:w3.cell? ⟨w.heap.size,1,none⟩=some (.slice none 0 0):=(R3.out.cell 1).trans rfl
 have f2:w3.cell? ⟨w.heap.size,2,none⟩=some (.bool false):=(R3.out.cell 2).trans rfl
 have z0:=R3.out.frozen 0
 have z1:=R3.out.frozen 1
 have z2:=R3.out.frozen 2
 have E9:=hide (beg_end hx hT (B1.out.trans (hb3.mono B1.out.size)) (Nat.le_refl _) (.pointer (some ⟨g,0,none⟩)) (.slice ta sk.2.length tc) (.bool true))
 clear hx hb3
 go_wp2
 exact bodyPost_ret (widely_ret (((R3.out.set 0 _).set 1 _).set 2 _) rfl) rfl ⟨g,F,ta,tc,vs,rfl,E9.out.1.low (by omega),E9.out.2⟩
end Go.Proofs.YthboeppmlhbofabDoor
