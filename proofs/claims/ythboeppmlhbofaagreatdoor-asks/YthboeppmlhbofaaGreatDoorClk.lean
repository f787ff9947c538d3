import Derived.Test.YthboeppmlhbofaaGreatDoorClh
import Derived.Test.YthboeppmlhbofaaGreatDoorDcd
import Derived.Test.YthboeppmlhbofaaGreatDoorSps
import Derived.Test.YthboeppmlhbofaaGreatDoorRdd
namespace Go.Proofs.YthboeppmlhbofaaGreatDoor
open Go.RowKit Txt
set_option maxRecDepth 100000
theorem Zo(cls:List (List Int))(k:Nat)(hv:List Nat)(lits:Nat)(h:k<cls.length):He (cls.drop k) hv lits k=match Aw (cls.getD k []) lits with
  | .lit=>.inl (4,k)
  | .full=>.inl (5,k)
  | .taut=>He (cls.drop (k+1)) hv lits (k+1)
  | .takes=>He (cls.drop (k+1)) (hv++[Ah (cls.getD k [])]) (lits+AG (Ah (cls.getD k []))) (k+1):=by
 rw[List.drop_eq_getElem_cons h,List.getD_eq_getElem?_getD,List.getElem?_eq_getElem h]
 rfl
theorem SM{xs:List Int}{lits:Nat}(h:Aw xs lits=.takes):xs.all AT=true∧lits+AG (Ah xs)≤150:=by
 unfold Aw at h
 split at h
 ·rename_i ha
  refine⟨ha,?_⟩
  split at h
  ·simp at h
  ·split at h
   ·simp at h
   ·omega
 ·simp at h
set_option maxHeartbeats 4000000 in
theorem TD(a:Option Addr)(c:Nat)(A:Nat→Option Addr)(C:Nat→Nat)(cls:List (List Int))(s:ByteArray)(w:World)(hr:CC w a A C cls)(hcl:cls.length≤100000000)(hsz:s.size≤4611686018427387904) :
  Calls Tryz.prog 58 #[.slice a cls.length c,.string s] w (LX w.heap.size w (IL cls (bs s))):=by
 by_cases hbig:4194304<s.size
 ·have HE:Hid (IL cls (bs s)=([],2,0)):=by show _=_;unfold IL;rw[Aa,if_pos hbig]
  generalize IL cls (bs s)=R at *
  have hbi:((s.size:Int) > 4194304):=by omega
  clear hr
  go_enter Tryz.func58,Tryz.ntmps58
  go_wp2
  go_ret3
  rw[HE.out]
  exact⟨Below.refl _ _,none,0,rfl,rfl,.inl ⟨rfl,rfl⟩⟩
 ·have HE:Hid (IL cls (bs s)=match He cls [] 0 0 with | .inl (e,i)=>([],e,i) | .inr hv=>aC (bs s) (s.size+1) hv 0 0 0 []):=by show _=_;unfold IL;rw[Aa,if_neg hbig];rfl
  generalize IL cls (bs s)=R at *
  have hbi:¬ ((s.size:Int) > 4194304):=by omega
  obtain⟨i0,hi0,hy0,hy1,hy2⟩:=info_parts Tryz.infoInt
  have HR:=AB hr
  have HB0:Hid (Below w.heap.size w w):=Below.refl _ _
  have HX0:Hid (w.ownsRow w.heap.size 3 1 (.slice none 0 0) 0 (AO (A8 []))):=⟨rfl,.inl ⟨rfl,rfl⟩⟩
  have HT0:Hid (∀ c∈([]:List Nat),c<1048576):=fun c h=>by simp at h
  generalize htk:He cls [] 0 0=TK at HE
  have HTK:=AB htk
  clear hr htk
  go_enter Tryz.func58,Tryz.ntmps58
  go_wp2_with fail
  go_loopw [7,8,9] (fun x7 x8 x9 wr=>∃ (k lits:Nat) (hv:List Nat) (a1:Option Addr) (c1:Nat),k≤cls.length∧lits≤150∧hv.length≤k∧x7=.slice a1 hv.length c1∧x8=.int .i64 lits∧x9=.int .i64 k∧Hid (wr.ownsRow w.heap.size 3 1 (.slice a1 hv.length c1) hv.length (AO (A8 hv)))∧Hid (∀ c∈hv,c<1048576)∧Hid (Below w.heap.size w wr)∧Hid (He (cls.drop k) hv lits k=TK)) (fun _ _ x9 _=>cls.length - (intOf x9).toNat)
  case atStart=>exact⟨0,0,[],none,0,Nat.zero_le _,by omega,Nat.le_refl _,rfl,rfl,rfl,HX0,HT0,HB0,HTK⟩
  case round =>
   clear HX0 HT0 HB0 HTK
   obtain⟨k,lits,hv,a1,c1,hk,hli,hvl,rfl,rfl,rfl,HO,HT,HB,HK⟩:=hrel
   have hzr:w.heap.size≤wr.heap.size:=HB.out.size
   by_cases hlt:k<cls.length
   ·have hkk:=HK.out
    rw[Zo cls k hv lits hlt] at hkk
    obtain⟨b,off,rfl,hc⟩:=(NV HR.out HB.out).get (by omega)
    obtain⟨q0,q1,q2⟩:=hc k hlt
    generalize cls.getD k []=xs at *
    generalize A k=ak at *
    generalize C k=ck at *
    have HTA:=AB (Ll ak ck xs lits wr q2 (by omega) q1)
    have HTT:Hid (Aw xs lits=.takes→xs.all AT=true∧lits+AG (Ah xs)≤150):=fun h=>SM h
    have hlx:xs.all AT=true→Ah xs<1048576:=fun h=>Pq xs h
    have HSL:=AB hlx
    have i1:(0:Int)≤(k:Int):=by omega
    have i2:(k:Int)<(cls.length:Int):=by omega
    have hmono:Hid (∀ w',Below wr.heap.size wr w'→True):=fun _ _=>trivial
    generalize Aw xs lits=TA at *
    have HKK:=AB hkk
    clear hc q1 hkk hlx hmono
    go_wp2_with fail
    refine(AE HTA).mono ?_
    rintro e w2 ⟨rfl,hw⟩
    obtain rfl:=hw.symm
    clear HTA
    cases TA with
    | lit =>
     simp only[Tk.ret]
     have HE2:=HE.out
     have hk2:=HKK.out
     simp only at hk2
     rw[← hk2] at HE2
     simp only at HE2
     have HE3:=AB HE2
     clear HE2 hk2 HKK
     go_wp2
     go_ret3
     rw[HE3.out]
     exact⟨HB.out,none,0,rfl,rfl,.inl ⟨rfl,rfl⟩⟩
    | full =>
     simp only[Tk.ret]
     have HE2:=HE.out
     have hk2:=HKK.out
     simp only at hk2
     rw[← hk2] at HE2
     simp only at HE2
     have HE3:=AB HE2
     clear HE2 hk2 HKK
     go_wp2
     go_ret3
     rw[HE3.out]
     exact⟨HB.out,none,0,rfl,rfl,.inl ⟨rfl,rfl⟩⟩
    | taut =>
     simp only[Tk.ret]
     have hk2:=HKK.out
     simp only at hk2
     have HK2:=AB hk2
     clear hk2 HKK
     go_wp2
     go_roundw
     case rel=>exact⟨k+1,lits,hv,a1,c1,by omega,hli,by omega,rfl,rfl,by go_num,HO,HT,HB,HK2⟩
     case measure=>simp[intOf];omega
    | takes =>
     simp only[Tk.ret]
     have hk2:=HKK.out
     simp only at hk2
     have HK2:=AB hk2
     obtain⟨hal,hl150⟩:=HTT.out rfl
     have hsx:=HSL.out hal
     have HSZ:Hid (∀ w,Calls Tryz.prog 34 #[.int .i64 (Ah xs:Nat)] w fun e w'=>e=.returned (.int .i64 (AG (Ah xs):Nat))∧w'=w):=fun w=>Fu (Ah xs) hsx w
     have HTN:Hid (∀ c∈hv++[Ah xs],c<1048576):=by
      intro c hc
      rcases List.mem_append.1 hc with hc | hc
      ·exact HT.out c hc
      ·simp at hc;subst hc;exact hsx
     generalize Ah xs=sx at *
     generalize AG sx=zx at *
     have d1:Hid (hv.length+1≤maxLen):=by show _≤_;unfold maxLen;omega
     have d2:Hid ((hv.length+1)*8≤140737488355328):=by show _≤_;omega
     clear hk2 HKK HTT HSL hal
     go_wp2_with (first
      | (go_at_call 34;refine(AE HSZ _).mono ?_;rintro e w' ⟨rfl,hw⟩;obtain rfl:=hw.symm)
      | (at_builtin;refine Ap _ rfl _ _ 24 rfl w.heap.size 3 i0 (.int .i64 0) 8 Tryz.undInts hi0 hy0 hy1 hy2 rfl (.slice a1 hv.length c1) hv.length (AO (A8 hv)) rfl (HO.out.alloc _) ⟨wr.heap.size,0,none⟩ 1 1 [.int .i64 (sx:Int)] rfl rfl (AH wr [.int .i64 (sx:Int)] 3) (by intro u hu;simp at hu;subst hu;rfl) (by decide) d1.out d2.out (by simp;omega) (wr.heap.size+1) (by simp) ?_;intro a4 c4 w4 hown4 hg4 hl4))
     have O4:Hid (w4.ownsRow w.heap.size 3 1 (.slice a4 (hv.length+1) c4) (hv.length+1) (AO (A8 (hv++[sx])))):=(show AO (A8 hv)++[Value.int .i64 (sx:Int)]=AO (A8 (hv++[sx])) by simp[AO,A8]) ▸ hown4
     have B4:Hid (Below w.heap.size w w4):=(HB.out.alloc hzr _).grown hg4 (by simp;omega) (fun j hj=>(HO.out.lt j hj).1)
     clear hown4 hg4 hl4
     go_roundw
     case rel=>exact⟨k+1,lits+zx,hv++[sx],a4,c4,by omega,by omega,by simp;omega,by simp,by go_num,by go_num,by rw[List.length_append];exact O4,HTN,B4,HK2⟩
     case measure=>simp[intOf];omega
   ·obtain rfl:k=cls.length:=by omega
    have hkk:=HK.out
    rw[List.drop_length] at hkk
    simp only[He] at hkk
    have HE2:=HE.out
    rw[← hkk] at HE2
    simp only at HE2
    have HE3:=AB HE2
    have HL:=AB (WK w.heap.size a1 c1 hv s wr hzr HO.out HT.out (by omega) (by omega))
    clear hkk HE2 HK
    go_wp2_with fail
    refine(AE HL).mono ?_
    rintro e w3 ⟨hb3,a3,c3,rfl,ho3⟩
    have B3:Hid (Below w.heap.size w w3):=HB.out.trans hb3
    have O3:=AB ho3
    clear hb3 ho3 HL
    generalize aC (bs s) (s.size+1) hv 0 0 0 []=CR at *
    go_wp2
    go_ret3
    refine⟨B3.out,a3,c3,?_,?_⟩
    ·rw[HE3.out];rfl
    ·rw[HE3.out];exact O3.out
theorem aR(l:List UInt8):∀ (m:Nat) (ns:List Nd) (p n lt:Nat) (xs:List Int),xs.length≤l.length→(J5 l m ns p n lt xs).1.length≤l.length:=by
 intro m
 induction m with
 | zero=>intro ns p n lt xs _;simp[J5]
 | succ m ih =>
  intro ns p n lt xs hx
  simp only[J5]
  split
  ·cases hr:Bw l p with
   | none=>simp
   | some r =>
    obtain⟨lt',xs',q⟩:=r
    obtain⟨h1,h2,h3⟩:=Lj hr
    simp only
    split
    ·simp
    ·exact ih _ _ _ _ _ (by omega)
  ·split
   ·simp
   ·exact hx
theorem ON(cls:List (List Int))(l:List UInt8):(D0 cls l).1.length≤l.length:=by
 unfold D0
 split
 ·simp
 ·cases Ih cls [] 0 0 with
  | inl r=>simp
  | inr r=>exact aR l _ _ _ _ _ _ (by simp)
def eB(B:Nat)(w:World)(xs:List Int)(e:Ending)(w':World):Prop:=Below B w w'∧∃ a c,e=.returned (.tuple #[.slice a xs.length c,.bool true])∧w'.ownsRow B 3 1 (.slice a xs.length c) xs.length (AO xs)
theorem Oc{w w':World}{B e n:Nat}{v:Value}{xs:List Value}(h:w.ownsRow B e 1 v n xs)(hk:∀ b,v.ownBlock=some b→w'.heap[b]?=w.heap[b]?):w'.ownsRow B e 1 v n xs:=by
 refine⟨h.1,?_⟩
 rcases h.2 with hn | ⟨g,cap,cur,rfl,q1,hg,r⟩
 ·exact .inl hn
 ·exact .inr ⟨g,cap,cur,rfl,q1,(hk g rfl).trans hg,r⟩
set_option maxHeartbeats 2000000 in
theorem QS(a:Option Addr)(c:Nat)(A:Nat→Option Addr)(C:Nat→Nat)(cls:List (List Int))(s:ByteArray)(w:World)(hbd:cls.length≤100000000)(hs:s.size≤4294967296)(hr:CC w a A C cls)(hlens:Hid (∀ x∈cls,x.length≤4294967296)) :
  Calls Tryz.prog 29 #[.slice a cls.length c,.string s] w (eB w.heap.size w (D0 cls (bs s)).1):=by
 have hsame:=TG cls (bs s)
 have hlen:=ON cls (bs s)
 rw[Aa] at hlen
 have H0:=AB (IY a c A C cls w (by omega) hr hlens)
 have HCK:Hid (∀ (A1:Nat→Option Addr) (C1:Nat→Nat) (w1:World) (a1:Option Addr) (c1:Nat),CC w1 a1 A1 C1 cls→Calls Tryz.prog 57 #[.slice a1 cls.length c1,.string s] w1 (LX w1.heap.size w1 (D0 cls (bs s)))):=fun A1 C1 w1 a1 c1 h1=>TE a1 c1 A1 C1 cls s w1 h1 (by omega) (by omega)
 have HRK:Hid (∀ (w1:World),CC w1 a A C cls→Calls Tryz.prog 58 #[.slice a cls.length c,.string s] w1 (LX w1.heap.size w1 (D0 cls (bs s)))):=fun w1 h1=>by rw[hsame];exact TD a c A C cls s w1 h1 hbd (by omega)
 have HR:=AB hr
 generalize D0 cls (bs s)=R at *
 obtain⟨xs,er,ln⟩:=R
 simp only at hlen HCK HRK ⊢
 have hp:((er:Int) == er)=true:=beq_self_eq_true _
 have hq:(((ln:Nat):Int) == (ln:Int))=true:=beq_self_eq_true _
 clear hr hsame
 go_enter Tryz.func29,Tryz.ntmps29
 go_wp2_with fail
 refine(AE H0).mono ?_
 rintro e w1 ⟨G,gs,gl,rfl,hsp,hb1⟩
 obtain⟨A1,C1,hr1⟩:=hsp.rows hlens.out
 have H1:=AB (HCK.out A1 C1 w1 (some ⟨G,0,none⟩) (cls.length+1) hr1)
 have hz1:w.heap.size≤w1.heap.size:=hb1.size
 clear hr1 H0 HCK
 go_wp2_with fail
 refine(AE H1).mono ?_
 rintro e w2 ⟨hb2,a2,c2,rfl,ho2⟩
 have hb2':Below w.heap.size w w2:=hb1.trans (hb2.mono hz1)
 have hgl:∀ g∈gs,g<w1.heap.size:=hsp.each.lt
 have H2:=AB (LI w.heap.size G gl gs a c A C cls w w2 (by omega) (hsp.below hb2) rfl hb2' HR.out hlens)
 have O2:=AB ho2
 have GL:=AB hgl
 have B2:=AB hb2'
 clear hb1 hb2 hsp H1 ho2 hgl hb2'
 go_wp2_with fail
 refine(AE H2).mono ?_
 rintro e w3 ⟨⟨rfl,hb3⟩,hz3,hk3⟩
 have O3:Hid (w3.ownsRow w1.heap.size 3 1 (.slice a2 xs.length c2) xs.length (AO xs)):=Oc O2.out (fun b hb=>hk3 b (fun g hg e=>by have h1:=(O2.out.lt b hb).1;have h2:=GL.out g hg;omega) (O2.out.lt b hb).2)
 have B3:=AB hb3
 have H3:=AB (HRK.out w3 (HR.out.below hb3))
 clear hb3 hk3 H2 O2 B2 GL HRK
 go_wp2_with fail
 refine(AE H3).mono ?_
 rintro e w4 ⟨hb4,a4,c4,rfl,ho4⟩
 have O4:=AB (AK O3.out hb4)
 have B4:Hid (Below w.heap.size w w4):=B3.out.trans (hb4.mono B3.out.size)
 have h5:=FE a2 a4 c2 c4 xs xs w4 (by omega) (BF O4.out) (BF ho4)
 rw[show Hq xs xs=true by simp[Hq]] at h5
 have H5:=AB h5
 clear hb4 ho4 h5 H3 O3 B3
 go_wp2_with fail
 refine(AE H5).mono ?_
 rintro e w5 ⟨rfl,m5,rfl⟩
 go_wp2_with (go_at_call 33;refine(G8 _ _).mono ?_;rintro e w' ⟨rfl,hw⟩;obtain rfl:=hw.symm)
 go_ret2
 exact⟨below_drewN B4.out _,a2,c2,rfl,AK (BO O4.out hz1) (Ef _ _)⟩
def Dp:List FO→List Int
 | []=>[]
 | p :: ps=>match ps with
  | []=>p.2
  | _=>Dp ps
def Cb(ls:List FO):Bool:=ls.any fun p=>p.1 == 101
theorem Zv{b:UInt8}(h:b.toNat=101):b=101:=UInt8.toNat_inj.1 h
theorem Iy:∀ (ls:List FO) (p:FO),Dp (ls++[p])=p.2:=by
 intro ls
 induction ls with
 | nil=>intro p;rfl
 | cons q ls ih =>
  intro p
  have:=ih p
  cases ls with
  | nil=>rfl
  | cons r ls=>exact this
theorem Jt(ls:List FO)(p:FO):Cb (ls++[p])=(Cb ls || p.1 == 101):=by simp[Cb]
theorem GF(j:JV)(ls:List FO)(p:FO):Ag j (ls++[p])=Bh (Ag j ls) p:=by simp[Ag]
theorem OX(lt:UInt8)(xs:List Int):xs.all AT=true→xs.length+4≤(Bo lt xs).length:=by
 intro h
 have:xs.length≤(A6 xs).length:=by
  induction xs with
  | nil=>simp
  | cons x xs ih =>
   simp only[List.all_cons,Bool.and_eq_true] at h
   have:=ih h.2
   simp[A6,DJ] at this ⊢
   omega
 simp[Bo]
 omega
theorem Tl(j:JV):∀ (ls:List FO),(∀ p∈ls,p.2.all AT=true)→(Ag j ls).log≤j.log+(BY ls).length∧(Ag j ls).held≤j.held+(BY ls).length∧(Ag j ls).st≤j.st+(BY ls).length∧(Ag j ls).lr.length≤j.lr.length+(BY ls).length:=by
 intro ls
 induction ls generalizing j with
 | nil=>intro _;simp[Ag,BY]
 | cons p ls ih =>
  intro h
  obtain⟨h1,h2,h3,h4⟩:=ih (Bh j p) (fun q hq=>h q (List.mem_cons_of_mem _ hq))
  have hl:=OX p.1 p.2 (h p (List.mem_cons_self ..))
  have e:Ag j (p :: ls)=Ag (Bh j p) ls:=rfl
  rw[e,JA,List.length_append]
  have k:(Bh j p).log=j.log+p.2.length+1∧(Bh j p).held≤j.held+p.2.length∧(Bh j p).st≤j.st+1∧(Bh j p).lr.length≤j.lr.length+1:=by
   unfold Bh
   split
   ·exact⟨rfl,Nat.le_refl _,Nat.le_refl _,by simp⟩
   ·split
    ·exact⟨rfl,by show j.held - p.2.length≤_;omega,Nat.le_add_right _ _,Nat.le_trans List.length_erase_le (Nat.le_add_right _ _)⟩
    ·exact⟨rfl,Nat.le_add_right _ _,Nat.le_add_right _ _,Nat.le_add_right _ _⟩
  omega
theorem IN{r h l:Int}{hv:List Nat}:∀ (ls:List FO) (j:JV),EO r h l hv j ls→∀ p∈ls,p.2.all AT=true:=by
 intro ls
 induction ls with
 | nil=>intro j _ p hp;simp at hp
 | cons q ls ih =>
  intro j h p hp
  rcases List.mem_cons.1 hp with rfl | hp
  ·exact h.1
  ·exact ih _ h.2.2.2 p hp
theorem Nz{r h l:Int}{hv:List Nat}{j:JV}{p:FO}(h0:PZ r h l hv j p):p.1.toNat=97∨p.1.toNat=100∨p.1.toNat=101:=by
 rcases h0.2 with h | h | h
 ·rw[h.1];decide
 ·rw[h.1];decide
 ·rw[h.1];decide
set_option maxHeartbeats 4000000 in
theorem XV(B:Nat)(d:SE)(t:ByteArray)(ls:List FO)(budget:Int)(w:World)(h:JS w B d)(hB:B≤w.heap.size)(ht:bs t=bs d.pf++BY ls)(hts:t.size≤4194304)
  (hbd:d.log≤2000000∧d.held≤2000000∧d.lr.length≤2000000) (hok:EO d.r d.h d.l d.hv ⟨d.lr,d.held,d.log,0⟩ ls)
  (hpr:∀ w',Below w.heap.size w w'→Calls Tryz.prog 38 #[.pointer (some ⟨d.gx,0,none⟩)] w' fun e w''=>e=.returned (.string t)∧Below w'.heap.size w' w'') :
  Calls Tryz.prog 44 #[.pointer (some ⟨d.cb,0,none⟩),.int .i64 budget] w fun e w'=>∃ al cl a c,e=.returned (.tuple #[.slice a (Dp ls).length c,.bool (Cb ls),.bool (budget == 0 || decide (((Ag ⟨d.lr,d.held,d.log,0⟩ ls).st:Int)≤budget))]) ∧
   JS w' B { d.put (Ag ⟨d.lr,d.held,d.log,0⟩ ls) al cl with pf:=t }∧AS w' a (Dp ls)∧(∀ g,a=some g→w.heap.size≤g.block)∧CM d.Own w w'∧∀ b,(d.put (Ag ⟨d.lr,d.held,d.log,0⟩ ls) al cl).Own b→d.Own b∨w.heap.size≤b:=by
 have hlen:t.size=d.pf.size+(BY ls).length:=by rw[← Aa,ht,List.length_append,Aa]
 have hpe:(t.extract 0 d.pf.size).toList=d.pf.toList:=by
  rw[GN,GN,Ei,ht,List.drop_zero,Nat.sub_zero,← Aa,List.take_left]
 have HP:=AB hpr
 have HJ:=AB h
 clear hpr h
 go_enter Tryz.func44,Tryz.ntmps44
 have c0:w.cell? ⟨d.cb,0,none⟩=some (.pointer (some ⟨d.gx,0,none⟩)):=(HJ.out.ji.blk.cell 0).trans rfl
 go_wp2_with fail
 refine(AE HP w (Below.refl _ _)).mono ?_
 rintro e w1 ⟨rfl,hb1⟩
 have J1:=AB (HJ.out.below hb1)
 have B1:=AB hb1
 have c13:w1.cell? ⟨d.cb,13,none⟩=some (.string d.pf):=(J1.out.ji.blk.cell 13).trans rfl
 have c14:w1.cell? ⟨d.cb,14,none⟩=some (.int .i64 (d.st:Nat)):=(J1.out.ji.blk.cell 14).trans rfl
 have z14:=J1.out.ji.blk.frozen 14
 have hnl:¬ (t.size<d.pf.size):=by omega
 have hnd:decide (t.size<d.pf.size)=false:=decide_eq_false hnl
 have hpb:((t.extract 0 d.pf.size).toList == d.pf.toList)=true:=by rw[hpe];exact beq_self_eq_true _
 have hpb':((t.extract 0 d.pf.size).toList != d.pf.toList)=false:=by rw[bne,hpb];rfl
 have JD:Hid (JS (w1.setCell ⟨d.cb,14,none⟩ (.int .i64 0)).drew B (d.put ⟨d.lr,d.held,d.log,0⟩ d.al d.cl)):=JS.below (w:=w1.setCell ⟨d.cb,14,none⟩ (.int .i64 0)) ⟨J1.out.ji.set 14 (.int .i64 0) rfl rfl ⟨rfl,rfl,rfl⟩ ⟨rfl,rfl,rfl⟩,J1.out.ap,J1.out.base⟩ (below_drewN (Below.refl _ _) 1)
 have CD:Hid (CM d.Own w (w1.setCell ⟨d.cb,14,none⟩ (.int .i64 0)).drew):=((CM.of B1.out).set d.cb 14 _ (.inl (.inl rfl))).below (below_drewN (Below.refl _ _) 1)
 have HOK:=AB hok
 have HLI:=AB (IN ls _ hok)
 have HT:=AB ht
 have HLN:=AB hlen
 clear hb1 c0 HP ht hok hpe hlen hpb'
 go_wp2_with fail
 go_region
 go_wp2_with fail
 generalize (w1.setCell ⟨d.cb,14,none⟩ (.int .i64 0)).drew=wi at *
 clear c13 c14 z14
 go_loopw [8,9,10] (fun x8 x9 x10 wr=>∃ (done rest:List FO) (al a:Option Addr) (cl c:Nat),Hid (ls=done++rest)∧x8=.int .i64 ((d.pf.size+(BY done).length:Nat):Int)∧x9=.slice a (Dp done).length c∧x10=.bool (Cb done)∧Hid (JS wr B (d.put (Ag ⟨d.lr,d.held,d.log,0⟩ done) al cl))∧Hid (AS wr a (Dp done))∧Hid (∀ g,a=some g→w.heap.size≤g.block∧¬ (d.put (Ag ⟨d.lr,d.held,d.log,0⟩ done) al cl).Own g.block)∧Hid (CM d.Own w wr)∧Hid (∀ b,(d.put (Ag ⟨d.lr,d.held,d.log,0⟩ done) al cl).Own b→d.Own b∨w.heap.size≤b)∧Hid (EO d.r d.h d.l d.hv (Ag ⟨d.lr,d.held,d.log,0⟩ done) rest)∧(Cb done=true→rest=[])) (fun x8 _ _ _=>t.size - (intOf x8).toNat)
 case atStart=>exact⟨[],ls,d.al,none,d.cl,0,rfl,by simp[BY],rfl,rfl,JD,.inl rfl,fun g e=>by simp at e,CD,fun b hb=>.inl hb,HOK,fun e=>by simp[Cb] at e⟩
 case round =>
  clear JD CD HOK J1 B1
  obtain⟨done,rest,al,a,cl,c,HLS,rfl,rfl,rfl,HJ2,HI,HFR,HC,HOW,HOK,hcl⟩:=hrel
  have HLD:Hid (t.size=d.pf.size+(BY done).length+(BY rest).length):=by
   show _=_
   rw[HLN.out,HLS.out]
   simp[BY]
   omega
  have hd1:=HLD.out
  have HLE:=AB (Tl ⟨d.lr,d.held,d.log,0⟩ done (fun q hq=>HLI.out q (by rw[HLS.out];exact List.mem_append_left _ hq)))
  cases rest with
  | nil =>
   have hat:¬ ((d.pf.size+(BY done).length:Nat)<t.size):=by simp only[BY,List.flatMap_nil,List.length_nil] at hd1;simp only[BY];omega
   have hls:done=ls:=by rw[HLS.out,List.append_nil]
   subst hls
   have R:=HJ2.out.ji.blk
   have c13:wr.cell? ⟨d.cb,13,none⟩=some (.string d.pf):=(R.cell 13).trans rfl
   have z13:wr.frozen? ⟨d.cb,13,none⟩=false:=R.frozen 13
   have RT:=R.set 13 (.string t)
   have JF:Hid (JS (wr.setCell ⟨d.cb,13,none⟩ (.string t)) B { d.put (Ag ⟨d.lr,d.held,d.log,0⟩ done) al cl with pf:=t }):=⟨HJ2.out.ji.set 13 (.string t) rfl rfl ⟨rfl,rfl,rfl⟩ ⟨rfl,rfl,rfl⟩,HJ2.out.ap,HJ2.out.base⟩
   have CF:Hid (CM d.Own w (wr.setCell ⟨d.cb,13,none⟩ (.string t))):=HC.out.set d.cb 13 _ (.inl (.inl rfl))
   have IF:Hid (AS (wr.setCell ⟨d.cb,13,none⟩ (.string t)) a (Dp done)):=by
    rcases HI.out with h0 | ⟨b,off,rfl,hc⟩
    ·exact .inl h0
    ·refine .inr ⟨b,off,rfl,fun j hj=>?_⟩
     exact(World.cell?_of_block (a:=⟨b,off+j,none⟩) (Below.heap_setCell wr ⟨d.cb,13,none⟩ _ b (fun e=>(HFR.out _ rfl).2 (.inl e)))).trans (hc j hj)
   have d14:(wr.setCell ⟨d.cb,13,none⟩ (.string t)).cell? ⟨d.cb,14,none⟩=some (.int .i64 ((Ag ⟨d.lr,d.held,d.log,0⟩ done).st:Nat)):=(RT.cell 14).trans rfl
   generalize hJN:Ag ⟨d.lr,d.held,d.log,0⟩ done=JN at *
   have HJN:=AB hJN
   clear R RT hd1 HLD HLE hJN
   have HEND:Hid (∀ w8,Below (wr.setCell ⟨d.cb,13,none⟩ (.string t)).heap.size (wr.setCell ⟨d.cb,13,none⟩ (.string t)) w8→JS w8 B { d.put JN al cl with pf:=t }∧AS w8 a (Dp done)∧(∀ g,a=some g→w.heap.size≤g.block)∧CM d.Own w w8∧∀ b,(d.put JN al cl).Own b→d.Own b∨w.heap.size≤b):=fun w8 hb=>⟨JF.out.below hb,IF.out.below hb,fun g e=>(HFR.out g e).1,CF.out.below hb,HOW.out⟩
   clear JF IF CF HFR HOW HC HI HJ2 HOK
   cases hb0:(budget == 0) with
   | true =>
    have HB0:=AB hb0
    go_wp2_with fail
    go_region
    go_wp2
    go_ret3
    have hJN:=HJN.out
    subst hJN
    exact⟨al,cl,a,c,by rw[HB0.out];rfl,HEND.out _ (below_drewN (Below.refl _ _) 1)⟩
   | false =>
    have HB0:=AB hb0
    go_wp2_with fail
    go_region
    go_wp2
    go_ret3
    have hJN:=HJN.out
    subst hJN
    exact⟨al,cl,a,c,by rw[HB0.out];rfl,HEND.out _ (below_drewN (Below.refl _ _) 1)⟩
  | cons p ps =>
   obtain⟨hpl,hpo,hpe,hpr⟩:=HOK.out
   have hcb:Cb done=false:=by
    cases hq:Cb done with
    | false=>rfl
    | true=>have:=hcl hq;simp at this
   have hll:=OX p.1 p.2 hpl
   rw[JA,List.length_append] at hd1
   have hat:(d.pf.size+(BY done).length:Nat)<t.size:=by omega
   have hrd:Bw (bs t) (d.pf.size+(BY done).length)=some (p.1.toNat,p.2,d.pf.size+(BY done).length+(Bo p.1 p.2).length):=by
    have:=Rm (bs d.pf++BY done) (BY ps) p.1 p.2 hpl (Nz hpo)
    rw[List.length_append,Aa] at this
    rw[← this,HT.out,HLS.out]
    congr 1
    simp[BY]
   have HLR:Hid (Calls Tryz.prog 76 #[.string t,.int .i64 ((d.pf.size+(BY done).length:Nat):Int)] wr (Xd wr (some (p.1.toNat,p.2,d.pf.size+(BY done).length+(Bo p.1 p.2).length)))):=by
    have:=OW t (d.pf.size+(BY done).length) wr hts hat
    rwa [hrd] at this
   have hle:=HLE.out
   simp only at hle
   have hzr:B≤wr.heap.size:=Nat.le_trans hB HC.out.size
   have HST:Hid (∀ (a1:Option Addr) (c1:Nat) (w2:World),Below wr.heap.size wr w2→AS w2 a1 p.2→(∀ g,a1=some g→wr.heap.size≤g.block)→Calls Tryz.prog 77 #[.pointer (some ⟨d.cb,0,none⟩),.int .u8 (p.1.toNat:Nat),.slice a1 p.2.length c1] w2 fun e w'=>e=.returned (.bool true)∧∃ al' cl',JS w' B (d.put (Bh (Ag ⟨d.lr,d.held,d.log,0⟩ done) p) al' cl')∧CM (d.put (Ag ⟨d.lr,d.held,d.log,0⟩ done) al cl).Own w2 w'∧∀ b,(d.put (Bh (Ag ⟨d.lr,d.held,d.log,0⟩ done) p) al' cl').Own b→(d.put (Ag ⟨d.lr,d.held,d.log,0⟩ done) al cl).Own b∨w2.heap.size≤b):=by
    intro a1 c1 w2 hb hi1 hf1
    refine Ti B (d.put (Ag ⟨d.lr,d.held,d.log,0⟩ done) al cl) a1 c1 p w2 (HJ2.out.below hb) (Nat.le_trans hzr hb.size) hi1 (by omega) (fun g e hq=>?_) ⟨by show(Ag _ done).log≤_;omega,by show(Ag _ done).held≤_;omega,by show(Ag _ done).st≤_;omega,by show(Ag _ done).lr.length<_;omega⟩ hpo
    have h1:=hf1 g e
    have h2:g.block<wr.heap.size:=by
     rcases hq with hq | hq
     ·rw[hq];exact HJ2.out.ji.blk.lt
     ·exact(HJ2.out.ji.lr.lt _ hq).2
    omega
   have hps:p.1.toNat=101→ps=[]:=fun e=>hpe (Zv e)
   have HPS:=AB hps
   have HNX:Hid (ls=(done++[p])++ps):=by show _=_;rw[HLS.out];simp
   have HLT:Hid ((BY (done++[p])).length=(BY done).length+(Bo p.1 p.2).length):=by show _=_;simp[BY]
   have HLA:Hid (Dp (done++[p])=p.2):=Iy done p
   have HCN:Hid (Cb (done++[p])=(p.1 == 101)):=by show _=_;rw[Jt,hcb,Bool.false_or]
   have HTO:Hid (Ag ⟨d.lr,d.held,d.log,0⟩ (done++[p])=Bh (Ag ⟨d.lr,d.held,d.log,0⟩ done) p):=GF _ done p
   have HOK2:=AB hpr
   have h101:(((p.1.toNat:Nat):Int) == 101)=(p.1 == 101):=by
    rw[Bool.eq_iff_iff]
    simp only[beq_iff_eq]
    constructor
    ·intro e
     exact Zv (by omega)
    ·intro e;rw[e];rfl
   clear hpl hpo hpe hpr hrd hle hd1 HLD HLE hcl hps
   rw[hcb] at *
   go_wp2_with fail
   refine(AE HLR).mono ?_
   rintro e w2 ⟨hb2,a2,c2,rfl,ho2⟩
   have B2:=AB hb2
   have O2:=AB ho2
   have hf2:∀ g,a2=some g→wr.heap.size≤g.block:=fun g e=>by
    rcases ho2.2 with⟨hv,_⟩ | ⟨g',cap,cur,hv,q1,_⟩
    ·simp only[Value.slice.injEq] at hv;rw[hv.1] at e;simp at e
    ·simp only[Value.slice.injEq] at hv;rw[hv.1] at e;simp only[Option.some.injEq] at e;subst e;exact q1
   have HF2:=AB hf2
   have HL2:=AB (HST.out a2 c2 w2 hb2 (BF ho2) hf2)
   clear hb2 ho2 hf2 HLR HST
   go_wp2_with fail
   refine(AE HL2).mono ?_
   rintro e w3 ⟨rfl,al',cl',hj3,hch3,hob3⟩
   have hzw:w.heap.size≤wr.heap.size:=HC.out.size
   have hz2:wr.heap.size≤w2.heap.size:=B2.out.size
   have hcur:∀ b,(d.put (Ag ⟨d.lr,d.held,d.log,0⟩ done) al cl).Own b→b<wr.heap.size:=fun b hq=>by
    rcases hq with hq | hq
    ·rw[hq];exact HJ2.out.ji.blk.lt
    ·exact(HJ2.out.ji.lr.lt _ hq).2
   have O3:w3.ownsRow wr.heap.size 3 1 (.slice a2 p.2.length c2) p.2.length (AO p.2):=Oc O2.out (fun b hb=>hch3.block b (O2.out.lt b hb).2 (fun hq=>by have h1:=hcur b hq;have h2:=(O2.out.lt b hb).1;omega))
   have I3:Hid (AS w3 a2 (Dp (done++[p]))):=by show AS _ _ _;rw[HLA.out];exact BF O3
   have J3:Hid (JS w3 B (d.put (Ag ⟨d.lr,d.held,d.log,0⟩ (done++[p])) al' cl')):=by rw[HTO.out];exact hj3
   have F3:Hid (∀ g,a2=some g→w.heap.size≤g.block∧¬ (d.put (Ag ⟨d.lr,d.held,d.log,0⟩ (done++[p])) al' cl').Own g.block):=by
    intro g e
    have h1:=HF2.out g e
    have h2:g.block<w2.heap.size:=(O2.out.lt g.block (by rw[e];rfl)).2
    refine⟨by omega,fun hq=>?_⟩
    rw[HTO.out] at hq
    rcases hob3 g.block hq with hq | hq
    ·have:=hcur _ hq;omega
    ·omega
   have C3:Hid (CM d.Own w w3):=by
    have h2:=HC.out.below B2.out
    exact⟨hch3.os.trans h2.os,hch3.tape.trans h2.tape,hch3.output.trans h2.output,Nat.le_trans h2.size hch3.size,fun k hk hn=>(hch3.block k (Nat.lt_of_lt_of_le hk h2.size) (fun hq=>(HOW.out k hq).elim hn (fun h=>by omega))).trans (h2.block k hk hn)⟩
   have W3:Hid (∀ b,(d.put (Ag ⟨d.lr,d.held,d.log,0⟩ (done++[p])) al' cl').Own b→d.Own b∨w.heap.size≤b):=by
    intro b hq
    rw[HTO.out] at hq
    rcases hob3 b hq with hq | hq
    ·exact HOW.out b hq
    ·exact .inr (by omega)
   have K3:Hid (EO d.r d.h d.l d.hv (Ag ⟨d.lr,d.held,d.log,0⟩ (done++[p])) ps):=by rw[HTO.out];exact HOK2.out
   have N3:Cb (done++[p])=true→ps=[]:=fun e=>by
    rw[HCN.out] at e
    have:p.1=101:=by simpa using e
    exact HPS.out (by rw[this];rfl)
   have HN3:=AB N3
   have hlt4:4≤(Bo p.1 p.2).length:=by omega
   clear hj3 hch3 hob3 hcur O3 HL2 B2 O2 HF2 HJ2 HI HFR HC HOW HOK HOK2 N3
   go_wp2
   go_roundw
   case rel=>exact⟨done++[p],ps,al',a2,cl',c2,HNX,by rw[HLT.out];go_num,by rw[HLA.out],by rw[HCN.out],J3,I3,F3,C3,W3,K3,HN3.out⟩
   case measure=>simp[intOf];omega
def GB(core:List Int):List Int→Nat→Nat
 | [],k=>k
 | x :: l,k=>GB core l (if k<core.length∧core.getD k 0=x then k+1 else k)
def LZ(core l:List Int):Bool:=GB core l 0 == core.length
set_option maxHeartbeats 2000000 in
theorem Vd(a1 a2:Option Addr)(c1 c2:Nat)(xs ys:List Int)(w:World)(h1:AS w a1 xs)(h2:AS w a2 ys)(hx:xs.length≤1000000000)(hy:ys.length≤1000000000) :
  Calls Tryz.prog 79 #[.slice a1 xs.length c1,.slice a2 ys.length c2] w fun e w'=>e=.returned (.bool (LZ xs ys))∧Below w.heap.size w w':=by
 have H1:=AB h1
 have H2:=AB h2
 have HRES:Hid (LZ xs ys=(GB xs ys 0 == xs.length)):=rfl
 have HB0:Hid (Below w.heap.size w w):=Below.refl _ _
 generalize LZ xs ys=RES at *
 clear h1 h2
 go_enter Tryz.func79,Tryz.ntmps79
 go_wp2_with fail
 go_loopw [5,6] (fun x5 x6 wr=>∃ (i k:Nat),i≤ys.length∧k≤i∧x5=.int .i64 k∧x6=.int .i64 i∧Hid (Below w.heap.size w wr)∧Hid (RES=(GB xs (ys.drop i) k == xs.length))) (fun _ x6 _=>ys.length - (intOf x6).toNat)
 case atStart=>exact⟨0,0,Nat.zero_le _,Nat.le_refl _,rfl,rfl,HB0,HRES⟩
 case round =>
  clear HRES HB0
  obtain⟨i,k,hi,hk,rfl,rfl,HB,HF⟩:=hrel
  by_cases hlt:i<ys.length
  ·obtain⟨b2,o2,rfl,hc2⟩:=(H2.out.below HB.out).get (by omega)
   have y1:=hc2 i hlt
   have hf:=HF.out
   rw[Cc ys 0 i hlt] at hf
   simp only[GB] at hf
   generalize ys.getD i 0=y at *
   by_cases hk2:k<xs.length
   ·obtain⟨b1,o1,rfl,hc1⟩:=(H1.out.below HB.out).get (by omega)
    have x1:=hc1 k hk2
    generalize xs.getD k 0=x at *
    by_cases he:x=y
    ·rw[if_pos ⟨hk2,he⟩] at hf
     have HF2:=AB hf
     have heb:(x == y)=true:=by simpa using he
     have HBD:Hid (Below w.heap.size w wr.drew):=below_drewN HB.out 1
     clear hf HF hc1 hc2 he
     go_wp2_with fail
     go_region
     go_wp2
     go_roundw
     case rel=>exact⟨i+1,k+1,by omega,by omega,by go_num,by go_num,HBD,HF2⟩
     case measure=>simp[intOf];omega
    ·rw[if_neg (fun q=>he q.2)] at hf
     have HF2:=AB hf
     have heb:(x == y)=false:=by simpa using he
     have HBD:Hid (Below w.heap.size w wr.drew):=below_drewN HB.out 1
     clear hf HF hc1 hc2 he
     go_wp2_with fail
     go_region
     go_wp2
     go_roundw
     case rel=>exact⟨i+1,k,by omega,by omega,rfl,by go_num,HBD,HF2⟩
     case measure=>simp[intOf];omega
   ·rw[if_neg (fun q=>hk2 q.1)] at hf
    have HF2:=AB hf
    have HBD:Hid (Below w.heap.size w wr.drew):=below_drewN HB.out 1
    clear hf HF hc2
    go_wp2_with fail
    go_region
    go_wp2
    go_roundw
    case rel=>exact⟨i+1,k,by omega,by omega,rfl,by go_num,HBD,HF2⟩
    case measure=>simp[intOf];omega
  ·have HRN:Hid (RES=(k == xs.length)):=by
    have:=HF.out
    rw[List.drop_eq_nil_of_le (by omega)] at this
    exact this
   have hb:((k:Int) == (xs.length:Int))=(k == xs.length):=RH _ _
   clear HF
   go_wp2
   go_ret
   exact⟨Am (by rw[HRN.out,← hb]),HB.out⟩
set_option maxHeartbeats 1000000 in
theorem Yw(w:World):Calls Tryz.prog 42 #[.agg #[.int .i64 0,.int .i64 0,.slice none 0 0,.slice none 0 0,.slice none 0 0]] w fun e w'=>e=.returned (.bool true)∧Below w.heap.size w w':=by
 have HB:Hid (∀ x,Below w.heap.size w (w.alloc x)):=fun x=>(Below.refl _ _).alloc (Nat.le_refl _) x
 go_enter Tryz.func42,Tryz.ntmps42
 go_wp2
 go_ret
 exact⟨rfl,HB.out _⟩
structure Fe where
 st:Int
 re:Int
 vs:List Int
 co:List Int
 cl:List Int
structure A3 where
 a1:Option Addr
 a2:Option Addr
 a3:Option Addr
 c1:Nat
 c2:Nat
 c3:Nat
def Fe.cells(x:Fe)(p:A3):List Value:=[.int .i64 x.st,.int .i64 x.re,.slice p.a1 x.vs.length p.c1,.slice p.a2 x.co.length p.c2,.slice p.a3 x.cl.length p.c3]
structure KR(w:World)(x:Fe)(p:A3):Prop where
 vs:AS w p.a1 x.vs
 co:AS w p.a2 x.co
 cl:AS w p.a3 x.cl
theorem KR.below{w w':World}{x:Fe}{p:A3}(h:KR w x p)(hb:Below w.heap.size w w'):KR w' x p:=⟨h.vs.below hb,h.co.below hb,h.cl.below hb⟩
set_option maxHeartbeats 4000000 in
theorem Va(x:Fe)(p q:A3)(w:World)(h1:KR w x p)(h2:KR w x q)(hl:x.vs.length≤1000000∧x.co.length≤1000000∧x.cl.length≤1000000) :
  Calls Tryz.prog 40 #[.agg #[.int .i64 x.st,.int .i64 x.re,.slice p.a1 x.vs.length p.c1,.slice p.a2 x.co.length p.c2,.slice p.a3 x.cl.length p.c3],.agg #[.int .i64 x.st,.int .i64 x.re,.slice q.a1 x.vs.length q.c1,.slice q.a2 x.co.length q.c2,.slice q.a3 x.cl.length q.c3]] w fun e w'=>e=.returned (.bool true)∧Below w.heap.size w w':=by
 have HS:Hid (∀ (a b:Option Addr) (c d:Nat) (zs:List Int) (w':World),zs.length≤1000000→AS w' a zs→AS w' b zs→Calls Tryz.prog 23 #[.slice a zs.length c,.slice b zs.length d] w' fun e w''=>e=.returned (.bool true)∧∃ m,w''=w'.drewN m):=fun a b c d zs w' hz i1 i2=>by
  have:=FE a b c d zs zs w' (by omega) i1 i2
  rwa [show Hq zs zs=true by simp[Hq]] at this
 have H1:=AB h1
 have H2:=AB h2
 have hb0:Below w.heap.size w ((w.alloc (.cells (x.cells p).toArray 70)).alloc (.cells (x.cells q).toArray 70)):=((Below.refl _ _).alloc (Nat.le_refl _) _).alloc (by simp) _
 have ra:AY ((w.alloc (.cells (x.cells p).toArray 70)).alloc (.cells (x.cells q).toArray 70)) w.heap.size 70 (x.cells p):=by
  have r0:AY (w.alloc (.cells (x.cells p).toArray 70)) w.heap.size 70 (x.cells p):=heap_alloc_new w _
  exact AF r0 ((Below.refl _ _).alloc (Nat.le_refl _) _)
 have rb:AY ((w.alloc (.cells (x.cells p).toArray 70)).alloc (.cells (x.cells q).toArray 70)) (w.heap.size+1) 70 (x.cells q):=by
  have:=heap_alloc_new (w.alloc (.cells (x.cells p).toArray 70)) (.cells (x.cells q).toArray 70)
  simpa [AY] using this
 have A0:=AB (And.intro (h1.below hb0) (h2.below hb0))
 have RA:=AB ra
 have RB:=AB rb
 have B0:=AB hb0
 clear h1 h2 ra rb hb0 H1 H2
 simp only[Fe.cells] at A0 RA RB B0
 go_enter Tryz.func40,Tryz.ntmps40
 go_wp2_with fail
 generalize (w.alloc (.cells [Value.int .i64 x.st,.int .i64 x.re,.slice p.a1 x.vs.length p.c1,.slice p.a2 x.co.length p.c2,.slice p.a3 x.cl.length p.c3].toArray 70)).alloc (.cells [Value.int .i64 x.st,.int .i64 x.re,.slice q.a1 x.vs.length q.c1,.slice q.a2 x.co.length q.c2,.slice q.a3 x.cl.length q.c3].toArray 70)=w0 at *
 refine(AE HS _ _ _ _ _ _ hl.1 A0.out.1.vs A0.out.2.vs).mono ?_
 rintro e w1 ⟨rfl,m1,hw1⟩
 have b1:Below w0.heap.size w0 w1:=by rw[hw1];exact below_drewN (Below.refl _ _) _
 have A1:=AB (And.intro (A0.out.1.below b1) (A0.out.2.below b1))
 have RA1:=AB (AF RA.out b1)
 have RB1:=AB (AF RB.out b1)
 have B1:Hid (Below w.heap.size w w1):=B0.out.trans (b1.mono B0.out.size)
 have p3:w1.cell? ⟨w.heap.size,3,none⟩=some (.slice p.a2 x.co.length p.c2):=(RA1.out.cell 3).trans rfl
 have q3:w1.cell? ⟨w.heap.size+1,3,none⟩=some (.slice q.a2 x.co.length q.c2):=(RB1.out.cell 3).trans rfl
 clear b1 hw1 A0 RA RB B0
 go_wp2_with fail
 refine(AE HS _ _ _ _ _ _ hl.2.1 A1.out.1.co A1.out.2.co).mono ?_
 rintro e w2 ⟨rfl,m2,hw2⟩
 have b2:Below w1.heap.size w1 w2:=by rw[hw2];exact below_drewN (Below.refl _ _) _
 have A2:=AB (And.intro (A1.out.1.below b2) (A1.out.2.below b2))
 have RA2:=AB (AF RA1.out b2)
 have RB2:=AB (AF RB1.out b2)
 have B2:Hid (Below w.heap.size w w2):=B1.out.trans (b2.mono B1.out.size)
 have p4:w2.cell? ⟨w.heap.size,4,none⟩=some (.slice p.a3 x.cl.length p.c3):=(RA2.out.cell 4).trans rfl
 have q4:w2.cell? ⟨w.heap.size+1,4,none⟩=some (.slice q.a3 x.cl.length q.c3):=(RB2.out.cell 4).trans rfl
 clear b2 hw2 A1 RA1 RB1 B1 p3 q3
 go_wp2_with fail
 refine(AE HS _ _ _ _ _ _ hl.2.2 A2.out.1.cl A2.out.2.cl).mono ?_
 rintro e w3 ⟨rfl,m3,hw3⟩
 have b3:Below w2.heap.size w2 w3:=by rw[hw3];exact below_drewN (Below.refl _ _) _
 have RA3:=AB (AF RA2.out b3)
 have RB3:=AB (AF RB2.out b3)
 have B3:Hid (Below w.heap.size w w3):=B2.out.trans (b3.mono B2.out.size)
 have p0:w3.cell? ⟨w.heap.size,0,none⟩=some (.int .i64 x.st):=(RA3.out.cell 0).trans rfl
 have q0:w3.cell? ⟨w.heap.size+1,0,none⟩=some (.int .i64 x.st):=(RB3.out.cell 0).trans rfl
 have p1:w3.cell? ⟨w.heap.size,1,none⟩=some (.int .i64 x.re):=(RA3.out.cell 1).trans rfl
 have q1:w3.cell? ⟨w.heap.size+1,1,none⟩=some (.int .i64 x.re):=(RB3.out.cell 1).trans rfl
 clear b3 hw3 A2 RA2 RB2 B2 p4 q4
 go_wp2
 go_ret
 exact⟨rfl,B3.out⟩
def Fw:Nat→Nat
 | 0=>1
 | n+1=>3*Fw n
theorem bK:∀ n,n≤20→Fw n≤3486784401:=by decide
def EL(r h l budget:Int)(seen unsat:Nat):Bool :=
 budget == 0 && r == 0 && decide (((AG seen*Fw (AG seen):Nat):Int)≤h) && decide ((((AG seen+1)*Fw (AG seen)+(2*AG seen+1)*(unsat+1):Nat):Int)≤l)
end Go.Proofs.YthboeppmlhbofaaGreatDoor
