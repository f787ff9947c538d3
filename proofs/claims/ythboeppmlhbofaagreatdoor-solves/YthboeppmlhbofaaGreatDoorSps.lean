import Derived.Test.YthboeppmlhbofaaGreatDoorRdd
import Derived.Deep.RegionHeld3
namespace Go.Proofs.YthboeppmlhbofaaGreatDoor
open Go.RowKit Txt
set_option maxRecDepth 100000
def Ek(w:World):List Nat→List (List Int)→Prop
 | [],[]=>True
 | g :: gs,c :: cs=>AY w g 3 (AO c++Bx)∧Ek w gs cs
 | _,_=>False
def BQ:List Nat→List (List Int)→List Value
 | g :: gs,c :: cs=>.slice (some ⟨g,0,none⟩) c.length (c.length+2) :: BQ gs cs
 | _,_=>[]
theorem Ek.len{w:World}{gs:List Nat}{cs:List (List Int)}(h:Ek w gs cs):gs.length=cs.length:=by
 induction gs generalizing cs with
 | nil=>cases cs with
  | nil=>rfl
  | cons c cs=>exact h.elim
 | cons g gs ih=>cases cs with
  | nil=>exact h.elim
  | cons c cs=>simp[ih h.2]
theorem ED{gs:List Nat}{cs:List (List Int)}(h:gs.length=cs.length):(BQ gs cs).length=cs.length:=by
 induction gs generalizing cs with
 | nil=>cases cs with
  | nil=>rfl
  | cons c cs=>simp at h
 | cons g gs ih=>cases cs with
  | nil=>simp at h
  | cons c cs=>simp[BQ,ih (by simpa using h)]
theorem Ek.snoc{w:World}{gs:List Nat}{cs:List (List Int)}{g:Nat}{c:List Int}(h:Ek w gs cs)(hg:AY w g 3 (AO c++Bx)):Ek w (gs++[g]) (cs++[c]):=by
 induction gs generalizing cs with
 | nil=>cases cs with
  | nil=>exact⟨hg,trivial⟩
  | cons c' cs=>exact h.elim
 | cons g' gs ih=>cases cs with
  | nil=>exact h.elim
  | cons c' cs=>exact⟨h.1,ih h.2⟩
theorem Pt{gs:List Nat}{cs:List (List Int)}(h:gs.length=cs.length)(g:Nat)(c:List Int):BQ (gs++[g]) (cs++[c])=BQ gs cs++[.slice (some ⟨g,0,none⟩) c.length (c.length+2)]:=by
 induction gs generalizing cs with
 | nil=>cases cs with
  | nil=>rfl
  | cons c' cs=>simp at h
 | cons g' gs ih=>cases cs with
  | nil=>simp at h
  | cons c' cs=>simp[BQ,ih (by simpa using h)]
theorem Ek.map{w w':World}{gs:List Nat}{cs:List (List Int)}(h:Ek w gs cs)(hk:∀ g∈gs,w'.heap[g]?=w.heap[g]?):Ek w' gs cs:=by
 induction gs generalizing cs with
 | nil=>cases cs with
  | nil=>exact trivial
  | cons c' cs=>exact h.elim
 | cons g' gs ih=>cases cs with
  | nil=>exact h.elim
  | cons c' cs=>exact⟨(hk g' (by simp)).trans h.1,ih h.2 (fun g hg=>hk g (by simp[hg]))⟩
theorem Ek.at{w:World}{gs:List Nat}{cs:List (List Int)}(h:Ek w gs cs)(r:Nat)(hr:r<cs.length) :
  ∃ g,gs[r]?=some g∧AY w g 3 (AO (cs.getD r [])++Bx)∧(BQ gs cs)[r]?=some (.slice (some ⟨g,0,none⟩) (cs.getD r []).length ((cs.getD r []).length+2)):=by
 induction gs generalizing cs r with
 | nil=>cases cs with
  | nil=>simp at hr
  | cons c' cs=>exact h.elim
 | cons g' gs ih=>cases cs with
  | nil=>exact h.elim
  | cons c' cs=>cases r with
   | zero=>exact⟨g',rfl,h.1,rfl⟩
   | succ r =>
    obtain⟨g,h1,h2,h3⟩:=ih h.2 r (by simpa using hr)
    exact⟨g,by simpa using h1,by simpa using h2,by simpa [BQ] using h3⟩
theorem Ek.lt{w:World}{gs:List Nat}{cs:List (List Int)}(h:Ek w gs cs):∀ g∈gs,g<w.heap.size:=by
 induction gs generalizing cs with
 | nil=>simp
 | cons g' gs ih=>cases cs with
  | nil=>exact h.elim
  | cons c' cs =>
   intro g hg
   rcases List.mem_cons.1 hg with rfl | hg
   ·exact h.1.lt
   ·exact ih h.2 g hg
theorem WX(n:Nat):(madeCells (Value.slice none 0 0).cells (n*1)).toList=List.replicate n (.slice none 0 0):=by
 have:=toList_madeCells_one (.slice none 0 0) n
 simpa [Value.cells] using this
structure Sp(w:World)(B G:Nat)(gs:List Nat)(gl:Nat)(xss:List (List Int)):Prop where
 top:AY w G 24 (BQ gs xss++[.slice (some ⟨gl,0,none⟩) 1 1])
 each:Ek w gs xss
 last:AY w gl 3 [.int .i64 7]
 nodup:gs.Nodup
 out:∀ g∈gs,g≠G∧g≠gl∧B≤g
 base:B≤G∧B≤gl∧gl≠G
set_option maxHeartbeats 2000000 in
theorem IY(a:Option Addr)(c:Nat)(A:Nat→Option Addr)(C:Nat→Nat)(xss:List (List Int))(w:World)(hbd:xss.length≤4294967296)(hr:CC w a A C xss)(hlens:Hid (∀ x∈xss,x.length≤4294967296)) :
  Calls Tryz.prog 17 #[.slice a xss.length c] w fun e w'=>∃ G gs gl,e=.returned (.slice (some ⟨G,0,none⟩) xss.length (xss.length+1))∧Sp w' w.heap.size G gs gl xss∧Below w.heap.size w w':=by
 obtain⟨i1,gi,gz0,gz1,gz2⟩:=info_parts Tryz.infoInts
 have b2:Hid (i1.bytes*(xss.length+1)≤281474976710656):=by show _≤_;rw[gz2];omega
 have b3:Hid (xss.length+1≤maxLen):=by show _≤_;unfold maxLen;omega
 go_enter Tryz.func17,Tryz.ntmps17
 go_wp2_with (first
  | (at_make;refine wpList_make_full _ rfl (.tmp 9) (.tmp 9) 30 rfl w.heap.size 24 i1 (.slice none 0 0) 1 Tryz.undLists gi gz0 gz1 .i64 .i64 _ _ (xss.length+1) rfl rfl (by omega) (by omega) b2.out b3.out (Nat.le_refl _) ?_;intro w1 hown1 hg1;have hrow1:=KF hown1;rw[WX] at hrow1;have hb1:Below w.heap.size w w1:=(Below.refl _ _).grown hg1 (Nat.le_refl _) (by simp);have HR1:=AB hrow1;clear hown1 hg1 hrow1))
 go_loopw [5] (fun i wr=>∃ (k:Nat) (gs:List Nat),k≤xss.length∧i=.int .i64 k∧Hid (AY wr w.heap.size 24 (BQ gs (xss.take k)++List.replicate (xss.length+1 - k) (.slice none 0 0)))∧Hid (Ek wr gs (xss.take k))∧Hid (gs.Nodup∧∀ g∈gs,w.heap.size<g)∧Below w.heap.size w wr) (fun i _=>xss.length - (intOf i).toNat)
 case atStart=>exact⟨0,[],Nat.zero_le _,rfl,HR1.out,trivial,⟨List.nodup_nil,by simp⟩,hb1⟩
 case round =>
  clear HR1 hb1
  obtain⟨k,gs,hk,rfl,hrow,hall,hgs,hbel⟩:=hrel
  have hlg:gs.length=(xss.take k).length:=hall.out.len
  have hlc:=ED hlg
  rw[List.length_take,Nat.min_eq_left hk] at hlc
  have hG:w.heap.size<wr.heap.size:=hrow.out.lt
  by_cases hlt:k<xss.length
  ·obtain⟨b,off,rfl,hc⟩:=hr.get (by omega)
   obtain⟨p1,q1,s1⟩:=hc k hlt
   have p2:wr.cell? ⟨b,off+k,none⟩=some (.slice (A k) (xss.getD k []).length (C k)):=(hbel.cell (p:=⟨b,off+k,none⟩) (World.block_lt_of_cell? w _ p1)).trans p1
   have q2:=q1.below hbel
   have hlx:(xss.getD k []).length≤4294967296:=hlens.out _ (by rw[List.getD_eq_getElem?_getD,List.getElem?_eq_getElem hlt];exact List.getElem_mem hlt)
   have HTK:Hid (xss.take (k+1)=xss.take k++[xss.getD k []]):=by
    show _=_
    rw[List.take_succ_eq_append_getElem hlt,List.getD_eq_getElem?_getD,List.getElem?_eq_getElem hlt];rfl
   clear hc p1 q1 s1 hr
   generalize xss.getD k []=xs at p2 q2 hlx HTK
   generalize A k=ak at p2 q2
   generalize C k=ck at p2
   have hcs:=IB ak ck xs wr hlx q2
   have HCS:=AB hcs
   clear hcs q2
   have HLG:=AB hlg
   have HLC:=AB hlc
   clear hlg hlc
   go_wp2_with (first
   | (go_at_call 24;refine(AE HCS).mono ?_;rintro e w2 ⟨rfl,hrow2,hb2⟩;
          have hz2:wr.heap.size<w2.heap.size:=hrow2.lt;
          have e2:w2.heap[w.heap.size]?=wr.heap[w.heap.size]?:=hb2.block _ hG;
          have HR2:Hid (AY w2 w.heap.size 24 (BQ gs (xss.take k)++List.replicate (xss.length+1 - k) (.slice none 0 0))):=e2.trans hrow.out;
          have k1:w2.cell? ⟨w.heap.size,k,none⟩=some (.slice none 0 0):=(HR2.out.cell k).trans (by rw[List.getElem?_append_right (by rw[HLC.out];exact Nat.le_refl _),HLC.out,Nat.sub_self,List.getElem?_replicate,if_pos (by omega)]);
          have k2:=HR2.out.frozen k;
          have HB2:=AB hb2;
          have HRow2:=AB hrow2;clear e2 hb2 hrow2))
   go_roundw
   case rel =>
    refine⟨k+1,gs++[wr.heap.size],by omega,by go_num,?_,?_,?_,?_⟩
    ·have h:=HR2.out.set k (.slice (some ⟨wr.heap.size,0,none⟩) xs.length (xs.length+2))
     show AY _ _ _ _
     rw[HTK.out,Pt HLG.out,List.append_assoc]
     rw[List.set_append_right _ _ (by rw[HLC.out];exact Nat.le_refl _),HLC.out,Nat.sub_self,show xss.length+1 - k=(xss.length+1 - (k+1))+1 by omega,List.replicate_succ,List.set_cons_zero] at h
     exact h
    ·show Ek _ _ _
     rw[HTK.out]
     refine Ek.snoc (hall.out.map fun g hg=>?_) ?_
     ·rw[Below.heap_setCell _ _ _ _ (by have:=hgs.out.2 g hg;exact Nat.ne_of_gt this)]
      exact HB2.out.block g (hall.out.lt g hg)
     ·show _=_
      rw[Below.heap_setCell _ _ _ _ (Nat.ne_of_gt hG)]
      exact HRow2.out
    ·refine⟨List.nodup_append.2 ⟨hgs.out.1,by simp,fun g hg x hx=>by simp at hx;subst hx;exact Nat.ne_of_lt (hall.out.lt g hg)⟩,fun g hg=>?_⟩
     rcases List.mem_append.1 hg with hg | hg
     ·exact hgs.out.2 g hg
     ·simp at hg;subst hg;exact hG
    ·exact(hbel.trans (HB2.out.mono hbel.size)).setCell (Nat.le_refl _) _
   case measure=>simp[intOf];omega
  ·obtain rfl:k=xss.length:=by omega
   have ht:xss.take xss.length=xss:=List.take_length
   rw[ht] at hrow hall hlg
   have k1:wr.cell? ⟨w.heap.size,xss.length,none⟩=some (.slice none 0 0):=(hrow.out.cell _).trans (by rw[List.getElem?_append_right (by rw[ED hlg];exact Nat.le_refl _),ED hlg,Nat.sub_self,List.getElem?_replicate,if_pos (by omega)])
   have k2:=hrow.out.frozen xss.length
   have HLG:=AB hlg
   clear hlg hlc ht
   go_wp2
   go_ret
   refine⟨w.heap.size,gs,wr.heap.size,rfl,⟨?_,?_,?_,hgs.out.1,fun g hg=>⟨Nat.ne_of_gt (hgs.out.2 g hg),Nat.ne_of_lt (hall.out.lt g hg),Nat.le_of_lt (hgs.out.2 g hg)⟩,Nat.le_refl _,Nat.le_of_lt hG,Nat.ne_of_gt hG⟩,(hbel.setCell (Nat.le_refl _) _).alloc (by simp[World.setCell];exact hbel.size) _⟩
   ·have h:=hrow.out.set xss.length (.slice (some ⟨wr.heap.size,0,none⟩) 1 1)
    rw[List.set_append_right _ _ (by rw[ED HLG.out];exact Nat.le_refl _),ED HLG.out,Nat.sub_self,show xss.length+1 - xss.length=0+1 by omega,List.replicate_succ,List.set_cons_zero] at h
    have h2:=Below.heap_alloc (wr.setCell ⟨w.heap.size,xss.length,none⟩ (.slice (some ⟨wr.heap.size,0,none⟩) 1 1)) (Obj.cells #[.int .i64 7] 3) w.heap.size (by simp[World.setCell];exact hG)
    exact h2.trans h
   ·refine hall.out.map fun g hg=>?_
    rw[Below.heap_alloc _ _ _ (by simp[World.setCell];exact hall.out.lt g hg),Below.heap_setCell _ _ _ _ (Nat.ne_of_gt (hgs.out.2 g hg))]
   ·have:=heap_alloc_new (wr.setCell ⟨w.heap.size,xss.length,none⟩ (.slice (some ⟨wr.heap.size,0,none⟩) 1 1)) (Obj.cells #[.int .i64 7] 3)
    simpa [World.setCell,AY] using this
theorem Sp.rows{w:World}{B G gl:Nat}{gs:List Nat}{xss:List (List Int)}(h:Sp w B G gs gl xss)(hl:∀ x∈xss,x.length≤4294967296):∃ A C,CC w (some ⟨G,0,none⟩) A C xss:=by
 refine⟨fun r=>some ⟨gs.getD r 0,0,none⟩,fun r=>(xss.getD r []).length+2,?_⟩
 by_cases h0:xss=[]
 ·exact .inl h0
 refine .inr ⟨G,0,rfl,fun r hr=>?_⟩
 obtain⟨g,h1,h2,h3⟩:=h.each.at r hr
 have e:gs.getD r 0=g:=by rw[List.getD_eq_getElem?_getD,h1];rfl
 dsimp only
 rw[e]
 refine⟨?_,EE _ _ _ h2,?_⟩
 ·rw[h.top.cell,Nat.zero_add,List.getElem?_append_left (by rw[ED h.each.len];exact hr),h3]
 ·have:=hl (xss.getD r []) (by rw[List.getD_eq_getElem?_getD,List.getElem?_eq_getElem hr];exact List.getElem_mem hr)
  omega
set_option maxHeartbeats 2000000 in
theorem LI(B G gl:Nat)(gs:List Nat)(a:Option Addr)(c:Nat)(A:Nat→Option Addr)(C:Nat→Nat)(xss:List (List Int))(w0 w:World)(hbd:xss.length≤4294967296)(hsp:Sp w B G gs gl xss)(hB:B=w0.heap.size)(hbel:Below B w0 w)(hr:CC w0 a A C xss)(hlens:Hid (∀ x∈xss,x.length≤4294967296)) :
  Calls Tryz.prog 55 #[.slice (some ⟨G,0,none⟩) xss.length (xss.length+1),.slice a xss.length c] w fun e w'=>(e=.returned (.bool true)∧Below B w0 w')∧w.heap.size≤w'.heap.size∧∀ b,(∀ g∈gs,b≠g)→b<w.heap.size→w'.heap[b]?=w.heap[b]?:=by
 subst hB
 have hne:((xss.length:Int) != (xss.length:Int))=false:=by rw[bne_eq_false_iff_eq]
 have HSP:=AB hsp
 clear hsp
 go_enter Tryz.func55,Tryz.ntmps55
 go_wp2
 go_loopw [6] (fun i wr=>∃ k:Nat,k≤xss.length∧i=.int .i64 k∧Below w0.heap.size w0 wr∧w.heap.size≤wr.heap.size∧Hid (∀ b,(∀ g∈gs.take k,b≠g)→b<w.heap.size→wr.heap[b]?=w.heap[b]?)) (fun i _=>xss.length - (intOf i).toNat)
 case atStart=>exact⟨0,Nat.zero_le _,rfl,hbel,Nat.le_refl _,fun _ _ _=>rfl⟩
 case round =>
  clear hbel hne
  obtain⟨k,hk,rfl,hbel,hsz,hkept⟩:=hrel
  have hG:wr.heap[G]?=w.heap[G]?:=hkept.out G (fun g hg=>(fun e=>(HSP.out.out g (List.mem_of_mem_take hg)).1 e.symm)) HSP.out.top.lt
  have htop:AY wr G 24 (BQ gs xss++[.slice (some ⟨gl,0,none⟩) 1 1]):=hG.trans HSP.out.top
  have hlc:=ED HSP.out.each.len
  by_cases hlt:k<xss.length
  ·obtain⟨b,off,rfl,hc⟩:=hr.get (by omega)
   obtain⟨p1,q1,s1⟩:=hc k hlt
   have p2:wr.cell? ⟨b,off+k,none⟩=some (.slice (A k) (xss.getD k []).length (C k)):=(hbel.cell (p:=⟨b,off+k,none⟩) (World.block_lt_of_cell? w0 _ p1)).trans p1
   have q2:=q1.below hbel
   have hlx:(xss.getD k []).length≤4294967296:=hlens.out _ (by rw[List.getD_eq_getElem?_getD,List.getElem?_eq_getElem hlt];exact List.getElem_mem hlt)
   obtain⟨g,h1,h2,h3⟩:=HSP.out.each.at k hlt
   have hmem:g∈gs:=List.mem_of_getElem? h1
   have hgk:wr.heap[g]?=w.heap[g]?:=hkept.out g (fun g' hg' e=>by
    subst e
    obtain⟨i,hi2⟩:=List.mem_iff_getElem?.1 hg'
    have hi:=(List.getElem?_eq_some_iff.1 hi2).1
    rw[List.length_take] at hi
    rw[List.getElem?_take_of_lt (by omega)] at hi2
    have hkl:k<gs.length:=(List.getElem?_eq_some_iff.1 h1).1
    have:=(List.getElem?_inj (i:=i) (j:=k) (by omega) HSP.out.nodup).1 (hi2.trans h1.symm)
    omega) h2.lt
   have h4:AY wr g 3 (AO (xss.getD k [])++Bx):=hgk.trans h2
   have p3:wr.cell? ⟨G,k,none⟩=some (.slice (some ⟨g,0,none⟩) (xss.getD k []).length ((xss.getD k []).length+2)):=by
    rw[htop.cell,List.getElem?_append_left (by rw[hlc];exact hlt),h3]
   have hbg:w0.heap.size≤g:=(HSP.out.out g hmem).2.2
   have hbb:b≠g:=by have:=World.block_lt_of_cell? w0 _ p1;simp only at this;omega
   have hGg:G≠g:=fun e=>(HSP.out.out g hmem).1 e.symm
   have hgt:g∈gs.take (k+1):=by
    refine List.mem_iff_getElem?.2 ⟨k,?_⟩
    rw[List.getElem?_take_of_lt (by omega),h1]
   clear hc p1 q1 s1 hr h1 h2 h3 hgk htop hlc hG hmem
   generalize xss.getD k []=xs at p2 q2 hlx h4 p3
   generalize A k=ak at p2 q2
   generalize C k=ck at p2
   have HGT:=AB hgt
   have H4:=AB h4
   have Q2:=AB q2
   clear hgt h4 q2
   have hi1:(0:Int)≤(k:Int):=by omega
   have hi2:(k:Int)<(xss.length:Int):=by omega
   go_wp2
   go_region_held3 (fun w'=>w'.cell? ⟨b,off+k,none⟩=some (.slice ak xs.length ck)∧w'.cell? ⟨G,k,none⟩=some (.slice (some ⟨g,0,none⟩) xs.length (xs.length+2))) (go_keep)
    (first | (go_at_call 31;refine(IC g ak ck xs _ hlx ?_ ?_).mono ?_;(exact H4.out);(exact Q2.out);rintro e w' ⟨rfl,hg5⟩;have n1:w'.cell? ⟨b,off+k,none⟩=_:=hg5.cell (a:=⟨b,off+k,none⟩) p2 (by simpa using hbb);have n2:w'.cell? ⟨G,k,none⟩=_:=hg5.cell (a:=⟨G,k,none⟩) p3 (by simpa using hGg)))
   clear n1 n2
   go_wp2
   go_roundw
   case rel =>
    refine⟨k+1,by omega,by go_num,hbel.drew.grown hg5 hbel.size (fun j hj=>by simp at hj;omega),Nat.le_trans hsz hg5.size,fun x hx hxl=>?_⟩
    have e1:w'.heap[x]?=wr.heap[x]?:=hg5.block x (Nat.lt_of_lt_of_le hxl hsz) (by simpa using hx g HGT.out)
    refine e1.trans (hkept.out x (fun g' hg'=>hx g' ?_) hxl)
    rw[List.take_add_one]
    exact List.mem_append_left _ hg'
   case measure=>simp[intOf];omega
  ·obtain rfl:k=xss.length:=by omega
   have hgl:wr.heap[gl]?=w.heap[gl]?:=hkept.out gl (fun g hg=>(fun e=>(HSP.out.out g (List.mem_of_mem_take hg)).2.1 e.symm)) HSP.out.last.lt
   have hlast:AY wr gl 3 [.int .i64 7]:=hgl.trans HSP.out.last
   have p1:wr.cell? ⟨G,xss.length,none⟩=some (.slice (some ⟨gl,0,none⟩) 1 1):=(htop.cell _).trans (by rw[List.getElem?_append_right (by rw[hlc];exact Nat.le_refl _),hlc,Nat.sub_self];rfl)
   have p2:wr.cell? ⟨gl,0,none⟩=some (.int .i64 7):=(hlast.cell 0).trans rfl
   clear hgl hlast htop hlc hG
   go_wp2
   go_ret
   exact⟨⟨rfl,hbel⟩,hsz,fun b hb hl=>hkept.out b (fun g hg=>hb g (List.mem_of_mem_take hg)) hl⟩
theorem UN(B G gl:Nat)(gs:List Nat)(a:Option Addr)(c:Nat)(A:Nat→Option Addr)(C:Nat→Nat)(xss:List (List Int))(w0 w:World)(hbd:xss.length≤4294967296)(hsp:Sp w B G gs gl xss)(hB:B=w0.heap.size)(hbel:Below B w0 w)(hr:CC w0 a A C xss)(hlens:Hid (∀ x∈xss,x.length≤4294967296)) :
  Calls Tryz.prog 55 #[.slice (some ⟨G,0,none⟩) xss.length (xss.length+1),.slice a xss.length c] w fun e w'=>e=.returned (.bool true)∧Below B w0 w' :=
 (LI B G gl gs a c A C xss w0 w hbd hsp hB hbel hr hlens).mono fun _ _ h=>h.1
theorem AK{w w':World}{base e s:Nat}{v:Value}{n:Nat}{xs:List Value}(h:w.ownsRow base e s v n xs)(hb:Below w.heap.size w w'):w'.ownsRow base e s v n xs:=by
 refine⟨h.1,?_⟩
 rcases h.2 with hn | ⟨g,cap,cur,hv,h1,hg,r⟩
 ·exact .inl hn
 ·exact .inr ⟨g,cap,cur,hv,h1,(hb.block g (Array.getElem?_eq_some_iff.1 hg).1).trans hg,r⟩
theorem Js.below{w w':World}{base tl ti:Nat}{v:Value}{vs:List Value}{cs:List (List Int)}(h:Js w base tl ti v vs cs)(hb:Below w.heap.size w w'):Js w' base tl ti v vs cs :=
 ⟨AK h.top hb,h.each.map (fun _ _ _ _ hh=>AK hh hb),h.apart⟩
theorem AF{w w':World}{g:Nat}{e:TypeId}{zs:List Value}(h:AY w g e zs)(hb:Below w.heap.size w w'):AY w' g e zs:=(hb.block g h.lt).trans h
theorem Sp.below{w w':World}{B G gl:Nat}{gs:List Nat}{xss:List (List Int)}(h:Sp w B G gs gl xss)(hb:Below w.heap.size w w'):Sp w' B G gs gl xss :=
 ⟨AF h.top hb,h.each.map (fun g hg=>hb.block g (h.each.lt g hg)),AF h.last hb,h.nodup,h.out,h.base⟩
theorem Ef(w:World)(m:Nat):Below w.heap.size w (w.drewN m):=below_drewN (Below.refl _ _) m
def Er(c:Int)(n:Nat):Nat:=((if c<0 then -(c+1) else c) % (n:Int)).toNat
theorem DU(c:Int)(n:Nat)(h:0<n):Er c n<n:=by
 unfold Er
 have h1:=Int.emod_lt_of_pos (if c<0 then -(c+1) else c) (show(0:Int)<n by omega)
 have h2:=Int.emod_nonneg (if c<0 then -(c+1) else c) (show(n:Int)≠0 by omega)
 omega
set_option maxHeartbeats 400000 in
theorem DV(c:Int)(n:Nat)(w:World)(h0:0<n)(hn:n≤4294967296)(h1:-9223372036854775808≤c)(h2:c≤9223372036854775807) :
  Calls Tryz.prog 16 #[.int .i64 c,.int .i64 n] w fun e w'=>e=.returned (.int .i64 (Er c n:Nat))∧w'=w:=by
 by_cases hc:c<0
 ·have e:Hid (((Er c n:Nat):Int)=-(c+1) % (n:Int)):=by
   show _=_
   unfold Er
   rw[if_pos hc]
   have h2:=Int.emod_nonneg (-(c+1)) (show(n:Int)≠0 by omega)
   omega
  go_enter Tryz.func16,Tryz.ntmps16
  go_wp2
  go_ret
  refine⟨CJ ?_,rfl⟩
  rw[e.out]
  exact(Int.neg_tmod (c+1) (n:Int)).symm.trans (Int.tmod_eq_emod_of_nonneg (by omega))
 ·have e:Hid (((Er c n:Nat):Int)=c % (n:Int)):=by
   show _=_
   unfold Er
   rw[if_neg hc]
   have h2:=Int.emod_nonneg c (show(n:Int)≠0 by omega)
   omega
  go_enter Tryz.func16,Tryz.ntmps16
  go_wp2
  go_ret
  exact⟨CJ (by rw[e.out] <;> go_num),rfl⟩
def dr(B:Nat)(w:World)(r:dK)(e:Ending)(w':World):Prop :=
 Below B w w'∧match r with
 | .err _ _=>e=.returned (.tuple #[.slice none 0 0,.bool true])
 | .ok cl=>∃ a c vs,e=.returned (.tuple #[.slice a cl.length c,.bool true])∧Js w' B 24 3 (.slice a cl.length c) vs cl
theorem bL(L:Nat):∀ (f:Nat) (cl:List (List Int)) (op:List Int) (l:List UInt8) (r:List (List Int)),rd L f cl op l=.ok r→(∀ x∈cl,x.length≤L)→cl.length+op.length+l.length≤L→r.length≤L∧∀ x∈r,x.length≤L:=by
 intro f
 induction f with
 | zero =>
  intro cl op l r h _ _
  simp only[rd,dK.ok.injEq] at h
  subst h
  simp
 | succ f ih =>
  intro cl op l r h hcl hlen
  by_cases hl:l=[]
  ·subst hl
   rw[Ty] at h
   split at h
   ·simp only[dK.ok.injEq] at h
    subst h
    exact⟨by simp at hlen;omega,hcl⟩
   ·cases h
  ·rw[VM hl] at h
   split at h
   ·cases h
   ·have hz:(BU (l.take (CN l))).2=0:=Decidable.not_not.1 ‹_›
    have hw:1≤CN l:=by
     rcases Nat.eq_zero_or_pos (CN l) with h0 | h0
     ·rw[h0,List.take_zero] at hz;exact absurd hz (by decide)
     ·exact h0
    have hw2:=LS l
    have hd:((l.drop (CN l)).drop (sk .mid (l.drop (CN l)))).length+1≤l.length:=by
     simp only[List.length_drop]
     omega
    split at h
    ·refine ih _ _ _ r h (fun x hx=>?_) (by simp only[List.length_append,List.length_cons,List.length_nil];omega)
     rcases List.mem_append.1 hx with hx | hx
     ·exact hcl x hx
     ·simp at hx;subst hx;omega
    ·exact ih _ _ _ r h hcl (by simp only[List.length_append,List.length_cons,List.length_nil];omega)
theorem NR(l:List UInt8)(r:List (List Int))(h:Cs l=.ok r):r.length≤1000∧∀ x∈r,x.length≤1000:=by
 unfold Cs at h
 split at h
 ·cases h
 ·have hs:=cG .bol l
  obtain⟨h1,h2⟩:=bL l.length _ [] [] _ r h (by simp) (by simp)
  exact⟨by omega,fun x hx=>Nat.le_trans (h2 x hx) (by omega)⟩
set_option maxHeartbeats 1000000 in
theorem ZJ(s:ByteArray)(w:World)(hs:s.size≤9223372036854775807) :
  Calls Tryz.prog 27 #[.string s] w fun e w'=>dr w.heap.size w (Cs (bs s)) e w':=by
 have h1:=fun w=>ZH s w hs
 have h2:=fun w=>Wx s w hs
 have hlens:=NR (bs s)
 cases hr:Cs (bs s) with
 | err x p =>
  rw[hr] at h1 h2
  have H1:=AB h1
  have H2:=AB h2
  clear h1 h2 hr hlens
  have h3:=fun w=>JL none none 0 0 (fun _=>none) (fun _=>none) (fun _=>0) (fun _=>0) [] [] w (by simp) (.inl rfl) (.inl rfl)
  simp only[List.length_nil,show Hq ([]:List (List Int)) []=true by decide] at h3
  have H3:=AB h3
  clear h3
  have hp:((x:Int) == x)=true:=beq_self_eq_true _
  have hq:(((p:Nat):Int) == (p:Int))=true:=beq_self_eq_true _
  go_enter Tryz.func27,Tryz.ntmps27
  go_wp2_with fail
  refine(AE H1 _).mono ?_
  rintro e w1 ⟨hb1,rfl⟩
  go_wp2_with fail
  refine(AE H2 _).mono ?_
  rintro e w2 ⟨hb2,rfl⟩
  go_wp2_with fail
  refine(AE H3 _).mono ?_
  rintro e w3 ⟨rfl,m3,rfl⟩
  go_wp2_with (go_at_call 33;refine(G8 _ _).mono ?_;rintro e w' ⟨rfl,hw⟩;obtain rfl:=hw.symm)
  go_ret2
  exact⟨below_drewN (hb1.trans (hb2.mono hb1.size)) _,rfl⟩
 | ok cl =>
  obtain⟨hl1,hl2⟩:=hlens cl hr
  rw[hr] at h1 h2
  have H1:=AB h1
  have H2:=AB h2
  clear h1 h2 hr hlens
  go_enter Tryz.func27,Tryz.ntmps27
  go_wp2_with fail
  refine(AE H1 _).mono ?_
  rintro e w1 ⟨hb1,a1,c1,vs1,rfl,hL1⟩
  go_wp2_with fail
  refine(AE H2 _).mono ?_
  rintro e w2 ⟨hb2,a2,c2,vs2,rfl,hL2⟩
  obtain⟨A2,C2,hr2⟩:=hL2.rowsAt (fun x hx=>Nat.le_trans (hl2 x hx) (by decide))
  have hL1':=hL1.below hb2
  obtain⟨A1,C1,hr1⟩:=hL1'.rowsAt (fun x hx=>Nat.le_trans (hl2 x hx) (by decide))
  have h3:=JL a1 a2 c1 c2 A1 A2 C1 C2 cl cl w2 (by omega) hr1 hr2
  rw[show Hq cl cl=true by simp[Hq]] at h3
  have H3:=AB h3
  have hb:Below w.heap.size w w2:=hb1.trans (hb2.mono hb1.size)
  have HL:=AB hL1'
  clear h3 hr1 hr2 hL1 hL2 hL1' hb1 hb2
  go_wp2_with fail
  refine(AE H3).mono ?_
  rintro e w3 ⟨rfl,m3,rfl⟩
  go_wp2_with (go_at_call 33;refine(G8 _ _).mono ?_;rintro e w' ⟨rfl,hw⟩;obtain rfl:=hw.symm)
  go_ret2
  exact⟨below_drewN hb _,a1,c1,vs1,rfl,HL.out.below (Ef _ _)⟩
set_option maxHeartbeats 1000000 in
theorem XW(a:Option Addr)(c:Nat)(A:Nat→Option Addr)(C:Nat→Nat)(xss:List (List Int))(w:World)(h0:0<w.heap.size)(htab:Hid (Fx w))(hbd:xss.length≤4294967296)(hr:CC w a A C xss)(hlens:Hid (∀ x∈xss,x.length≤4294967296)) :
  Calls Tryz.prog 28 #[.slice a xss.length c] w fun e w'=>e=.returned (.tuple #[.string ⟨(QE xss).toArray⟩,.bool true])∧Below w.heap.size w w':=by
 have hE:(XT xss == XT xss)=true:=beq_self_eq_true _
 have hT:((⟨(QE xss).toArray⟩:ByteArray).toList == (⟨(QE xss).toArray⟩:ByteArray).toList)=true:=beq_self_eq_true _
 have H0:=AB (IY a c A C xss w hbd hr hlens)
 go_enter Tryz.func28,Tryz.ntmps28
 go_wp2_with fail
 refine(AE H0).mono ?_
 rintro e w1 ⟨G,gs,gl,rfl,hsp,hb1⟩
 obtain⟨A1,C1,hr1⟩:=hsp.rows hlens.out
 have H1:=AB (XU (some ⟨G,0,none⟩) (xss.length+1) A1 C1 xss w1 (Nat.lt_of_lt_of_le h0 hb1.size) (Fx.below htab.out hb1 h0) (by omega) hr1)
 clear hr1
 go_wp2_with fail
 refine(AE H1).mono ?_
 rintro e w2 ⟨rfl,hb2⟩
 have hb2':Below w.heap.size w w2:=hb1.trans (hb2.mono hb1.size)
 have H2:=AB (UN w.heap.size G gl gs a c A C xss w w2 hbd (hsp.below hb2) rfl hb2' hr hlens)
 clear hb1 hb2 hsp H1 H0
 go_wp2_with fail
 refine(AE H2).mono ?_
 rintro e w3 ⟨rfl,hb3⟩
 have H3:=AB (Ui a c A C xss w3 (by omega) (hr.below hb3))
 clear H2 hb2'
 go_wp2_with fail
 refine(AE H3).mono ?_
 rintro e w4 ⟨rfl,hb4⟩
 have hb4':Below w.heap.size w w4:=hb3.trans (hb4.mono hb3.size)
 clear hb3 hb4 H3
 go_wp2_with (go_at_call 33;refine(G8 _ _).mono ?_;rintro e w' ⟨rfl,hw⟩;obtain rfl:=hw.symm)
 go_ret2
 exact⟨rfl,hb4'⟩
end Go.Proofs.YthboeppmlhbofaaGreatDoor
