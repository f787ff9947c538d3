import Derived.Test.YthboeppmlhbofaaGreatDoorGam
import Derived.Test.YthboeppmlhbofaaGreatDoorCards
import Derived.Test.YthboeppmlhbofaaGreatDoorTie
import Derived.ProofKit
import Derived.OpenShut
import Derived.LaidMore
import Derived.LaidSub
import Derived.Deep.DeepHandedRow
import Derived.Lib.LaidTab
import Derived.Test.YthboeppmlhbofaaGreatDoorLbl
namespace Go.Proofs.YthboeppmlhbofaaGreatDoor
open Go.RowKit Txt
set_option maxRecDepth 100000
theorem inK_asks{k:Int}(h:YH [12,14,15,16,20,17,18,19] k=true):OV k:=by
 simp only[YH,List.any_cons,List.any_nil,Bool.or_false,Bool.or_eq_true,decide_eq_true_eq,beq_iff_eq] at h
 unfold OV
 omega
set_option maxHeartbeats 2000000 in
theorem asksX_any(P:DH)(a:Option Addr)(c:Nat)(ops:List Cq)(w:World)(h:Gb w a ops)(hlen:ops.length≤9223372036854775807)(hs:∀ o∈ops,o.s.size≤4611686018427387904)
  (hr:∀ o∈ops,(-9223372036854775808≤o.a∧o.a≤9223372036854775807)∧(-9223372036854775808≤o.b∧o.b≤9223372036854775807)) (h0:0<w.heap.size) (htab:Fx w) :
  Calls Tryz.prog 7 #[.slice a ops.length c] w fun e w'=>e=.returned (.bool true)∧Below w.heap.size w w':=by
 have hb:Below w.heap.size w (w.alloc (.cells #[.int .i64 12,.int .i64 14,.int .i64 15,.int .i64 16,.int .i64 20,.int .i64 17,.int .i64 18,.int .i64 19] 3)):=(Below.refl _ _).alloc (Nat.le_refl _) _
 have hki:AS (w.alloc (.cells #[.int .i64 12,.int .i64 14,.int .i64 15,.int .i64 16,.int .i64 20,.int .i64 17,.int .i64 18,.int .i64 19] 3)) (some ⟨w.heap.size,0,none⟩) [12,14,15,16,20,17,18,19]:=by
  refine .inr ⟨w.heap.size,0,rfl,fun j hj=>?_⟩
  have:=AH w [.int .i64 12,.int .i64 14,.int .i64 15,.int .i64 16,.int .i64 20,.int .i64 17,.int .i64 18,.int .i64 19] 3 j (.int .i64 (([12,14,15,16,20,17,18,19]:List Int).getD j 0)) (by
   have:j=0∨j=1∨j=2∨j=3∨j=4∨j=5∨j=6∨j=7:=by simp at hj;omega
   rcases this with rfl|rfl|rfl|rfl|rfl|rfl|rfl|rfl <;> rfl)
  rwa [Ch] at this
 have HP:=AB (Wq a (some ⟨w.heap.size,0,none⟩) c 8 ops [12,14,15,16,20,17,18,19] (w.alloc (.cells #[.int .i64 12,.int .i64 14,.int .i64 15,.int .i64 16,.int .i64 20,.int .i64 17,.int .i64 18,.int .i64 19] 3)) (h.below hb) hlen hs hki (by simp) (by
  intro a' c' w' hsm hb' hops
  obtain⟨p1,p2⟩:=Rx hsm
  refine dh P a' c' _ w' hops (Nat.le_trans (List.length_filter_le _ _) p1) (fun o ho=>?_) (Nat.lt_of_lt_of_le (by simp) hb'.size) (Fx.below (Fx.below htab hb h0) hb' (by simp))
  obtain⟨m1,m2⟩:=List.mem_filter.1 ho
  exact⟨⟨(hr o m1).1,(hr o m1).2,p2 o m1⟩,inK_asks m2⟩))
 have HB:=AB hb
 clear hb hki h hs hr
 go_enter Tryz.func7,Tryz.ntmps7
 go_wp2_with fail
 refine(AE HP).mono ?_
 rintro e w' ⟨rfl,hb'⟩
 have HZ:Hid (Below w.heap.size w w'):=HB.out.trans (hb'.mono HB.out.size)
 clear hb'
 go_wp2
 go_ret
 exact⟨rfl,HZ.out⟩
open Go.ChangeShapes Go.WideShapes Go.ChangeAt Go.RowKit Go.Deep
theorem own:ownKnob Tryz.prog.godebug=none:=by kernel_rfl
theorem Iw:(Tryz.prog.globals[0]?).map (·.type)=some 194:=by kernel_rfl
theorem Ni:Tryz.prog.underlying 194=some (.array 20 188):=by kernel_rfl
theorem Nj:Tryz.prog.underlying 188=some (.int .u64):=by kernel_rfl
theorem Iq:Tryz.prog.cellsOf 194=20:=by kernel_rfl
theorem Ir:Tryz.prog.cellsOf 188=1:=by kernel_rfl
theorem Kk:laidOutB Tryz.prog=true:=by kernel_rfl
theorem SL{W:World}(h:laidMetH Tryz.prog Rows.asksRow.laid W):Fx W:=by
 have h1 := h.filter (fun x => x.1 == "internal/strconv.uint64pow10")
 have e : Rows.asksRow.laid.filter (fun x => x.1 == "internal/strconv.uint64pow10") = [("internal/strconv.uint64pow10", Lib.tabData .u64 Lib.pow10Tab)] := by kernel_rfl
 rw[e,MakeChecks.laidMetH_plain _ _ _ (by kernel_rfl)] at h1
 exact Lib.tabIs_of_head (rest:=[]) TV Iw Ni Nj Ir Iq h1
theorem It(P:DH)(H:Type)(enc:TypeId × Value→H)(W:World)(base:Nat)(args:Array Value)(ds gs:List (DataW H))(before:List MemPlace)
  (hval:∀ (j:Nat) t v,Tryz.f7.params[j]?=some t→args[j]?=some v→Value.okWide Tryz.prog W .any base t v)
  (hW:DataW.Whole enc Tryz.prog Tryz.f7.params.toList Rows.asksSpec.vars false W args.toList ds gs before) (hz:(DataW.weightsEach Tryz.prog (Tryz.f7.params.toList++(OpenSpec.ofChange Rows.asksSpec).bare.plain.varTypes Tryz.prog) (ds++gs)).all (·≤reachBytes)=true) (hL:laidMetH Tryz.prog Rows.asksRow.laid W) :
  Calls Tryz.prog 7 args W fun e W'=>∃ v,e=.returned v∧Rows.asksSpec.post enc Tryz.prog Tryz.f7 false true false false W args v W':=by
 have hW':=hW
 obtain⟨p,q,hA0,hV,rfl,hfz,hnd⟩:=hW
 have hA:DataW.TrodAll enc Tryz.prog W 0 (fun _=>true) true Tryz.f7.params.toList args.toList ds p:=hA0
 rw[Tryz.params7] at hA hval hz
 obtain⟨v0,vs0,d0,ds0,p0,q0,hargs,rfl,rfl,h0,r0⟩:=trodAll_cons hA
 obtain⟨rfl,rfl,rfl⟩:=trodAll_nil r0
 obtain rfl:args=#[v0]:=by cases args;simp_all
 obtain⟨rfl,rfl⟩:=trodVars_none hV
 clear hA0
 have htab:=SL hL
 have hpos:0<W.heap.size:=by
  have:=htab.cell TV 0 (by decide)
  exact World.block_lt_of_cell? W _ this
 have k0:=h0
 have lt0:∀ x∈p0,x.block<W.heap.size:=by obtain⟨m,hm⟩:=k0;exact DataW.trod_lt m _ _ _ hm
 obtain⟨a0,len,cap,rfl⟩:=okWide_slice Tryz.undOps (hval 0 22 v0 rfl rfl)
 have walk:Calls Tryz.prog 7 #[.slice a0 len cap] W fun e w'=>e=.returned (.bool true)∧Below W.heap.size W w':=by
  obtain⟨fuel,hf⟩:=h0
  obtain⟨ops,rfl,o1,o2,o3,o4⟩:=NJ hf (fun n hn=>by
   have:=List.all_eq_true.1 hz n (DataW.weights_mem_each (j:=0) (t:=22) (d:=d0) rfl rfl n hn)
   simpa using this)
  exact asksX_any P a0 cap ops W o1 o2 o3 o4 hpos htab
 refine walk.mono fun e W' ⟨he,bel⟩=>?_
 subst he
 exact⟨_,rfl,_,_,_,[],_,[],hW',trodAll_mk1 (shut_bool P9 _),trodAll_cons_mk (Below.trod Kk (by kernel_rfl) (of_decide_eq_true (by kernel_rfl)) k0 bel lt0) trodAll_mk0,rfl,bel.frame _,fun h=>by cases h⟩
theorem Ix(os:Os):laidMetH Tryz.prog Rows.asksRow.laid ((World.doorLaid Tryz.prog 400 os).forCall (fun _ _=>0) ⟨#[],#[.slice none 0 0],[]⟩).memory :=
 laidMetH_of_parts3 (fuel:=8) (laidMet_of_run' 8 (by kernel_rfl) (by kernel_rfl)) (by kernel_rfl) (by kernel_rfl)
theorem Rn(os:Os){H:Type}(enc:TypeId × Value→H):∃ places,DataW.whole enc Tryz.prog ((World.doorLaid Tryz.prog 400 os).forCall (fun _ _=>0) ⟨#[],#[.slice none 0 0],[]⟩).memory Tryz.f7.params.toList Rows.asksSpec.vars false #[Value.slice none 0 0].toList 8=some ([.nil],[],places) :=
 ⟨[],by kernel_rfl⟩
theorem Mw(P:DH)(os:Os)(started:os.Started)(H:Type)(enc:TypeId × Value→H)(F:Stop.Interp) :
  ReturnsInHanded {} Tryz.checked os 7 .any ((OpenSpec.ofChange Rows.asksSpec).preRow enc Tryz.prog Tryz.f7 Rows.asksRow.domain false Rows.asksRow.laid) (((OpenSpec.ofChange Rows.asksSpec).at F).post enc Tryz.prog Tryz.f7 false true false false):=by
 obtain⟨places,hx⟩:=Rn os enc
 refine returnsInHanded_of_row (C:=Tryz.checked) (s:=OpenSpec.ofChange Rows.asksSpec) own started (by kernel_rfl) Tryz.func7
  (witness_row_at (enc:=enc) (C:=Tryz.checked) false (World.doorLaid Tryz.prog 400 os) #[.slice none 0 0] rfl (by kernel_rfl) (by kernel_rfl) (by kernel_rfl)
   (OpenSpec.preRow_of_cond 8 hx (by kernel_rfl) (fun k hk=>by cases hk) (by kernel_rfl) (Ix os))) ?_
 intro W base args ds gs before hval hW _ _ hz hL _ _
 exact It P H enc W base args ds gs before hval hW hz hL
theorem ZQ(P:DH):Rows.AsksSaid :=
 OpenClaim.holds_of_cond 7 Tryz.f7 rfl rfl rfl rfl rfl rfl rfl ⟨rfl,rfl,rfl,rfl,rfl⟩ rfl rfl rfl rfl rfl (by kernel_rfl) Tryz.func7 (by kernel_rfl)
  (of_decide_eq_true (by kernel_rfl)) (by unfold Func.isWrapper;first | (rw[if_pos (by decide +kernel)];kernel_rfl) | (rw[if_neg (by decide +kernel)];exact⟨rfl,rfl⟩))
  (fun os started H enc _ F=>by rw[OpenClaim.pre_eq_preRow];exact Mw P os started H enc F)
theorem plain (f : FuncId) (fn : Func) (hf : Tryz.pinned.checked.prog.funcNamed "trail/traillaw.Asks" = some f) (hfn : Tryz.pinned.checked.prog.funcs[f]? = some fn) :
  false=Tryz.pinned.checked.prog.looks []∧∀ (j:Nat) t,fn.params[j]?=some t→Tryz.pinned.checked.prog.wantsStandIn t=false:=by
 obtain rfl : f = 7 := Option.some.inj ((show Tryz.prog.funcNamed "trail/traillaw.Asks" = some 7 by kernel_rfl).symm.trans hf) |>.symm
 obtain rfl:fn=Tryz.f7:=(Option.some.inj (Tryz.func7.symm.trans hfn)).symm
 refine⟨by kernel_rfl,fun j t ht=>?_⟩
 rw[Tryz.params7] at ht
 obtain rfl:t=22:=by simpa using Array.mem_of_getElem? ht
 exact(show Tryz.prog.wantsStandIn 22=false by kernel_rfl)
theorem QR(P:DH):Rows.AsksCardSaid :=
 Claim7.holds_tied_plain_at .later [] _ _ _ _ (ZQ P) (fun _ h=>by cases h) (by kernel_rfl) (fun _ h=>by cases h) asks_row_tie rfl ⟨rfl,rfl⟩ (by kernel_rfl) rfl plain (by kernel_rfl)
theorem card:Rows.AsksCardSaid:=QR cY
end Go.Proofs.YthboeppmlhbofaaGreatDoor
