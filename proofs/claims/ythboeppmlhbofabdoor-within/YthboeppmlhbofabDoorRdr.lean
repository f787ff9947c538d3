import Derived.Test.YthboeppmlhbofabDoorWrt
namespace Go.Proofs.YthboeppmlhbofabDoor
open Go.RowKit Txt
set_option maxRecDepth 100000
theorem Tryd.infoInt:(Tryd.prog.info? 3).map (fun i=>(i.zero,i.size,i.bytes))=some (some (.int .i64 0),1,8):=by kernel_rfl
theorem Tryd.infoInts:(Tryd.prog.info? 23).map (fun i=>(i.zero,i.size,i.bytes))=some (some (.slice none 0 0),1,24):=by kernel_rfl
theorem Tryd.undInts:Tryd.prog.underlying 23=some (.slice 3):=by kernel_rfl
theorem Tryd.undLists:Tryd.prog.underlying 22=some (.slice 23):=by kernel_rfl
theorem new_cells1(w:World)(l:List Value)(e:TypeId):∀ j u,l[j]?=some u→(w.alloc (.cells l.toArray e)).cell? ((⟨w.heap.size,0,none⟩:Addr).add j)=some u:=by
 intro j u hu
 have hadd:(⟨w.heap.size,0,none⟩:Addr).add j=⟨w.heap.size,j,none⟩:=by unfold Addr.add;split <;> simp_all
 rw[hadd,cell_of_row _ w.heap.size j l.toArray e (0,0) (heap_alloc_new w _)]
 simpa using hu
structure Reading(w:World)(B:Nat)(v:Value)(vs:List Value)(cl:List (List Int))(vo:Value)(op:List Int):Prop where
 lists:Lists w B 23 3 v vs cl
 last:w.ownsRow B 3 1 vo op.length (i64s op)
 apart:∀ u∈vs,Apart u vo
theorem Reading.start(w:World)(B:Nat):Reading w B (.slice none 0 0) [] [] (.slice none 0 0) [] :=
 ⟨⟨World.ownsRow_nil _ _ _ _,trivial,List.Pairwise.nil⟩,World.ownsRow_nil _ _ _ _,by simp⟩
theorem ne_lists:(3:Nat)≠23:=by decide
theorem Reading.push{w w':World}{B:Nat}{v:Value}{vs:List Value}{cl:List (List Int)}{vo:Value}{op:List Int}(h:Reading w B v vs cl vo op)(o:Obj)(x:Int){v':Value}
  (hown:w'.ownsRow B 3 1 v' (op.length+1) (i64s op++[.int .i64 x])) (hg:(w.alloc o).grownBy w' vo.ownBlock) (hwh:v'.ownBlock=vo.ownBlock∨v'.ownBlock=some (w.alloc o).heap.size) :
  ∃ a c,v'=.slice a (op++[x]).length c∧Reading w' B v vs cl (.slice a (op++[x]).length c) (op++[x]):=by
 obtain⟨a,c,rfl,h2⟩:=own_list (op++[x]) (by simp) (by simp[i64s]) hown
 have hka:∀ u,Apart u vo→∀ e n xs,w.ownsRow B e 1 u n xs→w'.ownsRow B e 1 u n xs:=fun u hu e n xs hh=>own_apart_kept (hh.alloc o) hg hu
 refine⟨a,c,rfl,⟨⟨hka v (apart_types ne_lists h.last h.lists.top).symm _ _ _ h.lists.top,h.lists.each.map (fun u hu n xs hh=>hka u (h.apart u hu) _ n xs hh),h.lists.apart⟩,h2,fun u hu=>?_⟩⟩
 obtain⟨xs,hx⟩:=h.lists.each.mem hu
 exact apart_moved hx (h.apart u hu) (by simp) hwh
theorem Reading.close{w w':World}{B:Nat}{v:Value}{vs:List Value}{cl:List (List Int)}{vo:Value}{op:List Int}(h:Reading w B v vs cl vo op)(o:Obj){v':Value}
  (hown:w'.ownsRow B 23 1 v' (cl.length+1) (vs++[vo])) (hg:(w.alloc o).grownBy w' v.ownBlock) :
  ∃ a c,v'=.slice a (cl++[op]).length c∧Reading w' B (.slice a (cl++[op]).length c) (vs++[vo]) (cl++[op]) (.slice none 0 0) []:=by
 obtain⟨a,c,rfl,h2⟩:=own_rows (m:=(cl++[op]).length) (by simp) hown
 have hka:∀ u,Apart u v→∀ e n xs,w.ownsRow B e 1 u n xs→w'.ownsRow B e 1 u n xs:=fun u hu e n xs hh=>own_apart_kept (hh.alloc o) hg hu
 refine⟨a,c,rfl,⟨⟨h2,?_,?_⟩,World.ownsRow_nil _ _ _ _,fun u _=>apart_nil u⟩⟩
 ·refine AllOwn.snoc (h.lists.each.map (fun u hu n xs hh=>?_)) (hka vo (apart_types ne_lists h.last h.lists.top) _ _ _ h.last)
  obtain⟨ys,hy⟩:=h.lists.each.mem hu
  exact hka u (apart_types ne_lists hy h.lists.top) _ n xs hh
 ·exact List.pairwise_append.2 ⟨h.lists.apart,by simp,fun u hu x hx=>by simp at hx;subst hx;exact h.apart u hu⟩
def RdPost(B:Nat)(w:World)(r:Res)(e:Ending)(w':World):Prop :=
 Below B w w'∧match r with
 | .err x p=>e=.returned (.tuple #[.slice none 0 0,.int .i64 x,.int .i64 p])
 | .ok cl=>∃ a c vs,e=.returned (.tuple #[.slice a cl.length c,.int .i64 0,.int .i64 0])∧Lists w' B 23 3 (.slice a cl.length c) vs cl
theorem ret_err{x y:Int}{p q:Int}(h:x=y)(h':p=q):Ending.returned (.tuple #[.slice none 0 0,.int .i64 x,.int .i64 p])=.returned (.tuple #[.slice none 0 0,.int .i64 y,.int .i64 q]):=by rw[h,h']
def bitN(l:Int):Nat:=if 0<l then 2^(2*l - 2).toNat else 2^(-2*l - 1).toNat
def setN(xs:List Int):Nat:=xs.foldl (fun a l=>a|||bitN l) 0
theorem wraps_i64(n:Int)(h0:0≤n)(h1:n<2^63):IntKind.i64.wrap n=n:=by rw[IntKind.wrap_i64];omega
theorem or64(a b:Nat)(ha:a<2^63)(hb:b<2^63):bits .or .i64 (a:Int) (b:Int)=((a|||b:Nat):Int):=(bits_nat .i64 63 (by decide) wraps_i64 a b ha hb).2
theorem and64(a b:Nat)(ha:a<2^63)(hb:b<2^63):bits .and .i64 (a:Int) (b:Int)=((a&&&b:Nat):Int):=(bits_nat .i64 63 (by decide) wraps_i64 a b ha hb).1
theorem bitN_lt{l:Int}(h:litB l=true):bitN l<2^20:=by
 rcases lit_cases h with rfl|rfl|rfl|rfl|rfl|rfl|rfl|rfl|rfl|rfl|rfl|rfl|rfl|rfl|rfl|rfl|rfl|rfl|rfl|rfl <;> decide
theorem setN_snoc(xs:List Int)(x:Int):setN (xs++[x])=setN xs|||bitN x:=by simp[setN]
theorem setN_lt(xs:List Int)(h:xs.all litB=true):setN xs<2^20:=by
 have key:∀ (ys:List Int) (a:Nat),ys.all litB=true→a<2^20→ys.foldl (fun a l=>a|||bitN l) a<2^20:=by
  intro ys
  induction ys with
  | nil=>intro a _ h;exact h
  | cons y ys ih =>
   intro a hy ha
   simp only[List.all_cons,Bool.and_eq_true] at hy
   exact ih _ hy.2 (Nat.or_lt_two_pow ha (bitN_lt hy.1))
 exact key xs 0 h (by decide)
theorem all_take{xs:List Int}(h:xs.all litB=true)(k:Nat):(xs.take k).all litB=true :=
 List.all_eq_true.2 fun x hx=>List.all_eq_true.1 h x (List.mem_of_mem_take hx)
theorem take_get(xs:List Int)(k:Nat)(h:k<xs.length):xs.take (k+1)=xs.take k++[xs.getD k 0]:=by
 rw[List.take_succ_eq_append_getElem h,List.getD_eq_getElem?_getD,List.getElem?_eq_getElem h];rfl
def setOk(xs:List Int):Nat:=if xs.all litB then setN xs else 0
theorem ret_set{a b:Int}{c d:Bool}(h:a=b)(h':c=d):Ending.returned (.tuple #[.int .i64 a,.bool c])=.returned (.tuple #[.int .i64 b,.bool d]):=by rw[h,h']
theorem grown_trans{w w1 w2:World}(h:w.grownBy w1 none)(h':w1.grownBy w2 none):w.grownBy w2 none :=
 ⟨h'.os.trans h.os,h'.tape.trans h.tape,h'.output.trans h.output,Nat.le_trans h.size h'.size,fun k hk hn=>(h'.block k (Nat.lt_of_lt_of_le hk h.size) hn).trans (h.block k hk hn)⟩
theorem conv_new(w:World)(l:List UInt8)(c:Nat):(convert 66 9 (.slice (some ⟨w.heap.size,0,none⟩) l.length c)).run Tryd.prog (w.alloc (.cells (c8 l).toArray 5))=.ok (.string ⟨l.toArray⟩) (w.alloc (.cells (c8 l).toArray 5)):=by
 have hb:Tryd.prog.underlying 5=some (.int .u8):=by kernel_rfl
 refine run_convert_bytes_back (w.alloc (.cells (c8 l).toArray 5)) _ _ 5 _ c l Tryd.undBytes hb Tryd.undString fun j hj=>?_
 exact new_cells w (c8 l) 5 j _ (by simp[c8,hj])
theorem digit_text(k:Nat)(h:k≤9):Lib.itoa (k:Int)=[UInt8.ofNat (48+k)]:=by
 have:k=0∨k=1∨k=2∨k=3∨k=4∨k=5∨k=6∨k=7∨k=8∨k=9:=by omega
 rcases this with rfl|rfl|rfl|rfl|rfl|rfl|rfl|rfl|rfl|rfl <;> decide +kernel
theorem itoa_neg{k:Nat}(h1:1≤k)(h2:k≤10):Lib.itoa (-(k:Int))=45 :: Lib.itoa (k:Int):=by
 have:k=1∨k=2∨k=3∨k=4∨k=5∨k=6∨k=7∨k=8∨k=9∨k=10:=by omega
 rcases this with rfl|rfl|rfl|rfl|rfl|rfl|rfl|rfl|rfl|rfl <;> decide +kernel
theorem itoa_ten:Lib.itoa 10=Lib.itoa ((1:Nat):Int)++Lib.itoa ((0:Nat):Int):=by decide +kernel
theorem arr_append(s t:List UInt8):(⟨s.toArray⟩:ByteArray)++⟨t.toArray⟩=⟨(s++t).toArray⟩:=by
 apply ByteArray.ext
 simp
theorem lit_nat{n:Int}(h:litB n=true):(∃ k:Nat,n=k∧k≤9)∨n=10∨∃ k:Nat,n=-(k:Int)∧1≤k∧k≤10:=by
 simp only[litB,Bool.and_eq_true,bne_iff_ne,decide_eq_true_eq] at h
 by_cases h0:0≤n
 ·by_cases h9:n≤9
  ·exact .inl ⟨n.toNat,by omega,by omega⟩
  ·exact .inr (.inl (by omega))
 ·exact .inr (.inr ⟨(-n).toNat,by omega,by omega,by omega⟩)
end Go.Proofs.YthboeppmlhbofabDoor
