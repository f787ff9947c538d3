/-
  traillaw's keep: the walk.
-/
import Derived.Test.YthboeppmlhbofaaHld
import Derived.Test.YthboeppmlhbofaaApp
namespace Go.Proofs.Ythboeppmlhbofaa
open Go.RowKit Txt
set_option maxRecDepth 100000

/-- what is still to be kept, apart from all of the world's -/
structure Rest (w : World) (B : Nat) (V : WV) (s : St) (tp : Value) (n : Nat) (vs : List Value) (us : List Value) (cs : List (List Int)) : Prop where
  top : w.ownsRow B 24 1 tp n vs
  each : AllOwn w B 3 us cs
  pw : us.Pairwise Apart
  t1 : Apart tp (V.vo s)
  t2 : Apart tp (V.vw s)
  f0 : ∀ u ∈ us, Apart u (V.vl s)
  fc : ∀ u ∈ us, ∀ v ∈ V.vcs, Apart v u
  fo : ∀ u ∈ us, ∀ v ∈ V.vos, Apart v u
  fw : ∀ u ∈ us, ∀ v ∈ V.vws, Apart v u

theorem Rest.touch {w w' : World} {B : Nat} {V : WV} {s : St} {top : Value} {n : Nat} {vs us : List Value} {cs : List (List Int)} (h : Rest w B V s top n vs us cs) {u : Value} {k : Nat} {zs : List Value} (hu : w.ownsRow B 3 1 u k zs) (hg : w.grownBy w' u.ownBlock) (hap : ∀ v ∈ us, Apart v u) : Rest w' B V s top n vs us cs :=
  ⟨own_apart_kept h.top hg (apart_types n_il.symm h.top hu), h.each.map (fun v hv _ _ hh => own_apart_kept hh hg (hap v hv)), h.pw, h.t1, h.t2, h.f0, h.fc, h.fo, h.fw⟩
theorem Rest.below {w w' : World} {B : Nat} {V : WV} {s : St} {top : Value} {n : Nat} {vs us : List Value} {cs : List (List Int)} (h : Rest w B V s top n vs us cs) (hb : Below w.heap.size w w') : Rest w' B V s top n vs us cs :=
  ⟨own_below h.top hb, h.each.map (fun _ _ _ _ hh => own_below hh hb), h.pw, h.t1, h.t2, h.f0, h.fc, h.fo, h.fw⟩
theorem Rest.tail {w : World} {B : Nat} {V : WV} {s : St} {top : Value} {n : Nat} {vs us : List Value} {cs : List (List Int)} {u : Value} {c : List Int} (h : Rest w B V s top n vs (u :: us) (c :: cs)) : Rest w B V s top n vs us cs :=
  ⟨h.top, h.each.2, (List.pairwise_cons.1 h.pw).2, h.t1, h.t2, fun x hx => h.f0 x (by simp [hx]), fun x hx => h.fc x (by simp [hx]), fun x hx => h.fo x (by simp [hx]), fun x hx => h.fw x (by simp [hx])⟩

theorem addr0 (g k : Nat) : (⟨g, 0, none⟩ : Addr).add k = ⟨g, 0 + k, none⟩ := by unfold Addr.add; split <;> simp_all

theorem grown_undrew {w w' : World} {r : Option Nat} (h : w.drew.grownBy w' r) : w.grownBy w' r := ⟨h.os, h.tape, h.output, h.size, h.block⟩
end Go.Proofs.Ythboeppmlhbofaa
