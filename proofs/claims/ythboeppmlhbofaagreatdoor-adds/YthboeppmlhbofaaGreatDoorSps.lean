/-
  traillaw's spares and stills: lists of lists that are handed in with room behind them.
-/
import Derived.Test.YthboeppmlhbofaaGreatDoorLaw
import Derived.Deep.RegionHeld3
namespace Go.Proofs.YthboeppmlhbofaaGreatDoor
open Go.RowKit Txt
set_option maxRecDepth 100000

/-- each block holds its list, and two sevens behind -/
def SpAll (w : World) : List Nat → List (List Int) → Prop
  | [], [] => True
  | g :: gs, c :: cs => Row w g 3 (i64s c ++ sevens) ∧ SpAll w gs cs
  | _, _ => False
def spCells : List Nat → List (List Int) → List Value
  | g :: gs, c :: cs => .slice (some ⟨g, 0, none⟩) c.length (c.length + 2) :: spCells gs cs
  | _, _ => []
theorem SpAll.len {w : World} {gs : List Nat} {cs : List (List Int)} (h : SpAll w gs cs) : gs.length = cs.length := by
  induction gs generalizing cs with
  | nil => cases cs with
    | nil => rfl
    | cons c cs => exact h.elim
  | cons g gs ih => cases cs with
    | nil => exact h.elim
    | cons c cs => simp [ih h.2]
theorem spCells_len {gs : List Nat} {cs : List (List Int)} (h : gs.length = cs.length) : (spCells gs cs).length = cs.length := by
  induction gs generalizing cs with
  | nil => cases cs with
    | nil => rfl
    | cons c cs => simp at h
  | cons g gs ih => cases cs with
    | nil => simp at h
    | cons c cs => simp [spCells, ih (by simpa using h)]
theorem SpAll.snoc {w : World} {gs : List Nat} {cs : List (List Int)} {g : Nat} {c : List Int} (h : SpAll w gs cs) (hg : Row w g 3 (i64s c ++ sevens)) : SpAll w (gs ++ [g]) (cs ++ [c]) := by
  induction gs generalizing cs with
  | nil => cases cs with
    | nil => exact ⟨hg, trivial⟩
    | cons c' cs => exact h.elim
  | cons g' gs ih => cases cs with
    | nil => exact h.elim
    | cons c' cs => exact ⟨h.1, ih h.2⟩
theorem spCells_snoc {gs : List Nat} {cs : List (List Int)} (h : gs.length = cs.length) (g : Nat) (c : List Int) : spCells (gs ++ [g]) (cs ++ [c]) = spCells gs cs ++ [.slice (some ⟨g, 0, none⟩) c.length (c.length + 2)] := by
  induction gs generalizing cs with
  | nil => cases cs with
    | nil => rfl
    | cons c' cs => simp at h
  | cons g' gs ih => cases cs with
    | nil => simp at h
    | cons c' cs => simp [spCells, ih (by simpa using h)]
theorem SpAll.map {w w' : World} {gs : List Nat} {cs : List (List Int)} (h : SpAll w gs cs) (hk : ∀ g ∈ gs, w'.heap[g]? = w.heap[g]?) : SpAll w' gs cs := by
  induction gs generalizing cs with
  | nil => cases cs with
    | nil => exact trivial
    | cons c' cs => exact h.elim
  | cons g' gs ih => cases cs with
    | nil => exact h.elim
    | cons c' cs => exact ⟨(hk g' (by simp)).trans h.1, ih h.2 (fun g hg => hk g (by simp [hg]))⟩
theorem SpAll.at {w : World} {gs : List Nat} {cs : List (List Int)} (h : SpAll w gs cs) (r : Nat) (hr : r < cs.length) :
    ∃ g, gs[r]? = some g ∧ Row w g 3 (i64s (cs.getD r []) ++ sevens) ∧ (spCells gs cs)[r]? = some (.slice (some ⟨g, 0, none⟩) (cs.getD r []).length ((cs.getD r []).length + 2)) := by
  induction gs generalizing cs r with
  | nil => cases cs with
    | nil => simp at hr
    | cons c' cs => exact h.elim
  | cons g' gs ih => cases cs with
    | nil => exact h.elim
    | cons c' cs => cases r with
      | zero => exact ⟨g', rfl, h.1, rfl⟩
      | succ r =>
        obtain ⟨g, h1, h2, h3⟩ := ih h.2 r (by simpa using hr)
        exact ⟨g, by simpa using h1, by simpa using h2, by simpa [spCells] using h3⟩
theorem SpAll.lt {w : World} {gs : List Nat} {cs : List (List Int)} (h : SpAll w gs cs) : ∀ g ∈ gs, g < w.heap.size := by
  induction gs generalizing cs with
  | nil => simp
  | cons g' gs ih => cases cs with
    | nil => exact h.elim
    | cons c' cs =>
      intro g hg
      rcases List.mem_cons.1 hg with rfl | hg
      · exact h.1.lt
      · exact ih h.2 g hg

theorem infoInts_size : (Tryz.prog.info? 24).map (·.size) = some 1 := by kernel_rfl
theorem made_nils (n : Nat) : (madeCells (Value.slice none 0 0).cells (n * 1)).toList = List.replicate n (.slice none 0 0) := by
  have := toList_madeCells_one (.slice none 0 0) n
  simpa [Value.cells] using this

/-- what spares hands back: the outer block G, the inner blocks gs, the last one's gl -/
structure Sp (w : World) (B G : Nat) (gs : List Nat) (gl : Nat) (xss : List (List Int)) : Prop where
  top : Row w G 24 (spCells gs xss ++ [.slice (some ⟨gl, 0, none⟩) 1 1])
  each : SpAll w gs xss
  last : Row w gl 3 [.int .i64 7]
  nodup : gs.Nodup
  out : ∀ g ∈ gs, g ≠ G ∧ g ≠ gl ∧ B ≤ g
  base : B ≤ G ∧ B ≤ gl ∧ gl ≠ G

set_option maxHeartbeats 2000000 in
theorem spares_any (a : Option Addr) (c : Nat) (A : Nat → Option Addr) (C : Nat → Nat) (xss : List (List Int)) (w : World) (hbd : xss.length ≤ 4294967296) (hr : RowsAt w a A C xss) (hlens : Hid (∀ x ∈ xss, x.length ≤ 4294967296)) :
    Calls Tryz.prog 17 #[.slice a xss.length c] w fun e w' => ∃ G gs gl, e = .returned (.slice (some ⟨G, 0, none⟩) xss.length (xss.length + 1)) ∧ Sp w' w.heap.size G gs gl xss ∧ Below w.heap.size w w' := by
  obtain ⟨i1, gi, gz0, gz1, gz2⟩ := info_parts Tryz.infoInts
  have b2 : Hid (i1.bytes * (xss.length + 1) ≤ 281474976710656) := by show _ ≤ _; rw [gz2]; omega
  have b3 : Hid (xss.length + 1 ≤ maxLen) := by show _ ≤ _; unfold maxLen; omega
  go_enter Tryz.func17, Tryz.ntmps17
  go_wp2_with (first
    | (at_make; refine wpList_make_full _ rfl (.tmp 9) (.tmp 9) 30 rfl w.heap.size 24 i1 (.slice none 0 0) 1 Tryz.undLists gi gz0 gz1 .i64 .i64 _ _ (xss.length + 1) rfl rfl (by omega) (by omega) b2.out b3.out (Nat.le_refl _) ?_; intro w1 hown1 hg1; have hrow1 := row_of_own hown1; rw [made_nils] at hrow1; have hb1 : Below w.heap.size w w1 := (Below.refl _ _).grown hg1 (Nat.le_refl _) (by simp); have HR1 := hide hrow1; clear hown1 hg1 hrow1))
  go_loopw [5] (fun i wr => ∃ (k : Nat) (gs : List Nat), k ≤ xss.length ∧ i = .int .i64 k ∧ Hid (Row wr w.heap.size 24 (spCells gs (xss.take k) ++ List.replicate (xss.length + 1 - k) (.slice none 0 0))) ∧ Hid (SpAll wr gs (xss.take k)) ∧ Hid (gs.Nodup ∧ ∀ g ∈ gs, w.heap.size < g) ∧ Below w.heap.size w wr) (fun i _ => xss.length - (intOf i).toNat)
  case atStart => exact ⟨0, [], Nat.zero_le _, rfl, HR1.out, trivial, ⟨List.nodup_nil, by simp⟩, hb1⟩
  case round =>
    clear HR1 hb1
    obtain ⟨k, gs, hk, rfl, hrow, hall, hgs, hbel⟩ := hrel
    have hlg : gs.length = (xss.take k).length := hall.out.len
    have hlc := spCells_len hlg
    rw [List.length_take, Nat.min_eq_left hk] at hlc
    have hG : w.heap.size < wr.heap.size := hrow.out.lt
    by_cases hlt : k < xss.length
    · obtain ⟨b, off, rfl, hc⟩ := hr.get (by omega)
      obtain ⟨p1, q1, s1⟩ := hc k hlt
      have p2 : wr.cell? ⟨b, off + k, none⟩ = some (.slice (A k) (xss.getD k []).length (C k)) := (hbel.cell (p := ⟨b, off + k, none⟩) (World.block_lt_of_cell? w _ p1)).trans p1
      have q2 := q1.below hbel
      have hlx : (xss.getD k []).length ≤ 4294967296 := hlens.out _ (by rw [List.getD_eq_getElem?_getD, List.getElem?_eq_getElem hlt]; exact List.getElem_mem hlt)
      have HTK : Hid (xss.take (k + 1) = xss.take k ++ [xss.getD k []]) := by
        show _ = _
        rw [List.take_succ_eq_append_getElem hlt, List.getD_eq_getElem?_getD, List.getElem?_eq_getElem hlt]; rfl
      clear hc p1 q1 s1 hr
      generalize xss.getD k [] = xs at p2 q2 hlx HTK
      generalize A k = ak at p2 q2
      generalize C k = ck at p2
      have hcs := spare_any ak ck xs wr hlx q2
      have HCS := hide hcs
      clear hcs q2
      have HLG := hide hlg
      have HLC := hide hlc
      clear hlg hlc
      go_wp2_with (first
      | (go_at_call 24; refine (unhide HCS).mono ?_; rintro e w2 ⟨rfl, hrow2, hb2⟩;
            have hz2 : wr.heap.size < w2.heap.size := hrow2.lt;
            have e2 : w2.heap[w.heap.size]? = wr.heap[w.heap.size]? := hb2.block _ hG;
            have HR2 : Hid (Row w2 w.heap.size 24 (spCells gs (xss.take k) ++ List.replicate (xss.length + 1 - k) (.slice none 0 0))) := e2.trans hrow.out;
            have k1 : w2.cell? ⟨w.heap.size, k, none⟩ = some (.slice none 0 0) := (HR2.out.cell k).trans (by rw [List.getElem?_append_right (by rw [HLC.out]; exact Nat.le_refl _), HLC.out, Nat.sub_self, List.getElem?_replicate, if_pos (by omega)]);
            have k2 := HR2.out.frozen k;
            have HB2 := hide hb2;
            have HRow2 := hide hrow2; clear e2 hb2 hrow2))
      go_roundw
      case rel =>
        refine ⟨k + 1, gs ++ [wr.heap.size], by omega, by go_num, ?_, ?_, ?_, ?_⟩
        · have h := HR2.out.set k (.slice (some ⟨wr.heap.size, 0, none⟩) xs.length (xs.length + 2))
          show Row _ _ _ _
          rw [HTK.out, spCells_snoc HLG.out, List.append_assoc]
          rw [List.set_append_right _ _ (by rw [HLC.out]; exact Nat.le_refl _), HLC.out, Nat.sub_self, show xss.length + 1 - k = (xss.length + 1 - (k + 1)) + 1 by omega, List.replicate_succ, List.set_cons_zero] at h
          exact h
        · show SpAll _ _ _
          rw [HTK.out]
          refine SpAll.snoc (hall.out.map fun g hg => ?_) ?_
          · rw [Below.heap_setCell _ _ _ _ (by have := hgs.out.2 g hg; exact Nat.ne_of_gt this)]
            exact HB2.out.block g (hall.out.lt g hg)
          · show _ = _
            rw [Below.heap_setCell _ _ _ _ (Nat.ne_of_gt hG)]
            exact HRow2.out
        · refine ⟨List.nodup_append.2 ⟨hgs.out.1, by simp, fun g hg x hx => by simp at hx; subst hx; exact Nat.ne_of_lt (hall.out.lt g hg)⟩, fun g hg => ?_⟩
          rcases List.mem_append.1 hg with hg | hg
          · exact hgs.out.2 g hg
          · simp at hg; subst hg; exact hG
        · exact (hbel.trans (HB2.out.mono hbel.size)).setCell (Nat.le_refl _) _
      case measure => simp [intOf]; omega
    · obtain rfl : k = xss.length := by omega
      have ht : xss.take xss.length = xss := List.take_length
      rw [ht] at hrow hall hlg
      have k1 : wr.cell? ⟨w.heap.size, xss.length, none⟩ = some (.slice none 0 0) := (hrow.out.cell _).trans (by rw [List.getElem?_append_right (by rw [spCells_len hlg]; exact Nat.le_refl _), spCells_len hlg, Nat.sub_self, List.getElem?_replicate, if_pos (by omega)])
      have k2 := hrow.out.frozen xss.length
      have HLG := hide hlg
      clear hlg hlc ht
      go_wp2
      go_ret
      refine ⟨w.heap.size, gs, wr.heap.size, rfl, ⟨?_, ?_, ?_, hgs.out.1, fun g hg => ⟨Nat.ne_of_gt (hgs.out.2 g hg), Nat.ne_of_lt (hall.out.lt g hg), Nat.le_of_lt (hgs.out.2 g hg)⟩, Nat.le_refl _, Nat.le_of_lt hG, Nat.ne_of_gt hG⟩, (hbel.setCell (Nat.le_refl _) _).alloc (by simp [World.setCell]; exact hbel.size) _⟩
      · have h := hrow.out.set xss.length (.slice (some ⟨wr.heap.size, 0, none⟩) 1 1)
        rw [List.set_append_right _ _ (by rw [spCells_len HLG.out]; exact Nat.le_refl _), spCells_len HLG.out, Nat.sub_self, show xss.length + 1 - xss.length = 0 + 1 by omega, List.replicate_succ, List.set_cons_zero] at h
        have h2 := Below.heap_alloc (wr.setCell ⟨w.heap.size, xss.length, none⟩ (.slice (some ⟨wr.heap.size, 0, none⟩) 1 1)) (Obj.cells #[.int .i64 7] 3) w.heap.size (by simp [World.setCell]; exact hG)
        exact h2.trans h
      · refine hall.out.map fun g hg => ?_
        rw [Below.heap_alloc _ _ _ (by simp [World.setCell]; exact hall.out.lt g hg), Below.heap_setCell _ _ _ _ (Nat.ne_of_gt (hgs.out.2 g hg))]
      · have := heap_alloc_new (wr.setCell ⟨w.heap.size, xss.length, none⟩ (.slice (some ⟨wr.heap.size, 0, none⟩) 1 1)) (Obj.cells #[.int .i64 7] 3)
        simpa [World.setCell, Row] using this

/-- the handed list of lists, to be read -/
theorem Sp.rows {w : World} {B G gl : Nat} {gs : List Nat} {xss : List (List Int)} (h : Sp w B G gs gl xss) (hl : ∀ x ∈ xss, x.length ≤ 4294967296) : ∃ A C, RowsAt w (some ⟨G, 0, none⟩) A C xss := by
  refine ⟨fun r => some ⟨gs.getD r 0, 0, none⟩, fun r => (xss.getD r []).length + 2, ?_⟩
  by_cases h0 : xss = []
  · exact .inl h0
  refine .inr ⟨G, 0, rfl, fun r hr => ?_⟩
  obtain ⟨g, h1, h2, h3⟩ := h.each.at r hr
  have e : gs.getD r 0 = g := by rw [List.getD_eq_getElem?_getD, h1]; rfl
  dsimp only
  rw [e]
  refine ⟨?_, spare_ints _ _ _ h2, ?_⟩
  · rw [h.top.cell, Nat.zero_add, List.getElem?_append_left (by rw [spCells_len h.each.len]; exact hr), h3]
  · have := hl (xss.getD r []) (by rw [List.getD_eq_getElem?_getD, List.getElem?_eq_getElem hr]; exact List.getElem_mem hr)
    omega

set_option maxHeartbeats 2000000 in
theorem stills_frame (B G gl : Nat) (gs : List Nat) (a : Option Addr) (c : Nat) (A : Nat → Option Addr) (C : Nat → Nat) (xss : List (List Int)) (w0 w : World) (hbd : xss.length ≤ 4294967296) (hsp : Sp w B G gs gl xss) (hB : B = w0.heap.size) (hbel : Below B w0 w) (hr : RowsAt w0 a A C xss) (hlens : Hid (∀ x ∈ xss, x.length ≤ 4294967296)) :
    Calls Tryz.prog 55 #[.slice (some ⟨G, 0, none⟩) xss.length (xss.length + 1), .slice a xss.length c] w fun e w' => (e = .returned (.bool true) ∧ Below B w0 w') ∧ w.heap.size ≤ w'.heap.size ∧ ∀ b, (∀ g ∈ gs, b ≠ g) → b < w.heap.size → w'.heap[b]? = w.heap[b]? := by
  subst hB
  have hne : ((xss.length : Int) != (xss.length : Int)) = false := by rw [bne_eq_false_iff_eq]
  have HSP := hide hsp
  clear hsp
  go_enter Tryz.func55, Tryz.ntmps55
  go_wp2
  go_loopw [6] (fun i wr => ∃ k : Nat, k ≤ xss.length ∧ i = .int .i64 k ∧ Below w0.heap.size w0 wr ∧ w.heap.size ≤ wr.heap.size ∧ Hid (∀ b, (∀ g ∈ gs.take k, b ≠ g) → b < w.heap.size → wr.heap[b]? = w.heap[b]?)) (fun i _ => xss.length - (intOf i).toNat)
  case atStart => exact ⟨0, Nat.zero_le _, rfl, hbel, Nat.le_refl _, fun _ _ _ => rfl⟩
  case round =>
    clear hbel hne
    obtain ⟨k, hk, rfl, hbel, hsz, hkept⟩ := hrel
    have hG : wr.heap[G]? = w.heap[G]? := hkept.out G (fun g hg => (fun e => (HSP.out.out g (List.mem_of_mem_take hg)).1 e.symm)) HSP.out.top.lt
    have htop : Row wr G 24 (spCells gs xss ++ [.slice (some ⟨gl, 0, none⟩) 1 1]) := hG.trans HSP.out.top
    have hlc := spCells_len HSP.out.each.len
    by_cases hlt : k < xss.length
    · obtain ⟨b, off, rfl, hc⟩ := hr.get (by omega)
      obtain ⟨p1, q1, s1⟩ := hc k hlt
      have p2 : wr.cell? ⟨b, off + k, none⟩ = some (.slice (A k) (xss.getD k []).length (C k)) := (hbel.cell (p := ⟨b, off + k, none⟩) (World.block_lt_of_cell? w0 _ p1)).trans p1
      have q2 := q1.below hbel
      have hlx : (xss.getD k []).length ≤ 4294967296 := hlens.out _ (by rw [List.getD_eq_getElem?_getD, List.getElem?_eq_getElem hlt]; exact List.getElem_mem hlt)
      obtain ⟨g, h1, h2, h3⟩ := HSP.out.each.at k hlt
      have hmem : g ∈ gs := List.mem_of_getElem? h1
      have hgk : wr.heap[g]? = w.heap[g]? := hkept.out g (fun g' hg' e => by
        subst e
        obtain ⟨i, hi2⟩ := List.mem_iff_getElem?.1 hg'
        have hi := (List.getElem?_eq_some_iff.1 hi2).1
        rw [List.length_take] at hi
        rw [List.getElem?_take_of_lt (by omega)] at hi2
        have hkl : k < gs.length := (List.getElem?_eq_some_iff.1 h1).1
        have := (List.getElem?_inj (i := i) (j := k) (by omega) HSP.out.nodup).1 (hi2.trans h1.symm)
        omega) h2.lt
      have h4 : Row wr g 3 (i64s (xss.getD k []) ++ sevens) := hgk.trans h2
      have p3 : wr.cell? ⟨G, k, none⟩ = some (.slice (some ⟨g, 0, none⟩) (xss.getD k []).length ((xss.getD k []).length + 2)) := by
        rw [htop.cell, List.getElem?_append_left (by rw [hlc]; exact hlt), h3]
      have hbg : w0.heap.size ≤ g := (HSP.out.out g hmem).2.2
      have hbb : b ≠ g := by have := World.block_lt_of_cell? w0 _ p1; simp only at this; omega
      have hGg : G ≠ g := fun e => (HSP.out.out g hmem).1 e.symm
      have hgt : g ∈ gs.take (k + 1) := by
        refine List.mem_iff_getElem?.2 ⟨k, ?_⟩
        rw [List.getElem?_take_of_lt (by omega), h1]
      clear hc p1 q1 s1 hr h1 h2 h3 hgk htop hlc hG hmem
      generalize xss.getD k [] = xs at p2 q2 hlx h4 p3
      generalize A k = ak at p2 q2
      generalize C k = ck at p2
      have HGT := hide hgt
      have H4 := hide h4
      have Q2 := hide q2
      clear hgt h4 q2
      have hi1 : (0 : Int) ≤ (k : Int) := by omega
      have hi2 : (k : Int) < (xss.length : Int) := by omega
      go_wp2
      go_region_held3 (fun w' => w'.cell? ⟨b, off + k, none⟩ = some (.slice ak xs.length ck) ∧ w'.cell? ⟨G, k, none⟩ = some (.slice (some ⟨g, 0, none⟩) xs.length (xs.length + 2))) (go_keep)
        (first | (go_at_call 31; refine (still_any g ak ck xs _ hlx ?_ ?_).mono ?_; (exact H4.out); (exact Q2.out); rintro e w' ⟨rfl, hg5⟩; have n1 : w'.cell? ⟨b, off + k, none⟩ = _ := hg5.cell (a := ⟨b, off + k, none⟩) p2 (by simpa using hbb); have n2 : w'.cell? ⟨G, k, none⟩ = _ := hg5.cell (a := ⟨G, k, none⟩) p3 (by simpa using hGg)))
      clear n1 n2
      go_wp2
      go_roundw
      case rel =>
        refine ⟨k + 1, by omega, by go_num, hbel.drew.grown hg5 hbel.size (fun j hj => by simp at hj; omega), Nat.le_trans hsz hg5.size, fun x hx hxl => ?_⟩
        have e1 : w'.heap[x]? = wr.heap[x]? := hg5.block x (Nat.lt_of_lt_of_le hxl hsz) (by simpa using hx g HGT.out)
        refine e1.trans (hkept.out x (fun g' hg' => hx g' ?_) hxl)
        rw [List.take_add_one]
        exact List.mem_append_left _ hg'
      case measure => simp [intOf]; omega
    · obtain rfl : k = xss.length := by omega
      have hgl : wr.heap[gl]? = w.heap[gl]? := hkept.out gl (fun g hg => (fun e => (HSP.out.out g (List.mem_of_mem_take hg)).2.1 e.symm)) HSP.out.last.lt
      have hlast : Row wr gl 3 [.int .i64 7] := hgl.trans HSP.out.last
      have p1 : wr.cell? ⟨G, xss.length, none⟩ = some (.slice (some ⟨gl, 0, none⟩) 1 1) := (htop.cell _).trans (by rw [List.getElem?_append_right (by rw [hlc]; exact Nat.le_refl _), hlc, Nat.sub_self]; rfl)
      have p2 : wr.cell? ⟨gl, 0, none⟩ = some (.int .i64 7) := (hlast.cell 0).trans rfl
      clear hgl hlast htop hlc hG
      go_wp2
      go_ret
      exact ⟨⟨rfl, hbel⟩, hsz, fun b hb hl => hkept.out b (fun g hg => hb g (List.mem_of_mem_take hg)) hl⟩
theorem stills_any (B G gl : Nat) (gs : List Nat) (a : Option Addr) (c : Nat) (A : Nat → Option Addr) (C : Nat → Nat) (xss : List (List Int)) (w0 w : World) (hbd : xss.length ≤ 4294967296) (hsp : Sp w B G gs gl xss) (hB : B = w0.heap.size) (hbel : Below B w0 w) (hr : RowsAt w0 a A C xss) (hlens : Hid (∀ x ∈ xss, x.length ≤ 4294967296)) :
    Calls Tryz.prog 55 #[.slice (some ⟨G, 0, none⟩) xss.length (xss.length + 1), .slice a xss.length c] w fun e w' => e = .returned (.bool true) ∧ Below B w0 w' :=
  (stills_frame B G gl gs a c A C xss w0 w hbd hsp hB hbel hr hlens).mono fun _ _ h => h.1

end Go.Proofs.YthboeppmlhbofaaGreatDoor
