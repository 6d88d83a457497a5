/- word.Select and the document's, and the laws of them: the walks. No condition but that the table of math/bits lies as the start lays it. -/
import Derived.Test.YtjkfddjmldckeaaDoorIter
import Derived.Test.YtjkfddjmldckeaaDoorKept
import Derived.RangeFuncFrom
namespace Go.Proofs.YtjkfddjmldckeaaDoor
open Go.RowKit Go.Shelf
set_option linter.unusedVariables false
attribute [local go_sem] Oper.semAt_some

theorem Quiet.frozen {w w' : World} (h : Quiet w w') (a : Addr) : w'.frozen? a = w.frozen? a := by
  obtain ⟨n, rfl⟩ := h
  rfl
theorem Quiet.others {w w' : World} (h : Quiet w w') : KeepsOthers w w' := by
  obtain ⟨n, rfl⟩ := h
  exact ⟨Nat.le_refl _, fun _ _ h _ => h⟩
/-- as many ones stand below the i-th one -/
theorem plcs_rank (X : Nat) : ∀ n i, i < (plcs X n).length → (plcs X ((plcs X n).getD i 0).toNat).length = i
  | 0, i, h => by simp [plcs_zero] at h
  | n + 1, i, h => by
    cases hb : X.testBit n with
    | false => rw [plcs_no X n hb] at h ⊢; exact plcs_rank X n i h
    | true =>
      rw [plcs_one X n hb] at h ⊢
      by_cases hi : i < (plcs X n).length
      · rw [List.getD_eq_getElem?_getD, List.getElem?_append_left hi, ← List.getD_eq_getElem?_getD]
        exact plcs_rank X n i hi
      · have e : i = (plcs X n).length := by rw [List.length_append, List.length_singleton] at h; omega
        rw [List.getD_eq_getElem?_getD, List.getElem?_append_right (by omega), e]
        simp
theorem rank_at (x : Int) (i : Nat) (h : i < (plcs x.toNat 64).length) : rankI x ((plcs x.toNat 64).getD i 0) = (i : Int) := by
  obtain ⟨h1, h2, _⟩ := plcs_getD h
  have h3 := plcs_rank x.toNat 64 i h
  unfold rankI
  rw [bnd_of h1 (by omega), h3]
/-- the k-th one; -1: there is none -/
def selI (x k : Int) : Int := if 0 ≤ k ∧ k < (((plcs x.toNat 64).length : Nat) : Int) then (plcs x.toNat 64).getD k.toNat 0 else -1
theorem sel_hit (x k : Int) (pre : List Int) (y : Int) (h : (pre ++ [y]) <+: plcs x.toNat 64) (hr : rankI x y = k) : selI x k = y := by
  obtain ⟨r, hr2⟩ := h
  have hl : pre.length < (plcs x.toNat 64).length := by rw [← hr2]; simp
  have hy : (plcs x.toNat 64).getD pre.length 0 = y := by
    rw [← hr2, List.getD_eq_getElem?_getD, List.append_assoc, List.getElem?_append_right (Nat.le_refl _)]
    simp
  have h1 := rank_at x pre.length hl
  rw [hy, hr] at h1
  unfold selI
  rw [if_pos ⟨by omega, by omega⟩, h1, Int.toNat_natCast, hy]
theorem sel_miss (x k : Int) (h : ∀ y ∈ plcs x.toNat 64, rankI x y ≠ k) : selI x k = -1 := by
  unfold selI
  split
  · rename_i h1
    exfalso
    have hl : k.toNat < (plcs x.toNat 64).length := by omega
    refine h ((plcs x.toNat 64).getD k.toNat 0) ?_ ?_
    · rw [List.getD_eq_getElem?_getD, List.getElem?_eq_getElem hl]
      exact List.getElem_mem hl
    · rw [rank_at x _ hl]; omega
  · rfl

set_option maxRecDepth 100000 in
set_option maxHeartbeats 2000000 in
theorem select_any (x k : Int) (w : World) (hx : U64 x) (hT : Tab w) :
    Calls Tryd.prog 7 #[.int .u64 x, .int .i64 k] w fun e w' => e = .returned (.int .i64 (selI x k)) ∧ Below w.heap.size w w' := by
  have R := Lib.hid (fun y W => rank_any x y W hx)
  have hM := Lib.hid (sel_miss x k)
  have hH := Lib.hid (sel_hit x k)
  refine (callsIn_wide (n := 9)).1 ?_
  refine callsIn_of_wp_marks Tryd.func7 rfl trivial ?_ rfl
  simp only [Tryd.ntmps7, List.size_toArray, List.length_cons, List.length_nil, Nat.reduceAdd, Nat.reduceSub, Array.replicate_succ, Array.replicate_zero, List.push_toArray, List.append_toArray, List.nil_append, List.cons_append]
  gi_wp2_with fail
  refine ⟨trivial, ?_⟩
  refine (callsIn_wide.2 (bits_any _ _)).mono ?_
  rintro e w' ⟨rfl, rfl⟩
  gi_wp2_with fail
  have b0 : Blk ((((w.alloc (.cells #[.int .u64 x] 22)).alloc (.cells #[.int .i64 k] 3)).alloc (.cells #[.int .i64 0] 3)).alloc (.cells #[.int .u64 x] 22)) w.heap.size #[.int .u64 x] 22 := (((Blk.new _ _ _).alloc _).alloc _).alloc _
  have b1 : Blk ((((w.alloc (.cells #[.int .u64 x] 22)).alloc (.cells #[.int .i64 k] 3)).alloc (.cells #[.int .i64 0] 3)).alloc (.cells #[.int .u64 x] 22)) (w.heap.size + 1) #[.int .i64 k] 3 := ((Blk.new' (by simp)).alloc _).alloc _
  have b2 : Blk ((((w.alloc (.cells #[.int .u64 x] 22)).alloc (.cells #[.int .i64 k] 3)).alloc (.cells #[.int .i64 0] 3)).alloc (.cells #[.int .u64 x] 22)) (w.heap.size + 1 + 1) #[.int .i64 0] 3 := (Blk.new' (by simp)).alloc _
  have b3 : Blk ((((w.alloc (.cells #[.int .u64 x] 22)).alloc (.cells #[.int .i64 k] 3)).alloc (.cells #[.int .i64 0] 3)).alloc (.cells #[.int .u64 x] 22)) (w.heap.size + 1 + 1 + 1) #[.int .u64 x] 22 := Blk.new' (by simp)
  have hB0 : Below w.heap.size w ((((w.alloc (.cells #[.int .u64 x] 22)).alloc (.cells #[.int .i64 k] 3)).alloc (.cells #[.int .i64 0] 3)).alloc (.cells #[.int .u64 x] 22)) :=
    ((((Below.refl _ w).alloc (Nat.le_refl _) _).alloc (by simp) _).alloc (by simp; omega) _).alloc (by simp; omega) _
  have hsz : ((((w.alloc (.cells #[.int .u64 x] 22)).alloc (.cells #[.int .i64 k] 3)).alloc (.cells #[.int .i64 0] 3)).alloc (.cells #[.int .u64 x] 22)).heap.size = w.heap.size + 4 := by simp
  generalize ((((w.alloc (.cells #[.int .u64 x] 22)).alloc (.cells #[.int .i64 k] 3)).alloc (.cells #[.int .i64 0] 3)).alloc (.cells #[.int .u64 x] 22)) = W0 at *
  have c0 := b0.val 0 rfl
  have c1 := b1.val 0 rfl
  have c2 := b2.val 0 rfl
  have f2 := b2.frozen 0
  have c3 := b3.val 0 rfl
  have hT0 := hT.grew hB0
  refine wpIn_rangeFunc_ownF rfl (by omega) (gf := 30) (lb := #[.pointer (some ⟨w.heap.size + 1 + 1 + 1, 0, none⟩)]) rfl trivial (enters_of Tryd.func30 (by kernel_rfl) rfl)
    (bits_stops 8 (by omega) (w.heap.size + 1 + 1 + 1) w.heap.size x W0 hx (by omega) hT.lt hT0 (by omega) c3) belowK_t (belowK_b (by omega)) (Below.refl _ _) (fun _ => rfl)
    (fun pre W => (Hid (∀ y ∈ fins pre, rankI x y ≠ k) ∧ W.cell? ⟨w.heap.size, 0, none⟩ = some (.int .u64 x) ∧ W.cell? ⟨w.heap.size + 1, 0, none⟩ = some (.int .i64 k) ∧ W.cell? ⟨w.heap.size + 1 + 1, 0, none⟩ = some (.int .i64 0) ∧ W.frozen? ⟨w.heap.size + 1 + 1, 0, none⟩ = false) ∧ Below w.heap.size w W)
    (fun c pre W => (c = .ret ∧ (∃ q y, Hid (fins pre = q ++ [y]) ∧ Hid (rankI x y = k) ∧ W.cell? ⟨w.heap.size + 1 + 1, 0, none⟩ = some (.int .i64 y))) ∧ Below w.heap.size w W)
    (OwnFrom.and (Own.from (fun s A B row hs hg hr => ⟨hs.1, cell_kept hs.2.1 hg hr, cell_kept hs.2.2.1 hg hr, cell_kept hs.2.2.2.1 hg hr, (frozen_kept hs.2.2.2.1 hg hr).trans hs.2.2.2.2⟩) _) (ownFrom_below (Nat.le_refl _) (by omega)))
    (fun c => OwnFrom.and (Own.from (fun s A B row hs hg hr => by obtain ⟨h1, q, y, h2, h3, h4⟩ := hs; exact ⟨h1, q, y, h2, h3, cell_kept h4 hg hr⟩) _) (ownFrom_below (Nat.le_refl _) (by omega)))
    ⟨⟨by unfold Hid; simp [fins], c0, c1, c2, f2⟩, hB0⟩
    (fun i => { tmps := #[.int .u64 x, .int .i64 k, .pointer (some ⟨w.heap.size, 0, none⟩), .pointer (some ⟨w.heap.size + 1, 0, none⟩), .pointer (some ⟨w.heap.size + 1 + 1, 0, none⟩), .int .i64 ((i.val : Nat) : Int), .int .u64 x, .func (.func 30) #[] #[.pointer (some ⟨w.heap.size + 1 + 1 + 1, 0, none⟩)], .int .i64 ((i.val : Nat) : Int), undef, undef, undef, undef, undef, undef], defers := [] }) ?assign ?body ?done ?stop
  case assign =>
    intro l i W K hK
    gi_wp2
    exact hK
  case body =>
    rintro l pre i W ⟨⟨hp, hcx, hck, hcr, hfr⟩, hB⟩ _
    have hmx : Tryd.prog.follows .mixedOrders = true := by kernel_rfl
    have hRy := R.out ((i.val : Nat) : Int)
    have HR := Lib.hid hRy
    clear hRy
    generalize hy : ((i.val : Nat) : Int) = y at *
    have HY := Lib.hid hy
    clear hy
    gi_wp2_with fail
    gi_region_with_o (refine ⟨trivial, ?_⟩; gi_at_call 11; refine (CallsIn.inRound l (callsIn_wide.2 (HR.out _))).mono ?_; rintro e w' ⟨rfl, hq⟩; have hcx2 := (hq.cell ⟨w.heap.size, 0, none⟩).trans hcx; have hck2 := (hq.cell ⟨w.heap.size + 1, 0, none⟩).trans hck)
    all_goals
      have hq2 : Quiet W w' := by first | exact hq | exact Quiet.trans ⟨1, rfl⟩ hq
      have hcr2 := (hq2.cell ⟨w.heap.size + 1 + 1, 0, none⟩).trans hcr
      have hfr2 : w'.frozen? ⟨w.heap.size + 1 + 1, 0, none⟩ = false := (hq2.frozen _).trans hfr
      have hB2 : Below w.heap.size w w' := hB.trans hq2.below
      have hK2 : KeepsOthers W w' := hq2.others
      by_cases hr : rankI x y = k
      · have HRk := Lib.hid hr
        have ht : (rankI x y == k) = true := by simp [hr]
        clear hr HR
        gi_wp2
        exact ⟨hK2.trans (KeepsOthers.setCell _ _ _), ⟨rfl, fins pre, y, by unfold Hid; rw [fins_snoc, HY.out], HRk, World.cell?_setCell_same' _ _ _ (by rw [hcr2]; rfl)⟩, hB2.setCell (p := ⟨w.heap.size + 1 + 1, 0, none⟩) (by simp; omega) _⟩
      · have HRn : Hid (rankI x y ≠ k) := Lib.hid hr
        have ht : (rankI x y == k) = false := by simp [hr]
        clear hr HR
        gi_wp2
        refine ⟨hK2, hq2.below, ⟨?_, hcx2, hck2, hcr2, hfr2⟩, hB2⟩
        unfold Hid
        intro z hz
        rw [fins_snoc, HY.out] at hz
        rcases List.mem_append.1 hz with h | h
        · exact hp.out z h
        · rw [List.mem_singleton.1 h]; exact HRn.out
  case done =>
    rintro D ys W hD hys ⟨⟨hp, _, _, hcr, hfr⟩, hB⟩ hK
    have hs : selI x k = -1 := hM.out (by rw [← hys]; exact hp.out)
    gi_wp2
    have hK' := (KeepsOthers.setCell W ⟨w.heap.size + 1 + 1, 0, none⟩ (.int .i64 (-1))).same D _ hK rfl
    refine ⟨by simp, .inl ⟨_, _, rfl, run_takeDeferred hK', ?_⟩⟩
    have hc5 := cell_kept (World.cell?_setCell_same' W ⟨w.heap.size + 1 + 1, 0, none⟩ (.int .i64 (-1)) (by rw [hcr]; rfl)) (grownBy_putObj' _ D (.deferred none)) (fun r e => by cases e; exact ⟨_, hK', rfl⟩)
    refine ⟨.int .i64 (-1), ?_, by rw [hs], (hB.setCell (p := ⟨w.heap.size + 1 + 1, 0, none⟩) (by simp; omega) _).trans (belowK_b (w := w) (Nat.le_refl _) _ D _ _ (by omega) hK' rfl rfl)⟩
    simp [results, Tryd.f7, go_sem, hc5]
  case stop =>
    rintro D c pre W hD hpre ⟨⟨rfl, q, y, h1, h2, hcr⟩, hB⟩ hK
    have hs : selI x k = y := hH.out q y (by rw [← h1.out]; exact hpre) h2.out
    gi_wp2
    refine ⟨by simp, .inl ⟨_, _, rfl, run_takeDeferred hK, ?_⟩⟩
    have hc5 := cell_kept hcr (grownBy_putObj' _ D (.deferred none)) (fun r e => by cases e; exact ⟨_, hK, rfl⟩)
    refine ⟨.int .i64 y, ?_, by rw [hs], hB.trans (belowK_b (w := w) (Nat.le_refl _) W D _ _ (by omega) hK rfl rfl)⟩
    simp [results, Tryd.f7, go_sem, hc5]
end Go.Proofs.YtjkfddjmldckeaaDoor
