/- Package sizes: what First, Rounds and Fills return, and the document's First, Valid, Rounds and Fills; the law's small check. No condition but that the tables lie as the start lays them. -/
import Derived.Test.YtcjkachlahjbiaaDoorSizf
import Derived.Deep.RegionHeld3
namespace Go.Proofs.YtcjkachlahjbiaaDoor
open Go.RowKit Go.Shelf
set_option linter.unusedVariables false
attribute [local go_sem] Oper.semAt_some

/-- the lowest cell from a word on that isn't allocated; -1: there is none -/
def firstI (c a f : Int) : Int := ((freeL c a).find? fun z => decide (f ≤ z)).getD (-1)
theorem first_hit (c a f : Int) (q : List Int) (y : Int) (h : (q ++ [y]) <+: freeL c a) (hq : ∀ z ∈ q, z < f) (hy : f ≤ y) : firstI c a f = y := by
  obtain ⟨r, hr⟩ := h
  unfold firstI
  rw [← hr, List.append_assoc, List.find?_append, List.find?_eq_none.2 (fun z hz => by have := hq z hz; simp; omega)]
  simp [hy]
theorem first_miss (c a f : Int) (h : ∀ z ∈ freeL c a, z < f) : firstI c a f = -1 := by
  unfold firstI
  rw [List.find?_eq_none.2 (fun z hz => by have := h z hz; simp; omega)]
  rfl

set_option maxRecDepth 100000 in
set_option maxHeartbeats 2000000 in
theorem first_any (c a f : Int) (w : World) (hT : Tbs w) (ha : U64 a) :
    Calls Tryd.prog 8 #[.int .i64 c, .int .u64 a, .int .i64 f] w fun e w' => e = .returned (.int .i64 (firstI c a f)) ∧ Below w.heap.size w w' := by
  have P := Lib.hid (fun W (h : Wid W) => free_any c a W h ha)
  have hM := Lib.hid (first_miss c a f)
  have hH := Lib.hid (first_hit c a f)
  have hU := Lib.hid (freeI_U64 c a ha)
  have hL := Lib.hid (freeI_plcs c a ha)
  refine (callsIn_wide (n := 9)).1 ?_
  refine callsIn_of_wp_marks Tryd.func8 rfl trivial ?_ rfl
  simp only [Tryd.ntmps8, List.size_toArray, List.length_cons, List.length_nil, Nat.reduceAdd, Nat.reduceSub, Array.replicate_succ, Array.replicate_zero, List.push_toArray, List.append_toArray, List.nil_append, List.cons_append]
  gi_wp2_with fail
  have b0 : Blk ((w.alloc (.cells #[.int .i64 f] 3)).alloc (.cells #[.int .i64 0] 3)) w.heap.size #[.int .i64 f] 3 := (Blk.new _ _ _).alloc _
  have b1 : Blk ((w.alloc (.cells #[.int .i64 f] 3)).alloc (.cells #[.int .i64 0] 3)) (w.heap.size + 1) #[.int .i64 0] 3 := Blk.new' (by simp)
  have hB0 : Below w.heap.size w ((w.alloc (.cells #[.int .i64 f] 3)).alloc (.cells #[.int .i64 0] 3)) := ((Below.refl _ w).alloc (Nat.le_refl _) _).alloc (by simp) _
  have hsz : ((w.alloc (.cells #[.int .i64 f] 3)).alloc (.cells #[.int .i64 0] 3)).heap.size = w.heap.size + 2 := by simp
  generalize ((w.alloc (.cells #[.int .i64 f] 3)).alloc (.cells #[.int .i64 0] 3)) = W0 at *
  refine ⟨trivial, ?_⟩
  refine (callsIn_wide.2 (P.out _ (hT.wid.grew hB0))).mono ?_
  rintro e W1 ⟨rfl, hb1⟩
  have hs1 := hb1.size
  have b0' := b0.grew hb1
  have b1' := b1.grew hb1
  have hB1 : Below w.heap.size w W1 := hB0.trans (hb1.mono (by omega))
  clear b0 b1 hb1 hB0
  gi_wp2_with fail
  refine ⟨trivial, ?_⟩
  refine (callsIn_wide.2 (bits_any _ _)).mono ?_
  rintro e w2 ⟨rfl, rfl⟩
  gi_wp2_with fail
  have b0 := b0'.alloc (.cells #[.int .u64 (freeI c a)] 30)
  have b1 := b1'.alloc (.cells #[.int .u64 (freeI c a)] 30)
  have b2 : Blk (W1.alloc (.cells #[.int .u64 (freeI c a)] 30)) W1.heap.size #[.int .u64 (freeI c a)] 30 := Blk.new _ _ _
  have hB2 : Below w.heap.size w (W1.alloc (.cells #[.int .u64 (freeI c a)] 30)) := hB1.alloc (by omega) _
  have hs2 : (W1.alloc (.cells #[.int .u64 (freeI c a)] 30)).heap.size = W1.heap.size + 1 := by simp
  generalize hX : freeI c a = X at *
  generalize W1.alloc (.cells #[.int .u64 X] 30) = W2 at *
  clear b0' b1' hB1 hX
  have c0 := b0.val 0 rfl
  have c1 := b1.val 0 rfl
  have f1 := b1.frozen 0
  have c2 := b2.val 0 rfl
  have hT2 := hT.grew hB2
  refine wpIn_rangeFunc_ownF rfl (by omega) (gf := 36) (lb := #[.pointer (some ⟨W1.heap.size, 0, none⟩)]) rfl trivial (enters_of Tryd.func36 (by kernel_rfl) rfl)
    (bits_stops 8 (by omega) W1.heap.size w.heap.size X W2 hU.out (by omega) hT.tab.lt hT2.tab (by omega) c2) belowK_t (belowK_b (by omega)) (Below.refl _ _) (fun _ => rfl)
    (fun pre W => (Hid (∀ z ∈ fins pre, z < f) ∧ W.cell? ⟨w.heap.size, 0, none⟩ = some (.int .i64 f) ∧ W.cell? ⟨w.heap.size + 1, 0, none⟩ = some (.int .i64 0) ∧ W.frozen? ⟨w.heap.size + 1, 0, none⟩ = false) ∧ Below w.heap.size w W)
    (fun cc pre W => (cc = .ret ∧ (∃ q y, Hid (fins pre = q ++ [y]) ∧ Hid (∀ z ∈ q, z < f) ∧ Hid (f ≤ y) ∧ W.cell? ⟨w.heap.size + 1, 0, none⟩ = some (.int .i64 y))) ∧ Below w.heap.size w W)
    (OwnFrom.and (Own.from (fun s A B row hs hg hr => ⟨hs.1, cell_kept hs.2.1 hg hr, cell_kept hs.2.2.1 hg hr, (frozen_kept hs.2.2.1 hg hr).trans hs.2.2.2⟩) _) (ownFrom_below (Nat.le_refl _) (by omega)))
    (fun cc => OwnFrom.and (Own.from (fun s A B row hs hg hr => by obtain ⟨h1, q, y, h2, h3, h4, h5⟩ := hs; exact ⟨h1, q, y, h2, h3, h4, cell_kept h5 hg hr⟩) _) (ownFrom_below (Nat.le_refl _) (by omega)))
    ⟨⟨by unfold Hid; simp [fins], c0, c1, f1⟩, hB2⟩
    (fun i => { tmps := #[.int .i64 c, .int .u64 a, .int .i64 f, undef, undef, .pointer (some ⟨w.heap.size, 0, none⟩), .pointer (some ⟨w.heap.size + 1, 0, none⟩), .int .i64 ((i.val : Nat) : Int), .int .i64 c, .int .u64 a, .int .u64 X,
      .func (.func 36) #[] #[.pointer (some ⟨W1.heap.size, 0, none⟩)], .int .i64 ((i.val : Nat) : Int), undef, undef, undef, undef], defers := [] }) ?assign ?body ?done ?stop
  case assign =>
    intro l i W K hK
    gi_wp2
    exact hK
  case body =>
    rintro l pre i W ⟨⟨hp, hcf, hcr, hfr⟩, hB⟩ _
    generalize hy : ((i.val : Nat) : Int) = y at *
    have HY := Lib.hid hy
    clear hy
    by_cases hf : f ≤ y
    · gi_wp2
      exact ⟨KeepsOthers.setCell _ _ _, ⟨rfl, fins pre, y, by unfold Hid; rw [fins_snoc, HY.out], hp, Lib.hid hf, World.cell?_setCell_same' _ _ _ (by rw [hcr]; rfl)⟩, hB.setCell (p := ⟨w.heap.size + 1, 0, none⟩) (by simp) _⟩
    · have hlt := Lib.hid (show y < f by omega)
      gi_wp2
      refine ⟨KeepsOthers.refl _, Below.refl _ _, ⟨?_, hcf, hcr, hfr⟩, hB⟩
      unfold Hid
      intro z hz
      rw [fins_snoc, HY.out] at hz
      rcases List.mem_append.1 hz with h | h
      · exact hp.out z h
      · rw [List.mem_singleton.1 h]; exact hlt.out
  case done =>
    rintro D ys W hD hys ⟨⟨hp, _, hcr, hfr⟩, hB⟩ hK
    have hs : firstI c a f = -1 := hM.out (by rw [← hL.out, ← hys]; exact hp.out)
    gi_wp2
    have hK' := (KeepsOthers.setCell W ⟨w.heap.size + 1, 0, none⟩ (.int .i64 (-1))).same D _ hK rfl
    refine ⟨by simp, .inl ⟨_, _, rfl, run_takeDeferred hK', ?_⟩⟩
    have hc5 := cell_kept (World.cell?_setCell_same' W ⟨w.heap.size + 1, 0, none⟩ (.int .i64 (-1)) (by rw [hcr]; rfl)) (grownBy_putObj' _ D (.deferred none)) (fun r e => by cases e; exact ⟨_, hK', rfl⟩)
    refine ⟨.int .i64 (-1), ?_, by rw [hs], (hB.setCell (p := ⟨w.heap.size + 1, 0, none⟩) (by simp) _).trans (belowK_b (w := w) (Nat.le_refl _) _ D _ _ (by omega) hK' rfl rfl)⟩
    simp [results, Tryd.f8, go_sem, hc5]
  case stop =>
    rintro D cc pre W hD hpre ⟨⟨rfl, q, y, h1, h2, h3, hcr⟩, hB⟩ hK
    have hs : firstI c a f = y := hH.out q y (by rw [← h1.out, ← hL.out]; exact hpre) h2.out h3.out
    gi_wp2
    refine ⟨by simp, .inl ⟨_, _, rfl, run_takeDeferred hK, ?_⟩⟩
    have hc5 := cell_kept hcr (grownBy_putObj' _ D (.deferred none)) (fun r e => by cases e; exact ⟨_, hK, rfl⟩)
    refine ⟨.int .i64 y, ?_, by rw [hs], hB.trans (belowK_b (w := w) (Nat.le_refl _) W D _ _ (by omega) hK rfl rfl)⟩
    simp [results, Tryd.f8, go_sem, hc5]

theorem take_prefix (L : List Int) (k : Nat) (h : k < L.length) : (L.take k ++ [L.getD k 0]) <+: L := by
  have : L.take k ++ [L.getD k 0] = L.take (k + 1) := by
    rw [List.take_add_one, List.getElem?_eq_getElem h, List.getD_eq_getElem?_getD, List.getElem?_eq_getElem h]; rfl
  rw [this]
  exact List.take_prefix _ _

theorem keepCell {w3 W W' : World} {p : Addr} {x : Value} (h : W.cell? p = some x ∧ Below w3.heap.size w3 W) (hb : Below W.heap.size W W') : W'.cell? p = some x ∧ Below w3.heap.size w3 W' :=
  ⟨(hb.cell (World.block_lt_of_cell? W _ h.1)).trans h.1, h.2.trans (hb.mono h.2.size)⟩
/-- how many words are taken for an object -/
def rdV (n : Int) : Int := if n < 1 then 0 else if 256 < n then 0 else if n ≤ 32 then widI (clV n) else (n + 63) / 64 * 64
/-- how many objects a heap of pages holds -/
def flV (n p : Int) : Int := if n < 1 then 0 else if 256 < n then 0 else if p < 0 ∨ 32 < p then 0 else if n ≤ 32 then p * ((numN (clV n) : Nat) : Int) else p / ((n + 63) / 64)
def flE (n p : Int) : Int := if n < 1 then 1 else if 256 < n then 3 else if p < 0 ∨ 32 < p then 1 else 0
theorem cl_in (n : Int) (h1 : 1 ≤ n) (h2 : n ≤ 32) : clE n = 0 ∧ clsB (clV n) = true ∧ errI (clV n) = 0 := by
  have hc : clsB (clV n) = true := by
    unfold clsB clV
    simp only [decide_eq_true_eq]
    constructor <;> (repeat' split) <;> omega
  refine ⟨?_, hc, ?_⟩
  · unfold clE; rw [if_neg (by omega), if_pos h2]
  · unfold errI; rw [hc]; rfl
theorem num_bd (c : Int) : 0 ≤ ((numN c : Nat) : Int) ∧ ((numN c : Nat) : Int) ≤ 32 := by
  unfold numN
  split
  · rename_i h
    obtain ⟨j, rfl, hj⟩ := clsB_yes h
    have := num_le j hj
    rw [Int.toNat_natCast]
    omega
  · omega

end Go.Proofs.YtcjkachlahjbiaaDoor
