/- What mask.Union and Meet return, and Within and Same at all lists: as lists. Condition: the lists are short. -/
import Derived.Test.YtalhlbedgkhijaaDoorBitm
namespace Go.Proofs.YtalhlbedgkhijaaDoor
open Go.RowKit
set_option linter.unusedVariables false
set_option maxHeartbeats 400000 in
theorem or_any (x y : Int) (w : World) :
    Calls Tryd.prog 48 #[.int .u64 x, .int .u64 y] w fun e w' => e = .returned (.int .u64 (bits .or .u64 x y)) ∧ Quiet w w' := by
  go_enter Tryd.func48, Tryd.ntmps48
  go_wp2
  go_ret
  exact ⟨rfl, Quiet.refl _⟩
def fillU (a b : List Int) (N k : Nat) : List Int := (List.range N).map fun i => if i < k then bits .or .u64 (a.getD i 0) (b.getD i 0) else 0
theorem fillU_len (a b : List Int) (N k : Nat) : (fillU a b N k).length = N := by simp [fillU]
theorem fillU_set (a b : List Int) (N k : Nat) (h : k < N) : (fillU a b N k).set k (bits .or .u64 (a.getD k 0) (b.getD k 0)) = fillU a b N (k + 1) := by
  unfold fillU
  apply List.ext_getElem
  · simp
  · intro i h1 h2
    simp only [List.getElem_set, List.getElem_map, List.getElem_range]
    by_cases e : k = i
    · subst e
      simp
    · rw [if_neg e]
      by_cases hi : i < k
      · simp [hi, show i < k + 1 by omega]
      · simp [hi, show ¬ i < k + 1 by omega]
theorem fillU_zero (a b : List Int) (N : Nat) : zeros N = ((fillU a b N 0).map (Value.int .u64)).toArray := by
  unfold zeros fillU
  congr 2
  apply List.ext_getElem
  · simp
  · intro i h1 h2
    simp
set_option maxRecDepth 100000 in
set_option maxHeartbeats 2000000 in
theorem combine_U (la ca lb cb : Nat) (aa ab : Option Addr) (a b : List Int) (N : Nat) (w : World) (ha : Lst .u64 w (.slice aa la ca) a) (hb : Lst .u64 w (.slice ab lb cb) b) (hN : (la < lb ∧ N = lb) ∨ (lb ≤ la ∧ N = la)) (hN1 : N ≤ 4096) :
    Calls Tryd.prog 47 #[.slice aa la ca, .slice ab lb cb, .func (.func 48) #[] #[]] w (NewRow w (fillU a b N N)) := by
  have hmk := fun W => run_mk W N (by omega) (by omega)
  have hN0 : (0 : Int) ≤ (N : Int) := by omega
  have RA := Lib.hid (fun W i (h : Below w.heap.size w W) (hi : i < 1000000) => read_any _ a i W (ha.below h) hi)
  have RB := Lib.hid (fun W i (h : Below w.heap.size w W) (hi : i < 1000000) => read_any _ b i W (hb.below h) hi)
  clear ha hb
  rcases hN with ⟨hc, rfl⟩ | ⟨hc, rfl⟩
  · have hc1 : (la : Int) < (N : Int) := by omega
    have hmx : max (la : Int) (N : Int) = (N : Int) := by omega
    go_enter Tryd.func47, Tryd.ntmps47
    go_wp2_with fail
    have hG : Blk (w.alloc (.cells (zeros N) 33)) w.heap.size ((fillU a b N 0).map (Value.int .u64)).toArray 33 := by rw [← fillU_zero]; exact Blk.new _ _ _
    go_loopw [17] (fun i wr => ∃ k : Nat, k ≤ N ∧ i = .int .i64 k ∧ Blk wr w.heap.size ((fillU a b N k).map (Value.int .u64)).toArray 33 ∧ Below w.heap.size w wr) (fun i _ => N - (intOf i).toNat)
    case atStart => exact ⟨0, Nat.zero_le _, rfl, hG, (Below.refl _ _).alloc (Nat.le_refl _) _⟩
    case round =>
      obtain ⟨k, hk, rfl, hB, hb⟩ := hrel
      clear hG hmk
      by_cases hlt : k < N
      · have hs := Lib.hid (fillU_set a b N k hlt)
        have RA := Lib.hid (fun W h => RA.out W k h (by omega))
        have RB := Lib.hid (fun W h => RB.out W k h (by omega))
        have hfl := Lib.hid (fillU_len a b N k)
        generalize a.getD k 0 = x at *
        generalize b.getD k 0 = y at *
        have hk0 : (0 : Int) ≤ (k : Int) := by omega
        have hk1 : (k : Int) < (N : Int) := by omega
        go_wp2_with fail
        refine (RA.out _ hb).mono ?_
        rintro e w1 ⟨rfl, hq1⟩
        have hb1 := hb.trans hq1.below
        go_wp2_with fail
        refine (RB.out _ hb1).mono ?_
        rintro e w2 ⟨rfl, hq2⟩
        have hb2 := hb1.trans hq2.below
        go_wp2_with fail
        refine (or_any x y _).mono ?_
        rintro e w3 ⟨rfl, hq3⟩
        have hb3 := hb2.trans hq3.below
        have hB3 := ((hB.quiet hq1).quiet hq2).quiet hq3
        have hc3 := blk_word hB3 k (by rw [hfl.out]; exact hlt)
        have hf3 := hB3.frozen k
        clear hB hb hb1 hb2 RA RB
        generalize (fillU a b N k).getD k 0 = o at *
        go_wp2
        go_roundw
        case rel => exact ⟨k + 1, by omega, by go_num, by rw [← hs.out]; exact blk_set hB3 k _, hb3.setCell (Nat.le_refl _) _⟩
        case measure => simp [intOf]; omega
      · obtain rfl : k = N := by omega
        go_wp2
        go_ret
        exact ⟨w.heap.size, by rw [fillU_len]; rfl, hB, Nat.le_refl _, hb⟩
  · have hc1 : (lb : Int) ≤ (N : Int) := by omega
    have hmx : max (N : Int) (lb : Int) = (N : Int) := by omega
    go_enter Tryd.func47, Tryd.ntmps47
    go_wp2_with fail
    have hG : Blk (w.alloc (.cells (zeros N) 33)) w.heap.size ((fillU a b N 0).map (Value.int .u64)).toArray 33 := by rw [← fillU_zero]; exact Blk.new _ _ _
    go_loopw [17] (fun i wr => ∃ k : Nat, k ≤ N ∧ i = .int .i64 k ∧ Blk wr w.heap.size ((fillU a b N k).map (Value.int .u64)).toArray 33 ∧ Below w.heap.size w wr) (fun i _ => N - (intOf i).toNat)
    case atStart => exact ⟨0, Nat.zero_le _, rfl, hG, (Below.refl _ _).alloc (Nat.le_refl _) _⟩
    case round =>
      obtain ⟨k, hk, rfl, hB, hb⟩ := hrel
      clear hG hmk
      by_cases hlt : k < N
      · have hs := Lib.hid (fillU_set a b N k hlt)
        have RA := Lib.hid (fun W h => RA.out W k h (by omega))
        have RB := Lib.hid (fun W h => RB.out W k h (by omega))
        have hfl := Lib.hid (fillU_len a b N k)
        generalize a.getD k 0 = x at *
        generalize b.getD k 0 = y at *
        have hk0 : (0 : Int) ≤ (k : Int) := by omega
        have hk1 : (k : Int) < (N : Int) := by omega
        go_wp2_with fail
        refine (RA.out _ hb).mono ?_
        rintro e w1 ⟨rfl, hq1⟩
        have hb1 := hb.trans hq1.below
        go_wp2_with fail
        refine (RB.out _ hb1).mono ?_
        rintro e w2 ⟨rfl, hq2⟩
        have hb2 := hb1.trans hq2.below
        go_wp2_with fail
        refine (or_any x y _).mono ?_
        rintro e w3 ⟨rfl, hq3⟩
        have hb3 := hb2.trans hq3.below
        have hB3 := ((hB.quiet hq1).quiet hq2).quiet hq3
        have hc3 := blk_word hB3 k (by rw [hfl.out]; exact hlt)
        have hf3 := hB3.frozen k
        clear hB hb hb1 hb2 RA RB
        generalize (fillU a b N k).getD k 0 = o at *
        go_wp2
        go_roundw
        case rel => exact ⟨k + 1, by omega, by go_num, by rw [← hs.out]; exact blk_set hB3 k _, hb3.setCell (Nat.le_refl _) _⟩
        case measure => simp [intOf]; omega
      · obtain rfl : k = N := by omega
        go_wp2
        go_ret
        exact ⟨w.heap.size, by rw [fillU_len]; rfl, hB, Nat.le_refl _, hb⟩
theorem union_anyL (va vb : Value) (a b : List Int) (w : World) (ha : Lst .u64 w va a) (hb : Lst .u64 w vb b) (h1 : a.length ≤ 4096) (h2 : b.length ≤ 4096) :
    Calls Tryd.prog 18 #[va, vb] w (NewRow w (fillU a b (max a.length b.length) (max a.length b.length))) := by
  obtain ⟨aa, ca, rfl, _⟩ := lst_len ha
  obtain ⟨ab, cb, rfl, _⟩ := lst_len hb
  have C := Lib.hid (combine_U a.length ca b.length cb aa ab a b (max a.length b.length) w ha hb (by omega) (by omega))
  clear ha hb
  unfold NewRow
  go_enter Tryd.func18, Tryd.ntmps18
  go_wp2_with (go_at_call 47; refine C.out.mono ?_; rintro e w1 ⟨g, rfl, h3, h4, h5⟩)
  go_ret
  exact ⟨g, rfl, h3, h4, h5⟩
set_option maxHeartbeats 400000 in
theorem and_any (x y : Int) (w : World) :
    Calls Tryd.prog 50 #[.int .u64 x, .int .u64 y] w fun e w' => e = .returned (.int .u64 (bits .and .u64 x y)) ∧ Quiet w w' := by
  go_enter Tryd.func50, Tryd.ntmps50
  go_wp2
  go_ret
  exact ⟨rfl, Quiet.refl _⟩
def fillM (a b : List Int) (N k : Nat) : List Int := (List.range N).map fun i => if i < k then bits .and .u64 (a.getD i 0) (b.getD i 0) else 0
theorem fillM_len (a b : List Int) (N k : Nat) : (fillM a b N k).length = N := by simp [fillM]
theorem fillM_set (a b : List Int) (N k : Nat) (h : k < N) : (fillM a b N k).set k (bits .and .u64 (a.getD k 0) (b.getD k 0)) = fillM a b N (k + 1) := by
  unfold fillM
  apply List.ext_getElem
  · simp
  · intro i h1 h2
    simp only [List.getElem_set, List.getElem_map, List.getElem_range]
    by_cases e : k = i
    · subst e
      simp
    · rw [if_neg e]
      by_cases hi : i < k
      · simp [hi, show i < k + 1 by omega]
      · simp [hi, show ¬ i < k + 1 by omega]
theorem fillM_zero (a b : List Int) (N : Nat) : zeros N = ((fillM a b N 0).map (Value.int .u64)).toArray := by
  unfold zeros fillM
  congr 2
  apply List.ext_getElem
  · simp
  · intro i h1 h2
    simp
set_option maxRecDepth 100000 in
set_option maxHeartbeats 2000000 in
theorem combine_M (la ca lb cb : Nat) (aa ab : Option Addr) (a b : List Int) (N : Nat) (w : World) (ha : Lst .u64 w (.slice aa la ca) a) (hb : Lst .u64 w (.slice ab lb cb) b) (hN : (la < lb ∧ N = lb) ∨ (lb ≤ la ∧ N = la)) (hN1 : N ≤ 4096) :
    Calls Tryd.prog 47 #[.slice aa la ca, .slice ab lb cb, .func (.func 50) #[] #[]] w (NewRow w (fillM a b N N)) := by
  have hmk := fun W => run_mk W N (by omega) (by omega)
  have hN0 : (0 : Int) ≤ (N : Int) := by omega
  have RA := Lib.hid (fun W i (h : Below w.heap.size w W) (hi : i < 1000000) => read_any _ a i W (ha.below h) hi)
  have RB := Lib.hid (fun W i (h : Below w.heap.size w W) (hi : i < 1000000) => read_any _ b i W (hb.below h) hi)
  clear ha hb
  rcases hN with ⟨hc, rfl⟩ | ⟨hc, rfl⟩
  · have hc1 : (la : Int) < (N : Int) := by omega
    have hmx : max (la : Int) (N : Int) = (N : Int) := by omega
    go_enter Tryd.func47, Tryd.ntmps47
    go_wp2_with fail
    have hG : Blk (w.alloc (.cells (zeros N) 33)) w.heap.size ((fillM a b N 0).map (Value.int .u64)).toArray 33 := by rw [← fillM_zero]; exact Blk.new _ _ _
    go_loopw [17] (fun i wr => ∃ k : Nat, k ≤ N ∧ i = .int .i64 k ∧ Blk wr w.heap.size ((fillM a b N k).map (Value.int .u64)).toArray 33 ∧ Below w.heap.size w wr) (fun i _ => N - (intOf i).toNat)
    case atStart => exact ⟨0, Nat.zero_le _, rfl, hG, (Below.refl _ _).alloc (Nat.le_refl _) _⟩
    case round =>
      obtain ⟨k, hk, rfl, hB, hb⟩ := hrel
      clear hG hmk
      by_cases hlt : k < N
      · have hs := Lib.hid (fillM_set a b N k hlt)
        have RA := Lib.hid (fun W h => RA.out W k h (by omega))
        have RB := Lib.hid (fun W h => RB.out W k h (by omega))
        have hfl := Lib.hid (fillM_len a b N k)
        generalize a.getD k 0 = x at *
        generalize b.getD k 0 = y at *
        have hk0 : (0 : Int) ≤ (k : Int) := by omega
        have hk1 : (k : Int) < (N : Int) := by omega
        go_wp2_with fail
        refine (RA.out _ hb).mono ?_
        rintro e w1 ⟨rfl, hq1⟩
        have hb1 := hb.trans hq1.below
        go_wp2_with fail
        refine (RB.out _ hb1).mono ?_
        rintro e w2 ⟨rfl, hq2⟩
        have hb2 := hb1.trans hq2.below
        go_wp2_with fail
        refine (and_any x y _).mono ?_
        rintro e w3 ⟨rfl, hq3⟩
        have hb3 := hb2.trans hq3.below
        have hB3 := ((hB.quiet hq1).quiet hq2).quiet hq3
        have hc3 := blk_word hB3 k (by rw [hfl.out]; exact hlt)
        have hf3 := hB3.frozen k
        clear hB hb hb1 hb2 RA RB
        generalize (fillM a b N k).getD k 0 = o at *
        go_wp2
        go_roundw
        case rel => exact ⟨k + 1, by omega, by go_num, by rw [← hs.out]; exact blk_set hB3 k _, hb3.setCell (Nat.le_refl _) _⟩
        case measure => simp [intOf]; omega
      · obtain rfl : k = N := by omega
        go_wp2
        go_ret
        exact ⟨w.heap.size, by rw [fillM_len]; rfl, hB, Nat.le_refl _, hb⟩
  · have hc1 : (lb : Int) ≤ (N : Int) := by omega
    have hmx : max (N : Int) (lb : Int) = (N : Int) := by omega
    go_enter Tryd.func47, Tryd.ntmps47
    go_wp2_with fail
    have hG : Blk (w.alloc (.cells (zeros N) 33)) w.heap.size ((fillM a b N 0).map (Value.int .u64)).toArray 33 := by rw [← fillM_zero]; exact Blk.new _ _ _
    go_loopw [17] (fun i wr => ∃ k : Nat, k ≤ N ∧ i = .int .i64 k ∧ Blk wr w.heap.size ((fillM a b N k).map (Value.int .u64)).toArray 33 ∧ Below w.heap.size w wr) (fun i _ => N - (intOf i).toNat)
    case atStart => exact ⟨0, Nat.zero_le _, rfl, hG, (Below.refl _ _).alloc (Nat.le_refl _) _⟩
    case round =>
      obtain ⟨k, hk, rfl, hB, hb⟩ := hrel
      clear hG hmk
      by_cases hlt : k < N
      · have hs := Lib.hid (fillM_set a b N k hlt)
        have RA := Lib.hid (fun W h => RA.out W k h (by omega))
        have RB := Lib.hid (fun W h => RB.out W k h (by omega))
        have hfl := Lib.hid (fillM_len a b N k)
        generalize a.getD k 0 = x at *
        generalize b.getD k 0 = y at *
        have hk0 : (0 : Int) ≤ (k : Int) := by omega
        have hk1 : (k : Int) < (N : Int) := by omega
        go_wp2_with fail
        refine (RA.out _ hb).mono ?_
        rintro e w1 ⟨rfl, hq1⟩
        have hb1 := hb.trans hq1.below
        go_wp2_with fail
        refine (RB.out _ hb1).mono ?_
        rintro e w2 ⟨rfl, hq2⟩
        have hb2 := hb1.trans hq2.below
        go_wp2_with fail
        refine (and_any x y _).mono ?_
        rintro e w3 ⟨rfl, hq3⟩
        have hb3 := hb2.trans hq3.below
        have hB3 := ((hB.quiet hq1).quiet hq2).quiet hq3
        have hc3 := blk_word hB3 k (by rw [hfl.out]; exact hlt)
        have hf3 := hB3.frozen k
        clear hB hb hb1 hb2 RA RB
        generalize (fillM a b N k).getD k 0 = o at *
        go_wp2
        go_roundw
        case rel => exact ⟨k + 1, by omega, by go_num, by rw [← hs.out]; exact blk_set hB3 k _, hb3.setCell (Nat.le_refl _) _⟩
        case measure => simp [intOf]; omega
      · obtain rfl : k = N := by omega
        go_wp2
        go_ret
        exact ⟨w.heap.size, by rw [fillM_len]; rfl, hB, Nat.le_refl _, hb⟩
theorem meet_anyL (va vb : Value) (a b : List Int) (w : World) (ha : Lst .u64 w va a) (hb : Lst .u64 w vb b) (h1 : a.length ≤ 4096) (h2 : b.length ≤ 4096) :
    Calls Tryd.prog 21 #[va, vb] w (NewRow w (fillM a b (max a.length b.length) (max a.length b.length))) := by
  obtain ⟨aa, ca, rfl, _⟩ := lst_len ha
  obtain ⟨ab, cb, rfl, _⟩ := lst_len hb
  have C := Lib.hid (combine_M a.length ca b.length cb aa ab a b (max a.length b.length) w ha hb (by omega) (by omega))
  clear ha hb
  unfold NewRow
  go_enter Tryd.func21, Tryd.ntmps21
  go_wp2_with (go_at_call 47; refine C.out.mono ?_; rintro e w1 ⟨g, rfl, h3, h4, h5⟩)
  go_ret
  exact ⟨g, rfl, h3, h4, h5⟩
theorem fill_get (f : Int → Int → Int) (hf : f 0 0 = 0) (a b : List Int) (N : Nat) (hN : max a.length b.length ≤ N) (i : Nat) : ((List.range N).map fun i => f (a.getD i 0) (b.getD i 0)).getD i 0 = f (a.getD i 0) (b.getD i 0) := by
  by_cases h : i < N
  · simp [List.getD_eq_getElem?_getD, h]
  · have h1 : a.getD i 0 = 0 := by simp [List.getD_eq_getElem?_getD, show ¬ i < a.length by omega]
    have h2 : b.getD i 0 = 0 := by simp [List.getD_eq_getElem?_getD, show ¬ i < b.length by omega]
    rw [h1, h2, hf]
    simp [List.getD_eq_getElem?_getD, h]
theorem fillL_full (a b : List Int) (N : Nat) : fillL a b N N = (List.range N).map fun i => bits .andNot .u64 (a.getD i 0) (b.getD i 0) := by
  unfold fillL
  exact List.map_congr_left (fun i hi => by rw [if_pos (List.mem_range.1 hi)])
theorem fillU_full (a b : List Int) (N : Nat) : fillU a b N N = (List.range N).map fun i => bits .or .u64 (a.getD i 0) (b.getD i 0) := by
  unfold fillU
  exact List.map_congr_left (fun i hi => by rw [if_pos (List.mem_range.1 hi)])
theorem fillM_full (a b : List Int) (N : Nat) : fillM a b N N = (List.range N).map fun i => bits .and .u64 (a.getD i 0) (b.getD i 0) := by
  unfold fillM
  exact List.map_congr_left (fun i hi => by rw [if_pos (List.mem_range.1 hi)])
/-- the three lists, whole -/
def minusV (a b : List Int) : List Int := fillL a b (max a.length b.length) (max a.length b.length)
def unionV (a b : List Int) : List Int := fillU a b (max a.length b.length) (max a.length b.length)
def meetV (a b : List Int) : List Int := fillM a b (max a.length b.length) (max a.length b.length)
theorem minusV_get (a b : List Int) (i : Nat) : (minusV a b).getD i 0 = bits .andNot .u64 (a.getD i 0) (b.getD i 0) := by unfold minusV; rw [fillL_full]; exact fill_get (bits .andNot .u64) (by decide) a b _ (Nat.le_refl _) i
theorem unionV_get (a b : List Int) (i : Nat) : (unionV a b).getD i 0 = bits .or .u64 (a.getD i 0) (b.getD i 0) := by unfold unionV; rw [fillU_full]; exact fill_get (bits .or .u64) (by decide) a b _ (Nat.le_refl _) i
theorem meetV_get (a b : List Int) (i : Nat) : (meetV a b).getD i 0 = bits .and .u64 (a.getD i 0) (b.getD i 0) := by unfold meetV; rw [fillM_full]; exact fill_get (bits .and .u64) (by decide) a b _ (Nat.le_refl _) i
theorem minusV_len (a b : List Int) : (minusV a b).length = max a.length b.length := fillL_len _ _ _ _
theorem unionV_len (a b : List Int) : (unionV a b).length = max a.length b.length := fillU_len _ _ _ _
theorem meetV_len (a b : List Int) : (meetV a b).length = max a.length b.length := fillM_len _ _ _ _
theorem all_get {l : List Int} (h : ∀ i, U64 (l.getD i 0)) : ∀ z ∈ l, U64 z := fun z hz => by
  obtain ⟨i, hi, rfl⟩ := List.getElem_of_mem hz
  have := h i
  rwa [getD_in l i hi] at this
theorem minusV_U {a b : List Int} (ha : ∀ z ∈ a, U64 z) (hb : ∀ z ∈ b, U64 z) : ∀ z ∈ minusV a b, U64 z := all_get (fun i => by rw [minusV_get]; exact andNot_U64 (getD_U64 ha i) (getD_U64 hb i))
theorem unionV_U {a b : List Int} (ha : ∀ z ∈ a, U64 z) (hb : ∀ z ∈ b, U64 z) : ∀ z ∈ unionV a b, U64 z := all_get (fun i => by rw [unionV_get]; exact or_U64 (getD_U64 ha i) (getD_U64 hb i))
theorem meetV_U {a b : List Int} (ha : ∀ z ∈ a, U64 z) (hb : ∀ z ∈ b, U64 z) : ∀ z ∈ meetV a b, U64 z := all_get (fun i => by rw [meetV_get]; exact and_U64 (getD_U64 ha i) (getD_U64 hb i))
/-- what is told of every pair of lists by all three -/
def RowPost (L : List Int) (w : World) (e : Ending) (w' : World) : Prop := ∃ v, e = .returned v ∧ Lst .u64 w' v L ∧ (∀ b, setBlk v = some b → w.heap.size ≤ b) ∧ Below w.heap.size w w'
theorem row_post {L : List Int} {w w' : World} {e : Ending} (hm : L.length ≤ 8192) (h : NewRow w L e w') : RowPost L w e w' := by
  obtain ⟨g, rfl, h1, h2, h3⟩ := h
  exact ⟨_, rfl, blk_lst h1 (by unfold maxLen; omega), fun b hb => by rw [← setBlk_at hb]; exact h2, h3⟩
theorem minus_row (va vb : Value) (a b : List Int) (w : World) (ha : Lst .u64 w va a) (hb : Lst .u64 w vb b) (h1 : a.length ≤ 4096) (h2 : b.length ≤ 4096) :
    Calls Tryd.prog 19 #[va, vb] w (RowPost (minusV a b) w) := (minus_any va vb a b w ha hb h1 h2).mono (fun e w' h => row_post (by rw [minusV_len]; omega) h)
theorem union_row (va vb : Value) (a b : List Int) (w : World) (ha : Lst .u64 w va a) (hb : Lst .u64 w vb b) (h1 : a.length ≤ 4096) (h2 : b.length ≤ 4096) :
    Calls Tryd.prog 18 #[va, vb] w (RowPost (unionV a b) w) := (union_anyL va vb a b w ha hb h1 h2).mono (fun e w' h => row_post (by rw [unionV_len]; omega) h)
theorem meet_row (va vb : Value) (a b : List Int) (w : World) (ha : Lst .u64 w va a) (hb : Lst .u64 w vb b) (h1 : a.length ≤ 4096) (h2 : b.length ≤ 4096) :
    Calls Tryd.prog 21 #[va, vb] w (RowPost (meetV a b) w) := (meet_anyL va vb a b w ha hb h1 h2).mono (fun e w' h => row_post (by rw [meetV_len]; omega) h)
set_option maxHeartbeats 400000 in
theorem within_any (va vb : Value) (a b : List Int) (w : World) (ha : Lst .u64 w va a) (hb : Lst .u64 w vb b) (h1 : a.length ≤ 4096) (h2 : b.length ≤ 4096) (hU : ∀ z ∈ a, U64 z) (hV : ∀ z ∈ b, U64 z) :
    Calls Tryd.prog 22 #[va, vb] w fun e w' => e = .returned (.bool (cntL (minusV a b) == 0)) ∧ Below w.heap.size w w' := by
  have M := Lib.hid (minus_row va vb a b w ha hb h1 h2)
  have z2 := Lib.hid (minusV_U hU hV)
  have z3 : (minusV a b).length ≤ 4096 := by rw [minusV_len]; omega
  generalize minusV a b = Z at *
  clear ha hb h1 h2 hU
  go_enter Tryd.func22, Tryd.ntmps22
  go_wp2_with fail
  refine M.out.mono ?_
  rintro e w1 ⟨v, rfl, hL, _, hb⟩
  have C := Lib.hid (count_lst _ Z w1 hL z2.out z3)
  clear hL
  go_wp2_with fail
  refine C.out.mono ?_
  rintro e w2 ⟨rfl, hq⟩
  go_wp2
  go_ret
  exact ⟨by simp, hb.trans hq.below⟩
set_option maxHeartbeats 400000 in
theorem same_any (va vb : Value) (a b : List Int) (w : World) (ha : Lst .u64 w va a) (hb : Lst .u64 w vb b) (h1 : a.length ≤ 4096) (h2 : b.length ≤ 4096) (hU : ∀ z ∈ a, U64 z) (hV : ∀ z ∈ b, U64 z) :
    Calls Tryd.prog 20 #[va, vb] w fun e w' => e = .returned (.bool (cntL (minusV a b) == 0 && cntL (minusV b a) == 0)) ∧ Below w.heap.size w w' := by
  have X := Lib.hid (within_any va vb a b w ha hb h1 h2 hU hV)
  have Y := Lib.hid (fun W (hq : Below w.heap.size w W) => within_any vb va b a W (hb.below hq) (ha.below hq) h2 h1 hV hU)
  generalize (cntL (minusV a b) == 0) = p at *
  generalize (cntL (minusV b a) == 0) = q at *
  clear ha hb hU hV
  cases p with
  | true =>
    go_enter Tryd.func20, Tryd.ntmps20
    go_wp2_with fail
    refine X.out.mono ?_
    rintro e w1 ⟨rfl, hb1⟩
    go_wp2_with fail
    refine (Y.out _ hb1).mono ?_
    rintro e w2 ⟨rfl, hb2⟩
    go_wp2
    go_ret
    exact ⟨by simp, hb1.trans (hb2.mono hb1.size)⟩
  | false =>
    go_enter Tryd.func20, Tryd.ntmps20
    go_wp2_with fail
    refine X.out.mono ?_
    rintro e w1 ⟨rfl, hb1⟩
    go_wp2
    go_ret
    exact ⟨by simp, hb1⟩
end Go.Proofs.YtalhlbedgkhijaaDoor
