/- What mask.Union and Meet return, and Within and Same at all lists: as lists. Condition: the lists are short. -/
import Derived.Test.YtbpgnhakphpobaaDoorBitm
namespace Go.Proofs.YtbpgnhakphpobaaDoor
open Go.RowKit
set_option linter.unusedVariables false
def fillU (a b : List Int) (N k : Nat) : List Int := (List.range N).map fun i => if i < k then bits .or .u64 (a.getD i 0) (b.getD i 0) else 0
theorem fillU_len (a b : List Int) (N k : Nat) : (fillU a b N k).length = N := by simp [fillU]
theorem fillU_set (a b : List Int) (N k : Nat) (h : k < N) : (fillU a b N k).set k (bits .or .u64 (a.getD k 0) (b.getD k 0)) = fillU a b N (k + 1) := by
  unfold fillU
  apply List.ext_getElem
  · simp
  · intro i h1 h2
    simp only [List.getElem_set, List.getElem_map, List.getElem_range]
    by_cases e : k = i
    · subst e
      simp
    · rw [if_neg e]
      by_cases hi : i < k
      · simp [hi, show i < k + 1 by omega]
      · simp [hi, show ¬ i < k + 1 by omega]
theorem fillU_zero (a b : List Int) (N : Nat) : zeros N = ((fillU a b N 0).map (Value.int .u64)).toArray := by
  unfold zeros fillU
  congr 2
  apply List.ext_getElem
  · simp
  · intro i h1 h2
    simp
def fillM (a b : List Int) (N k : Nat) : List Int := (List.range N).map fun i => if i < k then bits .and .u64 (a.getD i 0) (b.getD i 0) else 0
theorem fillM_len (a b : List Int) (N k : Nat) : (fillM a b N k).length = N := by simp [fillM]
theorem fillM_set (a b : List Int) (N k : Nat) (h : k < N) : (fillM a b N k).set k (bits .and .u64 (a.getD k 0) (b.getD k 0)) = fillM a b N (k + 1) := by
  unfold fillM
  apply List.ext_getElem
  · simp
  · intro i h1 h2
    simp only [List.getElem_set, List.getElem_map, List.getElem_range]
    by_cases e : k = i
    · subst e
      simp
    · rw [if_neg e]
      by_cases hi : i < k
      · simp [hi, show i < k + 1 by omega]
      · simp [hi, show ¬ i < k + 1 by omega]
theorem fillM_zero (a b : List Int) (N : Nat) : zeros N = ((fillM a b N 0).map (Value.int .u64)).toArray := by
  unfold zeros fillM
  congr 2
  apply List.ext_getElem
  · simp
  · intro i h1 h2
    simp
theorem fill_get (f : Int → Int → Int) (hf : f 0 0 = 0) (a b : List Int) (N : Nat) (hN : max a.length b.length ≤ N) (i : Nat) : ((List.range N).map fun i => f (a.getD i 0) (b.getD i 0)).getD i 0 = f (a.getD i 0) (b.getD i 0) := by
  by_cases h : i < N
  · simp [List.getD_eq_getElem?_getD, h]
  · have h1 : a.getD i 0 = 0 := by simp [List.getD_eq_getElem?_getD, show ¬ i < a.length by omega]
    have h2 : b.getD i 0 = 0 := by simp [List.getD_eq_getElem?_getD, show ¬ i < b.length by omega]
    rw [h1, h2, hf]
    simp [List.getD_eq_getElem?_getD, h]
theorem fillL_full (a b : List Int) (N : Nat) : fillL a b N N = (List.range N).map fun i => bits .andNot .u64 (a.getD i 0) (b.getD i 0) := by
  unfold fillL
  exact List.map_congr_left (fun i hi => by rw [if_pos (List.mem_range.1 hi)])
theorem fillU_full (a b : List Int) (N : Nat) : fillU a b N N = (List.range N).map fun i => bits .or .u64 (a.getD i 0) (b.getD i 0) := by
  unfold fillU
  exact List.map_congr_left (fun i hi => by rw [if_pos (List.mem_range.1 hi)])
theorem fillM_full (a b : List Int) (N : Nat) : fillM a b N N = (List.range N).map fun i => bits .and .u64 (a.getD i 0) (b.getD i 0) := by
  unfold fillM
  exact List.map_congr_left (fun i hi => by rw [if_pos (List.mem_range.1 hi)])
/-- the three lists, whole -/
def minusV (a b : List Int) : List Int := fillL a b (max a.length b.length) (max a.length b.length)
def unionV (a b : List Int) : List Int := fillU a b (max a.length b.length) (max a.length b.length)
def meetV (a b : List Int) : List Int := fillM a b (max a.length b.length) (max a.length b.length)
theorem minusV_get (a b : List Int) (i : Nat) : (minusV a b).getD i 0 = bits .andNot .u64 (a.getD i 0) (b.getD i 0) := by unfold minusV; rw [fillL_full]; exact fill_get (bits .andNot .u64) (by decide) a b _ (Nat.le_refl _) i
theorem unionV_get (a b : List Int) (i : Nat) : (unionV a b).getD i 0 = bits .or .u64 (a.getD i 0) (b.getD i 0) := by unfold unionV; rw [fillU_full]; exact fill_get (bits .or .u64) (by decide) a b _ (Nat.le_refl _) i
theorem meetV_get (a b : List Int) (i : Nat) : (meetV a b).getD i 0 = bits .and .u64 (a.getD i 0) (b.getD i 0) := by unfold meetV; rw [fillM_full]; exact fill_get (bits .and .u64) (by decide) a b _ (Nat.le_refl _) i
theorem minusV_len (a b : List Int) : (minusV a b).length = max a.length b.length := fillL_len _ _ _ _
theorem unionV_len (a b : List Int) : (unionV a b).length = max a.length b.length := fillU_len _ _ _ _
theorem meetV_len (a b : List Int) : (meetV a b).length = max a.length b.length := fillM_len _ _ _ _
theorem all_get {l : List Int} (h : ∀ i, U64 (l.getD i 0)) : ∀ z ∈ l, U64 z := fun z hz => by
  obtain ⟨i, hi, rfl⟩ := List.getElem_of_mem hz
  have := h i
  rwa [getD_in l i hi] at this
theorem minusV_U {a b : List Int} (ha : ∀ z ∈ a, U64 z) (hb : ∀ z ∈ b, U64 z) : ∀ z ∈ minusV a b, U64 z := all_get (fun i => by rw [minusV_get]; exact andNot_U64 (getD_U64 ha i) (getD_U64 hb i))
theorem unionV_U {a b : List Int} (ha : ∀ z ∈ a, U64 z) (hb : ∀ z ∈ b, U64 z) : ∀ z ∈ unionV a b, U64 z := all_get (fun i => by rw [unionV_get]; exact or_U64 (getD_U64 ha i) (getD_U64 hb i))
theorem meetV_U {a b : List Int} (ha : ∀ z ∈ a, U64 z) (hb : ∀ z ∈ b, U64 z) : ∀ z ∈ meetV a b, U64 z := all_get (fun i => by rw [meetV_get]; exact and_U64 (getD_U64 ha i) (getD_U64 hb i))
/-- what is told of every pair of lists by all three -/
def RowPost (L : List Int) (w : World) (e : Ending) (w' : World) : Prop := ∃ v, e = .returned v ∧ Lst .u64 w' v L ∧ (∀ b, setBlk v = some b → w.heap.size ≤ b) ∧ Below w.heap.size w w'
theorem row_post {L : List Int} {w w' : World} {e : Ending} (hm : L.length ≤ 8192) (h : NewRow w L e w') : RowPost L w e w' := by
  obtain ⟨g, rfl, h1, h2, h3⟩ := h
  exact ⟨_, rfl, blk_lst h1 (by unfold maxLen; omega), fun b hb => by rw [← setBlk_at hb]; exact h2, h3⟩
end Go.Proofs.YtbpgnhakphpobaaDoor
