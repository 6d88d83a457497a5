/- One place put in or taken out of a set: numbers alone. Condition: each number has 64 bits. -/
import Derived.Test.YtbpgnhakphpobaaDoorMnum
namespace Go.Proofs.YtbpgnhakphpobaaDoor
open Go.RowKit
set_option linter.unusedVariables false

theorem tb_bit (p k : Nat) : tbI (mbitI p) k = decide (k = p % 64) := by
  unfold tbI mbitI
  rw [Int.toNat_natCast, Nat.testBit_two_pow]
  simp [eq_comm]
theorem has_tb {x : Int} (hx : U64 x) (p : Nat) : (bits .and .u64 x (mbitI p) != 0) = tbI x (p % 64) := by
  have hu := and_U64 hx (bitI_U64 p)
  cases h : tbI x (p % 64) with
  | true =>
    have : tbI (bits .and .u64 x (mbitI p)) (p % 64) = true := by rw [tb_and hx (bitI_U64 p), tb_bit, h]; simp
    have hne : bits .and .u64 x (mbitI p) ≠ 0 := fun e => by rw [e, tb_zero] at this; cases this
    simp [hne]
  | false =>
    have : bits .and .u64 x (mbitI p) = 0 := tb_ext hu ⟨by decide, by decide⟩ (fun k => by
      rw [tb_and hx (bitI_U64 p), tb_bit, tb_zero]
      by_cases e : k = p % 64
      · subst e; rw [h]; rfl
      · simp [e])
    simp [this]
theorem hasB_tb {l : List Int} (hU : ∀ z ∈ l, U64 z) (p : Nat) : hasB l p = tbI (l.getD (p / 64) 0) (p % 64) := has_tb (getD_U64 hU _) p
theorem withL_get (l : List Int) (p i : Nat) : (withL l p).getD i 0 = if i = p / 64 then bits .or .u64 (l.getD i 0) (mbitI p) else l.getD i 0 := by
  have hp : p / 64 < (padL l (if l.length < p / 64 + 1 then p / 64 + 1 else l.length)).length := by rw [padL_len] <;> split <;> omega
  unfold withL
  by_cases e : p / 64 = i
  · subst e
    rw [getD_set_eq _ _ _ hp, if_pos rfl]
  · rw [getD_set_ne _ _ _ _ e, padL_get, if_neg (fun h => e h.symm)]
theorem withL_tb {l : List Int} (hU : ∀ z ∈ l, U64 z) (p i k : Nat) : tbI ((withL l p).getD i 0) k = (tbI (l.getD i 0) k || (decide (i = p / 64) && decide (k = p % 64))) := by
  rw [withL_get]
  by_cases e : i = p / 64
  · rw [if_pos e, tb_or (getD_U64 hU i) (bitI_U64 p), tb_bit]; simp [e]
  · rw [if_neg e]; simp [e]
theorem withoutL_tb {l : List Int} (hU : ∀ z ∈ l, U64 z) (p i k : Nat) : tbI ((withoutL l p).getD i 0) k = (tbI (l.getD i 0) k && !(decide (i = p / 64) && decide (k = p % 64))) := by
  unfold withoutL
  by_cases e : p / 64 = i
  · subst e
    by_cases hl : p / 64 < l.length
    · rw [getD_set_eq _ _ _ hl, tb_andNot (getD_U64 hU _) (bitI_U64 p), tb_bit]; simp
    · rw [List.set_eq_of_length_le (by omega)]
      have hz : l.getD (p / 64) 0 = 0 := by simp [List.getD_eq_getElem?_getD, hl]
      rw [hz, tb_zero]; rfl
  · rw [getD_set_ne _ _ _ _ e]
    simp [show ¬ i = p / 64 from fun h => e h.symm]
theorem sum_one (f : Nat → Int) (q : Nat) (h : ∀ i, i ≠ q → f i = 0) : ∀ N, q < N → ((List.range N).map f).sum = f q
  | N + 1, hq => by
    have h0 : ∀ M, M ≤ q → ((List.range M).map f).sum = 0 := by
      intro M
      induction M with
      | zero => intro _; rfl
      | succ M ih => intro hM; rw [List.range_succ, List.map_append, List.sum_append, ih (by omega)]; simp [h M (by omega)]
    rw [List.range_succ, List.map_append, List.sum_append]
    by_cases e : q = N
    · subst e; rw [h0 q (Nat.le_refl _)]; simp
    · rw [sum_one f q h N (by omega)]; simp [h N (fun h => e h.symm)]
theorem cnt_pow : ∀ k : Fin 64, cnt (2 ^ k.val) 64 = 1 := by decide +kernel
theorem cntL_one (p : Nat) : cntL (withL [] p) = 1 := by
  have hl : (withL [] p).length = p / 64 + 1 := by rw [withL_len]; simp
  have hU : ∀ z ∈ ([] : List Int), U64 z := fun z hz => by cases hz
  rw [cntL_range _ (p / 64 + 1) (by omega)]
  rw [sum_one _ (p / 64) (fun i hi => ?_) _ (by omega)]
  · rw [withL_get, if_pos rfl]
    have e : bits .or .u64 (([] : List Int).getD (p / 64) 0) (mbitI p) = mbitI p := tb_ext (or_U64 ⟨by simp, by simp⟩ (bitI_U64 p)) (bitI_U64 p) (fun k => by rw [tb_or ⟨by simp, by simp⟩ (bitI_U64 p)]; simp [tb_zero])
    rw [e]
    have := cnt_pow ⟨p % 64, Nat.mod_lt _ (by decide)⟩
    unfold onesI mbitI
    rw [Int.toNat_natCast, this]; rfl
  · rw [withL_get, if_neg hi]
    simp [ones_zero]
/-- MaskAdds, in numbers -/
theorem adds_num {l : List Int} (hU : ∀ z ∈ l, U64 z) (p : Nat) : hasB (withL l p) p = true ∧ hasB (withoutL (withL l p) p) p = false ∧ cntL (minusV l (withL l p)) = 0 ∧ cntL (minusV (withoutL (withL l p) p) l) = 0 ∧
    cntL (withL l p) = cntL l + (if hasB l p then 0 else 1) ∧ cntL (withoutL (withL l p) p) = cntL (withL l p) - 1 := by
  have hW := with_U64 hU p
  have hV := without_U64 hW p
  have h1 : ∀ z ∈ ([] : List Int), U64 z := fun z hz => by cases hz
  have e0 : ∀ i k, tbI (([] : List Int).getD i 0) k = false := fun i k => by simp [tb_zero]
  refine ⟨?_, ?_, cntL_none (fun i k => ?_), cntL_none (fun i k => ?_), ?_, ?_⟩
  · rw [hasB_tb hW, withL_tb hU]; simp
  · rw [hasB_tb hV, withoutL_tb hW]; simp
  · rw [minusV_tb hU hW, withL_tb hU]
    cases tbI (l.getD i 0) k <;> simp
  · rw [minusV_tb hV hU, withoutL_tb hW, withL_tb hU]
    cases tbI (l.getD i 0) k <;> cases (decide (i = p / 64) && decide (k = p % 64)) <;> rfl
  · rw [hasB_tb hU]
    cases hb : tbI (l.getD (p / 64) 0) (p % 64) with
    | true =>
      have := cntL_add (a := l) (b := []) (c := withL l p) (fun i k => by
        rw [withL_tb hU, e0]
        by_cases e : i = p / 64 ∧ k = p % 64
        · obtain ⟨rfl, rfl⟩ := e; rw [hb]; rfl
        · have : (decide (i = p / 64) && decide (k = p % 64)) = false := by simpa using e
          rw [this]; cases tbI (l.getD i 0) k <;> rfl)
      rw [this]; rfl
    | false =>
      have := cntL_add (a := l) (b := withL [] p) (c := withL l p) (fun i k => by
        rw [withL_tb hU, withL_tb h1, e0]
        by_cases e : i = p / 64 ∧ k = p % 64
        · obtain ⟨rfl, rfl⟩ := e; rw [hb]; simp
        · have : (decide (i = p / 64) && decide (k = p % 64)) = false := by simpa using e
          rw [this]; cases tbI (l.getD i 0) k <;> rfl)
      rw [this, cntL_one]; rfl
  · have := cntL_add (a := withoutL (withL l p) p) (b := withL [] p) (c := withL l p) (fun i k => by
      rw [withoutL_tb hW, withL_tb hU, withL_tb h1, e0]
      cases tbI (l.getD i 0) k <;> cases (decide (i = p / 64) && decide (k = p % 64)) <;> rfl)
    rw [cntL_one] at this
    omega
end Go.Proofs.YtbpgnhakphpobaaDoor
