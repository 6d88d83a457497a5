/- Sets of bits as lists of words: numbers alone. Condition: each number has 64 bits. -/
import Derived.Test.YtbpgnhakphpobaaDoorMset
import Derived.Test.YtbpgnhakphpobaaDoorPlcs
namespace Go.Proofs.YtbpgnhakphpobaaDoor
open Go.RowKit
set_option linter.unusedVariables false

def tbI (x : Int) (k : Nat) : Bool := x.toNat.testBit k
theorem tb_or {x y : Int} (hx : U64 x) (hy : U64 y) (k : Nat) : tbI (bits .or .u64 x y) k = (tbI x k || tbI y k) := by
  obtain ⟨X, rfl⟩ := Int.eq_ofNat_of_zero_le hx.1
  obtain ⟨Y, rfl⟩ := Int.eq_ofNat_of_zero_le hy.1
  have h1 := hx.2; have h2 := hy.2
  rw [bits_or_u64_nat _ _ (by omega) (by omega)]
  simp [tbI, Nat.testBit_or]
theorem tb_and {x y : Int} (hx : U64 x) (hy : U64 y) (k : Nat) : tbI (bits .and .u64 x y) k = (tbI x k && tbI y k) := by
  obtain ⟨X, rfl⟩ := Int.eq_ofNat_of_zero_le hx.1
  obtain ⟨Y, rfl⟩ := Int.eq_ofNat_of_zero_le hy.1
  have h1 := hx.2; have h2 := hy.2
  rw [bits_and_u64_nat _ _ (by omega) (by omega)]
  simp [tbI, Nat.testBit_and]
theorem tb_high {x : Int} (hx : U64 x) (k : Nat) (hk : 64 ≤ k) : tbI x k = false := by
  obtain ⟨X, rfl⟩ := Int.eq_ofNat_of_zero_le hx.1
  have h1 := hx.2
  unfold tbI
  rw [Int.toNat_natCast]
  exact Nat.testBit_lt_two_pow (Nat.lt_of_lt_of_le (show X < 2 ^ 64 by omega) (Nat.pow_le_pow_right (by decide) hk))
theorem tb_andNot {x y : Int} (hx : U64 x) (hy : U64 y) (k : Nat) : tbI (bits .andNot .u64 x y) k = (tbI x k && !tbI y k) := by
  by_cases hk : k < 64
  · obtain ⟨X, rfl⟩ := Int.eq_ofNat_of_zero_le hx.1
    obtain ⟨Y, rfl⟩ := Int.eq_ofNat_of_zero_le hy.1
    have h1 := hx.2; have h2 := hy.2
    rw [u64_andNot_nat _ _ (by omega) (by omega)]
    simp only [tbI, Int.toNat_natCast]
    rw [Nat.testBit_and, testBit_not64 _ _ (by omega)]
    simp [hk]
  · rw [tb_high (andNot_U64 hx hy) k (by omega), tb_high hx k (by omega)]
    rfl
theorem tb_zero (k : Nat) : tbI 0 k = false := by simp [tbI]
theorem tb_ext {x y : Int} (hx : U64 x) (hy : U64 y) (h : ∀ k, tbI x k = tbI y k) : x = y := by
  obtain ⟨X, rfl⟩ := Int.eq_ofNat_of_zero_le hx.1
  obtain ⟨Y, rfl⟩ := Int.eq_ofNat_of_zero_le hy.1
  have : X = Y := Nat.eq_of_testBit_eq (fun k => by simpa [tbI] using h k)
  rw [this]
theorem cnt_plus {X Y Z : Nat} (h : ∀ k, (Z.testBit k).toNat = (X.testBit k).toNat + (Y.testBit k).toNat) : ∀ n, cnt Z n = cnt X n + cnt Y n
  | 0 => rfl
  | n + 1 => by
    have := cnt_plus h n
    have := h n
    rw [cnt_snoc, cnt_snoc, cnt_snoc]; omega
theorem ones_add {x y z : Int} (h : ∀ k, (tbI z k).toNat = (tbI x k).toNat + (tbI y k).toNat) : onesI z = onesI x + onesI y := by
  unfold onesI
  have := cnt_plus h 64
  omega
theorem ones_zero : onesI 0 = 0 := by decide
theorem cntL_range (l : List Int) : ∀ N, l.length ≤ N → cntL l = ((List.range N).map fun i => onesI (l.getD i 0)).sum := by
  intro N hN
  have h0 : ∀ k, cntL (l.take k) = ((List.range k).map fun i => onesI (l.getD i 0)).sum := by
    intro k
    induction k with
    | zero => rfl
    | succ k ih =>
      rw [List.range_succ, List.map_append, List.sum_append, ← ih]
      by_cases h : k < l.length
      · rw [cntL_take l k h]; simp
      · rw [List.take_of_length_le (by omega), List.take_of_length_le (by omega)]
        simp [List.getD_eq_getElem?_getD, h, ones_zero]
  rw [← h0 N, List.take_of_length_le hN]
theorem sum_add (f g h : Nat → Int) (e : ∀ i, h i = f i + g i) : ∀ N, ((List.range N).map h).sum = ((List.range N).map f).sum + ((List.range N).map g).sum
  | 0 => rfl
  | N + 1 => by
    have := sum_add f g h e N
    have := e N
    simp only [List.range_succ, List.map_append, List.map_cons, List.map_nil, List.sum_append, List.sum_cons, List.sum_nil]
    omega
theorem cntL_add {a b c : List Int} (h : ∀ i k, (tbI (c.getD i 0) k).toNat = (tbI (a.getD i 0) k).toNat + (tbI (b.getD i 0) k).toNat) : cntL c = cntL a + cntL b := by
  rw [cntL_range a (a.length + b.length + c.length) (by omega), cntL_range b (a.length + b.length + c.length) (by omega), cntL_range c (a.length + b.length + c.length) (by omega)]
  exact sum_add _ _ _ (fun i => ones_add (h i)) _
theorem cntL_none {a : List Int} (h : ∀ i k, tbI (a.getD i 0) k = false) : cntL a = 0 := by
  have h2 : cntL a = cntL a + cntL a := cntL_add (fun i k => by rw [h]; rfl)
  omega
theorem cnt_pos {X k : Nat} (h : X.testBit k = true) : ∀ n, k < n → 0 < cnt X n
  | n + 1, hk => by
    rw [cnt_snoc]
    by_cases e : k = n
    · subst e; rw [h]; simp
    · have := cnt_pos h n (by omega); omega
theorem cntL_some {a : List Int} (hU : ∀ z ∈ a, U64 z) (h : cntL a = 0) : ∀ i k, tbI (a.getD i 0) k = false := by
  intro i k
  by_cases hk : k < 64
  · cases hb : tbI (a.getD i 0) k with
    | false => rfl
    | true =>
      exfalso
      have h1 : 0 < onesI (a.getD i 0) := by
        have := cnt_pos hb 64 hk
        unfold onesI; omega
      have hi : i < a.length := by
        rcases Nat.lt_or_ge i a.length with h2 | h2
        · exact h2
        · rw [show a.getD i 0 = 0 by simp [List.getD_eq_getElem?_getD, show ¬ i < a.length by omega]] at hb
          rw [tb_zero] at hb; cases hb
      have h2 := cntL_bd (a.take i)
      have h3 := cntL_take a i hi
      have h4 : cntL a = cntL (a.take (i + 1)) + cntL (a.drop (i + 1)) := by
        unfold cntL
        rw [← List.sum_append, ← List.map_append, List.take_append_drop]
      have h5 := cntL_bd (a.drop (i + 1))
      omega
  · exact tb_high (getD_U64 hU i) k (by omega)
section
variable {a b : List Int} (ha : ∀ z ∈ a, U64 z) (hb : ∀ z ∈ b, U64 z)
include ha hb
theorem minusV_tb (i k : Nat) : tbI ((minusV a b).getD i 0) k = (tbI (a.getD i 0) k && !tbI (b.getD i 0) k) := by rw [minusV_get, tb_andNot (getD_U64 ha i) (getD_U64 hb i)]
theorem unionV_tb (i k : Nat) : tbI ((unionV a b).getD i 0) k = (tbI (a.getD i 0) k || tbI (b.getD i 0) k) := by rw [unionV_get, tb_or (getD_U64 ha i) (getD_U64 hb i)]
theorem meetV_tb (i k : Nat) : tbI ((meetV a b).getD i 0) k = (tbI (a.getD i 0) k && tbI (b.getD i 0) k) := by rw [meetV_get, tb_and (getD_U64 ha i) (getD_U64 hb i)]
/-- MaskCounts, in numbers -/
theorem counts_num : cntL (unionV a b) = cntL a + cntL (minusV b a) ∧ cntL (minusV (unionV (meetV a b) (minusV a b)) a) = 0 ∧ cntL (minusV a (unionV (meetV a b) (minusV a b))) = 0 ∧
    cntL (minusV (meetV a b) b) = 0 ∧ cntL (minusV a (unionV a b)) = 0 ∧ cntL (meetV (minusV a b) b) = 0 := by
  have hm := meetV_U ha hb
  have hn := minusV_U ha hb
  have hu := unionV_U ha hb
  have huu := unionV_U hm hn
  refine ⟨cntL_add (fun i k => ?_), cntL_none (fun i k => ?_), cntL_none (fun i k => ?_), cntL_none (fun i k => ?_), cntL_none (fun i k => ?_), cntL_none (fun i k => ?_)⟩
  · rw [unionV_tb ha hb, minusV_tb hb ha]
    cases tbI (a.getD i 0) k <;> cases tbI (b.getD i 0) k <;> rfl
  · rw [minusV_tb huu ha, unionV_tb hm hn, meetV_tb ha hb, minusV_tb ha hb]
    cases tbI (a.getD i 0) k <;> cases tbI (b.getD i 0) k <;> rfl
  · rw [minusV_tb ha huu, unionV_tb hm hn, meetV_tb ha hb, minusV_tb ha hb]
    cases tbI (a.getD i 0) k <;> cases tbI (b.getD i 0) k <;> rfl
  · rw [minusV_tb hm hb, meetV_tb ha hb]
    cases tbI (a.getD i 0) k <;> cases tbI (b.getD i 0) k <;> rfl
  · rw [minusV_tb ha hu, unionV_tb ha hb]
    cases tbI (a.getD i 0) k <;> cases tbI (b.getD i 0) k <;> rfl
  · rw [meetV_tb hn hb, minusV_tb ha hb]
    cases tbI (a.getD i 0) k <;> cases tbI (b.getD i 0) k <;> rfl
end
end Go.Proofs.YtbpgnhakphpobaaDoor
