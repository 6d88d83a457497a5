/- The places of a word's ones, as a list: numbers alone. No condition. -/
import Derived.Test.YtcjkachlahjbiaaDoorTouch
import Derived.Test.YtcjkachlahjbiaaDoorRef
import Derived.Test.YtcjkachlahjbiaaDoorOnesb
import Derived.Lib.TrailingZeros
import Derived.Lib.BitFns
import Derived.Lib.ItoaNum
namespace Go.Proofs.YtcjkachlahjbiaaDoor
open Go.RowKit

/-- the places below n of the ones of X, rising -/
def plcs (X n : Nat) : List Int := ((List.range n).filter fun i => X.testBit i).map fun i => ((i : Nat) : Int)
theorem plcs_zero (X : Nat) : plcs X 0 = [] := rfl
theorem plcs_one (X n : Nat) (h : X.testBit n = true) : plcs X (n + 1) = plcs X n ++ [((n : Nat) : Int)] := by
  unfold plcs
  rw [List.range_succ, List.filter_append, List.map_append]
  simp [h]
theorem plcs_no (X n : Nat) (h : X.testBit n = false) : plcs X (n + 1) = plcs X n := by
  unfold plcs
  rw [List.range_succ, List.filter_append, List.map_append]
  simp [h]
theorem plcs_len_le (X n : Nat) : (plcs X n).length ≤ n := by
  unfold plcs
  rw [List.length_map]
  exact Nat.le_trans (List.length_filter_le _ _) (by simp)
theorem plcs_mem {X n : Nat} {z : Int} (h : z ∈ plcs X n) : 0 ≤ z ∧ z < n ∧ X.testBit z.toNat = true := by
  unfold plcs at h
  obtain ⟨i, hi, rfl⟩ := List.mem_map.1 h
  obtain ⟨h1, h2⟩ := List.mem_filter.1 hi
  have := List.mem_range.1 h1
  exact ⟨by omega, by omega, by simpa using h2⟩
theorem plcs_getD {X n k : Nat} (h : k < (plcs X n).length) : 0 ≤ (plcs X n).getD k 0 ∧ (plcs X n).getD k 0 < n ∧ X.testBit ((plcs X n).getD k 0).toNat = true := by
  rw [List.getD_eq_getElem?_getD, List.getElem?_eq_getElem h]
  exact plcs_mem (List.getElem_mem h)
theorem cnt_all (X n : Nat) : cnt X n = cnt (X % 2 ^ n) n := by
  have h := cnt_add (X % 2 ^ n) (X / 2 ^ n) n (Nat.mod_lt _ (Nat.two_pow_pos n)) 0
  rw [Nat.div_add_mod, Nat.add_zero] at h
  rw [h]
  simp [cnt]
theorem cnt_snoc (X n : Nat) : cnt X (n + 1) = cnt X n + (X.testBit n).toNat := rfl
theorem plcs_length (X : Nat) : ∀ n, (plcs X n).length = cnt X n
  | 0 => rfl
  | n + 1 => by
    rw [cnt_snoc, ← plcs_length X n]
    cases h : X.testBit n with
    | true => rw [plcs_one X n h]; simp
    | false => rw [plcs_no X n h]; simp
/-- those below b alone -/
theorem plcs_below (X : Nat) (at_ : Int) : ∀ n, ((plcs X n).filter fun z => decide (z < at_)) = plcs X (min n at_.toNat)
  | 0 => by simp [plcs_zero]
  | n + 1 => by
    have ih := plcs_below X at_ n
    by_cases ha : ((n : Nat) : Int) < at_
    · have e : min (n + 1) at_.toNat = min n at_.toNat + 1 := by omega
      have e2 : min n at_.toNat = n := by omega
      rw [e, e2]
      rw [e2] at ih
      cases h : X.testBit n with
      | true => rw [plcs_one X n h, List.filter_append, ih]; simp [ha]
      | false => rw [plcs_no X n h, ih]
    · have e : min (n + 1) at_.toNat = min n at_.toNat := by omega
      rw [e]
      cases h : X.testBit n with
      | true => rw [plcs_one X n h, List.filter_append, ih]; simp [ha]
      | false => rw [plcs_no X n h, ih]
/-! the first and the last one -/
theorem plcs_first (X k : Nat) (hb : X.testBit k = true) (hl : ∀ j, j < k → X.testBit j = false) : ∀ n, k < n → (plcs X n).getD 0 0 = (k : Int) ∧ 0 < (plcs X n).length := by
  have h0 : ∀ n, n ≤ k → plcs X n = [] := by
    intro n
    induction n with
    | zero => intro _; rfl
    | succ n ih => intro h; rw [plcs_no X n (hl n (by omega)), ih (by omega)]
  intro n
  induction n with
  | zero => intro h; omega
  | succ n ih =>
    intro h
    by_cases hk : k = n
    · subst hk
      rw [plcs_one X k hb, h0 k (Nat.le_refl _)]
      exact ⟨rfl, by simp⟩
    · obtain ⟨h1, h2⟩ := ih (by omega)
      cases hn : X.testBit n with
      | true =>
        rw [plcs_one X n hn]
        refine ⟨?_, by simp⟩
        rw [List.getD_eq_getElem?_getD, List.getElem?_append_left h2, ← List.getD_eq_getElem?_getD, h1]
      | false => rw [plcs_no X n hn]; exact ⟨h1, h2⟩
theorem plcs_none (X : Nat) (hl : ∀ j, X.testBit j = false) : ∀ n, plcs X n = []
  | 0 => rfl
  | n + 1 => by rw [plcs_no X n (hl n), plcs_none X hl n]
theorem plcs_last (X k : Nat) (hb : X.testBit k = true) : ∀ n, k < n → (∀ j, k < j → j < n → X.testBit j = false) → plcs X n = plcs X k ++ [(k : Int)] := by
  intro n
  induction n with
  | zero => intro h; omega
  | succ n ih =>
    intro h hl
    by_cases hk : k = n
    · subst hk
      exact plcs_one X k hb
    · rw [plcs_no X n (hl n (by omega) (by omega)), ih (by omega) (fun j h1 h2 => hl j h1 (by omega))]
theorem ctz_bits (X : Nat) (h0 : X ≠ 0) (hX : X < 2 ^ 64) : Lib.ctz 64 X < 64 ∧ X.testBit (Lib.ctz 64 X) = true ∧ ∀ j, j < Lib.ctz 64 X → X.testBit j = false := by
  have e : Lib.ctz 64 X = Lib.ctzFrom 64 X := by unfold Lib.ctz; rw [if_neg h0]
  rw [e]
  obtain ⟨m, h1, h2⟩ := Lib.ctzFrom_spec 64 X (by omega) hX
  generalize Lib.ctzFrom 64 X = k at *
  subst h1
  refine ⟨h2, ?_, ?_⟩
  · rw [Nat.mul_comm, Nat.testBit_mul_two_pow, Nat.sub_self, Nat.testBit_zero]
    simp
  · intro j hj
    rw [Nat.mul_comm, Nat.testBit_mul_two_pow]
    simp; omega
theorem bitLen_bits (X : Nat) (h0 : X ≠ 0) (hX : X < 2 ^ 64) : 1 ≤ Lib.bitLen X ∧ Lib.bitLen X ≤ 64 ∧ X.testBit (Lib.bitLen X - 1) = true ∧ ∀ j, Lib.bitLen X - 1 < j → X.testBit j = false := by
  obtain ⟨h1, h2, h3⟩ := Lib.bitLenAux_bounds 64 X hX h0
  have h4 : Lib.bitLen X ≤ 64 := Lib.bitLen_le X 64 (by omega) hX
  change 1 ≤ Lib.bitLen X at h1
  change 2 ^ (Lib.bitLen X - 1) ≤ X at h2
  change X < 2 ^ Lib.bitLen X at h3
  generalize Lib.bitLen X = L at *
  refine ⟨h1, h4, ?_, ?_⟩
  · have e : L = (L - 1) + 1 := by omega
    rw [e] at h3
    rw [Nat.testBit_eq_decide_div_mod_eq]
    have h5 : X / 2 ^ (L - 1) = 1 := by
      rw [Nat.pow_succ] at h3
      have hp := Nat.two_pow_pos (L - 1)
      have h6 : 1 ≤ X / 2 ^ (L - 1) := (Nat.le_div_iff_mul_le hp).2 (by omega)
      have h7 : X / 2 ^ (L - 1) < 2 := (Nat.div_lt_iff_lt_mul hp).2 (by omega)
      omega
    rw [h5]; decide
  · intro j hj
    exact Nat.testBit_lt_two_pow (Nat.lt_of_lt_of_le h3 (Nat.pow_le_pow_right (by decide) (by omega)))
theorem plcs_high (X : Nat) (hX : X < 2 ^ 64) : ∀ d, plcs X (64 + d) = plcs X 64
  | 0 => rfl
  | d + 1 => by rw [show 64 + (d + 1) = 64 + d + 1 by omega, plcs_no X (64 + d) (Nat.testBit_lt_two_pow (Nat.lt_of_lt_of_le hX (Nat.pow_le_pow_right (by decide) (by omega)))), plcs_high X hX d]
theorem plcs_low (X : Nat) (hX : X < 2 ^ 64) (h0 : X ≠ 0) : 0 < (plcs X 64).length ∧ (plcs X 64).getD 0 0 = ((Lib.ctz 64 X : Nat) : Int) := by
  obtain ⟨h1, h2, h3⟩ := ctz_bits X h0 hX
  obtain ⟨h4, h5⟩ := plcs_first X _ h2 h3 64 h1
  exact ⟨h5, h4⟩
theorem plcs_top (X : Nat) (hX : X < 2 ^ 64) (h0 : X ≠ 0) : (plcs X 64).getD ((plcs X 64).length - 1) 0 = ((Lib.bitLen X : Nat) : Int) - 1 := by
  obtain ⟨h1, h2, h3, h4⟩ := bitLen_bits X h0 hX
  have h5 := plcs_last X _ h3 64 (by omega) (fun j h _ => h4 j h)
  rw [h5]
  rw [List.length_append, List.length_singleton, Nat.add_sub_cancel, List.getD_eq_getElem?_getD, List.getElem?_append_right (Nat.le_refl _), Nat.sub_self]
  simp
  omega
theorem plcs_nil (n : Nat) : plcs 0 n = [] := plcs_none 0 (fun j => Nat.zero_testBit j) n
end Go.Proofs.YtcjkachlahjbiaaDoor
