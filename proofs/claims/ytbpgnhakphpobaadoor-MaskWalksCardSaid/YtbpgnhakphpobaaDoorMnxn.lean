/- Word by word and number by number the first place is the same: numbers alone. Condition: each number has 64 bits. -/
import Derived.Test.YtbpgnhakphpobaaDoorMnext
import Derived.Test.YtbpgnhakphpobaaDoorMrhas
namespace Go.Proofs.YtbpgnhakphpobaaDoor
open Go.RowKit
set_option linter.unusedVariables false

theorem rnext_succ (h : Nat → Bool) (d i : Nat) : rnextI h (d + 1) i = if h i then (i : Int) else rnextI h d (i + 1) := rfl
theorem rnext_skip (h : Nat → Bool) (d : Nat) : ∀ (m i : Nat), (∀ j, j < m → h (i + j) = false) → rnextI h (m + d) i = rnextI h d (i + m)
  | 0, i, _ => by simp
  | m + 1, i, hf => by
    rw [show m + 1 + d = (m + d) + 1 by omega, rnext_succ, if_neg (by have := hf 0 (by omega); simp at this; simp [this]), rnext_skip h d m (i + 1) (fun j hj => by have := hf (j + 1) (by omega); rwa [show i + (j + 1) = i + 1 + j by omega] at this)]
    rw [show i + 1 + m = i + (m + 1) by omega]
theorem rnext_hit (h : Nat → Bool) (d m i : Nat) (hf : ∀ j, j < m → h (i + j) = false) (ht : h (i + m) = true) : rnextI h (m + (d + 1)) i = ((i + m : Nat) : Int) := by
  rw [rnext_skip h (d + 1) m i hf, rnext_succ, if_pos ht]
theorem tb_maskI (r k : Nat) (hr : r ≤ 64) : tbI (maskI (r : Int)) k = decide (k < r) := by
  unfold tbI maskI
  have : bnd (r : Int) = (r : Int) := by unfold bnd; split <;> (try split) <;> omega
  rw [this, Int.toNat_natCast, Int.toNat_natCast, Nat.testBit_two_pow_sub_one]
theorem first_rnext (o : Int → Int) (ho : ∀ x, U64 x → U64 (o x)) (l : List Int) (hU : ∀ z ∈ l, U64 z) (h : Nat → Bool) (hh : ∀ i k, i < l.length → k < 64 → h (64 * i + k) = tbI (o (l.getD i 0)) k) : ∀ (d i r : Nat), i + d = l.length → r < 64 → 
    firstI o l d i (maskI (r : Int)) = rnextI h (64 * d - r) (64 * i + r)
  | 0, i, r, hd, hr => by
    rw [show 64 * 0 - r = 0 by omega]; rfl
  | d + 1, i, r, hd, hr => by
    have hx := ho _ (getD_U64 hU i)
    have hw := andNot_U64 hx (maskI_U64 (r : Int))
    have ht : ∀ k, tbI (bits .andNot .u64 (o (l.getD i 0)) (maskI (r : Int))) k = (tbI (o (l.getD i 0)) k && !decide (k < r)) := fun k => by rw [tb_andNot hx (maskI_U64 _), tb_maskI r k (by omega)]
    unfold firstI
    by_cases hz : bits .andNot .u64 (o (l.getD i 0)) (maskI (r : Int)) = 0
    · rw [if_pos hz]
      have hf : ∀ j, j < 64 - r → h (64 * i + r + j) = false := fun j hj => by
        rw [show 64 * i + r + j = 64 * i + (r + j) by omega, hh i (r + j) (by omega) (by omega)]
        have := ht (r + j)
        rw [hz, tb_zero] at this
        simpa [show ¬ r + j < r by omega] using this.symm
      have e := rnext_skip h (64 * d) (64 - r) (64 * i + r) hf
      rw [show 64 - r + 64 * d = 64 * (d + 1) - r by omega, show 64 * i + r + (64 - r) = 64 * (i + 1) + 0 by omega] at e
      rw [e]
      have := first_rnext o ho l hU h hh d (i + 1) 0 (by omega) (by decide)
      rw [show (maskI ((0 : Nat) : Int)) = 0 by decide] at this
      exact this
    · rw [if_neg hz]
      obtain ⟨X, hX⟩ := Int.eq_ofNat_of_zero_le hw.1
      have hX0 : X ≠ 0 := fun e => hz (by rw [hX, e]; rfl)
      have hX1 : X < 2 ^ 64 := by have := hw.2; omega
      obtain ⟨c1, c2, c3⟩ := ctz_bits X hX0 hX1
      have hl : lowI (bits .andNot .u64 (o (l.getD i 0)) (maskI (r : Int))) = ((Lib.ctz 64 X : Nat) : Int) := by rw [hX]; rfl
      rw [hl]
      rw [hX] at ht
      simp only [tbI, Int.toNat_natCast] at ht
      generalize Lib.ctz 64 X = c at *
      have g1 := ht c
      rw [c2] at g1
      have hrc : r ≤ c := by
        rcases Nat.lt_or_ge c r with e | e
        · simp [e] at g1
        · exact e
      have g2 : tbI (o (l.getD i 0)) c = true := by simpa [tbI, show ¬ c < r by omega] using g1.symm
      have e := rnext_hit h (64 * (d + 1) - r - (c - r) - 1) (c - r) (64 * i + r) (fun j hj => by
        rw [show 64 * i + r + j = 64 * i + (r + j) by omega, hh i (r + j) (by omega) (by omega)]
        have := ht (r + j)
        rw [c3 (r + j) (by omega)] at this
        simpa [tbI, show ¬ r + j < r by omega] using this.symm) (by
        rw [show 64 * i + r + (c - r) = 64 * i + c by omega, hh i c (by omega) c1]; exact g2)
      rw [show c - r + (64 * (d + 1) - r - (c - r) - 1 + 1) = 64 * (d + 1) - r by omega] at e
      rw [e]
      omega
theorem next_num (o : Int → Int) (ho : ∀ x, U64 x → U64 (o x)) (l : List Int) (hU : ∀ z ∈ l, U64 z) (h : Nat → Bool) (hh : ∀ i k, i < l.length → k < 64 → h (64 * i + k) = tbI (o (l.getD i 0)) k) (F : Nat) : nextV o l F = rnextI h (64 * l.length - F) F := by
  unfold nextV
  by_cases hF : F / 64 ≤ l.length
  · rw [first_rnext o ho l hU h hh (l.length - F / 64) (F / 64) (F % 64) (by omega) (Nat.mod_lt _ (by decide))]
    congr 1 <;> omega
  · rw [show l.length - F / 64 = 0 by omega, show 64 * l.length - F = 0 by omega]
    rfl
theorem hasP_at (l : List Int) (i k : Nat) (hk : k < 64) : hasP l (64 * i + k) = tbI (l.getD i 0) k := by
  unfold hasP
  rw [show (64 * i + k) / 64 = i by omega, show (64 * i + k) % 64 = k by omega]
theorem tb_notI {x : Int} (hx : U64 x) (k : Nat) (hk : k < 64) : tbI (notI x) k = !tbI x k := by
  obtain ⟨X, rfl⟩ := Int.eq_ofNat_of_zero_le hx.1
  have hX : X < 2 ^ 64 := by have := hx.2; omega
  unfold notI tbI
  rw [show IntKind.u64.max = ((2 ^ 64 - 1 : Nat) : Int) by decide, bits_xor_u64_nat _ _ (by decide) hX]
  rw [Int.toNat_natCast, Int.toNat_natCast, Nat.testBit_xor, Nat.testBit_two_pow_sub_one]
  simp [hk]
theorem next_has {l : List Int} (hU : ∀ z ∈ l, U64 z) (F : Nat) : nextV (fun x => x) l F = rnextI (hasP l) (64 * l.length - F) F :=
  next_num _ (fun x h => h) l hU _ (fun i k _ hk => hasP_at l i k hk) F
theorem clear_has {l : List Int} (hU : ∀ z ∈ l, U64 z) (F : Nat) : nextV notI l F = rnextI (fun p => !hasP l p) (64 * l.length - F) F :=
  next_num _ (fun x h => notI_U64 h) l hU _ (fun i k _ hk => by rw [hasP_at l i k hk, tb_notI (getD_U64 hU i) k hk]) F
end Go.Proofs.YtbpgnhakphpobaaDoor
