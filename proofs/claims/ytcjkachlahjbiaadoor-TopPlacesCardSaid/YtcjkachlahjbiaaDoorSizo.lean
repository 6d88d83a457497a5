/- The law SizesFull: the walk. No condition but that the tables lie as the start lays them. -/
import Derived.Test.YtcjkachlahjbiaaDoorSizm
namespace Go.Proofs.YtcjkachlahjbiaaDoor
open Go.RowKit
set_option linter.unusedVariables false

theorem and_U64 (x y : Int) (hx : U64 x) (hy : U64 y) : U64 (bits .and .u64 x y) ∧ (bits .and .u64 x y).toNat = x.toNat &&& y.toNat := by
  obtain ⟨X, rfl⟩ := Int.eq_ofNat_of_zero_le hx.1
  obtain ⟨Y, rfl⟩ := Int.eq_ofNat_of_zero_le hy.1
  have hX : X < 2 ^ 64 := by have := hx.2; omega
  have hY : Y < 2 ^ 64 := by have := hy.2; omega
  rw [bits_and_u64_nat _ _ hX hY]
  exact ⟨U64.nat _ (Nat.and_lt_two_pow _ hY), by simp⟩
theorem or_bit (x : Int) (z : Nat) (hx : U64 x) (hz : z < 64) : U64 (bits .or .u64 x (IntKind.u64.wrap (2 ^ min (((z : Nat) : Int)).toNat 64))) ∧ (bits .or .u64 x (IntKind.u64.wrap (2 ^ min (((z : Nat) : Int)).toNat 64))).toNat = x.toNat ||| 2 ^ z := by
  obtain ⟨X, rfl⟩ := Int.eq_ofNat_of_zero_le hx.1
  have hX : X < 2 ^ 64 := by have := hx.2; omega
  have hp : 2 ^ z < 2 ^ 64 := Nat.pow_lt_pow_right (by decide) hz
  have e : IntKind.u64.wrap (2 ^ min (((z : Nat) : Int)).toNat 64) = ((2 ^ z : Nat) : Int) := by
    rw [Int.toNat_natCast, show min z 64 = z by omega, show (2 : Int) ^ z = ((2 ^ z : Nat) : Int) by simp, IntKind.wrap_u64]
    generalize 2 ^ z = p at hp ⊢
    omega
  rw [e, bits_or_u64_nat _ _ hX hp]
  exact ⟨U64.nat _ (Nat.or_lt_two_pow hX hp), by simp⟩
theorem bit_off (x : Int) (z : Nat) (hx : U64 x) (hz : z < 64) (h : x.toNat.testBit z = false) : bits .and .u64 (x / 2 ^ z) 1 = 0 := by
  have h1 := get_bits x (z : Int) 1 hx (fldB_mk ⟨by omega, by omega, by decide, by omega⟩)
  rw [show maskI 1 = 1 from by decide, Int.toNat_natCast] at h1
  rw [h1]
  unfold getI getN
  rw [show (1 : Int).toNat = 1 from rfl, Int.toNat_natCast, Nat.shiftRight_eq_div_pow, Nat.pow_one, ← Nat.toNat_testBit, h]
  rfl

/-- how it stands when i cells were taken -/
structure Taken (c A L : Int) (i : Nat) : Prop where
  u : U64 A
  sub : A.toNat &&& (startsI c).toNat = A.toNat
  low : ∀ z ∈ freeL c A, L < z
  len : i + (freeL c A).length ≤ 64
theorem taken_valid {c A L : Int} {i : Nat} (h : Taken c A L i) (hc : clsB c = true) : validB c A = true := by
  rw [← valid_bits c A h.u hc]
  obtain ⟨h1, h2⟩ := andNot_nat A _ h.u (startsI_U64 c)
  have h3 : (bits .andNot .u64 A (startsI c)).toNat = 0 := by
    rw [h2, ← h.sub]
    apply Nat.eq_of_testBit_eq
    intro k
    have hlt : (startsI c).toNat < 2 ^ 64 := by have hu := startsI_U64 c; have := hu.2; have := hu.1; omega
    rw [Nat.testBit_and, Nat.testBit_and, testBit_not64 _ _ hlt, Nat.zero_testBit]
    cases A.toNat.testBit k <;> cases (startsI c).toNat.testBit k <;> simp
  have := h1.1
  rw [beq_iff_eq]
  omega
theorem taken_none {c A L : Int} {i : Nat} (h : Taken c A L i) (h0 : freeL c A = []) : A = startsI c := by
  have hu := startsI_U64 c
  obtain ⟨h1, h2⟩ := andNot_nat (startsI c) A hu h.u
  have h3 : plcs (freeI c A).toNat 64 = [] := by rw [freeI_plcs c A h.u, h0]
  have h4 := plcs_zero_of _ (by unfold freeI; have := h1.2; have := h1.1; omega) h3
  unfold freeI at h4
  rw [h2] at h4
  have hA := h.u
  have e : A.toNat = (startsI c).toNat := by
    apply Nat.eq_of_testBit_eq
    intro k
    have s1 : (A.toNat &&& (startsI c).toNat).testBit k = A.toNat.testBit k := by rw [h.sub]
    have s2 : ((startsI c).toNat &&& (18446744073709551615 - A.toNat)).testBit k = false := by rw [h4, Nat.zero_testBit]
    rw [Nat.testBit_and] at s1
    rw [Nat.testBit_and, testBit_not64 _ _ (by have := hA.2; have := hA.1; omega)] at s2
    by_cases hk : k < 64
    · cases hx : A.toNat.testBit k <;> cases hy : (startsI c).toNat.testBit k <;> simp_all
    · have hp : 2 ^ 64 ≤ 2 ^ k := Nat.pow_le_pow_right (by decide) (by omega)
      rw [Nat.testBit_lt_two_pow (Nat.lt_of_lt_of_le (show A.toNat < 2 ^ 64 by have := hA.2; have := hA.1; omega) hp), Nat.testBit_lt_two_pow (Nat.lt_of_lt_of_le (show (startsI c).toNat < 2 ^ 64 by have := hu.2; have := hu.1; omega) hp)]
  have := hA.1
  have := hu.1
  omega
theorem taken_next {c A L : Int} {i : Nat} (h : Taken c A L i) (h0 : freeL c A ≠ []) : ∃ z : Nat, z < 64 ∧ firstI c A 0 = (z : Int) ∧ L < (z : Int) ∧ A.toNat.testBit z = false ∧ 1 ≤ (freeL c A).length ∧ i + 1 ≤ 64 ∧
    Taken c (bits .or .u64 A (IntKind.u64.wrap (2 ^ min (((z : Nat) : Int)).toNat 64))) (z : Int) (i + 1) := by
  have hA := h.u
  have hu := startsI_U64 c
  have hf := freeI_U64 c A h.u
  have hpl := freeI_plcs c A h.u
  obtain ⟨q1, q2⟩ := andNot_nat (startsI c) A hu h.u
  have hXe : (freeI c A).toNat = (startsI c).toNat &&& (18446744073709551615 - A.toNat) := q2
  have hXl : (freeI c A).toNat < 2 ^ 64 := by have := hf.2; have := hf.1; omega
  have hX0 : (freeI c A).toNat ≠ 0 := by
    intro e
    rw [e, plcs_nil] at hpl
    exact h0 hpl.symm
  obtain ⟨z1, z2, z3⟩ := ctz_bits _ hX0 hXl
  have hcl := plcs_clear _ _ z2 z3 64
  rw [if_pos z1] at hcl
  have hcb := clear_bits _ _ z2 z3
  generalize (freeI c A).toNat = X at *
  generalize Lib.ctz 64 X = z at *
  have hAl : A.toNat < 2 ^ 64 := by have := hA.2; have := hA.1; omega
  have hXb : ∀ k, k < 64 → X.testBit k = ((startsI c).toNat.testBit k && !A.toNat.testBit k) := by
    intro k hk
    rw [hXe, Nat.testBit_and, testBit_not64 _ _ hAl]
    simp [hk]
  have hz := hXb z z1
  rw [z2] at hz
  obtain ⟨hzS, hzA⟩ : (startsI c).toNat.testBit z = true ∧ A.toNat.testBit z = false := by
    have h9 := hz.symm
    rw [Bool.and_eq_true, Bool.not_eq_true'] at h9
    exact h9
  obtain ⟨o1, o2⟩ := or_bit A z hA z1
  rw [hpl] at hcl
  have hzm : (z : Int) ∈ freeL c A := by rw [hcl]; simp
  refine ⟨z, z1, ?_, h.low _ hzm, hzA, by rw [hcl]; simp, ?_, ?_⟩
  · unfold firstI
    rw [hcl]
    simp
  · have := h.len
    rw [hcl] at this
    simp at this
    omega
  · have hp' := freeI_plcs c _ o1
    obtain ⟨r1, r2⟩ := andNot_nat (startsI c) _ hu o1
    have hX' : (freeI c (bits .or .u64 A (IntKind.u64.wrap (2 ^ min (((z : Nat) : Int)).toNat 64)))).toNat = X &&& (X - 1) := by
      unfold freeI
      rw [r2, o2]
      have hol : A.toNat ||| 2 ^ z < 2 ^ 64 := Nat.or_lt_two_pow hAl (Nat.pow_lt_pow_right (by decide) z1)
      apply Nat.eq_of_testBit_eq
      intro k
      rw [hcb k, Nat.testBit_and, testBit_not64 _ _ hol, Nat.testBit_or, Nat.testBit_two_pow]
      by_cases hk : k < 64
      · rw [hXb k hk]
        by_cases hkz : k = z
        · subst hkz; simp
        · have : ¬ z = k := fun e => hkz e.symm
          simp [hk, hkz, this]
      · have hp : 2 ^ 64 ≤ 2 ^ k := Nat.pow_le_pow_right (by decide) (by omega)
        rw [Nat.testBit_lt_two_pow (Nat.lt_of_lt_of_le hXl hp)]
        simp [hk]
    rw [hX'] at hp'
    refine ⟨o1, ?_, ?_, ?_⟩
    · rw [o2]
      apply Nat.eq_of_testBit_eq
      intro k
      have s1 : (A.toNat &&& (startsI c).toNat).testBit k = A.toNat.testBit k := by rw [h.sub]
      rw [Nat.testBit_and] at s1
      rw [Nat.testBit_and, Nat.testBit_or, Nat.testBit_two_pow]
      by_cases hkz : z = k
      · subst hkz; simp [hzS]
      · simp only [hkz, decide_false, Bool.or_false]; exact s1
    · intro y hy
      rw [← hp'] at hy
      obtain ⟨y1, y2, y3⟩ := plcs_mem hy
      rw [hcb] at y3
      have y4 : X.testBit y.toNat = true ∧ y.toNat ≠ z := by simpa using y3
      rcases Nat.lt_or_ge y.toNat z with hlt | hge
      · rw [z3 _ hlt] at y4; exact absurd y4.1 (by simp)
      · have := y4.2; omega
    · have h1 := h.len
      rw [hcl] at h1
      rw [← hp']
      simp at h1
      omega

end Go.Proofs.YtcjkachlahjbiaaDoor
