/- MaskRoom: the walk of the whole. Conditions: the argument is a list of words, the table of math/bits lies as the start lays it. -/
import Derived.Test.YtbpgnhakphpobaaDoorMnexl
import Derived.Test.YtbpgnhakphpobaaDoorMadds
namespace Go.Proofs.YtbpgnhakphpobaaDoor
open Go.RowKit
set_option linter.unusedVariables false

theorem rfit_spec (n : Nat) (hn : 1 ≤ n) (h : Nat → Bool) : ∀ (d i f : Nat), f ≤ i → (∀ j, j < f → h (i - f + j) = false) → (f = i ∨ h (i - f - 1) = true) → f < n →
    rfitI h n d i f = -1 ∨ ∃ s : Nat, rfitI h n d i f = (s : Int) ∧ s + n ≤ i + d ∧ (∀ j, j < n → h (s + j) = false) ∧ (s = 0 ∨ h (s - 1) = true)
  | 0, i, f, _, _, _, _ => .inl rfl
  | d + 1, i, f, hf, h1, h2, h3 => by
    simp only [rfitI]
    cases hb : h i with
    | true =>
      simp only [if_true]
      rw [if_neg (by simp; omega)]
      rcases rfit_spec n hn h d (i + 1) 0 (by omega) (fun j hj => by omega) (.inr (by simpa using hb)) (by omega) with e | ⟨s, e1, e2, e3⟩
      · exact .inl e
      · exact .inr ⟨s, e1, by omega, e3⟩
    | false =>
      simp only [Bool.false_eq_true, if_false]
      have hall : ∀ j, j < f + 1 → h (i + 1 - (f + 1) + j) = false := fun j hj => by
        rw [show i + 1 - (f + 1) + j = i - f + j by omega]
        by_cases e : j = f
        · subst e; rw [show i - j + j = i by omega]; exact hb
        · exact h1 j (by omega)
      by_cases he : ((f + 1 : Nat) : Int) = (n : Int)
      · rw [if_pos he]
        refine .inr ⟨i - f, by omega, by omega, fun j hj => ?_, ?_⟩
        · have := hall j (by omega)
          rwa [show i + 1 - (f + 1) + j = i - f + j by omega] at this
        · rcases h2 with e | e
          · exact .inl (by omega)
          · exact .inr e
      · rw [if_neg he]
        rcases rfit_spec n hn h d (i + 1) (f + 1) (by omega) hall (by
          rcases h2 with e | e
          · exact .inl (by omega)
          · exact .inr (by rw [show i + 1 - (f + 1) - 1 = i - f - 1 by omega]; exact e)) (by omega) with e | ⟨s, e1, e2, e3⟩
        · exact .inl e
        · exact .inr ⟨s, e1, by omega, e3⟩
theorem hasB_P {l : List Int} (hU : ∀ z ∈ l, U64 z) (p : Nat) : hasB l p = hasP l p := hasB_tb hU p
theorem mod_plus (x : Int) : ∃ N : Nat, 1 ≤ N ∧ N ≤ 200 ∧ wrap64 (1 + wrap64 ((IntKind.u64.wrap x).tmod 200)) = N := by
  obtain ⟨j, hj, HJ⟩ := mod_small x 200 (by decide) (by decide)
  rw [show ((200 : Nat) : Int) = 200 from rfl] at HJ
  refine ⟨1 + j, by omega, by omega, ?_⟩
  rw [HJ, IntWalk.wrap64_in _ ⟨by omega, by omega⟩]
  omega
end Go.Proofs.YtbpgnhakphpobaaDoor
