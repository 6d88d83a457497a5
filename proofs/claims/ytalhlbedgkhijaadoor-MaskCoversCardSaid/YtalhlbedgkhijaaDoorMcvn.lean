/- The rows of a set cover it: numbers alone. No condition. -/
import Derived.Test.YtalhlbedgkhijaaDoorMfin
namespace Go.Proofs.YtalhlbedgkhijaaDoor
open Go.RowKit
set_option linter.unusedVariables false

/-- may this pair come next? -/
def chk (h : Nat → Bool) (E : Nat) (e b k : Nat) : Bool := decide (1 ≤ k) && decide (e ≤ b) && !(decide (b = e) && decide (0 < e)) && decide (b + k ≤ E) && (List.range (b - e)).all (fun j => !h (e + j)) && (List.range k).all (fun j => h (b + j))
def chkF (h : Nat → Bool) (E : Nat) : Option (Nat × Nat) → List (Int × Int) → Option (Nat × Nat)
  | s, [] => s
  | none, _ :: _ => none
  | some (e, c), (b, k) :: rs => chkF h E (if chk h E e b.toNat k.toNat then some (b.toNat + k.toNat, c + k.toNat) else none) rs
theorem chkF_none (h : Nat → Bool) (E : Nat) : ∀ rs, chkF h E none rs = none
  | [] => rfl
  | _ :: _ => rfl
theorem chkF_append (h : Nat → Bool) (E : Nat) : ∀ (a b : List (Int × Int)) (s : Option (Nat × Nat)), chkF h E s (a ++ b) = chkF h E (chkF h E s a) b
  | [], b, s => rfl
  | (x, y) :: a, b, none => by rw [List.cons_append, chkF_none, chkF_none, chkF_none]
  | (x, y) :: a, b, some (e, c) => chkF_append h E a b _
theorem chk_yes {h : Nat → Bool} {E e b k : Nat} (h1 : 1 ≤ k) (h2 : e ≤ b) (h3 : b ≠ e ∨ e = 0) (h4 : b + k ≤ E) (h5 : ∀ j, e ≤ j → j < b → h j = false) (h6 : ∀ j, b ≤ j → j < b + k → h j = true) : chk h E e b k = true := by
  unfold chk
  simp only [Bool.and_eq_true, decide_eq_true_eq, List.all_eq_true, List.mem_range, Bool.not_eq_true']
  refine ⟨⟨⟨⟨⟨h1, h2⟩, ?_⟩, h4⟩, fun j hj => h5 _ (by omega) (by omega)⟩, fun j hj => h6 _ (by omega) (by omega)⟩
  rcases h3 with e | e
  · simp [e]
  · simp [e]
theorem cover_go (h : Nat → Bool) (E : Nat) : ∀ (d i b k e c : Nat), i + d = E → 1 ≤ k → b + k ≤ i → e ≤ b → (b ≠ e ∨ e = 0) → (∀ j, e ≤ j → j < b → h j = false) → (∀ j, b ≤ j → j < b + k → h j = true) → (∀ j, b + k ≤ j → j < i → h j = false) →
    ∃ e', chkF h E (some (e, c)) (runsI (b : Int) (k : Int) (pf h d i)) = some (e', c + k + (pf h d i).length) ∧ (∀ j, e' ≤ j → j < E → h j = false)
  | 0, i, b, k, e, c, hE, h1, h2, h3, h4, h5, h6, h7 => by
    have hc := chk_yes (E := E) h1 h3 h4 (by omega) h5 h6
    refine ⟨b + k, ?_, fun j hj hj2 => h7 j hj (by omega)⟩
    simp only [pf, runsI]
    rw [if_pos (by omega)]
    simp only [chkF, Int.toNat_natCast, hc, if_true, List.length_nil, Nat.add_zero]
  | d + 1, i, b, k, e, c, hE, h1, h2, h3, h4, h5, h6, h7 => by
    cases hb : h i with
    | false =>
      have e1 : pf h (d + 1) i = pf h d (i + 1) := by simp [pf, hb]
      rw [e1]
      exact cover_go h E d (i + 1) b k e c (by omega) h1 (by omega) h3 h4 h5 h6 (fun j hj hj2 => by
        by_cases e : j = i
        · subst e; exact hb
        · exact h7 j hj (by omega))
    | true =>
      have e1 : pf h (d + 1) i = (i : Int) :: pf h d (i + 1) := by simp [pf, hb]
      rw [e1]
      simp only [runsI]
      rw [if_pos (by omega)]
      by_cases hi : i = b + k
      · rw [if_pos (by omega), show (k : Int) + 1 = ((k + 1 : Nat) : Int) by omega]
        obtain ⟨e', g1, g2⟩ := cover_go h E d (i + 1) b (k + 1) e c (by omega) (by omega) (by omega) h3 h4 h5 (fun j hj hj2 => by
          by_cases e : j = i
          · subst e; exact hb
          · exact h6 j hj (by omega)) (fun j hj hj2 => by omega)
        exact ⟨e', by rw [g1, List.length_cons]; congr 2; omega, g2⟩
      · rw [if_neg (by omega)]
        have hc := chk_yes (E := E) h1 h3 h4 (by omega) h5 h6
        obtain ⟨e', g1, g2⟩ := cover_go h E d (i + 1) i 1 (b + k) (c + k) (by omega) (by omega) (by omega) (by omega) (.inl hi) (fun j hj hj2 => h7 j hj hj2) (fun j hj hj2 => by rw [show j = i by omega]; exact hb) (fun j hj hj2 => by omega)
        refine ⟨e', ?_, g2⟩
        simp only [chkF, Int.toNat_natCast, hc, if_true]
        rw [show ((1 : Nat) : Int) = 1 from rfl] at g1
        rw [g1, List.length_cons]
        congr 2
        omega
theorem cover_start (h : Nat → Bool) (E : Nat) : ∀ (d i : Nat), i + d = E → (∀ j, j < i → h j = false) → ∃ e', chkF h E (some (0, 0)) (runsI 0 0 (pf h d i)) = some (e', (pf h d i).length) ∧ (∀ j, e' ≤ j → j < E → h j = false)
  | 0, i, hE, h1 => ⟨0, rfl, fun j _ hj => h1 j (by omega)⟩
  | d + 1, i, hE, h1 => by
    cases hb : h i with
    | false =>
      have e1 : pf h (d + 1) i = pf h d (i + 1) := by simp [pf, hb]
      rw [e1]
      exact cover_start h E d (i + 1) (by omega) (fun j hj => by
        by_cases e : j = i
        · subst e; exact hb
        · exact h1 j (by omega))
    | true =>
      have e1 : pf h (d + 1) i = (i : Int) :: pf h d (i + 1) := by simp [pf, hb]
      rw [e1]
      obtain ⟨e', g1, g2⟩ := cover_go h E d (i + 1) i 1 0 0 (by omega) (by omega) (by omega) (by omega) (.inr rfl) (fun j _ hj => h1 j hj) (fun j hj hj2 => by rw [show j = i by omega]; exact hb) (fun j hj hj2 => by omega)
      refine ⟨e', ?_, g2⟩
      show chkF h E (some (0, 0)) (runsI (i : Int) 1 (pf h d (i + 1))) = _
      rw [show ((1 : Nat) : Int) = 1 from rfl] at g1
      rw [g1, List.length_cons]
      congr 2
      omega
theorem cover_num (l : List Int) : ∃ e', chkF (hasP l) (64 * l.length) (some (0, 0)) (runsI 0 0 (plL l)) = some (e', (plL l).length) ∧ (∀ j, e' ≤ j → j < 64 * l.length → hasP l j = false) := by
  rw [plL_pf]
  exact cover_start (hasP l) (64 * l.length) (64 * l.length) 0 (by omega) (fun j hj => by omega)
end Go.Proofs.YtalhlbedgkhijaaDoor
