/- The first room, by rows and number by number, is the same: numbers alone. No condition. -/
import Derived.Test.YtbpgnhakphpobaaDoorMfit
import Derived.Test.YtbpgnhakphpobaaDoorMrhas
namespace Go.Proofs.YtbpgnhakphpobaaDoor
open Go.RowKit
set_option linter.unusedVariables false

def fitP (n E : Int) : Int → List Int → Int
  | bh, [] => if E - bh ≥ n then bh else -1
  | bh, p :: ps => if p - bh ≥ n then bh else fitP n E (p + 1) ps
theorem fit_runs (n E : Int) (hn : 1 ≤ n) : ∀ (ps : List Int) (b k bh : Int), 0 < k → fitI n E bh (runsI b k ps) = if b - bh ≥ n then bh else fitP n E (b + k) ps
  | [], b, k, bh, hk => by
    unfold runsI
    rw [if_pos hk]
    rfl
  | p :: ps, b, k, bh, hk => by
    unfold runsI
    rw [if_pos hk]
    by_cases hp : p = b + k
    · rw [if_pos hp, fit_runs n E hn ps b (k + 1) bh (by omega)]
      have e : fitP n E (b + k) (p :: ps) = fitP n E (p + 1) ps := by
        show (if p - (b + k) ≥ n then b + k else fitP n E (p + 1) ps) = _
        rw [if_neg (by omega)]
      rw [e, hp, show b + k + 1 = b + (k + 1) by omega]
    · rw [if_neg hp]
      show (if b - bh ≥ n then bh else fitI n E (b + k) (runsI p 1 ps)) = _
      rw [fit_runs n E hn ps p 1 (b + k) (by decide)]
      rfl
theorem fit_places (n E : Int) (hn : 1 ≤ n) (ps : List Int) : fitI n E 0 (runsI 0 0 ps) = fitP n E 0 ps := by
  cases ps with
  | nil => rfl
  | cons p ps =>
    show fitI n E 0 (runsI p 1 ps) = _
    rw [fit_runs n E hn ps p 1 0 (by decide)]
    rfl
/-- the numbers from i on, d many, that h holds of -/
def pf (h : Nat → Bool) : Nat → Nat → List Int
  | 0, _ => []
  | d + 1, i => if h i then (i : Int) :: pf h d (i + 1) else pf h d (i + 1)
theorem pf_add (h : Nat → Bool) (d2 : Nat) : ∀ (d1 i : Nat), pf h (d1 + d2) i = pf h d1 i ++ pf h d2 (i + d1)
  | 0, i => by simp [pf]
  | d1 + 1, i => by
    rw [show d1 + 1 + d2 = (d1 + d2) + 1 by omega]
    have ih := pf_add h d2 d1 (i + 1)
    rw [show i + 1 + d1 = i + (d1 + 1) by omega] at ih
    simp only [pf]
    cases h i with
    | true => simp [ih]
    | false => simpa using ih
theorem pf_snoc (h : Nat → Bool) (d i : Nat) : pf h (d + 1) i = pf h d i ++ if h (i + d) then [((i + d : Nat) : Int)] else [] := by
  rw [pf_add]
  simp only [pf]
theorem plcs_pf (X m : Nat) (h : Nat → Bool) (hh : ∀ k, k < 64 → h (64 * m + k) = X.testBit k) : ∀ n, n ≤ 64 → (plcs X n).map (fun p => 64 * (m : Int) + p) = pf h n (64 * m)
  | 0, _ => rfl
  | n + 1, hn => by
    rw [pf_snoc, ← plcs_pf X m h hh n (by omega), hh n (by omega)]
    cases hb : X.testBit n with
    | true => rw [plcs_one X n hb]; simp
    | false => rw [plcs_no X n hb]; simp
theorem plR_pf (l : List Int) : ∀ m, plR l m = pf (hasP l) (64 * m) 0
  | 0 => by simp [plR, pf]
  | m + 1 => by
    rw [plR_succ, plR_pf l m, show 64 * (m + 1) = 64 * m + 64 by omega, pf_add, Nat.zero_add]
    congr 1
    exact plcs_pf _ m _ (fun k hk => by unfold hasP; rw [show (64 * m + k) / 64 = m by omega, show (64 * m + k) % 64 = k by omega]; rfl) 64 (Nat.le_refl _)
theorem plL_pf (l : List Int) : plL l = pf (hasP l) (64 * l.length) 0 := plR_pf l _
theorem fitP_room (n : Int) (h : Nat → Bool) (bh : Int) : ∀ (d j E : Nat), j + d = E → (j : Int) - bh ≥ n → fitP n (E : Int) bh (pf h d j) = bh
  | 0, j, E, hE, hj => by
    show (if (E : Int) - bh ≥ n then bh else -1) = bh
    rw [if_pos (by omega)]
  | d + 1, j, E, hE, hj => by
    simp only [pf]
    cases h j with
    | true =>
      show (if (j : Int) - bh ≥ n then bh else _) = bh
      rw [if_pos hj]
    | false => exact fitP_room n h bh d (j + 1) E (by omega) (by omega)
theorem fitP_rfit (n : Int) (hn : 1 ≤ n) (h : Nat → Bool) : ∀ (d i f : Nat) (bh : Int) (E : Nat), i + d = E → (i : Int) - bh = f → (f : Int) < n → fitP n (E : Int) bh (pf h d i) = rfitI h n d i f
  | 0, i, f, bh, E, hE, hf, hlt => by
    show (if (E : Int) - bh ≥ n then bh else -1) = -1
    rw [if_neg (by omega)]
  | d + 1, i, f, bh, E, hE, hf, hlt => by
    simp only [pf, rfitI]
    cases hb : h i with
    | true =>
      simp only [if_true]
      rw [if_neg (by simp; omega)]
      show (if (i : Int) - bh ≥ n then bh else fitP n (E : Int) ((i : Int) + 1) (pf h d (i + 1))) = _
      rw [if_neg (by omega)]
      exact fitP_rfit n hn h d (i + 1) 0 _ E (by omega) (by omega) (by omega)
    | false =>
      simp only [Bool.false_eq_true, if_false]
      by_cases he : ((f + 1 : Nat) : Int) = n
      · rw [if_pos he, fitP_room n h bh d (i + 1) E (by omega) (by omega)]
        omega
      · rw [if_neg he]
        exact fitP_rfit n hn h d (i + 1) (f + 1) bh E (by omega) (by omega) (by omega)
theorem fit_num (l : List Int) (n : Int) (hn : 1 ≤ n) : fitI n (64 * (l.length : Int)) 0 (runsI 0 0 (plL l)) = rfitI (hasP l) n (64 * l.length) 0 0 := by
  rw [fit_places n _ hn, plL_pf]
  have := fitP_rfit n hn (hasP l) (64 * l.length) 0 0 0 (64 * l.length) (by omega) (by simp) (by omega)
  rw [← this]
  congr 1
end Go.Proofs.YtbpgnhakphpobaaDoor
