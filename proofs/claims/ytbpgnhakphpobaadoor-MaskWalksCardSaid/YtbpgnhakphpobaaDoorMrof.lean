/- What the document's Of returns at every list of places: the set, or the error. Conditions: the list is not long, so many words at least are not many. -/
import Derived.Test.YtbpgnhakphpobaaDoorMrhas
import Derived.Test.YtbpgnhakphpobaaDoorMbit
import Derived.Deep.RegionWith
namespace Go.Proofs.YtbpgnhakphpobaaDoor
open Go.RowKit
set_option linter.unusedVariables false

def ofW0 (ps : List Int) (m : Nat) : Nat := ps.foldl (fun m p => max m (p.toNat / 64 + 1)) m
def ofL0 (ps : List Int) (m : Nat) : List Int := ps.foldl ofStep (List.replicate (ofW0 ps m) 0)
theorem ofW0_le (ps : List Int) (m : Nat) : ∀ k, k ≤ ps.length → (∀ j, j < k → okPl (ps.getD j 0) = true) → ofW0 (ps.take k) m ≤ max m 1024 ∧ ofW0 (ps.take k) m ≤ ofW0 ps m ∧ ∀ j, j < k → (ps.getD j 0).toNat / 64 < ofW0 (ps.take k) m := by
  intro k
  have mono : ∀ (qs : List Int) (m : Nat), m ≤ qs.foldl (fun m p => max m (p.toNat / 64 + 1)) m := by
    intro qs
    induction qs with
    | nil => exact fun m => Nat.le_refl _
    | cons p qs ih => exact fun m => Nat.le_trans (Nat.le_max_left _ _) (ih _)
  induction k with
  | zero => exact fun _ _ => ⟨by simp [ofW0]; omega, by simpa [ofW0] using mono ps m, fun j hj => by omega⟩
  | succ k ih =>
    intro hk h
    obtain ⟨h1, h2, h3⟩ := ih (by omega) (fun j hj => h j (by omega))
    have e : ofW0 (ps.take (k + 1)) m = max (ofW0 (ps.take k) m) ((ps.getD k 0).toNat / 64 + 1) := take_step _ _ ps k (by omega)
    have ho := of_decide_eq_true (h k (by omega))
    refine ⟨by rw [e]; omega, ?_, fun j hj => ?_⟩
    · have := mono (ps.drop (k + 1)) (ofW0 (ps.take (k + 1)) m)
      have e2 : ofW0 ps m = (ps.drop (k + 1)).foldl (fun m p => max m (p.toNat / 64 + 1)) (ofW0 (ps.take (k + 1)) m) := by
        unfold ofW0
        rw [← List.foldl_append, List.take_append_drop]
      rw [e2]; exact this
    · rw [e]
      by_cases hjk : j = k
      · subst hjk; omega
      · have := h3 j (by omega); omega
theorem lowmod (X r : Nat) (h : X.testBit r = false) : X % 2 ^ (r + 1) < 2 ^ r := by
  apply Nat.lt_pow_two_of_testBit
  intro i hi
  rw [Nat.testBit_mod_two_pow]
  by_cases e : i = r
  · subst e; rw [h]; simp
  · simp [show ¬ i < r + 1 by omega]
theorem add_bit (X r : Nat) (h : X.testBit r = false) : X + 2 ^ r = X ||| 2 ^ r := by
  have h1 := Nat.div_add_mod X (2 ^ (r + 1))
  have h2 := lowmod X r h
  generalize X / 2 ^ (r + 1) = q at *
  generalize X % 2 ^ (r + 1) = m at *
  have hp : 2 ^ (r + 1) = 2 ^ r * 2 := Nat.pow_succ ..
  have e : X + 2 ^ r = 2 ^ (r + 1) * q + (2 ^ r * 1 + m) := by omega
  rw [e]
  apply Nat.eq_of_testBit_eq
  intro j
  rw [← h1, Nat.testBit_or, Nat.testBit_two_pow, Nat.testBit_two_pow_mul_add _ (show m < 2 ^ (r + 1) by omega), Nat.testBit_two_pow_mul_add _ (show 2 ^ r * 1 + m < 2 ^ (r + 1) by omega)]
  by_cases hj : j < r + 1
  · simp only [hj, if_true]
    rw [Nat.testBit_two_pow_mul_add _ h2]
    by_cases hr : j < r
    · simp [hr, show ¬ r = j by omega]
    · obtain rfl : j = r := by omega
      simp
  · simp [hj, show ¬ r = j by omega]
theorem or_one {x : Int} (hx : U64 x) (p : Nat) (h : tbI x (p % 64) = true) : bits .or .u64 x (mbitI p) = x :=
  tb_ext (or_U64 hx (bitI_U64 p)) hx (fun k => by
    rw [tb_or hx (bitI_U64 p), tb_bit]
    by_cases e : k = p % 64
    · subst e; rw [h]; rfl
    · simp [e])
theorem or_no {x : Int} (hx : U64 x) (p : Nat) (h : tbI x (p % 64) = false) : IntKind.u64.wrap (x + powI ((p % 64 : Nat) : Int)) = bits .or .u64 x (mbitI p) := by
  have hu := or_U64 hx (bitI_U64 p)
  obtain ⟨X, rfl⟩ := Int.eq_ofNat_of_zero_le hx.1
  have hX : X < 2 ^ 64 := by have := hx.2; omega
  have hb : 2 ^ (p % 64) < 2 ^ 64 := Nat.pow_lt_pow_right (by decide) (Nat.mod_lt _ (by decide))
  have e : bits .or .u64 (X : Int) (mbitI p) = ((X + 2 ^ (p % 64) : Nat) : Int) := by
    unfold mbitI
    rw [bits_or_u64_nat _ _ hX hb, add_bit X (p % 64) (by simpa [tbI] using h)]
  have e2 : (X : Int) + powI ((p % 64 : Nat) : Int) = ((X + 2 ^ (p % 64) : Nat) : Int) := by
    unfold powI; rw [Int.toNat_natCast]; omega
  rw [e] at hu ⊢
  rw [e2]
  generalize X + 2 ^ (p % 64) = Y at *
  rw [IntKind.wrap_u64]
  have h1 := hu.1; have h2 := hu.2
  omega
theorem ofStep_U {L : List Int} (h : ∀ z ∈ L, U64 z) (p : Int) : ∀ z ∈ ofStep L p, U64 z := set_U64 h _ (or_U64 (getD_U64 h _) (bitI_U64 _))
theorem ofFold_U (ps : List Int) : ∀ L : List Int, (∀ z ∈ L, U64 z) → ∀ z ∈ ps.foldl ofStep L, U64 z := by
  induction ps with
  | nil => exact fun L h => h
  | cons p ps ih => exact fun L h => ih _ (ofStep_U h p)
theorem zeros_U (n : Nat) : ∀ z ∈ List.replicate n (0 : Int), U64 z := fun z hz => by rw [List.eq_of_mem_replicate hz]; exact ⟨by decide, by decide⟩
theorem set_same (L : List Int) (q : Nat) (h : q < L.length) : L.set q (L.getD q 0) = L := by
  apply List.ext_getElem
  · simp
  · intro i h1 h2
    rw [List.getElem_set]
    by_cases e : q = i
    · subst e; simp [List.getD_eq_getElem?_getD, h]
    · simp [e]
def ROfPost (ps : List Int) (m : Nat) (w : World) (e : Ending) (w' : World) : Prop :=
  ((∀ k, k < ps.length → okPl (ps.getD k 0) = true) ∧ ∃ g, e = .returned (.tuple #[.slice (some ⟨g, 0, none⟩) (ofW0 ps m) (ofW0 ps m), .int .i64 0]) ∧ Blk w' g ((ofL0 ps m).map (Value.int .u64)).toArray 24 ∧ w.heap.size ≤ g ∧ Below w.heap.size w w') ∨
  ((∃ k, k < ps.length ∧ okPl (ps.getD k 0) = false) ∧ e = .returned (.tuple #[.slice none 0 0, .int .i64 1]) ∧ Below w.heap.size w w')
end Go.Proofs.YtbpgnhakphpobaaDoor
