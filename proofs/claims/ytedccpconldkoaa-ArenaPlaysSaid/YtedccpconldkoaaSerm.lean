/- A log that grows: numbers alone. What replaying it gives, when one more access was kept. -/
import Derived.Test.YtedccpconldkoaaReplay
import Derived.Test.YtedccpconldkoaaLogy
namespace Go.Proofs.Ytedccpconldkoaa
open Go.RowKit
set_option linter.unusedVariables false

theorem repl_congr (F G : Nat → Nat → Int) : ∀ m i cs, (∀ j, i ≤ j → j < i + m → ∀ c, F j c = G j c) → repl F m i cs = repl G m i cs
  | 0, _, _, _ => rfl
  | m + 1, i, cs, h => by
    have h0 := h i (Nat.le_refl _) (by omega)
    have ih := fun cs' => repl_congr F G m (i + 1) cs' (fun j h1 h2 c => h j (by omega) (by omega) c)
    unfold repl
    rw [h0 1, h0 2, h0 3, h0 4, h0 5, h0 6, ih]
theorem repl_snoc (F : Nat → Nat → Int) : ∀ m i cs cs', repl F m i cs = (some cs', 0, 0) → stepE cs' (F (i + m) 2) (F (i + m) 1) (F (i + m) 3) (F (i + m) 4) (F (i + m) 5) (F (i + m) 6) = 0 →
    repl F (m + 1) i cs = (some (cs'.set (F (i + m) 2).toNat (F (i + m) 6)), 0, 0)
  | 0, i, cs, cs', h, hs => by
    simp only [repl, Prod.mk.injEq, Option.some.injEq] at h
    obtain ⟨rfl, _⟩ := h
    unfold repl
    rw [Nat.add_zero] at hs
    rw [if_pos hs, Nat.add_zero]
    rfl
  | m + 1, i, cs, cs', h, hs => by
    unfold repl at h
    split at h
    · rename_i h0
      have hs2 : i + (m + 1) = i + 1 + m := by omega
      rw [hs2] at hs ⊢
      have ih := repl_snoc F m (i + 1) _ cs' h hs
      rw [repl, if_pos h0, ih]
    · cases h
/-- one access more -/
def more (F : Nat → Nat → Int) (m : Nat) (who k at' want put seen left : Int) : Nat → Nat → Int := fun j c => if j < m then F j c else ([who, k, at', want, put, seen, left] : List Int).getD c 0
theorem flat_congr (F G : Nat → Nat → Int) : ∀ l : List Nat, (∀ i ∈ l, accA F i = accA G i) → flat F l = flat G l
  | [], _ => rfl
  | i :: l, h => by
    have ih := flat_congr F G l (fun j hj => h j (List.mem_cons_of_mem _ hj))
    have h0 := h i List.mem_cons_self
    unfold flat at ih ⊢
    rw [List.flatMap_cons, List.flatMap_cons, ih, h0]
theorem flat_more (F : Nat → Nat → Int) (m : Nat) (who k at' want put seen left : Int) : flat (more F m who k at' want put seen left) (List.range (m + 1)) = flat F (List.range m) ++ accV who k at' want put seen left := by
  rw [List.range_succ, flat_snoc]
  congr 1
  · refine flat_congr _ _ _ fun i hi => ?_
    have := List.mem_range.1 hi
    simp [accA, more, this]
  · simp [more, accV]
theorem repl_more1 (F : Nat → Nat → Int) (m : Nat) (zs cs : List Int) (who k want put : Int) (i : Nat) (h : repl F m 0 zs = (some cs, 0, 0)) (hk : kindB k = true) (hi : i < cs.length) :
    repl (more F m who k i want put (cs.getD i 0) (leftI k (cs.getD i 0) want put)) (m + 1) 0 zs = (some (cs.set i (leftI k (cs.getD i 0) want put)), 0, 0) := by
  have e : ∀ c, more F m who k i want put (cs.getD i 0) (leftI k (cs.getD i 0) want put) (0 + m) c = ([who, k, (i : Int), want, put, cs.getD i 0, leftI k (cs.getD i 0) want put] : List Int).getD c 0 := fun c => by simp [more]
  have h1 : repl (more F m who k i want put (cs.getD i 0) (leftI k (cs.getD i 0) want put)) m 0 zs = (some cs, 0, 0) := by
    rw [← h]
    refine repl_congr _ _ m 0 zs (fun j _ hj c => ?_)
    simp only [more, if_pos (show j < m by omega)]
  have := repl_snoc _ m 0 zs cs h1 (by
    simp only [e]
    unfold stepE
    rw [if_neg (by rw [show insB cs.length _ = true from decide_eq_true ⟨by simp, by simpa using hi⟩]; decide), if_pos ⟨hk, by simp, rfl⟩])
  simp only [e] at this
  simpa using this
end Go.Proofs.Ytedccpconldkoaa
