/- What is packed is unpacked: plain mathematics of lists of numbers. No condition. -/
import Derived.Test.YtaghcogooggdpabPack
import Derived.Test.YtaghcogooggdpabUnpack
namespace Go.Proofs.Ytaghcogooggdpab
open Go.RowKit

/-- what was packed is unpacked -/
theorem room_math : ∀ (vs ds : List Int) (x a : Int), (∀ v ∈ vs, U64 v) → U64 x → 0 ≤ a → vs.length = ds.length → (packL vs ds x a).2 = 0 → U64 (packL vs ds x a).1 ∧ unpackL ds (packL vs ds x a).1 a = some vs ∧
    ∀ i : Nat, (i : Int) < a → (packL vs ds x a).1.toNat.testBit i = x.toNat.testBit i := by
  intro vs
  induction vs with
  | nil =>
    intro ds x a _ hx _ hl _
    have hd : ds = [] := List.eq_nil_of_length_eq_zero hl.symm
    subst hd
    exact ⟨hx, by simp [unpackL], fun _ _ => rfl⟩
  | cons v vs ih =>
    intro ds x a hv hx ha hl he
    cases ds with
    | nil => simp at hl
    | cons d ds =>
      rw [packL] at he ⊢
      cases hf : fldB a d with
      | false => rw [hf] at he; simp at he
      | true =>
        rw [hf, if_pos rfl] at he
        rw [if_pos rfl]
        by_cases hm : v ≤ maskI d
        · rw [if_pos hm] at he
          rw [if_pos hm]
          have hv0 := hv v (by simp)
          obtain ⟨f1, f2, f3, f4⟩ := fldB_true hf
          have hU := putI_U64 x a d v hx hv0.1 hf hm
          obtain ⟨i1, i2, i3⟩ := ih ds (putI x a d v) (a + d) (fun u hu => hv u (by simp [hu])) hU (by omega) (by simpa using hl) he
          have hvd := (le_maskI v d f3 (by omega) hv0.1).1 hm
          have hxn : x.toNat < 2 ^ 64 := by have := hx.2; omega
          refine ⟨i1, ?_, ?_⟩
          · rw [unpackL, hf, if_pos rfl, i2]
            have e : getI (packL vs ds (putI x a d v) (a + d)).1 a d = v := by
              unfold getI
              have e2 : getN (packL vs ds (putI x a d v) (a + d)).1.toNat a.toNat d.toNat = getN (putN x.toNat a.toNat d.toNat v.toNat) a.toNat d.toNat := by
                apply Nat.eq_of_testBit_eq
                intro i
                rw [testBit_getN, testBit_getN]
                by_cases hi : i < d.toNat
                · rw [i3 (a.toNat + i) (by omega)]
                  unfold putI
                  rw [Int.toNat_natCast]
                · simp [hi]
              rw [e2, get_put _ _ _ _ (by omega) hxn hvd]
              exact Int.toNat_of_nonneg hv0.1
            rw [e]
            rfl
          · intro i hi
            rw [i3 i (by omega)]
            unfold putI
            rw [Int.toNat_natCast, testBit_putN _ _ _ _ _ (by omega) hxn hvd, if_neg (by omega)]
        · rw [if_neg hm] at he; simp at he

theorem packI_err {vs ds : List Int} (h : (packI vs ds).2 ≠ 0) : (packI vs ds).1 = 0 := by
  unfold packI at h ⊢
  split at h
  · rename_i hl
    rw [if_pos hl]
    clear hl
    have key : ∀ (vs ds : List Int) (x a : Int), (packL vs ds x a).2 ≠ 0 → (packL vs ds x a).1 = 0 := by
      intro vs
      induction vs with
      | nil => intro ds x a h; cases ds <;> exact absurd rfl h
      | cons v vs ih =>
        intro ds x a h
        cases ds with
        | nil => exact absurd rfl h
        | cons d ds =>
          rw [packL] at h ⊢
          split
          · rename_i h1
            rw [if_pos h1] at h
            split
            · rename_i h2
              rw [if_pos h2] at h
              exact ih _ _ _ h
            · rfl
          · rfl
    exact key _ _ _ _ h
  · rename_i hl
    rw [if_neg hl]
theorem packI_ok {vs ds : List Int} (hv : ∀ v ∈ vs, U64 v) (h : (packI vs ds).2 = 0) : U64 (packI vs ds).1 ∧ unpackL ds (packI vs ds).1 0 = some vs := by
  unfold packI at h ⊢
  split at h
  · rename_i hl
    rw [if_pos hl]
    obtain ⟨h1, h2, _⟩ := room_math vs ds 0 0 hv ⟨by decide, by decide⟩ (by decide) hl h
    exact ⟨h1, h2⟩
  · simp at h
end Go.Proofs.Ytaghcogooggdpab
