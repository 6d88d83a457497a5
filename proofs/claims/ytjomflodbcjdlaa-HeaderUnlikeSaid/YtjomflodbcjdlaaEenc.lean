/- What header.EncodeEntry and header.DecodeEntry return, for every entry and every word. No condition but that each number fits its kind. -/
import Derived.Test.YtjomflodbcjdlaaEnt
import Derived.Test.YtjomflodbcjdlaaDec
namespace Go.Proofs.Ytjomflodbcjdlaa
open Go.RowKit

theorem statB_bd {k s o : Int} (h : statB k s o = true) : 0 ≤ s ∧ s ≤ 2 ∧ 0 ≤ o ∧ o ≤ 15 := by
  unfold statB at h
  split at h
  · have := eq_of_beq h; omega
  · split at h
    · rw [Bool.and_eq_true] at h
      have := inB_true h.2
      omega
    · split at h
      · rw [Bool.and_eq_true, Bool.or_eq_true] at h
        rcases h.2 with h2 | h2
        · have := inB_true h2; omega
        · have := eq_of_beq h2; omega
      · cases h
theorem kindB_bd {k c s o y : Int} (h : kindB k c s o y = true) : 0 ≤ k ∧ k ≤ 3 ∧ 0 ≤ c ∧ c ≤ 7 := by
  unfold kindB at h
  split at h
  · simp only [Bool.and_eq_true, beq_iff_eq] at h
    omega
  · split at h
    · have := inB_true h; omega
    · split at h
      · have := inB_true h; omega
      · split at h
        · rw [Bool.and_eq_true] at h
          have := inB_true h.1
          omega
        · cases h
theorem entB_bd {k c s o y : Int} (h : entB k c s o y = true) : (0 ≤ k ∧ k ≤ 3) ∧ (0 ≤ c ∧ c ≤ 7) ∧ (0 ≤ s ∧ s ≤ 2) ∧ (0 ≤ o ∧ o ≤ 15) ∧ 0 ≤ y ∧ y ≤ 4294967295 := by
  unfold entB at h
  rw [Bool.and_eq_true, Bool.and_eq_true] at h
  have h1 := inB_true h.1.1
  have h2 := statB_bd h.1.2
  have h3 := kindB_bd h.2
  omega

set_option maxHeartbeats 400000 in
theorem entryWidths_any (w : World) :
    Calls Try.prog 39 #[] w fun e w' => ∃ v, e = .returned v ∧ Lst .i64 w' v [2, 4, 2, 4, 4, 32] ∧ Below w.heap.size w w' := by
  go_enter Try.func39, Try.ntmps39
  go_wp2
  go_ret
  exact ⟨_, rfl, lst_new w [2, 4, 2, 4, 4, 32] _ _ 6 6 rfl (by decide) (by decide) rfl, (Below.refl _ _).alloc (Nat.le_refl _) _⟩

theorem pack_ent (k c s o y : Int) (h : entB k c s o y = true) : packI [k, c, s, o, 0, y] [2, 4, 2, 4, 4, 32] = (encE k c s o y, 0) := by
  have hb := entB_bd h
  unfold packI encE
  rw [if_pos (show ([k, c, s, o, 0, y] : List Int).length = ([2, 4, 2, 4, 4, 32] : List Int).length from rfl)]
  rw [packL_cons _ _ _ _ _ _ (by decide) (by decide) (by decide) (by omega) (by show _ < (4 : Int); omega)]
  rw [packL_cons _ _ _ _ _ _ (by decide) (by show (0 : Int) ≤ 0 + k * 1; omega) (by show 0 + k * 1 < (4 : Int); omega) (by omega) (by show _ < (16 : Int); omega)]
  rw [packL_cons _ _ _ _ _ _ (by decide) (by show (0 : Int) ≤ 0 + k * 1 + c * 4; omega) (by show 0 + k * 1 + c * 4 < (64 : Int); omega) (by omega) (by show _ < (4 : Int); omega)]
  rw [packL_cons _ _ _ _ _ _ (by decide) (by show (0 : Int) ≤ 0 + k * 1 + c * 4 + s * 64; omega) (by show 0 + k * 1 + c * 4 + s * 64 < (256 : Int); omega) (by omega) (by show _ < (16 : Int); omega)]
  rw [packL_cons _ _ _ _ _ _ (by decide) (by show (0 : Int) ≤ 0 + k * 1 + c * 4 + s * 64 + o * 256; omega) (by show 0 + k * 1 + c * 4 + s * 64 + o * 256 < (4096 : Int); omega) (by omega) (by decide)]
  rw [packL_cons _ _ _ _ _ _ (by decide) (by show (0 : Int) ≤ 0 + k * 1 + c * 4 + s * 64 + o * 256 + 0 * 4096; omega) (by show 0 + k * 1 + c * 4 + s * 64 + o * 256 + 0 * 4096 < (65536 : Int); omega) (by omega) (by show _ < (4294967296 : Int); omega)]
  rw [packL]
  · refine Prod.ext ?_ rfl
    show 0 + k * 1 + c * 4 + s * 64 + o * 256 + 0 * 4096 + y * 65536 = _
    omega
  · simp

set_option maxHeartbeats 1000000 in
theorem eenc_yes (k c s o y : Int) (w : World) (h : entB k c s o y = true) :
    Calls Try.prog 18 #[.agg #[.int .i64 k, .int .i64 c, .int .i64 s, .int .i64 o, .int .i64 y]] w fun e w' => e = .returned (.tuple #[.int .u64 (encE k c s o y), .int .i64 0]) ∧ Below w.heap.size w w' := by
  have hbd := entB_bd h
  have hu : ∀ x ∈ [k, c, s, o, 0, y], U64 x := by
    intro x hx
    simp only [List.mem_cons, List.not_mem_nil, or_false] at hx
    exact ⟨by omega, by omega⟩
  have pk := fun v1 v2 W h1 h2 => pack_any v1 v2 [k, c, s, o, 0, y] [2, 4, 2, 4, 4, 32] W h1 h2 hu
  rw [pack_ent k c s o y h] at pk
  have P := Lib.hid pk
  clear pk hu
  have wk : IntKind.u64.wrap k = k := IntWalk.u64_in k (by omega)
  have wc : IntKind.u64.wrap c = c := IntWalk.u64_in c (by omega)
  have ws : IntKind.u64.wrap s = s := IntWalk.u64_in s (by omega)
  have wo : IntKind.u64.wrap o = o := IntWalk.u64_in o (by omega)
  have wy : IntKind.u64.wrap y = y := IntWalk.u64_in y (by omega)
  go_enter Try.func18, Try.ntmps18
  go_wp2_with (go_at_call 38; refine (entValid_any _ _ _ _ _ _).mono ?_; rintro e w1 ⟨rfl, hb⟩; obtain ⟨c0, c1, c2, c3, c4⟩ := box5 hb)
  have hA : Below w.heap.size w w1 := ((Below.refl _ _).alloc (Nat.le_refl _) _).trans (hb.mono (by simp))
  have hsA := hA.size
  go_wp2_with (first | (go_at_call 39; refine (entryWidths_any _).mono ?_; rintro e w2 ⟨v2, rfl, hl2, hb2⟩) | (go_at_call 35; refine (P.out _ _ _ (by exact (lst_new w1 [k, c, s, o, 0, y] _ _ 6 6 rfl (by decide) (by decide) rfl).below hb2) (by exact hl2)).mono ?_; rintro e w3 ⟨rfl, hq3⟩))
  go_ret2
  exact ⟨rfl, ((hA.alloc hsA _).trans (hb2.mono (by simp; omega))).trans hq3.below⟩

set_option maxHeartbeats 400000 in
theorem eenc_no (k c s o y : Int) (w : World) (h : entB k c s o y = false) :
    Calls Try.prog 18 #[.agg #[.int .i64 k, .int .i64 c, .int .i64 s, .int .i64 o, .int .i64 y]] w fun e w' => e = .returned (.tuple #[.int .u64 0, .int .i64 4]) ∧ Below w.heap.size w w' := by
  go_enter Try.func18, Try.ntmps18
  go_wp2_with (go_at_call 38; refine (entValid_any _ _ _ _ _ _).mono ?_; rintro e w1 ⟨rfl, hb⟩)
  go_ret2
  exact ⟨rfl, ((Below.refl _ _).alloc (Nat.le_refl _) _).trans (hb.mono (by simp))⟩
end Go.Proofs.Ytjomflodbcjdlaa
