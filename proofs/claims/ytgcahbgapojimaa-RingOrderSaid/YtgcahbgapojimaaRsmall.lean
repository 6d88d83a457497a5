/- What small of the laws of package ring returns: a plan within a few. No condition. -/
import Derived.Test.YtgcahbgapojimaaRinged
namespace Go.Proofs.Ytgcahbgapojimaa
open Go.RowKit
def SmallPost (w : World) (e : Ending) (w' : World) : Prop :=
  ∃ P T R : Int, e = .returned (.agg #[.int .i64 P, .int .i64 T, .int .i64 R]) ∧ (1 ≤ P ∧ P ≤ 4) ∧ (1 ≤ T ∧ T ≤ 3) ∧ (1 ≤ R ∧ R ≤ 5) ∧ Below w.heap.size w w'
theorem small_bd (x k : Int) (h0 : 0 < k) (h1 : k ≤ 1000000) : 1 ≤ wrap64 (1 + wrap64 ((IntKind.u64.wrap x).tmod k)) ∧ wrap64 (1 + wrap64 ((IntKind.u64.wrap x).tmod k)) ≤ k := by
  have hw : 0 ≤ IntKind.u64.wrap x := by rw [IntKind.wrap_u64]; omega
  generalize IntKind.u64.wrap x = y at *
  have e : y.tmod k = y % k := by rw [Int.tmod_eq_emod_of_nonneg hw]
  have h2 : 0 ≤ y % k := Int.emod_nonneg _ (by omega)
  have h3 : y % k < k := Int.emod_lt_of_pos _ (by omega)
  rw [e]
  generalize y % k = z at *
  rw [IntWalk.wrap64_in z ⟨by omega, by omega⟩, IntWalk.wrap64_in (1 + z) ⟨by omega, by omega⟩]
  omega
set_option maxHeartbeats 1000000 in
theorem small_any (P T R : Int) (w : World) :
    Calls Try.prog 14 #[.agg #[.int .i64 P, .int .i64 T, .int .i64 R]] w (SmallPost w) := by
  go_enter Try.func14, Try.ntmps14
  have c0 := (planNew w P T R 26)
  go_wp2
  have hP := small_bd P 4 (by decide) (by decide)
  have hT := small_bd T 3 (by decide) (by decide)
  have hR := small_bd R 5 (by decide) (by decide)
  generalize wrap64 (1 + wrap64 ((IntKind.u64.wrap P).tmod 4)) = P' at *
  generalize wrap64 (1 + wrap64 ((IntKind.u64.wrap T).tmod 3)) = T' at *
  generalize wrap64 (1 + wrap64 ((IntKind.u64.wrap R).tmod 5)) = R' at *
  have hZ : Blk ((w.alloc (.cells #[.int .i64 P, .int .i64 T, .int .i64 R] 26)).alloc (.cells #[.int .i64 P', .int .i64 T', .int .i64 R'] 26)) (w.heap.size + 1) #[.int .i64 P', .int .i64 T', .int .i64 R'] 26 := Blk.new' (by simp)
  have z0 := hZ.val 0 rfl
  have z1 := hZ.val 1 rfl
  have z2 := hZ.val 2 rfl
  refine bodyPost_ret (v := .agg #[.int .i64 P', .int .i64 T', .int .i64 R']) (by simp [results, Try.results14, go_sem, z0, z1, z2]) rfl ⟨P', T', R', rfl, hP, hT, hR, ?_⟩
  exact c0.2.trans ((Below.refl _ _).alloc (by simp) _)
end Go.Proofs.Ytgcahbgapojimaa
