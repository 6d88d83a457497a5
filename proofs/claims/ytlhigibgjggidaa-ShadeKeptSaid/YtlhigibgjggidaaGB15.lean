/- Words for the laws of package shade: a plan within a few, a reference out of a number, the document's cells of the heap and of a page's mark. Condition: the plan is right. -/
import Derived.Deep.QuietTactic
import Derived.BigQuiet
import Derived.Test.YtlhigibgjggidaaGB14
namespace Go.Proofs.Ytlhigibgjggidaa
open Go.RowKit
set_option linter.unusedVariables false
set_option maxHeartbeats 1000000 in
theorem sref8_any (P T R x : Int) (w : World) (hR : Right P T R) (_hu : U64 x) :
    Calls Try.prog 47 #[mapV P T R, .int .u64 x] w fun e w' => e = .returned (.bool (refB P T R x)) ∧ Below w.heap.size w w' := by
  have hb := base_bd hR
  have hr : refB P T R x = (decide (baseI P T R ≤ x) && decide (x < baseI P T R + 64 * P)) := by
    unfold refB heapB inB
    rw [of_right hR, Bool.true_and]
    have := hR.1
    by_cases h1 : baseI P T R ≤ x
    · by_cases h2 : x < baseI P T R + 64 * P
      · rw [decide_eq_true h1, decide_eq_true h2, decide_eq_true (show x < 4096 by omega), decide_eq_true (show baseI P T R ≤ x ∧ x ≤ baseI P T R + 64 * P - 1 by omega)]
      · rw [decide_eq_true h1, decide_eq_false h2, decide_eq_false (show ¬ (baseI P T R ≤ x ∧ x ≤ baseI P T R + 64 * P - 1) by omega)]; simp
    · rw [decide_eq_false h1, decide_eq_false (show ¬ (baseI P T R ≤ x ∧ x ≤ baseI P T R + 64 * P - 1) by omega)]; simp
  rw [hr]
  have hp := hR.1
  unfold mapV
  have w1 : IntKind.u64.wrap (baseI P T R) = baseI P T R := by rw [IntKind.wrap_u64]; omega
  have w2 : IntKind.u64.wrap (baseI P T R + 64 * P) = baseI P T R + 64 * P := by rw [IntKind.wrap_u64]; omega
  have h0 : 0 ≤ baseI P T R := by omega
  clear hr hb hR
  generalize baseI P T R + 64 * P = y at *
  generalize baseI P T R = b at *
  generalize tabI T R = z at *
  by_cases h1 : b ≤ x
  · have d1 : decide (b ≤ x) = true := decide_eq_true h1
    go_enter Try.func47, Try.ntmps47
    have hZ := (Blk.new w #[.int .i64 P, .int .i64 T, .int .i64 R, .int .i64 b, .int .i64 z, .int .i64 y] 38).six.1
    go_wp2
    go_ret
    exact ⟨ret_bool (by simp [d1]), (Below.refl _ _).alloc (Nat.le_refl _) _⟩
  · have d1 : decide (b ≤ x) = false := decide_eq_false h1
    go_enter Try.func47, Try.ntmps47
    have hZ := (Blk.new w #[.int .i64 P, .int .i64 T, .int .i64 R, .int .i64 b, .int .i64 z, .int .i64 y] 38).six.1
    go_wp2
    go_ret
    exact ⟨ret_bool (by simp), (Below.refl _ _).alloc (Nat.le_refl _) _⟩
/-- 1 + the number, by so many -/
def ssI (x k : Int) : Int := wrap64 (1 + wrap64 ((IntKind.u64.wrap x).tmod k))
theorem ssmall_right (P T R : Int) : Right (ssI P 3) (ssI T 4) (ssI R 3) ∧ ssI P 3 ≤ 3 ∧ ssI T 4 ≤ 4 ∧ ssI R 3 ≤ 3 := by
  have hP := small_bd P 3 (by decide) (by decide)
  have hT := small_bd T 4 (by decide) (by decide)
  have hR := small_bd R 3 (by decide) (by decide)
  unfold ssI Right
  omega
set_option maxHeartbeats 1000000 in
theorem ssmall_any (P T R : Int) (w : World) :
    Calls Try.prog 8 #[.agg #[.int .i64 P, .int .i64 T, .int .i64 R]] w fun e w' => e = .returned (.agg #[.int .i64 (ssI P 3), .int .i64 (ssI T 4), .int .i64 (ssI R 3)]) ∧ Below w.heap.size w w' := by
  unfold ssI
  go_enter Try.func8, Try.ntmps8
  have c0 := (planNew w P T R 23)
  go_wp2
  generalize wrap64 (1 + wrap64 ((IntKind.u64.wrap P).tmod 3)) = P' at *
  generalize wrap64 (1 + wrap64 ((IntKind.u64.wrap T).tmod 4)) = T' at *
  generalize wrap64 (1 + wrap64 ((IntKind.u64.wrap R).tmod 3)) = R' at *
  have hZ : Blk ((w.alloc (.cells #[.int .i64 P, .int .i64 T, .int .i64 R] 23)).alloc (.cells #[.int .i64 P', .int .i64 T', .int .i64 R'] 23)) (w.heap.size + 1) #[.int .i64 P', .int .i64 T', .int .i64 R'] 23 := Blk.new' (by simp)
  have z0 := hZ.val 0 rfl
  have z1 := hZ.val 1 rfl
  have z2 := hZ.val 2 rfl
  refine bodyPost_ret (v := .agg #[.int .i64 P', .int .i64 T', .int .i64 R']) (by simp [results, Try.results8, go_sem, z0, z1, z2]) rfl ⟨rfl, ?_⟩
  exact c0.2.trans ((Below.refl _ _).alloc (by simp) _)
/-- the reference out of a number -/
def srefI (P T R x : Int) : Int := if x = 0 ∨ refB P T R x = true then x else baseI P T R + x % (64 * P)
theorem refB_of {P T R x : Int} (hR : Right P T R) (h1 : baseI P T R ≤ x) (h2 : x < baseI P T R + 64 * P) : refB P T R x = true := by
  have hb := base_bd hR
  have hp := hR.1
  unfold refB heapB inB
  rw [of_right hR, Bool.true_and, decide_eq_true (show x < 4096 by omega), decide_eq_true (show baseI P T R ≤ x ∧ x ≤ baseI P T R + 64 * P - 1 by omega)]
  rfl
theorem sref_ok {P T R x : Int} (hR : Right P T R) (hu : U64 x) : U64 (srefI P T R x) ∧ (x = 0 → srefI P T R x = 0) ∧ (x ≠ 0 → srefI P T R x ≠ 0 ∧ refB P T R (srefI P T R x) = true) := by
  have hb := base_bd hR
  have hp := hR.1
  have m0 : 0 ≤ x % (64 * P) := Int.emod_nonneg x (by omega)
  have m1 : x % (64 * P) < 64 * P := Int.emod_lt_of_pos x (by omega)
  unfold srefI
  split
  · rename_i h
    refine ⟨hu, fun e => e, fun e => ⟨e, ?_⟩⟩
    exact h.resolve_left e
  · rename_i h
    refine ⟨⟨by omega, by omega⟩, fun e => absurd (Or.inl e) h, fun e => ⟨by omega, refB_of hR (by omega) (by omega)⟩⟩
set_option maxHeartbeats 2000000 in
theorem srefers_any (P T R x : Int) (w : World) (hR : Right P T R) (hu : U64 x) :
    Calls Try.prog 14 #[mapV P T R, .int .u64 x] w fun e w' => e = .returned (.int .u64 (srefI P T R x)) ∧ Below w.heap.size w w' := by
  have RF := Lib.hid (fun W => sref8_any P T R x W hR hu)
  have hb := base_bd hR
  have hp := hR.1
  have m0 : 0 ≤ x % (64 * P) := Int.emod_nonneg x (by omega)
  have m1 : x % (64 * P) < 64 * P := Int.emod_lt_of_pos x (by omega)
  have htm : x.tmod (64 * P) = x % (64 * P) := Int.tmod_eq_emod_of_nonneg hu.1
  by_cases h0 : x = 0
  · have e0 : srefI P T R x = x := by unfold srefI; rw [if_pos (.inl h0)]
    rw [e0]
    have h0' : (x == 0) = true := by simpa using h0
    unfold mapV
    clear hb htm m0 m1 RF e0
    go_enter Try.func14, Try.ntmps14
    have hB0 : Below w.heap.size w (w.alloc (.cells #[.int .i64 P, .int .i64 T, .int .i64 R, .int .i64 (baseI P T R), .int .i64 (tabI T R), .int .i64 (baseI P T R + 64 * P)] 38)) := (Below.refl _ _).alloc (Nat.le_refl _) _
    go_wp2
    go_ret
    exact ⟨rfl, hB0⟩
  · have h0' : (x == 0) = false := by simpa using h0
    cases hf : refB P T R x with
    | true =>
      have e0 : srefI P T R x = x := by unfold srefI; rw [if_pos (.inr hf)]
      rw [e0]
      rw [hf] at RF
      unfold mapV at RF ⊢
      clear hb htm m0 m1 e0 hf
      go_enter Try.func14, Try.ntmps14
      have hZ := (Blk.new w #[.int .i64 P, .int .i64 T, .int .i64 R, .int .i64 (baseI P T R), .int .i64 (tabI T R), .int .i64 (baseI P T R + 64 * P)] 38)
      obtain ⟨z0, z1, z2, z3, z4, z5⟩ := hZ.six.1
      have hB0 : Below w.heap.size w (w.alloc (.cells #[.int .i64 P, .int .i64 T, .int .i64 R, .int .i64 (baseI P T R), .int .i64 (tabI T R), .int .i64 (baseI P T R + 64 * P)] 38)) := (Below.refl _ _).alloc (Nat.le_refl _) _
      go_wp2_with fail
      refine (RF.out _).mono ?_; rintro e w1 ⟨rfl, hb1⟩
      have hB1 := hB0.trans (hb1.mono hB0.size)
      go_wp2
      go_ret
      exact ⟨rfl, hB1⟩
    | false =>
      have e0 : srefI P T R x = baseI P T R + x % (64 * P) := by unfold srefI; rw [if_neg (by rw [hf]; simp [h0])]
      rw [e0]
      rw [hf] at RF
      unfold mapV at RF ⊢
      generalize x % (64 * P) = q at *
      generalize baseI P T R = b at *
      have q1 : IntKind.u64.wrap b = b := by rw [IntKind.wrap_u64]; omega
      have w2 : wrap64 (b + 64 * P - b) = 64 * P := IntWalk.wrap64_in _ ⟨by omega, by omega⟩ |>.trans (by omega)
      have w3 : IntKind.u64.wrap (64 * P) = 64 * P := by rw [IntKind.wrap_u64]; omega
      have w4 : IntKind.u64.wrap q = q := by rw [IntKind.wrap_u64]; omega
      have w5 : IntKind.u64.wrap (b + q) = b + q := by rw [IntKind.wrap_u64]; omega
      have hne : ¬ 64 * P = 0 := by omega
      have hnz : ¬ P = 0 := by omega
      clear hb m0 m1 e0 hf
      go_enter Try.func14, Try.ntmps14
      have hZ := (Blk.new w #[.int .i64 P, .int .i64 T, .int .i64 R, .int .i64 b, .int .i64 (tabI T R), .int .i64 (b + 64 * P)] 38)
      have hB0 : Below w.heap.size w (w.alloc (.cells #[.int .i64 P, .int .i64 T, .int .i64 R, .int .i64 b, .int .i64 (tabI T R), .int .i64 (b + 64 * P)] 38)) := (Below.refl _ _).alloc (Nat.le_refl _) _
      obtain ⟨z0, z1, z2, z3, z4, z5⟩ := hZ.six.1
      go_wp2_with fail
      refine (RF.out _).mono ?_; rintro e w1 ⟨rfl, hb1⟩
      have hB1 := hB0.trans (hb1.mono hB0.size)
      have hZ1 := Blk.grew hZ hb1
      obtain ⟨y0, y1, y2, y3, y4, y5⟩ := hZ1.six.1
      have hs0 : 0 < 64 * P := by omega
      go_wp2_with fail
      go_quiet (fail)
      go_wp2
      go_ret
      exact ⟨ret_int (by rw [show b + 64 * P - b = 64 * P by omega, htm, w5]), hB1.trans (Quiet.below ⟨_, rfl⟩)⟩
theorem sheapB_right {P T R x : Int} (h : Right P T R) : heapB P T R x = inB x (baseI P T R) (baseI P T R + 64 * P - 1) := by unfold heapB; rw [of_right h]; rfl
set_option maxHeartbeats 1000000 in
/-- the page and the word of a reference -/
theorem sheap_yes (P T R x : Int) (w : World) (h : refB P T R x = true) :
    Calls Try.prog 21 #[mapV P T R, .int .i64 x] w fun e w' => e = .returned (.tuple #[.int .i64 (pgI P T R x), .int .i64 (wdI P T R x)]) ∧ Below w.heap.size w w' := by
  obtain ⟨hR, x1, x2, x3⟩ := ref_bd h
  have hb := base_bd hR
  have hp := hR.1
  unfold mapV pgI wdI
  have hk := Blk.new w #[.int .i64 P, .int .i64 T, .int .i64 R, .int .i64 (baseI P T R), .int .i64 (tabI T R), .int .i64 (baseI P T R + 64 * P)] 38
  have k3 := hk.val 3 rfl
  have k5 := hk.val 5 rfl
  generalize baseI P T R = bs at *
  have h0 : ¬ bs < 0 := by omega
  have h1 : ¬ x < bs := by omega
  have h3 : ¬ bs + 64 * P ≤ x := by omega
  clear h
  go_enter Try.func21, Try.ntmps21
  have hd0 : 0 ≤ x - bs := by omega
  have hd1 : x - bs < 2048 := by omega
  go_wp2_with fail
  go_quiet (fail)
  go_wp2
  go_ret2
  exact ⟨rfl, ((Below.refl _ _).alloc (Nat.le_refl _) _).trans (Quiet.below ⟨_, rfl⟩)⟩
set_option maxHeartbeats 400000 in
/-- the cell of a page's mark -/
theorem smark_yes (P T R i : Int) (w : World) (hR : Right P T R) (h0 : 0 ≤ i) (h1 : i < P) :
    Calls Try.prog 23 #[mapV P T R, .int .i64 i] w fun e w' => e = .returned (.int .i64 (rowI P T R 2 i)) ∧ Below w.heap.size w w' := by
  have hb := base_bd hR
  have hp := hR.1
  have e0 : rowI P T R 2 i = tabI T R + 2 * P + i := by
    unfold rowI inB
    rw [of_right hR, Bool.true_and, if_pos (decide_eq_true (by omega))]
  rw [e0]
  have hy : 0 ≤ tabI T R := by unfold tabI; have := hR.2.1; have := hR.2.2; have := Int.mul_nonneg (show 0 ≤ T by omega) (show 0 ≤ 5 + R by omega); omega
  have e1 : wrap64 (2 * P) = 2 * P := IntWalk.wrap64_in _ ⟨by omega, by omega⟩
  have e2 : wrap64 (tabI T R + 2 * P) = tabI T R + 2 * P := IntWalk.wrap64_in _ ⟨by omega, by omega⟩
  have e3 : wrap64 (tabI T R + 2 * P + i) = tabI T R + 2 * P + i := IntWalk.wrap64_in _ ⟨by omega, by omega⟩
  unfold mapV
  have hk := Blk.new w #[.int .i64 P, .int .i64 T, .int .i64 R, .int .i64 (baseI P T R), .int .i64 (tabI T R), .int .i64 (baseI P T R + 64 * P)] 38
  have c4 := hk.val 4 rfl
  have c0 := hk.val 0 rfl
  clear hb e0
  generalize tabI T R = y at *
  go_enter Try.func23, Try.ntmps23
  go_wp2
  go_ret
  exact ⟨ret_int (by first | rfl | (simp [e3]) | omega), (Below.refl _ _).alloc (Nat.le_refl _) _⟩
end Go.Proofs.Ytlhigibgjggidaa
