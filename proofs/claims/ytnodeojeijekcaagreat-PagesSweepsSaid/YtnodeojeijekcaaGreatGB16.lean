/- What the document's functions on entries return. No condition but that each number fits its kind. -/
import Derived.Test.YtnodeojeijekcaaGreatGB15
namespace Go.Proofs.YtnodeojeijekcaaGreat
open Go.RowKit
set_option linter.unusedVariables false
set_option linter.unusedSimpArgs false

set_option maxHeartbeats 2000000 in
theorem isEnt_0 (c s o y : Int) (w : World) :
    Calls Tryz.prog 65 #[.agg #[.int .i64 0, .int .i64 c, .int .i64 s, .int .i64 o, .int .i64 y]] w fun e w' => e = .returned (.bool (entB 0 c s o y)) ∧ Below w.heap.size w w' := by
  go_enter Tryz.func65, Tryz.ntmps65
  go_wp2
  all_goals
    go_ret
    refine ⟨ret_bool ?_, (Below.refl _ _).alloc (Nat.le_refl _) _⟩
    rw [Bool.eq_iff_iff]
    first | (simp [entB, statB, kindBEnt, inB, holdsB]; done) | (simp [entB, statB, kindBEnt, inB, holdsB]; omega) | (simp [entB, statB, kindBEnt, inB, holdsB, *]; done) | (simp [entB, statB, kindBEnt, inB, holdsB, *]; omega)
set_option maxHeartbeats 2000000 in
theorem isEnt_10 (c o y : Int) (w : World) :
    Calls Tryz.prog 65 #[.agg #[.int .i64 1, .int .i64 c, .int .i64 0, .int .i64 o, .int .i64 y]] w fun e w' => e = .returned (.bool (entB 1 c 0 o y)) ∧ Below w.heap.size w w' := by
  go_enter Tryz.func65, Tryz.ntmps65
  go_wp2
  all_goals
    go_ret
    refine ⟨ret_bool ?_, (Below.refl _ _).alloc (Nat.le_refl _) _⟩
    rw [Bool.eq_iff_iff]
    first | (simp [entB, statB, kindBEnt, inB, holdsB]; done) | (simp [entB, statB, kindBEnt, inB, holdsB]; omega) | (simp [entB, statB, kindBEnt, inB, holdsB, *]; done) | (simp [entB, statB, kindBEnt, inB, holdsB, *]; omega)
set_option maxHeartbeats 2000000 in
theorem isEnt_11 (c o y : Int) (w : World) :
    Calls Tryz.prog 65 #[.agg #[.int .i64 1, .int .i64 c, .int .i64 1, .int .i64 o, .int .i64 y]] w fun e w' => e = .returned (.bool (entB 1 c 1 o y)) ∧ Below w.heap.size w w' := by
  go_enter Tryz.func65, Tryz.ntmps65
  go_wp2
  all_goals
    go_ret
    refine ⟨ret_bool ?_, (Below.refl _ _).alloc (Nat.le_refl _) _⟩
    rw [Bool.eq_iff_iff]
    first | (simp [entB, statB, kindBEnt, inB, holdsB]; done) | (simp [entB, statB, kindBEnt, inB, holdsB]; omega) | (simp [entB, statB, kindBEnt, inB, holdsB, *]; done) | (simp [entB, statB, kindBEnt, inB, holdsB, *]; omega)
set_option maxHeartbeats 2000000 in
theorem isEnt_12 (c o y : Int) (w : World) :
    Calls Tryz.prog 65 #[.agg #[.int .i64 1, .int .i64 c, .int .i64 2, .int .i64 o, .int .i64 y]] w fun e w' => e = .returned (.bool (entB 1 c 2 o y)) ∧ Below w.heap.size w w' := by
  go_enter Tryz.func65, Tryz.ntmps65
  go_wp2
  all_goals
    go_ret
    refine ⟨ret_bool ?_, (Below.refl _ _).alloc (Nat.le_refl _) _⟩
    rw [Bool.eq_iff_iff]
    first | (simp [entB, statB, kindBEnt, inB, holdsB]; done) | (simp [entB, statB, kindBEnt, inB, holdsB]; omega) | (simp [entB, statB, kindBEnt, inB, holdsB, *]; done) | (simp [entB, statB, kindBEnt, inB, holdsB, *]; omega)
set_option maxHeartbeats 2000000 in
theorem isEnt_1x (c s o y : Int) (w : World) (s0 : ¬ s = 0) (s1 : ¬ s = 1) (s2 : ¬ s = 2) :
    Calls Tryz.prog 65 #[.agg #[.int .i64 1, .int .i64 c, .int .i64 s, .int .i64 o, .int .i64 y]] w fun e w' => e = .returned (.bool (entB 1 c s o y)) ∧ Below w.heap.size w w' := by
  have e0 : (s == 0) = false := beq_eq_false_iff_ne.2 s0
  have e1 : (s == 1) = false := beq_eq_false_iff_ne.2 s1
  have e2 : (s == 2) = false := beq_eq_false_iff_ne.2 s2
  go_enter Tryz.func65, Tryz.ntmps65
  go_wp2
  all_goals
    go_ret
    refine ⟨ret_bool ?_, (Below.refl _ _).alloc (Nat.le_refl _) _⟩
    rw [Bool.eq_iff_iff]
    first | (simp [entB, statB, kindBEnt, inB, holdsB]; done) | (simp [entB, statB, kindBEnt, inB, holdsB]; omega) | (simp [entB, statB, kindBEnt, inB, holdsB, *]; done) | (simp [entB, statB, kindBEnt, inB, holdsB, *]; omega)
end Go.Proofs.YtnodeojeijekcaaGreat
