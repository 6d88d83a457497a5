/- What the document's Due and Ready return, for all entries. No condition. -/
import Derived.Test.YtjomflodbcjdlaaRent
import Derived.Test.YtjomflodbcjdlaaDue
namespace Go.Proofs.Ytjomflodbcjdlaa
open Go.RowKit
set_option linter.unusedVariables false
set_option linter.unusedSimpArgs false
set_option maxHeartbeats 2000000 in
theorem rdue_any (k c s o y cy : Int) (w : World) :
    Calls Try.prog 28 #[.agg #[.int .i64 k, .int .i64 c, .int .i64 s, .int .i64 o, .int .i64 y], .int .i64 cy] w fun e w' => e = .returned (.bool (dueB k c s o y cy)) ∧ Below w.heap.size w w' := by
  unfold dueB holdsB
  cases h : entB k c s o y <;> cases e1 : (k == 1) <;> cases e2 : (k == 2) <;> cases e3 : (s == 0)
  all_goals
    go_enter Try.func28, Try.ntmps28
    go_wp2_with (go_at_call 40; refine (isEnt_any _ _ _ _ _ _).mono ?_; rintro e w1 ⟨rfl, hb⟩; have hA := ((Below.refl w.heap.size w).alloc (Nat.le_refl _) (.cells #[.int .i64 k, .int .i64 c, .int .i64 s, .int .i64 o, .int .i64 y] 41)).trans (hb.mono (by simp)); obtain ⟨c0, c1, c2, c3, c4⟩ := (entAt_new w k c s o y 41).below hb)
    go_ret
    exact ⟨rfl, hA⟩
set_option maxHeartbeats 2000000 in
theorem rready_any (k c s o y cl cy : Int) (w : World) :
    Calls Try.prog 30 #[.agg #[.int .i64 k, .int .i64 c, .int .i64 s, .int .i64 o, .int .i64 y], .int .i64 cl, .int .i64 cy] w fun e w' => e = .returned (.bool (readyB k c s o y cl cy)) ∧ Below w.heap.size w w' := by
  unfold readyB
  cases h : entB k c s o y <;> cases e1 : (k == 1) <;> cases e3 : (s == 0) <;> cases e4 : (c == cl) <;> cases e5 : (y == cy)
  all_goals
    go_enter Try.func30, Try.ntmps30
    go_wp2_with (go_at_call 40; refine (isEnt_any _ _ _ _ _ _).mono ?_; rintro e w1 ⟨rfl, hb⟩; have hA := ((Below.refl w.heap.size w).alloc (Nat.le_refl _) (.cells #[.int .i64 k, .int .i64 c, .int .i64 s, .int .i64 o, .int .i64 y] 41)).trans (hb.mono (by simp)); obtain ⟨c0, c1, c2, c3, c4⟩ := (entAt_new w k c s o y 41).below hb)
    go_ret
    exact ⟨rfl, hA⟩
end Go.Proofs.Ytjomflodbcjdlaa
