/- What Due, Ready, Taken and Given of package header return. No condition. -/
import Derived.Test.YtjomflodbcjdlaaHlaw
namespace Go.Proofs.Ytjomflodbcjdlaa
open Go.RowKit
set_option linter.unusedVariables false

def dueB (k c s o y cy : Int) : Bool := entB k c s o y && (holdsB k && (s == 0 && decide (y < cy)))
def readyB (k c s o y cl cy : Int) : Bool := entB k c s o y && (k == 1 && (s == 0 && (c == cl && y == cy)))
set_option maxHeartbeats 1000000 in
theorem due_a (k c s o y cy : Int) (w : World) (h : entB k c s o y = false) :
    Calls Try.prog 27 #[.agg #[.int .i64 k, .int .i64 c, .int .i64 s, .int .i64 o, .int .i64 y], .int .i64 cy] w fun e w' => e = .returned (.bool false) ∧ Below w.heap.size w w' := by
  go_enter Try.func27, Try.ntmps27
  go_wp2_with (first | (go_at_call 38; refine (entValid_any _ _ _ _ _ _).mono ?_; rintro e w1 ⟨rfl, hb⟩; have hA := ((Below.refl w.heap.size w).alloc (Nat.le_refl _) (.cells #[.int .i64 k, .int .i64 c, .int .i64 s, .int .i64 o, .int .i64 y] 43)).trans (hb.mono (by simp)); have hsA := hA.size; have hlt0 := ((entAt_new w k c s o y 43).below hb).lt; obtain ⟨c0, c1, c2, c3, c4⟩ := (entAt_new w k c s o y 43).below hb) | (go_at_call 41; refine (holds_any _ _ _ _ _ _).mono ?_; rintro e w2 ⟨rfl, rfl⟩))
  go_ret
  exact ⟨rfl, hA⟩
set_option maxHeartbeats 1000000 in
theorem due_b (k c s o y cy : Int) (w : World) (h : entB k c s o y = true) (h2 : holdsB k = false) :
    Calls Try.prog 27 #[.agg #[.int .i64 k, .int .i64 c, .int .i64 s, .int .i64 o, .int .i64 y], .int .i64 cy] w fun e w' => e = .returned (.bool false) ∧ Below w.heap.size w w' := by
  go_enter Try.func27, Try.ntmps27
  go_wp2_with (first | (go_at_call 38; refine (entValid_any _ _ _ _ _ _).mono ?_; rintro e w1 ⟨rfl, hb⟩; have hA := ((Below.refl w.heap.size w).alloc (Nat.le_refl _) (.cells #[.int .i64 k, .int .i64 c, .int .i64 s, .int .i64 o, .int .i64 y] 43)).trans (hb.mono (by simp)); have hsA := hA.size; have hlt0 := ((entAt_new w k c s o y 43).below hb).lt; obtain ⟨c0, c1, c2, c3, c4⟩ := (entAt_new w k c s o y 43).below hb) | (go_at_call 41; refine (holds_any _ _ _ _ _ _).mono ?_; rintro e w2 ⟨rfl, rfl⟩))
  go_ret
  exact ⟨rfl, hA.alloc hsA _⟩
set_option maxHeartbeats 1000000 in
theorem due_c (k c s o y cy : Int) (w : World) (h : entB k c s o y = true) (h2 : holdsB k = true) (h3 : (s == 0) = false) :
    Calls Try.prog 27 #[.agg #[.int .i64 k, .int .i64 c, .int .i64 s, .int .i64 o, .int .i64 y], .int .i64 cy] w fun e w' => e = .returned (.bool false) ∧ Below w.heap.size w w' := by
  go_enter Try.func27, Try.ntmps27
  go_wp2_with (first | (go_at_call 38; refine (entValid_any _ _ _ _ _ _).mono ?_; rintro e w1 ⟨rfl, hb⟩; have hA := ((Below.refl w.heap.size w).alloc (Nat.le_refl _) (.cells #[.int .i64 k, .int .i64 c, .int .i64 s, .int .i64 o, .int .i64 y] 43)).trans (hb.mono (by simp)); have hsA := hA.size; have hlt0 := ((entAt_new w k c s o y 43).below hb).lt; obtain ⟨c0, c1, c2, c3, c4⟩ := (entAt_new w k c s o y 43).below hb) | (go_at_call 41; refine (holds_any _ _ _ _ _ _).mono ?_; rintro e w2 ⟨rfl, rfl⟩))
  go_ret
  exact ⟨rfl, hA.alloc hsA _⟩
set_option maxHeartbeats 1000000 in
theorem due_d (k c s o y cy : Int) (w : World) (h : entB k c s o y = true) (h2 : holdsB k = true) (h3 : (s == 0) = true) :
    Calls Try.prog 27 #[.agg #[.int .i64 k, .int .i64 c, .int .i64 s, .int .i64 o, .int .i64 y], .int .i64 cy] w fun e w' => e = .returned (.bool (decide (y < cy))) ∧ Below w.heap.size w w' := by
  go_enter Try.func27, Try.ntmps27
  go_wp2_with (first | (go_at_call 38; refine (entValid_any _ _ _ _ _ _).mono ?_; rintro e w1 ⟨rfl, hb⟩; have hA := ((Below.refl w.heap.size w).alloc (Nat.le_refl _) (.cells #[.int .i64 k, .int .i64 c, .int .i64 s, .int .i64 o, .int .i64 y] 43)).trans (hb.mono (by simp)); have hsA := hA.size; have hlt0 := ((entAt_new w k c s o y 43).below hb).lt; obtain ⟨c0, c1, c2, c3, c4⟩ := (entAt_new w k c s o y 43).below hb) | (go_at_call 41; refine (holds_any _ _ _ _ _ _).mono ?_; rintro e w2 ⟨rfl, rfl⟩))
  go_ret
  exact ⟨rfl, hA.alloc hsA _⟩
theorem due_any (k c s o y cy : Int) (w : World) :
    Calls Try.prog 27 #[.agg #[.int .i64 k, .int .i64 c, .int .i64 s, .int .i64 o, .int .i64 y], .int .i64 cy] w fun e w' => e = .returned (.bool (dueB k c s o y cy)) ∧ Below w.heap.size w w' := by
  unfold dueB
  cases h : entB k c s o y with
  | false => exact due_a k c s o y cy w h
  | true =>
    cases h2 : holdsB k with
    | false => exact due_b k c s o y cy w h h2
    | true =>
      cases h3 : s == 0 with
      | false => exact due_c k c s o y cy w h h2 h3
      | true => exact due_d k c s o y cy w h h2 h3
set_option maxHeartbeats 1000000 in
theorem ready_a (k c s o y cl cy : Int) (w : World) (h : entB k c s o y = false) :
    Calls Try.prog 29 #[.agg #[.int .i64 k, .int .i64 c, .int .i64 s, .int .i64 o, .int .i64 y], .int .i64 cl, .int .i64 cy] w fun e w' => e = .returned (.bool false) ∧ Below w.heap.size w w' := by
  go_enter Try.func29, Try.ntmps29
  go_wp2_with (go_at_call 38; refine (entValid_any _ _ _ _ _ _).mono ?_; rintro e w1 ⟨rfl, hb⟩; have hA := ((Below.refl w.heap.size w).alloc (Nat.le_refl _) (.cells #[.int .i64 k, .int .i64 c, .int .i64 s, .int .i64 o, .int .i64 y] 43)).trans (hb.mono (by simp)); have hsA := hA.size; have hlt0 := ((entAt_new w k c s o y 43).below hb).lt; obtain ⟨c0, c1, c2, c3, c4⟩ := (entAt_new w k c s o y 43).below hb)
  go_ret
  exact ⟨rfl, hA⟩
set_option maxHeartbeats 1000000 in
theorem ready_b (k c s o y cl cy : Int) (w : World) (h : entB k c s o y = true) (h2 : (k == 1) = false) :
    Calls Try.prog 29 #[.agg #[.int .i64 k, .int .i64 c, .int .i64 s, .int .i64 o, .int .i64 y], .int .i64 cl, .int .i64 cy] w fun e w' => e = .returned (.bool false) ∧ Below w.heap.size w w' := by
  go_enter Try.func29, Try.ntmps29
  go_wp2_with (go_at_call 38; refine (entValid_any _ _ _ _ _ _).mono ?_; rintro e w1 ⟨rfl, hb⟩; have hA := ((Below.refl w.heap.size w).alloc (Nat.le_refl _) (.cells #[.int .i64 k, .int .i64 c, .int .i64 s, .int .i64 o, .int .i64 y] 43)).trans (hb.mono (by simp)); have hsA := hA.size; have hlt0 := ((entAt_new w k c s o y 43).below hb).lt; obtain ⟨c0, c1, c2, c3, c4⟩ := (entAt_new w k c s o y 43).below hb)
  go_ret
  exact ⟨rfl, hA⟩
set_option maxHeartbeats 1000000 in
theorem ready_c (k c s o y cl cy : Int) (w : World) (h : entB k c s o y = true) (h2 : (k == 1) = true) (h3 : (s == 0) = false) :
    Calls Try.prog 29 #[.agg #[.int .i64 k, .int .i64 c, .int .i64 s, .int .i64 o, .int .i64 y], .int .i64 cl, .int .i64 cy] w fun e w' => e = .returned (.bool false) ∧ Below w.heap.size w w' := by
  go_enter Try.func29, Try.ntmps29
  go_wp2_with (go_at_call 38; refine (entValid_any _ _ _ _ _ _).mono ?_; rintro e w1 ⟨rfl, hb⟩; have hA := ((Below.refl w.heap.size w).alloc (Nat.le_refl _) (.cells #[.int .i64 k, .int .i64 c, .int .i64 s, .int .i64 o, .int .i64 y] 43)).trans (hb.mono (by simp)); have hsA := hA.size; have hlt0 := ((entAt_new w k c s o y 43).below hb).lt; obtain ⟨c0, c1, c2, c3, c4⟩ := (entAt_new w k c s o y 43).below hb)
  go_ret
  exact ⟨rfl, hA⟩
set_option maxHeartbeats 1000000 in
theorem ready_d (k c s o y cl cy : Int) (w : World) (h : entB k c s o y = true) (h2 : (k == 1) = true) (h3 : (s == 0) = true) (h4 : (c == cl) = false) :
    Calls Try.prog 29 #[.agg #[.int .i64 k, .int .i64 c, .int .i64 s, .int .i64 o, .int .i64 y], .int .i64 cl, .int .i64 cy] w fun e w' => e = .returned (.bool false) ∧ Below w.heap.size w w' := by
  go_enter Try.func29, Try.ntmps29
  go_wp2_with (go_at_call 38; refine (entValid_any _ _ _ _ _ _).mono ?_; rintro e w1 ⟨rfl, hb⟩; have hA := ((Below.refl w.heap.size w).alloc (Nat.le_refl _) (.cells #[.int .i64 k, .int .i64 c, .int .i64 s, .int .i64 o, .int .i64 y] 43)).trans (hb.mono (by simp)); have hsA := hA.size; have hlt0 := ((entAt_new w k c s o y 43).below hb).lt; obtain ⟨c0, c1, c2, c3, c4⟩ := (entAt_new w k c s o y 43).below hb)
  go_ret
  exact ⟨rfl, hA⟩
set_option maxHeartbeats 1000000 in
theorem ready_e (k c s o y cl cy : Int) (w : World) (h : entB k c s o y = true) (h2 : (k == 1) = true) (h3 : (s == 0) = true) (h4 : (c == cl) = true) :
    Calls Try.prog 29 #[.agg #[.int .i64 k, .int .i64 c, .int .i64 s, .int .i64 o, .int .i64 y], .int .i64 cl, .int .i64 cy] w fun e w' => e = .returned (.bool (y == cy)) ∧ Below w.heap.size w w' := by
  go_enter Try.func29, Try.ntmps29
  go_wp2_with (go_at_call 38; refine (entValid_any _ _ _ _ _ _).mono ?_; rintro e w1 ⟨rfl, hb⟩; have hA := ((Below.refl w.heap.size w).alloc (Nat.le_refl _) (.cells #[.int .i64 k, .int .i64 c, .int .i64 s, .int .i64 o, .int .i64 y] 43)).trans (hb.mono (by simp)); have hsA := hA.size; have hlt0 := ((entAt_new w k c s o y 43).below hb).lt; obtain ⟨c0, c1, c2, c3, c4⟩ := (entAt_new w k c s o y 43).below hb)
  go_ret
  exact ⟨rfl, hA⟩
theorem ready_any (k c s o y cl cy : Int) (w : World) :
    Calls Try.prog 29 #[.agg #[.int .i64 k, .int .i64 c, .int .i64 s, .int .i64 o, .int .i64 y], .int .i64 cl, .int .i64 cy] w fun e w' => e = .returned (.bool (readyB k c s o y cl cy)) ∧ Below w.heap.size w w' := by
  unfold readyB
  cases h : entB k c s o y with
  | false => exact ready_a k c s o y cl cy w h
  | true =>
    cases h2 : k == 1 with
    | false => exact ready_b k c s o y cl cy w h h2
    | true =>
      cases h3 : s == 0 with
      | false => exact ready_c k c s o y cl cy w h h2 h3
      | true =>
        cases h4 : c == cl with
        | false => exact ready_d k c s o y cl cy w h h2 h3 h4
        | true => exact ready_e k c s o y cl cy w h h2 h3 h4
end Go.Proofs.Ytjomflodbcjdlaa
