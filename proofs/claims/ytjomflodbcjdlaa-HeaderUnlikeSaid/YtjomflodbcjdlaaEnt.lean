/- What the functions of package header on entries return. No condition but that each number fits its kind. -/
import Derived.Test.YtjomflodbcjdlaaHead
namespace Go.Proofs.Ytjomflodbcjdlaa
open Go.RowKit

def holdsB (k : Int) : Bool := k == 1 || k == 2
def statB (k s o : Int) : Bool := if s = 0 then o == 0 else if s = 1 then k == 1 && inB o 0 5 else if s = 2 then holdsB k && (inB o 0 5 || o == 15) else false
def kindB (k c s o y : Int) : Bool := if k = 0 then (c == 0 && s == 0 && o == 0 && y == 0) else if k = 1 then inB c 0 7 else if k = 2 then inB c 1 4 else if k = 3 then inB c 1 3 && y == 0 else false
def entB (k c s o y : Int) : Bool := inB y 0 4294967295 && statB k s o && kindB k c s o y
def encE (k c s o y : Int) : Int := y * 65536 + o * 256 + s * 64 + c * 4 + k

set_option maxHeartbeats 400000 in
theorem holds_any (k c s o y : Int) (w : World) :
    Calls Try.prog 41 #[.agg #[.int .i64 k, .int .i64 c, .int .i64 s, .int .i64 o, .int .i64 y]] w fun e w' => e = .returned (.bool (holdsB k)) ∧ w.alloc (.cells #[.int .i64 k, .int .i64 c, .int .i64 s, .int .i64 o, .int .i64 y] 43) = w' := by
  cases h1 : (k == 1) with
  | true =>
    go_enter Try.func41, Try.ntmps41
    go_wp2
    go_ret
    exact ⟨ret_bool (by unfold holdsB; rw [h1]; rfl), rfl⟩
  | false =>
    go_enter Try.func41, Try.ntmps41
    go_wp2
    go_ret
    exact ⟨ret_bool (by unfold holdsB; rw [h1]; rfl), rfl⟩

set_option maxHeartbeats 400000 in
theorem stated_0 (k c o y : Int) (w : World) :
    Calls Try.prog 45 #[.agg #[.int .i64 k, .int .i64 c, .int .i64 0, .int .i64 o, .int .i64 y]] w fun e w' => e = .returned (.bool (statB k 0 o)) ∧ Below w.heap.size w w' := by
  go_enter Try.func45, Try.ntmps45
  go_wp2_with (go_at_call 44; refine (within_any _ _ _ _).mono ?_; rintro e w1 ⟨rfl, n1, rfl⟩)
  go_ret
  exact ⟨ret_bool (by unfold statB; rw [if_pos rfl]), below_drewN ((Below.refl _ _).alloc (Nat.le_refl _) _) _⟩
set_option maxHeartbeats 400000 in
theorem stated_1 (k c o y : Int) (w : World) :
    Calls Try.prog 45 #[.agg #[.int .i64 k, .int .i64 c, .int .i64 1, .int .i64 o, .int .i64 y]] w fun e w' => e = .returned (.bool (statB k 1 o)) ∧ Below w.heap.size w w' := by
  have hs : statB k 1 o = ((k == 1) && inB o 0 5) := by unfold statB; rw [if_neg (by decide), if_pos rfl]
  rw [hs]
  clear hs
  cases h1 : (k == 1) <;> cases h2 : inB o 0 5
  all_goals
    go_enter Try.func45, Try.ntmps45
    go_wp2_with (go_at_call 44; refine (within_any _ _ _ _).mono ?_; rintro e w1 ⟨rfl, n1, rfl⟩)
    go_ret
    exact ⟨rfl, below_drewN ((Below.refl _ _).alloc (Nat.le_refl _) _) _⟩
set_option maxHeartbeats 400000 in
theorem stated_2 (k c o y : Int) (w : World) :
    Calls Try.prog 45 #[.agg #[.int .i64 k, .int .i64 c, .int .i64 2, .int .i64 o, .int .i64 y]] w fun e w' => e = .returned (.bool (statB k 2 o)) ∧ Below w.heap.size w w' := by
  have hs : statB k 2 o = (holdsB k && (inB o 0 5 || o == 15)) := by unfold statB; rw [if_neg (by decide), if_neg (by decide), if_pos rfl]
  rw [hs]
  clear hs
  cases h1 : holdsB k <;> cases h2 : inB o 0 5
  all_goals
    go_enter Try.func45, Try.ntmps45
    go_wp2_with (first | (go_at_call 44; refine (within_any _ _ _ _).mono ?_; rintro e w1 ⟨rfl, n1, rfl⟩) | (go_at_call 41; refine (holds_any _ _ _ _ _ _).mono ?_; rintro e w2 ⟨rfl, rfl⟩))
  all_goals
    go_ret
    refine ⟨rfl, ?_⟩
    first
      | exact below_drewN (((Below.refl _ _).alloc (Nat.le_refl _) _).alloc (by simp) _) _
      | exact (below_drewN ((Below.refl _ _).alloc (Nat.le_refl _) _) _).alloc (by simp) _
set_option maxHeartbeats 400000 in
theorem stated_no (k c s o y : Int) (w : World) (h0 : (s == 0) = false) (h1 : (s == 1) = false) (h2 : (s == 2) = false) :
    Calls Try.prog 45 #[.agg #[.int .i64 k, .int .i64 c, .int .i64 s, .int .i64 o, .int .i64 y]] w fun e w' => e = .returned (.bool false) ∧ Below w.heap.size w w' := by
  go_enter Try.func45, Try.ntmps45
  go_wp2_with (go_at_call 44; refine (within_any _ _ _ _).mono ?_; rintro e w1 ⟨rfl, n1, rfl⟩)
  go_ret
  exact ⟨rfl, below_drewN ((Below.refl _ _).alloc (Nat.le_refl _) _) _⟩
theorem stated_any (k c s o y : Int) (w : World) :
    Calls Try.prog 45 #[.agg #[.int .i64 k, .int .i64 c, .int .i64 s, .int .i64 o, .int .i64 y]] w fun e w' => e = .returned (.bool (statB k s o)) ∧ Below w.heap.size w w' := by
  by_cases h0 : s = 0
  · subst h0; exact stated_0 k c o y w
  · by_cases h1 : s = 1
    · subst h1; exact stated_1 k c o y w
    · by_cases h2 : s = 2
      · subst h2; exact stated_2 k c o y w
      · have hs : statB k s o = false := by unfold statB; rw [if_neg h0, if_neg h1, if_neg h2]
        rw [hs]
        exact stated_no k c s o y w (beq_eq_false_iff_ne.2 h0) (beq_eq_false_iff_ne.2 h1) (beq_eq_false_iff_ne.2 h2)

/-- Cells of a box of five. -/
theorem box5 {w w1 : World} {a b c d f : Value} {t : TypeId} (hb : Below (w.alloc (.cells #[a, b, c, d, f] t)).heap.size (w.alloc (.cells #[a, b, c, d, f] t)) w1) :
    w1.cell? ⟨w.heap.size, 0, none⟩ = some a ∧ w1.cell? ⟨w.heap.size, 1, none⟩ = some b ∧ w1.cell? ⟨w.heap.size, 2, none⟩ = some c ∧ w1.cell? ⟨w.heap.size, 3, none⟩ = some d ∧ w1.cell? ⟨w.heap.size, 4, none⟩ = some f :=
  ⟨box_cell hb 0, box_cell hb 1, box_cell hb 2, box_cell hb 3, box_cell hb 4⟩

set_option maxHeartbeats 400000 in
theorem entValid_early (k c s o y : Int) (w : World) (h : (inB y 0 4294967295 && statB k s o) = false) :
    Calls Try.prog 38 #[.agg #[.int .i64 k, .int .i64 c, .int .i64 s, .int .i64 o, .int .i64 y]] w fun e w' => e = .returned (.bool false) ∧ Below w.heap.size w w' := by
  cases h1 : inB y 0 4294967295 with
  | false =>
    clear h
    go_enter Try.func38, Try.ntmps38
    go_wp2_with (first | (go_at_call 44; refine (within_any _ _ _ _).mono ?_; rintro e w1 ⟨rfl, n1, rfl⟩) | (go_at_call 45; refine (stated_any _ _ _ _ _ _).mono ?_; rintro e w2 ⟨rfl, hb⟩))
    go_ret
    exact ⟨rfl, below_drewN ((Below.refl _ _).alloc (Nat.le_refl _) _) _⟩
  | true =>
    rw [h1, Bool.true_and] at h
    go_enter Try.func38, Try.ntmps38
    go_wp2_with (first | (go_at_call 44; refine (within_any _ _ _ _).mono ?_; rintro e w1 ⟨rfl, n1, rfl⟩) | (go_at_call 45; refine (stated_any _ _ _ _ _ _).mono ?_; rintro e w2 ⟨rfl, hb⟩))
    go_ret
    exact ⟨rfl, (below_drewN ((Below.refl _ _).alloc (Nat.le_refl _) _) _).trans (hb.mono (by simp))⟩

set_option maxHeartbeats 1000000 in
theorem entValid_0 (c s o y : Int) (w : World) (h1 : inB y 0 4294967295 = true) (h2 : statB 0 s o = true) :
    Calls Try.prog 38 #[.agg #[.int .i64 0, .int .i64 c, .int .i64 s, .int .i64 o, .int .i64 y]] w fun e w' => e = .returned (.bool (c == 0 && s == 0 && o == 0 && y == 0)) ∧ Below w.heap.size w w' := by
  by_cases hc : c = 0
  · subst hc
    by_cases hs : s = 0
    · subst hs
      by_cases ho : o = 0
      · subst ho
        by_cases hy : y = 0
        · subst hy
          go_enter Try.func38, Try.ntmps38
          go_wp2_with (first | (go_at_call 44; refine (within_any _ _ _ _).mono ?_; rintro e w1 ⟨rfl, n1, rfl⟩) | (go_at_call 45; refine (stated_any _ _ _ _ _ _).mono ?_; rintro e w2 ⟨rfl, hb⟩; obtain ⟨c0, c1, c2, c3, c4⟩ := box5 ((Quiet.below (Quiet.drew (n := n1))).trans (hb.mono (by simp)))))
          go_ret
          exact ⟨rfl, (below_drewN ((Below.refl _ _).alloc (Nat.le_refl _) _) _).trans (hb.mono (by simp))⟩
        · rw [show (y == 0) = false from beq_eq_false_iff_ne.2 hy]
          go_enter Try.func38, Try.ntmps38
          go_wp2_with (first | (go_at_call 44; refine (within_any _ _ _ _).mono ?_; rintro e w1 ⟨rfl, n1, rfl⟩) | (go_at_call 45; refine (stated_any _ _ _ _ _ _).mono ?_; rintro e w2 ⟨rfl, hb⟩; obtain ⟨c0, c1, c2, c3, c4⟩ := box5 ((Quiet.below (Quiet.drew (n := n1))).trans (hb.mono (by simp)))))
          go_ret
          exact ⟨rfl, (below_drewN ((Below.refl _ _).alloc (Nat.le_refl _) _) _).trans (hb.mono (by simp))⟩
      · rw [show (o == 0) = false from beq_eq_false_iff_ne.2 ho]
        go_enter Try.func38, Try.ntmps38
        go_wp2_with (first | (go_at_call 44; refine (within_any _ _ _ _).mono ?_; rintro e w1 ⟨rfl, n1, rfl⟩) | (go_at_call 45; refine (stated_any _ _ _ _ _ _).mono ?_; rintro e w2 ⟨rfl, hb⟩; obtain ⟨c0, c1, c2, c3, c4⟩ := box5 ((Quiet.below (Quiet.drew (n := n1))).trans (hb.mono (by simp)))))
        go_ret
        exact ⟨rfl, (below_drewN ((Below.refl _ _).alloc (Nat.le_refl _) _) _).trans (hb.mono (by simp))⟩
    · rw [show (s == 0) = false from beq_eq_false_iff_ne.2 hs]
      go_enter Try.func38, Try.ntmps38
      go_wp2_with (first | (go_at_call 44; refine (within_any _ _ _ _).mono ?_; rintro e w1 ⟨rfl, n1, rfl⟩) | (go_at_call 45; refine (stated_any _ _ _ _ _ _).mono ?_; rintro e w2 ⟨rfl, hb⟩; obtain ⟨c0, c1, c2, c3, c4⟩ := box5 ((Quiet.below (Quiet.drew (n := n1))).trans (hb.mono (by simp)))))
      go_ret
      exact ⟨rfl, (below_drewN ((Below.refl _ _).alloc (Nat.le_refl _) _) _).trans (hb.mono (by simp))⟩
  · rw [show (c == 0) = false from beq_eq_false_iff_ne.2 hc]
    go_enter Try.func38, Try.ntmps38
    go_wp2_with (first | (go_at_call 44; refine (within_any _ _ _ _).mono ?_; rintro e w1 ⟨rfl, n1, rfl⟩) | (go_at_call 45; refine (stated_any _ _ _ _ _ _).mono ?_; rintro e w2 ⟨rfl, hb⟩; obtain ⟨c0, c1, c2, c3, c4⟩ := box5 ((Quiet.below (Quiet.drew (n := n1))).trans (hb.mono (by simp)))))
    go_ret
    exact ⟨rfl, (below_drewN ((Below.refl _ _).alloc (Nat.le_refl _) _) _).trans (hb.mono (by simp))⟩
set_option maxHeartbeats 400000 in
theorem entValid_1 (c s o y : Int) (w : World) (h1 : inB y 0 4294967295 = true) (h2 : statB 1 s o = true) :
    Calls Try.prog 38 #[.agg #[.int .i64 1, .int .i64 c, .int .i64 s, .int .i64 o, .int .i64 y]] w fun e w' => e = .returned (.bool (inB c 0 7)) ∧ Below w.heap.size w w' := by
  go_enter Try.func38, Try.ntmps38
  go_wp2_with (first | (go_at_call 44; (with_reducible refine (within_any y _ _ _).mono ?_); rintro e w1 ⟨rfl, n1, rfl⟩) | (go_at_call 44; refine (within_any _ _ _ _).mono ?_; rintro e w3 ⟨rfl, n3, rfl⟩) | (go_at_call 45; refine (stated_any _ _ _ _ _ _).mono ?_; rintro e w2 ⟨rfl, hb⟩; obtain ⟨c0, c1, c2, c3, c4⟩ := box5 ((Quiet.below (Quiet.drew (n := n1))).trans (hb.mono (by simp)))))
  go_ret
  exact ⟨rfl, below_drewN ((below_drewN ((Below.refl _ _).alloc (Nat.le_refl _) _) _).trans (hb.mono (by simp))) _⟩
set_option maxHeartbeats 400000 in
theorem entValid_2 (c s o y : Int) (w : World) (h1 : inB y 0 4294967295 = true) (h2 : statB 2 s o = true) :
    Calls Try.prog 38 #[.agg #[.int .i64 2, .int .i64 c, .int .i64 s, .int .i64 o, .int .i64 y]] w fun e w' => e = .returned (.bool (inB c 1 4)) ∧ Below w.heap.size w w' := by
  go_enter Try.func38, Try.ntmps38
  go_wp2_with (first | (go_at_call 44; (with_reducible refine (within_any y _ _ _).mono ?_); rintro e w1 ⟨rfl, n1, rfl⟩) | (go_at_call 44; refine (within_any _ _ _ _).mono ?_; rintro e w3 ⟨rfl, n3, rfl⟩) | (go_at_call 45; refine (stated_any _ _ _ _ _ _).mono ?_; rintro e w2 ⟨rfl, hb⟩; obtain ⟨c0, c1, c2, c3, c4⟩ := box5 ((Quiet.below (Quiet.drew (n := n1))).trans (hb.mono (by simp)))))
  go_ret
  exact ⟨rfl, below_drewN ((below_drewN ((Below.refl _ _).alloc (Nat.le_refl _) _) _).trans (hb.mono (by simp))) _⟩
set_option maxHeartbeats 400000 in
theorem entValid_3 (c s o y : Int) (w : World) (h1 : inB y 0 4294967295 = true) (h2 : statB 3 s o = true) :
    Calls Try.prog 38 #[.agg #[.int .i64 3, .int .i64 c, .int .i64 s, .int .i64 o, .int .i64 y]] w fun e w' => e = .returned (.bool (inB c 1 3 && y == 0)) ∧ Below w.heap.size w w' := by
  cases hc : inB c 1 3
  all_goals
    go_enter Try.func38, Try.ntmps38
    go_wp2_with (first | (go_at_call 44; (with_reducible refine (within_any y _ _ _).mono ?_); rintro e w1 ⟨rfl, n1, rfl⟩) | (go_at_call 44; refine (within_any _ _ _ _).mono ?_; rintro e w3 ⟨rfl, n3, rfl⟩) | (go_at_call 45; refine (stated_any _ _ _ _ _ _).mono ?_; rintro e w2 ⟨rfl, hb⟩; obtain ⟨c0, c1, c2, c3, c4⟩ := box5 ((Quiet.below (Quiet.drew (n := n1))).trans (hb.mono (by simp)))))
    go_ret
    exact ⟨rfl, below_drewN ((below_drewN ((Below.refl _ _).alloc (Nat.le_refl _) _) _).trans (hb.mono (by simp))) _⟩
set_option maxHeartbeats 400000 in
theorem entValid_4 (k c s o y : Int) (w : World) (h1 : inB y 0 4294967295 = true) (h2 : statB k s o = true) (k0 : (k == 0) = false) (k1 : (k == 1) = false) (k2 : (k == 2) = false) (k3 : (k == 3) = false) :
    Calls Try.prog 38 #[.agg #[.int .i64 k, .int .i64 c, .int .i64 s, .int .i64 o, .int .i64 y]] w fun e w' => e = .returned (.bool (false)) ∧ Below w.heap.size w w' := by
  go_enter Try.func38, Try.ntmps38
  go_wp2_with (first | (go_at_call 44; refine (within_any _ _ _ _).mono ?_; rintro e w1 ⟨rfl, n1, rfl⟩) | (go_at_call 45; refine (stated_any _ _ _ _ _ _).mono ?_; rintro e w2 ⟨rfl, hb⟩; obtain ⟨c0, c1, c2, c3, c4⟩ := box5 ((Quiet.below (Quiet.drew (n := n1))).trans (hb.mono (by simp)))))
  go_ret
  exact ⟨rfl, (below_drewN ((Below.refl _ _).alloc (Nat.le_refl _) _) _).trans (hb.mono (by simp))⟩
theorem entValid_any (k c s o y : Int) (w : World) :
    Calls Try.prog 38 #[.agg #[.int .i64 k, .int .i64 c, .int .i64 s, .int .i64 o, .int .i64 y]] w fun e w' => e = .returned (.bool (entB k c s o y)) ∧ Below w.heap.size w w' := by
  cases h1 : inB y 0 4294967295 && statB k s o with
  | false =>
    have he : entB k c s o y = false := by unfold entB; rw [h1]; rfl
    rw [he]
    exact entValid_early k c s o y w h1
  | true =>
    have he : entB k c s o y = kindB k c s o y := by unfold entB; rw [h1]; rfl
    rw [he]
    rw [Bool.and_eq_true] at h1
    obtain ⟨h1, h2⟩ := h1
    unfold kindB
    by_cases k0 : k = 0
    · subst k0; exact entValid_0 c s o y w h1 h2
    · by_cases k1 : k = 1
      · subst k1; exact entValid_1 c s o y w h1 h2
      · by_cases k2 : k = 2
        · subst k2; exact entValid_2 c s o y w h1 h2
        · by_cases k3 : k = 3
          · subst k3; exact entValid_3 c s o y w h1 h2
          · rw [if_neg k0, if_neg k1, if_neg k2, if_neg k3]
            exact entValid_4 k c s o y w h1 h2 (beq_eq_false_iff_ne.2 k0) (beq_eq_false_iff_ne.2 k1) (beq_eq_false_iff_ne.2 k2) (beq_eq_false_iff_ne.2 k3)
end Go.Proofs.Ytjomflodbcjdlaa
