/- Texts of this seat, one behind the other: each says at its head what it holds. No condition of its own. -/
import Derived.Deep.DeepCutAuto
import Derived.Test.YtohmnjejchppkaaDoorGObjectsBack01
import Derived.Test.YtohmnjejchppkaaDoorGObjectsBack12
/- What the functions of package header on entries return. No condition but that each number fits its kind. -/
namespace Go.Proofs.YtohmnjejchppkaaDoor
open Go.RowKit

def holdsB (k : Int) : Bool := k == 1 || k == 2
def statB (k s o : Int) : Bool := if s = 0 then o == 0 else if s = 1 then k == 1 && inB o 0 5 else if s = 2 then holdsB k && (inB o 0 5 || o == 15) else false
def kindBEnt (k c s o y : Int) : Bool := if k = 0 then (c == 0 && s == 0 && o == 0 && y == 0) else if k = 1 then inB c 0 7 else if k = 2 then inB c 1 4 else if k = 3 then inB c 1 3 && y == 0 else false
def entB (k c s o y : Int) : Bool := inB y 0 4294967295 && statB k s o && kindBEnt k c s o y
def encE (k c s o y : Int) : Int := y * 65536 + o * 256 + s * 64 + c * 4 + k

set_option maxHeartbeats 400000 in
theorem holds_any (k c s o y : Int) (w : World) :
    Calls Tryd.prog 96 #[.agg #[.int .i64 k, .int .i64 c, .int .i64 s, .int .i64 o, .int .i64 y]] w fun e w' => e = .returned (.bool (holdsB k)) ∧ w.alloc (.cells #[.int .i64 k, .int .i64 c, .int .i64 s, .int .i64 o, .int .i64 y] 109) = w' := by
  cases h1 : (k == 1) with
  | true =>
    go_enter Tryd.func96, Tryd.ntmps96
    go_wp2
    go_ret
    exact ⟨ret_bool (by unfold holdsB; rw [h1]; rfl), rfl⟩
  | false =>
    go_enter Tryd.func96, Tryd.ntmps96
    go_wp2
    go_ret
    exact ⟨ret_bool (by unfold holdsB; rw [h1]; rfl), rfl⟩

set_option maxHeartbeats 400000 in
theorem stated_0 (k c o y : Int) (w : World) :
    Calls Tryd.prog 94 #[.agg #[.int .i64 k, .int .i64 c, .int .i64 0, .int .i64 o, .int .i64 y]] w fun e w' => e = .returned (.bool (statB k 0 o)) ∧ Below w.heap.size w w' := by
  go_enter Tryd.func94, Tryd.ntmps94
  go_wp2_with (go_at_call 62; refine (within_anyHead _ _ _ _).mono ?_; rintro e w1 ⟨rfl, n1, rfl⟩)
  go_ret
  exact ⟨ret_bool (by unfold statB; rw [if_pos rfl]), below_drewN ((Below.refl _ _).alloc (Nat.le_refl _) _) _⟩
set_option maxHeartbeats 400000 in
theorem stated_1 (k c o y : Int) (w : World) :
    Calls Tryd.prog 94 #[.agg #[.int .i64 k, .int .i64 c, .int .i64 1, .int .i64 o, .int .i64 y]] w fun e w' => e = .returned (.bool (statB k 1 o)) ∧ Below w.heap.size w w' := by
  have hs : statB k 1 o = ((k == 1) && inB o 0 5) := by unfold statB; rw [if_neg (by decide), if_pos rfl]
  rw [hs]
  clear hs
  cases h1 : (k == 1) <;> cases h2 : inB o 0 5
  all_goals
    go_enter Tryd.func94, Tryd.ntmps94
    go_wp2_with (go_at_call 62; refine (within_anyHead _ _ _ _).mono ?_; rintro e w1 ⟨rfl, n1, rfl⟩)
    go_ret
    exact ⟨rfl, below_drewN ((Below.refl _ _).alloc (Nat.le_refl _) _) _⟩
set_option maxHeartbeats 400000 in
theorem stated_2 (k c o y : Int) (w : World) :
    Calls Tryd.prog 94 #[.agg #[.int .i64 k, .int .i64 c, .int .i64 2, .int .i64 o, .int .i64 y]] w fun e w' => e = .returned (.bool (statB k 2 o)) ∧ Below w.heap.size w w' := by
  have hs : statB k 2 o = (holdsB k && (inB o 0 5 || o == 15)) := by unfold statB; rw [if_neg (by decide), if_neg (by decide), if_pos rfl]
  rw [hs]
  clear hs
  cases h1 : holdsB k <;> cases h2 : inB o 0 5
  all_goals
    go_enter Tryd.func94, Tryd.ntmps94
    go_wp2_with (first | (go_at_call 62; refine (within_anyHead _ _ _ _).mono ?_; rintro e w1 ⟨rfl, n1, rfl⟩) | (go_at_call 96; refine (holds_any _ _ _ _ _ _).mono ?_; rintro e w2 ⟨rfl, rfl⟩))
  all_goals
    go_ret
    refine ⟨rfl, ?_⟩
    first
      | exact below_drewN (((Below.refl _ _).alloc (Nat.le_refl _) _).alloc (by simp) _) _
      | exact (below_drewN ((Below.refl _ _).alloc (Nat.le_refl _) _) _).alloc (by simp) _
set_option maxHeartbeats 400000 in
theorem stated_no (k c s o y : Int) (w : World) (h0 : (s == 0) = false) (h1 : (s == 1) = false) (h2 : (s == 2) = false) :
    Calls Tryd.prog 94 #[.agg #[.int .i64 k, .int .i64 c, .int .i64 s, .int .i64 o, .int .i64 y]] w fun e w' => e = .returned (.bool false) ∧ Below w.heap.size w w' := by
  go_enter Tryd.func94, Tryd.ntmps94
  go_wp2_with (go_at_call 62; refine (within_anyHead _ _ _ _).mono ?_; rintro e w1 ⟨rfl, n1, rfl⟩)
  go_ret
  exact ⟨rfl, below_drewN ((Below.refl _ _).alloc (Nat.le_refl _) _) _⟩
theorem stated_any (k c s o y : Int) (w : World) :
    Calls Tryd.prog 94 #[.agg #[.int .i64 k, .int .i64 c, .int .i64 s, .int .i64 o, .int .i64 y]] w fun e w' => e = .returned (.bool (statB k s o)) ∧ Below w.heap.size w w' := by
  by_cases h0 : s = 0
  · subst h0; exact stated_0 k c o y w
  · by_cases h1 : s = 1
    · subst h1; exact stated_1 k c o y w
    · by_cases h2 : s = 2
      · subst h2; exact stated_2 k c o y w
      · have hs : statB k s o = false := by unfold statB; rw [if_neg h0, if_neg h1, if_neg h2]
        rw [hs]
        exact stated_no k c s o y w (beq_eq_false_iff_ne.2 h0) (beq_eq_false_iff_ne.2 h1) (beq_eq_false_iff_ne.2 h2)

/-- Cells of a box of five. -/
theorem box5 {w w1 : World} {a b c d f : Value} {t : TypeId} (hb : Below (w.alloc (.cells #[a, b, c, d, f] t)).heap.size (w.alloc (.cells #[a, b, c, d, f] t)) w1) :
    w1.cell? ⟨w.heap.size, 0, none⟩ = some a ∧ w1.cell? ⟨w.heap.size, 1, none⟩ = some b ∧ w1.cell? ⟨w.heap.size, 2, none⟩ = some c ∧ w1.cell? ⟨w.heap.size, 3, none⟩ = some d ∧ w1.cell? ⟨w.heap.size, 4, none⟩ = some f :=
  ⟨box_cell hb 0, box_cell hb 1, box_cell hb 2, box_cell hb 3, box_cell hb 4⟩

set_option maxHeartbeats 400000 in
theorem entValid_early (k c s o y : Int) (w : World) (h : (inB y 0 4294967295 && statB k s o) = false) :
    Calls Tryd.prog 84 #[.agg #[.int .i64 k, .int .i64 c, .int .i64 s, .int .i64 o, .int .i64 y]] w fun e w' => e = .returned (.bool false) ∧ Below w.heap.size w w' := by
  cases h1 : inB y 0 4294967295 with
  | false =>
    clear h
    go_enter Tryd.func84, Tryd.ntmps84
    go_wp2_with (first | (go_at_call 62; refine (within_anyHead _ _ _ _).mono ?_; rintro e w1 ⟨rfl, n1, rfl⟩) | (go_at_call 94; refine (stated_any _ _ _ _ _ _).mono ?_; rintro e w2 ⟨rfl, hb⟩))
    go_ret
    exact ⟨rfl, below_drewN ((Below.refl _ _).alloc (Nat.le_refl _) _) _⟩
  | true =>
    rw [h1, Bool.true_and] at h
    go_enter Tryd.func84, Tryd.ntmps84
    go_wp2_with (first | (go_at_call 62; refine (within_anyHead _ _ _ _).mono ?_; rintro e w1 ⟨rfl, n1, rfl⟩) | (go_at_call 94; refine (stated_any _ _ _ _ _ _).mono ?_; rintro e w2 ⟨rfl, hb⟩))
    go_ret
    exact ⟨rfl, (below_drewN ((Below.refl _ _).alloc (Nat.le_refl _) _) _).trans (hb.mono (by simp))⟩

set_option maxHeartbeats 1000000 in
theorem entValid_0 (c s o y : Int) (w : World) (h1 : inB y 0 4294967295 = true) (h2 : statB 0 s o = true) :
    Calls Tryd.prog 84 #[.agg #[.int .i64 0, .int .i64 c, .int .i64 s, .int .i64 o, .int .i64 y]] w fun e w' => e = .returned (.bool (c == 0 && s == 0 && o == 0 && y == 0)) ∧ Below w.heap.size w w' := by
  by_cases hc : c = 0
  · subst hc
    by_cases hs : s = 0
    · subst hs
      by_cases ho : o = 0
      · subst ho
        by_cases hy : y = 0
        · subst hy
          go_enter Tryd.func84, Tryd.ntmps84
          go_wp2_with (first | (go_at_call 62; refine (within_anyHead _ _ _ _).mono ?_; rintro e w1 ⟨rfl, n1, rfl⟩) | (go_at_call 94; refine (stated_any _ _ _ _ _ _).mono ?_; rintro e w2 ⟨rfl, hb⟩; obtain ⟨c0, c1, c2, c3, c4⟩ := box5 ((Quiet.below (Quiet.drew (n := n1))).trans (hb.mono (by simp)))))
          go_ret
          exact ⟨rfl, (below_drewN ((Below.refl _ _).alloc (Nat.le_refl _) _) _).trans (hb.mono (by simp))⟩
        · rw [show (y == 0) = false from beq_eq_false_iff_ne.2 hy]
          go_enter Tryd.func84, Tryd.ntmps84
          go_wp2_with (first | (go_at_call 62; refine (within_anyHead _ _ _ _).mono ?_; rintro e w1 ⟨rfl, n1, rfl⟩) | (go_at_call 94; refine (stated_any _ _ _ _ _ _).mono ?_; rintro e w2 ⟨rfl, hb⟩; obtain ⟨c0, c1, c2, c3, c4⟩ := box5 ((Quiet.below (Quiet.drew (n := n1))).trans (hb.mono (by simp)))))
          go_ret
          exact ⟨rfl, (below_drewN ((Below.refl _ _).alloc (Nat.le_refl _) _) _).trans (hb.mono (by simp))⟩
      · rw [show (o == 0) = false from beq_eq_false_iff_ne.2 ho]
        go_enter Tryd.func84, Tryd.ntmps84
        go_wp2_with (first | (go_at_call 62; refine (within_anyHead _ _ _ _).mono ?_; rintro e w1 ⟨rfl, n1, rfl⟩) | (go_at_call 94; refine (stated_any _ _ _ _ _ _).mono ?_; rintro e w2 ⟨rfl, hb⟩; obtain ⟨c0, c1, c2, c3, c4⟩ := box5 ((Quiet.below (Quiet.drew (n := n1))).trans (hb.mono (by simp)))))
        go_ret
        exact ⟨rfl, (below_drewN ((Below.refl _ _).alloc (Nat.le_refl _) _) _).trans (hb.mono (by simp))⟩
    · rw [show (s == 0) = false from beq_eq_false_iff_ne.2 hs]
      go_enter Tryd.func84, Tryd.ntmps84
      go_wp2_with (first | (go_at_call 62; refine (within_anyHead _ _ _ _).mono ?_; rintro e w1 ⟨rfl, n1, rfl⟩) | (go_at_call 94; refine (stated_any _ _ _ _ _ _).mono ?_; rintro e w2 ⟨rfl, hb⟩; obtain ⟨c0, c1, c2, c3, c4⟩ := box5 ((Quiet.below (Quiet.drew (n := n1))).trans (hb.mono (by simp)))))
      go_ret
      exact ⟨rfl, (below_drewN ((Below.refl _ _).alloc (Nat.le_refl _) _) _).trans (hb.mono (by simp))⟩
  · rw [show (c == 0) = false from beq_eq_false_iff_ne.2 hc]
    go_enter Tryd.func84, Tryd.ntmps84
    go_wp2_with (first | (go_at_call 62; refine (within_anyHead _ _ _ _).mono ?_; rintro e w1 ⟨rfl, n1, rfl⟩) | (go_at_call 94; refine (stated_any _ _ _ _ _ _).mono ?_; rintro e w2 ⟨rfl, hb⟩; obtain ⟨c0, c1, c2, c3, c4⟩ := box5 ((Quiet.below (Quiet.drew (n := n1))).trans (hb.mono (by simp)))))
    go_ret
    exact ⟨rfl, (below_drewN ((Below.refl _ _).alloc (Nat.le_refl _) _) _).trans (hb.mono (by simp))⟩
set_option maxHeartbeats 400000 in
theorem entValid_1 (c s o y : Int) (w : World) (h1 : inB y 0 4294967295 = true) (h2 : statB 1 s o = true) :
    Calls Tryd.prog 84 #[.agg #[.int .i64 1, .int .i64 c, .int .i64 s, .int .i64 o, .int .i64 y]] w fun e w' => e = .returned (.bool (inB c 0 7)) ∧ Below w.heap.size w w' := by
  go_enter Tryd.func84, Tryd.ntmps84
  go_wp2_with (first | (go_at_call 62; (with_reducible refine (within_anyHead y _ _ _).mono ?_); rintro e w1 ⟨rfl, n1, rfl⟩) | (go_at_call 62; refine (within_anyHead _ _ _ _).mono ?_; rintro e w3 ⟨rfl, n3, rfl⟩) | (go_at_call 94; refine (stated_any _ _ _ _ _ _).mono ?_; rintro e w2 ⟨rfl, hb⟩; obtain ⟨c0, c1, c2, c3, c4⟩ := box5 ((Quiet.below (Quiet.drew (n := n1))).trans (hb.mono (by simp)))))
  go_ret
  exact ⟨rfl, below_drewN ((below_drewN ((Below.refl _ _).alloc (Nat.le_refl _) _) _).trans (hb.mono (by simp))) _⟩
set_option maxHeartbeats 400000 in
theorem entValid_2 (c s o y : Int) (w : World) (h1 : inB y 0 4294967295 = true) (h2 : statB 2 s o = true) :
    Calls Tryd.prog 84 #[.agg #[.int .i64 2, .int .i64 c, .int .i64 s, .int .i64 o, .int .i64 y]] w fun e w' => e = .returned (.bool (inB c 1 4)) ∧ Below w.heap.size w w' := by
  go_enter Tryd.func84, Tryd.ntmps84
  go_wp2_with (first | (go_at_call 62; (with_reducible refine (within_anyHead y _ _ _).mono ?_); rintro e w1 ⟨rfl, n1, rfl⟩) | (go_at_call 62; refine (within_anyHead _ _ _ _).mono ?_; rintro e w3 ⟨rfl, n3, rfl⟩) | (go_at_call 94; refine (stated_any _ _ _ _ _ _).mono ?_; rintro e w2 ⟨rfl, hb⟩; obtain ⟨c0, c1, c2, c3, c4⟩ := box5 ((Quiet.below (Quiet.drew (n := n1))).trans (hb.mono (by simp)))))
  go_ret
  exact ⟨rfl, below_drewN ((below_drewN ((Below.refl _ _).alloc (Nat.le_refl _) _) _).trans (hb.mono (by simp))) _⟩
set_option maxHeartbeats 400000 in
theorem entValid_3 (c s o y : Int) (w : World) (h1 : inB y 0 4294967295 = true) (h2 : statB 3 s o = true) :
    Calls Tryd.prog 84 #[.agg #[.int .i64 3, .int .i64 c, .int .i64 s, .int .i64 o, .int .i64 y]] w fun e w' => e = .returned (.bool (inB c 1 3 && y == 0)) ∧ Below w.heap.size w w' := by
  cases hc : inB c 1 3
  all_goals
    go_enter Tryd.func84, Tryd.ntmps84
    go_wp2_with (first | (go_at_call 62; (with_reducible refine (within_anyHead y _ _ _).mono ?_); rintro e w1 ⟨rfl, n1, rfl⟩) | (go_at_call 62; refine (within_anyHead _ _ _ _).mono ?_; rintro e w3 ⟨rfl, n3, rfl⟩) | (go_at_call 94; refine (stated_any _ _ _ _ _ _).mono ?_; rintro e w2 ⟨rfl, hb⟩; obtain ⟨c0, c1, c2, c3, c4⟩ := box5 ((Quiet.below (Quiet.drew (n := n1))).trans (hb.mono (by simp)))))
    go_ret
    exact ⟨rfl, below_drewN ((below_drewN ((Below.refl _ _).alloc (Nat.le_refl _) _) _).trans (hb.mono (by simp))) _⟩
set_option maxHeartbeats 400000 in
theorem entValid_4 (k c s o y : Int) (w : World) (h1 : inB y 0 4294967295 = true) (h2 : statB k s o = true) (k0 : (k == 0) = false) (k1 : (k == 1) = false) (k2 : (k == 2) = false) (k3 : (k == 3) = false) :
    Calls Tryd.prog 84 #[.agg #[.int .i64 k, .int .i64 c, .int .i64 s, .int .i64 o, .int .i64 y]] w fun e w' => e = .returned (.bool (false)) ∧ Below w.heap.size w w' := by
  go_enter Tryd.func84, Tryd.ntmps84
  go_wp2_with (first | (go_at_call 62; refine (within_anyHead _ _ _ _).mono ?_; rintro e w1 ⟨rfl, n1, rfl⟩) | (go_at_call 94; refine (stated_any _ _ _ _ _ _).mono ?_; rintro e w2 ⟨rfl, hb⟩; obtain ⟨c0, c1, c2, c3, c4⟩ := box5 ((Quiet.below (Quiet.drew (n := n1))).trans (hb.mono (by simp)))))
  go_ret
  exact ⟨rfl, (below_drewN ((Below.refl _ _).alloc (Nat.le_refl _) _) _).trans (hb.mono (by simp))⟩
theorem entValid_any (k c s o y : Int) (w : World) :
    Calls Tryd.prog 84 #[.agg #[.int .i64 k, .int .i64 c, .int .i64 s, .int .i64 o, .int .i64 y]] w fun e w' => e = .returned (.bool (entB k c s o y)) ∧ Below w.heap.size w w' := by
  cases h1 : inB y 0 4294967295 && statB k s o with
  | false =>
    have he : entB k c s o y = false := by unfold entB; rw [h1]; rfl
    rw [he]
    exact entValid_early k c s o y w h1
  | true =>
    have he : entB k c s o y = kindBEnt k c s o y := by unfold entB; rw [h1]; rfl
    rw [he]
    rw [Bool.and_eq_true] at h1
    obtain ⟨h1, h2⟩ := h1
    unfold kindBEnt
    by_cases k0 : k = 0
    · subst k0; exact entValid_0 c s o y w h1 h2
    · by_cases k1 : k = 1
      · subst k1; exact entValid_1 c s o y w h1 h2
      · by_cases k2 : k = 2
        · subst k2; exact entValid_2 c s o y w h1 h2
        · by_cases k3 : k = 3
          · subst k3; exact entValid_3 c s o y w h1 h2
          · rw [if_neg k0, if_neg k1, if_neg k2, if_neg k3]
            exact entValid_4 k c s o y w h1 h2 (beq_eq_false_iff_ne.2 k0) (beq_eq_false_iff_ne.2 k1) (beq_eq_false_iff_ne.2 k2) (beq_eq_false_iff_ne.2 k3)
end Go.Proofs.YtohmnjejchppkaaDoor
/- What header.DecodeHead returns, for every word. No condition. -/
namespace Go.Proofs.YtohmnjejchppkaaDoor
open Go.RowKit

theorem getI_div (x a d : Int) (hx : U64 x) (_h : fldB a d = true) : getI x a d = x / 2 ^ a.toNat % 2 ^ d.toNat := by
  obtain ⟨X, rfl⟩ := Int.eq_ofNat_of_zero_le hx.1
  unfold getI getN
  rw [Int.toNat_natCast, Nat.shiftRight_eq_div_pow]
  simp
theorem unpackL_cons (d : Int) (ds : List Int) (x a : Int) (h : fldB a d = true) : unpackL (d :: ds) x a = (unpackL ds x (a + d)).map (getI x a d :: ·) := by rw [unpackL, h, if_pos rfl]
theorem unpack_head (x : Int) (hx : U64 x) : ∃ d e, unpackL [8, 8, 8, 32, 8] x 0 = some [x % 256, x / 256 % 256, x / 65536 % 256, d, e] := by
  refine ⟨getI x 24 32, getI x 56 8, ?_⟩
  rw [unpackL_cons _ _ _ _ (by decide), unpackL_cons _ _ _ _ (by decide), unpackL_cons _ _ _ _ (by decide), unpackL_cons _ _ _ _ (by decide), unpackL_cons _ _ _ _ (by decide), unpackL]
  rw [getI_div _ _ _ hx (by decide), getI_div x (0 + 8) 8 hx (by decide), getI_div x (0 + 8 + 8) 8 hx (by decide)]
  have e1 : x / 2 ^ (0 : Int).toNat % 2 ^ (8 : Int).toNat = x % 256 := by
    show x / 1 % 256 = _
    rw [Int.ediv_one]
  have e2 : x / 2 ^ (0 + 8 : Int).toNat % 2 ^ (8 : Int).toNat = x / 256 % 256 := rfl
  have e3 : x / 2 ^ (0 + 8 + 8 : Int).toNat % 2 ^ (8 : Int).toNat = x / 65536 % 256 := rfl
  rw [e1, e2, e3]
  rfl

/-- A box of one's own may be written in a world that has only grown. -/
theorem box_frozen {w w1 : World} {cs : Array Value} {t : TypeId} (hb : Below (w.alloc (.cells cs t)).heap.size (w.alloc (.cells cs t)) w1) (i : Nat) :
    w1.frozen? ⟨w.heap.size, i, none⟩ = false := by
  rw [hb.frozen (p := ⟨w.heap.size, i, none⟩) (by simp)]
  exact World.frozen?_alloc_new ..
theorem unpack5 (x A B C D E : Int) (ds : List Int) (hx : U64 x) (hu : unpackL ds x 0 = some [A, B, C, D, E]) (v : Value) (W : World) (hl : Lst .i64 W v ds) :
    Calls Tryd.prog 69 #[.int .u64 x, v] W fun e w' => ∃ b off cap, e = .returned (.tuple #[.slice (some ⟨b, off, none⟩) 5 cap, .int .i64 0]) ∧ w'.cell? ⟨b, off, none⟩ = some (.int .u64 A) ∧ w'.cell? ⟨b, off + 1, none⟩ = some (.int .u64 B) ∧ w'.cell? ⟨b, off + 2, none⟩ = some (.int .u64 C) ∧ Below W.heap.size W w' := by
  refine (unpack_any x v ds W hx hl).mono ?_
  rintro e w' ⟨v2, he, hl2, hb⟩
  rw [hu] at he hl2
  rcases hl2 with ⟨h0, _⟩ | ⟨b, off, cap, hv, _, _, hc⟩
  · exact absurd h0 (by simp)
  · exact ⟨b, off, cap, by rw [he, hv]; rfl, hc 0 (by simp), hc 1 (by simp), hc 2 (by simp), hb⟩

set_option maxHeartbeats 1000000 in
theorem dec_core (x A B C D E : Int) (w : World) (hx : U64 x) (hu : Hid (unpackL [8, 8, 8, 32, 8] x 0 = some [A, B, C, D, E])) (hA : 0 ≤ A ∧ A ≤ 255) (hB : 0 ≤ B ∧ B ≤ 255) (hC : 0 ≤ C ∧ C ≤ 255) (h : headB B A C = true) (he : (encH B A C != x) = false) :
    Calls Tryd.prog 59 #[.int .u64 x] w fun e w' => e = .returned (.tuple #[.agg #[.int .i64 B, .int .i64 A, .int .i64 C], .int .i64 0]) ∧ Below w.heap.size w w' := by
  have U := Lib.hid (fun v W hl => unpack5 x A B C D E [8, 8, 8, 32, 8] hx hu.out v W hl)
  go_enter Tryd.func59, Tryd.ntmps59
  go_wp2_with (first | (go_at_call 49; refine (headWidths_any _).mono ?_; rintro e w1 ⟨v1, rfl, hl1, hb1⟩) | (go_at_call 69; refine (U.out _ _ hl1).mono ?_; rintro e w2 ⟨b, off, cap, rfl, c0, c1, c2, hb2⟩))
  have hb12 := hb1.trans (hb2.mono hb1.size)
  have hsz : w.heap.size < w2.heap.size := by have := hb12.size; simp at this; omega
  have g0 := box_cell hb12 0
  have g1 := box_cell hb12 1
  have g2 := box_cell hb12 2
  simp only [List.getElem?_toArray, List.getElem?_cons_zero, List.getElem?_cons_succ] at g0 g1 g2
  have hbl := World.block_lt_of_cell? _ _ c0
  have wA : IntKind.i64.wrap A = A := IntWalk.i64_in A (by omega)
  have wB : IntKind.i64.wrap B = B := IntWalk.i64_in B (by omega)
  have wC : IntKind.i64.wrap C = C := IntWalk.i64_in C (by omega)
  have i0 : (0 : Int) < 5 := by decide
  have i1 : (1 : Int) < 5 := by decide
  have i2 : (2 : Int) < 5 := by decide
  go_region_held3 (fun w' => w'.cell? ⟨b, off, none⟩ = some (.int .u64 A) ∧ w'.cell? ⟨b, off + 1, none⟩ = some (.int .u64 B) ∧ w'.cell? ⟨b, off + 2, none⟩ = some (.int .u64 C)) (first | exact ⟨c0, c1, c2⟩ | go_keep) (fail)
  go_wp2_with fail
  refine (enc_yes B A C _ h).mono ?_
  rintro e w5 ⟨rfl, hb5⟩
  have hN : Below (w2.alloc (.cells #[.int .i64 B, .int .i64 A, .int .i64 C] 56)).heap.size (w2.alloc (.cells #[.int .i64 B, .int .i64 A, .int .i64 C] 56)) w5 := (Quiet.below ⟨1, rfl⟩).trans (hb5.mono (by simp))
  have hO := hb12.trans ((((Below.refl _ _).alloc (Nat.le_refl _) _).trans (hN.mono (by simp))).mono hb12.size)
  have n0 := box_cell hN 0
  have n1 := box_cell hN 1
  have n2 := box_cell hN 2
  have o0 := box_cell hO 0
  have o1 := box_cell hO 1
  have o2 := box_cell hO 2
  have f0 := box_frozen hO 0
  have f1 := box_frozen hO 1
  have f2 := box_frozen hO 2
  simp only [List.getElem?_toArray, List.getElem?_cons_zero, List.getElem?_cons_succ] at n0 n1 n2 o0 o1 o2
  go_wp2
  refine bodyPost_ret (v := .tuple #[.agg #[.int .i64 B, .int .i64 A, .int .i64 C], .int .i64 0]) (by simp [results, Tryd.results59, go_sem, o0, o1, o2]) rfl ⟨rfl, ?_⟩
  exact ((((((Below.refl _ _).alloc (Nat.le_refl _) _).trans (hO.mono (by simp))).setCell (Nat.le_refl _) _).setCell (Nat.le_refl _) _).setCell (Nat.le_refl _) _)
set_option maxHeartbeats 1000000 in
theorem dec_part (x A B C D E : Int) (w : World) (hx : U64 x) (hu : Hid (unpackL [8, 8, 8, 32, 8] x 0 = some [A, B, C, D, E])) (hA : 0 ≤ A ∧ A ≤ 255) (hB : 0 ≤ B ∧ B ≤ 255) (hC : 0 ≤ C ∧ C ≤ 255) (h : headB B A C = true) (he : (encH B A C != x) = true) :
    Calls Tryd.prog 59 #[.int .u64 x] w fun e w' => e = .returned (.tuple #[.agg #[.int .i64 0, .int .i64 0, .int .i64 0], .int .i64 4]) ∧ Below w.heap.size w w' := by
  have U := Lib.hid (fun v W hl => unpack5 x A B C D E [8, 8, 8, 32, 8] hx hu.out v W hl)
  go_enter Tryd.func59, Tryd.ntmps59
  go_wp2_with (first | (go_at_call 49; refine (headWidths_any _).mono ?_; rintro e w1 ⟨v1, rfl, hl1, hb1⟩) | (go_at_call 69; refine (U.out _ _ hl1).mono ?_; rintro e w2 ⟨b, off, cap, rfl, c0, c1, c2, hb2⟩))
  have hb12 := hb1.trans (hb2.mono hb1.size)
  have hsz : w.heap.size < w2.heap.size := by have := hb12.size; simp at this; omega
  have g0 := box_cell hb12 0
  have g1 := box_cell hb12 1
  have g2 := box_cell hb12 2
  simp only [List.getElem?_toArray, List.getElem?_cons_zero, List.getElem?_cons_succ] at g0 g1 g2
  have hbl := World.block_lt_of_cell? _ _ c0
  have wA : IntKind.i64.wrap A = A := IntWalk.i64_in A (by omega)
  have wB : IntKind.i64.wrap B = B := IntWalk.i64_in B (by omega)
  have wC : IntKind.i64.wrap C = C := IntWalk.i64_in C (by omega)
  have i0 : (0 : Int) < 5 := by decide
  have i1 : (1 : Int) < 5 := by decide
  have i2 : (2 : Int) < 5 := by decide
  go_region_held3 (fun w' => w'.cell? ⟨b, off, none⟩ = some (.int .u64 A) ∧ w'.cell? ⟨b, off + 1, none⟩ = some (.int .u64 B) ∧ w'.cell? ⟨b, off + 2, none⟩ = some (.int .u64 C)) (first | exact ⟨c0, c1, c2⟩ | go_keep) (fail)
  go_wp2_with fail
  refine (enc_yes B A C _ h).mono ?_
  rintro e w5 ⟨rfl, hb5⟩
  have hN : Below (w2.alloc (.cells #[.int .i64 B, .int .i64 A, .int .i64 C] 56)).heap.size (w2.alloc (.cells #[.int .i64 B, .int .i64 A, .int .i64 C] 56)) w5 := (Quiet.below ⟨1, rfl⟩).trans (hb5.mono (by simp))
  have hO := hb12.trans ((((Below.refl _ _).alloc (Nat.le_refl _) _).trans (hN.mono (by simp))).mono hb12.size)
  have n0 := box_cell hN 0
  have n1 := box_cell hN 1
  have n2 := box_cell hN 2
  have o0 := box_cell hO 0
  have o1 := box_cell hO 1
  have o2 := box_cell hO 2
  have f0 := box_frozen hO 0
  have f1 := box_frozen hO 1
  have f2 := box_frozen hO 2
  simp only [List.getElem?_toArray, List.getElem?_cons_zero, List.getElem?_cons_succ] at n0 n1 n2 o0 o1 o2
  go_wp2
  refine bodyPost_ret (v := .tuple #[.agg #[.int .i64 0, .int .i64 0, .int .i64 0], .int .i64 4]) (by simp [results, Tryd.results59, go_sem, o0, o1, o2]) rfl ⟨rfl, ?_⟩
  exact ((((((Below.refl _ _).alloc (Nat.le_refl _) _).trans (hO.mono (by simp))).setCell (Nat.le_refl _) _).setCell (Nat.le_refl _) _).setCell (Nat.le_refl _) _)
set_option maxHeartbeats 1000000 in
theorem dec_none (x A B C D E : Int) (w : World) (hx : U64 x) (hu : Hid (unpackL [8, 8, 8, 32, 8] x 0 = some [A, B, C, D, E])) (hA : 0 ≤ A ∧ A ≤ 255) (hB : 0 ≤ B ∧ B ≤ 255) (hC : 0 ≤ C ∧ C ≤ 255) (h : headB B A C = false) :
    Calls Tryd.prog 59 #[.int .u64 x] w fun e w' => e = .returned (.tuple #[.agg #[.int .i64 0, .int .i64 0, .int .i64 0], .int .i64 4]) ∧ Below w.heap.size w w' := by
  have U := Lib.hid (fun v W hl => unpack5 x A B C D E [8, 8, 8, 32, 8] hx hu.out v W hl)
  go_enter Tryd.func59, Tryd.ntmps59
  go_wp2_with (first | (go_at_call 49; refine (headWidths_any _).mono ?_; rintro e w1 ⟨v1, rfl, hl1, hb1⟩) | (go_at_call 69; refine (U.out _ _ hl1).mono ?_; rintro e w2 ⟨b, off, cap, rfl, c0, c1, c2, hb2⟩))
  have hb12 := hb1.trans (hb2.mono hb1.size)
  have hsz : w.heap.size < w2.heap.size := by have := hb12.size; simp at this; omega
  have g0 := box_cell hb12 0
  have g1 := box_cell hb12 1
  have g2 := box_cell hb12 2
  simp only [List.getElem?_toArray, List.getElem?_cons_zero, List.getElem?_cons_succ] at g0 g1 g2
  have hbl := World.block_lt_of_cell? _ _ c0
  have wA : IntKind.i64.wrap A = A := IntWalk.i64_in A (by omega)
  have wB : IntKind.i64.wrap B = B := IntWalk.i64_in B (by omega)
  have wC : IntKind.i64.wrap C = C := IntWalk.i64_in C (by omega)
  have i0 : (0 : Int) < 5 := by decide
  have i1 : (1 : Int) < 5 := by decide
  have i2 : (2 : Int) < 5 := by decide
  go_region_held3 (fun w' => w'.cell? ⟨b, off, none⟩ = some (.int .u64 A) ∧ w'.cell? ⟨b, off + 1, none⟩ = some (.int .u64 B) ∧ w'.cell? ⟨b, off + 2, none⟩ = some (.int .u64 C)) (first | exact ⟨c0, c1, c2⟩ | go_keep) (fail)
  go_wp2_with fail
  refine (enc_no B A C _ h).mono ?_
  rintro e w5 ⟨rfl, hb5⟩
  have hN : Below (w2.alloc (.cells #[.int .i64 B, .int .i64 A, .int .i64 C] 56)).heap.size (w2.alloc (.cells #[.int .i64 B, .int .i64 A, .int .i64 C] 56)) w5 := (Quiet.below ⟨1, rfl⟩).trans (hb5.mono (by simp))
  have hO := hb12.trans ((((Below.refl _ _).alloc (Nat.le_refl _) _).trans (hN.mono (by simp))).mono hb12.size)
  have n0 := box_cell hN 0
  have n1 := box_cell hN 1
  have n2 := box_cell hN 2
  have o0 := box_cell hO 0
  have o1 := box_cell hO 1
  have o2 := box_cell hO 2
  have f0 := box_frozen hO 0
  have f1 := box_frozen hO 1
  have f2 := box_frozen hO 2
  simp only [List.getElem?_toArray, List.getElem?_cons_zero, List.getElem?_cons_succ] at n0 n1 n2 o0 o1 o2
  go_wp2
  refine bodyPost_ret (v := .tuple #[.agg #[.int .i64 0, .int .i64 0, .int .i64 0], .int .i64 4]) (by simp [results, Tryd.results59, go_sem, o0, o1, o2]) rfl ⟨rfl, ?_⟩
  exact ((((((Below.refl _ _).alloc (Nat.le_refl _) _).trans (hO.mono (by simp))).setCell (Nat.le_refl _) _).setCell (Nat.le_refl _) _).setCell (Nat.le_refl _) _)

/-- The header that a word is, or none. -/
def decOk (x : Int) : Bool := headB (x / 256 % 256) (x % 256) (x / 65536 % 256) && encH (x / 256 % 256) (x % 256) (x / 65536 % 256) == x
theorem dec_yes (x : Int) (w : World) (hx : U64 x) (h : decOk x = true) :
    Calls Tryd.prog 59 #[.int .u64 x] w fun e w' => e = .returned (.tuple #[.agg #[.int .i64 (x / 256 % 256), .int .i64 (x % 256), .int .i64 (x / 65536 % 256)], .int .i64 0]) ∧ Below w.heap.size w w' := by
  obtain ⟨d, e, hu⟩ := unpack_head x hx
  unfold decOk at h
  rw [Bool.and_eq_true, beq_iff_eq] at h
  exact dec_core x _ _ _ d e w hx hu (by omega) (by omega) (by omega) h.1 (by rw [h.2]; simp)
theorem dec_no (x : Int) (w : World) (hx : U64 x) (h : decOk x = false) :
    Calls Tryd.prog 59 #[.int .u64 x] w fun e w' => e = .returned (.tuple #[.agg #[.int .i64 0, .int .i64 0, .int .i64 0], .int .i64 4]) ∧ Below w.heap.size w w' := by
  obtain ⟨d, e, hu⟩ := unpack_head x hx
  unfold decOk at h
  cases hb : headB (x / 256 % 256) (x % 256) (x / 65536 % 256) with
  | true =>
    rw [hb, Bool.true_and] at h
    exact dec_part x _ _ _ d e w hx hu (by omega) (by omega) (by omega) hb (by rw [bne, h]; rfl)
  | false => exact dec_none x _ _ _ d e w hx hu (by omega) (by omega) (by omega) hb
end Go.Proofs.YtohmnjejchppkaaDoor
/- What header.EncodeEntry and header.DecodeEntry return, for every entry and every word. No condition but that each number fits its kind. -/
namespace Go.Proofs.YtohmnjejchppkaaDoor
open Go.RowKit

theorem statB_bd {k s o : Int} (h : statB k s o = true) : 0 ≤ s ∧ s ≤ 2 ∧ 0 ≤ o ∧ o ≤ 15 := by
  unfold statB at h
  split at h
  · have := eq_of_beq h; omega
  · split at h
    · rw [Bool.and_eq_true] at h
      have := inB_true h.2
      omega
    · split at h
      · rw [Bool.and_eq_true, Bool.or_eq_true] at h
        rcases h.2 with h2 | h2
        · have := inB_true h2; omega
        · have := eq_of_beq h2; omega
      · cases h
theorem kindB_bd {k c s o y : Int} (h : kindBEnt k c s o y = true) : 0 ≤ k ∧ k ≤ 3 ∧ 0 ≤ c ∧ c ≤ 7 := by
  unfold kindBEnt at h
  split at h
  · simp only [Bool.and_eq_true, beq_iff_eq] at h
    omega
  · split at h
    · have := inB_true h; omega
    · split at h
      · have := inB_true h; omega
      · split at h
        · rw [Bool.and_eq_true] at h
          have := inB_true h.1
          omega
        · cases h
theorem entB_bd {k c s o y : Int} (h : entB k c s o y = true) : (0 ≤ k ∧ k ≤ 3) ∧ (0 ≤ c ∧ c ≤ 7) ∧ (0 ≤ s ∧ s ≤ 2) ∧ (0 ≤ o ∧ o ≤ 15) ∧ 0 ≤ y ∧ y ≤ 4294967295 := by
  unfold entB at h
  rw [Bool.and_eq_true, Bool.and_eq_true] at h
  have h1 := inB_true h.1.1
  have h2 := statB_bd h.1.2
  have h3 := kindB_bd h.2
  omega

set_option maxHeartbeats 400000 in
theorem entryWidths_any (w : World) :
    Calls Tryd.prog 70 #[] w fun e w' => ∃ v, e = .returned v ∧ Lst .i64 w' v [2, 4, 2, 4, 4, 32] ∧ Below w.heap.size w w' := by
  go_enter Tryd.func70, Tryd.ntmps70
  go_wp2
  go_ret
  exact ⟨_, rfl, lst_new w [2, 4, 2, 4, 4, 32] _ _ 6 6 rfl (by decide) (by decide) rfl, (Below.refl _ _).alloc (Nat.le_refl _) _⟩

theorem pack_ent (k c s o y : Int) (h : entB k c s o y = true) : packI [k, c, s, o, 0, y] [2, 4, 2, 4, 4, 32] = (encE k c s o y, 0) := by
  have hb := entB_bd h
  unfold packI encE
  rw [if_pos (show ([k, c, s, o, 0, y] : List Int).length = ([2, 4, 2, 4, 4, 32] : List Int).length from rfl)]
  rw [packL_cons _ _ _ _ _ _ (by decide) (by decide) (by decide) (by omega) (by show _ < (4 : Int); omega)]
  rw [packL_cons _ _ _ _ _ _ (by decide) (by show (0 : Int) ≤ 0 + k * 1; omega) (by show 0 + k * 1 < (4 : Int); omega) (by omega) (by show _ < (16 : Int); omega)]
  rw [packL_cons _ _ _ _ _ _ (by decide) (by show (0 : Int) ≤ 0 + k * 1 + c * 4; omega) (by show 0 + k * 1 + c * 4 < (64 : Int); omega) (by omega) (by show _ < (4 : Int); omega)]
  rw [packL_cons _ _ _ _ _ _ (by decide) (by show (0 : Int) ≤ 0 + k * 1 + c * 4 + s * 64; omega) (by show 0 + k * 1 + c * 4 + s * 64 < (256 : Int); omega) (by omega) (by show _ < (16 : Int); omega)]
  rw [packL_cons _ _ _ _ _ _ (by decide) (by show (0 : Int) ≤ 0 + k * 1 + c * 4 + s * 64 + o * 256; omega) (by show 0 + k * 1 + c * 4 + s * 64 + o * 256 < (4096 : Int); omega) (by omega) (by decide)]
  rw [packL_cons _ _ _ _ _ _ (by decide) (by show (0 : Int) ≤ 0 + k * 1 + c * 4 + s * 64 + o * 256 + 0 * 4096; omega) (by show 0 + k * 1 + c * 4 + s * 64 + o * 256 + 0 * 4096 < (65536 : Int); omega) (by omega) (by show _ < (4294967296 : Int); omega)]
  rw [packL]
  · refine Prod.ext ?_ rfl
    show 0 + k * 1 + c * 4 + s * 64 + o * 256 + 0 * 4096 + y * 65536 = _
    omega
  · simp

set_option maxHeartbeats 1000000 in
theorem eenc_yes (k c s o y : Int) (w : World) (h : entB k c s o y = true) :
    Calls Tryd.prog 71 #[.agg #[.int .i64 k, .int .i64 c, .int .i64 s, .int .i64 o, .int .i64 y]] w fun e w' => e = .returned (.tuple #[.int .u64 (encE k c s o y), .int .i64 0]) ∧ Below w.heap.size w w' := by
  have hbd := entB_bd h
  have hu : ∀ x ∈ [k, c, s, o, 0, y], U64 x := by
    intro x hx
    simp only [List.mem_cons, List.not_mem_nil, or_false] at hx
    exact ⟨by omega, by omega⟩
  have pk := fun v1 v2 W h1 h2 => pack_any v1 v2 [k, c, s, o, 0, y] [2, 4, 2, 4, 4, 32] W h1 h2 hu
  rw [pack_ent k c s o y h] at pk
  have P := Lib.hid pk
  clear pk hu
  have wk : IntKind.u64.wrap k = k := IntWalk.u64_in k (by omega)
  have wc : IntKind.u64.wrap c = c := IntWalk.u64_in c (by omega)
  have ws : IntKind.u64.wrap s = s := IntWalk.u64_in s (by omega)
  have wo : IntKind.u64.wrap o = o := IntWalk.u64_in o (by omega)
  have wy : IntKind.u64.wrap y = y := IntWalk.u64_in y (by omega)
  go_enter Tryd.func71, Tryd.ntmps71
  go_wp2_with (go_at_call 84; refine (entValid_any _ _ _ _ _ _).mono ?_; rintro e w1 ⟨rfl, hb⟩; obtain ⟨c0, c1, c2, c3, c4⟩ := box5 hb)
  have hA : Below w.heap.size w w1 := ((Below.refl _ _).alloc (Nat.le_refl _) _).trans (hb.mono (by simp))
  have hsA := hA.size
  go_wp2_with (first | (go_at_call 70; refine (entryWidths_any _).mono ?_; rintro e w2 ⟨v2, rfl, hl2, hb2⟩) | (go_at_call 48; refine (P.out _ _ _ (by exact (lst_new w1 [k, c, s, o, 0, y] _ _ 6 6 rfl (by decide) (by decide) rfl).below hb2) (by exact hl2)).mono ?_; rintro e w3 ⟨rfl, hq3⟩))
  go_ret2
  exact ⟨rfl, ((hA.alloc hsA _).trans (hb2.mono (by simp; omega))).trans hq3.below⟩

set_option maxHeartbeats 400000 in
theorem eenc_no (k c s o y : Int) (w : World) (h : entB k c s o y = false) :
    Calls Tryd.prog 71 #[.agg #[.int .i64 k, .int .i64 c, .int .i64 s, .int .i64 o, .int .i64 y]] w fun e w' => e = .returned (.tuple #[.int .u64 0, .int .i64 4]) ∧ Below w.heap.size w w' := by
  go_enter Tryd.func71, Tryd.ntmps71
  go_wp2_with (go_at_call 84; refine (entValid_any _ _ _ _ _ _).mono ?_; rintro e w1 ⟨rfl, hb⟩)
  go_ret2
  exact ⟨rfl, ((Below.refl _ _).alloc (Nat.le_refl _) _).trans (hb.mono (by simp))⟩
end Go.Proofs.YtohmnjejchppkaaDoor
/- What header.DecodeEntry returns, for every word. No condition. -/
namespace Go.Proofs.YtohmnjejchppkaaDoor
open Go.RowKit

theorem unpack_ent (x : Int) (hx : U64 x) : ∃ f, unpackL [2, 4, 2, 4, 4, 32] x 0 = some [x % 4, x / 4 % 16, x / 64 % 4, x / 256 % 16, f, x / 65536 % 4294967296] := by
  refine ⟨getI x 12 4, ?_⟩
  rw [unpackL_cons _ _ _ _ (by decide), unpackL_cons _ _ _ _ (by decide), unpackL_cons _ _ _ _ (by decide), unpackL_cons _ _ _ _ (by decide), unpackL_cons _ _ _ _ (by decide), unpackL_cons _ _ _ _ (by decide), unpackL]
  rw [getI_div _ _ _ hx (by decide), getI_div x (0 + 2) 4 hx (by decide), getI_div x (0 + 2 + 4) 2 hx (by decide), getI_div x (0 + 2 + 4 + 2) 4 hx (by decide), getI_div x (0 + 2 + 4 + 2 + 4 + 4) 32 hx (by decide)]
  have e1 : x / 2 ^ (0 : Int).toNat % 2 ^ (2 : Int).toNat = x % 4 := by
    show x / 1 % 4 = _
    rw [Int.ediv_one]
  have e2 : x / 2 ^ (0 + 2 : Int).toNat % 2 ^ (4 : Int).toNat = x / 4 % 16 := rfl
  have e3 : x / 2 ^ (0 + 2 + 4 : Int).toNat % 2 ^ (2 : Int).toNat = x / 64 % 4 := rfl
  have e4 : x / 2 ^ (0 + 2 + 4 + 2 : Int).toNat % 2 ^ (4 : Int).toNat = x / 256 % 16 := rfl
  have e5 : x / 2 ^ (0 + 2 + 4 + 2 + 4 + 4 : Int).toNat % 2 ^ (32 : Int).toNat = x / 65536 % 4294967296 := rfl
  rw [e1, e2, e3, e4, e5]
  rfl
theorem unpack6 (x A B C D F Y : Int) (ds : List Int) (hx : U64 x) (hu : unpackL ds x 0 = some [A, B, C, D, F, Y]) (v : Value) (W : World) (hl : Lst .i64 W v ds) :
    Calls Tryd.prog 69 #[.int .u64 x, v] W fun e w' => ∃ b off cap, e = .returned (.tuple #[.slice (some ⟨b, off, none⟩) 6 cap, .int .i64 0]) ∧ w'.cell? ⟨b, off, none⟩ = some (.int .u64 A) ∧ w'.cell? ⟨b, off + 1, none⟩ = some (.int .u64 B) ∧ w'.cell? ⟨b, off + 2, none⟩ = some (.int .u64 C) ∧ w'.cell? ⟨b, off + 3, none⟩ = some (.int .u64 D) ∧ w'.cell? ⟨b, off + 5, none⟩ = some (.int .u64 Y) ∧ Below W.heap.size W w' := by
  refine (unpack_any x v ds W hx hl).mono ?_
  rintro e w' ⟨v2, he, hl2, hb⟩
  rw [hu] at he hl2
  rcases hl2 with ⟨h0, _⟩ | ⟨b, off, cap, hv, _, _, hc⟩
  · exact absurd h0 (by simp)
  · exact ⟨b, off, cap, by rw [he, hv]; rfl, hc 0 (by simp), hc 1 (by simp), hc 2 (by simp), hc 3 (by simp), hc 5 (by simp), hb⟩
theorem box5f {w w1 : World} {a b c d f : Value} {t : TypeId} (hb : Below (w.alloc (.cells #[a, b, c, d, f] t)).heap.size (w.alloc (.cells #[a, b, c, d, f] t)) w1) :
    w1.frozen? ⟨w.heap.size, 0, none⟩ = false ∧ w1.frozen? ⟨w.heap.size, 1, none⟩ = false ∧ w1.frozen? ⟨w.heap.size, 2, none⟩ = false ∧ w1.frozen? ⟨w.heap.size, 3, none⟩ = false ∧ w1.frozen? ⟨w.heap.size, 4, none⟩ = false :=
  ⟨box_frozen hb 0, box_frozen hb 1, box_frozen hb 2, box_frozen hb 3, box_frozen hb 4⟩

set_option maxHeartbeats 1000000 in
theorem edec_core (x A B C D F Y : Int) (w : World) (hx : U64 x) (hu : Hid (unpackL [2, 4, 2, 4, 4, 32] x 0 = some [A, B, C, D, F, Y])) (hA : 0 ≤ A ∧ A ≤ 3) (hB : 0 ≤ B ∧ B ≤ 15) (hC : 0 ≤ C ∧ C ≤ 3) (hD : 0 ≤ D ∧ D ≤ 15) (hY : 0 ≤ Y ∧ Y ≤ 4294967295) (h : entB A B C D Y = true) (he : (encE A B C D Y != x) = false) :
    Calls Tryd.prog 56 #[.int .u64 x] w fun e w' => e = .returned (.tuple #[.agg #[.int .i64 A, .int .i64 B, .int .i64 C, .int .i64 D, .int .i64 Y], .int .i64 0]) ∧ Below w.heap.size w w' := by
  have U := Lib.hid (fun v W hl => unpack6 x A B C D F Y [2, 4, 2, 4, 4, 32] hx hu.out v W hl)
  go_enter Tryd.func56, Tryd.ntmps56
  go_wp2_with (first | (go_at_call 70; refine (entryWidths_any _).mono ?_; rintro e w1 ⟨v1, rfl, hl1, hb1⟩) | (go_at_call 69; refine (U.out _ _ hl1).mono ?_; rintro e w2 ⟨b, off, cap, rfl, c0, c1, c2, c3, c5, hb2⟩))
  have hb12 := hb1.trans (hb2.mono hb1.size)
  have hsz : w.heap.size < w2.heap.size := by have := hb12.size; simp at this; omega
  have hbl := World.block_lt_of_cell? _ _ c0
  have wA : IntKind.i64.wrap A = A := IntWalk.i64_in A (by omega)
  have wB : IntKind.i64.wrap B = B := IntWalk.i64_in B (by omega)
  have wC : IntKind.i64.wrap C = C := IntWalk.i64_in C (by omega)
  have wD : IntKind.i64.wrap D = D := IntWalk.i64_in D (by omega)
  have wY : IntKind.i64.wrap Y = Y := IntWalk.i64_in Y (by omega)
  have i0 : (0 : Int) < 6 := by decide
  have i1 : (1 : Int) < 6 := by decide
  have i2 : (2 : Int) < 6 := by decide
  have i3 : (3 : Int) < 6 := by decide
  have i5 : (5 : Int) < 6 := by decide
  go_region_held3 (fun w' => w'.cell? ⟨b, off, none⟩ = some (.int .u64 A) ∧ w'.cell? ⟨b, off + 1, none⟩ = some (.int .u64 B) ∧ w'.cell? ⟨b, off + 2, none⟩ = some (.int .u64 C) ∧ w'.cell? ⟨b, off + 3, none⟩ = some (.int .u64 D) ∧ w'.cell? ⟨b, off + 5, none⟩ = some (.int .u64 Y)) (first | exact ⟨c0, c1, c2, c3, c5⟩ | go_keep) (fail)
  go_wp2_with fail
  refine (eenc_yes A B C D Y _ h).mono ?_
  rintro e w5 ⟨rfl, hb5⟩
  have hN : Below (w2.alloc (.cells #[.int .i64 A, .int .i64 B, .int .i64 C, .int .i64 D, .int .i64 Y] 109)).heap.size (w2.alloc (.cells #[.int .i64 A, .int .i64 B, .int .i64 C, .int .i64 D, .int .i64 Y] 109)) w5 := (Quiet.below ⟨1, rfl⟩).trans (hb5.mono (by simp))
  have hO := hb12.trans ((((Below.refl _ _).alloc (Nat.le_refl _) _).trans (hN.mono (by simp))).mono hb12.size)
  obtain ⟨n0, n1, n2, n3, n4⟩ := box5 hN
  obtain ⟨o0, o1, o2, o3, o4⟩ := box5 hO
  obtain ⟨f0, f1, f2, f3, f4⟩ := box5f hO
  go_wp2
  refine bodyPost_ret (v := .tuple #[.agg #[.int .i64 A, .int .i64 B, .int .i64 C, .int .i64 D, .int .i64 Y], .int .i64 0]) (by simp [results, Tryd.results56, go_sem, o0, o1, o2, o3, o4]) rfl ⟨rfl, ?_⟩
  exact ((((((((Below.refl _ _).alloc (Nat.le_refl _) _).trans (hO.mono (by simp))).setCell (Nat.le_refl _) _).setCell (Nat.le_refl _) _).setCell (Nat.le_refl _) _).setCell (Nat.le_refl _) _).setCell (Nat.le_refl _) _)
set_option maxHeartbeats 1000000 in
theorem edec_part (x A B C D F Y : Int) (w : World) (hx : U64 x) (hu : Hid (unpackL [2, 4, 2, 4, 4, 32] x 0 = some [A, B, C, D, F, Y])) (hA : 0 ≤ A ∧ A ≤ 3) (hB : 0 ≤ B ∧ B ≤ 15) (hC : 0 ≤ C ∧ C ≤ 3) (hD : 0 ≤ D ∧ D ≤ 15) (hY : 0 ≤ Y ∧ Y ≤ 4294967295) (h : entB A B C D Y = true) (he : (encE A B C D Y != x) = true) :
    Calls Tryd.prog 56 #[.int .u64 x] w fun e w' => e = .returned (.tuple #[.agg #[.int .i64 0, .int .i64 0, .int .i64 0, .int .i64 0, .int .i64 0], .int .i64 4]) ∧ Below w.heap.size w w' := by
  have U := Lib.hid (fun v W hl => unpack6 x A B C D F Y [2, 4, 2, 4, 4, 32] hx hu.out v W hl)
  go_enter Tryd.func56, Tryd.ntmps56
  go_wp2_with (first | (go_at_call 70; refine (entryWidths_any _).mono ?_; rintro e w1 ⟨v1, rfl, hl1, hb1⟩) | (go_at_call 69; refine (U.out _ _ hl1).mono ?_; rintro e w2 ⟨b, off, cap, rfl, c0, c1, c2, c3, c5, hb2⟩))
  have hb12 := hb1.trans (hb2.mono hb1.size)
  have hsz : w.heap.size < w2.heap.size := by have := hb12.size; simp at this; omega
  have hbl := World.block_lt_of_cell? _ _ c0
  have wA : IntKind.i64.wrap A = A := IntWalk.i64_in A (by omega)
  have wB : IntKind.i64.wrap B = B := IntWalk.i64_in B (by omega)
  have wC : IntKind.i64.wrap C = C := IntWalk.i64_in C (by omega)
  have wD : IntKind.i64.wrap D = D := IntWalk.i64_in D (by omega)
  have wY : IntKind.i64.wrap Y = Y := IntWalk.i64_in Y (by omega)
  have i0 : (0 : Int) < 6 := by decide
  have i1 : (1 : Int) < 6 := by decide
  have i2 : (2 : Int) < 6 := by decide
  have i3 : (3 : Int) < 6 := by decide
  have i5 : (5 : Int) < 6 := by decide
  go_region_held3 (fun w' => w'.cell? ⟨b, off, none⟩ = some (.int .u64 A) ∧ w'.cell? ⟨b, off + 1, none⟩ = some (.int .u64 B) ∧ w'.cell? ⟨b, off + 2, none⟩ = some (.int .u64 C) ∧ w'.cell? ⟨b, off + 3, none⟩ = some (.int .u64 D) ∧ w'.cell? ⟨b, off + 5, none⟩ = some (.int .u64 Y)) (first | exact ⟨c0, c1, c2, c3, c5⟩ | go_keep) (fail)
  go_wp2_with fail
  refine (eenc_yes A B C D Y _ h).mono ?_
  rintro e w5 ⟨rfl, hb5⟩
  have hN : Below (w2.alloc (.cells #[.int .i64 A, .int .i64 B, .int .i64 C, .int .i64 D, .int .i64 Y] 109)).heap.size (w2.alloc (.cells #[.int .i64 A, .int .i64 B, .int .i64 C, .int .i64 D, .int .i64 Y] 109)) w5 := (Quiet.below ⟨1, rfl⟩).trans (hb5.mono (by simp))
  have hO := hb12.trans ((((Below.refl _ _).alloc (Nat.le_refl _) _).trans (hN.mono (by simp))).mono hb12.size)
  obtain ⟨n0, n1, n2, n3, n4⟩ := box5 hN
  obtain ⟨o0, o1, o2, o3, o4⟩ := box5 hO
  obtain ⟨f0, f1, f2, f3, f4⟩ := box5f hO
  go_wp2
  refine bodyPost_ret (v := .tuple #[.agg #[.int .i64 0, .int .i64 0, .int .i64 0, .int .i64 0, .int .i64 0], .int .i64 4]) (by simp [results, Tryd.results56, go_sem, o0, o1, o2, o3, o4]) rfl ⟨rfl, ?_⟩
  exact ((((((((Below.refl _ _).alloc (Nat.le_refl _) _).trans (hO.mono (by simp))).setCell (Nat.le_refl _) _).setCell (Nat.le_refl _) _).setCell (Nat.le_refl _) _).setCell (Nat.le_refl _) _).setCell (Nat.le_refl _) _)
set_option maxHeartbeats 1000000 in
theorem edec_none (x A B C D F Y : Int) (w : World) (hx : U64 x) (hu : Hid (unpackL [2, 4, 2, 4, 4, 32] x 0 = some [A, B, C, D, F, Y])) (hA : 0 ≤ A ∧ A ≤ 3) (hB : 0 ≤ B ∧ B ≤ 15) (hC : 0 ≤ C ∧ C ≤ 3) (hD : 0 ≤ D ∧ D ≤ 15) (hY : 0 ≤ Y ∧ Y ≤ 4294967295) (h : entB A B C D Y = false) :
    Calls Tryd.prog 56 #[.int .u64 x] w fun e w' => e = .returned (.tuple #[.agg #[.int .i64 0, .int .i64 0, .int .i64 0, .int .i64 0, .int .i64 0], .int .i64 4]) ∧ Below w.heap.size w w' := by
  have U := Lib.hid (fun v W hl => unpack6 x A B C D F Y [2, 4, 2, 4, 4, 32] hx hu.out v W hl)
  go_enter Tryd.func56, Tryd.ntmps56
  go_wp2_with (first | (go_at_call 70; refine (entryWidths_any _).mono ?_; rintro e w1 ⟨v1, rfl, hl1, hb1⟩) | (go_at_call 69; refine (U.out _ _ hl1).mono ?_; rintro e w2 ⟨b, off, cap, rfl, c0, c1, c2, c3, c5, hb2⟩))
  have hb12 := hb1.trans (hb2.mono hb1.size)
  have hsz : w.heap.size < w2.heap.size := by have := hb12.size; simp at this; omega
  have hbl := World.block_lt_of_cell? _ _ c0
  have wA : IntKind.i64.wrap A = A := IntWalk.i64_in A (by omega)
  have wB : IntKind.i64.wrap B = B := IntWalk.i64_in B (by omega)
  have wC : IntKind.i64.wrap C = C := IntWalk.i64_in C (by omega)
  have wD : IntKind.i64.wrap D = D := IntWalk.i64_in D (by omega)
  have wY : IntKind.i64.wrap Y = Y := IntWalk.i64_in Y (by omega)
  have i0 : (0 : Int) < 6 := by decide
  have i1 : (1 : Int) < 6 := by decide
  have i2 : (2 : Int) < 6 := by decide
  have i3 : (3 : Int) < 6 := by decide
  have i5 : (5 : Int) < 6 := by decide
  go_region_held3 (fun w' => w'.cell? ⟨b, off, none⟩ = some (.int .u64 A) ∧ w'.cell? ⟨b, off + 1, none⟩ = some (.int .u64 B) ∧ w'.cell? ⟨b, off + 2, none⟩ = some (.int .u64 C) ∧ w'.cell? ⟨b, off + 3, none⟩ = some (.int .u64 D) ∧ w'.cell? ⟨b, off + 5, none⟩ = some (.int .u64 Y)) (first | exact ⟨c0, c1, c2, c3, c5⟩ | go_keep) (fail)
  go_wp2_with fail
  refine (eenc_no A B C D Y _ h).mono ?_
  rintro e w5 ⟨rfl, hb5⟩
  have hN : Below (w2.alloc (.cells #[.int .i64 A, .int .i64 B, .int .i64 C, .int .i64 D, .int .i64 Y] 109)).heap.size (w2.alloc (.cells #[.int .i64 A, .int .i64 B, .int .i64 C, .int .i64 D, .int .i64 Y] 109)) w5 := (Quiet.below ⟨1, rfl⟩).trans (hb5.mono (by simp))
  have hO := hb12.trans ((((Below.refl _ _).alloc (Nat.le_refl _) _).trans (hN.mono (by simp))).mono hb12.size)
  obtain ⟨n0, n1, n2, n3, n4⟩ := box5 hN
  obtain ⟨o0, o1, o2, o3, o4⟩ := box5 hO
  obtain ⟨f0, f1, f2, f3, f4⟩ := box5f hO
  go_wp2
  refine bodyPost_ret (v := .tuple #[.agg #[.int .i64 0, .int .i64 0, .int .i64 0, .int .i64 0, .int .i64 0], .int .i64 4]) (by simp [results, Tryd.results56, go_sem, o0, o1, o2, o3, o4]) rfl ⟨rfl, ?_⟩
  exact ((((((((Below.refl _ _).alloc (Nat.le_refl _) _).trans (hO.mono (by simp))).setCell (Nat.le_refl _) _).setCell (Nat.le_refl _) _).setCell (Nat.le_refl _) _).setCell (Nat.le_refl _) _).setCell (Nat.le_refl _) _)

/-- Is the word an entry's? -/
def edecOk (x : Int) : Bool := entB (x % 4) (x / 4 % 16) (x / 64 % 4) (x / 256 % 16) (x / 65536 % 4294967296) && encE (x % 4) (x / 4 % 16) (x / 64 % 4) (x / 256 % 16) (x / 65536 % 4294967296) == x
theorem edec_yes (x : Int) (w : World) (hx : U64 x) (h : edecOk x = true) :
    Calls Tryd.prog 56 #[.int .u64 x] w fun e w' => e = .returned (.tuple #[.agg #[.int .i64 (x % 4), .int .i64 (x / 4 % 16), .int .i64 (x / 64 % 4), .int .i64 (x / 256 % 16), .int .i64 (x / 65536 % 4294967296)], .int .i64 0]) ∧ Below w.heap.size w w' := by
  obtain ⟨f, hu⟩ := unpack_ent x hx
  unfold edecOk at h
  rw [Bool.and_eq_true, beq_iff_eq] at h
  exact edec_core x _ _ _ _ f _ w hx hu (by omega) (by omega) (by omega) (by omega) (by omega) h.1 (by rw [h.2]; simp)
theorem edec_no (x : Int) (w : World) (hx : U64 x) (h : edecOk x = false) :
    Calls Tryd.prog 56 #[.int .u64 x] w fun e w' => e = .returned (.tuple #[.agg #[.int .i64 0, .int .i64 0, .int .i64 0, .int .i64 0, .int .i64 0], .int .i64 4]) ∧ Below w.heap.size w w' := by
  obtain ⟨f, hu⟩ := unpack_ent x hx
  unfold edecOk at h
  cases hb : entB (x % 4) (x / 4 % 16) (x / 64 % 4) (x / 256 % 16) (x / 65536 % 4294967296) with
  | true =>
    rw [hb, Bool.true_and] at h
    exact edec_part x _ _ _ _ f _ w hx hu (by omega) (by omega) (by omega) (by omega) (by omega) hb (by rw [bne, h]; rfl)
  | false => exact edec_none x _ _ _ _ f _ w hx hu (by omega) (by omega) (by omega) (by omega) (by omega) hb
end Go.Proofs.YtohmnjejchppkaaDoor
/- The walks of the laws on headers that use the program alone: headed, Words, HeaderBack. No condition but that each number fits its kind. -/
namespace Go.Proofs.YtohmnjejchppkaaDoor
open Go.RowKit

set_option maxHeartbeats 400000 in
theorem words_yes (c k l : Int) (w : World) (h : headB c k l = true) :
    Calls Tryd.prog 36 #[.agg #[.int .i64 c, .int .i64 k, .int .i64 l]] w fun e w' => e = .returned (.int .i64 (l + 1)) ∧ Below w.heap.size w w' := by
  have hbd := headB_bd h
  go_enter Tryd.func36, Tryd.ntmps36
  go_wp2_with (go_at_call 47; refine (headValid_any _ _ _ _).mono ?_; rintro e w1 ⟨rfl, hb⟩; have c0 := box_cell hb 0; have c1 := box_cell hb 1; have c2 := box_cell hb 2; simp only [List.getElem?_toArray, List.getElem?_cons_zero, List.getElem?_cons_succ] at c0 c1 c2)
  go_ret
  exact ⟨ret_int (by omega), ((Below.refl _ _).alloc (Nat.le_refl _) _).trans (hb.mono (by simp))⟩
set_option maxHeartbeats 400000 in
theorem words_no (c k l : Int) (w : World) (h : headB c k l = false) :
    Calls Tryd.prog 36 #[.agg #[.int .i64 c, .int .i64 k, .int .i64 l]] w fun e w' => e = .returned (.int .i64 0) ∧ Below w.heap.size w w' := by
  go_enter Tryd.func36, Tryd.ntmps36
  go_wp2_with (go_at_call 47; refine (headValid_any _ _ _ _).mono ?_; rintro e w1 ⟨rfl, hb⟩)
  go_ret
  exact ⟨rfl, ((Below.refl _ _).alloc (Nat.le_refl _) _).trans (hb.mono (by simp))⟩

theorem encH_U64 {c k l : Int} (h : headB c k l = true) : U64 (encH c k l) := by
  have := headB_bd h
  unfold encH
  exact ⟨by omega, by omega⟩
theorem encE_U64 {k c s o y : Int} (h : entB k c s o y = true) : U64 (encE k c s o y) := by
  have := entB_bd h
  unfold encE
  exact ⟨by omega, by omega⟩
theorem dec_of_enc {c k l : Int} (h : headB c k l = true) : encH c k l / 256 % 256 = c ∧ encH c k l % 256 = k ∧ encH c k l / 65536 % 256 = l ∧ decOk (encH c k l) = true := by
  have hb := headB_bd h
  have e1 : encH c k l / 256 % 256 = c := by unfold encH; omega
  have e2 : encH c k l % 256 = k := by unfold encH; omega
  have e3 : encH c k l / 65536 % 256 = l := by unfold encH; omega
  refine ⟨e1, e2, e3, ?_⟩
  unfold decOk
  rw [e1, e2, e3, h]
  simp
theorem edec_of_enc {k c s o y : Int} (h : entB k c s o y = true) : encE k c s o y % 4 = k ∧ encE k c s o y / 4 % 16 = c ∧ encE k c s o y / 64 % 4 = s ∧ encE k c s o y / 256 % 16 = o ∧ encE k c s o y / 65536 % 4294967296 = y ∧ edecOk (encE k c s o y) = true := by
  have hb := entB_bd h
  have e1 : encE k c s o y % 4 = k := by unfold encE; omega
  have e2 : encE k c s o y / 4 % 16 = c := by unfold encE; omega
  have e3 : encE k c s o y / 64 % 4 = s := by unfold encE; omega
  have e4 : encE k c s o y / 256 % 16 = o := by unfold encE; omega
  have e5 : encE k c s o y / 65536 % 4294967296 = y := by unfold encE; omega
  refine ⟨e1, e2, e3, e4, e5, ?_⟩
  unfold edecOk
  rw [e1, e2, e3, e4, e5, h]
  simp

/-! boxes of one's own, read in a world that has only grown -/
def HeadAt (W : World) (b : Nat) (c k l : Int) : Prop := W.cell? ⟨b, 0, none⟩ = some (.int .i64 c) ∧ W.cell? ⟨b, 1, none⟩ = some (.int .i64 k) ∧ W.cell? ⟨b, 2, none⟩ = some (.int .i64 l)
def EntAt (W : World) (b : Nat) (k c s o y : Int) : Prop := W.cell? ⟨b, 0, none⟩ = some (.int .i64 k) ∧ W.cell? ⟨b, 1, none⟩ = some (.int .i64 c) ∧ W.cell? ⟨b, 2, none⟩ = some (.int .i64 s) ∧ W.cell? ⟨b, 3, none⟩ = some (.int .i64 o) ∧ W.cell? ⟨b, 4, none⟩ = some (.int .i64 y)
theorem HeadAt.lt {W : World} {b : Nat} {c k l : Int} (h : HeadAt W b c k l) : b < W.heap.size := World.block_lt_of_cell? W ⟨b, 0, none⟩ h.1
theorem EntAt.lt {W : World} {b : Nat} {k c s o y : Int} (h : EntAt W b k c s o y) : b < W.heap.size := World.block_lt_of_cell? W ⟨b, 0, none⟩ h.1
theorem HeadAt.below {W W' : World} {b : Nat} {c k l : Int} (h : HeadAt W b c k l) (hb : Below W.heap.size W W') : HeadAt W' b c k l :=
  ⟨(hb.cell (p := ⟨b, 0, none⟩) h.lt).trans h.1, (hb.cell (p := ⟨b, 1, none⟩) h.lt).trans h.2.1, (hb.cell (p := ⟨b, 2, none⟩) h.lt).trans h.2.2⟩
theorem EntAt.below {W W' : World} {b : Nat} {k c s o y : Int} (h : EntAt W b k c s o y) (hb : Below W.heap.size W W') : EntAt W' b k c s o y :=
  ⟨(hb.cell (p := ⟨b, 0, none⟩) h.lt).trans h.1, (hb.cell (p := ⟨b, 1, none⟩) h.lt).trans h.2.1, (hb.cell (p := ⟨b, 2, none⟩) h.lt).trans h.2.2.1, (hb.cell (p := ⟨b, 3, none⟩) h.lt).trans h.2.2.2.1, (hb.cell (p := ⟨b, 4, none⟩) h.lt).trans h.2.2.2.2⟩
theorem headAt_new (W : World) (c k l : Int) (t : TypeId) : HeadAt (W.alloc (.cells #[.int .i64 c, .int .i64 k, .int .i64 l] t)) W.heap.size c k l := by
  refine ⟨?_, ?_, ?_⟩ <;> (rw [World.cell?_alloc_new]; rfl)
theorem entAt_new (W : World) (k c s o y : Int) (t : TypeId) : EntAt (W.alloc (.cells #[.int .i64 k, .int .i64 c, .int .i64 s, .int .i64 o, .int .i64 y] t)) W.heap.size k c s o y := by
  refine ⟨?_, ?_, ?_, ?_, ?_⟩ <;> (rw [World.cell?_alloc_new]; rfl)
theorem HeadAt.alloc {W : World} {b : Nat} {c k l : Int} (h : HeadAt W b c k l) (o : Obj) : HeadAt (W.alloc o) b c k l := h.below ((Below.refl _ _).alloc (Nat.le_refl _) _)
theorem EntAt.alloc {W : World} {b : Nat} {k c s o y : Int} (h : EntAt W b k c s o y) (ob : Obj) : EntAt (W.alloc ob) b k c s o y := h.below ((Below.refl _ _).alloc (Nat.le_refl _) _)

/-! the same contracts, whatever is given -/
def encV (c k l : Int) : Int := if headB c k l then encH c k l else 0
def encF (c k l : Int) : Int := if headB c k l then 0 else 4
def eencV (k c s o y : Int) : Int := if entB k c s o y then encE k c s o y else 0
def eencF (k c s o y : Int) : Int := if entB k c s o y then 0 else 4
def decD (b : Bool) (n : Int) : Int := if b then n else 0
def decF (b : Bool) : Int := if b then 0 else 4
theorem enc_any (c k l : Int) (w : World) :
    Calls Tryd.prog 34 #[.agg #[.int .i64 c, .int .i64 k, .int .i64 l]] w fun e w' => e = .returned (.tuple #[.int .u64 (encV c k l), .int .i64 (encF c k l)]) ∧ Below w.heap.size w w' := by
  unfold encV encF
  cases h : headB c k l with
  | true => exact enc_yes c k l w h
  | false => exact enc_no c k l w h
theorem eenc_any (k c s o y : Int) (w : World) :
    Calls Tryd.prog 71 #[.agg #[.int .i64 k, .int .i64 c, .int .i64 s, .int .i64 o, .int .i64 y]] w fun e w' => e = .returned (.tuple #[.int .u64 (eencV k c s o y), .int .i64 (eencF k c s o y)]) ∧ Below w.heap.size w w' := by
  unfold eencV eencF
  cases h : entB k c s o y with
  | true => exact eenc_yes k c s o y w h
  | false => exact eenc_no k c s o y w h
theorem dec_any (x : Int) (w : World) (hx : U64 x) :
    Calls Tryd.prog 59 #[.int .u64 x] w fun e w' => e = .returned (.tuple #[.agg #[.int .i64 (decD (decOk x) (x / 256 % 256)), .int .i64 (decD (decOk x) (x % 256)), .int .i64 (decD (decOk x) (x / 65536 % 256))], .int .i64 (decF (decOk x))]) ∧ Below w.heap.size w w' := by
  unfold decD decF
  cases h : decOk x with
  | true => exact dec_yes x w hx h
  | false => exact dec_no x w hx h
theorem edec_any (x : Int) (w : World) (hx : U64 x) :
    Calls Tryd.prog 56 #[.int .u64 x] w fun e w' => e = .returned (.tuple #[.agg #[.int .i64 (decD (edecOk x) (x % 4)), .int .i64 (decD (edecOk x) (x / 4 % 16)), .int .i64 (decD (edecOk x) (x / 64 % 4)), .int .i64 (decD (edecOk x) (x / 256 % 16)), .int .i64 (decD (edecOk x) (x / 65536 % 4294967296))], .int .i64 (decF (edecOk x))]) ∧ Below w.heap.size w w' := by
  unfold decD decF
  cases h : edecOk x with
  | true => exact edec_yes x w hx h
  | false => exact edec_no x w hx h
theorem enc_of_dec {x : Int} (h : decOk x = true) : headB (decD (decOk x) (x / 256 % 256)) (decD (decOk x) (x % 256)) (decD (decOk x) (x / 65536 % 256)) = true ∧ encH (decD (decOk x) (x / 256 % 256)) (decD (decOk x) (x % 256)) (decD (decOk x) (x / 65536 % 256)) = x := by
  rw [h]
  unfold decOk at h
  rw [Bool.and_eq_true, beq_iff_eq] at h
  exact h
theorem eenc_of_dec {x : Int} (h : edecOk x = true) : entB (decD (edecOk x) (x % 4)) (decD (edecOk x) (x / 4 % 16)) (decD (edecOk x) (x / 64 % 4)) (decD (edecOk x) (x / 256 % 16)) (decD (edecOk x) (x / 65536 % 4294967296)) = true ∧
    encE (decD (edecOk x) (x % 4)) (decD (edecOk x) (x / 4 % 16)) (decD (edecOk x) (x / 64 % 4)) (decD (edecOk x) (x / 256 % 16)) (decD (edecOk x) (x / 65536 % 4294967296)) = x := by
  rw [h]
  unfold edecOk at h
  rw [Bool.and_eq_true, beq_iff_eq] at h
  exact h
theorem decF_yes {b : Bool} (h : b = true) : (decF b == 0) = true := by subst h; rfl
theorem decF_no {b : Bool} (h : b = false) : (decF b == 0) = false := by subst h; rfl
end Go.Proofs.YtohmnjejchppkaaDoor
/- What the document's functions on headers return. No condition but that each number fits its kind. -/
namespace Go.Proofs.YtohmnjejchppkaaDoor
open Go.RowKit
set_option linter.unusedVariables false

theorem headB_eq1 (c l : Int) : headB c 1 l = decide (0 ≤ c ∧ c ≤ 15 ∧ 0 ≤ l ∧ l ≤ 15) := by
  unfold headB inB
  rw [if_pos rfl, ← Bool.decide_and]
  exact decide_eq_decide.2 (by omega)
theorem headB_eq23 (c k l : Int) (hk : k = 2 ∨ k = 3) : headB c k l = decide (c = 0 ∧ 0 ≤ l ∧ l ≤ 255) := by
  unfold headB inB
  rw [if_neg (by omega), if_pos hk, ← Bool.decide_and]

def sgn (j : Nat) : Int := 165 * 256 ^ j
def wordsV (c k l : Int) : Int := if headB c k l then l + 1 else 0
theorem words_anyRhead (c k l : Int) (w : World) :
    Calls Tryd.prog 36 #[.agg #[.int .i64 c, .int .i64 k, .int .i64 l]] w fun e w' => e = .returned (.int .i64 (wordsV c k l)) ∧ Below w.heap.size w w' := by
  unfold wordsV
  cases h : headB c k l with
  | true => exact words_yes c k l w h
  | false => exact words_no c k l w h

end Go.Proofs.YtohmnjejchppkaaDoor
/- What the document's answers of layer 1 return: Power, Bit, Field, Get, Put. No condition but that each number fits its kind. -/
namespace Go.Proofs.YtohmnjejchppkaaDoor
open Go.RowKit

def powI (i : Int) : Int := ((2 ^ i.toNat : Nat) : Int)
theorem powI_U64 (i : Int) (h : i ≤ 63) : U64 (powI i) := by
  refine U64.nat _ ?_
  exact Nat.pow_lt_pow_right (by decide) (by omega)
theorem powI_succ (j : Nat) (h : j < 63) : IntKind.u64.wrap (powI j * 2) = powI (j + 1) := by
  have h1 : 2 ^ (j + 1) < 2 ^ 64 := Nat.pow_lt_pow_right (by decide) (by omega)
  have e : powI (j + 1) = ((2 ^ (j + 1) : Nat) : Int) := rfl
  rw [e, IntKind.wrap_u64]
  unfold powI
  rw [Int.toNat_natCast]
  have : (2 : Nat) ^ (j + 1) = 2 ^ j * 2 := Nat.pow_succ ..
  omega
/-- bit i of x, as a number -/
def bitI (x i : Int) : Int := (((x.toNat.testBit i.toNat).toNat : Nat) : Int)
theorem bitI_eq (x : Int) (i : Int) (hx : U64 x) : x / powI i % 2 = bitI x i := by
  obtain ⟨X, rfl⟩ := Int.eq_ofNat_of_zero_le hx.1
  unfold powI bitI
  rw [Int.toNat_natCast, Nat.toNat_testBit, ← Int.natCast_ediv]
  rfl
theorem bitI_01 (x i : Int) : bitI x i = 0 ∨ bitI x i = 1 := by
  unfold bitI
  cases x.toNat.testBit i.toNat <;> simp
theorem powI_pos (i : Int) : 1 ≤ powI i := by
  unfold powI
  have := Nat.two_pow_pos i.toNat
  omega
/-! a word put together bit by bit -/
theorem getN_succ (x a j : Nat) : getN x a (j + 1) = getN x a j + (x.testBit (a + j)).toNat * 2 ^ j := by
  unfold getN
  rw [Nat.mod_pow_succ, ← Nat.toNat_testBit, Nat.testBit_shiftRight, Nat.mul_comm]
theorem sum_step (x : Int) (a j : Nat) (hj : j < 64) : IntKind.u64.wrap (bitI x (a + j) * powI j) = bitI x (a + j) * powI j ∧ IntKind.u64.wrap (getI x a j + bitI x (a + j) * powI j) = getI x a (j + 1 : Nat) := by
  have h1 := getN_succ x.toNat a j
  have h2 := getN_lt x.toNat a (j + 1)
  have h3 : 2 ^ (j + 1) ≤ 2 ^ 64 := Nat.pow_le_pow_right (by decide) (by omega)
  have e1 : bitI x (a + j) * powI j = (((x.toNat.testBit (a + j)).toNat * 2 ^ j : Nat) : Int) := by
    unfold bitI powI
    rw [show ((a : Int) + (j : Int)).toNat = a + j by omega, Int.toNat_natCast, Int.natCast_mul]
  have e2 : getI x a j = ((getN x.toNat a j : Nat) : Int) := by
    unfold getI
    rw [Int.toNat_natCast, Int.toNat_natCast]
  have e3 : getI x a (j + 1 : Nat) = ((getN x.toNat a (j + 1) : Nat) : Int) := by
    unfold getI
    rw [Int.toNat_natCast, Int.toNat_natCast]
  rw [e3, e1, e2, IntKind.wrap_u64, IntKind.wrap_u64]
  generalize (x.toNat.testBit (a + j)).toNat * 2 ^ j = T at *
  omega

end Go.Proofs.YtohmnjejchppkaaDoor
