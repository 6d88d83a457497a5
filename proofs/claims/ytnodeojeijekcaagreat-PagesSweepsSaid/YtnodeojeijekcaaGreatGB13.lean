/- Texts of this seat, one behind the other: each says at its head what it holds. No condition of its own. -/
import Derived.Test.YtnodeojeijekcaaGreatGB12
/- What the functions of package header on entries return. No condition but that each number fits its kind. -/
namespace Go.Proofs.YtnodeojeijekcaaGreat
open Go.RowKit

def holdsB (k : Int) : Bool := k == 1 || k == 2
def statB (k s o : Int) : Bool := if s = 0 then o == 0 else if s = 1 then k == 1 && inB o 0 5 else if s = 2 then holdsB k && (inB o 0 5 || o == 15) else false
def kindBEnt (k c s o y : Int) : Bool := if k = 0 then (c == 0 && s == 0 && o == 0 && y == 0) else if k = 1 then inB c 0 7 else if k = 2 then inB c 1 4 else if k = 3 then inB c 1 3 && y == 0 else false
def entB (k c s o y : Int) : Bool := inB y 0 4294967295 && statB k s o && kindBEnt k c s o y
def encE (k c s o y : Int) : Int := y * 65536 + o * 256 + s * 64 + c * 4 + k

set_option maxHeartbeats 400000 in
theorem holds_any (k c s o y : Int) (w : World) :
    Calls Tryz.prog 88 #[.agg #[.int .i64 k, .int .i64 c, .int .i64 s, .int .i64 o, .int .i64 y]] w fun e w' => e = .returned (.bool (holdsB k)) ∧ w.alloc (.cells #[.int .i64 k, .int .i64 c, .int .i64 s, .int .i64 o, .int .i64 y] 83) = w' := by
  cases h1 : (k == 1) with
  | true =>
    go_enter Tryz.func88, Tryz.ntmps88
    go_wp2
    go_ret
    exact ⟨ret_bool (by unfold holdsB; rw [h1]; rfl), rfl⟩
  | false =>
    go_enter Tryz.func88, Tryz.ntmps88
    go_wp2
    go_ret
    exact ⟨ret_bool (by unfold holdsB; rw [h1]; rfl), rfl⟩

set_option maxHeartbeats 400000 in
theorem stated_0 (k c o y : Int) (w : World) :
    Calls Tryz.prog 96 #[.agg #[.int .i64 k, .int .i64 c, .int .i64 0, .int .i64 o, .int .i64 y]] w fun e w' => e = .returned (.bool (statB k 0 o)) ∧ Below w.heap.size w w' := by
  go_enter Tryz.func96, Tryz.ntmps96
  go_wp2_with (go_at_call 95; refine (within_anyHead _ _ _ _).mono ?_; rintro e w1 ⟨rfl, n1, rfl⟩)
  go_ret
  exact ⟨ret_bool (by unfold statB; rw [if_pos rfl]), below_drewN ((Below.refl _ _).alloc (Nat.le_refl _) _) _⟩
set_option maxHeartbeats 400000 in
theorem stated_1 (k c o y : Int) (w : World) :
    Calls Tryz.prog 96 #[.agg #[.int .i64 k, .int .i64 c, .int .i64 1, .int .i64 o, .int .i64 y]] w fun e w' => e = .returned (.bool (statB k 1 o)) ∧ Below w.heap.size w w' := by
  have hs : statB k 1 o = ((k == 1) && inB o 0 5) := by unfold statB; rw [if_neg (by decide), if_pos rfl]
  rw [hs]
  clear hs
  cases h1 : (k == 1) <;> cases h2 : inB o 0 5
  all_goals
    go_enter Tryz.func96, Tryz.ntmps96
    go_wp2_with (go_at_call 95; refine (within_anyHead _ _ _ _).mono ?_; rintro e w1 ⟨rfl, n1, rfl⟩)
    go_ret
    exact ⟨rfl, below_drewN ((Below.refl _ _).alloc (Nat.le_refl _) _) _⟩
set_option maxHeartbeats 400000 in
theorem stated_2 (k c o y : Int) (w : World) :
    Calls Tryz.prog 96 #[.agg #[.int .i64 k, .int .i64 c, .int .i64 2, .int .i64 o, .int .i64 y]] w fun e w' => e = .returned (.bool (statB k 2 o)) ∧ Below w.heap.size w w' := by
  have hs : statB k 2 o = (holdsB k && (inB o 0 5 || o == 15)) := by unfold statB; rw [if_neg (by decide), if_neg (by decide), if_pos rfl]
  rw [hs]
  clear hs
  cases h1 : holdsB k <;> cases h2 : inB o 0 5
  all_goals
    go_enter Tryz.func96, Tryz.ntmps96
    go_wp2_with (first | (go_at_call 95; refine (within_anyHead _ _ _ _).mono ?_; rintro e w1 ⟨rfl, n1, rfl⟩) | (go_at_call 88; refine (holds_any _ _ _ _ _ _).mono ?_; rintro e w2 ⟨rfl, rfl⟩))
  all_goals
    go_ret
    refine ⟨rfl, ?_⟩
    first
      | exact below_drewN (((Below.refl _ _).alloc (Nat.le_refl _) _).alloc (by simp) _) _
      | exact (below_drewN ((Below.refl _ _).alloc (Nat.le_refl _) _) _).alloc (by simp) _
set_option maxHeartbeats 400000 in
theorem stated_no (k c s o y : Int) (w : World) (h0 : (s == 0) = false) (h1 : (s == 1) = false) (h2 : (s == 2) = false) :
    Calls Tryz.prog 96 #[.agg #[.int .i64 k, .int .i64 c, .int .i64 s, .int .i64 o, .int .i64 y]] w fun e w' => e = .returned (.bool false) ∧ Below w.heap.size w w' := by
  go_enter Tryz.func96, Tryz.ntmps96
  go_wp2_with (go_at_call 95; refine (within_anyHead _ _ _ _).mono ?_; rintro e w1 ⟨rfl, n1, rfl⟩)
  go_ret
  exact ⟨rfl, below_drewN ((Below.refl _ _).alloc (Nat.le_refl _) _) _⟩
theorem stated_any (k c s o y : Int) (w : World) :
    Calls Tryz.prog 96 #[.agg #[.int .i64 k, .int .i64 c, .int .i64 s, .int .i64 o, .int .i64 y]] w fun e w' => e = .returned (.bool (statB k s o)) ∧ Below w.heap.size w w' := by
  by_cases h0 : s = 0
  · subst h0; exact stated_0 k c o y w
  · by_cases h1 : s = 1
    · subst h1; exact stated_1 k c o y w
    · by_cases h2 : s = 2
      · subst h2; exact stated_2 k c o y w
      · have hs : statB k s o = false := by unfold statB; rw [if_neg h0, if_neg h1, if_neg h2]
        rw [hs]
        exact stated_no k c s o y w (beq_eq_false_iff_ne.2 h0) (beq_eq_false_iff_ne.2 h1) (beq_eq_false_iff_ne.2 h2)

/-- Cells of a box of five. -/
theorem box5 {w w1 : World} {a b c d f : Value} {t : TypeId} (hb : Below (w.alloc (.cells #[a, b, c, d, f] t)).heap.size (w.alloc (.cells #[a, b, c, d, f] t)) w1) :
    w1.cell? ⟨w.heap.size, 0, none⟩ = some a ∧ w1.cell? ⟨w.heap.size, 1, none⟩ = some b ∧ w1.cell? ⟨w.heap.size, 2, none⟩ = some c ∧ w1.cell? ⟨w.heap.size, 3, none⟩ = some d ∧ w1.cell? ⟨w.heap.size, 4, none⟩ = some f :=
  ⟨box_cell hb 0, box_cell hb 1, box_cell hb 2, box_cell hb 3, box_cell hb 4⟩

set_option maxHeartbeats 400000 in
theorem entValid_early (k c s o y : Int) (w : World) (h : (inB y 0 4294967295 && statB k s o) = false) :
    Calls Tryz.prog 87 #[.agg #[.int .i64 k, .int .i64 c, .int .i64 s, .int .i64 o, .int .i64 y]] w fun e w' => e = .returned (.bool false) ∧ Below w.heap.size w w' := by
  cases h1 : inB y 0 4294967295 with
  | false =>
    clear h
    go_enter Tryz.func87, Tryz.ntmps87
    go_wp2_with (first | (go_at_call 95; refine (within_anyHead _ _ _ _).mono ?_; rintro e w1 ⟨rfl, n1, rfl⟩) | (go_at_call 96; refine (stated_any _ _ _ _ _ _).mono ?_; rintro e w2 ⟨rfl, hb⟩))
    go_ret
    exact ⟨rfl, below_drewN ((Below.refl _ _).alloc (Nat.le_refl _) _) _⟩
  | true =>
    rw [h1, Bool.true_and] at h
    go_enter Tryz.func87, Tryz.ntmps87
    go_wp2_with (first | (go_at_call 95; refine (within_anyHead _ _ _ _).mono ?_; rintro e w1 ⟨rfl, n1, rfl⟩) | (go_at_call 96; refine (stated_any _ _ _ _ _ _).mono ?_; rintro e w2 ⟨rfl, hb⟩))
    go_ret
    exact ⟨rfl, (below_drewN ((Below.refl _ _).alloc (Nat.le_refl _) _) _).trans (hb.mono (by simp))⟩

set_option maxHeartbeats 1000000 in
theorem entValid_0 (c s o y : Int) (w : World) (h1 : inB y 0 4294967295 = true) (h2 : statB 0 s o = true) :
    Calls Tryz.prog 87 #[.agg #[.int .i64 0, .int .i64 c, .int .i64 s, .int .i64 o, .int .i64 y]] w fun e w' => e = .returned (.bool (c == 0 && s == 0 && o == 0 && y == 0)) ∧ Below w.heap.size w w' := by
  by_cases hc : c = 0
  · subst hc
    by_cases hs : s = 0
    · subst hs
      by_cases ho : o = 0
      · subst ho
        by_cases hy : y = 0
        · subst hy
          go_enter Tryz.func87, Tryz.ntmps87
          go_wp2_with (first | (go_at_call 95; refine (within_anyHead _ _ _ _).mono ?_; rintro e w1 ⟨rfl, n1, rfl⟩) | (go_at_call 96; refine (stated_any _ _ _ _ _ _).mono ?_; rintro e w2 ⟨rfl, hb⟩; obtain ⟨c0, c1, c2, c3, c4⟩ := box5 ((Quiet.below (Quiet.drew (n := n1))).trans (hb.mono (by simp)))))
          go_ret
          exact ⟨rfl, (below_drewN ((Below.refl _ _).alloc (Nat.le_refl _) _) _).trans (hb.mono (by simp))⟩
        · rw [show (y == 0) = false from beq_eq_false_iff_ne.2 hy]
          go_enter Tryz.func87, Tryz.ntmps87
          go_wp2_with (first | (go_at_call 95; refine (within_anyHead _ _ _ _).mono ?_; rintro e w1 ⟨rfl, n1, rfl⟩) | (go_at_call 96; refine (stated_any _ _ _ _ _ _).mono ?_; rintro e w2 ⟨rfl, hb⟩; obtain ⟨c0, c1, c2, c3, c4⟩ := box5 ((Quiet.below (Quiet.drew (n := n1))).trans (hb.mono (by simp)))))
          go_ret
          exact ⟨rfl, (below_drewN ((Below.refl _ _).alloc (Nat.le_refl _) _) _).trans (hb.mono (by simp))⟩
      · rw [show (o == 0) = false from beq_eq_false_iff_ne.2 ho]
        go_enter Tryz.func87, Tryz.ntmps87
        go_wp2_with (first | (go_at_call 95; refine (within_anyHead _ _ _ _).mono ?_; rintro e w1 ⟨rfl, n1, rfl⟩) | (go_at_call 96; refine (stated_any _ _ _ _ _ _).mono ?_; rintro e w2 ⟨rfl, hb⟩; obtain ⟨c0, c1, c2, c3, c4⟩ := box5 ((Quiet.below (Quiet.drew (n := n1))).trans (hb.mono (by simp)))))
        go_ret
        exact ⟨rfl, (below_drewN ((Below.refl _ _).alloc (Nat.le_refl _) _) _).trans (hb.mono (by simp))⟩
    · rw [show (s == 0) = false from beq_eq_false_iff_ne.2 hs]
      go_enter Tryz.func87, Tryz.ntmps87
      go_wp2_with (first | (go_at_call 95; refine (within_anyHead _ _ _ _).mono ?_; rintro e w1 ⟨rfl, n1, rfl⟩) | (go_at_call 96; refine (stated_any _ _ _ _ _ _).mono ?_; rintro e w2 ⟨rfl, hb⟩; obtain ⟨c0, c1, c2, c3, c4⟩ := box5 ((Quiet.below (Quiet.drew (n := n1))).trans (hb.mono (by simp)))))
      go_ret
      exact ⟨rfl, (below_drewN ((Below.refl _ _).alloc (Nat.le_refl _) _) _).trans (hb.mono (by simp))⟩
  · rw [show (c == 0) = false from beq_eq_false_iff_ne.2 hc]
    go_enter Tryz.func87, Tryz.ntmps87
    go_wp2_with (first | (go_at_call 95; refine (within_anyHead _ _ _ _).mono ?_; rintro e w1 ⟨rfl, n1, rfl⟩) | (go_at_call 96; refine (stated_any _ _ _ _ _ _).mono ?_; rintro e w2 ⟨rfl, hb⟩; obtain ⟨c0, c1, c2, c3, c4⟩ := box5 ((Quiet.below (Quiet.drew (n := n1))).trans (hb.mono (by simp)))))
    go_ret
    exact ⟨rfl, (below_drewN ((Below.refl _ _).alloc (Nat.le_refl _) _) _).trans (hb.mono (by simp))⟩
set_option maxHeartbeats 400000 in
theorem entValid_1 (c s o y : Int) (w : World) (h1 : inB y 0 4294967295 = true) (h2 : statB 1 s o = true) :
    Calls Tryz.prog 87 #[.agg #[.int .i64 1, .int .i64 c, .int .i64 s, .int .i64 o, .int .i64 y]] w fun e w' => e = .returned (.bool (inB c 0 7)) ∧ Below w.heap.size w w' := by
  go_enter Tryz.func87, Tryz.ntmps87
  go_wp2_with (first | (go_at_call 95; (with_reducible refine (within_anyHead y _ _ _).mono ?_); rintro e w1 ⟨rfl, n1, rfl⟩) | (go_at_call 95; refine (within_anyHead _ _ _ _).mono ?_; rintro e w3 ⟨rfl, n3, rfl⟩) | (go_at_call 96; refine (stated_any _ _ _ _ _ _).mono ?_; rintro e w2 ⟨rfl, hb⟩; obtain ⟨c0, c1, c2, c3, c4⟩ := box5 ((Quiet.below (Quiet.drew (n := n1))).trans (hb.mono (by simp)))))
  go_ret
  exact ⟨rfl, below_drewN ((below_drewN ((Below.refl _ _).alloc (Nat.le_refl _) _) _).trans (hb.mono (by simp))) _⟩
set_option maxHeartbeats 400000 in
theorem entValid_2 (c s o y : Int) (w : World) (h1 : inB y 0 4294967295 = true) (h2 : statB 2 s o = true) :
    Calls Tryz.prog 87 #[.agg #[.int .i64 2, .int .i64 c, .int .i64 s, .int .i64 o, .int .i64 y]] w fun e w' => e = .returned (.bool (inB c 1 4)) ∧ Below w.heap.size w w' := by
  go_enter Tryz.func87, Tryz.ntmps87
  go_wp2_with (first | (go_at_call 95; (with_reducible refine (within_anyHead y _ _ _).mono ?_); rintro e w1 ⟨rfl, n1, rfl⟩) | (go_at_call 95; refine (within_anyHead _ _ _ _).mono ?_; rintro e w3 ⟨rfl, n3, rfl⟩) | (go_at_call 96; refine (stated_any _ _ _ _ _ _).mono ?_; rintro e w2 ⟨rfl, hb⟩; obtain ⟨c0, c1, c2, c3, c4⟩ := box5 ((Quiet.below (Quiet.drew (n := n1))).trans (hb.mono (by simp)))))
  go_ret
  exact ⟨rfl, below_drewN ((below_drewN ((Below.refl _ _).alloc (Nat.le_refl _) _) _).trans (hb.mono (by simp))) _⟩
set_option maxHeartbeats 400000 in
theorem entValid_3 (c s o y : Int) (w : World) (h1 : inB y 0 4294967295 = true) (h2 : statB 3 s o = true) :
    Calls Tryz.prog 87 #[.agg #[.int .i64 3, .int .i64 c, .int .i64 s, .int .i64 o, .int .i64 y]] w fun e w' => e = .returned (.bool (inB c 1 3 && y == 0)) ∧ Below w.heap.size w w' := by
  cases hc : inB c 1 3
  all_goals
    go_enter Tryz.func87, Tryz.ntmps87
    go_wp2_with (first | (go_at_call 95; (with_reducible refine (within_anyHead y _ _ _).mono ?_); rintro e w1 ⟨rfl, n1, rfl⟩) | (go_at_call 95; refine (within_anyHead _ _ _ _).mono ?_; rintro e w3 ⟨rfl, n3, rfl⟩) | (go_at_call 96; refine (stated_any _ _ _ _ _ _).mono ?_; rintro e w2 ⟨rfl, hb⟩; obtain ⟨c0, c1, c2, c3, c4⟩ := box5 ((Quiet.below (Quiet.drew (n := n1))).trans (hb.mono (by simp)))))
    go_ret
    exact ⟨rfl, below_drewN ((below_drewN ((Below.refl _ _).alloc (Nat.le_refl _) _) _).trans (hb.mono (by simp))) _⟩
set_option maxHeartbeats 400000 in
theorem entValid_4 (k c s o y : Int) (w : World) (h1 : inB y 0 4294967295 = true) (h2 : statB k s o = true) (k0 : (k == 0) = false) (k1 : (k == 1) = false) (k2 : (k == 2) = false) (k3 : (k == 3) = false) :
    Calls Tryz.prog 87 #[.agg #[.int .i64 k, .int .i64 c, .int .i64 s, .int .i64 o, .int .i64 y]] w fun e w' => e = .returned (.bool (false)) ∧ Below w.heap.size w w' := by
  go_enter Tryz.func87, Tryz.ntmps87
  go_wp2_with (first | (go_at_call 95; refine (within_anyHead _ _ _ _).mono ?_; rintro e w1 ⟨rfl, n1, rfl⟩) | (go_at_call 96; refine (stated_any _ _ _ _ _ _).mono ?_; rintro e w2 ⟨rfl, hb⟩; obtain ⟨c0, c1, c2, c3, c4⟩ := box5 ((Quiet.below (Quiet.drew (n := n1))).trans (hb.mono (by simp)))))
  go_ret
  exact ⟨rfl, (below_drewN ((Below.refl _ _).alloc (Nat.le_refl _) _) _).trans (hb.mono (by simp))⟩
theorem entValid_any (k c s o y : Int) (w : World) :
    Calls Tryz.prog 87 #[.agg #[.int .i64 k, .int .i64 c, .int .i64 s, .int .i64 o, .int .i64 y]] w fun e w' => e = .returned (.bool (entB k c s o y)) ∧ Below w.heap.size w w' := by
  cases h1 : inB y 0 4294967295 && statB k s o with
  | false =>
    have he : entB k c s o y = false := by unfold entB; rw [h1]; rfl
    rw [he]
    exact entValid_early k c s o y w h1
  | true =>
    have he : entB k c s o y = kindBEnt k c s o y := by unfold entB; rw [h1]; rfl
    rw [he]
    rw [Bool.and_eq_true] at h1
    obtain ⟨h1, h2⟩ := h1
    unfold kindBEnt
    by_cases k0 : k = 0
    · subst k0; exact entValid_0 c s o y w h1 h2
    · by_cases k1 : k = 1
      · subst k1; exact entValid_1 c s o y w h1 h2
      · by_cases k2 : k = 2
        · subst k2; exact entValid_2 c s o y w h1 h2
        · by_cases k3 : k = 3
          · subst k3; exact entValid_3 c s o y w h1 h2
          · rw [if_neg k0, if_neg k1, if_neg k2, if_neg k3]
            exact entValid_4 k c s o y w h1 h2 (beq_eq_false_iff_ne.2 k0) (beq_eq_false_iff_ne.2 k1) (beq_eq_false_iff_ne.2 k2) (beq_eq_false_iff_ne.2 k3)
end Go.Proofs.YtnodeojeijekcaaGreat
/- What header.DecodeHead returns, for every word. No condition. -/
namespace Go.Proofs.YtnodeojeijekcaaGreat
open Go.RowKit

theorem getI_div (x a d : Int) (hx : U64 x) (_h : fldB a d = true) : getI x a d = x / 2 ^ a.toNat % 2 ^ d.toNat := by
  obtain ⟨X, rfl⟩ := Int.eq_ofNat_of_zero_le hx.1
  unfold getI getN
  rw [Int.toNat_natCast, Nat.shiftRight_eq_div_pow]
  simp
theorem unpackL_cons (d : Int) (ds : List Int) (x a : Int) (h : fldB a d = true) : unpackL (d :: ds) x a = (unpackL ds x (a + d)).map (getI x a d :: ·) := by rw [unpackL, h, if_pos rfl]
theorem unpack_head (x : Int) (hx : U64 x) : ∃ d e, unpackL [8, 8, 8, 32, 8] x 0 = some [x % 256, x / 256 % 256, x / 65536 % 256, d, e] := by
  refine ⟨getI x 24 32, getI x 56 8, ?_⟩
  rw [unpackL_cons _ _ _ _ (by decide), unpackL_cons _ _ _ _ (by decide), unpackL_cons _ _ _ _ (by decide), unpackL_cons _ _ _ _ (by decide), unpackL_cons _ _ _ _ (by decide), unpackL]
  rw [getI_div _ _ _ hx (by decide), getI_div x (0 + 8) 8 hx (by decide), getI_div x (0 + 8 + 8) 8 hx (by decide)]
  have e1 : x / 2 ^ (0 : Int).toNat % 2 ^ (8 : Int).toNat = x % 256 := by
    show x / 1 % 256 = _
    rw [Int.ediv_one]
  have e2 : x / 2 ^ (0 + 8 : Int).toNat % 2 ^ (8 : Int).toNat = x / 256 % 256 := rfl
  have e3 : x / 2 ^ (0 + 8 + 8 : Int).toNat % 2 ^ (8 : Int).toNat = x / 65536 % 256 := rfl
  rw [e1, e2, e3]
  rfl

/-- A box of one's own may be written in a world that has only grown. -/
theorem box_frozen {w w1 : World} {cs : Array Value} {t : TypeId} (hb : Below (w.alloc (.cells cs t)).heap.size (w.alloc (.cells cs t)) w1) (i : Nat) :
    w1.frozen? ⟨w.heap.size, i, none⟩ = false := by
  rw [hb.frozen (p := ⟨w.heap.size, i, none⟩) (by simp)]
  exact World.frozen?_alloc_new ..
theorem unpack5 (x A B C D E : Int) (ds : List Int) (hx : U64 x) (hu : unpackL ds x 0 = some [A, B, C, D, E]) (v : Value) (W : World) (hl : Lst .i64 W v ds) :
    Calls Tryz.prog 84 #[.int .u64 x, v] W fun e w' => ∃ b off cap, e = .returned (.tuple #[.slice (some ⟨b, off, none⟩) 5 cap, .int .i64 0]) ∧ w'.cell? ⟨b, off, none⟩ = some (.int .u64 A) ∧ w'.cell? ⟨b, off + 1, none⟩ = some (.int .u64 B) ∧ w'.cell? ⟨b, off + 2, none⟩ = some (.int .u64 C) ∧ Below W.heap.size W w' := by
  refine (unpack_any x v ds W hx hl).mono ?_
  rintro e w' ⟨v2, he, hl2, hb⟩
  rw [hu] at he hl2
  rcases hl2 with ⟨h0, _⟩ | ⟨b, off, cap, hv, _, _, hc⟩
  · exact absurd h0 (by simp)
  · exact ⟨b, off, cap, by rw [he, hv]; rfl, hc 0 (by simp), hc 1 (by simp), hc 2 (by simp), hb⟩

/-- The header that a word is, or none. -/
def decOk (x : Int) : Bool := headB (x / 256 % 256) (x % 256) (x / 65536 % 256) && encH (x / 256 % 256) (x % 256) (x / 65536 % 256) == x
end Go.Proofs.YtnodeojeijekcaaGreat
/- What header.EncodeEntry and header.DecodeEntry return, for every entry and every word. No condition but that each number fits its kind. -/
namespace Go.Proofs.YtnodeojeijekcaaGreat
open Go.RowKit

theorem statB_bd {k s o : Int} (h : statB k s o = true) : 0 ≤ s ∧ s ≤ 2 ∧ 0 ≤ o ∧ o ≤ 15 := by
  unfold statB at h
  split at h
  · have := eq_of_beq h; omega
  · split at h
    · rw [Bool.and_eq_true] at h
      have := inB_true h.2
      omega
    · split at h
      · rw [Bool.and_eq_true, Bool.or_eq_true] at h
        rcases h.2 with h2 | h2
        · have := inB_true h2; omega
        · have := eq_of_beq h2; omega
      · cases h
theorem kindB_bd {k c s o y : Int} (h : kindBEnt k c s o y = true) : 0 ≤ k ∧ k ≤ 3 ∧ 0 ≤ c ∧ c ≤ 7 := by
  unfold kindBEnt at h
  split at h
  · simp only [Bool.and_eq_true, beq_iff_eq] at h
    omega
  · split at h
    · have := inB_true h; omega
    · split at h
      · have := inB_true h; omega
      · split at h
        · rw [Bool.and_eq_true] at h
          have := inB_true h.1
          omega
        · cases h
theorem entB_bd {k c s o y : Int} (h : entB k c s o y = true) : (0 ≤ k ∧ k ≤ 3) ∧ (0 ≤ c ∧ c ≤ 7) ∧ (0 ≤ s ∧ s ≤ 2) ∧ (0 ≤ o ∧ o ≤ 15) ∧ 0 ≤ y ∧ y ≤ 4294967295 := by
  unfold entB at h
  rw [Bool.and_eq_true, Bool.and_eq_true] at h
  have h1 := inB_true h.1.1
  have h2 := statB_bd h.1.2
  have h3 := kindB_bd h.2
  omega

set_option maxHeartbeats 400000 in
theorem entryWidths_any (w : World) :
    Calls Tryz.prog 85 #[] w fun e w' => ∃ v, e = .returned v ∧ Lst .i64 w' v [2, 4, 2, 4, 4, 32] ∧ Below w.heap.size w w' := by
  go_enter Tryz.func85, Tryz.ntmps85
  go_wp2
  go_ret
  exact ⟨_, rfl, lst_new w [2, 4, 2, 4, 4, 32] _ _ 6 6 rfl (by decide) (by decide) rfl, (Below.refl _ _).alloc (Nat.le_refl _) _⟩

theorem pack_ent (k c s o y : Int) (h : entB k c s o y = true) : packI [k, c, s, o, 0, y] [2, 4, 2, 4, 4, 32] = (encE k c s o y, 0) := by
  have hb := entB_bd h
  unfold packI encE
  rw [if_pos (show ([k, c, s, o, 0, y] : List Int).length = ([2, 4, 2, 4, 4, 32] : List Int).length from rfl)]
  rw [packL_cons _ _ _ _ _ _ (by decide) (by decide) (by decide) (by omega) (by show _ < (4 : Int); omega)]
  rw [packL_cons _ _ _ _ _ _ (by decide) (by show (0 : Int) ≤ 0 + k * 1; omega) (by show 0 + k * 1 < (4 : Int); omega) (by omega) (by show _ < (16 : Int); omega)]
  rw [packL_cons _ _ _ _ _ _ (by decide) (by show (0 : Int) ≤ 0 + k * 1 + c * 4; omega) (by show 0 + k * 1 + c * 4 < (64 : Int); omega) (by omega) (by show _ < (4 : Int); omega)]
  rw [packL_cons _ _ _ _ _ _ (by decide) (by show (0 : Int) ≤ 0 + k * 1 + c * 4 + s * 64; omega) (by show 0 + k * 1 + c * 4 + s * 64 < (256 : Int); omega) (by omega) (by show _ < (16 : Int); omega)]
  rw [packL_cons _ _ _ _ _ _ (by decide) (by show (0 : Int) ≤ 0 + k * 1 + c * 4 + s * 64 + o * 256; omega) (by show 0 + k * 1 + c * 4 + s * 64 + o * 256 < (4096 : Int); omega) (by omega) (by decide)]
  rw [packL_cons _ _ _ _ _ _ (by decide) (by show (0 : Int) ≤ 0 + k * 1 + c * 4 + s * 64 + o * 256 + 0 * 4096; omega) (by show 0 + k * 1 + c * 4 + s * 64 + o * 256 + 0 * 4096 < (65536 : Int); omega) (by omega) (by show _ < (4294967296 : Int); omega)]
  rw [packL]
  · refine Prod.ext ?_ rfl
    show 0 + k * 1 + c * 4 + s * 64 + o * 256 + 0 * 4096 + y * 65536 = _
    omega
  · simp

set_option maxHeartbeats 1000000 in
theorem eenc_yes (k c s o y : Int) (w : World) (h : entB k c s o y = true) :
    Calls Tryz.prog 86 #[.agg #[.int .i64 k, .int .i64 c, .int .i64 s, .int .i64 o, .int .i64 y]] w fun e w' => e = .returned (.tuple #[.int .u64 (encE k c s o y), .int .i64 0]) ∧ Below w.heap.size w w' := by
  have hbd := entB_bd h
  have hu : ∀ x ∈ [k, c, s, o, 0, y], U64 x := by
    intro x hx
    simp only [List.mem_cons, List.not_mem_nil, or_false] at hx
    exact ⟨by omega, by omega⟩
  have pk := fun v1 v2 W h1 h2 => pack_any v1 v2 [k, c, s, o, 0, y] [2, 4, 2, 4, 4, 32] W h1 h2 hu
  rw [pack_ent k c s o y h] at pk
  have P := Lib.hid pk
  clear pk hu
  have wk : IntKind.u64.wrap k = k := IntWalk.u64_in k (by omega)
  have wc : IntKind.u64.wrap c = c := IntWalk.u64_in c (by omega)
  have ws : IntKind.u64.wrap s = s := IntWalk.u64_in s (by omega)
  have wo : IntKind.u64.wrap o = o := IntWalk.u64_in o (by omega)
  have wy : IntKind.u64.wrap y = y := IntWalk.u64_in y (by omega)
  go_enter Tryz.func86, Tryz.ntmps86
  go_wp2_with (go_at_call 87; refine (entValid_any _ _ _ _ _ _).mono ?_; rintro e w1 ⟨rfl, hb⟩; obtain ⟨c0, c1, c2, c3, c4⟩ := box5 hb)
  have hA : Below w.heap.size w w1 := ((Below.refl _ _).alloc (Nat.le_refl _) _).trans (hb.mono (by simp))
  have hsA := hA.size
  go_wp2_with (first | (go_at_call 85; refine (entryWidths_any _).mono ?_; rintro e w2 ⟨v2, rfl, hl2, hb2⟩) | (go_at_call 94; refine (P.out _ _ _ (by exact (lst_new w1 [k, c, s, o, 0, y] _ _ 6 6 rfl (by decide) (by decide) rfl).below hb2) (by exact hl2)).mono ?_; rintro e w3 ⟨rfl, hq3⟩))
  go_ret2
  exact ⟨rfl, ((hA.alloc hsA _).trans (hb2.mono (by simp; omega))).trans hq3.below⟩

set_option maxHeartbeats 400000 in
theorem eenc_no (k c s o y : Int) (w : World) (h : entB k c s o y = false) :
    Calls Tryz.prog 86 #[.agg #[.int .i64 k, .int .i64 c, .int .i64 s, .int .i64 o, .int .i64 y]] w fun e w' => e = .returned (.tuple #[.int .u64 0, .int .i64 4]) ∧ Below w.heap.size w w' := by
  go_enter Tryz.func86, Tryz.ntmps86
  go_wp2_with (go_at_call 87; refine (entValid_any _ _ _ _ _ _).mono ?_; rintro e w1 ⟨rfl, hb⟩)
  go_ret2
  exact ⟨rfl, ((Below.refl _ _).alloc (Nat.le_refl _) _).trans (hb.mono (by simp))⟩
end Go.Proofs.YtnodeojeijekcaaGreat
