/- Texts of this seat, one behind the other: each says at its head what it holds. No condition of its own. -/
import Derived.Test.YtnodeojeijekcaaGB15
import Derived.Test.YtnodeojeijekcaaGB16
import Derived.Test.YtnodeojeijekcaaGB17
/- What the document's functions on entries return. No condition but that each number fits its kind. -/
namespace Go.Proofs.Ytnodeojeijekcaa
open Go.RowKit
set_option linter.unusedVariables false
set_option linter.unusedSimpArgs false

theorem isEnt_any (k c s o y : Int) (w : World) :
    Calls Try.prog 54 #[.agg #[.int .i64 k, .int .i64 c, .int .i64 s, .int .i64 o, .int .i64 y]] w fun e w' => e = .returned (.bool (entB k c s o y)) ∧ Below w.heap.size w w' := by
  by_cases k0 : k = 0
  · subst k0; exact isEnt_0 c s o y w
  by_cases k1 : k = 1
  · subst k1
    by_cases s0 : s = 0
    · subst s0; exact isEnt_10 c o y w
    by_cases s1 : s = 1
    · subst s1; exact isEnt_11 c o y w
    by_cases s2 : s = 2
    · subst s2; exact isEnt_12 c o y w
    exact isEnt_1x c s o y w s0 s1 s2
  by_cases k2 : k = 2
  · subst k2
    by_cases s0 : s = 0
    · subst s0; exact isEnt_20 c o y w
    by_cases s1 : s = 1
    · subst s1; exact isEnt_21 c o y w
    by_cases s2 : s = 2
    · subst s2; exact isEnt_22 c o y w
    exact isEnt_2x c s o y w s0 s1 s2
  by_cases k3 : k = 3
  · subst k3; exact isEnt_3 c s o y w
  by_cases hk : k < 0
  · exact isEnt_lo k c s o y w hk
  · exact isEnt_hi k c s o y w (by omega)
end Go.Proofs.Ytnodeojeijekcaa
/- What Due, Ready, Taken and Given of package header return. No condition. -/
namespace Go.Proofs.Ytnodeojeijekcaa
open Go.RowKit
set_option linter.unusedVariables false

def dueB (k c s o y cy : Int) : Bool := entB k c s o y && (holdsB k && (s == 0 && decide (y < cy)))
def readyB (k c s o y cl cy : Int) : Bool := entB k c s o y && (k == 1 && (s == 0 && (c == cl && y == cy)))
set_option maxHeartbeats 1000000 in
theorem due_a (k c s o y cy : Int) (w : World) (h : entB k c s o y = false) :
    Calls Try.prog 64 #[.agg #[.int .i64 k, .int .i64 c, .int .i64 s, .int .i64 o, .int .i64 y], .int .i64 cy] w fun e w' => e = .returned (.bool false) ∧ Below w.heap.size w w' := by
  go_enter Try.func64, Try.ntmps64
  go_wp2_with (first | (go_at_call 72; refine (entValid_any _ _ _ _ _ _).mono ?_; rintro e w1 ⟨rfl, hb⟩; have hA := ((Below.refl w.heap.size w).alloc (Nat.le_refl _) (.cells #[.int .i64 k, .int .i64 c, .int .i64 s, .int .i64 o, .int .i64 y] 67)).trans (hb.mono (by simp)); have hsA := hA.size; have hlt0 := ((entAt_new w k c s o y 67).below hb).lt; obtain ⟨c0, c1, c2, c3, c4⟩ := (entAt_new w k c s o y 67).below hb) | (go_at_call 71; refine (holds_any _ _ _ _ _ _).mono ?_; rintro e w2 ⟨rfl, rfl⟩))
  go_ret
  exact ⟨rfl, hA⟩
set_option maxHeartbeats 1000000 in
theorem due_b (k c s o y cy : Int) (w : World) (h : entB k c s o y = true) (h2 : holdsB k = false) :
    Calls Try.prog 64 #[.agg #[.int .i64 k, .int .i64 c, .int .i64 s, .int .i64 o, .int .i64 y], .int .i64 cy] w fun e w' => e = .returned (.bool false) ∧ Below w.heap.size w w' := by
  go_enter Try.func64, Try.ntmps64
  go_wp2_with (first | (go_at_call 72; refine (entValid_any _ _ _ _ _ _).mono ?_; rintro e w1 ⟨rfl, hb⟩; have hA := ((Below.refl w.heap.size w).alloc (Nat.le_refl _) (.cells #[.int .i64 k, .int .i64 c, .int .i64 s, .int .i64 o, .int .i64 y] 67)).trans (hb.mono (by simp)); have hsA := hA.size; have hlt0 := ((entAt_new w k c s o y 67).below hb).lt; obtain ⟨c0, c1, c2, c3, c4⟩ := (entAt_new w k c s o y 67).below hb) | (go_at_call 71; refine (holds_any _ _ _ _ _ _).mono ?_; rintro e w2 ⟨rfl, rfl⟩))
  go_ret
  exact ⟨rfl, hA.alloc hsA _⟩
set_option maxHeartbeats 1000000 in
theorem due_c (k c s o y cy : Int) (w : World) (h : entB k c s o y = true) (h2 : holdsB k = true) (h3 : (s == 0) = false) :
    Calls Try.prog 64 #[.agg #[.int .i64 k, .int .i64 c, .int .i64 s, .int .i64 o, .int .i64 y], .int .i64 cy] w fun e w' => e = .returned (.bool false) ∧ Below w.heap.size w w' := by
  go_enter Try.func64, Try.ntmps64
  go_wp2_with (first | (go_at_call 72; refine (entValid_any _ _ _ _ _ _).mono ?_; rintro e w1 ⟨rfl, hb⟩; have hA := ((Below.refl w.heap.size w).alloc (Nat.le_refl _) (.cells #[.int .i64 k, .int .i64 c, .int .i64 s, .int .i64 o, .int .i64 y] 67)).trans (hb.mono (by simp)); have hsA := hA.size; have hlt0 := ((entAt_new w k c s o y 67).below hb).lt; obtain ⟨c0, c1, c2, c3, c4⟩ := (entAt_new w k c s o y 67).below hb) | (go_at_call 71; refine (holds_any _ _ _ _ _ _).mono ?_; rintro e w2 ⟨rfl, rfl⟩))
  go_ret
  exact ⟨rfl, hA.alloc hsA _⟩
set_option maxHeartbeats 1000000 in
theorem due_d (k c s o y cy : Int) (w : World) (h : entB k c s o y = true) (h2 : holdsB k = true) (h3 : (s == 0) = true) :
    Calls Try.prog 64 #[.agg #[.int .i64 k, .int .i64 c, .int .i64 s, .int .i64 o, .int .i64 y], .int .i64 cy] w fun e w' => e = .returned (.bool (decide (y < cy))) ∧ Below w.heap.size w w' := by
  go_enter Try.func64, Try.ntmps64
  go_wp2_with (first | (go_at_call 72; refine (entValid_any _ _ _ _ _ _).mono ?_; rintro e w1 ⟨rfl, hb⟩; have hA := ((Below.refl w.heap.size w).alloc (Nat.le_refl _) (.cells #[.int .i64 k, .int .i64 c, .int .i64 s, .int .i64 o, .int .i64 y] 67)).trans (hb.mono (by simp)); have hsA := hA.size; have hlt0 := ((entAt_new w k c s o y 67).below hb).lt; obtain ⟨c0, c1, c2, c3, c4⟩ := (entAt_new w k c s o y 67).below hb) | (go_at_call 71; refine (holds_any _ _ _ _ _ _).mono ?_; rintro e w2 ⟨rfl, rfl⟩))
  go_ret
  exact ⟨rfl, hA.alloc hsA _⟩
theorem due_any (k c s o y cy : Int) (w : World) :
    Calls Try.prog 64 #[.agg #[.int .i64 k, .int .i64 c, .int .i64 s, .int .i64 o, .int .i64 y], .int .i64 cy] w fun e w' => e = .returned (.bool (dueB k c s o y cy)) ∧ Below w.heap.size w w' := by
  unfold dueB
  cases h : entB k c s o y with
  | false => exact due_a k c s o y cy w h
  | true =>
    cases h2 : holdsB k with
    | false => exact due_b k c s o y cy w h h2
    | true =>
      cases h3 : s == 0 with
      | false => exact due_c k c s o y cy w h h2 h3
      | true => exact due_d k c s o y cy w h h2 h3
end Go.Proofs.Ytnodeojeijekcaa
/- What the document's Due and Ready return, for all entries. No condition. -/
namespace Go.Proofs.Ytnodeojeijekcaa
open Go.RowKit
set_option linter.unusedVariables false
set_option linter.unusedSimpArgs false
set_option maxHeartbeats 2000000 in
theorem rready_any (k c s o y cl cy : Int) (w : World) :
    Calls Try.prog 21 #[.agg #[.int .i64 k, .int .i64 c, .int .i64 s, .int .i64 o, .int .i64 y], .int .i64 cl, .int .i64 cy] w fun e w' => e = .returned (.bool (readyB k c s o y cl cy)) ∧ Below w.heap.size w w' := by
  unfold readyB
  cases h : entB k c s o y <;> cases e1 : (k == 1) <;> cases e3 : (s == 0) <;> cases e4 : (c == cl) <;> cases e5 : (y == cy)
  all_goals
    go_enter Try.func21, Try.ntmps21
    go_wp2_with (go_at_call 54; refine (isEnt_any _ _ _ _ _ _).mono ?_; rintro e w1 ⟨rfl, hb⟩; have hA := ((Below.refl w.heap.size w).alloc (Nat.le_refl _) (.cells #[.int .i64 k, .int .i64 c, .int .i64 s, .int .i64 o, .int .i64 y] 32)).trans (hb.mono (by simp)); obtain ⟨c0, c1, c2, c3, c4⟩ := (entAt_new w k c s o y 32).below hb)
    go_ret
    exact ⟨rfl, hA⟩
end Go.Proofs.Ytnodeojeijekcaa
/- What Taken and Given of package header return. No condition. -/
namespace Go.Proofs.Ytnodeojeijekcaa
open Go.RowKit
set_option linter.unusedVariables false

theorem holds_below (k c s o y : Int) (w : World) :
    Calls Try.prog 71 #[.agg #[.int .i64 k, .int .i64 c, .int .i64 s, .int .i64 o, .int .i64 y]] w fun e w' => e = .returned (.bool (holdsB k)) ∧ Below w.heap.size w w' := by
  refine (holds_any k c s o y w).mono ?_
  rintro e w' ⟨rfl, rfl⟩
  exact ⟨rfl, (Below.refl _ _).alloc (Nat.le_refl _) _⟩
/-- A box of one's own that may be written. -/
def EntBox (W : World) (b : Nat) (k c s o y : Int) : Prop := EntAt W b k c s o y ∧ ∀ i, W.frozen? ⟨b, i, none⟩ = false
theorem EntBox.below {W W' : World} {b : Nat} {k c s o y : Int} (h : EntBox W b k c s o y) (hb : Below W.heap.size W W') : EntBox W' b k c s o y :=
  ⟨h.1.below hb, fun i => by rw [hb.frozen (p := ⟨b, i, none⟩) h.1.lt]; exact h.2 i⟩
theorem entBox_new (W : World) (k c s o y : Int) (t : TypeId) : EntBox (W.alloc (.cells #[.int .i64 k, .int .i64 c, .int .i64 s, .int .i64 o, .int .i64 y] t)) W.heap.size k c s o y :=
  ⟨entAt_new W k c s o y t, fun i => World.frozen?_alloc_new ..⟩
theorem EntBox.alloc {W : World} {b : Nat} {k c s o y : Int} (h : EntBox W b k c s o y) (ob : Obj) : EntBox (W.alloc ob) b k c s o y := h.below ((Below.refl _ _).alloc (Nat.le_refl _) _)
/-- A box of one's own, all of it written anew. -/
theorem below_store5 {W w : World} {b n : Nat} (h : Below n w W) (hb : n ≤ b) (v0 v1 v2 v3 v4 : Value) : Below n w (((((W.setCell ⟨b, 0, none⟩ v0).setCell ⟨b, 1, none⟩ v1).setCell ⟨b, 2, none⟩ v2).setCell ⟨b, 3, none⟩ v3).setCell ⟨b, 4, none⟩ v4) :=
  ((((h.setCell hb _).setCell hb _).setCell hb _).setCell hb _).setCell hb _
def ZeroE : Value := .agg #[.int .i64 0, .int .i64 0, .int .i64 0, .int .i64 0, .int .i64 0]
set_option maxHeartbeats 1000000 in
theorem given_a (k c s o y cy : Int) (w : World) (h : holdsB k = false) :
    Calls Try.prog 56 #[.agg #[.int .i64 k, .int .i64 c, .int .i64 s, .int .i64 o, .int .i64 y], .int .i64 cy] w fun e w' => e = .returned (.tuple #[.agg #[.int .i64 0, .int .i64 0, .int .i64 0, .int .i64 0, .int .i64 0], .int .i64 4]) ∧ Below w.heap.size w w' := by
  go_enter Try.func56, Try.ntmps56
  go_upto_region 1 with fail
  have eA := (entBox_new w k c s o y 67).alloc (.cells #[.int .i64 0, .int .i64 0, .int .i64 0, .int .i64 0, .int .i64 0] 67)
  have eR := entBox_new (w.alloc (.cells #[.int .i64 k, .int .i64 c, .int .i64 s, .int .i64 o, .int .i64 y] 67)) 0 0 0 0 0 67
  have hB := ((Below.refl w.heap.size w).alloc (Nat.le_refl _) (.cells #[.int .i64 k, .int .i64 c, .int .i64 s, .int .i64 o, .int .i64 y] 67)).alloc (by simp) (.cells #[.int .i64 0, .int .i64 0, .int .i64 0, .int .i64 0, .int .i64 0] 67)
  rw [World.size_alloc] at eR
  generalize ((w.alloc (.cells #[.int .i64 k, .int .i64 c, .int .i64 s, .int .i64 o, .int .i64 y] 67)).alloc (.cells #[.int .i64 0, .int .i64 0, .int .i64 0, .int .i64 0, .int .i64 0] 67)) = W at *
  obtain ⟨⟨c0, c1, c2, c3, c4⟩, fA⟩ := id eA
  go_upto_region 2 with fail
  have eX := entBox_new W k c 0 0 cy 67
  have eA := eA.alloc (.cells #[.int .i64 k, .int .i64 c, .int .i64 0, .int .i64 0, .int .i64 cy] 67)
  have eR := eR.alloc (.cells #[.int .i64 k, .int .i64 c, .int .i64 0, .int .i64 0, .int .i64 cy] 67)
  have hB := hB.alloc hB.size (.cells #[.int .i64 k, .int .i64 c, .int .i64 0, .int .i64 0, .int .i64 cy] 67)
  clear c0 c1 c2 c3 c4 fA
  generalize W.alloc (.cells #[.int .i64 k, .int .i64 c, .int .i64 0, .int .i64 0, .int .i64 cy] 67) = X at *
  generalize W.heap.size = bX at *
  obtain ⟨⟨c0, c1, c2, c3, c4⟩, fA⟩ := id eA
  clear fA
  go_wp2_with (first | (go_at_call 71; refine (holds_below _ _ _ _ _ _).mono ?_; rintro e w2 ⟨rfl, hb⟩; have eA := eA.below hb; have eX := eX.below hb; have eR := eR.below hb; have hB := hB.trans (hb.mono hB.size); obtain ⟨⟨c0, c1, c2, c3, c4⟩, fA⟩ := id eA; obtain ⟨⟨x0, x1, x2, x3, x4⟩, fX⟩ := id eX; obtain ⟨⟨r0, r1, r2, r3, r4⟩, fR⟩ := id eR; have f0 := fR 0; have f1 := fR 1; have f2 := fR 2; have f3 := fR 3; have f4 := fR 4; clear fA fX fR) | (go_at_call 72; refine (entValid_any _ _ _ _ _ _).mono ?_; rintro e w3 ⟨rfl, hb⟩; have eA := eA.below hb; have eX := eX.below hb; have eR := eR.below hb; have hB := hB.trans (hb.mono hB.size); obtain ⟨⟨c0, c1, c2, c3, c4⟩, fA⟩ := id eA; obtain ⟨⟨x0, x1, x2, x3, x4⟩, fX⟩ := id eX; obtain ⟨⟨r0, r1, r2, r3, r4⟩, fR⟩ := id eR; have f0 := fR 0; have f1 := fR 1; have f2 := fR 2; have f3 := fR 3; have f4 := fR 4; clear fA fX fR))
  refine bodyPost_ret (v := .tuple #[.agg #[.int .i64 0, .int .i64 0, .int .i64 0, .int .i64 0, .int .i64 0], .int .i64 4]) (by simp [results, Try.results56, go_sem, r0, r1, r2, r3, r4]) rfl ⟨rfl, ?_⟩
  exact below_store5 hB (Nat.le_succ _) _ _ _ _ _
set_option maxHeartbeats 1000000 in
theorem given_b (k c s o y cy : Int) (w : World) (h : holdsB k = true) (h2 : entB k c s o y = false) :
    Calls Try.prog 56 #[.agg #[.int .i64 k, .int .i64 c, .int .i64 s, .int .i64 o, .int .i64 y], .int .i64 cy] w fun e w' => e = .returned (.tuple #[.agg #[.int .i64 0, .int .i64 0, .int .i64 0, .int .i64 0, .int .i64 0], .int .i64 4]) ∧ Below w.heap.size w w' := by
  go_enter Try.func56, Try.ntmps56
  go_upto_region 1 with fail
  have eA := (entBox_new w k c s o y 67).alloc (.cells #[.int .i64 0, .int .i64 0, .int .i64 0, .int .i64 0, .int .i64 0] 67)
  have eR := entBox_new (w.alloc (.cells #[.int .i64 k, .int .i64 c, .int .i64 s, .int .i64 o, .int .i64 y] 67)) 0 0 0 0 0 67
  have hB := ((Below.refl w.heap.size w).alloc (Nat.le_refl _) (.cells #[.int .i64 k, .int .i64 c, .int .i64 s, .int .i64 o, .int .i64 y] 67)).alloc (by simp) (.cells #[.int .i64 0, .int .i64 0, .int .i64 0, .int .i64 0, .int .i64 0] 67)
  rw [World.size_alloc] at eR
  generalize ((w.alloc (.cells #[.int .i64 k, .int .i64 c, .int .i64 s, .int .i64 o, .int .i64 y] 67)).alloc (.cells #[.int .i64 0, .int .i64 0, .int .i64 0, .int .i64 0, .int .i64 0] 67)) = W at *
  obtain ⟨⟨c0, c1, c2, c3, c4⟩, fA⟩ := id eA
  go_upto_region 2 with fail
  have eX := entBox_new W k c 0 0 cy 67
  have eA := eA.alloc (.cells #[.int .i64 k, .int .i64 c, .int .i64 0, .int .i64 0, .int .i64 cy] 67)
  have eR := eR.alloc (.cells #[.int .i64 k, .int .i64 c, .int .i64 0, .int .i64 0, .int .i64 cy] 67)
  have hB := hB.alloc hB.size (.cells #[.int .i64 k, .int .i64 c, .int .i64 0, .int .i64 0, .int .i64 cy] 67)
  clear c0 c1 c2 c3 c4 fA
  generalize W.alloc (.cells #[.int .i64 k, .int .i64 c, .int .i64 0, .int .i64 0, .int .i64 cy] 67) = X at *
  generalize W.heap.size = bX at *
  obtain ⟨⟨c0, c1, c2, c3, c4⟩, fA⟩ := id eA
  clear fA
  go_wp2_with (first | (go_at_call 71; refine (holds_below _ _ _ _ _ _).mono ?_; rintro e w2 ⟨rfl, hb⟩; have eA := eA.below hb; have eX := eX.below hb; have eR := eR.below hb; have hB := hB.trans (hb.mono hB.size); obtain ⟨⟨c0, c1, c2, c3, c4⟩, fA⟩ := id eA; obtain ⟨⟨x0, x1, x2, x3, x4⟩, fX⟩ := id eX; obtain ⟨⟨r0, r1, r2, r3, r4⟩, fR⟩ := id eR; have f0 := fR 0; have f1 := fR 1; have f2 := fR 2; have f3 := fR 3; have f4 := fR 4; clear fA fX fR) | (go_at_call 72; refine (entValid_any _ _ _ _ _ _).mono ?_; rintro e w3 ⟨rfl, hb⟩; have eA := eA.below hb; have eX := eX.below hb; have eR := eR.below hb; have hB := hB.trans (hb.mono hB.size); obtain ⟨⟨c0, c1, c2, c3, c4⟩, fA⟩ := id eA; obtain ⟨⟨x0, x1, x2, x3, x4⟩, fX⟩ := id eX; obtain ⟨⟨r0, r1, r2, r3, r4⟩, fR⟩ := id eR; have f0 := fR 0; have f1 := fR 1; have f2 := fR 2; have f3 := fR 3; have f4 := fR 4; clear fA fX fR))
  refine bodyPost_ret (v := .tuple #[.agg #[.int .i64 0, .int .i64 0, .int .i64 0, .int .i64 0, .int .i64 0], .int .i64 4]) (by simp [results, Try.results56, go_sem, r0, r1, r2, r3, r4]) rfl ⟨rfl, ?_⟩
  exact below_store5 hB (Nat.le_succ _) _ _ _ _ _
set_option maxHeartbeats 1000000 in
theorem given_c (k c s o y cy : Int) (w : World) (h : holdsB k = true) (h2 : entB k c s o y = true) (h3 : entB k c 0 0 cy = false) :
    Calls Try.prog 56 #[.agg #[.int .i64 k, .int .i64 c, .int .i64 s, .int .i64 o, .int .i64 y], .int .i64 cy] w fun e w' => e = .returned (.tuple #[.agg #[.int .i64 0, .int .i64 0, .int .i64 0, .int .i64 0, .int .i64 0], .int .i64 4]) ∧ Below w.heap.size w w' := by
  go_enter Try.func56, Try.ntmps56
  go_upto_region 1 with fail
  have eA := (entBox_new w k c s o y 67).alloc (.cells #[.int .i64 0, .int .i64 0, .int .i64 0, .int .i64 0, .int .i64 0] 67)
  have eR := entBox_new (w.alloc (.cells #[.int .i64 k, .int .i64 c, .int .i64 s, .int .i64 o, .int .i64 y] 67)) 0 0 0 0 0 67
  have hB := ((Below.refl w.heap.size w).alloc (Nat.le_refl _) (.cells #[.int .i64 k, .int .i64 c, .int .i64 s, .int .i64 o, .int .i64 y] 67)).alloc (by simp) (.cells #[.int .i64 0, .int .i64 0, .int .i64 0, .int .i64 0, .int .i64 0] 67)
  rw [World.size_alloc] at eR
  generalize ((w.alloc (.cells #[.int .i64 k, .int .i64 c, .int .i64 s, .int .i64 o, .int .i64 y] 67)).alloc (.cells #[.int .i64 0, .int .i64 0, .int .i64 0, .int .i64 0, .int .i64 0] 67)) = W at *
  obtain ⟨⟨c0, c1, c2, c3, c4⟩, fA⟩ := id eA
  go_upto_region 2 with fail
  have eX := entBox_new W k c 0 0 cy 67
  have eA := eA.alloc (.cells #[.int .i64 k, .int .i64 c, .int .i64 0, .int .i64 0, .int .i64 cy] 67)
  have eR := eR.alloc (.cells #[.int .i64 k, .int .i64 c, .int .i64 0, .int .i64 0, .int .i64 cy] 67)
  have hB := hB.alloc hB.size (.cells #[.int .i64 k, .int .i64 c, .int .i64 0, .int .i64 0, .int .i64 cy] 67)
  clear c0 c1 c2 c3 c4 fA
  generalize W.alloc (.cells #[.int .i64 k, .int .i64 c, .int .i64 0, .int .i64 0, .int .i64 cy] 67) = X at *
  generalize W.heap.size = bX at *
  obtain ⟨⟨c0, c1, c2, c3, c4⟩, fA⟩ := id eA
  clear fA
  go_wp2_with (first | (go_at_call 71; refine (holds_below _ _ _ _ _ _).mono ?_; rintro e w2 ⟨rfl, hb⟩; have eA := eA.below hb; have eX := eX.below hb; have eR := eR.below hb; have hB := hB.trans (hb.mono hB.size); obtain ⟨⟨c0, c1, c2, c3, c4⟩, fA⟩ := id eA; obtain ⟨⟨x0, x1, x2, x3, x4⟩, fX⟩ := id eX; obtain ⟨⟨r0, r1, r2, r3, r4⟩, fR⟩ := id eR; have f0 := fR 0; have f1 := fR 1; have f2 := fR 2; have f3 := fR 3; have f4 := fR 4; clear fA fX fR) | (go_at_call 72; refine (entValid_any _ _ _ _ _ _).mono ?_; rintro e w3 ⟨rfl, hb⟩; have eA := eA.below hb; have eX := eX.below hb; have eR := eR.below hb; have hB := hB.trans (hb.mono hB.size); obtain ⟨⟨c0, c1, c2, c3, c4⟩, fA⟩ := id eA; obtain ⟨⟨x0, x1, x2, x3, x4⟩, fX⟩ := id eX; obtain ⟨⟨r0, r1, r2, r3, r4⟩, fR⟩ := id eR; have f0 := fR 0; have f1 := fR 1; have f2 := fR 2; have f3 := fR 3; have f4 := fR 4; clear fA fX fR))
  refine bodyPost_ret (v := .tuple #[.agg #[.int .i64 0, .int .i64 0, .int .i64 0, .int .i64 0, .int .i64 0], .int .i64 4]) (by simp [results, Try.results56, go_sem, r0, r1, r2, r3, r4]) rfl ⟨rfl, ?_⟩
  exact below_store5 hB (Nat.le_succ _) _ _ _ _ _
set_option maxHeartbeats 1000000 in
theorem given_d (k c s o y cy : Int) (w : World) (h : holdsB k = true) (h2 : entB k c s o y = true) (h3 : entB k c 0 0 cy = true) :
    Calls Try.prog 56 #[.agg #[.int .i64 k, .int .i64 c, .int .i64 s, .int .i64 o, .int .i64 y], .int .i64 cy] w fun e w' => e = .returned (.tuple #[.agg #[.int .i64 k, .int .i64 c, .int .i64 0, .int .i64 0, .int .i64 cy], .int .i64 0]) ∧ Below w.heap.size w w' := by
  go_enter Try.func56, Try.ntmps56
  go_upto_region 1 with fail
  have eA := (entBox_new w k c s o y 67).alloc (.cells #[.int .i64 0, .int .i64 0, .int .i64 0, .int .i64 0, .int .i64 0] 67)
  have eR := entBox_new (w.alloc (.cells #[.int .i64 k, .int .i64 c, .int .i64 s, .int .i64 o, .int .i64 y] 67)) 0 0 0 0 0 67
  have hB := ((Below.refl w.heap.size w).alloc (Nat.le_refl _) (.cells #[.int .i64 k, .int .i64 c, .int .i64 s, .int .i64 o, .int .i64 y] 67)).alloc (by simp) (.cells #[.int .i64 0, .int .i64 0, .int .i64 0, .int .i64 0, .int .i64 0] 67)
  rw [World.size_alloc] at eR
  generalize ((w.alloc (.cells #[.int .i64 k, .int .i64 c, .int .i64 s, .int .i64 o, .int .i64 y] 67)).alloc (.cells #[.int .i64 0, .int .i64 0, .int .i64 0, .int .i64 0, .int .i64 0] 67)) = W at *
  obtain ⟨⟨c0, c1, c2, c3, c4⟩, fA⟩ := id eA
  go_upto_region 2 with fail
  have eX := entBox_new W k c 0 0 cy 67
  have eA := eA.alloc (.cells #[.int .i64 k, .int .i64 c, .int .i64 0, .int .i64 0, .int .i64 cy] 67)
  have eR := eR.alloc (.cells #[.int .i64 k, .int .i64 c, .int .i64 0, .int .i64 0, .int .i64 cy] 67)
  have hB := hB.alloc hB.size (.cells #[.int .i64 k, .int .i64 c, .int .i64 0, .int .i64 0, .int .i64 cy] 67)
  clear c0 c1 c2 c3 c4 fA
  generalize W.alloc (.cells #[.int .i64 k, .int .i64 c, .int .i64 0, .int .i64 0, .int .i64 cy] 67) = X at *
  generalize W.heap.size = bX at *
  obtain ⟨⟨c0, c1, c2, c3, c4⟩, fA⟩ := id eA
  clear fA
  go_wp2_with (first | (go_at_call 71; refine (holds_below _ _ _ _ _ _).mono ?_; rintro e w2 ⟨rfl, hb⟩; have eA := eA.below hb; have eX := eX.below hb; have eR := eR.below hb; have hB := hB.trans (hb.mono hB.size); obtain ⟨⟨c0, c1, c2, c3, c4⟩, fA⟩ := id eA; obtain ⟨⟨x0, x1, x2, x3, x4⟩, fX⟩ := id eX; obtain ⟨⟨r0, r1, r2, r3, r4⟩, fR⟩ := id eR; have f0 := fR 0; have f1 := fR 1; have f2 := fR 2; have f3 := fR 3; have f4 := fR 4; clear fA fX fR) | (go_at_call 72; refine (entValid_any _ _ _ _ _ _).mono ?_; rintro e w3 ⟨rfl, hb⟩; have eA := eA.below hb; have eX := eX.below hb; have eR := eR.below hb; have hB := hB.trans (hb.mono hB.size); obtain ⟨⟨c0, c1, c2, c3, c4⟩, fA⟩ := id eA; obtain ⟨⟨x0, x1, x2, x3, x4⟩, fX⟩ := id eX; obtain ⟨⟨r0, r1, r2, r3, r4⟩, fR⟩ := id eR; have f0 := fR 0; have f1 := fR 1; have f2 := fR 2; have f3 := fR 3; have f4 := fR 4; clear fA fX fR))
  refine bodyPost_ret (v := .tuple #[.agg #[.int .i64 k, .int .i64 c, .int .i64 0, .int .i64 0, .int .i64 cy], .int .i64 0]) (by simp [results, Try.results56, go_sem, r0, r1, r2, r3, r4]) rfl ⟨rfl, ?_⟩
  exact below_store5 hB (Nat.le_succ _) _ _ _ _ _
end Go.Proofs.Ytnodeojeijekcaa
/- What Taken of package header returns. No condition. -/
namespace Go.Proofs.Ytnodeojeijekcaa
open Go.RowKit
set_option linter.unusedVariables false
/-- The two fields of a box written anew; another box lies as it lay. -/
theorem EntBox.two {W : World} {b : Nat} {k c s o y : Int} (h : EntBox W b k c s o y) (s' o' : Int) : EntBox ((W.setCell ⟨b, 2, none⟩ (.int .i64 s')).setCell ⟨b, 3, none⟩ (.int .i64 o')) b k c s' o' y := by
  obtain ⟨⟨h0, h1, h2, h3, h4⟩, hf⟩ := h
  refine ⟨⟨?_, ?_, ?_, ?_, ?_⟩, fun i => by rw [World.frozen?_setCell, World.frozen?_setCell]; exact hf i⟩
  · rw [World.cell?_setCell_other _ _ _ _ (by simp), World.cell?_setCell_other _ _ _ _ (by simp)]; exact h0
  · rw [World.cell?_setCell_other _ _ _ _ (by simp), World.cell?_setCell_other _ _ _ _ (by simp)]; exact h1
  · rw [World.cell?_setCell_other _ _ _ _ (by simp)]; exact World.cell?_setCell_same _ _ _ h2
  · exact World.cell?_setCell_same _ _ _ (by rw [World.cell?_setCell_other _ _ _ _ (by simp)]; exact h3)
  · rw [World.cell?_setCell_other _ _ _ _ (by simp), World.cell?_setCell_other _ _ _ _ (by simp)]; exact h4
theorem EntBox.far {W : World} {b b' : Nat} {k c s o y : Int} (h : EntBox W b k c s o y) (hne : b < b') (i j : Nat) (u v : Value) : EntBox ((W.setCell ⟨b', i, none⟩ u).setCell ⟨b', j, none⟩ v) b k c s o y := by
  have hn : b' ≠ b := by omega
  obtain ⟨⟨h0, h1, h2, h3, h4⟩, hf⟩ := h
  refine ⟨⟨?_, ?_, ?_, ?_, ?_⟩, fun i => by rw [World.frozen?_setCell, World.frozen?_setCell]; exact hf i⟩
  · rw [World.cell?_setCell_far _ _ _ _ hn, World.cell?_setCell_far _ _ _ _ hn]; exact h0
  · rw [World.cell?_setCell_far _ _ _ _ hn, World.cell?_setCell_far _ _ _ _ hn]; exact h1
  · rw [World.cell?_setCell_far _ _ _ _ hn, World.cell?_setCell_far _ _ _ _ hn]; exact h2
  · rw [World.cell?_setCell_far _ _ _ _ hn, World.cell?_setCell_far _ _ _ _ hn]; exact h3
  · rw [World.cell?_setCell_far _ _ _ _ hn, World.cell?_setCell_far _ _ _ _ hn]; exact h4
set_option maxHeartbeats 1000000 in
theorem taken_a (k c s o y s' o' : Int) (w : World) (h : entB k c s o y = false) :
    Calls Try.prog 68 #[.agg #[.int .i64 k, .int .i64 c, .int .i64 s, .int .i64 o, .int .i64 y], .int .i64 s', .int .i64 o'] w fun e w' => e = .returned (.tuple #[.agg #[.int .i64 0, .int .i64 0, .int .i64 0, .int .i64 0, .int .i64 0], .int .i64 4]) ∧ Below w.heap.size w w' := by
  go_enter Try.func68, Try.ntmps68
  go_upto_region 1 with fail
  have eA := (entBox_new w k c s o y 67).alloc (.cells #[.int .i64 0, .int .i64 0, .int .i64 0, .int .i64 0, .int .i64 0] 67)
  have eR := entBox_new (w.alloc (.cells #[.int .i64 k, .int .i64 c, .int .i64 s, .int .i64 o, .int .i64 y] 67)) 0 0 0 0 0 67
  have hB := ((Below.refl w.heap.size w).alloc (Nat.le_refl _) (.cells #[.int .i64 k, .int .i64 c, .int .i64 s, .int .i64 o, .int .i64 y] 67)).alloc (by simp) (.cells #[.int .i64 0, .int .i64 0, .int .i64 0, .int .i64 0, .int .i64 0] 67)
  rw [World.size_alloc] at eR
  generalize ((w.alloc (.cells #[.int .i64 k, .int .i64 c, .int .i64 s, .int .i64 o, .int .i64 y] 67)).alloc (.cells #[.int .i64 0, .int .i64 0, .int .i64 0, .int .i64 0, .int .i64 0] 67)) = W at *
  obtain ⟨⟨c0, c1, c2, c3, c4⟩, fA⟩ := id eA
  go_upto_region 2 with fail
  have hlA := eA.1.lt
  have hlR := eR.1.lt
  have eX := entBox_new W k c s o y 67
  have eA := eA.alloc (.cells #[.int .i64 k, .int .i64 c, .int .i64 s, .int .i64 o, .int .i64 y] 67)
  have eR := eR.alloc (.cells #[.int .i64 k, .int .i64 c, .int .i64 s, .int .i64 o, .int .i64 y] 67)
  have hB := hB.alloc hB.size (.cells #[.int .i64 k, .int .i64 c, .int .i64 s, .int .i64 o, .int .i64 y] 67)
  clear c0 c1 c2 c3 c4 fA
  generalize W.alloc (.cells #[.int .i64 k, .int .i64 c, .int .i64 s, .int .i64 o, .int .i64 y] 67) = X at *
  obtain ⟨⟨x0, x1, x2, x3, x4⟩, fX⟩ := id eX
  have f2 := fX 2
  have f3 := fX 3
  go_upto_region 3 with fail
  have eX := eX.two s' o'
  have eA := eA.far hlA 2 3 (.int .i64 s') (.int .i64 o')
  have eR := eR.far hlR 2 3 (.int .i64 s') (.int .i64 o')
  have hB := (hB.setCell (p := ⟨W.heap.size, 2, none⟩) (Nat.le_of_lt hlA) (.int .i64 s')).setCell (p := ⟨W.heap.size, 3, none⟩) (Nat.le_of_lt hlA) (.int .i64 o')
  clear x0 x1 x2 x3 x4 fX f2 f3
  generalize (X.setCell ⟨W.heap.size, 2, none⟩ (.int .i64 s')).setCell ⟨W.heap.size, 3, none⟩ (.int .i64 o') = Z at *
  generalize W.heap.size = bX at *
  obtain ⟨⟨c0, c1, c2, c3, c4⟩, fA⟩ := id eA
  clear fA
  go_wp2_with (go_at_call 72; refine (entValid_any _ _ _ _ _ _).mono ?_; rintro e w3 ⟨rfl, hb⟩; have eA := eA.below hb; have eX := eX.below hb; have eR := eR.below hb; have hB := hB.trans (hb.mono hB.size); obtain ⟨⟨c0, c1, c2, c3, c4⟩, fA⟩ := id eA; obtain ⟨⟨x0, x1, x2, x3, x4⟩, fX⟩ := id eX; obtain ⟨⟨r0, r1, r2, r3, r4⟩, fR⟩ := id eR; have f0 := fR 0; have f1 := fR 1; have f2 := fR 2; have f3 := fR 3; have f4 := fR 4; clear fA fX fR)
  refine bodyPost_ret (v := .tuple #[.agg #[.int .i64 0, .int .i64 0, .int .i64 0, .int .i64 0, .int .i64 0], .int .i64 4]) (by simp [results, Try.results68, go_sem, r0, r1, r2, r3, r4]) rfl ⟨rfl, ?_⟩
  exact below_store5 hB (Nat.le_succ _) _ _ _ _ _
set_option maxHeartbeats 1000000 in
theorem taken_b (k c s o y s' o' : Int) (w : World) (h : entB k c s o y = true) (h2 : entB k c s' o' y = false) :
    Calls Try.prog 68 #[.agg #[.int .i64 k, .int .i64 c, .int .i64 s, .int .i64 o, .int .i64 y], .int .i64 s', .int .i64 o'] w fun e w' => e = .returned (.tuple #[.agg #[.int .i64 0, .int .i64 0, .int .i64 0, .int .i64 0, .int .i64 0], .int .i64 4]) ∧ Below w.heap.size w w' := by
  go_enter Try.func68, Try.ntmps68
  go_upto_region 1 with fail
  have eA := (entBox_new w k c s o y 67).alloc (.cells #[.int .i64 0, .int .i64 0, .int .i64 0, .int .i64 0, .int .i64 0] 67)
  have eR := entBox_new (w.alloc (.cells #[.int .i64 k, .int .i64 c, .int .i64 s, .int .i64 o, .int .i64 y] 67)) 0 0 0 0 0 67
  have hB := ((Below.refl w.heap.size w).alloc (Nat.le_refl _) (.cells #[.int .i64 k, .int .i64 c, .int .i64 s, .int .i64 o, .int .i64 y] 67)).alloc (by simp) (.cells #[.int .i64 0, .int .i64 0, .int .i64 0, .int .i64 0, .int .i64 0] 67)
  rw [World.size_alloc] at eR
  generalize ((w.alloc (.cells #[.int .i64 k, .int .i64 c, .int .i64 s, .int .i64 o, .int .i64 y] 67)).alloc (.cells #[.int .i64 0, .int .i64 0, .int .i64 0, .int .i64 0, .int .i64 0] 67)) = W at *
  obtain ⟨⟨c0, c1, c2, c3, c4⟩, fA⟩ := id eA
  go_upto_region 2 with fail
  have hlA := eA.1.lt
  have hlR := eR.1.lt
  have eX := entBox_new W k c s o y 67
  have eA := eA.alloc (.cells #[.int .i64 k, .int .i64 c, .int .i64 s, .int .i64 o, .int .i64 y] 67)
  have eR := eR.alloc (.cells #[.int .i64 k, .int .i64 c, .int .i64 s, .int .i64 o, .int .i64 y] 67)
  have hB := hB.alloc hB.size (.cells #[.int .i64 k, .int .i64 c, .int .i64 s, .int .i64 o, .int .i64 y] 67)
  clear c0 c1 c2 c3 c4 fA
  generalize W.alloc (.cells #[.int .i64 k, .int .i64 c, .int .i64 s, .int .i64 o, .int .i64 y] 67) = X at *
  obtain ⟨⟨x0, x1, x2, x3, x4⟩, fX⟩ := id eX
  have f2 := fX 2
  have f3 := fX 3
  go_upto_region 3 with fail
  have eX := eX.two s' o'
  have eA := eA.far hlA 2 3 (.int .i64 s') (.int .i64 o')
  have eR := eR.far hlR 2 3 (.int .i64 s') (.int .i64 o')
  have hB := (hB.setCell (p := ⟨W.heap.size, 2, none⟩) (Nat.le_of_lt hlA) (.int .i64 s')).setCell (p := ⟨W.heap.size, 3, none⟩) (Nat.le_of_lt hlA) (.int .i64 o')
  clear x0 x1 x2 x3 x4 fX f2 f3
  generalize (X.setCell ⟨W.heap.size, 2, none⟩ (.int .i64 s')).setCell ⟨W.heap.size, 3, none⟩ (.int .i64 o') = Z at *
  generalize W.heap.size = bX at *
  obtain ⟨⟨c0, c1, c2, c3, c4⟩, fA⟩ := id eA
  clear fA
  go_wp2_with (go_at_call 72; refine (entValid_any _ _ _ _ _ _).mono ?_; rintro e w3 ⟨rfl, hb⟩; have eA := eA.below hb; have eX := eX.below hb; have eR := eR.below hb; have hB := hB.trans (hb.mono hB.size); obtain ⟨⟨c0, c1, c2, c3, c4⟩, fA⟩ := id eA; obtain ⟨⟨x0, x1, x2, x3, x4⟩, fX⟩ := id eX; obtain ⟨⟨r0, r1, r2, r3, r4⟩, fR⟩ := id eR; have f0 := fR 0; have f1 := fR 1; have f2 := fR 2; have f3 := fR 3; have f4 := fR 4; clear fA fX fR)
  refine bodyPost_ret (v := .tuple #[.agg #[.int .i64 0, .int .i64 0, .int .i64 0, .int .i64 0, .int .i64 0], .int .i64 4]) (by simp [results, Try.results68, go_sem, r0, r1, r2, r3, r4]) rfl ⟨rfl, ?_⟩
  exact below_store5 hB (Nat.le_succ _) _ _ _ _ _
set_option maxHeartbeats 1000000 in
theorem taken_c (k c s o y s' o' : Int) (w : World) (h : entB k c s o y = true) (h2 : entB k c s' o' y = true) :
    Calls Try.prog 68 #[.agg #[.int .i64 k, .int .i64 c, .int .i64 s, .int .i64 o, .int .i64 y], .int .i64 s', .int .i64 o'] w fun e w' => e = .returned ((.tuple #[.agg #[.int .i64 k, .int .i64 c, .int .i64 s', .int .i64 o', .int .i64 y], .int .i64 0])) ∧ Below w.heap.size w w' := by
  go_enter Try.func68, Try.ntmps68
  go_upto_region 1 with fail
  have eA := (entBox_new w k c s o y 67).alloc (.cells #[.int .i64 0, .int .i64 0, .int .i64 0, .int .i64 0, .int .i64 0] 67)
  have eR := entBox_new (w.alloc (.cells #[.int .i64 k, .int .i64 c, .int .i64 s, .int .i64 o, .int .i64 y] 67)) 0 0 0 0 0 67
  have hB := ((Below.refl w.heap.size w).alloc (Nat.le_refl _) (.cells #[.int .i64 k, .int .i64 c, .int .i64 s, .int .i64 o, .int .i64 y] 67)).alloc (by simp) (.cells #[.int .i64 0, .int .i64 0, .int .i64 0, .int .i64 0, .int .i64 0] 67)
  rw [World.size_alloc] at eR
  generalize ((w.alloc (.cells #[.int .i64 k, .int .i64 c, .int .i64 s, .int .i64 o, .int .i64 y] 67)).alloc (.cells #[.int .i64 0, .int .i64 0, .int .i64 0, .int .i64 0, .int .i64 0] 67)) = W at *
  obtain ⟨⟨c0, c1, c2, c3, c4⟩, fA⟩ := id eA
  go_upto_region 2 with fail
  have hlA := eA.1.lt
  have hlR := eR.1.lt
  have eX := entBox_new W k c s o y 67
  have eA := eA.alloc (.cells #[.int .i64 k, .int .i64 c, .int .i64 s, .int .i64 o, .int .i64 y] 67)
  have eR := eR.alloc (.cells #[.int .i64 k, .int .i64 c, .int .i64 s, .int .i64 o, .int .i64 y] 67)
  have hB := hB.alloc hB.size (.cells #[.int .i64 k, .int .i64 c, .int .i64 s, .int .i64 o, .int .i64 y] 67)
  clear c0 c1 c2 c3 c4 fA
  generalize W.alloc (.cells #[.int .i64 k, .int .i64 c, .int .i64 s, .int .i64 o, .int .i64 y] 67) = X at *
  obtain ⟨⟨x0, x1, x2, x3, x4⟩, fX⟩ := id eX
  have f2 := fX 2
  have f3 := fX 3
  go_upto_region 3 with fail
  have eX := eX.two s' o'
  have eA := eA.far hlA 2 3 (.int .i64 s') (.int .i64 o')
  have eR := eR.far hlR 2 3 (.int .i64 s') (.int .i64 o')
  have hB := (hB.setCell (p := ⟨W.heap.size, 2, none⟩) (Nat.le_of_lt hlA) (.int .i64 s')).setCell (p := ⟨W.heap.size, 3, none⟩) (Nat.le_of_lt hlA) (.int .i64 o')
  clear x0 x1 x2 x3 x4 fX f2 f3
  generalize (X.setCell ⟨W.heap.size, 2, none⟩ (.int .i64 s')).setCell ⟨W.heap.size, 3, none⟩ (.int .i64 o') = Z at *
  generalize W.heap.size = bX at *
  obtain ⟨⟨c0, c1, c2, c3, c4⟩, fA⟩ := id eA
  clear fA
  go_wp2_with (go_at_call 72; refine (entValid_any _ _ _ _ _ _).mono ?_; rintro e w3 ⟨rfl, hb⟩; have eA := eA.below hb; have eX := eX.below hb; have eR := eR.below hb; have hB := hB.trans (hb.mono hB.size); obtain ⟨⟨c0, c1, c2, c3, c4⟩, fA⟩ := id eA; obtain ⟨⟨x0, x1, x2, x3, x4⟩, fX⟩ := id eX; obtain ⟨⟨r0, r1, r2, r3, r4⟩, fR⟩ := id eR; have f0 := fR 0; have f1 := fR 1; have f2 := fR 2; have f3 := fR 3; have f4 := fR 4; clear fA fX fR)
  refine bodyPost_ret (v := (.tuple #[.agg #[.int .i64 k, .int .i64 c, .int .i64 s', .int .i64 o', .int .i64 y], .int .i64 0])) (by simp [results, Try.results68, go_sem, r0, r1, r2, r3, r4]) rfl ⟨rfl, ?_⟩
  exact below_store5 hB (Nat.le_succ _) _ _ _ _ _
end Go.Proofs.Ytnodeojeijekcaa
/- What the document's Taken and Given return, for all entries. No condition. -/
namespace Go.Proofs.Ytnodeojeijekcaa
open Go.RowKit
set_option linter.unusedVariables false
set_option linter.unusedSimpArgs false
set_option maxHeartbeats 2000000 in
theorem rgiven_a (k c s o y cy : Int) (w : World) (h : entB k c s o y = false) :
    Calls Try.prog 24 #[.agg #[.int .i64 k, .int .i64 c, .int .i64 s, .int .i64 o, .int .i64 y], .int .i64 cy] w fun e w' => e = .returned (.tuple #[.agg #[.int .i64 0, .int .i64 0, .int .i64 0, .int .i64 0, .int .i64 0], .int .i64 4]) ∧ Below w.heap.size w w' := by
  go_enter Try.func24, Try.ntmps24
  go_upto_region 1 with fail
  have eA := (entBox_new w k c s o y 32).alloc (.cells #[.int .i64 0, .int .i64 0, .int .i64 0, .int .i64 0, .int .i64 0] 32)
  have eR := entBox_new (w.alloc (.cells #[.int .i64 k, .int .i64 c, .int .i64 s, .int .i64 o, .int .i64 y] 32)) 0 0 0 0 0 32
  have hB := ((Below.refl w.heap.size w).alloc (Nat.le_refl _) (.cells #[.int .i64 k, .int .i64 c, .int .i64 s, .int .i64 o, .int .i64 y] 32)).alloc (by simp) (.cells #[.int .i64 0, .int .i64 0, .int .i64 0, .int .i64 0, .int .i64 0] 32)
  rw [World.size_alloc] at eR
  generalize ((w.alloc (.cells #[.int .i64 k, .int .i64 c, .int .i64 s, .int .i64 o, .int .i64 y] 32)).alloc (.cells #[.int .i64 0, .int .i64 0, .int .i64 0, .int .i64 0, .int .i64 0] 32)) = W at *
  obtain ⟨⟨c0, c1, c2, c3, c4⟩, fA⟩ := id eA
  go_upto_region 2 with fail
  have hlA := eA.1.lt
  have hlR := eR.1.lt
  have eX := entBox_new W (k) (c) (0) (0) (cy) 32
  have eA := eA.alloc (.cells #[.int .i64 k, .int .i64 c, .int .i64 0, .int .i64 0, .int .i64 cy] 32)
  have eR := eR.alloc (.cells #[.int .i64 k, .int .i64 c, .int .i64 0, .int .i64 0, .int .i64 cy] 32)
  have hB := hB.alloc hB.size (.cells #[.int .i64 k, .int .i64 c, .int .i64 0, .int .i64 0, .int .i64 cy] 32)
  clear c0 c1 c2 c3 c4 fA
  generalize W.alloc (.cells #[.int .i64 k, .int .i64 c, .int .i64 0, .int .i64 0, .int .i64 cy] 32) = X at *
  generalize W.heap.size = bX at *
  obtain ⟨⟨c0, c1, c2, c3, c4⟩, fA⟩ := id eA
  obtain ⟨⟨x0, x1, x2, x3, x4⟩, fX⟩ := id eX
  obtain ⟨⟨r0, r1, r2, r3, r4⟩, fR⟩ := id eR
  clear fA fX fR
  go_wp2_with (go_at_call 54; refine (isEnt_any _ _ _ _ _ _).mono ?_; rintro e w3 ⟨rfl, hb⟩; have eA := eA.below hb; have eX := eX.below hb; have eR := eR.below hb; have hB := hB.trans (hb.mono hB.size); obtain ⟨⟨c0, c1, c2, c3, c4⟩, fA⟩ := id eA; obtain ⟨⟨x0, x1, x2, x3, x4⟩, fX⟩ := id eX; obtain ⟨⟨r0, r1, r2, r3, r4⟩, fR⟩ := id eR; have f0 := fR 0; have f1 := fR 1; have f2 := fR 2; have f3 := fR 3; have f4 := fR 4; clear fA fX fR)
  refine bodyPost_ret (v := .tuple #[.agg #[.int .i64 0, .int .i64 0, .int .i64 0, .int .i64 0, .int .i64 0], .int .i64 4]) (by simp [results, Try.results24, go_sem, r0, r1, r2, r3, r4]) rfl ⟨rfl, ?_⟩
  exact below_store5 hB (Nat.le_succ _) _ _ _ _ _
set_option maxHeartbeats 2000000 in
theorem rgiven_0 (k c s o y cy : Int) (w : World) (h : entB k c s o y = true) (h0 : (k == 0) = true) :
    Calls Try.prog 24 #[.agg #[.int .i64 k, .int .i64 c, .int .i64 s, .int .i64 o, .int .i64 y], .int .i64 cy] w fun e w' => e = .returned (.tuple #[.agg #[.int .i64 0, .int .i64 0, .int .i64 0, .int .i64 0, .int .i64 0], .int .i64 4]) ∧ Below w.heap.size w w' := by
  go_enter Try.func24, Try.ntmps24
  go_upto_region 1 with fail
  have eA := (entBox_new w k c s o y 32).alloc (.cells #[.int .i64 0, .int .i64 0, .int .i64 0, .int .i64 0, .int .i64 0] 32)
  have eR := entBox_new (w.alloc (.cells #[.int .i64 k, .int .i64 c, .int .i64 s, .int .i64 o, .int .i64 y] 32)) 0 0 0 0 0 32
  have hB := ((Below.refl w.heap.size w).alloc (Nat.le_refl _) (.cells #[.int .i64 k, .int .i64 c, .int .i64 s, .int .i64 o, .int .i64 y] 32)).alloc (by simp) (.cells #[.int .i64 0, .int .i64 0, .int .i64 0, .int .i64 0, .int .i64 0] 32)
  rw [World.size_alloc] at eR
  generalize ((w.alloc (.cells #[.int .i64 k, .int .i64 c, .int .i64 s, .int .i64 o, .int .i64 y] 32)).alloc (.cells #[.int .i64 0, .int .i64 0, .int .i64 0, .int .i64 0, .int .i64 0] 32)) = W at *
  obtain ⟨⟨c0, c1, c2, c3, c4⟩, fA⟩ := id eA
  go_upto_region 2 with fail
  have hlA := eA.1.lt
  have hlR := eR.1.lt
  have eX := entBox_new W (k) (c) (0) (0) (cy) 32
  have eA := eA.alloc (.cells #[.int .i64 k, .int .i64 c, .int .i64 0, .int .i64 0, .int .i64 cy] 32)
  have eR := eR.alloc (.cells #[.int .i64 k, .int .i64 c, .int .i64 0, .int .i64 0, .int .i64 cy] 32)
  have hB := hB.alloc hB.size (.cells #[.int .i64 k, .int .i64 c, .int .i64 0, .int .i64 0, .int .i64 cy] 32)
  clear c0 c1 c2 c3 c4 fA
  generalize W.alloc (.cells #[.int .i64 k, .int .i64 c, .int .i64 0, .int .i64 0, .int .i64 cy] 32) = X at *
  generalize W.heap.size = bX at *
  obtain ⟨⟨c0, c1, c2, c3, c4⟩, fA⟩ := id eA
  obtain ⟨⟨x0, x1, x2, x3, x4⟩, fX⟩ := id eX
  obtain ⟨⟨r0, r1, r2, r3, r4⟩, fR⟩ := id eR
  clear fA fX fR
  go_wp2_with (go_at_call 54; refine (isEnt_any _ _ _ _ _ _).mono ?_; rintro e w3 ⟨rfl, hb⟩; have eA := eA.below hb; have eX := eX.below hb; have eR := eR.below hb; have hB := hB.trans (hb.mono hB.size); obtain ⟨⟨c0, c1, c2, c3, c4⟩, fA⟩ := id eA; obtain ⟨⟨x0, x1, x2, x3, x4⟩, fX⟩ := id eX; obtain ⟨⟨r0, r1, r2, r3, r4⟩, fR⟩ := id eR; have f0 := fR 0; have f1 := fR 1; have f2 := fR 2; have f3 := fR 3; have f4 := fR 4; clear fA fX fR)
  refine bodyPost_ret (v := .tuple #[.agg #[.int .i64 0, .int .i64 0, .int .i64 0, .int .i64 0, .int .i64 0], .int .i64 4]) (by simp [results, Try.results24, go_sem, r0, r1, r2, r3, r4]) rfl ⟨rfl, ?_⟩
  exact below_store5 hB (Nat.le_succ _) _ _ _ _ _
set_option maxHeartbeats 2000000 in
theorem rgiven_3 (k c s o y cy : Int) (w : World) (h : entB k c s o y = true) (h0 : (k == 0) = false) (h3 : (k == 3) = true) :
    Calls Try.prog 24 #[.agg #[.int .i64 k, .int .i64 c, .int .i64 s, .int .i64 o, .int .i64 y], .int .i64 cy] w fun e w' => e = .returned (.tuple #[.agg #[.int .i64 0, .int .i64 0, .int .i64 0, .int .i64 0, .int .i64 0], .int .i64 4]) ∧ Below w.heap.size w w' := by
  go_enter Try.func24, Try.ntmps24
  go_upto_region 1 with fail
  have eA := (entBox_new w k c s o y 32).alloc (.cells #[.int .i64 0, .int .i64 0, .int .i64 0, .int .i64 0, .int .i64 0] 32)
  have eR := entBox_new (w.alloc (.cells #[.int .i64 k, .int .i64 c, .int .i64 s, .int .i64 o, .int .i64 y] 32)) 0 0 0 0 0 32
  have hB := ((Below.refl w.heap.size w).alloc (Nat.le_refl _) (.cells #[.int .i64 k, .int .i64 c, .int .i64 s, .int .i64 o, .int .i64 y] 32)).alloc (by simp) (.cells #[.int .i64 0, .int .i64 0, .int .i64 0, .int .i64 0, .int .i64 0] 32)
  rw [World.size_alloc] at eR
  generalize ((w.alloc (.cells #[.int .i64 k, .int .i64 c, .int .i64 s, .int .i64 o, .int .i64 y] 32)).alloc (.cells #[.int .i64 0, .int .i64 0, .int .i64 0, .int .i64 0, .int .i64 0] 32)) = W at *
  obtain ⟨⟨c0, c1, c2, c3, c4⟩, fA⟩ := id eA
  go_upto_region 2 with fail
  have hlA := eA.1.lt
  have hlR := eR.1.lt
  have eX := entBox_new W (k) (c) (0) (0) (cy) 32
  have eA := eA.alloc (.cells #[.int .i64 k, .int .i64 c, .int .i64 0, .int .i64 0, .int .i64 cy] 32)
  have eR := eR.alloc (.cells #[.int .i64 k, .int .i64 c, .int .i64 0, .int .i64 0, .int .i64 cy] 32)
  have hB := hB.alloc hB.size (.cells #[.int .i64 k, .int .i64 c, .int .i64 0, .int .i64 0, .int .i64 cy] 32)
  clear c0 c1 c2 c3 c4 fA
  generalize W.alloc (.cells #[.int .i64 k, .int .i64 c, .int .i64 0, .int .i64 0, .int .i64 cy] 32) = X at *
  generalize W.heap.size = bX at *
  obtain ⟨⟨c0, c1, c2, c3, c4⟩, fA⟩ := id eA
  obtain ⟨⟨x0, x1, x2, x3, x4⟩, fX⟩ := id eX
  obtain ⟨⟨r0, r1, r2, r3, r4⟩, fR⟩ := id eR
  clear fA fX fR
  go_wp2_with (go_at_call 54; refine (isEnt_any _ _ _ _ _ _).mono ?_; rintro e w3 ⟨rfl, hb⟩; have eA := eA.below hb; have eX := eX.below hb; have eR := eR.below hb; have hB := hB.trans (hb.mono hB.size); obtain ⟨⟨c0, c1, c2, c3, c4⟩, fA⟩ := id eA; obtain ⟨⟨x0, x1, x2, x3, x4⟩, fX⟩ := id eX; obtain ⟨⟨r0, r1, r2, r3, r4⟩, fR⟩ := id eR; have f0 := fR 0; have f1 := fR 1; have f2 := fR 2; have f3 := fR 3; have f4 := fR 4; clear fA fX fR)
  refine bodyPost_ret (v := .tuple #[.agg #[.int .i64 0, .int .i64 0, .int .i64 0, .int .i64 0, .int .i64 0], .int .i64 4]) (by simp [results, Try.results24, go_sem, r0, r1, r2, r3, r4]) rfl ⟨rfl, ?_⟩
  exact below_store5 hB (Nat.le_succ _) _ _ _ _ _
set_option maxHeartbeats 2000000 in
theorem rgiven_c (k c s o y cy : Int) (w : World) (h : entB k c s o y = true) (h0 : (k == 0) = false) (h3 : (k == 3) = false) (h2 : entB k c 0 0 cy = false) :
    Calls Try.prog 24 #[.agg #[.int .i64 k, .int .i64 c, .int .i64 s, .int .i64 o, .int .i64 y], .int .i64 cy] w fun e w' => e = .returned (.tuple #[.agg #[.int .i64 0, .int .i64 0, .int .i64 0, .int .i64 0, .int .i64 0], .int .i64 4]) ∧ Below w.heap.size w w' := by
  go_enter Try.func24, Try.ntmps24
  go_upto_region 1 with fail
  have eA := (entBox_new w k c s o y 32).alloc (.cells #[.int .i64 0, .int .i64 0, .int .i64 0, .int .i64 0, .int .i64 0] 32)
  have eR := entBox_new (w.alloc (.cells #[.int .i64 k, .int .i64 c, .int .i64 s, .int .i64 o, .int .i64 y] 32)) 0 0 0 0 0 32
  have hB := ((Below.refl w.heap.size w).alloc (Nat.le_refl _) (.cells #[.int .i64 k, .int .i64 c, .int .i64 s, .int .i64 o, .int .i64 y] 32)).alloc (by simp) (.cells #[.int .i64 0, .int .i64 0, .int .i64 0, .int .i64 0, .int .i64 0] 32)
  rw [World.size_alloc] at eR
  generalize ((w.alloc (.cells #[.int .i64 k, .int .i64 c, .int .i64 s, .int .i64 o, .int .i64 y] 32)).alloc (.cells #[.int .i64 0, .int .i64 0, .int .i64 0, .int .i64 0, .int .i64 0] 32)) = W at *
  obtain ⟨⟨c0, c1, c2, c3, c4⟩, fA⟩ := id eA
  go_upto_region 2 with fail
  have hlA := eA.1.lt
  have hlR := eR.1.lt
  have eX := entBox_new W (k) (c) (0) (0) (cy) 32
  have eA := eA.alloc (.cells #[.int .i64 k, .int .i64 c, .int .i64 0, .int .i64 0, .int .i64 cy] 32)
  have eR := eR.alloc (.cells #[.int .i64 k, .int .i64 c, .int .i64 0, .int .i64 0, .int .i64 cy] 32)
  have hB := hB.alloc hB.size (.cells #[.int .i64 k, .int .i64 c, .int .i64 0, .int .i64 0, .int .i64 cy] 32)
  clear c0 c1 c2 c3 c4 fA
  generalize W.alloc (.cells #[.int .i64 k, .int .i64 c, .int .i64 0, .int .i64 0, .int .i64 cy] 32) = X at *
  generalize W.heap.size = bX at *
  obtain ⟨⟨c0, c1, c2, c3, c4⟩, fA⟩ := id eA
  obtain ⟨⟨x0, x1, x2, x3, x4⟩, fX⟩ := id eX
  obtain ⟨⟨r0, r1, r2, r3, r4⟩, fR⟩ := id eR
  clear fA fX fR
  go_wp2_with (go_at_call 54; refine (isEnt_any _ _ _ _ _ _).mono ?_; rintro e w3 ⟨rfl, hb⟩; have eA := eA.below hb; have eX := eX.below hb; have eR := eR.below hb; have hB := hB.trans (hb.mono hB.size); obtain ⟨⟨c0, c1, c2, c3, c4⟩, fA⟩ := id eA; obtain ⟨⟨x0, x1, x2, x3, x4⟩, fX⟩ := id eX; obtain ⟨⟨r0, r1, r2, r3, r4⟩, fR⟩ := id eR; have f0 := fR 0; have f1 := fR 1; have f2 := fR 2; have f3 := fR 3; have f4 := fR 4; clear fA fX fR)
  refine bodyPost_ret (v := .tuple #[.agg #[.int .i64 0, .int .i64 0, .int .i64 0, .int .i64 0, .int .i64 0], .int .i64 4]) (by simp [results, Try.results24, go_sem, r0, r1, r2, r3, r4]) rfl ⟨rfl, ?_⟩
  exact below_store5 hB (Nat.le_succ _) _ _ _ _ _
set_option maxHeartbeats 2000000 in
theorem rgiven_d (k c s o y cy : Int) (w : World) (h : entB k c s o y = true) (h0 : (k == 0) = false) (h3 : (k == 3) = false) (h2 : entB k c 0 0 cy = true) :
    Calls Try.prog 24 #[.agg #[.int .i64 k, .int .i64 c, .int .i64 s, .int .i64 o, .int .i64 y], .int .i64 cy] w fun e w' => e = .returned (.tuple #[.agg #[.int .i64 k, .int .i64 c, .int .i64 0, .int .i64 0, .int .i64 cy], .int .i64 0]) ∧ Below w.heap.size w w' := by
  go_enter Try.func24, Try.ntmps24
  go_upto_region 1 with fail
  have eA := (entBox_new w k c s o y 32).alloc (.cells #[.int .i64 0, .int .i64 0, .int .i64 0, .int .i64 0, .int .i64 0] 32)
  have eR := entBox_new (w.alloc (.cells #[.int .i64 k, .int .i64 c, .int .i64 s, .int .i64 o, .int .i64 y] 32)) 0 0 0 0 0 32
  have hB := ((Below.refl w.heap.size w).alloc (Nat.le_refl _) (.cells #[.int .i64 k, .int .i64 c, .int .i64 s, .int .i64 o, .int .i64 y] 32)).alloc (by simp) (.cells #[.int .i64 0, .int .i64 0, .int .i64 0, .int .i64 0, .int .i64 0] 32)
  rw [World.size_alloc] at eR
  generalize ((w.alloc (.cells #[.int .i64 k, .int .i64 c, .int .i64 s, .int .i64 o, .int .i64 y] 32)).alloc (.cells #[.int .i64 0, .int .i64 0, .int .i64 0, .int .i64 0, .int .i64 0] 32)) = W at *
  obtain ⟨⟨c0, c1, c2, c3, c4⟩, fA⟩ := id eA
  go_upto_region 2 with fail
  have hlA := eA.1.lt
  have hlR := eR.1.lt
  have eX := entBox_new W (k) (c) (0) (0) (cy) 32
  have eA := eA.alloc (.cells #[.int .i64 k, .int .i64 c, .int .i64 0, .int .i64 0, .int .i64 cy] 32)
  have eR := eR.alloc (.cells #[.int .i64 k, .int .i64 c, .int .i64 0, .int .i64 0, .int .i64 cy] 32)
  have hB := hB.alloc hB.size (.cells #[.int .i64 k, .int .i64 c, .int .i64 0, .int .i64 0, .int .i64 cy] 32)
  clear c0 c1 c2 c3 c4 fA
  generalize W.alloc (.cells #[.int .i64 k, .int .i64 c, .int .i64 0, .int .i64 0, .int .i64 cy] 32) = X at *
  generalize W.heap.size = bX at *
  obtain ⟨⟨c0, c1, c2, c3, c4⟩, fA⟩ := id eA
  obtain ⟨⟨x0, x1, x2, x3, x4⟩, fX⟩ := id eX
  obtain ⟨⟨r0, r1, r2, r3, r4⟩, fR⟩ := id eR
  clear fA fX fR
  go_wp2_with (go_at_call 54; refine (isEnt_any _ _ _ _ _ _).mono ?_; rintro e w3 ⟨rfl, hb⟩; have eA := eA.below hb; have eX := eX.below hb; have eR := eR.below hb; have hB := hB.trans (hb.mono hB.size); obtain ⟨⟨c0, c1, c2, c3, c4⟩, fA⟩ := id eA; obtain ⟨⟨x0, x1, x2, x3, x4⟩, fX⟩ := id eX; obtain ⟨⟨r0, r1, r2, r3, r4⟩, fR⟩ := id eR; have f0 := fR 0; have f1 := fR 1; have f2 := fR 2; have f3 := fR 3; have f4 := fR 4; clear fA fX fR)
  refine bodyPost_ret (v := .tuple #[.agg #[.int .i64 k, .int .i64 c, .int .i64 0, .int .i64 0, .int .i64 cy], .int .i64 0]) (by simp [results, Try.results24, go_sem, r0, r1, r2, r3, r4]) rfl ⟨rfl, ?_⟩
  exact below_store5 hB (Nat.le_succ _) _ _ _ _ _
end Go.Proofs.Ytnodeojeijekcaa
/- What the document's functions on entries return: the word of an entry, the entry of a word. No condition but that each number fits its kind. -/
namespace Go.Proofs.Ytnodeojeijekcaa
open Go.RowKit
set_option linter.unusedVariables false

set_option maxHeartbeats 1000000 in
theorem reenc_yes (k c s o y : Int) (w : World) (h : entB k c s o y = true) :
    Calls Try.prog 29 #[.agg #[.int .i64 k, .int .i64 c, .int .i64 s, .int .i64 o, .int .i64 y]] w fun e w' => e = .returned (.tuple #[.int .u64 (encE k c s o y), .int .i64 0]) ∧ Below w.heap.size w w' := by
  have hbd := entB_bd h
  have wk : IntKind.u64.wrap k = k := IntWalk.u64_in k (by omega)
  have wc : IntKind.u64.wrap c = c := IntWalk.u64_in c (by omega)
  have ws : IntKind.u64.wrap s = s := IntWalk.u64_in s (by omega)
  have wo : IntKind.u64.wrap o = o := IntWalk.u64_in o (by omega)
  have wy : IntKind.u64.wrap y = y := IntWalk.u64_in y (by omega)
  obtain ⟨b1, b2, b3, b4, b5, b6⟩ := hbd
  go_enter Try.func29, Try.ntmps29
  go_wp2_with (go_at_call 54; refine (isEnt_any _ _ _ _ _ _).mono ?_; rintro e w1 ⟨rfl, hb⟩; obtain ⟨c0, c1, c2, c3, c4⟩ := (entAt_new w k c s o y 32).below hb)
  go_ret2
  exact ⟨ret_two rfl rfl, ((Below.refl _ _).alloc (Nat.le_refl _) _).trans (hb.mono (by simp))⟩
set_option maxHeartbeats 1000000 in
theorem reenc_no (k c s o y : Int) (w : World) (h : entB k c s o y = false) :
    Calls Try.prog 29 #[.agg #[.int .i64 k, .int .i64 c, .int .i64 s, .int .i64 o, .int .i64 y]] w fun e w' => e = .returned (.tuple #[.int .u64 0, .int .i64 4]) ∧ Below w.heap.size w w' := by
  go_enter Try.func29, Try.ntmps29
  go_wp2_with (go_at_call 54; refine (isEnt_any _ _ _ _ _ _).mono ?_; rintro e w1 ⟨rfl, hb⟩)
  go_ret2
  exact ⟨rfl, ((Below.refl _ _).alloc (Nat.le_refl _) _).trans (hb.mono (by simp))⟩
theorem reenc_any (k c s o y : Int) (w : World) :
    Calls Try.prog 29 #[.agg #[.int .i64 k, .int .i64 c, .int .i64 s, .int .i64 o, .int .i64 y]] w fun e w' => e = .returned (.tuple #[.int .u64 (eencV k c s o y), .int .i64 (eencF k c s o y)]) ∧ Below w.heap.size w w' := by
  unfold eencV eencF
  cases h : entB k c s o y with
  | true => exact reenc_yes k c s o y w h
  | false => exact reenc_no k c s o y w h
set_option maxHeartbeats 1000000 in
theorem redec_core (x A B C D Y : Int) (w : World) (x0 : 0 ≤ x) (x1 : x < 18446744073709551616) (eA : x % 4 = A) (eB : x / 4 % 16 = B) (eC : x / 64 % 4 = C) (eD : x / 256 % 16 = D) (eY : x / 65536 % 4294967296 = Y) (h : entB A B C D Y = true) (he : (encE A B C D Y != x) = false) :
    Calls Try.prog 19 #[.int .u64 x] w fun e w' => e = .returned (.tuple #[.agg #[.int .i64 A, .int .i64 B, .int .i64 C, .int .i64 D, .int .i64 Y], .int .i64 0]) ∧ Below w.heap.size w w' := by
  have hA : 0 ≤ A ∧ A ≤ 3 := by omega
  have hB : 0 ≤ B ∧ B ≤ 15 := by omega
  have hC : 0 ≤ C ∧ C ≤ 3 := by omega
  have hD : 0 ≤ D ∧ D ≤ 15 := by omega
  have hY : 0 ≤ Y ∧ Y ≤ 4294967295 := by omega
  have wA : IntKind.i64.wrap A = A := IntWalk.i64_in A (by omega)
  have wB : IntKind.i64.wrap B = B := IntWalk.i64_in B (by omega)
  have wC : IntKind.i64.wrap C = C := IntWalk.i64_in C (by omega)
  have wD : IntKind.i64.wrap D = D := IntWalk.i64_in D (by omega)
  have wY : IntKind.i64.wrap Y = Y := IntWalk.i64_in Y (by omega)
  go_enter Try.func19, Try.ntmps19
  go_wp2_with fail
  refine (reenc_yes A B C D Y _ h).mono ?_
  rintro e w5 ⟨rfl, hb5⟩
  have hN := (entAt_new (w.alloc (.cells #[.int .i64 0, .int .i64 0, .int .i64 0, .int .i64 0, .int .i64 0] 32)) A B C D Y 32).below hb5
  have hO := ((entAt_new w 0 0 0 0 0 32).alloc (.cells #[.int .i64 A, .int .i64 B, .int .i64 C, .int .i64 D, .int .i64 Y] 32)).below hb5
  have hO5 : Below (w.alloc (.cells #[.int .i64 0, .int .i64 0, .int .i64 0, .int .i64 0, .int .i64 0] 32)).heap.size (w.alloc (.cells #[.int .i64 0, .int .i64 0, .int .i64 0, .int .i64 0, .int .i64 0] 32)) w5 := ((Below.refl _ _).alloc (Nat.le_refl _) _).trans (hb5.mono (by simp))
  have hB5 : Below w.heap.size w w5 := ((Below.refl _ _).alloc (Nat.le_refl _) _).trans (hO5.mono (by simp))
  obtain ⟨f0, f1, f2, f3, f4⟩ := box5f hO5
  rw [World.size_alloc] at hN
  obtain ⟨n0, n1, n2, n3, n4⟩ := id hN
  obtain ⟨o0, o1, o2, o3, o4⟩ := id hO
  clear hb5 hO5 eA eB eC eD eY
  go_wp2
  refine bodyPost_ret (v := .tuple #[.agg #[.int .i64 A, .int .i64 B, .int .i64 C, .int .i64 D, .int .i64 Y], .int .i64 0]) (by simp [results, Try.results19, go_sem, o0, o1, o2, o3, o4]) rfl ⟨rfl, ?_⟩
  exact ((((hB5.setCell (Nat.le_refl _) _).setCell (Nat.le_refl _) _).setCell (Nat.le_refl _) _).setCell (Nat.le_refl _) _).setCell (Nat.le_refl _) _
set_option maxHeartbeats 1000000 in
theorem redec_part (x A B C D Y : Int) (w : World) (x0 : 0 ≤ x) (x1 : x < 18446744073709551616) (eA : x % 4 = A) (eB : x / 4 % 16 = B) (eC : x / 64 % 4 = C) (eD : x / 256 % 16 = D) (eY : x / 65536 % 4294967296 = Y) (h : entB A B C D Y = true) (he : (encE A B C D Y != x) = true) :
    Calls Try.prog 19 #[.int .u64 x] w fun e w' => e = .returned (.tuple #[.agg #[.int .i64 0, .int .i64 0, .int .i64 0, .int .i64 0, .int .i64 0], .int .i64 4]) ∧ Below w.heap.size w w' := by
  have hA : 0 ≤ A ∧ A ≤ 3 := by omega
  have hB : 0 ≤ B ∧ B ≤ 15 := by omega
  have hC : 0 ≤ C ∧ C ≤ 3 := by omega
  have hD : 0 ≤ D ∧ D ≤ 15 := by omega
  have hY : 0 ≤ Y ∧ Y ≤ 4294967295 := by omega
  have wA : IntKind.i64.wrap A = A := IntWalk.i64_in A (by omega)
  have wB : IntKind.i64.wrap B = B := IntWalk.i64_in B (by omega)
  have wC : IntKind.i64.wrap C = C := IntWalk.i64_in C (by omega)
  have wD : IntKind.i64.wrap D = D := IntWalk.i64_in D (by omega)
  have wY : IntKind.i64.wrap Y = Y := IntWalk.i64_in Y (by omega)
  go_enter Try.func19, Try.ntmps19
  go_wp2_with fail
  refine (reenc_yes A B C D Y _ h).mono ?_
  rintro e w5 ⟨rfl, hb5⟩
  have hN := (entAt_new (w.alloc (.cells #[.int .i64 0, .int .i64 0, .int .i64 0, .int .i64 0, .int .i64 0] 32)) A B C D Y 32).below hb5
  have hO := ((entAt_new w 0 0 0 0 0 32).alloc (.cells #[.int .i64 A, .int .i64 B, .int .i64 C, .int .i64 D, .int .i64 Y] 32)).below hb5
  have hO5 : Below (w.alloc (.cells #[.int .i64 0, .int .i64 0, .int .i64 0, .int .i64 0, .int .i64 0] 32)).heap.size (w.alloc (.cells #[.int .i64 0, .int .i64 0, .int .i64 0, .int .i64 0, .int .i64 0] 32)) w5 := ((Below.refl _ _).alloc (Nat.le_refl _) _).trans (hb5.mono (by simp))
  have hB5 : Below w.heap.size w w5 := ((Below.refl _ _).alloc (Nat.le_refl _) _).trans (hO5.mono (by simp))
  obtain ⟨f0, f1, f2, f3, f4⟩ := box5f hO5
  rw [World.size_alloc] at hN
  obtain ⟨n0, n1, n2, n3, n4⟩ := id hN
  obtain ⟨o0, o1, o2, o3, o4⟩ := id hO
  clear hb5 hO5 eA eB eC eD eY
  go_wp2
  refine bodyPost_ret (v := .tuple #[.agg #[.int .i64 0, .int .i64 0, .int .i64 0, .int .i64 0, .int .i64 0], .int .i64 4]) (by simp [results, Try.results19, go_sem, o0, o1, o2, o3, o4]) rfl ⟨rfl, ?_⟩
  exact ((((hB5.setCell (Nat.le_refl _) _).setCell (Nat.le_refl _) _).setCell (Nat.le_refl _) _).setCell (Nat.le_refl _) _).setCell (Nat.le_refl _) _
set_option maxHeartbeats 1000000 in
theorem redec_none (x A B C D Y : Int) (w : World) (x0 : 0 ≤ x) (x1 : x < 18446744073709551616) (eA : x % 4 = A) (eB : x / 4 % 16 = B) (eC : x / 64 % 4 = C) (eD : x / 256 % 16 = D) (eY : x / 65536 % 4294967296 = Y) (h : entB A B C D Y = false) :
    Calls Try.prog 19 #[.int .u64 x] w fun e w' => e = .returned (.tuple #[.agg #[.int .i64 0, .int .i64 0, .int .i64 0, .int .i64 0, .int .i64 0], .int .i64 4]) ∧ Below w.heap.size w w' := by
  have hA : 0 ≤ A ∧ A ≤ 3 := by omega
  have hB : 0 ≤ B ∧ B ≤ 15 := by omega
  have hC : 0 ≤ C ∧ C ≤ 3 := by omega
  have hD : 0 ≤ D ∧ D ≤ 15 := by omega
  have hY : 0 ≤ Y ∧ Y ≤ 4294967295 := by omega
  have wA : IntKind.i64.wrap A = A := IntWalk.i64_in A (by omega)
  have wB : IntKind.i64.wrap B = B := IntWalk.i64_in B (by omega)
  have wC : IntKind.i64.wrap C = C := IntWalk.i64_in C (by omega)
  have wD : IntKind.i64.wrap D = D := IntWalk.i64_in D (by omega)
  have wY : IntKind.i64.wrap Y = Y := IntWalk.i64_in Y (by omega)
  go_enter Try.func19, Try.ntmps19
  go_wp2_with fail
  refine (reenc_no A B C D Y _ h).mono ?_
  rintro e w5 ⟨rfl, hb5⟩
  have hN := (entAt_new (w.alloc (.cells #[.int .i64 0, .int .i64 0, .int .i64 0, .int .i64 0, .int .i64 0] 32)) A B C D Y 32).below hb5
  have hO := ((entAt_new w 0 0 0 0 0 32).alloc (.cells #[.int .i64 A, .int .i64 B, .int .i64 C, .int .i64 D, .int .i64 Y] 32)).below hb5
  have hO5 : Below (w.alloc (.cells #[.int .i64 0, .int .i64 0, .int .i64 0, .int .i64 0, .int .i64 0] 32)).heap.size (w.alloc (.cells #[.int .i64 0, .int .i64 0, .int .i64 0, .int .i64 0, .int .i64 0] 32)) w5 := ((Below.refl _ _).alloc (Nat.le_refl _) _).trans (hb5.mono (by simp))
  have hB5 : Below w.heap.size w w5 := ((Below.refl _ _).alloc (Nat.le_refl _) _).trans (hO5.mono (by simp))
  obtain ⟨f0, f1, f2, f3, f4⟩ := box5f hO5
  rw [World.size_alloc] at hN
  obtain ⟨n0, n1, n2, n3, n4⟩ := id hN
  obtain ⟨o0, o1, o2, o3, o4⟩ := id hO
  clear hb5 hO5 eA eB eC eD eY
  go_wp2
  refine bodyPost_ret (v := .tuple #[.agg #[.int .i64 0, .int .i64 0, .int .i64 0, .int .i64 0, .int .i64 0], .int .i64 4]) (by simp [results, Try.results19, go_sem, o0, o1, o2, o3, o4]) rfl ⟨rfl, ?_⟩
  exact ((((hB5.setCell (Nat.le_refl _) _).setCell (Nat.le_refl _) _).setCell (Nat.le_refl _) _).setCell (Nat.le_refl _) _).setCell (Nat.le_refl _) _
theorem redec_any (x : Int) (w : World) (hx : U64 x) :
    Calls Try.prog 19 #[.int .u64 x] w fun e w' => e = .returned (.tuple #[.agg #[.int .i64 (decD (edecOk x) (x % 4)), .int .i64 (decD (edecOk x) (x / 4 % 16)), .int .i64 (decD (edecOk x) (x / 64 % 4)), .int .i64 (decD (edecOk x) (x / 256 % 16)), .int .i64 (decD (edecOk x) (x / 65536 % 4294967296))], .int .i64 (decF (edecOk x))]) ∧ Below w.heap.size w w' := by
  unfold decD decF
  cases h : edecOk x with
  | true =>
    unfold edecOk at h
    rw [Bool.and_eq_true, beq_iff_eq] at h
    exact redec_core x (x % 4) (x / 4 % 16) (x / 64 % 4) (x / 256 % 16) (x / 65536 % 4294967296) w hx.1 hx.2 rfl rfl rfl rfl rfl h.1 (by rw [h.2]; simp)
  | false =>
    unfold edecOk at h
    cases hb : entB (x % 4) (x / 4 % 16) (x / 64 % 4) (x / 256 % 16) (x / 65536 % 4294967296) with
    | true =>
      rw [hb, Bool.true_and] at h
      exact redec_part x (x % 4) (x / 4 % 16) (x / 64 % 4) (x / 256 % 16) (x / 65536 % 4294967296) w hx.1 hx.2 rfl rfl rfl rfl rfl hb (by rw [bne, h]; rfl)
    | false => exact redec_none x (x % 4) (x / 4 % 16) (x / 64 % 4) (x / 256 % 16) (x / 65536 % 4294967296) w hx.1 hx.2 rfl rfl rfl rfl rfl hb
end Go.Proofs.Ytnodeojeijekcaa
