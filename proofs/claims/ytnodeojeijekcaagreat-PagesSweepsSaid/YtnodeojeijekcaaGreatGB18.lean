/- Texts of this seat, one behind the other: each says at its head what it holds. No condition of its own. -/
import Derived.Test.YtnodeojeijekcaaGreatGB15
import Derived.Test.YtnodeojeijekcaaGreatGB16
import Derived.Test.YtnodeojeijekcaaGreatGB17
/- What the document's functions on entries return. No condition but that each number fits its kind. -/
namespace Go.Proofs.YtnodeojeijekcaaGreat
open Go.RowKit
set_option linter.unusedVariables false
set_option linter.unusedSimpArgs false

theorem isEnt_any (k c s o y : Int) (w : World) :
    Calls Tryz.prog 65 #[.agg #[.int .i64 k, .int .i64 c, .int .i64 s, .int .i64 o, .int .i64 y]] w fun e w' => e = .returned (.bool (entB k c s o y)) ∧ Below w.heap.size w w' := by
  by_cases k0 : k = 0
  · subst k0; exact isEnt_0 c s o y w
  by_cases k1 : k = 1
  · subst k1
    by_cases s0 : s = 0
    · subst s0; exact isEnt_10 c o y w
    by_cases s1 : s = 1
    · subst s1; exact isEnt_11 c o y w
    by_cases s2 : s = 2
    · subst s2; exact isEnt_12 c o y w
    exact isEnt_1x c s o y w s0 s1 s2
  by_cases k2 : k = 2
  · subst k2
    by_cases s0 : s = 0
    · subst s0; exact isEnt_20 c o y w
    by_cases s1 : s = 1
    · subst s1; exact isEnt_21 c o y w
    by_cases s2 : s = 2
    · subst s2; exact isEnt_22 c o y w
    exact isEnt_2x c s o y w s0 s1 s2
  by_cases k3 : k = 3
  · subst k3; exact isEnt_3 c s o y w
  by_cases hk : k < 0
  · exact isEnt_lo k c s o y w hk
  · exact isEnt_hi k c s o y w (by omega)
end Go.Proofs.YtnodeojeijekcaaGreat
/- What Due, Ready, Taken and Given of package header return. No condition. -/
namespace Go.Proofs.YtnodeojeijekcaaGreat
open Go.RowKit
set_option linter.unusedVariables false

def dueB (k c s o y cy : Int) : Bool := entB k c s o y && (holdsB k && (s == 0 && decide (y < cy)))
def readyB (k c s o y cl cy : Int) : Bool := entB k c s o y && (k == 1 && (s == 0 && (c == cl && y == cy)))
set_option maxHeartbeats 1000000 in
theorem due_a (k c s o y cy : Int) (w : World) (h : entB k c s o y = false) :
    Calls Tryz.prog 73 #[.agg #[.int .i64 k, .int .i64 c, .int .i64 s, .int .i64 o, .int .i64 y], .int .i64 cy] w fun e w' => e = .returned (.bool false) ∧ Below w.heap.size w w' := by
  go_enter Tryz.func73, Tryz.ntmps73
  go_wp2_with (first | (go_at_call 87; refine (entValid_any _ _ _ _ _ _).mono ?_; rintro e w1 ⟨rfl, hb⟩; have hA := ((Below.refl w.heap.size w).alloc (Nat.le_refl _) (.cells #[.int .i64 k, .int .i64 c, .int .i64 s, .int .i64 o, .int .i64 y] 83)).trans (hb.mono (by simp)); have hsA := hA.size; have hlt0 := ((entAt_new w k c s o y 83).below hb).lt; obtain ⟨c0, c1, c2, c3, c4⟩ := (entAt_new w k c s o y 83).below hb) | (go_at_call 88; refine (holds_any _ _ _ _ _ _).mono ?_; rintro e w2 ⟨rfl, rfl⟩))
  go_ret
  exact ⟨rfl, hA⟩
set_option maxHeartbeats 1000000 in
theorem due_b (k c s o y cy : Int) (w : World) (h : entB k c s o y = true) (h2 : holdsB k = false) :
    Calls Tryz.prog 73 #[.agg #[.int .i64 k, .int .i64 c, .int .i64 s, .int .i64 o, .int .i64 y], .int .i64 cy] w fun e w' => e = .returned (.bool false) ∧ Below w.heap.size w w' := by
  go_enter Tryz.func73, Tryz.ntmps73
  go_wp2_with (first | (go_at_call 87; refine (entValid_any _ _ _ _ _ _).mono ?_; rintro e w1 ⟨rfl, hb⟩; have hA := ((Below.refl w.heap.size w).alloc (Nat.le_refl _) (.cells #[.int .i64 k, .int .i64 c, .int .i64 s, .int .i64 o, .int .i64 y] 83)).trans (hb.mono (by simp)); have hsA := hA.size; have hlt0 := ((entAt_new w k c s o y 83).below hb).lt; obtain ⟨c0, c1, c2, c3, c4⟩ := (entAt_new w k c s o y 83).below hb) | (go_at_call 88; refine (holds_any _ _ _ _ _ _).mono ?_; rintro e w2 ⟨rfl, rfl⟩))
  go_ret
  exact ⟨rfl, hA.alloc hsA _⟩
set_option maxHeartbeats 1000000 in
theorem due_c (k c s o y cy : Int) (w : World) (h : entB k c s o y = true) (h2 : holdsB k = true) (h3 : (s == 0) = false) :
    Calls Tryz.prog 73 #[.agg #[.int .i64 k, .int .i64 c, .int .i64 s, .int .i64 o, .int .i64 y], .int .i64 cy] w fun e w' => e = .returned (.bool false) ∧ Below w.heap.size w w' := by
  go_enter Tryz.func73, Tryz.ntmps73
  go_wp2_with (first | (go_at_call 87; refine (entValid_any _ _ _ _ _ _).mono ?_; rintro e w1 ⟨rfl, hb⟩; have hA := ((Below.refl w.heap.size w).alloc (Nat.le_refl _) (.cells #[.int .i64 k, .int .i64 c, .int .i64 s, .int .i64 o, .int .i64 y] 83)).trans (hb.mono (by simp)); have hsA := hA.size; have hlt0 := ((entAt_new w k c s o y 83).below hb).lt; obtain ⟨c0, c1, c2, c3, c4⟩ := (entAt_new w k c s o y 83).below hb) | (go_at_call 88; refine (holds_any _ _ _ _ _ _).mono ?_; rintro e w2 ⟨rfl, rfl⟩))
  go_ret
  exact ⟨rfl, hA.alloc hsA _⟩
set_option maxHeartbeats 1000000 in
theorem due_d (k c s o y cy : Int) (w : World) (h : entB k c s o y = true) (h2 : holdsB k = true) (h3 : (s == 0) = true) :
    Calls Tryz.prog 73 #[.agg #[.int .i64 k, .int .i64 c, .int .i64 s, .int .i64 o, .int .i64 y], .int .i64 cy] w fun e w' => e = .returned (.bool (decide (y < cy))) ∧ Below w.heap.size w w' := by
  go_enter Tryz.func73, Tryz.ntmps73
  go_wp2_with (first | (go_at_call 87; refine (entValid_any _ _ _ _ _ _).mono ?_; rintro e w1 ⟨rfl, hb⟩; have hA := ((Below.refl w.heap.size w).alloc (Nat.le_refl _) (.cells #[.int .i64 k, .int .i64 c, .int .i64 s, .int .i64 o, .int .i64 y] 83)).trans (hb.mono (by simp)); have hsA := hA.size; have hlt0 := ((entAt_new w k c s o y 83).below hb).lt; obtain ⟨c0, c1, c2, c3, c4⟩ := (entAt_new w k c s o y 83).below hb) | (go_at_call 88; refine (holds_any _ _ _ _ _ _).mono ?_; rintro e w2 ⟨rfl, rfl⟩))
  go_ret
  exact ⟨rfl, hA.alloc hsA _⟩
theorem due_any (k c s o y cy : Int) (w : World) :
    Calls Tryz.prog 73 #[.agg #[.int .i64 k, .int .i64 c, .int .i64 s, .int .i64 o, .int .i64 y], .int .i64 cy] w fun e w' => e = .returned (.bool (dueB k c s o y cy)) ∧ Below w.heap.size w w' := by
  unfold dueB
  cases h : entB k c s o y with
  | false => exact due_a k c s o y cy w h
  | true =>
    cases h2 : holdsB k with
    | false => exact due_b k c s o y cy w h h2
    | true =>
      cases h3 : s == 0 with
      | false => exact due_c k c s o y cy w h h2 h3
      | true => exact due_d k c s o y cy w h h2 h3
end Go.Proofs.YtnodeojeijekcaaGreat
/- What the document's Due and Ready return, for all entries. No condition. -/
namespace Go.Proofs.YtnodeojeijekcaaGreat
open Go.RowKit
set_option linter.unusedVariables false
set_option linter.unusedSimpArgs false
set_option maxHeartbeats 2000000 in
theorem rdue_any (k c s o y cy : Int) (w : World) :
    Calls Tryz.prog 37 #[.agg #[.int .i64 k, .int .i64 c, .int .i64 s, .int .i64 o, .int .i64 y], .int .i64 cy] w fun e w' => e = .returned (.bool (dueB k c s o y cy)) ∧ Below w.heap.size w w' := by
  unfold dueB holdsB
  cases h : entB k c s o y <;> cases e1 : (k == 1) <;> cases e2 : (k == 2) <;> cases e3 : (s == 0)
  all_goals
    go_enter Tryz.func37, Tryz.ntmps37
    go_wp2_with (go_at_call 65; refine (isEnt_any _ _ _ _ _ _).mono ?_; rintro e w1 ⟨rfl, hb⟩; have hA := ((Below.refl w.heap.size w).alloc (Nat.le_refl _) (.cells #[.int .i64 k, .int .i64 c, .int .i64 s, .int .i64 o, .int .i64 y] 71)).trans (hb.mono (by simp)); obtain ⟨c0, c1, c2, c3, c4⟩ := (entAt_new w k c s o y 71).below hb)
    go_ret
    exact ⟨rfl, hA⟩
end Go.Proofs.YtnodeojeijekcaaGreat
/- What Taken and Given of package header return. No condition. -/
namespace Go.Proofs.YtnodeojeijekcaaGreat
open Go.RowKit
set_option linter.unusedVariables false

theorem holds_below (k c s o y : Int) (w : World) :
    Calls Tryz.prog 88 #[.agg #[.int .i64 k, .int .i64 c, .int .i64 s, .int .i64 o, .int .i64 y]] w fun e w' => e = .returned (.bool (holdsB k)) ∧ Below w.heap.size w w' := by
  refine (holds_any k c s o y w).mono ?_
  rintro e w' ⟨rfl, rfl⟩
  exact ⟨rfl, (Below.refl _ _).alloc (Nat.le_refl _) _⟩
/-- A box of one's own that may be written. -/
def EntBox (W : World) (b : Nat) (k c s o y : Int) : Prop := EntAt W b k c s o y ∧ ∀ i, W.frozen? ⟨b, i, none⟩ = false
theorem EntBox.below {W W' : World} {b : Nat} {k c s o y : Int} (h : EntBox W b k c s o y) (hb : Below W.heap.size W W') : EntBox W' b k c s o y :=
  ⟨h.1.below hb, fun i => by rw [hb.frozen (p := ⟨b, i, none⟩) h.1.lt]; exact h.2 i⟩
theorem entBox_new (W : World) (k c s o y : Int) (t : TypeId) : EntBox (W.alloc (.cells #[.int .i64 k, .int .i64 c, .int .i64 s, .int .i64 o, .int .i64 y] t)) W.heap.size k c s o y :=
  ⟨entAt_new W k c s o y t, fun i => World.frozen?_alloc_new ..⟩
theorem EntBox.alloc {W : World} {b : Nat} {k c s o y : Int} (h : EntBox W b k c s o y) (ob : Obj) : EntBox (W.alloc ob) b k c s o y := h.below ((Below.refl _ _).alloc (Nat.le_refl _) _)
/-- A box of one's own, all of it written anew. -/
theorem below_store5 {W w : World} {b n : Nat} (h : Below n w W) (hb : n ≤ b) (v0 v1 v2 v3 v4 : Value) : Below n w (((((W.setCell ⟨b, 0, none⟩ v0).setCell ⟨b, 1, none⟩ v1).setCell ⟨b, 2, none⟩ v2).setCell ⟨b, 3, none⟩ v3).setCell ⟨b, 4, none⟩ v4) :=
  ((((h.setCell hb _).setCell hb _).setCell hb _).setCell hb _).setCell hb _
def ZeroE : Value := .agg #[.int .i64 0, .int .i64 0, .int .i64 0, .int .i64 0, .int .i64 0]
set_option maxHeartbeats 1000000 in
theorem given_a (k c s o y cy : Int) (w : World) (h : holdsB k = false) :
    Calls Tryz.prog 80 #[.agg #[.int .i64 k, .int .i64 c, .int .i64 s, .int .i64 o, .int .i64 y], .int .i64 cy] w fun e w' => e = .returned (.tuple #[.agg #[.int .i64 0, .int .i64 0, .int .i64 0, .int .i64 0, .int .i64 0], .int .i64 4]) ∧ Below w.heap.size w w' := by
  go_enter Tryz.func80, Tryz.ntmps80
  go_upto_region 1 with fail
  have eA := (entBox_new w k c s o y 83).alloc (.cells #[.int .i64 0, .int .i64 0, .int .i64 0, .int .i64 0, .int .i64 0] 83)
  have eR := entBox_new (w.alloc (.cells #[.int .i64 k, .int .i64 c, .int .i64 s, .int .i64 o, .int .i64 y] 83)) 0 0 0 0 0 83
  have hB := ((Below.refl w.heap.size w).alloc (Nat.le_refl _) (.cells #[.int .i64 k, .int .i64 c, .int .i64 s, .int .i64 o, .int .i64 y] 83)).alloc (by simp) (.cells #[.int .i64 0, .int .i64 0, .int .i64 0, .int .i64 0, .int .i64 0] 83)
  rw [World.size_alloc] at eR
  generalize ((w.alloc (.cells #[.int .i64 k, .int .i64 c, .int .i64 s, .int .i64 o, .int .i64 y] 83)).alloc (.cells #[.int .i64 0, .int .i64 0, .int .i64 0, .int .i64 0, .int .i64 0] 83)) = W at *
  obtain ⟨⟨c0, c1, c2, c3, c4⟩, fA⟩ := id eA
  go_upto_region 2 with fail
  have eX := entBox_new W k c 0 0 cy 83
  have eA := eA.alloc (.cells #[.int .i64 k, .int .i64 c, .int .i64 0, .int .i64 0, .int .i64 cy] 83)
  have eR := eR.alloc (.cells #[.int .i64 k, .int .i64 c, .int .i64 0, .int .i64 0, .int .i64 cy] 83)
  have hB := hB.alloc hB.size (.cells #[.int .i64 k, .int .i64 c, .int .i64 0, .int .i64 0, .int .i64 cy] 83)
  clear c0 c1 c2 c3 c4 fA
  generalize W.alloc (.cells #[.int .i64 k, .int .i64 c, .int .i64 0, .int .i64 0, .int .i64 cy] 83) = X at *
  generalize W.heap.size = bX at *
  obtain ⟨⟨c0, c1, c2, c3, c4⟩, fA⟩ := id eA
  clear fA
  go_wp2_with (first | (go_at_call 88; refine (holds_below _ _ _ _ _ _).mono ?_; rintro e w2 ⟨rfl, hb⟩; have eA := eA.below hb; have eX := eX.below hb; have eR := eR.below hb; have hB := hB.trans (hb.mono hB.size); obtain ⟨⟨c0, c1, c2, c3, c4⟩, fA⟩ := id eA; obtain ⟨⟨x0, x1, x2, x3, x4⟩, fX⟩ := id eX; obtain ⟨⟨r0, r1, r2, r3, r4⟩, fR⟩ := id eR; have f0 := fR 0; have f1 := fR 1; have f2 := fR 2; have f3 := fR 3; have f4 := fR 4; clear fA fX fR) | (go_at_call 87; refine (entValid_any _ _ _ _ _ _).mono ?_; rintro e w3 ⟨rfl, hb⟩; have eA := eA.below hb; have eX := eX.below hb; have eR := eR.below hb; have hB := hB.trans (hb.mono hB.size); obtain ⟨⟨c0, c1, c2, c3, c4⟩, fA⟩ := id eA; obtain ⟨⟨x0, x1, x2, x3, x4⟩, fX⟩ := id eX; obtain ⟨⟨r0, r1, r2, r3, r4⟩, fR⟩ := id eR; have f0 := fR 0; have f1 := fR 1; have f2 := fR 2; have f3 := fR 3; have f4 := fR 4; clear fA fX fR))
  refine bodyPost_ret (v := .tuple #[.agg #[.int .i64 0, .int .i64 0, .int .i64 0, .int .i64 0, .int .i64 0], .int .i64 4]) (by simp [results, Tryz.results80, go_sem, r0, r1, r2, r3, r4]) rfl ⟨rfl, ?_⟩
  exact below_store5 hB (Nat.le_succ _) _ _ _ _ _
set_option maxHeartbeats 1000000 in
theorem given_b (k c s o y cy : Int) (w : World) (h : holdsB k = true) (h2 : entB k c s o y = false) :
    Calls Tryz.prog 80 #[.agg #[.int .i64 k, .int .i64 c, .int .i64 s, .int .i64 o, .int .i64 y], .int .i64 cy] w fun e w' => e = .returned (.tuple #[.agg #[.int .i64 0, .int .i64 0, .int .i64 0, .int .i64 0, .int .i64 0], .int .i64 4]) ∧ Below w.heap.size w w' := by
  go_enter Tryz.func80, Tryz.ntmps80
  go_upto_region 1 with fail
  have eA := (entBox_new w k c s o y 83).alloc (.cells #[.int .i64 0, .int .i64 0, .int .i64 0, .int .i64 0, .int .i64 0] 83)
  have eR := entBox_new (w.alloc (.cells #[.int .i64 k, .int .i64 c, .int .i64 s, .int .i64 o, .int .i64 y] 83)) 0 0 0 0 0 83
  have hB := ((Below.refl w.heap.size w).alloc (Nat.le_refl _) (.cells #[.int .i64 k, .int .i64 c, .int .i64 s, .int .i64 o, .int .i64 y] 83)).alloc (by simp) (.cells #[.int .i64 0, .int .i64 0, .int .i64 0, .int .i64 0, .int .i64 0] 83)
  rw [World.size_alloc] at eR
  generalize ((w.alloc (.cells #[.int .i64 k, .int .i64 c, .int .i64 s, .int .i64 o, .int .i64 y] 83)).alloc (.cells #[.int .i64 0, .int .i64 0, .int .i64 0, .int .i64 0, .int .i64 0] 83)) = W at *
  obtain ⟨⟨c0, c1, c2, c3, c4⟩, fA⟩ := id eA
  go_upto_region 2 with fail
  have eX := entBox_new W k c 0 0 cy 83
  have eA := eA.alloc (.cells #[.int .i64 k, .int .i64 c, .int .i64 0, .int .i64 0, .int .i64 cy] 83)
  have eR := eR.alloc (.cells #[.int .i64 k, .int .i64 c, .int .i64 0, .int .i64 0, .int .i64 cy] 83)
  have hB := hB.alloc hB.size (.cells #[.int .i64 k, .int .i64 c, .int .i64 0, .int .i64 0, .int .i64 cy] 83)
  clear c0 c1 c2 c3 c4 fA
  generalize W.alloc (.cells #[.int .i64 k, .int .i64 c, .int .i64 0, .int .i64 0, .int .i64 cy] 83) = X at *
  generalize W.heap.size = bX at *
  obtain ⟨⟨c0, c1, c2, c3, c4⟩, fA⟩ := id eA
  clear fA
  go_wp2_with (first | (go_at_call 88; refine (holds_below _ _ _ _ _ _).mono ?_; rintro e w2 ⟨rfl, hb⟩; have eA := eA.below hb; have eX := eX.below hb; have eR := eR.below hb; have hB := hB.trans (hb.mono hB.size); obtain ⟨⟨c0, c1, c2, c3, c4⟩, fA⟩ := id eA; obtain ⟨⟨x0, x1, x2, x3, x4⟩, fX⟩ := id eX; obtain ⟨⟨r0, r1, r2, r3, r4⟩, fR⟩ := id eR; have f0 := fR 0; have f1 := fR 1; have f2 := fR 2; have f3 := fR 3; have f4 := fR 4; clear fA fX fR) | (go_at_call 87; refine (entValid_any _ _ _ _ _ _).mono ?_; rintro e w3 ⟨rfl, hb⟩; have eA := eA.below hb; have eX := eX.below hb; have eR := eR.below hb; have hB := hB.trans (hb.mono hB.size); obtain ⟨⟨c0, c1, c2, c3, c4⟩, fA⟩ := id eA; obtain ⟨⟨x0, x1, x2, x3, x4⟩, fX⟩ := id eX; obtain ⟨⟨r0, r1, r2, r3, r4⟩, fR⟩ := id eR; have f0 := fR 0; have f1 := fR 1; have f2 := fR 2; have f3 := fR 3; have f4 := fR 4; clear fA fX fR))
  refine bodyPost_ret (v := .tuple #[.agg #[.int .i64 0, .int .i64 0, .int .i64 0, .int .i64 0, .int .i64 0], .int .i64 4]) (by simp [results, Tryz.results80, go_sem, r0, r1, r2, r3, r4]) rfl ⟨rfl, ?_⟩
  exact below_store5 hB (Nat.le_succ _) _ _ _ _ _
set_option maxHeartbeats 1000000 in
theorem given_c (k c s o y cy : Int) (w : World) (h : holdsB k = true) (h2 : entB k c s o y = true) (h3 : entB k c 0 0 cy = false) :
    Calls Tryz.prog 80 #[.agg #[.int .i64 k, .int .i64 c, .int .i64 s, .int .i64 o, .int .i64 y], .int .i64 cy] w fun e w' => e = .returned (.tuple #[.agg #[.int .i64 0, .int .i64 0, .int .i64 0, .int .i64 0, .int .i64 0], .int .i64 4]) ∧ Below w.heap.size w w' := by
  go_enter Tryz.func80, Tryz.ntmps80
  go_upto_region 1 with fail
  have eA := (entBox_new w k c s o y 83).alloc (.cells #[.int .i64 0, .int .i64 0, .int .i64 0, .int .i64 0, .int .i64 0] 83)
  have eR := entBox_new (w.alloc (.cells #[.int .i64 k, .int .i64 c, .int .i64 s, .int .i64 o, .int .i64 y] 83)) 0 0 0 0 0 83
  have hB := ((Below.refl w.heap.size w).alloc (Nat.le_refl _) (.cells #[.int .i64 k, .int .i64 c, .int .i64 s, .int .i64 o, .int .i64 y] 83)).alloc (by simp) (.cells #[.int .i64 0, .int .i64 0, .int .i64 0, .int .i64 0, .int .i64 0] 83)
  rw [World.size_alloc] at eR
  generalize ((w.alloc (.cells #[.int .i64 k, .int .i64 c, .int .i64 s, .int .i64 o, .int .i64 y] 83)).alloc (.cells #[.int .i64 0, .int .i64 0, .int .i64 0, .int .i64 0, .int .i64 0] 83)) = W at *
  obtain ⟨⟨c0, c1, c2, c3, c4⟩, fA⟩ := id eA
  go_upto_region 2 with fail
  have eX := entBox_new W k c 0 0 cy 83
  have eA := eA.alloc (.cells #[.int .i64 k, .int .i64 c, .int .i64 0, .int .i64 0, .int .i64 cy] 83)
  have eR := eR.alloc (.cells #[.int .i64 k, .int .i64 c, .int .i64 0, .int .i64 0, .int .i64 cy] 83)
  have hB := hB.alloc hB.size (.cells #[.int .i64 k, .int .i64 c, .int .i64 0, .int .i64 0, .int .i64 cy] 83)
  clear c0 c1 c2 c3 c4 fA
  generalize W.alloc (.cells #[.int .i64 k, .int .i64 c, .int .i64 0, .int .i64 0, .int .i64 cy] 83) = X at *
  generalize W.heap.size = bX at *
  obtain ⟨⟨c0, c1, c2, c3, c4⟩, fA⟩ := id eA
  clear fA
  go_wp2_with (first | (go_at_call 88; refine (holds_below _ _ _ _ _ _).mono ?_; rintro e w2 ⟨rfl, hb⟩; have eA := eA.below hb; have eX := eX.below hb; have eR := eR.below hb; have hB := hB.trans (hb.mono hB.size); obtain ⟨⟨c0, c1, c2, c3, c4⟩, fA⟩ := id eA; obtain ⟨⟨x0, x1, x2, x3, x4⟩, fX⟩ := id eX; obtain ⟨⟨r0, r1, r2, r3, r4⟩, fR⟩ := id eR; have f0 := fR 0; have f1 := fR 1; have f2 := fR 2; have f3 := fR 3; have f4 := fR 4; clear fA fX fR) | (go_at_call 87; refine (entValid_any _ _ _ _ _ _).mono ?_; rintro e w3 ⟨rfl, hb⟩; have eA := eA.below hb; have eX := eX.below hb; have eR := eR.below hb; have hB := hB.trans (hb.mono hB.size); obtain ⟨⟨c0, c1, c2, c3, c4⟩, fA⟩ := id eA; obtain ⟨⟨x0, x1, x2, x3, x4⟩, fX⟩ := id eX; obtain ⟨⟨r0, r1, r2, r3, r4⟩, fR⟩ := id eR; have f0 := fR 0; have f1 := fR 1; have f2 := fR 2; have f3 := fR 3; have f4 := fR 4; clear fA fX fR))
  refine bodyPost_ret (v := .tuple #[.agg #[.int .i64 0, .int .i64 0, .int .i64 0, .int .i64 0, .int .i64 0], .int .i64 4]) (by simp [results, Tryz.results80, go_sem, r0, r1, r2, r3, r4]) rfl ⟨rfl, ?_⟩
  exact below_store5 hB (Nat.le_succ _) _ _ _ _ _
set_option maxHeartbeats 1000000 in
theorem given_d (k c s o y cy : Int) (w : World) (h : holdsB k = true) (h2 : entB k c s o y = true) (h3 : entB k c 0 0 cy = true) :
    Calls Tryz.prog 80 #[.agg #[.int .i64 k, .int .i64 c, .int .i64 s, .int .i64 o, .int .i64 y], .int .i64 cy] w fun e w' => e = .returned (.tuple #[.agg #[.int .i64 k, .int .i64 c, .int .i64 0, .int .i64 0, .int .i64 cy], .int .i64 0]) ∧ Below w.heap.size w w' := by
  go_enter Tryz.func80, Tryz.ntmps80
  go_upto_region 1 with fail
  have eA := (entBox_new w k c s o y 83).alloc (.cells #[.int .i64 0, .int .i64 0, .int .i64 0, .int .i64 0, .int .i64 0] 83)
  have eR := entBox_new (w.alloc (.cells #[.int .i64 k, .int .i64 c, .int .i64 s, .int .i64 o, .int .i64 y] 83)) 0 0 0 0 0 83
  have hB := ((Below.refl w.heap.size w).alloc (Nat.le_refl _) (.cells #[.int .i64 k, .int .i64 c, .int .i64 s, .int .i64 o, .int .i64 y] 83)).alloc (by simp) (.cells #[.int .i64 0, .int .i64 0, .int .i64 0, .int .i64 0, .int .i64 0] 83)
  rw [World.size_alloc] at eR
  generalize ((w.alloc (.cells #[.int .i64 k, .int .i64 c, .int .i64 s, .int .i64 o, .int .i64 y] 83)).alloc (.cells #[.int .i64 0, .int .i64 0, .int .i64 0, .int .i64 0, .int .i64 0] 83)) = W at *
  obtain ⟨⟨c0, c1, c2, c3, c4⟩, fA⟩ := id eA
  go_upto_region 2 with fail
  have eX := entBox_new W k c 0 0 cy 83
  have eA := eA.alloc (.cells #[.int .i64 k, .int .i64 c, .int .i64 0, .int .i64 0, .int .i64 cy] 83)
  have eR := eR.alloc (.cells #[.int .i64 k, .int .i64 c, .int .i64 0, .int .i64 0, .int .i64 cy] 83)
  have hB := hB.alloc hB.size (.cells #[.int .i64 k, .int .i64 c, .int .i64 0, .int .i64 0, .int .i64 cy] 83)
  clear c0 c1 c2 c3 c4 fA
  generalize W.alloc (.cells #[.int .i64 k, .int .i64 c, .int .i64 0, .int .i64 0, .int .i64 cy] 83) = X at *
  generalize W.heap.size = bX at *
  obtain ⟨⟨c0, c1, c2, c3, c4⟩, fA⟩ := id eA
  clear fA
  go_wp2_with (first | (go_at_call 88; refine (holds_below _ _ _ _ _ _).mono ?_; rintro e w2 ⟨rfl, hb⟩; have eA := eA.below hb; have eX := eX.below hb; have eR := eR.below hb; have hB := hB.trans (hb.mono hB.size); obtain ⟨⟨c0, c1, c2, c3, c4⟩, fA⟩ := id eA; obtain ⟨⟨x0, x1, x2, x3, x4⟩, fX⟩ := id eX; obtain ⟨⟨r0, r1, r2, r3, r4⟩, fR⟩ := id eR; have f0 := fR 0; have f1 := fR 1; have f2 := fR 2; have f3 := fR 3; have f4 := fR 4; clear fA fX fR) | (go_at_call 87; refine (entValid_any _ _ _ _ _ _).mono ?_; rintro e w3 ⟨rfl, hb⟩; have eA := eA.below hb; have eX := eX.below hb; have eR := eR.below hb; have hB := hB.trans (hb.mono hB.size); obtain ⟨⟨c0, c1, c2, c3, c4⟩, fA⟩ := id eA; obtain ⟨⟨x0, x1, x2, x3, x4⟩, fX⟩ := id eX; obtain ⟨⟨r0, r1, r2, r3, r4⟩, fR⟩ := id eR; have f0 := fR 0; have f1 := fR 1; have f2 := fR 2; have f3 := fR 3; have f4 := fR 4; clear fA fX fR))
  refine bodyPost_ret (v := .tuple #[.agg #[.int .i64 k, .int .i64 c, .int .i64 0, .int .i64 0, .int .i64 cy], .int .i64 0]) (by simp [results, Tryz.results80, go_sem, r0, r1, r2, r3, r4]) rfl ⟨rfl, ?_⟩
  exact below_store5 hB (Nat.le_succ _) _ _ _ _ _
end Go.Proofs.YtnodeojeijekcaaGreat
/- What Taken of package header returns. No condition. -/
namespace Go.Proofs.YtnodeojeijekcaaGreat
open Go.RowKit
set_option linter.unusedVariables false
/-- The two fields of a box written anew; another box lies as it lay. -/
theorem EntBox.two {W : World} {b : Nat} {k c s o y : Int} (h : EntBox W b k c s o y) (s' o' : Int) : EntBox ((W.setCell ⟨b, 2, none⟩ (.int .i64 s')).setCell ⟨b, 3, none⟩ (.int .i64 o')) b k c s' o' y := by
  obtain ⟨⟨h0, h1, h2, h3, h4⟩, hf⟩ := h
  refine ⟨⟨?_, ?_, ?_, ?_, ?_⟩, fun i => by rw [World.frozen?_setCell, World.frozen?_setCell]; exact hf i⟩
  · rw [World.cell?_setCell_other _ _ _ _ (by simp), World.cell?_setCell_other _ _ _ _ (by simp)]; exact h0
  · rw [World.cell?_setCell_other _ _ _ _ (by simp), World.cell?_setCell_other _ _ _ _ (by simp)]; exact h1
  · rw [World.cell?_setCell_other _ _ _ _ (by simp)]; exact World.cell?_setCell_same _ _ _ h2
  · exact World.cell?_setCell_same _ _ _ (by rw [World.cell?_setCell_other _ _ _ _ (by simp)]; exact h3)
  · rw [World.cell?_setCell_other _ _ _ _ (by simp), World.cell?_setCell_other _ _ _ _ (by simp)]; exact h4
theorem EntBox.far {W : World} {b b' : Nat} {k c s o y : Int} (h : EntBox W b k c s o y) (hne : b < b') (i j : Nat) (u v : Value) : EntBox ((W.setCell ⟨b', i, none⟩ u).setCell ⟨b', j, none⟩ v) b k c s o y := by
  have hn : b' ≠ b := by omega
  obtain ⟨⟨h0, h1, h2, h3, h4⟩, hf⟩ := h
  refine ⟨⟨?_, ?_, ?_, ?_, ?_⟩, fun i => by rw [World.frozen?_setCell, World.frozen?_setCell]; exact hf i⟩
  · rw [World.cell?_setCell_far _ _ _ _ hn, World.cell?_setCell_far _ _ _ _ hn]; exact h0
  · rw [World.cell?_setCell_far _ _ _ _ hn, World.cell?_setCell_far _ _ _ _ hn]; exact h1
  · rw [World.cell?_setCell_far _ _ _ _ hn, World.cell?_setCell_far _ _ _ _ hn]; exact h2
  · rw [World.cell?_setCell_far _ _ _ _ hn, World.cell?_setCell_far _ _ _ _ hn]; exact h3
  · rw [World.cell?_setCell_far _ _ _ _ hn, World.cell?_setCell_far _ _ _ _ hn]; exact h4
set_option maxHeartbeats 1000000 in
theorem taken_a (k c s o y s' o' : Int) (w : World) (h : entB k c s o y = false) :
    Calls Tryz.prog 77 #[.agg #[.int .i64 k, .int .i64 c, .int .i64 s, .int .i64 o, .int .i64 y], .int .i64 s', .int .i64 o'] w fun e w' => e = .returned (.tuple #[.agg #[.int .i64 0, .int .i64 0, .int .i64 0, .int .i64 0, .int .i64 0], .int .i64 4]) ∧ Below w.heap.size w w' := by
  go_enter Tryz.func77, Tryz.ntmps77
  go_upto_region 1 with fail
  have eA := (entBox_new w k c s o y 83).alloc (.cells #[.int .i64 0, .int .i64 0, .int .i64 0, .int .i64 0, .int .i64 0] 83)
  have eR := entBox_new (w.alloc (.cells #[.int .i64 k, .int .i64 c, .int .i64 s, .int .i64 o, .int .i64 y] 83)) 0 0 0 0 0 83
  have hB := ((Below.refl w.heap.size w).alloc (Nat.le_refl _) (.cells #[.int .i64 k, .int .i64 c, .int .i64 s, .int .i64 o, .int .i64 y] 83)).alloc (by simp) (.cells #[.int .i64 0, .int .i64 0, .int .i64 0, .int .i64 0, .int .i64 0] 83)
  rw [World.size_alloc] at eR
  generalize ((w.alloc (.cells #[.int .i64 k, .int .i64 c, .int .i64 s, .int .i64 o, .int .i64 y] 83)).alloc (.cells #[.int .i64 0, .int .i64 0, .int .i64 0, .int .i64 0, .int .i64 0] 83)) = W at *
  obtain ⟨⟨c0, c1, c2, c3, c4⟩, fA⟩ := id eA
  go_upto_region 2 with fail
  have hlA := eA.1.lt
  have hlR := eR.1.lt
  have eX := entBox_new W k c s o y 83
  have eA := eA.alloc (.cells #[.int .i64 k, .int .i64 c, .int .i64 s, .int .i64 o, .int .i64 y] 83)
  have eR := eR.alloc (.cells #[.int .i64 k, .int .i64 c, .int .i64 s, .int .i64 o, .int .i64 y] 83)
  have hB := hB.alloc hB.size (.cells #[.int .i64 k, .int .i64 c, .int .i64 s, .int .i64 o, .int .i64 y] 83)
  clear c0 c1 c2 c3 c4 fA
  generalize W.alloc (.cells #[.int .i64 k, .int .i64 c, .int .i64 s, .int .i64 o, .int .i64 y] 83) = X at *
  obtain ⟨⟨x0, x1, x2, x3, x4⟩, fX⟩ := id eX
  have f2 := fX 2
  have f3 := fX 3
  go_upto_region 3 with fail
  have eX := eX.two s' o'
  have eA := eA.far hlA 2 3 (.int .i64 s') (.int .i64 o')
  have eR := eR.far hlR 2 3 (.int .i64 s') (.int .i64 o')
  have hB := (hB.setCell (p := ⟨W.heap.size, 2, none⟩) (Nat.le_of_lt hlA) (.int .i64 s')).setCell (p := ⟨W.heap.size, 3, none⟩) (Nat.le_of_lt hlA) (.int .i64 o')
  clear x0 x1 x2 x3 x4 fX f2 f3
  generalize (X.setCell ⟨W.heap.size, 2, none⟩ (.int .i64 s')).setCell ⟨W.heap.size, 3, none⟩ (.int .i64 o') = Z at *
  generalize W.heap.size = bX at *
  obtain ⟨⟨c0, c1, c2, c3, c4⟩, fA⟩ := id eA
  clear fA
  go_wp2_with (go_at_call 87; refine (entValid_any _ _ _ _ _ _).mono ?_; rintro e w3 ⟨rfl, hb⟩; have eA := eA.below hb; have eX := eX.below hb; have eR := eR.below hb; have hB := hB.trans (hb.mono hB.size); obtain ⟨⟨c0, c1, c2, c3, c4⟩, fA⟩ := id eA; obtain ⟨⟨x0, x1, x2, x3, x4⟩, fX⟩ := id eX; obtain ⟨⟨r0, r1, r2, r3, r4⟩, fR⟩ := id eR; have f0 := fR 0; have f1 := fR 1; have f2 := fR 2; have f3 := fR 3; have f4 := fR 4; clear fA fX fR)
  refine bodyPost_ret (v := .tuple #[.agg #[.int .i64 0, .int .i64 0, .int .i64 0, .int .i64 0, .int .i64 0], .int .i64 4]) (by simp [results, Tryz.results77, go_sem, r0, r1, r2, r3, r4]) rfl ⟨rfl, ?_⟩
  exact below_store5 hB (Nat.le_succ _) _ _ _ _ _
set_option maxHeartbeats 1000000 in
theorem taken_b (k c s o y s' o' : Int) (w : World) (h : entB k c s o y = true) (h2 : entB k c s' o' y = false) :
    Calls Tryz.prog 77 #[.agg #[.int .i64 k, .int .i64 c, .int .i64 s, .int .i64 o, .int .i64 y], .int .i64 s', .int .i64 o'] w fun e w' => e = .returned (.tuple #[.agg #[.int .i64 0, .int .i64 0, .int .i64 0, .int .i64 0, .int .i64 0], .int .i64 4]) ∧ Below w.heap.size w w' := by
  go_enter Tryz.func77, Tryz.ntmps77
  go_upto_region 1 with fail
  have eA := (entBox_new w k c s o y 83).alloc (.cells #[.int .i64 0, .int .i64 0, .int .i64 0, .int .i64 0, .int .i64 0] 83)
  have eR := entBox_new (w.alloc (.cells #[.int .i64 k, .int .i64 c, .int .i64 s, .int .i64 o, .int .i64 y] 83)) 0 0 0 0 0 83
  have hB := ((Below.refl w.heap.size w).alloc (Nat.le_refl _) (.cells #[.int .i64 k, .int .i64 c, .int .i64 s, .int .i64 o, .int .i64 y] 83)).alloc (by simp) (.cells #[.int .i64 0, .int .i64 0, .int .i64 0, .int .i64 0, .int .i64 0] 83)
  rw [World.size_alloc] at eR
  generalize ((w.alloc (.cells #[.int .i64 k, .int .i64 c, .int .i64 s, .int .i64 o, .int .i64 y] 83)).alloc (.cells #[.int .i64 0, .int .i64 0, .int .i64 0, .int .i64 0, .int .i64 0] 83)) = W at *
  obtain ⟨⟨c0, c1, c2, c3, c4⟩, fA⟩ := id eA
  go_upto_region 2 with fail
  have hlA := eA.1.lt
  have hlR := eR.1.lt
  have eX := entBox_new W k c s o y 83
  have eA := eA.alloc (.cells #[.int .i64 k, .int .i64 c, .int .i64 s, .int .i64 o, .int .i64 y] 83)
  have eR := eR.alloc (.cells #[.int .i64 k, .int .i64 c, .int .i64 s, .int .i64 o, .int .i64 y] 83)
  have hB := hB.alloc hB.size (.cells #[.int .i64 k, .int .i64 c, .int .i64 s, .int .i64 o, .int .i64 y] 83)
  clear c0 c1 c2 c3 c4 fA
  generalize W.alloc (.cells #[.int .i64 k, .int .i64 c, .int .i64 s, .int .i64 o, .int .i64 y] 83) = X at *
  obtain ⟨⟨x0, x1, x2, x3, x4⟩, fX⟩ := id eX
  have f2 := fX 2
  have f3 := fX 3
  go_upto_region 3 with fail
  have eX := eX.two s' o'
  have eA := eA.far hlA 2 3 (.int .i64 s') (.int .i64 o')
  have eR := eR.far hlR 2 3 (.int .i64 s') (.int .i64 o')
  have hB := (hB.setCell (p := ⟨W.heap.size, 2, none⟩) (Nat.le_of_lt hlA) (.int .i64 s')).setCell (p := ⟨W.heap.size, 3, none⟩) (Nat.le_of_lt hlA) (.int .i64 o')
  clear x0 x1 x2 x3 x4 fX f2 f3
  generalize (X.setCell ⟨W.heap.size, 2, none⟩ (.int .i64 s')).setCell ⟨W.heap.size, 3, none⟩ (.int .i64 o') = Z at *
  generalize W.heap.size = bX at *
  obtain ⟨⟨c0, c1, c2, c3, c4⟩, fA⟩ := id eA
  clear fA
  go_wp2_with (go_at_call 87; refine (entValid_any _ _ _ _ _ _).mono ?_; rintro e w3 ⟨rfl, hb⟩; have eA := eA.below hb; have eX := eX.below hb; have eR := eR.below hb; have hB := hB.trans (hb.mono hB.size); obtain ⟨⟨c0, c1, c2, c3, c4⟩, fA⟩ := id eA; obtain ⟨⟨x0, x1, x2, x3, x4⟩, fX⟩ := id eX; obtain ⟨⟨r0, r1, r2, r3, r4⟩, fR⟩ := id eR; have f0 := fR 0; have f1 := fR 1; have f2 := fR 2; have f3 := fR 3; have f4 := fR 4; clear fA fX fR)
  refine bodyPost_ret (v := .tuple #[.agg #[.int .i64 0, .int .i64 0, .int .i64 0, .int .i64 0, .int .i64 0], .int .i64 4]) (by simp [results, Tryz.results77, go_sem, r0, r1, r2, r3, r4]) rfl ⟨rfl, ?_⟩
  exact below_store5 hB (Nat.le_succ _) _ _ _ _ _
set_option maxHeartbeats 1000000 in
theorem taken_c (k c s o y s' o' : Int) (w : World) (h : entB k c s o y = true) (h2 : entB k c s' o' y = true) :
    Calls Tryz.prog 77 #[.agg #[.int .i64 k, .int .i64 c, .int .i64 s, .int .i64 o, .int .i64 y], .int .i64 s', .int .i64 o'] w fun e w' => e = .returned ((.tuple #[.agg #[.int .i64 k, .int .i64 c, .int .i64 s', .int .i64 o', .int .i64 y], .int .i64 0])) ∧ Below w.heap.size w w' := by
  go_enter Tryz.func77, Tryz.ntmps77
  go_upto_region 1 with fail
  have eA := (entBox_new w k c s o y 83).alloc (.cells #[.int .i64 0, .int .i64 0, .int .i64 0, .int .i64 0, .int .i64 0] 83)
  have eR := entBox_new (w.alloc (.cells #[.int .i64 k, .int .i64 c, .int .i64 s, .int .i64 o, .int .i64 y] 83)) 0 0 0 0 0 83
  have hB := ((Below.refl w.heap.size w).alloc (Nat.le_refl _) (.cells #[.int .i64 k, .int .i64 c, .int .i64 s, .int .i64 o, .int .i64 y] 83)).alloc (by simp) (.cells #[.int .i64 0, .int .i64 0, .int .i64 0, .int .i64 0, .int .i64 0] 83)
  rw [World.size_alloc] at eR
  generalize ((w.alloc (.cells #[.int .i64 k, .int .i64 c, .int .i64 s, .int .i64 o, .int .i64 y] 83)).alloc (.cells #[.int .i64 0, .int .i64 0, .int .i64 0, .int .i64 0, .int .i64 0] 83)) = W at *
  obtain ⟨⟨c0, c1, c2, c3, c4⟩, fA⟩ := id eA
  go_upto_region 2 with fail
  have hlA := eA.1.lt
  have hlR := eR.1.lt
  have eX := entBox_new W k c s o y 83
  have eA := eA.alloc (.cells #[.int .i64 k, .int .i64 c, .int .i64 s, .int .i64 o, .int .i64 y] 83)
  have eR := eR.alloc (.cells #[.int .i64 k, .int .i64 c, .int .i64 s, .int .i64 o, .int .i64 y] 83)
  have hB := hB.alloc hB.size (.cells #[.int .i64 k, .int .i64 c, .int .i64 s, .int .i64 o, .int .i64 y] 83)
  clear c0 c1 c2 c3 c4 fA
  generalize W.alloc (.cells #[.int .i64 k, .int .i64 c, .int .i64 s, .int .i64 o, .int .i64 y] 83) = X at *
  obtain ⟨⟨x0, x1, x2, x3, x4⟩, fX⟩ := id eX
  have f2 := fX 2
  have f3 := fX 3
  go_upto_region 3 with fail
  have eX := eX.two s' o'
  have eA := eA.far hlA 2 3 (.int .i64 s') (.int .i64 o')
  have eR := eR.far hlR 2 3 (.int .i64 s') (.int .i64 o')
  have hB := (hB.setCell (p := ⟨W.heap.size, 2, none⟩) (Nat.le_of_lt hlA) (.int .i64 s')).setCell (p := ⟨W.heap.size, 3, none⟩) (Nat.le_of_lt hlA) (.int .i64 o')
  clear x0 x1 x2 x3 x4 fX f2 f3
  generalize (X.setCell ⟨W.heap.size, 2, none⟩ (.int .i64 s')).setCell ⟨W.heap.size, 3, none⟩ (.int .i64 o') = Z at *
  generalize W.heap.size = bX at *
  obtain ⟨⟨c0, c1, c2, c3, c4⟩, fA⟩ := id eA
  clear fA
  go_wp2_with (go_at_call 87; refine (entValid_any _ _ _ _ _ _).mono ?_; rintro e w3 ⟨rfl, hb⟩; have eA := eA.below hb; have eX := eX.below hb; have eR := eR.below hb; have hB := hB.trans (hb.mono hB.size); obtain ⟨⟨c0, c1, c2, c3, c4⟩, fA⟩ := id eA; obtain ⟨⟨x0, x1, x2, x3, x4⟩, fX⟩ := id eX; obtain ⟨⟨r0, r1, r2, r3, r4⟩, fR⟩ := id eR; have f0 := fR 0; have f1 := fR 1; have f2 := fR 2; have f3 := fR 3; have f4 := fR 4; clear fA fX fR)
  refine bodyPost_ret (v := (.tuple #[.agg #[.int .i64 k, .int .i64 c, .int .i64 s', .int .i64 o', .int .i64 y], .int .i64 0])) (by simp [results, Tryz.results77, go_sem, r0, r1, r2, r3, r4]) rfl ⟨rfl, ?_⟩
  exact below_store5 hB (Nat.le_succ _) _ _ _ _ _
end Go.Proofs.YtnodeojeijekcaaGreat
/- What the document's Taken and Given return, for all entries. No condition. -/
namespace Go.Proofs.YtnodeojeijekcaaGreat
open Go.RowKit
set_option linter.unusedVariables false
set_option linter.unusedSimpArgs false
set_option maxHeartbeats 2000000 in
theorem rtaken_a (k c s o y s' o' : Int) (w : World) (h : entB k c s o y = false) :
    Calls Tryz.prog 38 #[.agg #[.int .i64 k, .int .i64 c, .int .i64 s, .int .i64 o, .int .i64 y], .int .i64 s', .int .i64 o'] w fun e w' => e = .returned (.tuple #[.agg #[.int .i64 0, .int .i64 0, .int .i64 0, .int .i64 0, .int .i64 0], .int .i64 4]) ∧ Below w.heap.size w w' := by
  go_enter Tryz.func38, Tryz.ntmps38
  go_upto_region 1 with fail
  have eA := (entBox_new w k c s o y 71).alloc (.cells #[.int .i64 0, .int .i64 0, .int .i64 0, .int .i64 0, .int .i64 0] 71)
  have eR := entBox_new (w.alloc (.cells #[.int .i64 k, .int .i64 c, .int .i64 s, .int .i64 o, .int .i64 y] 71)) 0 0 0 0 0 71
  have hB := ((Below.refl w.heap.size w).alloc (Nat.le_refl _) (.cells #[.int .i64 k, .int .i64 c, .int .i64 s, .int .i64 o, .int .i64 y] 71)).alloc (by simp) (.cells #[.int .i64 0, .int .i64 0, .int .i64 0, .int .i64 0, .int .i64 0] 71)
  rw [World.size_alloc] at eR
  generalize ((w.alloc (.cells #[.int .i64 k, .int .i64 c, .int .i64 s, .int .i64 o, .int .i64 y] 71)).alloc (.cells #[.int .i64 0, .int .i64 0, .int .i64 0, .int .i64 0, .int .i64 0] 71)) = W at *
  obtain ⟨⟨c0, c1, c2, c3, c4⟩, fA⟩ := id eA
  go_upto_region 2 with fail
  have hlA := eA.1.lt
  have hlR := eR.1.lt
  have eX := entBox_new W (k) (c) (s') (o') (y) 71
  have eA := eA.alloc (.cells #[.int .i64 k, .int .i64 c, .int .i64 s', .int .i64 o', .int .i64 y] 71)
  have eR := eR.alloc (.cells #[.int .i64 k, .int .i64 c, .int .i64 s', .int .i64 o', .int .i64 y] 71)
  have hB := hB.alloc hB.size (.cells #[.int .i64 k, .int .i64 c, .int .i64 s', .int .i64 o', .int .i64 y] 71)
  clear c0 c1 c2 c3 c4 fA
  generalize W.alloc (.cells #[.int .i64 k, .int .i64 c, .int .i64 s', .int .i64 o', .int .i64 y] 71) = X at *
  generalize W.heap.size = bX at *
  obtain ⟨⟨c0, c1, c2, c3, c4⟩, fA⟩ := id eA
  obtain ⟨⟨x0, x1, x2, x3, x4⟩, fX⟩ := id eX
  obtain ⟨⟨r0, r1, r2, r3, r4⟩, fR⟩ := id eR
  clear fA fX fR
  go_wp2_with (go_at_call 65; refine (isEnt_any _ _ _ _ _ _).mono ?_; rintro e w3 ⟨rfl, hb⟩; have eA := eA.below hb; have eX := eX.below hb; have eR := eR.below hb; have hB := hB.trans (hb.mono hB.size); obtain ⟨⟨c0, c1, c2, c3, c4⟩, fA⟩ := id eA; obtain ⟨⟨x0, x1, x2, x3, x4⟩, fX⟩ := id eX; obtain ⟨⟨r0, r1, r2, r3, r4⟩, fR⟩ := id eR; have f0 := fR 0; have f1 := fR 1; have f2 := fR 2; have f3 := fR 3; have f4 := fR 4; clear fA fX fR)
  refine bodyPost_ret (v := .tuple #[.agg #[.int .i64 0, .int .i64 0, .int .i64 0, .int .i64 0, .int .i64 0], .int .i64 4]) (by simp [results, Tryz.results38, go_sem, r0, r1, r2, r3, r4]) rfl ⟨rfl, ?_⟩
  exact below_store5 hB (Nat.le_succ _) _ _ _ _ _
set_option maxHeartbeats 2000000 in
theorem rtaken_b (k c s o y s' o' : Int) (w : World) (h : entB k c s o y = true) (h2 : entB k c s' o' y = false) :
    Calls Tryz.prog 38 #[.agg #[.int .i64 k, .int .i64 c, .int .i64 s, .int .i64 o, .int .i64 y], .int .i64 s', .int .i64 o'] w fun e w' => e = .returned (.tuple #[.agg #[.int .i64 0, .int .i64 0, .int .i64 0, .int .i64 0, .int .i64 0], .int .i64 4]) ∧ Below w.heap.size w w' := by
  go_enter Tryz.func38, Tryz.ntmps38
  go_upto_region 1 with fail
  have eA := (entBox_new w k c s o y 71).alloc (.cells #[.int .i64 0, .int .i64 0, .int .i64 0, .int .i64 0, .int .i64 0] 71)
  have eR := entBox_new (w.alloc (.cells #[.int .i64 k, .int .i64 c, .int .i64 s, .int .i64 o, .int .i64 y] 71)) 0 0 0 0 0 71
  have hB := ((Below.refl w.heap.size w).alloc (Nat.le_refl _) (.cells #[.int .i64 k, .int .i64 c, .int .i64 s, .int .i64 o, .int .i64 y] 71)).alloc (by simp) (.cells #[.int .i64 0, .int .i64 0, .int .i64 0, .int .i64 0, .int .i64 0] 71)
  rw [World.size_alloc] at eR
  generalize ((w.alloc (.cells #[.int .i64 k, .int .i64 c, .int .i64 s, .int .i64 o, .int .i64 y] 71)).alloc (.cells #[.int .i64 0, .int .i64 0, .int .i64 0, .int .i64 0, .int .i64 0] 71)) = W at *
  obtain ⟨⟨c0, c1, c2, c3, c4⟩, fA⟩ := id eA
  go_upto_region 2 with fail
  have hlA := eA.1.lt
  have hlR := eR.1.lt
  have eX := entBox_new W (k) (c) (s') (o') (y) 71
  have eA := eA.alloc (.cells #[.int .i64 k, .int .i64 c, .int .i64 s', .int .i64 o', .int .i64 y] 71)
  have eR := eR.alloc (.cells #[.int .i64 k, .int .i64 c, .int .i64 s', .int .i64 o', .int .i64 y] 71)
  have hB := hB.alloc hB.size (.cells #[.int .i64 k, .int .i64 c, .int .i64 s', .int .i64 o', .int .i64 y] 71)
  clear c0 c1 c2 c3 c4 fA
  generalize W.alloc (.cells #[.int .i64 k, .int .i64 c, .int .i64 s', .int .i64 o', .int .i64 y] 71) = X at *
  generalize W.heap.size = bX at *
  obtain ⟨⟨c0, c1, c2, c3, c4⟩, fA⟩ := id eA
  obtain ⟨⟨x0, x1, x2, x3, x4⟩, fX⟩ := id eX
  obtain ⟨⟨r0, r1, r2, r3, r4⟩, fR⟩ := id eR
  clear fA fX fR
  go_wp2_with (go_at_call 65; refine (isEnt_any _ _ _ _ _ _).mono ?_; rintro e w3 ⟨rfl, hb⟩; have eA := eA.below hb; have eX := eX.below hb; have eR := eR.below hb; have hB := hB.trans (hb.mono hB.size); obtain ⟨⟨c0, c1, c2, c3, c4⟩, fA⟩ := id eA; obtain ⟨⟨x0, x1, x2, x3, x4⟩, fX⟩ := id eX; obtain ⟨⟨r0, r1, r2, r3, r4⟩, fR⟩ := id eR; have f0 := fR 0; have f1 := fR 1; have f2 := fR 2; have f3 := fR 3; have f4 := fR 4; clear fA fX fR)
  refine bodyPost_ret (v := .tuple #[.agg #[.int .i64 0, .int .i64 0, .int .i64 0, .int .i64 0, .int .i64 0], .int .i64 4]) (by simp [results, Tryz.results38, go_sem, r0, r1, r2, r3, r4]) rfl ⟨rfl, ?_⟩
  exact below_store5 hB (Nat.le_succ _) _ _ _ _ _
set_option maxHeartbeats 2000000 in
theorem rtaken_c (k c s o y s' o' : Int) (w : World) (h : entB k c s o y = true) (h2 : entB k c s' o' y = true) :
    Calls Tryz.prog 38 #[.agg #[.int .i64 k, .int .i64 c, .int .i64 s, .int .i64 o, .int .i64 y], .int .i64 s', .int .i64 o'] w fun e w' => e = .returned (.tuple #[.agg #[.int .i64 k, .int .i64 c, .int .i64 s', .int .i64 o', .int .i64 y], .int .i64 0]) ∧ Below w.heap.size w w' := by
  go_enter Tryz.func38, Tryz.ntmps38
  go_upto_region 1 with fail
  have eA := (entBox_new w k c s o y 71).alloc (.cells #[.int .i64 0, .int .i64 0, .int .i64 0, .int .i64 0, .int .i64 0] 71)
  have eR := entBox_new (w.alloc (.cells #[.int .i64 k, .int .i64 c, .int .i64 s, .int .i64 o, .int .i64 y] 71)) 0 0 0 0 0 71
  have hB := ((Below.refl w.heap.size w).alloc (Nat.le_refl _) (.cells #[.int .i64 k, .int .i64 c, .int .i64 s, .int .i64 o, .int .i64 y] 71)).alloc (by simp) (.cells #[.int .i64 0, .int .i64 0, .int .i64 0, .int .i64 0, .int .i64 0] 71)
  rw [World.size_alloc] at eR
  generalize ((w.alloc (.cells #[.int .i64 k, .int .i64 c, .int .i64 s, .int .i64 o, .int .i64 y] 71)).alloc (.cells #[.int .i64 0, .int .i64 0, .int .i64 0, .int .i64 0, .int .i64 0] 71)) = W at *
  obtain ⟨⟨c0, c1, c2, c3, c4⟩, fA⟩ := id eA
  go_upto_region 2 with fail
  have hlA := eA.1.lt
  have hlR := eR.1.lt
  have eX := entBox_new W (k) (c) (s') (o') (y) 71
  have eA := eA.alloc (.cells #[.int .i64 k, .int .i64 c, .int .i64 s', .int .i64 o', .int .i64 y] 71)
  have eR := eR.alloc (.cells #[.int .i64 k, .int .i64 c, .int .i64 s', .int .i64 o', .int .i64 y] 71)
  have hB := hB.alloc hB.size (.cells #[.int .i64 k, .int .i64 c, .int .i64 s', .int .i64 o', .int .i64 y] 71)
  clear c0 c1 c2 c3 c4 fA
  generalize W.alloc (.cells #[.int .i64 k, .int .i64 c, .int .i64 s', .int .i64 o', .int .i64 y] 71) = X at *
  generalize W.heap.size = bX at *
  obtain ⟨⟨c0, c1, c2, c3, c4⟩, fA⟩ := id eA
  obtain ⟨⟨x0, x1, x2, x3, x4⟩, fX⟩ := id eX
  obtain ⟨⟨r0, r1, r2, r3, r4⟩, fR⟩ := id eR
  clear fA fX fR
  go_wp2_with (go_at_call 65; refine (isEnt_any _ _ _ _ _ _).mono ?_; rintro e w3 ⟨rfl, hb⟩; have eA := eA.below hb; have eX := eX.below hb; have eR := eR.below hb; have hB := hB.trans (hb.mono hB.size); obtain ⟨⟨c0, c1, c2, c3, c4⟩, fA⟩ := id eA; obtain ⟨⟨x0, x1, x2, x3, x4⟩, fX⟩ := id eX; obtain ⟨⟨r0, r1, r2, r3, r4⟩, fR⟩ := id eR; have f0 := fR 0; have f1 := fR 1; have f2 := fR 2; have f3 := fR 3; have f4 := fR 4; clear fA fX fR)
  refine bodyPost_ret (v := .tuple #[.agg #[.int .i64 k, .int .i64 c, .int .i64 s', .int .i64 o', .int .i64 y], .int .i64 0]) (by simp [results, Tryz.results38, go_sem, r0, r1, r2, r3, r4]) rfl ⟨rfl, ?_⟩
  exact below_store5 hB (Nat.le_succ _) _ _ _ _ _
set_option maxHeartbeats 2000000 in
theorem rgiven_a (k c s o y cy : Int) (w : World) (h : entB k c s o y = false) :
    Calls Tryz.prog 43 #[.agg #[.int .i64 k, .int .i64 c, .int .i64 s, .int .i64 o, .int .i64 y], .int .i64 cy] w fun e w' => e = .returned (.tuple #[.agg #[.int .i64 0, .int .i64 0, .int .i64 0, .int .i64 0, .int .i64 0], .int .i64 4]) ∧ Below w.heap.size w w' := by
  go_enter Tryz.func43, Tryz.ntmps43
  go_upto_region 1 with fail
  have eA := (entBox_new w k c s o y 71).alloc (.cells #[.int .i64 0, .int .i64 0, .int .i64 0, .int .i64 0, .int .i64 0] 71)
  have eR := entBox_new (w.alloc (.cells #[.int .i64 k, .int .i64 c, .int .i64 s, .int .i64 o, .int .i64 y] 71)) 0 0 0 0 0 71
  have hB := ((Below.refl w.heap.size w).alloc (Nat.le_refl _) (.cells #[.int .i64 k, .int .i64 c, .int .i64 s, .int .i64 o, .int .i64 y] 71)).alloc (by simp) (.cells #[.int .i64 0, .int .i64 0, .int .i64 0, .int .i64 0, .int .i64 0] 71)
  rw [World.size_alloc] at eR
  generalize ((w.alloc (.cells #[.int .i64 k, .int .i64 c, .int .i64 s, .int .i64 o, .int .i64 y] 71)).alloc (.cells #[.int .i64 0, .int .i64 0, .int .i64 0, .int .i64 0, .int .i64 0] 71)) = W at *
  obtain ⟨⟨c0, c1, c2, c3, c4⟩, fA⟩ := id eA
  go_upto_region 2 with fail
  have hlA := eA.1.lt
  have hlR := eR.1.lt
  have eX := entBox_new W (k) (c) (0) (0) (cy) 71
  have eA := eA.alloc (.cells #[.int .i64 k, .int .i64 c, .int .i64 0, .int .i64 0, .int .i64 cy] 71)
  have eR := eR.alloc (.cells #[.int .i64 k, .int .i64 c, .int .i64 0, .int .i64 0, .int .i64 cy] 71)
  have hB := hB.alloc hB.size (.cells #[.int .i64 k, .int .i64 c, .int .i64 0, .int .i64 0, .int .i64 cy] 71)
  clear c0 c1 c2 c3 c4 fA
  generalize W.alloc (.cells #[.int .i64 k, .int .i64 c, .int .i64 0, .int .i64 0, .int .i64 cy] 71) = X at *
  generalize W.heap.size = bX at *
  obtain ⟨⟨c0, c1, c2, c3, c4⟩, fA⟩ := id eA
  obtain ⟨⟨x0, x1, x2, x3, x4⟩, fX⟩ := id eX
  obtain ⟨⟨r0, r1, r2, r3, r4⟩, fR⟩ := id eR
  clear fA fX fR
  go_wp2_with (go_at_call 65; refine (isEnt_any _ _ _ _ _ _).mono ?_; rintro e w3 ⟨rfl, hb⟩; have eA := eA.below hb; have eX := eX.below hb; have eR := eR.below hb; have hB := hB.trans (hb.mono hB.size); obtain ⟨⟨c0, c1, c2, c3, c4⟩, fA⟩ := id eA; obtain ⟨⟨x0, x1, x2, x3, x4⟩, fX⟩ := id eX; obtain ⟨⟨r0, r1, r2, r3, r4⟩, fR⟩ := id eR; have f0 := fR 0; have f1 := fR 1; have f2 := fR 2; have f3 := fR 3; have f4 := fR 4; clear fA fX fR)
  refine bodyPost_ret (v := .tuple #[.agg #[.int .i64 0, .int .i64 0, .int .i64 0, .int .i64 0, .int .i64 0], .int .i64 4]) (by simp [results, Tryz.results43, go_sem, r0, r1, r2, r3, r4]) rfl ⟨rfl, ?_⟩
  exact below_store5 hB (Nat.le_succ _) _ _ _ _ _
set_option maxHeartbeats 2000000 in
theorem rgiven_0 (k c s o y cy : Int) (w : World) (h : entB k c s o y = true) (h0 : (k == 0) = true) :
    Calls Tryz.prog 43 #[.agg #[.int .i64 k, .int .i64 c, .int .i64 s, .int .i64 o, .int .i64 y], .int .i64 cy] w fun e w' => e = .returned (.tuple #[.agg #[.int .i64 0, .int .i64 0, .int .i64 0, .int .i64 0, .int .i64 0], .int .i64 4]) ∧ Below w.heap.size w w' := by
  go_enter Tryz.func43, Tryz.ntmps43
  go_upto_region 1 with fail
  have eA := (entBox_new w k c s o y 71).alloc (.cells #[.int .i64 0, .int .i64 0, .int .i64 0, .int .i64 0, .int .i64 0] 71)
  have eR := entBox_new (w.alloc (.cells #[.int .i64 k, .int .i64 c, .int .i64 s, .int .i64 o, .int .i64 y] 71)) 0 0 0 0 0 71
  have hB := ((Below.refl w.heap.size w).alloc (Nat.le_refl _) (.cells #[.int .i64 k, .int .i64 c, .int .i64 s, .int .i64 o, .int .i64 y] 71)).alloc (by simp) (.cells #[.int .i64 0, .int .i64 0, .int .i64 0, .int .i64 0, .int .i64 0] 71)
  rw [World.size_alloc] at eR
  generalize ((w.alloc (.cells #[.int .i64 k, .int .i64 c, .int .i64 s, .int .i64 o, .int .i64 y] 71)).alloc (.cells #[.int .i64 0, .int .i64 0, .int .i64 0, .int .i64 0, .int .i64 0] 71)) = W at *
  obtain ⟨⟨c0, c1, c2, c3, c4⟩, fA⟩ := id eA
  go_upto_region 2 with fail
  have hlA := eA.1.lt
  have hlR := eR.1.lt
  have eX := entBox_new W (k) (c) (0) (0) (cy) 71
  have eA := eA.alloc (.cells #[.int .i64 k, .int .i64 c, .int .i64 0, .int .i64 0, .int .i64 cy] 71)
  have eR := eR.alloc (.cells #[.int .i64 k, .int .i64 c, .int .i64 0, .int .i64 0, .int .i64 cy] 71)
  have hB := hB.alloc hB.size (.cells #[.int .i64 k, .int .i64 c, .int .i64 0, .int .i64 0, .int .i64 cy] 71)
  clear c0 c1 c2 c3 c4 fA
  generalize W.alloc (.cells #[.int .i64 k, .int .i64 c, .int .i64 0, .int .i64 0, .int .i64 cy] 71) = X at *
  generalize W.heap.size = bX at *
  obtain ⟨⟨c0, c1, c2, c3, c4⟩, fA⟩ := id eA
  obtain ⟨⟨x0, x1, x2, x3, x4⟩, fX⟩ := id eX
  obtain ⟨⟨r0, r1, r2, r3, r4⟩, fR⟩ := id eR
  clear fA fX fR
  go_wp2_with (go_at_call 65; refine (isEnt_any _ _ _ _ _ _).mono ?_; rintro e w3 ⟨rfl, hb⟩; have eA := eA.below hb; have eX := eX.below hb; have eR := eR.below hb; have hB := hB.trans (hb.mono hB.size); obtain ⟨⟨c0, c1, c2, c3, c4⟩, fA⟩ := id eA; obtain ⟨⟨x0, x1, x2, x3, x4⟩, fX⟩ := id eX; obtain ⟨⟨r0, r1, r2, r3, r4⟩, fR⟩ := id eR; have f0 := fR 0; have f1 := fR 1; have f2 := fR 2; have f3 := fR 3; have f4 := fR 4; clear fA fX fR)
  refine bodyPost_ret (v := .tuple #[.agg #[.int .i64 0, .int .i64 0, .int .i64 0, .int .i64 0, .int .i64 0], .int .i64 4]) (by simp [results, Tryz.results43, go_sem, r0, r1, r2, r3, r4]) rfl ⟨rfl, ?_⟩
  exact below_store5 hB (Nat.le_succ _) _ _ _ _ _
set_option maxHeartbeats 2000000 in
theorem rgiven_3 (k c s o y cy : Int) (w : World) (h : entB k c s o y = true) (h0 : (k == 0) = false) (h3 : (k == 3) = true) :
    Calls Tryz.prog 43 #[.agg #[.int .i64 k, .int .i64 c, .int .i64 s, .int .i64 o, .int .i64 y], .int .i64 cy] w fun e w' => e = .returned (.tuple #[.agg #[.int .i64 0, .int .i64 0, .int .i64 0, .int .i64 0, .int .i64 0], .int .i64 4]) ∧ Below w.heap.size w w' := by
  go_enter Tryz.func43, Tryz.ntmps43
  go_upto_region 1 with fail
  have eA := (entBox_new w k c s o y 71).alloc (.cells #[.int .i64 0, .int .i64 0, .int .i64 0, .int .i64 0, .int .i64 0] 71)
  have eR := entBox_new (w.alloc (.cells #[.int .i64 k, .int .i64 c, .int .i64 s, .int .i64 o, .int .i64 y] 71)) 0 0 0 0 0 71
  have hB := ((Below.refl w.heap.size w).alloc (Nat.le_refl _) (.cells #[.int .i64 k, .int .i64 c, .int .i64 s, .int .i64 o, .int .i64 y] 71)).alloc (by simp) (.cells #[.int .i64 0, .int .i64 0, .int .i64 0, .int .i64 0, .int .i64 0] 71)
  rw [World.size_alloc] at eR
  generalize ((w.alloc (.cells #[.int .i64 k, .int .i64 c, .int .i64 s, .int .i64 o, .int .i64 y] 71)).alloc (.cells #[.int .i64 0, .int .i64 0, .int .i64 0, .int .i64 0, .int .i64 0] 71)) = W at *
  obtain ⟨⟨c0, c1, c2, c3, c4⟩, fA⟩ := id eA
  go_upto_region 2 with fail
  have hlA := eA.1.lt
  have hlR := eR.1.lt
  have eX := entBox_new W (k) (c) (0) (0) (cy) 71
  have eA := eA.alloc (.cells #[.int .i64 k, .int .i64 c, .int .i64 0, .int .i64 0, .int .i64 cy] 71)
  have eR := eR.alloc (.cells #[.int .i64 k, .int .i64 c, .int .i64 0, .int .i64 0, .int .i64 cy] 71)
  have hB := hB.alloc hB.size (.cells #[.int .i64 k, .int .i64 c, .int .i64 0, .int .i64 0, .int .i64 cy] 71)
  clear c0 c1 c2 c3 c4 fA
  generalize W.alloc (.cells #[.int .i64 k, .int .i64 c, .int .i64 0, .int .i64 0, .int .i64 cy] 71) = X at *
  generalize W.heap.size = bX at *
  obtain ⟨⟨c0, c1, c2, c3, c4⟩, fA⟩ := id eA
  obtain ⟨⟨x0, x1, x2, x3, x4⟩, fX⟩ := id eX
  obtain ⟨⟨r0, r1, r2, r3, r4⟩, fR⟩ := id eR
  clear fA fX fR
  go_wp2_with (go_at_call 65; refine (isEnt_any _ _ _ _ _ _).mono ?_; rintro e w3 ⟨rfl, hb⟩; have eA := eA.below hb; have eX := eX.below hb; have eR := eR.below hb; have hB := hB.trans (hb.mono hB.size); obtain ⟨⟨c0, c1, c2, c3, c4⟩, fA⟩ := id eA; obtain ⟨⟨x0, x1, x2, x3, x4⟩, fX⟩ := id eX; obtain ⟨⟨r0, r1, r2, r3, r4⟩, fR⟩ := id eR; have f0 := fR 0; have f1 := fR 1; have f2 := fR 2; have f3 := fR 3; have f4 := fR 4; clear fA fX fR)
  refine bodyPost_ret (v := .tuple #[.agg #[.int .i64 0, .int .i64 0, .int .i64 0, .int .i64 0, .int .i64 0], .int .i64 4]) (by simp [results, Tryz.results43, go_sem, r0, r1, r2, r3, r4]) rfl ⟨rfl, ?_⟩
  exact below_store5 hB (Nat.le_succ _) _ _ _ _ _
set_option maxHeartbeats 2000000 in
theorem rgiven_c (k c s o y cy : Int) (w : World) (h : entB k c s o y = true) (h0 : (k == 0) = false) (h3 : (k == 3) = false) (h2 : entB k c 0 0 cy = false) :
    Calls Tryz.prog 43 #[.agg #[.int .i64 k, .int .i64 c, .int .i64 s, .int .i64 o, .int .i64 y], .int .i64 cy] w fun e w' => e = .returned (.tuple #[.agg #[.int .i64 0, .int .i64 0, .int .i64 0, .int .i64 0, .int .i64 0], .int .i64 4]) ∧ Below w.heap.size w w' := by
  go_enter Tryz.func43, Tryz.ntmps43
  go_upto_region 1 with fail
  have eA := (entBox_new w k c s o y 71).alloc (.cells #[.int .i64 0, .int .i64 0, .int .i64 0, .int .i64 0, .int .i64 0] 71)
  have eR := entBox_new (w.alloc (.cells #[.int .i64 k, .int .i64 c, .int .i64 s, .int .i64 o, .int .i64 y] 71)) 0 0 0 0 0 71
  have hB := ((Below.refl w.heap.size w).alloc (Nat.le_refl _) (.cells #[.int .i64 k, .int .i64 c, .int .i64 s, .int .i64 o, .int .i64 y] 71)).alloc (by simp) (.cells #[.int .i64 0, .int .i64 0, .int .i64 0, .int .i64 0, .int .i64 0] 71)
  rw [World.size_alloc] at eR
  generalize ((w.alloc (.cells #[.int .i64 k, .int .i64 c, .int .i64 s, .int .i64 o, .int .i64 y] 71)).alloc (.cells #[.int .i64 0, .int .i64 0, .int .i64 0, .int .i64 0, .int .i64 0] 71)) = W at *
  obtain ⟨⟨c0, c1, c2, c3, c4⟩, fA⟩ := id eA
  go_upto_region 2 with fail
  have hlA := eA.1.lt
  have hlR := eR.1.lt
  have eX := entBox_new W (k) (c) (0) (0) (cy) 71
  have eA := eA.alloc (.cells #[.int .i64 k, .int .i64 c, .int .i64 0, .int .i64 0, .int .i64 cy] 71)
  have eR := eR.alloc (.cells #[.int .i64 k, .int .i64 c, .int .i64 0, .int .i64 0, .int .i64 cy] 71)
  have hB := hB.alloc hB.size (.cells #[.int .i64 k, .int .i64 c, .int .i64 0, .int .i64 0, .int .i64 cy] 71)
  clear c0 c1 c2 c3 c4 fA
  generalize W.alloc (.cells #[.int .i64 k, .int .i64 c, .int .i64 0, .int .i64 0, .int .i64 cy] 71) = X at *
  generalize W.heap.size = bX at *
  obtain ⟨⟨c0, c1, c2, c3, c4⟩, fA⟩ := id eA
  obtain ⟨⟨x0, x1, x2, x3, x4⟩, fX⟩ := id eX
  obtain ⟨⟨r0, r1, r2, r3, r4⟩, fR⟩ := id eR
  clear fA fX fR
  go_wp2_with (go_at_call 65; refine (isEnt_any _ _ _ _ _ _).mono ?_; rintro e w3 ⟨rfl, hb⟩; have eA := eA.below hb; have eX := eX.below hb; have eR := eR.below hb; have hB := hB.trans (hb.mono hB.size); obtain ⟨⟨c0, c1, c2, c3, c4⟩, fA⟩ := id eA; obtain ⟨⟨x0, x1, x2, x3, x4⟩, fX⟩ := id eX; obtain ⟨⟨r0, r1, r2, r3, r4⟩, fR⟩ := id eR; have f0 := fR 0; have f1 := fR 1; have f2 := fR 2; have f3 := fR 3; have f4 := fR 4; clear fA fX fR)
  refine bodyPost_ret (v := .tuple #[.agg #[.int .i64 0, .int .i64 0, .int .i64 0, .int .i64 0, .int .i64 0], .int .i64 4]) (by simp [results, Tryz.results43, go_sem, r0, r1, r2, r3, r4]) rfl ⟨rfl, ?_⟩
  exact below_store5 hB (Nat.le_succ _) _ _ _ _ _
set_option maxHeartbeats 2000000 in
theorem rgiven_d (k c s o y cy : Int) (w : World) (h : entB k c s o y = true) (h0 : (k == 0) = false) (h3 : (k == 3) = false) (h2 : entB k c 0 0 cy = true) :
    Calls Tryz.prog 43 #[.agg #[.int .i64 k, .int .i64 c, .int .i64 s, .int .i64 o, .int .i64 y], .int .i64 cy] w fun e w' => e = .returned (.tuple #[.agg #[.int .i64 k, .int .i64 c, .int .i64 0, .int .i64 0, .int .i64 cy], .int .i64 0]) ∧ Below w.heap.size w w' := by
  go_enter Tryz.func43, Tryz.ntmps43
  go_upto_region 1 with fail
  have eA := (entBox_new w k c s o y 71).alloc (.cells #[.int .i64 0, .int .i64 0, .int .i64 0, .int .i64 0, .int .i64 0] 71)
  have eR := entBox_new (w.alloc (.cells #[.int .i64 k, .int .i64 c, .int .i64 s, .int .i64 o, .int .i64 y] 71)) 0 0 0 0 0 71
  have hB := ((Below.refl w.heap.size w).alloc (Nat.le_refl _) (.cells #[.int .i64 k, .int .i64 c, .int .i64 s, .int .i64 o, .int .i64 y] 71)).alloc (by simp) (.cells #[.int .i64 0, .int .i64 0, .int .i64 0, .int .i64 0, .int .i64 0] 71)
  rw [World.size_alloc] at eR
  generalize ((w.alloc (.cells #[.int .i64 k, .int .i64 c, .int .i64 s, .int .i64 o, .int .i64 y] 71)).alloc (.cells #[.int .i64 0, .int .i64 0, .int .i64 0, .int .i64 0, .int .i64 0] 71)) = W at *
  obtain ⟨⟨c0, c1, c2, c3, c4⟩, fA⟩ := id eA
  go_upto_region 2 with fail
  have hlA := eA.1.lt
  have hlR := eR.1.lt
  have eX := entBox_new W (k) (c) (0) (0) (cy) 71
  have eA := eA.alloc (.cells #[.int .i64 k, .int .i64 c, .int .i64 0, .int .i64 0, .int .i64 cy] 71)
  have eR := eR.alloc (.cells #[.int .i64 k, .int .i64 c, .int .i64 0, .int .i64 0, .int .i64 cy] 71)
  have hB := hB.alloc hB.size (.cells #[.int .i64 k, .int .i64 c, .int .i64 0, .int .i64 0, .int .i64 cy] 71)
  clear c0 c1 c2 c3 c4 fA
  generalize W.alloc (.cells #[.int .i64 k, .int .i64 c, .int .i64 0, .int .i64 0, .int .i64 cy] 71) = X at *
  generalize W.heap.size = bX at *
  obtain ⟨⟨c0, c1, c2, c3, c4⟩, fA⟩ := id eA
  obtain ⟨⟨x0, x1, x2, x3, x4⟩, fX⟩ := id eX
  obtain ⟨⟨r0, r1, r2, r3, r4⟩, fR⟩ := id eR
  clear fA fX fR
  go_wp2_with (go_at_call 65; refine (isEnt_any _ _ _ _ _ _).mono ?_; rintro e w3 ⟨rfl, hb⟩; have eA := eA.below hb; have eX := eX.below hb; have eR := eR.below hb; have hB := hB.trans (hb.mono hB.size); obtain ⟨⟨c0, c1, c2, c3, c4⟩, fA⟩ := id eA; obtain ⟨⟨x0, x1, x2, x3, x4⟩, fX⟩ := id eX; obtain ⟨⟨r0, r1, r2, r3, r4⟩, fR⟩ := id eR; have f0 := fR 0; have f1 := fR 1; have f2 := fR 2; have f3 := fR 3; have f4 := fR 4; clear fA fX fR)
  refine bodyPost_ret (v := .tuple #[.agg #[.int .i64 k, .int .i64 c, .int .i64 0, .int .i64 0, .int .i64 cy], .int .i64 0]) (by simp [results, Tryz.results43, go_sem, r0, r1, r2, r3, r4]) rfl ⟨rfl, ?_⟩
  exact below_store5 hB (Nat.le_succ _) _ _ _ _ _
end Go.Proofs.YtnodeojeijekcaaGreat
