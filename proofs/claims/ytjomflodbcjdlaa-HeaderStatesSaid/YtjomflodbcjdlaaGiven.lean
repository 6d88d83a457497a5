/- What Taken and Given of package header return. No condition. -/
import Derived.Test.YtjomflodbcjdlaaDue
namespace Go.Proofs.Ytjomflodbcjdlaa
open Go.RowKit
set_option linter.unusedVariables false

theorem holds_below (k c s o y : Int) (w : World) :
    Calls Try.prog 41 #[.agg #[.int .i64 k, .int .i64 c, .int .i64 s, .int .i64 o, .int .i64 y]] w fun e w' => e = .returned (.bool (holdsB k)) ∧ Below w.heap.size w w' := by
  refine (holds_any k c s o y w).mono ?_
  rintro e w' ⟨rfl, rfl⟩
  exact ⟨rfl, (Below.refl _ _).alloc (Nat.le_refl _) _⟩
/-- A box of one's own that may be written. -/
def EntBox (W : World) (b : Nat) (k c s o y : Int) : Prop := EntAt W b k c s o y ∧ ∀ i, W.frozen? ⟨b, i, none⟩ = false
theorem EntBox.below {W W' : World} {b : Nat} {k c s o y : Int} (h : EntBox W b k c s o y) (hb : Below W.heap.size W W') : EntBox W' b k c s o y :=
  ⟨h.1.below hb, fun i => by rw [hb.frozen (p := ⟨b, i, none⟩) h.1.lt]; exact h.2 i⟩
theorem entBox_new (W : World) (k c s o y : Int) (t : TypeId) : EntBox (W.alloc (.cells #[.int .i64 k, .int .i64 c, .int .i64 s, .int .i64 o, .int .i64 y] t)) W.heap.size k c s o y :=
  ⟨entAt_new W k c s o y t, fun i => World.frozen?_alloc_new ..⟩
theorem EntBox.alloc {W : World} {b : Nat} {k c s o y : Int} (h : EntBox W b k c s o y) (ob : Obj) : EntBox (W.alloc ob) b k c s o y := h.below ((Below.refl _ _).alloc (Nat.le_refl _) _)
/-- A box of one's own, all of it written anew. -/
theorem below_store5 {W w : World} {b n : Nat} (h : Below n w W) (hb : n ≤ b) (v0 v1 v2 v3 v4 : Value) : Below n w (((((W.setCell ⟨b, 0, none⟩ v0).setCell ⟨b, 1, none⟩ v1).setCell ⟨b, 2, none⟩ v2).setCell ⟨b, 3, none⟩ v3).setCell ⟨b, 4, none⟩ v4) :=
  ((((h.setCell hb _).setCell hb _).setCell hb _).setCell hb _).setCell hb _
def ZeroE : Value := .agg #[.int .i64 0, .int .i64 0, .int .i64 0, .int .i64 0, .int .i64 0]
set_option maxHeartbeats 1000000 in
theorem given_a (k c s o y cy : Int) (w : World) (h : holdsB k = false) :
    Calls Try.prog 25 #[.agg #[.int .i64 k, .int .i64 c, .int .i64 s, .int .i64 o, .int .i64 y], .int .i64 cy] w fun e w' => e = .returned (.tuple #[.agg #[.int .i64 0, .int .i64 0, .int .i64 0, .int .i64 0, .int .i64 0], .int .i64 4]) ∧ Below w.heap.size w w' := by
  go_enter Try.func25, Try.ntmps25
  go_upto_region 1 with fail
  have eA := (entBox_new w k c s o y 43).alloc (.cells #[.int .i64 0, .int .i64 0, .int .i64 0, .int .i64 0, .int .i64 0] 43)
  have eR := entBox_new (w.alloc (.cells #[.int .i64 k, .int .i64 c, .int .i64 s, .int .i64 o, .int .i64 y] 43)) 0 0 0 0 0 43
  have hB := ((Below.refl w.heap.size w).alloc (Nat.le_refl _) (.cells #[.int .i64 k, .int .i64 c, .int .i64 s, .int .i64 o, .int .i64 y] 43)).alloc (by simp) (.cells #[.int .i64 0, .int .i64 0, .int .i64 0, .int .i64 0, .int .i64 0] 43)
  rw [World.size_alloc] at eR
  generalize ((w.alloc (.cells #[.int .i64 k, .int .i64 c, .int .i64 s, .int .i64 o, .int .i64 y] 43)).alloc (.cells #[.int .i64 0, .int .i64 0, .int .i64 0, .int .i64 0, .int .i64 0] 43)) = W at *
  obtain ⟨⟨c0, c1, c2, c3, c4⟩, fA⟩ := id eA
  go_upto_region 2 with fail
  have eX := entBox_new W k c 0 0 cy 43
  have eA := eA.alloc (.cells #[.int .i64 k, .int .i64 c, .int .i64 0, .int .i64 0, .int .i64 cy] 43)
  have eR := eR.alloc (.cells #[.int .i64 k, .int .i64 c, .int .i64 0, .int .i64 0, .int .i64 cy] 43)
  have hB := hB.alloc hB.size (.cells #[.int .i64 k, .int .i64 c, .int .i64 0, .int .i64 0, .int .i64 cy] 43)
  clear c0 c1 c2 c3 c4 fA
  generalize W.alloc (.cells #[.int .i64 k, .int .i64 c, .int .i64 0, .int .i64 0, .int .i64 cy] 43) = X at *
  generalize W.heap.size = bX at *
  obtain ⟨⟨c0, c1, c2, c3, c4⟩, fA⟩ := id eA
  clear fA
  go_wp2_with (first | (go_at_call 41; refine (holds_below _ _ _ _ _ _).mono ?_; rintro e w2 ⟨rfl, hb⟩; have eA := eA.below hb; have eX := eX.below hb; have eR := eR.below hb; have hB := hB.trans (hb.mono hB.size); obtain ⟨⟨c0, c1, c2, c3, c4⟩, fA⟩ := id eA; obtain ⟨⟨x0, x1, x2, x3, x4⟩, fX⟩ := id eX; obtain ⟨⟨r0, r1, r2, r3, r4⟩, fR⟩ := id eR; have f0 := fR 0; have f1 := fR 1; have f2 := fR 2; have f3 := fR 3; have f4 := fR 4; clear fA fX fR) | (go_at_call 38; refine (entValid_any _ _ _ _ _ _).mono ?_; rintro e w3 ⟨rfl, hb⟩; have eA := eA.below hb; have eX := eX.below hb; have eR := eR.below hb; have hB := hB.trans (hb.mono hB.size); obtain ⟨⟨c0, c1, c2, c3, c4⟩, fA⟩ := id eA; obtain ⟨⟨x0, x1, x2, x3, x4⟩, fX⟩ := id eX; obtain ⟨⟨r0, r1, r2, r3, r4⟩, fR⟩ := id eR; have f0 := fR 0; have f1 := fR 1; have f2 := fR 2; have f3 := fR 3; have f4 := fR 4; clear fA fX fR))
  refine bodyPost_ret (v := .tuple #[.agg #[.int .i64 0, .int .i64 0, .int .i64 0, .int .i64 0, .int .i64 0], .int .i64 4]) (by simp [results, Try.results25, go_sem, r0, r1, r2, r3, r4]) rfl ⟨rfl, ?_⟩
  exact below_store5 hB (Nat.le_succ _) _ _ _ _ _
set_option maxHeartbeats 1000000 in
theorem given_b (k c s o y cy : Int) (w : World) (h : holdsB k = true) (h2 : entB k c s o y = false) :
    Calls Try.prog 25 #[.agg #[.int .i64 k, .int .i64 c, .int .i64 s, .int .i64 o, .int .i64 y], .int .i64 cy] w fun e w' => e = .returned (.tuple #[.agg #[.int .i64 0, .int .i64 0, .int .i64 0, .int .i64 0, .int .i64 0], .int .i64 4]) ∧ Below w.heap.size w w' := by
  go_enter Try.func25, Try.ntmps25
  go_upto_region 1 with fail
  have eA := (entBox_new w k c s o y 43).alloc (.cells #[.int .i64 0, .int .i64 0, .int .i64 0, .int .i64 0, .int .i64 0] 43)
  have eR := entBox_new (w.alloc (.cells #[.int .i64 k, .int .i64 c, .int .i64 s, .int .i64 o, .int .i64 y] 43)) 0 0 0 0 0 43
  have hB := ((Below.refl w.heap.size w).alloc (Nat.le_refl _) (.cells #[.int .i64 k, .int .i64 c, .int .i64 s, .int .i64 o, .int .i64 y] 43)).alloc (by simp) (.cells #[.int .i64 0, .int .i64 0, .int .i64 0, .int .i64 0, .int .i64 0] 43)
  rw [World.size_alloc] at eR
  generalize ((w.alloc (.cells #[.int .i64 k, .int .i64 c, .int .i64 s, .int .i64 o, .int .i64 y] 43)).alloc (.cells #[.int .i64 0, .int .i64 0, .int .i64 0, .int .i64 0, .int .i64 0] 43)) = W at *
  obtain ⟨⟨c0, c1, c2, c3, c4⟩, fA⟩ := id eA
  go_upto_region 2 with fail
  have eX := entBox_new W k c 0 0 cy 43
  have eA := eA.alloc (.cells #[.int .i64 k, .int .i64 c, .int .i64 0, .int .i64 0, .int .i64 cy] 43)
  have eR := eR.alloc (.cells #[.int .i64 k, .int .i64 c, .int .i64 0, .int .i64 0, .int .i64 cy] 43)
  have hB := hB.alloc hB.size (.cells #[.int .i64 k, .int .i64 c, .int .i64 0, .int .i64 0, .int .i64 cy] 43)
  clear c0 c1 c2 c3 c4 fA
  generalize W.alloc (.cells #[.int .i64 k, .int .i64 c, .int .i64 0, .int .i64 0, .int .i64 cy] 43) = X at *
  generalize W.heap.size = bX at *
  obtain ⟨⟨c0, c1, c2, c3, c4⟩, fA⟩ := id eA
  clear fA
  go_wp2_with (first | (go_at_call 41; refine (holds_below _ _ _ _ _ _).mono ?_; rintro e w2 ⟨rfl, hb⟩; have eA := eA.below hb; have eX := eX.below hb; have eR := eR.below hb; have hB := hB.trans (hb.mono hB.size); obtain ⟨⟨c0, c1, c2, c3, c4⟩, fA⟩ := id eA; obtain ⟨⟨x0, x1, x2, x3, x4⟩, fX⟩ := id eX; obtain ⟨⟨r0, r1, r2, r3, r4⟩, fR⟩ := id eR; have f0 := fR 0; have f1 := fR 1; have f2 := fR 2; have f3 := fR 3; have f4 := fR 4; clear fA fX fR) | (go_at_call 38; refine (entValid_any _ _ _ _ _ _).mono ?_; rintro e w3 ⟨rfl, hb⟩; have eA := eA.below hb; have eX := eX.below hb; have eR := eR.below hb; have hB := hB.trans (hb.mono hB.size); obtain ⟨⟨c0, c1, c2, c3, c4⟩, fA⟩ := id eA; obtain ⟨⟨x0, x1, x2, x3, x4⟩, fX⟩ := id eX; obtain ⟨⟨r0, r1, r2, r3, r4⟩, fR⟩ := id eR; have f0 := fR 0; have f1 := fR 1; have f2 := fR 2; have f3 := fR 3; have f4 := fR 4; clear fA fX fR))
  refine bodyPost_ret (v := .tuple #[.agg #[.int .i64 0, .int .i64 0, .int .i64 0, .int .i64 0, .int .i64 0], .int .i64 4]) (by simp [results, Try.results25, go_sem, r0, r1, r2, r3, r4]) rfl ⟨rfl, ?_⟩
  exact below_store5 hB (Nat.le_succ _) _ _ _ _ _
set_option maxHeartbeats 1000000 in
theorem given_c (k c s o y cy : Int) (w : World) (h : holdsB k = true) (h2 : entB k c s o y = true) (h3 : entB k c 0 0 cy = false) :
    Calls Try.prog 25 #[.agg #[.int .i64 k, .int .i64 c, .int .i64 s, .int .i64 o, .int .i64 y], .int .i64 cy] w fun e w' => e = .returned (.tuple #[.agg #[.int .i64 0, .int .i64 0, .int .i64 0, .int .i64 0, .int .i64 0], .int .i64 4]) ∧ Below w.heap.size w w' := by
  go_enter Try.func25, Try.ntmps25
  go_upto_region 1 with fail
  have eA := (entBox_new w k c s o y 43).alloc (.cells #[.int .i64 0, .int .i64 0, .int .i64 0, .int .i64 0, .int .i64 0] 43)
  have eR := entBox_new (w.alloc (.cells #[.int .i64 k, .int .i64 c, .int .i64 s, .int .i64 o, .int .i64 y] 43)) 0 0 0 0 0 43
  have hB := ((Below.refl w.heap.size w).alloc (Nat.le_refl _) (.cells #[.int .i64 k, .int .i64 c, .int .i64 s, .int .i64 o, .int .i64 y] 43)).alloc (by simp) (.cells #[.int .i64 0, .int .i64 0, .int .i64 0, .int .i64 0, .int .i64 0] 43)
  rw [World.size_alloc] at eR
  generalize ((w.alloc (.cells #[.int .i64 k, .int .i64 c, .int .i64 s, .int .i64 o, .int .i64 y] 43)).alloc (.cells #[.int .i64 0, .int .i64 0, .int .i64 0, .int .i64 0, .int .i64 0] 43)) = W at *
  obtain ⟨⟨c0, c1, c2, c3, c4⟩, fA⟩ := id eA
  go_upto_region 2 with fail
  have eX := entBox_new W k c 0 0 cy 43
  have eA := eA.alloc (.cells #[.int .i64 k, .int .i64 c, .int .i64 0, .int .i64 0, .int .i64 cy] 43)
  have eR := eR.alloc (.cells #[.int .i64 k, .int .i64 c, .int .i64 0, .int .i64 0, .int .i64 cy] 43)
  have hB := hB.alloc hB.size (.cells #[.int .i64 k, .int .i64 c, .int .i64 0, .int .i64 0, .int .i64 cy] 43)
  clear c0 c1 c2 c3 c4 fA
  generalize W.alloc (.cells #[.int .i64 k, .int .i64 c, .int .i64 0, .int .i64 0, .int .i64 cy] 43) = X at *
  generalize W.heap.size = bX at *
  obtain ⟨⟨c0, c1, c2, c3, c4⟩, fA⟩ := id eA
  clear fA
  go_wp2_with (first | (go_at_call 41; refine (holds_below _ _ _ _ _ _).mono ?_; rintro e w2 ⟨rfl, hb⟩; have eA := eA.below hb; have eX := eX.below hb; have eR := eR.below hb; have hB := hB.trans (hb.mono hB.size); obtain ⟨⟨c0, c1, c2, c3, c4⟩, fA⟩ := id eA; obtain ⟨⟨x0, x1, x2, x3, x4⟩, fX⟩ := id eX; obtain ⟨⟨r0, r1, r2, r3, r4⟩, fR⟩ := id eR; have f0 := fR 0; have f1 := fR 1; have f2 := fR 2; have f3 := fR 3; have f4 := fR 4; clear fA fX fR) | (go_at_call 38; refine (entValid_any _ _ _ _ _ _).mono ?_; rintro e w3 ⟨rfl, hb⟩; have eA := eA.below hb; have eX := eX.below hb; have eR := eR.below hb; have hB := hB.trans (hb.mono hB.size); obtain ⟨⟨c0, c1, c2, c3, c4⟩, fA⟩ := id eA; obtain ⟨⟨x0, x1, x2, x3, x4⟩, fX⟩ := id eX; obtain ⟨⟨r0, r1, r2, r3, r4⟩, fR⟩ := id eR; have f0 := fR 0; have f1 := fR 1; have f2 := fR 2; have f3 := fR 3; have f4 := fR 4; clear fA fX fR))
  refine bodyPost_ret (v := .tuple #[.agg #[.int .i64 0, .int .i64 0, .int .i64 0, .int .i64 0, .int .i64 0], .int .i64 4]) (by simp [results, Try.results25, go_sem, r0, r1, r2, r3, r4]) rfl ⟨rfl, ?_⟩
  exact below_store5 hB (Nat.le_succ _) _ _ _ _ _
set_option maxHeartbeats 1000000 in
theorem given_d (k c s o y cy : Int) (w : World) (h : holdsB k = true) (h2 : entB k c s o y = true) (h3 : entB k c 0 0 cy = true) :
    Calls Try.prog 25 #[.agg #[.int .i64 k, .int .i64 c, .int .i64 s, .int .i64 o, .int .i64 y], .int .i64 cy] w fun e w' => e = .returned (.tuple #[.agg #[.int .i64 k, .int .i64 c, .int .i64 0, .int .i64 0, .int .i64 cy], .int .i64 0]) ∧ Below w.heap.size w w' := by
  go_enter Try.func25, Try.ntmps25
  go_upto_region 1 with fail
  have eA := (entBox_new w k c s o y 43).alloc (.cells #[.int .i64 0, .int .i64 0, .int .i64 0, .int .i64 0, .int .i64 0] 43)
  have eR := entBox_new (w.alloc (.cells #[.int .i64 k, .int .i64 c, .int .i64 s, .int .i64 o, .int .i64 y] 43)) 0 0 0 0 0 43
  have hB := ((Below.refl w.heap.size w).alloc (Nat.le_refl _) (.cells #[.int .i64 k, .int .i64 c, .int .i64 s, .int .i64 o, .int .i64 y] 43)).alloc (by simp) (.cells #[.int .i64 0, .int .i64 0, .int .i64 0, .int .i64 0, .int .i64 0] 43)
  rw [World.size_alloc] at eR
  generalize ((w.alloc (.cells #[.int .i64 k, .int .i64 c, .int .i64 s, .int .i64 o, .int .i64 y] 43)).alloc (.cells #[.int .i64 0, .int .i64 0, .int .i64 0, .int .i64 0, .int .i64 0] 43)) = W at *
  obtain ⟨⟨c0, c1, c2, c3, c4⟩, fA⟩ := id eA
  go_upto_region 2 with fail
  have eX := entBox_new W k c 0 0 cy 43
  have eA := eA.alloc (.cells #[.int .i64 k, .int .i64 c, .int .i64 0, .int .i64 0, .int .i64 cy] 43)
  have eR := eR.alloc (.cells #[.int .i64 k, .int .i64 c, .int .i64 0, .int .i64 0, .int .i64 cy] 43)
  have hB := hB.alloc hB.size (.cells #[.int .i64 k, .int .i64 c, .int .i64 0, .int .i64 0, .int .i64 cy] 43)
  clear c0 c1 c2 c3 c4 fA
  generalize W.alloc (.cells #[.int .i64 k, .int .i64 c, .int .i64 0, .int .i64 0, .int .i64 cy] 43) = X at *
  generalize W.heap.size = bX at *
  obtain ⟨⟨c0, c1, c2, c3, c4⟩, fA⟩ := id eA
  clear fA
  go_wp2_with (first | (go_at_call 41; refine (holds_below _ _ _ _ _ _).mono ?_; rintro e w2 ⟨rfl, hb⟩; have eA := eA.below hb; have eX := eX.below hb; have eR := eR.below hb; have hB := hB.trans (hb.mono hB.size); obtain ⟨⟨c0, c1, c2, c3, c4⟩, fA⟩ := id eA; obtain ⟨⟨x0, x1, x2, x3, x4⟩, fX⟩ := id eX; obtain ⟨⟨r0, r1, r2, r3, r4⟩, fR⟩ := id eR; have f0 := fR 0; have f1 := fR 1; have f2 := fR 2; have f3 := fR 3; have f4 := fR 4; clear fA fX fR) | (go_at_call 38; refine (entValid_any _ _ _ _ _ _).mono ?_; rintro e w3 ⟨rfl, hb⟩; have eA := eA.below hb; have eX := eX.below hb; have eR := eR.below hb; have hB := hB.trans (hb.mono hB.size); obtain ⟨⟨c0, c1, c2, c3, c4⟩, fA⟩ := id eA; obtain ⟨⟨x0, x1, x2, x3, x4⟩, fX⟩ := id eX; obtain ⟨⟨r0, r1, r2, r3, r4⟩, fR⟩ := id eR; have f0 := fR 0; have f1 := fR 1; have f2 := fR 2; have f3 := fR 3; have f4 := fR 4; clear fA fX fR))
  refine bodyPost_ret (v := .tuple #[.agg #[.int .i64 k, .int .i64 c, .int .i64 0, .int .i64 0, .int .i64 cy], .int .i64 0]) (by simp [results, Try.results25, go_sem, r0, r1, r2, r3, r4]) rfl ⟨rfl, ?_⟩
  exact below_store5 hB (Nat.le_succ _) _ _ _ _ _
end Go.Proofs.Ytjomflodbcjdlaa
