/- What the document's Taken and Given return, for all entries. No condition. -/
import Derived.Test.YtjomflodbcjdlaaRent
import Derived.Test.YtjomflodbcjdlaaTaken
namespace Go.Proofs.Ytjomflodbcjdlaa
open Go.RowKit
set_option linter.unusedVariables false
set_option linter.unusedSimpArgs false
set_option maxHeartbeats 2000000 in
theorem rtaken_a (k c s o y s' o' : Int) (w : World) (h : entB k c s o y = false) :
    Calls Try.prog 24 #[.agg #[.int .i64 k, .int .i64 c, .int .i64 s, .int .i64 o, .int .i64 y], .int .i64 s', .int .i64 o'] w fun e w' => e = .returned (.tuple #[.agg #[.int .i64 0, .int .i64 0, .int .i64 0, .int .i64 0, .int .i64 0], .int .i64 4]) ∧ Below w.heap.size w w' := by
  go_enter Try.func24, Try.ntmps24
  go_upto_region 1 with fail
  have eA := (entBox_new w k c s o y 41).alloc (.cells #[.int .i64 0, .int .i64 0, .int .i64 0, .int .i64 0, .int .i64 0] 41)
  have eR := entBox_new (w.alloc (.cells #[.int .i64 k, .int .i64 c, .int .i64 s, .int .i64 o, .int .i64 y] 41)) 0 0 0 0 0 41
  have hB := ((Below.refl w.heap.size w).alloc (Nat.le_refl _) (.cells #[.int .i64 k, .int .i64 c, .int .i64 s, .int .i64 o, .int .i64 y] 41)).alloc (by simp) (.cells #[.int .i64 0, .int .i64 0, .int .i64 0, .int .i64 0, .int .i64 0] 41)
  rw [World.size_alloc] at eR
  generalize ((w.alloc (.cells #[.int .i64 k, .int .i64 c, .int .i64 s, .int .i64 o, .int .i64 y] 41)).alloc (.cells #[.int .i64 0, .int .i64 0, .int .i64 0, .int .i64 0, .int .i64 0] 41)) = W at *
  obtain ⟨⟨c0, c1, c2, c3, c4⟩, fA⟩ := id eA
  go_upto_region 2 with fail
  have hlA := eA.1.lt
  have hlR := eR.1.lt
  have eX := entBox_new W (k) (c) (s') (o') (y) 41
  have eA := eA.alloc (.cells #[.int .i64 k, .int .i64 c, .int .i64 s', .int .i64 o', .int .i64 y] 41)
  have eR := eR.alloc (.cells #[.int .i64 k, .int .i64 c, .int .i64 s', .int .i64 o', .int .i64 y] 41)
  have hB := hB.alloc hB.size (.cells #[.int .i64 k, .int .i64 c, .int .i64 s', .int .i64 o', .int .i64 y] 41)
  clear c0 c1 c2 c3 c4 fA
  generalize W.alloc (.cells #[.int .i64 k, .int .i64 c, .int .i64 s', .int .i64 o', .int .i64 y] 41) = X at *
  generalize W.heap.size = bX at *
  obtain ⟨⟨c0, c1, c2, c3, c4⟩, fA⟩ := id eA
  obtain ⟨⟨x0, x1, x2, x3, x4⟩, fX⟩ := id eX
  obtain ⟨⟨r0, r1, r2, r3, r4⟩, fR⟩ := id eR
  clear fA fX fR
  go_wp2_with (go_at_call 40; refine (isEnt_any _ _ _ _ _ _).mono ?_; rintro e w3 ⟨rfl, hb⟩; have eA := eA.below hb; have eX := eX.below hb; have eR := eR.below hb; have hB := hB.trans (hb.mono hB.size); obtain ⟨⟨c0, c1, c2, c3, c4⟩, fA⟩ := id eA; obtain ⟨⟨x0, x1, x2, x3, x4⟩, fX⟩ := id eX; obtain ⟨⟨r0, r1, r2, r3, r4⟩, fR⟩ := id eR; have f0 := fR 0; have f1 := fR 1; have f2 := fR 2; have f3 := fR 3; have f4 := fR 4; clear fA fX fR)
  refine bodyPost_ret (v := .tuple #[.agg #[.int .i64 0, .int .i64 0, .int .i64 0, .int .i64 0, .int .i64 0], .int .i64 4]) (by simp [results, Try.results24, go_sem, r0, r1, r2, r3, r4]) rfl ⟨rfl, ?_⟩
  exact below_store5 hB (Nat.le_succ _) _ _ _ _ _
set_option maxHeartbeats 2000000 in
theorem rtaken_b (k c s o y s' o' : Int) (w : World) (h : entB k c s o y = true) (h2 : entB k c s' o' y = false) :
    Calls Try.prog 24 #[.agg #[.int .i64 k, .int .i64 c, .int .i64 s, .int .i64 o, .int .i64 y], .int .i64 s', .int .i64 o'] w fun e w' => e = .returned (.tuple #[.agg #[.int .i64 0, .int .i64 0, .int .i64 0, .int .i64 0, .int .i64 0], .int .i64 4]) ∧ Below w.heap.size w w' := by
  go_enter Try.func24, Try.ntmps24
  go_upto_region 1 with fail
  have eA := (entBox_new w k c s o y 41).alloc (.cells #[.int .i64 0, .int .i64 0, .int .i64 0, .int .i64 0, .int .i64 0] 41)
  have eR := entBox_new (w.alloc (.cells #[.int .i64 k, .int .i64 c, .int .i64 s, .int .i64 o, .int .i64 y] 41)) 0 0 0 0 0 41
  have hB := ((Below.refl w.heap.size w).alloc (Nat.le_refl _) (.cells #[.int .i64 k, .int .i64 c, .int .i64 s, .int .i64 o, .int .i64 y] 41)).alloc (by simp) (.cells #[.int .i64 0, .int .i64 0, .int .i64 0, .int .i64 0, .int .i64 0] 41)
  rw [World.size_alloc] at eR
  generalize ((w.alloc (.cells #[.int .i64 k, .int .i64 c, .int .i64 s, .int .i64 o, .int .i64 y] 41)).alloc (.cells #[.int .i64 0, .int .i64 0, .int .i64 0, .int .i64 0, .int .i64 0] 41)) = W at *
  obtain ⟨⟨c0, c1, c2, c3, c4⟩, fA⟩ := id eA
  go_upto_region 2 with fail
  have hlA := eA.1.lt
  have hlR := eR.1.lt
  have eX := entBox_new W (k) (c) (s') (o') (y) 41
  have eA := eA.alloc (.cells #[.int .i64 k, .int .i64 c, .int .i64 s', .int .i64 o', .int .i64 y] 41)
  have eR := eR.alloc (.cells #[.int .i64 k, .int .i64 c, .int .i64 s', .int .i64 o', .int .i64 y] 41)
  have hB := hB.alloc hB.size (.cells #[.int .i64 k, .int .i64 c, .int .i64 s', .int .i64 o', .int .i64 y] 41)
  clear c0 c1 c2 c3 c4 fA
  generalize W.alloc (.cells #[.int .i64 k, .int .i64 c, .int .i64 s', .int .i64 o', .int .i64 y] 41) = X at *
  generalize W.heap.size = bX at *
  obtain ⟨⟨c0, c1, c2, c3, c4⟩, fA⟩ := id eA
  obtain ⟨⟨x0, x1, x2, x3, x4⟩, fX⟩ := id eX
  obtain ⟨⟨r0, r1, r2, r3, r4⟩, fR⟩ := id eR
  clear fA fX fR
  go_wp2_with (go_at_call 40; refine (isEnt_any _ _ _ _ _ _).mono ?_; rintro e w3 ⟨rfl, hb⟩; have eA := eA.below hb; have eX := eX.below hb; have eR := eR.below hb; have hB := hB.trans (hb.mono hB.size); obtain ⟨⟨c0, c1, c2, c3, c4⟩, fA⟩ := id eA; obtain ⟨⟨x0, x1, x2, x3, x4⟩, fX⟩ := id eX; obtain ⟨⟨r0, r1, r2, r3, r4⟩, fR⟩ := id eR; have f0 := fR 0; have f1 := fR 1; have f2 := fR 2; have f3 := fR 3; have f4 := fR 4; clear fA fX fR)
  refine bodyPost_ret (v := .tuple #[.agg #[.int .i64 0, .int .i64 0, .int .i64 0, .int .i64 0, .int .i64 0], .int .i64 4]) (by simp [results, Try.results24, go_sem, r0, r1, r2, r3, r4]) rfl ⟨rfl, ?_⟩
  exact below_store5 hB (Nat.le_succ _) _ _ _ _ _
set_option maxHeartbeats 2000000 in
theorem rtaken_c (k c s o y s' o' : Int) (w : World) (h : entB k c s o y = true) (h2 : entB k c s' o' y = true) :
    Calls Try.prog 24 #[.agg #[.int .i64 k, .int .i64 c, .int .i64 s, .int .i64 o, .int .i64 y], .int .i64 s', .int .i64 o'] w fun e w' => e = .returned (.tuple #[.agg #[.int .i64 k, .int .i64 c, .int .i64 s', .int .i64 o', .int .i64 y], .int .i64 0]) ∧ Below w.heap.size w w' := by
  go_enter Try.func24, Try.ntmps24
  go_upto_region 1 with fail
  have eA := (entBox_new w k c s o y 41).alloc (.cells #[.int .i64 0, .int .i64 0, .int .i64 0, .int .i64 0, .int .i64 0] 41)
  have eR := entBox_new (w.alloc (.cells #[.int .i64 k, .int .i64 c, .int .i64 s, .int .i64 o, .int .i64 y] 41)) 0 0 0 0 0 41
  have hB := ((Below.refl w.heap.size w).alloc (Nat.le_refl _) (.cells #[.int .i64 k, .int .i64 c, .int .i64 s, .int .i64 o, .int .i64 y] 41)).alloc (by simp) (.cells #[.int .i64 0, .int .i64 0, .int .i64 0, .int .i64 0, .int .i64 0] 41)
  rw [World.size_alloc] at eR
  generalize ((w.alloc (.cells #[.int .i64 k, .int .i64 c, .int .i64 s, .int .i64 o, .int .i64 y] 41)).alloc (.cells #[.int .i64 0, .int .i64 0, .int .i64 0, .int .i64 0, .int .i64 0] 41)) = W at *
  obtain ⟨⟨c0, c1, c2, c3, c4⟩, fA⟩ := id eA
  go_upto_region 2 with fail
  have hlA := eA.1.lt
  have hlR := eR.1.lt
  have eX := entBox_new W (k) (c) (s') (o') (y) 41
  have eA := eA.alloc (.cells #[.int .i64 k, .int .i64 c, .int .i64 s', .int .i64 o', .int .i64 y] 41)
  have eR := eR.alloc (.cells #[.int .i64 k, .int .i64 c, .int .i64 s', .int .i64 o', .int .i64 y] 41)
  have hB := hB.alloc hB.size (.cells #[.int .i64 k, .int .i64 c, .int .i64 s', .int .i64 o', .int .i64 y] 41)
  clear c0 c1 c2 c3 c4 fA
  generalize W.alloc (.cells #[.int .i64 k, .int .i64 c, .int .i64 s', .int .i64 o', .int .i64 y] 41) = X at *
  generalize W.heap.size = bX at *
  obtain ⟨⟨c0, c1, c2, c3, c4⟩, fA⟩ := id eA
  obtain ⟨⟨x0, x1, x2, x3, x4⟩, fX⟩ := id eX
  obtain ⟨⟨r0, r1, r2, r3, r4⟩, fR⟩ := id eR
  clear fA fX fR
  go_wp2_with (go_at_call 40; refine (isEnt_any _ _ _ _ _ _).mono ?_; rintro e w3 ⟨rfl, hb⟩; have eA := eA.below hb; have eX := eX.below hb; have eR := eR.below hb; have hB := hB.trans (hb.mono hB.size); obtain ⟨⟨c0, c1, c2, c3, c4⟩, fA⟩ := id eA; obtain ⟨⟨x0, x1, x2, x3, x4⟩, fX⟩ := id eX; obtain ⟨⟨r0, r1, r2, r3, r4⟩, fR⟩ := id eR; have f0 := fR 0; have f1 := fR 1; have f2 := fR 2; have f3 := fR 3; have f4 := fR 4; clear fA fX fR)
  refine bodyPost_ret (v := .tuple #[.agg #[.int .i64 k, .int .i64 c, .int .i64 s', .int .i64 o', .int .i64 y], .int .i64 0]) (by simp [results, Try.results24, go_sem, r0, r1, r2, r3, r4]) rfl ⟨rfl, ?_⟩
  exact below_store5 hB (Nat.le_succ _) _ _ _ _ _
set_option maxHeartbeats 2000000 in
theorem rgiven_a (k c s o y cy : Int) (w : World) (h : entB k c s o y = false) :
    Calls Try.prog 26 #[.agg #[.int .i64 k, .int .i64 c, .int .i64 s, .int .i64 o, .int .i64 y], .int .i64 cy] w fun e w' => e = .returned (.tuple #[.agg #[.int .i64 0, .int .i64 0, .int .i64 0, .int .i64 0, .int .i64 0], .int .i64 4]) ∧ Below w.heap.size w w' := by
  go_enter Try.func26, Try.ntmps26
  go_upto_region 1 with fail
  have eA := (entBox_new w k c s o y 41).alloc (.cells #[.int .i64 0, .int .i64 0, .int .i64 0, .int .i64 0, .int .i64 0] 41)
  have eR := entBox_new (w.alloc (.cells #[.int .i64 k, .int .i64 c, .int .i64 s, .int .i64 o, .int .i64 y] 41)) 0 0 0 0 0 41
  have hB := ((Below.refl w.heap.size w).alloc (Nat.le_refl _) (.cells #[.int .i64 k, .int .i64 c, .int .i64 s, .int .i64 o, .int .i64 y] 41)).alloc (by simp) (.cells #[.int .i64 0, .int .i64 0, .int .i64 0, .int .i64 0, .int .i64 0] 41)
  rw [World.size_alloc] at eR
  generalize ((w.alloc (.cells #[.int .i64 k, .int .i64 c, .int .i64 s, .int .i64 o, .int .i64 y] 41)).alloc (.cells #[.int .i64 0, .int .i64 0, .int .i64 0, .int .i64 0, .int .i64 0] 41)) = W at *
  obtain ⟨⟨c0, c1, c2, c3, c4⟩, fA⟩ := id eA
  go_upto_region 2 with fail
  have hlA := eA.1.lt
  have hlR := eR.1.lt
  have eX := entBox_new W (k) (c) (0) (0) (cy) 41
  have eA := eA.alloc (.cells #[.int .i64 k, .int .i64 c, .int .i64 0, .int .i64 0, .int .i64 cy] 41)
  have eR := eR.alloc (.cells #[.int .i64 k, .int .i64 c, .int .i64 0, .int .i64 0, .int .i64 cy] 41)
  have hB := hB.alloc hB.size (.cells #[.int .i64 k, .int .i64 c, .int .i64 0, .int .i64 0, .int .i64 cy] 41)
  clear c0 c1 c2 c3 c4 fA
  generalize W.alloc (.cells #[.int .i64 k, .int .i64 c, .int .i64 0, .int .i64 0, .int .i64 cy] 41) = X at *
  generalize W.heap.size = bX at *
  obtain ⟨⟨c0, c1, c2, c3, c4⟩, fA⟩ := id eA
  obtain ⟨⟨x0, x1, x2, x3, x4⟩, fX⟩ := id eX
  obtain ⟨⟨r0, r1, r2, r3, r4⟩, fR⟩ := id eR
  clear fA fX fR
  go_wp2_with (go_at_call 40; refine (isEnt_any _ _ _ _ _ _).mono ?_; rintro e w3 ⟨rfl, hb⟩; have eA := eA.below hb; have eX := eX.below hb; have eR := eR.below hb; have hB := hB.trans (hb.mono hB.size); obtain ⟨⟨c0, c1, c2, c3, c4⟩, fA⟩ := id eA; obtain ⟨⟨x0, x1, x2, x3, x4⟩, fX⟩ := id eX; obtain ⟨⟨r0, r1, r2, r3, r4⟩, fR⟩ := id eR; have f0 := fR 0; have f1 := fR 1; have f2 := fR 2; have f3 := fR 3; have f4 := fR 4; clear fA fX fR)
  refine bodyPost_ret (v := .tuple #[.agg #[.int .i64 0, .int .i64 0, .int .i64 0, .int .i64 0, .int .i64 0], .int .i64 4]) (by simp [results, Try.results26, go_sem, r0, r1, r2, r3, r4]) rfl ⟨rfl, ?_⟩
  exact below_store5 hB (Nat.le_succ _) _ _ _ _ _
set_option maxHeartbeats 2000000 in
theorem rgiven_0 (k c s o y cy : Int) (w : World) (h : entB k c s o y = true) (h0 : (k == 0) = true) :
    Calls Try.prog 26 #[.agg #[.int .i64 k, .int .i64 c, .int .i64 s, .int .i64 o, .int .i64 y], .int .i64 cy] w fun e w' => e = .returned (.tuple #[.agg #[.int .i64 0, .int .i64 0, .int .i64 0, .int .i64 0, .int .i64 0], .int .i64 4]) ∧ Below w.heap.size w w' := by
  go_enter Try.func26, Try.ntmps26
  go_upto_region 1 with fail
  have eA := (entBox_new w k c s o y 41).alloc (.cells #[.int .i64 0, .int .i64 0, .int .i64 0, .int .i64 0, .int .i64 0] 41)
  have eR := entBox_new (w.alloc (.cells #[.int .i64 k, .int .i64 c, .int .i64 s, .int .i64 o, .int .i64 y] 41)) 0 0 0 0 0 41
  have hB := ((Below.refl w.heap.size w).alloc (Nat.le_refl _) (.cells #[.int .i64 k, .int .i64 c, .int .i64 s, .int .i64 o, .int .i64 y] 41)).alloc (by simp) (.cells #[.int .i64 0, .int .i64 0, .int .i64 0, .int .i64 0, .int .i64 0] 41)
  rw [World.size_alloc] at eR
  generalize ((w.alloc (.cells #[.int .i64 k, .int .i64 c, .int .i64 s, .int .i64 o, .int .i64 y] 41)).alloc (.cells #[.int .i64 0, .int .i64 0, .int .i64 0, .int .i64 0, .int .i64 0] 41)) = W at *
  obtain ⟨⟨c0, c1, c2, c3, c4⟩, fA⟩ := id eA
  go_upto_region 2 with fail
  have hlA := eA.1.lt
  have hlR := eR.1.lt
  have eX := entBox_new W (k) (c) (0) (0) (cy) 41
  have eA := eA.alloc (.cells #[.int .i64 k, .int .i64 c, .int .i64 0, .int .i64 0, .int .i64 cy] 41)
  have eR := eR.alloc (.cells #[.int .i64 k, .int .i64 c, .int .i64 0, .int .i64 0, .int .i64 cy] 41)
  have hB := hB.alloc hB.size (.cells #[.int .i64 k, .int .i64 c, .int .i64 0, .int .i64 0, .int .i64 cy] 41)
  clear c0 c1 c2 c3 c4 fA
  generalize W.alloc (.cells #[.int .i64 k, .int .i64 c, .int .i64 0, .int .i64 0, .int .i64 cy] 41) = X at *
  generalize W.heap.size = bX at *
  obtain ⟨⟨c0, c1, c2, c3, c4⟩, fA⟩ := id eA
  obtain ⟨⟨x0, x1, x2, x3, x4⟩, fX⟩ := id eX
  obtain ⟨⟨r0, r1, r2, r3, r4⟩, fR⟩ := id eR
  clear fA fX fR
  go_wp2_with (go_at_call 40; refine (isEnt_any _ _ _ _ _ _).mono ?_; rintro e w3 ⟨rfl, hb⟩; have eA := eA.below hb; have eX := eX.below hb; have eR := eR.below hb; have hB := hB.trans (hb.mono hB.size); obtain ⟨⟨c0, c1, c2, c3, c4⟩, fA⟩ := id eA; obtain ⟨⟨x0, x1, x2, x3, x4⟩, fX⟩ := id eX; obtain ⟨⟨r0, r1, r2, r3, r4⟩, fR⟩ := id eR; have f0 := fR 0; have f1 := fR 1; have f2 := fR 2; have f3 := fR 3; have f4 := fR 4; clear fA fX fR)
  refine bodyPost_ret (v := .tuple #[.agg #[.int .i64 0, .int .i64 0, .int .i64 0, .int .i64 0, .int .i64 0], .int .i64 4]) (by simp [results, Try.results26, go_sem, r0, r1, r2, r3, r4]) rfl ⟨rfl, ?_⟩
  exact below_store5 hB (Nat.le_succ _) _ _ _ _ _
set_option maxHeartbeats 2000000 in
theorem rgiven_3 (k c s o y cy : Int) (w : World) (h : entB k c s o y = true) (h0 : (k == 0) = false) (h3 : (k == 3) = true) :
    Calls Try.prog 26 #[.agg #[.int .i64 k, .int .i64 c, .int .i64 s, .int .i64 o, .int .i64 y], .int .i64 cy] w fun e w' => e = .returned (.tuple #[.agg #[.int .i64 0, .int .i64 0, .int .i64 0, .int .i64 0, .int .i64 0], .int .i64 4]) ∧ Below w.heap.size w w' := by
  go_enter Try.func26, Try.ntmps26
  go_upto_region 1 with fail
  have eA := (entBox_new w k c s o y 41).alloc (.cells #[.int .i64 0, .int .i64 0, .int .i64 0, .int .i64 0, .int .i64 0] 41)
  have eR := entBox_new (w.alloc (.cells #[.int .i64 k, .int .i64 c, .int .i64 s, .int .i64 o, .int .i64 y] 41)) 0 0 0 0 0 41
  have hB := ((Below.refl w.heap.size w).alloc (Nat.le_refl _) (.cells #[.int .i64 k, .int .i64 c, .int .i64 s, .int .i64 o, .int .i64 y] 41)).alloc (by simp) (.cells #[.int .i64 0, .int .i64 0, .int .i64 0, .int .i64 0, .int .i64 0] 41)
  rw [World.size_alloc] at eR
  generalize ((w.alloc (.cells #[.int .i64 k, .int .i64 c, .int .i64 s, .int .i64 o, .int .i64 y] 41)).alloc (.cells #[.int .i64 0, .int .i64 0, .int .i64 0, .int .i64 0, .int .i64 0] 41)) = W at *
  obtain ⟨⟨c0, c1, c2, c3, c4⟩, fA⟩ := id eA
  go_upto_region 2 with fail
  have hlA := eA.1.lt
  have hlR := eR.1.lt
  have eX := entBox_new W (k) (c) (0) (0) (cy) 41
  have eA := eA.alloc (.cells #[.int .i64 k, .int .i64 c, .int .i64 0, .int .i64 0, .int .i64 cy] 41)
  have eR := eR.alloc (.cells #[.int .i64 k, .int .i64 c, .int .i64 0, .int .i64 0, .int .i64 cy] 41)
  have hB := hB.alloc hB.size (.cells #[.int .i64 k, .int .i64 c, .int .i64 0, .int .i64 0, .int .i64 cy] 41)
  clear c0 c1 c2 c3 c4 fA
  generalize W.alloc (.cells #[.int .i64 k, .int .i64 c, .int .i64 0, .int .i64 0, .int .i64 cy] 41) = X at *
  generalize W.heap.size = bX at *
  obtain ⟨⟨c0, c1, c2, c3, c4⟩, fA⟩ := id eA
  obtain ⟨⟨x0, x1, x2, x3, x4⟩, fX⟩ := id eX
  obtain ⟨⟨r0, r1, r2, r3, r4⟩, fR⟩ := id eR
  clear fA fX fR
  go_wp2_with (go_at_call 40; refine (isEnt_any _ _ _ _ _ _).mono ?_; rintro e w3 ⟨rfl, hb⟩; have eA := eA.below hb; have eX := eX.below hb; have eR := eR.below hb; have hB := hB.trans (hb.mono hB.size); obtain ⟨⟨c0, c1, c2, c3, c4⟩, fA⟩ := id eA; obtain ⟨⟨x0, x1, x2, x3, x4⟩, fX⟩ := id eX; obtain ⟨⟨r0, r1, r2, r3, r4⟩, fR⟩ := id eR; have f0 := fR 0; have f1 := fR 1; have f2 := fR 2; have f3 := fR 3; have f4 := fR 4; clear fA fX fR)
  refine bodyPost_ret (v := .tuple #[.agg #[.int .i64 0, .int .i64 0, .int .i64 0, .int .i64 0, .int .i64 0], .int .i64 4]) (by simp [results, Try.results26, go_sem, r0, r1, r2, r3, r4]) rfl ⟨rfl, ?_⟩
  exact below_store5 hB (Nat.le_succ _) _ _ _ _ _
set_option maxHeartbeats 2000000 in
theorem rgiven_c (k c s o y cy : Int) (w : World) (h : entB k c s o y = true) (h0 : (k == 0) = false) (h3 : (k == 3) = false) (h2 : entB k c 0 0 cy = false) :
    Calls Try.prog 26 #[.agg #[.int .i64 k, .int .i64 c, .int .i64 s, .int .i64 o, .int .i64 y], .int .i64 cy] w fun e w' => e = .returned (.tuple #[.agg #[.int .i64 0, .int .i64 0, .int .i64 0, .int .i64 0, .int .i64 0], .int .i64 4]) ∧ Below w.heap.size w w' := by
  go_enter Try.func26, Try.ntmps26
  go_upto_region 1 with fail
  have eA := (entBox_new w k c s o y 41).alloc (.cells #[.int .i64 0, .int .i64 0, .int .i64 0, .int .i64 0, .int .i64 0] 41)
  have eR := entBox_new (w.alloc (.cells #[.int .i64 k, .int .i64 c, .int .i64 s, .int .i64 o, .int .i64 y] 41)) 0 0 0 0 0 41
  have hB := ((Below.refl w.heap.size w).alloc (Nat.le_refl _) (.cells #[.int .i64 k, .int .i64 c, .int .i64 s, .int .i64 o, .int .i64 y] 41)).alloc (by simp) (.cells #[.int .i64 0, .int .i64 0, .int .i64 0, .int .i64 0, .int .i64 0] 41)
  rw [World.size_alloc] at eR
  generalize ((w.alloc (.cells #[.int .i64 k, .int .i64 c, .int .i64 s, .int .i64 o, .int .i64 y] 41)).alloc (.cells #[.int .i64 0, .int .i64 0, .int .i64 0, .int .i64 0, .int .i64 0] 41)) = W at *
  obtain ⟨⟨c0, c1, c2, c3, c4⟩, fA⟩ := id eA
  go_upto_region 2 with fail
  have hlA := eA.1.lt
  have hlR := eR.1.lt
  have eX := entBox_new W (k) (c) (0) (0) (cy) 41
  have eA := eA.alloc (.cells #[.int .i64 k, .int .i64 c, .int .i64 0, .int .i64 0, .int .i64 cy] 41)
  have eR := eR.alloc (.cells #[.int .i64 k, .int .i64 c, .int .i64 0, .int .i64 0, .int .i64 cy] 41)
  have hB := hB.alloc hB.size (.cells #[.int .i64 k, .int .i64 c, .int .i64 0, .int .i64 0, .int .i64 cy] 41)
  clear c0 c1 c2 c3 c4 fA
  generalize W.alloc (.cells #[.int .i64 k, .int .i64 c, .int .i64 0, .int .i64 0, .int .i64 cy] 41) = X at *
  generalize W.heap.size = bX at *
  obtain ⟨⟨c0, c1, c2, c3, c4⟩, fA⟩ := id eA
  obtain ⟨⟨x0, x1, x2, x3, x4⟩, fX⟩ := id eX
  obtain ⟨⟨r0, r1, r2, r3, r4⟩, fR⟩ := id eR
  clear fA fX fR
  go_wp2_with (go_at_call 40; refine (isEnt_any _ _ _ _ _ _).mono ?_; rintro e w3 ⟨rfl, hb⟩; have eA := eA.below hb; have eX := eX.below hb; have eR := eR.below hb; have hB := hB.trans (hb.mono hB.size); obtain ⟨⟨c0, c1, c2, c3, c4⟩, fA⟩ := id eA; obtain ⟨⟨x0, x1, x2, x3, x4⟩, fX⟩ := id eX; obtain ⟨⟨r0, r1, r2, r3, r4⟩, fR⟩ := id eR; have f0 := fR 0; have f1 := fR 1; have f2 := fR 2; have f3 := fR 3; have f4 := fR 4; clear fA fX fR)
  refine bodyPost_ret (v := .tuple #[.agg #[.int .i64 0, .int .i64 0, .int .i64 0, .int .i64 0, .int .i64 0], .int .i64 4]) (by simp [results, Try.results26, go_sem, r0, r1, r2, r3, r4]) rfl ⟨rfl, ?_⟩
  exact below_store5 hB (Nat.le_succ _) _ _ _ _ _
set_option maxHeartbeats 2000000 in
theorem rgiven_d (k c s o y cy : Int) (w : World) (h : entB k c s o y = true) (h0 : (k == 0) = false) (h3 : (k == 3) = false) (h2 : entB k c 0 0 cy = true) :
    Calls Try.prog 26 #[.agg #[.int .i64 k, .int .i64 c, .int .i64 s, .int .i64 o, .int .i64 y], .int .i64 cy] w fun e w' => e = .returned (.tuple #[.agg #[.int .i64 k, .int .i64 c, .int .i64 0, .int .i64 0, .int .i64 cy], .int .i64 0]) ∧ Below w.heap.size w w' := by
  go_enter Try.func26, Try.ntmps26
  go_upto_region 1 with fail
  have eA := (entBox_new w k c s o y 41).alloc (.cells #[.int .i64 0, .int .i64 0, .int .i64 0, .int .i64 0, .int .i64 0] 41)
  have eR := entBox_new (w.alloc (.cells #[.int .i64 k, .int .i64 c, .int .i64 s, .int .i64 o, .int .i64 y] 41)) 0 0 0 0 0 41
  have hB := ((Below.refl w.heap.size w).alloc (Nat.le_refl _) (.cells #[.int .i64 k, .int .i64 c, .int .i64 s, .int .i64 o, .int .i64 y] 41)).alloc (by simp) (.cells #[.int .i64 0, .int .i64 0, .int .i64 0, .int .i64 0, .int .i64 0] 41)
  rw [World.size_alloc] at eR
  generalize ((w.alloc (.cells #[.int .i64 k, .int .i64 c, .int .i64 s, .int .i64 o, .int .i64 y] 41)).alloc (.cells #[.int .i64 0, .int .i64 0, .int .i64 0, .int .i64 0, .int .i64 0] 41)) = W at *
  obtain ⟨⟨c0, c1, c2, c3, c4⟩, fA⟩ := id eA
  go_upto_region 2 with fail
  have hlA := eA.1.lt
  have hlR := eR.1.lt
  have eX := entBox_new W (k) (c) (0) (0) (cy) 41
  have eA := eA.alloc (.cells #[.int .i64 k, .int .i64 c, .int .i64 0, .int .i64 0, .int .i64 cy] 41)
  have eR := eR.alloc (.cells #[.int .i64 k, .int .i64 c, .int .i64 0, .int .i64 0, .int .i64 cy] 41)
  have hB := hB.alloc hB.size (.cells #[.int .i64 k, .int .i64 c, .int .i64 0, .int .i64 0, .int .i64 cy] 41)
  clear c0 c1 c2 c3 c4 fA
  generalize W.alloc (.cells #[.int .i64 k, .int .i64 c, .int .i64 0, .int .i64 0, .int .i64 cy] 41) = X at *
  generalize W.heap.size = bX at *
  obtain ⟨⟨c0, c1, c2, c3, c4⟩, fA⟩ := id eA
  obtain ⟨⟨x0, x1, x2, x3, x4⟩, fX⟩ := id eX
  obtain ⟨⟨r0, r1, r2, r3, r4⟩, fR⟩ := id eR
  clear fA fX fR
  go_wp2_with (go_at_call 40; refine (isEnt_any _ _ _ _ _ _).mono ?_; rintro e w3 ⟨rfl, hb⟩; have eA := eA.below hb; have eX := eX.below hb; have eR := eR.below hb; have hB := hB.trans (hb.mono hB.size); obtain ⟨⟨c0, c1, c2, c3, c4⟩, fA⟩ := id eA; obtain ⟨⟨x0, x1, x2, x3, x4⟩, fX⟩ := id eX; obtain ⟨⟨r0, r1, r2, r3, r4⟩, fR⟩ := id eR; have f0 := fR 0; have f1 := fR 1; have f2 := fR 2; have f3 := fR 3; have f4 := fR 4; clear fA fX fR)
  refine bodyPost_ret (v := .tuple #[.agg #[.int .i64 k, .int .i64 c, .int .i64 0, .int .i64 0, .int .i64 cy], .int .i64 0]) (by simp [results, Try.results26, go_sem, r0, r1, r2, r3, r4]) rfl ⟨rfl, ?_⟩
  exact below_store5 hB (Nat.le_succ _) _ _ _ _ _
end Go.Proofs.Ytjomflodbcjdlaa
