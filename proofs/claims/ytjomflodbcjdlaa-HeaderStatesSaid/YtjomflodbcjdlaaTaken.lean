/- What Taken of package header returns. No condition. -/
import Derived.Test.YtjomflodbcjdlaaGiven
namespace Go.Proofs.Ytjomflodbcjdlaa
open Go.RowKit
set_option linter.unusedVariables false
/-- The two fields of a box written anew; another box lies as it lay. -/
theorem EntBox.two {W : World} {b : Nat} {k c s o y : Int} (h : EntBox W b k c s o y) (s' o' : Int) : EntBox ((W.setCell ⟨b, 2, none⟩ (.int .i64 s')).setCell ⟨b, 3, none⟩ (.int .i64 o')) b k c s' o' y := by
  obtain ⟨⟨h0, h1, h2, h3, h4⟩, hf⟩ := h
  refine ⟨⟨?_, ?_, ?_, ?_, ?_⟩, fun i => by rw [World.frozen?_setCell, World.frozen?_setCell]; exact hf i⟩
  · rw [World.cell?_setCell_other _ _ _ _ (by simp), World.cell?_setCell_other _ _ _ _ (by simp)]; exact h0
  · rw [World.cell?_setCell_other _ _ _ _ (by simp), World.cell?_setCell_other _ _ _ _ (by simp)]; exact h1
  · rw [World.cell?_setCell_other _ _ _ _ (by simp)]; exact World.cell?_setCell_same _ _ _ h2
  · exact World.cell?_setCell_same _ _ _ (by rw [World.cell?_setCell_other _ _ _ _ (by simp)]; exact h3)
  · rw [World.cell?_setCell_other _ _ _ _ (by simp), World.cell?_setCell_other _ _ _ _ (by simp)]; exact h4
theorem EntBox.far {W : World} {b b' : Nat} {k c s o y : Int} (h : EntBox W b k c s o y) (hne : b < b') (i j : Nat) (u v : Value) : EntBox ((W.setCell ⟨b', i, none⟩ u).setCell ⟨b', j, none⟩ v) b k c s o y := by
  have hn : b' ≠ b := by omega
  obtain ⟨⟨h0, h1, h2, h3, h4⟩, hf⟩ := h
  refine ⟨⟨?_, ?_, ?_, ?_, ?_⟩, fun i => by rw [World.frozen?_setCell, World.frozen?_setCell]; exact hf i⟩
  · rw [World.cell?_setCell_far _ _ _ _ hn, World.cell?_setCell_far _ _ _ _ hn]; exact h0
  · rw [World.cell?_setCell_far _ _ _ _ hn, World.cell?_setCell_far _ _ _ _ hn]; exact h1
  · rw [World.cell?_setCell_far _ _ _ _ hn, World.cell?_setCell_far _ _ _ _ hn]; exact h2
  · rw [World.cell?_setCell_far _ _ _ _ hn, World.cell?_setCell_far _ _ _ _ hn]; exact h3
  · rw [World.cell?_setCell_far _ _ _ _ hn, World.cell?_setCell_far _ _ _ _ hn]; exact h4
set_option maxHeartbeats 1000000 in
theorem taken_a (k c s o y s' o' : Int) (w : World) (h : entB k c s o y = false) :
    Calls Try.prog 23 #[.agg #[.int .i64 k, .int .i64 c, .int .i64 s, .int .i64 o, .int .i64 y], .int .i64 s', .int .i64 o'] w fun e w' => e = .returned (.tuple #[.agg #[.int .i64 0, .int .i64 0, .int .i64 0, .int .i64 0, .int .i64 0], .int .i64 4]) ∧ Below w.heap.size w w' := by
  go_enter Try.func23, Try.ntmps23
  go_upto_region 1 with fail
  have eA := (entBox_new w k c s o y 43).alloc (.cells #[.int .i64 0, .int .i64 0, .int .i64 0, .int .i64 0, .int .i64 0] 43)
  have eR := entBox_new (w.alloc (.cells #[.int .i64 k, .int .i64 c, .int .i64 s, .int .i64 o, .int .i64 y] 43)) 0 0 0 0 0 43
  have hB := ((Below.refl w.heap.size w).alloc (Nat.le_refl _) (.cells #[.int .i64 k, .int .i64 c, .int .i64 s, .int .i64 o, .int .i64 y] 43)).alloc (by simp) (.cells #[.int .i64 0, .int .i64 0, .int .i64 0, .int .i64 0, .int .i64 0] 43)
  rw [World.size_alloc] at eR
  generalize ((w.alloc (.cells #[.int .i64 k, .int .i64 c, .int .i64 s, .int .i64 o, .int .i64 y] 43)).alloc (.cells #[.int .i64 0, .int .i64 0, .int .i64 0, .int .i64 0, .int .i64 0] 43)) = W at *
  obtain ⟨⟨c0, c1, c2, c3, c4⟩, fA⟩ := id eA
  go_upto_region 2 with fail
  have hlA := eA.1.lt
  have hlR := eR.1.lt
  have eX := entBox_new W k c s o y 43
  have eA := eA.alloc (.cells #[.int .i64 k, .int .i64 c, .int .i64 s, .int .i64 o, .int .i64 y] 43)
  have eR := eR.alloc (.cells #[.int .i64 k, .int .i64 c, .int .i64 s, .int .i64 o, .int .i64 y] 43)
  have hB := hB.alloc hB.size (.cells #[.int .i64 k, .int .i64 c, .int .i64 s, .int .i64 o, .int .i64 y] 43)
  clear c0 c1 c2 c3 c4 fA
  generalize W.alloc (.cells #[.int .i64 k, .int .i64 c, .int .i64 s, .int .i64 o, .int .i64 y] 43) = X at *
  obtain ⟨⟨x0, x1, x2, x3, x4⟩, fX⟩ := id eX
  have f2 := fX 2
  have f3 := fX 3
  go_upto_region 3 with fail
  have eX := eX.two s' o'
  have eA := eA.far hlA 2 3 (.int .i64 s') (.int .i64 o')
  have eR := eR.far hlR 2 3 (.int .i64 s') (.int .i64 o')
  have hB := (hB.setCell (p := ⟨W.heap.size, 2, none⟩) (Nat.le_of_lt hlA) (.int .i64 s')).setCell (p := ⟨W.heap.size, 3, none⟩) (Nat.le_of_lt hlA) (.int .i64 o')
  clear x0 x1 x2 x3 x4 fX f2 f3
  generalize (X.setCell ⟨W.heap.size, 2, none⟩ (.int .i64 s')).setCell ⟨W.heap.size, 3, none⟩ (.int .i64 o') = Z at *
  generalize W.heap.size = bX at *
  obtain ⟨⟨c0, c1, c2, c3, c4⟩, fA⟩ := id eA
  clear fA
  go_wp2_with (go_at_call 38; refine (entValid_any _ _ _ _ _ _).mono ?_; rintro e w3 ⟨rfl, hb⟩; have eA := eA.below hb; have eX := eX.below hb; have eR := eR.below hb; have hB := hB.trans (hb.mono hB.size); obtain ⟨⟨c0, c1, c2, c3, c4⟩, fA⟩ := id eA; obtain ⟨⟨x0, x1, x2, x3, x4⟩, fX⟩ := id eX; obtain ⟨⟨r0, r1, r2, r3, r4⟩, fR⟩ := id eR; have f0 := fR 0; have f1 := fR 1; have f2 := fR 2; have f3 := fR 3; have f4 := fR 4; clear fA fX fR)
  refine bodyPost_ret (v := .tuple #[.agg #[.int .i64 0, .int .i64 0, .int .i64 0, .int .i64 0, .int .i64 0], .int .i64 4]) (by simp [results, Try.results23, go_sem, r0, r1, r2, r3, r4]) rfl ⟨rfl, ?_⟩
  exact below_store5 hB (Nat.le_succ _) _ _ _ _ _
set_option maxHeartbeats 1000000 in
theorem taken_b (k c s o y s' o' : Int) (w : World) (h : entB k c s o y = true) (h2 : entB k c s' o' y = false) :
    Calls Try.prog 23 #[.agg #[.int .i64 k, .int .i64 c, .int .i64 s, .int .i64 o, .int .i64 y], .int .i64 s', .int .i64 o'] w fun e w' => e = .returned (.tuple #[.agg #[.int .i64 0, .int .i64 0, .int .i64 0, .int .i64 0, .int .i64 0], .int .i64 4]) ∧ Below w.heap.size w w' := by
  go_enter Try.func23, Try.ntmps23
  go_upto_region 1 with fail
  have eA := (entBox_new w k c s o y 43).alloc (.cells #[.int .i64 0, .int .i64 0, .int .i64 0, .int .i64 0, .int .i64 0] 43)
  have eR := entBox_new (w.alloc (.cells #[.int .i64 k, .int .i64 c, .int .i64 s, .int .i64 o, .int .i64 y] 43)) 0 0 0 0 0 43
  have hB := ((Below.refl w.heap.size w).alloc (Nat.le_refl _) (.cells #[.int .i64 k, .int .i64 c, .int .i64 s, .int .i64 o, .int .i64 y] 43)).alloc (by simp) (.cells #[.int .i64 0, .int .i64 0, .int .i64 0, .int .i64 0, .int .i64 0] 43)
  rw [World.size_alloc] at eR
  generalize ((w.alloc (.cells #[.int .i64 k, .int .i64 c, .int .i64 s, .int .i64 o, .int .i64 y] 43)).alloc (.cells #[.int .i64 0, .int .i64 0, .int .i64 0, .int .i64 0, .int .i64 0] 43)) = W at *
  obtain ⟨⟨c0, c1, c2, c3, c4⟩, fA⟩ := id eA
  go_upto_region 2 with fail
  have hlA := eA.1.lt
  have hlR := eR.1.lt
  have eX := entBox_new W k c s o y 43
  have eA := eA.alloc (.cells #[.int .i64 k, .int .i64 c, .int .i64 s, .int .i64 o, .int .i64 y] 43)
  have eR := eR.alloc (.cells #[.int .i64 k, .int .i64 c, .int .i64 s, .int .i64 o, .int .i64 y] 43)
  have hB := hB.alloc hB.size (.cells #[.int .i64 k, .int .i64 c, .int .i64 s, .int .i64 o, .int .i64 y] 43)
  clear c0 c1 c2 c3 c4 fA
  generalize W.alloc (.cells #[.int .i64 k, .int .i64 c, .int .i64 s, .int .i64 o, .int .i64 y] 43) = X at *
  obtain ⟨⟨x0, x1, x2, x3, x4⟩, fX⟩ := id eX
  have f2 := fX 2
  have f3 := fX 3
  go_upto_region 3 with fail
  have eX := eX.two s' o'
  have eA := eA.far hlA 2 3 (.int .i64 s') (.int .i64 o')
  have eR := eR.far hlR 2 3 (.int .i64 s') (.int .i64 o')
  have hB := (hB.setCell (p := ⟨W.heap.size, 2, none⟩) (Nat.le_of_lt hlA) (.int .i64 s')).setCell (p := ⟨W.heap.size, 3, none⟩) (Nat.le_of_lt hlA) (.int .i64 o')
  clear x0 x1 x2 x3 x4 fX f2 f3
  generalize (X.setCell ⟨W.heap.size, 2, none⟩ (.int .i64 s')).setCell ⟨W.heap.size, 3, none⟩ (.int .i64 o') = Z at *
  generalize W.heap.size = bX at *
  obtain ⟨⟨c0, c1, c2, c3, c4⟩, fA⟩ := id eA
  clear fA
  go_wp2_with (go_at_call 38; refine (entValid_any _ _ _ _ _ _).mono ?_; rintro e w3 ⟨rfl, hb⟩; have eA := eA.below hb; have eX := eX.below hb; have eR := eR.below hb; have hB := hB.trans (hb.mono hB.size); obtain ⟨⟨c0, c1, c2, c3, c4⟩, fA⟩ := id eA; obtain ⟨⟨x0, x1, x2, x3, x4⟩, fX⟩ := id eX; obtain ⟨⟨r0, r1, r2, r3, r4⟩, fR⟩ := id eR; have f0 := fR 0; have f1 := fR 1; have f2 := fR 2; have f3 := fR 3; have f4 := fR 4; clear fA fX fR)
  refine bodyPost_ret (v := .tuple #[.agg #[.int .i64 0, .int .i64 0, .int .i64 0, .int .i64 0, .int .i64 0], .int .i64 4]) (by simp [results, Try.results23, go_sem, r0, r1, r2, r3, r4]) rfl ⟨rfl, ?_⟩
  exact below_store5 hB (Nat.le_succ _) _ _ _ _ _
set_option maxHeartbeats 1000000 in
theorem taken_c (k c s o y s' o' : Int) (w : World) (h : entB k c s o y = true) (h2 : entB k c s' o' y = true) :
    Calls Try.prog 23 #[.agg #[.int .i64 k, .int .i64 c, .int .i64 s, .int .i64 o, .int .i64 y], .int .i64 s', .int .i64 o'] w fun e w' => e = .returned ((.tuple #[.agg #[.int .i64 k, .int .i64 c, .int .i64 s', .int .i64 o', .int .i64 y], .int .i64 0])) ∧ Below w.heap.size w w' := by
  go_enter Try.func23, Try.ntmps23
  go_upto_region 1 with fail
  have eA := (entBox_new w k c s o y 43).alloc (.cells #[.int .i64 0, .int .i64 0, .int .i64 0, .int .i64 0, .int .i64 0] 43)
  have eR := entBox_new (w.alloc (.cells #[.int .i64 k, .int .i64 c, .int .i64 s, .int .i64 o, .int .i64 y] 43)) 0 0 0 0 0 43
  have hB := ((Below.refl w.heap.size w).alloc (Nat.le_refl _) (.cells #[.int .i64 k, .int .i64 c, .int .i64 s, .int .i64 o, .int .i64 y] 43)).alloc (by simp) (.cells #[.int .i64 0, .int .i64 0, .int .i64 0, .int .i64 0, .int .i64 0] 43)
  rw [World.size_alloc] at eR
  generalize ((w.alloc (.cells #[.int .i64 k, .int .i64 c, .int .i64 s, .int .i64 o, .int .i64 y] 43)).alloc (.cells #[.int .i64 0, .int .i64 0, .int .i64 0, .int .i64 0, .int .i64 0] 43)) = W at *
  obtain ⟨⟨c0, c1, c2, c3, c4⟩, fA⟩ := id eA
  go_upto_region 2 with fail
  have hlA := eA.1.lt
  have hlR := eR.1.lt
  have eX := entBox_new W k c s o y 43
  have eA := eA.alloc (.cells #[.int .i64 k, .int .i64 c, .int .i64 s, .int .i64 o, .int .i64 y] 43)
  have eR := eR.alloc (.cells #[.int .i64 k, .int .i64 c, .int .i64 s, .int .i64 o, .int .i64 y] 43)
  have hB := hB.alloc hB.size (.cells #[.int .i64 k, .int .i64 c, .int .i64 s, .int .i64 o, .int .i64 y] 43)
  clear c0 c1 c2 c3 c4 fA
  generalize W.alloc (.cells #[.int .i64 k, .int .i64 c, .int .i64 s, .int .i64 o, .int .i64 y] 43) = X at *
  obtain ⟨⟨x0, x1, x2, x3, x4⟩, fX⟩ := id eX
  have f2 := fX 2
  have f3 := fX 3
  go_upto_region 3 with fail
  have eX := eX.two s' o'
  have eA := eA.far hlA 2 3 (.int .i64 s') (.int .i64 o')
  have eR := eR.far hlR 2 3 (.int .i64 s') (.int .i64 o')
  have hB := (hB.setCell (p := ⟨W.heap.size, 2, none⟩) (Nat.le_of_lt hlA) (.int .i64 s')).setCell (p := ⟨W.heap.size, 3, none⟩) (Nat.le_of_lt hlA) (.int .i64 o')
  clear x0 x1 x2 x3 x4 fX f2 f3
  generalize (X.setCell ⟨W.heap.size, 2, none⟩ (.int .i64 s')).setCell ⟨W.heap.size, 3, none⟩ (.int .i64 o') = Z at *
  generalize W.heap.size = bX at *
  obtain ⟨⟨c0, c1, c2, c3, c4⟩, fA⟩ := id eA
  clear fA
  go_wp2_with (go_at_call 38; refine (entValid_any _ _ _ _ _ _).mono ?_; rintro e w3 ⟨rfl, hb⟩; have eA := eA.below hb; have eX := eX.below hb; have eR := eR.below hb; have hB := hB.trans (hb.mono hB.size); obtain ⟨⟨c0, c1, c2, c3, c4⟩, fA⟩ := id eA; obtain ⟨⟨x0, x1, x2, x3, x4⟩, fX⟩ := id eX; obtain ⟨⟨r0, r1, r2, r3, r4⟩, fR⟩ := id eR; have f0 := fR 0; have f1 := fR 1; have f2 := fR 2; have f3 := fR 3; have f4 := fR 4; clear fA fX fR)
  refine bodyPost_ret (v := (.tuple #[.agg #[.int .i64 k, .int .i64 c, .int .i64 s', .int .i64 o', .int .i64 y], .int .i64 0])) (by simp [results, Try.results23, go_sem, r0, r1, r2, r3, r4]) rfl ⟨rfl, ?_⟩
  exact below_store5 hB (Nat.le_succ _) _ _ _ _ _
end Go.Proofs.Ytjomflodbcjdlaa
