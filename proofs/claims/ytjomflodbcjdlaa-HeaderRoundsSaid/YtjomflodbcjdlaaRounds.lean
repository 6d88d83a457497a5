/- The walk of the law HeaderRounds: it returns true, whatever it is given. No condition. -/
import Derived.Test.YtjomflodbcjdlaaTaken
namespace Go.Proofs.Ytjomflodbcjdlaa
open Go.RowKit
set_option linter.unusedVariables false
def RoundsAt (W : World) (b : Nat) (k c s o y o' cy ot : Int) : Prop := W.cell? ⟨b, 0, none⟩ = some (.int .i64 k) ∧ W.cell? ⟨b, 1, none⟩ = some (.int .i64 c) ∧ W.cell? ⟨b, 2, none⟩ = some (.int .i64 s) ∧ W.cell? ⟨b, 3, none⟩ = some (.int .i64 o) ∧ W.cell? ⟨b, 4, none⟩ = some (.int .i64 y) ∧ W.cell? ⟨b, 5, none⟩ = some (.int .i64 o') ∧ W.cell? ⟨b, 6, none⟩ = some (.int .i64 cy) ∧ W.cell? ⟨b, 7, none⟩ = some (.int .i64 ot)
theorem roundsAt_new (W : World) (k c s o y o' cy ot : Int) (t : TypeId) : RoundsAt (W.alloc (.cells #[.int .i64 k, .int .i64 c, .int .i64 s, .int .i64 o, .int .i64 y, .int .i64 o', .int .i64 cy, .int .i64 ot] t)) W.heap.size k c s o y o' cy ot := by
  refine ⟨?_, ?_, ?_, ?_, ?_, ?_, ?_, ?_⟩ <;> (rw [World.cell?_alloc_new]; rfl)
theorem RoundsAt.below {W W' : World} {b : Nat} {k c s o y o' cy ot : Int} (h : RoundsAt W b k c s o y o' cy ot) (hb : Below W.heap.size W W') : RoundsAt W' b k c s o y o' cy ot := by
  obtain ⟨h0, h1, h2, h3, h4, h5, h6, h7⟩ := h
  have hl : b < W.heap.size := World.block_lt_of_cell? W _ h0
  exact ⟨(hb.cell (p := ⟨b, 0, none⟩) hl).trans h0, (hb.cell (p := ⟨b, 1, none⟩) hl).trans h1, (hb.cell (p := ⟨b, 2, none⟩) hl).trans h2, (hb.cell (p := ⟨b, 3, none⟩) hl).trans h3, (hb.cell (p := ⟨b, 4, none⟩) hl).trans h4, (hb.cell (p := ⟨b, 5, none⟩) hl).trans h5, (hb.cell (p := ⟨b, 6, none⟩) hl).trans h6, (hb.cell (p := ⟨b, 7, none⟩) hl).trans h7⟩
theorem RoundsAt.alloc {W : World} {b : Nat} {k c s o y o' cy ot : Int} (h : RoundsAt W b k c s o y o' cy ot) (ob : Obj) : RoundsAt (W.alloc ob) b k c s o y o' cy ot := h.below ((Below.refl _ _).alloc (Nat.le_refl _) _)
theorem RoundsAt.drew {W : World} {b : Nat} {k c s o y o' cy ot : Int} (h : RoundsAt W b k c s o y o' cy ot) : RoundsAt W.drew b k c s o y o' cy ot := h.below (Quiet.below ⟨1, rfl⟩)
theorem round_due2 (k c o y cy : Int) : dueB k c 2 o y cy = false := by unfold dueB; cases entB k c 2 o y <;> cases holdsB k <;> rfl
theorem round_ready2 (k c o y cl cy : Int) : readyB k c 2 o y cl cy = false := by unfold readyB; cases entB k c 2 o y <;> cases (k == 1) <;> rfl
theorem round_holds {k c o y : Int} (h : entB k c 2 o y = true) : holdsB k = true := by
  unfold entB at h
  rw [Bool.and_eq_true, Bool.and_eq_true] at h
  have h2 := h.1.2
  unfold statB at h2
  rw [if_neg (by decide), if_neg (by decide), if_pos rfl, Bool.and_eq_true] at h2
  exact h2.1
theorem round_due (k c cy ot : Int) (h : entB k c 0 0 cy = true) (h2 : holdsB k = true) : dueB k c 0 0 cy ot = decide (cy < ot) := by unfold dueB; rw [h, h2]; rfl
theorem round_due_same (k c cy : Int) : dueB k c 0 0 cy cy = false := by unfold dueB; cases entB k c 0 0 cy <;> cases holdsB k <;> simp
theorem round_ready (k c cy : Int) (h : entB k c 0 0 cy = true) : readyB k c 0 0 cy c cy = (k == 1) := by unfold readyB; rw [h]; simp
theorem round_late (k c cy ot : Int) (h : cy < ot) : readyB k c 0 0 cy c ot = false := by
  unfold readyB
  have : (cy == ot) = false := beq_eq_false_iff_ne.2 (by omega)
  rw [this]; simp
set_option maxHeartbeats 2000000 in
theorem rounds_a (k c s o y o' cy ot : Int) (w : World) (h : entB k c s o y = false) :
    Calls Try.prog 8 #[.agg #[.int .i64 k, .int .i64 c, .int .i64 s, .int .i64 o, .int .i64 y, .int .i64 o', .int .i64 cy, .int .i64 ot]] w fun e w' => e = .returned (.bool true) ∧ Below w.heap.size w w' := by
  have T := Lib.hid (show ∀ W, Calls Try.prog 23 #[.agg #[.int .i64 k, .int .i64 c, .int .i64 s, .int .i64 o, .int .i64 y], .int .i64 2, .int .i64 o'] W fun e w' => e = .returned ((.tuple #[.agg #[.int .i64 0, .int .i64 0, .int .i64 0, .int .i64 0, .int .i64 0], .int .i64 4])) ∧ Below W.heap.size W w' from fun W => taken_a k c s o y 2 o' W h)
  go_enter Try.func8, Try.ntmps8
  go_upto_region 1 with fail
  have hS := roundsAt_new w k c s o y o' cy ot 67
  have hB := (Below.refl w.heap.size w).alloc (Nat.le_refl _) (.cells #[.int .i64 k, .int .i64 c, .int .i64 s, .int .i64 o, .int .i64 y, .int .i64 o', .int .i64 cy, .int .i64 ot] 67)
  generalize w.alloc (.cells #[.int .i64 k, .int .i64 c, .int .i64 s, .int .i64 o, .int .i64 y, .int .i64 o', .int .i64 cy, .int .i64 ot] 67) = W at *
  go_region_held3 (fun w' => w'.cell? ⟨w.heap.size, 0, none⟩ = some (.int .i64 k) ∧ w'.cell? ⟨w.heap.size, 1, none⟩ = some (.int .i64 c) ∧ w'.cell? ⟨w.heap.size, 2, none⟩ = some (.int .i64 s) ∧ w'.cell? ⟨w.heap.size, 3, none⟩ = some (.int .i64 o) ∧ w'.cell? ⟨w.heap.size, 4, none⟩ = some (.int .i64 y) ∧ w'.cell? ⟨w.heap.size, 5, none⟩ = some (.int .i64 o') ∧ w'.cell? ⟨w.heap.size, 6, none⟩ = some (.int .i64 cy) ∧ w'.cell? ⟨w.heap.size, 7, none⟩ = some (.int .i64 ot)) (first | exact hS | exact hS.drew | exact hS.drew.alloc _ | (trace_state; fail)) (fail)
  have hq : Below (W.alloc (.cells #[.int .i64 k, .int .i64 c, .int .i64 s, .int .i64 o, .int .i64 y] 43)).heap.size (W.alloc (.cells #[.int .i64 k, .int .i64 c, .int .i64 s, .int .i64 o, .int .i64 y] 43)) (W.alloc (.cells #[.int .i64 k, .int .i64 c, .int .i64 s, .int .i64 o, .int .i64 y] 43)).drew := Quiet.below ⟨1, rfl⟩
  have eX := (entAt_new W k c s o y 43).below hq
  have hB := (hB.alloc hB.size (.cells #[.int .i64 k, .int .i64 c, .int .i64 s, .int .i64 o, .int .i64 y] 43)).trans (hq.mono (hB.alloc hB.size (.cells #[.int .i64 k, .int .i64 c, .int .i64 s, .int .i64 o, .int .i64 y] 43)).size)
  clear hS hq
  generalize (W.alloc (.cells #[.int .i64 k, .int .i64 c, .int .i64 s, .int .i64 o, .int .i64 y] 43)).drew = Z at *
  generalize W.heap.size = bX at *
  obtain ⟨x0, x1, x2, x3, x4⟩ := id eX
  go_wp2_with (first | (go_at_call 15; refine (headed_any _).mono ?_; rintro e w2 ⟨rfl, hb⟩; have eX := eX.below hb; have hB := hB.trans (hb.mono hB.size); obtain ⟨x0, x1, x2, x3, x4⟩ := id eX) | (go_at_call 23; refine (T.out _).mono ?_; rintro e w3 ⟨rfl, hb⟩; have eX := eX.below hb; have hB := hB.trans (hb.mono hB.size); obtain ⟨x0, x1, x2, x3, x4⟩ := id eX))
  go_ret
  exact ⟨rfl, hB.alloc hB.size _⟩
set_option maxHeartbeats 2000000 in
theorem rounds_b (k c s o y o' cy ot : Int) (w : World) (h : entB k c s o y = true) (h2 : entB k c 2 o' y = false) :
    Calls Try.prog 8 #[.agg #[.int .i64 k, .int .i64 c, .int .i64 s, .int .i64 o, .int .i64 y, .int .i64 o', .int .i64 cy, .int .i64 ot]] w fun e w' => e = .returned (.bool true) ∧ Below w.heap.size w w' := by
  have T := Lib.hid (show ∀ W, Calls Try.prog 23 #[.agg #[.int .i64 k, .int .i64 c, .int .i64 s, .int .i64 o, .int .i64 y], .int .i64 2, .int .i64 o'] W fun e w' => e = .returned ((.tuple #[.agg #[.int .i64 0, .int .i64 0, .int .i64 0, .int .i64 0, .int .i64 0], .int .i64 4])) ∧ Below W.heap.size W w' from fun W => taken_b k c s o y 2 o' W h h2)
  go_enter Try.func8, Try.ntmps8
  go_upto_region 1 with fail
  have hS := roundsAt_new w k c s o y o' cy ot 67
  have hB := (Below.refl w.heap.size w).alloc (Nat.le_refl _) (.cells #[.int .i64 k, .int .i64 c, .int .i64 s, .int .i64 o, .int .i64 y, .int .i64 o', .int .i64 cy, .int .i64 ot] 67)
  generalize w.alloc (.cells #[.int .i64 k, .int .i64 c, .int .i64 s, .int .i64 o, .int .i64 y, .int .i64 o', .int .i64 cy, .int .i64 ot] 67) = W at *
  go_region_held3 (fun w' => w'.cell? ⟨w.heap.size, 0, none⟩ = some (.int .i64 k) ∧ w'.cell? ⟨w.heap.size, 1, none⟩ = some (.int .i64 c) ∧ w'.cell? ⟨w.heap.size, 2, none⟩ = some (.int .i64 s) ∧ w'.cell? ⟨w.heap.size, 3, none⟩ = some (.int .i64 o) ∧ w'.cell? ⟨w.heap.size, 4, none⟩ = some (.int .i64 y) ∧ w'.cell? ⟨w.heap.size, 5, none⟩ = some (.int .i64 o') ∧ w'.cell? ⟨w.heap.size, 6, none⟩ = some (.int .i64 cy) ∧ w'.cell? ⟨w.heap.size, 7, none⟩ = some (.int .i64 ot)) (first | exact hS | exact hS.drew | exact hS.drew.alloc _ | (trace_state; fail)) (fail)
  have hq : Below (W.alloc (.cells #[.int .i64 k, .int .i64 c, .int .i64 s, .int .i64 o, .int .i64 y] 43)).heap.size (W.alloc (.cells #[.int .i64 k, .int .i64 c, .int .i64 s, .int .i64 o, .int .i64 y] 43)) (W.alloc (.cells #[.int .i64 k, .int .i64 c, .int .i64 s, .int .i64 o, .int .i64 y] 43)).drew := Quiet.below ⟨1, rfl⟩
  have eX := (entAt_new W k c s o y 43).below hq
  have hB := (hB.alloc hB.size (.cells #[.int .i64 k, .int .i64 c, .int .i64 s, .int .i64 o, .int .i64 y] 43)).trans (hq.mono (hB.alloc hB.size (.cells #[.int .i64 k, .int .i64 c, .int .i64 s, .int .i64 o, .int .i64 y] 43)).size)
  clear hS hq
  generalize (W.alloc (.cells #[.int .i64 k, .int .i64 c, .int .i64 s, .int .i64 o, .int .i64 y] 43)).drew = Z at *
  generalize W.heap.size = bX at *
  obtain ⟨x0, x1, x2, x3, x4⟩ := id eX
  go_wp2_with (first | (go_at_call 15; refine (headed_any _).mono ?_; rintro e w2 ⟨rfl, hb⟩; have eX := eX.below hb; have hB := hB.trans (hb.mono hB.size); obtain ⟨x0, x1, x2, x3, x4⟩ := id eX) | (go_at_call 23; refine (T.out _).mono ?_; rintro e w3 ⟨rfl, hb⟩; have eX := eX.below hb; have hB := hB.trans (hb.mono hB.size); obtain ⟨x0, x1, x2, x3, x4⟩ := id eX))
  go_ret
  exact ⟨rfl, hB.alloc hB.size _⟩
set_option maxHeartbeats 2000000 in
theorem rounds_c (k c s o y o' cy ot : Int) (w : World) (h : entB k c s o y = true) (h2 : entB k c 2 o' y = true) (h3 : entB k c 0 0 cy = false) :
    Calls Try.prog 8 #[.agg #[.int .i64 k, .int .i64 c, .int .i64 s, .int .i64 o, .int .i64 y, .int .i64 o', .int .i64 cy, .int .i64 ot]] w fun e w' => e = .returned (.bool true) ∧ Below w.heap.size w w' := by
  have T := Lib.hid (show ∀ W, Calls Try.prog 23 #[.agg #[.int .i64 k, .int .i64 c, .int .i64 s, .int .i64 o, .int .i64 y], .int .i64 2, .int .i64 o'] W fun e w' => e = .returned ((.tuple #[.agg #[.int .i64 k, .int .i64 c, .int .i64 2, .int .i64 o', .int .i64 y], .int .i64 0])) ∧ Below W.heap.size W w' from fun W => taken_c k c s o y 2 o' W h h2)
  have D := Lib.hid (show ∀ W, Calls Try.prog 27 #[.agg #[.int .i64 k, .int .i64 c, .int .i64 2, .int .i64 o', .int .i64 y], .int .i64 cy] W fun e w' => e = .returned (.bool false) ∧ Below W.heap.size W w' from fun W => by have := due_any k c 2 o' y cy W; rw [round_due2] at this; exact this)
  have R := Lib.hid (show ∀ W, Calls Try.prog 29 #[.agg #[.int .i64 k, .int .i64 c, .int .i64 2, .int .i64 o', .int .i64 y], .int .i64 c, .int .i64 cy] W fun e w' => e = .returned (.bool false) ∧ Below W.heap.size W w' from fun W => by have := ready_any k c 2 o' y c cy W; rw [round_ready2] at this; exact this)
  have G := Lib.hid (show ∀ W, Calls Try.prog 25 #[.agg #[.int .i64 k, .int .i64 c, .int .i64 2, .int .i64 o', .int .i64 y], .int .i64 cy] W fun e w' => e = .returned ((.tuple #[.agg #[.int .i64 0, .int .i64 0, .int .i64 0, .int .i64 0, .int .i64 0], .int .i64 4])) ∧ Below W.heap.size W w' from fun W => given_c k c 2 o' y cy W (round_holds h2) h2 h3)
  go_enter Try.func8, Try.ntmps8
  go_upto_region 1 with fail
  have hS := roundsAt_new w k c s o y o' cy ot 67
  have hB := (Below.refl w.heap.size w).alloc (Nat.le_refl _) (.cells #[.int .i64 k, .int .i64 c, .int .i64 s, .int .i64 o, .int .i64 y, .int .i64 o', .int .i64 cy, .int .i64 ot] 67)
  generalize w.alloc (.cells #[.int .i64 k, .int .i64 c, .int .i64 s, .int .i64 o, .int .i64 y, .int .i64 o', .int .i64 cy, .int .i64 ot] 67) = W at *
  go_region_held3 (fun w' => w'.cell? ⟨w.heap.size, 0, none⟩ = some (.int .i64 k) ∧ w'.cell? ⟨w.heap.size, 1, none⟩ = some (.int .i64 c) ∧ w'.cell? ⟨w.heap.size, 2, none⟩ = some (.int .i64 s) ∧ w'.cell? ⟨w.heap.size, 3, none⟩ = some (.int .i64 o) ∧ w'.cell? ⟨w.heap.size, 4, none⟩ = some (.int .i64 y) ∧ w'.cell? ⟨w.heap.size, 5, none⟩ = some (.int .i64 o') ∧ w'.cell? ⟨w.heap.size, 6, none⟩ = some (.int .i64 cy) ∧ w'.cell? ⟨w.heap.size, 7, none⟩ = some (.int .i64 ot)) (first | exact hS | exact hS.drew | exact hS.drew.alloc _ | (trace_state; fail)) (fail)
  have hq : Below (W.alloc (.cells #[.int .i64 k, .int .i64 c, .int .i64 s, .int .i64 o, .int .i64 y] 43)).heap.size (W.alloc (.cells #[.int .i64 k, .int .i64 c, .int .i64 s, .int .i64 o, .int .i64 y] 43)) (W.alloc (.cells #[.int .i64 k, .int .i64 c, .int .i64 s, .int .i64 o, .int .i64 y] 43)).drew := Quiet.below ⟨1, rfl⟩
  have eX := (entAt_new W k c s o y 43).below hq
  have hB := (hB.alloc hB.size (.cells #[.int .i64 k, .int .i64 c, .int .i64 s, .int .i64 o, .int .i64 y] 43)).trans (hq.mono (hB.alloc hB.size (.cells #[.int .i64 k, .int .i64 c, .int .i64 s, .int .i64 o, .int .i64 y] 43)).size)
  clear hS hq
  generalize (W.alloc (.cells #[.int .i64 k, .int .i64 c, .int .i64 s, .int .i64 o, .int .i64 y] 43)).drew = Z at *
  generalize W.heap.size = bX at *
  obtain ⟨x0, x1, x2, x3, x4⟩ := id eX
  go_wp2_with (go_at_call 15; refine (headed_any _).mono ?_; rintro e w2 ⟨rfl, hb⟩; have eX := eX.below hb; have hB := hB.trans (hb.mono hB.size); obtain ⟨x0, x1, x2, x3, x4⟩ := id eX)
  refine (T.out _).mono ?_
  rintro e w3 ⟨rfl, hb⟩
  have eX := eX.below hb; have hB := hB.trans (hb.mono hB.size); obtain ⟨x0, x1, x2, x3, x4⟩ := id eX
  go_upto_region 5 with fail
  have eT := entAt_new w3 k c (2) o' y 43
  have eX := eX.alloc (.cells #[.int .i64 k, .int .i64 c, .int .i64 2, .int .i64 o', .int .i64 y] 43)
  have hB := hB.alloc hB.size (.cells #[.int .i64 k, .int .i64 c, .int .i64 2, .int .i64 o', .int .i64 y] 43)
  clear hb x0 x1 x2 x3 x4 T
  generalize w3.alloc (.cells #[.int .i64 k, .int .i64 c, .int .i64 2, .int .i64 o', .int .i64 y] 43) = Y at *
  generalize w3.heap.size = bT at *
  obtain ⟨x0, x1, x2, x3, x4⟩ := id eX
  obtain ⟨t0, t1, t2, t3, t4⟩ := id eT
  go_wp2_with (first | (go_at_call 27; refine (D.out _).mono ?_; rintro e w4 ⟨rfl, hb⟩; have eX := eX.below hb; have eT := eT.below hb; have hB := hB.trans (hb.mono hB.size); obtain ⟨x0, x1, x2, x3, x4⟩ := id eX; obtain ⟨t0, t1, t2, t3, t4⟩ := id eT) | (go_at_call 29; refine (R.out _).mono ?_; rintro e w5 ⟨rfl, hb⟩; have eX := eX.below hb; have eT := eT.below hb; have hB := hB.trans (hb.mono hB.size); obtain ⟨x0, x1, x2, x3, x4⟩ := id eX; obtain ⟨t0, t1, t2, t3, t4⟩ := id eT) | (go_at_call 25; refine (G.out _).mono ?_; rintro e w6 ⟨rfl, hb⟩; have hB := hB.trans (hb.mono hB.size)))
  go_ret
  exact ⟨rfl, hB.alloc hB.size _⟩
end Go.Proofs.Ytjomflodbcjdlaa
