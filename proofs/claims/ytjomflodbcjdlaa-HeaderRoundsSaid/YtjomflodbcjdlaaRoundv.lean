import Derived.Test.YtjomflodbcjdlaaRoundt
namespace Go.Proofs.Ytjomflodbcjdlaa
open Go.RowKit
set_option linter.unusedVariables false
set_option maxHeartbeats 2000000 in
theorem rounds_ft (k c s o y o' cy ot : Int) (w : World) (h : entB k c s o y = true) (h2 : entB k c 2 o' y = true) (h3 : entB k c 0 0 cy = true) (h4 : (k == 1) = false) (h5 : decide (cy < ot) = true) :
    Calls Try.prog 8 #[.agg #[.int .i64 k, .int .i64 c, .int .i64 s, .int .i64 o, .int .i64 y, .int .i64 o', .int .i64 cy, .int .i64 ot]] w fun e w' => e = .returned (.bool true) ∧ Below w.heap.size w w' := by
  have T := Lib.hid (show ∀ W, Calls Try.prog 23 #[.agg #[.int .i64 k, .int .i64 c, .int .i64 s, .int .i64 o, .int .i64 y], .int .i64 2, .int .i64 o'] W fun e w' => e = .returned ((.tuple #[.agg #[.int .i64 k, .int .i64 c, .int .i64 2, .int .i64 o', .int .i64 y], .int .i64 0])) ∧ Below W.heap.size W w' from fun W => taken_c k c s o y 2 o' W h h2)
  have DA := Lib.hid (show ∀ W, Calls Try.prog 27 #[.agg #[.int .i64 k, .int .i64 c, .int .i64 0, .int .i64 0, .int .i64 cy], .int .i64 cy] W fun e w' => e = .returned (.bool false) ∧ Below W.heap.size W w' from fun W => by have := due_any k c 0 0 cy cy W; rw [round_due_same] at this; exact this)
  have RA := Lib.hid (show ∀ W, Calls Try.prog 29 #[.agg #[.int .i64 k, .int .i64 c, .int .i64 0, .int .i64 0, .int .i64 cy], .int .i64 c, .int .i64 cy] W fun e w' => e = .returned (.bool false) ∧ Below W.heap.size W w' from fun W => by have := ready_any k c 0 0 cy c cy W; rw [round_ready k c cy h3, h4] at this; exact this)
  have DB := Lib.hid (show ∀ W, Calls Try.prog 27 #[.agg #[.int .i64 k, .int .i64 c, .int .i64 0, .int .i64 0, .int .i64 cy], .int .i64 ot] W fun e w' => e = .returned (.bool true) ∧ Below W.heap.size W w' from fun W => by have := due_any k c 0 0 cy ot W; rw [round_due k c cy ot h3 (round_holds h2), h5] at this; exact this)
  have RB := Lib.hid (show ∀ W, Calls Try.prog 29 #[.agg #[.int .i64 k, .int .i64 c, .int .i64 0, .int .i64 0, .int .i64 cy], .int .i64 c, .int .i64 ot] W fun e w' => e = .returned (.bool false) ∧ Below W.heap.size W w' from fun W => by have := ready_any k c 0 0 cy c ot W; rw [round_late k c cy ot (of_decide_eq_true h5)] at this; exact this)
  have D := Lib.hid (show ∀ W, Calls Try.prog 27 #[.agg #[.int .i64 k, .int .i64 c, .int .i64 2, .int .i64 o', .int .i64 y], .int .i64 cy] W fun e w' => e = .returned (.bool false) ∧ Below W.heap.size W w' from fun W => by have := due_any k c 2 o' y cy W; rw [round_due2] at this; exact this)
  have R := Lib.hid (show ∀ W, Calls Try.prog 29 #[.agg #[.int .i64 k, .int .i64 c, .int .i64 2, .int .i64 o', .int .i64 y], .int .i64 c, .int .i64 cy] W fun e w' => e = .returned (.bool false) ∧ Below W.heap.size W w' from fun W => by have := ready_any k c 2 o' y c cy W; rw [round_ready2] at this; exact this)
  have G := Lib.hid (show ∀ W, Calls Try.prog 25 #[.agg #[.int .i64 k, .int .i64 c, .int .i64 2, .int .i64 o', .int .i64 y], .int .i64 cy] W fun e w' => e = .returned ((.tuple #[.agg #[.int .i64 k, .int .i64 c, .int .i64 0, .int .i64 0, .int .i64 cy], .int .i64 0])) ∧ Below W.heap.size W w' from fun W => given_d k c 2 o' y cy W (round_holds h2) h2 h3)
  go_enter Try.func8, Try.ntmps8
  go_upto_region 1 with fail
  have hS := roundsAt_new w k c s o y o' cy ot 67
  have hB := (Below.refl w.heap.size w).alloc (Nat.le_refl _) (.cells #[.int .i64 k, .int .i64 c, .int .i64 s, .int .i64 o, .int .i64 y, .int .i64 o', .int .i64 cy, .int .i64 ot] 67)
  generalize w.alloc (.cells #[.int .i64 k, .int .i64 c, .int .i64 s, .int .i64 o, .int .i64 y, .int .i64 o', .int .i64 cy, .int .i64 ot] 67) = W at *
  go_region_held3 (fun w' => w'.cell? ⟨w.heap.size, 0, none⟩ = some (.int .i64 k) ∧ w'.cell? ⟨w.heap.size, 1, none⟩ = some (.int .i64 c) ∧ w'.cell? ⟨w.heap.size, 2, none⟩ = some (.int .i64 s) ∧ w'.cell? ⟨w.heap.size, 3, none⟩ = some (.int .i64 o) ∧ w'.cell? ⟨w.heap.size, 4, none⟩ = some (.int .i64 y) ∧ w'.cell? ⟨w.heap.size, 5, none⟩ = some (.int .i64 o') ∧ w'.cell? ⟨w.heap.size, 6, none⟩ = some (.int .i64 cy) ∧ w'.cell? ⟨w.heap.size, 7, none⟩ = some (.int .i64 ot)) (first | exact hS | exact hS.drew | exact hS.drew.alloc _ | (trace_state; fail)) (fail)
  have hq : Below (W.alloc (.cells #[.int .i64 k, .int .i64 c, .int .i64 s, .int .i64 o, .int .i64 y] 43)).heap.size (W.alloc (.cells #[.int .i64 k, .int .i64 c, .int .i64 s, .int .i64 o, .int .i64 y] 43)) (W.alloc (.cells #[.int .i64 k, .int .i64 c, .int .i64 s, .int .i64 o, .int .i64 y] 43)).drew := Quiet.below ⟨1, rfl⟩
  have eX := (entAt_new W k c s o y 43).below hq
  have hB := (hB.alloc hB.size (.cells #[.int .i64 k, .int .i64 c, .int .i64 s, .int .i64 o, .int .i64 y] 43)).trans (hq.mono (hB.alloc hB.size (.cells #[.int .i64 k, .int .i64 c, .int .i64 s, .int .i64 o, .int .i64 y] 43)).size)
  clear hS hq
  generalize (W.alloc (.cells #[.int .i64 k, .int .i64 c, .int .i64 s, .int .i64 o, .int .i64 y] 43)).drew = Z at *
  generalize W.heap.size = bX at *
  obtain ⟨x0, x1, x2, x3, x4⟩ := id eX
  go_wp2_with (go_at_call 15; refine (headed_any _).mono ?_; rintro e w2 ⟨rfl, hb⟩; have eX := eX.below hb; have hB := hB.trans (hb.mono hB.size); obtain ⟨x0, x1, x2, x3, x4⟩ := id eX)
  refine (T.out _).mono ?_
  rintro e w3 ⟨rfl, hb⟩
  have eX := eX.below hb; have hB := hB.trans (hb.mono hB.size); obtain ⟨x0, x1, x2, x3, x4⟩ := id eX
  go_upto_region 5 with fail
  have eT := entAt_new w3 k c (2) o' y 43
  have eX := eX.alloc (.cells #[.int .i64 k, .int .i64 c, .int .i64 2, .int .i64 o', .int .i64 y] 43)
  have hB := hB.alloc hB.size (.cells #[.int .i64 k, .int .i64 c, .int .i64 2, .int .i64 o', .int .i64 y] 43)
  clear hb x0 x1 x2 x3 x4 T
  generalize w3.alloc (.cells #[.int .i64 k, .int .i64 c, .int .i64 2, .int .i64 o', .int .i64 y] 43) = Y at *
  generalize w3.heap.size = bT at *
  obtain ⟨x0, x1, x2, x3, x4⟩ := id eX
  obtain ⟨t0, t1, t2, t3, t4⟩ := id eT
  go_wp2_with (first | (go_at_call 27; refine (D.out _).mono ?_; rintro e w4 ⟨rfl, hb⟩; have eX := eX.below hb; have eT := eT.below hb; have hB := hB.trans (hb.mono hB.size); obtain ⟨x0, x1, x2, x3, x4⟩ := id eX; obtain ⟨t0, t1, t2, t3, t4⟩ := id eT) | (go_at_call 29; refine (R.out _).mono ?_; rintro e w5 ⟨rfl, hb⟩; have eX := eX.below hb; have eT := eT.below hb; have hB := hB.trans (hb.mono hB.size); obtain ⟨x0, x1, x2, x3, x4⟩ := id eX; obtain ⟨t0, t1, t2, t3, t4⟩ := id eT))
  refine (G.out _).mono ?_
  rintro e w6 ⟨rfl, hb⟩
  have hB := hB.trans (hb.mono hB.size)
  go_upto_region 10 with fail
  have eG := entAt_new w6 k c 0 0 cy 43
  have hB := hB.alloc hB.size (.cells #[.int .i64 k, .int .i64 c, .int .i64 0, .int .i64 0, .int .i64 cy] 43)
  clear hb x0 x1 x2 x3 x4 t0 t1 t2 t3 t4 eX eT D R G
  generalize w6.alloc (.cells #[.int .i64 k, .int .i64 c, .int .i64 0, .int .i64 0, .int .i64 cy] 43) = V at *
  generalize w6.heap.size = bG at *
  obtain ⟨g0, g1, g2, g3, g4⟩ := id eG
  go_wp2_with fail
  go_region_held3 (fun w' => (w'.cell? ⟨bG, 0, none⟩ = some (.int .i64 k) ∧ w'.cell? ⟨bG, 1, none⟩ = some (.int .i64 c) ∧ w'.cell? ⟨bG, 2, none⟩ = some (.int .i64 0) ∧ w'.cell? ⟨bG, 3, none⟩ = some (.int .i64 0) ∧ w'.cell? ⟨bG, 4, none⟩ = some (.int .i64 cy)) ∧ Below w.heap.size w w') (first | exact ⟨eG, hB⟩ | exact ⟨eG, hB.trans (Quiet.below ⟨1, rfl⟩)⟩ | exact keepG bG k c 0 0 cy (by assumption) hbk) (first | (go_at_call 27; with_reducible refine ((DA).out _).mono ?_; rintro e w9 ⟨rfl, hbk⟩) | (go_at_call 27; with_reducible refine ((DB).out _).mono ?_; rintro e w9 ⟨rfl, hbk⟩) | (go_at_call 29; with_reducible refine ((RA).out _).mono ?_; rintro e w9 ⟨rfl, hbk⟩) | (go_at_call 29; with_reducible refine ((RB).out _).mono ?_; rintro e w9 ⟨rfl, hbk⟩))
  go_wp2
  go_ret
  exact ⟨rfl, heldG bG k c 0 0 cy (by assumption)⟩
end Go.Proofs.Ytjomflodbcjdlaa
