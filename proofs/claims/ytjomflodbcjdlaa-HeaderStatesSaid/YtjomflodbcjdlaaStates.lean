/- The walk of the law HeaderStates: it returns true, whatever it is given. No condition but that each number fits its kind. -/
import Derived.Test.YtjomflodbcjdlaaRdue
import Derived.Test.YtjomflodbcjdlaaRtake
import Derived.Test.YtjomflodbcjdlaaRentb
import Derived.Test.YtjomflodbcjdlaaTouch
import Derived.Deep.CutBlock
namespace Go.Proofs.Ytjomflodbcjdlaa
open Go.RowKit
set_option linter.unusedVariables false
set_option linter.unusedSimpArgs false
def tkB (k c s o y st ow : Int) : Bool := entB k c s o y && entB k c st ow y
def gvB (k c s o y cy : Int) : Bool := holdsB k && (entB k c s o y && entB k c 0 0 cy)
theorem taken_any (k c s o y st ow : Int) (w : World) :
    Calls Try.prog 23 #[.agg #[.int .i64 k, .int .i64 c, .int .i64 s, .int .i64 o, .int .i64 y], .int .i64 st, .int .i64 ow] w fun e w' => e = .returned (.tuple #[.agg #[.int .i64 (decD (tkB k c s o y st ow) k), .int .i64 (decD (tkB k c s o y st ow) c), .int .i64 (decD (tkB k c s o y st ow) st), .int .i64 (decD (tkB k c s o y st ow) ow), .int .i64 (decD (tkB k c s o y st ow) y)], .int .i64 (decF (tkB k c s o y st ow))]) ∧ Below w.heap.size w w' := by
  unfold tkB
  cases h : entB k c s o y with
  | false => exact taken_a k c s o y st ow w h
  | true =>
    cases h2 : entB k c st ow y with
    | false => exact taken_b k c s o y st ow w h h2
    | true => exact taken_c k c s o y st ow w h h2
theorem rtaken_any (k c s o y st ow : Int) (w : World) :
    Calls Try.prog 24 #[.agg #[.int .i64 k, .int .i64 c, .int .i64 s, .int .i64 o, .int .i64 y], .int .i64 st, .int .i64 ow] w fun e w' => e = .returned (.tuple #[.agg #[.int .i64 (decD (tkB k c s o y st ow) k), .int .i64 (decD (tkB k c s o y st ow) c), .int .i64 (decD (tkB k c s o y st ow) st), .int .i64 (decD (tkB k c s o y st ow) ow), .int .i64 (decD (tkB k c s o y st ow) y)], .int .i64 (decF (tkB k c s o y st ow))]) ∧ Below w.heap.size w w' := by
  unfold tkB
  cases h : entB k c s o y with
  | false => exact rtaken_a k c s o y st ow w h
  | true =>
    cases h2 : entB k c st ow y with
    | false => exact rtaken_b k c s o y st ow w h h2
    | true => exact rtaken_c k c s o y st ow w h h2
theorem given_any (k c s o y cy : Int) (w : World) :
    Calls Try.prog 25 #[.agg #[.int .i64 k, .int .i64 c, .int .i64 s, .int .i64 o, .int .i64 y], .int .i64 cy] w fun e w' => e = .returned (.tuple #[.agg #[.int .i64 (decD (gvB k c s o y cy) k), .int .i64 (decD (gvB k c s o y cy) c), .int .i64 (decD (gvB k c s o y cy) 0), .int .i64 (decD (gvB k c s o y cy) 0), .int .i64 (decD (gvB k c s o y cy) cy)], .int .i64 (decF (gvB k c s o y cy))]) ∧ Below w.heap.size w w' := by
  unfold gvB
  cases h : holdsB k with
  | false => exact given_a k c s o y cy w h
  | true =>
    cases h2 : entB k c s o y with
    | false => exact given_b k c s o y cy w h h2
    | true =>
      cases h3 : entB k c 0 0 cy with
      | false => exact given_c k c s o y cy w h h2 h3
      | true => exact given_d k c s o y cy w h h2 h3
theorem rgiven_any (k c s o y cy : Int) (w : World) :
    Calls Try.prog 26 #[.agg #[.int .i64 k, .int .i64 c, .int .i64 s, .int .i64 o, .int .i64 y], .int .i64 cy] w fun e w' => e = .returned (.tuple #[.agg #[.int .i64 (decD (gvB k c s o y cy) k), .int .i64 (decD (gvB k c s o y cy) c), .int .i64 (decD (gvB k c s o y cy) 0), .int .i64 (decD (gvB k c s o y cy) 0), .int .i64 (decD (gvB k c s o y cy) cy)], .int .i64 (decF (gvB k c s o y cy))]) ∧ Below w.heap.size w w' := by
  unfold gvB
  cases h2 : entB k c s o y with
  | false => rw [Bool.false_and, Bool.and_false]; exact rgiven_a k c s o y cy w h2
  | true =>
    cases h0 : (k == 0) with
    | true =>
      have hh : holdsB k = false := by rw [beq_iff_eq] at h0; subst h0; rfl
      rw [hh]; exact rgiven_0 k c s o y cy w h2 h0
    | false =>
      cases h3 : (k == 3) with
      | true =>
        have hh : holdsB k = false := by rw [beq_iff_eq] at h3; subst h3; rfl
        rw [hh]; exact rgiven_3 k c s o y cy w h2 h0 h3
      | false =>
        have hh : holdsB k = true := by
          have := (entB_bd h2).1
          rw [beq_eq_false_iff_ne] at h0 h3
          have hk : k = 1 ∨ k = 2 := by omega
          rcases hk with rfl | rfl <;> rfl
        rw [hh]
        cases h4 : entB k c 0 0 cy with
        | false => exact rgiven_c k c s o y cy w h2 h0 h3 h4
        | true => exact rgiven_d k c s o y cy w h2 h0 h3 h4
theorem states_box {w' : World} {b : Nat} {k c s o y cl cy st ow : Int} (h : Blk w' b #[.int .i64 k, .int .i64 c, .int .i64 s, .int .i64 o, .int .i64 y, .int .i64 cl, .int .i64 cy, .int .i64 st, .int .i64 ow] 52) : w'.cell? ⟨b, 0, none⟩ = some (.int .i64 k) ∧ w'.cell? ⟨b, 1, none⟩ = some (.int .i64 c) ∧ w'.cell? ⟨b, 2, none⟩ = some (.int .i64 s) ∧ w'.cell? ⟨b, 3, none⟩ = some (.int .i64 o) ∧ w'.cell? ⟨b, 4, none⟩ = some (.int .i64 y) ∧ w'.cell? ⟨b, 5, none⟩ = some (.int .i64 cl) ∧ w'.cell? ⟨b, 6, none⟩ = some (.int .i64 cy) ∧ w'.cell? ⟨b, 7, none⟩ = some (.int .i64 st) ∧ w'.cell? ⟨b, 8, none⟩ = some (.int .i64 ow) := by
  refine ⟨?_, ?_, ?_, ?_, ?_, ?_, ?_, ?_, ?_⟩ <;> exact h.val _ rfl
theorem keep5 {w W W' : World} (bX b8 b10 b12 b14 : Nat) (k c s o y A1 A2 A3 A4 A5 G1 G2 G3 G4 G5 : Int) (h : EntAt W bX k c s o y ∧ EntAt W b8 A1 A2 A3 A4 A5 ∧ EntAt W b10 A1 A2 A3 A4 A5 ∧ EntAt W b12 G1 G2 G3 G4 G5 ∧ EntAt W b14 G1 G2 G3 G4 G5 ∧ Below w.heap.size w W) (hb : Below W.heap.size W W') : EntAt W' bX k c s o y ∧ EntAt W' b8 A1 A2 A3 A4 A5 ∧ EntAt W' b10 A1 A2 A3 A4 A5 ∧ EntAt W' b12 G1 G2 G3 G4 G5 ∧ EntAt W' b14 G1 G2 G3 G4 G5 ∧ Below w.heap.size w W' :=
  ⟨h.1.below hb, h.2.1.below hb, h.2.2.1.below hb, h.2.2.2.1.below hb, h.2.2.2.2.1.below hb, h.2.2.2.2.2.trans (hb.mono h.2.2.2.2.2.size)⟩
theorem held5 {w W : World} (bX b8 b10 b12 b14 : Nat) (k c s o y A1 A2 A3 A4 A5 G1 G2 G3 G4 G5 : Int) (h : EntAt W bX k c s o y ∧ EntAt W b8 A1 A2 A3 A4 A5 ∧ EntAt W b10 A1 A2 A3 A4 A5 ∧ EntAt W b12 G1 G2 G3 G4 G5 ∧ EntAt W b14 G1 G2 G3 G4 G5 ∧ Below w.heap.size w W) : Below w.heap.size w W := h.2.2.2.2.2
set_option maxRecDepth 100000 in
set_option maxHeartbeats 8000000 in
theorem states_walk (k c s o y cl cy st ow : Int) (w : World) :
    Calls Try.prog 5 #[.agg #[.int .i64 k, .int .i64 c, .int .i64 s, .int .i64 o, .int .i64 y, .int .i64 cl, .int .i64 cy, .int .i64 st, .int .i64 ow]] w fun e w' => e = .returned (.bool true) ∧ Below w.heap.size w w' := by
  have TA := Lib.hid (fun W => taken_any k c s o y st ow W)
  have TR := Lib.hid (fun W => rtaken_any k c s o y st ow W)
  have GA := Lib.hid (fun W => given_any k c s o y cy W)
  have GR := Lib.hid (fun W => rgiven_any k c s o y cy W)
  have DA := Lib.hid (fun W => due_any k c s o y cy W)
  have DR := Lib.hid (fun W => rdue_any k c s o y cy W)
  have RA := Lib.hid (fun W => ready_any k c s o y cl cy W)
  have RR := Lib.hid (fun W => rready_any k c s o y cl cy W)
  generalize dueB k c s o y cy = d at *
  generalize readyB k c s o y cl cy = r at *
  have hd : (d == d) = true := by simp
  have hr : (r == r) = true := by simp
  generalize decF (tkB k c s o y st ow) = TF at *
  generalize decF (gvB k c s o y cy) = GF at *
  generalize decD (tkB k c s o y st ow) k = A1 at *
  generalize decD (tkB k c s o y st ow) c = A2 at *
  generalize decD (tkB k c s o y st ow) st = A3 at *
  generalize decD (tkB k c s o y st ow) ow = A4 at *
  generalize decD (tkB k c s o y st ow) y = A5 at *
  generalize decD (gvB k c s o y cy) k = G1 at *
  generalize decD (gvB k c s o y cy) c = G2 at *
  generalize decD (gvB k c s o y cy) 0 = G3 at *
  generalize decD (gvB k c s o y cy) cy = G5 at *
  go_enter Try.func5, Try.ntmps5
  go_upto_region 1 with fail
  have hB : Below w.heap.size w (w.alloc (.cells #[.int .i64 k, .int .i64 c, .int .i64 s, .int .i64 o, .int .i64 y, .int .i64 cl, .int .i64 cy, .int .i64 st, .int .i64 ow] 52)) := (Below.refl _ _).alloc (Nat.le_refl _) _
  have hX : Blk (w.alloc (.cells #[.int .i64 k, .int .i64 c, .int .i64 s, .int .i64 o, .int .i64 y, .int .i64 cl, .int .i64 cy, .int .i64 st, .int .i64 ow] 52)) w.heap.size #[.int .i64 k, .int .i64 c, .int .i64 s, .int .i64 o, .int .i64 y, .int .i64 cl, .int .i64 cy, .int .i64 st, .int .i64 ow] 52 := Blk.new _ _ _
  generalize w.alloc (.cells #[.int .i64 k, .int .i64 c, .int .i64 s, .int .i64 o, .int .i64 y, .int .i64 cl, .int .i64 cy, .int .i64 st, .int .i64 ow] 52) = W at *
  have hlt := hX.lt
  go_region_held3 (fun w' => w'.cell? ⟨w.heap.size, 0, none⟩ = some (.int .i64 k) ∧ w'.cell? ⟨w.heap.size, 1, none⟩ = some (.int .i64 c) ∧ w'.cell? ⟨w.heap.size, 2, none⟩ = some (.int .i64 s) ∧ w'.cell? ⟨w.heap.size, 3, none⟩ = some (.int .i64 o) ∧ w'.cell? ⟨w.heap.size, 4, none⟩ = some (.int .i64 y) ∧ w'.cell? ⟨w.heap.size, 5, none⟩ = some (.int .i64 cl) ∧ w'.cell? ⟨w.heap.size, 6, none⟩ = some (.int .i64 cy) ∧ w'.cell? ⟨w.heap.size, 7, none⟩ = some (.int .i64 st) ∧ w'.cell? ⟨w.heap.size, 8, none⟩ = some (.int .i64 ow)) ((refine states_box ?_; repeat (first | exact hX | refine Blk.drew ?_ | refine Blk.alloc ?_ _ | refine Blk.other ?_ _ _ (by simp; omega)))) (fail)
  go_upto_region 2 with fail
  have eX : EntAt (W.alloc (.cells #[.int .i64 k, .int .i64 c, .int .i64 s, .int .i64 o, .int .i64 y] 41)).drew W.heap.size k c s o y := (entAt_new W k c s o y 41).below (Quiet.below ⟨1, rfl⟩)
  have hB := (hB.alloc hB.size (.cells #[.int .i64 k, .int .i64 c, .int .i64 s, .int .i64 o, .int .i64 y] 41)).drew
  clear hX hlt
  generalize (W.alloc (.cells #[.int .i64 k, .int .i64 c, .int .i64 s, .int .i64 o, .int .i64 y] 41)).drew = Z at *
  generalize W.heap.size = bX at *
  obtain ⟨x0, x1, x2, x3, x4⟩ := id eX
  go_wp2_with fail
  refine (entry_any _ _ _ _ _ _).mono ?_
  rintro e w1 ⟨rfl, hb⟩
  have eX := eX.below hb
  have hB := hB.trans (hb.mono hB.size)
  clear x0 x1 x2 x3 x4 hb
  go_wp2_with fail
  refine (TA.out _).mono ?_
  rintro e w2 ⟨rfl, hb⟩
  have eX := (eX.below hb).alloc (.cells #[.int .i64 A1, .int .i64 A2, .int .i64 A3, .int .i64 A4, .int .i64 A5] 43)
  have hB := hB.trans (hb.mono hB.size)
  have hB := hB.alloc hB.size (.cells #[.int .i64 A1, .int .i64 A2, .int .i64 A3, .int .i64 A4, .int .i64 A5] 43)
  have e8 := entAt_new w2 A1 A2 A3 A4 A5 43
  clear hb
  go_upto_region 3 with fail
  generalize w2.alloc (.cells #[.int .i64 A1, .int .i64 A2, .int .i64 A3, .int .i64 A4, .int .i64 A5] 43) = W2 at *
  generalize w2.heap.size = b8 at *
  obtain ⟨x0, x1, x2, x3, x4⟩ := id eX
  go_wp2_with fail
  refine (TR.out _).mono ?_
  rintro e w3 ⟨rfl, hb⟩
  have eX := (eX.below hb).alloc (.cells #[.int .i64 A1, .int .i64 A2, .int .i64 A3, .int .i64 A4, .int .i64 A5] 41)
  have e8 := (e8.below hb).alloc (.cells #[.int .i64 A1, .int .i64 A2, .int .i64 A3, .int .i64 A4, .int .i64 A5] 41)
  have hB := hB.trans (hb.mono hB.size)
  have hB := hB.alloc hB.size (.cells #[.int .i64 A1, .int .i64 A2, .int .i64 A3, .int .i64 A4, .int .i64 A5] 41)
  have e10 := entAt_new w3 A1 A2 A3 A4 A5 41
  clear hb x0 x1 x2 x3 x4
  go_upto_region 4 with fail
  generalize w3.alloc (.cells #[.int .i64 A1, .int .i64 A2, .int .i64 A3, .int .i64 A4, .int .i64 A5] 41) = W3 at *
  generalize w3.heap.size = b10 at *
  obtain ⟨x0, x1, x2, x3, x4⟩ := id eX
  go_wp2_with fail
  refine (entry_any _ _ _ _ _ _).mono ?_
  rintro e w4 ⟨rfl, hb⟩
  have eX := eX.below hb
  have e8 := e8.below hb
  have e10 := e10.below hb
  have hB := hB.trans (hb.mono hB.size)
  clear x0 x1 x2 x3 x4 hb
  go_wp2_with fail
  refine (GA.out _).mono ?_
  rintro e w5 ⟨rfl, hb⟩
  have eX := (eX.below hb).alloc (.cells #[.int .i64 G1, .int .i64 G2, .int .i64 G3, .int .i64 G3, .int .i64 G5] 43)
  have e8 := (e8.below hb).alloc (.cells #[.int .i64 G1, .int .i64 G2, .int .i64 G3, .int .i64 G3, .int .i64 G5] 43)
  have e10 := (e10.below hb).alloc (.cells #[.int .i64 G1, .int .i64 G2, .int .i64 G3, .int .i64 G3, .int .i64 G5] 43)
  have hB := hB.trans (hb.mono hB.size)
  have hB := hB.alloc hB.size (.cells #[.int .i64 G1, .int .i64 G2, .int .i64 G3, .int .i64 G3, .int .i64 G5] 43)
  have e12 := entAt_new w5 G1 G2 G3 G3 G5 43
  clear hb
  go_upto_region 5 with fail
  generalize w5.alloc (.cells #[.int .i64 G1, .int .i64 G2, .int .i64 G3, .int .i64 G3, .int .i64 G5] 43) = W5 at *
  generalize w5.heap.size = b12 at *
  obtain ⟨x0, x1, x2, x3, x4⟩ := id eX
  go_wp2_with fail
  refine (GR.out _).mono ?_
  rintro e w6 ⟨rfl, hb⟩
  have eX := (eX.below hb).alloc (.cells #[.int .i64 G1, .int .i64 G2, .int .i64 G3, .int .i64 G3, .int .i64 G5] 41)
  have e8 := (e8.below hb).alloc (.cells #[.int .i64 G1, .int .i64 G2, .int .i64 G3, .int .i64 G3, .int .i64 G5] 41)
  have e10 := (e10.below hb).alloc (.cells #[.int .i64 G1, .int .i64 G2, .int .i64 G3, .int .i64 G3, .int .i64 G5] 41)
  have e12 := (e12.below hb).alloc (.cells #[.int .i64 G1, .int .i64 G2, .int .i64 G3, .int .i64 G3, .int .i64 G5] 41)
  have hB := hB.trans (hb.mono hB.size)
  have hB := hB.alloc hB.size (.cells #[.int .i64 G1, .int .i64 G2, .int .i64 G3, .int .i64 G3, .int .i64 G5] 41)
  have e14 := entAt_new w6 G1 G2 G3 G3 G5 41
  clear hb x0 x1 x2 x3 x4
  go_upto_region 6 with fail
  generalize w6.alloc (.cells #[.int .i64 G1, .int .i64 G2, .int .i64 G3, .int .i64 G3, .int .i64 G5] 41) = W6 at *
  generalize w6.heap.size = b14 at *
  clear TA TR GA GR
  go_region_held3 (fun w' => (w'.cell? ⟨bX, 0, none⟩ = some (.int .i64 k) ∧ w'.cell? ⟨bX, 1, none⟩ = some (.int .i64 c) ∧ w'.cell? ⟨bX, 2, none⟩ = some (.int .i64 s) ∧ w'.cell? ⟨bX, 3, none⟩ = some (.int .i64 o) ∧ w'.cell? ⟨bX, 4, none⟩ = some (.int .i64 y)) ∧ (w'.cell? ⟨b8, 0, none⟩ = some (.int .i64 A1) ∧ w'.cell? ⟨b8, 1, none⟩ = some (.int .i64 A2) ∧ w'.cell? ⟨b8, 2, none⟩ = some (.int .i64 A3) ∧ w'.cell? ⟨b8, 3, none⟩ = some (.int .i64 A4) ∧ w'.cell? ⟨b8, 4, none⟩ = some (.int .i64 A5)) ∧ (w'.cell? ⟨b10, 0, none⟩ = some (.int .i64 A1) ∧ w'.cell? ⟨b10, 1, none⟩ = some (.int .i64 A2) ∧ w'.cell? ⟨b10, 2, none⟩ = some (.int .i64 A3) ∧ w'.cell? ⟨b10, 3, none⟩ = some (.int .i64 A4) ∧ w'.cell? ⟨b10, 4, none⟩ = some (.int .i64 A5)) ∧ (w'.cell? ⟨b12, 0, none⟩ = some (.int .i64 G1) ∧ w'.cell? ⟨b12, 1, none⟩ = some (.int .i64 G2) ∧ w'.cell? ⟨b12, 2, none⟩ = some (.int .i64 G3) ∧ w'.cell? ⟨b12, 3, none⟩ = some (.int .i64 G3) ∧ w'.cell? ⟨b12, 4, none⟩ = some (.int .i64 G5)) ∧ (w'.cell? ⟨b14, 0, none⟩ = some (.int .i64 G1) ∧ w'.cell? ⟨b14, 1, none⟩ = some (.int .i64 G2) ∧ w'.cell? ⟨b14, 2, none⟩ = some (.int .i64 G3) ∧ w'.cell? ⟨b14, 3, none⟩ = some (.int .i64 G3) ∧ w'.cell? ⟨b14, 4, none⟩ = some (.int .i64 G5)) ∧ Below w.heap.size w w') (first | exact ⟨eX, e8, e10, e12, e14, hB⟩ | exact ⟨eX, e8, e10, e12, e14, hB.drew⟩ | exact keep5 bX b8 b10 b12 b14 k c s o y A1 A2 A3 A4 A5 G1 G2 G3 G3 G5 (by assumption) hbk) (first | (go_at_call 15; refine (headed_any _).mono ?_; rintro e w7 ⟨rfl, hbk⟩) | (go_at_call 19; refine (entry_any _ _ _ _ _ _).mono ?_; rintro e w7 ⟨rfl, hbk⟩) | (go_at_call 27; refine (DA.out _).mono ?_; rintro e w7 ⟨rfl, hbk⟩) | (go_at_call 28; refine (DR.out _).mono ?_; rintro e w7 ⟨rfl, hbk⟩) | (go_at_call 29; refine (RA.out _).mono ?_; rintro e w7 ⟨rfl, hbk⟩) | (go_at_call 30; refine (RR.out _).mono ?_; rintro e w7 ⟨rfl, hbk⟩))
  all_goals
    go_wp2
    go_ret
    exact ⟨rfl, held5 bX b8 b10 b12 b14 k c s o y A1 A2 A3 A4 A5 G1 G2 G3 G3 G5 (by assumption)⟩
theorem states_law (k c s o y cl cy st ow : Int) (w : World) (_w0 : (Lit.int .i64 k).wf = true) (_w1 : (Lit.int .i64 c).wf = true) (_w2 : (Lit.int .i64 s).wf = true) (_w3 : (Lit.int .i64 o).wf = true) (_w4 : (Lit.int .i64 y).wf = true) (_w5 : (Lit.int .i64 cl).wf = true) (_w6 : (Lit.int .i64 cy).wf = true) (_w7 : (Lit.int .i64 st).wf = true) (_w8 : (Lit.int .i64 ow).wf = true) :
    Calls Try.prog 5 #[.agg #[.int .i64 k, .int .i64 c, .int .i64 s, .int .i64 o, .int .i64 y, .int .i64 cl, .int .i64 cy, .int .i64 st, .int .i64 ow]] w fun e w' => e = .returned (.bool true) ∧ Below w.heap.size w w' :=
  states_walk k c s o y cl cy st ow w
end Go.Proofs.Ytjomflodbcjdlaa
