/- What Find of package layout, and Find and Place of the document's layer 6, return, for all plans and numbers. No condition. -/
import Derived.Test.YtgfajicccalhlaaFind
import Derived.Test.YtgfajicccalhlaaLnew
namespace Go.Proofs.Ytgfajicccalhlaa
open Go.RowKit
set_option linter.unusedVariables false
set_option linter.unusedSimpArgs false
/-- is it the number of a cell? -/
def cellB (P T R a : Int) : Bool := rightB P T R && inB a 0 (baseI P T R + 64 * P - 1)
def findKK (P T R a : Int) : Int := if cellB P T R a then findK P T R a else 0
def findAA (P T R a : Int) : Int := if cellB P T R a then findA P T R a else 0
def findBB (P T R a : Int) : Int := if cellB P T R a then findB P T R a else 0
theorem cell_of {P T R a : Int} (h : cellB P T R a = true) : Right P T R ∧ 0 ≤ a ∧ a < baseI P T R + 64 * P := by
  unfold cellB inB at h
  rw [Bool.and_eq_true, decide_eq_true_iff] at h
  exact ⟨right_of h.1, h.2.1, by omega⟩
set_option maxHeartbeats 1000000 in
theorem find_inv (P T R a : Int) (w : World) (h : rightB P T R = false) :
    Calls Try.prog 31 #[.agg #[.int .i64 P, .int .i64 T, .int .i64 R], .int .i64 a] w fun e w' => e = .returned (.agg #[.int .i64 0, .int .i64 0, .int .i64 0]) ∧ Below w.heap.size w w' := by
  have V := Lib.hid (fun W => valid_any P T R W)
  rw [h] at V
  have X0 := (Blk.new w #[.int .i64 P, .int .i64 T, .int .i64 R] 23).alloc (.cells #[.int .i64 0, .int .i64 0, .int .i64 0] 48)
  have Z0 : Blk ((w.alloc (.cells #[.int .i64 P, .int .i64 T, .int .i64 R] 23)).alloc (.cells #[.int .i64 0, .int .i64 0, .int .i64 0] 48)) (w.heap.size + 1) #[.int .i64 0, .int .i64 0, .int .i64 0] 48 := Blk.new' (by simp)
  have B0 : Below w.heap.size w ((w.alloc (.cells #[.int .i64 P, .int .i64 T, .int .i64 R] 23)).alloc (.cells #[.int .i64 0, .int .i64 0, .int .i64 0] 48)) := ((Below.refl _ _).alloc (Nat.le_refl _) _).alloc (by simp) _
  go_enter Try.func31, Try.ntmps31
  go_wp2_with fail
  refine (V.out _).mono ?_; rintro e w1 ⟨rfl, hb1⟩
  have X1 := X0.grew hb1; have Z1 := Z0.grew hb1; have B1 := B0.trans (hb1.mono B0.size)
  have p10 := X1.val 0 rfl; have p11 := X1.val 1 rfl; have p12 := X1.val 2 rfl
  have f10 := Z1.frozen 0; have f11 := Z1.frozen 1; have f12 := Z1.frozen 2; have z10 := Z1.val 0 rfl; have z11 := Z1.val 1 rfl; have z12 := Z1.val 2 rfl
  go_wp2
  have hlt := Z1.lt
  refine bodyPost_ret (v := .agg #[.int .i64 0, .int .i64 0, .int .i64 0]) (by simp [results, Try.results31, go_sem, *]) rfl ⟨rfl, ?_⟩
  exact (((B1.setCell (Nat.le_succ _) _).setCell (Nat.le_succ _) _).setCell (Nat.le_succ _) _)
set_option maxHeartbeats 1000000 in
theorem find_out (P T R a : Int) (w : World) (hR : Right P T R) (h : inB a 0 (baseI P T R + 64 * P - 1) = false) :
    Calls Try.prog 31 #[.agg #[.int .i64 P, .int .i64 T, .int .i64 R], .int .i64 a] w fun e w' => e = .returned (.agg #[.int .i64 0, .int .i64 0, .int .i64 0]) ∧ Below w.heap.size w w' := by
  have V := Lib.hid (fun W => valid_any P T R W)
  rw [of_right hR] at V
  have CE := Lib.hid (fun W => cells_yes P T R W hR)
  have W1 := Lib.hid (fun W => within_any a 0 (baseI P T R + 64 * P - 1) W)
  rw [h] at W1
  have hb := base_bd hR
  generalize baseI P T R = z at *
  obtain ⟨⟨p1, p2⟩, _⟩ := hR
  have X0 := (Blk.new w #[.int .i64 P, .int .i64 T, .int .i64 R] 23).alloc (.cells #[.int .i64 0, .int .i64 0, .int .i64 0] 48)
  have Z0 : Blk ((w.alloc (.cells #[.int .i64 P, .int .i64 T, .int .i64 R] 23)).alloc (.cells #[.int .i64 0, .int .i64 0, .int .i64 0] 48)) (w.heap.size + 1) #[.int .i64 0, .int .i64 0, .int .i64 0] 48 := Blk.new' (by simp)
  have B0 : Below w.heap.size w ((w.alloc (.cells #[.int .i64 P, .int .i64 T, .int .i64 R] 23)).alloc (.cells #[.int .i64 0, .int .i64 0, .int .i64 0] 48)) := ((Below.refl _ _).alloc (Nat.le_refl _) _).alloc (by simp) _
  go_enter Try.func31, Try.ntmps31
  go_wp2_with fail
  refine (V.out _).mono ?_; rintro e w1 ⟨rfl, hb1⟩
  have X1 := X0.grew hb1; have Z1 := Z0.grew hb1; have B1 := B0.trans (hb1.mono B0.size)
  have p10 := X1.val 0 rfl; have p11 := X1.val 1 rfl; have p12 := X1.val 2 rfl
  have f10 := Z1.frozen 0; have f11 := Z1.frozen 1; have f12 := Z1.frozen 2; have z10 := Z1.val 0 rfl; have z11 := Z1.val 1 rfl; have z12 := Z1.val 2 rfl
  go_wp2_with fail
  refine (CE.out _).mono ?_; rintro e w2 ⟨rfl, hb2⟩
  have X2 := X1.grew hb2; have Z2 := Z1.grew hb2; have B2 := B1.trans (hb2.mono B1.size)
  have p20 := X2.val 0 rfl; have p21 := X2.val 1 rfl; have p22 := X2.val 2 rfl
  have f20 := Z2.frozen 0; have f21 := Z2.frozen 1; have f22 := Z2.frozen 2; have z20 := Z2.val 0 rfl; have z21 := Z2.val 1 rfl; have z22 := Z2.val 2 rfl
  go_wp2_with fail
  refine (W1.out _).mono ?_; rintro e w3 ⟨rfl, hb3⟩
  have X3 := X2.grew hb3; have Z3 := Z2.grew hb3; have B3 := B2.trans (hb3.mono B2.size)
  have p30 := X3.val 0 rfl; have p31 := X3.val 1 rfl; have p32 := X3.val 2 rfl
  have f30 := Z3.frozen 0; have f31 := Z3.frozen 1; have f32 := Z3.frozen 2; have z30 := Z3.val 0 rfl; have z31 := Z3.val 1 rfl; have z32 := Z3.val 2 rfl
  go_wp2
  have hlt := Z3.lt
  refine bodyPost_ret (v := .agg #[.int .i64 0, .int .i64 0, .int .i64 0]) (by simp [results, Try.results31, go_sem, *]) rfl ⟨rfl, ?_⟩
  exact (((B3.setCell (Nat.le_succ _) _).setCell (Nat.le_succ _) _).setCell (Nat.le_succ _) _)
theorem find_any (P T R a : Int) (w : World) :
    Calls Try.prog 31 #[.agg #[.int .i64 P, .int .i64 T, .int .i64 R], .int .i64 a] w fun e w' => e = .returned (.agg #[.int .i64 (findKK P T R a), .int .i64 (findAA P T R a), .int .i64 (findBB P T R a)]) ∧ Below w.heap.size w w' := by
  unfold findKK findAA findBB
  cases h : cellB P T R a with
  | true =>
    obtain ⟨h1, h2, h3⟩ := cell_of h
    exact find_yes P T R a w h1 h2 h3
  | false =>
    cases hr : rightB P T R with
    | false => exact find_inv P T R a w hr
    | true =>
      have hi : inB a 0 (baseI P T R + 64 * P - 1) = false := by unfold cellB at h; rw [hr, Bool.true_and] at h; exact h
      exact find_out P T R a w (right_of hr) hi
set_option maxHeartbeats 1000000 in
theorem rfind_inva (P T R a : Int) (w : World) (h : rightB P T R = false) (h0 : a < 0) :
    Calls Try.prog 32 #[.agg #[.int .i64 P, .int .i64 T, .int .i64 R], .int .i64 a] w fun e w' => e = .returned (.agg #[.int .i64 0, .int .i64 0, .int .i64 0]) ∧ Below w.heap.size w w' := by
  have V := Lib.hid (fun W => spots_no P T R W h)
  have X0 := (Blk.new w #[.int .i64 P, .int .i64 T, .int .i64 R] 27).alloc (.cells #[.int .i64 0, .int .i64 0, .int .i64 0] 39)
  have Z0 : Blk ((w.alloc (.cells #[.int .i64 P, .int .i64 T, .int .i64 R] 27)).alloc (.cells #[.int .i64 0, .int .i64 0, .int .i64 0] 39)) (w.heap.size + 1) #[.int .i64 0, .int .i64 0, .int .i64 0] 39 := Blk.new' (by simp)
  have B0 : Below w.heap.size w ((w.alloc (.cells #[.int .i64 P, .int .i64 T, .int .i64 R] 27)).alloc (.cells #[.int .i64 0, .int .i64 0, .int .i64 0] 39)) := ((Below.refl _ _).alloc (Nat.le_refl _) _).alloc (by simp) _
  go_enter Try.func32, Try.ntmps32
  go_wp2_with fail
  refine (V.out _).mono ?_; rintro e w1 ⟨rfl, hb1⟩
  have X1 := X0.grew hb1; have Z1 := Z0.grew hb1; have B1 := B0.trans (hb1.mono B0.size)
  have f10 := Z1.frozen 0; have f11 := Z1.frozen 1; have f12 := Z1.frozen 2; have z10 := Z1.val 0 rfl; have z11 := Z1.val 1 rfl; have z12 := Z1.val 2 rfl
  go_wp2
  have hlt := Z1.lt
  refine bodyPost_ret (v := .agg #[.int .i64 0, .int .i64 0, .int .i64 0]) (by simp [results, Try.results32, go_sem, *]) rfl ⟨rfl, ?_⟩
  exact (((B1.setCell (Nat.le_succ _) _).setCell (Nat.le_succ _) _).setCell (Nat.le_succ _) _)
set_option maxHeartbeats 1000000 in
theorem rfind_invb (P T R a : Int) (w : World) (h : rightB P T R = false) (h0 : 0 ≤ a) :
    Calls Try.prog 32 #[.agg #[.int .i64 P, .int .i64 T, .int .i64 R], .int .i64 a] w fun e w' => e = .returned (.agg #[.int .i64 0, .int .i64 0, .int .i64 0]) ∧ Below w.heap.size w w' := by
  have V := Lib.hid (fun W => spots_no P T R W h)
  have X0 := (Blk.new w #[.int .i64 P, .int .i64 T, .int .i64 R] 27).alloc (.cells #[.int .i64 0, .int .i64 0, .int .i64 0] 39)
  have Z0 : Blk ((w.alloc (.cells #[.int .i64 P, .int .i64 T, .int .i64 R] 27)).alloc (.cells #[.int .i64 0, .int .i64 0, .int .i64 0] 39)) (w.heap.size + 1) #[.int .i64 0, .int .i64 0, .int .i64 0] 39 := Blk.new' (by simp)
  have B0 : Below w.heap.size w ((w.alloc (.cells #[.int .i64 P, .int .i64 T, .int .i64 R] 27)).alloc (.cells #[.int .i64 0, .int .i64 0, .int .i64 0] 39)) := ((Below.refl _ _).alloc (Nat.le_refl _) _).alloc (by simp) _
  go_enter Try.func32, Try.ntmps32
  go_wp2_with fail
  refine (V.out _).mono ?_; rintro e w1 ⟨rfl, hb1⟩
  have X1 := X0.grew hb1; have Z1 := Z0.grew hb1; have B1 := B0.trans (hb1.mono B0.size)
  have f10 := Z1.frozen 0; have f11 := Z1.frozen 1; have f12 := Z1.frozen 2; have z10 := Z1.val 0 rfl; have z11 := Z1.val 1 rfl; have z12 := Z1.val 2 rfl
  go_wp2
  have hlt := Z1.lt
  refine bodyPost_ret (v := .agg #[.int .i64 0, .int .i64 0, .int .i64 0]) (by simp [results, Try.results32, go_sem, *]) rfl ⟨rfl, ?_⟩
  exact (((B1.setCell (Nat.le_succ _) _).setCell (Nat.le_succ _) _).setCell (Nat.le_succ _) _)
set_option maxHeartbeats 1000000 in
theorem rfind_outa (P T R a : Int) (w : World) (hR : Right P T R) (h0 : a < 0) :
    Calls Try.prog 32 #[.agg #[.int .i64 P, .int .i64 T, .int .i64 R], .int .i64 a] w fun e w' => e = .returned (.agg #[.int .i64 0, .int .i64 0, .int .i64 0]) ∧ Below w.heap.size w w' := by
  have V := Lib.hid (fun W => spots_yes P T R W hR)
  have hp := hR.1
  have hb := base_bd hR
  have X0 := (Blk.new w #[.int .i64 P, .int .i64 T, .int .i64 R] 27).alloc (.cells #[.int .i64 0, .int .i64 0, .int .i64 0] 39)
  have Z0 : Blk ((w.alloc (.cells #[.int .i64 P, .int .i64 T, .int .i64 R] 27)).alloc (.cells #[.int .i64 0, .int .i64 0, .int .i64 0] 39)) (w.heap.size + 1) #[.int .i64 0, .int .i64 0, .int .i64 0] 39 := Blk.new' (by simp)
  have B0 : Below w.heap.size w ((w.alloc (.cells #[.int .i64 P, .int .i64 T, .int .i64 R] 27)).alloc (.cells #[.int .i64 0, .int .i64 0, .int .i64 0] 39)) := ((Below.refl _ _).alloc (Nat.le_refl _) _).alloc (by simp) _
  go_enter Try.func32, Try.ntmps32
  go_wp2_with fail
  refine (V.out _).mono ?_; rintro e w1 ⟨v, n, rfl, hn, hS, hb1⟩
  have X1 := X0.grew hb1; have Z1 := Z0.grew hb1; have B1 := B0.trans (hb1.mono B0.size)
  have f10 := Z1.frozen 0; have f11 := Z1.frozen 1; have f12 := Z1.frozen 2; have z10 := Z1.val 0 rfl; have z11 := Z1.val 1 rfl; have z12 := Z1.val 2 rfl
  obtain ⟨g, c, rfl, hg1, hg2, _⟩ := hS.cells (by omega)
  clear hS
  go_wp2
  have hlt := Z1.lt
  refine bodyPost_ret (v := .agg #[.int .i64 0, .int .i64 0, .int .i64 0]) (by simp [results, Try.results32, go_sem, *]) rfl ⟨rfl, ?_⟩
  exact (((B1.setCell (Nat.le_succ _) _).setCell (Nat.le_succ _) _).setCell (Nat.le_succ _) _)
set_option maxHeartbeats 1000000 in
theorem rfind_outb (P T R a : Int) (w : World) (hR : Right P T R) (h0 : 0 ≤ a) (h1 : baseI P T R + 64 * P ≤ a) :
    Calls Try.prog 32 #[.agg #[.int .i64 P, .int .i64 T, .int .i64 R], .int .i64 a] w fun e w' => e = .returned (.agg #[.int .i64 0, .int .i64 0, .int .i64 0]) ∧ Below w.heap.size w w' := by
  have V := Lib.hid (fun W => spots_yes P T R W hR)
  have hp := hR.1
  have hb := base_bd hR
  have X0 := (Blk.new w #[.int .i64 P, .int .i64 T, .int .i64 R] 27).alloc (.cells #[.int .i64 0, .int .i64 0, .int .i64 0] 39)
  have Z0 : Blk ((w.alloc (.cells #[.int .i64 P, .int .i64 T, .int .i64 R] 27)).alloc (.cells #[.int .i64 0, .int .i64 0, .int .i64 0] 39)) (w.heap.size + 1) #[.int .i64 0, .int .i64 0, .int .i64 0] 39 := Blk.new' (by simp)
  have B0 : Below w.heap.size w ((w.alloc (.cells #[.int .i64 P, .int .i64 T, .int .i64 R] 27)).alloc (.cells #[.int .i64 0, .int .i64 0, .int .i64 0] 39)) := ((Below.refl _ _).alloc (Nat.le_refl _) _).alloc (by simp) _
  go_enter Try.func32, Try.ntmps32
  go_wp2_with fail
  refine (V.out _).mono ?_; rintro e w1 ⟨v, n, rfl, hn, hS, hb1⟩
  have X1 := X0.grew hb1; have Z1 := Z0.grew hb1; have B1 := B0.trans (hb1.mono B0.size)
  have f10 := Z1.frozen 0; have f11 := Z1.frozen 1; have f12 := Z1.frozen 2; have z10 := Z1.val 0 rfl; have z11 := Z1.val 1 rfl; have z12 := Z1.val 2 rfl
  obtain ⟨g, c, rfl, hg1, hg2, _⟩ := hS.cells (by omega)
  clear hS
  have hnn : (n : Int) ≤ a := by omega
  clear hn h1
  go_wp2
  have hlt := Z1.lt
  refine bodyPost_ret (v := .agg #[.int .i64 0, .int .i64 0, .int .i64 0]) (by simp [results, Try.results32, go_sem, *]) rfl ⟨rfl, ?_⟩
  exact (((B1.setCell (Nat.le_succ _) _).setCell (Nat.le_succ _) _).setCell (Nat.le_succ _) _)
set_option maxHeartbeats 1000000 in
theorem rfind_in (P T R : Int) (a : Nat) (w : World) (hR : Right P T R) (h1 : (a : Int) < baseI P T R + 64 * P) :
    Calls Try.prog 32 #[.agg #[.int .i64 P, .int .i64 T, .int .i64 R], .int .i64 a] w fun e w' => e = .returned (.agg #[.int .i64 (findK P T R a), .int .i64 (findA P T R a), .int .i64 (findB P T R a)]) ∧ Below w.heap.size w w' := by
  have V := Lib.hid (fun W => spots_yes P T R W hR)
  have hp := hR.1
  have hb := base_bd hR
  have X0 := (Blk.new w #[.int .i64 P, .int .i64 T, .int .i64 R] 27).alloc (.cells #[.int .i64 0, .int .i64 0, .int .i64 0] 39)
  have Z0 : Blk ((w.alloc (.cells #[.int .i64 P, .int .i64 T, .int .i64 R] 27)).alloc (.cells #[.int .i64 0, .int .i64 0, .int .i64 0] 39)) (w.heap.size + 1) #[.int .i64 0, .int .i64 0, .int .i64 0] 39 := Blk.new' (by simp)
  have B0 : Below w.heap.size w ((w.alloc (.cells #[.int .i64 P, .int .i64 T, .int .i64 R] 27)).alloc (.cells #[.int .i64 0, .int .i64 0, .int .i64 0] 39)) := ((Below.refl _ _).alloc (Nat.le_refl _) _).alloc (by simp) _
  go_enter Try.func32, Try.ntmps32
  go_wp2_with fail
  refine (V.out _).mono ?_; rintro e w1 ⟨v, n, rfl, hn, hS, hb1⟩
  have X1 := X0.grew hb1; have Z1 := Z0.grew hb1; have B1 := B0.trans (hb1.mono B0.size)
  have f10 := Z1.frozen 0; have f11 := Z1.frozen 1; have f12 := Z1.frozen 2; have z10 := Z1.val 0 rfl; have z11 := Z1.val 1 rfl; have z12 := Z1.val 2 rfl
  obtain ⟨g, c, rfl, hg1, hg2, hc⟩ := hS.cells (by omega)
  obtain ⟨s0, s1, s2⟩ := hc a (by omega)
  clear hc hS
  have hna : a < n := by omega
  have hna0 : (0 : Int) ≤ a := by omega
  have hng : ¬ ((n : Int) ≤ a) := by omega
  clear hn h1
  go_wp2
  have hlt := Z1.lt
  refine bodyPost_ret (v := .agg #[.int .i64 (findK P T R a), .int .i64 (findA P T R a), .int .i64 (findB P T R a)]) (by simp [results, Try.results32, go_sem, *]) rfl ⟨rfl, ?_⟩
  exact (((B1.setCell (Nat.le_succ _) _).setCell (Nat.le_succ _) _).setCell (Nat.le_succ _) _)
theorem rfind_any (P T R a : Int) (w : World) :
    Calls Try.prog 32 #[.agg #[.int .i64 P, .int .i64 T, .int .i64 R], .int .i64 a] w fun e w' => e = .returned (.agg #[.int .i64 (findKK P T R a), .int .i64 (findAA P T R a), .int .i64 (findBB P T R a)]) ∧ Below w.heap.size w w' := by
  unfold findKK findAA findBB
  cases h : cellB P T R a with
  | true =>
    obtain ⟨h1, h2, h3⟩ := cell_of h
    obtain ⟨m, rfl⟩ := Int.eq_ofNat_of_zero_le h2
    exact rfind_in P T R m w h1 h3
  | false =>
    cases hr : rightB P T R with
    | false =>
      by_cases h0 : a < 0
      · exact rfind_inva P T R a w hr h0
      · exact rfind_invb P T R a w hr (by omega)
    | true =>
      have hi : inB a 0 (baseI P T R + 64 * P - 1) = false := by unfold cellB at h; rw [hr, Bool.true_and] at h; exact h
      unfold inB at hi
      rw [decide_eq_false_iff_not] at hi
      by_cases h0 : a < 0
      · exact rfind_outa P T R a w (right_of hr) h0
      · exact rfind_outb P T R a w (right_of hr) (by omega) (by omega)
theorem kind_lt {P T R a : Int} (h : Right P T R) (h0 : 0 ≤ a) (h1 : a < baseI P T R) : findK P T R a ≠ 8 := by
  intro hk
  rcases pos_find h h0 (by have := h.1; omega) with ⟨e, _⟩ | ⟨e1, e2⟩
  · omega
  · rw [hk] at e1 e2
    rw [pos_8] at e2
    unfold okI at e1
    omega
theorem place_eq (P T R a : Int) : (if findKK P T R a = 8 then (findAA P T R a, findBB P T R a) else (-1, -1)) = placeI P T R a := by
  unfold placeI heapB findKK findAA findBB
  cases hr : rightB P T R with
  | false =>
    have hc : cellB P T R a = false := by unfold cellB; rw [hr]; rfl
    rw [hc]; rfl
  | true =>
    have hR := right_of hr
    have hb := base_bd hR
    have hp := hR.1
    rw [Bool.true_and]
    by_cases h0 : 0 ≤ a ∧ a < baseI P T R + 64 * P
    · have hc : cellB P T R a = true := by unfold cellB; rw [hr, Bool.true_and]; exact decide_eq_true (by omega)
      rw [hc, if_pos rfl, if_pos rfl, if_pos rfl]
      by_cases h1 : a < baseI P T R
      · rw [if_neg (kind_lt hR h0.1 h1), show inB a (baseI P T R) (baseI P T R + 64 * P - 1) = false from decide_eq_false (by omega)]; rfl
      · have ht := tab_bd hR
        obtain ⟨e1, e2, e3⟩ := find_8 (P := P) (T := T) (R := R) (a := a) (by omega) (by omega) (by omega)
        rw [e1, e2, e3, if_pos rfl, show inB a (baseI P T R) (baseI P T R + 64 * P - 1) = true from decide_eq_true (by omega)]; rfl
    · have hc : cellB P T R a = false := by unfold cellB; rw [hr, Bool.true_and]; exact decide_eq_false (by omega)
      rw [hc, show inB a (baseI P T R) (baseI P T R + 64 * P - 1) = false from decide_eq_false (by omega)]; rfl
theorem ref_eq (P T R x : Int) (hx : 0 ≤ x) : decide (0 ≤ (if x < 65536 then (placeI P T R x).1 else -1)) = refB P T R x := by
  unfold refB placeI
  cases hh : heapB P T R x with
  | false =>
    rw [Bool.and_false]
    by_cases h : x < 65536
    · rw [if_pos h]; rfl
    · rw [if_neg h]; rfl
  | true =>
    have hh' := hh
    unfold heapB inB at hh'
    rw [Bool.and_eq_true, decide_eq_true_iff] at hh'
    have hR := right_of hh'.1
    have hb := base_bd hR
    have hp := hR.1
    rw [if_pos (by omega), if_pos rfl, decide_eq_true (show x < 4096 by omega)]
    exact decide_eq_true (show 0 ≤ (x - baseI P T R) / 64 from Int.ediv_nonneg (by omega) (by omega))
set_option maxHeartbeats 1000000 in
theorem rplace_any (P T R a : Int) (w : World) :
    Calls Try.prog 29 #[.agg #[.int .i64 P, .int .i64 T, .int .i64 R], .int .i64 a] w fun e w' => e = .returned (.tuple #[.int .i64 (placeI P T R a).1, .int .i64 (placeI P T R a).2]) ∧ Below w.heap.size w w' := by
  have V := Lib.hid (fun W => rfind_any P T R a W)
  rw [← place_eq]
  generalize findKK P T R a = k at *
  generalize findAA P T R a = x at *
  generalize findBB P T R a = y at *
  by_cases hk : k = 8
  · subst hk
    rw [if_pos rfl]
    go_enter Try.func29, Try.ntmps29
    go_wp2_with fail
    refine (V.out _).mono ?_; rintro e w1 ⟨rfl, hb1⟩
    have B1 : Below w.heap.size w w1 := ((Below.refl _ _).alloc (Nat.le_refl _) _).trans (hb1.mono (by simp))
    go_wp2
    go_quiet (fail)
    go_wp2
    go_ret2
    exact ⟨rfl, (B1.alloc B1.size _).trans Quiet.drew.below⟩
  · rw [if_neg hk]
    have hk' : (k == 8) = false := by simp; exact hk
    go_enter Try.func29, Try.ntmps29
    go_wp2_with fail
    refine (V.out _).mono ?_; rintro e w1 ⟨rfl, hb1⟩
    have B1 : Below w.heap.size w w1 := ((Below.refl _ _).alloc (Nat.le_refl _) _).trans (hb1.mono (by simp))
    go_wp2
    go_ret2
    exact ⟨rfl, B1.alloc B1.size _⟩
set_option maxHeartbeats 400000 in
theorem spot_any (P T R : Int) (w : World) :
    Calls Try.prog 30 #[.agg #[.int .i64 P, .int .i64 T, .int .i64 R]] w fun e w' => e = .returned (.agg #[.int .i64 P, .int .i64 T, .int .i64 R]) ∧ Below w.heap.size w w' := by
  go_enter Try.func30, Try.ntmps30
  go_wp2
  refine bodyPost_ret (v := .agg #[.int .i64 P, .int .i64 T, .int .i64 R]) (by simp [results, Try.results30, go_sem]) rfl ⟨rfl, ?_⟩
  exact ((Below.refl _ _).alloc (Nat.le_refl _) _).alloc (by simp) _
end Go.Proofs.Ytgfajicccalhlaa
