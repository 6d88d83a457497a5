/- What Find of package layout returns. No condition but that the numbers fit their kinds. -/
import Derived.Test.YtahppkdbaagcgaaFindb
namespace Go.Proofs.Ytahppkdbaagcgaa
open Go.RowKit
set_option linter.unusedVariables false
set_option linter.unusedSimpArgs false
/-- A plan's box, a result's box behind it, whatever it holds, and all that was there below them. -/
def RestG (w w' : World) (P T R : Int) (tp tz : TypeId) : Prop := Blk w' w.heap.size #[.int .i64 P, .int .i64 T, .int .i64 R] tp ∧ (∃ u v x, Blk w' (w.heap.size + 1) #[u, v, x] tz) ∧ Below w.heap.size w w'
theorem startG {w W : World} {P T R : Int} {tp tz : TypeId} (h : RestG w W P T R tp tz) : (W.cell? ⟨w.heap.size, 0, none⟩ = some (.int .i64 P) ∧ W.cell? ⟨w.heap.size, 1, none⟩ = some (.int .i64 T) ∧ W.cell? ⟨w.heap.size, 2, none⟩ = some (.int .i64 R)) ∧ RestG w W P T R tp tz :=
  ⟨⟨h.1.val 0 rfl, h.1.val 1 rfl, h.1.val 2 rfl⟩, h⟩
theorem keepG {w W W' : World} {P T R : Int} {tp tz : TypeId} (h : (W.cell? ⟨w.heap.size, 0, none⟩ = some (.int .i64 P) ∧ W.cell? ⟨w.heap.size, 1, none⟩ = some (.int .i64 T) ∧ W.cell? ⟨w.heap.size, 2, none⟩ = some (.int .i64 R)) ∧ RestG w W P T R tp tz) (hb : Below W.heap.size W W') :
    (W'.cell? ⟨w.heap.size, 0, none⟩ = some (.int .i64 P) ∧ W'.cell? ⟨w.heap.size, 1, none⟩ = some (.int .i64 T) ∧ W'.cell? ⟨w.heap.size, 2, none⟩ = some (.int .i64 R)) ∧ RestG w W' P T R tp tz := by
  obtain ⟨_, h1, ⟨u, v, x, h2⟩, h3⟩ := h
  exact startG ⟨h1.grew hb, ⟨u, v, x, h2.grew hb⟩, h3.trans (hb.mono h3.size)⟩
theorem storeG {w W : World} {P T R : Int} {tp tz : TypeId} (a b c : Value) (h : (W.cell? ⟨w.heap.size, 0, none⟩ = some (.int .i64 P) ∧ W.cell? ⟨w.heap.size, 1, none⟩ = some (.int .i64 T) ∧ W.cell? ⟨w.heap.size, 2, none⟩ = some (.int .i64 R)) ∧ RestG w W P T R tp tz) :
    ((((W.setCell ⟨w.heap.size + 1, 0, none⟩ a).setCell ⟨w.heap.size + 1, 1, none⟩ b).setCell ⟨w.heap.size + 1, 2, none⟩ c).cell? ⟨w.heap.size, 0, none⟩ = some (.int .i64 P) ∧ (((W.setCell ⟨w.heap.size + 1, 0, none⟩ a).setCell ⟨w.heap.size + 1, 1, none⟩ b).setCell ⟨w.heap.size + 1, 2, none⟩ c).cell? ⟨w.heap.size, 1, none⟩ = some (.int .i64 T) ∧ (((W.setCell ⟨w.heap.size + 1, 0, none⟩ a).setCell ⟨w.heap.size + 1, 1, none⟩ b).setCell ⟨w.heap.size + 1, 2, none⟩ c).cell? ⟨w.heap.size, 2, none⟩ = some (.int .i64 R)) ∧ RestG w (((W.setCell ⟨w.heap.size + 1, 0, none⟩ a).setCell ⟨w.heap.size + 1, 1, none⟩ b).setCell ⟨w.heap.size + 1, 2, none⟩ c) P T R tp tz := by
  obtain ⟨_, h1, ⟨u, v, x, h2⟩, h3⟩ := h
  exact startG ⟨((h1.other _ _ (by simp)).other _ _ (by simp)).other _ _ (by simp), ⟨a, b, c, ((h2.set 0 a).set 1 b).set 2 c⟩, ((h3.setCell (Nat.le_succ _) _).setCell (Nat.le_succ _) _).setCell (Nat.le_succ _) _⟩
theorem belowG {w W : World} {P T R : Int} {tp tz : TypeId} (h : (W.cell? ⟨w.heap.size, 0, none⟩ = some (.int .i64 P) ∧ W.cell? ⟨w.heap.size, 1, none⟩ = some (.int .i64 T) ∧ W.cell? ⟨w.heap.size, 2, none⟩ = some (.int .i64 R)) ∧ RestG w W P T R tp tz) : Below w.heap.size w W := h.2.2.2
theorem resG {w W : World} {P T R : Int} {tp tz : TypeId} (h : (W.cell? ⟨w.heap.size, 0, none⟩ = some (.int .i64 P) ∧ W.cell? ⟨w.heap.size, 1, none⟩ = some (.int .i64 T) ∧ W.cell? ⟨w.heap.size, 2, none⟩ = some (.int .i64 R)) ∧ RestG w W P T R tp tz) : ∃ u v x, Blk W (w.heap.size + 1) #[u, v, x] tz := h.2.2.1
set_option maxHeartbeats 1000000 in
theorem find_n0 (P T R a : Int) (w : World) (hR : Right P T R) (h0 : 0 ≤ a) (h1 : a < baseI P T R + 64 * P) (hc : a = 0) :
    Calls Try.prog 7 #[.agg #[.int .i64 P, .int .i64 T, .int .i64 R], .int .i64 a] w fun e w' => e = .returned (.agg #[.int .i64 (findK P T R a), .int .i64 (findA P T R a), .int .i64 (findB P T R a)]) ∧ Below w.heap.size w w' := by
  have V := Lib.hid (fun W => valid_any P T R W)
  rw [of_right hR] at V
  have CE := Lib.hid (fun W => cells_yes P T R W hR)
  have W1 := Lib.hid (fun W => within_any a 0 (baseI P T R + 64 * P - 1) W)
  rw [show inB a 0 (baseI P T R + 64 * P - 1) = true from decide_eq_true (by omega)] at W1
  have TA := Lib.hid (fun W => tables_any P T R W hR)
  have BA := Lib.hid (fun W => base_yes P T R W hR)
  have ht := tab_bd hR
  have hb := base_bd hR
  subst hc
  rw [show findK P T R 0 = 0 from rfl, show findA P T R 0 = 0 from rfl, show findB P T R 0 = 0 from rfl]
  generalize tabI T R = y at *
  generalize baseI P T R = z at *
  obtain ⟨⟨p1, p2⟩, _⟩ := hR
  have X0 := (Blk.new w #[.int .i64 P, .int .i64 T, .int .i64 R] 25).alloc (.cells #[.int .i64 0, .int .i64 0, .int .i64 0] 33)
  have Z0 : Blk ((w.alloc (.cells #[.int .i64 P, .int .i64 T, .int .i64 R] 25)).alloc (.cells #[.int .i64 0, .int .i64 0, .int .i64 0] 33)) (w.heap.size + 1) #[.int .i64 0, .int .i64 0, .int .i64 0] 33 := Blk.new' (by simp)
  have B0 : Below w.heap.size w ((w.alloc (.cells #[.int .i64 P, .int .i64 T, .int .i64 R] 25)).alloc (.cells #[.int .i64 0, .int .i64 0, .int .i64 0] 33)) := ((Below.refl _ _).alloc (Nat.le_refl _) _).alloc (by simp) _
  go_enter Try.func7, Try.ntmps7
  go_wp2_with fail
  refine (V.out _).mono ?_; rintro e w1 ⟨rfl, hb1⟩
  have X1 := X0.grew hb1; have Z1 := Z0.grew hb1; have B1 := B0.trans (hb1.mono B0.size)
  have p10 := X1.val 0 rfl; have p11 := X1.val 1 rfl; have p12 := X1.val 2 rfl
  have f10 := Z1.frozen 0; have f11 := Z1.frozen 1; have f12 := Z1.frozen 2; have z10 := Z1.val 0 rfl; have z11 := Z1.val 1 rfl; have z12 := Z1.val 2 rfl
  go_wp2_with fail
  refine (CE.out _).mono ?_; rintro e w2 ⟨rfl, hb2⟩
  have X2 := X1.grew hb2; have Z2 := Z1.grew hb2; have B2 := B1.trans (hb2.mono B1.size)
  have p20 := X2.val 0 rfl; have p21 := X2.val 1 rfl; have p22 := X2.val 2 rfl
  have f20 := Z2.frozen 0; have f21 := Z2.frozen 1; have f22 := Z2.frozen 2; have z20 := Z2.val 0 rfl; have z21 := Z2.val 1 rfl; have z22 := Z2.val 2 rfl
  go_wp2_with fail
  refine (W1.out _).mono ?_; rintro e w3 ⟨rfl, hb3⟩
  have X3 := X2.grew hb3; have Z3 := Z2.grew hb3; have B3 := B2.trans (hb3.mono B2.size)
  have p30 := X3.val 0 rfl; have p31 := X3.val 1 rfl; have p32 := X3.val 2 rfl
  have f30 := Z3.frozen 0; have f31 := Z3.frozen 1; have f32 := Z3.frozen 2; have z30 := Z3.val 0 rfl; have z31 := Z3.val 1 rfl; have z32 := Z3.val 2 rfl
  go_wp2
  have hlt := Z3.lt
  refine bodyPost_ret (v := .agg #[.int .i64 0, .int .i64 0, .int .i64 0]) (by simp [results, Try.results7, go_sem, *]) rfl ⟨rfl, ?_⟩
  exact (((B3.setCell (Nat.le_succ _) _).setCell (Nat.le_succ _) _).setCell (Nat.le_succ _) _)
set_option maxHeartbeats 1000000 in
theorem find_n7 (P T R a : Int) (w : World) (hR : Right P T R) (h0 : 0 ≤ a) (h1 : a < baseI P T R + 64 * P) (hc : a = 7) :
    Calls Try.prog 7 #[.agg #[.int .i64 P, .int .i64 T, .int .i64 R], .int .i64 a] w fun e w' => e = .returned (.agg #[.int .i64 (findK P T R a), .int .i64 (findA P T R a), .int .i64 (findB P T R a)]) ∧ Below w.heap.size w w' := by
  have V := Lib.hid (fun W => valid_any P T R W)
  rw [of_right hR] at V
  have CE := Lib.hid (fun W => cells_yes P T R W hR)
  have W1 := Lib.hid (fun W => within_any a 0 (baseI P T R + 64 * P - 1) W)
  rw [show inB a 0 (baseI P T R + 64 * P - 1) = true from decide_eq_true (by omega)] at W1
  have TA := Lib.hid (fun W => tables_any P T R W hR)
  have BA := Lib.hid (fun W => base_yes P T R W hR)
  have ht := tab_bd hR
  have hb := base_bd hR
  subst hc
  rw [show findK P T R 7 = 0 from rfl, show findA P T R 7 = 0 from rfl, show findB P T R 7 = 0 from rfl]
  generalize tabI T R = y at *
  generalize baseI P T R = z at *
  have hR2 := hR
  obtain ⟨⟨p1, p2⟩, _⟩ := hR2
  have X0 := (Blk.new w #[.int .i64 P, .int .i64 T, .int .i64 R] 25).alloc (.cells #[.int .i64 0, .int .i64 0, .int .i64 0] 33)
  have Z0 : Blk ((w.alloc (.cells #[.int .i64 P, .int .i64 T, .int .i64 R] 25)).alloc (.cells #[.int .i64 0, .int .i64 0, .int .i64 0] 33)) (w.heap.size + 1) #[.int .i64 0, .int .i64 0, .int .i64 0] 33 := Blk.new' (by simp)
  have B0 : Below w.heap.size w ((w.alloc (.cells #[.int .i64 P, .int .i64 T, .int .i64 R] 25)).alloc (.cells #[.int .i64 0, .int .i64 0, .int .i64 0] 33)) := ((Below.refl _ _).alloc (Nat.le_refl _) _).alloc (by simp) _
  go_enter Try.func7, Try.ntmps7
  go_wp2_with fail
  refine (V.out _).mono ?_; rintro e w1 ⟨rfl, hb1⟩
  have X1 := X0.grew hb1; have Z1 := Z0.grew hb1; have B1 := B0.trans (hb1.mono B0.size)
  have p10 := X1.val 0 rfl; have p11 := X1.val 1 rfl; have p12 := X1.val 2 rfl
  have f10 := Z1.frozen 0; have f11 := Z1.frozen 1; have f12 := Z1.frozen 2; have z10 := Z1.val 0 rfl; have z11 := Z1.val 1 rfl; have z12 := Z1.val 2 rfl
  go_wp2_with fail
  refine (CE.out _).mono ?_; rintro e w2 ⟨rfl, hb2⟩
  have X2 := X1.grew hb2; have Z2 := Z1.grew hb2; have B2 := B1.trans (hb2.mono B1.size)
  have p20 := X2.val 0 rfl; have p21 := X2.val 1 rfl; have p22 := X2.val 2 rfl
  have f20 := Z2.frozen 0; have f21 := Z2.frozen 1; have f22 := Z2.frozen 2; have z20 := Z2.val 0 rfl; have z21 := Z2.val 1 rfl; have z22 := Z2.val 2 rfl
  go_wp2_with fail
  refine (W1.out _).mono ?_; rintro e w3 ⟨rfl, hb3⟩
  have X3 := X2.grew hb3; have Z3 := Z2.grew hb3; have B3 := B2.trans (hb3.mono B2.size)
  have p30 := X3.val 0 rfl; have p31 := X3.val 1 rfl; have p32 := X3.val 2 rfl
  have f30 := Z3.frozen 0; have f31 := Z3.frozen 1; have f32 := Z3.frozen 2; have z30 := Z3.val 0 rfl; have z31 := Z3.val 1 rfl; have z32 := Z3.val 2 rfl
  go_wp2
  have hlt := Z3.lt
  refine bodyPost_ret (v := .agg #[.int .i64 0, .int .i64 0, .int .i64 0]) (by simp [results, Try.results7, go_sem, *]) rfl ⟨rfl, ?_⟩
  exact (((B3.setCell (Nat.le_succ _) _).setCell (Nat.le_succ _) _).setCell (Nat.le_succ _) _)
set_option maxHeartbeats 1000000 in
theorem find_s (P T R a : Int) (w : World) (hR : Right P T R) (h0 : 0 ≤ a) (h1 : a < baseI P T R + 64 * P) (hc : a ≠ 0) (hc7 : a ≠ 7) (hc8 : a < 8) :
    Calls Try.prog 7 #[.agg #[.int .i64 P, .int .i64 T, .int .i64 R], .int .i64 a] w fun e w' => e = .returned (.agg #[.int .i64 (findK P T R a), .int .i64 (findA P T R a), .int .i64 (findB P T R a)]) ∧ Below w.heap.size w w' := by
  have V := Lib.hid (fun W => valid_any P T R W)
  rw [of_right hR] at V
  have CE := Lib.hid (fun W => cells_yes P T R W hR)
  have W1 := Lib.hid (fun W => within_any a 0 (baseI P T R + 64 * P - 1) W)
  rw [show inB a 0 (baseI P T R + 64 * P - 1) = true from decide_eq_true (by omega)] at W1
  have TA := Lib.hid (fun W => tables_any P T R W hR)
  have BA := Lib.hid (fun W => base_yes P T R W hR)
  have ht := tab_bd hR
  have hb := base_bd hR
  obtain ⟨e1, e2, e3⟩ := find_1 (P := P) (T := T) (R := R) (a := a) (by omega) hc8
  rw [e1, e2, e3]
  clear e1 e2 e3
  generalize tabI T R = y at *
  generalize baseI P T R = z at *
  have hR2 := hR
  obtain ⟨⟨p1, p2⟩, _⟩ := hR2
  have d0 : (a == 0) = false := by simp; omega
  have d7 : (a == 7) = false := by simp; omega
  have X0 := (Blk.new w #[.int .i64 P, .int .i64 T, .int .i64 R] 25).alloc (.cells #[.int .i64 0, .int .i64 0, .int .i64 0] 33)
  have Z0 : Blk ((w.alloc (.cells #[.int .i64 P, .int .i64 T, .int .i64 R] 25)).alloc (.cells #[.int .i64 0, .int .i64 0, .int .i64 0] 33)) (w.heap.size + 1) #[.int .i64 0, .int .i64 0, .int .i64 0] 33 := Blk.new' (by simp)
  have B0 : Below w.heap.size w ((w.alloc (.cells #[.int .i64 P, .int .i64 T, .int .i64 R] 25)).alloc (.cells #[.int .i64 0, .int .i64 0, .int .i64 0] 33)) := ((Below.refl _ _).alloc (Nat.le_refl _) _).alloc (by simp) _
  go_enter Try.func7, Try.ntmps7
  go_wp2_with fail
  refine (V.out _).mono ?_; rintro e w1 ⟨rfl, hb1⟩
  have X1 := X0.grew hb1; have Z1 := Z0.grew hb1; have B1 := B0.trans (hb1.mono B0.size)
  have p10 := X1.val 0 rfl; have p11 := X1.val 1 rfl; have p12 := X1.val 2 rfl
  have f10 := Z1.frozen 0; have f11 := Z1.frozen 1; have f12 := Z1.frozen 2; have z10 := Z1.val 0 rfl; have z11 := Z1.val 1 rfl; have z12 := Z1.val 2 rfl
  go_wp2_with fail
  refine (CE.out _).mono ?_; rintro e w2 ⟨rfl, hb2⟩
  have X2 := X1.grew hb2; have Z2 := Z1.grew hb2; have B2 := B1.trans (hb2.mono B1.size)
  have p20 := X2.val 0 rfl; have p21 := X2.val 1 rfl; have p22 := X2.val 2 rfl
  have f20 := Z2.frozen 0; have f21 := Z2.frozen 1; have f22 := Z2.frozen 2; have z20 := Z2.val 0 rfl; have z21 := Z2.val 1 rfl; have z22 := Z2.val 2 rfl
  go_wp2_with fail
  refine (W1.out _).mono ?_; rintro e w3 ⟨rfl, hb3⟩
  have X3 := X2.grew hb3; have Z3 := Z2.grew hb3; have B3 := B2.trans (hb3.mono B2.size)
  have p30 := X3.val 0 rfl; have p31 := X3.val 1 rfl; have p32 := X3.val 2 rfl
  have f30 := Z3.frozen 0; have f31 := Z3.frozen 1; have f32 := Z3.frozen 2; have z30 := Z3.val 0 rfl; have z31 := Z3.val 1 rfl; have z32 := Z3.val 2 rfl
  go_wp2
  have hlt := Z3.lt
  refine bodyPost_ret (v := .agg #[.int .i64 1, .int .i64 a, .int .i64 0]) (by simp [results, Try.results7, go_sem, *]) rfl ⟨rfl, ?_⟩
  exact (((B3.setCell (Nat.le_succ _) _).setCell (Nat.le_succ _) _).setCell (Nat.le_succ _) _)
set_option maxHeartbeats 1000000 in
theorem find_g (P T R a : Int) (w : World) (hR : Right P T R) (h0 : 0 ≤ a) (h1 : a < baseI P T R + 64 * P) (hc : 8 ≤ a) (hc8 : a < 16) :
    Calls Try.prog 7 #[.agg #[.int .i64 P, .int .i64 T, .int .i64 R], .int .i64 a] w fun e w' => e = .returned (.agg #[.int .i64 (findK P T R a), .int .i64 (findA P T R a), .int .i64 (findB P T R a)]) ∧ Below w.heap.size w w' := by
  have V := Lib.hid (fun W => valid_any P T R W)
  rw [of_right hR] at V
  have CE := Lib.hid (fun W => cells_yes P T R W hR)
  have W1 := Lib.hid (fun W => within_any a 0 (baseI P T R + 64 * P - 1) W)
  rw [show inB a 0 (baseI P T R + 64 * P - 1) = true from decide_eq_true (by omega)] at W1
  have TA := Lib.hid (fun W => tables_any P T R W hR)
  have BA := Lib.hid (fun W => base_yes P T R W hR)
  have ht := tab_bd hR
  have hb := base_bd hR
  obtain ⟨e1, e2, e3⟩ := find_2 (P := P) (T := T) (R := R) (a := a) hc hc8
  rw [e1, e2, e3]
  clear e1 e2 e3
  have k1 : IntKind.i64.wrap (a - 8) = a - 8 := wi (by omega)
  have k2 : wrap64 (a - 8) = a - 8 := by unfold wrap64; omega
  generalize tabI T R = y at *
  generalize baseI P T R = z at *
  have hR2 := hR
  obtain ⟨⟨p1, p2⟩, _⟩ := hR2
  have d0 : (a == 0) = false := by simp; omega
  have d7 : (a == 7) = false := by simp; omega
  have X0 := (Blk.new w #[.int .i64 P, .int .i64 T, .int .i64 R] 25).alloc (.cells #[.int .i64 0, .int .i64 0, .int .i64 0] 33)
  have Z0 : Blk ((w.alloc (.cells #[.int .i64 P, .int .i64 T, .int .i64 R] 25)).alloc (.cells #[.int .i64 0, .int .i64 0, .int .i64 0] 33)) (w.heap.size + 1) #[.int .i64 0, .int .i64 0, .int .i64 0] 33 := Blk.new' (by simp)
  have B0 : Below w.heap.size w ((w.alloc (.cells #[.int .i64 P, .int .i64 T, .int .i64 R] 25)).alloc (.cells #[.int .i64 0, .int .i64 0, .int .i64 0] 33)) := ((Below.refl _ _).alloc (Nat.le_refl _) _).alloc (by simp) _
  go_enter Try.func7, Try.ntmps7
  go_wp2_with fail
  refine (V.out _).mono ?_; rintro e w1 ⟨rfl, hb1⟩
  have X1 := X0.grew hb1; have Z1 := Z0.grew hb1; have B1 := B0.trans (hb1.mono B0.size)
  have p10 := X1.val 0 rfl; have p11 := X1.val 1 rfl; have p12 := X1.val 2 rfl
  have f10 := Z1.frozen 0; have f11 := Z1.frozen 1; have f12 := Z1.frozen 2; have z10 := Z1.val 0 rfl; have z11 := Z1.val 1 rfl; have z12 := Z1.val 2 rfl
  go_wp2_with fail
  refine (CE.out _).mono ?_; rintro e w2 ⟨rfl, hb2⟩
  have X2 := X1.grew hb2; have Z2 := Z1.grew hb2; have B2 := B1.trans (hb2.mono B1.size)
  have p20 := X2.val 0 rfl; have p21 := X2.val 1 rfl; have p22 := X2.val 2 rfl
  have f20 := Z2.frozen 0; have f21 := Z2.frozen 1; have f22 := Z2.frozen 2; have z20 := Z2.val 0 rfl; have z21 := Z2.val 1 rfl; have z22 := Z2.val 2 rfl
  go_wp2_with fail
  refine (W1.out _).mono ?_; rintro e w3 ⟨rfl, hb3⟩
  have X3 := X2.grew hb3; have Z3 := Z2.grew hb3; have B3 := B2.trans (hb3.mono B2.size)
  have p30 := X3.val 0 rfl; have p31 := X3.val 1 rfl; have p32 := X3.val 2 rfl
  have f30 := Z3.frozen 0; have f31 := Z3.frozen 1; have f32 := Z3.frozen 2; have z30 := Z3.val 0 rfl; have z31 := Z3.val 1 rfl; have z32 := Z3.val 2 rfl
  go_wp2
  have hlt := Z3.lt
  refine bodyPost_ret (v := .agg #[.int .i64 2, .int .i64 (a - 8), .int .i64 0]) (by simp [results, Try.results7, go_sem, *]) rfl ⟨rfl, ?_⟩
  exact (((B3.setCell (Nat.le_succ _) _).setCell (Nat.le_succ _) _).setCell (Nat.le_succ _) _)
set_option maxHeartbeats 1000000 in
theorem find_t (P T R a : Int) (w : World) (hR : Right P T R) (h0 : 0 ≤ a) (h1 : a < baseI P T R + 64 * P) (hc : 16 ≤ a) (hc8 : a < tabI T R) (hc5 : (a - 16) % (5 + R) < 5) :
    Calls Try.prog 7 #[.agg #[.int .i64 P, .int .i64 T, .int .i64 R], .int .i64 a] w fun e w' => e = .returned (.agg #[.int .i64 (findK P T R a), .int .i64 (findA P T R a), .int .i64 (findB P T R a)]) ∧ Below w.heap.size w w' := by
  have V := Lib.hid (fun W => valid_any P T R W)
  rw [of_right hR] at V
  have CE := Lib.hid (fun W => cells_yes P T R W hR)
  have W1 := Lib.hid (fun W => within_any a 0 (baseI P T R + 64 * P - 1) W)
  rw [show inB a 0 (baseI P T R + 64 * P - 1) = true from decide_eq_true (by omega)] at W1
  have TA := Lib.hid (fun W => tables_any P T R W hR)
  have BA := Lib.hid (fun W => base_yes P T R W hR)
  have ht := tab_bd hR
  have hb := base_bd hR
  obtain ⟨e1, e2, e3⟩ := find_3 (P := P) (T := T) (R := R) (a := a) hc hc8
  have TS := Lib.hid (fun W => threadSpot_a P T R (a - 16) W hR (by omega) (by omega) hc5)
  rw [e1, e2, e3]
  clear e1 e2 e3
  rw [if_pos hc5, if_pos hc5]
  clear hc5
  generalize (a - 16) / (5 + R) = q at *
  generalize (a - 16) % (5 + R) = m at *
  have k1 : IntKind.i64.wrap (a - 16) = a - 16 := wi (by omega)
  have k2 : wrap64 (a - 16) = a - 16 := by unfold wrap64; omega
  generalize tabI T R = y at *
  generalize baseI P T R = z at *
  have hR2 := hR
  obtain ⟨⟨p1, p2⟩, _⟩ := hR2
  have d0 : (a == 0) = false := by simp; omega
  have d7 : (a == 7) = false := by simp; omega
  have X0 := (Blk.new w #[.int .i64 P, .int .i64 T, .int .i64 R] 25).alloc (.cells #[.int .i64 0, .int .i64 0, .int .i64 0] 33)
  have Z0 : Blk ((w.alloc (.cells #[.int .i64 P, .int .i64 T, .int .i64 R] 25)).alloc (.cells #[.int .i64 0, .int .i64 0, .int .i64 0] 33)) (w.heap.size + 1) #[.int .i64 0, .int .i64 0, .int .i64 0] 33 := Blk.new' (by simp)
  have B0 : Below w.heap.size w ((w.alloc (.cells #[.int .i64 P, .int .i64 T, .int .i64 R] 25)).alloc (.cells #[.int .i64 0, .int .i64 0, .int .i64 0] 33)) := ((Below.refl _ _).alloc (Nat.le_refl _) _).alloc (by simp) _
  go_enter Try.func7, Try.ntmps7
  go_wp2_with fail
  refine (V.out _).mono ?_; rintro e w1 ⟨rfl, hb1⟩
  have X1 := X0.grew hb1; have Z1 := Z0.grew hb1; have B1 := B0.trans (hb1.mono B0.size)
  have p10 := X1.val 0 rfl; have p11 := X1.val 1 rfl; have p12 := X1.val 2 rfl
  have f10 := Z1.frozen 0; have f11 := Z1.frozen 1; have f12 := Z1.frozen 2; have z10 := Z1.val 0 rfl; have z11 := Z1.val 1 rfl; have z12 := Z1.val 2 rfl
  go_wp2_with fail
  refine (CE.out _).mono ?_; rintro e w2 ⟨rfl, hb2⟩
  have X2 := X1.grew hb2; have Z2 := Z1.grew hb2; have B2 := B1.trans (hb2.mono B1.size)
  have p20 := X2.val 0 rfl; have p21 := X2.val 1 rfl; have p22 := X2.val 2 rfl
  have f20 := Z2.frozen 0; have f21 := Z2.frozen 1; have f22 := Z2.frozen 2; have z20 := Z2.val 0 rfl; have z21 := Z2.val 1 rfl; have z22 := Z2.val 2 rfl
  go_wp2_with fail
  refine (W1.out _).mono ?_; rintro e w3 ⟨rfl, hb3⟩
  have X3 := X2.grew hb3; have Z3 := Z2.grew hb3; have B3 := B2.trans (hb3.mono B2.size)
  have p30 := X3.val 0 rfl; have p31 := X3.val 1 rfl; have p32 := X3.val 2 rfl
  have f30 := Z3.frozen 0; have f31 := Z3.frozen 1; have f32 := Z3.frozen 2; have z30 := Z3.val 0 rfl; have z31 := Z3.val 1 rfl; have z32 := Z3.val 2 rfl
  go_wp2_with fail
  refine (TA.out _).mono ?_; rintro e w4 ⟨rfl, hb4⟩
  have X4 := X3.grew hb4; have Z4 := Z3.grew hb4; have B4 := B3.trans (hb4.mono B3.size)
  have p40 := X4.val 0 rfl; have p41 := X4.val 1 rfl; have p42 := X4.val 2 rfl
  have f40 := Z4.frozen 0; have f41 := Z4.frozen 1; have f42 := Z4.frozen 2; have z40 := Z4.val 0 rfl; have z41 := Z4.val 1 rfl; have z42 := Z4.val 2 rfl
  go_wp2_with fail
  refine (TS.out _).mono ?_; rintro e w5 ⟨rfl, hb5⟩
  have X5 := X4.grew hb5; have Z5 := Z4.grew hb5; have B5 := B4.trans (hb5.mono B4.size)
  have p50 := X5.val 0 rfl; have p51 := X5.val 1 rfl; have p52 := X5.val 2 rfl
  have f50 := Z5.frozen 0; have f51 := Z5.frozen 1; have f52 := Z5.frozen 2; have z50 := Z5.val 0 rfl; have z51 := Z5.val 1 rfl; have z52 := Z5.val 2 rfl
  go_wp2
  have hlt := Z5.lt
  refine bodyPost_ret (v := .agg #[.int .i64 3, .int .i64 q, .int .i64 m]) (by simp [results, Try.results7, go_sem, *]) rfl ⟨rfl, ?_⟩
  exact (((B5.setCell (Nat.le_succ _) _).setCell (Nat.le_succ _) _).setCell (Nat.le_succ _) _)
set_option maxHeartbeats 1000000 in
theorem find_l (P T R a : Int) (w : World) (hR : Right P T R) (h0 : 0 ≤ a) (h1 : a < baseI P T R + 64 * P) (hc : 16 ≤ a) (hc8 : a < tabI T R) (hc5 : 5 ≤ (a - 16) % (5 + R)) :
    Calls Try.prog 7 #[.agg #[.int .i64 P, .int .i64 T, .int .i64 R], .int .i64 a] w fun e w' => e = .returned (.agg #[.int .i64 (findK P T R a), .int .i64 (findA P T R a), .int .i64 (findB P T R a)]) ∧ Below w.heap.size w w' := by
  have V := Lib.hid (fun W => valid_any P T R W)
  rw [of_right hR] at V
  have CE := Lib.hid (fun W => cells_yes P T R W hR)
  have W1 := Lib.hid (fun W => within_any a 0 (baseI P T R + 64 * P - 1) W)
  rw [show inB a 0 (baseI P T R + 64 * P - 1) = true from decide_eq_true (by omega)] at W1
  have TA := Lib.hid (fun W => tables_any P T R W hR)
  have BA := Lib.hid (fun W => base_yes P T R W hR)
  have ht := tab_bd hR
  have hb := base_bd hR
  obtain ⟨e1, e2, e3⟩ := find_3 (P := P) (T := T) (R := R) (a := a) hc hc8
  have TS := Lib.hid (fun W => threadSpot_b P T R (a - 16) W hR (by omega) (by omega) hc5)
  rw [e1, e2, e3]
  clear e1 e2 e3
  rw [if_neg (by omega), if_neg (by omega)]
  clear hc5
  generalize (a - 16) / (5 + R) = q at *
  generalize (a - 16) % (5 + R) = m at *
  have k1 : IntKind.i64.wrap (a - 16) = a - 16 := wi (by omega)
  have k2 : wrap64 (a - 16) = a - 16 := by unfold wrap64; omega
  generalize tabI T R = y at *
  generalize baseI P T R = z at *
  have hR2 := hR
  obtain ⟨⟨p1, p2⟩, _⟩ := hR2
  have d0 : (a == 0) = false := by simp; omega
  have d7 : (a == 7) = false := by simp; omega
  have X0 := (Blk.new w #[.int .i64 P, .int .i64 T, .int .i64 R] 25).alloc (.cells #[.int .i64 0, .int .i64 0, .int .i64 0] 33)
  have Z0 : Blk ((w.alloc (.cells #[.int .i64 P, .int .i64 T, .int .i64 R] 25)).alloc (.cells #[.int .i64 0, .int .i64 0, .int .i64 0] 33)) (w.heap.size + 1) #[.int .i64 0, .int .i64 0, .int .i64 0] 33 := Blk.new' (by simp)
  have B0 : Below w.heap.size w ((w.alloc (.cells #[.int .i64 P, .int .i64 T, .int .i64 R] 25)).alloc (.cells #[.int .i64 0, .int .i64 0, .int .i64 0] 33)) := ((Below.refl _ _).alloc (Nat.le_refl _) _).alloc (by simp) _
  go_enter Try.func7, Try.ntmps7
  go_wp2_with fail
  refine (V.out _).mono ?_; rintro e w1 ⟨rfl, hb1⟩
  have X1 := X0.grew hb1; have Z1 := Z0.grew hb1; have B1 := B0.trans (hb1.mono B0.size)
  have p10 := X1.val 0 rfl; have p11 := X1.val 1 rfl; have p12 := X1.val 2 rfl
  have f10 := Z1.frozen 0; have f11 := Z1.frozen 1; have f12 := Z1.frozen 2; have z10 := Z1.val 0 rfl; have z11 := Z1.val 1 rfl; have z12 := Z1.val 2 rfl
  go_wp2_with fail
  refine (CE.out _).mono ?_; rintro e w2 ⟨rfl, hb2⟩
  have X2 := X1.grew hb2; have Z2 := Z1.grew hb2; have B2 := B1.trans (hb2.mono B1.size)
  have p20 := X2.val 0 rfl; have p21 := X2.val 1 rfl; have p22 := X2.val 2 rfl
  have f20 := Z2.frozen 0; have f21 := Z2.frozen 1; have f22 := Z2.frozen 2; have z20 := Z2.val 0 rfl; have z21 := Z2.val 1 rfl; have z22 := Z2.val 2 rfl
  go_wp2_with fail
  refine (W1.out _).mono ?_; rintro e w3 ⟨rfl, hb3⟩
  have X3 := X2.grew hb3; have Z3 := Z2.grew hb3; have B3 := B2.trans (hb3.mono B2.size)
  have p30 := X3.val 0 rfl; have p31 := X3.val 1 rfl; have p32 := X3.val 2 rfl
  have f30 := Z3.frozen 0; have f31 := Z3.frozen 1; have f32 := Z3.frozen 2; have z30 := Z3.val 0 rfl; have z31 := Z3.val 1 rfl; have z32 := Z3.val 2 rfl
  go_wp2_with fail
  refine (TA.out _).mono ?_; rintro e w4 ⟨rfl, hb4⟩
  have X4 := X3.grew hb4; have Z4 := Z3.grew hb4; have B4 := B3.trans (hb4.mono B3.size)
  have p40 := X4.val 0 rfl; have p41 := X4.val 1 rfl; have p42 := X4.val 2 rfl
  have f40 := Z4.frozen 0; have f41 := Z4.frozen 1; have f42 := Z4.frozen 2; have z40 := Z4.val 0 rfl; have z41 := Z4.val 1 rfl; have z42 := Z4.val 2 rfl
  go_wp2_with fail
  refine (TS.out _).mono ?_; rintro e w5 ⟨rfl, hb5⟩
  have X5 := X4.grew hb5; have Z5 := Z4.grew hb5; have B5 := B4.trans (hb5.mono B4.size)
  have p50 := X5.val 0 rfl; have p51 := X5.val 1 rfl; have p52 := X5.val 2 rfl
  have f50 := Z5.frozen 0; have f51 := Z5.frozen 1; have f52 := Z5.frozen 2; have z50 := Z5.val 0 rfl; have z51 := Z5.val 1 rfl; have z52 := Z5.val 2 rfl
  go_wp2
  have hlt := Z5.lt
  refine bodyPost_ret (v := .agg #[.int .i64 4, .int .i64 q, .int .i64 (m - 5)]) (by simp [results, Try.results7, go_sem, *]) rfl ⟨rfl, ?_⟩
  exact (((B5.setCell (Nat.le_succ _) _).setCell (Nat.le_succ _) _).setCell (Nat.le_succ _) _)
set_option maxHeartbeats 1000000 in
theorem find_p0 (P T R a : Int) (w : World) (hR : Right P T R) (h0 : 0 ≤ a) (h1 : a < baseI P T R + 64 * P) (hc : 16 ≤ a) (hc8 : tabI T R ≤ a) (hcb : a < baseI P T R) (hc5 : (a - tabI T R) / P = 0) :
    Calls Try.prog 7 #[.agg #[.int .i64 P, .int .i64 T, .int .i64 R], .int .i64 a] w fun e w' => e = .returned (.agg #[.int .i64 (findK P T R a), .int .i64 (findA P T R a), .int .i64 (findB P T R a)]) ∧ Below w.heap.size w w' := by
  have V := Lib.hid (fun W => valid_any P T R W)
  rw [of_right hR] at V
  have CE := Lib.hid (fun W => cells_yes P T R W hR)
  have W1 := Lib.hid (fun W => within_any a 0 (baseI P T R + 64 * P - 1) W)
  rw [show inB a 0 (baseI P T R + 64 * P - 1) = true from decide_eq_true (by omega)] at W1
  have TA := Lib.hid (fun W => tables_any P T R W hR)
  have BA := Lib.hid (fun W => base_yes P T R W hR)
  have ht := tab_bd hR
  have hb := base_bd hR
  obtain ⟨e1, e2, e3⟩ := find_5 (P := P) (T := T) (R := R) (a := a) hc hc8 hcb
  have US := Lib.hid (fun W => tableSpot_0 P T R (a - tabI T R) W hR (by omega) (by omega) hc5)
  rw [hc5] at e1 e2
  rw [e1, e2, e3]
  clear e1 e2 e3 hc5
  rw [if_neg (by omega), if_neg (by omega)]
  rw [show (5 + 0 : Int) = 5 from rfl]
  generalize (a - tabI T R) % P = m at *
  have k1 : IntKind.i64.wrap (a - tabI T R) = a - tabI T R := wi (by omega)
  have k2 : wrap64 (a - tabI T R) = a - tabI T R := by unfold wrap64; omega
  generalize tabI T R = y at *
  generalize baseI P T R = z at *
  have hR2 := hR
  obtain ⟨⟨p1, p2⟩, _⟩ := hR2
  have d0 : (a == 0) = false := by simp; omega
  have d7 : (a == 7) = false := by simp; omega
  have X0 := (Blk.new w #[.int .i64 P, .int .i64 T, .int .i64 R] 25).alloc (.cells #[.int .i64 0, .int .i64 0, .int .i64 0] 33)
  have Z0 : Blk ((w.alloc (.cells #[.int .i64 P, .int .i64 T, .int .i64 R] 25)).alloc (.cells #[.int .i64 0, .int .i64 0, .int .i64 0] 33)) (w.heap.size + 1) #[.int .i64 0, .int .i64 0, .int .i64 0] 33 := Blk.new' (by simp)
  have B0 : Below w.heap.size w ((w.alloc (.cells #[.int .i64 P, .int .i64 T, .int .i64 R] 25)).alloc (.cells #[.int .i64 0, .int .i64 0, .int .i64 0] 33)) := ((Below.refl _ _).alloc (Nat.le_refl _) _).alloc (by simp) _
  go_enter Try.func7, Try.ntmps7
  go_wp2_with fail
  refine (V.out _).mono ?_; rintro e w1 ⟨rfl, hb1⟩
  have X1 := X0.grew hb1; have Z1 := Z0.grew hb1; have B1 := B0.trans (hb1.mono B0.size)
  have p10 := X1.val 0 rfl; have p11 := X1.val 1 rfl; have p12 := X1.val 2 rfl
  have f10 := Z1.frozen 0; have f11 := Z1.frozen 1; have f12 := Z1.frozen 2; have z10 := Z1.val 0 rfl; have z11 := Z1.val 1 rfl; have z12 := Z1.val 2 rfl
  go_wp2_with fail
  refine (CE.out _).mono ?_; rintro e w2 ⟨rfl, hb2⟩
  have X2 := X1.grew hb2; have Z2 := Z1.grew hb2; have B2 := B1.trans (hb2.mono B1.size)
  have p20 := X2.val 0 rfl; have p21 := X2.val 1 rfl; have p22 := X2.val 2 rfl
  have f20 := Z2.frozen 0; have f21 := Z2.frozen 1; have f22 := Z2.frozen 2; have z20 := Z2.val 0 rfl; have z21 := Z2.val 1 rfl; have z22 := Z2.val 2 rfl
  go_wp2_with fail
  refine (W1.out _).mono ?_; rintro e w3 ⟨rfl, hb3⟩
  have X3 := X2.grew hb3; have Z3 := Z2.grew hb3; have B3 := B2.trans (hb3.mono B2.size)
  have p30 := X3.val 0 rfl; have p31 := X3.val 1 rfl; have p32 := X3.val 2 rfl
  have f30 := Z3.frozen 0; have f31 := Z3.frozen 1; have f32 := Z3.frozen 2; have z30 := Z3.val 0 rfl; have z31 := Z3.val 1 rfl; have z32 := Z3.val 2 rfl
  go_wp2_with fail
  refine (TA.out _).mono ?_; rintro e w4 ⟨rfl, hb4⟩
  have X4 := X3.grew hb4; have Z4 := Z3.grew hb4; have B4 := B3.trans (hb4.mono B3.size)
  have p40 := X4.val 0 rfl; have p41 := X4.val 1 rfl; have p42 := X4.val 2 rfl
  have f40 := Z4.frozen 0; have f41 := Z4.frozen 1; have f42 := Z4.frozen 2; have z40 := Z4.val 0 rfl; have z41 := Z4.val 1 rfl; have z42 := Z4.val 2 rfl
  go_wp2_with fail
  refine (BA.out _).mono ?_; rintro e w5 ⟨rfl, hb5⟩
  have X5 := X4.grew hb5; have Z5 := Z4.grew hb5; have B5 := B4.trans (hb5.mono B4.size)
  have p50 := X5.val 0 rfl; have p51 := X5.val 1 rfl; have p52 := X5.val 2 rfl
  have f50 := Z5.frozen 0; have f51 := Z5.frozen 1; have f52 := Z5.frozen 2; have z50 := Z5.val 0 rfl; have z51 := Z5.val 1 rfl; have z52 := Z5.val 2 rfl
  go_wp2_with fail
  go_region_held3 (fun w' => (w'.cell? ⟨w.heap.size, 0, none⟩ = some (.int .i64 P) ∧ w'.cell? ⟨w.heap.size, 1, none⟩ = some (.int .i64 T) ∧ w'.cell? ⟨w.heap.size, 2, none⟩ = some (.int .i64 R)) ∧ RestG w w' P T R 25 33)
    (first | exact startG ⟨X5, ⟨_, _, _, Z5⟩, B5⟩ | exact startG ⟨X5, ⟨_, _, _, Z5⟩, B5.drew⟩ | exact keepG (by assumption) hbk | exact storeG _ _ _ (by assumption) | exact storeG _ _ _ (keepG (by assumption) hbk))
    (first | (go_at_call 22; refine (TA.out _).mono ?_; rintro e w9 ⟨rfl, hbk⟩) | (go_at_call 24; refine (US.out _).mono ?_; rintro e w9 ⟨rfl, hbk⟩; obtain ⟨u, v, x, hZ⟩ := resG (keepG (by assumption) hbk); have hlt := hZ.lt; have f0 := hZ.frozen 0; have f1 := hZ.frozen 1; have f2 := hZ.frozen 2; have z0 := hZ.val 0 rfl; have z1 := hZ.val 1 rfl; have z2 := hZ.val 2 rfl))
  go_wp2
  refine bodyPost_ret (v := .agg #[.int .i64 5, .int .i64 m, .int .i64 0]) (by simp [results, Try.results7, go_sem, hlt, f0, f1, f2, z0, z1, z2]) rfl ⟨rfl, belowG (P := P) (T := T) (R := R) (tp := 25) (tz := 33) (by assumption)⟩
set_option maxHeartbeats 1000000 in
theorem find_p1 (P T R a : Int) (w : World) (hR : Right P T R) (h0 : 0 ≤ a) (h1 : a < baseI P T R + 64 * P) (hc : 16 ≤ a) (hc8 : tabI T R ≤ a) (hcb : a < baseI P T R) (hc5 : (a - tabI T R) / P = 1) :
    Calls Try.prog 7 #[.agg #[.int .i64 P, .int .i64 T, .int .i64 R], .int .i64 a] w fun e w' => e = .returned (.agg #[.int .i64 (findK P T R a), .int .i64 (findA P T R a), .int .i64 (findB P T R a)]) ∧ Below w.heap.size w w' := by
  have V := Lib.hid (fun W => valid_any P T R W)
  rw [of_right hR] at V
  have CE := Lib.hid (fun W => cells_yes P T R W hR)
  have W1 := Lib.hid (fun W => within_any a 0 (baseI P T R + 64 * P - 1) W)
  rw [show inB a 0 (baseI P T R + 64 * P - 1) = true from decide_eq_true (by omega)] at W1
  have TA := Lib.hid (fun W => tables_any P T R W hR)
  have BA := Lib.hid (fun W => base_yes P T R W hR)
  have ht := tab_bd hR
  have hb := base_bd hR
  obtain ⟨e1, e2, e3⟩ := find_5 (P := P) (T := T) (R := R) (a := a) hc hc8 hcb
  have US := Lib.hid (fun W => tableSpot_1 P T R (a - tabI T R) W hR (by omega) (by omega) hc5)
  rw [hc5] at e1 e2
  rw [e1, e2, e3]
  clear e1 e2 e3 hc5
  rw [if_neg (by omega), if_neg (by omega)]
  rw [show (5 + 1 : Int) = 6 from rfl]
  generalize (a - tabI T R) % P = m at *
  have k1 : IntKind.i64.wrap (a - tabI T R) = a - tabI T R := wi (by omega)
  have k2 : wrap64 (a - tabI T R) = a - tabI T R := by unfold wrap64; omega
  generalize tabI T R = y at *
  generalize baseI P T R = z at *
  have hR2 := hR
  obtain ⟨⟨p1, p2⟩, _⟩ := hR2
  have d0 : (a == 0) = false := by simp; omega
  have d7 : (a == 7) = false := by simp; omega
  have X0 := (Blk.new w #[.int .i64 P, .int .i64 T, .int .i64 R] 25).alloc (.cells #[.int .i64 0, .int .i64 0, .int .i64 0] 33)
  have Z0 : Blk ((w.alloc (.cells #[.int .i64 P, .int .i64 T, .int .i64 R] 25)).alloc (.cells #[.int .i64 0, .int .i64 0, .int .i64 0] 33)) (w.heap.size + 1) #[.int .i64 0, .int .i64 0, .int .i64 0] 33 := Blk.new' (by simp)
  have B0 : Below w.heap.size w ((w.alloc (.cells #[.int .i64 P, .int .i64 T, .int .i64 R] 25)).alloc (.cells #[.int .i64 0, .int .i64 0, .int .i64 0] 33)) := ((Below.refl _ _).alloc (Nat.le_refl _) _).alloc (by simp) _
  go_enter Try.func7, Try.ntmps7
  go_wp2_with fail
  refine (V.out _).mono ?_; rintro e w1 ⟨rfl, hb1⟩
  have X1 := X0.grew hb1; have Z1 := Z0.grew hb1; have B1 := B0.trans (hb1.mono B0.size)
  have p10 := X1.val 0 rfl; have p11 := X1.val 1 rfl; have p12 := X1.val 2 rfl
  have f10 := Z1.frozen 0; have f11 := Z1.frozen 1; have f12 := Z1.frozen 2; have z10 := Z1.val 0 rfl; have z11 := Z1.val 1 rfl; have z12 := Z1.val 2 rfl
  go_wp2_with fail
  refine (CE.out _).mono ?_; rintro e w2 ⟨rfl, hb2⟩
  have X2 := X1.grew hb2; have Z2 := Z1.grew hb2; have B2 := B1.trans (hb2.mono B1.size)
  have p20 := X2.val 0 rfl; have p21 := X2.val 1 rfl; have p22 := X2.val 2 rfl
  have f20 := Z2.frozen 0; have f21 := Z2.frozen 1; have f22 := Z2.frozen 2; have z20 := Z2.val 0 rfl; have z21 := Z2.val 1 rfl; have z22 := Z2.val 2 rfl
  go_wp2_with fail
  refine (W1.out _).mono ?_; rintro e w3 ⟨rfl, hb3⟩
  have X3 := X2.grew hb3; have Z3 := Z2.grew hb3; have B3 := B2.trans (hb3.mono B2.size)
  have p30 := X3.val 0 rfl; have p31 := X3.val 1 rfl; have p32 := X3.val 2 rfl
  have f30 := Z3.frozen 0; have f31 := Z3.frozen 1; have f32 := Z3.frozen 2; have z30 := Z3.val 0 rfl; have z31 := Z3.val 1 rfl; have z32 := Z3.val 2 rfl
  go_wp2_with fail
  refine (TA.out _).mono ?_; rintro e w4 ⟨rfl, hb4⟩
  have X4 := X3.grew hb4; have Z4 := Z3.grew hb4; have B4 := B3.trans (hb4.mono B3.size)
  have p40 := X4.val 0 rfl; have p41 := X4.val 1 rfl; have p42 := X4.val 2 rfl
  have f40 := Z4.frozen 0; have f41 := Z4.frozen 1; have f42 := Z4.frozen 2; have z40 := Z4.val 0 rfl; have z41 := Z4.val 1 rfl; have z42 := Z4.val 2 rfl
  go_wp2_with fail
  refine (BA.out _).mono ?_; rintro e w5 ⟨rfl, hb5⟩
  have X5 := X4.grew hb5; have Z5 := Z4.grew hb5; have B5 := B4.trans (hb5.mono B4.size)
  have p50 := X5.val 0 rfl; have p51 := X5.val 1 rfl; have p52 := X5.val 2 rfl
  have f50 := Z5.frozen 0; have f51 := Z5.frozen 1; have f52 := Z5.frozen 2; have z50 := Z5.val 0 rfl; have z51 := Z5.val 1 rfl; have z52 := Z5.val 2 rfl
  go_wp2_with fail
  go_region_held3 (fun w' => (w'.cell? ⟨w.heap.size, 0, none⟩ = some (.int .i64 P) ∧ w'.cell? ⟨w.heap.size, 1, none⟩ = some (.int .i64 T) ∧ w'.cell? ⟨w.heap.size, 2, none⟩ = some (.int .i64 R)) ∧ RestG w w' P T R 25 33)
    (first | exact startG ⟨X5, ⟨_, _, _, Z5⟩, B5⟩ | exact startG ⟨X5, ⟨_, _, _, Z5⟩, B5.drew⟩ | exact keepG (by assumption) hbk | exact storeG _ _ _ (by assumption) | exact storeG _ _ _ (keepG (by assumption) hbk))
    (first | (go_at_call 22; refine (TA.out _).mono ?_; rintro e w9 ⟨rfl, hbk⟩) | (go_at_call 24; refine (US.out _).mono ?_; rintro e w9 ⟨rfl, hbk⟩; obtain ⟨u, v, x, hZ⟩ := resG (keepG (by assumption) hbk); have hlt := hZ.lt; have f0 := hZ.frozen 0; have f1 := hZ.frozen 1; have f2 := hZ.frozen 2; have z0 := hZ.val 0 rfl; have z1 := hZ.val 1 rfl; have z2 := hZ.val 2 rfl))
  go_wp2
  refine bodyPost_ret (v := .agg #[.int .i64 6, .int .i64 m, .int .i64 0]) (by simp [results, Try.results7, go_sem, hlt, f0, f1, f2, z0, z1, z2]) rfl ⟨rfl, belowG (P := P) (T := T) (R := R) (tp := 25) (tz := 33) (by assumption)⟩
set_option maxHeartbeats 1000000 in
theorem find_p2 (P T R a : Int) (w : World) (hR : Right P T R) (h0 : 0 ≤ a) (h1 : a < baseI P T R + 64 * P) (hc : 16 ≤ a) (hc8 : tabI T R ≤ a) (hcb : a < baseI P T R) (hc5 : (a - tabI T R) / P = 2) :
    Calls Try.prog 7 #[.agg #[.int .i64 P, .int .i64 T, .int .i64 R], .int .i64 a] w fun e w' => e = .returned (.agg #[.int .i64 (findK P T R a), .int .i64 (findA P T R a), .int .i64 (findB P T R a)]) ∧ Below w.heap.size w w' := by
  have V := Lib.hid (fun W => valid_any P T R W)
  rw [of_right hR] at V
  have CE := Lib.hid (fun W => cells_yes P T R W hR)
  have W1 := Lib.hid (fun W => within_any a 0 (baseI P T R + 64 * P - 1) W)
  rw [show inB a 0 (baseI P T R + 64 * P - 1) = true from decide_eq_true (by omega)] at W1
  have TA := Lib.hid (fun W => tables_any P T R W hR)
  have BA := Lib.hid (fun W => base_yes P T R W hR)
  have ht := tab_bd hR
  have hb := base_bd hR
  obtain ⟨e1, e2, e3⟩ := find_5 (P := P) (T := T) (R := R) (a := a) hc hc8 hcb
  have US := Lib.hid (fun W => tableSpot_2 P T R (a - tabI T R) W hR (by omega) (by omega) hc5)
  rw [hc5] at e1 e2
  rw [e1, e2, e3]
  clear e1 e2 e3 hc5
  rw [if_neg (by omega), if_neg (by omega)]
  rw [show (5 + 2 : Int) = 7 from rfl]
  generalize (a - tabI T R) % P = m at *
  have k1 : IntKind.i64.wrap (a - tabI T R) = a - tabI T R := wi (by omega)
  have k2 : wrap64 (a - tabI T R) = a - tabI T R := by unfold wrap64; omega
  generalize tabI T R = y at *
  generalize baseI P T R = z at *
  have hR2 := hR
  obtain ⟨⟨p1, p2⟩, _⟩ := hR2
  have d0 : (a == 0) = false := by simp; omega
  have d7 : (a == 7) = false := by simp; omega
  have X0 := (Blk.new w #[.int .i64 P, .int .i64 T, .int .i64 R] 25).alloc (.cells #[.int .i64 0, .int .i64 0, .int .i64 0] 33)
  have Z0 : Blk ((w.alloc (.cells #[.int .i64 P, .int .i64 T, .int .i64 R] 25)).alloc (.cells #[.int .i64 0, .int .i64 0, .int .i64 0] 33)) (w.heap.size + 1) #[.int .i64 0, .int .i64 0, .int .i64 0] 33 := Blk.new' (by simp)
  have B0 : Below w.heap.size w ((w.alloc (.cells #[.int .i64 P, .int .i64 T, .int .i64 R] 25)).alloc (.cells #[.int .i64 0, .int .i64 0, .int .i64 0] 33)) := ((Below.refl _ _).alloc (Nat.le_refl _) _).alloc (by simp) _
  go_enter Try.func7, Try.ntmps7
  go_wp2_with fail
  refine (V.out _).mono ?_; rintro e w1 ⟨rfl, hb1⟩
  have X1 := X0.grew hb1; have Z1 := Z0.grew hb1; have B1 := B0.trans (hb1.mono B0.size)
  have p10 := X1.val 0 rfl; have p11 := X1.val 1 rfl; have p12 := X1.val 2 rfl
  have f10 := Z1.frozen 0; have f11 := Z1.frozen 1; have f12 := Z1.frozen 2; have z10 := Z1.val 0 rfl; have z11 := Z1.val 1 rfl; have z12 := Z1.val 2 rfl
  go_wp2_with fail
  refine (CE.out _).mono ?_; rintro e w2 ⟨rfl, hb2⟩
  have X2 := X1.grew hb2; have Z2 := Z1.grew hb2; have B2 := B1.trans (hb2.mono B1.size)
  have p20 := X2.val 0 rfl; have p21 := X2.val 1 rfl; have p22 := X2.val 2 rfl
  have f20 := Z2.frozen 0; have f21 := Z2.frozen 1; have f22 := Z2.frozen 2; have z20 := Z2.val 0 rfl; have z21 := Z2.val 1 rfl; have z22 := Z2.val 2 rfl
  go_wp2_with fail
  refine (W1.out _).mono ?_; rintro e w3 ⟨rfl, hb3⟩
  have X3 := X2.grew hb3; have Z3 := Z2.grew hb3; have B3 := B2.trans (hb3.mono B2.size)
  have p30 := X3.val 0 rfl; have p31 := X3.val 1 rfl; have p32 := X3.val 2 rfl
  have f30 := Z3.frozen 0; have f31 := Z3.frozen 1; have f32 := Z3.frozen 2; have z30 := Z3.val 0 rfl; have z31 := Z3.val 1 rfl; have z32 := Z3.val 2 rfl
  go_wp2_with fail
  refine (TA.out _).mono ?_; rintro e w4 ⟨rfl, hb4⟩
  have X4 := X3.grew hb4; have Z4 := Z3.grew hb4; have B4 := B3.trans (hb4.mono B3.size)
  have p40 := X4.val 0 rfl; have p41 := X4.val 1 rfl; have p42 := X4.val 2 rfl
  have f40 := Z4.frozen 0; have f41 := Z4.frozen 1; have f42 := Z4.frozen 2; have z40 := Z4.val 0 rfl; have z41 := Z4.val 1 rfl; have z42 := Z4.val 2 rfl
  go_wp2_with fail
  refine (BA.out _).mono ?_; rintro e w5 ⟨rfl, hb5⟩
  have X5 := X4.grew hb5; have Z5 := Z4.grew hb5; have B5 := B4.trans (hb5.mono B4.size)
  have p50 := X5.val 0 rfl; have p51 := X5.val 1 rfl; have p52 := X5.val 2 rfl
  have f50 := Z5.frozen 0; have f51 := Z5.frozen 1; have f52 := Z5.frozen 2; have z50 := Z5.val 0 rfl; have z51 := Z5.val 1 rfl; have z52 := Z5.val 2 rfl
  go_wp2_with fail
  go_region_held3 (fun w' => (w'.cell? ⟨w.heap.size, 0, none⟩ = some (.int .i64 P) ∧ w'.cell? ⟨w.heap.size, 1, none⟩ = some (.int .i64 T) ∧ w'.cell? ⟨w.heap.size, 2, none⟩ = some (.int .i64 R)) ∧ RestG w w' P T R 25 33)
    (first | exact startG ⟨X5, ⟨_, _, _, Z5⟩, B5⟩ | exact startG ⟨X5, ⟨_, _, _, Z5⟩, B5.drew⟩ | exact keepG (by assumption) hbk | exact storeG _ _ _ (by assumption) | exact storeG _ _ _ (keepG (by assumption) hbk))
    (first | (go_at_call 22; refine (TA.out _).mono ?_; rintro e w9 ⟨rfl, hbk⟩) | (go_at_call 24; refine (US.out _).mono ?_; rintro e w9 ⟨rfl, hbk⟩; obtain ⟨u, v, x, hZ⟩ := resG (keepG (by assumption) hbk); have hlt := hZ.lt; have f0 := hZ.frozen 0; have f1 := hZ.frozen 1; have f2 := hZ.frozen 2; have z0 := hZ.val 0 rfl; have z1 := hZ.val 1 rfl; have z2 := hZ.val 2 rfl))
  go_wp2
  refine bodyPost_ret (v := .agg #[.int .i64 7, .int .i64 m, .int .i64 0]) (by simp [results, Try.results7, go_sem, hlt, f0, f1, f2, z0, z1, z2]) rfl ⟨rfl, belowG (P := P) (T := T) (R := R) (tp := 25) (tz := 33) (by assumption)⟩
set_option maxHeartbeats 1000000 in
theorem find_p3 (P T R a : Int) (w : World) (hR : Right P T R) (h0 : 0 ≤ a) (h1 : a < baseI P T R + 64 * P) (hc : 16 ≤ a) (hc8 : tabI T R ≤ a) (hcb : a < baseI P T R) (hc5 : 3 ≤ (a - tabI T R) / P) :
    Calls Try.prog 7 #[.agg #[.int .i64 P, .int .i64 T, .int .i64 R], .int .i64 a] w fun e w' => e = .returned (.agg #[.int .i64 (findK P T R a), .int .i64 (findA P T R a), .int .i64 (findB P T R a)]) ∧ Below w.heap.size w w' := by
  have V := Lib.hid (fun W => valid_any P T R W)
  rw [of_right hR] at V
  have CE := Lib.hid (fun W => cells_yes P T R W hR)
  have W1 := Lib.hid (fun W => within_any a 0 (baseI P T R + 64 * P - 1) W)
  rw [show inB a 0 (baseI P T R + 64 * P - 1) = true from decide_eq_true (by omega)] at W1
  have TA := Lib.hid (fun W => tables_any P T R W hR)
  have BA := Lib.hid (fun W => base_yes P T R W hR)
  have ht := tab_bd hR
  have hb := base_bd hR
  obtain ⟨e1, e2, e3⟩ := find_5 (P := P) (T := T) (R := R) (a := a) hc hc8 hcb
  have US := Lib.hid (fun W => tableSpot_3 P T R (a - tabI T R) W hR (by omega) (by omega) hc5)
  rw [if_pos hc5] at e1 e2
  rw [e1, e2, e3]
  clear e1 e2 e3 hc5
  
  
  
  have k1 : IntKind.i64.wrap (a - tabI T R) = a - tabI T R := wi (by omega)
  have k2 : wrap64 (a - tabI T R) = a - tabI T R := by unfold wrap64; omega
  generalize tabI T R = y at *
  generalize baseI P T R = z at *
  have hR2 := hR
  obtain ⟨⟨p1, p2⟩, _⟩ := hR2
  have d0 : (a == 0) = false := by simp; omega
  have d7 : (a == 7) = false := by simp; omega
  have X0 := (Blk.new w #[.int .i64 P, .int .i64 T, .int .i64 R] 25).alloc (.cells #[.int .i64 0, .int .i64 0, .int .i64 0] 33)
  have Z0 : Blk ((w.alloc (.cells #[.int .i64 P, .int .i64 T, .int .i64 R] 25)).alloc (.cells #[.int .i64 0, .int .i64 0, .int .i64 0] 33)) (w.heap.size + 1) #[.int .i64 0, .int .i64 0, .int .i64 0] 33 := Blk.new' (by simp)
  have B0 : Below w.heap.size w ((w.alloc (.cells #[.int .i64 P, .int .i64 T, .int .i64 R] 25)).alloc (.cells #[.int .i64 0, .int .i64 0, .int .i64 0] 33)) := ((Below.refl _ _).alloc (Nat.le_refl _) _).alloc (by simp) _
  go_enter Try.func7, Try.ntmps7
  go_wp2_with fail
  refine (V.out _).mono ?_; rintro e w1 ⟨rfl, hb1⟩
  have X1 := X0.grew hb1; have Z1 := Z0.grew hb1; have B1 := B0.trans (hb1.mono B0.size)
  have p10 := X1.val 0 rfl; have p11 := X1.val 1 rfl; have p12 := X1.val 2 rfl
  have f10 := Z1.frozen 0; have f11 := Z1.frozen 1; have f12 := Z1.frozen 2; have z10 := Z1.val 0 rfl; have z11 := Z1.val 1 rfl; have z12 := Z1.val 2 rfl
  go_wp2_with fail
  refine (CE.out _).mono ?_; rintro e w2 ⟨rfl, hb2⟩
  have X2 := X1.grew hb2; have Z2 := Z1.grew hb2; have B2 := B1.trans (hb2.mono B1.size)
  have p20 := X2.val 0 rfl; have p21 := X2.val 1 rfl; have p22 := X2.val 2 rfl
  have f20 := Z2.frozen 0; have f21 := Z2.frozen 1; have f22 := Z2.frozen 2; have z20 := Z2.val 0 rfl; have z21 := Z2.val 1 rfl; have z22 := Z2.val 2 rfl
  go_wp2_with fail
  refine (W1.out _).mono ?_; rintro e w3 ⟨rfl, hb3⟩
  have X3 := X2.grew hb3; have Z3 := Z2.grew hb3; have B3 := B2.trans (hb3.mono B2.size)
  have p30 := X3.val 0 rfl; have p31 := X3.val 1 rfl; have p32 := X3.val 2 rfl
  have f30 := Z3.frozen 0; have f31 := Z3.frozen 1; have f32 := Z3.frozen 2; have z30 := Z3.val 0 rfl; have z31 := Z3.val 1 rfl; have z32 := Z3.val 2 rfl
  go_wp2_with fail
  refine (TA.out _).mono ?_; rintro e w4 ⟨rfl, hb4⟩
  have X4 := X3.grew hb4; have Z4 := Z3.grew hb4; have B4 := B3.trans (hb4.mono B3.size)
  have p40 := X4.val 0 rfl; have p41 := X4.val 1 rfl; have p42 := X4.val 2 rfl
  have f40 := Z4.frozen 0; have f41 := Z4.frozen 1; have f42 := Z4.frozen 2; have z40 := Z4.val 0 rfl; have z41 := Z4.val 1 rfl; have z42 := Z4.val 2 rfl
  go_wp2_with fail
  refine (BA.out _).mono ?_; rintro e w5 ⟨rfl, hb5⟩
  have X5 := X4.grew hb5; have Z5 := Z4.grew hb5; have B5 := B4.trans (hb5.mono B4.size)
  have p50 := X5.val 0 rfl; have p51 := X5.val 1 rfl; have p52 := X5.val 2 rfl
  have f50 := Z5.frozen 0; have f51 := Z5.frozen 1; have f52 := Z5.frozen 2; have z50 := Z5.val 0 rfl; have z51 := Z5.val 1 rfl; have z52 := Z5.val 2 rfl
  go_wp2_with fail
  go_region_held3 (fun w' => (w'.cell? ⟨w.heap.size, 0, none⟩ = some (.int .i64 P) ∧ w'.cell? ⟨w.heap.size, 1, none⟩ = some (.int .i64 T) ∧ w'.cell? ⟨w.heap.size, 2, none⟩ = some (.int .i64 R)) ∧ RestG w w' P T R 25 33)
    (first | exact startG ⟨X5, ⟨_, _, _, Z5⟩, B5⟩ | exact startG ⟨X5, ⟨_, _, _, Z5⟩, B5.drew⟩ | exact keepG (by assumption) hbk | exact storeG _ _ _ (by assumption) | exact storeG _ _ _ (keepG (by assumption) hbk))
    (first | (go_at_call 22; refine (TA.out _).mono ?_; rintro e w9 ⟨rfl, hbk⟩) | (go_at_call 24; refine (US.out _).mono ?_; rintro e w9 ⟨rfl, hbk⟩; obtain ⟨u, v, x, hZ⟩ := resG (keepG (by assumption) hbk); have hlt := hZ.lt; have f0 := hZ.frozen 0; have f1 := hZ.frozen 1; have f2 := hZ.frozen 2; have z0 := hZ.val 0 rfl; have z1 := hZ.val 1 rfl; have z2 := hZ.val 2 rfl))
  go_wp2
  refine bodyPost_ret (v := .agg #[.int .i64 0, .int .i64 0, .int .i64 0]) (by simp [results, Try.results7, go_sem, hlt, f0, f1, f2, z0, z1, z2]) rfl ⟨rfl, belowG (P := P) (T := T) (R := R) (tp := 25) (tz := 33) (by assumption)⟩
set_option maxHeartbeats 1000000 in
theorem find_h (P T R a : Int) (w : World) (hR : Right P T R) (h0 : 0 ≤ a) (h1 : a < baseI P T R + 64 * P) (hc : 16 ≤ a) (hc8 : tabI T R ≤ a) (hcb : baseI P T R ≤ a) :
    Calls Try.prog 7 #[.agg #[.int .i64 P, .int .i64 T, .int .i64 R], .int .i64 a] w fun e w' => e = .returned (.agg #[.int .i64 (findK P T R a), .int .i64 (findA P T R a), .int .i64 (findB P T R a)]) ∧ Below w.heap.size w w' := by
  have V := Lib.hid (fun W => valid_any P T R W)
  rw [of_right hR] at V
  have CE := Lib.hid (fun W => cells_yes P T R W hR)
  have W1 := Lib.hid (fun W => within_any a 0 (baseI P T R + 64 * P - 1) W)
  rw [show inB a 0 (baseI P T R + 64 * P - 1) = true from decide_eq_true (by omega)] at W1
  have TA := Lib.hid (fun W => tables_any P T R W hR)
  have BA := Lib.hid (fun W => base_yes P T R W hR)
  have ht := tab_bd hR
  have hb := base_bd hR
  obtain ⟨e1, e2, e3⟩ := find_8 (P := P) (T := T) (R := R) (a := a) hc hc8 hcb
  have hp : placeI P T R a = ((a - baseI P T R) / 64, (a - baseI P T R) % 64) := by
    unfold placeI heapB; rw [of_right hR, show inB a (baseI P T R) (baseI P T R + 64 * P - 1) = true from decide_eq_true (by omega)]; rfl
  have PL := fun W => place_any P T R a W
  rw [hp] at PL
  clear hp
  have PL := Lib.hid PL
  rw [e1, e2, e3]
  clear e1 e2 e3
  dsimp only at PL
  generalize (a - baseI P T R) / 64 = q at *
  generalize (a - baseI P T R) % 64 = m at *
  generalize tabI T R = y at *
  generalize baseI P T R = z at *
  have hR2 := hR
  obtain ⟨⟨p1, p2⟩, _⟩ := hR2
  have d0 : (a == 0) = false := by simp; omega
  have d7 : (a == 7) = false := by simp; omega
  have X0 := (Blk.new w #[.int .i64 P, .int .i64 T, .int .i64 R] 25).alloc (.cells #[.int .i64 0, .int .i64 0, .int .i64 0] 33)
  have Z0 : Blk ((w.alloc (.cells #[.int .i64 P, .int .i64 T, .int .i64 R] 25)).alloc (.cells #[.int .i64 0, .int .i64 0, .int .i64 0] 33)) (w.heap.size + 1) #[.int .i64 0, .int .i64 0, .int .i64 0] 33 := Blk.new' (by simp)
  have B0 : Below w.heap.size w ((w.alloc (.cells #[.int .i64 P, .int .i64 T, .int .i64 R] 25)).alloc (.cells #[.int .i64 0, .int .i64 0, .int .i64 0] 33)) := ((Below.refl _ _).alloc (Nat.le_refl _) _).alloc (by simp) _
  go_enter Try.func7, Try.ntmps7
  go_wp2_with fail
  refine (V.out _).mono ?_; rintro e w1 ⟨rfl, hb1⟩
  have X1 := X0.grew hb1; have Z1 := Z0.grew hb1; have B1 := B0.trans (hb1.mono B0.size)
  have p10 := X1.val 0 rfl; have p11 := X1.val 1 rfl; have p12 := X1.val 2 rfl
  have f10 := Z1.frozen 0; have f11 := Z1.frozen 1; have f12 := Z1.frozen 2; have z10 := Z1.val 0 rfl; have z11 := Z1.val 1 rfl; have z12 := Z1.val 2 rfl
  go_wp2_with fail
  refine (CE.out _).mono ?_; rintro e w2 ⟨rfl, hb2⟩
  have X2 := X1.grew hb2; have Z2 := Z1.grew hb2; have B2 := B1.trans (hb2.mono B1.size)
  have p20 := X2.val 0 rfl; have p21 := X2.val 1 rfl; have p22 := X2.val 2 rfl
  have f20 := Z2.frozen 0; have f21 := Z2.frozen 1; have f22 := Z2.frozen 2; have z20 := Z2.val 0 rfl; have z21 := Z2.val 1 rfl; have z22 := Z2.val 2 rfl
  go_wp2_with fail
  refine (W1.out _).mono ?_; rintro e w3 ⟨rfl, hb3⟩
  have X3 := X2.grew hb3; have Z3 := Z2.grew hb3; have B3 := B2.trans (hb3.mono B2.size)
  have p30 := X3.val 0 rfl; have p31 := X3.val 1 rfl; have p32 := X3.val 2 rfl
  have f30 := Z3.frozen 0; have f31 := Z3.frozen 1; have f32 := Z3.frozen 2; have z30 := Z3.val 0 rfl; have z31 := Z3.val 1 rfl; have z32 := Z3.val 2 rfl
  go_wp2_with fail
  refine (TA.out _).mono ?_; rintro e w4 ⟨rfl, hb4⟩
  have X4 := X3.grew hb4; have Z4 := Z3.grew hb4; have B4 := B3.trans (hb4.mono B3.size)
  have p40 := X4.val 0 rfl; have p41 := X4.val 1 rfl; have p42 := X4.val 2 rfl
  have f40 := Z4.frozen 0; have f41 := Z4.frozen 1; have f42 := Z4.frozen 2; have z40 := Z4.val 0 rfl; have z41 := Z4.val 1 rfl; have z42 := Z4.val 2 rfl
  go_wp2_with fail
  refine (BA.out _).mono ?_; rintro e w5 ⟨rfl, hb5⟩
  have X5 := X4.grew hb5; have Z5 := Z4.grew hb5; have B5 := B4.trans (hb5.mono B4.size)
  have p50 := X5.val 0 rfl; have p51 := X5.val 1 rfl; have p52 := X5.val 2 rfl
  have f50 := Z5.frozen 0; have f51 := Z5.frozen 1; have f52 := Z5.frozen 2; have z50 := Z5.val 0 rfl; have z51 := Z5.val 1 rfl; have z52 := Z5.val 2 rfl
  go_wp2_with fail
  refine (PL.out _).mono ?_; rintro e w6 ⟨rfl, hb6⟩
  have X6 := X5.grew hb6; have Z6 := Z5.grew hb6; have B6 := B5.trans (hb6.mono B5.size)
  have p60 := X6.val 0 rfl; have p61 := X6.val 1 rfl; have p62 := X6.val 2 rfl
  have f60 := Z6.frozen 0; have f61 := Z6.frozen 1; have f62 := Z6.frozen 2; have z60 := Z6.val 0 rfl; have z61 := Z6.val 1 rfl; have z62 := Z6.val 2 rfl
  go_wp2
  have hlt := Z6.lt
  refine bodyPost_ret (v := .agg #[.int .i64 8, .int .i64 q, .int .i64 m]) (by simp [results, Try.results7, go_sem, *]) rfl ⟨rfl, ?_⟩
  exact (((B6.setCell (Nat.le_succ _) _).setCell (Nat.le_succ _) _).setCell (Nat.le_succ _) _)
theorem find_yes (P T R a : Int) (w : World) (hR : Right P T R) (h0 : 0 ≤ a) (h1 : a < baseI P T R + 64 * P) :
    Calls Try.prog 7 #[.agg #[.int .i64 P, .int .i64 T, .int .i64 R], .int .i64 a] w fun e w' => e = .returned (.agg #[.int .i64 (findK P T R a), .int .i64 (findA P T R a), .int .i64 (findB P T R a)]) ∧ Below w.heap.size w w' := by
  by_cases c0 : a = 0
  · exact find_n0 P T R a w hR h0 h1 c0
  by_cases c7 : a = 7
  · exact find_n7 P T R a w hR h0 h1 c7
  by_cases c8 : a < 8
  · exact find_s P T R a w hR h0 h1 c0 c7 c8
  by_cases c16 : a < 16
  · exact find_g P T R a w hR h0 h1 (by omega) c16
  by_cases ct : a < tabI T R
  · by_cases c5 : (a - 16) % (5 + R) < 5
    · exact find_t P T R a w hR h0 h1 (by omega) ct c5
    · exact find_l P T R a w hR h0 h1 (by omega) ct (by omega)
  by_cases cb : a < baseI P T R
  · have hq : 0 ≤ (a - tabI T R) / P := Int.ediv_nonneg (by omega) (by have := hR.1; omega)
    have h4 : (a - tabI T R) / P = 0 ∨ (a - tabI T R) / P = 1 ∨ (a - tabI T R) / P = 2 ∨ 3 ≤ (a - tabI T R) / P := by omega
    rcases h4 with h4 | h4 | h4 | h4
    · exact find_p0 P T R a w hR h0 h1 (by omega) (by omega) cb h4
    · exact find_p1 P T R a w hR h0 h1 (by omega) (by omega) cb h4
    · exact find_p2 P T R a w hR h0 h1 (by omega) (by omega) cb h4
    · exact find_p3 P T R a w hR h0 h1 (by omega) (by omega) cb h4
  · exact find_h P T R a w hR h0 h1 (by omega) (by omega) (by omega)
end Go.Proofs.Ytahppkdbaagcgaa
