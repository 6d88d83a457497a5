/- What the functions of package layout return for a plan that may be: where the cells stand. Condition: the plan's numbers are in their bounds. -/
import Derived.Test.YtcjkachlahjbiaaDoorKlay
import Derived.Deep.RegionHeld3
namespace Go.Proofs.YtcjkachlahjbiaaDoor
open Go.RowKit

/-- where the tables begin; where the heap begins -/
def tabI (T R : Int) : Int := 16 + T * (5 + R)
def baseI (P T R : Int) : Int := (tabI T R + 3 * P + 63) / 64 * 64
theorem mul_bd {T R : Int} (h1 : 1 ≤ T) (h2 : T ≤ 6) (h3 : 1 ≤ R) (h4 : R ≤ 16) : 6 ≤ T * (5 + R) ∧ T * (5 + R) ≤ 126 := by
  constructor
  · exact Int.le_trans (by decide) (Int.mul_le_mul (a := 1) (b := 6) h1 (by omega) (by decide) (by omega))
  · exact Int.le_trans (Int.mul_le_mul (c := 6) (d := 21) h2 (by omega) (by omega) (by decide)) (by decide)
theorem tab_bd {P T R : Int} (h : Right P T R) : 22 ≤ tabI T R ∧ tabI T R ≤ 142 := by
  obtain ⟨_, ⟨h1, h2⟩, h3, h4⟩ := h
  have := mul_bd h1 h2 h3 h4
  unfold tabI; omega
theorem base_bd {P T R : Int} (h : Right P T R) : 64 ≤ baseI P T R ∧ baseI P T R ≤ 256 ∧ baseI P T R % 64 = 0 ∧ tabI T R + 3 * P ≤ baseI P T R ∧ baseI P T R < tabI T R + 3 * P + 64 := by
  have := tab_bd h
  obtain ⟨⟨h1, h2⟩, _⟩ := h
  unfold baseI
  generalize tabI T R = z at *
  omega
set_option maxHeartbeats 400000 in
theorem each_any (P T R : Int) (w : World) (h : Right P T R) :
    Calls Tryd.prog 39 #[.agg #[.int .i64 P, .int .i64 T, .int .i64 R]] w fun e w' => e = .returned (.int .i64 (5 + R)) ∧ Below w.heap.size w w' := by
  obtain ⟨_, _, h3, h4⟩ := h
  go_enter Tryd.func39, Tryd.ntmps39
  have c0 := (planNew w P T R 26)
  go_wp2
  go_ret
  exact ⟨rfl, c0.2⟩
set_option maxHeartbeats 400000 in
theorem tables_any (P T R : Int) (w : World) (h : Right P T R) :
    Calls Tryd.prog 34 #[.agg #[.int .i64 P, .int .i64 T, .int .i64 R]] w fun e w' => e = .returned (.int .i64 (tabI T R)) ∧ Below w.heap.size w w' := by
  have C := Lib.hid (fun W => each_any P T R W h)
  obtain ⟨_, ⟨h1, h2⟩, h3, h4⟩ := h
  have hb := mul_bd h1 h2 h3 h4
  unfold tabI
  generalize 5 + R = E at *
  generalize hz : T * E = z at *
  have hz' := hz
  obtain ⟨hb1, hb2⟩ := hb
  have k1 : IntKind.i64.wrap z = z := wi (by omega)
  have k2 : IntKind.i64.wrap (16 + z) = 16 + z := wi (by omega)
  go_enter Tryd.func34, Tryd.ntmps34
  have c0 := (planNew w P T R 26)
  go_wp2_with fail
  go_region_held3 (fun w' => (w'.cell? ⟨w.heap.size, 0, none⟩ = some (.int .i64 P) ∧ w'.cell? ⟨w.heap.size, 1, none⟩ = some (.int .i64 T) ∧ w'.cell? ⟨w.heap.size, 2, none⟩ = some (.int .i64 R)) ∧ Below w.heap.size w w')
    (first | exact c0 | exact ⟨c0.1, c0.2.drew⟩ | exact planKeep (by assumption) hbk)
    (first | (go_at_call 39; refine (C.out _).mono ?_; rintro e w9 ⟨rfl, hbk⟩))
  have c1 := planHeld (by assumption)
  go_wp2
  go_ret
  exact ⟨rfl, c1.2⟩
set_option maxHeartbeats 400000 in
theorem base_yes (P T R : Int) (w : World) (h : Right P T R) :
    Calls Tryd.prog 24 #[.agg #[.int .i64 P, .int .i64 T, .int .i64 R]] w fun e w' => e = .returned (.int .i64 (baseI P T R)) ∧ Below w.heap.size w w' := by
  have V := Lib.hid (fun W => lvalid_any P T R W)
  rw [of_right h] at V
  have C := Lib.hid (fun W => tables_any P T R W h)
  have hb := tab_bd h
  obtain ⟨⟨h1, h2⟩, _⟩ := h
  unfold baseI
  generalize tabI T R = z at *
  obtain ⟨hb1, hb2⟩ := hb
  have h0 : 0 ≤ z + 3 * P + 63 := by omega
  have k1 : IntKind.i64.wrap (3 * P) = 3 * P := wi (by omega)
  have k2 : IntKind.i64.wrap (z + 3 * P) = z + 3 * P := wi (by omega)
  go_enter Tryd.func24, Tryd.ntmps24
  have c0 := (planNew w P T R 26)
  go_wp2_with fail
  refine (V.out _).mono ?_; rintro e w1 ⟨rfl, hb1⟩
  have c1 := planKeep c0 hb1
  obtain ⟨d10, d11, d12⟩ := c1.1
  go_wp2_with fail
  go_region_held3 (fun w' => (w'.cell? ⟨w.heap.size, 0, none⟩ = some (.int .i64 P) ∧ w'.cell? ⟨w.heap.size, 1, none⟩ = some (.int .i64 T) ∧ w'.cell? ⟨w.heap.size, 2, none⟩ = some (.int .i64 R)) ∧ Below w.heap.size w w')
    (first | exact c1 | exact ⟨c1.1, c1.2.drew⟩ | exact planKeep (by assumption) hbk)
    (first | (go_at_call 34; refine (C.out _).mono ?_; rintro e w9 ⟨rfl, hbk⟩))
  have c2 := planHeld (by assumption)
  go_wp2
  go_ret
  exact ⟨ret_int (by omega), c2.2⟩
set_option maxHeartbeats 400000 in
theorem base_no (P T R : Int) (w : World) (h : rightB P T R = false) :
    Calls Tryd.prog 24 #[.agg #[.int .i64 P, .int .i64 T, .int .i64 R]] w fun e w' => e = .returned (.int .i64 (-1)) ∧ Below w.heap.size w w' := by
  have V := Lib.hid (fun W => lvalid_any P T R W)
  rw [h] at V
  go_enter Tryd.func24, Tryd.ntmps24
  have c0 := (planNew w P T R 26)
  go_wp2_with fail
  refine (V.out _).mono ?_; rintro e w1 ⟨rfl, hb1⟩
  have c1 := planKeep c0 hb1
  obtain ⟨d10, d11, d12⟩ := c1.1
  go_wp2
  go_ret
  exact ⟨rfl, c1.2⟩
set_option maxHeartbeats 400000 in
theorem cells_yes (P T R : Int) (w : World) (h : Right P T R) :
    Calls Tryd.prog 5 #[.agg #[.int .i64 P, .int .i64 T, .int .i64 R]] w fun e w' => e = .returned (.int .i64 (baseI P T R + 64 * P)) ∧ Below w.heap.size w w' := by
  have V := Lib.hid (fun W => lvalid_any P T R W)
  rw [of_right h] at V
  have C := Lib.hid (fun W => base_yes P T R W h)
  have hb := base_bd h
  obtain ⟨⟨h1, h2⟩, _⟩ := h
  generalize baseI P T R = z at *
  obtain ⟨hb1, hb2, hb3, _⟩ := hb
  have k1 : IntKind.i64.wrap (P * 64) = P * 64 := wi (by omega)
  have k2 : IntKind.i64.wrap (z + P * 64) = z + P * 64 := wi (by omega)
  go_enter Tryd.func5, Tryd.ntmps5
  have c0 := (planNew w P T R 26)
  go_wp2_with fail
  refine (V.out _).mono ?_; rintro e w1 ⟨rfl, hb1⟩
  have c1 := planKeep c0 hb1
  obtain ⟨d10, d11, d12⟩ := c1.1
  go_wp2_with fail
  go_region_held3 (fun w' => (w'.cell? ⟨w.heap.size, 0, none⟩ = some (.int .i64 P) ∧ w'.cell? ⟨w.heap.size, 1, none⟩ = some (.int .i64 T) ∧ w'.cell? ⟨w.heap.size, 2, none⟩ = some (.int .i64 R)) ∧ Below w.heap.size w w')
    (first | exact c1 | exact ⟨c1.1, c1.2.drew⟩ | exact planKeep (by assumption) hbk)
    (first | (go_at_call 24; refine (C.out _).mono ?_; rintro e w9 ⟨rfl, hbk⟩))
  have c2 := planHeld (by assumption)
  go_wp2
  go_ret
  exact ⟨ret_int (by omega), c2.2⟩
set_option maxHeartbeats 400000 in
theorem cells_no (P T R : Int) (w : World) (h : rightB P T R = false) :
    Calls Tryd.prog 5 #[.agg #[.int .i64 P, .int .i64 T, .int .i64 R]] w fun e w' => e = .returned (.int .i64 0) ∧ Below w.heap.size w w' := by
  have V := Lib.hid (fun W => lvalid_any P T R W)
  rw [h] at V
  go_enter Tryd.func5, Tryd.ntmps5
  have c0 := (planNew w P T R 26)
  go_wp2_with fail
  refine (V.out _).mono ?_; rintro e w1 ⟨rfl, hb1⟩
  have c1 := planKeep c0 hb1
  obtain ⟨d10, d11, d12⟩ := c1.1
  go_wp2
  go_ret
  exact ⟨rfl, c1.2⟩
set_option maxHeartbeats 400000 in
theorem plan_yes (P T R : Int) (w : World) (h : Right P T R) :
    Calls Tryd.prog 4 #[.int .i64 P, .int .i64 T, .int .i64 R] w fun e w' => e = .returned (.tuple #[.agg #[.int .i64 P, .int .i64 T, .int .i64 R], .int .i64 0]) ∧ Below w.heap.size w w' := by
  have V := Lib.hid (fun W => lvalid_any P T R W)
  rw [of_right h] at V
  have hS : ∀ i, (w.alloc (.cells #[.int .i64 0, .int .i64 0, .int .i64 0] 26)).frozen? ⟨w.heap.size, i, none⟩ = false := fun i => World.frozen?_alloc_new ..
  have hB : Below w.heap.size w (w.alloc (.cells #[.int .i64 0, .int .i64 0, .int .i64 0] 26)) := (Below.refl _ _).alloc (Nat.le_refl _) _
  have hZ : Blk (w.alloc (.cells #[.int .i64 0, .int .i64 0, .int .i64 0] 26)) w.heap.size #[.int .i64 0, .int .i64 0, .int .i64 0] 26 := Blk.new _ _ _
  go_enter Tryd.func4, Tryd.ntmps4
  go_wp2_with fail
  refine (V.out _).mono ?_; rintro e w1 ⟨rfl, hb1⟩
  have hB1 := (hB.alloc hB.size (.cells #[.int .i64 P, .int .i64 T, .int .i64 R] 26)).trans (hb1.mono (hB.alloc hB.size _).size)
  have hX1 : Blk w1 (w.heap.size + 1) #[.int .i64 P, .int .i64 T, .int .i64 R] 26 := (Blk.new' (by simp)).grew hb1
  have hZ1 := (hZ.alloc _).grew hb1
  have hlt := hZ1.lt
  have p0 := hX1.val 0 rfl
  have p1 := hX1.val 1 rfl
  have p2 := hX1.val 2 rfl
  have f0 := hZ1.frozen 0
  have f1 := hZ1.frozen 1
  have f2 := hZ1.frozen 2
  have z0 := hZ1.val 0 rfl
  have z1 := hZ1.val 1 rfl
  have z2 := hZ1.val 2 rfl
  clear hS hB hZ hb1
  go_wp2
  have r0 := hZ1.lt
  refine bodyPost_ret (v := .tuple #[.agg #[.int .i64 P, .int .i64 T, .int .i64 R], .int .i64 0]) (by simp [results, Tryd.results4, go_sem, *]) rfl ⟨rfl, ?_⟩
  exact (((hB1.setCell (Nat.le_refl _) _).setCell (Nat.le_refl _) _).setCell (Nat.le_refl _) _)
set_option maxHeartbeats 400000 in
theorem plan_no (P T R : Int) (w : World) (h : rightB P T R = false) :
    Calls Tryd.prog 4 #[.int .i64 P, .int .i64 T, .int .i64 R] w fun e w' => e = .returned (.tuple #[.agg #[.int .i64 0, .int .i64 0, .int .i64 0], .int .i64 1]) ∧ Below w.heap.size w w' := by
  have V := Lib.hid (fun W => lvalid_any P T R W)
  rw [h] at V
  have hS : ∀ i, (w.alloc (.cells #[.int .i64 0, .int .i64 0, .int .i64 0] 26)).frozen? ⟨w.heap.size, i, none⟩ = false := fun i => World.frozen?_alloc_new ..
  have hB : Below w.heap.size w (w.alloc (.cells #[.int .i64 0, .int .i64 0, .int .i64 0] 26)) := (Below.refl _ _).alloc (Nat.le_refl _) _
  have hZ : Blk (w.alloc (.cells #[.int .i64 0, .int .i64 0, .int .i64 0] 26)) w.heap.size #[.int .i64 0, .int .i64 0, .int .i64 0] 26 := Blk.new _ _ _
  go_enter Tryd.func4, Tryd.ntmps4
  go_wp2_with fail
  refine (V.out _).mono ?_; rintro e w1 ⟨rfl, hb1⟩
  have hB1 := (hB.alloc hB.size (.cells #[.int .i64 P, .int .i64 T, .int .i64 R] 26)).trans (hb1.mono (hB.alloc hB.size _).size)
  have hX1 : Blk w1 (w.heap.size + 1) #[.int .i64 P, .int .i64 T, .int .i64 R] 26 := (Blk.new' (by simp)).grew hb1
  have hZ1 := (hZ.alloc _).grew hb1
  have hlt := hZ1.lt
  have p0 := hX1.val 0 rfl
  have p1 := hX1.val 1 rfl
  have p2 := hX1.val 2 rfl
  have f0 := hZ1.frozen 0
  have f1 := hZ1.frozen 1
  have f2 := hZ1.frozen 2
  have z0 := hZ1.val 0 rfl
  have z1 := hZ1.val 1 rfl
  have z2 := hZ1.val 2 rfl
  clear hS hB hZ hb1
  go_wp2
  have r0 := hZ1.lt
  refine bodyPost_ret (v := .tuple #[.agg #[.int .i64 0, .int .i64 0, .int .i64 0], .int .i64 1]) (by simp [results, Tryd.results4, go_sem, *]) rfl ⟨rfl, ?_⟩
  exact (((hB1.setCell (Nat.le_refl _) _).setCell (Nat.le_refl _) _).setCell (Nat.le_refl _) _)
end Go.Proofs.YtcjkachlahjbiaaDoor
