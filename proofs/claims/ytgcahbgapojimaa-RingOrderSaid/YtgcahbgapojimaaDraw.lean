/- What Draw and Status of the document's layer 6 return. Condition: the plan is right. -/
import Derived.Test.YtgcahbgapojimaaWhere
import Derived.Test.YtgcahbgapojimaaRinga
import Derived.Deep.RegionHeld3
namespace Go.Proofs.Ytgcahbgapojimaa
open Go.RowKit
set_option linter.unusedVariables false
theorem dwhere_8 {P T R : Int} (h : Right P T R) : whereI P T R 8 0 0 = baseI P T R := by
  have hp := h.1
  unfold whereI
  rw [of_right h, decide_eq_true (show okI P T R 8 0 0 by unfold okI; omega)]
  show posI P T R 8 0 0 = _
  rw [pos_8]; omega
theorem dwhere_5 {P T R : Int} (h : Right P T R) : whereI P T R 5 0 0 = tabI T R := by
  have hp := h.1
  unfold whereI
  rw [of_right h, decide_eq_true (show okI P T R 5 0 0 by unfold okI; omega)]
  show posI P T R 5 0 0 = _
  unfold posI; simp
set_option maxHeartbeats 400000 in
theorem dbase_yes (P T R : Int) (w : World) (h : Right P T R) :
    Calls Try.prog 76 #[.agg #[.int .i64 P, .int .i64 T, .int .i64 R]] w fun e w' => e = .returned (.int .i64 (baseI P T R)) ∧ Below w.heap.size w w' := by
  have V := Lib.hid (fun W => where_yes P T R 8 0 0 W h)
  rw [dwhere_8 h] at V
  go_enter Try.func76, Try.ntmps76
  go_wp2_with fail
  refine (V.out _).mono ?_; rintro e w1 ⟨rfl, hb1⟩
  go_wp2
  go_ret
  exact ⟨rfl, ((Below.refl _ _).alloc (Nat.le_refl _) _).trans (hb1.mono (by simp))⟩
theorem Blk.six {w : World} {b : Nat} {v0 v1 v2 v3 v4 v5 : Value} {t : TypeId} (h : Blk w b #[v0, v1, v2, v3, v4, v5] t) :
    (w.cell? ⟨b, 0, none⟩ = some v0 ∧ w.cell? ⟨b, 1, none⟩ = some v1 ∧ w.cell? ⟨b, 2, none⟩ = some v2 ∧ w.cell? ⟨b, 3, none⟩ = some v3 ∧ w.cell? ⟨b, 4, none⟩ = some v4 ∧ w.cell? ⟨b, 5, none⟩ = some v5) ∧
    (w.frozen? ⟨b, 0, none⟩ = false ∧ w.frozen? ⟨b, 1, none⟩ = false ∧ w.frozen? ⟨b, 2, none⟩ = false ∧ w.frozen? ⟨b, 3, none⟩ = false ∧ w.frozen? ⟨b, 4, none⟩ = false ∧ w.frozen? ⟨b, 5, none⟩ = false) :=
  ⟨⟨h.val 0 rfl, h.val 1 rfl, h.val 2 rfl, h.val 3 rfl, h.val 4 rfl, h.val 5 rfl⟩, h.frozen 0, h.frozen 1, h.frozen 2, h.frozen 3, h.frozen 4, h.frozen 5⟩
theorem Blk.three {w : World} {b : Nat} {v0 v1 v2 : Value} {t : TypeId} (h : Blk w b #[v0, v1, v2] t) :
    (w.cell? ⟨b, 0, none⟩ = some v0 ∧ w.cell? ⟨b, 1, none⟩ = some v1 ∧ w.cell? ⟨b, 2, none⟩ = some v2) ∧ (w.frozen? ⟨b, 0, none⟩ = false ∧ w.frozen? ⟨b, 1, none⟩ = false ∧ w.frozen? ⟨b, 2, none⟩ = false) :=
  ⟨⟨h.val 0 rfl, h.val 1 rfl, h.val 2 rfl⟩, h.frozen 0, h.frozen 1, h.frozen 2⟩
/-- the map of a plan -/
def mapV (P T R : Int) : Value := .agg #[.int .i64 P, .int .i64 T, .int .i64 R, .int .i64 (baseI P T R), .int .i64 (tabI T R), .int .i64 (baseI P T R + 64 * P)]
structure DrS (w : World) (P T R : Int) (b0 b1 : Nat) (W : World) : Prop where
  plan : Blk W b0 #[.int .i64 P, .int .i64 T, .int .i64 R] 26
  res : Blk W b1 #[.int .i64 0, .int .i64 0, .int .i64 0, .int .i64 0, .int .i64 0, .int .i64 0] 36
  bel : Below w.heap.size w W
theorem DrS.grew {w W W' : World} {P T R : Int} {b0 b1 : Nat} (h : DrS w P T R b0 b1 W) (hb : Below W.heap.size W W') : DrS w P T R b0 b1 W' := ⟨h.plan.grew hb, h.res.grew hb, h.bel.trans (hb.mono h.bel.size)⟩
set_option maxRecDepth 100000 in
set_option maxHeartbeats 600000 in
theorem draw_yes (P T R : Int) (w : World) (h : Right P T R) :
    Calls Try.prog 17 #[.agg #[.int .i64 P, .int .i64 T, .int .i64 R]] w fun e w' => e = .returned (mapV P T R) ∧ Below w.heap.size w w' := by
  have V := Lib.hid (fun W => rright_any P T R W)
  rw [of_right h] at V
  have BB := Lib.hid (fun W => dbase_yes P T R W h)
  have WW := Lib.hid (fun W => where_yes P T R 5 0 0 W h)
  rw [dwhere_5 h] at WW
  have CC := Lib.hid (fun W => rcells_yes P T R W h)
  clear h
  unfold mapV
  generalize baseI P T R + 64 * P = x at *
  generalize baseI P T R = y at *
  generalize tabI T R = z at *
  go_enter Try.func17, Try.ntmps17
  go_wp2_with fail
  refine (V.out _).mono ?_; rintro e w1 ⟨rfl, hb1⟩
  have hS1 : DrS w P T R w.heap.size (w.heap.size + 1) w1 := DrS.grew ⟨(Blk.new' rfl).alloc _, Blk.new' (by simp), ((Below.refl _ _).alloc (Nat.le_refl _) _).alloc (by simp) _⟩ hb1
  have p1 := hS1.plan.three.1
  clear hb1
  go_wp2_with fail
  have hS2 := hS1.grew (Quiet.below ⟨1, rfl⟩ : Below w1.heap.size w1 w1.drew)
  go_region_held3 (fun W => (W.cell? ⟨w.heap.size, 0, none⟩ = some (.int .i64 P) ∧ W.cell? ⟨w.heap.size, 1, none⟩ = some (.int .i64 T) ∧ W.cell? ⟨w.heap.size, 2, none⟩ = some (.int .i64 R)))
    (((with_reducible refine (Blk.three (t := 26) ?_).1); repeat (first | (with_reducible exact DrS.plan (by assumption)) | (with_reducible refine Blk.other ?_ _ _ (by simp)))))
    (first | (go_at_call 76; refine (BB.out _).mono ?_; rintro e w3 ⟨rfl, hb3⟩; have hS3 := DrS.grew (by assumption) hb3) | (go_at_call 77; refine (WW.out _).mono ?_; rintro e w3 ⟨rfl, hb3⟩; have hS3 := DrS.grew (by assumption) hb3) | (go_at_call 31; refine (CC.out _).mono ?_; rintro e w3 ⟨rfl, hb3⟩; have hS3 := DrS.grew (by assumption) hb3; have z3 := hS3.res.six))
  have hZ := ((((((hS3.res.set 0 (.int .i64 P)).set 1 (.int .i64 T)).set 2 (.int .i64 R)).set 3 (.int .i64 y)).set 4 (.int .i64 z)).set 5 (.int .i64 x))
  have hB := ((((((hS3.bel.setCell (p := ⟨w.heap.size + 1, 0, none⟩) (by simp) (.int .i64 P)).setCell (p := ⟨w.heap.size + 1, 1, none⟩) (by simp) (.int .i64 T)).setCell (p := ⟨w.heap.size + 1, 2, none⟩) (by simp) (.int .i64 R)).setCell (p := ⟨w.heap.size + 1, 3, none⟩) (by simp) (.int .i64 y)).setCell (p := ⟨w.heap.size + 1, 4, none⟩) (by simp) (.int .i64 z)).setCell (p := ⟨w.heap.size + 1, 5, none⟩) (by simp) (.int .i64 x))
  generalize World.setCell (World.setCell (World.setCell (World.setCell (World.setCell (World.setCell w3 _ _) _ _) _ _) _ _) _ _) _ _ = w9 at *
  have hY : Blk w9 (w.heap.size + 1) #[.int .i64 P, .int .i64 T, .int .i64 R, .int .i64 y, .int .i64 z, .int .i64 x] 36 := hZ
  obtain ⟨y0, y1, y2, y3, y4, y5⟩ := hY.six.1
  clear hZ hY z3 hS1 hS2 hS3
  go_wp2
  refine bodyPost_ret (v := .agg #[.int .i64 P, .int .i64 T, .int .i64 R, .int .i64 y, .int .i64 z, .int .i64 x]) (by simp [results, Try.results17, go_sem, y0, y1, y2, y3, y4, y5]) rfl ⟨rfl, hB⟩
theorem exB_of' {P T R t : Int} (h : exB P T R t = true) : Right P T R ∧ inB t 0 (T - 1) = true := by
  unfold exB at h
  rw [Bool.and_eq_true] at h
  exact ⟨right_of h.1, h.2⟩
theorem status_bd {P T R t : Int} (h : exB P T R t = true) : 0 ≤ t * (5 + R) ∧ t * (5 + R) ≤ 105 := by
  obtain ⟨hR, ht⟩ := exB_of' h
  obtain ⟨h2, h3, h4, h5⟩ := own_bd hR ht
  exact ⟨h4, h5⟩
set_option maxHeartbeats 400000 in
theorem mstatus_any (P T R x y z t : Int) (w : World) (hR : 1 ≤ R ∧ R ≤ 16) (ht : 0 ≤ t ∧ t ≤ 5) :
    Calls Try.prog 30 #[.agg #[.int .i64 P, .int .i64 T, .int .i64 R, .int .i64 x, .int .i64 y, .int .i64 z], .int .i64 t] w fun e w' => e = .returned (.int .i64 (16 + t * (5 + R))) ∧ Below w.heap.size w w' := by
  have hr1 : wrap64 (5 + R) = 5 + R := IntWalk.wrap64_in _ ⟨by omega, by omega⟩
  have hm : 0 ≤ t * (5 + R) ∧ t * (5 + R) ≤ 105 := by
    constructor
    · exact Int.mul_nonneg (by omega) (by omega)
    · calc t * (5 + R) ≤ 5 * (5 + R) := Int.mul_le_mul_of_nonneg_right (by omega) (by omega)
        _ ≤ 105 := by omega
  have hr2 : wrap64 (t * (5 + R)) = t * (5 + R) := IntWalk.wrap64_in _ ⟨by omega, by omega⟩
  have hr3 : wrap64 (16 + t * (5 + R)) = 16 + t * (5 + R) := IntWalk.wrap64_in _ ⟨by omega, by omega⟩
  obtain ⟨r1, r2⟩ := hR
  clear hm ht
  go_enter Try.func30, Try.ntmps30
  have hZ : Blk (w.alloc (.cells #[.int .i64 P, .int .i64 T, .int .i64 R, .int .i64 x, .int .i64 y, .int .i64 z] 36)) w.heap.size #[.int .i64 P, .int .i64 T, .int .i64 R, .int .i64 x, .int .i64 y, .int .i64 z] 36 := Blk.new' rfl
  have y2 := hZ.six.1.2.2.1
  clear hZ
  go_wp2
  go_ret
  exact ⟨ret_int (by first | rfl | simp only [hr3]), (Below.refl _ _).alloc (Nat.le_refl _) _⟩
end Go.Proofs.Ytgcahbgapojimaa
