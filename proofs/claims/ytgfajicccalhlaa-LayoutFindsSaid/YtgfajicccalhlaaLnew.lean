/- The walk of the law LayoutNew: it returns true, whatever it is given. No condition but that each number fits its kind. -/
import Derived.Test.YtgfajicccalhlaaWhere
import Derived.Test.YtgfajicccalhlaaLheap
namespace Go.Proofs.Ytgfajicccalhlaa
open Go.RowKit
set_option linter.unusedVariables false
set_option linter.unusedSimpArgs false
theorem where_any (P T R k i j : Int) (w : World) :
    Calls Try.prog 16 #[.agg #[.int .i64 P, .int .i64 T, .int .i64 R], .agg #[.int .i64 k, .int .i64 i, .int .i64 j]] w fun e w' => e = .returned (.int .i64 (whereI P T R k i j)) ∧ Below w.heap.size w w' := by
  cases h : rightB P T R with
  | false => exact where_no P T R k i j w h
  | true => exact where_yes P T R k i j w (right_of h)
theorem where_8 {P T R : Int} (h : Right P T R) : whereI P T R 8 0 0 = baseI P T R := by
  have hp := h.1
  unfold whereI
  rw [of_right h, decide_eq_true (show okI P T R 8 0 0 by unfold okI; omega)]
  show posI P T R 8 0 0 = _
  rw [pos_8]; omega
theorem eq_plan (w : World) (a b c x y z : Int) :
    (binOp .eql 23 (.agg #[.int .i64 a, .int .i64 b, .int .i64 c]) (.agg #[.int .i64 x, .int .i64 y, .int .i64 z])).run Try.prog w = .ok (.bool (a == x && (b == y && c == z))) w := by
  rw [run_eql_struct, run_equalIn_agg w 9999 _ _ _ (by kernel_rfl) (by kernel_rfl)]
  obtain ⟨f, g, k, hl, ⟨f1, f2, f3⟩, ⟨g1, g2, g3⟩, k1, k2, k3⟩ := fields3 (l := (Try.prog.fieldsOf 23).toList) (t := 3) (by kernel_rfl)
  rw [hl]
  have hi : Try.prog.underlying 3 = some (.int .i64) := by kernel_rfl
  simp [Op.eqFields, f1, f2, f3, g1, g2, g3, k1, k2, k3, go_sem, hi]
  by_cases h1 : a = x <;> by_cases h2 : b = y <;> by_cases h3 : c = z <;> simp [h1, h2, h3]
theorem guard_plan : Try.prog.eqGuardType Try.prog.depth 23 = false := by kernel_rfl
theorem eq_plan_self (w : World) (a b c : Int) :
    (binOp .eql 23 (.agg #[.int .i64 a, .int .i64 b, .int .i64 c]) (.agg #[.int .i64 a, .int .i64 b, .int .i64 c])).run Try.prog w = .ok (.bool true) w := by
  rw [eq_plan]; simp
set_option maxHeartbeats 400000 in
theorem plan_any (P T R : Int) (w : World) :
    Calls Try.prog 11 #[.agg #[.int .i64 P, .int .i64 T, .int .i64 R]] w fun e w' => e = .returned (.agg #[.int .i64 P, .int .i64 T, .int .i64 R]) ∧ Below w.heap.size w w' := by
  go_enter Try.func11, Try.ntmps11
  go_wp2
  refine bodyPost_ret (v := .agg #[.int .i64 P, .int .i64 T, .int .i64 R]) (by simp [results, Try.results11, go_sem]) rfl ⟨rfl, ?_⟩
  exact ((Below.refl _ _).alloc (Nat.le_refl _) _).alloc (by simp) _
set_option maxHeartbeats 400000 in
theorem rbase_yes (P T R : Int) (w : World) (h : Right P T R) :
    Calls Try.prog 15 #[.agg #[.int .i64 P, .int .i64 T, .int .i64 R]] w fun e w' => e = .returned (.int .i64 (baseI P T R)) ∧ Below w.heap.size w w' := by
  have V := Lib.hid (fun W => where_any P T R 8 0 0 W)
  rw [where_8 h] at V
  go_enter Try.func15, Try.ntmps15
  go_wp2_with fail
  refine (V.out _).mono ?_; rintro e w1 ⟨rfl, hb1⟩
  go_wp2
  go_ret
  exact ⟨rfl, ((Below.refl _ _).alloc (Nat.le_refl _) _).trans (hb1.mono (by simp))⟩
theorem planKeep2 {w W W' : World} {b c : Nat} {P T R P' T' R' : Int} (h : ((W.cell? ⟨b, 0, none⟩ = some (.int .i64 P) ∧ W.cell? ⟨b, 1, none⟩ = some (.int .i64 T) ∧ W.cell? ⟨b, 2, none⟩ = some (.int .i64 R)) ∧ (W.cell? ⟨c, 0, none⟩ = some (.int .i64 P') ∧ W.cell? ⟨c, 1, none⟩ = some (.int .i64 T') ∧ W.cell? ⟨c, 2, none⟩ = some (.int .i64 R'))) ∧ Below w.heap.size w W) (hb : Below W.heap.size W W') :
    ((W'.cell? ⟨b, 0, none⟩ = some (.int .i64 P) ∧ W'.cell? ⟨b, 1, none⟩ = some (.int .i64 T) ∧ W'.cell? ⟨b, 2, none⟩ = some (.int .i64 R)) ∧ (W'.cell? ⟨c, 0, none⟩ = some (.int .i64 P') ∧ W'.cell? ⟨c, 1, none⟩ = some (.int .i64 T') ∧ W'.cell? ⟨c, 2, none⟩ = some (.int .i64 R'))) ∧ Below w.heap.size w W' := by
  obtain ⟨⟨h1, h2⟩, h3⟩ := h
  obtain ⟨e1, e2⟩ := planKeep ⟨h1, h3⟩ hb
  exact ⟨⟨e1, (planKeep ⟨h2, h3⟩ hb).1⟩, e2⟩
theorem planHeld2 {w W : World} {b c : Nat} {P T R P' T' R' : Int} (h : ((W.cell? ⟨b, 0, none⟩ = some (.int .i64 P) ∧ W.cell? ⟨b, 1, none⟩ = some (.int .i64 T) ∧ W.cell? ⟨b, 2, none⟩ = some (.int .i64 R)) ∧ (W.cell? ⟨c, 0, none⟩ = some (.int .i64 P') ∧ W.cell? ⟨c, 1, none⟩ = some (.int .i64 T') ∧ W.cell? ⟨c, 2, none⟩ = some (.int .i64 R'))) ∧ Below w.heap.size w W) : ((W.cell? ⟨b, 0, none⟩ = some (.int .i64 P) ∧ W.cell? ⟨b, 1, none⟩ = some (.int .i64 T) ∧ W.cell? ⟨b, 2, none⟩ = some (.int .i64 R)) ∧ (W.cell? ⟨c, 0, none⟩ = some (.int .i64 P') ∧ W.cell? ⟨c, 1, none⟩ = some (.int .i64 T') ∧ W.cell? ⟨c, 2, none⟩ = some (.int .i64 R'))) ∧ Below w.heap.size w W := h
set_option maxHeartbeats 1000000 in
theorem lnew_yes (P T R : Int) (w : World) (h : Right P T R) :
    Calls Try.prog 3 #[.int .i64 P, .int .i64 T, .int .i64 R] w fun e w' => e = .returned (.bool true) ∧ Below w.heap.size w w' := by
  have N := Lib.hid (fun W => new_yes P T R W h)
  have LA := Lib.hid (fun W => laid_any W)
  have RR := fun W => rright_any P T R W
  rw [of_right h] at RR
  have RR := Lib.hid RR
  have PL := Lib.hid (fun W => plan_any P T R W)
  have CE := Lib.hid (fun W => cells_yes P T R W h)
  have RC := Lib.hid (fun W => rcells_yes P T R W h)
  have BA := Lib.hid (fun W => base_yes P T R W h)
  have RB := Lib.hid (fun W => rbase_yes P T R W h)
  have hE := fun W => eq_plan_self W P T R
  have hG := guard_plan
  go_enter Try.func3, Try.ntmps3
  go_wp2_with fail
  refine (N.out _).mono ?_; rintro e w1 ⟨rfl, hb1⟩
  have c2 : (((w1.alloc (.cells #[.int .i64 P, .int .i64 T, .int .i64 R] 23)).alloc (.cells #[.int .i64 P, .int .i64 T, .int .i64 R] 27)).cell? ⟨w1.heap.size, 0, none⟩ = some (.int .i64 P) ∧ ((w1.alloc (.cells #[.int .i64 P, .int .i64 T, .int .i64 R] 23)).alloc (.cells #[.int .i64 P, .int .i64 T, .int .i64 R] 27)).cell? ⟨w1.heap.size, 1, none⟩ = some (.int .i64 T) ∧ ((w1.alloc (.cells #[.int .i64 P, .int .i64 T, .int .i64 R] 23)).alloc (.cells #[.int .i64 P, .int .i64 T, .int .i64 R] 27)).cell? ⟨w1.heap.size, 2, none⟩ = some (.int .i64 R)) ∧ Below w1.heap.size w1 ((w1.alloc (.cells #[.int .i64 P, .int .i64 T, .int .i64 R] 23)).alloc (.cells #[.int .i64 P, .int .i64 T, .int .i64 R] 27)) := planKeep (planNew w1 P T R 23) ((Below.refl _ _).alloc (Nat.le_refl _) _)
  have Y2 : Blk ((w1.alloc (.cells #[.int .i64 P, .int .i64 T, .int .i64 R] 23)).alloc (.cells #[.int .i64 P, .int .i64 T, .int .i64 R] 27)) (w1.heap.size + 1) #[.int .i64 P, .int .i64 T, .int .i64 R] 27 := Blk.new' (by simp)
  have c2 := And.intro (And.intro c2.1 (And.intro (Y2.val 0 rfl) (And.intro (Y2.val 1 rfl) (Y2.val 2 rfl)))) c2.2
  go_wp2_with fail
  refine (RR.out _).mono ?_; rintro e w3 ⟨rfl, hb3⟩
  have c3 := planKeep2 c2 hb3
  obtain ⟨⟨d30, d31, d32⟩, ⟨q30, q31, q32⟩⟩ := c3.1
  go_wp2_with fail
  refine wp_region_held_drew (S := (fun w' => ((w'.cell? ⟨w1.heap.size, 0, none⟩ = some (.int .i64 P) ∧ w'.cell? ⟨w1.heap.size, 1, none⟩ = some (.int .i64 T) ∧ w'.cell? ⟨w1.heap.size, 2, none⟩ = some (.int .i64 R)) ∧ (w'.cell? ⟨w1.heap.size + 1, 0, none⟩ = some (.int .i64 P) ∧ w'.cell? ⟨w1.heap.size + 1, 1, none⟩ = some (.int .i64 T) ∧ w'.cell? ⟨w1.heap.size + 1, 2, none⟩ = some (.int .i64 R))) ∧ Below w1.heap.size w1 w')) (by kernel_rfl) ⟨c3.1, c3.2.drew⟩ (fun hHeld => ?_)
  refine wpAnyH_ready (rs := [0]) (by kernel_rfl) (by simp) ?_
  refine AllReadyH.cons (o := _) (op_at rfl) (fun K hK => ?_) AllReadyH.nil
  go_simp
  go_at_call 10
  refine (LA.out _).mono ?_
  rintro e w9 ⟨rfl, hbk⟩
  go_wp2_with fail
  refine hK.out _ _ ?_ (fun hHeld => ?_)
  focus exact planKeep2 hHeld hbk
  clear hK K
  (try simp only [Act.put, List.setIfInBounds_toArray, List.set_cons_zero, List.set_cons_succ])
  refine wpAnyH_take (i := 1) (oi := _) (v := ?_) (op_at rfl) (by kernel_rfl) (by kernel_rfl) (by kernel_rfl) (fun _ _ _ h => h) (Or.inl ⟨by rfl, ?_⟩) hHeld ?_
  rotate_left 1
  focus (intro W hSw; (try dsimp only at hSw); go_simp; (try (with_reducible rfl)))
  (try simp only [Act.put, List.setIfInBounds_toArray, List.set_cons_zero, List.set_cons_succ])
  refine wpAnyH_take (i := 2) (oi := _) (v := ?_) (op_at rfl) (by kernel_rfl) (by kernel_rfl) (by kernel_rfl) (fun _ _ _ h => h) (Or.inl ⟨by rfl, ?_⟩) hHeld ?_
  rotate_left 1
  focus (intro W hSw; (try dsimp only at hSw); go_simp; (try (with_reducible rfl)))
  (try simp only [Act.put, List.setIfInBounds_toArray, List.set_cons_zero, List.set_cons_succ])
  refine wpAnyH_take (i := 3) (oi := _) (v := ?_) (op_at rfl) (by kernel_rfl) (by kernel_rfl) (by kernel_rfl) (fun _ _ _ h => h) (Or.inl ⟨by rfl, ?_⟩) hHeld ?_
  rotate_left 1
  focus (intro W hSw; (try dsimp only at hSw); go_simp; (try (with_reducible rfl)))
  (try simp only [Act.put, List.setIfInBounds_toArray, List.set_cons_zero, List.set_cons_succ])
  refine wpAnyH_take (i := 4) (oi := _) (v := ?_) (op_at rfl) (by kernel_rfl) (by kernel_rfl) (by kernel_rfl) (fun _ _ _ h => h) (Or.inl ⟨by rfl, ?_⟩) hHeld ?_
  rotate_left 1
  focus (intro W hSw; (try dsimp only at hSw); go_simp; (try (with_reducible rfl)))
  (try simp only [Act.put, List.setIfInBounds_toArray, List.set_cons_zero, List.set_cons_succ])
  refine wpAnyH_take (i := 5) (oi := _) (v := ?_) (op_at rfl) (by kernel_rfl) (by kernel_rfl) (by kernel_rfl) (fun _ _ _ h => h) (Or.inl ⟨by rfl, ?_⟩) hHeld ?_
  rotate_left 1
  focus (intro W hSw; (try dsimp only at hSw); go_simp; (try (with_reducible rfl)))
  (try simp only [Act.put, List.setIfInBounds_toArray, List.set_cons_zero, List.set_cons_succ])
  refine wpAnyH_take (i := 6) (oi := _) (v := ?_) (op_at rfl) (by kernel_rfl) (by kernel_rfl) (by kernel_rfl) (fun _ _ _ h => h) (Or.inl ⟨by rfl, ?_⟩) hHeld ?_
  rotate_left 1
  focus (intro W hSw; (try dsimp only at hSw); go_simp; (try (with_reducible rfl)))
  (try simp only [Act.put, List.setIfInBounds_toArray, List.set_cons_zero, List.set_cons_succ])
  refine wpAnyH_take (i := 7) (oi := _) (v := ?_) (op_at rfl) (by kernel_rfl) (by kernel_rfl) (by kernel_rfl) (fun _ _ _ h => h) (Or.inl ⟨by rfl, ?_⟩) hHeld ?_
  rotate_left 1
  focus (intro W hSw; (try dsimp only at hSw); go_simp; (try (with_reducible rfl)))
  (try simp only [Act.put, List.setIfInBounds_toArray, List.set_cons_zero, List.set_cons_succ])
  refine wpAnyH_ready (rs := [8]) (by kernel_rfl) (by simp) ?_
  refine AllReadyH.cons (o := _) (op_at rfl) (fun K hK => ?_) AllReadyH.nil
  go_simp
  go_at_call 11
  refine (PL.out _).mono ?_
  rintro e w9 ⟨rfl, hbk⟩
  go_wp2_with fail
  refine hK.out _ _ ?_ (fun hHeld => ?_)
  focus exact planKeep2 hHeld hbk
  clear hK K
  (try simp only [Act.put, List.setIfInBounds_toArray, List.set_cons_zero, List.set_cons_succ])
  refine wpAnyH_take (i := 9) (oi := _) (v := ?_) (op_at rfl) (by kernel_rfl) (by kernel_rfl) (by kernel_rfl) (fun _ _ _ h => h) (Or.inl ⟨by rfl, ?_⟩) hHeld ?_
  rotate_left 1
  focus (intro W hSw; (try dsimp only at hSw); go_simp; (try (with_reducible rfl)))
  (try simp only [Act.put, List.setIfInBounds_toArray, List.set_cons_zero, List.set_cons_succ])
  refine wpAnyH_take (i := 10) (oi := _) (v := ?_) (op_at rfl) (by kernel_rfl) (by kernel_rfl) (by kernel_rfl) (fun _ _ _ h => h) (Or.inl ⟨by rfl, ?_⟩) hHeld ?_
  rotate_left 1
  focus (intro W hSw; (try dsimp only at hSw); go_simp; (try (with_reducible rfl)))
  (try simp only [Act.put, List.setIfInBounds_toArray, List.set_cons_zero, List.set_cons_succ])
  refine wpAnyH_take (i := 11) (oi := _) (v := ?_) (op_at rfl) (by kernel_rfl) (by kernel_rfl) (by kernel_rfl) (fun _ _ _ h => h) (Or.inl ⟨by rfl, ?_⟩) hHeld ?_
  rotate_left 1
  focus (intro W hSw; (try dsimp only at hSw); go_simp; (try (with_reducible rfl)))
  (try simp only [Act.put, List.setIfInBounds_toArray, List.set_cons_zero, List.set_cons_succ])
  refine wpAnyH_take (i := 12) (oi := _) (v := ?_) (op_at rfl) (by kernel_rfl) (by kernel_rfl) (by kernel_rfl) (fun _ _ _ h => h) (Or.inl ⟨by rfl, ?_⟩) hHeld ?_
  rotate_left 1
  focus (intro W hSw; (try dsimp only at hSw); go_simp; (try (with_reducible rfl)))
  (try simp only [Act.put, List.setIfInBounds_toArray, List.set_cons_zero, List.set_cons_succ])
  refine wpAnyH_take (i := 14) (oi := _) (v := ?_) (op_at rfl) (by kernel_rfl) (by kernel_rfl) (by kernel_rfl) (fun _ _ _ h => h) (Or.inl ⟨by rfl, ?_⟩) hHeld ?_
  rotate_left 1
  focus (intro W hSw; (try dsimp only at hSw); go_simp; (try (with_reducible rfl)))
  (try simp only [Act.put, List.setIfInBounds_toArray, List.set_cons_zero, List.set_cons_succ])
  refine wpAnyH_ready (rs := [13]) (by kernel_rfl) (by simp) ?_
  refine AllReadyH.cons (o := _) (op_at rfl) (fun K hK => ?_) AllReadyH.nil
  go_simp
  go_at_call 12
  refine (CE.out _).mono ?_
  rintro e w9 ⟨rfl, hbk⟩
  go_wp2_with fail
  refine hK.out _ _ ?_ (fun hHeld => ?_)
  focus exact planKeep2 hHeld hbk
  clear hK K
  (try simp only [Act.put, List.setIfInBounds_toArray, List.set_cons_zero, List.set_cons_succ])
  refine wpAnyH_ready (rs := [15]) (by kernel_rfl) (by simp) ?_
  refine AllReadyH.cons (o := _) (op_at rfl) (fun K hK => ?_) AllReadyH.nil
  go_simp
  go_at_call 14
  refine (RC.out _).mono ?_
  rintro e w9 ⟨rfl, hbk⟩
  go_wp2_with fail
  refine hK.out _ _ ?_ (fun hHeld => ?_)
  focus exact planKeep2 hHeld hbk
  clear hK K
  (try simp only [Act.put, List.setIfInBounds_toArray, List.set_cons_zero, List.set_cons_succ])
  refine wpAnyH_take (i := 16) (oi := _) (v := ?_) (op_at rfl) (by kernel_rfl) (by kernel_rfl) (by kernel_rfl) (fun _ _ _ h => h) (Or.inl ⟨by rfl, ?_⟩) hHeld ?_
  rotate_left 1
  focus (intro W hSw; (try dsimp only at hSw); go_simp; (try (with_reducible rfl)))
  (try simp only [Act.put, List.setIfInBounds_toArray, List.set_cons_zero, List.set_cons_succ])
  refine wpAnyH_take (i := 17) (oi := _) (v := ?_) (op_at rfl) (by kernel_rfl) (by kernel_rfl) (by kernel_rfl) (fun _ _ _ h => h) (Or.inl ⟨by rfl, ?_⟩) hHeld ?_
  rotate_left 1
  focus (intro W hSw; (try dsimp only at hSw); go_simp; (try (with_reducible rfl)))
  (try simp only [Act.put, List.setIfInBounds_toArray, List.set_cons_zero, List.set_cons_succ])
  refine wpAnyH_take (i := 18) (oi := _) (v := ?_) (op_at rfl) (by kernel_rfl) (by kernel_rfl) (by kernel_rfl) (fun _ _ _ h => h) (Or.inl ⟨by rfl, ?_⟩) hHeld ?_
  rotate_left 1
  focus (intro W hSw; (try dsimp only at hSw); go_simp; (try (with_reducible rfl)))
  (try simp only [Act.put, List.setIfInBounds_toArray, List.set_cons_zero, List.set_cons_succ])
  refine wpAnyH_take (i := 19) (oi := _) (v := ?_) (op_at rfl) (by kernel_rfl) (by kernel_rfl) (by kernel_rfl) (fun _ _ _ h => h) (Or.inl ⟨by rfl, ?_⟩) hHeld ?_
  rotate_left 1
  focus (intro W hSw; (try dsimp only at hSw); go_simp; (try (with_reducible rfl)))
  (try simp only [Act.put, List.setIfInBounds_toArray, List.set_cons_zero, List.set_cons_succ])
  refine wpAnyH_take (i := 21) (oi := _) (v := ?_) (op_at rfl) (by kernel_rfl) (by kernel_rfl) (by kernel_rfl) (fun _ _ _ h => h) (Or.inl ⟨by rfl, ?_⟩) hHeld ?_
  rotate_left 1
  focus (intro W hSw; (try dsimp only at hSw); go_simp; (try (with_reducible rfl)))
  (try simp only [Act.put, List.setIfInBounds_toArray, List.set_cons_zero, List.set_cons_succ])
  refine wpAnyH_ready (rs := [20]) (by kernel_rfl) (by simp) ?_
  refine AllReadyH.cons (o := _) (op_at rfl) (fun K hK => ?_) AllReadyH.nil
  go_simp
  go_at_call 13
  refine (BA.out _).mono ?_
  rintro e w9 ⟨rfl, hbk⟩
  go_wp2_with fail
  refine hK.out _ _ ?_ (fun hHeld => ?_)
  focus exact planKeep2 hHeld hbk
  clear hK K
  (try simp only [Act.put, List.setIfInBounds_toArray, List.set_cons_zero, List.set_cons_succ])
  refine wpAnyH_ready (rs := [22]) (by kernel_rfl) (by simp) ?_
  refine AllReadyH.cons (o := _) (op_at rfl) (fun K hK => ?_) AllReadyH.nil
  go_simp
  go_at_call 15
  refine (RB.out _).mono ?_
  rintro e w9 ⟨rfl, hbk⟩
  go_wp2_with fail
  refine hK.out _ _ ?_ (fun hHeld => ?_)
  focus exact planKeep2 hHeld hbk
  clear hK K
  (try simp only [Act.put, List.setIfInBounds_toArray, List.set_cons_zero, List.set_cons_succ])
  refine wpAnyH_take (i := 23) (oi := _) (v := ?_) (op_at rfl) (by kernel_rfl) (by kernel_rfl) (by kernel_rfl) (fun _ _ _ h => h) (Or.inl ⟨by rfl, ?_⟩) hHeld ?_
  rotate_left 1
  focus (intro W hSw; (try dsimp only at hSw); go_simp; (try (with_reducible rfl)))
  (try simp only [Act.put, List.setIfInBounds_toArray, List.set_cons_zero, List.set_cons_succ])
  refine wpAnyH_take (i := 24) (oi := _) (v := ?_) (op_at rfl) (by kernel_rfl) (by kernel_rfl) (by kernel_rfl) (fun _ _ _ h => h) (Or.inl ⟨by rfl, ?_⟩) hHeld ?_
  rotate_left 1
  focus (intro W hSw; (try dsimp only at hSw); go_simp; (try (with_reducible rfl)))
  (try simp only [Act.put, List.setIfInBounds_toArray, List.set_cons_zero, List.set_cons_succ])
  refine wpAnyH_take (i := 25) (oi := _) (v := ?_) (op_at rfl) (by kernel_rfl) (by kernel_rfl) (by kernel_rfl) (fun _ _ _ h => h) (Or.inl ⟨by rfl, ?_⟩) hHeld ?_
  rotate_left 1
  focus (intro W hSw; (try dsimp only at hSw); go_simp; (try (with_reducible rfl)))
  (try simp only [Act.put, List.setIfInBounds_toArray, List.set_cons_zero, List.set_cons_succ])
  refine wpAnyH_done (by kernel_rfl) ?_ _
  have c9 := planHeld2 hHeld
  go_wp2
  go_ret
  exact ⟨rfl, hb1.trans (c9.2.mono hb1.size)⟩
set_option maxHeartbeats 1000000 in
theorem lnew_no (P T R : Int) (w : World) (h : rightB P T R = false) :
    Calls Try.prog 3 #[.int .i64 P, .int .i64 T, .int .i64 R] w fun e w' => e = .returned (.bool true) ∧ Below w.heap.size w w' := by
  have N := Lib.hid (fun W => new_no P T R W h)
  have LA := Lib.hid (fun W => laid_any W)
  have RR := fun W => rright_any P T R W
  rw [h] at RR
  have RR := Lib.hid RR
  have PL := Lib.hid (fun W => plan_any P T R W)
  have CE := Lib.hid (fun W => cells_no P T R W h)
  have BA := Lib.hid (fun W => base_no P T R W h)
  have hE := fun W => eq_plan_self W 0 0 0
  have hG := guard_plan
  go_enter Try.func3, Try.ntmps3
  go_wp2_with fail
  refine (N.out _).mono ?_; rintro e w1 ⟨rfl, hb1⟩
  have c2 : (((w1.alloc (.cells #[.int .i64 0, .int .i64 0, .int .i64 0] 23)).alloc (.cells #[.int .i64 P, .int .i64 T, .int .i64 R] 27)).cell? ⟨w1.heap.size, 0, none⟩ = some (.int .i64 0) ∧ ((w1.alloc (.cells #[.int .i64 0, .int .i64 0, .int .i64 0] 23)).alloc (.cells #[.int .i64 P, .int .i64 T, .int .i64 R] 27)).cell? ⟨w1.heap.size, 1, none⟩ = some (.int .i64 0) ∧ ((w1.alloc (.cells #[.int .i64 0, .int .i64 0, .int .i64 0] 23)).alloc (.cells #[.int .i64 P, .int .i64 T, .int .i64 R] 27)).cell? ⟨w1.heap.size, 2, none⟩ = some (.int .i64 0)) ∧ Below w1.heap.size w1 ((w1.alloc (.cells #[.int .i64 0, .int .i64 0, .int .i64 0] 23)).alloc (.cells #[.int .i64 P, .int .i64 T, .int .i64 R] 27)) := planKeep (planNew w1 0 0 0 23) ((Below.refl _ _).alloc (Nat.le_refl _) _)
  have Y2 : Blk ((w1.alloc (.cells #[.int .i64 0, .int .i64 0, .int .i64 0] 23)).alloc (.cells #[.int .i64 P, .int .i64 T, .int .i64 R] 27)) (w1.heap.size + 1) #[.int .i64 P, .int .i64 T, .int .i64 R] 27 := Blk.new' (by simp)
  have c2 := And.intro (And.intro c2.1 (And.intro (Y2.val 0 rfl) (And.intro (Y2.val 1 rfl) (Y2.val 2 rfl)))) c2.2
  go_wp2_with fail
  refine (RR.out _).mono ?_; rintro e w3 ⟨rfl, hb3⟩
  have c3 := planKeep2 c2 hb3
  obtain ⟨⟨d30, d31, d32⟩, ⟨q30, q31, q32⟩⟩ := c3.1
  go_wp2_with fail
  refine (LA.out _).mono ?_; rintro e w4 ⟨rfl, hb4⟩
  have c4 := planKeep2 c3 hb4
  obtain ⟨⟨d40, d41, d42⟩, ⟨q40, q41, q42⟩⟩ := c4.1
  go_wp2_with fail
  refine (PL.out _).mono ?_; rintro e w5 ⟨rfl, hb5⟩
  have c5 := planKeep2 c4 hb5
  obtain ⟨⟨d50, d51, d52⟩, ⟨q50, q51, q52⟩⟩ := c5.1
  go_wp2_with fail
  refine (CE.out _).mono ?_; rintro e w6 ⟨rfl, hb6⟩
  have c6 := planKeep2 c5 hb6
  obtain ⟨⟨d60, d61, d62⟩, ⟨q60, q61, q62⟩⟩ := c6.1
  go_wp2_with fail
  refine (PL.out _).mono ?_; rintro e w7 ⟨rfl, hb7⟩
  have c7 := planKeep2 c6 hb7
  obtain ⟨⟨d70, d71, d72⟩, ⟨q70, q71, q72⟩⟩ := c7.1
  go_wp2_with fail
  refine (BA.out _).mono ?_; rintro e w8 ⟨rfl, hb8⟩
  have c8 := planKeep2 c7 hb8
  obtain ⟨⟨d80, d81, d82⟩, ⟨q80, q81, q82⟩⟩ := c8.1
  go_wp2
  go_ret
  exact ⟨rfl, hb1.trans (c8.2.mono hb1.size)⟩
theorem lnew_law (P T R : Int) (w : World) (_ : (Lit.int .i64 P).wf = true) (_ : (Lit.int .i64 T).wf = true) (_ : (Lit.int .i64 R).wf = true) :
    Calls Try.prog 3 #[.int .i64 P, .int .i64 T, .int .i64 R] w fun e w' => e = .returned (.bool true) ∧ Below w.heap.size w w' := by
  cases h : rightB P T R with
  | false => exact lnew_no P T R w h
  | true => exact lnew_yes P T R w (right_of h)
end Go.Proofs.Ytgfajicccalhlaa
