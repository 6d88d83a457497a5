/- Texts of this seat, one behind the other: each says at its head what it holds. No condition of its own. -/
import Derived.Maps.AppendAt
import Derived.Laws.StructEq
import Derived.Test.YtpoddnfooaddgaaGreatDoorGObjectsBuilds01
/- What the functions of package layout return that tell where a word of the heap stands, and of which page a cell is. No condition but that the numbers fit their kinds. -/
namespace Go.Proofs.YtpoddnfooaddgaaGreatDoor
open Go.RowKit

def addrI (P T R pg at' : Int) : Int := if rightB P T R && (inB pg 0 (P - 1) && inB at' 0 63) then baseI P T R + 64 * pg + at' else -1
set_option maxHeartbeats 400000 in
theorem addr_any (P T R pg at' : Int) (w : World) :
    Calls Tryz.prog 75 #[.agg #[.int .i64 P, .int .i64 T, .int .i64 R], .int .i64 pg, .int .i64 at'] w fun e w' => e = .returned (.int .i64 (addrI P T R pg at')) ∧ Below w.heap.size w w' := by
  have V := Lib.hid (fun W => valid_anyLay P T R W)
  unfold addrI
  cases hr : rightB P T R with
  | false =>
    rw [hr] at V
    go_enter Tryz.func75, Tryz.ntmps75
    have c0 := (planNew w P T R 42)
    go_wp2_with fail
    refine (V.out _).mono ?_; rintro e w1 ⟨rfl, hb1⟩
    have c1 := planKeep c0 hb1
    obtain ⟨d10, d11, d12⟩ := c1.1
    go_wp2
    go_ret
    exact ⟨rfl, c1.2⟩
  | true =>
    rw [hr] at V
    have hR := right_of hr
    have W1 := Lib.hid (fun W => within_anyLay pg 0 (P - 1) W)
    have W2 := Lib.hid (fun W => within_anyLay at' 0 63 W)
    have C := Lib.hid (fun W => base_yes P T R W hR)
    have hb := base_bd hR
    generalize baseI P T R = z at *
    obtain ⟨hb1, hb2, _⟩ := hb
    obtain ⟨⟨h1, h2⟩, _⟩ := hR
    clear hr
    cases hi : inB pg 0 (P - 1) with
    | false =>
      rw [hi] at W1
      clear hi
      go_enter Tryz.func75, Tryz.ntmps75
      have c0 := (planNew w P T R 42)
      go_wp2_with fail
      refine (V.out _).mono ?_; rintro e w1 ⟨rfl, hb1⟩
      have c1 := planKeep c0 hb1
      obtain ⟨d10, d11, d12⟩ := c1.1
      go_wp2_with fail
      refine (W1.out _).mono ?_; rintro e w2 ⟨rfl, hb2⟩
      have c2 := planKeep c1 hb2
      obtain ⟨d20, d21, d22⟩ := c2.1
      go_wp2
      go_ret
      exact ⟨rfl, c2.2⟩
    | true =>
      rw [hi] at W1
      simp [inB] at hi
      obtain ⟨i0, i1⟩ := hi
      have i2 : pg < P := by omega
      clear i1
      cases hj : inB at' 0 63 with
      | false =>
        rw [hj] at W2
        clear hj
        go_enter Tryz.func75, Tryz.ntmps75
        have c0 := (planNew w P T R 42)
        go_wp2_with fail
        refine (V.out _).mono ?_; rintro e w1 ⟨rfl, hb1⟩
        have c1 := planKeep c0 hb1
        obtain ⟨d10, d11, d12⟩ := c1.1
        go_wp2_with fail
        refine (W1.out _).mono ?_; rintro e w2 ⟨rfl, hb2⟩
        have c2 := planKeep c1 hb2
        obtain ⟨d20, d21, d22⟩ := c2.1
        go_wp2_with fail
        refine (W2.out _).mono ?_; rintro e w3 ⟨rfl, hb3⟩
        have c3 := planKeep c2 hb3
        obtain ⟨d30, d31, d32⟩ := c3.1
        go_wp2
        go_ret
        exact ⟨rfl, c3.2⟩
      | true =>
        rw [hj] at W2
        simp [inB] at hj
        obtain ⟨j0, j1⟩ := hj
        have k1 : IntKind.i64.wrap (pg * 64) = pg * 64 := wi (by omega)
        have k2 : IntKind.i64.wrap (z + pg * 64) = z + pg * 64 := wi (by omega)
        have k3 : IntKind.i64.wrap (z + pg * 64 + at') = z + pg * 64 + at' := wi (by omega)
        go_enter Tryz.func75, Tryz.ntmps75
        have c0 := (planNew w P T R 42)
        go_wp2_with fail
        refine (V.out _).mono ?_; rintro e w1 ⟨rfl, hb1⟩
        have c1 := planKeep c0 hb1
        obtain ⟨d10, d11, d12⟩ := c1.1
        go_wp2_with fail
        refine (W1.out _).mono ?_; rintro e w2 ⟨rfl, hb2⟩
        have c2 := planKeep c1 hb2
        obtain ⟨d20, d21, d22⟩ := c2.1
        go_wp2_with fail
        refine (W2.out _).mono ?_; rintro e w3 ⟨rfl, hb3⟩
        have c3 := planKeep c2 hb3
        obtain ⟨d30, d31, d32⟩ := c3.1
        go_wp2_with fail
        refine (C.out _).mono ?_; rintro e w4 ⟨rfl, hb4⟩
        have c4 := planKeep c3 hb4
        obtain ⟨d40, d41, d42⟩ := c4.1
        go_wp2
        go_ret
        exact ⟨ret_int (by simp <;> omega), c4.2⟩
/-- is it a cell of the heap? -/
def heapB (P T R at' : Int) : Bool := rightB P T R && inB at' (baseI P T R) (baseI P T R + 64 * P - 1)
set_option maxHeartbeats 400000 in
theorem heap_any (P T R at' : Int) (w : World) :
    Calls Tryz.prog 108 #[.agg #[.int .i64 P, .int .i64 T, .int .i64 R], .int .i64 at'] w fun e w' => e = .returned (.bool (heapB P T R at')) ∧ Below w.heap.size w w' := by
  have V := Lib.hid (fun W => valid_anyLay P T R W)
  unfold heapB
  cases hr : rightB P T R with
  | false =>
    rw [hr] at V
    go_enter Tryz.func108, Tryz.ntmps108
    have c0 := (planNew w P T R 42)
    go_wp2_with fail
    refine wp_region_held_drew (S := (fun w' => (w'.cell? ⟨w.heap.size, 0, none⟩ = some (.int .i64 P) ∧ w'.cell? ⟨w.heap.size, 1, none⟩ = some (.int .i64 T) ∧ w'.cell? ⟨w.heap.size, 2, none⟩ = some (.int .i64 R)) ∧ Below w.heap.size w w')) (by kernel_rfl) ⟨c0.1, c0.2.drew⟩ (fun hHeld => ?_)
    refine wpAnyH_take (i := 0) (oi := _) (v := ?_) (op_at rfl) (by kernel_rfl) (by kernel_rfl) (by kernel_rfl) (fun _ _ _ h => h) (Or.inl ⟨by rfl, ?_⟩) hHeld ?_
    rotate_left 1
    focus (intro W hSw; (try dsimp only at hSw); go_simp; (try (with_reducible rfl)))
    (try simp only [Act.put, List.setIfInBounds_toArray, List.set_cons_zero, List.set_cons_succ])
    refine wpAnyH_ready (rs := [1]) (by kernel_rfl) (by simp) ?_
    refine AllReadyH.cons (o := _) (op_at rfl) (fun K hK => ?_) AllReadyH.nil
    go_simp
    go_at_call 100
    refine (V.out _).mono ?_
    rintro e w9 ⟨rfl, hbk⟩
    go_wp2_with fail
    refine hK.out _ _ ?_ (fun hHeld => ?_)
    focus exact planKeep hHeld hbk
    clear hK K
    (try simp only [Act.put, List.setIfInBounds_toArray, List.set_cons_zero, List.set_cons_succ])
    refine wpAnyH_take (i := 2) (oi := _) (v := ?_) (op_at rfl) (by kernel_rfl) (by kernel_rfl) (by kernel_rfl) (fun _ _ _ h => h) (Or.inl ⟨by rfl, ?_⟩) hHeld ?_
    rotate_left 1
    focus (intro W hSw; (try dsimp only at hSw); go_simp; (try (with_reducible rfl)))
    (try simp only [Act.put, List.setIfInBounds_toArray, List.set_cons_zero, List.set_cons_succ])
    refine wpAnyH_take (i := 3) (oi := _) (v := undef) (op_at rfl) (by kernel_rfl) (by kernel_rfl) (by kernel_rfl) (fun _ _ _ h => h) (Or.inr ⟨by rfl, rfl⟩) hHeld ?_
    (try simp only [Act.put, List.setIfInBounds_toArray, List.set_cons_zero, List.set_cons_succ])
    refine wpAnyH_take (i := 4) (oi := _) (v := undef) (op_at rfl) (by kernel_rfl) (by kernel_rfl) (by kernel_rfl) (fun _ _ _ h => h) (Or.inr ⟨by rfl, rfl⟩) hHeld ?_
    (try simp only [Act.put, List.setIfInBounds_toArray, List.set_cons_zero, List.set_cons_succ])
    refine wpAnyH_take (i := 5) (oi := _) (v := undef) (op_at rfl) (by kernel_rfl) (by kernel_rfl) (by kernel_rfl) (fun _ _ _ h => h) (Or.inr ⟨by rfl, rfl⟩) hHeld ?_
    (try simp only [Act.put, List.setIfInBounds_toArray, List.set_cons_zero, List.set_cons_succ])
    refine wpAnyH_take (i := 6) (oi := _) (v := undef) (op_at rfl) (by kernel_rfl) (by kernel_rfl) (by kernel_rfl) (fun _ _ _ h => h) (Or.inr ⟨by rfl, rfl⟩) hHeld ?_
    (try simp only [Act.put, List.setIfInBounds_toArray, List.set_cons_zero, List.set_cons_succ])
    refine wpAnyH_take (i := 7) (oi := _) (v := undef) (op_at rfl) (by kernel_rfl) (by kernel_rfl) (by kernel_rfl) (fun _ _ _ h => h) (Or.inr ⟨by rfl, rfl⟩) hHeld ?_
    (try simp only [Act.put, List.setIfInBounds_toArray, List.set_cons_zero, List.set_cons_succ])
    refine wpAnyH_take (i := 8) (oi := _) (v := undef) (op_at rfl) (by kernel_rfl) (by kernel_rfl) (by kernel_rfl) (fun _ _ _ h => h) (Or.inr ⟨by rfl, rfl⟩) hHeld ?_
    (try simp only [Act.put, List.setIfInBounds_toArray, List.set_cons_zero, List.set_cons_succ])
    refine wpAnyH_take (i := 9) (oi := _) (v := undef) (op_at rfl) (by kernel_rfl) (by kernel_rfl) (by kernel_rfl) (fun _ _ _ h => h) (Or.inr ⟨by rfl, rfl⟩) hHeld ?_
    (try simp only [Act.put, List.setIfInBounds_toArray, List.set_cons_zero, List.set_cons_succ])
    refine wpAnyH_take (i := 10) (oi := _) (v := ?_) (op_at rfl) (by kernel_rfl) (by kernel_rfl) (by kernel_rfl) (fun _ _ _ h => h) (Or.inl ⟨by rfl, ?_⟩) hHeld ?_
    rotate_left 1
    focus (intro W hSw; (try dsimp only at hSw); go_simp; (try (with_reducible rfl)))
    (try simp only [Act.put, List.setIfInBounds_toArray, List.set_cons_zero, List.set_cons_succ])
    refine wpAnyH_take (i := 11) (oi := _) (v := ?_) (op_at rfl) (by kernel_rfl) (by kernel_rfl) (by kernel_rfl) (fun _ _ _ h => h) (Or.inl ⟨by rfl, ?_⟩) hHeld ?_
    rotate_left 1
    focus (intro W hSw; (try dsimp only at hSw); go_simp; (try (with_reducible rfl)))
    (try simp only [Act.put, List.setIfInBounds_toArray, List.set_cons_zero, List.set_cons_succ])
    refine wpAnyH_done (by kernel_rfl) ?_ _
    have c9 := planHeld hHeld
    go_wp2
    go_ret
    exact ⟨rfl, c9.2⟩
  | true =>
    rw [hr] at V
    have hR := right_of hr
    have C := Lib.hid (fun W => base_yes P T R W hR)
    have D := Lib.hid (fun W => cells_yes P T R W hR)
    have hb := base_bd hR
    have W1 := Lib.hid (fun W => within_anyLay at' (baseI P T R) (baseI P T R + 64 * P - 1) W)
    generalize inB at' (baseI P T R) (baseI P T R + 64 * P - 1) = b at *
    generalize baseI P T R = z at *
    obtain ⟨hb1, hb2, _⟩ := hb
    obtain ⟨⟨h1, h2⟩, _⟩ := hR
    have k4 : IntKind.i64.wrap (z + 64 * P - 1) = z + 64 * P - 1 := wi (by omega)
    clear hr
    go_enter Tryz.func108, Tryz.ntmps108
    have c0 := (planNew w P T R 42)
    go_wp2_with fail
    go_region_held3 (fun w' => (w'.cell? ⟨w.heap.size, 0, none⟩ = some (.int .i64 P) ∧ w'.cell? ⟨w.heap.size, 1, none⟩ = some (.int .i64 T) ∧ w'.cell? ⟨w.heap.size, 2, none⟩ = some (.int .i64 R)) ∧ Below w.heap.size w w')
      (first | exact c0 | exact ⟨c0.1, c0.2.drew⟩ | exact planKeep (by assumption) hbk)
      (first | (go_at_call 100; refine (V.out _).mono ?_; rintro e w9 ⟨rfl, hbk⟩) | (go_at_call 101; refine (C.out _).mono ?_; rintro e w9 ⟨rfl, hbk⟩) | (go_at_call 72; refine (D.out _).mono ?_; rintro e w9 ⟨rfl, hbk⟩) | (go_at_call 105; refine (W1.out _).mono ?_; rintro e w9 ⟨rfl, hbk⟩))
    have c1 := planHeld (by assumption)
    go_wp2
    go_ret
    exact ⟨rfl, c1.2⟩
def placeI (P T R at' : Int) : Int × Int := if heapB P T R at' then ((at' - baseI P T R) / 64, (at' - baseI P T R) % 64) else (-1, -1)
set_option maxHeartbeats 400000 in
theorem place_any (P T R at' : Int) (w : World) :
    Calls Tryz.prog 83 #[.agg #[.int .i64 P, .int .i64 T, .int .i64 R], .int .i64 at'] w fun e w' => e = .returned (.tuple #[.int .i64 (placeI P T R at').1, .int .i64 (placeI P T R at').2]) ∧ Below w.heap.size w w' := by
  have V := Lib.hid (fun W => heap_any P T R at' W)
  unfold placeI
  cases hh : heapB P T R at' with
  | false =>
    rw [hh] at V
    go_enter Tryz.func83, Tryz.ntmps83
    have c0 := (planNew w P T R 42)
    go_wp2_with fail
    refine (V.out _).mono ?_; rintro e w1 ⟨rfl, hb1⟩
    have c1 := planKeep c0 hb1
    obtain ⟨d10, d11, d12⟩ := c1.1
    go_wp2
    go_ret2
    exact ⟨rfl, c1.2⟩
  | true =>
    rw [hh] at V
    have hh' := hh
    unfold heapB at hh'
    rw [Bool.and_eq_true] at hh'
    obtain ⟨hr, hi⟩ := hh'
    have hR := right_of hr
    have C := Lib.hid (fun W => base_yes P T R W hR)
    have hb := base_bd hR
    clear hh hr
    generalize baseI P T R = z at *
    simp [inB] at hi
    obtain ⟨hb1, hb2, _⟩ := hb
    obtain ⟨⟨h1, h2⟩, _⟩ := hR
    have hd0 : 0 ≤ at' - z := by omega
    have hd1 : at' - z < 2048 := by omega
    go_enter Tryz.func83, Tryz.ntmps83
    have c0 := (planNew w P T R 42)
    go_wp2_with fail
    refine (V.out _).mono ?_; rintro e w1 ⟨rfl, hb1⟩
    have c1 := planKeep c0 hb1
    obtain ⟨d10, d11, d12⟩ := c1.1
    go_wp2_with fail
    refine (C.out _).mono ?_; rintro e w2 ⟨rfl, hb2⟩
    have c2 := planKeep c1 hb2
    obtain ⟨d20, d21, d22⟩ := c2.1
    go_wp2
    go_ret2
    exact ⟨rfl, c2.2⟩
def refB (P T R x : Int) : Bool := decide (x < 4096) && heapB P T R x
end Go.Proofs.YtpoddnfooaddgaaGreatDoor
/- What each cell of a plan is for, in numbers; and where it stands. Condition: the plan's numbers are in their bounds. -/
namespace Go.Proofs.YtpoddnfooaddgaaGreatDoor
open Go.RowKit

/-- what a cell is for: kind, i, j -/
def findK (P T R a : Int) : Int :=
  if a = 0 ∨ a = 7 then 0 else if a < 8 then 1 else if a < 16 then 2
  else if a < tabI T R then (if (a - 16) % (5 + R) < 5 then 3 else 4)
  else if a < baseI P T R then (if 3 ≤ (a - tabI T R) / P then 0 else 5 + (a - tabI T R) / P) else 8
def findA (P T R a : Int) : Int :=
  if a = 0 ∨ a = 7 then 0 else if a < 8 then a else if a < 16 then a - 8
  else if a < tabI T R then (a - 16) / (5 + R)
  else if a < baseI P T R then (if 3 ≤ (a - tabI T R) / P then 0 else (a - tabI T R) % P) else (a - baseI P T R) / 64
def findB (P T R a : Int) : Int :=
  if a = 0 ∨ a = 7 then 0 else if a < 8 then 0 else if a < 16 then 0
  else if a < tabI T R then (if (a - 16) % (5 + R) < 5 then (a - 16) % (5 + R) else (a - 16) % (5 + R) - 5)
  else if a < baseI P T R then 0 else (a - baseI P T R) % 64
/-- where what is so named stands -/
def posI (P T R k i j : Int) : Int :=
  if k = 1 then i else if k = 2 then 8 + i else if k = 3 then 16 + i * (5 + R) + j else if k = 4 then 16 + i * (5 + R) + (5 + j)
  else if k = 5 then tabI T R + i else if k = 6 then tabI T R + P + i else if k = 7 then tabI T R + 2 * P + i else baseI P T R + 64 * i + j
/-- may it be named so? -/
def okI (P T R k i j : Int) : Prop :=
  (k = 1 ∧ 1 ≤ i ∧ i ≤ 6 ∧ j = 0) ∨ (k = 2 ∧ 0 ≤ i ∧ i ≤ 7 ∧ j = 0) ∨ (k = 3 ∧ 0 ≤ i ∧ i < T ∧ 0 ≤ j ∧ j ≤ 4) ∨ (k = 4 ∧ 0 ≤ i ∧ i < T ∧ 0 ≤ j ∧ j < R) ∨
  (k = 5 ∧ 0 ≤ i ∧ i < P ∧ j = 0) ∨ (k = 6 ∧ 0 ≤ i ∧ i < P ∧ j = 0) ∨ (k = 7 ∧ 0 ≤ i ∧ i < P ∧ j = 0) ∨ (k = 8 ∧ 0 ≤ i ∧ i < P ∧ 0 ≤ j ∧ j < 64)
theorem div_lt {a m t : Int} (hm : 0 < m) (h : a < t * m) : a / m < t := Int.ediv_lt_of_lt_mul hm h
theorem mul_le_of {i T m : Int} (h : i < T) (hm : 0 < m) : i * m + m ≤ T * m := by
  have h1 : i + 1 ≤ T := by omega
  have h2 := Int.mul_le_mul_of_nonneg_right h1 (Int.le_of_lt hm)
  rw [Int.add_mul, Int.one_mul] at h2
  exact h2
theorem div_mul_add {i m j : Int} (hm : 0 < m) (h0 : 0 ≤ j) (h1 : j < m) : (i * m + j) / m = i ∧ (i * m + j) % m = j := by
  constructor
  · rw [Int.add_comm, Int.add_mul_ediv_right _ _ (by omega), Int.ediv_eq_zero_of_lt h0 h1]; omega
  · rw [Int.add_comm, Int.add_mul_emod_self_right, Int.emod_eq_of_lt h0 h1]
theorem find_1 {P T R a : Int} (c : ¬ (a = 0 ∨ a = 7)) (c1 : a < 8) : findK P T R a = 1 ∧ findA P T R a = a ∧ findB P T R a = 0 := by
  unfold findK findA findB; simp only [c, c1, if_true, if_false]; exact ⟨by trivial, by trivial, by trivial⟩
theorem find_2 {P T R a : Int} (c1 : 8 ≤ a) (c2 : a < 16) : findK P T R a = 2 ∧ findA P T R a = a - 8 ∧ findB P T R a = 0 := by
  have c : ¬ (a = 0 ∨ a = 7) := by omega
  have c1' : ¬ a < 8 := by omega
  unfold findK findA findB; simp only [c, c1', c2, if_true, if_false]; exact ⟨by trivial, by trivial, by trivial⟩
theorem find_3 {P T R a : Int} (c1 : 16 ≤ a) (c2 : a < tabI T R) : findK P T R a = (if (a - 16) % (5 + R) < 5 then 3 else 4) ∧ findA P T R a = (a - 16) / (5 + R) ∧ findB P T R a = (if (a - 16) % (5 + R) < 5 then (a - 16) % (5 + R) else (a - 16) % (5 + R) - 5) := by
  have c : ¬ (a = 0 ∨ a = 7) := by omega
  have c1' : ¬ a < 8 := by omega
  have c1'' : ¬ a < 16 := by omega
  unfold findK findA findB; simp only [c, c1', c1'', c2, if_true, if_false]; exact ⟨by trivial, by trivial, by trivial⟩
theorem find_5 {P T R a : Int} (c1 : 16 ≤ a) (c2 : tabI T R ≤ a) (c3 : a < baseI P T R) : findK P T R a = (if 3 ≤ (a - tabI T R) / P then 0 else 5 + (a - tabI T R) / P) ∧ findA P T R a = (if 3 ≤ (a - tabI T R) / P then 0 else (a - tabI T R) % P) ∧ findB P T R a = 0 := by
  have c : ¬ (a = 0 ∨ a = 7) := by omega
  have c1' : ¬ a < 8 := by omega
  have c1'' : ¬ a < 16 := by omega
  have c2' : ¬ a < tabI T R := by omega
  unfold findK findA findB; simp only [c, c1', c1'', c2', c3, if_true, if_false]; exact ⟨by trivial, by trivial, by trivial⟩
theorem find_8 {P T R a : Int} (c1 : 16 ≤ a) (c2 : tabI T R ≤ a) (c3 : baseI P T R ≤ a) : findK P T R a = 8 ∧ findA P T R a = (a - baseI P T R) / 64 ∧ findB P T R a = (a - baseI P T R) % 64 := by
  have c : ¬ (a = 0 ∨ a = 7) := by omega
  have c1' : ¬ a < 8 := by omega
  have c1'' : ¬ a < 16 := by omega
  have c2' : ¬ a < tabI T R := by omega
  have c3' : ¬ a < baseI P T R := by omega
  unfold findK findA findB; simp only [c, c1', c1'', c2', c3', if_false]; exact ⟨by trivial, by trivial, by trivial⟩
theorem pos_1 (P T R i j : Int) : posI P T R 1 i j = i := rfl
theorem pos_2 (P T R i j : Int) : posI P T R 2 i j = 8 + i := rfl
theorem pos_3 (P T R i j : Int) : posI P T R 3 i j = 16 + i * (5 + R) + j := rfl
theorem pos_4 (P T R i j : Int) : posI P T R 4 i j = 16 + i * (5 + R) + (5 + j) := rfl
theorem pos_5 (P T R i j : Int) : posI P T R 5 i j = tabI T R + i := rfl
theorem pos_6 (P T R i j : Int) : posI P T R 6 i j = tabI T R + P + i := rfl
theorem pos_7 (P T R i j : Int) : posI P T R 7 i j = tabI T R + 2 * P + i := rfl
theorem pos_8 (P T R i j : Int) : posI P T R 8 i j = baseI P T R + 64 * i + j := rfl
/-- what stands where it is said to -/
theorem find_pos {P T R k i j : Int} (h : Right P T R) (ho : okI P T R k i j) :
    (findK P T R (posI P T R k i j) = k ∧ findA P T R (posI P T R k i j) = i ∧ findB P T R (posI P T R k i j) = j) ∧ 0 ≤ posI P T R k i j ∧ posI P T R k i j < baseI P T R + 64 * P := by
  have ht := tab_bd h
  have hb := base_bd h
  obtain ⟨⟨p1, p2⟩, ⟨t1, t2⟩, r1, r2⟩ := h
  have htab : tabI T R = 16 + T * (5 + R) := rfl
  rcases ho with ⟨rfl, h1, h2, rfl⟩ | ⟨rfl, h1, h2, rfl⟩ | ⟨rfl, h1, h2, h3, h4⟩ | ⟨rfl, h1, h2, h3, h4⟩ | ⟨rfl, h1, h2, rfl⟩ | ⟨rfl, h1, h2, rfl⟩ | ⟨rfl, h1, h2, rfl⟩ | ⟨rfl, h1, h2, h3, h4⟩
  · rw [pos_1]
    exact ⟨find_1 (by omega) (by omega), by omega, by omega⟩
  · rw [pos_2]
    obtain ⟨e1, e2, e3⟩ := find_2 (P := P) (T := T) (R := R) (a := 8 + i) (by omega) (by omega)
    exact ⟨⟨e1, by omega, e3⟩, by omega, by omega⟩
  · rw [pos_3]
    have hm := mul_le_of h2 (show 0 < 5 + R by omega)
    have h0 : 0 ≤ i * (5 + R) := Int.mul_nonneg h1 (by omega)
    have hd := div_mul_add (i := i) (m := 5 + R) (j := j) (by omega) h3 (by omega)
    obtain ⟨e1, e2, e3⟩ := find_3 (P := P) (T := T) (R := R) (a := 16 + i * (5 + R) + j) (by omega) (by omega)
    rw [show 16 + i * (5 + R) + j - 16 = i * (5 + R) + j by omega, hd.1] at e2
    rw [show 16 + i * (5 + R) + j - 16 = i * (5 + R) + j by omega, hd.2, if_pos (by omega)] at e1 e3
    exact ⟨⟨e1, e2, e3⟩, by omega, by omega⟩
  · rw [pos_4]
    have hm := mul_le_of h2 (show 0 < 5 + R by omega)
    have h0 : 0 ≤ i * (5 + R) := Int.mul_nonneg h1 (by omega)
    have hd := div_mul_add (i := i) (m := 5 + R) (j := 5 + j) (by omega) (by omega) (by omega)
    obtain ⟨e1, e2, e3⟩ := find_3 (P := P) (T := T) (R := R) (a := 16 + i * (5 + R) + (5 + j)) (by omega) (by omega)
    rw [show 16 + i * (5 + R) + (5 + j) - 16 = i * (5 + R) + (5 + j) by omega, hd.1] at e2
    rw [show 16 + i * (5 + R) + (5 + j) - 16 = i * (5 + R) + (5 + j) by omega, hd.2, if_neg (by omega)] at e1 e3
    exact ⟨⟨e1, e2, by omega⟩, by omega, by omega⟩
  · rw [pos_5]
    obtain ⟨e1, e2, e3⟩ := find_5 (P := P) (T := T) (R := R) (a := tabI T R + i) (by omega) (by omega) (by omega)
    have hd := div_mul_add (i := 0) (m := P) (j := i) (by omega) (by omega) (by omega)
    rw [show tabI T R + i - tabI T R = 0 * P + i by omega, hd.1] at e1
    rw [show tabI T R + i - tabI T R = 0 * P + i by omega, hd.1, hd.2] at e2
    exact ⟨⟨e1, e2, e3⟩, by omega, by omega⟩
  · rw [pos_6]
    obtain ⟨e1, e2, e3⟩ := find_5 (P := P) (T := T) (R := R) (a := tabI T R + P + i) (by omega) (by omega) (by omega)
    have hd := div_mul_add (i := 1) (m := P) (j := i) (by omega) (by omega) (by omega)
    rw [show tabI T R + P + i - tabI T R = 1 * P + i by omega, hd.1] at e1
    rw [show tabI T R + P + i - tabI T R = 1 * P + i by omega, hd.1, hd.2] at e2
    exact ⟨⟨e1, e2, e3⟩, by omega, by omega⟩
  · rw [pos_7]
    obtain ⟨e1, e2, e3⟩ := find_5 (P := P) (T := T) (R := R) (a := tabI T R + 2 * P + i) (by omega) (by omega) (by omega)
    have hd := div_mul_add (i := 2) (m := P) (j := i) (by omega) (by omega) (by omega)
    rw [show tabI T R + 2 * P + i - tabI T R = 2 * P + i by omega, hd.1] at e1
    rw [show tabI T R + 2 * P + i - tabI T R = 2 * P + i by omega, hd.1, hd.2] at e2
    exact ⟨⟨e1, e2, e3⟩, by omega, by omega⟩
  · rw [pos_8]
    obtain ⟨e1, e2, e3⟩ := find_8 (P := P) (T := T) (R := R) (a := baseI P T R + 64 * i + j) (by omega) (by omega) (by omega)
    exact ⟨⟨e1, by omega, by omega⟩, by omega, by omega⟩
/-- what a cell is for tells where it stands -/
theorem pos_find {P T R a : Int} (h : Right P T R) (h0 : 0 ≤ a) (h1 : a < baseI P T R + 64 * P) :
    (findK P T R a = 0 ∧ findA P T R a = 0 ∧ findB P T R a = 0 ∧ (a < 8 ∨ a < baseI P T R)) ∨ (okI P T R (findK P T R a) (findA P T R a) (findB P T R a) ∧ posI P T R (findK P T R a) (findA P T R a) (findB P T R a) = a) := by
  have ht := tab_bd h
  have hb := base_bd h
  obtain ⟨⟨p1, p2⟩, ⟨t1, t2⟩, r1, r2⟩ := h
  have htab : tabI T R = 16 + T * (5 + R) := rfl
  by_cases c : a = 0 ∨ a = 7
  · left
    unfold findK findA findB; simp only [c, if_true]; exact ⟨by trivial, by trivial, by trivial, by omega⟩
  by_cases c1 : a < 8
  · right
    obtain ⟨e1, e2, e3⟩ := find_1 (P := P) (T := T) (R := R) c c1
    rw [e1, e2, e3]
    exact ⟨by unfold okI; omega, rfl⟩
  by_cases c2 : a < 16
  · right
    obtain ⟨e1, e2, e3⟩ := find_2 (P := P) (T := T) (R := R) (a := a) (by omega) c2
    rw [e1, e2, e3, pos_2]
    exact ⟨by unfold okI; omega, by omega⟩
  by_cases c3 : a < tabI T R
  · right
    obtain ⟨e1, e2, e3⟩ := find_3 (P := P) (T := T) (R := R) (a := a) (by omega) c3
    have hq := div_lt (a := a - 16) (m := 5 + R) (t := T) (by omega) (by omega)
    have hq0 : 0 ≤ (a - 16) / (5 + R) := Int.ediv_nonneg (by omega) (by omega)
    have hr0 : 0 ≤ (a - 16) % (5 + R) := Int.emod_nonneg _ (by omega)
    have hr1 : (a - 16) % (5 + R) < 5 + R := Int.emod_lt_of_pos _ (by omega)
    have hqr := Int.mul_ediv_add_emod (a - 16) (5 + R)
    rw [Int.mul_comm] at hqr
    rw [e1, e2, e3]
    generalize (a - 16) / (5 + R) = q at *
    generalize (a - 16) % (5 + R) = r at *
    by_cases c4 : r < 5
    · rw [if_pos c4, if_pos c4, pos_3]
      exact ⟨by unfold okI; omega, by omega⟩
    · rw [if_neg c4, if_neg c4, pos_4]
      exact ⟨by unfold okI; omega, by omega⟩
  by_cases c4 : a < baseI P T R
  · obtain ⟨e1, e2, e3⟩ := find_5 (P := P) (T := T) (R := R) (a := a) (by omega) (by omega) c4
    have hq0 : 0 ≤ (a - tabI T R) / P := Int.ediv_nonneg (by omega) (by omega)
    have hr0 : 0 ≤ (a - tabI T R) % P := Int.emod_nonneg _ (by omega)
    have hr1 : (a - tabI T R) % P < P := Int.emod_lt_of_pos _ (by omega)
    have hqr := Int.mul_ediv_add_emod (a - tabI T R) P
    rw [e1, e2, e3]
    generalize (a - tabI T R) / P = q at *
    generalize (a - tabI T R) % P = r at *
    by_cases c5 : 3 ≤ q
    · left
      rw [if_pos c5, if_pos c5]; exact ⟨rfl, rfl, rfl, .inr c4⟩
    · right
      rw [if_neg c5, if_neg c5]
      have hq : q = 0 ∨ q = 1 ∨ q = 2 := by omega
      rcases hq with rfl | rfl | rfl
      · rw [show (5 + 0 : Int) = 5 from rfl, pos_5]
        exact ⟨by unfold okI; omega, by omega⟩
      · rw [show (5 + 1 : Int) = 6 from rfl, pos_6]
        exact ⟨by unfold okI; omega, by omega⟩
      · rw [show (5 + 2 : Int) = 7 from rfl, pos_7]
        exact ⟨by unfold okI; omega, by omega⟩
  · right
    obtain ⟨e1, e2, e3⟩ := find_8 (P := P) (T := T) (R := R) (a := a) (by omega) (by omega) (by omega)
    rw [e1, e2, e3, pos_8]
    exact ⟨by unfold okI; omega, by omega⟩
end Go.Proofs.YtpoddnfooaddgaaGreatDoor
/- What Right of the document's layer 6 returns. No condition. -/
namespace Go.Proofs.YtpoddnfooaddgaaGreatDoor
open Go.RowKit
set_option linter.unusedVariables false
set_option linter.unusedSimpArgs false
set_option maxHeartbeats 1000000 in
theorem rright_any (P T R : Int) (w : World) :
    Calls Tryz.prog 42 #[.agg #[.int .i64 P, .int .i64 T, .int .i64 R]] w fun e w' => e = .returned (.bool (rightB P T R)) ∧ Below w.heap.size w w' := by
  by_cases h0 : 1 ≤ P
  rotate_left 1
  · rw [show rightB P T R = false by simp [rightB, inB]; omega]
    have g0 : decide (1 ≤ P) = false := decide_eq_false h0
    go_enter Tryz.func42, Tryz.ntmps42
    go_wp2
    go_ret
    exact ⟨rfl, (Below.refl _ _).alloc (Nat.le_refl _) _⟩
  by_cases h1 : P ≤ 32
  rotate_left 1
  · rw [show rightB P T R = false by simp [rightB, inB]; omega]
    have g1 : decide (P ≤ 32) = false := decide_eq_false h1
    go_enter Tryz.func42, Tryz.ntmps42
    go_wp2
    go_ret
    exact ⟨rfl, (Below.refl _ _).alloc (Nat.le_refl _) _⟩
  by_cases h2 : 1 ≤ T
  rotate_left 1
  · rw [show rightB P T R = false by simp [rightB, inB]; omega]
    have g2 : decide (1 ≤ T) = false := decide_eq_false h2
    go_enter Tryz.func42, Tryz.ntmps42
    go_wp2
    go_ret
    exact ⟨rfl, (Below.refl _ _).alloc (Nat.le_refl _) _⟩
  by_cases h3 : T ≤ 6
  rotate_left 1
  · rw [show rightB P T R = false by simp [rightB, inB]; omega]
    have g3 : decide (T ≤ 6) = false := decide_eq_false h3
    go_enter Tryz.func42, Tryz.ntmps42
    go_wp2
    go_ret
    exact ⟨rfl, (Below.refl _ _).alloc (Nat.le_refl _) _⟩
  by_cases h4 : 1 ≤ R
  rotate_left 1
  · rw [show rightB P T R = false by simp [rightB, inB]; omega]
    have g4 : decide (1 ≤ R) = false := decide_eq_false h4
    go_enter Tryz.func42, Tryz.ntmps42
    go_wp2
    go_ret
    exact ⟨rfl, (Below.refl _ _).alloc (Nat.le_refl _) _⟩
  by_cases h5 : R ≤ 16
  rotate_left 1
  · rw [show rightB P T R = false by simp [rightB, inB]; omega]
    have g5 : decide (R ≤ 16) = false := decide_eq_false h5
    go_enter Tryz.func42, Tryz.ntmps42
    go_wp2
    go_ret
    exact ⟨rfl, (Below.refl _ _).alloc (Nat.le_refl _) _⟩
  rw [show rightB P T R = true by simp [rightB, inB]; omega]
  go_enter Tryz.func42, Tryz.ntmps42
  go_wp2
  go_ret
  exact ⟨rfl, (Below.refl _ _).alloc (Nat.le_refl _) _⟩
end Go.Proofs.YtpoddnfooaddgaaGreatDoor
/- What Spots of the document's layer 6 returns: new memory that tells of each cell what it is for. Condition: the plan's numbers are in their bounds (else: none). -/
namespace Go.Proofs.YtpoddnfooaddgaaGreatDoor
open Go.RowKit
set_option linter.unusedVariables false
set_option linter.unusedSimpArgs false
theorem info_spot : (Tryz.prog.info? 110).map (fun i => (i.zero, i.size, i.bytes)) = some (some (.agg #[.int .i64 0, .int .i64 0, .int .i64 0]), 3, 24) := by kernel_rfl
theorem cell_three_new (w : World) (x y z : Value) (t : TypeId) : ∀ j u, [x, y, z][j]? = some u → (w.alloc (.cells #[x, y, z] t)).cell? ((⟨w.heap.size, 0, none⟩ : Addr).add j) = some u := by
  intro j u hj
  match j, hj with
  | 0, hj => simp at hj; subst hj; simp [Addr.add]
  | 1, hj => simp at hj; subst hj; simp [Addr.add]
  | 2, hj => simp at hj; subst hj; simp [Addr.add]
/-- the cells of the first n numbers, one behind the other -/
def spotsL (P T R : Int) (n : Nat) : List Value := (List.range n).flatMap fun (k : Nat) => [.int .i64 (findK P T R k), .int .i64 (findA P T R k), .int .i64 (findB P T R k)]
theorem spotsL_succ (P T R : Int) (n : Nat) : spotsL P T R (n + 1) = spotsL P T R n ++ [.int .i64 (findK P T R n), .int .i64 (findA P T R n), .int .i64 (findB P T R n)] := by
  unfold spotsL; rw [List.range_succ, List.flatMap_append]; simp
/-- The list so far: the first n numbers; the plan's box; all that was there below. -/
structure SpotsAt (w W : World) (P T R : Int) (v : Value) (n : Nat) : Prop where
  box : Blk W w.heap.size #[.int .i64 P, .int .i64 T, .int .i64 R] 23
  own : W.ownsRow (w.heap.size + 1) 110 3 v n (spotsL P T R n)
  bel : Below w.heap.size w W
theorem Blk.grownBy {w w' : World} {b : Nat} {cs : Array Value} {t : TypeId} {row : Option Nat} (h : Blk w b cs t) (hg : w.grownBy w' row) (hr : ∀ k, row = some k → k ≠ b) : Blk w' b cs t :=
  h.of (hg.block b h.lt (fun e => hr b e.symm rfl))
theorem spots_step {w W W' : World} {P T R : Int} {v v' : Value} {n : Nat} {k a b : Int} {o : Obj} (h : SpotsAt w W P T R v n)
    (hown : W'.ownsRow (w.heap.size + 1) 110 3 v' (n + 1) (spotsL P T R n ++ [.int .i64 k, .int .i64 a, .int .i64 b])) (hg : (W.alloc o).grownBy W' v.ownBlock)
    (hf : findK P T R n = k ∧ findA P T R n = a ∧ findB P T R n = b) : SpotsAt w W' P T R v' (n + 1) := by
  obtain ⟨rfl, rfl, rfl⟩ := hf
  refine ⟨(h.box.alloc o).grownBy hg (fun g hk => ?_), ?_, (h.bel.alloc h.bel.size o).grown hg (by have := h.bel.size; simp; omega) (fun g hk => ?_)⟩
  · have := (h.own.lt g hk).1; omega
  · rw [spotsL_succ]; exact hown
  · have := (h.own.lt g hk).1; omega
theorem SpotsAt.quiet {w W W' : World} {P T R : Int} {v : Value} {n : Nat} (h : SpotsAt w W P T R v n) (hq : Quiet W W') : SpotsAt w W' P T R v n :=
  ⟨h.box.quiet hq, by obtain ⟨m, rfl⟩ := hq; exact h.own, h.bel.trans hq.below⟩
theorem SpotsAt.cast {w W : World} {P T R : Int} {v : Value} {n m : Nat} (h : SpotsAt w W P T R v n) (e : n = m) : SpotsAt w W P T R v m := e ▸ h
def lenV : Value → Nat
  | .slice _ n _ => n
  | _ => 0
theorem SpotsAt.len {w W : World} {P T R : Int} {v : Value} {n : Nat} (h : SpotsAt w W P T R v n) (h0 : 0 < n) : ∃ g c, v = .slice (some ⟨g, 0, none⟩) n c := by
  rcases h.own.2 with ⟨_, h2⟩ | ⟨g, c, _, h1, _⟩
  · omega
  · exact ⟨g, c, h1⟩
theorem find_t3 {P T R t m : Nat} (hm : m < 5) (ht : t < T) : findK P T R ((16 + t * (5 + R) + m : Nat) : Int) = 3 ∧ findA P T R ((16 + t * (5 + R) + m : Nat) : Int) = t ∧ findB P T R ((16 + t * (5 + R) + m : Nat) : Int) = m := by
  have hmul : (t + 1) * (5 + R) ≤ T * (5 + R) := Nat.mul_le_mul_right _ ht
  have hmul1 : (t + 1) * (5 + R) = t * (5 + R) + (5 + R) := Nat.succ_mul _ _
  have ht0 : tabI T R = ((16 + T * (5 + R) : Nat) : Int) := by unfold tabI; push_cast; rfl
  obtain ⟨e1, e2, e3⟩ := find_3 (P := (P : Int)) (T := T) (R := R) (a := ((16 + t * (5 + R) + m : Nat) : Int)) (by omega) (by omega)
  have hd := div_mul_add (i := t) (m := ((5 + R : Nat) : Int)) (j := m) (by omega) (by omega) (by omega)
  have hx : ((16 + t * (5 + R) + m : Nat) : Int) - 16 = (t : Int) * ((5 + R : Nat) : Int) + m := by push_cast; omega
  have hy : (5 + (R : Int)) = ((5 + R : Nat) : Int) := by push_cast; rfl
  rw [hx, hy, hd.1] at e2
  rw [hx, hy, hd.2, if_pos (by omega)] at e1 e3
  exact ⟨e1, e2, e3⟩
theorem find_t4 {P T R t m : Nat} (hm : m < R) (ht : t < T) : findK P T R ((16 + t * (5 + R) + 5 + m : Nat) : Int) = 4 ∧ findA P T R ((16 + t * (5 + R) + 5 + m : Nat) : Int) = t ∧ findB P T R ((16 + t * (5 + R) + 5 + m : Nat) : Int) = m := by
  have hmul : (t + 1) * (5 + R) ≤ T * (5 + R) := Nat.mul_le_mul_right _ ht
  have hmul1 : (t + 1) * (5 + R) = t * (5 + R) + (5 + R) := Nat.succ_mul _ _
  have ht0 : tabI T R = ((16 + T * (5 + R) : Nat) : Int) := by unfold tabI; push_cast; rfl
  obtain ⟨e1, e2, e3⟩ := find_3 (P := (P : Int)) (T := T) (R := R) (a := ((16 + t * (5 + R) + 5 + m : Nat) : Int)) (by omega) (by omega)
  have hd := div_mul_add (i := t) (m := ((5 + R : Nat) : Int)) (j := ((5 + m : Nat) : Int)) (by omega) (by omega) (by omega)
  have hx : ((16 + t * (5 + R) + 5 + m : Nat) : Int) - 16 = (t : Int) * ((5 + R : Nat) : Int) + ((5 + m : Nat) : Int) := by push_cast; omega
  have hy : (5 + (R : Int)) = ((5 + R : Nat) : Int) := by push_cast; rfl
  rw [hx, hy, hd.1] at e2
  rw [hx, hy, hd.2, if_neg (by omega)] at e1 e3
  exact ⟨e1, e2, by omega⟩
theorem find_p {P T R y q m : Nat} (hy : 16 ≤ y) (hp : 0 < P) (ht : tabI T R = y) (hb : tabI T R + 3 * P ≤ baseI P T R) (hq : q ≤ 2) (hm : m < P) (_ : y < 1000) : findK P T R ((y + q * P + m : Nat) : Int) = 5 + q ∧ findA P T R ((y + q * P + m : Nat) : Int) = m ∧ findB P T R ((y + q * P + m : Nat) : Int) = 0 := by
  have hmq : q * P ≤ 2 * P := Nat.mul_le_mul_right _ hq
  obtain ⟨e1, e2, e3⟩ := find_5 (P := (P : Int)) (T := T) (R := R) (a := ((y + q * P + m : Nat) : Int)) (by omega) (by omega) (by omega)
  have hd := div_mul_add (i := q) (m := (P : Int)) (j := m) (by omega) (by omega) (by omega)
  have hx : ((y + q * P + m : Nat) : Int) - tabI T R = (q : Int) * (P : Int) + m := by rw [ht]; push_cast; omega
  rw [hx, hd.1, if_neg (by omega)] at e1
  rw [hx, hd.1, hd.2, if_neg (by omega)] at e2
  exact ⟨e1, e2, e3⟩
theorem find_g0 {P T R y n : Nat} (ht : tabI T R = y) (hy : 16 ≤ y) (hn : y + 3 * P ≤ n) (hb : (n : Int) < baseI P T R) (hp : 0 < P) : findK P T R (n : Int) = 0 ∧ findA P T R (n : Int) = 0 ∧ findB P T R (n : Int) = 0 := by
  obtain ⟨e1, e2, e3⟩ := find_5 (P := (P : Int)) (T := T) (R := R) (a := (n : Int)) (by omega) (by omega) (by omega)
  have h3 : 3 ≤ ((n : Int) - tabI T R) / P := (Int.le_ediv_iff_mul_le (by omega)).2 (by omega)
  rw [if_pos h3] at e1 e2
  exact ⟨e1, e2, e3⟩
theorem find_h8 {P T R y Z m u : Nat} (ht : tabI T R = y) (hZ : baseI P T R = Z) (hy : 16 ≤ y) (hn : y ≤ Z) (hu : u < 64) : findK P T R ((Z + 64 * m + u : Nat) : Int) = 8 ∧ findA P T R ((Z + 64 * m + u : Nat) : Int) = m ∧ findB P T R ((Z + 64 * m + u : Nat) : Int) = u := by
  obtain ⟨e1, e2, e3⟩ := find_8 (P := (P : Int)) (T := T) (R := R) (a := ((Z + 64 * m + u : Nat) : Int)) (by omega) (by omega) (by omega)
  rw [hZ] at e2 e3
  exact ⟨e1, by omega, by omega⟩
set_option maxRecDepth 100000 in
set_option maxHeartbeats 4000000 in
theorem spots_walk (P T R : Nat) (w : World) (hR : Right P T R) :
    Calls Tryz.prog 77 #[.agg #[.int .i64 P, .int .i64 T, .int .i64 R]] w fun e w' => ∃ (v : Value) (n : Nat), e = .returned v ∧ (n : Int) = baseI P T R + 64 * P ∧ SpotsAt w w' P T R v n := by
  have V := Lib.hid (fun W => rright_any P T R W)
  rw [of_right hR] at V
  have ht := tab_bd hR
  have hb := base_bd hR
  have hRh := Lib.hid hR
  obtain ⟨⟨p1, p2⟩, ⟨t1, t2⟩, r1, r2⟩ := hR
  have ht0 : tabI T R = ((16 + T * (5 + R) : Nat) : Int) := by unfold tabI; push_cast; rfl
  obtain ⟨i0, hi, hz0, hz1, hz2⟩ := info_parts info_spot
  go_enter Tryz.func77, Tryz.ntmps77
  go_wp2_with fail
  refine (V.out _).mono ?_; rintro e w1 ⟨rfl, hb1⟩
  have X1 := (Blk.new w #[.int .i64 P, .int .i64 T, .int .i64 R] 23).grew hb1
  have B1 : Below w.heap.size w w1 := ((Below.refl _ _).alloc (Nat.le_refl _) _).trans (hb1.mono (by simp))
  have S0 : SpotsAt w w1 P T R (.slice none 0 0) 0 := ⟨X1, by rw [show spotsL (P : Int) T R 0 = [] from rfl]; exact World.ownsRow_nil _ _ _ _, B1⟩
  clear X1 B1 hb1
  have hsz := S0.bel.size
  go_wp2_with (at_builtin; refine wpList_append_own _ rfl _ _ 164 rfl (w.heap.size + 1) 110 i0 (.agg #[.int .i64 0, .int .i64 0, .int .i64 0]) 3 24 Tryz.underlying164 hi hz0 hz1 hz2 rfl (by decide) _ _ _ rfl (S0.own.alloc _) ⟨w1.heap.size, 0, none⟩ 1 1 [.int .i64 0, .int .i64 0, .int .i64 0] rfl rfl (cell_three_new _ _ _ _ _) ?c2x1 ?c3x1 ?c4x1 ?c5x1 ?_)
  try (case c2x1 => (simp [Value.oneCell']))
  try (case c3x1 => (unfold maxLen; omega))
  try (case c4x1 => (omega))
  try (case c5x1 => (have := S0.box.lt; simp; omega))
  intro v3 w3 hown3 hgrow _
  have S1 := spots_step S0 hown3 hgrow (by exact ⟨rfl, rfl, rfl⟩)
  clear hown3 hgrow
  clear S0
  go_wp2
  go_loopw [3, 4] (fun v x wr => ∃ m : Nat, 1 ≤ m ∧ m ≤ 7 ∧ x = .int .i64 m ∧ SpotsAt w wr P T R v m)
    (fun _ x _ => 8 - (intOf x).toNat)
  case atStart => exact ⟨1, by omega, by omega, rfl, S1⟩
  case round =>
    obtain ⟨m, hm1, hm2, rfl, hS⟩ := hrel
    by_cases hlt : (m : Int) ≤ 6
    ·
      have hsz := hS.bel.size
      go_wp2_with (at_builtin; refine wpList_append_own _ rfl _ _ 164 rfl (w.heap.size + 1) 110 i0 (.agg #[.int .i64 0, .int .i64 0, .int .i64 0]) 3 24 Tryz.underlying164 hi hz0 hz1 hz2 rfl (by decide) _ _ _ rfl (hS.own.alloc _) ⟨wr.heap.size, 0, none⟩ 1 1 [.int .i64 1, .int .i64 m, .int .i64 0] rfl rfl (cell_three_new _ _ _ _ _) ?c2x2 ?c3x2 ?c4x2 ?c5x2 ?_)
      try (case c2x2 => (simp [Value.oneCell']))
      try (case c3x2 => (unfold maxLen; omega))
      try (case c4x2 => (omega))
      try (case c5x2 => (have := hS.box.lt; simp; omega))
      intro v3 w3 hown3 hgrow _
      have S2 := spots_step hS hown3 hgrow (find_1 (by omega) (by omega))
      clear hown3 hgrow
      go_wp2
      go_roundw
      case rel => exact ⟨m + 1, by omega, by omega, by go_num, S2⟩
      case measure => simp [intOf]; omega
    ·
      have S2 := hS.cast (show m = 7 by omega)
      clear S1 hS
      have hsz := S2.bel.size
      go_wp2_with (at_builtin; refine wpList_append_own _ rfl _ _ 164 rfl (w.heap.size + 1) 110 i0 (.agg #[.int .i64 0, .int .i64 0, .int .i64 0]) 3 24 Tryz.underlying164 hi hz0 hz1 hz2 rfl (by decide) _ _ _ rfl (S2.own.alloc _) ⟨wr.heap.size, 0, none⟩ 1 1 [.int .i64 0, .int .i64 0, .int .i64 0] rfl rfl (cell_three_new _ _ _ _ _) ?c2x3 ?c3x3 ?c4x3 ?c5x3 ?_)
      try (case c2x3 => (simp [Value.oneCell']))
      try (case c3x3 => (unfold maxLen; omega))
      try (case c4x3 => (omega))
      try (case c5x3 => (have := S2.box.lt; simp; omega))
      intro v3 w3 hown3 hgrow _
      have S3 := spots_step S2 hown3 hgrow (by exact ⟨rfl, rfl, rfl⟩)
      clear hown3 hgrow
      clear S2 hlt
      go_wp2
      go_loopw [3, 5] (fun v x wr => ∃ m : Nat, m ≤ 8 ∧ x = .int .i64 m ∧ SpotsAt w wr P T R v (8 + m))
        (fun _ x _ => 8 - (intOf x).toNat)
      case atStart => exact ⟨0, by omega, rfl, S3⟩
      case round =>
        obtain ⟨m, hm2, rfl, hS⟩ := hrel
        by_cases hlt : (m : Int) < 8
        ·
          have hsz := hS.bel.size
          go_wp2_with (at_builtin; refine wpList_append_own _ rfl _ _ 164 rfl (w.heap.size + 1) 110 i0 (.agg #[.int .i64 0, .int .i64 0, .int .i64 0]) 3 24 Tryz.underlying164 hi hz0 hz1 hz2 rfl (by decide) _ _ _ rfl (hS.own.alloc _) ⟨wr.heap.size, 0, none⟩ 1 1 [.int .i64 2, .int .i64 m, .int .i64 0] rfl rfl (cell_three_new _ _ _ _ _) ?c2x4 ?c3x4 ?c4x4 ?c5x4 ?_)
          try (case c2x4 => (simp [Value.oneCell']))
          try (case c3x4 => (unfold maxLen; omega))
          try (case c4x4 => (omega))
          try (case c5x4 => (have := hS.box.lt; simp; omega))
          intro v3 w3 hown3 hgrow _
          have S2 := spots_step hS hown3 hgrow (by obtain ⟨e1, e2, e3⟩ := find_2 (P := (P : Int)) (T := T) (R := R) (a := ((8 + m : Nat) : Int)) (by omega) (by omega); exact ⟨e1, by omega, e3⟩)
          clear hown3 hgrow
          go_wp2
          go_roundw
          case rel => exact ⟨m + 1, by omega, by go_num, S2⟩
          case measure => simp [intOf]; omega
        ·
          have S4 := hS.cast (show 8 + m = 16 + 0 * (5 + R) by omega)
          clear S3 hS
          go_wp2
          go_loopw [3, 6] (fun v x wr => ∃ t : Nat, t ≤ T ∧ x = .int .i64 t ∧ SpotsAt w wr P T R v (16 + t * (5 + R)))
            (fun _ x _ => T - (intOf x).toNat)
          case atStart => exact ⟨0, by omega, rfl, S4⟩
          case round =>
            obtain ⟨t, ht2, rfl, hS⟩ := hrel
            have q1 := hS.box.val 1 rfl
            by_cases hlt : t < T
            ·
              have hmul : (t + 1) * (5 + R) ≤ T * (5 + R) := Nat.mul_le_mul_right _ hlt
              have hmul1 : (t + 1) * (5 + R) = t * (5 + R) + (5 + R) := Nat.succ_mul _ _
              have hm126 : T * (5 + R) ≤ 126 := by have := Nat.mul_le_mul (show T ≤ 6 by omega) (show 5 + R ≤ 21 by omega); omega
              have hS5 := hS.cast (show 16 + t * (5 + R) = 16 + t * (5 + R) + 0 by omega)
              clear S4 hS
              go_wp2
              go_loopw [3, 7] (fun v x wr => ∃ m : Nat, m ≤ 5 ∧ x = .int .i64 m ∧ SpotsAt w wr P T R v (16 + t * (5 + R) + m))
                (fun _ x _ => 5 - (intOf x).toNat)
              case atStart => exact ⟨0, by omega, rfl, hS5⟩
              case round =>
                obtain ⟨m, hm2, rfl, hS⟩ := hrel
                by_cases hl5 : (m : Int) < 5
                ·
                  have hsz := hS.bel.size
                  go_wp2_with (at_builtin; refine wpList_append_own _ rfl _ _ 164 rfl (w.heap.size + 1) 110 i0 (.agg #[.int .i64 0, .int .i64 0, .int .i64 0]) 3 24 Tryz.underlying164 hi hz0 hz1 hz2 rfl (by decide) _ _ _ rfl (hS.own.alloc _) ⟨wr.heap.size, 0, none⟩ 1 1 [.int .i64 3, .int .i64 t, .int .i64 m] rfl rfl (cell_three_new _ _ _ _ _) ?c2x5 ?c3x5 ?c4x5 ?c5x5 ?_)
                  try (case c2x5 => (simp [Value.oneCell']))
                  try (case c3x5 => (unfold maxLen; omega))
                  try (case c4x5 => (omega))
                  try (case c5x5 => (have := hS.box.lt; simp; omega))
                  intro v3 w3 hown3 hgrow _
                  have S2 := spots_step hS hown3 hgrow (find_t3 (by omega) hlt)
                  clear hown3 hgrow
                  go_wp2
                  go_roundw
                  case rel => exact ⟨m + 1, by omega, by go_num, S2⟩
                  case measure => simp [intOf]; omega
                ·
                  have S5 := hS.cast (show 16 + t * (5 + R) + m = 16 + t * (5 + R) + 5 + 0 by omega)
                  clear hS hS5
                  go_wp2
                  go_loopw [3, 8] (fun v x wr => ∃ m : Nat, m ≤ R ∧ x = .int .i64 m ∧ SpotsAt w wr P T R v (16 + t * (5 + R) + 5 + m))
                    (fun _ x _ => R - (intOf x).toNat)
                  case atStart => exact ⟨0, by omega, rfl, S5⟩
                  case round =>
                    obtain ⟨m, hm2, rfl, hS⟩ := hrel
                    have q2 := hS.box.val 2 rfl
                    by_cases hl5 : m < R
                    ·
                      have hsz := hS.bel.size
                      go_wp2_with (at_builtin; refine wpList_append_own _ rfl _ _ 164 rfl (w.heap.size + 1) 110 i0 (.agg #[.int .i64 0, .int .i64 0, .int .i64 0]) 3 24 Tryz.underlying164 hi hz0 hz1 hz2 rfl (by decide) _ _ _ rfl (hS.own.alloc _) ⟨wr.heap.size, 0, none⟩ 1 1 [.int .i64 4, .int .i64 t, .int .i64 m] rfl rfl (cell_three_new _ _ _ _ _) ?c2x6 ?c3x6 ?c4x6 ?c5x6 ?_)
                      try (case c2x6 => (simp [Value.oneCell']))
                      try (case c3x6 => (unfold maxLen; omega))
                      try (case c4x6 => (omega))
                      try (case c5x6 => (have := hS.box.lt; simp; omega))
                      intro v3 w3 hown3 hgrow _
                      have S2 := spots_step hS hown3 hgrow (find_t4 (by omega) hlt)
                      clear hown3 hgrow
                      go_wp2
                      go_roundw
                      case rel => exact ⟨m + 1, by omega, by go_num, S2⟩
                      case measure => simp [intOf]; omega
                    ·
                      have S6 := hS.cast (show 16 + t * (5 + R) + 5 + m = 16 + (t + 1) * (5 + R) by omega)
                      clear hS S5
                      go_wp2
                      go_roundw
                      case rel => exact ⟨t + 1, by omega, by go_num, S6⟩
                      case measure => simp [intOf]; omega
            ·
              have htT : t = T := by omega
              subst htT
              have hm126 : t * (5 + R) ≤ 126 := by have := Nat.mul_le_mul (show t ≤ 6 by omega) (show 5 + R ≤ 21 by omega); omega
              have hy : ∃ y : Nat, y = 16 + t * (5 + R) := ⟨_, rfl⟩
              obtain ⟨y, hy⟩ := hy
              have ht1 : tabI t R = y := by rw [ht0, hy]
              have S7 := hS.cast (show 16 + t * (5 + R) = y + 0 * P by omega)
              clear S4 hS hlt ht2 hy ht0
              go_wp2
              go_loopw [3, 9] (fun v x wr => ∃ q : Nat, q ≤ 3 ∧ x = .int .i64 (5 + q) ∧ SpotsAt w wr P t R v (y + q * P))
                (fun _ x _ => 8 - (intOf x).toNat)
              case atStart => exact ⟨0, by omega, rfl, S7⟩
              case round =>
                obtain ⟨q, hq2, rfl, hS⟩ := hrel
                by_cases hlt : (5 + q : Int) ≤ 7
                ·
                  have hmq : q * P ≤ 2 * P := Nat.mul_le_mul_right _ (by omega)
                  have hmq1 : (q + 1) * P = q * P + P := Nat.succ_mul _ _
                  have hS5 := hS.cast (show y + q * P = y + q * P + 0 by omega)
                  clear S7 hS
                  go_wp2
                  go_loopw [3, 10] (fun v x wr => ∃ m : Nat, m ≤ P ∧ x = .int .i64 m ∧ SpotsAt w wr P t R v (y + q * P + m))
                    (fun _ x _ => P - (intOf x).toNat)
                  case atStart => exact ⟨0, by omega, rfl, hS5⟩
                  case round =>
                    obtain ⟨m, hm2, rfl, hS⟩ := hrel
                    have q0 := hS.box.val 0 rfl
                    by_cases hl5 : m < P
                    ·
                      have hsz := hS.bel.size
                      go_wp2_with (at_builtin; refine wpList_append_own _ rfl _ _ 164 rfl (w.heap.size + 1) 110 i0 (.agg #[.int .i64 0, .int .i64 0, .int .i64 0]) 3 24 Tryz.underlying164 hi hz0 hz1 hz2 rfl (by decide) _ _ _ rfl (hS.own.alloc _) ⟨wr.heap.size, 0, none⟩ 1 1 [.int .i64 (5 + q), .int .i64 m, .int .i64 0] rfl rfl (cell_three_new _ _ _ _ _) ?c2x7 ?c3x7 ?c4x7 ?c5x7 ?_)
                      try (case c2x7 => (simp [Value.oneCell']))
                      try (case c3x7 => (unfold maxLen; omega))
                      try (case c4x7 => (omega))
                      try (case c5x7 => (have := hS.box.lt; simp; omega))
                      intro v3 w3 hown3 hgrow _
                      have S2 := spots_step hS hown3 hgrow (find_p (by omega) (by omega) ht1 (by omega) (by omega) hl5 (by omega))
                      clear hown3 hgrow
                      go_wp2
                      go_roundw
                      case rel => exact ⟨m + 1, by omega, by go_num, S2⟩
                      case measure => simp [intOf]; omega
                    ·
                      have S6 := hS.cast (show y + q * P + m = y + (q + 1) * P by omega)
                      clear hS hS5
                      have hgq : IntKind.i64.wrap (5 + (q : Int) + 1) = 5 + (q : Int) + 1 := wi (by omega)
                      go_wp2
                      go_roundw
                      case rel => exact ⟨q + 1, by omega, by first | go_num | (simp; omega), S6⟩
                      case measure => simp [intOf]; omega
                ·
                  have hq3 : q = 3 := by omega
                  subst hq3
                  obtain ⟨Z, hZ⟩ : ∃ Z : Nat, baseI P t R = Z := ⟨(baseI P t R).toNat, by omega⟩
                  have S8 := hS
                  clear S7 hS hlt
                  go_wp2
                  rw [show ((5 : Int) + ((3 : Nat) : Int)) = 8 from rfl]

                  go_loopw [3] (fun v wr => ∃ n : Nat, y + 3 * P ≤ n ∧ n ≤ Z ∧ SpotsAt w wr P t R v n)
                    (fun v _ => 1000 - lenV v)
                  case atStart => exact ⟨_, by omega, by omega, S8⟩
                  case round =>
                    obtain ⟨n, hn1, hn2, hS⟩ := hrel
                    obtain ⟨g, c, rfl⟩ := hS.len (by omega)
                    by_cases hlt : n % 64 = 0
                    rotate_left 1
                    ·
                      have hn64 : ((n : Int) % 64 == 0) = false := by simp; omega
                      have hsz := hS.bel.size
                      go_wp2_with (at_builtin; refine wpList_append_own _ rfl _ _ 164 rfl (w.heap.size + 1) 110 i0 (.agg #[.int .i64 0, .int .i64 0, .int .i64 0]) 3 24 Tryz.underlying164 hi hz0 hz1 hz2 rfl (by decide) _ _ _ rfl (hS.own.alloc _) ⟨wr.heap.size, 0, none⟩ 1 1 [.int .i64 0, .int .i64 0, .int .i64 0] rfl rfl (cell_three_new _ _ _ _ _) ?c2x8 ?c3x8 ?c4x8 ?c5x8 ?_)
                      try (case c2x8 => (simp [Value.oneCell']))
                      try (case c3x8 => (unfold maxLen; omega))
                      try (case c4x8 => (omega))
                      try (case c5x8 => (have := hS.box.lt; simp; omega))
                      intro v3 w3 hown3 hgrow _
                      have S2 := spots_step hS hown3 hgrow (find_g0 ht1 (by omega) (by omega) (by omega) (by omega))
                      clear hown3 hgrow
                      obtain ⟨g2, c2, rfl⟩ := S2.len (by omega)
                      go_wp2
                      go_roundw
                      case rel => exact ⟨n + 1, by omega, by omega, S2⟩
                      case measure => simp [lenV]; omega
                    ·
                      have hn64 : ((n : Int) % 64 == 0) = true := by simp; omega
                      have hnZ : n = Z := by omega
                      subst hnZ
                      have S9 := hS.cast (show n = n + 64 * 0 by omega)
                      clear S8 hS hlt
                      go_wp2
                      rw [show ((n : Int) % 64 != 0) = false from by simp; omega]
                      clear hn64

                      go_loopw [3, 11] (fun v x wr => ∃ m : Nat, m ≤ P ∧ x = .int .i64 m ∧ SpotsAt w wr P t R v (n + 64 * m))
                        (fun _ x _ => P - (intOf x).toNat)
                      case atStart => exact ⟨0, by omega, rfl, S9⟩
                      case round =>
                        obtain ⟨m, hm2, rfl, hS⟩ := hrel
                        have q0 := hS.box.val 0 rfl
                        by_cases hlt : m < P
                        ·
                          have hS5 := hS.cast (show n + 64 * m = n + 64 * m + 0 by omega)
                          clear S9 hS
                          go_wp2
                          go_loopw [3, 12] (fun v x wr => ∃ u : Nat, u ≤ 64 ∧ x = .int .i64 u ∧ SpotsAt w wr P t R v (n + 64 * m + u))
                            (fun _ x _ => 64 - (intOf x).toNat)
                          case atStart => exact ⟨0, by omega, rfl, hS5⟩
                          case round =>
                            obtain ⟨u, hu2, rfl, hS⟩ := hrel
                            by_cases hl5 : (u : Int) < 64
                            ·
                              have hsz := hS.bel.size
                              go_wp2_with (at_builtin; refine wpList_append_own _ rfl _ _ 164 rfl (w.heap.size + 1) 110 i0 (.agg #[.int .i64 0, .int .i64 0, .int .i64 0]) 3 24 Tryz.underlying164 hi hz0 hz1 hz2 rfl (by decide) _ _ _ rfl (hS.own.alloc _) ⟨wr.heap.size, 0, none⟩ 1 1 [.int .i64 8, .int .i64 m, .int .i64 u] rfl rfl (cell_three_new _ _ _ _ _) ?c2x9 ?c3x9 ?c4x9 ?c5x9 ?_)
                              try (case c2x9 => (simp [Value.oneCell']))
                              try (case c3x9 => (unfold maxLen; omega))
                              try (case c4x9 => (omega))
                              try (case c5x9 => (have := hS.box.lt; simp; omega))
                              intro v3 w3 hown3 hgrow _
                              have S2 := spots_step hS hown3 hgrow (find_h8 ht1 hZ (by omega) (by omega) (by omega))
                              clear hown3 hgrow
                              go_wp2
                              go_roundw
                              case rel => exact ⟨u + 1, by omega, by go_num, S2⟩
                              case measure => simp [intOf]; omega
                            ·
                              have S6 := hS.cast (show n + 64 * m + u = n + 64 * (m + 1) by omega)
                              clear hS hS5
                              go_wp2
                              go_roundw
                              case rel => exact ⟨m + 1, by omega, by go_num, S6⟩
                              case measure => simp [intOf]; omega
                        ·
                          have S6 := hS.cast (show n + 64 * m = n + 64 * P by omega)
                          clear hS S9
                          go_wp2
                          go_ret
                          exact ⟨_, _, rfl, by omega, S6⟩
end Go.Proofs.YtpoddnfooaddgaaGreatDoor
/- Two of the document's spots are compared. No condition. -/
namespace Go.Proofs.YtpoddnfooaddgaaGreatDoor
open Go.RowKit
theorem fields3 {l : List Field} {t : TypeId} (h : l.map (fun f => (f.type, f.offset, f.name == "_")) = [(t, 0, false), (t, 1, false), (t, 2, false)]) :
    ∃ f g k, l = [f, g, k] ∧ (f.type = t ∧ f.offset = 0 ∧ ¬ f.name = "_") ∧ (g.type = t ∧ g.offset = 1 ∧ ¬ g.name = "_") ∧ (k.type = t ∧ k.offset = 2 ∧ ¬ k.name = "_") := by
  have hl : l.length = 3 := by have := congrArg List.length h; simpa using this
  obtain ⟨f, l1, rfl⟩ := List.exists_cons_of_length_eq_add_one hl
  obtain ⟨g, l2, rfl⟩ := List.exists_cons_of_length_eq_add_one (show l1.length = 1 + 1 by simpa using hl)
  obtain ⟨k, l3, rfl⟩ := List.exists_cons_of_length_eq_add_one (show l2.length = 0 + 1 by simpa using hl)
  have h3 : l3 = [] := List.eq_nil_of_length_eq_zero (by simpa using hl)
  subst h3
  simp only [List.map_cons, List.map_nil, List.cons.injEq, Prod.mk.injEq, beq_eq_false_iff_ne, ne_eq, and_true] at h
  exact ⟨f, g, k, rfl, h.1, h.2.1, h.2.2⟩
theorem eq_spot (w : World) (a b c x y z : Int) :
    (binOp .eql 110 (.agg #[.int .i64 a, .int .i64 b, .int .i64 c]) (.agg #[.int .i64 x, .int .i64 y, .int .i64 z])).run Tryz.prog w = .ok (.bool (a == x && (b == y && c == z))) w := by
  rw [run_eql_struct, run_equalIn_agg w 9999 _ _ _ (by kernel_rfl) (by kernel_rfl)]
  obtain ⟨f, g, k, hl, ⟨f1, f2, f3⟩, ⟨g1, g2, g3⟩, k1, k2, k3⟩ := fields3 (l := (Tryz.prog.fieldsOf 110).toList) (t := 3) (by kernel_rfl)
  rw [hl]
  have hi : Tryz.prog.underlying 3 = some (.int .i64) := by kernel_rfl
  simp [Op.eqFields, f1, f2, f3, g1, g2, g3, k1, k2, k3, go_sem, hi]
  by_cases h1 : a = x <;> by_cases h2 : b = y <;> by_cases h3 : c = z <;> simp [h1, h2, h3]
theorem guard_spot : Tryz.prog.eqGuardType Tryz.prog.depth 110 = false := by kernel_rfl
end Go.Proofs.YtpoddnfooaddgaaGreatDoor
