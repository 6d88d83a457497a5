/- What the functions of package layout return that tell where a word of the heap stands, and of which page a cell is. No condition but that the numbers fit their kinds. -/
import Derived.Test.YtcjkachlahjbiaaDoorKlayc
namespace Go.Proofs.YtcjkachlahjbiaaDoor
open Go.RowKit

def addrI (P T R pg at' : Int) : Int := if rightB P T R && (inL pg 0 (P - 1) && inL at' 0 63) then baseI P T R + 64 * pg + at' else -1
set_option maxHeartbeats 400000 in
theorem addr_any (P T R pg at' : Int) (w : World) :
    Calls Tryd.prog 9 #[.agg #[.int .i64 P, .int .i64 T, .int .i64 R], .int .i64 pg, .int .i64 at'] w fun e w' => e = .returned (.int .i64 (addrI P T R pg at')) ∧ Below w.heap.size w w' := by
  have V := Lib.hid (fun W => lvalid_any P T R W)
  unfold addrI
  cases hr : rightB P T R with
  | false =>
    rw [hr] at V
    go_enter Tryd.func9, Tryd.ntmps9
    have c0 := (planNew w P T R 26)
    go_wp2_with fail
    refine (V.out _).mono ?_; rintro e w1 ⟨rfl, hb1⟩
    have c1 := planKeep c0 hb1
    obtain ⟨d10, d11, d12⟩ := c1.1
    go_wp2
    go_ret
    exact ⟨rfl, c1.2⟩
  | true =>
    rw [hr] at V
    have hR := right_of hr
    have W1 := Lib.hid (fun W => within_any pg 0 (P - 1) W)
    have W2 := Lib.hid (fun W => within_any at' 0 63 W)
    have C := Lib.hid (fun W => base_yes P T R W hR)
    have hb := base_bd hR
    generalize baseI P T R = z at *
    obtain ⟨hb1, hb2, _⟩ := hb
    obtain ⟨⟨h1, h2⟩, _⟩ := hR
    clear hr
    cases hi : inL pg 0 (P - 1) with
    | false =>
      rw [hi] at W1
      clear hi
      go_enter Tryd.func9, Tryd.ntmps9
      have c0 := (planNew w P T R 26)
      go_wp2_with fail
      refine (V.out _).mono ?_; rintro e w1 ⟨rfl, hb1⟩
      have c1 := planKeep c0 hb1
      obtain ⟨d10, d11, d12⟩ := c1.1
      go_wp2_with fail
      refine (W1.out _).mono ?_; rintro e w2 ⟨rfl, hb2⟩
      have c2 := planKeep c1 hb2
      obtain ⟨d20, d21, d22⟩ := c2.1
      go_wp2
      go_ret
      exact ⟨rfl, c2.2⟩
    | true =>
      rw [hi] at W1
      simp [inL] at hi
      obtain ⟨i0, i1⟩ := hi
      have i2 : pg < P := by omega
      clear i1
      cases hj : inL at' 0 63 with
      | false =>
        rw [hj] at W2
        clear hj
        go_enter Tryd.func9, Tryd.ntmps9
        have c0 := (planNew w P T R 26)
        go_wp2_with fail
        refine (V.out _).mono ?_; rintro e w1 ⟨rfl, hb1⟩
        have c1 := planKeep c0 hb1
        obtain ⟨d10, d11, d12⟩ := c1.1
        go_wp2_with fail
        refine (W1.out _).mono ?_; rintro e w2 ⟨rfl, hb2⟩
        have c2 := planKeep c1 hb2
        obtain ⟨d20, d21, d22⟩ := c2.1
        go_wp2_with fail
        refine (W2.out _).mono ?_; rintro e w3 ⟨rfl, hb3⟩
        have c3 := planKeep c2 hb3
        obtain ⟨d30, d31, d32⟩ := c3.1
        go_wp2
        go_ret
        exact ⟨rfl, c3.2⟩
      | true =>
        rw [hj] at W2
        simp [inL] at hj
        obtain ⟨j0, j1⟩ := hj
        have k1 : IntKind.i64.wrap (pg * 64) = pg * 64 := wi (by omega)
        have k2 : IntKind.i64.wrap (z + pg * 64) = z + pg * 64 := wi (by omega)
        have k3 : IntKind.i64.wrap (z + pg * 64 + at') = z + pg * 64 + at' := wi (by omega)
        go_enter Tryd.func9, Tryd.ntmps9
        have c0 := (planNew w P T R 26)
        go_wp2_with fail
        refine (V.out _).mono ?_; rintro e w1 ⟨rfl, hb1⟩
        have c1 := planKeep c0 hb1
        obtain ⟨d10, d11, d12⟩ := c1.1
        go_wp2_with fail
        refine (W1.out _).mono ?_; rintro e w2 ⟨rfl, hb2⟩
        have c2 := planKeep c1 hb2
        obtain ⟨d20, d21, d22⟩ := c2.1
        go_wp2_with fail
        refine (W2.out _).mono ?_; rintro e w3 ⟨rfl, hb3⟩
        have c3 := planKeep c2 hb3
        obtain ⟨d30, d31, d32⟩ := c3.1
        go_wp2_with fail
        refine (C.out _).mono ?_; rintro e w4 ⟨rfl, hb4⟩
        have c4 := planKeep c3 hb4
        obtain ⟨d40, d41, d42⟩ := c4.1
        go_wp2
        go_ret
        exact ⟨ret_int (by simp <;> omega), c4.2⟩
/-- is it a cell of the heap? -/
def heapB (P T R at' : Int) : Bool := rightB P T R && inL at' (baseI P T R) (baseI P T R + 64 * P - 1)
set_option maxHeartbeats 400000 in
theorem heap_any (P T R at' : Int) (w : World) :
    Calls Tryd.prog 30 #[.agg #[.int .i64 P, .int .i64 T, .int .i64 R], .int .i64 at'] w fun e w' => e = .returned (.bool (heapB P T R at')) ∧ Below w.heap.size w w' := by
  have V := Lib.hid (fun W => lvalid_any P T R W)
  unfold heapB
  cases hr : rightB P T R with
  | false =>
    rw [hr] at V
    go_enter Tryd.func30, Tryd.ntmps30
    have c0 := (planNew w P T R 26)
    go_wp2_with fail
    refine wp_region_held_drew (S := (fun w' => (w'.cell? ⟨w.heap.size, 0, none⟩ = some (.int .i64 P) ∧ w'.cell? ⟨w.heap.size, 1, none⟩ = some (.int .i64 T) ∧ w'.cell? ⟨w.heap.size, 2, none⟩ = some (.int .i64 R)) ∧ Below w.heap.size w w')) (by kernel_rfl) ⟨c0.1, c0.2.drew⟩ (fun hHeld => ?_)
    refine wpAnyH_take (i := 0) (oi := _) (v := ?_) (op_at rfl) (by kernel_rfl) (by kernel_rfl) (by kernel_rfl) (fun _ _ _ h => h) (Or.inl ⟨by rfl, ?_⟩) hHeld ?_
    rotate_left 1
    focus (intro W hSw; (try dsimp only at hSw); go_simp; (try (with_reducible rfl)))
    (try simp only [Act.put, List.setIfInBounds_toArray, List.set_cons_zero, List.set_cons_succ])
    refine wpAnyH_ready (rs := [1]) (by kernel_rfl) (by simp) ?_
    refine AllReadyH.cons (o := _) (op_at rfl) (fun K hK => ?_) AllReadyH.nil
    go_simp
    go_at_call 23
    refine (V.out _).mono ?_
    rintro e w9 ⟨rfl, hbk⟩
    go_wp2_with fail
    refine hK.out _ _ ?_ (fun hHeld => ?_)
    focus exact planKeep hHeld hbk
    clear hK K
    (try simp only [Act.put, List.setIfInBounds_toArray, List.set_cons_zero, List.set_cons_succ])
    refine wpAnyH_take (i := 2) (oi := _) (v := ?_) (op_at rfl) (by kernel_rfl) (by kernel_rfl) (by kernel_rfl) (fun _ _ _ h => h) (Or.inl ⟨by rfl, ?_⟩) hHeld ?_
    rotate_left 1
    focus (intro W hSw; (try dsimp only at hSw); go_simp; (try (with_reducible rfl)))
    (try simp only [Act.put, List.setIfInBounds_toArray, List.set_cons_zero, List.set_cons_succ])
    refine wpAnyH_take (i := 3) (oi := _) (v := undef) (op_at rfl) (by kernel_rfl) (by kernel_rfl) (by kernel_rfl) (fun _ _ _ h => h) (Or.inr ⟨by rfl, rfl⟩) hHeld ?_
    (try simp only [Act.put, List.setIfInBounds_toArray, List.set_cons_zero, List.set_cons_succ])
    refine wpAnyH_take (i := 4) (oi := _) (v := undef) (op_at rfl) (by kernel_rfl) (by kernel_rfl) (by kernel_rfl) (fun _ _ _ h => h) (Or.inr ⟨by rfl, rfl⟩) hHeld ?_
    (try simp only [Act.put, List.setIfInBounds_toArray, List.set_cons_zero, List.set_cons_succ])
    refine wpAnyH_take (i := 5) (oi := _) (v := undef) (op_at rfl) (by kernel_rfl) (by kernel_rfl) (by kernel_rfl) (fun _ _ _ h => h) (Or.inr ⟨by rfl, rfl⟩) hHeld ?_
    (try simp only [Act.put, List.setIfInBounds_toArray, List.set_cons_zero, List.set_cons_succ])
    refine wpAnyH_take (i := 6) (oi := _) (v := undef) (op_at rfl) (by kernel_rfl) (by kernel_rfl) (by kernel_rfl) (fun _ _ _ h => h) (Or.inr ⟨by rfl, rfl⟩) hHeld ?_
    (try simp only [Act.put, List.setIfInBounds_toArray, List.set_cons_zero, List.set_cons_succ])
    refine wpAnyH_take (i := 7) (oi := _) (v := undef) (op_at rfl) (by kernel_rfl) (by kernel_rfl) (by kernel_rfl) (fun _ _ _ h => h) (Or.inr ⟨by rfl, rfl⟩) hHeld ?_
    (try simp only [Act.put, List.setIfInBounds_toArray, List.set_cons_zero, List.set_cons_succ])
    refine wpAnyH_take (i := 8) (oi := _) (v := undef) (op_at rfl) (by kernel_rfl) (by kernel_rfl) (by kernel_rfl) (fun _ _ _ h => h) (Or.inr ⟨by rfl, rfl⟩) hHeld ?_
    (try simp only [Act.put, List.setIfInBounds_toArray, List.set_cons_zero, List.set_cons_succ])
    refine wpAnyH_take (i := 9) (oi := _) (v := undef) (op_at rfl) (by kernel_rfl) (by kernel_rfl) (by kernel_rfl) (fun _ _ _ h => h) (Or.inr ⟨by rfl, rfl⟩) hHeld ?_
    (try simp only [Act.put, List.setIfInBounds_toArray, List.set_cons_zero, List.set_cons_succ])
    refine wpAnyH_take (i := 10) (oi := _) (v := ?_) (op_at rfl) (by kernel_rfl) (by kernel_rfl) (by kernel_rfl) (fun _ _ _ h => h) (Or.inl ⟨by rfl, ?_⟩) hHeld ?_
    rotate_left 1
    focus (intro W hSw; (try dsimp only at hSw); go_simp; (try (with_reducible rfl)))
    (try simp only [Act.put, List.setIfInBounds_toArray, List.set_cons_zero, List.set_cons_succ])
    refine wpAnyH_take (i := 11) (oi := _) (v := ?_) (op_at rfl) (by kernel_rfl) (by kernel_rfl) (by kernel_rfl) (fun _ _ _ h => h) (Or.inl ⟨by rfl, ?_⟩) hHeld ?_
    rotate_left 1
    focus (intro W hSw; (try dsimp only at hSw); go_simp; (try (with_reducible rfl)))
    (try simp only [Act.put, List.setIfInBounds_toArray, List.set_cons_zero, List.set_cons_succ])
    refine wpAnyH_done (by kernel_rfl) ?_ _
    have c9 := planHeld hHeld
    go_wp2
    go_ret
    exact ⟨rfl, c9.2⟩
  | true =>
    rw [hr] at V
    have hR := right_of hr
    have C := Lib.hid (fun W => base_yes P T R W hR)
    have D := Lib.hid (fun W => cells_yes P T R W hR)
    have hb := base_bd hR
    have W1 := Lib.hid (fun W => within_any at' (baseI P T R) (baseI P T R + 64 * P - 1) W)
    generalize inL at' (baseI P T R) (baseI P T R + 64 * P - 1) = b at *
    generalize baseI P T R = z at *
    obtain ⟨hb1, hb2, _⟩ := hb
    obtain ⟨⟨h1, h2⟩, _⟩ := hR
    have k4 : IntKind.i64.wrap (z + 64 * P - 1) = z + 64 * P - 1 := wi (by omega)
    clear hr
    go_enter Tryd.func30, Tryd.ntmps30
    have c0 := (planNew w P T R 26)
    go_wp2_with fail
    go_region_held3 (fun w' => (w'.cell? ⟨w.heap.size, 0, none⟩ = some (.int .i64 P) ∧ w'.cell? ⟨w.heap.size, 1, none⟩ = some (.int .i64 T) ∧ w'.cell? ⟨w.heap.size, 2, none⟩ = some (.int .i64 R)) ∧ Below w.heap.size w w')
      (first | exact c0 | exact ⟨c0.1, c0.2.drew⟩ | exact planKeep (by assumption) hbk)
      (first | (go_at_call 23; refine (V.out _).mono ?_; rintro e w9 ⟨rfl, hbk⟩) | (go_at_call 24; refine (C.out _).mono ?_; rintro e w9 ⟨rfl, hbk⟩) | (go_at_call 5; refine (D.out _).mono ?_; rintro e w9 ⟨rfl, hbk⟩) | (go_at_call 29; refine (W1.out _).mono ?_; rintro e w9 ⟨rfl, hbk⟩))
    have c1 := planHeld (by assumption)
    go_wp2
    go_ret
    exact ⟨rfl, c1.2⟩
def placeI (P T R at' : Int) : Int × Int := if heapB P T R at' then ((at' - baseI P T R) / 64, (at' - baseI P T R) % 64) else (-1, -1)
set_option maxHeartbeats 400000 in
theorem place_any (P T R at' : Int) (w : World) :
    Calls Tryd.prog 10 #[.agg #[.int .i64 P, .int .i64 T, .int .i64 R], .int .i64 at'] w fun e w' => e = .returned (.tuple #[.int .i64 (placeI P T R at').1, .int .i64 (placeI P T R at').2]) ∧ Below w.heap.size w w' := by
  have V := Lib.hid (fun W => heap_any P T R at' W)
  unfold placeI
  cases hh : heapB P T R at' with
  | false =>
    rw [hh] at V
    go_enter Tryd.func10, Tryd.ntmps10
    have c0 := (planNew w P T R 26)
    go_wp2_with fail
    refine (V.out _).mono ?_; rintro e w1 ⟨rfl, hb1⟩
    have c1 := planKeep c0 hb1
    obtain ⟨d10, d11, d12⟩ := c1.1
    go_wp2
    go_ret2
    exact ⟨rfl, c1.2⟩
  | true =>
    rw [hh] at V
    have hh' := hh
    unfold heapB at hh'
    rw [Bool.and_eq_true] at hh'
    obtain ⟨hr, hi⟩ := hh'
    have hR := right_of hr
    have C := Lib.hid (fun W => base_yes P T R W hR)
    have hb := base_bd hR
    clear hh hr
    generalize baseI P T R = z at *
    simp [inL] at hi
    obtain ⟨hb1, hb2, _⟩ := hb
    obtain ⟨⟨h1, h2⟩, _⟩ := hR
    have hd0 : 0 ≤ at' - z := by omega
    have hd1 : at' - z < 2048 := by omega
    go_enter Tryd.func10, Tryd.ntmps10
    have c0 := (planNew w P T R 26)
    go_wp2_with fail
    refine (V.out _).mono ?_; rintro e w1 ⟨rfl, hb1⟩
    have c1 := planKeep c0 hb1
    obtain ⟨d10, d11, d12⟩ := c1.1
    go_wp2_with fail
    refine (C.out _).mono ?_; rintro e w2 ⟨rfl, hb2⟩
    have c2 := planKeep c1 hb2
    obtain ⟨d20, d21, d22⟩ := c2.1
    go_wp2
    go_ret2
    exact ⟨rfl, c2.2⟩
def refB (P T R x : Int) : Bool := decide (x < 4096) && heapB P T R x
set_option maxHeartbeats 400000 in
theorem ref_any (P T R x : Int) (w : World) (hx : U64 x) :
    Calls Tryd.prog 12 #[.agg #[.int .i64 P, .int .i64 T, .int .i64 R], .int .u64 x] w fun e w' => e = .returned (.bool (refB P T R x)) ∧ Below w.heap.size w w' := by
  obtain ⟨hx0, hx1⟩ := hx
  have V := Lib.hid (fun W => heap_any P T R x W)
  unfold refB
  generalize heapB P T R x = b at *
  by_cases hl : x < 4096
  · rw [decide_eq_true hl]
    go_enter Tryd.func12, Tryd.ntmps12
    have c0 := (planNew w P T R 26)
    go_wp2_with fail
    refine (V.out _).mono ?_; rintro e w1 ⟨rfl, hb1⟩
    have c1 := planKeep c0 hb1
    obtain ⟨d10, d11, d12⟩ := c1.1
    go_wp2
    go_ret
    exact ⟨rfl, c1.2⟩
  · rw [decide_eq_false hl]
    go_enter Tryd.func12, Tryd.ntmps12
    have c0 := (planNew w P T R 26)
    go_wp2
    go_ret
    exact ⟨rfl, c0.2⟩
end Go.Proofs.YtcjkachlahjbiaaDoor
