/- What the functions of package layout return that tell where a thread's, a global's, a page's cell or a word of the heap stands. No condition but that the numbers fit their kinds. -/
import Derived.Test.YtcjkachlahjbiaaDoorKlayb
namespace Go.Proofs.YtcjkachlahjbiaaDoor
open Go.RowKit

def ownI (P T R t n : Int) : Int := if rightB P T R && inL t 0 (T - 1) then 16 + t * (5 + R) + n else -1
theorem own_bd {P T R t : Int} (h : Right P T R) (ht : inL t 0 (T - 1) = true) : 0 ≤ t ∧ t ≤ 5 ∧ 0 ≤ t * (5 + R) ∧ t * (5 + R) ≤ 105 := by
  simp [inL] at ht
  obtain ⟨_, ⟨h1, h2⟩, h3, h4⟩ := h
  refine ⟨by omega, by omega, Int.mul_nonneg ht.1 (by omega), ?_⟩
  exact Int.le_trans (Int.mul_le_mul (c := 5) (d := 21) (by omega) (by omega) (by omega) (by decide)) (by decide)
set_option maxHeartbeats 400000 in
theorem own_any (P T R t n : Int) (w : World) (hn : 0 ≤ n ∧ n ≤ 100) :
    Calls Tryd.prog 33 #[.agg #[.int .i64 P, .int .i64 T, .int .i64 R], .int .i64 t, .int .i64 n] w fun e w' => e = .returned (.int .i64 (ownI P T R t n)) ∧ Below w.heap.size w w' := by
  have V := Lib.hid (fun W => lvalid_any P T R W)
  unfold ownI
  cases hr : rightB P T R with
  | false =>
    rw [hr] at V
    go_enter Tryd.func33, Tryd.ntmps33
    have c0 := (planNew w P T R 26)
    go_wp2_with fail
    refine (V.out _).mono ?_; rintro e w1 ⟨rfl, hb1⟩
    have c1 := planKeep c0 hb1
    obtain ⟨d10, d11, d12⟩ := c1.1
    go_wp2
    go_ret
    exact ⟨rfl, c1.2⟩
  | true =>
    rw [hr] at V
    have hR := right_of hr
    have W1 := Lib.hid (fun W => within_any t 0 (T - 1) W)
    have C := Lib.hid (fun W => each_any P T R W hR)
    cases hi : inL t 0 (T - 1) with
    | false =>
      rw [hi] at W1
      obtain ⟨_, ⟨h1, h2⟩, _⟩ := hR
      clear hr hi
      go_enter Tryd.func33, Tryd.ntmps33
      have c0 := (planNew w P T R 26)
      go_wp2_with fail
      refine (V.out _).mono ?_; rintro e w1 ⟨rfl, hb1⟩
      have c1 := planKeep c0 hb1
      obtain ⟨d10, d11, d12⟩ := c1.1
      go_wp2_with fail
      refine (W1.out _).mono ?_; rintro e w2 ⟨rfl, hb2⟩
      have c2 := planKeep c1 hb2
      obtain ⟨d20, d21, d22⟩ := c2.1
      go_wp2
      go_ret
      exact ⟨rfl, c2.2⟩
    | true =>
      have hb := own_bd hR hi
      rw [hi] at W1
      obtain ⟨_, ⟨h1, h2⟩, h3, h4⟩ := hR
      clear hr hi
      generalize 5 + R = E at *
      generalize hz : t * E = z at *
      obtain ⟨hb1, hb2, hb3, hb4⟩ := hb
      obtain ⟨hn0, hn1⟩ := hn
      have k1 : IntKind.i64.wrap z = z := wi (by omega)
      have k2 : IntKind.i64.wrap (16 + z) = 16 + z := wi (by omega)
      have k3 : IntKind.i64.wrap (16 + z + n) = 16 + z + n := wi (by omega)
      go_enter Tryd.func33, Tryd.ntmps33
      have c0 := (planNew w P T R 26)
      go_wp2_with fail
      refine (V.out _).mono ?_; rintro e w1 ⟨rfl, hb1⟩
      have c1 := planKeep c0 hb1
      obtain ⟨d10, d11, d12⟩ := c1.1
      go_wp2_with fail
      refine (W1.out _).mono ?_; rintro e w2 ⟨rfl, hb2⟩
      have c2 := planKeep c1 hb2
      obtain ⟨d20, d21, d22⟩ := c2.1
      go_wp2_with fail
      refine (C.out _).mono ?_; rintro e w3 ⟨rfl, hb3⟩
      have c3 := planKeep c2 hb3
      obtain ⟨d30, d31, d32⟩ := c3.1
      go_wp2
      go_ret
      exact ⟨rfl, c3.2⟩
set_option maxHeartbeats 400000 in
theorem status_any (P T R t : Int) (w : World) :
    Calls Tryd.prog 17 #[.agg #[.int .i64 P, .int .i64 T, .int .i64 R], .int .i64 t] w fun e w' => e = .returned (.int .i64 (ownI P T R t 0)) ∧ Below w.heap.size w w' := by
  have C := Lib.hid (fun W => own_any P T R t 0 W (by decide))
  go_enter Tryd.func17, Tryd.ntmps17
  have c0 := (planNew w P T R 26)
  go_wp2_with fail
  refine (C.out _).mono ?_; rintro e w1 ⟨rfl, hb1⟩
  have c1 := planKeep c0 hb1
  obtain ⟨d10, d11, d12⟩ := c1.1
  go_wp2
  go_ret
  exact ⟨rfl, c1.2⟩
set_option maxHeartbeats 400000 in
theorem ack_any (P T R t : Int) (w : World) :
    Calls Tryd.prog 18 #[.agg #[.int .i64 P, .int .i64 T, .int .i64 R], .int .i64 t] w fun e w' => e = .returned (.int .i64 (ownI P T R t 1)) ∧ Below w.heap.size w w' := by
  have C := Lib.hid (fun W => own_any P T R t 1 W (by decide))
  go_enter Tryd.func18, Tryd.ntmps18
  have c0 := (planNew w P T R 26)
  go_wp2_with fail
  refine (C.out _).mono ?_; rintro e w1 ⟨rfl, hb1⟩
  have c1 := planKeep c0 hb1
  obtain ⟨d10, d11, d12⟩ := c1.1
  go_wp2
  go_ret
  exact ⟨rfl, c1.2⟩
set_option maxHeartbeats 400000 in
theorem result_any (P T R t : Int) (w : World) :
    Calls Tryd.prog 19 #[.agg #[.int .i64 P, .int .i64 T, .int .i64 R], .int .i64 t] w fun e w' => e = .returned (.int .i64 (ownI P T R t 2)) ∧ Below w.heap.size w w' := by
  have C := Lib.hid (fun W => own_any P T R t 2 W (by decide))
  go_enter Tryd.func19, Tryd.ntmps19
  have c0 := (planNew w P T R 26)
  go_wp2_with fail
  refine (C.out _).mono ?_; rintro e w1 ⟨rfl, hb1⟩
  have c1 := planKeep c0 hb1
  obtain ⟨d10, d11, d12⟩ := c1.1
  go_wp2
  go_ret
  exact ⟨rfl, c1.2⟩
set_option maxHeartbeats 400000 in
theorem head_any (P T R t : Int) (w : World) :
    Calls Tryd.prog 20 #[.agg #[.int .i64 P, .int .i64 T, .int .i64 R], .int .i64 t] w fun e w' => e = .returned (.int .i64 (ownI P T R t 3)) ∧ Below w.heap.size w w' := by
  have C := Lib.hid (fun W => own_any P T R t 3 W (by decide))
  go_enter Tryd.func20, Tryd.ntmps20
  have c0 := (planNew w P T R 26)
  go_wp2_with fail
  refine (C.out _).mono ?_; rintro e w1 ⟨rfl, hb1⟩
  have c1 := planKeep c0 hb1
  obtain ⟨d10, d11, d12⟩ := c1.1
  go_wp2
  go_ret
  exact ⟨rfl, c1.2⟩
set_option maxHeartbeats 400000 in
theorem tail_any (P T R t : Int) (w : World) :
    Calls Tryd.prog 21 #[.agg #[.int .i64 P, .int .i64 T, .int .i64 R], .int .i64 t] w fun e w' => e = .returned (.int .i64 (ownI P T R t 4)) ∧ Below w.heap.size w w' := by
  have C := Lib.hid (fun W => own_any P T R t 4 W (by decide))
  go_enter Tryd.func21, Tryd.ntmps21
  have c0 := (planNew w P T R 26)
  go_wp2_with fail
  refine (C.out _).mono ?_; rintro e w1 ⟨rfl, hb1⟩
  have c1 := planKeep c0 hb1
  obtain ⟨d10, d11, d12⟩ := c1.1
  go_wp2
  go_ret
  exact ⟨rfl, c1.2⟩
/-- the slot of a thread's ring, by a count -/
def slotI (P T R t n : Int) : Int := ownI P T R t (5 + n % R)
set_option maxHeartbeats 400000 in
theorem slot_any (P T R t n : Int) (w : World) (hn : U64 n) :
    Calls Tryd.prog 22 #[.agg #[.int .i64 P, .int .i64 T, .int .i64 R], .int .i64 t, .int .u64 n] w fun e w' => e = .returned (.int .i64 (slotI P T R t n)) ∧ Below w.heap.size w w' := by
  have V := Lib.hid (fun W => lvalid_any P T R W)
  unfold slotI
  cases hr : rightB P T R with
  | false =>
    rw [hr] at V
    unfold ownI
    rw [hr]
    go_enter Tryd.func22, Tryd.ntmps22
    have c0 := (planNew w P T R 26)
    go_wp2_with fail
    refine (V.out _).mono ?_; rintro e w1 ⟨rfl, hb1⟩
    have c1 := planKeep c0 hb1
    obtain ⟨d10, d11, d12⟩ := c1.1
    go_wp2
    go_ret
    exact ⟨rfl, c1.2⟩
  | true =>
    rw [hr] at V
    obtain ⟨_, _, h3, h4⟩ := right_of hr
    obtain ⟨n0, n1⟩ := hn
    have hm0 : 0 ≤ n % R := Int.emod_nonneg _ (by omega)
    have hm1 : n % R < R := Int.emod_lt_of_pos _ (by omega)
    have C := Lib.hid (fun W => own_any P T R t (5 + n % R) W (by omega))
    have ht : n.tmod R = n % R := Int.tmod_eq_emod_of_nonneg n0
    have hw : IntKind.u64.wrap R = R := by rw [IntKind.wrap_u64]; omega
    have hw2 : IntKind.i64.wrap (n % R) = n % R := wi (by omega)
    have hw4 : IntKind.u64.wrap (n % R) = n % R := by rw [IntKind.wrap_u64]; omega
    have hR0 : R ≠ 0 := by omega
    have hw3 : IntKind.i64.wrap (5 + n % R) = 5 + n % R := wi (by omega)
    generalize n % R = m at *
    generalize ownI P T R t (5 + m) = y at *
    clear hr
    go_enter Tryd.func22, Tryd.ntmps22
    have c0 := (planNew w P T R 26)
    go_wp2_with fail
    refine (V.out _).mono ?_; rintro e w1 ⟨rfl, hb1⟩
    have c1 := planKeep c0 hb1
    obtain ⟨d10, d11, d12⟩ := c1.1
    go_wp2_with fail
    go_region_held3 (fun w' => (w'.cell? ⟨w.heap.size, 0, none⟩ = some (.int .i64 P) ∧ w'.cell? ⟨w.heap.size, 1, none⟩ = some (.int .i64 T) ∧ w'.cell? ⟨w.heap.size, 2, none⟩ = some (.int .i64 R)) ∧ Below w.heap.size w w')
      (first | exact c1 | exact ⟨c1.1, c1.2.drew⟩ | exact planKeep (by assumption) hbk)
      (first | (go_at_call 33; refine (C.out _).mono ?_; rintro e w9 ⟨rfl, hbk⟩))
    have c2 := planHeld (by assumption)
    go_wp2
    go_ret
    exact ⟨rfl, c2.2⟩
/-- the word of page i in table k -/
def rowI (P T R k i : Int) : Int := if rightB P T R && inL i 0 (P - 1) then tabI T R + k * P + i else -1
set_option maxHeartbeats 400000 in
theorem row0_any (P T R i : Int) (w : World) :
    Calls Tryd.prog 32 #[.agg #[.int .i64 P, .int .i64 T, .int .i64 R], .int .i64 0, .int .i64 i] w fun e w' => e = .returned (.int .i64 (rowI P T R 0 i)) ∧ Below w.heap.size w w' := by
  have V := Lib.hid (fun W => lvalid_any P T R W)
  unfold rowI
  cases hr : rightB P T R with
  | false =>
    rw [hr] at V
    go_enter Tryd.func32, Tryd.ntmps32
    have c0 := (planNew w P T R 26)
    go_wp2_with fail
    refine (V.out _).mono ?_; rintro e w1 ⟨rfl, hb1⟩
    have c1 := planKeep c0 hb1
    obtain ⟨d10, d11, d12⟩ := c1.1
    go_wp2
    go_ret
    exact ⟨rfl, c1.2⟩
  | true =>
    rw [hr] at V
    have hR := right_of hr
    have W1 := Lib.hid (fun W => within_any i 0 (P - 1) W)
    have C := Lib.hid (fun W => tables_any P T R W hR)
    have hb := tab_bd hR
    generalize tabI T R = z at *
    obtain ⟨hb1, hb2⟩ := hb
    obtain ⟨⟨h1, h2⟩, _⟩ := hR
    clear hr
    cases hi : inL i 0 (P - 1) with
    | false =>
      rw [hi] at W1
      clear hi
      go_enter Tryd.func32, Tryd.ntmps32
      have c0 := (planNew w P T R 26)
      go_wp2_with fail
      refine (V.out _).mono ?_; rintro e w1 ⟨rfl, hb1⟩
      have c1 := planKeep c0 hb1
      obtain ⟨d10, d11, d12⟩ := c1.1
      go_wp2_with fail
      refine (W1.out _).mono ?_; rintro e w2 ⟨rfl, hb2⟩
      have c2 := planKeep c1 hb2
      obtain ⟨d20, d21, d22⟩ := c2.1
      go_wp2
      go_ret
      exact ⟨rfl, c2.2⟩
    | true =>
      rw [hi] at W1
      simp [inL] at hi
      obtain ⟨i0, i1⟩ := hi
      have i2 : i < P := by omega
      clear i1
      have k1 : IntKind.i64.wrap z = z := wi (by omega)
      have k3 : IntKind.i64.wrap (z + i) = z + i := wi (by omega)
      go_enter Tryd.func32, Tryd.ntmps32
      have c0 := (planNew w P T R 26)
      go_wp2_with fail
      refine (V.out _).mono ?_; rintro e w1 ⟨rfl, hb1⟩
      have c1 := planKeep c0 hb1
      obtain ⟨d10, d11, d12⟩ := c1.1
      go_wp2_with fail
      refine (W1.out _).mono ?_; rintro e w2 ⟨rfl, hb2⟩
      have c2 := planKeep c1 hb2
      obtain ⟨d20, d21, d22⟩ := c2.1
      go_wp2_with fail
      go_region_held3 (fun w' => (w'.cell? ⟨w.heap.size, 0, none⟩ = some (.int .i64 P) ∧ w'.cell? ⟨w.heap.size, 1, none⟩ = some (.int .i64 T) ∧ w'.cell? ⟨w.heap.size, 2, none⟩ = some (.int .i64 R)) ∧ Below w.heap.size w w')
        (first | exact c2 | exact ⟨c2.1, c2.2.drew⟩ | exact planKeep (by assumption) hbk)
        (first | (go_at_call 34; refine (C.out _).mono ?_; rintro e w9 ⟨rfl, hbk⟩))
      have c3 := planHeld (by assumption)
      go_wp2
      go_ret
      exact ⟨ret_int (by rw [show IntKind.i64.wrap 0 = 0 from rfl, Int.add_zero, k1, k3]), c3.2⟩
set_option maxHeartbeats 400000 in
theorem entry_any (P T R i : Int) (w : World) :
    Calls Tryd.prog 13 #[.agg #[.int .i64 P, .int .i64 T, .int .i64 R], .int .i64 i] w fun e w' => e = .returned (.int .i64 (rowI P T R 0 i)) ∧ Below w.heap.size w w' := by
  have C := Lib.hid (fun W => row0_any P T R i W)
  go_enter Tryd.func13, Tryd.ntmps13
  have c0 := (planNew w P T R 26)
  go_wp2_with fail
  refine (C.out _).mono ?_; rintro e w1 ⟨rfl, hb1⟩
  have c1 := planKeep c0 hb1
  obtain ⟨d10, d11, d12⟩ := c1.1
  go_wp2
  go_ret
  exact ⟨rfl, c1.2⟩
set_option maxHeartbeats 400000 in
theorem row1_any (P T R i : Int) (w : World) :
    Calls Tryd.prog 32 #[.agg #[.int .i64 P, .int .i64 T, .int .i64 R], .int .i64 1, .int .i64 i] w fun e w' => e = .returned (.int .i64 (rowI P T R 1 i)) ∧ Below w.heap.size w w' := by
  have V := Lib.hid (fun W => lvalid_any P T R W)
  unfold rowI
  cases hr : rightB P T R with
  | false =>
    rw [hr] at V
    go_enter Tryd.func32, Tryd.ntmps32
    have c0 := (planNew w P T R 26)
    go_wp2_with fail
    refine (V.out _).mono ?_; rintro e w1 ⟨rfl, hb1⟩
    have c1 := planKeep c0 hb1
    obtain ⟨d10, d11, d12⟩ := c1.1
    go_wp2
    go_ret
    exact ⟨rfl, c1.2⟩
  | true =>
    rw [hr] at V
    have hR := right_of hr
    have W1 := Lib.hid (fun W => within_any i 0 (P - 1) W)
    have C := Lib.hid (fun W => tables_any P T R W hR)
    have hb := tab_bd hR
    generalize tabI T R = z at *
    obtain ⟨hb1, hb2⟩ := hb
    obtain ⟨⟨h1, h2⟩, _⟩ := hR
    clear hr
    cases hi : inL i 0 (P - 1) with
    | false =>
      rw [hi] at W1
      clear hi
      go_enter Tryd.func32, Tryd.ntmps32
      have c0 := (planNew w P T R 26)
      go_wp2_with fail
      refine (V.out _).mono ?_; rintro e w1 ⟨rfl, hb1⟩
      have c1 := planKeep c0 hb1
      obtain ⟨d10, d11, d12⟩ := c1.1
      go_wp2_with fail
      refine (W1.out _).mono ?_; rintro e w2 ⟨rfl, hb2⟩
      have c2 := planKeep c1 hb2
      obtain ⟨d20, d21, d22⟩ := c2.1
      go_wp2
      go_ret
      exact ⟨rfl, c2.2⟩
    | true =>
      rw [hi] at W1
      simp [inL] at hi
      obtain ⟨i0, i1⟩ := hi
      have i2 : i < P := by omega
      clear i1
      have k1 : IntKind.i64.wrap P = P := wi (by omega)
      have k2 : IntKind.i64.wrap (z + P) = z + P := wi (by omega)
      have k3 : IntKind.i64.wrap (z + P + i) = z + P + i := wi (by omega)
      go_enter Tryd.func32, Tryd.ntmps32
      have c0 := (planNew w P T R 26)
      go_wp2_with fail
      refine (V.out _).mono ?_; rintro e w1 ⟨rfl, hb1⟩
      have c1 := planKeep c0 hb1
      obtain ⟨d10, d11, d12⟩ := c1.1
      go_wp2_with fail
      refine (W1.out _).mono ?_; rintro e w2 ⟨rfl, hb2⟩
      have c2 := planKeep c1 hb2
      obtain ⟨d20, d21, d22⟩ := c2.1
      go_wp2_with fail
      go_region_held3 (fun w' => (w'.cell? ⟨w.heap.size, 0, none⟩ = some (.int .i64 P) ∧ w'.cell? ⟨w.heap.size, 1, none⟩ = some (.int .i64 T) ∧ w'.cell? ⟨w.heap.size, 2, none⟩ = some (.int .i64 R)) ∧ Below w.heap.size w w')
        (first | exact c2 | exact ⟨c2.1, c2.2.drew⟩ | exact planKeep (by assumption) hbk)
        (first | (go_at_call 34; refine (C.out _).mono ?_; rintro e w9 ⟨rfl, hbk⟩))
      have c3 := planHeld (by assumption)
      go_wp2
      go_ret
      exact ⟨rfl, c3.2⟩
set_option maxHeartbeats 400000 in
theorem alloc_any (P T R i : Int) (w : World) :
    Calls Tryd.prog 14 #[.agg #[.int .i64 P, .int .i64 T, .int .i64 R], .int .i64 i] w fun e w' => e = .returned (.int .i64 (rowI P T R 1 i)) ∧ Below w.heap.size w w' := by
  have C := Lib.hid (fun W => row1_any P T R i W)
  go_enter Tryd.func14, Tryd.ntmps14
  have c0 := (planNew w P T R 26)
  go_wp2_with fail
  refine (C.out _).mono ?_; rintro e w1 ⟨rfl, hb1⟩
  have c1 := planKeep c0 hb1
  obtain ⟨d10, d11, d12⟩ := c1.1
  go_wp2
  go_ret
  exact ⟨rfl, c1.2⟩
set_option maxHeartbeats 400000 in
theorem row2_any (P T R i : Int) (w : World) :
    Calls Tryd.prog 32 #[.agg #[.int .i64 P, .int .i64 T, .int .i64 R], .int .i64 2, .int .i64 i] w fun e w' => e = .returned (.int .i64 (rowI P T R 2 i)) ∧ Below w.heap.size w w' := by
  have V := Lib.hid (fun W => lvalid_any P T R W)
  unfold rowI
  cases hr : rightB P T R with
  | false =>
    rw [hr] at V
    go_enter Tryd.func32, Tryd.ntmps32
    have c0 := (planNew w P T R 26)
    go_wp2_with fail
    refine (V.out _).mono ?_; rintro e w1 ⟨rfl, hb1⟩
    have c1 := planKeep c0 hb1
    obtain ⟨d10, d11, d12⟩ := c1.1
    go_wp2
    go_ret
    exact ⟨rfl, c1.2⟩
  | true =>
    rw [hr] at V
    have hR := right_of hr
    have W1 := Lib.hid (fun W => within_any i 0 (P - 1) W)
    have C := Lib.hid (fun W => tables_any P T R W hR)
    have hb := tab_bd hR
    generalize tabI T R = z at *
    obtain ⟨hb1, hb2⟩ := hb
    obtain ⟨⟨h1, h2⟩, _⟩ := hR
    clear hr
    cases hi : inL i 0 (P - 1) with
    | false =>
      rw [hi] at W1
      clear hi
      go_enter Tryd.func32, Tryd.ntmps32
      have c0 := (planNew w P T R 26)
      go_wp2_with fail
      refine (V.out _).mono ?_; rintro e w1 ⟨rfl, hb1⟩
      have c1 := planKeep c0 hb1
      obtain ⟨d10, d11, d12⟩ := c1.1
      go_wp2_with fail
      refine (W1.out _).mono ?_; rintro e w2 ⟨rfl, hb2⟩
      have c2 := planKeep c1 hb2
      obtain ⟨d20, d21, d22⟩ := c2.1
      go_wp2
      go_ret
      exact ⟨rfl, c2.2⟩
    | true =>
      rw [hi] at W1
      simp [inL] at hi
      obtain ⟨i0, i1⟩ := hi
      have i2 : i < P := by omega
      clear i1
      have k1 : IntKind.i64.wrap (2 * P) = 2 * P := wi (by omega)
      have k2 : IntKind.i64.wrap (z + 2 * P) = z + 2 * P := wi (by omega)
      have k3 : IntKind.i64.wrap (z + 2 * P + i) = z + 2 * P + i := wi (by omega)
      go_enter Tryd.func32, Tryd.ntmps32
      have c0 := (planNew w P T R 26)
      go_wp2_with fail
      refine (V.out _).mono ?_; rintro e w1 ⟨rfl, hb1⟩
      have c1 := planKeep c0 hb1
      obtain ⟨d10, d11, d12⟩ := c1.1
      go_wp2_with fail
      refine (W1.out _).mono ?_; rintro e w2 ⟨rfl, hb2⟩
      have c2 := planKeep c1 hb2
      obtain ⟨d20, d21, d22⟩ := c2.1
      go_wp2_with fail
      go_region_held3 (fun w' => (w'.cell? ⟨w.heap.size, 0, none⟩ = some (.int .i64 P) ∧ w'.cell? ⟨w.heap.size, 1, none⟩ = some (.int .i64 T) ∧ w'.cell? ⟨w.heap.size, 2, none⟩ = some (.int .i64 R)) ∧ Below w.heap.size w w')
        (first | exact c2 | exact ⟨c2.1, c2.2.drew⟩ | exact planKeep (by assumption) hbk)
        (first | (go_at_call 34; refine (C.out _).mono ?_; rintro e w9 ⟨rfl, hbk⟩))
      have c3 := planHeld (by assumption)
      go_wp2
      go_ret
      exact ⟨rfl, c3.2⟩
set_option maxHeartbeats 400000 in
theorem mark_any (P T R i : Int) (w : World) :
    Calls Tryd.prog 15 #[.agg #[.int .i64 P, .int .i64 T, .int .i64 R], .int .i64 i] w fun e w' => e = .returned (.int .i64 (rowI P T R 2 i)) ∧ Below w.heap.size w w' := by
  have C := Lib.hid (fun W => row2_any P T R i W)
  go_enter Tryd.func15, Tryd.ntmps15
  have c0 := (planNew w P T R 26)
  go_wp2_with fail
  refine (C.out _).mono ?_; rintro e w1 ⟨rfl, hb1⟩
  have c1 := planKeep c0 hb1
  obtain ⟨d10, d11, d12⟩ := c1.1
  go_wp2
  go_ret
  exact ⟨rfl, c1.2⟩
end Go.Proofs.YtcjkachlahjbiaaDoor
