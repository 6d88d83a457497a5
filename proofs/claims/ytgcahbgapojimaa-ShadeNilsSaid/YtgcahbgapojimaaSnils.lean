/- The walk of the law ShadeNils: it returns true, whatever is given. No condition but that each number fits its kind. -/
import Derived.Test.YtgcahbgapojimaaShaded
namespace Go.Proofs.Ytgcahbgapojimaa
open Go.RowKit
set_option maxHeartbeats 1000000 in
theorem ref8_any (P T R x : Int) (w : World) (hR : Right P T R) (_hu : U64 x) :
    Calls Try.prog 55 #[mapV P T R, .int .u64 x] w fun e w' => e = .returned (.bool (refB P T R x)) ∧ Below w.heap.size w w' := by
  have hb := base_bd hR
  have hr : refB P T R x = (decide (baseI P T R ≤ x) && decide (x < baseI P T R + 64 * P)) := by
    unfold refB heapB inB
    rw [of_right hR, Bool.true_and]
    have := hR.1
    by_cases h1 : baseI P T R ≤ x
    · by_cases h2 : x < baseI P T R + 64 * P
      · rw [decide_eq_true h1, decide_eq_true h2, decide_eq_true (show x < 4096 by omega), decide_eq_true (show baseI P T R ≤ x ∧ x ≤ baseI P T R + 64 * P - 1 by omega)]
      · rw [decide_eq_true h1, decide_eq_false h2, decide_eq_false (show ¬ (baseI P T R ≤ x ∧ x ≤ baseI P T R + 64 * P - 1) by omega)]; simp
    · rw [decide_eq_false h1, decide_eq_false (show ¬ (baseI P T R ≤ x ∧ x ≤ baseI P T R + 64 * P - 1) by omega)]; simp
  rw [hr]
  have hp := hR.1
  unfold mapV
  have w1 : IntKind.u64.wrap (baseI P T R) = baseI P T R := by rw [IntKind.wrap_u64]; omega
  have w2 : IntKind.u64.wrap (baseI P T R + 64 * P) = baseI P T R + 64 * P := by rw [IntKind.wrap_u64]; omega
  have h0 : 0 ≤ baseI P T R := by omega
  clear hr hb hR
  generalize baseI P T R + 64 * P = y at *
  generalize baseI P T R = b at *
  generalize tabI T R = z at *
  by_cases h1 : b ≤ x
  · have d1 : decide (b ≤ x) = true := decide_eq_true h1
    go_enter Try.func55, Try.ntmps55
    have hZ := (Blk.new w #[.int .i64 P, .int .i64 T, .int .i64 R, .int .i64 b, .int .i64 z, .int .i64 y] 36).six.1
    go_wp2
    go_ret
    exact ⟨ret_bool (by simp [d1]), (Below.refl _ _).alloc (Nat.le_refl _) _⟩
  · have d1 : decide (b ≤ x) = false := decide_eq_false h1
    go_enter Try.func55, Try.ntmps55
    have hZ := (Blk.new w #[.int .i64 P, .int .i64 T, .int .i64 R, .int .i64 b, .int .i64 z, .int .i64 y] 36).six.1
    go_wp2
    go_ret
    exact ⟨ret_bool (by simp), (Below.refl _ _).alloc (Nat.le_refl _) _⟩

set_option maxRecDepth 100000 in
set_option maxHeartbeats 4000000 in
theorem sn_bad0 (P T R t x : Int) (w : World) (hb : rightB P T R = false) (hx : exB P T R t = false) (hu : U64 x) (h0 : x = 0) :
    Calls Try.prog 9 #[.agg #[.int .i64 P, .int .i64 T, .int .i64 R], .int .i64 t, .int .u64 x] w fun e w' => e = .returned (.bool true) ∧ Below w.heap.size w w' := by
  subst h0
  have V := Lib.hid (fun W => rright_any P T R W)
  rw [hb] at V
  have MN := Lib.hid (fun W => marked_nil P T R 0 W hu)
  have NM := Lib.hid (fun W => newmark_arg P T R 0 W hb)
  have NS := Lib.hid (fun W => newshade_arg P T R t 0 W hx)
  clear hx hu hb
  go_enter Try.func9, Try.ntmps9
  have c0 := (planNew w P T R 26)
  go_wp2_with fail
  refine (V.out _).mono ?_; rintro e w1 ⟨rfl, hb1⟩
  have c1 := planKeep c0 hb1
  obtain ⟨d10, d11, d12⟩ := c1.1
  clear hb1 c0
  go_wp2_with fail
  refine (splan_any P T R _).mono ?_; rintro e w2 ⟨rfl, hb2⟩
  have c2 := planKeep c1 hb2
  obtain ⟨d20, d21, d22⟩ := c2.1
  clear hb2 c1 d10 d11 d12
  go_wp2_with fail
  refine (NM.out _).mono ?_; rintro e w3 ⟨rfl, hb3⟩
  have c3 := planKeep c2 hb3
  obtain ⟨d30, d31, d32⟩ := c3.1
  clear hb3 c2 d20 d21 d22
  go_wp2_with fail
  refine (splan_any P T R _).mono ?_; rintro e w4 ⟨rfl, hb4⟩
  have c4 := planKeep c3 hb4
  obtain ⟨d40, d41, d42⟩ := c4.1
  clear hb4 c3 d30 d31 d32
  as_aux_lemma =>
    go_wp2_with fail
    refine (NS.out _).mono ?_; rintro e w5 ⟨rfl, hb5⟩
    have c5 := planKeep c4 hb5
    obtain ⟨d50, d51, d52⟩ := c5.1
    clear hb5 c4 d40 d41 d42
    go_wp2_with fail
    refine (shaded_any _).mono ?_; rintro e w6 ⟨rfl, hb6⟩
    have c6 := planKeep c5 hb6
    obtain ⟨d60, d61, d62⟩ := c6.1
    clear hb6 c5 d50 d51 d52
    as_aux_lemma =>
      go_wp2_with fail
      refine (step_marknil none _).mono ?_; rintro e w7 ⟨rfl, hq7⟩
      have c7 := planKeep c6 (hq7.below : Below w6.heap.size w6 w7)
      obtain ⟨d70, d71, d72⟩ := c7.1
      clear hq7 c6 d60 d61 d62
      go_wp2_with fail
      refine (over_marknil _).mono ?_; rintro e w8 ⟨rfl, hq8⟩
      have c8 := planKeep c7 (hq8.below : Below w7.heap.size w7 w8)
      obtain ⟨d80, d81, d82⟩ := c8.1
      clear hq8 c7 d70 d71 d72
      go_wp2_with fail
      refine (fresh_marknil _).mono ?_; rintro e w9 ⟨rfl, hq9⟩
      have c9 := planKeep c8 (hq9.below : Below w8.heap.size w8 w9)
      obtain ⟨d90, d91, d92⟩ := c9.1
      clear hq9 c8 d80 d81 d82
      go_wp2_with fail
      refine (step_shadenil none _).mono ?_; rintro e w10 ⟨rfl, hq10⟩
      have c10 := planKeep c9 (hq10.below : Below w9.heap.size w9 w10)
      obtain ⟨d100, d101, d102⟩ := c10.1
      clear hq10 c9 d90 d91 d92
      as_aux_lemma =>
        go_wp2_with fail
        refine (over_shadenil _).mono ?_; rintro e w11 ⟨rfl, hq11⟩
        have c11 := planKeep c10 (hq11.below : Below w10.heap.size w10 w11)
        obtain ⟨d110, d111, d112⟩ := c11.1
        clear hq11 c10 d100 d101 d102
        go_wp2_with fail
        refine (fresh_shadenil _).mono ?_; rintro e w12 ⟨rfl, hq12⟩
        have c12 := planKeep c11 (hq12.below : Below w11.heap.size w11 w12)
        obtain ⟨d120, d121, d122⟩ := c12.1
        clear hq12 c11 d110 d111 d112
        go_wp2_with fail
        refine (lost_shadenil _).mono ?_; rintro e w13 ⟨rfl, hq13⟩
        have c13 := planKeep c12 (hq13.below : Below w12.heap.size w12 w13)
        obtain ⟨d130, d131, d132⟩ := c13.1
        clear hq13 c12 d120 d121 d122
        go_wp2_with fail
        refine (held_shadenil _).mono ?_; rintro e w14 ⟨rfl, hq14⟩
        have c14 := planKeep c13 (hq14.below : Below w13.heap.size w13 w14)
        obtain ⟨d140, d141, d142⟩ := c14.1
        clear hq14 c13 d130 d131 d132
        go_wp2_with fail
        refine (splan_any P T R _).mono ?_; rintro e w15 ⟨rfl, hb15⟩
        have c15 := planKeep c14 hb15
        obtain ⟨d150, d151, d152⟩ := c15.1
        clear hb15 c14 d140 d141 d142
        as_aux_lemma =>
          go_wp2_with fail
          refine (MN.out _).mono ?_; rintro e w16 ⟨rfl, hb16⟩
          have c16 := planKeep c15 hb16
          obtain ⟨d160, d161, d162⟩ := c16.1
          clear hb16 c15 d150 d151 d152
          have hB := c16.2
          go_wp2
          all_goals
            go_ret
            exact ⟨rfl, hB⟩

set_option maxRecDepth 100000 in
set_option maxHeartbeats 4000000 in
theorem sn_bad (P T R t x : Int) (w : World) (hb : rightB P T R = false) (hx : exB P T R t = false) (hu : U64 x) (h0 : x ≠ 0) :
    Calls Try.prog 9 #[.agg #[.int .i64 P, .int .i64 T, .int .i64 R], .int .i64 t, .int .u64 x] w fun e w' => e = .returned (.bool true) ∧ Below w.heap.size w w' := by
  have hx0 : (x == 0) = false := by simpa using h0
  have hx1 : (x != 0) = true := by simpa using h0
  have V := Lib.hid (fun W => rright_any P T R W)
  rw [hb] at V
  have MN := Lib.hid (fun W => marked_nil P T R x W hu)
  have NM := Lib.hid (fun W => newmark_arg P T R x W hb)
  have NS := Lib.hid (fun W => newshade_arg P T R t x W hx)
  clear hx hu hb h0
  go_enter Try.func9, Try.ntmps9
  have c0 := (planNew w P T R 26)
  go_wp2_with fail
  refine (V.out _).mono ?_; rintro e w1 ⟨rfl, hb1⟩
  have c1 := planKeep c0 hb1
  obtain ⟨d10, d11, d12⟩ := c1.1
  clear hb1 c0
  go_wp2_with fail
  refine (splan_any P T R _).mono ?_; rintro e w2 ⟨rfl, hb2⟩
  have c2 := planKeep c1 hb2
  obtain ⟨d20, d21, d22⟩ := c2.1
  clear hb2 c1 d10 d11 d12
  go_wp2_with fail
  refine (NM.out _).mono ?_; rintro e w3 ⟨rfl, hb3⟩
  have c3 := planKeep c2 hb3
  obtain ⟨d30, d31, d32⟩ := c3.1
  clear hb3 c2 d20 d21 d22
  go_wp2_with fail
  refine (splan_any P T R _).mono ?_; rintro e w4 ⟨rfl, hb4⟩
  have c4 := planKeep c3 hb4
  obtain ⟨d40, d41, d42⟩ := c4.1
  clear hb4 c3 d30 d31 d32
  as_aux_lemma =>
    go_wp2_with fail
    refine (NS.out _).mono ?_; rintro e w5 ⟨rfl, hb5⟩
    have c5 := planKeep c4 hb5
    obtain ⟨d50, d51, d52⟩ := c5.1
    clear hb5 c4 d40 d41 d42
    go_wp2_with fail
    refine (shaded_any _).mono ?_; rintro e w6 ⟨rfl, hb6⟩
    have c6 := planKeep c5 hb6
    obtain ⟨d60, d61, d62⟩ := c6.1
    clear hb6 c5 d50 d51 d52
    as_aux_lemma =>
      go_wp2_with fail
      refine (step_marknil none _).mono ?_; rintro e w7 ⟨rfl, hq7⟩
      have c7 := planKeep c6 (hq7.below : Below w6.heap.size w6 w7)
      obtain ⟨d70, d71, d72⟩ := c7.1
      clear hq7 c6 d60 d61 d62
      go_wp2_with fail
      refine (over_marknil _).mono ?_; rintro e w8 ⟨rfl, hq8⟩
      have c8 := planKeep c7 (hq8.below : Below w7.heap.size w7 w8)
      obtain ⟨d80, d81, d82⟩ := c8.1
      clear hq8 c7 d70 d71 d72
      go_wp2_with fail
      refine (fresh_marknil _).mono ?_; rintro e w9 ⟨rfl, hq9⟩
      have c9 := planKeep c8 (hq9.below : Below w8.heap.size w8 w9)
      obtain ⟨d90, d91, d92⟩ := c9.1
      clear hq9 c8 d80 d81 d82
      go_wp2_with fail
      refine (step_shadenil none _).mono ?_; rintro e w10 ⟨rfl, hq10⟩
      have c10 := planKeep c9 (hq10.below : Below w9.heap.size w9 w10)
      obtain ⟨d100, d101, d102⟩ := c10.1
      clear hq10 c9 d90 d91 d92
      as_aux_lemma =>
        go_wp2_with fail
        refine (over_shadenil _).mono ?_; rintro e w11 ⟨rfl, hq11⟩
        have c11 := planKeep c10 (hq11.below : Below w10.heap.size w10 w11)
        obtain ⟨d110, d111, d112⟩ := c11.1
        clear hq11 c10 d100 d101 d102
        go_wp2_with fail
        refine (fresh_shadenil _).mono ?_; rintro e w12 ⟨rfl, hq12⟩
        have c12 := planKeep c11 (hq12.below : Below w11.heap.size w11 w12)
        obtain ⟨d120, d121, d122⟩ := c12.1
        clear hq12 c11 d110 d111 d112
        go_wp2_with fail
        refine (lost_shadenil _).mono ?_; rintro e w13 ⟨rfl, hq13⟩
        have c13 := planKeep c12 (hq13.below : Below w12.heap.size w12 w13)
        obtain ⟨d130, d131, d132⟩ := c13.1
        clear hq13 c12 d120 d121 d122
        go_wp2_with fail
        refine (held_shadenil _).mono ?_; rintro e w14 ⟨rfl, hq14⟩
        have c14 := planKeep c13 (hq14.below : Below w13.heap.size w13 w14)
        obtain ⟨d140, d141, d142⟩ := c14.1
        clear hq14 c13 d130 d131 d132
        go_wp2_with fail
        refine (splan_any P T R _).mono ?_; rintro e w15 ⟨rfl, hb15⟩
        have c15 := planKeep c14 hb15
        obtain ⟨d150, d151, d152⟩ := c15.1
        clear hb15 c14 d140 d141 d142
        as_aux_lemma =>
          go_wp2_with fail
          refine (MN.out _).mono ?_; rintro e w16 ⟨rfl, hb16⟩
          have c16 := planKeep c15 hb16
          obtain ⟨d160, d161, d162⟩ := c16.1
          clear hb16 c15 d150 d151 d152
          have hB := c16.2
          go_wp2
          all_goals
            go_ret
            exact ⟨rfl, hB⟩

set_option maxRecDepth 100000 in
set_option maxHeartbeats 4000000 in
theorem sn_in_zero (P T R t x : Int) (w : World) (hr : Right P T R) (hx : exB P T R t = true) (hu : U64 x) (h0 : x = 0) :
    Calls Try.prog 9 #[.agg #[.int .i64 P, .int .i64 T, .int .i64 R], .int .i64 t, .int .u64 x] w fun e w' => e = .returned (.bool true) ∧ Below w.heap.size w w' := by
  subst h0
  have V := Lib.hid (fun W => rright_any P T R W)
  rw [of_right hr] at V
  have MN := Lib.hid (fun W => marked_nil P T R 0 W hu)
  have NM := Lib.hid (fun W => newmark_zero P T R 0 W hr rfl)
  have NS := Lib.hid (fun W => newshade_zero P T R t 0 W hx rfl)
  have hT : 0 ≤ t ∧ t < T := by
    unfold exB inB at hx
    rw [Bool.and_eq_true] at hx
    have := of_decide_eq_true hx.2
    omega
  obtain ⟨hT0, hT1⟩ := hT
  clear hx hu hr
  go_enter Try.func9, Try.ntmps9
  have c0 := (planNew w P T R 26)
  go_wp2_with fail
  refine (V.out _).mono ?_; rintro e w1 ⟨rfl, hb1⟩
  have c1 := planKeep c0 hb1
  obtain ⟨d10, d11, d12⟩ := c1.1
  clear hb1 c0
  go_wp2_with fail
  refine (splan_any P T R _).mono ?_; rintro e w2 ⟨rfl, hb2⟩
  have c2 := planKeep c1 hb2
  obtain ⟨d20, d21, d22⟩ := c2.1
  clear hb2 c1 d10 d11 d12
  go_wp2_with fail
  refine (NM.out _).mono ?_; rintro e w3 ⟨m1, rfl, hM, hm1, hb3⟩
  have c3 := planKeep c2 hb3
  obtain ⟨d30, d31, d32⟩ := c3.1
  clear hb3 c2 d20 d21 d22
  go_wp2_with fail
  refine (splan_any P T R _).mono ?_; rintro e w4 ⟨rfl, hb4⟩
  have c4 := planKeep c3 hb4
  obtain ⟨d40, d41, d42⟩ := c4.1
  have hM := Blk.grew hM hb4
  clear hb4 c3 d30 d31 d32
  as_aux_lemma =>
    go_wp2_with fail
    refine (NS.out _).mono ?_; rintro e w5 ⟨s1, k1, rfl, hS, hM1, hk1, hk2, hb5⟩
    have c5 := planKeep c4 hb5
    obtain ⟨d50, d51, d52⟩ := c5.1
    have hM := Blk.grew hM hb5
    clear hb5 c4 d40 d41 d42
    go_wp2_with fail
    refine (shaded_any _).mono ?_; rintro e w6 ⟨rfl, hb6⟩
    have c6 := planKeep c5 hb6
    obtain ⟨d60, d61, d62⟩ := c6.1
    have hM := Blk.grew hM hb6
    have hS := Blk.grew hS hb6
    clear hb6 c5 d50 d51 d52
    as_aux_lemma =>
      go_wp2_with fail
      refine (step_marknil none _).mono ?_; rintro e w7 ⟨rfl, hq7⟩
      have c7 := planKeep c6 (hq7.below : Below w6.heap.size w6 w7)
      obtain ⟨d70, d71, d72⟩ := c7.1
      have hM := Blk.quiet hM hq7
      have hS := Blk.quiet hS hq7
      clear hq7 c6 d60 d61 d62
      go_wp2_with fail
      refine (over_marknil _).mono ?_; rintro e w8 ⟨rfl, hq8⟩
      have c8 := planKeep c7 (hq8.below : Below w7.heap.size w7 w8)
      obtain ⟨d80, d81, d82⟩ := c8.1
      have hM := Blk.quiet hM hq8
      have hS := Blk.quiet hS hq8
      clear hq8 c7 d70 d71 d72
      go_wp2_with fail
      refine (fresh_marknil _).mono ?_; rintro e w9 ⟨rfl, hq9⟩
      have c9 := planKeep c8 (hq9.below : Below w8.heap.size w8 w9)
      obtain ⟨d90, d91, d92⟩ := c9.1
      have hM := Blk.quiet hM hq9
      have hS := Blk.quiet hS hq9
      clear hq9 c8 d80 d81 d82
      go_wp2_with fail
      refine (step_shadenil none _).mono ?_; rintro e w10 ⟨rfl, hq10⟩
      have c10 := planKeep c9 (hq10.below : Below w9.heap.size w9 w10)
      obtain ⟨d100, d101, d102⟩ := c10.1
      have hM := Blk.quiet hM hq10
      have hS := Blk.quiet hS hq10
      clear hq10 c9 d90 d91 d92
      as_aux_lemma =>
        go_wp2_with fail
        refine (over_shadenil _).mono ?_; rintro e w11 ⟨rfl, hq11⟩
        have c11 := planKeep c10 (hq11.below : Below w10.heap.size w10 w11)
        obtain ⟨d110, d111, d112⟩ := c11.1
        have hM := Blk.quiet hM hq11
        have hS := Blk.quiet hS hq11
        clear hq11 c10 d100 d101 d102
        go_wp2_with fail
        refine (fresh_shadenil _).mono ?_; rintro e w12 ⟨rfl, hq12⟩
        have c12 := planKeep c11 (hq12.below : Below w11.heap.size w11 w12)
        obtain ⟨d120, d121, d122⟩ := c12.1
        have hM := Blk.quiet hM hq12
        have hS := Blk.quiet hS hq12
        clear hq12 c11 d110 d111 d112
        go_wp2_with fail
        refine (lost_shadenil _).mono ?_; rintro e w13 ⟨rfl, hq13⟩
        have c13 := planKeep c12 (hq13.below : Below w12.heap.size w12 w13)
        obtain ⟨d130, d131, d132⟩ := c13.1
        have hM := Blk.quiet hM hq13
        have hS := Blk.quiet hS hq13
        clear hq13 c12 d120 d121 d122
        go_wp2_with fail
        refine (held_shadenil _).mono ?_; rintro e w14 ⟨rfl, hq14⟩
        have c14 := planKeep c13 (hq14.below : Below w13.heap.size w13 w14)
        obtain ⟨d140, d141, d142⟩ := c14.1
        have hM := Blk.quiet hM hq14
        have hS := Blk.quiet hS hq14
        clear hq14 c13 d130 d131 d132
        go_wp2_with fail
        refine (splan_any P T R _).mono ?_; rintro e w15 ⟨rfl, hb15⟩
        have c15 := planKeep c14 hb15
        obtain ⟨d150, d151, d152⟩ := c15.1
        have hM := Blk.grew hM hb15
        have hS := Blk.grew hS hb15
        clear hb15 c14 d140 d141 d142
        as_aux_lemma =>
          go_wp2_with fail
          refine (MN.out _).mono ?_; rintro e w16 ⟨rfl, hb16⟩
          have c16 := planKeep c15 hb16
          obtain ⟨d160, d161, d162⟩ := c16.1
          have hM := Blk.grew hM hb16
          have hS := Blk.grew hS hb16
          clear hb16 c15 d150 d151 d152
          go_wp2_with fail
          refine (over_mark hM).mono ?_; rintro e w17 ⟨rfl, hq17⟩
          have c17 := planKeep c16 (hq17.below : Below w16.heap.size w16 w17)
          obtain ⟨d170, d171, d172⟩ := c17.1
          have hM := Blk.quiet hM hq17
          have hS := Blk.quiet hS hq17
          clear hq17 c16 d160 d161 d162
          go_wp2_with fail
          refine (over_shade hS).mono ?_; rintro e w18 ⟨rfl, hq18⟩
          have c18 := planKeep c17 (hq18.below : Below w17.heap.size w17 w18)
          obtain ⟨d180, d181, d182⟩ := c18.1
          have hM := Blk.quiet hM hq18
          have hS := Blk.quiet hS hq18
          clear hq18 c17 d170 d171 d172
          have hB := c18.2
          go_wp2
          all_goals
            go_ret
            exact ⟨rfl, hB⟩

set_option maxRecDepth 100000 in
set_option maxHeartbeats 4000000 in
theorem sn_in_yes (P T R t x : Int) (w : World) (hr : Right P T R) (hx : exB P T R t = true) (hu : U64 x) (h0 : x ≠ 0) (hf : refB P T R x = true) :
    Calls Try.prog 9 #[.agg #[.int .i64 P, .int .i64 T, .int .i64 R], .int .i64 t, .int .u64 x] w fun e w' => e = .returned (.bool true) ∧ Below w.heap.size w w' := by
  have hx0 : (x == 0) = false := by simpa using h0
  have hx1 : (x != 0) = true := by simpa using h0
  have V := Lib.hid (fun W => rright_any P T R W)
  rw [of_right hr] at V
  have MN := Lib.hid (fun W => marked_nil P T R x W hu)
  have NM := Lib.hid (fun W => newmark_yes P T R x W hu h0 hf)
  have NS := Lib.hid (fun W => newshade_yes P T R t x W hx hu h0 hf)
  have DR := Lib.hid (fun W => draw_yes P T R W hr)
  have RF := Lib.hid (fun W => ref8_any P T R x W hr hu)
  rw [hf] at RF
  unfold mapV at DR RF
  generalize baseI P T R + 64 * P = zc at DR RF
  generalize baseI P T R = zb at DR RF
  generalize tabI T R = ze at DR RF
  have hT : 0 ≤ t ∧ t < T := by
    unfold exB inB at hx
    rw [Bool.and_eq_true] at hx
    have := of_decide_eq_true hx.2
    omega
  obtain ⟨hT0, hT1⟩ := hT
  clear hx hu hr h0 hf
  go_enter Try.func9, Try.ntmps9
  have c0 := (planNew w P T R 26)
  go_wp2_with fail
  refine (V.out _).mono ?_; rintro e w1 ⟨rfl, hb1⟩
  have c1 := planKeep c0 hb1
  obtain ⟨d10, d11, d12⟩ := c1.1
  clear hb1 c0
  go_wp2_with fail
  refine (DR.out _).mono ?_; rintro e w2 ⟨rfl, hb2⟩
  have c2 := planKeep c1 hb2
  obtain ⟨d20, d21, d22⟩ := c2.1
  clear hb2 c1 d10 d11 d12
  go_wp2_with fail
  refine (RF.out _).mono ?_; rintro e w3 ⟨rfl, hb3⟩
  have c3 := planKeep c2 hb3
  obtain ⟨d30, d31, d32⟩ := c3.1
  clear hb3 c2 d20 d21 d22
  as_aux_lemma =>
    go_wp2_with fail
    refine (splan_any P T R _).mono ?_; rintro e w4 ⟨rfl, hb4⟩
    have c4 := planKeep c3 hb4
    obtain ⟨d40, d41, d42⟩ := c4.1
    clear hb4 c3 d30 d31 d32
    go_wp2_with fail
    refine (NM.out _).mono ?_; rintro e w5 ⟨m1, rfl, hM, hm1, hb5⟩
    have c5 := planKeep c4 hb5
    obtain ⟨d50, d51, d52⟩ := c5.1
    clear hb5 c4 d40 d41 d42
    go_wp2_with fail
    refine (splan_any P T R _).mono ?_; rintro e w6 ⟨rfl, hb6⟩
    have c6 := planKeep c5 hb6
    obtain ⟨d60, d61, d62⟩ := c6.1
    clear hb6 c5 d50 d51 d52
    as_aux_lemma =>
      go_wp2_with fail
      refine (NS.out _).mono ?_; rintro e w7 ⟨s1, k1, u1, rfl, hS1, hM1, hU1, hk1, hk2, hk3, hb7⟩
      have c7 := planKeep c6 hb7
      obtain ⟨d70, d71, d72⟩ := c7.1
      clear hb7 c6 d60 d61 d62
      go_wp2_with fail
      refine (shaded_any _).mono ?_; rintro e w8 ⟨rfl, hb8⟩
      have c8 := planKeep c7 hb8
      obtain ⟨d80, d81, d82⟩ := c8.1
      clear hb8 c7 d70 d71 d72
      as_aux_lemma =>
        go_wp2_with fail
        refine (step_marknil none _).mono ?_; rintro e w9 ⟨rfl, hq9⟩
        have c9 := planKeep c8 (hq9.below : Below w8.heap.size w8 w9)
        obtain ⟨d90, d91, d92⟩ := c9.1
        clear hq9 c8 d80 d81 d82
        go_wp2_with fail
        refine (over_marknil _).mono ?_; rintro e w10 ⟨rfl, hq10⟩
        have c10 := planKeep c9 (hq10.below : Below w9.heap.size w9 w10)
        obtain ⟨d100, d101, d102⟩ := c10.1
        clear hq10 c9 d90 d91 d92
        go_wp2_with fail
        refine (fresh_marknil _).mono ?_; rintro e w11 ⟨rfl, hq11⟩
        have c11 := planKeep c10 (hq11.below : Below w10.heap.size w10 w11)
        obtain ⟨d110, d111, d112⟩ := c11.1
        clear hq11 c10 d100 d101 d102
        go_wp2_with fail
        refine (step_shadenil none _).mono ?_; rintro e w12 ⟨rfl, hq12⟩
        have c12 := planKeep c11 (hq12.below : Below w11.heap.size w11 w12)
        obtain ⟨d120, d121, d122⟩ := c12.1
        clear hq12 c11 d110 d111 d112
        as_aux_lemma =>
          go_wp2_with fail
          refine (over_shadenil _).mono ?_; rintro e w13 ⟨rfl, hq13⟩
          have c13 := planKeep c12 (hq13.below : Below w12.heap.size w12 w13)
          obtain ⟨d130, d131, d132⟩ := c13.1
          clear hq13 c12 d120 d121 d122
          go_wp2_with fail
          refine (fresh_shadenil _).mono ?_; rintro e w14 ⟨rfl, hq14⟩
          have c14 := planKeep c13 (hq14.below : Below w13.heap.size w13 w14)
          obtain ⟨d140, d141, d142⟩ := c14.1
          clear hq14 c13 d130 d131 d132
          go_wp2_with fail
          refine (lost_shadenil _).mono ?_; rintro e w15 ⟨rfl, hq15⟩
          have c15 := planKeep c14 (hq15.below : Below w14.heap.size w14 w15)
          obtain ⟨d150, d151, d152⟩ := c15.1
          clear hq15 c14 d140 d141 d142
          go_wp2_with fail
          refine (held_shadenil _).mono ?_; rintro e w16 ⟨rfl, hq16⟩
          have c16 := planKeep c15 (hq16.below : Below w15.heap.size w15 w16)
          obtain ⟨d160, d161, d162⟩ := c16.1
          clear hq16 c15 d150 d151 d152
          go_wp2_with fail
          refine (splan_any P T R _).mono ?_; rintro e w17 ⟨rfl, hb17⟩
          have c17 := planKeep c16 hb17
          obtain ⟨d170, d171, d172⟩ := c17.1
          clear hb17 c16 d160 d161 d162
          as_aux_lemma =>
            go_wp2_with fail
            refine (MN.out _).mono ?_; rintro e w18 ⟨rfl, hb18⟩
            have c18 := planKeep c17 hb18
            obtain ⟨d180, d181, d182⟩ := c18.1
            clear hb18 c17 d170 d171 d172
            have hB := c18.2
            go_wp2
            all_goals
              go_ret
              exact ⟨rfl, hB⟩

set_option maxRecDepth 100000 in
set_option maxHeartbeats 4000000 in
theorem sn_in_no (P T R t x : Int) (w : World) (hr : Right P T R) (hx : exB P T R t = true) (hu : U64 x) (h0 : x ≠ 0) (hf : refB P T R x = false) :
    Calls Try.prog 9 #[.agg #[.int .i64 P, .int .i64 T, .int .i64 R], .int .i64 t, .int .u64 x] w fun e w' => e = .returned (.bool true) ∧ Below w.heap.size w w' := by
  have hx0 : (x == 0) = false := by simpa using h0
  have hx1 : (x != 0) = true := by simpa using h0
  have V := Lib.hid (fun W => rright_any P T R W)
  rw [of_right hr] at V
  have MN := Lib.hid (fun W => marked_nil P T R x W hu)
  have NM := Lib.hid (fun W => newmark_addr P T R x W hr hu h0 hf)
  have NS := Lib.hid (fun W => newshade_addr P T R t x W hx hu h0 hf)
  have DR := Lib.hid (fun W => draw_yes P T R W hr)
  have RF := Lib.hid (fun W => ref8_any P T R x W hr hu)
  rw [hf] at RF
  unfold mapV at DR RF
  generalize baseI P T R + 64 * P = zc at DR RF
  generalize baseI P T R = zb at DR RF
  generalize tabI T R = ze at DR RF
  have hT : 0 ≤ t ∧ t < T := by
    unfold exB inB at hx
    rw [Bool.and_eq_true] at hx
    have := of_decide_eq_true hx.2
    omega
  obtain ⟨hT0, hT1⟩ := hT
  clear hx hu hr h0 hf
  go_enter Try.func9, Try.ntmps9
  have c0 := (planNew w P T R 26)
  go_wp2_with fail
  refine (V.out _).mono ?_; rintro e w1 ⟨rfl, hb1⟩
  have c1 := planKeep c0 hb1
  obtain ⟨d10, d11, d12⟩ := c1.1
  clear hb1 c0
  go_wp2_with fail
  refine (DR.out _).mono ?_; rintro e w2 ⟨rfl, hb2⟩
  have c2 := planKeep c1 hb2
  obtain ⟨d20, d21, d22⟩ := c2.1
  clear hb2 c1 d10 d11 d12
  go_wp2_with fail
  refine (RF.out _).mono ?_; rintro e w3 ⟨rfl, hb3⟩
  have c3 := planKeep c2 hb3
  obtain ⟨d30, d31, d32⟩ := c3.1
  clear hb3 c2 d20 d21 d22
  as_aux_lemma =>
    go_wp2_with fail
    refine (splan_any P T R _).mono ?_; rintro e w4 ⟨rfl, hb4⟩
    have c4 := planKeep c3 hb4
    obtain ⟨d40, d41, d42⟩ := c4.1
    clear hb4 c3 d30 d31 d32
    go_wp2_with fail
    refine (NM.out _).mono ?_; rintro e w5 ⟨rfl, hb5⟩
    have c5 := planKeep c4 hb5
    obtain ⟨d50, d51, d52⟩ := c5.1
    clear hb5 c4 d40 d41 d42
    go_wp2_with fail
    refine (splan_any P T R _).mono ?_; rintro e w6 ⟨rfl, hb6⟩
    have c6 := planKeep c5 hb6
    obtain ⟨d60, d61, d62⟩ := c6.1
    clear hb6 c5 d50 d51 d52
    as_aux_lemma =>
      go_wp2_with fail
      refine (NS.out _).mono ?_; rintro e w7 ⟨rfl, hb7⟩
      have c7 := planKeep c6 hb7
      obtain ⟨d70, d71, d72⟩ := c7.1
      clear hb7 c6 d60 d61 d62
      go_wp2_with fail
      refine (shaded_any _).mono ?_; rintro e w8 ⟨rfl, hb8⟩
      have c8 := planKeep c7 hb8
      obtain ⟨d80, d81, d82⟩ := c8.1
      clear hb8 c7 d70 d71 d72
      as_aux_lemma =>
        go_wp2_with fail
        refine (step_marknil none _).mono ?_; rintro e w9 ⟨rfl, hq9⟩
        have c9 := planKeep c8 (hq9.below : Below w8.heap.size w8 w9)
        obtain ⟨d90, d91, d92⟩ := c9.1
        clear hq9 c8 d80 d81 d82
        go_wp2_with fail
        refine (over_marknil _).mono ?_; rintro e w10 ⟨rfl, hq10⟩
        have c10 := planKeep c9 (hq10.below : Below w9.heap.size w9 w10)
        obtain ⟨d100, d101, d102⟩ := c10.1
        clear hq10 c9 d90 d91 d92
        go_wp2_with fail
        refine (fresh_marknil _).mono ?_; rintro e w11 ⟨rfl, hq11⟩
        have c11 := planKeep c10 (hq11.below : Below w10.heap.size w10 w11)
        obtain ⟨d110, d111, d112⟩ := c11.1
        clear hq11 c10 d100 d101 d102
        go_wp2_with fail
        refine (step_shadenil none _).mono ?_; rintro e w12 ⟨rfl, hq12⟩
        have c12 := planKeep c11 (hq12.below : Below w11.heap.size w11 w12)
        obtain ⟨d120, d121, d122⟩ := c12.1
        clear hq12 c11 d110 d111 d112
        as_aux_lemma =>
          go_wp2_with fail
          refine (over_shadenil _).mono ?_; rintro e w13 ⟨rfl, hq13⟩
          have c13 := planKeep c12 (hq13.below : Below w12.heap.size w12 w13)
          obtain ⟨d130, d131, d132⟩ := c13.1
          clear hq13 c12 d120 d121 d122
          go_wp2_with fail
          refine (fresh_shadenil _).mono ?_; rintro e w14 ⟨rfl, hq14⟩
          have c14 := planKeep c13 (hq14.below : Below w13.heap.size w13 w14)
          obtain ⟨d140, d141, d142⟩ := c14.1
          clear hq14 c13 d130 d131 d132
          go_wp2_with fail
          refine (lost_shadenil _).mono ?_; rintro e w15 ⟨rfl, hq15⟩
          have c15 := planKeep c14 (hq15.below : Below w14.heap.size w14 w15)
          obtain ⟨d150, d151, d152⟩ := c15.1
          clear hq15 c14 d140 d141 d142
          go_wp2_with fail
          refine (held_shadenil _).mono ?_; rintro e w16 ⟨rfl, hq16⟩
          have c16 := planKeep c15 (hq16.below : Below w15.heap.size w15 w16)
          obtain ⟨d160, d161, d162⟩ := c16.1
          clear hq16 c15 d150 d151 d152
          go_wp2_with fail
          refine (splan_any P T R _).mono ?_; rintro e w17 ⟨rfl, hb17⟩
          have c17 := planKeep c16 hb17
          obtain ⟨d170, d171, d172⟩ := c17.1
          clear hb17 c16 d160 d161 d162
          as_aux_lemma =>
            go_wp2_with fail
            refine (MN.out _).mono ?_; rintro e w18 ⟨rfl, hb18⟩
            have c18 := planKeep c17 hb18
            obtain ⟨d180, d181, d182⟩ := c18.1
            clear hb18 c17 d170 d171 d172
            have hB := c18.2
            go_wp2
            all_goals
              go_ret
              exact ⟨rfl, hB⟩

set_option maxRecDepth 100000 in
set_option maxHeartbeats 4000000 in
theorem sn_low_zero (P T R t x : Int) (w : World) (hr : Right P T R) (hx : exB P T R t = false) (hT0 : t < 0) (hu : U64 x) (h0 : x = 0) :
    Calls Try.prog 9 #[.agg #[.int .i64 P, .int .i64 T, .int .i64 R], .int .i64 t, .int .u64 x] w fun e w' => e = .returned (.bool true) ∧ Below w.heap.size w w' := by
  subst h0
  have V := Lib.hid (fun W => rright_any P T R W)
  rw [of_right hr] at V
  have MN := Lib.hid (fun W => marked_nil P T R 0 W hu)
  have NM := Lib.hid (fun W => newmark_zero P T R 0 W hr rfl)
  have NS := Lib.hid (fun W => newshade_arg P T R t 0 W hx)
  have hT1 : ¬ 0 ≤ t := by omega
  clear hx hu hr
  go_enter Try.func9, Try.ntmps9
  have c0 := (planNew w P T R 26)
  go_wp2_with fail
  refine (V.out _).mono ?_; rintro e w1 ⟨rfl, hb1⟩
  have c1 := planKeep c0 hb1
  obtain ⟨d10, d11, d12⟩ := c1.1
  clear hb1 c0
  go_wp2_with fail
  refine (splan_any P T R _).mono ?_; rintro e w2 ⟨rfl, hb2⟩
  have c2 := planKeep c1 hb2
  obtain ⟨d20, d21, d22⟩ := c2.1
  clear hb2 c1 d10 d11 d12
  go_wp2_with fail
  refine (NM.out _).mono ?_; rintro e w3 ⟨m1, rfl, hM, hm1, hb3⟩
  have c3 := planKeep c2 hb3
  obtain ⟨d30, d31, d32⟩ := c3.1
  clear hb3 c2 d20 d21 d22
  go_wp2_with fail
  refine (splan_any P T R _).mono ?_; rintro e w4 ⟨rfl, hb4⟩
  have c4 := planKeep c3 hb4
  obtain ⟨d40, d41, d42⟩ := c4.1
  have hM := Blk.grew hM hb4
  clear hb4 c3 d30 d31 d32
  as_aux_lemma =>
    go_wp2_with fail
    refine (NS.out _).mono ?_; rintro e w5 ⟨rfl, hb5⟩
    have c5 := planKeep c4 hb5
    obtain ⟨d50, d51, d52⟩ := c5.1
    have hM := Blk.grew hM hb5
    clear hb5 c4 d40 d41 d42
    go_wp2_with fail
    refine (shaded_any _).mono ?_; rintro e w6 ⟨rfl, hb6⟩
    have c6 := planKeep c5 hb6
    obtain ⟨d60, d61, d62⟩ := c6.1
    have hM := Blk.grew hM hb6
    clear hb6 c5 d50 d51 d52
    as_aux_lemma =>
      go_wp2_with fail
      refine (step_marknil none _).mono ?_; rintro e w7 ⟨rfl, hq7⟩
      have c7 := planKeep c6 (hq7.below : Below w6.heap.size w6 w7)
      obtain ⟨d70, d71, d72⟩ := c7.1
      have hM := Blk.quiet hM hq7
      clear hq7 c6 d60 d61 d62
      go_wp2_with fail
      refine (over_marknil _).mono ?_; rintro e w8 ⟨rfl, hq8⟩
      have c8 := planKeep c7 (hq8.below : Below w7.heap.size w7 w8)
      obtain ⟨d80, d81, d82⟩ := c8.1
      have hM := Blk.quiet hM hq8
      clear hq8 c7 d70 d71 d72
      go_wp2_with fail
      refine (fresh_marknil _).mono ?_; rintro e w9 ⟨rfl, hq9⟩
      have c9 := planKeep c8 (hq9.below : Below w8.heap.size w8 w9)
      obtain ⟨d90, d91, d92⟩ := c9.1
      have hM := Blk.quiet hM hq9
      clear hq9 c8 d80 d81 d82
      go_wp2_with fail
      refine (step_shadenil none _).mono ?_; rintro e w10 ⟨rfl, hq10⟩
      have c10 := planKeep c9 (hq10.below : Below w9.heap.size w9 w10)
      obtain ⟨d100, d101, d102⟩ := c10.1
      have hM := Blk.quiet hM hq10
      clear hq10 c9 d90 d91 d92
      as_aux_lemma =>
        go_wp2_with fail
        refine (over_shadenil _).mono ?_; rintro e w11 ⟨rfl, hq11⟩
        have c11 := planKeep c10 (hq11.below : Below w10.heap.size w10 w11)
        obtain ⟨d110, d111, d112⟩ := c11.1
        have hM := Blk.quiet hM hq11
        clear hq11 c10 d100 d101 d102
        go_wp2_with fail
        refine (fresh_shadenil _).mono ?_; rintro e w12 ⟨rfl, hq12⟩
        have c12 := planKeep c11 (hq12.below : Below w11.heap.size w11 w12)
        obtain ⟨d120, d121, d122⟩ := c12.1
        have hM := Blk.quiet hM hq12
        clear hq12 c11 d110 d111 d112
        go_wp2_with fail
        refine (lost_shadenil _).mono ?_; rintro e w13 ⟨rfl, hq13⟩
        have c13 := planKeep c12 (hq13.below : Below w12.heap.size w12 w13)
        obtain ⟨d130, d131, d132⟩ := c13.1
        have hM := Blk.quiet hM hq13
        clear hq13 c12 d120 d121 d122
        go_wp2_with fail
        refine (held_shadenil _).mono ?_; rintro e w14 ⟨rfl, hq14⟩
        have c14 := planKeep c13 (hq14.below : Below w13.heap.size w13 w14)
        obtain ⟨d140, d141, d142⟩ := c14.1
        have hM := Blk.quiet hM hq14
        clear hq14 c13 d130 d131 d132
        go_wp2_with fail
        refine (splan_any P T R _).mono ?_; rintro e w15 ⟨rfl, hb15⟩
        have c15 := planKeep c14 hb15
        obtain ⟨d150, d151, d152⟩ := c15.1
        have hM := Blk.grew hM hb15
        clear hb15 c14 d140 d141 d142
        as_aux_lemma =>
          go_wp2_with fail
          refine (MN.out _).mono ?_; rintro e w16 ⟨rfl, hb16⟩
          have c16 := planKeep c15 hb16
          obtain ⟨d160, d161, d162⟩ := c16.1
          have hM := Blk.grew hM hb16
          clear hb16 c15 d150 d151 d152
          go_wp2_with fail
          refine (over_mark hM).mono ?_; rintro e w17 ⟨rfl, hq17⟩
          have c17 := planKeep c16 (hq17.below : Below w16.heap.size w16 w17)
          obtain ⟨d170, d171, d172⟩ := c17.1
          have hM := Blk.quiet hM hq17
          clear hq17 c16 d160 d161 d162
          have hB := c17.2
          go_wp2
          all_goals
            go_ret
            exact ⟨rfl, hB⟩

set_option maxRecDepth 100000 in
set_option maxHeartbeats 4000000 in
theorem sn_low_yes (P T R t x : Int) (w : World) (hr : Right P T R) (hx : exB P T R t = false) (hT0 : t < 0) (hu : U64 x) (h0 : x ≠ 0) (hf : refB P T R x = true) :
    Calls Try.prog 9 #[.agg #[.int .i64 P, .int .i64 T, .int .i64 R], .int .i64 t, .int .u64 x] w fun e w' => e = .returned (.bool true) ∧ Below w.heap.size w w' := by
  have hx0 : (x == 0) = false := by simpa using h0
  have hx1 : (x != 0) = true := by simpa using h0
  have V := Lib.hid (fun W => rright_any P T R W)
  rw [of_right hr] at V
  have MN := Lib.hid (fun W => marked_nil P T R x W hu)
  have NM := Lib.hid (fun W => newmark_yes P T R x W hu h0 hf)
  have NS := Lib.hid (fun W => newshade_arg P T R t x W hx)
  have DR := Lib.hid (fun W => draw_yes P T R W hr)
  have RF := Lib.hid (fun W => ref8_any P T R x W hr hu)
  rw [hf] at RF
  unfold mapV at DR RF
  generalize baseI P T R + 64 * P = zc at DR RF
  generalize baseI P T R = zb at DR RF
  generalize tabI T R = ze at DR RF
  have hT1 : ¬ 0 ≤ t := by omega
  clear hx hu hr h0 hf
  go_enter Try.func9, Try.ntmps9
  have c0 := (planNew w P T R 26)
  go_wp2_with fail
  refine (V.out _).mono ?_; rintro e w1 ⟨rfl, hb1⟩
  have c1 := planKeep c0 hb1
  obtain ⟨d10, d11, d12⟩ := c1.1
  clear hb1 c0
  go_wp2_with fail
  refine (DR.out _).mono ?_; rintro e w2 ⟨rfl, hb2⟩
  have c2 := planKeep c1 hb2
  obtain ⟨d20, d21, d22⟩ := c2.1
  clear hb2 c1 d10 d11 d12
  go_wp2_with fail
  refine (RF.out _).mono ?_; rintro e w3 ⟨rfl, hb3⟩
  have c3 := planKeep c2 hb3
  obtain ⟨d30, d31, d32⟩ := c3.1
  clear hb3 c2 d20 d21 d22
  as_aux_lemma =>
    go_wp2_with fail
    refine (splan_any P T R _).mono ?_; rintro e w4 ⟨rfl, hb4⟩
    have c4 := planKeep c3 hb4
    obtain ⟨d40, d41, d42⟩ := c4.1
    clear hb4 c3 d30 d31 d32
    go_wp2_with fail
    refine (NM.out _).mono ?_; rintro e w5 ⟨m1, rfl, hM, hm1, hb5⟩
    have c5 := planKeep c4 hb5
    obtain ⟨d50, d51, d52⟩ := c5.1
    clear hb5 c4 d40 d41 d42
    go_wp2_with fail
    refine (splan_any P T R _).mono ?_; rintro e w6 ⟨rfl, hb6⟩
    have c6 := planKeep c5 hb6
    obtain ⟨d60, d61, d62⟩ := c6.1
    clear hb6 c5 d50 d51 d52
    as_aux_lemma =>
      go_wp2_with fail
      refine (NS.out _).mono ?_; rintro e w7 ⟨rfl, hb7⟩
      have c7 := planKeep c6 hb7
      obtain ⟨d70, d71, d72⟩ := c7.1
      clear hb7 c6 d60 d61 d62
      go_wp2_with fail
      refine (shaded_any _).mono ?_; rintro e w8 ⟨rfl, hb8⟩
      have c8 := planKeep c7 hb8
      obtain ⟨d80, d81, d82⟩ := c8.1
      clear hb8 c7 d70 d71 d72
      as_aux_lemma =>
        go_wp2_with fail
        refine (step_marknil none _).mono ?_; rintro e w9 ⟨rfl, hq9⟩
        have c9 := planKeep c8 (hq9.below : Below w8.heap.size w8 w9)
        obtain ⟨d90, d91, d92⟩ := c9.1
        clear hq9 c8 d80 d81 d82
        go_wp2_with fail
        refine (over_marknil _).mono ?_; rintro e w10 ⟨rfl, hq10⟩
        have c10 := planKeep c9 (hq10.below : Below w9.heap.size w9 w10)
        obtain ⟨d100, d101, d102⟩ := c10.1
        clear hq10 c9 d90 d91 d92
        go_wp2_with fail
        refine (fresh_marknil _).mono ?_; rintro e w11 ⟨rfl, hq11⟩
        have c11 := planKeep c10 (hq11.below : Below w10.heap.size w10 w11)
        obtain ⟨d110, d111, d112⟩ := c11.1
        clear hq11 c10 d100 d101 d102
        go_wp2_with fail
        refine (step_shadenil none _).mono ?_; rintro e w12 ⟨rfl, hq12⟩
        have c12 := planKeep c11 (hq12.below : Below w11.heap.size w11 w12)
        obtain ⟨d120, d121, d122⟩ := c12.1
        clear hq12 c11 d110 d111 d112
        as_aux_lemma =>
          go_wp2_with fail
          refine (over_shadenil _).mono ?_; rintro e w13 ⟨rfl, hq13⟩
          have c13 := planKeep c12 (hq13.below : Below w12.heap.size w12 w13)
          obtain ⟨d130, d131, d132⟩ := c13.1
          clear hq13 c12 d120 d121 d122
          go_wp2_with fail
          refine (fresh_shadenil _).mono ?_; rintro e w14 ⟨rfl, hq14⟩
          have c14 := planKeep c13 (hq14.below : Below w13.heap.size w13 w14)
          obtain ⟨d140, d141, d142⟩ := c14.1
          clear hq14 c13 d130 d131 d132
          go_wp2_with fail
          refine (lost_shadenil _).mono ?_; rintro e w15 ⟨rfl, hq15⟩
          have c15 := planKeep c14 (hq15.below : Below w14.heap.size w14 w15)
          obtain ⟨d150, d151, d152⟩ := c15.1
          clear hq15 c14 d140 d141 d142
          go_wp2_with fail
          refine (held_shadenil _).mono ?_; rintro e w16 ⟨rfl, hq16⟩
          have c16 := planKeep c15 (hq16.below : Below w15.heap.size w15 w16)
          obtain ⟨d160, d161, d162⟩ := c16.1
          clear hq16 c15 d150 d151 d152
          go_wp2_with fail
          refine (splan_any P T R _).mono ?_; rintro e w17 ⟨rfl, hb17⟩
          have c17 := planKeep c16 hb17
          obtain ⟨d170, d171, d172⟩ := c17.1
          clear hb17 c16 d160 d161 d162
          as_aux_lemma =>
            go_wp2_with fail
            refine (MN.out _).mono ?_; rintro e w18 ⟨rfl, hb18⟩
            have c18 := planKeep c17 hb18
            obtain ⟨d180, d181, d182⟩ := c18.1
            clear hb18 c17 d170 d171 d172
            have hB := c18.2
            go_wp2
            all_goals
              go_ret
              exact ⟨rfl, hB⟩

set_option maxRecDepth 100000 in
set_option maxHeartbeats 4000000 in
theorem sn_low_no (P T R t x : Int) (w : World) (hr : Right P T R) (hx : exB P T R t = false) (hT0 : t < 0) (hu : U64 x) (h0 : x ≠ 0) (hf : refB P T R x = false) :
    Calls Try.prog 9 #[.agg #[.int .i64 P, .int .i64 T, .int .i64 R], .int .i64 t, .int .u64 x] w fun e w' => e = .returned (.bool true) ∧ Below w.heap.size w w' := by
  have hx0 : (x == 0) = false := by simpa using h0
  have hx1 : (x != 0) = true := by simpa using h0
  have V := Lib.hid (fun W => rright_any P T R W)
  rw [of_right hr] at V
  have MN := Lib.hid (fun W => marked_nil P T R x W hu)
  have NM := Lib.hid (fun W => newmark_addr P T R x W hr hu h0 hf)
  have NS := Lib.hid (fun W => newshade_arg P T R t x W hx)
  have DR := Lib.hid (fun W => draw_yes P T R W hr)
  have RF := Lib.hid (fun W => ref8_any P T R x W hr hu)
  rw [hf] at RF
  unfold mapV at DR RF
  generalize baseI P T R + 64 * P = zc at DR RF
  generalize baseI P T R = zb at DR RF
  generalize tabI T R = ze at DR RF
  have hT1 : ¬ 0 ≤ t := by omega
  clear hx hu hr h0 hf
  go_enter Try.func9, Try.ntmps9
  have c0 := (planNew w P T R 26)
  go_wp2_with fail
  refine (V.out _).mono ?_; rintro e w1 ⟨rfl, hb1⟩
  have c1 := planKeep c0 hb1
  obtain ⟨d10, d11, d12⟩ := c1.1
  clear hb1 c0
  go_wp2_with fail
  refine (DR.out _).mono ?_; rintro e w2 ⟨rfl, hb2⟩
  have c2 := planKeep c1 hb2
  obtain ⟨d20, d21, d22⟩ := c2.1
  clear hb2 c1 d10 d11 d12
  go_wp2_with fail
  refine (RF.out _).mono ?_; rintro e w3 ⟨rfl, hb3⟩
  have c3 := planKeep c2 hb3
  obtain ⟨d30, d31, d32⟩ := c3.1
  clear hb3 c2 d20 d21 d22
  as_aux_lemma =>
    go_wp2_with fail
    refine (splan_any P T R _).mono ?_; rintro e w4 ⟨rfl, hb4⟩
    have c4 := planKeep c3 hb4
    obtain ⟨d40, d41, d42⟩ := c4.1
    clear hb4 c3 d30 d31 d32
    go_wp2_with fail
    refine (NM.out _).mono ?_; rintro e w5 ⟨rfl, hb5⟩
    have c5 := planKeep c4 hb5
    obtain ⟨d50, d51, d52⟩ := c5.1
    clear hb5 c4 d40 d41 d42
    go_wp2_with fail
    refine (splan_any P T R _).mono ?_; rintro e w6 ⟨rfl, hb6⟩
    have c6 := planKeep c5 hb6
    obtain ⟨d60, d61, d62⟩ := c6.1
    clear hb6 c5 d50 d51 d52
    as_aux_lemma =>
      go_wp2_with fail
      refine (NS.out _).mono ?_; rintro e w7 ⟨rfl, hb7⟩
      have c7 := planKeep c6 hb7
      obtain ⟨d70, d71, d72⟩ := c7.1
      clear hb7 c6 d60 d61 d62
      go_wp2_with fail
      refine (shaded_any _).mono ?_; rintro e w8 ⟨rfl, hb8⟩
      have c8 := planKeep c7 hb8
      obtain ⟨d80, d81, d82⟩ := c8.1
      clear hb8 c7 d70 d71 d72
      as_aux_lemma =>
        go_wp2_with fail
        refine (step_marknil none _).mono ?_; rintro e w9 ⟨rfl, hq9⟩
        have c9 := planKeep c8 (hq9.below : Below w8.heap.size w8 w9)
        obtain ⟨d90, d91, d92⟩ := c9.1
        clear hq9 c8 d80 d81 d82
        go_wp2_with fail
        refine (over_marknil _).mono ?_; rintro e w10 ⟨rfl, hq10⟩
        have c10 := planKeep c9 (hq10.below : Below w9.heap.size w9 w10)
        obtain ⟨d100, d101, d102⟩ := c10.1
        clear hq10 c9 d90 d91 d92
        go_wp2_with fail
        refine (fresh_marknil _).mono ?_; rintro e w11 ⟨rfl, hq11⟩
        have c11 := planKeep c10 (hq11.below : Below w10.heap.size w10 w11)
        obtain ⟨d110, d111, d112⟩ := c11.1
        clear hq11 c10 d100 d101 d102
        go_wp2_with fail
        refine (step_shadenil none _).mono ?_; rintro e w12 ⟨rfl, hq12⟩
        have c12 := planKeep c11 (hq12.below : Below w11.heap.size w11 w12)
        obtain ⟨d120, d121, d122⟩ := c12.1
        clear hq12 c11 d110 d111 d112
        as_aux_lemma =>
          go_wp2_with fail
          refine (over_shadenil _).mono ?_; rintro e w13 ⟨rfl, hq13⟩
          have c13 := planKeep c12 (hq13.below : Below w12.heap.size w12 w13)
          obtain ⟨d130, d131, d132⟩ := c13.1
          clear hq13 c12 d120 d121 d122
          go_wp2_with fail
          refine (fresh_shadenil _).mono ?_; rintro e w14 ⟨rfl, hq14⟩
          have c14 := planKeep c13 (hq14.below : Below w13.heap.size w13 w14)
          obtain ⟨d140, d141, d142⟩ := c14.1
          clear hq14 c13 d130 d131 d132
          go_wp2_with fail
          refine (lost_shadenil _).mono ?_; rintro e w15 ⟨rfl, hq15⟩
          have c15 := planKeep c14 (hq15.below : Below w14.heap.size w14 w15)
          obtain ⟨d150, d151, d152⟩ := c15.1
          clear hq15 c14 d140 d141 d142
          go_wp2_with fail
          refine (held_shadenil _).mono ?_; rintro e w16 ⟨rfl, hq16⟩
          have c16 := planKeep c15 (hq16.below : Below w15.heap.size w15 w16)
          obtain ⟨d160, d161, d162⟩ := c16.1
          clear hq16 c15 d150 d151 d152
          go_wp2_with fail
          refine (splan_any P T R _).mono ?_; rintro e w17 ⟨rfl, hb17⟩
          have c17 := planKeep c16 hb17
          obtain ⟨d170, d171, d172⟩ := c17.1
          clear hb17 c16 d160 d161 d162
          as_aux_lemma =>
            go_wp2_with fail
            refine (MN.out _).mono ?_; rintro e w18 ⟨rfl, hb18⟩
            have c18 := planKeep c17 hb18
            obtain ⟨d180, d181, d182⟩ := c18.1
            clear hb18 c17 d170 d171 d172
            have hB := c18.2
            go_wp2
            all_goals
              go_ret
              exact ⟨rfl, hB⟩

set_option maxRecDepth 100000 in
set_option maxHeartbeats 4000000 in
theorem sn_high_zero (P T R t x : Int) (w : World) (hr : Right P T R) (hx : exB P T R t = false) (hT0 : 0 ≤ t) (hT1 : T ≤ t) (hu : U64 x) (h0 : x = 0) :
    Calls Try.prog 9 #[.agg #[.int .i64 P, .int .i64 T, .int .i64 R], .int .i64 t, .int .u64 x] w fun e w' => e = .returned (.bool true) ∧ Below w.heap.size w w' := by
  subst h0
  have V := Lib.hid (fun W => rright_any P T R W)
  rw [of_right hr] at V
  have MN := Lib.hid (fun W => marked_nil P T R 0 W hu)
  have NM := Lib.hid (fun W => newmark_zero P T R 0 W hr rfl)
  have NS := Lib.hid (fun W => newshade_arg P T R t 0 W hx)
  have hT2 : ¬ t < T := by omega
  clear hx hu hr
  go_enter Try.func9, Try.ntmps9
  have c0 := (planNew w P T R 26)
  go_wp2_with fail
  refine (V.out _).mono ?_; rintro e w1 ⟨rfl, hb1⟩
  have c1 := planKeep c0 hb1
  obtain ⟨d10, d11, d12⟩ := c1.1
  clear hb1 c0
  go_wp2_with fail
  refine (splan_any P T R _).mono ?_; rintro e w2 ⟨rfl, hb2⟩
  have c2 := planKeep c1 hb2
  obtain ⟨d20, d21, d22⟩ := c2.1
  clear hb2 c1 d10 d11 d12
  go_wp2_with fail
  refine (NM.out _).mono ?_; rintro e w3 ⟨m1, rfl, hM, hm1, hb3⟩
  have c3 := planKeep c2 hb3
  obtain ⟨d30, d31, d32⟩ := c3.1
  clear hb3 c2 d20 d21 d22
  go_wp2_with fail
  refine (splan_any P T R _).mono ?_; rintro e w4 ⟨rfl, hb4⟩
  have c4 := planKeep c3 hb4
  obtain ⟨d40, d41, d42⟩ := c4.1
  have hM := Blk.grew hM hb4
  clear hb4 c3 d30 d31 d32
  as_aux_lemma =>
    go_wp2_with fail
    refine (NS.out _).mono ?_; rintro e w5 ⟨rfl, hb5⟩
    have c5 := planKeep c4 hb5
    obtain ⟨d50, d51, d52⟩ := c5.1
    have hM := Blk.grew hM hb5
    clear hb5 c4 d40 d41 d42
    go_wp2_with fail
    refine (shaded_any _).mono ?_; rintro e w6 ⟨rfl, hb6⟩
    have c6 := planKeep c5 hb6
    obtain ⟨d60, d61, d62⟩ := c6.1
    have hM := Blk.grew hM hb6
    clear hb6 c5 d50 d51 d52
    as_aux_lemma =>
      go_wp2_with fail
      refine (step_marknil none _).mono ?_; rintro e w7 ⟨rfl, hq7⟩
      have c7 := planKeep c6 (hq7.below : Below w6.heap.size w6 w7)
      obtain ⟨d70, d71, d72⟩ := c7.1
      have hM := Blk.quiet hM hq7
      clear hq7 c6 d60 d61 d62
      go_wp2_with fail
      refine (over_marknil _).mono ?_; rintro e w8 ⟨rfl, hq8⟩
      have c8 := planKeep c7 (hq8.below : Below w7.heap.size w7 w8)
      obtain ⟨d80, d81, d82⟩ := c8.1
      have hM := Blk.quiet hM hq8
      clear hq8 c7 d70 d71 d72
      go_wp2_with fail
      refine (fresh_marknil _).mono ?_; rintro e w9 ⟨rfl, hq9⟩
      have c9 := planKeep c8 (hq9.below : Below w8.heap.size w8 w9)
      obtain ⟨d90, d91, d92⟩ := c9.1
      have hM := Blk.quiet hM hq9
      clear hq9 c8 d80 d81 d82
      go_wp2_with fail
      refine (step_shadenil none _).mono ?_; rintro e w10 ⟨rfl, hq10⟩
      have c10 := planKeep c9 (hq10.below : Below w9.heap.size w9 w10)
      obtain ⟨d100, d101, d102⟩ := c10.1
      have hM := Blk.quiet hM hq10
      clear hq10 c9 d90 d91 d92
      as_aux_lemma =>
        go_wp2_with fail
        refine (over_shadenil _).mono ?_; rintro e w11 ⟨rfl, hq11⟩
        have c11 := planKeep c10 (hq11.below : Below w10.heap.size w10 w11)
        obtain ⟨d110, d111, d112⟩ := c11.1
        have hM := Blk.quiet hM hq11
        clear hq11 c10 d100 d101 d102
        go_wp2_with fail
        refine (fresh_shadenil _).mono ?_; rintro e w12 ⟨rfl, hq12⟩
        have c12 := planKeep c11 (hq12.below : Below w11.heap.size w11 w12)
        obtain ⟨d120, d121, d122⟩ := c12.1
        have hM := Blk.quiet hM hq12
        clear hq12 c11 d110 d111 d112
        go_wp2_with fail
        refine (lost_shadenil _).mono ?_; rintro e w13 ⟨rfl, hq13⟩
        have c13 := planKeep c12 (hq13.below : Below w12.heap.size w12 w13)
        obtain ⟨d130, d131, d132⟩ := c13.1
        have hM := Blk.quiet hM hq13
        clear hq13 c12 d120 d121 d122
        go_wp2_with fail
        refine (held_shadenil _).mono ?_; rintro e w14 ⟨rfl, hq14⟩
        have c14 := planKeep c13 (hq14.below : Below w13.heap.size w13 w14)
        obtain ⟨d140, d141, d142⟩ := c14.1
        have hM := Blk.quiet hM hq14
        clear hq14 c13 d130 d131 d132
        go_wp2_with fail
        refine (splan_any P T R _).mono ?_; rintro e w15 ⟨rfl, hb15⟩
        have c15 := planKeep c14 hb15
        obtain ⟨d150, d151, d152⟩ := c15.1
        have hM := Blk.grew hM hb15
        clear hb15 c14 d140 d141 d142
        as_aux_lemma =>
          go_wp2_with fail
          refine (MN.out _).mono ?_; rintro e w16 ⟨rfl, hb16⟩
          have c16 := planKeep c15 hb16
          obtain ⟨d160, d161, d162⟩ := c16.1
          have hM := Blk.grew hM hb16
          clear hb16 c15 d150 d151 d152
          go_wp2_with fail
          refine (over_mark hM).mono ?_; rintro e w17 ⟨rfl, hq17⟩
          have c17 := planKeep c16 (hq17.below : Below w16.heap.size w16 w17)
          obtain ⟨d170, d171, d172⟩ := c17.1
          have hM := Blk.quiet hM hq17
          clear hq17 c16 d160 d161 d162
          have hB := c17.2
          go_wp2
          all_goals
            go_ret
            exact ⟨rfl, hB⟩

set_option maxRecDepth 100000 in
set_option maxHeartbeats 4000000 in
theorem sn_high_yes (P T R t x : Int) (w : World) (hr : Right P T R) (hx : exB P T R t = false) (hT0 : 0 ≤ t) (hT1 : T ≤ t) (hu : U64 x) (h0 : x ≠ 0) (hf : refB P T R x = true) :
    Calls Try.prog 9 #[.agg #[.int .i64 P, .int .i64 T, .int .i64 R], .int .i64 t, .int .u64 x] w fun e w' => e = .returned (.bool true) ∧ Below w.heap.size w w' := by
  have hx0 : (x == 0) = false := by simpa using h0
  have hx1 : (x != 0) = true := by simpa using h0
  have V := Lib.hid (fun W => rright_any P T R W)
  rw [of_right hr] at V
  have MN := Lib.hid (fun W => marked_nil P T R x W hu)
  have NM := Lib.hid (fun W => newmark_yes P T R x W hu h0 hf)
  have NS := Lib.hid (fun W => newshade_arg P T R t x W hx)
  have DR := Lib.hid (fun W => draw_yes P T R W hr)
  have RF := Lib.hid (fun W => ref8_any P T R x W hr hu)
  rw [hf] at RF
  unfold mapV at DR RF
  generalize baseI P T R + 64 * P = zc at DR RF
  generalize baseI P T R = zb at DR RF
  generalize tabI T R = ze at DR RF
  have hT2 : ¬ t < T := by omega
  clear hx hu hr h0 hf
  go_enter Try.func9, Try.ntmps9
  have c0 := (planNew w P T R 26)
  go_wp2_with fail
  refine (V.out _).mono ?_; rintro e w1 ⟨rfl, hb1⟩
  have c1 := planKeep c0 hb1
  obtain ⟨d10, d11, d12⟩ := c1.1
  clear hb1 c0
  go_wp2_with fail
  refine (DR.out _).mono ?_; rintro e w2 ⟨rfl, hb2⟩
  have c2 := planKeep c1 hb2
  obtain ⟨d20, d21, d22⟩ := c2.1
  clear hb2 c1 d10 d11 d12
  go_wp2_with fail
  refine (RF.out _).mono ?_; rintro e w3 ⟨rfl, hb3⟩
  have c3 := planKeep c2 hb3
  obtain ⟨d30, d31, d32⟩ := c3.1
  clear hb3 c2 d20 d21 d22
  as_aux_lemma =>
    go_wp2_with fail
    refine (splan_any P T R _).mono ?_; rintro e w4 ⟨rfl, hb4⟩
    have c4 := planKeep c3 hb4
    obtain ⟨d40, d41, d42⟩ := c4.1
    clear hb4 c3 d30 d31 d32
    go_wp2_with fail
    refine (NM.out _).mono ?_; rintro e w5 ⟨m1, rfl, hM, hm1, hb5⟩
    have c5 := planKeep c4 hb5
    obtain ⟨d50, d51, d52⟩ := c5.1
    clear hb5 c4 d40 d41 d42
    go_wp2_with fail
    refine (splan_any P T R _).mono ?_; rintro e w6 ⟨rfl, hb6⟩
    have c6 := planKeep c5 hb6
    obtain ⟨d60, d61, d62⟩ := c6.1
    clear hb6 c5 d50 d51 d52
    as_aux_lemma =>
      go_wp2_with fail
      refine (NS.out _).mono ?_; rintro e w7 ⟨rfl, hb7⟩
      have c7 := planKeep c6 hb7
      obtain ⟨d70, d71, d72⟩ := c7.1
      clear hb7 c6 d60 d61 d62
      go_wp2_with fail
      refine (shaded_any _).mono ?_; rintro e w8 ⟨rfl, hb8⟩
      have c8 := planKeep c7 hb8
      obtain ⟨d80, d81, d82⟩ := c8.1
      clear hb8 c7 d70 d71 d72
      as_aux_lemma =>
        go_wp2_with fail
        refine (step_marknil none _).mono ?_; rintro e w9 ⟨rfl, hq9⟩
        have c9 := planKeep c8 (hq9.below : Below w8.heap.size w8 w9)
        obtain ⟨d90, d91, d92⟩ := c9.1
        clear hq9 c8 d80 d81 d82
        go_wp2_with fail
        refine (over_marknil _).mono ?_; rintro e w10 ⟨rfl, hq10⟩
        have c10 := planKeep c9 (hq10.below : Below w9.heap.size w9 w10)
        obtain ⟨d100, d101, d102⟩ := c10.1
        clear hq10 c9 d90 d91 d92
        go_wp2_with fail
        refine (fresh_marknil _).mono ?_; rintro e w11 ⟨rfl, hq11⟩
        have c11 := planKeep c10 (hq11.below : Below w10.heap.size w10 w11)
        obtain ⟨d110, d111, d112⟩ := c11.1
        clear hq11 c10 d100 d101 d102
        go_wp2_with fail
        refine (step_shadenil none _).mono ?_; rintro e w12 ⟨rfl, hq12⟩
        have c12 := planKeep c11 (hq12.below : Below w11.heap.size w11 w12)
        obtain ⟨d120, d121, d122⟩ := c12.1
        clear hq12 c11 d110 d111 d112
        as_aux_lemma =>
          go_wp2_with fail
          refine (over_shadenil _).mono ?_; rintro e w13 ⟨rfl, hq13⟩
          have c13 := planKeep c12 (hq13.below : Below w12.heap.size w12 w13)
          obtain ⟨d130, d131, d132⟩ := c13.1
          clear hq13 c12 d120 d121 d122
          go_wp2_with fail
          refine (fresh_shadenil _).mono ?_; rintro e w14 ⟨rfl, hq14⟩
          have c14 := planKeep c13 (hq14.below : Below w13.heap.size w13 w14)
          obtain ⟨d140, d141, d142⟩ := c14.1
          clear hq14 c13 d130 d131 d132
          go_wp2_with fail
          refine (lost_shadenil _).mono ?_; rintro e w15 ⟨rfl, hq15⟩
          have c15 := planKeep c14 (hq15.below : Below w14.heap.size w14 w15)
          obtain ⟨d150, d151, d152⟩ := c15.1
          clear hq15 c14 d140 d141 d142
          go_wp2_with fail
          refine (held_shadenil _).mono ?_; rintro e w16 ⟨rfl, hq16⟩
          have c16 := planKeep c15 (hq16.below : Below w15.heap.size w15 w16)
          obtain ⟨d160, d161, d162⟩ := c16.1
          clear hq16 c15 d150 d151 d152
          go_wp2_with fail
          refine (splan_any P T R _).mono ?_; rintro e w17 ⟨rfl, hb17⟩
          have c17 := planKeep c16 hb17
          obtain ⟨d170, d171, d172⟩ := c17.1
          clear hb17 c16 d160 d161 d162
          as_aux_lemma =>
            go_wp2_with fail
            refine (MN.out _).mono ?_; rintro e w18 ⟨rfl, hb18⟩
            have c18 := planKeep c17 hb18
            obtain ⟨d180, d181, d182⟩ := c18.1
            clear hb18 c17 d170 d171 d172
            have hB := c18.2
            go_wp2
            all_goals
              go_ret
              exact ⟨rfl, hB⟩

set_option maxRecDepth 100000 in
set_option maxHeartbeats 4000000 in
theorem sn_high_no (P T R t x : Int) (w : World) (hr : Right P T R) (hx : exB P T R t = false) (hT0 : 0 ≤ t) (hT1 : T ≤ t) (hu : U64 x) (h0 : x ≠ 0) (hf : refB P T R x = false) :
    Calls Try.prog 9 #[.agg #[.int .i64 P, .int .i64 T, .int .i64 R], .int .i64 t, .int .u64 x] w fun e w' => e = .returned (.bool true) ∧ Below w.heap.size w w' := by
  have hx0 : (x == 0) = false := by simpa using h0
  have hx1 : (x != 0) = true := by simpa using h0
  have V := Lib.hid (fun W => rright_any P T R W)
  rw [of_right hr] at V
  have MN := Lib.hid (fun W => marked_nil P T R x W hu)
  have NM := Lib.hid (fun W => newmark_addr P T R x W hr hu h0 hf)
  have NS := Lib.hid (fun W => newshade_arg P T R t x W hx)
  have DR := Lib.hid (fun W => draw_yes P T R W hr)
  have RF := Lib.hid (fun W => ref8_any P T R x W hr hu)
  rw [hf] at RF
  unfold mapV at DR RF
  generalize baseI P T R + 64 * P = zc at DR RF
  generalize baseI P T R = zb at DR RF
  generalize tabI T R = ze at DR RF
  have hT2 : ¬ t < T := by omega
  clear hx hu hr h0 hf
  go_enter Try.func9, Try.ntmps9
  have c0 := (planNew w P T R 26)
  go_wp2_with fail
  refine (V.out _).mono ?_; rintro e w1 ⟨rfl, hb1⟩
  have c1 := planKeep c0 hb1
  obtain ⟨d10, d11, d12⟩ := c1.1
  clear hb1 c0
  go_wp2_with fail
  refine (DR.out _).mono ?_; rintro e w2 ⟨rfl, hb2⟩
  have c2 := planKeep c1 hb2
  obtain ⟨d20, d21, d22⟩ := c2.1
  clear hb2 c1 d10 d11 d12
  go_wp2_with fail
  refine (RF.out _).mono ?_; rintro e w3 ⟨rfl, hb3⟩
  have c3 := planKeep c2 hb3
  obtain ⟨d30, d31, d32⟩ := c3.1
  clear hb3 c2 d20 d21 d22
  as_aux_lemma =>
    go_wp2_with fail
    refine (splan_any P T R _).mono ?_; rintro e w4 ⟨rfl, hb4⟩
    have c4 := planKeep c3 hb4
    obtain ⟨d40, d41, d42⟩ := c4.1
    clear hb4 c3 d30 d31 d32
    go_wp2_with fail
    refine (NM.out _).mono ?_; rintro e w5 ⟨rfl, hb5⟩
    have c5 := planKeep c4 hb5
    obtain ⟨d50, d51, d52⟩ := c5.1
    clear hb5 c4 d40 d41 d42
    go_wp2_with fail
    refine (splan_any P T R _).mono ?_; rintro e w6 ⟨rfl, hb6⟩
    have c6 := planKeep c5 hb6
    obtain ⟨d60, d61, d62⟩ := c6.1
    clear hb6 c5 d50 d51 d52
    as_aux_lemma =>
      go_wp2_with fail
      refine (NS.out _).mono ?_; rintro e w7 ⟨rfl, hb7⟩
      have c7 := planKeep c6 hb7
      obtain ⟨d70, d71, d72⟩ := c7.1
      clear hb7 c6 d60 d61 d62
      go_wp2_with fail
      refine (shaded_any _).mono ?_; rintro e w8 ⟨rfl, hb8⟩
      have c8 := planKeep c7 hb8
      obtain ⟨d80, d81, d82⟩ := c8.1
      clear hb8 c7 d70 d71 d72
      as_aux_lemma =>
        go_wp2_with fail
        refine (step_marknil none _).mono ?_; rintro e w9 ⟨rfl, hq9⟩
        have c9 := planKeep c8 (hq9.below : Below w8.heap.size w8 w9)
        obtain ⟨d90, d91, d92⟩ := c9.1
        clear hq9 c8 d80 d81 d82
        go_wp2_with fail
        refine (over_marknil _).mono ?_; rintro e w10 ⟨rfl, hq10⟩
        have c10 := planKeep c9 (hq10.below : Below w9.heap.size w9 w10)
        obtain ⟨d100, d101, d102⟩ := c10.1
        clear hq10 c9 d90 d91 d92
        go_wp2_with fail
        refine (fresh_marknil _).mono ?_; rintro e w11 ⟨rfl, hq11⟩
        have c11 := planKeep c10 (hq11.below : Below w10.heap.size w10 w11)
        obtain ⟨d110, d111, d112⟩ := c11.1
        clear hq11 c10 d100 d101 d102
        go_wp2_with fail
        refine (step_shadenil none _).mono ?_; rintro e w12 ⟨rfl, hq12⟩
        have c12 := planKeep c11 (hq12.below : Below w11.heap.size w11 w12)
        obtain ⟨d120, d121, d122⟩ := c12.1
        clear hq12 c11 d110 d111 d112
        as_aux_lemma =>
          go_wp2_with fail
          refine (over_shadenil _).mono ?_; rintro e w13 ⟨rfl, hq13⟩
          have c13 := planKeep c12 (hq13.below : Below w12.heap.size w12 w13)
          obtain ⟨d130, d131, d132⟩ := c13.1
          clear hq13 c12 d120 d121 d122
          go_wp2_with fail
          refine (fresh_shadenil _).mono ?_; rintro e w14 ⟨rfl, hq14⟩
          have c14 := planKeep c13 (hq14.below : Below w13.heap.size w13 w14)
          obtain ⟨d140, d141, d142⟩ := c14.1
          clear hq14 c13 d130 d131 d132
          go_wp2_with fail
          refine (lost_shadenil _).mono ?_; rintro e w15 ⟨rfl, hq15⟩
          have c15 := planKeep c14 (hq15.below : Below w14.heap.size w14 w15)
          obtain ⟨d150, d151, d152⟩ := c15.1
          clear hq15 c14 d140 d141 d142
          go_wp2_with fail
          refine (held_shadenil _).mono ?_; rintro e w16 ⟨rfl, hq16⟩
          have c16 := planKeep c15 (hq16.below : Below w15.heap.size w15 w16)
          obtain ⟨d160, d161, d162⟩ := c16.1
          clear hq16 c15 d150 d151 d152
          go_wp2_with fail
          refine (splan_any P T R _).mono ?_; rintro e w17 ⟨rfl, hb17⟩
          have c17 := planKeep c16 hb17
          obtain ⟨d170, d171, d172⟩ := c17.1
          clear hb17 c16 d160 d161 d162
          as_aux_lemma =>
            go_wp2_with fail
            refine (MN.out _).mono ?_; rintro e w18 ⟨rfl, hb18⟩
            have c18 := planKeep c17 hb18
            obtain ⟨d180, d181, d182⟩ := c18.1
            clear hb18 c17 d170 d171 d172
            have hB := c18.2
            go_wp2
            all_goals
              go_ret
              exact ⟨rfl, hB⟩

theorem snils_law (P T R t x : Int) (w : World) (_h1 : (Lit.int .i64 P).wf = true) (_h2 : (Lit.int .i64 T).wf = true) (_h3 : (Lit.int .i64 R).wf = true) (_h4 : (Lit.int .i64 t).wf = true) (h5 : (Lit.int .u64 x).wf = true) :
    Calls Try.prog 9 #[.agg #[.int .i64 P, .int .i64 T, .int .i64 R], .int .i64 t, .int .u64 x] w fun e w' => e = .returned (.bool true) ∧ Below w.heap.size w w' := by
  have hu := wf_U64 h5
  by_cases hb : rightB P T R = true
  · have hr := right_of hb
    by_cases hx : exB P T R t = true
    · by_cases h0 : x = 0
      · exact sn_in_zero P T R t x w hr hx hu h0
      · by_cases hf : refB P T R x = true
        · exact sn_in_yes P T R t x w hr hx hu h0 hf
        · exact sn_in_no P T R t x w hr hx hu h0 (Bool.not_eq_true _ |>.mp hf)
    · have hx' := Bool.not_eq_true _ |>.mp hx
      have ht : t < 0 ∨ (0 ≤ t ∧ T ≤ t) := by
        by_cases h1 : t < 0
        · exact .inl h1
        · refine .inr ⟨by omega, ?_⟩
          by_cases h2 : T ≤ t
          · exact h2
          · exfalso
            apply hx
            unfold exB inB
            rw [hb]
            exact decide_eq_true (by omega)
      rcases ht with ht | ⟨ht0, ht1⟩
      · by_cases h0 : x = 0
        · exact sn_low_zero P T R t x w hr hx' ht hu h0
        · by_cases hf : refB P T R x = true
          · exact sn_low_yes P T R t x w hr hx' ht hu h0 hf
          · exact sn_low_no P T R t x w hr hx' ht hu h0 (Bool.not_eq_true _ |>.mp hf)
      · by_cases h0 : x = 0
        · exact sn_high_zero P T R t x w hr hx' ht0 ht1 hu h0
        · by_cases hf : refB P T R x = true
          · exact sn_high_yes P T R t x w hr hx' ht0 ht1 hu h0 hf
          · exact sn_high_no P T R t x w hr hx' ht0 ht1 hu h0 (Bool.not_eq_true _ |>.mp hf)
  · have hb' := Bool.not_eq_true _ |>.mp hb
    have hx : exB P T R t = false := by unfold exB; rw [hb']; rfl
    by_cases h0 : x = 0
    · exact sn_bad0 P T R t x w hb' hx hu h0
    · exact sn_bad P T R t x w hb' hx hu h0

end Go.Proofs.Ytgcahbgapojimaa
