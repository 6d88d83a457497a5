/- The walk of the law RingNils: it returns true, whatever is given. No condition. -/
import Derived.Test.YtgcahbgapojimaaRwait
namespace Go.Proofs.Ytgcahbgapojimaa
open Go.RowKit

set_option maxRecDepth 100000 in
set_option maxHeartbeats 4000000 in
theorem rnils_yes (P T R t v : Int) (w : World) (hx : exB P T R t = true) (hv : v ≠ 0) :
    Calls Try.prog 7 #[.agg #[.int .i64 P, .int .i64 T, .int .i64 R], .int .i64 t, .int .u64 v] w fun e w' => e = .returned (.bool true) ∧ Below w.heap.size w w' := by
  have hr := (exB_of hx).1
  have ht := (exB_of hx).2
  have hT : 0 ≤ t ∧ t < T := by unfold inB at ht; have := of_decide_eq_true ht; omega
  obtain ⟨hT0, hT1⟩ := hT
  have V := Lib.hid (fun W => rright_any P T R W)
  rw [of_right hr] at V
  have hi : insB 1 (ownI P T R t 3) = false := by
    have := ownN_bd hx 3 (by decide) (by have := hr.2.2; omega)
    unfold insB; exact decide_eq_false (by omega)
  have NO := Lib.hid (fun W => newpop_yes P T R t W hx)
  have WT := Lib.hid (fun W a c cs (h : ArenaAt W a c cs false (.slice none 0 0) 0 0) (h1 : cs.length = 1) => waiting_addr a c cs false (.slice none 0 0) 0 0 P T R t W h hx (by rw [h1]; exact hi))
  have NP := Lib.hid (fun W => newpush_yes P T R t v W hx hv)
  have hv' : (v != 0) = true := by simpa using hv
  clear hx hr ht hi hv
  go_enter Try.func7, Try.ntmps7
  have c0 := (planNew w P T R 26)
  go_wp2_with fail
  refine (V.out _).mono ?_; rintro e w1 ⟨rfl, hb1⟩
  have c1 := planKeep c0 hb1
  obtain ⟨d10, d11, d12⟩ := c1.1
  clear c0 hb1
  go_wp2_with fail
  refine (rplan_any P T R _).mono ?_; rintro e w2 ⟨rfl, hb2⟩
  have c2 := planKeep c1 hb2
  obtain ⟨d20, d21, d22⟩ := c2.1
  clear c1 hb2 d10 d11 d12
  go_wp2_with fail
  refine (NP.out _).mono ?_; rintro e w3 ⟨m1, rfl, hM3, hm1, hb3⟩
  have c3 := planKeep c2 hb3
  obtain ⟨d30, d31, d32⟩ := c3.1
  clear c2 hb3 d20 d21 d22
  go_wp2_with fail
  refine (rplan_any P T R _).mono ?_; rintro e w4 ⟨rfl, hb4⟩
  have c4 := planKeep c3 hb4
  obtain ⟨d40, d41, d42⟩ := c4.1
  clear c3 hb4 d30 d31 d32
  go_wp2_with fail
  refine (NO.out _).mono ?_; rintro e w5 ⟨m2, rfl, hM5, hm2, hb5⟩
  have c5 := planKeep c4 hb5
  obtain ⟨d50, d51, d52⟩ := c5.1
  clear c4 hb5 d40 d41 d42
  go_wp2_with fail
  refine (new_yes 1 false _ (by decide) (by decide)).mono ?_; rintro e w6 ⟨a, c, rfl, hA6, ha, hc, hb6⟩
  have c6 := planKeep c5 hb6
  obtain ⟨d60, d61, d62⟩ := c6.1
  clear c5 hb6 d50 d51 d52
  go_wp2_with fail
  refine (rplan_any P T R _).mono ?_; rintro e w7 ⟨rfl, hb7⟩
  have c7 := planKeep c6 hb7
  have hA7 := hA6.grew hb7
  clear c6 hb7 d60 d61 d62 hA6
  go_wp2_with fail
  refine (WT.out _ a c _ hA7 (by simp)).mono ?_; rintro e w8 ⟨rfl, hb8⟩
  have c8 := planKeep c7 hb8
  clear c7 hb8 hA7
  go_wp2_with fail
  refine (ringed_any _).mono ?_; rintro e w9 ⟨rfl, hb9⟩
  have hB := (planKeep c8 hb9).2
  clear c8 hb9

  go_wp2_with fail
  refine (step_pushnil none _).mono ?_; rintro e w10 ⟨rfl, hq⟩
  have hB := hB.trans hq.below
  clear hq

  go_wp2_with fail
  refine (over_pushnil _).mono ?_; rintro e w10 ⟨rfl, hq⟩
  have hB := hB.trans hq.below
  clear hq

  go_wp2_with fail
  refine (full_nil _).mono ?_; rintro e w10 ⟨rfl, hq⟩
  have hB := hB.trans hq.below
  clear hq

  go_wp2_with fail
  refine (step_popnil none _).mono ?_; rintro e w10 ⟨rfl, hq⟩
  have hB := hB.trans hq.below
  clear hq

  go_wp2_with fail
  refine (over_popnil _).mono ?_; rintro e w10 ⟨rfl, hq⟩
  have hB := hB.trans hq.below
  clear hq

  go_wp2_with fail
  refine (empty_nil _).mono ?_; rintro e w10 ⟨rfl, hq⟩
  have hB := hB.trans hq.below
  clear hq

  go_wp2_with fail
  refine (value_nil _).mono ?_; rintro e w10 ⟨rfl, hq⟩
  have hB := hB.trans hq.below
  clear hq

  go_wp2
  all_goals
    go_ret
    exact ⟨rfl, hB⟩

set_option maxRecDepth 100000 in
set_option maxHeartbeats 4000000 in
theorem rnils_zero (P T R t v : Int) (w : World) (hx : exB P T R t = true) (hv : v = 0) :
    Calls Try.prog 7 #[.agg #[.int .i64 P, .int .i64 T, .int .i64 R], .int .i64 t, .int .u64 v] w fun e w' => e = .returned (.bool true) ∧ Below w.heap.size w w' := by
  have hr := (exB_of hx).1
  have ht := (exB_of hx).2
  have hT : 0 ≤ t ∧ t < T := by unfold inB at ht; have := of_decide_eq_true ht; omega
  obtain ⟨hT0, hT1⟩ := hT
  have V := Lib.hid (fun W => rright_any P T R W)
  rw [of_right hr] at V
  have hi : insB 1 (ownI P T R t 3) = false := by
    have := ownN_bd hx 3 (by decide) (by have := hr.2.2; omega)
    unfold insB; exact decide_eq_false (by omega)
  have NO := Lib.hid (fun W => newpop_yes P T R t W hx)
  have WT := Lib.hid (fun W a c cs (h : ArenaAt W a c cs false (.slice none 0 0) 0 0) (h1 : cs.length = 1) => waiting_addr a c cs false (.slice none 0 0) 0 0 P T R t W h hx (by rw [h1]; exact hi))
  subst hv
  have NP := Lib.hid (fun W => newpush_no P T R t 0 W (.inr rfl))
  clear hx hr ht hi
  go_enter Try.func7, Try.ntmps7
  have c0 := (planNew w P T R 26)
  go_wp2_with fail
  refine (V.out _).mono ?_; rintro e w1 ⟨rfl, hb1⟩
  have c1 := planKeep c0 hb1
  obtain ⟨d10, d11, d12⟩ := c1.1
  clear c0 hb1
  go_wp2_with fail
  refine (rplan_any P T R _).mono ?_; rintro e w2 ⟨rfl, hb2⟩
  have c2 := planKeep c1 hb2
  obtain ⟨d20, d21, d22⟩ := c2.1
  clear c1 hb2 d10 d11 d12
  go_wp2_with fail
  refine (NP.out _).mono ?_; rintro e w3 ⟨rfl, hb3⟩
  have c3 := planKeep c2 hb3
  obtain ⟨d30, d31, d32⟩ := c3.1
  clear c2 hb3 d20 d21 d22
  go_wp2_with fail
  refine (rplan_any P T R _).mono ?_; rintro e w4 ⟨rfl, hb4⟩
  have c4 := planKeep c3 hb4
  obtain ⟨d40, d41, d42⟩ := c4.1
  clear c3 hb4 d30 d31 d32
  go_wp2_with fail
  refine (NO.out _).mono ?_; rintro e w5 ⟨m2, rfl, hM5, hm2, hb5⟩
  have c5 := planKeep c4 hb5
  obtain ⟨d50, d51, d52⟩ := c5.1
  clear c4 hb5 d40 d41 d42
  go_wp2_with fail
  refine (new_yes 1 false _ (by decide) (by decide)).mono ?_; rintro e w6 ⟨a, c, rfl, hA6, ha, hc, hb6⟩
  have c6 := planKeep c5 hb6
  obtain ⟨d60, d61, d62⟩ := c6.1
  clear c5 hb6 d50 d51 d52
  go_wp2_with fail
  refine (rplan_any P T R _).mono ?_; rintro e w7 ⟨rfl, hb7⟩
  have c7 := planKeep c6 hb7
  have hA7 := hA6.grew hb7
  clear c6 hb7 d60 d61 d62 hA6
  go_wp2_with fail
  refine (WT.out _ a c _ hA7 (by simp)).mono ?_; rintro e w8 ⟨rfl, hb8⟩
  have c8 := planKeep c7 hb8
  clear c7 hb8 hA7
  go_wp2_with fail
  refine (ringed_any _).mono ?_; rintro e w9 ⟨rfl, hb9⟩
  have hB := (planKeep c8 hb9).2
  clear c8 hb9

  go_wp2_with fail
  refine (step_pushnil none _).mono ?_; rintro e w10 ⟨rfl, hq⟩
  have hB := hB.trans hq.below
  clear hq

  go_wp2_with fail
  refine (over_pushnil _).mono ?_; rintro e w10 ⟨rfl, hq⟩
  have hB := hB.trans hq.below
  clear hq

  go_wp2_with fail
  refine (full_nil _).mono ?_; rintro e w10 ⟨rfl, hq⟩
  have hB := hB.trans hq.below
  clear hq

  go_wp2_with fail
  refine (step_popnil none _).mono ?_; rintro e w10 ⟨rfl, hq⟩
  have hB := hB.trans hq.below
  clear hq

  go_wp2_with fail
  refine (over_popnil _).mono ?_; rintro e w10 ⟨rfl, hq⟩
  have hB := hB.trans hq.below
  clear hq

  go_wp2_with fail
  refine (empty_nil _).mono ?_; rintro e w10 ⟨rfl, hq⟩
  have hB := hB.trans hq.below
  clear hq

  go_wp2_with fail
  refine (value_nil _).mono ?_; rintro e w10 ⟨rfl, hq⟩
  have hB := hB.trans hq.below
  clear hq

  go_wp2
  all_goals
    go_ret
    exact ⟨rfl, hB⟩

set_option maxRecDepth 100000 in
set_option maxHeartbeats 4000000 in
theorem rnils_bad (P T R t v : Int) (w : World) (hx : exB P T R t = false) (hr : rightB P T R = false) :
    Calls Try.prog 7 #[.agg #[.int .i64 P, .int .i64 T, .int .i64 R], .int .i64 t, .int .u64 v] w fun e w' => e = .returned (.bool true) ∧ Below w.heap.size w w' := by
  have NP := Lib.hid (fun W => newpush_no P T R t v W (.inl hx))
  have NO := Lib.hid (fun W => newpop_no P T R t W hx)
  have WT := Lib.hid (fun W x => waiting_no x P T R t W hx)
  have V := Lib.hid (fun W => rright_any P T R W)
  rw [hr] at V
  clear hx hr
  go_enter Try.func7, Try.ntmps7
  have c0 := (planNew w P T R 26)
  go_wp2_with fail
  refine (V.out _).mono ?_; rintro e w1 ⟨rfl, hb1⟩
  have c1 := planKeep c0 hb1
  obtain ⟨d10, d11, d12⟩ := c1.1
  clear c0 hb1
  go_wp2_with fail
  refine (rplan_any P T R _).mono ?_; rintro e w2 ⟨rfl, hb2⟩
  have c2 := planKeep c1 hb2
  obtain ⟨d20, d21, d22⟩ := c2.1
  clear c1 hb2 d10 d11 d12
  go_wp2_with fail
  refine (NP.out _).mono ?_; rintro e w3 ⟨rfl, hb3⟩
  have c3 := planKeep c2 hb3
  obtain ⟨d30, d31, d32⟩ := c3.1
  clear c2 hb3 d20 d21 d22
  go_wp2_with fail
  refine (rplan_any P T R _).mono ?_; rintro e w4 ⟨rfl, hb4⟩
  have c4 := planKeep c3 hb4
  obtain ⟨d40, d41, d42⟩ := c4.1
  clear c3 hb4 d30 d31 d32
  go_wp2_with fail
  refine (NO.out _).mono ?_; rintro e w5 ⟨rfl, hb5⟩
  have c5 := planKeep c4 hb5
  obtain ⟨d50, d51, d52⟩ := c5.1
  clear c4 hb5 d40 d41 d42
  go_wp2_with fail
  refine (new_yes 1 false _ (by decide) (by decide)).mono ?_; rintro e w6 ⟨a, c, rfl, hA6, ha, hc, hb6⟩
  have c6 := planKeep c5 hb6
  obtain ⟨d60, d61, d62⟩ := c6.1
  clear c5 hb6 d50 d51 d52
  go_wp2_with fail
  refine (rplan_any P T R _).mono ?_; rintro e w7 ⟨rfl, hb7⟩
  have c7 := planKeep c6 hb7
  have hA7 := hA6.grew hb7
  clear c6 hb7 d60 d61 d62 hA6
  go_wp2_with fail
  refine (WT.out _ (some ⟨a, 0, none⟩)).mono ?_; rintro e w8 ⟨rfl, hb8⟩
  have c8 := planKeep c7 hb8
  clear c7 hb8 hA7
  go_wp2_with fail
  refine (ringed_any _).mono ?_; rintro e w9 ⟨rfl, hb9⟩
  have hB := (planKeep c8 hb9).2
  clear c8 hb9

  go_wp2_with fail
  refine (step_pushnil none _).mono ?_; rintro e w10 ⟨rfl, hq⟩
  have hB := hB.trans hq.below
  clear hq

  go_wp2_with fail
  refine (over_pushnil _).mono ?_; rintro e w10 ⟨rfl, hq⟩
  have hB := hB.trans hq.below
  clear hq

  go_wp2_with fail
  refine (full_nil _).mono ?_; rintro e w10 ⟨rfl, hq⟩
  have hB := hB.trans hq.below
  clear hq

  go_wp2_with fail
  refine (step_popnil none _).mono ?_; rintro e w10 ⟨rfl, hq⟩
  have hB := hB.trans hq.below
  clear hq

  go_wp2_with fail
  refine (over_popnil _).mono ?_; rintro e w10 ⟨rfl, hq⟩
  have hB := hB.trans hq.below
  clear hq

  go_wp2_with fail
  refine (empty_nil _).mono ?_; rintro e w10 ⟨rfl, hq⟩
  have hB := hB.trans hq.below
  clear hq

  go_wp2_with fail
  refine (value_nil _).mono ?_; rintro e w10 ⟨rfl, hq⟩
  have hB := hB.trans hq.below
  clear hq

  go_wp2
  all_goals
    go_ret
    exact ⟨rfl, hB⟩

set_option maxRecDepth 100000 in
set_option maxHeartbeats 4000000 in
theorem rnils_low (P T R t v : Int) (w : World) (hx : exB P T R t = false) (hr : rightB P T R = true) (hT0 : t < 0) :
    Calls Try.prog 7 #[.agg #[.int .i64 P, .int .i64 T, .int .i64 R], .int .i64 t, .int .u64 v] w fun e w' => e = .returned (.bool true) ∧ Below w.heap.size w w' := by
  have NP := Lib.hid (fun W => newpush_no P T R t v W (.inl hx))
  have NO := Lib.hid (fun W => newpop_no P T R t W hx)
  have WT := Lib.hid (fun W x => waiting_no x P T R t W hx)
  have V := Lib.hid (fun W => rright_any P T R W)
  rw [hr] at V
  have hT1 : ¬ 0 ≤ t := by omega
  clear hx hr
  go_enter Try.func7, Try.ntmps7
  have c0 := (planNew w P T R 26)
  go_wp2_with fail
  refine (V.out _).mono ?_; rintro e w1 ⟨rfl, hb1⟩
  have c1 := planKeep c0 hb1
  obtain ⟨d10, d11, d12⟩ := c1.1
  clear c0 hb1
  go_wp2_with fail
  refine (rplan_any P T R _).mono ?_; rintro e w2 ⟨rfl, hb2⟩
  have c2 := planKeep c1 hb2
  obtain ⟨d20, d21, d22⟩ := c2.1
  clear c1 hb2 d10 d11 d12
  go_wp2_with fail
  refine (NP.out _).mono ?_; rintro e w3 ⟨rfl, hb3⟩
  have c3 := planKeep c2 hb3
  obtain ⟨d30, d31, d32⟩ := c3.1
  clear c2 hb3 d20 d21 d22
  go_wp2_with fail
  refine (rplan_any P T R _).mono ?_; rintro e w4 ⟨rfl, hb4⟩
  have c4 := planKeep c3 hb4
  obtain ⟨d40, d41, d42⟩ := c4.1
  clear c3 hb4 d30 d31 d32
  go_wp2_with fail
  refine (NO.out _).mono ?_; rintro e w5 ⟨rfl, hb5⟩
  have c5 := planKeep c4 hb5
  obtain ⟨d50, d51, d52⟩ := c5.1
  clear c4 hb5 d40 d41 d42
  go_wp2_with fail
  refine (new_yes 1 false _ (by decide) (by decide)).mono ?_; rintro e w6 ⟨a, c, rfl, hA6, ha, hc, hb6⟩
  have c6 := planKeep c5 hb6
  obtain ⟨d60, d61, d62⟩ := c6.1
  clear c5 hb6 d50 d51 d52
  go_wp2_with fail
  refine (rplan_any P T R _).mono ?_; rintro e w7 ⟨rfl, hb7⟩
  have c7 := planKeep c6 hb7
  have hA7 := hA6.grew hb7
  clear c6 hb7 d60 d61 d62 hA6
  go_wp2_with fail
  refine (WT.out _ (some ⟨a, 0, none⟩)).mono ?_; rintro e w8 ⟨rfl, hb8⟩
  have c8 := planKeep c7 hb8
  clear c7 hb8 hA7
  go_wp2_with fail
  refine (ringed_any _).mono ?_; rintro e w9 ⟨rfl, hb9⟩
  have hB := (planKeep c8 hb9).2
  clear c8 hb9

  go_wp2_with fail
  refine (step_pushnil none _).mono ?_; rintro e w10 ⟨rfl, hq⟩
  have hB := hB.trans hq.below
  clear hq

  go_wp2_with fail
  refine (over_pushnil _).mono ?_; rintro e w10 ⟨rfl, hq⟩
  have hB := hB.trans hq.below
  clear hq

  go_wp2_with fail
  refine (full_nil _).mono ?_; rintro e w10 ⟨rfl, hq⟩
  have hB := hB.trans hq.below
  clear hq

  go_wp2_with fail
  refine (step_popnil none _).mono ?_; rintro e w10 ⟨rfl, hq⟩
  have hB := hB.trans hq.below
  clear hq

  go_wp2_with fail
  refine (over_popnil _).mono ?_; rintro e w10 ⟨rfl, hq⟩
  have hB := hB.trans hq.below
  clear hq

  go_wp2_with fail
  refine (empty_nil _).mono ?_; rintro e w10 ⟨rfl, hq⟩
  have hB := hB.trans hq.below
  clear hq

  go_wp2_with fail
  refine (value_nil _).mono ?_; rintro e w10 ⟨rfl, hq⟩
  have hB := hB.trans hq.below
  clear hq

  go_wp2
  all_goals
    go_ret
    exact ⟨rfl, hB⟩

set_option maxRecDepth 100000 in
set_option maxHeartbeats 4000000 in
theorem rnils_high (P T R t v : Int) (w : World) (hx : exB P T R t = false) (hr : rightB P T R = true) (hT0 : 0 ≤ t) (hT1 : T ≤ t) :
    Calls Try.prog 7 #[.agg #[.int .i64 P, .int .i64 T, .int .i64 R], .int .i64 t, .int .u64 v] w fun e w' => e = .returned (.bool true) ∧ Below w.heap.size w w' := by
  have NP := Lib.hid (fun W => newpush_no P T R t v W (.inl hx))
  have NO := Lib.hid (fun W => newpop_no P T R t W hx)
  have WT := Lib.hid (fun W x => waiting_no x P T R t W hx)
  have V := Lib.hid (fun W => rright_any P T R W)
  rw [hr] at V
  have hT2 : ¬ t < T := by omega
  clear hx hr
  go_enter Try.func7, Try.ntmps7
  have c0 := (planNew w P T R 26)
  go_wp2_with fail
  refine (V.out _).mono ?_; rintro e w1 ⟨rfl, hb1⟩
  have c1 := planKeep c0 hb1
  obtain ⟨d10, d11, d12⟩ := c1.1
  clear c0 hb1
  go_wp2_with fail
  refine (rplan_any P T R _).mono ?_; rintro e w2 ⟨rfl, hb2⟩
  have c2 := planKeep c1 hb2
  obtain ⟨d20, d21, d22⟩ := c2.1
  clear c1 hb2 d10 d11 d12
  go_wp2_with fail
  refine (NP.out _).mono ?_; rintro e w3 ⟨rfl, hb3⟩
  have c3 := planKeep c2 hb3
  obtain ⟨d30, d31, d32⟩ := c3.1
  clear c2 hb3 d20 d21 d22
  go_wp2_with fail
  refine (rplan_any P T R _).mono ?_; rintro e w4 ⟨rfl, hb4⟩
  have c4 := planKeep c3 hb4
  obtain ⟨d40, d41, d42⟩ := c4.1
  clear c3 hb4 d30 d31 d32
  go_wp2_with fail
  refine (NO.out _).mono ?_; rintro e w5 ⟨rfl, hb5⟩
  have c5 := planKeep c4 hb5
  obtain ⟨d50, d51, d52⟩ := c5.1
  clear c4 hb5 d40 d41 d42
  go_wp2_with fail
  refine (new_yes 1 false _ (by decide) (by decide)).mono ?_; rintro e w6 ⟨a, c, rfl, hA6, ha, hc, hb6⟩
  have c6 := planKeep c5 hb6
  obtain ⟨d60, d61, d62⟩ := c6.1
  clear c5 hb6 d50 d51 d52
  go_wp2_with fail
  refine (rplan_any P T R _).mono ?_; rintro e w7 ⟨rfl, hb7⟩
  have c7 := planKeep c6 hb7
  have hA7 := hA6.grew hb7
  clear c6 hb7 d60 d61 d62 hA6
  go_wp2_with fail
  refine (WT.out _ (some ⟨a, 0, none⟩)).mono ?_; rintro e w8 ⟨rfl, hb8⟩
  have c8 := planKeep c7 hb8
  clear c7 hb8 hA7
  go_wp2_with fail
  refine (ringed_any _).mono ?_; rintro e w9 ⟨rfl, hb9⟩
  have hB := (planKeep c8 hb9).2
  clear c8 hb9

  go_wp2_with fail
  refine (step_pushnil none _).mono ?_; rintro e w10 ⟨rfl, hq⟩
  have hB := hB.trans hq.below
  clear hq

  go_wp2_with fail
  refine (over_pushnil _).mono ?_; rintro e w10 ⟨rfl, hq⟩
  have hB := hB.trans hq.below
  clear hq

  go_wp2_with fail
  refine (full_nil _).mono ?_; rintro e w10 ⟨rfl, hq⟩
  have hB := hB.trans hq.below
  clear hq

  go_wp2_with fail
  refine (step_popnil none _).mono ?_; rintro e w10 ⟨rfl, hq⟩
  have hB := hB.trans hq.below
  clear hq

  go_wp2_with fail
  refine (over_popnil _).mono ?_; rintro e w10 ⟨rfl, hq⟩
  have hB := hB.trans hq.below
  clear hq

  go_wp2_with fail
  refine (empty_nil _).mono ?_; rintro e w10 ⟨rfl, hq⟩
  have hB := hB.trans hq.below
  clear hq

  go_wp2_with fail
  refine (value_nil _).mono ?_; rintro e w10 ⟨rfl, hq⟩
  have hB := hB.trans hq.below
  clear hq

  go_wp2
  all_goals
    go_ret
    exact ⟨rfl, hB⟩

theorem rnils_law (P T R t v : Int) (w : World) (_h1 : (Lit.int .i64 P).wf = true) (_h2 : (Lit.int .i64 T).wf = true) (_h3 : (Lit.int .i64 R).wf = true) (_h4 : (Lit.int .i64 t).wf = true) (_h5 : (Lit.int .u64 v).wf = true) :
    Calls Try.prog 7 #[.agg #[.int .i64 P, .int .i64 T, .int .i64 R], .int .i64 t, .int .u64 v] w fun e w' => e = .returned (.bool true) ∧ Below w.heap.size w w' := by
  by_cases hx : exB P T R t = true
  · by_cases hv : v = 0
    · exact rnils_zero P T R t v w hx hv
    · exact rnils_yes P T R t v w hx hv
  · have hx' := Bool.not_eq_true _ |>.mp hx
    by_cases hr : rightB P T R = true
    · by_cases h0 : t < 0
      · exact rnils_low P T R t v w hx' hr h0
      · refine rnils_high P T R t v w hx' hr (by omega) ?_
        by_cases h1 : T ≤ t
        · exact h1
        · exfalso
          apply hx
          unfold exB
          rw [hr]
          unfold inB
          exact decide_eq_true (by omega)
    · exact rnils_bad P T R t v w hx' (Bool.not_eq_true _ |>.mp hr)
end Go.Proofs.Ytgcahbgapojimaa
