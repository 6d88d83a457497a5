/- Package sizes: Fills, and the document's; the laws' small check. No condition but that the tables lie as the start lays them. -/
import Derived.Test.YtedehigncipopaaDoorFirst
namespace Go.Proofs.YtedehigncipopaaDoor
open Go.RowKit
set_option linter.unusedVariables false
set_option maxHeartbeats 1000000 in
theorem fills_any (n p : Int) (w : World) (hW : Wid w) :
    Calls Tryd.prog 24 #[.int .i64 n, .int .i64 p] w fun e w' => e = .returned (.tuple #[.int .i64 (flV n p), .int .i64 (flE n p)]) ∧ Below w.heap.size w w' := by
  have P := Lib.hid (fun W => pages_any n W)
  by_cases h1 : n < 1
  · obtain ⟨e1, e2⟩ := pg_low n h1
    have e3 : flV n p = 0 := by unfold flV; rw [if_pos h1]
    have e4 : flE n p = 1 := by unfold flE; rw [if_pos h1]
    rw [e1, e2] at P
    rw [e3, e4]; clear e1 e2 e3 e4
    go_enter Tryd.func24, Tryd.ntmps24
    go_wp2_with fail
    refine (P.out _).mono ?_
    rintro e w2 ⟨rfl, hw2⟩
    obtain rfl := hw2.symm
    go_wp2; go_ret2; exact ⟨rfl, Below.refl _ _⟩
  by_cases h2 : 256 < n
  · obtain ⟨e1, e2⟩ := pg_big n h2
    have e3 : flV n p = 0 := by unfold flV; rw [if_neg h1, if_pos h2]
    have e4 : flE n p = 3 := by unfold flE; rw [if_neg h1, if_pos h2]
    rw [e1, e2] at P
    rw [e3, e4]; clear e1 e2 e3 e4
    go_enter Tryd.func24, Tryd.ntmps24
    go_wp2_with fail
    refine (P.out _).mono ?_
    rintro e w2 ⟨rfl, hw2⟩
    obtain rfl := hw2.symm
    go_wp2; go_ret2; exact ⟨rfl, Below.refl _ _⟩
  have e5 : pgE n = 0 := by unfold pgE; rw [if_neg h1, if_neg h2]
  by_cases g1 : p < 0
  · have e3 : flV n p = 0 := by unfold flV; rw [if_neg h1, if_neg h2, if_pos (by omega)]
    have e4 : flE n p = 1 := by unfold flE; rw [if_neg h1, if_neg h2, if_pos (by omega)]
    rw [e5] at P
    rw [e3, e4]; clear e3 e4 e5
    generalize pgV n = q at *
    go_enter Tryd.func24, Tryd.ntmps24
    go_wp2_with fail
    refine (P.out _).mono ?_
    rintro e w2 ⟨rfl, hw2⟩
    obtain rfl := hw2.symm
    go_wp2; go_ret2; exact ⟨rfl, Below.refl _ _⟩
  by_cases g2 : 32 < p
  · have e3 : flV n p = 0 := by unfold flV; rw [if_neg h1, if_neg h2, if_pos (by omega)]
    have e4 : flE n p = 1 := by unfold flE; rw [if_neg h1, if_neg h2, if_pos (by omega)]
    rw [e5] at P
    rw [e3, e4]; clear e3 e4 e5
    generalize pgV n = q at *
    have g0 : 0 ≤ p := by omega
    go_enter Tryd.func24, Tryd.ntmps24
    go_wp2_with fail
    refine (P.out _).mono ?_
    rintro e w2 ⟨rfl, hw2⟩
    obtain rfl := hw2.symm
    go_wp2; go_ret2; exact ⟨rfl, Below.refl _ _⟩
  have e4 : flE n p = 0 := by unfold flE; rw [if_neg h1, if_neg h2, if_neg (by omega)]
  by_cases h3 : n ≤ 32
  · obtain ⟨e1, e2⟩ := pg_small n (by omega) h3
    have e3 : flV n p = p * ((numN (clV n) : Nat) : Int) := by unfold flV; rw [if_neg h1, if_neg h2, if_neg (by omega), if_pos h3]
    obtain ⟨e6, e7, e8⟩ := cl_in n (by omega) h3
    obtain ⟨j, hj, hj8⟩ := clsB_yes e7
    obtain ⟨n0, n1⟩ := num_bd (clV n)
    have C := Lib.hid (fun W (h : Wid W) => class_any n W h)
    have B := Lib.hid (fun W (h : Wid W) => cnum_any (clV n) W h)
    rw [e1, e2] at P
    rw [e6] at C
    rw [e8] at B
    rw [e3, e4]
    clear e1 e2 e3 e4 e5 e6 e7 e8 hj
    have hm : 0 ≤ p * ((numN (clV n) : Nat) : Int) ∧ p * ((numN (clV n) : Nat) : Int) ≤ 1024 := ⟨Int.mul_nonneg (by omega) n0, Int.le_trans (Int.mul_le_mul (show p ≤ 32 by omega) n1 n0 (by omega)) (by omega)⟩
    have hw : wrap64 (p * ((numN (clV n) : Nat) : Int)) = p * ((numN (clV n) : Nat) : Int) := IntWalk.wrap64_in _ ⟨by omega, by omega⟩
    generalize numN (clV n) = N at *
    generalize clV n = c at *
    go_enter Tryd.func24, Tryd.ntmps24
    go_wp2_with fail
    refine (P.out _).mono ?_
    rintro e w2 ⟨rfl, hw2⟩
    obtain rfl := hw2.symm
    go_wp2_with fail
    refine (C.out _ hW).mono ?_
    rintro e w3 ⟨rfl, hw3⟩
    obtain rfl := hw3.symm
    go_wp2_with fail
    refine (B.out _ hW).mono ?_
    rintro e w4 ⟨rfl, hb4⟩
    go_wp2; go_ret2; exact ⟨ret_two (by first | rfl | exact hw) rfl, hb4⟩
  · obtain ⟨e1, e2⟩ := pg_mid n (by omega) (by omega)
    have e3 : flV n p = p / ((n + 63) / 64) := by unfold flV; rw [if_neg h1, if_neg h2, if_neg (by omega), if_neg h3]
    rw [e1, e2] at P
    rw [e3, e4]; clear e1 e2 e3 e4 e5
    have q1 : 1 ≤ (n + 63) / 64 := by omega
    have q2 : (n + 63) / 64 ≤ 4 := by omega
    generalize (n + 63) / 64 = q at *
    have hd : p.tdiv q = p / q := Int.tdiv_eq_ediv_of_nonneg (by omega)
    have hq0 : 0 ≤ p / q := Int.ediv_nonneg (by omega) (by omega)
    have hq1 : p / q ≤ p := Int.ediv_le_self _ (by omega)
    have hw : wrap64 (p / q) = p / q := IntWalk.wrap64_in _ ⟨by omega, by omega⟩
    have hz : (q == 0) = false := by simp; omega
    go_enter Tryd.func24, Tryd.ntmps24
    go_wp2_with fail
    refine (P.out _).mono ?_
    rintro e w2 ⟨rfl, hw2⟩
    obtain rfl := hw2.symm
    go_wp2; go_ret2; exact ⟨ret_two (by first | rfl | exact hw | rw [hd, hw] | rw [hd]) rfl, Below.refl _ _⟩
set_option maxHeartbeats 1000000 in
theorem rfills_any (n p : Int) (w : World) :
    Calls Tryd.prog 25 #[.int .i64 n, .int .i64 p] w fun e w' => e = .returned (.tuple #[.int .i64 (flV n p), .int .i64 (flE n p)]) ∧ Below w.heap.size w w' := by
  have P := Lib.hid (fun W => rpages_any n W)
  by_cases h1 : n < 1
  · obtain ⟨e1, e2⟩ := pg_low n h1
    have e3 : flV n p = 0 := by unfold flV; rw [if_pos h1]
    have e4 : flE n p = 1 := by unfold flE; rw [if_pos h1]
    rw [e1, e2] at P
    rw [e3, e4]; clear e1 e2 e3 e4
    go_enter Tryd.func25, Tryd.ntmps25
    go_wp2_with fail
    refine (P.out _).mono ?_
    rintro e w2 ⟨rfl, hw2⟩
    obtain rfl := hw2.symm
    go_wp2; go_ret2; exact ⟨rfl, Below.refl _ _⟩
  by_cases h2 : 256 < n
  · obtain ⟨e1, e2⟩ := pg_big n h2
    have e3 : flV n p = 0 := by unfold flV; rw [if_neg h1, if_pos h2]
    have e4 : flE n p = 3 := by unfold flE; rw [if_neg h1, if_pos h2]
    rw [e1, e2] at P
    rw [e3, e4]; clear e1 e2 e3 e4
    go_enter Tryd.func25, Tryd.ntmps25
    go_wp2_with fail
    refine (P.out _).mono ?_
    rintro e w2 ⟨rfl, hw2⟩
    obtain rfl := hw2.symm
    go_wp2; go_ret2; exact ⟨rfl, Below.refl _ _⟩
  have e5 : pgE n = 0 := by unfold pgE; rw [if_neg h1, if_neg h2]
  by_cases g1 : p < 0
  · have e3 : flV n p = 0 := by unfold flV; rw [if_neg h1, if_neg h2, if_pos (by omega)]
    have e4 : flE n p = 1 := by unfold flE; rw [if_neg h1, if_neg h2, if_pos (by omega)]
    rw [e5] at P
    rw [e3, e4]; clear e3 e4 e5
    generalize pgV n = q at *
    go_enter Tryd.func25, Tryd.ntmps25
    go_wp2_with fail
    refine (P.out _).mono ?_
    rintro e w2 ⟨rfl, hw2⟩
    obtain rfl := hw2.symm
    go_wp2; go_ret2; exact ⟨rfl, Below.refl _ _⟩
  by_cases g2 : 32 < p
  · have e3 : flV n p = 0 := by unfold flV; rw [if_neg h1, if_neg h2, if_pos (by omega)]
    have e4 : flE n p = 1 := by unfold flE; rw [if_neg h1, if_neg h2, if_pos (by omega)]
    rw [e5] at P
    rw [e3, e4]; clear e3 e4 e5
    generalize pgV n = q at *
    have g0 : 0 ≤ p := by omega
    go_enter Tryd.func25, Tryd.ntmps25
    go_wp2_with fail
    refine (P.out _).mono ?_
    rintro e w2 ⟨rfl, hw2⟩
    obtain rfl := hw2.symm
    go_wp2; go_ret2; exact ⟨rfl, Below.refl _ _⟩
  have e4 : flE n p = 0 := by unfold flE; rw [if_neg h1, if_neg h2, if_neg (by omega)]
  by_cases h3 : n ≤ 32
  · obtain ⟨e1, e2⟩ := pg_small n (by omega) h3
    have e3 : flV n p = p * ((numN (clV n) : Nat) : Int) := by unfold flV; rw [if_neg h1, if_neg h2, if_neg (by omega), if_pos h3]
    obtain ⟨e6, e7, e8⟩ := cl_in n (by omega) h3
    obtain ⟨j, hj, hj8⟩ := clsB_yes e7
    obtain ⟨n0, n1⟩ := num_bd (clV n)
    have C := Lib.hid (fun W => rclass_any n W)
    have B := Lib.hid (fun W => begins_some j hj8 W)
    rw [e1, e2] at P
    rw [e6, hj] at C
    have hN := (cls_nat j hj8).2.2.1
    rw [e3, e4, hj, hN]
    rw [hj, hN] at n0 n1
    clear e1 e2 e3 e4 e5 e6 e7 e8 hj hN
    have hm : 0 ≤ p * ((numF j : Nat) : Int) ∧ p * ((numF j : Nat) : Int) ≤ 1024 := ⟨Int.mul_nonneg (by omega) n0, Int.le_trans (Int.mul_le_mul (show p ≤ 32 by omega) n1 n0 (by omega)) (by omega)⟩
    have hw : wrap64 (p * ((numF j : Nat) : Int)) = p * ((numF j : Nat) : Int) := IntWalk.wrap64_in _ ⟨by omega, by omega⟩
    generalize numF j = N at *
    go_enter Tryd.func25, Tryd.ntmps25
    go_wp2_with fail
    refine (P.out _).mono ?_
    rintro e w2 ⟨rfl, hw2⟩
    obtain rfl := hw2.symm
    go_wp2_with fail
    refine (C.out _).mono ?_
    rintro e w3 ⟨rfl, hb3⟩
    go_wp2_with fail
    refine (B.out _).mono ?_
    rintro e w4 ⟨b, o, k, rfl, hc, hb4⟩
    clear hc
    go_wp2; go_ret2; exact ⟨ret_two (by first | rfl | exact hw) rfl, hb3.trans (hb4.mono hb3.size)⟩
  · obtain ⟨e1, e2⟩ := pg_mid n (by omega) (by omega)
    have e3 : flV n p = p / ((n + 63) / 64) := by unfold flV; rw [if_neg h1, if_neg h2, if_neg (by omega), if_neg h3]
    rw [e1, e2] at P
    rw [e3, e4]; clear e1 e2 e3 e4 e5
    have q1 : 1 ≤ (n + 63) / 64 := by omega
    have q2 : (n + 63) / 64 ≤ 4 := by omega
    generalize (n + 63) / 64 = q at *
    have hd : p.tdiv q = p / q := Int.tdiv_eq_ediv_of_nonneg (by omega)
    have hq0 : 0 ≤ p / q := Int.ediv_nonneg (by omega) (by omega)
    have hq1 : p / q ≤ p := Int.ediv_le_self _ (by omega)
    have hw : wrap64 (p / q) = p / q := IntWalk.wrap64_in _ ⟨by omega, by omega⟩
    have hz : (q == 0) = false := by simp; omega
    go_enter Tryd.func25, Tryd.ntmps25
    go_wp2_with fail
    refine (P.out _).mono ?_
    rintro e w2 ⟨rfl, hw2⟩
    obtain rfl := hw2.symm
    go_wp2; go_ret2; exact ⟨ret_two (by first | rfl | exact hw | rw [hd, hw] | rw [hd]) rfl, Below.refl _ _⟩

set_option maxHeartbeats 400000 in
theorem sized_any (w : World) (hT : Tbs w) :
    Calls Tryd.prog 16 #[] w fun e w' => e = .returned (.bool true) ∧ Below w.heap.size w w' := by
  have C := Lib.hid (fun W (h : Wid W) => class_any 5 W h)
  have N := Lib.hid (fun W (h : Wid W) => cnum_any 1 W h)
  have F := Lib.hid (fun W (h : Tbs W) => first_any 7 1 0 W h ⟨by decide, by decide⟩)
  rw [show clV 5 = 3 from by decide, show clE 5 = 0 from by decide] at C
  rw [show ((numN 1 : Nat) : Int) = 21 from by decide, show errI 1 = 0 from by decide] at N
  rw [show firstI 7 1 0 = 32 from by decide +kernel] at F
  go_enter Tryd.func16, Tryd.ntmps16
  go_wp2_with fail
  refine (C.out _ hT.wid).mono ?_
  rintro e w2 ⟨rfl, hw2⟩
  obtain rfl := hw2.symm
  go_wp2_with fail
  refine (N.out _ hT.wid).mono ?_
  rintro e w3 ⟨rfl, hb3⟩
  go_wp2_with fail
  refine (F.out _ (hT.grew hb3)).mono ?_
  rintro e w4 ⟨rfl, hb4⟩
  go_wp2
  go_ret
  exact ⟨rfl, hb3.trans (hb4.mono hb3.size)⟩
end Go.Proofs.YtedehigncipopaaDoor
