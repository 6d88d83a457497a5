/- The laws SizesLeast and SizesRounds: the walks. No condition but that the tables lie as the start lays them. -/
import Derived.Test.YtedehigncipopaaDoorSizl
namespace Go.Proofs.YtedehigncipopaaDoor
open Go.RowKit
set_option linter.unusedVariables false

theorem mod_lit (x k : Int) (h0 : 0 < k) (h1 : k ≤ 1000000) : 0 ≤ wrap64 ((IntKind.u64.wrap x).tmod k) ∧ wrap64 ((IntKind.u64.wrap x).tmod k) < k := by
  have hw : 0 ≤ IntKind.u64.wrap x := by rw [IntKind.wrap_u64]; omega
  generalize IntKind.u64.wrap x = y at *
  have e : y.tmod k = y % k := by rw [Int.tmod_eq_emod_of_nonneg hw]
  have h2 : 0 ≤ y % k := Int.emod_nonneg _ (by omega)
  have h3 : y % k < k := Int.emod_lt_of_pos _ (by omega)
  rw [e]
  generalize y % k = z at *
  rw [IntWalk.wrap64_in z ⟨by omega, by omega⟩]
  exact ⟨h2, h3⟩

theorem least_facts : ∀ k : Fin 32, clE (1 + ((k.val : Nat) : Int)) = 0 ∧ 0 ≤ clV (1 + ((k.val : Nat) : Int)) ∧ clV (1 + ((k.val : Nat) : Int)) ≤ 7 ∧ errI (clV (1 + ((k.val : Nat) : Int))) = 0 ∧ 1 + ((k.val : Nat) : Int) ≤ widI (clV (1 + ((k.val : Nat) : Int))) ∧
    (0 < clV (1 + ((k.val : Nat) : Int)) → errI (clV (1 + ((k.val : Nat) : Int)) - 1) = 0 ∧ widI (clV (1 + ((k.val : Nat) : Int)) - 1) < 1 + ((k.val : Nat) : Int)) := by decide +kernel
theorem least_mono : ∀ a b : Fin 32, a.val ≤ b.val → clV (1 + ((a.val : Nat) : Int)) ≤ clV (1 + ((b.val : Nat) : Int)) := by decide +kernel

set_option maxHeartbeats 1000000 in
theorem least_law (a b : Int) (w : World) (w0 : (Lit.int .i64 a).wf = true) (w1 : (Lit.int .i64 b).wf = true) (hTab : Tab w) (hWid : Wid w) :
    Calls Tryd.prog 7 #[.int .i64 a, .int .i64 b] w fun e w' => e = .returned (.bool true) ∧ Below w.heap.size w w' := by
  have hT : Tbs w := ⟨hTab, hWid⟩
  obtain ⟨Ma, hMa⟩ : ∃ M : Nat, wrap64 ((IntKind.u64.wrap a).tmod 32) = (M : Int) := ⟨(wrap64 ((IntKind.u64.wrap a).tmod 32)).toNat, by have := mod_lit a 32 (by decide) (by decide); omega⟩
  obtain ⟨Mb, hMb⟩ : ∃ M : Nat, wrap64 ((IntKind.u64.wrap b).tmod 32) = (M : Int) := ⟨(wrap64 ((IntKind.u64.wrap b).tmod 32)).toNat, by have := mod_lit b 32 (by decide) (by decide); omega⟩
  have la := mod_lit a 32 (by decide) (by decide)
  have lb := mod_lit b 32 (by decide) (by decide)
  rw [hMa] at la
  rw [hMb] at lb
  obtain ⟨a1, a2, a3, a4, a5, a6⟩ := least_facts ⟨Ma, by omega⟩
  obtain ⟨b1, _, _, _, _, _⟩ := least_facts ⟨Mb, by omega⟩
  have hmo : Ma ≤ Mb → clV (1 + ((Ma : Nat) : Int)) ≤ clV (1 + ((Mb : Nat) : Int)) := least_mono ⟨Ma, by omega⟩ ⟨Mb, by omega⟩
  simp only at a1 a2 a3 a4 a5 a6 b1
  have A := Lib.hid (fun W (h : Wid W) => class_any (1 + ((Ma : Nat) : Int)) W h)
  have B := Lib.hid (fun W (h : Wid W) => class_any (1 + ((Mb : Nat) : Int)) W h)
  have C := Lib.hid (fun W (h : Wid W) => words_any (clV (1 + ((Ma : Nat) : Int))) W h)
  have D := Lib.hid (fun W (h : Wid W) => words_any (clV (1 + ((Ma : Nat) : Int)) - 1) W h)
  rw [a1] at A
  rw [b1] at B
  rw [a4] at C
  clear a1 b1 a4
  generalize clV (1 + ((Ma : Nat) : Int)) = x at *
  generalize clV (1 + ((Mb : Nat) : Int)) = y at *
  generalize widI x = q at *
  have a5' : ¬ q < 1 + ((Ma : Nat) : Int) := by omega
  clear a5
  have S := Lib.hid (fun W (h : Tbs W) => sized_any W h)
  have main : ∀ (hle : ((Ma : Nat) : Int) ≤ ((Mb : Nat) : Int) ∨ ¬ ((Ma : Nat) : Int) ≤ ((Mb : Nat) : Int)) , Calls Tryd.prog 7 #[.int .i64 a, .int .i64 b] w fun e w' => e = .returned (.bool true) ∧ Below w.heap.size w w' := by
    intro hle
    rcases hle with hle | hle
    · have h1 : 1 + ((Ma : Nat) : Int) ≤ 1 + ((Mb : Nat) : Int) := by omega
      have h2 : ¬ y < x := by have := hmo (by omega); omega
      clear hle hmo
      by_cases hx : 0 < x
      · obtain ⟨a7, a8⟩ := a6 hx
        rw [a7] at D
        have hw : wrap64 (x - 1) = x - 1 := IntWalk.wrap64_in _ ⟨by omega, by omega⟩
        clear a6 a7
        generalize widI (x - 1) = z at *
        go_enter Tryd.func7, Tryd.ntmps7
        go_wp2_with fail
        refine (A.out _ hWid).mono ?_
        rintro e w1 ⟨rfl, hw1⟩
        obtain rfl := hw1.symm
        go_wp2_with fail
        refine (B.out _ hWid).mono ?_
        rintro e w2 ⟨rfl, hw2⟩
        obtain rfl := hw2.symm
        go_wp2_with fail
        refine (C.out _ hWid).mono ?_
        rintro e w3 ⟨rfl, hw3⟩
        obtain rfl := hw3.symm
        go_wp2_with fail
        refine (S.out _ hT).mono ?_
        rintro e w4 ⟨rfl, hb4⟩
        go_wp2_with fail
        refine (D.out _ (hT.grew hb4).wid).mono ?_
        rintro e w5 ⟨rfl, hw5⟩
        obtain rfl := hw5.symm
        go_wp2
        go_ret
        exact ⟨rfl, hb4⟩
      · clear a6
        go_enter Tryd.func7, Tryd.ntmps7
        go_wp2_with fail
        refine (A.out _ hWid).mono ?_
        rintro e w1 ⟨rfl, hw1⟩
        obtain rfl := hw1.symm
        go_wp2_with fail
        refine (B.out _ hWid).mono ?_
        rintro e w2 ⟨rfl, hw2⟩
        obtain rfl := hw2.symm
        go_wp2_with fail
        refine (C.out _ hWid).mono ?_
        rintro e w3 ⟨rfl, hw3⟩
        obtain rfl := hw3.symm
        go_wp2_with fail
        refine (S.out _ hT).mono ?_
        rintro e w4 ⟨rfl, hb4⟩
        go_wp2
        go_ret
        exact ⟨rfl, hb4⟩
    · have h1 : ¬ 1 + ((Ma : Nat) : Int) ≤ 1 + ((Mb : Nat) : Int) := by omega
      clear hle hmo
      by_cases hx : 0 < x
      · obtain ⟨a7, a8⟩ := a6 hx
        rw [a7] at D
        have hw : wrap64 (x - 1) = x - 1 := IntWalk.wrap64_in _ ⟨by omega, by omega⟩
        clear a6 a7
        generalize widI (x - 1) = z at *
        go_enter Tryd.func7, Tryd.ntmps7
        go_wp2_with fail
        refine (A.out _ hWid).mono ?_
        rintro e w1 ⟨rfl, hw1⟩
        obtain rfl := hw1.symm
        go_wp2_with fail
        refine (B.out _ hWid).mono ?_
        rintro e w2 ⟨rfl, hw2⟩
        obtain rfl := hw2.symm
        go_wp2_with fail
        refine (C.out _ hWid).mono ?_
        rintro e w3 ⟨rfl, hw3⟩
        obtain rfl := hw3.symm
        go_wp2_with fail
        refine (S.out _ hT).mono ?_
        rintro e w4 ⟨rfl, hb4⟩
        go_wp2_with fail
        refine (D.out _ (hT.grew hb4).wid).mono ?_
        rintro e w5 ⟨rfl, hw5⟩
        obtain rfl := hw5.symm
        go_wp2
        go_ret
        exact ⟨rfl, hb4⟩
      · clear a6
        go_enter Tryd.func7, Tryd.ntmps7
        go_wp2_with fail
        refine (A.out _ hWid).mono ?_
        rintro e w1 ⟨rfl, hw1⟩
        obtain rfl := hw1.symm
        go_wp2_with fail
        refine (B.out _ hWid).mono ?_
        rintro e w2 ⟨rfl, hw2⟩
        obtain rfl := hw2.symm
        go_wp2_with fail
        refine (C.out _ hWid).mono ?_
        rintro e w3 ⟨rfl, hw3⟩
        obtain rfl := hw3.symm
        go_wp2_with fail
        refine (S.out _ hT).mono ?_
        rintro e w4 ⟨rfl, hb4⟩
        go_wp2
        go_ret
        exact ⟨rfl, hb4⟩
  exact main (Classical.em _)

theorem rounds_facts : ∀ k : Fin 32, clE (1 + ((k.val : Nat) : Int)) = 0 ∧ errI (clV (1 + ((k.val : Nat) : Int))) = 0 ∧ 1 + ((k.val : Nat) : Int) ≤ widI (clV (1 + ((k.val : Nat) : Int))) ∧ ((numN (clV (1 + ((k.val : Nat) : Int))) : Nat) : Int) * widI (clV (1 + ((k.val : Nat) : Int))) ≤ 64 ∧
    0 ≤ ((numN (clV (1 + ((k.val : Nat) : Int))) : Nat) : Int) * widI (clV (1 + ((k.val : Nat) : Int))) := by decide +kernel

set_option maxHeartbeats 1000000 in
theorem rounds_law (n p : Int) (w : World) (w0 : (Lit.int .i64 n).wf = true) (w1 : (Lit.int .i64 p).wf = true) (hTab : Tab w) (hWid : Wid w) :
    Calls Tryd.prog 9 #[.int .i64 n, .int .i64 p] w fun e w' => e = .returned (.bool true) ∧ Below w.heap.size w w' := by
  have hT : Tbs w := ⟨hTab, hWid⟩
  obtain ⟨M, hM⟩ : ∃ M : Nat, wrap64 ((IntKind.u64.wrap n).tmod 256) = (M : Int) := ⟨(wrap64 ((IntKind.u64.wrap n).tmod 256)).toNat, by have := mod_lit n 256 (by decide) (by decide); omega⟩
  obtain ⟨P, hP⟩ : ∃ M : Nat, wrap64 ((IntKind.u64.wrap p).tmod 33) = (M : Int) := ⟨(wrap64 ((IntKind.u64.wrap p).tmod 33)).toNat, by have := mod_lit p 33 (by decide) (by decide); omega⟩
  have lM := mod_lit n 256 (by decide) (by decide)
  have lP := mod_lit p 33 (by decide) (by decide)
  rw [hM] at lM
  rw [hP] at lP
  have A := Lib.hid (fun W (h : Wid W) => rounds_any (1 + ((M : Nat) : Int)) W h)
  have B := Lib.hid (fun W (h : Wid W) => fills_any (1 + ((M : Nat) : Int)) ((P : Nat) : Int) W h)
  have C := Lib.hid (fun W => pages_any (1 + ((M : Nat) : Int)) W)
  have S := Lib.hid (fun W (h : Tbs W) => sized_any W h)
  have eE : pgE (1 + ((M : Nat) : Int)) = 0 := by unfold pgE; rw [if_neg (by omega), if_neg (by omega)]
  have eF : flE (1 + ((M : Nat) : Int)) ((P : Nat) : Int) = 0 := by unfold flE; rw [if_neg (by omega), if_neg (by omega), if_neg (by omega)]
  rw [eE] at A C
  rw [eF] at B
  by_cases h3 : 1 + ((M : Nat) : Int) ≤ 32
  · have e1 : pgV (1 + ((M : Nat) : Int)) = 0 := (pg_small _ (by omega) h3).1
    have e2 : rdV (1 + ((M : Nat) : Int)) = widI (clV (1 + ((M : Nat) : Int))) := by unfold rdV; rw [if_neg (by omega), if_neg (by omega), if_pos h3]
    have e3 : flV (1 + ((M : Nat) : Int)) ((P : Nat) : Int) = ((P : Nat) : Int) * ((numN (clV (1 + ((M : Nat) : Int))) : Nat) : Int) := by unfold flV; rw [if_neg (by omega), if_neg (by omega), if_neg (by omega), if_pos h3]
    obtain ⟨a1, a2, a3, a4, a5⟩ := rounds_facts ⟨M, by omega⟩
    simp only at a1 a2 a3 a4 a5
    have D := Lib.hid (fun W (h : Wid W) => class_any (1 + ((M : Nat) : Int)) W h)
    have E := Lib.hid (fun W (h : Wid W) => cnum_any (clV (1 + ((M : Nat) : Int))) W h)
    obtain ⟨n0, n1⟩ := num_bd (clV (1 + ((M : Nat) : Int)))
    rw [e1] at C
    rw [e2] at A
    rw [e3] at B
    rw [a1] at D
    rw [a2] at E
    clear e1 e2 e3 a1 a2 eE eF
    generalize widI (clV (1 + ((M : Nat) : Int))) = q at *
    generalize numN (clV (1 + ((M : Nat) : Int))) = N at *
    generalize clV (1 + ((M : Nat) : Int)) = c at *
    have hm : 0 ≤ ((P : Nat) : Int) * ((N : Nat) : Int) ∧ ((P : Nat) : Int) * ((N : Nat) : Int) ≤ 1056 := ⟨Int.mul_nonneg (by omega) (by omega), Int.le_trans (Int.mul_le_mul (show ((P : Nat) : Int) ≤ 32 by omega) n1 n0 (by omega)) (by omega)⟩
    have hw1 : wrap64 (((N : Nat) : Int) * ((P : Nat) : Int)) = ((P : Nat) : Int) * ((N : Nat) : Int) := by rw [Int.mul_comm]; exact IntWalk.wrap64_in _ ⟨by omega, by omega⟩
    have hw2 : wrap64 (((N : Nat) : Int) * q) = ((N : Nat) : Int) * q := IntWalk.wrap64_in _ ⟨by omega, by omega⟩
    have a3' : ¬ q < 1 + ((M : Nat) : Int) := by omega
    generalize ((P : Nat) : Int) * ((N : Nat) : Int) = K at *
    go_enter Tryd.func9, Tryd.ntmps9
    go_wp2_with fail
    refine (A.out _ hWid).mono ?_
    rintro e w1 ⟨rfl, hw1'⟩
    obtain rfl := hw1'.symm
    go_wp2_with fail
    refine (B.out _ hWid).mono ?_
    rintro e w2 ⟨rfl, hb2⟩
    go_wp2_with fail
    refine (C.out _).mono ?_
    rintro e w3 ⟨rfl, hw3⟩
    obtain rfl := hw3.symm
    go_wp2_with fail
    refine (S.out _ (hT.grew hb2)).mono ?_
    rintro e w4 ⟨rfl, hb4⟩
    have hb4 := hb2.trans (hb4.mono hb2.size)
    as_aux_lemma =>
    go_wp2_with fail
    refine (D.out _ (hT.grew hb4).wid).mono ?_
    rintro e w5 ⟨rfl, hw5⟩
    obtain rfl := hw5.symm
    go_wp2_with fail
    refine (E.out _ (hT.grew hb4).wid).mono ?_
    rintro e w6 ⟨rfl, hb6⟩
    have hb6 := hb4.trans (hb6.mono hb4.size)
    go_wp2
    go_ret
    exact ⟨rfl, hb6⟩
  · have e1 : pgV (1 + ((M : Nat) : Int)) = (1 + ((M : Nat) : Int) + 63) / 64 := (pg_mid _ (by omega) (by omega)).1
    have e2 : rdV (1 + ((M : Nat) : Int)) = (1 + ((M : Nat) : Int) + 63) / 64 * 64 := by unfold rdV; rw [if_neg (by omega), if_neg (by omega), if_neg h3]
    have e3 : flV (1 + ((M : Nat) : Int)) ((P : Nat) : Int) = ((P : Nat) : Int) / ((1 + ((M : Nat) : Int) + 63) / 64) := by unfold flV; rw [if_neg (by omega), if_neg (by omega), if_neg (by omega), if_neg h3]
    rw [e1] at C
    rw [e2] at A
    rw [e3] at B
    have q1 : 1 ≤ (1 + ((M : Nat) : Int) + 63) / 64 := by omega
    have q2 : (1 + ((M : Nat) : Int) + 63) / 64 ≤ 4 := by omega
    have q3 : ¬ (1 + ((M : Nat) : Int) + 63) / 64 * 64 < 1 + ((M : Nat) : Int) := by omega
    have q4 : 64 * ((1 + ((M : Nat) : Int) + 63) / 64 - 1) < 1 + ((M : Nat) : Int) := by omega
    clear e1 e2 e3 eE eF
    generalize (1 + ((M : Nat) : Int) + 63) / 64 = q at *
    have k1 : ((P : Nat) : Int) / q * q ≤ ((P : Nat) : Int) := Int.ediv_mul_le _ (by omega)
    have k2 : ((P : Nat) : Int) < (((P : Nat) : Int) / q + 1) * q := Int.lt_ediv_add_one_mul_self _ (by omega)
    have k0 : 0 ≤ ((P : Nat) : Int) / q := Int.ediv_nonneg (by omega) (by omega)
    have k3 : ((P : Nat) : Int) / q ≤ ((P : Nat) : Int) := Int.ediv_le_self _ (by omega)
    generalize ((P : Nat) : Int) / q = K at *
    have m0 : 0 ≤ K * q := Int.mul_nonneg k0 (by omega)
    have m1 : (K + 1) * q = K * q + q := by rw [Int.add_mul, Int.one_mul]
    have v1 : wrap64 (64 * q) = q * 64 := by rw [Int.mul_comm]; exact IntWalk.wrap64_in _ ⟨by omega, by omega⟩
    have v2 : wrap64 (K * q) = K * q := IntWalk.wrap64_in _ ⟨by omega, by omega⟩
    have v3 : wrap64 (K + 1) = K + 1 := IntWalk.wrap64_in _ ⟨by omega, by omega⟩
    have v4 : wrap64 ((K + 1) * q) = (K + 1) * q := IntWalk.wrap64_in _ ⟨by omega, by omega⟩
    have v5 : wrap64 (q - 1) = q - 1 := IntWalk.wrap64_in _ ⟨by omega, by omega⟩
    have v6 : wrap64 (64 * (q - 1)) = 64 * (q - 1) := IntWalk.wrap64_in _ ⟨by omega, by omega⟩
    clear m1
    go_enter Tryd.func9, Tryd.ntmps9
    go_wp2_with fail
    refine (A.out _ hWid).mono ?_
    rintro e w1 ⟨rfl, hw1'⟩
    obtain rfl := hw1'.symm
    go_wp2_with fail
    refine (B.out _ hWid).mono ?_
    rintro e w2 ⟨rfl, hb2⟩
    go_wp2_with fail
    refine (C.out _).mono ?_
    rintro e w3 ⟨rfl, hw3⟩
    obtain rfl := hw3.symm
    go_wp2_with fail
    refine (S.out _ (hT.grew hb2)).mono ?_
    rintro e w4 ⟨rfl, hb4⟩
    have hb4 := hb2.trans (hb4.mono hb2.size)
    as_aux_lemma =>
    go_wp2
    go_ret
    exact ⟨rfl, hb4⟩
end Go.Proofs.YtedehigncipopaaDoor
