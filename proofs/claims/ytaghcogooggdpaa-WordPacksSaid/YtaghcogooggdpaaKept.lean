/- The walk of the law WordKept: it returns true, whatever it is given. No condition but that each number fits its kind. -/
import Derived.Test.YtaghcogooggdpaaGap
import Derived.Test.YtaghcogooggdpaaRow
namespace Go.Proofs.Ytaghcogooggdpaa
open Go.RowKit

set_option maxHeartbeats 400000 in
theorem worded_any (w : World) : Calls Try.prog 11 #[] w fun e w' => e = .returned (.bool true) ∧ Quiet w w' := by
  have p := fun W => put_yes 0 4 4 15 W ⟨by decide, by decide⟩ (by decide) (by decide) (by decide)
  rw [show putI 0 4 4 15 = 240 by decide] at p
  have g := fun W => gap_any 9 2 W ⟨by decide, by decide⟩ (by decide)
  rw [show gapI 9 2 = 1 by decide] at g
  have P := Lib.hid p
  have G := Lib.hid g
  clear p g
  go_enter Try.func11, Try.ntmps11
  go_wp2_with (first | (go_at_call 12; refine (P.out _).mono ?_; rintro e w1 ⟨rfl, hq⟩) | (go_at_call 16; refine (G.out _).mono ?_; rintro e w2 ⟨rfl, hq2⟩))
  go_ret
  exact ⟨rfl, hq.trans hq2⟩

set_option maxHeartbeats 400000 in
theorem kept_walk (x a d v o : Int) (w : World) (hx : U64 x) (hv : U64 v) (ha : -9223372036854775808 ≤ a ∧ a ≤ 9223372036854775807) (hd : -9223372036854775808 ≤ d ∧ d ≤ 9223372036854775807) (ho : -9223372036854775808 ≤ o ∧ o ≤ 9223372036854775807) :
    Calls Try.prog 3 #[.agg #[.int .u64 x, .int .i64 a, .int .i64 d, .int .u64 v, .int .i64 o]] w fun e w' => e = .returned (.bool true) ∧ Below w.heap.size w w' := by
  cases hf : fldB a d with
  | false =>
    go_enter Try.func3, Try.ntmps3
    go_wp2
    go_quiet (fail)
    go_wp2_with (first | (go_at_call 11; refine (worded_any _).mono ?_; rintro e w1 ⟨rfl, hq⟩) | (go_at_call 12; refine (put_no _ _ _ _ _ hf).mono ?_; rintro e w2 ⟨rfl, hq2⟩))
    go_ret
    exact ⟨rfl, ((((Below.refl _ _).alloc (Nat.le_refl _) _).trans (Quiet.drew).below).trans hq.below).trans hq2.below⟩
  | true =>
    by_cases hm : maskI d < v
    · go_enter Try.func3, Try.ntmps3
      go_wp2
      go_quiet (fail)
      go_wp2_with (first | (go_at_call 11; refine (worded_any _).mono ?_; rintro e w1 ⟨rfl, hq⟩) | (go_at_call 12; refine (put_big _ _ _ _ _ hf hm).mono ?_; rintro e w2 ⟨rfl, hq2⟩))
      go_ret
      exact ⟨rfl, ((((Below.refl _ _).alloc (Nat.le_refl _) _).trans (Quiet.drew).below).trans hq.below).trans hq2.below⟩
    · have hm' : v ≤ maskI d := by omega
      have hy := putI_U64 x a d v hx hv.1 hf hm'
      have hg := getI_putI x a d v hx hv.1 hf hm'
      have hoth := getI_other x a d v o hx hv.1 hf hm'
      have hp := fun W => put_yes x a d v W hx hv.1 hf hm'
      have hf' := fldB_true hf
      have hgy := fun W => get_yes (putI x a d v) a d W hy hf
      rw [hg] at hgy
      generalize putI x a d v = y at *
      have P := Lib.hid hp
      have G := Lib.hid hgy
      clear hp hgy hg
      by_cases c0 : o < 0
      · clear hoth
        go_enter Try.func3, Try.ntmps3
        go_wp2
        go_quiet (fail)
        go_wp2_with (first | (go_at_call 11; refine (worded_any _).mono ?_; rintro e w1 ⟨rfl, hq⟩) | (go_at_call 12; refine (P.out _).mono ?_; rintro e w2 ⟨rfl, hq2⟩) | (go_at_call 13; refine (G.out _).mono ?_; rintro e w3 ⟨rfl, hq3⟩))
        go_ret
        exact ⟨rfl, ((((Below.refl _ _).alloc (Nat.le_refl _) _).trans (Quiet.drew).below).trans hq.below).trans (hq2.trans hq3).below⟩
      by_cases c1 : 63 < o
      · clear hoth
        go_enter Try.func3, Try.ntmps3
        go_wp2
        go_quiet (fail)
        go_wp2_with (first | (go_at_call 11; refine (worded_any _).mono ?_; rintro e w1 ⟨rfl, hq⟩) | (go_at_call 12; refine (P.out _).mono ?_; rintro e w2 ⟨rfl, hq2⟩) | (go_at_call 13; refine (G.out _).mono ?_; rintro e w3 ⟨rfl, hq3⟩))
        go_ret
        exact ⟨rfl, ((((Below.refl _ _).alloc (Nat.le_refl _) _).trans (Quiet.drew).below).trans hq.below).trans (hq2.trans hq3).below⟩
      by_cases c2 : o < a
      · have hoo := hoth (by omega) (by omega) (Or.inl c2)
        have hfo : fldB o 1 = true := fldB_mk (by omega)
        have go1 := fun W => get_yes x o 1 W hx hfo
        have go2 := fun W => get_yes y o 1 W hy hfo
        rw [hoo] at go2
        generalize getI x o 1 = z at *
        have G1 := Lib.hid go1
        have G2 := Lib.hid go2
        clear go1 go2 hoo hoth
        go_enter Try.func3, Try.ntmps3
        go_wp2
        go_quiet (fail)
        go_wp2_with (first | (go_at_call 11; refine (worded_any _).mono ?_; rintro e w1 ⟨rfl, hq⟩) | (go_at_call 12; refine (P.out _).mono ?_; rintro e w2 ⟨rfl, hq2⟩))
        refine (G.out _).mono ?_
        rintro e w3 ⟨rfl, hq3⟩
        go_wp2_with fail
        refine (G1.out _).mono ?_
        rintro e w4 ⟨rfl, hq4⟩
        go_wp2_with fail
        refine (G2.out _).mono ?_
        rintro e w5 ⟨rfl, hq5⟩
        go_wp2_with fail
        go_ret
        exact ⟨rfl, ((((Below.refl _ _).alloc (Nat.le_refl _) _).trans (Quiet.drew).below).trans hq.below).trans (((hq2.trans hq3).trans hq4).trans hq5).below⟩
      by_cases c3 : o - a < d
      · clear hoth
        go_enter Try.func3, Try.ntmps3
        go_wp2
        go_quiet (fail)
        go_wp2_with (first | (go_at_call 11; refine (worded_any _).mono ?_; rintro e w1 ⟨rfl, hq⟩) | (go_at_call 12; refine (P.out _).mono ?_; rintro e w2 ⟨rfl, hq2⟩) | (go_at_call 13; refine (G.out _).mono ?_; rintro e w3 ⟨rfl, hq3⟩))
        go_ret
        exact ⟨rfl, ((((Below.refl _ _).alloc (Nat.le_refl _) _).trans (Quiet.drew).below).trans hq.below).trans (hq2.trans hq3).below⟩
      · have hoo := hoth (by omega) (by omega) (Or.inr (by omega))
        have hfo : fldB o 1 = true := fldB_mk (by omega)
        have go1 := fun W => get_yes x o 1 W hx hfo
        have go2 := fun W => get_yes y o 1 W hy hfo
        rw [hoo] at go2
        generalize getI x o 1 = z at *
        have G1 := Lib.hid go1
        have G2 := Lib.hid go2
        clear go1 go2 hoo hoth
        go_enter Try.func3, Try.ntmps3
        go_wp2
        go_quiet (fail)
        go_wp2_with (first | (go_at_call 11; refine (worded_any _).mono ?_; rintro e w1 ⟨rfl, hq⟩) | (go_at_call 12; refine (P.out _).mono ?_; rintro e w2 ⟨rfl, hq2⟩))
        refine (G.out _).mono ?_
        rintro e w3 ⟨rfl, hq3⟩
        go_wp2_with fail
        refine (G1.out _).mono ?_
        rintro e w4 ⟨rfl, hq4⟩
        go_wp2_with fail
        refine (G2.out _).mono ?_
        rintro e w5 ⟨rfl, hq5⟩
        go_wp2_with fail
        go_ret
        exact ⟨rfl, ((((Below.refl _ _).alloc (Nat.le_refl _) _).trans (Quiet.drew).below).trans hq.below).trans (((hq2.trans hq3).trans hq4).trans hq5).below⟩
theorem i64_bd {x : Int} (h : (Lit.int .i64 x).wf = true) : -9223372036854775808 ≤ x ∧ x ≤ 9223372036854775807 := by
  simp [Lit.wf, IntKind.min, IntKind.max, IntKind.signed, IntKind.bits] at h
  exact ⟨by omega, by omega⟩
theorem kept_law (x a d v o : Int) (w : World) (w0 : (Lit.int .u64 x).wf = true) (w1 : (Lit.int .i64 a).wf = true) (w2 : (Lit.int .i64 d).wf = true) (w3 : (Lit.int .u64 v).wf = true) (w4 : (Lit.int .i64 o).wf = true) :
    Calls Try.prog 3 #[.agg #[.int .u64 x, .int .i64 a, .int .i64 d, .int .u64 v, .int .i64 o]] w fun e w' => e = .returned (.bool true) ∧ Below w.heap.size w w' :=
  kept_walk x a d v o w (wf_U64 w0) (wf_U64 w3) (i64_bd w1) (i64_bd w2) (i64_bd w4)
end Go.Proofs.Ytaghcogooggdpaa
