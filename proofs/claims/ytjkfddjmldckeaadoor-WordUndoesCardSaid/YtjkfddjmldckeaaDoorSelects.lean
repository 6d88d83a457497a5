/- The laws WordSelects and WordUndoes: the walks. No condition but that the table of math/bits lies as the start lays it. -/
import Derived.Test.YtjkfddjmldckeaaDoorSelect
import Derived.Test.YtjkfddjmldckeaaDoorCounts
namespace Go.Proofs.YtjkfddjmldckeaaDoor
open Go.RowKit
set_option linter.unusedVariables false

theorem sel_bd (x k : Int) : -1 ≤ selI x k ∧ selI x k ≤ 63 := by
  unfold selI
  split
  · rename_i h
    have hl : k.toNat < (plcs x.toNat 64).length := by omega
    obtain ⟨h1, h2, _⟩ := plcs_getD hl
    omega
  · omega

set_option maxHeartbeats 400000 in
theorem rselect_any (x k : Int) (w : World) (hx : U64 x) :
    Calls Tryd.prog 18 #[.int .u64 x, .int .i64 k] w fun e w' => e = .returned (.int .i64 (selI x k)) ∧ Below w.heap.size w w' := by
  by_cases h0 : x = 0
  · subst h0
    have hs : selI 0 k = -1 := by unfold selI; rw [show (0 : Int).toNat = 0 from rfl, plcs_nil, if_neg (by simp)]
    rw [hs]
    clear hs
    by_cases hk : k < 0
    · go_enter Tryd.func18, Tryd.ntmps18
      go_wp2_with fail
      refine (places_none _).mono ?_
      rintro e w1 ⟨a1, c1, rfl, hb1⟩
      go_wp2
      go_ret
      exact ⟨rfl, hb1⟩
    · have hk2 : 0 ≤ k := by omega
      go_enter Tryd.func18, Tryd.ntmps18
      go_wp2_with fail
      refine (places_none _).mono ?_
      rintro e w1 ⟨a1, c1, rfl, hb1⟩
      go_wp2
      go_ret
      exact ⟨rfl, hb1⟩
  · have hp := (plcs_low x.toNat (by have := hx.2; omega) (by have := hx.1; omega)).1
    have hle := plcs_len_le x.toNat 64
    have P := Lib.hid (fun W => places_some x W _ hx rfl hp)
    have hS : selI x k = if 0 ≤ k ∧ k < (((plcs x.toNat 64).length : Nat) : Int) then (plcs x.toNat 64).getD k.toNat 0 else -1 := rfl
    generalize selI x k = s at *
    generalize plcs x.toNat 64 = L at *
    generalize L.length = n at *
    by_cases hk : k < 0
    · rw [if_neg (by omega)] at hS
      subst hS
      go_enter Tryd.func18, Tryd.ntmps18
      go_wp2_with fail
      refine (P.out _).mono ?_
      rintro e w1 ⟨b, o, c, rfl, hc, hb1⟩
      clear hc
      go_wp2
      go_ret
      exact ⟨rfl, hb1⟩
    · obtain ⟨K, rfl⟩ := Int.eq_ofNat_of_zero_le (show 0 ≤ k by omega)
      by_cases hn : (n : Int) ≤ (K : Int)
      · rw [if_neg (by omega)] at hS
        subst hS
        go_enter Tryd.func18, Tryd.ntmps18
        go_wp2_with fail
        refine (P.out _).mono ?_
        rintro e w1 ⟨b, o, c, rfl, hc, hb1⟩
        clear hc
        go_wp2
        go_ret
        exact ⟨rfl, hb1⟩
      · rw [if_pos ⟨by omega, by omega⟩, Int.toNat_natCast] at hS
        have HS := Lib.hid hS
        clear hS
        have hlt : (K : Int) < (n : Int) := by omega
        go_enter Tryd.func18, Tryd.ntmps18
        go_wp2_with fail
        refine (P.out _).mono ?_
        rintro e w1 ⟨b, o, c, rfl, hc, hb1⟩
        have e1 := hc K (by omega)
        rw [← HS.out] at e1
        clear hc
        go_wp2
        go_ret
        exact ⟨rfl, hb1⟩

set_option maxHeartbeats 400000 in
theorem selects_law (x k : Int) (w : World) (w0 : (Lit.int .u64 x).wf = true) (w1 : (Lit.int .i64 k).wf = true) (hT : Tab w) :
    Calls Tryd.prog 5 #[.int .u64 x, .int .i64 k] w fun e w' => e = .returned (.bool true) ∧ Below w.heap.size w w' := by
  have hx := wf_U64 w0
  have S := Lib.hid (fun W (h : Tab W) => select_any x k W hx h)
  have R := Lib.hid (fun W => rselect_any x k W hx)
  generalize selI x k = s at *
  go_enter Tryd.func5, Tryd.ntmps5
  go_wp2_with fail
  refine (worded_any _).mono ?_
  rintro e w2 ⟨rfl, hq2⟩
  go_wp2_with fail
  refine (S.out _ (hT.quiet hq2)).mono ?_
  rintro e w3 ⟨rfl, hb3⟩
  have hb2 : Below w.heap.size w w2 := hq2.below
  have hb : Below w.heap.size w w3 := hb2.trans (hb3.mono hb2.size)
  go_wp2_with fail
  refine (R.out _).mono ?_
  rintro e w4 ⟨rfl, hb4⟩
  go_wp2
  go_ret
  exact ⟨rfl, hb.trans (hb4.mono hb.size)⟩

set_option maxHeartbeats 1000000 in
theorem undoes_law (x k : Int) (w : World) (w0 : (Lit.int .u64 x).wf = true) (w1 : (Lit.int .i64 k).wf = true) (hT : Tab w) :
    Calls Tryd.prog 3 #[.int .u64 x, .int .i64 k] w fun e w' => e = .returned (.bool true) ∧ Below w.heap.size w w' := by
  have hx := wf_U64 w0
  have S := Lib.hid (fun W (h : Tab W) => select_any x k W hx h)
  have O := Lib.hid (fun W => ones_w x W hx)
  rw [ones_len] at O
  have hle := plcs_len_le x.toNat 64
  by_cases hk : 0 ≤ k ∧ k < (((plcs x.toNat 64).length : Nat) : Int)
  · have hs : selI x k = (plcs x.toNat 64).getD k.toNat 0 := by unfold selI; rw [if_pos hk]
    have hl : k.toNat < (plcs x.toNat 64).length := by omega
    obtain ⟨h1, h2, h3⟩ := plcs_getD hl
    have h4 := rank_at x k.toNat hl
    rw [show ((k.toNat : Nat) : Int) = k by omega] at h4
    rw [hs] at S
    have R := Lib.hid (fun W => rank_any x ((plcs x.toNat 64).getD k.toNat 0) W hx)
    rw [h4] at R
    have G := Lib.hid (fun W => get_yes x ((plcs x.toNat 64).getD k.toNat 0) 1 W hx (fldB_mk ⟨h1, by omega, by decide, by omega⟩))
    have hg : getI x ((plcs x.toNat 64).getD k.toNat 0) 1 = 1 := by
      unfold getI getN
      rw [show (1 : Int).toNat = 1 from rfl, Nat.shiftRight_eq_div_pow, Nat.pow_one, ← Nat.toNat_testBit, h3]
      rfl
    rw [hg] at G
    obtain ⟨k0, k1⟩ := hk
    clear hs h4 hg h3 hl
    generalize (plcs x.toNat 64).getD k.toNat 0 = y at *
    generalize (plcs x.toNat 64).length = n at *
    have y1 : ¬ y < -1 := by omega
    have y2 : ¬ 63 < y := by omega
    have y3 : ¬ y < 0 := by omega
    go_enter Tryd.func3, Tryd.ntmps3
    go_wp2_with fail
    refine (S.out _ hT).mono ?_
    rintro e w2 ⟨rfl, hb2⟩
    go_wp2_with fail
    refine (worded_any _).mono ?_
    rintro e w3 ⟨rfl, hq3⟩
    go_wp2_with fail
    refine (G.out _).mono ?_
    rintro e w4 ⟨rfl, hq4⟩
    go_wp2_with fail
    refine (R.out _).mono ?_
    rintro e w5 ⟨rfl, hq5⟩
    go_wp2_with fail
    refine (O.out _).mono ?_
    rintro e w6 ⟨rfl, hq6⟩
    go_wp2
    go_ret
    exact ⟨rfl, hb2.trans (((hq3.trans hq4).trans hq5).trans hq6).below⟩
  · have hs : selI x k = -1 := by unfold selI; rw [if_neg hk]
    rw [hs] at S
    generalize (plcs x.toNat 64).length = n at *
    by_cases hk0 : k < 0
    · clear hk
      go_enter Tryd.func3, Tryd.ntmps3
      go_wp2_with fail
      refine (S.out _ hT).mono ?_
      rintro e w2 ⟨rfl, hb2⟩
      go_wp2_with fail
      refine (worded_any _).mono ?_
      rintro e w3 ⟨rfl, hq3⟩
      go_wp2
      go_ret
      exact ⟨rfl, hb2.trans hq3.below⟩
    · have hk1 : (n : Int) ≤ k := by omega
      clear hk
      go_enter Tryd.func3, Tryd.ntmps3
      go_wp2_with fail
      refine (S.out _ hT).mono ?_
      rintro e w2 ⟨rfl, hb2⟩
      go_wp2_with fail
      refine (worded_any _).mono ?_
      rintro e w3 ⟨rfl, hq3⟩
      go_wp2_with fail
      refine (O.out _).mono ?_
      rintro e w6 ⟨rfl, hq6⟩
      go_wp2
      go_ret
      exact ⟨rfl, hb2.trans (hq3.trans hq6).below⟩
end Go.Proofs.YtjkfddjmldckeaaDoor
