/- What the document's Put returns. No condition but that each number fits its kind. -/
import Derived.Test.YtaghcogooggdpaaRef
namespace Go.Proofs.Ytaghcogooggdpaa
open Go.RowKit

theorem bitI_big (v : Int) (d : Nat) (hv0 : 0 ≤ v) (hb : v < 18446744073709551616) (h : ¬ v.toNat < 2 ^ d) : ∃ j, d ≤ j ∧ j < 64 ∧ bitI v j = 1 := by
  obtain ⟨i, hi, hb'⟩ := Nat.exists_ge_and_testBit_of_ge_two_pow (show 2 ^ d ≤ v.toNat by omega)
  refine ⟨i, hi, ?_, ?_⟩
  · rcases Nat.lt_or_ge i 64 with h1 | h1
    · exact h1
    · have : v.toNat.testBit i = false := Nat.testBit_lt_two_pow (Nat.lt_of_lt_of_le (show v.toNat < 2 ^ 64 by omega) (Nat.pow_le_pow_right (by decide) h1))
      rw [this] at hb'; cases hb'
  · unfold bitI
    rw [Int.toNat_natCast, hb']
    rfl
theorem bitI_small (v : Int) (d j : Nat) (h : v.toNat < 2 ^ d) (hj : d ≤ j) : bitI v j = 0 := by
  unfold bitI
  rw [Int.toNat_natCast, Nat.testBit_lt_two_pow (Nat.lt_of_lt_of_le h (Nat.pow_le_pow_right (by decide) hj))]
  rfl
theorem bitI_put (x v : Int) (a d j : Nat) (hx : U64 x) (h : a + d ≤ 64) (hv : v.toNat < 2 ^ d) : bitI (putI x a d v) j = if a ≤ j ∧ j < a + d then bitI v ((j : Int) - a) else bitI x j := by
  have hx2 : x.toNat < 2 ^ 64 := by have := hx.2; omega
  unfold bitI putI
  rw [Int.toNat_natCast, Int.toNat_natCast, Int.toNat_natCast, Int.toNat_natCast, testBit_putN _ _ _ _ _ h hx2 hv]
  split
  · rw [show ((j : Int) - (a : Int)).toNat = j - a by omega]
  · rfl

theorem sum0 (x : Int) (j : Nat) (hj : j < 64) : IntKind.u64.wrap (bitI x j * powI j) = bitI x j * powI j ∧ IntKind.u64.wrap (getI x 0 j + bitI x j * powI j) = getI x 0 (j + 1 : Nat) := by
  have h := sum_step x 0 j hj
  rw [show (((0 : Nat) : Int) + (j : Int)) = (j : Int) by omega] at h
  exact h
theorem getI_all (x : Int) (hx : U64 x) : getI x 0 (64 : Nat) = x := by
  obtain ⟨X, rfl⟩ := Int.eq_ofNat_of_zero_le hx.1
  have := hx.2
  unfold getI getN
  rw [Int.toNat_natCast, Int.toNat_natCast, show (0 : Int).toNat = 0 from rfl, Nat.shiftRight_zero, Nat.mod_eq_of_lt (by omega)]
theorem getI_none (x : Int) : getI x 0 (0 : Nat) = 0 := by
  unfold getI getN
  simp [Nat.mod_one]
set_option maxHeartbeats 1000000 in
theorem rput_big (x a d v : Int) (w : World) (hv : U64 v) (h : fldB a d = true) (hb : maskI d < v) :
    Calls Try.prog 20 #[.int .u64 x, .int .i64 a, .int .i64 d, .int .u64 v] w fun e w' => e = .returned (.tuple #[.int .u64 0, .int .i64 3]) ∧ Quiet w w' := by
  obtain ⟨h1, h2, h3, h4⟩ := fldB_true h
  obtain ⟨D, rfl⟩ := Int.eq_ofNat_of_zero_le (show 0 ≤ d by omega)
  have hnot : ¬ v.toNat < 2 ^ D := by
    intro hlt
    have := (le_maskI v D h3 (by omega) hv.1).2 (by rw [Int.toNat_natCast]; exact hlt)
    omega
  obtain ⟨t, ht1, ht2, ht3⟩ := bitI_big v D hv.1 hv.2 hnot
  have T := Lib.hid ht3
  clear hnot ht3
  go_enter Try.func20, Try.ntmps20
  go_wp2_with (go_at_call 30; refine (field_any _ _ _).mono ?_; rintro e w1 ⟨rfl, hq⟩)
  go_loopw [10] (fun i wr => ∃ j : Nat, D ≤ j ∧ j ≤ t ∧ i = .int .i64 j ∧ Quiet w wr) (fun i _ => 64 - (intOf i).toNat)
  case atStart => exact ⟨D, Nat.le_refl _, ht1, rfl, hq⟩
  case round =>
    obtain ⟨j, hj1, hj2, rfl, hqr⟩ := hrel
    have B := Lib.hid (fun W => bit_any v j W hv (by omega))
    have hlt : (j : Int) < 64 := by omega
    by_cases hb1 : bitI v j = 1
    · rw [hb1] at B
      clear hb1
      go_wp2_with (go_at_call 31; refine (B.out _).mono ?_; rintro e w2 ⟨rfl, hq2⟩)
      go_ret2
      exact ⟨rfl, hqr.trans hq2⟩
    · have hne : j ≠ t := by rintro rfl; exact hb1 T.out
      have hb0 := (bitI_01 v j).resolve_right hb1
      rw [hb0] at B
      clear hb0 hb1
      go_wp2_with (go_at_call 31; refine (B.out _).mono ?_; rintro e w2 ⟨rfl, hq2⟩)
      go_roundw
      case rel => exact ⟨j + 1, by omega, by omega, by go_num, hqr.trans hq2⟩
      case measure => simp [intOf]; omega
set_option maxHeartbeats 1000000 in
theorem rput_yes (x a d v : Int) (w : World) (hx : U64 x) (hv : U64 v) (h : fldB a d = true) (hb : v ≤ maskI d) :
    Calls Try.prog 20 #[.int .u64 x, .int .i64 a, .int .i64 d, .int .u64 v] w fun e w' => e = .returned (.tuple #[.int .u64 (putI x a d v), .int .i64 0]) ∧ Quiet w w' := by
  obtain ⟨h1, h2, h3, h4⟩ := fldB_true h
  obtain ⟨A, rfl⟩ := Int.eq_ofNat_of_zero_le h1
  obtain ⟨D, rfl⟩ := Int.eq_ofNat_of_zero_le (show 0 ≤ d by omega)
  have hvd : v.toNat < 2 ^ D := (le_maskI v D h3 (by omega) hv.1).1 hb
  have hU := putI_U64 x A D v hx hv.1 h hb
  have HP := Lib.hid (fun j => bitI_put x v A D j hx (by omega) hvd)
  go_enter Try.func20, Try.ntmps20
  go_wp2_with (go_at_call 30; refine (field_any _ _ _).mono ?_; rintro e w1 ⟨rfl, hq⟩)
  go_loopw [10] (fun i wr => ∃ j : Nat, D ≤ j ∧ j ≤ 64 ∧ i = .int .i64 j ∧ Quiet w wr) (fun i _ => 64 - (intOf i).toNat)
  case atStart => exact ⟨D, Nat.le_refl _, by omega, rfl, hq⟩
  case round =>
    obtain ⟨j, hj1, hj2, rfl, hqr⟩ := hrel
    by_cases hlt : (j : Int) < 64
    · have B := Lib.hid (fun W => bit_any v j W hv (by omega))
      rw [bitI_small v D j hvd hj1] at B
      go_wp2_with (go_at_call 31; refine (B.out _).mono ?_; rintro e w2 ⟨rfl, hq2⟩)
      go_roundw
      case rel => exact ⟨j + 1, by omega, by omega, by go_num, hqr.trans hq2⟩
      case measure => simp [intOf]; omega
    · have hend := getI_all _ hU
      have hz := getI_none (putI x A D v)
      generalize hPP : putI x A D v = P at *
      have HPP := Lib.hid hPP
      have HE := Lib.hid hend
      have HZ := Lib.hid hz
      clear hend hz hPP
      go_wp2
      go_loopw [11, 12] (fun s i wx => ∃ k : Nat, k ≤ 64 ∧ i = .int .i64 k ∧ s = .int .u64 (getI P 0 k) ∧ Quiet w wx) (fun _ i _ => 64 - (intOf i).toNat)
      case atStart => exact ⟨0, Nat.zero_le _, rfl, congrArg _ HZ.out.symm, hqr⟩
      case round =>
        obtain ⟨k, hk, rfl, rfl, hqk⟩ := hrel
        by_cases hl2 : (k : Int) < 64
        · obtain ⟨s1, s2⟩ := sum0 P k (by omega)
          have B1 := Lib.hid (fun W => bit_any x k W hx (by omega))
          have C := Lib.hid (fun W => power_any k W (by omega))
          have hPk := HP.out k
          by_cases c1 : A ≤ k
          · by_cases c2 : k < A + D
            · rw [if_pos ⟨c1, c2⟩] at hPk
              have B2 := Lib.hid (fun W => bit_any v ((k : Int) - A) W hv (by omega))
              rw [← hPk] at B2
              clear hPk
              go_wp2_with fail
              refine (B1.out _).mono ?_
              rintro e w2 ⟨rfl, hq2⟩
              go_wp2_with fail
              refine (B2.out _).mono ?_
              rintro e w3 ⟨rfl, hq3⟩
              go_wp2_with fail
              refine (C.out _).mono ?_
              rintro e w4 ⟨rfl, hq4⟩
              go_wp2
              go_roundw
              case rel => exact ⟨k + 1, by omega, by go_num, rfl, hqk.trans (hq2.trans (hq3.trans hq4))⟩
              case measure => simp [intOf]; omega
            · rw [if_neg (by omega)] at hPk
              rw [← hPk] at B1
              clear hPk
              have c2' : ¬ (k : Int) < (A : Int) + (D : Int) := by omega
              go_wp2_with fail
              refine (B1.out _).mono ?_
              rintro e w2 ⟨rfl, hq2⟩
              go_wp2_with fail
              refine (C.out _).mono ?_
              rintro e w4 ⟨rfl, hq4⟩
              go_wp2
              go_roundw
              case rel => exact ⟨k + 1, by omega, by go_num, rfl, hqk.trans (hq2.trans hq4)⟩
              case measure => simp [intOf]; omega
          · rw [if_neg (by omega)] at hPk
            rw [← hPk] at B1
            clear hPk
            go_wp2_with fail
            refine (B1.out _).mono ?_
            rintro e w2 ⟨rfl, hq2⟩
            go_wp2_with fail
            refine (C.out _).mono ?_
            rintro e w4 ⟨rfl, hq4⟩
            go_wp2
            go_roundw
            case rel => exact ⟨k + 1, by omega, by go_num, rfl, hqk.trans (hq2.trans hq4)⟩
            case measure => simp [intOf]; omega
        · obtain rfl : k = 64 := by omega
          go_wp2
          go_ret2
          exact ⟨ret_two (HE.out.trans HPP.out.symm) rfl, hqk⟩
set_option maxHeartbeats 400000 in
theorem rput_no (x a d v : Int) (w : World) (h : fldB a d = false) :
    Calls Try.prog 20 #[.int .u64 x, .int .i64 a, .int .i64 d, .int .u64 v] w fun e w' => e = .returned (.tuple #[.int .u64 0, .int .i64 1]) ∧ Quiet w w' := by
  go_enter Try.func20, Try.ntmps20
  go_wp2_with (go_at_call 30; refine (field_any _ _ _).mono ?_; rintro e w1 ⟨rfl, hq⟩)
  go_ret2
  exact ⟨rfl, hq⟩
end Go.Proofs.Ytaghcogooggdpaa
