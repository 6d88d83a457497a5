/- Plain mathematics of words for the law TopBits: what setting and clearing a bit does on both sides. No condition but that each number has 64 bits. -/
import Derived.Test.YtbpgnhakphpobaaDoorSame
namespace Go.Proofs.YtbpgnhakphpobaaDoor
open Go.RowKit
set_option linter.unusedVariables false
theorem or_U64 {x y : Int} (hx : U64 x) (hy : U64 y) : U64 (bits .or .u64 x y) := by
  obtain ⟨x0, x1⟩ := hx
  obtain ⟨y0, y1⟩ := hy
  obtain ⟨X, rfl⟩ := Int.eq_ofNat_of_zero_le x0
  obtain ⟨Y, rfl⟩ := Int.eq_ofNat_of_zero_le y0
  rw [bits_or_u64_nat _ _ (by omega) (by omega)]
  exact U64.nat _ (Nat.or_lt_two_pow (by omega) (by omega))
theorem and_U64 {x y : Int} (hx : U64 x) (hy : U64 y) : U64 (bits .and .u64 x y) := by
  obtain ⟨x0, x1⟩ := hx
  obtain ⟨y0, y1⟩ := hy
  obtain ⟨X, rfl⟩ := Int.eq_ofNat_of_zero_le x0
  obtain ⟨Y, rfl⟩ := Int.eq_ofNat_of_zero_le y0
  rw [bits_and_u64_nat _ _ (by omega) (by omega)]
  exact U64.nat _ (Nat.and_lt_two_pow _ (by omega))
theorem bitI_U64 (at' : Nat) : U64 (mbitI at') := U64.nat _ (Nat.pow_lt_pow_right (by decide) (Nat.mod_lt _ (by decide)))
theorem and_not {x y : Int} (hx : U64 x) (hy : U64 y) : bits .and .u64 x (18446744073709551615 - y) = bits .andNot .u64 x y := by
  obtain ⟨x0, x1⟩ := hx
  obtain ⟨y0, y1⟩ := hy
  obtain ⟨X, rfl⟩ := Int.eq_ofNat_of_zero_le x0
  obtain ⟨Y, rfl⟩ := Int.eq_ofNat_of_zero_le y0
  have e : (18446744073709551615 : Int) - (Y : Int) = ((18446744073709551615 - Y : Nat) : Int) := by omega
  rw [e, bits_and_u64_nat _ _ (by omega) (by omega), u64_andNot_nat _ _ (by omega) (by omega)]
theorem not_U64 {y : Int} (hy : U64 y) : U64 (18446744073709551615 - y) := by
  obtain ⟨y0, y1⟩ := hy
  exact ⟨by omega, by omega⟩
theorem getD_set_eq (l : List Int) (q : Nat) (v : Int) (h : q < l.length) : (l.set q v).getD q 0 = v := by simp [List.getD_eq_getElem?_getD, h]
theorem getD_set_ne (l : List Int) (q i : Nat) (v : Int) (h : q ≠ i) : (l.set q v).getD i 0 = l.getD i 0 := by simp [List.getD_eq_getElem?_getD, h]
theorem eqv_with (cs L : List Int) (at' : Nat) (h : ∀ i, cs.getD i 0 = L.getD i 0) (hq : at' / 64 < cs.length) : ∀ i, (cs.set (at' / 64) (bits .or .u64 (cs.getD (at' / 64) 0) (mbitI at'))).getD i 0 = (withL L at').getD i 0 := by
  intro i
  have hp : at' / 64 < (padL L (if L.length < at' / 64 + 1 then at' / 64 + 1 else L.length)).length := by rw [padL_len] <;> split <;> omega
  unfold withL
  by_cases e : at' / 64 = i
  · subst e
    rw [getD_set_eq _ _ _ hq, getD_set_eq _ _ _ hp, h]
  · rw [getD_set_ne _ _ _ _ e, getD_set_ne _ _ _ _ e, padL_get, h]
theorem andNot_zero (y : Int) (hy : U64 y) : bits .andNot .u64 0 y = 0 := by
  obtain ⟨y0, y1⟩ := hy
  obtain ⟨Y, rfl⟩ := Int.eq_ofNat_of_zero_le y0
  have := u64_andNot_nat 0 Y (by decide) (by omega)
  rw [Nat.zero_and] at this
  exact this
theorem eqv_without (cs L : List Int) (at' : Nat) (h : ∀ i, cs.getD i 0 = L.getD i 0) (hq : at' / 64 < cs.length) : ∀ i, (cs.set (at' / 64) (bits .andNot .u64 (cs.getD (at' / 64) 0) (mbitI at'))).getD i 0 = (withoutL L at').getD i 0 := by
  intro i
  unfold withoutL
  by_cases e : at' / 64 = i
  · subst e
    rw [getD_set_eq _ _ _ hq]
    by_cases hl : at' / 64 < L.length
    · rw [getD_set_eq _ _ _ hl, h]
    · have hz : L.getD (at' / 64) 0 = 0 := by simp [List.getD_eq_getElem?_getD, hl]
      rw [h, List.set_eq_of_length_le (by omega), hz, andNot_zero _ (bitI_U64 at')]
  · rw [getD_set_ne _ _ _ _ e, getD_set_ne _ _ _ _ e, h]
theorem andNot_U64 {x y : Int} (hx : U64 x) (hy : U64 y) : U64 (bits .andNot .u64 x y) := by
  rw [← and_not hx hy]; exact and_U64 hx (not_U64 hy)
theorem set_U64 {l : List Int} (h : ∀ z ∈ l, U64 z) (q : Nat) {v : Int} (hv : U64 v) : ∀ z ∈ l.set q v, U64 z := by
  intro z hz
  rcases List.mem_or_eq_of_mem_set hz with h2 | h2
  · exact h z h2
  · rw [h2]; exact hv
theorem pad_U64 {l : List Int} (h : ∀ z ∈ l, U64 z) (n : Nat) : ∀ z ∈ padL l n, U64 z := by
  intro z hz
  rcases List.mem_append.1 hz with h2 | h2
  · exact h z h2
  · rw [List.eq_of_mem_replicate h2]; exact ⟨by decide, by decide⟩
theorem with_U64 {l : List Int} (h : ∀ z ∈ l, U64 z) (at' : Nat) : ∀ z ∈ withL l at', U64 z := set_U64 (pad_U64 h _) _ (or_U64 (getD_U64 h _) (bitI_U64 _))
theorem without_U64 {l : List Int} (h : ∀ z ∈ l, U64 z) (at' : Nat) : ∀ z ∈ withoutL l at', U64 z := set_U64 h _ (andNot_U64 (getD_U64 h _) (bitI_U64 _))
theorem with_len {l : List Int} (at' : Nat) (h : l.length ≤ 8) (ha : at' < 512) : (withL l at').length ≤ 8 := by rw [withL_len]; split <;> omega
theorem without_len {l : List Int} (at' : Nat) (h : l.length ≤ 8) : (withoutL l at').length ≤ 8 := by unfold withoutL; rw [List.length_set]; exact h
end Go.Proofs.YtbpgnhakphpobaaDoor
