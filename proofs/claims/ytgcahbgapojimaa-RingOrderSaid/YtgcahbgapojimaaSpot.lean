/- What each cell of a plan is for, in numbers; and where it stands. Condition: the plan's numbers are in their bounds. -/
import Derived.Test.YtgcahbgapojimaaLayd
namespace Go.Proofs.Ytgcahbgapojimaa
open Go.RowKit

/-- what a cell is for: kind, i, j -/
def findK (P T R a : Int) : Int :=
  if a = 0 ∨ a = 7 then 0 else if a < 8 then 1 else if a < 16 then 2
  else if a < tabI T R then (if (a - 16) % (5 + R) < 5 then 3 else 4)
  else if a < baseI P T R then (if 3 ≤ (a - tabI T R) / P then 0 else 5 + (a - tabI T R) / P) else 8
def findA (P T R a : Int) : Int :=
  if a = 0 ∨ a = 7 then 0 else if a < 8 then a else if a < 16 then a - 8
  else if a < tabI T R then (a - 16) / (5 + R)
  else if a < baseI P T R then (if 3 ≤ (a - tabI T R) / P then 0 else (a - tabI T R) % P) else (a - baseI P T R) / 64
def findB (P T R a : Int) : Int :=
  if a = 0 ∨ a = 7 then 0 else if a < 8 then 0 else if a < 16 then 0
  else if a < tabI T R then (if (a - 16) % (5 + R) < 5 then (a - 16) % (5 + R) else (a - 16) % (5 + R) - 5)
  else if a < baseI P T R then 0 else (a - baseI P T R) % 64
/-- where what is so named stands -/
def posI (P T R k i j : Int) : Int :=
  if k = 1 then i else if k = 2 then 8 + i else if k = 3 then 16 + i * (5 + R) + j else if k = 4 then 16 + i * (5 + R) + (5 + j)
  else if k = 5 then tabI T R + i else if k = 6 then tabI T R + P + i else if k = 7 then tabI T R + 2 * P + i else baseI P T R + 64 * i + j
/-- may it be named so? -/
def okI (P T R k i j : Int) : Prop :=
  (k = 1 ∧ 1 ≤ i ∧ i ≤ 6 ∧ j = 0) ∨ (k = 2 ∧ 0 ≤ i ∧ i ≤ 7 ∧ j = 0) ∨ (k = 3 ∧ 0 ≤ i ∧ i < T ∧ 0 ≤ j ∧ j ≤ 4) ∨ (k = 4 ∧ 0 ≤ i ∧ i < T ∧ 0 ≤ j ∧ j < R) ∨
  (k = 5 ∧ 0 ≤ i ∧ i < P ∧ j = 0) ∨ (k = 6 ∧ 0 ≤ i ∧ i < P ∧ j = 0) ∨ (k = 7 ∧ 0 ≤ i ∧ i < P ∧ j = 0) ∨ (k = 8 ∧ 0 ≤ i ∧ i < P ∧ 0 ≤ j ∧ j < 64)
theorem div_lt {a m t : Int} (hm : 0 < m) (h : a < t * m) : a / m < t := Int.ediv_lt_of_lt_mul hm h
theorem mul_le_of {i T m : Int} (h : i < T) (hm : 0 < m) : i * m + m ≤ T * m := by
  have h1 : i + 1 ≤ T := by omega
  have h2 := Int.mul_le_mul_of_nonneg_right h1 (Int.le_of_lt hm)
  rw [Int.add_mul, Int.one_mul] at h2
  exact h2
theorem div_mul_add {i m j : Int} (hm : 0 < m) (h0 : 0 ≤ j) (h1 : j < m) : (i * m + j) / m = i ∧ (i * m + j) % m = j := by
  constructor
  · rw [Int.add_comm, Int.add_mul_ediv_right _ _ (by omega), Int.ediv_eq_zero_of_lt h0 h1]; omega
  · rw [Int.add_comm, Int.add_mul_emod_self_right, Int.emod_eq_of_lt h0 h1]
theorem find_1 {P T R a : Int} (c : ¬ (a = 0 ∨ a = 7)) (c1 : a < 8) : findK P T R a = 1 ∧ findA P T R a = a ∧ findB P T R a = 0 := by
  unfold findK findA findB; simp only [c, c1, if_true, if_false]; exact ⟨by trivial, by trivial, by trivial⟩
theorem find_2 {P T R a : Int} (c1 : 8 ≤ a) (c2 : a < 16) : findK P T R a = 2 ∧ findA P T R a = a - 8 ∧ findB P T R a = 0 := by
  have c : ¬ (a = 0 ∨ a = 7) := by omega
  have c1' : ¬ a < 8 := by omega
  unfold findK findA findB; simp only [c, c1', c2, if_true, if_false]; exact ⟨by trivial, by trivial, by trivial⟩
theorem find_3 {P T R a : Int} (c1 : 16 ≤ a) (c2 : a < tabI T R) : findK P T R a = (if (a - 16) % (5 + R) < 5 then 3 else 4) ∧ findA P T R a = (a - 16) / (5 + R) ∧ findB P T R a = (if (a - 16) % (5 + R) < 5 then (a - 16) % (5 + R) else (a - 16) % (5 + R) - 5) := by
  have c : ¬ (a = 0 ∨ a = 7) := by omega
  have c1' : ¬ a < 8 := by omega
  have c1'' : ¬ a < 16 := by omega
  unfold findK findA findB; simp only [c, c1', c1'', c2, if_true, if_false]; exact ⟨by trivial, by trivial, by trivial⟩
theorem find_5 {P T R a : Int} (c1 : 16 ≤ a) (c2 : tabI T R ≤ a) (c3 : a < baseI P T R) : findK P T R a = (if 3 ≤ (a - tabI T R) / P then 0 else 5 + (a - tabI T R) / P) ∧ findA P T R a = (if 3 ≤ (a - tabI T R) / P then 0 else (a - tabI T R) % P) ∧ findB P T R a = 0 := by
  have c : ¬ (a = 0 ∨ a = 7) := by omega
  have c1' : ¬ a < 8 := by omega
  have c1'' : ¬ a < 16 := by omega
  have c2' : ¬ a < tabI T R := by omega
  unfold findK findA findB; simp only [c, c1', c1'', c2', c3, if_true, if_false]; exact ⟨by trivial, by trivial, by trivial⟩
theorem find_8 {P T R a : Int} (c1 : 16 ≤ a) (c2 : tabI T R ≤ a) (c3 : baseI P T R ≤ a) : findK P T R a = 8 ∧ findA P T R a = (a - baseI P T R) / 64 ∧ findB P T R a = (a - baseI P T R) % 64 := by
  have c : ¬ (a = 0 ∨ a = 7) := by omega
  have c1' : ¬ a < 8 := by omega
  have c1'' : ¬ a < 16 := by omega
  have c2' : ¬ a < tabI T R := by omega
  have c3' : ¬ a < baseI P T R := by omega
  unfold findK findA findB; simp only [c, c1', c1'', c2', c3', if_false]; exact ⟨by trivial, by trivial, by trivial⟩
theorem pos_1 (P T R i j : Int) : posI P T R 1 i j = i := rfl
theorem pos_2 (P T R i j : Int) : posI P T R 2 i j = 8 + i := rfl
theorem pos_3 (P T R i j : Int) : posI P T R 3 i j = 16 + i * (5 + R) + j := rfl
theorem pos_4 (P T R i j : Int) : posI P T R 4 i j = 16 + i * (5 + R) + (5 + j) := rfl
theorem pos_5 (P T R i j : Int) : posI P T R 5 i j = tabI T R + i := rfl
theorem pos_6 (P T R i j : Int) : posI P T R 6 i j = tabI T R + P + i := rfl
theorem pos_7 (P T R i j : Int) : posI P T R 7 i j = tabI T R + 2 * P + i := rfl
theorem pos_8 (P T R i j : Int) : posI P T R 8 i j = baseI P T R + 64 * i + j := rfl
/-- what stands where it is said to -/
theorem find_pos {P T R k i j : Int} (h : Right P T R) (ho : okI P T R k i j) :
    (findK P T R (posI P T R k i j) = k ∧ findA P T R (posI P T R k i j) = i ∧ findB P T R (posI P T R k i j) = j) ∧ 0 ≤ posI P T R k i j ∧ posI P T R k i j < baseI P T R + 64 * P := by
  have ht := tab_bd h
  have hb := base_bd h
  obtain ⟨⟨p1, p2⟩, ⟨t1, t2⟩, r1, r2⟩ := h
  have htab : tabI T R = 16 + T * (5 + R) := rfl
  rcases ho with ⟨rfl, h1, h2, rfl⟩ | ⟨rfl, h1, h2, rfl⟩ | ⟨rfl, h1, h2, h3, h4⟩ | ⟨rfl, h1, h2, h3, h4⟩ | ⟨rfl, h1, h2, rfl⟩ | ⟨rfl, h1, h2, rfl⟩ | ⟨rfl, h1, h2, rfl⟩ | ⟨rfl, h1, h2, h3, h4⟩
  · rw [pos_1]
    exact ⟨find_1 (by omega) (by omega), by omega, by omega⟩
  · rw [pos_2]
    obtain ⟨e1, e2, e3⟩ := find_2 (P := P) (T := T) (R := R) (a := 8 + i) (by omega) (by omega)
    exact ⟨⟨e1, by omega, e3⟩, by omega, by omega⟩
  · rw [pos_3]
    have hm := mul_le_of h2 (show 0 < 5 + R by omega)
    have h0 : 0 ≤ i * (5 + R) := Int.mul_nonneg h1 (by omega)
    have hd := div_mul_add (i := i) (m := 5 + R) (j := j) (by omega) h3 (by omega)
    obtain ⟨e1, e2, e3⟩ := find_3 (P := P) (T := T) (R := R) (a := 16 + i * (5 + R) + j) (by omega) (by omega)
    rw [show 16 + i * (5 + R) + j - 16 = i * (5 + R) + j by omega, hd.1] at e2
    rw [show 16 + i * (5 + R) + j - 16 = i * (5 + R) + j by omega, hd.2, if_pos (by omega)] at e1 e3
    exact ⟨⟨e1, e2, e3⟩, by omega, by omega⟩
  · rw [pos_4]
    have hm := mul_le_of h2 (show 0 < 5 + R by omega)
    have h0 : 0 ≤ i * (5 + R) := Int.mul_nonneg h1 (by omega)
    have hd := div_mul_add (i := i) (m := 5 + R) (j := 5 + j) (by omega) (by omega) (by omega)
    obtain ⟨e1, e2, e3⟩ := find_3 (P := P) (T := T) (R := R) (a := 16 + i * (5 + R) + (5 + j)) (by omega) (by omega)
    rw [show 16 + i * (5 + R) + (5 + j) - 16 = i * (5 + R) + (5 + j) by omega, hd.1] at e2
    rw [show 16 + i * (5 + R) + (5 + j) - 16 = i * (5 + R) + (5 + j) by omega, hd.2, if_neg (by omega)] at e1 e3
    exact ⟨⟨e1, e2, by omega⟩, by omega, by omega⟩
  · rw [pos_5]
    obtain ⟨e1, e2, e3⟩ := find_5 (P := P) (T := T) (R := R) (a := tabI T R + i) (by omega) (by omega) (by omega)
    have hd := div_mul_add (i := 0) (m := P) (j := i) (by omega) (by omega) (by omega)
    rw [show tabI T R + i - tabI T R = 0 * P + i by omega, hd.1] at e1
    rw [show tabI T R + i - tabI T R = 0 * P + i by omega, hd.1, hd.2] at e2
    exact ⟨⟨e1, e2, e3⟩, by omega, by omega⟩
  · rw [pos_6]
    obtain ⟨e1, e2, e3⟩ := find_5 (P := P) (T := T) (R := R) (a := tabI T R + P + i) (by omega) (by omega) (by omega)
    have hd := div_mul_add (i := 1) (m := P) (j := i) (by omega) (by omega) (by omega)
    rw [show tabI T R + P + i - tabI T R = 1 * P + i by omega, hd.1] at e1
    rw [show tabI T R + P + i - tabI T R = 1 * P + i by omega, hd.1, hd.2] at e2
    exact ⟨⟨e1, e2, e3⟩, by omega, by omega⟩
  · rw [pos_7]
    obtain ⟨e1, e2, e3⟩ := find_5 (P := P) (T := T) (R := R) (a := tabI T R + 2 * P + i) (by omega) (by omega) (by omega)
    have hd := div_mul_add (i := 2) (m := P) (j := i) (by omega) (by omega) (by omega)
    rw [show tabI T R + 2 * P + i - tabI T R = 2 * P + i by omega, hd.1] at e1
    rw [show tabI T R + 2 * P + i - tabI T R = 2 * P + i by omega, hd.1, hd.2] at e2
    exact ⟨⟨e1, e2, e3⟩, by omega, by omega⟩
  · rw [pos_8]
    obtain ⟨e1, e2, e3⟩ := find_8 (P := P) (T := T) (R := R) (a := baseI P T R + 64 * i + j) (by omega) (by omega) (by omega)
    exact ⟨⟨e1, by omega, by omega⟩, by omega, by omega⟩
/-- what a cell is for tells where it stands -/
theorem pos_find {P T R a : Int} (h : Right P T R) (h0 : 0 ≤ a) (h1 : a < baseI P T R + 64 * P) :
    (findK P T R a = 0 ∧ findA P T R a = 0 ∧ findB P T R a = 0 ∧ (a < 8 ∨ a < baseI P T R)) ∨ (okI P T R (findK P T R a) (findA P T R a) (findB P T R a) ∧ posI P T R (findK P T R a) (findA P T R a) (findB P T R a) = a) := by
  have ht := tab_bd h
  have hb := base_bd h
  obtain ⟨⟨p1, p2⟩, ⟨t1, t2⟩, r1, r2⟩ := h
  have htab : tabI T R = 16 + T * (5 + R) := rfl
  by_cases c : a = 0 ∨ a = 7
  · left
    unfold findK findA findB; simp only [c, if_true]; exact ⟨by trivial, by trivial, by trivial, by omega⟩
  by_cases c1 : a < 8
  · right
    obtain ⟨e1, e2, e3⟩ := find_1 (P := P) (T := T) (R := R) c c1
    rw [e1, e2, e3]
    exact ⟨by unfold okI; omega, rfl⟩
  by_cases c2 : a < 16
  · right
    obtain ⟨e1, e2, e3⟩ := find_2 (P := P) (T := T) (R := R) (a := a) (by omega) c2
    rw [e1, e2, e3, pos_2]
    exact ⟨by unfold okI; omega, by omega⟩
  by_cases c3 : a < tabI T R
  · right
    obtain ⟨e1, e2, e3⟩ := find_3 (P := P) (T := T) (R := R) (a := a) (by omega) c3
    have hq := div_lt (a := a - 16) (m := 5 + R) (t := T) (by omega) (by omega)
    have hq0 : 0 ≤ (a - 16) / (5 + R) := Int.ediv_nonneg (by omega) (by omega)
    have hr0 : 0 ≤ (a - 16) % (5 + R) := Int.emod_nonneg _ (by omega)
    have hr1 : (a - 16) % (5 + R) < 5 + R := Int.emod_lt_of_pos _ (by omega)
    have hqr := Int.mul_ediv_add_emod (a - 16) (5 + R)
    rw [Int.mul_comm] at hqr
    rw [e1, e2, e3]
    generalize (a - 16) / (5 + R) = q at *
    generalize (a - 16) % (5 + R) = r at *
    by_cases c4 : r < 5
    · rw [if_pos c4, if_pos c4, pos_3]
      exact ⟨by unfold okI; omega, by omega⟩
    · rw [if_neg c4, if_neg c4, pos_4]
      exact ⟨by unfold okI; omega, by omega⟩
  by_cases c4 : a < baseI P T R
  · obtain ⟨e1, e2, e3⟩ := find_5 (P := P) (T := T) (R := R) (a := a) (by omega) (by omega) c4
    have hq0 : 0 ≤ (a - tabI T R) / P := Int.ediv_nonneg (by omega) (by omega)
    have hr0 : 0 ≤ (a - tabI T R) % P := Int.emod_nonneg _ (by omega)
    have hr1 : (a - tabI T R) % P < P := Int.emod_lt_of_pos _ (by omega)
    have hqr := Int.mul_ediv_add_emod (a - tabI T R) P
    rw [e1, e2, e3]
    generalize (a - tabI T R) / P = q at *
    generalize (a - tabI T R) % P = r at *
    by_cases c5 : 3 ≤ q
    · left
      rw [if_pos c5, if_pos c5]; exact ⟨rfl, rfl, rfl, .inr c4⟩
    · right
      rw [if_neg c5, if_neg c5]
      have hq : q = 0 ∨ q = 1 ∨ q = 2 := by omega
      rcases hq with rfl | rfl | rfl
      · rw [show (5 + 0 : Int) = 5 from rfl, pos_5]
        exact ⟨by unfold okI; omega, by omega⟩
      · rw [show (5 + 1 : Int) = 6 from rfl, pos_6]
        exact ⟨by unfold okI; omega, by omega⟩
      · rw [show (5 + 2 : Int) = 7 from rfl, pos_7]
        exact ⟨by unfold okI; omega, by omega⟩
  · right
    obtain ⟨e1, e2, e3⟩ := find_8 (P := P) (T := T) (R := R) (a := a) (by omega) (by omega) (by omega)
    rw [e1, e2, e3, pos_8]
    exact ⟨by unfold okI; omega, by omega⟩
end Go.Proofs.Ytgcahbgapojimaa
