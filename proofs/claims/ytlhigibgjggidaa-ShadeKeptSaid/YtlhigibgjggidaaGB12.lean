/- Texts of this seat, one behind the other: each says at its head what it holds. No condition of its own. -/
import Derived.Maps.AppendAt
import Derived.Laws.StructEq
import Derived.Test.YtlhigibgjggidaaGB11
/- What each cell of a plan is for, in numbers; and where it stands. Condition: the plan's numbers are in their bounds. -/
namespace Go.Proofs.Ytlhigibgjggidaa
open Go.RowKit

/-- what a cell is for: kind, i, j -/
def findK (P T R a : Int) : Int :=
  if a = 0 ∨ a = 7 then 0 else if a < 8 then 1 else if a < 16 then 2
  else if a < tabI T R then (if (a - 16) % (5 + R) < 5 then 3 else 4)
  else if a < baseI P T R then (if 3 ≤ (a - tabI T R) / P then 0 else 5 + (a - tabI T R) / P) else 8
def findA (P T R a : Int) : Int :=
  if a = 0 ∨ a = 7 then 0 else if a < 8 then a else if a < 16 then a - 8
  else if a < tabI T R then (a - 16) / (5 + R)
  else if a < baseI P T R then (if 3 ≤ (a - tabI T R) / P then 0 else (a - tabI T R) % P) else (a - baseI P T R) / 64
def findB (P T R a : Int) : Int :=
  if a = 0 ∨ a = 7 then 0 else if a < 8 then 0 else if a < 16 then 0
  else if a < tabI T R then (if (a - 16) % (5 + R) < 5 then (a - 16) % (5 + R) else (a - 16) % (5 + R) - 5)
  else if a < baseI P T R then 0 else (a - baseI P T R) % 64
/-- where what is so named stands -/
def posI (P T R k i j : Int) : Int :=
  if k = 1 then i else if k = 2 then 8 + i else if k = 3 then 16 + i * (5 + R) + j else if k = 4 then 16 + i * (5 + R) + (5 + j)
  else if k = 5 then tabI T R + i else if k = 6 then tabI T R + P + i else if k = 7 then tabI T R + 2 * P + i else baseI P T R + 64 * i + j
/-- may it be named so? -/
def okI (P T R k i j : Int) : Prop :=
  (k = 1 ∧ 1 ≤ i ∧ i ≤ 6 ∧ j = 0) ∨ (k = 2 ∧ 0 ≤ i ∧ i ≤ 7 ∧ j = 0) ∨ (k = 3 ∧ 0 ≤ i ∧ i < T ∧ 0 ≤ j ∧ j ≤ 4) ∨ (k = 4 ∧ 0 ≤ i ∧ i < T ∧ 0 ≤ j ∧ j < R) ∨
  (k = 5 ∧ 0 ≤ i ∧ i < P ∧ j = 0) ∨ (k = 6 ∧ 0 ≤ i ∧ i < P ∧ j = 0) ∨ (k = 7 ∧ 0 ≤ i ∧ i < P ∧ j = 0) ∨ (k = 8 ∧ 0 ≤ i ∧ i < P ∧ 0 ≤ j ∧ j < 64)
theorem div_lt {a m t : Int} (hm : 0 < m) (h : a < t * m) : a / m < t := Int.ediv_lt_of_lt_mul hm h
theorem mul_le_of {i T m : Int} (h : i < T) (hm : 0 < m) : i * m + m ≤ T * m := by
  have h1 : i + 1 ≤ T := by omega
  have h2 := Int.mul_le_mul_of_nonneg_right h1 (Int.le_of_lt hm)
  rw [Int.add_mul, Int.one_mul] at h2
  exact h2
theorem div_mul_add {i m j : Int} (hm : 0 < m) (h0 : 0 ≤ j) (h1 : j < m) : (i * m + j) / m = i ∧ (i * m + j) % m = j := by
  constructor
  · rw [Int.add_comm, Int.add_mul_ediv_right _ _ (by omega), Int.ediv_eq_zero_of_lt h0 h1]; omega
  · rw [Int.add_comm, Int.add_mul_emod_self_right, Int.emod_eq_of_lt h0 h1]
theorem find_1 {P T R a : Int} (c : ¬ (a = 0 ∨ a = 7)) (c1 : a < 8) : findK P T R a = 1 ∧ findA P T R a = a ∧ findB P T R a = 0 := by
  unfold findK findA findB; simp only [c, c1, if_true, if_false]; exact ⟨by trivial, by trivial, by trivial⟩
theorem find_2 {P T R a : Int} (c1 : 8 ≤ a) (c2 : a < 16) : findK P T R a = 2 ∧ findA P T R a = a - 8 ∧ findB P T R a = 0 := by
  have c : ¬ (a = 0 ∨ a = 7) := by omega
  have c1' : ¬ a < 8 := by omega
  unfold findK findA findB; simp only [c, c1', c2, if_true, if_false]; exact ⟨by trivial, by trivial, by trivial⟩
theorem find_3 {P T R a : Int} (c1 : 16 ≤ a) (c2 : a < tabI T R) : findK P T R a = (if (a - 16) % (5 + R) < 5 then 3 else 4) ∧ findA P T R a = (a - 16) / (5 + R) ∧ findB P T R a = (if (a - 16) % (5 + R) < 5 then (a - 16) % (5 + R) else (a - 16) % (5 + R) - 5) := by
  have c : ¬ (a = 0 ∨ a = 7) := by omega
  have c1' : ¬ a < 8 := by omega
  have c1'' : ¬ a < 16 := by omega
  unfold findK findA findB; simp only [c, c1', c1'', c2, if_true, if_false]; exact ⟨by trivial, by trivial, by trivial⟩
theorem find_5 {P T R a : Int} (c1 : 16 ≤ a) (c2 : tabI T R ≤ a) (c3 : a < baseI P T R) : findK P T R a = (if 3 ≤ (a - tabI T R) / P then 0 else 5 + (a - tabI T R) / P) ∧ findA P T R a = (if 3 ≤ (a - tabI T R) / P then 0 else (a - tabI T R) % P) ∧ findB P T R a = 0 := by
  have c : ¬ (a = 0 ∨ a = 7) := by omega
  have c1' : ¬ a < 8 := by omega
  have c1'' : ¬ a < 16 := by omega
  have c2' : ¬ a < tabI T R := by omega
  unfold findK findA findB; simp only [c, c1', c1'', c2', c3, if_true, if_false]; exact ⟨by trivial, by trivial, by trivial⟩
theorem find_8 {P T R a : Int} (c1 : 16 ≤ a) (c2 : tabI T R ≤ a) (c3 : baseI P T R ≤ a) : findK P T R a = 8 ∧ findA P T R a = (a - baseI P T R) / 64 ∧ findB P T R a = (a - baseI P T R) % 64 := by
  have c : ¬ (a = 0 ∨ a = 7) := by omega
  have c1' : ¬ a < 8 := by omega
  have c1'' : ¬ a < 16 := by omega
  have c2' : ¬ a < tabI T R := by omega
  have c3' : ¬ a < baseI P T R := by omega
  unfold findK findA findB; simp only [c, c1', c1'', c2', c3', if_false]; exact ⟨by trivial, by trivial, by trivial⟩
theorem pos_1 (P T R i j : Int) : posI P T R 1 i j = i := rfl
theorem pos_2 (P T R i j : Int) : posI P T R 2 i j = 8 + i := rfl
theorem pos_3 (P T R i j : Int) : posI P T R 3 i j = 16 + i * (5 + R) + j := rfl
theorem pos_4 (P T R i j : Int) : posI P T R 4 i j = 16 + i * (5 + R) + (5 + j) := rfl
theorem pos_5 (P T R i j : Int) : posI P T R 5 i j = tabI T R + i := rfl
theorem pos_6 (P T R i j : Int) : posI P T R 6 i j = tabI T R + P + i := rfl
theorem pos_7 (P T R i j : Int) : posI P T R 7 i j = tabI T R + 2 * P + i := rfl
theorem pos_8 (P T R i j : Int) : posI P T R 8 i j = baseI P T R + 64 * i + j := rfl
/-- what stands where it is said to -/
theorem find_pos {P T R k i j : Int} (h : Right P T R) (ho : okI P T R k i j) :
    (findK P T R (posI P T R k i j) = k ∧ findA P T R (posI P T R k i j) = i ∧ findB P T R (posI P T R k i j) = j) ∧ 0 ≤ posI P T R k i j ∧ posI P T R k i j < baseI P T R + 64 * P := by
  have ht := tab_bd h
  have hb := base_bd h
  obtain ⟨⟨p1, p2⟩, ⟨t1, t2⟩, r1, r2⟩ := h
  have htab : tabI T R = 16 + T * (5 + R) := rfl
  rcases ho with ⟨rfl, h1, h2, rfl⟩ | ⟨rfl, h1, h2, rfl⟩ | ⟨rfl, h1, h2, h3, h4⟩ | ⟨rfl, h1, h2, h3, h4⟩ | ⟨rfl, h1, h2, rfl⟩ | ⟨rfl, h1, h2, rfl⟩ | ⟨rfl, h1, h2, rfl⟩ | ⟨rfl, h1, h2, h3, h4⟩
  · rw [pos_1]
    exact ⟨find_1 (by omega) (by omega), by omega, by omega⟩
  · rw [pos_2]
    obtain ⟨e1, e2, e3⟩ := find_2 (P := P) (T := T) (R := R) (a := 8 + i) (by omega) (by omega)
    exact ⟨⟨e1, by omega, e3⟩, by omega, by omega⟩
  · rw [pos_3]
    have hm := mul_le_of h2 (show 0 < 5 + R by omega)
    have h0 : 0 ≤ i * (5 + R) := Int.mul_nonneg h1 (by omega)
    have hd := div_mul_add (i := i) (m := 5 + R) (j := j) (by omega) h3 (by omega)
    obtain ⟨e1, e2, e3⟩ := find_3 (P := P) (T := T) (R := R) (a := 16 + i * (5 + R) + j) (by omega) (by omega)
    rw [show 16 + i * (5 + R) + j - 16 = i * (5 + R) + j by omega, hd.1] at e2
    rw [show 16 + i * (5 + R) + j - 16 = i * (5 + R) + j by omega, hd.2, if_pos (by omega)] at e1 e3
    exact ⟨⟨e1, e2, e3⟩, by omega, by omega⟩
  · rw [pos_4]
    have hm := mul_le_of h2 (show 0 < 5 + R by omega)
    have h0 : 0 ≤ i * (5 + R) := Int.mul_nonneg h1 (by omega)
    have hd := div_mul_add (i := i) (m := 5 + R) (j := 5 + j) (by omega) (by omega) (by omega)
    obtain ⟨e1, e2, e3⟩ := find_3 (P := P) (T := T) (R := R) (a := 16 + i * (5 + R) + (5 + j)) (by omega) (by omega)
    rw [show 16 + i * (5 + R) + (5 + j) - 16 = i * (5 + R) + (5 + j) by omega, hd.1] at e2
    rw [show 16 + i * (5 + R) + (5 + j) - 16 = i * (5 + R) + (5 + j) by omega, hd.2, if_neg (by omega)] at e1 e3
    exact ⟨⟨e1, e2, by omega⟩, by omega, by omega⟩
  · rw [pos_5]
    obtain ⟨e1, e2, e3⟩ := find_5 (P := P) (T := T) (R := R) (a := tabI T R + i) (by omega) (by omega) (by omega)
    have hd := div_mul_add (i := 0) (m := P) (j := i) (by omega) (by omega) (by omega)
    rw [show tabI T R + i - tabI T R = 0 * P + i by omega, hd.1] at e1
    rw [show tabI T R + i - tabI T R = 0 * P + i by omega, hd.1, hd.2] at e2
    exact ⟨⟨e1, e2, e3⟩, by omega, by omega⟩
  · rw [pos_6]
    obtain ⟨e1, e2, e3⟩ := find_5 (P := P) (T := T) (R := R) (a := tabI T R + P + i) (by omega) (by omega) (by omega)
    have hd := div_mul_add (i := 1) (m := P) (j := i) (by omega) (by omega) (by omega)
    rw [show tabI T R + P + i - tabI T R = 1 * P + i by omega, hd.1] at e1
    rw [show tabI T R + P + i - tabI T R = 1 * P + i by omega, hd.1, hd.2] at e2
    exact ⟨⟨e1, e2, e3⟩, by omega, by omega⟩
  · rw [pos_7]
    obtain ⟨e1, e2, e3⟩ := find_5 (P := P) (T := T) (R := R) (a := tabI T R + 2 * P + i) (by omega) (by omega) (by omega)
    have hd := div_mul_add (i := 2) (m := P) (j := i) (by omega) (by omega) (by omega)
    rw [show tabI T R + 2 * P + i - tabI T R = 2 * P + i by omega, hd.1] at e1
    rw [show tabI T R + 2 * P + i - tabI T R = 2 * P + i by omega, hd.1, hd.2] at e2
    exact ⟨⟨e1, e2, e3⟩, by omega, by omega⟩
  · rw [pos_8]
    obtain ⟨e1, e2, e3⟩ := find_8 (P := P) (T := T) (R := R) (a := baseI P T R + 64 * i + j) (by omega) (by omega) (by omega)
    exact ⟨⟨e1, by omega, by omega⟩, by omega, by omega⟩
/-- what a cell is for tells where it stands -/
theorem pos_find {P T R a : Int} (h : Right P T R) (h0 : 0 ≤ a) (h1 : a < baseI P T R + 64 * P) :
    (findK P T R a = 0 ∧ findA P T R a = 0 ∧ findB P T R a = 0 ∧ (a < 8 ∨ a < baseI P T R)) ∨ (okI P T R (findK P T R a) (findA P T R a) (findB P T R a) ∧ posI P T R (findK P T R a) (findA P T R a) (findB P T R a) = a) := by
  have ht := tab_bd h
  have hb := base_bd h
  obtain ⟨⟨p1, p2⟩, ⟨t1, t2⟩, r1, r2⟩ := h
  have htab : tabI T R = 16 + T * (5 + R) := rfl
  by_cases c : a = 0 ∨ a = 7
  · left
    unfold findK findA findB; simp only [c, if_true]; exact ⟨by trivial, by trivial, by trivial, by omega⟩
  by_cases c1 : a < 8
  · right
    obtain ⟨e1, e2, e3⟩ := find_1 (P := P) (T := T) (R := R) c c1
    rw [e1, e2, e3]
    exact ⟨by unfold okI; omega, rfl⟩
  by_cases c2 : a < 16
  · right
    obtain ⟨e1, e2, e3⟩ := find_2 (P := P) (T := T) (R := R) (a := a) (by omega) c2
    rw [e1, e2, e3, pos_2]
    exact ⟨by unfold okI; omega, by omega⟩
  by_cases c3 : a < tabI T R
  · right
    obtain ⟨e1, e2, e3⟩ := find_3 (P := P) (T := T) (R := R) (a := a) (by omega) c3
    have hq := div_lt (a := a - 16) (m := 5 + R) (t := T) (by omega) (by omega)
    have hq0 : 0 ≤ (a - 16) / (5 + R) := Int.ediv_nonneg (by omega) (by omega)
    have hr0 : 0 ≤ (a - 16) % (5 + R) := Int.emod_nonneg _ (by omega)
    have hr1 : (a - 16) % (5 + R) < 5 + R := Int.emod_lt_of_pos _ (by omega)
    have hqr := Int.mul_ediv_add_emod (a - 16) (5 + R)
    rw [Int.mul_comm] at hqr
    rw [e1, e2, e3]
    generalize (a - 16) / (5 + R) = q at *
    generalize (a - 16) % (5 + R) = r at *
    by_cases c4 : r < 5
    · rw [if_pos c4, if_pos c4, pos_3]
      exact ⟨by unfold okI; omega, by omega⟩
    · rw [if_neg c4, if_neg c4, pos_4]
      exact ⟨by unfold okI; omega, by omega⟩
  by_cases c4 : a < baseI P T R
  · obtain ⟨e1, e2, e3⟩ := find_5 (P := P) (T := T) (R := R) (a := a) (by omega) (by omega) c4
    have hq0 : 0 ≤ (a - tabI T R) / P := Int.ediv_nonneg (by omega) (by omega)
    have hr0 : 0 ≤ (a - tabI T R) % P := Int.emod_nonneg _ (by omega)
    have hr1 : (a - tabI T R) % P < P := Int.emod_lt_of_pos _ (by omega)
    have hqr := Int.mul_ediv_add_emod (a - tabI T R) P
    rw [e1, e2, e3]
    generalize (a - tabI T R) / P = q at *
    generalize (a - tabI T R) % P = r at *
    by_cases c5 : 3 ≤ q
    · left
      rw [if_pos c5, if_pos c5]; exact ⟨rfl, rfl, rfl, .inr c4⟩
    · right
      rw [if_neg c5, if_neg c5]
      have hq : q = 0 ∨ q = 1 ∨ q = 2 := by omega
      rcases hq with rfl | rfl | rfl
      · rw [show (5 + 0 : Int) = 5 from rfl, pos_5]
        exact ⟨by unfold okI; omega, by omega⟩
      · rw [show (5 + 1 : Int) = 6 from rfl, pos_6]
        exact ⟨by unfold okI; omega, by omega⟩
      · rw [show (5 + 2 : Int) = 7 from rfl, pos_7]
        exact ⟨by unfold okI; omega, by omega⟩
  · right
    obtain ⟨e1, e2, e3⟩ := find_8 (P := P) (T := T) (R := R) (a := a) (by omega) (by omega) (by omega)
    rw [e1, e2, e3, pos_8]
    exact ⟨by unfold okI; omega, by omega⟩
end Go.Proofs.Ytlhigibgjggidaa
/- What Right of the document's layer 6 returns. No condition. -/
namespace Go.Proofs.Ytlhigibgjggidaa
open Go.RowKit
set_option linter.unusedVariables false
set_option linter.unusedSimpArgs false
set_option maxHeartbeats 1000000 in
theorem rright_any (P T R : Int) (w : World) :
    Calls Try.prog 42 #[.agg #[.int .i64 P, .int .i64 T, .int .i64 R]] w fun e w' => e = .returned (.bool (rightB P T R)) ∧ Below w.heap.size w w' := by
  by_cases h0 : 1 ≤ P
  rotate_left 1
  · rw [show rightB P T R = false by simp [rightB, inB]; omega]
    have g0 : decide (1 ≤ P) = false := decide_eq_false h0
    go_enter Try.func42, Try.ntmps42
    go_wp2
    go_ret
    exact ⟨rfl, (Below.refl _ _).alloc (Nat.le_refl _) _⟩
  by_cases h1 : P ≤ 32
  rotate_left 1
  · rw [show rightB P T R = false by simp [rightB, inB]; omega]
    have g1 : decide (P ≤ 32) = false := decide_eq_false h1
    go_enter Try.func42, Try.ntmps42
    go_wp2
    go_ret
    exact ⟨rfl, (Below.refl _ _).alloc (Nat.le_refl _) _⟩
  by_cases h2 : 1 ≤ T
  rotate_left 1
  · rw [show rightB P T R = false by simp [rightB, inB]; omega]
    have g2 : decide (1 ≤ T) = false := decide_eq_false h2
    go_enter Try.func42, Try.ntmps42
    go_wp2
    go_ret
    exact ⟨rfl, (Below.refl _ _).alloc (Nat.le_refl _) _⟩
  by_cases h3 : T ≤ 6
  rotate_left 1
  · rw [show rightB P T R = false by simp [rightB, inB]; omega]
    have g3 : decide (T ≤ 6) = false := decide_eq_false h3
    go_enter Try.func42, Try.ntmps42
    go_wp2
    go_ret
    exact ⟨rfl, (Below.refl _ _).alloc (Nat.le_refl _) _⟩
  by_cases h4 : 1 ≤ R
  rotate_left 1
  · rw [show rightB P T R = false by simp [rightB, inB]; omega]
    have g4 : decide (1 ≤ R) = false := decide_eq_false h4
    go_enter Try.func42, Try.ntmps42
    go_wp2
    go_ret
    exact ⟨rfl, (Below.refl _ _).alloc (Nat.le_refl _) _⟩
  by_cases h5 : R ≤ 16
  rotate_left 1
  · rw [show rightB P T R = false by simp [rightB, inB]; omega]
    have g5 : decide (R ≤ 16) = false := decide_eq_false h5
    go_enter Try.func42, Try.ntmps42
    go_wp2
    go_ret
    exact ⟨rfl, (Below.refl _ _).alloc (Nat.le_refl _) _⟩
  rw [show rightB P T R = true by simp [rightB, inB]; omega]
  go_enter Try.func42, Try.ntmps42
  go_wp2
  go_ret
  exact ⟨rfl, (Below.refl _ _).alloc (Nat.le_refl _) _⟩
end Go.Proofs.Ytlhigibgjggidaa
/- What Spots of the document's layer 6 returns: new memory that tells of each cell what it is for. Condition: the plan's numbers are in their bounds (else: none). -/
namespace Go.Proofs.Ytlhigibgjggidaa
open Go.RowKit
set_option linter.unusedVariables false
set_option linter.unusedSimpArgs false
theorem info_spot : (Try.prog.info? 108).map (fun i => (i.zero, i.size, i.bytes)) = some (some (.agg #[.int .i64 0, .int .i64 0, .int .i64 0]), 3, 24) := by kernel_rfl
theorem cell_three_new (w : World) (x y z : Value) (t : TypeId) : ∀ j u, [x, y, z][j]? = some u → (w.alloc (.cells #[x, y, z] t)).cell? ((⟨w.heap.size, 0, none⟩ : Addr).add j) = some u := by
  intro j u hj
  match j, hj with
  | 0, hj => simp at hj; subst hj; simp [Addr.add]
  | 1, hj => simp at hj; subst hj; simp [Addr.add]
  | 2, hj => simp at hj; subst hj; simp [Addr.add]
/-- the cells of the first n numbers, one behind the other -/
def spotsL (P T R : Int) (n : Nat) : List Value := (List.range n).flatMap fun (k : Nat) => [.int .i64 (findK P T R k), .int .i64 (findA P T R k), .int .i64 (findB P T R k)]
theorem spotsL_succ (P T R : Int) (n : Nat) : spotsL P T R (n + 1) = spotsL P T R n ++ [.int .i64 (findK P T R n), .int .i64 (findA P T R n), .int .i64 (findB P T R n)] := by
  unfold spotsL; rw [List.range_succ, List.flatMap_append]; simp
/-- The list so far: the first n numbers; the plan's box; all that was there below. -/
structure SpotsAt (w W : World) (P T R : Int) (v : Value) (n : Nat) : Prop where
  box : Blk W w.heap.size #[.int .i64 P, .int .i64 T, .int .i64 R] 23
  own : W.ownsRow (w.heap.size + 1) 108 3 v n (spotsL P T R n)
  bel : Below w.heap.size w W
theorem Blk.grownBy {w w' : World} {b : Nat} {cs : Array Value} {t : TypeId} {row : Option Nat} (h : Blk w b cs t) (hg : w.grownBy w' row) (hr : ∀ k, row = some k → k ≠ b) : Blk w' b cs t :=
  h.of (hg.block b h.lt (fun e => hr b e.symm rfl))
theorem spots_step {w W W' : World} {P T R : Int} {v v' : Value} {n : Nat} {k a b : Int} {o : Obj} (h : SpotsAt w W P T R v n)
    (hown : W'.ownsRow (w.heap.size + 1) 108 3 v' (n + 1) (spotsL P T R n ++ [.int .i64 k, .int .i64 a, .int .i64 b])) (hg : (W.alloc o).grownBy W' v.ownBlock)
    (hf : findK P T R n = k ∧ findA P T R n = a ∧ findB P T R n = b) : SpotsAt w W' P T R v' (n + 1) := by
  obtain ⟨rfl, rfl, rfl⟩ := hf
  refine ⟨(h.box.alloc o).grownBy hg (fun g hk => ?_), ?_, (h.bel.alloc h.bel.size o).grown hg (by have := h.bel.size; simp; omega) (fun g hk => ?_)⟩
  · have := (h.own.lt g hk).1; omega
  · rw [spotsL_succ]; exact hown
  · have := (h.own.lt g hk).1; omega
theorem SpotsAt.quiet {w W W' : World} {P T R : Int} {v : Value} {n : Nat} (h : SpotsAt w W P T R v n) (hq : Quiet W W') : SpotsAt w W' P T R v n :=
  ⟨h.box.quiet hq, by obtain ⟨m, rfl⟩ := hq; exact h.own, h.bel.trans hq.below⟩
theorem SpotsAt.cast {w W : World} {P T R : Int} {v : Value} {n m : Nat} (h : SpotsAt w W P T R v n) (e : n = m) : SpotsAt w W P T R v m := e ▸ h
def lenV : Value → Nat
  | .slice _ n _ => n
  | _ => 0
theorem SpotsAt.len {w W : World} {P T R : Int} {v : Value} {n : Nat} (h : SpotsAt w W P T R v n) (h0 : 0 < n) : ∃ g c, v = .slice (some ⟨g, 0, none⟩) n c := by
  rcases h.own.2 with ⟨_, h2⟩ | ⟨g, c, _, h1, _⟩
  · omega
  · exact ⟨g, c, h1⟩
theorem find_t3 {P T R t m : Nat} (hm : m < 5) (ht : t < T) : findK P T R ((16 + t * (5 + R) + m : Nat) : Int) = 3 ∧ findA P T R ((16 + t * (5 + R) + m : Nat) : Int) = t ∧ findB P T R ((16 + t * (5 + R) + m : Nat) : Int) = m := by
  have hmul : (t + 1) * (5 + R) ≤ T * (5 + R) := Nat.mul_le_mul_right _ ht
  have hmul1 : (t + 1) * (5 + R) = t * (5 + R) + (5 + R) := Nat.succ_mul _ _
  have ht0 : tabI T R = ((16 + T * (5 + R) : Nat) : Int) := by unfold tabI; push_cast; rfl
  obtain ⟨e1, e2, e3⟩ := find_3 (P := (P : Int)) (T := T) (R := R) (a := ((16 + t * (5 + R) + m : Nat) : Int)) (by omega) (by omega)
  have hd := div_mul_add (i := t) (m := ((5 + R : Nat) : Int)) (j := m) (by omega) (by omega) (by omega)
  have hx : ((16 + t * (5 + R) + m : Nat) : Int) - 16 = (t : Int) * ((5 + R : Nat) : Int) + m := by push_cast; omega
  have hy : (5 + (R : Int)) = ((5 + R : Nat) : Int) := by push_cast; rfl
  rw [hx, hy, hd.1] at e2
  rw [hx, hy, hd.2, if_pos (by omega)] at e1 e3
  exact ⟨e1, e2, e3⟩
theorem find_t4 {P T R t m : Nat} (hm : m < R) (ht : t < T) : findK P T R ((16 + t * (5 + R) + 5 + m : Nat) : Int) = 4 ∧ findA P T R ((16 + t * (5 + R) + 5 + m : Nat) : Int) = t ∧ findB P T R ((16 + t * (5 + R) + 5 + m : Nat) : Int) = m := by
  have hmul : (t + 1) * (5 + R) ≤ T * (5 + R) := Nat.mul_le_mul_right _ ht
  have hmul1 : (t + 1) * (5 + R) = t * (5 + R) + (5 + R) := Nat.succ_mul _ _
  have ht0 : tabI T R = ((16 + T * (5 + R) : Nat) : Int) := by unfold tabI; push_cast; rfl
  obtain ⟨e1, e2, e3⟩ := find_3 (P := (P : Int)) (T := T) (R := R) (a := ((16 + t * (5 + R) + 5 + m : Nat) : Int)) (by omega) (by omega)
  have hd := div_mul_add (i := t) (m := ((5 + R : Nat) : Int)) (j := ((5 + m : Nat) : Int)) (by omega) (by omega) (by omega)
  have hx : ((16 + t * (5 + R) + 5 + m : Nat) : Int) - 16 = (t : Int) * ((5 + R : Nat) : Int) + ((5 + m : Nat) : Int) := by push_cast; omega
  have hy : (5 + (R : Int)) = ((5 + R : Nat) : Int) := by push_cast; rfl
  rw [hx, hy, hd.1] at e2
  rw [hx, hy, hd.2, if_neg (by omega)] at e1 e3
  exact ⟨e1, e2, by omega⟩
theorem find_p {P T R y q m : Nat} (hy : 16 ≤ y) (hp : 0 < P) (ht : tabI T R = y) (hb : tabI T R + 3 * P ≤ baseI P T R) (hq : q ≤ 2) (hm : m < P) (_ : y < 1000) : findK P T R ((y + q * P + m : Nat) : Int) = 5 + q ∧ findA P T R ((y + q * P + m : Nat) : Int) = m ∧ findB P T R ((y + q * P + m : Nat) : Int) = 0 := by
  have hmq : q * P ≤ 2 * P := Nat.mul_le_mul_right _ hq
  obtain ⟨e1, e2, e3⟩ := find_5 (P := (P : Int)) (T := T) (R := R) (a := ((y + q * P + m : Nat) : Int)) (by omega) (by omega) (by omega)
  have hd := div_mul_add (i := q) (m := (P : Int)) (j := m) (by omega) (by omega) (by omega)
  have hx : ((y + q * P + m : Nat) : Int) - tabI T R = (q : Int) * (P : Int) + m := by rw [ht]; push_cast; omega
  rw [hx, hd.1, if_neg (by omega)] at e1
  rw [hx, hd.1, hd.2, if_neg (by omega)] at e2
  exact ⟨e1, e2, e3⟩
theorem find_g0 {P T R y n : Nat} (ht : tabI T R = y) (hy : 16 ≤ y) (hn : y + 3 * P ≤ n) (hb : (n : Int) < baseI P T R) (hp : 0 < P) : findK P T R (n : Int) = 0 ∧ findA P T R (n : Int) = 0 ∧ findB P T R (n : Int) = 0 := by
  obtain ⟨e1, e2, e3⟩ := find_5 (P := (P : Int)) (T := T) (R := R) (a := (n : Int)) (by omega) (by omega) (by omega)
  have h3 : 3 ≤ ((n : Int) - tabI T R) / P := (Int.le_ediv_iff_mul_le (by omega)).2 (by omega)
  rw [if_pos h3] at e1 e2
  exact ⟨e1, e2, e3⟩
theorem find_h8 {P T R y Z m u : Nat} (ht : tabI T R = y) (hZ : baseI P T R = Z) (hy : 16 ≤ y) (hn : y ≤ Z) (hu : u < 64) : findK P T R ((Z + 64 * m + u : Nat) : Int) = 8 ∧ findA P T R ((Z + 64 * m + u : Nat) : Int) = m ∧ findB P T R ((Z + 64 * m + u : Nat) : Int) = u := by
  obtain ⟨e1, e2, e3⟩ := find_8 (P := (P : Int)) (T := T) (R := R) (a := ((Z + 64 * m + u : Nat) : Int)) (by omega) (by omega) (by omega)
  rw [hZ] at e2 e3
  exact ⟨e1, by omega, by omega⟩
set_option maxRecDepth 100000 in
set_option maxHeartbeats 4000000 in
theorem spots_walk (P T R : Nat) (w : World) (hR : Right P T R) :
    Calls Try.prog 41 #[.agg #[.int .i64 P, .int .i64 T, .int .i64 R]] w fun e w' => ∃ (v : Value) (n : Nat), e = .returned v ∧ (n : Int) = baseI P T R + 64 * P ∧ SpotsAt w w' P T R v n := by
  have V := Lib.hid (fun W => rright_any P T R W)
  rw [of_right hR] at V
  have ht := tab_bd hR
  have hb := base_bd hR
  have hRh := Lib.hid hR
  obtain ⟨⟨p1, p2⟩, ⟨t1, t2⟩, r1, r2⟩ := hR
  have ht0 : tabI T R = ((16 + T * (5 + R) : Nat) : Int) := by unfold tabI; push_cast; rfl
  obtain ⟨i0, hi, hz0, hz1, hz2⟩ := info_parts info_spot
  go_enter Try.func41, Try.ntmps41
  go_wp2_with fail
  refine (V.out _).mono ?_; rintro e w1 ⟨rfl, hb1⟩
  have X1 := (Blk.new w #[.int .i64 P, .int .i64 T, .int .i64 R] 23).grew hb1
  have B1 : Below w.heap.size w w1 := ((Below.refl _ _).alloc (Nat.le_refl _) _).trans (hb1.mono (by simp))
  have S0 : SpotsAt w w1 P T R (.slice none 0 0) 0 := ⟨X1, by rw [show spotsL (P : Int) T R 0 = [] from rfl]; exact World.ownsRow_nil _ _ _ _, B1⟩
  clear X1 B1 hb1
  have hsz := S0.bel.size
  go_wp2_with (at_builtin; refine wpList_append_own _ rfl _ _ 103 rfl (w.heap.size + 1) 108 i0 (.agg #[.int .i64 0, .int .i64 0, .int .i64 0]) 3 24 Try.underlying103 hi hz0 hz1 hz2 rfl (by decide) _ _ _ rfl (S0.own.alloc _) ⟨w1.heap.size, 0, none⟩ 1 1 [.int .i64 0, .int .i64 0, .int .i64 0] rfl rfl (cell_three_new _ _ _ _ _) ?c2x1 ?c3x1 ?c4x1 ?c5x1 ?_)
  try (case c2x1 => (simp [Value.oneCell']))
  try (case c3x1 => (unfold maxLen; omega))
  try (case c4x1 => (omega))
  try (case c5x1 => (have := S0.box.lt; simp; omega))
  intro v3 w3 hown3 hgrow _
  have S1 := spots_step S0 hown3 hgrow (by exact ⟨rfl, rfl, rfl⟩)
  clear hown3 hgrow
  clear S0
  go_wp2
  go_loopw [3, 4] (fun v x wr => ∃ m : Nat, 1 ≤ m ∧ m ≤ 7 ∧ x = .int .i64 m ∧ SpotsAt w wr P T R v m)
    (fun _ x _ => 8 - (intOf x).toNat)
  case atStart => exact ⟨1, by omega, by omega, rfl, S1⟩
  case round =>
    obtain ⟨m, hm1, hm2, rfl, hS⟩ := hrel
    by_cases hlt : (m : Int) ≤ 6
    ·
      have hsz := hS.bel.size
      go_wp2_with (at_builtin; refine wpList_append_own _ rfl _ _ 103 rfl (w.heap.size + 1) 108 i0 (.agg #[.int .i64 0, .int .i64 0, .int .i64 0]) 3 24 Try.underlying103 hi hz0 hz1 hz2 rfl (by decide) _ _ _ rfl (hS.own.alloc _) ⟨wr.heap.size, 0, none⟩ 1 1 [.int .i64 1, .int .i64 m, .int .i64 0] rfl rfl (cell_three_new _ _ _ _ _) ?c2x2 ?c3x2 ?c4x2 ?c5x2 ?_)
      try (case c2x2 => (simp [Value.oneCell']))
      try (case c3x2 => (unfold maxLen; omega))
      try (case c4x2 => (omega))
      try (case c5x2 => (have := hS.box.lt; simp; omega))
      intro v3 w3 hown3 hgrow _
      have S2 := spots_step hS hown3 hgrow (find_1 (by omega) (by omega))
      clear hown3 hgrow
      go_wp2
      go_roundw
      case rel => exact ⟨m + 1, by omega, by omega, by go_num, S2⟩
      case measure => simp [intOf]; omega
    ·
      have S2 := hS.cast (show m = 7 by omega)
      clear S1 hS
      have hsz := S2.bel.size
      go_wp2_with (at_builtin; refine wpList_append_own _ rfl _ _ 103 rfl (w.heap.size + 1) 108 i0 (.agg #[.int .i64 0, .int .i64 0, .int .i64 0]) 3 24 Try.underlying103 hi hz0 hz1 hz2 rfl (by decide) _ _ _ rfl (S2.own.alloc _) ⟨wr.heap.size, 0, none⟩ 1 1 [.int .i64 0, .int .i64 0, .int .i64 0] rfl rfl (cell_three_new _ _ _ _ _) ?c2x3 ?c3x3 ?c4x3 ?c5x3 ?_)
      try (case c2x3 => (simp [Value.oneCell']))
      try (case c3x3 => (unfold maxLen; omega))
      try (case c4x3 => (omega))
      try (case c5x3 => (have := S2.box.lt; simp; omega))
      intro v3 w3 hown3 hgrow _
      have S3 := spots_step S2 hown3 hgrow (by exact ⟨rfl, rfl, rfl⟩)
      clear hown3 hgrow
      clear S2 hlt
      go_wp2
      go_loopw [3, 5] (fun v x wr => ∃ m : Nat, m ≤ 8 ∧ x = .int .i64 m ∧ SpotsAt w wr P T R v (8 + m))
        (fun _ x _ => 8 - (intOf x).toNat)
      case atStart => exact ⟨0, by omega, rfl, S3⟩
      case round =>
        obtain ⟨m, hm2, rfl, hS⟩ := hrel
        by_cases hlt : (m : Int) < 8
        ·
          have hsz := hS.bel.size
          go_wp2_with (at_builtin; refine wpList_append_own _ rfl _ _ 103 rfl (w.heap.size + 1) 108 i0 (.agg #[.int .i64 0, .int .i64 0, .int .i64 0]) 3 24 Try.underlying103 hi hz0 hz1 hz2 rfl (by decide) _ _ _ rfl (hS.own.alloc _) ⟨wr.heap.size, 0, none⟩ 1 1 [.int .i64 2, .int .i64 m, .int .i64 0] rfl rfl (cell_three_new _ _ _ _ _) ?c2x4 ?c3x4 ?c4x4 ?c5x4 ?_)
          try (case c2x4 => (simp [Value.oneCell']))
          try (case c3x4 => (unfold maxLen; omega))
          try (case c4x4 => (omega))
          try (case c5x4 => (have := hS.box.lt; simp; omega))
          intro v3 w3 hown3 hgrow _
          have S2 := spots_step hS hown3 hgrow (by obtain ⟨e1, e2, e3⟩ := find_2 (P := (P : Int)) (T := T) (R := R) (a := ((8 + m : Nat) : Int)) (by omega) (by omega); exact ⟨e1, by omega, e3⟩)
          clear hown3 hgrow
          go_wp2
          go_roundw
          case rel => exact ⟨m + 1, by omega, by go_num, S2⟩
          case measure => simp [intOf]; omega
        ·
          have S4 := hS.cast (show 8 + m = 16 + 0 * (5 + R) by omega)
          clear S3 hS
          go_wp2
          go_loopw [3, 6] (fun v x wr => ∃ t : Nat, t ≤ T ∧ x = .int .i64 t ∧ SpotsAt w wr P T R v (16 + t * (5 + R)))
            (fun _ x _ => T - (intOf x).toNat)
          case atStart => exact ⟨0, by omega, rfl, S4⟩
          case round =>
            obtain ⟨t, ht2, rfl, hS⟩ := hrel
            have q1 := hS.box.val 1 rfl
            by_cases hlt : t < T
            ·
              have hmul : (t + 1) * (5 + R) ≤ T * (5 + R) := Nat.mul_le_mul_right _ hlt
              have hmul1 : (t + 1) * (5 + R) = t * (5 + R) + (5 + R) := Nat.succ_mul _ _
              have hm126 : T * (5 + R) ≤ 126 := by have := Nat.mul_le_mul (show T ≤ 6 by omega) (show 5 + R ≤ 21 by omega); omega
              have hS5 := hS.cast (show 16 + t * (5 + R) = 16 + t * (5 + R) + 0 by omega)
              clear S4 hS
              go_wp2
              go_loopw [3, 7] (fun v x wr => ∃ m : Nat, m ≤ 5 ∧ x = .int .i64 m ∧ SpotsAt w wr P T R v (16 + t * (5 + R) + m))
                (fun _ x _ => 5 - (intOf x).toNat)
              case atStart => exact ⟨0, by omega, rfl, hS5⟩
              case round =>
                obtain ⟨m, hm2, rfl, hS⟩ := hrel
                by_cases hl5 : (m : Int) < 5
                ·
                  have hsz := hS.bel.size
                  go_wp2_with (at_builtin; refine wpList_append_own _ rfl _ _ 103 rfl (w.heap.size + 1) 108 i0 (.agg #[.int .i64 0, .int .i64 0, .int .i64 0]) 3 24 Try.underlying103 hi hz0 hz1 hz2 rfl (by decide) _ _ _ rfl (hS.own.alloc _) ⟨wr.heap.size, 0, none⟩ 1 1 [.int .i64 3, .int .i64 t, .int .i64 m] rfl rfl (cell_three_new _ _ _ _ _) ?c2x5 ?c3x5 ?c4x5 ?c5x5 ?_)
                  try (case c2x5 => (simp [Value.oneCell']))
                  try (case c3x5 => (unfold maxLen; omega))
                  try (case c4x5 => (omega))
                  try (case c5x5 => (have := hS.box.lt; simp; omega))
                  intro v3 w3 hown3 hgrow _
                  have S2 := spots_step hS hown3 hgrow (find_t3 (by omega) hlt)
                  clear hown3 hgrow
                  go_wp2
                  go_roundw
                  case rel => exact ⟨m + 1, by omega, by go_num, S2⟩
                  case measure => simp [intOf]; omega
                ·
                  have S5 := hS.cast (show 16 + t * (5 + R) + m = 16 + t * (5 + R) + 5 + 0 by omega)
                  clear hS hS5
                  go_wp2
                  go_loopw [3, 8] (fun v x wr => ∃ m : Nat, m ≤ R ∧ x = .int .i64 m ∧ SpotsAt w wr P T R v (16 + t * (5 + R) + 5 + m))
                    (fun _ x _ => R - (intOf x).toNat)
                  case atStart => exact ⟨0, by omega, rfl, S5⟩
                  case round =>
                    obtain ⟨m, hm2, rfl, hS⟩ := hrel
                    have q2 := hS.box.val 2 rfl
                    by_cases hl5 : m < R
                    ·
                      have hsz := hS.bel.size
                      go_wp2_with (at_builtin; refine wpList_append_own _ rfl _ _ 103 rfl (w.heap.size + 1) 108 i0 (.agg #[.int .i64 0, .int .i64 0, .int .i64 0]) 3 24 Try.underlying103 hi hz0 hz1 hz2 rfl (by decide) _ _ _ rfl (hS.own.alloc _) ⟨wr.heap.size, 0, none⟩ 1 1 [.int .i64 4, .int .i64 t, .int .i64 m] rfl rfl (cell_three_new _ _ _ _ _) ?c2x6 ?c3x6 ?c4x6 ?c5x6 ?_)
                      try (case c2x6 => (simp [Value.oneCell']))
                      try (case c3x6 => (unfold maxLen; omega))
                      try (case c4x6 => (omega))
                      try (case c5x6 => (have := hS.box.lt; simp; omega))
                      intro v3 w3 hown3 hgrow _
                      have S2 := spots_step hS hown3 hgrow (find_t4 (by omega) hlt)
                      clear hown3 hgrow
                      go_wp2
                      go_roundw
                      case rel => exact ⟨m + 1, by omega, by go_num, S2⟩
                      case measure => simp [intOf]; omega
                    ·
                      have S6 := hS.cast (show 16 + t * (5 + R) + 5 + m = 16 + (t + 1) * (5 + R) by omega)
                      clear hS S5
                      go_wp2
                      go_roundw
                      case rel => exact ⟨t + 1, by omega, by go_num, S6⟩
                      case measure => simp [intOf]; omega
            ·
              have htT : t = T := by omega
              subst htT
              have hm126 : t * (5 + R) ≤ 126 := by have := Nat.mul_le_mul (show t ≤ 6 by omega) (show 5 + R ≤ 21 by omega); omega
              have hy : ∃ y : Nat, y = 16 + t * (5 + R) := ⟨_, rfl⟩
              obtain ⟨y, hy⟩ := hy
              have ht1 : tabI t R = y := by rw [ht0, hy]
              have S7 := hS.cast (show 16 + t * (5 + R) = y + 0 * P by omega)
              clear S4 hS hlt ht2 hy ht0
              go_wp2
              go_loopw [3, 9] (fun v x wr => ∃ q : Nat, q ≤ 3 ∧ x = .int .i64 (5 + q) ∧ SpotsAt w wr P t R v (y + q * P))
                (fun _ x _ => 8 - (intOf x).toNat)
              case atStart => exact ⟨0, by omega, rfl, S7⟩
              case round =>
                obtain ⟨q, hq2, rfl, hS⟩ := hrel
                by_cases hlt : (5 + q : Int) ≤ 7
                ·
                  have hmq : q * P ≤ 2 * P := Nat.mul_le_mul_right _ (by omega)
                  have hmq1 : (q + 1) * P = q * P + P := Nat.succ_mul _ _
                  have hS5 := hS.cast (show y + q * P = y + q * P + 0 by omega)
                  clear S7 hS
                  go_wp2
                  go_loopw [3, 10] (fun v x wr => ∃ m : Nat, m ≤ P ∧ x = .int .i64 m ∧ SpotsAt w wr P t R v (y + q * P + m))
                    (fun _ x _ => P - (intOf x).toNat)
                  case atStart => exact ⟨0, by omega, rfl, hS5⟩
                  case round =>
                    obtain ⟨m, hm2, rfl, hS⟩ := hrel
                    have q0 := hS.box.val 0 rfl
                    by_cases hl5 : m < P
                    ·
                      have hsz := hS.bel.size
                      go_wp2_with (at_builtin; refine wpList_append_own _ rfl _ _ 103 rfl (w.heap.size + 1) 108 i0 (.agg #[.int .i64 0, .int .i64 0, .int .i64 0]) 3 24 Try.underlying103 hi hz0 hz1 hz2 rfl (by decide) _ _ _ rfl (hS.own.alloc _) ⟨wr.heap.size, 0, none⟩ 1 1 [.int .i64 (5 + q), .int .i64 m, .int .i64 0] rfl rfl (cell_three_new _ _ _ _ _) ?c2x7 ?c3x7 ?c4x7 ?c5x7 ?_)
                      try (case c2x7 => (simp [Value.oneCell']))
                      try (case c3x7 => (unfold maxLen; omega))
                      try (case c4x7 => (omega))
                      try (case c5x7 => (have := hS.box.lt; simp; omega))
                      intro v3 w3 hown3 hgrow _
                      have S2 := spots_step hS hown3 hgrow (find_p (by omega) (by omega) ht1 (by omega) (by omega) hl5 (by omega))
                      clear hown3 hgrow
                      go_wp2
                      go_roundw
                      case rel => exact ⟨m + 1, by omega, by go_num, S2⟩
                      case measure => simp [intOf]; omega
                    ·
                      have S6 := hS.cast (show y + q * P + m = y + (q + 1) * P by omega)
                      clear hS hS5
                      have hgq : IntKind.i64.wrap (5 + (q : Int) + 1) = 5 + (q : Int) + 1 := wi (by omega)
                      go_wp2
                      go_roundw
                      case rel => exact ⟨q + 1, by omega, by first | go_num | (simp; omega), S6⟩
                      case measure => simp [intOf]; omega
                ·
                  have hq3 : q = 3 := by omega
                  subst hq3
                  obtain ⟨Z, hZ⟩ : ∃ Z : Nat, baseI P t R = Z := ⟨(baseI P t R).toNat, by omega⟩
                  have S8 := hS
                  clear S7 hS hlt
                  go_wp2
                  rw [show ((5 : Int) + ((3 : Nat) : Int)) = 8 from rfl]

                  go_loopw [3] (fun v wr => ∃ n : Nat, y + 3 * P ≤ n ∧ n ≤ Z ∧ SpotsAt w wr P t R v n)
                    (fun v _ => 1000 - lenV v)
                  case atStart => exact ⟨_, by omega, by omega, S8⟩
                  case round =>
                    obtain ⟨n, hn1, hn2, hS⟩ := hrel
                    obtain ⟨g, c, rfl⟩ := hS.len (by omega)
                    by_cases hlt : n % 64 = 0
                    rotate_left 1
                    ·
                      have hn64 : ((n : Int) % 64 == 0) = false := by simp; omega
                      have hsz := hS.bel.size
                      go_wp2_with (at_builtin; refine wpList_append_own _ rfl _ _ 103 rfl (w.heap.size + 1) 108 i0 (.agg #[.int .i64 0, .int .i64 0, .int .i64 0]) 3 24 Try.underlying103 hi hz0 hz1 hz2 rfl (by decide) _ _ _ rfl (hS.own.alloc _) ⟨wr.heap.size, 0, none⟩ 1 1 [.int .i64 0, .int .i64 0, .int .i64 0] rfl rfl (cell_three_new _ _ _ _ _) ?c2x8 ?c3x8 ?c4x8 ?c5x8 ?_)
                      try (case c2x8 => (simp [Value.oneCell']))
                      try (case c3x8 => (unfold maxLen; omega))
                      try (case c4x8 => (omega))
                      try (case c5x8 => (have := hS.box.lt; simp; omega))
                      intro v3 w3 hown3 hgrow _
                      have S2 := spots_step hS hown3 hgrow (find_g0 ht1 (by omega) (by omega) (by omega) (by omega))
                      clear hown3 hgrow
                      obtain ⟨g2, c2, rfl⟩ := S2.len (by omega)
                      go_wp2
                      go_roundw
                      case rel => exact ⟨n + 1, by omega, by omega, S2⟩
                      case measure => simp [lenV]; omega
                    ·
                      have hn64 : ((n : Int) % 64 == 0) = true := by simp; omega
                      have hnZ : n = Z := by omega
                      subst hnZ
                      have S9 := hS.cast (show n = n + 64 * 0 by omega)
                      clear S8 hS hlt
                      go_wp2
                      rw [show ((n : Int) % 64 != 0) = false from by simp; omega]
                      clear hn64

                      go_loopw [3, 11] (fun v x wr => ∃ m : Nat, m ≤ P ∧ x = .int .i64 m ∧ SpotsAt w wr P t R v (n + 64 * m))
                        (fun _ x _ => P - (intOf x).toNat)
                      case atStart => exact ⟨0, by omega, rfl, S9⟩
                      case round =>
                        obtain ⟨m, hm2, rfl, hS⟩ := hrel
                        have q0 := hS.box.val 0 rfl
                        by_cases hlt : m < P
                        ·
                          have hS5 := hS.cast (show n + 64 * m = n + 64 * m + 0 by omega)
                          clear S9 hS
                          go_wp2
                          go_loopw [3, 12] (fun v x wr => ∃ u : Nat, u ≤ 64 ∧ x = .int .i64 u ∧ SpotsAt w wr P t R v (n + 64 * m + u))
                            (fun _ x _ => 64 - (intOf x).toNat)
                          case atStart => exact ⟨0, by omega, rfl, hS5⟩
                          case round =>
                            obtain ⟨u, hu2, rfl, hS⟩ := hrel
                            by_cases hl5 : (u : Int) < 64
                            ·
                              have hsz := hS.bel.size
                              go_wp2_with (at_builtin; refine wpList_append_own _ rfl _ _ 103 rfl (w.heap.size + 1) 108 i0 (.agg #[.int .i64 0, .int .i64 0, .int .i64 0]) 3 24 Try.underlying103 hi hz0 hz1 hz2 rfl (by decide) _ _ _ rfl (hS.own.alloc _) ⟨wr.heap.size, 0, none⟩ 1 1 [.int .i64 8, .int .i64 m, .int .i64 u] rfl rfl (cell_three_new _ _ _ _ _) ?c2x9 ?c3x9 ?c4x9 ?c5x9 ?_)
                              try (case c2x9 => (simp [Value.oneCell']))
                              try (case c3x9 => (unfold maxLen; omega))
                              try (case c4x9 => (omega))
                              try (case c5x9 => (have := hS.box.lt; simp; omega))
                              intro v3 w3 hown3 hgrow _
                              have S2 := spots_step hS hown3 hgrow (find_h8 ht1 hZ (by omega) (by omega) (by omega))
                              clear hown3 hgrow
                              go_wp2
                              go_roundw
                              case rel => exact ⟨u + 1, by omega, by go_num, S2⟩
                              case measure => simp [intOf]; omega
                            ·
                              have S6 := hS.cast (show n + 64 * m + u = n + 64 * (m + 1) by omega)
                              clear hS hS5
                              go_wp2
                              go_roundw
                              case rel => exact ⟨m + 1, by omega, by go_num, S6⟩
                              case measure => simp [intOf]; omega
                        ·
                          have S6 := hS.cast (show n + 64 * m = n + 64 * P by omega)
                          clear hS S9
                          go_wp2
                          go_ret
                          exact ⟨_, _, rfl, by omega, S6⟩
end Go.Proofs.Ytlhigibgjggidaa
/- Two of the document's spots are compared. No condition. -/
namespace Go.Proofs.Ytlhigibgjggidaa
open Go.RowKit
theorem fields3 {l : List Field} {t : TypeId} (h : l.map (fun f => (f.type, f.offset, f.name == "_")) = [(t, 0, false), (t, 1, false), (t, 2, false)]) :
    ∃ f g k, l = [f, g, k] ∧ (f.type = t ∧ f.offset = 0 ∧ ¬ f.name = "_") ∧ (g.type = t ∧ g.offset = 1 ∧ ¬ g.name = "_") ∧ (k.type = t ∧ k.offset = 2 ∧ ¬ k.name = "_") := by
  have hl : l.length = 3 := by have := congrArg List.length h; simpa using this
  obtain ⟨f, l1, rfl⟩ := List.exists_cons_of_length_eq_add_one hl
  obtain ⟨g, l2, rfl⟩ := List.exists_cons_of_length_eq_add_one (show l1.length = 1 + 1 by simpa using hl)
  obtain ⟨k, l3, rfl⟩ := List.exists_cons_of_length_eq_add_one (show l2.length = 0 + 1 by simpa using hl)
  have h3 : l3 = [] := List.eq_nil_of_length_eq_zero (by simpa using hl)
  subst h3
  simp only [List.map_cons, List.map_nil, List.cons.injEq, Prod.mk.injEq, beq_eq_false_iff_ne, ne_eq, and_true] at h
  exact ⟨f, g, k, rfl, h.1, h.2.1, h.2.2⟩
theorem eq_spot (w : World) (a b c x y z : Int) :
    (binOp .eql 108 (.agg #[.int .i64 a, .int .i64 b, .int .i64 c]) (.agg #[.int .i64 x, .int .i64 y, .int .i64 z])).run Try.prog w = .ok (.bool (a == x && (b == y && c == z))) w := by
  rw [run_eql_struct, run_equalIn_agg w 9999 _ _ _ (by kernel_rfl) (by kernel_rfl)]
  obtain ⟨f, g, k, hl, ⟨f1, f2, f3⟩, ⟨g1, g2, g3⟩, k1, k2, k3⟩ := fields3 (l := (Try.prog.fieldsOf 108).toList) (t := 3) (by kernel_rfl)
  rw [hl]
  have hi : Try.prog.underlying 3 = some (.int .i64) := by kernel_rfl
  simp [Op.eqFields, f1, f2, f3, g1, g2, g3, k1, k2, k3, go_sem, hi]
  by_cases h1 : a = x <;> by_cases h2 : b = y <;> by_cases h3 : c = z <;> simp [h1, h2, h3]
theorem guard_spot : Try.prog.eqGuardType Try.prog.depth 108 = false := by kernel_rfl
end Go.Proofs.Ytlhigibgjggidaa
/- What Spots, Cells and Where of the document's layer 6 return. No condition. -/
namespace Go.Proofs.Ytlhigibgjggidaa
open Go.RowKit
set_option linter.unusedVariables false
set_option linter.unusedSimpArgs false
theorem spotsL_length (P T R : Int) (n : Nat) : (spotsL P T R n).length = 3 * n := by
  induction n with
  | zero => rfl
  | succ n ih => rw [spotsL_succ, List.length_append, ih]; simp; omega
theorem spotsL_get (P T R : Int) (n i : Nat) (h : i < n) : (spotsL P T R n)[i * 3]? = some (.int .i64 (findK P T R i)) ∧ (spotsL P T R n)[i * 3 + 1]? = some (.int .i64 (findA P T R i)) ∧ (spotsL P T R n)[i * 3 + 2]? = some (.int .i64 (findB P T R i)) := by
  induction n with
  | zero => omega
  | succ n ih =>
    rw [spotsL_succ]
    by_cases hi : i < n
    · obtain ⟨h1, h2, h3⟩ := ih hi
      have hl := spotsL_length P T R n
      rw [List.getElem?_append_left (by omega), List.getElem?_append_left (by omega), List.getElem?_append_left (by omega)]
      exact ⟨h1, h2, h3⟩
    · have : i = n := by omega
      subst this
      have hl := spotsL_length P T R i
      rw [List.getElem?_append_right (by omega), List.getElem?_append_right (by omega), List.getElem?_append_right (by omega), hl]
      rw [show i * 3 - 3 * i = 0 by omega, show i * 3 + 1 - 3 * i = 1 by omega, show i * 3 + 2 - 3 * i = 2 by omega]
      exact ⟨rfl, rfl, rfl⟩
/-- A list of the document's: of each cell what it is for. -/
def SpotRow (W : World) (B : Nat) (P T R : Int) (v : Value) (n : Nat) : Prop := W.ownsRow B 108 3 v n (spotsL P T R n)
theorem SpotRow.below {W W' : World} {B : Nat} {P T R : Int} {v : Value} {n : Nat} (h : SpotRow W B P T R v n) (hb : Below W.heap.size W W') : SpotRow W' B P T R v n := by
  obtain ⟨h1, h2⟩ := h
  refine ⟨h1, ?_⟩
  rcases h2 with ⟨e1, e2⟩ | ⟨g, cap, cur, e1, e2, e3, e4⟩
  · exact .inl ⟨e1, e2⟩
  · exact .inr ⟨g, cap, cur, e1, e2, (hb.block g (Array.getElem?_eq_some_iff.1 e3).1).trans e3, e4⟩
theorem SpotRow.cells {W : World} {B : Nat} {P T R : Int} {v : Value} {n : Nat} (h : SpotRow W B P T R v n) (h0 : 0 < n) : ∃ g c, v = .slice (some ⟨g, 0, none⟩) n c ∧ B ≤ g ∧ g < W.heap.size ∧
    ∀ i, i < n → W.cell? ⟨g, i * 3, none⟩ = some (.int .i64 (findK P T R i)) ∧ W.cell? ⟨g, i * 3 + 1, none⟩ = some (.int .i64 (findA P T R i)) ∧ W.cell? ⟨g, i * 3 + 2, none⟩ = some (.int .i64 (findB P T R i)) := by
  have hx := h
  rcases h.2 with ⟨_, h2⟩ | ⟨g, c, cur, h1, h2, h3, _⟩
  · omega
  · refine ⟨g, c, h1, h2, (Array.getElem?_eq_some_iff.1 h3).1, fun i hi => ?_⟩
    subst h1
    obtain ⟨g1, g2, g3⟩ := spotsL_get P T R n i hi
    have c0 := hx.cellAt (i * 3) (by omega)
    have c1 := hx.cellAt (i * 3 + 1) (by omega)
    have c2 := hx.cellAt (i * 3 + 2) (by omega)
    exact ⟨c0.trans g1, c1.trans g2, c2.trans g3⟩
theorem spots_yes (P T R : Int) (w : World) (hR : Right P T R) :
    Calls Try.prog 41 #[.agg #[.int .i64 P, .int .i64 T, .int .i64 R]] w fun e w' => ∃ (v : Value) (n : Nat), e = .returned v ∧ (n : Int) = baseI P T R + 64 * P ∧ SpotRow w' (w.heap.size + 1) P T R v n ∧ Below w.heap.size w w' := by
  have hR' := hR
  obtain ⟨⟨p1, p2⟩, ⟨t1, t2⟩, r1, r2⟩ := hR'
  obtain ⟨p, rfl⟩ := Int.eq_ofNat_of_zero_le (show 0 ≤ P by omega)
  obtain ⟨t, rfl⟩ := Int.eq_ofNat_of_zero_le (show 0 ≤ T by omega)
  obtain ⟨r, rfl⟩ := Int.eq_ofNat_of_zero_le (show 0 ≤ R by omega)
  refine (spots_walk p t r w hR).mono ?_
  rintro e w' ⟨v, n, he, hn, hS⟩
  exact ⟨v, n, he, hn, hS.own, hS.bel⟩
set_option maxHeartbeats 400000 in
theorem spots_no (P T R : Int) (w : World) (h : rightB P T R = false) :
    Calls Try.prog 41 #[.agg #[.int .i64 P, .int .i64 T, .int .i64 R]] w fun e w' => e = .returned (.slice none 0 0) ∧ Below w.heap.size w w' := by
  have V := Lib.hid (fun W => rright_any P T R W)
  rw [h] at V
  go_enter Try.func41, Try.ntmps41
  go_wp2_with fail
  refine (V.out _).mono ?_; rintro e w1 ⟨rfl, hb1⟩
  have c1 := planKeep (planNew w P T R 23) hb1
  go_wp2
  go_ret
  exact ⟨rfl, c1.2⟩
set_option maxHeartbeats 400000 in
theorem rcells_yes (P T R : Int) (w : World) (hR : Right P T R) :
    Calls Try.prog 10 #[.agg #[.int .i64 P, .int .i64 T, .int .i64 R]] w fun e w' => e = .returned (.int .i64 (baseI P T R + 64 * P)) ∧ Below w.heap.size w w' := by
  have V := Lib.hid (fun W => spots_yes P T R W hR)
  have hb := base_bd hR
  obtain ⟨⟨p1, p2⟩, _⟩ := hR
  generalize hC : baseI P T R + 64 * P = C at *
  go_enter Try.func10, Try.ntmps10
  go_wp2_with fail
  refine (V.out _).mono ?_; rintro e w1 ⟨v, n, rfl, hn, hS, hb1⟩
  obtain ⟨g, c, rfl, _⟩ := hS.cells (by omega)
  have hB : Below w.heap.size w w1 := ((Below.refl _ _).alloc (Nat.le_refl _) _).trans (hb1.mono (by simp))
  go_wp2
  go_ret
  exact ⟨ret_int (by omega), hB⟩
set_option maxHeartbeats 400000 in
theorem rcells_no (P T R : Int) (w : World) (h : rightB P T R = false) :
    Calls Try.prog 10 #[.agg #[.int .i64 P, .int .i64 T, .int .i64 R]] w fun e w' => e = .returned (.int .i64 0) ∧ Below w.heap.size w w' := by
  have V := Lib.hid (fun W => spots_no P T R W h)
  go_enter Try.func10, Try.ntmps10
  go_wp2_with fail
  refine (V.out _).mono ?_; rintro e w1 ⟨rfl, hb1⟩
  have hB : Below w.heap.size w w1 := ((Below.refl _ _).alloc (Nat.le_refl _) _).trans (hb1.mono (by simp))
  go_wp2
  go_ret
  exact ⟨rfl, hB⟩
instance okDec (P T R k i j : Int) : Decidable (okI P T R k i j) := by unfold okI; infer_instance
/-- where what is so named stands, or -1 -/
def whereI (P T R k i j : Int) : Int := if rightB P T R && decide (okI P T R k i j) then posI P T R k i j else -1
theorem where_found {P T R k i j : Int} (h : Right P T R) (m : Nat) (hm : (m : Int) < baseI P T R + 64 * P) (hk : k ≠ 0) (h1 : findK P T R m = k) (h2 : findA P T R m = i) (h3 : findB P T R m = j) : whereI P T R k i j = m := by
  rcases pos_find h (Int.natCast_nonneg m) hm with ⟨e, _⟩ | ⟨e1, e2⟩
  · exact absurd (h1.symm.trans e) hk
  · rw [h1, h2, h3] at e1 e2
    unfold whereI
    rw [of_right h, decide_eq_true e1]
    exact e2
theorem where_none {P T R k i j : Int} (h : Right P T R) (n : Nat) (hn : (n : Int) = baseI P T R + 64 * P) (hno : k = 0 ∨ ∀ q : Nat, q < n → ¬ (findK P T R q = k ∧ findA P T R q = i ∧ findB P T R q = j)) : whereI P T R k i j = -1 := by
  have hx : ¬ okI P T R k i j := by
    intro ho
    rcases hno with rfl | hno
    · unfold okI at ho; omega
    · obtain ⟨e, e0, e1⟩ := find_pos h ho
      obtain ⟨m, hm⟩ := Int.eq_ofNat_of_zero_le e0
      rw [hm] at e e1
      exact hno m (by omega) e
  unfold whereI
  rw [of_right h, decide_eq_false hx]
  rfl
set_option maxHeartbeats 400000 in
theorem where_no (P T R k i j : Int) (w : World) (h : rightB P T R = false) :
    Calls Try.prog 44 #[.agg #[.int .i64 P, .int .i64 T, .int .i64 R], .agg #[.int .i64 k, .int .i64 i, .int .i64 j]] w fun e w' => e = .returned (.int .i64 (whereI P T R k i j)) ∧ Below w.heap.size w w' := by
  have V := Lib.hid (fun W => spots_no P T R W h)
  unfold whereI
  rw [h]
  go_enter Try.func44, Try.ntmps44
  go_wp2_with fail
  refine (V.out _).mono ?_; rintro e w1 ⟨rfl, hb1⟩
  have hB : Below w.heap.size w w1 := (((Below.refl _ _).alloc (Nat.le_refl _) _).alloc (by simp) _).trans (hb1.mono (by simp; omega))
  go_wp2
  go_loopw [6] (fun x wr => x = .int .i64 0 ∧ Below w.heap.size w wr) (fun _ _ => 0)
  case atStart => exact ⟨rfl, hB⟩
  case round =>
    obtain ⟨rfl, hq⟩ := hrel
    go_wp2
    go_ret
    exact ⟨rfl, hq⟩
set_option maxHeartbeats 1000000 in
theorem where_yes (P T R k i j : Int) (w : World) (h : Right P T R) :
    Calls Try.prog 44 #[.agg #[.int .i64 P, .int .i64 T, .int .i64 R], .agg #[.int .i64 k, .int .i64 i, .int .i64 j]] w fun e w' => e = .returned (.int .i64 (whereI P T R k i j)) ∧ Below w.heap.size w w' := by
  have V := Lib.hid (fun W => spots_yes P T R W h)
  have hb := base_bd h
  have hp := h.1
  go_enter Try.func44, Try.ntmps44
  go_wp2_with fail
  refine (V.out _).mono ?_; rintro e w1 ⟨v, n, rfl, hn, hS, hb1⟩
  have X0 : Blk (w.alloc (.cells #[.int .i64 P, .int .i64 T, .int .i64 R] 23)) w.heap.size #[.int .i64 P, .int .i64 T, .int .i64 R] 23 := Blk.new _ _ _
  have Y1 : Blk w1 (w.heap.size + 1) #[.int .i64 k, .int .i64 i, .int .i64 j] 108 := (Blk.new' (by simp)).grew hb1
  have hB : Below w.heap.size w w1 := (((Below.refl _ _).alloc (Nat.le_refl _) _).alloc (by simp) _).trans (hb1.mono (by simp; omega))
  clear X0 hb1
  obtain ⟨g, c, rfl, hg1, hg2, hc⟩ := hS.cells (by omega)
  have C := Lib.hid hc
  clear hc hS
  go_wp2
  go_loopw [6] (fun x wr => ∃ m : Nat, m ≤ n ∧ x = .int .i64 m ∧ Hid (k = 0 ∨ ∀ q : Nat, q < m → ¬ (findK P T R q = k ∧ findA P T R q = i ∧ findB P T R q = j)) ∧ Below w1.heap.size w1 wr) (fun x _ => n - (intOf x).toNat)
  case atStart => exact ⟨0, by omega, rfl, .inr (fun q hq => by omega), Below.refl _ _⟩
  case round =>
    obtain ⟨m, hm, rfl, hno, hq⟩ := hrel
    have hW := hB.trans (hq.mono hB.size)
    by_cases hlt : (m : Int) < n
    · obtain ⟨a0, a1, a2⟩ := C.out m (by omega)
      have s0 := (hq.cell (p := ⟨g, m * 3, none⟩) hg2).trans a0
      have s1 := (hq.cell (p := ⟨g, m * 3 + 1, none⟩) hg2).trans a1
      have s2 := (hq.cell (p := ⟨g, m * 3 + 2, none⟩) hg2).trans a2
      have Y2 := Y1.grew hq
      have y0 : wr.cell? ⟨w.heap.size + 1, 0, none⟩ = some (.int .i64 k) := Y2.val 0 rfl
      have y1 : wr.cell? ⟨w.heap.size + 1, 1, none⟩ = some (.int .i64 i) := Y2.val 1 rfl
      have y2 : wr.cell? ⟨w.heap.size + 1, 2, none⟩ = some (.int .i64 j) := Y2.val 2 rfl
      clear a0 a1 a2
      by_cases hk : k = 0
      · subst hk
        go_wp2
        go_quiet (fail)
        go_wp2
        go_roundw
        case rel => exact ⟨m + 1, by omega, by go_num, .inl trivial, hq.trans Quiet.drew.below⟩
        case measure => simp [intOf]; omega
      · generalize hf1 : findK P T R m = f1 at *
        generalize hf2 : findA P T R m = f2 at *
        generalize hf3 : findB P T R m = f3 at *
        have hE := fun W => eq_spot W f1 f2 f3 k i j
        have hG := guard_spot
        have hk' : (k != 0) = true := by simp; exact hk
        have hml : (m : Int) < baseI P T R + 64 * P := by omega
        cases hM : (f1 == k && (f2 == i && f3 == j)) with
        | true =>
          have hM' := hM
          simp only [Bool.and_eq_true, beq_iff_eq] at hM'
          have hwf := where_found h m hml hk (hf1.trans hM'.1) (hf2.trans hM'.2.1) (hf3.trans hM'.2.2)
          have HW := Lib.hid hwf
          clear hwf hM' hf1 hf2 hf3
          go_wp2
          go_quiet (fail)
          go_wp2
          go_ret
          exact ⟨ret_int HW.out.symm, hW.trans Quiet.drew.below⟩
        | false =>
          have hno' : Hid (k = 0 ∨ ∀ q : Nat, q < m + 1 → ¬ (findK P T R q = k ∧ findA P T R q = i ∧ findB P T R q = j)) := by
            rcases hno.out with h0 | h0
            · exact .inl h0
            · refine .inr (fun q hq' => ?_)
              by_cases hqm : q < m
              · exact h0 q hqm
              · have : q = m := by omega
                subst this
                rintro ⟨e1, e2, e3⟩
                rw [hf1] at e1; rw [hf2] at e2; rw [hf3] at e3
                subst e1; subst e2; subst e3
                simp at hM
          clear hno hf1 hf2 hf3
          go_wp2
          go_quiet (fail)
          go_wp2
          go_roundw
          case rel => exact ⟨m + 1, by omega, by go_num, hno', hq.trans Quiet.drew.below⟩
          case measure => simp [intOf]; omega
    · go_wp2
      go_ret
      have hmn : m = n := by omega
      subst hmn
      exact ⟨ret_int (where_none h m hn hno.out).symm, hW⟩
end Go.Proofs.Ytlhigibgjggidaa
/- Words for the laws of package ring: an arena is laid, a push is stepped to its end; a ring of one place takes one word. Condition: the plan is right. -/
namespace Go.Proofs.Ytlhigibgjggidaa
open Go.RowKit
theorem cellsN_bd {P T R : Int} (h : Right P T R) : ((cellsN P T R : Nat) : Int) = baseI P T R + 64 * P ∧ 1 ≤ cellsN P T R ∧ cellsN P T R ≤ 2304 := by
  have hb := base_bd h
  obtain ⟨⟨p1, p2⟩, _⟩ := h
  unfold cellsN
  omega
def LayPost (P T R who : Int) (w : World) (e : Ending) (w' : World) : Prop :=
  ∃ a c p, e = .returned (.tuple #[.pointer (some ⟨a, 0, none⟩), .pointer (some ⟨p, 0, none⟩), .bool true]) ∧ Arx w' w.heap.size a c (List.replicate (cellsN P T R) 0) [] 0 [p] ∧ PortAt w' p a who false ∧ w.heap.size ≤ p ∧ Below w.heap.size w w'
/-- the machine, the arena and the port, whatever the log tells -/
def PuE (w0 : World) (B a c p m : Nat) (P T R t v tl nx : Int) (fu : Bool) (cs : List Int) (n : Nat) (K : List Nat) (who : Int) (o : Bool) (w : World) : Prop :=
  ∃ xs, PuS w0 B a c p m P T R t v tl nx fu cs xs n K who o w
def PoE (w0 : World) (B a c p m : Nat) (P T R t v tl nx : Int) (fu : Bool) (cs : List Int) (n : Nat) (K : List Nat) (who : Int) (o : Bool) (w : World) : Prop :=
  ∃ xs, PoS w0 B a c p m P T R t v tl nx fu cs xs n K who o w
/-- what all steps of a machine at a thread's ring need -/
structure Ready (P T R t : Int) (p m : Nat) (cs : List Int) (K : List Nat) : Prop where
  ex : exB P T R t = true
  ne : m ≠ p
  hm : m ∈ K
  hp : p ∈ K
  len : cs.length = cellsN P T R
theorem Ready.set {P T R t : Int} {p m : Nat} {cs : List Int} {K : List Nat} (h : Ready P T R t p m cs K) (i : Nat) (x : Int) : Ready P T R t p m (cs.set i x) K := ⟨h.ex, h.ne, h.hm, h.hp, by rw [List.length_set]; exact h.len⟩
section
variable {w0 w w' : World} {B a c p m : Nat} {P T R t v tl nx : Int} {fu : Bool} {cs : List Int} {n : Nat} {K : List Nat} {who : Int} {o : Bool}
theorem PuE.grant (h : PuE w0 B a c p m P T R t v tl nx fu cs n K who o w) (hr : Ready P T R t p m cs K) :
    Calls Try.prog 24 #[.pointer (some ⟨p, 0, none⟩)] w fun e w' => (∃ v, e = .returned v) ∧ PuE w0 B a c p m P T R t v tl nx fu cs n K who true w' := by
  obtain ⟨xs, h⟩ := h
  exact (grant_at p a who o w h.port).mono fun _ _ ⟨he, hP, hT⟩ => ⟨he, xs, h.mach.touch hT hr.ne, h.arx.touch hT (fun _ e => e ▸ hr.hp), hP, h.touch.trans (hT.mono fun _ _ e => .inl e)⟩
theorem PuE.step1 (h : PuE w0 B a c p m P T R t v tl 1 fu cs n K who true w) (hr : Ready P T R t p m cs K) (hn : n < 1000000) :
    Calls Try.prog 62 #[.pointer (some ⟨m, 0, none⟩), .pointer (some ⟨p, 0, none⟩)] w fun e w' => e = .returned (.bool false) ∧ PuE w0 B a c p m P T R t v (cs.getD (ownN R t 4) 0) 2 fu cs (n + 1) K who false w' := by
  obtain ⟨xs, h⟩ := h
  exact (push_step1 h hr.ex hr.ne hr.hm hr.hp hn hr.len).mono fun _ _ ⟨he, h⟩ => ⟨he, _, h⟩
theorem PuE.step2f (h : PuE w0 B a c p m P T R t v tl 2 fu cs n K who true w) (hr : Ready P T R t p m cs K) (hn : n < 1000000) (hf : fullB R tl (cs.getD (ownN R t 3) 0) = true) :
    Calls Try.prog 62 #[.pointer (some ⟨m, 0, none⟩), .pointer (some ⟨p, 0, none⟩)] w fun e w' => e = .returned (.bool true) ∧ PuE w0 B a c p m P T R t v tl 0 true cs (n + 1) K who false w' := by
  obtain ⟨xs, h⟩ := h
  exact (push_step2_full h hr.ex hr.ne hr.hm hr.hp hn hr.len hf).mono fun _ _ ⟨he, h⟩ => ⟨he, _, h⟩
theorem PuE.step2r (h : PuE w0 B a c p m P T R t v tl 2 fu cs n K who true w) (hr : Ready P T R t p m cs K) (hn : n < 1000000) (hf : fullB R tl (cs.getD (ownN R t 3) 0) = false) :
    Calls Try.prog 62 #[.pointer (some ⟨m, 0, none⟩), .pointer (some ⟨p, 0, none⟩)] w fun e w' => e = .returned (.bool false) ∧ PuE w0 B a c p m P T R t v tl 3 fu cs (n + 1) K who false w' := by
  obtain ⟨xs, h⟩ := h
  exact (push_step2_room h hr.ex hr.ne hr.hm hr.hp hn hr.len hf).mono fun _ _ ⟨he, h⟩ => ⟨he, _, h⟩
theorem PuE.step3 (h : PuE w0 B a c p m P T R t v tl 3 fu cs n K who true w) (hr : Ready P T R t p m cs K) (hn : n < 1000000) (hu : U64 tl) :
    Calls Try.prog 62 #[.pointer (some ⟨m, 0, none⟩), .pointer (some ⟨p, 0, none⟩)] w fun e w' => e = .returned (.bool false) ∧ PuE w0 B a c p m P T R t v tl 4 fu (cs.set (slotN R t tl) v) (n + 1) K who false w' := by
  obtain ⟨xs, h⟩ := h
  exact (push_step3 h hr.ex hr.ne hr.hm hr.hp hn hr.len hu).mono fun _ _ ⟨he, h⟩ => ⟨he, _, h⟩
theorem PuE.step4 (h : PuE w0 B a c p m P T R t v tl 4 fu cs n K who true w) (hr : Ready P T R t p m cs K) (hn : n < 1000000) :
    Calls Try.prog 62 #[.pointer (some ⟨m, 0, none⟩), .pointer (some ⟨p, 0, none⟩)] w fun e w' => e = .returned (.bool true) ∧ PuE w0 B a c p m P T R t v tl 0 fu (cs.set (ownN R t 4) (IntKind.u64.wrap (tl + 1))) (n + 1) K who false w' := by
  obtain ⟨xs, h⟩ := h
  exact (push_step4 h hr.ex hr.ne hr.hm hr.hp hn hr.len).mono fun _ _ ⟨he, h⟩ => ⟨he, _, h⟩
/-- what a push leaves in the cells -/
def pushed (R t : Int) (cs : List Int) (v : Int) : List Int := (cs.set (slotN R t (cs.getD (ownN R t 4) 0)) v).set (ownN R t 4) (IntKind.u64.wrap (cs.getD (ownN R t 4) 0 + 1))
end
end Go.Proofs.Ytlhigibgjggidaa
