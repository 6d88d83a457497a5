/- What the functions of package header return. No condition but that each number fits its kind. -/
import Derived.Deep.RegionHeld3
import Derived.Test.YtnodeojeijekcaaGreatGB01
import Derived.Test.YtnodeojeijekcaaGreatGB11
namespace Go.Proofs.YtnodeojeijekcaaGreat
open Go.RowKit

theorem inB_true {n a b : Int} (h : inB n a b = true) : a ≤ n ∧ n ≤ b := of_decide_eq_true h
theorem inB_false {n a b : Int} (h : inB n a b = false) : ¬ (a ≤ n ∧ n ≤ b) := of_decide_eq_false h
def headB (c k l : Int) : Bool := if k = 1 then inB c 0 15 && inB l 0 15 else if k = 2 ∨ k = 3 then decide (c = 0) && inB l 0 255 else false
def encH (c k l : Int) : Int := 11889503016258109440 + l * 65536 + c * 256 + k

theorem headB_bd {c k l : Int} (h : headB c k l = true) : 1 ≤ k ∧ k ≤ 3 ∧ 0 ≤ c ∧ c ≤ 15 ∧ 0 ≤ l ∧ l ≤ 255 := by
  unfold headB at h
  split at h
  · rw [Bool.and_eq_true] at h
    have h1 := inB_true h.1
    have h2 := inB_true h.2
    omega
  · split at h
    · rw [Bool.and_eq_true] at h
      have h1 := of_decide_eq_true h.1
      have h2 := inB_true h.2
      omega
    · cases h

/-- What a box of one's own holds in a world that has only grown. -/
theorem box_cell {w w1 : World} {cs : Array Value} {t : TypeId} (hb : Below (w.alloc (.cells cs t)).heap.size (w.alloc (.cells cs t)) w1) (i : Nat) :
    w1.cell? ⟨w.heap.size, i, none⟩ = cs[i]? := by
  rw [hb.cell (p := ⟨w.heap.size, i, none⟩) (by simp)]
  exact World.cell?_alloc_new ..

set_option maxHeartbeats 400000 in
theorem within_anyHead (n a b : Int) (w : World) :
    Calls Tryz.prog 95 #[.int .i64 n, .int .i64 a, .int .i64 b] w fun e w' => e = .returned (.bool (inB n a b)) ∧ Quiet w w' := by
  by_cases h1 : a ≤ n
  · have hb : inB n a b = decide (n ≤ b) := by simp [inB, h1]
    rw [hb]; clear hb
    go_enter Tryz.func95, Tryz.ntmps95
    go_wp2
    go_ret
    exact ⟨rfl, Quiet.refl _⟩
  · have hb : inB n a b = false := by simp [inB, h1]
    rw [hb]; clear hb
    go_enter Tryz.func95, Tryz.ntmps95
    go_wp2
    go_ret
    exact ⟨rfl, Quiet.refl _⟩

theorem headB_1 (c l : Int) (h1 : inB c 0 15 = true) : headB c 1 l = inB l 0 15 := by unfold headB; rw [if_pos rfl, h1, Bool.true_and]
theorem headB_1' (c l : Int) (h1 : inB c 0 15 = false) : headB c 1 l = false := by unfold headB; rw [if_pos rfl, h1, Bool.false_and]
theorem headB_23 (k l : Int) (hk : k = 2 ∨ k = 3) : headB 0 k l = inB l 0 255 := by unfold headB; rw [if_neg (by omega), if_pos hk]; simp
theorem headB_23' (c k l : Int) (hk : k = 2 ∨ k = 3) (hc : c ≠ 0) : headB c k l = false := by unfold headB; rw [if_neg (by omega), if_pos hk]; simp [hc]
theorem headB_no (c k l : Int) (h1 : k ≠ 1) (h2 : k ≠ 2) (h3 : k ≠ 3) : headB c k l = false := by unfold headB; rw [if_neg h1, if_neg (by omega)]

/-! the word of a header -/
theorem put_fresh (x a d v : Nat) (h : a + d ≤ 64) (hx : x < 2 ^ a) (hv : v < 2 ^ d) : putN x a d v = x + v * 2 ^ a := by
  apply Nat.eq_of_testBit_eq
  intro i
  have hx64 : x < 2 ^ 64 := Nat.lt_of_lt_of_le hx (Nat.pow_le_pow_right (by decide) (by omega))
  rw [testBit_putN _ _ _ _ _ h hx64 hv, show x + v * 2 ^ a = 2 ^ a * v + x by rw [Nat.mul_comm, Nat.add_comm], Nat.testBit_two_pow_mul_add v hx i]
  by_cases h1 : i < a
  · simp [h1, show ¬ a ≤ i by omega]
  · by_cases h2 : i < a + d
    · simp [h1, h2, show a ≤ i by omega]
    · have e1 : x.testBit i = false := Nat.testBit_lt_two_pow (Nat.lt_of_lt_of_le hx (Nat.pow_le_pow_right (by decide) (by omega)))
      have e2 : v.testBit (i - a) = false := Nat.testBit_lt_two_pow (Nat.lt_of_lt_of_le hv (Nat.pow_le_pow_right (by decide) (by omega)))
      simp [h1, h2, e1, e2]

theorem packL_cons (v d : Int) (vs ds : List Int) (x a : Int) (hf : fldB a d = true) (hx0 : 0 ≤ x) (hx : x < 2 ^ a.toNat) (hv0 : 0 ≤ v) (hv : v < 2 ^ d.toNat) :
    packL (v :: vs) (d :: ds) x a = packL vs ds (x + v * 2 ^ a.toNat) (a + d) := by
  obtain ⟨h1, h2, h3, h4⟩ := fldB_true hf
  obtain ⟨X, rfl⟩ := Int.eq_ofNat_of_zero_le hx0
  obtain ⟨V, rfl⟩ := Int.eq_ofNat_of_zero_le hv0
  have hX : X < 2 ^ a.toNat := by exact_mod_cast hx
  have hV : V < 2 ^ d.toNat := by exact_mod_cast hv
  rw [packL, hf, if_pos rfl, if_pos ((le_maskI _ d h3 (by omega) hv0).2 (by rw [Int.toNat_natCast]; exact hV))]
  have e : putI (X : Int) a d (V : Int) = (X : Int) + (V : Int) * 2 ^ a.toNat := by
    unfold putI
    rw [Int.toNat_natCast, Int.toNat_natCast, put_fresh _ _ _ _ (by omega) hX hV]
    simp
  rw [e]

theorem pack_head (c k l : Int) (h : headB c k l = true) : packI [k, c, l, 0, 165] [8, 8, 8, 32, 8] = (encH c k l, 0) := by
  have hb := headB_bd h
  unfold packI encH
  rw [if_pos (show ([k, c, l, 0, 165] : List Int).length = ([8, 8, 8, 32, 8] : List Int).length from rfl)]
  rw [packL_cons _ _ _ _ _ _ (by decide) (by decide) (by decide) (by omega) (by show _ < (256 : Int); omega)]
  rw [packL_cons _ _ _ _ _ _ (by decide) (by show (0 : Int) ≤ 0 + k * 1; omega) (by show 0 + k * 1 < (256 : Int); omega) (by omega) (by show _ < (256 : Int); omega)]
  rw [packL_cons _ _ _ _ _ _ (by decide) (by show (0 : Int) ≤ 0 + k * 1 + c * 256; omega) (by show 0 + k * 1 + c * 256 < (65536 : Int); omega) (by omega) (by show _ < (256 : Int); omega)]
  rw [packL_cons _ _ _ _ _ _ (by decide) (by show (0 : Int) ≤ 0 + k * 1 + c * 256 + l * 65536; omega) (by show 0 + k * 1 + c * 256 + l * 65536 < (16777216 : Int); omega) (by omega) (by decide)]
  rw [packL_cons _ _ _ _ _ _ (by decide) (by show (0 : Int) ≤ 0 + k * 1 + c * 256 + l * 65536 + 0 * 16777216; omega) (by show 0 + k * 1 + c * 256 + l * 65536 + 0 * 16777216 < (72057594037927936 : Int); omega) (by omega) (by decide)]
  rw [packL]
  · refine Prod.ext ?_ rfl
    show 0 + k * 1 + c * 256 + l * 65536 + 0 * 16777216 + 165 * 72057594037927936 = _
    omega
  · simp

end Go.Proofs.YtnodeojeijekcaaGreat
