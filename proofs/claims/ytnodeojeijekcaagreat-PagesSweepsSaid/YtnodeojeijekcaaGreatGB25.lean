/- What math/bits.OnesCount64 returns: how many bits are 1; plain mathematics of bytes. No condition but that the number has 64 bits. -/
import Derived.Test.YtnodeojeijekcaaGreatGB01
namespace Go.Proofs.YtnodeojeijekcaaGreat
open Go.RowKit
set_option linter.unusedVariables false

/-- the ones among the n lowest bits -/
def cnt (x : Nat) : Nat → Nat
  | 0 => 0
  | n + 1 => cnt x n + (x.testBit n).toNat
theorem cnt_add (lo hi s : Nat) (h : lo < 2 ^ s) : ∀ m, cnt (2 ^ s * hi + lo) (s + m) = cnt lo s + cnt hi m := by
  have h0 : ∀ n, n ≤ s → cnt (2 ^ s * hi + lo) n = cnt lo n := by
    intro n
    induction n with
    | zero => intro _; rfl
    | succ n ih =>
      intro hn
      rw [cnt, cnt, ih (by omega), Nat.testBit_two_pow_mul_add _ h, if_pos (by omega)]
  intro m
  induction m with
  | zero => rw [Nat.add_zero, h0 s (Nat.le_refl _)]; rfl
  | succ m ih =>
    rw [← Nat.add_assoc, cnt, ih, Nat.testBit_two_pow_mul_add _ h, if_neg (by omega), show s + m - s = m by omega, cnt]
    omega
/-- bytes, the lowest first -/
def val : List Nat → Nat
  | [] => 0
  | c :: l => 2 ^ 8 * val l + c
def mask8 (m : Nat) (n : Nat) : Nat := val (List.replicate n m)
def small (l : List Nat) : Prop := ∀ c ∈ l, c < 256
theorem and_byte (c r m M : Nat) (hc : c < 256) (hm : m < 256) : (2 ^ 8 * r + c) &&& (2 ^ 8 * M + m) = 2 ^ 8 * (r &&& M) + (c &&& m) := by
  apply Nat.eq_of_testBit_eq
  intro i
  have h3 : c &&& m < 2 ^ 8 := Nat.and_lt_two_pow _ (by omega)
  rw [Nat.testBit_and, Nat.testBit_two_pow_mul_add _ (show c < 2 ^ 8 by omega), Nat.testBit_two_pow_mul_add _ (show m < 2 ^ 8 by omega), Nat.testBit_two_pow_mul_add _ h3]
  split
  · rw [Nat.testBit_and]
  · rw [Nat.testBit_and]
theorem and_val (m : Nat) (hm : m < 256) : ∀ l, small l → val l &&& mask8 m l.length = val (l.map (· &&& m)) := by
  intro l
  induction l with
  | nil => intro _; simp [val, mask8]
  | cons c l ih =>
    intro h
    have := ih (fun d hd => h d (by simp [hd]))
    show (2 ^ 8 * val l + c) &&& (2 ^ 8 * mask8 m l.length + m) = 2 ^ 8 * val (l.map (· &&& m)) + (c &&& m)
    rw [and_byte _ _ _ _ (h c (by simp)) hm, this]
/-- a shift within bytes, where the mask lets no bit of the next byte by -/
theorem shr_val (t m : Nat) (hm : m < 256) (ht : t ≤ 8) (hclean : ∀ c r : Nat, c < 256 → (c / 2 ^ t + 2 ^ (8 - t) * (r % 2 ^ t)) &&& m = (c / 2 ^ t) &&& m) :
    ∀ l, small l → (val l / 2 ^ t) &&& mask8 m l.length = val (l.map (fun c => (c / 2 ^ t) &&& m)) := by
  intro l
  induction l with
  | nil => intro _; simp [val, mask8]
  | cons c l ih =>
    intro h
    have hc := h c (by simp)
    have ih' := ih (fun d hd => h d (by simp [hd]))
    show ((2 ^ 8 * val l + c) / 2 ^ t) &&& (2 ^ 8 * mask8 m l.length + m) = 2 ^ 8 * val (l.map (fun c => (c / 2 ^ t) &&& m)) + ((c / 2 ^ t) &&& m)
    have hp := Nat.two_pow_pos t
    have e8 : (2 : Nat) ^ 8 = 2 ^ t * 2 ^ (8 - t) := by rw [← Nat.pow_add, show t + (8 - t) = 8 by omega]
    have hv : val l = 2 ^ t * (val l / 2 ^ t) + val l % 2 ^ t := (Nat.div_add_mod _ _).symm
    have e : (2 ^ 8 * val l + c) / 2 ^ t = 2 ^ 8 * (val l / 2 ^ t) + (c / 2 ^ t + 2 ^ (8 - t) * (val l % 2 ^ t)) := by
      have h1 : 2 ^ 8 * val l + c = 2 ^ t * (2 ^ (8 - t) * val l) + c := by rw [e8, Nat.mul_assoc]
      rw [h1, Nat.mul_add_div hp]
      have h2 : 2 ^ (8 - t) * val l = 2 ^ 8 * (val l / 2 ^ t) + 2 ^ (8 - t) * (val l % 2 ^ t) := by
        have : 2 ^ (8 - t) * val l = 2 ^ (8 - t) * (2 ^ t * (val l / 2 ^ t) + val l % 2 ^ t) := by rw [← hv]
        rw [this, Nat.mul_add, ← Nat.mul_assoc, e8, Nat.mul_comm (2 ^ (8 - t)) (2 ^ t)]
      omega
    have hlt : c / 2 ^ t + 2 ^ (8 - t) * (val l % 2 ^ t) < 256 := by
      have h1 : c / 2 ^ t < 2 ^ (8 - t) := by
        rw [Nat.div_lt_iff_lt_mul hp, Nat.mul_comm, ← e8]
        exact hc
      have h2 : val l % 2 ^ t < 2 ^ t := Nat.mod_lt _ hp
      have h3 : 2 ^ (8 - t) * (val l % 2 ^ t) + 2 ^ (8 - t) ≤ 2 ^ (8 - t) * 2 ^ t := by
        rw [← Nat.mul_succ]
        exact Nat.mul_le_mul_left _ h2
      rw [Nat.mul_comm (2 ^ (8 - t)) (2 ^ t), ← e8] at h3
      omega
    rw [e, and_byte _ _ _ _ hlt hm, ih', hclean c (val l) hc]
theorem clean1 (c r : Nat) (hc : c < 256) : (c / 2 ^ 1 + 2 ^ (8 - 1) * (r % 2 ^ 1)) &&& 85 = (c / 2 ^ 1) &&& 85 := by
  have h : ∀ a : Fin 128, ∀ b : Fin 2, (a.val + 128 * b.val) &&& 85 = a.val &&& 85 := by decide +kernel
  exact h ⟨c / 2, by omega⟩ ⟨r % 2, by omega⟩
theorem clean2 (c r : Nat) (hc : c < 256) : (c / 2 ^ 2 + 2 ^ (8 - 2) * (r % 2 ^ 2)) &&& 51 = (c / 2 ^ 2) &&& 51 := by
  have h : ∀ a : Fin 64, ∀ b : Fin 4, (a.val + 64 * b.val) &&& 51 = a.val &&& 51 := by decide +kernel
  exact h ⟨c / 4, by omega⟩ ⟨r % 4, by omega⟩
theorem clean4 (c r : Nat) (hc : c < 256) : (c / 2 ^ 4 + 2 ^ (8 - 4) * (r % 2 ^ 4)) &&& 15 = (c / 2 ^ 4) &&& 15 := by
  have h : ∀ a : Fin 16, ∀ b : Fin 16, (a.val + 16 * b.val) &&& 15 = a.val &&& 15 := by decide +kernel
  exact h ⟨c / 16, by omega⟩ ⟨r % 16, by omega⟩
/-- the three steps on one byte -/
def st1 (c : Nat) : Nat := (c / 2 &&& 85) + (c &&& 85)
def st2 (c : Nat) : Nat := (c / 4 &&& 51) + (c &&& 51)
theorem st_all : ∀ c : Fin 256, st1 c.val < 256 ∧ st2 (st1 c.val) ≤ 68 ∧ st2 (st1 c.val) % 16 ≤ 4 ∧ st2 (st1 c.val) / 16 + st2 (st1 c.val) % 16 = cnt c.val 8 ∧ cnt c.val 8 ≤ 8 := by decide +kernel
theorem val_add (f g : Nat → Nat) : ∀ l : List Nat, val (l.map f) + val (l.map g) = val (l.map fun c => f c + g c) := by
  intro l
  induction l with
  | nil => rfl
  | cons c l ih =>
    show (2 ^ 8 * val (l.map f) + f c) + (2 ^ 8 * val (l.map g) + g c) = 2 ^ 8 * val (l.map fun c => f c + g c) + (f c + g c)
    rw [← ih]
    omega
theorem low4 (l : List Nat) (h : ∀ c ∈ l, c % 16 ≤ 4) : val l % 16 ≤ 4 := by
  cases l with
  | nil => simp [val]
  | cons c l =>
    have := h c (by simp)
    show (2 ^ 8 * val l + c) % 16 ≤ 4
    omega
theorem nib_val : ∀ l : List Nat, (∀ c ∈ l, c ≤ 68 ∧ c % 16 ≤ 4) → (val l / 16 + val l) &&& mask8 15 l.length = val (l.map fun c => c / 16 + c % 16) := by
  intro l
  induction l with
  | nil => intro _; simp [val, mask8]
  | cons c l ih =>
    intro h
    have hc := h c (by simp)
    have hl := low4 l fun d hd => (h d (by simp [hd])).2
    have ih' := ih fun d hd => h d (by simp [hd])
    show ((2 ^ 8 * val l + c) / 16 + (2 ^ 8 * val l + c)) &&& (2 ^ 8 * mask8 15 l.length + 15) = 2 ^ 8 * val (l.map fun c => c / 16 + c % 16) + (c / 16 + c % 16)
    have e : (2 ^ 8 * val l + c) / 16 + (2 ^ 8 * val l + c) = 2 ^ 8 * (val l / 16 + val l) + (c / 16 + 16 * (val l % 16) + c) := by omega
    rw [e, and_byte _ _ _ _ (by omega) (by decide), ih', show (15 : Nat) = 2 ^ 4 - 1 from rfl, Nat.and_two_pow_sub_one_eq_mod]
    omega
theorem cnt_val : ∀ l : List Nat, small l → cnt (val l) (8 * l.length) = (l.map fun c => cnt c 8).sum := by
  intro l
  induction l with
  | nil => intro _; rfl
  | cons c l ih =>
    intro h
    show cnt (2 ^ 8 * val l + c) (8 * (l.length + 1)) = cnt c 8 + (l.map fun c => cnt c 8).sum
    rw [← ih (fun d hd => h d (by simp [hd])), show 8 * (l.length + 1) = 8 + 8 * l.length by omega, cnt_add _ _ _ (h c (by simp))]
def bytes8 (x : Nat) : List Nat := [x % 256, x / 256 % 256, x / 65536 % 256, x / 16777216 % 256, x / 4294967296 % 256, x / 1099511627776 % 256, x / 281474976710656 % 256, x / 72057594037927936 % 256]
theorem val_bytes8 (x : Nat) (h : x < 2 ^ 64) : val (bytes8 x) = x := by
  unfold bytes8
  simp only [val]
  omega
theorem small_bytes8 (x : Nat) : small (bytes8 x) := by
  intro c hc
  simp only [bytes8, List.mem_cons, List.not_mem_nil, or_false] at hc
  rcases hc with rfl | rfl | rfl | rfl | rfl | rfl | rfl | rfl <;> exact Nat.mod_lt _ (by decide)
/-- the three masked steps -/
theorem three (x : Nat) (hx : x < 2 ^ 64) : ∃ x1 x2 x3 : Nat, (x / 2 &&& 6148914691236517205) + (x &&& 6148914691236517205) = x1 ∧ (x1 / 4 &&& 3689348814741910323) + (x1 &&& 3689348814741910323) = x2 ∧ (x2 / 16 + x2) &&& 1085102592571150095 = x3 ∧
    x1 < 2 ^ 64 ∧ x2 < 2 ^ 63 ∧ x3 = val ((bytes8 x).map fun c => cnt c 8) := by
  have m85 : (6148914691236517205 : Nat) = mask8 85 8 := by decide
  have m51 : (3689348814741910323 : Nat) = mask8 51 8 := by decide
  have m15 : (1085102592571150095 : Nat) = mask8 15 8 := by decide
  have hs := small_bytes8 x
  have hst : ∀ c ∈ bytes8 x, st1 c < 256 ∧ st2 (st1 c) ≤ 68 ∧ st2 (st1 c) % 16 ≤ 4 ∧ st2 (st1 c) / 16 + st2 (st1 c) % 16 = cnt c 8 ∧ cnt c 8 ≤ 8 := fun c hc => st_all ⟨c, hs c hc⟩
  have e1 : (x / 2 &&& 6148914691236517205) + (x &&& 6148914691236517205) = val ((bytes8 x).map st1) := by
    have h1 := shr_val 1 85 (by decide) (by decide) clean1 (bytes8 x) hs
    have h2 := and_val 85 (by decide) (bytes8 x) hs
    rw [val_bytes8 x hx] at h1 h2
    rw [m85, show (8 : Nat) = (bytes8 x).length from rfl, show x / 2 = x / 2 ^ 1 from rfl, h1, h2, val_add]
    rfl
  have hs1 : small ((bytes8 x).map st1) := by
    intro c hc
    obtain ⟨d, hd, rfl⟩ := List.mem_map.1 hc
    exact (hst d hd).1
  have e2 : (val ((bytes8 x).map st1) / 4 &&& 3689348814741910323) + (val ((bytes8 x).map st1) &&& 3689348814741910323) = val (((bytes8 x).map st1).map st2) := by
    have h1 := shr_val 2 51 (by decide) (by decide) clean2 _ hs1
    have h2 := and_val 51 (by decide) _ hs1
    rw [m51, show (8 : Nat) = ((bytes8 x).map st1).length from rfl, show val ((bytes8 x).map st1) / 4 = val ((bytes8 x).map st1) / 2 ^ 2 from rfl, h1, h2, val_add]
    rfl
  have hb2 : ∀ c ∈ ((bytes8 x).map st1).map st2, c ≤ 68 ∧ c % 16 ≤ 4 := by
    intro c hc
    obtain ⟨d, hd, rfl⟩ := List.mem_map.1 hc
    obtain ⟨d', hd', rfl⟩ := List.mem_map.1 hd
    exact ⟨(hst d' hd').2.1, (hst d' hd').2.2.1⟩
  have e3 : (val (((bytes8 x).map st1).map st2) / 16 + val (((bytes8 x).map st1).map st2)) &&& 1085102592571150095 = val ((bytes8 x).map fun c => cnt c 8) := by
    have h1 := nib_val _ hb2
    rw [m15, show (8 : Nat) = (((bytes8 x).map st1).map st2).length from rfl, h1, List.map_map, List.map_map]
    congr 1
    exact List.map_congr_left fun c hc => (hst c hc).2.2.2.1
  refine ⟨_, _, _, rfl, rfl, rfl, ?_, ?_, ?_⟩
  · rw [e1]
    have b : ∀ l : List Nat, small l → val l < 2 ^ (8 * l.length) := by
      intro l
      induction l with
      | nil => intro _; simp [val]
      | cons c l ih =>
        intro h
        have h1 := ih fun d hd => h d (by simp [hd])
        have h2 := h c (by simp)
        show 2 ^ 8 * val l + c < 2 ^ (8 * (l.length + 1))
        rw [show 8 * (l.length + 1) = 8 + 8 * l.length by omega, Nat.pow_add]
        omega
    exact b _ hs1
  · rw [e1, e2]
    have hd := fun i (h : i < 8) => hb2 ((((bytes8 x).map st1).map st2)[i]'h) (List.getElem_mem _)
    have b0 := (hd 0 (by decide)).1
    have b1 := (hd 1 (by decide)).1
    have b2 := (hd 2 (by decide)).1
    have b3 := (hd 3 (by decide)).1
    have b4 := (hd 4 (by decide)).1
    have b5 := (hd 5 (by decide)).1
    have b6 := (hd 6 (by decide)).1
    have b7 := (hd 7 (by decide)).1
    simp only [bytes8, List.map_cons, List.map_nil, List.getElem_cons_zero, List.getElem_cons_succ] at b0 b1 b2 b3 b4 b5 b6 b7
    simp only [bytes8, List.map_cons, List.map_nil, val]
    omega
  · rw [e1, e2, e3]
end Go.Proofs.YtnodeojeijekcaaGreat
