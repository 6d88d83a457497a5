/- word.Bits: the iterator's contract: the ones of a word are handed on, rising, each once; it stops where a round says so. No condition but that the table of math/bits lies as the start lays it. -/
import Derived.Test.YtcjkachlahjbiaaDoorTabs
import Derived.Test.YtcjkachlahjbiaaDoorPlaces
import Derived.RangeFuncNested
import Derived.RangeFuncBound
import Derived.RangeFuncCalls
import Derived.RangeFuncLeaves
import Derived.Shelf.Abstract
import Derived.Shelf.RegionOpen
import Derived.WalkKit
import Derived.OwnWalkIn
import Derived.TacticsInMore
import Derived.LoopNIn
import Derived.LoopIn
namespace Go.Proofs.YtcjkachlahjbiaaDoor
open Go.RowKit Go.Shelf
set_option linter.unusedVariables false
attribute [local go_sem] Oper.semAt_some

/-! the lowest one taken away: numbers alone -/
theorem clear_bits (X k : Nat) (hb : X.testBit k = true) (hl : ∀ j, j < k → X.testBit j = false) (i : Nat) : (X &&& (X - 1)).testBit i = (X.testBit i && decide (i ≠ k)) := by
  have h1 : X % 2 ^ (k + 1) = 2 ^ k := by
    apply Nat.eq_of_testBit_eq
    intro j
    rw [Nat.testBit_mod_two_pow, Nat.testBit_two_pow]
    by_cases hj : j < k
    · simp [hl j hj, show ¬ k = j by omega]
    · by_cases hk : k = j
      · subst hk; simp [hb]
      · simp [hk, show ¬ j < k + 1 by omega]
  have h2 := Nat.div_add_mod X (2 ^ (k + 1))
  rw [h1] at h2
  generalize X / 2 ^ (k + 1) = m at h2
  subst h2
  have hp := Nat.two_pow_pos k
  have e : 2 ^ (k + 1) * m + 2 ^ k - 1 = 2 ^ (k + 1) * m + (2 ^ k - 1) := by omega
  have l1 : 2 ^ k < 2 ^ (k + 1) := Nat.pow_lt_pow_right (by decide) (by omega)
  rw [e, Nat.testBit_and, Nat.testBit_two_pow_mul_add _ l1, Nat.testBit_two_pow_mul_add _ (show 2 ^ k - 1 < 2 ^ (k + 1) by omega)]
  by_cases hi : i < k + 1
  · simp only [hi, if_true]
    rw [Nat.testBit_two_pow, Nat.testBit_two_pow_sub_one]
    by_cases hk : k = i
    · subst hk; simp
    · simp [hk]
  · simp only [hi, if_false]
    simp [show ¬ i = k by omega]
theorem plcs_clear (X k : Nat) (hb : X.testBit k = true) (hl : ∀ j, j < k → X.testBit j = false) : ∀ n, plcs X n = if k < n then (k : Int) :: plcs (X &&& (X - 1)) n else plcs (X &&& (X - 1)) n
  | 0 => rfl
  | n + 1 => by
    have ih := plcs_clear X k hb hl n
    have hc := clear_bits X k hb hl n
    by_cases h : k < n
    · rw [if_pos h] at ih
      rw [if_pos (by omega)]
      cases hn : X.testBit n with
      | true =>
        rw [hn] at hc
        rw [plcs_one X n hn, plcs_one _ n (by rw [hc]; simp; omega), ih]; rfl
      | false =>
        rw [hn] at hc
        rw [plcs_no X n hn, plcs_no _ n (by rw [hc]; rfl), ih]
    · rw [if_neg h] at ih
      by_cases hk : k = n
      · subst hk
        rw [if_pos (by omega)]
        have h0 : ∀ m, m ≤ k → plcs X m = [] := by
          intro m
          induction m with
          | zero => intro _; rfl
          | succ m ih2 => intro h; rw [plcs_no X m (hl m (by omega)), ih2 (by omega)]
        rw [plcs_one X k hb, plcs_no _ k (by rw [hc]; simp), ← ih, h0 k (Nat.le_refl _)]
        rfl
      · rw [if_neg (by omega)]
        have hn := hl n (by omega)
        rw [hn] at hc
        rw [plcs_no X n hn, plcs_no _ n (by rw [hc]; rfl), ih]
/-- the word without its lowest one -/
def lessI (x : Int) : Int := bits .and .u64 x (IntKind.u64.wrap (x - 1))
theorem less_clear (x : Int) (hx : U64 x) (h0 : x ≠ 0) : U64 (lessI x) ∧ plcs x.toNat 64 = lowI x :: plcs (lessI x).toNat 64 ∧ 0 ≤ lowI x ∧ lowI x < 64 := by
  obtain ⟨X, rfl⟩ := Int.eq_ofNat_of_zero_le hx.1
  have hX : X < 2 ^ 64 := by have := hx.2; omega
  have hX0 : X ≠ 0 := by omega
  obtain ⟨h1, h2, h3⟩ := ctz_bits X hX0 hX
  have e : lessI (X : Int) = ((X &&& (X - 1) : Nat) : Int) := by
    unfold lessI
    have : IntKind.u64.wrap ((X : Int) - 1) = ((X - 1 : Nat) : Int) := by rw [IntKind.wrap_u64]; omega
    rw [this, bits_and_u64_nat _ _ hX (by omega)]
  have h4 := plcs_clear X _ h2 h3 64
  rw [if_pos h1] at h4
  rw [e]
  refine ⟨U64.nat _ (Nat.and_lt_two_pow _ (by omega)), ?_, ?_⟩
  · rw [Int.toNat_natCast, Int.toNat_natCast]; exact h4
  · unfold lowI; rw [Int.toNat_natCast]; omega

/-- the numbers that were handed on, as integers -/
def fins (l : List (Fin 64)) : List Int := l.map fun i => ((i.val : Nat) : Int)
theorem fins_snoc (l : List (Fin 64)) (i : Fin 64) : fins (l ++ [i]) = fins l ++ [((i.val : Nat) : Int)] := by simp [fins]
abbrev bitEnc (i : Fin 64) : Array Value := #[.int .i64 ((i.val : Nat) : Int)]

set_option maxHeartbeats 400000 in
theorem bits_any (x : Int) (w : World) :
    Calls Tryd.prog 27 #[.int .u64 x] w fun e w' => e = .returned (.func (.func 36) #[] #[.pointer (some ⟨w.heap.size, 0, none⟩)]) ∧ w' = w.alloc (.cells #[.int .u64 x] 30) := by
  go_enter Tryd.func27, Tryd.ntmps27
  go_wp2
  go_ret
  exact ⟨rfl, rfl⟩

set_option maxRecDepth 100000 in
set_option maxHeartbeats 2000000 in
theorem bits_stops (n : Nat) (hn : 1 ≤ n) (B n₀ : Nat) (x : Int) (w : World) (hx : U64 x) (hn₀ : n₀ ≤ w.heap.size) (hg : 1 < n₀) (hT : Tab w) (hlt : B < w.heap.size) (hB : w.cell? ⟨B, 0, none⟩ = some (.int .u64 x)) :
    SeqStopsK Fence.wide n Tryd.prog 36 #[.pointer (some ⟨B, 0, none⟩)] bitEnc (Below n₀) (fun xs => fins xs = plcs x.toNat 64) (fun pre => fins pre <+: plcs x.toNat 64) (plcs x.toNat 64).length w :=
  fun l J Jx W hW _ _ hY h0 => by
  have hT1 : Tab W := hT.grew hW
  have hB1 := (hW.cell (p := ⟨B, 0, none⟩) hlt).trans hB
  refine callsIn_of_wp Tryd.func36 rfl trivial ?_ rfl
  simp only [Tryd.ntmps36, List.size_toArray, List.length_cons, List.length_nil, Nat.reduceAdd, Nat.reduceSub, Array.replicate_succ, Array.replicate_zero, List.push_toArray, List.append_toArray, List.nil_append, List.cons_append]
  gi_wp2
  gi_loopw [3] (fun p wr => ∃ (pre : List (Fin 64)) (R : Int), p = .int .u64 R ∧ U64 R ∧ Hid (plcs x.toNat 64 = fins pre ++ plcs R.toNat 64) ∧ Tab wr ∧ J pre wr) (fun p _ => (plcs (intOf p).toNat 64).length)
  case atStart => exact ⟨[], x, rfl, hx, by unfold Hid; rfl, hT1, h0⟩
  case round =>
    obtain ⟨pre, R, rfl, hR, hP, hTr, hJ⟩ := hrel
    by_cases hz : R = 0
    · subst hz
      gi_wp2
      go_end0
      refine ⟨⟨_, rfl⟩, .inl ⟨pre, ?_, hJ⟩⟩
      have := hP.out
      rw [show (0 : Int).toNat = 0 from rfl, plcs_nil, List.append_nil] at this
      exact this.symm
    · obtain ⟨h1, h2, h3, h4⟩ := less_clear R hR hz
      have hP2 := hP.out
      rw [h2] at hP2
      obtain ⟨i, hi⟩ : ∃ i : Fin 64, ((i.val : Nat) : Int) = lowI R := ⟨⟨(lowI R).toNat, by omega⟩, by simp; omega⟩
      have hS : plcs x.toNat 64 = fins (pre ++ [i]) ++ plcs (lessI R).toNat 64 := by rw [hP2, fins_snoc, hi]; simp
      have hlen : pre.length < (plcs x.toNat 64).length := by rw [hP2]; simp [fins]
      have HS := Lib.hid hS
      have HM := Lib.hid (show (plcs R.toNat 64).length = (plcs (lessI R).toNat 64).length + 1 by rw [h2]; rfl)
      have LW := Lib.hid (fun W' (h : Tab W') => lowest_still R W' hR h)
      have HU := Lib.hid h1
      rw [← hi] at LW
      have hz' : (R == 0) = false := by simp [hz]
      obtain ⟨fn, tmps, assign, body, hy, hRd⟩ := hY pre i wr hJ hlen
      dsimp only [bitEnc] at hy
      clear h2 hP2 hS hi h1 h3 h4 hP
      gi_wp2_with fail
      refine ⟨trivial, ?_⟩
      refine (callsIn_wide.2 (LW.out _ hTr)).mono ?_
      rintro e w' ⟨rfl, rfl⟩
      gi_wp2
      refine hRd.mono ?_
      rintro e W3 (⟨rfl, hJ3, hk3⟩ | ⟨rfl, hJx3⟩)
      · have hT3 : Tab W3 := hTr.below hk3 hg
        gi_wp2
        go_roundw
        case rel => exact ⟨pre ++ [i], lessI R, rfl, HU.out, HS, hT3, hJ3⟩
        case measure => simp only [intOf]; have := HM.out; unfold lessI at this; omega
      · gi_wp2
        refine bodyPost_ret (results_none rfl _ _ _) rfl ?_
        exact ⟨⟨_, rfl⟩, .inr ⟨pre ++ [i], ⟨_, HS.out.symm⟩, hJx3⟩⟩
end Go.Proofs.YtcjkachlahjbiaaDoor
