/- Texts of this seat, one behind the other: each says at its head what it holds. No condition of its own. -/
import Derived.Lib.TrailingZeros
import Derived.Lib.BitFns
import Derived.Lib.ItoaNum
import Derived.Test.YtnodeojeijekcaaGreatProg
import Derived.WalkKit
import Derived.Lib.Strings
import Derived.Lib.Slices
import Derived.Lib.Small
import Derived.Lib.Walk
import Derived.Lib.Hide
import Derived.Maps.AppendAt
import Derived.Deep.RegionHeld3
import Derived.Deep.QuietTactic
import Derived.BigQuiet
import Derived.Deep.Cut
import Derived.Deep.CutBlock
import Derived.Deep.DeepCutAuto
import Derived.Test.YtnodeojeijekcaaGreatGB01
import Derived.Test.YtnodeojeijekcaaGreatGB10
import Derived.Test.YtnodeojeijekcaaGreatGB19
import Derived.Test.YtnodeojeijekcaaGreatGB22
import Derived.Test.YtnodeojeijekcaaGreatGB26
import Derived.Test.YtnodeojeijekcaaGreatGB28
/- What the document's answers of layer 1 return: Power, Bit, Field, Get, Put. No condition but that each number fits its kind. -/
namespace Go.Proofs.YtnodeojeijekcaaGreat
open Go.RowKit

def powI (i : Int) : Int := ((2 ^ i.toNat : Nat) : Int)
theorem powI_U64 (i : Int) (h : i ≤ 63) : U64 (powI i) := by
  refine U64.nat _ ?_
  exact Nat.pow_lt_pow_right (by decide) (by omega)
theorem powI_succ (j : Nat) (h : j < 63) : IntKind.u64.wrap (powI j * 2) = powI (j + 1) := by
  have h1 : 2 ^ (j + 1) < 2 ^ 64 := Nat.pow_lt_pow_right (by decide) (by omega)
  have e : powI (j + 1) = ((2 ^ (j + 1) : Nat) : Int) := rfl
  rw [e, IntKind.wrap_u64]
  unfold powI
  rw [Int.toNat_natCast]
  have : (2 : Nat) ^ (j + 1) = 2 ^ j * 2 := Nat.pow_succ ..
  omega
set_option maxHeartbeats 400000 in
theorem power_any (i : Int) (w : World) (h : i ≤ 63) :
    Calls Tryz.prog 70 #[.int .i64 i] w fun e w' => e = .returned (.int .u64 (powI i)) ∧ Quiet w w' := by
  go_enter Tryz.func70, Tryz.ntmps70
  go_wp2
  go_loopw [3, 4] (fun p k wr => ∃ j : Nat, j ≤ i.toNat ∧ k = .int .i64 j ∧ p = .int .u64 (powI j) ∧ Quiet w wr) (fun _ k _ => i.toNat - (intOf k).toNat)
  case atStart => exact ⟨0, Nat.zero_le _, rfl, rfl, Quiet.refl _⟩
  case round =>
    obtain ⟨j, hj, rfl, rfl, hq⟩ := hrel
    by_cases hlt : (j : Int) < i
    · have hw := powI_succ j (by omega)
      go_wp2
      go_roundw
      case rel => exact ⟨j + 1, by omega, by go_num, rfl, hq⟩
      case measure => simp [intOf]; omega
    · go_wp2
      go_ret
      exact ⟨ret_int (by unfold powI; rw [show i.toNat = j by omega]; rfl), hq⟩

/-- bit i of x, as a number -/
def bitI (x i : Int) : Int := (((x.toNat.testBit i.toNat).toNat : Nat) : Int)
theorem bitI_eq (x : Int) (i : Int) (hx : U64 x) : x / powI i % 2 = bitI x i := by
  obtain ⟨X, rfl⟩ := Int.eq_ofNat_of_zero_le hx.1
  unfold powI bitI
  rw [Int.toNat_natCast, Nat.toNat_testBit, ← Int.natCast_ediv]
  rfl
theorem bitI_01 (x i : Int) : bitI x i = 0 ∨ bitI x i = 1 := by
  unfold bitI
  cases x.toNat.testBit i.toNat <;> simp
theorem powI_pos (i : Int) : 1 ≤ powI i := by
  unfold powI
  have := Nat.two_pow_pos i.toNat
  omega
set_option maxHeartbeats 400000 in
theorem bit_any (x i : Int) (w : World) (hx : U64 x) (h : i ≤ 63) :
    Calls Tryz.prog 69 #[.int .u64 x, .int .i64 i] w fun e w' => e = .returned (.int .u64 (bitI x i)) ∧ Quiet w w' := by
  have hp := powI_pos i
  have hu := powI_U64 i h
  rw [← bitI_eq x i hx]
  obtain ⟨x0, x1⟩ := id hx
  generalize hP : powI i = P at *
  have C := Lib.hid (fun W => power_any i W h)
  rw [hP] at C
  clear hP
  go_enter Tryz.func69, Tryz.ntmps69
  go_wp2_with (go_at_call 70; refine (C.out _).mono ?_; rintro e w1 ⟨rfl, hq⟩)
  go_ret
  exact ⟨ret_int (Int.tmod_eq_emod_of_nonneg (Int.ediv_nonneg x0 (by omega))), hq⟩
/-! a word put together bit by bit -/
theorem getN_succ (x a j : Nat) : getN x a (j + 1) = getN x a j + (x.testBit (a + j)).toNat * 2 ^ j := by
  unfold getN
  rw [Nat.mod_pow_succ, ← Nat.toNat_testBit, Nat.testBit_shiftRight, Nat.mul_comm]
theorem sum_step (x : Int) (a j : Nat) (hj : j < 64) : IntKind.u64.wrap (bitI x (a + j) * powI j) = bitI x (a + j) * powI j ∧ IntKind.u64.wrap (getI x a j + bitI x (a + j) * powI j) = getI x a (j + 1 : Nat) := by
  have h1 := getN_succ x.toNat a j
  have h2 := getN_lt x.toNat a (j + 1)
  have h3 : 2 ^ (j + 1) ≤ 2 ^ 64 := Nat.pow_le_pow_right (by decide) (by omega)
  have e1 : bitI x (a + j) * powI j = (((x.toNat.testBit (a + j)).toNat * 2 ^ j : Nat) : Int) := by
    unfold bitI powI
    rw [show ((a : Int) + (j : Int)).toNat = a + j by omega, Int.toNat_natCast, Int.natCast_mul]
  have e2 : getI x a j = ((getN x.toNat a j : Nat) : Int) := by
    unfold getI
    rw [Int.toNat_natCast, Int.toNat_natCast]
  have e3 : getI x a (j + 1 : Nat) = ((getN x.toNat a (j + 1) : Nat) : Int) := by
    unfold getI
    rw [Int.toNat_natCast, Int.toNat_natCast]
  rw [e3, e1, e2, IntKind.wrap_u64, IntKind.wrap_u64]
  generalize (x.toNat.testBit (a + j)).toNat * 2 ^ j = T at *
  omega

end Go.Proofs.YtnodeojeijekcaaGreat
/- The places of a word's ones, as a list: numbers alone. No condition. -/
namespace Go.Proofs.YtnodeojeijekcaaGreat
open Go.RowKit

/-- the places below n of the ones of X, rising -/
def plcs (X n : Nat) : List Int := ((List.range n).filter fun i => X.testBit i).map fun i => ((i : Nat) : Int)
theorem plcs_zero (X : Nat) : plcs X 0 = [] := rfl
theorem plcs_one (X n : Nat) (h : X.testBit n = true) : plcs X (n + 1) = plcs X n ++ [((n : Nat) : Int)] := by
  unfold plcs
  rw [List.range_succ, List.filter_append, List.map_append]
  simp [h]
theorem plcs_no (X n : Nat) (h : X.testBit n = false) : plcs X (n + 1) = plcs X n := by
  unfold plcs
  rw [List.range_succ, List.filter_append, List.map_append]
  simp [h]
theorem plcs_len_le (X n : Nat) : (plcs X n).length ≤ n := by
  unfold plcs
  rw [List.length_map]
  exact Nat.le_trans (List.length_filter_le _ _) (by simp)
theorem plcs_mem {X n : Nat} {z : Int} (h : z ∈ plcs X n) : 0 ≤ z ∧ z < n ∧ X.testBit z.toNat = true := by
  unfold plcs at h
  obtain ⟨i, hi, rfl⟩ := List.mem_map.1 h
  obtain ⟨h1, h2⟩ := List.mem_filter.1 hi
  have := List.mem_range.1 h1
  exact ⟨by omega, by omega, by simpa using h2⟩
theorem plcs_getD {X n k : Nat} (h : k < (plcs X n).length) : 0 ≤ (plcs X n).getD k 0 ∧ (plcs X n).getD k 0 < n ∧ X.testBit ((plcs X n).getD k 0).toNat = true := by
  rw [List.getD_eq_getElem?_getD, List.getElem?_eq_getElem h]
  exact plcs_mem (List.getElem_mem h)
theorem cnt_all (X n : Nat) : cnt X n = cnt (X % 2 ^ n) n := by
  have h := cnt_add (X % 2 ^ n) (X / 2 ^ n) n (Nat.mod_lt _ (Nat.two_pow_pos n)) 0
  rw [Nat.div_add_mod, Nat.add_zero] at h
  rw [h]
  simp [cnt]
theorem cnt_snoc (X n : Nat) : cnt X (n + 1) = cnt X n + (X.testBit n).toNat := rfl
theorem plcs_length (X : Nat) : ∀ n, (plcs X n).length = cnt X n
  | 0 => rfl
  | n + 1 => by
    rw [cnt_snoc, ← plcs_length X n]
    cases h : X.testBit n with
    | true => rw [plcs_one X n h]; simp
    | false => rw [plcs_no X n h]; simp
/-- those below b alone -/
theorem plcs_below (X : Nat) (at_ : Int) : ∀ n, ((plcs X n).filter fun z => decide (z < at_)) = plcs X (min n at_.toNat)
  | 0 => by simp [plcs_zero]
  | n + 1 => by
    have ih := plcs_below X at_ n
    by_cases ha : ((n : Nat) : Int) < at_
    · have e : min (n + 1) at_.toNat = min n at_.toNat + 1 := by omega
      have e2 : min n at_.toNat = n := by omega
      rw [e, e2]
      rw [e2] at ih
      cases h : X.testBit n with
      | true => rw [plcs_one X n h, List.filter_append, ih]; simp [ha]
      | false => rw [plcs_no X n h, ih]
    · have e : min (n + 1) at_.toNat = min n at_.toNat := by omega
      rw [e]
      cases h : X.testBit n with
      | true => rw [plcs_one X n h, List.filter_append, ih]; simp [ha]
      | false => rw [plcs_no X n h, ih]
/-! the first and the last one -/
theorem plcs_first (X k : Nat) (hb : X.testBit k = true) (hl : ∀ j, j < k → X.testBit j = false) : ∀ n, k < n → (plcs X n).getD 0 0 = (k : Int) ∧ 0 < (plcs X n).length := by
  have h0 : ∀ n, n ≤ k → plcs X n = [] := by
    intro n
    induction n with
    | zero => intro _; rfl
    | succ n ih => intro h; rw [plcs_no X n (hl n (by omega)), ih (by omega)]
  intro n
  induction n with
  | zero => intro h; omega
  | succ n ih =>
    intro h
    by_cases hk : k = n
    · subst hk
      rw [plcs_one X k hb, h0 k (Nat.le_refl _)]
      exact ⟨rfl, by simp⟩
    · obtain ⟨h1, h2⟩ := ih (by omega)
      cases hn : X.testBit n with
      | true =>
        rw [plcs_one X n hn]
        refine ⟨?_, by simp⟩
        rw [List.getD_eq_getElem?_getD, List.getElem?_append_left h2, ← List.getD_eq_getElem?_getD, h1]
      | false => rw [plcs_no X n hn]; exact ⟨h1, h2⟩
theorem plcs_none (X : Nat) (hl : ∀ j, X.testBit j = false) : ∀ n, plcs X n = []
  | 0 => rfl
  | n + 1 => by rw [plcs_no X n (hl n), plcs_none X hl n]
theorem plcs_last (X k : Nat) (hb : X.testBit k = true) : ∀ n, k < n → (∀ j, k < j → j < n → X.testBit j = false) → plcs X n = plcs X k ++ [(k : Int)] := by
  intro n
  induction n with
  | zero => intro h; omega
  | succ n ih =>
    intro h hl
    by_cases hk : k = n
    · subst hk
      exact plcs_one X k hb
    · rw [plcs_no X n (hl n (by omega) (by omega)), ih (by omega) (fun j h1 h2 => hl j h1 (by omega))]
theorem ctz_bits (X : Nat) (h0 : X ≠ 0) (hX : X < 2 ^ 64) : Lib.ctz 64 X < 64 ∧ X.testBit (Lib.ctz 64 X) = true ∧ ∀ j, j < Lib.ctz 64 X → X.testBit j = false := by
  have e : Lib.ctz 64 X = Lib.ctzFrom 64 X := by unfold Lib.ctz; rw [if_neg h0]
  rw [e]
  obtain ⟨m, h1, h2⟩ := Lib.ctzFrom_spec 64 X (by omega) hX
  generalize Lib.ctzFrom 64 X = k at *
  subst h1
  refine ⟨h2, ?_, ?_⟩
  · rw [Nat.mul_comm, Nat.testBit_mul_two_pow, Nat.sub_self, Nat.testBit_zero]
    simp
  · intro j hj
    rw [Nat.mul_comm, Nat.testBit_mul_two_pow]
    simp; omega
theorem bitLen_bits (X : Nat) (h0 : X ≠ 0) (hX : X < 2 ^ 64) : 1 ≤ Lib.bitLen X ∧ Lib.bitLen X ≤ 64 ∧ X.testBit (Lib.bitLen X - 1) = true ∧ ∀ j, Lib.bitLen X - 1 < j → X.testBit j = false := by
  obtain ⟨h1, h2, h3⟩ := Lib.bitLenAux_bounds 64 X hX h0
  have h4 : Lib.bitLen X ≤ 64 := Lib.bitLen_le X 64 (by omega) hX
  change 1 ≤ Lib.bitLen X at h1
  change 2 ^ (Lib.bitLen X - 1) ≤ X at h2
  change X < 2 ^ Lib.bitLen X at h3
  generalize Lib.bitLen X = L at *
  refine ⟨h1, h4, ?_, ?_⟩
  · have e : L = (L - 1) + 1 := by omega
    rw [e] at h3
    rw [Nat.testBit_eq_decide_div_mod_eq]
    have h5 : X / 2 ^ (L - 1) = 1 := by
      rw [Nat.pow_succ] at h3
      have hp := Nat.two_pow_pos (L - 1)
      have h6 : 1 ≤ X / 2 ^ (L - 1) := (Nat.le_div_iff_mul_le hp).2 (by omega)
      have h7 : X / 2 ^ (L - 1) < 2 := (Nat.div_lt_iff_lt_mul hp).2 (by omega)
      omega
    rw [h5]; decide
  · intro j hj
    exact Nat.testBit_lt_two_pow (Nat.lt_of_lt_of_le h3 (Nat.pow_le_pow_right (by decide) (by omega)))
theorem plcs_high (X : Nat) (hX : X < 2 ^ 64) : ∀ d, plcs X (64 + d) = plcs X 64
  | 0 => rfl
  | d + 1 => by rw [show 64 + (d + 1) = 64 + d + 1 by omega, plcs_no X (64 + d) (Nat.testBit_lt_two_pow (Nat.lt_of_lt_of_le hX (Nat.pow_le_pow_right (by decide) (by omega)))), plcs_high X hX d]
theorem plcs_low (X : Nat) (hX : X < 2 ^ 64) (h0 : X ≠ 0) : 0 < (plcs X 64).length ∧ (plcs X 64).getD 0 0 = ((Lib.ctz 64 X : Nat) : Int) := by
  obtain ⟨h1, h2, h3⟩ := ctz_bits X h0 hX
  obtain ⟨h4, h5⟩ := plcs_first X _ h2 h3 64 h1
  exact ⟨h5, h4⟩
theorem plcs_top (X : Nat) (hX : X < 2 ^ 64) (h0 : X ≠ 0) : (plcs X 64).getD ((plcs X 64).length - 1) 0 = ((Lib.bitLen X : Nat) : Int) - 1 := by
  obtain ⟨h1, h2, h3, h4⟩ := bitLen_bits X h0 hX
  have h5 := plcs_last X _ h3 64 (by omega) (fun j h _ => h4 j h)
  rw [h5]
  rw [List.length_append, List.length_singleton, Nat.add_sub_cancel, List.getD_eq_getElem?_getD, List.getElem?_append_right (Nat.le_refl _), Nat.sub_self]
  simp
  omega
theorem plcs_nil (n : Nat) : plcs 0 n = [] := plcs_none 0 (fun j => Nat.zero_testBit j) n
end Go.Proofs.YtnodeojeijekcaaGreat
/- What math/bits.Len64 returns, for all words. No condition but that the number fits its kind. -/
namespace Go.Proofs.YtnodeojeijekcaaGreat
open Go.RowKit
set_option linter.unusedVariables false
end Go.Proofs.YtnodeojeijekcaaGreat
/- What the document's Places, Rank and Mask return, and word.Ones, Rank and Highest, for all words. No condition but that each number fits its kind. -/
namespace Go.Proofs.YtnodeojeijekcaaGreat
open Go.RowKit
set_option linter.unusedVariables false

theorem info_int : (Tryz.prog.info? 3).map (fun i => (i.zero, i.size, i.bytes)) = some (some (.int .i64 0), 1, 8) := by kernel_rfl
theorem bit_yes (x : Int) (j : Nat) (hx : U64 x) (hj : j < 64) (h : x.toNat.testBit j = true) (w : World) :
    Calls Tryz.prog 69 #[.int .u64 x, .int .i64 j] w fun e w' => e = .returned (.int .u64 1) ∧ Quiet w w' := by
  have := bit_any x j w hx (by omega)
  unfold bitI at this
  rw [Int.toNat_natCast, h] at this
  exact this
theorem bit_no (x : Int) (j : Nat) (hx : U64 x) (hj : j < 64) (h : x.toNat.testBit j = false) (w : World) :
    Calls Tryz.prog 69 #[.int .u64 x, .int .i64 j] w fun e w' => e = .returned (.int .u64 0) ∧ Quiet w w' := by
  have := bit_any x j w hx (by omega)
  unfold bitI at this
  rw [Int.toNat_natCast, h] at this
  exact this

set_option maxRecDepth 100000 in
set_option maxHeartbeats 1000000 in
theorem places_any (x : Int) (w : World) (hx : U64 x) :
    Calls Tryz.prog 44 #[.int .u64 x] w fun e w' => ∃ v, e = .returned v ∧ w'.ownsRow w.heap.size 3 1 v (plcs x.toNat 64).length ((plcs x.toNat 64).map (Value.int .i64)) ∧ Below w.heap.size w w' := by
  obtain ⟨i0, hi, hz0, hz1, hz2⟩ := info_parts info_int
  go_enter Tryz.func44, Tryz.ntmps44
  go_wp2
  go_loopw [3, 4] (fun v i wr => ∃ (j : Nat), j ≤ 64 ∧ i = .int .i64 j ∧ wr.ownsRow w.heap.size 3 1 v (plcs x.toNat j).length ((plcs x.toNat j).map (Value.int .i64)) ∧ Below w.heap.size w wr)
    (fun _ i _ => 64 - (intOf i).toNat)
  case atStart => exact ⟨0, Nat.zero_le _, rfl, World.ownsRow_nil _ _ _ _, Below.refl _ _⟩
  case round =>
    obtain ⟨j, hj, rfl, hown, hb⟩ := hrel
    have hlen := plcs_len_le x.toNat j
    have hsz := hb.size
    by_cases hlt : j < 64
    · cases hbit : x.toNat.testBit j with
      | true =>
        have P := Lib.hid (fun W => bit_yes x j hx hlt hbit W)
        have E := Lib.hid (plcs_one x.toNat j hbit)
        clear hbit
        generalize plcs x.toNat j = L at *
        go_wp2_with (first | (go_at_call 69; refine (P.out _).mono ?_; rintro e w2 ⟨rfl, hq2⟩; have hown2 := hq2.ownsRow hown; have hb2 := hb.trans (hq2.below (B := w.heap.size)); have hsz2 := hb2.size) | (at_builtin; refine wpList_append_own _ rfl _ _ 99 rfl w.heap.size 3 i0 (.int .i64 0) 1 8 Tryz.underlying99 hi hz0 hz1 hz2 rfl (by decide) _ _ _ rfl (hown2.alloc _) ⟨w2.heap.size, 0, none⟩ 1 1 [.int .i64 j] rfl rfl (cell_one_new _ _ _) ?c2 ?c3 ?c4 ?c5 ?_))
        case c2 => simp [Value.oneCell']
        case c3 => unfold maxLen; omega
        case c4 => omega
        case c5 => simp; omega
        intro v' w3 hown3 hgrow _
        have hb3 : Below w.heap.size w w3 := (hb2.alloc hsz2 _).grown hgrow (by simp; omega) (fun j hj => (hown2.lt j hj).1)
        have hown4 : w3.ownsRow w.heap.size 3 1 v' (plcs x.toNat (j + 1)).length ((plcs x.toNat (j + 1)).map (Value.int .i64)) := by rw [E.out, List.map_append, List.length_append]; exact hown3
        clear hown3 hgrow hown2 hown hb2 hb E
        go_wp2
        go_roundw
        case rel => exact ⟨j + 1, by omega, by go_num, hown4, hb3⟩
        case measure => simp [intOf]; omega
      | false =>
        have P := Lib.hid (fun W => bit_no x j hx hlt hbit W)
        have E := Lib.hid (plcs_no x.toNat j hbit)
        clear hbit
        rw [← E.out] at hown
        generalize hLL : plcs x.toNat (j + 1) = L at hown
        have HL := Lib.hid hLL
        clear hLL E hlen
        go_wp2_with (go_at_call 69; refine (P.out _).mono ?_; rintro e w2 ⟨rfl, hq2⟩; have hown2 := hq2.ownsRow hown; have hb2 := hb.trans (hq2.below (B := w.heap.size)); have hsz2 := hb2.size)
        go_roundw
        case rel => exact ⟨j + 1, by omega, by go_num, by rw [HL.out]; exact hown2, hb2⟩
        case measure => simp [intOf]; omega
    · obtain rfl : j = 64 := by omega
      go_wp2
      go_ret
      exact ⟨_, rfl, hown, hb⟩

theorem places_lst (x : Int) (w : World) (hx : U64 x) :
    Calls Tryz.prog 44 #[.int .u64 x] w fun e w' => ∃ v, e = .returned v ∧ Lst .i64 w' v (plcs x.toNat 64) ∧ Below w.heap.size w w' :=
  (places_any x w hx).mono fun _ _ ⟨v, he, hr, hb⟩ => ⟨v, he, lst_of_own hr, hb⟩
/-- .. of 0, of another word: nil, a row of cells. -/
theorem places_none (w : World) : Calls Tryz.prog 44 #[.int .u64 0] w fun e w' => ∃ a c, e = .returned (.slice a 0 c) ∧ Below w.heap.size w w' :=
  (places_lst 0 w (by constructor <;> decide)).mono fun _ _ ⟨v, he, hl, hb⟩ => by
    rw [show (0 : Int).toNat = 0 from rfl, plcs_nil] at hl
    rcases hl with ⟨_, a, c, h1⟩ | ⟨_, _, _, _, h2, _⟩
    · exact ⟨a, c, by rw [he, h1], hb⟩
    · exact absurd h2 (by simp)
theorem places_some (x : Int) (w : World) (n : Nat) (hx : U64 x) (hn : n = (plcs x.toNat 64).length) (h0 : 0 < n) :
    Calls Tryz.prog 44 #[.int .u64 x] w fun e w' => ∃ b o c, e = .returned (.slice (some ⟨b, o, none⟩) n c) ∧ (∀ i, i < n → w'.cell? ⟨b, o + i, none⟩ = some (.int .i64 ((plcs x.toNat 64).getD i 0))) ∧ Below w.heap.size w w' := by
  subst hn
  refine (places_lst x w hx).mono fun _ _ ⟨v, he, hl, hb⟩ => ?_
  rcases hl with ⟨h1, _⟩ | ⟨b, o, c, h1, _, h3, h4⟩
  · rw [h1] at h0; exact absurd h0 (by simp)
  · exact ⟨b, o, c, by rw [he, h1], h4, hb⟩

/-- how many ones stand below a bit -/
def rankI (x a : Int) : Int := (((plcs x.toNat (bnd a).toNat).length : Nat) : Int)
theorem bnd_min (a : Int) : (bnd a).toNat = min 64 a.toNat := by unfold bnd; split <;> (try split) <;> omega
theorem rank_and (x a : Int) (hx : U64 x) : onesI (bits .and .u64 x (maskI a)) = rankI x a ∧ U64 (bits .and .u64 x (maskI a)) := by
  obtain ⟨X, rfl⟩ := Int.eq_ofNat_of_zero_le hx.1
  have hX : X < 2 ^ 64 := by have := hx.2; omega
  have hm := maskI_U64 a
  have hb := bnd_bd a
  unfold maskI at hm ⊢
  rw [bits_and_u64_nat _ _ hX (by have := hm.2; omega), Nat.and_two_pow_sub_one_eq_mod]
  refine ⟨?_, U64.nat _ (Nat.lt_of_le_of_lt (Nat.mod_le _ _) hX)⟩
  unfold onesI rankI
  rw [Int.toNat_natCast, Int.toNat_natCast, plcs_length]
  obtain ⟨b, hb'⟩ : ∃ b, b = (bnd a).toNat := ⟨_, rfl⟩
  rw [← hb']
  have h64 : 64 = b + (64 - b) := by omega
  have h := cnt_add (X % 2 ^ b) 0 b (Nat.mod_lt _ (Nat.two_pow_pos b)) (64 - b)
  rw [Nat.mul_zero, Nat.zero_add, ← h64, ← cnt_all] at h
  have h0 : ∀ m, cnt 0 m = 0 := by
    intro m
    induction m with
    | zero => rfl
    | succ m ih => simp [cnt, ih]
  rw [h, h0, Nat.add_zero]

set_option maxRecDepth 100000 in
set_option maxHeartbeats 400000 in
theorem ones_w (x : Int) (w : World) (hx : U64 x) :
    Calls Tryz.prog 57 #[.int .u64 x] w fun e w' => e = .returned (.int .i64 (onesI x)) ∧ Quiet w w' := by
  have R := Lib.hid (fun W => onesCount_any x W hx)
  generalize onesI x = y at *
  go_enter Tryz.func57, Tryz.ntmps57
  go_wp2_with (go_at_call 81; refine (R.out _).mono ?_; rintro e w1 ⟨rfl, hq1⟩)
  go_ret
  exact ⟨rfl, hq1⟩

theorem filt_take_succ (L : List Int) (a : Int) (k : Nat) (h : k < L.length) :
    (((L.take (k + 1)).filter fun z => decide (z < a)).length = ((L.take k).filter fun z => decide (z < a)).length + (if L.getD k 0 < a then 1 else 0)) := by
  rw [List.take_add_one, List.getElem?_eq_getElem h, List.filter_append, List.length_append]
  simp only [Option.toList]
  rw [List.getD_eq_getElem?_getD, List.getElem?_eq_getElem h, Option.getD_some]
  by_cases h1 : L[k] < a <;> simp [h1]

theorem mask_step (n : Int) (j : Nat) (hj : j < 64) : (j < n → IntKind.u64.wrap (((2 ^ min j n.toNat - 1 : Nat) : Int) + powI j) = ((2 ^ min (j + 1) n.toNat - 1 : Nat) : Int)) ∧ (¬ j < n → min (j + 1) n.toNat = min j n.toNat) := by
  refine ⟨fun h => ?_, fun h => by omega⟩
  have e1 : min j n.toNat = j := by omega
  have e2 : min (j + 1) n.toNat = j + 1 := by omega
  have hp := Nat.two_pow_pos j
  have h1 : 2 ^ (j + 1) ≤ 2 ^ 64 := Nat.pow_le_pow_right (by decide) (by omega)
  rw [e1, e2, IntKind.wrap_u64]
  unfold powI
  rw [Int.toNat_natCast]
  rw [Nat.pow_succ] at h1 ⊢
  omega
/-- the highest bit that is 1; -1: none -/
def highI (x : Int) : Int := ((Lib.bitLen x.toNat : Nat) : Int) - 1
end Go.Proofs.YtnodeojeijekcaaGreat
/- Bits that both words have, and those that the first alone has: numbers for PagesSpares. No condition but that they are words. -/
namespace Go.Proofs.YtnodeojeijekcaaGreat
open Go.RowKit
set_option linter.unusedVariables false
theorem and_natP (x y : Int) (hx : U64 x) (hy : U64 y) : U64 (bits .and .u64 x y) ∧ (bits .and .u64 x y).toNat = x.toNat &&& y.toNat := by
  obtain ⟨X, rfl⟩ := Int.eq_ofNat_of_zero_le hx.1
  obtain ⟨Y, rfl⟩ := Int.eq_ofNat_of_zero_le hy.1
  have hX : X < 2 ^ 64 := by have := hx.2; omega
  have hY : Y < 2 ^ 64 := by have := hy.2; omega
  rw [bits_and_u64_nat _ _ (by omega) (by omega)]
  have := Nat.and_lt_two_pow X hY
  exact ⟨⟨by omega, by omega⟩, by simp⟩
theorem andNot_natP (x y : Int) (hx : U64 x) (hy : U64 y) : U64 (bits .andNot .u64 x y) ∧ (bits .andNot .u64 x y).toNat = x.toNat &&& (18446744073709551615 - y.toNat) := by
  obtain ⟨X, rfl⟩ := Int.eq_ofNat_of_zero_le hx.1
  obtain ⟨Y, rfl⟩ := Int.eq_ofNat_of_zero_le hy.1
  have hX : X < 2 ^ 64 := by have := hx.2; omega
  have hY : Y < 2 ^ 64 := by have := hy.2; omega
  rw [u64_andNot_nat _ _ (by omega) (by omega)]
  have := Nat.and_lt_two_pow X (show 18446744073709551615 - Y < 2 ^ 64 by omega)
  exact ⟨⟨by omega, by omega⟩, by simp⟩
theorem bit_and (x y : Int) (i : Int) (hx : U64 x) (hy : U64 y) : IntKind.u64.wrap (bitI x i * bitI y i) = bitI (bits .and .u64 x y) i := by
  have e : bitI (bits .and .u64 x y) i = bitI x i * bitI y i := by
    unfold bitI
    rw [(and_natP x y hx hy).2, Nat.testBit_and]
    cases x.toNat.testBit i.toNat <;> cases y.toNat.testBit i.toNat <;> rfl
  rw [e]
  rcases bitI_01 x i with h1 | h1 <;> rcases bitI_01 y i with h2 | h2 <;> rw [h1, h2] <;> rfl
theorem cnt_left (X Y : Nat) (hY : Y < 2 ^ 64) : ∀ n, n ≤ 64 → cnt X n = cnt (X &&& (18446744073709551615 - (X &&& Y))) n + cnt (X &&& Y) n
  | 0, _ => rfl
  | n + 1, h => by
    have ih := cnt_left X Y hY n (by omega)
    rw [cnt_snoc, cnt_snoc, cnt_snoc, Nat.testBit_and, Nat.testBit_and]
    have hZ : X &&& Y < 2 ^ 64 := Nat.and_lt_two_pow X hY
    have e : (18446744073709551615 - (X &&& Y)).testBit n = !(X.testBit n && Y.testBit n) := by
      have := Nat.testBit_two_pow_sub_succ hZ n
      rw [show 2 ^ 64 - ((X &&& Y) + 1) = 18446744073709551615 - (X &&& Y) by omega, Nat.testBit_and] at this
      rw [this, decide_eq_true (by omega), Bool.true_and]
    rw [e]
    cases X.testBit n <;> cases Y.testBit n <;> simp <;> omega
theorem ones_left (al ma : Int) (ha : U64 al) (hm : U64 ma) : U64 (bits .andNot .u64 al (bits .and .u64 al ma)) ∧ onesI (bits .andNot .u64 al (bits .and .u64 al ma)) = ((plcs al.toNat 64).length : Int) - ((plcs (bits .and .u64 al ma).toNat 64).length : Int) := by
  obtain ⟨h1, h2⟩ := and_natP al ma ha hm
  obtain ⟨h3, h4⟩ := andNot_natP al _ ha h1
  refine ⟨h3, ?_⟩
  rw [plcs_length, plcs_length]
  unfold onesI
  rw [h4, h2]
  have := cnt_left al.toNat ma.toNat (by have := hm.1; have := hm.2; omega) 64 (Nat.le_refl _)
  omega
end Go.Proofs.YtnodeojeijekcaaGreat
/- The document's tape: what it was answered, and what it asks next. No condition but that its blocks lie there. -/
namespace Go.Proofs.YtnodeojeijekcaaGreat
open Go.RowKit
set_option linter.unusedVariables false

/-- answers, the next one, what is asked (kind, cell, want, put), does it stand? -/
structure Tp where
  H : List Int
  pos : Nat
  k : Int
  a : Int
  wn : Int
  p : Int
  st : Bool
def Tp.ask (t : Tp) (k a wn p : Int) : Int × Tp := if t.st then (0, t) else if t.pos < t.H.length then (t.H.getD t.pos 0, { t with pos := t.pos + 1 }) else (0, { t with k := k, a := a, wn := wn, p := p, st := true })
def Tp.again (t : Tp) : Tp := { t with pos := 0, st := false }
abbrev tpCells (hv : Value) (t : Tp) : Array Value := #[hv, .int .i64 t.pos, .int .i64 0, .int .i64 t.k, .int .i64 t.a, .int .u64 t.wn, .int .u64 t.p, .int .u64 0, .int .u64 0, .bool t.st]
structure TapeAt (w : World) (B x : Nat) (hv : Value) (t : Tp) : Prop where
  own : Blk w x (tpCells hv t) 51
  row : w.ownsRow B 47 1 hv t.H.length (t.H.map (Value.int .u64))
theorem own_neP {w : World} {B E size n b : Nat} {v : Value} {xs : List Value} {cs : Array Value} {t : TypeId} (h : w.ownsRow B E size v n xs) (hb : Blk w b cs t) (ht : E ≠ t) : v.ownBlock ≠ some b := by
  intro hg
  rcases h.2 with ⟨hv, _⟩ | ⟨g', cap, cur, hv, _, hh, _⟩
  · rw [hv] at hg; cases hg
  · rw [hv] at hg
    obtain rfl : g' = b := Option.some.inj hg
    unfold Blk at hb
    rw [hh] at hb
    injection hb with hb
    injection hb with _ h2
    exact ht h2
theorem own_touchP {R : Nat → Prop} {w w' : World} {base n size : Nat} {e : TypeId} {v : Value} {xs : List Value} (h : w.ownsRow base e size v n xs) (hk : Touch R w w') (hx : ∀ k, v.ownBlock = some k → ¬ R k) : w'.ownsRow base e size v n xs := by
  refine ⟨h.1, ?_⟩
  rcases h.2 with hn | ⟨g, cap, cur, h1, h2, h3, h4⟩
  · exact .inl hn
  · exact .inr ⟨g, cap, cur, h1, h2, (hk.block g (Array.getElem?_eq_some_iff.1 h3).1 (hx g (by rw [h1]; rfl))).trans h3, h4⟩
theorem TapeAt.touch {w w' : World} {B x : Nat} {hv : Value} {t : Tp} {R : Nat → Prop} (h : TapeAt w B x hv t) (hT : Touch R w w') (hx : ¬ R x) (hr : ∀ g, hv.ownBlock = some g → ¬ R g) : TapeAt w' B x hv t :=
  ⟨Blk.touch h.own hT hx, own_touchP h.row hT hr⟩
theorem TapeAt.set {w : World} {B x : Nat} {hv : Value} {t t' : Tp} (h : TapeAt w B x hv t) {w' : World} (hT : Touch (· = x) w w') (hb : Blk w' x (tpCells hv t') 51) (hH : t'.H = t.H) : TapeAt w' B x hv t' :=
  ⟨hb, by rw [hH]; exact own_touchP h.row hT (fun g e e2 => own_neP h.row h.own (by decide) (by rw [← e2]; exact e))⟩
set_option maxHeartbeats 1000000 in
theorem again_at (B x : Nat) (hv : Value) (t : Tp) (w : World) (h : TapeAt w B x hv t) :
    Calls Tryz.prog 9 #[.pointer (some ⟨x, 0, none⟩)] w fun e w' => (∃ v, e = .returned v) ∧ TapeAt w' B x hv t.again ∧ Touch (· = x) w w' := by
  have c1 := h.own.val 1 rfl
  have c9 := h.own.val 9 rfl
  have f1 := h.own.frozen 1
  have f9 := h.own.frozen 9
  have hT : Touch (· = x) w ((w.setCell ⟨x, 1, none⟩ (.int .i64 0)).setCell ⟨x, 9, none⟩ (.bool false)) := Touch.setCell (R := (· = x)) (Touch.setCell (R := (· = x)) (Touch.refl _ _) rfl _) rfl _
  have hB : Blk ((w.setCell ⟨x, 1, none⟩ (.int .i64 0)).setCell ⟨x, 9, none⟩ (.bool false)) x (tpCells hv t.again) 51 := (h.own.set 1 (.int .i64 0)).set 9 (.bool false)
  have H := Lib.hid (And.intro (h.set hT hB rfl) hT)
  clear h hT hB
  go_enter Tryz.func9, Tryz.ntmps9
  go_wp2
  go_end0
  exact ⟨⟨_, rfl⟩, H.out⟩
set_option maxHeartbeats 2000000 in
theorem ask_any (B x : Nat) (hv : Value) (t : Tp) (w : World) (h : TapeAt w B x hv t) (hm : t.H.length ≤ 1000000) (k a wn p : Int) :
    Calls Tryz.prog 68 #[.pointer (some ⟨x, 0, none⟩), .int .i64 k, .int .i64 a, .int .u64 wn, .int .u64 p] w fun e w' => e = .returned (.int .u64 (t.ask k a wn p).1) ∧ TapeAt w' B x hv (t.ask k a wn p).2 ∧ Touch (· = x) w w' := by
  obtain ⟨H, pos, k0, a0, wn0, p0, st⟩ := t
  have c0 := h.own.val 0 rfl
  have c1 := h.own.val 1 rfl
  have c9 := h.own.val 9 rfl
  have f1 := h.own.frozen 1
  have f9 := h.own.frozen 9
  cases st with
  | true =>
    have HH := Lib.hid h
    clear h
    go_enter Tryz.func68, Tryz.ntmps68
    go_wp2
    go_ret
    exact ⟨rfl, HH.out, Touch.refl _ _⟩
  | false =>
    obtain ⟨ha, hc, rfl⟩ : ∃ a c, hv = .slice a H.length c := by
      rcases h.row.2 with ⟨h1, h2⟩ | ⟨g, cap, cur, h1, _⟩
      · exact ⟨none, 0, by rw [h1]; have : H.length = 0 := h2; rw [this]⟩
      · exact ⟨_, cap, h1⟩
    by_cases hp : pos < H.length
    · have hk : Tp.ask ⟨H, pos, k0, a0, wn0, p0, false⟩ k a wn p = (H.getD pos 0, ⟨H, pos + 1, k0, a0, wn0, p0, false⟩) := by simp [Tp.ask, hp]
      rw [hk]
      obtain ⟨g, rfl, hcell⟩ : ∃ g, ha = some ⟨g, 0, none⟩ ∧ w.cell? ⟨g, pos, none⟩ = some (.int .u64 (H.getD pos 0)) := by
        rcases h.row.2 with ⟨_, h2⟩ | ⟨g, cap, cur, h1, _⟩
        · have : H.length = 0 := h2; omega
        · simp only [Value.slice.injEq] at h1
          refine ⟨g, h1.1, ?_⟩
          have hr := h.row
          rw [h1.1] at hr
          rw [hr.cellAt pos (by omega)]
          simp [List.getD_eq_getElem?_getD, hp]
      have hgx : g ≠ x := fun e => own_neP h.row h.own (by decide) (by rw [e]; rfl)
      have hT : Touch (· = x) w (w.setCell ⟨x, 1, none⟩ (.int .i64 ((pos : Int) + 1))) := Touch.setCell (R := (· = x)) (Touch.refl _ _) rfl _
      have hB : Blk (w.setCell ⟨x, 1, none⟩ (.int .i64 ((pos : Int) + 1))) x (tpCells (.slice (some ⟨g, 0, none⟩) H.length hc) ⟨H, pos + 1, k0, a0, wn0, p0, false⟩) 51 := h.own.set 1 (.int .i64 ((pos : Int) + 1))
      have HH := Lib.hid (And.intro (h.set hT hB rfl) hT)
      have h1 : (pos : Int) < (H.length : Int) := by omega
      have h2 : (0 : Int) ≤ (pos : Int) := by omega
      have h3 : (H.length : Int) ≤ 1000000 := by have := hm; simp at this; omega
      have hcell2 := (World.cell?_setCell_other w ⟨x, 1, none⟩ ⟨g, pos, none⟩ (.int .i64 ((pos : Int) + 1)) (fun e => hgx (by cases e; rfl))).trans hcell
      have HO := Lib.hid h
      clear h hT hB hm hk
      generalize H.getD pos 0 = z at *
      go_enter Tryz.func68, Tryz.ntmps68
      go_upto_region 3 with fail
      go_quiet (fail)
      have hB2 : Blk ((w.drewN nq).setCell ⟨x, 1, none⟩ (.int .i64 ((pos : Int) + 1))) x (tpCells (.slice (some ⟨g, 0, none⟩) H.length hc) ⟨H, pos + 1, k0, a0, wn0, p0, false⟩) 51 := (HO.out.own.drewN nq).set 1 (.int .i64 ((pos : Int) + 1))
      have hT2 : Touch (· = x) w ((w.drewN nq).setCell ⟨x, 1, none⟩ (.int .i64 ((pos : Int) + 1))) := Touch.setCell (R := (· = x)) ((Touch.refl _ _).drewN nq) rfl _
      have hA2 := HO.out.set hT2 hB2 rfl
      have hc2 : ((w.drewN nq).setCell ⟨x, 1, none⟩ (.int .i64 ((pos : Int) + 1))).cell? ⟨g, pos, none⟩ = some (.int .u64 z) := (World.cell?_setCell_other (w.drewN nq) ⟨x, 1, none⟩ ⟨g, pos, none⟩ (.int .i64 ((pos : Int) + 1)) (fun e => hgx (by cases e; rfl))).trans hcell
      go_upto_region 5 with fail
      generalize (w.drewN nq).setCell ⟨x, 1, none⟩ (.int .i64 ((pos : Int) + 1)) = W at *
      have d0 := hB2.val 0 rfl
      have d1 := hB2.val 1 rfl
      have HF := Lib.hid (And.intro hA2 hT2)
      have hL0 : 0 < H.length := by omega
      clear hA2 hT2 hB2
      go_quiet (fail)
      go_wp2
      go_ret
      exact ⟨rfl, HF.out.1.touch (R := fun _ => False) ((Touch.refl _ _).drewN _) (fun e => e) (fun _ _ e => e), HF.out.2.drewN _⟩
    · have hk : Tp.ask ⟨H, pos, k0, a0, wn0, p0, false⟩ k a wn p = (0, ⟨H, pos, k, a, wn, p, true⟩) := by simp [Tp.ask, hp]
      rw [hk]
      have h1 : ¬ (pos : Int) < (H.length : Int) := by omega
      have q2 := h.own.val 2 rfl
      have q3 := h.own.val 3 rfl
      have q4 := h.own.val 4 rfl
      have q5 := h.own.val 5 rfl
      have q6 := h.own.val 6 rfl
      have q7 := h.own.val 7 rfl
      have q8 := h.own.val 8 rfl
      have g2 := h.own.frozen 2
      have g3 := h.own.frozen 3
      have g4 := h.own.frozen 4
      have g5 := h.own.frozen 5
      have g6 := h.own.frozen 6
      have g7 := h.own.frozen 7
      have g8 := h.own.frozen 8
      have HH := Lib.hid h
      clear h hm hk
      go_enter Tryz.func68, Tryz.ntmps68
      go_upto_region 3 with fail
      go_quiet (fail)
      go_wp2
      have hB := ((((((((HH.out.own.drewN nq).set 2 (.int .i64 0)).set 3 (.int .i64 k)).set 4 (.int .i64 a)).set 5 (.int .u64 wn)).set 6 (.int .u64 p)).set 7 (.int .u64 0)).set 8 (.int .u64 0)).set 9 (.bool true)
      have hT := Touch.setCell (R := (· = x)) (p := ⟨x, 9, none⟩) (Touch.setCell (R := (· = x)) (p := ⟨x, 8, none⟩) (Touch.setCell (R := (· = x)) (p := ⟨x, 7, none⟩) (Touch.setCell (R := (· = x)) (p := ⟨x, 6, none⟩) (Touch.setCell (R := (· = x)) (p := ⟨x, 5, none⟩) (Touch.setCell (R := (· = x)) (p := ⟨x, 4, none⟩) (Touch.setCell (R := (· = x)) (p := ⟨x, 3, none⟩) (Touch.setCell (R := (· = x)) (p := ⟨x, 2, none⟩) ((Touch.refl (· = x) w).drewN nq) rfl (.int .i64 0)) rfl (.int .i64 k)) rfl (.int .i64 a)) rfl (.int .u64 wn)) rfl (.int .u64 p)) rfl (.int .u64 0)) rfl (.int .u64 0)) rfl (.bool true)
      go_ret
      simp only [List.setIfInBounds_toArray, List.set_cons_zero, List.set_cons_succ] at hB
      have hR := HH.out.set (t' := ⟨H, pos, k, a, wn, p, true⟩) hT hB rfl
      exact ⟨rfl, hR, hT⟩
end Go.Proofs.YtnodeojeijekcaaGreat
/- The document's tape: its accesses. No condition but that its blocks lie there. -/
namespace Go.Proofs.YtnodeojeijekcaaGreat
open Go.RowKit
set_option linter.unusedVariables false
variable {B x : Nat} {hv : Value} {t : Tp} {w : World}
set_option maxHeartbeats 400000 in
theorem tload_any (h : TapeAt w B x hv t) (hm : t.H.length ≤ 1000000) (a : Int) :
    Calls Tryz.prog 35 #[.pointer (some ⟨x, 0, none⟩), .int .i64 a] w fun e w' => e = .returned (.int .u64 (t.ask 1 a 0 0).1) ∧ TapeAt w' B x hv (t.ask 1 a 0 0).2 ∧ Touch (· = x) w w' := by
  have C := Lib.hid (ask_any B x hv t w h hm 1 a 0 0)
  clear h
  generalize t.ask 1 a 0 0 = r at *
  go_enter Tryz.func35, Tryz.ntmps35
  go_wp2_with fail
  refine C.out.mono ?_
  rintro e w' ⟨rfl, h1, h2⟩
  go_wp2
  go_ret
  exact ⟨rfl, h1, h2⟩
set_option maxHeartbeats 400000 in
theorem tstore_any (h : TapeAt w B x hv t) (hm : t.H.length ≤ 1000000) (a v : Int) :
    Calls Tryz.prog 42 #[.pointer (some ⟨x, 0, none⟩), .int .i64 a, .int .u64 v] w fun e w' => (∃ u, e = .returned u) ∧ TapeAt w' B x hv (t.ask 2 a 0 v).2 ∧ Touch (· = x) w w' := by
  have C := Lib.hid (ask_any B x hv t w h hm 2 a 0 v)
  clear h
  generalize t.ask 2 a 0 v = r at *
  go_enter Tryz.func42, Tryz.ntmps42
  go_wp2_with fail
  refine C.out.mono ?_
  rintro e w' ⟨rfl, h1, h2⟩
  go_wp2
  go_end0
  exact ⟨⟨_, rfl⟩, h1, h2⟩
end Go.Proofs.YtnodeojeijekcaaGreat
/- The document's side of a sweep: what both words have, the words of entries, the tape's exchange. No condition but that they are words. -/
namespace Go.Proofs.YtnodeojeijekcaaGreat
open Go.RowKit
set_option linter.unusedVariables false
set_option maxHeartbeats 400000 in
theorem tcas_any {B x : Nat} {hv : Value} {t : Tp} {w : World} (h : TapeAt w B x hv t) (hm : t.H.length ≤ 1000000) (a wn p : Int) :
    Calls Tryz.prog 39 #[.pointer (some ⟨x, 0, none⟩), .int .i64 a, .int .u64 wn, .int .u64 p] w fun e w' => e = .returned (.bool ((t.ask 4 a wn p).1 == wn)) ∧ TapeAt w' B x hv (t.ask 4 a wn p).2 ∧ Touch (· = x) w w' := by
  have C := Lib.hid (ask_any B x hv t w h hm 4 a wn p)
  clear h
  generalize t.ask 4 a wn p = r at *
  go_enter Tryz.func39, Tryz.ntmps39
  go_wp2_with fail
  refine C.out.mono ?_
  rintro e w' ⟨rfl, h1, h2⟩
  go_wp2
  go_ret
  exact ⟨rfl, h1, h2⟩
theorem rword_any (k c s o y : Int) (w : World) :
    Calls Tryz.prog 40 #[.agg #[.int .i64 k, .int .i64 c, .int .i64 s, .int .i64 o, .int .i64 y]] w fun e w' => e = .returned (.int .u64 (eencV k c s o y)) ∧ Below w.heap.size w w' := by
  have C := Lib.hid (fun W => reenc_any k c s o y W)
  go_enter Tryz.func40, Tryz.ntmps40
  go_wp2_with fail
  refine (C.out _).mono ?_; rintro e w1 ⟨rfl, hb1⟩
  have hb : Below w.heap.size w w1 := ((Below.refl _ _).alloc (Nat.le_refl _) _).trans (hb1.mono (by simp))
  go_wp2
  go_ret
  exact ⟨rfl, hb⟩
/-- the sum of those places that the other word has, too -/
def sumB (B : Nat) (L : List Int) : Nat := (L.map fun p => if B.testBit p.toNat then 2 ^ p.toNat else 0).sum
theorem sumB_snoc (B : Nat) (L : List Int) (p : Int) : sumB B (L ++ [p]) = sumB B L + if B.testBit p.toNat then 2 ^ p.toNat else 0 := by
  unfold sumB
  rw [List.map_append, List.sum_append]
  simp
theorem sumB_plcs (A B : Nat) : ∀ n, sumB B (plcs A n) = (A &&& B) % 2 ^ n
  | 0 => by simp [sumB, plcs_zero, Nat.mod_one]
  | n + 1 => by
    rw [show (A &&& B) % 2 ^ (n + 1) = (A &&& B) % 2 ^ n + 2 ^ n * ((A &&& B).testBit n).toNat from by rw [Nat.toNat_testBit, Nat.pow_succ, Nat.mod_mul], Nat.testBit_and, ← sumB_plcs A B n]
    cases h : A.testBit n with
    | true =>
      rw [plcs_one A n h, sumB_snoc]
      cases h2 : B.testBit n <;> simp [h2]
    | false =>
      rw [plcs_no A n h]
      simp
theorem sumB_take_le (B : Nat) (L : List Int) (j : Nat) : sumB B (L.take j) ≤ sumB B L := by
  conv => rhs; rw [← List.take_append_drop j L]
  unfold sumB
  rw [List.map_append, List.sum_append]
  omega
theorem both_num (x y : Int) (hx : U64 x) (hy : U64 y) : ((sumB y.toNat (plcs x.toNat 64) : Nat) : Int) = bits .and .u64 x y ∧ sumB y.toNat (plcs x.toNat 64) < 18446744073709551616 := by
  obtain ⟨h1, h2⟩ := and_natP x y hx hy
  have h3 : sumB y.toNat (plcs x.toNat 64) = (bits .and .u64 x y).toNat := by
    rw [sumB_plcs, h2]
    refine Nat.mod_eq_of_lt (Nat.and_lt_two_pow _ ?_)
    have := hy.1; have := hy.2; omega
  rw [h3]
  exact ⟨by have := h1.1; omega, by have := h1.1; have := h1.2; omega⟩
theorem lst_shape {k : IntKind} {w : World} {v : Value} {zs : List Int} (h : Lst k w v zs) : ∃ a c, v = .slice a zs.length c ∧ ∀ j, j < zs.length → ∃ b o, a = some ⟨b, o, none⟩ ∧ w.cell? ⟨b, o + j, none⟩ = some (.int k (zs.getD j 0)) := by
  rcases h with ⟨rfl, a, c, rfl⟩ | ⟨b, o, c, rfl, _, _, h⟩
  · exact ⟨a, c, rfl, fun j hj => absurd hj (by simp)⟩
  · exact ⟨_, c, rfl, fun j hj => ⟨b, o, rfl, h j hj⟩⟩
theorem sumB_step (Y : Nat) (L : List Int) (j : Nat) (h : j < L.length) : sumB Y (L.take (j + 1)) = sumB Y (L.take j) + if Y.testBit (L.getD j 0).toNat then 2 ^ (L.getD j 0).toNat else 0 := by
  rw [List.take_add_one, List.getElem?_eq_getElem h]
  simp only [Option.toList_some]
  rw [sumB_snoc]
  simp [List.getD_eq_getElem?_getD, h]
set_option maxRecDepth 100000 in
set_option maxHeartbeats 2000000 in
theorem both_any (x y : Int) (w : World) (hx : U64 x) (hy : U64 y) :
    Calls Tryz.prog 41 #[.int .u64 x, .int .u64 y] w fun e w' => e = .returned (.int .u64 (bits .and .u64 x y)) ∧ Below w.heap.size w w' := by
  obtain ⟨hn, hlt⟩ := both_num x y hx hy
  rw [← hn]
  replace hn := Lib.hid hn
  have PL := Lib.hid (fun W => places_lst x W hx)
  have hlen := plcs_len_le x.toNat 64
  have hG := Lib.hid (fun j (hj : j < (plcs x.toNat 64).length) => plcs_getD hj)
  have BT := Lib.hid (fun i W (hi : i ≤ 63) => bit_any y i W hy hi)
  have PW := Lib.hid (fun i W (hi : i ≤ 63) => power_any i W hi)
  have hB : ∀ p : Int, bitI y p = if y.toNat.testBit p.toNat then 1 else 0 := by
    intro p
    unfold bitI
    cases y.toNat.testBit p.toNat <;> rfl
  generalize plcs x.toNat 64 = L at *
  generalize y.toNat = Y at *
  clear hx hy
  go_enter Tryz.func41, Tryz.ntmps41
  go_wp2_with fail
  refine (PL.out _).mono ?_; rintro e w1 ⟨v, rfl, hL, hb1⟩
  clear PL
  obtain ⟨a, c, rfl, hcell⟩ := lst_shape hL
  clear hL
  go_wp2_with fail
  go_loopw [5, 7] (fun s5 s7 wr => ∃ j : Nat, j ≤ L.length ∧ s5 = .int .u64 ((sumB Y (L.take j) : Nat) : Int) ∧ s7 = .int .i64 j ∧ Quiet w1 wr) (fun _ s7 _ => L.length - (intOf s7).toNat)
  case atStart => exact ⟨0, Nat.zero_le _, by simp [sumB], rfl, Quiet.refl _⟩
  case round =>
    obtain ⟨j, hj, rfl, rfl, hq⟩ := hrel
    by_cases hjl : j < L.length
    · have hj1 : (j : Int) < (L.length : Int) := by omega
      have hj0 : (0 : Int) ≤ (j : Int) := by omega
      obtain ⟨b, o, rfl, hc⟩ := hcell j hjl
      replace hc := (hq.cell _).trans hc
      obtain ⟨g0, g1, _⟩ := hG.out j hjl
      have hst := Lib.hid (sumB_step Y L j hjl)
      have hle := sumB_take_le Y L (j + 1)
      have B1 := Lib.hid (fun W => BT.out (L.getD j 0) W (by omega))
      rw [hB] at B1
      have P1 := Lib.hid (fun W => PW.out (L.getD j 0) W (by omega))
      have hpw : powI (L.getD j 0) = ((2 ^ (L.getD j 0).toNat : Nat) : Int) := by unfold powI; simp
      rw [hpw] at P1
      clear hpw
      rw [hst.out] at hle
      generalize L.getD j 0 = pz at *
      clear BT PW hG hB
      obtain ⟨pp, hpp⟩ : ∃ pp : Nat, 2 ^ pz.toNat = pp := ⟨_, rfl⟩
      rw [hpp] at P1 hst hle
      obtain ⟨s0, hs0⟩ : ∃ s0, s0 = sumB Y (L.take j) := ⟨_, rfl⟩
      obtain ⟨s1, hs1⟩ : ∃ s1, s1 = sumB Y (L.take (j + 1)) := ⟨_, rfl⟩
      rw [← hs0] at hle hst ⊢
      rw [← hs1] at hst
      replace hs0 := Lib.hid hs0
      replace hs1 := Lib.hid hs1
      clear hpp
      cases hy : Y.testBit pz.toNat with
      | true =>
        rw [hy, if_pos rfl] at B1 hst hle
        have hw : IntKind.u64.wrap ((s0 : Int) + (pp : Int)) = (s1 : Int) := by
          rw [hst.out, IntKind.wrap_u64]
          have := hlt
          omega
        clear hst hle
        go_wp2_with fail
        refine (B1.out _).mono ?_; rintro e w3 ⟨rfl, hq3⟩
        replace hc := (hq3.cell _).trans hc
        go_wp2_with fail
        refine (P1.out _).mono ?_; rintro e w4 ⟨rfl, hq4⟩
        have hq9 := Lib.hid ((hq.trans hq3).trans hq4)
        clear hc hq hq3 hq4
        go_wp2
        go_roundw
        case rel => exact ⟨j + 1, by omega, by rw [← hs1.out], by go_num, hq9.out⟩
        case measure => simp [intOf]; omega
      | false =>
        rw [hy, if_neg (by decide)] at B1 hst hle
        go_wp2_with fail
        refine (B1.out _).mono ?_; rintro e w3 ⟨rfl, hq3⟩
        have hq9 := Lib.hid (hq.trans hq3)
        clear hc hq hq3
        go_wp2
        go_roundw
        case rel => exact ⟨j + 1, by omega, by rw [← hs1.out, hst.out]; rfl, by go_num, hq9.out⟩
        case measure => simp [intOf]; omega
    · have hj1 : ¬ (j : Int) < (L.length : Int) := by omega
      have hjL : j = L.length := by omega
      subst hjL
      obtain ⟨s0, hs0⟩ : ∃ s0, s0 = sumB Y L := ⟨_, rfl⟩
      rw [List.take_length, ← hs0]
      replace hs0 := Lib.hid hs0
      go_wp2
      go_ret
      rw [← hs0.out]
      exact ⟨rfl, hb1.trans (hq.below.mono hb1.size)⟩
end Go.Proofs.YtnodeojeijekcaaGreat
/- The document's sweep at a tape: what it returns and asks. Conditions: the tape lies there, its answers are words; the page is the plan's. -/
namespace Go.Proofs.YtnodeojeijekcaaGreat
open Go.RowKit
set_option linter.unusedVariables false
/-- what a sweep came to -/
structure Swr where
  (ov sw em bl : Bool)
  (fr : Int)
def Swr.V (r : Swr) : Array Value := #[.bool r.ov, .bool r.sw, .bool r.em, .bool r.bl, .int .i64 r.fr]
def rw0 : Swr := ⟨false, false, false, false, 0⟩
theorem ask_H (t : Tp) (k a wn p : Int) : (t.ask k a wn p).2.H = t.H := by
  unfold Tp.ask
  split
  · rfl
  · split <;> rfl
theorem ask_U {t : Tp} (h : ∀ z ∈ t.H, U64 z) (k a wn p : Int) : U64 (t.ask k a wn p).1 := by
  unfold Tp.ask
  split
  · exact (show U64 0 from ⟨by decide, by decide⟩)
  · split
    · rename_i h1 h2
      rw [List.getD_eq_getElem?_getD, List.getElem?_eq_getElem h2]
      exact h _ (List.getElem_mem h2)
    · exact (show U64 0 from ⟨by decide, by decide⟩)
/-- the boxes of the document's sweep, and its tape -/
structure RsS (w : World) (B x : Nat) (hv : Value) (t : Tp) (P T : Int) (W : World) : Prop where
  tape : TapeAt W B x hv t
  mp : Blk W w.heap.size #[.int .i64 P, .int .i64 T, .int .i64 1, .int .i64 (baseI P T 1), .int .i64 (tabI T 1), .int .i64 (baseI P T 1 + 64 * P)] 33
  res : Blk W (w.heap.size + 1) rw0.V 54
  tch : Touch (· = x) w W
  hx : x < w.heap.size
  hB : ∀ g, hv.ownBlock = some g → g < w.heap.size
  hm : t.H.length ≤ 1000000
  hU : ∀ z ∈ t.H, U64 z
section
variable {w W W' : World} {B x : Nat} {hv : Value} {t t' : Tp} {P T : Int}
theorem RsS.grew (h : RsS w B x hv t P T W) (hb : Below W.heap.size W W') : RsS w B x hv t P T W' :=
  have ht : Touch (fun _ => False) W W' := .of hb
  { h with tape := h.tape.touch ht (fun e => e) (fun _ _ e => e), mp := h.mp.grew hb, res := h.res.grew hb, tch := h.tch.trans (.of hb) }
theorem RsS.asked (h : RsS w B x hv t P T W) (hT : TapeAt W' B x hv t') (ht : Touch (· = x) W W') (hH : t'.H = t.H) : RsS w B x hv t' P T W' := by
  have hx := h.hx
  exact { h with tape := hT, mp := h.mp.touch ht (by omega), res := h.res.touch ht (by omega), tch := h.tch.trans ht, hm := by rw [hH]; exact h.hm, hU := by rw [hH]; exact h.hU }
theorem RsS.load (h : RsS w B x hv t P T W) (a : Int) :
    Calls Tryz.prog 35 #[.pointer (some ⟨x, 0, none⟩), .int .i64 a] W fun e w' => e = .returned (.int .u64 (t.ask 1 a 0 0).1) ∧ RsS w B x hv (t.ask 1 a 0 0).2 P T w' :=
  (tload_any h.tape h.hm a).mono fun _ _ ⟨he, hT, ht⟩ => ⟨he, h.asked hT ht (ask_H _ _ _ _ _)⟩
theorem RsS.store (h : RsS w B x hv t P T W) (a v : Int) :
    Calls Tryz.prog 42 #[.pointer (some ⟨x, 0, none⟩), .int .i64 a, .int .u64 v] W fun e w' => (∃ u, e = .returned u) ∧ RsS w B x hv (t.ask 2 a 0 v).2 P T w' :=
  (tstore_any h.tape h.hm a v).mono fun _ _ ⟨he, hT, ht⟩ => ⟨he, h.asked hT ht (ask_H _ _ _ _ _)⟩
theorem RsS.cas (h : RsS w B x hv t P T W) (a wn p : Int) :
    Calls Tryz.prog 39 #[.pointer (some ⟨x, 0, none⟩), .int .i64 a, .int .u64 wn, .int .u64 p] W fun e w' => e = .returned (.bool ((t.ask 4 a wn p).1 == wn)) ∧ RsS w B x hv (t.ask 4 a wn p).2 P T w' :=
  (tcas_any h.tape h.hm a wn p).mono fun _ _ ⟨he, hT, ht⟩ => ⟨he, h.asked hT ht (ask_H _ _ _ _ _)⟩
theorem RsS.six (h : RsS w B x hv t P T W) : W.cell? ⟨w.heap.size, 0, none⟩ = some (.int .i64 P) ∧ W.cell? ⟨w.heap.size, 1, none⟩ = some (.int .i64 T) ∧ W.cell? ⟨w.heap.size, 2, none⟩ = some (.int .i64 1) ∧ W.cell? ⟨w.heap.size, 3, none⟩ = some (.int .i64 (baseI P T 1)) ∧ W.cell? ⟨w.heap.size, 4, none⟩ = some (.int .i64 (tabI T 1)) ∧ W.cell? ⟨w.heap.size, 5, none⟩ = some (.int .i64 (baseI P T 1 + 64 * P)) := h.mp.six.1
theorem RsS.stop (h : RsS w B x hv t P T W) : W.cell? ⟨x, 9, none⟩ = some (.bool t.st) := h.tape.own.val 9 rfl
theorem RsS.new (hT : TapeAt w B x hv t) (hx : x < w.heap.size) (hB : ∀ g, hv.ownBlock = some g → g < w.heap.size) (hm : t.H.length ≤ 1000000) (hU : ∀ z ∈ t.H, U64 z) : RsS w B x hv t P T ((w.alloc (.cells #[.int .i64 P, .int .i64 T, .int .i64 1, .int .i64 (baseI P T 1), .int .i64 (tabI T 1), .int .i64 (baseI P T 1 + 64 * P)] 33)).alloc (.cells #[.bool false, .bool false, .bool false, .bool false, .int .i64 0] 54)) := by
  have ht : Touch (fun _ => False) w ((w.alloc (.cells #[.int .i64 P, .int .i64 T, .int .i64 1, .int .i64 (baseI P T 1), .int .i64 (tabI T 1), .int .i64 (baseI P T 1 + 64 * P)] 33)).alloc (.cells #[.bool false, .bool false, .bool false, .bool false, .int .i64 0] 54)) := ((Touch.refl _ _).alloc _).alloc _
  exact ⟨hT.touch ht (fun e => e) (fun _ _ e => e), (Blk.new _ _ _).alloc _, Blk.new' (by simp), ht.mono (fun _ _ e => e.elim), hx, hB, hm, hU⟩
/-- the answer is stored in its box -/
theorem RsS.ret (h : RsS w B x hv t P T W) (r : Swr) : TapeAt (((((W.setCell ⟨w.heap.size + 1, 0, none⟩ (.bool r.ov)).setCell ⟨w.heap.size + 1, 1, none⟩ (.bool r.sw)).setCell ⟨w.heap.size + 1, 2, none⟩ (.bool r.em)).setCell ⟨w.heap.size + 1, 3, none⟩ (.bool r.bl)).setCell ⟨w.heap.size + 1, 4, none⟩ (.int .i64 r.fr)) B x hv t ∧
    Touch (· = x) w (((((W.setCell ⟨w.heap.size + 1, 0, none⟩ (.bool r.ov)).setCell ⟨w.heap.size + 1, 1, none⟩ (.bool r.sw)).setCell ⟨w.heap.size + 1, 2, none⟩ (.bool r.em)).setCell ⟨w.heap.size + 1, 3, none⟩ (.bool r.bl)).setCell ⟨w.heap.size + 1, 4, none⟩ (.int .i64 r.fr)) ∧
    Blk (((((W.setCell ⟨w.heap.size + 1, 0, none⟩ (.bool r.ov)).setCell ⟨w.heap.size + 1, 1, none⟩ (.bool r.sw)).setCell ⟨w.heap.size + 1, 2, none⟩ (.bool r.em)).setCell ⟨w.heap.size + 1, 3, none⟩ (.bool r.bl)).setCell ⟨w.heap.size + 1, 4, none⟩ (.int .i64 r.fr)) (w.heap.size + 1) r.V 54 := by
  have hx := h.hx
  have ht : Touch (· = w.heap.size + 1) W (((((W.setCell ⟨w.heap.size + 1, 0, none⟩ (.bool r.ov)).setCell ⟨w.heap.size + 1, 1, none⟩ (.bool r.sw)).setCell ⟨w.heap.size + 1, 2, none⟩ (.bool r.em)).setCell ⟨w.heap.size + 1, 3, none⟩ (.bool r.bl)).setCell ⟨w.heap.size + 1, 4, none⟩ (.int .i64 r.fr)) :=
    Touch.setCell (R := (· = w.heap.size + 1)) (p := ⟨w.heap.size + 1, 4, none⟩) (Touch.setCell (R := (· = w.heap.size + 1)) (p := ⟨w.heap.size + 1, 3, none⟩) (Touch.setCell (R := (· = w.heap.size + 1)) (p := ⟨w.heap.size + 1, 2, none⟩) (Touch.setCell (R := (· = w.heap.size + 1)) (p := ⟨w.heap.size + 1, 1, none⟩) (Touch.setCell (R := (· = w.heap.size + 1)) (p := ⟨w.heap.size + 1, 0, none⟩) (Touch.refl _ _) rfl _) rfl _) rfl _) rfl _) rfl _
  refine ⟨h.tape.touch ht (by omega) (fun g e r => by have := h.hB g e; omega), ⟨ht.os.trans h.tch.os, ht.tape.trans h.tch.tape, ht.output.trans h.tch.output, Nat.le_trans h.tch.size ht.size, fun k hk hr => (ht.block k (Nat.lt_of_lt_of_le hk h.tch.size) (by omega)).trans (h.tch.block k hk hr)⟩, ?_⟩
  exact ((((h.res.set 0 _).set 1 _).set 2 _).set 3 _).set 4 _
end
end Go.Proofs.YtnodeojeijekcaaGreat
