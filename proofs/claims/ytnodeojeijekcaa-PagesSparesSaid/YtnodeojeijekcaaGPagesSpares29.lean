/- Texts of this seat, one behind the other: each says at its head what it holds. No condition of its own. -/
import Derived.Lib.TrailingZeros
import Derived.Lib.BitFns
import Derived.Lib.ItoaNum
import Derived.Test.YtnodeojeijekcaaProg
import Derived.WalkKit
import Derived.Lib.Strings
import Derived.Lib.Slices
import Derived.Lib.Small
import Derived.Lib.Walk
import Derived.Lib.Hide
import Derived.Maps.AppendAt
import Derived.Test.YtnodeojeijekcaaGB01
import Derived.Test.YtnodeojeijekcaaGB10
import Derived.Test.YtnodeojeijekcaaGB18
import Derived.Test.YtnodeojeijekcaaGB26
import Derived.Test.YtnodeojeijekcaaGB28
/- What the document's answers of layer 1 return: Power, Bit, Field, Get, Put. No condition but that each number fits its kind. -/
namespace Go.Proofs.Ytnodeojeijekcaa
open Go.RowKit

def powI (i : Int) : Int := ((2 ^ i.toNat : Nat) : Int)
theorem powI_U64 (i : Int) (h : i ≤ 63) : U64 (powI i) := by
  refine U64.nat _ ?_
  exact Nat.pow_lt_pow_right (by decide) (by omega)
theorem powI_succ (j : Nat) (h : j < 63) : IntKind.u64.wrap (powI j * 2) = powI (j + 1) := by
  have h1 : 2 ^ (j + 1) < 2 ^ 64 := Nat.pow_lt_pow_right (by decide) (by omega)
  have e : powI (j + 1) = ((2 ^ (j + 1) : Nat) : Int) := rfl
  rw [e, IntKind.wrap_u64]
  unfold powI
  rw [Int.toNat_natCast]
  have : (2 : Nat) ^ (j + 1) = 2 ^ j * 2 := Nat.pow_succ ..
  omega
set_option maxHeartbeats 400000 in
theorem power_any (i : Int) (w : World) (h : i ≤ 63) :
    Calls Try.prog 53 #[.int .i64 i] w fun e w' => e = .returned (.int .u64 (powI i)) ∧ Quiet w w' := by
  go_enter Try.func53, Try.ntmps53
  go_wp2
  go_loopw [3, 4] (fun p k wr => ∃ j : Nat, j ≤ i.toNat ∧ k = .int .i64 j ∧ p = .int .u64 (powI j) ∧ Quiet w wr) (fun _ k _ => i.toNat - (intOf k).toNat)
  case atStart => exact ⟨0, Nat.zero_le _, rfl, rfl, Quiet.refl _⟩
  case round =>
    obtain ⟨j, hj, rfl, rfl, hq⟩ := hrel
    by_cases hlt : (j : Int) < i
    · have hw := powI_succ j (by omega)
      go_wp2
      go_roundw
      case rel => exact ⟨j + 1, by omega, by go_num, rfl, hq⟩
      case measure => simp [intOf]; omega
    · go_wp2
      go_ret
      exact ⟨ret_int (by unfold powI; rw [show i.toNat = j by omega]; rfl), hq⟩

/-- bit i of x, as a number -/
def bitI (x i : Int) : Int := (((x.toNat.testBit i.toNat).toNat : Nat) : Int)
theorem bitI_eq (x : Int) (i : Int) (hx : U64 x) : x / powI i % 2 = bitI x i := by
  obtain ⟨X, rfl⟩ := Int.eq_ofNat_of_zero_le hx.1
  unfold powI bitI
  rw [Int.toNat_natCast, Nat.toNat_testBit, ← Int.natCast_ediv]
  rfl
theorem bitI_01 (x i : Int) : bitI x i = 0 ∨ bitI x i = 1 := by
  unfold bitI
  cases x.toNat.testBit i.toNat <;> simp
theorem powI_pos (i : Int) : 1 ≤ powI i := by
  unfold powI
  have := Nat.two_pow_pos i.toNat
  omega
set_option maxHeartbeats 400000 in
theorem bit_any (x i : Int) (w : World) (hx : U64 x) (h : i ≤ 63) :
    Calls Try.prog 18 #[.int .u64 x, .int .i64 i] w fun e w' => e = .returned (.int .u64 (bitI x i)) ∧ Quiet w w' := by
  have hp := powI_pos i
  have hu := powI_U64 i h
  rw [← bitI_eq x i hx]
  obtain ⟨x0, x1⟩ := id hx
  generalize hP : powI i = P at *
  have C := Lib.hid (fun W => power_any i W h)
  rw [hP] at C
  clear hP
  go_enter Try.func18, Try.ntmps18
  go_wp2_with (go_at_call 53; refine (C.out _).mono ?_; rintro e w1 ⟨rfl, hq⟩)
  go_ret
  exact ⟨ret_int (Int.tmod_eq_emod_of_nonneg (Int.ediv_nonneg x0 (by omega))), hq⟩
/-! a word put together bit by bit -/
theorem getN_succ (x a j : Nat) : getN x a (j + 1) = getN x a j + (x.testBit (a + j)).toNat * 2 ^ j := by
  unfold getN
  rw [Nat.mod_pow_succ, ← Nat.toNat_testBit, Nat.testBit_shiftRight, Nat.mul_comm]
theorem sum_step (x : Int) (a j : Nat) (hj : j < 64) : IntKind.u64.wrap (bitI x (a + j) * powI j) = bitI x (a + j) * powI j ∧ IntKind.u64.wrap (getI x a j + bitI x (a + j) * powI j) = getI x a (j + 1 : Nat) := by
  have h1 := getN_succ x.toNat a j
  have h2 := getN_lt x.toNat a (j + 1)
  have h3 : 2 ^ (j + 1) ≤ 2 ^ 64 := Nat.pow_le_pow_right (by decide) (by omega)
  have e1 : bitI x (a + j) * powI j = (((x.toNat.testBit (a + j)).toNat * 2 ^ j : Nat) : Int) := by
    unfold bitI powI
    rw [show ((a : Int) + (j : Int)).toNat = a + j by omega, Int.toNat_natCast, Int.natCast_mul]
  have e2 : getI x a j = ((getN x.toNat a j : Nat) : Int) := by
    unfold getI
    rw [Int.toNat_natCast, Int.toNat_natCast]
  have e3 : getI x a (j + 1 : Nat) = ((getN x.toNat a (j + 1) : Nat) : Int) := by
    unfold getI
    rw [Int.toNat_natCast, Int.toNat_natCast]
  rw [e3, e1, e2, IntKind.wrap_u64, IntKind.wrap_u64]
  generalize (x.toNat.testBit (a + j)).toNat * 2 ^ j = T at *
  omega

end Go.Proofs.Ytnodeojeijekcaa
/- The places of a word's ones, as a list: numbers alone. No condition. -/
namespace Go.Proofs.Ytnodeojeijekcaa
open Go.RowKit

/-- the places below n of the ones of X, rising -/
def plcs (X n : Nat) : List Int := ((List.range n).filter fun i => X.testBit i).map fun i => ((i : Nat) : Int)
theorem plcs_zero (X : Nat) : plcs X 0 = [] := rfl
theorem plcs_one (X n : Nat) (h : X.testBit n = true) : plcs X (n + 1) = plcs X n ++ [((n : Nat) : Int)] := by
  unfold plcs
  rw [List.range_succ, List.filter_append, List.map_append]
  simp [h]
theorem plcs_no (X n : Nat) (h : X.testBit n = false) : plcs X (n + 1) = plcs X n := by
  unfold plcs
  rw [List.range_succ, List.filter_append, List.map_append]
  simp [h]
theorem plcs_len_le (X n : Nat) : (plcs X n).length ≤ n := by
  unfold plcs
  rw [List.length_map]
  exact Nat.le_trans (List.length_filter_le _ _) (by simp)
theorem plcs_mem {X n : Nat} {z : Int} (h : z ∈ plcs X n) : 0 ≤ z ∧ z < n ∧ X.testBit z.toNat = true := by
  unfold plcs at h
  obtain ⟨i, hi, rfl⟩ := List.mem_map.1 h
  obtain ⟨h1, h2⟩ := List.mem_filter.1 hi
  have := List.mem_range.1 h1
  exact ⟨by omega, by omega, by simpa using h2⟩
theorem plcs_getD {X n k : Nat} (h : k < (plcs X n).length) : 0 ≤ (plcs X n).getD k 0 ∧ (plcs X n).getD k 0 < n ∧ X.testBit ((plcs X n).getD k 0).toNat = true := by
  rw [List.getD_eq_getElem?_getD, List.getElem?_eq_getElem h]
  exact plcs_mem (List.getElem_mem h)
theorem cnt_all (X n : Nat) : cnt X n = cnt (X % 2 ^ n) n := by
  have h := cnt_add (X % 2 ^ n) (X / 2 ^ n) n (Nat.mod_lt _ (Nat.two_pow_pos n)) 0
  rw [Nat.div_add_mod, Nat.add_zero] at h
  rw [h]
  simp [cnt]
theorem cnt_snoc (X n : Nat) : cnt X (n + 1) = cnt X n + (X.testBit n).toNat := rfl
theorem plcs_length (X : Nat) : ∀ n, (plcs X n).length = cnt X n
  | 0 => rfl
  | n + 1 => by
    rw [cnt_snoc, ← plcs_length X n]
    cases h : X.testBit n with
    | true => rw [plcs_one X n h]; simp
    | false => rw [plcs_no X n h]; simp
/-- those below b alone -/
theorem plcs_below (X : Nat) (at_ : Int) : ∀ n, ((plcs X n).filter fun z => decide (z < at_)) = plcs X (min n at_.toNat)
  | 0 => by simp [plcs_zero]
  | n + 1 => by
    have ih := plcs_below X at_ n
    by_cases ha : ((n : Nat) : Int) < at_
    · have e : min (n + 1) at_.toNat = min n at_.toNat + 1 := by omega
      have e2 : min n at_.toNat = n := by omega
      rw [e, e2]
      rw [e2] at ih
      cases h : X.testBit n with
      | true => rw [plcs_one X n h, List.filter_append, ih]; simp [ha]
      | false => rw [plcs_no X n h, ih]
    · have e : min (n + 1) at_.toNat = min n at_.toNat := by omega
      rw [e]
      cases h : X.testBit n with
      | true => rw [plcs_one X n h, List.filter_append, ih]; simp [ha]
      | false => rw [plcs_no X n h, ih]
/-! the first and the last one -/
theorem plcs_first (X k : Nat) (hb : X.testBit k = true) (hl : ∀ j, j < k → X.testBit j = false) : ∀ n, k < n → (plcs X n).getD 0 0 = (k : Int) ∧ 0 < (plcs X n).length := by
  have h0 : ∀ n, n ≤ k → plcs X n = [] := by
    intro n
    induction n with
    | zero => intro _; rfl
    | succ n ih => intro h; rw [plcs_no X n (hl n (by omega)), ih (by omega)]
  intro n
  induction n with
  | zero => intro h; omega
  | succ n ih =>
    intro h
    by_cases hk : k = n
    · subst hk
      rw [plcs_one X k hb, h0 k (Nat.le_refl _)]
      exact ⟨rfl, by simp⟩
    · obtain ⟨h1, h2⟩ := ih (by omega)
      cases hn : X.testBit n with
      | true =>
        rw [plcs_one X n hn]
        refine ⟨?_, by simp⟩
        rw [List.getD_eq_getElem?_getD, List.getElem?_append_left h2, ← List.getD_eq_getElem?_getD, h1]
      | false => rw [plcs_no X n hn]; exact ⟨h1, h2⟩
theorem plcs_none (X : Nat) (hl : ∀ j, X.testBit j = false) : ∀ n, plcs X n = []
  | 0 => rfl
  | n + 1 => by rw [plcs_no X n (hl n), plcs_none X hl n]
theorem plcs_last (X k : Nat) (hb : X.testBit k = true) : ∀ n, k < n → (∀ j, k < j → j < n → X.testBit j = false) → plcs X n = plcs X k ++ [(k : Int)] := by
  intro n
  induction n with
  | zero => intro h; omega
  | succ n ih =>
    intro h hl
    by_cases hk : k = n
    · subst hk
      exact plcs_one X k hb
    · rw [plcs_no X n (hl n (by omega) (by omega)), ih (by omega) (fun j h1 h2 => hl j h1 (by omega))]
theorem ctz_bits (X : Nat) (h0 : X ≠ 0) (hX : X < 2 ^ 64) : Lib.ctz 64 X < 64 ∧ X.testBit (Lib.ctz 64 X) = true ∧ ∀ j, j < Lib.ctz 64 X → X.testBit j = false := by
  have e : Lib.ctz 64 X = Lib.ctzFrom 64 X := by unfold Lib.ctz; rw [if_neg h0]
  rw [e]
  obtain ⟨m, h1, h2⟩ := Lib.ctzFrom_spec 64 X (by omega) hX
  generalize Lib.ctzFrom 64 X = k at *
  subst h1
  refine ⟨h2, ?_, ?_⟩
  · rw [Nat.mul_comm, Nat.testBit_mul_two_pow, Nat.sub_self, Nat.testBit_zero]
    simp
  · intro j hj
    rw [Nat.mul_comm, Nat.testBit_mul_two_pow]
    simp; omega
theorem bitLen_bits (X : Nat) (h0 : X ≠ 0) (hX : X < 2 ^ 64) : 1 ≤ Lib.bitLen X ∧ Lib.bitLen X ≤ 64 ∧ X.testBit (Lib.bitLen X - 1) = true ∧ ∀ j, Lib.bitLen X - 1 < j → X.testBit j = false := by
  obtain ⟨h1, h2, h3⟩ := Lib.bitLenAux_bounds 64 X hX h0
  have h4 : Lib.bitLen X ≤ 64 := Lib.bitLen_le X 64 (by omega) hX
  change 1 ≤ Lib.bitLen X at h1
  change 2 ^ (Lib.bitLen X - 1) ≤ X at h2
  change X < 2 ^ Lib.bitLen X at h3
  generalize Lib.bitLen X = L at *
  refine ⟨h1, h4, ?_, ?_⟩
  · have e : L = (L - 1) + 1 := by omega
    rw [e] at h3
    rw [Nat.testBit_eq_decide_div_mod_eq]
    have h5 : X / 2 ^ (L - 1) = 1 := by
      rw [Nat.pow_succ] at h3
      have hp := Nat.two_pow_pos (L - 1)
      have h6 : 1 ≤ X / 2 ^ (L - 1) := (Nat.le_div_iff_mul_le hp).2 (by omega)
      have h7 : X / 2 ^ (L - 1) < 2 := (Nat.div_lt_iff_lt_mul hp).2 (by omega)
      omega
    rw [h5]; decide
  · intro j hj
    exact Nat.testBit_lt_two_pow (Nat.lt_of_lt_of_le h3 (Nat.pow_le_pow_right (by decide) (by omega)))
theorem plcs_high (X : Nat) (hX : X < 2 ^ 64) : ∀ d, plcs X (64 + d) = plcs X 64
  | 0 => rfl
  | d + 1 => by rw [show 64 + (d + 1) = 64 + d + 1 by omega, plcs_no X (64 + d) (Nat.testBit_lt_two_pow (Nat.lt_of_lt_of_le hX (Nat.pow_le_pow_right (by decide) (by omega)))), plcs_high X hX d]
theorem plcs_low (X : Nat) (hX : X < 2 ^ 64) (h0 : X ≠ 0) : 0 < (plcs X 64).length ∧ (plcs X 64).getD 0 0 = ((Lib.ctz 64 X : Nat) : Int) := by
  obtain ⟨h1, h2, h3⟩ := ctz_bits X h0 hX
  obtain ⟨h4, h5⟩ := plcs_first X _ h2 h3 64 h1
  exact ⟨h5, h4⟩
theorem plcs_top (X : Nat) (hX : X < 2 ^ 64) (h0 : X ≠ 0) : (plcs X 64).getD ((plcs X 64).length - 1) 0 = ((Lib.bitLen X : Nat) : Int) - 1 := by
  obtain ⟨h1, h2, h3, h4⟩ := bitLen_bits X h0 hX
  have h5 := plcs_last X _ h3 64 (by omega) (fun j h _ => h4 j h)
  rw [h5]
  rw [List.length_append, List.length_singleton, Nat.add_sub_cancel, List.getD_eq_getElem?_getD, List.getElem?_append_right (Nat.le_refl _), Nat.sub_self]
  simp
  omega
theorem plcs_nil (n : Nat) : plcs 0 n = [] := plcs_none 0 (fun j => Nat.zero_testBit j) n
end Go.Proofs.Ytnodeojeijekcaa
/- What math/bits.Len64 returns, for all words. No condition but that the number fits its kind. -/
namespace Go.Proofs.Ytnodeojeijekcaa
open Go.RowKit
set_option linter.unusedVariables false
end Go.Proofs.Ytnodeojeijekcaa
/- What the document's Places, Rank and Mask return, and word.Ones, Rank and Highest, for all words. No condition but that each number fits its kind. -/
namespace Go.Proofs.Ytnodeojeijekcaa
open Go.RowKit
set_option linter.unusedVariables false

theorem info_int : (Try.prog.info? 3).map (fun i => (i.zero, i.size, i.bytes)) = some (some (.int .i64 0), 1, 8) := by kernel_rfl
theorem bit_yes (x : Int) (j : Nat) (hx : U64 x) (hj : j < 64) (h : x.toNat.testBit j = true) (w : World) :
    Calls Try.prog 18 #[.int .u64 x, .int .i64 j] w fun e w' => e = .returned (.int .u64 1) ∧ Quiet w w' := by
  have := bit_any x j w hx (by omega)
  unfold bitI at this
  rw [Int.toNat_natCast, h] at this
  exact this
theorem bit_no (x : Int) (j : Nat) (hx : U64 x) (hj : j < 64) (h : x.toNat.testBit j = false) (w : World) :
    Calls Try.prog 18 #[.int .u64 x, .int .i64 j] w fun e w' => e = .returned (.int .u64 0) ∧ Quiet w w' := by
  have := bit_any x j w hx (by omega)
  unfold bitI at this
  rw [Int.toNat_natCast, h] at this
  exact this

set_option maxRecDepth 100000 in
set_option maxHeartbeats 1000000 in
theorem places_any (x : Int) (w : World) (hx : U64 x) :
    Calls Try.prog 23 #[.int .u64 x] w fun e w' => ∃ v, e = .returned v ∧ w'.ownsRow w.heap.size 3 1 v (plcs x.toNat 64).length ((plcs x.toNat 64).map (Value.int .i64)) ∧ Below w.heap.size w w' := by
  obtain ⟨i0, hi, hz0, hz1, hz2⟩ := info_parts info_int
  go_enter Try.func23, Try.ntmps23
  go_wp2
  go_loopw [3, 4] (fun v i wr => ∃ (j : Nat), j ≤ 64 ∧ i = .int .i64 j ∧ wr.ownsRow w.heap.size 3 1 v (plcs x.toNat j).length ((plcs x.toNat j).map (Value.int .i64)) ∧ Below w.heap.size w wr)
    (fun _ i _ => 64 - (intOf i).toNat)
  case atStart => exact ⟨0, Nat.zero_le _, rfl, World.ownsRow_nil _ _ _ _, Below.refl _ _⟩
  case round =>
    obtain ⟨j, hj, rfl, hown, hb⟩ := hrel
    have hlen := plcs_len_le x.toNat j
    have hsz := hb.size
    by_cases hlt : j < 64
    · cases hbit : x.toNat.testBit j with
      | true =>
        have P := Lib.hid (fun W => bit_yes x j hx hlt hbit W)
        have E := Lib.hid (plcs_one x.toNat j hbit)
        clear hbit
        generalize plcs x.toNat j = L at *
        go_wp2_with (first | (go_at_call 18; refine (P.out _).mono ?_; rintro e w2 ⟨rfl, hq2⟩; have hown2 := hq2.ownsRow hown; have hb2 := hb.trans (hq2.below (B := w.heap.size)); have hsz2 := hb2.size) | (at_builtin; refine wpList_append_own _ rfl _ _ 58 rfl w.heap.size 3 i0 (.int .i64 0) 1 8 Try.underlying58 hi hz0 hz1 hz2 rfl (by decide) _ _ _ rfl (hown2.alloc _) ⟨w2.heap.size, 0, none⟩ 1 1 [.int .i64 j] rfl rfl (cell_one_new _ _ _) ?c2 ?c3 ?c4 ?c5 ?_))
        case c2 => simp [Value.oneCell']
        case c3 => unfold maxLen; omega
        case c4 => omega
        case c5 => simp; omega
        intro v' w3 hown3 hgrow _
        have hb3 : Below w.heap.size w w3 := (hb2.alloc hsz2 _).grown hgrow (by simp; omega) (fun j hj => (hown2.lt j hj).1)
        have hown4 : w3.ownsRow w.heap.size 3 1 v' (plcs x.toNat (j + 1)).length ((plcs x.toNat (j + 1)).map (Value.int .i64)) := by rw [E.out, List.map_append, List.length_append]; exact hown3
        clear hown3 hgrow hown2 hown hb2 hb E
        go_wp2
        go_roundw
        case rel => exact ⟨j + 1, by omega, by go_num, hown4, hb3⟩
        case measure => simp [intOf]; omega
      | false =>
        have P := Lib.hid (fun W => bit_no x j hx hlt hbit W)
        have E := Lib.hid (plcs_no x.toNat j hbit)
        clear hbit
        rw [← E.out] at hown
        generalize hLL : plcs x.toNat (j + 1) = L at hown
        have HL := Lib.hid hLL
        clear hLL E hlen
        go_wp2_with (go_at_call 18; refine (P.out _).mono ?_; rintro e w2 ⟨rfl, hq2⟩; have hown2 := hq2.ownsRow hown; have hb2 := hb.trans (hq2.below (B := w.heap.size)); have hsz2 := hb2.size)
        go_roundw
        case rel => exact ⟨j + 1, by omega, by go_num, by rw [HL.out]; exact hown2, hb2⟩
        case measure => simp [intOf]; omega
    · obtain rfl : j = 64 := by omega
      go_wp2
      go_ret
      exact ⟨_, rfl, hown, hb⟩

theorem places_lst (x : Int) (w : World) (hx : U64 x) :
    Calls Try.prog 23 #[.int .u64 x] w fun e w' => ∃ v, e = .returned v ∧ Lst .i64 w' v (plcs x.toNat 64) ∧ Below w.heap.size w w' :=
  (places_any x w hx).mono fun _ _ ⟨v, he, hr, hb⟩ => ⟨v, he, lst_of_own hr, hb⟩
/-- .. of 0, of another word: nil, a row of cells. -/
theorem places_none (w : World) : Calls Try.prog 23 #[.int .u64 0] w fun e w' => ∃ a c, e = .returned (.slice a 0 c) ∧ Below w.heap.size w w' :=
  (places_lst 0 w (by constructor <;> decide)).mono fun _ _ ⟨v, he, hl, hb⟩ => by
    rw [show (0 : Int).toNat = 0 from rfl, plcs_nil] at hl
    rcases hl with ⟨_, a, c, h1⟩ | ⟨_, _, _, _, h2, _⟩
    · exact ⟨a, c, by rw [he, h1], hb⟩
    · exact absurd h2 (by simp)
theorem places_some (x : Int) (w : World) (n : Nat) (hx : U64 x) (hn : n = (plcs x.toNat 64).length) (h0 : 0 < n) :
    Calls Try.prog 23 #[.int .u64 x] w fun e w' => ∃ b o c, e = .returned (.slice (some ⟨b, o, none⟩) n c) ∧ (∀ i, i < n → w'.cell? ⟨b, o + i, none⟩ = some (.int .i64 ((plcs x.toNat 64).getD i 0))) ∧ Below w.heap.size w w' := by
  subst hn
  refine (places_lst x w hx).mono fun _ _ ⟨v, he, hl, hb⟩ => ?_
  rcases hl with ⟨h1, _⟩ | ⟨b, o, c, h1, _, h3, h4⟩
  · rw [h1] at h0; exact absurd h0 (by simp)
  · exact ⟨b, o, c, by rw [he, h1], h4, hb⟩

/-- how many ones stand below a bit -/
def rankI (x a : Int) : Int := (((plcs x.toNat (bnd a).toNat).length : Nat) : Int)
theorem bnd_min (a : Int) : (bnd a).toNat = min 64 a.toNat := by unfold bnd; split <;> (try split) <;> omega
theorem rank_and (x a : Int) (hx : U64 x) : onesI (bits .and .u64 x (maskI a)) = rankI x a ∧ U64 (bits .and .u64 x (maskI a)) := by
  obtain ⟨X, rfl⟩ := Int.eq_ofNat_of_zero_le hx.1
  have hX : X < 2 ^ 64 := by have := hx.2; omega
  have hm := maskI_U64 a
  have hb := bnd_bd a
  unfold maskI at hm ⊢
  rw [bits_and_u64_nat _ _ hX (by have := hm.2; omega), Nat.and_two_pow_sub_one_eq_mod]
  refine ⟨?_, U64.nat _ (Nat.lt_of_le_of_lt (Nat.mod_le _ _) hX)⟩
  unfold onesI rankI
  rw [Int.toNat_natCast, Int.toNat_natCast, plcs_length]
  obtain ⟨b, hb'⟩ : ∃ b, b = (bnd a).toNat := ⟨_, rfl⟩
  rw [← hb']
  have h64 : 64 = b + (64 - b) := by omega
  have h := cnt_add (X % 2 ^ b) 0 b (Nat.mod_lt _ (Nat.two_pow_pos b)) (64 - b)
  rw [Nat.mul_zero, Nat.zero_add, ← h64, ← cnt_all] at h
  have h0 : ∀ m, cnt 0 m = 0 := by
    intro m
    induction m with
    | zero => rfl
    | succ m ih => simp [cnt, ih]
  rw [h, h0, Nat.add_zero]

set_option maxRecDepth 100000 in
set_option maxHeartbeats 400000 in
theorem ones_w (x : Int) (w : World) (hx : U64 x) :
    Calls Try.prog 55 #[.int .u64 x] w fun e w' => e = .returned (.int .i64 (onesI x)) ∧ Quiet w w' := by
  have R := Lib.hid (fun W => onesCount_any x W hx)
  generalize onesI x = y at *
  go_enter Try.func55, Try.ntmps55
  go_wp2_with (go_at_call 70; refine (R.out _).mono ?_; rintro e w1 ⟨rfl, hq1⟩)
  go_ret
  exact ⟨rfl, hq1⟩

theorem filt_take_succ (L : List Int) (a : Int) (k : Nat) (h : k < L.length) :
    (((L.take (k + 1)).filter fun z => decide (z < a)).length = ((L.take k).filter fun z => decide (z < a)).length + (if L.getD k 0 < a then 1 else 0)) := by
  rw [List.take_add_one, List.getElem?_eq_getElem h, List.filter_append, List.length_append]
  simp only [Option.toList]
  rw [List.getD_eq_getElem?_getD, List.getElem?_eq_getElem h, Option.getD_some]
  by_cases h1 : L[k] < a <;> simp [h1]

theorem mask_step (n : Int) (j : Nat) (hj : j < 64) : (j < n → IntKind.u64.wrap (((2 ^ min j n.toNat - 1 : Nat) : Int) + powI j) = ((2 ^ min (j + 1) n.toNat - 1 : Nat) : Int)) ∧ (¬ j < n → min (j + 1) n.toNat = min j n.toNat) := by
  refine ⟨fun h => ?_, fun h => by omega⟩
  have e1 : min j n.toNat = j := by omega
  have e2 : min (j + 1) n.toNat = j + 1 := by omega
  have hp := Nat.two_pow_pos j
  have h1 : 2 ^ (j + 1) ≤ 2 ^ 64 := Nat.pow_le_pow_right (by decide) (by omega)
  rw [e1, e2, IntKind.wrap_u64]
  unfold powI
  rw [Int.toNat_natCast]
  rw [Nat.pow_succ] at h1 ⊢
  omega
/-- the highest bit that is 1; -1: none -/
def highI (x : Int) : Int := ((Lib.bitLen x.toNat : Nat) : Int) - 1
end Go.Proofs.Ytnodeojeijekcaa
/- Bits that both words have, and those that the first alone has: numbers for PagesSpares. No condition but that they are words. -/
namespace Go.Proofs.Ytnodeojeijekcaa
open Go.RowKit
set_option linter.unusedVariables false
theorem and_natP (x y : Int) (hx : U64 x) (hy : U64 y) : U64 (bits .and .u64 x y) ∧ (bits .and .u64 x y).toNat = x.toNat &&& y.toNat := by
  obtain ⟨X, rfl⟩ := Int.eq_ofNat_of_zero_le hx.1
  obtain ⟨Y, rfl⟩ := Int.eq_ofNat_of_zero_le hy.1
  have hX : X < 2 ^ 64 := by have := hx.2; omega
  have hY : Y < 2 ^ 64 := by have := hy.2; omega
  rw [bits_and_u64_nat _ _ (by omega) (by omega)]
  have := Nat.and_lt_two_pow X hY
  exact ⟨⟨by omega, by omega⟩, by simp⟩
theorem andNot_natP (x y : Int) (hx : U64 x) (hy : U64 y) : U64 (bits .andNot .u64 x y) ∧ (bits .andNot .u64 x y).toNat = x.toNat &&& (18446744073709551615 - y.toNat) := by
  obtain ⟨X, rfl⟩ := Int.eq_ofNat_of_zero_le hx.1
  obtain ⟨Y, rfl⟩ := Int.eq_ofNat_of_zero_le hy.1
  have hX : X < 2 ^ 64 := by have := hx.2; omega
  have hY : Y < 2 ^ 64 := by have := hy.2; omega
  rw [u64_andNot_nat _ _ (by omega) (by omega)]
  have := Nat.and_lt_two_pow X (show 18446744073709551615 - Y < 2 ^ 64 by omega)
  exact ⟨⟨by omega, by omega⟩, by simp⟩
theorem bit_and (x y : Int) (i : Int) (hx : U64 x) (hy : U64 y) : IntKind.u64.wrap (bitI x i * bitI y i) = bitI (bits .and .u64 x y) i := by
  have e : bitI (bits .and .u64 x y) i = bitI x i * bitI y i := by
    unfold bitI
    rw [(and_natP x y hx hy).2, Nat.testBit_and]
    cases x.toNat.testBit i.toNat <;> cases y.toNat.testBit i.toNat <;> rfl
  rw [e]
  rcases bitI_01 x i with h1 | h1 <;> rcases bitI_01 y i with h2 | h2 <;> rw [h1, h2] <;> rfl
theorem cnt_left (X Y : Nat) (hY : Y < 2 ^ 64) : ∀ n, n ≤ 64 → cnt X n = cnt (X &&& (18446744073709551615 - (X &&& Y))) n + cnt (X &&& Y) n
  | 0, _ => rfl
  | n + 1, h => by
    have ih := cnt_left X Y hY n (by omega)
    rw [cnt_snoc, cnt_snoc, cnt_snoc, Nat.testBit_and, Nat.testBit_and]
    have hZ : X &&& Y < 2 ^ 64 := Nat.and_lt_two_pow X hY
    have e : (18446744073709551615 - (X &&& Y)).testBit n = !(X.testBit n && Y.testBit n) := by
      have := Nat.testBit_two_pow_sub_succ hZ n
      rw [show 2 ^ 64 - ((X &&& Y) + 1) = 18446744073709551615 - (X &&& Y) by omega, Nat.testBit_and] at this
      rw [this, decide_eq_true (by omega), Bool.true_and]
    rw [e]
    cases X.testBit n <;> cases Y.testBit n <;> simp <;> omega
theorem ones_left (al ma : Int) (ha : U64 al) (hm : U64 ma) : U64 (bits .andNot .u64 al (bits .and .u64 al ma)) ∧ onesI (bits .andNot .u64 al (bits .and .u64 al ma)) = ((plcs al.toNat 64).length : Int) - ((plcs (bits .and .u64 al ma).toNat 64).length : Int) := by
  obtain ⟨h1, h2⟩ := and_natP al ma ha hm
  obtain ⟨h3, h4⟩ := andNot_natP al _ ha h1
  refine ⟨h3, ?_⟩
  rw [plcs_length, plcs_length]
  unfold onesI
  rw [h4, h2]
  have := cnt_left al.toNat ma.toNat (by have := hm.1; have := hm.2; omega) 64 (Nat.le_refl _)
  omega
end Go.Proofs.Ytnodeojeijekcaa
/- The law PagesSpares. Conditions: the two words are words. -/
namespace Go.Proofs.Ytnodeojeijekcaa
open Go.RowKit
set_option linter.unusedVariables false
set_option linter.unusedSimpArgs false
theorem mod_bd (x k : Int) (h0 : 0 < k) (h1 : k ≤ 4294967296) : 0 ≤ wrap64 ((IntKind.u64.wrap x).tmod k) ∧ wrap64 ((IntKind.u64.wrap x).tmod k) < k := by
  have hw : 0 ≤ IntKind.u64.wrap x := by rw [IntKind.wrap_u64]; omega
  generalize IntKind.u64.wrap x = y at *
  rw [Int.tmod_eq_emod_of_nonneg hw]
  have h2 : 0 ≤ y % k := Int.emod_nonneg _ (by omega)
  have h3 : y % k < k := Int.emod_lt_of_pos _ (by omega)
  generalize y % k = z at *
  rw [IntWalk.wrap64_in z ⟨by omega, by omega⟩]
  omega
def z256 : List Int := List.replicate 256 0
theorem z256_len : z256.length = 256 := List.length_replicate
def pgY (cl was al ma : Int) : PgD := ⟨1, cl, 0, 0, was, 0, al, ma⟩
theorem pgy_ent {cl was : Int} (h : 0 ≤ cl ∧ cl < 8) (h2 : 0 ≤ was ∧ was < 4294967296) : entB 1 cl 0 0 was = true := by
  have h3 : inB was 0 4294967295 = true := decide_eq_true (by omega)
  have h4 : inB cl 0 7 = true := decide_eq_true (by omega)
  unfold entB
  rw [h3]
  show (true && true && inB cl 0 7) = true
  rw [h4]; rfl
theorem pgy_cells {cl was al ma : Int} (h : 0 ≤ cl ∧ cl < 8) (h2 : 0 ≤ was ∧ was < 4294967296) : layK 3 1 [pgY cl was al ma] 1 = (((z256).set 22 (encE 1 cl 0 0 was)).set 25 al).set 28 ma := by
  show stP 3 1 (List.replicate (cellsN 3 1 1) 0) 0 (pgY cl was al ma) = _
  rw [show cellsN 3 1 1 = 256 from by kernel_rfl]
  change stP 3 1 z256 0 (pgY cl was al ma) = _
  unfold stP
  rw [show pE 1 = 22 from by kernel_rfl]
  have : pgW (pgY cl was al ma) = encE 1 cl 0 0 was := by
    unfold pgW pgY eencV
    rw [if_pos rfl]
    dsimp only
    rw [pgy_ent h h2, if_pos rfl]
  rw [this]
  rfl
theorem pgy_rok {cl was al ma cy : Int} (h : 0 ≤ cl ∧ cl < 8) (h2 : 0 ≤ was ∧ was < 4294967296) (h3 : 0 ≤ cy ∧ cy < 4294967296) : RnOk 3 1 cl was al ma cy ((((z256).set 22 (encE 1 cl 0 0 was)).set 25 al).set 28 ma) 22 25 28 := by
  refine ⟨by kernel_rfl, by omega, by kernel_rfl, by kernel_rfl, by kernel_rfl, (by simp only [List.length_set, z256_len]; try omega), (by simp only [List.length_set, z256_len]; try omega), (by simp only [List.length_set, z256_len]; try omega), by decide, by decide, by decide, pgy_ent h h2, decide_eq_true (by omega), ?_, ?_, ?_⟩
  · rw [getD_set_ne _ _ (by decide), getD_set_ne _ _ (by decide), getD_set_eq _ _ (by simp only [List.length_set, z256_len]; try omega)]
  · rw [getD_set_ne _ _ (by decide), getD_set_eq _ _ (by simp only [List.length_set, z256_len]; try omega)]
  · rw [getD_set_eq _ _ (by simp only [List.length_set, z256_len]; try omega)]
theorem pgy_rd (X : World) (cl was al ma : Int) (ha : U64 al) (hm : U64 ma) : RdRow 8 ElPg (X.alloc (.cells #[.int .i64 1, .int .i64 cl, .int .i64 0, .int .i64 0, .int .i64 was, .int .u64 0, .int .u64 al, .int .u64 ma] 34)).heap.size (X.alloc (.cells #[.int .i64 1, .int .i64 cl, .int .i64 0, .int .i64 0, .int .i64 was, .int .u64 0, .int .u64 al, .int .u64 ma] 34)) (.slice (some ⟨X.heap.size, 0, none⟩) 1 1) [pgY cl was al ma] := by
  have h : Blk (X.alloc (.cells #[.int .i64 1, .int .i64 cl, .int .i64 0, .int .i64 0, .int .i64 was, .int .u64 0, .int .u64 al, .int .u64 ma] 34)) X.heap.size #[.int .i64 1, .int .i64 cl, .int .i64 0, .int .i64 0, .int .i64 was, .int .u64 0, .int .u64 al, .int .u64 ma] 34 := Blk.new _ _ _
  refine ⟨_, _, rfl, (show 1 ≤ maxLen by unfold maxLen; decide), fun i hi => ?_⟩
  have hi0 : i = 0 := by simp at hi; omega
  subst hi0
  refine ⟨_, _, rfl, by simp, ?_⟩
  exact ⟨⟨h.val 0 rfl, h.val 1 rfl, h.val 2 rfl, h.val 3 rfl, h.val 4 rfl⟩, ⟨h.val 5 rfl, h.val 6 rfl, h.val 7 rfl⟩, show U64 0 ∧ U64 al ∧ U64 ma from ⟨⟨by decide, by decide⟩, ha, hm⟩⟩
/-- what a sweep came to -/
structure SpEnd (cl was al ma cy : Int) (σ : Sw) (cz : List Int) : Prop where
  nx : σ.nx = 0
  len : cz.length = 256
  out : (¬ was < cy ∧ σ.sw = false ∧ cz.getD 25 0 = al ∧ cz.getD 28 0 = ma ∧ cz.getD 22 0 = encE 1 cl 0 0 was) ∨
    (was < cy ∧ σ.sw = true ∧ σ.al = al ∧ σ.kp = bits .and .u64 al ma ∧ cz.getD 25 0 = bits .and .u64 al ma ∧ cz.getD 28 0 = 0 ∧ cz.getD 22 0 = lastI cl al ma cy)
/-- a sweep that is alone, from its beginning to its end -/
theorem sp_runs {w : World} {B f M d a c p s : Nat} {cl was al ma cy : Int} (h : 0 ≤ cl ∧ cl < 8) (h2 : 0 ≤ was ∧ was < 4294967296) (h3 : 0 ≤ cy ∧ cy < 4294967296) :
    ∃ (S : Nat → Sw) (C : Nat → List Int) (N : Nat), 1 ≤ N ∧ N ≤ 7 ∧ S 0 = sw0 3 1 1 15 cy 0 ∧ C 0 = (((z256).set 22 (encE 1 cl 0 0 was)).set 25 al).set 28 ma ∧ (∀ i, i ≤ N → ((S i).nx == 0) = decide (i = N)) ∧
      (∀ i, i < N → ∀ W, PdS w B f M d a c p s 3 1 (S i) (C i) i true W → Calls Try.prog 12 #[.pointer (some ⟨s, 0, none⟩), .pointer (some ⟨p, 0, none⟩)] W fun e' w' => (∃ v, e' = .returned v) ∧ PdS w B f M d a c p s 3 1 (S (i + 1)) (C (i + 1)) (i + 1) false w') ∧ SpEnd cl was al ma cy (S N) (C N) := by
  have hk := pgy_rok (al := al) (ma := ma) h h2 h3
  by_cases hw : was < cy
  · refine ⟨rnS 3 1 cl was al ma cy, rnC ((((z256).set 22 (encE 1 cl 0 0 was)).set 25 al).set 28 ma) 22 25 28 cl was al ma cy, 7, by omega, by omega, rfl, rfl, rn_over 3 1 cl was al ma cy, fun i hi W hP => hP.rnstep hk hw hi, rfl, ?_, .inr ⟨hw, rfl, rfl, rfl, ?_, ?_, ?_⟩⟩
    · rw [rnC_len]; simp only [List.length_set, z256_len]
    · show ((((_ : List Int).set 22 _).set 25 _).set 28 0 |>.set 22 _).getD 25 0 = _
      rw [getD_set_ne _ _ (by decide), getD_set_ne _ _ (by decide), getD_set_eq _ _ (by simp only [List.length_set, z256_len]; try omega)]
    · show ((((_ : List Int).set 22 _).set 25 _).set 28 0 |>.set 22 _).getD 28 0 = _
      rw [getD_set_ne _ _ (by decide), getD_set_eq _ _ (by simp only [List.length_set, z256_len]; try omega)]
    · show ((((_ : List Int).set 22 _).set 25 _).set 28 0 |>.set 22 _).getD 22 0 = _
      rw [getD_set_eq _ _ (by simp only [List.length_set, z256_len]; try omega)]
  · refine ⟨fun i => if i = 0 then sw0 3 1 1 15 cy 0 else { sw0 3 1 1 15 cy 0 with nx := 0, bl := false }, fun _ => (((z256).set 22 (encE 1 cl 0 0 was)).set 25 al).set 28 ma, 1, by omega, by omega, rfl, rfl, ?_, ?_, rfl, by simp only [List.length_set, z256_len], .inl ⟨hw, rfl, hk.za, hk.zm, hk.ze⟩⟩
    · intro i hi
      have : i = 0 ∨ i = 1 := by omega
      rcases this with rfl | rfl <;> rfl
    · intro i hi W hP
      obtain rfl : i = 0 := by omega
      obtain ⟨xs, hS⟩ := hP.start
      exact (rn_step0_late hk hw hS hP.mr.2).mono fun _ _ ⟨he, xs', hm⟩ => ⟨he, hP.moved hm⟩
end Go.Proofs.Ytnodeojeijekcaa
/- The law PagesSpares, walked. Conditions: the two words are words. -/
namespace Go.Proofs.Ytnodeojeijekcaa
open Go.RowKit
set_option linter.unusedVariables false
theorem five_case {w : World} {b : Nat} {v0 v1 v2 v3 v4 : Value} {t : TypeId} (h : Blk w b #[v0, v1, v2, v3, v4] t) :
    (w.cell? ⟨b, 0, none⟩ = some v0 ∧ w.cell? ⟨b, 1, none⟩ = some v1 ∧ w.cell? ⟨b, 2, none⟩ = some v2 ∧ w.cell? ⟨b, 3, none⟩ = some v3 ∧ w.cell? ⟨b, 4, none⟩ = some v4) := h.five
theorem places_len (x : Int) (w : World) (hx : U64 x) :
    Calls Try.prog 23 #[.int .u64 x] w fun e w' => ∃ a c, e = .returned (.slice a (plcs x.toNat 64).length c) ∧ Below w.heap.size w w' := by
  refine (places_any x w hx).mono fun e w' ⟨v, he, hr, hb⟩ => ?_
  rcases hr.2 with ⟨h1, h2⟩ | ⟨g, cap, cur, h1, _⟩
  · exact ⟨none, 0, by rw [he, h1, h2], hb⟩
  · exact ⟨_, cap, by rw [he, h1], hb⟩
theorem rdec_zero (w : World) :
    Calls Try.prog 19 #[.int .u64 0] w fun e w' => e = .returned (.tuple #[.agg #[.int .i64 0, .int .i64 0, .int .i64 0, .int .i64 0, .int .i64 0], .int .i64 0]) ∧ Below w.heap.size w w' := by
  have := redec_any 0 w ⟨by decide, by decide⟩
  rw [show edecOk 0 = true from by kernel_rfl] at this
  exact this
theorem rdec_some {k c s o y : Int} (w : World) (h : entB k c s o y = true) :
    Calls Try.prog 19 #[.int .u64 (encE k c s o y)] w fun e w' => e = .returned (.tuple #[.agg #[.int .i64 k, .int .i64 c, .int .i64 s, .int .i64 o, .int .i64 y], .int .i64 0]) ∧ Below w.heap.size w w' := by
  obtain ⟨h1, h2, h3, h4, h5, h6, h7⟩ := decE_of h
  have := redec_any _ w h1
  rw [h2, h3, h4, h5, h6, h7] at this
  exact this
set_option maxRecDepth 100000 in
set_option maxHeartbeats 8000000 in
theorem pspares_walk (c0 cy0 was0 al ma : Int) (w : World) (hal : U64 al) (hma : U64 ma) :
    Calls Try.prog 3 #[.agg #[.int .i64 c0, .int .i64 cy0, .int .i64 was0, .int .u64 al, .int .u64 ma]] w fun e w' => e = .returned (.bool true) ∧ Below w.heap.size w w' := by
  have hcl := mod_bd c0 8 (by decide) (by decide)
  have hwas := mod_bd was0 4294967296 (by decide) (by decide)
  have hcy := mod_bd cy0 4294967296 (by decide) (by decide)
  have CY := Lib.hid (fun W => cycled_any cy0 W)
  have WA := Lib.hid (fun W => cycled_any was0 W)
  obtain ⟨cl, hcl0⟩ : ∃ cl, wrap64 ((IntKind.u64.wrap c0).tmod 8) = cl := ⟨_, rfl⟩
  rw [hcl0] at hcl
  generalize wrap64 ((IntKind.u64.wrap was0).tmod 4294967296) = was at *
  generalize wrap64 ((IntKind.u64.wrap cy0).tmod 4294967296) = cy at *
  have LA := Lib.hid (fun W v (hl : RdRow 8 ElPg W.heap.size W v [pgY cl was al ma]) => play_any 2 0 0 3 1 v [pgY cl was al ma] W (by kernel_rfl) (by kernel_rfl) (by omega) (by omega) hl)
  have PLN := Lib.hid (fun W => pplan_any 3 1 1 W)
  have NS := Lib.hid (fun W => newsweep_yes 3 1 1 15 cy 0 W (by kernel_rfl) (by kernel_rfl) (decide_eq_true (by omega)))
  have hX : Blk (w.alloc (.cells #[.int .i64 c0, .int .i64 cy0, .int .i64 was0, .int .u64 al, .int .u64 ma] 24)) w.heap.size #[.int .i64 c0, .int .i64 cy0, .int .i64 was0, .int .u64 al, .int .u64 ma] 24 := Blk.new _ _ _
  have hB : Below w.heap.size w (w.alloc (.cells #[.int .i64 c0, .int .i64 cy0, .int .i64 was0, .int .u64 al, .int .u64 ma] 24)) := (Below.refl _ _).alloc (Nat.le_refl _) _
  go_enter Try.func3, Try.ntmps3
  go_upto_region 1 with fail
  generalize w.alloc (.cells #[.int .i64 c0, .int .i64 cy0, .int .i64 was0, .int .u64 al, .int .u64 ma] 24) = W at *
  obtain ⟨x0, x1, x2, x3, x4⟩ := hX.five
  go_quiet (fail)
  have hB1 := below_drewN hB nq
  generalize W.drewN nq = W1 at *
  clear x0 x1 x2 x3 x4 hX hB
  go_wp2_with fail
  first | rw [hcl0] | skip
  refine (CY.out _).mono ?_; rintro e w1 ⟨rfl, hq1⟩
  go_wp2_with fail
  refine (WA.out _).mono ?_; rintro e w2 ⟨rfl, hq2⟩
  have hB2 := hB1.trans ((hq1.trans hq2).below.mono hB1.size)
  clear hB1 hq1 hq2 CY WA
  go_upto_region 3 with fail
  first | rw [hcl0] | skip
  have hR := pgy_rd w2 cl was al ma hal hma
  have hB3 := hB2.alloc hB2.size (.cells #[.int .i64 1, .int .i64 cl, .int .i64 0, .int .i64 0, .int .i64 was, .int .u64 0, .int .u64 al, .int .u64 ma] 34)
  go_wp2_with fail
  generalize w2.alloc (.cells #[.int .i64 1, .int .i64 cl, .int .i64 0, .int .i64 0, .int .i64 was, .int .u64 0, .int .u64 al, .int .u64 ma] 34) = W0 at *
  refine (LA.out _ _ hR).mono ?_; rintro e w3 ⟨f, M, d, a, c, p, rfl, hF'⟩
  have hF : FiS W0 W0.heap.size f M d a c p 3 1 ((((z256).set 22 (encE 1 cl 0 0 was)).set 25 al).set 28 ma) w3 := by
    have := pgy_cells (al := al) (ma := ma) hcl hwas
    rw [← this]; exact hF'
  clear hF' hR LA hcl0
  go_wp2_with fail
  refine (paged_any _).mono ?_; rintro e w4 ⟨rfl, hb4⟩
  have x0 : w4.cell? ⟨f, 0, none⟩ = some (.int .i64 3) := (hF.fl.grew hb4).val 0 rfl
  have x1 : w4.cell? ⟨f, 1, none⟩ = some (.int .i64 1) := (hF.fl.grew hb4).val 1 rfl
  have x2 : w4.cell? ⟨f, 2, none⟩ = some (.int .i64 1) := (hF.fl.grew hb4).val 2 rfl
  go_wp2_with fail
  refine (PLN.out _).mono ?_; rintro e w5 ⟨rfl, hb5⟩
  clear x0 x1 x2
  go_wp2_with fail
  refine (NS.out _).mono ?_; rintro e w6 ⟨s, rfl, hs6, hsl, hb6⟩
  have hb35 := hb4.trans (hb5.mono hb4.size)
  have hb36 := hb35.trans (hb6.mono hb35.size)
  obtain ⟨S, C, N, hN1, hN7, hS0, hC0, HN, STEP, hEnd⟩ := sp_runs (w := w) (B := W0.heap.size) (f := f) (M := M) (d := d) (a := a) (c := c) (p := p) (s := s) (al := al) (ma := ma) hcl hwas hcy
  have hP : PdS w W0.heap.size f M d a c p s 3 1 (S 0) (C 0) 0 false w6 := by
    rw [hS0, hC0]
    exact PdS.of hF hB3.size hs6 (Nat.le_trans hb35.size hsl) hb36 (hB3.trans (hF.bel.mono hB3.size))
  replace HN := Lib.hid HN
  replace STEP := Lib.hid STEP
  clear hF hb4 hb5 hb6 hb35 hb36 hs6 hsl PLN NS hB3 hB2 hS0 hC0
  go_wp2_with fail
  go_loopw [12] (fun i wr => ∃ k : Nat, k ≤ N ∧ i = .int .i64 k ∧ ∃ o, PdS w W0.heap.size f M d a c p s 3 1 (S k) (C k) k o wr) (fun i _ => N - (intOf i).toNat)
  case atStart => exact ⟨0, by omega, rfl, false, hP⟩
  case round =>
    clear hP
    obtain ⟨k, hk, rfl, o, hP⟩ := hrel
    have hk8 : (k : Int) < 8 := by omega
    have hov := HN.out k hk
    by_cases hlt : k < N
    · rw [decide_eq_false (by omega)] at hov
      have OV := Lib.hid hP.over
      rw [hov] at OV
      have ST := Lib.hid (fun W h => STEP.out k hlt W h)
      clear hP hov hEnd
      go_wp2_with fail
      refine OV.out.mono ?_; rintro e w7 ⟨rfl, hP7⟩
      have p11 := hP7.ptrs.1
      clear OV
      go_wp2_with fail
      refine hP7.grant.mono ?_; rintro e w8 ⟨⟨v8, rfl⟩, hP8⟩
      have p11' := hP8.ptrs.1
      clear p11 hP7
      go_wp2_with fail
      refine (ST.out _ hP8).mono ?_; rintro e w9 ⟨⟨v9, rfl⟩, hP9⟩
      clear p11' hP8 ST
      replace hP9 := Lib.hid hP9
      go_wp2
      go_roundw
      case rel => exact ⟨k + 1, by omega, by go_num, false, hP9.out⟩
      case measure => simp [intOf]; omega
    · have hkN : k = N := by omega
      subst hkN
      obtain ⟨hnx, hlen, hOut⟩ := hEnd
      generalize S k = σ at *
      generalize C k = cz at *
      have OV := Lib.hid (fun W o (h : PdS w W0.heap.size f M d a c p s 3 1 σ cz k o W) => h.over)
      rw [hnx] at OV
      have PE := Lib.hid (fun W => pmPage_any 3 1 1 (baseI 3 1 1) (tabI 1 1) (baseI 3 1 1 + 64 * 3) 0 W)
      rw [show wrap64 (tabI 1 1 + 0) = ((22 : Nat) : Int) from by kernel_rfl] at PE
      have PA := Lib.hid (fun W => pmAlloc_any 3 1 1 (baseI 3 1 1) (tabI 1 1) (baseI 3 1 1 + 64 * 3) 0 W)
      rw [show wrap64 (wrap64 (tabI 1 1 + 3) + 0) = ((25 : Nat) : Int) from by kernel_rfl] at PA
      have PM := Lib.hid (fun W => pmMark_any 3 1 1 (baseI 3 1 1) (tabI 1 1) (baseI 3 1 1 + 64 * 3) 0 W)
      rw [show wrap64 (wrap64 (tabI 1 1 + wrap64 (2 * 3)) + 0) = ((28 : Nat) : Int) from by kernel_rfl] at PM
      have KA := Lib.hid (fun W o (h : PdS w W0.heap.size f M d a c p s 3 1 σ cz k o W) => h.peek (i := 25) (by omega) (by omega))
      have KM := Lib.hid (fun W o (h : PdS w W0.heap.size f M d a c p s 3 1 σ cz k o W) => h.peek (i := 28) (by omega) (by omega))
      have KE := Lib.hid (fun W o (h : PdS w W0.heap.size f M d a c p s 3 1 σ cz k o W) => h.peek (i := 22) (by omega) (by omega))
      have SWP := Lib.hid (fun W (h : Blk W s σ.V 88) => swSwept h)
      have EMP := Lib.hid (fun W (h : Blk W s σ.V 88) => swEmpty h)
      have FRE := Lib.hid (fun W (h : Blk W s σ.V 88) h1 h2 => swFreed_yes h h1 h2)
      have HO := Lib.hid hOut
      clear HN STEP hlt hN1 hN7 hnx hlen hov hOut
      generalize cz.getD 25 0 = av at *
      generalize cz.getD 28 0 = mv at *
      generalize cz.getD 22 0 = ev at *
      go_wp2_with fail
      refine (OV.out _ _ hP).mono ?_; rintro e w7 ⟨rfl, hP7⟩
      have hP7d := hP7.drew
      clear hP
      go_wp2_with fail
      go_region_held3 (fun W' => W'.cell? ⟨f, 11, none⟩ = some (.pointer (some ⟨p, 0, none⟩)) ∧ W'.cell? ⟨f, 9, none⟩ = some (.pointer (some ⟨a, 0, none⟩)) ∧ (W'.cell? ⟨f, 0, none⟩ = some (.int .i64 3) ∧ W'.cell? ⟨f, 1, none⟩ = some (.int .i64 1) ∧ W'.cell? ⟨f, 2, none⟩ = some (.int .i64 1)) ∧ (W'.cell? ⟨f, 3, none⟩ = some (.int .i64 3) ∧ W'.cell? ⟨f, 4, none⟩ = some (.int .i64 1) ∧ W'.cell? ⟨f, 5, none⟩ = some (.int .i64 1) ∧ W'.cell? ⟨f, 6, none⟩ = some (.int .i64 (baseI 3 1 1)) ∧ W'.cell? ⟨f, 7, none⟩ = some (.int .i64 (tabI 1 1)) ∧ W'.cell? ⟨f, 8, none⟩ = some (.int .i64 (baseI 3 1 1 + 64 * 3))))
        ((with_reducible exact PdS.ptrs (by assumption)))
        (first
          | (go_at_call 14; refine (PA.out _).mono ?_; rintro e w8a ⟨rfl, hb8⟩; have hP8a := PdS.grew (by assumption) hb8)
          | (go_at_call 13; refine (KA.out _ _ (by assumption)).mono ?_; rintro e w8 ⟨rfl, hP8⟩))
      have hP8d := hP8.drew
      go_wp2_with fail
      go_region_held3 (fun W' => W'.cell? ⟨f, 11, none⟩ = some (.pointer (some ⟨p, 0, none⟩)) ∧ W'.cell? ⟨f, 9, none⟩ = some (.pointer (some ⟨a, 0, none⟩)) ∧ (W'.cell? ⟨f, 0, none⟩ = some (.int .i64 3) ∧ W'.cell? ⟨f, 1, none⟩ = some (.int .i64 1) ∧ W'.cell? ⟨f, 2, none⟩ = some (.int .i64 1)) ∧ (W'.cell? ⟨f, 3, none⟩ = some (.int .i64 3) ∧ W'.cell? ⟨f, 4, none⟩ = some (.int .i64 1) ∧ W'.cell? ⟨f, 5, none⟩ = some (.int .i64 1) ∧ W'.cell? ⟨f, 6, none⟩ = some (.int .i64 (baseI 3 1 1)) ∧ W'.cell? ⟨f, 7, none⟩ = some (.int .i64 (tabI 1 1)) ∧ W'.cell? ⟨f, 8, none⟩ = some (.int .i64 (baseI 3 1 1 + 64 * 3))))
        ((with_reducible exact PdS.ptrs (by assumption)))
        (first
          | (go_at_call 15; refine (PM.out _).mono ?_; rintro e w9a ⟨rfl, hb9⟩; have hP9a := PdS.grew (by assumption) hb9)
          | (go_at_call 13; refine (KM.out _ _ (by assumption)).mono ?_; rintro e w9 ⟨rfl, hP9⟩))
      have hP9d := hP9.drew
      go_wp2_with fail
      go_region_held3 (fun W' => W'.cell? ⟨f, 11, none⟩ = some (.pointer (some ⟨p, 0, none⟩)) ∧ W'.cell? ⟨f, 9, none⟩ = some (.pointer (some ⟨a, 0, none⟩)) ∧ (W'.cell? ⟨f, 0, none⟩ = some (.int .i64 3) ∧ W'.cell? ⟨f, 1, none⟩ = some (.int .i64 1) ∧ W'.cell? ⟨f, 2, none⟩ = some (.int .i64 1)) ∧ (W'.cell? ⟨f, 3, none⟩ = some (.int .i64 3) ∧ W'.cell? ⟨f, 4, none⟩ = some (.int .i64 1) ∧ W'.cell? ⟨f, 5, none⟩ = some (.int .i64 1) ∧ W'.cell? ⟨f, 6, none⟩ = some (.int .i64 (baseI 3 1 1)) ∧ W'.cell? ⟨f, 7, none⟩ = some (.int .i64 (tabI 1 1)) ∧ W'.cell? ⟨f, 8, none⟩ = some (.int .i64 (baseI 3 1 1 + 64 * 3))))
        ((with_reducible exact PdS.ptrs (by assumption)))
        (first
          | (go_at_call 16; refine (PE.out _).mono ?_; rintro e w10a ⟨rfl, hb10⟩; have hP10a := PdS.grew (by assumption) hb10)
          | (go_at_call 13; refine (KE.out _ _ (by assumption)).mono ?_; rintro e w10 ⟨rfl, hP10⟩))
      clear KA KM KE PA PM PE hP8d hP9d hP7d
      go_wp2_with fail
      refine (OV.out _ _ hP10).mono ?_; rintro e w11 ⟨rfl, hP11⟩
      clear OV hP10
      rcases HO.out with ⟨hw, hsw, h25, h28, h22⟩ | ⟨hw, hsw, hσa, hσk, h25, h28, h22⟩
      · subst h25
        subst h28
        have hge : was ≥ cy := by omega
        rw [hsw] at SWP
        go_wp2_with fail
        refine (SWP.out _ hP11.mach).mono ?_; rintro e w12 ⟨rfl, hq12⟩
        have hB12 := (hP11.quiet hq12).bel
        go_wp2
        go_ret
        exact ⟨rfl, hB12⟩
      · have hge : ¬ was ≥ cy := by omega
        subst h25
        subst h28
        have hkU := (and_natP al ma hal hma).1
        have BA := Lib.hid (fun i => bit_and al ma i hal hma)
        obtain ⟨hLU, hLv⟩ := ones_left al ma hal hma
        have FR := Lib.hid (fun W (h : Blk W s σ.V 88) => FRE.out W h hsw (by rw [hσa, hσk]; exact hLU))
        rw [hσa, hσk, hLv] at FR
        rw [hsw] at SWP EMP
        rw [hσk] at EMP
        have hl64a := plcs_len_le al.toNat 64
        have PLa := Lib.hid (fun W => places_len al W hal)
        have BTa := Lib.hid (fun i W (hi : i ≤ 63) => bit_any al i W hal hi)
        have BTm := Lib.hid (fun i W (hi : i ≤ 63) => bit_any ma i W hma hi)
        unfold lastI at h22
        replace h22 := Lib.hid h22
        clear FRE hLv hLU hsw hσa hσk HO hal
        generalize bits .and .u64 al ma = kp at *
        have hl64k := plcs_len_le kp.toNat 64
        have PLk := Lib.hid (fun W => places_len kp W hkU)
        have BTk := Lib.hid (fun i W (hi : i ≤ 63) => bit_any kp i W hkU hi)
        clear hkU hma
        generalize (plcs al.toNat 64).length = na at *
        generalize (plcs kp.toNat 64).length = nk at *
        have hsub : wrap64 ((na : Int) - (nk : Int)) = (na : Int) - (nk : Int) := IntWalk.wrap64_in _ (by omega)
        go_wp2_with fail
        go_loopw [18] (fun i wr => ∃ k' : Nat, k' ≤ 64 ∧ i = .int .i64 k' ∧ PdS w W0.heap.size f M d a c p s 3 1 σ cz k o wr) (fun i _ => 64 - (intOf i).toNat)
        case atStart => exact ⟨0, by omega, rfl, hP11⟩
        case round =>
          clear hP11
          obtain ⟨j, hj, rfl, hP⟩ := hrel
          by_cases hjl : j < 64
          · have hj1 : (j : Int) < 64 := by omega
            have hb0 := BA.out (j : Int)
            have b1 := Lib.hid (fun W => BTk.out (j : Int) W (by omega))
            have b2 := Lib.hid (fun W => BTa.out (j : Int) W (by omega))
            have b3 := Lib.hid (fun W => BTm.out (j : Int) W (by omega))
            generalize bitI kp (j : Int) = y1 at *
            generalize bitI al (j : Int) = y2 at *
            generalize bitI ma (j : Int) = y3 at *
            go_wp2_with fail
            refine (b1.out _).mono ?_; rintro e w12 ⟨rfl, hq12⟩
            go_wp2_with fail
            refine (b2.out _).mono ?_; rintro e w13 ⟨rfl, hq13⟩
            go_wp2_with fail
            refine (b3.out _).mono ?_; rintro e w14 ⟨rfl, hq14⟩
            have hP14 := Lib.hid (hP.quiet ((hq12.trans hq13).trans hq14))
            clear hP hq12 hq13 hq14 b1 b2 b3
            go_wp2
            go_roundw
            case rel => exact ⟨j + 1, by omega, by go_num, hP14.out⟩
            case measure => simp [intOf]; omega
          · have hj1 : ¬ (j : Int) < 64 := by omega
            cases hkp : (kp == 0) with
            | true =>
              have h22' := h22.out
              rw [hkp, if_pos rfl] at h22'
              subst h22'
              rw [hkp] at EMP
              go_wp2_with fail
              refine (rdec_zero _).mono ?_; rintro e w12 ⟨rfl, hb12⟩
              have hP12 := (hP.grew hb12).grew ((Below.refl _ _).alloc (Nat.le_refl _) (.cells #[.int .i64 0, .int .i64 0, .int .i64 0, .int .i64 0, .int .i64 0] 32))
              clear hP hb12
              go_upto_region 27 with fail
              generalize w12.alloc (.cells #[.int .i64 0, .int .i64 0, .int .i64 0, .int .i64 0, .int .i64 0] 32) = w13 at *
              go_wp2_with fail
              refine (SWP.out _ hP12.mach).mono ?_; rintro e w14 ⟨rfl, hq14⟩
              have hP14 := hP12.quiet hq14
              clear hP12
              go_wp2_with fail
              refine (EMP.out _ hP14.mach).mono ?_; rintro e w15 ⟨rfl, hq15⟩
              have hP15 := hP14.quiet hq15
              clear hP14
              go_wp2_with fail
              refine (FR.out _ hP15.mach).mono ?_; rintro e w16 ⟨rfl, hq16⟩
              have hP16 := hP15.quiet hq16
              clear hP15
              go_wp2_with fail
              refine (PLa.out _).mono ?_; rintro e w17 ⟨aa, ac, rfl, hb17⟩
              go_wp2_with fail
              refine (PLk.out _).mono ?_; rintro e w18 ⟨ka, kc, rfl, hb18⟩
              have hB := ((hP16.grew hb17).grew hb18).bel
              clear hP16
              go_wp2
              go_ret
              exact ⟨by simp, hB⟩
            | false =>
              have h22' := h22.out
              rw [hkp, if_neg (by decide)] at h22'
              subst h22'
              rw [hkp] at EMP
              have hent := pgy_ent hcl hcy
              have hkp' : (kp != 0) = true := by simpa using hkp
              have RD := Lib.hid (fun W => rdec_some W hent)
              have RY := Lib.hid (fun W => rready_any 1 cl 0 0 cy cl cy W)
              rw [show readyB 1 cl 0 0 cy cl cy = true from by unfold readyB; rw [hent]; simp] at RY
              clear hent
              generalize encE 1 cl 0 0 cy = E at *
              go_wp2_with fail
              refine (RD.out _).mono ?_; rintro e w12 ⟨rfl, hb12⟩
              have hP12 := (hP.grew hb12).grew ((Below.refl _ _).alloc (Nat.le_refl _) (.cells #[.int .i64 1, .int .i64 cl, .int .i64 0, .int .i64 0, .int .i64 cy] 32))
              have hX : Blk (w12.alloc (.cells #[.int .i64 1, .int .i64 cl, .int .i64 0, .int .i64 0, .int .i64 cy] 32)) w12.heap.size #[.int .i64 1, .int .i64 cl, .int .i64 0, .int .i64 0, .int .i64 cy] 32 := Blk.new _ _ _
              clear hP hb12
              go_upto_region 27 with fail
              generalize w12.alloc (.cells #[.int .i64 1, .int .i64 cl, .int .i64 0, .int .i64 0, .int .i64 cy] 32) = w13 at *
              generalize w12.heap.size = b at *
              go_wp2_with fail
              refine (SWP.out _ hP12.mach).mono ?_; rintro e w14 ⟨rfl, hq14⟩
              have hP14 := hP12.quiet hq14
              clear hP12
              go_wp2_with fail
              refine (EMP.out _ hP14.mach).mono ?_; rintro e w15 ⟨rfl, hq15⟩
              have hP15 := hP14.quiet hq15
              obtain ⟨y0, y1, y2, y3, y4⟩ := ((hX.quiet hq14).quiet hq15).five
              clear hP14
              go_wp2_with fail
              refine (RY.out _).mono ?_; rintro e w15b ⟨rfl, hb15b⟩
              have hP15b := hP15.grew hb15b
              clear hP15 y0 y1 y2 y3 y4
              go_wp2_with fail
              refine (FR.out _ hP15b.mach).mono ?_; rintro e w16 ⟨rfl, hq16⟩
              have hP16 := hP15b.quiet hq16
              clear hP15b
              go_wp2_with fail
              refine (PLa.out _).mono ?_; rintro e w17 ⟨aa, ac, rfl, hb17⟩
              go_wp2_with fail
              refine (PLk.out _).mono ?_; rintro e w18 ⟨ka, kc, rfl, hb18⟩
              have hB := ((hP16.grew hb17).grew hb18).bel
              clear hP16
              go_wp2
              go_ret
              exact ⟨by simp, hB⟩
theorem pspares_law (c0 cy0 was0 al ma : Int) (w : World) (_w0 : (Lit.int .i64 c0).wf = true) (_w1 : (Lit.int .i64 cy0).wf = true) (_w2 : (Lit.int .i64 was0).wf = true) (w3 : (Lit.int .u64 al).wf = true) (w4 : (Lit.int .u64 ma).wf = true) :
    Calls Try.prog 3 #[.agg #[.int .i64 c0, .int .i64 cy0, .int .i64 was0, .int .u64 al, .int .u64 ma]] w fun e w' => e = .returned (.bool true) ∧ Below w.heap.size w w' :=
  pspares_walk c0 cy0 was0 al ma w (wf_U64 w3) (wf_U64 w4)
end Go.Proofs.Ytnodeojeijekcaa
