/- Texts of this seat, one behind the other: each says at its head what it holds. No condition of its own. -/
import Derived.Lib.TrailingZeros
import Derived.Lib.BitFns
import Derived.Lib.ItoaNum
import Derived.Deep.CutBlock
import Derived.Deep.DeepCutAuto
import Derived.Test.YtohmnjejchppkaaDoorProg
import Derived.WalkKit
import Derived.Lib.Strings
import Derived.Lib.Slices
import Derived.Lib.Small
import Derived.Lib.Walk
import Derived.Lib.Hide
import Derived.Maps.AppendAt
import Derived.RangeFuncNested
import Derived.RangeFuncBound
import Derived.RangeFuncCalls
import Derived.RangeFuncLeaves
import Derived.Shelf.Abstract
import Derived.Shelf.RegionOpen
import Derived.OwnWalkIn
import Derived.TacticsInMore
import Derived.LoopNIn
import Derived.LoopIn
import Derived.Test.YtohmnjejchppkaaDoorGObjectsBack01
import Derived.Test.YtohmnjejchppkaaDoorGObjectsBack11
import Derived.Test.YtohmnjejchppkaaDoorGObjectsBack12
import Derived.Test.YtohmnjejchppkaaDoorGObjectsBack13
import Derived.Test.YtohmnjejchppkaaDoorGObjectsBack15
/- The places of a word's ones, as a list: numbers alone. No condition. -/
namespace Go.Proofs.YtohmnjejchppkaaDoor
open Go.RowKit

/-- the places below n of the ones of X, rising -/
def plcs (X n : Nat) : List Int := ((List.range n).filter fun i => X.testBit i).map fun i => ((i : Nat) : Int)
theorem plcs_zero (X : Nat) : plcs X 0 = [] := rfl
theorem plcs_one (X n : Nat) (h : X.testBit n = true) : plcs X (n + 1) = plcs X n ++ [((n : Nat) : Int)] := by
  unfold plcs
  rw [List.range_succ, List.filter_append, List.map_append]
  simp [h]
theorem plcs_no (X n : Nat) (h : X.testBit n = false) : plcs X (n + 1) = plcs X n := by
  unfold plcs
  rw [List.range_succ, List.filter_append, List.map_append]
  simp [h]
theorem plcs_len_le (X n : Nat) : (plcs X n).length ≤ n := by
  unfold plcs
  rw [List.length_map]
  exact Nat.le_trans (List.length_filter_le _ _) (by simp)
theorem plcs_mem {X n : Nat} {z : Int} (h : z ∈ plcs X n) : 0 ≤ z ∧ z < n ∧ X.testBit z.toNat = true := by
  unfold plcs at h
  obtain ⟨i, hi, rfl⟩ := List.mem_map.1 h
  obtain ⟨h1, h2⟩ := List.mem_filter.1 hi
  have := List.mem_range.1 h1
  exact ⟨by omega, by omega, by simpa using h2⟩
theorem plcs_getD {X n k : Nat} (h : k < (plcs X n).length) : 0 ≤ (plcs X n).getD k 0 ∧ (plcs X n).getD k 0 < n ∧ X.testBit ((plcs X n).getD k 0).toNat = true := by
  rw [List.getD_eq_getElem?_getD, List.getElem?_eq_getElem h]
  exact plcs_mem (List.getElem_mem h)
theorem cnt_all (X n : Nat) : cnt X n = cnt (X % 2 ^ n) n := by
  have h := cnt_add (X % 2 ^ n) (X / 2 ^ n) n (Nat.mod_lt _ (Nat.two_pow_pos n)) 0
  rw [Nat.div_add_mod, Nat.add_zero] at h
  rw [h]
  simp [cnt]
theorem cnt_snoc (X n : Nat) : cnt X (n + 1) = cnt X n + (X.testBit n).toNat := rfl
theorem plcs_length (X : Nat) : ∀ n, (plcs X n).length = cnt X n
  | 0 => rfl
  | n + 1 => by
    rw [cnt_snoc, ← plcs_length X n]
    cases h : X.testBit n with
    | true => rw [plcs_one X n h]; simp
    | false => rw [plcs_no X n h]; simp
/-- those below b alone -/
theorem plcs_below (X : Nat) (at_ : Int) : ∀ n, ((plcs X n).filter fun z => decide (z < at_)) = plcs X (min n at_.toNat)
  | 0 => by simp [plcs_zero]
  | n + 1 => by
    have ih := plcs_below X at_ n
    by_cases ha : ((n : Nat) : Int) < at_
    · have e : min (n + 1) at_.toNat = min n at_.toNat + 1 := by omega
      have e2 : min n at_.toNat = n := by omega
      rw [e, e2]
      rw [e2] at ih
      cases h : X.testBit n with
      | true => rw [plcs_one X n h, List.filter_append, ih]; simp [ha]
      | false => rw [plcs_no X n h, ih]
    · have e : min (n + 1) at_.toNat = min n at_.toNat := by omega
      rw [e]
      cases h : X.testBit n with
      | true => rw [plcs_one X n h, List.filter_append, ih]; simp [ha]
      | false => rw [plcs_no X n h, ih]
/-! the first and the last one -/
theorem plcs_first (X k : Nat) (hb : X.testBit k = true) (hl : ∀ j, j < k → X.testBit j = false) : ∀ n, k < n → (plcs X n).getD 0 0 = (k : Int) ∧ 0 < (plcs X n).length := by
  have h0 : ∀ n, n ≤ k → plcs X n = [] := by
    intro n
    induction n with
    | zero => intro _; rfl
    | succ n ih => intro h; rw [plcs_no X n (hl n (by omega)), ih (by omega)]
  intro n
  induction n with
  | zero => intro h; omega
  | succ n ih =>
    intro h
    by_cases hk : k = n
    · subst hk
      rw [plcs_one X k hb, h0 k (Nat.le_refl _)]
      exact ⟨rfl, by simp⟩
    · obtain ⟨h1, h2⟩ := ih (by omega)
      cases hn : X.testBit n with
      | true =>
        rw [plcs_one X n hn]
        refine ⟨?_, by simp⟩
        rw [List.getD_eq_getElem?_getD, List.getElem?_append_left h2, ← List.getD_eq_getElem?_getD, h1]
      | false => rw [plcs_no X n hn]; exact ⟨h1, h2⟩
theorem plcs_none (X : Nat) (hl : ∀ j, X.testBit j = false) : ∀ n, plcs X n = []
  | 0 => rfl
  | n + 1 => by rw [plcs_no X n (hl n), plcs_none X hl n]
theorem plcs_last (X k : Nat) (hb : X.testBit k = true) : ∀ n, k < n → (∀ j, k < j → j < n → X.testBit j = false) → plcs X n = plcs X k ++ [(k : Int)] := by
  intro n
  induction n with
  | zero => intro h; omega
  | succ n ih =>
    intro h hl
    by_cases hk : k = n
    · subst hk
      exact plcs_one X k hb
    · rw [plcs_no X n (hl n (by omega) (by omega)), ih (by omega) (fun j h1 h2 => hl j h1 (by omega))]
theorem ctz_bits (X : Nat) (h0 : X ≠ 0) (hX : X < 2 ^ 64) : Lib.ctz 64 X < 64 ∧ X.testBit (Lib.ctz 64 X) = true ∧ ∀ j, j < Lib.ctz 64 X → X.testBit j = false := by
  have e : Lib.ctz 64 X = Lib.ctzFrom 64 X := by unfold Lib.ctz; rw [if_neg h0]
  rw [e]
  obtain ⟨m, h1, h2⟩ := Lib.ctzFrom_spec 64 X (by omega) hX
  generalize Lib.ctzFrom 64 X = k at *
  subst h1
  refine ⟨h2, ?_, ?_⟩
  · rw [Nat.mul_comm, Nat.testBit_mul_two_pow, Nat.sub_self, Nat.testBit_zero]
    simp
  · intro j hj
    rw [Nat.mul_comm, Nat.testBit_mul_two_pow]
    simp; omega
theorem bitLen_bits (X : Nat) (h0 : X ≠ 0) (hX : X < 2 ^ 64) : 1 ≤ Lib.bitLen X ∧ Lib.bitLen X ≤ 64 ∧ X.testBit (Lib.bitLen X - 1) = true ∧ ∀ j, Lib.bitLen X - 1 < j → X.testBit j = false := by
  obtain ⟨h1, h2, h3⟩ := Lib.bitLenAux_bounds 64 X hX h0
  have h4 : Lib.bitLen X ≤ 64 := Lib.bitLen_le X 64 (by omega) hX
  change 1 ≤ Lib.bitLen X at h1
  change 2 ^ (Lib.bitLen X - 1) ≤ X at h2
  change X < 2 ^ Lib.bitLen X at h3
  generalize Lib.bitLen X = L at *
  refine ⟨h1, h4, ?_, ?_⟩
  · have e : L = (L - 1) + 1 := by omega
    rw [e] at h3
    rw [Nat.testBit_eq_decide_div_mod_eq]
    have h5 : X / 2 ^ (L - 1) = 1 := by
      rw [Nat.pow_succ] at h3
      have hp := Nat.two_pow_pos (L - 1)
      have h6 : 1 ≤ X / 2 ^ (L - 1) := (Nat.le_div_iff_mul_le hp).2 (by omega)
      have h7 : X / 2 ^ (L - 1) < 2 := (Nat.div_lt_iff_lt_mul hp).2 (by omega)
      omega
    rw [h5]; decide
  · intro j hj
    exact Nat.testBit_lt_two_pow (Nat.lt_of_lt_of_le h3 (Nat.pow_le_pow_right (by decide) (by omega)))
theorem plcs_high (X : Nat) (hX : X < 2 ^ 64) : ∀ d, plcs X (64 + d) = plcs X 64
  | 0 => rfl
  | d + 1 => by rw [show 64 + (d + 1) = 64 + d + 1 by omega, plcs_no X (64 + d) (Nat.testBit_lt_two_pow (Nat.lt_of_lt_of_le hX (Nat.pow_le_pow_right (by decide) (by omega)))), plcs_high X hX d]
theorem plcs_low (X : Nat) (hX : X < 2 ^ 64) (h0 : X ≠ 0) : 0 < (plcs X 64).length ∧ (plcs X 64).getD 0 0 = ((Lib.ctz 64 X : Nat) : Int) := by
  obtain ⟨h1, h2, h3⟩ := ctz_bits X h0 hX
  obtain ⟨h4, h5⟩ := plcs_first X _ h2 h3 64 h1
  exact ⟨h5, h4⟩
theorem plcs_top (X : Nat) (hX : X < 2 ^ 64) (h0 : X ≠ 0) : (plcs X 64).getD ((plcs X 64).length - 1) 0 = ((Lib.bitLen X : Nat) : Int) - 1 := by
  obtain ⟨h1, h2, h3, h4⟩ := bitLen_bits X h0 hX
  have h5 := plcs_last X _ h3 64 (by omega) (fun j h _ => h4 j h)
  rw [h5]
  rw [List.length_append, List.length_singleton, Nat.add_sub_cancel, List.getD_eq_getElem?_getD, List.getElem?_append_right (Nat.le_refl _), Nat.sub_self]
  simp
  omega
theorem plcs_nil (n : Nat) : plcs 0 n = [] := plcs_none 0 (fun j => Nat.zero_testBit j) n
end Go.Proofs.YtohmnjejchppkaaDoor
/- Package sizes: the classes' numbers; what Words, Class, Pages return, and the document's. No condition but that the tables lie as the start lays them. -/
namespace Go.Proofs.YtohmnjejchppkaaDoor
open Go.RowKit
set_option linter.unusedVariables false

/-- how many words a class's cells have -/
def widF (j : Nat) : Int := ([2, 3, 4, 6, 8, 12, 16, 32] : List Int).getD j 0
def Wid (w : World) : Prop := ∀ j, j < 8 → w.cell? ⟨0, j, none⟩ = some (.int .i64 (widF j))
theorem Wid.quiet {w w' : World} (h : Wid w) (q : Quiet w w') : Wid w' := fun j hj => (q.cell _).trans (h j hj)
theorem Wid.lt {w : World} (h : Wid w) : 0 < w.heap.size := World.block_lt_of_cell? w _ (h 0 (by decide))
theorem Wid.below {B : Nat} {w w' : World} (h : Wid w) (hb : Below B w w') (hl : 0 < B) : Wid w' := fun j hj => (hb.cell (p := ⟨0, j, none⟩) hl).trans (h j hj)
theorem Wid.grew {w w' : World} (h : Wid w) (hb : Below w.heap.size w w') : Wid w' := h.below hb h.lt
/-- is it a class? -/
def clsB (c : Int) : Bool := decide (0 ≤ c ∧ c < 8)
theorem clsB_yes {c : Int} (h : clsB c = true) : ∃ k : Nat, c = (k : Int) ∧ k < 8 := by
  have : 0 ≤ c ∧ c < 8 := by simpa [clsB] using h
  exact ⟨c.toNat, by omega, by omega⟩
theorem clsB_no {c : Int} (h : clsB c = false) : c < 0 ∨ 8 ≤ c := by
  have : ¬ (0 ≤ c ∧ c < 8) := by simpa [clsB] using h
  omega
def widI (c : Int) : Int := if clsB c then widF c.toNat else 0
def errI (c : Int) : Int := if clsB c then 0 else 1
theorem widF_bd (k : Nat) (h : k < 8) : 2 ≤ widF k ∧ widF k ≤ 32 := by
  have : ∀ k : Fin 8, 2 ≤ widF k.val ∧ widF k.val ≤ 32 := by decide
  exact this ⟨k, h⟩

set_option maxRecDepth 100000 in
set_option maxHeartbeats 400000 in
theorem words_anySz (c : Int) (w : World) (hW : Wid w) :
    Calls Tryd.prog 61 #[.int .i64 c] w fun e w' => e = .returned (.tuple #[.int .i64 (widI c), .int .i64 (errI c)]) ∧ w' = w := by
  cases hc : clsB c with
  | true =>
    have e1 : widI c = widF c.toNat := by unfold widI; rw [hc]; rfl
    have e2 : errI c = 0 := by unfold errI; rw [hc]; rfl
    obtain ⟨k, rfl, hk⟩ := clsB_yes hc
    rw [Int.toNat_natCast] at e1
    have h := hW k hk
    rw [e1, e2]
    generalize widF k = V at *
    clear e1 e2 hc
    have k8 : (k : Int) < 8 := by omega
    go_enter Tryd.func61, Tryd.ntmps61
    go_wp2
    go_ret2
    exact ⟨rfl, rfl⟩
  | false =>
    have e1 : widI c = 0 := by unfold widI; rw [hc]; rfl
    have e2 : errI c = 1 := by unfold errI; rw [hc]; rfl
    rw [e1, e2]
    clear e1 e2
    rcases clsB_no hc with h | h
    · clear hc
      go_enter Tryd.func61, Tryd.ntmps61
      go_wp2
      go_ret2
      exact ⟨rfl, rfl⟩
    · clear hc
      have h0 : 0 ≤ c := by omega
      go_enter Tryd.func61, Tryd.ntmps61
      go_wp2
      go_ret2
      exact ⟨rfl, rfl⟩

set_option maxRecDepth 100000 in
set_option maxHeartbeats 1000000 in
theorem rwords_anySz (c : Int) (w : World) :
    Calls Tryd.prog 30 #[.int .i64 c] w fun e w' => e = .returned (.tuple #[.int .i64 (widI c), .int .i64 (errI c)]) ∧ Below w.heap.size w w' := by
  have hnew : ∀ k, k < 8 → (w.alloc (.cells #[.int .i64 2, .int .i64 3, .int .i64 4, .int .i64 6, .int .i64 8, .int .i64 12, .int .i64 16, .int .i64 32] 3)).cell? ⟨w.heap.size, k, none⟩ = some (.int .i64 (widF k)) := by
    intro k hk
    rw [World.cell?_alloc_new]
    have : ∀ k : Fin 8, (#[Value.int .i64 2, .int .i64 3, .int .i64 4, .int .i64 6, .int .i64 8, .int .i64 12, .int .i64 16, .int .i64 32] : Array Value)[k.val]? = some (Value.int .i64 (widF k.val)) := by
      intro k
      match k with
      | 0 => rfl
      | 1 => rfl
      | 2 => rfl
      | 3 => rfl
      | 4 => rfl
      | 5 => rfl
      | 6 => rfl
      | 7 => rfl
    exact this ⟨k, hk⟩
  have hb : Below w.heap.size w (w.alloc (.cells #[.int .i64 2, .int .i64 3, .int .i64 4, .int .i64 6, .int .i64 8, .int .i64 12, .int .i64 16, .int .i64 32] 3)) := (Below.refl _ _).alloc (Nat.le_refl _) _
  cases hc : clsB c with
  | true =>
    have e1 : widI c = widF c.toNat := by unfold widI; rw [hc]; rfl
    have e2 : errI c = 0 := by unfold errI; rw [hc]; rfl
    obtain ⟨k, rfl, hk⟩ := clsB_yes hc
    rw [Int.toNat_natCast] at e1
    have h := hnew k hk
    rw [e1, e2]
    generalize widF k = V at *
    clear e1 e2 hc hnew
    have k8 : (k : Int) < 8 := by omega
    go_enter Tryd.func30, Tryd.ntmps30
    go_wp2
    go_ret2
    exact ⟨rfl, hb⟩
  | false =>
    have e1 : widI c = 0 := by unfold widI; rw [hc]; rfl
    have e2 : errI c = 1 := by unfold errI; rw [hc]; rfl
    rw [e1, e2]
    clear e1 e2 hnew
    rcases clsB_no hc with h | h
    · clear hc
      go_enter Tryd.func30, Tryd.ntmps30
      go_wp2
      go_ret2
      exact ⟨rfl, hb⟩
    · clear hc
      have h0 : 0 ≤ c := by omega
      go_enter Tryd.func30, Tryd.ntmps30
      go_wp2
      go_ret2
      exact ⟨rfl, hb⟩

/-- the least class whose cells have so many words, and what is told of one that there isn't -/
def clV (n : Int) : Int := if n < 1 then 0 else if n ≤ 2 then 0 else if n ≤ 3 then 1 else if n ≤ 4 then 2 else if n ≤ 6 then 3 else if n ≤ 8 then 4 else if n ≤ 12 then 5 else if n ≤ 16 then 6 else if n ≤ 32 then 7 else 0
def clE (n : Int) : Int := if n < 1 then 1 else if n ≤ 32 then 0 else 3
theorem cl_hit (n : Int) (k : Nat) (h1 : 1 ≤ n) (hk : k < 8) (h : n ≤ widF k) (hl : ∀ j, j < k → widF j < n) : clV n = (k : Int) ∧ clE n = 0 := by
  have hl0 := hl (k - 1)
  have e : ∀ j : Fin 8, widF j.val = ([2, 3, 4, 6, 8, 12, 16, 32] : List Int).getD j.val 0 := fun _ => rfl
  match k, hk with
  | 0, _ => unfold clV clE; rw [show widF 0 = 2 from rfl] at h; constructor <;> (repeat' split) <;> omega
  | 1, _ => have := hl0 (by omega); rw [show widF (1 - 1) = 2 from rfl] at this; rw [show widF 1 = 3 from rfl] at h; unfold clV clE; constructor <;> (repeat' split) <;> omega
  | 2, _ => have := hl0 (by omega); rw [show widF (2 - 1) = 3 from rfl] at this; rw [show widF 2 = 4 from rfl] at h; unfold clV clE; constructor <;> (repeat' split) <;> omega
  | 3, _ => have := hl0 (by omega); rw [show widF (3 - 1) = 4 from rfl] at this; rw [show widF 3 = 6 from rfl] at h; unfold clV clE; constructor <;> (repeat' split) <;> omega
  | 4, _ => have := hl0 (by omega); rw [show widF (4 - 1) = 6 from rfl] at this; rw [show widF 4 = 8 from rfl] at h; unfold clV clE; constructor <;> (repeat' split) <;> omega
  | 5, _ => have := hl0 (by omega); rw [show widF (5 - 1) = 8 from rfl] at this; rw [show widF 5 = 12 from rfl] at h; unfold clV clE; constructor <;> (repeat' split) <;> omega
  | 6, _ => have := hl0 (by omega); rw [show widF (6 - 1) = 12 from rfl] at this; rw [show widF 6 = 16 from rfl] at h; unfold clV clE; constructor <;> (repeat' split) <;> omega
  | 7, _ => have := hl0 (by omega); rw [show widF (7 - 1) = 16 from rfl] at this; rw [show widF 7 = 32 from rfl] at h; unfold clV clE; constructor <;> (repeat' split) <;> omega
theorem cl_miss (n : Int) (h1 : 1 ≤ n) (hl : ∀ j, j < 8 → widF j < n) : clV n = 0 ∧ clE n = 3 := by
  have := hl 7 (by omega)
  rw [show widF 7 = 32 from rfl] at this
  unfold clV clE
  constructor <;> (repeat' split) <;> omega
theorem cl_low (n : Int) (h : n < 1) : clV n = 0 ∧ clE n = 1 := by
  unfold clV clE
  rw [if_pos h, if_pos h]
  exact ⟨rfl, rfl⟩

set_option maxRecDepth 100000 in
set_option maxHeartbeats 1000000 in
theorem rclass_any (n : Int) (w : World) :
    Calls Tryd.prog 7 #[.int .i64 n] w fun e w' => e = .returned (.tuple #[.int .i64 (clV n), .int .i64 (clE n)]) ∧ Below w.heap.size w w' := by
  by_cases h1 : n < 1
  · obtain ⟨e1, e2⟩ := cl_low n h1
    rw [e1, e2]
    clear e1 e2
    go_enter Tryd.func7, Tryd.ntmps7
    go_wp2
    go_ret2
    exact ⟨rfl, Below.refl _ _⟩
  · have hhit := Lib.hid (cl_hit n)
    have hmiss := Lib.hid (cl_miss n (by omega))
    generalize clV n = V at *
    generalize clE n = E at *
    have RW := Lib.hid (fun c W => rwords_anySz c W)
    go_enter Tryd.func7, Tryd.ntmps7
    go_wp2
    go_loopw [4] (fun i wr => ∃ k : Nat, k ≤ 8 ∧ i = .int .i64 k ∧ Hid (∀ j, j < k → widF j < n) ∧ Below w.heap.size w wr) (fun i _ => 8 - (intOf i).toNat)
    case atStart => exact ⟨0, by omega, rfl, by unfold Hid; omega, Below.refl _ _⟩
    case round =>
      obtain ⟨k, hk, rfl, hl, hb⟩ := hrel
      by_cases hlt : (k : Int) < 8
      · have R := Lib.hid (fun W => RW.out (k : Int) W)
        have hw : widI (k : Int) = widF k := by unfold widI clsB; rw [Int.toNat_natCast, if_pos (by simp; omega)]
        have he : errI (k : Int) = 0 := by unfold errI clsB; rw [if_pos (by simp; omega)]
        rw [hw, he] at R
        have hsz := hb.size
        by_cases hn : n ≤ widF k
        · obtain ⟨eV, eE⟩ := hhit.out k (by omega) (by omega) hn hl.out
          subst eV eE
          clear hw he
          generalize widF k = q at *
          have hn2 : ¬ q < n := by omega
          go_wp2_with fail
          refine (R.out _).mono ?_
          rintro e w2 ⟨rfl, hb2⟩
          go_wp2
          go_ret2
          exact ⟨rfl, hb.trans (hb2.mono hsz)⟩
        · have hl2 : Hid (∀ j, j < k + 1 → widF j < n) := by
            unfold Hid
            intro j hj
            by_cases hjk : j < k
            · exact hl.out j hjk
            · have : j = k := by omega
              subst this; omega
          clear hw he
          generalize widF k = q at *
          have hn2 : q < n := by omega
          go_wp2_with fail
          refine (R.out _).mono ?_
          rintro e w2 ⟨rfl, hb2⟩
          go_wp2
          go_roundw
          case rel => exact ⟨k + 1, by omega, by go_num, hl2, hb.trans (hb2.mono hsz)⟩
          case measure => simp [intOf]; omega
      · obtain rfl : k = 8 := by omega
        obtain ⟨eV, eE⟩ := hmiss.out hl.out
        subst eV eE
        go_wp2
        go_ret2
        exact ⟨rfl, hb⟩

theorem ix0 (w : World) : (Instr.index 146 (.agg #[.int .i64 2, .int .i64 3, .int .i64 4, .int .i64 6, .int .i64 8, .int .i64 12, .int .i64 16, .int .i64 32]) (.int .i64 0)).run Tryd.prog w = .ok (.int .i64 2) w := by kernel_rfl
theorem ix1 (w : World) : (Instr.index 146 (.agg #[.int .i64 2, .int .i64 3, .int .i64 4, .int .i64 6, .int .i64 8, .int .i64 12, .int .i64 16, .int .i64 32]) (.int .i64 1)).run Tryd.prog w = .ok (.int .i64 3) w := by kernel_rfl
theorem ix2 (w : World) : (Instr.index 146 (.agg #[.int .i64 2, .int .i64 3, .int .i64 4, .int .i64 6, .int .i64 8, .int .i64 12, .int .i64 16, .int .i64 32]) (.int .i64 2)).run Tryd.prog w = .ok (.int .i64 4) w := by kernel_rfl
theorem ix3 (w : World) : (Instr.index 146 (.agg #[.int .i64 2, .int .i64 3, .int .i64 4, .int .i64 6, .int .i64 8, .int .i64 12, .int .i64 16, .int .i64 32]) (.int .i64 3)).run Tryd.prog w = .ok (.int .i64 6) w := by kernel_rfl
theorem ix4 (w : World) : (Instr.index 146 (.agg #[.int .i64 2, .int .i64 3, .int .i64 4, .int .i64 6, .int .i64 8, .int .i64 12, .int .i64 16, .int .i64 32]) (.int .i64 4)).run Tryd.prog w = .ok (.int .i64 8) w := by kernel_rfl
theorem ix5 (w : World) : (Instr.index 146 (.agg #[.int .i64 2, .int .i64 3, .int .i64 4, .int .i64 6, .int .i64 8, .int .i64 12, .int .i64 16, .int .i64 32]) (.int .i64 5)).run Tryd.prog w = .ok (.int .i64 12) w := by kernel_rfl
theorem ix6 (w : World) : (Instr.index 146 (.agg #[.int .i64 2, .int .i64 3, .int .i64 4, .int .i64 6, .int .i64 8, .int .i64 12, .int .i64 16, .int .i64 32]) (.int .i64 6)).run Tryd.prog w = .ok (.int .i64 16) w := by kernel_rfl
theorem ix7 (w : World) : (Instr.index 146 (.agg #[.int .i64 2, .int .i64 3, .int .i64 4, .int .i64 6, .int .i64 8, .int .i64 12, .int .i64 16, .int .i64 32]) (.int .i64 7)).run Tryd.prog w = .ok (.int .i64 32) w := by kernel_rfl
/-- how many pages an object has for itself, and what is told of one that has none -/
def pgV (n : Int) : Int := if n < 1 then 0 else if 256 < n then 0 else if n ≤ 32 then 0 else (n + 63) / 64
def pgE (n : Int) : Int := if n < 1 then 1 else if 256 < n then 3 else 0
theorem pg_low (n : Int) (h : n < 1) : pgV n = 0 ∧ pgE n = 1 := by unfold pgV pgE; rw [if_pos h, if_pos h]; exact ⟨rfl, rfl⟩
theorem pg_big (n : Int) (h : 256 < n) : pgV n = 0 ∧ pgE n = 3 := by unfold pgV pgE; rw [if_neg (by omega), if_pos h, if_neg (by omega), if_pos h]; exact ⟨rfl, rfl⟩
theorem pg_small (n : Int) (h : 1 ≤ n) (h2 : n ≤ 32) : pgV n = 0 ∧ pgE n = 0 := by unfold pgV pgE; rw [if_neg (by omega), if_neg (by omega), if_pos h2, if_neg (by omega), if_neg (by omega)]; exact ⟨rfl, rfl⟩
theorem pg_mid (n : Int) (h : 32 < n) (h2 : n ≤ 256) : pgV n = (n + 63) / 64 ∧ pgE n = 0 := by unfold pgV pgE; rw [if_neg (by omega), if_neg (by omega), if_neg (by omega), if_neg (by omega), if_neg (by omega)]; exact ⟨rfl, rfl⟩

set_option maxRecDepth 100000 in
set_option maxHeartbeats 400000 in
theorem pages_any (n : Int) (w : World) :
    Calls Tryd.prog 51 #[.int .i64 n] w fun e w' => e = .returned (.tuple #[.int .i64 (pgV n), .int .i64 (pgE n)]) ∧ w' = w := by
  by_cases h1 : n < 1
  · obtain ⟨e1, e2⟩ := pg_low n h1
    rw [e1, e2]; clear e1 e2
    go_enter Tryd.func51, Tryd.ntmps51
    go_wp2; go_ret2; exact ⟨rfl, rfl⟩
  · by_cases h2 : 256 < n
    · obtain ⟨e1, e2⟩ := pg_big n h2
      rw [e1, e2]; clear e1 e2
      go_enter Tryd.func51, Tryd.ntmps51
      go_wp2; go_ret2; exact ⟨rfl, rfl⟩
    · by_cases h3 : n ≤ 32
      · obtain ⟨e1, e2⟩ := pg_small n (by omega) h3
        rw [e1, e2]; clear e1 e2
        go_enter Tryd.func51, Tryd.ntmps51
        go_wp2; go_ret2; exact ⟨rfl, rfl⟩
      · obtain ⟨e1, e2⟩ := pg_mid n (by omega) (by omega)
        rw [e1, e2]; clear e1 e2
        go_enter Tryd.func51, Tryd.ntmps51
        go_wp2; go_ret2
        refine ⟨ret_two ?_ rfl, rfl⟩
        omega
set_option maxRecDepth 100000 in
set_option maxHeartbeats 400000 in
theorem rpages_any (n : Int) (w : World) :
    Calls Tryd.prog 6 #[.int .i64 n] w fun e w' => e = .returned (.tuple #[.int .i64 (pgV n), .int .i64 (pgE n)]) ∧ w' = w := by
  by_cases h1 : n < 1
  · obtain ⟨e1, e2⟩ := pg_low n h1
    rw [e1, e2]; clear e1 e2
    go_enter Tryd.func6, Tryd.ntmps6
    go_wp2; go_ret2; exact ⟨rfl, rfl⟩
  · by_cases h2 : 256 < n
    · obtain ⟨e1, e2⟩ := pg_big n h2
      rw [e1, e2]; clear e1 e2
      go_enter Tryd.func6, Tryd.ntmps6
      go_wp2; go_ret2; exact ⟨rfl, rfl⟩
    · by_cases h3 : n ≤ 32
      · obtain ⟨e1, e2⟩ := pg_small n (by omega) h3
        rw [e1, e2]; clear e1 e2
        go_enter Tryd.func6, Tryd.ntmps6
        go_wp2; go_ret2; exact ⟨rfl, rfl⟩
      · obtain ⟨e1, e2⟩ := pg_mid n (by omega) (by omega)
        rw [e2]; clear e2
        have E1 := Lib.hid e1
        clear e1
        generalize pgV n = V at *
        go_enter Tryd.func6, Tryd.ntmps6
        go_wp2
        go_loopw [4] (fun i wr => ∃ k : Nat, 1 ≤ k ∧ k ≤ 4 ∧ ((k : Int) - 1) * 64 < n ∧ i = .int .i64 k ∧ wr = w) (fun i _ => 4 - (intOf i).toNat)
        case atStart => exact ⟨1, by omega, by omega, by omega, rfl, rfl⟩
        case round =>
          obtain ⟨k, hk1, hk, hn, rfl, rfl⟩ := hrel
          by_cases hlt : (k : Int) * 64 < n
          · go_wp2
            go_roundw
            case rel => exact ⟨k + 1, by omega, by omega, by omega, by go_num, by first | rfl | trivial⟩
            case measure => simp [intOf]; omega
          · go_wp2
            go_ret2
            exact ⟨ret_two (by rw [E1.out]; omega) rfl, rfl⟩
end Go.Proofs.YtohmnjejchppkaaDoor
/- Package objects: the machine that builds an object: NewBuild, Step, Over. Condition: the arena, its port and the machine are there; the words lie within the arena. -/
namespace Go.Proofs.YtohmnjejchppkaaDoor
open Go.RowKit
set_option linter.unusedVariables false
def BuildAt (w : World) (m : Nat) (at' : Nat) (hd left : Int) : Prop := Blk w m #[.int .i64 (at' : Int), .int .u64 hd, .int .i64 left] 91
/-- may an object of n words begin there? -/
def allowB (P T R at' n : Int) : Bool := decide (0 ≤ (placeI P T R at').1) && (if pgE n = 0 then (if pgV n = 0 then decide ((placeI P T R at').2 + n ≤ 64) else decide ((placeI P T R at').2 = 0) && decide ((placeI P T R at').1 + pgV n ≤ P)) else false)
/-- the machine, the arena and the port -/
structure BuS (w0 : World) (B a c p m : Nat) (at' : Nat) (hd left : Int) (cs : List Int) (xs : List Value) (n : Nat) (K : List Nat) (who : Int) (o : Bool) (w : World) : Prop where
  mach : BuildAt w m at' hd left
  arx : Arx w B a c cs xs n K
  port : PortAt w p a who o
  touch : Touch (fun b => b = p ∨ b = m ∨ (B ≤ b ∧ b ∉ K)) w0 w
section
variable {w0 w w' : World} {B a c p m : Nat} {at' : Nat} {hd left : Int} {cs : List Int} {xs : List Value} {n : Nat} {K : List Nat} {who : Int} {o : Bool}
theorem BuS.start (hM : BuildAt w m at' hd left) (hA : Arx w B a c cs xs n K) (hP : PortAt w p a who o) : BuS w B a c p m at' hd left cs xs n K who o w := ⟨hM, hA, hP, Touch.refl _ _⟩
theorem BuS.grew (h : BuS w0 B a c p m at' hd left cs xs n K who o w) (hb : Below w.heap.size w w') : BuS w0 B a c p m at' hd left cs xs n K who o w' :=
  ⟨h.mach.grew hb, h.arx.grew hb, h.port.grew hb, h.touch.trans (Touch.of hb)⟩
theorem BuS.quiet (h : BuS w0 B a c p m at' hd left cs xs n K who o w) (hq : Quiet w w') : BuS w0 B a c p m at' hd left cs xs n K who o w' := h.grew hq.below
theorem BuS.drew (h : BuS w0 B a c p m at' hd left cs xs n K who o w) : BuS w0 B a c p m at' hd left cs xs n K who o w.drew := h.quiet ⟨1, rfl⟩
theorem BuS.cells (h : BuS w0 B a c p m at' hd left cs xs n K who o w) : w.cell? ⟨m, 0, none⟩ = some (.int .i64 (at' : Int)) ∧ w.cell? ⟨m, 1, none⟩ = some (.int .u64 hd) ∧ w.cell? ⟨m, 2, none⟩ = some (.int .i64 left) := ⟨h.mach.val 0 rfl, h.mach.val 1 rfl, h.mach.val 2 rfl⟩
theorem BuS.leftF (h : BuS w0 B a c p m at' hd left cs xs n K who o w) : w.frozen? ⟨m, 2, none⟩ = false := h.mach.frozen 2
theorem BuS.setLeft (h : BuS w0 B a c p m at' hd left cs xs n K who o w) (hp : m ≠ p) (hm : m ∈ K) (x : Int) : BuS w0 B a c p m at' hd x cs xs n K who o (w.setCell ⟨m, 2, none⟩ (.int .i64 x)) :=
  have hT : Touch (fun b => b = m) w (w.setCell ⟨m, 2, none⟩ (.int .i64 x)) := (Touch.refl (fun b => b = m) w).setCell (p := ⟨m, 2, none⟩) rfl _
  ⟨h.mach.set 2 _, h.arx.touch hT (fun _ e => e ▸ hm), h.port.touch hT (Ne.symm hp), h.touch.trans (hT.mono fun _ _ e => .inr (.inl e))⟩
set_option maxHeartbeats 400000 in
theorem bover_any (h : BuildAt w m at' hd left) :
    Calls Tryd.prog 17 #[.pointer (some ⟨m, 0, none⟩)] w fun e w' => e = .returned (.bool (left == 0)) ∧ Quiet w w' := by
  have c2 := h.val 2 rfl
  go_enter Tryd.func17, Tryd.ntmps17
  go_wp2
  go_ret
  exact ⟨rfl, Quiet.refl _⟩
theorem bover_nil (w : World) :
    Calls Tryd.prog 17 #[.pointer none] w fun e w' => e = .returned (.bool true) ∧ Quiet w w' := by
  go_enter Tryd.func17, Tryd.ntmps17
  go_wp2
  go_ret
  exact ⟨rfl, Quiet.refl _⟩
theorem BuS.over (h : BuS w0 B a c p m at' hd left cs xs n K who o w) :
    Calls Tryd.prog 17 #[.pointer (some ⟨m, 0, none⟩)] w fun e w' => e = .returned (.bool (left == 0)) ∧ BuS w0 B a c p m at' hd left cs xs n K who o w' :=
  (bover_any h.mach).mono fun _ _ ⟨he, hq⟩ => ⟨he, h.quiet hq⟩
theorem BuS.open' (h : BuS w0 B a c p m at' hd left cs xs n K who o w) :
    Calls Tryd.prog 37 #[.pointer (some ⟨p, 0, none⟩)] w fun e w' => e = .returned (.bool o) ∧ BuS w0 B a c p m at' hd left cs xs n K who o w' :=
  (open_at p a who o w h.port).mono fun _ _ ⟨he, hq⟩ => ⟨he, h.quiet hq⟩
theorem BuS.grant (h : BuS w0 B a c p m at' hd left cs xs n K who o w) (hp : m ≠ p) (hk : p ∈ K) :
    Calls Tryd.prog 18 #[.pointer (some ⟨p, 0, none⟩)] w fun e w' => (∃ v, e = .returned v) ∧ BuS w0 B a c p m at' hd left cs xs n K who true w' :=
  (grant_at p a who o w h.port).mono fun _ _ ⟨he, hP, hT⟩ => ⟨he, h.mach.touch hT hp, h.arx.touch hT (fun _ e => e ▸ hk), hP, h.touch.trans (hT.mono fun _ _ e => .inl e)⟩
theorem BuS.store {i : Nat} (v : Int) (h : BuS w0 B a c p m at' hd left cs xs n K who true w) (hmp : m ≠ p) (hm : m ∈ K) (hp : p ∈ K) (hn : n < 1000000) (hi : i < cs.length) :
    Calls Tryd.prog 38 #[.pointer (some ⟨p, 0, none⟩), .int .i64 i, .int .u64 v] w fun e w' => (∃ u, e = .returned u) ∧
      BuS w0 B a c p m at' hd left (cs.set i v) (xs ++ accV who 2 i 0 v (cs.getD i 0) v) (n + 1) K who false w' := by
  refine (store_x v h.arx h.port hp hn hi).mono fun e w' ⟨he, h1, h2, h3⟩ => ⟨he, h.mach.touch h3 (fun r => r.elim hmp (fun r => r.2 hm)), h1, h2, h.touch.trans (h3.mono fun _ _ hr => hr.elim .inl (fun r => .inr (.inr r)))⟩
theorem ofield_any (x i : Int) (w : World) : Calls Tryd.prog 39 #[.int .i64 x, .int .i64 i] w fun e w' => e = .returned (.int .i64 (wrap64 (wrap64 (x + 1) + i))) ∧ w' = w := by
  go_enter Tryd.func39, Tryd.ntmps39
  go_wp2
  go_ret
  exact ⟨rfl, rfl⟩
end
end Go.Proofs.YtohmnjejchppkaaDoor
/- Package objects: NewBuild and Step. Condition: the arena, its port and the machine are there; the words lie within the arena. -/
namespace Go.Proofs.YtohmnjejchppkaaDoor
open Go.RowKit
set_option linter.unusedVariables false
theorem place_bdO (P T R x : Int) : -1 ≤ (placeI P T R x).1 ∧ (placeI P T R x).1 ≤ 31 ∧ -1 ≤ (placeI P T R x).2 ∧ (placeI P T R x).2 ≤ 63 := by
  unfold placeI
  cases h : heapB P T R x with
  | false => simp
  | true =>
    unfold heapB at h
    rw [Bool.and_eq_true] at h
    have hr := right_of h.1
    have hi : baseI P T R ≤ x ∧ x ≤ baseI P T R + 64 * P - 1 := by simpa [inB] using h.2
    have hp := hr.1
    simp only [if_true]
    omega
theorem pg_bdO (n : Int) : 0 ≤ pgV n ∧ pgV n ≤ 4 := by
  unfold pgV
  split
  · omega
  · split
    · omega
    · split <;> omega
set_option maxHeartbeats 1000000 in
theorem allowed_any (P T R x n : Int) (w : World) :
    Calls Tryd.prog 35 #[.agg #[.int .i64 P, .int .i64 T, .int .i64 R], .int .i64 x, .int .i64 n] w fun e w' => e = .returned (.bool (allowB P T R x n)) ∧ Below w.heap.size w w' := by
  have PL := Lib.hid (fun W => place_any P T R x W)
  have PG := Lib.hid (fun W => pages_any n W)
  obtain ⟨p1, p2, p3, p4⟩ := place_bdO P T R x
  obtain ⟨q1, q2⟩ := pg_bdO n
  have hn : pgE n = 0 → 1 ≤ n ∧ n ≤ 256 := by
    unfold pgE
    intro h
    split at h
    · cases h
    · split at h
      · cases h
      · omega
  have HA : allowB P T R x n = (decide (0 ≤ (placeI P T R x).1) && (if pgE n = 0 then (if pgV n = 0 then decide ((placeI P T R x).2 + n ≤ 64) else decide ((placeI P T R x).2 = 0) && decide ((placeI P T R x).1 + pgV n ≤ P)) else false)) := rfl
  rw [HA]
  clear HA
  generalize (placeI P T R x).1 = pg at *
  generalize (placeI P T R x).2 = wd at *
  generalize pgV n = V at *
  generalize pgE n = E at *
  by_cases h0 : pg < 0
  · rw [decide_eq_false (show ¬ 0 ≤ pg by omega), Bool.false_and]
    clear hn
    go_enter Tryd.func35, Tryd.ntmps35
    have c0 := (planNew w P T R 54)
    go_wp2_with fail
    refine (PL.out _).mono ?_; rintro e w1 ⟨rfl, hb1⟩
    have c1 := planKeep c0 hb1
    go_wp2_with fail
    refine (PG.out _).mono ?_; rintro e w2 ⟨rfl, rfl⟩
    go_wp2
    go_ret
    exact ⟨rfl, c1.2⟩
  · have h0' : 0 ≤ pg := by omega
    rw [decide_eq_true h0', Bool.true_and]
    by_cases hE : E = 0
    · obtain ⟨n1, n2⟩ := hn hE
      subst hE
      clear hn
      rw [if_pos rfl]
      by_cases hV : V = 0
      · subst hV
        rw [if_pos rfl]
        go_enter Tryd.func35, Tryd.ntmps35
        have c0 := (planNew w P T R 54)
        go_wp2_with fail
        refine (PL.out _).mono ?_; rintro e w1 ⟨rfl, hb1⟩
        have c1 := planKeep c0 hb1
        go_wp2_with fail
        refine (PG.out _).mono ?_; rintro e w2 ⟨rfl, rfl⟩
        go_wp2
        go_ret
        exact ⟨rfl, c1.2⟩
      · have hVb : (V == 0) = false := by simpa using hV
        rw [if_neg hV]
        by_cases hw : wd = 0
        · have hwb : (wd == 0) = true := by simpa using hw
          rw [decide_eq_true hw, Bool.true_and]
          go_enter Tryd.func35, Tryd.ntmps35
          have c0 := (planNew w P T R 54)
          go_wp2_with fail
          refine (PL.out _).mono ?_; rintro e w1 ⟨rfl, hb1⟩
          have c1 := planKeep c0 hb1
          have c2 := planHeld c1
          go_wp2_with fail
          refine (PG.out _).mono ?_; rintro e w2 ⟨rfl, rfl⟩
          go_wp2
          go_ret
          exact ⟨rfl, c1.2⟩
        · have hwb : (wd == 0) = false := by simpa using hw
          rw [decide_eq_false hw, Bool.false_and]
          go_enter Tryd.func35, Tryd.ntmps35
          have c0 := (planNew w P T R 54)
          go_wp2_with fail
          refine (PL.out _).mono ?_; rintro e w1 ⟨rfl, hb1⟩
          have c1 := planKeep c0 hb1
          go_wp2_with fail
          refine (PG.out _).mono ?_; rintro e w2 ⟨rfl, rfl⟩
          go_wp2
          go_ret
          exact ⟨rfl, c1.2⟩
    · have hEb : (E != 0) = true := by simpa using hE
      rw [if_neg hE]
      clear hn
      go_enter Tryd.func35, Tryd.ntmps35
      have c0 := (planNew w P T R 54)
      go_wp2_with fail
      refine (PL.out _).mono ?_; rintro e w1 ⟨rfl, hb1⟩
      have c1 := planKeep c0 hb1
      go_wp2_with fail
      refine (PG.out _).mono ?_; rintro e w2 ⟨rfl, rfl⟩
      go_wp2
      go_ret
      exact ⟨rfl, c1.2⟩
end Go.Proofs.YtohmnjejchppkaaDoor
/- Package objects: NewBuild; the steps of a Build. Condition: the arena, its port and the machine are there; the words lie within the arena. -/
namespace Go.Proofs.YtohmnjejchppkaaDoor
open Go.RowKit
set_option linter.unusedVariables false
structure NbS (w : World) (P T R c k l : Int) (W : World) : Prop where
  pl : Blk W w.heap.size #[.int .i64 P, .int .i64 T, .int .i64 R] 54
  hd : Blk W (w.heap.size + 1) #[.int .i64 c, .int .i64 k, .int .i64 l] 56
  bel : Below w.heap.size w W
theorem NbS.grew {w W W' : World} {P T R c k l : Int} (h : NbS w P T R c k l W) (hb : Below W.heap.size W W') : NbS w P T R c k l W' := ⟨h.pl.grew hb, h.hd.grew hb, h.bel.trans (hb.mono h.bel.size)⟩
theorem NbS.new (w : World) (P T R c k l : Int) : NbS w P T R c k l ((w.alloc (.cells #[.int .i64 P, .int .i64 T, .int .i64 R] 54)).alloc (.cells #[.int .i64 c, .int .i64 k, .int .i64 l] 56)) :=
  ⟨(Blk.new _ _ _).alloc _, Blk.new' (by simp), ((Below.refl _ _).alloc (Nat.le_refl _) _).alloc (by simp) _⟩
theorem NbS.six {w W : World} {P T R c k l : Int} (h : NbS w P T R c k l W) :
    (W.cell? ⟨w.heap.size, 0, none⟩ = some (.int .i64 P) ∧ W.cell? ⟨w.heap.size, 1, none⟩ = some (.int .i64 T) ∧ W.cell? ⟨w.heap.size, 2, none⟩ = some (.int .i64 R)) ∧
    (W.cell? ⟨w.heap.size + 1, 0, none⟩ = some (.int .i64 c) ∧ W.cell? ⟨w.heap.size + 1, 1, none⟩ = some (.int .i64 k) ∧ W.cell? ⟨w.heap.size + 1, 2, none⟩ = some (.int .i64 l)) := ⟨h.pl.three.1, h.hd.three.1⟩
set_option maxHeartbeats 1000000 in
theorem newbuild_form (P T R x c k l : Int) (w : World) (h : headB c k l = false) :
    Calls Tryd.prog 13 #[.agg #[.int .i64 P, .int .i64 T, .int .i64 R], .int .i64 x, .agg #[.int .i64 c, .int .i64 k, .int .i64 l]] w fun e w' => e = .returned (.tuple #[.pointer none, .int .i64 4]) ∧ Below w.heap.size w w' := by
  have EN := Lib.hid (fun W => enc_no c k l W h)
  have hS := NbS.new w P T R c k l
  obtain ⟨⟨a0, a1, a2⟩, d0, d1, d2⟩ := hS.six
  clear h
  go_enter Tryd.func13, Tryd.ntmps13
  go_wp2_with fail
  refine (EN.out _).mono ?_; rintro e w1 ⟨rfl, hb1⟩
  have hS1 := hS.grew hb1
  go_wp2
  go_ret2
  exact ⟨rfl, hS1.bel⟩
def NbPost (x : Nat) (c k l : Int) (w : World) (e : Ending) (w' : World) : Prop :=
  ∃ m, e = .returned (.tuple #[.pointer (some ⟨m, 0, none⟩), .int .i64 0]) ∧ BuildAt w' m x (encH c k l) (l + 1) ∧ w.heap.size ≤ m ∧ Below w.heap.size w w'
set_option maxRecDepth 100000 in
set_option maxHeartbeats 2000000 in
theorem newbuild_addr (P T R x c k l : Int) (w : World) (h : headB c k l = true) (ha : allowB P T R x (l + 1) = false) :
    Calls Tryd.prog 13 #[.agg #[.int .i64 P, .int .i64 T, .int .i64 R], .int .i64 x, .agg #[.int .i64 c, .int .i64 k, .int .i64 l]] w fun e w' => e = .returned (.tuple #[.pointer none, .int .i64 5]) ∧ Below w.heap.size w w' := by
  have EN := Lib.hid (fun W => enc_yes c k l W h)
  have WD := Lib.hid (fun W => words_anyRhead c k l W)
  have hw : wordsV c k l = l + 1 := by unfold wordsV; rw [h]; rfl
  rw [hw] at WD
  have AL := Lib.hid (fun W => allowed_any P T R x (l + 1) W)
  rw [ha] at AL
  have hS := NbS.new w P T R c k l
  obtain ⟨⟨a0, a1, a2⟩, d0, d1, d2⟩ := hS.six
  clear h ha hw
  generalize l + 1 = n at *
  go_enter Tryd.func13, Tryd.ntmps13
  go_wp2_with fail
  refine (EN.out _).mono ?_; rintro e w1 ⟨rfl, hb1⟩
  have hS1 := hS.grew hb1
  clear hS hb1 EN a0 a1 a2 d0 d1 d2
  obtain ⟨⟨a0, a1, a2⟩, d0, d1, d2⟩ := hS1.six
  go_wp2_with fail
  have hS2 := hS1.grew (Quiet.below ⟨1, rfl⟩ : Below w1.heap.size w1 w1.drew)
  go_region_held3 (fun W => (W.cell? ⟨w.heap.size, 0, none⟩ = some (.int .i64 P) ∧ W.cell? ⟨w.heap.size, 1, none⟩ = some (.int .i64 T) ∧ W.cell? ⟨w.heap.size, 2, none⟩ = some (.int .i64 R)) ∧
    (W.cell? ⟨w.heap.size + 1, 0, none⟩ = some (.int .i64 c) ∧ W.cell? ⟨w.heap.size + 1, 1, none⟩ = some (.int .i64 k) ∧ W.cell? ⟨w.heap.size + 1, 2, none⟩ = some (.int .i64 l)))
    (with_reducible exact NbS.six (by assumption))
    (first | (go_at_call 36; refine (WD.out _).mono ?_; rintro e w3 ⟨rfl, hb3⟩; have hS3 := NbS.grew (by assumption) hb3) | (go_at_call 35; refine (AL.out _).mono ?_; rintro e w4 ⟨rfl, hb4⟩; have hS4 := NbS.grew (by assumption) hb4))
  all_goals
    go_wp2
    go_ret2
    exact ⟨rfl, hS4.bel⟩
set_option maxRecDepth 100000 in
set_option maxHeartbeats 2000000 in
theorem newbuild_yes (P T R c k l : Int) (x : Nat) (w : World) (h : headB c k l = true) (ha : allowB P T R x (l + 1) = true) :
    Calls Tryd.prog 13 #[.agg #[.int .i64 P, .int .i64 T, .int .i64 R], .int .i64 (x : Int), .agg #[.int .i64 c, .int .i64 k, .int .i64 l]] w (NbPost x c k l w) := by
  have EN := Lib.hid (fun W => enc_yes c k l W h)
  have WD := Lib.hid (fun W => words_anyRhead c k l W)
  have hw : wordsV c k l = l + 1 := by unfold wordsV; rw [h]; rfl
  rw [hw] at WD
  have AL := Lib.hid (fun W => allowed_any P T R x (l + 1) W)
  rw [ha] at AL
  have hS := NbS.new w P T R c k l
  obtain ⟨⟨a0, a1, a2⟩, d0, d1, d2⟩ := hS.six
  clear h ha hw
  unfold NbPost
  generalize l + 1 = n at *
  generalize encH c k l = H at *
  go_enter Tryd.func13, Tryd.ntmps13
  go_wp2_with fail
  refine (EN.out _).mono ?_; rintro e w1 ⟨rfl, hb1⟩
  have hS1 := hS.grew hb1
  clear hS hb1 EN a0 a1 a2 d0 d1 d2
  obtain ⟨⟨a0, a1, a2⟩, d0, d1, d2⟩ := hS1.six
  go_wp2_with fail
  have hS2 := hS1.grew (Quiet.below ⟨1, rfl⟩ : Below w1.heap.size w1 w1.drew)
  go_region_held3 (fun W => (W.cell? ⟨w.heap.size, 0, none⟩ = some (.int .i64 P) ∧ W.cell? ⟨w.heap.size, 1, none⟩ = some (.int .i64 T) ∧ W.cell? ⟨w.heap.size, 2, none⟩ = some (.int .i64 R)) ∧
    (W.cell? ⟨w.heap.size + 1, 0, none⟩ = some (.int .i64 c) ∧ W.cell? ⟨w.heap.size + 1, 1, none⟩ = some (.int .i64 k) ∧ W.cell? ⟨w.heap.size + 1, 2, none⟩ = some (.int .i64 l)))
    (with_reducible exact NbS.six (by assumption))
    (first | (go_at_call 36; refine (WD.out _).mono ?_; rintro e w3 ⟨rfl, hb3⟩; have hS3 := NbS.grew (by assumption) hb3) | (go_at_call 35; refine (AL.out _).mono ?_; rintro e w4 ⟨rfl, hb4⟩; have hS4 := NbS.grew (by assumption) hb4))
  all_goals
    have hS5 := hS4
    clear hS1 hS2 hS3 hS4 a0 a1 a2 d0 d1 d2
    obtain ⟨⟨a0, a1, a2⟩, d0, d1, d2⟩ := hS5.six
    go_wp2_with fail
    refine (WD.out _).mono ?_; rintro e w6 ⟨rfl, hb6⟩
    have hS6 := hS5.grew hb6
    go_wp2
    go_ret2
    exact ⟨w6.heap.size, rfl, Blk.new _ _ _, hS6.bel.size, hS6.bel.alloc hS6.bel.size _⟩
end Go.Proofs.YtohmnjejchppkaaDoor
/- Package objects: the steps of a Build, access by access. Condition: the arena, its port and the machine are there; the words lie within the arena. -/
namespace Go.Proofs.YtohmnjejchppkaaDoor
open Go.RowKit
set_option linter.unusedVariables false
section
variable {w0 w w' : World} {B a c p m : Nat} {x : Nat} {hd left : Int} {cs : List Int} {xs : List Value} {n : Nat} {K : List Nat} {who : Int} {o : Bool}
theorem bstep_over (h : BuS w0 B a c p m x hd 0 cs xs n K who o w) :
    Calls Tryd.prog 19 #[.pointer (some ⟨m, 0, none⟩), .pointer (some ⟨p, 0, none⟩)] w fun e w' => e = .returned (.bool true) ∧ BuS w0 B a c p m x hd 0 cs xs n K who o w' := by
  go_enter Tryd.func19, Tryd.ntmps19
  go_wp2_with fail
  refine h.over.mono ?_; rintro e w1 ⟨rfl, h1⟩
  go_wp2_with fail
  refine h1.over.mono ?_; rintro e w2 ⟨rfl, h2⟩
  go_wp2
  go_ret
  exact ⟨rfl, h2⟩
theorem bstep_shut (h : BuS w0 B a c p m x hd (left + 1) cs xs n K who false w) (hl : 0 ≤ left) :
    Calls Tryd.prog 19 #[.pointer (some ⟨m, 0, none⟩), .pointer (some ⟨p, 0, none⟩)] w fun e w' => e = .returned (.bool false) ∧ BuS w0 B a c p m x hd (left + 1) cs xs n K who false w' := by
  have e0 : (left + 1 == 0) = false := by simp; omega
  go_enter Tryd.func19, Tryd.ntmps19
  go_wp2_with fail
  refine h.over.mono ?_; rintro e w1 ⟨rfl, h1⟩
  go_wp2_with fail
  refine h1.open'.mono ?_; rintro e w2 ⟨rfl, h2⟩
  go_wp2_with fail
  refine h2.over.mono ?_; rintro e w3 ⟨rfl, h3⟩
  go_wp2
  go_ret
  exact ⟨rfl, h3⟩
set_option maxRecDepth 100000 in
set_option maxHeartbeats 2000000 in
theorem bstep_last (h : BuS w0 B a c p m x hd 1 cs xs n K who true w) (hmp : m ≠ p) (hm : m ∈ K) (hp : p ∈ K) (hn : n < 1000000) (hi : x < cs.length) :
    Calls Tryd.prog 19 #[.pointer (some ⟨m, 0, none⟩), .pointer (some ⟨p, 0, none⟩)] w fun e w' => e = .returned (.bool true) ∧
      BuS w0 B a c p m x hd 0 (cs.set x hd) (xs ++ accV who 2 x 0 hd (cs.getD x 0) hd) (n + 1) K who false w' := by
  have ST := Lib.hid (fun W (h : BuS w0 B a c p m x hd 0 cs xs n K who true W) => h.store hd hmp hm hp hn hi)
  have Hmp := Lib.hid hmp
  clear hmp hi hn
  go_enter Tryd.func19, Tryd.ntmps19
  go_wp2_with fail
  refine h.over.mono ?_; rintro e w1 ⟨rfl, h1⟩
  go_wp2_with fail
  refine h1.open'.mono ?_; rintro e w2 ⟨rfl, h2⟩
  have h3 := h2.setLeft Hmp.out hm 0
  have l2 := h2.cells.2.2
  have f2 := h2.leftF
  have hS := h3.drew
  have l3 := h3.cells.2.2
  clear h h1 h2
  go_upto_region 5 with fail
  go_region_held3 (fun W => W.cell? ⟨m, 0, none⟩ = some (.int .i64 (x : Int)) ∧ W.cell? ⟨m, 1, none⟩ = some (.int .u64 hd) ∧ W.cell? ⟨m, 2, none⟩ = some (.int .i64 0))
    (with_reducible exact BuS.cells (by assumption))
    (first | (go_at_call 38; refine (ST.out _ (by assumption)).mono ?_; rintro e w4 ⟨⟨u4, rfl⟩, h4⟩))
  clear h3 hS l2 f2 l3
  go_wp2_with fail
  refine h4.over.mono ?_; rintro e w5 ⟨rfl, h5⟩
  go_wp2
  go_ret
  exact ⟨rfl, h5⟩
set_option maxRecDepth 100000 in
set_option maxHeartbeats 2000000 in
theorem bstep_more (j : Nat) (h : BuS w0 B a c p m x hd ((j : Int) + 1) cs xs n K who true w) (hj : 1 ≤ j) (hj2 : j ≤ 1000) (hx : x ≤ 100000) (hmp : m ≠ p) (hm : m ∈ K) (hp : p ∈ K) (hn : n < 1000000) (hi : x + j < cs.length) :
    Calls Tryd.prog 19 #[.pointer (some ⟨m, 0, none⟩), .pointer (some ⟨p, 0, none⟩)] w fun e w' => e = .returned (.bool false) ∧
      BuS w0 B a c p m x hd (j : Int) (cs.set (x + j) 0) (xs ++ accV who 2 ((x + j : Nat) : Int) 0 0 (cs.getD (x + j) 0) 0) (n + 1) K who false w' := by
  have ST := Lib.hid (fun W (h : BuS w0 B a c p m x hd (j : Int) cs xs n K who true W) => h.store 0 hmp hm hp hn hi)
  have Hmp := Lib.hid hmp
  have hf : wrap64 (wrap64 ((x : Int) + 1) + ((j : Int) - 1)) = ((x + j : Nat) : Int) := by
    rw [IntWalk.wrap64_in ((x : Int) + 1) ⟨by omega, by omega⟩, IntWalk.wrap64_in _ ⟨by omega, by omega⟩]; omega
  have FD := Lib.hid (fun W => ofield_any (x : Int) ((j : Int) - 1) W)
  rw [hf] at FD
  have e0 : ((j : Int) == 0) = false := by simp; omega
  have e1 : ((j : Int) + 1 == 0) = false := by simp; omega
  clear hmp hi hn hf
  generalize ((x + j : Nat) : Int) = q at *
  go_enter Tryd.func19, Tryd.ntmps19
  go_wp2_with fail
  refine h.over.mono ?_; rintro e w1 ⟨rfl, h1⟩
  go_wp2_with fail
  refine h1.open'.mono ?_; rintro e w2 ⟨rfl, h2⟩
  have h3 := h2.setLeft Hmp.out hm (j : Int)
  have l2 := h2.cells.2.2
  have f2 := h2.leftF
  have hS := h3.drew
  have l3 := h3.cells.2.2
  clear h h1 h2
  have hw9 : IntKind.i64.wrap ((j : Int) - 1) = (j : Int) - 1 := IntWalk.i64_in _ (by omega)
  go_upto_region 6 with fail
  go_region_held3 (fun W => W.cell? ⟨m, 0, none⟩ = some (.int .i64 (x : Int)) ∧ W.cell? ⟨m, 1, none⟩ = some (.int .u64 hd) ∧ W.cell? ⟨m, 2, none⟩ = some (.int .i64 (j : Int)))
    (with_reducible exact BuS.cells (by assumption))
    (first | (go_at_call 39; refine (FD.out _).mono ?_; rintro e w3 ⟨rfl, rfl⟩) | (go_at_call 38; refine (ST.out _ (by assumption)).mono ?_; rintro e w4 ⟨⟨u4, rfl⟩, h4⟩))
  clear h3 hS l2 f2 l3
  go_wp2_with fail
  refine h4.over.mono ?_; rintro e w5 ⟨rfl, h5⟩
  go_wp2
  go_ret
  exact ⟨rfl, h5⟩
end
end Go.Proofs.YtohmnjejchppkaaDoor
/- What math/bits.Len64 returns, for all words. No condition but that the number fits its kind. -/
namespace Go.Proofs.YtohmnjejchppkaaDoor
open Go.RowKit
set_option linter.unusedVariables false
end Go.Proofs.YtohmnjejchppkaaDoor
/- What the document's Places, Rank and Mask return, and word.Ones, Rank and Highest, for all words. No condition but that each number fits its kind. -/
namespace Go.Proofs.YtohmnjejchppkaaDoor
open Go.RowKit
set_option linter.unusedVariables false

theorem info_int : (Tryd.prog.info? 3).map (fun i => (i.zero, i.size, i.bytes)) = some (some (.int .i64 0), 1, 8) := by kernel_rfl
/-- how many ones stand below a bit -/
def rankI (x a : Int) : Int := (((plcs x.toNat (bnd a).toNat).length : Nat) : Int)
theorem bnd_min (a : Int) : (bnd a).toNat = min 64 a.toNat := by unfold bnd; split <;> (try split) <;> omega
theorem rank_and (x a : Int) (hx : U64 x) : onesI (bits .and .u64 x (maskI a)) = rankI x a ∧ U64 (bits .and .u64 x (maskI a)) := by
  obtain ⟨X, rfl⟩ := Int.eq_ofNat_of_zero_le hx.1
  have hX : X < 2 ^ 64 := by have := hx.2; omega
  have hm := maskI_U64 a
  have hb := bnd_bd a
  unfold maskI at hm ⊢
  rw [bits_and_u64_nat _ _ hX (by have := hm.2; omega), Nat.and_two_pow_sub_one_eq_mod]
  refine ⟨?_, U64.nat _ (Nat.lt_of_le_of_lt (Nat.mod_le _ _) hX)⟩
  unfold onesI rankI
  rw [Int.toNat_natCast, Int.toNat_natCast, plcs_length]
  obtain ⟨b, hb'⟩ : ∃ b, b = (bnd a).toNat := ⟨_, rfl⟩
  rw [← hb']
  have h64 : 64 = b + (64 - b) := by omega
  have h := cnt_add (X % 2 ^ b) 0 b (Nat.mod_lt _ (Nat.two_pow_pos b)) (64 - b)
  rw [Nat.mul_zero, Nat.zero_add, ← h64, ← cnt_all] at h
  have h0 : ∀ m, cnt 0 m = 0 := by
    intro m
    induction m with
    | zero => rfl
    | succ m ih => simp [cnt, ih]
  rw [h, h0, Nat.add_zero]

theorem filt_take_succ (L : List Int) (a : Int) (k : Nat) (h : k < L.length) :
    (((L.take (k + 1)).filter fun z => decide (z < a)).length = ((L.take k).filter fun z => decide (z < a)).length + (if L.getD k 0 < a then 1 else 0)) := by
  rw [List.take_add_one, List.getElem?_eq_getElem h, List.filter_append, List.length_append]
  simp only [Option.toList]
  rw [List.getD_eq_getElem?_getD, List.getElem?_eq_getElem h, Option.getD_some]
  by_cases h1 : L[k] < a <;> simp [h1]

theorem mask_step (n : Int) (j : Nat) (hj : j < 64) : (j < n → IntKind.u64.wrap (((2 ^ min j n.toNat - 1 : Nat) : Int) + powI j) = ((2 ^ min (j + 1) n.toNat - 1 : Nat) : Int)) ∧ (¬ j < n → min (j + 1) n.toNat = min j n.toNat) := by
  refine ⟨fun h => ?_, fun h => by omega⟩
  have e1 : min j n.toNat = j := by omega
  have e2 : min (j + 1) n.toNat = j + 1 := by omega
  have hp := Nat.two_pow_pos j
  have h1 : 2 ^ (j + 1) ≤ 2 ^ 64 := Nat.pow_le_pow_right (by decide) (by omega)
  rw [e1, e2, IntKind.wrap_u64]
  unfold powI
  rw [Int.toNat_natCast]
  rw [Nat.pow_succ] at h1 ⊢
  omega
/-- the highest bit that is 1; -1: none -/
def highI (x : Int) : Int := ((Lib.bitLen x.toNat : Nat) : Int) - 1
end Go.Proofs.YtohmnjejchppkaaDoor
/- word.Bits: the iterator's contract: the ones of a word are handed on, rising, each once; it stops where a round says so. No condition but that the table of math/bits lies as the start lays it. -/
namespace Go.Proofs.YtohmnjejchppkaaDoor
open Go.RowKit Go.Shelf
set_option linter.unusedVariables false
attribute [local go_sem] Oper.semAt_some

/-! the lowest one taken away: numbers alone -/
theorem clear_bits (X k : Nat) (hb : X.testBit k = true) (hl : ∀ j, j < k → X.testBit j = false) (i : Nat) : (X &&& (X - 1)).testBit i = (X.testBit i && decide (i ≠ k)) := by
  have h1 : X % 2 ^ (k + 1) = 2 ^ k := by
    apply Nat.eq_of_testBit_eq
    intro j
    rw [Nat.testBit_mod_two_pow, Nat.testBit_two_pow]
    by_cases hj : j < k
    · simp [hl j hj, show ¬ k = j by omega]
    · by_cases hk : k = j
      · subst hk; simp [hb]
      · simp [hk, show ¬ j < k + 1 by omega]
  have h2 := Nat.div_add_mod X (2 ^ (k + 1))
  rw [h1] at h2
  generalize X / 2 ^ (k + 1) = m at h2
  subst h2
  have hp := Nat.two_pow_pos k
  have e : 2 ^ (k + 1) * m + 2 ^ k - 1 = 2 ^ (k + 1) * m + (2 ^ k - 1) := by omega
  have l1 : 2 ^ k < 2 ^ (k + 1) := Nat.pow_lt_pow_right (by decide) (by omega)
  rw [e, Nat.testBit_and, Nat.testBit_two_pow_mul_add _ l1, Nat.testBit_two_pow_mul_add _ (show 2 ^ k - 1 < 2 ^ (k + 1) by omega)]
  by_cases hi : i < k + 1
  · simp only [hi, if_true]
    rw [Nat.testBit_two_pow, Nat.testBit_two_pow_sub_one]
    by_cases hk : k = i
    · subst hk; simp
    · simp [hk]
  · simp only [hi, if_false]
    simp [show ¬ i = k by omega]
theorem plcs_clear (X k : Nat) (hb : X.testBit k = true) (hl : ∀ j, j < k → X.testBit j = false) : ∀ n, plcs X n = if k < n then (k : Int) :: plcs (X &&& (X - 1)) n else plcs (X &&& (X - 1)) n
  | 0 => rfl
  | n + 1 => by
    have ih := plcs_clear X k hb hl n
    have hc := clear_bits X k hb hl n
    by_cases h : k < n
    · rw [if_pos h] at ih
      rw [if_pos (by omega)]
      cases hn : X.testBit n with
      | true =>
        rw [hn] at hc
        rw [plcs_one X n hn, plcs_one _ n (by rw [hc]; simp; omega), ih]; rfl
      | false =>
        rw [hn] at hc
        rw [plcs_no X n hn, plcs_no _ n (by rw [hc]; rfl), ih]
    · rw [if_neg h] at ih
      by_cases hk : k = n
      · subst hk
        rw [if_pos (by omega)]
        have h0 : ∀ m, m ≤ k → plcs X m = [] := by
          intro m
          induction m with
          | zero => intro _; rfl
          | succ m ih2 => intro h; rw [plcs_no X m (hl m (by omega)), ih2 (by omega)]
        rw [plcs_one X k hb, plcs_no _ k (by rw [hc]; simp), ← ih, h0 k (Nat.le_refl _)]
        rfl
      · rw [if_neg (by omega)]
        have hn := hl n (by omega)
        rw [hn] at hc
        rw [plcs_no X n hn, plcs_no _ n (by rw [hc]; rfl), ih]
/-- the word without its lowest one -/
def lessI (x : Int) : Int := bits .and .u64 x (IntKind.u64.wrap (x - 1))
theorem less_clear (x : Int) (hx : U64 x) (h0 : x ≠ 0) : U64 (lessI x) ∧ plcs x.toNat 64 = lowI x :: plcs (lessI x).toNat 64 ∧ 0 ≤ lowI x ∧ lowI x < 64 := by
  obtain ⟨X, rfl⟩ := Int.eq_ofNat_of_zero_le hx.1
  have hX : X < 2 ^ 64 := by have := hx.2; omega
  have hX0 : X ≠ 0 := by omega
  obtain ⟨h1, h2, h3⟩ := ctz_bits X hX0 hX
  have e : lessI (X : Int) = ((X &&& (X - 1) : Nat) : Int) := by
    unfold lessI
    have : IntKind.u64.wrap ((X : Int) - 1) = ((X - 1 : Nat) : Int) := by rw [IntKind.wrap_u64]; omega
    rw [this, bits_and_u64_nat _ _ hX (by omega)]
  have h4 := plcs_clear X _ h2 h3 64
  rw [if_pos h1] at h4
  rw [e]
  refine ⟨U64.nat _ (Nat.and_lt_two_pow _ (by omega)), ?_, ?_⟩
  · rw [Int.toNat_natCast, Int.toNat_natCast]; exact h4
  · unfold lowI; rw [Int.toNat_natCast]; omega

/-- the numbers that were handed on, as integers -/
def fins (l : List (Fin 64)) : List Int := l.map fun i => ((i.val : Nat) : Int)
theorem fins_snoc (l : List (Fin 64)) (i : Fin 64) : fins (l ++ [i]) = fins l ++ [((i.val : Nat) : Int)] := by simp [fins]
abbrev bitEnc (i : Fin 64) : Array Value := #[.int .i64 ((i.val : Nat) : Int)]

end Go.Proofs.YtohmnjejchppkaaDoor
