/- Package sizes: what free, Cells, Room, Valid return; the document's Begins, Starts, Cell, Free. No condition but that the tables lie as the start lays them. -/
import Derived.Test.YtcjkachlahjbiaaDoorCells
namespace Go.Proofs.YtcjkachlahjbiaaDoor
open Go.RowKit
set_option linter.unusedVariables false

/-! numbers, by classes -/
theorem starts_plcs : ∀ j : Fin 8, plcs (stOr (widF j.val) (List.range (numF j.val))).toNat 64 = (List.range (numF j.val)).map fun i => ((i : Nat) : Int) * widF j.val := by decide +kernel
theorem starts_u64 : ∀ j : Fin 8, 0 ≤ stOr (widF j.val) (List.range (numF j.val)) ∧ stOr (widF j.val) (List.range (numF j.val)) < 18446744073709551616 := by decide +kernel
theorem starts_sum : ∀ j : Fin 8, ∀ k : Fin 32, k.val < numF j.val → IntKind.u64.wrap (stOr (widF j.val) (List.range k.val) + powI (((k.val : Nat) : Int) * widF j.val)) = stOr (widF j.val) (List.range (k.val + 1)) := by decide +kernel
theorem cells_bit : ∀ j : Fin 8, ∀ p : Fin 64, decide (cellI ((j.val : Nat) : Int) ((p.val : Nat) : Int) = ((p.val : Nat) : Int)) = (stOr (widF j.val) (List.range (numF j.val))).toNat.testBit p.val := by decide +kernel
theorem cls_nat (j : Nat) (h : j < 8) : clsB (j : Int) = true ∧ widI (j : Int) = widF j ∧ numN (j : Int) = numF j ∧ startsI (j : Int) = stOr (widF j) (List.range (numF j)) ∧ errI (j : Int) = 0 := by
  have hc : clsB (j : Int) = true := by unfold clsB; simp; omega
  refine ⟨hc, ?_, ?_, ?_, ?_⟩
  · unfold widI; rw [hc, if_pos rfl, Int.toNat_natCast]
  · unfold numN; rw [hc, if_pos rfl, Int.toNat_natCast]
  · unfold startsI; rw [hc, if_pos rfl, Int.toNat_natCast]
  · unfold errI; rw [hc, if_pos rfl]
theorem cls_none (c : Int) (hc : clsB c = false) : widI c = 0 ∧ numN c = 0 ∧ startsI c = 0 ∧ errI c = 1 ∧ cellL c = [] := by
  have h1 : numN c = 0 := by unfold numN; rw [hc]; rfl
  exact ⟨by unfold widI; rw [hc]; rfl, h1, by unfold startsI; rw [hc]; rfl, by unfold errI; rw [hc]; rfl, by unfold cellL; rw [h1]; rfl⟩
theorem startsI_plcs (c : Int) : plcs (startsI c).toNat 64 = cellL c := by
  cases hc : clsB c with
  | true =>
    obtain ⟨j, rfl, hj⟩ := clsB_yes hc
    obtain ⟨_, h2, h3, h4, _⟩ := cls_nat j hj
    unfold cellL
    rw [h2, h3, h4]
    exact starts_plcs ⟨j, hj⟩
  | false =>
    obtain ⟨_, _, h3, _, h5⟩ := cls_none c hc
    rw [h3, h5, show (0 : Int).toNat = 0 from rfl, plcs_nil]
theorem startsI_U64 (c : Int) : U64 (startsI c) := by
  cases hc : clsB c with
  | true =>
    obtain ⟨j, rfl, hj⟩ := clsB_yes hc
    rw [(cls_nat j hj).2.2.2.1]
    exact starts_u64 ⟨j, hj⟩
  | false => rw [(cls_none c hc).2.2.1]; exact ⟨by decide, by decide⟩

/-! bits taken away -/
theorem andNot_nat (x y : Int) (hx : U64 x) (hy : U64 y) : U64 (bits .andNot .u64 x y) ∧ (bits .andNot .u64 x y).toNat = x.toNat &&& (18446744073709551615 - y.toNat) := by
  obtain ⟨X, rfl⟩ := Int.eq_ofNat_of_zero_le hx.1
  obtain ⟨Y, rfl⟩ := Int.eq_ofNat_of_zero_le hy.1
  have hX : X < 2 ^ 64 := by have := hx.2; omega
  have hY : Y < 2 ^ 64 := by have := hy.2; omega
  rw [u64_andNot_nat _ _ (by omega) (by omega)]
  exact ⟨U64.nat _ (Nat.and_lt_two_pow _ (by omega)), by simp⟩
theorem plcs_diff (X Y : Nat) (hY : Y < 2 ^ 64) : ∀ n, n ≤ 64 → plcs (X &&& (18446744073709551615 - Y)) n = (plcs X n).filter fun z => !Y.testBit z.toNat
  | 0, _ => rfl
  | n + 1, h => by
    have ih := plcs_diff X Y hY n (by omega)
    have hb : (X &&& (18446744073709551615 - Y)).testBit n = (X.testBit n && !Y.testBit n) := by
      rw [Nat.testBit_and, testBit_not64 _ _ hY]
      simp [show n < 64 by omega]
    cases h1 : X.testBit n with
    | true =>
      rw [h1] at hb
      rw [plcs_one X n h1, List.filter_append]
      cases h2 : Y.testBit n with
      | true =>
        rw [h2] at hb
        rw [plcs_no _ n (by rw [hb]; rfl), ih]
        simp [h2]
      | false =>
        rw [h2] at hb
        rw [plcs_one _ n (by rw [hb]; rfl), ih]
        simp [h2]
    | false =>
      rw [h1] at hb
      rw [plcs_no X n h1, plcs_no _ n (by rw [hb]; rfl), ih]
theorem plcs_zero_of (X : Nat) (hX : X < 2 ^ 64) (h : plcs X 64 = []) : X = 0 := by
  rcases Nat.eq_zero_or_pos X with h0 | h0
  · exact h0
  · have := (plcs_low X hX (by omega)).1
    rw [h] at this
    exact absurd this (by simp)

/-- the cells that aren't allocated, as bits, as words -/
def freeI (c a : Int) : Int := bits .andNot .u64 (startsI c) a
def freeL (c a : Int) : List Int := (cellL c).filter fun z => !a.toNat.testBit z.toNat
theorem freeI_U64 (c a : Int) (ha : U64 a) : U64 (freeI c a) := (andNot_nat _ _ (startsI_U64 c) ha).1
theorem freeI_plcs (c a : Int) (ha : U64 a) : plcs (freeI c a).toNat 64 = freeL c a := by
  unfold freeI freeL
  rw [(andNot_nat _ _ (startsI_U64 c) ha).2, plcs_diff _ _ (by have := ha.2; have := ha.1; omega) 64 (by omega), startsI_plcs]
def validB (c a : Int) : Bool := clsB c && ((plcs a.toNat 64).all fun p => decide (cellI c p = p))
theorem valid_bits (c a : Int) (ha : U64 a) (hc : clsB c = true) : (bits .andNot .u64 a (startsI c) == 0) = validB c a := by
  obtain ⟨j, rfl, hj⟩ := clsB_yes hc
  have hs := startsI_U64 (j : Int)
  obtain ⟨h1, h2⟩ := andNot_nat a _ ha hs
  have hlt : (startsI (j : Int)).toNat < 2 ^ 64 := by have := hs.2; have := hs.1; omega
  have hp := plcs_diff a.toNat _ hlt 64 (by omega)
  rw [← h2] at hp
  have hall : ((plcs a.toNat 64).all fun p => decide (cellI (j : Int) p = p)) = ((plcs a.toNat 64).all fun p => (startsI (j : Int)).toNat.testBit p.toNat) := by
    rw [Bool.eq_iff_iff, List.all_eq_true, List.all_eq_true]
    have hpt : ∀ p ∈ plcs a.toNat 64, decide (cellI (j : Int) p = p) = (startsI (j : Int)).toNat.testBit p.toNat := by
      intro p hp
      obtain ⟨h3, h4, _⟩ := plcs_mem hp
      have := cells_bit ⟨j, hj⟩ ⟨p.toNat, by omega⟩
      simp only at this
      rw [show ((p.toNat : Nat) : Int) = p by omega] at this
      rw [(cls_nat j hj).2.2.2.1, this]
    exact ⟨fun h p hp => by rw [← hpt p hp]; exact h p hp, fun h p hp => by rw [hpt p hp]; exact h p hp⟩
  unfold validB
  rw [hc, Bool.true_and, hall, Bool.eq_iff_iff, List.all_eq_true, beq_iff_eq]
  constructor
  · intro h0 p hpm
    rw [h0, show (0 : Int).toNat = 0 from rfl, plcs_nil] at hp
    have := List.filter_eq_nil_iff.1 hp.symm p hpm
    simpa using this
  · intro h
    have h5 : plcs (bits .andNot .u64 a (startsI (j : Int))).toNat 64 = [] := by
      rw [hp]
      exact List.filter_eq_nil_iff.2 (fun p hpm => by simpa using h p hpm)
    have h6 := plcs_zero_of _ (by have := h1.2; have := h1.1; omega) h5
    have := h1.1
    omega

set_option maxHeartbeats 400000 in
theorem free_any (c a : Int) (w : World) (hW : Wid w) (ha : U64 a) :
    Calls Tryd.prog 28 #[.int .i64 c, .int .u64 a] w fun e w' => e = .returned (.int .u64 (freeI c a)) ∧ Below w.heap.size w w' := by
  have P := Lib.hid (fun W (h : Wid W) => starts_any c W h)
  unfold freeI
  generalize startsI c = s at *
  generalize errI c = r at *
  go_enter Tryd.func28, Tryd.ntmps28
  go_wp2_with fail
  refine (P.out _ hW).mono ?_
  rintro e w2 ⟨rfl, hb2⟩
  go_wp2
  go_ret
  exact ⟨rfl, hb2⟩

set_option maxHeartbeats 400000 in
theorem room_any (c a : Int) (w : World) (hW : Wid w) (ha : U64 a) :
    Calls Tryd.prog 16 #[.int .i64 c, .int .u64 a] w fun e w' => e = .returned (.int .i64 (((freeL c a).length : Nat) : Int)) ∧ Below w.heap.size w w' := by
  have P := Lib.hid (fun W (h : Wid W) => free_any c a W h ha)
  have O := Lib.hid (fun W => ones_w (freeI c a) W (freeI_U64 c a ha))
  have e1 : onesI (freeI c a) = (((freeL c a).length : Nat) : Int) := by unfold onesI; rw [← plcs_length, freeI_plcs c a ha]
  rw [e1] at O
  clear e1
  generalize freeI c a = s at *
  generalize (freeL c a).length = n at *
  go_enter Tryd.func16, Tryd.ntmps16
  go_wp2_with fail
  refine (P.out _ hW).mono ?_
  rintro e w2 ⟨rfl, hb2⟩
  go_wp2_with fail
  refine (O.out _).mono ?_
  rintro e w3 ⟨rfl, hq3⟩
  go_wp2
  go_ret
  exact ⟨rfl, hb2.trans hq3.below⟩

set_option maxHeartbeats 400000 in
theorem cnum_any (c : Int) (w : World) (hW : Wid w) :
    Calls Tryd.prog 7 #[.int .i64 c] w fun e w' => e = .returned (.tuple #[.int .i64 ((numN c : Nat) : Int), .int .i64 (errI c)]) ∧ Below w.heap.size w w' := by
  have P := Lib.hid (fun W (h : Wid W) => starts_any c W h)
  have O := Lib.hid (fun W => ones_w (startsI c) W (startsI_U64 c))
  have e1 : onesI (startsI c) = ((numN c : Nat) : Int) := by unfold onesI; rw [← plcs_length, startsI_plcs]; simp [cellL]
  rw [e1] at O
  clear e1
  generalize startsI c = s at *
  generalize errI c = r at *
  generalize numN c = n at *
  go_enter Tryd.func7, Tryd.ntmps7
  go_wp2_with fail
  refine (P.out _ hW).mono ?_
  rintro e w2 ⟨rfl, hb2⟩
  go_wp2_with fail
  refine (O.out _).mono ?_
  rintro e w3 ⟨rfl, hq3⟩
  go_wp2
  go_ret2
  exact ⟨rfl, hb2.trans hq3.below⟩

/-! the document's -/
theorem cellL_at (j : Nat) (hj : j < 8) : (cellL (j : Int)).length = numF j ∧ ∀ k, k < numF j → (cellL (j : Int)).getD k 0 = ((k : Nat) : Int) * widF j := by
  obtain ⟨_, h2, h3, _, _⟩ := cls_nat j hj
  unfold cellL
  rw [h2, h3]
  refine ⟨by simp, fun k hk => ?_⟩
  rw [List.getD_eq_getElem?_getD, List.getElem?_map, List.getElem?_range hk]
  rfl
end Go.Proofs.YtcjkachlahjbiaaDoor
