/- Texts of this seat, one behind the other: each says at its head what it holds. No condition of its own. -/
import Derived.BigQuiet
import Derived.RangeFuncNested
import Derived.RangeFuncBound
import Derived.RangeFuncCalls
import Derived.RangeFuncLeaves
import Derived.RangeFuncFrom
import Derived.Shelf.Abstract
import Derived.Shelf.RegionOpen
import Derived.WalkKit
import Derived.OwnWalkIn
import Derived.TacticsInMore
import Derived.LoopNIn
import Derived.LoopIn
import Derived.Deep.QuietTactic
import Derived.Lib.Strings
import Derived.Laws.StructEq
import Derived.Test.YtpoddnfooaddgaaGreatDoorGObjectsLooks15
import Derived.Test.YtpoddnfooaddgaaGreatDoorGObjectsLooks18
import Derived.Test.YtpoddnfooaddgaaGreatDoorGObjectsLooks19
import Derived.Test.YtpoddnfooaddgaaGreatDoorGObjectsLooks21
import Derived.Test.YtpoddnfooaddgaaGreatDoorGObjectsLooks22
/- Package sizes: what free, Cells, Room, Valid return; the document's Begins, Starts, Cell, Free. No condition but that the tables lie as the start lays them. -/
namespace Go.Proofs.YtpoddnfooaddgaaGreatDoor
open Go.RowKit
set_option linter.unusedVariables false

/-! numbers, by classes -/
theorem starts_plcs : ∀ j : Fin 8, plcs (stOr (widF j.val) (List.range (numF j.val))).toNat 64 = (List.range (numF j.val)).map fun i => ((i : Nat) : Int) * widF j.val := by decide +kernel
theorem starts_u64 : ∀ j : Fin 8, 0 ≤ stOr (widF j.val) (List.range (numF j.val)) ∧ stOr (widF j.val) (List.range (numF j.val)) < 18446744073709551616 := by decide +kernel
theorem starts_sum : ∀ j : Fin 8, ∀ k : Fin 32, k.val < numF j.val → IntKind.u64.wrap (stOr (widF j.val) (List.range k.val) + powI (((k.val : Nat) : Int) * widF j.val)) = stOr (widF j.val) (List.range (k.val + 1)) := by decide +kernel
theorem cells_bit : ∀ j : Fin 8, ∀ p : Fin 64, decide (cellI ((j.val : Nat) : Int) ((p.val : Nat) : Int) = ((p.val : Nat) : Int)) = (stOr (widF j.val) (List.range (numF j.val))).toNat.testBit p.val := by decide +kernel
theorem cls_nat (j : Nat) (h : j < 8) : clsB (j : Int) = true ∧ widI (j : Int) = widF j ∧ numN (j : Int) = numF j ∧ startsI (j : Int) = stOr (widF j) (List.range (numF j)) ∧ errI (j : Int) = 0 := by
  have hc : clsB (j : Int) = true := by unfold clsB; simp; omega
  refine ⟨hc, ?_, ?_, ?_, ?_⟩
  · unfold widI; rw [hc, if_pos rfl, Int.toNat_natCast]
  · unfold numN; rw [hc, if_pos rfl, Int.toNat_natCast]
  · unfold startsI; rw [hc, if_pos rfl, Int.toNat_natCast]
  · unfold errI; rw [hc, if_pos rfl]
theorem cls_none (c : Int) (hc : clsB c = false) : widI c = 0 ∧ numN c = 0 ∧ startsI c = 0 ∧ errI c = 1 ∧ cellL c = [] := by
  have h1 : numN c = 0 := by unfold numN; rw [hc]; rfl
  exact ⟨by unfold widI; rw [hc]; rfl, h1, by unfold startsI; rw [hc]; rfl, by unfold errI; rw [hc]; rfl, by unfold cellL; rw [h1]; rfl⟩
theorem startsI_plcs (c : Int) : plcs (startsI c).toNat 64 = cellL c := by
  cases hc : clsB c with
  | true =>
    obtain ⟨j, rfl, hj⟩ := clsB_yes hc
    obtain ⟨_, h2, h3, h4, _⟩ := cls_nat j hj
    unfold cellL
    rw [h2, h3, h4]
    exact starts_plcs ⟨j, hj⟩
  | false =>
    obtain ⟨_, _, h3, _, h5⟩ := cls_none c hc
    rw [h3, h5, show (0 : Int).toNat = 0 from rfl, plcs_nil]
theorem startsI_U64 (c : Int) : U64 (startsI c) := by
  cases hc : clsB c with
  | true =>
    obtain ⟨j, rfl, hj⟩ := clsB_yes hc
    rw [(cls_nat j hj).2.2.2.1]
    exact starts_u64 ⟨j, hj⟩
  | false => rw [(cls_none c hc).2.2.1]; exact ⟨by decide, by decide⟩

/-! bits taken away -/
theorem andNot_nat (x y : Int) (hx : U64 x) (hy : U64 y) : U64 (bits .andNot .u64 x y) ∧ (bits .andNot .u64 x y).toNat = x.toNat &&& (18446744073709551615 - y.toNat) := by
  obtain ⟨X, rfl⟩ := Int.eq_ofNat_of_zero_le hx.1
  obtain ⟨Y, rfl⟩ := Int.eq_ofNat_of_zero_le hy.1
  have hX : X < 2 ^ 64 := by have := hx.2; omega
  have hY : Y < 2 ^ 64 := by have := hy.2; omega
  rw [u64_andNot_nat _ _ (by omega) (by omega)]
  exact ⟨U64.nat _ (Nat.and_lt_two_pow _ (by omega)), by simp⟩
theorem plcs_diff (X Y : Nat) (hY : Y < 2 ^ 64) : ∀ n, n ≤ 64 → plcs (X &&& (18446744073709551615 - Y)) n = (plcs X n).filter fun z => !Y.testBit z.toNat
  | 0, _ => rfl
  | n + 1, h => by
    have ih := plcs_diff X Y hY n (by omega)
    have hb : (X &&& (18446744073709551615 - Y)).testBit n = (X.testBit n && !Y.testBit n) := by
      rw [Nat.testBit_and, testBit_not64 _ _ hY]
      simp [show n < 64 by omega]
    cases h1 : X.testBit n with
    | true =>
      rw [h1] at hb
      rw [plcs_one X n h1, List.filter_append]
      cases h2 : Y.testBit n with
      | true =>
        rw [h2] at hb
        rw [plcs_no _ n (by rw [hb]; rfl), ih]
        simp [h2]
      | false =>
        rw [h2] at hb
        rw [plcs_one _ n (by rw [hb]; rfl), ih]
        simp [h2]
    | false =>
      rw [h1] at hb
      rw [plcs_no X n h1, plcs_no _ n (by rw [hb]; rfl), ih]
theorem plcs_zero_of (X : Nat) (hX : X < 2 ^ 64) (h : plcs X 64 = []) : X = 0 := by
  rcases Nat.eq_zero_or_pos X with h0 | h0
  · exact h0
  · have := (plcs_low X hX (by omega)).1
    rw [h] at this
    exact absurd this (by simp)

/-- the cells that aren't allocated, as bits, as words -/
def freeI (c a : Int) : Int := bits .andNot .u64 (startsI c) a
def freeL (c a : Int) : List Int := (cellL c).filter fun z => !a.toNat.testBit z.toNat
theorem freeI_U64 (c a : Int) (ha : U64 a) : U64 (freeI c a) := (andNot_nat _ _ (startsI_U64 c) ha).1
theorem freeI_plcs (c a : Int) (ha : U64 a) : plcs (freeI c a).toNat 64 = freeL c a := by
  unfold freeI freeL
  rw [(andNot_nat _ _ (startsI_U64 c) ha).2, plcs_diff _ _ (by have := ha.2; have := ha.1; omega) 64 (by omega), startsI_plcs]
def validB (c a : Int) : Bool := clsB c && ((plcs a.toNat 64).all fun p => decide (cellI c p = p))
theorem valid_bits (c a : Int) (ha : U64 a) (hc : clsB c = true) : (bits .andNot .u64 a (startsI c) == 0) = validB c a := by
  obtain ⟨j, rfl, hj⟩ := clsB_yes hc
  have hs := startsI_U64 (j : Int)
  obtain ⟨h1, h2⟩ := andNot_nat a _ ha hs
  have hlt : (startsI (j : Int)).toNat < 2 ^ 64 := by have := hs.2; have := hs.1; omega
  have hp := plcs_diff a.toNat _ hlt 64 (by omega)
  rw [← h2] at hp
  have hall : ((plcs a.toNat 64).all fun p => decide (cellI (j : Int) p = p)) = ((plcs a.toNat 64).all fun p => (startsI (j : Int)).toNat.testBit p.toNat) := by
    rw [Bool.eq_iff_iff, List.all_eq_true, List.all_eq_true]
    have hpt : ∀ p ∈ plcs a.toNat 64, decide (cellI (j : Int) p = p) = (startsI (j : Int)).toNat.testBit p.toNat := by
      intro p hp
      obtain ⟨h3, h4, _⟩ := plcs_mem hp
      have := cells_bit ⟨j, hj⟩ ⟨p.toNat, by omega⟩
      simp only at this
      rw [show ((p.toNat : Nat) : Int) = p by omega] at this
      rw [(cls_nat j hj).2.2.2.1, this]
    exact ⟨fun h p hp => by rw [← hpt p hp]; exact h p hp, fun h p hp => by rw [hpt p hp]; exact h p hp⟩
  unfold validB
  rw [hc, Bool.true_and, hall, Bool.eq_iff_iff, List.all_eq_true, beq_iff_eq]
  constructor
  · intro h0 p hpm
    rw [h0, show (0 : Int).toNat = 0 from rfl, plcs_nil] at hp
    have := List.filter_eq_nil_iff.1 hp.symm p hpm
    simpa using this
  · intro h
    have h5 : plcs (bits .andNot .u64 a (startsI (j : Int))).toNat 64 = [] := by
      rw [hp]
      exact List.filter_eq_nil_iff.2 (fun p hpm => by simpa using h p hpm)
    have h6 := plcs_zero_of _ (by have := h1.2; have := h1.1; omega) h5
    have := h1.1
    omega

/-! the document's -/
set_option maxRecDepth 100000 in
set_option maxHeartbeats 1000000 in
theorem begins_any (c : Int) (w : World) :
    Calls Tryz.prog 99 #[.int .i64 c] w fun e w' => ∃ v, e = .returned v ∧ w'.ownsRow w.heap.size 3 1 v (cellL c).length ((cellL c).map (Value.int .i64)) ∧ Below w.heap.size w w' := by
  obtain ⟨i0, hi, hz0, hz1, hz2⟩ := info_parts info_int
  have P := Lib.hid (fun W => rwords_anySz c W)
  cases hc : clsB c with
  | false =>
    obtain ⟨h1, h2, h3, h4, h5⟩ := cls_none c hc
    rw [h1, h4] at P
    rw [h5]
    clear h1 h2 h3 h4 h5 hc
    go_enter Tryz.func99, Tryz.ntmps99
    go_wp2_with fail
    refine (P.out _).mono ?_
    rintro e w2 ⟨rfl, hb2⟩
    go_wp2
    go_ret
    exact ⟨_, rfl, World.ownsRow_nil _ _ _ _, hb2⟩
  | true =>
    obtain ⟨j, rfl, hj⟩ := clsB_yes hc
    obtain ⟨_, h2, h3, h4, h5⟩ := cls_nat j hj
    have hend := Lib.hid (num_over j hj)
    have hfit : Hid (∀ k, k < numF j → ((k : Nat) : Int) * widF j + widF j ≤ 64) := num_in j hj
    have hle := num_le j hj
    have hwd := widF_bd j hj
    have hL : cellL (j : Int) = (List.range (numF j)).map fun i => ((i : Nat) : Int) * widF j := by unfold cellL; rw [h2, h3]
    have hLN : ∀ N : Nat, ((List.range N).map fun i => ((i : Nat) : Int) * widF j).length = N := by intro N; simp
    rw [h2, h5] at P
    rw [hL, hLN]
    clear h2 h3 h4 h5 hc hL hLN
    generalize widF j = v at *
    generalize numF j = N at *
    go_enter Tryz.func99, Tryz.ntmps99
    go_wp2_with fail
    refine (P.out _).mono ?_
    rintro e w2 ⟨rfl, hb2⟩
    have hs2 := hb2.size
    go_wp2
    go_loopw [5, 6] (fun l p wr => ∃ (k : Nat) (E : Int), k ≤ N ∧ p = .int .i64 E ∧ Hid (E = ((k : Nat) : Int) * v) ∧ 0 ≤ E ∧ E ≤ 64 ∧
        wr.ownsRow w.heap.size 3 1 l k (((List.range k).map fun i => ((i : Nat) : Int) * v).map (Value.int .i64)) ∧ Below w.heap.size w wr) (fun _ p _ => 64 - (intOf p).toNat)
    case atStart => exact ⟨0, 0, by omega, rfl, by unfold Hid; simp, by omega, by omega, World.ownsRow_nil _ _ _ _, hb2⟩
    case round =>
      obtain ⟨k, E, hk, rfl, hE, hE0, hE1, hown, hb⟩ := hrel
      have hsz := hb.size
      by_cases hkN : k < N
      · have hf := hfit.out k hkN
        rw [← hE.out] at hf
        have HS : Hid (E + v = (((k + 1 : Nat) : Nat) : Int) * v) := by unfold Hid; rw [hE.out]; push_cast; rw [Int.add_mul, Int.one_mul]
        have HR : Hid (((List.range (k + 1)).map fun i => ((i : Nat) : Int) * v).map (Value.int .i64) = ((List.range k).map fun i => ((i : Nat) : Int) * v).map (Value.int .i64) ++ [.int .i64 E]) := by
          unfold Hid; rw [List.range_succ, List.map_append, List.map_append]; simp [hE.out]
        go_wp2_with (at_builtin; refine wpList_append_own _ rfl _ _ 162 rfl w.heap.size 3 i0 (.int .i64 0) 1 8 Tryz.underlying162 hi hz0 hz1 hz2 rfl (by decide) _ _ _ rfl (hown.alloc _) ⟨wr.heap.size, 0, none⟩ 1 1 [.int .i64 E] rfl rfl (cell_one_new _ _ _) ?c2 ?c3 ?c4 ?c5 ?_)
        case c2 => simp [Value.oneCell']
        case c3 => unfold maxLen; omega
        case c4 => omega
        case c5 => simp; omega
        intro v' w3 hown3 hgrow _
        have hb3 : Below w.heap.size w w3 := (hb.alloc hsz _).grown hgrow (by simp; omega) (fun j hj => (hown.lt j hj).1)
        have hown4 : w3.ownsRow w.heap.size 3 1 v' (k + 1) (((List.range (k + 1)).map fun i => ((i : Nat) : Int) * v).map (Value.int .i64)) := by rw [HR.out, List.map_map]; exact hown3
        clear hgrow hown hb HR hown3
        go_wp2
        go_roundw
        case rel => exact ⟨k + 1, E + v, by omega, rfl, HS, by omega, by omega, hown4, hb3⟩
        case measure => simp only [intOf]; omega
      · obtain rfl : k = N := by omega
        have he := hend.out
        rw [← hE.out] at he
        go_wp2
        go_ret
        exact ⟨_, rfl, hown, hb⟩
theorem begins_lst (c : Int) (w : World) :
    Calls Tryz.prog 99 #[.int .i64 c] w fun e w' => ∃ v, e = .returned v ∧ Lst .i64 w' v (cellL c) ∧ Below w.heap.size w w' :=
  (begins_any c w).mono fun _ _ ⟨v, he, hr, hb⟩ => ⟨v, he, lst_of_own hr, hb⟩
theorem begins_none (c : Int) (w : World) (hc : clsB c = false) : Calls Tryz.prog 99 #[.int .i64 c] w fun e w' => ∃ a k, e = .returned (.slice a 0 k) ∧ Below w.heap.size w w' :=
  (begins_lst c w).mono fun _ _ ⟨v, he, hl, hb⟩ => by
    rw [(cls_none c hc).2.2.2.2] at hl
    rcases hl with ⟨_, a, k, h1⟩ | ⟨_, _, _, _, h2, _⟩
    · exact ⟨a, k, by rw [he, h1], hb⟩
    · exact absurd h2 (by simp)
theorem cellL_at (j : Nat) (hj : j < 8) : (cellL (j : Int)).length = numF j ∧ ∀ k, k < numF j → (cellL (j : Int)).getD k 0 = ((k : Nat) : Int) * widF j := by
  obtain ⟨_, h2, h3, _, _⟩ := cls_nat j hj
  unfold cellL
  rw [h2, h3]
  refine ⟨by simp, fun k hk => ?_⟩
  rw [List.getD_eq_getElem?_getD, List.getElem?_map, List.getElem?_range hk]
  rfl
theorem begins_some (j : Nat) (hj : j < 8) (w : World) : Calls Tryz.prog 99 #[.int .i64 (j : Int)] w fun e w' => ∃ b o k, e = .returned (.slice (some ⟨b, o, none⟩) (numF j) k) ∧ (∀ i, i < numF j → w'.cell? ⟨b, o + i, none⟩ = some (.int .i64 (((i : Nat) : Int) * widF j))) ∧ Below w.heap.size w w' := by
  obtain ⟨h1, h2⟩ := cellL_at j hj
  refine (begins_lst (j : Int) w).mono fun _ _ ⟨v, he, hl, hb⟩ => ?_
  rcases hl with ⟨h3, _⟩ | ⟨b, o, k, h3, _, _, h4⟩
  · have h0 : ∀ j : Fin 8, 0 < numF j.val := by decide
    have h5 := h0 ⟨j, hj⟩
    change 0 < numF j at h5
    rw [h3] at h1
    simp at h1
    omega
  · rw [h1] at h3 h4
    exact ⟨b, o, k, by rw [he, h3], fun i hi => by rw [h4 i hi, h2 i hi], hb⟩
end Go.Proofs.YtpoddnfooaddgaaGreatDoor
/- The document's Starts, Cell, Free, First and Valid of layer 5. No condition but that each number fits its kind. -/
namespace Go.Proofs.YtpoddnfooaddgaaGreatDoor
open Go.RowKit
set_option linter.unusedVariables false

set_option maxRecDepth 100000 in
set_option maxHeartbeats 1000000 in
theorem rcell_any (c at_ : Int) (w : World) :
    Calls Tryz.prog 70 #[.int .i64 c, .int .i64 at_] w fun e w' => e = .returned (.int .i64 (cellI c at_)) ∧ Below w.heap.size w w' := by
  have P := Lib.hid (fun W => rwords_anySz c W)
  have hM := Lib.hid (cell_miss c at_)
  have hH := Lib.hid (cell_hit c at_)
  cases hc : clsB c with
  | false =>
    have Q := Lib.hid (fun W => begins_none c W hc)
    obtain ⟨h1, h2, h3, h4, h5⟩ := cls_none c hc
    have hm := hM.out (by rw [h2]; simp)
    rw [h1, h4] at P
    rw [hm]
    clear h1 h2 h3 h4 h5 hc hm hM hH
    go_enter Tryz.func70, Tryz.ntmps70
    go_wp2_with fail
    refine (P.out _).mono ?_
    rintro e w2 ⟨rfl, hb2⟩
    go_wp2_with fail
    refine (Q.out _).mono ?_
    rintro e w3 ⟨a, k, rfl, hb3⟩
    have hb := hb2.trans (hb3.mono hb2.size)
    go_wp2
    go_loopw [8] (fun i wr => i = .int .i64 0 ∧ wr = w3) (fun _ _ => 0)
    case atStart => exact ⟨rfl, rfl⟩
    case round =>
      obtain ⟨rfl, rfl⟩ := hrel
      go_wp2
      go_ret
      exact ⟨rfl, hb⟩
  | true =>
    obtain ⟨j, rfl, hj⟩ := clsB_yes hc
    obtain ⟨_, h2, h3, h4, h5⟩ := cls_nat j hj
    have Q := Lib.hid (fun W => begins_some j hj W)
    have hfit : Hid (∀ k, k < numF j → ((k : Nat) : Int) * widF j + widF j ≤ 64) := num_in j hj
    have hin : Hid (∀ k, inBCells (j : Int) at_ k = decide (((k : Nat) : Int) * widF j ≤ at_ ∧ at_ < ((k : Nat) : Int) * widF j + widF j)) := by unfold Hid inBCells; intro k; rw [h2]
    have hle := num_le j hj
    have hwd := widF_bd j hj
    rw [h2, h5] at P
    rw [h3] at hM hH
    rw [h2] at hH
    clear h2 h3 h4 h5 hc
    generalize cellI (j : Int) at_ = R at *
    generalize widF j = v at *
    generalize numF j = N at *
    go_enter Tryz.func70, Tryz.ntmps70
    go_wp2_with fail
    refine (P.out _).mono ?_
    rintro e w2 ⟨rfl, hb2⟩
    go_wp2_with fail
    refine (Q.out _).mono ?_
    rintro e w3 ⟨b, o, q, rfl, hcell, hb3⟩
    have hb := hb2.trans (hb3.mono hb2.size)
    have HC := Lib.hid hcell
    clear hcell hb2 hb3
    go_wp2
    go_loopw [8] (fun i wr => ∃ (k : Nat), k ≤ N ∧ i = .int .i64 k ∧ Hid (∀ y ∈ List.range k, inBCells (j : Int) at_ y = false) ∧ wr = w3) (fun i _ => N - (intOf i).toNat)
    case atStart => exact ⟨0, by omega, rfl, by unfold Hid; simp, rfl⟩
    case round =>
      obtain ⟨k, hk, rfl, hno, rfl⟩ := hrel
      by_cases hkN : k < N
      · have hcell := HC.out k hkN
        have hf := hfit.out k hkN
        have hi := hin.out k
        have hE0 : 0 ≤ ((k : Nat) : Int) * v := Int.mul_nonneg (by omega) (by omega)
        by_cases hy : ((k : Nat) : Int) * v ≤ at_ ∧ at_ < ((k : Nat) : Int) * v + v
        · rw [decide_eq_true hy] at hi
          have hR := hH.out (List.range k) k (by rw [← List.range_succ]; exact range_prefix _ _ (by omega)) hno.out hi
          obtain ⟨y1, y2⟩ := hy
          have HR := Lib.hid hR
          clear hR hi
          generalize ((k : Nat) : Int) * v = E at *
          go_wp2
          go_ret
          exact ⟨ret_int HR.out.symm, hb⟩
        · rw [decide_eq_false hy] at hi
          have hno2 : Hid (∀ y ∈ List.range (k + 1), inBCells (j : Int) at_ y = false) := by
            unfold Hid
            intro y hy
            rw [List.range_succ] at hy
            rcases List.mem_append.1 hy with h | h
            · exact hno.out y h
            · rw [List.mem_singleton.1 h]; exact hi
          clear hi
          generalize ((k : Nat) : Int) * v = E at *
          by_cases h1 : E ≤ at_
          · have h2 : ¬ at_ < E + v := fun h => hy ⟨h1, h⟩
            clear hy
            go_wp2
            go_roundw
            case rel => exact ⟨k + 1, by omega, by go_num, hno2, by first | rfl | trivial⟩
            case measure => simp [intOf]; omega
          · clear hy
            go_wp2
            go_roundw
            case rel => exact ⟨k + 1, by omega, by go_num, hno2, by first | rfl | trivial⟩
            case measure => simp [intOf]; omega
      · obtain rfl : k = N := by omega
        have hR := hM.out hno.out
        have HR := Lib.hid hR
        clear hR
        go_wp2
        go_ret
        exact ⟨ret_int HR.out.symm, hb⟩

theorem filt_snoc (L : List Int) (p : Int → Bool) (k : Nat) (h : k < L.length) : (L.take (k + 1)).filter p = (L.take k).filter p ++ (if p (L.getD k 0) then [L.getD k 0] else []) := by
  rw [List.take_add_one, List.getElem?_eq_getElem h, List.filter_append, List.getD_eq_getElem?_getD, List.getElem?_eq_getElem h]
  simp only [Option.toList, Option.getD_some]
  cases hp : p L[k] <;> simp [hp]

end Go.Proofs.YtpoddnfooaddgaaGreatDoor
/- The document's objects: Allocated. Condition: the plan is a plan, the cells are a row of their own. -/
namespace Go.Proofs.YtpoddnfooaddgaaGreatDoor
open Go.RowKit
set_option linter.unusedVariables false
theorem and_one (y : Int) (h : U64 y) : bits .and .u64 y 1 = y % 2 := by
  obtain ⟨h1, h2⟩ := h
  obtain ⟨n, rfl⟩ := Int.eq_ofNat_of_zero_le h1
  unfold bits
  simp
  have e1 : n % 2 ^ IntKind.u64.bits = n := Nat.mod_eq_of_lt (by simp [IntKind.bits]; omega)
  have e2 : 1 % 2 ^ IntKind.u64.bits = 1 := by simp [IntKind.bits]
  rw [e1, e2, Nat.and_one_is_mod, IntWalk.u64_in _ ⟨by omega, by omega⟩]
  omega
theorem bitB_bitI (x i : Int) (hx : U64 x) : (bitI x i == 0) = !bitB x i := by
  unfold bitB
  have h2 : (0 : Int) < ((2 ^ i.toNat : Nat) : Int) := by exact_mod_cast Nat.two_pow_pos _
  have hp : (2 : Int) ^ i.toNat = ((2 ^ i.toNat : Nat) : Int) := by push_cast; rfl
  rw [hp, and_one _ ⟨Int.ediv_nonneg hx.1 (Int.le_of_lt h2), Int.lt_of_le_of_lt (Int.ediv_le_self _ hx.1) hx.2⟩, ← bitI_eq x i hx]
  unfold powI
  simp
set_option maxRecDepth 100000 in
set_option maxHeartbeats 4000000 in
theorem rallocated_any (P T R x : Int) (d : Nat) (cs : List Int) (w : World) (h : Right P T R) (hx : I64 x) (hd : Blk w d (cs.map (Value.int .u64)).toArray 57) (hl : cs.length = cellsN P T R) (hU : ∀ z ∈ cs, U64 z) :
    Calls Tryz.prog 31 #[.slice (some ⟨d, 0, none⟩) (cellsN P T R) (cellsN P T R), mapV P T R, .int .i64 x] w fun e w' => e = .returned (.bool (holdB P T R cs x)) ∧ Below w.heap.size w w' := by
  have HP := Lib.hid (fun W => rheap_any P T R x W h hx)
  have hk := sixNew w P T R (baseI P T R) (tabI T R) (baseI P T R + 64 * P) 36
  have hb : Below w.heap.size w (w.alloc (.cells #[.int .i64 P, .int .i64 T, .int .i64 R, .int .i64 (baseI P T R), .int .i64 (tabI T R), .int .i64 (baseI P T R + 64 * P)] 36)) := (Below.refl _ _).alloc (Nat.le_refl _) _
  have hd1 := hd.grew hb
  obtain ⟨⟨a0, a1, a2, a3, a4, a5⟩, _⟩ := hk.six
  by_cases h0 : 0 ≤ (placeI P T R x).1
  · have hpP := place_lt h0
    have hpb := place_bdO P T R x
    obtain ⟨e0, l0, _⟩ := rowN_val (P := P) (T := T) (R := R) 0 h h0 hpP (by decide)
    obtain ⟨e1, l1, e2⟩ := rowN_val (P := P) (T := T) (R := R) 1 h h0 hpP (by decide)
    have hc := cellsN_bd h
    have ht := tab_bd h
    have RE := Lib.hid (fun W (hd : Blk W d (cs.map (Value.int .u64)).toArray 57) => rentry_any P T R (placeI P T R x).1 d cs W h h0 hpP hd hl hU)
    have BI := Lib.hid (fun W => bit_any (cs.getD (rowN P T R 1 (placeI P T R x).1) 0) (placeI P T R x).2 W (getD_U hU _) hpb.2.2.2)
    have BB := Lib.hid (bitB_bitI (cs.getD (rowN P T R 1 (placeI P T R x).1) 0) (placeI P T R x).2 (getD_U hU _))
    have GA := Lib.hid (fun W (hr : Blk W d (cs.map (Value.int .u64)).toArray 57) => row_get hr (i := rowN P T R 1 (placeI P T R x).1) (by rw [hl]; exact l1))
    have PA := Lib.hid (fun W => (by
      have := malloc_any P T R (baseI P T R) (tabI T R) (baseI P T R + 64 * P) (placeI P T R x).1 W
      rw [show wrap64 (wrap64 (tabI T R + P) + (placeI P T R x).1) = (rowN P T R 1 (placeI P T R x).1 : Int) by rw [← e1, e2, IntWalk.wrap64_in (tabI T R + P) ⟨by omega, by omega⟩, IntWalk.wrap64_in _ ⟨by omega, by omega⟩]; omega] at this
      exact this : Calls Tryz.prog 41 #[.agg #[.int .i64 P, .int .i64 T, .int .i64 R, .int .i64 (baseI P T R), .int .i64 (tabI T R), .int .i64 (baseI P T R + 64 * P)], .int .i64 (placeI P T R x).1] W fun e w' => e = .returned (.int .i64 (rowN P T R 1 (placeI P T R x).1 : Int)) ∧ Below W.heap.size W w'))
    have l3 : ((rowN P T R 1 (placeI P T R x).1 : Nat) : Int) < (cellsN P T R : Int) := by omega
    have CE := Lib.hid (fun W => rcell_any (cs.getD (rowN P T R 0 (placeI P T R x).1) 0 / 4 % 16) (placeI P T R x).2 W)
    have HB : Hid (holdB P T R cs x = (edecOk (cs.getD (rowN P T R 0 (placeI P T R x).1) 0) && (begB (cs.getD (rowN P T R 0 (placeI P T R x).1) 0 % 4) (cs.getD (rowN P T R 0 (placeI P T R x).1) 0 / 4 % 16) (placeI P T R x).2 && bitB (cs.getD (rowN P T R 1 (placeI P T R x).1) 0) (placeI P T R x).2))) := Lib.hid (by unfold holdB; rw [decide_eq_true h0]; rfl)
    rw [HB.out]
    clear HB e0 e1 e2 l0 l1 hd hl hU hpP hpb hx
    unfold mapV at HP RE ⊢
    generalize cs.getD (rowN P T R 0 (placeI P T R x).1) 0 = E at *
    generalize cs.getD (rowN P T R 1 (placeI P T R x).1) 0 = A at *
    generalize rowN P T R 1 (placeI P T R x).1 = q at *
    generalize (placeI P T R x).2 = off at *
    generalize (placeI P T R x).1 = pg at *
    generalize cellsN P T R = N at *
    generalize E / 64 % 4 = E2 at *
    generalize E / 256 % 16 = E3 at *
    generalize E / 65536 % 4294967296 = E4 at *
    generalize E / 4 % 16 = cl at *
    generalize E % 4 = k at *
    generalize baseI P T R = bs at *
    generalize tabI T R = tb at *
    generalize bs + 64 * P = z at *
    unfold decD at RE
    have h0' : ¬ pg < 0 := by omega
    cases hok : edecOk E with
    | false =>
      rw [hok] at RE
      go_enter Tryz.func31, Tryz.ntmps31
      go_wp2_with fail
      refine (HP.out _).mono ?_; rintro e w1 ⟨rfl, hb1⟩
      have hk1 := hk.grew hb1
      have hB1 := hb.trans (hb1.mono hb.size)
      have hd2 := hd1.grew hb1
      obtain ⟨⟨a0, a1, a2, a3, a4, a5⟩, _⟩ := hk1.six
      go_wp2_with fail
      refine (RE.out _ hd2).mono ?_; rintro e w2 ⟨rfl, hb2⟩
      have hB2 := hB1.trans (hb2.mono hB1.size)
      go_wp2
      go_ret
      exact ⟨rfl, hB2.alloc hB2.size _⟩
    | true =>
      rw [hok] at RE
      simp only [if_true] at RE
      cases hv : bitB A off with
      | false =>
        have e1 : bitI A off = 0 := by have := BB.out; rw [hv] at this; simpa using this
        rw [e1] at BI
        rw [Bool.and_false, Bool.and_false]
        clear BB e1 hv
        go_enter Tryz.func31, Tryz.ntmps31
        go_wp2_with fail
        refine (HP.out _).mono ?_; rintro e w1 ⟨rfl, hb1⟩
        have hk1 := hk.grew hb1
        have hB1 := hb.trans (hb1.mono hb.size)
        have hd2 := hd1.grew hb1
        clear a0 a1 a2 a3 a4 a5 hk hb hd1 hb1
        obtain ⟨⟨a0, a1, a2, a3, a4, a5⟩, _⟩ := hk1.six
        go_wp2_with fail
        refine (RE.out _ hd2).mono ?_; rintro e w2 ⟨rfl, hb2⟩
        have hb3 := hb2.alloc hb2.size (.cells #[.int .i64 k, .int .i64 cl, .int .i64 E2, .int .i64 E3, .int .i64 E4] 105)
        have hk3 := hk1.grew hb3
        have hB3 := hB1.trans (hb3.mono hB1.size)
        have hd3 := hd2.grew hb3
        clear a0 a1 a2 a3 a4 a5 hk1 hB1 hd2 hb2 hb3
        go_upto_region 5 with fail
        generalize w2.alloc (.cells #[.int .i64 k, .int .i64 cl, .int .i64 E2, .int .i64 E3, .int .i64 E4] 105) = w3 at *
        obtain ⟨⟨a0, a1, a2, a3, a4, a5⟩, _⟩ := hk3.six
        go_wp2_with fail
        refine (PA.out _).mono ?_; rintro e w4 ⟨rfl, hb4⟩
        have hB4 := hB3.trans (hb4.mono hB3.size)
        have c4 := GA.out _ (hd3.grew hb4)
        go_wp2_with fail
        refine (BI.out _).mono ?_; rintro e w5 ⟨rfl, hq5⟩
        have hB5 := hB4.trans hq5.below
        go_wp2
        go_ret
        exact ⟨rfl, hB5⟩
      | true =>
        have e1 : bitI A off = 1 := by
          have := BB.out
          rw [hv] at this
          rcases bitI_01 A off with h | h
          · rw [h] at this; simp at this
          · exact h
        rw [e1] at BI
        rw [Bool.and_true, Bool.true_and]
        clear BB e1 hv
        by_cases hk1' : k = 1
        · subst hk1'
          have hbg : Hid (begB 1 cl off = (cellI cl off == off)) := Lib.hid (by unfold begB; rw [if_pos rfl]; rfl)
          rw [hbg.out]
          go_enter Tryz.func31, Tryz.ntmps31
          go_wp2_with fail
          refine (HP.out _).mono ?_; rintro e w1 ⟨rfl, hb1⟩
          have hk1 := hk.grew hb1
          have hB1 := hb.trans (hb1.mono hb.size)
          have hd2 := hd1.grew hb1
          clear a0 a1 a2 a3 a4 a5 hk hb hd1 hb1
          obtain ⟨⟨a0, a1, a2, a3, a4, a5⟩, _⟩ := hk1.six
          go_wp2_with fail
          refine (RE.out _ hd2).mono ?_; rintro e w2 ⟨rfl, hb2⟩
          have hb3 := hb2.alloc hb2.size (.cells #[.int .i64 1, .int .i64 cl, .int .i64 E2, .int .i64 E3, .int .i64 E4] 105)
          have hE3 := Blk.new w2 #[.int .i64 1, .int .i64 cl, .int .i64 E2, .int .i64 E3, .int .i64 E4] 105
          have hk3 := hk1.grew hb3
          have hB3 := hB1.trans (hb3.mono hB1.size)
          have hd3 := hd2.grew hb3
          clear a0 a1 a2 a3 a4 a5 hk1 hB1 hd2 hb2 hb3
          go_upto_region 5 with fail
          generalize w2.alloc (.cells #[.int .i64 1, .int .i64 cl, .int .i64 E2, .int .i64 E3, .int .i64 E4] 105) = w3 at *
          generalize w2.heap.size = be at *
          obtain ⟨⟨a0, a1, a2, a3, a4, a5⟩, _⟩ := hk3.six
          go_wp2_with fail
          refine (PA.out _).mono ?_; rintro e w4 ⟨rfl, hb4⟩
          have hB4 := hB3.trans (hb4.mono hB3.size)
          have hE4 := hE3.grew hb4
          have c4 := GA.out _ (hd3.grew hb4)
          go_wp2_with fail
          refine (BI.out _).mono ?_; rintro e w5 ⟨rfl, hq5⟩
          have hB5 := hB4.trans hq5.below
          obtain ⟨b0, b1, b2, b3, b4⟩ := five_at (Blk.quiet hE4 hq5)
          go_wp2_with fail
          refine (CE.out _).mono ?_; rintro e w6 ⟨rfl, hb6⟩
          have hB6 := hB5.trans (hb6.mono hB5.size)
          go_wp2
          go_ret
          exact ⟨rfl, hB6⟩
        · have hbg : Hid (begB k cl off = (if k = 2 then off == 0 else false)) := Lib.hid (by unfold begB; rw [if_neg hk1']; rfl)
          rw [hbg.out]
          by_cases hk2' : k = 2
          · subst hk2'; rw [if_pos rfl]; clear hk1'
            go_enter Tryz.func31, Tryz.ntmps31
            go_wp2_with fail
            refine (HP.out _).mono ?_; rintro e w1 ⟨rfl, hb1⟩
            have hk1 := hk.grew hb1
            have hB1 := hb.trans (hb1.mono hb.size)
            have hd2 := hd1.grew hb1
            clear a0 a1 a2 a3 a4 a5 hk hb hd1 hb1
            obtain ⟨⟨a0, a1, a2, a3, a4, a5⟩, _⟩ := hk1.six
            go_wp2_with fail
            refine (RE.out _ hd2).mono ?_; rintro e w2 ⟨rfl, hb2⟩
            have hb3 := hb2.alloc hb2.size (.cells #[.int .i64 2, .int .i64 cl, .int .i64 E2, .int .i64 E3, .int .i64 E4] 105)
            have hE3 := Blk.new w2 #[.int .i64 2, .int .i64 cl, .int .i64 E2, .int .i64 E3, .int .i64 E4] 105
            have hk3 := hk1.grew hb3
            have hB3 := hB1.trans (hb3.mono hB1.size)
            have hd3 := hd2.grew hb3
            clear a0 a1 a2 a3 a4 a5 hk1 hB1 hd2 hb2 hb3
            go_upto_region 5 with fail
            generalize w2.alloc (.cells #[.int .i64 2, .int .i64 cl, .int .i64 E2, .int .i64 E3, .int .i64 E4] 105) = w3 at *
            generalize w2.heap.size = be at *
            obtain ⟨⟨a0, a1, a2, a3, a4, a5⟩, _⟩ := hk3.six
            go_wp2_with fail
            refine (PA.out _).mono ?_; rintro e w4 ⟨rfl, hb4⟩
            have hB4 := hB3.trans (hb4.mono hB3.size)
            have hE4 := hE3.grew hb4
            have c4 := GA.out _ (hd3.grew hb4)
            go_wp2_with fail
            refine (BI.out _).mono ?_; rintro e w5 ⟨rfl, hq5⟩
            have hB5 := hB4.trans hq5.below
            obtain ⟨b0, b1, b2, b3, b4⟩ := five_at (Blk.quiet hE4 hq5)
            go_wp2
            go_ret
            exact ⟨rfl, hB5⟩
          · rw [if_neg hk2']
            go_enter Tryz.func31, Tryz.ntmps31
            go_wp2_with fail
            refine (HP.out _).mono ?_; rintro e w1 ⟨rfl, hb1⟩
            have hk1 := hk.grew hb1
            have hB1 := hb.trans (hb1.mono hb.size)
            have hd2 := hd1.grew hb1
            clear a0 a1 a2 a3 a4 a5 hk hb hd1 hb1
            obtain ⟨⟨a0, a1, a2, a3, a4, a5⟩, _⟩ := hk1.six
            go_wp2_with fail
            refine (RE.out _ hd2).mono ?_; rintro e w2 ⟨rfl, hb2⟩
            have hb3 := hb2.alloc hb2.size (.cells #[.int .i64 k, .int .i64 cl, .int .i64 E2, .int .i64 E3, .int .i64 E4] 105)
            have hE3 := Blk.new w2 #[.int .i64 k, .int .i64 cl, .int .i64 E2, .int .i64 E3, .int .i64 E4] 105
            have hk3 := hk1.grew hb3
            have hB3 := hB1.trans (hb3.mono hB1.size)
            have hd3 := hd2.grew hb3
            clear a0 a1 a2 a3 a4 a5 hk1 hB1 hd2 hb2 hb3
            go_upto_region 5 with fail
            generalize w2.alloc (.cells #[.int .i64 k, .int .i64 cl, .int .i64 E2, .int .i64 E3, .int .i64 E4] 105) = w3 at *
            generalize w2.heap.size = be at *
            obtain ⟨⟨a0, a1, a2, a3, a4, a5⟩, _⟩ := hk3.six
            go_wp2_with fail
            refine (PA.out _).mono ?_; rintro e w4 ⟨rfl, hb4⟩
            have hB4 := hB3.trans (hb4.mono hB3.size)
            have hE4 := hE3.grew hb4
            have c4 := GA.out _ (hd3.grew hb4)
            go_wp2_with fail
            refine (BI.out _).mono ?_; rintro e w5 ⟨rfl, hq5⟩
            have hB5 := hB4.trans hq5.below
            obtain ⟨b0, b1, b2, b3, b4⟩ := five_at (Blk.quiet hE4 hq5)
            go_wp2
            go_ret
            exact ⟨rfl, hB5⟩
  · have hh : holdB P T R cs x = false := by unfold holdB; rw [decide_eq_false h0]; rfl
    rw [hh]
    have h0' : (placeI P T R x).1 < 0 := by omega
    clear hh hd hl hU
    unfold mapV at HP ⊢
    generalize (placeI P T R x).2 = off at *
    generalize (placeI P T R x).1 = pg at *
    go_enter Tryz.func31, Tryz.ntmps31
    go_wp2_with fail
    refine (HP.out _).mono ?_; rintro e w1 ⟨rfl, hb1⟩
    have hB1 := hb.trans (hb1.mono hb.size)
    go_wp2
    go_ret
    exact ⟨rfl, hB1⟩
end Go.Proofs.YtpoddnfooaddgaaGreatDoor
/- The document's objects: room. No condition but the page's bounds. -/
namespace Go.Proofs.YtpoddnfooaddgaaGreatDoor
open Go.RowKit
set_option linter.unusedVariables false
theorem pgV_bd (n : Int) : 0 ≤ pgV n ∧ pgV n ≤ 4 := by unfold pgV; split; omega; split; omega; split; omega; omega
def roomB (P k c pg n : Int) : Bool := if k = 2 then (pgV n == c) && decide (pg + pgV n ≤ P) else decide (n ≤ widI c)
set_option maxRecDepth 100000 in
set_option maxHeartbeats 2000000 in
theorem room_any (P T R bs tb z k c s o y pg fi hc hk hn : Int) (w : World) (h0 : 0 ≤ pg) (h1 : pg ≤ 31) :
    Calls Tryz.prog 68 #[.agg #[.int .i64 P, .int .i64 T, .int .i64 R, .int .i64 bs, .int .i64 tb, .int .i64 z], .agg #[.int .i64 k, .int .i64 c, .int .i64 s, .int .i64 o, .int .i64 y], .int .i64 pg, .int .i64 fi, .agg #[.int .i64 hc, .int .i64 hk, .int .i64 hn]] w fun e w' =>
      e = .returned (.bool (roomB P k c pg (wordsV hc hk hn))) ∧ Below w.heap.size w w' := by
  have WD := Lib.hid (fun W => rwords_anyRhead hc hk hn W)
  generalize wordsV hc hk hn = n at *
  have PG := Lib.hid (fun W => rpages_any n W)
  have WS := Lib.hid (fun W => rwords_anySz c W)
  have hp := pgV_bd n
  have k1 := sixNew w P T R bs tb z 36
  have b1 : Below w.heap.size w (w.alloc (.cells #[.int .i64 P, .int .i64 T, .int .i64 R, .int .i64 bs, .int .i64 tb, .int .i64 z] 36)) := (Below.refl _ _).alloc (Nat.le_refl _) _
  generalize hw1 : w.alloc (.cells #[.int .i64 P, .int .i64 T, .int .i64 R, .int .i64 bs, .int .i64 tb, .int .i64 z] 36) = w1 at *
  have k2 := entNew w1 k c s o y 105
  have b2 : Below w1.heap.size w1 (w1.alloc (.cells #[.int .i64 k, .int .i64 c, .int .i64 s, .int .i64 o, .int .i64 y] 105)) := (Below.refl _ _).alloc (Nat.le_refl _) _
  generalize hw2 : w1.alloc (.cells #[.int .i64 k, .int .i64 c, .int .i64 s, .int .i64 o, .int .i64 y] 105) = w2 at *
  have k3 := Blk.new w2 #[.int .i64 hc, .int .i64 hk, .int .i64 hn] 25
  have b3 : Below w2.heap.size w2 (w2.alloc (.cells #[.int .i64 hc, .int .i64 hk, .int .i64 hn] 25)) := (Below.refl _ _).alloc (Nat.le_refl _) _
  generalize hw3 : w2.alloc (.cells #[.int .i64 hc, .int .i64 hk, .int .i64 hn] 25) = w3 at *
  have B3 := b1.trans ((b2.trans (b3.mono b2.size)).mono b1.size)
  have K1 := k1.grew (b2.trans (b3.mono b2.size))
  have K2 := k2.grew b3
  obtain ⟨d0, d1, d2⟩ := k3.three.1
  clear b1 b2 b3 k1 k2
  generalize hb1 : w1.heap.size = e1 at *
  generalize hb2 : w2.heap.size = e2 at *
  go_enter Tryz.func68, Tryz.ntmps68
  go_upto_region 1 with fail
  replace hw1 := Lib.hid hw1
  replace hw2 := Lib.hid hw2
  replace hw3 := Lib.hid hw3
  replace hb1 := Lib.hid hb1
  replace hb2 := Lib.hid hb2
  go_wp2_with fail
  refine (WD.out _).mono ?_; rintro e w4 ⟨rfl, hb4⟩
  have B4 := B3.trans (hb4.mono B3.size)
  have K3 := K1.grew hb4
  obtain ⟨c0, c1, c2, c3, c4⟩ := five_at (K2.grew hb4)
  clear K1 K2 d0 d1 d2 WD
  by_cases hk2 : k = 2
  · subst hk2
    have hr : Hid (roomB P 2 c pg n = ((pgV n == c) && decide (pg + pgV n ≤ P))) := Lib.hid (by unfold roomB; rw [if_pos rfl])
    have p0 := K3.val 0 rfl
    go_wp2_with fail
    refine (PG.out _).mono ?_; rintro e w5 ⟨rfl, rfl⟩
    cases hv : (pgV n == c) with
    | false =>
      have hv' : ¬ pgV n = c := by simpa using hv
      go_wp2
      go_ret
      exact ⟨by rw [hr.out, hv]; rfl, B4⟩
    | true =>
      have hv' : pgV n = c := by simpa using hv
      go_wp2
      go_ret
      exact ⟨by rw [hr.out, hv, Bool.true_and]; first | rfl | (rw [hv']; rfl), B4⟩
  · have hr : Hid (roomB P k c pg n = decide (n ≤ widI c)) := Lib.hid (by unfold roomB; rw [if_neg hk2])
    go_wp2_with fail
    refine (WS.out _).mono ?_; rintro e w5 ⟨rfl, hb5⟩
    have B5 := B4.trans (hb5.mono B4.size)
    go_wp2
    go_ret
    exact ⟨by rw [hr.out]; rfl, B5⟩
end Go.Proofs.YtpoddnfooaddgaaGreatDoor
/- Pointers: the iterator of the words that are references; IsRef. Condition: the table is there. -/
namespace Go.Proofs.YtpoddnfooaddgaaGreatDoor
open Go.RowKit Go.Shelf
set_option linter.unusedVariables false
attribute [local go_sem] Oper.semAt_some
/-- the words below m that are references -/
def ptrs (cl : List ClsD) (c k : Int) (m : Nat) : List Nat := (List.range m).filter fun i => refI cl c k (i : Nat)
def ptrL (cl : List ClsD) (c k n : Int) : List Nat := if fitI cl c k n then ptrs cl c k n.toNat else []
theorem ptrs_yes {cl : List ClsD} {c k : Int} {m : Nat} (h : refI cl c k (m : Nat) = true) : ptrs cl c k (m + 1) = ptrs cl c k m ++ [m] := by
  unfold ptrs
  rw [List.range_succ, List.filter_append]
  simp [h]
theorem ptrs_no {cl : List ClsD} {c k : Int} {m : Nat} (h : refI cl c k (m : Nat) = false) : ptrs cl c k (m + 1) = ptrs cl c k m := by
  unfold ptrs
  rw [List.range_succ, List.filter_append]
  simp [h]
theorem ptrs_pre (cl : List ClsD) (c k : Int) {m n : Nat} (h : m ≤ n) : ptrs cl c k m <+: ptrs cl c k n := by
  induction n with
  | zero => obtain rfl : m = 0 := by omega
            exact List.prefix_rfl
  | succ n ih =>
    rcases Nat.lt_or_ge m (n + 1) with q | q
    · refine (ih (by omega)).trans ?_
      cases e : refI cl c k (n : Nat) with
      | true => rw [ptrs_yes e]; exact List.prefix_append _ _
      | false => rw [ptrs_no e]; exact List.prefix_rfl
    · obtain rfl : m = n + 1 := by omega
      exact List.prefix_rfl
theorem fit_len {cl : List ClsD} {c k n : Int} (h : fitI cl c k n = true) : 0 ≤ n := by
  unfold fitI at h
  split at h
  · split at h
    · simp at h; omega
    · cases h
  · exact (valid_len h).1
theorem fit_le {w : World} {lo t m : Nat} {v : Value} {L : List (ClsD × Value × Nat)} {c k n : Int} (hT : TabS w lo t v m L) (h : fitI (L.map (·.1)) c k n = true) : n ≤ 9223372036854775807 := by
  unfold fitI at h
  split at h
  · split at h
    · rename_i d hd
      have hm := List.mem_of_getElem? hd
      obtain ⟨x, hx, rfl⟩ := List.mem_map.1 hm
      have ho := (hT.rows.inner x hx).1
      simp at h
      rcases Nat.eq_zero_or_pos x.1.fields.length with e | e
      · omega
      · obtain ⟨_, _, _, _, _, h1, h2, _⟩ := own_cellG ho e
        unfold maxLen at h2
        omega
    · cases h
  · have := valid_len h; omega
theorem grown_below {w w' : World} (h : Below w.heap.size w w') : w.grownBy w' none := ⟨h.os, h.tape, h.output, h.size, fun k hk _ => h.block k hk⟩
abbrev ptrEnc (i : Nat) : Array Value := #[.int .i64 (i : Nat)]
end Go.Proofs.YtpoddnfooaddgaaGreatDoor
/- IsRef; the law's own example. Condition: the table is there. -/
namespace Go.Proofs.YtpoddnfooaddgaaGreatDoor
open Go.RowKit Go.Shelf
set_option linter.unusedVariables false
attribute [local go_sem] Oper.semAt_some
def isrI (cl : List ClsD) (c k n i : Int) : Bool := decide (∃ j ∈ ptrL cl c k n, ((j : Nat) : Int) = i)
theorem isr_hit {cl : List ClsD} {c k n i : Int} {pre : List Nat} {x : Nat} (h : (pre ++ [x]) <+: ptrL cl c k n) (hx : ((x : Nat) : Int) = i) : isrI cl c k n i = true := by
  unfold isrI
  simp only [decide_eq_true_eq]
  exact ⟨x, h.subset (by simp), hx⟩
theorem isr_miss {cl : List ClsD} {c k n i : Int} (h : ∀ x ∈ ptrL cl c k n, ((x : Nat) : Int) ≠ i) : isrI cl c k n i = false := by
  unfold isrI
  simp only [decide_eq_false_iff_not]
  rintro ⟨j, hj, e⟩
  exact h j hj e
end Go.Proofs.YtpoddnfooaddgaaGreatDoor
/- The law's own example: a class's references are told. No condition. -/
namespace Go.Proofs.YtpoddnfooaddgaaGreatDoor
open Go.RowKit
set_option linter.unusedVariables false
def fld0 : FldD := ⟨⟨#[110, 101, 120, 116]⟩, 2⟩
def fld1 : FldD := ⟨⟨#[110]⟩, 1⟩
def cls0 : ClsD := ⟨⟨#[110, 111, 100, 101]⟩, [fld0, fld1]⟩
theorem tab0 : tabE [cls0] = (0, 0) := by decide +kernel
theorem isr0 : isrI [cls0] 0 1 2 0 = true := by decide +kernel
theorem isr1 : isrI [cls0] 0 1 2 1 = false := by decide +kernel
theorem isr2 : isrI [cls0] 0 3 3 2 = true := by decide +kernel
theorem cls0_rd (w : World) : RdRow 2 (ElC (w.heap.size + 2)) (w.heap.size + 2) ((w.alloc (.cells #[.string ⟨#[110, 101, 120, 116]⟩, .int .i64 2, .string ⟨#[110]⟩, .int .i64 1] 178)).alloc (.cells #[.string ⟨#[110, 111, 100, 101]⟩, .slice (some ⟨w.heap.size, 0, none⟩) 2 2] 138)) (.slice (some ⟨w.heap.size + 1, 0, none⟩) 1 1) [cls0] := by
  have k1 : Blk ((w.alloc (.cells #[.string ⟨#[110, 101, 120, 116]⟩, .int .i64 2, .string ⟨#[110]⟩, .int .i64 1] 178)).alloc (.cells #[.string ⟨#[110, 111, 100, 101]⟩, .slice (some ⟨w.heap.size, 0, none⟩) 2 2] 138)) w.heap.size #[.string ⟨#[110, 101, 120, 116]⟩, .int .i64 2, .string ⟨#[110]⟩, .int .i64 1] 178 := (Blk.new _ _ _).alloc _
  have k2 : Blk ((w.alloc (.cells #[.string ⟨#[110, 101, 120, 116]⟩, .int .i64 2, .string ⟨#[110]⟩, .int .i64 1] 178)).alloc (.cells #[.string ⟨#[110, 111, 100, 101]⟩, .slice (some ⟨w.heap.size, 0, none⟩) 2 2] 138)) (w.heap.size + 1) #[.string ⟨#[110, 111, 100, 101]⟩, .slice (some ⟨w.heap.size, 0, none⟩) 2 2] 138 := Blk.new' (by simp)
  refine ⟨some ⟨w.heap.size + 1, 0, none⟩, 1, rfl, by unfold maxLen; simp, fun i hi => ⟨w.heap.size + 1, 0, rfl, by omega, ?_⟩⟩
  obtain rfl : i = 0 := by simpa using hi
  refine ⟨k2.val 0 rfl, _, k2.val 1 rfl, some ⟨w.heap.size, 0, none⟩, 2, rfl, by unfold maxLen; simp [cls0], fun j hj => ⟨w.heap.size, 0, rfl, by omega, ?_⟩⟩
  match j, hj with
  | 0, _ => exact ⟨k1.val 0 rfl, k1.val 1 rfl, (show I64 (2 : Int) from ⟨by omega, by omega⟩)⟩
  | 1, _ => exact ⟨k1.val 2 rfl, k1.val 3 rfl, (show I64 (1 : Int) from ⟨by omega, by omega⟩)⟩
  | j + 2, h => exact absurd h (by simp [cls0])
end Go.Proofs.YtpoddnfooaddgaaGreatDoor
/- The document's Name; the law ClassesNames. No condition. -/
namespace Go.Proofs.YtpoddnfooaddgaaGreatDoor
open Go.RowKit
set_option linter.unusedVariables false
end Go.Proofs.YtpoddnfooaddgaaGreatDoor
/- The document's Check of classes. Condition: the classes are there. -/
namespace Go.Proofs.YtpoddnfooaddgaaGreatDoor
open Go.RowKit
set_option linter.unusedVariables false
def fldsR (l : List FldD) : Int := if 15 < l.length then 3 else fldsE [] l
theorem nm_yes {a b : ByteArray} (h : nmB a = nmB b) : (a.toList == b.toList) = true := by rw [Lib.toList_data, Lib.toList_data]; simpa using h
theorem nm_no {a b : ByteArray} (h : nmB a ≠ nmB b) : (a.toList == b.toList) = false := by rw [Lib.toList_data, Lib.toList_data]; simpa using h
theorem fnames_mem {l : List FldD} {i : Nat} {s : Nm} : s ∈ fnames (l.take i) ↔ ∃ j, ∃ (h : j < l.length), j < i ∧ nmB l[j].name = s := by
  unfold fnames
  rw [List.mem_map]
  constructor
  · rintro ⟨f, hf, rfl⟩
    obtain ⟨j, hj, rfl⟩ := List.getElem_of_mem hf
    rw [List.length_take] at hj
    exact ⟨j, by omega, by omega, by rw [List.getElem_take]⟩
  · rintro ⟨j, h1, h2, rfl⟩
    exact ⟨l[j], List.mem_take_iff_getElem.2 ⟨j, by omega, rfl⟩, rfl⟩
end Go.Proofs.YtpoddnfooaddgaaGreatDoor
/- The document's Check of classes, its walk. Condition: the classes are there. -/
namespace Go.Proofs.YtpoddnfooaddgaaGreatDoor
open Go.RowKit
set_option linter.unusedVariables false
theorem cnames_mem {l : List ClsD} {i : Nat} {s : Nm} : s ∈ cnames (l.take i) ↔ ∃ j, ∃ (h : j < l.length), j < i ∧ nmB l[j].name = s := by
  unfold cnames
  rw [List.mem_map]
  constructor
  · rintro ⟨f, hf, rfl⟩
    obtain ⟨j, hj, rfl⟩ := List.getElem_of_mem hf
    rw [List.length_take] at hj
    exact ⟨j, by omega, by omega, by rw [List.getElem_take]⟩
  · rintro ⟨j, h1, h2, rfl⟩
    exact ⟨l[j], List.mem_take_iff_getElem.2 ⟨j, by omega, rfl⟩, rfl⟩
theorem newE_zero' : ∀ (l : List ClsD) (i : Nat) (seen : List Nm), (newE i seen l).2 = 0 → newE i seen l = (0, 0)
  | [], i, seen, _ => rfl
  | c :: r, i, seen, h => by
    rw [newE] at h ⊢
    by_cases e : clsE seen c = 0
    · rw [if_pos e] at h ⊢
      exact newE_zero' r _ _ h
    · rw [if_neg e] at h
      exact absurd h e
theorem newE_zero {l : List ClsD} (h : (newE 0 [] l).2 = 0) : newE 0 [] l = (0, 0) := newE_zero' l 0 [] h
end Go.Proofs.YtpoddnfooaddgaaGreatDoor
/- The document's SameClass (where a seat has classes alone). No condition. -/
namespace Go.Proofs.YtpoddnfooaddgaaGreatDoor
open Go.RowKit
set_option linter.unusedVariables false
theorem list_eq_of {α : Type} {l1 l2 : List α} (h : l1.length = l2.length) (he : ∀ i, (h1 : i < l1.length) → (h2 : i < l2.length) → l1[i] = l2[i]) : l1 = l2 := List.ext_getElem h he
theorem fields2 {l : List Field} {t u : TypeId} (h : l.map (fun f => (f.type, f.offset, f.name == "_")) = [(t, 0, false), (u, 1, false)]) :
    ∃ f g, l = [f, g] ∧ (f.type = t ∧ f.offset = 0 ∧ ¬ f.name = "_") ∧ (g.type = u ∧ g.offset = 1 ∧ ¬ g.name = "_") := by
  rcases l with _ | ⟨f0, _ | ⟨f1, _ | ⟨f2, l⟩⟩⟩ <;> simp only [List.map_cons, List.map_nil, List.cons.injEq, Prod.mk.injEq, beq_eq_false_iff_ne, ne_eq, and_true, reduceCtorEq, and_false] at h
  exact ⟨f0, f1, rfl, h.1, h.2⟩
theorem neq_fld (w : World) (a b : ByteArray) (x y : Int) :
    (binOp .neq 178 (.agg #[.string a, .int .i64 x]) (.agg #[.string b, .int .i64 y])).run Tryz.prog w = .ok (.bool (!(a.toList == b.toList && x == y))) w := by
  rw [run_neq_struct, run_equalIn_agg w 9999 _ _ _ (by kernel_rfl) (by kernel_rfl)]
  obtain ⟨f, g, hl, ⟨f1, f2, f3⟩, g1, g2, g3⟩ := fields2 (l := (Tryz.prog.fieldsOf 178).toList) (t := 9) (u := 3) (by kernel_rfl)
  rw [hl]
  have hi : Tryz.prog.underlying 3 = some (.int .i64) := by kernel_rfl
  have hs : Tryz.prog.underlying 9 = some .string := by kernel_rfl
  simp [Op.eqFields, f1, f2, f3, g1, g2, g3, go_sem, hi, hs]
  by_cases h1 : a.toList = b.toList <;> by_cases h2 : x = y <;> simp [h1, h2]
theorem guard_fld : Tryz.prog.eqGuardType Tryz.prog.depth 178 = false := by kernel_rfl
def fldP (f : FldD) : List UInt8 × Int := (f.name.toList, f.ty)
def clsP (c : ClsD) : List UInt8 × List (List UInt8 × Int) := (c.name.toList, c.fields.map fldP)
theorem map_eq_of {α β : Type} {f : α → β} {l1 l2 : List α} (h : l1.length = l2.length) (he : ∀ i, (h1 : i < l1.length) → (h2 : i < l2.length) → f l1[i] = f l2[i]) : l1.map f = l2.map f :=
  list_eq_of (by simpa using h) fun i h1 h2 => by simpa using he i (by simpa using h1) (by simpa using h2)
theorem map_ne_at {α β : Type} {f : α → β} {l1 l2 : List α} {i : Nat} (h1 : i < l1.length) (h2 : i < l2.length) (h : ¬ f l1[i] = f l2[i]) : ¬ l1.map f = l2.map f := fun e => h (by
  have q : (l1.map f)[i]? = (l2.map f)[i]? := by rw [e]
  simpa [List.getElem?_eq_getElem h1, List.getElem?_eq_getElem h2] using q)
theorem map_ne_len {α β : Type} {f : α → β} {l1 l2 : List α} (h : ¬ l1.length = l2.length) : ¬ l1.map f = l2.map f := fun e => h (by simpa using congrArg List.length e)
theorem fldP_eq {f g : FldD} : (f.name.toList == g.name.toList && f.ty == g.ty) = decide (fldP f = fldP g) := by
  unfold fldP
  by_cases h1 : f.name.toList = g.name.toList <;> by_cases h2 : f.ty = g.ty <;> simp [h1, h2]
theorem clsP_eq {f g : ClsD} : decide (clsP f = clsP g) = (decide (f.name.toList = g.name.toList) && decide (f.fields.map fldP = g.fields.map fldP)) := by
  unfold clsP
  by_cases h1 : f.name.toList = g.name.toList <;> by_cases h2 : f.fields.map fldP = g.fields.map fldP <;> simp [h1, h2]
end Go.Proofs.YtpoddnfooaddgaaGreatDoor
/- Table.Class: a class, in memory of its own. Condition: the table is there. -/
namespace Go.Proofs.YtpoddnfooaddgaaGreatDoor
open Go.RowKit
set_option linter.unusedVariables false
end Go.Proofs.YtpoddnfooaddgaaGreatDoor
/- The law ClassesMakes. Condition: the argument reads as classes. -/
namespace Go.Proofs.YtpoddnfooaddgaaGreatDoor
open Go.RowKit
set_option linter.unusedVariables false
theorem newE_all : ∀ (l : List ClsD) (i : Nat) (seen : List Nm), (newE i seen l).2 = 0 → ∀ c ∈ l, c.fields.length ≤ 15
  | [], _, _, _, c, hc => by cases hc
  | d :: r, i, seen, h, c, hc => by
    rw [newE] at h
    by_cases e : clsE seen d = 0
    · rw [if_pos e] at h
      rcases List.mem_cons.1 hc with q | q
      · subst q
        unfold clsE at e
        split at e
        · cases e
        · split at e
          · cases e
          · split at e
            · cases e
            · omega
      · exact newE_all r _ _ h c q
    · rw [if_neg e] at h
      exact absurd h e
theorem tabE_zero {l : List ClsD} (h : (tabE l).2 = 0) : tabE l = (0, 0) ∧ ∀ c ∈ l, c.fields.length ≤ 15 := by
  unfold tabE at h ⊢
  split at h
  · cases h
  · rename_i e
    rw [if_neg e]
    exact ⟨newE_zero h, newE_all l 0 [] h⟩
theorem rd_mem {α : Type} {sz B : Nat} {el : World → Nat → Nat → α → Prop} {w : World} {v : Value} {l : List α} (h : RdRow sz el B w v l) {x : α} (hx : x ∈ l) : ∃ b k, el w b k x := by
  obtain ⟨a, c, h1, h2, h3⟩ := h
  obtain ⟨i, hi, rfl⟩ := List.getElem_of_mem hx
  obtain ⟨b, o, _, _, e⟩ := h3 i hi
  exact ⟨b, _, e⟩
theorem okC_of {B : Nat} {w : World} {v : Value} {l : List ClsD} (h : RdRow 2 (ElC B) B w v l) : ∀ c ∈ l, ∀ f ∈ c.fields, I64 f.ty := fun c hc f hf => by
  obtain ⟨_, _, _, v, _, r⟩ := rd_mem h hc
  obtain ⟨_, _, _, _, q⟩ := rd_mem r hf
  exact q
end Go.Proofs.YtpoddnfooaddgaaGreatDoor
/- Find, Field, and the document's Find, Field, Type. Condition: the table, the classes are there. -/
namespace Go.Proofs.YtpoddnfooaddgaaGreatDoor
open Go.RowKit
set_option linter.unusedVariables false
theorem idxOf_first {s : Nm} : ∀ (l : List Nm) (k : Nat) (hk : k < l.length), l[k] = s → (∀ j (hj : j < l.length), j < k → l[j] ≠ s) → l.idxOf s = k
  | x :: r, 0, _, h, _ => by
    have h' : x = s := h
    subst h'
    simp
  | x :: r, k + 1, hk, h, hn => by
    have hx : x ≠ s := hn 0 (by simp) (by omega)
    have hr := idxOf_first r k (by simpa using hk) (by simpa using h) (fun j hj hjk => by
      have := hn (j + 1) (by simpa using hj) (by omega)
      simpa using this)
    rw [List.idxOf_cons, beq_eq_false_iff_ne.2 hx, hr]
    rfl
def seekI (l : List Nm) (s : Nm) (e : Int) : Int × Int := if s ∈ l then (((l.idxOf s : Nat) : Int), 0) else (0, e)
theorem seek_hit {l : List Nm} {s : Nm} {e : Int} {k : Nat} (hk : k < l.length) (h : l[k] = s) (hn : ∀ j (hj : j < l.length), j < k → l[j] ≠ s) : seekI l s e = ((k : Int), 0) := by
  unfold seekI
  rw [if_pos (h ▸ List.getElem_mem hk), idxOf_first l k hk h hn]
theorem seek_miss {l : List Nm} {s : Nm} {e : Int} (hn : ∀ j (hj : j < l.length), l[j] ≠ s) : seekI l s e = (0, e) := by
  unfold seekI
  rw [if_neg]
  intro hm
  obtain ⟨j, hj, h⟩ := List.getElem_of_mem hm
  exact hn j hj h
theorem cnames_at {l : List ClsD} {i : Nat} (hi : i < l.length) : (cnames l)[i]'(by unfold cnames; rw [List.length_map]; exact hi) = nmB l[i].name := by simp [cnames]
theorem fnames_at {l : List FldD} {i : Nat} (hi : i < l.length) : (fnames l)[i]'(by unfold fnames; rw [List.length_map]; exact hi) = nmB l[i].name := by simp [fnames]
def fieldI (cl : List ClsD) (c : Int) (s : Nm) : Int × Int := if atB cl.length c then (match cl[c.toNat]? with | some d => seekI (fnames d.fields) s 22 | none => (0, 21)) else (0, 21)
theorem fieldI_at {cl : List ClsD} {c : Nat} (hc : c < cl.length) (s : Nm) : fieldI cl c s = seekI (fnames cl[c].fields) s 22 := by
  unfold fieldI
  rw [if_pos (by unfold atB; simp; omega)]
  simp [hc]
theorem fieldI_no {cl : List ClsD} {c : Int} (hc : atB cl.length c = false) (s : Nm) : fieldI cl c s = (0, 21) := by
  unfold fieldI
  rw [if_neg (by rw [hc]; decide)]
end Go.Proofs.YtpoddnfooaddgaaGreatDoor
/- The document's Find, Field, Type. Condition: the classes are there. -/
namespace Go.Proofs.YtpoddnfooaddgaaGreatDoor
open Go.RowKit
set_option linter.unusedVariables false
theorem atB_neg {n : Nat} {i : Int} (h : atB n i = false) (h0 : ¬ i < 0) : (n : Int) ≤ i := by
  unfold atB at h
  simp at h
  exact h (by omega)
end Go.Proofs.YtpoddnfooaddgaaGreatDoor
