/- Texts of this seat, one behind the other: each says at its head what it holds. No condition of its own. -/
import Derived.Deep.RegionHeld3
import Derived.Test.YtichmgilglaglaaGreatDoorGObjectsRefs01
import Derived.Test.YtichmgilglaglaaGreatDoorGObjectsRefs18
import Derived.Test.YtichmgilglaglaaGreatDoorGObjectsRefs23
import Derived.Test.YtichmgilglaglaaGreatDoorGObjectsRefs25
import Derived.Test.YtichmgilglaglaaGreatDoorGObjectsRefs26
import Derived.Test.YtichmgilglaglaaGreatDoorGObjectsRefs27
/- ClassesMaps: words for its walk. No condition. -/
namespace Go.Proofs.YtichmgilglaglaaGreatDoor
open Go.RowKit
set_option linter.unusedVariables false
theorem mod_litC (x k : Int) (h0 : 0 < k) (h1 : k ≤ 1000000) : 0 ≤ wrap64 ((IntKind.u64.wrap x).tmod k) ∧ wrap64 ((IntKind.u64.wrap x).tmod k) < k := by
  have hw : 0 ≤ IntKind.u64.wrap x := by rw [IntKind.wrap_u64]; omega
  generalize IntKind.u64.wrap x = y at *
  have e : y.tmod k = y % k := by rw [Int.tmod_eq_emod_of_nonneg hw]
  have h2 := Int.emod_nonneg y (show k ≠ 0 by omega)
  have h3 := Int.emod_lt_of_pos y h0
  rw [e]
  generalize y % k = z at *
  rw [IntWalk.wrap64_in z ⟨by omega, by omega⟩]
  exact ⟨h2, h3⟩
theorem name_actC {F : Fence} {n : Nat} {P : Program} {c : Code} {Q : Exit → Act → World → Prop} {a : Act} {w : World} (h : ∀ a0, a0 = a → c.wpIn F n P Q a0 w) : c.wpIn F n P Q a w := h a rfl
def insL (l : List Nat) : List Int := l.map fun j : Nat => (j : Int)
theorem insL_snoc (l : List Nat) (x : Nat) : insL (l ++ [x]) = insL l ++ [(x : Int)] := by unfold insL; simp
theorem insL_len (l : List Nat) : (insL l).length = l.length := by unfold insL; simp
theorem natC_ins (l : List Nat) : natC l = (insL l).map (Value.int .i64) := by unfold natC insL; simp
theorem lst_ownC {w : World} {base : Nat} {e : TypeId} {v : Value} {n : Nat} {zs : List Int} (h : w.ownsRow base e 1 v n (zs.map (Value.int .i64))) : Lst .i64 w v zs := by
  have hn : zs.length = n := by have := h.1; simpa using this
  obtain ⟨a, c, hv, _, hl⟩ := own_subL h hn (List.prefix_refl zs)
  rw [hv, ← hn]; exact hl
/-- what a range's caller may write: its box, and what was made since -/
def KpB (P n : Nat) (A B : World) : Prop := Touch (fun b => b = P ∨ n ≤ b) A B
theorem KpB.tr {P n : Nat} {A B C : World} (h : KpB P n A B) (k : KpB P n B C) : KpB P n A C := Touch.trans h k
theorem KpB.grow {P n : Nat} {A B : World} (h : Below A.heap.size A B) : KpB P n A B := Touch.of h
theorem KpB.put {P n : Nat} {w : World} (hn : n ≤ w.heap.size) (W : World) (l : Nat) (o o' : Obj) (hl : w.heap.size ≤ l) (h : W.heap[l]? = some o) (_ : o.isCells = false) (_ : o.isWalk = false) : KpB P n W (W.putObj l o') :=
  (Touch.refl _ W).grown (grownBy_putObj' W l o') (fun k e => by cases e; exact .inl (.inr (by omega)))
theorem KpB.app {P n : Nat} {W w1 : World} {tmp : Obj} {v v' : Value} (hgrow : (W.alloc tmp).grownBy w1 v.ownBlock) (hv : ∀ k, v.ownBlock = some k → n ≤ k) : KpB P n W (w1.setCell ⟨P, 0, none⟩ v') :=
  (((Touch.refl _ W).alloc tmp).grown hgrow (fun k e => .inl (.inr (hv k e)))).setCell (.inl rfl) _
theorem Blk.neC {w : World} {b b' : Nat} {cs cs' : Array Value} {t t' : TypeId} (h : Blk w b cs t) (h' : Blk w b' cs' t') (ht : t ≠ t') : b ≠ b' := by
  intro e
  subst e
  unfold Blk at h h'
  rw [h] at h'
  simp only [Option.some.injEq, Obj.cells.injEq] at h'
  exact ht h'.2.1
theorem quiet_belowC {A B : World} (h : Quiet A B) : Below A.heap.size A B := h.below
theorem natC_snoc (l : List Nat) (x : Nat) : natC (l ++ [x]) = natC l ++ [Value.int .i64 (x : Int)] := by unfold natC; simp
theorem TabS.touchC {w w' : World} {lo t m : Nat} {v : Value} {L : List (ClsD × Value × Nat)} (h : TabS w lo t v m L) (hT : Touch (fun b => b < lo ∨ w.heap.size ≤ b) w w') : TabS w' lo t v m L :=
  h.touch hT (fun g h1 h2 => by omega)
theorem own_subC {w : World} {base : Nat} {e : TypeId} {v : Value} {n : Nat} {l q : List Nat} (h : w.ownsRow base e 1 v n (natC l)) (hn : l.length = n) (hq : q <+: l) : ∃ a c, v = .slice a n c ∧ n ≤ c ∧ Lst .i64 w (.slice a q.length c) (insL q) := by
  rw [natC_ins] at h
  obtain ⟨a, c, h1, h2, h3⟩ := own_subL h (by rw [insL_len]; exact hn) (q := insL q) (by unfold insL; exact hq.map _)
  rw [insL_len] at h3
  exact ⟨a, c, h1, h2, h3⟩
/-- what is read between the two ranges and the end -/
structure SixC (w : World) (P4 P6 Pa Ps : Nat) (c k n : Int) (S : Nat) (va vs : Value) (W : World) : Prop where
  h4 : Blk W P4 #[.int .i64 c, .int .i64 k, .int .i64 n] 25
  h6 : Blk W P6 #[.int .i64 S] 3
  ha : Boxed W Pa 168 va
  hs : Boxed W Ps 168 vs
theorem SixC.cells {w W : World} {P4 P6 Pa Ps : Nat} {c k n : Int} {S : Nat} {va vs : Value} (h : SixC w P4 P6 Pa Ps c k n S va vs W) :
    (W.cell? ⟨P4, 0, none⟩ = some (.int .i64 c) ∧ W.cell? ⟨P4, 1, none⟩ = some (.int .i64 k) ∧ W.cell? ⟨P4, 2, none⟩ = some (.int .i64 n)) ∧ W.cell? ⟨P6, 0, none⟩ = some (.int .i64 S) ∧ W.cell? ⟨Pa, 0, none⟩ = some va ∧ W.cell? ⟨Ps, 0, none⟩ = some vs :=
  ⟨⟨h.h4.val 0 rfl, h.h4.val 1 rfl, h.h4.val 2 rfl⟩, h.h6.val 0 rfl, h.ha.cell, h.hs.cell⟩
theorem SixC.touch {R : Nat → Prop} {w W W' : World} {P4 P6 Pa Ps : Nat} {c k n : Int} {S : Nat} {va vs : Value} (h : SixC w P4 P6 Pa Ps c k n S va vs W) (ht : Touch R W W') (h4 : ¬ R P4) (h6 : ¬ R P6) (ha : ¬ R Pa) (hs : ¬ R Ps) : SixC w P4 P6 Pa Ps c k n S va vs W' :=
  ⟨h.h4.touch ht h4, h.h6.touch ht h6, (ht.block _ h.ha.lt ha).trans h.ha, (ht.block _ h.hs.lt hs).trans h.hs⟩
end Go.Proofs.YtichmgilglaglaaGreatDoor
/- Package sizes: what free, Cells, Room, Valid return; the document's Begins, Starts, Cell, Free. No condition but that the tables lie as the start lays them. -/
namespace Go.Proofs.YtichmgilglaglaaGreatDoor
open Go.RowKit
set_option linter.unusedVariables false

/-! numbers, by classes -/
theorem starts_plcs : ∀ j : Fin 8, plcs (stOr (widF j.val) (List.range (numF j.val))).toNat 64 = (List.range (numF j.val)).map fun i => ((i : Nat) : Int) * widF j.val := by decide +kernel
theorem starts_u64 : ∀ j : Fin 8, 0 ≤ stOr (widF j.val) (List.range (numF j.val)) ∧ stOr (widF j.val) (List.range (numF j.val)) < 18446744073709551616 := by decide +kernel
theorem starts_sum : ∀ j : Fin 8, ∀ k : Fin 32, k.val < numF j.val → IntKind.u64.wrap (stOr (widF j.val) (List.range k.val) + powI (((k.val : Nat) : Int) * widF j.val)) = stOr (widF j.val) (List.range (k.val + 1)) := by decide +kernel
theorem cells_bit : ∀ j : Fin 8, ∀ p : Fin 64, decide (cellI ((j.val : Nat) : Int) ((p.val : Nat) : Int) = ((p.val : Nat) : Int)) = (stOr (widF j.val) (List.range (numF j.val))).toNat.testBit p.val := by decide +kernel
theorem cls_nat (j : Nat) (h : j < 8) : clsB (j : Int) = true ∧ widI (j : Int) = widF j ∧ numN (j : Int) = numF j ∧ startsI (j : Int) = stOr (widF j) (List.range (numF j)) ∧ errI (j : Int) = 0 := by
  have hc : clsB (j : Int) = true := by unfold clsB; simp; omega
  refine ⟨hc, ?_, ?_, ?_, ?_⟩
  · unfold widI; rw [hc, if_pos rfl, Int.toNat_natCast]
  · unfold numN; rw [hc, if_pos rfl, Int.toNat_natCast]
  · unfold startsI; rw [hc, if_pos rfl, Int.toNat_natCast]
  · unfold errI; rw [hc, if_pos rfl]
theorem cls_none (c : Int) (hc : clsB c = false) : widI c = 0 ∧ numN c = 0 ∧ startsI c = 0 ∧ errI c = 1 ∧ cellL c = [] := by
  have h1 : numN c = 0 := by unfold numN; rw [hc]; rfl
  exact ⟨by unfold widI; rw [hc]; rfl, h1, by unfold startsI; rw [hc]; rfl, by unfold errI; rw [hc]; rfl, by unfold cellL; rw [h1]; rfl⟩
theorem startsI_plcs (c : Int) : plcs (startsI c).toNat 64 = cellL c := by
  cases hc : clsB c with
  | true =>
    obtain ⟨j, rfl, hj⟩ := clsB_yes hc
    obtain ⟨_, h2, h3, h4, _⟩ := cls_nat j hj
    unfold cellL
    rw [h2, h3, h4]
    exact starts_plcs ⟨j, hj⟩
  | false =>
    obtain ⟨_, _, h3, _, h5⟩ := cls_none c hc
    rw [h3, h5, show (0 : Int).toNat = 0 from rfl, plcs_nil]
theorem startsI_U64 (c : Int) : U64 (startsI c) := by
  cases hc : clsB c with
  | true =>
    obtain ⟨j, rfl, hj⟩ := clsB_yes hc
    rw [(cls_nat j hj).2.2.2.1]
    exact starts_u64 ⟨j, hj⟩
  | false => rw [(cls_none c hc).2.2.1]; exact ⟨by decide, by decide⟩

/-! bits taken away -/
theorem andNot_nat (x y : Int) (hx : U64 x) (hy : U64 y) : U64 (bits .andNot .u64 x y) ∧ (bits .andNot .u64 x y).toNat = x.toNat &&& (18446744073709551615 - y.toNat) := by
  obtain ⟨X, rfl⟩ := Int.eq_ofNat_of_zero_le hx.1
  obtain ⟨Y, rfl⟩ := Int.eq_ofNat_of_zero_le hy.1
  have hX : X < 2 ^ 64 := by have := hx.2; omega
  have hY : Y < 2 ^ 64 := by have := hy.2; omega
  rw [u64_andNot_nat _ _ (by omega) (by omega)]
  exact ⟨U64.nat _ (Nat.and_lt_two_pow _ (by omega)), by simp⟩
theorem plcs_diff (X Y : Nat) (hY : Y < 2 ^ 64) : ∀ n, n ≤ 64 → plcs (X &&& (18446744073709551615 - Y)) n = (plcs X n).filter fun z => !Y.testBit z.toNat
  | 0, _ => rfl
  | n + 1, h => by
    have ih := plcs_diff X Y hY n (by omega)
    have hb : (X &&& (18446744073709551615 - Y)).testBit n = (X.testBit n && !Y.testBit n) := by
      rw [Nat.testBit_and, testBit_not64 _ _ hY]
      simp [show n < 64 by omega]
    cases h1 : X.testBit n with
    | true =>
      rw [h1] at hb
      rw [plcs_one X n h1, List.filter_append]
      cases h2 : Y.testBit n with
      | true =>
        rw [h2] at hb
        rw [plcs_no _ n (by rw [hb]; rfl), ih]
        simp [h2]
      | false =>
        rw [h2] at hb
        rw [plcs_one _ n (by rw [hb]; rfl), ih]
        simp [h2]
    | false =>
      rw [h1] at hb
      rw [plcs_no X n h1, plcs_no _ n (by rw [hb]; rfl), ih]
theorem plcs_zero_of (X : Nat) (hX : X < 2 ^ 64) (h : plcs X 64 = []) : X = 0 := by
  rcases Nat.eq_zero_or_pos X with h0 | h0
  · exact h0
  · have := (plcs_low X hX (by omega)).1
    rw [h] at this
    exact absurd this (by simp)

/-- the cells that aren't allocated, as bits, as words -/
def freeI (c a : Int) : Int := bits .andNot .u64 (startsI c) a
def freeL (c a : Int) : List Int := (cellL c).filter fun z => !a.toNat.testBit z.toNat
theorem freeI_U64 (c a : Int) (ha : U64 a) : U64 (freeI c a) := (andNot_nat _ _ (startsI_U64 c) ha).1
theorem freeI_plcs (c a : Int) (ha : U64 a) : plcs (freeI c a).toNat 64 = freeL c a := by
  unfold freeI freeL
  rw [(andNot_nat _ _ (startsI_U64 c) ha).2, plcs_diff _ _ (by have := ha.2; have := ha.1; omega) 64 (by omega), startsI_plcs]
def validB (c a : Int) : Bool := clsB c && ((plcs a.toNat 64).all fun p => decide (cellI c p = p))
theorem valid_bits (c a : Int) (ha : U64 a) (hc : clsB c = true) : (bits .andNot .u64 a (startsI c) == 0) = validB c a := by
  obtain ⟨j, rfl, hj⟩ := clsB_yes hc
  have hs := startsI_U64 (j : Int)
  obtain ⟨h1, h2⟩ := andNot_nat a _ ha hs
  have hlt : (startsI (j : Int)).toNat < 2 ^ 64 := by have := hs.2; have := hs.1; omega
  have hp := plcs_diff a.toNat _ hlt 64 (by omega)
  rw [← h2] at hp
  have hall : ((plcs a.toNat 64).all fun p => decide (cellI (j : Int) p = p)) = ((plcs a.toNat 64).all fun p => (startsI (j : Int)).toNat.testBit p.toNat) := by
    rw [Bool.eq_iff_iff, List.all_eq_true, List.all_eq_true]
    have hpt : ∀ p ∈ plcs a.toNat 64, decide (cellI (j : Int) p = p) = (startsI (j : Int)).toNat.testBit p.toNat := by
      intro p hp
      obtain ⟨h3, h4, _⟩ := plcs_mem hp
      have := cells_bit ⟨j, hj⟩ ⟨p.toNat, by omega⟩
      simp only at this
      rw [show ((p.toNat : Nat) : Int) = p by omega] at this
      rw [(cls_nat j hj).2.2.2.1, this]
    exact ⟨fun h p hp => by rw [← hpt p hp]; exact h p hp, fun h p hp => by rw [hpt p hp]; exact h p hp⟩
  unfold validB
  rw [hc, Bool.true_and, hall, Bool.eq_iff_iff, List.all_eq_true, beq_iff_eq]
  constructor
  · intro h0 p hpm
    rw [h0, show (0 : Int).toNat = 0 from rfl, plcs_nil] at hp
    have := List.filter_eq_nil_iff.1 hp.symm p hpm
    simpa using this
  · intro h
    have h5 : plcs (bits .andNot .u64 a (startsI (j : Int))).toNat 64 = [] := by
      rw [hp]
      exact List.filter_eq_nil_iff.2 (fun p hpm => by simpa using h p hpm)
    have h6 := plcs_zero_of _ (by have := h1.2; have := h1.1; omega) h5
    have := h1.1
    omega

/-! the document's -/
set_option maxRecDepth 100000 in
set_option maxHeartbeats 1000000 in
theorem begins_any (c : Int) (w : World) :
    Calls Tryz.prog 110 #[.int .i64 c] w fun e w' => ∃ v, e = .returned v ∧ w'.ownsRow w.heap.size 3 1 v (cellL c).length ((cellL c).map (Value.int .i64)) ∧ Below w.heap.size w w' := by
  obtain ⟨i0, hi, hz0, hz1, hz2⟩ := info_parts info_int
  have P := Lib.hid (fun W => rwords_anySz c W)
  cases hc : clsB c with
  | false =>
    obtain ⟨h1, h2, h3, h4, h5⟩ := cls_none c hc
    rw [h1, h4] at P
    rw [h5]
    clear h1 h2 h3 h4 h5 hc
    go_enter Tryz.func110, Tryz.ntmps110
    go_wp2_with fail
    refine (P.out _).mono ?_
    rintro e w2 ⟨rfl, hb2⟩
    go_wp2
    go_ret
    exact ⟨_, rfl, World.ownsRow_nil _ _ _ _, hb2⟩
  | true =>
    obtain ⟨j, rfl, hj⟩ := clsB_yes hc
    obtain ⟨_, h2, h3, h4, h5⟩ := cls_nat j hj
    have hend := Lib.hid (num_over j hj)
    have hfit : Hid (∀ k, k < numF j → ((k : Nat) : Int) * widF j + widF j ≤ 64) := num_in j hj
    have hle := num_le j hj
    have hwd := widF_bd j hj
    have hL : cellL (j : Int) = (List.range (numF j)).map fun i => ((i : Nat) : Int) * widF j := by unfold cellL; rw [h2, h3]
    have hLN : ∀ N : Nat, ((List.range N).map fun i => ((i : Nat) : Int) * widF j).length = N := by intro N; simp
    rw [h2, h5] at P
    rw [hL, hLN]
    clear h2 h3 h4 h5 hc hL hLN
    generalize widF j = v at *
    generalize numF j = N at *
    go_enter Tryz.func110, Tryz.ntmps110
    go_wp2_with fail
    refine (P.out _).mono ?_
    rintro e w2 ⟨rfl, hb2⟩
    have hs2 := hb2.size
    go_wp2
    go_loopw [5, 6] (fun l p wr => ∃ (k : Nat) (E : Int), k ≤ N ∧ p = .int .i64 E ∧ Hid (E = ((k : Nat) : Int) * v) ∧ 0 ≤ E ∧ E ≤ 64 ∧
        wr.ownsRow w.heap.size 3 1 l k (((List.range k).map fun i => ((i : Nat) : Int) * v).map (Value.int .i64)) ∧ Below w.heap.size w wr) (fun _ p _ => 64 - (intOf p).toNat)
    case atStart => exact ⟨0, 0, by omega, rfl, by unfold Hid; simp, by omega, by omega, World.ownsRow_nil _ _ _ _, hb2⟩
    case round =>
      obtain ⟨k, E, hk, rfl, hE, hE0, hE1, hown, hb⟩ := hrel
      have hsz := hb.size
      by_cases hkN : k < N
      · have hf := hfit.out k hkN
        rw [← hE.out] at hf
        have HS : Hid (E + v = (((k + 1 : Nat) : Nat) : Int) * v) := by unfold Hid; rw [hE.out]; push_cast; rw [Int.add_mul, Int.one_mul]
        have HR : Hid (((List.range (k + 1)).map fun i => ((i : Nat) : Int) * v).map (Value.int .i64) = ((List.range k).map fun i => ((i : Nat) : Int) * v).map (Value.int .i64) ++ [.int .i64 E]) := by
          unfold Hid; rw [List.range_succ, List.map_append, List.map_append]; simp [hE.out]
        go_wp2_with (at_builtin; refine wpList_append_own _ rfl _ _ 168 rfl w.heap.size 3 i0 (.int .i64 0) 1 8 Tryz.underlying168 hi hz0 hz1 hz2 rfl (by decide) _ _ _ rfl (hown.alloc _) ⟨wr.heap.size, 0, none⟩ 1 1 [.int .i64 E] rfl rfl (cell_one_new _ _ _) ?c2 ?c3 ?c4 ?c5 ?_)
        case c2 => simp [Value.oneCell']
        case c3 => unfold maxLen; omega
        case c4 => omega
        case c5 => simp; omega
        intro v' w3 hown3 hgrow _
        have hb3 : Below w.heap.size w w3 := (hb.alloc hsz _).grown hgrow (by simp; omega) (fun j hj => (hown.lt j hj).1)
        have hown4 : w3.ownsRow w.heap.size 3 1 v' (k + 1) (((List.range (k + 1)).map fun i => ((i : Nat) : Int) * v).map (Value.int .i64)) := by rw [HR.out, List.map_map]; exact hown3
        clear hgrow hown hb HR hown3
        go_wp2
        go_roundw
        case rel => exact ⟨k + 1, E + v, by omega, rfl, HS, by omega, by omega, hown4, hb3⟩
        case measure => simp only [intOf]; omega
      · obtain rfl : k = N := by omega
        have he := hend.out
        rw [← hE.out] at he
        go_wp2
        go_ret
        exact ⟨_, rfl, hown, hb⟩
theorem begins_lst (c : Int) (w : World) :
    Calls Tryz.prog 110 #[.int .i64 c] w fun e w' => ∃ v, e = .returned v ∧ Lst .i64 w' v (cellL c) ∧ Below w.heap.size w w' :=
  (begins_any c w).mono fun _ _ ⟨v, he, hr, hb⟩ => ⟨v, he, lst_of_own hr, hb⟩
theorem begins_none (c : Int) (w : World) (hc : clsB c = false) : Calls Tryz.prog 110 #[.int .i64 c] w fun e w' => ∃ a k, e = .returned (.slice a 0 k) ∧ Below w.heap.size w w' :=
  (begins_lst c w).mono fun _ _ ⟨v, he, hl, hb⟩ => by
    rw [(cls_none c hc).2.2.2.2] at hl
    rcases hl with ⟨_, a, k, h1⟩ | ⟨_, _, _, _, h2, _⟩
    · exact ⟨a, k, by rw [he, h1], hb⟩
    · exact absurd h2 (by simp)
theorem cellL_at (j : Nat) (hj : j < 8) : (cellL (j : Int)).length = numF j ∧ ∀ k, k < numF j → (cellL (j : Int)).getD k 0 = ((k : Nat) : Int) * widF j := by
  obtain ⟨_, h2, h3, _, _⟩ := cls_nat j hj
  unfold cellL
  rw [h2, h3]
  refine ⟨by simp, fun k hk => ?_⟩
  rw [List.getD_eq_getElem?_getD, List.getElem?_map, List.getElem?_range hk]
  rfl
theorem begins_some (j : Nat) (hj : j < 8) (w : World) : Calls Tryz.prog 110 #[.int .i64 (j : Int)] w fun e w' => ∃ b o k, e = .returned (.slice (some ⟨b, o, none⟩) (numF j) k) ∧ (∀ i, i < numF j → w'.cell? ⟨b, o + i, none⟩ = some (.int .i64 (((i : Nat) : Int) * widF j))) ∧ Below w.heap.size w w' := by
  obtain ⟨h1, h2⟩ := cellL_at j hj
  refine (begins_lst (j : Int) w).mono fun _ _ ⟨v, he, hl, hb⟩ => ?_
  rcases hl with ⟨h3, _⟩ | ⟨b, o, k, h3, _, _, h4⟩
  · have h0 : ∀ j : Fin 8, 0 < numF j.val := by decide
    have h5 := h0 ⟨j, hj⟩
    change 0 < numF j at h5
    rw [h3] at h1
    simp at h1
    omega
  · rw [h1] at h3 h4
    exact ⟨b, o, k, by rw [he, h3], fun i hi => by rw [h4 i hi, h2 i hi], hb⟩
end Go.Proofs.YtichmgilglaglaaGreatDoor
/- The document's Starts, Cell, Free, First and Valid of layer 5. No condition but that each number fits its kind. -/
namespace Go.Proofs.YtichmgilglaglaaGreatDoor
open Go.RowKit
set_option linter.unusedVariables false

set_option maxRecDepth 100000 in
set_option maxHeartbeats 1000000 in
theorem rcell_any (c at_ : Int) (w : World) :
    Calls Tryz.prog 78 #[.int .i64 c, .int .i64 at_] w fun e w' => e = .returned (.int .i64 (cellI c at_)) ∧ Below w.heap.size w w' := by
  have P := Lib.hid (fun W => rwords_anySz c W)
  have hM := Lib.hid (cell_miss c at_)
  have hH := Lib.hid (cell_hit c at_)
  cases hc : clsB c with
  | false =>
    have Q := Lib.hid (fun W => begins_none c W hc)
    obtain ⟨h1, h2, h3, h4, h5⟩ := cls_none c hc
    have hm := hM.out (by rw [h2]; simp)
    rw [h1, h4] at P
    rw [hm]
    clear h1 h2 h3 h4 h5 hc hm hM hH
    go_enter Tryz.func78, Tryz.ntmps78
    go_wp2_with fail
    refine (P.out _).mono ?_
    rintro e w2 ⟨rfl, hb2⟩
    go_wp2_with fail
    refine (Q.out _).mono ?_
    rintro e w3 ⟨a, k, rfl, hb3⟩
    have hb := hb2.trans (hb3.mono hb2.size)
    go_wp2
    go_loopw [8] (fun i wr => i = .int .i64 0 ∧ wr = w3) (fun _ _ => 0)
    case atStart => exact ⟨rfl, rfl⟩
    case round =>
      obtain ⟨rfl, rfl⟩ := hrel
      go_wp2
      go_ret
      exact ⟨rfl, hb⟩
  | true =>
    obtain ⟨j, rfl, hj⟩ := clsB_yes hc
    obtain ⟨_, h2, h3, h4, h5⟩ := cls_nat j hj
    have Q := Lib.hid (fun W => begins_some j hj W)
    have hfit : Hid (∀ k, k < numF j → ((k : Nat) : Int) * widF j + widF j ≤ 64) := num_in j hj
    have hin : Hid (∀ k, inBCells (j : Int) at_ k = decide (((k : Nat) : Int) * widF j ≤ at_ ∧ at_ < ((k : Nat) : Int) * widF j + widF j)) := by unfold Hid inBCells; intro k; rw [h2]
    have hle := num_le j hj
    have hwd := widF_bd j hj
    rw [h2, h5] at P
    rw [h3] at hM hH
    rw [h2] at hH
    clear h2 h3 h4 h5 hc
    generalize cellI (j : Int) at_ = R at *
    generalize widF j = v at *
    generalize numF j = N at *
    go_enter Tryz.func78, Tryz.ntmps78
    go_wp2_with fail
    refine (P.out _).mono ?_
    rintro e w2 ⟨rfl, hb2⟩
    go_wp2_with fail
    refine (Q.out _).mono ?_
    rintro e w3 ⟨b, o, q, rfl, hcell, hb3⟩
    have hb := hb2.trans (hb3.mono hb2.size)
    have HC := Lib.hid hcell
    clear hcell hb2 hb3
    go_wp2
    go_loopw [8] (fun i wr => ∃ (k : Nat), k ≤ N ∧ i = .int .i64 k ∧ Hid (∀ y ∈ List.range k, inBCells (j : Int) at_ y = false) ∧ wr = w3) (fun i _ => N - (intOf i).toNat)
    case atStart => exact ⟨0, by omega, rfl, by unfold Hid; simp, rfl⟩
    case round =>
      obtain ⟨k, hk, rfl, hno, rfl⟩ := hrel
      by_cases hkN : k < N
      · have hcell := HC.out k hkN
        have hf := hfit.out k hkN
        have hi := hin.out k
        have hE0 : 0 ≤ ((k : Nat) : Int) * v := Int.mul_nonneg (by omega) (by omega)
        by_cases hy : ((k : Nat) : Int) * v ≤ at_ ∧ at_ < ((k : Nat) : Int) * v + v
        · rw [decide_eq_true hy] at hi
          have hR := hH.out (List.range k) k (by rw [← List.range_succ]; exact range_prefix _ _ (by omega)) hno.out hi
          obtain ⟨y1, y2⟩ := hy
          have HR := Lib.hid hR
          clear hR hi
          generalize ((k : Nat) : Int) * v = E at *
          go_wp2
          go_ret
          exact ⟨ret_int HR.out.symm, hb⟩
        · rw [decide_eq_false hy] at hi
          have hno2 : Hid (∀ y ∈ List.range (k + 1), inBCells (j : Int) at_ y = false) := by
            unfold Hid
            intro y hy
            rw [List.range_succ] at hy
            rcases List.mem_append.1 hy with h | h
            · exact hno.out y h
            · rw [List.mem_singleton.1 h]; exact hi
          clear hi
          generalize ((k : Nat) : Int) * v = E at *
          by_cases h1 : E ≤ at_
          · have h2 : ¬ at_ < E + v := fun h => hy ⟨h1, h⟩
            clear hy
            go_wp2
            go_roundw
            case rel => exact ⟨k + 1, by omega, by go_num, hno2, by first | rfl | trivial⟩
            case measure => simp [intOf]; omega
          · clear hy
            go_wp2
            go_roundw
            case rel => exact ⟨k + 1, by omega, by go_num, hno2, by first | rfl | trivial⟩
            case measure => simp [intOf]; omega
      · obtain rfl : k = N := by omega
        have hR := hM.out hno.out
        have HR := Lib.hid hR
        clear hR
        go_wp2
        go_ret
        exact ⟨ret_int HR.out.symm, hb⟩

theorem filt_snoc (L : List Int) (p : Int → Bool) (k : Nat) (h : k < L.length) : (L.take (k + 1)).filter p = (L.take k).filter p ++ (if p (L.getD k 0) then [L.getD k 0] else []) := by
  rw [List.take_add_one, List.getElem?_eq_getElem h, List.filter_append, List.getD_eq_getElem?_getD, List.getElem?_eq_getElem h]
  simp only [Option.toList, Option.getD_some]
  cases hp : p L[k] <;> simp [hp]

end Go.Proofs.YtichmgilglaglaaGreatDoor
/- Package sizes: what First, Rounds and Fills return, and the document's First, Valid, Rounds and Fills; the law's small check. No condition but that the tables lie as the start lays them. -/
namespace Go.Proofs.YtichmgilglaglaaGreatDoor
open Go.RowKit Go.Shelf
set_option linter.unusedVariables false
attribute [local go_sem] Oper.semAt_some

/-- the lowest cell from a word on that isn't allocated; -1: there is none -/
def firstI (c a f : Int) : Int := ((freeL c a).find? fun z => decide (f ≤ z)).getD (-1)
theorem first_hit (c a f : Int) (q : List Int) (y : Int) (h : (q ++ [y]) <+: freeL c a) (hq : ∀ z ∈ q, z < f) (hy : f ≤ y) : firstI c a f = y := by
  obtain ⟨r, hr⟩ := h
  unfold firstI
  rw [← hr, List.append_assoc, List.find?_append, List.find?_eq_none.2 (fun z hz => by have := hq z hz; simp; omega)]
  simp [hy]
theorem first_miss (c a f : Int) (h : ∀ z ∈ freeL c a, z < f) : firstI c a f = -1 := by
  unfold firstI
  rw [List.find?_eq_none.2 (fun z hz => by have := h z hz; simp; omega)]
  rfl

theorem take_prefix (L : List Int) (k : Nat) (h : k < L.length) : (L.take k ++ [L.getD k 0]) <+: L := by
  have : L.take k ++ [L.getD k 0] = L.take (k + 1) := by
    rw [List.take_add_one, List.getElem?_eq_getElem h, List.getD_eq_getElem?_getD, List.getElem?_eq_getElem h]; rfl
  rw [this]
  exact List.take_prefix _ _

theorem keepCell {w3 W W' : World} {p : Addr} {x : Value} (h : W.cell? p = some x ∧ Below w3.heap.size w3 W) (hb : Below W.heap.size W W') : W'.cell? p = some x ∧ Below w3.heap.size w3 W' :=
  ⟨(hb.cell (World.block_lt_of_cell? W _ h.1)).trans h.1, h.2.trans (hb.mono h.2.size)⟩
/-- how many words are taken for an object -/
def rdV (n : Int) : Int := if n < 1 then 0 else if 256 < n then 0 else if n ≤ 32 then widI (clV n) else (n + 63) / 64 * 64
/-- how many objects a heap of pages holds -/
def flV (n p : Int) : Int := if n < 1 then 0 else if 256 < n then 0 else if p < 0 ∨ 32 < p then 0 else if n ≤ 32 then p * ((numN (clV n) : Nat) : Int) else p / ((n + 63) / 64)
def flE (n p : Int) : Int := if n < 1 then 1 else if 256 < n then 3 else if p < 0 ∨ 32 < p then 1 else 0
theorem cl_in (n : Int) (h1 : 1 ≤ n) (h2 : n ≤ 32) : clE n = 0 ∧ clsB (clV n) = true ∧ errI (clV n) = 0 := by
  have hc : clsB (clV n) = true := by
    unfold clsB clV
    simp only [decide_eq_true_eq]
    constructor <;> (repeat' split) <;> omega
  refine ⟨?_, hc, ?_⟩
  · unfold clE; rw [if_neg (by omega), if_pos h2]
  · unfold errI; rw [hc]; rfl
theorem num_bd (c : Int) : 0 ≤ ((numN c : Nat) : Int) ∧ ((numN c : Nat) : Int) ≤ 32 := by
  unfold numN
  split
  · rename_i h
    obtain ⟨j, rfl, hj⟩ := clsB_yes h
    have := num_le j hj
    rw [Int.toNat_natCast]
    omega
  · omega

set_option maxRecDepth 100000 in
set_option maxHeartbeats 1000000 in
theorem rounds_any (n : Int) (w : World) (hW : Wid w) :
    Calls Tryz.prog 86 #[.int .i64 n] w fun e w' => e = .returned (.tuple #[.int .i64 (rdV n), .int .i64 (pgE n)]) ∧ w' = w := by
  have P := Lib.hid (fun W => pages_any n W)
  by_cases h1 : n < 1
  · obtain ⟨e1, e2⟩ := pg_low n h1
    have e3 : rdV n = 0 := by unfold rdV; rw [if_pos h1]
    rw [e1, e2] at P
    rw [e2, e3]; clear e1 e2 e3
    go_enter Tryz.func86, Tryz.ntmps86
    go_wp2_with fail
    refine (P.out _).mono ?_
    rintro e w2 ⟨rfl, rfl⟩
    go_wp2; go_ret2; exact ⟨rfl, rfl⟩
  · by_cases h2 : 256 < n
    · obtain ⟨e1, e2⟩ := pg_big n h2
      have e3 : rdV n = 0 := by unfold rdV; rw [if_neg h1, if_pos h2]
      rw [e1, e2] at P
      rw [e2, e3]; clear e1 e2 e3
      go_enter Tryz.func86, Tryz.ntmps86
      go_wp2_with fail
      refine (P.out _).mono ?_
      rintro e w2 ⟨rfl, rfl⟩
      go_wp2; go_ret2; exact ⟨rfl, rfl⟩
    · by_cases h3 : n ≤ 32
      · obtain ⟨e1, e2⟩ := pg_small n (by omega) h3
        have e3 : rdV n = widI (clV n) := by unfold rdV; rw [if_neg h1, if_neg h2, if_pos h3]
        obtain ⟨e4, e5, e6⟩ := cl_in n (by omega) h3
        have C := Lib.hid (fun W (h : Wid W) => class_any n W h)
        have V := Lib.hid (fun W (h : Wid W) => words_anySz (clV n) W h)
        rw [e1, e2] at P
        rw [e4] at C
        rw [e6] at V
        rw [e2, e3]; clear e1 e2 e3 e4 e5 e6
        generalize widI (clV n) = q at *
        generalize clV n = c at *
        go_enter Tryz.func86, Tryz.ntmps86
        go_wp2_with fail
        refine (P.out _).mono ?_
        rintro e w2 ⟨rfl, hw2⟩
        obtain rfl := hw2.symm
        go_wp2_with fail
        refine (C.out _ hW).mono ?_
        rintro e w3 ⟨rfl, hw3⟩
        obtain rfl := hw3.symm
        go_wp2_with fail
        refine (V.out _ hW).mono ?_
        rintro e w4 ⟨rfl, rfl⟩
        go_wp2; go_ret2; exact ⟨rfl, rfl⟩
      · obtain ⟨e1, e2⟩ := pg_mid n (by omega) (by omega)
        have e3 : rdV n = (n + 63) / 64 * 64 := by unfold rdV; rw [if_neg h1, if_neg h2, if_neg h3]
        rw [e1, e2] at P
        rw [e2, e3]; clear e1 e2 e3
        have q1 : 1 ≤ (n + 63) / 64 := by omega
        have q2 : (n + 63) / 64 ≤ 4 := by omega
        generalize (n + 63) / 64 = q at *
        go_enter Tryz.func86, Tryz.ntmps86
        go_wp2_with fail
        refine (P.out _).mono ?_
        rintro e w2 ⟨rfl, rfl⟩
        go_wp2; go_ret2; exact ⟨ret_two (by first | rfl | go_num) rfl, rfl⟩
set_option maxRecDepth 100000 in
set_option maxHeartbeats 1000000 in
theorem rrounds_any (n : Int) (w : World) :
    Calls Tryz.prog 87 #[.int .i64 n] w fun e w' => e = .returned (.tuple #[.int .i64 (rdV n), .int .i64 (pgE n)]) ∧ Below w.heap.size w w' := by
  have P := Lib.hid (fun W => rpages_any n W)
  by_cases h1 : n < 1
  · obtain ⟨e1, e2⟩ := pg_low n h1
    have e3 : rdV n = 0 := by unfold rdV; rw [if_pos h1]
    rw [e1, e2] at P
    rw [e2, e3]; clear e1 e2 e3
    go_enter Tryz.func87, Tryz.ntmps87
    go_wp2_with fail
    refine (P.out _).mono ?_
    rintro e w2 ⟨rfl, rfl⟩
    go_wp2; go_ret2; exact ⟨rfl, Below.refl _ _⟩
  · by_cases h2 : 256 < n
    · obtain ⟨e1, e2⟩ := pg_big n h2
      have e3 : rdV n = 0 := by unfold rdV; rw [if_neg h1, if_pos h2]
      rw [e1, e2] at P
      rw [e2, e3]; clear e1 e2 e3
      go_enter Tryz.func87, Tryz.ntmps87
      go_wp2_with fail
      refine (P.out _).mono ?_
      rintro e w2 ⟨rfl, rfl⟩
      go_wp2; go_ret2; exact ⟨rfl, Below.refl _ _⟩
    · by_cases h3 : n ≤ 32
      · obtain ⟨e1, e2⟩ := pg_small n (by omega) h3
        have e3 : rdV n = widI (clV n) := by unfold rdV; rw [if_neg h1, if_neg h2, if_pos h3]
        obtain ⟨e4, e5, e6⟩ := cl_in n (by omega) h3
        have C := Lib.hid (fun W => rclass_any n W)
        have V := Lib.hid (fun W => rwords_anySz (clV n) W)
        rw [e1, e2] at P
        rw [e4] at C
        rw [e6] at V
        rw [e2, e3]; clear e1 e2 e3 e4 e5 e6
        generalize widI (clV n) = q at *
        generalize clV n = c at *
        go_enter Tryz.func87, Tryz.ntmps87
        go_wp2_with fail
        refine (P.out _).mono ?_
        rintro e w2 ⟨rfl, hw2⟩
        obtain rfl := hw2.symm
        go_wp2_with fail
        refine (C.out _).mono ?_
        rintro e w3 ⟨rfl, hb3⟩
        go_wp2_with fail
        refine (V.out _).mono ?_
        rintro e w4 ⟨rfl, hb4⟩
        go_wp2; go_ret2; exact ⟨rfl, hb3.trans (hb4.mono hb3.size)⟩
      · obtain ⟨e1, e2⟩ := pg_mid n (by omega) (by omega)
        have e3 : rdV n = (n + 63) / 64 * 64 := by unfold rdV; rw [if_neg h1, if_neg h2, if_neg h3]
        rw [e1, e2] at P
        rw [e2, e3]; clear e1 e2 e3
        have q1 : 1 ≤ (n + 63) / 64 := by omega
        have q2 : (n + 63) / 64 ≤ 4 := by omega
        generalize (n + 63) / 64 = q at *
        go_enter Tryz.func87, Tryz.ntmps87
        go_wp2_with fail
        refine (P.out _).mono ?_
        rintro e w2 ⟨rfl, rfl⟩
        go_wp2; go_ret2; exact ⟨ret_two (by first | rfl | go_num) rfl, Below.refl _ _⟩
end Go.Proofs.YtichmgilglaglaaGreatDoor
/- Package objects: Head, Refs, Span, and the document's. Conditions: the table is there; the object's words are read in full. -/
namespace Go.Proofs.YtichmgilglaglaaGreatDoor
open Go.RowKit Go.Shelf
set_option linter.unusedVariables false
attribute [local go_sem] Oper.semAt_some
def ints64 (l : List Int) : List Value := l.map (Value.int .i64)
def refsF (zs : List Int) {N : Nat} (pre : List (Fin N)) : List Int := (pre.map fun i => zs.getD i.val 0).filter fun z => z != 0
def refsL (cl : List ClsD) (c k : Int) (zs : List Int) : List Int := ((ptrL cl c k zs.length).map fun i => zs.getD i 0).filter fun z => z != 0
theorem refsF_all (cl : List ClsD) (c k : Int) (zs : List Int) : refsF zs (ptrFL cl c k zs.length) = refsL cl c k zs := by
  unfold refsF refsL
  rw [← ptrFL_val, List.map_map]
  rfl
theorem refsF_no {zs : List Int} {N : Nat} {pre : List (Fin N)} {x : Fin N} (h : zs.getD x.val 0 = 0) : refsF zs (pre ++ [x]) = refsF zs pre := by
  unfold refsF
  rw [List.map_append, List.filter_append, List.map_cons, List.map_nil, h]
  simp
theorem refsF_yes {zs : List Int} {N : Nat} {pre : List (Fin N)} {x : Fin N} (h : zs.getD x.val 0 ≠ 0) : refsF zs (pre ++ [x]) = refsF zs pre ++ [zs.getD x.val 0] := by
  unfold refsF
  rw [List.map_append, List.filter_append, List.map_cons, List.map_nil]
  generalize zs.getD x.val 0 = z at *
  simp [h]
theorem refsF_len {zs : List Int} {N : Nat} (pre : List (Fin N)) : (refsF zs pre).length ≤ pre.length := by
  unfold refsF
  have := List.length_filter_le (fun z => z != 0) (pre.map fun i => zs.getD i.val 0)
  rw [List.length_map] at this
  exact this
theorem cellNew (w : World) (a c k : Int) (v : Value) (t : TypeId) : Blk (w.alloc (.cells #[.int .i64 a, .int .i64 c, .int .i64 k, v] t)) w.heap.size #[.int .i64 a, .int .i64 c, .int .i64 k, v] t := Blk.new _ _ _
set_option maxHeartbeats 1000000 in
theorem ochead_any (ad c k : Int) (a : Option Addr) (n q : Nat) (w : World) :
    Calls Tryz.prog 37 #[.agg #[.int .i64 ad, .int .i64 c, .int .i64 k, .slice a n q]] w fun e w' => e = .returned (.agg #[.int .i64 c, .int .i64 k, .int .i64 (n : Int)]) ∧ Below w.heap.size w w' := by
  have k1 := (cellNew w ad c k (.slice a n q) 80).alloc (.cells #[.int .i64 0, .int .i64 0, .int .i64 0] 44)
  have k2 : Blk ((w.alloc (.cells #[.int .i64 ad, .int .i64 c, .int .i64 k, .slice a n q] 80)).alloc (.cells #[.int .i64 c, .int .i64 k, .int .i64 (n : Int)] 44)) (w.heap.size + 1) #[.int .i64 c, .int .i64 k, .int .i64 (n : Int)] 44 := Blk.new' (by simp)
  have hb : Below w.heap.size w ((w.alloc (.cells #[.int .i64 ad, .int .i64 c, .int .i64 k, .slice a n q] 80)).alloc (.cells #[.int .i64 c, .int .i64 k, .int .i64 (n : Int)] 44)) := ((Below.refl _ _).alloc (Nat.le_refl _) _).alloc (by simp) _
  have y1 := k1.val 1 rfl
  have y2 := k1.val 2 rfl
  have y3 := k1.val 3 rfl
  have HB := Lib.hid hb
  have K2 := Lib.hid k2
  clear k1 k2 hb
  go_enter Tryz.func37, Tryz.ntmps37
  go_wp2
  have z0 := K2.out.val 0 rfl
  have z1 := K2.out.val 1 rfl
  have z2 := K2.out.val 2 rfl
  exact bodyPost_ret (v := .agg #[.int .i64 c, .int .i64 k, .int .i64 (n : Int)]) (by simp [results, Tryz.results37, go_sem, z0, z1, z2]) rfl ⟨rfl, HB.out⟩
set_option maxHeartbeats 1000000 in
theorem rchead_any (ad c k : Int) (a : Option Addr) (n q : Nat) (w : World) :
    Calls Tryz.prog 38 #[.agg #[.int .i64 ad, .int .i64 c, .int .i64 k, .slice a n q]] w fun e w' => e = .returned (.agg #[.int .i64 c, .int .i64 k, .int .i64 (n : Int)]) ∧ Below w.heap.size w w' := by
  have k1 := (cellNew w ad c k (.slice a n q) 80).alloc (.cells #[.int .i64 0, .int .i64 0, .int .i64 0] 25)
  have k2 : Blk ((w.alloc (.cells #[.int .i64 ad, .int .i64 c, .int .i64 k, .slice a n q] 80)).alloc (.cells #[.int .i64 c, .int .i64 k, .int .i64 (n : Int)] 25)) (w.heap.size + 1) #[.int .i64 c, .int .i64 k, .int .i64 (n : Int)] 25 := Blk.new' (by simp)
  have hb : Below w.heap.size w ((w.alloc (.cells #[.int .i64 ad, .int .i64 c, .int .i64 k, .slice a n q] 80)).alloc (.cells #[.int .i64 c, .int .i64 k, .int .i64 (n : Int)] 25)) := ((Below.refl _ _).alloc (Nat.le_refl _) _).alloc (by simp) _
  have y1 := k1.val 1 rfl
  have y2 := k1.val 2 rfl
  have y3 := k1.val 3 rfl
  have HB := Lib.hid hb
  have K2 := Lib.hid k2
  clear k1 k2 hb
  go_enter Tryz.func38, Tryz.ntmps38
  go_wp2
  have z0 := K2.out.val 0 rfl
  have z1 := K2.out.val 1 rfl
  have z2 := K2.out.val 2 rfl
  exact bodyPost_ret (v := .agg #[.int .i64 c, .int .i64 k, .int .i64 (n : Int)]) (by simp [results, Tryz.results38, go_sem, z0, z1, z2]) rfl ⟨rfl, HB.out⟩
/-- what an object's words are, in blocks that were there -/
structure WdS (w : World) (vw : Value) (zs : List Int) : Prop where
  rd : RdRow 1 ElI w.heap.size w vw zs
  len : zs.length ≤ 400
set_option maxRecDepth 100000 in
set_option maxHeartbeats 8000000 in
theorem orefs_any (w : World) (lo t m : Nat) (tv : Value) (L : List (ClsD × Value × Nat)) (ad c k : Int) (vw : Value) (zs : List Int) (hT : TabS w lo t tv m L) (hw : RdRow 1 ElI w.heap.size w vw zs) (hn : zs.length ≤ 400) :
    Calls Tryz.prog 40 #[.pointer (some ⟨t, 0, none⟩), .agg #[.int .i64 ad, .int .i64 c, .int .i64 k, vw]] w fun e w' => ∃ u, e = .returned u ∧ w'.ownsRow w.heap.size 2 1 u (refsL (L.map (·.1)) c k zs).length (ints64 (refsL (L.map (·.1)) c k zs)) ∧ Below w.heap.size w w' := by
  obtain ⟨a1, q1, rfl⟩ := rd_shape hw
  have RW := Lib.hid (fun W (hb : Below w.heap.size w W) => hw.keep hb fun _ _ _ e r => r.keep hb e)
  have HT := Lib.hid (fun W (hb : Below w.heap.size w W) => hT.grew hb)
  have HF := Lib.hid (refsF_all (L.map (·.1)) c k zs)
  have HNL := Lib.hid (refsF_len (zs := zs) (N := zs.length))
  have hz : ∀ i : Nat, (hi : i < zs.length) → zs[i] = zs.getD i 0 := fun i hi => by rw [List.getD_eq_getElem?_getD, List.getElem?_eq_getElem hi]; rfl
  have HZ := Lib.hid hz
  have hpl : (ptrFL (L.map (·.1)) c k zs.length).length ≤ zs.length := by
    have h1 := congrArg List.length (ptrFL_val (cl := L.map (·.1)) (c := c) (k := k) (N := zs.length))
    rw [List.length_map] at h1
    rw [h1]
    unfold ptrL
    split
    · exact ptrs_len _ _ _ _
    · simp
  have HPL := Lib.hid hpl
  have HR := Lib.hid (fun (pre : List (Fin zs.length)) (x : Fin zs.length) (h : zs.getD x.val 0 = 0) => refsF_no (zs := zs) (pre := pre) h)
  have HY := Lib.hid (fun (pre : List (Fin zs.length)) (x : Fin zs.length) (h : zs.getD x.val 0 ≠ 0) => refsF_yes (zs := zs) (pre := pre) h)
  clear hT hw hz hpl
  refine (callsIn_wide (n := 9)).1 ?_
  refine callsIn_of_wp_marks Tryz.func40 rfl trivial ?_ rfl
  simp only [Tryz.ntmps40, List.size_toArray, List.length_cons, List.length_nil, Nat.reduceAdd, Nat.reduceSub, Array.replicate_succ, Array.replicate_zero, List.push_toArray, List.append_toArray, List.nil_append, List.cons_append]
  refine wpIn_wide.2 ?_
  have hC : Blk ((w.alloc (.cells #[.int .i64 ad, .int .i64 c, .int .i64 k, .slice a1 zs.length q1] 80)).alloc (.cells #[.slice none 0 0] 78)) w.heap.size #[.int .i64 ad, .int .i64 c, .int .i64 k, .slice a1 zs.length q1] 80 := (Blk.new _ _ _).alloc _
  have hO : Boxed ((w.alloc (.cells #[.int .i64 ad, .int .i64 c, .int .i64 k, .slice a1 zs.length q1] 80)).alloc (.cells #[.slice none 0 0] 78)) (w.heap.size + 1) 78 (.slice none 0 0) := Blk.new' (by simp)
  have hB : Below w.heap.size w ((w.alloc (.cells #[.int .i64 ad, .int .i64 c, .int .i64 k, .slice a1 zs.length q1] 80)).alloc (.cells #[.slice none 0 0] 78)) := ((Below.refl _ _).alloc (Nat.le_refl _) _).alloc (by simp) _
  have c0 := hC.val 0 rfl
  have c1 := hC.val 1 rfl
  have c2 := hC.val 2 rfl
  have c3 := hC.val 3 rfl
  have KK := Lib.hid (And.intro hC (And.intro hO hB))
  clear hC hO hB
  go_wp2_with fail
  refine (ochead_any _ _ _ _ _ _ _).mono ?_
  rintro e w1 ⟨rfl, hb1⟩
  have hC := KK.out.1.grew hb1
  have hO := Blk.grew KK.out.2.1 hb1
  have hB := KK.out.2.2.trans (hb1.mono KK.out.2.2.size)
  have hO1 : w.heap.size + 2 ≤ w1.heap.size := by have := hb1.size; simp at this; omega
  clear KK hb1 c0 c1 c2 c3
  go_wp2_with fail
  refine (pointers_any _ _ _ _ _).mono ?_
  rintro e w' ⟨rfl, rfl⟩
  have bb : Below w1.heap.size w1 ((w1.alloc (.cells #[.pointer (some ⟨t, 0, none⟩)] 75)).alloc (.cells #[.int .i64 c, .int .i64 k, .int .i64 (zs.length : Int)] 44)) := ((Below.refl _ _).alloc (Nat.le_refl _) _).alloc (by simp) _
  have B1 : Blk ((w1.alloc (.cells #[.pointer (some ⟨t, 0, none⟩)] 75)).alloc (.cells #[.int .i64 c, .int .i64 k, .int .i64 (zs.length : Int)] 44)) w1.heap.size #[.pointer (some ⟨t, 0, none⟩)] 75 := (Blk.new _ _ _).alloc _
  have B2 : Blk ((w1.alloc (.cells #[.pointer (some ⟨t, 0, none⟩)] 75)).alloc (.cells #[.int .i64 c, .int .i64 k, .int .i64 (zs.length : Int)] 44)) (w1.heap.size + 1) #[.int .i64 c, .int .i64 k, .int .i64 (zs.length : Int)] 44 := Blk.new' (by simp)
  replace hC := hC.grew bb
  replace hO := Blk.grew hO bb
  have hB0 := hB.trans (bb.mono hB.size)
  have hs0 : ((w1.alloc (.cells #[.pointer (some ⟨t, 0, none⟩)] 75)).alloc (.cells #[.int .i64 c, .int .i64 k, .int .i64 (zs.length : Int)] 44)).heap.size = w1.heap.size + 2 := by simp
  clear bb hB
  generalize (w1.alloc (.cells #[.pointer (some ⟨t, 0, none⟩)] 75)).alloc (.cells #[.int .i64 c, .int .i64 k, .int .i64 (zs.length : Int)] 44) = W0 at *
  have l0 : w1.heap.size + 2 ≤ W0.heap.size := by omega
  replace hs0 := Lib.hid hs0
  go_wp2_with fail
  rename_i K hK
  obtain ⟨i0, hi0, hz0, hz1, hz2⟩ := info_parts info_i64
  refine (wpIn_wide (n := 9)).1 ?_
  refine name_actC (fun a0 ha0 => ?_)
  have B0 := Lib.hid hB0
  refine wpIn_rangeFunc_ownF rfl (by omega) (gf := 117) (lb := #[.pointer (some ⟨w1.heap.size, 0, none⟩), .pointer (some ⟨w1.heap.size + 1, 0, none⟩)]) (by rw [ha0]; rfl) trivial (enters_of Tryz.func117 (by kernel_rfl) rfl)
    (ptr_stopsF (Kp := KpB (w.heap.size + 1) W0.heap.size) KpB.tr KpB.grow 8 (by omega) w1.heap.size (w1.heap.size + 1) lo t m tv L c k zs.length W0
      (fun W hW => ⟨HT.out W (B0.out.trans (hW.below (B := w.heap.size) B0.out.size (fun b hb => by have := B0.out.size; omega))), (B1.touch hW (by omega)).val 0 rfl, (B2.touch hW (by omega)).val 0 rfl, (B2.touch hW (by omega)).val 1 rfl, (B2.touch hW (by omega)).val 2 rfl⟩))
    KpB.tr (KpB.put (Nat.le_refl _)) (Below.refl _ _) (fun _ => rfl)
    (fun pre W => (∃ v, Boxed W (w.heap.size + 1) 78 v ∧ W.ownsRow W0.heap.size 2 1 v (refsF zs pre).length (ints64 (refsF zs pre)) ∧ (refsF zs pre).length ≤ 100000) ∧ Touch (· = w.heap.size + 1) W0 W)
    (fun _ _ _ => False)
    (OwnFrom.and (Own.from (holdsRow_own W0.heap.size (w.heap.size + 1) 78 2 1 (fun pre : List (Fin zs.length) => (refsF zs pre).length) (fun pre : List (Fin zs.length) => ints64 (refsF zs pre)) (fun pre _ => (refsF zs pre).length ≤ 100000)) _) (ownFrom_touchMapl (Nat.le_refl _)))
    (fun _ _ _ _ _ hs _ _ => hs)
    ⟨⟨_, hO, World.ownsRow_nil _ _ _ _, by simp [refsF]⟩, Touch.refl _ _⟩
    (fun x => { tmps := (a0.tmps.setIfInBounds 12 (.int .i64 ((x.val : Nat) : Int))).setIfInBounds 6 (.int .i64 ((x.val : Nat) : Int)), defers := [] }) ?assign ?body ?done ?stop
  case assign =>
    intro l x W K1 hK1
    subst ha0
    gi_wp2
    exact hK1
  case body =>
    rintro l pre ⟨j, hx⟩ W ⟨⟨v, hv, hrow, _⟩, ht⟩ hlt
    subst ha0
    simp only [List.setIfInBounds_toArray, List.set_cons_zero, List.set_cons_succ]
    have hsW := ht.size
    have hCW := (hC.touch ht (by omega)).val 3 rfl
    obtain ⟨b, o, rfl, hbw, ex1, ex2⟩ := rd_at (RW.out W (B0.out.trans (ht.below (B := w.heap.size) B0.out.size (fun b hb => by omega)))) hx
    rw [HZ.out j hx, Nat.mul_one] at ex1
    have hR := Lib.hid (HR.out pre ⟨j, hx⟩)
    have hY := Lib.hid (HY.out pre ⟨j, hx⟩)
    have hpn : (refsF zs pre).length ≤ 400 := by have := HNL.out pre; have := HPL.out; omega
    dsimp only at hR hY
    generalize zs.getD j 0 = z at *
    obtain ⟨a2, k2, hveq⟩ := ownsRow_form hrow
    subst hveq
    have hc := hv.cell
    have hj1 : (j : Int) < (zs.length : Int) := by omega
    by_cases hz : z = 0
    · have hzb : (z != 0) = false := by simpa using hz
      have hE := Lib.hid (hR.out hz)
      replace hz := Lib.hid hz
      gi_wp2
      exact ⟨KeepsOthers.refl _, KpB.grow (Below.refl _ _), ⟨_, hv, by rw [hE.out]; exact hrow, by rw [hE.out]; omega⟩, ht⟩
    · have hzb : (z != 0) = true := by simpa using hz
      have hE := Lib.hid (hY.out hz)
      replace hz := Lib.hid hz
      generalize refsF zs pre = rp at *
      have hpn2 := Lib.hid hpn
      gi_wp2_with (gi_at_builtin; refine wpListIn_append_own _ rfl _ _ 78 rfl W0.heap.size 2 i0 (.int .i64 0) 1 8 Tryz.underlying78 hi0 hz0 hz1 hz2 rfl (by decide) _ _ _ rfl (hrow.alloc _) ⟨W.heap.size, 0, none⟩ 1 1 [.int .i64 z] rfl rfl (cell_one_new _ _ _) (by simp [Value.oneCell']) (by have := hpn2.out; unfold maxLen; omega) (by have := hpn2.out; omega) (by simp; omega) ?_; intro v' w1 hown' hgrow _; obtain ⟨g', cap', rfl⟩ := ownsRow_succ hown'; obtain ⟨hv1, hv2, hr2, hk2, ht2, hbl⟩ := appended_touch hv (by decide) hrow hown' hgrow; have hc1 := hv1.cell; have hf1 := hv1.frozen)
      exact ⟨hk2, KpB.app hgrow (fun g e => (hrow.lt g e).1), ⟨_, hv2, by rw [hE.out]; unfold ints64; rw [List.map_append, List.length_append]; exact hr2, by have := hpn2.out; rw [hE.out, List.length_append]; simp; omega⟩, ht2 W0 ht (Nat.le_refl _)⟩
  case stop =>
    rintro D c pre W _ _ h _
    exact h.elim
  case done =>
    rintro D ys W hD hys ⟨⟨v, hv, hrow, _⟩, ht⟩ hDK
    subst hys
    subst ha0
    rw [HF.out] at hrow
    have hB2 := B0.out.trans (ht.below (B := w.heap.size) B0.out.size (fun b hb => by omega))
    have hc := hv.cell
    have hwD : w.heap.size ≤ D := by have := B0.out.size; omega
    have hs2 := B0.out.size
    obtain ⟨a2, k2, hveq⟩ := ownsRow_form hrow
    subst hveq
    have HH := Lib.hid (And.intro hrow hB2)
    clear hrow hB2
    refine hK _ _ ?_
    go_wp2
    refine ⟨by simp, .inl ⟨_, _, rfl, run_takeDeferred hDK, ?_⟩⟩
    have hP : Touch (fun b => b = D) W (W.putObj D (.deferred none)) := (Touch.refl _ W).grown (grownBy_putObj' W D (.deferred none)) (fun k e => by cases e; exact .inl rfl)
    refine ⟨.slice a2 (refsL (L.map (·.1)) c k zs).length k2, ?_, ⟨_, rfl, own_sub (own_touch HH.out.1 hP (fun g e h => ?_)) hs2, HH.out.2.trans (hP.below HH.out.2.size (fun b hb => by omega))⟩⟩
    · simp [results, Tryz.f40, go_sem]
    · subst h
      rcases HH.out.1.2 with ⟨h1, _⟩ | ⟨g', cap, cur, h1, _, h3, _⟩
      · rw [h1] at e; cases e
      · rw [h1] at e
        have e2 : g' = g := by simpa [Value.ownBlock] using e
        subst e2
        rw [hDK] at h3
        cases h3
end Go.Proofs.YtichmgilglaglaaGreatDoor
/- What Ints of the document returns at two slices of the same words. No condition. -/
namespace Go.Proofs.YtichmgilglaglaaGreatDoor
open Go.RowKit
set_option maxHeartbeats 1000000 in
theorem longs_rows (b1 o1 c1 b2 o2 c2 n : Nat) (zs : List Int) (w : World) (h0 : 0 < n) (hm : n ≤ maxLen)
    (hc1 : Hid (∀ i, i < n → w.cell? ⟨b1, o1 + i, none⟩ = some (.int .i64 (zs.getD i 0)))) (hc2 : Hid (∀ i, i < n → w.cell? ⟨b2, o2 + i, none⟩ = some (.int .i64 (zs.getD i 0)))) :
    Calls Tryz.prog 39 #[.slice (some ⟨b1, o1, none⟩) n c1, .slice (some ⟨b2, o2, none⟩) n c2] w fun e w' => e = .returned (.bool true) ∧ Quiet w w' := by
  unfold maxLen at hm
  have hne : ((n : Int) != (n : Int)) = false := by simp
  go_enter Tryz.func39, Tryz.ntmps39
  go_wp2
  go_loopw [5] (fun i wr => ∃ k : Nat, k ≤ n ∧ i = .int .i64 k ∧ Quiet w wr) (fun i _ => n - (intOf i).toNat)
  case atStart => exact ⟨0, Nat.zero_le _, rfl, Quiet.refl _⟩
  case round =>
    obtain ⟨k, hk, rfl, hq⟩ := hrel
    by_cases hlt : k < n
    · have e1 := (hq.cell ⟨b1, o1 + k, none⟩).trans (hc1.out k hlt)
      have e2 := (hq.cell ⟨b2, o2 + k, none⟩).trans (hc2.out k hlt)
      have hlt' : (k : Int) < (n : Int) := by omega
      have hge' : (0 : Int) ≤ (k : Int) := by omega
      generalize zs.getD k 0 = V at *
      have hv : (V != V) = false := by simp
      go_wp2
      go_quiet (fail)
      go_wp2
      go_roundw
      case rel => exact ⟨k + 1, by omega, by go_num, hq.trans Quiet.drew⟩
      case measure => simp [intOf]; omega
    · go_wp2
      go_ret
      exact ⟨rfl, hq⟩
set_option maxHeartbeats 400000 in
theorem longs_none (a1 a2 : Option Addr) (c1 c2 : Nat) (w : World) :
    Calls Tryz.prog 39 #[.slice a1 0 c1, .slice a2 0 c2] w fun e w' => e = .returned (.bool true) ∧ Quiet w w' := by
  go_enter Tryz.func39, Tryz.ntmps39
  go_wp2
  go_loopw [5] (fun i wr => i = .int .i64 0 ∧ Quiet w wr) (fun _ _ => 0)
  case atStart => exact ⟨rfl, Quiet.refl _⟩
  case round =>
    obtain ⟨rfl, hq⟩ := hrel
    go_wp2
    go_ret
    exact ⟨rfl, hq⟩
theorem longs_any (v1 v2 : Value) (zs : List Int) (w : World) (h1 : Lst .i64 w v1 zs) (h2 : Lst .i64 w v2 zs) :
    Calls Tryz.prog 39 #[v1, v2] w fun e w' => e = .returned (.bool true) ∧ Quiet w w' := by
  rcases h1 with ⟨rfl, a1, c1, rfl⟩ | ⟨b1, o1, c1, rfl, hp1, hm1, hc1⟩
  · rcases h2 with ⟨_, a2, c2, rfl⟩ | ⟨b2, o2, c2, rfl, hp2, _⟩
    · exact longs_none a1 a2 c1 c2 w
    · exact absurd hp2 (by simp)
  · rcases h2 with ⟨rfl, a2, c2, rfl⟩ | ⟨b2, o2, c2, rfl, _, _, hc2⟩
    · exact absurd hp1 (by simp)
    · exact longs_rows b1 o1 c1 b2 o2 c2 zs.length zs w hp1 hm1 hc1 hc2

end Go.Proofs.YtichmgilglaglaaGreatDoor
