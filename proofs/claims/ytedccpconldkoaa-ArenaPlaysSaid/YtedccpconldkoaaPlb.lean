/- ArenaPlays: the walk of the whole. Conditions: the numbers fit their kinds. -/
import Derived.Test.YtedccpconldkoaaPla
import Derived.Deep.Cut
import Derived.Deep.RegionHeld3
namespace Go.Proofs.Ytedccpconldkoaa
open Go.RowKit
set_option linter.unusedVariables false
set_option maxRecDepth 100000 in
set_option maxHeartbeats 8000000 in
theorem plays_walk (n : Nat) (keep : Bool) (aa : Option Addr) (n0 c0 : Nat) (F0 : Nat → Nat → Int) (w : World) (h1 : 1 ≤ n) (h2 : n ≤ 4096) (hmx : n0 ≤ maxLen) (b2 o2 : Nat) (hbp : Hid (0 < n0 → aa = some ⟨b2, o2, none⟩ ∧ b2 < w.heap.size))
    (hc : Hid (∀ i, i < n0 → ∀ j, j < 5 → w.cell? ⟨b2, o2 + i * 5 + j, none⟩ = some (.int (([.i64, .i64, .i64, .u64, .u64] : List IntKind).getD j .i64) (F0 i j)))) :
    Calls Try.prog 3 #[.int .i64 n, .bool keep, .slice aa n0 c0] w fun e w' => e = .returned (.bool true) ∧ Below w.heap.size w w' := by
  unfold maxLen at hmx
  have i1 : ¬ (n : Int) < 1 := by omega
  have i2 : ¬ (4096 : Int) < (n : Int) := by omega
  have i3 : ((n : Int) != (n : Int)) = false := by simp
  have hn0 : (0 : Int) ≤ (n : Int) := by omega
  have NW := Lib.hid (fun W => new_yes n keep W h1 h2)
  have hmk := fun W => run_mk W n (by omega) (by omega)
  have HN := Lib.hid (And.intro h1 h2)
  obtain ⟨p0, pi, pz0, pz1, pz2⟩ := info_parts info_pp
  have ZP := Lib.hid (And.intro pi (And.intro pz0 (And.intro pz1 pz2)))
  obtain ⟨q0, qi, qz0, qz1, qz2⟩ := info_parts info_pq
  have ZQ := Lib.hid (And.intro qi (And.intro qz0 (And.intro qz1 qz2)))
  clear pi pz0 pz1 pz2 qi qz0 qz1 qz2 h1 h2
  go_enter Try.func3, Try.ntmps3
  go_wp2_with fail
  refine (NW.out _).mono ?_
  rintro e w1 ⟨a, c, rfl, hA1, ha, hcc, hb1⟩
  go_wp2_with fail
  refine (celled_any _).mono ?_
  rintro e w2 ⟨rfl, hb2⟩
  have hA2 := hA1.grew hb2
  have hB2 := hb1.trans (hb2.mono hb1.size)
  have CE := Lib.hid (cells_at hA2)
  have hl2 := hA2.lt
  go_wp2_with fail
  refine CE.out.mono ?_
  rintro e w3 ⟨rfl, hq3⟩
  simp only [List.length_replicate]
  have hA3 := hA2.quiet hq3
  have hB3 := hB2.trans hq3.below
  have hl3 := hA3.lt
  have hsA := hB3.size
  clear hA1 hA2 hB2 hb1 hb2 hl2 CE NW
  obtain ⟨W0, hW0⟩ : ∃ W0, ((w3.alloc (.cells (zeros n) 43)).alloc (.cells #[.slice (some ⟨w3.heap.size, 0, none⟩) n n, .slice none 0 0, .int .i64 0] 33)).alloc (.cells #[.int .i64 0, .int .i64 15, .int .i64 7] 3) = W0 := ⟨_, rfl⟩
  have hsz : W0.heap.size = w3.heap.size + 3 := by rw [← hW0]; simp
  have hI : PlS w W0.heap.size a c (w3.heap.size + 1) w3.heap.size (w3.heap.size + 1 + 1) n keep 0 (fun _ => 0) (fun _ => 0) (.slice none 0 0) (.slice none 0 0) W0 := by
    refine ⟨?_, ?_, ?_, ?_, fun j hj => absurd hj (Nat.not_lt_zero _), fun j hj => absurd hj (Nat.not_lt_zero _), World.ownsRow_nil _ _ _ _, World.ownsRow_nil _ _ _ _, fun j hj => absurd hj (Nat.not_lt_zero _), fun i j _ hj => absurd hj (Nat.not_lt_zero _), ?_, Nat.le_refl _, by omega⟩
    · rw [← hW0]; exact ((hA3.alloc _).alloc _).alloc _
    · rw [← hW0]; exact (Blk.new' (by simp)).alloc _
    · rw [← hW0]; exact ((Blk.new' rfl).alloc _).alloc _
    · rw [← hW0]; exact Blk.new' (by simp)
    · rw [← hW0]; exact ((hB3.alloc hB3.size _).alloc (by simp; omega) _).alloc (by simp; omega) _
  go_wp2_with fail
  try rw [hW0]
  have HI := Lib.hid hI
  have HS := Lib.hid (And.intro hsz (And.intro hl3 (And.intro ha (And.intro hcc hA3.apart))))
  clear hW0 hsz hI hA3 hB3 hl3 ha hcc hq3 hmk
  go_loopw [10, 11, 13] (fun u10 u11 i wr => ∃ (k : Nat) (P Q : Nat → Nat), k ≤ 3 ∧ i = .int .i64 k ∧ Hid (PlS w W0.heap.size a c (w3.heap.size + 1) w3.heap.size (w3.heap.size + 1 + 1) n keep k P Q u10 u11 wr)) (fun _ _ i _ => 3 - (intOf i).toNat)
  case atStart => exact ⟨0, _, _, by decide, rfl, HI⟩
  case round =>
    obtain ⟨k, P, Q, hk, rfl, hS⟩ := hrel
    clear HI
    by_cases hk3 : k < 3
    · have hk3' : (k : Int) < 3 := by omega
      have hk0 : (0 : Int) ≤ (k : Int) := by omega
      have hwc : ∀ W, PlS w W0.heap.size a c (w3.heap.size + 1) w3.heap.size (w3.heap.size + 1 + 1) n keep k P Q u10 u11 W → W.cell? ⟨w3.heap.size + 1 + 1, k, none⟩ = some (.int .i64 (whF k)) := fun W hW => by
        match k, hk3 with
        | 0, _ => exact hW.wo.val 0 rfl
        | 1, _ => exact hW.wo.val 1 rfl
        | 2, _ => exact hW.wo.val 2 rfl
      have WC := Lib.hid hwc
      have wc := hwc wr hS.out
      have hlim := whF_lim k
      have HZ : Hid (∀ Pt p j, j = k → PortAt Pt p a (whF k) false → PortAt Pt p a (whF j) false) := Lib.hid (fun Pt p j e h => by subst e; exact h)
      have HZ2 : Hid (∀ Pt p j, j = k → RefP Pt p (whF k) false → RefP Pt p (whF j) false) := Lib.hid (fun Pt p j e h => by subst e; exact h)
      clear hwc
      generalize whF k = z at *
      have PY := Lib.hid (fun W => port_yes a z W hlim.1 hlim.2)
      clear hlim
      go_wp2_with fail
      refine (PY.out _).mono ?_
      rintro e w4 ⟨p, rfl, hP4, hp4, hb4⟩
      have hS4 := hS.out.below hb4
      have h10 := hS4.r10
      have hwc4 := WC.out w4 hS4
      have hLw := hS4.lL
      go_wp2_with (first | (at_builtin; refine wpList_append_lies _ rfl _ _ 34 rfl W0.heap.size 37 p0 (.pointer none) 1 8 Try.underlying34 ZP.out.1 ZP.out.2.1 ZP.out.2.2.1 ZP.out.2.2.2 rfl (by decide) _ _ _ rfl (h10.alloc _) ⟨w4.heap.size, 0, none⟩ 1 1 [.pointer (some ⟨p, 0, none⟩)] rfl rfl (cell_one_new _ _ _) (by simp [Value.oneCell']) (by decide) (by unfold maxLen; omega) (by omega) (by simp; omega) (w4.heap.size + 1) (by simp) ?_; intro g5 cap5 w5 hown5 hgrow5 hat5 hlt5; have T5 : Touch (fun b => u10.ownBlock = some b) w4 w5 := ((Touch.refl _ _).alloc _).grown hgrow5 (fun k hk => .inl hk); have hwc5 := (World.cell?_of_block (a := ⟨w3.heap.size + 1 + 1, k, none⟩) (T5.block (w3.heap.size + 1 + 1) (Blk.lt hS4.wo) (own_neT hS4.r10 hS4.wo (by decide)))).trans hwc4; have h11 := own_touchR hS4.r11 T5 (fun g e e2 => own_two hS4.r10 hS4.r11 (by decide) g e2 e); have hs5 := T5.size) | (at_builtin; refine wpList_append_lies _ rfl _ _ 35 rfl W0.heap.size 40 q0 (.pointer none) 1 8 Try.underlying35 ZQ.out.1 ZQ.out.2.1 ZQ.out.2.2.1 ZQ.out.2.2.2 rfl (by decide) _ _ _ rfl ((h11.alloc _).alloc _) ⟨w5.heap.size + 1, 0, none⟩ 1 1 [.pointer (some ⟨w5.heap.size, 0, none⟩)] rfl rfl (cell_one_newN _ _ _ _ (by simp)) (by simp [Value.oneCell']) (by decide) (by unfold maxLen; omega) (by omega) (by simp; omega) (w5.heap.size + 1 + 1) (by simp) ?_; intro g6 cap6 w6 hown6 hgrow6 hat6 hlt6))
      have T6 : Touch (fun b => u11.ownBlock = some b) w5 w6 := (((Touch.refl _ _).alloc _).alloc _).grown hgrow6 (fun k hk => .inl hk)
      have TT : Touch (fun b => u10.ownBlock = some b ∨ u11.ownBlock = some b) wr w6 := ((Touch.of hb4).trans (T5.mono (fun _ _ e => .inl e))).trans (T6.mono (fun _ _ e => .inr e))
      have n11 : ∀ b, u11.ownBlock = some b → b < w5.heap.size := fun b e => (h11.lt b e).2
      have hq6 : RefP w6 w5.heap.size z false := by
        have h := Blk.new w5 #[.int .i64 z, .bool false] 42
        refine Blk.touch (h.alloc _) ((Touch.refl _ _).grown hgrow6 (fun k hk => .inl hk)) (R := fun b => u11.ownBlock = some b) (fun e => ?_)
        have := n11 _ e; omega
      have hp6 : PortAt w6 p a z false := Blk.touch (Blk.touch hP4 T5 (own_neT hS4.r10 hP4 (by decide))) T6 (own_neT hS4.r11 hP4 (by decide))
      have lp4 := Blk.lt hP4
      have lq6 := Blk.lt hq6
      have hN : PlS w W0.heap.size a c (w3.heap.size + 1) w3.heap.size (w3.heap.size + 1 + 1) n keep (k + 1) (fun j => if j = k then p else P j) (fun j => if j = k then w5.heap.size else Q j) (.slice (some ⟨g5, 0, none⟩) (k + 1) cap5) (.slice (some ⟨g6, 0, none⟩) (k + 1) cap6) w6 := by
        refine hS.out.touch TT (fun b e => e) (k + 1) (by omega) (fun j hj => ?_) (fun j h1 h2 => ?_) ?_ ?_ (fun j h1 h2 => ?_) (Nat.le_refl _)
        · have : ¬ j = k := by omega
          simp only [if_neg this]; exact ⟨trivial, trivial⟩
        · have e : j = k := by omega
          simp only [if_pos e]
          exact ⟨HZ.out _ _ _ e hp6, HZ2.out _ _ _ e hq6⟩
        · rw [rowP_succ]
          exact own_touchR hown5 T6 (fun g e e2 => own_two hown5 h11 (by decide) g e e2)
        · rw [rowP_succ]; exact hown6
        · have e : j = k := by omega
          simp only [if_pos e]
          exact ⟨hp4, by omega, lq6⟩
      have hN := Lib.hid hN
      clear hq6 hp6 T6 TT T5 h10 h11 hown5 hown6 hS4 hP4
      go_wp2
      go_roundw
      case rel => exact ⟨k + 1, _, _, by omega, by go_num, hN⟩
      case measure => simp [intOf]; omega
    · obtain rfl : k = 3 := by omega
      obtain ⟨g10, c10, rfl, hg10, hg10l, -⟩ := own_form3 hS.out.r10 (by decide)
      obtain ⟨g11, c11, rfl, hg11, hg11l, -⟩ := own_form3 hS.out.r11 (by decide)
      have hD := hS.out.duo HS.out.2.2.1 HS.out.2.2.2.1 HS.out.2.2.2.2 (by have := HS.out.1; have := HS.out.2.1; omega)
      have hP10 : ∀ j, j < 3 → wr.cell? ⟨g10, j, none⟩ = some (.pointer (some ⟨P j, 0, none⟩)) := fun j hj => by
        rw [hS.out.r10.cellAt j (by omega)]; exact rowP_get P 3 j hj
      have hP11 : ∀ j, j < 3 → wr.cell? ⟨g11, j, none⟩ = some (.pointer (some ⟨Q j, 0, none⟩)) := fun j hj => by
        rw [hS.out.r11.cellAt j (by omega)]; exact rowP_get Q 3 j hj
      have HB := Lib.hid hS.out.bl
      have HD := Lib.hid hD
      have HP := Lib.hid (And.intro hP10 hP11)
      have hGood : Good ⟨List.replicate n 0, [], 0, 0⟩ := ⟨fun _ _ => 0, rfl⟩
      have HG := Lib.hid (And.intro hGood (List.length_replicate (n := n) (a := (0 : Int))))
      clear hS hD hP10 hP11 hGood hk3 HS
      generalize wr = wp at *
      go_wp2_with fail
      go_loopw [16] (fun i wr => ∃ (k : Nat) (g : Nat → Bool) (lv lm : Value) (s : St), k ≤ n0 ∧ k ≤ 200 ∧ i = .int .i64 k ∧ Hid (Duo (KeepX w g10 g11) wp wr wp.heap.size a c (w3.heap.size + 1) w3.heap.size P Q whF keep g g lv lm s s) ∧ Hid (s.m ≤ k ∧ 0 ≤ s.f ∧ s.f ≤ (k : Int) ∧ s.cs.length = n ∧ Good s)) (fun i _ => n0 - (intOf i).toNat)
      case atStart => exact ⟨0, _, _, _, _, Nat.zero_le _, by omega, rfl, HD, Lib.hid ⟨Nat.le_refl _, Int.le_refl _, Int.le_refl _, HG.out.2, HG.out.1⟩⟩
      case round =>
        obtain ⟨k, g, lv, lm, s, hk, hk2, rfl, hDu, hNu⟩ := hrel
        clear HD HG
        by_cases hl : k < n0
        · by_cases h200 : k < 200
          · obtain ⟨rfl, hb2⟩ := hbp.out (by omega)
            have hl' : (k : Int) < (n0 : Int) := by omega
            have h200' : (k : Int) < 200 := by omega
            have hk0 : (0 : Int) ≤ (k : Int) := by omega
            have RC := Lib.hid (fun i (hi : i < 5) => (HB.out.cell (p := ⟨b2, o2 + k * 5 + i, none⟩) hb2).trans (hc.out k hl i hi))
            have y0 : wp.cell? ⟨b2, o2 + k * 5, none⟩ = some (.int .i64 (F0 k 0)) := RC.out 0 (by decide)
            have y1 : wp.cell? ⟨b2, o2 + k * 5 + 1, none⟩ = some (.int .i64 (F0 k 1)) := RC.out 1 (by decide)
            have y2 : wp.cell? ⟨b2, o2 + k * 5 + 2, none⟩ = some (.int .i64 (F0 k 2)) := RC.out 2 (by decide)
            have y3 : wp.cell? ⟨b2, o2 + k * 5 + 3, none⟩ = some (.int .u64 (F0 k 3)) := RC.out 3 (by decide)
            have y4 : wp.cell? ⟨b2, o2 + k * 5 + 4, none⟩ = some (.int .u64 (F0 k 4)) := RC.out 4 (by decide)
            have HCC := Lib.hid hc
            clear RC hc
            generalize F0 k 0 = z0 at *
            generalize F0 k 1 = z1 at *
            generalize F0 k 2 = z2 at *
            generalize F0 k 3 = z3 at *
            generalize F0 k 4 = z4 at *
            obtain ⟨j, hj, HJ⟩ := mod_small3 z0 3 (by decide) (by decide)
            rw [show ((3 : Nat) : Int) = 3 from rfl] at HJ
            have HJ := Lib.hid HJ
            have hj3 : (j : Int) < 3 := by omega
            have hj0 : (0 : Int) ≤ (j : Int) := by omega
            have x10 := HP.out.1 j hj
            have x11 := HP.out.2 j hj
            have SK := Lib.hid (fun W gp gq lv' lm' s' t' (h : Duo (KeepX w g10 g11) wp W wp.heap.size a c (w3.heap.size + 1) w3.heap.size P Q whF keep gp gq lv' lm' s' t') => (⟨h.kcell (.inr (.inl rfl)) x10, h.kcell (.inr (.inr rfl)) x11, h.kcell (.inl hb2) y0, h.kcell (.inl hb2) y1, h.kcell (.inl hb2) y2, h.kcell (.inl hb2) y3, h.kcell (.inl hb2) y4⟩ : (W.cell? ⟨g10, j, none⟩ = some (.pointer (some ⟨P j, 0, none⟩)) ∧ W.cell? ⟨g11, j, none⟩ = some (.pointer (some ⟨Q j, 0, none⟩)) ∧ W.cell? ⟨b2, o2 + k * 5, none⟩ = some (.int .i64 z0) ∧ W.cell? ⟨b2, o2 + k * 5 + 1, none⟩ = some (.int .i64 z1) ∧ W.cell? ⟨b2, o2 + k * 5 + 2, none⟩ = some (.int .i64 z2) ∧ W.cell? ⟨b2, o2 + k * 5 + 3, none⟩ = some (.int .u64 z3) ∧ W.cell? ⟨b2, o2 + k * 5 + 4, none⟩ = some (.int .u64 z4))))
            clear x10 x11 y0 y1 y2 y3 y4
            have hD := hDu.out
            have hS0 := SK.out _ _ _ _ _ _ _ hD
            have r0 := hS0.2.2.1
            have hDd := hD.quiet (w' := wr.drew) ⟨1, rfl⟩
            have hS0d := SK.out _ _ _ _ _ _ _ hDd
            have hBd : Bd s := ⟨by have := hNu.out; omega, hNu.out.2.1, by have := hNu.out.2.2.1; omega, by have := hNu.out.2.2.2.1; have := HN.out; omega⟩
            go_upto_region 22 with fail
            rw [HJ.out]
            refine wp_region_held_drew (S := fun W => (W.cell? ⟨g10, j, none⟩ = some (.pointer (some ⟨P j, 0, none⟩)) ∧ W.cell? ⟨g11, j, none⟩ = some (.pointer (some ⟨Q j, 0, none⟩)) ∧ W.cell? ⟨b2, o2 + k * 5, none⟩ = some (.int .i64 z0) ∧ W.cell? ⟨b2, o2 + k * 5 + 1, none⟩ = some (.int .i64 z1) ∧ W.cell? ⟨b2, o2 + k * 5 + 2, none⟩ = some (.int .i64 z2) ∧ W.cell? ⟨b2, o2 + k * 5 + 3, none⟩ = some (.int .u64 z3) ∧ W.cell? ⟨b2, o2 + k * 5 + 4, none⟩ = some (.int .u64 z4))) (by kernel_rfl) hS0d (fun hHeld => ?_)
            refine wpAnyH_take (i := 0) (oi := _) (v := ?_) (op_at rfl) (by kernel_rfl) (by kernel_rfl) (by kernel_rfl) (fun _ _ _ h => h) (Or.inl ⟨by rfl, ?_⟩) hHeld ?_
            rotate_left 1
            focus (intro W hSw; (try dsimp only at hSw); go_simp; (try (with_reducible rfl)))
            (try simp only [Act.put, List.setIfInBounds_toArray, List.set_cons_zero, List.set_cons_succ])
            refine wpAnyH_take (i := 1) (oi := _) (v := ?_) (op_at rfl) (by kernel_rfl) (by kernel_rfl) (by kernel_rfl) (fun _ _ _ h => h) (Or.inl ⟨by rfl, ?_⟩) hHeld ?_
            rotate_left 1
            focus (intro W hSw; (try dsimp only at hSw); go_simp; (try (with_reducible rfl)))
            (try simp only [Act.put, List.setIfInBounds_toArray, List.set_cons_zero, List.set_cons_succ])
            refine wpAnyH_take (i := 2) (oi := _) (v := ?_) (op_at rfl) (by kernel_rfl) (by kernel_rfl) (by kernel_rfl) (fun _ _ _ h => h) (Or.inl ⟨by rfl, ?_⟩) hHeld ?_
            rotate_left 1
            focus (intro W hSw; (try dsimp only at hSw); go_simp; (try (with_reducible rfl)))
            (try simp only [Act.put, List.setIfInBounds_toArray, List.set_cons_zero, List.set_cons_succ])
            refine wpAnyH_take (i := 3) (oi := _) (v := ?_) (op_at rfl) (by kernel_rfl) (by kernel_rfl) (by kernel_rfl) (fun _ _ _ h => h) (Or.inl ⟨by rfl, ?_⟩) hHeld ?_
            rotate_left 1
            focus (intro W hSw; (try dsimp only at hSw); go_simp; (try (with_reducible rfl)))
            (try simp only [Act.put, List.setIfInBounds_toArray, List.set_cons_zero, List.set_cons_succ])
            refine wpAnyH_take (i := 4) (oi := _) (v := ?_) (op_at rfl) (by kernel_rfl) (by kernel_rfl) (by kernel_rfl) (fun _ _ _ h => h) (Or.inl ⟨by rfl, ?_⟩) hHeld ?_
            rotate_left 1
            focus (intro W hSw; (try dsimp only at hSw); go_simp; (try (with_reducible rfl)))
            (try simp only [Act.put, List.setIfInBounds_toArray, List.set_cons_zero, List.set_cons_succ])
            refine wpAnyH_take (i := 5) (oi := _) (v := ?_) (op_at rfl) (by kernel_rfl) (by kernel_rfl) (by kernel_rfl) (fun _ _ _ h => h) (Or.inl ⟨by rfl, ?_⟩) hHeld ?_
            rotate_left 1
            focus (intro W hSw; (try dsimp only at hSw); go_simp; (try (with_reducible rfl)))
            (try simp only [Act.put, List.setIfInBounds_toArray, List.set_cons_zero, List.set_cons_succ])
            refine wpAnyH_take (i := 6) (oi := _) (v := ?_) (op_at rfl) (by kernel_rfl) (by kernel_rfl) (by kernel_rfl) (fun _ _ _ h => h) (Or.inl ⟨by rfl, ?_⟩) hHeld ?_
            rotate_left 1
            focus (intro W hSw; (try dsimp only at hSw); go_simp; (try (with_reducible rfl)))
            (try simp only [Act.put, List.setIfInBounds_toArray, List.set_cons_zero, List.set_cons_succ])
            refine wpAnyH_take (i := 7) (oi := _) (v := ?_) (op_at rfl) (by kernel_rfl) (by kernel_rfl) (by kernel_rfl) (fun _ _ _ h => h) (Or.inl ⟨by rfl, ?_⟩) hHeld ?_
            rotate_left 1
            focus (intro W hSw; (try dsimp only at hSw); go_simp; (try (with_reducible rfl)))
            (try simp only [Act.put, List.setIfInBounds_toArray, List.set_cons_zero, List.set_cons_succ])
            refine wpAnyH_take (i := 8) (oi := _) (v := ?_) (op_at rfl) (by kernel_rfl) (by kernel_rfl) (by kernel_rfl) (fun _ _ _ h => h) (Or.inl ⟨by rfl, ?_⟩) hHeld ?_
            rotate_left 1
            focus (intro W hSw; (try dsimp only at hSw); go_simp; (try (with_reducible rfl)))
            (try simp only [Act.put, List.setIfInBounds_toArray, List.set_cons_zero, List.set_cons_succ])
            refine wpAnyH_take (i := 9) (oi := _) (v := ?_) (op_at rfl) (by kernel_rfl) (by kernel_rfl) (by kernel_rfl) (fun _ _ _ h => h) (Or.inl ⟨by rfl, ?_⟩) hHeld ?_
            rotate_left 1
            focus (intro W hSw; (try dsimp only at hSw); go_simp; (try (with_reducible rfl)))
            (try simp only [Act.put, List.setIfInBounds_toArray, List.set_cons_zero, List.set_cons_succ])
            refine wpAnyH_take (i := 10) (oi := _) (v := ?_) (op_at rfl) (by kernel_rfl) (by kernel_rfl) (by kernel_rfl) (fun _ _ _ h => h) (Or.inl ⟨by rfl, ?_⟩) hHeld ?_
            rotate_left 1
            focus (intro W hSw; (try dsimp only at hSw); go_simp; (try (with_reducible rfl)))
            (try simp only [Act.put, List.setIfInBounds_toArray, List.set_cons_zero, List.set_cons_succ])
            refine wpAnyH_take (i := 11) (oi := _) (v := ?_) (op_at rfl) (by kernel_rfl) (by kernel_rfl) (by kernel_rfl) (fun _ _ _ h => h) (Or.inl ⟨by rfl, ?_⟩) hHeld ?_
            rotate_left 1
            focus (intro W hSw; (try dsimp only at hSw); go_simp; (try (with_reducible rfl)))
            (try simp only [Act.put, List.setIfInBounds_toArray, List.set_cons_zero, List.set_cons_succ])
            refine wpAnyH_take (i := 12) (oi := _) (v := ?_) (op_at rfl) (by kernel_rfl) (by kernel_rfl) (by kernel_rfl) (fun _ _ _ h => h) (Or.inl ⟨by rfl, ?_⟩) hHeld ?_
            rotate_left 1
            focus (intro W hSw; (try dsimp only at hSw); go_simp; (try (with_reducible rfl)))
            (try simp only [Act.put, List.setIfInBounds_toArray, List.set_cons_zero, List.set_cons_succ])
            refine wpAnyH_take (i := 13) (oi := _) (v := ?_) (op_at rfl) (by kernel_rfl) (by kernel_rfl) (by kernel_rfl) (fun _ _ _ h => h) (Or.inl ⟨by rfl, ?_⟩) hHeld ?_
            rotate_left 1
            focus (intro W hSw; (try dsimp only at hSw); go_simp; (try (with_reducible rfl)))
            (try simp only [Act.put, List.setIfInBounds_toArray, List.set_cons_zero, List.set_cons_succ])
            refine wpAnyH_ready (rs := [14]) (by kernel_rfl) (by simp) ?_
            refine AllReadyH.cons (o := _) (op_at rfl) (fun K hK => ?_) AllReadyH.nil
            go_simp
            go_at_call 8
            refine (one_any hDd hj hBd z0 z1 z2 z3 z4).mono ?_
            rintro e w5 ⟨rfl, g5, lv5, lm5, s5, hD5, hS5⟩
            obtain ⟨la5, lc5, rfl⟩ := row_form hD5.ar.log
            go_wp2_with fail
            refine hK.out _ _ ?_ (fun hHeld => ?_)
            focus exact SK.out _ _ _ _ _ _ _ hD5
            clear hK K
            (try simp only [Act.put, List.setIfInBounds_toArray, List.set_cons_zero, List.set_cons_succ])
            refine wpAnyH_mono (S' := fun W => (W.cell? ⟨g10, j, none⟩ = some (.pointer (some ⟨P j, 0, none⟩)) ∧ W.cell? ⟨g11, j, none⟩ = some (.pointer (some ⟨Q j, 0, none⟩)) ∧ W.cell? ⟨b2, o2 + k * 5, none⟩ = some (.int .i64 z0) ∧ W.cell? ⟨b2, o2 + k * 5 + 1, none⟩ = some (.int .i64 z1) ∧ W.cell? ⟨b2, o2 + k * 5 + 2, none⟩ = some (.int .i64 z2) ∧ W.cell? ⟨b2, o2 + k * 5 + 3, none⟩ = some (.int .u64 z3) ∧ W.cell? ⟨b2, o2 + k * 5 + 4, none⟩ = some (.int .u64 z4)) ∧ W.cell? ⟨w3.heap.size + 1, 1, none⟩ = some (.slice la5 s5.m lc5) ∧ W.cell? ⟨w3.heap.size + 1, 2, none⟩ = some (.int .i64 s5.f)) (fun W h => h.1) ?_
            have hHeld : (w5.cell? ⟨g10, j, none⟩ = some (.pointer (some ⟨P j, 0, none⟩)) ∧ w5.cell? ⟨g11, j, none⟩ = some (.pointer (some ⟨Q j, 0, none⟩)) ∧ w5.cell? ⟨b2, o2 + k * 5, none⟩ = some (.int .i64 z0) ∧ w5.cell? ⟨b2, o2 + k * 5 + 1, none⟩ = some (.int .i64 z1) ∧ w5.cell? ⟨b2, o2 + k * 5 + 2, none⟩ = some (.int .i64 z2) ∧ w5.cell? ⟨b2, o2 + k * 5 + 3, none⟩ = some (.int .u64 z3) ∧ w5.cell? ⟨b2, o2 + k * 5 + 4, none⟩ = some (.int .u64 z4)) ∧ w5.cell? ⟨w3.heap.size + 1, 1, none⟩ = some (.slice la5 s5.m lc5) ∧ w5.cell? ⟨w3.heap.size + 1, 2, none⟩ = some (.int .i64 s5.f) := ⟨hHeld, hD5.ar.own.val 1 rfl, hD5.ar.own.val 2 rfl⟩
            have hff : (s5.f != s5.f) = false := by simp
            have hmm : ((s5.m : Int) != (s5.m : Int)) = false := by simp
            refine wpAnyH_take (i := 15) (oi := _) (v := ?_) (op_at rfl) (by kernel_rfl) (by kernel_rfl) (by kernel_rfl) (fun _ _ _ h => h) (Or.inl ⟨by rfl, ?_⟩) hHeld ?_
            rotate_left 1
            focus (intro W hSw; (try dsimp only at hSw); go_simp; (try (with_reducible rfl)))
            (try simp only [Act.put, List.setIfInBounds_toArray, List.set_cons_zero, List.set_cons_succ])
            refine wpAnyH_take (i := 16) (oi := _) (v := ?_) (op_at rfl) (by kernel_rfl) (by kernel_rfl) (by kernel_rfl) (fun _ _ _ h => h) (Or.inl ⟨by rfl, ?_⟩) hHeld ?_
            rotate_left 1
            focus (intro W hSw; (try dsimp only at hSw); go_simp; (try (with_reducible rfl)))
            (try simp only [Act.put, List.setIfInBounds_toArray, List.set_cons_zero, List.set_cons_succ])
            refine wpAnyH_take (i := 17) (oi := _) (v := ?_) (op_at rfl) (by kernel_rfl) (by kernel_rfl) (by kernel_rfl) (fun _ _ _ h => h) (Or.inl ⟨by rfl, ?_⟩) hHeld ?_
            rotate_left 1
            focus (intro W hSw; (try dsimp only at hSw); go_simp; (try (with_reducible rfl)))
            (try simp only [Act.put, List.setIfInBounds_toArray, List.set_cons_zero, List.set_cons_succ])
            refine wpAnyH_take (i := 19) (oi := _) (v := ?_) (op_at rfl) (by kernel_rfl) (by kernel_rfl) (by kernel_rfl) (fun _ _ _ h => h) (Or.inl ⟨by rfl, ?_⟩) hHeld ?_
            rotate_left 1
            focus (intro W hSw; (try dsimp only at hSw); go_simp; (try (with_reducible rfl)))
            (try simp only [Act.put, List.setIfInBounds_toArray, List.set_cons_zero, List.set_cons_succ])
            refine wpAnyH_take (i := 20) (oi := _) (v := ?_) (op_at rfl) (by kernel_rfl) (by kernel_rfl) (by kernel_rfl) (fun _ _ _ h => h) (Or.inl ⟨by rfl, ?_⟩) hHeld ?_
            rotate_left 1
            focus (intro W hSw; (try dsimp only at hSw); go_simp; (try (with_reducible rfl)))
            (try simp only [Act.put, List.setIfInBounds_toArray, List.set_cons_zero, List.set_cons_succ])
            refine wpAnyH_take (i := 21) (oi := _) (v := ?_) (op_at rfl) (by kernel_rfl) (by kernel_rfl) (by kernel_rfl) (fun _ _ _ h => h) (Or.inl ⟨by rfl, ?_⟩) hHeld ?_
            rotate_left 1
            focus (intro W hSw; (try dsimp only at hSw); go_simp; (try (with_reducible rfl)))
            (try simp only [Act.put, List.setIfInBounds_toArray, List.set_cons_zero, List.set_cons_succ])
            refine wpAnyH_take (i := 22) (oi := _) (v := ?_) (op_at rfl) (by kernel_rfl) (by kernel_rfl) (by kernel_rfl) (fun _ _ _ h => h) (Or.inl ⟨by rfl, ?_⟩) hHeld ?_
            rotate_left 1
            focus (intro W hSw; (try dsimp only at hSw); go_simp; (try (with_reducible rfl)))
            (try simp only [Act.put, List.setIfInBounds_toArray, List.set_cons_zero, List.set_cons_succ])
            refine wpAnyH_ready (rs := [18]) (by kernel_rfl) (by simp) ?_
            refine AllReadyH.cons (o := _) (op_at rfl) (fun K hK => ?_) AllReadyH.nil
            go_simp
            go_at_call 9
            refine (faults_at hD5.at').mono ?_
            rintro e w6 ⟨rfl, hq6⟩
            have hD6 := hD5.quiet hq6
            go_wp2_with fail
            refine hK.out _ _ ?_ (fun hHeld => ?_)
            focus exact ⟨SK.out _ _ _ _ _ _ _ hD6, hD6.ar.own.val 1 rfl, hD6.ar.own.val 2 rfl⟩
            clear hK K
            (try simp only [Act.put, List.setIfInBounds_toArray, List.set_cons_zero, List.set_cons_succ])
            refine wpAnyH_take (i := 23) (oi := _) (v := ?_) (op_at rfl) (by kernel_rfl) (by kernel_rfl) (by kernel_rfl) (fun _ _ _ h => h) (Or.inl ⟨by rfl, ?_⟩) hHeld ?_
            rotate_left 1
            focus (intro W hSw; (try dsimp only at hSw); go_simp; (try (with_reducible rfl)))
            (try simp only [Act.put, List.setIfInBounds_toArray, List.set_cons_zero, List.set_cons_succ])
            refine wpAnyH_take (i := 24) (oi := _) (v := ?_) (op_at rfl) (by kernel_rfl) (by kernel_rfl) (by kernel_rfl) (fun _ _ _ h => h) (Or.inl ⟨by rfl, ?_⟩) hHeld ?_
            rotate_left 1
            focus (intro W hSw; (try dsimp only at hSw); go_simp; (try (with_reducible rfl)))
            (try simp only [Act.put, List.setIfInBounds_toArray, List.set_cons_zero, List.set_cons_succ])
            refine wpAnyH_take (i := 25) (oi := _) (v := ?_) (op_at rfl) (by kernel_rfl) (by kernel_rfl) (by kernel_rfl) (fun _ _ _ h => h) (Or.inl ⟨by rfl, ?_⟩) hHeld ?_
            rotate_left 1
            focus (intro W hSw; (try dsimp only at hSw); go_simp; (try (with_reducible rfl)))
            (try simp only [Act.put, List.setIfInBounds_toArray, List.set_cons_zero, List.set_cons_succ])
            refine wpAnyH_take (i := 26) (oi := _) (v := ?_) (op_at rfl) (by kernel_rfl) (by kernel_rfl) (by kernel_rfl) (fun _ _ _ h => h) (Or.inl ⟨by rfl, ?_⟩) hHeld ?_
            rotate_left 1
            focus (intro W hSw; (try dsimp only at hSw); go_simp; (try (with_reducible rfl)))
            (try simp only [Act.put, List.setIfInBounds_toArray, List.set_cons_zero, List.set_cons_succ])
            refine wpAnyH_take (i := 28) (oi := _) (v := ?_) (op_at rfl) (by kernel_rfl) (by kernel_rfl) (by kernel_rfl) (fun _ _ _ h => h) (Or.inl ⟨by rfl, ?_⟩) hHeld ?_
            rotate_left 1
            focus (intro W hSw; (try dsimp only at hSw); go_simp; (try (with_reducible rfl)))
            (try simp only [Act.put, List.setIfInBounds_toArray, List.set_cons_zero, List.set_cons_succ])
            refine wpAnyH_take (i := 29) (oi := _) (v := ?_) (op_at rfl) (by kernel_rfl) (by kernel_rfl) (by kernel_rfl) (fun _ _ _ h => h) (Or.inl ⟨by rfl, ?_⟩) hHeld ?_
            rotate_left 1
            focus (intro W hSw; (try dsimp only at hSw); go_simp; (try (with_reducible rfl)))
            (try simp only [Act.put, List.setIfInBounds_toArray, List.set_cons_zero, List.set_cons_succ])
            refine wpAnyH_take (i := 30) (oi := _) (v := ?_) (op_at rfl) (by kernel_rfl) (by kernel_rfl) (by kernel_rfl) (fun _ _ _ h => h) (Or.inl ⟨by rfl, ?_⟩) hHeld ?_
            rotate_left 1
            focus (intro W hSw; (try dsimp only at hSw); go_simp; (try (with_reducible rfl)))
            (try simp only [Act.put, List.setIfInBounds_toArray, List.set_cons_zero, List.set_cons_succ])
            refine wpAnyH_take (i := 31) (oi := _) (v := ?_) (op_at rfl) (by kernel_rfl) (by kernel_rfl) (by kernel_rfl) (fun _ _ _ h => h) (Or.inl ⟨by rfl, ?_⟩) hHeld ?_
            rotate_left 1
            focus (intro W hSw; (try dsimp only at hSw); go_simp; (try (with_reducible rfl)))
            (try simp only [Act.put, List.setIfInBounds_toArray, List.set_cons_zero, List.set_cons_succ])
            refine wpAnyH_take (i := 32) (oi := _) (v := ?_) (op_at rfl) (by kernel_rfl) (by kernel_rfl) (by kernel_rfl) (fun _ _ _ h => h) (Or.inl ⟨by rfl, ?_⟩) hHeld ?_
            rotate_left 1
            focus (intro W hSw; (try dsimp only at hSw); go_simp; (try (with_reducible rfl)))
            (try simp only [Act.put, List.setIfInBounds_toArray, List.set_cons_zero, List.set_cons_succ])
            refine wpAnyH_ready (rs := [27]) (by kernel_rfl) (by simp) ?_
            refine AllReadyH.cons (o := _) (op_at rfl) (fun K hK => ?_) AllReadyH.nil
            go_simp
            go_at_call 10
            refine (count_at hD6.at').mono ?_
            rintro e w7 ⟨rfl, hq7⟩
            have hD7 := hD6.quiet hq7
            go_wp2_with fail
            refine hK.out _ _ ?_ (fun hHeld => ?_)
            focus exact ⟨SK.out _ _ _ _ _ _ _ hD7, hD7.ar.own.val 1 rfl, hD7.ar.own.val 2 rfl⟩
            clear hK K
            (try simp only [Act.put, List.setIfInBounds_toArray, List.set_cons_zero, List.set_cons_succ])
            refine wpAnyH_take (i := 33) (oi := _) (v := ?_) (op_at rfl) (by kernel_rfl) (by kernel_rfl) (by kernel_rfl) (fun _ _ _ h => h) (Or.inl ⟨by rfl, ?_⟩) hHeld ?_
            rotate_left 1
            focus (intro W hSw; (try dsimp only at hSw); go_simp; (try (with_reducible rfl)))
            (try simp only [Act.put, List.setIfInBounds_toArray, List.set_cons_zero, List.set_cons_succ])
            refine wpAnyH_take (i := 34) (oi := _) (v := ?_) (op_at rfl) (by kernel_rfl) (by kernel_rfl) (by kernel_rfl) (fun _ _ _ h => h) (Or.inl ⟨by rfl, ?_⟩) hHeld ?_
            rotate_left 1
            focus (intro W hSw; (try dsimp only at hSw); go_simp; (try (with_reducible rfl)))
            (try simp only [Act.put, List.setIfInBounds_toArray, List.set_cons_zero, List.set_cons_succ])
            refine wpAnyH_done (by kernel_rfl) ?_ _
            all_goals
              have hR : ∃ (k' : Nat) (g : Nat → Bool) (lv lm : Value) (s : St), k' = k + 1 ∧ Hid (Duo (KeepX w g10 g11) wp w7 wp.heap.size a c (w3.heap.size + 1) w3.heap.size P Q whF keep g g lv lm s s) ∧ Hid (s.m ≤ k + 1 ∧ 0 ≤ s.f ∧ s.f ≤ ((k + 1 : Nat) : Int) ∧ s.cs.length = n ∧ Good s) :=
                ⟨_, _, _, _, _, rfl, Lib.hid hD7, Lib.hid ⟨by have := hNu.out.1; have := hS5.1; omega, hS5.2.1, by have := hNu.out.2.2.1; have := hS5.2.2.1; omega, by rw [hS5.2.2.2.1]; exact hNu.out.2.2.2.1, hS5.2.2.2.2 hNu.out.2.2.2.2⟩⟩
              have HR := Lib.hid hR
              clear hR hD hDd hD5 hD6 hS5
              go_wp2
              go_roundw
              case rel =>
                obtain ⟨_, g', lv', lm', s', rfl, r1, r2⟩ := HR.out
                exact ⟨k + 1, g', lv', lm', s', by omega, by omega, by go_num, r1, r2⟩
              case measure => simp [intOf]; omega
          · have hl' : (k : Int) < (n0 : Int) := by omega
            have h200' : ¬ (k : Int) < 200 := by omega
            have hD := hDu.out
            obtain ⟨n1, n2, n3, n4, F, hF⟩ := hNu.out
            have hNum := n4
            have hn1 := HN.out
            clear hDu hNu
            cases keep with
            | true =>
              have LG := Lib.hid (logged_yes _ a c s.cs lv s.m s.f F wr (by have := hD.log rfl; rw [hF] at this; exact this) (by omega))
              go_wp2_with fail
              refine LG.out.mono ?_
              rintro e w6 ⟨v, rfl, hown, hb6⟩
              have hD6 := hD.grew hb6
              obtain ⟨va, vc, rfl⟩ := row_form hown
              obtain ⟨ma, mc, rfl⟩ := row_form hD6.ar.log
              have k0 := hD6.ar.own.val 0 rfl
              have k1 := hD6.ar.own.val 1 rfl
              have SL := Lib.hid (fun W (HDu : Duo (KeepX w g10 g11) wp W wp.heap.size a c (w3.heap.size + 1) w3.heap.size P Q whF true g g lv (.slice ma s.m mc) s s) (hv : W.ownsRow wr.heap.size 69 7 (.slice va s.m vc) s.m (flat F (List.range s.m))) => same_own (w := W) hv (by have := HDu.ar.log; rw [hF] at this; exact this) (by omega))
              have IM := Lib.hid (fun W (HDu : Duo (KeepX w g10 g11) wp W wp.heap.size a c (w3.heap.size + 1) w3.heap.size P Q whF true g g lv (.slice ma s.m mc) s s) => image_at a c s.cs true lv s.m s.f W HDu.at' (by omega) (by omega))
              have WO := Lib.hid (fun W vi (HDu : Duo (KeepX w g10 g11) wp W wp.heap.size a c (w3.heap.size + 1) w3.heap.size P Q whF true g g lv (.slice ma s.m mc) s s) (hv : Lst .u64 W vi s.cs) => words_any vi _ s.cs W hv (HDu.ar.lst (by omega) (by omega)))
              have KC := Lib.hid (fun W (HDu : Duo (KeepX w g10 g11) wp W wp.heap.size a c (w3.heap.size + 1) w3.heap.size P Q whF true g g lv (.slice ma s.m mc) s s) => (HDu.ar.own.val 0 rfl : W.cell? ⟨w3.heap.size + 1, 0, none⟩ = some (.slice (some ⟨w3.heap.size, 0, none⟩) s.cs.length s.cs.length)))
              have hD6d := hD6.quiet (w' := w6.drew) ⟨1, rfl⟩
              have hownd : w6.drew.ownsRow wr.heap.size 69 7 (.slice va s.m vc) s.m (flat F (List.range s.m)) := (show Quiet w6 w6.drew from ⟨1, rfl⟩).ownsRow hown
              have FIN := Lib.hid (fun W (HDu : Duo (KeepX w g10 g11) wp W wp.heap.size a c (w3.heap.size + 1) w3.heap.size P Q whF true g g lv (.slice ma s.m mc) s s) => HDu.low HB.out)
              clear hD LG hb6 hF hNum n4
              go_upto_region 28 with fail
              go_region_held3 (fun W => W.cell? ⟨w3.heap.size + 1, 0, none⟩ = some (.slice (some ⟨w3.heap.size, 0, none⟩) s.cs.length s.cs.length))
                (first | with_reducible assumption | with_reducible exact KC.out _ hD6 | with_reducible exact KC.out _ hD6d | with_reducible exact KC.out _ hD7 | with_reducible exact KC.out _ hD8 | with_reducible exact KC.out _ hD9)
                (first | (go_at_call 12; (with_reducible refine (SL.out _ (by assumption) (by assumption)).mono ?_); rintro e w7 ⟨rfl, hq7⟩; have hD7 := Duo.quiet (by first | exact hD6 | exact hD6d) hq7) | (go_at_call 14; (with_reducible refine (IM.out _ hD7).mono ?_); rintro e w8 ⟨vi, rfl, hvi, hb8⟩; have hD8 := hD7.grew hb8) | (go_at_call 13; have hl9 := lst_of_own hvi; (with_reducible refine (WO.out _ vi hD8 hl9).mono ?_); rintro e w9 ⟨rfl, hq9⟩; have hD9 := hD8.quiet hq9))
              all_goals
                go_wp2
                go_ret
                exact ⟨by simp, FIN.out _ hD9⟩
            | false =>
              have LG := Lib.hid (logged_gen wp.heap.size a c s.cs false lv 0 s.m s.f F wr hD.at' (by rw [hD.nil rfl]; exact World.ownsRow_nil _ _ _ _) (by omega))
              go_wp2_with fail
              refine LG.out.mono ?_
              rintro e w6 ⟨v, rfl, hown, hb6⟩
              have hD6 := hD.grew hb6
              obtain ⟨va, vc, rfl⟩ := row_form hown
              obtain ⟨ma, mc, rfl⟩ := row_form hD6.ar.log
              have k0 := hD6.ar.own.val 0 rfl
              have k1 := hD6.ar.own.val 1 rfl
              have SL := Lib.hid (fun W (HDu : Duo (KeepX w g10 g11) wp W wp.heap.size a c (w3.heap.size + 1) w3.heap.size P Q whF false g g lv (.slice ma s.m mc) s s) (hv : W.ownsRow wr.heap.size 69 7 (.slice va 0 vc) 0 (flat F (List.range 0))) => same_own (w := W) hv (World.ownsRow_nil _ 0 _ _) (by omega))
              have IM := Lib.hid (fun W (HDu : Duo (KeepX w g10 g11) wp W wp.heap.size a c (w3.heap.size + 1) w3.heap.size P Q whF false g g lv (.slice ma s.m mc) s s) => image_at a c s.cs false lv s.m s.f W HDu.at' (by omega) (by omega))
              have WO := Lib.hid (fun W vi (HDu : Duo (KeepX w g10 g11) wp W wp.heap.size a c (w3.heap.size + 1) w3.heap.size P Q whF false g g lv (.slice ma s.m mc) s s) (hv : Lst .u64 W vi s.cs) => words_any vi _ s.cs W hv (HDu.ar.lst (by omega) (by omega)))
              have KC := Lib.hid (fun W (HDu : Duo (KeepX w g10 g11) wp W wp.heap.size a c (w3.heap.size + 1) w3.heap.size P Q whF false g g lv (.slice ma s.m mc) s s) => (HDu.ar.own.val 0 rfl : W.cell? ⟨w3.heap.size + 1, 0, none⟩ = some (.slice (some ⟨w3.heap.size, 0, none⟩) s.cs.length s.cs.length)))
              have hD6d := hD6.quiet (w' := w6.drew) ⟨1, rfl⟩
              have hownd : w6.drew.ownsRow wr.heap.size 69 7 (.slice va 0 vc) 0 (flat F (List.range 0)) := (show Quiet w6 w6.drew from ⟨1, rfl⟩).ownsRow hown
              have FIN := Lib.hid (fun W (HDu : Duo (KeepX w g10 g11) wp W wp.heap.size a c (w3.heap.size + 1) w3.heap.size P Q whF false g g lv (.slice ma s.m mc) s s) => HDu.low HB.out)
              clear hD LG hb6 hF hNum n4
              go_upto_region 28 with fail
              go_region_held3 (fun W => W.cell? ⟨w3.heap.size + 1, 0, none⟩ = some (.slice (some ⟨w3.heap.size, 0, none⟩) s.cs.length s.cs.length))
                (first | with_reducible assumption | with_reducible exact KC.out _ hD6 | with_reducible exact KC.out _ hD6d | with_reducible exact KC.out _ hD7 | with_reducible exact KC.out _ hD8 | with_reducible exact KC.out _ hD9)
                (first | (go_at_call 12; (with_reducible refine (SL.out _ (by assumption) (by assumption)).mono ?_); rintro e w7 ⟨rfl, hq7⟩; have hD7 := Duo.quiet (by first | exact hD6 | exact hD6d) hq7) | (go_at_call 14; (with_reducible refine (IM.out _ hD7).mono ?_); rintro e w8 ⟨vi, rfl, hvi, hb8⟩; have hD8 := hD7.grew hb8) | (go_at_call 13; have hl9 := lst_of_own hvi; (with_reducible refine (WO.out _ vi hD8 hl9).mono ?_); rintro e w9 ⟨rfl, hq9⟩; have hD9 := hD8.quiet hq9))
              all_goals
                go_wp2
                go_ret
                exact ⟨by simp, FIN.out _ hD9⟩
        · have hl' : ¬ (k : Int) < (n0 : Int) := by omega
          have hD := hDu.out
          obtain ⟨n1, n2, n3, n4, F, hF⟩ := hNu.out
          have hNum := n4
          have hn1 := HN.out
          clear hDu hNu
          cases keep with
          | true =>
            have LG := Lib.hid (logged_yes _ a c s.cs lv s.m s.f F wr (by have := hD.log rfl; rw [hF] at this; exact this) (by omega))
            go_wp2_with fail
            refine LG.out.mono ?_
            rintro e w6 ⟨v, rfl, hown, hb6⟩
            have hD6 := hD.grew hb6
            obtain ⟨va, vc, rfl⟩ := row_form hown
            obtain ⟨ma, mc, rfl⟩ := row_form hD6.ar.log
            have k0 := hD6.ar.own.val 0 rfl
            have k1 := hD6.ar.own.val 1 rfl
            have SL := Lib.hid (fun W (HDu : Duo (KeepX w g10 g11) wp W wp.heap.size a c (w3.heap.size + 1) w3.heap.size P Q whF true g g lv (.slice ma s.m mc) s s) (hv : W.ownsRow wr.heap.size 69 7 (.slice va s.m vc) s.m (flat F (List.range s.m))) => same_own (w := W) hv (by have := HDu.ar.log; rw [hF] at this; exact this) (by omega))
            have IM := Lib.hid (fun W (HDu : Duo (KeepX w g10 g11) wp W wp.heap.size a c (w3.heap.size + 1) w3.heap.size P Q whF true g g lv (.slice ma s.m mc) s s) => image_at a c s.cs true lv s.m s.f W HDu.at' (by omega) (by omega))
            have WO := Lib.hid (fun W vi (HDu : Duo (KeepX w g10 g11) wp W wp.heap.size a c (w3.heap.size + 1) w3.heap.size P Q whF true g g lv (.slice ma s.m mc) s s) (hv : Lst .u64 W vi s.cs) => words_any vi _ s.cs W hv (HDu.ar.lst (by omega) (by omega)))
            have KC := Lib.hid (fun W (HDu : Duo (KeepX w g10 g11) wp W wp.heap.size a c (w3.heap.size + 1) w3.heap.size P Q whF true g g lv (.slice ma s.m mc) s s) => (HDu.ar.own.val 0 rfl : W.cell? ⟨w3.heap.size + 1, 0, none⟩ = some (.slice (some ⟨w3.heap.size, 0, none⟩) s.cs.length s.cs.length)))
            have hD6d := hD6.quiet (w' := w6.drew) ⟨1, rfl⟩
            have hownd : w6.drew.ownsRow wr.heap.size 69 7 (.slice va s.m vc) s.m (flat F (List.range s.m)) := (show Quiet w6 w6.drew from ⟨1, rfl⟩).ownsRow hown
            have FIN := Lib.hid (fun W (HDu : Duo (KeepX w g10 g11) wp W wp.heap.size a c (w3.heap.size + 1) w3.heap.size P Q whF true g g lv (.slice ma s.m mc) s s) => HDu.low HB.out)
            clear hD LG hb6 hF hNum n4
            go_upto_region 28 with fail
            go_region_held3 (fun W => W.cell? ⟨w3.heap.size + 1, 0, none⟩ = some (.slice (some ⟨w3.heap.size, 0, none⟩) s.cs.length s.cs.length))
              (first | with_reducible assumption | with_reducible exact KC.out _ hD6 | with_reducible exact KC.out _ hD6d | with_reducible exact KC.out _ hD7 | with_reducible exact KC.out _ hD8 | with_reducible exact KC.out _ hD9)
              (first | (go_at_call 12; (with_reducible refine (SL.out _ (by assumption) (by assumption)).mono ?_); rintro e w7 ⟨rfl, hq7⟩; have hD7 := Duo.quiet (by first | exact hD6 | exact hD6d) hq7) | (go_at_call 14; (with_reducible refine (IM.out _ hD7).mono ?_); rintro e w8 ⟨vi, rfl, hvi, hb8⟩; have hD8 := hD7.grew hb8) | (go_at_call 13; have hl9 := lst_of_own hvi; (with_reducible refine (WO.out _ vi hD8 hl9).mono ?_); rintro e w9 ⟨rfl, hq9⟩; have hD9 := hD8.quiet hq9))
            all_goals
              go_wp2
              go_ret
              exact ⟨by simp, FIN.out _ hD9⟩
          | false =>
            have LG := Lib.hid (logged_gen wp.heap.size a c s.cs false lv 0 s.m s.f F wr hD.at' (by rw [hD.nil rfl]; exact World.ownsRow_nil _ _ _ _) (by omega))
            go_wp2_with fail
            refine LG.out.mono ?_
            rintro e w6 ⟨v, rfl, hown, hb6⟩
            have hD6 := hD.grew hb6
            obtain ⟨va, vc, rfl⟩ := row_form hown
            obtain ⟨ma, mc, rfl⟩ := row_form hD6.ar.log
            have k0 := hD6.ar.own.val 0 rfl
            have k1 := hD6.ar.own.val 1 rfl
            have SL := Lib.hid (fun W (HDu : Duo (KeepX w g10 g11) wp W wp.heap.size a c (w3.heap.size + 1) w3.heap.size P Q whF false g g lv (.slice ma s.m mc) s s) (hv : W.ownsRow wr.heap.size 69 7 (.slice va 0 vc) 0 (flat F (List.range 0))) => same_own (w := W) hv (World.ownsRow_nil _ 0 _ _) (by omega))
            have IM := Lib.hid (fun W (HDu : Duo (KeepX w g10 g11) wp W wp.heap.size a c (w3.heap.size + 1) w3.heap.size P Q whF false g g lv (.slice ma s.m mc) s s) => image_at a c s.cs false lv s.m s.f W HDu.at' (by omega) (by omega))
            have WO := Lib.hid (fun W vi (HDu : Duo (KeepX w g10 g11) wp W wp.heap.size a c (w3.heap.size + 1) w3.heap.size P Q whF false g g lv (.slice ma s.m mc) s s) (hv : Lst .u64 W vi s.cs) => words_any vi _ s.cs W hv (HDu.ar.lst (by omega) (by omega)))
            have KC := Lib.hid (fun W (HDu : Duo (KeepX w g10 g11) wp W wp.heap.size a c (w3.heap.size + 1) w3.heap.size P Q whF false g g lv (.slice ma s.m mc) s s) => (HDu.ar.own.val 0 rfl : W.cell? ⟨w3.heap.size + 1, 0, none⟩ = some (.slice (some ⟨w3.heap.size, 0, none⟩) s.cs.length s.cs.length)))
            have hD6d := hD6.quiet (w' := w6.drew) ⟨1, rfl⟩
            have hownd : w6.drew.ownsRow wr.heap.size 69 7 (.slice va 0 vc) 0 (flat F (List.range 0)) := (show Quiet w6 w6.drew from ⟨1, rfl⟩).ownsRow hown
            have FIN := Lib.hid (fun W (HDu : Duo (KeepX w g10 g11) wp W wp.heap.size a c (w3.heap.size + 1) w3.heap.size P Q whF false g g lv (.slice ma s.m mc) s s) => HDu.low HB.out)
            clear hD LG hb6 hF hNum n4
            go_upto_region 28 with fail
            go_region_held3 (fun W => W.cell? ⟨w3.heap.size + 1, 0, none⟩ = some (.slice (some ⟨w3.heap.size, 0, none⟩) s.cs.length s.cs.length))
              (first | with_reducible assumption | with_reducible exact KC.out _ hD6 | with_reducible exact KC.out _ hD6d | with_reducible exact KC.out _ hD7 | with_reducible exact KC.out _ hD8 | with_reducible exact KC.out _ hD9)
              (first | (go_at_call 12; (with_reducible refine (SL.out _ (by assumption) (by assumption)).mono ?_); rintro e w7 ⟨rfl, hq7⟩; have hD7 := Duo.quiet (by first | exact hD6 | exact hD6d) hq7) | (go_at_call 14; (with_reducible refine (IM.out _ hD7).mono ?_); rintro e w8 ⟨vi, rfl, hvi, hb8⟩; have hD8 := hD7.grew hb8) | (go_at_call 13; have hl9 := lst_of_own hvi; (with_reducible refine (WO.out _ vi hD8 hl9).mono ?_); rintro e w9 ⟨rfl, hq9⟩; have hD9 := hD8.quiet hq9))
            all_goals
              go_wp2
              go_ret
              exact ⟨by simp, FIN.out _ hD9⟩
end Go.Proofs.Ytedccpconldkoaa
