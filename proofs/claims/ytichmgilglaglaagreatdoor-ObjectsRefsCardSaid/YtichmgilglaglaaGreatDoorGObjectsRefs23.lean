/- The law's own example, its walk. Condition: sizes' table lies as the start lays it. -/
import Derived.Deep.CutBlock
import Derived.Deep.DeepCutAuto
import Derived.Test.YtichmgilglaglaaGreatDoorGObjectsRefs22
namespace Go.Proofs.YtichmgilglaglaaGreatDoor
open Go.RowKit
set_option linter.unusedVariables false
/-- the plan's box, what is no longer written -/
structure BoS (w : World) (W : World) : Prop where
  pl : Blk W w.heap.size #[.int .i64 1, .int .i64 1, .int .i64 1] 23
  bel : Below w.heap.size w W
theorem BoS.grew {w W W' : World} (h : BoS w W) (hb : Below W.heap.size W W') : BoS w W' := ⟨h.pl.grew hb, h.bel.trans (hb.mono h.bel.size)⟩
theorem BoS.touch {R : Nat → Prop} {w W W' : World} (h : BoS w W) (hT : Touch R W W') (hR : ∀ b, R b → w.heap.size < b) : BoS w W' :=
  ⟨h.pl.touch hT (fun e => Nat.lt_irrefl _ (hR _ e)), h.bel.trans (hT.below h.bel.size (fun b hb => Nat.le_of_lt (hR b hb)))⟩
theorem BoS.three {w W : World} (h : BoS w W) : W.cell? ⟨w.heap.size, 0, none⟩ = some (.int .i64 1) ∧ W.cell? ⟨w.heap.size, 1, none⟩ = some (.int .i64 1) ∧ W.cell? ⟨w.heap.size, 2, none⟩ = some (.int .i64 1) := h.pl.three.1
theorem nil_classes (w : World) (B : Nat) : RdRow 2 (ElC B) B w (.slice none 0 0) [] := ⟨none, 0, rfl, by simp, fun i hi => absurd hi (by simp)⟩
theorem encE_U : U64 (encE 1 0 1 0 0) := ⟨by decide, by decide⟩
theorem b_rd (X : World) : RdRow 2 ElW (X.alloc (.cells #[.int .i64 22, .int .u64 (encE 1 0 1 0 0), .int .i64 23, .int .u64 4] 107)).heap.size (X.alloc (.cells #[.int .i64 22, .int .u64 (encE 1 0 1 0 0), .int .i64 23, .int .u64 4] 107)) (.slice (some ⟨X.heap.size, 0, none⟩) 2 2) bW := by
  have k1 := Blk.new X #[.int .i64 22, .int .u64 (encE 1 0 1 0 0), .int .i64 23, .int .u64 4] 107
  refine ⟨some ⟨X.heap.size, 0, none⟩, 2, rfl, by unfold maxLen; simp [bW], fun i hi => ⟨X.heap.size, 0, rfl, by simp, ?_⟩⟩
  match i, hi with
  | 0, _ => exact ⟨k1.val 0 rfl, k1.val 1 rfl, encE_U⟩
  | 1, _ => exact ⟨k1.val 2 rfl, k1.val 3 rfl, (show U64 (4 : Int) from ⟨by decide, by decide⟩)⟩
  | i + 2, h => exact absurd h (by simp [bW])
theorem Ary.addsO {w w' : World} {B a c : Nat} {cs : List Int} {n : Nat} {K L : List Nat} (h : Ary w B a c cs n K) (hb : Below w.heap.size w w') (hL : ∀ m ∈ L, w.heap.size ≤ m ∧ m < w'.heap.size) : Ary w' B a c cs n (L ++ K) := by
  obtain ⟨xs, ⟨lv, hL', hg⟩, h1, h2, h3, h4, h5, h6⟩ := h
  have la := hL'.at'.own.lt
  have lc := hL'.at'.row.lt
  have lg := fun g hg => (hL'.own.lt g hg).2
  refine ⟨xs, ⟨lv, hL'.grew hb, fun g e r => ?_⟩, fun r => ?_, fun r => ?_, fun b r => ?_, h4, h5, Nat.le_trans h6 hb.size⟩
  · rcases List.mem_append.1 r with r | r
    · have := hL g r; have := lg g e; omega
    · exact hg g e r
  · rcases List.mem_append.1 r with r | r
    · have := hL a r; omega
    · exact h1 r
  · rcases List.mem_append.1 r with r | r
    · have := hL c r; omega
    · exact h2 r
  · rcases List.mem_append.1 r with r | r
    · exact (hL b r).2
    · exact Nat.lt_of_lt_of_le (h3 b r) hb.size
/-- all blocks that came between two worlds -/
def between (m n : Nat) : List Nat := (List.range n).filter fun b => decide (m ≤ b)
theorem mem_between {m n b : Nat} : b ∈ between m n ↔ m ≤ b ∧ b < n := by unfold between; simp; omega
set_option maxRecDepth 100000 in
set_option maxHeartbeats 8000000 in
theorem built_any (w : World) (hW : Wid w) :
    Calls Tryz.prog 9 #[] w fun e w' => e = .returned (.bool true) ∧ Below w.heap.size w w' := by
  have WI := Lib.hid (fun W (hb : Below w.heap.size w W) => hW.below hb hW.lt)
  have EN := Lib.hid (fun W => reenc_yes 1 0 1 0 0 W b_ent)
  have DR := Lib.hid (fun W => draw_yes 1 1 1 W b_right)
  unfold mapV at DR
  rw [b_base, b_tab] at DR
  have LY := Lib.hid (fun W v (hl : RdRow 2 ElW W.heap.size W v bW) => olay_yes 1 1 1 v bW W b_right hl)
  unfold OLay at LY
  rw [bN, bW300, show layL 128 bW = bC0 from rfl] at LY
  have NB := Lib.hid (fun W => newbuild_yes 1 1 1 0 2 1 66 W b_head b_allow)
  unfold NbPost at NB
  have PE := Lib.hid (fun W => mpage_any 1 1 1 64 22 128 0 W)
  have PA := Lib.hid (fun W => malloc_any 1 1 1 64 22 128 0 W)
  rw [show wrap64 (22 + 0) = 22 by kernel_rfl] at PE
  rw [show wrap64 (wrap64 (22 + 1) + 0) = 23 by kernel_rfl] at PA
  have hS : BoS w (w.alloc (.cells #[.int .i64 1, .int .i64 1, .int .i64 1] 23)) := ⟨Blk.new _ _ _, (Below.refl _ _).alloc (Nat.le_refl _) _⟩
  clear hW
  go_enter Tryz.func9, Tryz.ntmps9
  go_wp2_with fail
  generalize hw0 : w.alloc (.cells #[.int .i64 1, .int .i64 1, .int .i64 1] 23) = w0 at *
  clear hw0
  refine (EN.out _).mono ?_; rintro e w1 ⟨rfl, hb1⟩
  have hS1 := hS.grew hb1
  obtain ⟨g0, g1, g2⟩ := hS1.three
  clear hS hb1 EN
  go_wp2_with fail
  refine (DR.out _).mono ?_; rintro e w2 ⟨rfl, hb2⟩
  have hS2 := hS1.grew hb2
  clear hS1 hb2 DR g0 g1 g2
  go_upto_region 4 with fail
  have hM := sixNew w2 1 1 1 64 22 128 36
  have hS3 := hS2.grew ((Below.refl _ _).alloc (Nat.le_refl _) (.cells #[.int .i64 1, .int .i64 1, .int .i64 1, .int .i64 64, .int .i64 22, .int .i64 128] 36))
  clear hS2
  generalize hw3 : w2.alloc (.cells #[.int .i64 1, .int .i64 1, .int .i64 1, .int .i64 64, .int .i64 22, .int .i64 128] 36) = w3 at *
  clear hw3
  generalize w2.heap.size = bm at *
  have SQ := Lib.hid (fun W (hb : Below w3.heap.size w3 W) => show (W.cell? ⟨w.heap.size, 0, none⟩ = some (.int .i64 1) ∧ W.cell? ⟨w.heap.size, 1, none⟩ = some (.int .i64 1) ∧ W.cell? ⟨w.heap.size, 2, none⟩ = some (.int .i64 1)) ∧ (W.cell? ⟨bm, 0, none⟩ = some (.int .i64 1) ∧ W.cell? ⟨bm, 1, none⟩ = some (.int .i64 1) ∧ W.cell? ⟨bm, 2, none⟩ = some (.int .i64 1) ∧ W.cell? ⟨bm, 3, none⟩ = some (.int .i64 64) ∧ W.cell? ⟨bm, 4, none⟩ = some (.int .i64 22) ∧ W.cell? ⟨bm, 5, none⟩ = some (.int .i64 128)) from
    ⟨(hS3.grew hb).three, (hM.grew hb).six.1⟩)
  have B3 : Below w3.heap.size w3 w3.drew := Quiet.below ⟨1, rfl⟩
  have KB := Lib.hid (fun (A C : World) (hb : Below A.heap.size A C) (h : Below w3.heap.size w3 A) => h.trans (hb.mono h.size))
  have KC := Lib.hid (fun (A C : World) (hb : Below A.heap.size A C) (h : Below w3.heap.size w3 A) => h.size)
  have hlt0 : w.heap.size < w3.heap.size := hS3.pl.lt
  have KA := Lib.hid (fun (A : World) (o : Obj) (h : Below w3.heap.size w3 A) => h.alloc h.size o)
  go_region_held3 (fun W => ((W.cell? ⟨w.heap.size, 0, none⟩ = some (.int .i64 1) ∧ W.cell? ⟨w.heap.size, 1, none⟩ = some (.int .i64 1) ∧ W.cell? ⟨w.heap.size, 2, none⟩ = some (.int .i64 1)) ∧ (W.cell? ⟨bm, 0, none⟩ = some (.int .i64 1) ∧ W.cell? ⟨bm, 1, none⟩ = some (.int .i64 1) ∧ W.cell? ⟨bm, 2, none⟩ = some (.int .i64 1) ∧ W.cell? ⟨bm, 3, none⟩ = some (.int .i64 64) ∧ W.cell? ⟨bm, 4, none⟩ = some (.int .i64 22) ∧ W.cell? ⟨bm, 5, none⟩ = some (.int .i64 128))) ∧ Below w3.heap.size w3 W)
    (first | (with_reducible exact ⟨SQ.out _ B3, B3⟩) | (with_reducible exact ⟨SQ.out _ hg7, hg7⟩) | (have hg := KB.out _ _ (by assumption) (And.right (by assumption)); exact ⟨SQ.out _ hg, hg⟩) | (exact ⟨SQ.out _ (KA.out _ _ (And.right (by assumption))), KA.out _ _ (And.right (by assumption))⟩))
    (first
      | (go_at_call 48; refine (PE.out _).mono ?_; rintro e w4 ⟨rfl, hb4⟩)
      | (go_at_call 49; refine (PA.out _).mono ?_; rintro e w5 ⟨rfl, hb5⟩)
      | (go_at_call 8; refine (LY.out _ _ (b_rd _)).mono ?_; rintro e w7 ⟨a, c, d, rfl, hL, hd⟩; have hg7 := KB.out _ _ hL.bel (And.right (by assumption)); have hg6 := KC.out _ _ hL.bel (And.right (by assumption))))
  have hS7 := hS3.grew hg7
  have hA7 := hL.ary
  clear hL SQ KB KA KC hM hS3 hg7 B3 PE PA LY
  generalize Array.size (World.heap (World.alloc _ _)) = B0 at *
  have hB0 : w.heap.size < B0 := by omega
  clear hg6 hlt0 hd
  go_wp2_with fail
  refine (port_yes a 0 _ (by decide) (by decide)).mono ?_; rintro e w8 ⟨p, rfl, hP8, hp, hb8⟩
  have hA8 := hA7.addsO (L := [p]) hb8 (by simp; exact ⟨hp, hP8.lt⟩)
  have hS8 := hS7.grew hb8
  have hp0 : B0 ≤ p := Nat.le_trans hA7.bw hp
  clear hA7 hS7 hb8 hp
  obtain ⟨g0, g1, g2⟩ := hS8.three
  go_wp2_with fail
  refine (oplan_any 1 1 1 _).mono ?_; rintro e w9 ⟨rfl, hb9⟩
  have hA9 := hA8.grew hb9
  have hP9 := Blk.grew hP8 hb9
  have hS9 := hS8.grew hb9
  clear hA8 hP8 hS8 hb9 g0 g1 g2
  go_wp2_with fail
  refine (NB.out _).mono ?_; rintro e w10 ⟨m, rfl, hM10, hm, hb10⟩
  have hpl : p < w9.heap.size := Blk.lt hP9
  have hA10 := hA9.addsO (L := [m]) hb10 (by simp; exact ⟨hm, Blk.lt hM10⟩)
  have hP10 := Blk.grew hP9 hb10
  have hS10 := hS9.grew hb10
  have hB9 := hA9.bw
  have hm0 : B0 ≤ m := Nat.le_trans hB9 hm
  have hmp : m ≠ p := by omega
  clear hA9 hP9 hS9 hb10 NB
  go_wp2_with fail
  refine (new_any w10 w10.heap.size _ [] (nil_classes _ _) (Nat.le_refl _)).mono ?_
  rintro e w11 ⟨hb11, hcase⟩
  rcases hcase with ⟨hne, _⟩ | ⟨_, tb, tv, tm, L, rfl, hT11, hL11⟩
  · exact absurd (by kernel_rfl) hne
  have hA11 := hA10.addsO (L := between w10.heap.size w11.heap.size) hb11 (fun b hb => mem_between.1 hb)
  have hP11 := Blk.grew hP10 hb11
  have hM11 := Blk.grew hM10 hb11
  have hS11 := hS10.grew hb11
  have hml : m < w10.heap.size := Blk.lt hM10
  have hlo : w10.heap.size ≤ w11.heap.size := hb11.size
  clear hA10 hP10 hM10 hS10 hb11
  obtain ⟨xs0, hX11⟩ := hA11
  have hU0 : BuS w11 B0 a c p m 66 (encH 0 2 1) (1 + 1) bC0 xs0 0 (between w10.heap.size w11.heap.size ++ ([m] ++ ([p] ++ [d]))) 0 false w11 := ⟨hM11, hX11, hP11, Touch.refl _ _⟩
  clear hX11 hM11 hP11
  have HT := Lib.hid hT11
  have HS := Lib.hid hS11
  have HL := Lib.hid hL11
  clear hT11 hS11 hL11
  have hmK : m ∈ between w10.heap.size w11.heap.size ++ ([m] ++ ([p] ++ [d])) := by simp
  have hpK : p ∈ between w10.heap.size w11.heap.size ++ ([m] ++ ([p] ++ [d])) := by simp
  have HK := Lib.hid (show ∀ b, w10.heap.size ≤ b → b < w11.heap.size → b ∈ between w10.heap.size w11.heap.size ++ ([m] ++ ([p] ++ [d])) from fun b h1 h2 => List.mem_append_left _ (mem_between.2 ⟨h1, h2⟩))
  generalize between w10.heap.size w11.heap.size ++ ([m] ++ ([p] ++ [d])) = K at *
  have G := Lib.hid (fun W left cs xs n o (h : BuS w11 B0 a c p m 66 (encH 0 2 1) left cs xs n K 0 o W) => h.grant hmp hpK)
  have lb0 : bC0.length = 128 := by kernel_rfl
  have lb1 : bC1.length = 128 := by kernel_rfl
  have S1 := Lib.hid (fun W xs (h : BuS w11 B0 a c p m 66 (encH 0 2 1) (1 + 1) bC0 xs 0 K 0 true W) => (bstep_more 1 h (by decide) (by decide) (by decide) hmp hmK hpK (by decide) (by rw [lb0]; decide)).mono (R' := fun e w' => e = .returned (.bool false) ∧ ∃ xs, BuS w11 B0 a c p m 66 (encH 0 2 1) 1 bC1 xs 1 K 0 false w') fun _ _ ⟨he, h⟩ => ⟨he, _, h⟩)
  have S2 := Lib.hid (fun W xs (h : BuS w11 B0 a c p m 66 (encH 0 2 1) 1 bC1 xs 1 K 0 true W) => (bstep_last h hmp hmK hpK (by decide) (by rw [lb1]; decide)).mono (R' := fun e w' => e = .returned (.bool true) ∧ ∃ xs, BuS w11 B0 a c p m 66 (encH 0 2 1) 0 bC2 xs 2 K 0 false w') fun _ _ ⟨he, h⟩ => ⟨he, _, h⟩)
  have LK := Lib.hid (fun W (hA : Ary W B0 a c bC2 2 K) (hW : Wid W) (hT : TabS W w10.heap.size tb tv tm L) => look_yes (P := 1) (T := 1) (R := 1) 66 hA hW hT (by rw [bN]; exact b_len) b_U b_hold b_hdE (by rw [HL.out, b_hdC, b_hdK, b_hdN]; exact b_fit) (by rw [b_hdC, b_hdK, b_hdN]; exact b_fits) 1 b_hdN (by decide) (by rw [b_len]; decide))
  rw [b_hdC, b_hdK, b_lk] at LK
  unfold LkPost at LK
  clear lb0 lb1 HL
  have hlt1 : p < w10.heap.size := by omega
  generalize encH 0 2 1 = H at *
  replace hB0 := Lib.hid hB0
  replace hmp := Lib.hid hmp
  go_wp2_with fail
  go_loopw [15] (fun i wr => ∃ k : Int, (k = 0 ∧ (∃ xs, BuS w11 B0 a c p m 66 H (1 + 1) bC0 xs 0 K 0 false wr) ∨ k = 1 ∧ (∃ xs, BuS w11 B0 a c p m 66 H 1 bC1 xs 1 K 0 false wr) ∨ k = 2 ∧ (∃ xs, BuS w11 B0 a c p m 66 H 0 bC2 xs 2 K 0 false wr)) ∧ i = .int .i64 k) (fun i _ => (2 - intOf i).toNat)
  case atStart => exact ⟨0, .inl ⟨rfl, _, hU0⟩, rfl⟩
  case round =>
    clear hU0
    obtain ⟨k, (⟨rfl, xs, hU⟩ | ⟨rfl, xs, hU⟩ | ⟨rfl, xs, hU⟩), rfl⟩ := hrel
    · go_wp2_with fail
      refine (G.out _ _ _ _ _ _ hU).mono ?_; rintro e wa ⟨⟨u1, rfl⟩, h2⟩
      go_wp2_with fail
      refine (S1.out _ _ h2).mono ?_; rintro e wb ⟨rfl, h3⟩
      go_wp2
      go_roundw
      case rel => exact ⟨1, .inr (.inl ⟨rfl, h3⟩), by go_num⟩
      case measure => simp [intOf]
    · go_wp2_with fail
      refine (G.out _ _ _ _ _ _ hU).mono ?_; rintro e wa ⟨⟨u1, rfl⟩, h2⟩
      go_wp2_with fail
      refine (S2.out _ _ h2).mono ?_; rintro e wb ⟨rfl, h3⟩
      go_wp2
      go_roundw
      case rel => exact ⟨2, .inr (.inr ⟨rfl, h3⟩), by go_num⟩
      case measure => simp [intOf]
    · have hT := HT.out.touch hU.touch (fun g h1 h2 h3 => by
        rcases h3 with rfl | rfl | ⟨_, h3⟩
        · omega
        · omega
        · exact h3 (HK.out g h1 h2))
      have hS := HS.out.touch hU.touch (fun b hb => by
        have := hB0.out
        rcases hb with rfl | rfl | ⟨hb, _⟩ <;> omega)
      have hA : Ary wr B0 a c bC2 2 K := ⟨_, hU.arx⟩
      have hM := hU.mach
      clear hU G S1 S2 HT HS
      obtain ⟨g0, g1, g2⟩ := hS.three
      go_wp2_with fail
      refine (oplan_any 1 1 1 _).mono ?_; rintro e wx ⟨rfl, hbx⟩
      have hTx := hT.grew hbx
      have hSx := hS.grew hbx
      have hAx := hA.grew hbx
      have hMx := Blk.grew hM hbx
      clear hT hS hA hM hbx g0 g1 g2
      go_wp2_with fail
      refine (LK.out _ hAx (WI.out _ hSx.bel) hTx).mono ?_
      rintro e wy ⟨u, rfl, hou, hby⟩
      have hSy := hSx.grew hby
      have hMy := Blk.grew hMx hby
      clear hTx hSx hAx hMx hby LK
      obtain ⟨g', cap, cur, rfl, hcell⟩ : ∃ g cap, ∃ cur : Unit, u = .slice (some ⟨g, 0, none⟩) 1 cap ∧ wy.cell? ⟨g, 0, none⟩ = some (.int .i64 0) := by
        rcases hou.2 with ⟨h1, h2⟩ | ⟨g, cap, cur, h1, _⟩
        · exact absurd h2 (by simp)
        · refine ⟨g, cap, (), h1, ?_⟩
          subst h1
          have := hou.cellAt 0 (by simp)
          exact this
      have hZ := Blk.new wy #[.int .i64 66, .int .i64 0, .int .i64 2, .slice (some ⟨g', 0, none⟩) 1 cap] 80
      have hbz : Below wy.heap.size wy (wy.alloc (.cells #[.int .i64 66, .int .i64 0, .int .i64 2, .slice (some ⟨g', 0, none⟩) 1 cap] 80)) := (Below.refl _ _).alloc (Nat.le_refl _) _
      have hSz := hSy.grew hbz
      have hMz := Blk.grew hMy hbz
      have z0 := hZ.val 0 rfl
      have z2 := hZ.val 2 rfl
      have z3 := hZ.val 3 rfl
      have zc := (hbz.cell (p := ⟨g', 0, none⟩) (World.block_lt_of_cell? wy _ hcell)).trans hcell
      clear hou hSy hMy hbz hcell hZ
      go_wp2_with fail
      refine (bover_any hMz).mono ?_; rintro e wf ⟨rfl, hqf⟩
      have y0 := (hqf.cell _).trans z0
      have y2 := (hqf.cell _).trans z2
      have y3 := (hqf.cell _).trans z3
      have yc := (hqf.cell _).trans zc
      have hBf := hSz.bel.trans hqf.below
      clear hSz hMz hqf z0 z2 z3 zc
      go_wp2
      go_ret
      exact ⟨rfl, hBf⟩
end Go.Proofs.YtichmgilglaglaaGreatDoor
