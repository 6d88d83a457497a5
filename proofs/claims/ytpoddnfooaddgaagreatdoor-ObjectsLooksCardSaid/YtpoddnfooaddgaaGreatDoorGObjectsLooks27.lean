/- Texts of this seat, one behind the other: each says at its head what it holds. No condition of its own. -/
import Derived.Deep.CutBlock
import Derived.Deep.DeepCutAuto
import Derived.Test.YtpoddnfooaddgaaGreatDoorGObjectsLooks18
import Derived.Test.YtpoddnfooaddgaaGreatDoorGObjectsLooks22
import Derived.Test.YtpoddnfooaddgaaGreatDoorGObjectsLooks26
/- The law's own example, its walk. Condition: sizes' table lies as the start lays it. -/
namespace Go.Proofs.YtpoddnfooaddgaaGreatDoor
open Go.RowKit
set_option linter.unusedVariables false
/-- the plan's box, what is no longer written -/
structure BoS (w : World) (W : World) : Prop where
  pl : Blk W w.heap.size #[.int .i64 1, .int .i64 1, .int .i64 1] 23
  bel : Below w.heap.size w W
theorem BoS.grew {w W W' : World} (h : BoS w W) (hb : Below W.heap.size W W') : BoS w W' := ⟨h.pl.grew hb, h.bel.trans (hb.mono h.bel.size)⟩
theorem BoS.touch {R : Nat → Prop} {w W W' : World} (h : BoS w W) (hT : Touch R W W') (hR : ∀ b, R b → w.heap.size < b) : BoS w W' :=
  ⟨h.pl.touch hT (fun e => Nat.lt_irrefl _ (hR _ e)), h.bel.trans (hT.below h.bel.size (fun b hb => Nat.le_of_lt (hR b hb)))⟩
theorem BoS.three {w W : World} (h : BoS w W) : W.cell? ⟨w.heap.size, 0, none⟩ = some (.int .i64 1) ∧ W.cell? ⟨w.heap.size, 1, none⟩ = some (.int .i64 1) ∧ W.cell? ⟨w.heap.size, 2, none⟩ = some (.int .i64 1) := h.pl.three.1
theorem nil_classes (w : World) (B : Nat) : RdRow 2 (ElC B) B w (.slice none 0 0) [] := ⟨none, 0, rfl, by simp, fun i hi => absurd hi (by simp)⟩
theorem encE_U : U64 (encE 1 0 1 0 0) := ⟨by decide, by decide⟩
theorem b_rd (X : World) : RdRow 2 ElW (X.alloc (.cells #[.int .i64 22, .int .u64 (encE 1 0 1 0 0), .int .i64 23, .int .u64 4] 100)).heap.size (X.alloc (.cells #[.int .i64 22, .int .u64 (encE 1 0 1 0 0), .int .i64 23, .int .u64 4] 100)) (.slice (some ⟨X.heap.size, 0, none⟩) 2 2) bW := by
  have k1 := Blk.new X #[.int .i64 22, .int .u64 (encE 1 0 1 0 0), .int .i64 23, .int .u64 4] 100
  refine ⟨some ⟨X.heap.size, 0, none⟩, 2, rfl, by unfold maxLen; simp [bW], fun i hi => ⟨X.heap.size, 0, rfl, by simp, ?_⟩⟩
  match i, hi with
  | 0, _ => exact ⟨k1.val 0 rfl, k1.val 1 rfl, encE_U⟩
  | 1, _ => exact ⟨k1.val 2 rfl, k1.val 3 rfl, (show U64 (4 : Int) from ⟨by decide, by decide⟩)⟩
  | i + 2, h => exact absurd h (by simp [bW])
theorem Ary.addsO {w w' : World} {B a c : Nat} {cs : List Int} {n : Nat} {K L : List Nat} (h : Ary w B a c cs n K) (hb : Below w.heap.size w w') (hL : ∀ m ∈ L, w.heap.size ≤ m ∧ m < w'.heap.size) : Ary w' B a c cs n (L ++ K) := by
  obtain ⟨xs, ⟨lv, hL', hg⟩, h1, h2, h3, h4, h5, h6⟩ := h
  have la := hL'.at'.own.lt
  have lc := hL'.at'.row.lt
  have lg := fun g hg => (hL'.own.lt g hg).2
  refine ⟨xs, ⟨lv, hL'.grew hb, fun g e r => ?_⟩, fun r => ?_, fun r => ?_, fun b r => ?_, h4, h5, Nat.le_trans h6 hb.size⟩
  · rcases List.mem_append.1 r with r | r
    · have := hL g r; have := lg g e; omega
    · exact hg g e r
  · rcases List.mem_append.1 r with r | r
    · have := hL a r; omega
    · exact h1 r
  · rcases List.mem_append.1 r with r | r
    · have := hL c r; omega
    · exact h2 r
  · rcases List.mem_append.1 r with r | r
    · exact (hL b r).2
    · exact Nat.lt_of_lt_of_le (h3 b r) hb.size
/-- all blocks that came between two worlds -/
def between (m n : Nat) : List Nat := (List.range n).filter fun b => decide (m ≤ b)
theorem mem_between {m n b : Nat} : b ∈ between m n ↔ m ≤ b ∧ b < n := by unfold between; simp; omega
set_option maxRecDepth 100000 in
set_option maxHeartbeats 8000000 in
theorem built_any (w : World) (hW : Wid w) :
    Calls Tryz.prog 8 #[] w fun e w' => e = .returned (.bool true) ∧ Below w.heap.size w w' := by
  have WI := Lib.hid (fun W (hb : Below w.heap.size w W) => hW.below hb hW.lt)
  have EN := Lib.hid (fun W => reenc_yes 1 0 1 0 0 W b_ent)
  have DR := Lib.hid (fun W => draw_yes 1 1 1 W b_right)
  unfold mapV at DR
  rw [b_base, b_tab] at DR
  have LY := Lib.hid (fun W v (hl : RdRow 2 ElW W.heap.size W v bW) => olay_yes 1 1 1 v bW W b_right hl)
  unfold OLay at LY
  rw [bN, bW300, show layL 128 bW = bC0 from rfl] at LY
  have NB := Lib.hid (fun W => newbuild_yes 1 1 1 0 2 1 66 W b_head b_allow)
  unfold NbPost at NB
  have PE := Lib.hid (fun W => mpage_any 1 1 1 64 22 128 0 W)
  have PA := Lib.hid (fun W => malloc_any 1 1 1 64 22 128 0 W)
  rw [show wrap64 (22 + 0) = 22 by kernel_rfl] at PE
  rw [show wrap64 (wrap64 (22 + 1) + 0) = 23 by kernel_rfl] at PA
  have hS : BoS w (w.alloc (.cells #[.int .i64 1, .int .i64 1, .int .i64 1] 23)) := ⟨Blk.new _ _ _, (Below.refl _ _).alloc (Nat.le_refl _) _⟩
  clear hW
  go_enter Tryz.func8, Tryz.ntmps8
  go_wp2_with fail
  generalize hw0 : w.alloc (.cells #[.int .i64 1, .int .i64 1, .int .i64 1] 23) = w0 at *
  clear hw0
  refine (EN.out _).mono ?_; rintro e w1 ⟨rfl, hb1⟩
  have hS1 := hS.grew hb1
  obtain ⟨g0, g1, g2⟩ := hS1.three
  clear hS hb1 EN
  go_wp2_with fail
  refine (DR.out _).mono ?_; rintro e w2 ⟨rfl, hb2⟩
  have hS2 := hS1.grew hb2
  clear hS1 hb2 DR g0 g1 g2
  go_upto_region 4 with fail
  have hM := sixNew w2 1 1 1 64 22 128 36
  have hS3 := hS2.grew ((Below.refl _ _).alloc (Nat.le_refl _) (.cells #[.int .i64 1, .int .i64 1, .int .i64 1, .int .i64 64, .int .i64 22, .int .i64 128] 36))
  clear hS2
  generalize hw3 : w2.alloc (.cells #[.int .i64 1, .int .i64 1, .int .i64 1, .int .i64 64, .int .i64 22, .int .i64 128] 36) = w3 at *
  clear hw3
  generalize w2.heap.size = bm at *
  have SQ := Lib.hid (fun W (hb : Below w3.heap.size w3 W) => show (W.cell? ⟨w.heap.size, 0, none⟩ = some (.int .i64 1) ∧ W.cell? ⟨w.heap.size, 1, none⟩ = some (.int .i64 1) ∧ W.cell? ⟨w.heap.size, 2, none⟩ = some (.int .i64 1)) ∧ (W.cell? ⟨bm, 0, none⟩ = some (.int .i64 1) ∧ W.cell? ⟨bm, 1, none⟩ = some (.int .i64 1) ∧ W.cell? ⟨bm, 2, none⟩ = some (.int .i64 1) ∧ W.cell? ⟨bm, 3, none⟩ = some (.int .i64 64) ∧ W.cell? ⟨bm, 4, none⟩ = some (.int .i64 22) ∧ W.cell? ⟨bm, 5, none⟩ = some (.int .i64 128)) from
    ⟨(hS3.grew hb).three, (hM.grew hb).six.1⟩)
  have B3 : Below w3.heap.size w3 w3.drew := Quiet.below ⟨1, rfl⟩
  have KB := Lib.hid (fun (A C : World) (hb : Below A.heap.size A C) (h : Below w3.heap.size w3 A) => h.trans (hb.mono h.size))
  have KC := Lib.hid (fun (A C : World) (hb : Below A.heap.size A C) (h : Below w3.heap.size w3 A) => h.size)
  have hlt0 : w.heap.size < w3.heap.size := hS3.pl.lt
  have KA := Lib.hid (fun (A : World) (o : Obj) (h : Below w3.heap.size w3 A) => h.alloc h.size o)
  go_region_held3 (fun W => ((W.cell? ⟨w.heap.size, 0, none⟩ = some (.int .i64 1) ∧ W.cell? ⟨w.heap.size, 1, none⟩ = some (.int .i64 1) ∧ W.cell? ⟨w.heap.size, 2, none⟩ = some (.int .i64 1)) ∧ (W.cell? ⟨bm, 0, none⟩ = some (.int .i64 1) ∧ W.cell? ⟨bm, 1, none⟩ = some (.int .i64 1) ∧ W.cell? ⟨bm, 2, none⟩ = some (.int .i64 1) ∧ W.cell? ⟨bm, 3, none⟩ = some (.int .i64 64) ∧ W.cell? ⟨bm, 4, none⟩ = some (.int .i64 22) ∧ W.cell? ⟨bm, 5, none⟩ = some (.int .i64 128))) ∧ Below w3.heap.size w3 W)
    (first | (with_reducible exact ⟨SQ.out _ B3, B3⟩) | (with_reducible exact ⟨SQ.out _ hg7, hg7⟩) | (have hg := KB.out _ _ (by assumption) (And.right (by assumption)); exact ⟨SQ.out _ hg, hg⟩) | (exact ⟨SQ.out _ (KA.out _ _ (And.right (by assumption))), KA.out _ _ (And.right (by assumption))⟩))
    (first
      | (go_at_call 40; refine (PE.out _).mono ?_; rintro e w4 ⟨rfl, hb4⟩)
      | (go_at_call 41; refine (PA.out _).mono ?_; rintro e w5 ⟨rfl, hb5⟩)
      | (go_at_call 7; refine (LY.out _ _ (b_rd _)).mono ?_; rintro e w7 ⟨a, c, d, rfl, hL, hd⟩; have hg7 := KB.out _ _ hL.bel (And.right (by assumption)); have hg6 := KC.out _ _ hL.bel (And.right (by assumption))))
  have hS7 := hS3.grew hg7
  have hA7 := hL.ary
  clear hL SQ KB KA KC hM hS3 hg7 B3 PE PA LY
  generalize Array.size (World.heap (World.alloc _ _)) = B0 at *
  have hB0 : w.heap.size < B0 := by omega
  clear hg6 hlt0 hd
  go_wp2_with fail
  refine (port_yes a 0 _ (by decide) (by decide)).mono ?_; rintro e w8 ⟨p, rfl, hP8, hp, hb8⟩
  have hA8 := hA7.addsO (L := [p]) hb8 (by simp; exact ⟨hp, hP8.lt⟩)
  have hS8 := hS7.grew hb8
  have hp0 : B0 ≤ p := Nat.le_trans hA7.bw hp
  clear hA7 hS7 hb8 hp
  obtain ⟨g0, g1, g2⟩ := hS8.three
  go_wp2_with fail
  refine (oplan_any 1 1 1 _).mono ?_; rintro e w9 ⟨rfl, hb9⟩
  have hA9 := hA8.grew hb9
  have hP9 := Blk.grew hP8 hb9
  have hS9 := hS8.grew hb9
  clear hA8 hP8 hS8 hb9 g0 g1 g2
  go_wp2_with fail
  refine (NB.out _).mono ?_; rintro e w10 ⟨m, rfl, hM10, hm, hb10⟩
  have hpl : p < w9.heap.size := Blk.lt hP9
  have hA10 := hA9.addsO (L := [m]) hb10 (by simp; exact ⟨hm, Blk.lt hM10⟩)
  have hP10 := Blk.grew hP9 hb10
  have hS10 := hS9.grew hb10
  have hB9 := hA9.bw
  have hm0 : B0 ≤ m := Nat.le_trans hB9 hm
  have hmp : m ≠ p := by omega
  clear hA9 hP9 hS9 hb10 NB
  go_wp2_with fail
  refine (new_any w10 w10.heap.size _ [] (nil_classes _ _) (Nat.le_refl _)).mono ?_
  rintro e w11 ⟨hb11, hcase⟩
  rcases hcase with ⟨hne, _⟩ | ⟨_, tb, tv, tm, L, rfl, hT11, hL11⟩
  · exact absurd (by kernel_rfl) hne
  have hA11 := hA10.addsO (L := between w10.heap.size w11.heap.size) hb11 (fun b hb => mem_between.1 hb)
  have hP11 := Blk.grew hP10 hb11
  have hM11 := Blk.grew hM10 hb11
  have hS11 := hS10.grew hb11
  have hml : m < w10.heap.size := Blk.lt hM10
  have hlo : w10.heap.size ≤ w11.heap.size := hb11.size
  clear hA10 hP10 hM10 hS10 hb11
  obtain ⟨xs0, hX11⟩ := hA11
  have hU0 : BuS w11 B0 a c p m 66 (encH 0 2 1) (1 + 1) bC0 xs0 0 (between w10.heap.size w11.heap.size ++ ([m] ++ ([p] ++ [d]))) 0 false w11 := ⟨hM11, hX11, hP11, Touch.refl _ _⟩
  clear hX11 hM11 hP11
  have HT := Lib.hid hT11
  have HS := Lib.hid hS11
  have HL := Lib.hid hL11
  clear hT11 hS11 hL11
  have hmK : m ∈ between w10.heap.size w11.heap.size ++ ([m] ++ ([p] ++ [d])) := by simp
  have hpK : p ∈ between w10.heap.size w11.heap.size ++ ([m] ++ ([p] ++ [d])) := by simp
  have HK := Lib.hid (show ∀ b, w10.heap.size ≤ b → b < w11.heap.size → b ∈ between w10.heap.size w11.heap.size ++ ([m] ++ ([p] ++ [d])) from fun b h1 h2 => List.mem_append_left _ (mem_between.2 ⟨h1, h2⟩))
  generalize between w10.heap.size w11.heap.size ++ ([m] ++ ([p] ++ [d])) = K at *
  have G := Lib.hid (fun W left cs xs n o (h : BuS w11 B0 a c p m 66 (encH 0 2 1) left cs xs n K 0 o W) => h.grant hmp hpK)
  have lb0 : bC0.length = 128 := by kernel_rfl
  have lb1 : bC1.length = 128 := by kernel_rfl
  have S1 := Lib.hid (fun W xs (h : BuS w11 B0 a c p m 66 (encH 0 2 1) (1 + 1) bC0 xs 0 K 0 true W) => (bstep_more 1 h (by decide) (by decide) (by decide) hmp hmK hpK (by decide) (by rw [lb0]; decide)).mono (R' := fun e w' => e = .returned (.bool false) ∧ ∃ xs, BuS w11 B0 a c p m 66 (encH 0 2 1) 1 bC1 xs 1 K 0 false w') fun _ _ ⟨he, h⟩ => ⟨he, _, h⟩)
  have S2 := Lib.hid (fun W xs (h : BuS w11 B0 a c p m 66 (encH 0 2 1) 1 bC1 xs 1 K 0 true W) => (bstep_last h hmp hmK hpK (by decide) (by rw [lb1]; decide)).mono (R' := fun e w' => e = .returned (.bool true) ∧ ∃ xs, BuS w11 B0 a c p m 66 (encH 0 2 1) 0 bC2 xs 2 K 0 false w') fun _ _ ⟨he, h⟩ => ⟨he, _, h⟩)
  have LK := Lib.hid (fun W (hA : Ary W B0 a c bC2 2 K) (hW : Wid W) (hT : TabS W w10.heap.size tb tv tm L) => look_yes (P := 1) (T := 1) (R := 1) 66 hA hW hT (by rw [bN]; exact b_len) b_U b_hold b_hdE (by rw [HL.out, b_hdC, b_hdK, b_hdN]; exact b_fit) (by rw [b_hdC, b_hdK, b_hdN]; exact b_fits) 1 b_hdN (by decide) (by rw [b_len]; decide))
  rw [b_hdC, b_hdK, b_lk] at LK
  unfold LkPost at LK
  clear lb0 lb1 HL
  have hlt1 : p < w10.heap.size := by omega
  generalize encH 0 2 1 = H at *
  replace hB0 := Lib.hid hB0
  replace hmp := Lib.hid hmp
  go_wp2_with fail
  go_loopw [15] (fun i wr => ∃ k : Int, (k = 0 ∧ (∃ xs, BuS w11 B0 a c p m 66 H (1 + 1) bC0 xs 0 K 0 false wr) ∨ k = 1 ∧ (∃ xs, BuS w11 B0 a c p m 66 H 1 bC1 xs 1 K 0 false wr) ∨ k = 2 ∧ (∃ xs, BuS w11 B0 a c p m 66 H 0 bC2 xs 2 K 0 false wr)) ∧ i = .int .i64 k) (fun i _ => (2 - intOf i).toNat)
  case atStart => exact ⟨0, .inl ⟨rfl, _, hU0⟩, rfl⟩
  case round =>
    clear hU0
    obtain ⟨k, (⟨rfl, xs, hU⟩ | ⟨rfl, xs, hU⟩ | ⟨rfl, xs, hU⟩), rfl⟩ := hrel
    · go_wp2_with fail
      refine (G.out _ _ _ _ _ _ hU).mono ?_; rintro e wa ⟨⟨u1, rfl⟩, h2⟩
      go_wp2_with fail
      refine (S1.out _ _ h2).mono ?_; rintro e wb ⟨rfl, h3⟩
      go_wp2
      go_roundw
      case rel => exact ⟨1, .inr (.inl ⟨rfl, h3⟩), by go_num⟩
      case measure => simp [intOf]
    · go_wp2_with fail
      refine (G.out _ _ _ _ _ _ hU).mono ?_; rintro e wa ⟨⟨u1, rfl⟩, h2⟩
      go_wp2_with fail
      refine (S2.out _ _ h2).mono ?_; rintro e wb ⟨rfl, h3⟩
      go_wp2
      go_roundw
      case rel => exact ⟨2, .inr (.inr ⟨rfl, h3⟩), by go_num⟩
      case measure => simp [intOf]
    · have hT := HT.out.touch hU.touch (fun g h1 h2 h3 => by
        rcases h3 with rfl | rfl | ⟨_, h3⟩
        · omega
        · omega
        · exact h3 (HK.out g h1 h2))
      have hS := HS.out.touch hU.touch (fun b hb => by
        have := hB0.out
        rcases hb with rfl | rfl | ⟨hb, _⟩ <;> omega)
      have hA : Ary wr B0 a c bC2 2 K := ⟨_, hU.arx⟩
      have hM := hU.mach
      clear hU G S1 S2 HT HS
      obtain ⟨g0, g1, g2⟩ := hS.three
      go_wp2_with fail
      refine (oplan_any 1 1 1 _).mono ?_; rintro e wx ⟨rfl, hbx⟩
      have hTx := hT.grew hbx
      have hSx := hS.grew hbx
      have hAx := hA.grew hbx
      have hMx := Blk.grew hM hbx
      clear hT hS hA hM hbx g0 g1 g2
      go_wp2_with fail
      refine (LK.out _ hAx (WI.out _ hSx.bel) hTx).mono ?_
      rintro e wy ⟨u, rfl, hou, hby⟩
      have hSy := hSx.grew hby
      have hMy := Blk.grew hMx hby
      clear hTx hSx hAx hMx hby LK
      obtain ⟨g', cap, cur, rfl, hcell⟩ : ∃ g cap, ∃ cur : Unit, u = .slice (some ⟨g, 0, none⟩) 1 cap ∧ wy.cell? ⟨g, 0, none⟩ = some (.int .i64 0) := by
        rcases hou.2 with ⟨h1, h2⟩ | ⟨g, cap, cur, h1, _⟩
        · exact absurd h2 (by simp)
        · refine ⟨g, cap, (), h1, ?_⟩
          subst h1
          have := hou.cellAt 0 (by simp)
          exact this
      have hZ := Blk.new wy #[.int .i64 66, .int .i64 0, .int .i64 2, .slice (some ⟨g', 0, none⟩) 1 cap] 80
      have hbz : Below wy.heap.size wy (wy.alloc (.cells #[.int .i64 66, .int .i64 0, .int .i64 2, .slice (some ⟨g', 0, none⟩) 1 cap] 80)) := (Below.refl _ _).alloc (Nat.le_refl _) _
      have hSz := hSy.grew hbz
      have hMz := Blk.grew hMy hbz
      have z0 := hZ.val 0 rfl
      have z2 := hZ.val 2 rfl
      have z3 := hZ.val 3 rfl
      have zc := (hbz.cell (p := ⟨g', 0, none⟩) (World.block_lt_of_cell? wy _ hcell)).trans hcell
      clear hou hSy hMy hbz hcell hZ
      go_wp2_with fail
      refine (bover_any hMz).mono ?_; rintro e wf ⟨rfl, hqf⟩
      have y0 := (hqf.cell _).trans z0
      have y2 := (hqf.cell _).trans z2
      have y3 := (hqf.cell _).trans z3
      have yc := (hqf.cell _).trans zc
      have hBf := hSz.bel.trans hqf.below
      clear hSz hMz hqf z0 z2 z3 zc
      go_wp2
      go_ret
      exact ⟨rfl, hBf⟩
end Go.Proofs.YtpoddnfooaddgaaGreatDoor
/- The law ObjectsLooks. Conditions: the words and the classes are read in full; sizes' table lies as the start lays it. -/
namespace Go.Proofs.YtpoddnfooaddgaaGreatDoor
open Go.RowKit
set_option linter.unusedVariables false
theorem elW_U {B : Nat} {w : World} {v : Value} {l : List (Int × Int)} (h : RdRow 2 ElW B w v l) : ∀ x ∈ l, U64 x.2 := by
  obtain ⟨a, c, _, _, hel⟩ := h
  intro x hx
  obtain ⟨i, hi, rfl⟩ := List.getElem_of_mem hx
  obtain ⟨b, o, _, _, e⟩ := hel i hi
  exact e.2.2
/-- the plan's box, the map's box, what is no longer written -/
structure LoS (w : World) (b bm : Nat) (P T R bs tb z : Int) (W : World) : Prop where
  pl : Blk W b #[.int .i64 P, .int .i64 T, .int .i64 R] 23
  mp : Blk W bm #[.int .i64 P, .int .i64 T, .int .i64 R, .int .i64 bs, .int .i64 tb, .int .i64 z] 36
  bel : Below w.heap.size w W
theorem LoS.grew {w W W' : World} {b bm : Nat} {P T R bs tb z : Int} (h : LoS w b bm P T R bs tb z W) (hb : Below W.heap.size W W') : LoS w b bm P T R bs tb z W' := ⟨h.pl.grew hb, h.mp.grew hb, h.bel.trans (hb.mono h.bel.size)⟩
theorem four_atL {w : World} {b : Nat} {v0 v1 v2 v3 : Value} {t : TypeId} (h : Blk w b #[v0, v1, v2, v3] t) :
    w.cell? ⟨b, 0, none⟩ = some v0 ∧ w.cell? ⟨b, 1, none⟩ = some v1 ∧ w.cell? ⟨b, 2, none⟩ = some v2 ∧ w.cell? ⟨b, 3, none⟩ = some v3 :=
  ⟨h.val 0 rfl, h.val 1 rfl, h.val 2 rfl, h.val 3 rfl⟩
theorem six_atL {w : World} {b : Nat} {v0 v1 v2 v3 v4 v5 : Value} {t : TypeId} (h : Blk w b #[v0, v1, v2, v3, v4, v5] t) :
    w.cell? ⟨b, 0, none⟩ = some v0 ∧ w.cell? ⟨b, 1, none⟩ = some v1 ∧ w.cell? ⟨b, 2, none⟩ = some v2 ∧ w.cell? ⟨b, 3, none⟩ = some v3 ∧ w.cell? ⟨b, 4, none⟩ = some v4 ∧ w.cell? ⟨b, 5, none⟩ = some v5 :=
  ⟨h.val 0 rfl, h.val 1 rfl, h.val 2 rfl, h.val 3 rfl, h.val 4 rfl, h.val 5 rfl⟩
set_option maxRecDepth 100000 in
set_option maxHeartbeats 8000000 in
theorem olooks_law (P T R : Int) (v : Value) (l : List (Int × Int)) (v2 : Value) (cl : List ClsD) (x : Int) (w : World) (w0 : (Lit.int .i64 P).wf = true) (w1 : (Lit.int .i64 T).wf = true) (w2 : (Lit.int .i64 R).wf = true) (hv : RdRow 2 ElW w.heap.size w v l) (hc : RdRow 2 (ElC w.heap.size) w.heap.size w v2 cl) (w3 : (Lit.int .i64 x).wf = true) (hWid : Wid w) :
    Calls Tryz.prog 4 #[.agg #[.int .i64 P, .int .i64 T, .int .i64 R, v, v2, .int .i64 x]] w fun e w' => e = .returned (.bool true) ∧ Below w.heap.size w w' := by
  have hx : I64 x := wf_I64 w3
  have hUl := elW_U hv
  obtain ⟨av, qv, rfl⟩ := rd_shape hv
  obtain ⟨ac, qc, rfl⟩ := rd_shape hc
  have RW := Lib.hid (fun W (hb : Below w.heap.size w W) => (hv.keep hb fun _ _ _ e r => r.keep hb e).mono (el' := ElW) hb.size (fun _ _ _ e => e))
  have RP := Lib.hid (fun W (hb : Below w.heap.size w W) => hc.keep hb fun _ _ _ e r => r.keep hb e)
  have WI := Lib.hid (fun W (hb : Below w.heap.size w W) => hWid.below hb hWid.lt)
  have hX := Blk.new w #[.int .i64 P, .int .i64 T, .int .i64 R, .slice av l.length qv, .slice ac cl.length qc, .int .i64 x] 74
  have hB : Below w.heap.size w (w.alloc (.cells #[.int .i64 P, .int .i64 T, .int .i64 R, .slice av l.length qv, .slice ac cl.length qc, .int .i64 x] 74)) := (Below.refl _ _).alloc (Nat.le_refl _) _
  clear w0 w1 w2 w3 hv hc hWid
  go_enter Tryz.func4, Tryz.ntmps4
  go_upto_region 1 with fail
  have hsz : Array.size (World.heap (w.alloc (.cells #[.int .i64 P, .int .i64 T, .int .i64 R, .slice av l.length qv, .slice ac cl.length qc, .int .i64 x] 74))) = w.heap.size + 1 := by simp
  generalize w.alloc (.cells #[.int .i64 P, .int .i64 T, .int .i64 R, .slice av l.length qv, .slice ac cl.length qc, .int .i64 x] 74) = W at *
  obtain ⟨x0, x1, x2, x3, x4, x5⟩ := six_atL hX
  go_region_held3 (fun w' => w'.cell? ⟨w.heap.size, 0, none⟩ = some (.int .i64 P) ∧ w'.cell? ⟨w.heap.size, 1, none⟩ = some (.int .i64 T) ∧ w'.cell? ⟨w.heap.size, 2, none⟩ = some (.int .i64 R) ∧ w'.cell? ⟨w.heap.size, 3, none⟩ = some (.slice av l.length qv) ∧ w'.cell? ⟨w.heap.size, 4, none⟩ = some (.slice ac cl.length qc) ∧ w'.cell? ⟨w.heap.size, 5, none⟩ = some (.int .i64 x))
      (first | (with_reducible exact ⟨by assumption, by assumption, by assumption, by assumption, by assumption, by assumption⟩) | (refine six_atL (t := 74) ?_; repeat (first | exact hX | refine Blk.alloc ?_ _ | refine Blk.drew ?_ | (refine Blk.other ?_ _ _ ?_; rotate_left 1; (simp; omega)))))
      (fail)
  have hQ5 : Blk (W.alloc (.cells #[.int .i64 P, .int .i64 T, .int .i64 R] 23)).drew (w.heap.size + 1) #[.int .i64 P, .int .i64 T, .int .i64 R] 23 := (Blk.new' hsz.symm).drew
  have hB5 : Below w.heap.size w (W.alloc (.cells #[.int .i64 P, .int .i64 T, .int .i64 R] 23)).drew := (hB.alloc hB.size _).trans ((Quiet.below ⟨1, rfl⟩ : Below (W.alloc (.cells #[.int .i64 P, .int .i64 T, .int .i64 R] 23)).heap.size _ _).mono (by have := hB.size; simp; omega))
  clear x0 x1 x2 x3 x4 x5 hX hB
  generalize (W.alloc (.cells #[.int .i64 P, .int .i64 T, .int .i64 R] 23)).drew = W5 at *
  clear hsz
  obtain ⟨g0, g1, g2⟩ := hQ5.three.1
  go_wp2_with fail
  refine (osmall_any P T R _).mono ?_; rintro e w6 ⟨P', rfl, hp1, hp5, hb6⟩
  have hQ6 := hQ5.grew hb6
  have hB6 := hB5.trans (hb6.mono hB5.size)
  clear g0 g1 g2 hQ5 hB5 hb6
  have hr : Right P' 1 1 := by unfold Right; omega
  clear hp1 hp5
  obtain ⟨⟨g0, g1, g2⟩, f0, f1, f2⟩ := hQ6.three
  have hQ7 := Lib.hid (((hQ6.set 0 (.int .i64 P')).set 1 (.int .i64 1)).set 2 (.int .i64 1))
  have hB7 := Lib.hid (((hB6.setCell (p := ⟨w.heap.size + 1, 0, none⟩) (by simp) (.int .i64 P')).setCell (p := ⟨w.heap.size + 1, 1, none⟩) (by simp) (.int .i64 1)).setCell (p := ⟨w.heap.size + 1, 2, none⟩) (by simp) (.int .i64 1))
  clear hQ6 hB6
  go_upto_region 3 with fail
  clear g0 g1 g2 f0 f1 f2
  generalize World.setCell (World.setCell (World.setCell _ _ _) _ _) _ _ = w7 at *
  have hq7 := hQ7.out
  obtain ⟨g0, g1, g2⟩ := (show Blk w7 (w.heap.size + 1) #[.int .i64 P', .int .i64 1, .int .i64 1] 23 from hq7).three.1
  have LY := Lib.hid (olay_yes P' 1 1 _ l w7 hr (RW.out _ hB7.out))
  go_wp2_with fail
  refine LY.out.mono ?_; rintro e w8 ⟨a, c, d, rfl, hL, hd⟩
  have hA8 := hL.ary
  have hD8 := hL.row
  have hQ8 : Blk w8 (w.heap.size + 1) #[.int .i64 P', .int .i64 1, .int .i64 1] 23 := Blk.grew hq7 (hL.bel.mono (Nat.le_refl _))
  have hB8 := hB7.out.trans (hL.bel.mono hB7.out.size)
  have hcs : (layL (cellsN P' 1 1) (l.take 300)).length = cellsN P' 1 1 := layL_len _ _
  have hU := layL_U (cellsN P' 1 1) (l.take 300) (fun x hx => hUl x (List.mem_of_mem_take hx))
  clear hL hq7 hQ7 hB7 LY RW hUl g0 g1 g2 hd
  generalize layL (cellsN P' 1 1) (l.take 300) = cs at *
  generalize w7.heap.size = B0 at *
  have NW := Lib.hid (new_any w8 w.heap.size _ cl (RP.out _ hB8) hB8.size)
  go_wp2_with fail
  refine NW.out.mono ?_
  rintro e w9 ⟨hb9, hcase⟩
  have hA9 := hA8.grew hb9
  have hD9 := hD8.grew hb9
  have hQ9 := hQ8.grew hb9
  have hB9 := hB8.trans (hb9.mono hB8.size)
  clear hA8 hD8 hQ8 hB8 NW
  rcases hcase with ⟨hne, rfl⟩ | ⟨hz, t, tv, m, L, rfl, hT, hLm⟩
  · have hne' : ((tabE cl).2 != 0) = true := by simpa using hne
    generalize (tabE cl).1 = n1 at *
    generalize (tabE cl).2 = n2 at *
    clear hne
    have BA := Lib.hid (built_any w9 (WI.out _ hB9))
    go_wp2_with fail
    refine BA.out.mono ?_; rintro e w10 ⟨rfl, hb10⟩
    go_wp2
    go_ret
    exact ⟨rfl, hB9.trans (hb10.mono hB9.size)⟩
  · have h16 : cl.length ≤ 16 := Nat.le_of_not_lt fun hl => by unfold tabE at hz; rw [if_pos hl] at hz; cases hz
    have h15 : Hid (∀ d ∈ cl, d.fields.length ≤ 15) := Lib.hid (tabE_zero hz).2
    clear hz
    have BA := Lib.hid (built_any w9 (WI.out _ hB9))
    go_wp2_with fail
    refine BA.out.mono ?_; rintro e w10 ⟨rfl, hb10⟩
    have hT10 := hT.grew hb10
    have hA10 := hA9.grew hb10
    have hD10 := hD9.grew hb10
    have hQ10 := hQ9.grew hb10
    have hB10 := hB9.trans (hb10.mono hB9.size)
    clear hT hA9 hD9 hQ9 hB9 BA hb10 hb9
    obtain ⟨g0, g1, g2⟩ := hQ10.three.1
    have DR := Lib.hid (draw_yes P' 1 1 w10 hr)
    have MV : mapV P' 1 1 = .agg #[.int .i64 P', .int .i64 1, .int .i64 1, .int .i64 (baseI P' 1 1), .int .i64 (tabI 1 1), .int .i64 (baseI P' 1 1 + 64 * P')] := rfl
    have LA := Lib.hid (fun W (hA : Ary W B0 a c cs 0 [d]) (hW : Wid W) (hT : TabS W w8.heap.size t tv m L) => look_any x hr hA hW hT hcs hU)
    have LR := Lib.hid (fun W (hD : Blk W d (cs.map (Value.int .u64)).toArray 57) (hb : Below w.heap.size w W) => rlook_any x hx hr hD hcs hU (RP.out _ hb) hb.size h16 h15.out)
    have AA := Lib.hid (fun W (hA : Ary W B0 a c cs 0 [d]) (hW : Wid W) => allocated_any (P := P') (T := 1) (R := 1) x hA hW (fun _ => hcs) hU)
    have AR := Lib.hid (fun W (hD : Blk W d (cs.map (Value.int .u64)).toArray 57) => rallocated_any P' 1 1 x d cs W hr hx hD hcs hU)
    have hNe : cellsN P' 1 1 = cs.length := hcs.symm
    rw [MV] at DR LR AR
    rw [hLm] at LA
    rw [hNe] at LR AR
    rw [hNe]
    generalize lookE P' 1 1 cs cl x = r at *
    generalize holdB P' 1 1 cs x = hb0 at *
    generalize baseI P' 1 1 = bs at *
    generalize tabI 1 1 = tb at *
    generalize bs + 64 * P' = z at *
    clear hcs hU hx h16 h15 MV hr hNe hLm
    go_wp2_with fail
    refine DR.out.mono ?_; rintro e w11 ⟨rfl, hb11⟩
    have hbm := hb11.alloc hb11.size (.cells #[.int .i64 P', .int .i64 1, .int .i64 1, .int .i64 bs, .int .i64 tb, .int .i64 z] 36)
    have hS12 : LoS w (w.heap.size + 1) w11.heap.size P' 1 1 bs tb z (w11.alloc (.cells #[.int .i64 P', .int .i64 1, .int .i64 1, .int .i64 bs, .int .i64 tb, .int .i64 z] 36)) := ⟨hQ10.grew hbm, Blk.new _ _ _, hB10.trans (hbm.mono hB10.size)⟩
    have hT12 := hT10.grew hbm
    have hA12 := hA10.grew hbm
    have hD12 := hD10.grew hbm
    clear hT10 hA10 hD10 hQ10 hB10 hb11 hbm g0 g1 g2 DR
    go_upto_region 10 with fail
    generalize w11.alloc (.cells #[.int .i64 P', .int .i64 1, .int .i64 1, .int .i64 bs, .int .i64 tb, .int .i64 z] 36) = w12 at *
    generalize w11.heap.size = bm at *
    obtain ⟨g0, g1, g2⟩ := hS12.pl.three.1
    go_wp2_with fail
    refine (oplan_any P' 1 1 _).mono ?_; rintro e w13 ⟨rfl, hb13⟩
    have hS13 := hS12.grew hb13
    have hT13 := hT12.grew hb13
    have hA13 := hA12.grew hb13
    have hD13 := hD12.grew hb13
    clear hS12 hT12 hA12 hD12 hb13 g0 g1 g2
    go_wp2_with fail
    refine (LA.out _ hA13 (WI.out _ hS13.bel) hT13).mono ?_
    intro e w14 hlk
    obtain ⟨a1, q1, rfl, hl1, hb14⟩ := hlk.vals
    have hbc := hb14.alloc hb14.size (.cells #[.int .i64 (lkX r x), .int .i64 (lkC r), .int .i64 (lkK r), .slice a1 (lkW r cs x).length q1] 80)
    have hC15 := Blk.new w14 #[.int .i64 (lkX r x), .int .i64 (lkC r), .int .i64 (lkK r), .slice a1 (lkW r cs x).length q1] 80
    have hl15 := hl1.below ((Below.refl w14.heap.size w14).alloc (Nat.le_refl _) (.cells #[.int .i64 (lkX r x), .int .i64 (lkC r), .int .i64 (lkK r), .slice a1 (lkW r cs x).length q1] 80))
    have hS15 := hS13.grew hbc
    have hA15 := hA13.grew hbc
    have hD15 := hD13.grew hbc
    clear hS13 hT13 hA13 hD13 hb14 hbc hlk hl1 LA
    go_upto_region 11 with fail
    generalize w14.alloc (.cells #[.int .i64 (lkX r x), .int .i64 (lkC r), .int .i64 (lkK r), .slice a1 (lkW r cs x).length q1] 80) = w15 at *
    generalize w14.heap.size = b1 at *
    obtain ⟨m0, m1, m2, m3, m4, m5⟩ := six_atL hS15.mp
    go_wp2_with fail
    refine (LR.out _ hD15 hS15.bel).mono ?_
    intro e w16 hlk
    obtain ⟨a2, q2, rfl, hl2, hb16⟩ := hlk.vals
    have hbc := hb16.alloc hb16.size (.cells #[.int .i64 (lkX r x), .int .i64 (lkC r), .int .i64 (lkK r), .slice a2 (lkW r cs x).length q2] 80)
    have hF17 := Blk.new w16 #[.int .i64 (lkX r x), .int .i64 (lkC r), .int .i64 (lkK r), .slice a2 (lkW r cs x).length q2] 80
    have hk17 := hl2.below ((Below.refl w16.heap.size w16).alloc (Nat.le_refl _) (.cells #[.int .i64 (lkX r x), .int .i64 (lkC r), .int .i64 (lkK r), .slice a2 (lkW r cs x).length q2] 80))
    have hl17 := hl15.below hbc
    have hC17 := hC15.grew hbc
    have hS17 := hS15.grew hbc
    have hA17 := hA15.grew hbc
    have hD17 := hD15.grew hbc
    clear hS15 hA15 hD15 hb16 hbc hlk hl2 LR m0 m1 m2 m3 m4 m5 hC15 hl15
    go_upto_region 12 with fail
    generalize w16.alloc (.cells #[.int .i64 (lkX r x), .int .i64 (lkC r), .int .i64 (lkK r), .slice a2 (lkW r cs x).length q2] 80) = w17 at *
    generalize w16.heap.size = b2 at *
    generalize lkX r x = rx at *
    generalize lkC r = rc at *
    generalize lkK r = rk at *
    generalize lkN r = rn at *
    generalize lkW r cs x = rz at *
    have SQ := Lib.hid (fun W (hb : Below w17.heap.size w17 W) => show (W.cell? ⟨w.heap.size + 1, 0, none⟩ = some (.int .i64 P') ∧ W.cell? ⟨w.heap.size + 1, 1, none⟩ = some (.int .i64 1) ∧ W.cell? ⟨w.heap.size + 1, 2, none⟩ = some (.int .i64 1)) ∧
      (W.cell? ⟨bm, 0, none⟩ = some (.int .i64 P') ∧ W.cell? ⟨bm, 1, none⟩ = some (.int .i64 1) ∧ W.cell? ⟨bm, 2, none⟩ = some (.int .i64 1) ∧ W.cell? ⟨bm, 3, none⟩ = some (.int .i64 bs) ∧ W.cell? ⟨bm, 4, none⟩ = some (.int .i64 tb) ∧ W.cell? ⟨bm, 5, none⟩ = some (.int .i64 z)) ∧
      (W.cell? ⟨b1, 0, none⟩ = some (.int .i64 rx) ∧ W.cell? ⟨b1, 1, none⟩ = some (.int .i64 rc) ∧ W.cell? ⟨b1, 2, none⟩ = some (.int .i64 rk) ∧ W.cell? ⟨b1, 3, none⟩ = some (.slice a1 rz.length q1)) ∧
      (W.cell? ⟨b2, 0, none⟩ = some (.int .i64 rx) ∧ W.cell? ⟨b2, 1, none⟩ = some (.int .i64 rc) ∧ W.cell? ⟨b2, 2, none⟩ = some (.int .i64 rk) ∧ W.cell? ⟨b2, 3, none⟩ = some (.slice a2 rz.length q2)) from
      ⟨(hS17.grew hb).pl.three.1, six_atL (hS17.grew hb).mp, four_atL (hC17.grew hb), four_atL (hF17.grew hb)⟩)
    have AA2 := Lib.hid (fun W (hb : Below w17.heap.size w17 W) => AA.out W (hA17.grew hb) (WI.out _ (hS17.grew hb).bel))
    have AR2 := Lib.hid (fun W (hb : Below w17.heap.size w17 W) => AR.out W (hD17.grew hb))
    have SC := Lib.hid (fun W (hb : Below w17.heap.size w17 W) => samecell_any rx rc rk (.slice a1 rz.length q1) (.slice a2 rz.length q2) rz W (hl17.below hb) (hk17.below hb))
    have B3 : Below w17.heap.size w17 w17.drew := Quiet.below ⟨1, rfl⟩
    have KB := Lib.hid (fun (A C : World) (hb : Below A.heap.size A C) (h : Below w17.heap.size w17 A) => h.trans (hb.mono h.size))
    have HB := Lib.hid (fun W (hb : Below w17.heap.size w17 W) => (hS17.grew hb).bel)
    have eb : (hb0 == hb0) = true := by simp
    have en : (rn == rn) = true := by simp
    clear hS17 hA17 hD17 hC17 hF17 hl17 hk17 AA AR RP WI
    go_region_held3 (fun W => ((W.cell? ⟨w.heap.size + 1, 0, none⟩ = some (.int .i64 P') ∧ W.cell? ⟨w.heap.size + 1, 1, none⟩ = some (.int .i64 1) ∧ W.cell? ⟨w.heap.size + 1, 2, none⟩ = some (.int .i64 1)) ∧
      (W.cell? ⟨bm, 0, none⟩ = some (.int .i64 P') ∧ W.cell? ⟨bm, 1, none⟩ = some (.int .i64 1) ∧ W.cell? ⟨bm, 2, none⟩ = some (.int .i64 1) ∧ W.cell? ⟨bm, 3, none⟩ = some (.int .i64 bs) ∧ W.cell? ⟨bm, 4, none⟩ = some (.int .i64 tb) ∧ W.cell? ⟨bm, 5, none⟩ = some (.int .i64 z)) ∧
      (W.cell? ⟨b1, 0, none⟩ = some (.int .i64 rx) ∧ W.cell? ⟨b1, 1, none⟩ = some (.int .i64 rc) ∧ W.cell? ⟨b1, 2, none⟩ = some (.int .i64 rk) ∧ W.cell? ⟨b1, 3, none⟩ = some (.slice a1 rz.length q1)) ∧
      (W.cell? ⟨b2, 0, none⟩ = some (.int .i64 rx) ∧ W.cell? ⟨b2, 1, none⟩ = some (.int .i64 rc) ∧ W.cell? ⟨b2, 2, none⟩ = some (.int .i64 rk) ∧ W.cell? ⟨b2, 3, none⟩ = some (.slice a2 rz.length q2))) ∧ Below w17.heap.size w17 W)
      (first | (with_reducible exact ⟨SQ.out _ B3, B3⟩) | (with_reducible exact ⟨SQ.out _ hg9, hg9⟩) | (have hg := KB.out _ _ (by assumption) (And.right (by assumption)); exact ⟨SQ.out _ hg, hg⟩))
      (first
        | (go_at_call 11; refine (oplan_any P' 1 1 _).mono ?_; rintro e w18 ⟨rfl, hb18⟩)
        | (go_at_call 30; refine (AA2.out _ (And.right (by assumption))).mono ?_; rintro e w19 ⟨rfl, hb19⟩)
        | (go_at_call 31; refine (AR2.out _ (And.right (by assumption))).mono ?_; rintro e w20 ⟨rfl, hb20⟩)
        | (go_at_call 32; refine (SC.out _ (And.right (by assumption))).mono ?_; rintro e w21 ⟨rfl, hb21⟩; have hg9 := KB.out _ _ hb21 (And.right (by assumption))))
    have HF := HB.out _ hg9
    clear SQ AA2 AR2 SC B3 KB HB hg9
    go_wp2
    go_ret
    exact ⟨rfl, HF⟩
end Go.Proofs.YtpoddnfooaddgaaGreatDoor
/- Words of the laws of objects, as arguments. No condition. -/
namespace Go.Proofs.YtpoddnfooaddgaaGreatDoor
open Go.ChangeShapes Go.WideShapes Go.ChangeAt Go.RowKit Go.Deep
set_option linter.unusedVariables false
section
variable {H : Type} {enc : TypeId × Value → H} {w : World} {base : Nat} {spare : Nat → Bool} {held : Bool}
theorem open_words {fuel : Nat} {v : Value} {x : DataW H × List MemPlace} (h : DataW.trod enc Tryz.prog w base spare held fuel 26 [v] = some x) : ∃ l, RdRow 2 ElW w.heap.size w v l :=
  rdField Tryz.underlying26 Tryz.underlying100 (by kernel_rfl) (by kernel_rfl) rfl rfl h fun b k n hf => by
    obtain ⟨v0, y0, c0, t0⟩ := hf 0 _ rfl
    obtain ⟨v1, y1, c1, t1⟩ := hf 1 _ rfl
    obtain ⟨p, rfl, hp⟩ := leaf_int Tryz.underlying3 t0
    obtain ⟨q, rfl, hq⟩ := leaf_int Tryz.underlying57 t1
    exact ⟨(p, q), c0, c1, wf_U64 hq⟩
end
end Go.Proofs.YtpoddnfooaddgaaGreatDoor
