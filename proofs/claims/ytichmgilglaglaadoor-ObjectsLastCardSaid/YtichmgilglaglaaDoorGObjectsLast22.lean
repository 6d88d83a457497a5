/- The law ObjectsLast. Condition: sizes' table lies as the start lays it. -/
import Derived.Test.YtichmgilglaglaaDoorGObjectsLast21
namespace Go.Proofs.YtichmgilglaglaaDoor
open Go.RowKit
set_option linter.unusedVariables false
theorem l_base : baseI 4 1 1 = 64 := by kernel_rfl
theorem l_tab : tabI 1 1 = 22 := by kernel_rfl
theorem l_N : cellsN 4 1 1 = 320 := by kernel_rfl
theorem l_right : Right 4 1 1 := by unfold Right; omega
theorem l_head (n : Nat) (h : n ≤ 255) : headB 0 2 n = true := by
  have : ∀ n : Fin 256, headB 0 2 (n.val : Int) = true := by decide +kernel
  exact this ⟨n, by omega⟩
theorem l_allow (n : Nat) (h : n ≤ 255) : allowB 4 1 1 64 ((n : Int) + 1) = true := by
  have : ∀ n : Fin 256, allowB 4 1 1 64 ((n.val : Int) + 1) = true := by decide +kernel
  exact this ⟨n, by omega⟩
theorem l_at : layAt 320 64 = 64 := by kernel_rfl
def lC (z : Int) : List Int := (List.replicate 320 0).set 64 z
theorem l_lay (z : Int) : layL 320 (([(64, z)] : List (Int × Int)).take 300) = lC z := by
  show (List.replicate 320 0).set (layAt 320 64) z = _
  rw [l_at]; rfl
theorem lC_len (z : Int) : (lC z).length = 320 := by unfold lC; rw [List.length_set, List.length_replicate]
theorem lC_get (z : Int) : (lC z).getD 64 0 = z := by
  unfold lC; rw [List.getD_eq_getElem?_getD, List.getElem?_set_self (by rw [List.length_replicate]; omega)]; rfl
theorem l_rd (X : World) (z : Int) (hz : U64 z) : RdRow 2 ElW (X.alloc (.cells #[.int .i64 64, .int .u64 z] 48)).heap.size (X.alloc (.cells #[.int .i64 64, .int .u64 z] 48)) (.slice (some ⟨X.heap.size, 0, none⟩) 1 1) [(64, z)] := by
  have k1 := Blk.new X #[.int .i64 64, .int .u64 z] 48
  refine ⟨some ⟨X.heap.size, 0, none⟩, 1, rfl, by unfold maxLen; simp, fun i hi => ⟨X.heap.size, 0, rfl, by simp, ?_⟩⟩
  match i, hi with
  | 0, _ => exact ⟨k1.val 0 rfl, k1.val 1 rfl, hz⟩
  | i + 1, h => exact absurd h (by simp)
/-- the plan's box, the map's box, what is no longer written -/
structure LaS (w : World) (b bm : Nat) (W : World) : Prop where
  pl : Blk W b #[.int .i64 4, .int .i64 1, .int .i64 1] 28
  mp : Blk W bm #[.int .i64 4, .int .i64 1, .int .i64 1, .int .i64 64, .int .i64 22, .int .i64 320] 32
  bel : Below w.heap.size w W
theorem LaS.grew {w W W' : World} {b bm : Nat} (h : LaS w b bm W) (hb : Below W.heap.size W W') : LaS w b bm W' := ⟨h.pl.grew hb, h.mp.grew hb, h.bel.trans (hb.mono h.bel.size)⟩
theorem LaS.touch {R : Nat → Prop} {w W W' : World} {b bm : Nat} (h : LaS w b bm W) (hT : Touch R W W') (hR : ∀ x, R x → w.heap.size ≤ x ∧ x ≠ b ∧ x ≠ bm) : LaS w b bm W' :=
  ⟨h.pl.touch hT (fun e => (hR _ e).2.1 rfl), h.mp.touch hT (fun e => (hR _ e).2.2 rfl), h.bel.trans (hT.below h.bel.size (fun b hb => (hR b hb).1))⟩
theorem LaS.cells {w W : World} {b bm : Nat} (h : LaS w b bm W) : (W.cell? ⟨b, 0, none⟩ = some (.int .i64 4) ∧ W.cell? ⟨b, 1, none⟩ = some (.int .i64 1) ∧ W.cell? ⟨b, 2, none⟩ = some (.int .i64 1)) ∧ W.cell? ⟨bm, 3, none⟩ = some (.int .i64 64) := ⟨h.pl.three.1, h.mp.val 3 rfl⟩
set_option maxRecDepth 100000 in
set_option maxHeartbeats 8000000 in
theorem olast_law (x z s : Int) (w : World) (w0 : (Lit.int .i64 x).wf = true) (w1 : (Lit.int .u64 z).wf = true) (w2 : (Lit.int .i64 s).wf = true) (hWid : Wid w) :
    Calls Tryd.prog 4 #[.int .i64 x, .int .u64 z, .int .i64 s] w fun e w' => e = .returned (.bool true) ∧ Below w.heap.size w w' := by
  have hz : U64 z := wf_U64 w1
  have BA := Lib.hid (built_any w hWid)
  have DR := Lib.hid (fun W => draw_yes 4 1 1 W l_right)
  unfold mapV at DR
  rw [l_base, l_tab] at DR
  have LY := Lib.hid (fun W v (hl : RdRow 2 ElW W.heap.size W v [(64, z)]) => olay_yes 4 1 1 v [(64, z)] W l_right hl)
  unfold OLay at LY
  rw [l_N, l_lay] at LY
  obtain ⟨N, hN, hNe⟩ : ∃ N : Nat, N ≤ 255 ∧ Hid (wrap64 ((IntKind.u64.wrap x).tmod 256) = (N : Int) ∧ wrap64 (IntKind.u64.wrap x % 256) = (N : Int)) :=
    ⟨layAt 256 x, by have := layAt_lt (N := 256) (by omega) x; omega, Lib.hid (layAt_val (N := 256) (by omega) (by omega) x)⟩
  obtain ⟨Q, hQ, hQe⟩ : ∃ Q : Nat, Q ≤ N + 1 ∧ Hid (wrap64 ((IntKind.u64.wrap s).tmod ((N : Int) + 2)) = (Q : Int) ∧ wrap64 (IntKind.u64.wrap s % ((N : Int) + 2)) = (Q : Int)) :=
    ⟨layAt (N + 2) s, by have := layAt_lt (N := N + 2) (by omega) s; omega, Lib.hid (by have := layAt_val (N := N + 2) (by omega) (by omega) s; rwa [show (((N + 2 : Nat)) : Int) = (N : Int) + 2 by omega] at this)⟩
  have NB := Lib.hid (fun W => newbuild_yes 4 1 1 0 2 (N : Int) 64 W (l_head N hN) (l_allow N hN))
  unfold NbPost at NB
  have HC := Lib.hid (show (lC z).length = 320 ∧ (lC z).getD 64 0 = z from ⟨lC_len z, lC_get z⟩)
  generalize lC z = C0 at *
  generalize encH 0 2 (N : Int) = H at *
  clear hWid w0 w1 w2
  go_enter Tryd.func4, Tryd.ntmps4
  go_wp2_with fail
  refine BA.out.mono ?_; rintro e v1 ⟨rfl, hb1⟩
  have hP2 := Blk.new v1 #[.int .i64 4, .int .i64 1, .int .i64 1] 28
  have hB2 : Below w.heap.size w (v1.alloc (.cells #[.int .i64 4, .int .i64 1, .int .i64 1] 28)) := hb1.alloc hb1.size _
  have hbw : w.heap.size ≤ v1.heap.size := hb1.size
  clear BA hb1
  go_wp2_with fail
  generalize v1.alloc (.cells #[.int .i64 4, .int .i64 1, .int .i64 1] 28) = v2 at *
  generalize v1.heap.size = b at *
  refine (DR.out _).mono ?_; rintro e v3 ⟨rfl, hb3⟩
  have hM := sixNew v3 4 1 1 64 22 320 32
  have hlt : b < v3.heap.size := (Blk.grew hP2 hb3).lt
  have hb4 : Below v2.heap.size v2 (v3.alloc (.cells #[.int .i64 4, .int .i64 1, .int .i64 1, .int .i64 64, .int .i64 22, .int .i64 320] 32)) := hb3.alloc hb3.size _
  have hS4 : LaS w b v3.heap.size (v3.alloc (.cells #[.int .i64 4, .int .i64 1, .int .i64 1, .int .i64 64, .int .i64 22, .int .i64 320] 32)) := ⟨hP2.grew hb4, hM, hB2.trans (hb4.mono hB2.size)⟩
  clear hP2 hB2 hb3 hb4 hM DR
  go_upto_region 5 with fail
  generalize v3.alloc (.cells #[.int .i64 4, .int .i64 1, .int .i64 1, .int .i64 64, .int .i64 22, .int .i64 320] 32) = v4 at *
  generalize v3.heap.size = bm at *
  go_upto_region 6 with fail
  first | rw [hNe.out.1] | rw [hNe.out.2]
  obtain ⟨⟨g0, g1, g2⟩, g3⟩ := hS4.cells
  go_wp2_with fail
  refine (LY.out _ _ (l_rd _ z hz)).mono ?_; rintro e w7 ⟨a, c, d, rfl, hL, hd⟩
  have hg7 : Below v4.heap.size v4 w7 := ((Below.refl _ _).alloc (Nat.le_refl _) _).trans (hL.bel.mono (by simp))
  have hA7 := hL.ary
  have hS7 := hS4.grew hg7
  have hbm : bm < v4.heap.size := hS4.mp.lt
  have hsz : v4.heap.size ≤ Array.size (World.heap (v4.alloc (.cells #[.int .i64 64, .int .u64 z] 48))) := by simp
  clear hL hS4 hg7 LY g0 g1 g2 g3
  generalize Array.size (World.heap (World.alloc _ _)) = B0 at *
  obtain ⟨hB0, hB1, hB2⟩ : b < B0 ∧ bm < B0 ∧ w.heap.size ≤ B0 := by omega
  replace hsz := Lib.hid hsz
  have SQ := Lib.hid (fun W (hb : Below w7.heap.size w7 W) => show (W.cell? ⟨b, 0, none⟩ = some (.int .i64 4) ∧ W.cell? ⟨b, 1, none⟩ = some (.int .i64 1) ∧ W.cell? ⟨b, 2, none⟩ = some (.int .i64 1)) ∧ W.cell? ⟨bm, 3, none⟩ = some (.int .i64 64) from (hS7.grew hb).cells)
  have B3 : Below w7.heap.size w7 w7.drew := Quiet.below ⟨1, rfl⟩
  have KB := Lib.hid (fun (A C : World) (hb : Below A.heap.size A C) (h : Below w7.heap.size w7 A) => h.trans (hb.mono h.size))
  have KC := Lib.hid (fun (A C : World) (hb : Below A.heap.size A C) (h : Below w7.heap.size w7 A) => h.size)
  obtain ⟨⟨g0, g1, g2⟩, g3⟩ := hS7.cells
  have HA7 := Lib.hid hA7
  have HS7 := Lib.hid hS7
  clear hA7 hS7
  go_wp2_with fail
  go_region_held3 (fun W => ((W.cell? ⟨b, 0, none⟩ = some (.int .i64 4) ∧ W.cell? ⟨b, 1, none⟩ = some (.int .i64 1) ∧ W.cell? ⟨b, 2, none⟩ = some (.int .i64 1)) ∧ W.cell? ⟨bm, 3, none⟩ = some (.int .i64 64)) ∧ Below w7.heap.size w7 W)
    (first | (with_reducible exact ⟨SQ.out _ B3, B3⟩) | (with_reducible exact ⟨SQ.out _ hg9, hg9⟩) | (have hg := KB.out _ _ (by assumption) (And.right (by assumption)); exact ⟨SQ.out _ hg, hg⟩))
    (first
      | (go_at_call 16; refine (oplan_any 4 1 1 _).mono ?_; rintro e w8 ⟨rfl, hb8⟩)
      | (go_at_call 15; refine (NB.out _).mono ?_; rintro e w9 ⟨m, rfl, hM9, hm, hb9⟩; have hg9 := KB.out _ _ hb9 (And.right (by assumption)); have hg8 := KC.out _ _ hb9 (And.right (by assumption))))
  have hA9 := HA7.out.addsO (L := between w7.heap.size w9.heap.size) hg9 (fun b hb => mem_between.1 hb)
  have hS9 := HS7.out.grew hg9
  have hm9 := hM9.lt
  have hmK0 : m ∈ between w7.heap.size w9.heap.size := mem_between.2 ⟨Nat.le_trans hg8 hm, hm9⟩
  have hm0 : B0 ≤ m := Nat.le_trans HA7.out.bw (Nat.le_trans hg8 hm)
  clear HA7 HS7 SQ KB KC B3 NB hg9 hg8 hm hb9 g0 g1 g2 g3
  generalize between w7.heap.size w9.heap.size = K0 at *
  go_wp2_with fail
  refine (port_yes a 1 _ (by decide) (by decide)).mono ?_; rintro e w10 ⟨p, rfl, hP10, hp, hb10⟩
  have hA10 := hA9.addsO (L := [p]) hb10 (by simp; exact ⟨hp, hP10.lt⟩)
  have hS10 := hS9.grew hb10
  have hM10 := Blk.grew hM9 hb10
  have hmp : m ≠ p := by omega
  have hp0 : B0 ≤ p := by have := hA9.bw; omega
  obtain ⟨xs0, hX10⟩ := hA10
  have hU0 : BuS w10 B0 a c p m 64 H ((N : Int) + 1) C0 xs0 0 ([p] ++ (K0 ++ [d])) 1 false w10 := ⟨hM10, hX10, hP10, Touch.refl _ _⟩
  clear hA9 hS9 hM9 hP10 hp hb10 hM10 hX10
  have HS := Lib.hid hS10
  have hmK : m ∈ [p] ++ (K0 ++ [d]) := by simp [hmK0]
  have hpK : p ∈ [p] ++ (K0 ++ [d]) := by simp
  clear hS10 hmK0 hm9
  generalize [p] ++ (K0 ++ [d]) = K at *
  have G := Lib.hid (fun W left cs xs n o (h : BuS w10 B0 a c p m 64 H left cs xs n K 1 o W) => h.grant hmp hpK)
  have S1 := Lib.hid (fun W (j : Nat) cs xs n (h : BuS w10 B0 a c p m 64 H ((j : Int) + 1) cs xs n K 1 true W) (hj : 1 ≤ j) (hj2 : j ≤ 1000) (hn : n < 1000000) (hi : 64 + j < cs.length) => (bstep_more j h hj hj2 (by decide) hmp hmK hpK hn hi).mono (R' := fun e w' => e = .returned (.bool false) ∧ ∃ xs, BuS w10 B0 a c p m 64 H (j : Int) (cs.set (64 + j) 0) xs (n + 1) K 1 false w') fun _ _ ⟨he, h⟩ => ⟨he, _, h⟩)
  have S2 := Lib.hid (fun W cs xs n (h : BuS w10 B0 a c p m 64 H 1 cs xs n K 1 true W) (hn : n < 1000000) (hi : 64 < cs.length) => (bstep_last h hmp hmK hpK hn hi).mono (R' := fun e w' => e = .returned (.bool true) ∧ ∃ xs, BuS w10 B0 a c p m 64 H 0 (cs.set 64 H) xs (n + 1) K 1 false w') fun _ _ ⟨he, h⟩ => ⟨he, _, h⟩)
  replace hmp := Lib.hid hmp
  replace hB0 := Lib.hid hB0
  replace hB1 := Lib.hid hB1
  replace hB2 := Lib.hid hB2
  have hN1 : (N : Int) ≤ 255 := by omega
  have hN2 : (0 : Int) ≤ (N : Int) + 2 := by omega
  have hN3 : ¬ (N : Int) + 2 = 0 := by omega
  have hN4 : IntKind.u64.wrap ((N : Int) + 2) = (N : Int) + 2 := by rw [IntKind.wrap_u64]; omega
  go_upto_region 14 with fail
  first | rw [hQe.out.1] | rw [hQe.out.2]
  obtain ⟨hC1, hC2⟩ := HC.out
  have hU0' : BuS w10 B0 a c p m 64 H ((N + 1 - 0 : Nat) : Int) C0 xs0 0 K 1 false w10 := by rw [show ((N + 1 - 0 : Nat) : Int) = (N : Int) + 1 by omega]; exact hU0
  replace hC1 := Lib.hid hC1
  replace hC2 := Lib.hid hC2
  clear hU0 HC hN4 hN3 hN2 hNe hQe
  go_wp2_with fail
  go_loopw [16] (fun i wr => ∃ k : Nat, k ≤ Q ∧ i = .int .i64 k ∧ ∃ cs xs, Hid (cs.length = 320) ∧ Hid (k ≤ N → cs.getD 64 0 = z) ∧ BuS w10 B0 a c p m 64 H ((N + 1 - k : Nat) : Int) cs xs k K 1 false wr) (fun i _ => Q - (intOf i).toNat)
  case atStart => exact ⟨0, Nat.zero_le _, rfl, C0, xs0, hC1, Lib.hid (fun _ => hC2.out), hU0'⟩
  case round =>
    clear hU0' hC1 hC2
    obtain ⟨k, hk, rfl, cs, xs, hl, hg, hU⟩ := hrel
    by_cases hlt : k < Q
    · have hlt1 : (k : Int) < (Q : Int) := by omega
      have hk1 : (k : Int) ≤ 256 := by omega
      go_wp2_with fail
      refine (G.out _ _ _ _ _ _ hU).mono ?_; rintro e wa ⟨⟨u1, rfl⟩, h2⟩
      by_cases hkN : k = N
      · rw [show ((N + 1 - k : Nat) : Int) = 1 by omega] at h2
        go_wp2_with fail
        refine (S2.out _ _ _ _ h2 (by omega) (by rw [hl.out]; omega)).mono ?_; rintro e wb ⟨rfl, xs', h3⟩
        rw [show (0 : Int) = ((N + 1 - (k + 1) : Nat) : Int) by omega] at h3
        go_wp2
        go_roundw
        case rel => exact ⟨k + 1, by omega, by go_num, _, _, Lib.hid (by rw [List.length_set]; exact hl.out), Lib.hid (fun h => absurd h (by omega)), h3⟩
        case measure => simp [intOf]; omega
      · rw [show ((N + 1 - k : Nat) : Int) = ((N - k : Nat) : Int) + 1 by omega] at h2
        go_wp2_with fail
        refine (S1.out _ _ _ _ _ h2 (by omega) (by omega) (by omega) (by rw [hl.out]; omega)).mono ?_; rintro e wb ⟨rfl, xs', h3⟩
        rw [show ((N - k : Nat) : Int) = ((N + 1 - (k + 1) : Nat) : Int) by omega] at h3
        go_wp2
        go_roundw
        case rel =>
          refine ⟨k + 1, by omega, by go_num, _, _, Lib.hid (by rw [List.length_set]; exact hl.out), Lib.hid (fun h => ?_), h3⟩
          rw [List.getD_eq_getElem?_getD, List.getElem?_set_ne (by omega), ← List.getD_eq_getElem?_getD]
          exact hg.out (by omega)
        case measure => simp [intOf]; omega
    · obtain rfl : k = Q := by omega
      have hS := HS.out.touch hU.touch (fun b hb => by
        have h0 := hB0.out
        have h1 := hB1.out
        have h2 := hB2.out
        rcases hb with rfl | rfl | ⟨hb, _⟩ <;> exact ⟨by omega, by omega, by omega⟩)
      have hA : Ary wr B0 a c cs k K := ⟨_, hU.arx⟩
      have hM := hU.mach
      have PE := Lib.hid (apeek (i := 64) hA (by rw [hl.out]; omega) (by rw [hl.out]; omega))
      have hlt1 : ¬ (k : Int) < (k : Int) := by omega
      obtain ⟨_, g3⟩ := hS.cells
      clear hU G S1 S2 HS
      go_wp2_with fail
      refine PE.out.mono ?_; rintro e wx ⟨rfl, hqx⟩
      have hSx := hS.grew hqx.below
      have hMx := Blk.grew hM hqx.below
      clear hS hM hA PE g3 hqx
      have OV := Lib.hid (bover_any hMx)
      by_cases hkN : k ≤ N
      · have h0 : (((N + 1 - k : Nat) : Int) == 0) = false := by simp; omega
        have h1 : ¬ (k : Int) = (N : Int) + 1 := by omega
        have h2 : (k : Int) ≤ (N : Int) := by omega
        rw [hg.out hkN]
        rw [h0] at OV
        go_wp2_with fail
        refine OV.out.mono ?_; rintro e wf ⟨rfl, hqf⟩
        have hBf := (hSx.grew hqf.below).bel
        go_wp2
        go_ret
        exact ⟨rfl, hBf⟩
      · have h0 : (((N + 1 - k : Nat) : Int) == 0) = true := by simp; omega
        have h1 : (k : Int) = (N : Int) + 1 := by omega
        have h2 : ¬ (k : Int) ≤ (N : Int) := by omega
        rw [h0] at OV
        go_wp2_with fail
        refine OV.out.mono ?_; rintro e wf ⟨rfl, hqf⟩
        have hBf := (hSx.grew hqf.below).bel
        go_wp2
        go_ret
        exact ⟨rfl, hBf⟩
end Go.Proofs.YtichmgilglaglaaDoor
