/- ShadeOne: the law, walked. Conditions: the numbers fit their kinds, the row of steps is there. -/
import Derived.Deep.CutRange
import Derived.Deep.RegionHeld3
import Derived.Test.YtlhigibgjggidaaGShadeKept17
namespace Go.Proofs.Ytlhigibgjggidaa
open Go.RowKit
set_option linter.unusedVariables false
theorem six_one {w : World} {b : Nat} {v0 v1 v2 v3 v4 v5 : Value} {t : TypeId} (h : Blk w b #[v0, v1, v2, v3, v4, v5] t) :
    w.cell? ⟨b, 0, none⟩ = some v0 ∧ w.cell? ⟨b, 1, none⟩ = some v1 ∧ w.cell? ⟨b, 2, none⟩ = some v2 ∧ w.cell? ⟨b, 3, none⟩ = some v3 ∧ w.cell? ⟨b, 4, none⟩ = some v4 ∧ w.cell? ⟨b, 5, none⟩ = some v5 := h.six.1
theorem scell_one_newN (w : World) (x : Value) (t : TypeId) (n : Nat) (hn : w.heap.size = n) : ∀ j u, [x][j]? = some u → (w.alloc (.cells #[x] t)).cell? ((⟨n, 0, none⟩ : Addr).add j) = some u := by
  subst hn
  exact cell_one_new w x t
theorem or1_ok {x : Int} (hx : U64 x) : U64 (bits .or .u64 x 1) ∧ bits .or .u64 x 1 ≠ 0 := by
  obtain ⟨x0, x1⟩ := hx
  obtain ⟨X, rfl⟩ := Int.eq_ofNat_of_zero_le x0
  have e := bits_or_u64_nat X 1 (by omega) (by decide)
  rw [show ((1 : Nat) : Int) = 1 from rfl] at e
  rw [e]
  have h1 : X ||| 1 < 2 ^ 64 := Nat.or_lt_two_pow (by omega) (by decide)
  have h2 : 1 ≤ X ||| 1 := Nat.right_le_or
  exact ⟨⟨by omega, by omega⟩, by omega⟩
set_option maxRecDepth 100000 in
set_option maxHeartbeats 16000000 in
theorem sone_walk (P0 T0 R0 rf0 : Int) (aa : Option Addr) (n0 c0 : Nat) (F : Nat → Int) (set : Bool) (w : World) (hu0 : U64 rf0) (hmx : n0 ≤ maxLen)
    (hc : Hid (∀ i, i < n0 → ∃ b o, aa = some ⟨b, o, none⟩ ∧ b < w.heap.size ∧ w.cell? ⟨b, o + i, none⟩ = some (.int .i64 (F i)))) :
    Calls Try.prog 4 #[.agg #[.int .i64 P0, .int .i64 T0, .int .i64 R0, .int .u64 rf0, .slice aa n0 c0, .bool set]] w fun e w' => e = .returned (.bool true) ∧ Below w.heap.size w w' := by
  unfold maxLen at hmx
  obtain ⟨hR0, hP3', hT4, hR3'⟩ := ssmall_right P0 T0 R0
  have SM := Lib.hid (fun W => ssmall_any P0 T0 R0 W)
  generalize ssI P0 3 = P at *
  generalize ssI R0 3 = R at *
  obtain ⟨T, hTe⟩ := Int.eq_ofNat_of_zero_le (show 0 ≤ ssI T0 4 by have := hR0.2.1; omega)
  rw [hTe] at SM hR0 hT4
  clear hTe
  obtain ⟨rg, hrg⟩ : ∃ rg, srefI P (T : Int) R (bits .or .u64 rf0 1) = rg := ⟨_, rfl⟩
  obtain ⟨hor1, hor2⟩ := or1_ok hu0
  have hsr := sref_ok hR0 hor1
  rw [hrg] at hsr
  have RFS := Lib.hid (fun W => srefers_any P (T : Int) R (bits .or .u64 rf0 1) W hR0 hor1)
  rw [hrg] at RFS
  obtain ⟨hru, -, hsr⟩ := hsr
  obtain ⟨hr0, hrf⟩ := hsr hor2
  clear hrg hor1 hor2 hu0
  have LAY := Lib.hid (fun W => slay_yes P (T : Int) R 1 W hR0 (by decide) (by decide))
  unfold LayPost at LAY
  have DR := Lib.hid (fun W => draw_yes P (T : Int) R W hR0)
  have HP := Lib.hid (fun W => sheap_yes P (T : Int) R rg W hrf)
  have hb := ref_bd hrf
  have hpg : 0 ≤ pgI P (T : Int) R rg ∧ pgI P (T : Int) R rg < P := by unfold pgI; omega
  have hwd : 0 ≤ wdI P (T : Int) R rg ∧ wdI P (T : Int) R rg < 64 := by unfold wdI; omega
  have MKC := Lib.hid (fun W => smark_yes P (T : Int) R (pgI P (T : Int) R rg) W hR0 hpg.1 hpg.2)
  have NS := Lib.hid (fun W (t : Nat) (ht : (t : Int) < (T : Int)) => newshade_yes P (T : Int) R (t : Int) rg W (exB_mk hR0 (by omega) ht) hru hr0 hrf)
  have HRF := Lib.hid (And.intro hR0 (And.intro hru (And.intro hr0 hrf)))
  have HWD := Lib.hid hwd
  clear hpg hru hr0 hrf hb
  go_enter Try.func4, Try.ntmps4
  go_upto_region 1 with fail
  have hX : Blk (w.alloc (.cells #[.int .i64 P0, .int .i64 T0, .int .i64 R0, .int .u64 rf0, .slice aa n0 c0, .bool set] 72)) w.heap.size #[.int .i64 P0, .int .i64 T0, .int .i64 R0, .int .u64 rf0, .slice aa n0 c0, .bool set] 72 := Blk.new _ _ _
  have hB : Below w.heap.size w (w.alloc (.cells #[.int .i64 P0, .int .i64 T0, .int .i64 R0, .int .u64 rf0, .slice aa n0 c0, .bool set] 72)) := (Below.refl _ _).alloc (Nat.le_refl _) _
  generalize w.alloc (.cells #[.int .i64 P0, .int .i64 T0, .int .i64 R0, .int .u64 rf0, .slice aa n0 c0, .bool set] 72) = W at *
  have hlt := hX.lt
  go_cut [3, 4, 5, 6] from 21 to 28 (fun s3 s4 s5 s6 wx => s4 = .int .u64 rf0 ∧ s5 = .slice aa n0 c0 ∧ s6 = .bool set ∧ ∃ P3, s3 = .pointer (some ⟨P3, 0, none⟩) ∧ Blk wx P3 #[.int .i64 P0, .int .i64 T0, .int .i64 R0] 23 ∧ w.heap.size ≤ P3 ∧ Below w.heap.size w wx)
  case first =>
    obtain ⟨x0, x1, x2, x3, x4, x5⟩ := six_one hX
    go_region_held3 (fun w' => w'.cell? ⟨w.heap.size, 0, none⟩ = some (.int .i64 P0) ∧ w'.cell? ⟨w.heap.size, 1, none⟩ = some (.int .i64 T0) ∧ w'.cell? ⟨w.heap.size, 2, none⟩ = some (.int .i64 R0) ∧ w'.cell? ⟨w.heap.size, 3, none⟩ = some (.int .u64 rf0) ∧ w'.cell? ⟨w.heap.size, 4, none⟩ = some (.slice aa n0 c0) ∧ w'.cell? ⟨w.heap.size, 5, none⟩ = some (.bool set))
      (first | (with_reducible exact ⟨by assumption, by assumption, by assumption, by assumption, by assumption, by assumption⟩) | (refine six_one (t := 72) ?_; repeat (first | (with_reducible exact hX) | (with_reducible refine Blk.alloc ?_ _) | (with_reducible refine Blk.drew ?_) | ((with_reducible refine Blk.other ?_ _ _ ?_); rotate_left 1; (simp; omega)))))
      (fail)
    all_goals
      go_wp2
      go_meet
      case rel =>
        refine ⟨rfl, rfl, rfl, _, rfl, ?_, ?_, ?_⟩
        all_goals repeat' (first | exact hB | (refine Blk.new' ?_; simp; done) | refine Blk.drew ?_ | refine Blk.alloc ?_ _ | refine Quiet.below' ?_ | refine Below.alloc ?_ ?_ _ | exact hB.size | (simp; done) | (simp; omega))
  clear hX hB hlt
  obtain ⟨rfl, rfl, rfl, qb, rfl, hQ, hqb, hB⟩ := hcut
  go_wp2_with fail
  refine (shaded_any _).mono ?_; rintro e w2 ⟨rfl, hb2⟩
  have hQ2 := Blk.grew hQ hb2
  have hB2 := hB.trans (hb2.mono hB.size)
  obtain ⟨⟨x0, x1, x2⟩, _⟩ := hQ2.three
  clear hQ hB hb2
  go_wp2_with fail
  refine (SM.out _).mono ?_; rintro e w3 ⟨rfl, hb3⟩
  have hQ3 := Blk.grew hQ2 hb3
  have hB3 := hB2.trans (hb3.mono hB2.size)
  obtain ⟨⟨y0, y1, y2⟩, z0, z1, z2⟩ := hQ3.three
  clear hQ2 hB2 hb3 x0 x1 x2 SM
  have hQ4 : Blk (((w3.setCell ⟨qb, 0, none⟩ (.int .i64 P)).setCell ⟨qb, 1, none⟩ (.int .i64 (T : Int))).setCell ⟨qb, 2, none⟩ (.int .i64 R)) qb #[.int .i64 P, .int .i64 (T : Int), .int .i64 R] 23 := ((hQ3.set 0 (.int .i64 P)).set 1 (.int .i64 (T : Int))).set 2 (.int .i64 R)
  have hB4 := ((hB3.setCell (p := ⟨qb, 0, none⟩) hqb (.int .i64 P)).setCell (p := ⟨qb, 1, none⟩) hqb (.int .i64 (T : Int))).setCell (p := ⟨qb, 2, none⟩) hqb (.int .i64 R)
  obtain ⟨g0, g1, g2⟩ := hQ4.three.1
  clear hQ3 hB3
  go_wp2_with fail
  clear y0 y1 y2 z0 z1 z2
  generalize World.setCell (World.setCell (World.setCell w3 _ _) _ _) _ _ = w4 at *
  refine (LAY.out _).mono ?_; rintro e w5 ⟨a, c, p, rfl, hX5, hP5, hp5, hb5⟩
  have hQ5 := Blk.grew hQ4 hb5
  have hB5 := hB4.trans (hb5.mono hB4.size)
  have lq4 := hQ4.lt
  have ls4 := hB4.size
  obtain ⟨k0, k1, k2⟩ := hQ5.three.1
  clear hQ4 hB4 hb5 g0 g1 g2 LAY
  go_wp2_with fail
  refine (DR.out _).mono ?_; rintro e w6 ⟨rfl, hb6⟩
  have hQ6 := Blk.grew hQ5 hb6
  have hB6 := hB5.trans (hb6.mono hB5.size)
  have hX6 := hX5.grew hb6
  have hP6 := Blk.grew hP5 hb6
  clear hQ5 hB5 hb6 hX5 hP5 k0 k1 k2 DR
  unfold mapV at RFS HP MKC ⊢
  have hD7 : Blk (w6.alloc (.cells #[.int .i64 P, .int .i64 (T : Int), .int .i64 R, .int .i64 (baseI P (T : Int) R), .int .i64 (tabI (T : Int) R), .int .i64 (baseI P (T : Int) R + 64 * P)] 38)) w6.heap.size #[.int .i64 P, .int .i64 (T : Int), .int .i64 R, .int .i64 (baseI P (T : Int) R), .int .i64 (tabI (T : Int) R), .int .i64 (baseI P (T : Int) R + 64 * P)] 38 := Blk.new _ _ _
  have hX7 := hX6.add ((Below.refl w6.heap.size w6).alloc (Nat.le_refl _) (.cells #[.int .i64 P, .int .i64 (T : Int), .int .i64 R, .int .i64 (baseI P (T : Int) R), .int .i64 (tabI (T : Int) R), .int .i64 (baseI P (T : Int) R + 64 * P)] 38)) (Nat.le_refl _) hD7.lt
  have hQ7 := hQ6.alloc (.cells #[.int .i64 P, .int .i64 (T : Int), .int .i64 R, .int .i64 (baseI P (T : Int) R), .int .i64 (tabI (T : Int) R), .int .i64 (baseI P (T : Int) R + 64 * P)] 38)
  have hP7 := Blk.alloc hP6 (.cells #[.int .i64 P, .int .i64 (T : Int), .int .i64 R, .int .i64 (baseI P (T : Int) R), .int .i64 (tabI (T : Int) R), .int .i64 (baseI P (T : Int) R + 64 * P)] 38)
  have hB7 := hB6.alloc hB6.size (.cells #[.int .i64 P, .int .i64 (T : Int), .int .i64 R, .int .i64 (baseI P (T : Int) R), .int .i64 (tabI (T : Int) R), .int .i64 (baseI P (T : Int) R + 64 * P)] 38)
  obtain ⟨d0, d1, d2, d3, d4, d5⟩ := hD7.six.1
  have lp6 := Blk.lt hP6
  have la6 := hX6.a_lt
  clear hQ6 hX6 hP6 hB6
  have hO : OnS w w4.heap.size a c p qb w6.heap.size P (T : Int) R (List.replicate (cellsN P (T : Int) R) 0) (w6.alloc (.cells #[.int .i64 P, .int .i64 (T : Int), .int .i64 R, .int .i64 (baseI P (T : Int) R), .int .i64 (tabI (T : Int) R), .int .i64 (baseI P (T : Int) R + 64 * P)] 38)) := ⟨hQ7, hD7, hX7, hP7, hB7, lq4, ls4, hp5⟩
  clear hQ7 hD7 hX7 hP7 hB7 lp6 la6 lq4 ls4 hp5
  have hCO := CsO.zero (P := P) (T := (T : Int)) (R := R)
  have hcl := cellsN_bd HRF.out.1
  have hll : (List.replicate (cellsN P (T : Int) R) (0 : Int)).length = cellsN P (T : Int) R := by simp
  go_upto_region 9 with fail
  generalize w6.alloc (.cells #[.int .i64 P, .int .i64 (T : Int), .int .i64 R, .int .i64 (baseI P (T : Int) R), .int .i64 (tabI (T : Int) R), .int .i64 (baseI P (T : Int) R + 64 * P)] 38) = w7 at *
  generalize w6.heap.size = db at *
  generalize w4.heap.size = B at *
  obtain ⟨cs0, hcs0⟩ : ∃ cs0, List.replicate (cellsN P (T : Int) R) (0 : Int) = cs0 := ⟨_, rfl⟩
  have hcs0 := Lib.hid hcs0
  rw [hcs0.out] at hO hll
  have hcl := Lib.hid hcl
  have hCO := Lib.hid hCO
  have hrw : wrap64 rg = rg := IntWalk.wrap64_in _ (by have := ref_bd HRF.out.2.2.2; have := HRF.out.2.1.1; exact ⟨by omega, by omega⟩)
  go_wp2_with fail
  refine (RFS.out _).mono ?_; rintro e w8 ⟨rfl, hb8⟩
  have hO8 := hO.grew hb8
  clear hO hb8 RFS d0 d1 d2 d3 d4 d5
  obtain ⟨d0, d1, d2, d3, d4, d5⟩ := hO8.six
  go_wp2_with fail
  refine (HP.out _).mono ?_; rintro e w9 ⟨rfl, hb9⟩
  have hO9 := hO8.grew hb9
  clear hO8 hb9 HP d0 d1 d2 d3 d4 d5 hrw
  have hce : ∃ ce : Nat, cellI P (T : Int) R rg = (ce : Int) ∧ tabI (T : Int) R ≤ (ce : Int) ∧ ce < cellsN P (T : Int) R := by
    obtain ⟨hR, x1, x2, x3⟩ := ref_bd HRF.out.2.2.2
    have hb := base_bd hR
    have hp := hR.1
    have px : 0 ≤ pgI P (T : Int) R rg ∧ pgI P (T : Int) R rg ≤ P - 1 := by unfold pgI; omega
    have hy : 16 ≤ tabI (T : Int) R := by unfold tabI; have := hR.2.1; have := hR.2.2; have := Int.mul_nonneg (show 0 ≤ (T : Int) by omega) (show 0 ≤ 5 + R by omega); omega
    have e : cellI P (T : Int) R rg = tabI (T : Int) R + 2 * P + pgI P (T : Int) R rg := by
      unfold cellI rowI inB
      rw [of_right hR, Bool.true_and, if_pos (decide_eq_true px)]
    have hl := hcl.out.1
    exact ⟨(cellI P (T : Int) R rg).toNat, by omega, by omega, by omega⟩
  obtain ⟨ce, hce, htab, hcel⟩ := hce
  have hce := Lib.hid hce
  have htab := Lib.hid htab
  have hcel := Lib.hid hcel
  have hBI : Hid (IntKind.u64.wrap (2 ^ (wdI P (T : Int) R rg).toNat) = bitI P (T : Int) R rg) := Lib.hid rfl
  go_upto_if 11 with fail
  go_cut [64] from 54 to 63 (fun s64 wx => s64 = .bool false ∧ ∃ cs, OnS w B a c p qb db P (T : Int) R cs wx ∧ Hid (CsO P (T : Int) R ce (bitI P (T : Int) R rg) set (fun _ => 0) cs))
  case first =>
    obtain ⟨d0, d1, d2, d3, d4, d5⟩ := hO9.six
    have MK2 := Lib.hid (fun W (h : OnS w B a c p qb db P (T : Int) R cs0 W) => (MKC.out W).mono (R' := fun e w' => e = .returned (.int .i64 (ce : Int)) ∧ OnS w B a c p qb db P (T : Int) R cs0 w') fun e w' ⟨he, hb⟩ => ⟨by rw [he]; exact congrArg (fun x => Ending.returned (Value.int IntKind.i64 x)) hce.out, h.grew hb⟩)
    have PK2 := Lib.hid (fun W v (h : OnS w B a c p qb db P (T : Int) R cs0 W) => h.poke ce v (by rw [hll]; exact hcel.out) (by rw [hll]; have := hcl.out.2.2; omega))
    clear MKC
    cases set with
    | false =>
      go_quiet (fail)
      go_wp2
      go_meet
      case rel => exact ⟨rfl, cs0, hO9.grew (Quiet.below ⟨_, rfl⟩), Lib.hid (by rw [← hcs0.out]; exact hCO.out _ _)⟩
    | true =>
      generalize pgI P (T : Int) R rg = pg at *
      generalize wdI P (T : Int) R rg = wd at *
      obtain ⟨wd0, wd1⟩ := hwd
      have hO10 := hO9.drew
      clear d0 d1 d2 d3 d4 d5
      generalize hbs : baseI P (T : Int) R = bs at *
      generalize hts : tabI (T : Int) R = ts at *
      go_region_held3 (fun W => W.cell? ⟨db, 0, none⟩ = some (.int .i64 P) ∧ W.cell? ⟨db, 1, none⟩ = some (.int .i64 (T : Int)) ∧ W.cell? ⟨db, 2, none⟩ = some (.int .i64 R) ∧ W.cell? ⟨db, 3, none⟩ = some (.int .i64 bs) ∧ W.cell? ⟨db, 4, none⟩ = some (.int .i64 ts) ∧ W.cell? ⟨db, 5, none⟩ = some (.int .i64 (bs + 64 * P))) ((rw [← hbs, ← hts]; with_reducible exact OnS.six (by assumption))) (first | (go_at_call 23; refine (MK2.out _ (by assumption)).mono ?_; rintro e w10 ⟨rfl, h10⟩) | (go_at_call 22; refine (PK2.out _ _ (by assumption)).mono ?_; rintro e w11 ⟨rfl, h11⟩))
      rw [hBI.out] at h11
      go_wp2
      go_meet
      case rel => exact ⟨rfl, _, h11, Lib.hid (by rw [← hcs0.out]; exact (hCO.out _ _).poked HRF.out.1.2.2.1 (by rw [hts]; exact htab.out) hcel.out)⟩
  obtain ⟨rfl, cs1, hO1, hC1⟩ := hcut
  clear hO9 hcs0 hll hCO hBI MKC hwd HWD
  obtain ⟨WA, hWA⟩ : ∃ W, W = wc := ⟨_, rfl⟩
  subst hWA
  obtain ⟨p0, pi, pz0, pz1, pz2⟩ := info_parts info_ps
  have ZP := Lib.hid (And.intro pi (And.intro pz0 (And.intro pz1 pz2)))
  clear pi pz0 pz1 pz2
  have HM := Lib.hid (MkM.start WA P (T : Int) R rg ce (bitI P (T : Int) R rg))
  have hO1 := Lib.hid hO1
  go_wp2_with fail
  go_loopw [13, 14] (fun u i wr => ∃ (k : Nat) (bs bm bu : Nat → Nat), k ≤ T ∧ i = .int .i64 k ∧ Hid (MkM WA P (T : Int) R rg ce (bitI P (T : Int) R rg) k bs bm bu u wr)) (fun _ i _ => T - (intOf i).toNat)
  case atStart => exact ⟨0, _, _, _, Nat.zero_le _, rfl, HM⟩
  case round =>
    obtain ⟨k, bs, bm, bu, hk, rfl, hM⟩ := hrel
    clear HM
    have hOr := hO1.out.grew hM.out.bel
    obtain ⟨q0, q1, q2⟩ := hOr.q.three.1
    by_cases hkT : k < T
    · have hkT' : (k : Int) < (T : Int) := by omega
      have hk0 : (0 : Int) ≤ (k : Int) := by omega
      have hk9 : (k : Int) < 1000 := by omega
      have NSk := Lib.hid (fun W => NS.out W k hkT')
      go_wp2_with fail
      refine (splan_any _ _ _ _).mono ?_; rintro e w2 ⟨rfl, hb2⟩
      have hM2 := hM.out.grew hb2
      clear q0 q1 q2
      go_wp2_with fail
      refine (NSk.out _).mono ?_; rintro e w3 ⟨s, mk, pu, rfl, hS3, hM3, hU3, l1, l2, l3, hb3⟩
      rw [hce.out] at hM3
      have hz2 := hM2.bel.size
      have hr3 := own_grew hM2.row hb3
      have hz3 := hb3.size
      go_wp2_with (at_builtin; refine wpList_append_lies _ rfl _ _ 77 rfl WA.heap.size 45 p0 (.pointer none) 1 8 Try.underlying77 ZP.out.1 ZP.out.2.1 ZP.out.2.2.1 ZP.out.2.2.2 rfl (by decide) _ _ _ rfl (hr3.alloc _) ⟨w3.heap.size, 0, none⟩ 1 1 [.pointer (some ⟨s, 0, none⟩)] rfl rfl (cell_one_new _ _ _) (by simp [Value.oneCell']) (by decide) (by unfold maxLen; omega) (by omega) (by simp; omega) (w3.heap.size + 1) (by simp) ?_; intro g5 cap5 w5 hown5 hgrow5 hat5 hlt5)
      have hN := hM2.more (hb3.alloc hb3.size _) (Blk.alloc hS3 _) (Blk.alloc hM3 _) (Blk.alloc hU3 _) l1 l2 l3 hgrow5 hown5
      have hN := Lib.hid hN
      clear hM hM2 hS3 hM3 hU3 hb2 hb3 hgrow5 hown5 hr3 hOr NSk
      go_wp2
      go_roundw
      case rel => exact ⟨k + 1, _, _, _, by omega, by go_num, hN⟩
      case measure => simp [intOf]; omega
    · obtain rfl : k = T := by omega
      have hT0 : 0 < k := by have := HRF.out.1.2.1; omega
      obtain ⟨g, cap, rfl, hg1, hg2, -⟩ := own_formS hM.out.row hT0
      obtain ⟨K, hD, hX, hgK, hdK, hgn, hg3, hg4, hrow⟩ := hM.out.done rfl HRF.out.1 ⟨_, hO1.out.arx⟩ hO1.out.port hC1.out htab.out hcel.out
      have hKP := Lib.hid (fun st N o W (h : SmX wr B a c p P (k : Int) R rg ce (bitI P (k : Int) R rg) K bs bm bu set st N o W) => h.keeps hO1.out hM.out.bel hgK hdK hgn hg3 hg4 hrow)
      have hX := Lib.hid hX
      have hD := Lib.hid hD
      have HBT := Lib.hid (BitO.of HRF.out.2.2.2)
      clear hM hO1 hrow hgn hOr NS hC1
      obtain ⟨WL, hWL⟩ : ∃ W, W = wr := ⟨_, rfl⟩
      subst hWL
      have hkk : ¬ (k : Int) < (k : Int) := by omega
      have hkw : IntKind.u64.wrap (k : Int) = (k : Int) := by rw [IntKind.wrap_u64]; omega
      have hk0' : ¬ (k : Int) = 0 := by omega
      have hkn : (0 : Int) ≤ (k : Int) := by omega
      go_wp2_with fail
      clear q0 q1 q2 hkk
      go_loopw [17] (fun i2 wr => ∃ (i : Nat) (st : Nat → Nat) (o : Bool), (i ≤ n0 ∧ i ≤ 60) ∧ i2 = .int .i64 i ∧ Hid (SmX WL B a c p P (k : Int) R rg ce (bitI P (k : Int) R rg) K bs bm bu set st i o wr)) (fun i2 _ => 60 - (intOf i2).toNat)
      case atStart => exact ⟨0, _, _, ⟨by omega, by omega⟩, rfl, hX⟩
      case round =>
        obtain ⟨i, st, o, ⟨hi1, hi2⟩, rfl, hS⟩ := hrel
        clear hX
        have hi0 : (0 : Int) ≤ (i : Int) := by omega
        have hi9 : (i : Int) < 1000 := by omega
        by_cases a1 : i < n0
        · have hin1 := a1
          by_cases a2 : i < 60
          · have hin2 := a2
            have a2' : (i : Int) < 60 := by omega
            obtain ⟨b, off, rfl, hbb, hcell⟩ := hc.out i hin1
            obtain ⟨t, hmt, htk⟩ := smod_T (F i) k hT0 (by omega)
            have htk' : (t : Int) < (k : Int) := by omega
            have ht0 : (0 : Int) ≤ (t : Int) := by omega
            have hin1' : (i : Int) < (n0 : Int) := by omega
            generalize F i = fi at *
            go_wp2_with fail
            refine (hS.out.grant hD.out).mono ?_; rintro e w2 ⟨⟨u2, rfl⟩, hS2⟩
            have hK2 := hKP.out _ _ _ _ hS2
            have hcell2 := (hK2.bel.cell (p := ⟨b, off + i, none⟩) hbb).trans hcell
            have hrow2 := hK2.row t htk'
            have HS2 := Lib.hid hS2
            clear hS hS2 hK2 hcell
            go_wp2_with fail
            refine (SmX.step HS2.out hD.out HBT.out (by clear hmt; omega) htk').mono ?_; rintro e w3 ⟨s', rfl, hnx, o', hS3⟩
            have hS3 := Lib.hid hS3
            clear hcell2 hrow2 hmt HS2 hnx
            go_wp2
            go_roundw
            case rel => exact ⟨i + 1, _, o', ⟨by omega, by omega⟩, by go_num, hS3⟩
            case measure => simp [intOf]; omega
          · have a1' : (i : Int) < (n0 : Int) := by omega
            have a2' : ¬ (i : Int) < 60 := by omega
            have hS0 := Lib.hid (hS.out.mono (N' := 60 + 6 * 0) (by omega))
            clear hS
            go_wp2_with fail
            obtain ⟨st0, hst0⟩ : ∃ s, s = st := ⟨_, rfl⟩
            subst hst0
            go_loopw [18, 19] (fun f t wr => ∃ (t' : Nat) (st : Nat → Nat) (o : Bool), t' ≤ k ∧ f = .int .i64 ((cntF st t' : Nat) : Int) ∧ t = .int .i64 (t' : Int) ∧ Hid ((∀ j, j < t' → st j = 5 ∨ st j = 6) ∧ SmX WL B a c p P (k : Int) R rg ce (bitI P (k : Int) R rg) K bs bm bu set st (60 + 6 * t') o wr)) (fun _ t _ => k - (intOf t).toNat)
            case atStart => exact ⟨0, _, _, Nat.zero_le _, rfl, rfl, Lib.hid ⟨fun j hj => absurd hj (Nat.not_lt_zero _), hS0.out⟩⟩
            case round =>
              obtain ⟨t, st, o, ht, rfl, rfl, hS⟩ := hrel
              clear hS0
              have htn : (0 : Int) ≤ (t : Int) := by omega
              by_cases htk : t < k
              · have htk' : (t : Int) < (k : Int) := by omega
                have hr1 := (hKP.out _ _ _ _ hS.out.2).row t htk'
                go_wp2_with fail
                refine (SmX.finish hS.out.2 hD.out HBT.out (by omega) htk').mono ?_; rintro e w2 ⟨m, s', rfl, hm0, hs', o', hS2⟩
                have hmz : (m == 0) = false := beq_eq_false_iff_ne.2 hm0
                have hr2 := (hKP.out _ _ _ _ hS2).row t htk'
                have hcl := cntF_le st t
                have hcu := cntF_upd st t s' t (Nat.le_refl t)
                have hold := Lib.hid hS.out.1
                have hc1 : cntF (updS st t s') (t + 1) = cntF st t + (if s' = 5 then 1 else 0) := by
                  show cntF (updS st t s') t + (if updS st t s' t = 5 then 1 else 0) = _
                  rw [hcu, updS_eq]
                clear hS hr1 hcu hm0
                rcases hs' with rfl | rfl
                · have FR := Lib.hid ((hS2.fresh htk').mono (R' := fun e w' => e = .returned (.bool true) ∧ SmX WL B a c p P (k : Int) R rg ce (bitI P (k : Int) R rg) K bs bm bu set (updS st t 5) (60 + 6 * t + 6) o' w') fun e w' ⟨he, h⟩ => ⟨by rw [he, updS_eq]; rfl, h⟩)
                  rw [if_pos rfl] at hc1
                  generalize cntF st t = q at *
                  have hq0 : (0 : Int) ≤ (q : Int) := by omega
                  have hq1 : (q : Int) < 1000 := by omega
                  clear hS2
                  go_wp2_with fail
                  refine FR.out.mono ?_; rintro e w3 ⟨rfl, hS3⟩
                  have hN : Hid ((∀ j, j < t + 1 → updS st t 5 j = 5 ∨ updS st t 5 j = 6) ∧ SmX WL B a c p P (k : Int) R rg ce (bitI P (k : Int) R rg) K bs bm bu set (updS st t 5) (60 + 6 * (t + 1)) o' w3) := by
                    refine Lib.hid ⟨fun j hj => ?_, hS3⟩
                    by_cases e : j = t
                    · subst e; rw [updS_eq]; exact .inl rfl
                    · rw [updS_ne e]; exact hold.out j (by omega)
                  have hc1 := Lib.hid hc1
                  clear FR hS3 hr2
                  go_wp2
                  go_roundw
                  case rel => exact ⟨t + 1, updS st t 5, o', by omega, by rw [hc1.out]; go_num, by go_num, hN⟩
                  case measure => simp [intOf]; omega
                · have FR := Lib.hid ((hS2.fresh htk').mono (R' := fun e w' => e = .returned (.bool false) ∧ SmX WL B a c p P (k : Int) R rg ce (bitI P (k : Int) R rg) K bs bm bu set (updS st t 6) (60 + 6 * t + 6) o' w') fun e w' ⟨he, h⟩ => ⟨by rw [he, updS_eq]; rfl, h⟩)
                  rw [if_neg (by decide)] at hc1
                  generalize cntF st t = q at *
                  have hq0 : (0 : Int) ≤ (q : Int) := by omega
                  have hq1 : (q : Int) < 1000 := by omega
                  clear hS2
                  go_wp2_with fail
                  refine FR.out.mono ?_; rintro e w3 ⟨rfl, hS3⟩
                  have hN : Hid ((∀ j, j < t + 1 → updS st t 6 j = 5 ∨ updS st t 6 j = 6) ∧ SmX WL B a c p P (k : Int) R rg ce (bitI P (k : Int) R rg) K bs bm bu set (updS st t 6) (60 + 6 * (t + 1)) o' w3) := by
                    refine Lib.hid ⟨fun j hj => ?_, hS3⟩
                    by_cases e : j = t
                    · subst e; rw [updS_eq]; exact .inr rfl
                    · rw [updS_ne e]; exact hold.out j (by omega)
                  have hc1 := Lib.hid hc1
                  clear FR hS3 hr2
                  go_wp2
                  go_roundw
                  case rel => exact ⟨t + 1, updS st t 6, o', by omega, by rw [hc1.out]; go_num, by go_num, hN⟩
                  case measure => simp [intOf]; omega
              · obtain rfl : t = k := by omega
                obtain ⟨hcn, hMk⟩ := SmX.over hS.out.2 rfl hT0 hS.out.1 HRF.out.2.2.2 hce.out htab.out
                have hMk := Lib.hid hMk
                have hK4 := hKP.out _ _ _ _ hS.out.2
                have hK4 := Lib.hid hK4
                obtain ⟨WM, hWM⟩ : ∃ W, W = wr := ⟨_, rfl⟩
                subst hWM
                clear hS
                have htt : ¬ (t : Int) < (t : Int) := by omega
                obtain ⟨d0, d1, d2, d3, d4, d5⟩ := hK4.out.d.six.1
                have hbd := base_bd HRF.out.1
                have hPb := HRF.out.1.1
                have hBD : 64 ≤ baseI P (t : Int) R ∧ baseI P (t : Int) R + 64 * P ≤ 2304 ∧ baseI P (t : Int) R ≤ baseI P (t : Int) R + 64 * P := by omega
                have hRB := Lib.hid (fun x (h1 : baseI P (t : Int) R ≤ x) (h2 : x < baseI P (t : Int) R + 64 * P) => refB_of HRF.out.1 h1 h2)
                generalize hbsE : baseI P (t : Int) R = bs' at *
                replace hbsE := Lib.hid hbsE
                generalize hzc : bs' + 64 * P = zc at *
                replace hzc := Lib.hid hzc
                clear hbd hPb
                obtain ⟨fr, hfr⟩ : ∃ fr : Nat, cntF st t = fr := ⟨_, rfl⟩
                rw [hfr] at hcn ⊢
                replace hcn := Lib.hid hcn
                clear hfr
                go_wp2_with fail
                clear d0 d1 d2 d3 d4 d5
                go_loopw [20] (fun x wr => ∃ y : Int, (bs' ≤ y ∧ y ≤ zc) ∧ x = .int .i64 y ∧ Hid (Below WM.heap.size WM wr)) (fun x _ => (zc - intOf x).toNat)
                case atStart => exact ⟨bs', ⟨Int.le_refl _, by omega⟩, rfl, Lib.hid (Below.refl _ _)⟩
                case round =>
                  obtain ⟨y, ⟨hy1, hy2⟩, rfl, hBm⟩ := hrel
                  have hKr := hK4.out.grew hBm.out
                  obtain ⟨d0, d1, d2, d3, d4, d5⟩ := hKr.d.six.1
                  rw [hbsE.out, hzc.out] at d5
                  rw [hbsE.out] at d3
                  by_cases hyz : y < zc
                  · have hyw : IntKind.u64.wrap y = y := by rw [IntKind.wrap_u64]; omega
                    obtain ⟨q0, q1, q2⟩ := hKr.q.three.1
                    go_wp2_with fail
                    refine (splan_any _ _ _ _).mono ?_; rintro e w2 ⟨rfl, hb2⟩
                    go_wp2_with fail
                    refine (hMk.out y _ (hRB.out y hy1 hyz) ⟨by omega, by omega⟩ (hBm.out.trans (hb2.mono hBm.out.size))).mono ?_; rintro e w3 ⟨rfl, hb3⟩
                    have hB3 := Lib.hid (hBm.out.trans ((hb2.trans (hb3.mono hb2.size)).mono hBm.out.size))
                    clear hBm hKr d0 d1 d2 d3 d4 d5 q0 q1 q2 hb2 hb3
                    cases hyr : (y == rg) with
                    | true =>
                      go_wp2
                      go_roundw
                      case rel => exact ⟨y + 1, ⟨by omega, by omega⟩, by go_num, hB3⟩
                      case measure => simp [intOf]; omega
                    | false =>
                      go_wp2
                      go_roundw
                      case rel => exact ⟨y + 1, ⟨by omega, by omega⟩, by go_num, hB3⟩
                      case measure => simp [intOf]; omega
                  · have hyz' : ¬ y < zc := hyz
                    have hBf := Lib.hid hKr.bel
                    cases set with
                    | true =>
                      obtain rfl : fr = 0 := by simpa using hcn.out
                      rw [show ((0 : Nat) : Int) = 0 from rfl]
                      go_wp2
                      go_ret
                      exact ⟨rfl, hBf.out⟩
                    | false =>
                      obtain rfl : fr = 1 := by simpa using hcn.out
                      rw [show ((1 : Nat) : Int) = 1 from rfl]
                      go_wp2
                      go_ret
                      exact ⟨rfl, hBf.out⟩
        · have a1' : ¬ (i : Int) < (n0 : Int) := by omega
          have hS0 := Lib.hid (hS.out.mono (N' := 60 + 6 * 0) (by omega))
          clear hS
          go_wp2_with fail
          obtain ⟨st0, hst0⟩ : ∃ s, s = st := ⟨_, rfl⟩
          subst hst0
          go_loopw [18, 19] (fun f t wr => ∃ (t' : Nat) (st : Nat → Nat) (o : Bool), t' ≤ k ∧ f = .int .i64 ((cntF st t' : Nat) : Int) ∧ t = .int .i64 (t' : Int) ∧ Hid ((∀ j, j < t' → st j = 5 ∨ st j = 6) ∧ SmX WL B a c p P (k : Int) R rg ce (bitI P (k : Int) R rg) K bs bm bu set st (60 + 6 * t') o wr)) (fun _ t _ => k - (intOf t).toNat)
          case atStart => exact ⟨0, _, _, Nat.zero_le _, rfl, rfl, Lib.hid ⟨fun j hj => absurd hj (Nat.not_lt_zero _), hS0.out⟩⟩
          case round =>
            obtain ⟨t, st, o, ht, rfl, rfl, hS⟩ := hrel
            clear hS0
            have htn : (0 : Int) ≤ (t : Int) := by omega
            by_cases htk : t < k
            · have htk' : (t : Int) < (k : Int) := by omega
              have hr1 := (hKP.out _ _ _ _ hS.out.2).row t htk'
              go_wp2_with fail
              refine (SmX.finish hS.out.2 hD.out HBT.out (by omega) htk').mono ?_; rintro e w2 ⟨m, s', rfl, hm0, hs', o', hS2⟩
              have hmz : (m == 0) = false := beq_eq_false_iff_ne.2 hm0
              have hr2 := (hKP.out _ _ _ _ hS2).row t htk'
              have hcl := cntF_le st t
              have hcu := cntF_upd st t s' t (Nat.le_refl t)
              have hold := Lib.hid hS.out.1
              have hc1 : cntF (updS st t s') (t + 1) = cntF st t + (if s' = 5 then 1 else 0) := by
                show cntF (updS st t s') t + (if updS st t s' t = 5 then 1 else 0) = _
                rw [hcu, updS_eq]
              clear hS hr1 hcu hm0
              rcases hs' with rfl | rfl
              · have FR := Lib.hid ((hS2.fresh htk').mono (R' := fun e w' => e = .returned (.bool true) ∧ SmX WL B a c p P (k : Int) R rg ce (bitI P (k : Int) R rg) K bs bm bu set (updS st t 5) (60 + 6 * t + 6) o' w') fun e w' ⟨he, h⟩ => ⟨by rw [he, updS_eq]; rfl, h⟩)
                rw [if_pos rfl] at hc1
                generalize cntF st t = q at *
                have hq0 : (0 : Int) ≤ (q : Int) := by omega
                have hq1 : (q : Int) < 1000 := by omega
                clear hS2
                go_wp2_with fail
                refine FR.out.mono ?_; rintro e w3 ⟨rfl, hS3⟩
                have hN : Hid ((∀ j, j < t + 1 → updS st t 5 j = 5 ∨ updS st t 5 j = 6) ∧ SmX WL B a c p P (k : Int) R rg ce (bitI P (k : Int) R rg) K bs bm bu set (updS st t 5) (60 + 6 * (t + 1)) o' w3) := by
                  refine Lib.hid ⟨fun j hj => ?_, hS3⟩
                  by_cases e : j = t
                  · subst e; rw [updS_eq]; exact .inl rfl
                  · rw [updS_ne e]; exact hold.out j (by omega)
                have hc1 := Lib.hid hc1
                clear FR hS3 hr2
                go_wp2
                go_roundw
                case rel => exact ⟨t + 1, updS st t 5, o', by omega, by rw [hc1.out]; go_num, by go_num, hN⟩
                case measure => simp [intOf]; omega
              · have FR := Lib.hid ((hS2.fresh htk').mono (R' := fun e w' => e = .returned (.bool false) ∧ SmX WL B a c p P (k : Int) R rg ce (bitI P (k : Int) R rg) K bs bm bu set (updS st t 6) (60 + 6 * t + 6) o' w') fun e w' ⟨he, h⟩ => ⟨by rw [he, updS_eq]; rfl, h⟩)
                rw [if_neg (by decide)] at hc1
                generalize cntF st t = q at *
                have hq0 : (0 : Int) ≤ (q : Int) := by omega
                have hq1 : (q : Int) < 1000 := by omega
                clear hS2
                go_wp2_with fail
                refine FR.out.mono ?_; rintro e w3 ⟨rfl, hS3⟩
                have hN : Hid ((∀ j, j < t + 1 → updS st t 6 j = 5 ∨ updS st t 6 j = 6) ∧ SmX WL B a c p P (k : Int) R rg ce (bitI P (k : Int) R rg) K bs bm bu set (updS st t 6) (60 + 6 * (t + 1)) o' w3) := by
                  refine Lib.hid ⟨fun j hj => ?_, hS3⟩
                  by_cases e : j = t
                  · subst e; rw [updS_eq]; exact .inr rfl
                  · rw [updS_ne e]; exact hold.out j (by omega)
                have hc1 := Lib.hid hc1
                clear FR hS3 hr2
                go_wp2
                go_roundw
                case rel => exact ⟨t + 1, updS st t 6, o', by omega, by rw [hc1.out]; go_num, by go_num, hN⟩
                case measure => simp [intOf]; omega
            · obtain rfl : t = k := by omega
              obtain ⟨hcn, hMk⟩ := SmX.over hS.out.2 rfl hT0 hS.out.1 HRF.out.2.2.2 hce.out htab.out
              have hMk := Lib.hid hMk
              have hK4 := hKP.out _ _ _ _ hS.out.2
              have hK4 := Lib.hid hK4
              obtain ⟨WM, hWM⟩ : ∃ W, W = wr := ⟨_, rfl⟩
              subst hWM
              clear hS
              have htt : ¬ (t : Int) < (t : Int) := by omega
              obtain ⟨d0, d1, d2, d3, d4, d5⟩ := hK4.out.d.six.1
              have hbd := base_bd HRF.out.1
              have hPb := HRF.out.1.1
              have hBD : 64 ≤ baseI P (t : Int) R ∧ baseI P (t : Int) R + 64 * P ≤ 2304 ∧ baseI P (t : Int) R ≤ baseI P (t : Int) R + 64 * P := by omega
              have hRB := Lib.hid (fun x (h1 : baseI P (t : Int) R ≤ x) (h2 : x < baseI P (t : Int) R + 64 * P) => refB_of HRF.out.1 h1 h2)
              generalize hbsE : baseI P (t : Int) R = bs' at *
              replace hbsE := Lib.hid hbsE
              generalize hzc : bs' + 64 * P = zc at *
              replace hzc := Lib.hid hzc
              clear hbd hPb
              obtain ⟨fr, hfr⟩ : ∃ fr : Nat, cntF st t = fr := ⟨_, rfl⟩
              rw [hfr] at hcn ⊢
              replace hcn := Lib.hid hcn
              clear hfr
              go_wp2_with fail
              clear d0 d1 d2 d3 d4 d5
              go_loopw [20] (fun x wr => ∃ y : Int, (bs' ≤ y ∧ y ≤ zc) ∧ x = .int .i64 y ∧ Hid (Below WM.heap.size WM wr)) (fun x _ => (zc - intOf x).toNat)
              case atStart => exact ⟨bs', ⟨Int.le_refl _, by omega⟩, rfl, Lib.hid (Below.refl _ _)⟩
              case round =>
                obtain ⟨y, ⟨hy1, hy2⟩, rfl, hBm⟩ := hrel
                have hKr := hK4.out.grew hBm.out
                obtain ⟨d0, d1, d2, d3, d4, d5⟩ := hKr.d.six.1
                rw [hbsE.out, hzc.out] at d5
                rw [hbsE.out] at d3
                by_cases hyz : y < zc
                · have hyw : IntKind.u64.wrap y = y := by rw [IntKind.wrap_u64]; omega
                  obtain ⟨q0, q1, q2⟩ := hKr.q.three.1
                  go_wp2_with fail
                  refine (splan_any _ _ _ _).mono ?_; rintro e w2 ⟨rfl, hb2⟩
                  go_wp2_with fail
                  refine (hMk.out y _ (hRB.out y hy1 hyz) ⟨by omega, by omega⟩ (hBm.out.trans (hb2.mono hBm.out.size))).mono ?_; rintro e w3 ⟨rfl, hb3⟩
                  have hB3 := Lib.hid (hBm.out.trans ((hb2.trans (hb3.mono hb2.size)).mono hBm.out.size))
                  clear hBm hKr d0 d1 d2 d3 d4 d5 q0 q1 q2 hb2 hb3
                  cases hyr : (y == rg) with
                  | true =>
                    go_wp2
                    go_roundw
                    case rel => exact ⟨y + 1, ⟨by omega, by omega⟩, by go_num, hB3⟩
                    case measure => simp [intOf]; omega
                  | false =>
                    go_wp2
                    go_roundw
                    case rel => exact ⟨y + 1, ⟨by omega, by omega⟩, by go_num, hB3⟩
                    case measure => simp [intOf]; omega
                · have hyz' : ¬ y < zc := hyz
                  have hBf := Lib.hid hKr.bel
                  cases set with
                  | true =>
                    obtain rfl : fr = 0 := by simpa using hcn.out
                    rw [show ((0 : Nat) : Int) = 0 from rfl]
                    go_wp2
                    go_ret
                    exact ⟨rfl, hBf.out⟩
                  | false =>
                    obtain rfl : fr = 1 := by simpa using hcn.out
                    rw [show ((1 : Nat) : Int) = 1 from rfl]
                    go_wp2
                    go_ret
                    exact ⟨rfl, hBf.out⟩
end Go.Proofs.Ytlhigibgjggidaa
