/- The law PagesSweeps, walked. Conditions: the pages and the turns are read in full. -/
import Derived.Test.YtnodeojeijekcaaGreatGPagesSweeps36
namespace Go.Proofs.YtnodeojeijekcaaGreat
open Go.RowKit
set_option linter.unusedVariables false
set_option maxRecDepth 100000 in
set_option maxHeartbeats 8000000 in
theorem psweeps_walk (P0 T0 R0 who cy pg : Int) (v1 v2 : Value) (l : List PgD) (l2 : List TnD) (w : World) (h1 : RdRow 8 ElPg w.heap.size w v1 l) (h2 : RdRow 7 ElTn w.heap.size w v2 l2) :
    Calls Tryz.prog 3 #[.agg #[.int .i64 P0, .int .i64 T0, .int .i64 R0, v1, .int .i64 who, .int .i64 cy, .int .i64 pg, v2]] w fun e w' => e = .returned (.bool true) ∧ Below w.heap.size w w' := by
  obtain ⟨P, hP0⟩ : ∃ P, psI P0 5 = P := ⟨_, rfl⟩
  obtain ⟨T, hT0⟩ : ∃ T, psI T0 3 = T := ⟨_, rfl⟩
  have hP := osmall_bd P0 5 (by decide) (by decide)
  have hT := osmall_bd T0 3 (by decide) (by decide)
  rw [show wrap64 (1 + wrap64 ((IntKind.u64.wrap P0).tmod 5)) = P from hP0] at hP
  rw [show wrap64 (1 + wrap64 ((IntKind.u64.wrap T0).tmod 3)) = T from hT0] at hT
  have LA := Lib.hid (fun W (hl : RdRow 8 ElPg W.heap.size W v1 l) => play_any P0 T0 R0 P T v1 l W hP0 hT0 hP hT hl)
  have RW := Lib.hid (fun W (hb : Below w.heap.size w W) => (h1.keep hb fun _ _ _ e r => r.keep hb e).mono (el' := ElPg) hb.size (fun _ _ _ e => e))
  have hU0 := Lib.hid (fun k => layK_U P T (rd_U h1) k)
  have hr := right_small hP hT
  have h2' := Lib.hid h2
  clear hP0 hT0 h1 h2
  go_enter Tryz.func3, Tryz.ntmps3
  go_upto_region 1 with fail
  have hX : Blk (w.alloc (.cells #[.int .i64 P0, .int .i64 T0, .int .i64 R0, v1, .int .i64 who, .int .i64 cy, .int .i64 pg, v2] 27)) w.heap.size #[.int .i64 P0, .int .i64 T0, .int .i64 R0, v1, .int .i64 who, .int .i64 cy, .int .i64 pg, v2] 27 := Blk.new _ _ _
  have hB : Below w.heap.size w (w.alloc (.cells #[.int .i64 P0, .int .i64 T0, .int .i64 R0, v1, .int .i64 who, .int .i64 cy, .int .i64 pg, v2] 27)) := (Below.refl _ _).alloc (Nat.le_refl _) _
  generalize w.alloc (.cells #[.int .i64 P0, .int .i64 T0, .int .i64 R0, v1, .int .i64 who, .int .i64 cy, .int .i64 pg, v2] 27) = W at *
  have hlt := hX.lt
  go_cut [3, 4, 5, 6, 7, 8] from 17 to 28 (fun s3 s4 s5 s6 s7 s8 wx => s4 = v1 ∧ s5 = .int .i64 who ∧ s6 = .int .i64 cy ∧ s7 = .int .i64 pg ∧ s8 = v2 ∧ ∃ P3, s3 = .pointer (some ⟨P3, 0, none⟩) ∧ Blk wx P3 #[.int .i64 P0, .int .i64 T0, .int .i64 R0] 23 ∧ Below w.heap.size w wx)
  case first =>
    obtain ⟨x0, x1, x2, x3, x4, x5, x6, x7⟩ := eight_pg hX
    go_region_held3 (fun w' => w'.cell? ⟨w.heap.size, 0, none⟩ = some (.int .i64 P0) ∧ w'.cell? ⟨w.heap.size, 1, none⟩ = some (.int .i64 T0) ∧ w'.cell? ⟨w.heap.size, 2, none⟩ = some (.int .i64 R0) ∧ w'.cell? ⟨w.heap.size, 3, none⟩ = some v1 ∧ w'.cell? ⟨w.heap.size, 4, none⟩ = some (.int .i64 who) ∧ w'.cell? ⟨w.heap.size, 5, none⟩ = some (.int .i64 cy) ∧ w'.cell? ⟨w.heap.size, 6, none⟩ = some (.int .i64 pg) ∧ w'.cell? ⟨w.heap.size, 7, none⟩ = some v2)
      (first | (with_reducible exact ⟨by assumption, by assumption, by assumption, by assumption, by assumption, by assumption, by assumption, by assumption⟩) | (refine eight_pg (t := 27) ?_; repeat (first | (with_reducible exact hX) | (with_reducible refine Blk.alloc ?_ _) | (with_reducible refine Blk.drew ?_) | ((with_reducible refine Blk.other ?_ _ _ ?_); rotate_left 1; (simp; omega)))))
      (fail)
    all_goals
      go_wp2
      go_meet
      case rel =>
        refine ⟨rfl, rfl, rfl, rfl, rfl, _, rfl, ?_, ?_⟩
        all_goals repeat' (first | exact hB | (refine Blk.new' ?_; simp; done) | refine Blk.drew ?_ | refine Blk.alloc ?_ _ | refine Quiet.below' ?_ | refine Below.alloc ?_ ?_ _ | exact hB.size | (simp; done) | (simp; omega))
  clear hX hB hlt
  obtain ⟨rfl, rfl, rfl, rfl, rfl, P3, rfl, hP3, hbc⟩ := hcut
  obtain ⟨x0, x1, x2⟩ := hP3.three.1
  go_wp2_with fail
  refine (LA.out _ (RW.out _ hbc)).mono ?_; rintro e w1 ⟨f, M, d, a, ca, p, rfl, hF⟩
  have hcl : (layK P T l (min l.length P.toNat)).length = cellsN P T 1 := layK_len _ _ _ _
  have hcU := Lib.hid (hU0.out (min l.length P.toNat))
  generalize layK P T l (min l.length P.toNat) = cs at *
  have hw1 := hbc.trans (hF.bel.mono hbc.size)
  have hwc := hbc.size
  clear x0 x1 x2 hP3 LA RW hU0
  go_wp2_with fail
  refine (paged_any _).mono ?_; rintro e w2 ⟨rfl, hb2⟩
  have hF2 := hF.grown hb2
  have hw2 := hw1.trans (hb2.mono hw1.size)
  clear hF hw1 hb2
  have f0 : w2.cell? ⟨f, 0, none⟩ = some (.int .i64 P) := hF2.fl.val 0 rfl
  go_upto_region 5 with fail
  go_cut [11] from 41 to 71 (fun s11 wx => s11 = .bool (pgB P T 1 pg && (workB who && inB cy 0 4294967295)) ∧ wx = w2)
  case first =>
    have hpg : pgB P T 1 pg = (decide (0 ≤ pg) && decide (pg < P)) := by
      unfold pgB
      rw [of_right hr, Bool.true_and]
      unfold inB
      rw [← Bool.decide_and]
      congr 1
      exact propext ⟨fun h => ⟨h.1, by omega⟩, fun h => ⟨h.1, by omega⟩⟩
    have hwk : workB who = ((decide (0 ≤ who) && decide (who ≤ 5)) || who == 15) := by
      unfold workB inB
      rw [← Bool.decide_and]
    have hcy : inB cy 0 4294967295 = (decide (0 ≤ cy) && decide (cy ≤ 4294967295)) := by
      unfold inB
      rw [← Bool.decide_and]
    replace hpg := Lib.hid hpg
    replace hwk := Lib.hid hwk
    replace hcy := Lib.hid hcy
    clear hr h2' hcU hcl hbc hw2
    by_cases a1 : 0 ≤ pg
    · by_cases a2 : pg < P
      · by_cases b1 : 0 ≤ who
        · by_cases b2 : who ≤ 5
          · by_cases c1 : 0 ≤ cy
            · by_cases c2 : cy ≤ 4294967295
              · go_wp2; go_meet; case rel => exact ⟨by rw [hpg.out, hwk.out, hcy.out]; simp [a1, a2, b1, b2, c1, c2] <;> (intros; omega), rfl⟩
              · go_wp2; go_meet; case rel => exact ⟨by rw [hpg.out, hwk.out, hcy.out]; simp [a1, a2, b1, b2, c1, c2] <;> (intros; omega), rfl⟩
            · go_wp2; go_meet; case rel => exact ⟨by rw [hpg.out, hwk.out, hcy.out]; simp [a1, a2, b1, b2, c1] <;> (intros; omega), rfl⟩
          · by_cases b3' : who = 15
            · have b3 : (who == 15) = true := by simp [b3']
              replace b3' := Lib.hid b3'
              by_cases c1 : 0 ≤ cy
              · by_cases c2 : cy ≤ 4294967295
                · go_wp2; go_meet; case rel => exact ⟨by rw [hpg.out, hwk.out, hcy.out]; simp [a1, a2, b1, b2, b3, c1, c2] <;> (intros; omega), rfl⟩
                · go_wp2; go_meet; case rel => exact ⟨by rw [hpg.out, hwk.out, hcy.out]; simp [a1, a2, b1, b2, b3, c1, c2] <;> (intros; omega), rfl⟩
              · go_wp2; go_meet; case rel => exact ⟨by rw [hpg.out, hwk.out, hcy.out]; simp [a1, a2, b1, b2, b3, c1] <;> (intros; omega), rfl⟩
            · have b3 : (who == 15) = false := by simp [b3']
              replace b3' := Lib.hid b3'
              go_wp2; go_meet; case rel => exact ⟨by rw [hpg.out, hwk.out, hcy.out]; simp [a1, a2, b1, b2, b3] <;> (intros; omega), rfl⟩
        · have b3 : (who == 15) = false := by simp; omega
          go_wp2; go_meet; case rel => exact ⟨by rw [hpg.out, hwk.out, hcy.out]; simp [a1, a2, b1, b3] <;> (intros; omega), rfl⟩
      · go_wp2; go_meet; case rel => exact ⟨by rw [hpg.out, hwk.out, hcy.out]; simp [a1, a2] <;> (intros; omega), rfl⟩
    · go_wp2; go_meet; case rel => exact ⟨by rw [hpg.out, hwk.out, hcy.out]; simp [a1] <;> (intros; omega), rfl⟩
  obtain ⟨rfl, rfl⟩ := hcut
  have PLN := Lib.hid (fun W => pplan_any P T 1 W)
  have f1 : wc.cell? ⟨f, 1, none⟩ = some (.int .i64 T) := hF2.fl.val 1 rfl
  have f2 : wc.cell? ⟨f, 2, none⟩ = some (.int .i64 1) := hF2.fl.val 2 rfl
  have hbw2 := hF2.bel
  go_wp2_with fail
  refine (PLN.out _).mono ?_; rintro e w3 ⟨rfl, hb3⟩
  have hF3 := hF2.grown hb3
  have hw3 := hw2.trans (hb3.mono hw2.size)
  clear f0 f1 f2 hF2 hb3 PLN hbw2 hw2
  cases hR : (pgB P T 1 pg && (workB who && inB cy 0 4294967295)) with
  | false =>
    have NS := Lib.hid (fun W => newsweep_no P T 1 who cy pg W hR)
    clear hR
    go_wp2_with fail
    refine (NS.out _).mono ?_; rintro e w4 ⟨rfl, hb4⟩
    have hB4 := Lib.hid (hw3.trans (hb4.mono hw3.size))
    clear hF3 hw3 hb4
    go_wp2
    go_ret
    exact ⟨rfl, hB4.out⟩
  | true =>
    have hR' := hR
    rw [Bool.and_eq_true, Bool.and_eq_true] at hR'
    obtain ⟨r1, r2, r3⟩ := hR'
    have NS := Lib.hid (fun W => newsweep_yes P T 1 who cy pg W r1 r2 r3)
    obtain ⟨e, a', m, PK⟩ := pk_of hP hT r1 r2 r3
    have OK := Lib.hid (ok_start PK)
    clear hR r1 r2 r3 PK
    go_wp2_with fail
    refine (NS.out _).mono ?_; rintro e w4 ⟨s, rfl, hs4, hsl, hb4⟩
    have hS := PtS.new (F := fun _ _ => 0) hF3 hw3 hwc hs4 hsl hb4
    clear hF3 hw3 hs4 hsl hb4 NS
    have hxl : w.heap.size ≤ w4.heap.size := by have := hS.lo w4.heap.size (by simp [ptL]); exact this
    go_upto_region 12 with fail
    generalize w4.alloc (.cells #[.slice none 0 0, .int .i64 0, .int .i64 0, .int .i64 0, .int .i64 0, .int .u64 0, .int .u64 0, .int .u64 0, .int .u64 0, .bool false] 51) = w5 at *
    generalize w4.heap.size = x at *
    obtain ⟨B0, hS⟩ : ∃ B0, PtS w B0 f s M d x p a ca P T (sw0 P T 1 who cy pg) cs (fun _ _ => 0) 0 cs (fun _ _ => 0) 0 ⟨[], 0, 0, 0, 0, 0, false⟩ false (x :: s :: [p, d, M, f]) (.slice none 0 0) (.slice none 0 0) w5 := ⟨_, hS⟩
    have hN2 := (cellsN_bd hr).2
    clear hbc hwc hxl hr
    go_wp2_with fail
    go_loopw [15] (fun i wr => ∃ k : Nat, k ≤ 10 ∧ i = .int .i64 k ∧ ∃ σ cs F H t o K lm hv, Ok P T who cy pg (11 - k) σ H ∧ (σ.nx == 0) = false ∧ H.length = k ∧ (∀ z ∈ H, U64 z) ∧ t.H = H ∧ cs.length = cellsN P T 1 ∧ (∀ z ∈ cs, U64 z) ∧ PtS w B0 f s M d x p a ca P T σ cs F k cs F k t o K lm hv wr) (fun i _ => 20 - (intOf i).toNat)
    case atStart => exact ⟨0, by omega, rfl, _, cs, _, [], _, _, _, _, _, OK.out, rfl, rfl, by simp, rfl, hcl, hcU.out, hS⟩
    case round =>
      clear hS OK hcl hcU
      obtain ⟨k, hk, rfl, σ, cs, F, H, t, o, K, lm, hv, hOk, hnx, hHl, hHU, hHt, hcl, hcU, h⟩ := hrel
      have hk20 : (k : Int) < 20 := by omega
      obtain ⟨n', hn', kk, wn, pt, i, hi, hkk, ⟨hwn, hpt⟩, hD, hFl, hSt⟩ := hOk.more hnx
      have TU := Lib.hid (h.turns h2'.out hP hT hcl rfl hcU (k : Int))
      replace hSt := Lib.hid hSt
      replace hD := Lib.hid hD
      replace hHU := Lib.hid hHU
      replace hHt := Lib.hid hHt
      replace hHl := Lib.hid hHl
      replace hn' := Lib.hid hn'
      clear hOk hnx hcl hcU h hFl
      go_wp2_with fail
      refine TU.out.mono ?_; rintro e w6 ⟨⟨v6, rfl⟩, cs1, hcl, hcU, h6⟩
      replace hcl := Lib.hid hcl
      replace hcU := Lib.hid hcU
      have AG := Lib.hid h6.again
      clear TU h6
      go_wp2_with fail
      refine AG.out.mono ?_; rintro e w7 ⟨⟨v7, rfl⟩, h7⟩
      obtain ⟨⟨c3, c4, c5, c6, c7, c8⟩, _⟩ := h7.cells rfl
      have AS := Lib.hid (h7.asked hD.out hHt.out rfl rfl (by have := hHl.out; omega) hHU.out)
      clear AG h7
      go_wp2_with fail
      refine AS.out.mono ?_; rintro e w8 ⟨rfl, t8, ht8, hq8, h8⟩
      obtain ⟨q1, q2, q3, q4⟩ := hq8 _ _ _ _ rfl
      clear AS hq8 c3 c4 c5 c6 c7 c8
      subst q1 q3 q4
      unfold Swr.V rw0
      go_upto_region 18 with fail
      have hbox : Blk (w8.alloc (.cells #[.bool false, .bool false, .bool false, .bool false, .int .i64 0] 54)) w8.heap.size rw0.V 54 := Blk.new _ _ _
      have h9 := h8.pin ((Below.refl _ w8).alloc (Nat.le_refl _) (.cells #[.bool false, .bool false, .bool false, .bool false, .int .i64 0] 54))
      have hB : PtB w B0 f s M d x p a ca P T σ cs1 F k cs1 F k t8 o (btw w8.heap.size (w8.alloc (.cells #[.bool false, .bool false, .bool false, .bool false, .int .i64 0] 54)).heap.size ++ K) lm hv w8.heap.size rw0 (w8.alloc (.cells #[.bool false, .bool false, .bool false, .bool false, .int .i64 0] 54)) := ⟨h9, hbox, List.mem_append_left _ (mem_btw.2 ⟨Nat.le_refl _, by simp⟩), h8.bel.size⟩
      clear hbox h9 h8
      generalize w8.alloc (.cells #[.bool false, .bool false, .bool false, .bool false, .int .i64 0] 54) = w9 at *
      generalize btw w8.heap.size w9.heap.size ++ K = K9 at *
      generalize w8.heap.size = rb at *
      have x0 : w9.cell? ⟨rb, 0, none⟩ = some (.bool false) := hB.box.val 0 rfl
      have MD := Lib.hid (hB.madeF i (by omega) q2 (by rw [hcl.out]; exact hi) (by omega) (by rw [ht8]; have := hHl.out; omega))
      clear hB
      go_wp2_with fail
      refine MD.out.mono ?_; rintro e w10 ⟨⟨v10, rfl⟩, K10, lm10, hv10, h10⟩
      clear MD x0
      obtain ⟨σ', hStp, hOk'⟩ := hSt.out cs1 hcl.out hcU.out
      obtain ⟨r, q', hD', hF'⟩ := hOk'.doc
      have hz : U64 (cs1.getD i 0) := getD_U hcU.out (by rw [hcl.out]; exact hi)
      have hHU' : ∀ z ∈ H ++ [cs1.getD i 0], U64 z := by
        intro z hz'
        rcases List.mem_append.1 hz' with e | e
        · exact hHU.out z e
        · rw [List.mem_singleton.1 e]; exact hz
      have hHl' : (H ++ [cs1.getD i 0]).length = k + 1 := by rw [List.length_append, hHl.out]; rfl
      have AS2 := Lib.hid (h10.asked hD' (by show t8.H ++ _ = _; rw [ht8]) rfl rfl (by omega) hHU')
      have hcU2 := Lib.hid (set_U hcU.out (leftI_U (wn := t8.wn) hz hpt hkk) i)
      have SP := Lib.hid hStp
      obtain ⟨⟨c3, c4, c5, c6, c7, c8⟩, _⟩ := h10.pt.cells rfl
      replace hF' := Lib.hid hF'
      replace hOk' := Lib.hid hOk'
      replace hHU' := Lib.hid hHU'
      replace hHl' := Lib.hid hHl'
      clear h10 hSt hStp hD' hz hD hHU hHt hcU
      go_wp2_with fail
      refine AS2.out.mono ?_; rintro e w11 ⟨rfl, t11, ht11, h11⟩
      clear AS2 c3 c4 c5 c6 c7 c8
      obtain ⟨⟨y0, y1, y2, y3, y4⟩, _⟩ := h11.cells
      have g0 := h11.box.frozen 0
      have g1 := h11.box.frozen 1
      have g2 := h11.box.frozen 2
      have g3 := h11.box.frozen 3
      have g4 := h11.box.frozen 4
      have h12 := Lib.hid (h11.put r)
      clear h11
      go_upto_region 21 with fail
      generalize ((((w11.setCell ⟨rb, 0, none⟩ (.bool r.ov)).setCell ⟨rb, 1, none⟩ (.bool r.sw)).setCell ⟨rb, 2, none⟩ (.bool r.em)).setCell ⟨rb, 3, none⟩ (.bool r.bl)).setCell ⟨rb, 4, none⟩ (.int .i64 r.fr) = w12 at *
      clear y0 y1 y2 y3 y4 g0 g1 g2 g3 g4
      replace h12 := h12.out
      have hd := h12.drew
      go_region_held3 (fun W => (W.cell? ⟨rb, 0, none⟩ = some (.bool r.ov) ∧ W.cell? ⟨rb, 1, none⟩ = some (.bool r.sw) ∧ W.cell? ⟨rb, 2, none⟩ = some (.bool r.em) ∧ W.cell? ⟨rb, 3, none⟩ = some (.bool r.bl) ∧ W.cell? ⟨rb, 4, none⟩ = some (.int .i64 r.fr)) ∧ W.cell? ⟨f, 11, none⟩ = some (.pointer (some ⟨p, 0, none⟩)))
        ((with_reducible exact PtB.cells (by assumption)))
        (first
          | (go_at_call 12; refine (hd.step SP.out (by omega) hF'.out).mono ?_; rintro e w13 ⟨rfl, h13⟩)
          | (go_at_call 13; refine (PtB.over hF'.out h13).mono ?_; rintro e w14 ⟨rfl, h14⟩)
          | (go_at_call 14; refine (PtB.swept hF'.out h14).mono ?_; rintro e w15 ⟨rfl, h15⟩)
          | (go_at_call 15; refine (PtB.empty hF'.out h15).mono ?_; rintro e w16 ⟨rfl, h16⟩)
          | (go_at_call 16; refine (PtB.freed hF'.out h16).mono ?_; rintro e w17 ⟨rfl, h17⟩)
          | (go_at_call 17; refine (PtB.blocked hF'.out h17).mono ?_; rintro e w18 ⟨rfl, h18⟩))
      all_goals
        have z0 := h18.cells.1.1
        generalize hov : r.ov = ov at *
        cases ov with
        | true =>
          have SM := Lib.hid (h18.pt.same (by omega) (by omega) (by rw [List.length_set, hcl.out]; omega) (by rw [List.length_set, hcl.out]; omega))
          clear h12 hd h13 h14 h15 h16 h17 h18 hOk' hF' hov
          go_wp2_with fail
          refine SM.out.mono ?_; rintro e w19 ⟨rfl, hb19⟩
          replace hb19 := Lib.hid hb19
          clear SM z0
          go_wp2
          go_ret
          exact ⟨rfl, hb19.out⟩
        | false =>
          have hnx' : (σ'.nx == 0) = false := by rw [hF'.out.1, hov]
          have hOk2 : k + 1 ≤ 10 ∧ Ok P T who cy pg (11 - (k + 1)) σ' (H ++ [cs1.getD i 0]) := by
            obtain ⟨n2, hn2, _⟩ := hOk'.out.more hnx'
            have e1 := hn'.out
            have e2 : n' = 11 - (k + 1) := by omega
            rw [← e2]
            exact ⟨by omega, hOk'.out⟩
          replace hOk2 := Lib.hid hOk2
          replace hnx' := Lib.hid hnx'
          have H18 := Lib.hid h18.pt
          clear h12 hd h13 h14 h15 h16 h17 h18 hOk' hF' hov
          go_wp2
          go_roundw
          case rel => exact ⟨k + 1, hOk2.out.1, by go_num, σ', _, _, _, _, _, _, _, _, hOk2.out.2, hnx'.out, hHl'.out, hHU'.out, ht11, by rw [List.length_set]; exact hcl.out, hcU2.out, H18.out⟩
          case measure => simp [intOf]; omega
end Go.Proofs.YtnodeojeijekcaaGreat
