/- The document's sweep, to its end. Conditions: the tape lies there, its answers are words; the page is the plan's. -/
import Derived.Test.YtnodeojeijekcaaGreatGPagesSweeps30
namespace Go.Proofs.YtnodeojeijekcaaGreat
open Go.RowKit
set_option linter.unusedVariables false
set_option linter.unusedSimpArgs false
theorem places_lenZ (x : Int) (w : World) (hx : U64 x) :
    Calls Tryz.prog 44 #[.int .u64 x] w fun e w' => ∃ a c, e = .returned (.slice a (plcs x.toNat 64).length c) ∧ Below w.heap.size w w' := by
  refine (places_any x w hx).mono fun e w' ⟨v, he, hr, hb⟩ => ?_
  rcases hr.2 with ⟨h1, h2⟩ | ⟨g, cap, cur, h1, _⟩
  · exact ⟨none, 0, by rw [he, h1, h2], hb⟩
  · exact ⟨_, cap, by rw [he, h1], hb⟩
section
variable {w W W' : World} {B x : Nat} {hv : Value} {t t' : Tp} {P T who cy pg eI aI mI A C S D Y z : Int}
/-- the tails are freed: from the page j on, down to the first -/
def tailT (tab pg : Int) : Nat → Tp → Tp
  | 0, t => t
  | j + 1, t => tailT tab pg j (t.ask 2 (wrap64 (tab + (pg + ((j : Int) + 1)))) 0 0).2
theorem tailT_H (tab pg : Int) : ∀ j t, (tailT tab pg j t).H = t.H
  | 0, _ => rfl
  | j + 1, t => by rw [tailT, tailT_H tab pg j, ask_H]
set_option maxRecDepth 100000 in
set_option maxHeartbeats 4000000 in
theorem rsw_endszt (hT : TapeAt w B x hv t) (hx : x < w.heap.size) (hB : ∀ g, hv.ownBlock = some g → g < w.heap.size) (hm : t.H.length ≤ 1000000) (hU : ∀ z ∈ t.H, U64 z) (hE : wrap64 (tabI T 1 + pg) = eI) (h1 : (t.ask 1 eI 0 0).2.st = false) (hz : (t.ask 1 eI 0 0).1 = z) (hD : ∀ W, Calls Tryz.prog 36 #[.int .u64 z] W fun e w' => e = .returned (.tuple #[.agg #[.int .i64 A, .int .i64 C, .int .i64 S, .int .i64 D, .int .i64 Y], .int .i64 0]) ∧ Below W.heap.size W w') (hS2' : (S == 2) = false) (hA : (A == 2) = false) (hd : dueB A C S D Y cy = true) (hg : tkB A C S D Y 2 who = true) (E : Int) (hEE : encE A C 2 who Y = E) (hAI : wrap64 (wrap64 (tabI T 1 + P) + pg) = aI) (hMI : wrap64 (wrap64 (tabI T 1 + wrap64 (2 * P)) + pg) = mI) (h2 : ((t.ask 1 eI 0 0).2.ask 4 eI z E).2.st = false) (h3 : (((t.ask 1 eI 0 0).2.ask 4 eI z E).1 == z) = true) (t2 : Tp) (ht2 : ((t.ask 1 eI 0 0).2.ask 4 eI z E).2 = t2) (m1 a1 : Int × Tp) (hm1 : t2.ask 1 mI 0 0 = m1) (ha1 : m1.2.ask 1 aI 0 0 = a1) (lf : Int) (hlf : bits .and .u64 a1.1 m1.1 = lf) (t5 t6 t7 t8 : Tp) (ht5 : (a1.2.ask 2 aI 0 lf).2 = t5) (ht6 : (t5.ask 2 mI 0 0).2 = t6) (ht7 : t6 = t7) (hl0 : (lf == 0) = true) (G : Int) (hG : encE A C 0 0 cy = G) (hgv : gvB A C S D Y cy = true) (ht8 : (t7.ask 2 eI 0 0).2 = t8) (hst8 : t8.st = true) :
    Calls Tryz.prog 10 #[.pointer (some ⟨x, 0, none⟩), .agg #[.int .i64 P, .int .i64 T, .int .i64 1, .int .i64 (baseI P T 1), .int .i64 (tabI T 1), .int .i64 (baseI P T 1 + 64 * P)], .int .i64 who, .int .i64 cy, .int .i64 pg] w (RsPost w B x hv rw0 t8) := by
  have PE := Lib.hid (fun W => pmPage_any P T 1 (baseI P T 1) (tabI T 1) (baseI P T 1 + 64 * P) pg W)
  rw [hE] at PE
  have hS := RsS.new (P := P) (T := T) hT hx hB hm hU
  unfold RsPost
  clear hT hB hm hE
  go_enter Tryz.func10, Tryz.ntmps10
  go_upto_region 1 with fail
  generalize (w.alloc (.cells #[.int .i64 P, .int .i64 T, .int .i64 1, .int .i64 (baseI P T 1), .int .i64 (tabI T 1), .int .i64 (baseI P T 1 + 64 * P)] 33)).alloc (.cells #[.bool false, .bool false, .bool false, .bool false, .int .i64 0] 54) = W at *
  obtain ⟨x0, x1, x2, x3, x4, x5⟩ := hS.six
  go_wp2_with fail
  refine (PE.out _).mono ?_; rintro e w1 ⟨rfl, hb1⟩
  have hS1 := hS.grew hb1
  clear x0 x1 x2 x3 x4 x5 hS hb1
  go_wp2_with fail
  refine (hS1.load eI).mono ?_; rintro e w2 ⟨rfl, hS2⟩
  clear hS1
  have st := hS2.stop
  have PAL := Lib.hid (fun W => pmAlloc_any P T 1 (baseI P T 1) (tabI T 1) (baseI P T 1 + 64 * P) pg W)
  rw [hAI] at PAL
  have PMK := Lib.hid (fun W => pmMark_any P T 1 (baseI P T 1) (tabI T 1) (baseI P T 1 + 64 * P) pg W)
  rw [hMI] at PMK
  have GV := Lib.hid (fun W => rgiven_yes W hgv)
  have WG := Lib.hid (fun W => rword_any A C 0 0 cy W)
  rw [eencV_yes (by unfold gvB at hgv; rw [Bool.and_eq_true, Bool.and_eq_true] at hgv; exact hgv.2.2), hG] at WG
  clear hAI hMI hgv hG
  have DU := Lib.hid (fun W => rdue_any A C S D Y cy W)
  rw [hd] at DU
  clear hd
  have TK := Lib.hid (fun W => rtaken_yes W hg)
  have WO := Lib.hid (fun W => rword_any A C 2 who Y W)
  rw [eencV_yes (by unfold tkB at hg; rw [Bool.and_eq_true] at hg; exact hg.2), hEE] at WO
  clear hg hEE
  rw [h1] at st
  rw [hz] at *
  have DE := Lib.hid hD
  clear hD
  go_wp2_with fail
  refine (DE.out _).mono ?_; rintro e w3 ⟨rfl, hb3⟩
  have hS3 := hS2.grew hb3
  clear DE st hb3 hS2
  go_upto_region 5 with fail
  have hE3 := RsE.new (A := A) (C := C) (S := S) (D := D) (Y := Y) hS3
  generalize w3.alloc (.cells #[.int .i64 A, .int .i64 C, .int .i64 S, .int .i64 D, .int .i64 Y] 71) = W3 at *
  generalize w3.heap.size = b at *
  obtain ⟨⟨m0, m1, m2, m3, m4, m5⟩, y0, y1, y2, y3, y4⟩ := hE3.cells
  clear hS3
  go_wp2_with fail
  refine (DU.out _).mono ?_; rintro e w4 ⟨rfl, hb4⟩
  have hE4 := hE3.grew hb4
  clear m0 m1 m2 m3 m4 m5 y0 y1 y2 y3 y4 hE3 hb4 DU
  obtain ⟨⟨m0, m1, m2, m3, m4, m5⟩, y0, y1, y2, y3, y4⟩ := hE4.cells
  go_wp2_with fail
  refine (TK.out _).mono ?_; rintro e w5 ⟨rfl, hb5⟩
  have hE5 := hE4.grew hb5
  clear m0 m1 m2 m3 m4 m5 y0 y1 y2 y3 y4 hE4 hb5 TK
  go_upto_region 8 with fail
  have hF5 : RsF w B x hv (t.ask 1 eI 0 0).2 P T b w5.heap.size A C S D Y A C 2 who Y (w5.alloc (.cells #[.int .i64 A, .int .i64 C, .int .i64 2, .int .i64 who, .int .i64 Y] 71)) := ⟨hE5.grew ((Below.refl _ _).alloc (Nat.le_refl _) _), Blk.new _ _ _, hE5.rs.tch.size⟩
  generalize w5.alloc (.cells #[.int .i64 A, .int .i64 C, .int .i64 2, .int .i64 who, .int .i64 Y] 71) = W5 at *
  generalize w5.heap.size = b2 at *
  have hF5d := hF5.drew
  have CA := Lib.hid (fun W (h : RsF w B x hv (t.ask 1 eI 0 0).2 P T b b2 A C S D Y A C 2 who Y W) => h.cas eI z E)
  rw [h3, ht2] at CA
  clear hE5
  go_wp2_with fail
  go_region_held3 (fun W' => (W'.cell? ⟨w.heap.size, 0, none⟩ = some (.int .i64 P) ∧ W'.cell? ⟨w.heap.size, 1, none⟩ = some (.int .i64 T) ∧ W'.cell? ⟨w.heap.size, 2, none⟩ = some (.int .i64 1) ∧ W'.cell? ⟨w.heap.size, 3, none⟩ = some (.int .i64 (baseI P T 1)) ∧ W'.cell? ⟨w.heap.size, 4, none⟩ = some (.int .i64 (tabI T 1)) ∧ W'.cell? ⟨w.heap.size, 5, none⟩ = some (.int .i64 (baseI P T 1 + 64 * P))) ∧ (W'.cell? ⟨b2, 0, none⟩ = some (.int .i64 A) ∧ W'.cell? ⟨b2, 1, none⟩ = some (.int .i64 C) ∧ W'.cell? ⟨b2, 2, none⟩ = some (.int .i64 2) ∧ W'.cell? ⟨b2, 3, none⟩ = some (.int .i64 who) ∧ W'.cell? ⟨b2, 4, none⟩ = some (.int .i64 Y)))
    ((with_reducible exact RsF.cells (by assumption)))
    (first
      | (go_at_call 24; refine (PE.out _).mono ?_; rintro e w6 ⟨rfl, hb6⟩; have hF6 := RsF.grew (by assumption) hb6)
      | (go_at_call 40; refine (WO.out _).mono ?_; rintro e w7 ⟨rfl, hb7⟩; have hF7 := RsF.grew (by assumption) hb7)
      | (go_at_call 39; refine (CA.out _ (by assumption)).mono ?_; rintro e w8 ⟨rfl, hF8⟩))
  all_goals
    replace hF8 := hF8.re
    have st := hF8.rs.stop
    clear hF5 hF5d CA WO
    try clear hF6 hb6
    try clear hF7 hb7
    rw [ht2] at h2
    rw [h2] at st
    have hE8 := hF8
    clear hF8
    have hm1U : U64 m1.1 := by rw [← hm1]; exact ask_U hE8.rs.hU _ _ _ _
    have ha1U : U64 a1.1 := by rw [← ha1]; exact ask_U (by rw [← hm1, ask_H]; exact hE8.rs.hU) _ _ _ _
    have BO := Lib.hid (fun W => both_any a1.1 m1.1 W ha1U hm1U)
    rw [hlf] at BO
    have hlfU : U64 lf := by rw [← hlf]; exact (and_natP _ _ ha1U hm1U).1
    have PLa := Lib.hid (fun W => places_lenZ a1.1 W ha1U)
    have PLl := Lib.hid (fun W => places_lenZ lf W hlfU)
    have hna := plcs_len_le a1.1.toNat 64
    have hnl := plcs_len_le lf.toNat 64
    have hsub : wrap64 (((plcs a1.1.toNat 64).length : Int) - ((plcs lf.toNat 64).length : Int)) = ((plcs a1.1.toNat 64).length : Int) - ((plcs lf.toNat 64).length : Int) := IntWalk.wrap64_in _ (by omega)
    clear hm1U ha1U hlfU hlf 
    obtain ⟨⟨m0, m1', m2, m3, m4, m5⟩, y0, y1, y2, y3, y4⟩ := hE8.cells
    go_wp2_with fail
    refine (PMK.out _).mono ?_; rintro e w9 ⟨rfl, hb9⟩
    have hE9 := hE8.grew hb9
    clear m0 m1' m2 m3 m4 m5 y0 y1 y2 y3 y4
    clear hb9 hE8 st
    have LD10 := Lib.hid (hE9.load mI)
    rw [hm1] at LD10
    go_wp2_with fail
    refine LD10.out.mono ?_; rintro e w10 ⟨rfl, hE10⟩
    clear LD10 hE9
    obtain ⟨⟨m0, m1', m2, m3, m4, m5⟩, y0, y1, y2, y3, y4⟩ := hE10.cells
    go_wp2_with fail
    refine (PAL.out _).mono ?_; rintro e w11 ⟨rfl, hb11⟩
    have hE11 := hE10.grew hb11
    clear m0 m1' m2 m3 m4 m5 y0 y1 y2 y3 y4
    clear hb11 hE10
    have LD12 := Lib.hid (hE11.load aI)
    rw [ha1] at LD12
    go_wp2_with fail
    refine LD12.out.mono ?_; rintro e w12 ⟨rfl, hE12⟩
    clear LD12 hE11
    obtain ⟨⟨m0, m1', m2, m3, m4, m5⟩, y0, y1, y2, y3, y4⟩ := hE12.cells
    go_wp2_with fail
    refine (BO.out _).mono ?_; rintro e w13 ⟨rfl, hb13⟩
    have hE13 := hE12.grew hb13
    clear m0 m1' m2 m3 m4 m5 y0 y1 y2 y3 y4
    clear hb13 hE12
    obtain ⟨⟨m0, m1', m2, m3, m4, m5⟩, y0, y1, y2, y3, y4⟩ := hE13.cells
    go_wp2_with fail
    refine (PAL.out _).mono ?_; rintro e w14 ⟨rfl, hb14⟩
    have hE14 := hE13.grew hb14
    clear m0 m1' m2 m3 m4 m5 y0 y1 y2 y3 y4
    clear hb14 hE13
    have SD15 := Lib.hid (hE14.store aI lf)
    rw [ht5] at SD15
    go_wp2_with fail
    refine SD15.out.mono ?_; rintro e w15 ⟨⟨u15, rfl⟩, hE15⟩
    clear SD15 hE14
    obtain ⟨⟨m0, m1', m2, m3, m4, m5⟩, y0, y1, y2, y3, y4⟩ := hE15.cells
    go_wp2_with fail
    refine (PMK.out _).mono ?_; rintro e w16 ⟨rfl, hb16⟩
    have hE16 := hE15.grew hb16
    clear m0 m1' m2 m3 m4 m5 y0 y1 y2 y3 y4
    clear hb16 hE15
    have SD17 := Lib.hid (hE16.store mI 0)
    rw [ht6] at SD17
    go_wp2_with fail
    refine SD17.out.mono ?_; rintro e w17 ⟨⟨u17, rfl⟩, hE17⟩
    clear SD17 hE16
    rw [ht7] at hE17
    obtain ⟨⟨m0, m1', m2, m3, m4, m5⟩, y0, y1, y2, y3, y4⟩ := hE17.cells
    go_wp2_with fail
    refine (PE.out _).mono ?_; rintro e w20 ⟨rfl, hb20⟩
    have hE20 := hE17.grew hb20
    clear m0 m1' m2 m3 m4 m5 y0 y1 y2 y3 y4
    clear hb20 hE17
    have SD21 := Lib.hid (hE20.store eI 0)
    rw [ht8] at SD21
    go_wp2_with fail
    refine SD21.out.mono ?_; rintro e w21 ⟨⟨u21, rfl⟩, hE21⟩
    clear SD21 hE20
    have st := hE21.rs.stop
    rw [hst8] at st
    obtain ⟨hT9, ht9, hR9⟩ := hE21.rs.ret rw0
    dsimp only [rw0, Swr.V] at hT9 ht9 hR9
    obtain ⟨v0, v1, v2, v3, v4⟩ := hE21.rs.res.five
    have q0 := hE21.rs.res.frozen 0
    have q1 := hE21.rs.res.frozen 1
    have q2 := hE21.rs.res.frozen 2
    have q3 := hE21.rs.res.frozen 3
    have q4 := hE21.rs.res.frozen 4
    replace hT9 := Lib.hid hT9
    replace ht9 := Lib.hid ht9
    replace hR9 := Lib.hid hR9
    clear hE21
    go_wp2
    obtain ⟨u0, u1, u2, u3, u4⟩ := hR9.out.five
    refine bodyPost_ret (v := .agg (Swr.V rw0)) (by simp [results, Tryz.results10, go_sem, Swr.V, rw0, u0, u1, u2, u3, u4]) rfl ⟨rfl, hT9.out, ht9.out⟩
set_option maxRecDepth 100000 in
set_option maxHeartbeats 4000000 in
theorem rsw_endszf (hT : TapeAt w B x hv t) (hx : x < w.heap.size) (hB : ∀ g, hv.ownBlock = some g → g < w.heap.size) (hm : t.H.length ≤ 1000000) (hU : ∀ z ∈ t.H, U64 z) (hE : wrap64 (tabI T 1 + pg) = eI) (h1 : (t.ask 1 eI 0 0).2.st = false) (hz : (t.ask 1 eI 0 0).1 = z) (hD : ∀ W, Calls Tryz.prog 36 #[.int .u64 z] W fun e w' => e = .returned (.tuple #[.agg #[.int .i64 A, .int .i64 C, .int .i64 S, .int .i64 D, .int .i64 Y], .int .i64 0]) ∧ Below W.heap.size W w') (hS2' : (S == 2) = false) (hA : (A == 2) = false) (hd : dueB A C S D Y cy = true) (hg : tkB A C S D Y 2 who = true) (E : Int) (hEE : encE A C 2 who Y = E) (hAI : wrap64 (wrap64 (tabI T 1 + P) + pg) = aI) (hMI : wrap64 (wrap64 (tabI T 1 + wrap64 (2 * P)) + pg) = mI) (h2 : ((t.ask 1 eI 0 0).2.ask 4 eI z E).2.st = false) (h3 : (((t.ask 1 eI 0 0).2.ask 4 eI z E).1 == z) = true) (t2 : Tp) (ht2 : ((t.ask 1 eI 0 0).2.ask 4 eI z E).2 = t2) (m1 a1 : Int × Tp) (hm1 : t2.ask 1 mI 0 0 = m1) (ha1 : m1.2.ask 1 aI 0 0 = a1) (lf : Int) (hlf : bits .and .u64 a1.1 m1.1 = lf) (t5 t6 t7 t8 : Tp) (ht5 : (a1.2.ask 2 aI 0 lf).2 = t5) (ht6 : (t5.ask 2 mI 0 0).2 = t6) (ht7 : t6 = t7) (hl0 : (lf == 0) = true) (G : Int) (hG : encE A C 0 0 cy = G) (hgv : gvB A C S D Y cy = true) (ht8 : (t7.ask 2 eI 0 0).2 = t8) (hst8 : t8.st = false) :
    Calls Tryz.prog 10 #[.pointer (some ⟨x, 0, none⟩), .agg #[.int .i64 P, .int .i64 T, .int .i64 1, .int .i64 (baseI P T 1), .int .i64 (tabI T 1), .int .i64 (baseI P T 1 + 64 * P)], .int .i64 who, .int .i64 cy, .int .i64 pg] w (RsPost w B x hv ⟨true, true, true, false, ((plcs a1.1.toNat 64).length : Int) - ((plcs lf.toNat 64).length : Int)⟩ t8) := by
  have PE := Lib.hid (fun W => pmPage_any P T 1 (baseI P T 1) (tabI T 1) (baseI P T 1 + 64 * P) pg W)
  rw [hE] at PE
  have hS := RsS.new (P := P) (T := T) hT hx hB hm hU
  unfold RsPost
  clear hT hB hm hE
  go_enter Tryz.func10, Tryz.ntmps10
  go_upto_region 1 with fail
  generalize (w.alloc (.cells #[.int .i64 P, .int .i64 T, .int .i64 1, .int .i64 (baseI P T 1), .int .i64 (tabI T 1), .int .i64 (baseI P T 1 + 64 * P)] 33)).alloc (.cells #[.bool false, .bool false, .bool false, .bool false, .int .i64 0] 54) = W at *
  obtain ⟨x0, x1, x2, x3, x4, x5⟩ := hS.six
  go_wp2_with fail
  refine (PE.out _).mono ?_; rintro e w1 ⟨rfl, hb1⟩
  have hS1 := hS.grew hb1
  clear x0 x1 x2 x3 x4 x5 hS hb1
  go_wp2_with fail
  refine (hS1.load eI).mono ?_; rintro e w2 ⟨rfl, hS2⟩
  clear hS1
  have st := hS2.stop
  have PAL := Lib.hid (fun W => pmAlloc_any P T 1 (baseI P T 1) (tabI T 1) (baseI P T 1 + 64 * P) pg W)
  rw [hAI] at PAL
  have PMK := Lib.hid (fun W => pmMark_any P T 1 (baseI P T 1) (tabI T 1) (baseI P T 1 + 64 * P) pg W)
  rw [hMI] at PMK
  have GV := Lib.hid (fun W => rgiven_yes W hgv)
  have WG := Lib.hid (fun W => rword_any A C 0 0 cy W)
  rw [eencV_yes (by unfold gvB at hgv; rw [Bool.and_eq_true, Bool.and_eq_true] at hgv; exact hgv.2.2), hG] at WG
  clear hAI hMI hgv hG
  have DU := Lib.hid (fun W => rdue_any A C S D Y cy W)
  rw [hd] at DU
  clear hd
  have TK := Lib.hid (fun W => rtaken_yes W hg)
  have WO := Lib.hid (fun W => rword_any A C 2 who Y W)
  rw [eencV_yes (by unfold tkB at hg; rw [Bool.and_eq_true] at hg; exact hg.2), hEE] at WO
  clear hg hEE
  rw [h1] at st
  rw [hz] at *
  have DE := Lib.hid hD
  clear hD
  go_wp2_with fail
  refine (DE.out _).mono ?_; rintro e w3 ⟨rfl, hb3⟩
  have hS3 := hS2.grew hb3
  clear DE st hb3 hS2
  go_upto_region 5 with fail
  have hE3 := RsE.new (A := A) (C := C) (S := S) (D := D) (Y := Y) hS3
  generalize w3.alloc (.cells #[.int .i64 A, .int .i64 C, .int .i64 S, .int .i64 D, .int .i64 Y] 71) = W3 at *
  generalize w3.heap.size = b at *
  obtain ⟨⟨m0, m1, m2, m3, m4, m5⟩, y0, y1, y2, y3, y4⟩ := hE3.cells
  clear hS3
  go_wp2_with fail
  refine (DU.out _).mono ?_; rintro e w4 ⟨rfl, hb4⟩
  have hE4 := hE3.grew hb4
  clear m0 m1 m2 m3 m4 m5 y0 y1 y2 y3 y4 hE3 hb4 DU
  obtain ⟨⟨m0, m1, m2, m3, m4, m5⟩, y0, y1, y2, y3, y4⟩ := hE4.cells
  go_wp2_with fail
  refine (TK.out _).mono ?_; rintro e w5 ⟨rfl, hb5⟩
  have hE5 := hE4.grew hb5
  clear m0 m1 m2 m3 m4 m5 y0 y1 y2 y3 y4 hE4 hb5 TK
  go_upto_region 8 with fail
  have hF5 : RsF w B x hv (t.ask 1 eI 0 0).2 P T b w5.heap.size A C S D Y A C 2 who Y (w5.alloc (.cells #[.int .i64 A, .int .i64 C, .int .i64 2, .int .i64 who, .int .i64 Y] 71)) := ⟨hE5.grew ((Below.refl _ _).alloc (Nat.le_refl _) _), Blk.new _ _ _, hE5.rs.tch.size⟩
  generalize w5.alloc (.cells #[.int .i64 A, .int .i64 C, .int .i64 2, .int .i64 who, .int .i64 Y] 71) = W5 at *
  generalize w5.heap.size = b2 at *
  have hF5d := hF5.drew
  have CA := Lib.hid (fun W (h : RsF w B x hv (t.ask 1 eI 0 0).2 P T b b2 A C S D Y A C 2 who Y W) => h.cas eI z E)
  rw [h3, ht2] at CA
  clear hE5
  go_wp2_with fail
  go_region_held3 (fun W' => (W'.cell? ⟨w.heap.size, 0, none⟩ = some (.int .i64 P) ∧ W'.cell? ⟨w.heap.size, 1, none⟩ = some (.int .i64 T) ∧ W'.cell? ⟨w.heap.size, 2, none⟩ = some (.int .i64 1) ∧ W'.cell? ⟨w.heap.size, 3, none⟩ = some (.int .i64 (baseI P T 1)) ∧ W'.cell? ⟨w.heap.size, 4, none⟩ = some (.int .i64 (tabI T 1)) ∧ W'.cell? ⟨w.heap.size, 5, none⟩ = some (.int .i64 (baseI P T 1 + 64 * P))) ∧ (W'.cell? ⟨b2, 0, none⟩ = some (.int .i64 A) ∧ W'.cell? ⟨b2, 1, none⟩ = some (.int .i64 C) ∧ W'.cell? ⟨b2, 2, none⟩ = some (.int .i64 2) ∧ W'.cell? ⟨b2, 3, none⟩ = some (.int .i64 who) ∧ W'.cell? ⟨b2, 4, none⟩ = some (.int .i64 Y)))
    ((with_reducible exact RsF.cells (by assumption)))
    (first
      | (go_at_call 24; refine (PE.out _).mono ?_; rintro e w6 ⟨rfl, hb6⟩; have hF6 := RsF.grew (by assumption) hb6)
      | (go_at_call 40; refine (WO.out _).mono ?_; rintro e w7 ⟨rfl, hb7⟩; have hF7 := RsF.grew (by assumption) hb7)
      | (go_at_call 39; refine (CA.out _ (by assumption)).mono ?_; rintro e w8 ⟨rfl, hF8⟩))
  all_goals
    replace hF8 := hF8.re
    have st := hF8.rs.stop
    clear hF5 hF5d CA WO
    try clear hF6 hb6
    try clear hF7 hb7
    rw [ht2] at h2
    rw [h2] at st
    have hE8 := hF8
    clear hF8
    have hm1U : U64 m1.1 := by rw [← hm1]; exact ask_U hE8.rs.hU _ _ _ _
    have ha1U : U64 a1.1 := by rw [← ha1]; exact ask_U (by rw [← hm1, ask_H]; exact hE8.rs.hU) _ _ _ _
    have BO := Lib.hid (fun W => both_any a1.1 m1.1 W ha1U hm1U)
    rw [hlf] at BO
    have hlfU : U64 lf := by rw [← hlf]; exact (and_natP _ _ ha1U hm1U).1
    have PLa := Lib.hid (fun W => places_lenZ a1.1 W ha1U)
    have PLl := Lib.hid (fun W => places_lenZ lf W hlfU)
    have hna := plcs_len_le a1.1.toNat 64
    have hnl := plcs_len_le lf.toNat 64
    have hsub : wrap64 (((plcs a1.1.toNat 64).length : Int) - ((plcs lf.toNat 64).length : Int)) = ((plcs a1.1.toNat 64).length : Int) - ((plcs lf.toNat 64).length : Int) := IntWalk.wrap64_in _ (by omega)
    clear hm1U ha1U hlfU hlf 
    obtain ⟨⟨m0, m1', m2, m3, m4, m5⟩, y0, y1, y2, y3, y4⟩ := hE8.cells
    go_wp2_with fail
    refine (PMK.out _).mono ?_; rintro e w9 ⟨rfl, hb9⟩
    have hE9 := hE8.grew hb9
    clear m0 m1' m2 m3 m4 m5 y0 y1 y2 y3 y4
    clear hb9 hE8 st
    have LD10 := Lib.hid (hE9.load mI)
    rw [hm1] at LD10
    go_wp2_with fail
    refine LD10.out.mono ?_; rintro e w10 ⟨rfl, hE10⟩
    clear LD10 hE9
    obtain ⟨⟨m0, m1', m2, m3, m4, m5⟩, y0, y1, y2, y3, y4⟩ := hE10.cells
    go_wp2_with fail
    refine (PAL.out _).mono ?_; rintro e w11 ⟨rfl, hb11⟩
    have hE11 := hE10.grew hb11
    clear m0 m1' m2 m3 m4 m5 y0 y1 y2 y3 y4
    clear hb11 hE10
    have LD12 := Lib.hid (hE11.load aI)
    rw [ha1] at LD12
    go_wp2_with fail
    refine LD12.out.mono ?_; rintro e w12 ⟨rfl, hE12⟩
    clear LD12 hE11
    obtain ⟨⟨m0, m1', m2, m3, m4, m5⟩, y0, y1, y2, y3, y4⟩ := hE12.cells
    go_wp2_with fail
    refine (BO.out _).mono ?_; rintro e w13 ⟨rfl, hb13⟩
    have hE13 := hE12.grew hb13
    clear m0 m1' m2 m3 m4 m5 y0 y1 y2 y3 y4
    clear hb13 hE12
    obtain ⟨⟨m0, m1', m2, m3, m4, m5⟩, y0, y1, y2, y3, y4⟩ := hE13.cells
    go_wp2_with fail
    refine (PAL.out _).mono ?_; rintro e w14 ⟨rfl, hb14⟩
    have hE14 := hE13.grew hb14
    clear m0 m1' m2 m3 m4 m5 y0 y1 y2 y3 y4
    clear hb14 hE13
    have SD15 := Lib.hid (hE14.store aI lf)
    rw [ht5] at SD15
    go_wp2_with fail
    refine SD15.out.mono ?_; rintro e w15 ⟨⟨u15, rfl⟩, hE15⟩
    clear SD15 hE14
    obtain ⟨⟨m0, m1', m2, m3, m4, m5⟩, y0, y1, y2, y3, y4⟩ := hE15.cells
    go_wp2_with fail
    refine (PMK.out _).mono ?_; rintro e w16 ⟨rfl, hb16⟩
    have hE16 := hE15.grew hb16
    clear m0 m1' m2 m3 m4 m5 y0 y1 y2 y3 y4
    clear hb16 hE15
    have SD17 := Lib.hid (hE16.store mI 0)
    rw [ht6] at SD17
    go_wp2_with fail
    refine SD17.out.mono ?_; rintro e w17 ⟨⟨u17, rfl⟩, hE17⟩
    clear SD17 hE16
    rw [ht7] at hE17
    obtain ⟨⟨m0, m1', m2, m3, m4, m5⟩, y0, y1, y2, y3, y4⟩ := hE17.cells
    go_wp2_with fail
    refine (PE.out _).mono ?_; rintro e w20 ⟨rfl, hb20⟩
    have hE20 := hE17.grew hb20
    clear m0 m1' m2 m3 m4 m5 y0 y1 y2 y3 y4
    clear hb20 hE17
    have SD21 := Lib.hid (hE20.store eI 0)
    rw [ht8] at SD21
    go_wp2_with fail
    refine SD21.out.mono ?_; rintro e w21 ⟨⟨u21, rfl⟩, hE21⟩
    clear SD21 hE20
    have st := hE21.rs.stop
    rw [hst8] at st
    go_wp2_with fail
    refine (PLa.out _).mono ?_; rintro e w24 ⟨aa, ac, rfl, hb24⟩
    have hE24 := hE21.grew hb24
    go_wp2_with fail
    refine (PLl.out _).mono ?_; rintro e w25 ⟨la, lc, rfl, hb25⟩
    have hE25 := hE24.grew hb25
    clear hE21 hE24 hb24 hb25 st
    obtain ⟨hT9, ht9, hR9⟩ := hE25.rs.ret ⟨true, true, true, false, ((plcs a1.1.toNat 64).length : Int) - ((plcs lf.toNat 64).length : Int)⟩
    dsimp only [rw0, Swr.V] at hT9 ht9 hR9
    obtain ⟨v0, v1, v2, v3, v4⟩ := hE25.rs.res.five
    have q0 := hE25.rs.res.frozen 0
    have q1 := hE25.rs.res.frozen 1
    have q2 := hE25.rs.res.frozen 2
    have q3 := hE25.rs.res.frozen 3
    have q4 := hE25.rs.res.frozen 4
    replace hT9 := Lib.hid hT9
    replace ht9 := Lib.hid ht9
    replace hR9 := Lib.hid hR9
    clear hE25
    go_wp2
    obtain ⟨u0, u1, u2, u3, u4⟩ := hR9.out.five
    refine bodyPost_ret (v := .agg (Swr.V ⟨true, true, true, false, ((plcs a1.1.toNat 64).length : Int) - ((plcs lf.toNat 64).length : Int)⟩)) (by simp [results, Tryz.results10, go_sem, Swr.V, rw0, u0, u1, u2, u3, u4]) rfl ⟨rfl, hT9.out, ht9.out⟩
set_option maxRecDepth 100000 in
set_option maxHeartbeats 4000000 in
theorem rsw_endsnt (hT : TapeAt w B x hv t) (hx : x < w.heap.size) (hB : ∀ g, hv.ownBlock = some g → g < w.heap.size) (hm : t.H.length ≤ 1000000) (hU : ∀ z ∈ t.H, U64 z) (hE : wrap64 (tabI T 1 + pg) = eI) (h1 : (t.ask 1 eI 0 0).2.st = false) (hz : (t.ask 1 eI 0 0).1 = z) (hD : ∀ W, Calls Tryz.prog 36 #[.int .u64 z] W fun e w' => e = .returned (.tuple #[.agg #[.int .i64 A, .int .i64 C, .int .i64 S, .int .i64 D, .int .i64 Y], .int .i64 0]) ∧ Below W.heap.size W w') (hS2' : (S == 2) = false) (hA : (A == 2) = false) (hd : dueB A C S D Y cy = true) (hg : tkB A C S D Y 2 who = true) (E : Int) (hEE : encE A C 2 who Y = E) (hAI : wrap64 (wrap64 (tabI T 1 + P) + pg) = aI) (hMI : wrap64 (wrap64 (tabI T 1 + wrap64 (2 * P)) + pg) = mI) (h2 : ((t.ask 1 eI 0 0).2.ask 4 eI z E).2.st = false) (h3 : (((t.ask 1 eI 0 0).2.ask 4 eI z E).1 == z) = true) (t2 : Tp) (ht2 : ((t.ask 1 eI 0 0).2.ask 4 eI z E).2 = t2) (m1 a1 : Int × Tp) (hm1 : t2.ask 1 mI 0 0 = m1) (ha1 : m1.2.ask 1 aI 0 0 = a1) (lf : Int) (hlf : bits .and .u64 a1.1 m1.1 = lf) (t5 t6 t7 t8 : Tp) (ht5 : (a1.2.ask 2 aI 0 lf).2 = t5) (ht6 : (t5.ask 2 mI 0 0).2 = t6) (ht7 : t6 = t7) (hl0 : (lf == 0) = false) (G : Int) (hG : encE A C 0 0 cy = G) (hgv : gvB A C S D Y cy = true) (ht8 : (t7.ask 2 eI 0 G).2 = t8) (hst8 : t8.st = true) :
    Calls Tryz.prog 10 #[.pointer (some ⟨x, 0, none⟩), .agg #[.int .i64 P, .int .i64 T, .int .i64 1, .int .i64 (baseI P T 1), .int .i64 (tabI T 1), .int .i64 (baseI P T 1 + 64 * P)], .int .i64 who, .int .i64 cy, .int .i64 pg] w (RsPost w B x hv rw0 t8) := by
  have PE := Lib.hid (fun W => pmPage_any P T 1 (baseI P T 1) (tabI T 1) (baseI P T 1 + 64 * P) pg W)
  rw [hE] at PE
  have hS := RsS.new (P := P) (T := T) hT hx hB hm hU
  unfold RsPost
  clear hT hB hm hE
  go_enter Tryz.func10, Tryz.ntmps10
  go_upto_region 1 with fail
  generalize (w.alloc (.cells #[.int .i64 P, .int .i64 T, .int .i64 1, .int .i64 (baseI P T 1), .int .i64 (tabI T 1), .int .i64 (baseI P T 1 + 64 * P)] 33)).alloc (.cells #[.bool false, .bool false, .bool false, .bool false, .int .i64 0] 54) = W at *
  obtain ⟨x0, x1, x2, x3, x4, x5⟩ := hS.six
  go_wp2_with fail
  refine (PE.out _).mono ?_; rintro e w1 ⟨rfl, hb1⟩
  have hS1 := hS.grew hb1
  clear x0 x1 x2 x3 x4 x5 hS hb1
  go_wp2_with fail
  refine (hS1.load eI).mono ?_; rintro e w2 ⟨rfl, hS2⟩
  clear hS1
  have st := hS2.stop
  have PAL := Lib.hid (fun W => pmAlloc_any P T 1 (baseI P T 1) (tabI T 1) (baseI P T 1 + 64 * P) pg W)
  rw [hAI] at PAL
  have PMK := Lib.hid (fun W => pmMark_any P T 1 (baseI P T 1) (tabI T 1) (baseI P T 1 + 64 * P) pg W)
  rw [hMI] at PMK
  have GV := Lib.hid (fun W => rgiven_yes W hgv)
  have WG := Lib.hid (fun W => rword_any A C 0 0 cy W)
  rw [eencV_yes (by unfold gvB at hgv; rw [Bool.and_eq_true, Bool.and_eq_true] at hgv; exact hgv.2.2), hG] at WG
  clear hAI hMI hgv hG
  have DU := Lib.hid (fun W => rdue_any A C S D Y cy W)
  rw [hd] at DU
  clear hd
  have TK := Lib.hid (fun W => rtaken_yes W hg)
  have WO := Lib.hid (fun W => rword_any A C 2 who Y W)
  rw [eencV_yes (by unfold tkB at hg; rw [Bool.and_eq_true] at hg; exact hg.2), hEE] at WO
  clear hg hEE
  rw [h1] at st
  rw [hz] at *
  have DE := Lib.hid hD
  clear hD
  go_wp2_with fail
  refine (DE.out _).mono ?_; rintro e w3 ⟨rfl, hb3⟩
  have hS3 := hS2.grew hb3
  clear DE st hb3 hS2
  go_upto_region 5 with fail
  have hE3 := RsE.new (A := A) (C := C) (S := S) (D := D) (Y := Y) hS3
  generalize w3.alloc (.cells #[.int .i64 A, .int .i64 C, .int .i64 S, .int .i64 D, .int .i64 Y] 71) = W3 at *
  generalize w3.heap.size = b at *
  obtain ⟨⟨m0, m1, m2, m3, m4, m5⟩, y0, y1, y2, y3, y4⟩ := hE3.cells
  clear hS3
  go_wp2_with fail
  refine (DU.out _).mono ?_; rintro e w4 ⟨rfl, hb4⟩
  have hE4 := hE3.grew hb4
  clear m0 m1 m2 m3 m4 m5 y0 y1 y2 y3 y4 hE3 hb4 DU
  obtain ⟨⟨m0, m1, m2, m3, m4, m5⟩, y0, y1, y2, y3, y4⟩ := hE4.cells
  go_wp2_with fail
  refine (TK.out _).mono ?_; rintro e w5 ⟨rfl, hb5⟩
  have hE5 := hE4.grew hb5
  clear m0 m1 m2 m3 m4 m5 y0 y1 y2 y3 y4 hE4 hb5 TK
  go_upto_region 8 with fail
  have hF5 : RsF w B x hv (t.ask 1 eI 0 0).2 P T b w5.heap.size A C S D Y A C 2 who Y (w5.alloc (.cells #[.int .i64 A, .int .i64 C, .int .i64 2, .int .i64 who, .int .i64 Y] 71)) := ⟨hE5.grew ((Below.refl _ _).alloc (Nat.le_refl _) _), Blk.new _ _ _, hE5.rs.tch.size⟩
  generalize w5.alloc (.cells #[.int .i64 A, .int .i64 C, .int .i64 2, .int .i64 who, .int .i64 Y] 71) = W5 at *
  generalize w5.heap.size = b2 at *
  have hF5d := hF5.drew
  have CA := Lib.hid (fun W (h : RsF w B x hv (t.ask 1 eI 0 0).2 P T b b2 A C S D Y A C 2 who Y W) => h.cas eI z E)
  rw [h3, ht2] at CA
  clear hE5
  go_wp2_with fail
  go_region_held3 (fun W' => (W'.cell? ⟨w.heap.size, 0, none⟩ = some (.int .i64 P) ∧ W'.cell? ⟨w.heap.size, 1, none⟩ = some (.int .i64 T) ∧ W'.cell? ⟨w.heap.size, 2, none⟩ = some (.int .i64 1) ∧ W'.cell? ⟨w.heap.size, 3, none⟩ = some (.int .i64 (baseI P T 1)) ∧ W'.cell? ⟨w.heap.size, 4, none⟩ = some (.int .i64 (tabI T 1)) ∧ W'.cell? ⟨w.heap.size, 5, none⟩ = some (.int .i64 (baseI P T 1 + 64 * P))) ∧ (W'.cell? ⟨b2, 0, none⟩ = some (.int .i64 A) ∧ W'.cell? ⟨b2, 1, none⟩ = some (.int .i64 C) ∧ W'.cell? ⟨b2, 2, none⟩ = some (.int .i64 2) ∧ W'.cell? ⟨b2, 3, none⟩ = some (.int .i64 who) ∧ W'.cell? ⟨b2, 4, none⟩ = some (.int .i64 Y)))
    ((with_reducible exact RsF.cells (by assumption)))
    (first
      | (go_at_call 24; refine (PE.out _).mono ?_; rintro e w6 ⟨rfl, hb6⟩; have hF6 := RsF.grew (by assumption) hb6)
      | (go_at_call 40; refine (WO.out _).mono ?_; rintro e w7 ⟨rfl, hb7⟩; have hF7 := RsF.grew (by assumption) hb7)
      | (go_at_call 39; refine (CA.out _ (by assumption)).mono ?_; rintro e w8 ⟨rfl, hF8⟩))
  all_goals
    replace hF8 := hF8.re
    have st := hF8.rs.stop
    clear hF5 hF5d CA WO
    try clear hF6 hb6
    try clear hF7 hb7
    rw [ht2] at h2
    rw [h2] at st
    have hE8 := hF8
    clear hF8
    have hm1U : U64 m1.1 := by rw [← hm1]; exact ask_U hE8.rs.hU _ _ _ _
    have ha1U : U64 a1.1 := by rw [← ha1]; exact ask_U (by rw [← hm1, ask_H]; exact hE8.rs.hU) _ _ _ _
    have BO := Lib.hid (fun W => both_any a1.1 m1.1 W ha1U hm1U)
    rw [hlf] at BO
    have hlfU : U64 lf := by rw [← hlf]; exact (and_natP _ _ ha1U hm1U).1
    have PLa := Lib.hid (fun W => places_lenZ a1.1 W ha1U)
    have PLl := Lib.hid (fun W => places_lenZ lf W hlfU)
    have hna := plcs_len_le a1.1.toNat 64
    have hnl := plcs_len_le lf.toNat 64
    have hsub : wrap64 (((plcs a1.1.toNat 64).length : Int) - ((plcs lf.toNat 64).length : Int)) = ((plcs a1.1.toNat 64).length : Int) - ((plcs lf.toNat 64).length : Int) := IntWalk.wrap64_in _ (by omega)
    clear hm1U ha1U hlfU hlf 
    obtain ⟨⟨m0, m1', m2, m3, m4, m5⟩, y0, y1, y2, y3, y4⟩ := hE8.cells
    go_wp2_with fail
    refine (PMK.out _).mono ?_; rintro e w9 ⟨rfl, hb9⟩
    have hE9 := hE8.grew hb9
    clear m0 m1' m2 m3 m4 m5 y0 y1 y2 y3 y4
    clear hb9 hE8 st
    have LD10 := Lib.hid (hE9.load mI)
    rw [hm1] at LD10
    go_wp2_with fail
    refine LD10.out.mono ?_; rintro e w10 ⟨rfl, hE10⟩
    clear LD10 hE9
    obtain ⟨⟨m0, m1', m2, m3, m4, m5⟩, y0, y1, y2, y3, y4⟩ := hE10.cells
    go_wp2_with fail
    refine (PAL.out _).mono ?_; rintro e w11 ⟨rfl, hb11⟩
    have hE11 := hE10.grew hb11
    clear m0 m1' m2 m3 m4 m5 y0 y1 y2 y3 y4
    clear hb11 hE10
    have LD12 := Lib.hid (hE11.load aI)
    rw [ha1] at LD12
    go_wp2_with fail
    refine LD12.out.mono ?_; rintro e w12 ⟨rfl, hE12⟩
    clear LD12 hE11
    obtain ⟨⟨m0, m1', m2, m3, m4, m5⟩, y0, y1, y2, y3, y4⟩ := hE12.cells
    go_wp2_with fail
    refine (BO.out _).mono ?_; rintro e w13 ⟨rfl, hb13⟩
    have hE13 := hE12.grew hb13
    clear m0 m1' m2 m3 m4 m5 y0 y1 y2 y3 y4
    clear hb13 hE12
    obtain ⟨⟨m0, m1', m2, m3, m4, m5⟩, y0, y1, y2, y3, y4⟩ := hE13.cells
    go_wp2_with fail
    refine (PAL.out _).mono ?_; rintro e w14 ⟨rfl, hb14⟩
    have hE14 := hE13.grew hb14
    clear m0 m1' m2 m3 m4 m5 y0 y1 y2 y3 y4
    clear hb14 hE13
    have SD15 := Lib.hid (hE14.store aI lf)
    rw [ht5] at SD15
    go_wp2_with fail
    refine SD15.out.mono ?_; rintro e w15 ⟨⟨u15, rfl⟩, hE15⟩
    clear SD15 hE14
    obtain ⟨⟨m0, m1', m2, m3, m4, m5⟩, y0, y1, y2, y3, y4⟩ := hE15.cells
    go_wp2_with fail
    refine (PMK.out _).mono ?_; rintro e w16 ⟨rfl, hb16⟩
    have hE16 := hE15.grew hb16
    clear m0 m1' m2 m3 m4 m5 y0 y1 y2 y3 y4
    clear hb16 hE15
    have SD17 := Lib.hid (hE16.store mI 0)
    rw [ht6] at SD17
    go_wp2_with fail
    refine SD17.out.mono ?_; rintro e w17 ⟨⟨u17, rfl⟩, hE17⟩
    clear SD17 hE16
    rw [ht7] at hE17
    obtain ⟨⟨m0, m1', m2, m3, m4, m5⟩, y0, y1, y2, y3, y4⟩ := hE17.cells
    go_wp2_with fail
    refine (GV.out _).mono ?_; rintro e w20 ⟨rfl, hb20⟩
    have hE20 := hE17.grew hb20
    clear m0 m1' m2 m3 m4 m5 y0 y1 y2 y3 y4
    clear hb20 hE17
    go_upto_region 28 with fail
    have hF20 : RsF w B x hv t7 P T b w20.heap.size A C S D Y A C 0 0 cy (w20.alloc (.cells #[.int .i64 A, .int .i64 C, .int .i64 0, .int .i64 0, .int .i64 cy] 71)) := ⟨hE20.grew ((Below.refl _ _).alloc (Nat.le_refl _) _), Blk.new _ _ _, hE20.rs.tch.size⟩
    generalize w20.alloc (.cells #[.int .i64 A, .int .i64 C, .int .i64 0, .int .i64 0, .int .i64 cy] 71) = W20 at *
    generalize w20.heap.size = b3 at *
    have hF20d := hF20.drew
    have SA := Lib.hid (fun W (h : RsF w B x hv t7 P T b b3 A C S D Y A C 0 0 cy W) => h.store eI G)
    rw [ht8] at SA
    clear hE20
    go_wp2_with fail
    go_region_held3 (fun W' => (W'.cell? ⟨w.heap.size, 0, none⟩ = some (.int .i64 P) ∧ W'.cell? ⟨w.heap.size, 1, none⟩ = some (.int .i64 T) ∧ W'.cell? ⟨w.heap.size, 2, none⟩ = some (.int .i64 1) ∧ W'.cell? ⟨w.heap.size, 3, none⟩ = some (.int .i64 (baseI P T 1)) ∧ W'.cell? ⟨w.heap.size, 4, none⟩ = some (.int .i64 (tabI T 1)) ∧ W'.cell? ⟨w.heap.size, 5, none⟩ = some (.int .i64 (baseI P T 1 + 64 * P))) ∧ (W'.cell? ⟨b3, 0, none⟩ = some (.int .i64 A) ∧ W'.cell? ⟨b3, 1, none⟩ = some (.int .i64 C) ∧ W'.cell? ⟨b3, 2, none⟩ = some (.int .i64 0) ∧ W'.cell? ⟨b3, 3, none⟩ = some (.int .i64 0) ∧ W'.cell? ⟨b3, 4, none⟩ = some (.int .i64 cy)))
      ((with_reducible exact RsF.cells (by assumption)))
      (first
        | (go_at_call 24; refine (PE.out _).mono ?_; rintro e w21 ⟨rfl, hb21⟩; have hF21 := RsF.grew (by assumption) hb21)
        | (go_at_call 40; refine (WG.out _).mono ?_; rintro e w22 ⟨rfl, hb22⟩; have hF22 := RsF.grew (by assumption) hb22)
        | (go_at_call 42; refine (SA.out _ (by assumption)).mono ?_; rintro e w23 ⟨⟨u23, rfl⟩, hF23⟩))
    all_goals
      have hE21 := hF23.re
      clear hF20 hF20d SA hF23
      have st := hE21.rs.stop
      rw [hst8] at st
      obtain ⟨hT9, ht9, hR9⟩ := hE21.rs.ret rw0
      dsimp only [rw0, Swr.V] at hT9 ht9 hR9
      obtain ⟨v0, v1, v2, v3, v4⟩ := hE21.rs.res.five
      have q0 := hE21.rs.res.frozen 0
      have q1 := hE21.rs.res.frozen 1
      have q2 := hE21.rs.res.frozen 2
      have q3 := hE21.rs.res.frozen 3
      have q4 := hE21.rs.res.frozen 4
      replace hT9 := Lib.hid hT9
      replace ht9 := Lib.hid ht9
      replace hR9 := Lib.hid hR9
      clear hE21
      go_wp2
      obtain ⟨u0, u1, u2, u3, u4⟩ := hR9.out.five
      refine bodyPost_ret (v := .agg (Swr.V rw0)) (by simp [results, Tryz.results10, go_sem, Swr.V, rw0, u0, u1, u2, u3, u4]) rfl ⟨rfl, hT9.out, ht9.out⟩
set_option maxRecDepth 100000 in
set_option maxHeartbeats 4000000 in
theorem rsw_endsnf (hT : TapeAt w B x hv t) (hx : x < w.heap.size) (hB : ∀ g, hv.ownBlock = some g → g < w.heap.size) (hm : t.H.length ≤ 1000000) (hU : ∀ z ∈ t.H, U64 z) (hE : wrap64 (tabI T 1 + pg) = eI) (h1 : (t.ask 1 eI 0 0).2.st = false) (hz : (t.ask 1 eI 0 0).1 = z) (hD : ∀ W, Calls Tryz.prog 36 #[.int .u64 z] W fun e w' => e = .returned (.tuple #[.agg #[.int .i64 A, .int .i64 C, .int .i64 S, .int .i64 D, .int .i64 Y], .int .i64 0]) ∧ Below W.heap.size W w') (hS2' : (S == 2) = false) (hA : (A == 2) = false) (hd : dueB A C S D Y cy = true) (hg : tkB A C S D Y 2 who = true) (E : Int) (hEE : encE A C 2 who Y = E) (hAI : wrap64 (wrap64 (tabI T 1 + P) + pg) = aI) (hMI : wrap64 (wrap64 (tabI T 1 + wrap64 (2 * P)) + pg) = mI) (h2 : ((t.ask 1 eI 0 0).2.ask 4 eI z E).2.st = false) (h3 : (((t.ask 1 eI 0 0).2.ask 4 eI z E).1 == z) = true) (t2 : Tp) (ht2 : ((t.ask 1 eI 0 0).2.ask 4 eI z E).2 = t2) (m1 a1 : Int × Tp) (hm1 : t2.ask 1 mI 0 0 = m1) (ha1 : m1.2.ask 1 aI 0 0 = a1) (lf : Int) (hlf : bits .and .u64 a1.1 m1.1 = lf) (t5 t6 t7 t8 : Tp) (ht5 : (a1.2.ask 2 aI 0 lf).2 = t5) (ht6 : (t5.ask 2 mI 0 0).2 = t6) (ht7 : t6 = t7) (hl0 : (lf == 0) = false) (G : Int) (hG : encE A C 0 0 cy = G) (hgv : gvB A C S D Y cy = true) (ht8 : (t7.ask 2 eI 0 G).2 = t8) (hst8 : t8.st = false) :
    Calls Tryz.prog 10 #[.pointer (some ⟨x, 0, none⟩), .agg #[.int .i64 P, .int .i64 T, .int .i64 1, .int .i64 (baseI P T 1), .int .i64 (tabI T 1), .int .i64 (baseI P T 1 + 64 * P)], .int .i64 who, .int .i64 cy, .int .i64 pg] w (RsPost w B x hv ⟨true, true, false, false, ((plcs a1.1.toNat 64).length : Int) - ((plcs lf.toNat 64).length : Int)⟩ t8) := by
  have PE := Lib.hid (fun W => pmPage_any P T 1 (baseI P T 1) (tabI T 1) (baseI P T 1 + 64 * P) pg W)
  rw [hE] at PE
  have hS := RsS.new (P := P) (T := T) hT hx hB hm hU
  unfold RsPost
  clear hT hB hm hE
  go_enter Tryz.func10, Tryz.ntmps10
  go_upto_region 1 with fail
  generalize (w.alloc (.cells #[.int .i64 P, .int .i64 T, .int .i64 1, .int .i64 (baseI P T 1), .int .i64 (tabI T 1), .int .i64 (baseI P T 1 + 64 * P)] 33)).alloc (.cells #[.bool false, .bool false, .bool false, .bool false, .int .i64 0] 54) = W at *
  obtain ⟨x0, x1, x2, x3, x4, x5⟩ := hS.six
  go_wp2_with fail
  refine (PE.out _).mono ?_; rintro e w1 ⟨rfl, hb1⟩
  have hS1 := hS.grew hb1
  clear x0 x1 x2 x3 x4 x5 hS hb1
  go_wp2_with fail
  refine (hS1.load eI).mono ?_; rintro e w2 ⟨rfl, hS2⟩
  clear hS1
  have st := hS2.stop
  have PAL := Lib.hid (fun W => pmAlloc_any P T 1 (baseI P T 1) (tabI T 1) (baseI P T 1 + 64 * P) pg W)
  rw [hAI] at PAL
  have PMK := Lib.hid (fun W => pmMark_any P T 1 (baseI P T 1) (tabI T 1) (baseI P T 1 + 64 * P) pg W)
  rw [hMI] at PMK
  have GV := Lib.hid (fun W => rgiven_yes W hgv)
  have WG := Lib.hid (fun W => rword_any A C 0 0 cy W)
  rw [eencV_yes (by unfold gvB at hgv; rw [Bool.and_eq_true, Bool.and_eq_true] at hgv; exact hgv.2.2), hG] at WG
  clear hAI hMI hgv hG
  have DU := Lib.hid (fun W => rdue_any A C S D Y cy W)
  rw [hd] at DU
  clear hd
  have TK := Lib.hid (fun W => rtaken_yes W hg)
  have WO := Lib.hid (fun W => rword_any A C 2 who Y W)
  rw [eencV_yes (by unfold tkB at hg; rw [Bool.and_eq_true] at hg; exact hg.2), hEE] at WO
  clear hg hEE
  rw [h1] at st
  rw [hz] at *
  have DE := Lib.hid hD
  clear hD
  go_wp2_with fail
  refine (DE.out _).mono ?_; rintro e w3 ⟨rfl, hb3⟩
  have hS3 := hS2.grew hb3
  clear DE st hb3 hS2
  go_upto_region 5 with fail
  have hE3 := RsE.new (A := A) (C := C) (S := S) (D := D) (Y := Y) hS3
  generalize w3.alloc (.cells #[.int .i64 A, .int .i64 C, .int .i64 S, .int .i64 D, .int .i64 Y] 71) = W3 at *
  generalize w3.heap.size = b at *
  obtain ⟨⟨m0, m1, m2, m3, m4, m5⟩, y0, y1, y2, y3, y4⟩ := hE3.cells
  clear hS3
  go_wp2_with fail
  refine (DU.out _).mono ?_; rintro e w4 ⟨rfl, hb4⟩
  have hE4 := hE3.grew hb4
  clear m0 m1 m2 m3 m4 m5 y0 y1 y2 y3 y4 hE3 hb4 DU
  obtain ⟨⟨m0, m1, m2, m3, m4, m5⟩, y0, y1, y2, y3, y4⟩ := hE4.cells
  go_wp2_with fail
  refine (TK.out _).mono ?_; rintro e w5 ⟨rfl, hb5⟩
  have hE5 := hE4.grew hb5
  clear m0 m1 m2 m3 m4 m5 y0 y1 y2 y3 y4 hE4 hb5 TK
  go_upto_region 8 with fail
  have hF5 : RsF w B x hv (t.ask 1 eI 0 0).2 P T b w5.heap.size A C S D Y A C 2 who Y (w5.alloc (.cells #[.int .i64 A, .int .i64 C, .int .i64 2, .int .i64 who, .int .i64 Y] 71)) := ⟨hE5.grew ((Below.refl _ _).alloc (Nat.le_refl _) _), Blk.new _ _ _, hE5.rs.tch.size⟩
  generalize w5.alloc (.cells #[.int .i64 A, .int .i64 C, .int .i64 2, .int .i64 who, .int .i64 Y] 71) = W5 at *
  generalize w5.heap.size = b2 at *
  have hF5d := hF5.drew
  have CA := Lib.hid (fun W (h : RsF w B x hv (t.ask 1 eI 0 0).2 P T b b2 A C S D Y A C 2 who Y W) => h.cas eI z E)
  rw [h3, ht2] at CA
  clear hE5
  go_wp2_with fail
  go_region_held3 (fun W' => (W'.cell? ⟨w.heap.size, 0, none⟩ = some (.int .i64 P) ∧ W'.cell? ⟨w.heap.size, 1, none⟩ = some (.int .i64 T) ∧ W'.cell? ⟨w.heap.size, 2, none⟩ = some (.int .i64 1) ∧ W'.cell? ⟨w.heap.size, 3, none⟩ = some (.int .i64 (baseI P T 1)) ∧ W'.cell? ⟨w.heap.size, 4, none⟩ = some (.int .i64 (tabI T 1)) ∧ W'.cell? ⟨w.heap.size, 5, none⟩ = some (.int .i64 (baseI P T 1 + 64 * P))) ∧ (W'.cell? ⟨b2, 0, none⟩ = some (.int .i64 A) ∧ W'.cell? ⟨b2, 1, none⟩ = some (.int .i64 C) ∧ W'.cell? ⟨b2, 2, none⟩ = some (.int .i64 2) ∧ W'.cell? ⟨b2, 3, none⟩ = some (.int .i64 who) ∧ W'.cell? ⟨b2, 4, none⟩ = some (.int .i64 Y)))
    ((with_reducible exact RsF.cells (by assumption)))
    (first
      | (go_at_call 24; refine (PE.out _).mono ?_; rintro e w6 ⟨rfl, hb6⟩; have hF6 := RsF.grew (by assumption) hb6)
      | (go_at_call 40; refine (WO.out _).mono ?_; rintro e w7 ⟨rfl, hb7⟩; have hF7 := RsF.grew (by assumption) hb7)
      | (go_at_call 39; refine (CA.out _ (by assumption)).mono ?_; rintro e w8 ⟨rfl, hF8⟩))
  all_goals
    replace hF8 := hF8.re
    have st := hF8.rs.stop
    clear hF5 hF5d CA WO
    try clear hF6 hb6
    try clear hF7 hb7
    rw [ht2] at h2
    rw [h2] at st
    have hE8 := hF8
    clear hF8
    have hm1U : U64 m1.1 := by rw [← hm1]; exact ask_U hE8.rs.hU _ _ _ _
    have ha1U : U64 a1.1 := by rw [← ha1]; exact ask_U (by rw [← hm1, ask_H]; exact hE8.rs.hU) _ _ _ _
    have BO := Lib.hid (fun W => both_any a1.1 m1.1 W ha1U hm1U)
    rw [hlf] at BO
    have hlfU : U64 lf := by rw [← hlf]; exact (and_natP _ _ ha1U hm1U).1
    have PLa := Lib.hid (fun W => places_lenZ a1.1 W ha1U)
    have PLl := Lib.hid (fun W => places_lenZ lf W hlfU)
    have hna := plcs_len_le a1.1.toNat 64
    have hnl := plcs_len_le lf.toNat 64
    have hsub : wrap64 (((plcs a1.1.toNat 64).length : Int) - ((plcs lf.toNat 64).length : Int)) = ((plcs a1.1.toNat 64).length : Int) - ((plcs lf.toNat 64).length : Int) := IntWalk.wrap64_in _ (by omega)
    clear hm1U ha1U hlfU hlf 
    obtain ⟨⟨m0, m1', m2, m3, m4, m5⟩, y0, y1, y2, y3, y4⟩ := hE8.cells
    go_wp2_with fail
    refine (PMK.out _).mono ?_; rintro e w9 ⟨rfl, hb9⟩
    have hE9 := hE8.grew hb9
    clear m0 m1' m2 m3 m4 m5 y0 y1 y2 y3 y4
    clear hb9 hE8 st
    have LD10 := Lib.hid (hE9.load mI)
    rw [hm1] at LD10
    go_wp2_with fail
    refine LD10.out.mono ?_; rintro e w10 ⟨rfl, hE10⟩
    clear LD10 hE9
    obtain ⟨⟨m0, m1', m2, m3, m4, m5⟩, y0, y1, y2, y3, y4⟩ := hE10.cells
    go_wp2_with fail
    refine (PAL.out _).mono ?_; rintro e w11 ⟨rfl, hb11⟩
    have hE11 := hE10.grew hb11
    clear m0 m1' m2 m3 m4 m5 y0 y1 y2 y3 y4
    clear hb11 hE10
    have LD12 := Lib.hid (hE11.load aI)
    rw [ha1] at LD12
    go_wp2_with fail
    refine LD12.out.mono ?_; rintro e w12 ⟨rfl, hE12⟩
    clear LD12 hE11
    obtain ⟨⟨m0, m1', m2, m3, m4, m5⟩, y0, y1, y2, y3, y4⟩ := hE12.cells
    go_wp2_with fail
    refine (BO.out _).mono ?_; rintro e w13 ⟨rfl, hb13⟩
    have hE13 := hE12.grew hb13
    clear m0 m1' m2 m3 m4 m5 y0 y1 y2 y3 y4
    clear hb13 hE12
    obtain ⟨⟨m0, m1', m2, m3, m4, m5⟩, y0, y1, y2, y3, y4⟩ := hE13.cells
    go_wp2_with fail
    refine (PAL.out _).mono ?_; rintro e w14 ⟨rfl, hb14⟩
    have hE14 := hE13.grew hb14
    clear m0 m1' m2 m3 m4 m5 y0 y1 y2 y3 y4
    clear hb14 hE13
    have SD15 := Lib.hid (hE14.store aI lf)
    rw [ht5] at SD15
    go_wp2_with fail
    refine SD15.out.mono ?_; rintro e w15 ⟨⟨u15, rfl⟩, hE15⟩
    clear SD15 hE14
    obtain ⟨⟨m0, m1', m2, m3, m4, m5⟩, y0, y1, y2, y3, y4⟩ := hE15.cells
    go_wp2_with fail
    refine (PMK.out _).mono ?_; rintro e w16 ⟨rfl, hb16⟩
    have hE16 := hE15.grew hb16
    clear m0 m1' m2 m3 m4 m5 y0 y1 y2 y3 y4
    clear hb16 hE15
    have SD17 := Lib.hid (hE16.store mI 0)
    rw [ht6] at SD17
    go_wp2_with fail
    refine SD17.out.mono ?_; rintro e w17 ⟨⟨u17, rfl⟩, hE17⟩
    clear SD17 hE16
    rw [ht7] at hE17
    obtain ⟨⟨m0, m1', m2, m3, m4, m5⟩, y0, y1, y2, y3, y4⟩ := hE17.cells
    go_wp2_with fail
    refine (GV.out _).mono ?_; rintro e w20 ⟨rfl, hb20⟩
    have hE20 := hE17.grew hb20
    clear m0 m1' m2 m3 m4 m5 y0 y1 y2 y3 y4
    clear hb20 hE17
    go_upto_region 28 with fail
    have hF20 : RsF w B x hv t7 P T b w20.heap.size A C S D Y A C 0 0 cy (w20.alloc (.cells #[.int .i64 A, .int .i64 C, .int .i64 0, .int .i64 0, .int .i64 cy] 71)) := ⟨hE20.grew ((Below.refl _ _).alloc (Nat.le_refl _) _), Blk.new _ _ _, hE20.rs.tch.size⟩
    generalize w20.alloc (.cells #[.int .i64 A, .int .i64 C, .int .i64 0, .int .i64 0, .int .i64 cy] 71) = W20 at *
    generalize w20.heap.size = b3 at *
    have hF20d := hF20.drew
    have SA := Lib.hid (fun W (h : RsF w B x hv t7 P T b b3 A C S D Y A C 0 0 cy W) => h.store eI G)
    rw [ht8] at SA
    clear hE20
    go_wp2_with fail
    go_region_held3 (fun W' => (W'.cell? ⟨w.heap.size, 0, none⟩ = some (.int .i64 P) ∧ W'.cell? ⟨w.heap.size, 1, none⟩ = some (.int .i64 T) ∧ W'.cell? ⟨w.heap.size, 2, none⟩ = some (.int .i64 1) ∧ W'.cell? ⟨w.heap.size, 3, none⟩ = some (.int .i64 (baseI P T 1)) ∧ W'.cell? ⟨w.heap.size, 4, none⟩ = some (.int .i64 (tabI T 1)) ∧ W'.cell? ⟨w.heap.size, 5, none⟩ = some (.int .i64 (baseI P T 1 + 64 * P))) ∧ (W'.cell? ⟨b3, 0, none⟩ = some (.int .i64 A) ∧ W'.cell? ⟨b3, 1, none⟩ = some (.int .i64 C) ∧ W'.cell? ⟨b3, 2, none⟩ = some (.int .i64 0) ∧ W'.cell? ⟨b3, 3, none⟩ = some (.int .i64 0) ∧ W'.cell? ⟨b3, 4, none⟩ = some (.int .i64 cy)))
      ((with_reducible exact RsF.cells (by assumption)))
      (first
        | (go_at_call 24; refine (PE.out _).mono ?_; rintro e w21 ⟨rfl, hb21⟩; have hF21 := RsF.grew (by assumption) hb21)
        | (go_at_call 40; refine (WG.out _).mono ?_; rintro e w22 ⟨rfl, hb22⟩; have hF22 := RsF.grew (by assumption) hb22)
        | (go_at_call 42; refine (SA.out _ (by assumption)).mono ?_; rintro e w23 ⟨⟨u23, rfl⟩, hF23⟩))
    all_goals
      have hE21 := hF23.re
      clear hF20 hF20d SA hF23
      have st := hE21.rs.stop
      rw [hst8] at st
      go_wp2_with fail
      refine (PLa.out _).mono ?_; rintro e w24 ⟨aa, ac, rfl, hb24⟩
      have hE24 := hE21.grew hb24
      go_wp2_with fail
      refine (PLl.out _).mono ?_; rintro e w25 ⟨la, lc, rfl, hb25⟩
      have hE25 := hE24.grew hb25
      clear hE21 hE24 hb24 hb25 st
      obtain ⟨hT9, ht9, hR9⟩ := hE25.rs.ret ⟨true, true, false, false, ((plcs a1.1.toNat 64).length : Int) - ((plcs lf.toNat 64).length : Int)⟩
      dsimp only [rw0, Swr.V] at hT9 ht9 hR9
      obtain ⟨v0, v1, v2, v3, v4⟩ := hE25.rs.res.five
      have q0 := hE25.rs.res.frozen 0
      have q1 := hE25.rs.res.frozen 1
      have q2 := hE25.rs.res.frozen 2
      have q3 := hE25.rs.res.frozen 3
      have q4 := hE25.rs.res.frozen 4
      replace hT9 := Lib.hid hT9
      replace ht9 := Lib.hid ht9
      replace hR9 := Lib.hid hR9
      clear hE25
      go_wp2
      obtain ⟨u0, u1, u2, u3, u4⟩ := hR9.out.five
      refine bodyPost_ret (v := .agg (Swr.V ⟨true, true, false, false, ((plcs a1.1.toNat 64).length : Int) - ((plcs lf.toNat 64).length : Int)⟩)) (by simp [results, Tryz.results10, go_sem, Swr.V, rw0, u0, u1, u2, u3, u4]) rfl ⟨rfl, hT9.out, ht9.out⟩
set_option maxRecDepth 100000 in
set_option maxHeartbeats 4000000 in
theorem rsw_endlzt (hT : TapeAt w B x hv t) (hx : x < w.heap.size) (hB : ∀ g, hv.ownBlock = some g → g < w.heap.size) (hm : t.H.length ≤ 1000000) (hU : ∀ z ∈ t.H, U64 z) (hE : wrap64 (tabI T 1 + pg) = eI) (h1 : (t.ask 1 eI 0 0).2.st = false) (hz : (t.ask 1 eI 0 0).1 = z) (hD : ∀ W, Calls Tryz.prog 36 #[.int .u64 z] W fun e w' => e = .returned (.tuple #[.agg #[.int .i64 A, .int .i64 C, .int .i64 S, .int .i64 D, .int .i64 Y], .int .i64 0]) ∧ Below W.heap.size W w') (hS2' : (S == 2) = false) (hA : A = 2) (hw : wrap64 (pg + C) = pg + C) (hp : ¬ pg + C > P) (hC : 1 ≤ C ∧ C ≤ 4) (hpg : 0 ≤ pg ∧ pg ≤ 31) (hd : dueB A C S D Y cy = true) (hg : tkB A C S D Y 2 who = true) (E : Int) (hEE : encE A C 2 who Y = E) (hAI : wrap64 (wrap64 (tabI T 1 + P) + pg) = aI) (hMI : wrap64 (wrap64 (tabI T 1 + wrap64 (2 * P)) + pg) = mI) (h2 : ((t.ask 1 eI 0 0).2.ask 4 eI z E).2.st = false) (h3 : (((t.ask 1 eI 0 0).2.ask 4 eI z E).1 == z) = true) (t2 : Tp) (ht2 : ((t.ask 1 eI 0 0).2.ask 4 eI z E).2 = t2) (m1 a1 : Int × Tp) (hm1 : t2.ask 1 mI 0 0 = m1) (ha1 : m1.2.ask 1 aI 0 0 = a1) (lf : Int) (lg : Int) (hlg : bits .and .u64 a1.1 m1.1 = lg) (hlf : Int.tmod lg 2 = lf) (t5 t6 t7 t8 : Tp) (ht5 : (a1.2.ask 2 aI 0 lf).2 = t5) (ht6 : (t5.ask 2 mI 0 0).2 = t6) (ht7 : tailT (tabI T 1) pg (C - 1).toNat t6 = t7) (hl0 : (lf == 0) = true) (G : Int) (hG : encE A C 0 0 cy = G) (hgv : gvB A C S D Y cy = true) (ht8 : (t7.ask 2 eI 0 0).2 = t8) (hst8 : t8.st = true) :
    Calls Tryz.prog 10 #[.pointer (some ⟨x, 0, none⟩), .agg #[.int .i64 P, .int .i64 T, .int .i64 1, .int .i64 (baseI P T 1), .int .i64 (tabI T 1), .int .i64 (baseI P T 1 + 64 * P)], .int .i64 who, .int .i64 cy, .int .i64 pg] w (RsPost w B x hv rw0 t8) := by
  have PE := Lib.hid (fun W => pmPage_any P T 1 (baseI P T 1) (tabI T 1) (baseI P T 1 + 64 * P) pg W)
  rw [hE] at PE
  have hS := RsS.new (P := P) (T := T) hT hx hB hm hU
  unfold RsPost
  clear hT hB hm hE
  go_enter Tryz.func10, Tryz.ntmps10
  go_upto_region 1 with fail
  generalize (w.alloc (.cells #[.int .i64 P, .int .i64 T, .int .i64 1, .int .i64 (baseI P T 1), .int .i64 (tabI T 1), .int .i64 (baseI P T 1 + 64 * P)] 33)).alloc (.cells #[.bool false, .bool false, .bool false, .bool false, .int .i64 0] 54) = W at *
  obtain ⟨x0, x1, x2, x3, x4, x5⟩ := hS.six
  go_wp2_with fail
  refine (PE.out _).mono ?_; rintro e w1 ⟨rfl, hb1⟩
  have hS1 := hS.grew hb1
  clear x0 x1 x2 x3 x4 x5 hS hb1
  go_wp2_with fail
  refine (hS1.load eI).mono ?_; rintro e w2 ⟨rfl, hS2⟩
  clear hS1
  have st := hS2.stop
  subst hA
  have PAL := Lib.hid (fun W => pmAlloc_any P T 1 (baseI P T 1) (tabI T 1) (baseI P T 1 + 64 * P) pg W)
  rw [hAI] at PAL
  have PMK := Lib.hid (fun W => pmMark_any P T 1 (baseI P T 1) (tabI T 1) (baseI P T 1 + 64 * P) pg W)
  rw [hMI] at PMK
  have GV := Lib.hid (fun W => rgiven_yes W hgv)
  have WG := Lib.hid (fun W => rword_any 2 C 0 0 cy W)
  rw [eencV_yes (by unfold gvB at hgv; rw [Bool.and_eq_true, Bool.and_eq_true] at hgv; exact hgv.2.2), hG] at WG
  clear hAI hMI hgv hG
  have DU := Lib.hid (fun W => rdue_any 2 C S D Y cy W)
  rw [hd] at DU
  clear hd
  have TK := Lib.hid (fun W => rtaken_yes W hg)
  have WO := Lib.hid (fun W => rword_any 2 C 2 who Y W)
  rw [eencV_yes (by unfold tkB at hg; rw [Bool.and_eq_true] at hg; exact hg.2), hEE] at WO
  clear hg hEE
  rw [h1] at st
  rw [hz] at *
  have DE := Lib.hid hD
  clear hD
  go_wp2_with fail
  refine (DE.out _).mono ?_; rintro e w3 ⟨rfl, hb3⟩
  have hS3 := hS2.grew hb3
  clear DE st hb3 hS2
  go_upto_region 5 with fail
  have hE3 := RsE.new (A := 2) (C := C) (S := S) (D := D) (Y := Y) hS3
  generalize w3.alloc (.cells #[.int .i64 2, .int .i64 C, .int .i64 S, .int .i64 D, .int .i64 Y] 71) = W3 at *
  generalize w3.heap.size = b at *
  obtain ⟨⟨m0, m1, m2, m3, m4, m5⟩, y0, y1, y2, y3, y4⟩ := hE3.cells
  clear hS3
  go_wp2_with fail
  refine (DU.out _).mono ?_; rintro e w4 ⟨rfl, hb4⟩
  have hE4 := hE3.grew hb4
  clear m0 m1 m2 m3 m4 m5 y0 y1 y2 y3 y4 hE3 hb4 DU
  obtain ⟨⟨m0, m1, m2, m3, m4, m5⟩, y0, y1, y2, y3, y4⟩ := hE4.cells
  go_wp2_with fail
  refine (TK.out _).mono ?_; rintro e w5 ⟨rfl, hb5⟩
  have hE5 := hE4.grew hb5
  clear m0 m1 m2 m3 m4 m5 y0 y1 y2 y3 y4 hE4 hb5 TK
  go_upto_region 8 with fail
  have hF5 : RsF w B x hv (t.ask 1 eI 0 0).2 P T b w5.heap.size 2 C S D Y 2 C 2 who Y (w5.alloc (.cells #[.int .i64 2, .int .i64 C, .int .i64 2, .int .i64 who, .int .i64 Y] 71)) := ⟨hE5.grew ((Below.refl _ _).alloc (Nat.le_refl _) _), Blk.new _ _ _, hE5.rs.tch.size⟩
  generalize w5.alloc (.cells #[.int .i64 2, .int .i64 C, .int .i64 2, .int .i64 who, .int .i64 Y] 71) = W5 at *
  generalize w5.heap.size = b2 at *
  have hF5d := hF5.drew
  have CA := Lib.hid (fun W (h : RsF w B x hv (t.ask 1 eI 0 0).2 P T b b2 2 C S D Y 2 C 2 who Y W) => h.cas eI z E)
  rw [h3, ht2] at CA
  clear hE5
  go_wp2_with fail
  go_region_held3 (fun W' => (W'.cell? ⟨w.heap.size, 0, none⟩ = some (.int .i64 P) ∧ W'.cell? ⟨w.heap.size, 1, none⟩ = some (.int .i64 T) ∧ W'.cell? ⟨w.heap.size, 2, none⟩ = some (.int .i64 1) ∧ W'.cell? ⟨w.heap.size, 3, none⟩ = some (.int .i64 (baseI P T 1)) ∧ W'.cell? ⟨w.heap.size, 4, none⟩ = some (.int .i64 (tabI T 1)) ∧ W'.cell? ⟨w.heap.size, 5, none⟩ = some (.int .i64 (baseI P T 1 + 64 * P))) ∧ (W'.cell? ⟨b2, 0, none⟩ = some (.int .i64 2) ∧ W'.cell? ⟨b2, 1, none⟩ = some (.int .i64 C) ∧ W'.cell? ⟨b2, 2, none⟩ = some (.int .i64 2) ∧ W'.cell? ⟨b2, 3, none⟩ = some (.int .i64 who) ∧ W'.cell? ⟨b2, 4, none⟩ = some (.int .i64 Y)))
    ((with_reducible exact RsF.cells (by assumption)))
    (first
      | (go_at_call 24; refine (PE.out _).mono ?_; rintro e w6 ⟨rfl, hb6⟩; have hF6 := RsF.grew (by assumption) hb6)
      | (go_at_call 40; refine (WO.out _).mono ?_; rintro e w7 ⟨rfl, hb7⟩; have hF7 := RsF.grew (by assumption) hb7)
      | (go_at_call 39; refine (CA.out _ (by assumption)).mono ?_; rintro e w8 ⟨rfl, hF8⟩))
  all_goals
    replace hF8 := hF8.re
    have st := hF8.rs.stop
    clear hF5 hF5d CA WO
    try clear hF6 hb6
    try clear hF7 hb7
    rw [ht2] at h2
    rw [h2] at st
    have hE8 := hF8
    clear hF8
    have hm1U : U64 m1.1 := by rw [← hm1]; exact ask_U hE8.rs.hU _ _ _ _
    have ha1U : U64 a1.1 := by rw [← ha1]; exact ask_U (by rw [← hm1, ask_H]; exact hE8.rs.hU) _ _ _ _
    have BO := Lib.hid (fun W => both_any a1.1 m1.1 W ha1U hm1U)
    rw [hlg] at BO
    have hlfU : U64 lf := by
      have := (and_natP _ _ ha1U hm1U).1
      rw [hlg] at this
      rw [← hlf, Int.tmod_eq_emod_of_nonneg this.1]
      exact ⟨by omega, by omega⟩
    have PLa := Lib.hid (fun W => places_lenZ a1.1 W ha1U)
    have PLl := Lib.hid (fun W => places_lenZ lf W hlfU)
    have hna := plcs_len_le a1.1.toNat 64
    have hnl := plcs_len_le lf.toNat 64
    have hsub : wrap64 (((plcs a1.1.toNat 64).length : Int) - ((plcs lf.toNat 64).length : Int)) = ((plcs a1.1.toNat 64).length : Int) - ((plcs lf.toNat 64).length : Int) := IntWalk.wrap64_in _ (by omega)
    clear hm1U ha1U hlfU hlg
    obtain ⟨⟨m0, m1', m2, m3, m4, m5⟩, y0, y1, y2, y3, y4⟩ := hE8.cells
    go_wp2_with fail
    refine (PMK.out _).mono ?_; rintro e w9 ⟨rfl, hb9⟩
    have hE9 := hE8.grew hb9
    clear m0 m1' m2 m3 m4 m5 y0 y1 y2 y3 y4
    clear hb9 hE8 st
    have LD10 := Lib.hid (hE9.load mI)
    rw [hm1] at LD10
    go_wp2_with fail
    refine LD10.out.mono ?_; rintro e w10 ⟨rfl, hE10⟩
    clear LD10 hE9
    obtain ⟨⟨m0, m1', m2, m3, m4, m5⟩, y0, y1, y2, y3, y4⟩ := hE10.cells
    go_wp2_with fail
    refine (PAL.out _).mono ?_; rintro e w11 ⟨rfl, hb11⟩
    have hE11 := hE10.grew hb11
    clear m0 m1' m2 m3 m4 m5 y0 y1 y2 y3 y4
    clear hb11 hE10
    have LD12 := Lib.hid (hE11.load aI)
    rw [ha1] at LD12
    go_wp2_with fail
    refine LD12.out.mono ?_; rintro e w12 ⟨rfl, hE12⟩
    clear LD12 hE11
    obtain ⟨⟨m0, m1', m2, m3, m4, m5⟩, y0, y1, y2, y3, y4⟩ := hE12.cells
    go_wp2_with fail
    refine (BO.out _).mono ?_; rintro e w13 ⟨rfl, hb13⟩
    have hE13 := hE12.grew hb13
    clear m0 m1' m2 m3 m4 m5 y0 y1 y2 y3 y4
    clear hb13 hE12
    obtain ⟨⟨m0, m1', m2, m3, m4, m5⟩, y0, y1, y2, y3, y4⟩ := hE13.cells
    go_wp2_with fail
    refine (PAL.out _).mono ?_; rintro e w14 ⟨rfl, hb14⟩
    have hE14 := hE13.grew hb14
    clear m0 m1' m2 m3 m4 m5 y0 y1 y2 y3 y4
    clear hb14 hE13
    have SD15 := Lib.hid (hE14.store aI lf)
    rw [ht5] at SD15
    go_wp2_with fail
    refine SD15.out.mono ?_; rintro e w15 ⟨⟨u15, rfl⟩, hE15⟩
    clear SD15 hE14
    obtain ⟨⟨m0, m1', m2, m3, m4, m5⟩, y0, y1, y2, y3, y4⟩ := hE15.cells
    go_wp2_with fail
    refine (PMK.out _).mono ?_; rintro e w16 ⟨rfl, hb16⟩
    have hE16 := hE15.grew hb16
    clear m0 m1' m2 m3 m4 m5 y0 y1 y2 y3 y4
    clear hb16 hE15
    have SD17 := Lib.hid (hE16.store mI 0)
    rw [ht6] at SD17
    go_wp2_with fail
    refine SD17.out.mono ?_; rintro e w17 ⟨⟨u17, rfl⟩, hE17⟩
    clear SD17 hE16
    obtain ⟨c0, hc0⟩ : ∃ c0 : Nat, C = (c0 : Int) + 1 := ⟨(C - 1).toNat, by omega⟩
    have hc3 : c0 ≤ 3 := by omega
    have hcw : wrap64 (C - 1) = (c0 : Int) := by rw [IntWalk.wrap64_in _ (by omega)]; omega
    have hct : (C - 1).toNat = c0 := by omega
    rw [hct] at ht7
    replace hc0 := Lib.hid hc0
    obtain ⟨⟨m0, m1', m2, m3, m4, m5⟩, y0, y1, y2, y3, y4⟩ := hE17.cells
    go_wp2_with fail
    clear m0 m1' m2 m3 m4 m5 y0 y1 y2 y3 y4
    go_loopw [20] (fun i wr => ∃ j : Nat, j ≤ c0 ∧ i = .int .i64 (j : Int) ∧ ∃ tj, tailT (tabI T 1) pg j tj = t7 ∧ RsE w B x hv tj P T b 2 C S D Y wr) (fun i _ => (intOf i).toNat)
    case atStart => exact ⟨c0, Nat.le_refl _, by congr 1; have := hc0.out; omega, t6, ht7, hE17⟩
    case round =>
      clear hE17
      obtain ⟨j, hj, rfl, tj, htj, hEj⟩ := hrel
      cases j with
      | succ j =>
        have hcast : ((j + 1 : Nat) : Int) = (j : Int) + 1 := by omega
        rw [hcast]
        replace hcast := Lib.hid hcast
        have hj1 : (j : Int) + 1 ≥ 1 := by omega
        have hjw : wrap64 ((j : Int) + 1 - 1) = (j : Int) := by rw [IntWalk.wrap64_in _ (by omega)]; omega
        have PT := Lib.hid (fun W => pmPage_any P T 1 (baseI P T 1) (tabI T 1) (baseI P T 1 + 64 * P) ((pg + ((j : Int) + 1))) W)
        have htj' := Lib.hid htj
        have ST := Lib.hid (fun W (h : RsE w B x hv tj P T b 2 C S D Y W) => h.store (wrap64 (tabI T 1 + (pg + ((j : Int) + 1)))) 0)
        clear htj
        obtain ⟨⟨m0, m1', m2, m3, m4, m5⟩, y0, y1, y2, y3, y4⟩ := hEj.cells
        go_wp2_with fail
        refine (PT.out _).mono ?_; rintro e w18 ⟨rfl, hb18⟩
        have hE18 := hEj.grew hb18
        clear m0 m1' m2 m3 m4 m5 y0 y1 y2 y3 y4 hEj hb18
        go_wp2_with fail
        refine (ST.out _ hE18).mono ?_; rintro e w19 ⟨⟨u19, rfl⟩, hE19⟩
        replace hE19 := Lib.hid hE19
        go_wp2
        go_roundw
        case rel => exact ⟨j, by omega, by go_num, _, htj'.out, hE19.out⟩
        case measure => simp [intOf] <;> omega
      | zero =>
        have hj1 : ¬ ((0 : Nat) : Int) ≥ 1 := by omega
        have ht7' : tj = t7 := htj
        subst ht7'
        have hE17 := hEj
        clear hEj htj ht7
        obtain ⟨⟨m0, m1', m2, m3, m4, m5⟩, y0, y1, y2, y3, y4⟩ := hE17.cells
        go_wp2_with fail
        refine (PE.out _).mono ?_; rintro e w20 ⟨rfl, hb20⟩
        have hE20 := hE17.grew hb20
        clear m0 m1' m2 m3 m4 m5 y0 y1 y2 y3 y4
        clear hb20 hE17
        have SD21 := Lib.hid (hE20.store eI 0)
        rw [ht8] at SD21
        go_wp2_with fail
        refine SD21.out.mono ?_; rintro e w21 ⟨⟨u21, rfl⟩, hE21⟩
        clear SD21 hE20
        have st := hE21.rs.stop
        rw [hst8] at st
        obtain ⟨hT9, ht9, hR9⟩ := hE21.rs.ret rw0
        dsimp only [rw0, Swr.V] at hT9 ht9 hR9
        obtain ⟨v0, v1, v2, v3, v4⟩ := hE21.rs.res.five
        have q0 := hE21.rs.res.frozen 0
        have q1 := hE21.rs.res.frozen 1
        have q2 := hE21.rs.res.frozen 2
        have q3 := hE21.rs.res.frozen 3
        have q4 := hE21.rs.res.frozen 4
        replace hT9 := Lib.hid hT9
        replace ht9 := Lib.hid ht9
        replace hR9 := Lib.hid hR9
        clear hE21
        go_wp2
        obtain ⟨u0, u1, u2, u3, u4⟩ := hR9.out.five
        refine bodyPost_ret (v := .agg (Swr.V rw0)) (by simp [results, Tryz.results10, go_sem, Swr.V, rw0, u0, u1, u2, u3, u4]) rfl ⟨rfl, hT9.out, ht9.out⟩
set_option maxRecDepth 100000 in
set_option maxHeartbeats 4000000 in
theorem rsw_endlzf (hT : TapeAt w B x hv t) (hx : x < w.heap.size) (hB : ∀ g, hv.ownBlock = some g → g < w.heap.size) (hm : t.H.length ≤ 1000000) (hU : ∀ z ∈ t.H, U64 z) (hE : wrap64 (tabI T 1 + pg) = eI) (h1 : (t.ask 1 eI 0 0).2.st = false) (hz : (t.ask 1 eI 0 0).1 = z) (hD : ∀ W, Calls Tryz.prog 36 #[.int .u64 z] W fun e w' => e = .returned (.tuple #[.agg #[.int .i64 A, .int .i64 C, .int .i64 S, .int .i64 D, .int .i64 Y], .int .i64 0]) ∧ Below W.heap.size W w') (hS2' : (S == 2) = false) (hA : A = 2) (hw : wrap64 (pg + C) = pg + C) (hp : ¬ pg + C > P) (hC : 1 ≤ C ∧ C ≤ 4) (hpg : 0 ≤ pg ∧ pg ≤ 31) (hd : dueB A C S D Y cy = true) (hg : tkB A C S D Y 2 who = true) (E : Int) (hEE : encE A C 2 who Y = E) (hAI : wrap64 (wrap64 (tabI T 1 + P) + pg) = aI) (hMI : wrap64 (wrap64 (tabI T 1 + wrap64 (2 * P)) + pg) = mI) (h2 : ((t.ask 1 eI 0 0).2.ask 4 eI z E).2.st = false) (h3 : (((t.ask 1 eI 0 0).2.ask 4 eI z E).1 == z) = true) (t2 : Tp) (ht2 : ((t.ask 1 eI 0 0).2.ask 4 eI z E).2 = t2) (m1 a1 : Int × Tp) (hm1 : t2.ask 1 mI 0 0 = m1) (ha1 : m1.2.ask 1 aI 0 0 = a1) (lf : Int) (lg : Int) (hlg : bits .and .u64 a1.1 m1.1 = lg) (hlf : Int.tmod lg 2 = lf) (t5 t6 t7 t8 : Tp) (ht5 : (a1.2.ask 2 aI 0 lf).2 = t5) (ht6 : (t5.ask 2 mI 0 0).2 = t6) (ht7 : tailT (tabI T 1) pg (C - 1).toNat t6 = t7) (hl0 : (lf == 0) = true) (G : Int) (hG : encE A C 0 0 cy = G) (hgv : gvB A C S D Y cy = true) (ht8 : (t7.ask 2 eI 0 0).2 = t8) (hst8 : t8.st = false) :
    Calls Tryz.prog 10 #[.pointer (some ⟨x, 0, none⟩), .agg #[.int .i64 P, .int .i64 T, .int .i64 1, .int .i64 (baseI P T 1), .int .i64 (tabI T 1), .int .i64 (baseI P T 1 + 64 * P)], .int .i64 who, .int .i64 cy, .int .i64 pg] w (RsPost w B x hv ⟨true, true, true, false, ((plcs a1.1.toNat 64).length : Int) - ((plcs lf.toNat 64).length : Int)⟩ t8) := by
  have PE := Lib.hid (fun W => pmPage_any P T 1 (baseI P T 1) (tabI T 1) (baseI P T 1 + 64 * P) pg W)
  rw [hE] at PE
  have hS := RsS.new (P := P) (T := T) hT hx hB hm hU
  unfold RsPost
  clear hT hB hm hE
  go_enter Tryz.func10, Tryz.ntmps10
  go_upto_region 1 with fail
  generalize (w.alloc (.cells #[.int .i64 P, .int .i64 T, .int .i64 1, .int .i64 (baseI P T 1), .int .i64 (tabI T 1), .int .i64 (baseI P T 1 + 64 * P)] 33)).alloc (.cells #[.bool false, .bool false, .bool false, .bool false, .int .i64 0] 54) = W at *
  obtain ⟨x0, x1, x2, x3, x4, x5⟩ := hS.six
  go_wp2_with fail
  refine (PE.out _).mono ?_; rintro e w1 ⟨rfl, hb1⟩
  have hS1 := hS.grew hb1
  clear x0 x1 x2 x3 x4 x5 hS hb1
  go_wp2_with fail
  refine (hS1.load eI).mono ?_; rintro e w2 ⟨rfl, hS2⟩
  clear hS1
  have st := hS2.stop
  subst hA
  have PAL := Lib.hid (fun W => pmAlloc_any P T 1 (baseI P T 1) (tabI T 1) (baseI P T 1 + 64 * P) pg W)
  rw [hAI] at PAL
  have PMK := Lib.hid (fun W => pmMark_any P T 1 (baseI P T 1) (tabI T 1) (baseI P T 1 + 64 * P) pg W)
  rw [hMI] at PMK
  have GV := Lib.hid (fun W => rgiven_yes W hgv)
  have WG := Lib.hid (fun W => rword_any 2 C 0 0 cy W)
  rw [eencV_yes (by unfold gvB at hgv; rw [Bool.and_eq_true, Bool.and_eq_true] at hgv; exact hgv.2.2), hG] at WG
  clear hAI hMI hgv hG
  have DU := Lib.hid (fun W => rdue_any 2 C S D Y cy W)
  rw [hd] at DU
  clear hd
  have TK := Lib.hid (fun W => rtaken_yes W hg)
  have WO := Lib.hid (fun W => rword_any 2 C 2 who Y W)
  rw [eencV_yes (by unfold tkB at hg; rw [Bool.and_eq_true] at hg; exact hg.2), hEE] at WO
  clear hg hEE
  rw [h1] at st
  rw [hz] at *
  have DE := Lib.hid hD
  clear hD
  go_wp2_with fail
  refine (DE.out _).mono ?_; rintro e w3 ⟨rfl, hb3⟩
  have hS3 := hS2.grew hb3
  clear DE st hb3 hS2
  go_upto_region 5 with fail
  have hE3 := RsE.new (A := 2) (C := C) (S := S) (D := D) (Y := Y) hS3
  generalize w3.alloc (.cells #[.int .i64 2, .int .i64 C, .int .i64 S, .int .i64 D, .int .i64 Y] 71) = W3 at *
  generalize w3.heap.size = b at *
  obtain ⟨⟨m0, m1, m2, m3, m4, m5⟩, y0, y1, y2, y3, y4⟩ := hE3.cells
  clear hS3
  go_wp2_with fail
  refine (DU.out _).mono ?_; rintro e w4 ⟨rfl, hb4⟩
  have hE4 := hE3.grew hb4
  clear m0 m1 m2 m3 m4 m5 y0 y1 y2 y3 y4 hE3 hb4 DU
  obtain ⟨⟨m0, m1, m2, m3, m4, m5⟩, y0, y1, y2, y3, y4⟩ := hE4.cells
  go_wp2_with fail
  refine (TK.out _).mono ?_; rintro e w5 ⟨rfl, hb5⟩
  have hE5 := hE4.grew hb5
  clear m0 m1 m2 m3 m4 m5 y0 y1 y2 y3 y4 hE4 hb5 TK
  go_upto_region 8 with fail
  have hF5 : RsF w B x hv (t.ask 1 eI 0 0).2 P T b w5.heap.size 2 C S D Y 2 C 2 who Y (w5.alloc (.cells #[.int .i64 2, .int .i64 C, .int .i64 2, .int .i64 who, .int .i64 Y] 71)) := ⟨hE5.grew ((Below.refl _ _).alloc (Nat.le_refl _) _), Blk.new _ _ _, hE5.rs.tch.size⟩
  generalize w5.alloc (.cells #[.int .i64 2, .int .i64 C, .int .i64 2, .int .i64 who, .int .i64 Y] 71) = W5 at *
  generalize w5.heap.size = b2 at *
  have hF5d := hF5.drew
  have CA := Lib.hid (fun W (h : RsF w B x hv (t.ask 1 eI 0 0).2 P T b b2 2 C S D Y 2 C 2 who Y W) => h.cas eI z E)
  rw [h3, ht2] at CA
  clear hE5
  go_wp2_with fail
  go_region_held3 (fun W' => (W'.cell? ⟨w.heap.size, 0, none⟩ = some (.int .i64 P) ∧ W'.cell? ⟨w.heap.size, 1, none⟩ = some (.int .i64 T) ∧ W'.cell? ⟨w.heap.size, 2, none⟩ = some (.int .i64 1) ∧ W'.cell? ⟨w.heap.size, 3, none⟩ = some (.int .i64 (baseI P T 1)) ∧ W'.cell? ⟨w.heap.size, 4, none⟩ = some (.int .i64 (tabI T 1)) ∧ W'.cell? ⟨w.heap.size, 5, none⟩ = some (.int .i64 (baseI P T 1 + 64 * P))) ∧ (W'.cell? ⟨b2, 0, none⟩ = some (.int .i64 2) ∧ W'.cell? ⟨b2, 1, none⟩ = some (.int .i64 C) ∧ W'.cell? ⟨b2, 2, none⟩ = some (.int .i64 2) ∧ W'.cell? ⟨b2, 3, none⟩ = some (.int .i64 who) ∧ W'.cell? ⟨b2, 4, none⟩ = some (.int .i64 Y)))
    ((with_reducible exact RsF.cells (by assumption)))
    (first
      | (go_at_call 24; refine (PE.out _).mono ?_; rintro e w6 ⟨rfl, hb6⟩; have hF6 := RsF.grew (by assumption) hb6)
      | (go_at_call 40; refine (WO.out _).mono ?_; rintro e w7 ⟨rfl, hb7⟩; have hF7 := RsF.grew (by assumption) hb7)
      | (go_at_call 39; refine (CA.out _ (by assumption)).mono ?_; rintro e w8 ⟨rfl, hF8⟩))
  all_goals
    replace hF8 := hF8.re
    have st := hF8.rs.stop
    clear hF5 hF5d CA WO
    try clear hF6 hb6
    try clear hF7 hb7
    rw [ht2] at h2
    rw [h2] at st
    have hE8 := hF8
    clear hF8
    have hm1U : U64 m1.1 := by rw [← hm1]; exact ask_U hE8.rs.hU _ _ _ _
    have ha1U : U64 a1.1 := by rw [← ha1]; exact ask_U (by rw [← hm1, ask_H]; exact hE8.rs.hU) _ _ _ _
    have BO := Lib.hid (fun W => both_any a1.1 m1.1 W ha1U hm1U)
    rw [hlg] at BO
    have hlfU : U64 lf := by
      have := (and_natP _ _ ha1U hm1U).1
      rw [hlg] at this
      rw [← hlf, Int.tmod_eq_emod_of_nonneg this.1]
      exact ⟨by omega, by omega⟩
    have PLa := Lib.hid (fun W => places_lenZ a1.1 W ha1U)
    have PLl := Lib.hid (fun W => places_lenZ lf W hlfU)
    have hna := plcs_len_le a1.1.toNat 64
    have hnl := plcs_len_le lf.toNat 64
    have hsub : wrap64 (((plcs a1.1.toNat 64).length : Int) - ((plcs lf.toNat 64).length : Int)) = ((plcs a1.1.toNat 64).length : Int) - ((plcs lf.toNat 64).length : Int) := IntWalk.wrap64_in _ (by omega)
    clear hm1U ha1U hlfU hlg
    obtain ⟨⟨m0, m1', m2, m3, m4, m5⟩, y0, y1, y2, y3, y4⟩ := hE8.cells
    go_wp2_with fail
    refine (PMK.out _).mono ?_; rintro e w9 ⟨rfl, hb9⟩
    have hE9 := hE8.grew hb9
    clear m0 m1' m2 m3 m4 m5 y0 y1 y2 y3 y4
    clear hb9 hE8 st
    have LD10 := Lib.hid (hE9.load mI)
    rw [hm1] at LD10
    go_wp2_with fail
    refine LD10.out.mono ?_; rintro e w10 ⟨rfl, hE10⟩
    clear LD10 hE9
    obtain ⟨⟨m0, m1', m2, m3, m4, m5⟩, y0, y1, y2, y3, y4⟩ := hE10.cells
    go_wp2_with fail
    refine (PAL.out _).mono ?_; rintro e w11 ⟨rfl, hb11⟩
    have hE11 := hE10.grew hb11
    clear m0 m1' m2 m3 m4 m5 y0 y1 y2 y3 y4
    clear hb11 hE10
    have LD12 := Lib.hid (hE11.load aI)
    rw [ha1] at LD12
    go_wp2_with fail
    refine LD12.out.mono ?_; rintro e w12 ⟨rfl, hE12⟩
    clear LD12 hE11
    obtain ⟨⟨m0, m1', m2, m3, m4, m5⟩, y0, y1, y2, y3, y4⟩ := hE12.cells
    go_wp2_with fail
    refine (BO.out _).mono ?_; rintro e w13 ⟨rfl, hb13⟩
    have hE13 := hE12.grew hb13
    clear m0 m1' m2 m3 m4 m5 y0 y1 y2 y3 y4
    clear hb13 hE12
    obtain ⟨⟨m0, m1', m2, m3, m4, m5⟩, y0, y1, y2, y3, y4⟩ := hE13.cells
    go_wp2_with fail
    refine (PAL.out _).mono ?_; rintro e w14 ⟨rfl, hb14⟩
    have hE14 := hE13.grew hb14
    clear m0 m1' m2 m3 m4 m5 y0 y1 y2 y3 y4
    clear hb14 hE13
    have SD15 := Lib.hid (hE14.store aI lf)
    rw [ht5] at SD15
    go_wp2_with fail
    refine SD15.out.mono ?_; rintro e w15 ⟨⟨u15, rfl⟩, hE15⟩
    clear SD15 hE14
    obtain ⟨⟨m0, m1', m2, m3, m4, m5⟩, y0, y1, y2, y3, y4⟩ := hE15.cells
    go_wp2_with fail
    refine (PMK.out _).mono ?_; rintro e w16 ⟨rfl, hb16⟩
    have hE16 := hE15.grew hb16
    clear m0 m1' m2 m3 m4 m5 y0 y1 y2 y3 y4
    clear hb16 hE15
    have SD17 := Lib.hid (hE16.store mI 0)
    rw [ht6] at SD17
    go_wp2_with fail
    refine SD17.out.mono ?_; rintro e w17 ⟨⟨u17, rfl⟩, hE17⟩
    clear SD17 hE16
    obtain ⟨c0, hc0⟩ : ∃ c0 : Nat, C = (c0 : Int) + 1 := ⟨(C - 1).toNat, by omega⟩
    have hc3 : c0 ≤ 3 := by omega
    have hcw : wrap64 (C - 1) = (c0 : Int) := by rw [IntWalk.wrap64_in _ (by omega)]; omega
    have hct : (C - 1).toNat = c0 := by omega
    rw [hct] at ht7
    replace hc0 := Lib.hid hc0
    obtain ⟨⟨m0, m1', m2, m3, m4, m5⟩, y0, y1, y2, y3, y4⟩ := hE17.cells
    go_wp2_with fail
    clear m0 m1' m2 m3 m4 m5 y0 y1 y2 y3 y4
    go_loopw [20] (fun i wr => ∃ j : Nat, j ≤ c0 ∧ i = .int .i64 (j : Int) ∧ ∃ tj, tailT (tabI T 1) pg j tj = t7 ∧ RsE w B x hv tj P T b 2 C S D Y wr) (fun i _ => (intOf i).toNat)
    case atStart => exact ⟨c0, Nat.le_refl _, by congr 1; have := hc0.out; omega, t6, ht7, hE17⟩
    case round =>
      clear hE17
      obtain ⟨j, hj, rfl, tj, htj, hEj⟩ := hrel
      cases j with
      | succ j =>
        have hcast : ((j + 1 : Nat) : Int) = (j : Int) + 1 := by omega
        rw [hcast]
        replace hcast := Lib.hid hcast
        have hj1 : (j : Int) + 1 ≥ 1 := by omega
        have hjw : wrap64 ((j : Int) + 1 - 1) = (j : Int) := by rw [IntWalk.wrap64_in _ (by omega)]; omega
        have PT := Lib.hid (fun W => pmPage_any P T 1 (baseI P T 1) (tabI T 1) (baseI P T 1 + 64 * P) ((pg + ((j : Int) + 1))) W)
        have htj' := Lib.hid htj
        have ST := Lib.hid (fun W (h : RsE w B x hv tj P T b 2 C S D Y W) => h.store (wrap64 (tabI T 1 + (pg + ((j : Int) + 1)))) 0)
        clear htj
        obtain ⟨⟨m0, m1', m2, m3, m4, m5⟩, y0, y1, y2, y3, y4⟩ := hEj.cells
        go_wp2_with fail
        refine (PT.out _).mono ?_; rintro e w18 ⟨rfl, hb18⟩
        have hE18 := hEj.grew hb18
        clear m0 m1' m2 m3 m4 m5 y0 y1 y2 y3 y4 hEj hb18
        go_wp2_with fail
        refine (ST.out _ hE18).mono ?_; rintro e w19 ⟨⟨u19, rfl⟩, hE19⟩
        replace hE19 := Lib.hid hE19
        go_wp2
        go_roundw
        case rel => exact ⟨j, by omega, by go_num, _, htj'.out, hE19.out⟩
        case measure => simp [intOf] <;> omega
      | zero =>
        have hj1 : ¬ ((0 : Nat) : Int) ≥ 1 := by omega
        have ht7' : tj = t7 := htj
        subst ht7'
        have hE17 := hEj
        clear hEj htj ht7
        obtain ⟨⟨m0, m1', m2, m3, m4, m5⟩, y0, y1, y2, y3, y4⟩ := hE17.cells
        go_wp2_with fail
        refine (PE.out _).mono ?_; rintro e w20 ⟨rfl, hb20⟩
        have hE20 := hE17.grew hb20
        clear m0 m1' m2 m3 m4 m5 y0 y1 y2 y3 y4
        clear hb20 hE17
        have SD21 := Lib.hid (hE20.store eI 0)
        rw [ht8] at SD21
        go_wp2_with fail
        refine SD21.out.mono ?_; rintro e w21 ⟨⟨u21, rfl⟩, hE21⟩
        clear SD21 hE20
        have st := hE21.rs.stop
        rw [hst8] at st
        go_wp2_with fail
        refine (PLa.out _).mono ?_; rintro e w24 ⟨aa, ac, rfl, hb24⟩
        have hE24 := hE21.grew hb24
        go_wp2_with fail
        refine (PLl.out _).mono ?_; rintro e w25 ⟨la, lc, rfl, hb25⟩
        have hE25 := hE24.grew hb25
        clear hE21 hE24 hb24 hb25 st
        obtain ⟨hT9, ht9, hR9⟩ := hE25.rs.ret ⟨true, true, true, false, ((plcs a1.1.toNat 64).length : Int) - ((plcs lf.toNat 64).length : Int)⟩
        dsimp only [rw0, Swr.V] at hT9 ht9 hR9
        obtain ⟨v0, v1, v2, v3, v4⟩ := hE25.rs.res.five
        have q0 := hE25.rs.res.frozen 0
        have q1 := hE25.rs.res.frozen 1
        have q2 := hE25.rs.res.frozen 2
        have q3 := hE25.rs.res.frozen 3
        have q4 := hE25.rs.res.frozen 4
        replace hT9 := Lib.hid hT9
        replace ht9 := Lib.hid ht9
        replace hR9 := Lib.hid hR9
        clear hE25
        go_wp2
        obtain ⟨u0, u1, u2, u3, u4⟩ := hR9.out.five
        refine bodyPost_ret (v := .agg (Swr.V ⟨true, true, true, false, ((plcs a1.1.toNat 64).length : Int) - ((plcs lf.toNat 64).length : Int)⟩)) (by simp [results, Tryz.results10, go_sem, Swr.V, rw0, u0, u1, u2, u3, u4]) rfl ⟨rfl, hT9.out, ht9.out⟩
set_option maxRecDepth 100000 in
set_option maxHeartbeats 4000000 in
theorem rsw_endlnt (hT : TapeAt w B x hv t) (hx : x < w.heap.size) (hB : ∀ g, hv.ownBlock = some g → g < w.heap.size) (hm : t.H.length ≤ 1000000) (hU : ∀ z ∈ t.H, U64 z) (hE : wrap64 (tabI T 1 + pg) = eI) (h1 : (t.ask 1 eI 0 0).2.st = false) (hz : (t.ask 1 eI 0 0).1 = z) (hD : ∀ W, Calls Tryz.prog 36 #[.int .u64 z] W fun e w' => e = .returned (.tuple #[.agg #[.int .i64 A, .int .i64 C, .int .i64 S, .int .i64 D, .int .i64 Y], .int .i64 0]) ∧ Below W.heap.size W w') (hS2' : (S == 2) = false) (hA : A = 2) (hw : wrap64 (pg + C) = pg + C) (hp : ¬ pg + C > P) (hC : 1 ≤ C ∧ C ≤ 4) (hpg : 0 ≤ pg ∧ pg ≤ 31) (hd : dueB A C S D Y cy = true) (hg : tkB A C S D Y 2 who = true) (E : Int) (hEE : encE A C 2 who Y = E) (hAI : wrap64 (wrap64 (tabI T 1 + P) + pg) = aI) (hMI : wrap64 (wrap64 (tabI T 1 + wrap64 (2 * P)) + pg) = mI) (h2 : ((t.ask 1 eI 0 0).2.ask 4 eI z E).2.st = false) (h3 : (((t.ask 1 eI 0 0).2.ask 4 eI z E).1 == z) = true) (t2 : Tp) (ht2 : ((t.ask 1 eI 0 0).2.ask 4 eI z E).2 = t2) (m1 a1 : Int × Tp) (hm1 : t2.ask 1 mI 0 0 = m1) (ha1 : m1.2.ask 1 aI 0 0 = a1) (lf : Int) (lg : Int) (hlg : bits .and .u64 a1.1 m1.1 = lg) (hlf : Int.tmod lg 2 = lf) (t5 t6 t7 t8 : Tp) (ht5 : (a1.2.ask 2 aI 0 lf).2 = t5) (ht6 : (t5.ask 2 mI 0 0).2 = t6) (ht7 : t6 = t7) (hl0 : (lf == 0) = false) (G : Int) (hG : encE A C 0 0 cy = G) (hgv : gvB A C S D Y cy = true) (ht8 : (t7.ask 2 eI 0 G).2 = t8) (hst8 : t8.st = true) :
    Calls Tryz.prog 10 #[.pointer (some ⟨x, 0, none⟩), .agg #[.int .i64 P, .int .i64 T, .int .i64 1, .int .i64 (baseI P T 1), .int .i64 (tabI T 1), .int .i64 (baseI P T 1 + 64 * P)], .int .i64 who, .int .i64 cy, .int .i64 pg] w (RsPost w B x hv rw0 t8) := by
  have PE := Lib.hid (fun W => pmPage_any P T 1 (baseI P T 1) (tabI T 1) (baseI P T 1 + 64 * P) pg W)
  rw [hE] at PE
  have hS := RsS.new (P := P) (T := T) hT hx hB hm hU
  unfold RsPost
  clear hT hB hm hE
  go_enter Tryz.func10, Tryz.ntmps10
  go_upto_region 1 with fail
  generalize (w.alloc (.cells #[.int .i64 P, .int .i64 T, .int .i64 1, .int .i64 (baseI P T 1), .int .i64 (tabI T 1), .int .i64 (baseI P T 1 + 64 * P)] 33)).alloc (.cells #[.bool false, .bool false, .bool false, .bool false, .int .i64 0] 54) = W at *
  obtain ⟨x0, x1, x2, x3, x4, x5⟩ := hS.six
  go_wp2_with fail
  refine (PE.out _).mono ?_; rintro e w1 ⟨rfl, hb1⟩
  have hS1 := hS.grew hb1
  clear x0 x1 x2 x3 x4 x5 hS hb1
  go_wp2_with fail
  refine (hS1.load eI).mono ?_; rintro e w2 ⟨rfl, hS2⟩
  clear hS1
  have st := hS2.stop
  subst hA
  have PAL := Lib.hid (fun W => pmAlloc_any P T 1 (baseI P T 1) (tabI T 1) (baseI P T 1 + 64 * P) pg W)
  rw [hAI] at PAL
  have PMK := Lib.hid (fun W => pmMark_any P T 1 (baseI P T 1) (tabI T 1) (baseI P T 1 + 64 * P) pg W)
  rw [hMI] at PMK
  have GV := Lib.hid (fun W => rgiven_yes W hgv)
  have WG := Lib.hid (fun W => rword_any 2 C 0 0 cy W)
  rw [eencV_yes (by unfold gvB at hgv; rw [Bool.and_eq_true, Bool.and_eq_true] at hgv; exact hgv.2.2), hG] at WG
  clear hAI hMI hgv hG
  have DU := Lib.hid (fun W => rdue_any 2 C S D Y cy W)
  rw [hd] at DU
  clear hd
  have TK := Lib.hid (fun W => rtaken_yes W hg)
  have WO := Lib.hid (fun W => rword_any 2 C 2 who Y W)
  rw [eencV_yes (by unfold tkB at hg; rw [Bool.and_eq_true] at hg; exact hg.2), hEE] at WO
  clear hg hEE
  rw [h1] at st
  rw [hz] at *
  have DE := Lib.hid hD
  clear hD
  go_wp2_with fail
  refine (DE.out _).mono ?_; rintro e w3 ⟨rfl, hb3⟩
  have hS3 := hS2.grew hb3
  clear DE st hb3 hS2
  go_upto_region 5 with fail
  have hE3 := RsE.new (A := 2) (C := C) (S := S) (D := D) (Y := Y) hS3
  generalize w3.alloc (.cells #[.int .i64 2, .int .i64 C, .int .i64 S, .int .i64 D, .int .i64 Y] 71) = W3 at *
  generalize w3.heap.size = b at *
  obtain ⟨⟨m0, m1, m2, m3, m4, m5⟩, y0, y1, y2, y3, y4⟩ := hE3.cells
  clear hS3
  go_wp2_with fail
  refine (DU.out _).mono ?_; rintro e w4 ⟨rfl, hb4⟩
  have hE4 := hE3.grew hb4
  clear m0 m1 m2 m3 m4 m5 y0 y1 y2 y3 y4 hE3 hb4 DU
  obtain ⟨⟨m0, m1, m2, m3, m4, m5⟩, y0, y1, y2, y3, y4⟩ := hE4.cells
  go_wp2_with fail
  refine (TK.out _).mono ?_; rintro e w5 ⟨rfl, hb5⟩
  have hE5 := hE4.grew hb5
  clear m0 m1 m2 m3 m4 m5 y0 y1 y2 y3 y4 hE4 hb5 TK
  go_upto_region 8 with fail
  have hF5 : RsF w B x hv (t.ask 1 eI 0 0).2 P T b w5.heap.size 2 C S D Y 2 C 2 who Y (w5.alloc (.cells #[.int .i64 2, .int .i64 C, .int .i64 2, .int .i64 who, .int .i64 Y] 71)) := ⟨hE5.grew ((Below.refl _ _).alloc (Nat.le_refl _) _), Blk.new _ _ _, hE5.rs.tch.size⟩
  generalize w5.alloc (.cells #[.int .i64 2, .int .i64 C, .int .i64 2, .int .i64 who, .int .i64 Y] 71) = W5 at *
  generalize w5.heap.size = b2 at *
  have hF5d := hF5.drew
  have CA := Lib.hid (fun W (h : RsF w B x hv (t.ask 1 eI 0 0).2 P T b b2 2 C S D Y 2 C 2 who Y W) => h.cas eI z E)
  rw [h3, ht2] at CA
  clear hE5
  go_wp2_with fail
  go_region_held3 (fun W' => (W'.cell? ⟨w.heap.size, 0, none⟩ = some (.int .i64 P) ∧ W'.cell? ⟨w.heap.size, 1, none⟩ = some (.int .i64 T) ∧ W'.cell? ⟨w.heap.size, 2, none⟩ = some (.int .i64 1) ∧ W'.cell? ⟨w.heap.size, 3, none⟩ = some (.int .i64 (baseI P T 1)) ∧ W'.cell? ⟨w.heap.size, 4, none⟩ = some (.int .i64 (tabI T 1)) ∧ W'.cell? ⟨w.heap.size, 5, none⟩ = some (.int .i64 (baseI P T 1 + 64 * P))) ∧ (W'.cell? ⟨b2, 0, none⟩ = some (.int .i64 2) ∧ W'.cell? ⟨b2, 1, none⟩ = some (.int .i64 C) ∧ W'.cell? ⟨b2, 2, none⟩ = some (.int .i64 2) ∧ W'.cell? ⟨b2, 3, none⟩ = some (.int .i64 who) ∧ W'.cell? ⟨b2, 4, none⟩ = some (.int .i64 Y)))
    ((with_reducible exact RsF.cells (by assumption)))
    (first
      | (go_at_call 24; refine (PE.out _).mono ?_; rintro e w6 ⟨rfl, hb6⟩; have hF6 := RsF.grew (by assumption) hb6)
      | (go_at_call 40; refine (WO.out _).mono ?_; rintro e w7 ⟨rfl, hb7⟩; have hF7 := RsF.grew (by assumption) hb7)
      | (go_at_call 39; refine (CA.out _ (by assumption)).mono ?_; rintro e w8 ⟨rfl, hF8⟩))
  all_goals
    replace hF8 := hF8.re
    have st := hF8.rs.stop
    clear hF5 hF5d CA WO
    try clear hF6 hb6
    try clear hF7 hb7
    rw [ht2] at h2
    rw [h2] at st
    have hE8 := hF8
    clear hF8
    have hm1U : U64 m1.1 := by rw [← hm1]; exact ask_U hE8.rs.hU _ _ _ _
    have ha1U : U64 a1.1 := by rw [← ha1]; exact ask_U (by rw [← hm1, ask_H]; exact hE8.rs.hU) _ _ _ _
    have BO := Lib.hid (fun W => both_any a1.1 m1.1 W ha1U hm1U)
    rw [hlg] at BO
    have hlfU : U64 lf := by
      have := (and_natP _ _ ha1U hm1U).1
      rw [hlg] at this
      rw [← hlf, Int.tmod_eq_emod_of_nonneg this.1]
      exact ⟨by omega, by omega⟩
    have PLa := Lib.hid (fun W => places_lenZ a1.1 W ha1U)
    have PLl := Lib.hid (fun W => places_lenZ lf W hlfU)
    have hna := plcs_len_le a1.1.toNat 64
    have hnl := plcs_len_le lf.toNat 64
    have hsub : wrap64 (((plcs a1.1.toNat 64).length : Int) - ((plcs lf.toNat 64).length : Int)) = ((plcs a1.1.toNat 64).length : Int) - ((plcs lf.toNat 64).length : Int) := IntWalk.wrap64_in _ (by omega)
    clear hm1U ha1U hlfU hlg
    obtain ⟨⟨m0, m1', m2, m3, m4, m5⟩, y0, y1, y2, y3, y4⟩ := hE8.cells
    go_wp2_with fail
    refine (PMK.out _).mono ?_; rintro e w9 ⟨rfl, hb9⟩
    have hE9 := hE8.grew hb9
    clear m0 m1' m2 m3 m4 m5 y0 y1 y2 y3 y4
    clear hb9 hE8 st
    have LD10 := Lib.hid (hE9.load mI)
    rw [hm1] at LD10
    go_wp2_with fail
    refine LD10.out.mono ?_; rintro e w10 ⟨rfl, hE10⟩
    clear LD10 hE9
    obtain ⟨⟨m0, m1', m2, m3, m4, m5⟩, y0, y1, y2, y3, y4⟩ := hE10.cells
    go_wp2_with fail
    refine (PAL.out _).mono ?_; rintro e w11 ⟨rfl, hb11⟩
    have hE11 := hE10.grew hb11
    clear m0 m1' m2 m3 m4 m5 y0 y1 y2 y3 y4
    clear hb11 hE10
    have LD12 := Lib.hid (hE11.load aI)
    rw [ha1] at LD12
    go_wp2_with fail
    refine LD12.out.mono ?_; rintro e w12 ⟨rfl, hE12⟩
    clear LD12 hE11
    obtain ⟨⟨m0, m1', m2, m3, m4, m5⟩, y0, y1, y2, y3, y4⟩ := hE12.cells
    go_wp2_with fail
    refine (BO.out _).mono ?_; rintro e w13 ⟨rfl, hb13⟩
    have hE13 := hE12.grew hb13
    clear m0 m1' m2 m3 m4 m5 y0 y1 y2 y3 y4
    clear hb13 hE12
    obtain ⟨⟨m0, m1', m2, m3, m4, m5⟩, y0, y1, y2, y3, y4⟩ := hE13.cells
    go_wp2_with fail
    refine (PAL.out _).mono ?_; rintro e w14 ⟨rfl, hb14⟩
    have hE14 := hE13.grew hb14
    clear m0 m1' m2 m3 m4 m5 y0 y1 y2 y3 y4
    clear hb14 hE13
    have SD15 := Lib.hid (hE14.store aI lf)
    rw [ht5] at SD15
    go_wp2_with fail
    refine SD15.out.mono ?_; rintro e w15 ⟨⟨u15, rfl⟩, hE15⟩
    clear SD15 hE14
    obtain ⟨⟨m0, m1', m2, m3, m4, m5⟩, y0, y1, y2, y3, y4⟩ := hE15.cells
    go_wp2_with fail
    refine (PMK.out _).mono ?_; rintro e w16 ⟨rfl, hb16⟩
    have hE16 := hE15.grew hb16
    clear m0 m1' m2 m3 m4 m5 y0 y1 y2 y3 y4
    clear hb16 hE15
    have SD17 := Lib.hid (hE16.store mI 0)
    rw [ht6] at SD17
    go_wp2_with fail
    refine SD17.out.mono ?_; rintro e w17 ⟨⟨u17, rfl⟩, hE17⟩
    clear SD17 hE16
    rw [ht7] at hE17
    obtain ⟨⟨m0, m1', m2, m3, m4, m5⟩, y0, y1, y2, y3, y4⟩ := hE17.cells
    go_wp2_with fail
    refine (GV.out _).mono ?_; rintro e w20 ⟨rfl, hb20⟩
    have hE20 := hE17.grew hb20
    clear m0 m1' m2 m3 m4 m5 y0 y1 y2 y3 y4
    clear hb20 hE17
    go_upto_region 28 with fail
    have hF20 : RsF w B x hv t7 P T b w20.heap.size 2 C S D Y 2 C 0 0 cy (w20.alloc (.cells #[.int .i64 2, .int .i64 C, .int .i64 0, .int .i64 0, .int .i64 cy] 71)) := ⟨hE20.grew ((Below.refl _ _).alloc (Nat.le_refl _) _), Blk.new _ _ _, hE20.rs.tch.size⟩
    generalize w20.alloc (.cells #[.int .i64 2, .int .i64 C, .int .i64 0, .int .i64 0, .int .i64 cy] 71) = W20 at *
    generalize w20.heap.size = b3 at *
    have hF20d := hF20.drew
    have SA := Lib.hid (fun W (h : RsF w B x hv t7 P T b b3 2 C S D Y 2 C 0 0 cy W) => h.store eI G)
    rw [ht8] at SA
    clear hE20
    go_wp2_with fail
    go_region_held3 (fun W' => (W'.cell? ⟨w.heap.size, 0, none⟩ = some (.int .i64 P) ∧ W'.cell? ⟨w.heap.size, 1, none⟩ = some (.int .i64 T) ∧ W'.cell? ⟨w.heap.size, 2, none⟩ = some (.int .i64 1) ∧ W'.cell? ⟨w.heap.size, 3, none⟩ = some (.int .i64 (baseI P T 1)) ∧ W'.cell? ⟨w.heap.size, 4, none⟩ = some (.int .i64 (tabI T 1)) ∧ W'.cell? ⟨w.heap.size, 5, none⟩ = some (.int .i64 (baseI P T 1 + 64 * P))) ∧ (W'.cell? ⟨b3, 0, none⟩ = some (.int .i64 2) ∧ W'.cell? ⟨b3, 1, none⟩ = some (.int .i64 C) ∧ W'.cell? ⟨b3, 2, none⟩ = some (.int .i64 0) ∧ W'.cell? ⟨b3, 3, none⟩ = some (.int .i64 0) ∧ W'.cell? ⟨b3, 4, none⟩ = some (.int .i64 cy)))
      ((with_reducible exact RsF.cells (by assumption)))
      (first
        | (go_at_call 24; refine (PE.out _).mono ?_; rintro e w21 ⟨rfl, hb21⟩; have hF21 := RsF.grew (by assumption) hb21)
        | (go_at_call 40; refine (WG.out _).mono ?_; rintro e w22 ⟨rfl, hb22⟩; have hF22 := RsF.grew (by assumption) hb22)
        | (go_at_call 42; refine (SA.out _ (by assumption)).mono ?_; rintro e w23 ⟨⟨u23, rfl⟩, hF23⟩))
    all_goals
      have hE21 := hF23.re
      clear hF20 hF20d SA hF23
      have st := hE21.rs.stop
      rw [hst8] at st
      obtain ⟨hT9, ht9, hR9⟩ := hE21.rs.ret rw0
      dsimp only [rw0, Swr.V] at hT9 ht9 hR9
      obtain ⟨v0, v1, v2, v3, v4⟩ := hE21.rs.res.five
      have q0 := hE21.rs.res.frozen 0
      have q1 := hE21.rs.res.frozen 1
      have q2 := hE21.rs.res.frozen 2
      have q3 := hE21.rs.res.frozen 3
      have q4 := hE21.rs.res.frozen 4
      replace hT9 := Lib.hid hT9
      replace ht9 := Lib.hid ht9
      replace hR9 := Lib.hid hR9
      clear hE21
      go_wp2
      obtain ⟨u0, u1, u2, u3, u4⟩ := hR9.out.five
      refine bodyPost_ret (v := .agg (Swr.V rw0)) (by simp [results, Tryz.results10, go_sem, Swr.V, rw0, u0, u1, u2, u3, u4]) rfl ⟨rfl, hT9.out, ht9.out⟩
set_option maxRecDepth 100000 in
set_option maxHeartbeats 4000000 in
theorem rsw_endlnf (hT : TapeAt w B x hv t) (hx : x < w.heap.size) (hB : ∀ g, hv.ownBlock = some g → g < w.heap.size) (hm : t.H.length ≤ 1000000) (hU : ∀ z ∈ t.H, U64 z) (hE : wrap64 (tabI T 1 + pg) = eI) (h1 : (t.ask 1 eI 0 0).2.st = false) (hz : (t.ask 1 eI 0 0).1 = z) (hD : ∀ W, Calls Tryz.prog 36 #[.int .u64 z] W fun e w' => e = .returned (.tuple #[.agg #[.int .i64 A, .int .i64 C, .int .i64 S, .int .i64 D, .int .i64 Y], .int .i64 0]) ∧ Below W.heap.size W w') (hS2' : (S == 2) = false) (hA : A = 2) (hw : wrap64 (pg + C) = pg + C) (hp : ¬ pg + C > P) (hC : 1 ≤ C ∧ C ≤ 4) (hpg : 0 ≤ pg ∧ pg ≤ 31) (hd : dueB A C S D Y cy = true) (hg : tkB A C S D Y 2 who = true) (E : Int) (hEE : encE A C 2 who Y = E) (hAI : wrap64 (wrap64 (tabI T 1 + P) + pg) = aI) (hMI : wrap64 (wrap64 (tabI T 1 + wrap64 (2 * P)) + pg) = mI) (h2 : ((t.ask 1 eI 0 0).2.ask 4 eI z E).2.st = false) (h3 : (((t.ask 1 eI 0 0).2.ask 4 eI z E).1 == z) = true) (t2 : Tp) (ht2 : ((t.ask 1 eI 0 0).2.ask 4 eI z E).2 = t2) (m1 a1 : Int × Tp) (hm1 : t2.ask 1 mI 0 0 = m1) (ha1 : m1.2.ask 1 aI 0 0 = a1) (lf : Int) (lg : Int) (hlg : bits .and .u64 a1.1 m1.1 = lg) (hlf : Int.tmod lg 2 = lf) (t5 t6 t7 t8 : Tp) (ht5 : (a1.2.ask 2 aI 0 lf).2 = t5) (ht6 : (t5.ask 2 mI 0 0).2 = t6) (ht7 : t6 = t7) (hl0 : (lf == 0) = false) (G : Int) (hG : encE A C 0 0 cy = G) (hgv : gvB A C S D Y cy = true) (ht8 : (t7.ask 2 eI 0 G).2 = t8) (hst8 : t8.st = false) :
    Calls Tryz.prog 10 #[.pointer (some ⟨x, 0, none⟩), .agg #[.int .i64 P, .int .i64 T, .int .i64 1, .int .i64 (baseI P T 1), .int .i64 (tabI T 1), .int .i64 (baseI P T 1 + 64 * P)], .int .i64 who, .int .i64 cy, .int .i64 pg] w (RsPost w B x hv ⟨true, true, false, false, ((plcs a1.1.toNat 64).length : Int) - ((plcs lf.toNat 64).length : Int)⟩ t8) := by
  have PE := Lib.hid (fun W => pmPage_any P T 1 (baseI P T 1) (tabI T 1) (baseI P T 1 + 64 * P) pg W)
  rw [hE] at PE
  have hS := RsS.new (P := P) (T := T) hT hx hB hm hU
  unfold RsPost
  clear hT hB hm hE
  go_enter Tryz.func10, Tryz.ntmps10
  go_upto_region 1 with fail
  generalize (w.alloc (.cells #[.int .i64 P, .int .i64 T, .int .i64 1, .int .i64 (baseI P T 1), .int .i64 (tabI T 1), .int .i64 (baseI P T 1 + 64 * P)] 33)).alloc (.cells #[.bool false, .bool false, .bool false, .bool false, .int .i64 0] 54) = W at *
  obtain ⟨x0, x1, x2, x3, x4, x5⟩ := hS.six
  go_wp2_with fail
  refine (PE.out _).mono ?_; rintro e w1 ⟨rfl, hb1⟩
  have hS1 := hS.grew hb1
  clear x0 x1 x2 x3 x4 x5 hS hb1
  go_wp2_with fail
  refine (hS1.load eI).mono ?_; rintro e w2 ⟨rfl, hS2⟩
  clear hS1
  have st := hS2.stop
  subst hA
  have PAL := Lib.hid (fun W => pmAlloc_any P T 1 (baseI P T 1) (tabI T 1) (baseI P T 1 + 64 * P) pg W)
  rw [hAI] at PAL
  have PMK := Lib.hid (fun W => pmMark_any P T 1 (baseI P T 1) (tabI T 1) (baseI P T 1 + 64 * P) pg W)
  rw [hMI] at PMK
  have GV := Lib.hid (fun W => rgiven_yes W hgv)
  have WG := Lib.hid (fun W => rword_any 2 C 0 0 cy W)
  rw [eencV_yes (by unfold gvB at hgv; rw [Bool.and_eq_true, Bool.and_eq_true] at hgv; exact hgv.2.2), hG] at WG
  clear hAI hMI hgv hG
  have DU := Lib.hid (fun W => rdue_any 2 C S D Y cy W)
  rw [hd] at DU
  clear hd
  have TK := Lib.hid (fun W => rtaken_yes W hg)
  have WO := Lib.hid (fun W => rword_any 2 C 2 who Y W)
  rw [eencV_yes (by unfold tkB at hg; rw [Bool.and_eq_true] at hg; exact hg.2), hEE] at WO
  clear hg hEE
  rw [h1] at st
  rw [hz] at *
  have DE := Lib.hid hD
  clear hD
  go_wp2_with fail
  refine (DE.out _).mono ?_; rintro e w3 ⟨rfl, hb3⟩
  have hS3 := hS2.grew hb3
  clear DE st hb3 hS2
  go_upto_region 5 with fail
  have hE3 := RsE.new (A := 2) (C := C) (S := S) (D := D) (Y := Y) hS3
  generalize w3.alloc (.cells #[.int .i64 2, .int .i64 C, .int .i64 S, .int .i64 D, .int .i64 Y] 71) = W3 at *
  generalize w3.heap.size = b at *
  obtain ⟨⟨m0, m1, m2, m3, m4, m5⟩, y0, y1, y2, y3, y4⟩ := hE3.cells
  clear hS3
  go_wp2_with fail
  refine (DU.out _).mono ?_; rintro e w4 ⟨rfl, hb4⟩
  have hE4 := hE3.grew hb4
  clear m0 m1 m2 m3 m4 m5 y0 y1 y2 y3 y4 hE3 hb4 DU
  obtain ⟨⟨m0, m1, m2, m3, m4, m5⟩, y0, y1, y2, y3, y4⟩ := hE4.cells
  go_wp2_with fail
  refine (TK.out _).mono ?_; rintro e w5 ⟨rfl, hb5⟩
  have hE5 := hE4.grew hb5
  clear m0 m1 m2 m3 m4 m5 y0 y1 y2 y3 y4 hE4 hb5 TK
  go_upto_region 8 with fail
  have hF5 : RsF w B x hv (t.ask 1 eI 0 0).2 P T b w5.heap.size 2 C S D Y 2 C 2 who Y (w5.alloc (.cells #[.int .i64 2, .int .i64 C, .int .i64 2, .int .i64 who, .int .i64 Y] 71)) := ⟨hE5.grew ((Below.refl _ _).alloc (Nat.le_refl _) _), Blk.new _ _ _, hE5.rs.tch.size⟩
  generalize w5.alloc (.cells #[.int .i64 2, .int .i64 C, .int .i64 2, .int .i64 who, .int .i64 Y] 71) = W5 at *
  generalize w5.heap.size = b2 at *
  have hF5d := hF5.drew
  have CA := Lib.hid (fun W (h : RsF w B x hv (t.ask 1 eI 0 0).2 P T b b2 2 C S D Y 2 C 2 who Y W) => h.cas eI z E)
  rw [h3, ht2] at CA
  clear hE5
  go_wp2_with fail
  go_region_held3 (fun W' => (W'.cell? ⟨w.heap.size, 0, none⟩ = some (.int .i64 P) ∧ W'.cell? ⟨w.heap.size, 1, none⟩ = some (.int .i64 T) ∧ W'.cell? ⟨w.heap.size, 2, none⟩ = some (.int .i64 1) ∧ W'.cell? ⟨w.heap.size, 3, none⟩ = some (.int .i64 (baseI P T 1)) ∧ W'.cell? ⟨w.heap.size, 4, none⟩ = some (.int .i64 (tabI T 1)) ∧ W'.cell? ⟨w.heap.size, 5, none⟩ = some (.int .i64 (baseI P T 1 + 64 * P))) ∧ (W'.cell? ⟨b2, 0, none⟩ = some (.int .i64 2) ∧ W'.cell? ⟨b2, 1, none⟩ = some (.int .i64 C) ∧ W'.cell? ⟨b2, 2, none⟩ = some (.int .i64 2) ∧ W'.cell? ⟨b2, 3, none⟩ = some (.int .i64 who) ∧ W'.cell? ⟨b2, 4, none⟩ = some (.int .i64 Y)))
    ((with_reducible exact RsF.cells (by assumption)))
    (first
      | (go_at_call 24; refine (PE.out _).mono ?_; rintro e w6 ⟨rfl, hb6⟩; have hF6 := RsF.grew (by assumption) hb6)
      | (go_at_call 40; refine (WO.out _).mono ?_; rintro e w7 ⟨rfl, hb7⟩; have hF7 := RsF.grew (by assumption) hb7)
      | (go_at_call 39; refine (CA.out _ (by assumption)).mono ?_; rintro e w8 ⟨rfl, hF8⟩))
  all_goals
    replace hF8 := hF8.re
    have st := hF8.rs.stop
    clear hF5 hF5d CA WO
    try clear hF6 hb6
    try clear hF7 hb7
    rw [ht2] at h2
    rw [h2] at st
    have hE8 := hF8
    clear hF8
    have hm1U : U64 m1.1 := by rw [← hm1]; exact ask_U hE8.rs.hU _ _ _ _
    have ha1U : U64 a1.1 := by rw [← ha1]; exact ask_U (by rw [← hm1, ask_H]; exact hE8.rs.hU) _ _ _ _
    have BO := Lib.hid (fun W => both_any a1.1 m1.1 W ha1U hm1U)
    rw [hlg] at BO
    have hlfU : U64 lf := by
      have := (and_natP _ _ ha1U hm1U).1
      rw [hlg] at this
      rw [← hlf, Int.tmod_eq_emod_of_nonneg this.1]
      exact ⟨by omega, by omega⟩
    have PLa := Lib.hid (fun W => places_lenZ a1.1 W ha1U)
    have PLl := Lib.hid (fun W => places_lenZ lf W hlfU)
    have hna := plcs_len_le a1.1.toNat 64
    have hnl := plcs_len_le lf.toNat 64
    have hsub : wrap64 (((plcs a1.1.toNat 64).length : Int) - ((plcs lf.toNat 64).length : Int)) = ((plcs a1.1.toNat 64).length : Int) - ((plcs lf.toNat 64).length : Int) := IntWalk.wrap64_in _ (by omega)
    clear hm1U ha1U hlfU hlg
    obtain ⟨⟨m0, m1', m2, m3, m4, m5⟩, y0, y1, y2, y3, y4⟩ := hE8.cells
    go_wp2_with fail
    refine (PMK.out _).mono ?_; rintro e w9 ⟨rfl, hb9⟩
    have hE9 := hE8.grew hb9
    clear m0 m1' m2 m3 m4 m5 y0 y1 y2 y3 y4
    clear hb9 hE8 st
    have LD10 := Lib.hid (hE9.load mI)
    rw [hm1] at LD10
    go_wp2_with fail
    refine LD10.out.mono ?_; rintro e w10 ⟨rfl, hE10⟩
    clear LD10 hE9
    obtain ⟨⟨m0, m1', m2, m3, m4, m5⟩, y0, y1, y2, y3, y4⟩ := hE10.cells
    go_wp2_with fail
    refine (PAL.out _).mono ?_; rintro e w11 ⟨rfl, hb11⟩
    have hE11 := hE10.grew hb11
    clear m0 m1' m2 m3 m4 m5 y0 y1 y2 y3 y4
    clear hb11 hE10
    have LD12 := Lib.hid (hE11.load aI)
    rw [ha1] at LD12
    go_wp2_with fail
    refine LD12.out.mono ?_; rintro e w12 ⟨rfl, hE12⟩
    clear LD12 hE11
    obtain ⟨⟨m0, m1', m2, m3, m4, m5⟩, y0, y1, y2, y3, y4⟩ := hE12.cells
    go_wp2_with fail
    refine (BO.out _).mono ?_; rintro e w13 ⟨rfl, hb13⟩
    have hE13 := hE12.grew hb13
    clear m0 m1' m2 m3 m4 m5 y0 y1 y2 y3 y4
    clear hb13 hE12
    obtain ⟨⟨m0, m1', m2, m3, m4, m5⟩, y0, y1, y2, y3, y4⟩ := hE13.cells
    go_wp2_with fail
    refine (PAL.out _).mono ?_; rintro e w14 ⟨rfl, hb14⟩
    have hE14 := hE13.grew hb14
    clear m0 m1' m2 m3 m4 m5 y0 y1 y2 y3 y4
    clear hb14 hE13
    have SD15 := Lib.hid (hE14.store aI lf)
    rw [ht5] at SD15
    go_wp2_with fail
    refine SD15.out.mono ?_; rintro e w15 ⟨⟨u15, rfl⟩, hE15⟩
    clear SD15 hE14
    obtain ⟨⟨m0, m1', m2, m3, m4, m5⟩, y0, y1, y2, y3, y4⟩ := hE15.cells
    go_wp2_with fail
    refine (PMK.out _).mono ?_; rintro e w16 ⟨rfl, hb16⟩
    have hE16 := hE15.grew hb16
    clear m0 m1' m2 m3 m4 m5 y0 y1 y2 y3 y4
    clear hb16 hE15
    have SD17 := Lib.hid (hE16.store mI 0)
    rw [ht6] at SD17
    go_wp2_with fail
    refine SD17.out.mono ?_; rintro e w17 ⟨⟨u17, rfl⟩, hE17⟩
    clear SD17 hE16
    rw [ht7] at hE17
    obtain ⟨⟨m0, m1', m2, m3, m4, m5⟩, y0, y1, y2, y3, y4⟩ := hE17.cells
    go_wp2_with fail
    refine (GV.out _).mono ?_; rintro e w20 ⟨rfl, hb20⟩
    have hE20 := hE17.grew hb20
    clear m0 m1' m2 m3 m4 m5 y0 y1 y2 y3 y4
    clear hb20 hE17
    go_upto_region 28 with fail
    have hF20 : RsF w B x hv t7 P T b w20.heap.size 2 C S D Y 2 C 0 0 cy (w20.alloc (.cells #[.int .i64 2, .int .i64 C, .int .i64 0, .int .i64 0, .int .i64 cy] 71)) := ⟨hE20.grew ((Below.refl _ _).alloc (Nat.le_refl _) _), Blk.new _ _ _, hE20.rs.tch.size⟩
    generalize w20.alloc (.cells #[.int .i64 2, .int .i64 C, .int .i64 0, .int .i64 0, .int .i64 cy] 71) = W20 at *
    generalize w20.heap.size = b3 at *
    have hF20d := hF20.drew
    have SA := Lib.hid (fun W (h : RsF w B x hv t7 P T b b3 2 C S D Y 2 C 0 0 cy W) => h.store eI G)
    rw [ht8] at SA
    clear hE20
    go_wp2_with fail
    go_region_held3 (fun W' => (W'.cell? ⟨w.heap.size, 0, none⟩ = some (.int .i64 P) ∧ W'.cell? ⟨w.heap.size, 1, none⟩ = some (.int .i64 T) ∧ W'.cell? ⟨w.heap.size, 2, none⟩ = some (.int .i64 1) ∧ W'.cell? ⟨w.heap.size, 3, none⟩ = some (.int .i64 (baseI P T 1)) ∧ W'.cell? ⟨w.heap.size, 4, none⟩ = some (.int .i64 (tabI T 1)) ∧ W'.cell? ⟨w.heap.size, 5, none⟩ = some (.int .i64 (baseI P T 1 + 64 * P))) ∧ (W'.cell? ⟨b3, 0, none⟩ = some (.int .i64 2) ∧ W'.cell? ⟨b3, 1, none⟩ = some (.int .i64 C) ∧ W'.cell? ⟨b3, 2, none⟩ = some (.int .i64 0) ∧ W'.cell? ⟨b3, 3, none⟩ = some (.int .i64 0) ∧ W'.cell? ⟨b3, 4, none⟩ = some (.int .i64 cy)))
      ((with_reducible exact RsF.cells (by assumption)))
      (first
        | (go_at_call 24; refine (PE.out _).mono ?_; rintro e w21 ⟨rfl, hb21⟩; have hF21 := RsF.grew (by assumption) hb21)
        | (go_at_call 40; refine (WG.out _).mono ?_; rintro e w22 ⟨rfl, hb22⟩; have hF22 := RsF.grew (by assumption) hb22)
        | (go_at_call 42; refine (SA.out _ (by assumption)).mono ?_; rintro e w23 ⟨⟨u23, rfl⟩, hF23⟩))
    all_goals
      have hE21 := hF23.re
      clear hF20 hF20d SA hF23
      have st := hE21.rs.stop
      rw [hst8] at st
      go_wp2_with fail
      refine (PLa.out _).mono ?_; rintro e w24 ⟨aa, ac, rfl, hb24⟩
      have hE24 := hE21.grew hb24
      go_wp2_with fail
      refine (PLl.out _).mono ?_; rintro e w25 ⟨la, lc, rfl, hb25⟩
      have hE25 := hE24.grew hb25
      clear hE21 hE24 hb24 hb25 st
      obtain ⟨hT9, ht9, hR9⟩ := hE25.rs.ret ⟨true, true, false, false, ((plcs a1.1.toNat 64).length : Int) - ((plcs lf.toNat 64).length : Int)⟩
      dsimp only [rw0, Swr.V] at hT9 ht9 hR9
      obtain ⟨v0, v1, v2, v3, v4⟩ := hE25.rs.res.five
      have q0 := hE25.rs.res.frozen 0
      have q1 := hE25.rs.res.frozen 1
      have q2 := hE25.rs.res.frozen 2
      have q3 := hE25.rs.res.frozen 3
      have q4 := hE25.rs.res.frozen 4
      replace hT9 := Lib.hid hT9
      replace ht9 := Lib.hid ht9
      replace hR9 := Lib.hid hR9
      clear hE25
      go_wp2
      obtain ⟨u0, u1, u2, u3, u4⟩ := hR9.out.five
      refine bodyPost_ret (v := .agg (Swr.V ⟨true, true, false, false, ((plcs a1.1.toNat 64).length : Int) - ((plcs lf.toNat 64).length : Int)⟩)) (by simp [results, Tryz.results10, go_sem, Swr.V, rw0, u0, u1, u2, u3, u4]) rfl ⟨rfl, hT9.out, ht9.out⟩
end
end Go.Proofs.YtnodeojeijekcaaGreat
