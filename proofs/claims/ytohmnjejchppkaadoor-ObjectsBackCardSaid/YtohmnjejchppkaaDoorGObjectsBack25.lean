/- The law ObjectsBack. Conditions: the words are read in full; sizes' table lies as the start lays it. -/
import Derived.Deep.CutBlock
import Derived.Deep.DeepCutAuto
import Derived.Test.YtohmnjejchppkaaDoorGObjectsBack16
import Derived.Test.YtohmnjejchppkaaDoorGObjectsBack22
import Derived.Test.YtohmnjejchppkaaDoorGObjectsBack23
import Derived.Test.YtohmnjejchppkaaDoorGObjectsBack24
namespace Go.Proofs.YtohmnjejchppkaaDoor
open Go.RowKit
set_option linter.unusedVariables false
/-- the boxes of the plan, the header, the map and the entry -/
structure BkS (w : World) (Bq Bh Bd Be : Nat) (P kd : Int) (N : Nat) (k c s : Int) (W : World) : Prop where
  pl : Blk W Bq #[.int .i64 P, .int .i64 1, .int .i64 1] 28
  hd : Blk W Bh #[.int .i64 0, .int .i64 kd, .int .i64 (N : Int)] 30
  mp : Blk W Bd #[.int .i64 P, .int .i64 1, .int .i64 1, .int .i64 64, .int .i64 22, .int .i64 (64 + 64 * P)] 32
  en : Blk W Be #[.int .i64 k, .int .i64 c, .int .i64 s, .int .i64 0, .int .i64 0] 35
  bel : Below w.heap.size w W
theorem BkS.grew {w W W' : World} {Bq Bh Bd Be : Nat} {P kd : Int} {N : Nat} {k c s : Int} (h : BkS w Bq Bh Bd Be P kd N k c s W) (hb : Below W.heap.size W W') : BkS w Bq Bh Bd Be P kd N k c s W' :=
  ⟨h.pl.grew hb, h.hd.grew hb, h.mp.grew hb, h.en.grew hb, h.bel.trans (hb.mono h.bel.size)⟩
theorem BkS.put {w W : World} {Bq Bh Bd Be : Nat} {P kd : Int} {N : Nat} {k0 c0 s0 : Int} (h : BkS w Bq Bh Bd Be P kd N k0 c0 s0 W) (h1 : Bq ≠ Be) (h2 : Bh ≠ Be) (h3 : Bd ≠ Be) (hw : w.heap.size ≤ Be) (k c s : Int) :
    BkS w Bq Bh Bd Be P kd N k c s (((((W.setCell ⟨Be, 0, none⟩ (.int .i64 k)).setCell ⟨Be, 1, none⟩ (.int .i64 c)).setCell ⟨Be, 2, none⟩ (.int .i64 s)).setCell ⟨Be, 3, none⟩ (.int .i64 0)).setCell ⟨Be, 4, none⟩ (.int .i64 0)) :=
  ⟨((((h.pl.other _ _ h1).other _ _ h1).other _ _ h1).other _ _ h1).other _ _ h1, ((((h.hd.other _ _ h2).other _ _ h2).other _ _ h2).other _ _ h2).other _ _ h2, ((((h.mp.other _ _ h3).other _ _ h3).other _ _ h3).other _ _ h3).other _ _ h3,
   ((((h.en.set 0 _).set 1 _).set 2 _).set 3 _).set 4 _,
   ((((h.bel.setCell (p := ⟨Be, 0, none⟩) hw _).setCell (p := ⟨Be, 1, none⟩) hw _).setCell (p := ⟨Be, 2, none⟩) hw _).setCell (p := ⟨Be, 3, none⟩) hw _).setCell (p := ⟨Be, 4, none⟩) hw _⟩
theorem BkS.touch {R : Nat → Prop} {w W W' : World} {Bq Bh Bd Be : Nat} {P kd : Int} {N : Nat} {k c s : Int} (h : BkS w Bq Bh Bd Be P kd N k c s W) (ht : Touch R W W') (hR : ∀ b, R b → w.heap.size ≤ b ∧ b ≠ Bq ∧ b ≠ Bh ∧ b ≠ Bd ∧ b ≠ Be) : BkS w Bq Bh Bd Be P kd N k c s W' :=
  ⟨h.pl.touch ht (fun e => (hR _ e).2.1 rfl), h.hd.touch ht (fun e => (hR _ e).2.2.1 rfl), h.mp.touch ht (fun e => (hR _ e).2.2.2.1 rfl), h.en.touch ht (fun e => (hR _ e).2.2.2.2 rfl), h.bel.trans (ht.below h.bel.size (fun b e => (hR b e).1))⟩
theorem begins_ge (j : Nat) (hj : j < 8) (w : World) : Calls Tryd.prog 8 #[.int .i64 (j : Int)] w fun e w' => ∃ b k, e = .returned (.slice (some ⟨b, 0, none⟩) (numF j) k) ∧ w.heap.size ≤ b ∧ (∀ i, i < numF j → w'.cell? ⟨b, i, none⟩ = some (.int .i64 (((i : Nat) : Int) * widF j))) ∧ Below w.heap.size w w' := by
  obtain ⟨h1, h2⟩ := cellL_at j hj
  have h0 : ∀ j : Fin 8, 0 < numF j.val := by decide
  have h5 : 0 < numF j := h0 ⟨j, hj⟩
  refine (begins_any (j : Int) w).mono fun _ _ ⟨v, he, hr, hb⟩ => ?_
  obtain ⟨g, cap, rfl, q1, _, _, _, q5⟩ := own_cellG hr (by rw [h1]; exact h5)
  refine ⟨g, cap, by rw [he, h1], q1, fun i hi => q5 i _ ?_, hb⟩
  have hil : i < (cellL (j : Int)).length := by rw [h1]; exact hi
  rw [List.getElem?_map, List.getElem?_eq_getElem hil]
  have := h2 i hi
  rw [List.getD_eq_getElem?_getD, List.getElem?_eq_getElem hil] at this
  simp at this
  simp [this]
theorem six_atB {w : World} {b : Nat} {v0 v1 v2 v3 v4 v5 : Value} {t : TypeId} (h : Blk w b #[v0, v1, v2, v3, v4, v5] t) :
    w.cell? ⟨b, 0, none⟩ = some v0 ∧ w.cell? ⟨b, 1, none⟩ = some v1 ∧ w.cell? ⟨b, 2, none⟩ = some v2 ∧ w.cell? ⟨b, 3, none⟩ = some v3 ∧ w.cell? ⟨b, 4, none⟩ = some v4 ∧ w.cell? ⟨b, 5, none⟩ = some v5 :=
  ⟨h.val 0 rfl, h.val 1 rfl, h.val 2 rfl, h.val 3 rfl, h.val 4 rfl, h.val 5 rfl⟩
set_option maxRecDepth 100000 in
set_option maxHeartbeats 16000000 in
theorem oback_law (xp xg xc xn : Int) (refs : Bool) (v : Value) (l : List (Int × Int)) (w : World) (w0 : (Lit.int .i64 xp).wf = true) (w1 : (Lit.int .i64 xg).wf = true) (w2 : (Lit.int .i64 xc).wf = true) (w3 : (Lit.int .i64 xn).wf = true) (hvc : RdRow 2 ElW w.heap.size w v l ∧ ∃ a n c, v = .slice a n c ∧ n ≤ c) (hWid : Wid w) :
    Calls Tryd.prog 3 #[.agg #[.int .i64 xp, .int .i64 xg, .int .i64 xc, .int .i64 xn, .bool refs, v]] w fun e w' => e = .returned (.bool true) ∧ Below w.heap.size w w' := by
  obtain ⟨hv, hcap⟩ := hvc
  obtain ⟨av, qv, rfl⟩ := rd_shape hv
  have hqv : l.length ≤ qv := by
    obtain ⟨a', n', c', h1, h2⟩ := hcap
    injection h1 with _ h3 h4
    omega
  clear hcap
  have hUl0 : ∀ x ∈ l, U64 x.2 := by
    obtain ⟨a', c', _, _, hel⟩ := id hv
    intro x hx
    obtain ⟨i, hi, rfl⟩ := List.getElem_of_mem hx
    obtain ⟨b, o, _, _, e⟩ := hel i hi
    exact e.2.2
  have RW := Lib.hid (fun W (hb : Below w.heap.size w W) => (hv.keep hb fun _ _ _ e r => r.keep hb e).mono (el' := ElW) hb.size (fun _ _ _ e => e))
  have WI := Lib.hid (fun W (hb : Below w.heap.size w W) => hWid.below hb hWid.lt)
  have hX := Blk.new w #[.int .i64 xp, .int .i64 xg, .int .i64 xc, .int .i64 xn, .bool refs, .slice av l.length qv] 24
  have hB : Below w.heap.size w (w.alloc (.cells #[.int .i64 xp, .int .i64 xg, .int .i64 xc, .int .i64 xn, .bool refs, .slice av l.length qv] 24)) := (Below.refl _ _).alloc (Nat.le_refl _) _
  clear w0 w1 w2 w3 hv hWid
  go_enter Tryd.func3, Tryd.ntmps3
  go_upto_region 1 with fail
  generalize w.alloc (.cells #[.int .i64 xp, .int .i64 xg, .int .i64 xc, .int .i64 xn, .bool refs, .slice av l.length qv] 24) = W0 at *
  obtain ⟨x0, x1, x2, x3, x4, x5⟩ := six_atB hX
  go_quiet (fail)
  have hB1 : Below w.heap.size w (W0.drewN nq) := hB.trans ((Quiet.below ⟨nq, rfl⟩ : Below W0.heap.size W0 (W0.drewN nq)).mono hB.size)
  clear hX hB x0 x1 x2 x3 x4 x5
  generalize W0.drewN nq = W1 at *
  have BA := Lib.hid (built_any W1 (WI.out _ hB1))
  go_wp2_with fail
  refine BA.out.mono ?_; rintro e w1 ⟨rfl, hb1⟩
  have hB2 := hB1.trans (hb1.mono hB1.size)
  clear hB1 hb1 BA
  obtain ⟨P, hP, hPe⟩ : ∃ P : Int, (P = 4 ∨ P = 5) ∧ Hid (wrap64 (4 + wrap64 ((IntKind.u64.wrap xp).tmod 2)) = P) := by
    obtain ⟨e1, _⟩ := layAt_val (N := 2) (by omega) (by omega) xp
    have hl := layAt_lt (N := 2) (by omega) xp
    have e1' : wrap64 ((IntKind.u64.wrap xp).tmod 2) = (layAt 2 xp : Int) := e1
    exact ⟨4 + (layAt 2 xp : Int), by omega, Lib.hid (by rw [e1', IntWalk.wrap64_in _ ⟨by omega, by omega⟩])⟩
  obtain ⟨N, hN, hNe⟩ : ∃ N : Nat, N ≤ 255 ∧ Hid (wrap64 ((IntKind.u64.wrap xn).tmod 256) = (N : Int)) :=
    ⟨layAt 256 xn, by have := layAt_lt (N := 256) (by omega) xn; omega, Lib.hid (layAt_val (N := 256) (by omega) (by omega) xn).1⟩
  obtain ⟨pg0, hpg0, hpge⟩ : ∃ pg : Nat, (pg : Int) < P ∧ Hid (wrap64 ((IntKind.u64.wrap xg).tmod P) = (pg : Int)) := by
    rcases hP with rfl | rfl
    · exact ⟨layAt 4 xg, by have := layAt_lt (N := 4) (by omega) xg; omega, Lib.hid (layAt_val (N := 4) (by omega) (by omega) xg).1⟩
    · exact ⟨layAt 5 xg, by have := layAt_lt (N := 5) (by omega) xg; omega, Lib.hid (layAt_val (N := 5) (by omega) (by omega) xg).1⟩
  go_upto_if 65 with fail
  rw [hPe.out, hNe.out]
  have h9 : Blk ((w1.alloc (.cells #[.int .i64 P, .int .i64 1, .int .i64 1] 28)).alloc (.cells #[.int .i64 0, .int .i64 2, .int .i64 (N : Int)] 30)) w1.heap.size #[.int .i64 P, .int .i64 1, .int .i64 1] 28 := (Blk.new _ _ _).alloc _
  have h10 : Blk ((w1.alloc (.cells #[.int .i64 P, .int .i64 1, .int .i64 1] 28)).alloc (.cells #[.int .i64 0, .int .i64 2, .int .i64 (N : Int)] 30)) (w1.heap.size + 1) #[.int .i64 0, .int .i64 2, .int .i64 (N : Int)] 30 := Blk.new' (by simp)
  have hB3 : Below w.heap.size w ((w1.alloc (.cells #[.int .i64 P, .int .i64 1, .int .i64 1] 28)).alloc (.cells #[.int .i64 0, .int .i64 2, .int .i64 (N : Int)] 30)) := (hB2.alloc hB2.size _).alloc (by have := hB2.size; simp; omega) _
  have hw1 := hB2.size
  clear hPe hNe hB2
  try rw [show (w1.alloc (.cells #[.int .i64 P, .int .i64 1, .int .i64 1] 28)).heap.size = w1.heap.size + 1 by simp]
  generalize (w1.alloc (.cells #[.int .i64 P, .int .i64 1, .int .i64 1] 28)).alloc (.cells #[.int .i64 0, .int .i64 2, .int .i64 (N : Int)] 30) = w2 at *
  generalize w1.heap.size = Bq at *
  go_cut [10] from 66 to 68 (fun s wx => s = .pointer (some ⟨Bq + 1, 0, none⟩) ∧ ∃ kd : Int, (kd = 2 ∨ kd = 3) ∧ Blk wx Bq #[.int .i64 P, .int .i64 1, .int .i64 1] 28 ∧ Blk wx (Bq + 1) #[.int .i64 0, .int .i64 kd, .int .i64 (N : Int)] 30 ∧ Below w.heap.size w wx)
  case first =>
    have y1 := h10.val 1 rfl
    have f1 := h10.frozen 1
    have hs := h10.set 1 (.int .i64 3)
    have ho := h9.other ⟨Bq + 1, 1, none⟩ (.int .i64 3) (by simp)
    have hb := hB3.setCell (p := ⟨Bq + 1, 1, none⟩) (by simp; omega) (.int .i64 3)
    cases refs with
    | false =>
      go_wp2
      go_meet
      case rel => exact ⟨rfl, 2, .inl rfl, h9, h10, hB3⟩
    | true =>
      go_wp2
      go_meet
      case rel => exact ⟨rfl, 3, .inr rfl, ho, hs, hb⟩
  case rest =>
    clear h9 h10 hB3
    obtain ⟨rfl, kd, hkd, h9, h10, hB3⟩ := hcut
    have q9 := h9.lt
    have q10 := h10.lt
    obtain ⟨b1, b2, b3, hr⟩ := bk_base hP
    have DR := Lib.hid (draw_yes P 1 1 wc hr)
    unfold mapV at DR
    rw [b1, b2] at DR
    have PG := Lib.hid (fun W => rpages_any ((N : Int) + 1) W)
    obtain ⟨g0, g1, g2⟩ := h9.three.1
    go_wp2_with fail
    refine DR.out.mono ?_; rintro e w3 ⟨rfl, hb3⟩
    have h9a := h9.grew hb3
    have h10a := h10.grew hb3
    have hB4 := hB3.trans (hb3.mono hB3.size)
    have q3 := hb3.size
    clear g0 g1 g2 h9 h10 hB3 hb3 DR
    go_upto_region 10 with fail
    have hz : Below w3.heap.size w3 ((w3.alloc (.cells #[.int .i64 P, .int .i64 1, .int .i64 1, .int .i64 64, .int .i64 22, .int .i64 (64 + 64 * P)] 32)).alloc (.cells #[.int .i64 0, .int .i64 0, .int .i64 0, .int .i64 0, .int .i64 0] 35)) := ((Below.refl _ _).alloc (Nat.le_refl _) _).alloc (by simp) _
    have hS5 : BkS w Bq (Bq + 1) w3.heap.size (w3.heap.size + 1) P kd N 0 0 0 ((w3.alloc (.cells #[.int .i64 P, .int .i64 1, .int .i64 1, .int .i64 64, .int .i64 22, .int .i64 (64 + 64 * P)] 32)).alloc (.cells #[.int .i64 0, .int .i64 0, .int .i64 0, .int .i64 0, .int .i64 0] 35)) :=
      ⟨h9a.grew hz, h10a.grew hz, (Blk.new _ _ _).alloc _, Blk.new' (by simp), hB4.trans (hz.mono hB4.size)⟩
    clear h9a h10a hz hB4
    go_upto_region 11 with fail
    try rw [show (w3.alloc (.cells #[.int .i64 P, .int .i64 1, .int .i64 1, .int .i64 64, .int .i64 22, .int .i64 (64 + 64 * P)] 32)).heap.size = w3.heap.size + 1 by simp]
    generalize (w3.alloc (.cells #[.int .i64 P, .int .i64 1, .int .i64 1, .int .i64 64, .int .i64 22, .int .i64 (64 + 64 * P)] 32)).alloc (.cells #[.int .i64 0, .int .i64 0, .int .i64 0, .int .i64 0, .int .i64 0] 35) = w4 at *
    generalize hBd : w3.heap.size = Bd at *
    go_wp2_with fail
    refine (PG.out _).mono ?_; rintro e w5 ⟨rfl, rfl⟩
    obtain ⟨g0, g1, g2⟩ := hS5.pl.three.1
    have eP : IntKind.u64.wrap P = P := by rw [IntKind.wrap_u64]; omega
    go_upto_if 84 with fail
    rw [hpge.out]
    clear hpge g0 g1 g2
    have hP1 : 4 ≤ P := by omega
    have hP2 : P ≤ 5 := by omega
    have hSl := hS5.en.lt
    have hbw := hS5.bel.size
    go_cut [4, 13, 16, 17, 18] from 85 to 125 (fun s4 s13 s16 s17 s18 wx => ∃ (k c s : Int) (pg off : Nat), s4 = .int .i64 (pg : Int) ∧ s13 = .int .i64 (64 + 64 * (pg : Int) + (off : Int)) ∧ BkF P N pg off k c s ∧ BkS w Bq (Bq + 1) Bd (Bd + 1) P kd N k c s wx)
    case first =>
      obtain ⟨g0, g1, g2⟩ := hS5.pl.three.1
      have m3 : w5.cell? ⟨Bd, 3, none⟩ = some (.int .i64 64) := hS5.mp.val 3 rfl
      have hfiv := five_at hS5.en
      obtain ⟨e0, e1, e2, e3, e4⟩ := hfiv
      have f0 := hS5.en.frozen 0
      have f1 := hS5.en.frozen 1
      have f2 := hS5.en.frozen 2
      have f3 := hS5.en.frozen 3
      have f4 := hS5.en.frozen 4
      have hst : ∀ k c s : Int, Hid (BkS w Bq (Bq + 1) Bd (Bd + 1) P kd N k c s (((((w5.setCell ⟨Bd + 1, 0, none⟩ (.int .i64 k)).setCell ⟨Bd + 1, 1, none⟩ (.int .i64 c)).setCell ⟨Bd + 1, 2, none⟩ (.int .i64 s)).setCell ⟨Bd + 1, 3, none⟩ (.int .i64 0)).setCell ⟨Bd + 1, 4, none⟩ (.int .i64 0))) := fun k c s => Lib.hid (hS5.put (by omega) (by omega) (by omega) (by omega) k c s)
      by_cases hc : 0 < pgV ((N : Int) + 1)
      · have hqb := pgV_bd ((N : Int) + 1)
        obtain ⟨pg, hpg⟩ : ∃ pg : Nat, (pg : Int) = (pg0 : Int) % (P - pgV ((N : Int) + 1) + 1) := ⟨((pg0 : Int) % (P - pgV ((N : Int) + 1) + 1)).toNat, by
          have := Int.emod_nonneg (pg0 : Int) (show P - pgV ((N : Int) + 1) + 1 ≠ 0 by omega); omega⟩
        have hlt := Int.emod_lt_of_pos (pg0 : Int) (show 0 < P - pgV ((N : Int) + 1) + 1 by omega)
        have HF := Lib.hid (bk_large (pg := pg) hP hN hc (by omega))
        have HS := hst 2 (pgV ((N : Int) + 1)) 0
        have hm : (pg0 : Int) % (P - pgV ((N : Int) + 1) + 1) = (pg : Int) := hpg.symm
        have HM := Lib.hid hm
        clear hpg hm
        generalize pgV ((N : Int) + 1) = q at *
        have hq0 : ¬ P - q + 1 = 0 := by omega
        have hpgb : (pg : Int) < 6 := by have := HF.out.hp; omega
        go_upto_region 16 with fail
        rw [HM.out]
        clear e0 e1 e2 e3 e4 f0 f1 f2 f3 f4 m3 g0 g1 g2 hst hS5
        generalize World.setCell (World.setCell (World.setCell (World.setCell (World.setCell _ _ _) _ _) _ _) _ _) _ _ = W6 at *
        have m3 : W6.cell? ⟨Bd, 3, none⟩ = some (.int .i64 64) := HS.out.mp.val 3 rfl
        go_wp2
        go_meet
        case rel => exact ⟨2, q, 0, pg, 0, rfl, by simp, HF.out, HS.out⟩
      · have hN31 : N ≤ 31 := by
          rcases Nat.lt_or_ge 31 N with h | h
          · exfalso
            have e1 := (pg_mid ((N : Int) + 1) (by omega) (by omega)).1
            rw [e1] at hc; omega
          · omega
        obtain ⟨j, hcj, hj, hwj⟩ := cl_wid N hN31
        have hnum := num_le j hj
        have hnum0 : 0 < numF j := by
          have : ∀ j : Fin 8, 0 < numF j.val := by decide
          exact this ⟨j, hj⟩
        have hi := layAt_lt (N := numF j) hnum0 xc
        have hie := (layAt_val (N := numF j) hnum0 (by omega) xc)
        generalize layAt (numF j) xc = i at *
        have HF := Lib.hid (bk_small (pg := pg0) hP hN31 hpg0 hcj hj hwj hi)
        have hwb := widF_bd j hj
        have hfit : (i : Int) * widF j + widF j ≤ 64 := num_fit ⟨j, hj⟩ ⟨i, by omega⟩ hi
        have h0 : 0 ≤ (i : Int) * widF j := Int.mul_nonneg (by omega) (by omega)
        have HO := Lib.hid (show (((i : Int) * widF j).toNat : Int) = (i : Int) * widF j by omega)
        have CL := Lib.hid (fun W => rclass_any ((N : Int) + 1) W)
        rw [hcj] at CL
        have BG := Lib.hid (fun W => begins_ge j hj W)
        have HIE := Lib.hid hie
        have hq0 : pgV ((N : Int) + 1) = 0 := by have := pgV_bd ((N : Int) + 1); omega
        clear e0 e1 e2 e3 e4 f0 f1 f2 f3 f4 m3 g0 g1 g2 hie hcj hwj hq0
        generalize hoff : (i : Int) * widF j = off at *
        go_wp2_with fail
        refine (CL.out _).mono ?_; rintro e w6 ⟨rfl, hb6⟩
        have hS6 := hS5.grew hb6
        clear hst hS5 hb6 CL
        go_wp2_with fail
        refine (BG.out _).mono ?_; rintro e w7 ⟨bb, bk, rfl, hbg, hbc, hb7⟩
        have hS7 := hS6.grew hb7
        have hcell := hbc i hi
        have HS := Lib.hid (hS7.put (by omega) (by omega) (by omega) (by omega) 1 (j : Int) 1)
        have hbne : bb ≠ Bd + 1 := by have := hS6.en.lt; omega
        obtain ⟨e0, e1, e2, e3, e4⟩ := five_at hS7.en
        have f0 := hS7.en.frozen 0
        have f1 := hS7.en.frozen 1
        have f2 := hS7.en.frozen 2
        have f3 := hS7.en.frozen 3
        have f4 := hS7.en.frozen 4
        have hcell6 : (((((w7.setCell ⟨Bd + 1, 0, none⟩ (.int .i64 1)).setCell ⟨Bd + 1, 1, none⟩ (.int .i64 (j : Int))).setCell ⟨Bd + 1, 2, none⟩ (.int .i64 1)).setCell ⟨Bd + 1, 3, none⟩ (.int .i64 0)).setCell ⟨Bd + 1, 4, none⟩ (.int .i64 0)).cell? ⟨bb, i, none⟩ = some (.int .i64 ((i : Int) * widF j)) := by
          rw [World.cell?_setCell_far _ _ _ _ (Ne.symm hbne), World.cell?_setCell_far _ _ _ _ (Ne.symm hbne), World.cell?_setCell_far _ _ _ _ (Ne.symm hbne), World.cell?_setCell_far _ _ _ _ (Ne.symm hbne), World.cell?_setCell_far _ _ _ _ (Ne.symm hbne)]
          exact hcell
        rw [hoff] at hcell6
        go_upto_region 20 with fail
        clear e0 e1 e2 e3 e4 f0 f1 f2 f3 f4 hcell hbc hS7 hb7 hS6
        generalize World.setCell (World.setCell (World.setCell (World.setCell (World.setCell _ _ _) _ _) _ _) _ _) _ _ = W6 at *
        have m3 : W6.cell? ⟨Bd, 3, none⟩ = some (.int .i64 64) := HS.out.mp.val 3 rfl
        have hm := HIE.out
        have hpg6 : (pg0 : Int) < 6 := by omega
        have eu : IntKind.u64.wrap ((numF j : Nat) : Int) = ((numF j : Nat) : Int) := by rw [IntKind.wrap_u64]; omega
        have hin0 : 0 < numF j := hnum0
        have hin1 : ¬ ((numF j : Nat) : Int) = 0 := by omega
        have hi1 : (0 : Int) ≤ (i : Int) ∧ (i : Int) < ((numF j : Nat) : Int) := by omega
        have hoffb : 0 ≤ off ∧ off ≤ 63 := by omega
        go_quiet (fail)
        go_wp2
        go_meet
        case rel => exact ⟨1, (j : Int), 1, pg0, off.toNat, rfl, by rw [HO.out], HF.out, HS.out.grew (Quiet.below ⟨_, rfl⟩)⟩
    case rest =>
      clear hS5
      obtain ⟨k, c, s, pg, off, rfl, rfl, hF, hS⟩ := hcut
      obtain ⟨X, hX⟩ : ∃ X : Nat, 64 + 64 * (pg : Int) + (off : Int) = (X : Int) := ⟨64 + 64 * pg + off, by omega⟩
      rw [hX]
      have hXN : X + 1 + N ≤ 64 + 64 * P.toNat := by have := hF.fit; omega
      have EN := Lib.hid (fun W => reenc_yes k c s 0 0 W hF.ent)
      obtain ⟨e0, e1, e2, e3, e4⟩ := five_at hS.en
      have HF := Lib.hid hF
      have hpgP := hF.hp
      have hoff := hF.ho
      generalize hE : encE k c s 0 0 = E at *
      have hEU : U64 E := by have := hF.eok.2.2.2; rw [hE] at this; exact this
      go_wp2_with fail
      refine (EN.out _).mono ?_; rintro e w8 ⟨rfl, hb8⟩
      have hS8 := hS.grew hb8
      have hS9 : BkS w Bq (Bq + 1) Bd (Bd + 1) P kd N k c s w8.drew := hS8.grew (Quiet.below ⟨1, rfl⟩ : Below w8.heap.size w8 w8.drew)
      clear hS hS8 hb8 EN e0 e1 e2 e3 e4 hF
      obtain ⟨mm, hmm, hmm2, hmin⟩ : ∃ mm : Nat, mm ≤ l.length ∧ mm ≤ 200 ∧ Hid (min (l.length : Int) 200 = (mm : Int) ∧ (if (l.length : Int) ≤ 200 then (l.length : Int) else 200) = (mm : Int)) :=
        ⟨min l.length 200, by omega, by omega, Lib.hid ⟨by omega, by split <;> omega⟩⟩
      have hml : (l.take mm).length = mm := by rw [List.length_take]; omega
      have hmq : mm ≤ qv := by omega
      have hNC := b3
      obtain ⟨ix, hix⟩ : ∃ ix : Nat, ix = 22 + pg := ⟨_, rfl⟩
      have hidx : ix < cellsN P 1 1 := by omega
      have hNC6 : cellsN P 1 1 ≤ 1000000 := by omega
      have hUl : ∀ x ∈ l.take mm ++ [((ix : Int), E)], U64 x.2 := by
        intro x hx
        rcases List.mem_append.1 hx with h | h
        · exact hUl0 x (List.mem_of_mem_take h)
        · obtain rfl : x = ((ix : Int), E) := by simpa using h
          exact hEU
      have PE := Lib.hid (fun W => (by
        have := mpage_any P 1 1 64 22 (64 + 64 * P) (pg : Int) W
        rw [IntWalk.wrap64_in _ ⟨by omega, by omega⟩, show (22 : Int) + (pg : Int) = (ix : Int) by omega] at this
        exact this : Calls Tryd.prog 11 #[.agg #[.int .i64 P, .int .i64 1, .int .i64 1, .int .i64 64, .int .i64 22, .int .i64 (64 + 64 * P)], .int .i64 (pg : Int)] W fun e w' => e = .returned (.int .i64 (ix : Int)) ∧ Below W.heap.size W w'))
      obtain ⟨b9, hb9⟩ : ∃ b, b = w8.drew.heap.size := ⟨_, rfl⟩
      have HSZ := Lib.hid (fun W (hb : Below b9 w8.drew W) => show b9 ≤ W.heap.size from Nat.le_trans (Nat.le_of_eq hb9) hb.size)
      have HTR := Lib.hid (fun W W' (hb : Below b9 w8.drew W) (h : Below W.heap.size W W') => show Below b9 w8.drew W' from hb.trans (h.mono (HSZ.out W hb)))
      have HBW := Lib.hid (fun W (hb : Below b9 w8.drew W) => show Below w.heap.size w W from hS9.bel.trans (hb.mono (Nat.le_trans hS9.bel.size (Nat.le_of_eq hb9.symm))))
      have HS9 := Lib.hid (fun W (hb : Below b9 w8.drew W) => show BkS w Bq (Bq + 1) Bd (Bd + 1) P kd N k c s W from hS9.grew (hb9 ▸ hb))
      have HIX := Lib.hid hix
      clear hix
      have SQ := Lib.hid (fun W (hb : Below b9 w8.drew W) => show (W.cell? ⟨Bq, 0, none⟩ = some (.int .i64 P) ∧ W.cell? ⟨Bq, 1, none⟩ = some (.int .i64 1) ∧ W.cell? ⟨Bq, 2, none⟩ = some (.int .i64 1)) ∧
        W.cell? ⟨Bd, 0, none⟩ = some (.int .i64 P) ∧ W.cell? ⟨Bd, 1, none⟩ = some (.int .i64 1) ∧ W.cell? ⟨Bd, 2, none⟩ = some (.int .i64 1) ∧ W.cell? ⟨Bd, 3, none⟩ = some (.int .i64 64) ∧ W.cell? ⟨Bd, 4, none⟩ = some (.int .i64 22) ∧ W.cell? ⟨Bd, 5, none⟩ = some (.int .i64 (64 + 64 * P)) from
        ⟨(HS9.out W hb).pl.three.1, six_atB (HS9.out W hb).mp⟩)
      obtain ⟨i0, Z⟩ := info_parts info_word
      have Z := Lib.hid Z
      have HmQ := Lib.hid hmq
      have hW9 : Below b9 w8.drew w8.drew := Below.refl _ _
      have HLO := Lib.hid (show w.heap.size ≤ b9 ∧ Bq + 1 < b9 ∧ Bd + 1 < b9 from ⟨by have := hS9.bel.size; omega, by have := hS9.hd.lt; omega, by have := hS9.en.lt; omega⟩)
      clear hS9 hb9
      go_upto_region 22 with fail
      go_cut [21, 22, 23] from 130 to 150 (fun s21 s22 s23 wx => s23 = .bool true ∧ ∃ a ca d B0, s21 = .pointer (some ⟨a, 0, none⟩) ∧ b9 ≤ B0 ∧ B0 ≤ d ∧ d < wx.heap.size ∧ Ary wx B0 a ca ((layL (cellsN P 1 1) (l.take mm)).set ix E) 0 [d] ∧ BkS w Bq (Bq + 1) Bd (Bd + 1) P kd N k c s wx)
      case first =>
        refine wp_region_held_drew (S := fun W => Below b9 w8.drew W) (by kernel_rfl) hW9 (fun hHeld => ?_)
        generalize w8.drew = w9 at *
        refine wpAnyH_take (i := 0) (oi := _) (v := ?_) (op_at rfl) (by kernel_rfl) (by kernel_rfl) (by kernel_rfl) (fun _ _ _ h => h) (Or.inl ⟨by rfl, ?_⟩) hHeld ?_
        rotate_left 1
        focus (intro W hSw; obtain ⟨⟨g0, g1, g2⟩, _⟩ := SQ.out W hSw; (try dsimp only at hSw); go_simp; (try (with_reducible rfl)))
        (try simp only [Act.put, List.setIfInBounds_toArray, List.set_cons_zero, List.set_cons_succ])
        refine wpAnyH_take (i := 2) (oi := _) (v := ?_) (op_at rfl) (by kernel_rfl) (by kernel_rfl) (by kernel_rfl) (fun _ _ _ h => h) (Or.inl ⟨by rfl, ?_⟩) hHeld ?_
        rotate_left 1
        focus (intro W hSw; (try dsimp only at hSw); go_simp; (try (with_reducible rfl)))
        (try simp only [Act.put, List.setIfInBounds_toArray, List.set_cons_zero, List.set_cons_succ])
        refine wpAnyH_take (i := 3) (oi := _) (v := ?_) (op_at rfl) (by kernel_rfl) (by kernel_rfl) (by kernel_rfl) (fun _ _ _ h => h) (Or.inl ⟨by rfl, ?_⟩) hHeld ?_
        rotate_left 1
        focus (intro W hSw; (try dsimp only at hSw); go_simp; (try (with_reducible rfl)))
        (try simp only [Act.put, List.setIfInBounds_toArray, List.set_cons_zero, List.set_cons_succ])
        refine wpAnyH_take (i := 4) (oi := _) (v := ?_) (op_at rfl) (by kernel_rfl) (by kernel_rfl) (by kernel_rfl) (fun _ _ _ h => h) (Or.inl ⟨by rfl, ?_⟩) hHeld ?_
        rotate_left 1
        focus (intro W hSw; (try dsimp only at hSw); go_simp; (try (with_reducible rfl)))
        (try simp only [Act.put, List.setIfInBounds_toArray, List.set_cons_zero, List.set_cons_succ])
        refine wpAnyH_take (i := 5) (oi := _) (v := ?_) (op_at rfl) (by kernel_rfl) (by kernel_rfl) (by kernel_rfl) (fun _ _ _ h => h) (Or.inl ⟨by rfl, ?_⟩) hHeld ?_
        rotate_left 1
        focus (intro W hSw; (try dsimp only at hSw); go_simp; (try (with_reducible rfl)))
        (try simp only [Act.put, List.setIfInBounds_toArray, List.set_cons_zero, List.set_cons_succ])
        first | rw [hmin.out.1] | rw [hmin.out.2] | skip
        refine wpAnyH_take (i := 6) (oi := _) (v := ?_) (op_at rfl) (by kernel_rfl) (by kernel_rfl) (by kernel_rfl) (fun _ _ _ h => h) (Or.inl ⟨by rfl, ?_⟩) hHeld ?_
        rotate_left 1
        focus (intro W hSw; (try dsimp only at hSw); go_simp; (try (with_reducible rfl)))
        (try simp only [Act.put, List.setIfInBounds_toArray, List.set_cons_zero, List.set_cons_succ])
        refine wpAnyH_take (i := 8) (oi := _) (v := ?_) (op_at rfl) (by kernel_rfl) (by kernel_rfl) (by kernel_rfl) (fun _ _ _ h => h) (Or.inl ⟨by rfl, ?_⟩) hHeld ?_
        rotate_left 1
        focus (intro W hSw; obtain ⟨_, m0, m1, m2, m3, m4, m5⟩ := SQ.out W hSw; (try dsimp only at hSw); go_simp; (try (with_reducible rfl)))
        (try simp only [Act.put, List.setIfInBounds_toArray, List.set_cons_zero, List.set_cons_succ])
        refine wpAnyH_take (i := 9) (oi := _) (v := ?_) (op_at rfl) (by kernel_rfl) (by kernel_rfl) (by kernel_rfl) (fun _ _ _ h => h) (Or.inl ⟨by rfl, ?_⟩) hHeld ?_
        rotate_left 1
        focus (intro W hSw; (try dsimp only at hSw); go_simp; (try (with_reducible rfl)))
        (try simp only [Act.put, List.setIfInBounds_toArray, List.set_cons_zero, List.set_cons_succ])
        refine wpAnyH_take (i := 11) (oi := _) (v := ?_) (op_at rfl) (by kernel_rfl) (by kernel_rfl) (by kernel_rfl) (fun _ _ _ h => h) (Or.inl ⟨by rfl, ?_⟩) hHeld ?_
        rotate_left 1
        focus (intro W hSw; (try dsimp only at hSw); go_simp; (try (with_reducible rfl)))
        (try simp only [Act.put, List.setIfInBounds_toArray, List.set_cons_zero, List.set_cons_succ])
        refine wpAnyH_ready (rs := [1]) (by kernel_rfl) (by simp) ?_
        refine AllReadyH.cons (o := _) (op_at rfl) (fun Kc hKc => ?_) AllReadyH.nil
        go_simp
        have hbA := (Below.refl w9.heap.size w9).alloc (Nat.le_refl _) (.cells #[] 48)
        have o0 := World.ownsRow_made (base := b9) (e := 48) (size := 2) w9 #[] 0 (HSZ.out w9 hHeld) (by decide) rfl
        have hGl : b9 ≤ w9.heap.size := HSZ.out w9 hHeld
        refine hKc.out _ _ (HTR.out _ _ hHeld hbA) (fun hHeld' => ?_)
        clear hHeld hKc Kc
        have hHeld := hHeld'
        clear hHeld'
        (try simp only [Act.put, List.setIfInBounds_toArray, List.set_cons_zero, List.set_cons_succ])
        generalize w9.alloc (.cells #[] 48) = z1 at *
        generalize w9.heap.size = G0 at *
        clear hbA
        refine wpAnyH_ready (rs := [7]) (by kernel_rfl) (by simp) ?_
        refine AllReadyH.cons (o := _) (op_at rfl) (fun Kc hKc => ?_) AllReadyH.nil
        have hww := HBW.out z1 hHeld
        refine step_appB (by rfl) _ _ (by rfl) (by rfl) (by rfl) (app_own0B Tryd.underlying22 Z.out.1 Z.out.2.1 Z.out.2.2.1 Z.out.2.2.2 rfl (by decide) z1 _ b9 G0 (HSZ.out z1 hHeld) hGl o0 av mm qv ((l.take mm).flatMap wdC) (by rw [flat_len wdC 2 (fun _ => rfl), hml]) (wd_one _) (rd_news (by decide) (fun _ => rfl) (fun _ _ _ h => wd_el h) (RdRow.takeO (RW.out z1 hww) mm hmm).1) (by omega) (by decide)) ?_
        rintro v1 z2 ⟨o1', hbA, hgr⟩
        have o1 : z2.ownsRow b9 48 2 v1 mm ((l.take mm).flatMap wdC) := o1'
        refine hKc.out _ _ (hHeld.trans hbA) (fun hHeld' => ?_)
        clear hHeld hKc Kc
        have hHeld := hHeld'
        clear hHeld'
        (try simp only [Act.put, List.setIfInBounds_toArray, List.set_cons_zero, List.set_cons_succ])
        clear hbA o0 o1' hww hgr
        refine wpAnyH_ready (rs := [10]) (by kernel_rfl) (by simp) ?_
        refine AllReadyH.cons (o := _) (op_at rfl) (fun Kc hKc => ?_) AllReadyH.nil
        go_simp
        go_at_call 11
        (with_reducible refine (PE.out _).mono ?_)
        rintro e z3 ⟨rfl, hbA⟩
        have o1 := own_grewG o1 hbA
        go_wp2_with fail
        refine hKc.out _ _ (HTR.out _ _ hHeld hbA) (fun hHeld' => ?_)
        clear hHeld hKc Kc
        have hHeld := hHeld'
        clear hHeld'
        (try simp only [Act.put, List.setIfInBounds_toArray, List.set_cons_zero, List.set_cons_succ])
        clear hbA
        refine wpAnyH_take (i := 12) (oi := _) (v := ?_) (op_at rfl) (by kernel_rfl) (by kernel_rfl) (by kernel_rfl) (fun _ _ _ h => h) (Or.inl ⟨by rfl, ?_⟩) hHeld ?_
        rotate_left 1
        focus (intro W hSw; (try dsimp only at hSw); go_simp; (try (with_reducible rfl)))
        (try simp only [Act.put, List.setIfInBounds_toArray, List.set_cons_zero, List.set_cons_succ])
        refine wpAnyH_ready (rs := [13]) (by kernel_rfl) (by simp) ?_
        refine AllReadyH.cons (o := _) (op_at rfl) (fun Kc hKc => ?_) AllReadyH.nil
        go_simp
        have hbA := (Below.refl z3.heap.size z3).alloc (Nat.le_refl _) (.cells #[.int .i64 (ix : Int), .int .u64 E] 48)
        have kS := Blk.new z3 #[.int .i64 (ix : Int), .int .u64 E] 48
        have o1 := own_grewG o1 hbA
        refine hKc.out _ _ (HTR.out _ _ hHeld hbA) (fun hHeld' => ?_)
        clear hHeld hKc Kc
        have hHeld := hHeld'
        clear hHeld'
        (try simp only [Act.put, List.setIfInBounds_toArray, List.set_cons_zero, List.set_cons_succ])
        generalize z3.alloc (.cells #[.int .i64 (ix : Int), .int .u64 E] 48) = z4 at *
        generalize z3.heap.size = Gk at *
        clear hbA
        refine wpAnyH_ready (rs := [14]) (by kernel_rfl) (by simp) ?_
        refine AllReadyH.cons (o := _) (op_at rfl) (fun Kc hKc => ?_) AllReadyH.nil
        refine step_append_lies _ (by rfl) _ _ _ (by rfl) b9 48 i0 _ 2 16 Tryd.underlying22 Z.out.1 Z.out.2.1 Z.out.2.2.1 Z.out.2.2.2 rfl (by decide) v1 mm ((l.take mm).flatMap wdC) (by rfl) o1 ⟨Gk, 0, none⟩ 1 1 [.int .i64 (ix : Int), .int .u64 E] (by rfl) (by rfl) (World.news_of_block kS) (by simp [Value.oneCell']) (by decide) (by unfold maxLen; omega) (by omega) (HSZ.out z4 hHeld) _ rfl ?_
        intro Xr capr z5 o2 hgrow hat hlX
        have hlv := fun k hk => (own_ltG o1 (g := k) hk).1
        refine hKc.out _ _ (hHeld.grown hgrow (HSZ.out z4 hHeld) hlv) (fun hHeld' => ?_)
        clear hHeld hKc Kc
        have hHeld := hHeld'
        clear hHeld'
        (try simp only [Act.put, List.setIfInBounds_toArray, List.set_cons_zero, List.set_cons_succ])
        clear hgrow hat hlX hlv o1 kS
        refine wpAnyH_ready (rs := [15]) (by kernel_rfl) (by simp) ?_
        refine AllReadyH.cons (o := _) (op_at rfl) (fun Kc hKc => ?_) AllReadyH.nil
        have hww := HBW.out z5 hHeld
        have o3 : z5.ownsRow b9 48 2 (.slice (some ⟨Xr, 0, none⟩) (mm + 1) capr) (l.take mm ++ [((ix : Int), E)]).length ((l.take mm ++ [((ix : Int), E)]).flatMap wdC) := by
          rw [List.flatMap_append, List.length_append, hml]; exact o2
        have LY := Lib.hid (olay_yes P 1 1 _ _ z5 hr (own_words o3 (Nat.le_refl _) hUl))
        go_simp
        go_at_call 10
        (with_reducible refine LY.out.mono ?_)
        rintro e z6 ⟨a, ca, d, rfl, hL, hd⟩
        have hsW := HSZ.out z5 hHeld
        have hS10 := (HS9.out z5 hHeld).grew (hL.bel.mono (Nat.le_refl _))
        have hA10 := hL.ary
        have hdl := hL.row.lt
        go_wp2_with fail
        refine hKc.out _ _ (HTR.out _ _ hHeld (hL.bel.mono (Nat.le_refl _))) (fun hHeld' => ?_)
        clear hHeld hKc Kc
        have hHeld := hHeld'
        clear hHeld'
        (try simp only [Act.put, List.setIfInBounds_toArray, List.set_cons_zero, List.set_cons_succ])
        clear LY o2 o3 hww hL
        refine wpAnyH_take (i := 16) (oi := _) (v := ?_) (op_at rfl) (by kernel_rfl) (by kernel_rfl) (by kernel_rfl) (fun _ _ _ h => h) (Or.inl ⟨by rfl, ?_⟩) hHeld ?_
        rotate_left 1
        focus (intro W hSw; (try dsimp only at hSw); go_simp; (try (with_reducible rfl)))
        (try simp only [Act.put, List.setIfInBounds_toArray, List.set_cons_zero, List.set_cons_succ])
        refine wpAnyH_take (i := 17) (oi := _) (v := ?_) (op_at rfl) (by kernel_rfl) (by kernel_rfl) (by kernel_rfl) (fun _ _ _ h => h) (Or.inl ⟨by rfl, ?_⟩) hHeld ?_
        rotate_left 1
        focus (intro W hSw; (try dsimp only at hSw); go_simp; (try (with_reducible rfl)))
        (try simp only [Act.put, List.setIfInBounds_toArray, List.set_cons_zero, List.set_cons_succ])
        refine wpAnyH_take (i := 18) (oi := _) (v := ?_) (op_at rfl) (by kernel_rfl) (by kernel_rfl) (by kernel_rfl) (fun _ _ _ h => h) (Or.inl ⟨by rfl, ?_⟩) hHeld ?_
        rotate_left 1
        focus (intro W hSw; (try dsimp only at hSw); go_simp; (try (with_reducible rfl)))
        (try simp only [Act.put, List.setIfInBounds_toArray, List.set_cons_zero, List.set_cons_succ])
        refine wpAnyH_take (i := 19) (oi := _) (v := ?_) (op_at rfl) (by kernel_rfl) (by kernel_rfl) (by kernel_rfl) (fun _ _ _ h => h) (Or.inl ⟨by rfl, ?_⟩) hHeld ?_
        rotate_left 1
        focus (intro W hSw; (try dsimp only at hSw); go_simp; (try (with_reducible rfl)))
        (try simp only [Act.put, List.setIfInBounds_toArray, List.set_cons_zero, List.set_cons_succ])
        refine wpAnyH_take (i := 20) (oi := _) (v := ?_) (op_at rfl) (by kernel_rfl) (by kernel_rfl) (by kernel_rfl) (fun _ _ _ h => h) (Or.inl ⟨by rfl, ?_⟩) hHeld ?_
        rotate_left 1
        focus (intro W hSw; (try dsimp only at hSw); go_simp; (try (with_reducible rfl)))
        (try simp only [Act.put, List.setIfInBounds_toArray, List.set_cons_zero, List.set_cons_succ])
        refine wpAnyH_take (i := 21) (oi := _) (v := ?_) (op_at rfl) (by kernel_rfl) (by kernel_rfl) (by kernel_rfl) (fun _ _ _ h => h) (Or.inl ⟨by rfl, ?_⟩) hHeld ?_
        rotate_left 1
        focus (intro W hSw; (try dsimp only at hSw); go_simp; (try (with_reducible rfl)))
        (try simp only [Act.put, List.setIfInBounds_toArray, List.set_cons_zero, List.set_cons_succ])
        refine wpAnyH_take (i := 22) (oi := _) (v := ?_) (op_at rfl) (by kernel_rfl) (by kernel_rfl) (by kernel_rfl) (fun _ _ _ h => h) (Or.inl ⟨by rfl, ?_⟩) hHeld ?_
        rotate_left 1
        focus (intro W hSw; (try dsimp only at hSw); go_simp; (try (with_reducible rfl)))
        (try simp only [Act.put, List.setIfInBounds_toArray, List.set_cons_zero, List.set_cons_succ])
        refine wpAnyH_done (by kernel_rfl) ?_ _
        go_wp2
        go_meet
        case rel => exact ⟨rfl, a, ca, d, z5.heap.size, rfl, hsW, hd, hdl, by rw [← lay_more hidx hNC6 (by rw [hml]; omega)]; exact hA10, hS10⟩
      case rest =>
        obtain ⟨rfl, a, ca, d, B0, rfl, hB0, hB0d, hdl, hA, hS⟩ := hcut
        have hlc : ((layL (cellsN P 1 1) (l.take mm)).set ix E).length = cellsN P 1 1 := by rw [List.length_set, layL_len]
        have hC1 := Lib.hid (show ((layL (cellsN P 1 1) (l.take mm)).set ix E).getD ix 0 = E by rw [List.getD_eq_getElem?_getD, List.getElem?_set_self (by rw [layL_len]; exact hidx)]; rfl)
        have hCU := Lib.hid (show ∀ z ∈ (layL (cellsN P 1 1) (l.take mm)).set ix E, U64 z by
          intro z hz
          rcases List.mem_or_eq_of_mem_set hz with h | h
          · exact layL_U _ _ (fun x hx => hUl0 x (List.mem_of_mem_take hx)) z h
          · rw [h]; exact hEU)
        generalize (layL (cellsN P 1 1) (l.take mm)).set ix E = C0 at *
        have hwB : w.heap.size ≤ B0 ∧ Bq + 1 < B0 ∧ Bd + 1 < B0 := by have := HLO.out; omega
        clear hUl hUl0 PE SQ HmQ hmq hml hmm hmm2 hmin RW hqv hW9 HSZ HTR HBW HS9 hEU
        have IM := Lib.hid (image_ary hA (by omega) (by omega))
        go_wp2_with fail
        refine IM.out.mono ?_; rintro e w10 ⟨vw, rfl, hv10, hb10⟩
        obtain ⟨gw, qw, rfl, gw1, gw2, _, _, gw5⟩ := own_cellG hv10 (by omega)
        have GW := Lib.hid (show ∀ j, j < C0.length → w10.cell? ⟨gw, j, none⟩ = some (.int .u64 (C0.getD j 0)) from fun j hj => gw5 j _ (by rw [List.getElem?_map, List.getD_eq_getElem?_getD, List.getElem?_eq_getElem hj]; rfl))
        have hA10 := hA.addsO (L := between _ w10.heap.size) hb10 (fun b hb => mem_between.1 hb)
        have hS10 := hS.grew hb10
        have hgK0 := mem_between.2 ⟨gw1, gw2⟩
        have hgB0 : B0 ≤ gw := Nat.le_trans hA.bw gw1
        clear gw1 gw5 hv10 hA hS hb10 IM
        generalize between _ w10.heap.size = K0 at *
        obtain ⟨q1, q2, q3, q4, q5, q6, q7, q8⟩ := bk_head kd N hkd hN
        have hHU := q2
        have NB := Lib.hid (fun W => (by
          have := newbuild_yes P 1 1 0 kd N X W q1 (by rw [← hX]; exact HF.out.allow)
          exact this : Calls Tryd.prog 13 #[.agg #[.int .i64 P, .int .i64 1, .int .i64 1], .int .i64 (X : Int), .agg #[.int .i64 0, .int .i64 kd, .int .i64 (N : Int)]] W (NbPost X 0 kd N W)))
        unfold NbPost at NB
        generalize hHe : encH 0 kd (N : Int) = H at *
        clear q1 q2 q3 q4 q5 q6 q7 q8
        have B3 : Below w10.heap.size w10 w10.drew := Quiet.below ⟨1, rfl⟩
        have KB := Lib.hid (fun (A C : World) (hb : Below A.heap.size A C) (h : Below w10.heap.size w10 A) => h.trans (hb.mono h.size))
        have KC := Lib.hid (fun (A C : World) (hb : Below A.heap.size A C) (h : Below w10.heap.size w10 A) => h.size)
        have SQ := Lib.hid (fun W (hb : Below w10.heap.size w10 W) => show (W.cell? ⟨Bq, 0, none⟩ = some (.int .i64 P) ∧ W.cell? ⟨Bq, 1, none⟩ = some (.int .i64 1) ∧ W.cell? ⟨Bq, 2, none⟩ = some (.int .i64 1)) ∧ (W.cell? ⟨Bq + 1, 0, none⟩ = some (.int .i64 0) ∧ W.cell? ⟨Bq + 1, 1, none⟩ = some (.int .i64 kd) ∧ W.cell? ⟨Bq + 1, 2, none⟩ = some (.int .i64 (N : Int))) from ⟨(hS10.grew hb).pl.three.1, (hS10.grew hb).hd.three.1⟩)
        obtain ⟨⟨g0, g1, g2⟩, d0, d1, d2⟩ := SQ.out w10 (Below.refl _ _)
        have HA10 := Lib.hid hA10
        have HS10 := Lib.hid hS10
        clear hA10 hS10
        go_wp2_with fail
        go_region_held3 (fun W => ((W.cell? ⟨Bq, 0, none⟩ = some (.int .i64 P) ∧ W.cell? ⟨Bq, 1, none⟩ = some (.int .i64 1) ∧ W.cell? ⟨Bq, 2, none⟩ = some (.int .i64 1)) ∧ (W.cell? ⟨Bq + 1, 0, none⟩ = some (.int .i64 0) ∧ W.cell? ⟨Bq + 1, 1, none⟩ = some (.int .i64 kd) ∧ W.cell? ⟨Bq + 1, 2, none⟩ = some (.int .i64 (N : Int)))) ∧ Below w10.heap.size w10 W)
          (first | (with_reducible exact ⟨SQ.out _ B3, B3⟩) | (with_reducible exact ⟨SQ.out _ hg9, hg9⟩) | (have hg := KB.out _ _ (by assumption) (And.right (by assumption)); exact ⟨SQ.out _ hg, hg⟩))
          (first
            | (go_at_call 14; refine (oplan_any P 1 1 _).mono ?_; rintro e w12 ⟨rfl, hb12⟩)
            | (go_at_call 15; refine (ohead_any 0 kd N _).mono ?_; rintro e w13 ⟨rfl, hb13⟩)
            | (go_at_call 13; refine (NB.out _).mono ?_; rintro e w14 ⟨m, rfl, hM14, hm, hb14⟩; have hg9 := KB.out _ _ hb14 (And.right (by assumption)); have hg8 := KC.out _ _ hb14 (And.right (by assumption))))
        have hA14 := HA10.out.addsO (L := between w10.heap.size w14.heap.size) hg9 (fun b hb => mem_between.1 hb)
        have hS14 := HS10.out.grew hg9
        have hm14 := hM14.lt
        have hmK0 : m ∈ between w10.heap.size w14.heap.size := mem_between.2 ⟨Nat.le_trans hg8 hm, hm14⟩
        have hmw : w10.heap.size ≤ m := Nat.le_trans hg8 hm
        have hm0 : B0 ≤ m := Nat.le_trans HA10.out.bw hmw
        have GW14 := Lib.hid (show ∀ j, j < C0.length → w14.cell? ⟨gw, j, none⟩ = some (.int .u64 (C0.getD j 0)) from fun j hj => by rw [touch_cellW (Touch.of (R := fun _ => False) hg9) (a := ⟨gw, j, none⟩) gw2 (fun h => h)]; exact GW.out j hj)
        have hgm : gw ≠ m := by omega
        have hgl : gw < w14.heap.size := Nat.lt_of_lt_of_le gw2 hg9.size
        clear HA10 HS10 SQ KB KC B3 NB hg8 hm hb14 g0 g1 g2 d0 d1 d2 hmw GW
        generalize between w10.heap.size w14.heap.size = K1 at *
        clear hg9 gw2
        go_wp2_with fail
        refine (port_yes a 1 _ (by decide) (by decide)).mono ?_; rintro e w15 ⟨p, rfl, hP15, hp, hb15⟩
        have hA15 := hA14.addsO (L := [p]) hb15 (by simp; exact ⟨hp, hP15.lt⟩)
        have hS15 := hS14.grew hb15
        have hM15 := Blk.grew hM14 hb15
        have hmp : m ≠ p := by omega
        have hgp : gw ≠ p := by omega
        have hp0 : B0 ≤ p := by have := hA14.bw; omega
        have hgl15 : gw < w15.heap.size := Nat.lt_of_lt_of_le hgl hb15.size
        have GW15 := Lib.hid (show ∀ j, j < C0.length → w15.cell? ⟨gw, j, none⟩ = some (.int .u64 (C0.getD j 0)) from fun j hj => by rw [touch_cellW (Touch.of (R := fun _ => False) hb15) (a := ⟨gw, j, none⟩) hgl (fun h => h)]; exact GW14.out j hj)
        have hgK : gw ∈ [p] ++ (K1 ++ (K0 ++ [d])) := by simp [hgK0]
        have hmK : m ∈ [p] ++ (K1 ++ (K0 ++ [d])) := by simp [hmK0]
        have hpK : p ∈ [p] ++ (K1 ++ (K0 ++ [d])) := by simp
        obtain ⟨xs0, hX15⟩ := hA15
        have hU0 : BuS w15 B0 a ca p m X H ((N + 1 - 0 : Nat) : Int) C0 xs0 0 ([p] ++ (K1 ++ (K0 ++ [d]))) 1 false w15 := ⟨by rw [show ((N + 1 - 0 : Nat) : Int) = (N : Int) + 1 by omega]; exact hM15, hX15, hP15, Touch.refl _ _⟩
        have HS := Lib.hid hS15
        clear hA14 hS14 hM14 hP15 hp hb15 hM15 hX15 hS15 hmK0 hgK0 hm14 GW14 hgl
        generalize [p] ++ (K1 ++ (K0 ++ [d])) = K at *
        have G := Lib.hid (fun W left cs xs n o (h : BuS w15 B0 a ca p m X H left cs xs n K 1 o W) => h.grant hmp hpK)
        have S1 := Lib.hid (fun W (j : Nat) cs xs n (h : BuS w15 B0 a ca p m X H ((j : Int) + 1) cs xs n K 1 true W) (hj : 1 ≤ j) (hj2 : j ≤ 1000) (hx : X ≤ 100000) (hn : n < 1000000) (hi : X + j < cs.length) => (bstep_more j h hj hj2 hx hmp hmK hpK hn hi).mono (R' := fun e w' => e = .returned (.bool false) ∧ ∃ xs, BuS w15 B0 a ca p m X H (j : Int) (cs.set (X + j) 0) xs (n + 1) K 1 false w') fun _ _ ⟨he, h⟩ => ⟨he, _, h⟩)
        have S2 := Lib.hid (fun W cs xs n (h : BuS w15 B0 a ca p m X H 1 cs xs n K 1 true W) (hn : n < 1000000) (hi : X < cs.length) => (bstep_last h hmp hmK hpK hn hi).mono (R' := fun e w' => e = .returned (.bool true) ∧ ∃ xs, BuS w15 B0 a ca p m X H 0 (cs.set X H) xs (n + 1) K 1 false w') fun _ _ ⟨he, h⟩ => ⟨he, _, h⟩)
        have OVR := Lib.hid (fun W left cs xs n o (h : BuS w15 B0 a ca p m X H left cs xs n K 1 o W) => (bover_any h.mach).mono (R' := fun e w' => e = .returned (.bool (left == 0)) ∧ BuS w15 B0 a ca p m X H left cs xs n K 1 o w') fun _ _ ⟨he, hq⟩ => ⟨he, h.quiet hq⟩)
        have hlen : C0.length ≤ 400 ∧ X + N < C0.length ∧ X ≤ 400 := by omega
        have HST := Lib.hid (CsK.start (X := X) (N := N) (H := H) hCU.out)
        have hmp2 := Lib.hid hmp
        clear hmp
        go_upto_region 31 with fail
        go_wp2_with fail
        go_loopw [29] (fun i wr => ∃ k : Nat, k ≤ N + 1 ∧ i = .int .i64 k ∧ ∃ cs xs, Hid (CsK C0 cs X N (N + 1 - k) H) ∧ BuS w15 B0 a ca p m X H ((N + 1 - k : Nat) : Int) cs xs k K 1 false wr) (fun i _ => N + 1 - (intOf i).toNat)
        case atStart => exact ⟨0, Nat.zero_le _, rfl, C0, xs0, HST, hU0⟩
        case round =>
          clear hU0 HST
          obtain ⟨k, hk, rfl, cs, xs, hl, hU⟩ := hrel
          have hll := hl.out.len
          by_cases hlt : k ≤ N
          · have hlt1 : (k : Int) ≤ (N : Int) := by omega
            have hz : (((N + 1 - k : Nat) : Int) == 0) = false := by simp; omega
            go_wp2_with fail
            refine (OVR.out _ _ _ _ _ _ hU).mono ?_; rintro e wz ⟨rfl, hUz⟩
            rw [hz]
            go_wp2_with fail
            refine (G.out _ _ _ _ _ _ hUz).mono ?_; rintro e wa ⟨⟨u1, rfl⟩, h2⟩
            by_cases hkN : k = N
            · rw [show ((N + 1 - k : Nat) : Int) = 1 by omega] at h2
              have hl1 := hl.out
              rw [show N + 1 - k = 1 by omega] at hl1
              go_wp2_with fail
              refine (S2.out _ _ _ _ h2 (by omega) (by omega)).mono ?_; rintro e wb ⟨rfl, xs', h3⟩
              have hl2 := Lib.hid (hl1.last hHU (by omega))
              clear hl1
              rw [show (0 : Int) = ((N + 1 - (k + 1) : Nat) : Int) by omega] at h3
              rw [show (0 : Nat) = N + 1 - (k + 1) by omega] at hl2
              go_wp2
              go_roundw
              case rel => exact ⟨k + 1, by omega, by go_num, _, _, hl2, h3⟩
              case measure => simp [intOf]; omega
            · rw [show ((N + 1 - k : Nat) : Int) = ((N - k : Nat) : Int) + 1 by omega] at h2
              have hl1 := hl.out
              rw [show N + 1 - k = (N - k) + 1 by omega] at hl1
              go_wp2_with fail
              refine (S1.out _ _ _ _ _ h2 (by omega) (by omega) (by omega) (by omega) (by omega)).mono ?_; rintro e wb ⟨rfl, xs', h3⟩
              have hl2 := Lib.hid (hl1.more (by omega) (by omega) (by omega))
              clear hl1
              rw [show ((N - k : Nat) : Int) = ((N + 1 - (k + 1) : Nat) : Int) by omega] at h3
              rw [show N - k = N + 1 - (k + 1) by omega] at hl2 h3
              go_wp2
              go_roundw
              case rel => exact ⟨k + 1, by omega, by go_num, _, _, hl2, h3⟩
              case measure => simp [intOf]; omega
          · have hkN : k = N + 1 := by omega
            have hlt1 : ¬ (k : Int) ≤ (N : Int) := by omega
            have hl1 := hl.out
            rw [show N + 1 - k = 0 by omega] at hl1
            rw [show ((N + 1 - k : Nat) : Int) = 0 by omega] at hU
            have hA : Ary wr B0 a ca cs k K := ⟨_, hU.arx⟩
            have hT := hU.touch
            have hM := hU.mach
            have hS := HS.out.touch hT (fun b hb => by
              rcases hb with rfl | rfl | ⟨hb, _⟩ <;> omega)
            have hng : ¬ (gw = p ∨ gw = m ∨ (B0 ≤ gw ∧ gw ∉ K)) := by
              rintro (e | e | ⟨_, e⟩)
              · exact hgp e
              · exact hgm e
              · exact e hgK
            have GWr := Lib.hid (show ∀ j, j < C0.length → wr.cell? ⟨gw, j, none⟩ = some (.int .u64 (C0.getD j 0)) from fun j hj => by rw [touch_cellW hT (a := ⟨gw, j, none⟩) hgl15 hng]; exact GW15.out j hj)
            have hglr : gw < wr.heap.size := Nat.lt_of_lt_of_le hgl15 hT.size
            have IM := Lib.hid (image_ary hA (by omega) (by omega))
            clear G S1 S2 OVR hU hl hT GW15 HS hng hgK hmK hpK
            go_wp2_with fail
            refine IM.out.mono ?_; rintro e w20 ⟨vn, rfl, hv20, hb20⟩
            obtain ⟨gn, qn, rfl, gn1, gn2, _, _, gn5⟩ := own_cellG hv20 (by omega)
            have GN := Lib.hid (show ∀ j, j < cs.length → w20.cell? ⟨gn, j, none⟩ = some (.int .u64 (cs.getD j 0)) from fun j hj => gn5 j _ (by rw [List.getElem?_map, List.getD_eq_getElem?_getD, List.getElem?_eq_getElem hj]; rfl))
            have GW20 := Lib.hid (show ∀ j, j < C0.length → w20.cell? ⟨gw, j, none⟩ = some (.int .u64 (C0.getD j 0)) from fun j hj => by rw [touch_cellW (Touch.of (R := fun _ => False) hb20) (a := ⟨gw, j, none⟩) hglr (fun h => h)]; exact GWr.out j hj)
            have hA20 := Lib.hid (hA.grew hb20)
            have hS20 := Lib.hid (hS.grew hb20)
            have OV := Lib.hid (bover_any (Blk.grew hM hb20))
            rw [show ((0 : Int) == 0) = true from rfl] at OV
            have HCK := Lib.hid hl1
            rw [hll]
            rw [hll] at GN
            clear hA hS hM hl1 hv20 hb20 IM gn1 gn2 gn5 GWr hglr
            go_wp2_with fail
            refine OV.out.mono ?_; rintro e w21 ⟨rfl, hq21⟩
            clear OV
            have HNC := Lib.hid hNC
            clear hNC b3
            go_upto_region 41 with fail
            generalize hL : cellsN P 1 1 = L at *
            go_wp2_with fail
            go_loopw [31] (fun i wx => ∃ j : Nat, j ≤ L ∧ i = .int .i64 j ∧ Quiet w20 wx) (fun i _ => L - (intOf i).toNat)
            case atStart => exact ⟨0, Nat.zero_le _, rfl, hq21⟩
            case round =>
              obtain ⟨j, hj, rfl, nq, rfl⟩ := hrel
              have hj4 : (j : Int) ≤ 400 := by omega
              by_cases hlt : j < L
              · have hlt2 : (j : Int) < (L : Int) := by omega
                have hin0 : (0 : Int) ≤ (j : Int) ∧ (j : Int) < (L : Int) := by omega
                have c1 : (w20.drewN nq).cell? ⟨gn, j, none⟩ = some (.int .u64 (cs.getD j 0)) := GN.out j (by omega)
                have c2 : (w20.drewN nq).cell? ⟨gw, j, none⟩ = some (.int .u64 (C0.getD j 0)) := GW20.out j (by omega)
                have hX4 : (X : Int) + (N : Int) ≤ 400 ∧ (X : Int) ≤ 400 := by omega
                by_cases h1 : j < X
                · have HEQ := Lib.hid (HCK.out.out j (.inl h1))
                  have h1' : (j : Int) < (X : Int) := by omega
                  go_upto_region 43 with fail
                  refine wp_region_held_drew (S := fun W => W.cell? ⟨gn, j, none⟩ = some (.int .u64 (cs.getD j 0)) ∧ W.cell? ⟨gw, j, none⟩ = some (.int .u64 (C0.getD j 0))) (by kernel_rfl) ⟨c1, c2⟩ (fun hHeld => ?_)
                  refine wpAnyH_take (i := 0) (oi := _) (v := ?_) (op_at rfl) (by kernel_rfl) (by kernel_rfl) (by kernel_rfl) (fun _ _ _ h => h) (Or.inl ⟨by rfl, ?_⟩) hHeld ?_
                  rotate_left 1
                  focus (intro W hSw; (try dsimp only at hSw); obtain ⟨c1, c2⟩ := hSw; (try rw [HEQ.out] at c1); go_simp; (try (with_reducible rfl)))
                  (try simp only [Act.put, List.setIfInBounds_toArray, List.set_cons_zero, List.set_cons_succ])
                  refine wpAnyH_take (i := 1) (oi := _) (v := ?_) (op_at rfl) (by kernel_rfl) (by kernel_rfl) (by kernel_rfl) (fun _ _ _ h => h) (Or.inl ⟨by rfl, ?_⟩) hHeld ?_
                  rotate_left 1
                  focus (intro W hSw; (try dsimp only at hSw); obtain ⟨c1, c2⟩ := hSw; (try rw [HEQ.out] at c1); go_simp; (try (with_reducible rfl)))
                  (try simp only [Act.put, List.setIfInBounds_toArray, List.set_cons_zero, List.set_cons_succ])
                  refine wpAnyH_take (i := 2) (oi := _) (v := ?_) (op_at rfl) (by kernel_rfl) (by kernel_rfl) (by kernel_rfl) (fun _ _ _ h => h) (Or.inl ⟨by rfl, ?_⟩) hHeld ?_
                  rotate_left 1
                  focus (intro W hSw; (try dsimp only at hSw); obtain ⟨c1, c2⟩ := hSw; (try rw [HEQ.out] at c1); go_simp; (try (with_reducible rfl)))
                  (try simp only [Act.put, List.setIfInBounds_toArray, List.set_cons_zero, List.set_cons_succ])
                  refine wpAnyH_take (i := 3) (oi := _) (v := ?_) (op_at rfl) (by kernel_rfl) (by kernel_rfl) (by kernel_rfl) (fun _ _ _ h => h) (Or.inl ⟨by rfl, ?_⟩) hHeld ?_
                  rotate_left 1
                  focus (intro W hSw; (try dsimp only at hSw); obtain ⟨c1, c2⟩ := hSw; (try rw [HEQ.out] at c1); go_simp; (try (with_reducible rfl)))
                  (try simp only [Act.put, List.setIfInBounds_toArray, List.set_cons_zero, List.set_cons_succ])
                  refine wpAnyH_take (i := 4) (oi := _) (v := undef) (op_at rfl) (by kernel_rfl) (by kernel_rfl) (by kernel_rfl) (fun _ _ _ h => h) (Or.inr ⟨by rfl, rfl⟩) hHeld ?_
                  (try simp only [Act.put, List.setIfInBounds_toArray, List.set_cons_zero, List.set_cons_succ])
                  refine wpAnyH_take (i := 5) (oi := _) (v := undef) (op_at rfl) (by kernel_rfl) (by kernel_rfl) (by kernel_rfl) (fun _ _ _ h => h) (Or.inr ⟨by rfl, rfl⟩) hHeld ?_
                  (try simp only [Act.put, List.setIfInBounds_toArray, List.set_cons_zero, List.set_cons_succ])
                  refine wpAnyH_take (i := 6) (oi := _) (v := undef) (op_at rfl) (by kernel_rfl) (by kernel_rfl) (by kernel_rfl) (fun _ _ _ h => h) (Or.inr ⟨by rfl, rfl⟩) hHeld ?_
                  (try simp only [Act.put, List.setIfInBounds_toArray, List.set_cons_zero, List.set_cons_succ])
                  refine wpAnyH_take (i := 7) (oi := _) (v := undef) (op_at rfl) (by kernel_rfl) (by kernel_rfl) (by kernel_rfl) (fun _ _ _ h => h) (Or.inr ⟨by rfl, rfl⟩) hHeld ?_
                  (try simp only [Act.put, List.setIfInBounds_toArray, List.set_cons_zero, List.set_cons_succ])
                  refine wpAnyH_take (i := 8) (oi := _) (v := undef) (op_at rfl) (by kernel_rfl) (by kernel_rfl) (by kernel_rfl) (fun _ _ _ h => h) (Or.inr ⟨by rfl, rfl⟩) hHeld ?_
                  (try simp only [Act.put, List.setIfInBounds_toArray, List.set_cons_zero, List.set_cons_succ])
                  refine wpAnyH_take (i := 9) (oi := _) (v := ?_) (op_at rfl) (by kernel_rfl) (by kernel_rfl) (by kernel_rfl) (fun _ _ _ h => h) (Or.inl ⟨by rfl, ?_⟩) hHeld ?_
                  rotate_left 1
                  focus (intro W hSw; (try dsimp only at hSw); obtain ⟨c1, c2⟩ := hSw; (try rw [HEQ.out] at c1); go_simp; (try (with_reducible rfl)))
                  (try simp only [Act.put, List.setIfInBounds_toArray, List.set_cons_zero, List.set_cons_succ])
                  refine wpAnyH_take (i := 10) (oi := _) (v := ?_) (op_at rfl) (by kernel_rfl) (by kernel_rfl) (by kernel_rfl) (fun _ _ _ h => h) (Or.inl ⟨by rfl, ?_⟩) hHeld ?_
                  rotate_left 1
                  focus (intro W hSw; (try dsimp only at hSw); obtain ⟨c1, c2⟩ := hSw; (try rw [HEQ.out] at c1); go_simp; (try (with_reducible rfl)))
                  (try simp only [Act.put, List.setIfInBounds_toArray, List.set_cons_zero, List.set_cons_succ])
                  refine wpAnyH_take (i := 11) (oi := _) (v := ?_) (op_at rfl) (by kernel_rfl) (by kernel_rfl) (by kernel_rfl) (fun _ _ _ h => h) (Or.inl ⟨by rfl, ?_⟩) hHeld ?_
                  rotate_left 1
                  focus (intro W hSw; (try dsimp only at hSw); obtain ⟨c1, c2⟩ := hSw; (try rw [HEQ.out] at c1); go_simp; (try (with_reducible rfl)))
                  (try simp only [Act.put, List.setIfInBounds_toArray, List.set_cons_zero, List.set_cons_succ])
                  refine wpAnyH_take (i := 12) (oi := _) (v := ?_) (op_at rfl) (by kernel_rfl) (by kernel_rfl) (by kernel_rfl) (fun _ _ _ h => h) (Or.inl ⟨by rfl, ?_⟩) hHeld ?_
                  rotate_left 1
                  focus (intro W hSw; (try dsimp only at hSw); obtain ⟨c1, c2⟩ := hSw; (try rw [HEQ.out] at c1); go_simp; (try (with_reducible rfl)))
                  (try simp only [Act.put, List.setIfInBounds_toArray, List.set_cons_zero, List.set_cons_succ])
                  refine wpAnyH_take (i := 13) (oi := _) (v := ?_) (op_at rfl) (by kernel_rfl) (by kernel_rfl) (by kernel_rfl) (fun _ _ _ h => h) (Or.inl ⟨by rfl, ?_⟩) hHeld ?_
                  rotate_left 1
                  focus (intro W hSw; (try dsimp only at hSw); obtain ⟨c1, c2⟩ := hSw; (try rw [HEQ.out] at c1); go_simp; (try (with_reducible rfl)))
                  (try simp only [Act.put, List.setIfInBounds_toArray, List.set_cons_zero, List.set_cons_succ])
                  refine wpAnyH_take (i := 14) (oi := _) (v := ?_) (op_at rfl) (by kernel_rfl) (by kernel_rfl) (by kernel_rfl) (fun _ _ _ h => h) (Or.inl ⟨by rfl, ?_⟩) hHeld ?_
                  rotate_left 1
                  focus (intro W hSw; (try dsimp only at hSw); obtain ⟨c1, c2⟩ := hSw; (try rw [HEQ.out] at c1); go_simp; (try (with_reducible rfl)))
                  (try simp only [Act.put, List.setIfInBounds_toArray, List.set_cons_zero, List.set_cons_succ])
                  refine wpAnyH_take (i := 15) (oi := _) (v := ?_) (op_at rfl) (by kernel_rfl) (by kernel_rfl) (by kernel_rfl) (fun _ _ _ h => h) (Or.inl ⟨by rfl, ?_⟩) hHeld ?_
                  rotate_left 1
                  focus (intro W hSw; (try dsimp only at hSw); obtain ⟨c1, c2⟩ := hSw; (try rw [HEQ.out] at c1); go_simp; (try (with_reducible rfl)))
                  (try simp only [Act.put, List.setIfInBounds_toArray, List.set_cons_zero, List.set_cons_succ])
                  refine wpAnyH_take (i := 16) (oi := _) (v := ?_) (op_at rfl) (by kernel_rfl) (by kernel_rfl) (by kernel_rfl) (fun _ _ _ h => h) (Or.inl ⟨by rfl, ?_⟩) hHeld ?_
                  rotate_left 1
                  focus (intro W hSw; (try dsimp only at hSw); obtain ⟨c1, c2⟩ := hSw; (try rw [HEQ.out] at c1); go_simp; (try (with_reducible rfl)))
                  (try simp only [Act.put, List.setIfInBounds_toArray, List.set_cons_zero, List.set_cons_succ])
                  refine wpAnyH_take (i := 17) (oi := _) (v := ?_) (op_at rfl) (by kernel_rfl) (by kernel_rfl) (by kernel_rfl) (fun _ _ _ h => h) (Or.inl ⟨by rfl, ?_⟩) hHeld ?_
                  rotate_left 1
                  focus (intro W hSw; (try dsimp only at hSw); obtain ⟨c1, c2⟩ := hSw; (try rw [HEQ.out] at c1); go_simp; (try (with_reducible rfl)))
                  (try simp only [Act.put, List.setIfInBounds_toArray, List.set_cons_zero, List.set_cons_succ])
                  refine wpAnyH_take (i := 18) (oi := _) (v := ?_) (op_at rfl) (by kernel_rfl) (by kernel_rfl) (by kernel_rfl) (fun _ _ _ h => h) (Or.inl ⟨by rfl, ?_⟩) hHeld ?_
                  rotate_left 1
                  focus (intro W hSw; (try dsimp only at hSw); obtain ⟨c1, c2⟩ := hSw; (try rw [HEQ.out] at c1); go_simp; (try (with_reducible rfl)))
                  (try simp only [Act.put, List.setIfInBounds_toArray, List.set_cons_zero, List.set_cons_succ])
                  refine wpAnyH_take (i := 19) (oi := _) (v := ?_) (op_at rfl) (by kernel_rfl) (by kernel_rfl) (by kernel_rfl) (fun _ _ _ h => h) (Or.inl ⟨by rfl, ?_⟩) hHeld ?_
                  rotate_left 1
                  focus (intro W hSw; (try dsimp only at hSw); obtain ⟨c1, c2⟩ := hSw; (try rw [HEQ.out] at c1); go_simp; (try (with_reducible rfl)))
                  (try simp only [Act.put, List.setIfInBounds_toArray, List.set_cons_zero, List.set_cons_succ])
                  refine wpAnyH_take (i := 20) (oi := _) (v := ?_) (op_at rfl) (by kernel_rfl) (by kernel_rfl) (by kernel_rfl) (fun _ _ _ h => h) (Or.inl ⟨by rfl, ?_⟩) hHeld ?_
                  rotate_left 1
                  focus (intro W hSw; (try dsimp only at hSw); obtain ⟨c1, c2⟩ := hSw; (try rw [HEQ.out] at c1); go_simp; (try (with_reducible rfl)))
                  (try simp only [Act.put, List.setIfInBounds_toArray, List.set_cons_zero, List.set_cons_succ])
                  refine wpAnyH_done (by kernel_rfl) ?_ _
                  go_wp2
                  go_roundw
                  case rel => exact ⟨j + 1, hlt, by go_num, Quiet.trans (a := w20) (b := w20.drewN nq) ⟨nq, rfl⟩ ⟨1, rfl⟩⟩
                  case measure => simp [intOf]; omega
                · have h1' : ¬ (j : Int) < (X : Int) := by omega
                  have HW := Lib.hid (show IntKind.i64.wrap ((X : Int) + (N : Int)) = (X : Int) + (N : Int) from i64_smallB _ (by omega) (by omega))
                  by_cases h2 : X + N < j
                  · have HEQ := Lib.hid (HCK.out.out j (.inr h2))
                    have h2' : (X : Int) + (N : Int) < (j : Int) := by exact_mod_cast h2
                    have hw := HW.out
                    have hd1 : decide ((X : Int) + (N : Int) < (j : Int)) = true := decide_eq_true h2'
                    go_upto_region 43 with fail
                    refine wp_region_held_drew (S := fun W => W.cell? ⟨gn, j, none⟩ = some (.int .u64 (cs.getD j 0)) ∧ W.cell? ⟨gw, j, none⟩ = some (.int .u64 (C0.getD j 0))) (by kernel_rfl) ⟨c1, c2⟩ (fun hHeld => ?_)
                    refine wpAnyH_take (i := 0) (oi := _) (v := ?_) (op_at rfl) (by kernel_rfl) (by kernel_rfl) (by kernel_rfl) (fun _ _ _ h => h) (Or.inl ⟨by rfl, ?_⟩) hHeld ?_
                    rotate_left 1
                    focus (intro W hSw; (try dsimp only at hSw); obtain ⟨c1, c2⟩ := hSw; (try rw [HEQ.out] at c1); go_simp; (try (with_reducible rfl)))
                    (try simp only [Act.put, List.setIfInBounds_toArray, List.set_cons_zero, List.set_cons_succ])
                    refine wpAnyH_take (i := 1) (oi := _) (v := ?_) (op_at rfl) (by kernel_rfl) (by kernel_rfl) (by kernel_rfl) (fun _ _ _ h => h) (Or.inl ⟨by rfl, ?_⟩) hHeld ?_
                    rotate_left 1
                    focus (intro W hSw; (try dsimp only at hSw); obtain ⟨c1, c2⟩ := hSw; (try rw [HEQ.out] at c1); go_simp; (try (with_reducible rfl)))
                    (try simp only [Act.put, List.setIfInBounds_toArray, List.set_cons_zero, List.set_cons_succ])
                    refine wpAnyH_take (i := 2) (oi := _) (v := ?_) (op_at rfl) (by kernel_rfl) (by kernel_rfl) (by kernel_rfl) (fun _ _ _ h => h) (Or.inl ⟨by rfl, ?_⟩) hHeld ?_
                    rotate_left 1
                    focus (intro W hSw; (try dsimp only at hSw); obtain ⟨c1, c2⟩ := hSw; (try rw [HEQ.out] at c1); go_simp; (try (with_reducible rfl)))
                    (try simp only [Act.put, List.setIfInBounds_toArray, List.set_cons_zero, List.set_cons_succ])
                    refine wpAnyH_take (i := 3) (oi := _) (v := ?_) (op_at rfl) (by kernel_rfl) (by kernel_rfl) (by kernel_rfl) (fun _ _ _ h => h) (Or.inl ⟨by rfl, ?_⟩) hHeld ?_
                    rotate_left 1
                    focus (intro W hSw; (try dsimp only at hSw); obtain ⟨c1, c2⟩ := hSw; (try rw [HEQ.out] at c1); go_simp; (try (with_reducible rfl)))
                    (try simp only [Act.put, List.setIfInBounds_toArray, List.set_cons_zero, List.set_cons_succ])
                    refine wpAnyH_take (i := 4) (oi := _) (v := ?_) (op_at rfl) (by kernel_rfl) (by kernel_rfl) (by kernel_rfl) (fun _ _ _ h => h) (Or.inl ⟨by rfl, ?_⟩) hHeld ?_
                    rotate_left 1
                    focus (intro W hSw; (try dsimp only at hSw); obtain ⟨c1, c2⟩ := hSw; (try rw [HEQ.out] at c1); go_simp; (try (with_reducible rfl)))
                    (try simp only [Act.put, List.setIfInBounds_toArray, List.set_cons_zero, List.set_cons_succ])
                    refine wpAnyH_take (i := 5) (oi := _) (v := ?_) (op_at rfl) (by kernel_rfl) (by kernel_rfl) (by kernel_rfl) (fun _ _ _ h => h) (Or.inl ⟨by rfl, ?_⟩) hHeld ?_
                    rotate_left 1
                    focus (intro W hSw; (try dsimp only at hSw); obtain ⟨c1, c2⟩ := hSw; (try rw [HEQ.out] at c1); go_simp; (try (with_reducible rfl)))
                    (try simp only [Act.put, List.setIfInBounds_toArray, List.set_cons_zero, List.set_cons_succ])
                    refine wpAnyH_take (i := 6) (oi := _) (v := ?_) (op_at rfl) (by kernel_rfl) (by kernel_rfl) (by kernel_rfl) (fun _ _ _ h => h) (Or.inl ⟨by rfl, ?_⟩) hHeld ?_
                    rotate_left 1
                    focus (intro W hSw; (try dsimp only at hSw); obtain ⟨c1, c2⟩ := hSw; (try rw [HEQ.out] at c1); go_simp; (try (with_reducible rfl)))
                    (try simp only [Act.put, List.setIfInBounds_toArray, List.set_cons_zero, List.set_cons_succ])
                    refine wpAnyH_take (i := 7) (oi := _) (v := ?_) (op_at rfl) (by kernel_rfl) (by kernel_rfl) (by kernel_rfl) (fun _ _ _ h => h) (Or.inl ⟨by rfl, ?_⟩) hHeld ?_
                    rotate_left 1
                    focus (intro W hSw; (try dsimp only at hSw); obtain ⟨c1, c2⟩ := hSw; (try rw [HEQ.out] at c1); go_simp; (try (with_reducible rfl)))
                    (try simp only [Act.put, List.setIfInBounds_toArray, List.set_cons_zero, List.set_cons_succ])
                    refine wpAnyH_take (i := 8) (oi := _) (v := ?_) (op_at rfl) (by kernel_rfl) (by kernel_rfl) (by kernel_rfl) (fun _ _ _ h => h) (Or.inl ⟨by rfl, ?_⟩) hHeld ?_
                    rotate_left 1
                    focus (intro W hSw; (try dsimp only at hSw); obtain ⟨c1, c2⟩ := hSw; (try rw [HEQ.out] at c1); go_simp; (try (with_reducible rfl)))
                    (try simp only [Act.put, List.setIfInBounds_toArray, List.set_cons_zero, List.set_cons_succ])
                    refine wpAnyH_take (i := 9) (oi := _) (v := ?_) (op_at rfl) (by kernel_rfl) (by kernel_rfl) (by kernel_rfl) (fun _ _ _ h => h) (Or.inl ⟨by rfl, ?_⟩) hHeld ?_
                    rotate_left 1
                    focus (intro W hSw; (try dsimp only at hSw); obtain ⟨c1, c2⟩ := hSw; (try rw [HEQ.out] at c1); go_simp; (try (with_reducible rfl)))
                    (try simp only [Act.put, List.setIfInBounds_toArray, List.set_cons_zero, List.set_cons_succ])
                    refine wpAnyH_take (i := 10) (oi := _) (v := ?_) (op_at rfl) (by kernel_rfl) (by kernel_rfl) (by kernel_rfl) (fun _ _ _ h => h) (Or.inl ⟨by rfl, ?_⟩) hHeld ?_
                    rotate_left 1
                    focus (intro W hSw; (try dsimp only at hSw); obtain ⟨c1, c2⟩ := hSw; (try rw [HEQ.out] at c1); go_simp; (try (with_reducible rfl)))
                    (try simp only [Act.put, List.setIfInBounds_toArray, List.set_cons_zero, List.set_cons_succ])
                    refine wpAnyH_take (i := 11) (oi := _) (v := ?_) (op_at rfl) (by kernel_rfl) (by kernel_rfl) (by kernel_rfl) (fun _ _ _ h => h) (Or.inl ⟨by rfl, ?_⟩) hHeld ?_
                    rotate_left 1
                    focus (intro W hSw; (try dsimp only at hSw); obtain ⟨c1, c2⟩ := hSw; (try rw [HEQ.out] at c1); go_simp; (try (with_reducible rfl)))
                    (try simp only [Act.put, List.setIfInBounds_toArray, List.set_cons_zero, List.set_cons_succ])
                    refine wpAnyH_take (i := 12) (oi := _) (v := ?_) (op_at rfl) (by kernel_rfl) (by kernel_rfl) (by kernel_rfl) (fun _ _ _ h => h) (Or.inl ⟨by rfl, ?_⟩) hHeld ?_
                    rotate_left 1
                    focus (intro W hSw; (try dsimp only at hSw); obtain ⟨c1, c2⟩ := hSw; (try rw [HEQ.out] at c1); go_simp; (try (with_reducible rfl)))
                    (try simp only [Act.put, List.setIfInBounds_toArray, List.set_cons_zero, List.set_cons_succ])
                    refine wpAnyH_take (i := 13) (oi := _) (v := ?_) (op_at rfl) (by kernel_rfl) (by kernel_rfl) (by kernel_rfl) (fun _ _ _ h => h) (Or.inl ⟨by rfl, ?_⟩) hHeld ?_
                    rotate_left 1
                    focus (intro W hSw; (try dsimp only at hSw); obtain ⟨c1, c2⟩ := hSw; (try rw [HEQ.out] at c1); go_simp; (try (with_reducible rfl)))
                    (try simp only [Act.put, List.setIfInBounds_toArray, List.set_cons_zero, List.set_cons_succ])
                    refine wpAnyH_take (i := 14) (oi := _) (v := ?_) (op_at rfl) (by kernel_rfl) (by kernel_rfl) (by kernel_rfl) (fun _ _ _ h => h) (Or.inl ⟨by rfl, ?_⟩) hHeld ?_
                    rotate_left 1
                    focus (intro W hSw; (try dsimp only at hSw); obtain ⟨c1, c2⟩ := hSw; (try rw [HEQ.out] at c1); go_simp; (try (with_reducible rfl)))
                    (try simp only [Act.put, List.setIfInBounds_toArray, List.set_cons_zero, List.set_cons_succ])
                    refine wpAnyH_take (i := 15) (oi := _) (v := ?_) (op_at rfl) (by kernel_rfl) (by kernel_rfl) (by kernel_rfl) (fun _ _ _ h => h) (Or.inl ⟨by rfl, ?_⟩) hHeld ?_
                    rotate_left 1
                    focus (intro W hSw; (try dsimp only at hSw); obtain ⟨c1, c2⟩ := hSw; (try rw [HEQ.out] at c1); go_simp; (try (with_reducible rfl)))
                    (try simp only [Act.put, List.setIfInBounds_toArray, List.set_cons_zero, List.set_cons_succ])
                    refine wpAnyH_take (i := 16) (oi := _) (v := ?_) (op_at rfl) (by kernel_rfl) (by kernel_rfl) (by kernel_rfl) (fun _ _ _ h => h) (Or.inl ⟨by rfl, ?_⟩) hHeld ?_
                    rotate_left 1
                    focus (intro W hSw; (try dsimp only at hSw); obtain ⟨c1, c2⟩ := hSw; (try rw [HEQ.out] at c1); go_simp; (try (with_reducible rfl)))
                    (try simp only [Act.put, List.setIfInBounds_toArray, List.set_cons_zero, List.set_cons_succ])
                    refine wpAnyH_take (i := 17) (oi := _) (v := ?_) (op_at rfl) (by kernel_rfl) (by kernel_rfl) (by kernel_rfl) (fun _ _ _ h => h) (Or.inl ⟨by rfl, ?_⟩) hHeld ?_
                    rotate_left 1
                    focus (intro W hSw; (try dsimp only at hSw); obtain ⟨c1, c2⟩ := hSw; (try rw [HEQ.out] at c1); go_simp; (try (with_reducible rfl)))
                    (try simp only [Act.put, List.setIfInBounds_toArray, List.set_cons_zero, List.set_cons_succ])
                    refine wpAnyH_take (i := 18) (oi := _) (v := ?_) (op_at rfl) (by kernel_rfl) (by kernel_rfl) (by kernel_rfl) (fun _ _ _ h => h) (Or.inl ⟨by rfl, ?_⟩) hHeld ?_
                    rotate_left 1
                    focus (intro W hSw; (try dsimp only at hSw); obtain ⟨c1, c2⟩ := hSw; (try rw [HEQ.out] at c1); go_simp; (try (with_reducible rfl)))
                    (try simp only [Act.put, List.setIfInBounds_toArray, List.set_cons_zero, List.set_cons_succ])
                    refine wpAnyH_take (i := 19) (oi := _) (v := ?_) (op_at rfl) (by kernel_rfl) (by kernel_rfl) (by kernel_rfl) (fun _ _ _ h => h) (Or.inl ⟨by rfl, ?_⟩) hHeld ?_
                    rotate_left 1
                    focus (intro W hSw; (try dsimp only at hSw); obtain ⟨c1, c2⟩ := hSw; (try rw [HEQ.out] at c1); go_simp; (try (with_reducible rfl)))
                    (try simp only [Act.put, List.setIfInBounds_toArray, List.set_cons_zero, List.set_cons_succ])
                    refine wpAnyH_take (i := 20) (oi := _) (v := ?_) (op_at rfl) (by kernel_rfl) (by kernel_rfl) (by kernel_rfl) (fun _ _ _ h => h) (Or.inl ⟨by rfl, ?_⟩) hHeld ?_
                    rotate_left 1
                    focus (intro W hSw; (try dsimp only at hSw); obtain ⟨c1, c2⟩ := hSw; (try rw [HEQ.out] at c1); go_simp; (try (with_reducible rfl)))
                    (try simp only [Act.put, List.setIfInBounds_toArray, List.set_cons_zero, List.set_cons_succ])
                    refine wpAnyH_done (by kernel_rfl) ?_ _
                    go_wp2
                    go_roundw
                    case rel => exact ⟨j + 1, hlt, by go_num, Quiet.trans (a := w20) (b := w20.drewN nq) ⟨nq, rfl⟩ ⟨1, rfl⟩⟩
                    case measure => simp [intOf]; omega
                  · have HEQ := Lib.hid hlt
                    have h2' : ¬ (X : Int) + (N : Int) < (j : Int) := by exact_mod_cast h2
                    have hw := HW.out
                    have hd1 : decide ((X : Int) + (N : Int) < (j : Int)) = false := decide_eq_false h2'
                    go_upto_region 43 with fail
                    refine wp_region_held_drew (S := fun W => W.cell? ⟨gn, j, none⟩ = some (.int .u64 (cs.getD j 0)) ∧ W.cell? ⟨gw, j, none⟩ = some (.int .u64 (C0.getD j 0))) (by kernel_rfl) ⟨c1, c2⟩ (fun hHeld => ?_)
                    refine wpAnyH_take (i := 0) (oi := _) (v := ?_) (op_at rfl) (by kernel_rfl) (by kernel_rfl) (by kernel_rfl) (fun _ _ _ h => h) (Or.inl ⟨by rfl, ?_⟩) hHeld ?_
                    rotate_left 1
                    focus (intro W hSw; (try dsimp only at hSw); obtain ⟨c1, c2⟩ := hSw; (try rw [HEQ.out] at c1); go_simp; (try (with_reducible rfl)))
                    (try simp only [Act.put, List.setIfInBounds_toArray, List.set_cons_zero, List.set_cons_succ])
                    refine wpAnyH_take (i := 1) (oi := _) (v := ?_) (op_at rfl) (by kernel_rfl) (by kernel_rfl) (by kernel_rfl) (fun _ _ _ h => h) (Or.inl ⟨by rfl, ?_⟩) hHeld ?_
                    rotate_left 1
                    focus (intro W hSw; (try dsimp only at hSw); obtain ⟨c1, c2⟩ := hSw; (try rw [HEQ.out] at c1); go_simp; (try (with_reducible rfl)))
                    (try simp only [Act.put, List.setIfInBounds_toArray, List.set_cons_zero, List.set_cons_succ])
                    refine wpAnyH_take (i := 2) (oi := _) (v := ?_) (op_at rfl) (by kernel_rfl) (by kernel_rfl) (by kernel_rfl) (fun _ _ _ h => h) (Or.inl ⟨by rfl, ?_⟩) hHeld ?_
                    rotate_left 1
                    focus (intro W hSw; (try dsimp only at hSw); obtain ⟨c1, c2⟩ := hSw; (try rw [HEQ.out] at c1); go_simp; (try (with_reducible rfl)))
                    (try simp only [Act.put, List.setIfInBounds_toArray, List.set_cons_zero, List.set_cons_succ])
                    refine wpAnyH_take (i := 3) (oi := _) (v := ?_) (op_at rfl) (by kernel_rfl) (by kernel_rfl) (by kernel_rfl) (fun _ _ _ h => h) (Or.inl ⟨by rfl, ?_⟩) hHeld ?_
                    rotate_left 1
                    focus (intro W hSw; (try dsimp only at hSw); obtain ⟨c1, c2⟩ := hSw; (try rw [HEQ.out] at c1); go_simp; (try (with_reducible rfl)))
                    (try simp only [Act.put, List.setIfInBounds_toArray, List.set_cons_zero, List.set_cons_succ])
                    refine wpAnyH_take (i := 4) (oi := _) (v := ?_) (op_at rfl) (by kernel_rfl) (by kernel_rfl) (by kernel_rfl) (fun _ _ _ h => h) (Or.inl ⟨by rfl, ?_⟩) hHeld ?_
                    rotate_left 1
                    focus (intro W hSw; (try dsimp only at hSw); obtain ⟨c1, c2⟩ := hSw; (try rw [HEQ.out] at c1); go_simp; (try (with_reducible rfl)))
                    (try simp only [Act.put, List.setIfInBounds_toArray, List.set_cons_zero, List.set_cons_succ])
                    refine wpAnyH_take (i := 5) (oi := _) (v := ?_) (op_at rfl) (by kernel_rfl) (by kernel_rfl) (by kernel_rfl) (fun _ _ _ h => h) (Or.inl ⟨by rfl, ?_⟩) hHeld ?_
                    rotate_left 1
                    focus (intro W hSw; (try dsimp only at hSw); obtain ⟨c1, c2⟩ := hSw; (try rw [HEQ.out] at c1); go_simp; (try (with_reducible rfl)))
                    (try simp only [Act.put, List.setIfInBounds_toArray, List.set_cons_zero, List.set_cons_succ])
                    refine wpAnyH_take (i := 6) (oi := _) (v := ?_) (op_at rfl) (by kernel_rfl) (by kernel_rfl) (by kernel_rfl) (fun _ _ _ h => h) (Or.inl ⟨by rfl, ?_⟩) hHeld ?_
                    rotate_left 1
                    focus (intro W hSw; (try dsimp only at hSw); obtain ⟨c1, c2⟩ := hSw; (try rw [HEQ.out] at c1); go_simp; (try (with_reducible rfl)))
                    (try simp only [Act.put, List.setIfInBounds_toArray, List.set_cons_zero, List.set_cons_succ])
                    refine wpAnyH_take (i := 7) (oi := _) (v := ?_) (op_at rfl) (by kernel_rfl) (by kernel_rfl) (by kernel_rfl) (fun _ _ _ h => h) (Or.inl ⟨by rfl, ?_⟩) hHeld ?_
                    rotate_left 1
                    focus (intro W hSw; (try dsimp only at hSw); obtain ⟨c1, c2⟩ := hSw; (try rw [HEQ.out] at c1); go_simp; (try (with_reducible rfl)))
                    (try simp only [Act.put, List.setIfInBounds_toArray, List.set_cons_zero, List.set_cons_succ])
                    refine wpAnyH_take (i := 8) (oi := _) (v := ?_) (op_at rfl) (by kernel_rfl) (by kernel_rfl) (by kernel_rfl) (fun _ _ _ h => h) (Or.inl ⟨by rfl, ?_⟩) hHeld ?_
                    rotate_left 1
                    focus (intro W hSw; (try dsimp only at hSw); obtain ⟨c1, c2⟩ := hSw; (try rw [HEQ.out] at c1); go_simp; (try (with_reducible rfl)))
                    (try simp only [Act.put, List.setIfInBounds_toArray, List.set_cons_zero, List.set_cons_succ])
                    refine wpAnyH_take (i := 9) (oi := _) (v := ?_) (op_at rfl) (by kernel_rfl) (by kernel_rfl) (by kernel_rfl) (fun _ _ _ h => h) (Or.inl ⟨by rfl, ?_⟩) hHeld ?_
                    rotate_left 1
                    focus (intro W hSw; (try dsimp only at hSw); obtain ⟨c1, c2⟩ := hSw; (try rw [HEQ.out] at c1); go_simp; (try (with_reducible rfl)))
                    (try simp only [Act.put, List.setIfInBounds_toArray, List.set_cons_zero, List.set_cons_succ])
                    refine wpAnyH_take (i := 10) (oi := _) (v := ?_) (op_at rfl) (by kernel_rfl) (by kernel_rfl) (by kernel_rfl) (fun _ _ _ h => h) (Or.inl ⟨by rfl, ?_⟩) hHeld ?_
                    rotate_left 1
                    focus (intro W hSw; (try dsimp only at hSw); obtain ⟨c1, c2⟩ := hSw; (try rw [HEQ.out] at c1); go_simp; (try (with_reducible rfl)))
                    (try simp only [Act.put, List.setIfInBounds_toArray, List.set_cons_zero, List.set_cons_succ])
                    refine wpAnyH_take (i := 11) (oi := _) (v := undef) (op_at rfl) (by kernel_rfl) (by kernel_rfl) (by kernel_rfl) (fun _ _ _ h => h) (Or.inr ⟨by rfl, rfl⟩) hHeld ?_
                    (try simp only [Act.put, List.setIfInBounds_toArray, List.set_cons_zero, List.set_cons_succ])
                    refine wpAnyH_take (i := 12) (oi := _) (v := undef) (op_at rfl) (by kernel_rfl) (by kernel_rfl) (by kernel_rfl) (fun _ _ _ h => h) (Or.inr ⟨by rfl, rfl⟩) hHeld ?_
                    (try simp only [Act.put, List.setIfInBounds_toArray, List.set_cons_zero, List.set_cons_succ])
                    refine wpAnyH_take (i := 13) (oi := _) (v := undef) (op_at rfl) (by kernel_rfl) (by kernel_rfl) (by kernel_rfl) (fun _ _ _ h => h) (Or.inr ⟨by rfl, rfl⟩) hHeld ?_
                    (try simp only [Act.put, List.setIfInBounds_toArray, List.set_cons_zero, List.set_cons_succ])
                    refine wpAnyH_take (i := 14) (oi := _) (v := undef) (op_at rfl) (by kernel_rfl) (by kernel_rfl) (by kernel_rfl) (fun _ _ _ h => h) (Or.inr ⟨by rfl, rfl⟩) hHeld ?_
                    (try simp only [Act.put, List.setIfInBounds_toArray, List.set_cons_zero, List.set_cons_succ])
                    refine wpAnyH_take (i := 15) (oi := _) (v := undef) (op_at rfl) (by kernel_rfl) (by kernel_rfl) (by kernel_rfl) (fun _ _ _ h => h) (Or.inr ⟨by rfl, rfl⟩) hHeld ?_
                    (try simp only [Act.put, List.setIfInBounds_toArray, List.set_cons_zero, List.set_cons_succ])
                    refine wpAnyH_take (i := 16) (oi := _) (v := undef) (op_at rfl) (by kernel_rfl) (by kernel_rfl) (by kernel_rfl) (fun _ _ _ h => h) (Or.inr ⟨by rfl, rfl⟩) hHeld ?_
                    (try simp only [Act.put, List.setIfInBounds_toArray, List.set_cons_zero, List.set_cons_succ])
                    refine wpAnyH_take (i := 17) (oi := _) (v := undef) (op_at rfl) (by kernel_rfl) (by kernel_rfl) (by kernel_rfl) (fun _ _ _ h => h) (Or.inr ⟨by rfl, rfl⟩) hHeld ?_
                    (try simp only [Act.put, List.setIfInBounds_toArray, List.set_cons_zero, List.set_cons_succ])
                    refine wpAnyH_take (i := 18) (oi := _) (v := undef) (op_at rfl) (by kernel_rfl) (by kernel_rfl) (by kernel_rfl) (fun _ _ _ h => h) (Or.inr ⟨by rfl, rfl⟩) hHeld ?_
                    (try simp only [Act.put, List.setIfInBounds_toArray, List.set_cons_zero, List.set_cons_succ])
                    refine wpAnyH_take (i := 19) (oi := _) (v := undef) (op_at rfl) (by kernel_rfl) (by kernel_rfl) (by kernel_rfl) (fun _ _ _ h => h) (Or.inr ⟨by rfl, rfl⟩) hHeld ?_
                    (try simp only [Act.put, List.setIfInBounds_toArray, List.set_cons_zero, List.set_cons_succ])
                    refine wpAnyH_take (i := 20) (oi := _) (v := ?_) (op_at rfl) (by kernel_rfl) (by kernel_rfl) (by kernel_rfl) (fun _ _ _ h => h) (Or.inl ⟨by rfl, ?_⟩) hHeld ?_
                    rotate_left 1
                    focus (intro W hSw; (try dsimp only at hSw); obtain ⟨c1, c2⟩ := hSw; (try rw [HEQ.out] at c1); go_simp; (try (with_reducible rfl)))
                    (try simp only [Act.put, List.setIfInBounds_toArray, List.set_cons_zero, List.set_cons_succ])
                    refine wpAnyH_done (by kernel_rfl) ?_ _
                    go_wp2
                    go_roundw
                    case rel => exact ⟨j + 1, hlt, by go_num, Quiet.trans (a := w20) (b := w20.drewN nq) ⟨nq, rfl⟩ ⟨1, rfl⟩⟩
                    case measure => simp [intOf]; omega
              · have hlt2 : ¬ (j : Int) < (L : Int) := by omega
                have hA30 := hA20.out.quiet (w' := w20.drewN nq) ⟨nq, rfl⟩
                have hS30 := hS20.out.grew (Quiet.below ⟨nq, rfl⟩ : Below w20.heap.size w20 (w20.drewN nq))
                have hPL : (L : Int) = 64 + 64 * P := HNC.out
                clear hA20 hS20 GN GW20 hq21
                generalize w20.drewN nq = w30 at *
                obtain ⟨m0, m1, m2, m3, m4, m5⟩ := six_atB hS30.mp
                obtain ⟨iy, hiy⟩ : ∃ iy : Nat, (iy : Int) = 22 + P + (pg : Int) := ⟨(22 + P + (pg : Int)).toNat, by omega⟩
                have AL := Lib.hid (fun W => (by
                  have := malloc_any P 1 1 64 22 (64 + 64 * P) (pg : Int) W
                  rw [IntWalk.wrap64_in (22 + P) ⟨by omega, by omega⟩, IntWalk.wrap64_in _ ⟨by omega, by omega⟩, ← hiy] at this
                  exact this : Calls Tryd.prog 21 #[.agg #[.int .i64 P, .int .i64 1, .int .i64 1, .int .i64 64, .int .i64 22, .int .i64 (64 + 64 * P)], .int .i64 (pg : Int)] W fun e w' => e = .returned (.int .i64 (iy : Int)) ∧ Below W.heap.size W w'))
                have hiyL : iy < cs.length := by omega
                have HIY := Lib.hid hiy
                have HPL := Lib.hid hPL
                clear hiy hPL
                go_wp2_with fail
                refine (AL.out _).mono ?_; rintro e w31 ⟨rfl, hb31⟩
                have hA31 := hA30.grew hb31
                have hS31 := hS30.grew hb31
                have PK := Lib.hid (apeek hA31 hiyL (by omega))
                clear hA30 hS30 hb31 m0 m1 m2 m3 m4 m5
                go_wp2_with fail
                refine PK.out.mono ?_; rintro e w32 ⟨rfl, hq32⟩
                have hA32 := hA31.quiet hq32
                have hS32 := hS31.grew hq32.below
                have hAU : U64 (cs.getD iy 0) := by
                  rw [List.getD_eq_getElem?_getD, List.getElem?_eq_getElem hiyL]
                  exact HCK.out.U _ (List.getElem_mem hiyL)
                clear hA31 hS31 hq32 PK
                generalize cs.getD iy 0 = A at *
                have PO := Lib.hid (fun W v (hA : Ary W B0 a ca cs k K) => apoke (i := iy) v hA hiyL (by omega))
                have hlL : cs.length = L := by omega
                have LKF := Lib.hid (show ∀ V, bitB V (off : Int) = true → U64 V → lookE P 1 1 (cs.set iy V) [] (X : Int) = .ok (0, kd, N) ∧ lkL (cs.set iy V) X N = List.replicate N (Value.int .i64 0) ∧ (∀ z ∈ cs.set iy V, U64 z) ∧ (cs.set iy V).length = cellsN P 1 1 from fun V hV hVU => by
                  have hh1 := HIX.out
                  have hh2 := HIY.out
                  refine ⟨?_, bk_zero fun i hi => ?_, fun z hz => ?_, by rw [List.length_set]; omega⟩
                  · rw [← hX]
                    refine bk_look hP HF.out hkd hN ?_ ?_ ?_
                    · rw [getD_set_ne' (by omega), HCK.out.out _ (.inl (by omega)), ← hh1, hE]; exact hC1.out
                    · rw [show (22 + P + (pg : Int)).toNat = iy by omega, getD_set_eq' hiyL]; exact hV
                    · rw [show (64 + 64 * (pg : Int) + (off : Int)).toNat = X by omega, getD_set_ne' (by omega), hHe]; exact HCK.out.hd rfl
                  · rw [getD_set_ne' (by omega), show X + 1 + i = X + (1 + i) by omega]
                    exact HCK.out.zer (1 + i) (by omega) (by omega) (by omega)
                  · rcases List.mem_or_eq_of_mem_set hz with hz | rfl
                    · exact HCK.out.U z hz
                    · exact hVU)
                have HV := Lib.hid (show bitB (bits .or .u64 A (IntKind.u64.wrap ((2 : Int) ^ off))) (off : Int) = true ∧ U64 (bits .or .u64 A (IntKind.u64.wrap ((2 : Int) ^ off))) from by
                  rw [pow_wrapB off hoff]; exact ⟨bit_set A off hAU hoff, bit_setU A off hAU hoff⟩)
                have hcne := hA32.cne
                have hcaR : ∀ b, (b = ca) → w.heap.size ≤ b ∧ b ≠ Bq ∧ b ≠ Bq + 1 ∧ b ≠ Bd ∧ b ≠ Bd + 1 := fun b hb => by have := hcne.2.1; omega
                have SM := Lib.hid (fun W (hT : Touch (fun b => b = ca) w32 W) => show (W.cell? ⟨Bd, 0, none⟩ = some (.int .i64 P) ∧ W.cell? ⟨Bd, 1, none⟩ = some (.int .i64 1) ∧ W.cell? ⟨Bd, 2, none⟩ = some (.int .i64 1) ∧ W.cell? ⟨Bd, 3, none⟩ = some (.int .i64 64) ∧ W.cell? ⟨Bd, 4, none⟩ = some (.int .i64 22) ∧ W.cell? ⟨Bd, 5, none⟩ = some (.int .i64 (64 + 64 * P))) ∧ Touch (fun b => b = ca) w32 W from ⟨six_atB (hS32.touch hT hcaR).mp, hT⟩)
                have hx1 : ((X : Int) - 64) % 64 = (off : Int) := by omega
                have hx2 : ((X : Int) - 64).tmod 64 = (off : Int) := by rw [Int.tmod_eq_emod_of_nonneg (by omega)]; exact hx1
                have hx3 : IntKind.i64.wrap ((X : Int) - 64) = (X : Int) - 64 := i64_smallB _ (by omega) (by omega)
                have hx4 : IntKind.i64.wrap (off : Int) = (off : Int) := i64_smallB _ (by omega) (by omega)
                have hoff2 : (off : Int) ≤ 63 := by omega
                go_upto_region 46 with fail
                refine wp_region_held_drew (S := fun W => (W.cell? ⟨Bd, 0, none⟩ = some (.int .i64 P) ∧ W.cell? ⟨Bd, 1, none⟩ = some (.int .i64 1) ∧ W.cell? ⟨Bd, 2, none⟩ = some (.int .i64 1) ∧ W.cell? ⟨Bd, 3, none⟩ = some (.int .i64 64) ∧ W.cell? ⟨Bd, 4, none⟩ = some (.int .i64 22) ∧ W.cell? ⟨Bd, 5, none⟩ = some (.int .i64 (64 + 64 * P))) ∧ Touch (fun b => b = ca) w32 W) (by kernel_rfl) (SM.out _ (Touch.refl _ w32).drew) (fun hHeld => ?_)
                refine wpAnyH_take (i := 0) (oi := _) (v := ?_) (op_at rfl) (by kernel_rfl) (by kernel_rfl) (by kernel_rfl) (fun _ _ _ h => h) (Or.inl ⟨by rfl, ?_⟩) hHeld ?_
                rotate_left 1
                focus (intro W hSw; (try dsimp only at hSw); obtain ⟨⟨m0, m1, m2, m3, m4, m5⟩, _⟩ := hSw; go_simp; (try (with_reducible rfl)))
                (try simp only [Act.put, List.setIfInBounds_toArray, List.set_cons_zero, List.set_cons_succ])
                refine wpAnyH_take (i := 1) (oi := _) (v := ?_) (op_at rfl) (by kernel_rfl) (by kernel_rfl) (by kernel_rfl) (fun _ _ _ h => h) (Or.inl ⟨by rfl, ?_⟩) hHeld ?_
                rotate_left 1
                focus (intro W hSw; (try dsimp only at hSw); obtain ⟨⟨m0, m1, m2, m3, m4, m5⟩, _⟩ := hSw; go_simp; (try (with_reducible rfl)))
                (try simp only [Act.put, List.setIfInBounds_toArray, List.set_cons_zero, List.set_cons_succ])
                refine wpAnyH_take (i := 2) (oi := _) (v := ?_) (op_at rfl) (by kernel_rfl) (by kernel_rfl) (by kernel_rfl) (fun _ _ _ h => h) (Or.inl ⟨by rfl, ?_⟩) hHeld ?_
                rotate_left 1
                focus (intro W hSw; (try dsimp only at hSw); obtain ⟨⟨m0, m1, m2, m3, m4, m5⟩, _⟩ := hSw; go_simp; (try (with_reducible rfl)))
                (try simp only [Act.put, List.setIfInBounds_toArray, List.set_cons_zero, List.set_cons_succ])
                refine wpAnyH_take (i := 4) (oi := _) (v := ?_) (op_at rfl) (by kernel_rfl) (by kernel_rfl) (by kernel_rfl) (fun _ _ _ h => h) (Or.inl ⟨by rfl, ?_⟩) hHeld ?_
                rotate_left 1
                focus (intro W hSw; (try dsimp only at hSw); obtain ⟨⟨m0, m1, m2, m3, m4, m5⟩, _⟩ := hSw; go_simp; (try (with_reducible rfl)))
                (try simp only [Act.put, List.setIfInBounds_toArray, List.set_cons_zero, List.set_cons_succ])
                refine wpAnyH_take (i := 5) (oi := _) (v := ?_) (op_at rfl) (by kernel_rfl) (by kernel_rfl) (by kernel_rfl) (fun _ _ _ h => h) (Or.inl ⟨by rfl, ?_⟩) hHeld ?_
                rotate_left 1
                focus (intro W hSw; (try dsimp only at hSw); obtain ⟨⟨m0, m1, m2, m3, m4, m5⟩, _⟩ := hSw; go_simp; (try (with_reducible rfl)))
                (try simp only [Act.put, List.setIfInBounds_toArray, List.set_cons_zero, List.set_cons_succ])
                refine wpAnyH_take (i := 6) (oi := _) (v := ?_) (op_at rfl) (by kernel_rfl) (by kernel_rfl) (by kernel_rfl) (fun _ _ _ h => h) (Or.inl ⟨by rfl, ?_⟩) hHeld ?_
                rotate_left 1
                focus (intro W hSw; (try dsimp only at hSw); obtain ⟨⟨m0, m1, m2, m3, m4, m5⟩, _⟩ := hSw; go_simp; (try (with_reducible rfl)))
                (try simp only [Act.put, List.setIfInBounds_toArray, List.set_cons_zero, List.set_cons_succ])
                refine wpAnyH_take (i := 7) (oi := _) (v := ?_) (op_at rfl) (by kernel_rfl) (by kernel_rfl) (by kernel_rfl) (fun _ _ _ h => h) (Or.inl ⟨by rfl, ?_⟩) hHeld ?_
                rotate_left 1
                focus (intro W hSw; (try dsimp only at hSw); obtain ⟨⟨m0, m1, m2, m3, m4, m5⟩, _⟩ := hSw; go_simp; (try (with_reducible rfl)))
                (try simp only [Act.put, List.setIfInBounds_toArray, List.set_cons_zero, List.set_cons_succ])
                refine wpAnyH_take (i := 8) (oi := _) (v := ?_) (op_at rfl) (by kernel_rfl) (by kernel_rfl) (by kernel_rfl) (fun _ _ _ h => h) (Or.inl ⟨by rfl, ?_⟩) hHeld ?_
                rotate_left 1
                focus (intro W hSw; (try dsimp only at hSw); obtain ⟨⟨m0, m1, m2, m3, m4, m5⟩, _⟩ := hSw; go_simp; (try (with_reducible rfl)))
                (try simp only [Act.put, List.setIfInBounds_toArray, List.set_cons_zero, List.set_cons_succ])
                refine wpAnyH_take (i := 9) (oi := _) (v := ?_) (op_at rfl) (by kernel_rfl) (by kernel_rfl) (by kernel_rfl) (fun _ _ _ h => h) (Or.inl ⟨by rfl, ?_⟩) hHeld ?_
                rotate_left 1
                focus (intro W hSw; (try dsimp only at hSw); obtain ⟨⟨m0, m1, m2, m3, m4, m5⟩, _⟩ := hSw; go_simp; (try (with_reducible rfl)))
                (try simp only [Act.put, List.setIfInBounds_toArray, List.set_cons_zero, List.set_cons_succ])
                refine wpAnyH_take (i := 10) (oi := _) (v := ?_) (op_at rfl) (by kernel_rfl) (by kernel_rfl) (by kernel_rfl) (fun _ _ _ h => h) (Or.inl ⟨by rfl, ?_⟩) hHeld ?_
                rotate_left 1
                focus (intro W hSw; (try dsimp only at hSw); obtain ⟨⟨m0, m1, m2, m3, m4, m5⟩, _⟩ := hSw; go_simp; (try (with_reducible rfl)))
                (try simp only [Act.put, List.setIfInBounds_toArray, List.set_cons_zero, List.set_cons_succ])
                refine wpAnyH_take (i := 11) (oi := _) (v := ?_) (op_at rfl) (by kernel_rfl) (by kernel_rfl) (by kernel_rfl) (fun _ _ _ h => h) (Or.inl ⟨by rfl, ?_⟩) hHeld ?_
                rotate_left 1
                focus (intro W hSw; (try dsimp only at hSw); obtain ⟨⟨m0, m1, m2, m3, m4, m5⟩, _⟩ := hSw; go_simp; (try (with_reducible rfl)))
                (try simp only [Act.put, List.setIfInBounds_toArray, List.set_cons_zero, List.set_cons_succ])
                refine wpAnyH_ready (rs := [3]) (by kernel_rfl) (by simp) ?_
                refine AllReadyH.cons (o := _) (op_at rfl) (fun Kc hKc => ?_) AllReadyH.nil
                go_simp
                go_at_call 21
                (with_reducible refine (AL.out _).mono ?_)
                rintro e w33 ⟨rfl, hb33⟩
                have hA33 := (hA32.quiet (w' := w32.drew) ⟨1, rfl⟩).grew hb33
                have hT33 : Touch (fun b => b = ca) w32 w33 := (Touch.refl _ w32).drew.trans (Touch.of hb33)
                go_wp2_with fail
                refine hKc.out _ _ ?_ (fun hHeld => ?_)
                focus (exact SM.out _ hT33)
                clear hKc Kc
                (try simp only [Act.put, List.setIfInBounds_toArray, List.set_cons_zero, List.set_cons_succ])
                refine wpAnyH_ready (rs := [12]) (by kernel_rfl) (by simp) ?_
                refine AllReadyH.cons (o := _) (op_at rfl) (fun Kc hKc => ?_) AllReadyH.nil
                go_simp
                go_at_call 22
                (with_reducible refine (PO.out _ _ hA33).mono ?_)
                rintro e w34 ⟨rfl, hA34, hT34⟩
                have hT35 := hT33.trans hT34
                go_wp2_with fail
                refine hKc.out _ _ ?_ (fun hHeld => ?_)
                focus (exact SM.out _ hT35)
                clear hKc Kc
                (try simp only [Act.put, List.setIfInBounds_toArray, List.set_cons_zero, List.set_cons_succ])
                refine wpAnyH_done (by kernel_rfl) ?_ _
                have hS34 := hS32.touch hT35 hcaR
                generalize hVe : bits .or .u64 A (IntKind.u64.wrap ((2 : Int) ^ off)) = V at *
                obtain ⟨k1, k2, k3, k4⟩ := LKF.out V HV.out.1 HV.out.2
                clear hx1 hx2 hx3 hx4 hoff2 SM PO LKF HV hT35 hT34 hT33 hA33 hA32 hS32 hcne hcaR hAU hb33 HCK hVe hlL hiyL HIY
                generalize hcs : cs.set iy V = ct at *
                go_wp2_with fail
                refine (new_any _ _ _ [] (nil_classes _ _) (Nat.le_refl _)).mono ?_
                rintro e w36 ⟨hb36, hcase⟩
                rcases hcase with ⟨hne, _⟩ | ⟨_, tb, tv, tm, LL, rfl, hT36, hL36⟩
                · exact absurd (by kernel_rfl) hne
                have hA36 := hA34.grew hb36
                have hS36 := hS34.grew hb36
                clear hA34 hS34 hb36
                obtain ⟨g0, g1, g2⟩ := hS36.pl.three.1
                go_wp2_with fail
                refine (oplan_any P 1 1 _).mono ?_; rintro e w37 ⟨rfl, hb37⟩
                have hA37 := hA36.grew hb37
                have hS37 := hS36.grew hb37
                have hT37 := hT36.grew hb37
                clear hA36 hS36 hT36 hb37 g0 g1 g2
                have LA := Lib.hid (look_any (X : Int) hr hA37 (WI.out _ hS37.bel) hT37 k4 k3)
                rw [hL36, k1] at LA
                clear hT37 hA37 k1 k3 k4
                go_wp2_with fail
                refine LA.out.mono ?_
                rintro e w38 ⟨u, rfl, hu, hb38⟩
                simp only [Int.toNat_natCast] at hu
                rw [k2, List.length_replicate] at hu
                obtain ⟨gz, az, qz, rfl, hz1, hz2⟩ := own_zero hu
                have hS38 := hS37.grew hb38
                have hC39 := Blk.new w38 #[.int .i64 (X : Int), .int .i64 0, .int .i64 kd, .slice az N qz] 70
                have hb39 : Below w38.heap.size w38 (w38.alloc (.cells #[.int .i64 (X : Int), .int .i64 0, .int .i64 kd, .slice az N qz] 70)) := (Below.refl _ _).alloc (Nat.le_refl _) _
                have hS39 := hS38.grew hb39
                have hZ39 := Lib.hid (show ∀ i, i < N → (w38.alloc (.cells #[.int .i64 (X : Int), .int .i64 0, .int .i64 kd, .slice az N qz] 70)).cell? ⟨gz, i, none⟩ = some (.int .i64 0) from fun i hi => by rw [touch_cellW (Touch.of (R := fun _ => False) hb39) (a := ⟨gz, i, none⟩) (hz1 (by omega)).2 (fun h => h)]; exact hz2 i hi)
                have hz0 := Lib.hid (fun h => (hz1 h).1)
                clear hu hb38 hb39 hz1 hz2 hS37 hS38 LA k2
                go_upto_region 49 with fail
                generalize w38.alloc (.cells #[.int .i64 (X : Int), .int .i64 0, .int .i64 kd, .slice az N qz] 70) = w39 at *
                generalize w38.heap.size = bc at *
                obtain ⟨c0, c1, c2, c3⟩ := four_atB hC39
                have hk1 := hS39.hd.val 1 rfl
                have hBf := Lib.hid (hS39.bel)
                have SZ := Lib.hid (fun W (hb : Below w39.heap.size w39 W) => show ((W.cell? ⟨bc, 0, none⟩ = some (.int .i64 (X : Int)) ∧ W.cell? ⟨bc, 1, none⟩ = some (.int .i64 0) ∧ W.cell? ⟨bc, 2, none⟩ = some (.int .i64 kd) ∧ W.cell? ⟨bc, 3, none⟩ = some (.slice az N qz)) ∧ W.cell? ⟨Bq + 1, 1, none⟩ = some (.int .i64 kd)) ∧ Below w39.heap.size w39 W from ⟨⟨four_atB (hC39.grew hb), (hS39.grew hb).hd.val 1 rfl⟩, hb⟩)
                have hN6 : (N : Int) ≤ 255 := by omega
                clear hS39 hC39
                go_wp2_with fail
                go_loopw [38] (fun i wx => ∃ j : Nat, j ≤ N ∧ i = .int .i64 j ∧ Quiet w39 wx) (fun i _ => N - (intOf i).toNat)
                case atStart => exact ⟨0, Nat.zero_le _, rfl, Quiet.refl _⟩
                case round =>
                  clear c0 c1 c2 c3 hk1
                  obtain ⟨j, hj, rfl, nq, rfl⟩ := hrel
                  obtain ⟨⟨⟨c0, c1, c2, c3⟩, hk1⟩, hbq⟩ := SZ.out (w39.drewN nq) (Quiet.below ⟨nq, rfl⟩)
                  have hj4 : (j : Int) ≤ 255 := by omega
                  by_cases hlt : j < N
                  · have hlt2 : (j : Int) < (N : Int) := by omega
                    have hin0 : (0 : Int) ≤ (j : Int) ∧ (j : Int) < (N : Int) := by omega
                    have hz3 : (w39.drewN nq).cell? ⟨gz, j, none⟩ = some (.int .i64 0) := hZ39.out j hlt
                    have hz4 := hz0.out (by omega)
                    subst hz4
                    go_wp2
                    go_roundw
                    case rel => exact ⟨j + 1, hlt, by go_num, ⟨nq, rfl⟩⟩
                    case measure => simp [intOf]; omega
                  · have hlt2 : ¬ (j : Int) < (N : Int) := by omega
                    have he : ∀ W, (binOp .eql 56 (.agg #[.int .i64 0, .int .i64 kd, .int .i64 (N : Int)]) (.agg #[.int .i64 0, .int .i64 kd, .int .i64 (N : Int)])).run Tryd.prog W = .ok (.bool true) W := fun W => by rw [eq_head W 0 kd N 0 kd N]; simp
                    have HBq := Lib.hid hbq
                    have KB := Lib.hid (fun (A C : World) (hb : Below A.heap.size A C) (h : Below w39.heap.size w39 A) => h.trans (hb.mono h.size))
                    have B3 : Below w39.heap.size w39 (w39.drewN nq).drew := hbq.trans ((Quiet.below ⟨1, rfl⟩ : Below (w39.drewN nq).heap.size (w39.drewN nq) (w39.drewN nq).drew).mono hbq.size)
                    clear hZ39 hz0 hbq
                    go_wp2_with fail
                    go_region_held3 (fun W => ((W.cell? ⟨bc, 0, none⟩ = some (.int .i64 (X : Int)) ∧ W.cell? ⟨bc, 1, none⟩ = some (.int .i64 0) ∧ W.cell? ⟨bc, 2, none⟩ = some (.int .i64 kd) ∧ W.cell? ⟨bc, 3, none⟩ = some (.slice az N qz)) ∧ W.cell? ⟨Bq + 1, 1, none⟩ = some (.int .i64 kd)) ∧ Below w39.heap.size w39 W)
                      (first | (with_reducible exact SZ.out _ B3) | (exact SZ.out _ (KB.out _ _ (by assumption) (And.right (by assumption)))))
                      (first
                        | (go_at_call 25; refine (ochead_any _ _ _ _ _ _ _).mono ?_; rintro e w40 ⟨rfl, hb40⟩))
                    clear he
                    go_wp2
                    go_ret
                    exact ⟨by first | rfl | simp, hBf.out.trans (Below.mono (And.right (by assumption)) hBf.out.size)⟩
end Go.Proofs.YtohmnjejchppkaaDoor
