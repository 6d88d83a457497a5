/- The law ClassesMaps. Conditions: the argument's classes are read in full; each number fits its kind. -/
import Derived.Deep.CutBlock
import Derived.Deep.DeepCutAuto
import Derived.Test.YtnllpifnmbinmaaGClassesMaps05
import Derived.Test.YtnllpifnmbinmaaGClassesMaps07
namespace Go.Proofs.Ytnllpifnmbinmaa
open Go.RowKit Go.Shelf
set_option linter.unusedVariables false
attribute [local go_sem] Oper.semAt_some
theorem six_at {w : World} {b : Nat} {v0 v1 v2 v3 v4 v5 : Value} {t : TypeId} (h : Blk w b #[v0, v1, v2, v3, v4, v5] t) :
    w.cell? ⟨b, 0, none⟩ = some v0 ∧ w.cell? ⟨b, 1, none⟩ = some v1 ∧ w.cell? ⟨b, 2, none⟩ = some v2 ∧ w.cell? ⟨b, 3, none⟩ = some v3 ∧ w.cell? ⟨b, 4, none⟩ = some v4 ∧ w.cell? ⟨b, 5, none⟩ = some v5 :=
  ⟨h.val 0 rfl, h.val 1 rfl, h.val 2 rfl, h.val 3 rfl, h.val 4 rfl, h.val 5 rfl⟩
set_option maxRecDepth 100000 in
set_option maxHeartbeats 16000000 in
theorem cmaps_law (v : Value) (cl : List ClsD) (c k n i s : Int) (w : World) (h : RdRow 2 (ElC w.heap.size) w.heap.size w v cl) (w1 : (Lit.int .i64 c).wf = true) (w2 : (Lit.int .i64 k).wf = true) (w3 : (Lit.int .i64 n).wf = true) (w4 : (Lit.int .i64 i).wf = true) (w5 : (Lit.int .i64 s).wf = true) :
    Calls Try.prog 3 #[.agg #[v, .int .i64 c, .int .i64 k, .int .i64 n, .int .i64 i, .int .i64 s]] w fun e w' => e = .returned (.bool true) ∧ Below w.heap.size w w' := by
  obtain ⟨a1, q1, rfl⟩ := rd_shape h
  have RP := Lib.hid (fun W (hb : Below w.heap.size w W) => h.keep hb fun _ _ _ e r => r.keep hb e)
  clear h w1 w2 w3 w4 w5
  refine (callsIn_wide (n := 9)).1 ?_
  refine callsIn_of_wp_marks Try.func3 rfl trivial ?_ rfl
  simp only [Try.ntmps3, List.size_toArray, List.length_cons, List.length_nil, Nat.reduceAdd, Nat.reduceSub, Array.replicate_succ, Array.replicate_zero, List.push_toArray, List.append_toArray, List.nil_append, List.cons_append]
  refine wpIn_wide.2 ?_
  go_upto_region 1 with fail
  have hX : Blk ((w.alloc (.cells #[.slice a1 cl.length q1, .int .i64 c, .int .i64 k, .int .i64 n, .int .i64 i, .int .i64 s] 26)).alloc (.cells #[.bool false] 4)) w.heap.size #[.slice a1 cl.length q1, .int .i64 c, .int .i64 k, .int .i64 n, .int .i64 i, .int .i64 s] 26 := (Blk.new _ _ _).alloc _
  have hR : Blk ((w.alloc (.cells #[.slice a1 cl.length q1, .int .i64 c, .int .i64 k, .int .i64 n, .int .i64 i, .int .i64 s] 26)).alloc (.cells #[.bool false] 4)) (w.heap.size + 1) #[.bool false] 4 := Blk.new' (by simp)
  have hB : Below w.heap.size w ((w.alloc (.cells #[.slice a1 cl.length q1, .int .i64 c, .int .i64 k, .int .i64 n, .int .i64 i, .int .i64 s] 26)).alloc (.cells #[.bool false] 4)) := ((Below.refl _ _).alloc (Nat.le_refl _) _).alloc (by simp) _
  generalize (w.alloc (.cells #[.slice a1 cl.length q1, .int .i64 c, .int .i64 k, .int .i64 n, .int .i64 i, .int .i64 s] 26)).alloc (.cells #[.bool false] 4) = W at *
  have x0 := hX.val 0 rfl
  have x1 := hX.val 1 rfl
  have x2 := hX.val 2 rfl
  have x3 := hX.val 3 rfl
  have x4 := hX.val 4 rfl
  have x5 := hX.val 5 rfl
  have hlt := hX.lt
  have hltR := hR.lt
  go_cut [3, 4, 5, 6] from 16 to 24 (fun s3 s4 s5 s6 wx => s3 = .slice a1 cl.length q1 ∧ s5 = .int .i64 i ∧ ∃ P4 P6, s4 = .pointer (some ⟨P4, 0, none⟩) ∧ s6 = .pointer (some ⟨P6, 0, none⟩) ∧ Blk wx P4 #[.int .i64 c, .int .i64 k, .int .i64 n] 24 ∧ Blk wx P6 #[.int .i64 s] 3 ∧ Blk wx (w.heap.size + 1) #[.bool false] 4 ∧ Below w.heap.size w wx ∧ W.heap.size ≤ P4 ∧ W.heap.size ≤ P6)
  case first =>
    go_region_held3 (fun w' => w'.cell? ⟨w.heap.size, 0, none⟩ = some (.slice a1 cl.length q1) ∧ w'.cell? ⟨w.heap.size, 1, none⟩ = some (.int .i64 c) ∧ w'.cell? ⟨w.heap.size, 2, none⟩ = some (.int .i64 k) ∧ w'.cell? ⟨w.heap.size, 3, none⟩ = some (.int .i64 n) ∧ w'.cell? ⟨w.heap.size, 4, none⟩ = some (.int .i64 i) ∧ w'.cell? ⟨w.heap.size, 5, none⟩ = some (.int .i64 s))
      (first | (with_reducible exact ⟨by assumption, by assumption, by assumption, by assumption, by assumption, by assumption⟩) | (refine six_at (t := 26) ?_; repeat (first | exact hX | refine Blk.alloc ?_ _ | refine Blk.drew ?_ | (refine Blk.other ?_ _ _ (by simp; omega)))))
      (fail)
    all_goals
      go_wp2
      go_meet
      case rel =>
        refine ⟨rfl, rfl, _, _, rfl, rfl, ?_, ?_, ?_, ?_, ?_, ?_⟩
        all_goals repeat' (first | exact hB | exact hR | exact hB.size | (refine Blk.new' ?_; simp; done) | refine Blk.drew ?_ | (refine blk_set1 ?_; done) | refine Blk.alloc ?_ _ | refine Quiet.below' ?_ | refine Below.alloc ?_ ?_ _ | (simp; done) | (simp; omega))
        all_goals trace_state
  case rest =>
    clear hX hR hB x0 x1 x2 x3 x4 x5
    obtain ⟨rfl, rfl, P4, P6, rfl, rfl, h4, h6, hR, hB, l4, l6⟩ := hcut
    have hq6 := h6.lt
    have hq4 := h4.lt
    have NW := Lib.hid (new_any wc w.heap.size _ cl (RP.out _ hB) hB.size)
    go_wp2_with fail
    refine NW.out.mono ?_
    rintro e wn ⟨hbn, hcase⟩
    have h4 := h4.grew hbn
    have h6 := h6.grew hbn
    have hR := hR.grew hbn
    have hBn := hB.trans (hbn.mono hB.size)
    have hqc := hbn.size
    clear NW hB hbn
    rcases hcase with ⟨hne, rfl⟩ | ⟨hz, t, tv, m, L, rfl, hT, hL⟩
    · have hne' : ((tabE cl).2 != 0) = true := by simpa using hne
      generalize (tabE cl).1 = n1 at *
      generalize (tabE cl).2 = n2 at *
      clear hne
      go_wp2_with fail
      refine (classed_any _).mono ?_
      rintro e wa ⟨rfl, hba⟩
      have hR := hR.grew hba
      have hBa := hBn.trans (hba.mono hBn.size)
      clear hba hBn
      go_wp2_with fail
      refine (classed_any _).mono ?_
      rintro e wb ⟨rfl, hbb⟩
      have hR := hR.grew hbb
      have hBb := hBa.trans (hbb.mono hBa.size)
      have r0 := hR.val 0 rfl
      have f0 := hR.frozen 0
      have e0 : (wb.setCell ⟨w.heap.size + 1, 0, none⟩ (.bool true)).cell? ⟨w.heap.size + 1, 0, none⟩ = some (.bool true) := (Blk.set hR 0 (.bool true)).val 0 rfl
      go_wp2
      refine ⟨.bool true, ?_, rfl, hBb.setCell (p := ⟨w.heap.size + 1, 0, none⟩) (by simp) _⟩
      simp [results, Try.f3, go_sem, e0]
    · have HT := Lib.hid (fun W (hb : Touch (fun b => b < wc.heap.size ∨ wn.heap.size ≤ b) wn W) => hT.touchC hb)
      have HL := Lib.hid hL
      have h16 : cl.length ≤ 16 := Nat.le_of_not_lt fun hl => by unfold tabE at hz; rw [if_pos hl] at hz; cases hz
      have h15 : Hid (∀ d ∈ cl, d.fields.length ≤ 15) := Lib.hid (tabE_zero hz).2
      clear hT hz hL
      go_wp2_with fail
      refine (classed_any _).mono ?_
      rintro e wa ⟨rfl, hba⟩
      have h4 := h4.grew hba
      have h6 := h6.grew hba
      have hR := hR.grew hba
      have hBa := hBn.trans (hba.mono hBn.size)
      have T0 : Touch (fun b => b < wc.heap.size ∨ wn.heap.size ≤ b) wn wa := .of hba
      have hqn : wn.heap.size ≤ wa.heap.size := hba.size
      clear hba hBn
      go_upto_region 6 with fail
      have b10 : Boxed ((wa.alloc (.cells #[.slice none 0 0] 32)).alloc (.cells #[.slice none 0 0] 32)) wa.heap.size 32 (.slice none 0 0) := (Blk.new wa _ _).alloc _
      have b11 : Boxed ((wa.alloc (.cells #[.slice none 0 0] 32)).alloc (.cells #[.slice none 0 0] 32)) (wa.heap.size + 1) 32 (.slice none 0 0) := Blk.new' (by simp)
      have ba : Below wa.heap.size wa ((wa.alloc (.cells #[.slice none 0 0] 32)).alloc (.cells #[.slice none 0 0] 32)) := ((Below.refl _ _).alloc (Nat.le_refl _) _).alloc (by simp) _
      have h4 := h4.grew ba
      have h6 := h6.grew ba
      have hR := hR.grew ba
      have hB6 := hBa.trans (ba.mono hBa.size)
      have T6 := T0.trans (.of ba)
      have hs6 : ((wa.alloc (.cells #[.slice none 0 0] 32)).alloc (.cells #[.slice none 0 0] 32)).heap.size = wa.heap.size + 2 := by simp
      have hqa := hBa.size
      have n46 : P4 ≠ P6 := h4.neC h6 (by decide)
      clear ba hBa T0
      generalize (wa.alloc (.cells #[.slice none 0 0] 32)).alloc (.cells #[.slice none 0 0] 32) = W6 at *
      obtain ⟨S, hS⟩ : ∃ S : Nat, wrap64 ((IntKind.u64.wrap s).tmod 20) = (S : Int) := ⟨(wrap64 ((IntKind.u64.wrap s).tmod 20)).toNat, by have := mod_litC s 20 (by decide) (by decide); omega⟩
      have hS20 : S < 20 := by have := mod_litC s 20 (by decide) (by decide); omega
      have c6 := h6.val 0 rfl
      have f6 := h6.frozen 0
      go_upto_region 7 with fail
      rw [hS]
      have h4 := h4.other ⟨P6, 0, none⟩ (.int .i64 S) n46
      have h6 : Blk (W6.setCell ⟨P6, 0, none⟩ (.int .i64 S)) P6 #[.int .i64 S] 3 := h6.set 0 (.int .i64 S)
      have hR := hR.other ⟨P6, 0, none⟩ (.int .i64 S) (by simp; omega)
      have b10 := Blk.other b10 ⟨P6, 0, none⟩ (.int .i64 S) (by simp; omega)
      have b11 := Blk.other b11 ⟨P6, 0, none⟩ (.int .i64 S) (by simp; omega)
      have T7 := T6.setCell (p := ⟨P6, 0, none⟩) (.inl hq6) (.int .i64 S)
      have hB7 := hB6.setCell (p := ⟨P6, 0, none⟩) (by simp; omega) (.int .i64 S)
      have hs7 : (W6.setCell ⟨P6, 0, none⟩ (.int .i64 S)).heap.size = wa.heap.size + 2 := by rw [← hs6]; simp [World.setCell]
      replace hS := Lib.hid hS
      replace hs6 := Lib.hid hs6
      clear T6 hB6 c6 f6
      generalize W6.setCell ⟨P6, 0, none⟩ (.int .i64 S) = W7 at *
      have c40 := h4.val 0 rfl
      have c41 := h4.val 1 rfl
      have c42 := h4.val 2 rfl
      go_wp2_with fail
      refine (head_any c k n _).mono ?_
      rintro e wh ⟨rfl, hbh⟩
      have h4 := h4.grew hbh
      have h6 := h6.grew hbh
      have hR := hR.grew hbh
      have b10 := Blk.grew b10 hbh
      have b11 := Blk.grew b11 hbh
      have T8 := T7.trans (.of hbh)
      have hB8 := hB7.trans (hbh.mono hB7.size)
      have hs8 := hbh.size
      clear hbh T7 hB7 c40 c41 c42
      go_wp2_with fail
      refine (pointers_any _ _ _ _ _).mono ?_
      rintro e w' ⟨rfl, rfl⟩
      have bb : Below wh.heap.size wh ((wh.alloc (.cells #[.pointer (some ⟨t, 0, none⟩)] 27)).alloc (.cells #[.int .i64 c, .int .i64 k, .int .i64 n] 37)) := ((Below.refl _ _).alloc (Nat.le_refl _) _).alloc (by simp) _
      have B1 : Blk ((wh.alloc (.cells #[.pointer (some ⟨t, 0, none⟩)] 27)).alloc (.cells #[.int .i64 c, .int .i64 k, .int .i64 n] 37)) wh.heap.size #[.pointer (some ⟨t, 0, none⟩)] 27 := (Blk.new _ _ _).alloc _
      have B2 : Blk ((wh.alloc (.cells #[.pointer (some ⟨t, 0, none⟩)] 27)).alloc (.cells #[.int .i64 c, .int .i64 k, .int .i64 n] 37)) (wh.heap.size + 1) #[.int .i64 c, .int .i64 k, .int .i64 n] 37 := Blk.new' (by simp)
      have h4 := h4.grew bb
      have h6 := h6.grew bb
      have hR := hR.grew bb
      have b10 := Blk.grew b10 bb
      have b11 := Blk.grew b11 bb
      have T0 := T8.trans (.of bb)
      have hB0 := hB8.trans (bb.mono hB8.size)
      have hs0 : ((wh.alloc (.cells #[.pointer (some ⟨t, 0, none⟩)] 27)).alloc (.cells #[.int .i64 c, .int .i64 k, .int .i64 n] 37)).heap.size = wh.heap.size + 2 := by simp
      clear bb T8 hB8
      generalize (wh.alloc (.cells #[.pointer (some ⟨t, 0, none⟩)] 27)).alloc (.cells #[.int .i64 c, .int .i64 k, .int .i64 n] 37) = W0 at *
      have l0 : wh.heap.size + 2 ≤ W0.heap.size := by omega
      have l7 : wa.heap.size + 2 ≤ wh.heap.size := by omega
      replace hs0 := Lib.hid hs0
      replace hs7 := Lib.hid hs7
      have hP : Hid (ptrL (L.map (·.1)) c k n = ptrL cl c k n) := Lib.hid (by rw [HL.out])
      have hN : Hid ((ptrL cl c k n).length ≤ 255) := Lib.hid (by
        unfold ptrL
        split
        · rename_i q
          have h1 := valid_len (fit_valid h16 h15.out q)
          have h2 := ptrs_len cl c k n.toNat
          omega
        · simp)
      clear hlt
      go_wp2_with fail
      rename_i K hK
      obtain ⟨i0, hi0, hz0, hz1, hz2⟩ := info_parts info_intR
      refine (wpIn_wide (n := 9)).1 ?_
      refine name_actC (fun a0 ha0 => ?_)
      have KF : ∀ (D : Nat) (q : List Nat) (vs : Value) (W : World), W0.heap.size ≤ D → W.heap[D]? = some (.deferred (some [])) → Hid (q <+: ptrL cl c k n) → Hid (q.length = min S (ptrL cl c k n).length) → Boxed W (wa.heap.size + 1) 32 vs → W.ownsRow W0.heap.size 3 1 vs q.length (natC q) → Touch (· = wa.heap.size + 1) W0 W →
          K { a0 with defers := { target := .collected D, args := #[] } :: a0.defers } W := by
        intro D q vs W1 hD hDK hq hql hvs hrs ht
        have hs1 := ht.size
        have hDlt : D < W1.heap.size := (Array.getElem?_eq_some_iff.1 hDK).1
        have h4 := h4.touch ht (by omega)
        have h6 := h6.touch ht (by omega)
        have hR := hR.touch ht (by omega)
        have b10 := Blk.touch b10 ht (by omega)
        have B1 := B1.touch ht (by omega)
        have B2 := B2.touch ht (by omega)
        have T1 := T0.trans (ht.mono (fun b _ hb => .inr (by omega)))
        have hB1 := hB0.trans (ht.below (B := w.heap.size) hB0.size (fun b hb => by omega))
        apply hK
        clear hK T0 hB0 b11 ht
        subst ha0
        go_wp2_with fail
        rename_i K2 hK2
        refine (wpIn_wide (n := 9)).1 ?_
        refine name_actC (fun a0 ha0 => ?_)
        refine wpIn_rangeFunc_ownF rfl (by omega) (gf := 17) (lb := #[.pointer (some ⟨wh.heap.size, 0, none⟩), .pointer (some ⟨wh.heap.size + 1, 0, none⟩)]) (by rw [ha0]; rfl) trivial (enters_of Try.func17 (by kernel_rfl) rfl)
          (ptr_stopsK (Kp := KpB wa.heap.size W1.heap.size) KpB.tr KpB.grow 8 (by omega) wh.heap.size (wh.heap.size + 1) wc.heap.size t m tv L c k n W1
            (fun W hW => ⟨HT.out W (T1.trans (hW.mono (fun b _ hb => .inr (by omega)))), (B1.touch hW (by omega)).val 0 rfl, (B2.touch hW (by omega)).val 0 rfl, (B2.touch hW (by omega)).val 1 rfl, (B2.touch hW (by omega)).val 2 rfl⟩))
          KpB.tr (KpB.put (Nat.le_refl _)) (Below.refl _ _) (fun _ => rfl)
          (fun pre W => (∃ v, Boxed W wa.heap.size 32 v ∧ W.ownsRow W1.heap.size 3 1 v pre.length (natC pre) ∧ pre.length ≤ 1000) ∧ Touch (· = wa.heap.size) W1 W)
          (fun _ _ _ => False)
          (OwnFrom.and (Own.from (holdsRow_own W1.heap.size wa.heap.size 32 3 1 (fun pre : List Nat => pre.length) (fun pre : List Nat => natC pre) (fun pre _ => pre.length ≤ 1000)) _) (ownFrom_touch (Nat.le_refl _)))
          (fun _ _ _ _ _ hs _ _ => hs)
          ⟨⟨_, b10, World.ownsRow_nil _ _ _ _, by simp⟩, Touch.refl _ _⟩
          (fun x => { tmps := (a0.tmps.setIfInBounds 56 (.int .i64 ((x : Nat) : Int))).setIfInBounds 14 (.int .i64 ((x : Nat) : Int)), defers := [] }) ?assign ?body ?done ?stop
        case assign =>
          intro l x W K1 hK1
          subst ha0
          gi_wp2
          exact hK1
        case body =>
          rintro l pre x W ⟨⟨v, hv, hrow, _⟩, ht⟩ hlt
          subst ha0
          simp only [List.setIfInBounds_toArray, List.set_cons_zero, List.set_cons_succ]
          have hsW := ht.size
          obtain ⟨a1, k1, hveq⟩ := ownsRow_form hrow
          have hc := hv.cell
          have HF := Lib.hid (natC_snoc pre x)
          have HL : Hid ((pre ++ [x]).length = pre.length + 1) := by unfold Hid; simp
          subst hveq
          generalize hy : ((x : Nat) : Int) = y at *
          replace hy := Lib.hid hy
          have hlt2 : pre.length < 300 := by have := hP.out; rw [this] at hlt; have := hN.out; omega
          have hlt3 : ¬ (300 : Int) < (pre.length : Int) := by omega
          generalize hp : pre.length = p at *
          clear hlt
          gi_wp2_with (gi_at_builtin; refine wpListIn_append_own _ rfl _ _ 32 rfl W1.heap.size 3 i0 (.int .i64 0) 1 8 Try.underlying32 hi0 hz0 hz1 hz2 rfl (by decide) _ _ _ rfl (hrow.alloc _) ⟨W.heap.size, 0, none⟩ 1 1 [.int .i64 y] rfl rfl (cell_one_new _ _ _) (by simp [Value.oneCell']) (by unfold maxLen; omega) (by omega) (by simp; omega) ?_; intro v' w1 hown' hgrow _; obtain ⟨g', cap', rfl⟩ := ownsRow_succ hown'; obtain ⟨hv1, hv2, hr2, hk2, ht2, hbl⟩ := appended_touch hv (by decide) hrow hown' hgrow; have hc1 := hv1.cell; have hf1 := hv1.frozen)
          exact ⟨hk2, KpB.app hgrow (fun g e => (hrow.lt g e).1), ⟨_, hv2, by rw [HL.out, HF.out]; exact hr2, by rw [HL.out]; omega⟩, ht2 W1 ht (Nat.le_refl _)⟩
        case stop =>
          rintro D c pre W _ _ h _
          exact h.elim
        case done =>
          rintro D2 ys W2 hD2 hys ⟨⟨v2, hv2, hrow2, _⟩, ht2⟩ hDK2
          rw [hP.out] at hys
          subst hys
          subst ha0
          have hs2 := ht2.size
          have hl11 := (lst_ownC (by rw [natC_ins] at hrs; exact hrs)).touched b10 ht2
          have hl10 := lst_ownC (by rw [natC_ins] at hrow2; exact hrow2)
          have six : SixC W2 P4 P6 wa.heap.size (wa.heap.size + 1) c k n S v2 vs W2 := ⟨h4.touch ht2 (by omega), h6.touch ht2 (by omega), hv2, Boxed.touched hvs ht2 (by omega)⟩
          have hR := hR.touch ht2 (by omega)
          have hDK1 : W2.heap[D]? = some (.deferred (some [])) := (ht2.block D hDlt (by omega)).trans hDK
          have T2 := T1.trans (ht2.mono (fun b _ hb => .inr (by omega)))
          have hB2 := hB1.trans (ht2.below (B := w.heap.size) hB1.size (fun b hb => by omega))
          have hD2lt : D2 < W2.heap.size := (Array.getElem?_eq_some_iff.1 hDK2).1
          have RPt := Lib.hid (rpointers_any W2 w.heap.size _ cl c k n (RP.out _ hB2) hB2.size h16 h15.out)
          clear h4 h6 hvs hv2 b10 B1 B2 T1 hB1 ht2 hrs hrow2
          apply hK2
          clear hK2
          obtain ⟨⟨y0, y1, y2⟩, y3, y4, y5⟩ := six.cells
          go_wp2_with fail
          refine RPt.out.mono ?_
          rintro e W3 ⟨pv, rfl, hown, hb3⟩
          have hs3 := hb3.size
          have six := six.touch (.of hb3 : Touch (fun _ => False) W2 W3) (by simp) (by simp) (by simp) (by simp)
          have hR := hR.grew hb3
          have k1 : W3.heap[D]? = some (.deferred (some [])) := (hb3.block D (by omega)).trans hDK1
          have k2 : W3.heap[D2]? = some (.deferred (some [])) := (hb3.block D2 (by omega)).trans hDK2
          have l10 := hl10.below hb3
          have l11 := hl11.below hb3
          have T3 := T2.trans (.of hb3)
          have hB3 := hB2.trans (hb3.mono hB2.size)
          have hql2 := hql.out
          obtain ⟨ap, cp, hvp, hcap, hsub⟩ := own_subC hown rfl hq.out
          have lp := lst_ownC (by rw [natC_ins] at hown; exact hown)
          subst hvp
          obtain ⟨a11, k11, hv11⟩ : ∃ a c, vs = .slice a q.length c := by
            rcases l11 with ⟨h0, a, c, h1⟩ | ⟨b, o, c, h1, _⟩
            · exact ⟨a, c, by rw [h1, ← insL_len q, h0]; rfl⟩
            · exact ⟨_, c, by rw [h1, insL_len]⟩
          subst hv11
          obtain ⟨a10, k10, hv10⟩ : ∃ a c', v2 = .slice a (ptrL cl c k n).length c' := by
            rcases l10 with ⟨h0, a, c', h1⟩ | ⟨b, o, c', h1, _⟩
            · exact ⟨a, c', by rw [h1, ← insL_len (ptrL cl c k n), h0]; rfl⟩
            · exact ⟨_, c', by rw [h1, insL_len]⟩
          subst hv10
          clear hl10 hl11
          have hne : ∀ b, wn.heap.size ≤ b → b ≠ w.heap.size + 1 := fun b hb => by omega
          have S3 : SixC W3 P4 P6 wa.heap.size (wa.heap.size + 1) c k n S (.slice a10 (ptrL cl c k n).length k10) (.slice a11 q.length k11) W3 := ⟨six.h4, six.h6, six.ha, six.hs⟩
          have SQ := Lib.hid (fun W' (ht : Touch (· = w.heap.size + 1) W3 W') => (S3.touch ht (by omega) (by omega) (by omega) (by omega)).cells)
          have FI := Lib.hid (fun W' (ht : Touch (· = w.heap.size + 1) W3 W') => fits_any W' wc.heap.size t m tv L c k n (HT.out W' (T3.trans (ht.mono (fun b _ hb => .inl (by omega))))))
          have II := Lib.hid (fun W' (ht : Touch (· = w.heap.size + 1) W3 W') => isref_any W' wc.heap.size t m tv L c k n i (HT.out W' (T3.trans (ht.mono (fun b _ hb => .inl (by omega))))))
          have RF := Lib.hid (fun W' (ht : Touch (· = w.heap.size + 1) W3 W') => rfits_any W' w.heap.size _ cl c k n (RP.out W' (hB3.trans (ht.below hB3.size (fun b hb => by omega)))) (Nat.le_trans hB3.size ht.size) h16 h15.out)
          have RI := Lib.hid (fun W' (ht : Touch (· = w.heap.size + 1) W3 W') => risref_any W' w.heap.size _ cl c k n i (RP.out W' (hB3.trans (ht.below hB3.size (fun b hb => by omega)))) (Nat.le_trans hB3.size ht.size) h16 h15.out)
          have LA := Lib.hid (fun W' (ht : Touch (· = w.heap.size + 1) W3 W') => ints_any _ _ _ W' (l10.touched hR ht) (lp.touched hR ht))
          have LS := Lib.hid (fun W' (ht : Touch (· = w.heap.size + 1) W3 W') => ints_any _ _ _ W' (l11.touched hR ht) (hsub.touched hR ht))
          rw [HL.out] at FI II
          have KG := Lib.hid (fun (A A' : World) (hb : Below A.heap.size A A') (h : Touch (· = w.heap.size + 1) W3 A ∧ ∃ u, Boxed A (w.heap.size + 1) 4 (.bool u)) => show Touch (· = w.heap.size + 1) W3 A' ∧ ∃ u, Boxed A' (w.heap.size + 1) 4 (.bool u) from ⟨h.1.trans (.of hb), h.2.elim fun u hu => ⟨u, Blk.grew hu hb⟩⟩)
          have KS := Lib.hid (fun (A : World) (b : Bool) (h : Touch (· = w.heap.size + 1) W3 A ∧ ∃ u, Boxed A (w.heap.size + 1) 4 (.bool u)) => show Touch (· = w.heap.size + 1) W3 (A.setCell ⟨w.heap.size + 1, 0, none⟩ (.bool b)) ∧ ∃ u, Boxed (A.setCell ⟨w.heap.size + 1, 0, none⟩ (.bool b)) (w.heap.size + 1) 4 (.bool u) from ⟨h.1.setCell rfl _, h.2.elim fun _ hu => ⟨b, hu.set _⟩⟩)
          have G3 : Touch (· = w.heap.size + 1) W3 W3.drew ∧ ∃ u, Boxed W3.drew (w.heap.size + 1) 4 (.bool u) := ⟨(Touch.refl _ _).drew, false, hR⟩
          have hqL : q.length ≤ (ptrL cl c k n).length := by omega
          have hmn : min (S : Int) ((ptrL cl c k n).length : Int) = (q.length : Int) := by omega
          generalize (ptrL cl c k n).length = pl at *
          generalize q.length = ql at *
          generalize fitI cl c k n = F at *
          generalize isrI cl c k n i = I at *
          have m1 : (ql : Int) ≤ (pl : Int) := by omega
          have m2 : (ql : Int) ≤ (cp : Int) := by omega
          have m0 : (0 : Int) ≤ (ql : Int) := by omega
          have d1 := Lib.hid hD2
          have d2 := Lib.hid hDlt
          have d3 := Lib.hid hs1
          have d4 := Lib.hid hDK1
          clear hql2 hqL six S3 l10 l11 lp hown hsub y0 y1 y2 y3 y4 y5 hcap T2 T3 hDK hDK2
          have BL := Lib.hid hB3
          have RR := Lib.hid hR
          go_wp2_with fail
          go_region_held3 (fun w' => ((w'.cell? ⟨P4, 0, none⟩ = some (.int .i64 c) ∧ w'.cell? ⟨P4, 1, none⟩ = some (.int .i64 k) ∧ w'.cell? ⟨P4, 2, none⟩ = some (.int .i64 n)) ∧ w'.cell? ⟨P6, 0, none⟩ = some (.int .i64 S) ∧ w'.cell? ⟨wa.heap.size, 0, none⟩ = some (.slice a10 pl k10) ∧ w'.cell? ⟨wa.heap.size + 1, 0, none⟩ = some (.slice a11 ql k11)) ∧ Touch (· = w.heap.size + 1) W3 w' ∧ ∃ u, Boxed w' (w.heap.size + 1) 4 (.bool u))
            (first | with_reducible assumption | (with_reducible exact ⟨SQ.out _ G3.1, G3⟩) | (exact ⟨SQ.out _ (KS.out _ _ hg11).1, KS.out _ _ hg11⟩) | (have hg := KG.out _ _ (by assumption) (And.right (by assumption)); exact ⟨SQ.out _ hg.1, hg⟩))
            (first
              | (go_at_call 5; refine (classed_any _).mono ?_; rintro e w4 ⟨rfl, hb4⟩)
              | (go_at_call 7; refine (head_any _ _ _ _).mono ?_; rintro e w5 ⟨rfl, hb5⟩)
              | (go_at_call 9; refine (FI.out _ (And.left (And.right (by assumption)))).mono ?_; rintro e w6 ⟨rfl, hb6⟩)
              | (go_at_call 10; refine (RF.out _ (And.left (And.right (by assumption)))).mono ?_; rintro e w7 ⟨rfl, hb7⟩)
              | (go_at_call 11; refine (II.out _ (And.left (And.right (by assumption)))).mono ?_; rintro e w8 ⟨rfl, hb8⟩)
              | (go_at_call 12; refine (RI.out _ (And.left (And.right (by assumption)))).mono ?_; rintro e w9 ⟨rfl, hb9⟩)
              | (go_at_call 13; (with_reducible refine (LA.out _ (And.left (And.right (by assumption)))).mono ?_); rintro e w10 ⟨rfl, hq10⟩; have hb10 := quiet_belowC hq10)
              | (go_at_call 13; (with_reducible refine (LS.out _ (And.left (And.right (by assumption)))).mono ?_); rintro e w11 ⟨rfl, hq11⟩; have hb11 := quiet_belowC hq11; have hg11 := KG.out _ _ hb11 (And.right (by assumption)); obtain ⟨u11, hu11⟩ := hg11.2; have c11 := hu11.cell; have f11 := hu11.frozen; have t11 := hg11.1))
          have hsF := t11.size
          have kk1 : W2.heap[D]? = some (.deferred (some [])) := d4.out
          have tT : Touch (· = w.heap.size + 1) W3 (w11.setCell ⟨w.heap.size + 1, 0, none⟩ (.bool true)) := t11.setCell rfl _
          have hbT := Boxed.set (.bool true) hu11
          have e2 := (tT.block D2 (by have := d1.out; omega) (by have := d1.out; have := d3.out; omega)).trans k2
          have e1 := (tT.block D (by have := d2.out; omega) (by omega)).trans k1
          have hWF : Below w.heap.size w (w11.setCell ⟨w.heap.size + 1, 0, none⟩ (.bool true)) := BL.out.trans (tT.below BL.out.size (fun b hb => by omega))
          clear tT t11 hu11 c11 f11 hg11
          generalize w11.setCell ⟨w.heap.size + 1, 0, none⟩ (.bool true) = WF at *
          go_wp2
          refine ⟨by simp, .inl ⟨_, _, rfl, run_takeDeferred e2, ?_⟩⟩
          have e1' : (WF.putObj D2 (.deferred none)).heap[D]? = some (.deferred (some [])) := (World.putObj_heap_other (by have := d1.out; have := d2.out; omega)).trans e1
          refine ⟨by simp, .inl ⟨_, _, rfl, run_takeDeferred e1', ?_⟩⟩
          have hbF : ((WF.putObj D2 (.deferred none)).putObj D (.deferred none)).cell? ⟨w.heap.size + 1, 0, none⟩ = some (.bool true) :=
            Boxed.cell (t := 4) ((World.putObj_heap_other (by omega)).trans ((World.putObj_heap_other (by have := d1.out; have := d3.out; omega)).trans hbT))
          refine ⟨.bool true, ?_, rfl, (hWF.trans (belowK_b (w := w) (Nat.le_refl _) WF D2 _ _ (by have := d1.out; have := d3.out; have := BL.out.size; omega) e2 rfl rfl)).trans (belowK_b (w := w) (Nat.le_refl _) _ D _ _ (by omega) e1' rfl rfl)⟩
          simp [results, Try.f3, go_sem, hbF]
      clear hK
      refine wpIn_rangeFunc_ownF rfl (by omega) (gf := 17) (lb := #[.pointer (some ⟨wh.heap.size, 0, none⟩), .pointer (some ⟨wh.heap.size + 1, 0, none⟩)]) (by rw [ha0]; rfl) trivial (enters_of Try.func17 (by kernel_rfl) rfl)
        (ptr_stopsK (Kp := KpB (wa.heap.size + 1) W0.heap.size) KpB.tr KpB.grow 8 (by omega) wh.heap.size (wh.heap.size + 1) wc.heap.size t m tv L c k n W0
          (fun W hW => ⟨HT.out W (T0.trans (hW.mono (fun b _ hb => .inr (by omega)))), (B1.touch hW (by omega)).val 0 rfl, (B2.touch hW (by omega)).val 0 rfl, (B2.touch hW (by omega)).val 1 rfl, (B2.touch hW (by omega)).val 2 rfl⟩))
        KpB.tr (KpB.put (Nat.le_refl _)) (Below.refl _ _) (fun _ => rfl)
        (fun pre W => (∃ v, Boxed W (wa.heap.size + 1) 32 v ∧ W.ownsRow W0.heap.size 3 1 v pre.length (natC pre) ∧ pre.length ≤ S) ∧ Touch (· = wa.heap.size + 1) W0 W)
        (fun cc pre W => (∃ v, Boxed W (wa.heap.size + 1) 32 v ∧ W.ownsRow W0.heap.size 3 1 v (pre.length - 1) (natC (pre.take (pre.length - 1))) ∧ (cc = .exit 0 ∧ pre.length - 1 = S)) ∧ Touch (· = wa.heap.size + 1) W0 W)
        (OwnFrom.and (Own.from (holdsRow_own W0.heap.size (wa.heap.size + 1) 32 3 1 (fun pre : List Nat => pre.length) (fun pre : List Nat => natC pre) (fun pre _ => pre.length ≤ S)) _) (ownFrom_touch (Nat.le_refl _)))
        (fun cc => OwnFrom.and (Own.from (holdsRow_own W0.heap.size (wa.heap.size + 1) 32 3 1 (fun pre : List Nat => pre.length - 1) (fun pre : List Nat => natC (pre.take (pre.length - 1))) (fun pre _ => cc = .exit 0 ∧ pre.length - 1 = S)) _) (ownFrom_touch (Nat.le_refl _)))
        ⟨⟨_, b11, World.ownsRow_nil _ _ _ _, Nat.zero_le _⟩, Touch.refl _ _⟩
        (fun x => { tmps := (a0.tmps.setIfInBounds 46 (.int .i64 ((x : Nat) : Int))).setIfInBounds 13 (.int .i64 ((x : Nat) : Int)), defers := [] }) ?assign ?body ?done ?stop
      case assign =>
        intro l x W K1 hK1
        subst ha0
        gi_wp2
        exact hK1
      case body =>
        rintro l pre x W ⟨⟨v, hv, hrow, hle⟩, ht⟩ hlt
        subst ha0
        simp only [List.setIfInBounds_toArray, List.set_cons_zero, List.set_cons_succ]
        have hsW := ht.size
        have hst := (h6.touch ht (by omega)).val 0 rfl
        obtain ⟨a1, k1, hveq⟩ := ownsRow_form hrow
        have hc := hv.cell
        have HF := Lib.hid (natC_snoc pre x)
        have HL : Hid ((pre ++ [x]).length = pre.length + 1) := by unfold Hid; simp
        have hall : (∃ v', Boxed W (wa.heap.size + 1) 32 v' ∧ W.ownsRow W0.heap.size 3 1 v' ((pre ++ [x]).length - 1) (natC ((pre ++ [x]).take ((pre ++ [x]).length - 1)))) := by
          refine ⟨v, hv, ?_⟩
          rw [List.length_append, List.length_singleton, Nat.add_sub_cancel, List.take_left]
          exact hrow
        subst hveq
        have HY := Lib.hid hrow
        generalize hy : ((x : Nat) : Int) = y at *
        replace hy := Lib.hid hy
        by_cases hc2 : S ≤ pre.length
        · have hle2 : (S : Int) ≤ (pre.length : Int) := by omega
          have heq : Hid ((pre ++ [x]).length - 1 = S) := Lib.hid (by have := HL.out; omega)
          clear hle hlt
          gi_wp2_with fail
          obtain ⟨v', h1, h2⟩ := hall
          exact ⟨KeepsOthers.refl _, ⟨v', h1, h2, rfl, heq.out⟩, ht⟩
        · have hle2 : ¬ (S : Int) ≤ (pre.length : Int) := by omega
          have hSl : pre.length < S := by omega
          generalize hp : pre.length = p at *
          clear hle hlt hall
          gi_wp2_with (gi_at_builtin; refine wpListIn_append_own _ rfl _ _ 32 rfl W0.heap.size 3 i0 (.int .i64 0) 1 8 Try.underlying32 hi0 hz0 hz1 hz2 rfl (by decide) _ _ _ rfl (hrow.alloc _) ⟨W.heap.size, 0, none⟩ 1 1 [.int .i64 y] rfl rfl (cell_one_new _ _ _) (by simp [Value.oneCell']) (by unfold maxLen; omega) (by omega) (by simp; omega) ?_; intro v' w1 hown' hgrow _; obtain ⟨g', cap', rfl⟩ := ownsRow_succ hown'; obtain ⟨hv1, hv2, hr2, hk2, ht2, hbl⟩ := appended_touch hv (by decide) hrow hown' hgrow; have hc1 := hv1.cell; have hf1 := hv1.frozen)
          exact ⟨hk2, KpB.app hgrow (fun g e => (hrow.lt g e).1), ⟨_, hv2, by rw [HL.out, HF.out]; exact hr2, by rw [HL.out]; omega⟩, ht2 W0 ht (Nat.le_refl _)⟩
      case done =>
        rintro D ys W hD hys ⟨⟨v, hv, hrow, hle⟩, ht⟩ hDK
        rw [hP.out] at hys
        subst ha0
        have h1 : Hid (ys <+: ptrL cl c k n) := Lib.hid (by rw [hys]; exact List.prefix_refl _)
        have h2 : Hid (ys.length = min S (ptrL cl c k n).length) := Lib.hid (by rw [← hys]; omega)
        clear hys
        gi_wp2_with fail
        exact KF D ys v W hD hDK h1 h2 hv hrow ht
      case stop =>
        rintro D cc pre W hD hpre ⟨⟨v, hv, hrow, rfl, hle⟩, ht⟩ hDK
        rw [hP.out] at hpre
        subst ha0
        have hl : (pre.take (pre.length - 1)).length = pre.length - 1 := by simp
        have hrow' : W.ownsRow W0.heap.size 3 1 v (pre.take (pre.length - 1)).length (natC (pre.take (pre.length - 1))) := by rw [hl]; exact hrow
        have h1 : Hid (pre.take (pre.length - 1) <+: ptrL cl c k n) := Lib.hid ((List.take_prefix _ _).trans hpre)
        have h2 : Hid ((pre.take (pre.length - 1)).length = min S (ptrL cl c k n).length) := Lib.hid (by have := hpre.length_le; rw [hl]; omega)
        gi_wp2_with fail
        exact KF D _ v W hD hDK h1 h2 hv hrow' ht
end Go.Proofs.Ytnllpifnmbinmaa
