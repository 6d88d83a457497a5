/- The walk of the law LayoutApart: it returns true, whatever it is given. No condition but that each number fits its kind. -/
import Derived.Test.YtahppkdbaagcgaaLheap
import Derived.Test.YtahppkdbaagcgaaThin
import Derived.Test.YtahppkdbaagcgaaFind
import Derived.Deep.CutBlock
import Derived.Deep.DeepCutAuto
namespace Go.Proofs.Ytahppkdbaagcgaa
open Go.RowKit
set_option linter.unusedVariables false
set_option linter.unusedSimpArgs false
theorem cell_other (W : World) {b n : Nat} (i j : Nat) (v : Value) (h : b ≠ n) : (W.setCell ⟨n, j, none⟩ v).cell? ⟨b, i, none⟩ = W.cell? ⟨b, i, none⟩ := by
  unfold World.cell?
  rw [show (W.setCell ⟨n, j, none⟩ v).heap[b]? = W.heap[b]? from Below.heap_setCell _ _ _ _ h]
theorem planStore {w W : World} {b n : Nat} {P T R : Int} (x y z : Value) (h : (W.cell? ⟨b, 0, none⟩ = some (.int .i64 P) ∧ W.cell? ⟨b, 1, none⟩ = some (.int .i64 T) ∧ W.cell? ⟨b, 2, none⟩ = some (.int .i64 R)) ∧ Below w.heap.size w W) (hn : b < n) (hb : w.heap.size ≤ b) :
    ((((W.setCell ⟨n, 0, none⟩ x).setCell ⟨n, 1, none⟩ y).setCell ⟨n, 2, none⟩ z).cell? ⟨b, 0, none⟩ = some (.int .i64 P) ∧ (((W.setCell ⟨n, 0, none⟩ x).setCell ⟨n, 1, none⟩ y).setCell ⟨n, 2, none⟩ z).cell? ⟨b, 1, none⟩ = some (.int .i64 T) ∧ (((W.setCell ⟨n, 0, none⟩ x).setCell ⟨n, 1, none⟩ y).setCell ⟨n, 2, none⟩ z).cell? ⟨b, 2, none⟩ = some (.int .i64 R)) ∧ Below w.heap.size w (((W.setCell ⟨n, 0, none⟩ x).setCell ⟨n, 1, none⟩ y).setCell ⟨n, 2, none⟩ z) := by
  obtain ⟨⟨h0, h1, h2⟩, h3⟩ := h
  have hne : b ≠ n := by omega
  have hbn : w.heap.size ≤ n := by omega
  exact ⟨⟨by rw [cell_other _ _ _ _ hne, cell_other _ _ _ _ hne, cell_other _ _ _ _ hne]; exact h0, by rw [cell_other _ _ _ _ hne, cell_other _ _ _ _ hne, cell_other _ _ _ _ hne]; exact h1, by rw [cell_other _ _ _ _ hne, cell_other _ _ _ _ hne, cell_other _ _ _ _ hne]; exact h2⟩, ((h3.setCell hbn _).setCell hbn _).setCell hbn _⟩
theorem eq_lspot (w : World) (a b c x y z : Int) :
    (binOp .eql 33 (.agg #[.int .i64 a, .int .i64 b, .int .i64 c]) (.agg #[.int .i64 x, .int .i64 y, .int .i64 z])).run Try.prog w = .ok (.bool (a == x && (b == y && c == z))) w := by
  rw [run_eql_struct, run_equalIn_agg w 9999 _ _ _ (by kernel_rfl) (by kernel_rfl)]
  obtain ⟨f, g, k, hl, ⟨f1, f2, f3⟩, ⟨g1, g2, g3⟩, k1, k2, k3⟩ := fields3 (l := (Try.prog.fieldsOf 33).toList) (t := 3) (by kernel_rfl)
  rw [hl]
  have hi : Try.prog.underlying 3 = some (.int .i64) := by kernel_rfl
  simp [Op.eqFields, f1, f2, f3, g1, g2, g3, k1, k2, k3, go_sem, hi]
  by_cases h1 : a = x <;> by_cases h2 : b = y <;> by_cases h3 : c = z <;> simp [h1, h2, h3]
theorem ne_lspot (w : World) (a b c x y z : Int) :
    (binOp .neq 33 (.agg #[.int .i64 a, .int .i64 b, .int .i64 c]) (.agg #[.int .i64 x, .int .i64 y, .int .i64 z])).run Try.prog w = .ok (.bool (!(a == x && (b == y && c == z)))) w := by
  rw [run_neq_struct, run_equalIn_agg w 9999 _ _ _ (by kernel_rfl) (by kernel_rfl)]
  obtain ⟨f, g, k, hl, ⟨f1, f2, f3⟩, ⟨g1, g2, g3⟩, k1, k2, k3⟩ := fields3 (l := (Try.prog.fieldsOf 33).toList) (t := 3) (by kernel_rfl)
  rw [hl]
  have hi : Try.prog.underlying 3 = some (.int .i64) := by kernel_rfl
  simp [Op.eqFields, f1, f2, f3, g1, g2, g3, k1, k2, k3, go_sem, hi]
  by_cases h1 : a = x <;> by_cases h2 : b = y <;> by_cases h3 : c = z <;> simp [h1, h2, h3]
theorem guard_lspot : Try.prog.eqGuardType Try.prog.depth 33 = false := by kernel_rfl
theorem where_pos {P T R k i j : Int} (h : Right P T R) (ho : okI P T R k i j) : whereI P T R k i j = posI P T R k i j := by
  unfold whereI
  rw [of_right h, decide_eq_true ho]; rfl
theorem three_set {w : World} {b : Nat} {t : TypeId} {u v x : Value} (h : Blk w b #[u, v, x] t) (a b' c : Value) : Blk (((w.setCell ⟨b, 0, none⟩ a).setCell ⟨b, 1, none⟩ b').setCell ⟨b, 2, none⟩ c) b #[a, b', c] t := ((h.set 0 a).set 1 b').set 2 c
theorem three_other {w : World} {b n : Nat} {t : TypeId} {cs : Array Value} (h : Blk w b cs t) (hn : b ≠ n) (a b' c : Value) : Blk (((w.setCell ⟨n, 0, none⟩ a).setCell ⟨n, 1, none⟩ b').setCell ⟨n, 2, none⟩ c) b cs t := ((h.other _ _ hn).other _ _ hn).other _ _ hn
set_option maxRecDepth 100000 in
set_option maxHeartbeats 20000000 in
theorem apart_walk (pg th rg a0 b0 : Int) (w : World) :
    Calls Try.prog 3 #[.agg #[.int .i64 pg, .int .i64 th, .int .i64 rg, .int .i64 a0, .int .i64 b0]] w fun e w' => e = .returned (.bool true) ∧ Below w.heap.size w w' := by
  obtain ⟨x1, e1, b1⟩ : ∃ x, IntKind.u64.wrap pg = x ∧ U64 x := ⟨_, rfl, u64_wrap _⟩
  obtain ⟨x2, e2, b2⟩ : ∃ x, IntKind.u64.wrap th = x ∧ U64 x := ⟨_, rfl, u64_wrap _⟩
  obtain ⟨x3, e3, b3⟩ : ∃ x, IntKind.u64.wrap rg = x ∧ U64 x := ⟨_, rfl, u64_wrap _⟩
  obtain ⟨x4, e4, b4⟩ : ∃ x, IntKind.u64.wrap a0 = x ∧ U64 x := ⟨_, rfl, u64_wrap _⟩
  obtain ⟨x5, e5, b5⟩ : ∃ x, IntKind.u64.wrap b0 = x ∧ U64 x := ⟨_, rfl, u64_wrap _⟩
  obtain ⟨b10, b11⟩ := b1
  obtain ⟨b20, b21⟩ := b2
  obtain ⟨b30, b31⟩ := b3
  obtain ⟨b40, b41⟩ := b4
  obtain ⟨b50, b51⟩ := b5
  have hR : Right (1 + x1 % 32) (1 + x2 % 6) (1 + x3 % 16) := by unfold Right; omega
  generalize hP : 1 + x1 % 32 = P at *
  generalize hT : 1 + x2 % 6 = T at *
  generalize hR' : 1 + x3 % 16 = R at *
  have N := Lib.hid (fun W => plan_yes P T R W hR)
  have LA := Lib.hid (fun W => laid_any W)
  have CE := Lib.hid (fun W => cells_yes P T R W hR)
  have hb := base_bd hR
  obtain ⟨z0, z1, z2, _⟩ := hb
  have hR2 := hR
  obtain ⟨⟨p1, p2⟩, _⟩ := hR2
  have hC0 : 0 < baseI P T R + 64 * P := by omega
  have hC1 : baseI P T R + 64 * P ≤ 4096 := by omega
  have hCn : baseI P T R + 64 * P ≠ 0 := by omega
  have hC64 : ¬ baseI P T R + 64 * P < 64 := by omega
  have ha0 : 0 ≤ x4 % (baseI P T R + 64 * P) := Int.emod_nonneg _ hCn
  have ha1 : x4 % (baseI P T R + 64 * P) < baseI P T R + 64 * P := Int.emod_lt_of_pos _ hC0
  have hb0 : 0 ≤ x5 % (baseI P T R + 64 * P) := Int.emod_nonneg _ hCn
  have hb1 : x5 % (baseI P T R + 64 * P) < baseI P T R + 64 * P := Int.emod_lt_of_pos _ hC0
  have ta : x4.tmod (baseI P T R + 64 * P) = x4 % (baseI P T R + 64 * P) := Int.tmod_eq_emod_of_nonneg b40
  have tb : x5.tmod (baseI P T R + 64 * P) = x5 % (baseI P T R + 64 * P) := Int.tmod_eq_emod_of_nonneg b50
  have FA := Lib.hid (fun W => find_yes P T R (x4 % (baseI P T R + 64 * P)) W hR ha0 ha1)
  have FB := Lib.hid (fun W => find_yes P T R (x5 % (baseI P T R + 64 * P)) W hR hb0 hb1)
  generalize hma : x4 % (baseI P T R + 64 * P) = a at *
  generalize hmb : x5 % (baseI P T R + 64 * P) = b at *
  have hcw : IntKind.u64.wrap (baseI P T R + 64 * P) = baseI P T R + 64 * P := by rw [IntKind.wrap_u64]; omega
  have k1 : IntKind.i64.wrap a = a := wi (by omega)
  have k2 : IntKind.i64.wrap b = b := wi (by omega)
  have k3 : IntKind.u64.wrap a = a := by rw [IntKind.wrap_u64]; omega
  have k4 : IntKind.u64.wrap b = b := by rw [IntKind.wrap_u64]; omega
  generalize hC : baseI P T R + 64 * P = C at *
  go_enter Try.func3, Try.ntmps3
  go_wp2
  go_quiet (fail)
  go_wp2_with fail
  refine (N.out _).mono ?_; rintro e w1 ⟨rfl, hb1'⟩
  have B1 : Below w.heap.size w w1 := (((Below.refl w.heap.size w).alloc (Nat.le_refl _) _).trans (Quiet.drew).below).trans (hb1'.mono (by simp))
  clear hb1' e1 e2 e3 hP hT hR'
  have c1 := planNew w1 P T R 25
  go_wp2_with fail
  refine (LA.out _).mono ?_; rintro e w2 ⟨rfl, hb2⟩
  have c2 := planKeep c1 hb2
  obtain ⟨d20, d21, d22⟩ := c2.1
  go_wp2_with fail
  refine (CE.out _).mono ?_; rintro e w3 ⟨rfl, hb3⟩
  have c3 := planKeep c2 hb3
  obtain ⟨d30, d31, d32⟩ := c3.1
  go_wp2_with fail
  go_region_held3 (fun w' => (w'.cell? ⟨w1.heap.size, 0, none⟩ = some (.int .i64 P) ∧ w'.cell? ⟨w1.heap.size, 1, none⟩ = some (.int .i64 T) ∧ w'.cell? ⟨w1.heap.size, 2, none⟩ = some (.int .i64 R)) ∧ Below w1.heap.size w1 w')
    (first | exact c3 | exact ⟨c3.1, c3.2.drew⟩ | exact planKeep (by assumption) hbk)
    (first | (go_at_call 6; refine (CE.out _).mono ?_; rintro e w9 ⟨rfl, hbk⟩))
  have c4 := planHeld (by assumption)
  generalize hka : findK P T R a = ka at *
  generalize haa : findA P T R a = aa at *
  generalize hba : findB P T R a = ba at *
  generalize hkb : findK P T R b = kb at *
  generalize hab : findA P T R b = ab at *
  generalize hbb : findB P T R b = bb at *
  have HF := Lib.hid (And.intro hka (And.intro haa (And.intro hba (And.intro hkb (And.intro hab hbb)))))
  clear hka haa hba hkb hab hbb
  go_wp2_with fail
  go_cut [10, 11] (fun s10 s11 wx => ∃ n1 n2, s10 = .pointer (some ⟨n1, 0, none⟩) ∧ s11 = .pointer (some ⟨n2, 0, none⟩) ∧ Blk wx n1 #[.int .i64 ka, .int .i64 aa, .int .i64 ba] 33 ∧ Blk wx n2 #[.int .i64 kb, .int .i64 ab, .int .i64 bb] 33 ∧ (wx.cell? ⟨w1.heap.size, 0, none⟩ = some (.int .i64 P) ∧ wx.cell? ⟨w1.heap.size, 1, none⟩ = some (.int .i64 T) ∧ wx.cell? ⟨w1.heap.size, 2, none⟩ = some (.int .i64 R)) ∧ Below w1.heap.size w1 wx)
  case first =>
    refine wp_region_held_drew (S := (fun w' => (w'.cell? ⟨w1.heap.size, 0, none⟩ = some (.int .i64 P) ∧ w'.cell? ⟨w1.heap.size, 1, none⟩ = some (.int .i64 T) ∧ w'.cell? ⟨w1.heap.size, 2, none⟩ = some (.int .i64 R)) ∧ Below w1.heap.size w1 w')) (by kernel_rfl) ⟨c4.1, c4.2.drew⟩ (fun hHeld => ?_)
    refine wpAnyH_take (i := 0) (oi := _) (v := ?_) (op_at rfl) (by kernel_rfl) (by kernel_rfl) (by kernel_rfl) (fun _ _ _ h => h) (Or.inl ⟨by rfl, ?_⟩) hHeld ?_
    rotate_left 1
    focus (intro W hSw; (try dsimp only at hSw); go_simp; (try (with_reducible rfl)))
    (try simp only [Act.put, List.setIfInBounds_toArray, List.set_cons_zero, List.set_cons_succ])
    refine wpAnyH_take (i := 1) (oi := _) (v := ?_) (op_at rfl) (by kernel_rfl) (by kernel_rfl) (by kernel_rfl) (fun _ _ _ h => h) (Or.inl ⟨by rfl, ?_⟩) hHeld ?_
    rotate_left 1
    focus (intro W hSw; (try dsimp only at hSw); go_simp; (try (with_reducible rfl)))
    (try simp only [Act.put, List.setIfInBounds_toArray, List.set_cons_zero, List.set_cons_succ])
    refine wpAnyH_take (i := 3) (oi := _) (v := ?_) (op_at rfl) (by kernel_rfl) (by kernel_rfl) (by kernel_rfl) (fun _ _ _ h => h) (Or.inl ⟨by rfl, ?_⟩) hHeld ?_
    rotate_left 1
    focus (intro W hSw; (try dsimp only at hSw); go_simp; (try (with_reducible rfl)))
    (try simp only [Act.put, List.setIfInBounds_toArray, List.set_cons_zero, List.set_cons_succ])
    refine wpAnyH_take (i := 4) (oi := _) (v := ?_) (op_at rfl) (by kernel_rfl) (by kernel_rfl) (by kernel_rfl) (fun _ _ _ h => h) (Or.inl ⟨by rfl, ?_⟩) hHeld ?_
    rotate_left 1
    focus (intro W hSw; (try dsimp only at hSw); go_simp; (try (with_reducible rfl)))
    (try simp only [Act.put, List.setIfInBounds_toArray, List.set_cons_zero, List.set_cons_succ])
    generalize w9.drew = wd at *
    refine wpAnyH_ready (rs := [2, 6, 7]) (by kernel_rfl) (by simp) ?_
    refine AllReadyH.cons (o := _) (op_at rfl) (fun K hK => ?_) ?_
    focus
      go_simp
      go_at_call 7
      refine (FA.out _).mono ?_
      rintro e v1 ⟨rfl, hbk⟩
      go_wp2_with fail
      refine hK.out _ _ ?_ (fun hHeld => ?_)
      focus exact planKeep hHeld hbk
      clear hK K hbk
      (try simp only [Act.put, List.setIfInBounds_toArray, List.set_cons_zero, List.set_cons_succ])
      refine wpAnyH_ready (rs := [5, 6, 7]) (by kernel_rfl) (by simp) ?_
      refine AllReadyH.cons (o := _) (op_at rfl) (fun K hK => ?_) ?_
      focus
        go_simp
        go_at_call 7
        refine (FB.out _).mono ?_
        rintro e v2 ⟨rfl, hbk⟩
        go_wp2_with fail
        refine hK.out _ _ ?_ (fun hHeld => ?_)
        focus exact planKeep hHeld hbk
        clear hK K hbk
        (try simp only [Act.put, List.setIfInBounds_toArray, List.set_cons_zero, List.set_cons_succ])
        refine wpAnyH_ready (rs := [6, 7]) (by kernel_rfl) (by simp) ?_
        refine AllReadyH.cons (o := _) (op_at rfl) (fun K hK => ?_) ?_
        focus
          go_simp
          refine hK.out _ _ ?_ (fun hHeld' => ?_)
          focus exact planKeep hHeld ((Below.refl _ _).alloc (Nat.le_refl _) _)
          have n1gt := World.block_lt_of_cell? _ _ hHeld.1.1
          have Y1 := Blk.new v2 #[.int .i64 0, .int .i64 0, .int .i64 0] 33
          clear hHeld hK K
          have hHeld := hHeld'
          clear hHeld'
          generalize v2.alloc (.cells #[.int .i64 0, .int .i64 0, .int .i64 0] 33) = u3 at *
          generalize v2.heap.size = n1 at *
          (try simp only [Act.put, List.setIfInBounds_toArray, List.set_cons_zero, List.set_cons_succ])
          refine wpAnyH_ready (rs := [7]) (by kernel_rfl) (by simp) ?_
          refine AllReadyH.cons (o := _) (op_at rfl) (fun K hK => ?_) AllReadyH.nil
          go_simp
          refine hK.out _ _ ?_ (fun hHeld' => ?_)
          focus exact planKeep hHeld ((Below.refl _ _).alloc (Nat.le_refl _) _)
          have n2gt := World.block_lt_of_cell? _ _ hHeld.1.1
          have hne := Y1.lt
          have Y1 := Y1.alloc (.cells #[.int .i64 0, .int .i64 0, .int .i64 0] 33)
          have Y2 := Blk.new u3 #[.int .i64 0, .int .i64 0, .int .i64 0] 33
          clear hHeld hK K
          have hHeld := hHeld'
          clear hHeld'
          generalize u3.alloc (.cells #[.int .i64 0, .int .i64 0, .int .i64 0] 33) = u4 at *
          generalize u3.heap.size = n2 at *
          (try simp only [Act.put, List.setIfInBounds_toArray, List.set_cons_zero, List.set_cons_succ])
          as_aux_lemma =>
            refine wpAnyH_ready (rs := [8]) (by kernel_rfl) (by simp) ?_
            refine AllReadyH.cons (o := _) (op_at rfl) (fun K hK => ?_) AllReadyH.nil
            have f0 := Y1.frozen 0; have f1 := Y1.frozen 1; have f2 := Y1.frozen 2; have z0 := Y1.val 0 rfl; have z1 := Y1.val 1 rfl; have z2 := Y1.val 2 rfl
            go_simp
            refine hK.out _ _ ?_ (fun hHeld => ?_)
            focus exact planStore _ _ _ hHeld n1gt (Nat.le_refl _)
            clear f0 f1 f2 z0 z1 z2 hK K
            have Y1 := three_set Y1 (.int .i64 ka) (.int .i64 aa) (.int .i64 ba)
            have Y2 := three_other Y2 (n := n1) (by omega) (.int .i64 ka) (.int .i64 aa) (.int .i64 ba)
            (try simp only [Act.put, List.setIfInBounds_toArray, List.set_cons_zero, List.set_cons_succ])
            refine wpAnyH_ready (rs := [9]) (by kernel_rfl) (by simp) ?_
            refine AllReadyH.cons (o := _) (op_at rfl) (fun K hK => ?_) AllReadyH.nil
            have f0 := Y2.frozen 0; have f1 := Y2.frozen 1; have f2 := Y2.frozen 2; have z0 := Y2.val 0 rfl; have z1 := Y2.val 1 rfl; have z2 := Y2.val 2 rfl
            go_simp
            refine hK.out _ _ ?_ (fun hHeld => ?_)
            focus exact planStore _ _ _ hHeld n2gt (Nat.le_refl _)
            clear f0 f1 f2 z0 z1 z2 hK K
            have Y2 := three_set Y2 (.int .i64 kb) (.int .i64 ab) (.int .i64 bb)
            have Y1 := three_other Y1 (n := n2) (by omega) (.int .i64 kb) (.int .i64 ab) (.int .i64 bb)
            (try simp only [Act.put, List.setIfInBounds_toArray, List.set_cons_zero, List.set_cons_succ])
            refine wpAnyH_done (by kernel_rfl) ?_ _
            go_wp2
            go_meet
            case rel => exact ⟨_, _, rfl, rfl, Y1, Y2, hHeld.1, hHeld.2⟩
        refine AllReadyH.cons (o := _) (op_at rfl) (fun K hK => ?_) AllReadyH.nil
        go_simp
        refine hK.out _ _ ?_ (fun hHeld' => ?_)
        focus exact planKeep hHeld ((Below.refl _ _).alloc (Nat.le_refl _) _)
        have n2gt := World.block_lt_of_cell? _ _ hHeld.1.1
        have Y2 := Blk.new v2 #[.int .i64 0, .int .i64 0, .int .i64 0] 33
        clear hHeld hK K
        have hHeld := hHeld'
        clear hHeld'
        generalize v2.alloc (.cells #[.int .i64 0, .int .i64 0, .int .i64 0] 33) = u5 at *
        generalize v2.heap.size = n2 at *
        (try simp only [Act.put, List.setIfInBounds_toArray, List.set_cons_zero, List.set_cons_succ])
        refine wpAnyH_ready (rs := [6]) (by kernel_rfl) (by simp) ?_
        refine AllReadyH.cons (o := _) (op_at rfl) (fun K hK => ?_) AllReadyH.nil
        go_simp
        refine hK.out _ _ ?_ (fun hHeld' => ?_)
        focus exact planKeep hHeld ((Below.refl _ _).alloc (Nat.le_refl _) _)
        have n1gt := World.block_lt_of_cell? _ _ hHeld.1.1
        have hne := Y2.lt
        have Y2 := Y2.alloc (.cells #[.int .i64 0, .int .i64 0, .int .i64 0] 33)
        have Y1 := Blk.new u5 #[.int .i64 0, .int .i64 0, .int .i64 0] 33
        clear hHeld hK K
        have hHeld := hHeld'
        clear hHeld'
        generalize u5.alloc (.cells #[.int .i64 0, .int .i64 0, .int .i64 0] 33) = u6 at *
        generalize u5.heap.size = n1 at *
        (try simp only [Act.put, List.setIfInBounds_toArray, List.set_cons_zero, List.set_cons_succ])
        as_aux_lemma =>
          refine wpAnyH_ready (rs := [8]) (by kernel_rfl) (by simp) ?_
          refine AllReadyH.cons (o := _) (op_at rfl) (fun K hK => ?_) AllReadyH.nil
          have f0 := Y1.frozen 0; have f1 := Y1.frozen 1; have f2 := Y1.frozen 2; have z0 := Y1.val 0 rfl; have z1 := Y1.val 1 rfl; have z2 := Y1.val 2 rfl
          go_simp
          refine hK.out _ _ ?_ (fun hHeld => ?_)
          focus exact planStore _ _ _ hHeld n1gt (Nat.le_refl _)
          clear f0 f1 f2 z0 z1 z2 hK K
          have Y1 := three_set Y1 (.int .i64 ka) (.int .i64 aa) (.int .i64 ba)
          have Y2 := three_other Y2 (n := n1) (by omega) (.int .i64 ka) (.int .i64 aa) (.int .i64 ba)
          (try simp only [Act.put, List.setIfInBounds_toArray, List.set_cons_zero, List.set_cons_succ])
          refine wpAnyH_ready (rs := [9]) (by kernel_rfl) (by simp) ?_
          refine AllReadyH.cons (o := _) (op_at rfl) (fun K hK => ?_) AllReadyH.nil
          have f0 := Y2.frozen 0; have f1 := Y2.frozen 1; have f2 := Y2.frozen 2; have z0 := Y2.val 0 rfl; have z1 := Y2.val 1 rfl; have z2 := Y2.val 2 rfl
          go_simp
          refine hK.out _ _ ?_ (fun hHeld => ?_)
          focus exact planStore _ _ _ hHeld n2gt (Nat.le_refl _)
          clear f0 f1 f2 z0 z1 z2 hK K
          have Y2 := three_set Y2 (.int .i64 kb) (.int .i64 ab) (.int .i64 bb)
          have Y1 := three_other Y1 (n := n2) (by omega) (.int .i64 kb) (.int .i64 ab) (.int .i64 bb)
          (try simp only [Act.put, List.setIfInBounds_toArray, List.set_cons_zero, List.set_cons_succ])
          refine wpAnyH_done (by kernel_rfl) ?_ _
          go_wp2
          go_meet
          case rel => exact ⟨_, _, rfl, rfl, Y1, Y2, hHeld.1, hHeld.2⟩
      refine AllReadyH.cons (o := _) (op_at rfl) (fun K hK => ?_) ?_
      focus
        go_simp
        refine hK.out _ _ ?_ (fun hHeld' => ?_)
        focus exact planKeep hHeld ((Below.refl _ _).alloc (Nat.le_refl _) _)
        have n1gt := World.block_lt_of_cell? _ _ hHeld.1.1
        have Y1 := Blk.new v1 #[.int .i64 0, .int .i64 0, .int .i64 0] 33
        clear hHeld hK K
        have hHeld := hHeld'
        clear hHeld'
        generalize v1.alloc (.cells #[.int .i64 0, .int .i64 0, .int .i64 0] 33) = u7 at *
        generalize v1.heap.size = n1 at *
        (try simp only [Act.put, List.setIfInBounds_toArray, List.set_cons_zero, List.set_cons_succ])
        refine wpAnyH_ready (rs := [5, 7]) (by kernel_rfl) (by simp) ?_
        refine AllReadyH.cons (o := _) (op_at rfl) (fun K hK => ?_) ?_
        focus
          go_simp
          go_at_call 7
          refine (FB.out _).mono ?_
          rintro e v8 ⟨rfl, hbk⟩
          go_wp2_with fail
          refine hK.out _ _ ?_ (fun hHeld => ?_)
          focus exact planKeep hHeld hbk
          have Y1 := Y1.grew hbk
          clear hK K hbk
          (try simp only [Act.put, List.setIfInBounds_toArray, List.set_cons_zero, List.set_cons_succ])
          refine wpAnyH_ready (rs := [7]) (by kernel_rfl) (by simp) ?_
          refine AllReadyH.cons (o := _) (op_at rfl) (fun K hK => ?_) AllReadyH.nil
          go_simp
          refine hK.out _ _ ?_ (fun hHeld' => ?_)
          focus exact planKeep hHeld ((Below.refl _ _).alloc (Nat.le_refl _) _)
          have n2gt := World.block_lt_of_cell? _ _ hHeld.1.1
          have hne := Y1.lt
          have Y1 := Y1.alloc (.cells #[.int .i64 0, .int .i64 0, .int .i64 0] 33)
          have Y2 := Blk.new v8 #[.int .i64 0, .int .i64 0, .int .i64 0] 33
          clear hHeld hK K
          have hHeld := hHeld'
          clear hHeld'
          generalize v8.alloc (.cells #[.int .i64 0, .int .i64 0, .int .i64 0] 33) = u9 at *
          generalize v8.heap.size = n2 at *
          (try simp only [Act.put, List.setIfInBounds_toArray, List.set_cons_zero, List.set_cons_succ])
          as_aux_lemma =>
            refine wpAnyH_ready (rs := [8]) (by kernel_rfl) (by simp) ?_
            refine AllReadyH.cons (o := _) (op_at rfl) (fun K hK => ?_) AllReadyH.nil
            have f0 := Y1.frozen 0; have f1 := Y1.frozen 1; have f2 := Y1.frozen 2; have z0 := Y1.val 0 rfl; have z1 := Y1.val 1 rfl; have z2 := Y1.val 2 rfl
            go_simp
            refine hK.out _ _ ?_ (fun hHeld => ?_)
            focus exact planStore _ _ _ hHeld n1gt (Nat.le_refl _)
            clear f0 f1 f2 z0 z1 z2 hK K
            have Y1 := three_set Y1 (.int .i64 ka) (.int .i64 aa) (.int .i64 ba)
            have Y2 := three_other Y2 (n := n1) (by omega) (.int .i64 ka) (.int .i64 aa) (.int .i64 ba)
            (try simp only [Act.put, List.setIfInBounds_toArray, List.set_cons_zero, List.set_cons_succ])
            refine wpAnyH_ready (rs := [9]) (by kernel_rfl) (by simp) ?_
            refine AllReadyH.cons (o := _) (op_at rfl) (fun K hK => ?_) AllReadyH.nil
            have f0 := Y2.frozen 0; have f1 := Y2.frozen 1; have f2 := Y2.frozen 2; have z0 := Y2.val 0 rfl; have z1 := Y2.val 1 rfl; have z2 := Y2.val 2 rfl
            go_simp
            refine hK.out _ _ ?_ (fun hHeld => ?_)
            focus exact planStore _ _ _ hHeld n2gt (Nat.le_refl _)
            clear f0 f1 f2 z0 z1 z2 hK K
            have Y2 := three_set Y2 (.int .i64 kb) (.int .i64 ab) (.int .i64 bb)
            have Y1 := three_other Y1 (n := n2) (by omega) (.int .i64 kb) (.int .i64 ab) (.int .i64 bb)
            (try simp only [Act.put, List.setIfInBounds_toArray, List.set_cons_zero, List.set_cons_succ])
            refine wpAnyH_done (by kernel_rfl) ?_ _
            go_wp2
            go_meet
            case rel => exact ⟨_, _, rfl, rfl, Y1, Y2, hHeld.1, hHeld.2⟩
        refine AllReadyH.cons (o := _) (op_at rfl) (fun K hK => ?_) AllReadyH.nil
        go_simp
        refine hK.out _ _ ?_ (fun hHeld' => ?_)
        focus exact planKeep hHeld ((Below.refl _ _).alloc (Nat.le_refl _) _)
        have n2gt := World.block_lt_of_cell? _ _ hHeld.1.1
        have hne := Y1.lt
        have Y1 := Y1.alloc (.cells #[.int .i64 0, .int .i64 0, .int .i64 0] 33)
        have Y2 := Blk.new u7 #[.int .i64 0, .int .i64 0, .int .i64 0] 33
        clear hHeld hK K
        have hHeld := hHeld'
        clear hHeld'
        generalize u7.alloc (.cells #[.int .i64 0, .int .i64 0, .int .i64 0] 33) = u10 at *
        generalize u7.heap.size = n2 at *
        (try simp only [Act.put, List.setIfInBounds_toArray, List.set_cons_zero, List.set_cons_succ])
        refine wpAnyH_ready (rs := [5]) (by kernel_rfl) (by simp) ?_
        refine AllReadyH.cons (o := _) (op_at rfl) (fun K hK => ?_) AllReadyH.nil
        go_simp
        go_at_call 7
        refine (FB.out _).mono ?_
        rintro e v11 ⟨rfl, hbk⟩
        go_wp2_with fail
        refine hK.out _ _ ?_ (fun hHeld => ?_)
        focus exact planKeep hHeld hbk
        have Y1 := Y1.grew hbk
        have Y2 := Y2.grew hbk
        clear hK K hbk
        (try simp only [Act.put, List.setIfInBounds_toArray, List.set_cons_zero, List.set_cons_succ])
        as_aux_lemma =>
          refine wpAnyH_ready (rs := [8]) (by kernel_rfl) (by simp) ?_
          refine AllReadyH.cons (o := _) (op_at rfl) (fun K hK => ?_) AllReadyH.nil
          have f0 := Y1.frozen 0; have f1 := Y1.frozen 1; have f2 := Y1.frozen 2; have z0 := Y1.val 0 rfl; have z1 := Y1.val 1 rfl; have z2 := Y1.val 2 rfl
          go_simp
          refine hK.out _ _ ?_ (fun hHeld => ?_)
          focus exact planStore _ _ _ hHeld n1gt (Nat.le_refl _)
          clear f0 f1 f2 z0 z1 z2 hK K
          have Y1 := three_set Y1 (.int .i64 ka) (.int .i64 aa) (.int .i64 ba)
          have Y2 := three_other Y2 (n := n1) (by omega) (.int .i64 ka) (.int .i64 aa) (.int .i64 ba)
          (try simp only [Act.put, List.setIfInBounds_toArray, List.set_cons_zero, List.set_cons_succ])
          refine wpAnyH_ready (rs := [9]) (by kernel_rfl) (by simp) ?_
          refine AllReadyH.cons (o := _) (op_at rfl) (fun K hK => ?_) AllReadyH.nil
          have f0 := Y2.frozen 0; have f1 := Y2.frozen 1; have f2 := Y2.frozen 2; have z0 := Y2.val 0 rfl; have z1 := Y2.val 1 rfl; have z2 := Y2.val 2 rfl
          go_simp
          refine hK.out _ _ ?_ (fun hHeld => ?_)
          focus exact planStore _ _ _ hHeld n2gt (Nat.le_refl _)
          clear f0 f1 f2 z0 z1 z2 hK K
          have Y2 := three_set Y2 (.int .i64 kb) (.int .i64 ab) (.int .i64 bb)
          have Y1 := three_other Y1 (n := n2) (by omega) (.int .i64 kb) (.int .i64 ab) (.int .i64 bb)
          (try simp only [Act.put, List.setIfInBounds_toArray, List.set_cons_zero, List.set_cons_succ])
          refine wpAnyH_done (by kernel_rfl) ?_ _
          go_wp2
          go_meet
          case rel => exact ⟨_, _, rfl, rfl, Y1, Y2, hHeld.1, hHeld.2⟩
      refine AllReadyH.cons (o := _) (op_at rfl) (fun K hK => ?_) AllReadyH.nil
      go_simp
      refine hK.out _ _ ?_ (fun hHeld' => ?_)
      focus exact planKeep hHeld ((Below.refl _ _).alloc (Nat.le_refl _) _)
      have n2gt := World.block_lt_of_cell? _ _ hHeld.1.1
      have Y2 := Blk.new v1 #[.int .i64 0, .int .i64 0, .int .i64 0] 33
      clear hHeld hK K
      have hHeld := hHeld'
      clear hHeld'
      generalize v1.alloc (.cells #[.int .i64 0, .int .i64 0, .int .i64 0] 33) = u12 at *
      generalize v1.heap.size = n2 at *
      (try simp only [Act.put, List.setIfInBounds_toArray, List.set_cons_zero, List.set_cons_succ])
      refine wpAnyH_ready (rs := [5, 6]) (by kernel_rfl) (by simp) ?_
      refine AllReadyH.cons (o := _) (op_at rfl) (fun K hK => ?_) ?_
      focus
        go_simp
        go_at_call 7
        refine (FB.out _).mono ?_
        rintro e v13 ⟨rfl, hbk⟩
        go_wp2_with fail
        refine hK.out _ _ ?_ (fun hHeld => ?_)
        focus exact planKeep hHeld hbk
        have Y2 := Y2.grew hbk
        clear hK K hbk
        (try simp only [Act.put, List.setIfInBounds_toArray, List.set_cons_zero, List.set_cons_succ])
        refine wpAnyH_ready (rs := [6]) (by kernel_rfl) (by simp) ?_
        refine AllReadyH.cons (o := _) (op_at rfl) (fun K hK => ?_) AllReadyH.nil
        go_simp
        refine hK.out _ _ ?_ (fun hHeld' => ?_)
        focus exact planKeep hHeld ((Below.refl _ _).alloc (Nat.le_refl _) _)
        have n1gt := World.block_lt_of_cell? _ _ hHeld.1.1
        have hne := Y2.lt
        have Y2 := Y2.alloc (.cells #[.int .i64 0, .int .i64 0, .int .i64 0] 33)
        have Y1 := Blk.new v13 #[.int .i64 0, .int .i64 0, .int .i64 0] 33
        clear hHeld hK K
        have hHeld := hHeld'
        clear hHeld'
        generalize v13.alloc (.cells #[.int .i64 0, .int .i64 0, .int .i64 0] 33) = u14 at *
        generalize v13.heap.size = n1 at *
        (try simp only [Act.put, List.setIfInBounds_toArray, List.set_cons_zero, List.set_cons_succ])
        as_aux_lemma =>
          refine wpAnyH_ready (rs := [8]) (by kernel_rfl) (by simp) ?_
          refine AllReadyH.cons (o := _) (op_at rfl) (fun K hK => ?_) AllReadyH.nil
          have f0 := Y1.frozen 0; have f1 := Y1.frozen 1; have f2 := Y1.frozen 2; have z0 := Y1.val 0 rfl; have z1 := Y1.val 1 rfl; have z2 := Y1.val 2 rfl
          go_simp
          refine hK.out _ _ ?_ (fun hHeld => ?_)
          focus exact planStore _ _ _ hHeld n1gt (Nat.le_refl _)
          clear f0 f1 f2 z0 z1 z2 hK K
          have Y1 := three_set Y1 (.int .i64 ka) (.int .i64 aa) (.int .i64 ba)
          have Y2 := three_other Y2 (n := n1) (by omega) (.int .i64 ka) (.int .i64 aa) (.int .i64 ba)
          (try simp only [Act.put, List.setIfInBounds_toArray, List.set_cons_zero, List.set_cons_succ])
          refine wpAnyH_ready (rs := [9]) (by kernel_rfl) (by simp) ?_
          refine AllReadyH.cons (o := _) (op_at rfl) (fun K hK => ?_) AllReadyH.nil
          have f0 := Y2.frozen 0; have f1 := Y2.frozen 1; have f2 := Y2.frozen 2; have z0 := Y2.val 0 rfl; have z1 := Y2.val 1 rfl; have z2 := Y2.val 2 rfl
          go_simp
          refine hK.out _ _ ?_ (fun hHeld => ?_)
          focus exact planStore _ _ _ hHeld n2gt (Nat.le_refl _)
          clear f0 f1 f2 z0 z1 z2 hK K
          have Y2 := three_set Y2 (.int .i64 kb) (.int .i64 ab) (.int .i64 bb)
          have Y1 := three_other Y1 (n := n2) (by omega) (.int .i64 kb) (.int .i64 ab) (.int .i64 bb)
          (try simp only [Act.put, List.setIfInBounds_toArray, List.set_cons_zero, List.set_cons_succ])
          refine wpAnyH_done (by kernel_rfl) ?_ _
          go_wp2
          go_meet
          case rel => exact ⟨_, _, rfl, rfl, Y1, Y2, hHeld.1, hHeld.2⟩
      refine AllReadyH.cons (o := _) (op_at rfl) (fun K hK => ?_) AllReadyH.nil
      go_simp
      refine hK.out _ _ ?_ (fun hHeld' => ?_)
      focus exact planKeep hHeld ((Below.refl _ _).alloc (Nat.le_refl _) _)
      have n1gt := World.block_lt_of_cell? _ _ hHeld.1.1
      have hne := Y2.lt
      have Y2 := Y2.alloc (.cells #[.int .i64 0, .int .i64 0, .int .i64 0] 33)
      have Y1 := Blk.new u12 #[.int .i64 0, .int .i64 0, .int .i64 0] 33
      clear hHeld hK K
      have hHeld := hHeld'
      clear hHeld'
      generalize u12.alloc (.cells #[.int .i64 0, .int .i64 0, .int .i64 0] 33) = u15 at *
      generalize u12.heap.size = n1 at *
      (try simp only [Act.put, List.setIfInBounds_toArray, List.set_cons_zero, List.set_cons_succ])
      refine wpAnyH_ready (rs := [5]) (by kernel_rfl) (by simp) ?_
      refine AllReadyH.cons (o := _) (op_at rfl) (fun K hK => ?_) AllReadyH.nil
      go_simp
      go_at_call 7
      refine (FB.out _).mono ?_
      rintro e v16 ⟨rfl, hbk⟩
      go_wp2_with fail
      refine hK.out _ _ ?_ (fun hHeld => ?_)
      focus exact planKeep hHeld hbk
      have Y2 := Y2.grew hbk
      have Y1 := Y1.grew hbk
      clear hK K hbk
      (try simp only [Act.put, List.setIfInBounds_toArray, List.set_cons_zero, List.set_cons_succ])
      as_aux_lemma =>
        refine wpAnyH_ready (rs := [8]) (by kernel_rfl) (by simp) ?_
        refine AllReadyH.cons (o := _) (op_at rfl) (fun K hK => ?_) AllReadyH.nil
        have f0 := Y1.frozen 0; have f1 := Y1.frozen 1; have f2 := Y1.frozen 2; have z0 := Y1.val 0 rfl; have z1 := Y1.val 1 rfl; have z2 := Y1.val 2 rfl
        go_simp
        refine hK.out _ _ ?_ (fun hHeld => ?_)
        focus exact planStore _ _ _ hHeld n1gt (Nat.le_refl _)
        clear f0 f1 f2 z0 z1 z2 hK K
        have Y1 := three_set Y1 (.int .i64 ka) (.int .i64 aa) (.int .i64 ba)
        have Y2 := three_other Y2 (n := n1) (by omega) (.int .i64 ka) (.int .i64 aa) (.int .i64 ba)
        (try simp only [Act.put, List.setIfInBounds_toArray, List.set_cons_zero, List.set_cons_succ])
        refine wpAnyH_ready (rs := [9]) (by kernel_rfl) (by simp) ?_
        refine AllReadyH.cons (o := _) (op_at rfl) (fun K hK => ?_) AllReadyH.nil
        have f0 := Y2.frozen 0; have f1 := Y2.frozen 1; have f2 := Y2.frozen 2; have z0 := Y2.val 0 rfl; have z1 := Y2.val 1 rfl; have z2 := Y2.val 2 rfl
        go_simp
        refine hK.out _ _ ?_ (fun hHeld => ?_)
        focus exact planStore _ _ _ hHeld n2gt (Nat.le_refl _)
        clear f0 f1 f2 z0 z1 z2 hK K
        have Y2 := three_set Y2 (.int .i64 kb) (.int .i64 ab) (.int .i64 bb)
        have Y1 := three_other Y1 (n := n2) (by omega) (.int .i64 kb) (.int .i64 ab) (.int .i64 bb)
        (try simp only [Act.put, List.setIfInBounds_toArray, List.set_cons_zero, List.set_cons_succ])
        refine wpAnyH_done (by kernel_rfl) ?_ _
        go_wp2
        go_meet
        case rel => exact ⟨_, _, rfl, rfl, Y1, Y2, hHeld.1, hHeld.2⟩
    refine AllReadyH.cons (o := _) (op_at rfl) (fun K hK => ?_) ?_
    focus
      go_simp
      refine hK.out _ _ ?_ (fun hHeld' => ?_)
      focus exact planKeep hHeld ((Below.refl _ _).alloc (Nat.le_refl _) _)
      have n1gt := World.block_lt_of_cell? _ _ hHeld.1.1
      have Y1 := Blk.new wd #[.int .i64 0, .int .i64 0, .int .i64 0] 33
      clear hHeld hK K
      have hHeld := hHeld'
      clear hHeld'
      generalize wd.alloc (.cells #[.int .i64 0, .int .i64 0, .int .i64 0] 33) = u17 at *
      generalize wd.heap.size = n1 at *
      (try simp only [Act.put, List.setIfInBounds_toArray, List.set_cons_zero, List.set_cons_succ])
      refine wpAnyH_ready (rs := [2, 7]) (by kernel_rfl) (by simp) ?_
      refine AllReadyH.cons (o := _) (op_at rfl) (fun K hK => ?_) ?_
      focus
        go_simp
        go_at_call 7
        refine (FA.out _).mono ?_
        rintro e v18 ⟨rfl, hbk⟩
        go_wp2_with fail
        refine hK.out _ _ ?_ (fun hHeld => ?_)
        focus exact planKeep hHeld hbk
        have Y1 := Y1.grew hbk
        clear hK K hbk
        (try simp only [Act.put, List.setIfInBounds_toArray, List.set_cons_zero, List.set_cons_succ])
        refine wpAnyH_ready (rs := [5, 7]) (by kernel_rfl) (by simp) ?_
        refine AllReadyH.cons (o := _) (op_at rfl) (fun K hK => ?_) ?_
        focus
          go_simp
          go_at_call 7
          refine (FB.out _).mono ?_
          rintro e v19 ⟨rfl, hbk⟩
          go_wp2_with fail
          refine hK.out _ _ ?_ (fun hHeld => ?_)
          focus exact planKeep hHeld hbk
          have Y1 := Y1.grew hbk
          clear hK K hbk
          (try simp only [Act.put, List.setIfInBounds_toArray, List.set_cons_zero, List.set_cons_succ])
          refine wpAnyH_ready (rs := [7]) (by kernel_rfl) (by simp) ?_
          refine AllReadyH.cons (o := _) (op_at rfl) (fun K hK => ?_) AllReadyH.nil
          go_simp
          refine hK.out _ _ ?_ (fun hHeld' => ?_)
          focus exact planKeep hHeld ((Below.refl _ _).alloc (Nat.le_refl _) _)
          have n2gt := World.block_lt_of_cell? _ _ hHeld.1.1
          have hne := Y1.lt
          have Y1 := Y1.alloc (.cells #[.int .i64 0, .int .i64 0, .int .i64 0] 33)
          have Y2 := Blk.new v19 #[.int .i64 0, .int .i64 0, .int .i64 0] 33
          clear hHeld hK K
          have hHeld := hHeld'
          clear hHeld'
          generalize v19.alloc (.cells #[.int .i64 0, .int .i64 0, .int .i64 0] 33) = u20 at *
          generalize v19.heap.size = n2 at *
          (try simp only [Act.put, List.setIfInBounds_toArray, List.set_cons_zero, List.set_cons_succ])
          as_aux_lemma =>
            refine wpAnyH_ready (rs := [8]) (by kernel_rfl) (by simp) ?_
            refine AllReadyH.cons (o := _) (op_at rfl) (fun K hK => ?_) AllReadyH.nil
            have f0 := Y1.frozen 0; have f1 := Y1.frozen 1; have f2 := Y1.frozen 2; have z0 := Y1.val 0 rfl; have z1 := Y1.val 1 rfl; have z2 := Y1.val 2 rfl
            go_simp
            refine hK.out _ _ ?_ (fun hHeld => ?_)
            focus exact planStore _ _ _ hHeld n1gt (Nat.le_refl _)
            clear f0 f1 f2 z0 z1 z2 hK K
            have Y1 := three_set Y1 (.int .i64 ka) (.int .i64 aa) (.int .i64 ba)
            have Y2 := three_other Y2 (n := n1) (by omega) (.int .i64 ka) (.int .i64 aa) (.int .i64 ba)
            (try simp only [Act.put, List.setIfInBounds_toArray, List.set_cons_zero, List.set_cons_succ])
            refine wpAnyH_ready (rs := [9]) (by kernel_rfl) (by simp) ?_
            refine AllReadyH.cons (o := _) (op_at rfl) (fun K hK => ?_) AllReadyH.nil
            have f0 := Y2.frozen 0; have f1 := Y2.frozen 1; have f2 := Y2.frozen 2; have z0 := Y2.val 0 rfl; have z1 := Y2.val 1 rfl; have z2 := Y2.val 2 rfl
            go_simp
            refine hK.out _ _ ?_ (fun hHeld => ?_)
            focus exact planStore _ _ _ hHeld n2gt (Nat.le_refl _)
            clear f0 f1 f2 z0 z1 z2 hK K
            have Y2 := three_set Y2 (.int .i64 kb) (.int .i64 ab) (.int .i64 bb)
            have Y1 := three_other Y1 (n := n2) (by omega) (.int .i64 kb) (.int .i64 ab) (.int .i64 bb)
            (try simp only [Act.put, List.setIfInBounds_toArray, List.set_cons_zero, List.set_cons_succ])
            refine wpAnyH_done (by kernel_rfl) ?_ _
            go_wp2
            go_meet
            case rel => exact ⟨_, _, rfl, rfl, Y1, Y2, hHeld.1, hHeld.2⟩
        refine AllReadyH.cons (o := _) (op_at rfl) (fun K hK => ?_) AllReadyH.nil
        go_simp
        refine hK.out _ _ ?_ (fun hHeld' => ?_)
        focus exact planKeep hHeld ((Below.refl _ _).alloc (Nat.le_refl _) _)
        have n2gt := World.block_lt_of_cell? _ _ hHeld.1.1
        have hne := Y1.lt
        have Y1 := Y1.alloc (.cells #[.int .i64 0, .int .i64 0, .int .i64 0] 33)
        have Y2 := Blk.new v18 #[.int .i64 0, .int .i64 0, .int .i64 0] 33
        clear hHeld hK K
        have hHeld := hHeld'
        clear hHeld'
        generalize v18.alloc (.cells #[.int .i64 0, .int .i64 0, .int .i64 0] 33) = u21 at *
        generalize v18.heap.size = n2 at *
        (try simp only [Act.put, List.setIfInBounds_toArray, List.set_cons_zero, List.set_cons_succ])
        refine wpAnyH_ready (rs := [5]) (by kernel_rfl) (by simp) ?_
        refine AllReadyH.cons (o := _) (op_at rfl) (fun K hK => ?_) AllReadyH.nil
        go_simp
        go_at_call 7
        refine (FB.out _).mono ?_
        rintro e v22 ⟨rfl, hbk⟩
        go_wp2_with fail
        refine hK.out _ _ ?_ (fun hHeld => ?_)
        focus exact planKeep hHeld hbk
        have Y1 := Y1.grew hbk
        have Y2 := Y2.grew hbk
        clear hK K hbk
        (try simp only [Act.put, List.setIfInBounds_toArray, List.set_cons_zero, List.set_cons_succ])
        as_aux_lemma =>
          refine wpAnyH_ready (rs := [8]) (by kernel_rfl) (by simp) ?_
          refine AllReadyH.cons (o := _) (op_at rfl) (fun K hK => ?_) AllReadyH.nil
          have f0 := Y1.frozen 0; have f1 := Y1.frozen 1; have f2 := Y1.frozen 2; have z0 := Y1.val 0 rfl; have z1 := Y1.val 1 rfl; have z2 := Y1.val 2 rfl
          go_simp
          refine hK.out _ _ ?_ (fun hHeld => ?_)
          focus exact planStore _ _ _ hHeld n1gt (Nat.le_refl _)
          clear f0 f1 f2 z0 z1 z2 hK K
          have Y1 := three_set Y1 (.int .i64 ka) (.int .i64 aa) (.int .i64 ba)
          have Y2 := three_other Y2 (n := n1) (by omega) (.int .i64 ka) (.int .i64 aa) (.int .i64 ba)
          (try simp only [Act.put, List.setIfInBounds_toArray, List.set_cons_zero, List.set_cons_succ])
          refine wpAnyH_ready (rs := [9]) (by kernel_rfl) (by simp) ?_
          refine AllReadyH.cons (o := _) (op_at rfl) (fun K hK => ?_) AllReadyH.nil
          have f0 := Y2.frozen 0; have f1 := Y2.frozen 1; have f2 := Y2.frozen 2; have z0 := Y2.val 0 rfl; have z1 := Y2.val 1 rfl; have z2 := Y2.val 2 rfl
          go_simp
          refine hK.out _ _ ?_ (fun hHeld => ?_)
          focus exact planStore _ _ _ hHeld n2gt (Nat.le_refl _)
          clear f0 f1 f2 z0 z1 z2 hK K
          have Y2 := three_set Y2 (.int .i64 kb) (.int .i64 ab) (.int .i64 bb)
          have Y1 := three_other Y1 (n := n2) (by omega) (.int .i64 kb) (.int .i64 ab) (.int .i64 bb)
          (try simp only [Act.put, List.setIfInBounds_toArray, List.set_cons_zero, List.set_cons_succ])
          refine wpAnyH_done (by kernel_rfl) ?_ _
          go_wp2
          go_meet
          case rel => exact ⟨_, _, rfl, rfl, Y1, Y2, hHeld.1, hHeld.2⟩
      refine AllReadyH.cons (o := _) (op_at rfl) (fun K hK => ?_) AllReadyH.nil
      go_simp
      refine hK.out _ _ ?_ (fun hHeld' => ?_)
      focus exact planKeep hHeld ((Below.refl _ _).alloc (Nat.le_refl _) _)
      have n2gt := World.block_lt_of_cell? _ _ hHeld.1.1
      have hne := Y1.lt
      have Y1 := Y1.alloc (.cells #[.int .i64 0, .int .i64 0, .int .i64 0] 33)
      have Y2 := Blk.new u17 #[.int .i64 0, .int .i64 0, .int .i64 0] 33
      clear hHeld hK K
      have hHeld := hHeld'
      clear hHeld'
      generalize u17.alloc (.cells #[.int .i64 0, .int .i64 0, .int .i64 0] 33) = u23 at *
      generalize u17.heap.size = n2 at *
      (try simp only [Act.put, List.setIfInBounds_toArray, List.set_cons_zero, List.set_cons_succ])
      refine wpAnyH_ready (rs := [2]) (by kernel_rfl) (by simp) ?_
      refine AllReadyH.cons (o := _) (op_at rfl) (fun K hK => ?_) AllReadyH.nil
      go_simp
      go_at_call 7
      refine (FA.out _).mono ?_
      rintro e v24 ⟨rfl, hbk⟩
      go_wp2_with fail
      refine hK.out _ _ ?_ (fun hHeld => ?_)
      focus exact planKeep hHeld hbk
      have Y1 := Y1.grew hbk
      have Y2 := Y2.grew hbk
      clear hK K hbk
      (try simp only [Act.put, List.setIfInBounds_toArray, List.set_cons_zero, List.set_cons_succ])
      refine wpAnyH_ready (rs := [5]) (by kernel_rfl) (by simp) ?_
      refine AllReadyH.cons (o := _) (op_at rfl) (fun K hK => ?_) AllReadyH.nil
      go_simp
      go_at_call 7
      refine (FB.out _).mono ?_
      rintro e v25 ⟨rfl, hbk⟩
      go_wp2_with fail
      refine hK.out _ _ ?_ (fun hHeld => ?_)
      focus exact planKeep hHeld hbk
      have Y1 := Y1.grew hbk
      have Y2 := Y2.grew hbk
      clear hK K hbk
      (try simp only [Act.put, List.setIfInBounds_toArray, List.set_cons_zero, List.set_cons_succ])
      as_aux_lemma =>
        refine wpAnyH_ready (rs := [8]) (by kernel_rfl) (by simp) ?_
        refine AllReadyH.cons (o := _) (op_at rfl) (fun K hK => ?_) AllReadyH.nil
        have f0 := Y1.frozen 0; have f1 := Y1.frozen 1; have f2 := Y1.frozen 2; have z0 := Y1.val 0 rfl; have z1 := Y1.val 1 rfl; have z2 := Y1.val 2 rfl
        go_simp
        refine hK.out _ _ ?_ (fun hHeld => ?_)
        focus exact planStore _ _ _ hHeld n1gt (Nat.le_refl _)
        clear f0 f1 f2 z0 z1 z2 hK K
        have Y1 := three_set Y1 (.int .i64 ka) (.int .i64 aa) (.int .i64 ba)
        have Y2 := three_other Y2 (n := n1) (by omega) (.int .i64 ka) (.int .i64 aa) (.int .i64 ba)
        (try simp only [Act.put, List.setIfInBounds_toArray, List.set_cons_zero, List.set_cons_succ])
        refine wpAnyH_ready (rs := [9]) (by kernel_rfl) (by simp) ?_
        refine AllReadyH.cons (o := _) (op_at rfl) (fun K hK => ?_) AllReadyH.nil
        have f0 := Y2.frozen 0; have f1 := Y2.frozen 1; have f2 := Y2.frozen 2; have z0 := Y2.val 0 rfl; have z1 := Y2.val 1 rfl; have z2 := Y2.val 2 rfl
        go_simp
        refine hK.out _ _ ?_ (fun hHeld => ?_)
        focus exact planStore _ _ _ hHeld n2gt (Nat.le_refl _)
        clear f0 f1 f2 z0 z1 z2 hK K
        have Y2 := three_set Y2 (.int .i64 kb) (.int .i64 ab) (.int .i64 bb)
        have Y1 := three_other Y1 (n := n2) (by omega) (.int .i64 kb) (.int .i64 ab) (.int .i64 bb)
        (try simp only [Act.put, List.setIfInBounds_toArray, List.set_cons_zero, List.set_cons_succ])
        refine wpAnyH_done (by kernel_rfl) ?_ _
        go_wp2
        go_meet
        case rel => exact ⟨_, _, rfl, rfl, Y1, Y2, hHeld.1, hHeld.2⟩
    refine AllReadyH.cons (o := _) (op_at rfl) (fun K hK => ?_) AllReadyH.nil
    go_simp
    refine hK.out _ _ ?_ (fun hHeld' => ?_)
    focus exact planKeep hHeld ((Below.refl _ _).alloc (Nat.le_refl _) _)
    have n2gt := World.block_lt_of_cell? _ _ hHeld.1.1
    have Y2 := Blk.new wd #[.int .i64 0, .int .i64 0, .int .i64 0] 33
    clear hHeld hK K
    have hHeld := hHeld'
    clear hHeld'
    generalize wd.alloc (.cells #[.int .i64 0, .int .i64 0, .int .i64 0] 33) = u26 at *
    generalize wd.heap.size = n2 at *
    (try simp only [Act.put, List.setIfInBounds_toArray, List.set_cons_zero, List.set_cons_succ])
    refine wpAnyH_ready (rs := [2, 6]) (by kernel_rfl) (by simp) ?_
    refine AllReadyH.cons (o := _) (op_at rfl) (fun K hK => ?_) ?_
    focus
      go_simp
      go_at_call 7
      refine (FA.out _).mono ?_
      rintro e v27 ⟨rfl, hbk⟩
      go_wp2_with fail
      refine hK.out _ _ ?_ (fun hHeld => ?_)
      focus exact planKeep hHeld hbk
      have Y2 := Y2.grew hbk
      clear hK K hbk
      (try simp only [Act.put, List.setIfInBounds_toArray, List.set_cons_zero, List.set_cons_succ])
      refine wpAnyH_ready (rs := [5, 6]) (by kernel_rfl) (by simp) ?_
      refine AllReadyH.cons (o := _) (op_at rfl) (fun K hK => ?_) ?_
      focus
        go_simp
        go_at_call 7
        refine (FB.out _).mono ?_
        rintro e v28 ⟨rfl, hbk⟩
        go_wp2_with fail
        refine hK.out _ _ ?_ (fun hHeld => ?_)
        focus exact planKeep hHeld hbk
        have Y2 := Y2.grew hbk
        clear hK K hbk
        (try simp only [Act.put, List.setIfInBounds_toArray, List.set_cons_zero, List.set_cons_succ])
        refine wpAnyH_ready (rs := [6]) (by kernel_rfl) (by simp) ?_
        refine AllReadyH.cons (o := _) (op_at rfl) (fun K hK => ?_) AllReadyH.nil
        go_simp
        refine hK.out _ _ ?_ (fun hHeld' => ?_)
        focus exact planKeep hHeld ((Below.refl _ _).alloc (Nat.le_refl _) _)
        have n1gt := World.block_lt_of_cell? _ _ hHeld.1.1
        have hne := Y2.lt
        have Y2 := Y2.alloc (.cells #[.int .i64 0, .int .i64 0, .int .i64 0] 33)
        have Y1 := Blk.new v28 #[.int .i64 0, .int .i64 0, .int .i64 0] 33
        clear hHeld hK K
        have hHeld := hHeld'
        clear hHeld'
        generalize v28.alloc (.cells #[.int .i64 0, .int .i64 0, .int .i64 0] 33) = u29 at *
        generalize v28.heap.size = n1 at *
        (try simp only [Act.put, List.setIfInBounds_toArray, List.set_cons_zero, List.set_cons_succ])
        as_aux_lemma =>
          refine wpAnyH_ready (rs := [8]) (by kernel_rfl) (by simp) ?_
          refine AllReadyH.cons (o := _) (op_at rfl) (fun K hK => ?_) AllReadyH.nil
          have f0 := Y1.frozen 0; have f1 := Y1.frozen 1; have f2 := Y1.frozen 2; have z0 := Y1.val 0 rfl; have z1 := Y1.val 1 rfl; have z2 := Y1.val 2 rfl
          go_simp
          refine hK.out _ _ ?_ (fun hHeld => ?_)
          focus exact planStore _ _ _ hHeld n1gt (Nat.le_refl _)
          clear f0 f1 f2 z0 z1 z2 hK K
          have Y1 := three_set Y1 (.int .i64 ka) (.int .i64 aa) (.int .i64 ba)
          have Y2 := three_other Y2 (n := n1) (by omega) (.int .i64 ka) (.int .i64 aa) (.int .i64 ba)
          (try simp only [Act.put, List.setIfInBounds_toArray, List.set_cons_zero, List.set_cons_succ])
          refine wpAnyH_ready (rs := [9]) (by kernel_rfl) (by simp) ?_
          refine AllReadyH.cons (o := _) (op_at rfl) (fun K hK => ?_) AllReadyH.nil
          have f0 := Y2.frozen 0; have f1 := Y2.frozen 1; have f2 := Y2.frozen 2; have z0 := Y2.val 0 rfl; have z1 := Y2.val 1 rfl; have z2 := Y2.val 2 rfl
          go_simp
          refine hK.out _ _ ?_ (fun hHeld => ?_)
          focus exact planStore _ _ _ hHeld n2gt (Nat.le_refl _)
          clear f0 f1 f2 z0 z1 z2 hK K
          have Y2 := three_set Y2 (.int .i64 kb) (.int .i64 ab) (.int .i64 bb)
          have Y1 := three_other Y1 (n := n2) (by omega) (.int .i64 kb) (.int .i64 ab) (.int .i64 bb)
          (try simp only [Act.put, List.setIfInBounds_toArray, List.set_cons_zero, List.set_cons_succ])
          refine wpAnyH_done (by kernel_rfl) ?_ _
          go_wp2
          go_meet
          case rel => exact ⟨_, _, rfl, rfl, Y1, Y2, hHeld.1, hHeld.2⟩
      refine AllReadyH.cons (o := _) (op_at rfl) (fun K hK => ?_) AllReadyH.nil
      go_simp
      refine hK.out _ _ ?_ (fun hHeld' => ?_)
      focus exact planKeep hHeld ((Below.refl _ _).alloc (Nat.le_refl _) _)
      have n1gt := World.block_lt_of_cell? _ _ hHeld.1.1
      have hne := Y2.lt
      have Y2 := Y2.alloc (.cells #[.int .i64 0, .int .i64 0, .int .i64 0] 33)
      have Y1 := Blk.new v27 #[.int .i64 0, .int .i64 0, .int .i64 0] 33
      clear hHeld hK K
      have hHeld := hHeld'
      clear hHeld'
      generalize v27.alloc (.cells #[.int .i64 0, .int .i64 0, .int .i64 0] 33) = u30 at *
      generalize v27.heap.size = n1 at *
      (try simp only [Act.put, List.setIfInBounds_toArray, List.set_cons_zero, List.set_cons_succ])
      refine wpAnyH_ready (rs := [5]) (by kernel_rfl) (by simp) ?_
      refine AllReadyH.cons (o := _) (op_at rfl) (fun K hK => ?_) AllReadyH.nil
      go_simp
      go_at_call 7
      refine (FB.out _).mono ?_
      rintro e v31 ⟨rfl, hbk⟩
      go_wp2_with fail
      refine hK.out _ _ ?_ (fun hHeld => ?_)
      focus exact planKeep hHeld hbk
      have Y2 := Y2.grew hbk
      have Y1 := Y1.grew hbk
      clear hK K hbk
      (try simp only [Act.put, List.setIfInBounds_toArray, List.set_cons_zero, List.set_cons_succ])
      as_aux_lemma =>
        refine wpAnyH_ready (rs := [8]) (by kernel_rfl) (by simp) ?_
        refine AllReadyH.cons (o := _) (op_at rfl) (fun K hK => ?_) AllReadyH.nil
        have f0 := Y1.frozen 0; have f1 := Y1.frozen 1; have f2 := Y1.frozen 2; have z0 := Y1.val 0 rfl; have z1 := Y1.val 1 rfl; have z2 := Y1.val 2 rfl
        go_simp
        refine hK.out _ _ ?_ (fun hHeld => ?_)
        focus exact planStore _ _ _ hHeld n1gt (Nat.le_refl _)
        clear f0 f1 f2 z0 z1 z2 hK K
        have Y1 := three_set Y1 (.int .i64 ka) (.int .i64 aa) (.int .i64 ba)
        have Y2 := three_other Y2 (n := n1) (by omega) (.int .i64 ka) (.int .i64 aa) (.int .i64 ba)
        (try simp only [Act.put, List.setIfInBounds_toArray, List.set_cons_zero, List.set_cons_succ])
        refine wpAnyH_ready (rs := [9]) (by kernel_rfl) (by simp) ?_
        refine AllReadyH.cons (o := _) (op_at rfl) (fun K hK => ?_) AllReadyH.nil
        have f0 := Y2.frozen 0; have f1 := Y2.frozen 1; have f2 := Y2.frozen 2; have z0 := Y2.val 0 rfl; have z1 := Y2.val 1 rfl; have z2 := Y2.val 2 rfl
        go_simp
        refine hK.out _ _ ?_ (fun hHeld => ?_)
        focus exact planStore _ _ _ hHeld n2gt (Nat.le_refl _)
        clear f0 f1 f2 z0 z1 z2 hK K
        have Y2 := three_set Y2 (.int .i64 kb) (.int .i64 ab) (.int .i64 bb)
        have Y1 := three_other Y1 (n := n2) (by omega) (.int .i64 kb) (.int .i64 ab) (.int .i64 bb)
        (try simp only [Act.put, List.setIfInBounds_toArray, List.set_cons_zero, List.set_cons_succ])
        refine wpAnyH_done (by kernel_rfl) ?_ _
        go_wp2
        go_meet
        case rel => exact ⟨_, _, rfl, rfl, Y1, Y2, hHeld.1, hHeld.2⟩
    refine AllReadyH.cons (o := _) (op_at rfl) (fun K hK => ?_) AllReadyH.nil
    go_simp
    refine hK.out _ _ ?_ (fun hHeld' => ?_)
    focus exact planKeep hHeld ((Below.refl _ _).alloc (Nat.le_refl _) _)
    have n1gt := World.block_lt_of_cell? _ _ hHeld.1.1
    have hne := Y2.lt
    have Y2 := Y2.alloc (.cells #[.int .i64 0, .int .i64 0, .int .i64 0] 33)
    have Y1 := Blk.new u26 #[.int .i64 0, .int .i64 0, .int .i64 0] 33
    clear hHeld hK K
    have hHeld := hHeld'
    clear hHeld'
    generalize u26.alloc (.cells #[.int .i64 0, .int .i64 0, .int .i64 0] 33) = u32 at *
    generalize u26.heap.size = n1 at *
    (try simp only [Act.put, List.setIfInBounds_toArray, List.set_cons_zero, List.set_cons_succ])
    refine wpAnyH_ready (rs := [2]) (by kernel_rfl) (by simp) ?_
    refine AllReadyH.cons (o := _) (op_at rfl) (fun K hK => ?_) AllReadyH.nil
    go_simp
    go_at_call 7
    refine (FA.out _).mono ?_
    rintro e v33 ⟨rfl, hbk⟩
    go_wp2_with fail
    refine hK.out _ _ ?_ (fun hHeld => ?_)
    focus exact planKeep hHeld hbk
    have Y2 := Y2.grew hbk
    have Y1 := Y1.grew hbk
    clear hK K hbk
    (try simp only [Act.put, List.setIfInBounds_toArray, List.set_cons_zero, List.set_cons_succ])
    refine wpAnyH_ready (rs := [5]) (by kernel_rfl) (by simp) ?_
    refine AllReadyH.cons (o := _) (op_at rfl) (fun K hK => ?_) AllReadyH.nil
    go_simp
    go_at_call 7
    refine (FB.out _).mono ?_
    rintro e v34 ⟨rfl, hbk⟩
    go_wp2_with fail
    refine hK.out _ _ ?_ (fun hHeld => ?_)
    focus exact planKeep hHeld hbk
    have Y2 := Y2.grew hbk
    have Y1 := Y1.grew hbk
    clear hK K hbk
    (try simp only [Act.put, List.setIfInBounds_toArray, List.set_cons_zero, List.set_cons_succ])
    as_aux_lemma =>
      refine wpAnyH_ready (rs := [8]) (by kernel_rfl) (by simp) ?_
      refine AllReadyH.cons (o := _) (op_at rfl) (fun K hK => ?_) AllReadyH.nil
      have f0 := Y1.frozen 0; have f1 := Y1.frozen 1; have f2 := Y1.frozen 2; have z0 := Y1.val 0 rfl; have z1 := Y1.val 1 rfl; have z2 := Y1.val 2 rfl
      go_simp
      refine hK.out _ _ ?_ (fun hHeld => ?_)
      focus exact planStore _ _ _ hHeld n1gt (Nat.le_refl _)
      clear f0 f1 f2 z0 z1 z2 hK K
      have Y1 := three_set Y1 (.int .i64 ka) (.int .i64 aa) (.int .i64 ba)
      have Y2 := three_other Y2 (n := n1) (by omega) (.int .i64 ka) (.int .i64 aa) (.int .i64 ba)
      (try simp only [Act.put, List.setIfInBounds_toArray, List.set_cons_zero, List.set_cons_succ])
      refine wpAnyH_ready (rs := [9]) (by kernel_rfl) (by simp) ?_
      refine AllReadyH.cons (o := _) (op_at rfl) (fun K hK => ?_) AllReadyH.nil
      have f0 := Y2.frozen 0; have f1 := Y2.frozen 1; have f2 := Y2.frozen 2; have z0 := Y2.val 0 rfl; have z1 := Y2.val 1 rfl; have z2 := Y2.val 2 rfl
      go_simp
      refine hK.out _ _ ?_ (fun hHeld => ?_)
      focus exact planStore _ _ _ hHeld n2gt (Nat.le_refl _)
      clear f0 f1 f2 z0 z1 z2 hK K
      have Y2 := three_set Y2 (.int .i64 kb) (.int .i64 ab) (.int .i64 bb)
      have Y1 := three_other Y1 (n := n2) (by omega) (.int .i64 kb) (.int .i64 ab) (.int .i64 bb)
      (try simp only [Act.put, List.setIfInBounds_toArray, List.set_cons_zero, List.set_cons_succ])
      refine wpAnyH_done (by kernel_rfl) ?_ _
      go_wp2
      go_meet
      case rel => exact ⟨_, _, rfl, rfl, Y1, Y2, hHeld.1, hHeld.2⟩
  case rest =>
    obtain ⟨n1, n2, rfl, rfl, Y1, Y2, hP, hB⟩ := hcut
    have hCa : a < baseI P T R + 64 * P := by omega
    have hCb : b < baseI P T R + 64 * P := by omega
    obtain ⟨hka, haa, hba, hkb, hab, hbb⟩ := HF.out
    have fa := pos_find hR ha0 hCa
    have fb := pos_find hR hb0 hCb
    rw [hka, haa, hba] at fa
    rw [hkb, hab, hbb] at fb
    clear hka haa hba hkb hab hbb HF FA FB N LA CE c1 c2 c3 c4 hma hmb ta tb k1 k2 k3 k4 hcw hC1 hC64 hCn hC0 ha1 hb1
    have x0 := Y1.val 0 rfl; have x1 := Y1.val 1 rfl; have x2 := Y1.val 2 rfl
    have y0 := Y2.val 0 rfl; have y1 := Y2.val 1 rfl; have y2 := Y2.val 2 rfl
    have hEq := fun W => eq_lspot W ka aa ba kb ab bb
    have hNe := fun W => ne_lspot W ka aa ba 0 0 0
    have hG := guard_lspot
    have hBB := B1.trans (hB.mono B1.size)
    obtain ⟨d0, d1, d2⟩ := hP
    cases hE : (ka == kb && (aa == ab && ba == bb)) with
    | false =>
      rcases fa with ⟨g1, g2, g3, g4⟩ | ⟨hok, hpos⟩
      · subst g1; subst g2; subst g3
        clear fb
        by_cases h8 : a < 8
        · as_aux_lemma =>
            go_wp2
            go_ret
            exact ⟨by first | rfl | exact ret_bool (by simp), hBB⟩
        · as_aux_lemma =>
            have hba : a < baseI P T R := by omega
            have BA := Lib.hid (fun W => base_yes P T R W hR)
            clear g4
            generalize baseI P T R = z at *
            go_wp2_with fail
            refine (BA.out _).mono ?_; rintro e w5 ⟨rfl, hb5⟩
            have hBB := hBB.trans (hb5.mono hBB.size)
            go_wp2
            go_ret
            exact ⟨by first | rfl | exact ret_bool (by simp; omega), hBB⟩
      · have hw := where_pos hR hok
        rw [hpos] at hw
        rcases id hok with ⟨hk, _, _, hj⟩ | ⟨hk, _, _, hj⟩ | ⟨hk, hi0, hi1, hj0, hj1⟩ | ⟨hk, hi0, hi1, hj0, hj1⟩ | ⟨hk, _, _, hj⟩ | ⟨hk, _, _, hj⟩ | ⟨hk, _, _, hj⟩ | ⟨hk, _⟩
        · as_aux_lemma =>
            subst hk
            subst hj
            clear hok fb
            rw [pos_1] at hpos
            subst hpos
            clear hw
            go_wp2
            go_ret
            exact ⟨by first | rfl | exact ret_bool (by simp), hBB⟩
        · as_aux_lemma =>
            subst hk
            subst hj
            clear hok fb
            rw [where_2] at hw
            have G := fun W => global_any P T R aa W
            rw [hw] at G
            have G' := Lib.hid G
            clear G hw hpos
            go_wp2_with fail
            refine (G'.out _).mono ?_; rintro e w5 ⟨rfl, hb5⟩
            have hBB := hBB.trans (hb5.mono hBB.size)
            go_wp2
            go_ret
            exact ⟨by first | rfl | exact ret_bool (by simp), hBB⟩
        · as_aux_lemma =>
            subst hk
            clear hok fb
            rw [where_3 _ _ _ _ _ hj0 hj1] at hw
            clear hpos
            have O0 := Lib.hid (fun W => status_any P T R aa W)
            have O1 := Lib.hid (fun W => ack_any P T R aa W)
            have O2 := Lib.hid (fun W => result_any P T R aa W)
            have O3 := Lib.hid (fun W => head_any P T R aa W)
            have O4 := Lib.hid (fun W => tail_any P T R aa W)
            generalize hv0 : ownI P T R aa 0 = v0 at *
            generalize hv1 : ownI P T R aa 1 = v1 at *
            generalize hv2 : ownI P T R aa 2 = v2 at *
            generalize hv3 : ownI P T R aa 3 = v3 at *
            generalize hv4 : ownI P T R aa 4 = v4 at *
            have hS0 := And.intro (And.intro (And.intro d0 (And.intro d1 d2)) (And.intro x0 (And.intro x1 x2))) hB
            go_wp2_with fail
            refine wp_region_held_drew (S := (fun w' => ((w'.cell? ⟨w1.heap.size, 0, none⟩ = some (.int .i64 P) ∧ w'.cell? ⟨w1.heap.size, 1, none⟩ = some (.int .i64 T) ∧ w'.cell? ⟨w1.heap.size, 2, none⟩ = some (.int .i64 R)) ∧ (w'.cell? ⟨n1, 0, none⟩ = some (.int .i64 3) ∧ w'.cell? ⟨n1, 1, none⟩ = some (.int .i64 aa) ∧ w'.cell? ⟨n1, 2, none⟩ = some (.int .i64 ba))) ∧ Below w1.heap.size w1 w')) (by kernel_rfl) ⟨hS0.1, hS0.2.drew⟩ (fun hHeld => ?_)
            refine wpAnyH_take (i := 0) (oi := _) (v := ?_) (op_at rfl) (by kernel_rfl) (by kernel_rfl) (by kernel_rfl) (fun _ _ _ h => h) (Or.inl ⟨by rfl, ?_⟩) hHeld ?_
            rotate_left 1
            focus (intro W hSw; (try dsimp only at hSw); go_simp; (try (with_reducible rfl)))
            (try simp only [Act.put, List.setIfInBounds_toArray, List.set_cons_zero, List.set_cons_succ])
            refine wpAnyH_take (i := 1) (oi := _) (v := ?_) (op_at rfl) (by kernel_rfl) (by kernel_rfl) (by kernel_rfl) (fun _ _ _ h => h) (Or.inl ⟨by rfl, ?_⟩) hHeld ?_
            rotate_left 1
            focus (intro W hSw; (try dsimp only at hSw); go_simp; (try (with_reducible rfl)))
            (try simp only [Act.put, List.setIfInBounds_toArray, List.set_cons_zero, List.set_cons_succ])
            refine wpAnyH_take (i := 2) (oi := _) (v := ?_) (op_at rfl) (by kernel_rfl) (by kernel_rfl) (by kernel_rfl) (fun _ _ _ h => h) (Or.inl ⟨by rfl, ?_⟩) hHeld ?_
            rotate_left 1
            focus (intro W hSw; (try dsimp only at hSw); go_simp; (try (with_reducible rfl)))
            (try simp only [Act.put, List.setIfInBounds_toArray, List.set_cons_zero, List.set_cons_succ])
            refine wpAnyH_take (i := 4) (oi := _) (v := ?_) (op_at rfl) (by kernel_rfl) (by kernel_rfl) (by kernel_rfl) (fun _ _ _ h => h) (Or.inl ⟨by rfl, ?_⟩) hHeld ?_
            rotate_left 1
            focus (intro W hSw; (try dsimp only at hSw); go_simp; (try (with_reducible rfl)))
            (try simp only [Act.put, List.setIfInBounds_toArray, List.set_cons_zero, List.set_cons_succ])
            refine wpAnyH_take (i := 5) (oi := _) (v := ?_) (op_at rfl) (by kernel_rfl) (by kernel_rfl) (by kernel_rfl) (fun _ _ _ h => h) (Or.inl ⟨by rfl, ?_⟩) hHeld ?_
            rotate_left 1
            focus (intro W hSw; (try dsimp only at hSw); go_simp; (try (with_reducible rfl)))
            (try simp only [Act.put, List.setIfInBounds_toArray, List.set_cons_zero, List.set_cons_succ])
            refine wpAnyH_take (i := 6) (oi := _) (v := ?_) (op_at rfl) (by kernel_rfl) (by kernel_rfl) (by kernel_rfl) (fun _ _ _ h => h) (Or.inl ⟨by rfl, ?_⟩) hHeld ?_
            rotate_left 1
            focus (intro W hSw; (try dsimp only at hSw); go_simp; (try (with_reducible rfl)))
            (try simp only [Act.put, List.setIfInBounds_toArray, List.set_cons_zero, List.set_cons_succ])
            refine wpAnyH_take (i := 8) (oi := _) (v := ?_) (op_at rfl) (by kernel_rfl) (by kernel_rfl) (by kernel_rfl) (fun _ _ _ h => h) (Or.inl ⟨by rfl, ?_⟩) hHeld ?_
            rotate_left 1
            focus (intro W hSw; (try dsimp only at hSw); go_simp; (try (with_reducible rfl)))
            (try simp only [Act.put, List.setIfInBounds_toArray, List.set_cons_zero, List.set_cons_succ])
            refine wpAnyH_take (i := 9) (oi := _) (v := ?_) (op_at rfl) (by kernel_rfl) (by kernel_rfl) (by kernel_rfl) (fun _ _ _ h => h) (Or.inl ⟨by rfl, ?_⟩) hHeld ?_
            rotate_left 1
            focus (intro W hSw; (try dsimp only at hSw); go_simp; (try (with_reducible rfl)))
            (try simp only [Act.put, List.setIfInBounds_toArray, List.set_cons_zero, List.set_cons_succ])
            refine wpAnyH_take (i := 10) (oi := _) (v := ?_) (op_at rfl) (by kernel_rfl) (by kernel_rfl) (by kernel_rfl) (fun _ _ _ h => h) (Or.inl ⟨by rfl, ?_⟩) hHeld ?_
            rotate_left 1
            focus (intro W hSw; (try dsimp only at hSw); go_simp; (try (with_reducible rfl)))
            (try simp only [Act.put, List.setIfInBounds_toArray, List.set_cons_zero, List.set_cons_succ])
            refine wpAnyH_take (i := 12) (oi := _) (v := ?_) (op_at rfl) (by kernel_rfl) (by kernel_rfl) (by kernel_rfl) (fun _ _ _ h => h) (Or.inl ⟨by rfl, ?_⟩) hHeld ?_
            rotate_left 1
            focus (intro W hSw; (try dsimp only at hSw); go_simp; (try (with_reducible rfl)))
            (try simp only [Act.put, List.setIfInBounds_toArray, List.set_cons_zero, List.set_cons_succ])
            refine wpAnyH_take (i := 13) (oi := _) (v := ?_) (op_at rfl) (by kernel_rfl) (by kernel_rfl) (by kernel_rfl) (fun _ _ _ h => h) (Or.inl ⟨by rfl, ?_⟩) hHeld ?_
            rotate_left 1
            focus (intro W hSw; (try dsimp only at hSw); go_simp; (try (with_reducible rfl)))
            (try simp only [Act.put, List.setIfInBounds_toArray, List.set_cons_zero, List.set_cons_succ])
            refine wpAnyH_take (i := 14) (oi := _) (v := ?_) (op_at rfl) (by kernel_rfl) (by kernel_rfl) (by kernel_rfl) (fun _ _ _ h => h) (Or.inl ⟨by rfl, ?_⟩) hHeld ?_
            rotate_left 1
            focus (intro W hSw; (try dsimp only at hSw); go_simp; (try (with_reducible rfl)))
            (try simp only [Act.put, List.setIfInBounds_toArray, List.set_cons_zero, List.set_cons_succ])
            refine wpAnyH_take (i := 16) (oi := _) (v := ?_) (op_at rfl) (by kernel_rfl) (by kernel_rfl) (by kernel_rfl) (fun _ _ _ h => h) (Or.inl ⟨by rfl, ?_⟩) hHeld ?_
            rotate_left 1
            focus (intro W hSw; (try dsimp only at hSw); go_simp; (try (with_reducible rfl)))
            (try simp only [Act.put, List.setIfInBounds_toArray, List.set_cons_zero, List.set_cons_succ])
            refine wpAnyH_take (i := 17) (oi := _) (v := ?_) (op_at rfl) (by kernel_rfl) (by kernel_rfl) (by kernel_rfl) (fun _ _ _ h => h) (Or.inl ⟨by rfl, ?_⟩) hHeld ?_
            rotate_left 1
            focus (intro W hSw; (try dsimp only at hSw); go_simp; (try (with_reducible rfl)))
            (try simp only [Act.put, List.setIfInBounds_toArray, List.set_cons_zero, List.set_cons_succ])
            refine wpAnyH_take (i := 18) (oi := _) (v := ?_) (op_at rfl) (by kernel_rfl) (by kernel_rfl) (by kernel_rfl) (fun _ _ _ h => h) (Or.inl ⟨by rfl, ?_⟩) hHeld ?_
            rotate_left 1
            focus (intro W hSw; (try dsimp only at hSw); go_simp; (try (with_reducible rfl)))
            (try simp only [Act.put, List.setIfInBounds_toArray, List.set_cons_zero, List.set_cons_succ])
            refine wpAnyH_ready (rs := [3]) (by kernel_rfl) (by simp) ?_
            refine AllReadyH.cons (o := _) (op_at rfl) (fun K hK => ?_) AllReadyH.nil
            go_simp
            go_at_call 10
            refine (O0.out _).mono ?_
            rintro e w9 ⟨rfl, hbk⟩
            go_wp2_with fail
            refine hK.out _ _ ?_ (fun hHeld => ?_)
            focus exact planKeep2 hHeld hbk
            clear hK K
            (try simp only [Act.put, List.setIfInBounds_toArray, List.set_cons_zero, List.set_cons_succ])
            as_aux_lemma =>
              refine wpAnyH_ready (rs := [7]) (by kernel_rfl) (by simp) ?_
              refine AllReadyH.cons (o := _) (op_at rfl) (fun K hK => ?_) AllReadyH.nil
              go_simp
              go_at_call 11
              refine (O1.out _).mono ?_
              rintro e w9 ⟨rfl, hbk⟩
              go_wp2_with fail
              refine hK.out _ _ ?_ (fun hHeld => ?_)
              focus exact planKeep2 hHeld hbk
              clear hK K
              (try simp only [Act.put, List.setIfInBounds_toArray, List.set_cons_zero, List.set_cons_succ])
              as_aux_lemma =>
                refine wpAnyH_ready (rs := [11]) (by kernel_rfl) (by simp) ?_
                refine AllReadyH.cons (o := _) (op_at rfl) (fun K hK => ?_) AllReadyH.nil
                go_simp
                go_at_call 12
                refine (O2.out _).mono ?_
                rintro e w9 ⟨rfl, hbk⟩
                go_wp2_with fail
                refine hK.out _ _ ?_ (fun hHeld => ?_)
                focus exact planKeep2 hHeld hbk
                clear hK K
                (try simp only [Act.put, List.setIfInBounds_toArray, List.set_cons_zero, List.set_cons_succ])
                as_aux_lemma =>
                  refine wpAnyH_ready (rs := [15]) (by kernel_rfl) (by simp) ?_
                  refine AllReadyH.cons (o := _) (op_at rfl) (fun K hK => ?_) AllReadyH.nil
                  go_simp
                  go_at_call 13
                  refine (O3.out _).mono ?_
                  rintro e w9 ⟨rfl, hbk⟩
                  go_wp2_with fail
                  refine hK.out _ _ ?_ (fun hHeld => ?_)
                  focus exact planKeep2 hHeld hbk
                  clear hK K
                  (try simp only [Act.put, List.setIfInBounds_toArray, List.set_cons_zero, List.set_cons_succ])
                  as_aux_lemma =>
                    refine wpAnyH_ready (rs := [19]) (by kernel_rfl) (by simp) ?_
                    refine AllReadyH.cons (o := _) (op_at rfl) (fun K hK => ?_) AllReadyH.nil
                    go_simp
                    go_at_call 14
                    refine (O4.out _).mono ?_
                    rintro e w9 ⟨rfl, hbk⟩
                    go_wp2_with fail
                    refine hK.out _ _ ?_ (fun hHeld => ?_)
                    focus exact planKeep2 hHeld hbk
                    clear hK K
                    (try simp only [Act.put, List.setIfInBounds_toArray, List.set_cons_zero, List.set_cons_succ])
                    as_aux_lemma =>
                      refine wpAnyH_ready (rs := [20]) (by kernel_rfl) (by simp) ?_
                      refine AllReadyH.cons (o := _) (op_at rfl) (fun K hK => ?_) AllReadyH.nil
                      go_simp
                      refine hK.out _ _ ?_ (fun hHeld => ?_)
                      focus exact planKeep2 hHeld ((Below.refl _ _).alloc (Nat.le_refl _) _)
                      clear hK K
                      (try simp only [Act.put, List.setIfInBounds_toArray, List.set_cons_zero, List.set_cons_succ])
                      as_aux_lemma =>
                        refine wpAnyH_take (i := 21) (oi := _) (v := ?_) (op_at rfl) (by kernel_rfl) (by kernel_rfl) (by kernel_rfl) (fun _ _ _ h => h) (Or.inl ⟨by rfl, ?_⟩) hHeld ?_
                        rotate_left 1
                        focus (intro W hSw; (try dsimp only at hSw); go_simp; (try (with_reducible rfl)))
                        (try simp only [Act.put, List.setIfInBounds_toArray, List.set_cons_zero, List.set_cons_succ])
                        refine wpAnyH_done (by kernel_rfl) ?_ _
                        have c6 := planHeld2 hHeld
                        obtain ⟨⟨p60, p61, p62⟩, ⟨q60, q61, q62⟩⟩ := c6.1
                        have hBB6 := B1.trans (c6.2.mono B1.size)
                        clear hHeld hS0 d0 d1 d2 x0 x1 x2 y0 y1 y2 Y1 Y2 O0 O1 O2 O3 O4
                        have h5 : ba = 0 ∨ ba = 1 ∨ ba = 2 ∨ ba = 3 ∨ ba = 4 := by omega
                        rcases h5 with rfl | rfl | rfl | rfl | rfl
                        · as_aux_lemma =>
                            have hvt : v0 = a := hv0.symm.trans hw
                            subst hvt
                            clear hw hv0 hv1 hv2 hv3 hv4
                            go_wp2
                            go_ret
                            exact ⟨by first | rfl | exact ret_bool (by simp), hBB6⟩
                        · as_aux_lemma =>
                            have hvt : v1 = a := hv1.symm.trans hw
                            subst hvt
                            clear hw hv0 hv1 hv2 hv3 hv4
                            go_wp2
                            go_ret
                            exact ⟨by first | rfl | exact ret_bool (by simp), hBB6⟩
                        · as_aux_lemma =>
                            have hvt : v2 = a := hv2.symm.trans hw
                            subst hvt
                            clear hw hv0 hv1 hv2 hv3 hv4
                            go_wp2
                            go_ret
                            exact ⟨by first | rfl | exact ret_bool (by simp), hBB6⟩
                        · as_aux_lemma =>
                            have hvt : v3 = a := hv3.symm.trans hw
                            subst hvt
                            clear hw hv0 hv1 hv2 hv3 hv4
                            go_wp2
                            go_ret
                            exact ⟨by first | rfl | exact ret_bool (by simp), hBB6⟩
                        · as_aux_lemma =>
                            have hvt : v4 = a := hv4.symm.trans hw
                            subst hvt
                            clear hw hv0 hv1 hv2 hv3 hv4
                            go_wp2
                            go_ret
                            exact ⟨by first | rfl | exact ret_bool (by simp), hBB6⟩
        · as_aux_lemma =>
            subst hk
            clear hok fb
            have hmod : ba % R = ba := Int.emod_eq_of_lt hj0 hj1
            have hb64 : IntKind.u64.wrap ba = ba := by rw [IntKind.wrap_u64]; omega
            have hw := (where_4 P T R aa ba hR).symm.trans ((by rw [hmod] : whereI P T R 4 aa (ba % R) = whereI P T R 4 aa ba).trans hw)
            have G := fun W => slot_any P T R aa ba W (by unfold U64; omega)
            rw [hw] at G
            have G' := Lib.hid G
            clear G hw hpos
            go_wp2_with fail
            refine (G'.out _).mono ?_; rintro e w5 ⟨rfl, hb5⟩
            have hBB := hBB.trans (hb5.mono hBB.size)
            go_wp2
            go_ret
            exact ⟨by first | rfl | exact ret_bool (by simp), hBB⟩
        · as_aux_lemma =>
            subst hk
            subst hj
            clear hok fb
            rw [where_5] at hw
            have G := fun W => entry_any P T R aa W
            rw [hw] at G
            have G' := Lib.hid G
            clear G hw hpos
            go_wp2_with fail
            refine (G'.out _).mono ?_; rintro e w5 ⟨rfl, hb5⟩
            have hBB := hBB.trans (hb5.mono hBB.size)
            go_wp2
            go_ret
            exact ⟨by first | rfl | exact ret_bool (by simp), hBB⟩
        · as_aux_lemma =>
            subst hk
            subst hj
            clear hok fb
            rw [where_6] at hw
            have G := fun W => alloc_any P T R aa W
            rw [hw] at G
            have G' := Lib.hid G
            clear G hw hpos
            go_wp2_with fail
            refine (G'.out _).mono ?_; rintro e w5 ⟨rfl, hb5⟩
            have hBB := hBB.trans (hb5.mono hBB.size)
            go_wp2
            go_ret
            exact ⟨by first | rfl | exact ret_bool (by simp), hBB⟩
        · as_aux_lemma =>
            subst hk
            subst hj
            clear hok fb
            rw [where_7] at hw
            have G := fun W => mark_any P T R aa W
            rw [hw] at G
            have G' := Lib.hid G
            clear G hw hpos
            go_wp2_with fail
            refine (G'.out _).mono ?_; rintro e w5 ⟨rfl, hb5⟩
            have hBB := hBB.trans (hb5.mono hBB.size)
            go_wp2
            go_ret
            exact ⟨by first | rfl | exact ret_bool (by simp), hBB⟩
        · as_aux_lemma =>
            subst hk
            clear hok fb
            rw [where_88] at hw
            have G := fun W => addr_any P T R aa ba W
            rw [hw] at G
            have G' := Lib.hid G
            clear G hw hpos
            go_wp2_with fail
            refine (G'.out _).mono ?_; rintro e w5 ⟨rfl, hb5⟩
            have hBB := hBB.trans (hb5.mono hBB.size)
            go_wp2
            go_ret
            exact ⟨by first | rfl | exact ret_bool (by simp), hBB⟩
    | true =>
      have hE2 := hE
      simp only [Bool.and_eq_true, beq_iff_eq] at hE2
      obtain ⟨rfl, rfl, rfl⟩ := hE2
      by_cases hk0 : ka = 0
      · rcases id fa with ⟨g1, g2, g3, g4⟩ | ⟨hok, hpos⟩
        · subst g1; subst g2; subst g3
          clear fb
          by_cases h8 : a < 8
          · as_aux_lemma =>
              go_wp2
              go_ret
              exact ⟨by first | rfl | exact ret_bool (by simp), hBB⟩
          · as_aux_lemma =>
              have hba : a < baseI P T R := by omega
              have BA := Lib.hid (fun W => base_yes P T R W hR)
              clear g4
              generalize baseI P T R = z at *
              go_wp2_with fail
              refine (BA.out _).mono ?_; rintro e w5 ⟨rfl, hb5⟩
              have hBB := hBB.trans (hb5.mono hBB.size)
              go_wp2
              go_ret
              exact ⟨by first | rfl | exact ret_bool (by simp; omega), hBB⟩
        · exact absurd hk0 (by unfold okI at hok; omega)
      · have hab : a = b := by
          rcases fa with ⟨g1, _⟩ | ⟨_, hpos⟩
          · exact absurd g1 hk0
          · rcases fb with ⟨g1, _⟩ | ⟨_, hpos2⟩
            · exact absurd g1 hk0
            · exact hpos.symm.trans hpos2
        subst hab
        rcases fa with ⟨g1, g2, g3, g4⟩ | ⟨hok, hpos⟩
        · exact absurd g1 hk0
        · have hw := where_pos hR hok
          rw [hpos] at hw
          rcases id hok with ⟨hk, _, _, hj⟩ | ⟨hk, _, _, hj⟩ | ⟨hk, hi0, hi1, hj0, hj1⟩ | ⟨hk, hi0, hi1, hj0, hj1⟩ | ⟨hk, _, _, hj⟩ | ⟨hk, _, _, hj⟩ | ⟨hk, _, _, hj⟩ | ⟨hk, _⟩
          · as_aux_lemma =>
              subst hk
              subst hj
              clear hok fb
              rw [pos_1] at hpos
              subst hpos
              clear hw
              go_wp2
              go_ret
              exact ⟨by first | rfl | exact ret_bool (by simp), hBB⟩
          · as_aux_lemma =>
              subst hk
              subst hj
              clear hok fb
              rw [where_2] at hw
              have G := fun W => global_any P T R aa W
              rw [hw] at G
              have G' := Lib.hid G
              clear G hw hpos
              go_wp2_with fail
              refine (G'.out _).mono ?_; rintro e w5 ⟨rfl, hb5⟩
              have hBB := hBB.trans (hb5.mono hBB.size)
              go_wp2
              go_ret
              exact ⟨by first | rfl | exact ret_bool (by simp), hBB⟩
          · as_aux_lemma =>
              subst hk
              clear hok fb
              rw [where_3 _ _ _ _ _ hj0 hj1] at hw
              clear hpos
              have O0 := Lib.hid (fun W => status_any P T R aa W)
              have O1 := Lib.hid (fun W => ack_any P T R aa W)
              have O2 := Lib.hid (fun W => result_any P T R aa W)
              have O3 := Lib.hid (fun W => head_any P T R aa W)
              have O4 := Lib.hid (fun W => tail_any P T R aa W)
              generalize hv0 : ownI P T R aa 0 = v0 at *
              generalize hv1 : ownI P T R aa 1 = v1 at *
              generalize hv2 : ownI P T R aa 2 = v2 at *
              generalize hv3 : ownI P T R aa 3 = v3 at *
              generalize hv4 : ownI P T R aa 4 = v4 at *
              have hS0 := And.intro (And.intro (And.intro d0 (And.intro d1 d2)) (And.intro x0 (And.intro x1 x2))) hB
              go_wp2_with fail
              refine wp_region_held_drew (S := (fun w' => ((w'.cell? ⟨w1.heap.size, 0, none⟩ = some (.int .i64 P) ∧ w'.cell? ⟨w1.heap.size, 1, none⟩ = some (.int .i64 T) ∧ w'.cell? ⟨w1.heap.size, 2, none⟩ = some (.int .i64 R)) ∧ (w'.cell? ⟨n1, 0, none⟩ = some (.int .i64 3) ∧ w'.cell? ⟨n1, 1, none⟩ = some (.int .i64 aa) ∧ w'.cell? ⟨n1, 2, none⟩ = some (.int .i64 ba))) ∧ Below w1.heap.size w1 w')) (by kernel_rfl) ⟨hS0.1, hS0.2.drew⟩ (fun hHeld => ?_)
              refine wpAnyH_take (i := 0) (oi := _) (v := ?_) (op_at rfl) (by kernel_rfl) (by kernel_rfl) (by kernel_rfl) (fun _ _ _ h => h) (Or.inl ⟨by rfl, ?_⟩) hHeld ?_
              rotate_left 1
              focus (intro W hSw; (try dsimp only at hSw); go_simp; (try (with_reducible rfl)))
              (try simp only [Act.put, List.setIfInBounds_toArray, List.set_cons_zero, List.set_cons_succ])
              refine wpAnyH_take (i := 1) (oi := _) (v := ?_) (op_at rfl) (by kernel_rfl) (by kernel_rfl) (by kernel_rfl) (fun _ _ _ h => h) (Or.inl ⟨by rfl, ?_⟩) hHeld ?_
              rotate_left 1
              focus (intro W hSw; (try dsimp only at hSw); go_simp; (try (with_reducible rfl)))
              (try simp only [Act.put, List.setIfInBounds_toArray, List.set_cons_zero, List.set_cons_succ])
              refine wpAnyH_take (i := 2) (oi := _) (v := ?_) (op_at rfl) (by kernel_rfl) (by kernel_rfl) (by kernel_rfl) (fun _ _ _ h => h) (Or.inl ⟨by rfl, ?_⟩) hHeld ?_
              rotate_left 1
              focus (intro W hSw; (try dsimp only at hSw); go_simp; (try (with_reducible rfl)))
              (try simp only [Act.put, List.setIfInBounds_toArray, List.set_cons_zero, List.set_cons_succ])
              refine wpAnyH_take (i := 4) (oi := _) (v := ?_) (op_at rfl) (by kernel_rfl) (by kernel_rfl) (by kernel_rfl) (fun _ _ _ h => h) (Or.inl ⟨by rfl, ?_⟩) hHeld ?_
              rotate_left 1
              focus (intro W hSw; (try dsimp only at hSw); go_simp; (try (with_reducible rfl)))
              (try simp only [Act.put, List.setIfInBounds_toArray, List.set_cons_zero, List.set_cons_succ])
              refine wpAnyH_take (i := 5) (oi := _) (v := ?_) (op_at rfl) (by kernel_rfl) (by kernel_rfl) (by kernel_rfl) (fun _ _ _ h => h) (Or.inl ⟨by rfl, ?_⟩) hHeld ?_
              rotate_left 1
              focus (intro W hSw; (try dsimp only at hSw); go_simp; (try (with_reducible rfl)))
              (try simp only [Act.put, List.setIfInBounds_toArray, List.set_cons_zero, List.set_cons_succ])
              refine wpAnyH_take (i := 6) (oi := _) (v := ?_) (op_at rfl) (by kernel_rfl) (by kernel_rfl) (by kernel_rfl) (fun _ _ _ h => h) (Or.inl ⟨by rfl, ?_⟩) hHeld ?_
              rotate_left 1
              focus (intro W hSw; (try dsimp only at hSw); go_simp; (try (with_reducible rfl)))
              (try simp only [Act.put, List.setIfInBounds_toArray, List.set_cons_zero, List.set_cons_succ])
              refine wpAnyH_take (i := 8) (oi := _) (v := ?_) (op_at rfl) (by kernel_rfl) (by kernel_rfl) (by kernel_rfl) (fun _ _ _ h => h) (Or.inl ⟨by rfl, ?_⟩) hHeld ?_
              rotate_left 1
              focus (intro W hSw; (try dsimp only at hSw); go_simp; (try (with_reducible rfl)))
              (try simp only [Act.put, List.setIfInBounds_toArray, List.set_cons_zero, List.set_cons_succ])
              refine wpAnyH_take (i := 9) (oi := _) (v := ?_) (op_at rfl) (by kernel_rfl) (by kernel_rfl) (by kernel_rfl) (fun _ _ _ h => h) (Or.inl ⟨by rfl, ?_⟩) hHeld ?_
              rotate_left 1
              focus (intro W hSw; (try dsimp only at hSw); go_simp; (try (with_reducible rfl)))
              (try simp only [Act.put, List.setIfInBounds_toArray, List.set_cons_zero, List.set_cons_succ])
              refine wpAnyH_take (i := 10) (oi := _) (v := ?_) (op_at rfl) (by kernel_rfl) (by kernel_rfl) (by kernel_rfl) (fun _ _ _ h => h) (Or.inl ⟨by rfl, ?_⟩) hHeld ?_
              rotate_left 1
              focus (intro W hSw; (try dsimp only at hSw); go_simp; (try (with_reducible rfl)))
              (try simp only [Act.put, List.setIfInBounds_toArray, List.set_cons_zero, List.set_cons_succ])
              refine wpAnyH_take (i := 12) (oi := _) (v := ?_) (op_at rfl) (by kernel_rfl) (by kernel_rfl) (by kernel_rfl) (fun _ _ _ h => h) (Or.inl ⟨by rfl, ?_⟩) hHeld ?_
              rotate_left 1
              focus (intro W hSw; (try dsimp only at hSw); go_simp; (try (with_reducible rfl)))
              (try simp only [Act.put, List.setIfInBounds_toArray, List.set_cons_zero, List.set_cons_succ])
              refine wpAnyH_take (i := 13) (oi := _) (v := ?_) (op_at rfl) (by kernel_rfl) (by kernel_rfl) (by kernel_rfl) (fun _ _ _ h => h) (Or.inl ⟨by rfl, ?_⟩) hHeld ?_
              rotate_left 1
              focus (intro W hSw; (try dsimp only at hSw); go_simp; (try (with_reducible rfl)))
              (try simp only [Act.put, List.setIfInBounds_toArray, List.set_cons_zero, List.set_cons_succ])
              refine wpAnyH_take (i := 14) (oi := _) (v := ?_) (op_at rfl) (by kernel_rfl) (by kernel_rfl) (by kernel_rfl) (fun _ _ _ h => h) (Or.inl ⟨by rfl, ?_⟩) hHeld ?_
              rotate_left 1
              focus (intro W hSw; (try dsimp only at hSw); go_simp; (try (with_reducible rfl)))
              (try simp only [Act.put, List.setIfInBounds_toArray, List.set_cons_zero, List.set_cons_succ])
              refine wpAnyH_take (i := 16) (oi := _) (v := ?_) (op_at rfl) (by kernel_rfl) (by kernel_rfl) (by kernel_rfl) (fun _ _ _ h => h) (Or.inl ⟨by rfl, ?_⟩) hHeld ?_
              rotate_left 1
              focus (intro W hSw; (try dsimp only at hSw); go_simp; (try (with_reducible rfl)))
              (try simp only [Act.put, List.setIfInBounds_toArray, List.set_cons_zero, List.set_cons_succ])
              refine wpAnyH_take (i := 17) (oi := _) (v := ?_) (op_at rfl) (by kernel_rfl) (by kernel_rfl) (by kernel_rfl) (fun _ _ _ h => h) (Or.inl ⟨by rfl, ?_⟩) hHeld ?_
              rotate_left 1
              focus (intro W hSw; (try dsimp only at hSw); go_simp; (try (with_reducible rfl)))
              (try simp only [Act.put, List.setIfInBounds_toArray, List.set_cons_zero, List.set_cons_succ])
              refine wpAnyH_take (i := 18) (oi := _) (v := ?_) (op_at rfl) (by kernel_rfl) (by kernel_rfl) (by kernel_rfl) (fun _ _ _ h => h) (Or.inl ⟨by rfl, ?_⟩) hHeld ?_
              rotate_left 1
              focus (intro W hSw; (try dsimp only at hSw); go_simp; (try (with_reducible rfl)))
              (try simp only [Act.put, List.setIfInBounds_toArray, List.set_cons_zero, List.set_cons_succ])
              refine wpAnyH_ready (rs := [3]) (by kernel_rfl) (by simp) ?_
              refine AllReadyH.cons (o := _) (op_at rfl) (fun K hK => ?_) AllReadyH.nil
              go_simp
              go_at_call 10
              refine (O0.out _).mono ?_
              rintro e w9 ⟨rfl, hbk⟩
              go_wp2_with fail
              refine hK.out _ _ ?_ (fun hHeld => ?_)
              focus exact planKeep2 hHeld hbk
              clear hK K
              (try simp only [Act.put, List.setIfInBounds_toArray, List.set_cons_zero, List.set_cons_succ])
              as_aux_lemma =>
                refine wpAnyH_ready (rs := [7]) (by kernel_rfl) (by simp) ?_
                refine AllReadyH.cons (o := _) (op_at rfl) (fun K hK => ?_) AllReadyH.nil
                go_simp
                go_at_call 11
                refine (O1.out _).mono ?_
                rintro e w9 ⟨rfl, hbk⟩
                go_wp2_with fail
                refine hK.out _ _ ?_ (fun hHeld => ?_)
                focus exact planKeep2 hHeld hbk
                clear hK K
                (try simp only [Act.put, List.setIfInBounds_toArray, List.set_cons_zero, List.set_cons_succ])
                as_aux_lemma =>
                  refine wpAnyH_ready (rs := [11]) (by kernel_rfl) (by simp) ?_
                  refine AllReadyH.cons (o := _) (op_at rfl) (fun K hK => ?_) AllReadyH.nil
                  go_simp
                  go_at_call 12
                  refine (O2.out _).mono ?_
                  rintro e w9 ⟨rfl, hbk⟩
                  go_wp2_with fail
                  refine hK.out _ _ ?_ (fun hHeld => ?_)
                  focus exact planKeep2 hHeld hbk
                  clear hK K
                  (try simp only [Act.put, List.setIfInBounds_toArray, List.set_cons_zero, List.set_cons_succ])
                  as_aux_lemma =>
                    refine wpAnyH_ready (rs := [15]) (by kernel_rfl) (by simp) ?_
                    refine AllReadyH.cons (o := _) (op_at rfl) (fun K hK => ?_) AllReadyH.nil
                    go_simp
                    go_at_call 13
                    refine (O3.out _).mono ?_
                    rintro e w9 ⟨rfl, hbk⟩
                    go_wp2_with fail
                    refine hK.out _ _ ?_ (fun hHeld => ?_)
                    focus exact planKeep2 hHeld hbk
                    clear hK K
                    (try simp only [Act.put, List.setIfInBounds_toArray, List.set_cons_zero, List.set_cons_succ])
                    as_aux_lemma =>
                      refine wpAnyH_ready (rs := [19]) (by kernel_rfl) (by simp) ?_
                      refine AllReadyH.cons (o := _) (op_at rfl) (fun K hK => ?_) AllReadyH.nil
                      go_simp
                      go_at_call 14
                      refine (O4.out _).mono ?_
                      rintro e w9 ⟨rfl, hbk⟩
                      go_wp2_with fail
                      refine hK.out _ _ ?_ (fun hHeld => ?_)
                      focus exact planKeep2 hHeld hbk
                      clear hK K
                      (try simp only [Act.put, List.setIfInBounds_toArray, List.set_cons_zero, List.set_cons_succ])
                      as_aux_lemma =>
                        refine wpAnyH_ready (rs := [20]) (by kernel_rfl) (by simp) ?_
                        refine AllReadyH.cons (o := _) (op_at rfl) (fun K hK => ?_) AllReadyH.nil
                        go_simp
                        refine hK.out _ _ ?_ (fun hHeld => ?_)
                        focus exact planKeep2 hHeld ((Below.refl _ _).alloc (Nat.le_refl _) _)
                        clear hK K
                        (try simp only [Act.put, List.setIfInBounds_toArray, List.set_cons_zero, List.set_cons_succ])
                        as_aux_lemma =>
                          refine wpAnyH_take (i := 21) (oi := _) (v := ?_) (op_at rfl) (by kernel_rfl) (by kernel_rfl) (by kernel_rfl) (fun _ _ _ h => h) (Or.inl ⟨by rfl, ?_⟩) hHeld ?_
                          rotate_left 1
                          focus (intro W hSw; (try dsimp only at hSw); go_simp; (try (with_reducible rfl)))
                          (try simp only [Act.put, List.setIfInBounds_toArray, List.set_cons_zero, List.set_cons_succ])
                          refine wpAnyH_done (by kernel_rfl) ?_ _
                          have c6 := planHeld2 hHeld
                          obtain ⟨⟨p60, p61, p62⟩, ⟨q60, q61, q62⟩⟩ := c6.1
                          have hBB6 := B1.trans (c6.2.mono B1.size)
                          clear hHeld hS0 d0 d1 d2 x0 x1 x2 y0 y1 y2 Y1 Y2 O0 O1 O2 O3 O4
                          have h5 : ba = 0 ∨ ba = 1 ∨ ba = 2 ∨ ba = 3 ∨ ba = 4 := by omega
                          rcases h5 with rfl | rfl | rfl | rfl | rfl
                          · as_aux_lemma =>
                              have hvt : v0 = a := hv0.symm.trans hw
                              subst hvt
                              clear hw hv0 hv1 hv2 hv3 hv4
                              go_wp2
                              go_ret
                              exact ⟨by first | rfl | exact ret_bool (by simp), hBB6⟩
                          · as_aux_lemma =>
                              have hvt : v1 = a := hv1.symm.trans hw
                              subst hvt
                              clear hw hv0 hv1 hv2 hv3 hv4
                              go_wp2
                              go_ret
                              exact ⟨by first | rfl | exact ret_bool (by simp), hBB6⟩
                          · as_aux_lemma =>
                              have hvt : v2 = a := hv2.symm.trans hw
                              subst hvt
                              clear hw hv0 hv1 hv2 hv3 hv4
                              go_wp2
                              go_ret
                              exact ⟨by first | rfl | exact ret_bool (by simp), hBB6⟩
                          · as_aux_lemma =>
                              have hvt : v3 = a := hv3.symm.trans hw
                              subst hvt
                              clear hw hv0 hv1 hv2 hv3 hv4
                              go_wp2
                              go_ret
                              exact ⟨by first | rfl | exact ret_bool (by simp), hBB6⟩
                          · as_aux_lemma =>
                              have hvt : v4 = a := hv4.symm.trans hw
                              subst hvt
                              clear hw hv0 hv1 hv2 hv3 hv4
                              go_wp2
                              go_ret
                              exact ⟨by first | rfl | exact ret_bool (by simp), hBB6⟩
          · as_aux_lemma =>
              subst hk
              clear hok fb
              have hmod : ba % R = ba := Int.emod_eq_of_lt hj0 hj1
              have hb64 : IntKind.u64.wrap ba = ba := by rw [IntKind.wrap_u64]; omega
              have hw := (where_4 P T R aa ba hR).symm.trans ((by rw [hmod] : whereI P T R 4 aa (ba % R) = whereI P T R 4 aa ba).trans hw)
              have G := fun W => slot_any P T R aa ba W (by unfold U64; omega)
              rw [hw] at G
              have G' := Lib.hid G
              clear G hw hpos
              go_wp2_with fail
              refine (G'.out _).mono ?_; rintro e w5 ⟨rfl, hb5⟩
              have hBB := hBB.trans (hb5.mono hBB.size)
              go_wp2
              go_ret
              exact ⟨by first | rfl | exact ret_bool (by simp), hBB⟩
          · as_aux_lemma =>
              subst hk
              subst hj
              clear hok fb
              rw [where_5] at hw
              have G := fun W => entry_any P T R aa W
              rw [hw] at G
              have G' := Lib.hid G
              clear G hw hpos
              go_wp2_with fail
              refine (G'.out _).mono ?_; rintro e w5 ⟨rfl, hb5⟩
              have hBB := hBB.trans (hb5.mono hBB.size)
              go_wp2
              go_ret
              exact ⟨by first | rfl | exact ret_bool (by simp), hBB⟩
          · as_aux_lemma =>
              subst hk
              subst hj
              clear hok fb
              rw [where_6] at hw
              have G := fun W => alloc_any P T R aa W
              rw [hw] at G
              have G' := Lib.hid G
              clear G hw hpos
              go_wp2_with fail
              refine (G'.out _).mono ?_; rintro e w5 ⟨rfl, hb5⟩
              have hBB := hBB.trans (hb5.mono hBB.size)
              go_wp2
              go_ret
              exact ⟨by first | rfl | exact ret_bool (by simp), hBB⟩
          · as_aux_lemma =>
              subst hk
              subst hj
              clear hok fb
              rw [where_7] at hw
              have G := fun W => mark_any P T R aa W
              rw [hw] at G
              have G' := Lib.hid G
              clear G hw hpos
              go_wp2_with fail
              refine (G'.out _).mono ?_; rintro e w5 ⟨rfl, hb5⟩
              have hBB := hBB.trans (hb5.mono hBB.size)
              go_wp2
              go_ret
              exact ⟨by first | rfl | exact ret_bool (by simp), hBB⟩
          · as_aux_lemma =>
              subst hk
              clear hok fb
              rw [where_88] at hw
              have G := fun W => addr_any P T R aa ba W
              rw [hw] at G
              have G' := Lib.hid G
              clear G hw hpos
              go_wp2_with fail
              refine (G'.out _).mono ?_; rintro e w5 ⟨rfl, hb5⟩
              have hBB := hBB.trans (hb5.mono hBB.size)
              go_wp2
              go_ret
              exact ⟨by first | rfl | exact ret_bool (by simp), hBB⟩

end Go.Proofs.Ytahppkdbaagcgaa
