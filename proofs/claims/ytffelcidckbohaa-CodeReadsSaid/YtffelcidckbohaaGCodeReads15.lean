/- code.Decode. Condition: the bytes are there. -/
import Derived.Test.YtffelcidckbohaaGCodeReads12
namespace Go.Proofs.Ytffelcidckbohaa
open Go.RowKit
set_option linter.unusedVariables false
/-- what Decode returns -/
def DecPost (r : Except DErr PrgD) (w : World) (e : Ending) (w' : World) : Prop :=
  (match r with
   | .ok p => ∃ u0 u1, e = .returned (.tuple #[.agg #[u0, u1], .int .i64 0, .int .i64 0]) ∧ RdPrg w'.heap.size w' u0 u1 p
   | .error x => x.1 ≠ 0 ∧ e = .returned (.tuple #[.agg #[.slice none 0 0, .slice none 0 0], .int .i64 x.2, .int .i64 x.1])) ∧ Below w.heap.size w w'
theorem gets_dec {bs : List UInt8} {s s1 s2 : St} {cs : List ClsD} {fs : List FunD} (h0 : Gets (magD bs 4) () s) (h1 : Gets (after s (listD bs (clsD bs) 16)) cs s1) (h2 : Gets (after s1 (listD bs (funD bs) 16)) fs s2) : Gets (decI bs) (PrgD.mk cs fs) s2 := by
  refine h0.bind ?_
  rw [after_bind]
  refine h1.bind ?_
  rw [after_bind]
  exact h2.map fun fs => PrgD.mk cs fs
theorem dec_of_err {bs : List UInt8} {x : DErr} (hl : ¬ 65536 < bs.length) (h : decI bs = .error x) : decD bs = .error x := by rw [decD, if_neg hl, h]
theorem dec_of_ok {bs : List UInt8} {p : PrgD} {q : Nat} (hl : ¬ 65536 < bs.length) (h : decI bs = .ok (p, q)) : decD bs = if q < bs.length then .error (11, (q : Int)) else .ok p := by rw [decD, if_neg hl, h]
set_option maxRecDepth 100000 in
set_option maxHeartbeats 4000000 in
theorem decode_any (w : World) (B : Nat) (v : Value) (bs : List UInt8) (h : RdBy B w v bs) (hB : B ≤ w.heap.size) :
    Calls Try.prog 6 #[v] w (DecPost (decD bs) w) := by
  have hmx : bs.length ≤ maxLen := by obtain ⟨⟨_, _, _, q, _⟩, _⟩ := h; exact q
  unfold maxLen at hmx
  obtain ⟨a, c, rfl⟩ := rd_shape h.1
  have hb0 := (Below.refl w.heap.size w).alloc (Nat.le_refl _) (.cells #[.slice none 0 0, .slice none 0 0] 27)
  have k0 := Blk.new w #[.slice none 0 0, .slice none 0 0] 27
  by_cases hl : 65536 < bs.length
  · have hl' : (65536 : Int) < (bs.length : Int) := by omega
    have HD : Hid (decD bs = .error (3, 0)) := by unfold Hid decD; rw [if_pos hl]
    have HE := Lib.hid hb0
    have HZ := Lib.hid k0
    clear h hB k0 hb0 hl
    go_enter Try.func6, Try.ntmps6
    go_wp2
    have z0 := HZ.out.val 0 rfl
    have z1 := HZ.out.val 1 rfl
    refine bodyPost_ret (v := .tuple #[.agg #[.slice none 0 0, .slice none 0 0], .int .i64 0, .int .i64 3]) (by simp [results, Try.results6, go_sem, z0, z1]) rfl ?_
    unfold DecPost
    rw [HD.out]
    exact ⟨⟨by decide, rfl⟩, HE.out⟩
  · have hl' : ¬ (65536 : Int) < (bs.length : Int) := by omega
    have hb1 := hb0.alloc hb0.size (.cells #[.slice a bs.length c, .int .i64 0, .int .i64 0, .int .i64 0] 48)
    have hS0 : RdS 48 ((w.alloc (.cells #[.slice none 0 0, .slice none 0 0] 27)).alloc (.cells #[.slice a bs.length c, .int .i64 0, .int .i64 0, .int .i64 0] 48)) B (w.heap.size + 1) bs (.ok 0) :=
      ⟨⟨0, ⟨_, Blk.new' (by simp), h.keep (hb1.mono hB)⟩, by omega, by omega⟩, by omega⟩
    have MG := Lib.hid (rdmagic_any 48 _ B (w.heap.size + 1) bs hS0)
    have K0 := Lib.hid (k0.alloc (.cells #[.slice a bs.length c, .int .i64 0, .int .i64 0, .int .i64 0] 48))
    have HB1 := Lib.hid hb1
    have hsz : ((w.alloc (.cells #[.slice none 0 0, .slice none 0 0] 27)).alloc (.cells #[.slice a bs.length c, .int .i64 0, .int .i64 0, .int .i64 0] 48)).heap.size = w.heap.size + 2 := by simp
    clear h hB k0 hb0 hb1 hS0
    go_enter Try.func6, Try.ntmps6
    go_wp2_with fail
    generalize (w.alloc (.cells #[.slice none 0 0, .slice none 0 0] 27)).alloc (.cells #[.slice a bs.length c, .int .i64 0, .int .i64 0, .int .i64 0] 48) = w0 at *
    refine MG.out.mono ?_
    rintro e' w1 ⟨⟨u, rfl⟩, s, hG0, hS1, hT1⟩
    have K1 := Lib.hid (K0.out.touch hT1 (by omega))
    have HB2 := Lib.hid (HB1.out.trans (hT1.below (B := w.heap.size) (by omega) (fun k hk => by omega)))
    have LC := Lib.hid (list_cls 48 w1 B (w.heap.size + 1) bs s 16 hS1 (by decide) (fun W s hs => rdclass_any 48 W B (w.heap.size + 1) bs s hs))
    have hs1 := hT1.size
    have HG0 := Lib.hid hG0
    clear hG0 hS1 hT1 K0 HB1 MG
    go_wp2_with fail
    refine LC.out.mono ?_
    rintro e' w2 ⟨u0, lc, s1, rfl, hG1, _, hC, hS2, hT2⟩
    have K2 := Lib.hid (K1.out.touch hT2 (by omega))
    have HB3 := Lib.hid (HB2.out.trans (hT2.below (B := w.heap.size) (by omega) (fun k hk => by omega)))
    have LU := Lib.hid (list_fun 48 w2 B (w.heap.size + 1) bs s1 16 hS2 (by decide) (fun W s hs => rdfun_any 48 W B (w.heap.size + 1) bs s hs))
    have hs2 := hT2.size
    have HG1 := Lib.hid hG1
    have HC := Lib.hid hC
    clear hG1 hS2 hT2 K1 HB2 LC hC
    go_wp2_with fail
    refine LU.out.mono ?_
    rintro e' w3 ⟨u1, lf, s2, rfl, hG2, _, hU, hS3, hT3⟩
    have hC := HC.out.touch hT3 (by omega)
    obtain ⟨a0, c0, e0⟩ := row_shape hC.1.row
    obtain ⟨a1, c1, e1⟩ := row_shape hU.1.row
    have hb4 := (Below.refl w3.heap.size w3).alloc (Nat.le_refl _) (.cells #[u0, u1] 27)
    have hs3 := hT3.size
    have K3 := Lib.hid ((K2.out.touch hT3 (by omega)).grew hb4)
    have kP := Blk.new w3 #[u0, u1] 27
    have hS4 := hS3.grew hb4
    have HB4 := Lib.hid ((HB3.out.trans (hT3.below (B := w.heap.size) (by omega) (fun k hk => by omega))).trans (hb4.mono (by omega)))
    have HG := Lib.hid (gets_dec HG0.out HG1.out hG2)
    have HCU := Lib.hid (And.intro (hC.1.grew hb4) (hU.1.grewD hb4))
    have hs4 : w3.heap.size < (w3.alloc (.cells #[u0, u1] 27)).heap.size := by simp
    subst e0 e1
    clear hG2 hS3 hT3 K2 HB3 LU HG0 HG1 HC hC hU hb4
    go_upto_region 6 with fail
    generalize w3.alloc _ = w4 at *
    generalize w3.heap.size = bp at *
    cases s2 with
    | error x =>
      have HX := Lib.hid (dec_of_err hl HG.out.err)
      obtain ⟨c2, ne0, _, q, hq6, cc1⟩ := hS4.errC
      have HS4 := Lib.hid hS4
      clear hS4 kP HG HCU
      by_cases hq : q < bs.length
      · have hq' : (q : Int) < (bs.length : Int) := by omega
        go_wp2_with fail
        refine (HS4.out.failed (q : Int) 11 (by decide)).mono ?_
        rintro e' w5 ⟨⟨u5, rfl⟩, hS5, hT5⟩
        change RdS 48 w5 B (w.heap.size + 1) bs (.error x) at hS5
        have K5 := K3.out.touch hT5 (by omega)
        have HB5 := HB4.out.trans (hT5.below (B := w.heap.size) (by omega) (fun k hk => by omega))
        clear HS4 K3 HB4 c2 cc1 hT5
        obtain ⟨pq, _, hA5⟩ := (show ∃ pq : Nat, pq ≤ bs.length ∧ RdAt 48 w5 B (w.heap.size + 1) bs (pq : Int) x.1 x.2 from hS5.2)
        obtain ⟨v5, kA, _⟩ := hA5.ex
        have HNE : Hid (x.1 ≠ (0 : Int)) := hS5.1
        have ne5 : (x.1 != (0 : Int)) = true := bne_iff_ne.2 hS5.1
        have d2 := kA.val 2 rfl
        have d3 := kA.val 3 rfl
        have r0 := K5.val 0 rfl
        have r1 := K5.val 1 rfl
        have f0 := K5.frozen 0
        have f1 := K5.frozen 1
        have hT6 := ((Touch.refl (fun y => w.heap.size ≤ y) w5).setCell (p := ⟨w.heap.size, 0, none⟩) (Nat.le_refl _) (.slice none 0 0)).setCell (p := ⟨w.heap.size, 1, none⟩) (Nat.le_refl _) (.slice none 0 0)
        have HE := Lib.hid (HB5.trans (hT6.below HB5.size (fun k hk => hk))).drew
        have HZ := Lib.hid ((K5.set 0 (.slice none 0 0)).set 1 (.slice none 0 0)).drew
        have HS : Hid (w5.drew.cell? ⟨w.heap.size + 1, 2, none⟩ = some (.int .i64 x.1) ∧ w5.drew.cell? ⟨w.heap.size + 1, 3, none⟩ = some (.int .i64 x.2)) := ⟨d2, d3⟩
        clear hS5 hA5 kA K5 HB5 hT6
        go_upto_region 9 with fail
        refine wp_region_held_drew (S := (fun W' => W'.cell? ⟨w.heap.size + 1, 2, none⟩ = some (.int .i64 x.1) ∧ W'.cell? ⟨w.heap.size + 1, 3, none⟩ = some (.int .i64 x.2))) (by kernel_rfl) HS.out (fun hHeld => ?_)
        refine wpAnyH_take (i := 0) (oi := _) (v := ?_) (op_atC rfl) (by kernel_rfl) (by kernel_rfl) (by kernel_rfl) (fun _ _ _ h => h) (Or.inl ⟨by rfl, ?_⟩) hHeld ?_
        rotate_left 1
        focus (intro W hSw; (try dsimp only at hSw); go_simp; (try (with_reducible rfl)))
        (try simp only [Act.put, List.setIfInBounds_toArray, List.set_cons_zero, List.set_cons_succ])
        refine wpAnyH_take (i := 1) (oi := _) (v := ?_) (op_atC rfl) (by kernel_rfl) (by kernel_rfl) (by kernel_rfl) (fun _ _ _ h => h) (Or.inl ⟨by rfl, ?_⟩) hHeld ?_
        rotate_left 1
        focus (intro W hSw; (try dsimp only at hSw); go_simp; (try (with_reducible rfl)))
        (try simp only [Act.put, List.setIfInBounds_toArray, List.set_cons_zero, List.set_cons_succ])
        refine wpAnyH_take (i := 2) (oi := _) (v := ?_) (op_atC rfl) (by kernel_rfl) (by kernel_rfl) (by kernel_rfl) (fun _ _ _ h => h) (Or.inl ⟨by rfl, ?_⟩) hHeld ?_
        rotate_left 1
        focus (intro W hSw; (try dsimp only at hSw); go_simp; (try (with_reducible rfl)))
        (try simp only [Act.put, List.setIfInBounds_toArray, List.set_cons_zero, List.set_cons_succ])
        refine wpAnyH_take (i := 3) (oi := _) (v := ?_) (op_atC rfl) (by kernel_rfl) (by kernel_rfl) (by kernel_rfl) (fun _ _ _ h => h) (Or.inl ⟨by rfl, ?_⟩) hHeld ?_
        rotate_left 1
        focus (intro W hSw; (try dsimp only at hSw); go_simp; (try (with_reducible rfl)))
        (try simp only [Act.put, List.setIfInBounds_toArray, List.set_cons_zero, List.set_cons_succ])
        refine wpAnyH_take (i := 4) (oi := _) (v := ?_) (op_atC rfl) (by kernel_rfl) (by kernel_rfl) (by kernel_rfl) (fun _ _ _ h => h) (Or.inl ⟨by rfl, ?_⟩) hHeld ?_
        rotate_left 1
        focus (intro W hSw; (try dsimp only at hSw); go_simp; (try (with_reducible rfl)))
        (try simp only [Act.put, List.setIfInBounds_toArray, List.set_cons_zero, List.set_cons_succ])
        refine wpAnyH_take (i := 5) (oi := _) (v := ?_) (op_atC rfl) (by kernel_rfl) (by kernel_rfl) (by kernel_rfl) (fun _ _ _ h => h) (Or.inl ⟨by rfl, ?_⟩) hHeld ?_
        rotate_left 1
        focus (intro W hSw; (try dsimp only at hSw); go_simp; (try (with_reducible rfl)))
        (try simp only [Act.put, List.setIfInBounds_toArray, List.set_cons_zero, List.set_cons_succ])
        refine wpAnyH_take (i := 6) (oi := _) (v := ?_) (op_atC rfl) (by kernel_rfl) (by kernel_rfl) (by kernel_rfl) (fun _ _ _ h => h) (Or.inl ⟨by rfl, ?_⟩) hHeld ?_
        rotate_left 1
        focus (intro W hSw; (try dsimp only at hSw); go_simp; (try (with_reducible rfl)))
        (try simp only [Act.put, List.setIfInBounds_toArray, List.set_cons_zero, List.set_cons_succ])
        refine wpAnyH_take (i := 7) (oi := _) (v := ?_) (op_atC rfl) (by kernel_rfl) (by kernel_rfl) (by kernel_rfl) (fun _ _ _ h => h) (Or.inl ⟨by rfl, ?_⟩) hHeld ?_
        rotate_left 1
        focus (intro W hSw; (try dsimp only at hSw); go_simp; (try (with_reducible rfl)))
        (try simp only [Act.put, List.setIfInBounds_toArray, List.set_cons_zero, List.set_cons_succ])
        refine wpAnyH_take (i := 8) (oi := _) (v := ?_) (op_atC rfl) (by kernel_rfl) (by kernel_rfl) (by kernel_rfl) (fun _ _ _ h => h) (Or.inl ⟨by rfl, ?_⟩) hHeld ?_
        rotate_left 1
        focus (intro W hSw; (try dsimp only at hSw); go_simp; (try (with_reducible rfl)))
        (try simp only [Act.put, List.setIfInBounds_toArray, List.set_cons_zero, List.set_cons_succ])
        refine wpAnyH_ready (rs := [9]) (by kernel_rfl) (by simp) ?_
        refine AllReadyH.cons (o := _) (op_atC rfl) (fun Kc hKc => ?_) AllReadyH.nil
        go_simp
        refine hKc.out _ _ ?_ (fun hHeld' => ?_)
        focus exact ⟨(World.cell?_setCell_far _ _ _ _ (show w.heap.size ≠ w.heap.size + 1 by omega)).trans ((World.cell?_setCell_far _ _ _ _ (show w.heap.size ≠ w.heap.size + 1 by omega)).trans hHeld.1), (World.cell?_setCell_far _ _ _ _ (show w.heap.size ≠ w.heap.size + 1 by omega)).trans ((World.cell?_setCell_far _ _ _ _ (show w.heap.size ≠ w.heap.size + 1 by omega)).trans hHeld.2)⟩
        clear hHeld
        have hHeld := hHeld'
        clear hHeld' hKc Kc
        (try simp only [Act.put, List.setIfInBounds_toArray, List.set_cons_zero, List.set_cons_succ])
        refine wpAnyH_take (i := 10) (oi := _) (v := ?_) (op_atC rfl) (by kernel_rfl) (by kernel_rfl) (by kernel_rfl) (fun _ _ _ h => h) (Or.inl ⟨by rfl, ?_⟩) hHeld ?_
        rotate_left 1
        focus (intro W hSw; (try dsimp only at hSw); go_simp; (try (with_reducible rfl)))
        (try simp only [Act.put, List.setIfInBounds_toArray, List.set_cons_zero, List.set_cons_succ])
        refine wpAnyH_take (i := 11) (oi := _) (v := ?_) (op_atC rfl) (by kernel_rfl) (by kernel_rfl) (by kernel_rfl) (fun _ _ _ h => h) (Or.inl ⟨by rfl, ?_⟩) hHeld ?_
        rotate_left 1
        focus (intro W hSw; (try dsimp only at hSw); go_simp; (try (with_reducible rfl)))
        (try simp only [Act.put, List.setIfInBounds_toArray, List.set_cons_zero, List.set_cons_succ])
        refine wpAnyH_done (by kernel_rfl) ?_ _
        clear hHeld
        go_wp2
        generalize World.drew (World.setCell (World.setCell _ _ _) _ _) = W9 at *
        have z0 := HZ.out.val 0 rfl
        have z1 := HZ.out.val 1 rfl
        refine bodyPost_ret (v := .tuple #[.agg #[.slice none 0 0, .slice none 0 0], .int .i64 x.2, .int .i64 x.1]) (by simp [results, Try.results6, go_sem, z0, z1]) rfl ?_
        unfold DecPost
        rw [HX.out]
        exact ⟨⟨HNE.out, rfl⟩, HE.out⟩
      · have hq' : ¬ (q : Int) < (bs.length : Int) := by omega
        go_upto_region 8 with fail
        have hS5 := HS4.out
        have K5 := K3.out
        have HB5 := HB4.out
        clear HS4 K3 HB4 c2 cc1
        generalize w4 = w5 at *
        obtain ⟨pq, _, hA5⟩ := (show ∃ pq : Nat, pq ≤ bs.length ∧ RdAt 48 w5 B (w.heap.size + 1) bs (pq : Int) x.1 x.2 from hS5.2)
        obtain ⟨v5, kA, _⟩ := hA5.ex
        have HNE : Hid (x.1 ≠ (0 : Int)) := hS5.1
        have ne5 : (x.1 != (0 : Int)) = true := bne_iff_ne.2 hS5.1
        have d2 := kA.val 2 rfl
        have d3 := kA.val 3 rfl
        have r0 := K5.val 0 rfl
        have r1 := K5.val 1 rfl
        have f0 := K5.frozen 0
        have f1 := K5.frozen 1
        have hT6 := ((Touch.refl (fun y => w.heap.size ≤ y) w5).setCell (p := ⟨w.heap.size, 0, none⟩) (Nat.le_refl _) (.slice none 0 0)).setCell (p := ⟨w.heap.size, 1, none⟩) (Nat.le_refl _) (.slice none 0 0)
        have HE := Lib.hid (HB5.trans (hT6.below HB5.size (fun k hk => hk))).drew
        have HZ := Lib.hid ((K5.set 0 (.slice none 0 0)).set 1 (.slice none 0 0)).drew
        have HS : Hid (w5.drew.cell? ⟨w.heap.size + 1, 2, none⟩ = some (.int .i64 x.1) ∧ w5.drew.cell? ⟨w.heap.size + 1, 3, none⟩ = some (.int .i64 x.2)) := ⟨d2, d3⟩
        clear hS5 hA5 kA K5 HB5 hT6
        go_upto_region 9 with fail
        refine wp_region_held_drew (S := (fun W' => W'.cell? ⟨w.heap.size + 1, 2, none⟩ = some (.int .i64 x.1) ∧ W'.cell? ⟨w.heap.size + 1, 3, none⟩ = some (.int .i64 x.2))) (by kernel_rfl) HS.out (fun hHeld => ?_)
        refine wpAnyH_take (i := 0) (oi := _) (v := ?_) (op_atC rfl) (by kernel_rfl) (by kernel_rfl) (by kernel_rfl) (fun _ _ _ h => h) (Or.inl ⟨by rfl, ?_⟩) hHeld ?_
        rotate_left 1
        focus (intro W hSw; (try dsimp only at hSw); go_simp; (try (with_reducible rfl)))
        (try simp only [Act.put, List.setIfInBounds_toArray, List.set_cons_zero, List.set_cons_succ])
        refine wpAnyH_take (i := 1) (oi := _) (v := ?_) (op_atC rfl) (by kernel_rfl) (by kernel_rfl) (by kernel_rfl) (fun _ _ _ h => h) (Or.inl ⟨by rfl, ?_⟩) hHeld ?_
        rotate_left 1
        focus (intro W hSw; (try dsimp only at hSw); go_simp; (try (with_reducible rfl)))
        (try simp only [Act.put, List.setIfInBounds_toArray, List.set_cons_zero, List.set_cons_succ])
        refine wpAnyH_take (i := 2) (oi := _) (v := ?_) (op_atC rfl) (by kernel_rfl) (by kernel_rfl) (by kernel_rfl) (fun _ _ _ h => h) (Or.inl ⟨by rfl, ?_⟩) hHeld ?_
        rotate_left 1
        focus (intro W hSw; (try dsimp only at hSw); go_simp; (try (with_reducible rfl)))
        (try simp only [Act.put, List.setIfInBounds_toArray, List.set_cons_zero, List.set_cons_succ])
        refine wpAnyH_take (i := 3) (oi := _) (v := ?_) (op_atC rfl) (by kernel_rfl) (by kernel_rfl) (by kernel_rfl) (fun _ _ _ h => h) (Or.inl ⟨by rfl, ?_⟩) hHeld ?_
        rotate_left 1
        focus (intro W hSw; (try dsimp only at hSw); go_simp; (try (with_reducible rfl)))
        (try simp only [Act.put, List.setIfInBounds_toArray, List.set_cons_zero, List.set_cons_succ])
        refine wpAnyH_take (i := 4) (oi := _) (v := ?_) (op_atC rfl) (by kernel_rfl) (by kernel_rfl) (by kernel_rfl) (fun _ _ _ h => h) (Or.inl ⟨by rfl, ?_⟩) hHeld ?_
        rotate_left 1
        focus (intro W hSw; (try dsimp only at hSw); go_simp; (try (with_reducible rfl)))
        (try simp only [Act.put, List.setIfInBounds_toArray, List.set_cons_zero, List.set_cons_succ])
        refine wpAnyH_take (i := 5) (oi := _) (v := ?_) (op_atC rfl) (by kernel_rfl) (by kernel_rfl) (by kernel_rfl) (fun _ _ _ h => h) (Or.inl ⟨by rfl, ?_⟩) hHeld ?_
        rotate_left 1
        focus (intro W hSw; (try dsimp only at hSw); go_simp; (try (with_reducible rfl)))
        (try simp only [Act.put, List.setIfInBounds_toArray, List.set_cons_zero, List.set_cons_succ])
        refine wpAnyH_take (i := 6) (oi := _) (v := ?_) (op_atC rfl) (by kernel_rfl) (by kernel_rfl) (by kernel_rfl) (fun _ _ _ h => h) (Or.inl ⟨by rfl, ?_⟩) hHeld ?_
        rotate_left 1
        focus (intro W hSw; (try dsimp only at hSw); go_simp; (try (with_reducible rfl)))
        (try simp only [Act.put, List.setIfInBounds_toArray, List.set_cons_zero, List.set_cons_succ])
        refine wpAnyH_take (i := 7) (oi := _) (v := ?_) (op_atC rfl) (by kernel_rfl) (by kernel_rfl) (by kernel_rfl) (fun _ _ _ h => h) (Or.inl ⟨by rfl, ?_⟩) hHeld ?_
        rotate_left 1
        focus (intro W hSw; (try dsimp only at hSw); go_simp; (try (with_reducible rfl)))
        (try simp only [Act.put, List.setIfInBounds_toArray, List.set_cons_zero, List.set_cons_succ])
        refine wpAnyH_take (i := 8) (oi := _) (v := ?_) (op_atC rfl) (by kernel_rfl) (by kernel_rfl) (by kernel_rfl) (fun _ _ _ h => h) (Or.inl ⟨by rfl, ?_⟩) hHeld ?_
        rotate_left 1
        focus (intro W hSw; (try dsimp only at hSw); go_simp; (try (with_reducible rfl)))
        (try simp only [Act.put, List.setIfInBounds_toArray, List.set_cons_zero, List.set_cons_succ])
        refine wpAnyH_ready (rs := [9]) (by kernel_rfl) (by simp) ?_
        refine AllReadyH.cons (o := _) (op_atC rfl) (fun Kc hKc => ?_) AllReadyH.nil
        go_simp
        refine hKc.out _ _ ?_ (fun hHeld' => ?_)
        focus exact ⟨(World.cell?_setCell_far _ _ _ _ (show w.heap.size ≠ w.heap.size + 1 by omega)).trans ((World.cell?_setCell_far _ _ _ _ (show w.heap.size ≠ w.heap.size + 1 by omega)).trans hHeld.1), (World.cell?_setCell_far _ _ _ _ (show w.heap.size ≠ w.heap.size + 1 by omega)).trans ((World.cell?_setCell_far _ _ _ _ (show w.heap.size ≠ w.heap.size + 1 by omega)).trans hHeld.2)⟩
        clear hHeld
        have hHeld := hHeld'
        clear hHeld' hKc Kc
        (try simp only [Act.put, List.setIfInBounds_toArray, List.set_cons_zero, List.set_cons_succ])
        refine wpAnyH_take (i := 10) (oi := _) (v := ?_) (op_atC rfl) (by kernel_rfl) (by kernel_rfl) (by kernel_rfl) (fun _ _ _ h => h) (Or.inl ⟨by rfl, ?_⟩) hHeld ?_
        rotate_left 1
        focus (intro W hSw; (try dsimp only at hSw); go_simp; (try (with_reducible rfl)))
        (try simp only [Act.put, List.setIfInBounds_toArray, List.set_cons_zero, List.set_cons_succ])
        refine wpAnyH_take (i := 11) (oi := _) (v := ?_) (op_atC rfl) (by kernel_rfl) (by kernel_rfl) (by kernel_rfl) (fun _ _ _ h => h) (Or.inl ⟨by rfl, ?_⟩) hHeld ?_
        rotate_left 1
        focus (intro W hSw; (try dsimp only at hSw); go_simp; (try (with_reducible rfl)))
        (try simp only [Act.put, List.setIfInBounds_toArray, List.set_cons_zero, List.set_cons_succ])
        refine wpAnyH_done (by kernel_rfl) ?_ _
        clear hHeld
        go_wp2
        generalize World.drew (World.setCell (World.setCell _ _ _) _ _) = W9 at *
        have z0 := HZ.out.val 0 rfl
        have z1 := HZ.out.val 1 rfl
        refine bodyPost_ret (v := .tuple #[.agg #[.slice none 0 0, .slice none 0 0], .int .i64 x.2, .int .i64 x.1]) (by simp [results, Try.results6, go_sem, z0, z1]) rfl ?_
        unfold DecPost
        rw [HX.out]
        exact ⟨⟨HNE.out, rfl⟩, HE.out⟩
    | ok q =>
      have HOK := HG.out.ok
      have HX := Lib.hid (dec_of_ok hl HOK)
      obtain ⟨c2, cc1, hq6⟩ := hS4.okC
      have HS4 := Lib.hid hS4
      by_cases hq : q < bs.length
      · have hq' : (q : Int) < (bs.length : Int) := by omega
        replace HX : Hid (decD bs = .error (11, (q : Int))) := HX.out.trans (if_pos hq)
        clear hS4 kP HG HCU HOK
        go_wp2_with fail
        refine (HS4.out.failed (q : Int) 11 (by decide)).mono ?_
        rintro e' w5 ⟨⟨u5, rfl⟩, hS5, hT5⟩
        change RdS 48 w5 B (w.heap.size + 1) bs (.error (11, (q : Int))) at hS5
        have K5 := K3.out.touch hT5 (by omega)
        have HB5 := HB4.out.trans (hT5.below (B := w.heap.size) (by omega) (fun k hk => by omega))
        clear HS4 K3 HB4 c2 cc1 hT5
        obtain ⟨pq, _, hA5⟩ := (show ∃ pq : Nat, pq ≤ bs.length ∧ RdAt 48 w5 B (w.heap.size + 1) bs (pq : Int) (11 : Int) (q : Int) from hS5.2)
        obtain ⟨v5, kA, _⟩ := hA5.ex
        have HNE : Hid ((11 : Int) ≠ (0 : Int)) := hS5.1
        have ne5 : ((11 : Int) != (0 : Int)) = true := bne_iff_ne.2 hS5.1
        have d2 := kA.val 2 rfl
        have d3 := kA.val 3 rfl
        have r0 := K5.val 0 rfl
        have r1 := K5.val 1 rfl
        have f0 := K5.frozen 0
        have f1 := K5.frozen 1
        have hT6 := ((Touch.refl (fun y => w.heap.size ≤ y) w5).setCell (p := ⟨w.heap.size, 0, none⟩) (Nat.le_refl _) (.slice none 0 0)).setCell (p := ⟨w.heap.size, 1, none⟩) (Nat.le_refl _) (.slice none 0 0)
        have HE := Lib.hid (HB5.trans (hT6.below HB5.size (fun k hk => hk))).drew
        have HZ := Lib.hid ((K5.set 0 (.slice none 0 0)).set 1 (.slice none 0 0)).drew
        have HS : Hid (w5.drew.cell? ⟨w.heap.size + 1, 2, none⟩ = some (.int .i64 (11 : Int)) ∧ w5.drew.cell? ⟨w.heap.size + 1, 3, none⟩ = some (.int .i64 (q : Int))) := ⟨d2, d3⟩
        clear hS5 hA5 kA K5 HB5 hT6
        go_upto_region 9 with fail
        refine wp_region_held_drew (S := (fun W' => W'.cell? ⟨w.heap.size + 1, 2, none⟩ = some (.int .i64 (11 : Int)) ∧ W'.cell? ⟨w.heap.size + 1, 3, none⟩ = some (.int .i64 (q : Int)))) (by kernel_rfl) HS.out (fun hHeld => ?_)
        refine wpAnyH_take (i := 0) (oi := _) (v := ?_) (op_atC rfl) (by kernel_rfl) (by kernel_rfl) (by kernel_rfl) (fun _ _ _ h => h) (Or.inl ⟨by rfl, ?_⟩) hHeld ?_
        rotate_left 1
        focus (intro W hSw; (try dsimp only at hSw); go_simp; (try (with_reducible rfl)))
        (try simp only [Act.put, List.setIfInBounds_toArray, List.set_cons_zero, List.set_cons_succ])
        refine wpAnyH_take (i := 1) (oi := _) (v := ?_) (op_atC rfl) (by kernel_rfl) (by kernel_rfl) (by kernel_rfl) (fun _ _ _ h => h) (Or.inl ⟨by rfl, ?_⟩) hHeld ?_
        rotate_left 1
        focus (intro W hSw; (try dsimp only at hSw); go_simp; (try (with_reducible rfl)))
        (try simp only [Act.put, List.setIfInBounds_toArray, List.set_cons_zero, List.set_cons_succ])
        refine wpAnyH_take (i := 2) (oi := _) (v := ?_) (op_atC rfl) (by kernel_rfl) (by kernel_rfl) (by kernel_rfl) (fun _ _ _ h => h) (Or.inl ⟨by rfl, ?_⟩) hHeld ?_
        rotate_left 1
        focus (intro W hSw; (try dsimp only at hSw); go_simp; (try (with_reducible rfl)))
        (try simp only [Act.put, List.setIfInBounds_toArray, List.set_cons_zero, List.set_cons_succ])
        refine wpAnyH_take (i := 3) (oi := _) (v := ?_) (op_atC rfl) (by kernel_rfl) (by kernel_rfl) (by kernel_rfl) (fun _ _ _ h => h) (Or.inl ⟨by rfl, ?_⟩) hHeld ?_
        rotate_left 1
        focus (intro W hSw; (try dsimp only at hSw); go_simp; (try (with_reducible rfl)))
        (try simp only [Act.put, List.setIfInBounds_toArray, List.set_cons_zero, List.set_cons_succ])
        refine wpAnyH_take (i := 4) (oi := _) (v := ?_) (op_atC rfl) (by kernel_rfl) (by kernel_rfl) (by kernel_rfl) (fun _ _ _ h => h) (Or.inl ⟨by rfl, ?_⟩) hHeld ?_
        rotate_left 1
        focus (intro W hSw; (try dsimp only at hSw); go_simp; (try (with_reducible rfl)))
        (try simp only [Act.put, List.setIfInBounds_toArray, List.set_cons_zero, List.set_cons_succ])
        refine wpAnyH_take (i := 5) (oi := _) (v := ?_) (op_atC rfl) (by kernel_rfl) (by kernel_rfl) (by kernel_rfl) (fun _ _ _ h => h) (Or.inl ⟨by rfl, ?_⟩) hHeld ?_
        rotate_left 1
        focus (intro W hSw; (try dsimp only at hSw); go_simp; (try (with_reducible rfl)))
        (try simp only [Act.put, List.setIfInBounds_toArray, List.set_cons_zero, List.set_cons_succ])
        refine wpAnyH_take (i := 6) (oi := _) (v := ?_) (op_atC rfl) (by kernel_rfl) (by kernel_rfl) (by kernel_rfl) (fun _ _ _ h => h) (Or.inl ⟨by rfl, ?_⟩) hHeld ?_
        rotate_left 1
        focus (intro W hSw; (try dsimp only at hSw); go_simp; (try (with_reducible rfl)))
        (try simp only [Act.put, List.setIfInBounds_toArray, List.set_cons_zero, List.set_cons_succ])
        refine wpAnyH_take (i := 7) (oi := _) (v := ?_) (op_atC rfl) (by kernel_rfl) (by kernel_rfl) (by kernel_rfl) (fun _ _ _ h => h) (Or.inl ⟨by rfl, ?_⟩) hHeld ?_
        rotate_left 1
        focus (intro W hSw; (try dsimp only at hSw); go_simp; (try (with_reducible rfl)))
        (try simp only [Act.put, List.setIfInBounds_toArray, List.set_cons_zero, List.set_cons_succ])
        refine wpAnyH_take (i := 8) (oi := _) (v := ?_) (op_atC rfl) (by kernel_rfl) (by kernel_rfl) (by kernel_rfl) (fun _ _ _ h => h) (Or.inl ⟨by rfl, ?_⟩) hHeld ?_
        rotate_left 1
        focus (intro W hSw; (try dsimp only at hSw); go_simp; (try (with_reducible rfl)))
        (try simp only [Act.put, List.setIfInBounds_toArray, List.set_cons_zero, List.set_cons_succ])
        refine wpAnyH_ready (rs := [9]) (by kernel_rfl) (by simp) ?_
        refine AllReadyH.cons (o := _) (op_atC rfl) (fun Kc hKc => ?_) AllReadyH.nil
        go_simp
        refine hKc.out _ _ ?_ (fun hHeld' => ?_)
        focus exact ⟨(World.cell?_setCell_far _ _ _ _ (show w.heap.size ≠ w.heap.size + 1 by omega)).trans ((World.cell?_setCell_far _ _ _ _ (show w.heap.size ≠ w.heap.size + 1 by omega)).trans hHeld.1), (World.cell?_setCell_far _ _ _ _ (show w.heap.size ≠ w.heap.size + 1 by omega)).trans ((World.cell?_setCell_far _ _ _ _ (show w.heap.size ≠ w.heap.size + 1 by omega)).trans hHeld.2)⟩
        clear hHeld
        have hHeld := hHeld'
        clear hHeld' hKc Kc
        (try simp only [Act.put, List.setIfInBounds_toArray, List.set_cons_zero, List.set_cons_succ])
        refine wpAnyH_take (i := 10) (oi := _) (v := ?_) (op_atC rfl) (by kernel_rfl) (by kernel_rfl) (by kernel_rfl) (fun _ _ _ h => h) (Or.inl ⟨by rfl, ?_⟩) hHeld ?_
        rotate_left 1
        focus (intro W hSw; (try dsimp only at hSw); go_simp; (try (with_reducible rfl)))
        (try simp only [Act.put, List.setIfInBounds_toArray, List.set_cons_zero, List.set_cons_succ])
        refine wpAnyH_take (i := 11) (oi := _) (v := ?_) (op_atC rfl) (by kernel_rfl) (by kernel_rfl) (by kernel_rfl) (fun _ _ _ h => h) (Or.inl ⟨by rfl, ?_⟩) hHeld ?_
        rotate_left 1
        focus (intro W hSw; (try dsimp only at hSw); go_simp; (try (with_reducible rfl)))
        (try simp only [Act.put, List.setIfInBounds_toArray, List.set_cons_zero, List.set_cons_succ])
        refine wpAnyH_done (by kernel_rfl) ?_ _
        clear hHeld
        go_wp2
        generalize World.drew (World.setCell (World.setCell _ _ _) _ _) = W9 at *
        have z0 := HZ.out.val 0 rfl
        have z1 := HZ.out.val 1 rfl
        refine bodyPost_ret (v := .tuple #[.agg #[.slice none 0 0, .slice none 0 0], .int .i64 (q : Int), .int .i64 (11 : Int)]) (by simp [results, Try.results6, go_sem, z0, z1]) rfl ?_
        unfold DecPost
        rw [HX.out]
        exact ⟨⟨HNE.out, rfl⟩, HE.out⟩
      · have hq' : ¬ (q : Int) < (bs.length : Int) := by omega
        replace HX : Hid (decD bs = .ok (PrgD.mk (lc.map fun x => x.1) (lf.map fun x => x.1))) := HX.out.trans (if_neg hq)
        have y0 := kP.val 0 rfl
        have y1 := kP.val 1 rfl
        have r0 := K3.out.val 0 rfl
        have r1 := K3.out.val 1 rfl
        have f0 := K3.out.frozen 0
        have f1 := K3.out.frozen 1
        have hT6 := ((Touch.refl (fun y => y = w.heap.size) w4).setCell (p := ⟨w.heap.size, 0, none⟩) rfl (.slice a0 lc.length c0)).setCell (p := ⟨w.heap.size, 1, none⟩) rfl (.slice a1 lf.length c1)
        have HZ := Lib.hid ((K3.out.set 0 (.slice a0 lc.length c0)).set 1 (.slice a1 lf.length c1))
        have HB6 := Lib.hid (HB4.out.trans (hT6.below (B := w.heap.size) (by omega) (fun k hk => by omega)))
        have HP := Lib.hid (prg_own (p := ⟨lc.map fun x => x.1, lf.map fun x => x.1⟩) (HCU.out.1.touch hT6 (fun g h1 _ e => by omega)) (HCU.out.2.touch hT6 (fun g h1 _ e => by omega)) rfl rfl (decI_ok HOK).1)
        clear hS4 kP HG HCU HOK hT6 K3 HB4 HS4
        go_wp2
        generalize World.setCell (World.setCell _ _ _) _ _ = W9 at *
        have z0 := HZ.out.val 0 rfl
        have z1 := HZ.out.val 1 rfl
        refine bodyPost_ret (v := .tuple #[.agg #[.slice a0 lc.length c0, .slice a1 lf.length c1], .int .i64 0, .int .i64 0]) (by simp [results, Try.results6, go_sem, z0, z1]) rfl ?_
        unfold DecPost
        rw [HX.out]
        exact ⟨⟨_, _, rfl, HP.out⟩, HB6.out⟩
end Go.Proofs.Ytffelcidckbohaa
