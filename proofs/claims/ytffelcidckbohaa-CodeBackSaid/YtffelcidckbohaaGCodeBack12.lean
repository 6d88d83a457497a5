/- Texts of this seat, one behind the other: each says at its head what it holds. No condition of its own. -/
import Derived.Test.YtffelcidckbohaaGCodeBack01
import Derived.Test.YtffelcidckbohaaGCodeBack08
import Derived.Test.YtffelcidckbohaaGCodeBack09
import Derived.Test.YtffelcidckbohaaGCodeBack11
/- code.Decode. Condition: the bytes are there. -/
namespace Go.Proofs.Ytffelcidckbohaa
open Go.RowKit
set_option linter.unusedVariables false
/-- what Decode returns -/
def DecPost (r : Except DErr PrgD) (w : World) (e : Ending) (w' : World) : Prop :=
  (match r with
   | .ok p => ∃ u0 u1, e = .returned (.tuple #[.agg #[u0, u1], .int .i64 0, .int .i64 0]) ∧ RdPrg w'.heap.size w' u0 u1 p
   | .error x => x.1 ≠ 0 ∧ e = .returned (.tuple #[.agg #[.slice none 0 0, .slice none 0 0], .int .i64 x.2, .int .i64 x.1])) ∧ Below w.heap.size w w'
theorem gets_dec {bs : List UInt8} {s s1 s2 : St} {cs : List ClsD} {fs : List FunD} (h0 : Gets (magD bs 4) () s) (h1 : Gets (after s (listD bs (clsD bs) 16)) cs s1) (h2 : Gets (after s1 (listD bs (funD bs) 16)) fs s2) : Gets (decI bs) (PrgD.mk cs fs) s2 := by
  refine h0.bind ?_
  rw [after_bind]
  refine h1.bind ?_
  rw [after_bind]
  exact h2.map fun fs => PrgD.mk cs fs
theorem dec_of_err {bs : List UInt8} {x : DErr} (hl : ¬ 65536 < bs.length) (h : decI bs = .error x) : decD bs = .error x := by rw [decD, if_neg hl, h]
theorem dec_of_ok {bs : List UInt8} {p : PrgD} {q : Nat} (hl : ¬ 65536 < bs.length) (h : decI bs = .ok (p, q)) : decD bs = if q < bs.length then .error (11, (q : Int)) else .ok p := by rw [decD, if_neg hl, h]
set_option maxRecDepth 100000 in
set_option maxHeartbeats 4000000 in
theorem decode_any (w : World) (B : Nat) (v : Value) (bs : List UInt8) (h : RdBy B w v bs) (hB : B ≤ w.heap.size) :
    Calls Try.prog 6 #[v] w (DecPost (decD bs) w) := by
  have hmx : bs.length ≤ maxLen := by obtain ⟨⟨_, _, _, q, _⟩, _⟩ := h; exact q
  unfold maxLen at hmx
  obtain ⟨a, c, rfl⟩ := rd_shape h.1
  have hb0 := (Below.refl w.heap.size w).alloc (Nat.le_refl _) (.cells #[.slice none 0 0, .slice none 0 0] 27)
  have k0 := Blk.new w #[.slice none 0 0, .slice none 0 0] 27
  by_cases hl : 65536 < bs.length
  · have hl' : (65536 : Int) < (bs.length : Int) := by omega
    have HD : Hid (decD bs = .error (3, 0)) := by unfold Hid decD; rw [if_pos hl]
    have HE := Lib.hid hb0
    have HZ := Lib.hid k0
    clear h hB k0 hb0 hl
    go_enter Try.func6, Try.ntmps6
    go_wp2
    have z0 := HZ.out.val 0 rfl
    have z1 := HZ.out.val 1 rfl
    refine bodyPost_ret (v := .tuple #[.agg #[.slice none 0 0, .slice none 0 0], .int .i64 0, .int .i64 3]) (by simp [results, Try.results6, go_sem, z0, z1]) rfl ?_
    unfold DecPost
    rw [HD.out]
    exact ⟨⟨by decide, rfl⟩, HE.out⟩
  · have hl' : ¬ (65536 : Int) < (bs.length : Int) := by omega
    have hb1 := hb0.alloc hb0.size (.cells #[.slice a bs.length c, .int .i64 0, .int .i64 0, .int .i64 0] 48)
    have hS0 : RdS 48 ((w.alloc (.cells #[.slice none 0 0, .slice none 0 0] 27)).alloc (.cells #[.slice a bs.length c, .int .i64 0, .int .i64 0, .int .i64 0] 48)) B (w.heap.size + 1) bs (.ok 0) :=
      ⟨⟨0, ⟨_, Blk.new' (by simp), h.keep (hb1.mono hB)⟩, by omega, by omega⟩, by omega⟩
    have MG := Lib.hid (rdmagic_any 48 _ B (w.heap.size + 1) bs hS0)
    have K0 := Lib.hid (k0.alloc (.cells #[.slice a bs.length c, .int .i64 0, .int .i64 0, .int .i64 0] 48))
    have HB1 := Lib.hid hb1
    have hsz : ((w.alloc (.cells #[.slice none 0 0, .slice none 0 0] 27)).alloc (.cells #[.slice a bs.length c, .int .i64 0, .int .i64 0, .int .i64 0] 48)).heap.size = w.heap.size + 2 := by simp
    clear h hB k0 hb0 hb1 hS0
    go_enter Try.func6, Try.ntmps6
    go_wp2_with fail
    generalize (w.alloc (.cells #[.slice none 0 0, .slice none 0 0] 27)).alloc (.cells #[.slice a bs.length c, .int .i64 0, .int .i64 0, .int .i64 0] 48) = w0 at *
    refine MG.out.mono ?_
    rintro e' w1 ⟨⟨u, rfl⟩, s, hG0, hS1, hT1⟩
    have K1 := Lib.hid (K0.out.touch hT1 (by omega))
    have HB2 := Lib.hid (HB1.out.trans (hT1.below (B := w.heap.size) (by omega) (fun k hk => by omega)))
    have LC := Lib.hid (list_cls 48 w1 B (w.heap.size + 1) bs s 16 hS1 (by decide) (fun W s hs => rdclass_any 48 W B (w.heap.size + 1) bs s hs))
    have hs1 := hT1.size
    have HG0 := Lib.hid hG0
    clear hG0 hS1 hT1 K0 HB1 MG
    go_wp2_with fail
    refine LC.out.mono ?_
    rintro e' w2 ⟨u0, lc, s1, rfl, hG1, _, hC, hS2, hT2⟩
    have K2 := Lib.hid (K1.out.touch hT2 (by omega))
    have HB3 := Lib.hid (HB2.out.trans (hT2.below (B := w.heap.size) (by omega) (fun k hk => by omega)))
    have LU := Lib.hid (list_fun 48 w2 B (w.heap.size + 1) bs s1 16 hS2 (by decide) (fun W s hs => rdfun_any 48 W B (w.heap.size + 1) bs s hs))
    have hs2 := hT2.size
    have HG1 := Lib.hid hG1
    have HC := Lib.hid hC
    clear hG1 hS2 hT2 K1 HB2 LC hC
    go_wp2_with fail
    refine LU.out.mono ?_
    rintro e' w3 ⟨u1, lf, s2, rfl, hG2, _, hU, hS3, hT3⟩
    have hC := HC.out.touch hT3 (by omega)
    obtain ⟨a0, c0, e0⟩ := row_shape hC.1.row
    obtain ⟨a1, c1, e1⟩ := row_shape hU.1.row
    have hb4 := (Below.refl w3.heap.size w3).alloc (Nat.le_refl _) (.cells #[u0, u1] 27)
    have hs3 := hT3.size
    have K3 := Lib.hid ((K2.out.touch hT3 (by omega)).grew hb4)
    have kP := Blk.new w3 #[u0, u1] 27
    have hS4 := hS3.grew hb4
    have HB4 := Lib.hid ((HB3.out.trans (hT3.below (B := w.heap.size) (by omega) (fun k hk => by omega))).trans (hb4.mono (by omega)))
    have HG := Lib.hid (gets_dec HG0.out HG1.out hG2)
    have HCU := Lib.hid (And.intro (hC.1.grew hb4) (hU.1.grewD hb4))
    have hs4 : w3.heap.size < (w3.alloc (.cells #[u0, u1] 27)).heap.size := by simp
    subst e0 e1
    clear hG2 hS3 hT3 K2 HB3 LU HG0 HG1 HC hC hU hb4
    go_upto_region 6 with fail
    generalize w3.alloc _ = w4 at *
    generalize w3.heap.size = bp at *
    cases s2 with
    | error x =>
      have HX := Lib.hid (dec_of_err hl HG.out.err)
      obtain ⟨c2, ne0, _, q, hq6, cc1⟩ := hS4.errC
      have HS4 := Lib.hid hS4
      clear hS4 kP HG HCU
      by_cases hq : q < bs.length
      · have hq' : (q : Int) < (bs.length : Int) := by omega
        go_wp2_with fail
        refine (HS4.out.failed (q : Int) 11 (by decide)).mono ?_
        rintro e' w5 ⟨⟨u5, rfl⟩, hS5, hT5⟩
        change RdS 48 w5 B (w.heap.size + 1) bs (.error x) at hS5
        have K5 := K3.out.touch hT5 (by omega)
        have HB5 := HB4.out.trans (hT5.below (B := w.heap.size) (by omega) (fun k hk => by omega))
        clear HS4 K3 HB4 c2 cc1 hT5
        obtain ⟨pq, _, hA5⟩ := (show ∃ pq : Nat, pq ≤ bs.length ∧ RdAt 48 w5 B (w.heap.size + 1) bs (pq : Int) x.1 x.2 from hS5.2)
        obtain ⟨v5, kA, _⟩ := hA5.ex
        have HNE : Hid (x.1 ≠ (0 : Int)) := hS5.1
        have ne5 : (x.1 != (0 : Int)) = true := bne_iff_ne.2 hS5.1
        have d2 := kA.val 2 rfl
        have d3 := kA.val 3 rfl
        have r0 := K5.val 0 rfl
        have r1 := K5.val 1 rfl
        have f0 := K5.frozen 0
        have f1 := K5.frozen 1
        have hT6 := ((Touch.refl (fun y => w.heap.size ≤ y) w5).setCell (p := ⟨w.heap.size, 0, none⟩) (Nat.le_refl _) (.slice none 0 0)).setCell (p := ⟨w.heap.size, 1, none⟩) (Nat.le_refl _) (.slice none 0 0)
        have HE := Lib.hid (HB5.trans (hT6.below HB5.size (fun k hk => hk))).drew
        have HZ := Lib.hid ((K5.set 0 (.slice none 0 0)).set 1 (.slice none 0 0)).drew
        have HS : Hid (w5.drew.cell? ⟨w.heap.size + 1, 2, none⟩ = some (.int .i64 x.1) ∧ w5.drew.cell? ⟨w.heap.size + 1, 3, none⟩ = some (.int .i64 x.2)) := ⟨d2, d3⟩
        clear hS5 hA5 kA K5 HB5 hT6
        go_upto_region 9 with fail
        refine wp_region_held_drew (S := (fun W' => W'.cell? ⟨w.heap.size + 1, 2, none⟩ = some (.int .i64 x.1) ∧ W'.cell? ⟨w.heap.size + 1, 3, none⟩ = some (.int .i64 x.2))) (by kernel_rfl) HS.out (fun hHeld => ?_)
        refine wpAnyH_take (i := 0) (oi := _) (v := ?_) (op_atC rfl) (by kernel_rfl) (by kernel_rfl) (by kernel_rfl) (fun _ _ _ h => h) (Or.inl ⟨by rfl, ?_⟩) hHeld ?_
        rotate_left 1
        focus (intro W hSw; (try dsimp only at hSw); go_simp; (try (with_reducible rfl)))
        (try simp only [Act.put, List.setIfInBounds_toArray, List.set_cons_zero, List.set_cons_succ])
        refine wpAnyH_take (i := 1) (oi := _) (v := ?_) (op_atC rfl) (by kernel_rfl) (by kernel_rfl) (by kernel_rfl) (fun _ _ _ h => h) (Or.inl ⟨by rfl, ?_⟩) hHeld ?_
        rotate_left 1
        focus (intro W hSw; (try dsimp only at hSw); go_simp; (try (with_reducible rfl)))
        (try simp only [Act.put, List.setIfInBounds_toArray, List.set_cons_zero, List.set_cons_succ])
        refine wpAnyH_take (i := 2) (oi := _) (v := ?_) (op_atC rfl) (by kernel_rfl) (by kernel_rfl) (by kernel_rfl) (fun _ _ _ h => h) (Or.inl ⟨by rfl, ?_⟩) hHeld ?_
        rotate_left 1
        focus (intro W hSw; (try dsimp only at hSw); go_simp; (try (with_reducible rfl)))
        (try simp only [Act.put, List.setIfInBounds_toArray, List.set_cons_zero, List.set_cons_succ])
        refine wpAnyH_take (i := 3) (oi := _) (v := ?_) (op_atC rfl) (by kernel_rfl) (by kernel_rfl) (by kernel_rfl) (fun _ _ _ h => h) (Or.inl ⟨by rfl, ?_⟩) hHeld ?_
        rotate_left 1
        focus (intro W hSw; (try dsimp only at hSw); go_simp; (try (with_reducible rfl)))
        (try simp only [Act.put, List.setIfInBounds_toArray, List.set_cons_zero, List.set_cons_succ])
        refine wpAnyH_take (i := 4) (oi := _) (v := ?_) (op_atC rfl) (by kernel_rfl) (by kernel_rfl) (by kernel_rfl) (fun _ _ _ h => h) (Or.inl ⟨by rfl, ?_⟩) hHeld ?_
        rotate_left 1
        focus (intro W hSw; (try dsimp only at hSw); go_simp; (try (with_reducible rfl)))
        (try simp only [Act.put, List.setIfInBounds_toArray, List.set_cons_zero, List.set_cons_succ])
        refine wpAnyH_take (i := 5) (oi := _) (v := ?_) (op_atC rfl) (by kernel_rfl) (by kernel_rfl) (by kernel_rfl) (fun _ _ _ h => h) (Or.inl ⟨by rfl, ?_⟩) hHeld ?_
        rotate_left 1
        focus (intro W hSw; (try dsimp only at hSw); go_simp; (try (with_reducible rfl)))
        (try simp only [Act.put, List.setIfInBounds_toArray, List.set_cons_zero, List.set_cons_succ])
        refine wpAnyH_take (i := 6) (oi := _) (v := ?_) (op_atC rfl) (by kernel_rfl) (by kernel_rfl) (by kernel_rfl) (fun _ _ _ h => h) (Or.inl ⟨by rfl, ?_⟩) hHeld ?_
        rotate_left 1
        focus (intro W hSw; (try dsimp only at hSw); go_simp; (try (with_reducible rfl)))
        (try simp only [Act.put, List.setIfInBounds_toArray, List.set_cons_zero, List.set_cons_succ])
        refine wpAnyH_take (i := 7) (oi := _) (v := ?_) (op_atC rfl) (by kernel_rfl) (by kernel_rfl) (by kernel_rfl) (fun _ _ _ h => h) (Or.inl ⟨by rfl, ?_⟩) hHeld ?_
        rotate_left 1
        focus (intro W hSw; (try dsimp only at hSw); go_simp; (try (with_reducible rfl)))
        (try simp only [Act.put, List.setIfInBounds_toArray, List.set_cons_zero, List.set_cons_succ])
        refine wpAnyH_take (i := 8) (oi := _) (v := ?_) (op_atC rfl) (by kernel_rfl) (by kernel_rfl) (by kernel_rfl) (fun _ _ _ h => h) (Or.inl ⟨by rfl, ?_⟩) hHeld ?_
        rotate_left 1
        focus (intro W hSw; (try dsimp only at hSw); go_simp; (try (with_reducible rfl)))
        (try simp only [Act.put, List.setIfInBounds_toArray, List.set_cons_zero, List.set_cons_succ])
        refine wpAnyH_ready (rs := [9]) (by kernel_rfl) (by simp) ?_
        refine AllReadyH.cons (o := _) (op_atC rfl) (fun Kc hKc => ?_) AllReadyH.nil
        go_simp
        refine hKc.out _ _ ?_ (fun hHeld' => ?_)
        focus exact ⟨(World.cell?_setCell_far _ _ _ _ (show w.heap.size ≠ w.heap.size + 1 by omega)).trans ((World.cell?_setCell_far _ _ _ _ (show w.heap.size ≠ w.heap.size + 1 by omega)).trans hHeld.1), (World.cell?_setCell_far _ _ _ _ (show w.heap.size ≠ w.heap.size + 1 by omega)).trans ((World.cell?_setCell_far _ _ _ _ (show w.heap.size ≠ w.heap.size + 1 by omega)).trans hHeld.2)⟩
        clear hHeld
        have hHeld := hHeld'
        clear hHeld' hKc Kc
        (try simp only [Act.put, List.setIfInBounds_toArray, List.set_cons_zero, List.set_cons_succ])
        refine wpAnyH_take (i := 10) (oi := _) (v := ?_) (op_atC rfl) (by kernel_rfl) (by kernel_rfl) (by kernel_rfl) (fun _ _ _ h => h) (Or.inl ⟨by rfl, ?_⟩) hHeld ?_
        rotate_left 1
        focus (intro W hSw; (try dsimp only at hSw); go_simp; (try (with_reducible rfl)))
        (try simp only [Act.put, List.setIfInBounds_toArray, List.set_cons_zero, List.set_cons_succ])
        refine wpAnyH_take (i := 11) (oi := _) (v := ?_) (op_atC rfl) (by kernel_rfl) (by kernel_rfl) (by kernel_rfl) (fun _ _ _ h => h) (Or.inl ⟨by rfl, ?_⟩) hHeld ?_
        rotate_left 1
        focus (intro W hSw; (try dsimp only at hSw); go_simp; (try (with_reducible rfl)))
        (try simp only [Act.put, List.setIfInBounds_toArray, List.set_cons_zero, List.set_cons_succ])
        refine wpAnyH_done (by kernel_rfl) ?_ _
        clear hHeld
        go_wp2
        generalize World.drew (World.setCell (World.setCell _ _ _) _ _) = W9 at *
        have z0 := HZ.out.val 0 rfl
        have z1 := HZ.out.val 1 rfl
        refine bodyPost_ret (v := .tuple #[.agg #[.slice none 0 0, .slice none 0 0], .int .i64 x.2, .int .i64 x.1]) (by simp [results, Try.results6, go_sem, z0, z1]) rfl ?_
        unfold DecPost
        rw [HX.out]
        exact ⟨⟨HNE.out, rfl⟩, HE.out⟩
      · have hq' : ¬ (q : Int) < (bs.length : Int) := by omega
        go_upto_region 8 with fail
        have hS5 := HS4.out
        have K5 := K3.out
        have HB5 := HB4.out
        clear HS4 K3 HB4 c2 cc1
        generalize w4 = w5 at *
        obtain ⟨pq, _, hA5⟩ := (show ∃ pq : Nat, pq ≤ bs.length ∧ RdAt 48 w5 B (w.heap.size + 1) bs (pq : Int) x.1 x.2 from hS5.2)
        obtain ⟨v5, kA, _⟩ := hA5.ex
        have HNE : Hid (x.1 ≠ (0 : Int)) := hS5.1
        have ne5 : (x.1 != (0 : Int)) = true := bne_iff_ne.2 hS5.1
        have d2 := kA.val 2 rfl
        have d3 := kA.val 3 rfl
        have r0 := K5.val 0 rfl
        have r1 := K5.val 1 rfl
        have f0 := K5.frozen 0
        have f1 := K5.frozen 1
        have hT6 := ((Touch.refl (fun y => w.heap.size ≤ y) w5).setCell (p := ⟨w.heap.size, 0, none⟩) (Nat.le_refl _) (.slice none 0 0)).setCell (p := ⟨w.heap.size, 1, none⟩) (Nat.le_refl _) (.slice none 0 0)
        have HE := Lib.hid (HB5.trans (hT6.below HB5.size (fun k hk => hk))).drew
        have HZ := Lib.hid ((K5.set 0 (.slice none 0 0)).set 1 (.slice none 0 0)).drew
        have HS : Hid (w5.drew.cell? ⟨w.heap.size + 1, 2, none⟩ = some (.int .i64 x.1) ∧ w5.drew.cell? ⟨w.heap.size + 1, 3, none⟩ = some (.int .i64 x.2)) := ⟨d2, d3⟩
        clear hS5 hA5 kA K5 HB5 hT6
        go_upto_region 9 with fail
        refine wp_region_held_drew (S := (fun W' => W'.cell? ⟨w.heap.size + 1, 2, none⟩ = some (.int .i64 x.1) ∧ W'.cell? ⟨w.heap.size + 1, 3, none⟩ = some (.int .i64 x.2))) (by kernel_rfl) HS.out (fun hHeld => ?_)
        refine wpAnyH_take (i := 0) (oi := _) (v := ?_) (op_atC rfl) (by kernel_rfl) (by kernel_rfl) (by kernel_rfl) (fun _ _ _ h => h) (Or.inl ⟨by rfl, ?_⟩) hHeld ?_
        rotate_left 1
        focus (intro W hSw; (try dsimp only at hSw); go_simp; (try (with_reducible rfl)))
        (try simp only [Act.put, List.setIfInBounds_toArray, List.set_cons_zero, List.set_cons_succ])
        refine wpAnyH_take (i := 1) (oi := _) (v := ?_) (op_atC rfl) (by kernel_rfl) (by kernel_rfl) (by kernel_rfl) (fun _ _ _ h => h) (Or.inl ⟨by rfl, ?_⟩) hHeld ?_
        rotate_left 1
        focus (intro W hSw; (try dsimp only at hSw); go_simp; (try (with_reducible rfl)))
        (try simp only [Act.put, List.setIfInBounds_toArray, List.set_cons_zero, List.set_cons_succ])
        refine wpAnyH_take (i := 2) (oi := _) (v := ?_) (op_atC rfl) (by kernel_rfl) (by kernel_rfl) (by kernel_rfl) (fun _ _ _ h => h) (Or.inl ⟨by rfl, ?_⟩) hHeld ?_
        rotate_left 1
        focus (intro W hSw; (try dsimp only at hSw); go_simp; (try (with_reducible rfl)))
        (try simp only [Act.put, List.setIfInBounds_toArray, List.set_cons_zero, List.set_cons_succ])
        refine wpAnyH_take (i := 3) (oi := _) (v := ?_) (op_atC rfl) (by kernel_rfl) (by kernel_rfl) (by kernel_rfl) (fun _ _ _ h => h) (Or.inl ⟨by rfl, ?_⟩) hHeld ?_
        rotate_left 1
        focus (intro W hSw; (try dsimp only at hSw); go_simp; (try (with_reducible rfl)))
        (try simp only [Act.put, List.setIfInBounds_toArray, List.set_cons_zero, List.set_cons_succ])
        refine wpAnyH_take (i := 4) (oi := _) (v := ?_) (op_atC rfl) (by kernel_rfl) (by kernel_rfl) (by kernel_rfl) (fun _ _ _ h => h) (Or.inl ⟨by rfl, ?_⟩) hHeld ?_
        rotate_left 1
        focus (intro W hSw; (try dsimp only at hSw); go_simp; (try (with_reducible rfl)))
        (try simp only [Act.put, List.setIfInBounds_toArray, List.set_cons_zero, List.set_cons_succ])
        refine wpAnyH_take (i := 5) (oi := _) (v := ?_) (op_atC rfl) (by kernel_rfl) (by kernel_rfl) (by kernel_rfl) (fun _ _ _ h => h) (Or.inl ⟨by rfl, ?_⟩) hHeld ?_
        rotate_left 1
        focus (intro W hSw; (try dsimp only at hSw); go_simp; (try (with_reducible rfl)))
        (try simp only [Act.put, List.setIfInBounds_toArray, List.set_cons_zero, List.set_cons_succ])
        refine wpAnyH_take (i := 6) (oi := _) (v := ?_) (op_atC rfl) (by kernel_rfl) (by kernel_rfl) (by kernel_rfl) (fun _ _ _ h => h) (Or.inl ⟨by rfl, ?_⟩) hHeld ?_
        rotate_left 1
        focus (intro W hSw; (try dsimp only at hSw); go_simp; (try (with_reducible rfl)))
        (try simp only [Act.put, List.setIfInBounds_toArray, List.set_cons_zero, List.set_cons_succ])
        refine wpAnyH_take (i := 7) (oi := _) (v := ?_) (op_atC rfl) (by kernel_rfl) (by kernel_rfl) (by kernel_rfl) (fun _ _ _ h => h) (Or.inl ⟨by rfl, ?_⟩) hHeld ?_
        rotate_left 1
        focus (intro W hSw; (try dsimp only at hSw); go_simp; (try (with_reducible rfl)))
        (try simp only [Act.put, List.setIfInBounds_toArray, List.set_cons_zero, List.set_cons_succ])
        refine wpAnyH_take (i := 8) (oi := _) (v := ?_) (op_atC rfl) (by kernel_rfl) (by kernel_rfl) (by kernel_rfl) (fun _ _ _ h => h) (Or.inl ⟨by rfl, ?_⟩) hHeld ?_
        rotate_left 1
        focus (intro W hSw; (try dsimp only at hSw); go_simp; (try (with_reducible rfl)))
        (try simp only [Act.put, List.setIfInBounds_toArray, List.set_cons_zero, List.set_cons_succ])
        refine wpAnyH_ready (rs := [9]) (by kernel_rfl) (by simp) ?_
        refine AllReadyH.cons (o := _) (op_atC rfl) (fun Kc hKc => ?_) AllReadyH.nil
        go_simp
        refine hKc.out _ _ ?_ (fun hHeld' => ?_)
        focus exact ⟨(World.cell?_setCell_far _ _ _ _ (show w.heap.size ≠ w.heap.size + 1 by omega)).trans ((World.cell?_setCell_far _ _ _ _ (show w.heap.size ≠ w.heap.size + 1 by omega)).trans hHeld.1), (World.cell?_setCell_far _ _ _ _ (show w.heap.size ≠ w.heap.size + 1 by omega)).trans ((World.cell?_setCell_far _ _ _ _ (show w.heap.size ≠ w.heap.size + 1 by omega)).trans hHeld.2)⟩
        clear hHeld
        have hHeld := hHeld'
        clear hHeld' hKc Kc
        (try simp only [Act.put, List.setIfInBounds_toArray, List.set_cons_zero, List.set_cons_succ])
        refine wpAnyH_take (i := 10) (oi := _) (v := ?_) (op_atC rfl) (by kernel_rfl) (by kernel_rfl) (by kernel_rfl) (fun _ _ _ h => h) (Or.inl ⟨by rfl, ?_⟩) hHeld ?_
        rotate_left 1
        focus (intro W hSw; (try dsimp only at hSw); go_simp; (try (with_reducible rfl)))
        (try simp only [Act.put, List.setIfInBounds_toArray, List.set_cons_zero, List.set_cons_succ])
        refine wpAnyH_take (i := 11) (oi := _) (v := ?_) (op_atC rfl) (by kernel_rfl) (by kernel_rfl) (by kernel_rfl) (fun _ _ _ h => h) (Or.inl ⟨by rfl, ?_⟩) hHeld ?_
        rotate_left 1
        focus (intro W hSw; (try dsimp only at hSw); go_simp; (try (with_reducible rfl)))
        (try simp only [Act.put, List.setIfInBounds_toArray, List.set_cons_zero, List.set_cons_succ])
        refine wpAnyH_done (by kernel_rfl) ?_ _
        clear hHeld
        go_wp2
        generalize World.drew (World.setCell (World.setCell _ _ _) _ _) = W9 at *
        have z0 := HZ.out.val 0 rfl
        have z1 := HZ.out.val 1 rfl
        refine bodyPost_ret (v := .tuple #[.agg #[.slice none 0 0, .slice none 0 0], .int .i64 x.2, .int .i64 x.1]) (by simp [results, Try.results6, go_sem, z0, z1]) rfl ?_
        unfold DecPost
        rw [HX.out]
        exact ⟨⟨HNE.out, rfl⟩, HE.out⟩
    | ok q =>
      have HOK := HG.out.ok
      have HX := Lib.hid (dec_of_ok hl HOK)
      obtain ⟨c2, cc1, hq6⟩ := hS4.okC
      have HS4 := Lib.hid hS4
      by_cases hq : q < bs.length
      · have hq' : (q : Int) < (bs.length : Int) := by omega
        replace HX : Hid (decD bs = .error (11, (q : Int))) := HX.out.trans (if_pos hq)
        clear hS4 kP HG HCU HOK
        go_wp2_with fail
        refine (HS4.out.failed (q : Int) 11 (by decide)).mono ?_
        rintro e' w5 ⟨⟨u5, rfl⟩, hS5, hT5⟩
        change RdS 48 w5 B (w.heap.size + 1) bs (.error (11, (q : Int))) at hS5
        have K5 := K3.out.touch hT5 (by omega)
        have HB5 := HB4.out.trans (hT5.below (B := w.heap.size) (by omega) (fun k hk => by omega))
        clear HS4 K3 HB4 c2 cc1 hT5
        obtain ⟨pq, _, hA5⟩ := (show ∃ pq : Nat, pq ≤ bs.length ∧ RdAt 48 w5 B (w.heap.size + 1) bs (pq : Int) (11 : Int) (q : Int) from hS5.2)
        obtain ⟨v5, kA, _⟩ := hA5.ex
        have HNE : Hid ((11 : Int) ≠ (0 : Int)) := hS5.1
        have ne5 : ((11 : Int) != (0 : Int)) = true := bne_iff_ne.2 hS5.1
        have d2 := kA.val 2 rfl
        have d3 := kA.val 3 rfl
        have r0 := K5.val 0 rfl
        have r1 := K5.val 1 rfl
        have f0 := K5.frozen 0
        have f1 := K5.frozen 1
        have hT6 := ((Touch.refl (fun y => w.heap.size ≤ y) w5).setCell (p := ⟨w.heap.size, 0, none⟩) (Nat.le_refl _) (.slice none 0 0)).setCell (p := ⟨w.heap.size, 1, none⟩) (Nat.le_refl _) (.slice none 0 0)
        have HE := Lib.hid (HB5.trans (hT6.below HB5.size (fun k hk => hk))).drew
        have HZ := Lib.hid ((K5.set 0 (.slice none 0 0)).set 1 (.slice none 0 0)).drew
        have HS : Hid (w5.drew.cell? ⟨w.heap.size + 1, 2, none⟩ = some (.int .i64 (11 : Int)) ∧ w5.drew.cell? ⟨w.heap.size + 1, 3, none⟩ = some (.int .i64 (q : Int))) := ⟨d2, d3⟩
        clear hS5 hA5 kA K5 HB5 hT6
        go_upto_region 9 with fail
        refine wp_region_held_drew (S := (fun W' => W'.cell? ⟨w.heap.size + 1, 2, none⟩ = some (.int .i64 (11 : Int)) ∧ W'.cell? ⟨w.heap.size + 1, 3, none⟩ = some (.int .i64 (q : Int)))) (by kernel_rfl) HS.out (fun hHeld => ?_)
        refine wpAnyH_take (i := 0) (oi := _) (v := ?_) (op_atC rfl) (by kernel_rfl) (by kernel_rfl) (by kernel_rfl) (fun _ _ _ h => h) (Or.inl ⟨by rfl, ?_⟩) hHeld ?_
        rotate_left 1
        focus (intro W hSw; (try dsimp only at hSw); go_simp; (try (with_reducible rfl)))
        (try simp only [Act.put, List.setIfInBounds_toArray, List.set_cons_zero, List.set_cons_succ])
        refine wpAnyH_take (i := 1) (oi := _) (v := ?_) (op_atC rfl) (by kernel_rfl) (by kernel_rfl) (by kernel_rfl) (fun _ _ _ h => h) (Or.inl ⟨by rfl, ?_⟩) hHeld ?_
        rotate_left 1
        focus (intro W hSw; (try dsimp only at hSw); go_simp; (try (with_reducible rfl)))
        (try simp only [Act.put, List.setIfInBounds_toArray, List.set_cons_zero, List.set_cons_succ])
        refine wpAnyH_take (i := 2) (oi := _) (v := ?_) (op_atC rfl) (by kernel_rfl) (by kernel_rfl) (by kernel_rfl) (fun _ _ _ h => h) (Or.inl ⟨by rfl, ?_⟩) hHeld ?_
        rotate_left 1
        focus (intro W hSw; (try dsimp only at hSw); go_simp; (try (with_reducible rfl)))
        (try simp only [Act.put, List.setIfInBounds_toArray, List.set_cons_zero, List.set_cons_succ])
        refine wpAnyH_take (i := 3) (oi := _) (v := ?_) (op_atC rfl) (by kernel_rfl) (by kernel_rfl) (by kernel_rfl) (fun _ _ _ h => h) (Or.inl ⟨by rfl, ?_⟩) hHeld ?_
        rotate_left 1
        focus (intro W hSw; (try dsimp only at hSw); go_simp; (try (with_reducible rfl)))
        (try simp only [Act.put, List.setIfInBounds_toArray, List.set_cons_zero, List.set_cons_succ])
        refine wpAnyH_take (i := 4) (oi := _) (v := ?_) (op_atC rfl) (by kernel_rfl) (by kernel_rfl) (by kernel_rfl) (fun _ _ _ h => h) (Or.inl ⟨by rfl, ?_⟩) hHeld ?_
        rotate_left 1
        focus (intro W hSw; (try dsimp only at hSw); go_simp; (try (with_reducible rfl)))
        (try simp only [Act.put, List.setIfInBounds_toArray, List.set_cons_zero, List.set_cons_succ])
        refine wpAnyH_take (i := 5) (oi := _) (v := ?_) (op_atC rfl) (by kernel_rfl) (by kernel_rfl) (by kernel_rfl) (fun _ _ _ h => h) (Or.inl ⟨by rfl, ?_⟩) hHeld ?_
        rotate_left 1
        focus (intro W hSw; (try dsimp only at hSw); go_simp; (try (with_reducible rfl)))
        (try simp only [Act.put, List.setIfInBounds_toArray, List.set_cons_zero, List.set_cons_succ])
        refine wpAnyH_take (i := 6) (oi := _) (v := ?_) (op_atC rfl) (by kernel_rfl) (by kernel_rfl) (by kernel_rfl) (fun _ _ _ h => h) (Or.inl ⟨by rfl, ?_⟩) hHeld ?_
        rotate_left 1
        focus (intro W hSw; (try dsimp only at hSw); go_simp; (try (with_reducible rfl)))
        (try simp only [Act.put, List.setIfInBounds_toArray, List.set_cons_zero, List.set_cons_succ])
        refine wpAnyH_take (i := 7) (oi := _) (v := ?_) (op_atC rfl) (by kernel_rfl) (by kernel_rfl) (by kernel_rfl) (fun _ _ _ h => h) (Or.inl ⟨by rfl, ?_⟩) hHeld ?_
        rotate_left 1
        focus (intro W hSw; (try dsimp only at hSw); go_simp; (try (with_reducible rfl)))
        (try simp only [Act.put, List.setIfInBounds_toArray, List.set_cons_zero, List.set_cons_succ])
        refine wpAnyH_take (i := 8) (oi := _) (v := ?_) (op_atC rfl) (by kernel_rfl) (by kernel_rfl) (by kernel_rfl) (fun _ _ _ h => h) (Or.inl ⟨by rfl, ?_⟩) hHeld ?_
        rotate_left 1
        focus (intro W hSw; (try dsimp only at hSw); go_simp; (try (with_reducible rfl)))
        (try simp only [Act.put, List.setIfInBounds_toArray, List.set_cons_zero, List.set_cons_succ])
        refine wpAnyH_ready (rs := [9]) (by kernel_rfl) (by simp) ?_
        refine AllReadyH.cons (o := _) (op_atC rfl) (fun Kc hKc => ?_) AllReadyH.nil
        go_simp
        refine hKc.out _ _ ?_ (fun hHeld' => ?_)
        focus exact ⟨(World.cell?_setCell_far _ _ _ _ (show w.heap.size ≠ w.heap.size + 1 by omega)).trans ((World.cell?_setCell_far _ _ _ _ (show w.heap.size ≠ w.heap.size + 1 by omega)).trans hHeld.1), (World.cell?_setCell_far _ _ _ _ (show w.heap.size ≠ w.heap.size + 1 by omega)).trans ((World.cell?_setCell_far _ _ _ _ (show w.heap.size ≠ w.heap.size + 1 by omega)).trans hHeld.2)⟩
        clear hHeld
        have hHeld := hHeld'
        clear hHeld' hKc Kc
        (try simp only [Act.put, List.setIfInBounds_toArray, List.set_cons_zero, List.set_cons_succ])
        refine wpAnyH_take (i := 10) (oi := _) (v := ?_) (op_atC rfl) (by kernel_rfl) (by kernel_rfl) (by kernel_rfl) (fun _ _ _ h => h) (Or.inl ⟨by rfl, ?_⟩) hHeld ?_
        rotate_left 1
        focus (intro W hSw; (try dsimp only at hSw); go_simp; (try (with_reducible rfl)))
        (try simp only [Act.put, List.setIfInBounds_toArray, List.set_cons_zero, List.set_cons_succ])
        refine wpAnyH_take (i := 11) (oi := _) (v := ?_) (op_atC rfl) (by kernel_rfl) (by kernel_rfl) (by kernel_rfl) (fun _ _ _ h => h) (Or.inl ⟨by rfl, ?_⟩) hHeld ?_
        rotate_left 1
        focus (intro W hSw; (try dsimp only at hSw); go_simp; (try (with_reducible rfl)))
        (try simp only [Act.put, List.setIfInBounds_toArray, List.set_cons_zero, List.set_cons_succ])
        refine wpAnyH_done (by kernel_rfl) ?_ _
        clear hHeld
        go_wp2
        generalize World.drew (World.setCell (World.setCell _ _ _) _ _) = W9 at *
        have z0 := HZ.out.val 0 rfl
        have z1 := HZ.out.val 1 rfl
        refine bodyPost_ret (v := .tuple #[.agg #[.slice none 0 0, .slice none 0 0], .int .i64 (q : Int), .int .i64 (11 : Int)]) (by simp [results, Try.results6, go_sem, z0, z1]) rfl ?_
        unfold DecPost
        rw [HX.out]
        exact ⟨⟨HNE.out, rfl⟩, HE.out⟩
      · have hq' : ¬ (q : Int) < (bs.length : Int) := by omega
        replace HX : Hid (decD bs = .ok (PrgD.mk (lc.map fun x => x.1) (lf.map fun x => x.1))) := HX.out.trans (if_neg hq)
        have y0 := kP.val 0 rfl
        have y1 := kP.val 1 rfl
        have r0 := K3.out.val 0 rfl
        have r1 := K3.out.val 1 rfl
        have f0 := K3.out.frozen 0
        have f1 := K3.out.frozen 1
        have hT6 := ((Touch.refl (fun y => y = w.heap.size) w4).setCell (p := ⟨w.heap.size, 0, none⟩) rfl (.slice a0 lc.length c0)).setCell (p := ⟨w.heap.size, 1, none⟩) rfl (.slice a1 lf.length c1)
        have HZ := Lib.hid ((K3.out.set 0 (.slice a0 lc.length c0)).set 1 (.slice a1 lf.length c1))
        have HB6 := Lib.hid (HB4.out.trans (hT6.below (B := w.heap.size) (by omega) (fun k hk => by omega)))
        have HP := Lib.hid (prg_own (p := ⟨lc.map fun x => x.1, lf.map fun x => x.1⟩) (HCU.out.1.touch hT6 (fun g h1 _ e => by omega)) (HCU.out.2.touch hT6 (fun g h1 _ e => by omega)) rfl rfl (decI_ok HOK).1)
        clear hS4 kP HG HCU HOK hT6 K3 HB4 HS4
        go_wp2
        generalize World.setCell (World.setCell _ _ _) _ _ = W9 at *
        have z0 := HZ.out.val 0 rfl
        have z1 := HZ.out.val 1 rfl
        refine bodyPost_ret (v := .tuple #[.agg #[.slice a0 lc.length c0, .slice a1 lf.length c1], .int .i64 0, .int .i64 0]) (by simp [results, Try.results6, go_sem, z0, z1]) rfl ?_
        unfold DecPost
        rw [HX.out]
        exact ⟨⟨_, _, rfl, HP.out⟩, HB6.out⟩
end Go.Proofs.Ytffelcidckbohaa
/- Bytes as an argument; what Decode answers, as values. No condition. -/
namespace Go.Proofs.Ytffelcidckbohaa
open Go.RowKit
set_option linter.unusedVariables false
def byL (zs : List Int) : List UInt8 := zs.map fun z => UInt8.ofNat z.toNat
theorem isrow_by {w : World} {a : Option Addr} {len cap : Nat} {zs : List Int} (h : IsRow .u8 w a len cap zs) : RdBy w.heap.size w (.slice a len cap) (byL (zs.take len)) ∧ (byL (zs.take len)).length = len := by
  rcases h with ⟨rfl, rfl, rfl, rfl⟩ | ⟨x, rfl, hl, hm, hz, hc, hw⟩
  · exact ⟨⟨⟨none, 0, rfl, by unfold maxLen; simp [byL], fun i hi => absurd hi (by simp [byL])⟩, none, 0, 0, rfl, Nat.le_refl _⟩, rfl⟩
  · have hlen : (byL (zs.take len)).length = len := by unfold byL; rw [List.length_map, List.length_take]; omega
    refine ⟨⟨⟨some x, cap, by rw [hlen], by omega, fun i hi => ?_⟩, some x, len, cap, rfl, hl⟩, hlen⟩
    rw [hlen] at hi
    obtain ⟨b, o, s⟩ := x
    have hs : s = none := by simpa [Addr.add] using World.cell?_spot (hc 0 (by omega))
    subst hs
    have h1 := hc i (by omega)
    rw [add_at] at h1
    refine ⟨b, o, rfl, World.block_lt_of_cell? w _ h1, ?_⟩
    have hwf := hw (zs[i]'(by omega)) (List.getElem_mem _)
    simp [Lit.wf, IntKind.min, IntKind.max, IntKind.signed, IntKind.bits] at hwf
    unfold ElB
    rw [Nat.mul_one, h1]
    have e : ((byL (zs.take len))[i]'(by rw [hlen]; exact hi)) = UInt8.ofNat (zs[i]'(by omega)).toNat := by
      unfold byL
      rw [List.getElem_map, List.getElem_take]
    rw [e, List.getD_eq_getElem?_getD, List.getElem?_eq_getElem (by omega)]
    simp
    omega
def decP (r : Except DErr PrgD) : PrgD := match r with | .ok p => p | .error _ => ⟨[], []⟩
def decA (r : Except DErr PrgD) : Int := match r with | .ok _ => 0 | .error x => x.2
def decE (r : Except DErr PrgD) : Int := match r with | .ok _ => 0 | .error x => x.1
theorem DecPost.vals {r : Except DErr PrgD} {w : World} {e : Ending} {w' : World} (h : DecPost r w e w') : ∃ a0 c0 a1 c1, e = .returned (.tuple #[.agg #[.slice a0 (decP r).classes.length c0, .slice a1 (decP r).funcs.length c1], .int .i64 (decA r), .int .i64 (decE r)]) ∧ RdPrg w'.heap.size w' (.slice a0 (decP r).classes.length c0) (.slice a1 (decP r).funcs.length c1) (decP r) ∧ Below w.heap.size w w' := by
  obtain ⟨h1, h2⟩ := h
  cases r with
  | ok p =>
    obtain ⟨u0, u1, h3, h4⟩ := h1
    obtain ⟨a0, c0, rfl⟩ := rd_shape h4.1
    obtain ⟨a1, c1, rfl⟩ := rd_shape h4.2
    exact ⟨a0, c0, a1, c1, h3, h4, h2⟩
  | error x => exact ⟨none, 0, none, 0, h1.2, ⟨rd_nil _ _ _ _, rd_nil _ _ _ _⟩, h2⟩
end Go.Proofs.Ytffelcidckbohaa
/- Bytes of one's own as bytes that are read; CodeBack's mathematics, as the law asks. No condition. -/
namespace Go.Proofs.Ytffelcidckbohaa
open Go.RowKit
set_option linter.unusedVariables false
theorem u8L_at (l : List UInt8) (j : Nat) (hj : j < l.length) : (u8L l)[j]? = some (.int .u8 (l[j].toNat : Int)) := by unfold u8L; simp [hj]
theorem own_len {w : World} {B : Nat} {v : Value} {l : List UInt8} (h : w.ownsRow B 5 1 v l.length (u8L l)) : l.length ≤ maxLen := by
  rcases h.2 with ⟨_, e2⟩ | ⟨g, cap, cur, e1, e2, e3, e4, e5, _⟩
  · omega
  · omega
theorem own_by {w : World} {B B' : Nat} {v : Value} {l : List UInt8} (h : w.ownsRow B 5 1 v l.length (u8L l)) (hB : w.heap.size ≤ B') : RdBy B' w v l := by
  rcases Nat.eq_zero_or_pos l.length with h0 | h0
  · obtain ⟨a, c, rfl⟩ := row_shape h
    exact ⟨⟨a, c, rfl, by rw [h0]; unfold maxLen; omega, fun i hi => by omega⟩, a, l.length, c, rfl, by omega⟩
  · obtain ⟨g, cap, rfl, q1, q2, q3, q4, q5⟩ := own_cellG h h0
    refine ⟨⟨some ⟨g, 0, none⟩, cap, rfl, by omega, fun i hi => ⟨g, 0, rfl, by omega, ?_⟩⟩, _, _, _, rfl, q3⟩
    unfold ElB
    rw [Nat.mul_one, Nat.zero_add]
    exact q5 i _ (u8L_at l i hi)
theorem RdBy.take {B : Nat} {w : World} {a : Option Addr} {n c : Nat} {l : List UInt8} (h : RdBy B w (.slice a n c) l) (k : Nat) (hk : k ≤ n) : RdBy B w (.slice a k c) (l.take k) := by
  obtain ⟨⟨a', c', hv, hm, hall⟩, a2, n2, c2, hv2, hn2⟩ := h
  injection hv with e1 e2 e3
  subst e1 e2 e3
  injection hv2 with e1 e2 e3
  subst e1 e2 e3
  have hlen : (l.take k).length = k := by rw [List.length_take]; omega
  refine ⟨⟨a, c, by rw [hlen], by omega, fun i hi => ?_⟩, a, k, c, rfl, by omega⟩
  obtain ⟨b, o, h1, h2, h3⟩ := hall i (by omega)
  exact ⟨b, o, h1, h2, by rw [List.getElem_take]; exact h3⟩
theorem conv_by {w : World} {B : Nat} {v : Value} {l : List UInt8} (h : RdBy B w v l) : (convert 22 9 v).run Try.prog w = .ok (.string ⟨l.toArray⟩) w := by
  obtain ⟨⟨a, c, rfl, hm, hall⟩, _⟩ := h
  rcases Nat.eq_zero_or_pos l.length with h0 | h0
  · obtain rfl : l = [] := List.eq_nil_of_length_eq_zero h0
    cases a with
    | none => exact run_convert_bytes_string w 22 9 5 none 0 c Try.underlying22 Try.underlying5 Try.underlying9
    | some ad => exact run_convert_bytes_back w 22 9 5 ad c [] Try.underlying22 Try.underlying5 Try.underlying9 (fun j hj => absurd hj (by simp))
  · obtain ⟨b, o, rfl, _, _⟩ := hall 0 h0
    exact run_convert_bytes_back w 22 9 5 ⟨b, o, none⟩ c l Try.underlying22 Try.underlying5 Try.underlying9 (fun j hj => by
      obtain ⟨b', o', e, _, h3⟩ := hall j hj
      injection e with e
      injection e with e1 e2
      subst e1 e2
      unfold ElB at h3
      rw [Nat.mul_one] at h3
      rw [add_at]; exact h3)
theorem u8_one (l : List UInt8) : ∀ u ∈ u8L l, u.oneCell' = true := by
  intro u hu
  unfold u8L at hu
  simp at hu
  obtain ⟨x, _, rfl⟩ := hu
  rfl
theorem u8_cells {w : World} {g : Nat} {l : List UInt8} (h : ∀ j (hj : j < l.length), w.cell? ⟨g, j, none⟩ = some (.int .u8 (l[j].toNat : Int))) {j : Nat} {u : Value} (hu : (u8L l)[j]? = some u) : w.cell? ((⟨g, 0, none⟩ : Addr).add j) = some u := by
  have hj : j < l.length := by
    have := (List.getElem?_eq_some_iff.1 hu).1
    rw [u8L_len] at this
    exact this
  rw [u8L_at l j hj] at hu
  rw [add_at, Nat.zero_add, h j hj, hu]
theorem cell_alloc_below {w : World} (o : Obj) {g j : Nat} {v : Value} (h : w.cell? ⟨g, j, none⟩ = some v) : (w.alloc o).cell? ⟨g, j, none⟩ = some v := (((Below.refl w.heap.size w).alloc (Nat.le_refl _) o).cell (p := ⟨g, j, none⟩) (World.block_lt_of_cell? w _ h)).trans h
/-- a program's bytes: read as it; with a byte more, or without the last one, wrong -/
theorem cback_pure (p : PrgD) (l : List UInt8) (mb : UInt8) (hI : ∀ f ∈ p.funcs, ∀ i ∈ f.code, I64 i.a) (h : encE p = .ok l) (hl : l.length ≤ 60000) :
    0 < l.length ∧ decD l = .ok p ∧ decD (l ++ [mb]) = .error (11, (l.length : Int)) ∧ decD (l.take (l.length - 1)) = .error (10, ((l.length - 1 : Nat) : Int)) := by
  have h0 : 0 < l.length := by
    have e : encE p = andE (.ok magicL) (andE (clssE p) (funsE p)) := by unfold encE; rw [andE_assoc]
    rw [e] at h
    obtain ⟨x, y, h1, h2, rfl⟩ := andE_parts h
    injection h1 with h1
    subst h1
    simp [magicL]
  refine ⟨h0, ?_, ?_, ?_⟩
  · have := dec_enc hI h []
    rw [List.append_nil] at this
    unfold decD
    rw [if_neg (by omega), this]
    simp
  · have := dec_enc hI h [mb]
    unfold decD
    rw [if_neg (by simp; omega), this]
    simp
  · have := dec_cut (l := l.take (l.length - 1)) (t := l.drop (l.length - 1)) hI h (List.take_append_drop _ _).symm (by
      intro e
      have := congrArg List.length e
      simp at this
      omega)
    unfold decD
    rw [if_neg (by simp; omega), this]
    simp
end Go.Proofs.Ytffelcidckbohaa
/- The law CodeBack: a program that has bytes comes back from them; what is read has just these bytes; with a byte more, or without the last one, they are none. Condition: the arguments read as a program and as bytes. -/
namespace Go.Proofs.Ytffelcidckbohaa
open Go.RowKit
set_option linter.unusedVariables false
set_option maxRecDepth 100000 in
set_option maxHeartbeats 8000000 in
theorem cback_law (p : PrgD) (u0 u1 : Value) (a : Option Addr) (len cap : Nat) (zs : List Int) (m : Int) (w : World) (h1 : RdPrg w.heap.size w u0 u1 p) (h2 : IsRow .u8 w a len cap zs) (hm : (Lit.int .u8 m).wf = true) :
    Calls Try.prog 4 #[.agg #[u0, u1], .slice a len cap, .int .u8 m] w fun e w' => e = .returned (.bool true) ∧ Below w.heap.size w w' := by
  have hm2 : m = ((UInt8.ofNat m.toNat).toNat : Int) := by
    simp [Lit.wf, IntKind.min, IntKind.max, IntKind.signed, IntKind.bits] at hm
    simp
    omega
  generalize UInt8.ofNat m.toNat = mb at hm2
  subst hm2
  clear hm
  obtain ⟨hR, hlen⟩ := isrow_by h2
  generalize byL (zs.take len) = bs at *
  have hmx : len ≤ maxLen := by obtain ⟨⟨_, _, _, q, _⟩, _⟩ := hR; omega
  unfold maxLen at hmx
  obtain ⟨a0, c0, rfl⟩ := rd_shape h1.1
  obtain ⟨a1, c1, rfl⟩ := rd_shape h1.2
  have HI : Hid (∀ f ∈ p.funcs, ∀ i ∈ f.code, I64 i.a) := Lib.hid fun f hf i hi => ((okP_of h1).2 f hf).2.2.2 i hi |>.2.1
  have RP := Lib.hid (fun W (hb : Below w.heap.size w W) => h1.keep hb)
  have RB := Lib.hid (fun W (hb : Below w.heap.size w W) => hR.keep hb)
  have k1_0 : Blk (w.alloc (.cells #[.slice a0 p.classes.length c0, .slice a1 p.funcs.length c1] 27)) w.heap.size #[.slice a0 p.classes.length c0, .slice a1 p.funcs.length c1] 27 := Blk.new _ _ _
  have HB0 := Lib.hid ((Below.refl w.heap.size w).alloc (Nat.le_refl _) (.cells #[.slice a0 p.classes.length c0, .slice a1 p.funcs.length c1] 27))
  clear h1 h2 hR hlen
  go_enter Try.func4, Try.ntmps4
  go_wp2_with fail
  refine (coded_any _).mono ?_
  rintro e w1 ⟨rfl, hb1⟩
  have HB1 := Lib.hid (HB0.out.trans (hb1.mono HB0.out.size))
  have k1_1 := k1_0.grew hb1
  clear hb1 k1_0
  have x0 := k1_1.val 0 rfl
  have x1 := k1_1.val 1 rfl
  go_wp2_with fail
  refine (light_any p _ _ _ w.heap.size HB1.out.size (RP.out _ HB1.out)).mono ?_
  rintro e w2 ⟨lp, rfl, hb2⟩
  have HB2 := Lib.hid (HB1.out.trans (hb2.mono HB1.out.size))
  have k1_2 := k1_1.grew hb2
  clear hb2 k1_1 x0 x1 HB0 HB1
  have x0 := k1_2.val 0 rfl
  have x1 := k1_2.val 1 rfl
  cases lp with
  | false =>
    go_wp2_with fail
    refine (coded_any _).mono ?_
    rintro e w3 ⟨rfl, hb3⟩
    have HB3 := Lib.hid (HB2.out.trans (hb3.mono HB2.out.size))
    go_wp2
    go_ret
    exact ⟨rfl, HB3.out⟩
  | true =>
    by_cases hl : 20000 < len
    · have hl' : (20000 : Int) < (len : Int) := by omega
      go_wp2_with fail
      refine (coded_any _).mono ?_
      rintro e w3 ⟨rfl, hb3⟩
      have HB3 := Lib.hid (HB2.out.trans (hb3.mono HB2.out.size))
      go_wp2
      go_ret
      exact ⟨rfl, HB3.out⟩
    · have hl' : ¬ (20000 : Int) < (len : Int) := by omega
      have PR := Lib.hid (fun l => cback_pure p l mb HI.out)
      have EP := Lib.hid (encode_any p _ _ _ w.heap.size HB2.out.size (RP.out _ HB2.out))
      clear HI hl hmx
      generalize encE p = rp at *
      go_wp2_with fail
      refine EP.out.mono ?_
      rintro e w3 ⟨hr3, hb3⟩
      have HB := Lib.hid (HB2.out.trans (hb3.mono HB2.out.size))
      have k1_3 := k1_2.grew hb3
      have HL := Lib.hid hb3
      clear hb3 k1_2 x0 x1 EP HB2
      cases rp with
      | error x =>
        obtain ⟨hx, rfl⟩ := hr3
        have hx' : (x == 0) = false := by simpa using hx
        clear hx k1_3
        have D := Lib.hid (decode_any _ w.heap.size _ bs (RB.out _ HB.out) HB.out.size)
        clear PR
        generalize hd : decD bs = r at *
        have HD := Lib.hid hd
        clear hd
        go_wp2_with fail
        refine D.out.mono ?_
        intro e w9 hp
        cases r with
        | error x =>
          obtain ⟨⟨hx, rfl⟩, hb9⟩ := hp
          have hx' : (x.1 != 0) = true := by simpa using hx
          have HB9 := Lib.hid ((HB.out.trans (hb9.mono HB.out.size)).alloc (Nat.le_trans HB.out.size hb9.size) (.cells #[.slice none 0 0, .slice none 0 0] 27))
          have KQ := Blk.new w9 #[.slice none 0 0, .slice none 0 0] 27
          have q0 := KQ.val 0 rfl
          have q1 := KQ.val 1 rfl
          clear hx hb9 D KQ
          go_wp2
          go_ret
          exact ⟨rfl, HB9.out⟩
        | ok q =>
          obtain ⟨⟨v0, v1, rfl, hq⟩, hb9⟩ := hp
          obtain ⟨d0, e0, rfl⟩ := rd_shape hq.1
          obtain ⟨d1, e1, rfl⟩ := rd_shape hq.2
          have hbk := (Below.refl w9.heap.size w9).alloc (Nat.le_refl _) (.cells #[.slice d0 q.classes.length e0, .slice d1 q.funcs.length e1] 27)
          have EN := Lib.hid (encode_any q _ _ _ w9.heap.size hbk.size (hq.keep hbk))
          rw [enc_dec HD.out] at EN
          have HB9 := Lib.hid ((HB.out.trans (hb9.mono HB.out.size)).trans (hbk.mono (Nat.le_trans HB.out.size hb9.size)))
          have KQ := Blk.new w9 #[.slice d0 q.classes.length e0, .slice d1 q.funcs.length e1] 27
          have q0 := KQ.val 0 rfl
          have q1 := KQ.val 1 rfl
          clear hq hb9 hbk D KQ HD
          go_wp2_with fail
          refine EN.out.mono ?_
          rintro e w10 ⟨⟨vb, rfl, ho⟩, hb10⟩
          have HB10 := Lib.hid (HB9.out.trans (hb10.mono HB9.out.size))
          have BS := Lib.hid (bytes_same w10 _ _ _ (conv_rowD ho) (conv_by (RB.out _ HB10.out)))
          obtain ⟨va, vc, rfl⟩ := row_shape ho
          clear ho hb10 EN HB9 q0 q1
          go_wp2_with fail
          refine BS.out.mono ?_
          rintro e w11 ⟨rfl, rfl⟩
          go_wp2
          go_ret
          exact ⟨rfl, HB10.out⟩
      | ok l =>
        obtain ⟨v, rfl, ho⟩ := hr3
        obtain ⟨va, vc, rfl⟩ := row_shape ho
        have HO := Lib.hid ho
        have hmx : l.length ≤ maxLen := own_len ho
        unfold maxLen at hmx
        clear ho
        by_cases hn : 60000 < l.length
        · have hn' : ¬ (l.length : Int) ≤ 60000 := by omega
          clear k1_3
          have D := Lib.hid (decode_any _ w.heap.size _ bs (RB.out _ HB.out) HB.out.size)
          clear PR
          generalize hd : decD bs = r at *
          have HD := Lib.hid hd
          clear hd
          go_wp2_with fail
          refine D.out.mono ?_
          intro e w9 hp
          cases r with
          | error x =>
            obtain ⟨⟨hx, rfl⟩, hb9⟩ := hp
            have hx' : (x.1 != 0) = true := by simpa using hx
            have HB9 := Lib.hid ((HB.out.trans (hb9.mono HB.out.size)).alloc (Nat.le_trans HB.out.size hb9.size) (.cells #[.slice none 0 0, .slice none 0 0] 27))
            have KQ := Blk.new w9 #[.slice none 0 0, .slice none 0 0] 27
            have q0 := KQ.val 0 rfl
            have q1 := KQ.val 1 rfl
            clear hx hb9 D KQ
            go_wp2
            go_ret
            exact ⟨rfl, HB9.out⟩
          | ok q =>
            obtain ⟨⟨v0, v1, rfl, hq⟩, hb9⟩ := hp
            obtain ⟨d0, e0, rfl⟩ := rd_shape hq.1
            obtain ⟨d1, e1, rfl⟩ := rd_shape hq.2
            have hbk := (Below.refl w9.heap.size w9).alloc (Nat.le_refl _) (.cells #[.slice d0 q.classes.length e0, .slice d1 q.funcs.length e1] 27)
            have EN := Lib.hid (encode_any q _ _ _ w9.heap.size hbk.size (hq.keep hbk))
            rw [enc_dec HD.out] at EN
            have HB9 := Lib.hid ((HB.out.trans (hb9.mono HB.out.size)).trans (hbk.mono (Nat.le_trans HB.out.size hb9.size)))
            have KQ := Blk.new w9 #[.slice d0 q.classes.length e0, .slice d1 q.funcs.length e1] 27
            have q0 := KQ.val 0 rfl
            have q1 := KQ.val 1 rfl
            clear hq hb9 hbk D KQ HD
            go_wp2_with fail
            refine EN.out.mono ?_
            rintro e w10 ⟨⟨vb, rfl, ho⟩, hb10⟩
            have HB10 := Lib.hid (HB9.out.trans (hb10.mono HB9.out.size))
            have BS := Lib.hid (bytes_same w10 _ _ _ (conv_rowD ho) (conv_by (RB.out _ HB10.out)))
            obtain ⟨va, vc, rfl⟩ := row_shape ho
            clear ho hb10 EN HB9 q0 q1
            go_wp2_with fail
            refine BS.out.mono ?_
            rintro e w11 ⟨rfl, rfl⟩
            go_wp2
            go_ret
            exact ⟨rfl, HB10.out⟩
        · have hn' : (l.length : Int) ≤ 60000 := by omega
          obtain ⟨g0, g1, g2, g3⟩ := PR.out l rfl (by omega)
          have x0 := k1_3.val 0 rfl
          have x1 := k1_3.val 1 rfl
          have G1 := Lib.hid g1
          have G2 := Lib.hid g2
          have G3 := Lib.hid (And.intro g3 (And.intro g0 hn))
          clear g1 g2 g3
          have D1 := Lib.hid (decode_any w3 w3.heap.size _ l (own_by HO.out (Nat.le_refl _)) (Nat.le_refl _))
          rw [G1.out] at D1
          have HO7 := HO
          clear hn hmx HO
          go_wp2_with fail
          refine D1.out.mono ?_
          rintro e w4 ⟨⟨t0, t1, rfl, hq⟩, hb4⟩
          obtain ⟨d0, e0, rfl⟩ := rd_shape hq.1
          obtain ⟨d1, e1, rfl⟩ := rd_shape hq.2
          have hbk := (Below.refl w4.heap.size w4).alloc (Nat.le_refl _) (.cells #[.slice d0 p.classes.length e0, .slice d1 p.funcs.length e1] 27)
          have K2 := Blk.new w4 #[.slice d0 p.classes.length e0, .slice d1 p.funcs.length e1] 27
          have hb5 := hb4.trans (hbk.mono hb4.size)
          have K1 := k1_3.grew hb5
          have HB5 := Lib.hid (HB.out.trans (hb5.mono HB.out.size))
          have HL5 := Lib.hid hb5
          have RQ := Lib.hid (fun W (hb : Below w4.heap.size (w4.alloc (.cells #[.slice d0 p.classes.length e0, .slice d1 p.funcs.length e1] 27)) W) => (hq.keep hbk).keep hb)
          have hs5 : w4.heap.size ≤ (w4.alloc (.cells #[.slice d0 p.classes.length e0, .slice d1 p.funcs.length e1] 27)).heap.size := hbk.size
          clear hq hb4 hbk x0 x1 k1_3 HB D1 hb5
          have x0 := K1.val 0 rfl
          have x1 := K1.val 1 rfl
          have y0 := K2.val 0 rfl
          have y1 := K2.val 1 rfl
          have PP : decide (prgP p = prgP p) = true := by simp
          have EQ1 := Lib.hid (fun W (hb : Below w4.heap.size (w4.alloc (.cells #[.slice d0 p.classes.length e0, .slice d1 p.funcs.length e1] 27)) W) (hb' : Below w.heap.size w W) => equal_any W W.heap.size _ _ _ _ p p (Nat.le_refl _) ((RP.out W hb').mono hb'.size) ((RQ.out W hb).mono (Nat.le_trans hs5 hb.size)))
          have EQ2 := Lib.hid (fun W (hb : Below w4.heap.size (w4.alloc (.cells #[.slice d0 p.classes.length e0, .slice d1 p.funcs.length e1] 27)) W) (hb' : Below w.heap.size w W) => equal_any W W.heap.size _ _ _ _ p p (Nat.le_refl _) ((RQ.out W hb).mono (Nat.le_trans hs5 hb.size)) ((RP.out W hb').mono hb'.size))
          have HBq := Lib.hid (Below.refl w4.heap.size (w4.alloc (.cells #[.slice d0 p.classes.length e0, .slice d1 p.funcs.length e1] 27)))
          go_wp2_with fail
          generalize w4.alloc (.cells #[.slice d0 p.classes.length e0, .slice d1 p.funcs.length e1] 27) = w5 at *
          generalize w4.heap.size = k4 at *
          refine (EQ1.out w5 HBq.out HB5.out).mono ?_
          rintro e w6 ⟨rfl, hb6⟩
          rw [PP]
          have HB6 := Lib.hid (HB5.out.trans (hb6.mono HB5.out.size))
          have HL6 := Lib.hid (HL5.out.trans (hb6.mono HL5.out.size))
          have HBq6 := Lib.hid (HBq.out.trans (hb6.mono hs5))
          have K1_6 := K1.grew hb6
          have K2_6 := K2.grew hb6
          clear hb6 x0 x1 y0 y1 K1 K2 EQ1
          have x0 := K1_6.val 0 rfl
          have x1 := K1_6.val 1 rfl
          have y0 := K2_6.val 0 rfl
          have y1 := K2_6.val 1 rfl
          go_wp2_with fail
          refine (EQ2.out w6 HBq6.out HB6.out).mono ?_
          rintro e w7 ⟨rfl, hb7⟩
          rw [PP]
          have HB7 := Lib.hid (HB6.out.trans (hb7.mono HB6.out.size))
          have HL7 := Lib.hid (HL6.out.trans (hb7.mono HL6.out.size))
          clear hb7 x0 x1 y0 y1 K1_6 K2_6 EQ2 HB5 HB6 HL5 HL6 HBq HBq6 hs5 RQ
          obtain ⟨i0, hi, hz0, hz1, hz2⟩ := info_parts info_u8
          have hcp : 0 < l.length ∧ l.length ≤ 60000 := ⟨G3.out.2.1, by have := G3.out.2.2; omega⟩
          obtain ⟨gv, cv, hv, hcv, hcells⟩ := own_cells (own_grewG HO7.out HL7.out) hcp.1
          injection hv with hv1 _ hv3
          subst hv1 hv3
          go_wp2_with (at_builtin; refine wpList_append_own_at _ rfl _ _ 22 rfl w7.heap.size 5 i0 (.int .u8 0) 1 1 Try.underlying22 hi hz0 hz1 hz2 rfl (by decide) _ 0 [] rfl (World.ownsRow_made w7 #[] 0 (Nat.le_refl _) (by decide) rfl) ⟨gv, 0, none⟩ l.length vc (u8L l) rfl (by rw [u8L_len, Nat.mul_one]) (fun j u hu => u8_cells (fun j hj => (cell_alloc_below _ (hcells j hj))) hu) (u8_one l) (by unfold maxLen; omega) (by omega) (by simp) ?_)
          intro v8 w8 h8 hg8 _ _
          have hb8 : Below w7.heap.size w7 w8 := ((Below.refl w7.heap.size w7).alloc (Nat.le_refl _) _).grown hg8 (by simp) (fun k hk => by have : w7.heap.size = k := Option.some.inj hk; omega)
          have h8' : w8.ownsRow w7.heap.size 5 1 v8 l.length (u8L l) := by simpa using h8
          clear h8 hg8 hcells
          have hs8 := hb8.size
          go_wp2_with (at_builtin; refine wpList_append_own_at _ rfl _ _ 22 rfl w7.heap.size 5 i0 (.int .u8 0) 1 1 Try.underlying22 hi hz0 hz1 hz2 rfl (by decide) _ _ _ rfl (h8'.alloc _) ⟨w8.heap.size, 0, none⟩ 1 1 (u8L [mb]) rfl rfl (fun j u hu => u8_cells (l := [mb]) (fun j hj => by obtain rfl : j = 0 := (by simpa using hj); exact (Blk.new w8 #[.int .u8 (mb.toNat : Int)] 5).val 0 rfl) hu) (u8_one _) (by unfold maxLen; omega) (by omega) (by simp; omega) ?_)
          intro v9 w9 h9 hg9 _ _
          have hb9 : Below w7.heap.size w7 w9 := hb8.trans (((Below.refl w8.heap.size w8).alloc (Nat.le_refl _) _ |>.mono hs8).grown hg9 (by simp; omega) (fun k hk => (own_ltG h8' hk).1))
          have h9' : w9.ownsRow w7.heap.size 5 1 v9 (l ++ [mb]).length (u8L (l ++ [mb])) := by rw [u8L_app, List.length_append]; exact h9
          obtain ⟨b9, c9, rfl⟩ := row_shape h9'
          have D2 := Lib.hid (decode_any w9 w9.heap.size _ _ (own_by h9' (Nat.le_refl _)) (Nat.le_refl _))
          rw [G2.out] at D2
          have HB9 := Lib.hid (HB7.out.trans (hb9.mono HB7.out.size))
          have HL9 := Lib.hid (HL7.out.trans (hb9.mono HL7.out.size))
          have e9 : (l ++ [mb]).length = l.length + 1 := by simp
          rw [e9] at D2
          clear h8' hb8 hs8 h9 hg9 hb9 h9' hi hz0 hz1 hz2 HB7 HL7 e9
          go_wp2_with fail
          refine D2.out.mono ?_
          rintro e w10 ⟨⟨_, rfl⟩, hb10⟩
          have HB10 := Lib.hid (HB9.out.trans (hb10.mono HB9.out.size))
          have HL10 := Lib.hid (HL9.out.trans (hb10.mono HL9.out.size))
          have nw : Go.RowKit.wrap64 ((l.length : Int) - 1) = ((l.length - 1 : Nat) : Int) := by unfold Go.RowKit.wrap64; omega
          have hk1 : l.length - 1 ≤ vc := by omega
          have D3 := Lib.hid (decode_any w10 w10.heap.size _ _ ((own_by (own_grewG HO7.out HL10.out) (Nat.le_refl _)).take (l.length - 1) (by omega)) (Nat.le_refl _))
          rw [G3.out.1] at D3
          clear hb10 D2 HB9 HL9
          go_wp2_with fail
          refine D3.out.mono ?_
          rintro e w11 ⟨⟨_, rfl⟩, hb11⟩
          have HB11 := HB10.out.trans (hb11.mono HB10.out.size)
          have HB := Lib.hid (HB11.alloc HB11.size (.cells #[.slice none 0 0, .slice none 0 0] 27))
          have ne1 : ((l.length : Int) != (l.length : Int)) = false := by simp
          have ne2 : (((l.length - 1 : Nat) : Int) != ((l.length - 1 : Nat) : Int)) = false := by simp
          clear hb11 HB11 D3 HB10 HL10 HO7 G1 G2 G3 HL
          have D := Lib.hid (decode_any _ w.heap.size _ bs (RB.out _ HB.out) HB.out.size)
          clear PR
          generalize hd : decD bs = r at *
          have HD := Lib.hid hd
          clear hd
          go_wp2_with fail
          refine D.out.mono ?_
          intro e w9 hp
          cases r with
          | error x =>
            obtain ⟨⟨hx, rfl⟩, hb9⟩ := hp
            have hx' : (x.1 != 0) = true := by simpa using hx
            have HB9 := Lib.hid ((HB.out.trans (hb9.mono HB.out.size)).alloc (Nat.le_trans HB.out.size hb9.size) (.cells #[.slice none 0 0, .slice none 0 0] 27))
            have KQ := Blk.new w9 #[.slice none 0 0, .slice none 0 0] 27
            have q0 := KQ.val 0 rfl
            have q1 := KQ.val 1 rfl
            clear hx hb9 D KQ
            go_wp2
            go_ret
            exact ⟨rfl, HB9.out⟩
          | ok q =>
            obtain ⟨⟨v0, v1, rfl, hq⟩, hb9⟩ := hp
            obtain ⟨d0, e0, rfl⟩ := rd_shape hq.1
            obtain ⟨d1, e1, rfl⟩ := rd_shape hq.2
            have hbk := (Below.refl w9.heap.size w9).alloc (Nat.le_refl _) (.cells #[.slice d0 q.classes.length e0, .slice d1 q.funcs.length e1] 27)
            have EN := Lib.hid (encode_any q _ _ _ w9.heap.size hbk.size (hq.keep hbk))
            rw [enc_dec HD.out] at EN
            have HB9 := Lib.hid ((HB.out.trans (hb9.mono HB.out.size)).trans (hbk.mono (Nat.le_trans HB.out.size hb9.size)))
            have KQ := Blk.new w9 #[.slice d0 q.classes.length e0, .slice d1 q.funcs.length e1] 27
            have q0 := KQ.val 0 rfl
            have q1 := KQ.val 1 rfl
            clear hq hb9 hbk D KQ HD
            go_wp2_with fail
            refine EN.out.mono ?_
            rintro e w10 ⟨⟨vb, rfl, ho⟩, hb10⟩
            have HB10 := Lib.hid (HB9.out.trans (hb10.mono HB9.out.size))
            have BS := Lib.hid (bytes_same w10 _ _ _ (conv_rowD ho) (conv_by (RB.out _ HB10.out)))
            obtain ⟨va, vc, rfl⟩ := row_shape ho
            clear ho hb10 EN HB9 q0 q1
            go_wp2_with fail
            refine BS.out.mono ?_
            rintro e w11 ⟨rfl, rfl⟩
            go_wp2
            go_ret
            exact ⟨rfl, HB10.out⟩
end Go.Proofs.Ytffelcidckbohaa
