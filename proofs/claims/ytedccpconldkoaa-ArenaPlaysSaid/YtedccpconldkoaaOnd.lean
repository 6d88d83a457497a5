/- ArenaPlays: one call of both sides: compare and swap. Condition: few calls were made. -/
import Derived.Test.YtedccpconldkoaaOna
import Derived.Deep.QuietTactic
import Derived.BigQuiet
namespace Go.Proofs.Ytedccpconldkoaa
open Go.RowKit
set_option linter.unusedVariables false
theorem op_at {l : List Oper} {i : Nat} {o : Oper} (h : l[i]? = some o) : l.toArray[i]? = some o := by simpa using h
section
variable {X : Nat → Prop} {w0 w : World} {B a c M d : Nat} {P Q : Nat → Nat} {wh : Nat → Int} {keep : Bool} {g : Nat → Bool} {lv lm : Value} {s : St} {k : Nat}
set_option maxRecDepth 100000 in
set_option maxHeartbeats 4000000 in
theorem one_4 (h : Duo X w0 w B a c M d P Q wh keep g g lv lm s s) (hk : k < 3) (hb : Bd s) (pn at' want put : Int) :
    Calls Try.prog 8 #[.pointer (some ⟨a, 0, none⟩), .pointer (some ⟨P k, 0, none⟩), .pointer (some ⟨M, 0, none⟩), .pointer (some ⟨Q k, 0, none⟩), .agg #[.int .i64 pn, .int .i64 4, .int .i64 at', .int .u64 want, .int .u64 put]] w (OnePost X w0 B a c M d P Q wh keep s) := by
  have hE := h.enter (.cells #[.int .i64 pn, .int .i64 4, .int .i64 at', .int .u64 want, .int .u64 put] 45)
  have hO : Blk (w.alloc (.cells #[.int .i64 pn, .int .i64 4, .int .i64 at', .int .u64 want, .int .u64 put] 45)) w.heap.size #[.int .i64 pn, .int .i64 4, .int .i64 at', .int .u64 want, .int .u64 put] 45 := Blk.new _ _ _
  have fin : ∀ w' g' lv' lm' s', Step s s' → Duo (fun k => X k ∨ k = w.heap.size) (w.alloc (.cells #[.int .i64 pn, .int .i64 4, .int .i64 at', .int .u64 want, .int .u64 put] 45)) w' B a c M d P Q wh keep g' g' lv' lm' s' s' → ∃ g' lv' lm' s', Duo X w0 w' B a c M d P Q wh keep g' g' lv' lm' s' s' ∧ Step s s' := fun w' g' lv' lm' s' hs h' => ⟨_, _, _, _, h.leave h', hs⟩
  have FIN := Lib.hid fin
  clear fin h
  obtain ⟨la, lc, rfl⟩ := row_form hE.ar.log
  go_enter Try.func8, Try.ntmps8
  go_upto_region 1 with fail
  generalize w.alloc (.cells #[.int .i64 pn, .int .i64 4, .int .i64 at', .int .u64 want, .int .u64 put] 45) = wa at *
  have hx : (fun k => X k ∨ k = w.heap.size) w.heap.size := .inr rfl
  have h5 : wa.cell? ⟨w.heap.size, 0, none⟩ = some (.int .i64 pn) ∧ wa.cell? ⟨w.heap.size, 1, none⟩ = some (.int .i64 4) ∧ wa.cell? ⟨w.heap.size, 2, none⟩ = some (.int .i64 at') ∧ wa.cell? ⟨w.heap.size, 3, none⟩ = some (.int .u64 want) ∧ wa.cell? ⟨w.heap.size, 4, none⟩ = some (.int .u64 put) := hE.five hO (Or.inr rfl)
  obtain ⟨e0, e1, e2, e3, e4⟩ := h5
  have gm1 := hE.ar.own.val 1 rfl
  have hm6 : s.m < 1000000 := hb.1
  go_wp2_with fail
  refine (duo_do hE hk hb 4 at' want put (by decide)).mono ?_
  rintro e w1 ⟨rfl, lm1, hD1⟩
  obtain ⟨la1, lc1, rfl⟩ := row_form hD1.ar.log
  cases hmay : mayB s (g k) at' with
  | true =>
    have hnm : (nextS s (g k) (wh k) 4 at' want put).m = s.m + 1 := by unfold nextS; rw [hmay]; rfl
    obtain ⟨N, hN⟩ : ∃ N : Nat, (nextS s (g k) (wh k) 4 at' want put).m = N := ⟨_, rfl⟩
    have hD2 := hD1
    rw [hN] at hD2
    have hNm : N = s.m + 1 := hN.symm.trans hnm
    have CT := Lib.hid (fun W lv1 lm1 gq1 t1 (hD : Duo (fun k => X k ∨ k = w.heap.size) wa W B a c M d P Q wh keep g gq1 lv1 lm1 s t1) => (duo_cas hD hk hb at' want put).mono (fun e w' (h' : _ ∧ _) => (⟨by rw [h'.1, hmay]; simp, h'.2⟩ : e = .returned (.bool (seenS s (g k) at' == want)) ∧ ∃ lv', Duo (fun k => X k ∨ k = w.heap.size) wa w' B a c M d P Q wh keep (upd g k false) gq1 lv' lm1 (nextS s (g k) (wh k) 4 at' want put) t1)))
    have h5 : (w1.cell? ⟨w.heap.size, 0, none⟩ = some (.int .i64 pn) ∧ w1.cell? ⟨w.heap.size, 1, none⟩ = some (.int .i64 4) ∧ w1.cell? ⟨w.heap.size, 2, none⟩ = some (.int .i64 at') ∧ w1.cell? ⟨w.heap.size, 3, none⟩ = some (.int .u64 want) ∧ w1.cell? ⟨w.heap.size, 4, none⟩ = some (.int .u64 put)) ∧ w1.cell? ⟨M, 1, none⟩ = some (.slice la1 N lc1) := And.intro (hD1.five hO (Or.inr rfl)) (hD2.ar.own.val 1 rfl)
    have hD1d := hD2.quiet (w' := w1.drew) ⟨1, rfl⟩
    have h5d : (w1.drew.cell? ⟨w.heap.size, 0, none⟩ = some (.int .i64 pn) ∧ w1.drew.cell? ⟨w.heap.size, 1, none⟩ = some (.int .i64 4) ∧ w1.drew.cell? ⟨w.heap.size, 2, none⟩ = some (.int .i64 at') ∧ w1.drew.cell? ⟨w.heap.size, 3, none⟩ = some (.int .u64 want) ∧ w1.drew.cell? ⟨w.heap.size, 4, none⟩ = some (.int .u64 put)) ∧ w1.drew.cell? ⟨M, 1, none⟩ = some (.slice la1 N lc1) := And.intro (hD1d.five hO (Or.inr rfl)) (hD1d.ar.own.val 1 rfl)
    have hgd : decide (s.m < N) = true := by simp; omega
    have hmN : N ≤ 1000001 := by omega
    clear hmay hD1 hN hNm hnm
    generalize seenS s (g k) at' = sv at *
    have hsw : ((sv == want) == (sv == want)) = true := by simp
    go_upto_region 12 with fail
    go_region_held3 (fun W => (W.cell? ⟨w.heap.size, 0, none⟩ = some (.int .i64 pn) ∧ W.cell? ⟨w.heap.size, 1, none⟩ = some (.int .i64 4) ∧ W.cell? ⟨w.heap.size, 2, none⟩ = some (.int .i64 at') ∧ W.cell? ⟨w.heap.size, 3, none⟩ = some (.int .u64 want) ∧ W.cell? ⟨w.heap.size, 4, none⟩ = some (.int .u64 put)) ∧ W.cell? ⟨M, 1, none⟩ = some (.slice la1 N lc1))
      (first | with_reducible assumption | with_reducible exact h5 | with_reducible exact h5d | with_reducible exact And.intro (hD3.five hO (Or.inr rfl)) (hD3.ar.own.val 1 rfl))
      (first | (go_at_call 22; with_reducible refine (CT.out _ _ _ _ _ (by assumption)).mono ?_; rintro e w3 ⟨rfl, lv3, hD3⟩))
    all_goals
      go_wp2
      go_ret
      exact ⟨by simp, FIN.out _ _ _ _ _ (Step.next s hb.2.1 _ _ _ _ _ _) (by first | exact hD3 | exact hD3.quiet ⟨1, rfl⟩)⟩

  | false =>
    have hnm : (nextS s (g k) (wh k) 4 at' want put).m = s.m := by unfold nextS; rw [hmay]; rfl
    obtain ⟨N, hN⟩ : ∃ N : Nat, (nextS s (g k) (wh k) 4 at' want put).m = N := ⟨_, rfl⟩
    have hD2 := hD1
    rw [hN] at hD2
    have hNm : N = s.m := hN.symm.trans hnm
    have CT := Lib.hid (fun W lv1 lm1 gq1 t1 (hD : Duo (fun k => X k ∨ k = w.heap.size) wa W B a c M d P Q wh keep g gq1 lv1 lm1 s t1) => (duo_cas hD hk hb at' want put).mono (fun e w' (h' : _ ∧ _) => (⟨by rw [h'.1, hmay]; simp, h'.2⟩ : e = .returned (.bool false) ∧ ∃ lv', Duo (fun k => X k ∨ k = w.heap.size) wa w' B a c M d P Q wh keep (upd g k false) gq1 lv' lm1 (nextS s (g k) (wh k) 4 at' want put) t1)))
    have h5 : (w1.cell? ⟨w.heap.size, 0, none⟩ = some (.int .i64 pn) ∧ w1.cell? ⟨w.heap.size, 1, none⟩ = some (.int .i64 4) ∧ w1.cell? ⟨w.heap.size, 2, none⟩ = some (.int .i64 at') ∧ w1.cell? ⟨w.heap.size, 3, none⟩ = some (.int .u64 want) ∧ w1.cell? ⟨w.heap.size, 4, none⟩ = some (.int .u64 put)) ∧ w1.cell? ⟨M, 1, none⟩ = some (.slice la1 N lc1) := And.intro (hD1.five hO (Or.inr rfl)) (hD2.ar.own.val 1 rfl)
    have hD1d := hD2.quiet (w' := w1.drew) ⟨1, rfl⟩
    have h5d : (w1.drew.cell? ⟨w.heap.size, 0, none⟩ = some (.int .i64 pn) ∧ w1.drew.cell? ⟨w.heap.size, 1, none⟩ = some (.int .i64 4) ∧ w1.drew.cell? ⟨w.heap.size, 2, none⟩ = some (.int .i64 at') ∧ w1.drew.cell? ⟨w.heap.size, 3, none⟩ = some (.int .u64 want) ∧ w1.drew.cell? ⟨w.heap.size, 4, none⟩ = some (.int .u64 put)) ∧ w1.drew.cell? ⟨M, 1, none⟩ = some (.slice la1 N lc1) := And.intro (hD1d.five hO (Or.inr rfl)) (hD1d.ar.own.val 1 rfl)
    have hgd : decide (s.m < N) = false := by simp; omega
    have hmN : N ≤ 1000001 := by omega
    clear hmay hD1 hN hNm hnm
    generalize seenS s (g k) at' = sv at *
    have hsw : ((sv == want) == (sv == want)) = true := by simp
    go_upto_region 12 with fail
    refine wp_region_held_drew (S := fun W => (W.cell? ⟨w.heap.size, 0, none⟩ = some (.int .i64 pn) ∧ W.cell? ⟨w.heap.size, 1, none⟩ = some (.int .i64 4) ∧ W.cell? ⟨w.heap.size, 2, none⟩ = some (.int .i64 at') ∧ W.cell? ⟨w.heap.size, 3, none⟩ = some (.int .u64 want) ∧ W.cell? ⟨w.heap.size, 4, none⟩ = some (.int .u64 put)) ∧ W.cell? ⟨M, 1, none⟩ = some (.slice la1 N lc1)) (by kernel_rfl) h5d (fun hHeld => ?_)
    refine wpAnyH_take (i := 0) (oi := _) (v := ?_) (op_at rfl) (by kernel_rfl) (by kernel_rfl) (by kernel_rfl) (fun _ _ _ h => h) (Or.inl ⟨by rfl, ?_⟩) hHeld ?_
    rotate_left 1
    focus (intro W hSw; (try dsimp only at hSw); go_simp; (try (with_reducible rfl)))
    (try simp only [Act.put, List.setIfInBounds_toArray, List.set_cons_zero, List.set_cons_succ])
    refine wpAnyH_take (i := 1) (oi := _) (v := ?_) (op_at rfl) (by kernel_rfl) (by kernel_rfl) (by kernel_rfl) (fun _ _ _ h => h) (Or.inl ⟨by rfl, ?_⟩) hHeld ?_
    rotate_left 1
    focus (intro W hSw; (try dsimp only at hSw); go_simp; (try (with_reducible rfl)))
    (try simp only [Act.put, List.setIfInBounds_toArray, List.set_cons_zero, List.set_cons_succ])
    refine wpAnyH_take (i := 2) (oi := _) (v := ?_) (op_at rfl) (by kernel_rfl) (by kernel_rfl) (by kernel_rfl) (fun _ _ _ h => h) (Or.inl ⟨by rfl, ?_⟩) hHeld ?_
    rotate_left 1
    focus (intro W hSw; (try dsimp only at hSw); go_simp; (try (with_reducible rfl)))
    (try simp only [Act.put, List.setIfInBounds_toArray, List.set_cons_zero, List.set_cons_succ])
    refine wpAnyH_take (i := 3) (oi := _) (v := ?_) (op_at rfl) (by kernel_rfl) (by kernel_rfl) (by kernel_rfl) (fun _ _ _ h => h) (Or.inl ⟨by rfl, ?_⟩) hHeld ?_
    rotate_left 1
    focus (intro W hSw; (try dsimp only at hSw); go_simp; (try (with_reducible rfl)))
    (try simp only [Act.put, List.setIfInBounds_toArray, List.set_cons_zero, List.set_cons_succ])
    refine wpAnyH_take (i := 4) (oi := _) (v := ?_) (op_at rfl) (by kernel_rfl) (by kernel_rfl) (by kernel_rfl) (fun _ _ _ h => h) (Or.inl ⟨by rfl, ?_⟩) hHeld ?_
    rotate_left 1
    focus (intro W hSw; (try dsimp only at hSw); go_simp; (try (with_reducible rfl)))
    (try simp only [Act.put, List.setIfInBounds_toArray, List.set_cons_zero, List.set_cons_succ])
    refine wpAnyH_take (i := 5) (oi := _) (v := ?_) (op_at rfl) (by kernel_rfl) (by kernel_rfl) (by kernel_rfl) (fun _ _ _ h => h) (Or.inl ⟨by rfl, ?_⟩) hHeld ?_
    rotate_left 1
    focus (intro W hSw; (try dsimp only at hSw); go_simp; (try (with_reducible rfl)))
    (try simp only [Act.put, List.setIfInBounds_toArray, List.set_cons_zero, List.set_cons_succ])
    refine wpAnyH_take (i := 6) (oi := _) (v := ?_) (op_at rfl) (by kernel_rfl) (by kernel_rfl) (by kernel_rfl) (fun _ _ _ h => h) (Or.inl ⟨by rfl, ?_⟩) hHeld ?_
    rotate_left 1
    focus (intro W hSw; (try dsimp only at hSw); go_simp; (try (with_reducible rfl)))
    (try simp only [Act.put, List.setIfInBounds_toArray, List.set_cons_zero, List.set_cons_succ])
    refine wpAnyH_take (i := 8) (oi := _) (v := ?_) (op_at rfl) (by kernel_rfl) (by kernel_rfl) (by kernel_rfl) (fun _ _ _ h => h) (Or.inl ⟨by rfl, ?_⟩) hHeld ?_
    rotate_left 1
    focus (intro W hSw; (try dsimp only at hSw); go_simp; (try (with_reducible rfl)))
    (try simp only [Act.put, List.setIfInBounds_toArray, List.set_cons_zero, List.set_cons_succ])
    refine wpAnyH_take (i := 9) (oi := _) (v := ?_) (op_at rfl) (by kernel_rfl) (by kernel_rfl) (by kernel_rfl) (fun _ _ _ h => h) (Or.inl ⟨by rfl, ?_⟩) hHeld ?_
    rotate_left 1
    focus (intro W hSw; (try dsimp only at hSw); go_simp; (try (with_reducible rfl)))
    (try simp only [Act.put, List.setIfInBounds_toArray, List.set_cons_zero, List.set_cons_succ])
    refine wpAnyH_take (i := 10) (oi := _) (v := ?_) (op_at rfl) (by kernel_rfl) (by kernel_rfl) (by kernel_rfl) (fun _ _ _ h => h) (Or.inl ⟨by rfl, ?_⟩) hHeld ?_
    rotate_left 1
    focus (intro W hSw; (try dsimp only at hSw); go_simp; (try (with_reducible rfl)))
    (try simp only [Act.put, List.setIfInBounds_toArray, List.set_cons_zero, List.set_cons_succ])
    refine wpAnyH_take (i := 11) (oi := _) (v := ?_) (op_at rfl) (by kernel_rfl) (by kernel_rfl) (by kernel_rfl) (fun _ _ _ h => h) (Or.inl ⟨by rfl, ?_⟩) hHeld ?_
    rotate_left 1
    focus (intro W hSw; (try dsimp only at hSw); go_simp; (try (with_reducible rfl)))
    (try simp only [Act.put, List.setIfInBounds_toArray, List.set_cons_zero, List.set_cons_succ])
    refine wpAnyH_take (i := 12) (oi := _) (v := ?_) (op_at rfl) (by kernel_rfl) (by kernel_rfl) (by kernel_rfl) (fun _ _ _ h => h) (Or.inl ⟨by rfl, ?_⟩) hHeld ?_
    rotate_left 1
    focus (intro W hSw; (try dsimp only at hSw); go_simp; (try (with_reducible rfl)))
    (try simp only [Act.put, List.setIfInBounds_toArray, List.set_cons_zero, List.set_cons_succ])
    refine wpAnyH_take (i := 13) (oi := _) (v := ?_) (op_at rfl) (by kernel_rfl) (by kernel_rfl) (by kernel_rfl) (fun _ _ _ h => h) (Or.inl ⟨by rfl, ?_⟩) hHeld ?_
    rotate_left 1
    focus (intro W hSw; (try dsimp only at hSw); go_simp; (try (with_reducible rfl)))
    (try simp only [Act.put, List.setIfInBounds_toArray, List.set_cons_zero, List.set_cons_succ])
    refine wpAnyH_take (i := 14) (oi := _) (v := ?_) (op_at rfl) (by kernel_rfl) (by kernel_rfl) (by kernel_rfl) (fun _ _ _ h => h) (Or.inl ⟨by rfl, ?_⟩) hHeld ?_
    rotate_left 1
    focus (intro W hSw; (try dsimp only at hSw); go_simp; (try (with_reducible rfl)))
    (try simp only [Act.put, List.setIfInBounds_toArray, List.set_cons_zero, List.set_cons_succ])
    refine wpAnyH_ready (rs := [7]) (by kernel_rfl) (by simp) ?_
    refine AllReadyH.cons (o := _) (op_at rfl) (fun K hK => ?_) AllReadyH.nil
    go_simp
    go_at_call 22
    refine (CT.out _ _ _ _ _ hD1d).mono ?_
    rintro e w3 ⟨rfl, lv3, hD3⟩
    go_wp2_with fail
    refine hK.out _ _ ?_ (fun hHeld => ?_)
    focus exact And.intro (hD3.five hO (Or.inr rfl)) (hD3.ar.own.val 1 rfl)
    clear hK K
    (try simp only [Act.put, List.setIfInBounds_toArray, List.set_cons_zero, List.set_cons_succ])
    refine wpAnyH_take (i := 15) (oi := _) (v := ?_) (op_at rfl) (by kernel_rfl) (by kernel_rfl) (by kernel_rfl) (fun _ _ _ h => h) (Or.inl ⟨by rfl, ?_⟩) hHeld ?_
    rotate_left 1
    focus (intro W hSw; (try dsimp only at hSw); go_simp; (try (with_reducible rfl)))
    (try simp only [Act.put, List.setIfInBounds_toArray, List.set_cons_zero, List.set_cons_succ])
    refine wpAnyH_take (i := 16) (oi := _) (v := undef) (op_at rfl) (by kernel_rfl) (by kernel_rfl) (by kernel_rfl) (fun _ _ _ h => h) (Or.inr ⟨by rfl, rfl⟩) hHeld ?_
    (try simp only [Act.put, List.setIfInBounds_toArray, List.set_cons_zero, List.set_cons_succ])
    refine wpAnyH_take (i := 17) (oi := _) (v := undef) (op_at rfl) (by kernel_rfl) (by kernel_rfl) (by kernel_rfl) (fun _ _ _ h => h) (Or.inr ⟨by rfl, rfl⟩) hHeld ?_
    (try simp only [Act.put, List.setIfInBounds_toArray, List.set_cons_zero, List.set_cons_succ])
    refine wpAnyH_take (i := 18) (oi := _) (v := undef) (op_at rfl) (by kernel_rfl) (by kernel_rfl) (by kernel_rfl) (fun _ _ _ h => h) (Or.inr ⟨by rfl, rfl⟩) hHeld ?_
    (try simp only [Act.put, List.setIfInBounds_toArray, List.set_cons_zero, List.set_cons_succ])
    refine wpAnyH_take (i := 19) (oi := _) (v := undef) (op_at rfl) (by kernel_rfl) (by kernel_rfl) (by kernel_rfl) (fun _ _ _ h => h) (Or.inr ⟨by rfl, rfl⟩) hHeld ?_
    (try simp only [Act.put, List.setIfInBounds_toArray, List.set_cons_zero, List.set_cons_succ])
    refine wpAnyH_take (i := 20) (oi := _) (v := ?_) (op_at rfl) (by kernel_rfl) (by kernel_rfl) (by kernel_rfl) (fun _ _ _ h => h) (Or.inl ⟨by rfl, ?_⟩) hHeld ?_
    rotate_left 1
    focus (intro W hSw; (try dsimp only at hSw); go_simp; (try (with_reducible rfl)))
    (try simp only [Act.put, List.setIfInBounds_toArray, List.set_cons_zero, List.set_cons_succ])
    refine wpAnyH_take (i := 21) (oi := _) (v := ?_) (op_at rfl) (by kernel_rfl) (by kernel_rfl) (by kernel_rfl) (fun _ _ _ h => h) (Or.inl ⟨by rfl, ?_⟩) hHeld ?_
    rotate_left 1
    focus (intro W hSw; (try dsimp only at hSw); go_simp; (try (with_reducible rfl)))
    (try simp only [Act.put, List.setIfInBounds_toArray, List.set_cons_zero, List.set_cons_succ])
    refine wpAnyH_take (i := 22) (oi := _) (v := ?_) (op_at rfl) (by kernel_rfl) (by kernel_rfl) (by kernel_rfl) (fun _ _ _ h => h) (Or.inl ⟨by rfl, ?_⟩) hHeld ?_
    rotate_left 1
    focus (intro W hSw; (try dsimp only at hSw); go_simp; (try (with_reducible rfl)))
    (try simp only [Act.put, List.setIfInBounds_toArray, List.set_cons_zero, List.set_cons_succ])
    refine wpAnyH_done (by kernel_rfl) ?_ _
    all_goals
      go_wp2
      go_ret
      exact ⟨by simp, FIN.out _ _ _ _ _ (Step.next s hb.2.1 _ _ _ _ _ _) (by first | exact hD3 | exact hD3.quiet ⟨1, rfl⟩)⟩

end
end Go.Proofs.Ytedccpconldkoaa
