/- ArenaPlays: one call of both sides: pokes and peeks. Condition: few calls were made. -/
import Derived.Test.YtedccpconldkoaaOnb
import Derived.Deep.RegionLaw
namespace Go.Proofs.Ytedccpconldkoaa
open Go.RowKit
set_option linter.unusedVariables false
section
variable {X : Nat → Prop} {w0 w : World} {B a c M d : Nat} {P Q : Nat → Nat} {wh : Nat → Int} {keep : Bool} {g : Nat → Bool} {lv lm : Value} {s : St} {k : Nat}
set_option maxRecDepth 100000 in
set_option maxHeartbeats 4000000 in
theorem one_8 (h : Duo X w0 w B a c M d P Q wh keep g g lv lm s s) (hk : k < 3) (hb : Bd s) (pn at' want put : Int) :
    Calls Try.prog 8 #[.pointer (some ⟨a, 0, none⟩), .pointer (some ⟨P k, 0, none⟩), .pointer (some ⟨M, 0, none⟩), .pointer (some ⟨Q k, 0, none⟩), .agg #[.int .i64 pn, .int .i64 8, .int .i64 at', .int .u64 want, .int .u64 put]] w (OnePost X w0 B a c M d P Q wh keep s) := by
  have hE := h.enter (.cells #[.int .i64 pn, .int .i64 8, .int .i64 at', .int .u64 want, .int .u64 put] 45)
  have hO : Blk (w.alloc (.cells #[.int .i64 pn, .int .i64 8, .int .i64 at', .int .u64 want, .int .u64 put] 45)) w.heap.size #[.int .i64 pn, .int .i64 8, .int .i64 at', .int .u64 want, .int .u64 put] 45 := Blk.new _ _ _
  have fin : ∀ w' g' lv' lm' s', Step s s' → Duo (fun k => X k ∨ k = w.heap.size) (w.alloc (.cells #[.int .i64 pn, .int .i64 8, .int .i64 at', .int .u64 want, .int .u64 put] 45)) w' B a c M d P Q wh keep g' g' lv' lm' s' s' → ∃ g' lv' lm' s', Duo X w0 w' B a c M d P Q wh keep g' g' lv' lm' s' s' ∧ Step s s' := fun w' g' lv' lm' s' hs h' => ⟨_, _, _, _, h.leave h', hs⟩
  have FIN := Lib.hid fin
  clear fin h
  go_enter Try.func8, Try.ntmps8
  go_upto_region 1 with fail
  generalize w.alloc (.cells #[.int .i64 pn, .int .i64 8, .int .i64 at', .int .u64 want, .int .u64 put] 45) = wa at *
  have hx : (fun k => X k ∨ k = w.heap.size) w.heap.size := .inr rfl
  have h5 : wa.cell? ⟨w.heap.size, 0, none⟩ = some (.int .i64 pn) ∧ wa.cell? ⟨w.heap.size, 1, none⟩ = some (.int .i64 8) ∧ wa.cell? ⟨w.heap.size, 2, none⟩ = some (.int .i64 at') ∧ wa.cell? ⟨w.heap.size, 3, none⟩ = some (.int .u64 want) ∧ wa.cell? ⟨w.heap.size, 4, none⟩ = some (.int .u64 put) := hE.five hO (Or.inr rfl)
  obtain ⟨e0, e1, e2, e3, e4⟩ := h5
  have gm0 := hE.ar.own.val 0 rfl
  by_cases h0 : 0 ≤ at'
  · obtain ⟨i, rfl⟩ := Int.eq_ofNat_of_zero_le h0
    by_cases h1 : i < s.cs.length
    · have d0 : decide (0 ≤ (i : Int)) = true := by simp
      have d1 : decide ((i : Int) < (s.cs.length : Int)) = true := by simp; omega
      have d2 : decide (i < s.cs.length) = true := by simp; omega
      have hi0 : (0 : Int) ≤ (i : Int) := by omega
      have hi1 : (i : Int) < (s.cs.length : Int) := by omega
      clear h0 d2
      go_upto_region 21 with fail
      go_quiet (fail)
      have hE2 := hE.quiet (w' := wa.drewN nq) ⟨nq, rfl⟩
      generalize wa.drewN nq = W2 at *
      have h5 : (W2.cell? ⟨w.heap.size, 0, none⟩ = some (.int .i64 pn) ∧ W2.cell? ⟨w.heap.size, 1, none⟩ = some (.int .i64 8) ∧ W2.cell? ⟨w.heap.size, 2, none⟩ = some (.int .i64 (i : Int)) ∧ W2.cell? ⟨w.heap.size, 3, none⟩ = some (.int .u64 want) ∧ W2.cell? ⟨w.heap.size, 4, none⟩ = some (.int .u64 put)) ∧ W2.cell? ⟨M, 0, none⟩ = some (.slice (some ⟨d, 0, none⟩) s.cs.length s.cs.length) := And.intro (hE2.five hO (Or.inr rfl)) (hE2.ar.own.val 0 rfl)
      have hE3 := hE2.quiet (w' := W2.drew) ⟨1, rfl⟩
      have h5d : (W2.drew.cell? ⟨w.heap.size, 0, none⟩ = some (.int .i64 pn) ∧ W2.drew.cell? ⟨w.heap.size, 1, none⟩ = some (.int .i64 8) ∧ W2.drew.cell? ⟨w.heap.size, 2, none⟩ = some (.int .i64 (i : Int)) ∧ W2.drew.cell? ⟨w.heap.size, 3, none⟩ = some (.int .u64 want) ∧ W2.drew.cell? ⟨w.heap.size, 4, none⟩ = some (.int .u64 put)) ∧ W2.drew.cell? ⟨M, 0, none⟩ = some (.slice (some ⟨d, 0, none⟩) s.cs.length s.cs.length) := And.intro (hE3.five hO (Or.inr rfl)) (hE3.ar.own.val 0 rfl)
      have hD2 := hE2.poked i put
      have hD3 := hD2.quiet (w' := (W2.setCell ⟨d, i, none⟩ (.int .u64 put)).drew) ⟨1, rfl⟩
      have h5e : ((W2.setCell ⟨d, i, none⟩ (.int .u64 put)).drew.cell? ⟨w.heap.size, 0, none⟩ = some (.int .i64 pn) ∧ (W2.setCell ⟨d, i, none⟩ (.int .u64 put)).drew.cell? ⟨w.heap.size, 1, none⟩ = some (.int .i64 8) ∧ (W2.setCell ⟨d, i, none⟩ (.int .u64 put)).drew.cell? ⟨w.heap.size, 2, none⟩ = some (.int .i64 (i : Int)) ∧ (W2.setCell ⟨d, i, none⟩ (.int .u64 put)).drew.cell? ⟨w.heap.size, 3, none⟩ = some (.int .u64 want) ∧ (W2.setCell ⟨d, i, none⟩ (.int .u64 put)).drew.cell? ⟨w.heap.size, 4, none⟩ = some (.int .u64 put)) ∧ (W2.setCell ⟨d, i, none⟩ (.int .u64 put)).drew.cell? ⟨M, 0, none⟩ = some (.slice (some ⟨d, 0, none⟩) s.cs.length s.cs.length) := And.intro (hD3.five hO (Or.inr rfl)) (by have := hD3.ar.own.val 0 rfl; rw [this]; simp)
      have cc2 := hE2.ar.cell i h1
      have fc2 := hE2.ar.row.frozen i
      have cc3 := hE3.ar.cell i h1
      have fc3 := hE3.ar.row.frozen i
      have hO' := hO
      go_upto_region 23 with fail
      go_region_held3 (fun W => (W.cell? ⟨w.heap.size, 0, none⟩ = some (.int .i64 pn) ∧ W.cell? ⟨w.heap.size, 1, none⟩ = some (.int .i64 8) ∧ W.cell? ⟨w.heap.size, 2, none⟩ = some (.int .i64 (i : Int)) ∧ W.cell? ⟨w.heap.size, 3, none⟩ = some (.int .u64 want) ∧ W.cell? ⟨w.heap.size, 4, none⟩ = some (.int .u64 put)) ∧ W.cell? ⟨M, 0, none⟩ = some (.slice (some ⟨d, 0, none⟩) s.cs.length s.cs.length))
        (first | with_reducible assumption | with_reducible exact h5 | with_reducible exact h5d | with_reducible exact h5e)
        (fail)
      all_goals
        generalize (W2.setCell ⟨d, i, none⟩ (.int .u64 put)).drew = W4 at *
        obtain ⟨e0, e1, e2, e3, e4⟩ := hD3.five hO (Or.inr rfl)
        go_wp2_with fail
        refine (duo_poke hD3 hb i put h1).mono ?_
        rintro e w3 ⟨rfl, hD4⟩
        go_wp2
        go_ret
        exact ⟨by simp, FIN.out _ _ _ _ _ (Step.poke s hb.2.1 _ (by simp)) hD4⟩

    · have d0 : decide (0 ≤ (i : Int)) = true := by simp
      have d1 : decide ((i : Int) < (s.cs.length : Int)) = false := by simp; omega
      have hi0 : (0 : Int) ≤ (i : Int) := by omega
      have hi1 : ¬ (i : Int) < (s.cs.length : Int) := by omega
      clear h0
      have hIn : insB s.cs.length (i : Int) = false := by unfold insB; simp; omega
      go_upto_region 21 with fail
      go_quiet (fail)
      have hE2 := hE.quiet (w' := wa.drewN nq) ⟨nq, rfl⟩
      generalize wa.drewN nq = W2 at *
      obtain ⟨e0, e1, e2, e3, e4⟩ := hE2.five hO (Or.inr rfl)
      go_wp2_with fail
      refine (poke_no (i : Int) put hE2.at' hIn).mono ?_
      rintro e w3 ⟨rfl, hq⟩
      go_wp2
      go_ret
      exact ⟨by simp, FIN.out _ _ _ _ _ (Step.refl s hb.2.1) (hE2.quiet hq)⟩

  · have d0 : decide (0 ≤ at') = false := by simp; omega
    have hIn : insB s.cs.length at' = false := by unfold insB; simp; omega
    go_upto_region 21 with fail
    go_quiet (fail)
    have hE2 := hE.quiet (w' := wa.drewN nq) ⟨nq, rfl⟩
    generalize wa.drewN nq = W2 at *
    obtain ⟨e0, e1, e2, e3, e4⟩ := hE2.five hO (Or.inr rfl)
    go_wp2_with fail
    refine (poke_no at' put hE2.at' hIn).mono ?_
    rintro e w3 ⟨rfl, hq⟩
    go_wp2
    go_ret
    exact ⟨by simp, FIN.out _ _ _ _ _ (Step.refl s hb.2.1) (hE2.quiet hq)⟩

set_option maxRecDepth 100000 in
set_option maxHeartbeats 4000000 in
theorem one_9 (h : Duo X w0 w B a c M d P Q wh keep g g lv lm s s) (hk : k < 3) (hb : Bd s) (pn at' want put : Int) :
    Calls Try.prog 8 #[.pointer (some ⟨a, 0, none⟩), .pointer (some ⟨P k, 0, none⟩), .pointer (some ⟨M, 0, none⟩), .pointer (some ⟨Q k, 0, none⟩), .agg #[.int .i64 pn, .int .i64 9, .int .i64 at', .int .u64 want, .int .u64 put]] w (OnePost X w0 B a c M d P Q wh keep s) := by
  have hE := h.enter (.cells #[.int .i64 pn, .int .i64 9, .int .i64 at', .int .u64 want, .int .u64 put] 45)
  have hO : Blk (w.alloc (.cells #[.int .i64 pn, .int .i64 9, .int .i64 at', .int .u64 want, .int .u64 put] 45)) w.heap.size #[.int .i64 pn, .int .i64 9, .int .i64 at', .int .u64 want, .int .u64 put] 45 := Blk.new _ _ _
  have fin : ∀ w' g' lv' lm' s', Step s s' → Duo (fun k => X k ∨ k = w.heap.size) (w.alloc (.cells #[.int .i64 pn, .int .i64 9, .int .i64 at', .int .u64 want, .int .u64 put] 45)) w' B a c M d P Q wh keep g' g' lv' lm' s' s' → ∃ g' lv' lm' s', Duo X w0 w' B a c M d P Q wh keep g' g' lv' lm' s' s' ∧ Step s s' := fun w' g' lv' lm' s' hs h' => ⟨_, _, _, _, h.leave h', hs⟩
  have FIN := Lib.hid fin
  clear fin h
  go_enter Try.func8, Try.ntmps8
  go_upto_region 1 with fail
  generalize w.alloc (.cells #[.int .i64 pn, .int .i64 9, .int .i64 at', .int .u64 want, .int .u64 put] 45) = wa at *
  have hx : (fun k => X k ∨ k = w.heap.size) w.heap.size := .inr rfl
  have h5 : wa.cell? ⟨w.heap.size, 0, none⟩ = some (.int .i64 pn) ∧ wa.cell? ⟨w.heap.size, 1, none⟩ = some (.int .i64 9) ∧ wa.cell? ⟨w.heap.size, 2, none⟩ = some (.int .i64 at') ∧ wa.cell? ⟨w.heap.size, 3, none⟩ = some (.int .u64 want) ∧ wa.cell? ⟨w.heap.size, 4, none⟩ = some (.int .u64 put) := hE.five hO (Or.inr rfl)
  obtain ⟨e0, e1, e2, e3, e4⟩ := h5
  by_cases h0 : 0 ≤ at'
  · obtain ⟨i, rfl⟩ := Int.eq_ofNat_of_zero_le h0
    by_cases h1 : i < s.cs.length
    · have d0 : decide ((i : Int) < 0) = false := by simp
      have d1 : decide ((s.cs.length : Int) ≤ (i : Int)) = false := by simp; omega
      have hi0 : (0 : Int) ≤ (i : Int) := by omega
      have hi1 : (i : Int) < (s.cs.length : Int) := by omega
      have hp0 : 0 < s.cs.length := by omega
      have hp1 : decide (0 < (s.cs.length : Int)) = true := by simp; omega
      have hi2 : ¬ (i : Int) < 0 := by omega
      clear h0
      go_wp2_with fail
      refine (peek_yes i hE.at' h1 hb.2.2.2).mono ?_
      rintro e W2 ⟨rfl, hq⟩
      have hE2 := hE.quiet hq
      have hcc := hE2.ar.cell i h1
      obtain ⟨e0, e1, e2, e3, e4⟩ := hE2.five hO (Or.inr rfl)
      have gm0 := hE2.ar.own.val 0 rfl
      have HE := Lib.hid hE2
      clear hE hE2 hq
      generalize s.cs.getD i 0 = z at *
      generalize s.cs.length = L at *
      have hzz : (z == z) = true := by simp
      go_upto_region 27 with fail
      go_quiet (fail)
      go_upto_region 29 with fail
      go_quiet (fail)
      go_wp2
      go_ret
      exact ⟨by simp, FIN.out _ _ _ _ _ (Step.refl s hb.2.1) ((HE.out.quiet ⟨_, rfl⟩).quiet ⟨_, rfl⟩)⟩

    · have d0 : decide ((i : Int) < 0) = false := by simp
      have d1 : decide ((s.cs.length : Int) ≤ (i : Int)) = true := by simp; omega
      have hi0 : ¬ (i : Int) < 0 := by omega
      have hi1 : (s.cs.length : Int) ≤ (i : Int) := by omega
      clear h0
      have hIn : insB s.cs.length (i : Int) = false := by unfold insB; simp; omega
      go_wp2_with fail
      refine (peek_no (i : Int) hE.at' hIn).mono ?_
      rintro e W2 ⟨rfl, hq⟩
      have hE2 := hE.quiet hq
      obtain ⟨e0, e1, e2, e3, e4⟩ := hE2.five hO (Or.inr rfl)
      have gm0 := hE2.ar.own.val 0 rfl
      have HE := Lib.hid hE2
      clear hE hE2 hq
      go_upto_region 27 with fail
      go_quiet (fail)
      go_wp2
      go_ret
      exact ⟨by simp, FIN.out _ _ _ _ _ (Step.refl s hb.2.1) (HE.out.quiet ⟨_, rfl⟩)⟩

  · have d0 : decide (at' < 0) = true := by simp; omega
    have hi0 : at' < 0 := by omega
    have hIn : insB s.cs.length at' = false := by unfold insB; simp; omega
    go_wp2_with fail
    refine (peek_no at' hE.at' hIn).mono ?_
    rintro e W2 ⟨rfl, hq⟩
    have hE2 := hE.quiet hq
    obtain ⟨e0, e1, e2, e3, e4⟩ := hE2.five hO (Or.inr rfl)
    have gm0 := hE2.ar.own.val 0 rfl
    have HE := Lib.hid hE2
    clear hE hE2 hq
    go_upto_region 27 with fail
    go_quiet (fail)
    go_wp2
    go_ret
    exact ⟨by simp, FIN.out _ _ _ _ _ (Step.refl s hb.2.1) (HE.out.quiet ⟨_, rfl⟩)⟩

end
end Go.Proofs.Ytedccpconldkoaa
