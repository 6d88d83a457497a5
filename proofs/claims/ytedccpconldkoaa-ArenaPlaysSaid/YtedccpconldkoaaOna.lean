/- ArenaPlays: one call of both sides: loads, swaps, ors and ands. Condition: few calls were made. -/
import Derived.Test.YtedccpconldkoaaDuoc
import Derived.Deep.Cut
import Derived.Deep.RegionHeld3
namespace Go.Proofs.Ytedccpconldkoaa
open Go.RowKit
set_option linter.unusedVariables false

def OnePost (X : Nat → Prop) (w0 : World) (B a c M d : Nat) (P Q : Nat → Nat) (wh : Nat → Int) (keep : Bool) (s : St) (e : Ending) (w' : World) : Prop :=
  e = .returned (.bool true) ∧ ∃ g' lv' lm' s', Duo X w0 w' B a c M d P Q wh keep g' g' lv' lm' s' s' ∧ Step s s'
section
variable {X : Nat → Prop} {w0 w : World} {B a c M d : Nat} {P Q : Nat → Nat} {wh : Nat → Int} {keep : Bool} {g : Nat → Bool} {lv lm : Value} {s : St} {k : Nat}
set_option maxRecDepth 100000 in
set_option maxHeartbeats 4000000 in
theorem one_1 (h : Duo X w0 w B a c M d P Q wh keep g g lv lm s s) (hk : k < 3) (hb : Bd s) (pn at' want put : Int) :
    Calls Try.prog 8 #[.pointer (some ⟨a, 0, none⟩), .pointer (some ⟨P k, 0, none⟩), .pointer (some ⟨M, 0, none⟩), .pointer (some ⟨Q k, 0, none⟩), .agg #[.int .i64 pn, .int .i64 1, .int .i64 at', .int .u64 want, .int .u64 put]] w (OnePost X w0 B a c M d P Q wh keep s) := by
  have hE := h.enter (.cells #[.int .i64 pn, .int .i64 1, .int .i64 at', .int .u64 want, .int .u64 put] 45)
  have hO : Blk (w.alloc (.cells #[.int .i64 pn, .int .i64 1, .int .i64 at', .int .u64 want, .int .u64 put] 45)) w.heap.size #[.int .i64 pn, .int .i64 1, .int .i64 at', .int .u64 want, .int .u64 put] 45 := Blk.new _ _ _
  have fin : ∀ w' lv' lm', Duo (fun k => X k ∨ k = w.heap.size) (w.alloc (.cells #[.int .i64 pn, .int .i64 1, .int .i64 at', .int .u64 want, .int .u64 put] 45)) w' B a c M d P Q wh keep (upd g k false) (upd g k false) lv' lm' (nextS s (g k) (wh k) 1 at' 0 0) (nextS s (g k) (wh k) 1 at' 0 0) → ∃ g' lv' lm' s', Duo X w0 w' B a c M d P Q wh keep g' g' lv' lm' s' s' ∧ Step s s' := fun w' lv' lm' h' => ⟨_, _, _, _, h.leave h', Step.next s hb.2.1 _ _ _ _ _ _⟩
  have FIN := Lib.hid fin
  clear fin h
  go_enter Try.func8, Try.ntmps8
  go_upto_region 1 with fail
  generalize w.alloc (.cells #[.int .i64 pn, .int .i64 1, .int .i64 at', .int .u64 want, .int .u64 put] 45) = wa at *
  have hx : (fun k => X k ∨ k = w.heap.size) w.heap.size := .inr rfl
  have h5 : wa.cell? ⟨w.heap.size, 0, none⟩ = some (.int .i64 pn) ∧ wa.cell? ⟨w.heap.size, 1, none⟩ = some (.int .i64 1) ∧ wa.cell? ⟨w.heap.size, 2, none⟩ = some (.int .i64 at') ∧ wa.cell? ⟨w.heap.size, 3, none⟩ = some (.int .u64 want) ∧ wa.cell? ⟨w.heap.size, 4, none⟩ = some (.int .u64 put) := hE.five hO hx
  have hEd : Duo (fun k => X k ∨ k = w.heap.size) wa wa.drew B a c M d P Q wh keep g g lv lm s s := hE.quiet ⟨1, rfl⟩
  have h5d : wa.drew.cell? ⟨w.heap.size, 0, none⟩ = some (.int .i64 pn) ∧ wa.drew.cell? ⟨w.heap.size, 1, none⟩ = some (.int .i64 1) ∧ wa.drew.cell? ⟨w.heap.size, 2, none⟩ = some (.int .i64 at') ∧ wa.drew.cell? ⟨w.heap.size, 3, none⟩ = some (.int .u64 want) ∧ wa.drew.cell? ⟨w.heap.size, 4, none⟩ = some (.int .u64 put) := h5
  go_upto_region 3 with fail
  go_region_held3 (fun W => W.cell? ⟨w.heap.size, 0, none⟩ = some (.int .i64 pn) ∧ W.cell? ⟨w.heap.size, 1, none⟩ = some (.int .i64 1) ∧ W.cell? ⟨w.heap.size, 2, none⟩ = some (.int .i64 at') ∧ W.cell? ⟨w.heap.size, 3, none⟩ = some (.int .u64 want) ∧ W.cell? ⟨w.heap.size, 4, none⟩ = some (.int .u64 put))
    (first | with_reducible assumption | with_reducible exact h5 | with_reducible exact h5d | with_reducible exact hD1.five hO (Or.inr rfl) | with_reducible exact hD2.five hO (Or.inr rfl))
    (first | (go_at_call 18; with_reducible refine (duo_load (by assumption) hk hb at').mono ?_; rintro e w1 ⟨rfl, lv1, hD1⟩) | (go_at_call 19; with_reducible refine (duo_do (by assumption) hk hb 1 at' 0 0 (by decide)).mono ?_; rintro e w2 ⟨rfl, lm2, hD2⟩))
  all_goals
    go_wp2
    go_ret
    exact ⟨by simp, FIN.out _ _ _ (by assumption)⟩
set_option maxRecDepth 100000 in
set_option maxHeartbeats 4000000 in
theorem one_3 (h : Duo X w0 w B a c M d P Q wh keep g g lv lm s s) (hk : k < 3) (hb : Bd s) (pn at' want put : Int) :
    Calls Try.prog 8 #[.pointer (some ⟨a, 0, none⟩), .pointer (some ⟨P k, 0, none⟩), .pointer (some ⟨M, 0, none⟩), .pointer (some ⟨Q k, 0, none⟩), .agg #[.int .i64 pn, .int .i64 3, .int .i64 at', .int .u64 want, .int .u64 put]] w (OnePost X w0 B a c M d P Q wh keep s) := by
  have hE := h.enter (.cells #[.int .i64 pn, .int .i64 3, .int .i64 at', .int .u64 want, .int .u64 put] 45)
  have hO : Blk (w.alloc (.cells #[.int .i64 pn, .int .i64 3, .int .i64 at', .int .u64 want, .int .u64 put] 45)) w.heap.size #[.int .i64 pn, .int .i64 3, .int .i64 at', .int .u64 want, .int .u64 put] 45 := Blk.new _ _ _
  have fin : ∀ w' lv' lm', Duo (fun k => X k ∨ k = w.heap.size) (w.alloc (.cells #[.int .i64 pn, .int .i64 3, .int .i64 at', .int .u64 want, .int .u64 put] 45)) w' B a c M d P Q wh keep (upd g k false) (upd g k false) lv' lm' (nextS s (g k) (wh k) 3 at' 0 put) (nextS s (g k) (wh k) 3 at' 0 put) → ∃ g' lv' lm' s', Duo X w0 w' B a c M d P Q wh keep g' g' lv' lm' s' s' ∧ Step s s' := fun w' lv' lm' h' => ⟨_, _, _, _, h.leave h', Step.next s hb.2.1 _ _ _ _ _ _⟩
  have FIN := Lib.hid fin
  clear fin h
  go_enter Try.func8, Try.ntmps8
  go_upto_region 1 with fail
  generalize w.alloc (.cells #[.int .i64 pn, .int .i64 3, .int .i64 at', .int .u64 want, .int .u64 put] 45) = wa at *
  have hx : (fun k => X k ∨ k = w.heap.size) w.heap.size := .inr rfl
  have h5 : wa.cell? ⟨w.heap.size, 0, none⟩ = some (.int .i64 pn) ∧ wa.cell? ⟨w.heap.size, 1, none⟩ = some (.int .i64 3) ∧ wa.cell? ⟨w.heap.size, 2, none⟩ = some (.int .i64 at') ∧ wa.cell? ⟨w.heap.size, 3, none⟩ = some (.int .u64 want) ∧ wa.cell? ⟨w.heap.size, 4, none⟩ = some (.int .u64 put) := hE.five hO hx
  have hEd : Duo (fun k => X k ∨ k = w.heap.size) wa wa.drew B a c M d P Q wh keep g g lv lm s s := hE.quiet ⟨1, rfl⟩
  have h5d : wa.drew.cell? ⟨w.heap.size, 0, none⟩ = some (.int .i64 pn) ∧ wa.drew.cell? ⟨w.heap.size, 1, none⟩ = some (.int .i64 3) ∧ wa.drew.cell? ⟨w.heap.size, 2, none⟩ = some (.int .i64 at') ∧ wa.drew.cell? ⟨w.heap.size, 3, none⟩ = some (.int .u64 want) ∧ wa.drew.cell? ⟨w.heap.size, 4, none⟩ = some (.int .u64 put) := h5
  go_upto_region 8 with fail
  go_region_held3 (fun W => W.cell? ⟨w.heap.size, 0, none⟩ = some (.int .i64 pn) ∧ W.cell? ⟨w.heap.size, 1, none⟩ = some (.int .i64 3) ∧ W.cell? ⟨w.heap.size, 2, none⟩ = some (.int .i64 at') ∧ W.cell? ⟨w.heap.size, 3, none⟩ = some (.int .u64 want) ∧ W.cell? ⟨w.heap.size, 4, none⟩ = some (.int .u64 put))
    (first | with_reducible assumption | with_reducible exact h5 | with_reducible exact h5d | with_reducible exact hD1.five hO (Or.inr rfl) | with_reducible exact hD2.five hO (Or.inr rfl))
    (first | (go_at_call 21; with_reducible refine (duo_swap (by assumption) hk hb at' put).mono ?_; rintro e w1 ⟨rfl, lv1, hD1⟩) | (go_at_call 19; with_reducible refine (duo_do (by assumption) hk hb 3 at' 0 put (by decide)).mono ?_; rintro e w2 ⟨rfl, lm2, hD2⟩))
  all_goals
    go_wp2
    go_ret
    exact ⟨by simp, FIN.out _ _ _ (by assumption)⟩
set_option maxRecDepth 100000 in
set_option maxHeartbeats 4000000 in
theorem one_5 (h : Duo X w0 w B a c M d P Q wh keep g g lv lm s s) (hk : k < 3) (hb : Bd s) (pn at' want put : Int) :
    Calls Try.prog 8 #[.pointer (some ⟨a, 0, none⟩), .pointer (some ⟨P k, 0, none⟩), .pointer (some ⟨M, 0, none⟩), .pointer (some ⟨Q k, 0, none⟩), .agg #[.int .i64 pn, .int .i64 5, .int .i64 at', .int .u64 want, .int .u64 put]] w (OnePost X w0 B a c M d P Q wh keep s) := by
  have hE := h.enter (.cells #[.int .i64 pn, .int .i64 5, .int .i64 at', .int .u64 want, .int .u64 put] 45)
  have hO : Blk (w.alloc (.cells #[.int .i64 pn, .int .i64 5, .int .i64 at', .int .u64 want, .int .u64 put] 45)) w.heap.size #[.int .i64 pn, .int .i64 5, .int .i64 at', .int .u64 want, .int .u64 put] 45 := Blk.new _ _ _
  have fin : ∀ w' lv' lm', Duo (fun k => X k ∨ k = w.heap.size) (w.alloc (.cells #[.int .i64 pn, .int .i64 5, .int .i64 at', .int .u64 want, .int .u64 put] 45)) w' B a c M d P Q wh keep (upd g k false) (upd g k false) lv' lm' (nextS s (g k) (wh k) 5 at' 0 put) (nextS s (g k) (wh k) 5 at' 0 put) → ∃ g' lv' lm' s', Duo X w0 w' B a c M d P Q wh keep g' g' lv' lm' s' s' ∧ Step s s' := fun w' lv' lm' h' => ⟨_, _, _, _, h.leave h', Step.next s hb.2.1 _ _ _ _ _ _⟩
  have FIN := Lib.hid fin
  clear fin h
  go_enter Try.func8, Try.ntmps8
  go_upto_region 1 with fail
  generalize w.alloc (.cells #[.int .i64 pn, .int .i64 5, .int .i64 at', .int .u64 want, .int .u64 put] 45) = wa at *
  have hx : (fun k => X k ∨ k = w.heap.size) w.heap.size := .inr rfl
  have h5 : wa.cell? ⟨w.heap.size, 0, none⟩ = some (.int .i64 pn) ∧ wa.cell? ⟨w.heap.size, 1, none⟩ = some (.int .i64 5) ∧ wa.cell? ⟨w.heap.size, 2, none⟩ = some (.int .i64 at') ∧ wa.cell? ⟨w.heap.size, 3, none⟩ = some (.int .u64 want) ∧ wa.cell? ⟨w.heap.size, 4, none⟩ = some (.int .u64 put) := hE.five hO hx
  have hEd : Duo (fun k => X k ∨ k = w.heap.size) wa wa.drew B a c M d P Q wh keep g g lv lm s s := hE.quiet ⟨1, rfl⟩
  have h5d : wa.drew.cell? ⟨w.heap.size, 0, none⟩ = some (.int .i64 pn) ∧ wa.drew.cell? ⟨w.heap.size, 1, none⟩ = some (.int .i64 5) ∧ wa.drew.cell? ⟨w.heap.size, 2, none⟩ = some (.int .i64 at') ∧ wa.drew.cell? ⟨w.heap.size, 3, none⟩ = some (.int .u64 want) ∧ wa.drew.cell? ⟨w.heap.size, 4, none⟩ = some (.int .u64 put) := h5
  go_upto_region 14 with fail
  go_region_held3 (fun W => W.cell? ⟨w.heap.size, 0, none⟩ = some (.int .i64 pn) ∧ W.cell? ⟨w.heap.size, 1, none⟩ = some (.int .i64 5) ∧ W.cell? ⟨w.heap.size, 2, none⟩ = some (.int .i64 at') ∧ W.cell? ⟨w.heap.size, 3, none⟩ = some (.int .u64 want) ∧ W.cell? ⟨w.heap.size, 4, none⟩ = some (.int .u64 put))
    (first | with_reducible assumption | with_reducible exact h5 | with_reducible exact h5d | with_reducible exact hD1.five hO (Or.inr rfl) | with_reducible exact hD2.five hO (Or.inr rfl))
    (first | (go_at_call 16; with_reducible refine (duo_or (by assumption) hk hb at' put).mono ?_; rintro e w1 ⟨rfl, lv1, hD1⟩) | (go_at_call 19; with_reducible refine (duo_do (by assumption) hk hb 5 at' 0 put (by decide)).mono ?_; rintro e w2 ⟨rfl, lm2, hD2⟩))
  all_goals
    go_wp2
    go_ret
    exact ⟨by simp, FIN.out _ _ _ (by assumption)⟩
set_option maxRecDepth 100000 in
set_option maxHeartbeats 4000000 in
theorem one_6 (h : Duo X w0 w B a c M d P Q wh keep g g lv lm s s) (hk : k < 3) (hb : Bd s) (pn at' want put : Int) :
    Calls Try.prog 8 #[.pointer (some ⟨a, 0, none⟩), .pointer (some ⟨P k, 0, none⟩), .pointer (some ⟨M, 0, none⟩), .pointer (some ⟨Q k, 0, none⟩), .agg #[.int .i64 pn, .int .i64 6, .int .i64 at', .int .u64 want, .int .u64 put]] w (OnePost X w0 B a c M d P Q wh keep s) := by
  have hE := h.enter (.cells #[.int .i64 pn, .int .i64 6, .int .i64 at', .int .u64 want, .int .u64 put] 45)
  have hO : Blk (w.alloc (.cells #[.int .i64 pn, .int .i64 6, .int .i64 at', .int .u64 want, .int .u64 put] 45)) w.heap.size #[.int .i64 pn, .int .i64 6, .int .i64 at', .int .u64 want, .int .u64 put] 45 := Blk.new _ _ _
  have fin : ∀ w' lv' lm', Duo (fun k => X k ∨ k = w.heap.size) (w.alloc (.cells #[.int .i64 pn, .int .i64 6, .int .i64 at', .int .u64 want, .int .u64 put] 45)) w' B a c M d P Q wh keep (upd g k false) (upd g k false) lv' lm' (nextS s (g k) (wh k) 6 at' 0 put) (nextS s (g k) (wh k) 6 at' 0 put) → ∃ g' lv' lm' s', Duo X w0 w' B a c M d P Q wh keep g' g' lv' lm' s' s' ∧ Step s s' := fun w' lv' lm' h' => ⟨_, _, _, _, h.leave h', Step.next s hb.2.1 _ _ _ _ _ _⟩
  have FIN := Lib.hid fin
  clear fin h
  go_enter Try.func8, Try.ntmps8
  go_upto_region 1 with fail
  generalize w.alloc (.cells #[.int .i64 pn, .int .i64 6, .int .i64 at', .int .u64 want, .int .u64 put] 45) = wa at *
  have hx : (fun k => X k ∨ k = w.heap.size) w.heap.size := .inr rfl
  have h5 : wa.cell? ⟨w.heap.size, 0, none⟩ = some (.int .i64 pn) ∧ wa.cell? ⟨w.heap.size, 1, none⟩ = some (.int .i64 6) ∧ wa.cell? ⟨w.heap.size, 2, none⟩ = some (.int .i64 at') ∧ wa.cell? ⟨w.heap.size, 3, none⟩ = some (.int .u64 want) ∧ wa.cell? ⟨w.heap.size, 4, none⟩ = some (.int .u64 put) := hE.five hO hx
  have hEd : Duo (fun k => X k ∨ k = w.heap.size) wa wa.drew B a c M d P Q wh keep g g lv lm s s := hE.quiet ⟨1, rfl⟩
  have h5d : wa.drew.cell? ⟨w.heap.size, 0, none⟩ = some (.int .i64 pn) ∧ wa.drew.cell? ⟨w.heap.size, 1, none⟩ = some (.int .i64 6) ∧ wa.drew.cell? ⟨w.heap.size, 2, none⟩ = some (.int .i64 at') ∧ wa.drew.cell? ⟨w.heap.size, 3, none⟩ = some (.int .u64 want) ∧ wa.drew.cell? ⟨w.heap.size, 4, none⟩ = some (.int .u64 put) := h5
  go_upto_region 16 with fail
  go_region_held3 (fun W => W.cell? ⟨w.heap.size, 0, none⟩ = some (.int .i64 pn) ∧ W.cell? ⟨w.heap.size, 1, none⟩ = some (.int .i64 6) ∧ W.cell? ⟨w.heap.size, 2, none⟩ = some (.int .i64 at') ∧ W.cell? ⟨w.heap.size, 3, none⟩ = some (.int .u64 want) ∧ W.cell? ⟨w.heap.size, 4, none⟩ = some (.int .u64 put))
    (first | with_reducible assumption | with_reducible exact h5 | with_reducible exact h5d | with_reducible exact hD1.five hO (Or.inr rfl) | with_reducible exact hD2.five hO (Or.inr rfl))
    (first | (go_at_call 23; with_reducible refine (duo_and (by assumption) hk hb at' put).mono ?_; rintro e w1 ⟨rfl, lv1, hD1⟩) | (go_at_call 19; with_reducible refine (duo_do (by assumption) hk hb 6 at' 0 put (by decide)).mono ?_; rintro e w2 ⟨rfl, lm2, hD2⟩))
  all_goals
    go_wp2
    go_ret
    exact ⟨by simp, FIN.out _ _ _ (by assumption)⟩
end
end Go.Proofs.Ytedccpconldkoaa
