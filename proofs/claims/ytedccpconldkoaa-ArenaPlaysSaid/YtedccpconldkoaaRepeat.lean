/- What arena.repeat returns and writes, and the document's Left. No condition but that the numbers fit their kinds and the cells are there. -/
import Derived.Test.YtedccpconldkoaaPerg
import Derived.Laws.OwnMore
import Derived.Deep.RegionHeld3
namespace Go.Proofs.Ytedccpconldkoaa
open Go.RowKit
set_option linter.unusedVariables false
set_option linter.unusedSimpArgs false

/-- a slice of words of one's own: where it lies, what it holds -/
structure Rw (w : World) (B g n c : Nat) (cs : List Int) : Prop where
  own : w.ownsRow B 43 1 (.slice (some ⟨g, 0, none⟩) n c) n (cs.map (Value.int .u64))
theorem Rw.len {w : World} {B g n c : Nat} {cs : List Int} (h : Rw w B g n c cs) : cs.length = n := by have := h.own.1; simpa using this
theorem Rw.cell {w : World} {B g n c : Nat} {cs : List Int} (h : Rw w B g n c cs) (i : Nat) (hi : i < n) : w.cell? ⟨g, i, none⟩ = some (.int .u64 (cs.getD i 0)) := by
  have hl := h.len
  rw [h.own.cellAt i (by omega)]
  simp [List.getD_eq_getElem?_getD, List.getElem?_eq_getElem (show i < cs.length by omega)]
theorem Rw.frozen {w : World} {B g n c : Nat} {cs : List Int} (h : Rw w B g n c cs) (i : Nat) : w.frozen? ⟨g, i, none⟩ = false := h.own.frozenAt i
theorem Rw.lt {w : World} {B g n c : Nat} {cs : List Int} (h : Rw w B g n c cs) : B ≤ g ∧ g < w.heap.size := h.own.lt g rfl
theorem Rw.of {w w' : World} {B g n c : Nat} {cs : List Int} (h : Rw w B g n c cs) (he : w'.heap[g]? = w.heap[g]?) : Rw w' B g n c cs := by
  obtain ⟨h0⟩ := h
  refine ⟨h0.1, ?_⟩
  rcases h0.2 with ⟨h1, _⟩ | ⟨g', cap', cur, h1, h2, h3, h4⟩
  · simp at h1
  · simp only [Value.slice.injEq, Option.some.injEq, Addr.mk.injEq, and_true, true_and] at h1
    obtain ⟨rfl, rfl⟩ := h1
    exact .inr ⟨g, c, cur, rfl, h2, he.trans h3, h4⟩
theorem Rw.grew {w w' : World} {B g n c : Nat} {cs : List Int} (h : Rw w B g n c cs) (hb : Below w.heap.size w w') : Rw w' B g n c cs := h.of (hb.block g h.lt.2)
theorem Rw.touch {R : Nat → Prop} {w w' : World} {B g n c : Nat} {cs : List Int} (h : Rw w B g n c cs) (ht : Touch R w w') (hn : ¬ R g) : Rw w' B g n c cs := h.of (ht.block g h.lt.2 hn)
theorem Rw.alloc {w : World} {B g n c : Nat} {cs : List Int} (h : Rw w B g n c cs) (o : Obj) : Rw (w.alloc o) B g n c cs := ⟨h.own.alloc o⟩
theorem Rw.set {w : World} {B g n c : Nat} {cs : List Int} (h : Rw w B g n c cs) (i : Nat) (v : Int) : Rw (w.setCell ⟨g, i, none⟩ (.int .u64 v)) B g n c (cs.set i v) := ⟨by
  have := (h.own.stored i (.int .u64 v)).1
  rw [List.map_set]
  exact this⟩

theorem qleft {P : Program} {f : FuncId} {args : Array Value} {w : World} {n : Nat} {v : Value} (h : Calls P f args (w.drewN n) fun e w' => e = .returned v ∧ w.drewN n = w') :
    Calls P f args (w.drewN n) fun e w'' => e = .returned v ∧ ∃ m, w'' = w.drewN m := h.mono fun _ _ ⟨he, hw⟩ => ⟨he, n, hw.symm⟩
/-! the document's Left -/
set_option maxHeartbeats 400000 in
theorem rleft_yes (k seen want put : Int) (w : World) (hk : kindB k = true) :
    Calls Try.prog 31 #[.int .i64 k, .int .u64 seen, .int .u64 want, .int .u64 put] w fun e w' => e = .returned (.tuple #[.int .u64 (leftI k seen want put), .bool true]) ∧ w' = w := by
  by_cases hs : seen = want
  · have h2 : (seen == want) = true := by simp [hs]
    rcases kind_cases hk with rfl | rfl | rfl | rfl | rfl | rfl
    all_goals
      clear hk
      go_enter Try.func31, Try.ntmps31
      go_wp2
      go_ret2
      refine ⟨?_, rfl⟩
      simp [leftI, hs]
  · have h2 : (seen == want) = false := by simp [hs]
    rcases kind_cases hk with rfl | rfl | rfl | rfl | rfl | rfl
    all_goals
      clear hk
      go_enter Try.func31, Try.ntmps31
      go_wp2
      go_ret2
      refine ⟨?_, rfl⟩
      simp [leftI, hs]
set_option maxHeartbeats 400000 in
theorem rleft_no (k seen want put : Int) (w : World) (hk : kindB k = false) :
    Calls Try.prog 31 #[.int .i64 k, .int .u64 seen, .int .u64 want, .int .u64 put] w fun e w' => e = .returned (.tuple #[.int .u64 0, .bool false]) ∧ w' = w := by
  have hk' := of_decide_eq_false hk
  have e1 : (k == 1) = false := beq_eq_false_iff_ne.2 (by omega)
  have e2 : (k == 2) = false := beq_eq_false_iff_ne.2 (by omega)
  have e3 : (k == 3) = false := beq_eq_false_iff_ne.2 (by omega)
  have e4 : (k == 4) = false := beq_eq_false_iff_ne.2 (by omega)
  have e5 : (k == 5) = false := beq_eq_false_iff_ne.2 (by omega)
  have e6 : (k == 6) = false := beq_eq_false_iff_ne.2 (by omega)
  clear hk hk'
  go_enter Try.func31, Try.ntmps31
  go_wp2
  go_ret2
  exact ⟨rfl, rfl⟩

/-! repeat -/
section
variable (who k at' want put seen left : Int)
end
end Go.Proofs.Ytedccpconldkoaa
