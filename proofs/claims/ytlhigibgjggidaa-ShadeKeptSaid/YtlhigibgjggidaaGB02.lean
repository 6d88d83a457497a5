/- What arena.effect returns for the six kinds, and what its closures make of a cell; for no kind. No condition but that the numbers fit their kinds. -/
import Derived.RegionTactic
import Derived.Test.YtlhigibgjggidaaGB01
namespace Go.Proofs.Ytlhigibgjggidaa
open Go.RowKit

/-- what is left in a cell behind an access of that kind -/
def leftI (k seen want put : Int) : Int :=
  if k = 1 then seen else if k = 2 then put else if k = 3 then put else if k = 4 then (if seen = want then put else seen) else if k = 5 then bits .or .u64 seen put else bits .and .u64 seen put
def kindB (k : Int) : Bool := decide (1 ≤ k ∧ k ≤ 6)
/-- the closure that effect hands back; bw, bp: where its captured words lie -/
def actF (k : Int) (bw bp : Nat) : Value :=
  if k = 1 then .func (.func 101) #[] #[] else if k = 2 then .func (.func 102) #[] #[.pointer (some ⟨bp, 0, none⟩)]
  else if k = 3 then .func (.func 102) #[] #[.pointer (some ⟨bp, 0, none⟩)]
  else if k = 4 then .func (.func 103) #[] #[.pointer (some ⟨bw, 0, none⟩), .pointer (some ⟨bp, 0, none⟩)]
  else if k = 5 then .func (.func 104) #[] #[.pointer (some ⟨bp, 0, none⟩)] else .func (.func 105) #[] #[.pointer (some ⟨bp, 0, none⟩)]
theorem kind_cases {k : Int} (h : kindB k = true) : k = 1 ∨ k = 2 ∨ k = 3 ∨ k = 4 ∨ k = 5 ∨ k = 6 := by
  have := of_decide_eq_true h
  omega
def EffPost (k want put : Int) (w : World) (e : Ending) (w' : World) : Prop :=
  ∃ bw bp, e = .returned (.tuple #[actF k bw bp, .bool true]) ∧ Blk w' bw #[.int .u64 want] 41 ∧ Blk w' bp #[.int .u64 put] 41 ∧ Below w.heap.size w w'

set_option maxHeartbeats 1000000 in
theorem effect_yes (who k at' want put seen left : Int) (w : World) (hk : kindB k = true) :
    Calls Try.prog 100 #[.agg #[.int .i64 who, .int .i64 k, .int .i64 at', .int .u64 want, .int .u64 put, .int .u64 seen, .int .u64 left]] w (EffPost k want put w) := by
  rcases kind_cases hk with rfl | rfl | rfl | rfl | rfl | rfl
  all_goals
    clear hk
    go_enter Try.func100, Try.ntmps100
    go_wp2
    go_region
    all_goals
      go_wp2
      go_ret2
      first
        | exact ⟨w.heap.size + 1, w.heap.size + 1 + 1, rfl, (Blk.new' (by simp)).alloc _, Blk.new' (by simp), Quiet.below' ((((Below.refl _ _).alloc (Nat.le_refl _) _).alloc (by simp) _).alloc (by simp; omega) _)⟩
        | exact ⟨w.heap.size + 1 + 1, w.heap.size + 1, rfl, Blk.new' (by simp), (Blk.new' (by simp)).alloc _, Quiet.below' ((((Below.refl _ _).alloc (Nat.le_refl _) _).alloc (by simp) _).alloc (by simp; omega) _)⟩
set_option maxHeartbeats 1000000 in
theorem effect_no (who k at' want put seen left : Int) (w : World) (hk : kindB k = false) :
    Calls Try.prog 100 #[.agg #[.int .i64 who, .int .i64 k, .int .i64 at', .int .u64 want, .int .u64 put, .int .u64 seen, .int .u64 left]] w fun e w' => e = .returned (.tuple #[.nilFunc, .bool false]) ∧ Below w.heap.size w w' := by
  have hk' := of_decide_eq_false hk
  have e1 : (k == 1) = false := beq_eq_false_iff_ne.2 (by omega)
  have e2 : (k == 2) = false := beq_eq_false_iff_ne.2 (by omega)
  have e3 : (k == 3) = false := beq_eq_false_iff_ne.2 (by omega)
  have e4 : (k == 4) = false := beq_eq_false_iff_ne.2 (by omega)
  have e5 : (k == 5) = false := beq_eq_false_iff_ne.2 (by omega)
  have e6 : (k == 6) = false := beq_eq_false_iff_ne.2 (by omega)
  clear hk hk'
  go_enter Try.func100, Try.ntmps100
  go_wp2
  go_region
  all_goals
    go_wp2
    go_ret2
    exact ⟨rfl, Quiet.below' ((((Below.refl _ _).alloc (Nat.le_refl _) _).alloc (by simp) _).alloc (by simp; omega) _)⟩

/-! the closures -/
set_option maxHeartbeats 400000 in
theorem act1 (x : Int) (w : World) :
    Calls Try.prog 101 #[.int .u64 x] w fun e w' => e = .returned (.int .u64 x) ∧ w = w' := by
  go_enter Try.func101, Try.ntmps101
  go_wp2
  go_ret
  exact ⟨rfl, rfl⟩
set_option maxHeartbeats 400000 in
theorem act2 (x put : Int) (bp : Nat) (w : World) (hp : w.cell? ⟨bp, 0, none⟩ = some (.int .u64 put)) :
    Calls Try.prog 102 #[.int .u64 x, .pointer (some ⟨bp, 0, none⟩)] w fun e w' => e = .returned (.int .u64 put) ∧ w = w' := by
  go_enter Try.func102, Try.ntmps102
  go_wp2
  go_ret
  exact ⟨rfl, rfl⟩
set_option maxHeartbeats 400000 in
theorem act3 (x want put : Int) (bw bp : Nat) (w : World) (hw : w.cell? ⟨bw, 0, none⟩ = some (.int .u64 want)) (hp : w.cell? ⟨bp, 0, none⟩ = some (.int .u64 put)) :
    Calls Try.prog 103 #[.int .u64 x, .pointer (some ⟨bw, 0, none⟩), .pointer (some ⟨bp, 0, none⟩)] w fun e w' => e = .returned (.int .u64 (if x = want then put else x)) ∧ w = w' := by
  by_cases h : x = want
  · rw [if_pos h]
    have hb : (x == want) = true := beq_iff_eq.2 h
    clear h
    go_enter Try.func103, Try.ntmps103
    go_wp2
    go_ret
    exact ⟨rfl, rfl⟩
  · rw [if_neg h]
    have hb : (x == want) = false := beq_eq_false_iff_ne.2 h
    clear h
    go_enter Try.func103, Try.ntmps103
    go_wp2
    go_ret
    exact ⟨rfl, rfl⟩
set_option maxHeartbeats 400000 in
theorem act4 (x put : Int) (bp : Nat) (w : World) (hp : w.cell? ⟨bp, 0, none⟩ = some (.int .u64 put)) :
    Calls Try.prog 104 #[.int .u64 x, .pointer (some ⟨bp, 0, none⟩)] w fun e w' => e = .returned (.int .u64 (bits .or .u64 x put)) ∧ w = w' := by
  go_enter Try.func104, Try.ntmps104
  go_wp2
  go_ret
  exact ⟨rfl, rfl⟩
set_option maxHeartbeats 400000 in
theorem act5 (x put : Int) (bp : Nat) (w : World) (hp : w.cell? ⟨bp, 0, none⟩ = some (.int .u64 put)) :
    Calls Try.prog 105 #[.int .u64 x, .pointer (some ⟨bp, 0, none⟩)] w fun e w' => e = .returned (.int .u64 (bits .and .u64 x put)) ∧ w = w' := by
  go_enter Try.func105, Try.ntmps105
  go_wp2
  go_ret
  exact ⟨rfl, rfl⟩
end Go.Proofs.Ytlhigibgjggidaa
