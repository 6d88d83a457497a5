/- SameLog of the document at two logs of the same accesses. No condition but that they are short. -/
import Derived.Test.YtedccpconldkoaaLogy
import Derived.Laws.StructEq
import Derived.Deep.QuietTactic
import Derived.BigQuiet
namespace Go.Proofs.Ytedccpconldkoaa
open Go.RowKit
set_option linter.unusedVariables false
theorem fields7 {l : List Field} {t u : TypeId} (h : l.map (fun f => (f.type, f.offset, f.name == "_")) = [(t, 0, false), (t, 1, false), (t, 2, false), (u, 3, false), (u, 4, false), (u, 5, false), (u, 6, false)]) :
    ∃ f0 f1 f2 f3 f4 f5 f6, l = [f0, f1, f2, f3, f4, f5, f6] ∧ (f0.type = t ∧ f0.offset = 0 ∧ ¬ f0.name = "_") ∧ (f1.type = t ∧ f1.offset = 1 ∧ ¬ f1.name = "_") ∧ (f2.type = t ∧ f2.offset = 2 ∧ ¬ f2.name = "_") ∧
      (f3.type = u ∧ f3.offset = 3 ∧ ¬ f3.name = "_") ∧ (f4.type = u ∧ f4.offset = 4 ∧ ¬ f4.name = "_") ∧ (f5.type = u ∧ f5.offset = 5 ∧ ¬ f5.name = "_") ∧ (f6.type = u ∧ f6.offset = 6 ∧ ¬ f6.name = "_") := by
  rcases l with _ | ⟨f0, _ | ⟨f1, _ | ⟨f2, _ | ⟨f3, _ | ⟨f4, _ | ⟨f5, _ | ⟨f6, _ | ⟨f7, l⟩⟩⟩⟩⟩⟩⟩⟩ <;> simp only [List.map_cons, List.map_nil, List.cons.injEq, Prod.mk.injEq, beq_eq_false_iff_ne, ne_eq, and_true, reduceCtorEq, and_false] at h
  exact ⟨f0, f1, f2, f3, f4, f5, f6, rfl, h.1, h.2.1, h.2.2.1, h.2.2.2.1, h.2.2.2.2.1, h.2.2.2.2.2.1, h.2.2.2.2.2.2⟩
theorem neq_acc (w : World) (a b c x y z u : Int) :
    (binOp .neq 69 (.agg #[.int .i64 a, .int .i64 b, .int .i64 c, .int .u64 x, .int .u64 y, .int .u64 z, .int .u64 u]) (.agg #[.int .i64 a, .int .i64 b, .int .i64 c, .int .u64 x, .int .u64 y, .int .u64 z, .int .u64 u])).run Try.prog w = .ok (.bool false) w := by
  rw [run_neq_struct, run_equalIn_agg w 9999 _ _ _ (by kernel_rfl) (by kernel_rfl)]
  obtain ⟨f0, f1, f2, f3, f4, f5, f6, hl, ⟨a1, a2, a3⟩, ⟨b1, b2, b3⟩, ⟨c1, c2, c3⟩, ⟨d1, d2, d3⟩, ⟨e1, e2, e3⟩, ⟨g1, g2, g3⟩, h1, h2, h3⟩ := fields7 (l := (Try.prog.fieldsOf 69).toList) (t := 3) (u := 43) (by kernel_rfl)
  rw [hl]
  have hi : Try.prog.underlying 3 = some (.int .i64) := by kernel_rfl
  have hj : Try.prog.underlying 43 = some (.int .u64) := by kernel_rfl
  simp [Op.eqFields, a1, a2, a3, b1, b2, b3, c1, c2, c3, d1, d2, d3, e1, e2, e3, g1, g2, g3, h1, h2, h3, go_sem, hi, hj]
theorem guard_acc : Try.prog.eqGuardType Try.prog.depth 69 = false := by kernel_rfl

set_option maxHeartbeats 2000000 in
theorem same_rows (b1 c1 b2 c2 n : Nat) (F : Nat → Nat → Int) (w : World) (hm : n ≤ 1000) (h1 : LogRow w b1 n F) (h2 : LogRow w b2 n F) :
    Calls Try.prog 12 #[.slice (some ⟨b1, 0, none⟩) n c1, .slice (some ⟨b2, 0, none⟩) n c2] w fun e w' => e = .returned (.bool true) ∧ Quiet w w' := by
  have hne : ((n : Int) != (n : Int)) = false := by simp
  have R1 := Lib.hid (fun k (hk : k < n) => h1.cell k hk)
  have R2 := Lib.hid (fun k (hk : k < n) => h2.cell k hk)
  have hG := guard_acc
  clear h1 h2
  go_enter Try.func12, Try.ntmps12
  go_wp2
  go_loopw [5] (fun i wr => ∃ k : Nat, k ≤ n ∧ i = .int .i64 k ∧ Quiet w wr) (fun i _ => n - (intOf i).toNat)
  case atStart => exact ⟨0, Nat.zero_le _, rfl, Quiet.refl _⟩
  case round =>
    obtain ⟨k, hk, rfl, hq⟩ := hrel
    by_cases hlt : k < n
    · obtain ⟨p0, p1, p2, p3, p4, p5, p6⟩ := R1.out k hlt
      obtain ⟨q0, q1, q2, q3, q4, q5, q6⟩ := R2.out k hlt
      have p0 := (hq.cell _).trans p0
      have p1 := (hq.cell _).trans p1
      have p2 := (hq.cell _).trans p2
      have p3 := (hq.cell _).trans p3
      have p4 := (hq.cell _).trans p4
      have p5 := (hq.cell _).trans p5
      have p6 := (hq.cell _).trans p6
      have q0 := (hq.cell _).trans q0
      have q1 := (hq.cell _).trans q1
      have q2 := (hq.cell _).trans q2
      have q3 := (hq.cell _).trans q3
      have q4 := (hq.cell _).trans q4
      have q5 := (hq.cell _).trans q5
      have q6 := (hq.cell _).trans q6
      have hE := fun W => neq_acc W (F k 0) (F k 1) (F k 2) (F k 3) (F k 4) (F k 5) (F k 6)
      have hlt' : (k : Int) < (n : Int) := by omega
      have hge' : (0 : Int) ≤ (k : Int) := by omega
      have h0n : 0 < n := by omega
      generalize F k 0 = z0 at *
      generalize F k 1 = z1 at *
      generalize F k 2 = z2 at *
      generalize F k 3 = z3 at *
      generalize F k 4 = z4 at *
      generalize F k 5 = z5 at *
      generalize F k 6 = z6 at *
      go_wp2
      go_quiet (fail)
      go_wp2
      go_roundw
      case rel => exact ⟨k + 1, by omega, by go_num, hq.trans ⟨_, rfl⟩⟩
      case measure => simp [intOf]; omega
    · go_wp2
      go_ret
      exact ⟨rfl, hq⟩
set_option maxHeartbeats 400000 in
theorem same_none (a1 a2 : Option Addr) (c1 c2 : Nat) (w : World) :
    Calls Try.prog 12 #[.slice a1 0 c1, .slice a2 0 c2] w fun e w' => e = .returned (.bool true) ∧ Quiet w w' := by
  go_enter Try.func12, Try.ntmps12
  go_wp2
  go_loopw [5] (fun i wr => i = .int .i64 0 ∧ Quiet w wr) (fun _ _ => 0)
  case atStart => exact ⟨rfl, Quiet.refl _⟩
  case round =>
    obtain ⟨rfl, hq⟩ := hrel
    go_wp2
    go_ret
    exact ⟨rfl, hq⟩
theorem same_own {w : World} {B1 B2 m : Nat} {v1 v2 : Value} {F : Nat → Nat → Int} (h1 : w.ownsRow B1 69 7 v1 m (flat F (List.range m))) (h2 : w.ownsRow B2 69 7 v2 m (flat F (List.range m))) (hm : m ≤ 1000) :
    Calls Try.prog 12 #[v1, v2] w fun e w' => e = .returned (.bool true) ∧ Quiet w w' := by
  obtain ⟨a1, c1, rfl⟩ := row_form h1
  obtain ⟨a2, c2, rfl⟩ := row_form h2
  by_cases h0 : 0 < m
  · obtain ⟨b1, rfl, -, r1⟩ := logrow h1 h0
    obtain ⟨b2, rfl, -, r2⟩ := logrow h2 h0
    exact same_rows b1 c1 b2 c2 m F w hm r1 r2
  · obtain rfl : m = 0 := by omega
    exact same_none a1 a2 c1 c2 w
end Go.Proofs.Ytedccpconldkoaa
