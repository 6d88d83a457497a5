/- Two of the document's spots are compared. No condition. -/
import Derived.Test.YtgcahbgapojimaaSpots
import Derived.Laws.StructEq
namespace Go.Proofs.Ytgcahbgapojimaa
open Go.RowKit
theorem fields3 {l : List Field} {t : TypeId} (h : l.map (fun f => (f.type, f.offset, f.name == "_")) = [(t, 0, false), (t, 1, false), (t, 2, false)]) :
    ∃ f g k, l = [f, g, k] ∧ (f.type = t ∧ f.offset = 0 ∧ ¬ f.name = "_") ∧ (g.type = t ∧ g.offset = 1 ∧ ¬ g.name = "_") ∧ (k.type = t ∧ k.offset = 2 ∧ ¬ k.name = "_") := by
  have hl : l.length = 3 := by have := congrArg List.length h; simpa using this
  obtain ⟨f, l1, rfl⟩ := List.exists_cons_of_length_eq_add_one hl
  obtain ⟨g, l2, rfl⟩ := List.exists_cons_of_length_eq_add_one (show l1.length = 1 + 1 by simpa using hl)
  obtain ⟨k, l3, rfl⟩ := List.exists_cons_of_length_eq_add_one (show l2.length = 0 + 1 by simpa using hl)
  have h3 : l3 = [] := List.eq_nil_of_length_eq_zero (by simpa using hl)
  subst h3
  simp only [List.map_cons, List.map_nil, List.cons.injEq, Prod.mk.injEq, beq_eq_false_iff_ne, ne_eq, and_true] at h
  exact ⟨f, g, k, rfl, h.1, h.2.1, h.2.2⟩
theorem eq_spot (w : World) (a b c x y z : Int) :
    (binOp .eql 136 (.agg #[.int .i64 a, .int .i64 b, .int .i64 c]) (.agg #[.int .i64 x, .int .i64 y, .int .i64 z])).run Try.prog w = .ok (.bool (a == x && (b == y && c == z))) w := by
  rw [run_eql_struct, run_equalIn_agg w 9999 _ _ _ (by kernel_rfl) (by kernel_rfl)]
  obtain ⟨f, g, k, hl, ⟨f1, f2, f3⟩, ⟨g1, g2, g3⟩, k1, k2, k3⟩ := fields3 (l := (Try.prog.fieldsOf 136).toList) (t := 3) (by kernel_rfl)
  rw [hl]
  have hi : Try.prog.underlying 3 = some (.int .i64) := by kernel_rfl
  simp [Op.eqFields, f1, f2, f3, g1, g2, g3, k1, k2, k3, go_sem, hi]
  by_cases h1 : a = x <;> by_cases h2 : b = y <;> by_cases h3 : c = z <;> simp [h1, h2, h3]
theorem guard_spot : Try.prog.eqGuardType Try.prog.depth 136 = false := by kernel_rfl
end Go.Proofs.Ytgcahbgapojimaa
