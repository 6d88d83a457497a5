/- The law ShadeKept: its argument's rows opened. Condition: each number fits its kind. -/
import Derived.Test.YtlhigibgjggidaaGShadeKept16
import Derived.Test.YtlhigibgjggidaaGShadeKept22
namespace Go.Proofs.Ytlhigibgjggidaa
open Go.RowKit
set_option linter.unusedVariables false
theorem opR_mk {H : Type} {enc : TypeId × Value → H} {P : Program} {w : World} {base : Nat} {spare : Nat → Bool} {held : Bool} {fs : Array Field} {x : Addr} {len m : Nat} (hfs : fs.size = 4) {f0 f1 f2 f3 : Field} (g0 : fs[0]? = some f0) (g1 : fs[1]? = some f1) (g2 : fs[2]? = some f2) (g3 : fs[3]? = some f3)
    (u0 : P.underlying f0.type = some (.int .i64)) (u1 : P.underlying f1.type = some (.int .i64)) (u2 : P.underlying f2.type = some (.int .u64)) (u3 : P.underlying f3.type = some .bool) (hl : len ≤ m)
    (hi : ∀ i, i < m → ∃ n : Nat, ∀ (j : Nat) (f : Field), fs[j]? = some f → ∃ (v : Value) (y : DataW H × List MemPlace), w.cell? (x.add (i * fs.size + j)) = some v ∧ DataW.trod enc P w base spare held n f.type [v] = some y) : OpR w (some x) len := by
  intro i hil
  obtain ⟨n, hf⟩ := hi i (by omega)
  obtain ⟨v0, y0, c0, t0⟩ := hf 0 _ g0
  obtain ⟨v1, y1, c1, t1⟩ := hf 1 _ g1
  obtain ⟨v2, y2, c2, t2⟩ := hf 2 _ g2
  obtain ⟨v3, y3, c3, t3⟩ := hf 3 _ g3
  obtain ⟨q0, rfl, _⟩ := leaf_int u0 t0
  obtain ⟨q1, rfl, _⟩ := leaf_int u1 t1
  obtain ⟨q2, rfl, hw⟩ := leaf_int u2 t2
  obtain ⟨q3, hq3, _⟩ := DataW.trod_bool u3 t3
  obtain rfl : v3 = .bool q3 := by simpa using hq3
  obtain ⟨b, o, s⟩ := x
  have hs : s = none := by
    obtain ⟨n', hf'⟩ := hi 0 (by omega)
    obtain ⟨_, _, c00, _⟩ := hf' 0 _ g0
    simpa [Addr.add] using World.cell?_spot c00
  subst hs
  have e1 : ∀ j, (⟨b, o, none⟩ : Addr).add j = ⟨b, o + j, none⟩ := fun j => by unfold Addr.add; split <;> simp_all
  rw [e1, hfs] at c0 c1 c2 c3
  refine ⟨b, o, q0, q1, q2, q3, rfl, World.block_lt_of_cell? w _ c0, by simpa using c0, by simpa [Nat.add_assoc] using c1, by simpa [Nat.add_assoc] using c2, by simpa [Nat.add_assoc] using c3, wf_U64 hw⟩
theorem skept_law (x1 x2 x3 : Int) (A : Option Addr) (len cap : Nat) (w : World) (w1 : (Lit.int .i64 x1).wf = true) (w2 : (Lit.int .i64 x2).wf = true) (w3 : (Lit.int .i64 x3).wf = true) (h : OpR w A len) :
    Calls Try.prog 5 #[.agg #[.int .i64 x1, .int .i64 x2, .int .i64 x3], .slice A len cap] w fun e w' => e = .returned (.bool true) ∧ Below w.heap.size w w' :=
  skept_walk x1 x2 x3 A len cap w (Lib.hid h)
end Go.Proofs.Ytlhigibgjggidaa
