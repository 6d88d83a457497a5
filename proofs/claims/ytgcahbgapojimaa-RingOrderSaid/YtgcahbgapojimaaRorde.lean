/- What is read of the queue in the midst of the law RingOrder. No condition. -/
import Derived.Test.YtgcahbgapojimaaRordc
namespace Go.Proofs.Ytgcahbgapojimaa
open Go.RowKit
theorem own_form {w : World} {B E size n : Nat} {v : Value} {xs : List Value} (h : w.ownsRow B E size v n xs) : ∃ A cap, v = .slice A n cap := by
  rcases h.2 with ⟨h1, h2⟩ | ⟨g, cap, cur, h1, _⟩
  · exact ⟨none, 0, by rw [h1, h2]⟩
  · exact ⟨_, cap, h1⟩
theorem cell_of_own3 {w : World} {B g n cap : Nat} {cs : List Int} {E : TypeId} (h : w.ownsRow B E 1 (.slice (some ⟨g, 0, none⟩) n cap) n (cs.map (Value.int .u64))) (q : Nat) (hq : q < n) : w.cell? ⟨g, q, none⟩ = some (.int .u64 (cs.getD q 0)) := by
  have hn : cs.length = n := by have := h.1; simpa using this
  rw [h.cellAt q (by omega)]
  simp [List.getD_eq_getElem?_getD, show q < cs.length by omega]
theorem RoQ.look {w0 w : World} {B a c p cp x : Nat} {P T R f pn kn : Int} {np nt N : Nat} (h : RoQ w0 B a c p cp x P T R f np nt pn kn N w) :
    (nt ≤ np ∧ (np : Int) - nt ≤ R) ∧ ∃ pup A1 c1 A2 c2, (pn = 0 → pup = none) ∧ (pn ≠ 0 → ∃ m, pup = some (⟨m, 0, none⟩ : Addr)) ∧ w.cell? ⟨x, 2, none⟩ = some (.pointer pup) ∧ w.cell? ⟨x, 5, none⟩ = some (.slice A1 np c1) ∧ w.cell? ⟨x, 6, none⟩ = some (.slice A2 nt c2) ∧ w.cell? ⟨x, 7, none⟩ = some (.bool true) ∧
      (∀ i, i < np → ∃ g, A1 = some (⟨g, 0, none⟩ : Addr) ∧ w.cell? ⟨g, i, none⟩ = some (.int .u64 ((i : Int) + 1))) ∧ (∀ i, i < nt → ∃ g, A2 = some (⟨g, 0, none⟩ : Addr) ∧ w.cell? ⟨g, i, none⟩ = some (.int .u64 ((i : Int) + 1))) := by
  obtain ⟨pup, pop, vp, vt, cs, n, K, hn, hQ, hC, hU, hO⟩ := h
  have o1 := hQ.own1
  have o2 := hQ.own2
  rw [seqL_len] at o1 o2
  obtain ⟨A1, c1, e1⟩ := own_form o1
  obtain ⟨A2, c2, e2⟩ := own_form o2
  have x5 := hQ.q.val 5 rfl
  have x6 := hQ.q.val 6 rfl
  refine ⟨⟨hC.le, hC.room⟩, pup, A1, c1, A2, c2, fun e => ?_, fun e => ?_, hQ.q.val 2 rfl, by rw [← e1]; exact x5, by rw [← e2]; exact x6, hQ.q.val 7 rfl, fun i hi => ?_, fun i hi => ?_⟩
  · rcases hU with h | ⟨m, h1, h2, h3, h4⟩
    · exact h.2
    · omega
  · rcases hU with h | ⟨m, h1, _⟩
    · exact absurd h.1 e
    · exact ⟨m, h1⟩
  · obtain ⟨g, cap, e3, _, _⟩ := o1.form (by omega)
    rw [e3] at o1 e1
    have h1 := (Value.slice.inj e1).1
    refine ⟨g, h1.symm, ?_⟩
    rw [cell_of_own3 o1 i hi, seqL_get np i hi]
  · obtain ⟨g, cap, e3, _, _⟩ := o2.form (by omega)
    rw [e3] at o2 e2
    have h1 := (Value.slice.inj e2).1
    refine ⟨g, h1.symm, ?_⟩
    rw [cell_of_own3 o2 i hi, seqL_get nt i hi]
/-- four times what is left to be taken, less how far the machine is, and the steps that were made -/
def TkM (R : Int) (np nt : Nat) (kn : Int) (y : Int) : Prop := nt = np ∨ (kn = 0 ∧ 4 * ((np : Int) - nt) + y ≤ 4 * R) ∨ (kn = 1 ∧ 4 * ((np : Int) - nt) - 1 + y ≤ 4 * R) ∨ (kn = 5 ∧ 4 * ((np : Int) - nt) - 2 + y ≤ 4 * R) ∨ (kn = 6 ∧ 4 * ((np : Int) - nt) - 3 + y ≤ 4 * R)
end Go.Proofs.Ytgcahbgapojimaa
