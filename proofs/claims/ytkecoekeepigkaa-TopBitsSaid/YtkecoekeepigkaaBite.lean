/- The law TopBits: the walk at arguments as the frame hands them. No condition but that each number fits its kind. -/
import Derived.Test.YtkecoekeepigkaaBitl
import Derived.Deep.Grids
namespace Go.Proofs.Ytkecoekeepigkaa
open Go.RowKit
/-- A slice of bools as an argument. -/
def BoolsR (w : World) (a : Option Addr) (len _cap : Nat) (B : Nat → Bool) : Prop :=
  (a = none ∧ len = 0) ∨ ∃ x, a = some x ∧ ∀ i, i < len → w.cell? (x.add i) = some (.bool (B i))
theorem row_at {A : Option Addr} {n cap : Nat} {z : List Int} {w : World} (h : IsRow .i64 w A n cap z) : Hid (∀ i, i < n → ∃ b o z, A = some ⟨b, o, none⟩ ∧ b < w.heap.size ∧ w.cell? ⟨b, o + i, none⟩ = some (.int .i64 z)) := by
  refine Lib.hid ?_
  intro i hi
  obtain ⟨hl, _, _, hlen⟩ := h.lst
  rcases hl with ⟨h0, _⟩ | ⟨b, o, c, he, hp, _, hc⟩
  · rw [h0] at hlen
    have h1 : 0 = n := hlen
    omega
  · rw [hlen] at he hp hc
    cases he
    exact ⟨b, o, _, rfl, World.block_lt_of_cell? w _ (hc i hi), hc i hi⟩
theorem bools_at {a : Option Addr} {len cap : Nat} {B : Nat → Bool} {w : World} (h : BoolsR w a len cap B) : Hid (∀ i, i < len → ∃ b o z, a = some ⟨b, o, none⟩ ∧ b < w.heap.size ∧ w.cell? ⟨b, o + i, none⟩ = some (.bool z)) := by
  refine Lib.hid ?_
  intro i hi
  rcases h with ⟨_, rfl⟩ | ⟨x, rfl, hc⟩
  · omega
  · obtain ⟨b, off, s⟩ := x
    have hs : s = none := by simpa [Addr.add] using World.cell?_spot (hc 0 (by omega))
    subst hs
    have e1 : (⟨b, off, none⟩ : Addr).add i = ⟨b, off + i, none⟩ := by unfold Addr.add; split <;> simp_all
    have h1 := hc i hi
    rw [e1] at h1
    exact ⟨b, off, _, rfl, World.block_lt_of_cell? w _ h1, h1⟩
theorem topbits_law (A1 : Option Addr) (n1 c1 : Nat) (z1 : List Int) (A2 : Option Addr) (n2 c2 : Nat) (z2 : List Int) (A3 : Option Addr) (n3 c3 : Nat) (B : Nat → Bool) (w : World) (h1 : IsRow .i64 w A1 n1 c1 z1) (h2 : IsRow .i64 w A2 n2 c2 z2) (h3 : BoolsR w A3 n3 c3 B) :
    Calls Try.prog 9 #[.slice A1 n1 c1, .slice A2 n2 c2, .slice A3 n3 c3] w fun e w' => e = .returned (.bool true) ∧ Below w.heap.size w w' :=
  topbits_walk A1 A2 A3 n1 n2 n3 c1 c2 c3 w h2.lst.2.2.1 (row_at h1) (row_at h2) (bools_at h3)
end Go.Proofs.Ytkecoekeepigkaa
