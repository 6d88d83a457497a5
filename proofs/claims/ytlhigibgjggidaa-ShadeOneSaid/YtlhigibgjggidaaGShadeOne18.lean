/- ShadeOne: the law as the frame wants it. Condition: each number fits its kind, the row of steps is read in full. -/
import Derived.Test.YtlhigibgjggidaaGShadeOne16
import Derived.Test.YtlhigibgjggidaaGShadeOne17
namespace Go.Proofs.Ytlhigibgjggidaa
open Go.RowKit
theorem sints_at {a : Option Addr} {len cap : Nat} {zs : List Int} {w : World} (h : IsRow .i64 w a len cap zs) : Hid (∀ i, i < len → ∃ b o, a = some ⟨b, o, none⟩ ∧ b < w.heap.size ∧ w.cell? ⟨b, o + i, none⟩ = some (.int .i64 (zs.getD i 0))) := by
  refine Lib.hid ?_
  intro i hi
  rcases h with ⟨_, rfl, _⟩ | ⟨x, rfl, hl, _, hz, hc, _⟩
  · omega
  · obtain ⟨b, off, s⟩ := x
    have hs : s = none := by simpa [Addr.add] using World.cell?_spot (hc 0 (by omega))
    subst hs
    have e1 : (⟨b, off, none⟩ : Addr).add i = ⟨b, off + i, none⟩ := by unfold Addr.add; split <;> simp_all
    have h1 := hc i (by omega)
    rw [e1] at h1
    exact ⟨b, off, rfl, World.block_lt_of_cell? w _ h1, h1⟩
section
open Go.ChangeShapes Go.WideShapes Go.ChangeAt
theorem leaf_bool {H : Type} {enc : TypeId × Value → H} {w : World} {base : Nat} {spare : Nat → Bool} {held : Bool} {P : Program} {t : TypeId} {fuel : Nat} {c : Value} {x : DataW H × List MemPlace} (ht : P.underlying t = some .bool) (h : DataW.trod enc P w base spare held fuel t [c] = some x) : ∃ b, c = .bool b := by
  obtain ⟨b, hb, _⟩ := DataW.trod_bool ht h
  exact ⟨b, by simpa using hb⟩
end
theorem sone_law (P0 T0 R0 rf0 : Int) (aa : Option Addr) (n0 c0 : Nat) (zs : List Int) (set : Bool) (w : World) (_h1 : (Lit.int .i64 P0).wf = true) (_h2 : (Lit.int .i64 T0).wf = true) (_h3 : (Lit.int .i64 R0).wf = true) (h4 : (Lit.int .u64 rf0).wf = true) (h5 : IsRow .i64 w aa n0 c0 zs) :
    Calls Try.prog 4 #[.agg #[.int .i64 P0, .int .i64 T0, .int .i64 R0, .int .u64 rf0, .slice aa n0 c0, .bool set]] w fun e w' => e = .returned (.bool true) ∧ Below w.heap.size w w' :=
  sone_walk P0 T0 R0 rf0 aa n0 c0 (fun i => zs.getD i 0) set w (wf_U64 h4) (by rcases h5 with ⟨_, rfl, _⟩ | ⟨_, _, h, h', _⟩ <;> omega) (sints_at h5)
end Go.Proofs.Ytlhigibgjggidaa
