/- Words of the laws of objects, as arguments. No condition. -/
import Derived.Test.YtohmnjejchppkaaDoorGObjectsBack17
namespace Go.Proofs.YtohmnjejchppkaaDoor
open Go.ChangeShapes Go.WideShapes Go.ChangeAt Go.RowKit Go.Deep
set_option linter.unusedVariables false
section
variable {H : Type} {enc : TypeId × Value → H} {w : World} {base : Nat} {spare : Nat → Bool} {held : Bool}
theorem open_words {fuel : Nat} {v : Value} {x : DataW H × List MemPlace} (h : DataW.trod enc Tryd.prog w base spare held fuel 22 [v] = some x) : ∃ l, RdRow 2 ElW w.heap.size w v l :=
  rdField Tryd.underlying22 Tryd.underlying48 (by kernel_rfl) (by kernel_rfl) rfl rfl h fun b k n hf => by
    obtain ⟨v0, y0, c0, t0⟩ := hf 0 _ rfl
    obtain ⟨v1, y1, c1, t1⟩ := hf 1 _ rfl
    obtain ⟨p, rfl, hp⟩ := leaf_int Tryd.underlying3 t0
    obtain ⟨q, rfl, hq⟩ := leaf_int Tryd.underlying26 t1
    exact ⟨(p, q), c0, c1, wf_U64 hq⟩
theorem rdFieldC {P : Program} {α : Type} {sz : Nat} {el : World → Nat → Nat → α → Prop} {t e : TypeId} {fs : Array Field} {fuel : Nat} {v : Value} {x : DataW H × List MemPlace} (ht : P.underlying t = some (.slice e)) (he : P.underlying e = some (.struct fs))
    (hone : oneCellFields P fs = true) (hC : P.cellsOf e = fs.size) (hfs : fs.size = sz) {f0 : Field} (h0 : fs[0]? = some f0) (h : DataW.trod enc P w base spare held fuel t [v] = some x)
    (hel : ∀ b k n, (∀ (j : Nat) (f : Field), fs[j]? = some f → ∃ (v : Value) (y : DataW H × List MemPlace), w.cell? ⟨b, k + j, none⟩ = some v ∧ DataW.trod enc P w base spare held n f.type [v] = some y) → ∃ a, el w b k a) :
    ∃ l, RdRow sz el w.heap.size w v l ∧ ∃ a n c, v = .slice a n c ∧ n ≤ c := by
  rcases open_slice_fields ht he hone hC h with hcs | ⟨x, len, c, m, hcs, hl, hm, hmm, hi⟩
  · obtain rfl : v = .slice none 0 0 := by simpa using hcs
    exact ⟨[], ⟨none, 0, rfl, by unfold maxLen; simp, fun i hi => absurd hi (by simp)⟩, none, 0, 0, rfl, Nat.le_refl 0⟩
  · obtain rfl : v = .slice (some x) len c := by simpa using hcs
    obtain ⟨l, _, hr⟩ := rdRow_mk (cap := c) (len := len) hfs (by split at hmm <;> omega) (by omega) h0 hi hel
    exact ⟨l, hr, _, len, c, rfl, by omega⟩
theorem leaf_bool {P : Program} {t : TypeId} {fuel : Nat} {c : Value} {x : DataW H × List MemPlace} (ht : P.underlying t = some .bool) (h : DataW.trod enc P w base spare held fuel t [c] = some x) : ∃ b, c = .bool b := by
  obtain ⟨b, hb, _⟩ := DataW.trod_bool ht h
  exact ⟨b, by simpa using hb⟩
theorem open_wordsC {fuel : Nat} {v : Value} {x : DataW H × List MemPlace} (h : DataW.trod enc Tryd.prog w base spare held fuel 22 [v] = some x) : ∃ l, RdRow 2 ElW w.heap.size w v l ∧ ∃ a n c, v = .slice a n c ∧ n ≤ c :=
  rdFieldC Tryd.underlying22 Tryd.underlying48 (by kernel_rfl) (by kernel_rfl) rfl rfl h fun b k n hf => by
    obtain ⟨v0, y0, c0, t0⟩ := hf 0 _ rfl
    obtain ⟨v1, y1, c1, t1⟩ := hf 1 _ rfl
    obtain ⟨p, rfl, hp⟩ := leaf_int Tryd.underlying3 t0
    obtain ⟨q, rfl, hq⟩ := leaf_int Tryd.underlying26 t1
    exact ⟨(p, q), c0, c1, wf_U64 hq⟩
end
end Go.Proofs.YtohmnjejchppkaaDoor
