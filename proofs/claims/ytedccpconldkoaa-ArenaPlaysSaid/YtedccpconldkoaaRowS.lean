/- Slices of structs of integers, as arguments: what a walk is told of one; and Words of the document at two slices. No condition. -/
import Derived.Test.YtedccpconldkoaaOpen
import Derived.Deep.Slices
import Derived.Deep.Fields
import Derived.ChangeSame
namespace Go.Proofs.Ytedccpconldkoaa
open Go.ChangeShapes Go.WideShapes Go.ChangeAt Go.RowKit Go.Deep
section
variable {H : Type} {enc : TypeId × Value → H} {P : Program} {w : World} {base : Nat} {spare : Nat → Bool} {held : Bool}
theorem open_slice_fields {t e : TypeId} {fs : Array Field} {fuel : Nat} {cs : List Value} {x : DataW H × List MemPlace} (ht : P.underlying t = some (.slice e)) (he : P.underlying e = some (.struct fs))
    (hone : oneCellFields P fs = true) (hC : P.cellsOf e = fs.size) (h : DataW.trod enc P w base spare held fuel t cs = some x) :
    (cs = [.slice none 0 0]) ∨
    ∃ (a : Addr) (len cap m : Nat), cs = [.slice (some a) len cap] ∧ len ≤ cap ∧ cap ≤ maxLen ∧ m = (if spare a.block then cap else len) ∧
      ∀ i, i < m → ∃ n : Nat, ∀ (j : Nat) (f : Field), fs[j]? = some f → ∃ (v : Value) (y : DataW H × List MemPlace), w.cell? (a.add (i * fs.size + j)) = some v ∧ DataW.trod enc P w base spare held n f.type [v] = some y := by
  rcases open_slice ht h with h0 | ⟨a, len, cap, m, n, D, Pl, hcs, hb, hl, hm, hmm, hx, hi⟩
  · exact .inl h0.1
  · refine .inr ⟨a, len, cap, m, hcs, hl, hm, hmm, fun i him => ?_⟩
    obtain ⟨cs', hc, ht'⟩ := hi i him
    rw [hC] at hc
    obtain ⟨ys, n', hn', hy, hlen, hyl, hf⟩ := DataW.trod_struct he ht'
    obtain ⟨_, hcl, hat⟩ := World.cells?_some hc
    refine ⟨n', fun j f hj => ?_⟩
    obtain ⟨ho, hk⟩ := hone_of hone j f hj
    have hjl : j < fs.size := (Array.getElem?_eq_some_iff.1 hj).1
    have hcell := hat j hjl
    have hv : cs'[j]? = some (cs'[j]'(by omega)) := List.getElem?_eq_getElem (by omega)
    have h1 := hf j f hj
    rw [ho, hk] at h1
    have hone' : (cs'.drop j).take 1 = [cs'[j]'(by omega)] := by
      rw [List.drop_eq_getElem_cons (by omega)]
      rfl
    rw [hone'] at h1
    have hys : ys[j]? = some (ys[j]'(by omega)) := List.getElem?_eq_getElem (by omega)
    refine ⟨_, _, ?_, h1.trans hys⟩
    rw [← Go.Deep.add_add, hcell, hv]
end
/-- A slice of structs of nf integers, field j of kind kd j: nil, or the elements' numbers F i j. -/
def RowS (nf : Nat) (kd : Nat → IntKind) (w : World) (a : Option Addr) (len _cap : Nat) (F : Nat → Nat → Int) : Prop :=
  len ≤ maxLen ∧ (len = 0 ∨ (∃ b o, a = some ⟨b, o, none⟩ ∧ b < w.heap.size ∧ ∀ i, i < len → ∀ j, j < nf → w.cell? ⟨b, o + i * nf + j, none⟩ = some (.int (kd j) (F i j)) ∧ (Lit.int (kd j) (F i j)).wf = true))
theorem choose2 {p : Nat → Nat → Int → Prop} {m nf : Nat} (h : ∀ i, i < m → ∀ j, j < nf → ∃ n : Int, p i j n) : ∃ F : Nat → Nat → Int, ∀ i, i < m → ∀ j, j < nf → p i j (F i j) := by
  refine ⟨fun i j => if h' : i < m ∧ j < nf then Classical.choose (h i h'.1 j h'.2) else 0, fun i hi j hj => ?_⟩
  simp only [dif_pos (And.intro hi hj)]
  exact Classical.choose_spec (h i hi j hj)
theorem rowS_mk {H : Type} {enc : TypeId × Value → H} {P : Program} {w : World} {base : Nat} {spare : Nat → Bool} {held : Bool} {fs : Array Field} {nf : Nat} {kd : Nat → IntKind} {x : Addr} {len cap m : Nat} (hfs : fs.size = nf)
    (hk : ∀ j, j < nf → ∃ f, fs[j]? = some f ∧ P.underlying f.type = some (.int (kd j))) (hl : len ≤ m) (hmax : len ≤ maxLen) (hn : 0 < nf)
    (hi : ∀ i, i < m → ∃ n : Nat, ∀ (j : Nat) (f : Field), fs[j]? = some f → ∃ (v : Value) (y : DataW H × List MemPlace), w.cell? (x.add (i * fs.size + j)) = some v ∧ DataW.trod enc P w base spare held n f.type [v] = some y) :
    ∃ F, RowS nf kd w (some x) len cap F := by
  subst hfs
  rcases Nat.eq_zero_or_pos len with h0 | h0
  · exact ⟨fun _ _ => 0, hmax, .inl h0⟩
  · obtain ⟨F, hF⟩ := choose2 (p := fun i j n => w.cell? (x.add (i * fs.size + j)) = some (.int (kd j) n) ∧ (Lit.int (kd j) n).wf = true) (m := len) (nf := fs.size) (fun i hil j hj => by
      obtain ⟨n, hf⟩ := hi i (Nat.lt_of_lt_of_le hil hl)
      obtain ⟨f, hfj, hu⟩ := hk j hj
      obtain ⟨v, y, hc, ht⟩ := hf j f hfj
      obtain ⟨q, rfl, hw⟩ := leaf_int hu ht
      exact ⟨q, hc, hw⟩)
    obtain ⟨b, o, s⟩ := x
    have hs : s = none := by simpa [Addr.add] using World.cell?_spot (hF 0 h0 0 hn).1
    subst hs
    have e1 : ∀ k, (⟨b, o, none⟩ : Addr).add k = ⟨b, o + k, none⟩ := fun k => by unfold Addr.add; split <;> simp_all
    refine ⟨F, hmax, .inr ⟨b, o, rfl, World.block_lt_of_cell? w _ ((e1 _) ▸ (hF 0 h0 0 hn).1), fun i hil j hj => ?_⟩⟩
    have := hF i hil j hj
    rw [e1, ← Nat.add_assoc] at this
    exact this
end Go.Proofs.Ytedccpconldkoaa
