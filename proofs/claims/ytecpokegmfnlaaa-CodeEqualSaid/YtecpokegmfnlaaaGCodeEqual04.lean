/- Texts of this seat, one behind the other: each says at its head what it holds. No condition of its own. -/
import Derived.Deep.Slices
import Derived.Deep.Fields
import Derived.ChangeSame
import Derived.Deep.Strs
import Derived.StillTailTactics
import Derived.Test.YtecpokegmfnlaaaGCodeEqual01
import Derived.Test.YtecpokegmfnlaaaGCodeEqual02
import Derived.Test.YtecpokegmfnlaaaGCodeEqual03
/- Slices of structs of integers, as arguments: what a walk is told of one; and Words of the document at two slices. No condition. -/
namespace Go.Proofs.Ytecpokegmfnlaaa
open Go.ChangeShapes Go.WideShapes Go.ChangeAt Go.RowKit Go.Deep
section
variable {H : Type} {enc : TypeId × Value → H} {P : Program} {w : World} {base : Nat} {spare : Nat → Bool} {held : Bool}
theorem open_slice_fields {t e : TypeId} {fs : Array Field} {fuel : Nat} {cs : List Value} {x : DataW H × List MemPlace} (ht : P.underlying t = some (.slice e)) (he : P.underlying e = some (.struct fs))
    (hone : oneCellFields P fs = true) (hC : P.cellsOf e = fs.size) (h : DataW.trod enc P w base spare held fuel t cs = some x) :
    (cs = [.slice none 0 0]) ∨
    ∃ (a : Addr) (len cap m : Nat), cs = [.slice (some a) len cap] ∧ len ≤ cap ∧ cap ≤ maxLen ∧ m = (if spare a.block then cap else len) ∧
      ∀ i, i < m → ∃ n : Nat, ∀ (j : Nat) (f : Field), fs[j]? = some f → ∃ (v : Value) (y : DataW H × List MemPlace), w.cell? (a.add (i * fs.size + j)) = some v ∧ DataW.trod enc P w base spare held n f.type [v] = some y := by
  rcases open_slice ht h with h0 | ⟨a, len, cap, m, n, D, Pl, hcs, hb, hl, hm, hmm, hx, hi⟩
  · exact .inl h0.1
  · refine .inr ⟨a, len, cap, m, hcs, hl, hm, hmm, fun i him => ?_⟩
    obtain ⟨cs', hc, ht'⟩ := hi i him
    rw [hC] at hc
    obtain ⟨ys, n', hn', hy, hlen, hyl, hf⟩ := DataW.trod_struct he ht'
    obtain ⟨_, hcl, hat⟩ := World.cells?_some hc
    refine ⟨n', fun j f hj => ?_⟩
    obtain ⟨ho, hk⟩ := hone_of hone j f hj
    have hjl : j < fs.size := (Array.getElem?_eq_some_iff.1 hj).1
    have hcell := hat j hjl
    have hv : cs'[j]? = some (cs'[j]'(by omega)) := List.getElem?_eq_getElem (by omega)
    have h1 := hf j f hj
    rw [ho, hk] at h1
    have hone' : (cs'.drop j).take 1 = [cs'[j]'(by omega)] := by
      rw [List.drop_eq_getElem_cons (by omega)]
      rfl
    rw [hone'] at h1
    have hys : ys[j]? = some (ys[j]'(by omega)) := List.getElem?_eq_getElem (by omega)
    refine ⟨_, _, ?_, h1.trans hys⟩
    rw [← Go.Deep.add_add, hcell, hv]
end
/-- A slice of structs of nf integers, field j of kind kd j: nil, or the elements' numbers F i j. -/
def RowS (nf : Nat) (kd : Nat → IntKind) (w : World) (a : Option Addr) (len _cap : Nat) (F : Nat → Nat → Int) : Prop :=
  len ≤ maxLen ∧ (len = 0 ∨ (∃ b o, a = some ⟨b, o, none⟩ ∧ b < w.heap.size ∧ ∀ i, i < len → ∀ j, j < nf → w.cell? ⟨b, o + i * nf + j, none⟩ = some (.int (kd j) (F i j)) ∧ (Lit.int (kd j) (F i j)).wf = true))
theorem choose2 {p : Nat → Nat → Int → Prop} {m nf : Nat} (h : ∀ i, i < m → ∀ j, j < nf → ∃ n : Int, p i j n) : ∃ F : Nat → Nat → Int, ∀ i, i < m → ∀ j, j < nf → p i j (F i j) := by
  refine ⟨fun i j => if h' : i < m ∧ j < nf then Classical.choose (h i h'.1 j h'.2) else 0, fun i hi j hj => ?_⟩
  simp only [dif_pos (And.intro hi hj)]
  exact Classical.choose_spec (h i hi j hj)
theorem rowS_mk {H : Type} {enc : TypeId × Value → H} {P : Program} {w : World} {base : Nat} {spare : Nat → Bool} {held : Bool} {fs : Array Field} {nf : Nat} {kd : Nat → IntKind} {x : Addr} {len cap m : Nat} (hfs : fs.size = nf)
    (hk : ∀ j, j < nf → ∃ f, fs[j]? = some f ∧ P.underlying f.type = some (.int (kd j))) (hl : len ≤ m) (hmax : len ≤ maxLen) (hn : 0 < nf)
    (hi : ∀ i, i < m → ∃ n : Nat, ∀ (j : Nat) (f : Field), fs[j]? = some f → ∃ (v : Value) (y : DataW H × List MemPlace), w.cell? (x.add (i * fs.size + j)) = some v ∧ DataW.trod enc P w base spare held n f.type [v] = some y) :
    ∃ F, RowS nf kd w (some x) len cap F := by
  subst hfs
  rcases Nat.eq_zero_or_pos len with h0 | h0
  · exact ⟨fun _ _ => 0, hmax, .inl h0⟩
  · obtain ⟨F, hF⟩ := choose2 (p := fun i j n => w.cell? (x.add (i * fs.size + j)) = some (.int (kd j) n) ∧ (Lit.int (kd j) n).wf = true) (m := len) (nf := fs.size) (fun i hil j hj => by
      obtain ⟨n, hf⟩ := hi i (Nat.lt_of_lt_of_le hil hl)
      obtain ⟨f, hfj, hu⟩ := hk j hj
      obtain ⟨v, y, hc, ht⟩ := hf j f hfj
      obtain ⟨q, rfl, hw⟩ := leaf_int hu ht
      exact ⟨q, hc, hw⟩)
    obtain ⟨b, o, s⟩ := x
    have hs : s = none := by simpa [Addr.add] using World.cell?_spot (hF 0 h0 0 hn).1
    subst hs
    have e1 : ∀ k, (⟨b, o, none⟩ : Addr).add k = ⟨b, o + k, none⟩ := fun k => by unfold Addr.add; split <;> simp_all
    refine ⟨F, hmax, .inr ⟨b, o, rfl, World.block_lt_of_cell? w _ ((e1 _) ▸ (hF 0 h0 0 hn).1), fun i hil j hj => ?_⟩⟩
    have := hF i hil j hj
    rw [e1, ← Nat.add_assoc] at this
    exact this
end Go.Proofs.Ytecpokegmfnlaaa
/- Programs (classes and functions) as arguments: their rows opened, cell by cell. No condition. -/
namespace Go.Proofs.Ytecpokegmfnlaaa
open Go.ChangeShapes Go.WideShapes Go.ChangeAt Go.RowKit Go.Deep
set_option linter.unusedVariables false
structure FldD where
  name : ByteArray
  ty : Int
structure ClsD where
  name : ByteArray
  fields : List FldD
structure InsD where
  op : Int
  a : Int
  b : Int
structure FunD where
  name : ByteArray
  params : List Int
  result : Int
  locals : List Int
  code : List InsD
structure PrgD where
  classes : List ClsD
  funcs : List FunD
def I64 (x : Int) : Prop := -9223372036854775808 ≤ x ∧ x < 9223372036854775808
theorem wf_I64 {x : Int} (h : (Lit.int .i64 x).wf = true) : I64 x := by
  simp [Lit.wf, IntKind.min, IntKind.max, IntKind.signed, IntKind.bits] at h
  exact ⟨by omega, by omega⟩
/-- A slice whose elements take sz cells each, in blocks below B. -/
def RdRow {α : Type} (sz : Nat) (el : World → Nat → Nat → α → Prop) (B : Nat) (w : World) (v : Value) (l : List α) : Prop :=
  ∃ a c, v = .slice a l.length c ∧ l.length ≤ maxLen ∧ ∀ i, (h : i < l.length) → ∃ b o, a = some ⟨b, o, none⟩ ∧ b < B ∧ el w b (o + i * sz) l[i]
def ElI (w : World) (b k : Nat) (x : Int) : Prop := w.cell? ⟨b, k, none⟩ = some (.int .i64 x) ∧ I64 x
def ElF (w : World) (b k : Nat) (f : FldD) : Prop := w.cell? ⟨b, k, none⟩ = some (.string f.name) ∧ w.cell? ⟨b, k + 1, none⟩ = some (.int .i64 f.ty) ∧ I64 f.ty
def ElC (B : Nat) (w : World) (b k : Nat) (c : ClsD) : Prop := w.cell? ⟨b, k, none⟩ = some (.string c.name) ∧ ∃ v, w.cell? ⟨b, k + 1, none⟩ = some v ∧ RdRow 2 ElF B w v c.fields
def ElN (w : World) (b k : Nat) (x : InsD) : Prop := w.cell? ⟨b, k, none⟩ = some (.int .i64 x.op) ∧ w.cell? ⟨b, k + 1, none⟩ = some (.int .i64 x.a) ∧ w.cell? ⟨b, k + 2, none⟩ = some (.int .i64 x.b) ∧ I64 x.op ∧ I64 x.a ∧ I64 x.b
def ElU (B : Nat) (w : World) (b k : Nat) (f : FunD) : Prop := w.cell? ⟨b, k, none⟩ = some (.string f.name) ∧ (∃ v, w.cell? ⟨b, k + 1, none⟩ = some v ∧ RdRow 1 ElI B w v f.params) ∧ (w.cell? ⟨b, k + 2, none⟩ = some (.int .i64 f.result) ∧ I64 f.result) ∧
  (∃ v, w.cell? ⟨b, k + 3, none⟩ = some v ∧ RdRow 1 ElI B w v f.locals) ∧ ∃ v, w.cell? ⟨b, k + 4, none⟩ = some v ∧ RdRow 3 ElN B w v f.code
def RdPrg (B : Nat) (w : World) (v0 v1 : Value) (p : PrgD) : Prop := RdRow 2 (ElC B) B w v0 p.classes ∧ RdRow 5 (ElU B) B w v1 p.funcs

section
variable {α : Type} {sz B : Nat} {el : World → Nat → Nat → α → Prop} {w w' : World} {v : Value} {l : List α}
theorem RdRow.keep (h : RdRow sz el B w v l) (hb : Below B w w') (hk : ∀ b k x, b < B → el w b k x → el w' b k x) : RdRow sz el B w' v l := by
  obtain ⟨a, c, h1, h2, h3⟩ := h
  exact ⟨a, c, h1, h2, fun i hi => by obtain ⟨b, o, e1, e2, e3⟩ := h3 i hi; exact ⟨b, o, e1, e2, hk _ _ _ e2 e3⟩⟩
theorem ElI.keep {b k : Nat} {x : Int} (hb : Below B w w') (h0 : b < B) (h : ElI w b k x) : ElI w' b k x := ⟨(hb.cell (p := ⟨b, k, none⟩) h0).trans h.1, h.2⟩
theorem ElF.keep {b k : Nat} {x : FldD} (hb : Below B w w') (h0 : b < B) (h : ElF w b k x) : ElF w' b k x :=
  ⟨(hb.cell (p := ⟨b, k, none⟩) h0).trans h.1, (hb.cell (p := ⟨b, k + 1, none⟩) h0).trans h.2.1, h.2.2⟩
theorem ElN.keep {b k : Nat} {x : InsD} (hb : Below B w w') (h0 : b < B) (h : ElN w b k x) : ElN w' b k x :=
  ⟨(hb.cell (p := ⟨b, k, none⟩) h0).trans h.1, (hb.cell (p := ⟨b, k + 1, none⟩) h0).trans h.2.1, (hb.cell (p := ⟨b, k + 2, none⟩) h0).trans h.2.2.1, h.2.2.2⟩
theorem ElC.keep {b k : Nat} {x : ClsD} (hb : Below B w w') (h0 : b < B) (h : ElC B w b k x) : ElC B w' b k x := by
  obtain ⟨h1, v, h2, h3⟩ := h
  exact ⟨(hb.cell (p := ⟨b, k, none⟩) h0).trans h1, v, (hb.cell (p := ⟨b, k + 1, none⟩) h0).trans h2, h3.keep hb fun _ _ _ e r => r.keep hb e⟩
theorem ElU.keep {b k : Nat} {x : FunD} (hb : Below B w w') (h0 : b < B) (h : ElU B w b k x) : ElU B w' b k x := by
  obtain ⟨h1, ⟨v2, h2, h3⟩, ⟨h4, h5⟩, ⟨v6, h6, h7⟩, v8, h8, h9⟩ := h
  exact ⟨(hb.cell (p := ⟨b, k, none⟩) h0).trans h1, ⟨v2, (hb.cell (p := ⟨b, k + 1, none⟩) h0).trans h2, h3.keep hb fun _ _ _ e r => r.keep hb e⟩, ⟨(hb.cell (p := ⟨b, k + 2, none⟩) h0).trans h4, h5⟩,
    ⟨v6, (hb.cell (p := ⟨b, k + 3, none⟩) h0).trans h6, h7.keep hb fun _ _ _ e r => r.keep hb e⟩, v8, (hb.cell (p := ⟨b, k + 4, none⟩) h0).trans h8, h9.keep hb fun _ _ _ e r => r.keep hb e⟩
theorem RdPrg.keep {v0 v1 : Value} {p : PrgD} (h : RdPrg B w v0 v1 p) (hb : Below B w w') : RdPrg B w' v0 v1 p :=
  ⟨h.1.keep hb fun _ _ _ e r => r.keep hb e, h.2.keep hb fun _ _ _ e r => r.keep hb e⟩
end

theorem RdRow.mono {α : Type} {sz B B' : Nat} {el el' : World → Nat → Nat → α → Prop} {w : World} {v : Value} {l : List α} (h : RdRow sz el B w v l) (hB : B ≤ B') (hk : ∀ b k x, el w b k x → el' w b k x) : RdRow sz el' B' w v l := by
  obtain ⟨a, c, h1, h2, h3⟩ := h
  exact ⟨a, c, h1, h2, fun i hi => by obtain ⟨b, o, e1, e2, e3⟩ := h3 i hi; exact ⟨b, o, e1, Nat.lt_of_lt_of_le e2 hB, hk _ _ _ e3⟩⟩
theorem RdPrg.mono {B B' : Nat} {w : World} {v0 v1 : Value} {p : PrgD} (h : RdPrg B w v0 v1 p) (hB : B ≤ B') : RdPrg B' w v0 v1 p :=
  ⟨h.1.mono hB fun b k x ⟨e1, v, e2, e3⟩ => ⟨e1, v, e2, e3.mono hB fun _ _ _ q => q⟩,
   h.2.mono hB fun b k x ⟨e1, ⟨v2, e2, e3⟩, e4, ⟨v6, e6, e7⟩, v8, e8, e9⟩ => ⟨e1, ⟨v2, e2, e3.mono hB fun _ _ _ q => q⟩, e4, ⟨v6, e6, e7.mono hB fun _ _ _ q => q⟩, v8, e8, e9.mono hB fun _ _ _ q => q⟩⟩
section
variable {H : Type} {enc : TypeId × Value → H} {P : Program} {w : World} {base : Nat} {spare : Nat → Bool} {held : Bool}
theorem chooseL {α : Type} {p : Nat → α → Prop} {m : Nat} (h : ∀ i, i < m → ∃ x, p i x) : ∃ l : List α, l.length = m ∧ ∀ i, (hi : i < l.length) → p i l[i] := by
  induction m with
  | zero => exact ⟨[], rfl, fun i hi => absurd hi (by simp)⟩
  | succ m ih =>
    obtain ⟨l, hl, hp⟩ := ih fun i hi => h i (by omega)
    obtain ⟨x, hx⟩ := h m (by omega)
    refine ⟨l ++ [x], by simp [hl], fun i hi => ?_⟩
    by_cases e : i < l.length
    · rw [List.getElem_append_left e]; exact hp i e
    · simp at hi
      obtain rfl : i = m := by omega
      rw [List.getElem_append_right (by omega)]
      simpa using hx
theorem rdRow_mk {α : Type} {sz : Nat} {el : World → Nat → Nat → α → Prop} {fs : Array Field} {x : Addr} {len cap m : Nat} (hfs : fs.size = sz) (hl : len ≤ m) (hmax : len ≤ maxLen) {f0 : Field} (h0 : fs[0]? = some f0)
    (hi : ∀ i, i < m → ∃ n : Nat, ∀ (j : Nat) (f : Field), fs[j]? = some f → ∃ (v : Value) (y : DataW H × List MemPlace), w.cell? (x.add (i * fs.size + j)) = some v ∧ DataW.trod enc P w base spare held n f.type [v] = some y)
    (hel : ∀ b k n, (∀ (j : Nat) (f : Field), fs[j]? = some f → ∃ (v : Value) (y : DataW H × List MemPlace), w.cell? ⟨b, k + j, none⟩ = some v ∧ DataW.trod enc P w base spare held n f.type [v] = some y) → ∃ a, el w b k a) :
    ∃ l, l.length = len ∧ RdRow sz el w.heap.size w (.slice (some x) len cap) l := by
  subst hfs
  rcases Nat.eq_zero_or_pos len with e | hpos
  · subst e; exact ⟨[], rfl, _, _, rfl, by unfold maxLen; simp, fun i hi => absurd hi (by simp)⟩
  obtain ⟨b, o, s⟩ := x
  have hs : s = none := by
    obtain ⟨n, hf⟩ := hi 0 (by omega)
    obtain ⟨v, _, hc, _⟩ := hf 0 _ h0
    simpa [Addr.add] using World.cell?_spot hc
  subst hs
  have e1 : ∀ k, (⟨b, o, none⟩ : Addr).add k = ⟨b, o + k, none⟩ := fun k => by unfold Addr.add; split <;> simp_all
  obtain ⟨l, hl', hp⟩ := chooseL (p := fun i a => b < w.heap.size ∧ el w b (o + i * fs.size) a) (m := len) (fun i hil => by
    obtain ⟨n, hf⟩ := hi i (by omega)
    obtain ⟨v, _, hc, _⟩ := hf 0 _ h0
    rw [e1] at hc
    obtain ⟨a, ha⟩ := hel b (o + i * fs.size) n (fun j f hj => by
      obtain ⟨v, y, hc, ht⟩ := hf j f hj
      rw [e1, ← Nat.add_assoc] at hc
      exact ⟨v, y, hc, ht⟩)
    exact ⟨a, World.block_lt_of_cell? w _ hc, ha⟩)
  exact ⟨l, hl', some ⟨b, o, none⟩, cap, by rw [hl'], by omega, fun i hi => ⟨b, o, rfl, (hp i hi).1, (hp i hi).2⟩⟩
theorem leaf_string {t : TypeId} {fuel : Nat} {c : Value} {x : DataW H × List MemPlace} (ht : P.underlying t = some .string) (h : DataW.trod enc P w base spare held fuel t [c] = some x) : ∃ s, c = .string s := by
  obtain ⟨s, hs, _⟩ := DataW.trod_string ht h
  exact ⟨s, by simpa using hs⟩
/-- a field that is a slice of structs -/
theorem rdField {α : Type} {sz : Nat} {el : World → Nat → Nat → α → Prop} {t e : TypeId} {fs : Array Field} {fuel : Nat} {v : Value} {x : DataW H × List MemPlace} (ht : P.underlying t = some (.slice e)) (he : P.underlying e = some (.struct fs))
    (hone : oneCellFields P fs = true) (hC : P.cellsOf e = fs.size) (hfs : fs.size = sz) {f0 : Field} (h0 : fs[0]? = some f0) (h : DataW.trod enc P w base spare held fuel t [v] = some x)
    (hel : ∀ b k n, (∀ (j : Nat) (f : Field), fs[j]? = some f → ∃ (v : Value) (y : DataW H × List MemPlace), w.cell? ⟨b, k + j, none⟩ = some v ∧ DataW.trod enc P w base spare held n f.type [v] = some y) → ∃ a, el w b k a) :
    ∃ l, RdRow sz el w.heap.size w v l := by
  rcases open_slice_fields ht he hone hC h with hcs | ⟨x, len, c, m, hcs, hl, hm, hmm, hi⟩
  · obtain rfl : v = .slice none 0 0 := by simpa using hcs
    exact ⟨[], none, 0, rfl, by unfold maxLen; simp, fun i hi => absurd hi (by simp)⟩
  · obtain rfl : v = .slice (some x) len c := by simpa using hcs
    obtain ⟨l, _, hr⟩ := rdRow_mk (cap := c) (len := len) hfs (by split at hmm <;> omega) (by omega) h0 hi hel
    exact ⟨l, hr⟩
theorem rdInts {t e : TypeId} {fuel : Nat} {v : Value} {x : DataW H × List MemPlace} (ht : P.underlying t = some (.slice e)) (he : P.underlying e = some (.int .i64)) (hC : P.cellsOf e = 1) (h : DataW.trod enc P w base spare held fuel t [v] = some x) :
    ∃ l, RdRow 1 ElI w.heap.size w v l := by
  rcases open_ints ht he hC h with ⟨hcs, _⟩ | ⟨x, len, c, zs, hcs, _, hl, hm, hz, _, hcell, hwz⟩
  · obtain rfl : v = .slice none 0 0 := by simpa using hcs
    exact ⟨[], none, 0, rfl, by unfold maxLen; simp, fun i hi => absurd hi (by simp)⟩
  · obtain rfl : v = .slice (some x) len c := by simpa using hcs
    have hz' : len ≤ zs.length := by split at hz <;> omega
    rcases Nat.eq_zero_or_pos len with e0 | hpos
    · subst e0; exact ⟨[], _, _, rfl, by unfold maxLen; simp, fun i hi => absurd hi (by simp)⟩
    obtain ⟨b, o, s⟩ := x
    have hs : s = none := by simpa [Addr.add] using World.cell?_spot (hcell 0 (by omega))
    subst hs
    have e1 : ∀ k, (⟨b, o, none⟩ : Addr).add k = ⟨b, o + k, none⟩ := fun k => by unfold Addr.add; split <;> simp_all
    have hlen : (zs.take len).length = len := by rw [List.length_take]; omega
    refine ⟨zs.take len, some ⟨b, o, none⟩, c, by rw [hlen], by omega, fun i hi => ⟨b, o, rfl, ?_, ?_, ?_⟩⟩
    · have := hcell 0 (by omega)
      rw [e1] at this
      exact World.block_lt_of_cell? w _ this
    · have := hcell i (by omega)
      rw [e1] at this
      rw [Nat.mul_one, this, List.getElem_take, List.getD_eq_getElem?_getD, List.getElem?_eq_getElem (by omega)]
      rfl
    · exact wf_I64 (hwz _ (by rw [List.getElem_take]; exact List.getElem_mem _))
end
section
variable {H : Type} {enc : TypeId × Value → H} {w : World} {base : Nat} {spare : Nat → Bool} {held : Bool}
theorem open_fields {fuel : Nat} {v : Value} {x : DataW H × List MemPlace} (h : DataW.trod enc Try.prog w base spare held fuel 46 [v] = some x) : ∃ l, RdRow 2 ElF w.heap.size w v l :=
  rdField Try.underlying46 Try.underlying50 (by kernel_rfl) (by kernel_rfl) rfl rfl h fun b k n hf => by
    obtain ⟨v0, y0, c0, t0⟩ := hf 0 _ rfl
    obtain ⟨v1, y1, c1, t1⟩ := hf 1 _ rfl
    obtain ⟨s, rfl⟩ := leaf_string Try.underlying9 t0
    obtain ⟨q, rfl, hw⟩ := leaf_int Try.underlying3 t1
    exact ⟨⟨s, q⟩, c0, c1, wf_I64 hw⟩
theorem open_classes {fuel : Nat} {v : Value} {x : DataW H × List MemPlace} (h : DataW.trod enc Try.prog w base spare held fuel 26 [v] = some x) : ∃ l, RdRow 2 (ElC w.heap.size) w.heap.size w v l :=
  rdField Try.underlying26 Try.underlying48 (by kernel_rfl) (by kernel_rfl) rfl rfl h fun b k n hf => by
    obtain ⟨v0, y0, c0, t0⟩ := hf 0 _ rfl
    obtain ⟨v1, y1, c1, t1⟩ := hf 1 _ rfl
    obtain ⟨s, rfl⟩ := leaf_string Try.underlying9 t0
    obtain ⟨l, hl⟩ := open_fields t1
    exact ⟨⟨s, l⟩, c0, v1, c1, hl⟩
theorem open_code {fuel : Nat} {v : Value} {x : DataW H × List MemPlace} (h : DataW.trod enc Try.prog w base spare held fuel 52 [v] = some x) : ∃ l, RdRow 3 ElN w.heap.size w v l :=
  rdField Try.underlying52 Try.underlying23 (by kernel_rfl) (by kernel_rfl) rfl rfl h fun b k n hf => by
    obtain ⟨v0, y0, c0, t0⟩ := hf 0 _ rfl
    obtain ⟨v1, y1, c1, t1⟩ := hf 1 _ rfl
    obtain ⟨v2, y2, c2, t2⟩ := hf 2 _ rfl
    obtain ⟨q0, rfl, w0⟩ := leaf_int Try.underlying3 t0
    obtain ⟨q1, rfl, w1⟩ := leaf_int Try.underlying2 t1
    obtain ⟨q2, rfl, w2⟩ := leaf_int Try.underlying2 t2
    exact ⟨⟨q0, q1, q2⟩, c0, c1, c2, wf_I64 w0, wf_I64 w1, wf_I64 w2⟩
theorem open_funcs {fuel : Nat} {v : Value} {x : DataW H × List MemPlace} (h : DataW.trod enc Try.prog w base spare held fuel 27 [v] = some x) : ∃ l, RdRow 5 (ElU w.heap.size) w.heap.size w v l :=
  rdField Try.underlying27 Try.underlying54 (by kernel_rfl) (by kernel_rfl) rfl rfl h fun b k n hf => by
    obtain ⟨v0, y0, c0, t0⟩ := hf 0 _ rfl
    obtain ⟨v1, y1, c1, t1⟩ := hf 1 _ rfl
    obtain ⟨v2, y2, c2, t2⟩ := hf 2 _ rfl
    obtain ⟨v3, y3, c3, t3⟩ := hf 3 _ rfl
    obtain ⟨v4, y4, c4, t4⟩ := hf 4 _ rfl
    obtain ⟨s, rfl⟩ := leaf_string Try.underlying9 t0
    obtain ⟨l1, h1⟩ := rdInts Try.underlying51 Try.underlying3 (by kernel_rfl) t1
    obtain ⟨q2, rfl, w2⟩ := leaf_int Try.underlying3 t2
    obtain ⟨l3, h3⟩ := rdInts Try.underlying51 Try.underlying3 (by kernel_rfl) t3
    obtain ⟨l4, h4⟩ := open_code t4
    exact ⟨⟨s, l1, q2, l3, l4⟩, c0, ⟨v1, c1, h1⟩, ⟨c2, wf_I64 w2⟩, ⟨v3, c3, h3⟩, v4, c4, h4⟩
end
end Go.Proofs.Ytecpokegmfnlaaa
/- code's writer: a name, a class. Condition: its blocks are there; what is written lies in blocks below its own. -/
namespace Go.Proofs.Ytecpokegmfnlaaa
open Go.RowKit
set_option linter.unusedVariables false
theorem two_boxes {w : World} {B b : Nat} {r : Res} {K : Nat → Prop} (h : WrP w B b r K) (o1 o2 : Obj) :
    WrP ((w.alloc o1).alloc o2) B b r (fun x => x = w.heap.size + 1 ∨ (x = w.heap.size ∨ K x)) ∧ Below w.heap.size w ((w.alloc o1).alloc o2) := by
  have b1 : Below w.heap.size w (w.alloc o1) := (Below.refl _ _).alloc (Nat.le_refl _) _
  have b2 : Below (w.alloc o1).heap.size (w.alloc o1) ((w.alloc o1).alloc o2) := (Below.refl _ _).alloc (Nat.le_refl _) _
  exact ⟨(h.add b1 (Nat.le_refl _) (by simp)).add b2 (by simp) (by simp), b1.trans (b2.mono b1.size)⟩
set_option maxRecDepth 100000 in
set_option maxHeartbeats 2000000 in
theorem name_any (B b : Nat) (r : Res) (K : Nat → Prop) (s : ByteArray) (w : World) (h : WrP w B b r K) (hl : lenE r 50000000) :
    Calls Try.prog 58 #[.pointer (some ⟨b, 0, none⟩), .string s] w fun e' w' => (∃ u, e' = .returned u) ∧ WrP w' B b (andE r (nameE s)) K ∧ WrT B K w w' := by
  obtain ⟨hP, hb⟩ := two_boxes h (.cells #[.pointer (some ⟨b, 0, none⟩)] 58) (.cells #[.string s] 9)
  have k1 : Blk ((w.alloc (.cells #[.pointer (some ⟨b, 0, none⟩)] 58)).alloc (.cells #[.string s] 9)) w.heap.size #[.pointer (some ⟨b, 0, none⟩)] 58 := (Blk.new _ _ _).alloc _
  have k2 : Blk ((w.alloc (.cells #[.pointer (some ⟨b, 0, none⟩)] 58)).alloc (.cells #[.string s] 9)) (w.heap.size + 1) #[.string s] 9 := Blk.new' (by simp)
  have c1 := k1.val 0 rfl
  have c2 := k2.val 0 rfl
  have ST := Lib.hid (list_anyNam1 B b w.heap.size (w.heap.size + 1) r _ s.size 16 50000000 1 (nameF s) _ hP (by decide) hl (by decide) (fun _ _ => lenE_one _) (fun i l W hi hn hX hT hl => nam1_any B b _ _ i l s _ W hX (hT.kept k1 (.inr (.inl rfl))) (hT.kept k2 (.inl rfl)) (.inr (.inl rfl)) hi (by omega)))
  have hb := Lib.hid hb
  clear hP k1 k2 h
  go_enter Try.func58, Try.ntmps58
  go_wp2_with fail
  refine ST.out.mono ?_
  rintro e w3 ⟨⟨u, rfl⟩, hP3, hT3⟩
  go_wp2
  go_end0
  exact ⟨⟨_, rfl⟩, hP3.sub fun x hx => .inr (.inr hx), (WrT.of hb.out).trans (hT3.sub fun x hx => .inr (.inr hx))⟩
/-! a class -/
def fldE (f : FldD) : Res := andE (nameE f.name) (kindE f.ty)
def clsE (c : ClsD) : Res := andE (nameE c.name) (listE c.fields.length 15 (fun i => fldE (c.fields.getD i ⟨.empty, 0⟩)))
theorem lenE_fld (f : FldD) : lenE (fldE f) 27 := lenE_and (lenE_name _) (lenE_kind _)
theorem lenE_cls (c : ClsD) : lenE (clsE c) 441 := lenE_and (lenE_name _) (lenE_list (by decide) fun _ _ => lenE_fld _)
set_option maxRecDepth 100000 in
set_option maxHeartbeats 2000000 in
theorem cls1_any (B b c1 c2 i : Nat) (l : List UInt8) (c : ClsD) (v : Value) (K : Nat → Prop) (w : World) (h : WrX w B b l 0 K) (hc1 : Blk w c1 #[.pointer (some ⟨b, 0, none⟩)] 58) (hc2 : Blk w c2 #[.string c.name, v] 48) (k1 : K c1) (k2 : K c2) (hv : RdRow 2 ElF B w v c.fields) (hi : i < c.fields.length) (hl : l.length ≤ 10000000) :
    Calls Try.prog 59 #[.int .i64 i, .pointer (some ⟨c1, 0, none⟩), .pointer (some ⟨c2, 0, none⟩)] w fun e' w' => (∃ u, e' = .returned u) ∧ WrP w' B b (andE (.ok l) (fldE (c.fields.getD i ⟨.empty, 0⟩))) K ∧ WrT B K w w' := by
  have hg : c.fields.getD i ⟨.empty, 0⟩ = c.fields[i] := by simp [List.getD_eq_getElem?_getD, hi]
  rw [hg]
  obtain ⟨a, cap, rfl, hmx, hel⟩ := hv
  obtain ⟨d, o, rfl, hd, e1, e2, _⟩ := hel i hi
  clear hel hg
  generalize c.fields[i] = f at *
  have hbw := h.bw
  have i1 : (0 : Int) ≤ (i : Int) ∧ (i : Int) < (c.fields.length : Int) := ⟨by omega, by omega⟩
  have i2 : 0 < c.fields.length := by omega
  generalize c.fields.length = n at *
  have d1 := hc1.val 0 rfl
  have d2 := hc2.val 1 rfl
  have HL : Hid (lenE (.ok l) 50000000) := fun q e => by injection e with e; subst e; omega
  have q1 := hc1.drew
  have q2 := hc2.drew
  have QB : Below B w w.drew := (Below.refl _ _).drew
  have e1' := (QB.cell (p := ⟨d, o + i * 2, none⟩) hd).trans e1
  have e2' := (QB.cell (p := ⟨d, o + i * 2 + 1, none⟩) hd).trans e2
  have HX : Hid (WrP w.drew B b (.ok l) K) := h.quiet ⟨1, rfl⟩
  have HB : Hid (B ≤ w.drew.heap.size) := hbw
  have T0 : Hid (WrT B K w w.drew) := WrT.of (Below.refl _ _).drew
  clear h hbw
  go_enter Try.func59, Try.ntmps59
  go_wp2_with fail
  go_still_tail 7, (by kernel_rfl)
  change wpList _ _ _ _ _ w.drew
  clear d1 d2 e1 e2 QB
  generalize w.drew = w2 at *
  go_wp2_with fail
  refine (name_any B b _ K f.name _ HX.out HL.out).mono ?_
  rintro e w3 ⟨⟨u, rfl⟩, hP3, hT3⟩
  have r1 := hT3.kept q1 k1
  have r2 := hT3.kept q2 k2
  have QB := hT3.below HB.out
  have d1 := r1.val 0 rfl
  have d2 := r2.val 1 rfl
  have e2 := (QB.cell (p := ⟨d, o + i * 2 + 1, none⟩) hd).trans e2'
  have e1 := (QB.cell (p := ⟨d, o + i * 2, none⟩) hd).trans e1'
  have HT := Lib.hid (T0.out.trans hT3)
  have HX3 : Hid (WrP w3.drew B b (andE (.ok l) (nameE f.name)) K) := hP3.grew (Below.refl _ _).drew
  have T3 : Hid (WrT B K w3 w3.drew) := WrT.of (Below.refl _ _).drew
  clear q1 q2 e1' e2' hP3 hT3 QB
  go_wp2_with fail
  go_still_tail 7, (by kernel_rfl)
  change wpList _ _ _ _ _ w3.drew
  generalize w3.drew = w4 at *
  go_wp2_with fail
  refine (kind_any B b _ K f.ty _ HX3.out (lenE_mono (lenE_and (fun q e => by injection e with e; subst e; exact hl) (lenE_name _)) (by decide))).mono ?_
  rintro e w5 ⟨⟨u, rfl⟩, hP5, hT5⟩
  go_wp2
  go_end0
  exact ⟨⟨_, rfl⟩, by rw [fldE, ← andE_assoc]; exact hP5, (HT.out.trans T3.out).trans hT5⟩
set_option maxRecDepth 100000 in
set_option maxHeartbeats 2000000 in
theorem cls_any (B b : Nat) (r : Res) (c : ClsD) (v : Value) (K : Nat → Prop) (w : World) (h : WrP w B b r K) (hv : RdRow 2 ElF B w v c.fields) (hl : lenE r 5000000) :
    Calls Try.prog 27 #[.pointer (some ⟨b, 0, none⟩), .agg #[.string c.name, v]] w fun e' w' => (∃ u, e' = .returned u) ∧ WrP w' B b (andE r (clsE c)) K ∧ WrT B K w w' := by
  have hbw : B ≤ w.heap.size := h.bw
  obtain ⟨hP, hb⟩ := two_boxes h (.cells #[.pointer (some ⟨b, 0, none⟩)] 58) (.cells #[.string c.name, v] 48)
  have k1 : Blk ((w.alloc (.cells #[.pointer (some ⟨b, 0, none⟩)] 58)).alloc (.cells #[.string c.name, v] 48)) w.heap.size #[.pointer (some ⟨b, 0, none⟩)] 58 := (Blk.new _ _ _).alloc _
  have k2 : Blk ((w.alloc (.cells #[.pointer (some ⟨b, 0, none⟩)] 58)).alloc (.cells #[.string c.name, v] 48)) (w.heap.size + 1) #[.string c.name, v] 48 := Blk.new' (by simp)
  have hv2 := hv.keep (hb.mono hbw) fun _ _ _ e r => r.keep (hb.mono hbw) e
  have c1 := k1.val 0 rfl
  have c2 := k2.val 0 rfl
  have c3 := k2.val 1 rfl
  obtain ⟨a, cap, hva, hmx, hel⟩ := hv
  have NM := Lib.hid (name_any B b r _ c.name _ hP (lenE_mono hl (by decide)))
  have hb := Lib.hid hb
  have HV := Lib.hid hva
  have HB : Hid (B ≤ ((w.alloc (.cells #[.pointer (some ⟨b, 0, none⟩)] 58)).alloc (.cells #[.string c.name, v] 48)).heap.size) := by unfold Hid; simp; omega
  clear hP h hel hva
  go_enter Try.func27, Try.ntmps27
  go_wp2_with fail
  refine NM.out.mono ?_
  rintro e w3 ⟨⟨u, rfl⟩, hP3, hT3⟩
  have r1 := hT3.kept k1 (.inr (.inl rfl))
  have r2 := hT3.kept k2 (.inl rfl)
  have QB := hT3.below HB.out
  have hv3 := hv2.keep QB fun _ _ _ e r => r.keep QB e
  have d1 := r1.val 0 rfl
  have d2 := r2.val 1 rfl
  rw [HV.out] at d2
  have ST := Lib.hid (list_anyCls1 B b w.heap.size (w.heap.size + 1) (andE r (nameE c.name)) _ c.fields.length 15 5000026 27 (fun i => fldE (c.fields.getD i ⟨.empty, 0⟩)) _ hP3 (by decide) (lenE_and hl (lenE_name _)) (by decide) (fun _ _ => lenE_fld _) (fun i l W hi hn hX hT hl => cls1_any B b _ _ i l c v _ W hX (hT.kept r1 (.inr (.inl rfl))) (hT.kept r2 (.inl rfl)) (.inr (.inl rfl)) (.inl rfl) (hv3.keep (hT.below (Nat.le_trans HB.out hT3.size)) fun _ _ _ e r => r.keep (hT.below (Nat.le_trans HB.out hT3.size)) e) hi (by omega)))
  have HT := Lib.hid ((WrT.of (B := B) (K := K) hb.out).trans (hT3.sub fun x hx => .inr (.inr hx)))
  clear hP3 hT3 QB hv3 hv2 k1 k2 c1 c2 c3
  go_wp2_with fail
  refine ST.out.mono ?_
  rintro e w4 ⟨⟨u, rfl⟩, hP4, hT4⟩
  go_wp2
  go_end0
  exact ⟨⟨_, rfl⟩, by rw [clsE, ← andE_assoc]; exact hP4.sub fun x hx => .inr (.inr hx), HT.out.trans (hT4.sub fun x hx => .inr (.inr hx))⟩
end Go.Proofs.Ytecpokegmfnlaaa
/- code's Operands, Right and fold. No condition. -/
namespace Go.Proofs.Ytecpokegmfnlaaa
open Go.RowKit
set_option linter.unusedVariables false
def opsI (op : Int) : Int := if op < 1 ∨ 39 < op then -1 else if op = 25 ∨ op = 26 ∨ op = 27 then 2 else if op = 1 ∨ op = 3 ∨ op = 4 ∨ op = 18 ∨ op = 19 ∨ op = 20 ∨ op = 22 ∨ op = 33 ∨ op = 34 ∨ op = 35 then 1 else 0
def opB (op : Int) : Bool := decide (1 ≤ op ∧ op ≤ 39)
def smallB (a : Int) : Bool := decide (0 ≤ a ∧ a ≤ 2147483647)
def rightB (i : InsD) : Bool := if opsI i.op = 0 then decide (i.a = 0 ∧ i.b = 0) else if opsI i.op = 1 then decide ((i.op = 1 ∨ smallB i.a = true) ∧ i.b = 0) else if opsI i.op = 2 then smallB i.a && smallB i.b else false
def foldN (a : Int) : Nat := if a < 0 then (2 * (-a - 1) + 1).toNat else (2 * a).toNat
set_option maxHeartbeats 1000000 in
theorem isop_any (op : Int) (w : World) : Calls Try.prog 56 #[.int .i64 op] w fun e w' => e = .returned (.bool (opB op)) ∧ w = w' := by
  by_cases h1 : 1 ≤ op
  · by_cases h2 : op ≤ 39
    · go_enter Try.func56, Try.ntmps56
      go_wp2
      go_ret
      exact ⟨ret_bool (by simp [opB, h1, h2]), rfl⟩
    · go_enter Try.func56, Try.ntmps56
      go_wp2
      go_ret
      exact ⟨ret_bool (by simp [opB, h1, h2]), rfl⟩
  · go_enter Try.func56, Try.ntmps56
    go_wp2
    go_ret
    exact ⟨ret_bool (by simp [opB]; omega), rfl⟩
set_option maxHeartbeats 1000000 in
theorem isoperand_any (a : Int) (w : World) : Calls Try.prog 23 #[.int .i64 a] w fun e w' => e = .returned (.bool (smallB a)) ∧ w = w' := by
  by_cases h1 : 0 ≤ a
  · by_cases h2 : a ≤ 2147483647
    · go_enter Try.func23, Try.ntmps23
      go_wp2
      go_ret
      exact ⟨ret_bool (by simp [smallB, h1, h2]), rfl⟩
    · go_enter Try.func23, Try.ntmps23
      go_wp2
      go_ret
      exact ⟨ret_bool (by simp [smallB, h1, h2]), rfl⟩
  · go_enter Try.func23, Try.ntmps23
    go_wp2
    go_ret
    exact ⟨ret_bool (by simp [smallB]; omega), rfl⟩
set_option maxRecDepth 100000 in
set_option maxHeartbeats 4000000 in
theorem operands_any (op : Int) (w : World) : Calls Try.prog 22 #[.int .i64 op] w fun e w' => e = .returned (.int .i64 (opsI op)) ∧ w = w' := by
  by_cases h1 : opB op = true
  · have h1' : 1 ≤ op ∧ op ≤ 39 := by simpa [opB] using h1
    have HB := Lib.hid h1
    have HV : Hid (∀ x : Int, (opsI op = x) → opsI op = x) := fun _ h => h
    go_enter Try.func22, Try.ntmps22
    go_wp2_with fail
    refine (isop_any op _).mono ?_; rintro e w1 ⟨rfl, rfl⟩
    rw [HB.out]
    go_wp2
    all_goals
      go_ret
      refine ⟨ret_int ?_, rfl⟩
      simp only [beq_iff_eq, beq_eq_false_iff_ne, ne_eq] at *
      unfold opsI
      omega
  · have h1' : op < 1 ∨ 39 < op := by simp [opB] at h1; omega
    have HB : Hid (opB op = false) := by unfold Hid; simpa using h1
    clear h1
    go_enter Try.func22, Try.ntmps22
    go_wp2_with fail
    refine (isop_any op _).mono ?_; rintro e w1 ⟨rfl, rfl⟩
    rw [HB.out]
    go_wp2
    go_ret
    exact ⟨ret_int (by rw [opsI, if_pos h1']), rfl⟩
theorem or1 (y : Nat) (h : y < 9223372036854775808) : bits .or .u64 ((2 * y : Nat) : Int) 1 = ((2 * y + 1 : Nat) : Int) := by
  rw [show (1 : Int) = ((1 : Nat) : Int) from rfl, bits_or_u64_nat _ _ (by omega) (by decide)]
  congr 1
  apply Nat.eq_of_testBit_eq
  intro i
  cases i with
  | zero => simp
  | succ i =>
    rw [Nat.testBit_or, Nat.testBit_succ, Nat.testBit_succ, Nat.testBit_succ, show 2 * y / 2 = y by omega, show (2 * y + 1) / 2 = y by omega]
    simp
theorem not_neg (a : Int) (h1 : -9223372036854775808 ≤ a) (h2 : a < 0) : bits .xor .i64 (-1) a = -a - 1 := by
  show IntKind.i64.wrap ((BitVec.ofInt 64 (-1) ^^^ BitVec.ofInt 64 a).toNat : Int) = _
  have e1 : BitVec.ofInt 64 (-1) = BitVec.allOnes 64 := by decide
  have e2 : (BitVec.ofInt 64 a).toNat = (a + 18446744073709551616).toNat := by
    rw [BitVec.toNat_ofInt]; congr 1; omega
  rw [e1, BitVec.allOnes_xor, BitVec.toNat_not, e2, IntKind.wrap_i64]
  omega
theorem fold_bits (a : Int) (h1 : -9223372036854775808 ≤ a) (h2 : a < 0) : bits .or .u64 (IntKind.u64.wrap (IntKind.u64.wrap (bits .xor .i64 (-1) a) * 2)) 1 = ((foldN a : Nat) : Int) := by
  rw [not_neg a h1 h2]
  have e : IntKind.u64.wrap (IntKind.u64.wrap (-a - 1) * 2) = ((2 * (-a - 1).toNat : Nat) : Int) := by
    rw [IntKind.wrap_u64, IntKind.wrap_u64]; omega
  rw [e, or1 _ (by omega), foldN, if_pos h2]
  omega
theorem foldN_lt {a : Int} (h : I64 a) : foldN a < 18446744073709551616 := by
  obtain ⟨h1, h2⟩ := h
  unfold foldN; split <;> omega
set_option maxHeartbeats 1000000 in
theorem fold_any (a : Int) (w : World) (ha : I64 a) : Calls Try.prog 83 #[.int .i64 a] w fun e w' => e = .returned (.int .u64 (foldN a : Nat)) ∧ w = w' := by
  obtain ⟨h1, h2⟩ := ha
  by_cases h : a < 0
  · have HA := Lib.hid h
    go_enter Try.func83, Try.ntmps83
    go_wp2
    go_ret
    exact ⟨ret_int (fold_bits a h1 HA.out), rfl⟩
  · go_enter Try.func83, Try.ntmps83
    go_wp2
    go_ret
    exact ⟨ret_int (by unfold foldN; split <;> omega), rfl⟩
theorem beqd (b : Int) : (b == 0) = decide (b = 0) := by by_cases h : b = 0 <;> simp [h]
theorem opsI_cases (op : Int) : opsI op = -1 ∨ opsI op = 0 ∨ opsI op = 1 ∨ opsI op = 2 := by unfold opsI; split <;> (try split) <;> (try split) <;> simp
set_option maxRecDepth 100000 in
set_option maxHeartbeats 4000000 in
theorem right_any (i : InsD) (w : World) : Calls Try.prog 10 #[.agg #[.int .i64 i.op, .int .i64 i.a, .int .i64 i.b]] w fun e w' => e = .returned (.bool (rightB i)) ∧ Below w.heap.size w w' := by
  obtain ⟨op, a, b⟩ := i
  have hB : Below w.heap.size w (w.alloc (.cells #[.int .i64 op, .int .i64 a, .int .i64 b] 23)) := (Below.refl _ _).alloc (Nat.le_refl _) _
  have HR : Hid (∀ x, rightB ⟨op, a, b⟩ = x → rightB ⟨op, a, b⟩ = x) := fun _ h => h
  have HO := Lib.hid (fun W => operands_any op W)
  have hc := opsI_cases op
  have HD : Hid (rightB ⟨op, a, b⟩ = if opsI op = 0 then decide (a = 0 ∧ b = 0) else if opsI op = 1 then decide ((op = 1 ∨ smallB a = true) ∧ b = 0) else if opsI op = 2 then smallB a && smallB b else false) := rfl
  generalize rightB ⟨op, a, b⟩ = rb at *
  generalize opsI op = k at *
  rcases hc with rfl | rfl | rfl | rfl
  · go_enter Try.func10, Try.ntmps10
    go_wp2_with fail
    refine (HO.out _).mono ?_; rintro e w1 ⟨rfl, rfl⟩
    go_wp2
    go_ret
    exact ⟨ret_bool (by rw [HD.out]; rfl), hB⟩
  · by_cases ha : a = 0
    · subst ha
      go_enter Try.func10, Try.ntmps10
      go_wp2_with fail
      refine (HO.out _).mono ?_; rintro e w1 ⟨rfl, rfl⟩
      go_wp2
      go_ret
      exact ⟨ret_bool (by rw [HD.out]; simp [beqd]), hB⟩
    · have ha' : (a == 0) = false := by simpa using ha
      go_enter Try.func10, Try.ntmps10
      go_wp2_with fail
      refine (HO.out _).mono ?_; rintro e w1 ⟨rfl, rfl⟩
      go_wp2
      go_ret
      exact ⟨ret_bool (by rw [HD.out]; simp [ha]), hB⟩
  · by_cases ho : op = 1
    · subst ho
      go_enter Try.func10, Try.ntmps10
      go_wp2_with fail
      refine (HO.out _).mono ?_; rintro e w1 ⟨rfl, rfl⟩
      go_wp2
      go_ret
      exact ⟨ret_bool (by rw [HD.out]; simp [beqd]), hB⟩
    · have ho' : (op == 1) = false := by simpa using ho
      by_cases hs : smallB a = true
      · have HS := Lib.hid hs
        go_enter Try.func10, Try.ntmps10
        go_wp2_with fail
        refine (HO.out _).mono ?_; rintro e w1 ⟨rfl, rfl⟩
        go_wp2_with fail
        refine (isoperand_any a _).mono ?_; rintro e w1 ⟨rfl, rfl⟩
        rw [HS.out]
        go_wp2
        go_ret
        exact ⟨ret_bool (by rw [HD.out]; simp [beqd, ho, HS.out]), hB⟩
      · have HS : Hid (smallB a = false) := by unfold Hid; simpa using hs
        clear hs
        go_enter Try.func10, Try.ntmps10
        go_wp2_with fail
        refine (HO.out _).mono ?_; rintro e w1 ⟨rfl, rfl⟩
        go_wp2_with fail
        refine (isoperand_any a _).mono ?_; rintro e w1 ⟨rfl, rfl⟩
        rw [HS.out]
        go_wp2
        go_ret
        exact ⟨ret_bool (by rw [HD.out]; simp [ho, HS.out]), hB⟩
  · by_cases hs : smallB a = true
    · have HS := Lib.hid hs
      clear hs
      go_enter Try.func10, Try.ntmps10
      go_wp2_with fail
      refine (HO.out _).mono ?_; rintro e w1 ⟨rfl, rfl⟩
      go_wp2_with fail
      refine (isoperand_any a _).mono ?_; rintro e w1 ⟨rfl, rfl⟩
      rw [HS.out]
      go_wp2_with fail
      refine (isoperand_any b _).mono ?_; rintro e w1 ⟨rfl, rfl⟩
      go_wp2
      go_ret
      exact ⟨ret_bool (by rw [HD.out, HS.out]; simp), hB⟩
    · have HS : Hid (smallB a = false) := by unfold Hid; simpa using hs
      clear hs
      go_enter Try.func10, Try.ntmps10
      go_wp2_with fail
      refine (HO.out _).mono ?_; rintro e w1 ⟨rfl, rfl⟩
      go_wp2_with fail
      refine (isoperand_any a _).mono ?_; rintro e w1 ⟨rfl, rfl⟩
      rw [HS.out]
      go_wp2
      go_ret
      exact ⟨ret_bool (by rw [HD.out, HS.out]; simp), hB⟩
end Go.Proofs.Ytecpokegmfnlaaa
/- code's writer: an instruction. Condition: its blocks are there, its numbers fit their kinds. -/
namespace Go.Proofs.Ytecpokegmfnlaaa
open Go.RowKit
set_option linter.unusedVariables false
def insL (i : InsD) : List UInt8 := UInt8.ofNat i.op.toNat :: ((if i.op = 1 then numB (foldN i.a) else if 1 ≤ opsI i.op then numB i.a.toNat else []) ++ (if opsI i.op = 2 then numB i.b.toNat else []))
def insE (i : InsD) : Res := if rightB i = true then .ok (insL i) else .error 30
theorem opB_of_right {i : InsD} (h : rightB i = true) : 1 ≤ i.op ∧ i.op ≤ 39 := by
  unfold rightB opsI at h
  by_cases e : i.op < 1 ∨ 39 < i.op
  · rw [if_pos e] at h; simp at h
  · omega
theorem u8op (op : Int) (h : 1 ≤ op ∧ op ≤ 39) : IntKind.u8.wrap op = (((UInt8.ofNat op.toNat).toNat : Nat) : Int) := by
  rw [IntKind.wrap_u8]; simp; omega
theorem right_parts {op a c : Int} (h : rightB ⟨op, a, c⟩ = true) : (op = 1 ∧ opsI op = 1) ∨ (op ≠ 1 ∧ opsI op = 0) ∨ (op ≠ 1 ∧ opsI op = 1 ∧ 0 ≤ a ∧ a ≤ 2147483647) ∨ (op ≠ 1 ∧ opsI op = 2 ∧ 0 ≤ a ∧ a ≤ 2147483647 ∧ 0 ≤ c ∧ c ≤ 2147483647) := by
  by_cases e : op = 1
  · exact .inl ⟨e, by subst e; rfl⟩
  · refine .inr ?_
    rcases opsI_cases op with k | k | k | k
    · simp [rightB, k] at h
    · exact .inl ⟨e, k⟩
    · simp [rightB, k, e, smallB] at h
      exact .inr (.inl ⟨e, k, h.1.1, h.1.2⟩)
    · simp [rightB, k, smallB] at h
      exact .inr (.inr ⟨e, k, h.1.1, h.1.2, h.2.1, h.2.2⟩)
set_option maxRecDepth 100000 in
set_option maxHeartbeats 1000000 in
theorem ins_bad (B b : Nat) (l : List UInt8) (K : Nat → Prop) (i : InsD) (w : World) (h : WrX w B b l 0 K) (hr : rightB i = false) :
    Calls Try.prog 64 #[.pointer (some ⟨b, 0, none⟩), .agg #[.int .i64 i.op, .int .i64 i.a, .int .i64 i.b]] w fun e' w' => (∃ u, e' = .returned u) ∧ WrX w' B b l 30 K ∧ WrT B K w w' := by
  have RA := Lib.hid (fun W => right_any i W)
  rw [hr] at RA
  clear hr
  obtain ⟨op, a, c⟩ := i
  have b0 : Below w.heap.size w (w.alloc (.cells #[.int .i64 op, .int .i64 a, .int .i64 c] 23)) := (Below.refl _ _).alloc (Nat.le_refl _) _
  have hI : Blk (w.alloc (.cells #[.int .i64 op, .int .i64 a, .int .i64 c] 23)) w.heap.size #[.int .i64 op, .int .i64 a, .int .i64 c] 23 := Blk.new _ _ _
  have q0 := hI.val 0 rfl
  have q1 := hI.val 1 rfl
  have q2 := hI.val 2 rfl
  go_enter Try.func64, Try.ntmps64
  go_wp2_with fail
  refine (RA.out _).mono ?_
  rintro e w1 ⟨rfl, hb1⟩
  have hb2 := b0.trans (hb1.mono b0.size)
  have hX := h.grew hb2
  have c1 := hX.errCell
  have H := Lib.hid (hX.fail 30)
  clear hX hb1 b0 hI q0 q1 q2
  go_wp2
  refine bodyPost_ret (results_none rfl _ _ _) rfl ?_
  exact ⟨⟨_, rfl⟩, H.out.1, (WrT.of hb2).trans H.out.2⟩
set_option maxRecDepth 100000 in
set_option maxHeartbeats 4000000 in
theorem ins_ok (B b : Nat) (l : List UInt8) (K : Nat → Prop) (op a c : Int) (w : World) (h : WrX w B b l 0 K) (hr : rightB ⟨op, a, c⟩ = true) (ha : I64 a) (hc : I64 c) (hl : l.length ≤ 100000000) :
    Calls Try.prog 64 #[.pointer (some ⟨b, 0, none⟩), .agg #[.int .i64 op, .int .i64 a, .int .i64 c]] w fun e' w' => (∃ u, e' = .returned u) ∧ WrX w' B b (l ++ insL ⟨op, a, c⟩) 0 K ∧ WrT B K w w' := by
  obtain ⟨i0, hi, hz0, hz1, hz2⟩ := info_parts info_u8
  have RA := Lib.hid (fun W => right_any ⟨op, a, c⟩ W)
  have hop := opB_of_right hr
  have HR : Hid (rightB ⟨op, a, c⟩ = true) := hr
  rw [hr] at RA
  clear hr
  have b0 : Below w.heap.size w (w.alloc (.cells #[.int .i64 op, .int .i64 a, .int .i64 c] 23)) := (Below.refl _ _).alloc (Nat.le_refl _) _
  have hI : Blk (w.alloc (.cells #[.int .i64 op, .int .i64 a, .int .i64 c] 23)) w.heap.size #[.int .i64 op, .int .i64 a, .int .i64 c] 23 := Blk.new _ _ _
  have q0 := hI.val 0 rfl
  have q1 := hI.val 1 rfl
  have q2 := hI.val 2 rfl
  have Z := Lib.hid (And.intro hi (And.intro hz0 (And.intro hz1 hz2)))
  have HU := Lib.hid (u8op op hop)
  clear hi hz0 hz1 hz2
  go_enter Try.func64, Try.ntmps64
  go_wp2_with fail
  refine (RA.out _).mono ?_
  rintro e w1 ⟨rfl, hb1⟩
  have hI1 := hI.grew hb1
  have hX := h.add (b0.trans (hb1.mono b0.size)) (m := w.heap.size) (Nat.le_refl _) hI1.lt
  have hT0 : WrT B K w w1 := WrT.of (b0.trans (hb1.mono b0.size))
  clear q0 q1 q2 hb1 hI b0 h
  generalize hS : w.heap.size = S at *
  clear hS
  obtain ⟨⟨v, h1, h2, h3⟩, h4, h5, h6, h7⟩ := hX
  have c0 := h1.val 0 rfl
  have f0 := h1.frozen 0
  have lb := h1.lt
  have lI := hI1.lt
  have q0 := hI1.val 0 rfl
  go_wp2_with fail
  go_region_law ((refine step_append_lies _ (by rfl) _ _ _ (by rfl) B 5 i0 _ 1 1 Try.underlying31 Z.out.1 Z.out.2.1 Z.out.2.2.1 Z.out.2.2.2 rfl (by omega) v l.length (u8L l) (by rfl) (own_drew (h2.alloc _)) ⟨w1.heap.size, 0, none⟩ 1 1 [Value.int .u8 ((UInt8.ofNat op.toNat).toNat : Int)] (by rfl) (by rfl) (by rw [← HU.out]; exact World.news_of_block (cs := #[Value.int .u8 (IntKind.u8.wrap op)]) (t := 5) (fr := (0, 0)) (heap_alloc_new w1 _)) (by simp [Value.oneCell']) (by omega) (by unfold maxLen; omega) (by omega) (by simp; omega) (w1.heap.size + 1) (by simp) ?_; intro g cap w5 hown5 hgrow hat hlt; obtain ⟨hb1, hX1, hT1, hK5⟩ := Wr_app_d h1 h2 h3 h4 h5 h6 h7 hown5 hgrow hat; have k2 := hb1.val 0 rfl; have kf := hb1.frozen 0))
  all_goals
    clear hown5 hgrow hat hK5 hb1 k2 kf h1 h2 h3 h4 h5 h6 h7 c0 f0 lb lI q0
    have hI6 := hT1.kept hI1 (.inl rfl)
    have hTT := WrT.trans hT0 (hT1.sub (K' := K) fun x hx => .inr hx)
    generalize w5.setCell _ _ = w6 at *
    clear hlt
    have q0 := hI6.val 0 rfl
    have q1 := hI6.val 1 rfl
    have q2 := hI6.val 2 rfl
    have HX := Lib.hid hX1
    have HT := Lib.hid hTT
    clear hX1 hTT hT1 hI1
    have OA := Lib.hid (fun W => operands_any op W)
    rcases right_parts HR.out with ⟨p1, p2⟩ | ⟨p1, p2⟩ | ⟨p1, p2, p3, p4⟩ | ⟨p1, p2, p3, p4, p5, p6⟩
    · subst p1
      rw [p2] at OA
      clear p2
      have FO := Lib.hid (fun W => fold_any a W ha)
      have NU := Lib.hid (fun W (X : WrX W B b (l ++ [UInt8.ofNat (1 : Int).toNat]) 0 (fun x => x = S ∨ K x)) => number_any B b _ 0 _ (foldN a) W X (foldN_lt ha) (by simp; omega))
      go_wp2_with fail
      refine (OA.out _).mono ?_; rintro e w7 ⟨rfl, rfl⟩
      go_wp2_with fail
      refine (FO.out _).mono ?_; rintro e w7 ⟨rfl, rfl⟩
      go_wp2_with fail
      refine (NU.out _ HX.out).mono ?_; rintro e w7 ⟨⟨u, rfl⟩, hX7, hT7⟩
      go_wp2
      go_end0
      refine ⟨⟨_, rfl⟩, ?_, HT.out.trans (hT7.sub fun x hx => .inr hx)⟩
      have e : l ++ insL ⟨1, a, c⟩ = l ++ [UInt8.ofNat (1 : Int).toNat] ++ numB (foldN a) := by simp [insL, show opsI 1 = 1 from rfl]
      rw [e]
      exact hX7.sub fun x hx => .inr hx
    · have p1' : (op == 1) = false := by simpa using p1
      have HP := Lib.hid (And.intro p1 p2)
      rw [p2] at OA
      clear p2 p1
      go_wp2_with fail
      refine (OA.out _).mono ?_; rintro e w7 ⟨rfl, rfl⟩
      go_wp2
      go_end0
      refine ⟨⟨_, rfl⟩, ?_, HT.out⟩
      have e : l ++ insL ⟨op, a, c⟩ = l ++ [UInt8.ofNat op.toNat] := by simp [insL, HP.out.1, HP.out.2]
      rw [e]
      exact HX.out.sub fun x hx => .inr hx
    · have p1' : (op == 1) = false := by simpa using p1
      have HP := Lib.hid (And.intro p1 p2)
      rw [p2] at OA
      clear p2 p1
      obtain ⟨an, rfl⟩ := Int.eq_ofNat_of_zero_le p3
      have NU := Lib.hid (fun W (X : WrX W B b (l ++ [UInt8.ofNat op.toNat]) 0 (fun x => x = S ∨ K x)) => number_any B b _ 0 _ an W X (by omega) (by simp; omega))
      go_wp2_with fail
      refine (OA.out _).mono ?_; rintro e w7 ⟨rfl, rfl⟩
      go_wp2_with fail
      refine (NU.out _ HX.out).mono ?_; rintro e w7 ⟨⟨u, rfl⟩, hX7, hT7⟩
      go_wp2
      go_end0
      refine ⟨⟨_, rfl⟩, ?_, HT.out.trans (hT7.sub fun x hx => .inr hx)⟩
      have e : l ++ insL ⟨op, an, c⟩ = l ++ [UInt8.ofNat op.toNat] ++ numB an := by simp [insL, HP.out.1, HP.out.2]
      rw [e]
      exact hX7.sub fun x hx => .inr hx
    · have p1' : (op == 1) = false := by simpa using p1
      have HP := Lib.hid (And.intro p1 p2)
      rw [p2] at OA
      clear p2 p1
      obtain ⟨an, rfl⟩ := Int.eq_ofNat_of_zero_le p3
      obtain ⟨cn, rfl⟩ := Int.eq_ofNat_of_zero_le p5
      have NU := Lib.hid (fun W (X : WrX W B b (l ++ [UInt8.ofNat op.toNat]) 0 (fun x => x = S ∨ K x)) => number_any B b _ 0 _ an W X (by omega) (by simp; omega))
      have hln : (numB an).length ≤ 10 := numB_len10 (by omega)
      have NV := Lib.hid (fun W (X : WrX W B b (l ++ [UInt8.ofNat op.toNat] ++ numB an) 0 (fun x => x = S ∨ K x)) => number_any B b _ 0 _ cn W X (by omega) (by simp; omega))
      clear hln
      go_wp2_with fail
      refine (OA.out _).mono ?_; rintro e w7 ⟨rfl, rfl⟩
      go_wp2_with fail
      refine (NU.out _ HX.out).mono ?_; rintro e w7 ⟨⟨u, rfl⟩, hX7, hT7⟩
      have hI7 := hT7.kept hI6 (.inl rfl)
      have r2 := hI7.val 2 rfl
      go_wp2_with fail
      refine (NV.out _ hX7).mono ?_; rintro e w8 ⟨⟨u, rfl⟩, hX8, hT8⟩
      go_wp2
      go_end0
      refine ⟨⟨_, rfl⟩, ?_, HT.out.trans ((hT7.trans hT8).sub fun x hx => .inr hx)⟩
      have e : l ++ insL ⟨op, an, cn⟩ = l ++ [UInt8.ofNat op.toNat] ++ numB an ++ numB cn := by simp [insL, HP.out.1, HP.out.2]
      rw [e]
      exact hX8.sub fun x hx => .inr hx
theorem lenE_ins (i : InsD) (ha : I64 i.a) : lenE (insE i) 21 := by
  intro l h
  unfold insE at h
  split at h
  · rename_i hr
    injection h with h
    subst h
    rcases right_parts (op := i.op) (a := i.a) (c := i.b) hr with ⟨p1, p2⟩ | ⟨p1, p2⟩ | ⟨p1, p2, p3, p4⟩ | ⟨p1, p2, p3, p4, p5, p6⟩
    · have := numB_len10 (foldN_lt ha)
      simp [insL, p1, show opsI 1 = 1 from rfl]; omega
    · simp [insL, p1, p2]
    · have := numB_len10 (n := i.a.toNat) (by omega)
      simp [insL, p1, p2]; omega
    · have := numB_len10 (n := i.a.toNat) (by omega)
      have := numB_len10 (n := i.b.toNat) (by omega)
      simp [insL, p1, p2]; omega
  · simp at h
theorem ins_any (B b : Nat) (l : List UInt8) (K : Nat → Prop) (i : InsD) (w : World) (h : WrX w B b l 0 K) (ha : I64 i.a) (hc : I64 i.b) (hl : l.length ≤ 100000000) :
    Calls Try.prog 64 #[.pointer (some ⟨b, 0, none⟩), .agg #[.int .i64 i.op, .int .i64 i.a, .int .i64 i.b]] w fun e' w' => (∃ u, e' = .returned u) ∧ WrP w' B b (andE (.ok l) (insE i)) K ∧ WrT B K w w' := by
  by_cases hr : rightB i = true
  · rw [insE, if_pos hr]
    exact ins_ok B b l K i.op i.a i.b w h hr ha hc hl
  · refine (ins_bad B b l K i w h (by simpa using hr)).mono fun e' w' ⟨hu, hX, hT⟩ => ⟨hu, ?_, hT⟩
    rw [insE, if_neg hr]
    exact ⟨by decide, hX.e⟩
end Go.Proofs.Ytecpokegmfnlaaa
