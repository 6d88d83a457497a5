/- Texts of this seat, one behind the other: each says at its head what it holds. No condition of its own. -/
import Derived.Test.YtffelcidckbohaaProg
import Derived.Shelf.Strconv.Clone
import Derived.WalkKit
import Derived.Below
import Derived.SizedLaws
import Derived.StillTailTactics
import Derived.Test.YtffelcidckbohaaGCodeReads01
import Derived.Test.YtffelcidckbohaaGCodeReads05
/- strings.Clone: the same text. Condition: it is not too long for a row of bytes. -/
namespace Go.Proofs.Ytffelcidckbohaa
open Go.RowKit Go.Shelf
set_option linter.unusedVariables false
end Go.Proofs.Ytffelcidckbohaa
/- Programs as arguments, with the reach of their texts: no text of theirs is longer than the form lets in. No condition. -/
namespace Go.Proofs.Ytffelcidckbohaa
open Go.ChangeShapes Go.WideShapes Go.ChangeAt Go.RowKit Go.Deep
set_option linter.unusedVariables false
def Rch {H : Type} (P : Program) (t : TypeId) (d : DataW H) : Prop := ∀ n ∈ d.weights P t, n ≤ reachBytes
section
variable {H : Type} {enc : TypeId × Value → H} {P : Program} {w : World} {base : Nat} {spare : Nat → Bool} {held : Bool}
theorem Rch.arg {ts : List TypeId} {ds : List (DataW H)} (h : (DataW.weightsEach P ts ds).all (· ≤ reachBytes) = true) {j : Nat} {t : TypeId} {d : DataW H} (ht : ts[j]? = some t) (hd : ds[j]? = some d) : Rch P t d := fun n hn => by
  have := List.all_eq_true.1 h _ (DataW.weights_mem_each ht hd n hn)
  simpa using this
theorem wts_in {e : TypeId} {d : DataW H} : ∀ {l : List (DataW H)}, d ∈ l → ∀ n ∈ d.weights P e, n ∈ DataW.weightsAll P e l
  | x :: r, hd, n, hn => by
    simp only [DataW.weightsAll, List.mem_append]
    rcases List.mem_cons.1 hd with h | h
    · subst h; exact .inl hn
    · exact .inr (wts_in h n hn)
theorem Rch.elem {t e : TypeId} {a b : List (DataW H)} {d : DataW H} (hu : P.underlying t = some (.slice e)) (h : Rch P t (.slice a b)) (hd : d ∈ a ∨ d ∈ b) : Rch P e d := fun n hn => by
  refine h n ?_
  simp only [DataW.weights, hu, List.mem_cons, List.mem_append]
  rcases hd with hd | hd
  · exact .inr (.inl (wts_in hd n hn))
  · exact .inr (.inr (wts_in hd n hn))
theorem Rch.part {t : TypeId} {fs : Array Field} {ps : List (DataW H)} {j : Nat} {f : Field} {d : DataW H} (hu : P.underlying t = some (.struct fs)) (h : Rch P t (.agg ps)) (hf : fs[j]? = some f) (hd : ps[j]? = some d) : Rch P f.type d := fun n hn => by
  refine h n ?_
  simp only [DataW.weights, hu]
  refine DataW.weights_mem_each (j := j) ?_ hd n hn
  simp [hf]
theorem Rch.text {t : TypeId} {l : List UInt8} (h : Rch (H := H) P t (.lit (.string l))) : l.length ≤ reachBytes := h _ (by simp [DataW.weights])
theorem open_slice_fieldsR {t e : TypeId} {fs : Array Field} {fuel : Nat} {cs : List Value} {x : DataW H × List MemPlace} (ht : P.underlying t = some (.slice e)) (he : P.underlying e = some (.struct fs))
    (hone : oneCellFields P fs = true) (hC : P.cellsOf e = fs.size) (h : DataW.trod enc P w base spare held fuel t cs = some x) (hr : Rch P t x.1) :
    (cs = [.slice none 0 0]) ∨
    ∃ (a : Addr) (len cap m : Nat), cs = [.slice (some a) len cap] ∧ len ≤ cap ∧ cap ≤ maxLen ∧ m = (if spare a.block then cap else len) ∧
      ∀ i, i < m → ∃ n : Nat, ∀ (j : Nat) (f : Field), fs[j]? = some f → ∃ (v : Value), w.cell? (a.add (i * fs.size + j)) = some v ∧ ∃ y : DataW H × List MemPlace, DataW.trod enc P w base spare held n f.type [v] = some y ∧ Rch P f.type y.1 := by
  rcases open_slice ht h with h0 | ⟨a, len, cap, m, n, D, Pl, hcs, hb, hl, hm, hmm, hx, hi⟩
  · exact .inl h0.1
  · refine .inr ⟨a, len, cap, m, hcs, hl, hm, hmm, fun i him => ?_⟩
    obtain ⟨cs', hc, ht'⟩ := hi i him
    rw [hC] at hc
    have hD : Rch P e (D i) := by
      subst hx
      refine Rch.elem ht hr ?_
      by_cases hil : i < len
      · exact .inl (List.mem_map.2 ⟨i, List.mem_range.2 hil, rfl⟩)
      · exact .inr (List.mem_map.2 ⟨i - len, List.mem_range.2 (by omega), by rw [show len + (i - len) = i by omega]⟩)
    obtain ⟨ys, n', hn', hy, hlen, hyl, hf⟩ := DataW.trod_struct he ht'
    obtain ⟨_, hcl, hat⟩ := World.cells?_some hc
    refine ⟨n', fun j f hj => ?_⟩
    obtain ⟨ho, hk⟩ := hone_of hone j f hj
    have hjl : j < fs.size := (Array.getElem?_eq_some_iff.1 hj).1
    have hcell := hat j hjl
    have hv : cs'[j]? = some (cs'[j]'(by omega)) := List.getElem?_eq_getElem (by omega)
    have h1 := hf j f hj
    rw [ho, hk] at h1
    have hone' : (cs'.drop j).take 1 = [cs'[j]'(by omega)] := by
      rw [List.drop_eq_getElem_cons (by omega)]
      rfl
    rw [hone'] at h1
    have hys : ys[j]? = some (ys[j]'(by omega)) := List.getElem?_eq_getElem (by omega)
    refine ⟨_, ?_, _, h1.trans hys, ?_⟩
    · rw [← Go.Deep.add_add, hcell, hv]
    · have hDi : D i = .agg (ys.map (·.1)) := congrArg Prod.fst hy
      rw [hDi] at hD
      exact Rch.part he hD hj (by simp [hys])
theorem rdRow_mkG {α : Type} {sz : Nat} {el : World → Nat → Nat → α → Prop} {fs : Array Field} {Z : Nat → Value → Field → Prop} {x : Addr} {len cap m : Nat} (hfs : fs.size = sz) (hl : len ≤ m) (hmax : len ≤ maxLen) {f0 : Field} (h0 : fs[0]? = some f0)
    (hi : ∀ i, i < m → ∃ n : Nat, ∀ (j : Nat) (f : Field), fs[j]? = some f → ∃ (v : Value), w.cell? (x.add (i * fs.size + j)) = some v ∧ Z n v f)
    (hel : ∀ b k n, (∀ (j : Nat) (f : Field), fs[j]? = some f → ∃ (v : Value), w.cell? ⟨b, k + j, none⟩ = some v ∧ Z n v f) → ∃ a, el w b k a) :
    ∃ l, l.length = len ∧ RdRow sz el w.heap.size w (.slice (some x) len cap) l := by
  subst hfs
  rcases Nat.eq_zero_or_pos len with e | hpos
  · subst e; exact ⟨[], rfl, _, _, rfl, by unfold maxLen; simp, fun i hi => absurd hi (by simp)⟩
  obtain ⟨b, o, s⟩ := x
  have hs : s = none := by
    obtain ⟨n, hf⟩ := hi 0 (by omega)
    obtain ⟨v, hc, _⟩ := hf 0 _ h0
    simpa [Addr.add] using World.cell?_spot hc
  subst hs
  have e1 : ∀ k, (⟨b, o, none⟩ : Addr).add k = ⟨b, o + k, none⟩ := fun k => by unfold Addr.add; split <;> simp_all
  obtain ⟨l, hl', hp⟩ := chooseL (p := fun i a => b < w.heap.size ∧ el w b (o + i * fs.size) a) (m := len) (fun i hil => by
    obtain ⟨n, hf⟩ := hi i (by omega)
    obtain ⟨v, hc, _⟩ := hf 0 _ h0
    rw [e1] at hc
    obtain ⟨a, ha⟩ := hel b (o + i * fs.size) n (fun j f hj => by
      obtain ⟨v, hc, ht⟩ := hf j f hj
      rw [e1, ← Nat.add_assoc] at hc
      exact ⟨v, hc, ht⟩)
    exact ⟨a, World.block_lt_of_cell? w _ hc, ha⟩)
  exact ⟨l, hl', some ⟨b, o, none⟩, cap, by rw [hl'], by omega, fun i hi => ⟨b, o, rfl, (hp i hi).1, (hp i hi).2⟩⟩
theorem rdFieldR {α : Type} {sz : Nat} {el : World → Nat → Nat → α → Prop} {t e : TypeId} {fs : Array Field} {fuel : Nat} {v : Value} {x : DataW H × List MemPlace} (ht : P.underlying t = some (.slice e)) (he : P.underlying e = some (.struct fs))
    (hone : oneCellFields P fs = true) (hC : P.cellsOf e = fs.size) (hfs : fs.size = sz) {f0 : Field} (h0 : fs[0]? = some f0) (h : DataW.trod enc P w base spare held fuel t [v] = some x) (hr : Rch P t x.1)
    (hel : ∀ b k n, (∀ (j : Nat) (f : Field), fs[j]? = some f → ∃ (v : Value), w.cell? ⟨b, k + j, none⟩ = some v ∧ ∃ y : DataW H × List MemPlace, DataW.trod enc P w base spare held n f.type [v] = some y ∧ Rch P f.type y.1) → ∃ a, el w b k a) :
    ∃ l, RdRow sz el w.heap.size w v l := by
  rcases open_slice_fieldsR ht he hone hC h hr with hcs | ⟨x, len, c, m, hcs, hl, hm, hmm, hi⟩
  · obtain rfl : v = .slice none 0 0 := by simpa using hcs
    exact ⟨[], none, 0, rfl, by unfold maxLen; simp, fun i hi => absurd hi (by simp)⟩
  · obtain rfl : v = .slice (some x) len c := by simpa using hcs
    obtain ⟨l, _, hr⟩ := rdRow_mkG (cap := c) (len := len) (Z := fun n v f => ∃ y : DataW H × List MemPlace, DataW.trod enc P w base spare held n f.type [v] = some y ∧ Rch P f.type y.1) hfs (by split at hmm <;> omega) (by omega) h0 hi hel
    exact ⟨l, hr⟩
theorem leaf_text {t : TypeId} {fuel : Nat} {c : Value} {x : DataW H × List MemPlace} (ht : P.underlying t = some .string) (h : DataW.trod enc P w base spare held fuel t [c] = some x) (hr : Rch P t x.1) : ∃ s, c = .string s ∧ s.size ≤ 140737488351232 := by
  obtain ⟨s, hs, hx, _⟩ := DataW.trod_string ht h
  refine ⟨s, by simpa using hs, ?_⟩
  subst hx
  have h2 := hr.text
  rw [Array.length_toList] at h2
  exact h2
end
/-- a text that a copy can be made of -/
def Tx (s : ByteArray) : Prop := s.size ≤ 140737488351232
def SzPrg (p : PrgD) : Prop := (∀ c ∈ p.classes, Tx c.name ∧ ∀ f ∈ c.fields, Tx f.name) ∧ ∀ f ∈ p.funcs, Tx f.name
theorem RdRow.all {α : Type} {sz B : Nat} {el : World → Nat → Nat → α → Prop} {p : α → Prop} {w : World} {v : Value} {l : List α} (h : RdRow sz (fun w b k x => el w b k x ∧ p x) B w v l) : RdRow sz el B w v l ∧ ∀ x ∈ l, p x := by
  obtain ⟨a, c, h1, h2, h3⟩ := h
  refine ⟨⟨a, c, h1, h2, fun i hi => ?_⟩, fun x hx => ?_⟩
  · obtain ⟨b, o, e1, e2, e3⟩ := h3 i hi
    exact ⟨b, o, e1, e2, e3.1⟩
  · obtain ⟨i, hi, rfl⟩ := List.getElem_of_mem hx
    obtain ⟨b, o, e1, e2, e3⟩ := h3 i hi
    exact e3.2
section
variable {H : Type} {enc : TypeId × Value → H} {w : World} {base : Nat} {spare : Nat → Bool} {held : Bool}
theorem open_fieldsR {fuel : Nat} {v : Value} {x : DataW H × List MemPlace} (h : DataW.trod enc Try.prog w base spare held fuel 50 [v] = some x) (hr : Rch Try.prog 50 x.1) : ∃ l, RdRow 2 ElF w.heap.size w v l ∧ ∀ f ∈ l, Tx f.name := by
  obtain ⟨l, hl⟩ := rdFieldR (el := fun w b k f => ElF w b k f ∧ Tx f.name) Try.underlying50 Try.underlying66 (by kernel_rfl) (by kernel_rfl) rfl rfl h hr fun b k n hf => by
    obtain ⟨v0, c0, y0, t0, r0⟩ := hf 0 _ rfl
    obtain ⟨v1, c1, y1, t1, r1⟩ := hf 1 _ rfl
    obtain ⟨s, rfl, hs⟩ := leaf_text Try.underlying9 t0 r0
    obtain ⟨q, rfl, hw⟩ := leaf_int Try.underlying3 t1
    exact ⟨⟨s, q⟩, ⟨c0, c1, wf_I64 hw⟩, hs⟩
  exact ⟨l, hl.all⟩
theorem open_classesR {fuel : Nat} {v : Value} {x : DataW H × List MemPlace} (h : DataW.trod enc Try.prog w base spare held fuel 24 [v] = some x) (hr : Rch Try.prog 24 x.1) :
    ∃ l, RdRow 2 (ElC w.heap.size) w.heap.size w v l ∧ ∀ c ∈ l, Tx c.name ∧ ∀ f ∈ c.fields, Tx f.name := by
  obtain ⟨l, hl⟩ := rdFieldR (el := fun w b k c => ElC w.heap.size w b k c ∧ (Tx c.name ∧ ∀ f ∈ c.fields, Tx f.name)) Try.underlying24 Try.underlying52 (by kernel_rfl) (by kernel_rfl) rfl rfl h hr fun b k n hf => by
    obtain ⟨v0, c0, y0, t0, r0⟩ := hf 0 _ rfl
    obtain ⟨v1, c1, y1, t1, r1⟩ := hf 1 _ rfl
    obtain ⟨s, rfl, hs⟩ := leaf_text Try.underlying9 t0 r0
    obtain ⟨l, hl, ha⟩ := open_fieldsR t1 r1
    exact ⟨⟨s, l⟩, ⟨c0, v1, c1, hl⟩, hs, ha⟩
  exact ⟨l, RdRow.all (el := fun w' b k c => ElC w.heap.size w' b k c) (by
    obtain ⟨a, c, h1, h2, h3⟩ := hl
    exact ⟨a, c, h1, h2, h3⟩)⟩
theorem open_funcsR {fuel : Nat} {v : Value} {x : DataW H × List MemPlace} (h : DataW.trod enc Try.prog w base spare held fuel 25 [v] = some x) (hr : Rch Try.prog 25 x.1) :
    ∃ l, RdRow 5 (ElU w.heap.size) w.heap.size w v l ∧ ∀ f ∈ l, Tx f.name := by
  obtain ⟨l, hl⟩ := rdFieldR (el := fun w b k c => ElU w.heap.size w b k c ∧ Tx c.name) Try.underlying25 Try.underlying45 (by kernel_rfl) (by kernel_rfl) rfl rfl h hr fun b k n hf => by
    obtain ⟨v0, c0, y0, t0, r0⟩ := hf 0 _ rfl
    obtain ⟨v1, c1, y1, t1, _⟩ := hf 1 _ rfl
    obtain ⟨v2, c2, y2, t2, _⟩ := hf 2 _ rfl
    obtain ⟨v3, c3, y3, t3, _⟩ := hf 3 _ rfl
    obtain ⟨v4, c4, y4, t4, _⟩ := hf 4 _ rfl
    obtain ⟨s, rfl, hs⟩ := leaf_text Try.underlying9 t0 r0
    obtain ⟨l1, h1⟩ := rdInts Try.underlying43 Try.underlying3 (by kernel_rfl) t1
    obtain ⟨q2, rfl, w2⟩ := leaf_int Try.underlying3 t2
    obtain ⟨l3, h3⟩ := rdInts Try.underlying43 Try.underlying3 (by kernel_rfl) t3
    obtain ⟨l4, h4⟩ := open_code t4
    exact ⟨⟨s, l1, q2, l3, l4⟩, ⟨c0, ⟨v1, c1, h1⟩, ⟨c2, wf_I64 w2⟩, ⟨v3, c3, h3⟩, v4, c4, h4⟩, hs⟩
  exact ⟨l, RdRow.all (el := fun w' b k c => ElU w.heap.size w' b k c) (by
    obtain ⟨a, c, h1, h2, h3⟩ := hl
    exact ⟨a, c, h1, h2, h3⟩)⟩
end
end Go.Proofs.Ytffelcidckbohaa
/- Fields and instructions compared. No condition. -/
namespace Go.Proofs.Ytffelcidckbohaa
open Go.RowKit
set_option linter.unusedVariables false
theorem fields2 {l : List Field} {t u : TypeId} (h : l.map (fun f => (f.type, f.offset, f.name == "_")) = [(t, 0, false), (u, 1, false)]) :
    ∃ f g, l = [f, g] ∧ (f.type = t ∧ f.offset = 0 ∧ ¬ f.name = "_") ∧ (g.type = u ∧ g.offset = 1 ∧ ¬ g.name = "_") := by
  rcases l with _ | ⟨f0, _ | ⟨f1, _ | ⟨f2, l⟩⟩⟩ <;> simp only [List.map_cons, List.map_nil, List.cons.injEq, Prod.mk.injEq, beq_eq_false_iff_ne, ne_eq, and_true, reduceCtorEq, and_false] at h
  exact ⟨f0, f1, rfl, h.1, h.2⟩
theorem fields3 {l : List Field} {t u : TypeId} (h : l.map (fun f => (f.type, f.offset, f.name == "_")) = [(t, 0, false), (u, 1, false), (u, 2, false)]) :
    ∃ f g k, l = [f, g, k] ∧ (f.type = t ∧ f.offset = 0 ∧ ¬ f.name = "_") ∧ (g.type = u ∧ g.offset = 1 ∧ ¬ g.name = "_") ∧ (k.type = u ∧ k.offset = 2 ∧ ¬ k.name = "_") := by
  rcases l with _ | ⟨f0, _ | ⟨f1, _ | ⟨f2, _ | ⟨f3, l⟩⟩⟩⟩ <;> simp only [List.map_cons, List.map_nil, List.cons.injEq, Prod.mk.injEq, beq_eq_false_iff_ne, ne_eq, and_true, reduceCtorEq, and_false] at h
  exact ⟨f0, f1, f2, rfl, h.1, h.2⟩
theorem neq_fld (w : World) (a b : ByteArray) (x y : Int) :
    (binOp .neq 66 (.agg #[.string a, .int .i64 x]) (.agg #[.string b, .int .i64 y])).run Try.prog w = .ok (.bool (!(a.toList == b.toList && x == y))) w := by
  rw [run_neq_struct, run_equalIn_agg w 9999 _ _ _ (by kernel_rfl) (by kernel_rfl)]
  obtain ⟨f, g, hl, ⟨f1, f2, f3⟩, g1, g2, g3⟩ := fields2 (l := (Try.prog.fieldsOf 66).toList) (t := 9) (u := 3) (by kernel_rfl)
  rw [hl]
  have hi : Try.prog.underlying 3 = some (.int .i64) := by kernel_rfl
  have hs : Try.prog.underlying 9 = some .string := by kernel_rfl
  simp [Op.eqFields, f1, f2, f3, g1, g2, g3, go_sem, hi, hs]
  by_cases h1 : a.toList = b.toList <;> by_cases h2 : x = y <;> simp [h1, h2]
theorem guard_fld : Try.prog.eqGuardType Try.prog.depth 66 = false := by kernel_rfl
theorem neq_ins (w : World) (a b c x y z : Int) :
    (binOp .neq 41 (.agg #[.int .i64 a, .int .i64 b, .int .i64 c]) (.agg #[.int .i64 x, .int .i64 y, .int .i64 z])).run Try.prog w = .ok (.bool (!(a == x && (b == y && c == z)))) w := by
  rw [run_neq_struct, run_equalIn_agg w 9999 _ _ _ (by kernel_rfl) (by kernel_rfl)]
  obtain ⟨f, g, k, hl, ⟨f1, f2, f3⟩, ⟨g1, g2, g3⟩, k1, k2, k3⟩ := fields3 (l := (Try.prog.fieldsOf 41).toList) (t := 3) (u := 2) (by kernel_rfl)
  rw [hl]
  have hi : Try.prog.underlying 3 = some (.int .i64) := by kernel_rfl
  have hj : Try.prog.underlying 2 = some (.int .i64) := by kernel_rfl
  simp [Op.eqFields, f1, f2, f3, g1, g2, g3, k1, k2, k3, go_sem, hi, hj]
  by_cases h1 : a = x <;> by_cases h2 : b = y <;> by_cases h3 : c = z <;> simp [h1, h2, h3]
theorem guard_ins : Try.prog.eqGuardType Try.prog.depth 41 = false := by kernel_rfl
/-! what of a program is compared -/
def fldP (f : FldD) : List UInt8 × Int := (f.name.toList, f.ty)
def clsP (c : ClsD) : List UInt8 × List (List UInt8 × Int) := (c.name.toList, c.fields.map fldP)
def insP (i : InsD) : Int × Int × Int := (i.op, i.a, i.b)
def funP (f : FunD) : List UInt8 × List Int × Int × List Int × List (Int × Int × Int) := (f.name.toList, f.params, f.result, f.locals, f.code.map insP)
def prgP (p : PrgD) : List (List UInt8 × List (List UInt8 × Int)) × List (List UInt8 × List Int × Int × List Int × List (Int × Int × Int)) := (p.classes.map clsP, p.funcs.map funP)
theorem map_eq_of {α β : Type} {f : α → β} {l1 l2 : List α} (h : l1.length = l2.length) (he : ∀ i, (h1 : i < l1.length) → (h2 : i < l2.length) → f l1[i] = f l2[i]) : l1.map f = l2.map f :=
  list_eq_of (by simpa using h) fun i h1 h2 => by simpa using he i (by simpa using h1) (by simpa using h2)
theorem map_ne_at {α β : Type} {f : α → β} {l1 l2 : List α} {i : Nat} (h1 : i < l1.length) (h2 : i < l2.length) (h : ¬ f l1[i] = f l2[i]) : ¬ l1.map f = l2.map f := fun e => h (by
  have q : (l1.map f)[i]? = (l2.map f)[i]? := by rw [e]
  simpa [List.getElem?_eq_getElem h1, List.getElem?_eq_getElem h2] using q)
theorem map_ne_len {α β : Type} {f : α → β} {l1 l2 : List α} (h : ¬ l1.length = l2.length) : ¬ l1.map f = l2.map f := fun e => h (by simpa using congrArg List.length e)
end Go.Proofs.Ytffelcidckbohaa
/- The document's SameClass and Same of classes. No condition. -/
namespace Go.Proofs.Ytffelcidckbohaa
open Go.RowKit
set_option linter.unusedVariables false
theorem fldP_eq {f g : FldD} : (f.name.toList == g.name.toList && f.ty == g.ty) = decide (fldP f = fldP g) := by
  unfold fldP
  by_cases h1 : f.name.toList = g.name.toList <;> by_cases h2 : f.ty = g.ty <;> simp [h1, h2]
theorem clsP_eq {f g : ClsD} : decide (clsP f = clsP g) = (decide (f.name.toList = g.name.toList) && decide (f.fields.map fldP = g.fields.map fldP)) := by
  unfold clsP
  by_cases h1 : f.name.toList = g.name.toList <;> by_cases h2 : f.fields.map fldP = g.fields.map fldP <;> simp [h1, h2]
set_option maxRecDepth 100000 in
set_option maxHeartbeats 4000000 in
theorem rsclass_any (w : World) (B : Nat) (v1 v2 : Value) (c d : ClsD) (hB : B ≤ w.heap.size) (h1 : RdRow 2 ElF B w v1 c.fields) (h2 : RdRow 2 ElF B w v2 d.fields) :
    Calls Try.prog 48 #[.agg #[.string c.name, v1], .agg #[.string d.name, v2]] w fun e w' => e = .returned (.bool (decide (clsP c = clsP d))) ∧ Below w.heap.size w w' := by
  have h1' := h1
  have h2' := h2
  obtain ⟨a1, q1, rfl⟩ := rd_shape h1'
  obtain ⟨a2, q2, rfl⟩ := rd_shape h2'
  have M1 : c.fields.length ≤ maxLen := by obtain ⟨_, _, _, h, _⟩ := h1; exact h
  unfold maxLen at M1
  have k1 : Blk ((w.alloc (.cells #[.string c.name, .slice a1 c.fields.length q1] 52)).alloc (.cells #[.string d.name, .slice a2 d.fields.length q2] 52)) w.heap.size #[.string c.name, .slice a1 c.fields.length q1] 52 := (Blk.new _ _ _).alloc _
  have k2 : Blk ((w.alloc (.cells #[.string c.name, .slice a1 c.fields.length q1] 52)).alloc (.cells #[.string d.name, .slice a2 d.fields.length q2] 52)) (w.heap.size + 1) #[.string d.name, .slice a2 d.fields.length q2] 52 := Blk.new' (by simp)
  have hb0 : Below w.heap.size w ((w.alloc (.cells #[.string c.name, .slice a1 c.fields.length q1] 52)).alloc (.cells #[.string d.name, .slice a2 d.fields.length q2] 52)) := ((Below.refl _ _).alloc (Nat.le_refl _) _).alloc (by simp) _
  have g1 := h1.keep (hb0.mono hB) fun _ _ _ e r => r.keep (hb0.mono hB) e
  have g2 := h2.keep (hb0.mono hB) fun _ _ _ e r => r.keep (hb0.mono hB) e
  have R1 := Lib.hid (fun i (hi : i < c.fields.length) => rd_at g1 hi)
  have R2 := Lib.hid (fun i (hi : i < d.fields.length) => rd_at g2 hi)
  have hb := Lib.hid hb0
  have CP := Lib.hid (clsP_eq (f := c) (g := d))
  clear h1 h2 h1' h2' hb0 g1 g2
  have c0 := k1.val 0 rfl
  have c1 := k1.val 1 rfl
  have d0 := k2.val 0 rfl
  have d1 := k2.val 1 rfl
  have hG := guard_fld
  by_cases hx : c.name.toList = d.name.toList
  · have hx' : (c.name.toList == d.name.toList) = true := by simp [hx]
    have HX := Lib.hid hx
    clear hx
    by_cases hn : c.fields.length = d.fields.length
    · have hne : ((c.fields.length : Int) != (d.fields.length : Int)) = false := by simp [hn]
      have HN := Lib.hid hn
      clear hn
      go_enter Try.func48, Try.ntmps48
      go_wp2
      generalize World.alloc (World.alloc _ _) _ = W at *
      generalize hS : w.heap.size = S at *
      have HS := Lib.hid hS
      clear hS
      go_loopw [5] (fun i wr => ∃ k : Nat, k ≤ c.fields.length ∧ i = .int .i64 k ∧ Quiet W wr ∧ ∀ j, (j1 : j < c.fields.length) → (j2 : j < d.fields.length) → j < k → fldP c.fields[j] = fldP d.fields[j]) (fun i _ => c.fields.length - (intOf i).toNat)
      case atStart => exact ⟨0, Nat.zero_le _, rfl, Quiet.refl _, fun j _ _ h => absurd h (by omega)⟩
      case round =>
        obtain ⟨k, hk, rfl, hq, hj⟩ := hrel
        have HJ := Lib.hid hj
        clear hj
        have c1 := (hq.cell _).trans c1
        have d1 := (hq.cell _).trans d1
        by_cases hlt : k < c.fields.length
        · have hlt2 : k < d.fields.length := by have := HN.out; omega
          obtain ⟨b1, o1, rfl, _, p1, p1', _⟩ := R1.out k hlt
          obtain ⟨b2, o2, rfl, _, p2, p2', _⟩ := R2.out k hlt2
          have p1 := (hq.cell _).trans p1
          have p2 := (hq.cell _).trans p2
          have p1' := (hq.cell _).trans p1'
          have p2' := (hq.cell _).trans p2'
          have hlt' : (k : Int) < (c.fields.length : Int) := by omega
          have hlt2' : (k : Int) < (d.fields.length : Int) := by omega
          have hge' : (0 : Int) ≤ (k : Int) := by omega
          have FP := Lib.hid (@fldP_eq c.fields[k] d.fields[k])
          have hE := fun W => neq_fld W c.fields[k].name d.fields[k].name c.fields[k].ty d.fields[k].ty
          have HM : Hid (¬ fldP c.fields[k] = fldP d.fields[k] → ¬ c.fields.map fldP = d.fields.map fldP) := map_ne_at hlt hlt2
          have HE : Hid (∀ (j1 : k < c.fields.length) (j2 : k < d.fields.length), fldP (c.fields[k]'j1) = fldP (c.fields[k]'hlt) ∧ fldP (d.fields[k]'j2) = fldP (d.fields[k]'hlt2)) := fun _ _ => ⟨rfl, rfl⟩
          generalize c.fields[k] = z1 at *
          generalize d.fields[k] = z2 at *
          rcases z1 with ⟨zn, zt⟩
          rcases z2 with ⟨yn, yt⟩
          simp only at p1 p2 p1' p2' hE
          by_cases hy : fldP ⟨zn, zt⟩ = fldP ⟨yn, yt⟩
          · have hv : (zn.toList == yn.toList && zt == yt) = true := by rw [show (zn.toList == yn.toList && zt == yt) = decide (fldP ⟨zn, zt⟩ = fldP ⟨yn, yt⟩) from FP.out]; simpa using hy
            have HY := Lib.hid hy
            clear hy
            go_wp2
            go_quiet (fail)
            go_wp2
            go_roundw
            case rel => exact ⟨k + 1, by omega, by go_num, hq.trans ⟨_, rfl⟩, fun j j1 j2 j3 => by
              rcases Nat.lt_or_ge j k with h | h
              · exact HJ.out j j1 j2 h
              · obtain rfl : j = k := by omega
                exact (HE.out j1 j2).1.trans (HY.out.trans (HE.out j1 j2).2.symm)⟩
            case measure => simp [intOf]; omega
          · have hv : (zn.toList == yn.toList && zt == yt) = false := by rw [show (zn.toList == yn.toList && zt == yt) = decide (fldP ⟨zn, zt⟩ = fldP ⟨yn, yt⟩) from FP.out]; simpa using hy
            have HY := Lib.hid hy
            clear hy
            go_wp2
            go_quiet (fail)
            go_wp2
            go_ret
            exact ⟨ret_bool (by rw [CP.out]; simp [HM.out HY.out]), by first | (rw [HS.out]; exact hb.out.trans (Quiet.below (hq.trans ⟨_, rfl⟩))) | exact hb.out.trans (Quiet.below (hq.trans ⟨_, rfl⟩))⟩
        · have hlt' : ¬ (k : Int) < (c.fields.length : Int) := by omega
          go_wp2
          go_ret
          exact ⟨ret_bool (by rw [CP.out]; simp [HX.out, map_eq_of HN.out fun i i1 i2 => HJ.out i i1 i2 (by omega)]), by first | (rw [HS.out]; exact hb.out.trans (Quiet.below hq)) | exact hb.out.trans (Quiet.below hq)⟩
    · have hne : ((c.fields.length : Int) != (d.fields.length : Int)) = true := by simp; omega
      have HM := Lib.hid (map_ne_len (f := fldP) hn)
      go_enter Try.func48, Try.ntmps48
      go_wp2
      go_ret
      exact ⟨ret_bool (by rw [CP.out]; simp [HM.out]), hb.out⟩
  · have hx' : (c.name.toList == d.name.toList) = false := by simpa using hx
    have HX := Lib.hid hx
    clear hx
    go_enter Try.func48, Try.ntmps48
    go_wp2
    go_ret
    exact ⟨ret_bool (by rw [CP.out]; simp [HX.out]), hb.out⟩
end Go.Proofs.Ytffelcidckbohaa
/- The document's Same of two rows of classes. No condition. -/
namespace Go.Proofs.Ytffelcidckbohaa
open Go.RowKit
set_option linter.unusedVariables false
set_option maxRecDepth 100000 in
set_option maxHeartbeats 4000000 in
theorem rsclasses_any (w : World) (B : Nat) (v1 v2 : Value) (l1 l2 : List ClsD) (hB : B ≤ w.heap.size) (h1 : RdRow 2 (ElC B) B w v1 l1) (h2 : RdRow 2 (ElC B) B w v2 l2) :
    Calls Try.prog 26 #[v1, v2] w fun e w' => e = .returned (.bool (decide (l1.map clsP = l2.map clsP))) ∧ Below w.heap.size w w' := by
  have h1' := h1
  have h2' := h2
  obtain ⟨a1, c1, rfl⟩ := rd_shape h1'
  obtain ⟨a2, c2, rfl⟩ := rd_shape h2'
  have M1 : l1.length ≤ maxLen := by obtain ⟨_, _, _, h, _⟩ := h1; exact h
  unfold maxLen at M1
  have R1 := Lib.hid (fun W (hb : Below B w W) i (hi : i < l1.length) => rd_at (h1.keep hb fun _ _ _ e r => r.keep hb e) hi)
  have R2 := Lib.hid (fun W (hb : Below B w W) i (hi : i < l2.length) => rd_at (h2.keep hb fun _ _ _ e r => r.keep hb e) hi)
  have HB := Lib.hid hB
  clear h1 h2 h1' h2' hB
  by_cases hn : l1.length = l2.length
  · have hne : ((l1.length : Int) != (l2.length : Int)) = false := by simp [hn]
    have HN := Lib.hid hn
    clear hn
    go_enter Try.func26, Try.ntmps26
    go_wp2
    go_loopw [5] (fun i wr => ∃ k : Nat, k ≤ l1.length ∧ i = .int .i64 k ∧ Below w.heap.size w wr ∧ ∀ j, (j1 : j < l1.length) → (j2 : j < l2.length) → j < k → clsP l1[j] = clsP l2[j]) (fun i _ => l1.length - (intOf i).toNat)
    case atStart => exact ⟨0, Nat.zero_le _, rfl, Below.refl _ _, fun j _ _ h => absurd h (by omega)⟩
    case round =>
      obtain ⟨k, hk, rfl, hq, hj⟩ := hrel
      have HJ := Lib.hid hj
      have HQ := Lib.hid hq
      clear hj hq
      by_cases hlt : k < l1.length
      · have hlt2 : k < l2.length := by have := HN.out; omega
        have hbw := HQ.out.mono HB.out
        obtain ⟨b1, o1, rfl, _, p1, x1, y1, z1⟩ := R1.out wr hbw k hlt
        obtain ⟨b2, o2, rfl, _, p2, x2, y2, z2⟩ := R2.out wr hbw k hlt2
        obtain ⟨fa1, fc1, hx1⟩ := rd_shape z1
        obtain ⟨fa2, fc2, hx2⟩ := rd_shape z2
        have hlt' : (k : Int) < (l1.length : Int) := by omega
        have i1 : (0 : Int) ≤ (k : Int) ∧ (k : Int) < (l1.length : Int) := ⟨by omega, by omega⟩
        have i2 : (0 : Int) ≤ (k : Int) ∧ (k : Int) < (l2.length : Int) := ⟨by omega, by omega⟩
        have m1 : 0 < l1.length := by omega
        have m2 : 0 < l2.length := by omega
        have CL := Lib.hid (rsclass_any wr.drew B x1 x2 l1[k] l2[k] (Nat.le_trans HB.out HQ.out.size) (z1.keep (Below.refl _ _).drew fun _ _ _ e r => r.keep (Below.refl _ _).drew e) (z2.keep (Below.refl _ _).drew fun _ _ _ e r => r.keep (Below.refl _ _).drew e))
        have HM : Hid (¬ clsP l1[k] = clsP l2[k] → ¬ l1.map clsP = l2.map clsP) := map_ne_at hlt hlt2
        have HE : Hid (∀ (j1 : k < l1.length) (j2 : k < l2.length), clsP (l1[k]'j1) = clsP (l1[k]'hlt) ∧ clsP (l2[k]'j2) = clsP (l2[k]'hlt2)) := fun _ _ => ⟨rfl, rfl⟩
        have HT : Hid (Below wr.heap.size wr wr.drew) := (Below.refl _ _).drew
        generalize l1[k] = e1 at *
        generalize l2[k] = e2 at *
        clear z1 z2 hx1 hx2 hbw
        go_wp2_with fail
        go_still_tail 8, (by kernel_rfl)
        change wpList _ _ _ _ _ wr.drew
        generalize wr.drew = w5 at *
        go_wp2_with fail
        refine CL.out.mono ?_
        rintro e9 w6 ⟨rfl, hb6⟩
        have HB6 := Lib.hid (HT.out.trans (hb6.mono HT.out.size))
        clear hb6 CL
        by_cases hy : clsP e1 = clsP e2
        · have hv : decide (clsP e1 = clsP e2) = true := by simpa using hy
          have HY := Lib.hid hy
          clear hy
          go_wp2
          go_roundw
          case rel => exact ⟨k + 1, by omega, by go_num, HQ.out.trans (HB6.out.mono HQ.out.size), fun j j1 j2 j3 => by
            rcases Nat.lt_or_ge j k with h | h
            · exact HJ.out j j1 j2 h
            · obtain rfl : j = k := by omega
              exact (HE.out j1 j2).1.trans (HY.out.trans (HE.out j1 j2).2.symm)⟩
          case measure => simp [intOf]; omega
        · have hv : decide (clsP e1 = clsP e2) = false := by simpa using hy
          have HY := Lib.hid hy
          clear hy
          go_wp2
          go_ret
          exact ⟨ret_bool (by simp [HM.out HY.out]), HQ.out.trans (HB6.out.mono HQ.out.size)⟩
      · have hlt' : ¬ (k : Int) < (l1.length : Int) := by omega
        go_wp2
        go_ret
        exact ⟨ret_bool (by simp [map_eq_of HN.out fun i i1 i2 => HJ.out i i1 i2 (by omega)]), HQ.out⟩
  · have hne : ((l1.length : Int) != (l2.length : Int)) = true := by simp; omega
    have HM := Lib.hid (map_ne_len (f := clsP) hn)
    go_enter Try.func26, Try.ntmps26
    go_wp2
    go_ret
    exact ⟨ret_bool (by simp [HM.out]), Below.refl _ _⟩
end Go.Proofs.Ytffelcidckbohaa
/- The document's Same of two programs. No condition. -/
namespace Go.Proofs.Ytffelcidckbohaa
open Go.RowKit
set_option linter.unusedVariables false
abbrev InsT := Int × Int × Int
abbrev FunT := List UInt8 × List Int × Int × List Int × List InsT
abbrev ClsT := List UInt8 × List (List UInt8 × Int)
instance decInsT : DecidableEq InsT := instDecidableEqProd
instance decFunT : DecidableEq FunT := @instDecidableEqProd _ _ inferInstance (@instDecidableEqProd _ _ inferInstance (@instDecidableEqProd _ _ inferInstance (@instDecidableEqProd _ _ inferInstance (inferInstanceAs (DecidableEq (List InsT))))))
instance decClsT : DecidableEq ClsT := inferInstance
instance decPrgT : DecidableEq (List ClsT × List FunT) := @instDecidableEqProd _ _ inferInstance (inferInstanceAs (DecidableEq (List FunT)))
theorem insP_eq {f g : InsD} : (f.op == g.op && (f.a == g.a && f.b == g.b)) = decide (insP f = insP g) := by
  unfold insP
  by_cases h1 : f.op = g.op <;> by_cases h2 : f.a = g.a <;> by_cases h3 : f.b = g.b <;> simp [h1, h2, h3]
theorem prgP_eq {p q : PrgD} : decide (prgP p = prgP q) = (decide (p.classes.map clsP = q.classes.map clsP) && decide (p.funcs.map funP = q.funcs.map funP)) := by
  unfold prgP
  by_cases h1 : p.classes.map clsP = q.classes.map clsP <;> by_cases h2 : p.funcs.map funP = q.funcs.map funP <;> simp [h1, h2]
theorem funP_eq {f g : FunD} : funP f = funP g ↔ f.name.toList = g.name.toList ∧ f.params = g.params ∧ f.result = g.result ∧ f.locals = g.locals ∧ f.code.map insP = g.code.map insP := by
  unfold funP
  simp only [Prod.mk.injEq]
set_option maxRecDepth 100000 in
set_option maxHeartbeats 8000000 in
theorem rsame_any (w : World) (B : Nat) (u0 u1 t0 t1 : Value) (p q : PrgD) (hB : B ≤ w.heap.size) (h1 : RdPrg B w u0 u1 p) (h2 : RdPrg B w t0 t1 q) :
    Calls Try.prog 8 #[.agg #[u0, u1], .agg #[t0, t1]] w fun e w' => e = .returned (.bool (decide (prgP p = prgP q))) ∧ Below w.heap.size w w' := by
  obtain ⟨a0, c0, rfl⟩ := rd_shape h1.1
  obtain ⟨a1, c1, rfl⟩ := rd_shape h1.2
  obtain ⟨d0, e0, rfl⟩ := rd_shape h2.1
  obtain ⟨d1, e1, rfl⟩ := rd_shape h2.2
  have M1 : p.funcs.length ≤ maxLen := by obtain ⟨_, _, _, h, _⟩ := h1.2; exact h
  unfold maxLen at M1
  have k1 : Blk ((w.alloc (.cells #[.slice a0 p.classes.length c0, .slice a1 p.funcs.length c1] 27)).alloc (.cells #[.slice d0 q.classes.length e0, .slice d1 q.funcs.length e1] 27)) w.heap.size #[.slice a0 p.classes.length c0, .slice a1 p.funcs.length c1] 27 := (Blk.new _ _ _).alloc _
  have k2 : Blk ((w.alloc (.cells #[.slice a0 p.classes.length c0, .slice a1 p.funcs.length c1] 27)).alloc (.cells #[.slice d0 q.classes.length e0, .slice d1 q.funcs.length e1] 27)) (w.heap.size + 1) #[.slice d0 q.classes.length e0, .slice d1 q.funcs.length e1] 27 := Blk.new' (by simp)
  have hb0 : Below w.heap.size w ((w.alloc (.cells #[.slice a0 p.classes.length c0, .slice a1 p.funcs.length c1] 27)).alloc (.cells #[.slice d0 q.classes.length e0, .slice d1 q.funcs.length e1] 27)) := ((Below.refl _ _).alloc (Nat.le_refl _) _).alloc (by simp) _
  have CS := Lib.hid (rsclasses_any _ B _ _ _ _ (Nat.le_trans hB hb0.size) (h1.keep (hb0.mono hB)).1 (h2.keep (hb0.mono hB)).1)
  have R1 := Lib.hid (fun W (hb : Below B w W) i (hi : i < p.funcs.length) => rd_at (h1.keep hb).2 hi)
  have R2 := Lib.hid (fun W (hb : Below B w W) i (hi : i < q.funcs.length) => rd_at (h2.keep hb).2 hi)
  have HB := Lib.hid hB
  have PE := Lib.hid (prgP_eq (p := p) (q := q))
  have hb := Lib.hid hb0
  have x0 := k1.val 0 rfl
  have y0 := k2.val 0 rfl
  clear h1 h2 hB hb0
  go_enter Try.func8, Try.ntmps8
  go_wp2_with fail
  refine CS.out.mono ?_
  rintro e9 w1 ⟨rfl, hb1⟩
  have n1 := k1.grew hb1
  have n2 := k2.grew hb1
  have HW := Lib.hid (hb.out.trans (hb1.mono hb.out.size))
  clear hb1 hb CS x0 y0 k1 k2
  have x0 := n1.val 0 rfl
  have x1 := n1.val 1 rfl
  have y0 := n2.val 0 rfl
  have y1 := n2.val 1 rfl
  have hG := guard_ins
  by_cases hcl : p.classes.map clsP = q.classes.map clsP
  · have hcl' : decide (p.classes.map clsP = q.classes.map clsP) = true := by simpa using hcl
    have HCL := Lib.hid hcl
    clear hcl
    by_cases hn : p.funcs.length = q.funcs.length
    · have hne : ((p.funcs.length : Int) != (q.funcs.length : Int)) = false := by simp [hn]
      have HN := Lib.hid hn
      have HK1 := Lib.hid n1
      have HK2 := Lib.hid n2
      clear hn n1 n2
      go_wp2
      go_loopw [5] (fun i wr => ∃ k : Nat, k ≤ p.funcs.length ∧ i = .int .i64 k ∧ Below w1.heap.size w1 wr ∧ ∀ j, (j1 : j < p.funcs.length) → (j2 : j < q.funcs.length) → j < k → funP p.funcs[j] = funP q.funcs[j]) (fun i _ => p.funcs.length - (intOf i).toNat)
      case atStart => exact ⟨0, Nat.zero_le _, rfl, Below.refl _ _, fun j _ _ h => absurd h (by omega)⟩
      case round =>
        obtain ⟨k, hk, rfl, hq, hj⟩ := hrel
        have HJ := Lib.hid hj
        have HQ := Lib.hid hq
        have k1 := HK1.out.grew hq
        have k2 := HK2.out.grew hq
        clear hj hq x0 x1 y0 y1
        have x1 := k1.val 1 rfl
        have y1 := k2.val 1 rfl
        by_cases hlt : k < p.funcs.length
        · have hlt2 : k < q.funcs.length := by have := HN.out; omega
          have hlt' : (k : Int) < (p.funcs.length : Int) := by omega
          have i1 : (0 : Int) ≤ (k : Int) ∧ (k : Int) < (p.funcs.length : Int) := ⟨by omega, by omega⟩
          have i2 : (0 : Int) ≤ (k : Int) ∧ (k : Int) < (q.funcs.length : Int) := ⟨by omega, by omega⟩
          have m1 : 0 < p.funcs.length := by omega
          have m2 : 0 < q.funcs.length := by omega
          have hbw : Below B w wr := (HW.out.trans (HQ.out.mono HW.out.size)).mono HB.out
          obtain ⟨b1, o1, rfl, _, f0, ⟨fv1, f1, g1⟩, ⟨f2, _⟩, ⟨fv3, f3, g3⟩, fv4, f4, g4⟩ := R1.out wr hbw k hlt
          have HM : Hid (¬ funP p.funcs[k] = funP q.funcs[k] → ¬ p.funcs.map funP = q.funcs.map funP) := map_ne_at hlt hlt2
          have HE : Hid (∀ (j1 : k < p.funcs.length) (j2 : k < q.funcs.length), funP (p.funcs[k]'j1) = funP (p.funcs[k]'hlt) ∧ funP (q.funcs[k]'j2) = funP (q.funcs[k]'hlt2)) := fun _ _ => ⟨rfl, rfl⟩
          obtain ⟨fa1, fc1, rfl⟩ := rd_shape g1
          obtain ⟨fa3, fc3, rfl⟩ := rd_shape g3
          obtain ⟨fa4, fc4, rfl⟩ := rd_shape g4
          have R2k := Lib.hid (fun W (hb : Below B w W) => R2.out W hb k hlt2)
          generalize p.funcs[k] = fn at *
          generalize q.funcs[k] = gn at *
          have bC : Below wr.heap.size wr (wr.alloc (.cells #[.string fn.name, .slice fa1 fn.params.length fc1, .int .i64 fn.result, .slice fa3 fn.locals.length fc3, .slice fa4 fn.code.length fc4] 45)) := (Below.refl _ _).alloc (Nat.le_refl _) _
          have kC : Blk (wr.alloc (.cells #[.string fn.name, .slice fa1 fn.params.length fc1, .int .i64 fn.result, .slice fa3 fn.locals.length fc3, .slice fa4 fn.code.length fc4] 45)) wr.heap.size #[.string fn.name, .slice fa1 fn.params.length fc1, .int .i64 fn.result, .slice fa3 fn.locals.length fc3, .slice fa4 fn.code.length fc4] 45 := Blk.new _ _ _
          have hsz : B ≤ wr.heap.size := Nat.le_trans HB.out (Nat.le_trans HW.out.size HQ.out.size)
          have hbw2 : Below B w _ := hbw.trans (bC.mono hsz)
          have y1a := (k2.grew bC).val 1 rfl
          have G1 := Lib.hid (fun W (hb : Below B wr W) => g1.keep hb fun _ _ _ e r => r.keep hb e)
          have G3 := Lib.hid (fun W (hb : Below B wr W) => g3.keep hb fun _ _ _ e r => r.keep hb e)
          have G4 := Lib.hid (fun W (hb : Below B wr W) => g4.keep hb fun _ _ _ e r => r.keep hb e)
          have BC := Lib.hid bC
          have BW := Lib.hid hbw
          have HSZ := Lib.hid hsz
          have K1 := Lib.hid k1
          have K2 := Lib.hid k2
          clear g1 g3 g4 bC hbw k1 k2 hsz
          obtain ⟨b2, o2, rfl, _, h0, ⟨gv1, h1, l1⟩, ⟨h2, _⟩, ⟨gv3, h3, l3⟩, gv4, h4, l4⟩ := R2k.out _ hbw2
          obtain ⟨ga1, gc1, rfl⟩ := rd_shape l1
          obtain ⟨ga3, gc3, rfl⟩ := rd_shape l3
          obtain ⟨ga4, gc4, rfl⟩ := rd_shape l4
          have bD : Below wr.heap.size (wr.alloc (.cells #[.string fn.name, .slice fa1 fn.params.length fc1, .int .i64 fn.result, .slice fa3 fn.locals.length fc3, .slice fa4 fn.code.length fc4] 45)) ((wr.alloc (.cells #[.string fn.name, .slice fa1 fn.params.length fc1, .int .i64 fn.result, .slice fa3 fn.locals.length fc3, .slice fa4 fn.code.length fc4] 45)).alloc (.cells #[.string gn.name, .slice ga1 gn.params.length gc1, .int .i64 gn.result, .slice ga3 gn.locals.length gc3, .slice ga4 gn.code.length gc4] 45)) := (Below.refl _ _).alloc (by simp) _
          have bE := BC.out.trans bD
          have kF : Blk ((wr.alloc (.cells #[.string fn.name, .slice fa1 fn.params.length fc1, .int .i64 fn.result, .slice fa3 fn.locals.length fc3, .slice fa4 fn.code.length fc4] 45)).alloc (.cells #[.string gn.name, .slice ga1 gn.params.length gc1, .int .i64 gn.result, .slice ga3 gn.locals.length gc3, .slice ga4 gn.code.length gc4] 45)) wr.heap.size #[.string fn.name, .slice fa1 fn.params.length fc1, .int .i64 fn.result, .slice fa3 fn.locals.length fc3, .slice fa4 fn.code.length fc4] 45 := kC.alloc _
          have kG : Blk ((wr.alloc (.cells #[.string fn.name, .slice fa1 fn.params.length fc1, .int .i64 fn.result, .slice fa3 fn.locals.length fc3, .slice fa4 fn.code.length fc4] 45)).alloc (.cells #[.string gn.name, .slice ga1 gn.params.length gc1, .int .i64 gn.result, .slice ga3 gn.locals.length gc3, .slice ga4 gn.code.length gc4] 45)) (wr.heap.size + 1) #[.string gn.name, .slice ga1 gn.params.length gc1, .int .i64 gn.result, .slice ga3 gn.locals.length gc3, .slice ga4 gn.code.length gc4] 45 := Blk.new' (by simp)
          have hF0 := bD.mono HSZ.out
          have hF1 := bE.mono HSZ.out
          have IN1 := Lib.hid (rsints_any _ B _ _ _ _ (G1.out _ hF1) (l1.keep hF0 fun _ _ _ e r => r.keep hF0 e))
          have IN2 := Lib.hid (fun W (hq : Quiet ((wr.alloc (.cells #[.string fn.name, .slice fa1 fn.params.length fc1, .int .i64 fn.result, .slice fa3 fn.locals.length fc3, .slice fa4 fn.code.length fc4] 45)).alloc (.cells #[.string gn.name, .slice ga1 gn.params.length gc1, .int .i64 gn.result, .slice ga3 gn.locals.length gc3, .slice ga4 gn.code.length gc4] 45)) W) => rsints_any W B _ _ _ _ (G3.out W (hF1.trans (Quiet.below hq))) (l3.keep (hF0.trans (Quiet.below hq)) fun _ _ _ e r => r.keep (hF0.trans (Quiet.below hq)) e))
          have C1 := Lib.hid (fun i (hi : i < fn.code.length) => rd_at (G4.out _ hF1) hi)
          have C2 := Lib.hid (fun i (hi : i < gn.code.length) => rd_at (l4.keep hF0 fun _ _ _ e r => r.keep hF0 e) hi)
          have FE := Lib.hid (@funP_eq fn gn)
          have BE := Lib.hid bE
          have KF := Lib.hid kF
          have KG := Lib.hid kG
          have z0 := kF.val 0 rfl
          have z1 := kF.val 1 rfl
          have z2 := kF.val 2 rfl
          have z3 := kF.val 3 rfl
          have z4 := kF.val 4 rfl
          have q0 := kG.val 0 rfl
          have q1 := kG.val 1 rfl
          have q2 := kG.val 2 rfl
          have q3 := kG.val 3 rfl
          have q4 := kG.val 4 rfl
          have M4 : fn.code.length ≤ maxLen := by obtain ⟨_, _, _, h, _⟩ := G4.out _ (Below.refl _ _); exact h
          unfold maxLen at M4
          clear l1 l3 l4 bD bE kF kG kC hF0 hF1 hbw2
          by_cases ca : fn.name.toList = gn.name.toList
          · have va : (fn.name.toList == gn.name.toList) = true := by simpa using ca
            have HA := Lib.hid ca
            clear ca
            by_cases cb : fn.result = gn.result
            · have vb : (fn.result != gn.result) = false := by simpa using cb
              have HBB := Lib.hid cb
              clear cb
              by_cases cc : fn.params = gn.params
              · have vc : decide (fn.params = gn.params) = true := by simpa using cc
                have HC := Lib.hid cc
                clear cc
                by_cases cd : fn.locals = gn.locals
                · have vd : decide (fn.locals = gn.locals) = true := by simpa using cd
                  have HD := Lib.hid cd
                  clear cd
                  by_cases ce : fn.code.length = gn.code.length
                  · have ve : ((fn.code.length : Int) != (gn.code.length : Int)) = false := by simp [ce]
                    have HEE := Lib.hid ce
                    clear ce
                    go_wp2_with fail
                    refine IN1.out.mono ?_
                    rintro e9 w3 ⟨rfl, hq3⟩
                    replace z0 := (hq3.cell _).trans z0
                    replace q0 := (hq3.cell _).trans q0
                    replace z1 := (hq3.cell _).trans z1
                    replace q1 := (hq3.cell _).trans q1
                    replace z2 := (hq3.cell _).trans z2
                    replace q2 := (hq3.cell _).trans q2
                    replace z3 := (hq3.cell _).trans z3
                    replace q3 := (hq3.cell _).trans q3
                    replace z4 := (hq3.cell _).trans z4
                    replace q4 := (hq3.cell _).trans q4
                    have HQ3 := Lib.hid hq3
                    clear hq3
                    have IN := Lib.hid (IN2.out w3 HQ3.out)
                    go_wp2_with fail
                    refine IN.out.mono ?_
                    rintro e9 w4 ⟨rfl, hq4⟩
                    replace z0 := (hq4.cell _).trans z0
                    replace q0 := (hq4.cell _).trans q0
                    replace z1 := (hq4.cell _).trans z1
                    replace q1 := (hq4.cell _).trans q1
                    replace z2 := (hq4.cell _).trans z2
                    replace q2 := (hq4.cell _).trans q2
                    replace z3 := (hq4.cell _).trans z3
                    replace q3 := (hq4.cell _).trans q3
                    replace z4 := (hq4.cell _).trans z4
                    replace q4 := (hq4.cell _).trans q4
                    have HQ4 := Lib.hid (HQ3.out.trans hq4)
                    clear hq4
                    go_wp2
                    go_loopw [8] (fun i wr2 => ∃ x : Nat, x ≤ fn.code.length ∧ i = .int .i64 x ∧ Quiet w4 wr2 ∧ ∀ j, (j1 : j < fn.code.length) → (j2 : j < gn.code.length) → j < x → insP fn.code[j] = insP gn.code[j]) (fun i _ => fn.code.length - (intOf i).toNat)
                    case atStart => exact ⟨0, Nat.zero_le _, rfl, Quiet.refl _, fun j _ _ h => absurd h (by omega)⟩
                    case round =>
                      obtain ⟨x, hx, rfl, hqx, hjx⟩ := hrel
                      have HJX := Lib.hid hjx
                      have HQX := Lib.hid (HQ4.out.trans hqx)
                      have HQY := Lib.hid hqx
                      replace z4 := (hqx.cell _).trans z4
                      replace q4 := (hqx.cell _).trans q4
                      clear hjx hqx z0 z1 z2 z3 q0 q1 q2 q3
                      by_cases hltx : x < fn.code.length
                      · have hltx2 : x < gn.code.length := by have := HEE.out; omega
                        obtain ⟨b4, o4, rfl, _, r0, r1, r2, _⟩ := C1.out x hltx
                        obtain ⟨b5, o5, rfl, _, s0, s1, s2, _⟩ := C2.out x hltx2
                        replace r0 := (HQX.out.cell _).trans r0
                        replace r1 := (HQX.out.cell _).trans r1
                        replace r2 := (HQX.out.cell _).trans r2
                        replace s0 := (HQX.out.cell _).trans s0
                        replace s1 := (HQX.out.cell _).trans s1
                        replace s2 := (HQX.out.cell _).trans s2
                        have hltx' : (x : Int) < (fn.code.length : Int) := by omega
                        have hltx2' : (x : Int) < (gn.code.length : Int) := by omega
                        have hgex' : (0 : Int) ≤ (x : Int) := by omega
                        have FP := Lib.hid (@insP_eq fn.code[x] gn.code[x])
                        have hE := fun W => neq_ins W fn.code[x].op fn.code[x].a fn.code[x].b gn.code[x].op gn.code[x].a gn.code[x].b
                        have HMX : Hid (¬ insP fn.code[x] = insP gn.code[x] → ¬ fn.code.map insP = gn.code.map insP) := map_ne_at hltx hltx2
                        have HEX : Hid (∀ (j1 : x < fn.code.length) (j2 : x < gn.code.length), insP (fn.code[x]'j1) = insP (fn.code[x]'hltx) ∧ insP (gn.code[x]'j2) = insP (gn.code[x]'hltx2)) := fun _ _ => ⟨rfl, rfl⟩
                        generalize fn.code[x] = e1 at *
                        generalize gn.code[x] = e2 at *
                        rcases e1 with ⟨ea, eb, ec⟩
                        rcases e2 with ⟨ga, gb, gc⟩
                        simp only at r0 r1 r2 s0 s1 s2 hE
                        by_cases hy : insP ⟨ea, eb, ec⟩ = insP ⟨ga, gb, gc⟩
                        · have hv : (ea == ga && (eb == gb && ec == gc)) = true := by rw [show (ea == ga && (eb == gb && ec == gc)) = decide (insP ⟨ea, eb, ec⟩ = insP ⟨ga, gb, gc⟩) from FP.out]; simpa using hy
                          have HY := Lib.hid hy
                          clear hy
                          go_wp2
                          go_quiet (fail)
                          go_wp2
                          go_roundw
                          case rel => exact ⟨x + 1, by omega, by go_num, HQY.out.trans ⟨_, rfl⟩, fun j j1 j2 j3 => by
                            rcases Nat.lt_or_ge j x with h | h
                            · exact HJX.out j j1 j2 h
                            · obtain rfl : j = x := by omega
                              exact (HEX.out j1 j2).1.trans (HY.out.trans (HEX.out j1 j2).2.symm)⟩
                          case measure => simp [intOf]; omega
                        · have hv : (ea == ga && (eb == gb && ec == gc)) = false := by rw [show (ea == ga && (eb == gb && ec == gc)) = decide (insP ⟨ea, eb, ec⟩ = insP ⟨ga, gb, gc⟩) from FP.out]; simpa using hy
                          have HY := Lib.hid hy
                          clear hy
                          go_wp2
                          go_quiet (fail)
                          go_wp2
                          go_ret
                          exact ⟨ret_bool (by rw [PE.out]; simp [HM.out fun e => HMX.out HY.out (FE.out.1 e).2.2.2.2]), HW.out.trans ((HQ.out.trans ((BE.out.trans (Quiet.below (HQX.out.trans ⟨_, rfl⟩))).mono HQ.out.size)).mono HW.out.size)⟩
                      · have hltx' : ¬ (x : Int) < (fn.code.length : Int) := by omega
                        have HF : Hid (funP fn = funP gn) := FE.out.2 ⟨HA.out, HC.out, HBB.out, HD.out, map_eq_of HEE.out fun i i1 i2 => HJX.out i i1 i2 (by omega)⟩
                        go_wp2
                        go_roundw
                        case rel => exact ⟨k + 1, by omega, by go_num, HQ.out.trans ((BE.out.trans (Quiet.below HQX.out)).mono HQ.out.size), fun j j1 j2 j3 => by
                          rcases Nat.lt_or_ge j k with h | h
                          · exact HJ.out j j1 j2 h
                          · obtain rfl : j = k := by omega
                            exact (HE.out j1 j2).1.trans (HF.out.trans (HE.out j1 j2).2.symm)⟩
                        case measure => simp [intOf]; omega
                  · have ve : ((fn.code.length : Int) != (gn.code.length : Int)) = true := by simp; omega
                    have HEE := Lib.hid ce
                    clear ce
                    go_wp2_with fail
                    refine IN1.out.mono ?_
                    rintro e9 w3 ⟨rfl, hq3⟩
                    replace z0 := (hq3.cell _).trans z0
                    replace q0 := (hq3.cell _).trans q0
                    replace z1 := (hq3.cell _).trans z1
                    replace q1 := (hq3.cell _).trans q1
                    replace z2 := (hq3.cell _).trans z2
                    replace q2 := (hq3.cell _).trans q2
                    replace z3 := (hq3.cell _).trans z3
                    replace q3 := (hq3.cell _).trans q3
                    replace z4 := (hq3.cell _).trans z4
                    replace q4 := (hq3.cell _).trans q4
                    have HQ3 := Lib.hid hq3
                    clear hq3
                    have IN := Lib.hid (IN2.out w3 HQ3.out)
                    go_wp2_with fail
                    refine IN.out.mono ?_
                    rintro e9 w4 ⟨rfl, hq4⟩
                    replace z0 := (hq4.cell _).trans z0
                    replace q0 := (hq4.cell _).trans q0
                    replace z1 := (hq4.cell _).trans z1
                    replace q1 := (hq4.cell _).trans q1
                    replace z2 := (hq4.cell _).trans z2
                    replace q2 := (hq4.cell _).trans q2
                    replace z3 := (hq4.cell _).trans z3
                    replace q3 := (hq4.cell _).trans q3
                    replace z4 := (hq4.cell _).trans z4
                    replace q4 := (hq4.cell _).trans q4
                    have HQ4 := Lib.hid (HQ3.out.trans hq4)
                    clear hq4
                    go_wp2
                    go_ret
                    exact ⟨ret_bool (by rw [PE.out]; simp [HM.out fun e => HEE.out (by simpa using congrArg List.length (FE.out.1 e).2.2.2.2)]), HW.out.trans ((HQ.out.trans ((BE.out.trans (Quiet.below HQ4.out)).mono HQ.out.size)).mono HW.out.size)⟩
                · have vd : decide (fn.locals = gn.locals) = false := by simpa using cd
                  have HD := Lib.hid cd
                  clear cd
                  go_wp2_with fail
                  refine IN1.out.mono ?_
                  rintro e9 w3 ⟨rfl, hq3⟩
                  replace z0 := (hq3.cell _).trans z0
                  replace q0 := (hq3.cell _).trans q0
                  replace z1 := (hq3.cell _).trans z1
                  replace q1 := (hq3.cell _).trans q1
                  replace z2 := (hq3.cell _).trans z2
                  replace q2 := (hq3.cell _).trans q2
                  replace z3 := (hq3.cell _).trans z3
                  replace q3 := (hq3.cell _).trans q3
                  replace z4 := (hq3.cell _).trans z4
                  replace q4 := (hq3.cell _).trans q4
                  have HQ3 := Lib.hid hq3
                  clear hq3
                  have IN := Lib.hid (IN2.out w3 HQ3.out)
                  go_wp2_with fail
                  refine IN.out.mono ?_
                  rintro e9 w4 ⟨rfl, hq4⟩
                  replace z0 := (hq4.cell _).trans z0
                  replace q0 := (hq4.cell _).trans q0
                  replace z1 := (hq4.cell _).trans z1
                  replace q1 := (hq4.cell _).trans q1
                  replace z2 := (hq4.cell _).trans z2
                  replace q2 := (hq4.cell _).trans q2
                  replace z3 := (hq4.cell _).trans z3
                  replace q3 := (hq4.cell _).trans q3
                  replace z4 := (hq4.cell _).trans z4
                  replace q4 := (hq4.cell _).trans q4
                  have HQ4 := Lib.hid (HQ3.out.trans hq4)
                  clear hq4
                  go_wp2
                  go_ret
                  exact ⟨ret_bool (by rw [PE.out]; simp [HM.out fun e => HD.out (FE.out.1 e).2.2.2.1]), HW.out.trans ((HQ.out.trans ((BE.out.trans (Quiet.below HQ4.out)).mono HQ.out.size)).mono HW.out.size)⟩
              · have vc : decide (fn.params = gn.params) = false := by simpa using cc
                have HC := Lib.hid cc
                clear cc
                go_wp2_with fail
                refine IN1.out.mono ?_
                rintro e9 w3 ⟨rfl, hq3⟩
                replace z0 := (hq3.cell _).trans z0
                replace q0 := (hq3.cell _).trans q0
                replace z1 := (hq3.cell _).trans z1
                replace q1 := (hq3.cell _).trans q1
                replace z2 := (hq3.cell _).trans z2
                replace q2 := (hq3.cell _).trans q2
                replace z3 := (hq3.cell _).trans z3
                replace q3 := (hq3.cell _).trans q3
                replace z4 := (hq3.cell _).trans z4
                replace q4 := (hq3.cell _).trans q4
                have HQ3 := Lib.hid hq3
                clear hq3
                go_wp2
                go_ret
                exact ⟨ret_bool (by rw [PE.out]; simp [HM.out fun e => HC.out (FE.out.1 e).2.1]), HW.out.trans ((HQ.out.trans ((BE.out.trans (Quiet.below HQ3.out)).mono HQ.out.size)).mono HW.out.size)⟩
            · have vb : (fn.result != gn.result) = true := by simpa using cb
              have HBB := Lib.hid cb
              clear cb
              go_wp2
              go_ret
              exact ⟨ret_bool (by rw [PE.out]; simp [HM.out fun e => HBB.out (FE.out.1 e).2.2.1]), HW.out.trans ((HQ.out.trans ((BE.out.trans (Below.refl _ _)).mono HQ.out.size)).mono HW.out.size)⟩
          · have va : (fn.name.toList == gn.name.toList) = false := by simpa using ca
            have HA := Lib.hid ca
            clear ca
            go_wp2
            go_ret
            exact ⟨ret_bool (by rw [PE.out]; simp [HM.out fun e => HA.out (FE.out.1 e).1]), HW.out.trans ((HQ.out.trans ((BE.out.trans (Below.refl _ _)).mono HQ.out.size)).mono HW.out.size)⟩
        · have hlt' : ¬ (k : Int) < (p.funcs.length : Int) := by omega
          go_wp2
          go_ret
          exact ⟨ret_bool (by rw [PE.out]; simp [HCL.out, map_eq_of HN.out fun i i1 i2 => HJ.out i i1 i2 (by omega)]), HW.out.trans (HQ.out.mono HW.out.size)⟩
    · have hne : ((p.funcs.length : Int) != (q.funcs.length : Int)) = true := by simp; omega
      have HM := Lib.hid (map_ne_len (f := funP) hn)
      clear hn
      go_wp2
      go_ret
      exact ⟨ret_bool (by rw [PE.out]; simp [HM.out]), HW.out⟩
  · have hcl' : decide (p.classes.map clsP = q.classes.map clsP) = false := by simpa using hcl
    have HCL := Lib.hid hcl
    clear hcl
    go_wp2
    go_ret
    exact ⟨ret_bool (by rw [PE.out]; simp [HCL.out]), HW.out⟩
end Go.Proofs.Ytffelcidckbohaa
