/- Texts of this seat, one behind the other: each says at its head what it holds. No condition of its own. -/
import Derived.Test.YtgcimjghkidoiaaGCodeCopies10
/- A program of one's own that is written over: what stays of it; what it reads as. No condition. -/
namespace Go.Proofs.Ytgcimjghkidoiaa
open Go.RowKit
set_option linter.unusedVariables false
/-- block g holds at least N cells that may be written, and those of H -/
def HdB (w : World) (g : Nat) (T : TypeId) (N : Nat) (H : Nat → Option Value) : Prop := ∃ cur, Blk w g cur T ∧ N ≤ cur.size ∧ ∀ j v, H j = some v → cur[j]? = some v
theorem HdB.set {w : World} {g : Nat} {T : TypeId} {N : Nat} {H : Nat → Option Value} (h : HdB w g T N H) (b j : Nat) (x : Value) (hj : b = g → H j = none) : HdB (w.setCell ⟨b, j, none⟩ x) g T N H := by
  obtain ⟨cur, h1, h2, h3⟩ := h
  by_cases e : b = g
  · subst e
    refine ⟨cur.setIfInBounds j x, h1.set j x, by simpa using h2, fun i v hv => ?_⟩
    have hne : j ≠ i := by
      rintro rfl
      rw [hj rfl] at hv
      cases hv
    rw [Array.getElem?_setIfInBounds_ne hne]
    exact h3 i v hv
  · exact ⟨cur, h1.other _ x (fun q => e q.symm), h2, h3⟩
theorem HdB.cell {w : World} {g : Nat} {T : TypeId} {N : Nat} {H : Nat → Option Value} (h : HdB w g T N H) {j : Nat} {v : Value} (hv : H j = some v) : w.cell? ⟨g, j, none⟩ = some v := by
  obtain ⟨cur, h1, h2, h3⟩ := h
  exact h1.val j (h3 j v hv)
theorem HdB.room {w : World} {g : Nat} {T : TypeId} {N : Nat} {H : Nat → Option Value} (h : HdB w g T N H) {j : Nat} (hj : j < N) : ∃ v, w.cell? ⟨g, j, none⟩ = some v := by
  obtain ⟨cur, h1, h2, h3⟩ := h
  exact ⟨cur[j]'(by omega), h1.val j (Array.getElem?_eq_getElem (by omega))⟩
theorem HdB.frozen {w : World} {g : Nat} {T : TypeId} {N : Nat} {H : Nat → Option Value} (h : HdB w g T N H) (j : Nat) : w.frozen? ⟨g, j, none⟩ = false := by
  obtain ⟨cur, h1, h2, h3⟩ := h
  exact h1.frozen j
theorem HdB.touch {R : Nat → Prop} {w w' : World} {g : Nat} {T : TypeId} {N : Nat} {H : Nat → Option Value} (h : HdB w g T N H) (hT : Touch R w w') (hr : ¬ R g) : HdB w' g T N H := by
  obtain ⟨cur, h1, h2, h3⟩ := h
  exact ⟨cur, h1.touch hT hr, h2, h3⟩
theorem hdb_of {w : World} {lo : Nat} {T : TypeId} {sz : Nat} {v : Value} {n : Nat} {xs : List Value} {g : Nat} (h : w.ownsRow lo T sz v n xs) (hg : v.ownBlock = some g) {H : Nat → Option Value} (hH : ∀ j u, H j = some u → xs[j]? = some u) : HdB w g T (n * sz) H := by
  rcases h.2 with ⟨h1, _⟩ | ⟨q, cap, cur, a1, a2, a3, a4, a5, a6, a7⟩
  · rw [h1] at hg; cases hg
  · rw [a1] at hg
    obtain rfl : q = g := Option.some.inj hg
    refine ⟨cur, a3, ?_, fun j u hu => ?_⟩
    · rw [a6]; exact Nat.mul_le_mul_right sz a4
    · have h1 := hH j u hu
      have h5 := (List.getElem?_eq_some_iff.1 h1).1
      rw [← a7, List.length_take] at h5
      rw [← a7, List.getElem?_take, if_pos (by omega)] at h1
      simpa using h1
def hdC (l : List (ClsD × Value)) (j : Nat) : Option Value := if j % 2 = 1 then (l[j / 2]?).map (·.2) else none
def hdU (l : List (FunD × Value × Value × Value)) (j : Nat) : Option Value := if j % 5 = 1 then (l[j / 5]?).map (·.2.1) else if j % 5 = 3 then (l[j / 5]?).map (·.2.2.1) else if j % 5 = 4 then (l[j / 5]?).map (·.2.2.2) else none
theorem hdC_in {l : List (ClsD × Value)} {j : Nat} {u : Value} (h : hdC l j = some u) : (l.flatMap clsC)[j]? = some u := by
  unfold hdC at h
  split at h
  next e =>
    cases hq : l[j / 2]? with
    | none => rw [hq] at h; cases h
    | some x =>
      rw [hq] at h
      obtain ⟨hi, hx⟩ := List.getElem?_eq_some_iff.1 hq
      have := flat_at clsC 2 (fun _ => rfl) l (j / 2) 1 hi (by decide)
      rw [show j / 2 * 2 + 1 = j by omega, hx] at this
      rw [this]
      simpa [clsC] using h
  next e => cases h
theorem hdU_in {l : List (FunD × Value × Value × Value)} {j : Nat} {u : Value} (h : hdU l j = some u) : (l.flatMap funC)[j]? = some u := by
  unfold hdU at h
  cases hq : l[j / 5]? with
  | none => rw [hq] at h; split at h <;> first | cases h | (split at h <;> first | cases h | (split at h <;> cases h))
  | some x =>
    rw [hq] at h
    obtain ⟨hi, hx⟩ := List.getElem?_eq_some_iff.1 hq
    have hf := fun q hq => flat_at funC 5 (fun _ => rfl) l (j / 5) q hi hq
    rw [hx] at hf
    split at h
    next e => have := hf 1 (by decide); rw [show j / 5 * 5 + 1 = j by omega] at this; rw [this]; simpa [funC] using h
    next _ =>
      split at h
      next e => have := hf 3 (by decide); rw [show j / 5 * 5 + 3 = j by omega] at this; rw [this]; simpa [funC] using h
      next _ =>
        split at h
        next e => have := hf 4 (by decide); rw [show j / 5 * 5 + 4 = j by omega] at this; rw [this]; simpa [funC] using h
        next _ => cases h
theorem hdC_at {l : List (ClsD × Value)} {i : Nat} (hi : i < l.length) : hdC l (i * 2 + 1) = some (l[i].2) := by
  unfold hdC
  rw [if_pos (by omega), show (i * 2 + 1) / 2 = i by omega, List.getElem?_eq_getElem hi]
  rfl
theorem hdC_no {l : List (ClsD × Value)} {i : Nat} : hdC l (i * 2) = none := by unfold hdC; rw [if_neg (by omega)]
theorem hdU_no {l : List (FunD × Value × Value × Value)} {i : Nat} : hdU l (i * 5) = none := by unfold hdU; rw [if_neg (by omega), if_neg (by omega), if_neg (by omega)]
theorem hdU_at1 {l : List (FunD × Value × Value × Value)} {i : Nat} (hi : i < l.length) : hdU l (i * 5 + 1) = some (l[i].2.1) := by
  unfold hdU
  rw [if_pos (by omega), show (i * 5 + 1) / 5 = i by omega, List.getElem?_eq_getElem hi]
  rfl
theorem hdU_at3 {l : List (FunD × Value × Value × Value)} {i : Nat} (hi : i < l.length) : hdU l (i * 5 + 3) = some (l[i].2.2.1) := by
  unfold hdU
  rw [if_neg (by omega), if_pos (by omega), show (i * 5 + 3) / 5 = i by omega, List.getElem?_eq_getElem hi]
  rfl
theorem hdU_at4 {l : List (FunD × Value × Value × Value)} {i : Nat} (hi : i < l.length) : hdU l (i * 5 + 4) = some (l[i].2.2.2) := by
  unfold hdU
  rw [if_neg (by omega), if_neg (by omega), if_pos (by omega), show (i * 5 + 4) / 5 = i by omega, List.getElem?_eq_getElem hi]
  rfl
/-- an inner row: its block is none of the two that hold the headers, and may be written -/
def InB (w : World) (lo hi : Nat) (q0 q1 u : Value) (T : TypeId) (N : Nat) : Prop := ∀ g, u.ownBlock = some g → lo ≤ g ∧ g < hi ∧ q0.ownBlock ≠ some g ∧ q1.ownBlock ≠ some g ∧ HdB w g T N (fun _ => none)
theorem InB.set {w : World} {lo hi : Nat} {q0 q1 u : Value} {T : TypeId} {N : Nat} (h : InB w lo hi q0 q1 u T N) (b j : Nat) (x : Value) : InB (w.setCell ⟨b, j, none⟩ x) lo hi q0 q1 u T N :=
  fun g hg => ⟨(h g hg).1, (h g hg).2.1, (h g hg).2.2.1, (h g hg).2.2.2.1, (h g hg).2.2.2.2.set b j x fun _ => rfl⟩
theorem InB.touch {R : Nat → Prop} {w w' : World} {lo hi : Nat} {q0 q1 u : Value} {T : TypeId} {N : Nat} (h : InB w lo hi q0 q1 u T N) (hT : Touch R w w') (hr : ∀ g, lo ≤ g → g < hi → ¬ R g) : InB w' lo hi q0 q1 u T N :=
  fun g hg => ⟨(h g hg).1, (h g hg).2.1, (h g hg).2.2.1, (h g hg).2.2.2.1, (h g hg).2.2.2.2.touch hT (hr g (h g hg).1 (h g hg).2.1)⟩
structure QS (w : World) (lo hi : Nat) (q0 q1 : Value) (lc : List (ClsD × Value)) (lf : List (FunD × Value × Value × Value)) : Prop where
  r0 : ∀ g, q0.ownBlock = some g → lo ≤ g ∧ g < hi ∧ HdB w g 43 (lc.length * 2) (hdC lc)
  r1 : ∀ g, q1.ownBlock = some g → lo ≤ g ∧ g < hi ∧ q0.ownBlock ≠ some g ∧ HdB w g 49 (lf.length * 5) (hdU lf)
  i0 : ∀ i (h : i < lc.length), InB w lo hi q0 q1 lc[i].2 45 (lc[i].1.fields.length * 2)
  i1 : ∀ i (h : i < lf.length), InB w lo hi q0 q1 lf[i].2.1 3 (lf[i].1.params.length * 1)
  i3 : ∀ i (h : i < lf.length), InB w lo hi q0 q1 lf[i].2.2.1 3 (lf[i].1.locals.length * 1)
  i4 : ∀ i (h : i < lf.length), InB w lo hi q0 q1 lf[i].2.2.2 51 (lf[i].1.code.length * 3)
theorem QS.set {w : World} {lo hi : Nat} {q0 q1 : Value} {lc : List (ClsD × Value)} {lf : List (FunD × Value × Value × Value)} (h : QS w lo hi q0 q1 lc lf) (b j : Nat) (x : Value) (h0 : q0.ownBlock = some b → hdC lc j = none) (h1 : q1.ownBlock = some b → hdU lf j = none) : QS (w.setCell ⟨b, j, none⟩ x) lo hi q0 q1 lc lf :=
  ⟨fun g hg => ⟨(h.r0 g hg).1, (h.r0 g hg).2.1, (h.r0 g hg).2.2.set b j x fun e => h0 (e ▸ hg)⟩, fun g hg => ⟨(h.r1 g hg).1, (h.r1 g hg).2.1, (h.r1 g hg).2.2.1, (h.r1 g hg).2.2.2.set b j x fun e => h1 (e ▸ hg)⟩,
    fun i hi => (h.i0 i hi).set b j x, fun i hi => (h.i1 i hi).set b j x, fun i hi => (h.i3 i hi).set b j x, fun i hi => (h.i4 i hi).set b j x⟩
theorem QS.touch {R : Nat → Prop} {w w' : World} {lo hi : Nat} {q0 q1 : Value} {lc : List (ClsD × Value)} {lf : List (FunD × Value × Value × Value)} (h : QS w lo hi q0 q1 lc lf) (hT : Touch R w w') (hr : ∀ g, lo ≤ g → g < hi → ¬ R g) : QS w' lo hi q0 q1 lc lf :=
  ⟨fun g hg => ⟨(h.r0 g hg).1, (h.r0 g hg).2.1, (h.r0 g hg).2.2.touch hT (hr g (h.r0 g hg).1 (h.r0 g hg).2.1)⟩, fun g hg => ⟨(h.r1 g hg).1, (h.r1 g hg).2.1, (h.r1 g hg).2.2.1, (h.r1 g hg).2.2.2.touch hT (hr g (h.r1 g hg).1 (h.r1 g hg).2.1)⟩,
    fun i hi => (h.i0 i hi).touch hT hr, fun i hi => (h.i1 i hi).touch hT hr, fun i hi => (h.i3 i hi).touch hT hr, fun i hi => (h.i4 i hi).touch hT hr⟩
theorem qs_of {w : World} {lo s1 : Nat} {q0 q1 : Value} {lc : List (ClsD × Value)} {lf : List (FunD × Value × Value × Value)} (hC : COwn w lo q0 lc) (hU : UOwn w s1 q1 lf) (hs : lo ≤ s1) (h0 : ∀ g, q0.ownBlock = some g → g < s1) (h1 : ∀ x ∈ lc, ∀ g, x.2.ownBlock = some g → g < s1) : QS w lo w.heap.size q0 q1 lc lf := by
  have n1 : ∀ g, q1.ownBlock = some g → s1 ≤ g := fun g hg => (own_ltG hU.row hg).1
  refine ⟨fun g hg => ⟨(own_ltG hC.row hg).1, (own_ltG hC.row hg).2, hdb_of hC.row hg fun j u hu => hdC_in hu⟩, fun g hg => ⟨by have := n1 g hg; omega, (own_ltG hU.row hg).2, fun e => by have := h0 g e; have := n1 g hg; omega, hdb_of hU.row hg fun j u hu => hdU_in hu⟩, fun i hi g hg => ?_, fun i hi g hg => ?_, fun i hi g hg => ?_, fun i hi g hg => ?_⟩
  · have hm := List.getElem_mem hi
    have hq := own_ltG (hC.inner _ hm) hg
    exact ⟨hq.1, hq.2, hC.apart _ hm g hg, fun e => by have := h1 _ hm g hg; have := n1 g e; omega, hdb_of (hC.inner _ hm) hg fun j u hu => by cases hu⟩
  · have hm := List.getElem_mem hi
    have hq := own_ltG (hU.inner1 _ hm) hg
    exact ⟨by omega, hq.2, fun e => by have := h0 g e; omega, hU.apart1 _ hm g hg, hdb_of (hU.inner1 _ hm) hg fun j u hu => by cases hu⟩
  · have hm := List.getElem_mem hi
    have hq := own_ltG (hU.inner3 _ hm) hg
    exact ⟨by omega, hq.2, fun e => by have := h0 g e; omega, hU.apart3 _ hm g hg, hdb_of (hU.inner3 _ hm) hg fun j u hu => by cases hu⟩
  · have hm := List.getElem_mem hi
    have hq := own_ltG (hU.inner4 _ hm) hg
    exact ⟨by omega, hq.2, fun e => by have := h0 g e; omega, hU.apart4 _ hm g hg, hdb_of (hU.inner4 _ hm) hg fun j u hu => by cases hu⟩
/-- numbers that are in their kind -/
def OkP (p : PrgD) : Prop := (∀ c ∈ p.classes, ∀ f ∈ c.fields, I64 f.ty) ∧ ∀ f ∈ p.funcs, I64 f.result ∧ (∀ x ∈ f.params, I64 x) ∧ (∀ x ∈ f.locals, I64 x) ∧ ∀ x ∈ f.code, I64 x.op ∧ I64 x.a ∧ I64 x.b
theorem rd_mem {α : Type} {sz B : Nat} {el : World → Nat → Nat → α → Prop} {w : World} {v : Value} {l : List α} (h : RdRow sz el B w v l) {x : α} (hx : x ∈ l) : ∃ b k, el w b k x := by
  obtain ⟨a, c, h1, h2, h3⟩ := h
  obtain ⟨i, hi, rfl⟩ := List.getElem_of_mem hx
  obtain ⟨b, o, _, _, e⟩ := h3 i hi
  exact ⟨b, _, e⟩
theorem okP_of {B : Nat} {w : World} {v0 v1 : Value} {p : PrgD} (h : RdPrg B w v0 v1 p) : OkP p := by
  refine ⟨fun c hc f hf => ?_, fun f hf => ?_⟩
  · obtain ⟨_, _, _, v, _, r⟩ := rd_mem h.1 hc
    obtain ⟨_, _, _, _, q⟩ := rd_mem r hf
    exact q
  · obtain ⟨_, _, _, ⟨_, _, r1⟩, ⟨_, r2⟩, ⟨_, _, r3⟩, _, _, r4⟩ := rd_mem h.2 hf
    refine ⟨r2, fun x hx => ?_, fun x hx => ?_, fun x hx => ?_⟩
    · obtain ⟨_, _, _, q⟩ := rd_mem r1 hx; exact q
    · obtain ⟨_, _, _, q⟩ := rd_mem r3 hx; exact q
    · obtain ⟨_, _, _, _, _, q⟩ := rd_mem r4 hx; exact q
theorem RdRow.map {α β : Type} {sz B : Nat} {el : World → Nat → Nat → β → Prop} {f : α → β} {w : World} {v : Value} {l : List α} (h : RdRow sz (fun w b k x => el w b k (f x)) B w v l) : RdRow sz el B w v (l.map f) := by
  obtain ⟨a, c, h1, h2, h3⟩ := h
  refine ⟨a, c, by rw [List.length_map]; exact h1, by rw [List.length_map]; exact h2, fun i hi => ?_⟩
  obtain ⟨b, o, e1, e2, e3⟩ := h3 i (by simpa using hi)
  exact ⟨b, o, e1, e2, by simpa using e3⟩
theorem prg_own {w : World} {lo s1 : Nat} {u0 u1 : Value} {lc : List (ClsD × Value)} {lf : List (FunD × Value × Value × Value)} {p : PrgD} (hC : COwn w lo u0 lc) (hU : UOwn w s1 u1 lf) (hc : lc.map (·.1) = p.classes) (hf : lf.map (·.1) = p.funcs) (hI : OkP p) : RdPrg w.heap.size w u0 u1 p := by
  refine ⟨?_, ?_⟩
  · rw [← hc]
    refine RdRow.map (own_rd (f := clsC) (by decide) (fun _ => rfl) hC.row (Nat.le_refl _) fun g k x hx hj => ?_)
    have hx' : x.1 ∈ p.classes := by rw [← hc]; exact List.mem_map.2 ⟨x, hx, rfl⟩
    exact ⟨hj 0 _ rfl, x.2, hj 1 _ rfl, own_rd (f := fldC) (by decide) (fun _ => rfl) (hC.inner x hx) (Nat.le_refl _) fun g k y hy hq => ⟨hq 0 _ rfl, hq 1 _ rfl, hI.1 _ hx' y hy⟩⟩
  · rw [← hf]
    refine RdRow.map (own_rd (f := funC) (by decide) (fun _ => rfl) hU.row (Nat.le_refl _) fun g k x hx hj => ?_)
    have hx' : x.1 ∈ p.funcs := by rw [← hf]; exact List.mem_map.2 ⟨x, hx, rfl⟩
    obtain ⟨o1, o2, o3, o4⟩ := hI.2 _ hx'
    exact ⟨hj 0 _ rfl, ⟨x.2.1, hj 1 _ rfl, own_rd (f := intC) (by decide) (fun _ => rfl) (hU.inner1 x hx) (Nat.le_refl _) fun g k y hy hq => ⟨hq 0 _ rfl, o2 y hy⟩⟩, ⟨hj 2 _ rfl, o1⟩,
      ⟨x.2.2.1, hj 3 _ rfl, own_rd (f := intC) (by decide) (fun _ => rfl) (hU.inner3 x hx) (Nat.le_refl _) fun g k y hy hq => ⟨hq 0 _ rfl, o3 y hy⟩⟩,
      x.2.2.2, hj 4 _ rfl, own_rd (f := insC) (by decide) (fun _ => rfl) (hU.inner4 x hx) (Nat.le_refl _) fun g k y hy hq => ⟨hq 0 _ rfl, hq 1 _ rfl, hq 2 _ rfl, o4 y hy⟩⟩
end Go.Proofs.Ytgcimjghkidoiaa
/- The law CodeCopies. Condition: the argument reads as a program, its texts are within the form's reach. -/
namespace Go.Proofs.Ytgcimjghkidoiaa
open Go.RowKit
set_option linter.unusedVariables false
theorem fields_ofR {H : Type} {enc : TypeId × Value → H} {P : Program} {w : World} {base : Nat} {spare : Nat → Bool} {held : Bool} {t : TypeId} {fs : Array Field} {fuel : Nat} {cs : List Value} {x : DataW H × List MemPlace} (hs : P.underlying t = some (.struct fs)) (h : DataW.trod enc P w base spare held fuel t cs = some x) (hr : Rch P t x.1) :
    ∃ n, ∀ (i : Nat) (f : Field), fs[i]? = some f → ∃ y, DataW.trod enc P w base spare held n f.type ((cs.drop f.offset).take (P.cellsOf f.type)) = some y ∧ Rch P f.type y.1 := by
  obtain ⟨xs, n, _, hx, _, hlen, hg⟩ := DataW.trod_struct hs h
  refine ⟨n, fun i f hi => ?_⟩
  have hlt : i < xs.length := by rw [hlen]; exact (Array.getElem?_eq_some_iff.1 hi).1
  have hq : xs[i]? = some (xs[i]'hlt) := List.getElem?_eq_getElem hlt
  refine ⟨xs[i], by rw [hg i f hi, hq], ?_⟩
  rw [hx] at hr
  exact Rch.part hs hr hi (by simp [hq])
theorem row_some {w : World} {b : Nat} {e : TypeId} {size : Nat} {v : Value} {n : Nat} {xs : List Value} (h : w.ownsRow b e size v n xs) : ∃ a c, v = .slice a n c ∧ (0 < n → ∃ g, a = some ⟨g, 0, none⟩) := by
  obtain ⟨a, c, hv⟩ := row_shape h
  refine ⟨a, c, hv, fun hn => ?_⟩
  obtain ⟨g, cap, e, _⟩ := own_cellG h hn
  rw [hv] at e
  injection e with e1
  exact ⟨g, e1⟩
set_option maxRecDepth 100000 in
set_option maxHeartbeats 16000000 in
theorem ccopies_law (p : PrgD) (u0 u1 : Value) (w : World) (h : RdPrg w.heap.size w u0 u1 p) (hs : SzPrg p) :
    Calls Try.prog 5 #[.agg #[u0, u1]] w fun e w' => e = .returned (.bool true) ∧ Below w.heap.size w w' := by
  obtain ⟨a0, c0, rfl⟩ := rd_shape h.1
  obtain ⟨a1, c1, rfl⟩ := rd_shape h.2
  have k1_0 : Blk (w.alloc (.cells #[.slice a0 p.classes.length c0, .slice a1 p.funcs.length c1] 27)) w.heap.size #[.slice a0 p.classes.length c0, .slice a1 p.funcs.length c1] 27 := Blk.new _ _ _
  have hb0 : Below w.heap.size w (w.alloc (.cells #[.slice a0 p.classes.length c0, .slice a1 p.funcs.length c1] 27)) := (Below.refl _ _).alloc (Nat.le_refl _) _
  have RP := Lib.hid (fun W (hb : Below w.heap.size w W) => h.keep hb)
  have OK := Lib.hid (okP_of h)
  have SZ := Lib.hid hs
  have B0 := Lib.hid hb0
  have K1_0 := Lib.hid k1_0
  clear h hs hb0 k1_0
  go_enter Try.func5, Try.ntmps5
  go_wp2_with fail
  refine (coded_any _).mono ?_
  rintro e w1 ⟨rfl, hb1⟩
  have B1 := Lib.hid (B0.out.trans (hb1.mono B0.out.size))
  have K1_1 := Lib.hid (K1_0.out.grew hb1)
  clear hb1
  have x0 := K1_1.out.val 0 rfl
  have x1 := K1_1.out.val 1 rfl
  go_wp2_with fail
  refine (lightp_any p _ _ _ w.heap.size B1.out.size (RP.out _ B1.out)).mono ?_
  rintro e w2 ⟨lp, rfl, hb2, hlp⟩
  have B2 := Lib.hid (B1.out.trans (hb2.mono B1.out.size))
  have K1_2 := Lib.hid (K1_1.out.grew hb2)
  clear hb2 x0 x1
  have x0 := K1_2.out.val 0 rfl
  have x1 := K1_2.out.val 1 rfl
  cases lp with
  | false =>
    clear hlp
    go_wp2_with fail
    refine (coded_any _).mono ?_
    rintro e w3 ⟨rfl, hb3⟩
    have B3 := Lib.hid (B2.out.trans (hb3.mono B2.out.size))
    clear hb3
    go_wp2
    go_ret
    exact ⟨rfl, B3.out⟩
  | true =>
    have LP := Lib.hid (hlp rfl)
    clear hlp
    go_wp2_with fail
    refine (copy_any _ w.heap.size p _ _ (RP.out _ B2.out) B2.out.size SZ.out LP.out).mono ?_
    rintro e w3 ⟨q0, q1, lc, lf, s1, rfl, hC, hc, hU, hf, hs1, hg0, hg1, hb3⟩
    obtain ⟨qa, qc, hq0⟩ := row_shape hC.row
    obtain ⟨qb, qd, hq1⟩ := row_shape hU.row
    subst hq0 hq1
    have HQ := Lib.hid (prg_own hC hU hc hf OK.out)
    have HS := Lib.hid (qs_of hC hU hs1 hg0 hg1)
    have HL := Lib.hid (And.intro hc hf)
    have HGlc : Hid (0 < lc.length → ∃ g, qa = some ⟨g, 0, none⟩) := fun h => by
      obtain ⟨g, cap, e, _⟩ := own_cellG hC.row h
      injection e with e1
      exact ⟨g, e1⟩
    have HGlf : Hid (0 < lf.length → ∃ g, qb = some ⟨g, 0, none⟩) := fun h => by
      obtain ⟨g, cap, e, _⟩ := own_cellG hU.row h
      injection e with e1
      exact ⟨g, e1⟩
    have Hi0 : Hid (∀ i (h : i < lc.length), ∃ a c, lc[i].2 = .slice a lc[i].1.fields.length c ∧ (0 < lc[i].1.fields.length → ∃ b, a = some ⟨b, 0, none⟩)) := fun i h => row_some (hC.inner _ (List.getElem_mem h))
    have Hi1 : Hid (∀ i (h : i < lf.length), ∃ a c, lf[i].2.1 = .slice a lf[i].1.params.length c ∧ (0 < lf[i].1.params.length → ∃ b, a = some ⟨b, 0, none⟩)) := fun i h => row_some (hU.inner1 _ (List.getElem_mem h))
    have Hi3 : Hid (∀ i (h : i < lf.length), ∃ a c, lf[i].2.2.1 = .slice a lf[i].1.locals.length c ∧ (0 < lf[i].1.locals.length → ∃ b, a = some ⟨b, 0, none⟩)) := fun i h => row_some (hU.inner3 _ (List.getElem_mem h))
    have Hi4 : Hid (∀ i (h : i < lf.length), ∃ a c, lf[i].2.2.2 = .slice a lf[i].1.code.length c ∧ (0 < lf[i].1.code.length → ∃ b, a = some ⟨b, 0, none⟩)) := fun i h => row_some (hU.inner4 _ (List.getElem_mem h))
    have hcm : ∀ i (h : i < lc.length), lc[i].1 ∈ p.classes := fun i h => by rw [← hc]; exact List.mem_map.2 ⟨_, List.getElem_mem h, rfl⟩
    have hfm : ∀ i (h : i < lf.length), lf[i].1 ∈ p.funcs := fun i h => by rw [← hf]; exact List.mem_map.2 ⟨_, List.getElem_mem h, rfl⟩
    have Mi0 : Hid (∀ i (h : i < lc.length), lc[i].1.fields.length ≤ 1000) := fun i h => by have := LP.out.2.2.1 _ (hcm i h); omega
    have Mi1 : Hid (∀ i (h : i < lf.length), lf[i].1.params.length ≤ 1000) := fun i h => by have := LP.out.2.2.2 _ (hfm i h); omega
    have Mi3 : Hid (∀ i (h : i < lf.length), lf[i].1.locals.length ≤ 1000) := fun i h => by have := LP.out.2.2.2 _ (hfm i h); omega
    have Mi4 : Hid (∀ i (h : i < lf.length), lf[i].1.code.length ≤ 1000) := fun i h => by have := LP.out.2.2.2 _ (hfm i h); omega
    have HNlc : Hid (lc.length ≤ 1000) := by have h1 := congrArg List.length hc; rw [List.length_map] at h1; have := LP.out.1; unfold Hid; omega
    have HNlf : Hid (lf.length ≤ 1000) := by have h1 := congrArg List.length hf; rw [List.length_map] at h1; have := LP.out.2.1; unfold Hid; omega
    clear hcm hfm
    have B3 := Lib.hid (B2.out.trans (hb3.mono B2.out.size))
    have l3 := hb3.size
    have K1_3 := Lib.hid (K1_2.out.grew hb3)
    have hbq := (Below.refl w3.heap.size w3).alloc (Nat.le_refl _) (.cells #[.slice qa lc.length qc, .slice qb lf.length qd] 27)
    have KQ := Lib.hid (Blk.new w3 #[.slice qa lc.length qc, .slice qb lf.length qd] 27)
    have HQ2 := Lib.hid (HQ.out.keep hbq)
    have HBQ := Lib.hid hbq
    clear x0 x1 hC hU hc hf hs1 hg0 hg1 hb3 hbq
    have x0 := KQ.out.val 0 rfl
    have x1 := KQ.out.val 1 rfl
    go_wp2_with fail
    refine (copy_any _ w3.heap.size p _ _ HQ2.out HBQ.out.size SZ.out LP.out).mono ?_
    rintro e w4 ⟨r0, r1, ld, lg, s2, rfl, hD, hd, hV, hg, hs2, _, _, hb4⟩
    obtain ⟨ra, rc, hr0⟩ := row_shape hD.row
    obtain ⟨rb, rd, hr1⟩ := row_shape hV.row
    subst hr0 hr1
    have hbr := (Below.refl w4.heap.size w4).alloc (Nat.le_refl _) (.cells #[.slice ra ld.length rc, .slice rb lg.length rd] 27)
    have KR := Lib.hid (Blk.new w4 #[.slice ra ld.length rc, .slice rb lg.length rd] 27)
    have hb3q := HBQ.out.trans (hb4.mono HBQ.out.size)
    have hb3r := hb3q.trans (hbr.mono hb3q.size)
    have B5 := Lib.hid (B3.out.trans (hb3r.mono B3.out.size))
    have KQ5 := Lib.hid ((KQ.out.grew hb4).grew hbr)
    have K1_5 := Lib.hid (K1_3.out.grew hb3r)
    have HQ5 := Lib.hid ((HQ.out.keep hb3r).mono hb3r.size)
    have HP5 := Lib.hid ((RP.out _ B5.out).mono B5.out.size)
    have HS5 := Lib.hid (HS.out.touch (Touch.of (R := fun _ => False) hb3r) (fun _ _ _ h => h))
    have HD5 := Lib.hid (hD.grew hbr)
    have HV5 := Lib.hid (hV.grew hbr)
    have HL2 := Lib.hid (And.intro hd hg)
    have HS2 := Lib.hid hs2
    have hQl : w3.heap.size < w4.heap.size := Nat.lt_of_lt_of_le KQ.out.lt hb4.size
    have hlw : w.heap.size < w2.heap.size := K1_2.out.lt
    clear x0 x1 hD hV hd hg hs2 hb4 hbr hb3q hb3r
    have x0 := K1_5.out.val 0 rfl
    have x1 := K1_5.out.val 1 rfl
    have y0 := KQ5.out.val 0 rfl
    have y1 := KQ5.out.val 1 rfl
    go_wp2_with fail
    refine (rsame_any _ _ _ _ _ _ p p (Nat.le_refl _) HP5.out (HQ5.out)).mono ?_
    rintro e w6 ⟨rfl, hb6⟩
    have hd1 : decide (prgP p = prgP p) = true := by simp
    have KQ6 := Lib.hid (KQ5.out.grew hb6)
    have KP6 := Lib.hid (K1_5.out.grew hb6)
    have KR6 := Lib.hid (KR.out.grew hb6)
    have HQS6 := Lib.hid (HS5.out.touch (Touch.of (R := fun _ => False) hb6) (fun _ _ _ h => h))
    have HD := Lib.hid (HD5.out.grew hb6)
    have HV := Lib.hid (HV5.out.grew hb6)
    have B6 := Lib.hid (B5.out.trans (hb6.mono B5.out.size))
    have HRB := Lib.hid (Nat.le_of_lt hQl)
    have hsq : (w3.alloc (.cells #[.slice qa lc.length qc, .slice qb lf.length qd] 27)).heap.size = w3.heap.size + 1 := by simp
    rw [hsq] at HD HS2
    clear hb6 x0 x1 y0 y1 hsq hQl KQ KQ5 KR HQ HQ2 HBQ HS HS5 HD5 HV5 HQ5 HP5 K1_5 B5 B3 K1_3
    rw [hd1]
    clear hd1
    have x0 := KQ6.out.val 0 rfl
    go_wp2
    clear x0
    generalize w3.heap.size = hi at *
    generalize w2.heap.size = lo at *
    go_loopw [5] (fun x wr => ∃ i : Nat, i ≤ lc.length ∧ x = .int .i64 i ∧ QS wr lo hi (.slice qa lc.length qc) (.slice qb lf.length qd) lc lf ∧ Touch (fun b => lo ≤ b ∧ b < hi) w6 wr) (fun x _ => lc.length - (intOf x).toNat)
    case atStart => exact ⟨0, Nat.zero_le _, rfl, HQS6.out, Touch.refl _ _⟩
    case round =>
      obtain ⟨i, hil, rfl, hQ, hT⟩ := hrel
      have hn1 := HNlc.out
      by_cases hlt : i < lc.length
      · have hlt' : (i : Int) < (lc.length : Int) := by omega
        have i1 : (0 : Int) ≤ (i : Int) ∧ (i : Int) < (lc.length : Int) := ⟨by omega, by omega⟩
        have i2 : 0 < lc.length := by omega
        obtain ⟨g, hga⟩ := HGlc.out i2
        have HQ' := Lib.hid hQ
        have HT' := Lib.hid hT
        clear hQ hT
        obtain ⟨a0, c0, hv0, hb0⟩ := Hi0.out i hlt
        have HI0 : Hid (∀ W, QS W lo hi (.slice qa lc.length qc) (.slice qb lf.length qd) lc lf → InB W lo hi (.slice qa lc.length qc) (.slice qb lf.length qd) (.slice a0 lc[i].1.fields.length c0) 45 (lc[i].1.fields.length * 2)) := fun W h => hv0 ▸ h.i0 i hlt
        have hm0 := Mi0.out i hlt
        have HH : Hid (∀ W, QS W lo hi (.slice qa lc.length qc) (.slice qb lf.length qd) lc lf → W.cell? ⟨g, i * 2 + 1, none⟩ = some (.slice a0 lc[i].1.fields.length c0) ∧ (∃ v, W.cell? ⟨g, i * 2, none⟩ = some v) ∧ W.frozen? ⟨g, i * 2, none⟩ = false ∧ lo ≤ g ∧ g < hi) := fun W h => by
          have r := h.r0 g (by rw [hga]; rfl)
          exact ⟨(r.2.2.cell (hdC_at hlt)).trans (congrArg some hv0), r.2.2.room (by omega), r.2.2.frozen _, r.1, r.2.1⟩
        generalize lc[i].1.fields.length = m0 at *
        clear hv0
        have HGA := Lib.hid hga
        have x0 := (KQ6.out.touch HT'.out (fun r => by omega)).val 0 rfl
        rw [HGA.out] at x0
        clear hga
        go_wp2
        clear x0
        go_loopw [6] (fun x wr2 => ∃ k : Nat, k ≤ m0 ∧ x = .int .i64 k ∧ QS wr2 lo hi (.slice qa lc.length qc) (.slice qb lf.length qd) lc lf ∧ Touch (fun b => lo ≤ b ∧ b < hi) w6 wr2) (fun x _ => m0 - (intOf x).toNat)
        case atStart => exact ⟨0, Nat.zero_le _, rfl, HQ'.out, HT'.out⟩
        case round =>
          obtain ⟨k, hk, rfl, hQ2, hT2⟩ := hrel
          have x0 := (KQ6.out.touch hT2 (fun r => by omega)).val 0 rfl
          rw [HGA.out] at x0
          obtain ⟨h0, hr, hf, hlo, hhi⟩ := HH.out _ hQ2
          obtain ⟨vr, hr⟩ := hr
          have HQ2 := Lib.hid hQ2
          have HT2 := Lib.hid hT2
          by_cases hkt : k < m0
          · have hkt' : (k : Int) < (m0 : Int) := by omega
            have k1 : (0 : Int) ≤ (k : Int) ∧ (k : Int) < (m0 : Int) := ⟨by omega, by omega⟩
            have k2 : 0 < m0 := by omega
            obtain ⟨b, rfl⟩ := hb0 k2
            have ib := HI0.out _ hQ2 b rfl
            obtain ⟨z0, hz0⟩ := ib.2.2.2.2.room (j := k * 2) (by omega)
            have f0 := ib.2.2.2.2.frozen (k * 2)
            obtain ⟨z1, hz1⟩ := ib.2.2.2.2.room (j := k * 2 + 1) (by omega)
            have f1 := ib.2.2.2.2.frozen (k * 2 + 1)
            have IB := Lib.hid (And.intro ib.1 (And.intro ib.2.1 (And.intro ib.2.2.1 ib.2.2.2.1)))
            clear ib hQ2 hT2
            go_wp2
            go_roundw
            case rel => exact ⟨k + 1, by omega, by go_num, ((HQ2.out.set b (k * 2) (.string ⟨#[]⟩) (fun r => absurd r IB.out.2.2.1) (fun r => absurd r IB.out.2.2.2)).set b (k * 2 + 1) (.int .i64 0) (fun r => absurd r IB.out.2.2.1) (fun r => absurd r IB.out.2.2.2)), ((HT2.out.setCell (p := ⟨b, k * 2, none⟩) ⟨IB.out.1, IB.out.2.1⟩ (.string ⟨#[]⟩)).setCell (p := ⟨b, k * 2 + 1, none⟩) ⟨IB.out.1, IB.out.2.1⟩ (.int .i64 0))⟩
            case measure => simp [intOf]; omega
          · have hkt' : ¬ (k : Int) < (m0 : Int) := by omega
            clear hQ2 hT2
            go_wp2
            go_roundw
            case rel => exact ⟨i + 1, by omega, by go_num, HQ2.out.set g (i * 2) (.string ⟨#[33]⟩) (fun _ => hdC_no) (fun r => absurd (congrArg Value.ownBlock (congrArg (fun z => Value.slice z lc.length qc) HGA.out)) (HQ2.out.r1 g r).2.2.1), HT2.out.setCell (p := ⟨g, i * 2, none⟩) ⟨hlo, hhi⟩ (.string ⟨#[33]⟩)⟩
            case measure => simp [intOf]; omega
      · have hlt' : ¬ (i : Int) < (lc.length : Int) := by omega
        have x0 := (KQ6.out.touch hT (fun r => by omega)).val 0 rfl
        have HQ' := Lib.hid hQ
        have HT' := Lib.hid hT
        clear hQ hT
        go_wp2
        clear x0 hlt hlt' hil
        go_loopw [7] (fun x wr => ∃ i : Nat, i ≤ lf.length ∧ x = .int .i64 i ∧ QS wr lo hi (.slice qa lc.length qc) (.slice qb lf.length qd) lc lf ∧ Touch (fun b => lo ≤ b ∧ b < hi) w6 wr) (fun x _ => lf.length - (intOf x).toNat)
        case atStart => exact ⟨0, Nat.zero_le _, rfl, HQ'.out, HT'.out⟩
        case round =>
          obtain ⟨i, hil, rfl, hQ, hT⟩ := hrel
          have hn1 := HNlf.out
          by_cases hlt : i < lf.length
          · have hlt' : (i : Int) < (lf.length : Int) := by omega
            have i1 : (0 : Int) ≤ (i : Int) ∧ (i : Int) < (lf.length : Int) := ⟨by omega, by omega⟩
            have i2 : 0 < lf.length := by omega
            obtain ⟨g, hga⟩ := HGlf.out i2
            have HQ' := Lib.hid hQ
            have HT' := Lib.hid hT
            clear hQ hT
            obtain ⟨a0, c0, hv0, hb0⟩ := Hi4.out i hlt
            have HI0 : Hid (∀ W, QS W lo hi (.slice qa lc.length qc) (.slice qb lf.length qd) lc lf → InB W lo hi (.slice qa lc.length qc) (.slice qb lf.length qd) (.slice a0 lf[i].1.code.length c0) 51 (lf[i].1.code.length * 3)) := fun W h => hv0 ▸ h.i4 i hlt
            have hm0 := Mi4.out i hlt
            obtain ⟨a1, c1, hv1, hb1⟩ := Hi1.out i hlt
            have HI1 : Hid (∀ W, QS W lo hi (.slice qa lc.length qc) (.slice qb lf.length qd) lc lf → InB W lo hi (.slice qa lc.length qc) (.slice qb lf.length qd) (.slice a1 lf[i].1.params.length c1) 3 (lf[i].1.params.length * 1)) := fun W h => hv1 ▸ h.i1 i hlt
            have hm1 := Mi1.out i hlt
            obtain ⟨a2, c2, hv2, hb2⟩ := Hi3.out i hlt
            have HI2 : Hid (∀ W, QS W lo hi (.slice qa lc.length qc) (.slice qb lf.length qd) lc lf → InB W lo hi (.slice qa lc.length qc) (.slice qb lf.length qd) (.slice a2 lf[i].1.locals.length c2) 3 (lf[i].1.locals.length * 1)) := fun W h => hv2 ▸ h.i3 i hlt
            have hm2 := Mi3.out i hlt
            have HH : Hid (∀ W, QS W lo hi (.slice qa lc.length qc) (.slice qb lf.length qd) lc lf → W.cell? ⟨g, i * 5 + 4, none⟩ = some (.slice a0 lf[i].1.code.length c0) ∧ W.cell? ⟨g, i * 5 + 1, none⟩ = some (.slice a1 lf[i].1.params.length c1) ∧ W.cell? ⟨g, i * 5 + 3, none⟩ = some (.slice a2 lf[i].1.locals.length c2) ∧ (∃ v, W.cell? ⟨g, i * 5, none⟩ = some v) ∧ W.frozen? ⟨g, i * 5, none⟩ = false ∧ lo ≤ g ∧ g < hi) := fun W h => by
              have r := h.r1 g (by rw [hga]; rfl)
              exact ⟨(r.2.2.2.cell (hdU_at4 hlt)).trans (congrArg some hv0), (r.2.2.2.cell (hdU_at1 hlt)).trans (congrArg some hv1), (r.2.2.2.cell (hdU_at3 hlt)).trans (congrArg some hv2), r.2.2.2.room (by omega), r.2.2.2.frozen _, r.1, r.2.1⟩
            generalize lf[i].1.code.length = m0 at *
            clear hv0
            generalize lf[i].1.params.length = m1 at *
            clear hv1
            generalize lf[i].1.locals.length = m2 at *
            clear hv2
            have HGA := Lib.hid hga
            have x1 := (KQ6.out.touch HT'.out (fun r => by omega)).val 1 rfl
            rw [HGA.out] at x1
            clear hga
            go_wp2
            clear x1
            go_loopw [8] (fun x wr2 => ∃ k : Nat, k ≤ m0 ∧ x = .int .i64 k ∧ QS wr2 lo hi (.slice qa lc.length qc) (.slice qb lf.length qd) lc lf ∧ Touch (fun b => lo ≤ b ∧ b < hi) w6 wr2) (fun x _ => m0 - (intOf x).toNat)
            case atStart => exact ⟨0, Nat.zero_le _, rfl, HQ'.out, HT'.out⟩
            case round =>
              obtain ⟨k, hk, rfl, hQ2, hT2⟩ := hrel
              have x1 := (KQ6.out.touch hT2 (fun r => by omega)).val 1 rfl
              rw [HGA.out] at x1
              obtain ⟨h0, h1, h2, hr, hf, hlo, hhi⟩ := HH.out _ hQ2
              obtain ⟨vr, hr⟩ := hr
              have HQ2 := Lib.hid hQ2
              have HT2 := Lib.hid hT2
              by_cases hkt : k < m0
              · have hkt' : (k : Int) < (m0 : Int) := by omega
                have k1 : (0 : Int) ≤ (k : Int) ∧ (k : Int) < (m0 : Int) := ⟨by omega, by omega⟩
                have k2 : 0 < m0 := by omega
                obtain ⟨b, rfl⟩ := hb0 k2
                have ib := HI0.out _ hQ2 b rfl
                obtain ⟨z0, hz0⟩ := ib.2.2.2.2.room (j := k * 3) (by omega)
                have f0 := ib.2.2.2.2.frozen (k * 3)
                obtain ⟨z1, hz1⟩ := ib.2.2.2.2.room (j := k * 3 + 1) (by omega)
                have f1 := ib.2.2.2.2.frozen (k * 3 + 1)
                obtain ⟨z2, hz2⟩ := ib.2.2.2.2.room (j := k * 3 + 2) (by omega)
                have f2 := ib.2.2.2.2.frozen (k * 3 + 2)
                have IB := Lib.hid (And.intro ib.1 (And.intro ib.2.1 (And.intro ib.2.2.1 ib.2.2.2.1)))
                clear ib hQ2 hT2
                go_wp2
                go_roundw
                case rel => exact ⟨k + 1, by omega, by go_num, (((HQ2.out.set b (k * 3) (.int .i64 (-1)) (fun r => absurd r IB.out.2.2.1) (fun r => absurd r IB.out.2.2.2)).set b (k * 3 + 1) (.int .i64 0) (fun r => absurd r IB.out.2.2.1) (fun r => absurd r IB.out.2.2.2)).set b (k * 3 + 2) (.int .i64 0) (fun r => absurd r IB.out.2.2.1) (fun r => absurd r IB.out.2.2.2)), (((HT2.out.setCell (p := ⟨b, k * 3, none⟩) ⟨IB.out.1, IB.out.2.1⟩ (.int .i64 (-1))).setCell (p := ⟨b, k * 3 + 1, none⟩) ⟨IB.out.1, IB.out.2.1⟩ (.int .i64 0)).setCell (p := ⟨b, k * 3 + 2, none⟩) ⟨IB.out.1, IB.out.2.1⟩ (.int .i64 0))⟩
                case measure => simp [intOf]; omega
              · have hkt' : ¬ (k : Int) < (m0 : Int) := by omega
                clear hQ2 hT2
                go_wp2
                clear x1 h0 h1 h2 hr hf hkt hkt' hk
                go_loopw [9] (fun x wr2 => ∃ k : Nat, k ≤ m1 ∧ x = .int .i64 k ∧ QS wr2 lo hi (.slice qa lc.length qc) (.slice qb lf.length qd) lc lf ∧ Touch (fun b => lo ≤ b ∧ b < hi) w6 wr2) (fun x _ => m1 - (intOf x).toNat)
                case atStart => exact ⟨0, Nat.zero_le _, rfl, HQ2.out, HT2.out⟩
                case round =>
                  obtain ⟨k, hk, rfl, hQ2, hT2⟩ := hrel
                  have x1 := (KQ6.out.touch hT2 (fun r => by omega)).val 1 rfl
                  rw [HGA.out] at x1
                  obtain ⟨h0, h1, h2, hr, hf, hlo, hhi⟩ := HH.out _ hQ2
                  obtain ⟨vr, hr⟩ := hr
                  have HQ2 := Lib.hid hQ2
                  have HT2 := Lib.hid hT2
                  by_cases hkt : k < m1
                  · have hkt' : (k : Int) < (m1 : Int) := by omega
                    have k1 : (0 : Int) ≤ (k : Int) ∧ (k : Int) < (m1 : Int) := ⟨by omega, by omega⟩
                    have k2 : 0 < m1 := by omega
                    obtain ⟨b, rfl⟩ := hb1 k2
                    have ib := HI1.out _ hQ2 b rfl
                    obtain ⟨z0, hz0⟩ := ib.2.2.2.2.room (j := k) (by omega)
                    have f0 := ib.2.2.2.2.frozen (k)
                    have IB := Lib.hid (And.intro ib.1 (And.intro ib.2.1 (And.intro ib.2.2.1 ib.2.2.2.1)))
                    clear ib hQ2 hT2
                    go_wp2
                    go_roundw
                    case rel => exact ⟨k + 1, by omega, by go_num, (HQ2.out.set b (k) (.int .i64 (-1)) (fun r => absurd r IB.out.2.2.1) (fun r => absurd r IB.out.2.2.2)), (HT2.out.setCell (p := ⟨b, k, none⟩) ⟨IB.out.1, IB.out.2.1⟩ (.int .i64 (-1)))⟩
                    case measure => simp [intOf]; omega
                  · have hkt' : ¬ (k : Int) < (m1 : Int) := by omega
                    clear hQ2 hT2
                    go_wp2
                    clear x1 h0 h1 h2 hr hf hkt hkt' hk
                    go_loopw [10] (fun x wr2 => ∃ k : Nat, k ≤ m2 ∧ x = .int .i64 k ∧ QS wr2 lo hi (.slice qa lc.length qc) (.slice qb lf.length qd) lc lf ∧ Touch (fun b => lo ≤ b ∧ b < hi) w6 wr2) (fun x _ => m2 - (intOf x).toNat)
                    case atStart => exact ⟨0, Nat.zero_le _, rfl, HQ2.out, HT2.out⟩
                    case round =>
                      obtain ⟨k, hk, rfl, hQ2, hT2⟩ := hrel
                      have x1 := (KQ6.out.touch hT2 (fun r => by omega)).val 1 rfl
                      rw [HGA.out] at x1
                      obtain ⟨h0, h1, h2, hr, hf, hlo, hhi⟩ := HH.out _ hQ2
                      obtain ⟨vr, hr⟩ := hr
                      have HQ2 := Lib.hid hQ2
                      have HT2 := Lib.hid hT2
                      by_cases hkt : k < m2
                      · have hkt' : (k : Int) < (m2 : Int) := by omega
                        have k1 : (0 : Int) ≤ (k : Int) ∧ (k : Int) < (m2 : Int) := ⟨by omega, by omega⟩
                        have k2 : 0 < m2 := by omega
                        obtain ⟨b, rfl⟩ := hb2 k2
                        have ib := HI2.out _ hQ2 b rfl
                        obtain ⟨z0, hz0⟩ := ib.2.2.2.2.room (j := k) (by omega)
                        have f0 := ib.2.2.2.2.frozen (k)
                        have IB := Lib.hid (And.intro ib.1 (And.intro ib.2.1 (And.intro ib.2.2.1 ib.2.2.2.1)))
                        clear ib hQ2 hT2
                        go_wp2
                        go_roundw
                        case rel => exact ⟨k + 1, by omega, by go_num, (HQ2.out.set b (k) (.int .i64 (-1)) (fun r => absurd r IB.out.2.2.1) (fun r => absurd r IB.out.2.2.2)), (HT2.out.setCell (p := ⟨b, k, none⟩) ⟨IB.out.1, IB.out.2.1⟩ (.int .i64 (-1)))⟩
                        case measure => simp [intOf]; omega
                      · have hkt' : ¬ (k : Int) < (m2 : Int) := by omega
                        clear hQ2 hT2
                        go_wp2
                        go_roundw
                        case rel => exact ⟨i + 1, by omega, by go_num, HQ2.out.set g (i * 5) (.string ⟨#[33]⟩) (fun r => absurd r (HQ2.out.r1 g (congrArg Value.ownBlock (congrArg (fun z => Value.slice z lf.length qd) HGA.out))).2.2.1) (fun _ => hdU_no), HT2.out.setCell (p := ⟨g, i * 5, none⟩) ⟨hlo, hhi⟩ (.string ⟨#[33]⟩)⟩
                        case measure => simp [intOf]; omega
          · have hlt' : ¬ (i : Int) < (lf.length : Int) := by omega
            have x1 := (KQ6.out.touch hT (fun r => by omega)).val 1 rfl
            have HQ' := Lib.hid hQ
            have HT' := Lib.hid hT
            clear hQ hT
            have HT9 := HT'.out
            have hbT := HT9.below (B := w.heap.size) (Nat.le_of_lt (Nat.lt_of_lt_of_le hlw (by have := KQ6.out.lt; omega))) (fun r hr => by omega)
            have hD := HD.out.touch HT9 (fun r h1 _ h2 => by omega)
            have hV := HV.out.touch HT9 (fun r h1 _ h2 => by have := HS2.out; omega)
            have B9 := Lib.hid (B6.out.trans (hbT.mono (Nat.le_refl _)))
            have kp := KP6.out.touch HT9 (fun r => by omega)
            have kr := KR6.out.touch HT9 (fun r => by have := HRB.out; omega)
            have x0 := kp.val 0 rfl
            have x1 := kp.val 1 rfl
            have y0 := kr.val 0 rfl
            have y1 := kr.val 1 rfl
            have HR9 := Lib.hid (prg_own hD hV HL2.out.1 HL2.out.2 OK.out)
            have HKP := Lib.hid kp
            have HKR := Lib.hid kr
            have HP9 := Lib.hid ((RP.out _ B9.out).mono B9.out.size)
            clear HT9 hbT hD hV kp kr
            go_wp2_with fail
            refine (rsame_any _ _ _ _ _ _ p p (Nat.le_refl _) HP9.out HR9.out).mono ?_
            rintro e w10 ⟨rfl, hb10⟩
            have x0 := (HKP.out.grew hb10).val 0 rfl
            have x1 := (HKP.out.grew hb10).val 1 rfl
            have y0 := (HKR.out.grew hb10).val 0 rfl
            have y1 := (HKR.out.grew hb10).val 1 rfl
            have HPA := Lib.hid (HP9.out.keep hb10).1
            have HRA := Lib.hid (HR9.out.keep hb10).1
            have B10 := Lib.hid (B9.out.trans (hb10.mono B9.out.size))
            have hd1 : decide (prgP p = prgP p) = true := by simp
            have HZ := Lib.hid hb10.size
            clear hb10
            rw [hd1]
            clear hd1
            go_wp2_with fail
            refine (rsclasses_any _ _ _ _ p.classes p.classes HZ.out HPA.out HRA.out).mono ?_
            rintro e w11 ⟨rfl, hb11⟩
            have B11 := Lib.hid (B10.out.trans (hb11.mono B10.out.size))
            clear hb11
            go_wp2
            go_ret
            exact ⟨ret_bool (by simp), B11.out⟩
end Go.Proofs.Ytgcimjghkidoiaa
