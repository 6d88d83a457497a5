/- Texts of this seat, one behind the other: each says at its head what it holds. No condition of its own. -/
import Derived.Test.YtffelcidckbohaaGCodeBack09
import Derived.Test.YtffelcidckbohaaGCodeBack10
/- A program of one's own that is written over: what stays of it; what it reads as. No condition. -/
namespace Go.Proofs.Ytffelcidckbohaa
open Go.RowKit
set_option linter.unusedVariables false
/-- block g holds at least N cells that may be written, and those of H -/
def HdB (w : World) (g : Nat) (T : TypeId) (N : Nat) (H : Nat → Option Value) : Prop := ∃ cur, Blk w g cur T ∧ N ≤ cur.size ∧ ∀ j v, H j = some v → cur[j]? = some v
theorem HdB.set {w : World} {g : Nat} {T : TypeId} {N : Nat} {H : Nat → Option Value} (h : HdB w g T N H) (b j : Nat) (x : Value) (hj : b = g → H j = none) : HdB (w.setCell ⟨b, j, none⟩ x) g T N H := by
  obtain ⟨cur, h1, h2, h3⟩ := h
  by_cases e : b = g
  · subst e
    refine ⟨cur.setIfInBounds j x, h1.set j x, by simpa using h2, fun i v hv => ?_⟩
    have hne : j ≠ i := by
      rintro rfl
      rw [hj rfl] at hv
      cases hv
    rw [Array.getElem?_setIfInBounds_ne hne]
    exact h3 i v hv
  · exact ⟨cur, h1.other _ x (fun q => e q.symm), h2, h3⟩
theorem HdB.cell {w : World} {g : Nat} {T : TypeId} {N : Nat} {H : Nat → Option Value} (h : HdB w g T N H) {j : Nat} {v : Value} (hv : H j = some v) : w.cell? ⟨g, j, none⟩ = some v := by
  obtain ⟨cur, h1, h2, h3⟩ := h
  exact h1.val j (h3 j v hv)
theorem HdB.room {w : World} {g : Nat} {T : TypeId} {N : Nat} {H : Nat → Option Value} (h : HdB w g T N H) {j : Nat} (hj : j < N) : ∃ v, w.cell? ⟨g, j, none⟩ = some v := by
  obtain ⟨cur, h1, h2, h3⟩ := h
  exact ⟨cur[j]'(by omega), h1.val j (Array.getElem?_eq_getElem (by omega))⟩
theorem HdB.frozen {w : World} {g : Nat} {T : TypeId} {N : Nat} {H : Nat → Option Value} (h : HdB w g T N H) (j : Nat) : w.frozen? ⟨g, j, none⟩ = false := by
  obtain ⟨cur, h1, h2, h3⟩ := h
  exact h1.frozen j
theorem HdB.touch {R : Nat → Prop} {w w' : World} {g : Nat} {T : TypeId} {N : Nat} {H : Nat → Option Value} (h : HdB w g T N H) (hT : Touch R w w') (hr : ¬ R g) : HdB w' g T N H := by
  obtain ⟨cur, h1, h2, h3⟩ := h
  exact ⟨cur, h1.touch hT hr, h2, h3⟩
theorem hdb_of {w : World} {lo : Nat} {T : TypeId} {sz : Nat} {v : Value} {n : Nat} {xs : List Value} {g : Nat} (h : w.ownsRow lo T sz v n xs) (hg : v.ownBlock = some g) {H : Nat → Option Value} (hH : ∀ j u, H j = some u → xs[j]? = some u) : HdB w g T (n * sz) H := by
  rcases h.2 with ⟨h1, _⟩ | ⟨q, cap, cur, a1, a2, a3, a4, a5, a6, a7⟩
  · rw [h1] at hg; cases hg
  · rw [a1] at hg
    obtain rfl : q = g := Option.some.inj hg
    refine ⟨cur, a3, ?_, fun j u hu => ?_⟩
    · rw [a6]; exact Nat.mul_le_mul_right sz a4
    · have h1 := hH j u hu
      have h5 := (List.getElem?_eq_some_iff.1 h1).1
      rw [← a7, List.length_take] at h5
      rw [← a7, List.getElem?_take, if_pos (by omega)] at h1
      simpa using h1
def hdC (l : List (ClsD × Value)) (j : Nat) : Option Value := if j % 2 = 1 then (l[j / 2]?).map (·.2) else none
def hdU (l : List (FunD × Value × Value × Value)) (j : Nat) : Option Value := if j % 5 = 1 then (l[j / 5]?).map (·.2.1) else if j % 5 = 3 then (l[j / 5]?).map (·.2.2.1) else if j % 5 = 4 then (l[j / 5]?).map (·.2.2.2) else none
theorem hdC_in {l : List (ClsD × Value)} {j : Nat} {u : Value} (h : hdC l j = some u) : (l.flatMap clsC)[j]? = some u := by
  unfold hdC at h
  split at h
  next e =>
    cases hq : l[j / 2]? with
    | none => rw [hq] at h; cases h
    | some x =>
      rw [hq] at h
      obtain ⟨hi, hx⟩ := List.getElem?_eq_some_iff.1 hq
      have := flat_at clsC 2 (fun _ => rfl) l (j / 2) 1 hi (by decide)
      rw [show j / 2 * 2 + 1 = j by omega, hx] at this
      rw [this]
      simpa [clsC] using h
  next e => cases h
theorem hdU_in {l : List (FunD × Value × Value × Value)} {j : Nat} {u : Value} (h : hdU l j = some u) : (l.flatMap funC)[j]? = some u := by
  unfold hdU at h
  cases hq : l[j / 5]? with
  | none => rw [hq] at h; split at h <;> first | cases h | (split at h <;> first | cases h | (split at h <;> cases h))
  | some x =>
    rw [hq] at h
    obtain ⟨hi, hx⟩ := List.getElem?_eq_some_iff.1 hq
    have hf := fun q hq => flat_at funC 5 (fun _ => rfl) l (j / 5) q hi hq
    rw [hx] at hf
    split at h
    next e => have := hf 1 (by decide); rw [show j / 5 * 5 + 1 = j by omega] at this; rw [this]; simpa [funC] using h
    next _ =>
      split at h
      next e => have := hf 3 (by decide); rw [show j / 5 * 5 + 3 = j by omega] at this; rw [this]; simpa [funC] using h
      next _ =>
        split at h
        next e => have := hf 4 (by decide); rw [show j / 5 * 5 + 4 = j by omega] at this; rw [this]; simpa [funC] using h
        next _ => cases h
theorem hdC_at {l : List (ClsD × Value)} {i : Nat} (hi : i < l.length) : hdC l (i * 2 + 1) = some (l[i].2) := by
  unfold hdC
  rw [if_pos (by omega), show (i * 2 + 1) / 2 = i by omega, List.getElem?_eq_getElem hi]
  rfl
theorem hdC_no {l : List (ClsD × Value)} {i : Nat} : hdC l (i * 2) = none := by unfold hdC; rw [if_neg (by omega)]
theorem hdU_no {l : List (FunD × Value × Value × Value)} {i : Nat} : hdU l (i * 5) = none := by unfold hdU; rw [if_neg (by omega), if_neg (by omega), if_neg (by omega)]
theorem hdU_at1 {l : List (FunD × Value × Value × Value)} {i : Nat} (hi : i < l.length) : hdU l (i * 5 + 1) = some (l[i].2.1) := by
  unfold hdU
  rw [if_pos (by omega), show (i * 5 + 1) / 5 = i by omega, List.getElem?_eq_getElem hi]
  rfl
theorem hdU_at3 {l : List (FunD × Value × Value × Value)} {i : Nat} (hi : i < l.length) : hdU l (i * 5 + 3) = some (l[i].2.2.1) := by
  unfold hdU
  rw [if_neg (by omega), if_pos (by omega), show (i * 5 + 3) / 5 = i by omega, List.getElem?_eq_getElem hi]
  rfl
theorem hdU_at4 {l : List (FunD × Value × Value × Value)} {i : Nat} (hi : i < l.length) : hdU l (i * 5 + 4) = some (l[i].2.2.2) := by
  unfold hdU
  rw [if_neg (by omega), if_neg (by omega), if_pos (by omega), show (i * 5 + 4) / 5 = i by omega, List.getElem?_eq_getElem hi]
  rfl
/-- an inner row: its block is none of the two that hold the headers, and may be written -/
def InB (w : World) (lo hi : Nat) (q0 q1 u : Value) (T : TypeId) (N : Nat) : Prop := ∀ g, u.ownBlock = some g → lo ≤ g ∧ g < hi ∧ q0.ownBlock ≠ some g ∧ q1.ownBlock ≠ some g ∧ HdB w g T N (fun _ => none)
theorem InB.set {w : World} {lo hi : Nat} {q0 q1 u : Value} {T : TypeId} {N : Nat} (h : InB w lo hi q0 q1 u T N) (b j : Nat) (x : Value) : InB (w.setCell ⟨b, j, none⟩ x) lo hi q0 q1 u T N :=
  fun g hg => ⟨(h g hg).1, (h g hg).2.1, (h g hg).2.2.1, (h g hg).2.2.2.1, (h g hg).2.2.2.2.set b j x fun _ => rfl⟩
theorem InB.touch {R : Nat → Prop} {w w' : World} {lo hi : Nat} {q0 q1 u : Value} {T : TypeId} {N : Nat} (h : InB w lo hi q0 q1 u T N) (hT : Touch R w w') (hr : ∀ g, lo ≤ g → g < hi → ¬ R g) : InB w' lo hi q0 q1 u T N :=
  fun g hg => ⟨(h g hg).1, (h g hg).2.1, (h g hg).2.2.1, (h g hg).2.2.2.1, (h g hg).2.2.2.2.touch hT (hr g (h g hg).1 (h g hg).2.1)⟩
structure QS (w : World) (lo hi : Nat) (q0 q1 : Value) (lc : List (ClsD × Value)) (lf : List (FunD × Value × Value × Value)) : Prop where
  r0 : ∀ g, q0.ownBlock = some g → lo ≤ g ∧ g < hi ∧ HdB w g 52 (lc.length * 2) (hdC lc)
  r1 : ∀ g, q1.ownBlock = some g → lo ≤ g ∧ g < hi ∧ q0.ownBlock ≠ some g ∧ HdB w g 45 (lf.length * 5) (hdU lf)
  i0 : ∀ i (h : i < lc.length), InB w lo hi q0 q1 lc[i].2 66 (lc[i].1.fields.length * 2)
  i1 : ∀ i (h : i < lf.length), InB w lo hi q0 q1 lf[i].2.1 3 (lf[i].1.params.length * 1)
  i3 : ∀ i (h : i < lf.length), InB w lo hi q0 q1 lf[i].2.2.1 3 (lf[i].1.locals.length * 1)
  i4 : ∀ i (h : i < lf.length), InB w lo hi q0 q1 lf[i].2.2.2 41 (lf[i].1.code.length * 3)
theorem QS.set {w : World} {lo hi : Nat} {q0 q1 : Value} {lc : List (ClsD × Value)} {lf : List (FunD × Value × Value × Value)} (h : QS w lo hi q0 q1 lc lf) (b j : Nat) (x : Value) (h0 : q0.ownBlock = some b → hdC lc j = none) (h1 : q1.ownBlock = some b → hdU lf j = none) : QS (w.setCell ⟨b, j, none⟩ x) lo hi q0 q1 lc lf :=
  ⟨fun g hg => ⟨(h.r0 g hg).1, (h.r0 g hg).2.1, (h.r0 g hg).2.2.set b j x fun e => h0 (e ▸ hg)⟩, fun g hg => ⟨(h.r1 g hg).1, (h.r1 g hg).2.1, (h.r1 g hg).2.2.1, (h.r1 g hg).2.2.2.set b j x fun e => h1 (e ▸ hg)⟩,
    fun i hi => (h.i0 i hi).set b j x, fun i hi => (h.i1 i hi).set b j x, fun i hi => (h.i3 i hi).set b j x, fun i hi => (h.i4 i hi).set b j x⟩
theorem QS.touch {R : Nat → Prop} {w w' : World} {lo hi : Nat} {q0 q1 : Value} {lc : List (ClsD × Value)} {lf : List (FunD × Value × Value × Value)} (h : QS w lo hi q0 q1 lc lf) (hT : Touch R w w') (hr : ∀ g, lo ≤ g → g < hi → ¬ R g) : QS w' lo hi q0 q1 lc lf :=
  ⟨fun g hg => ⟨(h.r0 g hg).1, (h.r0 g hg).2.1, (h.r0 g hg).2.2.touch hT (hr g (h.r0 g hg).1 (h.r0 g hg).2.1)⟩, fun g hg => ⟨(h.r1 g hg).1, (h.r1 g hg).2.1, (h.r1 g hg).2.2.1, (h.r1 g hg).2.2.2.touch hT (hr g (h.r1 g hg).1 (h.r1 g hg).2.1)⟩,
    fun i hi => (h.i0 i hi).touch hT hr, fun i hi => (h.i1 i hi).touch hT hr, fun i hi => (h.i3 i hi).touch hT hr, fun i hi => (h.i4 i hi).touch hT hr⟩
theorem qs_of {w : World} {lo s1 : Nat} {q0 q1 : Value} {lc : List (ClsD × Value)} {lf : List (FunD × Value × Value × Value)} (hC : COwn w lo q0 lc) (hU : UOwn w s1 q1 lf) (hs : lo ≤ s1) (h0 : ∀ g, q0.ownBlock = some g → g < s1) (h1 : ∀ x ∈ lc, ∀ g, x.2.ownBlock = some g → g < s1) : QS w lo w.heap.size q0 q1 lc lf := by
  have n1 : ∀ g, q1.ownBlock = some g → s1 ≤ g := fun g hg => (own_ltG hU.row hg).1
  refine ⟨fun g hg => ⟨(own_ltG hC.row hg).1, (own_ltG hC.row hg).2, hdb_of hC.row hg fun j u hu => hdC_in hu⟩, fun g hg => ⟨by have := n1 g hg; omega, (own_ltG hU.row hg).2, fun e => by have := h0 g e; have := n1 g hg; omega, hdb_of hU.row hg fun j u hu => hdU_in hu⟩, fun i hi g hg => ?_, fun i hi g hg => ?_, fun i hi g hg => ?_, fun i hi g hg => ?_⟩
  · have hm := List.getElem_mem hi
    have hq := own_ltG (hC.inner _ hm) hg
    exact ⟨hq.1, hq.2, hC.apart _ hm g hg, fun e => by have := h1 _ hm g hg; have := n1 g e; omega, hdb_of (hC.inner _ hm) hg fun j u hu => by cases hu⟩
  · have hm := List.getElem_mem hi
    have hq := own_ltG (hU.inner1 _ hm) hg
    exact ⟨by omega, hq.2, fun e => by have := h0 g e; omega, hU.apart1 _ hm g hg, hdb_of (hU.inner1 _ hm) hg fun j u hu => by cases hu⟩
  · have hm := List.getElem_mem hi
    have hq := own_ltG (hU.inner3 _ hm) hg
    exact ⟨by omega, hq.2, fun e => by have := h0 g e; omega, hU.apart3 _ hm g hg, hdb_of (hU.inner3 _ hm) hg fun j u hu => by cases hu⟩
  · have hm := List.getElem_mem hi
    have hq := own_ltG (hU.inner4 _ hm) hg
    exact ⟨by omega, hq.2, fun e => by have := h0 g e; omega, hU.apart4 _ hm g hg, hdb_of (hU.inner4 _ hm) hg fun j u hu => by cases hu⟩
/-- numbers that are in their kind -/
def OkP (p : PrgD) : Prop := (∀ c ∈ p.classes, ∀ f ∈ c.fields, I64 f.ty) ∧ ∀ f ∈ p.funcs, I64 f.result ∧ (∀ x ∈ f.params, I64 x) ∧ (∀ x ∈ f.locals, I64 x) ∧ ∀ x ∈ f.code, I64 x.op ∧ I64 x.a ∧ I64 x.b
theorem rd_mem {α : Type} {sz B : Nat} {el : World → Nat → Nat → α → Prop} {w : World} {v : Value} {l : List α} (h : RdRow sz el B w v l) {x : α} (hx : x ∈ l) : ∃ b k, el w b k x := by
  obtain ⟨a, c, h1, h2, h3⟩ := h
  obtain ⟨i, hi, rfl⟩ := List.getElem_of_mem hx
  obtain ⟨b, o, _, _, e⟩ := h3 i hi
  exact ⟨b, _, e⟩
theorem okP_of {B : Nat} {w : World} {v0 v1 : Value} {p : PrgD} (h : RdPrg B w v0 v1 p) : OkP p := by
  refine ⟨fun c hc f hf => ?_, fun f hf => ?_⟩
  · obtain ⟨_, _, _, v, _, r⟩ := rd_mem h.1 hc
    obtain ⟨_, _, _, _, q⟩ := rd_mem r hf
    exact q
  · obtain ⟨_, _, _, ⟨_, _, r1⟩, ⟨_, r2⟩, ⟨_, _, r3⟩, _, _, r4⟩ := rd_mem h.2 hf
    refine ⟨r2, fun x hx => ?_, fun x hx => ?_, fun x hx => ?_⟩
    · obtain ⟨_, _, _, q⟩ := rd_mem r1 hx; exact q
    · obtain ⟨_, _, _, q⟩ := rd_mem r3 hx; exact q
    · obtain ⟨_, _, _, _, _, q⟩ := rd_mem r4 hx; exact q
theorem RdRow.map {α β : Type} {sz B : Nat} {el : World → Nat → Nat → β → Prop} {f : α → β} {w : World} {v : Value} {l : List α} (h : RdRow sz (fun w b k x => el w b k (f x)) B w v l) : RdRow sz el B w v (l.map f) := by
  obtain ⟨a, c, h1, h2, h3⟩ := h
  refine ⟨a, c, by rw [List.length_map]; exact h1, by rw [List.length_map]; exact h2, fun i hi => ?_⟩
  obtain ⟨b, o, e1, e2, e3⟩ := h3 i (by simpa using hi)
  exact ⟨b, o, e1, e2, by simpa using e3⟩
theorem prg_own {w : World} {lo s1 : Nat} {u0 u1 : Value} {lc : List (ClsD × Value)} {lf : List (FunD × Value × Value × Value)} {p : PrgD} (hC : COwn w lo u0 lc) (hU : UOwn w s1 u1 lf) (hc : lc.map (·.1) = p.classes) (hf : lf.map (·.1) = p.funcs) (hI : OkP p) : RdPrg w.heap.size w u0 u1 p := by
  refine ⟨?_, ?_⟩
  · rw [← hc]
    refine RdRow.map (own_rd (f := clsC) (by decide) (fun _ => rfl) hC.row (Nat.le_refl _) fun g k x hx hj => ?_)
    have hx' : x.1 ∈ p.classes := by rw [← hc]; exact List.mem_map.2 ⟨x, hx, rfl⟩
    exact ⟨hj 0 _ rfl, x.2, hj 1 _ rfl, own_rd (f := fldC) (by decide) (fun _ => rfl) (hC.inner x hx) (Nat.le_refl _) fun g k y hy hq => ⟨hq 0 _ rfl, hq 1 _ rfl, hI.1 _ hx' y hy⟩⟩
  · rw [← hf]
    refine RdRow.map (own_rd (f := funC) (by decide) (fun _ => rfl) hU.row (Nat.le_refl _) fun g k x hx hj => ?_)
    have hx' : x.1 ∈ p.funcs := by rw [← hf]; exact List.mem_map.2 ⟨x, hx, rfl⟩
    obtain ⟨o1, o2, o3, o4⟩ := hI.2 _ hx'
    exact ⟨hj 0 _ rfl, ⟨x.2.1, hj 1 _ rfl, own_rd (f := intC) (by decide) (fun _ => rfl) (hU.inner1 x hx) (Nat.le_refl _) fun g k y hy hq => ⟨hq 0 _ rfl, o2 y hy⟩⟩, ⟨hj 2 _ rfl, o1⟩,
      ⟨x.2.2.1, hj 3 _ rfl, own_rd (f := intC) (by decide) (fun _ => rfl) (hU.inner3 x hx) (Nat.le_refl _) fun g k y hy hq => ⟨hq 0 _ rfl, o3 y hy⟩⟩,
      x.2.2.2, hj 4 _ rfl, own_rd (f := insC) (by decide) (fun _ => rfl) (hU.inner4 x hx) (Nat.le_refl _) fun g k y hy hq => ⟨hq 0 _ rfl, hq 1 _ rfl, hq 2 _ rfl, o4 y hy⟩⟩
end Go.Proofs.Ytffelcidckbohaa
/- What is read: its integers are in range, its lists short. No condition. -/
namespace Go.Proofs.Ytffelcidckbohaa
open Go.RowKit
set_option linter.unusedVariables false
theorem bind_ok {α β : Type} {r : Rd α} {f : α → Nat → Rd β} {b : β} {p : Nat} (h : bindD r f = .ok (b, p)) : ∃ a q, r = .ok (a, q) ∧ f a q = .ok (b, p) := by
  cases r with
  | error x => cases h
  | ok z => exact ⟨z.1, z.2, rfl, h⟩
theorem seq_all {α : Type} {D : Nat → Rd α} {P : α → Prop} (hD : ∀ p a q, D p = .ok (a, q) → P a) : ∀ {n p : Nat} {l : List α} {q : Nat}, seqD D n p = .ok (l, q) → ∀ x ∈ l, P x
  | 0, p, l, q, h => by rw [seqD] at h; injection h with h; injection h with h1 h2; subst h1; intro x hx; cases hx
  | n + 1, p, l, q, h => by
    rw [seqD] at h
    obtain ⟨l0, q0, h1, h2⟩ := bind_ok h
    obtain ⟨a, r, h3, h4⟩ := bind_ok h2
    injection h4 with h4
    injection h4 with h4 h5
    subst h4
    intro x hx
    rcases List.mem_append.1 hx with h6 | h6
    · exact seq_all hD h1 x h6
    · obtain rfl : x = a := by simpa using h6
      exact hD _ _ _ h3
theorem numD_le {bs : List UInt8} {most p n q : Nat} (h : numD bs most p = .ok (n, q)) : n ≤ most := num_le (st := .ok p) (st1 := .ok q) (.inl ⟨q, h, rfl⟩) fun y e => by cases e
theorem list_all {α : Type} {bs : List UInt8} {D : Nat → Rd α} {P : α → Prop} (hD : ∀ p a q, D p = .ok (a, q) → P a) {most p : Nat} {l : List α} {q : Nat} (h : listD bs D most p = .ok (l, q)) : (∀ x ∈ l, P x) ∧ l.length ≤ most := by
  obtain ⟨n, r, h1, h2⟩ := bind_ok h
  exact ⟨seq_all hD h2, by rw [seqD_len h2]; exact numD_le h1⟩
theorem kindD_bd {bs : List UInt8} {p : Nat} {x : Int} {q : Nat} (h : kindD bs p = .ok (x, q)) : 0 ≤ x ∧ x ≤ 2 := by
  obtain ⟨b, r, h1, h2⟩ := bind_ok h
  split at h2
  · cases h2
  · injection h2 with h2
    injection h2 with h2 h3
    omega
theorem I64_of {x : Int} (h : -9223372036854775808 ≤ x) (h' : x < 9223372036854775808) : I64 x := ⟨h, h'⟩
theorem unfI_64 {n : Nat} (h : n ≤ 18446744073709551615) : I64 (unfI n) := by
  unfold unfI; split <;> exact I64_of (by omega) (by omega)
theorem argA_64 {bs : List UInt8} {b p : Nat} {a : Int} {q : Nat} (h : argA bs b p = .ok (a, q)) : I64 a := by
  unfold argA at h
  split at h
  · obtain ⟨n, r, h1, h2⟩ := bind_ok h
    injection h2 with h2
    injection h2 with h2 h3
    subst h2
    exact unfI_64 (numD_le h1)
  · split at h
    · obtain ⟨n, r, h1, h2⟩ := bind_ok h
      injection h2 with h2
      injection h2 with h2 h3
      have := numD_le h1
      exact I64_of (by omega) (by omega)
    · injection h with h
      injection h with h2 h3
      exact I64_of (by omega) (by omega)
theorem argB_64 {bs : List UInt8} {b p : Nat} {a : Int} {q : Nat} (h : argB bs b p = .ok (a, q)) : I64 a := by
  unfold argB at h
  split at h
  · obtain ⟨n, r, h1, h2⟩ := bind_ok h
    injection h2 with h2
    injection h2 with h2 h3
    have := numD_le h1
    exact I64_of (by omega) (by omega)
  · injection h with h
    injection h with h2 h3
    exact I64_of (by omega) (by omega)
theorem insD_64 {bs : List UInt8} {p : Nat} {i : InsD} {q : Nat} (h : insD bs p = .ok (i, q)) : I64 i.op ∧ I64 i.a ∧ I64 i.b := by
  obtain ⟨b, r, h1, h2⟩ := bind_ok h
  split at h2
  · cases h2
  · obtain ⟨a, s, h3, h4⟩ := bind_ok h2
    obtain ⟨m, u, h5, h6⟩ := bind_ok h4
    injection h6 with h6
    injection h6 with h6 h7
    subst h6
    have := b.toNat_lt
    exact ⟨I64_of (by show _ ≤ ((b.toNat : Nat) : Int); omega) (by show ((b.toNat : Nat) : Int) < _; omega), argA_64 h3, argB_64 h5⟩
theorem clsD_bd {bs : List UInt8} {p : Nat} {c : ClsD} {q : Nat} (h : clsD bs p = .ok (c, q)) : (∀ f ∈ c.fields, I64 f.ty) ∧ c.fields.length ≤ 15 := by
  obtain ⟨l, r, h1, h2⟩ := bind_ok h
  obtain ⟨fs, s, h3, h4⟩ := bind_ok h2
  injection h4 with h4
  injection h4 with h4 h5
  subst h4
  refine list_all (fun p f q hf => ?_) h3
  obtain ⟨l', r', h6, h7⟩ := bind_ok hf
  obtain ⟨t, r'', h8, h9⟩ := bind_ok h7
  injection h9 with h9
  injection h9 with h9 h10
  subst h9
  have := kindD_bd h8
  exact I64_of (by show _ ≤ t; omega) (by show t < _; omega)
theorem funD_bd {bs : List UInt8} {p : Nat} {f : FunD} {q : Nat} (h : funD bs p = .ok (f, q)) : (I64 f.result ∧ (∀ x ∈ f.params, I64 x) ∧ (∀ x ∈ f.locals, I64 x) ∧ ∀ i ∈ f.code, I64 i.op ∧ I64 i.a ∧ I64 i.b) ∧ f.params.length ≤ 6 ∧ f.locals.length ≤ 16 ∧ f.code.length ≤ 256 := by
  obtain ⟨l, r, h1, h2⟩ := bind_ok h
  obtain ⟨ps, r2, h3, h4⟩ := bind_ok h2
  obtain ⟨t, r3, h5, h6⟩ := bind_ok h4
  obtain ⟨ls, r4, h7, h8⟩ := bind_ok h6
  obtain ⟨is, r5, h9, h10⟩ := bind_ok h8
  injection h10 with h10
  injection h10 with h10 h11
  subst h10
  have hk : ∀ p a q, kindD bs p = .ok (a, q) → I64 a := fun p a q h => by have := kindD_bd h; exact I64_of (by omega) (by omega)
  have a1 := list_all hk h3
  have a2 := list_all hk h7
  have a3 := list_all (fun p a q h => insD_64 h) h9
  exact ⟨⟨hk _ _ _ h5, a1.1, a2.1, a3.1⟩, a1.2, a2.2, a3.2⟩
theorem decI_ok {bs : List UInt8} {p : PrgD} {q : Nat} (h : decI bs = .ok (p, q)) : OkP p ∧ LtP p := by
  obtain ⟨_, r, h1, h2⟩ := bind_ok h
  obtain ⟨cs, r2, h3, h4⟩ := bind_ok h2
  obtain ⟨fs, r3, h5, h6⟩ := bind_ok h4
  injection h6 with h6
  injection h6 with h6 h7
  subst h6
  have a1 := list_all (fun p a q h => clsD_bd h) h3
  have a2 := list_all (fun p a q h => funD_bd h) h5
  refine ⟨⟨fun c hc => (a1.1 c hc).1, fun f hf => (a2.1 f hf).1⟩, by show cs.length ≤ 40; have := a1.2; omega, by show fs.length ≤ 40; have := a2.2; omega, fun c hc => by have := (a1.1 c hc).2; omega, fun f hf => ?_⟩
  have := (a2.1 f hf).2
  exact ⟨by omega, by omega, by omega⟩
end Go.Proofs.Ytffelcidckbohaa
/- What is written is read again; a part cut off is an end too early. No condition. -/
namespace Go.Proofs.Ytffelcidckbohaa
open Go.RowKit
set_option linter.unusedVariables false
/-- What E writes, D reads as a; and what is cut off is told. -/
def Rev {α : Type} (E : Res) (D : List UInt8 → Nat → Rd α) (a : α) : Prop :=
  ∀ e, E = .ok e → (∀ pre post, D (pre ++ e ++ post) pre.length = .ok (a, pre.length + e.length)) ∧ (∀ pre e' t, e = e' ++ t → t ≠ [] → D (pre ++ e') pre.length = .error (10, ((pre ++ e').length : Int)))
theorem Rev.bind {α β : Type} {E1 E2 : Res} {D1 : List UInt8 → Nat → Rd α} {D2 : α → List UInt8 → Nat → Rd β} {a : α} {b : β} (h1 : Rev E1 D1 a) (h2 : Rev E2 (D2 a) b) : Rev (andE E1 E2) (fun bs p => bindD (D1 bs p) fun a q => D2 a bs q) b := by
  intro e he
  obtain ⟨e1, e2, r1, r2, rfl⟩ := andE_parts he
  obtain ⟨a1, c1⟩ := h1 e1 r1
  obtain ⟨a2, c2⟩ := h2 e2 r2
  constructor
  · intro pre post
    show bindD (D1 (pre ++ (e1 ++ e2) ++ post) pre.length) _ = _
    rw [show pre ++ (e1 ++ e2) ++ post = pre ++ e1 ++ (e2 ++ post) by simp, a1, bindD_ok]
    rw [show pre ++ e1 ++ (e2 ++ post) = (pre ++ e1) ++ e2 ++ post by simp, show pre.length + e1.length = (pre ++ e1).length by simp, a2]
    simp [Nat.add_assoc]
  · intro pre e' t heq ht
    show bindD (D1 (pre ++ e') pre.length) _ = _
    rcases List.append_eq_append_iff.1 heq with ⟨d, h3, h4⟩ | ⟨d, h3, h4⟩
    · subst h3
      rw [← List.append_assoc]
      have := a1 pre d
      rw [this, bindD_ok, show pre.length + e1.length = (pre ++ e1).length by simp]
      have := c2 (pre ++ e1) d t h4 ht
      rw [this]
    · by_cases hd : d = []
      · subst hd
        simp at h3 h4
        subst h3
        have := a1 pre []
        rw [List.append_nil] at this
        rw [this, bindD_ok, show pre.length + e1.length = (pre ++ e1).length by simp]
        have := c2 (pre ++ e1) [] t (by simpa using h4.symm) ht
        rw [List.append_nil] at this
        exact this
      · rw [c1 pre e' d h3 hd]; rfl
theorem Rev.map {α β : Type} {E : Res} {D : List UInt8 → Nat → Rd α} {a : α} (h : Rev E D a) (f : α → β) : Rev E (fun bs p => bindD (D bs p) fun a q => .ok (f a, q)) (f a) := by
  intro e he
  obtain ⟨h1, h2⟩ := h e he
  exact ⟨fun pre post => by show bindD (D _ _) _ = _; rw [h1]; rfl, fun pre e' t h3 h4 => by show bindD (D _ _) _ = _; rw [h2 pre e' t h3 h4]; rfl⟩
theorem Rev.nil {α : Type} (a : α) : Rev (.ok []) (fun bs p => .ok (a, p)) a := by
  intro e he
  injection he with he
  subst he
  refine ⟨fun pre post => by simp, fun pre e' t h1 h2 => ?_⟩
  have := congrArg List.length h1
  have h3 : 0 < t.length := List.length_pos_iff.2 h2
  simp at this
  omega
theorem rev_next (x : UInt8) : Rev (.ok [x]) nextD x := by
  intro e he
  injection he with he
  subst he
  constructor
  · intro pre post
    unfold nextD
    rw [List.append_assoc, List.getElem?_append_right (Nat.le_refl _)]
    simp
  · intro pre e' t h1 h2
    have hl := congrArg List.length h1
    have : 0 < t.length := List.length_pos_iff.2 h2
    simp at hl
    have he : e' = [] := List.eq_nil_of_length_eq_zero (by omega)
    subst he
    unfold nextD
    rw [List.append_nil, List.getElem?_eq_none (Nat.le_refl _)]
/-! numbers -/
theorem numB_gath : ∀ (n k : Nat) (pre post : List UInt8), (numB n).length ≤ k → gathD (pre ++ numB n ++ post) k pre.length = some (numB n) := by
  intro n
  induction n using Nat.strongRecOn with
  | _ n ih =>
    intro k pre post hk
    have hp := numB_pos n
    obtain ⟨k, rfl⟩ : ∃ k', k = k' + 1 := ⟨k - 1, by omega⟩
    by_cases h : 128 ≤ n
    · rw [numB_hi h] at hk ⊢
      rw [gathD, List.append_assoc, List.getElem?_append_right (Nat.le_refl _)]
      simp only [Nat.sub_self, List.cons_append, List.getElem?_cons_zero]
      have hb : 128 ≤ (UInt8.ofNat (128 + n % 128)).toNat := by simp; omega
      rw [if_pos hb]
      have := ih (n / 128) (by omega) k (pre ++ [UInt8.ofNat (128 + n % 128)]) post (by simp at hk; omega)
      rw [show pre ++ UInt8.ofNat (128 + n % 128) :: (numB (n / 128) ++ post) = pre ++ [UInt8.ofNat (128 + n % 128)] ++ numB (n / 128) ++ post by simp, show pre.length + 1 = (pre ++ [UInt8.ofNat (128 + n % 128)]).length by simp, this]
      rfl
    · rw [numB_lo (by omega)]
      rw [gathD, List.append_assoc, List.getElem?_append_right (Nat.le_refl _)]
      simp only [Nat.sub_self, List.cons_append, List.nil_append, List.getElem?_cons_zero]
      rw [if_neg (by simp; omega)]
theorem numB_val : ∀ n : Nat, valD (numB n) = n := by
  intro n
  induction n using Nat.strongRecOn with
  | _ n ih =>
    by_cases h : 128 ≤ n
    · rw [numB_hi h, valD, ih (n / 128) (by omega)]
      simp
      omega
    · rw [numB_lo (by omega), valD, valD]
      simp
      omega
theorem lastD_cons (b : UInt8) (l : List UInt8) (h : l ≠ []) : lastD (b :: l) = lastD l := by
  unfold lastD
  rw [List.getLastD_eq_getLast?, List.getLastD_eq_getLast?, List.getLast?_cons]
  cases l with
  | nil => exact absurd rfl h
  | cons c r => simp [List.getLast?_cons]
theorem numB_ne (n : Nat) : numB n ≠ [] := fun h => by have := numB_pos n; rw [h] at this; simp at this
theorem numB_last : ∀ n : Nat, (lastD (numB n)).toNat < 128 ∧ (1 < (numB n).length → (lastD (numB n)).toNat ≠ 0) := by
  intro n
  induction n using Nat.strongRecOn with
  | _ n ih =>
    by_cases h : 128 ≤ n
    · rw [numB_hi h, lastD_cons _ _ (numB_ne _)]
      obtain ⟨h1, h2⟩ := ih (n / 128) (by omega)
      refine ⟨h1, fun _ => ?_⟩
      by_cases h3 : 1 < (numB (n / 128)).length
      · exact h2 h3
      · have h4 : ¬ 128 ≤ n / 128 := fun h5 => by rw [numB_hi h5, List.length_cons] at h3; have := numB_pos (n / 128 / 128); omega
        rw [numB_lo (by omega)]
        simp [lastD]
        omega
    · rw [numB_lo (by omega)]
      refine ⟨by simp [lastD]; omega, fun h => by simp at h⟩
/-- a number cut off -/
theorem gath_cut : ∀ (e' : List UInt8) (n k : Nat) (t pre : List UInt8), numB n = e' ++ t → t ≠ [] → (numB n).length ≤ k → gathD (pre ++ e') k pre.length = none
  | [], n, k, t, pre, h, ht, hk => by
    have := numB_pos n
    obtain ⟨k, rfl⟩ : ∃ k', k = k' + 1 := ⟨k - 1, by omega⟩
    rw [gathD, List.append_nil, List.getElem?_eq_none (Nat.le_refl _)]
  | b :: e', n, k, t, pre, h, ht, hk => by
    have := numB_pos n
    obtain ⟨k, rfl⟩ : ∃ k', k = k' + 1 := ⟨k - 1, by omega⟩
    by_cases hn : 128 ≤ n
    · rw [numB_hi hn] at h hk
      injection h with h1 h2
      rw [gathD, List.getElem?_append_right (Nat.le_refl _)]
      simp only [Nat.sub_self, List.getElem?_cons_zero]
      rw [← h1, if_pos (by simp; omega), show pre ++ UInt8.ofNat (128 + n % 128) :: e' = (pre ++ [UInt8.ofNat (128 + n % 128)]) ++ e' by simp, show pre.length + 1 = (pre ++ [UInt8.ofNat (128 + n % 128)]).length by simp, gath_cut e' (n / 128) k t _ h2 ht (by simp at hk; omega)]
      rfl
    · rw [numB_lo (by omega)] at h
      have h5 := congrArg List.length h
      have h3 : 0 < t.length := List.length_pos_iff.2 ht
      simp only [List.length_cons, List.length_nil, List.cons_append, List.length_append] at h5
      omega
theorem rev_num {n most : Nat} (hm : n ≤ most) (h64 : n < 18446744073709551616) : Rev (.ok (numB n)) (fun bs p => numD bs most p) n := by
  intro e he
  injection he with he
  subst he
  have hl := numB_len10 h64
  obtain ⟨l1, l2⟩ := numB_last n
  constructor
  · intro pre post
    show numD _ most _ = _
    have hv := numB_val n
    have h10 : ¬ ((numB n).length = 10 ∧ 1 < (lastD (numB n)).toNat) := by
      rintro ⟨h1, h2⟩
      have hne := numB_ne n
      have h3 := List.dropLast_concat_getLast hne
      have h4 : lastD (numB n) = (numB n).getLast hne := by unfold lastD; rw [List.getLastD_eq_getLast?, List.getLast?_eq_some_getLast hne]; rfl
      rw [← h3, valD_app, List.length_dropLast, h1, ← h4, Nat.mod_eq_of_lt l1] at hv
      have h5 : (128 : Nat) ^ (10 - 1) = 9223372036854775808 := by decide
      rw [h5] at hv
      have : 2 * 9223372036854775808 ≤ (lastD (numB n)).toNat * 9223372036854775808 := Nat.mul_le_mul_right _ h2
      omega
    rw [num_some (numB_gath n 10 pre post hl), if_neg h10, if_neg (fun h => l2 h.1 h.2), hv, if_neg (by omega)]
  · intro pre e' t h1 h2
    show numD _ most _ = _
    rw [num_none (gath_cut e' n 10 t pre h1 h2 hl)]
/-! lists -/
theorem rev_seq {α : Type} {f : Nat → Res} {D : List UInt8 → Nat → Rd α} (l : List α) (h : ∀ i (hi : i < l.length), Rev (f i) D l[i]) : ∀ m, m ≤ l.length → Rev (seqE f m) (fun bs p => seqD (D bs) m p) (l.take m)
  | 0, _ => by simp only [seqE, seqD, List.take_zero]; exact Rev.nil []
  | m + 1, hm => by
    rw [seqE, List.take_add_one, List.getElem?_eq_getElem (by omega)]
    exact (rev_seq l h m (by omega)).bind (D2 := fun l0 bs q => bindD (D bs q) fun a r => .ok (l0 ++ [a], r)) ((h m (by omega)).map fun a => l.take m ++ [a])
theorem rev_list {α : Type} {f : Nat → Res} {D : List UInt8 → Nat → Rd α} {most : Nat} (l : List α) (hm : most ≤ 1000) (h : ∀ i (hi : i < l.length), Rev (f i) D l[i]) : Rev (listE l.length most f) (fun bs p => listD bs (D bs) most p) l := by
  intro e he
  unfold listE at he
  split at he
  · cases he
  · rename_i hn
    have h1 := rev_num (n := l.length) (most := most) (by omega) (by omega)
    have h2 := rev_seq l h l.length (Nat.le_refl _)
    rw [List.take_length] at h2
    exact (h1.bind (D2 := fun n bs q => seqD (D bs) n q) h2) e he
theorem rev_name (s : ByteArray) : Rev (nameE s) (fun bs p => txtD bs p) s.data.toList := by
  have h := rev_list (f := nameF s) (D := nextD) (most := 16) s.data.toList (by decide) (fun i hi => by
    unfold nameF
    rw [List.getD_eq_getElem?_getD, List.getElem?_eq_getElem hi]
    exact rev_next _)
  have e : s.data.toList.length = s.size := by simp
  rw [e] at h
  exact h
theorem rev_kind (t : Int) : Rev (kindE t) (fun bs p => kindD bs p) t := by
  intro e he
  unfold kindE at he
  split at he
  · rename_i ht
    injection he with he
    subst he
    obtain ⟨h1, h2⟩ := rev_next (UInt8.ofNat t.toNat) _ rfl
    constructor
    · intro pre post
      show kindD _ _ = _
      unfold kindD
      rw [h1, bindD_ok]
      have e2 : (UInt8.ofNat t.toNat).toNat = t.toNat := by simp; omega
      rw [e2, if_neg (by omega)]
      simp
      omega
    · intro pre e' s h3 h4
      show kindD _ _ = _
      unfold kindD
      rw [h2 pre e' s h3 h4]; rfl
  · cases he
theorem rev_fld (f : FldD) : Rev (fldE f) (fun bs p => fldD bs p) f := by
  have h := (rev_name f.name).bind (D2 := fun l bs q => bindD (kindD bs q) fun t r => .ok (FldD.mk (bytA l) t, r)) ((rev_kind f.ty).map fun t => FldD.mk (bytA f.name.data.toList) t)
  have e : bytA f.name.data.toList = f.name := rfl
  rw [e] at h
  exact h
theorem getD_at {α : Type} (l : List α) (z : α) (i : Nat) (hi : i < l.length) : l.getD i z = l[i] := by rw [List.getD_eq_getElem?_getD, List.getElem?_eq_getElem hi]; rfl
theorem rev_cls (c : ClsD) : Rev (clsE c) (fun bs p => clsD bs p) c := by
  have hf := rev_list (f := fun i => fldE (c.fields.getD i ⟨.empty, 0⟩)) (D := fun bs p => fldD bs p) (most := 15) c.fields (by decide) (fun i hi => by show Rev (fldE (c.fields.getD i ⟨.empty, 0⟩)) _ _; rw [getD_at _ _ _ hi]; exact rev_fld _)
  have h := (rev_name c.name).bind (D2 := fun l bs q => bindD (listD bs (fldD bs) 15 q) fun fs r => .ok (ClsD.mk (bytA l) fs, r)) (hf.map fun fs => ClsD.mk (bytA c.name.data.toList) fs)
  exact h
theorem rev_kinds (l : List Int) (most : Nat) (hm : most ≤ 1000) : Rev (kindsE l most) (fun bs p => listD bs (kindD bs) most p) l :=
  rev_list (f := fun i => kindE (l.getD i 0)) (D := fun bs p => kindD bs p) l hm (fun i hi => by show Rev (kindE (l.getD i 0)) _ _; rw [getD_at _ _ _ hi]; exact rev_kind _)
end Go.Proofs.Ytffelcidckbohaa
/- What is written is read again: instructions, functions, programs. No condition. -/
namespace Go.Proofs.Ytffelcidckbohaa
open Go.RowKit
set_option linter.unusedVariables false
theorem unf_fold (a : Int) : unfI (foldN a) = a := by
  unfold unfI foldN
  by_cases h : a < 0
  · rw [if_pos h, if_pos (by omega)]; omega
  · rw [if_neg h, if_neg (by omega)]; omega
theorem andE_two (l m : List UInt8) : andE (.ok l) (.ok m) = .ok (l ++ m) := rfl
/-- an operand of numbers up to so many, in its place -/
theorem rev_small {a most : Int} (h0 : 0 ≤ a) (h1 : a ≤ 2147483647) : Rev (.ok (numB a.toNat)) (fun bs p => bindD (numD bs 2147483647 p) fun n r => .ok ((n : Int), r)) a := by
  have h := (rev_num (n := a.toNat) (most := 2147483647) (by omega) (by omega)).map fun n => (n : Int)
  have e : ((a.toNat : Nat) : Int) = a := by omega
  simp only [e] at h
  exact h
theorem Rev.congr {α : Type} {E : Res} {D D' : List UInt8 → Nat → Rd α} {a : α} (h : Rev E D a) (hD : ∀ bs p, D' bs p = D bs p) : Rev E D' a := by
  intro e he
  obtain ⟨h1, h2⟩ := h e he
  exact ⟨fun pre post => (hD _ _).trans (h1 pre post), fun pre e' t h3 h4 => (hD _ _).trans (h2 pre e' t h3 h4)⟩
theorem rev_argA (i : InsD) (op : Nat) (ho : i.op = (op : Int)) (hr : rightB i = true) (hI : I64 i.a) : Rev (.ok (if i.op = 1 then numB (foldN i.a) else if 1 ≤ opsI i.op then numB i.a.toNat else [])) (fun bs p => argA bs op p) i.a := by
  unfold rightB at hr
  by_cases h1 : i.op = 1
  · rw [if_pos h1]
    have e : op = 1 := by omega
    subst e
    have h := (rev_num (n := foldN i.a) (most := 18446744073709551615) (by have := foldN_lt hI; omega) (foldN_lt hI)).map unfI
    rw [unf_fold] at h
    exact h.congr fun bs p => by rw [argA, if_pos rfl]
  · rw [if_neg h1]
    have hn : op ≠ 1 := by omega
    by_cases h2 : 1 ≤ opsI i.op
    · rw [if_pos h2]
      have hs : smallB i.a = true := by
        rcases opsI_cases i.op with k | k | k | k
        · omega
        · omega
        · rw [k] at hr; simp [h1] at hr; exact hr.1
        · rw [k] at hr; simp at hr; exact hr.1
      simp [smallB] at hs
      exact (rev_small (most := 0) hs.1 hs.2).congr fun bs p => by rw [argA, if_neg hn, if_pos (by rw [← ho]; exact h2)]
    · rw [if_neg h2]
      have ha : i.a = 0 := by
        rcases opsI_cases i.op with k | k | k | k
        · rw [k] at hr; simp at hr
        · rw [k] at hr; simp at hr; exact hr.1
        · omega
        · omega
      rw [ha]
      exact (Rev.nil (0 : Int)).congr fun bs p => by rw [argA, if_neg hn, if_neg (by rw [← ho]; exact h2)]
theorem rev_argB (i : InsD) (op : Nat) (ho : i.op = (op : Int)) (hr : rightB i = true) : Rev (.ok (if opsI i.op = 2 then numB i.b.toNat else [])) (fun bs p => argB bs op p) i.b := by
  unfold rightB at hr
  by_cases h2 : opsI i.op = 2
  · rw [if_pos h2]
    rw [h2] at hr
    simp [smallB] at hr
    exact (rev_small (most := 0) hr.2.1 hr.2.2).congr fun bs p => by rw [argB, if_pos (by rw [← ho]; exact h2)]
  · rw [if_neg h2]
    have hb : i.b = 0 := by
      rcases opsI_cases i.op with k | k | k | k
      · rw [k] at hr; simp at hr
      · rw [k] at hr; simp at hr; exact hr.2
      · rw [k] at hr; simp at hr; exact hr.2
      · omega
    rw [hb]
    exact (Rev.nil (0 : Int)).congr fun bs p => by rw [argB, if_neg (by rw [← ho]; exact h2)]
theorem rev_ins (i : InsD) (hI : I64 i.a) : Rev (insE i) (fun bs p => insD bs p) i := by
  intro e he
  unfold insE at he
  split at he
  · rename_i hr
    have ho : 0 ≤ opsI i.op := by
      rcases opsI_cases i.op with k | k | k | k
      · unfold rightB at hr; rw [k] at hr; simp at hr
      all_goals omega
    have hop : 1 ≤ i.op ∧ i.op ≤ 39 := by unfold opsI at ho; split at ho <;> omega
    have hb : (UInt8.ofNat i.op.toNat).toNat = i.op.toNat := by simp; omega
    have hoi : i.op = ((i.op.toNat : Nat) : Int) := by omega
    have hA := rev_argA i i.op.toNat hoi hr hI
    have hB := rev_argB i i.op.toNat hoi hr
    have h2 := hA.bind (D2 := fun a bs r => bindD (argB bs i.op.toNat r) fun m s => .ok (InsD.mk i.op.toNat a m, s)) (hB.map fun m => InsD.mk i.op.toNat i.a m)
    have h3 := (rev_next (UInt8.ofNat i.op.toNat)).bind (D2 := fun b bs q => if opsI (b.toNat : Int) < 0 then .error (30, 0) else bindD (argA bs b.toNat q) fun a r => bindD (argB bs b.toNat r) fun m s => .ok (InsD.mk b.toNat a m, s)) (a := UInt8.ofNat i.op.toNat) (b := InsD.mk i.op.toNat i.a i.b) (h2.congr fun bs p => by
      rw [hb, ← hoi, if_neg (by omega)])
    have e1 : InsD.mk i.op.toNat i.a i.b = i := by rw [← hoi]
    rw [e1] at h3
    obtain ⟨h4, h5⟩ := h3 e (by rw [← he]; rfl)
    refine ⟨fun pre post => ?_, fun pre e' t h6 h7 => ?_⟩
    · rw [← h4 pre post]
      show insD _ _ = bindD _ _
      unfold insD
      have hn : nextD (pre ++ e ++ post) pre.length = .ok (UInt8.ofNat i.op.toNat, pre.length + 1) := by
        injection he with he
        rw [← he, insL]
        unfold nextD
        rw [List.append_assoc, List.getElem?_append_right (Nat.le_refl _)]
        simp
      rw [hn, bindD_ok, bindD_ok, hb, ← hoi, if_neg (by omega), if_neg (by omega)]
    · rw [← h5 pre e' t h6 h7]
      show insD _ _ = bindD _ _
      unfold insD
      cases hn : nextD (pre ++ e') pre.length with
      | error x => rfl
      | ok z =>
        obtain ⟨b, q⟩ := z
        rw [bindD_ok, bindD_ok]
        have hb2 : b = UInt8.ofNat i.op.toNat := by
          unfold nextD at hn
          rw [List.getElem?_append_right (Nat.le_refl _), Nat.sub_self] at hn
          injection he with he
          rw [← he, insL] at h6
          cases e' with
          | nil => cases hn
          | cons c r =>
            injection h6 with h6 _
            simp at hn
            rw [← hn.1, ← h6]
        subst hb2
        rw [hb, ← hoi, if_neg (by omega), if_neg (by omega)]
  · cases he
theorem rev_fun (f : FunD) (hI : ∀ i ∈ f.code, I64 i.a) : Rev (funE f) (fun bs p => funD bs p) f := by
  have h5 := rev_list (f := fun i => insE (f.code.getD i ins0)) (D := fun bs p => insD bs p) (most := 256) f.code (by decide) (fun i hi => by show Rev (insE (f.code.getD i ins0)) _ _; rw [getD_at _ _ _ hi]; exact rev_ins _ (hI _ (List.getElem_mem hi)))
  have h4 := (rev_kinds f.locals 16 (by decide)).bind (D2 := fun ls bs u => bindD (listD bs (insD bs) 256 u) fun is v => .ok (FunD.mk (bytA f.name.data.toList) f.params f.result ls is, v)) (h5.map fun is => FunD.mk (bytA f.name.data.toList) f.params f.result f.locals is)
  have h3 := (rev_kind f.result).bind (D2 := fun t bs s => bindD (listD bs (kindD bs) 16 s) fun ls u => bindD (listD bs (insD bs) 256 u) fun is v => .ok (FunD.mk (bytA f.name.data.toList) f.params t ls is, v)) h4
  have h2 := (rev_kinds f.params 6 (by decide)).bind (D2 := fun ps bs r => bindD (kindD bs r) fun t s => bindD (listD bs (kindD bs) 16 s) fun ls u => bindD (listD bs (insD bs) 256 u) fun is v => .ok (FunD.mk (bytA f.name.data.toList) ps t ls is, v)) h3
  have h1 := (rev_name f.name).bind (D2 := fun l bs q => bindD (listD bs (kindD bs) 6 q) fun ps r => bindD (kindD bs r) fun t s => bindD (listD bs (kindD bs) 16 s) fun ls u => bindD (listD bs (insD bs) 256 u) fun is v => .ok (FunD.mk (bytA l) ps t ls is, v)) h2
  have e : andE (nameE f.name) (andE (kindsE f.params 6) (andE (kindE f.result) (andE (kindsE f.locals 16) (codeE f.code)))) = funE f := by unfold funE; rw [andE_assoc, andE_assoc, andE_assoc]
  rw [← e]
  exact h1
/-- the classes and functions of a program, behind the magic -/
def tailD (bs : List UInt8) (p : Nat) : Rd PrgD := bindD (listD bs (clsD bs) 16 p) fun cs q => bindD (listD bs (funD bs) 16 q) fun fs r => .ok (⟨cs, fs⟩, r)
theorem rev_tail (p : PrgD) (hI : ∀ f ∈ p.funcs, ∀ i ∈ f.code, I64 i.a) : Rev (andE (clssE p) (funsE p)) tailD p := by
  have h1 := rev_list (f := fun i => clsE (p.classes.getD i cls0)) (D := fun bs q => clsD bs q) (most := 16) p.classes (by decide) (fun i hi => by show Rev (clsE (p.classes.getD i cls0)) _ _; rw [getD_at _ _ _ hi]; exact rev_cls _)
  have h2 := rev_list (f := fun i => funE (p.funcs.getD i fun0)) (D := fun bs q => funD bs q) (most := 16) p.funcs (by decide) (fun i hi => by show Rev (funE (p.funcs.getD i fun0)) _ _; rw [getD_at _ _ _ hi]; exact rev_fun _ (hI _ (List.getElem_mem hi)))
  exact h1.bind (D2 := fun cs bs q => bindD (listD bs (funD bs) 16 q) fun fs r => .ok (PrgD.mk cs fs, r)) (h2.map fun fs => PrgD.mk p.classes fs)
theorem mag_ok (l : List UInt8) : magD (magicL ++ l) 4 = .ok ((), 4) := by
  simp [magD, nextD, magicL, bindD, magB]
theorem mag_cut (l t : List UInt8) (h : magicL = l ++ t) (ht : t ≠ []) : magD l 4 = .error (10, (l.length : Int)) := by
  unfold magicL at h
  match l, h with
  | [], _ => rfl
  | [a], h => simp at h; obtain ⟨rfl, _⟩ := h; rfl
  | [a, b], h => simp at h; obtain ⟨rfl, rfl, _⟩ := h; rfl
  | [a, b, c], h => simp at h; obtain ⟨rfl, rfl, rfl, _⟩ := h; rfl
  | [a, b, c, d], h => simp at h; exact absurd h.2.2.2.2 ht
  | a :: b :: c :: d :: e :: r, h => simp at h
theorem decI_tail (l : List UInt8) : decI (magicL ++ l) = tailD (magicL ++ l) 4 := by
  unfold decI
  rw [mag_ok, bindD_ok]; rfl
/-- what Encode gives, Decode reads -/
theorem dec_enc {p : PrgD} {w : List UInt8} (hI : ∀ f ∈ p.funcs, ∀ i ∈ f.code, I64 i.a) (h : encE p = .ok w) (post : List UInt8) : decI (w ++ post) = .ok (p, w.length) := by
  have e : encE p = andE (.ok magicL) (andE (clssE p) (funsE p)) := by unfold encE; rw [andE_assoc]
  rw [e] at h
  obtain ⟨a, b, h1, h2, rfl⟩ := andE_parts h
  injection h1 with h1
  subst h1
  have := (rev_tail p hI b h2).1 magicL post
  rw [List.append_assoc, decI_tail, ← List.append_assoc]
  rw [show (magicL ++ b).length = magicL.length + b.length by simp]
  exact this
theorem dec_cut {p : PrgD} {w l t : List UInt8} (hI : ∀ f ∈ p.funcs, ∀ i ∈ f.code, I64 i.a) (h : encE p = .ok w) (hw : w = l ++ t) (ht : t ≠ []) : decI l = .error (10, (l.length : Int)) := by
  have e : encE p = andE (.ok magicL) (andE (clssE p) (funsE p)) := by unfold encE; rw [andE_assoc]
  rw [e] at h
  obtain ⟨a, b, h1, h2, rfl⟩ := andE_parts h
  injection h1 with h1
  subst h1
  rcases List.append_eq_append_iff.1 hw with ⟨d, h3, h4⟩ | ⟨d, h3, h4⟩
  · subst h3
    rw [decI_tail]
    exact (rev_tail p hI b h2).2 magicL d t h4 ht
  · by_cases hd : d = []
    · subst hd
      simp at h3 h4
      subst h3
      have := (rev_tail p hI b h2).2 magicL [] t (by simpa using h4.symm) ht
      rw [List.append_nil] at this
      have e2 := decI_tail []
      rw [List.append_nil] at e2
      rw [e2]
      exact this
    · unfold decI
      rw [mag_cut l d h3 hd]; rfl
end Go.Proofs.Ytffelcidckbohaa
/- What is read is written so. No condition. -/
namespace Go.Proofs.Ytffelcidckbohaa
open Go.RowKit
set_option linter.unusedVariables false
/-- the bytes from p to q are e -/
def Seg (bs : List UInt8) (p q : Nat) (e : List UInt8) : Prop := q = p + e.length ∧ bs.drop p = e ++ bs.drop q
theorem Seg.trans {bs : List UInt8} {p q r : Nat} {e f : List UInt8} (h : Seg bs p q e) (h' : Seg bs q r f) : Seg bs p r (e ++ f) := by
  obtain ⟨h1, h2⟩ := h
  obtain ⟨h3, h4⟩ := h'
  exact ⟨by rw [h3, h1, List.length_append, Nat.add_assoc], by rw [h2, h4, List.append_assoc]⟩
theorem Seg.nil (bs : List UInt8) (p : Nat) : Seg bs p p [] := ⟨rfl, rfl⟩
theorem seg_next {bs : List UInt8} {p q : Nat} {b : UInt8} (h : nextD bs p = .ok (b, q)) : Seg bs p q [b] := by
  unfold nextD at h
  cases hb : bs[p]? with
  | none => rw [hb] at h; cases h
  | some c =>
    rw [hb] at h
    injection h with h
    injection h with h1 h2
    subst h1 h2
    obtain ⟨hp, hc⟩ := List.getElem?_eq_some_iff.1 hb
    exact ⟨rfl, by rw [List.drop_eq_getElem_cons hp, hc]; rfl⟩
/-- bytes of a number: all but the last one at least 128 -/
def Wf : List UInt8 → Prop
  | [] => False
  | [_] => True
  | b :: c :: l => 128 ≤ b.toNat ∧ Wf (c :: l)
theorem gath_seg : ∀ (k : Nat) (bs : List UInt8) (p : Nat) (l : List UInt8), gathD bs (k + 1) p = some l → Seg bs p (p + l.length) l ∧ Wf l ∧ l.length ≤ k + 1 ∧ (l.length < k + 1 → (lastD l).toNat < 128)
  | k, bs, p, l, h => by
    rw [gathD] at h
    cases hb : bs[p]? with
    | none => rw [hb] at h; cases h
    | some b =>
      rw [hb] at h
      simp only at h
      have hn : Seg bs p (p + 1) [b] := seg_next (by unfold nextD; rw [hb])
      split at h
      · rename_i h128
        cases k with
        | zero =>
          simp [gathD] at h
          subst h
          exact ⟨hn, trivial, Nat.le_refl _, fun h => absurd h (by simp)⟩
        | succ k =>
          cases hg : gathD bs (k + 1) (p + 1) with
          | none => rw [hg] at h; cases h
          | some m =>
            rw [hg] at h
            simp only [Option.map_some, Option.some.injEq] at h
            subst h
            obtain ⟨h1, h2, h3, h4⟩ := gath_seg k bs (p + 1) m hg
            have hm : m ≠ [] := fun e => by subst e; exact h2
            refine ⟨?_, ?_, by simp; omega, fun h => by rw [lastD_cons _ _ hm]; exact h4 (by simp at h; omega)⟩
            · have := hn.trans h1
              rw [show p + 1 + m.length = p + (b :: m).length by simp; omega] at this
              exact this
            · cases m with
              | nil => exact absurd rfl hm
              | cons c r => exact ⟨h128, h2⟩
      · injection h with h
        subst h
        refine ⟨hn, trivial, by simp, fun _ => by simp [lastD]; omega⟩
theorem wf_pos : ∀ (l : List UInt8), Wf l → (lastD l).toNat < 128 → (lastD l).toNat ≠ 0 → 0 < valD l
  | [], h, _, _ => h.elim
  | [b], _, h1, h2 => by simp [lastD] at h1 h2; simp [valD]; omega
  | b :: c :: l, h, h1, h2 => by
    rw [lastD_cons _ _ (by simp)] at h1 h2
    have := wf_pos (c :: l) h.2 h1 h2
    rw [valD]
    omega
theorem wf_numB : ∀ (l : List UInt8), Wf l → (lastD l).toNat < 128 → (1 < l.length → (lastD l).toNat ≠ 0) → numB (valD l) = l
  | [], h, _, _ => h.elim
  | [b], _, h1, _ => by
    simp [lastD] at h1
    rw [valD, valD, Nat.mod_eq_of_lt h1, numB_lo (by omega)]
    simp
  | b :: c :: l, h, h1, h2 => by
    have h3 := h2 (by simp)
    rw [lastD_cons _ _ (by simp)] at h1 h3
    have hp := wf_pos (c :: l) h.2 h1 h3
    have ih := wf_numB (c :: l) h.2 h1 (fun _ => h3)
    have hb := b.toNat_lt
    have hb2 := h.1
    rw [valD, numB_hi (by omega)]
    have e1 : (b.toNat % 128 + 128 * valD (c :: l)) / 128 = valD (c :: l) := by omega
    have e2 : 128 + (b.toNat % 128 + 128 * valD (c :: l)) % 128 = b.toNat := by omega
    rw [e1, e2, ih]
    simp
theorem seg_num {bs : List UInt8} {most p n q : Nat} (h : numD bs most p = .ok (n, q)) : Seg bs p q (numB n) := by
  cases hg : gathD bs 10 p with
  | none => rw [num_none hg] at h; cases h
  | some l =>
    rw [num_some hg] at h
    obtain ⟨h1, h2, h3, h4⟩ := gath_seg 9 bs p l hg
    split at h
    · cases h
    · rename_i k1
      split at h
      · cases h
      · rename_i k2
        split at h
        · cases h
        · injection h with h
          injection h with h5 h6
          subst h5 h6
          have hl : (lastD l).toNat < 128 := by
            by_cases e : l.length < 10
            · exact h4 e
            · by_cases q : 1 < (lastD l).toNat
              · exact absurd ⟨by omega, q⟩ k1
              · omega
          rw [wf_numB l h2 hl (fun h => by
            intro h0
            exact k2 ⟨h, h0⟩)]
          exact h1
/-- what D reads as a, E writes so -/
def Bk {α : Type} (D : List UInt8 → Nat → Rd α) (E : α → Res) : Prop := ∀ bs p a q, D bs p = .ok (a, q) → ∃ e, E a = .ok e ∧ Seg bs p q e
theorem seqE_congr {f g : Nat → Res} : ∀ n, (∀ i, i < n → f i = g i) → seqE f n = seqE g n
  | 0, _ => rfl
  | n + 1, h => by rw [seqE, seqE, seqE_congr n (fun i hi => h i (by omega)), h n (by omega)]
theorem bk_seq {α : Type} {D : List UInt8 → Nat → Rd α} {E : α → Res} (h : Bk D E) (z : α) : ∀ n bs p l q, seqD (D bs) n p = .ok (l, q) → ∃ e, seqE (fun i => E (l.getD i z)) n = .ok e ∧ Seg bs p q e
  | 0, bs, p, l, q, hs => by
    rw [seqD] at hs
    injection hs with hs
    injection hs with h1 h2
    subst h1 h2
    exact ⟨[], rfl, Seg.nil _ _⟩
  | n + 1, bs, p, l, q, hs => by
    rw [seqD] at hs
    obtain ⟨l0, q0, h1, h2⟩ := bind_ok hs
    obtain ⟨a, r, h3, h4⟩ := bind_ok h2
    injection h4 with h4
    injection h4 with h4 h5
    subst h4 h5
    obtain ⟨e1, g1, s1⟩ := bk_seq h z n bs p l0 q0 h1
    obtain ⟨e2, g2, s2⟩ := h bs q0 a r h3
    have hl := seqD_len h1
    refine ⟨e1 ++ e2, ?_, s1.trans s2⟩
    rw [seqE]
    have c1 : seqE (fun i => E ((l0 ++ [a]).getD i z)) n = seqE (fun i => E (l0.getD i z)) n := seqE_congr n fun i hi => by
      show E _ = E _
      rw [List.getD_eq_getElem?_getD, List.getD_eq_getElem?_getD, List.getElem?_append_left (by omega)]
    have c2 : (l0 ++ [a]).getD n z = a := by
      rw [List.getD_eq_getElem?_getD, List.getElem?_append_right (by omega), hl, Nat.sub_self]; rfl
    rw [c1, g1, c2, g2]; rfl
theorem bk_list {α : Type} {D : List UInt8 → Nat → Rd α} {E : α → Res} (h : Bk D E) (z : α) (most : Nat) : Bk (fun bs p => listD bs (D bs) most p) (fun l => listE l.length most fun i => E (l.getD i z)) := by
  intro bs p l q hs
  obtain ⟨n, r, h1, h2⟩ := bind_ok hs
  obtain ⟨e, h3, h4⟩ := bk_seq h z n bs r l q h2
  have hl := seqD_len h2
  have hn := numD_le h1
  refine ⟨numB n ++ e, ?_, (seg_num h1).trans h4⟩
  show listE l.length most _ = _
  unfold listE
  rw [if_neg (by omega), hl, h3]; rfl
theorem bk_next : Bk nextD (fun b => .ok [b]) := fun bs p b q h => ⟨[b], rfl, seg_next h⟩
theorem bk_name : Bk (fun bs p => txtD bs p) (fun l => nameE (bytA l)) := by
  intro bs p l q h
  obtain ⟨e, h1, h2⟩ := bk_list bk_next 0 16 bs p l q h
  refine ⟨e, ?_, h2⟩
  rw [← h1]
  show listE (bytA l).size 16 (nameF (bytA l)) = _
  have e1 : (bytA l).size = l.length := rfl
  rw [e1]
  rfl
theorem bk_kind : Bk (fun bs p => kindD bs p) kindE := by
  intro bs p t q h
  have hb := kindD_bd h
  obtain ⟨b, r, h1, h2⟩ := bind_ok h
  split at h2
  · cases h2
  · injection h2 with h2
    injection h2 with h2 h3
    subst h2 h3
    refine ⟨[b], ?_, seg_next h1⟩
    unfold kindE
    rw [if_pos (by omega)]
    simp
theorem bk_fld : Bk (fun bs p => fldD bs p) fldE := by
  intro bs p f q h
  obtain ⟨l, r, h1, h2⟩ := bind_ok h
  obtain ⟨t, s, h3, h4⟩ := bind_ok h2
  injection h4 with h4
  injection h4 with h4 h5
  subst h4 h5
  obtain ⟨e1, g1, s1⟩ := bk_name bs p l r h1
  obtain ⟨e2, g2, s2⟩ := bk_kind bs r t s h3
  change nameE (bytA l) = _ at g1
  exact ⟨e1 ++ e2, by show andE (nameE (bytA l)) (kindE t) = _; rw [g1, g2]; rfl, s1.trans s2⟩
theorem bk_cls : Bk (fun bs p => clsD bs p) clsE := by
  intro bs p c q h
  obtain ⟨l, r, h1, h2⟩ := bind_ok h
  obtain ⟨fs, s, h3, h4⟩ := bind_ok h2
  injection h4 with h4
  injection h4 with h4 h5
  subst h4 h5
  obtain ⟨e1, g1, s1⟩ := bk_name bs p l r h1
  obtain ⟨e2, g2, s2⟩ := bk_list bk_fld ⟨.empty, 0⟩ 15 bs r fs s h3
  change nameE (bytA l) = _ at g1
  change listE fs.length 15 (fun i => fldE (fs.getD i ⟨.empty, 0⟩)) = _ at g2
  exact ⟨e1 ++ e2, by show andE (nameE (bytA l)) (listE fs.length 15 fun i => fldE (fs.getD i ⟨.empty, 0⟩)) = _; rw [g1, g2]; rfl, s1.trans s2⟩
theorem bk_kinds (most : Nat) : Bk (fun bs p => listD bs (kindD bs) most p) (fun l => kindsE l most) := bk_list bk_kind 0 most
theorem fold_unf (n : Nat) : foldN (unfI n) = n := by
  unfold unfI foldN
  by_cases h : n % 2 = 1
  · rw [if_pos h, if_pos (by omega)]; omega
  · rw [if_neg h, if_neg (by omega)]; omega
theorem bk_argA {bs : List UInt8} {b p : Nat} {a : Int} {q : Nat} (h : argA bs b p = .ok (a, q)) (ho : 0 ≤ opsI (b : Int)) : Seg bs p q (if (b : Int) = 1 then numB (foldN a) else if 1 ≤ opsI (b : Int) then numB a.toNat else []) ∧ (b ≠ 1 → smallB a = true) ∧ (opsI (b : Int) = 0 → a = 0) := by
  unfold argA at h
  by_cases h1 : b = 1
  · subst h1
    rw [if_pos rfl] at h
    obtain ⟨n, r, h2, h3⟩ := bind_ok h
    injection h3 with h3
    injection h3 with h3 h4
    subst h3 h4
    refine ⟨?_, fun e => absurd rfl e, fun e => absurd e (by decide)⟩
    rw [if_pos (by decide), fold_unf]
    exact seg_num h2
  · rw [if_neg h1] at h
    have h1' : ¬ (b : Int) = 1 := by omega
    rw [if_neg h1']
    by_cases h2 : 1 ≤ opsI (b : Int)
    · rw [if_pos h2] at h ⊢
      obtain ⟨n, r, h3, h4⟩ := bind_ok h
      injection h4 with h4
      injection h4 with h4 h5
      subst h4 h5
      have := numD_le h3
      exact ⟨by simpa using seg_num h3, fun _ => by simp [smallB]; omega, fun e => by omega⟩
    · rw [if_neg h2] at h ⊢
      injection h with h
      injection h with h4 h5
      subst h4 h5
      exact ⟨Seg.nil _ _, fun _ => by decide, fun _ => rfl⟩
theorem bk_argB {bs : List UInt8} {b p : Nat} {a : Int} {q : Nat} (h : argB bs b p = .ok (a, q)) : Seg bs p q (if opsI (b : Int) = 2 then numB a.toNat else []) ∧ smallB a = true ∧ (opsI (b : Int) ≠ 2 → a = 0) := by
  unfold argB at h
  by_cases h2 : opsI (b : Int) = 2
  · rw [if_pos h2] at h ⊢
    obtain ⟨n, r, h3, h4⟩ := bind_ok h
    injection h4 with h4
    injection h4 with h4 h5
    subst h4 h5
    have := numD_le h3
    exact ⟨by simpa using seg_num h3, by simp [smallB]; omega, fun e => absurd h2 e⟩
  · rw [if_neg h2] at h ⊢
    injection h with h
    injection h with h4 h5
    subst h4 h5
    exact ⟨Seg.nil _ _, by decide, fun _ => rfl⟩
theorem bk_ins : Bk (fun bs p => insD bs p) insE := by
  intro bs p i q h
  obtain ⟨b, r, h1, h2⟩ := bind_ok h
  split at h2
  · cases h2
  · rename_i ho
    obtain ⟨a, s, h3, h4⟩ := bind_ok h2
    obtain ⟨m, u, h5, h6⟩ := bind_ok h4
    injection h6 with h6
    injection h6 with h6 h7
    subst h6 h7
    obtain ⟨s1, k1, k2⟩ := bk_argA h3 (by omega)
    obtain ⟨s2, k3, k4⟩ := bk_argB h5
    have hr : rightB (InsD.mk b.toNat a m) = true := by
      unfold rightB
      show (if opsI (b.toNat : Int) = 0 then _ else _) = true
      rcases opsI_cases (b.toNat : Int) with k | k | k | k
      · omega
      · rw [if_pos k, k2 k, k4 (by omega)]; simp
      · rw [if_neg (by omega), if_pos k, k4 (by omega)]
        by_cases hb1 : b.toNat = 1
        · simp [hb1]
        · simp [k1 hb1]
      · have hb1 : b.toNat ≠ 1 := fun e => by rw [e] at k; exact absurd k (by decide)
        rw [if_neg (by omega), if_neg (show ¬ opsI ((b.toNat : Nat) : Int) = 1 by omega), if_pos k]
        show (smallB a && smallB m) = true
        rw [k1 hb1, k3]; rfl
    refine ⟨insL (InsD.mk b.toNat a m), by unfold insE; rw [if_pos hr], ?_⟩
    have e : insL (InsD.mk b.toNat a m) = [b] ++ ((if ((b.toNat : Nat) : Int) = 1 then numB (foldN a) else if 1 ≤ opsI (b.toNat : Int) then numB a.toNat else []) ++ (if opsI (b.toNat : Int) = 2 then numB m.toNat else [])) := by
      unfold insL
      show UInt8.ofNat ((b.toNat : Nat) : Int).toNat :: _ = _
      simp
    rw [e]
    exact (seg_next h1).trans (s1.trans s2)
theorem bk_fun : Bk (fun bs p => funD bs p) funE := by
  intro bs p f q h
  obtain ⟨l, r1, h1, h2⟩ := bind_ok h
  obtain ⟨ps, r2, h3, h4⟩ := bind_ok h2
  obtain ⟨t, r3, h5, h6⟩ := bind_ok h4
  obtain ⟨ls, r4, h7, h8⟩ := bind_ok h6
  obtain ⟨is, r5, h9, h10⟩ := bind_ok h8
  injection h10 with h10
  injection h10 with h10 h11
  subst h10 h11
  obtain ⟨e1, g1, s1⟩ := bk_name bs p l r1 h1
  obtain ⟨e2, g2, s2⟩ := bk_kinds 6 bs r1 ps r2 h3
  obtain ⟨e3, g3, s3⟩ := bk_kind bs r2 t r3 h5
  obtain ⟨e4, g4, s4⟩ := bk_kinds 16 bs r3 ls r4 h7
  obtain ⟨e5, g5, s5⟩ := bk_list bk_ins ins0 256 bs r4 is r5 h9
  refine ⟨e1 ++ e2 ++ e3 ++ e4 ++ e5, ?_, (((s1.trans s2).trans s3).trans s4).trans s5⟩
  change nameE (bytA l) = _ at g1
  change kindsE ps 6 = _ at g2
  change kindsE ls 16 = _ at g4
  change listE is.length 256 (fun i => insE (is.getD i ins0)) = _ at g5
  show andE (andE (andE (andE (nameE (bytA l)) (kindsE ps 6)) (kindE t)) (kindsE ls 16)) (listE is.length 256 fun i => insE (is.getD i ins0)) = _
  rw [g1, g2, g3, g4, g5]; rfl
theorem seg_mag {bs : List UInt8} : ∀ i p, i ≤ 4 → magD bs i = .ok ((), p) → Seg bs 0 p (magB.take i)
  | 0, p, _, h => by rw [magD] at h; injection h with h; injection h with _ h; subst h; exact Seg.nil _ _
  | i + 1, p, hi, h => by
    rw [magD] at h
    obtain ⟨_, q, h1, h2⟩ := bind_ok h
    obtain ⟨b, r, h3, h4⟩ := bind_ok h2
    split at h4
    · rename_i hb
      injection h4 with h4
      injection h4 with _ h4
      subst h4
      have s1 := seg_mag i q (by omega) h1
      have s2 := seg_next h3
      have e : magB.take (i + 1) = magB.take i ++ [b] := by
        rw [hb]
        match i, hi with
        | 0, _ => rfl
        | 1, _ => rfl
        | 2, _ => rfl
        | 3, _ => rfl
      rw [e]
      exact s1.trans s2
    · cases h4
/-- what Decode reads, Encode writes so -/
theorem enc_dec {bs : List UInt8} {p : PrgD} (h : decD bs = .ok p) : encE p = .ok bs := by
  unfold decD at h
  split at h
  · cases h
  · cases hI : decI bs with
    | error x => rw [hI] at h; cases h
    | ok z =>
      obtain ⟨p', q⟩ := z
      rw [hI] at h
      simp only at h
      split at h
      · cases h
      · rename_i hq
        injection h with h
        subst h
        obtain ⟨_, r, h1, h2⟩ := bind_ok hI
        obtain ⟨cs, r2, h3, h4⟩ := bind_ok h2
        obtain ⟨fs, r3, h5, h6⟩ := bind_ok h4
        injection h6 with h6
        injection h6 with h6 h7
        subst h6 h7
        have s0 := seg_mag 4 r (Nat.le_refl _) h1
        obtain ⟨e1, g1, s1⟩ := bk_list bk_cls cls0 16 bs r cs r2 h3
        obtain ⟨e2, g2, s2⟩ := bk_list bk_fun fun0 16 bs r2 fs r3 h5
        have s := (s0.trans s1).trans s2
        have e : bs = magB.take 4 ++ e1 ++ e2 := by
          have := s.2
          rw [List.drop_zero, List.drop_eq_nil_of_le (by omega), List.append_nil] at this
          exact this
        change listE cs.length 16 (fun i => clsE (cs.getD i cls0)) = _ at g1
        change listE fs.length 16 (fun i => funE (fs.getD i fun0)) = _ at g2
        show andE (andE (.ok magicL) (listE cs.length 16 fun i => clsE (cs.getD i cls0))) (listE fs.length 16 fun i => funE (fs.getD i fun0)) = _
        rw [g1, g2, e]; rfl
end Go.Proofs.Ytffelcidckbohaa
