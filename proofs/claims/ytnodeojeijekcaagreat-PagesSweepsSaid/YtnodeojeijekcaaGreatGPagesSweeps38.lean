/- Pages and turns of the laws of pages, as arguments. No condition. -/
import Derived.Deep.Slices
import Derived.Deep.Fields
import Derived.ChangeSame
import Derived.Test.YtnodeojeijekcaaGreatGB01
import Derived.Test.YtnodeojeijekcaaGreatGB10
import Derived.Test.YtnodeojeijekcaaGreatGPagesSweeps37
namespace Go.Proofs.YtnodeojeijekcaaGreat
open Go.ChangeShapes Go.WideShapes Go.ChangeAt Go.RowKit Go.Deep
set_option linter.unusedVariables false
section
variable {H : Type} {enc : TypeId × Value → H} {P : Program} {w : World} {base : Nat} {spare : Nat → Bool} {held : Bool}
/-- a slice of structs whose fields may be structs -/
theorem open_rows {α : Type} {sz : Nat} {el : World → Nat → Nat → α → Prop} {t e : TypeId} {fuel : Nat} {v : Value} {x : DataW H × List MemPlace} (ht : P.underlying t = some (.slice e)) (hC : P.cellsOf e = sz) (hsz : 0 < sz) (h : DataW.trod enc P w base spare held fuel t [v] = some x)
    (hel : ∀ b k cs n y, cs.length = sz → (∀ j, j < sz → w.cell? ⟨b, k + j, none⟩ = cs[j]?) → DataW.trod enc P w base spare held n e cs = some y → ∃ a, el w b k a) : ∃ l, RdRow sz el w.heap.size w v l := by
  rcases open_slice ht h with h0 | ⟨a, len, cap, m, n, D, Pl, hcs, hb, hl, hm, hmm, hx, hi⟩
  · obtain rfl : v = .slice none 0 0 := by simpa using h0.1
    exact ⟨[], none, 0, rfl, by unfold maxLen; simp, fun i hi => absurd hi (by simp)⟩
  · obtain rfl : v = .slice (some a) len cap := by simpa using hcs
    rw [hC] at hi
    rcases Nat.eq_zero_or_pos len with e0 | hpos
    · subst e0; exact ⟨[], _, _, rfl, by unfold maxLen; simp, fun i hi => absurd hi (by simp)⟩
    have hml : len ≤ m := by split at hmm <;> omega
    obtain ⟨b, o, s⟩ := a
    have hs : s = none := by
      obtain ⟨cs', hc, _⟩ := hi 0 (by omega)
      obtain ⟨_, hcl, hat⟩ := World.cells?_some hc
      have h1 := hat 0 hsz
      rw [List.getElem?_eq_getElem (by omega)] at h1
      simpa [Addr.add] using World.cell?_spot h1
    subst hs
    have e1 : ∀ k, (⟨b, o, none⟩ : Addr).add k = ⟨b, o + k, none⟩ := fun k => by unfold Addr.add; split <;> simp_all
    have e2 : ∀ q k, (⟨b, q, none⟩ : Addr).add k = ⟨b, q + k, none⟩ := fun q k => by unfold Addr.add; split <;> simp_all
    obtain ⟨l, hl', hp⟩ := chooseL (p := fun i a => b < w.heap.size ∧ el w b (o + i * sz) a) (m := len) (fun i hil => by
      obtain ⟨cs', hc, ht'⟩ := hi i (by omega)
      obtain ⟨_, hcl, hat⟩ := World.cells?_some hc
      rw [e1] at hat
      have hat' : ∀ j, j < sz → w.cell? ⟨b, o + i * sz + j, none⟩ = cs'[j]? := fun j hj => by
        have := hat j hj
        rw [e2] at this
        exact this
      obtain ⟨y, hy⟩ := hel b (o + i * sz) cs' n _ hcl hat' ht'
      have h1 := hat' 0 hsz
      rw [List.getElem?_eq_getElem (by omega)] at h1
      exact ⟨y, World.block_lt_of_cell? w _ h1, hy⟩)
    subst hl'
    exact ⟨l, _, _, rfl, by omega, fun i hil => ⟨b, o, rfl, (hp i hil).1, (hp i hil).2⟩⟩
end
section
variable {H : Type} {enc : TypeId × Value → H} {w : World} {base : Nat} {spare : Nat → Bool} {held : Bool}
set_option maxRecDepth 100000 in
theorem ent_leaves {n : Nat} {y : DataW H × List MemPlace} {c0 c1 c2 c3 c4 : Value} (h : DataW.trod enc Tryz.prog w base spare held n 71 [c0, c1, c2, c3, c4] = some y) : ∃ k c s o z : Int, c0 = .int .i64 k ∧ c1 = .int .i64 c ∧ c2 = .int .i64 s ∧ c3 = .int .i64 o ∧ c4 = .int .i64 z := by
  have hI : Tryz.prog.cellsOf 3 = 1 := by kernel_rfl
  obtain ⟨n1, G⟩ := fields_of Tryz.underlying71 h
  obtain ⟨y0, e0⟩ := G 0 _ rfl
  obtain ⟨y1, e1⟩ := G 1 _ rfl
  obtain ⟨y2, e2⟩ := G 2 _ rfl
  obtain ⟨y3, e3⟩ := G 3 _ rfl
  obtain ⟨y4, e4⟩ := G 4 _ rfl
  try simp only [hI, List.drop_succ_cons, List.drop_zero, List.take_succ_cons, List.take_zero] at e0 e1 e2 e3 e4
  obtain ⟨a0, q0, _⟩ := leaf_int Tryz.underlying3 e0
  obtain ⟨a1, q1, _⟩ := leaf_int Tryz.underlying3 e1
  obtain ⟨a2, q2, _⟩ := leaf_int Tryz.underlying3 e2
  obtain ⟨a3, q3, _⟩ := leaf_int Tryz.underlying3 e3
  obtain ⟨a4, q4, _⟩ := leaf_int Tryz.underlying3 e4
  exact ⟨a0, a1, a2, a3, a4, q0, q1, q2, q3, q4⟩
set_option maxRecDepth 100000 in
theorem open_pages {fuel : Nat} {v : Value} {x : DataW H × List MemPlace} (h : DataW.trod enc Tryz.prog w base spare held fuel 24 [v] = some x) : ∃ l, RdRow 8 ElPg w.heap.size w v l :=
  open_rows Tryz.underlying24 (by kernel_rfl) (by decide) h fun b k cs n y hcl hat ht => by
    have hI : Tryz.prog.cellsOf 47 = 1 := by kernel_rfl
    have hE : Tryz.prog.cellsOf 71 = 5 := by kernel_rfl
    obtain ⟨c0, c1, c2, c3, c4, c5, c6, c7, rfl⟩ := list8 hcl
    obtain ⟨n1, G⟩ := fields_of Tryz.underlying73 ht
    obtain ⟨y0, e0⟩ := G 0 _ rfl
    obtain ⟨y1, e1⟩ := G 1 _ rfl
    obtain ⟨y2, e2⟩ := G 2 _ rfl
    obtain ⟨y3, e3⟩ := G 3 _ rfl
    try simp only [hI, hE, List.drop_succ_cons, List.drop_zero, List.take_succ_cons, List.take_zero] at e0 e1 e2 e3
    obtain ⟨k', c', s', o', z', rfl, rfl, rfl, rfl, rfl⟩ := ent_leaves e0
    obtain ⟨a5, rfl, w5⟩ := leaf_int Tryz.underlying47 e1
    obtain ⟨a6, rfl, w6⟩ := leaf_int Tryz.underlying47 e2
    obtain ⟨a7, rfl, w7⟩ := leaf_int Tryz.underlying47 e3
    exact ⟨⟨k', c', s', o', z', a5, a6, a7⟩, ⟨hat 0 (by decide), hat 1 (by decide), hat 2 (by decide), hat 3 (by decide), hat 4 (by decide)⟩, ⟨hat 5 (by decide), hat 6 (by decide), hat 7 (by decide)⟩, wf_U64 w5, wf_U64 w6, wf_U64 w7⟩
set_option maxRecDepth 100000 in
theorem open_turns {fuel : Nat} {v : Value} {x : DataW H × List MemPlace} (h : DataW.trod enc Tryz.prog w base spare held fuel 25 [v] = some x) : ∃ l, RdRow 7 ElTn w.heap.size w v l :=
  open_rows Tryz.underlying25 (by kernel_rfl) (by decide) h fun b k cs n y hcl hat ht => by
    have hI : Tryz.prog.cellsOf 3 = 1 := by kernel_rfl
    have hE : Tryz.prog.cellsOf 71 = 5 := by kernel_rfl
    match cs, hcl with
    | [c0, c1, c2, c3, c4, c5, c6], _ =>
      obtain ⟨n1, G⟩ := fields_of Tryz.underlying87 ht
      obtain ⟨y0, e0⟩ := G 0 _ rfl
      obtain ⟨y1, e1⟩ := G 1 _ rfl
      obtain ⟨y2, e2⟩ := G 2 _ rfl
      try simp only [hI, hE, List.drop_succ_cons, List.drop_zero, List.take_succ_cons, List.take_zero] at e0 e1 e2
      obtain ⟨k', c', s', o', z', rfl, rfl, rfl, rfl, rfl⟩ := ent_leaves e2
      obtain ⟨a0, rfl, w0⟩ := leaf_int Tryz.underlying3 e0
      obtain ⟨a1, rfl, w1⟩ := leaf_int Tryz.underlying3 e1
      exact ⟨⟨a0, a1, k', c', s', o', z'⟩, ⟨hat 0 (by decide), hat 1 (by decide)⟩, hat 2 (by decide), hat 3 (by decide), hat 4 (by decide), hat 5 (by decide), hat 6 (by decide)⟩
end
theorem psweeps_law (P0 T0 R0 : Int) (v1 : Value) (l : List PgD) (who cy pg : Int) (v2 : Value) (l2 : List TnD) (w : World) (w0 : (Lit.int .i64 P0).wf = true) (w1 : (Lit.int .i64 T0).wf = true) (w2 : (Lit.int .i64 R0).wf = true) (h1 : RdRow 8 ElPg w.heap.size w v1 l) (w4 : (Lit.int .i64 who).wf = true) (w5 : (Lit.int .i64 cy).wf = true) (w6 : (Lit.int .i64 pg).wf = true) (h2 : RdRow 7 ElTn w.heap.size w v2 l2) :
    Calls Tryz.prog 3 #[.agg #[.int .i64 P0, .int .i64 T0, .int .i64 R0, v1, .int .i64 who, .int .i64 cy, .int .i64 pg, v2]] w fun e w' => e = .returned (.bool true) ∧ Below w.heap.size w w' :=
  psweeps_walk P0 T0 R0 who cy pg v1 v2 l l2 w h1 h2
end Go.Proofs.YtnodeojeijekcaaGreat
