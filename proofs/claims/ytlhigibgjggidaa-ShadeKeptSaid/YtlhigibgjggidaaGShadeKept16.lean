/- Texts of this seat, one behind the other: each says at its head what it holds. No condition of its own. -/
import Derived.Test.YtlhigibgjggidaaRows
import Derived.WalkKit
import Derived.ProofKit
import Derived.OpenShut
import Derived.ChangeOld
import Derived.Below
import Derived.Deep.Slices
import Derived.Deep.Fields
import Derived.ChangeSame
import Derived.Maps.AppendAt
import Derived.RegionTactic
import Derived.ChangeAlike
import Derived.Test.YtlhigibgjggidaaGB01
import Derived.Test.YtlhigibgjggidaaGB10
import Derived.Test.YtlhigibgjggidaaGB14
import Derived.Test.YtlhigibgjggidaaGB15
/- How an argument of plain data is opened: a struct, field by field; a slice of integers, as a row. No condition. -/
namespace Go.Proofs.Ytlhigibgjggidaa
open Go.ChangeShapes Go.WideShapes Go.ChangeAt Go.RowKit
section
variable {H : Type} {enc : TypeId × Value → H} {P : Program} {w : World} {base : Nat} {spare : Nat → Bool} {held : Bool}
/-- Each field of a struct that was read was read. -/
theorem fields_of {t : TypeId} {fs : Array Field} {fuel : Nat} {cs : List Value} {x : DataW H × List MemPlace} (hs : P.underlying t = some (.struct fs)) (h : DataW.trod enc P w base spare held fuel t cs = some x) :
    ∃ n, ∀ (i : Nat) (f : Field), fs[i]? = some f → ∃ y, DataW.trod enc P w base spare held n f.type ((cs.drop f.offset).take (P.cellsOf f.type)) = some y := by
  obtain ⟨xs, n, _, _, _, hlen, hg⟩ := DataW.trod_struct hs h
  refine ⟨n, fun i f hi => ?_⟩
  have hlt : i < xs.length := by rw [hlen]; exact (Array.getElem?_eq_some_iff.1 hi).1
  exact ⟨xs[i], by rw [hg i f hi, List.getElem?_eq_getElem hlt]⟩
theorem leaf_int {t : TypeId} {k : IntKind} {fuel : Nat} {c : Value} {x : DataW H × List MemPlace} (ht : P.underlying t = some (.int k)) (h : DataW.trod enc P w base spare held fuel t [c] = some x) :
    ∃ n, c = .int k n ∧ (Lit.int k n).wf = true := by
  obtain ⟨n, hn, _, hw⟩ := DataW.trod_int ht h
  exact ⟨n, by simpa using hn, hw⟩
end
theorem list2 {α : Type} {l : List α} (h : l.length = 2) : ∃ a b, l = [a, b] := by
  match l, h with
  | [a, b], _ => exact ⟨a, b, rfl⟩
theorem list3 {α : Type} {l : List α} (h : l.length = 3) : ∃ a b c, l = [a, b, c] := by
  match l, h with
  | [a, b, c], _ => exact ⟨a, b, c, rfl⟩
theorem list4 {α : Type} {l : List α} (h : l.length = 4) : ∃ a b c d, l = [a, b, c, d] := by
  match l, h with
  | [a, b, c, d], _ => exact ⟨a, b, c, d, rfl⟩
theorem list5 {α : Type} {l : List α} (h : l.length = 5) : ∃ a b c d e, l = [a, b, c, d, e] := by
  match l, h with
  | [a, b, c, d, e], _ => exact ⟨a, b, c, d, e, rfl⟩
theorem list6 {α : Type} {l : List α} (h : l.length = 6) : ∃ a b c d e f, l = [a, b, c, d, e, f] := by
  match l, h with
  | [a, b, c, d, e, f], _ => exact ⟨a, b, c, d, e, f, rfl⟩
theorem list8 {α : Type} {l : List α} (h : l.length = 8) : ∃ a b c d e f g i, l = [a, b, c, d, e, f, g, i] := by
  match l, h with
  | [a, b, c, d, e, f, g, i], _ => exact ⟨a, b, c, d, e, f, g, i, rfl⟩
theorem list9 {α : Type} {l : List α} (h : l.length = 9) : ∃ a b c d e f g i j, l = [a, b, c, d, e, f, g, i, j] := by
  match l, h with
  | [a, b, c, d, e, f, g, i, j], _ => exact ⟨a, b, c, d, e, f, g, i, j, rfl⟩
theorem list16 {α : Type} {l : List α} (h : l.length = 16) : ∃ a0 a1 a2 a3 a4 a5 a6 a7 a8 a9 a10 a11 a12 a13 a14 a15, l = [a0, a1, a2, a3, a4, a5, a6, a7, a8, a9, a10, a11, a12, a13, a14, a15] := by
  match l, h with
  | [a0, a1, a2, a3, a4, a5, a6, a7, a8, a9, a10, a11, a12, a13, a14, a15], _ => exact ⟨a0, a1, a2, a3, a4, a5, a6, a7, a8, a9, a10, a11, a12, a13, a14, a15, rfl⟩
end Go.Proofs.Ytlhigibgjggidaa
/- Slices of structs of integers, as arguments: what a walk is told of one; and Words of the document at two slices. No condition. -/
namespace Go.Proofs.Ytlhigibgjggidaa
open Go.ChangeShapes Go.WideShapes Go.ChangeAt Go.RowKit Go.Deep
section
variable {H : Type} {enc : TypeId × Value → H} {P : Program} {w : World} {base : Nat} {spare : Nat → Bool} {held : Bool}
theorem open_slice_fields {t e : TypeId} {fs : Array Field} {fuel : Nat} {cs : List Value} {x : DataW H × List MemPlace} (ht : P.underlying t = some (.slice e)) (he : P.underlying e = some (.struct fs))
    (hone : oneCellFields P fs = true) (hC : P.cellsOf e = fs.size) (h : DataW.trod enc P w base spare held fuel t cs = some x) :
    (cs = [.slice none 0 0]) ∨
    ∃ (a : Addr) (len cap m : Nat), cs = [.slice (some a) len cap] ∧ len ≤ cap ∧ cap ≤ maxLen ∧ m = (if spare a.block then cap else len) ∧
      ∀ i, i < m → ∃ n : Nat, ∀ (j : Nat) (f : Field), fs[j]? = some f → ∃ (v : Value) (y : DataW H × List MemPlace), w.cell? (a.add (i * fs.size + j)) = some v ∧ DataW.trod enc P w base spare held n f.type [v] = some y := by
  rcases open_slice ht h with h0 | ⟨a, len, cap, m, n, D, Pl, hcs, hb, hl, hm, hmm, hx, hi⟩
  · exact .inl h0.1
  · refine .inr ⟨a, len, cap, m, hcs, hl, hm, hmm, fun i him => ?_⟩
    obtain ⟨cs', hc, ht'⟩ := hi i him
    rw [hC] at hc
    obtain ⟨ys, n', hn', hy, hlen, hyl, hf⟩ := DataW.trod_struct he ht'
    obtain ⟨_, hcl, hat⟩ := World.cells?_some hc
    refine ⟨n', fun j f hj => ?_⟩
    obtain ⟨ho, hk⟩ := hone_of hone j f hj
    have hjl : j < fs.size := (Array.getElem?_eq_some_iff.1 hj).1
    have hcell := hat j hjl
    have hv : cs'[j]? = some (cs'[j]'(by omega)) := List.getElem?_eq_getElem (by omega)
    have h1 := hf j f hj
    rw [ho, hk] at h1
    have hone' : (cs'.drop j).take 1 = [cs'[j]'(by omega)] := by
      rw [List.drop_eq_getElem_cons (by omega)]
      rfl
    rw [hone'] at h1
    have hys : ys[j]? = some (ys[j]'(by omega)) := List.getElem?_eq_getElem (by omega)
    refine ⟨_, _, ?_, h1.trans hys⟩
    rw [← Go.Deep.add_add, hcell, hv]
end
/-- A slice of structs of nf integers, field j of kind kd j: nil, or the elements' numbers F i j. -/
def RowS (nf : Nat) (kd : Nat → IntKind) (w : World) (a : Option Addr) (len _cap : Nat) (F : Nat → Nat → Int) : Prop :=
  len ≤ maxLen ∧ (len = 0 ∨ (∃ b o, a = some ⟨b, o, none⟩ ∧ b < w.heap.size ∧ ∀ i, i < len → ∀ j, j < nf → w.cell? ⟨b, o + i * nf + j, none⟩ = some (.int (kd j) (F i j)) ∧ (Lit.int (kd j) (F i j)).wf = true))
theorem choose2 {p : Nat → Nat → Int → Prop} {m nf : Nat} (h : ∀ i, i < m → ∀ j, j < nf → ∃ n : Int, p i j n) : ∃ F : Nat → Nat → Int, ∀ i, i < m → ∀ j, j < nf → p i j (F i j) := by
  refine ⟨fun i j => if h' : i < m ∧ j < nf then Classical.choose (h i h'.1 j h'.2) else 0, fun i hi j hj => ?_⟩
  simp only [dif_pos (And.intro hi hj)]
  exact Classical.choose_spec (h i hi j hj)
theorem rowS_mk {H : Type} {enc : TypeId × Value → H} {P : Program} {w : World} {base : Nat} {spare : Nat → Bool} {held : Bool} {fs : Array Field} {nf : Nat} {kd : Nat → IntKind} {x : Addr} {len cap m : Nat} (hfs : fs.size = nf)
    (hk : ∀ j, j < nf → ∃ f, fs[j]? = some f ∧ P.underlying f.type = some (.int (kd j))) (hl : len ≤ m) (hmax : len ≤ maxLen) (hn : 0 < nf)
    (hi : ∀ i, i < m → ∃ n : Nat, ∀ (j : Nat) (f : Field), fs[j]? = some f → ∃ (v : Value) (y : DataW H × List MemPlace), w.cell? (x.add (i * fs.size + j)) = some v ∧ DataW.trod enc P w base spare held n f.type [v] = some y) :
    ∃ F, RowS nf kd w (some x) len cap F := by
  subst hfs
  rcases Nat.eq_zero_or_pos len with h0 | h0
  · exact ⟨fun _ _ => 0, hmax, .inl h0⟩
  · obtain ⟨F, hF⟩ := choose2 (p := fun i j n => w.cell? (x.add (i * fs.size + j)) = some (.int (kd j) n) ∧ (Lit.int (kd j) n).wf = true) (m := len) (nf := fs.size) (fun i hil j hj => by
      obtain ⟨n, hf⟩ := hi i (Nat.lt_of_lt_of_le hil hl)
      obtain ⟨f, hfj, hu⟩ := hk j hj
      obtain ⟨v, y, hc, ht⟩ := hf j f hfj
      obtain ⟨q, rfl, hw⟩ := leaf_int hu ht
      exact ⟨q, hc, hw⟩)
    obtain ⟨b, o, s⟩ := x
    have hs : s = none := by simpa [Addr.add] using World.cell?_spot (hF 0 h0 0 hn).1
    subst hs
    have e1 : ∀ k, (⟨b, o, none⟩ : Addr).add k = ⟨b, o + k, none⟩ := fun k => by unfold Addr.add; split <;> simp_all
    refine ⟨F, hmax, .inr ⟨b, o, rfl, World.block_lt_of_cell? w _ ((e1 _) ▸ (hF 0 h0 0 hn).1), fun i hil j hj => ?_⟩⟩
    have := hF i hil j hj
    rw [e1, ← Nat.add_assoc] at this
    exact this
end Go.Proofs.Ytlhigibgjggidaa
/- What slices.Clone returns at a slice of words, and Image of an arena. Condition: the cells are there. -/
namespace Go.Proofs.Ytlhigibgjggidaa
open Go.RowKit
theorem lst_of_own {w : World} {base : Nat} {e : TypeId} {v : Value} {n : Nat} {zs : List Int} (h : w.ownsRow base e 1 v n (zs.map (Value.int .u64))) : Lst .u64 w v zs := by
  have hn : zs.length = n := by have := h.1; simpa using this
  rcases h.2 with ⟨h1, h2⟩ | ⟨g, cap, cur, h1, _, _, h4, h5, _⟩
  · exact .inl ⟨List.eq_nil_of_length_eq_zero (by omega), none, 0, h1⟩
  · rcases Nat.eq_zero_or_pos n with h0 | h0
    · exact .inl ⟨List.eq_nil_of_length_eq_zero (by omega), _, cap, by rw [h1, h0]⟩
    · refine .inr ⟨g, 0, cap, by rw [hn]; exact h1, by omega, by omega, fun i hi => ?_⟩
      subst h1
      have := h.cellAt i (by omega)
      rw [Nat.zero_add, this]
      simp [List.getD_eq_getElem?_getD, hi]
def ClonePost (zs : List Int) (w : World) (e : Ending) (w' : World) : Prop :=
  ∃ v, e = .returned v ∧ w'.ownsRow w.heap.size 41 1 v zs.length (zs.map (Value.int .u64)) ∧ Below w.heap.size w w'
def ImagePost (cs : List Int) (w : World) (e : Ending) (w' : World) : Prop :=
  ∃ v, e = .returned v ∧ w'.ownsRow w.heap.size 41 1 v cs.length (cs.map (Value.int .u64)) ∧ Below w.heap.size w w'
end Go.Proofs.Ytlhigibgjggidaa
/- The walk of the law RingSides: it returns true, whatever is given. No condition. -/
namespace Go.Proofs.Ytlhigibgjggidaa
open Go.RowKit
theorem mod_lit (x k : Int) (h0 : 0 < k) (h1 : k ≤ 1000000) : 0 ≤ wrap64 ((IntKind.u64.wrap x).tmod k) ∧ wrap64 ((IntKind.u64.wrap x).tmod k) < k := by
  have hw : 0 ≤ IntKind.u64.wrap x := by rw [IntKind.wrap_u64]; omega
  generalize IntKind.u64.wrap x = y at *
  have e : y.tmod k = y % k := by rw [Int.tmod_eq_emod_of_nonneg hw]
  have h2 : 0 ≤ y % k := Int.emod_nonneg _ (by omega)
  have h3 : y % k < k := Int.emod_lt_of_pos _ (by omega)
  rw [e]
  generalize y % k = z at *
  rw [IntWalk.wrap64_in z ⟨by omega, by omega⟩]
  omega
theorem or_one (v : Int) (h : U64 v) : bits .or .u64 v 1 ≠ 0 ∧ U64 (bits .or .u64 v 1) := by
  obtain ⟨V, rfl⟩ := Int.eq_ofNat_of_zero_le h.1
  have h2 := h.2
  rw [show (1 : Int) = ((1 : Nat) : Int) from rfl, bits_or_u64_nat _ _ (by omega) (by decide)]
  have hb : (V ||| 1).testBit 0 = true := by simp
  have hne : V ||| 1 ≠ 0 := by
    intro e
    rw [e] at hb
    exact absurd hb (by decide)
  exact ⟨by omega, U64.nat _ (Nat.or_lt_two_pow (by omega) (by decide))⟩
/-- the cells in the midst of the law: numbers of 64 bits, and none but of one thread's ring is other than 0 -/
structure SidC (R t : Int) (N : Nat) (cs : List Int) : Prop where
  len : cs.length = N
  num : ∀ j, U64 (cs.getD j 0)
  out : ∀ j, cs.getD j 0 ≠ 0 → ownN R t 4 ≤ j ∧ j < ownN R t 4 + (R + 1).toNat
theorem getD_set (cs : List Int) (i j : Nat) (x : Int) : (cs.set i x).getD j 0 = if i = j ∧ i < cs.length then x else cs.getD j 0 := by
  simp only [List.getD_eq_getElem?_getD, List.getElem?_set]
  by_cases e : i = j
  · subst e
    by_cases h : i < cs.length
    · simp [h]
    · simp [h]
  · simp [e]
theorem SidC.set {R t : Int} {N i : Nat} {cs : List Int} {x : Int} (h : SidC R t N cs) (hx : U64 x) (hi : ownN R t 4 ≤ i ∧ i < ownN R t 4 + (R + 1).toNat) : SidC R t N (cs.set i x) := by
  refine ⟨by rw [List.length_set]; exact h.len, fun j => ?_, fun j hj => ?_⟩
  · rw [getD_set]; split
    · exact hx
    · exact h.num j
  · rw [getD_set] at hj; split at hj
    · next e => rw [← e.1]; exact hi
    · exact h.out j hj
theorem SidC.zero (R t : Int) (N : Nat) : SidC R t N (List.replicate N 0) := by
  have e : ∀ j, (List.replicate N (0 : Int)).getD j 0 = 0 := fun j => by
    simp only [List.getD_eq_getElem?_getD, List.getElem?_replicate]; split <;> rfl
  exact ⟨by simp, fun j => by rw [e]; exact ⟨by decide, by decide⟩, fun j hj => absurd (e j) hj⟩
theorem wrap_U64 (x : Int) : U64 (IntKind.u64.wrap x) := by rw [IntKind.wrap_u64]; exact ⟨by omega, by omega⟩
theorem SidC.pushed {P T R t v : Int} {N : Nat} {cs : List Int} (h : SidC R t N cs) (hx : exB P T R t = true) (hv : U64 v) : SidC R t N (pushed R t cs v) := by
  have hR := ring_bd hx
  have h0 := (status_bd hx).1
  have hm1 := Int.emod_nonneg (cs.getD (ownN R t 4) 0) (show R ≠ 0 by omega)
  have hm2 := Int.emod_lt_of_pos (cs.getD (ownN R t 4) 0) (show 0 < R by omega)
  refine (h.set hv ?_).set (wrap_U64 _) ?_
  · unfold slotN
    generalize cs.getD (ownN R t 4) 0 % R = q at *
    unfold ownN
    generalize t * (5 + R) = r at *
    omega
  · unfold ownN
    generalize t * (5 + R) = r at *
    omega
/-- all that the first loop keeps -/
structure SidI (w : World) (B a c p g qb : Nat) (P T R t : Int) (N k : Nat) (W : World) : Prop where
  ex : ∃ cs n, Ary W B a c cs n [g, p] ∧ SidC R t N cs ∧ n ≤ 4 * k
  port : PortAt W p a 3 false
  plan : Blk W qb #[.int .i64 P, .int .i64 T, .int .i64 R] 23
  was : ∀ i, i < N → W.cell? ⟨g, i, none⟩ = some (.int .u64 0)
  bel : Below w.heap.size w W
  lo : w.heap.size ≤ qb ∧ w.heap.size ≤ B ∧ qb < B ∧ B ≤ p ∧ B ≤ g
  ne : p ≠ g ∧ g < W.heap.size
theorem SidI.grew {w W W' : World} {B a c p g qb : Nat} {P T R t : Int} {N k : Nat} (h : SidI w B a c p g qb P T R t N k W) (hb : Below W.heap.size W W') : SidI w B a c p g qb P T R t N k W' := by
  obtain ⟨cs, n, h1, h2, h3⟩ := h.ex
  exact ⟨⟨cs, n, h1.grew hb, h2, h3⟩, h.port.grew hb, h.plan.grew hb, fun i hi => (hb.cell (p := ⟨g, i, none⟩) h.ne.2).trans (h.was i hi), h.bel.trans (hb.mono h.bel.size), h.lo, h.ne.1, Nat.lt_of_lt_of_le h.ne.2 hb.size⟩
/-- behind a push that is over -/
theorem SidI.done {w W W' : World} {B a c p g qb m : Nat} {P T R t v tl : Int} {fu : Bool} {N k n' : Nat} {cs' : List Int} (h : SidI w B a c p g qb P T R t N k W) (hm : W.heap.size ≤ m) (w1 : World) (hb : Below W.heap.size W w1)
    (hE : PuE w1 B a c p m P T R t v tl 0 fu cs' n' [m, g, p] 3 false W') (hc : SidC R t N cs') (hn : n' ≤ 4 * (k + 1)) : SidI w B a c p g qb P T R t N (k + 1) W' := by
  have hT := hE.touch
  have h1 := h.grew hb
  have lp := h.plan.lt
  have lg := h.ne.2
  obtain ⟨l1, l2, l3, l4, l5⟩ := h.lo
  have hs := hb.size
  refine ⟨⟨cs', n', hE.ary.sub (fun b hb => List.mem_cons_of_mem _ hb), hc, hn⟩, hE.port, h1.plan.touch hT ?_, fun i hi => ?_, h1.bel.trans (hT.below h1.bel.size ?_), h.lo, h.ne.1, Nat.lt_of_lt_of_le h1.ne.2 hT.size⟩
  · rintro (hx | hx | ⟨hx, _⟩) <;> omega
  · refine (World.cell?_of_block (hT.block g h1.ne.2 ?_)).trans (h1.was i hi)
    rintro (hx | hx | ⟨_, hx⟩)
    · exact h.ne.1 hx.symm
    · omega
    · exact hx (by simp)
  · intro x hx
    have := h.bel.size
    rcases hx with rfl | rfl | hx <;> omega
end Go.Proofs.Ytlhigibgjggidaa
/- Numbers for the law ShadeOne: the states of many machines that shade one object, and what the cells hold. No condition. -/
namespace Go.Proofs.Ytlhigibgjggidaa
open Go.RowKit
set_option linter.unusedVariables false
/-- what a machine's words are in each state: 0 begun, 1 to 4 it pushes, 5 over and fresh, 6 over and not -/
def stNx (s : Nat) : Int := if s = 0 then 1 else if s ≤ 4 then 2 else 0
def stMn (s : Nat) : Int := if s = 0 then 1 else 0
def stMf (s : Nat) : Bool := decide (1 ≤ s ∧ s ≤ 5)
def stPn (s : Nat) : Int := if s = 0 ∨ s = 6 then 1 else if s = 5 then 0 else (s : Int)
def updS (st : Nat → Nat) (k s : Nat) : Nat → Nat := fun j => if j = k then s else st j
theorem updS_eq (st : Nat → Nat) (k s : Nat) : updS st k s k = s := if_pos rfl
theorem updS_ne {st : Nat → Nat} {k s j : Nat} (h : j ≠ k) : updS st k s j = st j := if_neg h
theorem own_far {R k k' : Int} {j j' : Int} (hR : 1 ≤ R) (h0 : 0 ≤ k) (h0' : 0 ≤ k') (hj : 0 ≤ j) (hj1 : j < 5 + R) (hj' : 0 ≤ j') (hj1' : j' < 5 + R) (hne : k ≠ k') : ownN R k j ≠ ownN R k' j' := by
  unfold ownN
  have a0 : 0 ≤ k * (5 + R) := Int.mul_nonneg h0 (by omega)
  have a1 : 0 ≤ k' * (5 + R) := Int.mul_nonneg h0' (by omega)
  rcases Int.lt_or_gt_of_ne hne with h | h
  · have e : (k + 1) * (5 + R) ≤ k' * (5 + R) := Int.mul_le_mul_of_nonneg_right (by omega) (by omega)
    rw [Int.add_mul] at e
    omega
  · have e : (k' + 1) * (5 + R) ≤ k * (5 + R) := Int.mul_le_mul_of_nonneg_right (by omega) (by omega)
    rw [Int.add_mul] at e
    omega
theorem own_same {R k : Int} {j j' : Int} (h0 : 0 ≤ k) (hR : 1 ≤ R) (hj : 0 ≤ j) (hj' : 0 ≤ j') (hne : j ≠ j') : ownN R k j ≠ ownN R k j' := by
  unfold ownN
  have a0 : 0 ≤ k * (5 + R) := Int.mul_nonneg h0 (by omega)
  omega
theorem own_tab {T R k j : Int} (hR : 1 ≤ R) (h0 : 0 ≤ k) (h1 : k < T) (hj : 0 ≤ j) (hj1 : j < 5 + R) : ((ownN R k j : Nat) : Int) < tabI T R := by
  unfold ownN tabI
  have a0 : 0 ≤ k * (5 + R) := Int.mul_nonneg h0 (by omega)
  have e : (k + 1) * (5 + R) ≤ T * (5 + R) := Int.mul_le_mul_of_nonneg_right (by omega) (by omega)
  rw [Int.add_mul] at e
  omega
theorem exB_mk {P T R t : Int} (h : Right P T R) (h0 : 0 ≤ t) (h1 : t < T) : exB P T R t = true := by
  unfold exB inB; rw [of_right h, Bool.true_and]; exact decide_eq_true (by omega)
/-- the cells: M: is the mark set -/
structure CsO (P T R : Int) (ce : Nat) (bi : Int) (M : Bool) (st : Nat → Nat) (cs : List Int) : Prop where
  len : cs.length = cellsN P T R
  far : ∀ i : Nat, tabI T R ≤ (i : Int) → i ≠ ce → cs.getD i 0 = 0
  ma : cs.getD ce 0 = if M then bi else 0
  hd : ∀ k : Nat, (k : Int) < T → cs.getD (ownN R k 3) 0 = 0
  tl : ∀ k : Nat, (k : Int) < T → cs.getD (ownN R k 4) 0 = if st k = 5 then 1 else 0
section
variable {P T R : Int} {ce : Nat} {bi : Int} {M : Bool} {st : Nat → Nat} {cs : List Int}
theorem CsO.same (h : CsO P T R ce bi M st cs) {k s : Nat} (h1 : st k ≠ 5) (h2 : s ≠ 5) : CsO P T R ce bi M (updS st k s) cs := by
  refine ⟨h.len, h.far, h.ma, h.hd, fun j hj => ?_⟩
  rw [h.tl j hj]
  by_cases e : j = k
  · subst e; rw [updS_eq, if_neg h1, if_neg h2]
  · rw [updS_ne e]
theorem CsO.mark (h : CsO P T R ce bi M st cs) (hr : 1 ≤ R) (hc : tabI T R ≤ (ce : Int)) (hl : ce < cs.length) {k s : Nat} (h1 : st k ≠ 5) (h2 : s ≠ 5) : CsO P T R ce bi true (updS st k s) (cs.set ce bi) := by
  refine ⟨by rw [List.length_set]; exact h.len, fun i hi hn => ?_, ?_, fun j hj => ?_, fun j hj => ?_⟩
  · rw [getD_set, if_neg (fun e => hn e.1.symm)]; exact h.far i hi hn
  · rw [getD_set, if_pos ⟨rfl, hl⟩]; rfl
  · have := own_tab hr (Int.natCast_nonneg j) hj (show (0 : Int) ≤ 3 by decide) (by omega)
    rw [getD_set, if_neg (by omega)]; exact h.hd j hj
  · have := own_tab hr (Int.natCast_nonneg j) hj (show (0 : Int) ≤ 4 by decide) (by omega)
    rw [getD_set, if_neg (by omega)]; exact (h.same h1 h2).tl j hj
theorem CsO.slot (h : CsO P T R ce bi M st cs) (hr : 1 ≤ R) (hc : tabI T R ≤ (ce : Int)) {k s : Nat} (hk : (k : Int) < T) (h1 : st k ≠ 5) (h2 : s ≠ 5) (x : Int) : CsO P T R ce bi M (updS st k s) (cs.set (slotN R k 0) x) := by
  have e0 : slotN R k 0 = ownN R k 5 := by unfold slotN; simp
  have hs := own_tab hr (Int.natCast_nonneg k) hk (show (0 : Int) ≤ 5 by decide) (by omega)
  rw [e0]
  refine ⟨by rw [List.length_set]; exact h.len, fun i hi hn => ?_, ?_, fun j hj => ?_, fun j hj => ?_⟩
  · rw [getD_set, if_neg (by omega)]; exact h.far i hi hn
  · rw [getD_set, if_neg (by omega)]; exact h.ma
  · have : ownN R k 5 ≠ ownN R j 3 := by
      by_cases e : k = j
      · subst e; exact own_same (by omega) hr (by decide) (by decide) (by decide)
      · exact own_far hr (by omega) (by omega) (by decide) (by omega) (by decide) (by omega) (by omega)
    rw [getD_set, if_neg (fun e => this e.1)]; exact h.hd j hj
  · have : ownN R k 5 ≠ ownN R j 4 := by
      by_cases e : k = j
      · subst e; exact own_same (by omega) hr (by decide) (by decide) (by decide)
      · exact own_far hr (by omega) (by omega) (by decide) (by omega) (by decide) (by omega) (by omega)
    rw [getD_set, if_neg (fun e => this e.1)]; exact (h.same h1 h2).tl j hj
theorem CsO.tail (h : CsO P T R ce bi M st cs) (hr : 1 ≤ R) (hc : tabI T R ≤ (ce : Int)) {k : Nat} (hk : (k : Int) < T) (hl : ownN R k 4 < cs.length) : CsO P T R ce bi M (updS st k 5) (cs.set (ownN R k 4) 1) := by
  have hs := own_tab hr (Int.natCast_nonneg k) hk (show (0 : Int) ≤ 4 by decide) (by omega)
  refine ⟨by rw [List.length_set]; exact h.len, fun i hi hn => ?_, ?_, fun j hj => ?_, fun j hj => ?_⟩
  · rw [getD_set, if_neg (by omega)]; exact h.far i hi hn
  · rw [getD_set, if_neg (by omega)]; exact h.ma
  · have : ownN R k 4 ≠ ownN R j 3 := by
      by_cases e : k = j
      · subst e; exact own_same (by omega) hr (by decide) (by decide) (by decide)
      · exact own_far hr (by omega) (by omega) (by decide) (by omega) (by decide) (by omega) (by omega)
    rw [getD_set, if_neg (fun e => this e.1)]; exact h.hd j hj
  · by_cases e : j = k
    · subst e; rw [getD_set, if_pos ⟨rfl, hl⟩, updS_eq]; rfl
    · have : ownN R k 4 ≠ ownN R j 4 := own_far hr (by omega) (by omega) (by decide) (by omega) (by decide) (by omega) (by omega)
      rw [getD_set, if_neg (fun e => this e.1), updS_ne e]; exact h.tl j hj
end
/-- who was the first: f (none: f is no thread); set: the mark was set ahead of all -/
structure OneF (set : Bool) (T : Int) (M : Bool) (st : Nat → Nat) (f : Nat) : Prop where
  fr : ∀ k : Nat, (k : Int) < T → ((1 ≤ st k ∧ st k ≤ 5) ↔ k = f)
  le : ∀ k : Nat, (k : Int) < T → st k ≤ 6
  m0 : M = false → ∀ k : Nat, (k : Int) < T → st k = 0
  m1 : set = true → M = true ∧ T ≤ (f : Int)
  m2 : set = false → (M = true ↔ (f : Int) < T)
theorem OneF.start (set : Bool) {T : Int} (h : 0 ≤ T) : OneF set T set (fun _ => 0) T.toNat := by
  refine ⟨fun k hk => ?_, fun k hk => by omega, fun _ k hk => rfl, fun e => ⟨e, by omega⟩, fun e => ?_⟩
  · constructor
    · intro e; omega
    · intro e; omega
  · rw [e]
    constructor
    · intro e; cases e
    · intro e; omega
theorem OneF.first {set : Bool} {T : Int} {st : Nat → Nat} {f k : Nat} (h : OneF set T false st f) (hk : (k : Int) < T) : OneF set T true (updS st k 1) k := by
  refine ⟨fun j hj => ?_, fun j hj => ?_, (fun e => by cases e), (fun e => by have := (h.m1 e).1; cases this), fun e => ⟨fun _ => hk, fun _ => rfl⟩⟩
  · by_cases e : j = k
    · subst e; rw [updS_eq]; simp
    · rw [updS_ne e, h.m0 rfl j hj]; simp [e]
  · by_cases e : j = k
    · subst e; rw [updS_eq]; omega
    · rw [updS_ne e]; exact h.le j hj
theorem OneF.seen {set : Bool} {T : Int} {st : Nat → Nat} {f k : Nat} (h : OneF set T true st f) (hk : (k : Int) < T) (h0 : st k = 0) : OneF set T true (updS st k 6) f := by
  refine ⟨fun j hj => ?_, fun j hj => ?_, (fun e => by cases e), h.m1, h.m2⟩
  · by_cases e : j = k
    · subst e; rw [updS_eq]
      have := h.fr j hj
      rw [h0] at this
      constructor
      · intro q; omega
      · intro q; have := this.2 q; omega
    · rw [updS_ne e]; exact h.fr j hj
  · by_cases e : j = k
    · subst e; rw [updS_eq]; omega
    · rw [updS_ne e]; exact h.le j hj
theorem OneF.on {set M : Bool} {T : Int} {st : Nat → Nat} {f k s : Nat} (h : OneF set T M st f) (hk : (k : Int) < T) (h1 : 1 ≤ st k ∧ st k ≤ 5) (h2 : 1 ≤ s ∧ s ≤ 5) : OneF set T M (updS st k s) f := by
  refine ⟨fun j hj => ?_, fun j hj => ?_, fun e => ?_, h.m1, h.m2⟩
  · by_cases e : j = k
    · subst e; rw [updS_eq]
      have := (h.fr j hj).1 h1
      exact ⟨fun _ => this, fun _ => h2⟩
    · rw [updS_ne e]; exact h.fr j hj
  · by_cases e : j = k
    · subst e; rw [updS_eq]; omega
    · rw [updS_ne e]; exact h.le j hj
  · have := h.m0 e k hk; omega
theorem updS_self {st : Nat → Nat} {k s : Nat} (h : st k = s) : updS st k s = st := by
  funext j
  unfold updS
  split
  · rename_i e; rw [e, h]
  · rfl
/-- the bit of a word -/
theorem bit_nat {P T R x : Int} (hp : 0 ≤ wdI P T R x ∧ wdI P T R x < 64) : bitI P T R x = ((2 ^ (wdI P T R x).toNat : Nat) : Int) := by
  have hw : (2 : Nat) ^ (wdI P T R x).toNat < 2 ^ 64 := Nat.pow_lt_pow_right (by decide) (by omega)
  have : (2 : Int) ^ (wdI P T R x).toNat = ((2 ^ (wdI P T R x).toNat : Nat) : Int) := by push_cast; rfl
  unfold bitI
  rw [this, IntKind.wrap_u64]
  generalize (2 : Nat) ^ (wdI P T R x).toNat = q at *
  omega
theorem or_self_nat {X : Nat} (h : X < 2 ^ 64) : bits .or .u64 (X : Int) (X : Int) = (X : Int) := by
  rw [bits_or_u64_nat _ _ (by omega) (by omega), Nat.or_self]
theorem or_zero_nat {X : Nat} (h : X < 2 ^ 64) : bits .or .u64 0 (X : Int) = (X : Int) := by
  have := bits_or_u64_nat 0 X (by decide) h
  rw [Nat.zero_or] at this
  exact this
theorem and_self_nat {X : Nat} (h : X < 2 ^ 64) : bits .and .u64 (X : Int) (X : Int) = (X : Int) := by
  rw [bits_and_u64_nat _ _ (by omega) (by omega), Nat.and_self]
theorem and_zero_nat {X : Nat} (h : X < 2 ^ 64) : bits .and .u64 0 (X : Int) = 0 := by
  have := bits_and_u64_nat 0 X (by decide) h
  rw [Nat.zero_and] at this
  exact this
/-- what is asked of a bit -/
structure BitO (bi : Int) : Prop where
  ex : ∃ X : Nat, bi = (X : Int) ∧ 0 < X ∧ X < 2 ^ 64
theorem BitO.or {bi : Int} (h : BitO bi) (M : Bool) : bits .or .u64 (if M then bi else 0) bi = bi := by
  obtain ⟨X, rfl, h1, h2⟩ := h.ex
  cases M
  · exact or_zero_nat h2
  · exact or_self_nat h2
theorem BitO.and {bi : Int} (h : BitO bi) (M : Bool) : (bits .and .u64 (if M then bi else 0) bi == 0) = !M := by
  obtain ⟨X, rfl, h1, h2⟩ := h.ex
  cases M
  · show (bits .and .u64 0 (X : Int) == 0) = true
    rw [and_zero_nat h2]; rfl
  · show (bits .and .u64 (X : Int) (X : Int) == 0) = false
    rw [and_self_nat h2]
    exact beq_eq_false_iff_ne.2 (by omega)
theorem BitO.of {P T R x : Int} (h : refB P T R x = true) : BitO (bitI P T R x) := by
  have hb := ref_bd h
  have hw : 0 ≤ wdI P T R x ∧ wdI P T R x < 64 := by unfold wdI; omega
  exact ⟨⟨_, bit_nat hw, Nat.pow_pos (by decide), Nat.pow_lt_pow_right (by decide) (by omega)⟩⟩
end Go.Proofs.Ytlhigibgjggidaa
/- ShadeOne: all machines beside one arena as one fact; a step of any of them; one of them stepped to its end. Condition: the plan is right, the blocks lie apart. -/
namespace Go.Proofs.Ytlhigibgjggidaa
open Go.RowKit
set_option linter.unusedVariables false
/-- how the machines' blocks lie -/
structure SmD (P T R : Int) (p ce : Nat) (K : List Nat) (bs bm bu : Nat → Nat) : Prop where
  right : Right P T R
  ord : ∀ j k : Nat, j < k → (k : Int) < T → bs j < bm k
  loc : ∀ k : Nat, (k : Int) < T → p < bm k ∧ bm k < bu k ∧ bu k < bs k
  inK : ∀ k : Nat, (k : Int) < T → bs k ∈ K ∧ bm k ∈ K ∧ bu k ∈ K
  hp : p ∈ K
  hc : tabI T R ≤ (ce : Int)
  hl : ce < cellsN P T R
theorem SmD.apart {P T R : Int} {p ce : Nat} {K : List Nat} {bs bm bu : Nat → Nat} (h : SmD P T R p ce K bs bm bu) {j k : Nat} (hj : (j : Int) < T) (hk : (k : Int) < T) (hne : j ≠ k) {b : Nat} (hb : b = bs j ∨ b = bm j ∨ b = bu j) : b ≠ p ∧ b ≠ bs k ∧ b ≠ bm k ∧ b ≠ bu k := by
  have lj := h.loc j hj
  have lk := h.loc k hk
  rcases Nat.lt_or_gt_of_ne hne with e | e
  · have := h.ord j k e hk; rcases hb with rfl | rfl | rfl <;> omega
  · have := h.ord k j e hj; rcases hb with rfl | rfl | rfl <;> omega
theorem SmD.shr {P T R : Int} {p ce : Nat} {K : List Nat} {bs bm bu : Nat → Nat} (h : SmD P T R p ce K bs bm bu) {k : Nat} (hk : (k : Int) < T) {cs : List Int} (hl : cs.length = cellsN P T R) : ShR P T R k p (bs k) (bm k) (bu k) ce cs K := by
  have lk := h.loc k hk
  have ik := h.inK k hk
  exact ⟨exB_mk h.right (by omega) hk, by omega, by omega, by omega, by omega, by omega, by omega, ik.1, ik.2.1, ik.2.2, h.hp, hl, by rw [hl]; exact h.hl⟩
/-- the machines in their states -/
structure SmS (w0 : World) (B a c p : Nat) (P T R rf : Int) (ce : Nat) (bi : Int) (K : List Nat) (bs bm bu : Nat → Nat) (st : Nat → Nat) (cs : List Int) (n : Nat) (o : Bool) (w : World) : Prop where
  ary : Ary w B a c cs n K
  port : PortAt w p a 1 o
  sh : ∀ k : Nat, (k : Int) < T → ShadeAt w (bs k) rf (bm k) (some ⟨bu k, 0, none⟩) (stNx (st k)) false
  ma : ∀ k : Nat, (k : Int) < T → MarkAt w (bm k) ce bi (stMn (st k)) (stMf (st k))
  pu : ∀ k : Nat, (k : Int) < T → PushAt w (bu k) P T R k rf 0 (stPn (st k)) false
  tch : Touch (fun b => b = p ∨ (∃ k : Nat, (k : Int) < T ∧ (b = bs k ∨ b = bm k ∨ b = bu k)) ∨ (B ≤ b ∧ b ∉ K)) w0 w
section
variable {w0 w w' : World} {B a c p : Nat} {P T R rf : Int} {ce : Nat} {bi : Int} {K : List Nat} {bs bm bu : Nat → Nat} {st : Nat → Nat} {cs : List Int} {n : Nat} {o : Bool}
theorem SmS.grew (h : SmS w0 B a c p P T R rf ce bi K bs bm bu st cs n o w) (hb : Below w.heap.size w w') : SmS w0 B a c p P T R rf ce bi K bs bm bu st cs n o w' :=
  ⟨h.ary.grew hb, Blk.grew h.port hb, fun k hk => Blk.grew (h.sh k hk) hb, fun k hk => Blk.grew (h.ma k hk) hb, fun k hk => Blk.grew (h.pu k hk) hb, h.tch.trans (Touch.of hb)⟩
theorem SmS.quiet (h : SmS w0 B a c p P T R rf ce bi K bs bm bu st cs n o w) (hq : Quiet w w') : SmS w0 B a c p P T R rf ce bi K bs bm bu st cs n o w' := h.grew hq.below
/-- a machine's part -/
theorem SmS.part (h : SmS w0 B a c p P T R rf ce bi K bs bm bu st cs n o w) {k : Nat} (hk : (k : Int) < T) {s : Nat} (hs : st k = s) : ShE w B a c p (bs k) (bm k) (bu k) P T R k rf ce bi (stNx s) false (stMn s) (stMf s) 0 (stPn s) false cs n K 1 o w := by
  subst hs
  exact h.ary.sh (h.sh k hk) (h.ma k hk) (h.pu k hk) h.port
theorem SmS.after {cs' : List Int} {n' : Nat} {o' : Bool} (h : SmS w0 B a c p P T R rf ce bi K bs bm bu st cs n o w) (hd : SmD P T R p ce K bs bm bu) {k : Nat} (hk : (k : Int) < T) {s : Nat}
    (he : ShE w B a c p (bs k) (bm k) (bu k) P T R k rf ce bi (stNx s) false (stMn s) (stMf s) 0 (stPn s) false cs' n' K 1 o' w') : SmS w0 B a c p P T R rf ce bi K bs bm bu (updS st k s) cs' n' o' w' := by
  obtain ⟨hS, hM, hU, hP, hT⟩ := he.parts
  have far : ∀ j : Nat, (j : Int) < T → j ≠ k → ∀ b, (b = bs j ∨ b = bm j ∨ b = bu j) → ¬ (b = p ∨ b = bs k ∨ b = bm k ∨ b = bu k ∨ (B ≤ b ∧ b ∉ K)) := by
    intro j hj hne b hb hr
    obtain ⟨a1, a2, a3, a4⟩ := hd.apart hj hk hne hb
    have ij := hd.inK j hj
    rcases hr with r | r | r | r | r
    · exact a1 r
    · exact a2 r
    · exact a3 r
    · exact a4 r
    · refine r.2 ?_
      rcases hb with rfl | rfl | rfl
      · exact ij.1
      · exact ij.2.1
      · exact ij.2.2
  refine ⟨he.ary, hP, fun j hj => ?_, fun j hj => ?_, fun j hj => ?_, h.tch.trans (hT.mono fun b _ e => ?_)⟩
  · by_cases e : j = k
    · subst e; rw [updS_eq]; exact hS
    · rw [updS_ne e]; exact Blk.touch (h.sh j hj) hT (far j hj e _ (.inl rfl))
  · by_cases e : j = k
    · subst e; rw [updS_eq]; exact hM
    · rw [updS_ne e]; exact Blk.touch (h.ma j hj) hT (far j hj e _ (.inr (.inl rfl)))
  · by_cases e : j = k
    · subst e; rw [updS_eq]; exact hU
    · rw [updS_ne e]; exact Blk.touch (h.pu j hj) hT (far j hj e _ (.inr (.inr rfl)))
  · rcases e with e | e | e | e | e
    · exact .inl e
    · exact .inr (.inl ⟨k, hk, .inl e⟩)
    · exact .inr (.inl ⟨k, hk, .inr (.inl e)⟩)
    · exact .inr (.inl ⟨k, hk, .inr (.inr e)⟩)
    · exact .inr (.inr e)
theorem SmS.grant (h : SmS w0 B a c p P T R rf ce bi K bs bm bu st cs n o w) (hd : SmD P T R p ce K bs bm bu) :
    Calls Try.prog 24 #[.pointer (some ⟨p, 0, none⟩)] w fun e w' => (∃ v, e = .returned v) ∧ SmS w0 B a c p P T R rf ce bi K bs bm bu st cs n true w' := by
  refine (grant_at p a 1 o w h.port).mono fun e w' ⟨he, hP, hT⟩ => ⟨he, ?_⟩
  obtain ⟨xs, hA⟩ := h.ary
  exact ⟨⟨xs, hA.touch hT (fun _ e => e ▸ hd.hp)⟩, hP, fun k hk => Blk.touch (h.sh k hk) hT (by have := hd.loc k hk; omega), fun k hk => Blk.touch (h.ma k hk) hT (by have := hd.loc k hk; omega), fun k hk => Blk.touch (h.pu k hk) hT (by have := hd.loc k hk; omega), h.tch.trans (hT.mono fun _ _ e => .inl e)⟩
end
/-- all of it: the cells, who was first -/
def SmX (w0 : World) (B a c p : Nat) (P T R rf : Int) (ce : Nat) (bi : Int) (K : List Nat) (bs bm bu : Nat → Nat) (set : Bool) (st : Nat → Nat) (N : Nat) (o : Bool) (w : World) : Prop :=
  ∃ cs n M f, n ≤ N ∧ SmS w0 B a c p P T R rf ce bi K bs bm bu st cs n o w ∧ CsO P T R ce bi M st cs ∧ OneF set T M st f
/-- the state behind a step -/
def nxS (s s' : Nat) : Prop := (s = 0 ∧ (s' = 1 ∨ s' = 6)) ∨ (1 ≤ s ∧ s ≤ 4 ∧ s' = s + 1) ∨ (5 ≤ s ∧ s' = s)
section
variable {w0 w w' : World} {B a c p : Nat} {P T R rf : Int} {ce : Nat} {bi : Int} {K : List Nat} {bs bm bu : Nat → Nat} {set : Bool} {st : Nat → Nat} {N : Nat} {o : Bool}
theorem SmX.grew (h : SmX w0 B a c p P T R rf ce bi K bs bm bu set st N o w) (hb : Below w.heap.size w w') : SmX w0 B a c p P T R rf ce bi K bs bm bu set st N o w' := by
  obtain ⟨cs, n, M, f, h1, h2, h3, h4⟩ := h
  exact ⟨cs, n, M, f, h1, h2.grew hb, h3, h4⟩
theorem SmX.quiet (h : SmX w0 B a c p P T R rf ce bi K bs bm bu set st N o w) (hq : Quiet w w') : SmX w0 B a c p P T R rf ce bi K bs bm bu set st N o w' := h.grew hq.below
theorem SmX.tch (h : SmX w0 B a c p P T R rf ce bi K bs bm bu set st N o w) : Touch (fun b => b = p ∨ (∃ k : Nat, (k : Int) < T ∧ (b = bs k ∨ b = bm k ∨ b = bu k)) ∨ (B ≤ b ∧ b ∉ K)) w0 w := by
  obtain ⟨cs, n, M, f, h1, h2, h3, h4⟩ := h
  exact h2.tch
theorem SmX.grant (h : SmX w0 B a c p P T R rf ce bi K bs bm bu set st N o w) (hd : SmD P T R p ce K bs bm bu) :
    Calls Try.prog 24 #[.pointer (some ⟨p, 0, none⟩)] w fun e w' => (∃ v, e = .returned v) ∧ SmX w0 B a c p P T R rf ce bi K bs bm bu set st N true w' := by
  obtain ⟨cs, n, M, f, h1, h2, h3, h4⟩ := h
  exact (h2.grant hd).mono fun _ _ ⟨he, h⟩ => ⟨he, cs, n, M, f, h1, h, h3, h4⟩
theorem SmX.le6 (h : SmX w0 B a c p P T R rf ce bi K bs bm bu set st N o w) {k : Nat} (hk : (k : Int) < T) : st k ≤ 6 := by
  obtain ⟨cs, n, M, f, h1, h2, h3, h4⟩ := h
  exact h4.le k hk
theorem SmX.step (h : SmX w0 B a c p P T R rf ce bi K bs bm bu set st N true w) (hd : SmD P T R p ce K bs bm bu) (hb : BitO bi) (hN : N < 1000000) {k : Nat} (hk : (k : Int) < T) :
    Calls Try.prog 25 #[.pointer (some ⟨bs k, 0, none⟩), .pointer (some ⟨p, 0, none⟩)] w fun e w' => ∃ s', e = .returned (.bool (stNx s' == 0)) ∧ nxS (st k) s' ∧ ∃ o', SmX w0 B a c p P T R rf ce bi K bs bm bu set (updS st k s') (N + 1) o' w' := by
  obtain ⟨cs, n, M, f, hn, hS, hC, hO⟩ := h
  have hr := hd.shr hk hC.len
  have hR := hd.right.2.2
  have hle := hO.le k hk
  have hnn : n < 1000000 := by omega
  obtain ⟨s, hs⟩ : ∃ s, st k = s := ⟨_, rfl⟩
  have hE := hS.part hk hs
  rw [hs] at hle
  have hcl : ce < cs.length := by rw [hC.len]; exact hd.hl
  have h4 := (ownN_bd (exB_mk hd.right (Int.natCast_nonneg k) hk) 4 (by decide) (by omega)).2.1
  match s, hle, hs, hE with
  | 0, _, hs, hE =>
    cases M with
    | false =>
      have hf : (bits .and .u64 (cs.getD ce 0) bi == 0) = true := by rw [hC.ma]; exact hb.and false
      refine (hE.s1f hr hnn hf).mono fun e w' ⟨he, hk'⟩ => ⟨1, he, .inl ⟨hs, .inl rfl⟩, false, ?_⟩
      have hor : bits .or .u64 (cs.getD ce 0) bi = bi := by rw [hC.ma]; exact hb.or false
      rw [hor] at hk'
      exact ⟨_, n + 1, true, k, by omega, hS.after hd hk (s := 1) hk', hC.mark hR.1 hd.hc hcl (by omega) (by decide), hO.first hk⟩
    | true =>
      have hf : (bits .and .u64 (cs.getD ce 0) bi == 0) = false := by rw [hC.ma]; exact hb.and true
      refine (hE.s1s hr hnn hf).mono fun e w' ⟨he, hk'⟩ => ⟨6, he, .inl ⟨hs, .inr rfl⟩, false, ?_⟩
      have hor : bits .or .u64 (cs.getD ce 0) bi = bi := by rw [hC.ma]; exact hb.or true
      rw [hor] at hk'
      exact ⟨_, n + 1, true, f, by omega, hS.after hd hk (s := 6) hk', hC.mark hR.1 hd.hc hcl (by omega) (by decide), hO.seen hk hs⟩
  | 1, _, hs, hE =>
    refine (hE.s2 hr hnn).mono fun e w' ⟨he, hk'⟩ => ⟨2, he, .inr (.inl ⟨by omega, by omega, by omega⟩), false, ?_⟩
    rw [hC.tl k hk, if_neg (by omega)] at hk'
    exact ⟨_, n + 1, M, f, by omega, hS.after hd hk (s := 2) hk', hC.same (by omega) (by decide), hO.on hk (by omega) (by decide)⟩
  | 2, _, hs, hE =>
    have hf : fullB R 0 (cs.getD (ownN R k 3) 0) = false := by
      rw [hC.hd k hk]
      unfold fullB
      exact decide_eq_false (by rw [show (0 : Int) - 0 = 0 by decide, show IntKind.u64.wrap 0 = 0 by decide]; omega)
    refine (hE.s3r hr hnn hf).mono fun e w' ⟨he, hk'⟩ => ⟨3, he, .inr (.inl ⟨by omega, by omega, by omega⟩), false, ?_⟩
    exact ⟨_, n + 1, M, f, by omega, hS.after hd hk (s := 3) hk', hC.same (by omega) (by decide), hO.on hk (by omega) (by decide)⟩
  | 3, _, hs, hE =>
    refine (hE.s4 hr hnn ⟨by decide, by decide⟩).mono fun e w' ⟨he, hk'⟩ => ⟨4, he, .inr (.inl ⟨by omega, by omega, by omega⟩), false, ?_⟩
    exact ⟨_, n + 1, M, f, by omega, hS.after hd hk (s := 4) hk', hC.slot hR.1 hd.hc hk (by omega) (by decide) _, hO.on hk (by omega) (by decide)⟩
  | 4, _, hs, hE =>
    refine (hE.s5 hr hnn).mono fun e w' ⟨he, hk'⟩ => ⟨5, he, .inr (.inl ⟨by omega, by omega, by omega⟩), false, ?_⟩
    rw [show IntKind.u64.wrap (0 + 1) = 1 by decide] at hk'
    exact ⟨_, n + 1, M, f, by omega, hS.after hd hk (s := 5) hk', hC.tail hR.1 hd.hc hk (by rw [hC.len]; exact h4), hO.on hk (by omega) (by decide)⟩
  | 5, _, hs, hE =>
    obtain ⟨xs, hE⟩ := hE
    refine (shade_over hE).mono fun e w' ⟨he, hk'⟩ => ⟨5, he, .inr (.inr ⟨by omega, by omega⟩), true, ?_⟩
    have hA := hS.after hd hk (s := 5) ⟨xs, hk'⟩
    rw [updS_self hs] at hA ⊢
    exact ⟨_, n, M, f, by omega, hA, hC, hO⟩
  | 6, _, hs, hE =>
    obtain ⟨xs, hE⟩ := hE
    refine (shade_over hE).mono fun e w' ⟨he, hk'⟩ => ⟨6, he, .inr (.inr ⟨by omega, by omega⟩), true, ?_⟩
    have hA := hS.after hd hk (s := 6) ⟨xs, hk'⟩
    rw [updS_self hs] at hA ⊢
    exact ⟨_, n, M, f, by omega, hA, hC, hO⟩
/-- how far a state is from the end -/
def rkS (s : Nat) : Nat := if s = 0 then 5 else if s ≤ 4 then 5 - s else 1
theorem nx_over {s s' : Nat} (h : nxS s s') (h6 : s ≤ 6) (hz : (stNx s' == 0) = true) : s' = 5 ∨ s' = 6 := by
  rcases h with ⟨rfl, rfl | rfl⟩ | ⟨h1, h2, rfl⟩ | ⟨h1, rfl⟩
  · cases hz
  · exact .inr rfl
  · have : s = 1 ∨ s = 2 ∨ s = 3 ∨ s = 4 := by omega
    rcases this with rfl | rfl | rfl | rfl
    · cases hz
    · cases hz
    · cases hz
    · exact .inl rfl
  · omega
theorem nx_on {s s' : Nat} (h : nxS s s') (h6 : s ≤ 6) (hz : (stNx s' == 0) = false) : rkS s' + 1 = rkS s ∧ 1 ≤ s' ∧ s' ≤ 4 := by
  rcases h with ⟨rfl, rfl | rfl⟩ | ⟨h1, h2, rfl⟩ | ⟨h1, rfl⟩
  · exact ⟨rfl, by decide, by decide⟩
  · cases hz
  · have : s = 1 ∨ s = 2 ∨ s = 3 ∨ s = 4 := by omega
    rcases this with rfl | rfl | rfl | rfl
    · exact ⟨rfl, by decide, by decide⟩
    · exact ⟨rfl, by decide, by decide⟩
    · exact ⟨rfl, by decide, by decide⟩
    · cases hz
  · have : s' = 5 ∨ s' = 6 := by omega
    rcases this with rfl | rfl <;> cases hz
theorem updS_upd (st : Nat → Nat) (k s s' : Nat) : updS (updS st k s) k s' = updS st k s' := by
  funext j; unfold updS; split <;> rfl
set_option maxHeartbeats 1000000 in
/-- a machine is stepped to its end -/
theorem SmX.finish (h : SmX w0 B a c p P T R rf ce bi K bs bm bu set st N o w) (hd : SmD P T R p ce K bs bm bu) (hb : BitO bi) (hN : N < 999990) {k : Nat} (hk : (k : Int) < T) :
    Calls Try.prog 26 #[.pointer (some ⟨p, 0, none⟩), .pointer (some ⟨bs k, 0, none⟩)] w fun e w' => ∃ (m : Int) (s' : Nat), e = .returned (.int .i64 m) ∧ m ≠ 0 ∧ (s' = 5 ∨ s' = 6) ∧ ∃ o', SmX w0 B a c p P T R rf ce bi K bs bm bu set (updS st k s') (N + 6) o' w' := by
  have G := Lib.hid (fun W st o N (h : SmX w0 B a c p P T R rf ce bi K bs bm bu set st N o W) => h.grant hd)
  have S := Lib.hid (fun W st N (hN : N < 1000000) (h : SmX w0 B a c p P T R rf ce bi K bs bm bu set st N true W) => h.step hd hb hN hk)
  have L6 := Lib.hid (fun W st o N (h : SmX w0 B a c p P T R rf ce bi K bs bm bu set st N o W) => h.le6 hk)
  have h0 : SmX w0 B a c p P T R rf ce bi K bs bm bu set (updS st k (st k)) N o w := by rw [updS_self rfl]; exact h
  have hr0 : rkS (st k) ≤ 5 := by unfold rkS; split <;> (try split) <;> omega
  have HN := Lib.hid hN
  clear hd hb hk h hN
  obtain ⟨sk, hsk⟩ : ∃ s, st k = s := ⟨_, rfl⟩
  rw [hsk] at h0 hr0
  clear hsk
  have h0 := Lib.hid h0
  have hr0 := Lib.hid hr0
  go_enter Try.func26, Try.ntmps26
  go_wp2
  go_loopw [5] (fun i wr => ∃ (j : Nat), (1 ≤ j ∧ j ≤ 5) ∧ i = .int .i64 (j : Int) ∧ Hid (∃ s o, j + rkS s ≤ 6 ∧ SmX w0 B a c p P T R rf ce bi K bs bm bu set (updS st k s) (N + (j - 1)) o wr)) (fun i _ => (6 - intOf i).toNat)
  case atStart => exact ⟨1, by decide, rfl, Lib.hid ⟨sk, o, by have := hr0.out; omega, h0.out⟩⟩
  case round =>
    obtain ⟨j, ⟨hj1, hj2⟩, rfl, hS⟩ := hrel
    obtain ⟨s, o1, hrk, h1⟩ := hS.out
    have hrk := Lib.hid hrk
    have hj3 : ¬ (6 : Int) < (j : Int) := by omega
    go_wp2_with fail
    refine (G.out _ _ _ _ h1).mono ?_; rintro e w1 ⟨⟨u1, rfl⟩, h2⟩
    go_wp2_with fail
    refine (S.out _ _ _ (by have := HN.out; omega) h2).mono ?_; rintro e w2 ⟨s', rfl, hnx, o2, h3⟩
    have h6 := L6.out _ _ _ _ h2
    rw [updS_eq] at h6 hnx
    rw [updS_upd] at h3
    have hnx := Lib.hid hnx
    have h3 := Lib.hid h3
    cases hz : (stNx s' == 0) with
    | true =>
      have hE := nx_over hnx.out h6 hz
      have hE := Lib.hid hE
      go_wp2
      go_ret
      refine ⟨(j : Int), s', rfl, by omega, hE.out, o2, ?_⟩
      obtain ⟨cs, n, M, f, q1, q2, q3, q4⟩ := h3.out
      exact ⟨cs, n, M, f, by omega, q2, q3, q4⟩
    | false =>
      have hE := nx_on hnx.out h6 hz
      have q := hrk.out
      have hj5 : j + 1 ≤ 5 := by
        have : 1 ≤ rkS s' := by unfold rkS; split <;> (try split) <;> omega
        omega
      have hN2 : Hid (∃ s o, (j + 1) + rkS s ≤ 6 ∧ SmX w0 B a c p P T R rf ce bi K bs bm bu set (updS st k s) (N + ((j + 1) - 1)) o w2) := Lib.hid ⟨s', o2, by omega, by have := h3.out; rw [show N + (j + 1 - 1) = N + (j - 1) + 1 by omega]; exact this⟩
      clear hE q hS h1 h2
      go_wp2
      go_roundw
      case rel => exact ⟨j + 1, by omega, by go_num, hN2⟩
      case measure => simp [intOf]; omega
theorem SmX.fresh (h : SmX w0 B a c p P T R rf ce bi K bs bm bu set st N o w) {k : Nat} (hk : (k : Int) < T) :
    Calls Try.prog 27 #[.pointer (some ⟨bs k, 0, none⟩)] w fun e w' => e = .returned (.bool (stMf (st k))) ∧ SmX w0 B a c p P T R rf ce bi K bs bm bu set st N o w' := by
  obtain ⟨cs, n, M, f, h1, h2, h3, h4⟩ := h
  have hS := h2.sh k hk
  have hM := h2.ma k hk
  have F := Lib.hid (fresh_mark hM)
  have hp := hS.val 1 rfl
  have H := Lib.hid h2
  clear hS hM h2
  go_enter Try.func27, Try.ntmps27
  go_wp2_with fail
  refine F.out.mono ?_; rintro e w1 ⟨rfl, hq1⟩
  go_wp2
  go_ret
  exact ⟨rfl, cs, n, M, f, h1, H.out.quiet hq1, h3, h4⟩
end
end Go.Proofs.Ytlhigibgjggidaa
