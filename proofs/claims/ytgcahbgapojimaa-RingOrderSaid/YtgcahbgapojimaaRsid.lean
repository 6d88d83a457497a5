/- The walk of the law RingSides: it returns true, whatever is given. No condition. -/
import Derived.Test.YtgcahbgapojimaaRsmall
import Derived.Test.YtgcahbgapojimaaDraw
import Derived.Test.YtgcahbgapojimaaClon
import Derived.RegionTactic
import Derived.ChangeAlike
namespace Go.Proofs.Ytgcahbgapojimaa
open Go.RowKit
theorem mod_lit (x k : Int) (h0 : 0 < k) (h1 : k ≤ 1000000) : 0 ≤ wrap64 ((IntKind.u64.wrap x).tmod k) ∧ wrap64 ((IntKind.u64.wrap x).tmod k) < k := by
  have hw : 0 ≤ IntKind.u64.wrap x := by rw [IntKind.wrap_u64]; omega
  generalize IntKind.u64.wrap x = y at *
  have e : y.tmod k = y % k := by rw [Int.tmod_eq_emod_of_nonneg hw]
  have h2 : 0 ≤ y % k := Int.emod_nonneg _ (by omega)
  have h3 : y % k < k := Int.emod_lt_of_pos _ (by omega)
  rw [e]
  generalize y % k = z at *
  rw [IntWalk.wrap64_in z ⟨by omega, by omega⟩]
  omega
theorem or_one (v : Int) (h : U64 v) : bits .or .u64 v 1 ≠ 0 ∧ U64 (bits .or .u64 v 1) := by
  obtain ⟨V, rfl⟩ := Int.eq_ofNat_of_zero_le h.1
  have h2 := h.2
  rw [show (1 : Int) = ((1 : Nat) : Int) from rfl, bits_or_u64_nat _ _ (by omega) (by decide)]
  have hb : (V ||| 1).testBit 0 = true := by simp
  have hne : V ||| 1 ≠ 0 := by
    intro e
    rw [e] at hb
    exact absurd hb (by decide)
  exact ⟨by omega, U64.nat _ (Nat.or_lt_two_pow (by omega) (by decide))⟩
/-- the cells in the midst of the law: numbers of 64 bits, and none but of one thread's ring is other than 0 -/
structure SidC (R t : Int) (N : Nat) (cs : List Int) : Prop where
  len : cs.length = N
  num : ∀ j, U64 (cs.getD j 0)
  out : ∀ j, cs.getD j 0 ≠ 0 → ownN R t 4 ≤ j ∧ j < ownN R t 4 + (R + 1).toNat
theorem getD_set (cs : List Int) (i j : Nat) (x : Int) : (cs.set i x).getD j 0 = if i = j ∧ i < cs.length then x else cs.getD j 0 := by
  simp only [List.getD_eq_getElem?_getD, List.getElem?_set]
  by_cases e : i = j
  · subst e
    by_cases h : i < cs.length
    · simp [h]
    · simp [h]
  · simp [e]
theorem SidC.set {R t : Int} {N i : Nat} {cs : List Int} {x : Int} (h : SidC R t N cs) (hx : U64 x) (hi : ownN R t 4 ≤ i ∧ i < ownN R t 4 + (R + 1).toNat) : SidC R t N (cs.set i x) := by
  refine ⟨by rw [List.length_set]; exact h.len, fun j => ?_, fun j hj => ?_⟩
  · rw [getD_set]; split
    · exact hx
    · exact h.num j
  · rw [getD_set] at hj; split at hj
    · next e => rw [← e.1]; exact hi
    · exact h.out j hj
theorem SidC.zero (R t : Int) (N : Nat) : SidC R t N (List.replicate N 0) := by
  have e : ∀ j, (List.replicate N (0 : Int)).getD j 0 = 0 := fun j => by
    simp only [List.getD_eq_getElem?_getD, List.getElem?_replicate]; split <;> rfl
  exact ⟨by simp, fun j => by rw [e]; exact ⟨by decide, by decide⟩, fun j hj => absurd (e j) hj⟩
theorem wrap_U64 (x : Int) : U64 (IntKind.u64.wrap x) := by rw [IntKind.wrap_u64]; exact ⟨by omega, by omega⟩
theorem SidC.pushed {P T R t v : Int} {N : Nat} {cs : List Int} (h : SidC R t N cs) (hx : exB P T R t = true) (hv : U64 v) : SidC R t N (pushed R t cs v) := by
  have hR := ring_bd hx
  have h0 := (status_bd hx).1
  have hm1 := Int.emod_nonneg (cs.getD (ownN R t 4) 0) (show R ≠ 0 by omega)
  have hm2 := Int.emod_lt_of_pos (cs.getD (ownN R t 4) 0) (show 0 < R by omega)
  refine (h.set hv ?_).set (wrap_U64 _) ?_
  · unfold slotN
    generalize cs.getD (ownN R t 4) 0 % R = q at *
    unfold ownN
    generalize t * (5 + R) = r at *
    omega
  · unfold ownN
    generalize t * (5 + R) = r at *
    omega
/-- all that the first loop keeps -/
structure SidI (w : World) (B a c p g qb : Nat) (P T R t : Int) (N k : Nat) (W : World) : Prop where
  ex : ∃ cs n, Ary W B a c cs n [g, p] ∧ SidC R t N cs ∧ n ≤ 4 * k
  port : PortAt W p a 3 false
  plan : Blk W qb #[.int .i64 P, .int .i64 T, .int .i64 R] 26
  was : ∀ i, i < N → W.cell? ⟨g, i, none⟩ = some (.int .u64 0)
  bel : Below w.heap.size w W
  lo : w.heap.size ≤ qb ∧ w.heap.size ≤ B ∧ qb < B ∧ B ≤ p ∧ B ≤ g
  ne : p ≠ g ∧ g < W.heap.size
theorem SidI.grew {w W W' : World} {B a c p g qb : Nat} {P T R t : Int} {N k : Nat} (h : SidI w B a c p g qb P T R t N k W) (hb : Below W.heap.size W W') : SidI w B a c p g qb P T R t N k W' := by
  obtain ⟨cs, n, h1, h2, h3⟩ := h.ex
  exact ⟨⟨cs, n, h1.grew hb, h2, h3⟩, h.port.grew hb, h.plan.grew hb, fun i hi => (hb.cell (p := ⟨g, i, none⟩) h.ne.2).trans (h.was i hi), h.bel.trans (hb.mono h.bel.size), h.lo, h.ne.1, Nat.lt_of_lt_of_le h.ne.2 hb.size⟩
/-- behind a push that is over -/
theorem SidI.done {w W W' : World} {B a c p g qb m : Nat} {P T R t v tl : Int} {fu : Bool} {N k n' : Nat} {cs' : List Int} (h : SidI w B a c p g qb P T R t N k W) (hm : W.heap.size ≤ m) (w1 : World) (hb : Below W.heap.size W w1)
    (hE : PuE w1 B a c p m P T R t v tl 0 fu cs' n' [m, g, p] 3 false W') (hc : SidC R t N cs') (hn : n' ≤ 4 * (k + 1)) : SidI w B a c p g qb P T R t N (k + 1) W' := by
  have hT := hE.touch
  have h1 := h.grew hb
  have lp := h.plan.lt
  have lg := h.ne.2
  obtain ⟨l1, l2, l3, l4, l5⟩ := h.lo
  have hs := hb.size
  refine ⟨⟨cs', n', hE.ary.sub (fun b hb => List.mem_cons_of_mem _ hb), hc, hn⟩, hE.port, h1.plan.touch hT ?_, fun i hi => ?_, h1.bel.trans (hT.below h1.bel.size ?_), h.lo, h.ne.1, Nat.lt_of_lt_of_le h1.ne.2 hT.size⟩
  · rintro (hx | hx | ⟨hx, _⟩) <;> omega
  · refine (World.cell?_of_block (hT.block g h1.ne.2 ?_)).trans (h1.was i hi)
    rintro (hx | hx | ⟨_, hx⟩)
    · exact h.ne.1 hx.symm
    · omega
    · exact hx (by simp)
  · intro x hx
    have := h.bel.size
    rcases hx with rfl | rfl | hx <;> omega
end Go.Proofs.Ytgcahbgapojimaa
