/- ClassesMaps: words for its walk. No condition. -/
import Derived.Deep.RegionHeld3
import Derived.Test.YtnllpifnmbinmaaGClassesMaps05
import Derived.Test.YtnllpifnmbinmaaGClassesMaps06
namespace Go.Proofs.Ytnllpifnmbinmaa
open Go.RowKit
set_option linter.unusedVariables false
theorem mod_litC (x k : Int) (h0 : 0 < k) (h1 : k ≤ 1000000) : 0 ≤ wrap64 ((IntKind.u64.wrap x).tmod k) ∧ wrap64 ((IntKind.u64.wrap x).tmod k) < k := by
  have hw : 0 ≤ IntKind.u64.wrap x := by rw [IntKind.wrap_u64]; omega
  generalize IntKind.u64.wrap x = y at *
  have e : y.tmod k = y % k := by rw [Int.tmod_eq_emod_of_nonneg hw]
  have h2 := Int.emod_nonneg y (show k ≠ 0 by omega)
  have h3 := Int.emod_lt_of_pos y h0
  rw [e]
  generalize y % k = z at *
  rw [IntWalk.wrap64_in z ⟨by omega, by omega⟩]
  exact ⟨h2, h3⟩
theorem name_actC {F : Fence} {n : Nat} {P : Program} {c : Code} {Q : Exit → Act → World → Prop} {a : Act} {w : World} (h : ∀ a0, a0 = a → c.wpIn F n P Q a0 w) : c.wpIn F n P Q a w := h a rfl
def insL (l : List Nat) : List Int := l.map fun j : Nat => (j : Int)
theorem insL_snoc (l : List Nat) (x : Nat) : insL (l ++ [x]) = insL l ++ [(x : Int)] := by unfold insL; simp
theorem insL_len (l : List Nat) : (insL l).length = l.length := by unfold insL; simp
theorem natC_ins (l : List Nat) : natC l = (insL l).map (Value.int .i64) := by unfold natC insL; simp
theorem lst_ownC {w : World} {base : Nat} {e : TypeId} {v : Value} {n : Nat} {zs : List Int} (h : w.ownsRow base e 1 v n (zs.map (Value.int .i64))) : Lst .i64 w v zs := by
  have hn : zs.length = n := by have := h.1; simpa using this
  obtain ⟨a, c, hv, _, hl⟩ := own_subL h hn (List.prefix_refl zs)
  rw [hv, ← hn]; exact hl
/-- what a range's caller may write: its box, and what was made since -/
def KpB (P n : Nat) (A B : World) : Prop := Touch (fun b => b = P ∨ n ≤ b) A B
theorem KpB.tr {P n : Nat} {A B C : World} (h : KpB P n A B) (k : KpB P n B C) : KpB P n A C := Touch.trans h k
theorem KpB.grow {P n : Nat} {A B : World} (h : Below A.heap.size A B) : KpB P n A B := Touch.of h
theorem KpB.put {P n : Nat} {w : World} (hn : n ≤ w.heap.size) (W : World) (l : Nat) (o o' : Obj) (hl : w.heap.size ≤ l) (h : W.heap[l]? = some o) (_ : o.isCells = false) (_ : o.isWalk = false) : KpB P n W (W.putObj l o') :=
  (Touch.refl _ W).grown (grownBy_putObj' W l o') (fun k e => by cases e; exact .inl (.inr (by omega)))
theorem KpB.app {P n : Nat} {W w1 : World} {tmp : Obj} {v v' : Value} (hgrow : (W.alloc tmp).grownBy w1 v.ownBlock) (hv : ∀ k, v.ownBlock = some k → n ≤ k) : KpB P n W (w1.setCell ⟨P, 0, none⟩ v') :=
  (((Touch.refl _ W).alloc tmp).grown hgrow (fun k e => .inl (.inr (hv k e)))).setCell (.inl rfl) _
theorem Blk.neC {w : World} {b b' : Nat} {cs cs' : Array Value} {t t' : TypeId} (h : Blk w b cs t) (h' : Blk w b' cs' t') (ht : t ≠ t') : b ≠ b' := by
  intro e
  subst e
  unfold Blk at h h'
  rw [h] at h'
  simp only [Option.some.injEq, Obj.cells.injEq] at h'
  exact ht h'.2.1
theorem quiet_belowC {A B : World} (h : Quiet A B) : Below A.heap.size A B := h.below
theorem natC_snoc (l : List Nat) (x : Nat) : natC (l ++ [x]) = natC l ++ [Value.int .i64 (x : Int)] := by unfold natC; simp
theorem TabS.touchC {w w' : World} {lo t m : Nat} {v : Value} {L : List (ClsD × Value × Nat)} (h : TabS w lo t v m L) (hT : Touch (fun b => b < lo ∨ w.heap.size ≤ b) w w') : TabS w' lo t v m L :=
  h.touch hT (fun g h1 h2 => by omega)
theorem own_subC {w : World} {base : Nat} {e : TypeId} {v : Value} {n : Nat} {l q : List Nat} (h : w.ownsRow base e 1 v n (natC l)) (hn : l.length = n) (hq : q <+: l) : ∃ a c, v = .slice a n c ∧ n ≤ c ∧ Lst .i64 w (.slice a q.length c) (insL q) := by
  rw [natC_ins] at h
  obtain ⟨a, c, h1, h2, h3⟩ := own_subL h (by rw [insL_len]; exact hn) (q := insL q) (by unfold insL; exact hq.map _)
  rw [insL_len] at h3
  exact ⟨a, c, h1, h2, h3⟩
/-- what is read between the two ranges and the end -/
structure SixC (w : World) (P4 P6 Pa Ps : Nat) (c k n : Int) (S : Nat) (va vs : Value) (W : World) : Prop where
  h4 : Blk W P4 #[.int .i64 c, .int .i64 k, .int .i64 n] 24
  h6 : Blk W P6 #[.int .i64 S] 3
  ha : Boxed W Pa 32 va
  hs : Boxed W Ps 32 vs
theorem SixC.cells {w W : World} {P4 P6 Pa Ps : Nat} {c k n : Int} {S : Nat} {va vs : Value} (h : SixC w P4 P6 Pa Ps c k n S va vs W) :
    (W.cell? ⟨P4, 0, none⟩ = some (.int .i64 c) ∧ W.cell? ⟨P4, 1, none⟩ = some (.int .i64 k) ∧ W.cell? ⟨P4, 2, none⟩ = some (.int .i64 n)) ∧ W.cell? ⟨P6, 0, none⟩ = some (.int .i64 S) ∧ W.cell? ⟨Pa, 0, none⟩ = some va ∧ W.cell? ⟨Ps, 0, none⟩ = some vs :=
  ⟨⟨h.h4.val 0 rfl, h.h4.val 1 rfl, h.h4.val 2 rfl⟩, h.h6.val 0 rfl, h.ha.cell, h.hs.cell⟩
theorem SixC.touch {R : Nat → Prop} {w W W' : World} {P4 P6 Pa Ps : Nat} {c k n : Int} {S : Nat} {va vs : Value} (h : SixC w P4 P6 Pa Ps c k n S va vs W) (ht : Touch R W W') (h4 : ¬ R P4) (h6 : ¬ R P6) (ha : ¬ R Pa) (hs : ¬ R Ps) : SixC w P4 P6 Pa Ps c k n S va vs W' :=
  ⟨h.h4.touch ht h4, h.h6.touch ht h6, (ht.block _ h.ha.lt ha).trans h.ha, (ht.block _ h.hs.lt hs).trans h.hs⟩
end Go.Proofs.Ytnllpifnmbinmaa
