/- What a walk is told of a slice of integers: nil, or a row of cells; and what is known of it in a world that has drawn. No condition. -/
import Derived.Test.YtcjkachlahjbiaaDoorQuiet
import Derived.WalkSmall
namespace Go.Proofs.YtcjkachlahjbiaaDoor

open Go.RowKit
def IsRow (k : IntKind) (w : World) (a : Option Addr) (len cap : Nat) (zs : List Int) : Prop :=
  (a = none ∧ len = 0 ∧ cap = 0 ∧ zs = []) ∨
  ∃ x, a = some x ∧ len ≤ cap ∧ cap ≤ maxLen ∧ zs.length = cap ∧ (∀ i, i < zs.length → w.cell? (x.add i) = some (.int k (zs.getD i 0))) ∧ ∀ n ∈ zs, (Lit.int k n).wf = true
/-- The elements of a slice, with no word on its spare room. -/
def Lst (k : IntKind) (w : World) (v : Value) (zs : List Int) : Prop :=
  (zs = [] ∧ ∃ a cap, v = .slice a 0 cap) ∨
  ∃ b off cap, v = .slice (some ⟨b, off, none⟩) zs.length cap ∧ 0 < zs.length ∧ zs.length ≤ maxLen ∧ ∀ i, i < zs.length → w.cell? ⟨b, off + i, none⟩ = some (.int k (zs.getD i 0))
theorem Quiet.cell {w w' : World} (h : Quiet w w') (a : Addr) : w'.cell? a = w.cell? a := by
  obtain ⟨n, rfl⟩ := h
  exact World.cell?_drewN ..
theorem Quiet.below {B : Nat} {w w' : World} (h : Quiet w w') : Below B w w' := by
  obtain ⟨n, rfl⟩ := h
  exact below_drewN (Below.refl _ _) n
theorem Lst.quiet {k : IntKind} {w w' : World} {v : Value} {zs : List Int} (h : Lst k w v zs) (hq : Quiet w w') : Lst k w' v zs := by
  rcases h with h | ⟨b, off, cap, h1, h2, h3, h4⟩
  · exact .inl h
  · exact .inr ⟨b, off, cap, h1, h2, h3, fun i hi => by rw [hq.cell]; exact h4 i hi⟩
theorem Lst.below {k : IntKind} {w w' : World} {v : Value} {zs : List Int} (h : Lst k w v zs) (hb : Below w.heap.size w w') : Lst k w' v zs := by
  rcases h with h | ⟨b, off, cap, h1, h2, h3, h4⟩
  · exact .inl h
  · exact .inr ⟨b, off, cap, h1, h2, h3, fun i hi => by rw [hb.cell (p := ⟨b, off + i, none⟩) (World.block_lt_of_cell? w _ (h4 i hi))]; exact h4 i hi⟩
theorem Lst.alloc {k : IntKind} {w : World} {v : Value} {zs : List Int} (h : Lst k w v zs) (o : Obj) : Lst k (w.alloc o) v zs :=
  h.below ((Below.refl _ _).alloc (Nat.le_refl _) _)
theorem lst_new {k : IntKind} (w : World) (zs : List Int) (cs : Array Value) (t : TypeId) (n cap : Nat) (hn : zs.length = n) (h0 : 0 < n) (hm : n ≤ maxLen) (hc : cs = (zs.map (Value.int k)).toArray) :
    Lst k (w.alloc (.cells cs t)) (.slice (some ⟨w.heap.size, 0, none⟩) n cap) zs := by
  subst hn hc
  refine .inr ⟨_, 0, cap, rfl, h0, hm, fun i hi => ?_⟩
  rw [Nat.zero_add, World.cell?_alloc_new]
  simp [List.getD_eq_getElem?_getD, hi]
theorem IsRow.lst {k : IntKind} {w : World} {a : Option Addr} {len cap : Nat} {zs : List Int} (h : IsRow k w a len cap zs) : Lst k w (.slice a len cap) (zs.take len) ∧ (∀ n ∈ zs.take len, (Lit.int k n).wf = true) ∧ len ≤ maxLen ∧ (zs.take len).length = len := by
  rcases h with ⟨rfl, rfl, rfl, rfl⟩ | ⟨x, rfl, hl, hm, hz, hc, hw⟩
  · exact ⟨.inl ⟨rfl, none, 0, rfl⟩, by simp, by decide, rfl⟩
  · have hlen : (zs.take len).length = len := by rw [List.length_take]; omega
    refine ⟨?_, fun n hn => hw n (List.mem_of_mem_take hn), by omega, hlen⟩
    rcases Nat.eq_zero_or_pos len with h0 | h0
    · subst h0
      exact .inl ⟨by simp, some x, cap, rfl⟩
    · obtain ⟨b, off, s⟩ := x
      have hs : s = none := by simpa [Addr.add] using World.cell?_spot (hc 0 (by omega))
      subst hs
      refine .inr ⟨b, off, cap, by rw [hlen], by omega, by omega, fun i hi => ?_⟩
      have h1 := hc i (by omega)
      have e1 : (⟨b, off, none⟩ : Addr).add i = ⟨b, off + i, none⟩ := by unfold Addr.add; split <;> simp_all
      rw [e1] at h1
      rw [h1]
      have : i < len := by omega
      simp [List.getD_eq_getElem?_getD, this]
end Go.Proofs.YtcjkachlahjbiaaDoor
