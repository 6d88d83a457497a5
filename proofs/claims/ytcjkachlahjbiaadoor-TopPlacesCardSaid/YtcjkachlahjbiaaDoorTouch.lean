/- Words for memory that calls write: a block known whole; which blocks a call may have written. No condition. -/
import Derived.Test.YtcjkachlahjbiaaDoorRow
import Derived.Below
import Derived.Laws.AppendOwn
namespace Go.Proofs.YtcjkachlahjbiaaDoor
open Go.RowKit

/-- Block b holds just these cells, and they may be written. -/
def Blk (w : World) (b : Nat) (cs : Array Value) (t : TypeId) : Prop := w.heap[b]? = some (.cells cs t (0, 0))
theorem Blk.lt {w : World} {b : Nat} {cs : Array Value} {t : TypeId} (h : Blk w b cs t) : b < w.heap.size := (Array.getElem?_eq_some_iff.1 h).1
theorem Blk.cell {w : World} {b : Nat} {cs : Array Value} {t : TypeId} (h : Blk w b cs t) (i : Nat) : w.cell? ⟨b, i, none⟩ = cs[i]? := by
  unfold Blk at h; unfold World.cell?; simp only [h]; rfl
theorem Blk.val {w : World} {b : Nat} {cs : Array Value} {t : TypeId} (h : Blk w b cs t) (i : Nat) {v : Value} (hi : cs[i]? = some v) : w.cell? ⟨b, i, none⟩ = some v := (h.cell i).trans hi
theorem Blk.frozen {w : World} {b : Nat} {cs : Array Value} {t : TypeId} (h : Blk w b cs t) (i : Nat) : w.frozen? ⟨b, i, none⟩ = false := by
  unfold Blk at h; unfold World.frozen?; simp [h]
theorem Blk.new (w : World) (cs : Array Value) (t : TypeId) : Blk (w.alloc (.cells cs t)) w.heap.size cs t := by
  unfold Blk World.alloc; simp
theorem Blk.new' {w : World} {n : Nat} {cs : Array Value} {t : TypeId} (hn : n = w.heap.size) : Blk (w.alloc (.cells cs t)) n cs t := by
  subst hn; exact Blk.new w cs t
theorem Blk.of {w w' : World} {b : Nat} {cs : Array Value} {t : TypeId} (h : Blk w b cs t) (he : w'.heap[b]? = w.heap[b]?) : Blk w' b cs t := he.trans h
theorem Blk.alloc {w : World} {b : Nat} {cs : Array Value} {t : TypeId} (h : Blk w b cs t) (o : Obj) : Blk (w.alloc o) b cs t := h.of (Below.heap_alloc _ _ _ h.lt)
theorem Blk.drewN {w : World} {b : Nat} {cs : Array Value} {t : TypeId} (h : Blk w b cs t) (n : Nat) : Blk (w.drewN n) b cs t := h
theorem Blk.drew {w : World} {b : Nat} {cs : Array Value} {t : TypeId} (h : Blk w b cs t) : Blk w.drew b cs t := h
theorem Blk.quiet {w w' : World} {b : Nat} {cs : Array Value} {t : TypeId} (h : Blk w b cs t) (hq : Quiet w w') : Blk w' b cs t := by
  obtain ⟨n, rfl⟩ := hq; exact h
theorem Blk.other {w : World} {b : Nat} {cs : Array Value} {t : TypeId} (h : Blk w b cs t) (a : Addr) (v : Value) (hne : b ≠ a.block) : Blk (w.setCell a v) b cs t := h.of (Below.heap_setCell _ _ _ _ hne)
theorem Blk.set {w : World} {b : Nat} {cs : Array Value} {t : TypeId} (h : Blk w b cs t) (i : Nat) (v : Value) : Blk (w.setCell ⟨b, i, none⟩ v) b (cs.setIfInBounds i v) t := by
  unfold Blk at *
  simp only [World.setCell, Array.getElem?_modify, if_true, h]
  rfl
theorem Blk.below {B : Nat} {w w' : World} {b : Nat} {cs : Array Value} {t : TypeId} (h : Blk w b cs t) (hb : Below B w w') (hl : b < B) : Blk w' b cs t := h.of (hb.block b hl)
theorem Blk.grew {w w' : World} {b : Nat} {cs : Array Value} {t : TypeId} (h : Blk w b cs t) (hb : Below w.heap.size w w') : Blk w' b cs t := h.below hb h.lt

theorem Quiet.below' {B : Nat} {w w' : World} (h : Below B w w') : Below B w w'.drew := h.drew
/-- Of the blocks that were there, none but those of R may have been written; the streams are as they were. -/
structure Touch (R : Nat → Prop) (w w' : World) : Prop where
  os : w'.os = w.os
  tape : w'.tape = w.tape
  output : w'.output = w.output
  size : w.heap.size ≤ w'.heap.size
  block : ∀ k, k < w.heap.size → ¬ R k → w'.heap[k]? = w.heap[k]?
theorem Touch.refl (R : Nat → Prop) (w : World) : Touch R w w := ⟨rfl, rfl, rfl, Nat.le_refl _, fun _ _ _ => rfl⟩
theorem Touch.trans {R : Nat → Prop} {a b c : World} (h : Touch R a b) (k : Touch R b c) : Touch R a c :=
  ⟨k.os.trans h.os, k.tape.trans h.tape, k.output.trans h.output, Nat.le_trans h.size k.size, fun i hi hr => (k.block i (Nat.lt_of_lt_of_le hi h.size) hr).trans (h.block i hi hr)⟩
theorem Touch.mono {R R' : Nat → Prop} {w w' : World} (h : Touch R w w') (hR : ∀ k, k < w.heap.size → R k → R' k) : Touch R' w w' :=
  ⟨h.os, h.tape, h.output, h.size, fun k hk hr => h.block k hk (fun h' => hr (hR k hk h'))⟩
theorem Touch.of {R : Nat → Prop} {w w' : World} (h : Below w.heap.size w w') : Touch R w w' := ⟨h.os, h.tape, h.output, h.size, fun k hk _ => h.block k hk⟩
theorem Touch.alloc {R : Nat → Prop} {a w : World} (h : Touch R a w) (o : Obj) : Touch R a (w.alloc o) := h.trans (.of ((Below.refl _ _).alloc (Nat.le_refl _) _))
theorem Touch.drewN {R : Nat → Prop} {a w : World} (h : Touch R a w) (n : Nat) : Touch R a (w.drewN n) := ⟨h.os, h.tape, h.output, h.size, h.block⟩
theorem Touch.drew {R : Nat → Prop} {a w : World} (h : Touch R a w) : Touch R a w.drew := ⟨h.os, h.tape, h.output, h.size, h.block⟩
theorem Touch.setCell {R : Nat → Prop} {a w : World} (h : Touch R a w) {p : Addr} (hp : R p.block) (v : Value) : Touch R a (w.setCell p v) :=
  h.trans ⟨rfl, rfl, rfl, by simp [World.setCell], fun k _ hr => Below.heap_setCell _ _ _ _ (fun e => hr (e ▸ hp))⟩
/-- a store into a block of the call's own -/
theorem Touch.setNew {R : Nat → Prop} {a w : World} (h : Touch R a w) {p : Addr} (hp : a.heap.size ≤ p.block) (v : Value) : Touch R a (w.setCell p v) :=
  ⟨h.os, h.tape, h.output, Nat.le_trans h.size (by simp [World.setCell]), fun k hk hr => (Below.heap_setCell _ _ _ _ (by omega)).trans (h.block k hk hr)⟩
theorem Touch.grown {R : Nat → Prop} {a w w' : World} {row : Option Nat} (h : Touch R a w) (hg : w.grownBy w' row) (hr : ∀ k, row = some k → R k ∨ a.heap.size ≤ k) : Touch R a w' :=
  ⟨hg.os.trans h.os, hg.tape.trans h.tape, hg.output.trans h.output, Nat.le_trans h.size hg.size, fun k hk hR => by
    refine (hg.block k (Nat.lt_of_lt_of_le hk h.size) (fun e => ?_)).trans (h.block k hk hR)
    rcases hr k e.symm with h1 | h1
    · exact hR h1
    · omega⟩
theorem Touch.below {R : Nat → Prop} {B : Nat} {w w' : World} (h : Touch R w w') (hB : B ≤ w.heap.size) (hR : ∀ k, R k → B ≤ k) : Below B w w' :=
  ⟨h.os, h.tape, h.output, h.size, fun k hk => h.block k (by omega) (fun hr => by have := hR k hr; omega)⟩
theorem Blk.touch {R : Nat → Prop} {w w' : World} {b : Nat} {cs : Array Value} {t : TypeId} (h : Blk w b cs t) (ht : Touch R w w') (hn : ¬ R b) : Blk w' b cs t := h.of (ht.block b h.lt hn)
end Go.Proofs.YtcjkachlahjbiaaDoor
