/- The walk of the law TopBits: it returns true, whatever is given. No condition but that each number fits its kind. -/
import Derived.Test.YtkecoekeepigkaaBitm
import Derived.Test.YtkecoekeepigkaaCell
import Derived.Deep.AppendLies
import Derived.Deep.DeepCutAuto
namespace Go.Proofs.Ytkecoekeepigkaa
open Go.RowKit
set_option linter.unusedVariables false
theorem set_lt {w : World} {v : Value} {zs : List Int} (h : Lst .u64 w v zs) : ∀ b, setBlk v = some b → b < w.heap.size := by
  intro b hb
  rcases h with ⟨_, a, cap, rfl⟩ | ⟨b', off, cap, rfl, h1, _, h3⟩
  · cases a <;> simp [setBlk] at hb
  · simp [setBlk] at hb
    obtain ⟨_, rfl⟩ := hb
    exact World.block_lt_of_cell? w _ (h3 0 h1)
theorem set_touch {R : Nat → Prop} {w w' : World} {v : Value} {zs : List Int} (h : Lst .u64 w v zs) (ht : Touch R w w') (hv : ∀ b, setBlk v = some b → ¬ R b) : Lst .u64 w' v zs := by
  rcases h with h | ⟨b, off, cap, rfl, h1, h2, h3⟩
  · exact .inl h
  · have hb := hv b (by show (if zs.length = 0 then none else some b) = some b; rw [if_neg (by omega)])
    exact .inr ⟨b, off, cap, rfl, h1, h2, fun i hi => (World.cell?_of_block (ht.block b (World.block_lt_of_cell? w _ (h3 0 h1)) hb)).trans (h3 i hi)⟩
/-- The state: an arena with a log, its four ports in a row, the set that is to be the same. -/
structure TB (w wr : World) (a c g : Nat) (ps : Nat → Nat) (cs : List Int) (lv : Value) (xs : List Value) (m : Nat) (want : Value) (L : List Int) : Prop where
  ar : ArenaL wr w.heap.size a c cs lv xs m 0
  pt : ∀ j, j < 4 → ∃ o, PortAt wr (ps j) a j o
  row : ∀ j, j < 4 → wr.cell? ⟨g, j, none⟩ = some (.pointer (some ⟨ps j, 0, none⟩))
  wl : Lst .u64 wr want L
  bel : Below w.heap.size w wr
  len : cs.length = 8
  lenL : L.length ≤ 8
  U : ∀ z ∈ cs, U64 z
  UL : ∀ z ∈ L, U64 z
  lo : w.heap.size ≤ a ∧ w.heap.size ≤ c ∧ w.heap.size ≤ g ∧ g ≠ a ∧ g ≠ c ∧ lv.ownBlock ≠ some g
  lop : ∀ j, j < 4 → w.heap.size ≤ ps j ∧ ps j ≠ a ∧ ps j ≠ c ∧ ps j ≠ g ∧ lv.ownBlock ≠ some (ps j)
  dis : ∀ i j, i < 4 → j < 4 → i ≠ j → ps i ≠ ps j
  lol : ∀ b, lv.ownBlock = some b → w.heap.size ≤ b
  wb : ∀ b, setBlk want = some b → b ≠ a ∧ b ≠ c ∧ lv.ownBlock ≠ some b ∧ ∀ j, j < 4 → b ≠ ps j
theorem TB.lt {w wr : World} {a c g : Nat} {ps : Nat → Nat} {cs : List Int} {lv : Value} {xs : List Value} {m : Nat} {want : Value} {L : List Int} (h : TB w wr a c g ps cs lv xs m want L) : a < wr.heap.size ∧ c < wr.heap.size ∧ g < wr.heap.size ∧ (∀ j, j < 4 → ps j < wr.heap.size) ∧ ∀ b, lv.ownBlock = some b → b < wr.heap.size := by
  refine ⟨h.ar.at'.lt.1, h.ar.at'.lt.2, World.block_lt_of_cell? wr _ (h.row 0 (by decide)), fun j hj => ?_, fun b hb => (h.ar.own.lt b hb).2⟩
  obtain ⟨o, ho⟩ := h.pt j hj
  exact Blk.lt ho
/-- behind a call that has only grown the world -/
theorem TB.grew {w wr w2 : World} {a c g : Nat} {ps : Nat → Nat} {cs : List Int} {lv : Value} {xs : List Value} {m : Nat} {want : Value} {L : List Int} (h : TB w wr a c g ps cs lv xs m want L) (hb : Below wr.heap.size wr w2) : TB w w2 a c g ps cs lv xs m want L :=
  { ar := h.ar.grew hb, pt := fun j hj => by obtain ⟨o, ho⟩ := h.pt j hj; exact ⟨o, Blk.grew ho hb⟩, row := fun j hj => (hb.cell (p := ⟨g, j, none⟩) h.lt.2.2.1).trans (h.row j hj), wl := h.wl.below hb, bel := h.bel.trans (hb.mono h.bel.size), len := h.len, lenL := h.lenL, U := h.U, UL := h.UL, lo := h.lo, lop := h.lop, dis := h.dis, lol := h.lol, wb := h.wb }
/-- a new set in the old one's place -/
theorem TB.reset {w wr : World} {a c g : Nat} {ps : Nat → Nat} {cs : List Int} {lv : Value} {xs : List Value} {m : Nat} {want : Value} {L : List Int} (h : TB w wr a c g ps cs lv xs m want L) {w2 : World} {v2 : Value} {L2 : List Int} (hb : Below wr.heap.size wr w2) (hl : Lst .u64 w2 v2 L2) (hlen : L2.length ≤ 8) (hU : ∀ z ∈ L2, U64 z) (hv : ∀ b, setBlk v2 = some b → wr.heap.size ≤ b) : TB w w2 a c g ps cs lv xs m v2 L2 := by
  have h2 := h.grew hb
  have hlt := h.lt
  have hwb : ∀ b, setBlk v2 = some b → b ≠ a ∧ b ≠ c ∧ lv.ownBlock ≠ some b ∧ ∀ j, j < 4 → b ≠ ps j := by
    intro b hb'
    have h3 := hv b hb'
    refine ⟨by omega, by omega, fun e => ?_, fun j hj => ?_⟩
    · have := hlt.2.2.2.2 b e; omega
    · have := hlt.2.2.2.1 j hj; omega
  exact { ar := h2.ar, pt := h2.pt, row := h2.row, wl := hl, bel := h2.bel, len := h2.len, lenL := hlen, U := h2.U, UL := hU, lo := h2.lo, lop := h2.lop, dis := h2.dis, lol := h2.lol, wb := hwb }
section
variable {w wr w2 : World} {a c g : Nat} {ps : Nat → Nat} {cs : List Int} {lv : Value} {xs : List Value} {m : Nat} {want : Value} {L : List Int}
theorem TB.granted (h : TB w wr a c g ps cs lv xs m want L) {k : Nat} (hk : k < 4) (hP : PortAt w2 (ps k) a k true) (hT : Touch (· = ps k) wr w2) : TB w w2 a c g ps cs lv xs m want L := by
  have h1 := h.lop k hk
  have hlo := h.lo
  refine { ar := h.ar.touch hT (Ne.symm h1.2.1) (Ne.symm h1.2.2.1) (fun b e h2 => h1.2.2.2.2 (by rw [e, h2])), pt := ?_, row := ?_, wl := ?_, bel := ?_, len := h.len, lenL := h.lenL, U := h.U, UL := h.UL, lo := h.lo, lop := h.lop, dis := h.dis, lol := h.lol, wb := h.wb }
  · intro j hj
    by_cases e : j = k
    · subst e; exact ⟨true, hP⟩
    · obtain ⟨o, ho⟩ := h.pt j hj
      exact ⟨o, Blk.touch ho hT (h.dis j k hj hk e)⟩
  · intro j hj
    exact (World.cell?_of_block (hT.block g h.lt.2.2.1 (Ne.symm h1.2.2.2.1))).trans (h.row j hj)
  · exact set_touch h.wl hT (fun b hb => (h.wb b hb).2.2.2 k hk)
  · exact h.bel.trans (hT.below h.bel.size (fun x hx => by rw [hx]; exact h1.1))
theorem TB.stepped (h : TB w wr a c g ps cs lv xs m want L) {k q : Nat} {kd v : Int} (hk : k < 4) (hS : LogStep w.heap.size a c (ps k) cs lv xs m 0 q k kd 0 v wr w2) (hU : U64 (leftI kd (cs.getD q 0) 0 v)) :
    ∃ lv2 xs2, TB w w2 a c g ps (cs.set q (leftI kd (cs.getD q 0) 0 v)) lv2 xs2 (m + 1) want L := by
  obtain ⟨lv2, hL, hP, hg, hT⟩ := hS
  have h1 := h.lop k hk
  have hlo := h.lo
  have hlt := h.lt
  have hfar : ∀ b, b < wr.heap.size → lv.ownBlock ≠ some b → lv2.ownBlock ≠ some b := fun b hb hn e => by
    rcases hg b e with h2 | h2
    · exact hn h2
    · omega
  refine ⟨lv2, _, { ar := hL, pt := ?_, row := ?_, wl := ?_, bel := ?_, len := by rw [List.length_set]; exact h.len, lenL := h.lenL, U := ?_, UL := h.UL, lo := ?_, lop := ?_, dis := h.dis, lol := ?_, wb := ?_ }⟩
  · intro j hj
    by_cases e : j = k
    · subst e; exact ⟨false, hP⟩
    · obtain ⟨o, ho⟩ := h.pt j hj
      have h2 := h.lop j hj
      refine ⟨o, Blk.touch ho hT (fun hh => ?_)⟩
      rcases hh with hh | hh | hh | hh
      · exact h2.2.1 hh
      · exact h2.2.2.1 hh
      · exact h.dis j k hj hk e hh
      · exact h2.2.2.2.2 hh
  · intro j hj
    refine (World.cell?_of_block (hT.block g hlt.2.2.1 (fun hh => ?_))).trans (h.row j hj)
    rcases hh with hh | hh | hh | hh
    · exact hlo.2.2.2.1 hh
    · exact hlo.2.2.2.2.1 hh
    · exact h1.2.2.2.1 hh.symm
    · exact hlo.2.2.2.2.2 hh
  · refine set_touch h.wl hT (fun b hb hh => ?_)
    have h2 := h.wb b hb
    rcases hh with hh | hh | hh | hh
    · exact h2.1 hh
    · exact h2.2.1 hh
    · exact h2.2.2.2 k hk hh
    · exact h2.2.2.1 hh
  · exact h.bel.trans (hT.belowL h.bel.size hlo.1 hlo.2.1 h1.1 h.lol)
  · intro z hz
    rcases List.mem_or_eq_of_mem_set hz with h2 | h2
    · exact h.U z h2
    · rw [h2]; exact hU
  · exact ⟨hlo.1, hlo.2.1, hlo.2.2.1, hlo.2.2.2.1, hlo.2.2.2.2.1, hfar g hlt.2.2.1 hlo.2.2.2.2.2⟩
  · intro j hj
    have h2 := h.lop j hj
    exact ⟨h2.1, h2.2.1, h2.2.2.1, h2.2.2.2.1, hfar _ (hlt.2.2.2.1 j hj) h2.2.2.2.2⟩
  · intro b hb
    rcases hg b hb with h2 | h2
    · exact h.lol b h2
    · exact Nat.le_trans h.bel.size h2
  · intro b hb
    have h2 := h.wb b hb
    exact ⟨h2.1, h2.2.1, hfar b (set_lt h.wl b hb) h2.2.2.1, h2.2.2.2⟩
end
end Go.Proofs.Ytkecoekeepigkaa
