/- MaskOf: the walk of the whole. Conditions: the argument is a list of numbers, the table of math/bits lies as the start lays it. -/
import Derived.Test.YtalhlbedgkhijaaDoorMrof
import Derived.Test.YtalhlbedgkhijaaDoorMasked
namespace Go.Proofs.YtalhlbedgkhijaaDoor
open Go.RowKit
set_option linter.unusedVariables false

theorem ofL_len (ps : List Int) : (ofL ps).length = ofW ps := by unfold ofL; rw [ofFold_len, List.length_replicate]
theorem ofW_top (ps : List Int) (h : ∀ k, k < ps.length → okPl (ps.getD k 0) = true) : ofW ps ≤ 1024 := by
  have := (ofW_le ps ps.length (Nat.le_refl _) (fun j hj => h j hj)).1
  rwa [List.take_of_length_le (Nat.le_refl _)] at this
theorem blk_lst' {w : World} {g n : Nat} {L : List Int} (h : Blk w g (L.map (Value.int .u64)).toArray 33) (hl : L.length = n) (hm : n ≤ 4096) : Lst .u64 w (.slice (some ⟨g, 0, none⟩) n n) L := by
  subst hl
  exact blk_lst h (by unfold maxLen; omega)
/-- a new list, or none: what both ways tell -/
def BothE (er : Int) (L : List Int) (w : World) (e : Ending) (w' : World) : Prop := ∃ v, e = .returned (.tuple #[v, .int .i64 er]) ∧ Lst .u64 w' v L ∧ (∀ b, setBlk v = some b → w.heap.size ≤ b) ∧ Below w.heap.size w w'
def BothPost (ok : Bool) (L : List Int) (w : World) (e : Ending) (w' : World) : Prop := BothE (if ok then 0 else 1) L w e w'
def okAll (ps : List Int) : Bool := ps.all okPl
theorem okAll_true {ps : List Int} (h : ∀ k, k < ps.length → okPl (ps.getD k 0) = true) : okAll ps = true := by
  unfold okAll
  rw [List.all_eq_true]
  intro z hz
  obtain ⟨i, hi, rfl⟩ := List.getElem_of_mem hz
  have := h i hi
  rwa [getD_in ps i hi] at this
theorem okAll_false {ps : List Int} (h : ∃ k, k < ps.length ∧ okPl (ps.getD k 0) = false) : okAll ps = false := by
  obtain ⟨k, hk, hb⟩ := h
  cases hc : okAll ps with
  | false => rfl
  | true =>
    exfalso
    unfold okAll at hc
    have := List.all_eq_true.1 hc (ps.getD k 0) (by rw [getD_in ps k hk]; exact List.getElem_mem hk)
    rw [hb] at this; cases this
theorem of_both (v : Value) (ps : List Int) (w : World) (h : Lst .i64 w v ps) (hm : ps.length ≤ 1000000) :
    Calls Tryd.prog 31 #[v] w (BothPost (okAll ps) (if okAll ps then ofL ps else []) w) :=
  (of_any v ps w h hm).mono (fun e w' H => by
    rcases H with ⟨hok, g, rfl, hB, hg, hb⟩ | ⟨hbad, rfl, hb⟩
    · rw [okAll_true hok]
      exact ⟨_, rfl, blk_lst' hB (ofL_len ps) (by have := ofW_top ps hok; omega), fun b hb => by rw [← setBlk_at hb]; exact hg, hb⟩
    · rw [okAll_false hbad]
      exact ⟨_, rfl, .inl ⟨rfl, none, 0, rfl⟩, fun b hb => by simp [setBlk] at hb, hb⟩)
theorem rof_both (v : Value) (ps : List Int) (m0 : Nat) (w : World) (h : Lst .i64 w v ps) (hm : ps.length ≤ 1000000) (hm0 : m0 ≤ 1024) :
    Calls Tryd.prog 32 #[v, .int .i64 m0] w (BothPost (okAll ps) (if okAll ps then ofL0 ps m0 else []) w) :=
  (rof_any v ps m0 w h hm hm0).mono (fun e w' H => by
    rcases H with ⟨hok, g, rfl, hB, hg, hb⟩ | ⟨hbad, rfl, hb⟩
    · rw [okAll_true hok]
      have := (ofW0_le ps m0 ps.length (Nat.le_refl _) (fun j hj => hok j hj)).1
      rw [List.take_of_length_le (Nat.le_refl _)] at this
      exact ⟨_, rfl, blk_lst' hB (by show (ofL0 ps m0).length = _; unfold ofL0; rw [ofFold_len, List.length_replicate]) (by omega), fun b hb => by rw [← setBlk_at hb]; exact hg, hb⟩
    · rw [okAll_false hbad]
      exact ⟨_, rfl, .inl ⟨rfl, none, 0, rfl⟩, fun b hb => by simp [setBlk] at hb, hb⟩)
set_option maxRecDepth 100000 in
set_option maxHeartbeats 1000000 in
theorem of_law (a0 : Option Addr) (n0 c0 : Nat) (z0 : List Int) (w : World) (h0 : IsRow .i64 w a0 n0 c0 z0) (hT : Tab w) :
    Calls Tryd.prog 9 #[.slice a0 n0 c0] w fun e w' => e = .returned (.bool true) ∧ Below w.heap.size w w' := by
  have MY := Lib.hid (fun W (h : Below w.heap.size w W) => masked_yes W (hT.grew h))
  by_cases k0 : n0 ≤ 300
  · have k0' : ¬ (300 : Int) < (n0 : Int) := by omega
    obtain ⟨hl, _, _, hlen⟩ := h0.lst
    generalize z0.take n0 = ps at *
    have C1 := Lib.hid (fun W (h : Below w.heap.size w W) => of_both _ ps W (hl.below h) (by omega))
    have C2 := Lib.hid (fun W (h : Below w.heap.size w W) => rof_both _ ps 0 W (hl.below h) (by omega) (by omega))
    have e0 : (if okAll ps = true then ofL0 ps 0 else []) = (if okAll ps = true then ofL ps else []) := rfl
    rw [e0] at C2
    generalize (if okAll ps = true then ofL ps else []) = L at *
    unfold BothPost at C1 C2
    generalize (if okAll ps = true then (0 : Int) else 1) = er at *
    clear h0 hT k0 hl hlen e0
    go_enter Tryd.func9, Tryd.ntmps9
    go_wp2_with fail
    refine (C1.out w (Below.refl _ _)).mono ?_
    rintro e w1 ⟨v1, rfl, l1, -, b1⟩
    go_wp2_with fail
    refine (C2.out w1 b1).mono ?_
    rintro e w2 ⟨v2, rfl, l2, -, c2⟩
    have b2 := b1.trans (c2.mono b1.size)
    have l1' := l1.below c2
    clear l1 c2 C1 C2
    go_wp2_with fail
    refine (MY.out w2 b2).mono ?_
    rintro e w3 ⟨rfl, c3⟩
    have b3 := b2.trans (c3.mono b2.size)
    have l1b := l1'.below c3
    have l2b := l2.below c3
    clear l1' l2 c3
    go_wp2_with fail
    refine (words_any v1 v2 L w3 l1b l2b).mono ?_
    rintro e w4 ⟨rfl, q4⟩
    clear l1b l2b
    go_wp2
    go_ret
    exact ⟨by simp, b3.trans q4.below⟩
  · have k0' : (300 : Int) < (n0 : Int) := by omega
    clear h0 hT k0
    go_enter Tryd.func9, Tryd.ntmps9
    go_wp2_with fail
    refine (MY.out w (Below.refl _ _)).mono ?_
    rintro e w0 ⟨rfl, b0⟩
    go_wp2
    go_ret
    exact ⟨rfl, b0⟩
end Go.Proofs.YtalhlbedgkhijaaDoor
