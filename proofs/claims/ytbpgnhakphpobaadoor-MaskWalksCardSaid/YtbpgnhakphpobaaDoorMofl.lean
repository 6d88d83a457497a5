/- MaskOf: the walk of the whole. Conditions: the argument is a list of numbers, the table of math/bits lies as the start lays it. -/
import Derived.Test.YtbpgnhakphpobaaDoorMrof
import Derived.Test.YtbpgnhakphpobaaDoorMasked
namespace Go.Proofs.YtbpgnhakphpobaaDoor
open Go.RowKit
set_option linter.unusedVariables false

theorem ofL_len (ps : List Int) : (ofL ps).length = ofW ps := by unfold ofL; rw [ofFold_len, List.length_replicate]
theorem ofW_top (ps : List Int) (h : ∀ k, k < ps.length → okPl (ps.getD k 0) = true) : ofW ps ≤ 1024 := by
  have := (ofW_le ps ps.length (Nat.le_refl _) (fun j hj => h j hj)).1
  rwa [List.take_of_length_le (Nat.le_refl _)] at this
theorem blk_lst' {w : World} {g n : Nat} {L : List Int} (h : Blk w g (L.map (Value.int .u64)).toArray 24) (hl : L.length = n) (hm : n ≤ 4096) : Lst .u64 w (.slice (some ⟨g, 0, none⟩) n n) L := by
  subst hl
  exact blk_lst h (by unfold maxLen; omega)
/-- a new list, or none: what both ways tell -/
def BothE (er : Int) (L : List Int) (w : World) (e : Ending) (w' : World) : Prop := ∃ v, e = .returned (.tuple #[v, .int .i64 er]) ∧ Lst .u64 w' v L ∧ (∀ b, setBlk v = some b → w.heap.size ≤ b) ∧ Below w.heap.size w w'
def BothPost (ok : Bool) (L : List Int) (w : World) (e : Ending) (w' : World) : Prop := BothE (if ok then 0 else 1) L w e w'
def okAll (ps : List Int) : Bool := ps.all okPl
theorem okAll_true {ps : List Int} (h : ∀ k, k < ps.length → okPl (ps.getD k 0) = true) : okAll ps = true := by
  unfold okAll
  rw [List.all_eq_true]
  intro z hz
  obtain ⟨i, hi, rfl⟩ := List.getElem_of_mem hz
  have := h i hi
  rwa [getD_in ps i hi] at this
theorem okAll_false {ps : List Int} (h : ∃ k, k < ps.length ∧ okPl (ps.getD k 0) = false) : okAll ps = false := by
  obtain ⟨k, hk, hb⟩ := h
  cases hc : okAll ps with
  | false => rfl
  | true =>
    exfalso
    unfold okAll at hc
    have := List.all_eq_true.1 hc (ps.getD k 0) (by rw [getD_in ps k hk]; exact List.getElem_mem hk)
    rw [hb] at this; cases this
theorem of_both (v : Value) (ps : List Int) (w : World) (h : Lst .i64 w v ps) (hm : ps.length ≤ 1000000) :
    Calls Tryd.prog 10 #[v] w (BothPost (okAll ps) (if okAll ps then ofL ps else []) w) :=
  (of_any v ps w h hm).mono (fun e w' H => by
    rcases H with ⟨hok, g, rfl, hB, hg, hb⟩ | ⟨hbad, rfl, hb⟩
    · rw [okAll_true hok]
      exact ⟨_, rfl, blk_lst' hB (ofL_len ps) (by have := ofW_top ps hok; omega), fun b hb => by rw [← setBlk_at hb]; exact hg, hb⟩
    · rw [okAll_false hbad]
      exact ⟨_, rfl, .inl ⟨rfl, none, 0, rfl⟩, fun b hb => by simp [setBlk] at hb, hb⟩)
end Go.Proofs.YtbpgnhakphpobaaDoor
