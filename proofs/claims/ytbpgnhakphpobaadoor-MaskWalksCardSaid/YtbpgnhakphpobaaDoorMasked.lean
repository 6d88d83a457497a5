/- The document's 'masked' answers true. Condition: the table of math/bits lies as the start lays it. -/
import Derived.Test.YtbpgnhakphpobaaDoorMfit
import Derived.Test.YtbpgnhakphpobaaDoorMnext
import Derived.Test.YtbpgnhakphpobaaDoorWords
namespace Go.Proofs.YtbpgnhakphpobaaDoor
open Go.RowKit
set_option linter.unusedVariables false

theorem num_of : ofL [1, 2, 64] = [6, 1] ∧ ofW [1, 2, 64] = 2 := by decide
theorem num_fit : fitI 62 (64 * ((2 : Nat) : Int)) 0 (runsI 0 0 (plL [6, 1])) = 65 := by decide
theorem num_next : nextV (fun x => x) [6, 1] 3 = 64 := by decide
theorem lst_news {kk : IntKind} (w : World) (l : List Int) (t : TypeId) (h0 : 0 < l.length) (hm : l.length ≤ 1000) : Lst kk (w.alloc (.cells (l.map (Value.int kk)).toArray t)) (.slice (some ⟨w.heap.size, 0, none⟩) l.length l.length) l :=
  .inr ⟨w.heap.size, 0, l.length, rfl, h0, by unfold maxLen; omega, fun i hi => by
    rw [Blk.cell (cs := (l.map (Value.int kk)).toArray) (t := t) (Blk.new w _ _)]
    simp [List.getD_eq_getElem?_getD, hi]⟩
set_option maxRecDepth 100000 in
set_option maxHeartbeats 2000000 in
theorem masked_yes (w : World) (hT : Tab w) :
    Calls Tryd.prog 4 #[] w fun e w' => e = .returned (.bool true) ∧ Below w.heap.size w w' := by
  have O := Lib.hid (of_any (.slice (some ⟨w.heap.size, 0, none⟩) 3 3) [1, 2, 64] (w.alloc (.cells #[.int .i64 1, .int .i64 2, .int .i64 64] 3)) (lst_news w [1, 2, 64] _ (by decide) (by decide)) (by decide))
  have HT := Lib.hid hT
  clear hT
  go_enter Tryd.func4, Tryd.ntmps4
  go_wp2_with fail
  refine O.out.mono ?_
  rintro e w1 (⟨_, g, rfl, hB, hg, hb⟩ | ⟨⟨k, hk, hbad⟩, _⟩)
  · rw [num_of.1] at hB
    rw [num_of.2]
    have hb1 : Below w.heap.size w w1 := ((Below.refl _ w).alloc (Nat.le_refl _) _).trans (hb.mono (by simp))
    have hL1 : Lst .u64 w1 (.slice (some ⟨g, 0, none⟩) 2 2) [6, 1] := blk_lst hB (by decide)
    have HL := Lib.hid hL1
    have hsz := hb1.size
    clear O hB hL1
    go_wp2_with fail
    have HL2 := Lib.hid (HL.out.below ((Below.refl _ w1).alloc (Nat.le_refl _) (.cells #[.int .u64 6, .int .u64 1] 24)))
    refine (words_any _ _ [6, 1] _ HL2.out (lst_news w1 [6, 1] _ (by decide) (by decide))).mono ?_
    rintro e w2 ⟨rfl, hq2⟩
    have hb2 : Below w1.heap.size w1 w2 := ((Below.refl _ w1).alloc (Nat.le_refl _) _).trans hq2.below
    have HL3 := Lib.hid (HL.out.below hb2)
    have hU : ∀ z ∈ [(6 : Int), 1], U64 z := by
      intro z hz
      simp at hz
      rcases hz with rfl | rfl <;> exact ⟨by decide, by decide⟩
    have hb02 := hb1.trans (hb2.mono hsz)
    clear hq2
    go_wp2_with fail
    refine (fit_big _ [6, 1] 62 _ HL3.out (by decide) hU (HT.out.grew hb02) (by decide) (by decide)).mono ?_
    rintro e w3 ⟨rfl, hb3⟩
    have hb03 := hb02.trans (hb3.mono hb02.size)
    have HL4 := Lib.hid (HL3.out.below hb3)
    rw [show fitI 62 (64 * (([(6 : Int), 1].length : Nat) : Int)) 0 (runsI 0 0 (plL [6, 1])) = 65 from num_fit]
    clear HL HL2 HL3 hb2 hb02 hb3
    go_wp2_with fail
    refine (next_any _ [6, 1] 3 3 _ HL4.out (by decide) hU (HT.out.grew hb03) (by decide) (by decide)).mono ?_
    rintro e w4 ⟨rfl, hq4⟩
    rw [num_next]
    go_wp2
    go_ret
    exact ⟨by simp, hb03.trans hq4.below⟩
  · exfalso
    match k, hk with
    | 0, _ => exact absurd hbad (by decide)
    | 1, _ => exact absurd hbad (by decide)
    | 2, _ => exact absurd hbad (by decide)
end Go.Proofs.YtbpgnhakphpobaaDoor
