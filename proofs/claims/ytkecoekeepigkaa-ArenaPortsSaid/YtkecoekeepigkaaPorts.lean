/- The walk of the law ArenaPorts: it returns true, whatever is given. No condition but that each number fits its kind. -/
import Derived.Test.YtkecoekeepigkaaCell
import Derived.Deep.Cut
namespace Go.Proofs.Ytkecoekeepigkaa
open Go.RowKit
set_option maxRecDepth 100000 in
set_option maxHeartbeats 1000000 in
theorem ports_in (i : Int) (w : World) (h0 : 0 ≤ i) (h1 : i ≤ 15) : Calls Try.prog 8 #[.int .i64 i] w fun e w' => e = .returned (.bool true) ∧ Below w.heap.size w w' := by
  go_enter Try.func8, Try.ntmps8
  go_wp2_with fail
  refine (new_yes 1 false _ (by decide) (by decide)).mono ?_
  rintro e w1 ⟨a, c, rfl, hA1, ha, hc, hb1⟩
  go_wp2_with fail
  refine (celled_any _).mono ?_
  rintro e w2 ⟨rfl, hb2⟩
  have hB2 := hb1.trans (hb2.mono hb1.size)
  clear hA1 hb1 hb2
  go_wp2_with fail
  refine (port_yes a i _ h0 h1).mono ?_
  rintro e w3 ⟨p, rfl, hP3, hp, hb3⟩
  have hB3 := hB2.trans (hb3.mono hB2.size)
  clear hB2
  go_wp2_with fail
  refine (grant_nil _).mono ?_
  rintro e w5 ⟨⟨v4, rfl⟩, rfl⟩
  go_wp2_with fail
  refine (store_nil _ _ _).mono ?_
  rintro e w5 ⟨⟨v5, rfl⟩, hb5⟩
  have hP3 := Blk.grew hP3 hb5
  have hB3 := hB3.trans (hb5.mono hB3.size)
  clear hb5
  go_wp2_with fail
  refine (port_nil _ _).mono ?_
  rintro e w5 ⟨rfl, hq5⟩
  have hP3 := Blk.quiet hP3 hq5
  have hB3 := hB3.trans hq5.below
  clear hq5
  go_wp2_with fail
  refine (peek_nil _ _).mono ?_
  rintro e w5 ⟨rfl, hq5⟩
  have hP3 := Blk.quiet hP3 hq5
  have hB3 := hB3.trans hq5.below
  clear hq5
  go_wp2_with fail
  refine (who_at p a i false _ hP3).mono ?_
  rintro e w5 ⟨rfl, hq5⟩
  have hP3 := Blk.quiet hP3 hq5
  have hB3 := hB3.trans hq5.below
  clear hq5
  go_wp2_with fail
  refine (open_at p a i false _ hP3).mono ?_
  rintro e w5 ⟨rfl, hq5⟩
  have hP3 := Blk.quiet hP3 hq5
  have hB3 := hB3.trans hq5.below
  clear hq5
  go_wp2_with fail
  refine (poke_nil _ _ _).mono ?_
  rintro e w5 ⟨rfl, hq5⟩
  have hP3 := Blk.quiet hP3 hq5
  have hB3 := hB3.trans hq5.below
  clear hq5
  go_wp2_with fail
  refine (cells_nil _).mono ?_
  rintro e w5 ⟨rfl, hq5⟩
  have hP3 := Blk.quiet hP3 hq5
  have hB3 := hB3.trans hq5.below
  clear hq5
  go_wp2_with fail
  refine (count_nil _).mono ?_
  rintro e w5 ⟨rfl, hq5⟩
  have hP3 := Blk.quiet hP3 hq5
  have hB3 := hB3.trans hq5.below
  clear hq5
  go_wp2_with fail
  refine (load_nil _ _).mono ?_
  rintro e w5 ⟨rfl, hb5⟩
  have hP3 := Blk.grew hP3 hb5
  have hB3 := hB3.trans (hb5.mono hB3.size)
  clear hb5
  go_wp2_with fail
  refine (cas_nil _ _ _ _).mono ?_
  rintro e w5 ⟨rfl, hb5⟩
  have hP3 := Blk.grew hP3 hb5
  have hB3 := hB3.trans (hb5.mono hB3.size)
  clear hb5
  go_wp2_with fail
  refine (open_nil _).mono ?_
  rintro e w5 ⟨rfl, hq5⟩
  have hP3 := Blk.quiet hP3 hq5
  have hB3 := hB3.trans hq5.below
  clear hq5
  go_wp2_with fail
  refine (image_nil _).mono ?_
  rintro e w5 ⟨rfl, hq5⟩
  have hP3 := Blk.quiet hP3 hq5
  have hB3 := hB3.trans hq5.below
  clear hq5
  go_wp2_with fail
  go_ret
  exact ⟨rfl, hB3⟩
set_option maxRecDepth 100000 in
set_option maxHeartbeats 1000000 in
theorem ports_low (i : Int) (w : World) (h : i < 0) : Calls Try.prog 8 #[.int .i64 i] w fun e w' => e = .returned (.bool true) ∧ Below w.heap.size w w' := by
  have hd : decide (0 ≤ i) = false := decide_eq_false (by omega)
  have P := Lib.hid (fun W a => port_no (some ⟨a, 0, none⟩) i W (by simp) (.inl h))
  clear h
  go_enter Try.func8, Try.ntmps8
  go_wp2_with fail
  refine (new_yes 1 false _ (by decide) (by decide)).mono ?_
  rintro e w1 ⟨a, c, rfl, hA1, ha, hc, hb1⟩
  go_wp2_with fail
  refine (celled_any _).mono ?_
  rintro e w2 ⟨rfl, hb2⟩
  have hB2 := hb1.trans (hb2.mono hb1.size)
  clear hA1 hb1 hb2
  go_wp2_with fail
  refine (P.out _ _).mono ?_
  rintro e w3 ⟨rfl, hq3⟩
  have hB3 := hB2.trans hq3.below
  clear hB2
  go_wp2_with fail
  refine (grant_nil _).mono ?_
  rintro e w5 ⟨⟨v4, rfl⟩, rfl⟩
  go_wp2_with fail
  refine (store_nil _ _ _).mono ?_
  rintro e w5 ⟨⟨v5, rfl⟩, hb5⟩
  have hB3 := hB3.trans (hb5.mono hB3.size)
  clear hb5
  go_wp2_with fail
  refine (port_nil _ _).mono ?_
  rintro e w5 ⟨rfl, hq5⟩
  have hB3 := hB3.trans hq5.below
  clear hq5
  go_wp2_with fail
  refine (peek_nil _ _).mono ?_
  rintro e w5 ⟨rfl, hq5⟩
  have hB3 := hB3.trans hq5.below
  clear hq5
  go_upto_region 12 with fail
  simp only [List.append]
  go_wp2_with fail
  refine (poke_nil _ _ _).mono ?_
  rintro e w5 ⟨rfl, hq5⟩
  have hB3 := hB3.trans hq5.below
  clear hq5
  go_wp2_with fail
  refine (cells_nil _).mono ?_
  rintro e w5 ⟨rfl, hq5⟩
  have hB3 := hB3.trans hq5.below
  clear hq5
  go_wp2_with fail
  refine (count_nil _).mono ?_
  rintro e w5 ⟨rfl, hq5⟩
  have hB3 := hB3.trans hq5.below
  clear hq5
  go_wp2_with fail
  refine (load_nil _ _).mono ?_
  rintro e w5 ⟨rfl, hb5⟩
  have hB3 := hB3.trans (hb5.mono hB3.size)
  clear hb5
  go_wp2_with fail
  refine (cas_nil _ _ _ _).mono ?_
  rintro e w5 ⟨rfl, hb5⟩
  have hB3 := hB3.trans (hb5.mono hB3.size)
  clear hb5
  go_wp2_with fail
  refine (open_nil _).mono ?_
  rintro e w5 ⟨rfl, hq5⟩
  have hB3 := hB3.trans hq5.below
  clear hq5
  go_wp2_with fail
  refine (image_nil _).mono ?_
  rintro e w5 ⟨rfl, hq5⟩
  have hB3 := hB3.trans hq5.below
  clear hq5
  go_wp2_with fail
  go_ret
  exact ⟨rfl, hB3⟩
set_option maxRecDepth 100000 in
set_option maxHeartbeats 1000000 in
theorem ports_high (i : Int) (w : World) (h : 15 < i) : Calls Try.prog 8 #[.int .i64 i] w fun e w' => e = .returned (.bool true) ∧ Below w.heap.size w w' := by
  have hd : decide (0 ≤ i) = true := decide_eq_true (by omega)
  have hd2 : decide (i ≤ 15) = false := decide_eq_false (by omega)
  have P := Lib.hid (fun W a => port_no (some ⟨a, 0, none⟩) i W (by simp) (.inr h))
  clear h
  go_enter Try.func8, Try.ntmps8
  go_wp2_with fail
  refine (new_yes 1 false _ (by decide) (by decide)).mono ?_
  rintro e w1 ⟨a, c, rfl, hA1, ha, hc, hb1⟩
  go_wp2_with fail
  refine (celled_any _).mono ?_
  rintro e w2 ⟨rfl, hb2⟩
  have hB2 := hb1.trans (hb2.mono hb1.size)
  clear hA1 hb1 hb2
  go_wp2_with fail
  refine (P.out _ _).mono ?_
  rintro e w3 ⟨rfl, hq3⟩
  have hB3 := hB2.trans hq3.below
  clear hB2
  go_wp2_with fail
  refine (grant_nil _).mono ?_
  rintro e w5 ⟨⟨v4, rfl⟩, rfl⟩
  go_wp2_with fail
  refine (store_nil _ _ _).mono ?_
  rintro e w5 ⟨⟨v5, rfl⟩, hb5⟩
  have hB3 := hB3.trans (hb5.mono hB3.size)
  clear hb5
  go_wp2_with fail
  refine (port_nil _ _).mono ?_
  rintro e w5 ⟨rfl, hq5⟩
  have hB3 := hB3.trans hq5.below
  clear hq5
  go_wp2_with fail
  refine (peek_nil _ _).mono ?_
  rintro e w5 ⟨rfl, hq5⟩
  have hB3 := hB3.trans hq5.below
  clear hq5
  go_upto_region 12 with fail
  simp only [List.append]
  go_wp2_with fail
  refine (poke_nil _ _ _).mono ?_
  rintro e w5 ⟨rfl, hq5⟩
  have hB3 := hB3.trans hq5.below
  clear hq5
  go_wp2_with fail
  refine (cells_nil _).mono ?_
  rintro e w5 ⟨rfl, hq5⟩
  have hB3 := hB3.trans hq5.below
  clear hq5
  go_wp2_with fail
  refine (count_nil _).mono ?_
  rintro e w5 ⟨rfl, hq5⟩
  have hB3 := hB3.trans hq5.below
  clear hq5
  go_wp2_with fail
  refine (load_nil _ _).mono ?_
  rintro e w5 ⟨rfl, hb5⟩
  have hB3 := hB3.trans (hb5.mono hB3.size)
  clear hb5
  go_wp2_with fail
  refine (cas_nil _ _ _ _).mono ?_
  rintro e w5 ⟨rfl, hb5⟩
  have hB3 := hB3.trans (hb5.mono hB3.size)
  clear hb5
  go_wp2_with fail
  refine (open_nil _).mono ?_
  rintro e w5 ⟨rfl, hq5⟩
  have hB3 := hB3.trans hq5.below
  clear hq5
  go_wp2_with fail
  refine (image_nil _).mono ?_
  rintro e w5 ⟨rfl, hq5⟩
  have hB3 := hB3.trans hq5.below
  clear hq5
  go_wp2_with fail
  go_ret
  exact ⟨rfl, hB3⟩
theorem ports_law (i : Int) (w : World) (_h : (Lit.int .i64 i).wf = true) : Calls Try.prog 8 #[.int .i64 i] w fun e w' => e = .returned (.bool true) ∧ Below w.heap.size w w' := by
  by_cases h0 : 0 ≤ i
  · by_cases h1 : i ≤ 15
    · exact ports_in i w h0 h1
    · exact ports_high i w (by omega)
  · exact ports_low i w (by omega)
end Go.Proofs.Ytkecoekeepigkaa
