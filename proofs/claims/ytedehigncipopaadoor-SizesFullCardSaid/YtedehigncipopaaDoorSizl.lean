/- The laws SizesTables, SizesChooses and SizesCells: the walks. No condition but that the tables lie as the start lays them. -/
import Derived.Test.YtedehigncipopaaDoorFills
namespace Go.Proofs.YtedehigncipopaaDoor
open Go.RowKit
set_option linter.unusedVariables false

theorem begins_len (c : Int) (w : World) : Calls Tryd.prog 17 #[.int .i64 c] w fun e w' => ∃ a k, e = .returned (.slice a (numN c) k) ∧ Below w.heap.size w w' :=
  (begins_lst c w).mono fun _ _ ⟨v, he, hl, hb⟩ => by
    have hlen : (cellL c).length = numN c := by simp [cellL]
    rcases hl with ⟨h0, a, k, h1⟩ | ⟨b, o, k, h1, _, _, _⟩
    · rw [h0] at hlen
      exact ⟨a, k, by rw [he, h1, ← hlen]; rfl, hb⟩
    · exact ⟨_, k, by rw [he, h1, hlen], hb⟩
theorem free_len (c a : Int) (w : World) (ha : U64 a) : Calls Tryd.prog 29 #[.int .i64 c, .int .u64 a] w fun e w' => ∃ q k, e = .returned (.slice q (freeL c a).length k) ∧ Below w.heap.size w w' :=
  (rfree_any c a w ha).mono fun _ _ ⟨v, he, hl, _, hb⟩ => by
    rcases hl with ⟨h0, q, k, h1⟩ | ⟨b, o, k, h1, _, _, _⟩
    · exact ⟨q, k, by rw [he, h1, h0]; rfl, hb⟩
    · exact ⟨_, k, by rw [he, h1], hb⟩

set_option maxHeartbeats 1000000 in
theorem tables_law (c : Int) (w : World) (w0 : (Lit.int .i64 c).wf = true) (hTab : Tab w) (hWid : Wid w) :
    Calls Tryd.prog 3 #[.int .i64 c] w fun e w' => e = .returned (.bool true) ∧ Below w.heap.size w w' := by
  have hT : Tbs w := ⟨hTab, hWid⟩
  have A1 := Lib.hid (fun W (h : Wid W) => words_any c W h)
  have A2 := Lib.hid (fun W => rwords_any c W)
  have A3 := Lib.hid (fun W (h : Wid W) => cnum_any c W h)
  have A4 := Lib.hid (fun W (h : Wid W) => starts_any c W h)
  have A5 := Lib.hid (fun W => rstarts_any c W)
  have A6 := Lib.hid (fun W => begins_len c W)
  have n1 := (num_bd c).2
  generalize widI c = q at *
  generalize errI c = r at *
  generalize numN c = n at *
  generalize startsI c = s at *
  go_enter Tryd.func3, Tryd.ntmps3
  go_wp2_with fail
  refine (A1.out _ hWid).mono ?_
  rintro e w1 ⟨rfl, hw1⟩
  obtain rfl := hw1.symm
  go_wp2_with fail
  refine (A2.out _).mono ?_
  rintro e w2 ⟨rfl, hb2⟩
  go_wp2_with fail
  refine (A3.out _ (hT.grew hb2).wid).mono ?_
  rintro e w3 ⟨rfl, hb3⟩
  have hb3 := hb2.trans (hb3.mono hb2.size)
  go_wp2_with fail
  refine (A4.out _ (hT.grew hb3).wid).mono ?_
  rintro e w4 ⟨rfl, hb4⟩
  have hb4 := hb3.trans (hb4.mono hb3.size)
  go_wp2_with fail
  refine (A5.out _).mono ?_
  rintro e w5 ⟨rfl, hb5⟩
  have hb5 := hb4.trans (hb5.mono hb4.size)
  as_aux_lemma =>
  go_wp2_with fail
  refine (sized_any _ (hT.grew hb5)).mono ?_
  rintro e w6 ⟨rfl, hb6⟩
  have hb6 := hb5.trans (hb6.mono hb5.size)
  go_wp2_with fail
  refine (A6.out _).mono ?_
  rintro e w7 ⟨a, k, rfl, hb7⟩
  have hb7 := hb6.trans (hb7.mono hb6.size)
  go_wp2
  go_ret
  exact ⟨rfl, hb7⟩

set_option maxHeartbeats 1000000 in
theorem chooses_law (n p : Int) (w : World) (w0 : (Lit.int .i64 n).wf = true) (w1 : (Lit.int .i64 p).wf = true) (hTab : Tab w) (hWid : Wid w) :
    Calls Tryd.prog 4 #[.int .i64 n, .int .i64 p] w fun e w' => e = .returned (.bool true) ∧ Below w.heap.size w w' := by
  have hT : Tbs w := ⟨hTab, hWid⟩
  have A1 := Lib.hid (fun W (h : Wid W) => class_any n W h)
  have A2 := Lib.hid (fun W => rclass_any n W)
  have A3 := Lib.hid (fun W => pages_any n W)
  have A4 := Lib.hid (fun W => rpages_any n W)
  have A5 := Lib.hid (fun W (h : Wid W) => rounds_any n W h)
  have A6 := Lib.hid (fun W => rrounds_any n W)
  have A7 := Lib.hid (fun W (h : Wid W) => fills_any n p W h)
  have A8 := Lib.hid (fun W => rfills_any n p W)
  generalize clV n = x1 at *
  generalize clE n = x2 at *
  generalize pgV n = x3 at *
  generalize pgE n = x4 at *
  generalize rdV n = x5 at *
  generalize flV n p = x6 at *
  generalize flE n p = x7 at *
  go_enter Tryd.func4, Tryd.ntmps4
  go_wp2_with fail
  refine (A1.out _ hWid).mono ?_
  rintro e w1 ⟨rfl, hw1⟩
  obtain rfl := hw1.symm
  go_wp2_with fail
  refine (A2.out _).mono ?_
  rintro e w2 ⟨rfl, hb2⟩
  go_wp2_with fail
  refine (A3.out _).mono ?_
  rintro e w3 ⟨rfl, hw3⟩
  obtain rfl := hw3.symm
  go_wp2_with fail
  refine (A4.out _).mono ?_
  rintro e w4 ⟨rfl, hw4⟩
  obtain rfl := hw4.symm
  as_aux_lemma =>
  go_wp2_with fail
  refine (A5.out _ (hT.grew hb2).wid).mono ?_
  rintro e w5 ⟨rfl, hw5⟩
  obtain rfl := hw5.symm
  go_wp2_with fail
  refine (A6.out _).mono ?_
  rintro e w6 ⟨rfl, hb6⟩
  have hb6 := hb2.trans (hb6.mono hb2.size)
  go_wp2_with fail
  refine (A7.out _ (hT.grew hb6).wid).mono ?_
  rintro e w7 ⟨rfl, hb7⟩
  have hb7 := hb6.trans (hb7.mono hb6.size)
  go_wp2_with fail
  refine (A8.out _).mono ?_
  rintro e w8 ⟨rfl, hb8⟩
  have hb8 := hb7.trans (hb8.mono hb7.size)
  as_aux_lemma =>
  go_wp2_with fail
  refine (sized_any _ (hT.grew hb8)).mono ?_
  rintro e w9 ⟨rfl, hb9⟩
  go_wp2
  go_ret
  exact ⟨rfl, hb8.trans (hb9.mono hb8.size)⟩

set_option maxHeartbeats 1000000 in
theorem cells_law (c p a : Int) (w : World) (w0 : (Lit.int .i64 c).wf = true) (w1 : (Lit.int .i64 p).wf = true) (w2 : (Lit.int .u64 a).wf = true) (hTab : Tab w) (hWid : Wid w) :
    Calls Tryd.prog 5 #[.int .i64 c, .int .i64 p, .int .u64 a] w fun e w' => e = .returned (.bool true) ∧ Below w.heap.size w w' := by
  have hT : Tbs w := ⟨hTab, hWid⟩
  have ha := wf_U64 w2
  have A1 := Lib.hid (fun W (h : Wid W) => cell_any c p W h)
  have A2 := Lib.hid (fun W => rcell_any c p W)
  have A3 := Lib.hid (fun W (h : Wid W) => room_any c a W h ha)
  have A4 := Lib.hid (fun W => free_len c a W ha)
  have A5 := Lib.hid (fun W (h : Tbs W) => first_any c a p W h ha)
  have A6 := Lib.hid (fun W => rfirst_any c a p W ha)
  have A7 := Lib.hid (fun W (h : Wid W) => valid_any c a W h ha)
  have A8 := Lib.hid (fun W => rvalid_any c a W ha)
  generalize cellI c p = x1 at *
  generalize (freeL c a).length = x2 at *
  generalize firstI c a p = x3 at *
  generalize validB c a = x4 at *
  go_enter Tryd.func5, Tryd.ntmps5
  go_wp2_with fail
  refine (sized_any _ hT).mono ?_
  rintro e w1 ⟨rfl, hb1⟩
  go_wp2_with fail
  refine (A1.out _ (hT.grew hb1).wid).mono ?_
  rintro e w2 ⟨rfl, hb2⟩
  have hb2 := hb1.trans (hb2.mono hb1.size)
  go_wp2_with fail
  refine (A2.out _).mono ?_
  rintro e w3 ⟨rfl, hb3⟩
  have hb3 := hb2.trans (hb3.mono hb2.size)
  go_wp2_with fail
  refine (A3.out _ (hT.grew hb3).wid).mono ?_
  rintro e w4 ⟨rfl, hb4⟩
  have hb4 := hb3.trans (hb4.mono hb3.size)
  as_aux_lemma =>
  go_wp2_with fail
  refine (A4.out _).mono ?_
  rintro e w5 ⟨a5, k5, rfl, hb5⟩
  have hb5 := hb4.trans (hb5.mono hb4.size)
  go_wp2_with fail
  refine (A5.out _ (hT.grew hb5)).mono ?_
  rintro e w6 ⟨rfl, hb6⟩
  have hb6 := hb5.trans (hb6.mono hb5.size)
  go_wp2_with fail
  refine (A6.out _).mono ?_
  rintro e w7 ⟨rfl, hb7⟩
  have hb7 := hb6.trans (hb7.mono hb6.size)
  go_wp2_with fail
  refine (A7.out _ (hT.grew hb7).wid).mono ?_
  rintro e w8 ⟨rfl, hb8⟩
  have hb8 := hb7.trans (hb8.mono hb7.size)
  go_wp2_with fail
  refine (A8.out _).mono ?_
  rintro e w9 ⟨rfl, hb9⟩
  have hb9 := hb8.trans (hb9.mono hb8.size)
  cases x4
  · go_wp2
    go_ret
    exact ⟨rfl, hb9⟩
  · go_wp2
    go_ret
    exact ⟨rfl, hb9⟩
end Go.Proofs.YtedehigncipopaaDoor
