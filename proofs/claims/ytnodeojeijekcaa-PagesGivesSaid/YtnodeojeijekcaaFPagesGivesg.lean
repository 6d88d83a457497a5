/- PagesGivesSaid: for every input the law returns true and its arguments read as before: the arguments are opened, the walk is used, the arguments are read again. No condition. -/
import Derived.Test.YtnodeojeijekcaaRows
import Derived.Test.YtnodeojeijekcaaGB01
import Derived.Test.YtnodeojeijekcaaGPagesGives29
namespace Go.Proofs.Ytnodeojeijekcaa.fPagesGives
open Go.ChangeShapes Go.WideShapes Go.ChangeAt Go.RowKit
set_option linter.unusedVariables false
set_option linter.unusedSimpArgs false
theorem own : ownKnob Try.prog.godebug = none := by kernel_rfl
theorem laidOut : laidOutB Try.prog = true := by kernel_rfl
theorem cellsOf3 : Try.prog.cellsOf 3 = 1 := by kernel_rfl
theorem cellsOf30 : Try.prog.cellsOf 30 = 3 := by kernel_rfl
theorem cellsOf32 : Try.prog.cellsOf 32 = 5 := by kernel_rfl
theorem cellsOf62 : Try.prog.cellsOf 62 = 10 := by kernel_rfl
set_option maxRecDepth 100000 in
set_option maxHeartbeats 1000000 in
theorem lifted (os : Os) (started : os.Started) (H : Type) (enc : TypeId × Value → H) :
    ReturnsInHanded {} Try.checked os 4 .any (Rows.pagesGivesSpec.pre6 enc Try.prog Try.f4 Rows.pagesGivesRow.domain false) (Rows.pagesGivesSpec.post enc Try.prog Try.f4 false true false false) := by
  refine returnsInHanded_of_change (C := Try.checked) own started (by kernel_rfl) Try.func4
    (ChangeSpec.witness6 (enc := enc) (C := Try.checked) false ⟨#[], #[.agg #[.int .i64 0, .int .i64 0, .int .i64 0, .int .i64 0, .int .i64 0, .int .i64 0, .int .i64 0, .int .i64 0, .int .i64 0, .int .i64 0]], []⟩ 12 (by kernel_rfl) (by kernel_rfl) (by kernel_rfl) (by kernel_rfl)) ?_
  intro W base args ds gs before hval0 hW hcnd _
  have hval : ∀ (j : Nat) t v, Try.f4.params[j]? = some t → args[j]? = some v → Value.okWide Try.prog W .any base t v := hval0
  have hW' := hW
  obtain ⟨p, q, hA0, hV, rfl, hfz, hnd⟩ := hW
  have hA : DataW.TrodAll enc Try.prog W 0 (fun _ => true) true Try.f4.params.toList args.toList ds p := hA0
  rw [Try.params4] at hA hval
  obtain ⟨v0, vs0, d0, ds0, p0, q0, hargs, rfl, rfl, h0, r0⟩ := trodAll_cons hA
  obtain ⟨rfl, rfl, rfl⟩ := trodAll_nil r0
  obtain rfl : args = #[v0] := by cases args; simp_all
  obtain ⟨rfl, rfl⟩ := trodVars_none hV
  have k0 := h0
  have lt0 : ∀ x ∈ p0, x.block < W.heap.size := by obtain ⟨m, hm⟩ := k0; exact DataW.trod_lt m _ _ _ hm
  obtain ⟨cs0, rfl, hsz0⟩ := okWide_struct Try.underlying62 (hval 0 62 v0 rfl rfl)
  obtain ⟨l0⟩ := cs0
  obtain ⟨c0_0, c0_1, c0_2, c0_3, c0_4, c0_5, c0_6, c0_7, c0_8, c0_9, rfl⟩ := list10 (hsz0.trans (cellsOf62))
  obtain ⟨fuel0, hf0⟩ := h0
  obtain ⟨n0, G0⟩ := fields_of Try.underlying62 hf0
  obtain ⟨y0_0, e0_0⟩ := G0 0 _ rfl
  try simp only [Value.cells, cellsOf30, List.drop_succ_cons, List.drop_zero, List.take_succ_cons, List.take_zero] at e0_0
  obtain ⟨n0_0, G0_0⟩ := fields_of Try.underlying30 e0_0
  obtain ⟨y0_0_0, e0_0_0⟩ := G0_0 0 _ rfl
  try simp only [Value.cells, cellsOf3, List.drop_succ_cons, List.drop_zero, List.take_succ_cons, List.take_zero] at e0_0_0
  obtain ⟨a0, q0, w0⟩ := leaf_int Try.underlying3 e0_0_0
  subst q0
  obtain ⟨y0_0_1, e0_0_1⟩ := G0_0 1 _ rfl
  try simp only [Value.cells, cellsOf3, List.drop_succ_cons, List.drop_zero, List.take_succ_cons, List.take_zero] at e0_0_1
  obtain ⟨a1, q1, w1⟩ := leaf_int Try.underlying3 e0_0_1
  subst q1
  obtain ⟨y0_0_2, e0_0_2⟩ := G0_0 2 _ rfl
  try simp only [Value.cells, cellsOf3, List.drop_succ_cons, List.drop_zero, List.take_succ_cons, List.take_zero] at e0_0_2
  obtain ⟨a2, q2, w2⟩ := leaf_int Try.underlying3 e0_0_2
  subst q2
  obtain ⟨y0_1, e0_1⟩ := G0 1 _ rfl
  try simp only [Value.cells, cellsOf3, List.drop_succ_cons, List.drop_zero, List.take_succ_cons, List.take_zero] at e0_1
  obtain ⟨a3, q3, w3⟩ := leaf_int Try.underlying3 e0_1
  subst q3
  obtain ⟨y0_2, e0_2⟩ := G0 2 _ rfl
  try simp only [Value.cells, cellsOf32, List.drop_succ_cons, List.drop_zero, List.take_succ_cons, List.take_zero] at e0_2
  obtain ⟨n0_2, G0_2⟩ := fields_of Try.underlying32 e0_2
  obtain ⟨y0_2_0, e0_2_0⟩ := G0_2 0 _ rfl
  try simp only [Value.cells, cellsOf3, List.drop_succ_cons, List.drop_zero, List.take_succ_cons, List.take_zero] at e0_2_0
  obtain ⟨a4, q4, w4⟩ := leaf_int Try.underlying3 e0_2_0
  subst q4
  obtain ⟨y0_2_1, e0_2_1⟩ := G0_2 1 _ rfl
  try simp only [Value.cells, cellsOf3, List.drop_succ_cons, List.drop_zero, List.take_succ_cons, List.take_zero] at e0_2_1
  obtain ⟨a5, q5, w5⟩ := leaf_int Try.underlying3 e0_2_1
  subst q5
  obtain ⟨y0_2_2, e0_2_2⟩ := G0_2 2 _ rfl
  try simp only [Value.cells, cellsOf3, List.drop_succ_cons, List.drop_zero, List.take_succ_cons, List.take_zero] at e0_2_2
  obtain ⟨a6, q6, w6⟩ := leaf_int Try.underlying3 e0_2_2
  subst q6
  obtain ⟨y0_2_3, e0_2_3⟩ := G0_2 3 _ rfl
  try simp only [Value.cells, cellsOf3, List.drop_succ_cons, List.drop_zero, List.take_succ_cons, List.take_zero] at e0_2_3
  obtain ⟨a7, q7, w7⟩ := leaf_int Try.underlying3 e0_2_3
  subst q7
  obtain ⟨y0_2_4, e0_2_4⟩ := G0_2 4 _ rfl
  try simp only [Value.cells, cellsOf3, List.drop_succ_cons, List.drop_zero, List.take_succ_cons, List.take_zero] at e0_2_4
  obtain ⟨a8, q8, w8⟩ := leaf_int Try.underlying3 e0_2_4
  subst q8
  obtain ⟨y0_3, e0_3⟩ := G0 3 _ rfl
  try simp only [Value.cells, cellsOf3, List.drop_succ_cons, List.drop_zero, List.take_succ_cons, List.take_zero] at e0_3
  obtain ⟨a9, q9, w9⟩ := leaf_int Try.underlying3 e0_3
  subst q9
  clear hA0 hval0
  refine (pgives_law a0 a1 a2 a3 a4 a5 a6 a7 a8 a9 W w0 w1 w2 w3 w4 w5 w6 w7 w8 w9).mono fun e W' ⟨he, bel⟩ => ?_
  subst he
  exact ⟨_, rfl, _, _, _, [], _, [], hW', trodAll_mk1 (shut_bool Try.underlying4 _), (trodAll_cons_mk (Below.trod laidOut (by kernel_rfl) (of_decide_eq_true (by kernel_rfl)) k0 bel lt0) trodAll_mk0), rfl, bel.frame _, fun h => by cases h⟩
theorem proved : Rows.PagesGivesSaid :=
  OpenClaim.holds_of_wide 4 Try.f4 rfl rfl rfl rfl rfl rfl rfl ⟨rfl, rfl, rfl, rfl, rfl⟩ rfl rfl rfl rfl rfl (by kernel_rfl) Try.func4 (by kernel_rfl)
    (of_decide_eq_true (by kernel_rfl)) (by unfold Func.isWrapper; first | (rw [if_pos (by decide +kernel)]; kernel_rfl) | (rw [if_neg (by decide +kernel)]; exact ⟨rfl, rfl⟩))
    (fun os started H enc _ => lifted os started H enc)
#print axioms proved
end Go.Proofs.Ytnodeojeijekcaa.fPagesGives
