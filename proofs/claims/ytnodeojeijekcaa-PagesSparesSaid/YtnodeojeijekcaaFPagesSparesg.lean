/- PagesSparesSaid: for every input the law returns true and its arguments read as before: the arguments are opened, the walk is used, the arguments are read again. No condition. -/
import Derived.Test.YtnodeojeijekcaaRows
import Derived.Test.YtnodeojeijekcaaGB01
import Derived.Test.YtnodeojeijekcaaGPagesSpares29
namespace Go.Proofs.Ytnodeojeijekcaa.fPagesSpares
open Go.ChangeShapes Go.WideShapes Go.ChangeAt Go.RowKit
set_option linter.unusedVariables false
set_option linter.unusedSimpArgs false
theorem own : ownKnob Try.prog.godebug = none := by kernel_rfl
theorem laidOut : laidOutB Try.prog = true := by kernel_rfl
theorem cellsOf3 : Try.prog.cellsOf 3 = 1 := by kernel_rfl
theorem cellsOf22 : Try.prog.cellsOf 22 = 1 := by kernel_rfl
theorem cellsOf24 : Try.prog.cellsOf 24 = 5 := by kernel_rfl
set_option maxRecDepth 100000 in
set_option maxHeartbeats 1000000 in
theorem lifted (os : Os) (started : os.Started) (H : Type) (enc : TypeId × Value → H) :
    ReturnsInHanded {} Try.checked os 3 .any (Rows.pagesSparesSpec.pre6 enc Try.prog Try.f3 Rows.pagesSparesRow.domain false) (Rows.pagesSparesSpec.post enc Try.prog Try.f3 false true false false) := by
  refine returnsInHanded_of_change (C := Try.checked) own started (by kernel_rfl) Try.func3
    (ChangeSpec.witness6 (enc := enc) (C := Try.checked) false ⟨#[], #[.agg #[.int .i64 0, .int .i64 0, .int .i64 0, .int .u64 0, .int .u64 0]], []⟩ 12 (by kernel_rfl) (by kernel_rfl) (by kernel_rfl) (by kernel_rfl)) ?_
  intro W base args ds gs before hval0 hW hcnd _
  have hval : ∀ (j : Nat) t v, Try.f3.params[j]? = some t → args[j]? = some v → Value.okWide Try.prog W .any base t v := hval0
  have hW' := hW
  obtain ⟨p, q, hA0, hV, rfl, hfz, hnd⟩ := hW
  have hA : DataW.TrodAll enc Try.prog W 0 (fun _ => true) true Try.f3.params.toList args.toList ds p := hA0
  rw [Try.params3] at hA hval
  obtain ⟨v0, vs0, d0, ds0, p0, q0, hargs, rfl, rfl, h0, r0⟩ := trodAll_cons hA
  obtain ⟨rfl, rfl, rfl⟩ := trodAll_nil r0
  obtain rfl : args = #[v0] := by cases args; simp_all
  obtain ⟨rfl, rfl⟩ := trodVars_none hV
  have k0 := h0
  have lt0 : ∀ x ∈ p0, x.block < W.heap.size := by obtain ⟨m, hm⟩ := k0; exact DataW.trod_lt m _ _ _ hm
  obtain ⟨cs0, rfl, hsz0⟩ := okWide_struct Try.underlying24 (hval 0 24 v0 rfl rfl)
  obtain ⟨l0⟩ := cs0
  obtain ⟨c0_0, c0_1, c0_2, c0_3, c0_4, rfl⟩ := list5 (hsz0.trans (cellsOf24))
  obtain ⟨fuel0, hf0⟩ := h0
  obtain ⟨n0, G0⟩ := fields_of Try.underlying24 hf0
  obtain ⟨y0_0, e0_0⟩ := G0 0 _ rfl
  try simp only [Value.cells, cellsOf3, List.drop_succ_cons, List.drop_zero, List.take_succ_cons, List.take_zero] at e0_0
  obtain ⟨a0, q0, w0⟩ := leaf_int Try.underlying3 e0_0
  subst q0
  obtain ⟨y0_1, e0_1⟩ := G0 1 _ rfl
  try simp only [Value.cells, cellsOf3, List.drop_succ_cons, List.drop_zero, List.take_succ_cons, List.take_zero] at e0_1
  obtain ⟨a1, q1, w1⟩ := leaf_int Try.underlying3 e0_1
  subst q1
  obtain ⟨y0_2, e0_2⟩ := G0 2 _ rfl
  try simp only [Value.cells, cellsOf3, List.drop_succ_cons, List.drop_zero, List.take_succ_cons, List.take_zero] at e0_2
  obtain ⟨a2, q2, w2⟩ := leaf_int Try.underlying3 e0_2
  subst q2
  obtain ⟨y0_3, e0_3⟩ := G0 3 _ rfl
  try simp only [Value.cells, cellsOf22, List.drop_succ_cons, List.drop_zero, List.take_succ_cons, List.take_zero] at e0_3
  obtain ⟨a3, q3, w3⟩ := leaf_int Try.underlying22 e0_3
  subst q3
  obtain ⟨y0_4, e0_4⟩ := G0 4 _ rfl
  try simp only [Value.cells, cellsOf22, List.drop_succ_cons, List.drop_zero, List.take_succ_cons, List.take_zero] at e0_4
  obtain ⟨a4, q4, w4⟩ := leaf_int Try.underlying22 e0_4
  subst q4
  clear hA0 hval0
  refine (pspares_law a0 a1 a2 a3 a4 W w0 w1 w2 w3 w4).mono fun e W' ⟨he, bel⟩ => ?_
  subst he
  exact ⟨_, rfl, _, _, _, [], _, [], hW', trodAll_mk1 (shut_bool Try.underlying4 _), (trodAll_cons_mk (Below.trod laidOut (by kernel_rfl) (of_decide_eq_true (by kernel_rfl)) k0 bel lt0) trodAll_mk0), rfl, bel.frame _, fun h => by cases h⟩
theorem proved : Rows.PagesSparesSaid :=
  OpenClaim.holds_of_wide 3 Try.f3 rfl rfl rfl rfl rfl rfl rfl ⟨rfl, rfl, rfl, rfl, rfl⟩ rfl rfl rfl rfl rfl (by kernel_rfl) Try.func3 (by kernel_rfl)
    (of_decide_eq_true (by kernel_rfl)) (by unfold Func.isWrapper; first | (rw [if_pos (by decide +kernel)]; kernel_rfl) | (rw [if_neg (by decide +kernel)]; exact ⟨rfl, rfl⟩))
    (fun os started H enc _ => lifted os started H enc)
#print axioms proved
end Go.Proofs.Ytnodeojeijekcaa.fPagesSpares
