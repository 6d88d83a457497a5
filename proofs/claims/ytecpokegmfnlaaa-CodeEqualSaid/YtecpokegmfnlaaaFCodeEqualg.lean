/- CodeEqualSaid: for every input the law returns true and its arguments read as before: the arguments are opened, the walk is used, the arguments are read again. No condition. -/
import Derived.Test.YtecpokegmfnlaaaRows
import Derived.Test.YtecpokegmfnlaaaGCodeEqual01
import Derived.Test.YtecpokegmfnlaaaGCodeEqual08
namespace Go.Proofs.Ytecpokegmfnlaaa.fCodeEqual
open Go.ChangeShapes Go.WideShapes Go.ChangeAt Go.RowKit
set_option linter.unusedVariables false
set_option linter.unusedSimpArgs false
theorem own : ownKnob Try.prog.godebug = none := by kernel_rfl
theorem laidOut : laidOutB Try.prog = true := by kernel_rfl
theorem cellsOf26 : Try.prog.cellsOf 26 = 1 := by kernel_rfl
theorem cellsOf27 : Try.prog.cellsOf 27 = 1 := by kernel_rfl
theorem cellsOf29 : Try.prog.cellsOf 29 = 2 := by kernel_rfl
set_option maxRecDepth 100000 in
set_option maxHeartbeats 1000000 in
theorem lifted (os : Os) (started : os.Started) (H : Type) (enc : TypeId × Value → H) :
    ReturnsInHanded {} Try.checked os 7 .any (Rows.codeEqualSpec.pre6 enc Try.prog Try.f7 Rows.codeEqualRow.domain false) (Rows.codeEqualSpec.post enc Try.prog Try.f7 false true false false) := by
  refine returnsInHanded_of_change (C := Try.checked) own started (by kernel_rfl) Try.func7
    (ChangeSpec.witness6 (enc := enc) (C := Try.checked) false ⟨#[], #[.agg #[.slice none 0 0, .slice none 0 0], .agg #[.slice none 0 0, .slice none 0 0]], []⟩ 12 (by kernel_rfl) (by kernel_rfl) (by kernel_rfl) (by kernel_rfl)) ?_
  intro W base args ds gs before hval0 hW hcnd _
  have hval : ∀ (j : Nat) t v, Try.f7.params[j]? = some t → args[j]? = some v → Value.okWide Try.prog W .any base t v := hval0
  have hW' := hW
  obtain ⟨p, q, hA0, hV, rfl, hfz, hnd⟩ := hW
  have hA : DataW.TrodAll enc Try.prog W 0 (fun _ => true) true Try.f7.params.toList args.toList ds p := hA0
  rw [Try.params7] at hA hval
  obtain ⟨v0, vs0, d0, ds0, p0, q0, hargs, rfl, rfl, h0, r0⟩ := trodAll_cons hA
  obtain ⟨v1, vs1, d1, ds1, p1, q1, rfl, rfl, rfl, h1, r1⟩ := trodAll_cons r0
  obtain ⟨rfl, rfl, rfl⟩ := trodAll_nil r1
  obtain rfl : args = #[v0, v1] := by cases args; simp_all
  obtain ⟨rfl, rfl⟩ := trodVars_none hV
  have k0 := h0
  have lt0 : ∀ x ∈ p0, x.block < W.heap.size := by obtain ⟨m, hm⟩ := k0; exact DataW.trod_lt m _ _ _ hm
  obtain ⟨cs0, rfl, hsz0⟩ := okWide_struct Try.underlying29 (hval 0 29 v0 rfl rfl)
  obtain ⟨l0⟩ := cs0
  obtain ⟨c0_0, c0_1, rfl⟩ := list2 (hsz0.trans (cellsOf29))
  obtain ⟨fuel0, hf0⟩ := h0
  obtain ⟨n0, G0⟩ := fields_of Try.underlying29 hf0
  obtain ⟨y0_0, e0_0⟩ := G0 0 _ rfl
  try simp only [Value.cells, cellsOf26, List.drop_succ_cons, List.drop_zero, List.take_succ_cons, List.take_zero] at e0_0
  obtain ⟨pl0_0, hpl0_0⟩ := open_classes e0_0
  obtain ⟨y0_1, e0_1⟩ := G0 1 _ rfl
  try simp only [Value.cells, cellsOf27, List.drop_succ_cons, List.drop_zero, List.take_succ_cons, List.take_zero] at e0_1
  obtain ⟨pl0_1, hpl0_1⟩ := open_funcs e0_1
  have k1 := h1
  have lt1 : ∀ x ∈ p1, x.block < W.heap.size := by obtain ⟨m, hm⟩ := k1; exact DataW.trod_lt m _ _ _ hm
  obtain ⟨cs1, rfl, hsz1⟩ := okWide_struct Try.underlying29 (hval 1 29 v1 rfl rfl)
  obtain ⟨l1⟩ := cs1
  obtain ⟨c1_0, c1_1, rfl⟩ := list2 (hsz1.trans (cellsOf29))
  obtain ⟨fuel1, hf1⟩ := h1
  obtain ⟨n1, G1⟩ := fields_of Try.underlying29 hf1
  obtain ⟨y1_0, e1_0⟩ := G1 0 _ rfl
  try simp only [Value.cells, cellsOf26, List.drop_succ_cons, List.drop_zero, List.take_succ_cons, List.take_zero] at e1_0
  obtain ⟨pl1_0, hpl1_0⟩ := open_classes e1_0
  obtain ⟨y1_1, e1_1⟩ := G1 1 _ rfl
  try simp only [Value.cells, cellsOf27, List.drop_succ_cons, List.drop_zero, List.take_succ_cons, List.take_zero] at e1_1
  obtain ⟨pl1_1, hpl1_1⟩ := open_funcs e1_1
  clear hA0 hval0
  refine (cequal_law ⟨pl0_0, pl0_1⟩ c0_0 c0_1 ⟨pl1_0, pl1_1⟩ c1_0 c1_1 W ⟨hpl0_0, hpl0_1⟩ ⟨hpl1_0, hpl1_1⟩).mono fun e W' ⟨he, bel⟩ => ?_
  subst he
  exact ⟨_, rfl, _, _, _, [], _, [], hW', trodAll_mk1 (shut_bool Try.underlying4 _), (trodAll_cons_mk (Below.trod laidOut (by kernel_rfl) (of_decide_eq_true (by kernel_rfl)) k0 bel lt0) (trodAll_cons_mk (Below.trod laidOut (by kernel_rfl) (of_decide_eq_true (by kernel_rfl)) k1 bel lt1) trodAll_mk0)), rfl, bel.frame _, fun h => by cases h⟩
theorem proved : Rows.CodeEqualSaid :=
  OpenClaim.holds_of_wide 7 Try.f7 rfl rfl rfl rfl rfl rfl rfl ⟨rfl, rfl, rfl, rfl, rfl⟩ rfl rfl rfl rfl rfl (by kernel_rfl) Try.func7 (by kernel_rfl)
    (of_decide_eq_true (by kernel_rfl)) (by unfold Func.isWrapper; first | (rw [if_pos (by decide +kernel)]; kernel_rfl) | (rw [if_neg (by decide +kernel)]; exact ⟨rfl, rfl⟩))
    (fun os started H enc _ => lifted os started H enc)
#print axioms proved
end Go.Proofs.Ytecpokegmfnlaaa.fCodeEqual
