/- ShadeKeptSaid: for every input the law returns true and its arguments read as before: the arguments are opened, the walk is used, the arguments are read again. No condition. -/
import Derived.Test.YtlhigibgjggidaaRows
import Derived.Test.YtlhigibgjggidaaGShadeKept16
import Derived.Test.YtlhigibgjggidaaGShadeKept23
namespace Go.Proofs.Ytlhigibgjggidaa.fShadeKept
open Go.ChangeShapes Go.WideShapes Go.ChangeAt Go.RowKit
set_option linter.unusedVariables false
set_option linter.unusedSimpArgs false
theorem own : ownKnob Try.prog.godebug = none := by kernel_rfl
theorem laidOut : laidOutB Try.prog = true := by kernel_rfl
theorem cellsOf3 : Try.prog.cellsOf 3 = 1 := by kernel_rfl
theorem cellsOf23 : Try.prog.cellsOf 23 = 3 := by kernel_rfl
set_option maxRecDepth 100000 in
set_option maxHeartbeats 1000000 in
theorem lifted (os : Os) (started : os.Started) (H : Type) (enc : TypeId × Value → H) :
    ReturnsInHanded {} Try.checked os 5 .any (Rows.shadeKeptSpec.pre6 enc Try.prog Try.f5 Rows.shadeKeptRow.domain false) (Rows.shadeKeptSpec.post enc Try.prog Try.f5 false true false false) := by
  refine returnsInHanded_of_change (C := Try.checked) own started (by kernel_rfl) Try.func5
    (ChangeSpec.witness6 (enc := enc) (C := Try.checked) false ⟨#[], #[.agg #[.int .i64 0, .int .i64 0, .int .i64 0], .slice none 0 0], []⟩ 12 (by kernel_rfl) (by kernel_rfl) (by kernel_rfl) (by kernel_rfl)) ?_
  intro W base args ds gs before hval0 hW hcnd _
  have hval : ∀ (j : Nat) t v, Try.f5.params[j]? = some t → args[j]? = some v → Value.okWide Try.prog W .any base t v := hval0
  have hW' := hW
  obtain ⟨p, q, hA0, hV, rfl, hfz, hnd⟩ := hW
  have hA : DataW.TrodAll enc Try.prog W 0 (fun _ => true) true Try.f5.params.toList args.toList ds p := hA0
  rw [Try.params5] at hA hval
  obtain ⟨v0, vs0, d0, ds0, p0, q0, hargs, rfl, rfl, h0, r0⟩ := trodAll_cons hA
  obtain ⟨v1, vs1, d1, ds1, p1, q1, rfl, rfl, rfl, h1, r1⟩ := trodAll_cons r0
  obtain ⟨rfl, rfl, rfl⟩ := trodAll_nil r1
  obtain rfl : args = #[v0, v1] := by cases args; simp_all
  obtain ⟨rfl, rfl⟩ := trodVars_none hV
  have k0 := h0
  have lt0 : ∀ x ∈ p0, x.block < W.heap.size := by obtain ⟨m, hm⟩ := k0; exact DataW.trod_lt m _ _ _ hm
  obtain ⟨cs0, rfl, hsz0⟩ := okWide_struct Try.underlying23 (hval 0 23 v0 rfl rfl)
  obtain ⟨l0⟩ := cs0
  obtain ⟨c0_0, c0_1, c0_2, rfl⟩ := list3 (hsz0.trans (cellsOf23))
  obtain ⟨fuel0, hf0⟩ := h0
  obtain ⟨n0, G0⟩ := fields_of Try.underlying23 hf0
  obtain ⟨y0_0, e0_0⟩ := G0 0 _ rfl
  try simp only [Value.cells, cellsOf3, List.drop_succ_cons, List.drop_zero, List.take_succ_cons, List.take_zero] at e0_0
  obtain ⟨a0, q0, w0⟩ := leaf_int Try.underlying3 e0_0
  subst q0
  obtain ⟨y0_1, e0_1⟩ := G0 1 _ rfl
  try simp only [Value.cells, cellsOf3, List.drop_succ_cons, List.drop_zero, List.take_succ_cons, List.take_zero] at e0_1
  obtain ⟨a1, q1, w1⟩ := leaf_int Try.underlying3 e0_1
  subst q1
  obtain ⟨y0_2, e0_2⟩ := G0 2 _ rfl
  try simp only [Value.cells, cellsOf3, List.drop_succ_cons, List.drop_zero, List.take_succ_cons, List.take_zero] at e0_2
  obtain ⟨a2, q2, w2⟩ := leaf_int Try.underlying3 e0_2
  subst q2
  have k1 := h1
  have lt1 : ∀ x ∈ p1, x.block < W.heap.size := by obtain ⟨m, hm⟩ := k1; exact DataW.trod_lt m _ _ _ hm
  obtain ⟨b3, len3, cap3, rfl⟩ := okWide_slice Try.underlying24 (hval 1 24 v1 rfl rfl)
  have w3 : OpR W b3 len3 := by
    obtain ⟨fuel, hf⟩ := h1
    rcases open_slice_fields Try.underlying24 Try.underlying43 (by kernel_rfl) (by kernel_rfl) hf with hcs | ⟨x, l, c, m, hcs, hl, hm, hmm, hi⟩
    · simp [Value.cells] at hcs
      obtain ⟨rfl, rfl, rfl⟩ := hcs
      exact fun i hi => by omega
    · simp [Value.cells] at hcs
      obtain ⟨rfl, rfl, rfl⟩ := hcs
      exact opR_mk rfl rfl rfl rfl rfl Try.underlying3 Try.underlying3 Try.underlying41 Try.underlying4 (by simp at hmm; omega) hi
  clear hA0 hval0
  refine (skept_law a0 a1 a2 b3 len3 cap3 W w0 w1 w2 w3).mono fun e W' ⟨he, bel⟩ => ?_
  subst he
  exact ⟨_, rfl, _, _, _, [], _, [], hW', trodAll_mk1 (shut_bool Try.underlying4 _), (trodAll_cons_mk (Below.trod laidOut (by kernel_rfl) (of_decide_eq_true (by kernel_rfl)) k0 bel lt0) (trodAll_cons_mk (Below.trod laidOut (by kernel_rfl) (of_decide_eq_true (by kernel_rfl)) k1 bel lt1) trodAll_mk0)), rfl, bel.frame _, fun h => by cases h⟩
theorem proved : Rows.ShadeKeptSaid :=
  OpenClaim.holds_of_wide 5 Try.f5 rfl rfl rfl rfl rfl rfl rfl ⟨rfl, rfl, rfl, rfl, rfl⟩ rfl rfl rfl rfl rfl (by kernel_rfl) Try.func5 (by kernel_rfl)
    (of_decide_eq_true (by kernel_rfl)) (by unfold Func.isWrapper; first | (rw [if_pos (by decide +kernel)]; kernel_rfl) | (rw [if_neg (by decide +kernel)]; exact ⟨rfl, rfl⟩))
    (fun os started H enc _ => lifted os started H enc)
#print axioms proved
end Go.Proofs.Ytlhigibgjggidaa.fShadeKept
