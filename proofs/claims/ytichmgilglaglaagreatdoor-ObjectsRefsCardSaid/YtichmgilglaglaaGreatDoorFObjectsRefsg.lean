/- ObjectsRefsSaid: for every input the law returns true and its arguments read as before: the arguments are opened, the walk is used, the arguments are read again. No condition. -/
import Derived.ChangeMaps5
import Derived.Test.YtichmgilglaglaaGreatDoorTie
import Derived.Test.YtichmgilglaglaaGreatDoorCards
import Derived.LaidMore
import Derived.Lib.LaidTab
import Derived.Stop.LaidErr
import Derived.SevenTiedAt
import Derived.Test.YtichmgilglaglaaGreatDoorGObjectsRefs01
import Derived.Test.YtichmgilglaglaaGreatDoorRows
import Derived.Test.YtichmgilglaglaaGreatDoorGObjectsRefs29
namespace Go.Proofs.YtichmgilglaglaaGreatDoor.fObjectsRefs
open Go.ChangeShapes Go.WideShapes Go.ChangeAt Go.RowKit
set_option linter.unusedVariables false
set_option linter.unusedSimpArgs false
theorem own : ownKnob Tryz.prog.godebug = none := by kernel_rfl
theorem laidOut : laidOutB Tryz.prog = true := by kernel_rfl
theorem cellsOf2 : Tryz.prog.cellsOf 2 = 1 := by kernel_rfl
theorem cellsOf3 : Tryz.prog.cellsOf 3 = 1 := by kernel_rfl
theorem cellsOf78 : Tryz.prog.cellsOf 78 = 1 := by kernel_rfl
theorem cellsOf80 : Tryz.prog.cellsOf 80 = 4 := by kernel_rfl
/-- the door's own heap meets the condition -/
theorem door_met (os : Os) (args : Array Value) : laidMetH Tryz.prog Rows.objectsRefsRow.laid ((World.doorLaid Tryz.prog 19 os).forCall (fun _ _ => 0) ⟨#[], args, []⟩).memory :=
  laidMetH_of_parts3 (fuel := 8) (laidMet_of_run' 8 (by kernel_rfl) (by kernel_rfl)) (by kernel_rfl) (by kernel_rfl)
set_option maxRecDepth 100000 in
theorem hWid_of {W : World} (h : laidMetH Tryz.prog Rows.objectsRefsRow.laid W) : Wid W := by
  rw [MakeChecks.laidMetH_plain _ _ _ (by kernel_rfl)] at h
  have h2 := Lib.tabIs_of_head (P := Tryz.prog) (name := "windrow/sizes.widths") (k := .i64) (zs := [2, 3, 4, 6, 8, 12, 16, 32]) (g := 0) (t := 211) (e := 3) (n := 8) (by kernel_rfl) (by kernel_rfl) Tryz.underlying211 Tryz.underlying3 (by kernel_rfl) (by kernel_rfl) h
  intro i hi
  have h3 := h2.cell (g := 0) (by kernel_rfl) i (by simpa using hi)
  rw [h3]
  rfl
set_option maxRecDepth 100000 in
set_option maxHeartbeats 1000000 in
theorem lifted (os : Os) (started : os.Started) (H : Type) (enc : TypeId × Value → H) :
    ReturnsInHanded {} Tryz.checked os 6 .any (fun w args => (Rows.objectsRefsSpec.pre enc Tryz.prog Tryz.f6 [] false w args ∧ laidMetH Tryz.prog Rows.objectsRefsRow.laid w) ∧ sizedMet enc Tryz.prog Tryz.f6 (OpenSpec.ofChange Rows.objectsRefsSpec) false w args) (Rows.objectsRefsSpec.post enc Tryz.prog Tryz.f6 false true false false) := by
  refine returnsInHanded_of_change_and (C := Tryz.checked) (X := fun w _ => laidMetH Tryz.prog Rows.objectsRefsRow.laid w) (fun _ _ _ hh h => h.of_heap hh) own started (by kernel_rfl) Tryz.func6
    (ChangeSpec.witness_shaped (enc := enc) (C := Tryz.checked) (os := os) (X := fun w _ => laidMetH Tryz.prog Rows.objectsRefsRow.laid w) false (World.doorLaid Tryz.prog 19 os) #[.slice none 0 0, .agg #[.int .i64 0, .int .i64 0, .int .i64 0, .slice none 0 0]] 12 rfl (World.shaped_of_RefB (by kernel_rfl) (by kernel_rfl)) (by kernel_rfl) (by kernel_rfl) (by kernel_rfl) (door_met os _)) ?_
  intro W base args ds gs before hval0 hW _ _ hL _
  have hval : ∀ (j : Nat) t v, Tryz.f6.params[j]? = some t → args[j]? = some v → Value.okWide Tryz.prog W .any base t v := hval0
  have hW' := hW
  obtain ⟨p, q, hA0, hV, rfl, hfz, hnd⟩ := hW
  have hA : DataW.TrodAll enc Tryz.prog W 0 (fun _ => true) true Tryz.f6.params.toList args.toList ds p := hA0
  rw [Tryz.params6] at hA hval
  obtain ⟨v0, vs0, d0, ds0, p0, q0, hargs, rfl, rfl, h0, r0⟩ := trodAll_cons hA
  obtain ⟨v1, vs1, d1, ds1, p1, q1, rfl, rfl, rfl, h1, r1⟩ := trodAll_cons r0
  obtain ⟨rfl, rfl, rfl⟩ := trodAll_nil r1
  obtain rfl : args = #[v0, v1] := by cases args; simp_all
  obtain ⟨rfl, rfl⟩ := trodVars_none hV
  have k0 := h0
  have lt0 : ∀ x ∈ p0, x.block < W.heap.size := by obtain ⟨m, hm⟩ := k0; exact DataW.trod_lt m _ _ _ hm
  obtain ⟨b0, len0, cap0, rfl⟩ := okWide_slice Tryz.underlying72 (hval 0 72 v0 rfl rfl)
  obtain ⟨z0, w0⟩ : ∃ l, RdRow 2 (ElC W.heap.size) W.heap.size W (.slice b0 len0 cap0) l := by
    obtain ⟨fuel, hf⟩ := h0
    exact open_classes (by simpa [Value.cells] using hf)
  have k1 := h1
  have lt1 : ∀ x ∈ p1, x.block < W.heap.size := by obtain ⟨m, hm⟩ := k1; exact DataW.trod_lt m _ _ _ hm
  obtain ⟨cs1, rfl, hsz1⟩ := okWide_struct Tryz.underlying80 (hval 1 80 v1 rfl rfl)
  obtain ⟨l1⟩ := cs1
  obtain ⟨c1_0, c1_1, c1_2, c1_3, rfl⟩ := list4 (hsz1.trans (cellsOf80))
  obtain ⟨fuel1, hf1⟩ := h1
  obtain ⟨n1, G1⟩ := fields_of Tryz.underlying80 hf1
  obtain ⟨y1_0, e1_0⟩ := G1 0 _ rfl
  try simp only [Value.cells, cellsOf2, List.drop_succ_cons, List.drop_zero, List.take_succ_cons, List.take_zero] at e1_0
  obtain ⟨a1, q1, w1⟩ := leaf_int Tryz.underlying2 e1_0
  subst q1
  obtain ⟨y1_1, e1_1⟩ := G1 1 _ rfl
  try simp only [Value.cells, cellsOf3, List.drop_succ_cons, List.drop_zero, List.take_succ_cons, List.take_zero] at e1_1
  obtain ⟨a2, q2, w2⟩ := leaf_int Tryz.underlying3 e1_1
  subst q2
  obtain ⟨y1_2, e1_2⟩ := G1 2 _ rfl
  try simp only [Value.cells, cellsOf3, List.drop_succ_cons, List.drop_zero, List.take_succ_cons, List.take_zero] at e1_2
  obtain ⟨a3, q3, w3⟩ := leaf_int Tryz.underlying3 e1_2
  subst q3
  obtain ⟨y1_3, e1_3⟩ := G1 3 _ rfl
  try simp only [Value.cells, cellsOf78, List.drop_succ_cons, List.drop_zero, List.take_succ_cons, List.take_zero] at e1_3
  obtain ⟨b4, len4, cap4, z4, q4, w4⟩ : ∃ b len cap zs, c1_3 = .slice b len cap ∧ IsRow .i64 W b len cap zs := by
    rcases open_ints Tryz.underlying78 Tryz.underlying2 (by kernel_rfl) (e1_3) with ⟨hcs, _⟩ | ⟨x, l, c, zs, hcs, _, hl, hm, hz, _, hcell, hwz⟩
    · exact ⟨none, 0, 0, [], by simpa [cellsOf78] using hcs, .inl ⟨rfl, rfl, rfl, rfl⟩⟩
    · exact ⟨_, l, c, zs, by simpa [cellsOf78] using hcs, .inr ⟨_, rfl, hl, hm, by simpa using hz, hcell, hwz⟩⟩
  subst q4
  clear hA0 hval0
  refine (orefs_law (.slice b0 len0 cap0) z0 a1 a2 a3 b4 len4 cap4 z4 W w0 w1 w2 w3 w4 (hWid_of hL)).mono fun e W' ⟨he, bel⟩ => ?_
  subst he
  exact ⟨_, rfl, _, _, _, [], _, [], hW', trodAll_mk1 (shut_bool Tryz.underlying4 _), (trodAll_cons_mk (Below.trod laidOut (by kernel_rfl) (of_decide_eq_true (by kernel_rfl)) k0 bel lt0) (trodAll_cons_mk (Below.trod laidOut (by kernel_rfl) (of_decide_eq_true (by kernel_rfl)) k1 bel lt1) trodAll_mk0)), rfl, bel.frame _, fun h => by cases h⟩
theorem over : Rows.ObjectsRefsSaid :=
  OpenClaim.holds_of_wide 6 Tryz.f6 rfl rfl rfl rfl rfl rfl rfl ⟨rfl, rfl, rfl, rfl, rfl⟩ rfl rfl rfl rfl rfl (by kernel_rfl) Tryz.func6 (by kernel_rfl)
    (of_decide_eq_true (by kernel_rfl)) (by unfold Func.isWrapper; first | (rw [if_pos (by decide +kernel)]; kernel_rfl) | (rw [if_neg (by decide +kernel)]; exact ⟨rfl, rfl⟩))
    (fun os started H enc _ => lifted os started H enc)
theorem proved : Rows.ObjectsRefsCardSaid :=
  Claim7.holds_tied_plain_at .later [] [.data] true (true, "0655538f71f936f6c1042987508b549741ce5794ccc45d6d2374ef9aa5e1bc38") false
    over (fun _ h => by cases h) (by kernel_rfl) (fun _ h => by cases h) objectsRefs_row_tie rfl ⟨rfl, rfl⟩ (by kernel_rfl) rfl
    (fun f fn hf hfn => by
      obtain rfl : f = 6 := Option.some.inj ((show Tryz.prog.funcNamed "windrow/windrowlaw11.ObjectsRefs" = some 6 by kernel_rfl).symm.trans hf) |>.symm
      obtain rfl : fn = Tryz.f6 := (Option.some.inj (Tryz.func6.symm.trans hfn)).symm
      exact ⟨by kernel_rfl, fun j t ht => by
        rw [Tryz.params6] at ht
        have hm : t ∈ [72, 80] := by simpa using Array.mem_of_getElem? ht
        have hall : ([72, 80].all fun u => !Tryz.prog.wantsStandIn u) = true := by kernel_rfl
        exact (show Tryz.prog.wantsStandIn t = false by simpa using List.all_eq_true.1 hall t hm)⟩)
    (by kernel_rfl)
#print axioms proved
end Go.Proofs.YtichmgilglaglaaGreatDoor.fObjectsRefs
