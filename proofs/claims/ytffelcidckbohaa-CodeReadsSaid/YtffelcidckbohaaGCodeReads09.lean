/- Texts of this seat, one behind the other: each says at its head what it holds. No condition of its own. -/
import Derived.Test.YtffelcidckbohaaGCodeReads07
import Derived.Test.YtffelcidckbohaaGCodeReads08
/- copyFunc: a function of one's own. Condition: the function is there, its name is not too long. -/
namespace Go.Proofs.Ytffelcidckbohaa
open Go.RowKit
set_option linter.unusedVariables false
theorem Touch.cellC {R : Nat → Prop} {w w' : World} (h : Touch R w w') {a : Addr} (hl : a.block < w.heap.size) (hr : ¬ R a.block) : w'.cell? a = w.cell? a := by
  unfold World.cell?
  rw [h.block a.block hl hr]
theorem step_app_nil {ops : Array Oper} {o : Oper} {a : Act} {w : World} {K : Act → World → Prop} {Q : Exit → Act → World → Prop} {E : Prop} {t : TypeId} {vin : Value} {R : Value → World → Prop} (hgd : o.guard = none) (s x : Operand)
    (ho : o.op = .call { callee := .builtin .append, args := #[s, x], argTypes := #[t, t] }) (hs : a.eval s = .slice none 0 0) (hx : a.eval x = vin)
    (hr : ∃ v' w', (Builtin.append_ #[t, t] o.type #[.slice none 0 0, vin]).run Try.prog w = .ok v' w' ∧ R v' w')
    (h : ∀ v' w', R v' w' → K (a.put o.dst v') w') : if Region.wanted o (yielded ops a.tmps) = true then Oper.wp Try.prog o a w K Q else E := by
  have hw : Region.wanted o (yielded ops a.tmps) = true := by simp [Region.wanted, hgd]
  rw [if_pos hw]
  obtain ⟨v', w', h1, h2⟩ := hr
  unfold Oper.wp execOp
  simp only [ho, resolve, invoke, builtin, Sem.run_bind, Sem.run_pure, Result.andThen_ok, List.map_toArray, List.map_cons, List.map_nil, hs, hx, h1]
  exact h v' w' h2
theorem elI_at {w : World} (b k : Nat) (x : Int) (h : ElI w b k x) : ∀ j u, (intC x)[j]? = some u → w.cell? ⟨b, k + j, none⟩ = some u := by
  intro j u hu
  match j with
  | 0 => simp [intC] at hu; subst hu; exact h.1
  | j + 1 => simp [intC] at hu
theorem elN_at {w : World} (b k : Nat) (x : InsD) (h : ElN w b k x) : ∀ j u, (insC x)[j]? = some u → w.cell? ⟨b, k + j, none⟩ = some u := by
  intro j u hu
  match j with
  | 0 => simp [insC] at hu; subst hu; exact h.1
  | 1 => simp [insC] at hu; subst hu; exact h.2.1
  | 2 => simp [insC] at hu; subst hu; exact h.2.2.1
  | j + 3 => simp [insC] at hu
end Go.Proofs.Ytffelcidckbohaa
/- slices.Equal at numbers, fields and instructions. No condition. -/
namespace Go.Proofs.Ytffelcidckbohaa
open Go.RowKit
set_option linter.unusedVariables false
set_option maxRecDepth 100000 in
set_option maxHeartbeats 4000000 in
theorem eqints_any (w : World) (B : Nat) (v1 v2 : Value) (l1 l2 : List Int) (h1 : RdRow 1 ElI B w v1 l1) (h2 : RdRow 1 ElI B w v2 l2) :
    Calls Try.prog 58 #[v1, v2] w fun e w' => e = .returned (.bool (decide (l1 = l2))) ∧ Quiet w w' := by
  have h1' := h1
  have h2' := h2
  obtain ⟨a1, c1, rfl⟩ := rd_shape h1'
  obtain ⟨a2, c2, rfl⟩ := rd_shape h2'
  have M1 : l1.length ≤ maxLen := by obtain ⟨_, _, _, h, _⟩ := h1; exact h
  unfold maxLen at M1
  have R1 := Lib.hid (fun i (hi : i < l1.length) => rd_at h1 hi)
  have R2 := Lib.hid (fun i (hi : i < l2.length) => rd_at h2 hi)
  clear h1 h2 h1' h2'
  by_cases hn : l1.length = l2.length
  · have hne : ((l1.length : Int) != (l2.length : Int)) = false := by simp [hn]
    have HNN := Lib.hid hn
    clear hn
    go_enter Try.func58, Try.ntmps58
    go_wp2
    go_loopw [13] (fun i wr => ∃ k : Nat, k ≤ l1.length ∧ i = .int .i64 k ∧ Quiet w wr ∧ ∀ j, (j1 : j < l1.length) → (j2 : j < l2.length) → j < k → l1[j] = l2[j]) (fun i _ => l1.length - (intOf i).toNat)
    case atStart => exact ⟨0, Nat.zero_le _, rfl, Quiet.refl _, fun j _ _ h => absurd h (by omega)⟩
    case round =>
      obtain ⟨k, hk, rfl, hq, hj⟩ := hrel
      have HJ := Lib.hid hj
      clear hj
      by_cases hlt : k < l1.length
      · have hlt2 : k < l2.length := by have := HNN.out; omega
        obtain ⟨b1, o1, rfl, _, p1, _⟩ := R1.out k hlt
        obtain ⟨b2, o2, rfl, _, p2, _⟩ := R2.out k hlt2
        rw [Nat.mul_one] at p1 p2
        have p1 := (hq.cell _).trans p1
        have p2 := (hq.cell _).trans p2
        have hlt' : (k : Int) < (l1.length : Int) := by omega
        have hlt2' : (k : Int) < (l2.length : Int) := by omega
        have hge' : (0 : Int) ≤ (k : Int) := by omega
        by_cases hx : l1[k] = l2[k]
        · have hx' : (l1[k] != l2[k]) = false := by simp [hx]
          have HX : Hid (∀ (j1 : k < l1.length) (j2 : k < l2.length), l1[k]'j1 = l2[k]'j2) := fun _ _ => hx
          clear hx
          generalize l1[k] = z1 at *
          generalize l2[k] = z2 at *
          go_wp2
          go_quiet (fail)
          go_wp2
          go_roundw
          case rel => exact ⟨k + 1, by omega, by go_num, hq.trans ⟨_, rfl⟩, fun j j1 j2 j3 => by
            rcases Nat.lt_or_ge j k with h | h
            · exact HJ.out j j1 j2 h
            · obtain rfl : j = k := by omega
              exact HX.out j1 j2⟩
          case measure => simp [intOf]; omega
        · have hx' : (l1[k] != l2[k]) = true := by simp [hx]
          have HX : Hid (¬ l1 = l2) := fun h => hx (by subst h; rfl)
          clear hx
          generalize l1[k] = z1 at *
          generalize l2[k] = z2 at *
          go_wp2
          go_quiet (fail)
          go_wp2
          go_ret
          exact ⟨ret_bool (by simp [HX.out]), hq.trans ⟨_, rfl⟩⟩
      · have hlt' : ¬ (k : Int) < (l1.length : Int) := by omega
        go_wp2
        go_ret
        exact ⟨ret_bool (by simp [list_eq_of HNN.out fun i i1 i2 => HJ.out i i1 i2 (by omega)]), hq⟩
  · have hne : ((l1.length : Int) != (l2.length : Int)) = true := by simp; omega
    have HX : Hid (¬ l1 = l2) := fun h => hn (by rw [h])
    go_enter Try.func58, Try.ntmps58
    go_wp2
    go_ret
    exact ⟨ret_bool (by simp [HX.out]), Quiet.refl _⟩
set_option maxRecDepth 100000 in
set_option maxHeartbeats 4000000 in
theorem eqflds_any (w : World) (B : Nat) (v1 v2 : Value) (l1 l2 : List FldD) (h1 : RdRow 2 ElF B w v1 l1) (h2 : RdRow 2 ElF B w v2 l2) :
    Calls Try.prog 57 #[v1, v2] w fun e w' => e = .returned (.bool (decide (l1.map fldP = l2.map fldP))) ∧ Quiet w w' := by
  have h1' := h1
  have h2' := h2
  obtain ⟨a1, c1, rfl⟩ := rd_shape h1'
  obtain ⟨a2, c2, rfl⟩ := rd_shape h2'
  have M1 : l1.length ≤ maxLen := by obtain ⟨_, _, _, h, _⟩ := h1; exact h
  unfold maxLen at M1
  have R1 := Lib.hid (fun i (hi : i < l1.length) => rd_at h1 hi)
  have R2 := Lib.hid (fun i (hi : i < l2.length) => rd_at h2 hi)
  clear h1 h2 h1' h2'
  have hG := guard_fld
  by_cases hn : l1.length = l2.length
  · have hne : ((l1.length : Int) != (l2.length : Int)) = false := by simp [hn]
    have HN := Lib.hid hn
    clear hn
    go_enter Try.func57, Try.ntmps57
    go_wp2
    go_loopw [13] (fun i wr => ∃ k : Nat, k ≤ l1.length ∧ i = .int .i64 k ∧ Quiet w wr ∧ ∀ j, (j1 : j < l1.length) → (j2 : j < l2.length) → j < k → fldP l1[j] = fldP l2[j]) (fun i _ => l1.length - (intOf i).toNat)
    case atStart => exact ⟨0, Nat.zero_le _, rfl, Quiet.refl _, fun j _ _ h => absurd h (by omega)⟩
    case round =>
      obtain ⟨k, hk, rfl, hq, hj⟩ := hrel
      have HJ := Lib.hid hj
      clear hj
      by_cases hlt : k < l1.length
      · have hlt2 : k < l2.length := by have := HN.out; omega
        obtain ⟨b1, o1, rfl, _, p0, p1, _⟩ := R1.out k hlt
        obtain ⟨b2, o2, rfl, _, q0, q1, _⟩ := R2.out k hlt2
        replace p0 := (hq.cell _).trans p0
        replace q0 := (hq.cell _).trans q0
        replace p1 := (hq.cell _).trans p1
        replace q1 := (hq.cell _).trans q1
        have hlt' : (k : Int) < (l1.length : Int) := by omega
        have hlt2' : (k : Int) < (l2.length : Int) := by omega
        have hge' : (0 : Int) ≤ (k : Int) := by omega
        have FP := Lib.hid (@fldP_eq l1[k] l2[k])
        have HM : Hid (¬ fldP l1[k] = fldP l2[k] → ¬ l1.map fldP = l2.map fldP) := map_ne_at hlt hlt2
        have HE : Hid (∀ (j1 : k < l1.length) (j2 : k < l2.length), fldP (l1[k]'j1) = fldP (l1[k]'hlt) ∧ fldP (l2[k]'j2) = fldP (l2[k]'hlt2)) := fun _ _ => ⟨rfl, rfl⟩
        generalize l1[k] = z1 at *
        generalize l2[k] = z2 at *
        rcases z1 with ⟨x0, x1⟩
        rcases z2 with ⟨y0, y1⟩
        have hE := fun W => neq_fld W x0 y0 x1 y1
        have FQ : (x0.toList == y0.toList && x1 == y1) = decide (fldP ⟨x0, x1⟩ = fldP ⟨y0, y1⟩) := FP.out
        simp only at p0 q0 p1 q1
        by_cases hy : fldP ⟨x0, x1⟩ = fldP ⟨y0, y1⟩
        · have hv : (x0.toList == y0.toList && x1 == y1) = true := by rw [FQ]; simpa using hy
          have HY := Lib.hid hy
          clear hy FQ
          go_wp2
          go_quiet (fail)
          go_wp2
          go_roundw
          case rel => exact ⟨k + 1, by omega, by go_num, hq.trans ⟨_, rfl⟩, fun j j1 j2 j3 => by
            rcases Nat.lt_or_ge j k with h | h
            · exact HJ.out j j1 j2 h
            · obtain rfl : j = k := by omega
              exact (HE.out j1 j2).1.trans (HY.out.trans (HE.out j1 j2).2.symm)⟩
          case measure => simp [intOf]; omega
        · have hv : (x0.toList == y0.toList && x1 == y1) = false := by rw [FQ]; simpa using hy
          have HY := Lib.hid hy
          clear hy FQ
          go_wp2
          go_quiet (fail)
          go_wp2
          go_ret
          exact ⟨ret_bool (by simp [HM.out HY.out]), hq.trans ⟨_, rfl⟩⟩
      · have hlt' : ¬ (k : Int) < (l1.length : Int) := by omega
        go_wp2
        go_ret
        exact ⟨ret_bool (by simp [map_eq_of HN.out fun i i1 i2 => HJ.out i i1 i2 (by omega)]), hq⟩
  · have hne : ((l1.length : Int) != (l2.length : Int)) = true := by simp; omega
    have HM := Lib.hid (map_ne_len (f := fldP) hn)
    clear hn
    go_enter Try.func57, Try.ntmps57
    go_wp2
    go_ret
    exact ⟨ret_bool (by simp [HM.out]), Quiet.refl _⟩
set_option maxRecDepth 100000 in
set_option maxHeartbeats 4000000 in
theorem eqinss_any (w : World) (B : Nat) (v1 v2 : Value) (l1 l2 : List InsD) (h1 : RdRow 3 ElN B w v1 l1) (h2 : RdRow 3 ElN B w v2 l2) :
    Calls Try.prog 59 #[v1, v2] w fun e w' => e = .returned (.bool (decide (l1.map insP = l2.map insP))) ∧ Quiet w w' := by
  have h1' := h1
  have h2' := h2
  obtain ⟨a1, c1, rfl⟩ := rd_shape h1'
  obtain ⟨a2, c2, rfl⟩ := rd_shape h2'
  have M1 : l1.length ≤ maxLen := by obtain ⟨_, _, _, h, _⟩ := h1; exact h
  unfold maxLen at M1
  have R1 := Lib.hid (fun i (hi : i < l1.length) => rd_at h1 hi)
  have R2 := Lib.hid (fun i (hi : i < l2.length) => rd_at h2 hi)
  clear h1 h2 h1' h2'
  have hG := guard_ins
  by_cases hn : l1.length = l2.length
  · have hne : ((l1.length : Int) != (l2.length : Int)) = false := by simp [hn]
    have HN := Lib.hid hn
    clear hn
    go_enter Try.func59, Try.ntmps59
    go_wp2
    go_loopw [13] (fun i wr => ∃ k : Nat, k ≤ l1.length ∧ i = .int .i64 k ∧ Quiet w wr ∧ ∀ j, (j1 : j < l1.length) → (j2 : j < l2.length) → j < k → insP l1[j] = insP l2[j]) (fun i _ => l1.length - (intOf i).toNat)
    case atStart => exact ⟨0, Nat.zero_le _, rfl, Quiet.refl _, fun j _ _ h => absurd h (by omega)⟩
    case round =>
      obtain ⟨k, hk, rfl, hq, hj⟩ := hrel
      have HJ := Lib.hid hj
      clear hj
      by_cases hlt : k < l1.length
      · have hlt2 : k < l2.length := by have := HN.out; omega
        obtain ⟨b1, o1, rfl, _, p0, p1, p2, _⟩ := R1.out k hlt
        obtain ⟨b2, o2, rfl, _, q0, q1, q2, _⟩ := R2.out k hlt2
        replace p0 := (hq.cell _).trans p0
        replace q0 := (hq.cell _).trans q0
        replace p1 := (hq.cell _).trans p1
        replace q1 := (hq.cell _).trans q1
        replace p2 := (hq.cell _).trans p2
        replace q2 := (hq.cell _).trans q2
        have hlt' : (k : Int) < (l1.length : Int) := by omega
        have hlt2' : (k : Int) < (l2.length : Int) := by omega
        have hge' : (0 : Int) ≤ (k : Int) := by omega
        have FP := Lib.hid (@insP_eq l1[k] l2[k])
        have HM : Hid (¬ insP l1[k] = insP l2[k] → ¬ l1.map insP = l2.map insP) := map_ne_at hlt hlt2
        have HE : Hid (∀ (j1 : k < l1.length) (j2 : k < l2.length), insP (l1[k]'j1) = insP (l1[k]'hlt) ∧ insP (l2[k]'j2) = insP (l2[k]'hlt2)) := fun _ _ => ⟨rfl, rfl⟩
        generalize l1[k] = z1 at *
        generalize l2[k] = z2 at *
        rcases z1 with ⟨x0, x1, x2⟩
        rcases z2 with ⟨y0, y1, y2⟩
        have hE := fun W => neq_ins W x0 x1 x2 y0 y1 y2
        have FQ : (x0 == y0 && (x1 == y1 && x2 == y2)) = decide (insP ⟨x0, x1, x2⟩ = insP ⟨y0, y1, y2⟩) := FP.out
        simp only at p0 q0 p1 q1 p2 q2
        by_cases hy : insP ⟨x0, x1, x2⟩ = insP ⟨y0, y1, y2⟩
        · have hv : (x0 == y0 && (x1 == y1 && x2 == y2)) = true := by rw [FQ]; simpa using hy
          have HY := Lib.hid hy
          clear hy FQ
          go_wp2
          go_quiet (fail)
          go_wp2
          go_roundw
          case rel => exact ⟨k + 1, by omega, by go_num, hq.trans ⟨_, rfl⟩, fun j j1 j2 j3 => by
            rcases Nat.lt_or_ge j k with h | h
            · exact HJ.out j j1 j2 h
            · obtain rfl : j = k := by omega
              exact (HE.out j1 j2).1.trans (HY.out.trans (HE.out j1 j2).2.symm)⟩
          case measure => simp [intOf]; omega
        · have hv : (x0 == y0 && (x1 == y1 && x2 == y2)) = false := by rw [FQ]; simpa using hy
          have HY := Lib.hid hy
          clear hy FQ
          go_wp2
          go_quiet (fail)
          go_wp2
          go_ret
          exact ⟨ret_bool (by simp [HM.out HY.out]), hq.trans ⟨_, rfl⟩⟩
      · have hlt' : ¬ (k : Int) < (l1.length : Int) := by omega
        go_wp2
        go_ret
        exact ⟨ret_bool (by simp [map_eq_of HN.out fun i i1 i2 => HJ.out i i1 i2 (by omega)]), hq⟩
  · have hne : ((l1.length : Int) != (l2.length : Int)) = true := by simp; omega
    have HM := Lib.hid (map_ne_len (f := insP) hn)
    clear hn
    go_enter Try.func59, Try.ntmps59
    go_wp2
    go_ret
    exact ⟨ret_bool (by simp [HM.out]), Quiet.refl _⟩
end Go.Proofs.Ytffelcidckbohaa
/- equalClasses, equalFuncs, slices.EqualFunc at both, Equal of programs. No condition. -/
namespace Go.Proofs.Ytffelcidckbohaa
open Go.RowKit
set_option linter.unusedVariables false
set_option maxRecDepth 100000 in
set_option maxHeartbeats 4000000 in
theorem eqcls_any (w : World) (B : Nat) (v1 v2 : Value) (c d : ClsD) (hB : B ≤ w.heap.size) (h1 : RdRow 2 ElF B w v1 c.fields) (h2 : RdRow 2 ElF B w v2 d.fields) :
    Calls Try.prog 34 #[.agg #[.string c.name, v1], .agg #[.string d.name, v2]] w fun e w' => e = .returned (.bool (decide (clsP c = clsP d))) ∧ Below w.heap.size w w' := by
  have h1' := h1
  have h2' := h2
  obtain ⟨a1, q1, rfl⟩ := rd_shape h1'
  obtain ⟨a2, q2, rfl⟩ := rd_shape h2'
  have k1 : Blk ((w.alloc (.cells #[.string c.name, .slice a1 c.fields.length q1] 52)).alloc (.cells #[.string d.name, .slice a2 d.fields.length q2] 52)) w.heap.size #[.string c.name, .slice a1 c.fields.length q1] 52 := (Blk.new _ _ _).alloc _
  have k2 : Blk ((w.alloc (.cells #[.string c.name, .slice a1 c.fields.length q1] 52)).alloc (.cells #[.string d.name, .slice a2 d.fields.length q2] 52)) (w.heap.size + 1) #[.string d.name, .slice a2 d.fields.length q2] 52 := Blk.new' (by simp)
  have hb0 : Below w.heap.size w ((w.alloc (.cells #[.string c.name, .slice a1 c.fields.length q1] 52)).alloc (.cells #[.string d.name, .slice a2 d.fields.length q2] 52)) := ((Below.refl _ _).alloc (Nat.le_refl _) _).alloc (by simp) _
  have IN := Lib.hid (eqflds_any _ B _ _ _ _ (h1.keep (hb0.mono hB) fun _ _ _ e r => r.keep (hb0.mono hB) e) (h2.keep (hb0.mono hB) fun _ _ _ e r => r.keep (hb0.mono hB) e))
  have hb := Lib.hid hb0
  have CP := Lib.hid (clsP_eq (f := c) (g := d))
  have c0 := k1.val 0 rfl
  have c1 := k1.val 1 rfl
  have d0 := k2.val 0 rfl
  have d1 := k2.val 1 rfl
  clear h1 h2 h1' h2' hb0 k1 k2
  by_cases hx : c.name.toList = d.name.toList
  · have hx' : (c.name.toList == d.name.toList) = true := by simp [hx]
    have HX := Lib.hid hx
    clear hx
    go_enter Try.func34, Try.ntmps34
    go_wp2_with fail
    refine IN.out.mono ?_
    rintro e9 w3 ⟨rfl, hq3⟩
    have HQ := Lib.hid hq3
    clear hq3
    go_wp2
    go_ret
    exact ⟨ret_bool (by rw [CP.out]; simp [HX.out]), hb.out.trans (Quiet.below HQ.out)⟩
  · have hx' : (c.name.toList == d.name.toList) = false := by simpa using hx
    have HX := Lib.hid hx
    clear hx
    go_enter Try.func34, Try.ntmps34
    go_wp2
    go_ret
    exact ⟨ret_bool (by rw [CP.out]; simp [HX.out]), hb.out⟩
set_option maxRecDepth 100000 in
set_option maxHeartbeats 4000000 in
theorem eqfun_any (w : World) (B : Nat) (x1 x3 x4 y1 y3 y4 : Value) (fn gn : FunD) (hB : B ≤ w.heap.size) (g1 : RdRow 1 ElI B w x1 fn.params) (g3 : RdRow 1 ElI B w x3 fn.locals) (g4 : RdRow 3 ElN B w x4 fn.code) (l1 : RdRow 1 ElI B w y1 gn.params) (l3 : RdRow 1 ElI B w y3 gn.locals) (l4 : RdRow 3 ElN B w y4 gn.code) :
    Calls Try.prog 36 #[.agg #[.string fn.name, x1, .int .i64 fn.result, x3, x4], .agg #[.string gn.name, y1, .int .i64 gn.result, y3, y4]] w fun e w' => e = .returned (.bool (decide (funP fn = funP gn))) ∧ Below w.heap.size w w' := by
  obtain ⟨fa1, fc1, rfl⟩ := rd_shape g1
  obtain ⟨fa3, fc3, rfl⟩ := rd_shape g3
  obtain ⟨fa4, fc4, rfl⟩ := rd_shape g4
  obtain ⟨ga1, gc1, rfl⟩ := rd_shape l1
  obtain ⟨ga3, gc3, rfl⟩ := rd_shape l3
  obtain ⟨ga4, gc4, rfl⟩ := rd_shape l4
  have kF : Blk ((w.alloc (.cells #[.string fn.name, .slice fa1 fn.params.length fc1, .int .i64 fn.result, .slice fa3 fn.locals.length fc3, .slice fa4 fn.code.length fc4] 45)).alloc (.cells #[.string gn.name, .slice ga1 gn.params.length gc1, .int .i64 gn.result, .slice ga3 gn.locals.length gc3, .slice ga4 gn.code.length gc4] 45)) w.heap.size #[.string fn.name, .slice fa1 fn.params.length fc1, .int .i64 fn.result, .slice fa3 fn.locals.length fc3, .slice fa4 fn.code.length fc4] 45 := (Blk.new _ _ _).alloc _
  have kG : Blk ((w.alloc (.cells #[.string fn.name, .slice fa1 fn.params.length fc1, .int .i64 fn.result, .slice fa3 fn.locals.length fc3, .slice fa4 fn.code.length fc4] 45)).alloc (.cells #[.string gn.name, .slice ga1 gn.params.length gc1, .int .i64 gn.result, .slice ga3 gn.locals.length gc3, .slice ga4 gn.code.length gc4] 45)) (w.heap.size + 1) #[.string gn.name, .slice ga1 gn.params.length gc1, .int .i64 gn.result, .slice ga3 gn.locals.length gc3, .slice ga4 gn.code.length gc4] 45 := Blk.new' (by simp)
  have hb0 : Below w.heap.size w ((w.alloc (.cells #[.string fn.name, .slice fa1 fn.params.length fc1, .int .i64 fn.result, .slice fa3 fn.locals.length fc3, .slice fa4 fn.code.length fc4] 45)).alloc (.cells #[.string gn.name, .slice ga1 gn.params.length gc1, .int .i64 gn.result, .slice ga3 gn.locals.length gc3, .slice ga4 gn.code.length gc4] 45)) := ((Below.refl _ _).alloc (Nat.le_refl _) _).alloc (by simp) _
  have hF := hb0.mono hB
  have IN1 := Lib.hid (eqints_any _ B _ _ _ _ (g1.keep hF fun _ _ _ e r => r.keep hF e) (l1.keep hF fun _ _ _ e r => r.keep hF e))
  have IN2 := Lib.hid (fun W (hq : Quiet ((w.alloc (.cells #[.string fn.name, .slice fa1 fn.params.length fc1, .int .i64 fn.result, .slice fa3 fn.locals.length fc3, .slice fa4 fn.code.length fc4] 45)).alloc (.cells #[.string gn.name, .slice ga1 gn.params.length gc1, .int .i64 gn.result, .slice ga3 gn.locals.length gc3, .slice ga4 gn.code.length gc4] 45)) W) => eqints_any W B _ _ _ _ (g3.keep (hF.trans (Quiet.below hq)) fun _ _ _ e r => r.keep (hF.trans (Quiet.below hq)) e) (l3.keep (hF.trans (Quiet.below hq)) fun _ _ _ e r => r.keep (hF.trans (Quiet.below hq)) e))
  have IN3 := Lib.hid (fun W (hq : Quiet ((w.alloc (.cells #[.string fn.name, .slice fa1 fn.params.length fc1, .int .i64 fn.result, .slice fa3 fn.locals.length fc3, .slice fa4 fn.code.length fc4] 45)).alloc (.cells #[.string gn.name, .slice ga1 gn.params.length gc1, .int .i64 gn.result, .slice ga3 gn.locals.length gc3, .slice ga4 gn.code.length gc4] 45)) W) => eqinss_any W B _ _ _ _ (g4.keep (hF.trans (Quiet.below hq)) fun _ _ _ e r => r.keep (hF.trans (Quiet.below hq)) e) (l4.keep (hF.trans (Quiet.below hq)) fun _ _ _ e r => r.keep (hF.trans (Quiet.below hq)) e))
  have FE := Lib.hid (@funP_eq fn gn)
  have BE := Lib.hid hb0
  have z0 := kF.val 0 rfl
  have q0 := kG.val 0 rfl
  have z1 := kF.val 1 rfl
  have q1 := kG.val 1 rfl
  have z2 := kF.val 2 rfl
  have q2 := kG.val 2 rfl
  have z3 := kF.val 3 rfl
  have q3 := kG.val 3 rfl
  have z4 := kF.val 4 rfl
  have q4 := kG.val 4 rfl
  clear g1 g3 g4 l1 l3 l4 kF kG hb0 hF hB
  by_cases ca : fn.name.toList = gn.name.toList
  · have va : (fn.name.toList == gn.name.toList) = true := by simpa using ca
    have HA := Lib.hid ca
    clear ca
    by_cases cc : fn.params = gn.params
    · have vc : decide (fn.params = gn.params) = true := by simpa using cc
      have HC := Lib.hid cc
      clear cc
      by_cases cb : fn.result = gn.result
      · have vb : (fn.result == gn.result) = true := by simpa using cb
        have HBB := Lib.hid cb
        clear cb
        by_cases cd : fn.locals = gn.locals
        · have vd : decide (fn.locals = gn.locals) = true := by simpa using cd
          have HD := Lib.hid cd
          clear cd
          have VE : Hid (decide (fn.code.map insP = gn.code.map insP) = decide (funP fn = funP gn)) := decide_eq_decide.2 ⟨fun e => FE.out.2 ⟨HA.out, HC.out, HBB.out, HD.out, e⟩, fun e => (FE.out.1 e).2.2.2.2⟩
          go_enter Try.func36, Try.ntmps36
          go_wp2_with fail
          refine IN1.out.mono ?_
          rintro e9 w3 ⟨rfl, hq1⟩
          replace z0 := (hq1.cell _).trans z0
          replace q0 := (hq1.cell _).trans q0
          replace z1 := (hq1.cell _).trans z1
          replace q1 := (hq1.cell _).trans q1
          replace z2 := (hq1.cell _).trans z2
          replace q2 := (hq1.cell _).trans q2
          replace z3 := (hq1.cell _).trans z3
          replace q3 := (hq1.cell _).trans q3
          replace z4 := (hq1.cell _).trans z4
          replace q4 := (hq1.cell _).trans q4
          have HQ2 := Lib.hid (hq1)
          clear hq1
          have INX2 := Lib.hid (IN2.out w3 HQ2.out)
          go_wp2_with fail
          refine INX2.out.mono ?_
          rintro e9 w4 ⟨rfl, hq2⟩
          replace z0 := (hq2.cell _).trans z0
          replace q0 := (hq2.cell _).trans q0
          replace z1 := (hq2.cell _).trans z1
          replace q1 := (hq2.cell _).trans q1
          replace z2 := (hq2.cell _).trans z2
          replace q2 := (hq2.cell _).trans q2
          replace z3 := (hq2.cell _).trans z3
          replace q3 := (hq2.cell _).trans q3
          replace z4 := (hq2.cell _).trans z4
          replace q4 := (hq2.cell _).trans q4
          have HQ3 := Lib.hid (HQ2.out.trans hq2)
          clear hq2
          have INX3 := Lib.hid (IN3.out w4 HQ3.out)
          go_wp2_with fail
          refine INX3.out.mono ?_
          rintro e9 w5 ⟨rfl, hq3⟩
          replace z0 := (hq3.cell _).trans z0
          replace q0 := (hq3.cell _).trans q0
          replace z1 := (hq3.cell _).trans z1
          replace q1 := (hq3.cell _).trans q1
          replace z2 := (hq3.cell _).trans z2
          replace q2 := (hq3.cell _).trans q2
          replace z3 := (hq3.cell _).trans z3
          replace q3 := (hq3.cell _).trans q3
          replace z4 := (hq3.cell _).trans z4
          replace q4 := (hq3.cell _).trans q4
          have HQ4 := Lib.hid (HQ3.out.trans hq3)
          clear hq3
          go_wp2
          go_ret
          exact ⟨ret_bool (by exact VE.out), BE.out.trans (Quiet.below HQ4.out)⟩
        · have vd : decide (fn.locals = gn.locals) = false := by simpa using cd
          have HD := Lib.hid cd
          clear cd
          go_enter Try.func36, Try.ntmps36
          go_wp2_with fail
          refine IN1.out.mono ?_
          rintro e9 w3 ⟨rfl, hq1⟩
          replace z0 := (hq1.cell _).trans z0
          replace q0 := (hq1.cell _).trans q0
          replace z1 := (hq1.cell _).trans z1
          replace q1 := (hq1.cell _).trans q1
          replace z2 := (hq1.cell _).trans z2
          replace q2 := (hq1.cell _).trans q2
          replace z3 := (hq1.cell _).trans z3
          replace q3 := (hq1.cell _).trans q3
          replace z4 := (hq1.cell _).trans z4
          replace q4 := (hq1.cell _).trans q4
          have HQ2 := Lib.hid (hq1)
          clear hq1
          have INX2 := Lib.hid (IN2.out w3 HQ2.out)
          go_wp2_with fail
          refine INX2.out.mono ?_
          rintro e9 w4 ⟨rfl, hq2⟩
          replace z0 := (hq2.cell _).trans z0
          replace q0 := (hq2.cell _).trans q0
          replace z1 := (hq2.cell _).trans z1
          replace q1 := (hq2.cell _).trans q1
          replace z2 := (hq2.cell _).trans z2
          replace q2 := (hq2.cell _).trans q2
          replace z3 := (hq2.cell _).trans z3
          replace q3 := (hq2.cell _).trans q3
          replace z4 := (hq2.cell _).trans z4
          replace q4 := (hq2.cell _).trans q4
          have HQ3 := Lib.hid (HQ2.out.trans hq2)
          clear hq2
          go_wp2
          go_ret
          exact ⟨ret_bool (by simp [show ¬ funP fn = funP gn from fun e => HD.out (FE.out.1 e).2.2.2.1]), BE.out.trans (Quiet.below HQ3.out)⟩
      · have vb : (fn.result == gn.result) = false := by simpa using cb
        have HBB := Lib.hid cb
        clear cb
        go_enter Try.func36, Try.ntmps36
        go_wp2_with fail
        refine IN1.out.mono ?_
        rintro e9 w3 ⟨rfl, hq1⟩
        replace z0 := (hq1.cell _).trans z0
        replace q0 := (hq1.cell _).trans q0
        replace z1 := (hq1.cell _).trans z1
        replace q1 := (hq1.cell _).trans q1
        replace z2 := (hq1.cell _).trans z2
        replace q2 := (hq1.cell _).trans q2
        replace z3 := (hq1.cell _).trans z3
        replace q3 := (hq1.cell _).trans q3
        replace z4 := (hq1.cell _).trans z4
        replace q4 := (hq1.cell _).trans q4
        have HQ2 := Lib.hid (hq1)
        clear hq1
        go_wp2
        go_ret
        exact ⟨ret_bool (by simp [show ¬ funP fn = funP gn from fun e => HBB.out (FE.out.1 e).2.2.1]), BE.out.trans (Quiet.below HQ2.out)⟩
    · have vc : decide (fn.params = gn.params) = false := by simpa using cc
      have HC := Lib.hid cc
      clear cc
      go_enter Try.func36, Try.ntmps36
      go_wp2_with fail
      refine IN1.out.mono ?_
      rintro e9 w3 ⟨rfl, hq1⟩
      replace z0 := (hq1.cell _).trans z0
      replace q0 := (hq1.cell _).trans q0
      replace z1 := (hq1.cell _).trans z1
      replace q1 := (hq1.cell _).trans q1
      replace z2 := (hq1.cell _).trans z2
      replace q2 := (hq1.cell _).trans q2
      replace z3 := (hq1.cell _).trans z3
      replace q3 := (hq1.cell _).trans q3
      replace z4 := (hq1.cell _).trans z4
      replace q4 := (hq1.cell _).trans q4
      have HQ2 := Lib.hid (hq1)
      clear hq1
      go_wp2
      go_ret
      exact ⟨ret_bool (by simp [show ¬ funP fn = funP gn from fun e => HC.out (FE.out.1 e).2.1]), BE.out.trans (Quiet.below HQ2.out)⟩
  · have va : (fn.name.toList == gn.name.toList) = false := by simpa using ca
    have HA := Lib.hid ca
    clear ca
    go_enter Try.func36, Try.ntmps36
    go_wp2
    go_ret
    exact ⟨ret_bool (by simp [show ¬ funP fn = funP gn from fun e => HA.out (FE.out.1 e).1]), BE.out⟩
end Go.Proofs.Ytffelcidckbohaa
/- slices.EqualFunc at classes and at functions; Equal of programs. No condition. -/
namespace Go.Proofs.Ytffelcidckbohaa
open Go.RowKit
set_option linter.unusedVariables false
set_option maxRecDepth 100000 in
set_option maxHeartbeats 4000000 in
theorem eqclss_any (w : World) (B : Nat) (v1 v2 : Value) (l1 l2 : List ClsD) (hB : B ≤ w.heap.size) (h1 : RdRow 2 (ElC B) B w v1 l1) (h2 : RdRow 2 (ElC B) B w v2 l2) :
    Calls Try.prog 33 #[v1, v2, .func (.func 34) #[] #[]] w fun e w' => e = .returned (.bool (decide (l1.map clsP = l2.map clsP))) ∧ Below w.heap.size w w' := by
  have h1' := h1
  have h2' := h2
  obtain ⟨a1, c1, rfl⟩ := rd_shape h1'
  obtain ⟨a2, c2, rfl⟩ := rd_shape h2'
  have M1 : l1.length ≤ maxLen := by obtain ⟨_, _, _, h, _⟩ := h1; exact h
  unfold maxLen at M1
  have R1 := Lib.hid (fun W (hb : Below B w W) i (hi : i < l1.length) => rd_at (h1.keep hb fun _ _ _ e r => r.keep hb e) hi)
  have R2 := Lib.hid (fun W (hb : Below B w W) i (hi : i < l2.length) => rd_at (h2.keep hb fun _ _ _ e r => r.keep hb e) hi)
  have HB := Lib.hid hB
  clear h1 h2 h1' h2' hB
  by_cases hn : l1.length = l2.length
  · have hne : ((l1.length : Int) != (l2.length : Int)) = false := by simp [hn]
    have HN := Lib.hid hn
    clear hn
    go_enter Try.func33, Try.ntmps33
    go_wp2
    go_loopw [17] (fun i wr => ∃ k : Nat, k ≤ l1.length ∧ i = .int .i64 k ∧ Below w.heap.size w wr ∧ ∀ j, (j1 : j < l1.length) → (j2 : j < l2.length) → j < k → clsP l1[j] = clsP l2[j]) (fun i _ => l1.length - (intOf i).toNat)
    case atStart => exact ⟨0, Nat.zero_le _, rfl, Below.refl _ _, fun j _ _ h => absurd h (by omega)⟩
    case round =>
      obtain ⟨k, hk, rfl, hq, hj⟩ := hrel
      have HJ := Lib.hid hj
      have HQ := Lib.hid hq
      clear hj hq
      by_cases hlt : k < l1.length
      · have hlt2 : k < l2.length := by have := HN.out; omega
        have hlt' : (k : Int) < (l1.length : Int) := by omega
        have i1 : (0 : Int) ≤ (k : Int) ∧ (k : Int) < (l1.length : Int) := ⟨by omega, by omega⟩
        have i2 : (0 : Int) ≤ (k : Int) ∧ (k : Int) < (l2.length : Int) := ⟨by omega, by omega⟩
        have m1 : 0 < l1.length := by omega
        have m2 : 0 < l2.length := by omega
        have hbw : Below B w wr := HQ.out.mono HB.out
        have hsz : B ≤ wr.heap.size := Nat.le_trans HB.out HQ.out.size
        obtain ⟨b1, o1, rfl, _, f0, x1, f1, g1⟩ := R1.out wr hbw k hlt
        obtain ⟨fa1, fc1, rfl⟩ := rd_shape g1
        have HM : Hid (¬ clsP l1[k] = clsP l2[k] → ¬ l1.map clsP = l2.map clsP) := map_ne_at hlt hlt2
        have HE : Hid (∀ (j1 : k < l1.length) (j2 : k < l2.length), clsP (l1[k]'j1) = clsP (l1[k]'hlt) ∧ clsP (l2[k]'j2) = clsP (l2[k]'hlt2)) := fun _ _ => ⟨rfl, rfl⟩
        have R2k := Lib.hid (fun W (hb : Below B w W) => R2.out W hb k hlt2)
        generalize l1[k] = c at *
        generalize l2[k] = d at *
        have bC : Below wr.heap.size wr (wr.alloc (.cells #[.string c.name, .slice fa1 c.fields.length fc1] 52)) := (Below.refl _ _).alloc (Nat.le_refl _) _
        obtain ⟨b2, o2, rfl, _, h0, y1, h1, l1'⟩ := R2k.out _ (hbw.trans (bC.mono hsz))
        obtain ⟨ga1, gc1, rfl⟩ := rd_shape l1'
        have bD : Below wr.heap.size (wr.alloc (.cells #[.string c.name, .slice fa1 c.fields.length fc1] 52)) ((wr.alloc (.cells #[.string c.name, .slice fa1 c.fields.length fc1] 52)).alloc (.cells #[.string d.name, .slice ga1 d.fields.length gc1] 52)) := (Below.refl _ _).alloc (by simp) _
        have bE := bC.trans bD
        have hF0 := bD.mono hsz
        have hF1 := bE.mono hsz
        have kF : Blk ((wr.alloc (.cells #[.string c.name, .slice fa1 c.fields.length fc1] 52)).alloc (.cells #[.string d.name, .slice ga1 d.fields.length gc1] 52)) wr.heap.size #[.string c.name, .slice fa1 c.fields.length fc1] 52 := (Blk.new _ _ _).alloc _
        have kG : Blk ((wr.alloc (.cells #[.string c.name, .slice fa1 c.fields.length fc1] 52)).alloc (.cells #[.string d.name, .slice ga1 d.fields.length gc1] 52)) (wr.heap.size + 1) #[.string d.name, .slice ga1 d.fields.length gc1] 52 := Blk.new' (by simp)
        have CL := Lib.hid (eqcls_any _ B _ _ c d (Nat.le_trans hsz bE.size) (g1.keep hF1 fun _ _ _ e r => r.keep hF1 e) (l1'.keep hF0 fun _ _ _ e r => r.keep hF0 e))
        have BE := Lib.hid bE
        have z0 := kF.val 0 rfl
        have t0 := kG.val 0 rfl
        have z1 := kF.val 1 rfl
        have t1 := kG.val 1 rfl
        clear bC bD bE hF0 hF1 kF kG hbw hsz
        go_wp2_with fail
        refine CL.out.mono ?_
        rintro e9 w6 ⟨rfl, hb6⟩
        have HB6 := Lib.hid (BE.out.trans (hb6.mono BE.out.size))
        clear hb6 CL
        by_cases hy : clsP c = clsP d
        · have hv : decide (clsP c = clsP d) = true := by simpa using hy
          have HY := Lib.hid hy
          clear hy
          go_wp2
          go_roundw
          case rel => exact ⟨k + 1, by omega, by go_num, HQ.out.trans (HB6.out.mono HQ.out.size), fun j j1 j2 j3 => by
            rcases Nat.lt_or_ge j k with h | h
            · exact HJ.out j j1 j2 h
            · obtain rfl : j = k := by omega
              exact (HE.out j1 j2).1.trans (HY.out.trans (HE.out j1 j2).2.symm)⟩
          case measure => simp [intOf]; omega
        · have hv : decide (clsP c = clsP d) = false := by simpa using hy
          have HY := Lib.hid hy
          clear hy
          go_wp2
          go_ret
          exact ⟨ret_bool (by simp [HM.out HY.out]), HQ.out.trans (HB6.out.mono HQ.out.size)⟩
      · have hlt' : ¬ (k : Int) < (l1.length : Int) := by omega
        go_wp2
        go_ret
        exact ⟨ret_bool (by simp [map_eq_of HN.out fun i i1 i2 => HJ.out i i1 i2 (by omega)]), HQ.out⟩
  · have hne : ((l1.length : Int) != (l2.length : Int)) = true := by simp; omega
    have HM := Lib.hid (map_ne_len (f := clsP) hn)
    clear hn
    go_enter Try.func33, Try.ntmps33
    go_wp2
    go_ret
    exact ⟨ret_bool (by simp [HM.out]), Below.refl _ _⟩
set_option maxRecDepth 100000 in
set_option maxHeartbeats 4000000 in
theorem eqfuns_any (w : World) (B : Nat) (v1 v2 : Value) (l1 l2 : List FunD) (hB : B ≤ w.heap.size) (h1 : RdRow 5 (ElU B) B w v1 l1) (h2 : RdRow 5 (ElU B) B w v2 l2) :
    Calls Try.prog 35 #[v1, v2, .func (.func 36) #[] #[]] w fun e w' => e = .returned (.bool (decide (l1.map funP = l2.map funP))) ∧ Below w.heap.size w w' := by
  have h1' := h1
  have h2' := h2
  obtain ⟨a1, c1, rfl⟩ := rd_shape h1'
  obtain ⟨a2, c2, rfl⟩ := rd_shape h2'
  have M1 : l1.length ≤ maxLen := by obtain ⟨_, _, _, h, _⟩ := h1; exact h
  unfold maxLen at M1
  have R1 := Lib.hid (fun W (hb : Below B w W) i (hi : i < l1.length) => rd_at (h1.keep hb fun _ _ _ e r => r.keep hb e) hi)
  have R2 := Lib.hid (fun W (hb : Below B w W) i (hi : i < l2.length) => rd_at (h2.keep hb fun _ _ _ e r => r.keep hb e) hi)
  have HB := Lib.hid hB
  clear h1 h2 h1' h2' hB
  by_cases hn : l1.length = l2.length
  · have hne : ((l1.length : Int) != (l2.length : Int)) = false := by simp [hn]
    have HN := Lib.hid hn
    clear hn
    go_enter Try.func35, Try.ntmps35
    go_wp2
    go_loopw [17] (fun i wr => ∃ k : Nat, k ≤ l1.length ∧ i = .int .i64 k ∧ Below w.heap.size w wr ∧ ∀ j, (j1 : j < l1.length) → (j2 : j < l2.length) → j < k → funP l1[j] = funP l2[j]) (fun i _ => l1.length - (intOf i).toNat)
    case atStart => exact ⟨0, Nat.zero_le _, rfl, Below.refl _ _, fun j _ _ h => absurd h (by omega)⟩
    case round =>
      obtain ⟨k, hk, rfl, hq, hj⟩ := hrel
      have HJ := Lib.hid hj
      have HQ := Lib.hid hq
      clear hj hq
      by_cases hlt : k < l1.length
      · have hlt2 : k < l2.length := by have := HN.out; omega
        have hlt' : (k : Int) < (l1.length : Int) := by omega
        have i1 : (0 : Int) ≤ (k : Int) ∧ (k : Int) < (l1.length : Int) := ⟨by omega, by omega⟩
        have i2 : (0 : Int) ≤ (k : Int) ∧ (k : Int) < (l2.length : Int) := ⟨by omega, by omega⟩
        have m1 : 0 < l1.length := by omega
        have m2 : 0 < l2.length := by omega
        have hbw : Below B w wr := HQ.out.mono HB.out
        have hsz : B ≤ wr.heap.size := Nat.le_trans HB.out HQ.out.size
        obtain ⟨b1, o1, rfl, _, f0, ⟨x1, f1, g1⟩, ⟨f2, _⟩, ⟨x3, f3, g3⟩, x4, f4, g4⟩ := R1.out wr hbw k hlt
        obtain ⟨fa1, fc1, rfl⟩ := rd_shape g1
        obtain ⟨fa3, fc3, rfl⟩ := rd_shape g3
        obtain ⟨fa4, fc4, rfl⟩ := rd_shape g4
        have HM : Hid (¬ funP l1[k] = funP l2[k] → ¬ l1.map funP = l2.map funP) := map_ne_at hlt hlt2
        have HE : Hid (∀ (j1 : k < l1.length) (j2 : k < l2.length), funP (l1[k]'j1) = funP (l1[k]'hlt) ∧ funP (l2[k]'j2) = funP (l2[k]'hlt2)) := fun _ _ => ⟨rfl, rfl⟩
        have R2k := Lib.hid (fun W (hb : Below B w W) => R2.out W hb k hlt2)
        generalize l1[k] = c at *
        generalize l2[k] = d at *
        have bC : Below wr.heap.size wr (wr.alloc (.cells #[.string c.name, .slice fa1 c.params.length fc1, .int .i64 c.result, .slice fa3 c.locals.length fc3, .slice fa4 c.code.length fc4] 45)) := (Below.refl _ _).alloc (Nat.le_refl _) _
        obtain ⟨b2, o2, rfl, _, h0, ⟨y1, h1, m1'⟩, ⟨h2, _⟩, ⟨y3, h3, m3'⟩, y4, h4, m4'⟩ := R2k.out _ (hbw.trans (bC.mono hsz))
        obtain ⟨ga1, gc1, rfl⟩ := rd_shape m1'
        obtain ⟨ga3, gc3, rfl⟩ := rd_shape m3'
        obtain ⟨ga4, gc4, rfl⟩ := rd_shape m4'
        have bD : Below wr.heap.size (wr.alloc (.cells #[.string c.name, .slice fa1 c.params.length fc1, .int .i64 c.result, .slice fa3 c.locals.length fc3, .slice fa4 c.code.length fc4] 45)) ((wr.alloc (.cells #[.string c.name, .slice fa1 c.params.length fc1, .int .i64 c.result, .slice fa3 c.locals.length fc3, .slice fa4 c.code.length fc4] 45)).alloc (.cells #[.string d.name, .slice ga1 d.params.length gc1, .int .i64 d.result, .slice ga3 d.locals.length gc3, .slice ga4 d.code.length gc4] 45)) := (Below.refl _ _).alloc (by simp) _
        have bE := bC.trans bD
        have hF0 := bD.mono hsz
        have hF1 := bE.mono hsz
        have kF : Blk ((wr.alloc (.cells #[.string c.name, .slice fa1 c.params.length fc1, .int .i64 c.result, .slice fa3 c.locals.length fc3, .slice fa4 c.code.length fc4] 45)).alloc (.cells #[.string d.name, .slice ga1 d.params.length gc1, .int .i64 d.result, .slice ga3 d.locals.length gc3, .slice ga4 d.code.length gc4] 45)) wr.heap.size #[.string c.name, .slice fa1 c.params.length fc1, .int .i64 c.result, .slice fa3 c.locals.length fc3, .slice fa4 c.code.length fc4] 45 := (Blk.new _ _ _).alloc _
        have kG : Blk ((wr.alloc (.cells #[.string c.name, .slice fa1 c.params.length fc1, .int .i64 c.result, .slice fa3 c.locals.length fc3, .slice fa4 c.code.length fc4] 45)).alloc (.cells #[.string d.name, .slice ga1 d.params.length gc1, .int .i64 d.result, .slice ga3 d.locals.length gc3, .slice ga4 d.code.length gc4] 45)) (wr.heap.size + 1) #[.string d.name, .slice ga1 d.params.length gc1, .int .i64 d.result, .slice ga3 d.locals.length gc3, .slice ga4 d.code.length gc4] 45 := Blk.new' (by simp)
        have CL := Lib.hid (eqfun_any _ B _ _ _ _ _ _ c d (Nat.le_trans hsz bE.size) (g1.keep hF1 fun _ _ _ e r => r.keep hF1 e) (g3.keep hF1 fun _ _ _ e r => r.keep hF1 e) (g4.keep hF1 fun _ _ _ e r => r.keep hF1 e) (m1'.keep hF0 fun _ _ _ e r => r.keep hF0 e) (m3'.keep hF0 fun _ _ _ e r => r.keep hF0 e) (m4'.keep hF0 fun _ _ _ e r => r.keep hF0 e))
        have BE := Lib.hid bE
        have z0 := kF.val 0 rfl
        have t0 := kG.val 0 rfl
        have z1 := kF.val 1 rfl
        have t1 := kG.val 1 rfl
        have z2 := kF.val 2 rfl
        have t2 := kG.val 2 rfl
        have z3 := kF.val 3 rfl
        have t3 := kG.val 3 rfl
        have z4 := kF.val 4 rfl
        have t4 := kG.val 4 rfl
        clear bC bD bE hF0 hF1 kF kG hbw hsz
        go_wp2_with fail
        refine CL.out.mono ?_
        rintro e9 w6 ⟨rfl, hb6⟩
        have HB6 := Lib.hid (BE.out.trans (hb6.mono BE.out.size))
        clear hb6 CL
        by_cases hy : funP c = funP d
        · have hv : decide (funP c = funP d) = true := by simpa using hy
          have HY := Lib.hid hy
          clear hy
          go_wp2
          go_roundw
          case rel => exact ⟨k + 1, by omega, by go_num, HQ.out.trans (HB6.out.mono HQ.out.size), fun j j1 j2 j3 => by
            rcases Nat.lt_or_ge j k with h | h
            · exact HJ.out j j1 j2 h
            · obtain rfl : j = k := by omega
              exact (HE.out j1 j2).1.trans (HY.out.trans (HE.out j1 j2).2.symm)⟩
          case measure => simp [intOf]; omega
        · have hv : decide (funP c = funP d) = false := by simpa using hy
          have HY := Lib.hid hy
          clear hy
          go_wp2
          go_ret
          exact ⟨ret_bool (by simp [HM.out HY.out]), HQ.out.trans (HB6.out.mono HQ.out.size)⟩
      · have hlt' : ¬ (k : Int) < (l1.length : Int) := by omega
        go_wp2
        go_ret
        exact ⟨ret_bool (by simp [map_eq_of HN.out fun i i1 i2 => HJ.out i i1 i2 (by omega)]), HQ.out⟩
  · have hne : ((l1.length : Int) != (l2.length : Int)) = true := by simp; omega
    have HM := Lib.hid (map_ne_len (f := funP) hn)
    clear hn
    go_enter Try.func35, Try.ntmps35
    go_wp2
    go_ret
    exact ⟨ret_bool (by simp [HM.out]), Below.refl _ _⟩
set_option maxRecDepth 100000 in
set_option maxHeartbeats 4000000 in
theorem equal_any (w : World) (B : Nat) (u0 u1 t0 t1 : Value) (p q : PrgD) (hB : B ≤ w.heap.size) (h1 : RdPrg B w u0 u1 p) (h2 : RdPrg B w t0 t1 q) :
    Calls Try.prog 11 #[.agg #[u0, u1], .agg #[t0, t1]] w fun e w' => e = .returned (.bool (decide (prgP p = prgP q))) ∧ Below w.heap.size w w' := by
  obtain ⟨a0, c0, rfl⟩ := rd_shape h1.1
  obtain ⟨a1, c1, rfl⟩ := rd_shape h1.2
  obtain ⟨d0, e0, rfl⟩ := rd_shape h2.1
  obtain ⟨d1, e1, rfl⟩ := rd_shape h2.2
  have k1 : Blk ((w.alloc (.cells #[.slice a0 p.classes.length c0, .slice a1 p.funcs.length c1] 27)).alloc (.cells #[.slice d0 q.classes.length e0, .slice d1 q.funcs.length e1] 27)) w.heap.size #[.slice a0 p.classes.length c0, .slice a1 p.funcs.length c1] 27 := (Blk.new _ _ _).alloc _
  have k2 : Blk ((w.alloc (.cells #[.slice a0 p.classes.length c0, .slice a1 p.funcs.length c1] 27)).alloc (.cells #[.slice d0 q.classes.length e0, .slice d1 q.funcs.length e1] 27)) (w.heap.size + 1) #[.slice d0 q.classes.length e0, .slice d1 q.funcs.length e1] 27 := Blk.new' (by simp)
  have hb0 : Below w.heap.size w ((w.alloc (.cells #[.slice a0 p.classes.length c0, .slice a1 p.funcs.length c1] 27)).alloc (.cells #[.slice d0 q.classes.length e0, .slice d1 q.funcs.length e1] 27)) := ((Below.refl _ _).alloc (Nat.le_refl _) _).alloc (by simp) _
  have CS := Lib.hid (eqclss_any _ B _ _ _ _ (Nat.le_trans hB hb0.size) (h1.keep (hb0.mono hB)).1 (h2.keep (hb0.mono hB)).1)
  have FS := Lib.hid (fun W (hb : Below B w W) (hs : B ≤ W.heap.size) => eqfuns_any W B _ _ _ _ hs (h1.keep hb).2 (h2.keep hb).2)
  have HB := Lib.hid hB
  have PE := Lib.hid (prgP_eq (p := p) (q := q))
  have hb := Lib.hid hb0
  have x0 := k1.val 0 rfl
  have y0 := k2.val 0 rfl
  clear h1 h2 hB hb0
  go_enter Try.func11, Try.ntmps11
  go_wp2_with fail
  refine CS.out.mono ?_
  rintro e9 w1 ⟨rfl, hb1⟩
  have n1 := k1.grew hb1
  have n2 := k2.grew hb1
  have HW := Lib.hid (hb.out.trans (hb1.mono hb.out.size))
  clear hb1 hb CS x0 y0 k1 k2
  have x1 := n1.val 1 rfl
  have y1 := n2.val 1 rfl
  by_cases hcl : p.classes.map clsP = q.classes.map clsP
  · have hcl' : decide (p.classes.map clsP = q.classes.map clsP) = true := by simpa using hcl
    have HCL := Lib.hid hcl
    clear hcl
    have FX := Lib.hid (FS.out w1 (HW.out.mono HB.out) (Nat.le_trans HB.out HW.out.size))
    go_wp2_with fail
    refine FX.out.mono ?_
    rintro e9 w2 ⟨rfl, hb2⟩
    have HW2 := Lib.hid (HW.out.trans (hb2.mono HW.out.size))
    clear hb2
    go_wp2
    go_ret
    exact ⟨ret_bool (by rw [PE.out]; simp [HCL.out]), HW2.out⟩
  · have hcl' : decide (p.classes.map clsP = q.classes.map clsP) = false := by simpa using hcl
    have HCL := Lib.hid hcl
    clear hcl
    go_wp2
    go_ret
    exact ⟨ret_bool (by rw [PE.out]; simp [HCL.out]), HW.out⟩
end Go.Proofs.Ytffelcidckbohaa
