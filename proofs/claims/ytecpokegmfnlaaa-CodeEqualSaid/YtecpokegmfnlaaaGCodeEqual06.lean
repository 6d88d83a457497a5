/- Texts of this seat, one behind the other: each says at its head what it holds. No condition of its own. -/
import Derived.Test.YtecpokegmfnlaaaGCodeEqual05
/- The document's Same of two programs. No condition. -/
namespace Go.Proofs.Ytecpokegmfnlaaa
open Go.RowKit
set_option linter.unusedVariables false
abbrev InsT := Int × Int × Int
abbrev FunT := List UInt8 × List Int × Int × List Int × List InsT
abbrev ClsT := List UInt8 × List (List UInt8 × Int)
instance decInsT : DecidableEq InsT := instDecidableEqProd
instance decFunT : DecidableEq FunT := @instDecidableEqProd _ _ inferInstance (@instDecidableEqProd _ _ inferInstance (@instDecidableEqProd _ _ inferInstance (@instDecidableEqProd _ _ inferInstance (inferInstanceAs (DecidableEq (List InsT))))))
instance decClsT : DecidableEq ClsT := inferInstance
instance decPrgT : DecidableEq (List ClsT × List FunT) := @instDecidableEqProd _ _ inferInstance (inferInstanceAs (DecidableEq (List FunT)))
theorem insP_eq {f g : InsD} : (f.op == g.op && (f.a == g.a && f.b == g.b)) = decide (insP f = insP g) := by
  unfold insP
  by_cases h1 : f.op = g.op <;> by_cases h2 : f.a = g.a <;> by_cases h3 : f.b = g.b <;> simp [h1, h2, h3]
theorem prgP_eq {p q : PrgD} : decide (prgP p = prgP q) = (decide (p.classes.map clsP = q.classes.map clsP) && decide (p.funcs.map funP = q.funcs.map funP)) := by
  unfold prgP
  by_cases h1 : p.classes.map clsP = q.classes.map clsP <;> by_cases h2 : p.funcs.map funP = q.funcs.map funP <;> simp [h1, h2]
theorem funP_eq {f g : FunD} : funP f = funP g ↔ f.name.toList = g.name.toList ∧ f.params = g.params ∧ f.result = g.result ∧ f.locals = g.locals ∧ f.code.map insP = g.code.map insP := by
  unfold funP
  simp only [Prod.mk.injEq]
set_option maxRecDepth 100000 in
set_option maxHeartbeats 8000000 in
theorem rsame_any (w : World) (B : Nat) (u0 u1 t0 t1 : Value) (p q : PrgD) (hB : B ≤ w.heap.size) (h1 : RdPrg B w u0 u1 p) (h2 : RdPrg B w t0 t1 q) :
    Calls Try.prog 18 #[.agg #[u0, u1], .agg #[t0, t1]] w fun e w' => e = .returned (.bool (decide (prgP p = prgP q))) ∧ Below w.heap.size w w' := by
  obtain ⟨a0, c0, rfl⟩ := rd_shape h1.1
  obtain ⟨a1, c1, rfl⟩ := rd_shape h1.2
  obtain ⟨d0, e0, rfl⟩ := rd_shape h2.1
  obtain ⟨d1, e1, rfl⟩ := rd_shape h2.2
  have M1 : p.funcs.length ≤ maxLen := by obtain ⟨_, _, _, h, _⟩ := h1.2; exact h
  unfold maxLen at M1
  have k1 : Blk ((w.alloc (.cells #[.slice a0 p.classes.length c0, .slice a1 p.funcs.length c1] 29)).alloc (.cells #[.slice d0 q.classes.length e0, .slice d1 q.funcs.length e1] 29)) w.heap.size #[.slice a0 p.classes.length c0, .slice a1 p.funcs.length c1] 29 := (Blk.new _ _ _).alloc _
  have k2 : Blk ((w.alloc (.cells #[.slice a0 p.classes.length c0, .slice a1 p.funcs.length c1] 29)).alloc (.cells #[.slice d0 q.classes.length e0, .slice d1 q.funcs.length e1] 29)) (w.heap.size + 1) #[.slice d0 q.classes.length e0, .slice d1 q.funcs.length e1] 29 := Blk.new' (by simp)
  have hb0 : Below w.heap.size w ((w.alloc (.cells #[.slice a0 p.classes.length c0, .slice a1 p.funcs.length c1] 29)).alloc (.cells #[.slice d0 q.classes.length e0, .slice d1 q.funcs.length e1] 29)) := ((Below.refl _ _).alloc (Nat.le_refl _) _).alloc (by simp) _
  have CS := Lib.hid (rsclasses_any _ B _ _ _ _ (Nat.le_trans hB hb0.size) (h1.keep (hb0.mono hB)).1 (h2.keep (hb0.mono hB)).1)
  have R1 := Lib.hid (fun W (hb : Below B w W) i (hi : i < p.funcs.length) => rd_at (h1.keep hb).2 hi)
  have R2 := Lib.hid (fun W (hb : Below B w W) i (hi : i < q.funcs.length) => rd_at (h2.keep hb).2 hi)
  have HB := Lib.hid hB
  have PE := Lib.hid (prgP_eq (p := p) (q := q))
  have hb := Lib.hid hb0
  have x0 := k1.val 0 rfl
  have y0 := k2.val 0 rfl
  clear h1 h2 hB hb0
  go_enter Try.func18, Try.ntmps18
  go_wp2_with fail
  refine CS.out.mono ?_
  rintro e9 w1 ⟨rfl, hb1⟩
  have n1 := k1.grew hb1
  have n2 := k2.grew hb1
  have HW := Lib.hid (hb.out.trans (hb1.mono hb.out.size))
  clear hb1 hb CS x0 y0 k1 k2
  have x0 := n1.val 0 rfl
  have x1 := n1.val 1 rfl
  have y0 := n2.val 0 rfl
  have y1 := n2.val 1 rfl
  have hG := guard_ins
  by_cases hcl : p.classes.map clsP = q.classes.map clsP
  · have hcl' : decide (p.classes.map clsP = q.classes.map clsP) = true := by simpa using hcl
    have HCL := Lib.hid hcl
    clear hcl
    by_cases hn : p.funcs.length = q.funcs.length
    · have hne : ((p.funcs.length : Int) != (q.funcs.length : Int)) = false := by simp [hn]
      have HN := Lib.hid hn
      have HK1 := Lib.hid n1
      have HK2 := Lib.hid n2
      clear hn n1 n2
      go_wp2
      go_loopw [5] (fun i wr => ∃ k : Nat, k ≤ p.funcs.length ∧ i = .int .i64 k ∧ Below w1.heap.size w1 wr ∧ ∀ j, (j1 : j < p.funcs.length) → (j2 : j < q.funcs.length) → j < k → funP p.funcs[j] = funP q.funcs[j]) (fun i _ => p.funcs.length - (intOf i).toNat)
      case atStart => exact ⟨0, Nat.zero_le _, rfl, Below.refl _ _, fun j _ _ h => absurd h (by omega)⟩
      case round =>
        obtain ⟨k, hk, rfl, hq, hj⟩ := hrel
        have HJ := Lib.hid hj
        have HQ := Lib.hid hq
        have k1 := HK1.out.grew hq
        have k2 := HK2.out.grew hq
        clear hj hq x0 x1 y0 y1
        have x1 := k1.val 1 rfl
        have y1 := k2.val 1 rfl
        by_cases hlt : k < p.funcs.length
        · have hlt2 : k < q.funcs.length := by have := HN.out; omega
          have hlt' : (k : Int) < (p.funcs.length : Int) := by omega
          have i1 : (0 : Int) ≤ (k : Int) ∧ (k : Int) < (p.funcs.length : Int) := ⟨by omega, by omega⟩
          have i2 : (0 : Int) ≤ (k : Int) ∧ (k : Int) < (q.funcs.length : Int) := ⟨by omega, by omega⟩
          have m1 : 0 < p.funcs.length := by omega
          have m2 : 0 < q.funcs.length := by omega
          have hbw : Below B w wr := (HW.out.trans (HQ.out.mono HW.out.size)).mono HB.out
          obtain ⟨b1, o1, rfl, _, f0, ⟨fv1, f1, g1⟩, ⟨f2, _⟩, ⟨fv3, f3, g3⟩, fv4, f4, g4⟩ := R1.out wr hbw k hlt
          have HM : Hid (¬ funP p.funcs[k] = funP q.funcs[k] → ¬ p.funcs.map funP = q.funcs.map funP) := map_ne_at hlt hlt2
          have HE : Hid (∀ (j1 : k < p.funcs.length) (j2 : k < q.funcs.length), funP (p.funcs[k]'j1) = funP (p.funcs[k]'hlt) ∧ funP (q.funcs[k]'j2) = funP (q.funcs[k]'hlt2)) := fun _ _ => ⟨rfl, rfl⟩
          obtain ⟨fa1, fc1, rfl⟩ := rd_shape g1
          obtain ⟨fa3, fc3, rfl⟩ := rd_shape g3
          obtain ⟨fa4, fc4, rfl⟩ := rd_shape g4
          have R2k := Lib.hid (fun W (hb : Below B w W) => R2.out W hb k hlt2)
          generalize p.funcs[k] = fn at *
          generalize q.funcs[k] = gn at *
          have bC : Below wr.heap.size wr (wr.alloc (.cells #[.string fn.name, .slice fa1 fn.params.length fc1, .int .i64 fn.result, .slice fa3 fn.locals.length fc3, .slice fa4 fn.code.length fc4] 54)) := (Below.refl _ _).alloc (Nat.le_refl _) _
          have kC : Blk (wr.alloc (.cells #[.string fn.name, .slice fa1 fn.params.length fc1, .int .i64 fn.result, .slice fa3 fn.locals.length fc3, .slice fa4 fn.code.length fc4] 54)) wr.heap.size #[.string fn.name, .slice fa1 fn.params.length fc1, .int .i64 fn.result, .slice fa3 fn.locals.length fc3, .slice fa4 fn.code.length fc4] 54 := Blk.new _ _ _
          have hsz : B ≤ wr.heap.size := Nat.le_trans HB.out (Nat.le_trans HW.out.size HQ.out.size)
          have hbw2 : Below B w _ := hbw.trans (bC.mono hsz)
          have y1a := (k2.grew bC).val 1 rfl
          have G1 := Lib.hid (fun W (hb : Below B wr W) => g1.keep hb fun _ _ _ e r => r.keep hb e)
          have G3 := Lib.hid (fun W (hb : Below B wr W) => g3.keep hb fun _ _ _ e r => r.keep hb e)
          have G4 := Lib.hid (fun W (hb : Below B wr W) => g4.keep hb fun _ _ _ e r => r.keep hb e)
          have BC := Lib.hid bC
          have BW := Lib.hid hbw
          have HSZ := Lib.hid hsz
          have K1 := Lib.hid k1
          have K2 := Lib.hid k2
          clear g1 g3 g4 bC hbw k1 k2 hsz
          obtain ⟨b2, o2, rfl, _, h0, ⟨gv1, h1, l1⟩, ⟨h2, _⟩, ⟨gv3, h3, l3⟩, gv4, h4, l4⟩ := R2k.out _ hbw2
          obtain ⟨ga1, gc1, rfl⟩ := rd_shape l1
          obtain ⟨ga3, gc3, rfl⟩ := rd_shape l3
          obtain ⟨ga4, gc4, rfl⟩ := rd_shape l4
          have bD : Below wr.heap.size (wr.alloc (.cells #[.string fn.name, .slice fa1 fn.params.length fc1, .int .i64 fn.result, .slice fa3 fn.locals.length fc3, .slice fa4 fn.code.length fc4] 54)) ((wr.alloc (.cells #[.string fn.name, .slice fa1 fn.params.length fc1, .int .i64 fn.result, .slice fa3 fn.locals.length fc3, .slice fa4 fn.code.length fc4] 54)).alloc (.cells #[.string gn.name, .slice ga1 gn.params.length gc1, .int .i64 gn.result, .slice ga3 gn.locals.length gc3, .slice ga4 gn.code.length gc4] 54)) := (Below.refl _ _).alloc (by simp) _
          have bE := BC.out.trans bD
          have kF : Blk ((wr.alloc (.cells #[.string fn.name, .slice fa1 fn.params.length fc1, .int .i64 fn.result, .slice fa3 fn.locals.length fc3, .slice fa4 fn.code.length fc4] 54)).alloc (.cells #[.string gn.name, .slice ga1 gn.params.length gc1, .int .i64 gn.result, .slice ga3 gn.locals.length gc3, .slice ga4 gn.code.length gc4] 54)) wr.heap.size #[.string fn.name, .slice fa1 fn.params.length fc1, .int .i64 fn.result, .slice fa3 fn.locals.length fc3, .slice fa4 fn.code.length fc4] 54 := kC.alloc _
          have kG : Blk ((wr.alloc (.cells #[.string fn.name, .slice fa1 fn.params.length fc1, .int .i64 fn.result, .slice fa3 fn.locals.length fc3, .slice fa4 fn.code.length fc4] 54)).alloc (.cells #[.string gn.name, .slice ga1 gn.params.length gc1, .int .i64 gn.result, .slice ga3 gn.locals.length gc3, .slice ga4 gn.code.length gc4] 54)) (wr.heap.size + 1) #[.string gn.name, .slice ga1 gn.params.length gc1, .int .i64 gn.result, .slice ga3 gn.locals.length gc3, .slice ga4 gn.code.length gc4] 54 := Blk.new' (by simp)
          have hF0 := bD.mono HSZ.out
          have hF1 := bE.mono HSZ.out
          have IN1 := Lib.hid (rsints_any _ B _ _ _ _ (G1.out _ hF1) (l1.keep hF0 fun _ _ _ e r => r.keep hF0 e))
          have IN2 := Lib.hid (fun W (hq : Quiet ((wr.alloc (.cells #[.string fn.name, .slice fa1 fn.params.length fc1, .int .i64 fn.result, .slice fa3 fn.locals.length fc3, .slice fa4 fn.code.length fc4] 54)).alloc (.cells #[.string gn.name, .slice ga1 gn.params.length gc1, .int .i64 gn.result, .slice ga3 gn.locals.length gc3, .slice ga4 gn.code.length gc4] 54)) W) => rsints_any W B _ _ _ _ (G3.out W (hF1.trans (Quiet.below hq))) (l3.keep (hF0.trans (Quiet.below hq)) fun _ _ _ e r => r.keep (hF0.trans (Quiet.below hq)) e))
          have C1 := Lib.hid (fun i (hi : i < fn.code.length) => rd_at (G4.out _ hF1) hi)
          have C2 := Lib.hid (fun i (hi : i < gn.code.length) => rd_at (l4.keep hF0 fun _ _ _ e r => r.keep hF0 e) hi)
          have FE := Lib.hid (@funP_eq fn gn)
          have BE := Lib.hid bE
          have KF := Lib.hid kF
          have KG := Lib.hid kG
          have z0 := kF.val 0 rfl
          have z1 := kF.val 1 rfl
          have z2 := kF.val 2 rfl
          have z3 := kF.val 3 rfl
          have z4 := kF.val 4 rfl
          have q0 := kG.val 0 rfl
          have q1 := kG.val 1 rfl
          have q2 := kG.val 2 rfl
          have q3 := kG.val 3 rfl
          have q4 := kG.val 4 rfl
          have M4 : fn.code.length ≤ maxLen := by obtain ⟨_, _, _, h, _⟩ := G4.out _ (Below.refl _ _); exact h
          unfold maxLen at M4
          clear l1 l3 l4 bD bE kF kG kC hF0 hF1 hbw2
          by_cases ca : fn.name.toList = gn.name.toList
          · have va : (fn.name.toList == gn.name.toList) = true := by simpa using ca
            have HA := Lib.hid ca
            clear ca
            by_cases cb : fn.result = gn.result
            · have vb : (fn.result != gn.result) = false := by simpa using cb
              have HBB := Lib.hid cb
              clear cb
              by_cases cc : fn.params = gn.params
              · have vc : decide (fn.params = gn.params) = true := by simpa using cc
                have HC := Lib.hid cc
                clear cc
                by_cases cd : fn.locals = gn.locals
                · have vd : decide (fn.locals = gn.locals) = true := by simpa using cd
                  have HD := Lib.hid cd
                  clear cd
                  by_cases ce : fn.code.length = gn.code.length
                  · have ve : ((fn.code.length : Int) != (gn.code.length : Int)) = false := by simp [ce]
                    have HEE := Lib.hid ce
                    clear ce
                    go_wp2_with fail
                    refine IN1.out.mono ?_
                    rintro e9 w3 ⟨rfl, hq3⟩
                    replace z0 := (hq3.cell _).trans z0
                    replace q0 := (hq3.cell _).trans q0
                    replace z1 := (hq3.cell _).trans z1
                    replace q1 := (hq3.cell _).trans q1
                    replace z2 := (hq3.cell _).trans z2
                    replace q2 := (hq3.cell _).trans q2
                    replace z3 := (hq3.cell _).trans z3
                    replace q3 := (hq3.cell _).trans q3
                    replace z4 := (hq3.cell _).trans z4
                    replace q4 := (hq3.cell _).trans q4
                    have HQ3 := Lib.hid hq3
                    clear hq3
                    have IN := Lib.hid (IN2.out w3 HQ3.out)
                    go_wp2_with fail
                    refine IN.out.mono ?_
                    rintro e9 w4 ⟨rfl, hq4⟩
                    replace z0 := (hq4.cell _).trans z0
                    replace q0 := (hq4.cell _).trans q0
                    replace z1 := (hq4.cell _).trans z1
                    replace q1 := (hq4.cell _).trans q1
                    replace z2 := (hq4.cell _).trans z2
                    replace q2 := (hq4.cell _).trans q2
                    replace z3 := (hq4.cell _).trans z3
                    replace q3 := (hq4.cell _).trans q3
                    replace z4 := (hq4.cell _).trans z4
                    replace q4 := (hq4.cell _).trans q4
                    have HQ4 := Lib.hid (HQ3.out.trans hq4)
                    clear hq4
                    go_wp2
                    go_loopw [8] (fun i wr2 => ∃ x : Nat, x ≤ fn.code.length ∧ i = .int .i64 x ∧ Quiet w4 wr2 ∧ ∀ j, (j1 : j < fn.code.length) → (j2 : j < gn.code.length) → j < x → insP fn.code[j] = insP gn.code[j]) (fun i _ => fn.code.length - (intOf i).toNat)
                    case atStart => exact ⟨0, Nat.zero_le _, rfl, Quiet.refl _, fun j _ _ h => absurd h (by omega)⟩
                    case round =>
                      obtain ⟨x, hx, rfl, hqx, hjx⟩ := hrel
                      have HJX := Lib.hid hjx
                      have HQX := Lib.hid (HQ4.out.trans hqx)
                      have HQY := Lib.hid hqx
                      replace z4 := (hqx.cell _).trans z4
                      replace q4 := (hqx.cell _).trans q4
                      clear hjx hqx z0 z1 z2 z3 q0 q1 q2 q3
                      by_cases hltx : x < fn.code.length
                      · have hltx2 : x < gn.code.length := by have := HEE.out; omega
                        obtain ⟨b4, o4, rfl, _, r0, r1, r2, _⟩ := C1.out x hltx
                        obtain ⟨b5, o5, rfl, _, s0, s1, s2, _⟩ := C2.out x hltx2
                        replace r0 := (HQX.out.cell _).trans r0
                        replace r1 := (HQX.out.cell _).trans r1
                        replace r2 := (HQX.out.cell _).trans r2
                        replace s0 := (HQX.out.cell _).trans s0
                        replace s1 := (HQX.out.cell _).trans s1
                        replace s2 := (HQX.out.cell _).trans s2
                        have hltx' : (x : Int) < (fn.code.length : Int) := by omega
                        have hltx2' : (x : Int) < (gn.code.length : Int) := by omega
                        have hgex' : (0 : Int) ≤ (x : Int) := by omega
                        have FP := Lib.hid (@insP_eq fn.code[x] gn.code[x])
                        have hE := fun W => neq_ins W fn.code[x].op fn.code[x].a fn.code[x].b gn.code[x].op gn.code[x].a gn.code[x].b
                        have HMX : Hid (¬ insP fn.code[x] = insP gn.code[x] → ¬ fn.code.map insP = gn.code.map insP) := map_ne_at hltx hltx2
                        have HEX : Hid (∀ (j1 : x < fn.code.length) (j2 : x < gn.code.length), insP (fn.code[x]'j1) = insP (fn.code[x]'hltx) ∧ insP (gn.code[x]'j2) = insP (gn.code[x]'hltx2)) := fun _ _ => ⟨rfl, rfl⟩
                        generalize fn.code[x] = e1 at *
                        generalize gn.code[x] = e2 at *
                        rcases e1 with ⟨ea, eb, ec⟩
                        rcases e2 with ⟨ga, gb, gc⟩
                        simp only at r0 r1 r2 s0 s1 s2 hE
                        by_cases hy : insP ⟨ea, eb, ec⟩ = insP ⟨ga, gb, gc⟩
                        · have hv : (ea == ga && (eb == gb && ec == gc)) = true := by rw [show (ea == ga && (eb == gb && ec == gc)) = decide (insP ⟨ea, eb, ec⟩ = insP ⟨ga, gb, gc⟩) from FP.out]; simpa using hy
                          have HY := Lib.hid hy
                          clear hy
                          go_wp2
                          go_quiet (fail)
                          go_wp2
                          go_roundw
                          case rel => exact ⟨x + 1, by omega, by go_num, HQY.out.trans ⟨_, rfl⟩, fun j j1 j2 j3 => by
                            rcases Nat.lt_or_ge j x with h | h
                            · exact HJX.out j j1 j2 h
                            · obtain rfl : j = x := by omega
                              exact (HEX.out j1 j2).1.trans (HY.out.trans (HEX.out j1 j2).2.symm)⟩
                          case measure => simp [intOf]; omega
                        · have hv : (ea == ga && (eb == gb && ec == gc)) = false := by rw [show (ea == ga && (eb == gb && ec == gc)) = decide (insP ⟨ea, eb, ec⟩ = insP ⟨ga, gb, gc⟩) from FP.out]; simpa using hy
                          have HY := Lib.hid hy
                          clear hy
                          go_wp2
                          go_quiet (fail)
                          go_wp2
                          go_ret
                          exact ⟨ret_bool (by rw [PE.out]; simp [HM.out fun e => HMX.out HY.out (FE.out.1 e).2.2.2.2]), HW.out.trans ((HQ.out.trans ((BE.out.trans (Quiet.below (HQX.out.trans ⟨_, rfl⟩))).mono HQ.out.size)).mono HW.out.size)⟩
                      · have hltx' : ¬ (x : Int) < (fn.code.length : Int) := by omega
                        have HF : Hid (funP fn = funP gn) := FE.out.2 ⟨HA.out, HC.out, HBB.out, HD.out, map_eq_of HEE.out fun i i1 i2 => HJX.out i i1 i2 (by omega)⟩
                        go_wp2
                        go_roundw
                        case rel => exact ⟨k + 1, by omega, by go_num, HQ.out.trans ((BE.out.trans (Quiet.below HQX.out)).mono HQ.out.size), fun j j1 j2 j3 => by
                          rcases Nat.lt_or_ge j k with h | h
                          · exact HJ.out j j1 j2 h
                          · obtain rfl : j = k := by omega
                            exact (HE.out j1 j2).1.trans (HF.out.trans (HE.out j1 j2).2.symm)⟩
                        case measure => simp [intOf]; omega
                  · have ve : ((fn.code.length : Int) != (gn.code.length : Int)) = true := by simp; omega
                    have HEE := Lib.hid ce
                    clear ce
                    go_wp2_with fail
                    refine IN1.out.mono ?_
                    rintro e9 w3 ⟨rfl, hq3⟩
                    replace z0 := (hq3.cell _).trans z0
                    replace q0 := (hq3.cell _).trans q0
                    replace z1 := (hq3.cell _).trans z1
                    replace q1 := (hq3.cell _).trans q1
                    replace z2 := (hq3.cell _).trans z2
                    replace q2 := (hq3.cell _).trans q2
                    replace z3 := (hq3.cell _).trans z3
                    replace q3 := (hq3.cell _).trans q3
                    replace z4 := (hq3.cell _).trans z4
                    replace q4 := (hq3.cell _).trans q4
                    have HQ3 := Lib.hid hq3
                    clear hq3
                    have IN := Lib.hid (IN2.out w3 HQ3.out)
                    go_wp2_with fail
                    refine IN.out.mono ?_
                    rintro e9 w4 ⟨rfl, hq4⟩
                    replace z0 := (hq4.cell _).trans z0
                    replace q0 := (hq4.cell _).trans q0
                    replace z1 := (hq4.cell _).trans z1
                    replace q1 := (hq4.cell _).trans q1
                    replace z2 := (hq4.cell _).trans z2
                    replace q2 := (hq4.cell _).trans q2
                    replace z3 := (hq4.cell _).trans z3
                    replace q3 := (hq4.cell _).trans q3
                    replace z4 := (hq4.cell _).trans z4
                    replace q4 := (hq4.cell _).trans q4
                    have HQ4 := Lib.hid (HQ3.out.trans hq4)
                    clear hq4
                    go_wp2
                    go_ret
                    exact ⟨ret_bool (by rw [PE.out]; simp [HM.out fun e => HEE.out (by simpa using congrArg List.length (FE.out.1 e).2.2.2.2)]), HW.out.trans ((HQ.out.trans ((BE.out.trans (Quiet.below HQ4.out)).mono HQ.out.size)).mono HW.out.size)⟩
                · have vd : decide (fn.locals = gn.locals) = false := by simpa using cd
                  have HD := Lib.hid cd
                  clear cd
                  go_wp2_with fail
                  refine IN1.out.mono ?_
                  rintro e9 w3 ⟨rfl, hq3⟩
                  replace z0 := (hq3.cell _).trans z0
                  replace q0 := (hq3.cell _).trans q0
                  replace z1 := (hq3.cell _).trans z1
                  replace q1 := (hq3.cell _).trans q1
                  replace z2 := (hq3.cell _).trans z2
                  replace q2 := (hq3.cell _).trans q2
                  replace z3 := (hq3.cell _).trans z3
                  replace q3 := (hq3.cell _).trans q3
                  replace z4 := (hq3.cell _).trans z4
                  replace q4 := (hq3.cell _).trans q4
                  have HQ3 := Lib.hid hq3
                  clear hq3
                  have IN := Lib.hid (IN2.out w3 HQ3.out)
                  go_wp2_with fail
                  refine IN.out.mono ?_
                  rintro e9 w4 ⟨rfl, hq4⟩
                  replace z0 := (hq4.cell _).trans z0
                  replace q0 := (hq4.cell _).trans q0
                  replace z1 := (hq4.cell _).trans z1
                  replace q1 := (hq4.cell _).trans q1
                  replace z2 := (hq4.cell _).trans z2
                  replace q2 := (hq4.cell _).trans q2
                  replace z3 := (hq4.cell _).trans z3
                  replace q3 := (hq4.cell _).trans q3
                  replace z4 := (hq4.cell _).trans z4
                  replace q4 := (hq4.cell _).trans q4
                  have HQ4 := Lib.hid (HQ3.out.trans hq4)
                  clear hq4
                  go_wp2
                  go_ret
                  exact ⟨ret_bool (by rw [PE.out]; simp [HM.out fun e => HD.out (FE.out.1 e).2.2.2.1]), HW.out.trans ((HQ.out.trans ((BE.out.trans (Quiet.below HQ4.out)).mono HQ.out.size)).mono HW.out.size)⟩
              · have vc : decide (fn.params = gn.params) = false := by simpa using cc
                have HC := Lib.hid cc
                clear cc
                go_wp2_with fail
                refine IN1.out.mono ?_
                rintro e9 w3 ⟨rfl, hq3⟩
                replace z0 := (hq3.cell _).trans z0
                replace q0 := (hq3.cell _).trans q0
                replace z1 := (hq3.cell _).trans z1
                replace q1 := (hq3.cell _).trans q1
                replace z2 := (hq3.cell _).trans z2
                replace q2 := (hq3.cell _).trans q2
                replace z3 := (hq3.cell _).trans z3
                replace q3 := (hq3.cell _).trans q3
                replace z4 := (hq3.cell _).trans z4
                replace q4 := (hq3.cell _).trans q4
                have HQ3 := Lib.hid hq3
                clear hq3
                go_wp2
                go_ret
                exact ⟨ret_bool (by rw [PE.out]; simp [HM.out fun e => HC.out (FE.out.1 e).2.1]), HW.out.trans ((HQ.out.trans ((BE.out.trans (Quiet.below HQ3.out)).mono HQ.out.size)).mono HW.out.size)⟩
            · have vb : (fn.result != gn.result) = true := by simpa using cb
              have HBB := Lib.hid cb
              clear cb
              go_wp2
              go_ret
              exact ⟨ret_bool (by rw [PE.out]; simp [HM.out fun e => HBB.out (FE.out.1 e).2.2.1]), HW.out.trans ((HQ.out.trans ((BE.out.trans (Below.refl _ _)).mono HQ.out.size)).mono HW.out.size)⟩
          · have va : (fn.name.toList == gn.name.toList) = false := by simpa using ca
            have HA := Lib.hid ca
            clear ca
            go_wp2
            go_ret
            exact ⟨ret_bool (by rw [PE.out]; simp [HM.out fun e => HA.out (FE.out.1 e).1]), HW.out.trans ((HQ.out.trans ((BE.out.trans (Below.refl _ _)).mono HQ.out.size)).mono HW.out.size)⟩
        · have hlt' : ¬ (k : Int) < (p.funcs.length : Int) := by omega
          go_wp2
          go_ret
          exact ⟨ret_bool (by rw [PE.out]; simp [HCL.out, map_eq_of HN.out fun i i1 i2 => HJ.out i i1 i2 (by omega)]), HW.out.trans (HQ.out.mono HW.out.size)⟩
    · have hne : ((p.funcs.length : Int) != (q.funcs.length : Int)) = true := by simp; omega
      have HM := Lib.hid (map_ne_len (f := funP) hn)
      clear hn
      go_wp2
      go_ret
      exact ⟨ret_bool (by rw [PE.out]; simp [HM.out]), HW.out⟩
  · have hcl' : decide (p.classes.map clsP = q.classes.map clsP) = false := by simpa using hcl
    have HCL := Lib.hid hcl
    clear hcl
    go_wp2
    go_ret
    exact ⟨ret_bool (by rw [PE.out]; simp [HCL.out]), HW.out⟩
end Go.Proofs.Ytecpokegmfnlaaa
/- slices.Equal at numbers, fields and instructions. No condition. -/
namespace Go.Proofs.Ytecpokegmfnlaaa
open Go.RowKit
set_option linter.unusedVariables false
set_option maxRecDepth 100000 in
set_option maxHeartbeats 4000000 in
theorem eqints_any (w : World) (B : Nat) (v1 v2 : Value) (l1 l2 : List Int) (h1 : RdRow 1 ElI B w v1 l1) (h2 : RdRow 1 ElI B w v2 l2) :
    Calls Try.prog 79 #[v1, v2] w fun e w' => e = .returned (.bool (decide (l1 = l2))) ∧ Quiet w w' := by
  have h1' := h1
  have h2' := h2
  obtain ⟨a1, c1, rfl⟩ := rd_shape h1'
  obtain ⟨a2, c2, rfl⟩ := rd_shape h2'
  have M1 : l1.length ≤ maxLen := by obtain ⟨_, _, _, h, _⟩ := h1; exact h
  unfold maxLen at M1
  have R1 := Lib.hid (fun i (hi : i < l1.length) => rd_at h1 hi)
  have R2 := Lib.hid (fun i (hi : i < l2.length) => rd_at h2 hi)
  clear h1 h2 h1' h2'
  by_cases hn : l1.length = l2.length
  · have hne : ((l1.length : Int) != (l2.length : Int)) = false := by simp [hn]
    have HNN := Lib.hid hn
    clear hn
    go_enter Try.func79, Try.ntmps79
    go_wp2
    go_loopw [13] (fun i wr => ∃ k : Nat, k ≤ l1.length ∧ i = .int .i64 k ∧ Quiet w wr ∧ ∀ j, (j1 : j < l1.length) → (j2 : j < l2.length) → j < k → l1[j] = l2[j]) (fun i _ => l1.length - (intOf i).toNat)
    case atStart => exact ⟨0, Nat.zero_le _, rfl, Quiet.refl _, fun j _ _ h => absurd h (by omega)⟩
    case round =>
      obtain ⟨k, hk, rfl, hq, hj⟩ := hrel
      have HJ := Lib.hid hj
      clear hj
      by_cases hlt : k < l1.length
      · have hlt2 : k < l2.length := by have := HNN.out; omega
        obtain ⟨b1, o1, rfl, _, p1, _⟩ := R1.out k hlt
        obtain ⟨b2, o2, rfl, _, p2, _⟩ := R2.out k hlt2
        rw [Nat.mul_one] at p1 p2
        have p1 := (hq.cell _).trans p1
        have p2 := (hq.cell _).trans p2
        have hlt' : (k : Int) < (l1.length : Int) := by omega
        have hlt2' : (k : Int) < (l2.length : Int) := by omega
        have hge' : (0 : Int) ≤ (k : Int) := by omega
        by_cases hx : l1[k] = l2[k]
        · have hx' : (l1[k] != l2[k]) = false := by simp [hx]
          have HX : Hid (∀ (j1 : k < l1.length) (j2 : k < l2.length), l1[k]'j1 = l2[k]'j2) := fun _ _ => hx
          clear hx
          generalize l1[k] = z1 at *
          generalize l2[k] = z2 at *
          go_wp2
          go_quiet (fail)
          go_wp2
          go_roundw
          case rel => exact ⟨k + 1, by omega, by go_num, hq.trans ⟨_, rfl⟩, fun j j1 j2 j3 => by
            rcases Nat.lt_or_ge j k with h | h
            · exact HJ.out j j1 j2 h
            · obtain rfl : j = k := by omega
              exact HX.out j1 j2⟩
          case measure => simp [intOf]; omega
        · have hx' : (l1[k] != l2[k]) = true := by simp [hx]
          have HX : Hid (¬ l1 = l2) := fun h => hx (by subst h; rfl)
          clear hx
          generalize l1[k] = z1 at *
          generalize l2[k] = z2 at *
          go_wp2
          go_quiet (fail)
          go_wp2
          go_ret
          exact ⟨ret_bool (by simp [HX.out]), hq.trans ⟨_, rfl⟩⟩
      · have hlt' : ¬ (k : Int) < (l1.length : Int) := by omega
        go_wp2
        go_ret
        exact ⟨ret_bool (by simp [list_eq_of HNN.out fun i i1 i2 => HJ.out i i1 i2 (by omega)]), hq⟩
  · have hne : ((l1.length : Int) != (l2.length : Int)) = true := by simp; omega
    have HX : Hid (¬ l1 = l2) := fun h => hn (by rw [h])
    go_enter Try.func79, Try.ntmps79
    go_wp2
    go_ret
    exact ⟨ret_bool (by simp [HX.out]), Quiet.refl _⟩
set_option maxRecDepth 100000 in
set_option maxHeartbeats 4000000 in
theorem eqflds_any (w : World) (B : Nat) (v1 v2 : Value) (l1 l2 : List FldD) (h1 : RdRow 2 ElF B w v1 l1) (h2 : RdRow 2 ElF B w v2 l2) :
    Calls Try.prog 78 #[v1, v2] w fun e w' => e = .returned (.bool (decide (l1.map fldP = l2.map fldP))) ∧ Quiet w w' := by
  have h1' := h1
  have h2' := h2
  obtain ⟨a1, c1, rfl⟩ := rd_shape h1'
  obtain ⟨a2, c2, rfl⟩ := rd_shape h2'
  have M1 : l1.length ≤ maxLen := by obtain ⟨_, _, _, h, _⟩ := h1; exact h
  unfold maxLen at M1
  have R1 := Lib.hid (fun i (hi : i < l1.length) => rd_at h1 hi)
  have R2 := Lib.hid (fun i (hi : i < l2.length) => rd_at h2 hi)
  clear h1 h2 h1' h2'
  have hG := guard_fld
  by_cases hn : l1.length = l2.length
  · have hne : ((l1.length : Int) != (l2.length : Int)) = false := by simp [hn]
    have HN := Lib.hid hn
    clear hn
    go_enter Try.func78, Try.ntmps78
    go_wp2
    go_loopw [13] (fun i wr => ∃ k : Nat, k ≤ l1.length ∧ i = .int .i64 k ∧ Quiet w wr ∧ ∀ j, (j1 : j < l1.length) → (j2 : j < l2.length) → j < k → fldP l1[j] = fldP l2[j]) (fun i _ => l1.length - (intOf i).toNat)
    case atStart => exact ⟨0, Nat.zero_le _, rfl, Quiet.refl _, fun j _ _ h => absurd h (by omega)⟩
    case round =>
      obtain ⟨k, hk, rfl, hq, hj⟩ := hrel
      have HJ := Lib.hid hj
      clear hj
      by_cases hlt : k < l1.length
      · have hlt2 : k < l2.length := by have := HN.out; omega
        obtain ⟨b1, o1, rfl, _, p0, p1, _⟩ := R1.out k hlt
        obtain ⟨b2, o2, rfl, _, q0, q1, _⟩ := R2.out k hlt2
        replace p0 := (hq.cell _).trans p0
        replace q0 := (hq.cell _).trans q0
        replace p1 := (hq.cell _).trans p1
        replace q1 := (hq.cell _).trans q1
        have hlt' : (k : Int) < (l1.length : Int) := by omega
        have hlt2' : (k : Int) < (l2.length : Int) := by omega
        have hge' : (0 : Int) ≤ (k : Int) := by omega
        have FP := Lib.hid (@fldP_eq l1[k] l2[k])
        have HM : Hid (¬ fldP l1[k] = fldP l2[k] → ¬ l1.map fldP = l2.map fldP) := map_ne_at hlt hlt2
        have HE : Hid (∀ (j1 : k < l1.length) (j2 : k < l2.length), fldP (l1[k]'j1) = fldP (l1[k]'hlt) ∧ fldP (l2[k]'j2) = fldP (l2[k]'hlt2)) := fun _ _ => ⟨rfl, rfl⟩
        generalize l1[k] = z1 at *
        generalize l2[k] = z2 at *
        rcases z1 with ⟨x0, x1⟩
        rcases z2 with ⟨y0, y1⟩
        have hE := fun W => neq_fld W x0 y0 x1 y1
        have FQ : (x0.toList == y0.toList && x1 == y1) = decide (fldP ⟨x0, x1⟩ = fldP ⟨y0, y1⟩) := FP.out
        simp only at p0 q0 p1 q1
        by_cases hy : fldP ⟨x0, x1⟩ = fldP ⟨y0, y1⟩
        · have hv : (x0.toList == y0.toList && x1 == y1) = true := by rw [FQ]; simpa using hy
          have HY := Lib.hid hy
          clear hy FQ
          go_wp2
          go_quiet (fail)
          go_wp2
          go_roundw
          case rel => exact ⟨k + 1, by omega, by go_num, hq.trans ⟨_, rfl⟩, fun j j1 j2 j3 => by
            rcases Nat.lt_or_ge j k with h | h
            · exact HJ.out j j1 j2 h
            · obtain rfl : j = k := by omega
              exact (HE.out j1 j2).1.trans (HY.out.trans (HE.out j1 j2).2.symm)⟩
          case measure => simp [intOf]; omega
        · have hv : (x0.toList == y0.toList && x1 == y1) = false := by rw [FQ]; simpa using hy
          have HY := Lib.hid hy
          clear hy FQ
          go_wp2
          go_quiet (fail)
          go_wp2
          go_ret
          exact ⟨ret_bool (by simp [HM.out HY.out]), hq.trans ⟨_, rfl⟩⟩
      · have hlt' : ¬ (k : Int) < (l1.length : Int) := by omega
        go_wp2
        go_ret
        exact ⟨ret_bool (by simp [map_eq_of HN.out fun i i1 i2 => HJ.out i i1 i2 (by omega)]), hq⟩
  · have hne : ((l1.length : Int) != (l2.length : Int)) = true := by simp; omega
    have HM := Lib.hid (map_ne_len (f := fldP) hn)
    clear hn
    go_enter Try.func78, Try.ntmps78
    go_wp2
    go_ret
    exact ⟨ret_bool (by simp [HM.out]), Quiet.refl _⟩
set_option maxRecDepth 100000 in
set_option maxHeartbeats 4000000 in
theorem eqinss_any (w : World) (B : Nat) (v1 v2 : Value) (l1 l2 : List InsD) (h1 : RdRow 3 ElN B w v1 l1) (h2 : RdRow 3 ElN B w v2 l2) :
    Calls Try.prog 80 #[v1, v2] w fun e w' => e = .returned (.bool (decide (l1.map insP = l2.map insP))) ∧ Quiet w w' := by
  have h1' := h1
  have h2' := h2
  obtain ⟨a1, c1, rfl⟩ := rd_shape h1'
  obtain ⟨a2, c2, rfl⟩ := rd_shape h2'
  have M1 : l1.length ≤ maxLen := by obtain ⟨_, _, _, h, _⟩ := h1; exact h
  unfold maxLen at M1
  have R1 := Lib.hid (fun i (hi : i < l1.length) => rd_at h1 hi)
  have R2 := Lib.hid (fun i (hi : i < l2.length) => rd_at h2 hi)
  clear h1 h2 h1' h2'
  have hG := guard_ins
  by_cases hn : l1.length = l2.length
  · have hne : ((l1.length : Int) != (l2.length : Int)) = false := by simp [hn]
    have HN := Lib.hid hn
    clear hn
    go_enter Try.func80, Try.ntmps80
    go_wp2
    go_loopw [13] (fun i wr => ∃ k : Nat, k ≤ l1.length ∧ i = .int .i64 k ∧ Quiet w wr ∧ ∀ j, (j1 : j < l1.length) → (j2 : j < l2.length) → j < k → insP l1[j] = insP l2[j]) (fun i _ => l1.length - (intOf i).toNat)
    case atStart => exact ⟨0, Nat.zero_le _, rfl, Quiet.refl _, fun j _ _ h => absurd h (by omega)⟩
    case round =>
      obtain ⟨k, hk, rfl, hq, hj⟩ := hrel
      have HJ := Lib.hid hj
      clear hj
      by_cases hlt : k < l1.length
      · have hlt2 : k < l2.length := by have := HN.out; omega
        obtain ⟨b1, o1, rfl, _, p0, p1, p2, _⟩ := R1.out k hlt
        obtain ⟨b2, o2, rfl, _, q0, q1, q2, _⟩ := R2.out k hlt2
        replace p0 := (hq.cell _).trans p0
        replace q0 := (hq.cell _).trans q0
        replace p1 := (hq.cell _).trans p1
        replace q1 := (hq.cell _).trans q1
        replace p2 := (hq.cell _).trans p2
        replace q2 := (hq.cell _).trans q2
        have hlt' : (k : Int) < (l1.length : Int) := by omega
        have hlt2' : (k : Int) < (l2.length : Int) := by omega
        have hge' : (0 : Int) ≤ (k : Int) := by omega
        have FP := Lib.hid (@insP_eq l1[k] l2[k])
        have HM : Hid (¬ insP l1[k] = insP l2[k] → ¬ l1.map insP = l2.map insP) := map_ne_at hlt hlt2
        have HE : Hid (∀ (j1 : k < l1.length) (j2 : k < l2.length), insP (l1[k]'j1) = insP (l1[k]'hlt) ∧ insP (l2[k]'j2) = insP (l2[k]'hlt2)) := fun _ _ => ⟨rfl, rfl⟩
        generalize l1[k] = z1 at *
        generalize l2[k] = z2 at *
        rcases z1 with ⟨x0, x1, x2⟩
        rcases z2 with ⟨y0, y1, y2⟩
        have hE := fun W => neq_ins W x0 x1 x2 y0 y1 y2
        have FQ : (x0 == y0 && (x1 == y1 && x2 == y2)) = decide (insP ⟨x0, x1, x2⟩ = insP ⟨y0, y1, y2⟩) := FP.out
        simp only at p0 q0 p1 q1 p2 q2
        by_cases hy : insP ⟨x0, x1, x2⟩ = insP ⟨y0, y1, y2⟩
        · have hv : (x0 == y0 && (x1 == y1 && x2 == y2)) = true := by rw [FQ]; simpa using hy
          have HY := Lib.hid hy
          clear hy FQ
          go_wp2
          go_quiet (fail)
          go_wp2
          go_roundw
          case rel => exact ⟨k + 1, by omega, by go_num, hq.trans ⟨_, rfl⟩, fun j j1 j2 j3 => by
            rcases Nat.lt_or_ge j k with h | h
            · exact HJ.out j j1 j2 h
            · obtain rfl : j = k := by omega
              exact (HE.out j1 j2).1.trans (HY.out.trans (HE.out j1 j2).2.symm)⟩
          case measure => simp [intOf]; omega
        · have hv : (x0 == y0 && (x1 == y1 && x2 == y2)) = false := by rw [FQ]; simpa using hy
          have HY := Lib.hid hy
          clear hy FQ
          go_wp2
          go_quiet (fail)
          go_wp2
          go_ret
          exact ⟨ret_bool (by simp [HM.out HY.out]), hq.trans ⟨_, rfl⟩⟩
      · have hlt' : ¬ (k : Int) < (l1.length : Int) := by omega
        go_wp2
        go_ret
        exact ⟨ret_bool (by simp [map_eq_of HN.out fun i i1 i2 => HJ.out i i1 i2 (by omega)]), hq⟩
  · have hne : ((l1.length : Int) != (l2.length : Int)) = true := by simp; omega
    have HM := Lib.hid (map_ne_len (f := insP) hn)
    clear hn
    go_enter Try.func80, Try.ntmps80
    go_wp2
    go_ret
    exact ⟨ret_bool (by simp [HM.out]), Quiet.refl _⟩
end Go.Proofs.Ytecpokegmfnlaaa
/- equalClasses, equalFuncs, slices.EqualFunc at both, Equal of programs. No condition. -/
namespace Go.Proofs.Ytecpokegmfnlaaa
open Go.RowKit
set_option linter.unusedVariables false
set_option maxRecDepth 100000 in
set_option maxHeartbeats 4000000 in
theorem eqcls_any (w : World) (B : Nat) (v1 v2 : Value) (c d : ClsD) (hB : B ≤ w.heap.size) (h1 : RdRow 2 ElF B w v1 c.fields) (h2 : RdRow 2 ElF B w v2 d.fields) :
    Calls Try.prog 50 #[.agg #[.string c.name, v1], .agg #[.string d.name, v2]] w fun e w' => e = .returned (.bool (decide (clsP c = clsP d))) ∧ Below w.heap.size w w' := by
  have h1' := h1
  have h2' := h2
  obtain ⟨a1, q1, rfl⟩ := rd_shape h1'
  obtain ⟨a2, q2, rfl⟩ := rd_shape h2'
  have k1 : Blk ((w.alloc (.cells #[.string c.name, .slice a1 c.fields.length q1] 48)).alloc (.cells #[.string d.name, .slice a2 d.fields.length q2] 48)) w.heap.size #[.string c.name, .slice a1 c.fields.length q1] 48 := (Blk.new _ _ _).alloc _
  have k2 : Blk ((w.alloc (.cells #[.string c.name, .slice a1 c.fields.length q1] 48)).alloc (.cells #[.string d.name, .slice a2 d.fields.length q2] 48)) (w.heap.size + 1) #[.string d.name, .slice a2 d.fields.length q2] 48 := Blk.new' (by simp)
  have hb0 : Below w.heap.size w ((w.alloc (.cells #[.string c.name, .slice a1 c.fields.length q1] 48)).alloc (.cells #[.string d.name, .slice a2 d.fields.length q2] 48)) := ((Below.refl _ _).alloc (Nat.le_refl _) _).alloc (by simp) _
  have IN := Lib.hid (eqflds_any _ B _ _ _ _ (h1.keep (hb0.mono hB) fun _ _ _ e r => r.keep (hb0.mono hB) e) (h2.keep (hb0.mono hB) fun _ _ _ e r => r.keep (hb0.mono hB) e))
  have hb := Lib.hid hb0
  have CP := Lib.hid (clsP_eq (f := c) (g := d))
  have c0 := k1.val 0 rfl
  have c1 := k1.val 1 rfl
  have d0 := k2.val 0 rfl
  have d1 := k2.val 1 rfl
  clear h1 h2 h1' h2' hb0 k1 k2
  by_cases hx : c.name.toList = d.name.toList
  · have hx' : (c.name.toList == d.name.toList) = true := by simp [hx]
    have HX := Lib.hid hx
    clear hx
    go_enter Try.func50, Try.ntmps50
    go_wp2_with fail
    refine IN.out.mono ?_
    rintro e9 w3 ⟨rfl, hq3⟩
    have HQ := Lib.hid hq3
    clear hq3
    go_wp2
    go_ret
    exact ⟨ret_bool (by rw [CP.out]; simp [HX.out]), hb.out.trans (Quiet.below HQ.out)⟩
  · have hx' : (c.name.toList == d.name.toList) = false := by simpa using hx
    have HX := Lib.hid hx
    clear hx
    go_enter Try.func50, Try.ntmps50
    go_wp2
    go_ret
    exact ⟨ret_bool (by rw [CP.out]; simp [HX.out]), hb.out⟩
set_option maxRecDepth 100000 in
set_option maxHeartbeats 4000000 in
theorem eqfun_any (w : World) (B : Nat) (x1 x3 x4 y1 y3 y4 : Value) (fn gn : FunD) (hB : B ≤ w.heap.size) (g1 : RdRow 1 ElI B w x1 fn.params) (g3 : RdRow 1 ElI B w x3 fn.locals) (g4 : RdRow 3 ElN B w x4 fn.code) (l1 : RdRow 1 ElI B w y1 gn.params) (l3 : RdRow 1 ElI B w y3 gn.locals) (l4 : RdRow 3 ElN B w y4 gn.code) :
    Calls Try.prog 52 #[.agg #[.string fn.name, x1, .int .i64 fn.result, x3, x4], .agg #[.string gn.name, y1, .int .i64 gn.result, y3, y4]] w fun e w' => e = .returned (.bool (decide (funP fn = funP gn))) ∧ Below w.heap.size w w' := by
  obtain ⟨fa1, fc1, rfl⟩ := rd_shape g1
  obtain ⟨fa3, fc3, rfl⟩ := rd_shape g3
  obtain ⟨fa4, fc4, rfl⟩ := rd_shape g4
  obtain ⟨ga1, gc1, rfl⟩ := rd_shape l1
  obtain ⟨ga3, gc3, rfl⟩ := rd_shape l3
  obtain ⟨ga4, gc4, rfl⟩ := rd_shape l4
  have kF : Blk ((w.alloc (.cells #[.string fn.name, .slice fa1 fn.params.length fc1, .int .i64 fn.result, .slice fa3 fn.locals.length fc3, .slice fa4 fn.code.length fc4] 54)).alloc (.cells #[.string gn.name, .slice ga1 gn.params.length gc1, .int .i64 gn.result, .slice ga3 gn.locals.length gc3, .slice ga4 gn.code.length gc4] 54)) w.heap.size #[.string fn.name, .slice fa1 fn.params.length fc1, .int .i64 fn.result, .slice fa3 fn.locals.length fc3, .slice fa4 fn.code.length fc4] 54 := (Blk.new _ _ _).alloc _
  have kG : Blk ((w.alloc (.cells #[.string fn.name, .slice fa1 fn.params.length fc1, .int .i64 fn.result, .slice fa3 fn.locals.length fc3, .slice fa4 fn.code.length fc4] 54)).alloc (.cells #[.string gn.name, .slice ga1 gn.params.length gc1, .int .i64 gn.result, .slice ga3 gn.locals.length gc3, .slice ga4 gn.code.length gc4] 54)) (w.heap.size + 1) #[.string gn.name, .slice ga1 gn.params.length gc1, .int .i64 gn.result, .slice ga3 gn.locals.length gc3, .slice ga4 gn.code.length gc4] 54 := Blk.new' (by simp)
  have hb0 : Below w.heap.size w ((w.alloc (.cells #[.string fn.name, .slice fa1 fn.params.length fc1, .int .i64 fn.result, .slice fa3 fn.locals.length fc3, .slice fa4 fn.code.length fc4] 54)).alloc (.cells #[.string gn.name, .slice ga1 gn.params.length gc1, .int .i64 gn.result, .slice ga3 gn.locals.length gc3, .slice ga4 gn.code.length gc4] 54)) := ((Below.refl _ _).alloc (Nat.le_refl _) _).alloc (by simp) _
  have hF := hb0.mono hB
  have IN1 := Lib.hid (eqints_any _ B _ _ _ _ (g1.keep hF fun _ _ _ e r => r.keep hF e) (l1.keep hF fun _ _ _ e r => r.keep hF e))
  have IN2 := Lib.hid (fun W (hq : Quiet ((w.alloc (.cells #[.string fn.name, .slice fa1 fn.params.length fc1, .int .i64 fn.result, .slice fa3 fn.locals.length fc3, .slice fa4 fn.code.length fc4] 54)).alloc (.cells #[.string gn.name, .slice ga1 gn.params.length gc1, .int .i64 gn.result, .slice ga3 gn.locals.length gc3, .slice ga4 gn.code.length gc4] 54)) W) => eqints_any W B _ _ _ _ (g3.keep (hF.trans (Quiet.below hq)) fun _ _ _ e r => r.keep (hF.trans (Quiet.below hq)) e) (l3.keep (hF.trans (Quiet.below hq)) fun _ _ _ e r => r.keep (hF.trans (Quiet.below hq)) e))
  have IN3 := Lib.hid (fun W (hq : Quiet ((w.alloc (.cells #[.string fn.name, .slice fa1 fn.params.length fc1, .int .i64 fn.result, .slice fa3 fn.locals.length fc3, .slice fa4 fn.code.length fc4] 54)).alloc (.cells #[.string gn.name, .slice ga1 gn.params.length gc1, .int .i64 gn.result, .slice ga3 gn.locals.length gc3, .slice ga4 gn.code.length gc4] 54)) W) => eqinss_any W B _ _ _ _ (g4.keep (hF.trans (Quiet.below hq)) fun _ _ _ e r => r.keep (hF.trans (Quiet.below hq)) e) (l4.keep (hF.trans (Quiet.below hq)) fun _ _ _ e r => r.keep (hF.trans (Quiet.below hq)) e))
  have FE := Lib.hid (@funP_eq fn gn)
  have BE := Lib.hid hb0
  have z0 := kF.val 0 rfl
  have q0 := kG.val 0 rfl
  have z1 := kF.val 1 rfl
  have q1 := kG.val 1 rfl
  have z2 := kF.val 2 rfl
  have q2 := kG.val 2 rfl
  have z3 := kF.val 3 rfl
  have q3 := kG.val 3 rfl
  have z4 := kF.val 4 rfl
  have q4 := kG.val 4 rfl
  clear g1 g3 g4 l1 l3 l4 kF kG hb0 hF hB
  by_cases ca : fn.name.toList = gn.name.toList
  · have va : (fn.name.toList == gn.name.toList) = true := by simpa using ca
    have HA := Lib.hid ca
    clear ca
    by_cases cc : fn.params = gn.params
    · have vc : decide (fn.params = gn.params) = true := by simpa using cc
      have HC := Lib.hid cc
      clear cc
      by_cases cb : fn.result = gn.result
      · have vb : (fn.result == gn.result) = true := by simpa using cb
        have HBB := Lib.hid cb
        clear cb
        by_cases cd : fn.locals = gn.locals
        · have vd : decide (fn.locals = gn.locals) = true := by simpa using cd
          have HD := Lib.hid cd
          clear cd
          have VE : Hid (decide (fn.code.map insP = gn.code.map insP) = decide (funP fn = funP gn)) := decide_eq_decide.2 ⟨fun e => FE.out.2 ⟨HA.out, HC.out, HBB.out, HD.out, e⟩, fun e => (FE.out.1 e).2.2.2.2⟩
          go_enter Try.func52, Try.ntmps52
          go_wp2_with fail
          refine IN1.out.mono ?_
          rintro e9 w3 ⟨rfl, hq1⟩
          replace z0 := (hq1.cell _).trans z0
          replace q0 := (hq1.cell _).trans q0
          replace z1 := (hq1.cell _).trans z1
          replace q1 := (hq1.cell _).trans q1
          replace z2 := (hq1.cell _).trans z2
          replace q2 := (hq1.cell _).trans q2
          replace z3 := (hq1.cell _).trans z3
          replace q3 := (hq1.cell _).trans q3
          replace z4 := (hq1.cell _).trans z4
          replace q4 := (hq1.cell _).trans q4
          have HQ2 := Lib.hid (hq1)
          clear hq1
          have INX2 := Lib.hid (IN2.out w3 HQ2.out)
          go_wp2_with fail
          refine INX2.out.mono ?_
          rintro e9 w4 ⟨rfl, hq2⟩
          replace z0 := (hq2.cell _).trans z0
          replace q0 := (hq2.cell _).trans q0
          replace z1 := (hq2.cell _).trans z1
          replace q1 := (hq2.cell _).trans q1
          replace z2 := (hq2.cell _).trans z2
          replace q2 := (hq2.cell _).trans q2
          replace z3 := (hq2.cell _).trans z3
          replace q3 := (hq2.cell _).trans q3
          replace z4 := (hq2.cell _).trans z4
          replace q4 := (hq2.cell _).trans q4
          have HQ3 := Lib.hid (HQ2.out.trans hq2)
          clear hq2
          have INX3 := Lib.hid (IN3.out w4 HQ3.out)
          go_wp2_with fail
          refine INX3.out.mono ?_
          rintro e9 w5 ⟨rfl, hq3⟩
          replace z0 := (hq3.cell _).trans z0
          replace q0 := (hq3.cell _).trans q0
          replace z1 := (hq3.cell _).trans z1
          replace q1 := (hq3.cell _).trans q1
          replace z2 := (hq3.cell _).trans z2
          replace q2 := (hq3.cell _).trans q2
          replace z3 := (hq3.cell _).trans z3
          replace q3 := (hq3.cell _).trans q3
          replace z4 := (hq3.cell _).trans z4
          replace q4 := (hq3.cell _).trans q4
          have HQ4 := Lib.hid (HQ3.out.trans hq3)
          clear hq3
          go_wp2
          go_ret
          exact ⟨ret_bool (by exact VE.out), BE.out.trans (Quiet.below HQ4.out)⟩
        · have vd : decide (fn.locals = gn.locals) = false := by simpa using cd
          have HD := Lib.hid cd
          clear cd
          go_enter Try.func52, Try.ntmps52
          go_wp2_with fail
          refine IN1.out.mono ?_
          rintro e9 w3 ⟨rfl, hq1⟩
          replace z0 := (hq1.cell _).trans z0
          replace q0 := (hq1.cell _).trans q0
          replace z1 := (hq1.cell _).trans z1
          replace q1 := (hq1.cell _).trans q1
          replace z2 := (hq1.cell _).trans z2
          replace q2 := (hq1.cell _).trans q2
          replace z3 := (hq1.cell _).trans z3
          replace q3 := (hq1.cell _).trans q3
          replace z4 := (hq1.cell _).trans z4
          replace q4 := (hq1.cell _).trans q4
          have HQ2 := Lib.hid (hq1)
          clear hq1
          have INX2 := Lib.hid (IN2.out w3 HQ2.out)
          go_wp2_with fail
          refine INX2.out.mono ?_
          rintro e9 w4 ⟨rfl, hq2⟩
          replace z0 := (hq2.cell _).trans z0
          replace q0 := (hq2.cell _).trans q0
          replace z1 := (hq2.cell _).trans z1
          replace q1 := (hq2.cell _).trans q1
          replace z2 := (hq2.cell _).trans z2
          replace q2 := (hq2.cell _).trans q2
          replace z3 := (hq2.cell _).trans z3
          replace q3 := (hq2.cell _).trans q3
          replace z4 := (hq2.cell _).trans z4
          replace q4 := (hq2.cell _).trans q4
          have HQ3 := Lib.hid (HQ2.out.trans hq2)
          clear hq2
          go_wp2
          go_ret
          exact ⟨ret_bool (by simp [show ¬ funP fn = funP gn from fun e => HD.out (FE.out.1 e).2.2.2.1]), BE.out.trans (Quiet.below HQ3.out)⟩
      · have vb : (fn.result == gn.result) = false := by simpa using cb
        have HBB := Lib.hid cb
        clear cb
        go_enter Try.func52, Try.ntmps52
        go_wp2_with fail
        refine IN1.out.mono ?_
        rintro e9 w3 ⟨rfl, hq1⟩
        replace z0 := (hq1.cell _).trans z0
        replace q0 := (hq1.cell _).trans q0
        replace z1 := (hq1.cell _).trans z1
        replace q1 := (hq1.cell _).trans q1
        replace z2 := (hq1.cell _).trans z2
        replace q2 := (hq1.cell _).trans q2
        replace z3 := (hq1.cell _).trans z3
        replace q3 := (hq1.cell _).trans q3
        replace z4 := (hq1.cell _).trans z4
        replace q4 := (hq1.cell _).trans q4
        have HQ2 := Lib.hid (hq1)
        clear hq1
        go_wp2
        go_ret
        exact ⟨ret_bool (by simp [show ¬ funP fn = funP gn from fun e => HBB.out (FE.out.1 e).2.2.1]), BE.out.trans (Quiet.below HQ2.out)⟩
    · have vc : decide (fn.params = gn.params) = false := by simpa using cc
      have HC := Lib.hid cc
      clear cc
      go_enter Try.func52, Try.ntmps52
      go_wp2_with fail
      refine IN1.out.mono ?_
      rintro e9 w3 ⟨rfl, hq1⟩
      replace z0 := (hq1.cell _).trans z0
      replace q0 := (hq1.cell _).trans q0
      replace z1 := (hq1.cell _).trans z1
      replace q1 := (hq1.cell _).trans q1
      replace z2 := (hq1.cell _).trans z2
      replace q2 := (hq1.cell _).trans q2
      replace z3 := (hq1.cell _).trans z3
      replace q3 := (hq1.cell _).trans q3
      replace z4 := (hq1.cell _).trans z4
      replace q4 := (hq1.cell _).trans q4
      have HQ2 := Lib.hid (hq1)
      clear hq1
      go_wp2
      go_ret
      exact ⟨ret_bool (by simp [show ¬ funP fn = funP gn from fun e => HC.out (FE.out.1 e).2.1]), BE.out.trans (Quiet.below HQ2.out)⟩
  · have va : (fn.name.toList == gn.name.toList) = false := by simpa using ca
    have HA := Lib.hid ca
    clear ca
    go_enter Try.func52, Try.ntmps52
    go_wp2
    go_ret
    exact ⟨ret_bool (by simp [show ¬ funP fn = funP gn from fun e => HA.out (FE.out.1 e).1]), BE.out⟩
end Go.Proofs.Ytecpokegmfnlaaa
