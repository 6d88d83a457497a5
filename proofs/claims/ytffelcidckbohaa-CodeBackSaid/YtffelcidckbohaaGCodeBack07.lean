/- Texts of this seat, one behind the other: each says at its head what it holds. No condition of its own. -/
import Derived.StillTailTactics
import Derived.Maps.AppendAt
import Derived.Deep.AppendLies
import Derived.Deep.RegionHeld3
import Derived.Lib.Hide
import Derived.Test.YtffelcidckbohaaGCodeBack06
/- The document's Same of two rows of classes. No condition. -/
namespace Go.Proofs.Ytffelcidckbohaa
open Go.RowKit
set_option linter.unusedVariables false
set_option maxRecDepth 100000 in
set_option maxHeartbeats 4000000 in
theorem rsclasses_any (w : World) (B : Nat) (v1 v2 : Value) (l1 l2 : List ClsD) (hB : B ≤ w.heap.size) (h1 : RdRow 2 (ElC B) B w v1 l1) (h2 : RdRow 2 (ElC B) B w v2 l2) :
    Calls Try.prog 26 #[v1, v2] w fun e w' => e = .returned (.bool (decide (l1.map clsP = l2.map clsP))) ∧ Below w.heap.size w w' := by
  have h1' := h1
  have h2' := h2
  obtain ⟨a1, c1, rfl⟩ := rd_shape h1'
  obtain ⟨a2, c2, rfl⟩ := rd_shape h2'
  have M1 : l1.length ≤ maxLen := by obtain ⟨_, _, _, h, _⟩ := h1; exact h
  unfold maxLen at M1
  have R1 := Lib.hid (fun W (hb : Below B w W) i (hi : i < l1.length) => rd_at (h1.keep hb fun _ _ _ e r => r.keep hb e) hi)
  have R2 := Lib.hid (fun W (hb : Below B w W) i (hi : i < l2.length) => rd_at (h2.keep hb fun _ _ _ e r => r.keep hb e) hi)
  have HB := Lib.hid hB
  clear h1 h2 h1' h2' hB
  by_cases hn : l1.length = l2.length
  · have hne : ((l1.length : Int) != (l2.length : Int)) = false := by simp [hn]
    have HN := Lib.hid hn
    clear hn
    go_enter Try.func26, Try.ntmps26
    go_wp2
    go_loopw [5] (fun i wr => ∃ k : Nat, k ≤ l1.length ∧ i = .int .i64 k ∧ Below w.heap.size w wr ∧ ∀ j, (j1 : j < l1.length) → (j2 : j < l2.length) → j < k → clsP l1[j] = clsP l2[j]) (fun i _ => l1.length - (intOf i).toNat)
    case atStart => exact ⟨0, Nat.zero_le _, rfl, Below.refl _ _, fun j _ _ h => absurd h (by omega)⟩
    case round =>
      obtain ⟨k, hk, rfl, hq, hj⟩ := hrel
      have HJ := Lib.hid hj
      have HQ := Lib.hid hq
      clear hj hq
      by_cases hlt : k < l1.length
      · have hlt2 : k < l2.length := by have := HN.out; omega
        have hbw := HQ.out.mono HB.out
        obtain ⟨b1, o1, rfl, _, p1, x1, y1, z1⟩ := R1.out wr hbw k hlt
        obtain ⟨b2, o2, rfl, _, p2, x2, y2, z2⟩ := R2.out wr hbw k hlt2
        obtain ⟨fa1, fc1, hx1⟩ := rd_shape z1
        obtain ⟨fa2, fc2, hx2⟩ := rd_shape z2
        have hlt' : (k : Int) < (l1.length : Int) := by omega
        have i1 : (0 : Int) ≤ (k : Int) ∧ (k : Int) < (l1.length : Int) := ⟨by omega, by omega⟩
        have i2 : (0 : Int) ≤ (k : Int) ∧ (k : Int) < (l2.length : Int) := ⟨by omega, by omega⟩
        have m1 : 0 < l1.length := by omega
        have m2 : 0 < l2.length := by omega
        have CL := Lib.hid (rsclass_any wr.drew B x1 x2 l1[k] l2[k] (Nat.le_trans HB.out HQ.out.size) (z1.keep (Below.refl _ _).drew fun _ _ _ e r => r.keep (Below.refl _ _).drew e) (z2.keep (Below.refl _ _).drew fun _ _ _ e r => r.keep (Below.refl _ _).drew e))
        have HM : Hid (¬ clsP l1[k] = clsP l2[k] → ¬ l1.map clsP = l2.map clsP) := map_ne_at hlt hlt2
        have HE : Hid (∀ (j1 : k < l1.length) (j2 : k < l2.length), clsP (l1[k]'j1) = clsP (l1[k]'hlt) ∧ clsP (l2[k]'j2) = clsP (l2[k]'hlt2)) := fun _ _ => ⟨rfl, rfl⟩
        have HT : Hid (Below wr.heap.size wr wr.drew) := (Below.refl _ _).drew
        generalize l1[k] = e1 at *
        generalize l2[k] = e2 at *
        clear z1 z2 hx1 hx2 hbw
        go_wp2_with fail
        go_still_tail 8, (by kernel_rfl)
        change wpList _ _ _ _ _ wr.drew
        generalize wr.drew = w5 at *
        go_wp2_with fail
        refine CL.out.mono ?_
        rintro e9 w6 ⟨rfl, hb6⟩
        have HB6 := Lib.hid (HT.out.trans (hb6.mono HT.out.size))
        clear hb6 CL
        by_cases hy : clsP e1 = clsP e2
        · have hv : decide (clsP e1 = clsP e2) = true := by simpa using hy
          have HY := Lib.hid hy
          clear hy
          go_wp2
          go_roundw
          case rel => exact ⟨k + 1, by omega, by go_num, HQ.out.trans (HB6.out.mono HQ.out.size), fun j j1 j2 j3 => by
            rcases Nat.lt_or_ge j k with h | h
            · exact HJ.out j j1 j2 h
            · obtain rfl : j = k := by omega
              exact (HE.out j1 j2).1.trans (HY.out.trans (HE.out j1 j2).2.symm)⟩
          case measure => simp [intOf]; omega
        · have hv : decide (clsP e1 = clsP e2) = false := by simpa using hy
          have HY := Lib.hid hy
          clear hy
          go_wp2
          go_ret
          exact ⟨ret_bool (by simp [HM.out HY.out]), HQ.out.trans (HB6.out.mono HQ.out.size)⟩
      · have hlt' : ¬ (k : Int) < (l1.length : Int) := by omega
        go_wp2
        go_ret
        exact ⟨ret_bool (by simp [map_eq_of HN.out fun i i1 i2 => HJ.out i i1 i2 (by omega)]), HQ.out⟩
  · have hne : ((l1.length : Int) != (l2.length : Int)) = true := by simp; omega
    have HM := Lib.hid (map_ne_len (f := clsP) hn)
    go_enter Try.func26, Try.ntmps26
    go_wp2
    go_ret
    exact ⟨ret_bool (by simp [HM.out]), Below.refl _ _⟩
end Go.Proofs.Ytffelcidckbohaa
/- The document's Same of two programs. No condition. -/
namespace Go.Proofs.Ytffelcidckbohaa
open Go.RowKit
set_option linter.unusedVariables false
abbrev InsT := Int × Int × Int
abbrev FunT := List UInt8 × List Int × Int × List Int × List InsT
abbrev ClsT := List UInt8 × List (List UInt8 × Int)
instance decInsT : DecidableEq InsT := instDecidableEqProd
instance decFunT : DecidableEq FunT := @instDecidableEqProd _ _ inferInstance (@instDecidableEqProd _ _ inferInstance (@instDecidableEqProd _ _ inferInstance (@instDecidableEqProd _ _ inferInstance (inferInstanceAs (DecidableEq (List InsT))))))
instance decClsT : DecidableEq ClsT := inferInstance
instance decPrgT : DecidableEq (List ClsT × List FunT) := @instDecidableEqProd _ _ inferInstance (inferInstanceAs (DecidableEq (List FunT)))
theorem insP_eq {f g : InsD} : (f.op == g.op && (f.a == g.a && f.b == g.b)) = decide (insP f = insP g) := by
  unfold insP
  by_cases h1 : f.op = g.op <;> by_cases h2 : f.a = g.a <;> by_cases h3 : f.b = g.b <;> simp [h1, h2, h3]
theorem prgP_eq {p q : PrgD} : decide (prgP p = prgP q) = (decide (p.classes.map clsP = q.classes.map clsP) && decide (p.funcs.map funP = q.funcs.map funP)) := by
  unfold prgP
  by_cases h1 : p.classes.map clsP = q.classes.map clsP <;> by_cases h2 : p.funcs.map funP = q.funcs.map funP <;> simp [h1, h2]
theorem funP_eq {f g : FunD} : funP f = funP g ↔ f.name.toList = g.name.toList ∧ f.params = g.params ∧ f.result = g.result ∧ f.locals = g.locals ∧ f.code.map insP = g.code.map insP := by
  unfold funP
  simp only [Prod.mk.injEq]
set_option maxRecDepth 100000 in
set_option maxHeartbeats 8000000 in
theorem rsame_any (w : World) (B : Nat) (u0 u1 t0 t1 : Value) (p q : PrgD) (hB : B ≤ w.heap.size) (h1 : RdPrg B w u0 u1 p) (h2 : RdPrg B w t0 t1 q) :
    Calls Try.prog 8 #[.agg #[u0, u1], .agg #[t0, t1]] w fun e w' => e = .returned (.bool (decide (prgP p = prgP q))) ∧ Below w.heap.size w w' := by
  obtain ⟨a0, c0, rfl⟩ := rd_shape h1.1
  obtain ⟨a1, c1, rfl⟩ := rd_shape h1.2
  obtain ⟨d0, e0, rfl⟩ := rd_shape h2.1
  obtain ⟨d1, e1, rfl⟩ := rd_shape h2.2
  have M1 : p.funcs.length ≤ maxLen := by obtain ⟨_, _, _, h, _⟩ := h1.2; exact h
  unfold maxLen at M1
  have k1 : Blk ((w.alloc (.cells #[.slice a0 p.classes.length c0, .slice a1 p.funcs.length c1] 27)).alloc (.cells #[.slice d0 q.classes.length e0, .slice d1 q.funcs.length e1] 27)) w.heap.size #[.slice a0 p.classes.length c0, .slice a1 p.funcs.length c1] 27 := (Blk.new _ _ _).alloc _
  have k2 : Blk ((w.alloc (.cells #[.slice a0 p.classes.length c0, .slice a1 p.funcs.length c1] 27)).alloc (.cells #[.slice d0 q.classes.length e0, .slice d1 q.funcs.length e1] 27)) (w.heap.size + 1) #[.slice d0 q.classes.length e0, .slice d1 q.funcs.length e1] 27 := Blk.new' (by simp)
  have hb0 : Below w.heap.size w ((w.alloc (.cells #[.slice a0 p.classes.length c0, .slice a1 p.funcs.length c1] 27)).alloc (.cells #[.slice d0 q.classes.length e0, .slice d1 q.funcs.length e1] 27)) := ((Below.refl _ _).alloc (Nat.le_refl _) _).alloc (by simp) _
  have CS := Lib.hid (rsclasses_any _ B _ _ _ _ (Nat.le_trans hB hb0.size) (h1.keep (hb0.mono hB)).1 (h2.keep (hb0.mono hB)).1)
  have R1 := Lib.hid (fun W (hb : Below B w W) i (hi : i < p.funcs.length) => rd_at (h1.keep hb).2 hi)
  have R2 := Lib.hid (fun W (hb : Below B w W) i (hi : i < q.funcs.length) => rd_at (h2.keep hb).2 hi)
  have HB := Lib.hid hB
  have PE := Lib.hid (prgP_eq (p := p) (q := q))
  have hb := Lib.hid hb0
  have x0 := k1.val 0 rfl
  have y0 := k2.val 0 rfl
  clear h1 h2 hB hb0
  go_enter Try.func8, Try.ntmps8
  go_wp2_with fail
  refine CS.out.mono ?_
  rintro e9 w1 ⟨rfl, hb1⟩
  have n1 := k1.grew hb1
  have n2 := k2.grew hb1
  have HW := Lib.hid (hb.out.trans (hb1.mono hb.out.size))
  clear hb1 hb CS x0 y0 k1 k2
  have x0 := n1.val 0 rfl
  have x1 := n1.val 1 rfl
  have y0 := n2.val 0 rfl
  have y1 := n2.val 1 rfl
  have hG := guard_ins
  by_cases hcl : p.classes.map clsP = q.classes.map clsP
  · have hcl' : decide (p.classes.map clsP = q.classes.map clsP) = true := by simpa using hcl
    have HCL := Lib.hid hcl
    clear hcl
    by_cases hn : p.funcs.length = q.funcs.length
    · have hne : ((p.funcs.length : Int) != (q.funcs.length : Int)) = false := by simp [hn]
      have HN := Lib.hid hn
      have HK1 := Lib.hid n1
      have HK2 := Lib.hid n2
      clear hn n1 n2
      go_wp2
      go_loopw [5] (fun i wr => ∃ k : Nat, k ≤ p.funcs.length ∧ i = .int .i64 k ∧ Below w1.heap.size w1 wr ∧ ∀ j, (j1 : j < p.funcs.length) → (j2 : j < q.funcs.length) → j < k → funP p.funcs[j] = funP q.funcs[j]) (fun i _ => p.funcs.length - (intOf i).toNat)
      case atStart => exact ⟨0, Nat.zero_le _, rfl, Below.refl _ _, fun j _ _ h => absurd h (by omega)⟩
      case round =>
        obtain ⟨k, hk, rfl, hq, hj⟩ := hrel
        have HJ := Lib.hid hj
        have HQ := Lib.hid hq
        have k1 := HK1.out.grew hq
        have k2 := HK2.out.grew hq
        clear hj hq x0 x1 y0 y1
        have x1 := k1.val 1 rfl
        have y1 := k2.val 1 rfl
        by_cases hlt : k < p.funcs.length
        · have hlt2 : k < q.funcs.length := by have := HN.out; omega
          have hlt' : (k : Int) < (p.funcs.length : Int) := by omega
          have i1 : (0 : Int) ≤ (k : Int) ∧ (k : Int) < (p.funcs.length : Int) := ⟨by omega, by omega⟩
          have i2 : (0 : Int) ≤ (k : Int) ∧ (k : Int) < (q.funcs.length : Int) := ⟨by omega, by omega⟩
          have m1 : 0 < p.funcs.length := by omega
          have m2 : 0 < q.funcs.length := by omega
          have hbw : Below B w wr := (HW.out.trans (HQ.out.mono HW.out.size)).mono HB.out
          obtain ⟨b1, o1, rfl, _, f0, ⟨fv1, f1, g1⟩, ⟨f2, _⟩, ⟨fv3, f3, g3⟩, fv4, f4, g4⟩ := R1.out wr hbw k hlt
          have HM : Hid (¬ funP p.funcs[k] = funP q.funcs[k] → ¬ p.funcs.map funP = q.funcs.map funP) := map_ne_at hlt hlt2
          have HE : Hid (∀ (j1 : k < p.funcs.length) (j2 : k < q.funcs.length), funP (p.funcs[k]'j1) = funP (p.funcs[k]'hlt) ∧ funP (q.funcs[k]'j2) = funP (q.funcs[k]'hlt2)) := fun _ _ => ⟨rfl, rfl⟩
          obtain ⟨fa1, fc1, rfl⟩ := rd_shape g1
          obtain ⟨fa3, fc3, rfl⟩ := rd_shape g3
          obtain ⟨fa4, fc4, rfl⟩ := rd_shape g4
          have R2k := Lib.hid (fun W (hb : Below B w W) => R2.out W hb k hlt2)
          generalize p.funcs[k] = fn at *
          generalize q.funcs[k] = gn at *
          have bC : Below wr.heap.size wr (wr.alloc (.cells #[.string fn.name, .slice fa1 fn.params.length fc1, .int .i64 fn.result, .slice fa3 fn.locals.length fc3, .slice fa4 fn.code.length fc4] 45)) := (Below.refl _ _).alloc (Nat.le_refl _) _
          have kC : Blk (wr.alloc (.cells #[.string fn.name, .slice fa1 fn.params.length fc1, .int .i64 fn.result, .slice fa3 fn.locals.length fc3, .slice fa4 fn.code.length fc4] 45)) wr.heap.size #[.string fn.name, .slice fa1 fn.params.length fc1, .int .i64 fn.result, .slice fa3 fn.locals.length fc3, .slice fa4 fn.code.length fc4] 45 := Blk.new _ _ _
          have hsz : B ≤ wr.heap.size := Nat.le_trans HB.out (Nat.le_trans HW.out.size HQ.out.size)
          have hbw2 : Below B w _ := hbw.trans (bC.mono hsz)
          have y1a := (k2.grew bC).val 1 rfl
          have G1 := Lib.hid (fun W (hb : Below B wr W) => g1.keep hb fun _ _ _ e r => r.keep hb e)
          have G3 := Lib.hid (fun W (hb : Below B wr W) => g3.keep hb fun _ _ _ e r => r.keep hb e)
          have G4 := Lib.hid (fun W (hb : Below B wr W) => g4.keep hb fun _ _ _ e r => r.keep hb e)
          have BC := Lib.hid bC
          have BW := Lib.hid hbw
          have HSZ := Lib.hid hsz
          have K1 := Lib.hid k1
          have K2 := Lib.hid k2
          clear g1 g3 g4 bC hbw k1 k2 hsz
          obtain ⟨b2, o2, rfl, _, h0, ⟨gv1, h1, l1⟩, ⟨h2, _⟩, ⟨gv3, h3, l3⟩, gv4, h4, l4⟩ := R2k.out _ hbw2
          obtain ⟨ga1, gc1, rfl⟩ := rd_shape l1
          obtain ⟨ga3, gc3, rfl⟩ := rd_shape l3
          obtain ⟨ga4, gc4, rfl⟩ := rd_shape l4
          have bD : Below wr.heap.size (wr.alloc (.cells #[.string fn.name, .slice fa1 fn.params.length fc1, .int .i64 fn.result, .slice fa3 fn.locals.length fc3, .slice fa4 fn.code.length fc4] 45)) ((wr.alloc (.cells #[.string fn.name, .slice fa1 fn.params.length fc1, .int .i64 fn.result, .slice fa3 fn.locals.length fc3, .slice fa4 fn.code.length fc4] 45)).alloc (.cells #[.string gn.name, .slice ga1 gn.params.length gc1, .int .i64 gn.result, .slice ga3 gn.locals.length gc3, .slice ga4 gn.code.length gc4] 45)) := (Below.refl _ _).alloc (by simp) _
          have bE := BC.out.trans bD
          have kF : Blk ((wr.alloc (.cells #[.string fn.name, .slice fa1 fn.params.length fc1, .int .i64 fn.result, .slice fa3 fn.locals.length fc3, .slice fa4 fn.code.length fc4] 45)).alloc (.cells #[.string gn.name, .slice ga1 gn.params.length gc1, .int .i64 gn.result, .slice ga3 gn.locals.length gc3, .slice ga4 gn.code.length gc4] 45)) wr.heap.size #[.string fn.name, .slice fa1 fn.params.length fc1, .int .i64 fn.result, .slice fa3 fn.locals.length fc3, .slice fa4 fn.code.length fc4] 45 := kC.alloc _
          have kG : Blk ((wr.alloc (.cells #[.string fn.name, .slice fa1 fn.params.length fc1, .int .i64 fn.result, .slice fa3 fn.locals.length fc3, .slice fa4 fn.code.length fc4] 45)).alloc (.cells #[.string gn.name, .slice ga1 gn.params.length gc1, .int .i64 gn.result, .slice ga3 gn.locals.length gc3, .slice ga4 gn.code.length gc4] 45)) (wr.heap.size + 1) #[.string gn.name, .slice ga1 gn.params.length gc1, .int .i64 gn.result, .slice ga3 gn.locals.length gc3, .slice ga4 gn.code.length gc4] 45 := Blk.new' (by simp)
          have hF0 := bD.mono HSZ.out
          have hF1 := bE.mono HSZ.out
          have IN1 := Lib.hid (rsints_any _ B _ _ _ _ (G1.out _ hF1) (l1.keep hF0 fun _ _ _ e r => r.keep hF0 e))
          have IN2 := Lib.hid (fun W (hq : Quiet ((wr.alloc (.cells #[.string fn.name, .slice fa1 fn.params.length fc1, .int .i64 fn.result, .slice fa3 fn.locals.length fc3, .slice fa4 fn.code.length fc4] 45)).alloc (.cells #[.string gn.name, .slice ga1 gn.params.length gc1, .int .i64 gn.result, .slice ga3 gn.locals.length gc3, .slice ga4 gn.code.length gc4] 45)) W) => rsints_any W B _ _ _ _ (G3.out W (hF1.trans (Quiet.below hq))) (l3.keep (hF0.trans (Quiet.below hq)) fun _ _ _ e r => r.keep (hF0.trans (Quiet.below hq)) e))
          have C1 := Lib.hid (fun i (hi : i < fn.code.length) => rd_at (G4.out _ hF1) hi)
          have C2 := Lib.hid (fun i (hi : i < gn.code.length) => rd_at (l4.keep hF0 fun _ _ _ e r => r.keep hF0 e) hi)
          have FE := Lib.hid (@funP_eq fn gn)
          have BE := Lib.hid bE
          have KF := Lib.hid kF
          have KG := Lib.hid kG
          have z0 := kF.val 0 rfl
          have z1 := kF.val 1 rfl
          have z2 := kF.val 2 rfl
          have z3 := kF.val 3 rfl
          have z4 := kF.val 4 rfl
          have q0 := kG.val 0 rfl
          have q1 := kG.val 1 rfl
          have q2 := kG.val 2 rfl
          have q3 := kG.val 3 rfl
          have q4 := kG.val 4 rfl
          have M4 : fn.code.length ≤ maxLen := by obtain ⟨_, _, _, h, _⟩ := G4.out _ (Below.refl _ _); exact h
          unfold maxLen at M4
          clear l1 l3 l4 bD bE kF kG kC hF0 hF1 hbw2
          by_cases ca : fn.name.toList = gn.name.toList
          · have va : (fn.name.toList == gn.name.toList) = true := by simpa using ca
            have HA := Lib.hid ca
            clear ca
            by_cases cb : fn.result = gn.result
            · have vb : (fn.result != gn.result) = false := by simpa using cb
              have HBB := Lib.hid cb
              clear cb
              by_cases cc : fn.params = gn.params
              · have vc : decide (fn.params = gn.params) = true := by simpa using cc
                have HC := Lib.hid cc
                clear cc
                by_cases cd : fn.locals = gn.locals
                · have vd : decide (fn.locals = gn.locals) = true := by simpa using cd
                  have HD := Lib.hid cd
                  clear cd
                  by_cases ce : fn.code.length = gn.code.length
                  · have ve : ((fn.code.length : Int) != (gn.code.length : Int)) = false := by simp [ce]
                    have HEE := Lib.hid ce
                    clear ce
                    go_wp2_with fail
                    refine IN1.out.mono ?_
                    rintro e9 w3 ⟨rfl, hq3⟩
                    replace z0 := (hq3.cell _).trans z0
                    replace q0 := (hq3.cell _).trans q0
                    replace z1 := (hq3.cell _).trans z1
                    replace q1 := (hq3.cell _).trans q1
                    replace z2 := (hq3.cell _).trans z2
                    replace q2 := (hq3.cell _).trans q2
                    replace z3 := (hq3.cell _).trans z3
                    replace q3 := (hq3.cell _).trans q3
                    replace z4 := (hq3.cell _).trans z4
                    replace q4 := (hq3.cell _).trans q4
                    have HQ3 := Lib.hid hq3
                    clear hq3
                    have IN := Lib.hid (IN2.out w3 HQ3.out)
                    go_wp2_with fail
                    refine IN.out.mono ?_
                    rintro e9 w4 ⟨rfl, hq4⟩
                    replace z0 := (hq4.cell _).trans z0
                    replace q0 := (hq4.cell _).trans q0
                    replace z1 := (hq4.cell _).trans z1
                    replace q1 := (hq4.cell _).trans q1
                    replace z2 := (hq4.cell _).trans z2
                    replace q2 := (hq4.cell _).trans q2
                    replace z3 := (hq4.cell _).trans z3
                    replace q3 := (hq4.cell _).trans q3
                    replace z4 := (hq4.cell _).trans z4
                    replace q4 := (hq4.cell _).trans q4
                    have HQ4 := Lib.hid (HQ3.out.trans hq4)
                    clear hq4
                    go_wp2
                    go_loopw [8] (fun i wr2 => ∃ x : Nat, x ≤ fn.code.length ∧ i = .int .i64 x ∧ Quiet w4 wr2 ∧ ∀ j, (j1 : j < fn.code.length) → (j2 : j < gn.code.length) → j < x → insP fn.code[j] = insP gn.code[j]) (fun i _ => fn.code.length - (intOf i).toNat)
                    case atStart => exact ⟨0, Nat.zero_le _, rfl, Quiet.refl _, fun j _ _ h => absurd h (by omega)⟩
                    case round =>
                      obtain ⟨x, hx, rfl, hqx, hjx⟩ := hrel
                      have HJX := Lib.hid hjx
                      have HQX := Lib.hid (HQ4.out.trans hqx)
                      have HQY := Lib.hid hqx
                      replace z4 := (hqx.cell _).trans z4
                      replace q4 := (hqx.cell _).trans q4
                      clear hjx hqx z0 z1 z2 z3 q0 q1 q2 q3
                      by_cases hltx : x < fn.code.length
                      · have hltx2 : x < gn.code.length := by have := HEE.out; omega
                        obtain ⟨b4, o4, rfl, _, r0, r1, r2, _⟩ := C1.out x hltx
                        obtain ⟨b5, o5, rfl, _, s0, s1, s2, _⟩ := C2.out x hltx2
                        replace r0 := (HQX.out.cell _).trans r0
                        replace r1 := (HQX.out.cell _).trans r1
                        replace r2 := (HQX.out.cell _).trans r2
                        replace s0 := (HQX.out.cell _).trans s0
                        replace s1 := (HQX.out.cell _).trans s1
                        replace s2 := (HQX.out.cell _).trans s2
                        have hltx' : (x : Int) < (fn.code.length : Int) := by omega
                        have hltx2' : (x : Int) < (gn.code.length : Int) := by omega
                        have hgex' : (0 : Int) ≤ (x : Int) := by omega
                        have FP := Lib.hid (@insP_eq fn.code[x] gn.code[x])
                        have hE := fun W => neq_ins W fn.code[x].op fn.code[x].a fn.code[x].b gn.code[x].op gn.code[x].a gn.code[x].b
                        have HMX : Hid (¬ insP fn.code[x] = insP gn.code[x] → ¬ fn.code.map insP = gn.code.map insP) := map_ne_at hltx hltx2
                        have HEX : Hid (∀ (j1 : x < fn.code.length) (j2 : x < gn.code.length), insP (fn.code[x]'j1) = insP (fn.code[x]'hltx) ∧ insP (gn.code[x]'j2) = insP (gn.code[x]'hltx2)) := fun _ _ => ⟨rfl, rfl⟩
                        generalize fn.code[x] = e1 at *
                        generalize gn.code[x] = e2 at *
                        rcases e1 with ⟨ea, eb, ec⟩
                        rcases e2 with ⟨ga, gb, gc⟩
                        simp only at r0 r1 r2 s0 s1 s2 hE
                        by_cases hy : insP ⟨ea, eb, ec⟩ = insP ⟨ga, gb, gc⟩
                        · have hv : (ea == ga && (eb == gb && ec == gc)) = true := by rw [show (ea == ga && (eb == gb && ec == gc)) = decide (insP ⟨ea, eb, ec⟩ = insP ⟨ga, gb, gc⟩) from FP.out]; simpa using hy
                          have HY := Lib.hid hy
                          clear hy
                          go_wp2
                          go_quiet (fail)
                          go_wp2
                          go_roundw
                          case rel => exact ⟨x + 1, by omega, by go_num, HQY.out.trans ⟨_, rfl⟩, fun j j1 j2 j3 => by
                            rcases Nat.lt_or_ge j x with h | h
                            · exact HJX.out j j1 j2 h
                            · obtain rfl : j = x := by omega
                              exact (HEX.out j1 j2).1.trans (HY.out.trans (HEX.out j1 j2).2.symm)⟩
                          case measure => simp [intOf]; omega
                        · have hv : (ea == ga && (eb == gb && ec == gc)) = false := by rw [show (ea == ga && (eb == gb && ec == gc)) = decide (insP ⟨ea, eb, ec⟩ = insP ⟨ga, gb, gc⟩) from FP.out]; simpa using hy
                          have HY := Lib.hid hy
                          clear hy
                          go_wp2
                          go_quiet (fail)
                          go_wp2
                          go_ret
                          exact ⟨ret_bool (by rw [PE.out]; simp [HM.out fun e => HMX.out HY.out (FE.out.1 e).2.2.2.2]), HW.out.trans ((HQ.out.trans ((BE.out.trans (Quiet.below (HQX.out.trans ⟨_, rfl⟩))).mono HQ.out.size)).mono HW.out.size)⟩
                      · have hltx' : ¬ (x : Int) < (fn.code.length : Int) := by omega
                        have HF : Hid (funP fn = funP gn) := FE.out.2 ⟨HA.out, HC.out, HBB.out, HD.out, map_eq_of HEE.out fun i i1 i2 => HJX.out i i1 i2 (by omega)⟩
                        go_wp2
                        go_roundw
                        case rel => exact ⟨k + 1, by omega, by go_num, HQ.out.trans ((BE.out.trans (Quiet.below HQX.out)).mono HQ.out.size), fun j j1 j2 j3 => by
                          rcases Nat.lt_or_ge j k with h | h
                          · exact HJ.out j j1 j2 h
                          · obtain rfl : j = k := by omega
                            exact (HE.out j1 j2).1.trans (HF.out.trans (HE.out j1 j2).2.symm)⟩
                        case measure => simp [intOf]; omega
                  · have ve : ((fn.code.length : Int) != (gn.code.length : Int)) = true := by simp; omega
                    have HEE := Lib.hid ce
                    clear ce
                    go_wp2_with fail
                    refine IN1.out.mono ?_
                    rintro e9 w3 ⟨rfl, hq3⟩
                    replace z0 := (hq3.cell _).trans z0
                    replace q0 := (hq3.cell _).trans q0
                    replace z1 := (hq3.cell _).trans z1
                    replace q1 := (hq3.cell _).trans q1
                    replace z2 := (hq3.cell _).trans z2
                    replace q2 := (hq3.cell _).trans q2
                    replace z3 := (hq3.cell _).trans z3
                    replace q3 := (hq3.cell _).trans q3
                    replace z4 := (hq3.cell _).trans z4
                    replace q4 := (hq3.cell _).trans q4
                    have HQ3 := Lib.hid hq3
                    clear hq3
                    have IN := Lib.hid (IN2.out w3 HQ3.out)
                    go_wp2_with fail
                    refine IN.out.mono ?_
                    rintro e9 w4 ⟨rfl, hq4⟩
                    replace z0 := (hq4.cell _).trans z0
                    replace q0 := (hq4.cell _).trans q0
                    replace z1 := (hq4.cell _).trans z1
                    replace q1 := (hq4.cell _).trans q1
                    replace z2 := (hq4.cell _).trans z2
                    replace q2 := (hq4.cell _).trans q2
                    replace z3 := (hq4.cell _).trans z3
                    replace q3 := (hq4.cell _).trans q3
                    replace z4 := (hq4.cell _).trans z4
                    replace q4 := (hq4.cell _).trans q4
                    have HQ4 := Lib.hid (HQ3.out.trans hq4)
                    clear hq4
                    go_wp2
                    go_ret
                    exact ⟨ret_bool (by rw [PE.out]; simp [HM.out fun e => HEE.out (by simpa using congrArg List.length (FE.out.1 e).2.2.2.2)]), HW.out.trans ((HQ.out.trans ((BE.out.trans (Quiet.below HQ4.out)).mono HQ.out.size)).mono HW.out.size)⟩
                · have vd : decide (fn.locals = gn.locals) = false := by simpa using cd
                  have HD := Lib.hid cd
                  clear cd
                  go_wp2_with fail
                  refine IN1.out.mono ?_
                  rintro e9 w3 ⟨rfl, hq3⟩
                  replace z0 := (hq3.cell _).trans z0
                  replace q0 := (hq3.cell _).trans q0
                  replace z1 := (hq3.cell _).trans z1
                  replace q1 := (hq3.cell _).trans q1
                  replace z2 := (hq3.cell _).trans z2
                  replace q2 := (hq3.cell _).trans q2
                  replace z3 := (hq3.cell _).trans z3
                  replace q3 := (hq3.cell _).trans q3
                  replace z4 := (hq3.cell _).trans z4
                  replace q4 := (hq3.cell _).trans q4
                  have HQ3 := Lib.hid hq3
                  clear hq3
                  have IN := Lib.hid (IN2.out w3 HQ3.out)
                  go_wp2_with fail
                  refine IN.out.mono ?_
                  rintro e9 w4 ⟨rfl, hq4⟩
                  replace z0 := (hq4.cell _).trans z0
                  replace q0 := (hq4.cell _).trans q0
                  replace z1 := (hq4.cell _).trans z1
                  replace q1 := (hq4.cell _).trans q1
                  replace z2 := (hq4.cell _).trans z2
                  replace q2 := (hq4.cell _).trans q2
                  replace z3 := (hq4.cell _).trans z3
                  replace q3 := (hq4.cell _).trans q3
                  replace z4 := (hq4.cell _).trans z4
                  replace q4 := (hq4.cell _).trans q4
                  have HQ4 := Lib.hid (HQ3.out.trans hq4)
                  clear hq4
                  go_wp2
                  go_ret
                  exact ⟨ret_bool (by rw [PE.out]; simp [HM.out fun e => HD.out (FE.out.1 e).2.2.2.1]), HW.out.trans ((HQ.out.trans ((BE.out.trans (Quiet.below HQ4.out)).mono HQ.out.size)).mono HW.out.size)⟩
              · have vc : decide (fn.params = gn.params) = false := by simpa using cc
                have HC := Lib.hid cc
                clear cc
                go_wp2_with fail
                refine IN1.out.mono ?_
                rintro e9 w3 ⟨rfl, hq3⟩
                replace z0 := (hq3.cell _).trans z0
                replace q0 := (hq3.cell _).trans q0
                replace z1 := (hq3.cell _).trans z1
                replace q1 := (hq3.cell _).trans q1
                replace z2 := (hq3.cell _).trans z2
                replace q2 := (hq3.cell _).trans q2
                replace z3 := (hq3.cell _).trans z3
                replace q3 := (hq3.cell _).trans q3
                replace z4 := (hq3.cell _).trans z4
                replace q4 := (hq3.cell _).trans q4
                have HQ3 := Lib.hid hq3
                clear hq3
                go_wp2
                go_ret
                exact ⟨ret_bool (by rw [PE.out]; simp [HM.out fun e => HC.out (FE.out.1 e).2.1]), HW.out.trans ((HQ.out.trans ((BE.out.trans (Quiet.below HQ3.out)).mono HQ.out.size)).mono HW.out.size)⟩
            · have vb : (fn.result != gn.result) = true := by simpa using cb
              have HBB := Lib.hid cb
              clear cb
              go_wp2
              go_ret
              exact ⟨ret_bool (by rw [PE.out]; simp [HM.out fun e => HBB.out (FE.out.1 e).2.2.1]), HW.out.trans ((HQ.out.trans ((BE.out.trans (Below.refl _ _)).mono HQ.out.size)).mono HW.out.size)⟩
          · have va : (fn.name.toList == gn.name.toList) = false := by simpa using ca
            have HA := Lib.hid ca
            clear ca
            go_wp2
            go_ret
            exact ⟨ret_bool (by rw [PE.out]; simp [HM.out fun e => HA.out (FE.out.1 e).1]), HW.out.trans ((HQ.out.trans ((BE.out.trans (Below.refl _ _)).mono HQ.out.size)).mono HW.out.size)⟩
        · have hlt' : ¬ (k : Int) < (p.funcs.length : Int) := by omega
          go_wp2
          go_ret
          exact ⟨ret_bool (by rw [PE.out]; simp [HCL.out, map_eq_of HN.out fun i i1 i2 => HJ.out i i1 i2 (by omega)]), HW.out.trans (HQ.out.mono HW.out.size)⟩
    · have hne : ((p.funcs.length : Int) != (q.funcs.length : Int)) = true := by simp; omega
      have HM := Lib.hid (map_ne_len (f := funP) hn)
      clear hn
      go_wp2
      go_ret
      exact ⟨ret_bool (by rw [PE.out]; simp [HM.out]), HW.out⟩
  · have hcl' : decide (p.classes.map clsP = q.classes.map clsP) = false := by simpa using hcl
    have HCL := Lib.hid hcl
    clear hcl
    go_wp2
    go_ret
    exact ⟨ret_bool (by rw [PE.out]; simp [HCL.out]), HW.out⟩
end Go.Proofs.Ytffelcidckbohaa
/- Rows of structs of one's own: flat lists, an append of a foreign slice to nothing, what a row reads as. No condition. -/
namespace Go.Proofs.Ytffelcidckbohaa
open Go.RowKit
set_option linter.unusedVariables false
theorem op_atC {l : List Oper} {i : Nat} {o : Oper} (h : l[i]? = some o) : l.toArray[i]? = some o := by simpa using h
theorem flat_len {α : Type} (f : α → List Value) (k : Nat) (hk : ∀ x, (f x).length = k) : ∀ l : List α, (l.flatMap f).length = l.length * k
  | [] => by simp
  | x :: r => by rw [List.flatMap_cons, List.length_append, hk, flat_len f k hk r, List.length_cons, Nat.add_mul]; omega
theorem flat_at {α : Type} (f : α → List Value) (k : Nat) (hk : ∀ x, (f x).length = k) : ∀ (l : List α) (i j : Nat) (hi : i < l.length), j < k → (l.flatMap f)[i * k + j]? = (f (l[i]'hi))[j]?
  | x :: r, 0, j, hi, hj => by
    rw [List.flatMap_cons, List.getElem?_append_left (by rw [hk]; omega)]
    simp
  | x :: r, i + 1, j, hi, hj => by
    rw [List.flatMap_cons, List.getElem?_append_right (by rw [hk, Nat.add_mul]; omega), hk, show (i + 1) * k + j - k = i * k + j by rw [Nat.add_mul]; omega]
    exact flat_at f k hk r i j (by simpa using hi) hj
theorem flat_in {α : Type} {f : α → List Value} {l : List α} (h : ∀ x, ∀ u ∈ f x, u.oneCell' = true) : ∀ u ∈ l.flatMap f, u.oneCell' = true := by
  intro u hu
  obtain ⟨x, _, hx⟩ := List.mem_flatMap.1 hu
  exact h x u hx
theorem own_grewG {w w' : World} {base : Nat} {e : TypeId} {size : Nat} {v : Value} {n : Nat} {xs : List Value} (h : w.ownsRow base e size v n xs) (hb : Below w.heap.size w w') : w'.ownsRow base e size v n xs := by
  obtain ⟨e1, e2⟩ := h
  refine ⟨e1, ?_⟩
  rcases e2 with e2 | ⟨g, cap, cur, a1, a2, a3, a4⟩
  · exact .inl e2
  · exact .inr ⟨g, cap, cur, a1, a2, (hb.block g (Array.getElem?_eq_some_iff.1 a3).1).trans a3, a4⟩
theorem own_touch {R : Nat → Prop} {w w' : World} {base : Nat} {e : TypeId} {size : Nat} {v : Value} {n : Nat} {xs : List Value} (h : w.ownsRow base e size v n xs) (hT : Touch R w w') (hr : ∀ g, v.ownBlock = some g → ¬ R g) : w'.ownsRow base e size v n xs := by
  obtain ⟨e1, e2⟩ := h
  refine ⟨e1, ?_⟩
  rcases e2 with e2 | ⟨g, cap, cur, a1, a2, a3, a4⟩
  · exact .inl e2
  · exact .inr ⟨g, cap, cur, a1, a2, (hT.block g (Array.getElem?_eq_some_iff.1 a3).1 (hr g (by rw [a1]; rfl))).trans a3, a4⟩
theorem own_sub {w : World} {b b' : Nat} {e : TypeId} {size : Nat} {v : Value} {n : Nat} {xs : List Value} (h : w.ownsRow b e size v n xs) (hb : b' ≤ b) : w.ownsRow b' e size v n xs := by
  obtain ⟨e1, e2⟩ := h
  refine ⟨e1, ?_⟩
  rcases e2 with e2 | ⟨g, cap, cur, a1, a2, a3⟩
  · exact .inl e2
  · exact .inr ⟨g, cap, cur, a1, by omega, a3⟩
theorem own_ltG {w : World} {b : Nat} {e : TypeId} {size : Nat} {v : Value} {n : Nat} {xs : List Value} (h : w.ownsRow b e size v n xs) {g : Nat} (hg : v.ownBlock = some g) : b ≤ g ∧ g < w.heap.size := by
  rcases h.2 with ⟨h1, _⟩ | ⟨q, cap, cur, a1, a2, a3, _⟩
  · rw [h1] at hg; cases hg
  · rw [a1] at hg
    obtain rfl : q = g := Option.some.inj hg
    exact ⟨a2, (Array.getElem?_eq_some_iff.1 a3).1⟩
/-- the cells of a row of one's own -/
theorem own_cellG {w : World} {b : Nat} {e : TypeId} {size : Nat} {v : Value} {n : Nat} {xs : List Value} (h : w.ownsRow b e size v n xs) (hn : 0 < n) : ∃ g cap, v = .slice (some ⟨g, 0, none⟩) n cap ∧ b ≤ g ∧ g < w.heap.size ∧ n ≤ cap ∧ cap ≤ maxLen ∧ ∀ j u, xs[j]? = some u → w.cell? ⟨g, j, none⟩ = some u := by
  obtain ⟨e1, e2⟩ := h
  rcases e2 with ⟨_, h0⟩ | ⟨g, cap, cur, a1, a2, a3, a4, a5, a6, a7⟩
  · omega
  · refine ⟨g, cap, a1, a2, (Array.getElem?_eq_some_iff.1 a3).1, a4, a5, fun j u hu => ?_⟩
    rw [cell_of_row w g j cur e (0, 0) a3]
    rw [← a7] at hu
    have h5 := (List.getElem?_eq_some_iff.1 hu).1
    rw [List.length_take] at h5
    rw [List.getElem?_take, if_pos (by omega)] at hu
    simpa using hu
/-- append of a slice of somebody else's to nothing -/
theorem app_nil {e t : TypeId} {sz bytes : Nat} {z : Value} {i0 : TypeInfo} (ht : Try.prog.underlying t = some (.slice e)) (hi : Try.prog.info? e = some i0) (hz : i0.zero = some z) (hs : i0.size = sz) (hb : i0.bytes = bytes) (hzs : z.cells.size = sz) (hsz : 0 < sz)
    (w : World) (ty : TypeId) (a : Option Addr) (n c : Nat) (news : List Value) (hl : news.length = n * sz) (h1 : ∀ u ∈ news, u.oneCell' = true) (hnews : ∀ j u, news[j]? = some u → ∃ ad, a = some ad ∧ w.cell? (ad.add j) = some u) (hn : n ≤ 1000) (hby : bytes ≤ 1000) :
    ∃ v' w', (Builtin.append_ #[t, t] ty #[.slice none 0 0, .slice a n c]).run Try.prog w = .ok v' w' ∧ w'.ownsRow w.heap.size e sz v' n news ∧ Below w.heap.size w w' := by
  cases a with
  | none =>
    have hn0 : n = 0 := by
      rcases Nat.eq_zero_or_pos n with h | h
      · exact h
      · have h2 : 0 < news.length := by rw [hl]; exact Nat.mul_pos h hsz
        obtain ⟨ad, h3, _⟩ := hnews 0 _ (List.getElem?_eq_getElem h2)
        cases h3
    subst hn0
    have hnn : news = [] := List.eq_nil_of_length_eq_zero (by omega)
    subst hnn
    refine ⟨.slice none 0 0, w, ?_, ⟨by simp, .inl ⟨rfl, rfl⟩⟩, Below.refl _ _⟩
    have ht' := run_underlying (P := Try.prog) (w := w) ht
    simp [Builtin.append_, ht', sizeOf, typeInfo, hi, Builtin.lenOf, Builtin.firstCells]
  | some ad =>
    obtain ⟨v', w', hr, h2, h3, _⟩ := run_append_own_at (P := Try.prog) w w.heap.size t ty e i0 z sz bytes ht hi hz hs hb hzs hsz (.slice none 0 0) 0 [] ⟨by simp, .inl ⟨rfl, rfl⟩⟩ ad n c news hl (fun j u hu => by
      obtain ⟨ad', e1, e2⟩ := hnews j u hu
      obtain rfl := Option.some.inj e1
      exact e2) h1 (by unfold maxLen; omega) (by
        have : (0 + n) * bytes ≤ 1000 * 1000 := Nat.mul_le_mul (by omega) hby
        omega) (Nat.le_refl _)
    exact ⟨v', w', hr, by simpa using h2, (Below.refl _ _).grown h3 (Nat.le_refl _) (fun k hk => by cases hk)⟩
def fldC (f : FldD) : List Value := [.string f.name, .int .i64 f.ty]
def insC (f : InsD) : List Value := [.int .i64 f.op, .int .i64 f.a, .int .i64 f.b]
def intC (x : Int) : List Value := [.int .i64 x]
def clsC (x : ClsD × Value) : List Value := [.string x.1.name, x.2]
def funC (x : FunD × Value × Value × Value) : List Value := [.string x.1.name, x.2.1, .int .i64 x.1.result, x.2.2.1, x.2.2.2]
theorem add_at (b o k : Nat) : (⟨b, o, none⟩ : Addr).add k = ⟨b, o + k, none⟩ := by unfold Addr.add; split <;> simp_all
/-- what a foreign row's cells are, place by place -/
theorem rd_news {α : Type} {sz B : Nat} {el : World → Nat → Nat → α → Prop} {f : α → List Value} {w : World} {a : Option Addr} {n c : Nat} {l : List α} (hsz : 0 < sz) (hf : ∀ x, (f x).length = sz) (hel : ∀ b k x, el w b k x → ∀ j u, (f x)[j]? = some u → w.cell? ⟨b, k + j, none⟩ = some u) (h : RdRow sz el B w (.slice a n c) l) :
    ∀ j u, (l.flatMap f)[j]? = some u → ∃ ad, a = some ad ∧ w.cell? (ad.add j) = some u := by
  intro j u hu
  have hj := (List.getElem?_eq_some_iff.1 hu).1
  rw [flat_len f sz hf] at hj
  have hi : j / sz < l.length := Nat.div_lt_of_lt_mul (by rw [Nat.mul_comm]; exact hj)
  have hd : j / sz * sz + j % sz = j := by rw [Nat.mul_comm]; exact Nat.div_add_mod j sz
  have hfa := flat_at f sz hf l (j / sz) (j % sz) hi (Nat.mod_lt _ hsz)
  rw [hd, hu] at hfa
  obtain ⟨a', c', hv, _, hall⟩ := h
  injection hv with hv1 _ _
  subst hv1
  obtain ⟨b, o, e1, _, e3⟩ := hall _ hi
  refine ⟨_, e1, ?_⟩
  have := hel _ _ _ e3 _ _ hfa.symm
  rw [add_at, ← this, Nat.add_assoc, hd]
/-- a row of one's own reads as what it holds -/
theorem own_rd {α : Type} {sz B b : Nat} {el : World → Nat → Nat → α → Prop} {f : α → List Value} {e : TypeId} {w : World} {v : Value} {l : List α} (hsz : 0 < sz) (hf : ∀ x, (f x).length = sz) (h : w.ownsRow b e sz v l.length (l.flatMap f)) (hB : w.heap.size ≤ B)
    (hel : ∀ g k x, x ∈ l → (∀ j u, (f x)[j]? = some u → w.cell? ⟨g, k + j, none⟩ = some u) → el w g k x) : RdRow sz el B w v l := by
  rcases Nat.eq_zero_or_pos l.length with h0 | h0
  · obtain rfl := List.eq_nil_of_length_eq_zero h0
    obtain ⟨a, c, rfl⟩ := row_shape h
    exact ⟨a, c, rfl, by unfold maxLen; simp, fun i hi => absurd hi (by simp)⟩
  · obtain ⟨g, cap, rfl, q1, q2, q3, q4, q5⟩ := own_cellG h h0
    refine ⟨some ⟨g, 0, none⟩, cap, rfl, by omega, fun i hi => ⟨g, 0, rfl, by omega, hel _ _ _ (List.getElem_mem hi) fun j u hu => ?_⟩⟩
    have hj : j < sz := by
      have := (List.getElem?_eq_some_iff.1 hu).1
      rw [hf] at this
      exact this
    have := q5 (i * sz + j) u (by rw [flat_at f sz hf l i j hi hj]; exact hu)
    rw [Nat.zero_add]
    exact this
theorem info_fld : (Try.prog.info? 66).map (fun i => (i.zero, i.size, i.bytes)) = some (some (.agg #[.string ⟨#[]⟩, .int .i64 0]), 2, 24) := by kernel_rfl
theorem info_cls : (Try.prog.info? 52).map (fun i => (i.zero, i.size, i.bytes)) = some (some (.agg #[.string ⟨#[]⟩, .slice none 0 0]), 2, 40) := by kernel_rfl
theorem info_ins : (Try.prog.info? 41).map (fun i => (i.zero, i.size, i.bytes)) = some (some (.agg #[.int .i64 0, .int .i64 0, .int .i64 0]), 3, 24) := by kernel_rfl
theorem info_fun : (Try.prog.info? 45).map (fun i => (i.zero, i.size, i.bytes)) = some (some (.agg #[.string ⟨#[]⟩, .slice none 0 0, .int .i64 0, .slice none 0 0, .slice none 0 0]), 5, 96) := by kernel_rfl
theorem info_intC : (Try.prog.info? 3).map (fun i => (i.zero, i.size, i.bytes)) = some (some (.int .i64 0), 1, 8) := by kernel_rfl
end Go.Proofs.Ytffelcidckbohaa
/- code's reader: what a list of things read is, plainly. No condition. -/
namespace Go.Proofs.Ytffelcidckbohaa
open Go.RowKit
set_option linter.unusedVariables false
theorem after_bind {α β : Type} (st : St) (D : Nat → Rd α) (g : α → Nat → Rd β) : after st (fun p => bindD (D p) g) = bindD (after st D) g := by cases st <;> rfl
theorem num_le {bs : List UInt8} {most n : Nat} {st st1 : St} (h : Gets (after st (numD bs most)) n st1) (h0 : ∀ y, st1 = .error y → n = 0) : n ≤ most := by
  rcases h with ⟨p, h1, h2⟩ | ⟨x, h1, h2⟩
  · cases st with
    | error x => cases h1
    | ok q =>
      rw [after_ok, numD] at h1
      split at h1
      · cases h1
      · split at h1
        · cases h1
        · split at h1
          · cases h1
          · split at h1
            · cases h1
            · injection h1 with h1
              injection h1 with h1 h3
              omega
  · rw [h0 _ h2]; exact Nat.zero_le _
theorem gets_none {α : Type} (D : Nat → Rd α) (st : St) : Gets (after st (seqD D 0)) [] st := by
  cases st with
  | ok q => exact .inl ⟨q, rfl, rfl⟩
  | error x => exact .inr ⟨x, rfl, rfl⟩
theorem gets_one {α : Type} {D : Nat → Rd α} {st1 s s' : St} {i : Nat} {L : List α} {a : α} (h : Gets (after st1 (seqD D i)) L s) (h' : Gets (after s D) a s') : Gets (after st1 (seqD D (i + 1))) (L ++ [a]) s' := by
  have e : after st1 (seqD D (i + 1)) = bindD (after st1 (seqD D i)) fun l q => bindD (D q) fun a r => .ok (l ++ [a], r) := after_bind st1 (seqD D i) _
  rw [e]
  refine h.bind ?_
  rw [after_bind]
  exact h'.map fun a => L ++ [a]
theorem gets_late {α : Type} {D : Nat → Rd α} {st1 : St} {x : DErr} {i n : Nat} {L : List α} (h : Gets (after st1 (seqD D i)) L (.error x)) (hn : i ≤ n) : Gets (after st1 (seqD D n)) L (.error x) := by
  have h1 := h.err
  cases st1 with
  | error y => exact .inr ⟨x, h1, rfl⟩
  | ok q => exact .inr ⟨x, seqD_err h1 n hn, rfl⟩
theorem gets_list {α : Type} {bs : List UInt8} {D : Nat → Rd α} {st st1 s : St} {most n : Nat} {L : List α} (h : Gets (after st (numD bs most)) n st1) (h' : Gets (after st1 (seqD D n)) L s) : Gets (after st (listD bs D most)) L s := by
  have e : after st (listD bs D most) = bindD (after st (numD bs most)) fun n q => seqD D n q := after_bind st _ _
  rw [e]
  exact h.bind h'
/-- something was read: its value, the state behind it, what it owns -/
def ReadsV {α β : Type} (mk : α → Value) (π : α → β) (Inn : World → Nat → α → Prop) (t : TypeId) (B b : Nat) (bs : List UInt8) (r : Rd β) (w : World) (e' : Ending) (w' : World) : Prop :=
  ∃ (a : α) (st' : St), e' = .returned (mk a) ∧ Gets r (π a) st' ∧ Inn w' w.heap.size a ∧ RdS t w' B b bs st' ∧ RdT b w w'
/-- a list was read -/
def ReadsL {α β : Type} (Row : World → Nat → Value → List α → Prop) (π : α → β) (most : Nat) (t : TypeId) (B b : Nat) (bs : List UInt8) (r : Rd (List β)) (w : World) (e' : Ending) (w' : World) : Prop :=
  ∃ (v : Value) (l : List α) (st' : St), e' = .returned v ∧ Gets r (l.map π) st' ∧ l.length ≤ most ∧ Row w' w.heap.size v l ∧ RdS t w' B b bs st' ∧ RdT b w w'
def NoInn {α : Type} : World → Nat → α → Prop := fun _ _ _ => True
def OwnR {α : Type} (T : TypeId) (sz : Nat) (f : α → List Value) (w : World) (lo : Nat) (v : Value) (l : List α) : Prop := w.ownsRow lo T sz v l.length (l.flatMap f)
def bytC (x : UInt8) : List Value := [.int .u8 (x.toNat : Int)]
theorem own_app {α : Type} {T : TypeId} {sz : Nat} {f : α → List Value} {w : World} {lo : Nat} {v : Value} {l : List α} {a : α} (h : w.ownsRow lo T sz v (l.length + 1) (l.flatMap f ++ f a)) : OwnR T sz f w lo v (l ++ [a]) := by
  unfold OwnR
  rw [List.flatMap_append, List.length_append]
  simpa using h
theorem OwnR.nil {α : Type} (T : TypeId) (sz : Nat) (f : α → List Value) (w : World) (lo : Nat) : OwnR T sz f w lo (.slice none 0 0) [] := ⟨by simp, .inl ⟨rfl, rfl⟩⟩
theorem OwnR.touch {α : Type} {T : TypeId} {sz : Nat} {f : α → List Value} {w w' : World} {lo b : Nat} {v : Value} {l : List α} (h : OwnR T sz f w lo v l) (hT : RdT b w w') (hb : b < lo) : OwnR T sz f w' lo v l :=
  own_touch h hT (fun g hg e => by have := (own_ltG h hg).1; omega)
/-- behind an append to a row of one's own: the reader is as it was -/
theorem list_kept {t : TypeId} {w W2 W3 : World} {B b : Nat} {bs : List UInt8} {s : St} {T : TypeId} {sz n : Nat} {v : Value} {xs : List Value} {o : Obj} (h : RdS t W2 B b bs s) (hb : b < w.heap.size) (hO : W2.ownsRow w.heap.size T sz v n xs) (hg : (W2.alloc o).grownBy W3 v.ownBlock) (hT : RdT b w W2) :
    RdS t W3 B b bs s ∧ RdT b w W3 := by
  have hT2 : Touch (fun x => w.heap.size ≤ x) W2 W3 := ((Touch.refl _ W2).alloc o).grown hg (fun k hk => .inl (own_ltG hO hk).1)
  have hB := h.bb
  refine ⟨h.touch hT2 (fun x hx => ⟨by omega, by omega⟩), ?_⟩
  exact Touch.mono (R := fun x => x = b ∨ w.heap.size ≤ x) ((hT.mono fun x _ hx => .inl hx).trans (hT2.mono fun x _ hx => .inr hx)) fun k hk hx => hx.elim id fun q => by omega
/-- behind stores into blocks of one's own -/
theorem new_kept {t : TypeId} {w W2 W3 : World} {B b : Nat} {bs : List UInt8} {s : St} (h : RdS t W2 B b bs s) (hb : b < w.heap.size) (hT : RdT b w W2) (hT2 : Touch (fun x => w.heap.size ≤ x) W2 W3) : RdS t W3 B b bs s ∧ RdT b w W3 := by
  have hB := h.bb
  refine ⟨h.touch hT2 (fun x hx => ⟨by omega, by omega⟩), ?_⟩
  exact Touch.mono (R := fun x => x = b ∨ w.heap.size ≤ x) ((hT.mono fun x _ hx => .inl hx).trans (hT2.mono fun x _ hx => .inr hx)) fun k hk hx => hx.elim id fun q => by omega
end Go.Proofs.Ytffelcidckbohaa
/- code's reader: list, at bytes. Condition: what a call of the closure does is given. -/
namespace Go.Proofs.Ytffelcidckbohaa
open Go.RowKit
set_option linter.unusedVariables false
set_option maxRecDepth 100000 in
set_option maxHeartbeats 2000000 in
theorem list_byt (t : TypeId) (w : World) (B b : Nat) (bs : List UInt8) (st : St) (most : Nat) (h : RdS t w B b bs st) (hm : most ≤ 1000)
    (ST : Hid (∀ (W : World) (s : St), RdS t W B b bs s → Calls Try.prog 37 #[.pointer (some ⟨b, 0, none⟩)] W (ReadsV (fun x : UInt8 => Value.int .u8 (x.toNat : Int)) (fun x => x) NoInn t B b bs (after s (nextD bs)) W))) :
    Calls Try.prog 60 #[.pointer (some ⟨b, 0, none⟩), .int .i64 most, .func (.func 37) #[.pointer (some ⟨b, 0, none⟩)] #[]] w (ReadsL (OwnR 5 1 bytC) (fun x => x) most t B b bs (after st (listD bs (nextD bs) most)) w) := by
  obtain ⟨i0, hi, hz0, hz1, hz2⟩ := info_parts info_u8
  have Z := Lib.hid (And.intro hi (And.intro hz0 (And.intro hz1 hz2)))
  have hbl := h.lt
  have NU := Lib.hid (numr_any t w B b bs st most h (by omega))
  clear h hi hz0 hz1 hz2
  go_enter Try.func60, Try.ntmps60
  go_wp2_with fail
  refine NU.out.mono ?_
  rintro e' w1 ⟨n, st1, rfl, hG, h0, hS, hT⟩
  have hn := num_le hG h0
  have HG := Lib.hid hG
  have HS := Lib.hid hS
  have HT := Lib.hid hT
  clear hG h0 hS hT NU
  go_wp2_with fail
  go_loopw [7, 9] (fun v x wr => ∃ (i : Nat) (ls : List UInt8) (s : St), x = .int .i64 i ∧ i ≤ n ∧ Hid (ls.length = i) ∧ OwnR 5 1 bytC wr w.heap.size v ls ∧ Gets (after st1 (seqD (nextD bs) i)) (ls.map fun x => x) s ∧ RdS t wr B b bs s ∧ RdT b w wr) (fun _ x _ => n - (intOf x).toNat)
  case atStart => exact ⟨0, [], st1, rfl, Nat.zero_le _, rfl, OwnR.nil _ _ _ _ _, gets_none _ _, HS.out, HT.out⟩
  case round =>
    obtain ⟨i, ls, s, rfl, hin, hil, hO, hGi, hSi, hTi⟩ := hrel
    obtain ⟨va, vc, rfl⟩ := row_shape hO
    have HGi := Lib.hid hGi
    have HTi := Lib.hid hTi
    have hsz := hTi.size
    clear hGi hTi
    by_cases hlt : i < n
    · have hlt' : (i : Int) < (n : Int) := by omega
      cases s with
      | error x =>
        obtain ⟨c2, _, c2', _⟩ := hSi.errC
        have HSi := Lib.hid hSi
        clear hSi
        go_wp2
        go_ret
        exact ⟨_, ls, .error x, rfl, gets_list HG.out (gets_late HGi.out hin), by have := hil.out; omega, hO, HSi.out, HTi.out⟩
      | ok p =>
        obtain ⟨c2, _⟩ := hSi.okC
        have NX := Lib.hid (ST.out wr _ hSi)
        clear hSi
        go_wp2_with fail
        refine NX.out.mono ?_
        rintro e' w2 ⟨a, s', rfl, hG2, _, hS2, hT2⟩
        have hO2 := hO.touch hT2 hbl
        have HG2 := Lib.hid hG2
        have HS2 := Lib.hid hS2
        have HT2 := Lib.hid (HTi.out.trans hT2)
        have hsz2 := hT2.size
        clear hG2 hS2 hT2 NX c2 hO
        go_wp2_with (at_builtin; refine wpList_append_own_at _ rfl _ _ 22 rfl w.heap.size 5 i0 _ 1 1 Try.underlying22 Z.out.1 Z.out.2.1 Z.out.2.2.1 Z.out.2.2.2 rfl (by decide) _ ls.length (ls.flatMap bytC) rfl (own_grewG hO2 ((Below.refl _ _).alloc (Nat.le_refl _) _)) ⟨w2.heap.size, 0, none⟩ 1 1 (bytC a) rfl rfl (World.news_of_block (Blk.new _ _ _)) (by simp [Value.oneCell', bytC]) (by have := hil.out; unfold maxLen; omega) (by have := hil.out; omega) (by simp; omega) ?_; intro v' w3 hown' hgrow _ hat; obtain ⟨ga, gc, rfl⟩ := row_shape hown'; have HA := Lib.hid (list_kept HS2.out hbl hO2 hgrow HT2.out); clear hgrow hat)
        go_roundw
        case rel => exact ⟨i + 1, ls ++ [a], s', by go_num, by omega, by unfold Hid; rw [List.length_append, hil.out]; rfl, own_app hown', by rw [List.map_append]; exact gets_one HGi.out HG2.out, HA.out.1, HA.out.2⟩
        case measure => simp [intOf]; omega
    · have hlt' : ¬ (i : Int) < (n : Int) := by omega
      obtain rfl : i = n := by omega
      have HSi := Lib.hid hSi
      clear hSi
      go_wp2
      go_ret
      exact ⟨_, ls, s, rfl, gets_list HG.out HGi.out, by have := hil.out; omega, hO, HSi.out, HTi.out⟩
end Go.Proofs.Ytffelcidckbohaa
/- code's reader: list, at types. Condition: what a call of the closure does is given. -/
namespace Go.Proofs.Ytffelcidckbohaa
open Go.RowKit
set_option linter.unusedVariables false
set_option maxRecDepth 100000 in
set_option maxHeartbeats 2000000 in
theorem list_int (t : TypeId) (w : World) (B b : Nat) (bs : List UInt8) (st : St) (most : Nat) (h : RdS t w B b bs st) (hm : most ≤ 1000)
    (ST : Hid (∀ (W : World) (s : St), RdS t W B b bs s → Calls Try.prog 43 #[.pointer (some ⟨b, 0, none⟩)] W (ReadsV (fun x : Int => Value.int .i64 x) (fun x => x) NoInn t B b bs (after s (kindD bs)) W))) :
    Calls Try.prog 42 #[.pointer (some ⟨b, 0, none⟩), .int .i64 most, .func (.func 43) #[.pointer (some ⟨b, 0, none⟩)] #[]] w (ReadsL (OwnR 3 1 intC) (fun x => x) most t B b bs (after st (listD bs (kindD bs) most)) w) := by
  obtain ⟨i0, hi, hz0, hz1, hz2⟩ := info_parts info_intC
  have Z := Lib.hid (And.intro hi (And.intro hz0 (And.intro hz1 hz2)))
  have hbl := h.lt
  have NU := Lib.hid (numr_any t w B b bs st most h (by omega))
  clear h hi hz0 hz1 hz2
  go_enter Try.func42, Try.ntmps42
  go_wp2_with fail
  refine NU.out.mono ?_
  rintro e' w1 ⟨n, st1, rfl, hG, h0, hS, hT⟩
  have hn := num_le hG h0
  have HG := Lib.hid hG
  have HS := Lib.hid hS
  have HT := Lib.hid hT
  clear hG h0 hS hT NU
  go_wp2_with fail
  go_loopw [7, 9] (fun v x wr => ∃ (i : Nat) (ls : List Int) (s : St), x = .int .i64 i ∧ i ≤ n ∧ Hid (ls.length = i) ∧ OwnR 3 1 intC wr w.heap.size v ls ∧ Gets (after st1 (seqD (kindD bs) i)) (ls.map fun x => x) s ∧ RdS t wr B b bs s ∧ RdT b w wr) (fun _ x _ => n - (intOf x).toNat)
  case atStart => exact ⟨0, [], st1, rfl, Nat.zero_le _, rfl, OwnR.nil _ _ _ _ _, gets_none _ _, HS.out, HT.out⟩
  case round =>
    obtain ⟨i, ls, s, rfl, hin, hil, hO, hGi, hSi, hTi⟩ := hrel
    obtain ⟨va, vc, rfl⟩ := row_shape hO
    have HGi := Lib.hid hGi
    have HTi := Lib.hid hTi
    have hsz := hTi.size
    clear hGi hTi
    by_cases hlt : i < n
    · have hlt' : (i : Int) < (n : Int) := by omega
      cases s with
      | error x =>
        obtain ⟨c2, _, c2', _⟩ := hSi.errC
        have HSi := Lib.hid hSi
        clear hSi
        go_wp2
        go_ret
        exact ⟨_, ls, .error x, rfl, gets_list HG.out (gets_late HGi.out hin), by have := hil.out; omega, hO, HSi.out, HTi.out⟩
      | ok p =>
        obtain ⟨c2, _⟩ := hSi.okC
        have NX := Lib.hid (ST.out wr _ hSi)
        clear hSi
        go_wp2_with fail
        refine NX.out.mono ?_
        rintro e' w2 ⟨a, s', rfl, hG2, _, hS2, hT2⟩
        have hO2 := hO.touch hT2 hbl
        have HG2 := Lib.hid hG2
        have HS2 := Lib.hid hS2
        have HT2 := Lib.hid (HTi.out.trans hT2)
        have hsz2 := hT2.size
        clear hG2 hS2 hT2 NX c2 hO
        go_wp2_with (at_builtin; refine wpList_append_own_at _ rfl _ _ 43 rfl w.heap.size 3 i0 _ 1 8 Try.underlying43 Z.out.1 Z.out.2.1 Z.out.2.2.1 Z.out.2.2.2 rfl (by decide) _ ls.length (ls.flatMap intC) rfl (own_grewG hO2 ((Below.refl _ _).alloc (Nat.le_refl _) _)) ⟨w2.heap.size, 0, none⟩ 1 1 (intC a) rfl rfl (World.news_of_block (Blk.new _ _ _)) (by simp [Value.oneCell', intC]) (by have := hil.out; unfold maxLen; omega) (by have := hil.out; omega) (by simp; omega) ?_; intro v' w3 hown' hgrow _ hat; obtain ⟨ga, gc, rfl⟩ := row_shape hown'; have HA := Lib.hid (list_kept HS2.out hbl hO2 hgrow HT2.out); clear hgrow hat)
        go_roundw
        case rel => exact ⟨i + 1, ls ++ [a], s', by go_num, by omega, by unfold Hid; rw [List.length_append, hil.out]; rfl, own_app hown', by rw [List.map_append]; exact gets_one HGi.out HG2.out, HA.out.1, HA.out.2⟩
        case measure => simp [intOf]; omega
    · have hlt' : ¬ (i : Int) < (n : Int) := by omega
      obtain rfl : i = n := by omega
      have HSi := Lib.hid hSi
      clear hSi
      go_wp2
      go_ret
      exact ⟨_, ls, s, rfl, gets_list HG.out HGi.out, by have := hil.out; omega, hO, HSi.out, HTi.out⟩
end Go.Proofs.Ytffelcidckbohaa
/- code's reader: list, at fields. Condition: what a call of the closure does is given. -/
namespace Go.Proofs.Ytffelcidckbohaa
open Go.RowKit
set_option linter.unusedVariables false
set_option maxRecDepth 100000 in
set_option maxHeartbeats 2000000 in
theorem list_fld (t : TypeId) (w : World) (B b : Nat) (bs : List UInt8) (st : St) (most : Nat) (h : RdS t w B b bs st) (hm : most ≤ 1000)
    (ST : Hid (∀ (W : World) (s : St), RdS t W B b bs s → Calls Try.prog 41 #[.pointer (some ⟨b, 0, none⟩)] W (ReadsV (fun x : FldD => Value.agg #[.string x.name, .int .i64 x.ty]) (fun x => x) NoInn t B b bs (after s (fldD bs)) W))) :
    Calls Try.prog 40 #[.pointer (some ⟨b, 0, none⟩), .int .i64 most, .func (.func 41) #[.pointer (some ⟨b, 0, none⟩)] #[]] w (ReadsL (OwnR 66 2 fldC) (fun x => x) most t B b bs (after st (listD bs (fldD bs) most)) w) := by
  obtain ⟨i0, hi, hz0, hz1, hz2⟩ := info_parts info_fld
  have Z := Lib.hid (And.intro hi (And.intro hz0 (And.intro hz1 hz2)))
  have hbl := h.lt
  have NU := Lib.hid (numr_any t w B b bs st most h (by omega))
  clear h hi hz0 hz1 hz2
  go_enter Try.func40, Try.ntmps40
  go_wp2_with fail
  refine NU.out.mono ?_
  rintro e' w1 ⟨n, st1, rfl, hG, h0, hS, hT⟩
  have hn := num_le hG h0
  have HG := Lib.hid hG
  have HS := Lib.hid hS
  have HT := Lib.hid hT
  clear hG h0 hS hT NU
  go_wp2_with fail
  go_loopw [7, 9] (fun v x wr => ∃ (i : Nat) (ls : List FldD) (s : St), x = .int .i64 i ∧ i ≤ n ∧ Hid (ls.length = i) ∧ OwnR 66 2 fldC wr w.heap.size v ls ∧ Gets (after st1 (seqD (fldD bs) i)) (ls.map fun x => x) s ∧ RdS t wr B b bs s ∧ RdT b w wr) (fun _ x _ => n - (intOf x).toNat)
  case atStart => exact ⟨0, [], st1, rfl, Nat.zero_le _, rfl, OwnR.nil _ _ _ _ _, gets_none _ _, HS.out, HT.out⟩
  case round =>
    obtain ⟨i, ls, s, rfl, hin, hil, hO, hGi, hSi, hTi⟩ := hrel
    obtain ⟨va, vc, rfl⟩ := row_shape hO
    have HGi := Lib.hid hGi
    have HTi := Lib.hid hTi
    have hsz := hTi.size
    clear hGi hTi
    by_cases hlt : i < n
    · have hlt' : (i : Int) < (n : Int) := by omega
      cases s with
      | error x =>
        obtain ⟨c2, _, c2', _⟩ := hSi.errC
        have HSi := Lib.hid hSi
        clear hSi
        go_wp2
        go_ret
        exact ⟨_, ls, .error x, rfl, gets_list HG.out (gets_late HGi.out hin), by have := hil.out; omega, hO, HSi.out, HTi.out⟩
      | ok p =>
        obtain ⟨c2, _⟩ := hSi.okC
        have NX := Lib.hid (ST.out wr _ hSi)
        clear hSi
        go_wp2_with fail
        refine NX.out.mono ?_
        rintro e' w2 ⟨a, s', rfl, hG2, _, hS2, hT2⟩
        have hO2 := hO.touch hT2 hbl
        have HG2 := Lib.hid hG2
        have HS2 := Lib.hid hS2
        have HT2 := Lib.hid (HTi.out.trans hT2)
        have hsz2 := hT2.size
        clear hG2 hS2 hT2 NX c2 hO
        go_wp2_with (at_builtin; refine wpList_append_own_at _ rfl _ _ 50 rfl w.heap.size 66 i0 _ 2 24 Try.underlying50 Z.out.1 Z.out.2.1 Z.out.2.2.1 Z.out.2.2.2 rfl (by decide) _ ls.length (ls.flatMap fldC) rfl (own_grewG hO2 ((Below.refl _ _).alloc (Nat.le_refl _) _)) ⟨w2.heap.size, 0, none⟩ 1 1 (fldC a) rfl rfl (World.news_of_block (Blk.new _ _ _)) (by simp [Value.oneCell', fldC]) (by have := hil.out; unfold maxLen; omega) (by have := hil.out; omega) (by simp; omega) ?_; intro v' w3 hown' hgrow _ hat; obtain ⟨ga, gc, rfl⟩ := row_shape hown'; have HA := Lib.hid (list_kept HS2.out hbl hO2 hgrow HT2.out); clear hgrow hat)
        go_roundw
        case rel => exact ⟨i + 1, ls ++ [a], s', by go_num, by omega, by unfold Hid; rw [List.length_append, hil.out]; rfl, own_app hown', by rw [List.map_append]; exact gets_one HGi.out HG2.out, HA.out.1, HA.out.2⟩
        case measure => simp [intOf]; omega
    · have hlt' : ¬ (i : Int) < (n : Int) := by omega
      obtain rfl : i = n := by omega
      have HSi := Lib.hid hSi
      clear hSi
      go_wp2
      go_ret
      exact ⟨_, ls, s, rfl, gets_list HG.out HGi.out, by have := hil.out; omega, hO, HSi.out, HTi.out⟩
end Go.Proofs.Ytffelcidckbohaa
