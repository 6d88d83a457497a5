/- Texts of this seat, one behind the other: each says at its head what it holds. No condition of its own. -/
import Derived.Test.YtffelcidckbohaaGCodeBack05
import Derived.Test.YtffelcidckbohaaGCodeBack08
/- slices.EqualFunc at classes and at functions; Equal of programs. No condition. -/
namespace Go.Proofs.Ytffelcidckbohaa
open Go.RowKit
set_option linter.unusedVariables false
set_option maxRecDepth 100000 in
set_option maxHeartbeats 4000000 in
theorem eqclss_any (w : World) (B : Nat) (v1 v2 : Value) (l1 l2 : List ClsD) (hB : B ≤ w.heap.size) (h1 : RdRow 2 (ElC B) B w v1 l1) (h2 : RdRow 2 (ElC B) B w v2 l2) :
    Calls Try.prog 33 #[v1, v2, .func (.func 34) #[] #[]] w fun e w' => e = .returned (.bool (decide (l1.map clsP = l2.map clsP))) ∧ Below w.heap.size w w' := by
  have h1' := h1
  have h2' := h2
  obtain ⟨a1, c1, rfl⟩ := rd_shape h1'
  obtain ⟨a2, c2, rfl⟩ := rd_shape h2'
  have M1 : l1.length ≤ maxLen := by obtain ⟨_, _, _, h, _⟩ := h1; exact h
  unfold maxLen at M1
  have R1 := Lib.hid (fun W (hb : Below B w W) i (hi : i < l1.length) => rd_at (h1.keep hb fun _ _ _ e r => r.keep hb e) hi)
  have R2 := Lib.hid (fun W (hb : Below B w W) i (hi : i < l2.length) => rd_at (h2.keep hb fun _ _ _ e r => r.keep hb e) hi)
  have HB := Lib.hid hB
  clear h1 h2 h1' h2' hB
  by_cases hn : l1.length = l2.length
  · have hne : ((l1.length : Int) != (l2.length : Int)) = false := by simp [hn]
    have HN := Lib.hid hn
    clear hn
    go_enter Try.func33, Try.ntmps33
    go_wp2
    go_loopw [17] (fun i wr => ∃ k : Nat, k ≤ l1.length ∧ i = .int .i64 k ∧ Below w.heap.size w wr ∧ ∀ j, (j1 : j < l1.length) → (j2 : j < l2.length) → j < k → clsP l1[j] = clsP l2[j]) (fun i _ => l1.length - (intOf i).toNat)
    case atStart => exact ⟨0, Nat.zero_le _, rfl, Below.refl _ _, fun j _ _ h => absurd h (by omega)⟩
    case round =>
      obtain ⟨k, hk, rfl, hq, hj⟩ := hrel
      have HJ := Lib.hid hj
      have HQ := Lib.hid hq
      clear hj hq
      by_cases hlt : k < l1.length
      · have hlt2 : k < l2.length := by have := HN.out; omega
        have hlt' : (k : Int) < (l1.length : Int) := by omega
        have i1 : (0 : Int) ≤ (k : Int) ∧ (k : Int) < (l1.length : Int) := ⟨by omega, by omega⟩
        have i2 : (0 : Int) ≤ (k : Int) ∧ (k : Int) < (l2.length : Int) := ⟨by omega, by omega⟩
        have m1 : 0 < l1.length := by omega
        have m2 : 0 < l2.length := by omega
        have hbw : Below B w wr := HQ.out.mono HB.out
        have hsz : B ≤ wr.heap.size := Nat.le_trans HB.out HQ.out.size
        obtain ⟨b1, o1, rfl, _, f0, x1, f1, g1⟩ := R1.out wr hbw k hlt
        obtain ⟨fa1, fc1, rfl⟩ := rd_shape g1
        have HM : Hid (¬ clsP l1[k] = clsP l2[k] → ¬ l1.map clsP = l2.map clsP) := map_ne_at hlt hlt2
        have HE : Hid (∀ (j1 : k < l1.length) (j2 : k < l2.length), clsP (l1[k]'j1) = clsP (l1[k]'hlt) ∧ clsP (l2[k]'j2) = clsP (l2[k]'hlt2)) := fun _ _ => ⟨rfl, rfl⟩
        have R2k := Lib.hid (fun W (hb : Below B w W) => R2.out W hb k hlt2)
        generalize l1[k] = c at *
        generalize l2[k] = d at *
        have bC : Below wr.heap.size wr (wr.alloc (.cells #[.string c.name, .slice fa1 c.fields.length fc1] 52)) := (Below.refl _ _).alloc (Nat.le_refl _) _
        obtain ⟨b2, o2, rfl, _, h0, y1, h1, l1'⟩ := R2k.out _ (hbw.trans (bC.mono hsz))
        obtain ⟨ga1, gc1, rfl⟩ := rd_shape l1'
        have bD : Below wr.heap.size (wr.alloc (.cells #[.string c.name, .slice fa1 c.fields.length fc1] 52)) ((wr.alloc (.cells #[.string c.name, .slice fa1 c.fields.length fc1] 52)).alloc (.cells #[.string d.name, .slice ga1 d.fields.length gc1] 52)) := (Below.refl _ _).alloc (by simp) _
        have bE := bC.trans bD
        have hF0 := bD.mono hsz
        have hF1 := bE.mono hsz
        have kF : Blk ((wr.alloc (.cells #[.string c.name, .slice fa1 c.fields.length fc1] 52)).alloc (.cells #[.string d.name, .slice ga1 d.fields.length gc1] 52)) wr.heap.size #[.string c.name, .slice fa1 c.fields.length fc1] 52 := (Blk.new _ _ _).alloc _
        have kG : Blk ((wr.alloc (.cells #[.string c.name, .slice fa1 c.fields.length fc1] 52)).alloc (.cells #[.string d.name, .slice ga1 d.fields.length gc1] 52)) (wr.heap.size + 1) #[.string d.name, .slice ga1 d.fields.length gc1] 52 := Blk.new' (by simp)
        have CL := Lib.hid (eqcls_any _ B _ _ c d (Nat.le_trans hsz bE.size) (g1.keep hF1 fun _ _ _ e r => r.keep hF1 e) (l1'.keep hF0 fun _ _ _ e r => r.keep hF0 e))
        have BE := Lib.hid bE
        have z0 := kF.val 0 rfl
        have t0 := kG.val 0 rfl
        have z1 := kF.val 1 rfl
        have t1 := kG.val 1 rfl
        clear bC bD bE hF0 hF1 kF kG hbw hsz
        go_wp2_with fail
        refine CL.out.mono ?_
        rintro e9 w6 ⟨rfl, hb6⟩
        have HB6 := Lib.hid (BE.out.trans (hb6.mono BE.out.size))
        clear hb6 CL
        by_cases hy : clsP c = clsP d
        · have hv : decide (clsP c = clsP d) = true := by simpa using hy
          have HY := Lib.hid hy
          clear hy
          go_wp2
          go_roundw
          case rel => exact ⟨k + 1, by omega, by go_num, HQ.out.trans (HB6.out.mono HQ.out.size), fun j j1 j2 j3 => by
            rcases Nat.lt_or_ge j k with h | h
            · exact HJ.out j j1 j2 h
            · obtain rfl : j = k := by omega
              exact (HE.out j1 j2).1.trans (HY.out.trans (HE.out j1 j2).2.symm)⟩
          case measure => simp [intOf]; omega
        · have hv : decide (clsP c = clsP d) = false := by simpa using hy
          have HY := Lib.hid hy
          clear hy
          go_wp2
          go_ret
          exact ⟨ret_bool (by simp [HM.out HY.out]), HQ.out.trans (HB6.out.mono HQ.out.size)⟩
      · have hlt' : ¬ (k : Int) < (l1.length : Int) := by omega
        go_wp2
        go_ret
        exact ⟨ret_bool (by simp [map_eq_of HN.out fun i i1 i2 => HJ.out i i1 i2 (by omega)]), HQ.out⟩
  · have hne : ((l1.length : Int) != (l2.length : Int)) = true := by simp; omega
    have HM := Lib.hid (map_ne_len (f := clsP) hn)
    clear hn
    go_enter Try.func33, Try.ntmps33
    go_wp2
    go_ret
    exact ⟨ret_bool (by simp [HM.out]), Below.refl _ _⟩
set_option maxRecDepth 100000 in
set_option maxHeartbeats 4000000 in
theorem eqfuns_any (w : World) (B : Nat) (v1 v2 : Value) (l1 l2 : List FunD) (hB : B ≤ w.heap.size) (h1 : RdRow 5 (ElU B) B w v1 l1) (h2 : RdRow 5 (ElU B) B w v2 l2) :
    Calls Try.prog 35 #[v1, v2, .func (.func 36) #[] #[]] w fun e w' => e = .returned (.bool (decide (l1.map funP = l2.map funP))) ∧ Below w.heap.size w w' := by
  have h1' := h1
  have h2' := h2
  obtain ⟨a1, c1, rfl⟩ := rd_shape h1'
  obtain ⟨a2, c2, rfl⟩ := rd_shape h2'
  have M1 : l1.length ≤ maxLen := by obtain ⟨_, _, _, h, _⟩ := h1; exact h
  unfold maxLen at M1
  have R1 := Lib.hid (fun W (hb : Below B w W) i (hi : i < l1.length) => rd_at (h1.keep hb fun _ _ _ e r => r.keep hb e) hi)
  have R2 := Lib.hid (fun W (hb : Below B w W) i (hi : i < l2.length) => rd_at (h2.keep hb fun _ _ _ e r => r.keep hb e) hi)
  have HB := Lib.hid hB
  clear h1 h2 h1' h2' hB
  by_cases hn : l1.length = l2.length
  · have hne : ((l1.length : Int) != (l2.length : Int)) = false := by simp [hn]
    have HN := Lib.hid hn
    clear hn
    go_enter Try.func35, Try.ntmps35
    go_wp2
    go_loopw [17] (fun i wr => ∃ k : Nat, k ≤ l1.length ∧ i = .int .i64 k ∧ Below w.heap.size w wr ∧ ∀ j, (j1 : j < l1.length) → (j2 : j < l2.length) → j < k → funP l1[j] = funP l2[j]) (fun i _ => l1.length - (intOf i).toNat)
    case atStart => exact ⟨0, Nat.zero_le _, rfl, Below.refl _ _, fun j _ _ h => absurd h (by omega)⟩
    case round =>
      obtain ⟨k, hk, rfl, hq, hj⟩ := hrel
      have HJ := Lib.hid hj
      have HQ := Lib.hid hq
      clear hj hq
      by_cases hlt : k < l1.length
      · have hlt2 : k < l2.length := by have := HN.out; omega
        have hlt' : (k : Int) < (l1.length : Int) := by omega
        have i1 : (0 : Int) ≤ (k : Int) ∧ (k : Int) < (l1.length : Int) := ⟨by omega, by omega⟩
        have i2 : (0 : Int) ≤ (k : Int) ∧ (k : Int) < (l2.length : Int) := ⟨by omega, by omega⟩
        have m1 : 0 < l1.length := by omega
        have m2 : 0 < l2.length := by omega
        have hbw : Below B w wr := HQ.out.mono HB.out
        have hsz : B ≤ wr.heap.size := Nat.le_trans HB.out HQ.out.size
        obtain ⟨b1, o1, rfl, _, f0, ⟨x1, f1, g1⟩, ⟨f2, _⟩, ⟨x3, f3, g3⟩, x4, f4, g4⟩ := R1.out wr hbw k hlt
        obtain ⟨fa1, fc1, rfl⟩ := rd_shape g1
        obtain ⟨fa3, fc3, rfl⟩ := rd_shape g3
        obtain ⟨fa4, fc4, rfl⟩ := rd_shape g4
        have HM : Hid (¬ funP l1[k] = funP l2[k] → ¬ l1.map funP = l2.map funP) := map_ne_at hlt hlt2
        have HE : Hid (∀ (j1 : k < l1.length) (j2 : k < l2.length), funP (l1[k]'j1) = funP (l1[k]'hlt) ∧ funP (l2[k]'j2) = funP (l2[k]'hlt2)) := fun _ _ => ⟨rfl, rfl⟩
        have R2k := Lib.hid (fun W (hb : Below B w W) => R2.out W hb k hlt2)
        generalize l1[k] = c at *
        generalize l2[k] = d at *
        have bC : Below wr.heap.size wr (wr.alloc (.cells #[.string c.name, .slice fa1 c.params.length fc1, .int .i64 c.result, .slice fa3 c.locals.length fc3, .slice fa4 c.code.length fc4] 45)) := (Below.refl _ _).alloc (Nat.le_refl _) _
        obtain ⟨b2, o2, rfl, _, h0, ⟨y1, h1, m1'⟩, ⟨h2, _⟩, ⟨y3, h3, m3'⟩, y4, h4, m4'⟩ := R2k.out _ (hbw.trans (bC.mono hsz))
        obtain ⟨ga1, gc1, rfl⟩ := rd_shape m1'
        obtain ⟨ga3, gc3, rfl⟩ := rd_shape m3'
        obtain ⟨ga4, gc4, rfl⟩ := rd_shape m4'
        have bD : Below wr.heap.size (wr.alloc (.cells #[.string c.name, .slice fa1 c.params.length fc1, .int .i64 c.result, .slice fa3 c.locals.length fc3, .slice fa4 c.code.length fc4] 45)) ((wr.alloc (.cells #[.string c.name, .slice fa1 c.params.length fc1, .int .i64 c.result, .slice fa3 c.locals.length fc3, .slice fa4 c.code.length fc4] 45)).alloc (.cells #[.string d.name, .slice ga1 d.params.length gc1, .int .i64 d.result, .slice ga3 d.locals.length gc3, .slice ga4 d.code.length gc4] 45)) := (Below.refl _ _).alloc (by simp) _
        have bE := bC.trans bD
        have hF0 := bD.mono hsz
        have hF1 := bE.mono hsz
        have kF : Blk ((wr.alloc (.cells #[.string c.name, .slice fa1 c.params.length fc1, .int .i64 c.result, .slice fa3 c.locals.length fc3, .slice fa4 c.code.length fc4] 45)).alloc (.cells #[.string d.name, .slice ga1 d.params.length gc1, .int .i64 d.result, .slice ga3 d.locals.length gc3, .slice ga4 d.code.length gc4] 45)) wr.heap.size #[.string c.name, .slice fa1 c.params.length fc1, .int .i64 c.result, .slice fa3 c.locals.length fc3, .slice fa4 c.code.length fc4] 45 := (Blk.new _ _ _).alloc _
        have kG : Blk ((wr.alloc (.cells #[.string c.name, .slice fa1 c.params.length fc1, .int .i64 c.result, .slice fa3 c.locals.length fc3, .slice fa4 c.code.length fc4] 45)).alloc (.cells #[.string d.name, .slice ga1 d.params.length gc1, .int .i64 d.result, .slice ga3 d.locals.length gc3, .slice ga4 d.code.length gc4] 45)) (wr.heap.size + 1) #[.string d.name, .slice ga1 d.params.length gc1, .int .i64 d.result, .slice ga3 d.locals.length gc3, .slice ga4 d.code.length gc4] 45 := Blk.new' (by simp)
        have CL := Lib.hid (eqfun_any _ B _ _ _ _ _ _ c d (Nat.le_trans hsz bE.size) (g1.keep hF1 fun _ _ _ e r => r.keep hF1 e) (g3.keep hF1 fun _ _ _ e r => r.keep hF1 e) (g4.keep hF1 fun _ _ _ e r => r.keep hF1 e) (m1'.keep hF0 fun _ _ _ e r => r.keep hF0 e) (m3'.keep hF0 fun _ _ _ e r => r.keep hF0 e) (m4'.keep hF0 fun _ _ _ e r => r.keep hF0 e))
        have BE := Lib.hid bE
        have z0 := kF.val 0 rfl
        have t0 := kG.val 0 rfl
        have z1 := kF.val 1 rfl
        have t1 := kG.val 1 rfl
        have z2 := kF.val 2 rfl
        have t2 := kG.val 2 rfl
        have z3 := kF.val 3 rfl
        have t3 := kG.val 3 rfl
        have z4 := kF.val 4 rfl
        have t4 := kG.val 4 rfl
        clear bC bD bE hF0 hF1 kF kG hbw hsz
        go_wp2_with fail
        refine CL.out.mono ?_
        rintro e9 w6 ⟨rfl, hb6⟩
        have HB6 := Lib.hid (BE.out.trans (hb6.mono BE.out.size))
        clear hb6 CL
        by_cases hy : funP c = funP d
        · have hv : decide (funP c = funP d) = true := by simpa using hy
          have HY := Lib.hid hy
          clear hy
          go_wp2
          go_roundw
          case rel => exact ⟨k + 1, by omega, by go_num, HQ.out.trans (HB6.out.mono HQ.out.size), fun j j1 j2 j3 => by
            rcases Nat.lt_or_ge j k with h | h
            · exact HJ.out j j1 j2 h
            · obtain rfl : j = k := by omega
              exact (HE.out j1 j2).1.trans (HY.out.trans (HE.out j1 j2).2.symm)⟩
          case measure => simp [intOf]; omega
        · have hv : decide (funP c = funP d) = false := by simpa using hy
          have HY := Lib.hid hy
          clear hy
          go_wp2
          go_ret
          exact ⟨ret_bool (by simp [HM.out HY.out]), HQ.out.trans (HB6.out.mono HQ.out.size)⟩
      · have hlt' : ¬ (k : Int) < (l1.length : Int) := by omega
        go_wp2
        go_ret
        exact ⟨ret_bool (by simp [map_eq_of HN.out fun i i1 i2 => HJ.out i i1 i2 (by omega)]), HQ.out⟩
  · have hne : ((l1.length : Int) != (l2.length : Int)) = true := by simp; omega
    have HM := Lib.hid (map_ne_len (f := funP) hn)
    clear hn
    go_enter Try.func35, Try.ntmps35
    go_wp2
    go_ret
    exact ⟨ret_bool (by simp [HM.out]), Below.refl _ _⟩
set_option maxRecDepth 100000 in
set_option maxHeartbeats 4000000 in
theorem equal_any (w : World) (B : Nat) (u0 u1 t0 t1 : Value) (p q : PrgD) (hB : B ≤ w.heap.size) (h1 : RdPrg B w u0 u1 p) (h2 : RdPrg B w t0 t1 q) :
    Calls Try.prog 11 #[.agg #[u0, u1], .agg #[t0, t1]] w fun e w' => e = .returned (.bool (decide (prgP p = prgP q))) ∧ Below w.heap.size w w' := by
  obtain ⟨a0, c0, rfl⟩ := rd_shape h1.1
  obtain ⟨a1, c1, rfl⟩ := rd_shape h1.2
  obtain ⟨d0, e0, rfl⟩ := rd_shape h2.1
  obtain ⟨d1, e1, rfl⟩ := rd_shape h2.2
  have k1 : Blk ((w.alloc (.cells #[.slice a0 p.classes.length c0, .slice a1 p.funcs.length c1] 27)).alloc (.cells #[.slice d0 q.classes.length e0, .slice d1 q.funcs.length e1] 27)) w.heap.size #[.slice a0 p.classes.length c0, .slice a1 p.funcs.length c1] 27 := (Blk.new _ _ _).alloc _
  have k2 : Blk ((w.alloc (.cells #[.slice a0 p.classes.length c0, .slice a1 p.funcs.length c1] 27)).alloc (.cells #[.slice d0 q.classes.length e0, .slice d1 q.funcs.length e1] 27)) (w.heap.size + 1) #[.slice d0 q.classes.length e0, .slice d1 q.funcs.length e1] 27 := Blk.new' (by simp)
  have hb0 : Below w.heap.size w ((w.alloc (.cells #[.slice a0 p.classes.length c0, .slice a1 p.funcs.length c1] 27)).alloc (.cells #[.slice d0 q.classes.length e0, .slice d1 q.funcs.length e1] 27)) := ((Below.refl _ _).alloc (Nat.le_refl _) _).alloc (by simp) _
  have CS := Lib.hid (eqclss_any _ B _ _ _ _ (Nat.le_trans hB hb0.size) (h1.keep (hb0.mono hB)).1 (h2.keep (hb0.mono hB)).1)
  have FS := Lib.hid (fun W (hb : Below B w W) (hs : B ≤ W.heap.size) => eqfuns_any W B _ _ _ _ hs (h1.keep hb).2 (h2.keep hb).2)
  have HB := Lib.hid hB
  have PE := Lib.hid (prgP_eq (p := p) (q := q))
  have hb := Lib.hid hb0
  have x0 := k1.val 0 rfl
  have y0 := k2.val 0 rfl
  clear h1 h2 hB hb0
  go_enter Try.func11, Try.ntmps11
  go_wp2_with fail
  refine CS.out.mono ?_
  rintro e9 w1 ⟨rfl, hb1⟩
  have n1 := k1.grew hb1
  have n2 := k2.grew hb1
  have HW := Lib.hid (hb.out.trans (hb1.mono hb.out.size))
  clear hb1 hb CS x0 y0 k1 k2
  have x1 := n1.val 1 rfl
  have y1 := n2.val 1 rfl
  by_cases hcl : p.classes.map clsP = q.classes.map clsP
  · have hcl' : decide (p.classes.map clsP = q.classes.map clsP) = true := by simpa using hcl
    have HCL := Lib.hid hcl
    clear hcl
    have FX := Lib.hid (FS.out w1 (HW.out.mono HB.out) (Nat.le_trans HB.out HW.out.size))
    go_wp2_with fail
    refine FX.out.mono ?_
    rintro e9 w2 ⟨rfl, hb2⟩
    have HW2 := Lib.hid (HW.out.trans (hb2.mono HW.out.size))
    clear hb2
    go_wp2
    go_ret
    exact ⟨ret_bool (by rw [PE.out]; simp [HCL.out]), HW2.out⟩
  · have hcl' : decide (p.classes.map clsP = q.classes.map clsP) = false := by simpa using hcl
    have HCL := Lib.hid hcl
    clear hcl
    go_wp2
    go_ret
    exact ⟨ret_bool (by rw [PE.out]; simp [HCL.out]), HW.out⟩
end Go.Proofs.Ytffelcidckbohaa
/- What code.Encode returns of any program. Condition: it reads as a program. -/
namespace Go.Proofs.Ytffelcidckbohaa
open Go.RowKit
set_option linter.unusedVariables false
def cls0 : ClsD := ⟨.empty, []⟩
def fun0 : FunD := ⟨.empty, [], 0, [], []⟩
def magicL : List UInt8 := [87, 68, 82, 49]
def clssE (p : PrgD) : Res := listE p.classes.length 16 (fun i => clsE (p.classes.getD i cls0))
def funsE (p : PrgD) : Res := listE p.funcs.length 16 (fun i => funE (p.funcs.getD i fun0))
def encE (p : PrgD) : Res := andE (andE (.ok magicL) (clssE p)) (funsE p)
set_option maxRecDepth 100000 in
set_option maxHeartbeats 2000000 in
theorem enc1_any (B b c1 c2 i : Nat) (l : List UInt8) (p : PrgD) (v1 v2 : Value) (K : Nat → Prop) (w : World) (h : WrX w B b l 0 K) (hc1 : Blk w c1 #[.pointer (some ⟨b, 0, none⟩)] 71) (hc2 : Blk w c2 #[v1, v2] 27) (hv : RdRow 2 (ElC B) B w v1 p.classes) (hi : i < p.classes.length) (hl : l.length ≤ 1000000) :
    Calls Try.prog 29 #[.int .i64 i, .pointer (some ⟨c1, 0, none⟩), .pointer (some ⟨c2, 0, none⟩)] w fun e' w' => (∃ u, e' = .returned u) ∧ WrP w' B b (andE (.ok l) (clsE (p.classes.getD i cls0))) K ∧ WrT B K w w' := by
  have hg : p.classes.getD i cls0 = p.classes[i] := by simp [List.getD_eq_getElem?_getD, hi]
  rw [hg]
  obtain ⟨a, cap, rfl, hmx, hel⟩ := hv
  obtain ⟨d, o, rfl, hd, e1, v, e2, e3⟩ := hel i hi
  clear hel hg
  generalize p.classes[i] = t at *
  have hbw := h.bw
  have i1 : (0 : Int) ≤ (i : Int) ∧ (i : Int) < (p.classes.length : Int) := ⟨by omega, by omega⟩
  have i2 : 0 < p.classes.length := by omega
  generalize p.classes.length = n at *
  have d1 := hc1.val 0 rfl
  have d2 := hc2.val 0 rfl
  have QB : Below B w w.drew := (Below.refl _ _).drew
  have CL := Lib.hid (cls_any B b (.ok l) t v K w.drew (h.quiet ⟨1, rfl⟩) (e3.keep QB fun _ _ _ e r => r.keep QB e) (fun q e => by injection e with e; subst e; omega))
  have T0 : Hid (WrT B K w w.drew) := WrT.of (Below.refl _ _).drew
  obtain ⟨va, vc, hva⟩ := rd_shape e3
  subst hva
  clear h hbw hc1 hc2 e3 QB
  go_enter Try.func29, Try.ntmps29
  go_wp2_with fail
  go_still_tail 6, (by kernel_rfl)
  change wpList _ _ _ _ _ w.drew
  generalize w.drew = w2 at *
  go_wp2_with fail
  refine CL.out.mono ?_
  rintro e w3 ⟨⟨u, rfl⟩, hP3, hT3⟩
  go_wp2
  go_end0
  exact ⟨⟨_, rfl⟩, hP3, T0.out.trans hT3⟩
set_option maxRecDepth 100000 in
set_option maxHeartbeats 2000000 in
theorem enc2_any (B b c1 c2 i : Nat) (l : List UInt8) (p : PrgD) (v1 v2 : Value) (K : Nat → Prop) (w : World) (h : WrX w B b l 0 K) (hc1 : Blk w c1 #[.pointer (some ⟨b, 0, none⟩)] 71) (hc2 : Blk w c2 #[v1, v2] 27) (hv : RdRow 5 (ElU B) B w v2 p.funcs) (hi : i < p.funcs.length) (hl : l.length ≤ 1000000) :
    Calls Try.prog 31 #[.int .i64 i, .pointer (some ⟨c1, 0, none⟩), .pointer (some ⟨c2, 0, none⟩)] w fun e' w' => (∃ u, e' = .returned u) ∧ WrP w' B b (andE (.ok l) (funE (p.funcs.getD i fun0))) K ∧ WrT B K w w' := by
  have hg : p.funcs.getD i fun0 = p.funcs[i] := by simp [List.getD_eq_getElem?_getD, hi]
  rw [hg]
  obtain ⟨a, cap, rfl, hmx, hel⟩ := hv
  obtain ⟨d, o, rfl, hd, e1, ⟨u1, e2, g1⟩, ⟨e3, _⟩, ⟨u3, e4, g3⟩, u4, e5, g4⟩ := hel i hi
  clear hel hg
  generalize p.funcs[i] = t at *
  have hbw := h.bw
  have i1 : (0 : Int) ≤ (i : Int) ∧ (i : Int) < (p.funcs.length : Int) := ⟨by omega, by omega⟩
  have i2 : 0 < p.funcs.length := by omega
  generalize p.funcs.length = n at *
  have d1 := hc1.val 0 rfl
  have d2 := hc2.val 1 rfl
  have QB : Below B w w.drew := (Below.refl _ _).drew
  have CL := Lib.hid (fun_any B b (.ok l) t u1 u3 u4 K w.drew (h.quiet ⟨1, rfl⟩) (g1.keep QB fun _ _ _ e r => r.keep QB e) (g3.keep QB fun _ _ _ e r => r.keep QB e) (g4.keep QB fun _ _ _ e r => r.keep QB e) (fun q e => by injection e with e; subst e; omega))
  have T0 : Hid (WrT B K w w.drew) := WrT.of (Below.refl _ _).drew
  obtain ⟨_, _, hva⟩ := rd_shape g1
  subst hva
  obtain ⟨_, _, hva⟩ := rd_shape g3
  subst hva
  obtain ⟨_, _, hva⟩ := rd_shape g4
  subst hva
  clear h hbw hc1 hc2 g1 g3 g4 QB
  go_enter Try.func31, Try.ntmps31
  go_wp2_with fail
  go_still_tail 6, (by kernel_rfl)
  change wpList _ _ _ _ _ w.drew
  generalize w.drew = w2 at *
  go_wp2_with fail
  refine CL.out.mono ?_
  rintro e w3 ⟨⟨u, rfl⟩, hP3, hT3⟩
  go_wp2
  go_end0
  exact ⟨⟨_, rfl⟩, hP3, T0.out.trans hT3⟩
set_option maxRecDepth 100000 in
set_option maxHeartbeats 2000000 in
theorem number_first (B b g n : Nat) (K : Nat → Prop) (w : World) (hb : Blk w b #[.slice (some ⟨g, 0, none⟩) 4 4, .int .i64 0] 73) (hg : Hid (∀ j u, (u8L magicL)[j]? = some u → w.cell? ((⟨g, 0, none⟩ : Addr).add j) = some u)) (nb : ¬ K b) (bb : B ≤ b) (bw : B ≤ w.heap.size) (lt : ∀ x, K x → x < w.heap.size) (hn : n < 128) :
    Calls Try.prog 49 #[.pointer (some ⟨b, 0, none⟩), .int .u64 n] w fun e' w' => (∃ u, e' = .returned u) ∧ WrX w' B b (magicL ++ numB n) 0 K ∧ WrT B K w w' := by
  obtain ⟨i0, hi, hz0, hz1, hz2⟩ := info_parts info_u8
  have c0 := hb.val 0 rfl
  have lb := hb.lt
  have hn' : ¬ (128 : Int) ≤ (n : Int) := by omega
  have HO := Lib.hid (lo8 n hn)
  have HG : Hid (∀ j u, (u8L magicL)[j]? = some u → (w.alloc (.cells #[Value.int .u8 (n : Int)] 5)).cell? ((⟨g, 0, none⟩ : Addr).add j) = some u) := fun j u hu => by
    have h1 := hg.out j u hu
    rw [World.cell?_alloc_lt _ _ _ (World.block_lt_of_cell? w _ h1), h1]
  have fin : ∀ (v' : Value) (w1 : World), w1.ownsRow (w.alloc (.cells #[Value.int .u8 (n : Int)] 5)).heap.size 5 1 v' (4 + 1) (u8L magicL ++ [Value.int .u8 ((UInt8.ofNat n).toNat : Int)]) → (w.alloc (.cells #[Value.int .u8 (n : Int)] 5)).grownBy w1 none →
      Blk w1 b #[.slice (some ⟨g, 0, none⟩) 4 4, .int .i64 0] 73 ∧ WrX (w1.setCell ⟨b, 0, none⟩ v') B b (magicL ++ [UInt8.ofNat n]) 0 K ∧ WrT B K w (w1.setCell ⟨b, 0, none⟩ v') := by
    intro v' w1 hown hgrow
    have hT1 : Touch (fun y => B ≤ y ∧ ¬ K y) w w1 := ((Touch.refl _ w).alloc _).grown hgrow (fun k hk => by cases hk)
    have hb1 : Blk w1 b #[.slice (some ⟨g, 0, none⟩) 4 4, .int .i64 0] 73 := (hb.alloc _).of (hgrow.block b (by simp; omega) (by simp))
    have hT2 : Touch (fun y => y = b) w1 (w1.setCell ⟨b, 0, none⟩ v') := (Touch.refl (fun y => y = b) w1).setCell (p := ⟨b, 0, none⟩) rfl _
    have hsz : (w.alloc (.cells #[Value.int .u8 (n : Int)] 5)).heap.size = w.heap.size + 1 := by simp
    obtain ⟨e1, e2⟩ := hown
    rcases e2 with e2 | ⟨q, cap, cur, a1, a2, a3, a4⟩
    · exact absurd e2.2 (by decide)
    · refine ⟨hb1, ⟨⟨v', hb1.set 0 v', ⟨by simp [u8L, magicL], .inr ⟨q, cap, cur, a1, by omega, ?_, by simpa [u8L, magicL] using a4⟩⟩, fun q' hq => ?_⟩, nb, bb, Nat.le_trans bw (Nat.le_trans hT1.size hT2.size), fun y hy => Nat.lt_of_lt_of_le (lt y hy) (Nat.le_trans hT1.size hT2.size)⟩, Touch.trans hT1 (hT2.mono fun y _ e => by subst e; exact ⟨bb, nb⟩)⟩
      · rw [hT2.block q (Array.getElem?_eq_some_iff.1 a3).1 (by omega)]; exact a3
      · rw [a1] at hq
        obtain rfl : q = q' := Option.some.inj hq
        exact ⟨fun r => by have := lt _ r; omega, by omega⟩
  have HF := Lib.hid fin
  clear fin hg bb bw
  go_enter Try.func49, Try.ntmps49
  go_wp2
  go_loopw [1] (fun x wr => x = .int .u64 n ∧ wr = w) (fun x _ => 0)
  case atStart => exact ⟨rfl, rfl⟩
  case round =>
    obtain ⟨rfl, rfl⟩ := hrel
    go_wp2_with (at_builtin; refine wpList_append_grows _ rfl _ _ 22 rfl 5 i0 (.int .u8 0) 1 1 Try.underlying22 hi hz0 hz1 hz2 rfl (by decide) (some ⟨g, 0, none⟩) 4 4 (u8L magicL) rfl (fun h => by cases h) rfl (fun b hb => by obtain rfl := Option.some.inj hb; exact HG.out) ⟨wr.heap.size, 0, none⟩ 1 1 [Value.int .u8 ((UInt8.ofNat n).toNat : Int)] rfl rfl (by rw [← HO.out]; exact one_new _ _ _) (by simp [Value.oneCell']) (by decide) (by decide) (by decide) ?_; intro v' w1 hown' hgrow; obtain ⟨ga, gc, rfl⟩ := row_shape hown'; obtain ⟨hb1, hX1, hT1⟩ := HF.out _ _ hown' hgrow; have f1 := hb1.frozen 0; have g1 := hb1.val 0 rfl; clear hown' hgrow hb1 hb)
    go_end0
    exact ⟨⟨_, rfl⟩, by rw [numB_lo hn]; exact hX1, hT1⟩
/-- bytes in a row of the call's own, or an error -/
def EncPost (r : Res) (w : World) (e : Ending) (w' : World) : Prop := (match r with | .ok l => ∃ v, e = .returned (.tuple #[v, .int .i64 0]) ∧ w'.ownsRow w.heap.size 5 1 v l.length (u8L l) | .error x => x ≠ 0 ∧ e = .returned (.tuple #[.slice none 0 0, .int .i64 x])) ∧ Below w.heap.size w w'
theorem run_conv_bytes (w : World) (C : Array Value) (n m : Nat) : (convert 22 22 (.slice (some ⟨w.heap.size, 0, none⟩) n m)).run Try.prog (w.alloc (.cells C 5)) = .ok (.slice (some ⟨w.heap.size, 0, none⟩) n m) (w.alloc (.cells C 5 (C.size, C.size + 1))) := by
  have hsh : (w.alloc (.cells C 5)).shape? w.heap.size = some (5, C.size) := by
    have : (w.alloc (.cells C 5)).heap[w.heap.size]? = some (.cells C 5) := by
      show (w.heap.push (.cells C 5))[w.heap.size]? = _
      simp
    unfold World.shape?
    rw [this]
  have hfr : (w.alloc (.cells C 5)).freeze ⟨w.heap.size, C.size, none⟩ 1 = w.alloc (.cells C 5 (C.size, C.size + 1)) := by
    have hm : ∀ (a : Array Obj) (x : Obj) (f : Obj → Obj), (a.push x).modify a.size f = a.push (f x) := by
      intro a x f
      apply Array.ext
      · simp
      · intro i h1 h2
        simp only [Array.getElem_modify, Array.getElem_push]
        by_cases h : a.size = i
        · subst h
          simp
        · have hi : i < a.size := by simp at h1; omega
          simp [h, hi]
    unfold World.freeze
    rw [if_neg (by decide)]
    show ({ w.alloc (.cells C 5) with heap := (w.heap.push (.cells C 5)).modify w.heap.size _ } : World) = _
    rw [hm]
    rfl
  simp [convert, run_underlying Try.underlying22, run_underlying Try.underlying5, markStringish, hsh]
  exact hfr
theorem list_first (B b c1 c2 n M : Nat) (K : Nat → Prop) (f : Nat → Res) (w : World) (h : WrE w B b 0 K) (NB : n < 128 → Calls Try.prog 49 #[.pointer (some ⟨b, 0, none⟩), .int .u64 n] w fun e' w' => (∃ u, e' = .returned u) ∧ WrX w' B b (magicL ++ numB n) 0 K ∧ WrT B K w w')
    (hM : M ≤ 1000000) (hf : ∀ i, i < n → lenE (f i) M) (hst : StepOk 29 c1 c2 B b K w n 16 4 M f) :
    Calls Try.prog 28 #[.pointer (some ⟨b, 0, none⟩), .int .i64 n, .int .i64 16, .func (.func 29) #[] #[.pointer (some ⟨c1, 0, none⟩), .pointer (some ⟨c2, 0, none⟩)]] w fun e' w' => (∃ u, e' = .returned u) ∧ WrP w' B b (andE (.ok magicL) (listE n 16 f)) K ∧ WrT B K w w' := by
  by_cases hn : n ≤ 16
  · exact list_okEnc1 B b c1 c2 magicL K n 16 4 M f w h (NB (by omega)) hn (by decide) (by decide) (by omega) hf hst
  · refine (list_bigEnc1 B b c1 c2 K n 16 w h (by omega)).mono fun e' w' ⟨hu, hX, hT⟩ => ⟨hu, ?_, hT⟩
    rw [listE, if_pos (by omega)]; exact ⟨by decide, hX⟩
theorem funs_ok {B : Nat} {w : World} {v : Value} {l : List FunD} (h : RdRow 5 (ElU B) B w v l) : ∀ i, i < l.length → lenE (funE (l.getD i fun0)) 5600 := by
  obtain ⟨a, c, _, _, hel⟩ := h
  intro i hi
  obtain ⟨d, o, _, _, _, _, _, _, u4, _, g4⟩ := hel i hi
  have hg : l.getD i fun0 = l[i] := by simp [List.getD_eq_getElem?_getD, hi]
  rw [hg]; exact lenE_fun _ (codeOk_of g4)
/-- what Encode has laid when it comes to its first list -/
theorem enc_laid (w : World) (s1 s2 : Value) {W : World} (hW : W = ((((w.alloc (.cells #[s1, s2] 27)).alloc (.cells #[.int .u8 87, .int .u8 68, .int .u8 82, .int .u8 49] 5 (4, 5))).alloc (.cells #[.slice (some ⟨w.heap.size + 1, 0, none⟩) 4 4, .int .i64 0] 73)).alloc (.cells #[.pointer (some ⟨w.heap.size + 1 + 1, 0, none⟩)] 71))) :
    Blk W (w.heap.size + 1 + 1) #[.slice (some ⟨w.heap.size + 1, 0, none⟩) 4 4, .int .i64 0] 73 ∧ Blk W (w.heap.size + 1 + 1 + 1) #[.pointer (some ⟨w.heap.size + 1 + 1, 0, none⟩)] 71 ∧ Blk W w.heap.size #[s1, s2] 27 ∧
    (∀ j u, (u8L magicL)[j]? = some u → W.cell? ((⟨w.heap.size + 1, 0, none⟩ : Addr).add j) = some u) ∧ Below w.heap.size w W ∧ W.heap.size = w.heap.size + 4 := by
  subst hW
  refine ⟨(Blk.new' (by simp)).alloc _, Blk.new' (by simp), (((Blk.new _ _ _).alloc _).alloc _).alloc _, fun j u hu => ?_, ((((Below.refl _ _).alloc (Nat.le_refl _) _).alloc (by simp) _).alloc (by simp; omega) _).alloc (by simp; omega) _, by simp⟩
  have hb : ((((w.alloc (.cells #[s1, s2] 27)).alloc (.cells #[.int .u8 87, .int .u8 68, .int .u8 82, .int .u8 49] 5 (4, 5))).alloc (.cells #[.slice (some ⟨w.heap.size + 1, 0, none⟩) 4 4, .int .i64 0] 73)).alloc (.cells #[.pointer (some ⟨w.heap.size + 1 + 1, 0, none⟩)] 71)).heap[w.heap.size + 1]? = some (.cells #[.int .u8 87, .int .u8 68, .int .u8 82, .int .u8 49] 5 (4, 5)) := by
    rw [Below.heap_alloc _ _ _ (by simp), Below.heap_alloc _ _ _ (by simp), show w.heap.size + 1 = (w.alloc (.cells #[s1, s2] 27)).heap.size by simp]
    exact heap_alloc_new _ _
  exact World.news_of_block (cs := #[.int .u8 87, .int .u8 68, .int .u8 82, .int .u8 49]) hb j u hu
set_option maxRecDepth 100000 in
set_option maxHeartbeats 4000000 in
theorem encode_any (p : PrgD) (v1 v2 : Value) (w : World) (B0 : Nat) (hB0 : B0 ≤ w.heap.size) (h : RdPrg B0 w v1 v2 p) :
    Calls Try.prog 10 #[.agg #[v1, v2]] w (EncPost (encE p) w) := by
  obtain ⟨a1, p1, s1⟩ := rd_shape h.1
  obtain ⟨a2, p2, s2⟩ := rd_shape h.2
  subst s1 s2
  have hcv : (convert 22 22 (.slice (some ⟨w.heap.size + 1, 0, none⟩) 4 4)).run Try.prog ((w.alloc (.cells #[.slice a1 p.classes.length p1, .slice a2 p.funcs.length p2] 27)).alloc (.cells #[.int .u8 87, .int .u8 68, .int .u8 82, .int .u8 49] 5)) = .ok (.slice (some ⟨w.heap.size + 1, 0, none⟩) 4 4) ((w.alloc (.cells #[.slice a1 p.classes.length p1, .slice a2 p.funcs.length p2] 27)).alloc (.cells #[.int .u8 87, .int .u8 68, .int .u8 82, .int .u8 49] 5 (4, 5))) := by
    have := run_conv_bytes (w.alloc (.cells #[.slice a1 p.classes.length p1, .slice a2 p.funcs.length p2] 27)) #[.int .u8 87, .int .u8 68, .int .u8 82, .int .u8 49] 4 4
    simpa using this
  have RP := Lib.hid (fun W (hb : Below w.heap.size w W) => ((h.mono hB0).keep hb))
  have HFU := Lib.hid (funs_ok (h.mono hB0).2)
  clear h hB0
  go_enter Try.func10, Try.ntmps10
  go_wp2_with fail
  clear hcv
  generalize hW : World.alloc _ _ = W
  obtain ⟨kb, kc1, kc2, hg, hbel, hsz⟩ := enc_laid w _ _ hW.symm
  clear hW
  generalize hS : w.heap.size = S at *
  have hE : WrE W S (S + 1 + 1) 0 (fun x => x = S + 1 + 1 + 1 ∨ x = S) := ⟨⟨_, kb⟩, by omega, by omega, by omega, fun x hx => by omega⟩
  have ST := Lib.hid (list_first S (S + 1 + 1) (S + 1 + 1 + 1) S p.classes.length 441 _ (fun i => clsE (p.classes.getD i cls0)) W hE (fun hn => number_first S _ _ _ _ W kb hg hE.nb hE.bb hE.bw hE.lt hn) (by decide) (fun i _ => lenE_cls _)
    (fun i l W' hi hn hX hT hl => enc1_any S _ _ _ i l p _ _ _ W' hX (hT.kept kc1 (.inl rfl)) (hT.kept kc2 (.inr rfl)) (RP.out W' (hbel.trans (hT.below hE.bw))).1 hi (by omega)))
  have hHE := Lib.hid hE
  have hHB := Lib.hid hbel
  have HS := Lib.hid hsz
  clear hg kb hE hbel hsz
  refine ST.out.mono ?_
  rintro e w1 ⟨⟨u, rfl⟩, hP1, hT1⟩
  have r1 := hT1.kept kc1 (.inl rfl)
  have r2 := hT1.kept kc2 (.inr rfl)
  have d1 := r1.val 0 rfl
  have d2 := r2.val 1 rfl
  have hb1 := hHB.out.trans (hT1.below hHE.out.bw)
  have hs1 := Nat.le_trans hHE.out.bw hT1.size
  have l1 : lenE (andE (.ok magicL) (clssE p)) 7070 := lenE_mono (lenE_and (M := 4) (fun q e => by injection e with e; subst e; decide) (lenE_list (by decide) fun i _ => lenE_cls _)) (by decide)
  have ST2 := Lib.hid (list_anyEnc2 S (S + 1 + 1) (S + 1 + 1 + 1) S _ _ p.funcs.length 16 7070 5600 (fun i => funE (p.funcs.getD i fun0)) w1 hP1 (by decide) l1 (by decide) HFU.out
    (fun i l W' hi hn hX hT hl => enc2_any S _ _ _ i l p _ _ _ W' hX (hT.kept r1 (.inl rfl)) (hT.kept r2 (.inr rfl)) (RP.out W' (hb1.trans (hT.below hs1))).2 hi (by omega)))
  have hHB1 := Lib.hid (And.intro hb1 hs1)
  clear ST hP1 hT1 hb1 hs1 l1 kc1 kc2
  go_wp2_with fail
  refine ST2.out.mono ?_
  rintro e w2 ⟨⟨u, rfl⟩, hP2, hT2⟩
  have k1 := hT2.kept r1 (.inl rfl)
  have d1 := k1.val 0 rfl
  have hb2 := Lib.hid (hHB1.out.1.trans (hT2.below hHB1.out.2))
  clear ST2 r1 r2 d2 hT2 k1
  obtain ⟨x, c0, cf, hcase⟩ := hP2.cell
  clear hP2
  rcases hcase with ⟨e0, m, hm1, hX1⟩ | ⟨e0, hm1, hX1⟩
  · obtain rfl : x = 0 := by simpa using e0
    obtain ⟨⟨v, h1, h2, h3⟩, _⟩ := hX1
    have c1 := h1.val 0 rfl
    obtain ⟨va, vc, rfl⟩ := row_shape h2
    have HM : Hid (encE p = .ok m) := hm1
    have HO := Lib.hid h2
    clear h1 h2 h3 hm1 e0
    go_wp2
    go_ret2
    refine ⟨?_, by rw [hS]; exact hb2.out⟩
    rw [HM.out, hS]
    exact ⟨_, rfl, HO.out⟩
  · have e1 : (x != 0) = true := by simpa using e0
    have HM : Hid (encE p = .error x ∧ x ≠ 0) := ⟨hm1, by simpa using e0⟩
    clear hm1 e0 hX1
    go_wp2
    go_quiet (fail)
    go_wp2
    go_ret2
    refine ⟨?_, by rw [hS]; exact below_drewN hb2.out _⟩
    rw [HM.out.1]
    exact ⟨HM.out.2, rfl⟩
end Go.Proofs.Ytffelcidckbohaa
/- Unlike programs have unlike bytes; programs that are compared alike are the same. Numbers and lists alone: no condition. -/
namespace Go.Proofs.Ytffelcidckbohaa
open Go.RowKit
set_option linter.unusedVariables false
theorem u8_inj {a b : Nat} (ha : a < 256) (hb : b < 256) (h : UInt8.ofNat a = UInt8.ofNat b) : a = b := by
  have := congrArg UInt8.toNat h
  simp only [UInt8.toNat_ofNat'] at this
  omega
theorem numB_pfx : ∀ (m n : Nat) (s t : List UInt8), numB m ++ s = numB n ++ t → m = n ∧ s = t := by
  intro m
  induction m using Nat.strongRecOn with
  | _ m ih =>
    intro n s t h
    by_cases hm : m < 128
    · by_cases hn : n < 128
      · rw [numB_lo hm, numB_lo hn] at h
        simp only [List.cons_append, List.nil_append, List.cons.injEq] at h
        exact ⟨u8_inj (by omega) (by omega) h.1, h.2⟩
      · rw [numB_lo hm, numB_hi (n := n) (by omega)] at h
        simp only [List.cons_append, List.cons.injEq] at h
        have := u8_inj (by omega) (by omega) h.1
        omega
    · by_cases hn : n < 128
      · rw [numB_hi (n := m) (by omega), numB_lo hn] at h
        simp only [List.cons_append, List.cons.injEq] at h
        have := u8_inj (by omega) (by omega) h.1
        omega
      · rw [numB_hi (n := m) (by omega), numB_hi (n := n) (by omega)] at h
        simp only [List.cons_append, List.cons.injEq] at h
        have h1 := u8_inj (by omega) (by omega) h.1
        have h2 := ih (m / 128) (by omega) (n / 128) s t h.2
        exact ⟨by omega, h2.2⟩
theorem andE_parts {a b : Res} {l : List UInt8} (h : andE a b = .ok l) : ∃ x y, a = .ok x ∧ b = .ok y ∧ l = x ++ y := by
  cases a with
  | error e => simp [andE] at h
  | ok x =>
    cases b with
    | error e => simp [andE] at h
    | ok y => simp [andE] at h; exact ⟨x, y, rfl, rfl, h.symm⟩
/-- bytes in front of others tell what they stand for -/
def Tells (E F : Res) (R : Prop) : Prop := ∀ a b s t, E = .ok a → F = .ok b → a ++ s = b ++ t → R ∧ s = t
theorem Tells.mono {E F : Res} {R R' : Prop} (h : Tells E F R) (hr : R → R') : Tells E F R' := fun a b s t h1 h2 h3 => ⟨hr (h a b s t h1 h2 h3).1, (h a b s t h1 h2 h3).2⟩
theorem Tells.and {E F E' F' : Res} {R R' : Prop} (h : Tells E F R) (h' : R → Tells E' F' R') : Tells (andE E E') (andE F F') (R ∧ R') := by
  intro a b s t h1 h2 h3
  obtain ⟨x, y, e1, e2, rfl⟩ := andE_parts h1
  obtain ⟨x', y', e3, e4, rfl⟩ := andE_parts h2
  rw [List.append_assoc, List.append_assoc] at h3
  obtain ⟨r, h4⟩ := h _ _ _ _ e1 e3 h3
  obtain ⟨r', h5⟩ := h' r _ _ _ _ e2 e4 h4
  exact ⟨⟨r, r'⟩, h5⟩
theorem Tells.seq {f g : Nat → Res} {R : Nat → Prop} (n : Nat) (h : ∀ i, i < n → Tells (f i) (g i) (R i)) : Tells (seqE f n) (seqE g n) (∀ i, i < n → R i) := by
  induction n with
  | zero =>
    intro a b s t h1 h2 h3
    simp only [seqE, Except.ok.injEq] at h1 h2
    subst h1 h2
    exact ⟨fun i hi => absurd hi (by omega), by simpa using h3⟩
  | succ n ih =>
    have := (ih fun i hi => h i (by omega)).and (fun _ => h n (by omega))
    refine Tells.mono this ?_
    intro ⟨r1, r2⟩ i hi
    rcases Nat.lt_or_ge i n with q | q
    · exact r1 i q
    · obtain rfl : i = n := by omega
      exact r2
theorem Tells.list {f g : Nat → Res} {R : Nat → Prop} {n m most : Nat} (h : ∀ i, i < n → i < m → Tells (f i) (g i) (R i)) : Tells (listE n most f) (listE m most g) (n = m ∧ ∀ i, i < n → R i) := by
  intro a b s t h1 h2 h3
  unfold listE at h1 h2
  split at h1
  · cases h1
  split at h2
  · cases h2
  obtain ⟨x, y, e1, e2, rfl⟩ := andE_parts h1
  obtain ⟨x', y', e3, e4, rfl⟩ := andE_parts h2
  injection e1 with e1
  injection e3 with e3
  subst e1 e3
  rw [List.append_assoc, List.append_assoc] at h3
  obtain ⟨rfl, h4⟩ := numB_pfx _ _ _ _ h3
  obtain ⟨r, h5⟩ := Tells.seq n (fun i hi => h i hi hi) _ _ _ _ e2 e4 h4
  exact ⟨⟨rfl, r⟩, h5⟩
theorem getD_ext {α : Type} {l1 l2 : List α} {z : α} (h : l1.length = l2.length) (he : ∀ i, i < l1.length → l1.getD i z = l2.getD i z) : l1 = l2 := by
  refine List.ext_getElem h fun i i1 i2 => ?_
  have := he i i1
  simpa [List.getD_eq_getElem?_getD, i1, i2] using this
theorem byte_tells {x y : UInt8} : Tells (.ok [x]) (.ok [y]) (x = y) := by
  intro a b s t h1 h2 h3
  injection h1 with h1
  injection h2 with h2
  subst h1 h2
  simpa using h3
theorem name_tells (s t : ByteArray) : Tells (nameE s) (nameE t) (s = t) := by
  refine Tells.mono (Tells.list (R := fun i => s.data.toList.getD i 0 = t.data.toList.getD i 0) fun i _ _ => byte_tells) ?_
  rintro ⟨h1, h2⟩
  have h3 : s.data.toList = t.data.toList := getD_ext (z := 0) (by simpa using h1) (fun i hi => h2 i (by simpa using hi))
  exact ByteArray.ext (Array.toList_inj.1 h3)
theorem kind_tells (x y : Int) : Tells (kindE x) (kindE y) (x = y) := by
  intro a b s t h1 h2 h3
  unfold kindE at h1 h2
  split at h1
  · split at h2
    · rename_i q1 q2
      obtain ⟨h4, h5⟩ := byte_tells _ _ _ _ h1 h2 h3
      have h6 := u8_inj (by omega) (by omega) h4
      exact ⟨by omega, h5⟩
    · cases h2
  · cases h1
theorem fld_tells (f g : FldD) : Tells (fldE f) (fldE g) (f = g) := by
  refine Tells.mono ((name_tells f.name g.name).and fun _ => kind_tells f.ty g.ty) ?_
  rintro ⟨h1, h2⟩
  cases f; cases g
  simp only at h1 h2
  subst h1 h2
  rfl
theorem cls_tells (f g : ClsD) : Tells (clsE f) (clsE g) (f = g) := by
  refine Tells.mono ((name_tells f.name g.name).and fun _ => Tells.list (R := fun i => f.fields.getD i ⟨.empty, 0⟩ = g.fields.getD i ⟨.empty, 0⟩) fun i _ _ => fld_tells _ _) ?_
  rintro ⟨h1, h2, h3⟩
  have h4 := getD_ext h2 h3
  cases f; cases g
  simp only at h1 h4
  subst h1 h4
  rfl
theorem kinds_tells (l1 l2 : List Int) (m : Nat) : Tells (kindsE l1 m) (kindsE l2 m) (l1 = l2) :=
  Tells.mono (Tells.list (R := fun i => l1.getD i 0 = l2.getD i 0) fun i _ _ => kind_tells _ _) fun ⟨h1, h2⟩ => getD_ext h1 h2
theorem fold_inj {a b : Int} (h : foldN a = foldN b) : a = b := by
  unfold foldN at h
  split at h <;> split at h <;> omega
theorem ins_tells (x y : InsD) : Tells (insE x) (insE y) (x = y) := by
  intro a b s t h1 h2 h3
  unfold insE at h1 h2
  split at h1
  · split at h2
    · rename_i q1 q2
      injection h1 with h1
      injection h2 with h2
      subst h1 h2
      obtain ⟨op, xa, xb⟩ := x
      obtain ⟨op', ya, yb⟩ := y
      unfold insL at h3
      simp only [List.cons_append, List.cons.injEq] at h3
      obtain ⟨h4, h5⟩ := h3
      unfold rightB at q1 q2
      simp only at q1 q2 h4 h5
      have o1 : opsI op ≠ -1 := fun e => by rw [e] at q1; simp at q1
      have o2 : opsI op' ≠ -1 := fun e => by rw [e] at q2; simp at q2
      have r1 : 1 ≤ op ∧ op ≤ 39 := by unfold opsI at o1; split at o1 <;> omega
      have r2 : 1 ≤ op' ∧ op' ≤ 39 := by unfold opsI at o2; split at o2 <;> omega
      have r3 := u8_inj (by omega) (by omega) h4
      obtain rfl : op = op' := by omega
      have hk : opsI op = 0 ∨ opsI op = 1 ∨ opsI op = 2 := by unfold opsI; split <;> (try split) <;> (try split) <;> omega
      rw [List.append_assoc, List.append_assoc] at h5
      rcases hk with k | k | k
      · rw [k] at q1 q2 h5
        have n1 : ¬ op = 1 := fun e => by subst e; exact absurd k (by decide)
        simp [n1] at q1 q2 h5
        obtain ⟨rfl, rfl⟩ := q1
        obtain ⟨rfl, rfl⟩ := q2
        exact ⟨rfl, h5⟩
      · rw [k] at q1 q2 h5
        simp [smallB] at q1 q2
        by_cases n1 : op = 1
        · simp [n1] at h5
          obtain ⟨h6, h7⟩ := numB_pfx _ _ _ _ h5
          obtain rfl := fold_inj h6
          exact ⟨by rw [q1.2, q2.2], h7⟩
        · simp [n1] at h5 q1 q2
          obtain ⟨h6, h7⟩ := numB_pfx _ _ _ _ h5
          obtain rfl : xa = ya := by omega
          exact ⟨by rw [q1.2, q2.2], h7⟩
      · rw [k] at q1 q2 h5
        have n1 : ¬ op = 1 := fun e => by subst e; exact absurd k (by decide)
        simp [n1, smallB] at q1 q2 h5
        obtain ⟨h6, h7⟩ := numB_pfx _ _ _ _ h5
        obtain ⟨h8, h9⟩ := numB_pfx _ _ _ _ h7
        obtain rfl : xa = ya := by omega
        obtain rfl : xb = yb := by omega
        exact ⟨rfl, h9⟩
    · cases h2
  · cases h1
theorem code_tells (l1 l2 : List InsD) : Tells (codeE l1) (codeE l2) (l1 = l2) :=
  Tells.mono (Tells.list (R := fun i => l1.getD i ins0 = l2.getD i ins0) fun i _ _ => ins_tells _ _) fun ⟨h1, h2⟩ => getD_ext h1 h2
theorem fun_tells (f g : FunD) : Tells (funE f) (funE g) (f = g) := by
  refine Tells.mono (((((name_tells f.name g.name).and fun _ => kinds_tells f.params g.params 6).and fun _ => kind_tells f.result g.result).and fun _ => kinds_tells f.locals g.locals 16).and fun _ => code_tells f.code g.code) ?_
  rintro ⟨⟨⟨⟨h1, h2⟩, h3⟩, h4⟩, h5⟩
  cases f; cases g
  simp only at h1 h2 h3 h4 h5
  subst h1 h2 h3 h4 h5
  rfl
theorem enc_tells (p q : PrgD) : Tells (encE p) (encE q) (p = q) := by
  have h0 : Tells (.ok magicL) (.ok magicL) True := fun a b s t h1 h2 h3 => by
    injection h1 with h1
    injection h2 with h2
    subst h1 h2
    exact ⟨trivial, List.append_cancel_left h3⟩
  have hc : Tells (clssE p) (clssE q) (p.classes = q.classes) := Tells.mono (Tells.list (R := fun i => p.classes.getD i cls0 = q.classes.getD i cls0) fun i _ _ => cls_tells _ _) fun ⟨h1, h2⟩ => getD_ext h1 h2
  have hf : Tells (funsE p) (funsE q) (p.funcs = q.funcs) := Tells.mono (Tells.list (R := fun i => p.funcs.getD i fun0 = q.funcs.getD i fun0) fun i _ _ => fun_tells _ _) fun ⟨h1, h2⟩ => getD_ext h1 h2
  refine Tells.mono ((h0.and fun _ => hc).and fun _ => hf) ?_
  rintro ⟨⟨_, h1⟩, h2⟩
  cases p; cases q
  simp only at h1 h2
  subst h1 h2
  rfl
/-! what is compared alike is the same -/
theorem map_inj_of {α β : Type} {f : α → β} (hf : ∀ x y, f x = f y → x = y) : ∀ {l1 l2 : List α}, l1.map f = l2.map f → l1 = l2
  | [], [], _ => rfl
  | [], _ :: _, h => by simp at h
  | _ :: _, [], h => by simp at h
  | x :: l1, y :: l2, h => by
    simp only [List.map_cons, List.cons.injEq] at h
    rw [hf _ _ h.1, map_inj_of hf h.2]
theorem bytes_ext {a b : ByteArray} (h : a.toList = b.toList) : a = b := by
  obtain ⟨⟨la⟩⟩ := a
  obtain ⟨⟨lb⟩⟩ := b
  rw [show (ByteArray.mk ⟨la⟩).toList = la from ByteArray.toList_mk la, show (ByteArray.mk ⟨lb⟩).toList = lb from ByteArray.toList_mk lb] at h
  rw [h]
theorem fldP_inj (x y : FldD) (h : fldP x = fldP y) : x = y := by
  cases x; cases y
  simp only [fldP, Prod.mk.injEq] at h
  rw [bytes_ext h.1, h.2]
theorem clsP_inj (x y : ClsD) (h : clsP x = clsP y) : x = y := by
  cases x; cases y
  simp only [clsP, Prod.mk.injEq] at h
  rw [bytes_ext h.1, map_inj_of fldP_inj h.2]
theorem insP_inj (x y : InsD) (h : insP x = insP y) : x = y := by
  cases x; cases y
  simp only [insP, Prod.mk.injEq] at h
  rw [h.1, h.2.1, h.2.2]
theorem funP_inj (x y : FunD) (h : funP x = funP y) : x = y := by
  cases x; cases y
  have h := funP_eq.1 h
  simp only at h
  rw [bytes_ext h.1, h.2.1, h.2.2.1, h.2.2.2.1, map_inj_of insP_inj h.2.2.2.2]
theorem prgP_inj (p q : PrgD) (h : prgP p = prgP q) : p = q := by
  cases p; cases q
  unfold prgP at h
  simp only [Prod.mk.injEq] at h
  rw [map_inj_of clsP_inj h.1, map_inj_of funP_inj h.2]
/-- both encoded: the bytes are the same just if the programs are -/
theorem enc_same {p q : PrgD} {a b : List UInt8} (h1 : encE p = .ok a) (h2 : encE q = .ok b) : (a == b) = decide (prgP p = prgP q) := by
  by_cases h : prgP p = prgP q
  · have e := prgP_inj p q h
    subst e
    rw [h1] at h2
    injection h2 with h2
    subst h2
    simp
  · have hn : ¬ a = b := fun e => h (by rw [(enc_tells p q a b [] [] h1 h2 (by rw [e])).1])
    simp [h, hn]
end Go.Proofs.Ytffelcidckbohaa
/- The law's own example: an instruction has its bytes. No condition. -/
namespace Go.Proofs.Ytffelcidckbohaa
open Go.RowKit
set_option linter.unusedVariables false
def i0D : InsD := ⟨25, 1, 300⟩
def p0D : PrgD := ⟨[], [⟨⟨#[102]⟩, [], 0, [], [i0D]⟩]⟩
theorem ins0_eq : insE i0D = .ok [25, 1, 172, 2] := by
  have h1 : rightB i0D = true := by decide
  rw [insE, if_pos h1]
  simp [insL, i0D, opsI, numB_lo, numB_hi]
theorem enc0_eq : encE p0D = .ok [87, 68, 82, 49, 0, 1, 1, 102, 0, 0, 0, 1, 25, 1, 172, 2] := by
  have n0 : numB 0 = [0] := numB_lo (by decide)
  have n1 : numB 1 = [1] := numB_lo (by decide)
  have nm : nameE ⟨#[102]⟩ = .ok [1, 102] := by
    show listE 1 16 _ = _
    simp [listE, seqE, n1, andE, nameF]
  have kd : ∀ m, kindsE [] m = .ok [0] := fun m => by simp [kindsE, listE, seqE, n0, andE]
  have cd : codeE [i0D] = .ok [1, 25, 1, 172, 2] := by simp [codeE, listE, seqE, n1, andE, ins0_eq]
  have fn : funE ⟨⟨#[102]⟩, [], 0, [], [i0D]⟩ = .ok [1, 102, 0, 0, 0, 1, 25, 1, 172, 2] := by
    simp [funE, nm, kd, cd, kindE, andE]
  simp [encE, p0D, clssE, funsE, listE, seqE, n0, n1, fn, andE, magicL]
theorem rd_nil {α : Type} (sz : Nat) (el : World → Nat → Nat → α → Prop) (B : Nat) (w : World) : RdRow sz el B w (.slice none 0 0) [] := ⟨none, 0, rfl, by unfold maxLen; simp, fun i hi => absurd hi (by simp)⟩
theorem coded_prg (w : World) : RdPrg (w.heap.size + 2) ((w.alloc (.cells #[.int .i64 25, .int .i64 1, .int .i64 300] 41)).alloc (.cells #[.string ⟨#[102]⟩, .slice none 0 0, .int .i64 0, .slice none 0 0, .slice (some ⟨w.heap.size, 0, none⟩) 1 1] 45)) (.slice none 0 0) (.slice (some ⟨w.heap.size + 1, 0, none⟩) 1 1) p0D := by
  have h1 : Blk ((w.alloc (.cells #[.int .i64 25, .int .i64 1, .int .i64 300] 41)).alloc (.cells #[.string ⟨#[102]⟩, .slice none 0 0, .int .i64 0, .slice none 0 0, .slice (some ⟨w.heap.size, 0, none⟩) 1 1] 45)) w.heap.size #[.int .i64 25, .int .i64 1, .int .i64 300] 41 := (Blk.new _ _ _).alloc _
  have h2 : Blk ((w.alloc (.cells #[.int .i64 25, .int .i64 1, .int .i64 300] 41)).alloc (.cells #[.string ⟨#[102]⟩, .slice none 0 0, .int .i64 0, .slice none 0 0, .slice (some ⟨w.heap.size, 0, none⟩) 1 1] 45)) (w.heap.size + 1) #[.string ⟨#[102]⟩, .slice none 0 0, .int .i64 0, .slice none 0 0, .slice (some ⟨w.heap.size, 0, none⟩) 1 1] 45 := Blk.new' (by simp)
  refine ⟨rd_nil _ _ _ _, some ⟨w.heap.size + 1, 0, none⟩, 1, rfl, by unfold maxLen; decide, fun i hi => ?_⟩
  obtain rfl : i = 0 := by simpa [p0D] using hi
  refine ⟨w.heap.size + 1, 0, rfl, by omega, h2.val 0 rfl, ⟨_, h2.val 1 rfl, rd_nil _ _ _ _⟩, ⟨h2.val 2 rfl, (⟨by decide, by decide⟩ : I64 0)⟩, ⟨_, h2.val 3 rfl, rd_nil _ _ _ _⟩, _, h2.val 4 rfl, ?_⟩
  refine ⟨some ⟨w.heap.size, 0, none⟩, 1, rfl, (by unfold maxLen; decide : 1 ≤ maxLen), fun i hi => ?_⟩
  obtain rfl : i = 0 := by simpa [p0D] using hi
  exact ⟨w.heap.size, 0, rfl, by omega, h1.val 0 rfl, h1.val 1 rfl, h1.val 2 rfl, (⟨by decide, by decide⟩ : I64 25), (⟨by decide, by decide⟩ : I64 1), (⟨by decide, by decide⟩ : I64 300)⟩
theorem own_cells {w : World} {B : Nat} {v : Value} {l : List UInt8} (h : w.ownsRow B 5 1 v l.length (u8L l)) (hl : 0 < l.length) : ∃ g cap, v = .slice (some ⟨g, 0, none⟩) l.length cap ∧ l.length ≤ cap ∧ ∀ j (hj : j < l.length), w.cell? ⟨g, j, none⟩ = some (.int .u8 (l[j].toNat : Int)) := by
  have hc := fun g (hg : v.ownBlock = some g) => h.cells hg
  rcases h.2 with ⟨e1, e2⟩ | ⟨g, cap, cur, e1, e2, e3, e4, _⟩
  · omega
  · refine ⟨g, cap, e1, e4, fun j hj => ?_⟩
    have := hc g (by rw [e1]; rfl) j (.int .u8 (l[j].toNat : Int)) (by simp [u8L, hj])
    have e : (⟨g, 0, none⟩ : Addr).add j = ⟨g, j, none⟩ := by unfold Addr.add; split <;> simp_all
    rw [e] at this
    exact this
set_option maxRecDepth 100000 in
set_option maxHeartbeats 2000000 in
theorem coded_any (w : World) : Calls Try.prog 5 #[] w fun e w' => e = .returned (.bool true) ∧ Below w.heap.size w w' := by
  have EN := Lib.hid (encode_any p0D _ _ _ (w.heap.size + 2) (by simp) (coded_prg w))
  have hb0 : Below w.heap.size w ((w.alloc (.cells #[.int .i64 25, .int .i64 1, .int .i64 300] 41)).alloc (.cells #[.string ⟨#[102]⟩, .slice none 0 0, .int .i64 0, .slice none 0 0, .slice (some ⟨w.heap.size, 0, none⟩) 1 1] 45)) := ((Below.refl _ _).alloc (Nat.le_refl _) _).alloc (by simp) _
  have HB := Lib.hid hb0
  clear hb0
  go_enter Try.func5, Try.ntmps5
  go_wp2_with fail
  refine EN.out.mono ?_
  rintro e w1 ⟨h1, h2⟩
  rw [enc0_eq] at h1
  obtain ⟨v, rfl, ho⟩ := h1
  obtain ⟨g, cap, rfl, hcap, hcell⟩ := own_cells ho (by decide)
  have hb1 := Lib.hid (HB.out.trans (h2.mono HB.out.size))
  have hcap' : (16 : Int) ≤ (cap : Int) := by simp at hcap; omega
  have hcv : (convert 22 9 (.slice (some ⟨g, 12, none⟩) 4 (cap - 12))).run Try.prog w1 = .ok (.string ⟨#[25, 1, 172, 2]⟩) w1 := run_convert_bytes_back (P := Try.prog) w1 22 9 5 ⟨g, 12, none⟩ (cap - 12) [25, 1, 172, 2] Try.underlying22 Try.underlying5 Try.underlying9 (fun j hj => by
    have e : (⟨g, 12, none⟩ : Addr).add j = ⟨g, 12 + j, none⟩ := by unfold Addr.add; split <;> simp_all
    rw [e, hcell (12 + j) (by simp at hj; simp; omega)]
    match j, hj with
    | 0, _ => rfl
    | 1, _ => rfl
    | 2, _ => rfl
    | 3, _ => rfl)
  clear hcell ho h2 hcap
  go_wp2
  go_ret
  exact ⟨rfl, hb1.out⟩
end Go.Proofs.Ytffelcidckbohaa
/- light; bytes of two rows. Condition: the argument reads as a program. -/
namespace Go.Proofs.Ytffelcidckbohaa
open Go.RowKit
set_option linter.unusedVariables false
def SomeB (w : World) (e : Ending) (w' : World) : Prop := ∃ b, e = .returned (.bool b) ∧ Below w.heap.size w w'
set_option maxRecDepth 100000 in
set_option maxHeartbeats 4000000 in
theorem light_any (p : PrgD) (v1 v2 : Value) (w : World) (B0 : Nat) (hB0 : B0 ≤ w.heap.size) (h : RdPrg B0 w v1 v2 p) :
    Calls Try.prog 9 #[.agg #[v1, v2]] w (SomeB w) := by
  obtain ⟨a1, p1, s1⟩ := rd_shape h.1
  obtain ⟨a2, p2, s2⟩ := rd_shape h.2
  subst s1 s2
  have hb : Below w.heap.size w (w.alloc (.cells #[.slice a1 p.classes.length p1, .slice a2 p.funcs.length p2] 27)) := (Below.refl _ _).alloc (Nat.le_refl _) _
  have hr := (h.mono hB0).keep hb
  have k0 : Blk (w.alloc (.cells #[.slice a1 p.classes.length p1, .slice a2 p.funcs.length p2] 27)) w.heap.size #[.slice a1 p.classes.length p1, .slice a2 p.funcs.length p2] 27 := Blk.new _ _ _
  have y0 := k0.val 0 rfl
  have y1 := k0.val 1 rfl
  have hmx1 : p.classes.length ≤ maxLen := by obtain ⟨_, _, _, q, _⟩ := hr.1; exact q
  have hmx2 : p.funcs.length ≤ maxLen := by obtain ⟨_, _, _, q, _⟩ := hr.2; exact q
  unfold maxLen at hmx1 hmx2
  have HR := Lib.hid hr
  have HB := Lib.hid hb
  clear h hB0 hr hb k0
  go_enter Try.func9, Try.ntmps9
  by_cases c1 : 40 < p.classes.length
  · have c1' : (40 : Int) < (p.classes.length : Int) := by omega
    go_wp2
    go_ret
    exact ⟨_, rfl, HB.out⟩
  have c1' : ¬ (40 : Int) < (p.classes.length : Int) := by omega
  by_cases c2 : 40 < p.funcs.length
  · have c2' : (40 : Int) < (p.funcs.length : Int) := by omega
    go_wp2
    go_ret
    exact ⟨_, rfl, HB.out⟩
  have c2' : ¬ (40 : Int) < (p.funcs.length : Int) := by omega
  go_wp2
  go_loop [3] (fun x => ∃ i : Nat, i ≤ p.classes.length ∧ x = .int .i64 i) (fun x => p.classes.length - (intOf x).toNat)
  case atStart => exact ⟨0, by omega, rfl⟩
  case round =>
    obtain ⟨i, hi, rfl⟩ := hrel
    by_cases hlt : i < p.classes.length
    · have hlt' : (i : Int) < (p.classes.length : Int) := by omega
      obtain ⟨_, _, hva, _, hel⟩ := HR.out.1
      injection hva with hva1 hva2 hva3
      subst hva1 hva3
      obtain ⟨d, o, hdo, hdB, t1, vf, t2, hvf⟩ := hel i hlt
      subst hdo
      obtain ⟨fa, fc, hfs⟩ := rd_shape hvf
      subst hfs
      have i1 : (0 : Int) ≤ (i : Int) ∧ (i : Int) < (p.classes.length : Int) := ⟨by omega, by omega⟩
      have i2 : 0 < p.classes.length := by omega
      clear hel hvf
      generalize p.classes[i].fields.length = m at *
      by_cases c3 : 40 < m
      · have c3' : (40 : Int) < (m : Int) := by omega
        go_wp2
        go_ret
        exact ⟨_, rfl, HB.out⟩
      · have c3' : ¬ (40 : Int) < (m : Int) := by omega
        go_wp2
        go_round
        case rel => exact ⟨i + 1, by omega, by go_num⟩
        case measure => simp [intOf]; omega
    · have hlt' : ¬ (i : Int) < (p.classes.length : Int) := by omega
      go_wp2
      go_loop [4] (fun x => ∃ i : Nat, i ≤ p.funcs.length ∧ x = .int .i64 i) (fun x => p.funcs.length - (intOf x).toNat)
      case atStart => exact ⟨0, by omega, rfl⟩
      case round =>
        obtain ⟨j, hj, rfl⟩ := hrel
        by_cases hltj : j < p.funcs.length
        · have hlt' : (j : Int) < (p.funcs.length : Int) := by omega
          obtain ⟨_, _, hva, _, hel⟩ := HR.out.2
          injection hva with hva1 hva2 hva3
          subst hva1 hva3
          obtain ⟨d, o, hdo, hdB, t1, ⟨u1, t2, r1⟩, ⟨t3, _⟩, ⟨u3, t4, r3⟩, u4, t5, r4⟩ := hel j hltj
          subst hdo
          obtain ⟨fa1, fc1, hf1⟩ := rd_shape r1
          obtain ⟨fa3, fc3, hf3⟩ := rd_shape r3
          obtain ⟨fa4, fc4, hf4⟩ := rd_shape r4
          subst hf1 hf3 hf4
          have i1 : (0 : Int) ≤ (j : Int) ∧ (j : Int) < (p.funcs.length : Int) := ⟨by omega, by omega⟩
          have i2 : 0 < p.funcs.length := by omega
          clear hel r1 r3 r4
          generalize p.funcs[j].params.length = m1 at *
          generalize p.funcs[j].locals.length = m2 at *
          generalize p.funcs[j].code.length = m3 at *
          by_cases c3 : 400 < m3
          · have c3' : (400 : Int) < (m3 : Int) := by omega
            go_wp2
            go_ret
            exact ⟨_, rfl, HB.out⟩
          have c3' : ¬ (400 : Int) < (m3 : Int) := by omega
          by_cases c4 : 40 < m1
          · have c4' : (40 : Int) < (m1 : Int) := by omega
            go_wp2
            go_ret
            exact ⟨_, rfl, HB.out⟩
          have c4' : ¬ (40 : Int) < (m1 : Int) := by omega
          by_cases c5 : 40 < m2
          · have c5' : (40 : Int) < (m2 : Int) := by omega
            go_wp2
            go_ret
            exact ⟨_, rfl, HB.out⟩
          have c5' : ¬ (40 : Int) < (m2 : Int) := by omega
          go_wp2
          go_round
          case rel => exact ⟨j + 1, by omega, by go_num⟩
          case measure => simp [intOf]; omega
        · have hlt' : ¬ (j : Int) < (p.funcs.length : Int) := by omega
          go_wp2
          go_ret
          exact ⟨_, rfl, HB.out⟩
/-- bytes of a row as a text -/
theorem conv_row {w : World} {B : Nat} {v : Value} {l : List UInt8} (h : w.ownsRow B 5 1 v l.length (u8L l)) : (convert 22 9 v).run Try.prog w = .ok (.string ⟨l.toArray⟩) w := by
  rcases Nat.eq_zero_or_pos l.length with h0 | h0
  · obtain rfl : l = [] := List.eq_nil_of_length_eq_zero h0
    obtain ⟨a, c, rfl⟩ := row_shape h
    cases a with
    | none => exact run_convert_bytes_string w 22 9 5 none 0 c Try.underlying22 Try.underlying5 Try.underlying9
    | some ad => exact run_convert_bytes_back w 22 9 5 ad c [] Try.underlying22 Try.underlying5 Try.underlying9 (fun j hj => absurd hj (by simp))
  · obtain ⟨g, cap, rfl, _, hc⟩ := own_cells h h0
    exact run_convert_bytes_back w 22 9 5 ⟨g, 0, none⟩ cap l Try.underlying22 Try.underlying5 Try.underlying9 (fun j hj => by
      have e : (⟨g, 0, none⟩ : Addr).add j = ⟨g, j, none⟩ := by unfold Addr.add; split <;> simp_all
      rw [e]; exact hc j hj)
set_option maxHeartbeats 1000000 in
theorem bytes_same (w : World) (va vb : Value) (s : ByteArray) (h1 : (convert 22 9 va).run Try.prog w = .ok (.string s) w) (h2 : (convert 22 9 vb).run Try.prog w = .ok (.string s) w) :
    Calls Try.prog 12 #[va, vb] w fun e w' => e = .returned (.bool true) ∧ w = w' := by
  have hs : (s.toList == s.toList) = true := by simp
  go_enter Try.func12, Try.ntmps12
  go_wp2
  go_ret
  exact ⟨rfl, rfl⟩
set_option maxHeartbeats 1000000 in
theorem bytes_two (w : World) (va vb : Value) (s t : ByteArray) (h1 : (convert 22 9 va).run Try.prog w = .ok (.string s) w) (h2 : (convert 22 9 vb).run Try.prog w = .ok (.string t) w) :
    Calls Try.prog 12 #[va, vb] w fun e w' => e = .returned (.bool (s.toList == t.toList)) ∧ w = w' := by
  go_enter Try.func12, Try.ntmps12
  go_wp2
  go_ret
  exact ⟨rfl, rfl⟩
end Go.Proofs.Ytffelcidckbohaa
