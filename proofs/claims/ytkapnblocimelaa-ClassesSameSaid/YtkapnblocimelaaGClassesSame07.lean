/- Texts of this seat, one behind the other: each says at its head what it holds. No condition of its own. -/
import Derived.Test.YtkapnblocimelaaGClassesSame06
/- Same of tables. Condition: the tables are there. -/
namespace Go.Proofs.Ytkapnblocimelaa
open Go.RowKit
set_option linter.unusedVariables false
set_option maxRecDepth 100000 in
set_option maxHeartbeats 4000000 in
theorem eqflds_any (w : World) (B : Nat) (v1 v2 : Value) (l1 l2 : List FldD) (h1 : RdRow 2 ElF B w v1 l1) (h2 : RdRow 2 ElF B w v2 l2) :
    Calls Try.prog 47 #[v1, v2] w fun e w' => e = .returned (.bool (decide (l1.map fldP = l2.map fldP))) ∧ Quiet w w' := by
  have h1' := h1
  have h2' := h2
  obtain ⟨a1, c1, rfl⟩ := rd_shape h1'
  obtain ⟨a2, c2, rfl⟩ := rd_shape h2'
  have M1 : l1.length ≤ maxLen := by obtain ⟨_, _, _, h, _⟩ := h1; exact h
  unfold maxLen at M1
  have R1 := Lib.hid (fun i (hi : i < l1.length) => rd_at h1 hi)
  have R2 := Lib.hid (fun i (hi : i < l2.length) => rd_at h2 hi)
  clear h1 h2 h1' h2'
  have hG := guard_fld
  by_cases hn : l1.length = l2.length
  · have hne : ((l1.length : Int) != (l2.length : Int)) = false := by simp [hn]
    have HN := Lib.hid hn
    clear hn
    go_enter Try.func47, Try.ntmps47
    go_wp2
    go_loopw [13] (fun i wr => ∃ k : Nat, k ≤ l1.length ∧ i = .int .i64 k ∧ Quiet w wr ∧ ∀ j, (j1 : j < l1.length) → (j2 : j < l2.length) → j < k → fldP l1[j] = fldP l2[j]) (fun i _ => l1.length - (intOf i).toNat)
    case atStart => exact ⟨0, Nat.zero_le _, rfl, Quiet.refl _, fun j _ _ h => absurd h (by omega)⟩
    case round =>
      obtain ⟨k, hk, rfl, hq, hj⟩ := hrel
      have HJ := Lib.hid hj
      clear hj
      by_cases hlt : k < l1.length
      · have hlt2 : k < l2.length := by have := HN.out; omega
        obtain ⟨b1, o1, rfl, _, p0, p1, _⟩ := R1.out k hlt
        obtain ⟨b2, o2, rfl, _, q0, q1, _⟩ := R2.out k hlt2
        replace p0 := (hq.cell _).trans p0
        replace q0 := (hq.cell _).trans q0
        replace p1 := (hq.cell _).trans p1
        replace q1 := (hq.cell _).trans q1
        have hlt' : (k : Int) < (l1.length : Int) := by omega
        have hlt2' : (k : Int) < (l2.length : Int) := by omega
        have hge' : (0 : Int) ≤ (k : Int) := by omega
        have FP := Lib.hid (@fldP_eq l1[k] l2[k])
        have HM : Hid (¬ fldP l1[k] = fldP l2[k] → ¬ l1.map fldP = l2.map fldP) := map_ne_at hlt hlt2
        have HE : Hid (∀ (j1 : k < l1.length) (j2 : k < l2.length), fldP (l1[k]'j1) = fldP (l1[k]'hlt) ∧ fldP (l2[k]'j2) = fldP (l2[k]'hlt2)) := fun _ _ => ⟨rfl, rfl⟩
        generalize l1[k] = z1 at *
        generalize l2[k] = z2 at *
        rcases z1 with ⟨x0, x1⟩
        rcases z2 with ⟨y0, y1⟩
        have hE := fun W => neq_fld W x0 y0 x1 y1
        have FQ : (x0.toList == y0.toList && x1 == y1) = decide (fldP ⟨x0, x1⟩ = fldP ⟨y0, y1⟩) := FP.out
        simp only at p0 q0 p1 q1
        by_cases hy : fldP ⟨x0, x1⟩ = fldP ⟨y0, y1⟩
        · have hv : (x0.toList == y0.toList && x1 == y1) = true := by rw [FQ]; simpa using hy
          have HY := Lib.hid hy
          clear hy FQ
          go_wp2
          go_quiet (fail)
          go_wp2
          go_roundw
          case rel => exact ⟨k + 1, by omega, by go_num, hq.trans ⟨_, rfl⟩, fun j j1 j2 j3 => by
            rcases Nat.lt_or_ge j k with h | h
            · exact HJ.out j j1 j2 h
            · obtain rfl : j = k := by omega
              exact (HE.out j1 j2).1.trans (HY.out.trans (HE.out j1 j2).2.symm)⟩
          case measure => simp [intOf]; omega
        · have hv : (x0.toList == y0.toList && x1 == y1) = false := by rw [FQ]; simpa using hy
          have HY := Lib.hid hy
          clear hy FQ
          go_wp2
          go_quiet (fail)
          go_wp2
          go_ret
          exact ⟨ret_bool (by simp [HM.out HY.out]), hq.trans ⟨_, rfl⟩⟩
      · have hlt' : ¬ (k : Int) < (l1.length : Int) := by omega
        go_wp2
        go_ret
        exact ⟨ret_bool (by simp [map_eq_of HN.out fun i i1 i2 => HJ.out i i1 i2 (by omega)]), hq⟩
  · have hne : ((l1.length : Int) != (l2.length : Int)) = true := by simp; omega
    have HM := Lib.hid (map_ne_len (f := fldP) hn)
    clear hn
    go_enter Try.func47, Try.ntmps47
    go_wp2
    go_ret
    exact ⟨ret_bool (by simp [HM.out]), Quiet.refl _⟩
def ElR (B : Nat) (w : World) (b k : Nat) (c : ClsD) : Prop := w.cell? ⟨b, k, none⟩ = some (.string c.name) ∧ ∃ v, w.cell? ⟨b, k + 1, none⟩ = some v ∧ RdRow 2 ElF B w v c.fields ∧ ∃ m, w.cell? ⟨b, k + 2, none⟩ = some (.map (some m))
theorem ElR.keep {B : Nat} {w w' : World} {b k : Nat} {x : ClsD} (hb : Below B w w') (h0 : b < B) (h : ElR B w b k x) : ElR B w' b k x := by
  obtain ⟨h1, v, h2, h3, m, h4⟩ := h
  exact ⟨(hb.cell (p := ⟨b, k, none⟩) h0).trans h1, v, (hb.cell (p := ⟨b, k + 1, none⟩) h0).trans h2, h3.keep hb fun _ _ _ e r => r.keep hb e, m, (hb.cell (p := ⟨b, k + 2, none⟩) h0).trans h4⟩
theorem RdRow.mapF {α β : Type} {sz B : Nat} {el : World → Nat → Nat → β → Prop} {f : α → β} {w : World} {v : Value} {l : List α} (h : RdRow sz (fun w b k x => el w b k (f x)) B w v l) : RdRow sz el B w v (l.map f) := by
  obtain ⟨a, c, h1, h2, h3⟩ := h
  refine ⟨a, c, by rw [List.length_map]; exact h1, by rw [List.length_map]; exact h2, fun i hi => ?_⟩
  obtain ⟨b, o, e1, e2, e3⟩ := h3 i (by simpa using hi)
  exact ⟨b, o, e1, e2, by simpa using e3⟩
theorem tab_rd {w : World} {lo t m : Nat} {v : Value} {L : List (ClsD × Value × Nat)} (h : TabS w lo t v m L) (hI : ∀ c ∈ L.map (·.1), ∀ f ∈ c.fields, I64 f.ty) : RdRow 3 (ElR w.heap.size) w.heap.size w v (L.map (·.1)) := by
  refine RdRow.mapF (own_rd (f := rowC) (by decide) (fun _ => rfl) h.rows.row (Nat.le_refl _) fun g k x hx hj => ?_)
  have hx' : x.1 ∈ L.map (·.1) := List.mem_map.2 ⟨x, hx, rfl⟩
  exact ⟨hj 0 _ rfl, x.2.1, hj 1 _ rfl, own_rd (f := fldC) (by decide) (fun _ => rfl) (h.rows.inner x hx).1 (Nat.le_refl _) fun g k y hy hq => ⟨hq 0 _ rfl, hq 1 _ rfl, hI _ hx' y hy⟩, x.2.2, hj 2 _ rfl⟩
set_option maxRecDepth 100000 in
set_option maxHeartbeats 4000000 in
theorem eqrow_any (w : World) (B : Nat) (v1 v2 : Value) (m1 m2 : Nat) (c d : ClsD) (hB : B ≤ w.heap.size) (h1 : RdRow 2 ElF B w v1 c.fields) (h2 : RdRow 2 ElF B w v2 d.fields) :
    Calls Try.prog 46 #[.agg #[.string c.name, v1, .map (some m1)], .agg #[.string d.name, v2, .map (some m2)]] w fun e w' => e = .returned (.bool (decide (clsP c = clsP d))) ∧ Below w.heap.size w w' := by
  have h1' := h1
  have h2' := h2
  obtain ⟨a1, q1, rfl⟩ := rd_shape h1'
  obtain ⟨a2, q2, rfl⟩ := rd_shape h2'
  have k1 : Blk ((w.alloc (.cells #[.string c.name, .slice a1 c.fields.length q1, .map (some m1)] 80)).alloc (.cells #[.string d.name, .slice a2 d.fields.length q2, .map (some m2)] 80)) w.heap.size #[.string c.name, .slice a1 c.fields.length q1, .map (some m1)] 80 := (Blk.new _ _ _).alloc _
  have k2 : Blk ((w.alloc (.cells #[.string c.name, .slice a1 c.fields.length q1, .map (some m1)] 80)).alloc (.cells #[.string d.name, .slice a2 d.fields.length q2, .map (some m2)] 80)) (w.heap.size + 1) #[.string d.name, .slice a2 d.fields.length q2, .map (some m2)] 80 := Blk.new' (by simp)
  have hb0 : Below w.heap.size w ((w.alloc (.cells #[.string c.name, .slice a1 c.fields.length q1, .map (some m1)] 80)).alloc (.cells #[.string d.name, .slice a2 d.fields.length q2, .map (some m2)] 80)) := ((Below.refl _ _).alloc (Nat.le_refl _) _).alloc (by simp) _
  have IN := Lib.hid (eqflds_any _ B _ _ _ _ (h1.keep (hb0.mono hB) fun _ _ _ e r => r.keep (hb0.mono hB) e) (h2.keep (hb0.mono hB) fun _ _ _ e r => r.keep (hb0.mono hB) e))
  have hb := Lib.hid hb0
  have CP := Lib.hid (clsP_eq (f := c) (g := d))
  have c0 := k1.val 0 rfl
  have c1 := k1.val 1 rfl
  have d0 := k2.val 0 rfl
  have d1 := k2.val 1 rfl
  clear h1 h2 h1' h2' hb0 k1 k2
  by_cases hx : c.name.toList = d.name.toList
  · have hx' : (c.name.toList == d.name.toList) = true := by simp [hx]
    have HX := Lib.hid hx
    clear hx
    go_enter Try.func46, Try.ntmps46
    go_wp2_with fail
    refine IN.out.mono ?_
    rintro e9 w3 ⟨rfl, hq3⟩
    have HQ := Lib.hid hq3
    clear hq3
    go_wp2
    go_ret
    exact ⟨ret_bool (by rw [CP.out]; simp [HX.out]), hb.out.trans (Quiet.below HQ.out)⟩
  · have hx' : (c.name.toList == d.name.toList) = false := by simpa using hx
    have HX := Lib.hid hx
    clear hx
    go_enter Try.func46, Try.ntmps46
    go_wp2
    go_ret
    exact ⟨ret_bool (by rw [CP.out]; simp [HX.out]), hb.out⟩
set_option maxRecDepth 100000 in
set_option maxHeartbeats 4000000 in
theorem eqrows_any (w : World) (B : Nat) (v1 v2 : Value) (l1 l2 : List ClsD) (hB : B ≤ w.heap.size) (h1 : RdRow 3 (ElR B) B w v1 l1) (h2 : RdRow 3 (ElR B) B w v2 l2) :
    Calls Try.prog 45 #[v1, v2, .func (.func 46) #[] #[]] w fun e w' => e = .returned (.bool (decide (l1.map clsP = l2.map clsP))) ∧ Below w.heap.size w w' := by
  have h1' := h1
  have h2' := h2
  obtain ⟨a1, c1, rfl⟩ := rd_shape h1'
  obtain ⟨a2, c2, rfl⟩ := rd_shape h2'
  have M1 : l1.length ≤ maxLen := by obtain ⟨_, _, _, h, _⟩ := h1; exact h
  unfold maxLen at M1
  have R1 := Lib.hid (fun W (hb : Below B w W) i (hi : i < l1.length) => rd_at (h1.keep hb fun _ _ _ e r => r.keep hb e) hi)
  have R2 := Lib.hid (fun W (hb : Below B w W) i (hi : i < l2.length) => rd_at (h2.keep hb fun _ _ _ e r => r.keep hb e) hi)
  have HB := Lib.hid hB
  clear h1 h2 h1' h2' hB
  by_cases hn : l1.length = l2.length
  · have hne : ((l1.length : Int) != (l2.length : Int)) = false := by simp [hn]
    have HN := Lib.hid hn
    clear hn
    go_enter Try.func45, Try.ntmps45
    go_wp2
    go_loopw [17] (fun i wr => ∃ k : Nat, k ≤ l1.length ∧ i = .int .i64 k ∧ Below w.heap.size w wr ∧ ∀ j, (j1 : j < l1.length) → (j2 : j < l2.length) → j < k → clsP l1[j] = clsP l2[j]) (fun i _ => l1.length - (intOf i).toNat)
    case atStart => exact ⟨0, Nat.zero_le _, rfl, Below.refl _ _, fun j _ _ h => absurd h (by omega)⟩
    case round =>
      obtain ⟨k, hk, rfl, hq, hj⟩ := hrel
      have HJ := Lib.hid hj
      have HQ := Lib.hid hq
      clear hj hq
      by_cases hlt : k < l1.length
      · have hlt2 : k < l2.length := by have := HN.out; omega
        have hlt' : (k : Int) < (l1.length : Int) := by omega
        have i1 : (0 : Int) ≤ (k : Int) ∧ (k : Int) < (l1.length : Int) := ⟨by omega, by omega⟩
        have i2 : (0 : Int) ≤ (k : Int) ∧ (k : Int) < (l2.length : Int) := ⟨by omega, by omega⟩
        have m1 : 0 < l1.length := by omega
        have m2 : 0 < l2.length := by omega
        have hbw : Below B w wr := HQ.out.mono HB.out
        have hsz : B ≤ wr.heap.size := Nat.le_trans HB.out HQ.out.size
        obtain ⟨b1, o1, rfl, _, f0, x1, f1, g1, m1', f2⟩ := R1.out wr hbw k hlt
        obtain ⟨fa1, fc1, rfl⟩ := rd_shape g1
        have HM : Hid (¬ clsP l1[k] = clsP l2[k] → ¬ l1.map clsP = l2.map clsP) := map_ne_at hlt hlt2
        have HE : Hid (∀ (j1 : k < l1.length) (j2 : k < l2.length), clsP (l1[k]'j1) = clsP (l1[k]'hlt) ∧ clsP (l2[k]'j2) = clsP (l2[k]'hlt2)) := fun _ _ => ⟨rfl, rfl⟩
        have R2k := Lib.hid (fun W (hb : Below B w W) => R2.out W hb k hlt2)
        generalize l1[k] = c at *
        generalize l2[k] = d at *
        have bC : Below wr.heap.size wr (wr.alloc (.cells #[.string c.name, .slice fa1 c.fields.length fc1, .map (some m1')] 80)) := (Below.refl _ _).alloc (Nat.le_refl _) _
        obtain ⟨b2, o2, rfl, _, h0, y1, h1, l1', m2', h2⟩ := R2k.out _ (hbw.trans (bC.mono hsz))
        obtain ⟨ga1, gc1, rfl⟩ := rd_shape l1'
        have bD : Below wr.heap.size (wr.alloc (.cells #[.string c.name, .slice fa1 c.fields.length fc1, .map (some m1')] 80)) ((wr.alloc (.cells #[.string c.name, .slice fa1 c.fields.length fc1, .map (some m1')] 80)).alloc (.cells #[.string d.name, .slice ga1 d.fields.length gc1, .map (some m2')] 80)) := (Below.refl _ _).alloc (by simp) _
        have bE := bC.trans bD
        have hF0 := bD.mono hsz
        have hF1 := bE.mono hsz
        have kF : Blk ((wr.alloc (.cells #[.string c.name, .slice fa1 c.fields.length fc1, .map (some m1')] 80)).alloc (.cells #[.string d.name, .slice ga1 d.fields.length gc1, .map (some m2')] 80)) wr.heap.size #[.string c.name, .slice fa1 c.fields.length fc1, .map (some m1')] 80 := (Blk.new _ _ _).alloc _
        have kG : Blk ((wr.alloc (.cells #[.string c.name, .slice fa1 c.fields.length fc1, .map (some m1')] 80)).alloc (.cells #[.string d.name, .slice ga1 d.fields.length gc1, .map (some m2')] 80)) (wr.heap.size + 1) #[.string d.name, .slice ga1 d.fields.length gc1, .map (some m2')] 80 := Blk.new' (by simp)
        have CL := Lib.hid (eqrow_any _ B _ _ m1' m2' c d (Nat.le_trans hsz bE.size) (g1.keep hF1 fun _ _ _ e r => r.keep hF1 e) (l1'.keep hF0 fun _ _ _ e r => r.keep hF0 e))
        have BE := Lib.hid bE
        have z0 := kF.val 0 rfl
        have t0 := kG.val 0 rfl
        have z1 := kF.val 1 rfl
        have t1 := kG.val 1 rfl
        have z2 := kF.val 2 rfl
        have t2 := kG.val 2 rfl
        clear bC bD bE hF0 hF1 kF kG hbw hsz
        go_wp2_with fail
        refine CL.out.mono ?_
        rintro e9 w6 ⟨rfl, hb6⟩
        have HB6 := Lib.hid (BE.out.trans (hb6.mono BE.out.size))
        clear hb6 CL
        by_cases hy : clsP c = clsP d
        · have hv : decide (clsP c = clsP d) = true := by simpa using hy
          have HY := Lib.hid hy
          clear hy
          go_wp2
          go_roundw
          case rel => exact ⟨k + 1, by omega, by go_num, HQ.out.trans (HB6.out.mono HQ.out.size), fun j j1 j2 j3 => by
            rcases Nat.lt_or_ge j k with h | h
            · exact HJ.out j j1 j2 h
            · obtain rfl : j = k := by omega
              exact (HE.out j1 j2).1.trans (HY.out.trans (HE.out j1 j2).2.symm)⟩
          case measure => simp [intOf]; omega
        · have hv : decide (clsP c = clsP d) = false := by simpa using hy
          have HY := Lib.hid hy
          clear hy
          go_wp2
          go_ret
          exact ⟨ret_bool (by simp [HM.out HY.out]), HQ.out.trans (HB6.out.mono HQ.out.size)⟩
      · have hlt' : ¬ (k : Int) < (l1.length : Int) := by omega
        go_wp2
        go_ret
        exact ⟨ret_bool (by simp [map_eq_of HN.out fun i i1 i2 => HJ.out i i1 i2 (by omega)]), HQ.out⟩
  · have hne : ((l1.length : Int) != (l2.length : Int)) = true := by simp; omega
    have HM := Lib.hid (map_ne_len (f := clsP) hn)
    clear hn
    go_enter Try.func45, Try.ntmps45
    go_wp2
    go_ret
    exact ⟨ret_bool (by simp [HM.out]), Below.refl _ _⟩
set_option maxRecDepth 100000 in
set_option maxHeartbeats 4000000 in
theorem rsclasses_any (w : World) (B : Nat) (v1 v2 : Value) (l1 l2 : List ClsD) (hB : B ≤ w.heap.size) (h1 : RdRow 2 (ElC B) B w v1 l1) (h2 : RdRow 2 (ElC B) B w v2 l2) :
    Calls Try.prog 33 #[v1, v2] w fun e w' => e = .returned (.bool (decide (l1.map clsP = l2.map clsP))) ∧ Below w.heap.size w w' := by
  have h1' := h1
  have h2' := h2
  obtain ⟨a1, c1, rfl⟩ := rd_shape h1'
  obtain ⟨a2, c2, rfl⟩ := rd_shape h2'
  have M1 : l1.length ≤ maxLen := by obtain ⟨_, _, _, h, _⟩ := h1; exact h
  unfold maxLen at M1
  have R1 := Lib.hid (fun W (hb : Below B w W) i (hi : i < l1.length) => rd_at (h1.keep hb fun _ _ _ e r => r.keep hb e) hi)
  have R2 := Lib.hid (fun W (hb : Below B w W) i (hi : i < l2.length) => rd_at (h2.keep hb fun _ _ _ e r => r.keep hb e) hi)
  have HB := Lib.hid hB
  clear h1 h2 h1' h2' hB
  by_cases hn : l1.length = l2.length
  · have hne : ((l1.length : Int) != (l2.length : Int)) = false := by simp [hn]
    have HN := Lib.hid hn
    clear hn
    go_enter Try.func33, Try.ntmps33
    go_wp2
    go_loopw [5] (fun i wr => ∃ k : Nat, k ≤ l1.length ∧ i = .int .i64 k ∧ Below w.heap.size w wr ∧ ∀ j, (j1 : j < l1.length) → (j2 : j < l2.length) → j < k → clsP l1[j] = clsP l2[j]) (fun i _ => l1.length - (intOf i).toNat)
    case atStart => exact ⟨0, Nat.zero_le _, rfl, Below.refl _ _, fun j _ _ h => absurd h (by omega)⟩
    case round =>
      obtain ⟨k, hk, rfl, hq, hj⟩ := hrel
      have HJ := Lib.hid hj
      have HQ := Lib.hid hq
      clear hj hq
      by_cases hlt : k < l1.length
      · have hlt2 : k < l2.length := by have := HN.out; omega
        have hbw := HQ.out.mono HB.out
        obtain ⟨b1, o1, rfl, _, p1, x1, y1, z1⟩ := R1.out wr hbw k hlt
        obtain ⟨b2, o2, rfl, _, p2, x2, y2, z2⟩ := R2.out wr hbw k hlt2
        obtain ⟨fa1, fc1, hx1⟩ := rd_shape z1
        obtain ⟨fa2, fc2, hx2⟩ := rd_shape z2
        have hlt' : (k : Int) < (l1.length : Int) := by omega
        have i1 : (0 : Int) ≤ (k : Int) ∧ (k : Int) < (l1.length : Int) := ⟨by omega, by omega⟩
        have i2 : (0 : Int) ≤ (k : Int) ∧ (k : Int) < (l2.length : Int) := ⟨by omega, by omega⟩
        have m1 : 0 < l1.length := by omega
        have m2 : 0 < l2.length := by omega
        have CL := Lib.hid (rsclass_any wr.drew B x1 x2 l1[k] l2[k] (Nat.le_trans HB.out HQ.out.size) (z1.keep (Below.refl _ _).drew fun _ _ _ e r => r.keep (Below.refl _ _).drew e) (z2.keep (Below.refl _ _).drew fun _ _ _ e r => r.keep (Below.refl _ _).drew e))
        have HM : Hid (¬ clsP l1[k] = clsP l2[k] → ¬ l1.map clsP = l2.map clsP) := map_ne_at hlt hlt2
        have HE : Hid (∀ (j1 : k < l1.length) (j2 : k < l2.length), clsP (l1[k]'j1) = clsP (l1[k]'hlt) ∧ clsP (l2[k]'j2) = clsP (l2[k]'hlt2)) := fun _ _ => ⟨rfl, rfl⟩
        have HT : Hid (Below wr.heap.size wr wr.drew) := (Below.refl _ _).drew
        generalize l1[k] = e1 at *
        generalize l2[k] = e2 at *
        clear z1 z2 hx1 hx2 hbw
        go_wp2_with fail
        go_still_tail 8, (by kernel_rfl)
        change wpList _ _ _ _ _ wr.drew
        generalize wr.drew = w5 at *
        go_wp2_with fail
        refine CL.out.mono ?_
        rintro e9 w6 ⟨rfl, hb6⟩
        have HB6 := Lib.hid (HT.out.trans (hb6.mono HT.out.size))
        clear hb6 CL
        by_cases hy : clsP e1 = clsP e2
        · have hv : decide (clsP e1 = clsP e2) = true := by simpa using hy
          have HY := Lib.hid hy
          clear hy
          go_wp2
          go_roundw
          case rel => exact ⟨k + 1, by omega, by go_num, HQ.out.trans (HB6.out.mono HQ.out.size), fun j j1 j2 j3 => by
            rcases Nat.lt_or_ge j k with h | h
            · exact HJ.out j j1 j2 h
            · obtain rfl : j = k := by omega
              exact (HE.out j1 j2).1.trans (HY.out.trans (HE.out j1 j2).2.symm)⟩
          case measure => simp [intOf]; omega
        · have hv : decide (clsP e1 = clsP e2) = false := by simpa using hy
          have HY := Lib.hid hy
          clear hy
          go_wp2
          go_ret
          exact ⟨ret_bool (by simp [HM.out HY.out]), HQ.out.trans (HB6.out.mono HQ.out.size)⟩
      · have hlt' : ¬ (k : Int) < (l1.length : Int) := by omega
        go_wp2
        go_ret
        exact ⟨ret_bool (by simp [map_eq_of HN.out fun i i1 i2 => HJ.out i i1 i2 (by omega)]), HQ.out⟩
  · have hne : ((l1.length : Int) != (l2.length : Int)) = true := by simp; omega
    have HM := Lib.hid (map_ne_len (f := clsP) hn)
    go_enter Try.func33, Try.ntmps33
    go_wp2
    go_ret
    exact ⟨ret_bool (by simp [HM.out]), Below.refl _ _⟩
theorem all_nil (w : World) :
    Calls Try.prog 38 #[.pointer none] w fun e w' => e = .returned (.slice none 0 0) ∧ w' = w := by
  go_enter Try.func38, Try.ntmps38
  go_wp2
  go_ret
  exact ⟨rfl, rfl⟩
theorem count_nil (w : World) :
    Calls Try.prog 14 #[.pointer none] w fun e w' => e = .returned (.int .i64 0) ∧ w' = w := by
  go_enter Try.func14, Try.ntmps14
  go_wp2_with (go_at_call 38; refine (all_nil _).mono ?_; rintro e w' ⟨rfl, rfl⟩)
  go_ret
  exact ⟨rfl, rfl⟩
set_option maxRecDepth 100000 in
set_option maxHeartbeats 1000000 in
theorem at_nil0 (w : World) :
    Calls Try.prog 39 #[.pointer none, .int .i64 0] w fun e w' => e = .returned (.tuple #[.agg #[.string ⟨#[]⟩, .slice none 0 0, .map none], .bool false]) ∧ Below w.heap.size w w' := by
  have HB : Hid (Below w.heap.size w (w.alloc (.cells #[.string ⟨#[]⟩, .slice none 0 0, .map none] 80))) := (Below.refl _ _).alloc (Nat.le_refl _) _
  go_enter Try.func39, Try.ntmps39
  go_wp2_with (go_at_call 38; refine (all_nil _).mono ?_; rintro e w' ⟨rfl, rfl⟩)
  refine bodyPost_ret (v := .tuple #[.agg #[.string ⟨#[]⟩, .slice none 0 0, .map none], .bool false]) (by simp [results, Try.results39, go_sem]) rfl ⟨rfl, HB.out⟩
set_option maxRecDepth 100000 in
set_option maxHeartbeats 1000000 in
theorem thead_nil (w : World) :
    Calls Try.prog 23 #[.pointer none, .int .i64 0] w fun e w' => e = .returned (.tuple #[.agg #[.int .i64 0, .int .i64 0, .int .i64 0], .int .i64 21]) ∧ Below w.heap.size w w' := by
  have hb : Below w.heap.size w (w.alloc (.cells #[.int .i64 0, .int .i64 0, .int .i64 0] 49)) := (Below.refl _ _).alloc (Nat.le_refl _) _
  have k1 := Blk.new w #[.int .i64 0, .int .i64 0, .int .i64 0] 49
  have AT := Lib.hid (at_nil0 (w.alloc (.cells #[.int .i64 0, .int .i64 0, .int .i64 0] 49)))
  have HB := Lib.hid hb
  have K1 := Lib.hid k1
  clear hb k1
  go_enter Try.func23, Try.ntmps23
  go_wp2_with fail
  refine AT.out.mono ?_
  rintro e w2 ⟨rfl, hb2⟩
  have k1 := K1.out.grew hb2
  have hb := (HB.out.trans (hb2.mono HB.out.size))
  have z0 := k1.val 0 rfl
  have z1 := k1.val 1 rfl
  have z2 := k1.val 2 rfl
  have f0 := k1.frozen 0
  have f1 := k1.frozen 1
  have f2 := k1.frozen 2
  have hl := k1.lt
  have hT := (((Touch.refl (fun x => x = w.heap.size) w2).setCell (p := ⟨w.heap.size, 0, none⟩) rfl (.int .i64 0)).setCell (p := ⟨w.heap.size, 1, none⟩) rfl (.int .i64 0)).setCell (p := ⟨w.heap.size, 2, none⟩) rfl (.int .i64 0)
  have K3 := Lib.hid ((((k1.set 0 (.int .i64 0)).set 1 (.int .i64 0)).set 2 (.int .i64 0)).alloc (.cells #[.string ⟨#[]⟩, .slice none 0 0, .map none] 80))
  have HE0 := Lib.hid (hb.trans (hT.below (B := w.heap.size) hb.size (fun q hq => by omega)))
  have HE := Lib.hid (HE0.out.alloc HE0.out.size (.cells #[.string ⟨#[]⟩, .slice none 0 0, .map none] 80))
  clear k1 hb hb2 hT
  go_wp2
  clear z0 z1 z2
  have z0 := K3.out.val 0 rfl
  have z1 := K3.out.val 1 rfl
  have z2 := K3.out.val 2 rfl
  refine bodyPost_ret (v := .tuple #[.agg #[.int .i64 0, .int .i64 0, .int .i64 0], .int .i64 21]) (by simp [results, Try.results23, go_sem, z0, z1, z2]) rfl ⟨rfl, HE.out⟩
set_option maxRecDepth 100000 in
set_option maxHeartbeats 1000000 in
theorem fits_nil1 (w : World) :
    Calls Try.prog 27 #[.pointer none, .agg #[.int .i64 0, .int .i64 1, .int .i64 0]] w fun e w' => e = .returned (.bool false) ∧ Below w.heap.size w w' := by
  have hb := (Below.refl w.heap.size w).alloc (Nat.le_refl _) (.cells #[.int .i64 0, .int .i64 1, .int .i64 0] 49)
  have HB := Lib.hid hb
  clear hb
  go_enter Try.func27, Try.ntmps27
  go_wp2_with fail
  refine (thead_nil _).mono ?_
  rintro e w2 ⟨rfl, hb2⟩
  have hb := HB.out.trans (hb2.mono HB.out.size)
  have HB2 := Lib.hid (hb.alloc hb.size (.cells #[.int .i64 0, .int .i64 0, .int .i64 0] 49))
  clear hb hb2
  go_wp2
  go_ret
  exact ⟨rfl, HB2.out⟩
set_option maxRecDepth 100000 in
set_option maxHeartbeats 1000000 in
theorem fits_nil2 (w : World) :
    Calls Try.prog 27 #[.pointer none, .agg #[.int .i64 0, .int .i64 2, .int .i64 1]] w fun e w' => e = .returned (.bool true) ∧ Below w.heap.size w w' := by
  have hb := (Below.refl w.heap.size w).alloc (Nat.le_refl _) (.cells #[.int .i64 0, .int .i64 2, .int .i64 1] 49)
  have HB := Lib.hid hb
  have hw : wordsI 0 2 1 = 2 := by decide
  have WD := words_any 0 2 1 (w.alloc (.cells #[.int .i64 0, .int .i64 2, .int .i64 1] 49))
  rw [hw] at WD
  have WD := Lib.hid WD
  clear hb hw
  go_enter Try.func27, Try.ntmps27
  go_wp2_with fail
  refine WD.out.mono ?_
  rintro e w2 ⟨rfl, hb2⟩
  have HB2 := Lib.hid (HB.out.trans (hb2.mono HB.out.size))
  clear hb2
  go_wp2
  go_ret
  exact ⟨rfl, HB2.out⟩

theorem same_any (w : World) (lo t m lo2 t2 m2 : Nat) (v v2 : Value) (L L2 : List (ClsD × Value × Nat)) (h : TabS w lo t v m L) (h2 : TabS w lo2 t2 v2 m2 L2) (hI : ∀ c ∈ L.map (·.1), ∀ f ∈ c.fields, I64 f.ty) (hI2 : ∀ c ∈ L2.map (·.1), ∀ f ∈ c.fields, I64 f.ty) :
    Calls Try.prog 32 #[.pointer (some ⟨t, 0, none⟩), .pointer (some ⟨t2, 0, none⟩)] w fun e w' => e = .returned (.bool (decide ((L.map (·.1)).map clsP = (L2.map (·.1)).map clsP))) ∧ Below w.heap.size w w' := by
  have A1 := Lib.hid (all_any w lo t m v L h)
  have A2 := Lib.hid (all_any w lo2 t2 m2 v2 L2 h2)
  have EQ := Lib.hid (eqrows_any w w.heap.size v v2 _ _ (Nat.le_refl _) (tab_rd h hI) (tab_rd h2 hI2))
  generalize decide ((L.map (·.1)).map clsP = (L2.map (·.1)).map clsP) = D at EQ ⊢
  clear h h2 hI hI2
  go_enter Try.func32, Try.ntmps32
  go_wp2_with fail
  refine A1.out.mono ?_
  rintro e w1 ⟨rfl, hw1⟩
  subst hw1
  go_wp2_with fail
  refine A2.out.mono ?_
  rintro e w2 ⟨rfl, hw2⟩
  subst hw2
  go_wp2_with fail
  refine EQ.out.mono ?_
  rintro e w3 ⟨rfl, hb⟩
  go_wp2
  go_ret
  exact ⟨rfl, hb⟩
theorem same_nil (w : World) (lo t m : Nat) (v : Value) (L : List (ClsD × Value × Nat)) (h : TabS w lo t v m L) (hI : ∀ c ∈ L.map (·.1), ∀ f ∈ c.fields, I64 f.ty) :
    Calls Try.prog 32 #[.pointer (some ⟨t, 0, none⟩), .pointer none] w fun e w' => e = .returned (.bool (decide ((L.map (·.1)).map clsP = ([] : List ClsD).map clsP))) ∧ Below w.heap.size w w' := by
  have A1 := Lib.hid (all_any w lo t m v L h)
  have EQ := Lib.hid (eqrows_any w w.heap.size v (.slice none 0 0) _ [] (Nat.le_refl _) (tab_rd h hI) ⟨none, 0, rfl, by unfold maxLen; simp, fun i hi => absurd hi (by simp)⟩)
  generalize decide ((L.map (·.1)).map clsP = ([] : List ClsD).map clsP) = D at EQ ⊢
  clear h hI
  go_enter Try.func32, Try.ntmps32
  go_wp2_with fail
  refine A1.out.mono ?_
  rintro e w1 ⟨rfl, hw1⟩
  subst hw1
  go_wp2_with fail
  refine (all_nil _).mono ?_
  rintro e w2 ⟨rfl, hw2⟩
  subst hw2
  go_wp2_with fail
  refine EQ.out.mono ?_
  rintro e w3 ⟨rfl, hb⟩
  go_wp2
  go_ret
  exact ⟨rfl, hb⟩
end Go.Proofs.Ytkapnblocimelaa
/- The law ClassesSame. Condition: the arguments read as classes. -/
namespace Go.Proofs.Ytkapnblocimelaa
open Go.RowKit
set_option linter.unusedVariables false
theorem rd_i64 {B : Nat} {w : World} {v : Value} {cl : List ClsD} (h : RdRow 2 (ElC B) B w v cl) : ∀ c ∈ cl, ∀ f ∈ c.fields, I64 f.ty := by
  intro c hc f hf
  obtain ⟨i, hi, rfl⟩ := List.getElem_of_mem hc
  obtain ⟨a, q, _, _, h3⟩ := h
  obtain ⟨b, o, _, _, _, v', _, a', q', _, _, h5⟩ := h3 i hi
  obtain ⟨j, hj, rfl⟩ := List.getElem_of_mem hf
  obtain ⟨_, _, _, _, _, _, r⟩ := h5 j hj
  exact r
theorem len_dec (cl : List ClsD) : decide (cl.map clsP = ([] : List ClsD).map clsP) = ((cl.length : Int) == 0) := by
  cases cl with
  | nil => rfl
  | cons a l => simp; omega
set_option maxRecDepth 100000 in
set_option maxHeartbeats 16000000 in
theorem csame_law (v1 : Value) (cl1 : List ClsD) (v2 : Value) (cl2 : List ClsD) (w : World) (h1 : RdRow 2 (ElC w.heap.size) w.heap.size w v1 cl1) (h2 : RdRow 2 (ElC w.heap.size) w.heap.size w v2 cl2) :
    Calls Try.prog 7 #[v1, v2] w fun e w' => e = .returned (.bool true) ∧ Below w.heap.size w w' := by
  obtain ⟨a1, q1, rfl⟩ := rd_shape h1
  obtain ⟨a2, q2, rfl⟩ := rd_shape h2
  have RP1 := Lib.hid (fun W (hb : Below w.heap.size w W) => h1.keep hb fun _ _ _ e r => r.keep hb e)
  have RP2 := Lib.hid (fun W (hb : Below w.heap.size w W) => h2.keep hb fun _ _ _ e r => r.keep hb e)
  have IA := Lib.hid (rd_i64 h1)
  have IB := Lib.hid (rd_i64 h2)
  have NW := Lib.hid (new_any w w.heap.size _ cl1 h1 (Nat.le_refl _))
  clear h1 h2
  go_enter Try.func7, Try.ntmps7
  go_wp2_with fail
  refine NW.out.mono ?_
  rintro e w1 ⟨hb1, hcase1⟩
  have NW2 := Lib.hid (new_any w1 w.heap.size _ cl2 (RP2.out _ hb1) hb1.size)
  have B1 := Lib.hid hb1
  clear NW hb1
  rcases hcase1 with ⟨hne, rfl⟩ | ⟨hz, t, tv, m, L, rfl, hT, hL⟩
  · have hne' : ((tabE cl1).2 != 0) = true := by simpa using hne
    generalize (tabE cl1).1 = n1 at *
    generalize (tabE cl1).2 = n2 at *
    clear hne IA IB
    go_wp2_with fail
    refine NW2.out.mono ?_
    rintro e w2 ⟨hb2, hcase2⟩
    have B2 := Lib.hid (B1.out.trans (hb2.mono B1.out.size))
    have hcase : ∃ x y z, e = .returned (.tuple #[x, .int .i64 y, .int .i64 z]) := by
      rcases hcase2 with ⟨_, rfl⟩ | ⟨_, t, _, _, _, rfl, _, _⟩
      · exact ⟨_, _, _, rfl⟩
      · exact ⟨_, _, _, rfl⟩
    obtain ⟨x, y, z, rfl⟩ := hcase
    clear hcase2 hb2 NW2
    go_wp2_with fail
    refine (classed_any _).mono ?_
    rintro e w3 ⟨rfl, hb3⟩
    have B3 := Lib.hid (B2.out.trans (hb3.mono B2.out.size))
    clear hb3
    go_wp2_with fail
    refine (count_nil _).mono ?_
    rintro e w4 ⟨rfl, hw4⟩
    subst hw4
    go_wp2_with fail
    refine (fits_nil1 _).mono ?_
    rintro e w5 ⟨rfl, hb5⟩
    have B5 := Lib.hid (B3.out.trans (hb5.mono B3.out.size))
    clear hb5
    go_wp2_with fail
    refine (fits_nil2 _).mono ?_
    rintro e w6 ⟨rfl, hb6⟩
    have B6 := Lib.hid (B5.out.trans (hb6.mono B5.out.size))
    clear hb6
    go_wp2
    go_ret
    exact ⟨rfl, B6.out⟩
  have HT := Lib.hid (fun W (hb : Below w1.heap.size w1 W) => hT.grew hb)
  have HL := Lib.hid hL
  clear hT hz hL
  go_wp2_with fail
  refine NW2.out.mono ?_
  rintro e w2 ⟨hb2, hcase2⟩
  have B2 := Lib.hid (B1.out.trans (hb2.mono B1.out.size))
  have C2 := Lib.hid hb2
  clear hb2 NW2
  rcases hcase2 with ⟨hne, rfl⟩ | ⟨hz, t2, tv2, m2, L2, rfl, hT2, hL2⟩
  · have hne' : ((tabE cl2).2 != 0) = true := by simpa using hne
    generalize (tabE cl2).1 = n1 at *
    generalize (tabE cl2).2 = n2 at *
    clear hne IA IB HT HL C2
    go_wp2_with fail
    refine (classed_any _).mono ?_
    rintro e w3 ⟨rfl, hb3⟩
    have B3 := Lib.hid (B2.out.trans (hb3.mono B2.out.size))
    clear hb3
    go_wp2_with fail
    refine (count_nil _).mono ?_
    rintro e w4 ⟨rfl, hw4⟩
    subst hw4
    go_wp2_with fail
    refine (fits_nil1 _).mono ?_
    rintro e w5 ⟨rfl, hb5⟩
    have B5 := Lib.hid (B3.out.trans (hb5.mono B3.out.size))
    clear hb5
    go_wp2_with fail
    refine (fits_nil2 _).mono ?_
    rintro e w6 ⟨rfl, hb6⟩
    have B6 := Lib.hid (B5.out.trans (hb6.mono B5.out.size))
    clear hb6
    go_wp2
    go_ret
    exact ⟨rfl, B6.out⟩
  have HT2 := Lib.hid (fun W (hb : Below w2.heap.size w2 W) => hT2.grew hb)
  have HL2 := Lib.hid hL2
  clear hT2 hz hL2
  go_wp2_with fail
  refine (classed_any _).mono ?_
  rintro e w3 ⟨rfl, hb3⟩
  have B3 := Lib.hid hb3
  clear hb3
  go_wp2_with fail
  refine (count_nil _).mono ?_
  rintro e w4 ⟨rfl, hw4⟩
  subst hw4
  go_wp2_with fail
  refine (fits_nil1 _).mono ?_
  rintro e w5 ⟨rfl, hb5⟩
  have B5 := Lib.hid (B3.out.trans (hb5.mono B3.out.size))
  clear hb5
  go_wp2_with fail
  refine (fits_nil2 _).mono ?_
  rintro e w6 ⟨rfl, hb6⟩
  have hb := B5.out.trans (hb6.mono B5.out.size)
  have T1 := HT.out _ (C2.out.trans (hb.mono C2.out.size))
  have T2 := HT2.out _ hb
  have B6 := Lib.hid (B2.out.trans (hb.mono B2.out.size))
  have HT := Lib.hid (fun W (hb : Below w6.heap.size w6 W) => T1.grew hb)
  have SA := same_any _ _ _ _ _ _ _ _ _ L L2 T1 T2 (by rw [HL.out]; exact IA.out) (by rw [HL2.out]; exact IB.out)
  rw [HL.out, HL2.out] at SA
  have SA := Lib.hid SA
  clear hb hb6 B3 B5 C2 HT2 T1 T2
  go_wp2_with fail
  refine SA.out.mono ?_
  rintro e w7 ⟨rfl, hb7⟩
  have B7 := Lib.hid hb7
  have G7 := Lib.hid (B6.out.trans (hb7.mono B6.out.size))
  have RS := Lib.hid (rsclasses_any w7 w.heap.size _ _ cl1 cl2 G7.out.size (RP1.out _ G7.out) (RP2.out _ G7.out))
  clear hb7 SA
  generalize decide (cl1.map clsP = cl2.map clsP) = D at *
  go_wp2_with fail
  refine RS.out.mono ?_
  rintro e w8 ⟨rfl, hb8⟩
  have B8 := Lib.hid (B7.out.trans (hb8.mono B7.out.size))
  have T1 := HT.out _ B8.out
  have SS := same_any _ _ _ _ _ _ _ _ _ L L T1 T1 (by rw [HL.out]; exact IA.out) (by rw [HL.out]; exact IA.out)
  rw [decide_eq_true rfl] at SS
  have SS := Lib.hid SS
  clear hb8 RS B7 G7 T1
  go_wp2_with fail
  refine SS.out.mono ?_
  rintro e w9 ⟨rfl, hb9⟩
  have B9 := Lib.hid (B8.out.trans (hb9.mono B8.out.size))
  have T1 := HT.out _ B9.out
  have SN := same_nil _ _ _ _ _ L T1 (by rw [HL.out]; exact IA.out)
  rw [HL.out, len_dec] at SN
  have SN := Lib.hid SN
  clear hb9 SS B8 T1
  go_wp2_with fail
  refine SN.out.mono ?_
  rintro e w10 ⟨rfl, hb10⟩
  have B10 := Lib.hid (B6.out.trans ((B9.out.trans (hb10.mono B9.out.size)).mono B6.out.size))
  clear hb10 SN B9
  go_wp2
  go_ret
  exact ⟨rfl, B10.out⟩
end Go.Proofs.Ytkapnblocimelaa
