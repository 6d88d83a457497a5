/- Texts of this seat, one behind the other: each says at its head what it holds. No condition of its own. -/
import Derived.Test.YtpoddnfooaddgaaGreatDoorGObjectsLooks23
/- The reference's headers: what may be one, what fits, which words are references. Condition: the classes are there. -/
namespace Go.Proofs.YtpoddnfooaddgaaGreatDoor
open Go.RowKit
set_option linter.unusedVariables false
theorem validI_eq1 (c l : Int) : validI c 1 l = decide (0 ≤ c ∧ c ≤ 15 ∧ 0 ≤ l ∧ l ≤ 15) := by
  unfold validI
  rw [if_pos rfl, ← Bool.decide_and, ← Bool.decide_and, ← Bool.decide_and]
  exact decide_eq_decide.2 (by omega)
theorem validI_eq23 (c k l : Int) (hk : k = 2 ∨ k = 3) : validI c k l = decide (c = 0 ∧ 0 ≤ l ∧ l ≤ 255) := by
  unfold validI
  rw [if_neg (by omega), if_pos hk, ← Bool.decide_and, ← Bool.decide_and]

set_option maxHeartbeats 1000000 in
theorem isHead_anyRmap (c k l : Int) (w : World) :
    Calls Tryz.prog 13 #[.agg #[.int .i64 c, .int .i64 k, .int .i64 l]] w fun e w' => e = .returned (.bool (validI c k l)) ∧ Below w.heap.size w w' := by
  by_cases k1 : k = 1
  · subst k1
    by_cases h1 : 0 ≤ c
    · by_cases h2 : c ≤ 15
      · by_cases h3 : 0 ≤ l
        · have hb : validI c 1 l = decide (l ≤ 15) := by rw [validI_eq1]; exact decide_eq_decide.2 (by omega)
          rw [hb]; clear hb
          go_enter Tryz.func13, Tryz.ntmps13
          go_wp2
          go_ret
          exact ⟨rfl, (Below.refl _ _).alloc (Nat.le_refl _) _⟩
        · have hb : validI c 1 l = false := by rw [validI_eq1]; exact decide_eq_false (by omega)
          rw [hb]; clear hb
          go_enter Tryz.func13, Tryz.ntmps13
          go_wp2
          go_ret
          exact ⟨rfl, (Below.refl _ _).alloc (Nat.le_refl _) _⟩
      · have hb : validI c 1 l = false := by rw [validI_eq1]; exact decide_eq_false (by omega)
        rw [hb]; clear hb
        go_enter Tryz.func13, Tryz.ntmps13
        go_wp2
        go_ret
        exact ⟨rfl, (Below.refl _ _).alloc (Nat.le_refl _) _⟩
    · have hb : validI c 1 l = false := by rw [validI_eq1]; exact decide_eq_false (by omega)
      rw [hb]; clear hb
      go_enter Tryz.func13, Tryz.ntmps13
      go_wp2
      go_ret
      exact ⟨rfl, (Below.refl _ _).alloc (Nat.le_refl _) _⟩
  · by_cases hk : k = 2 ∨ k = 3
    · by_cases h1 : c = 0
      · subst h1
        by_cases h3 : 0 ≤ l
        · have hb : validI 0 k l = decide (l ≤ 255) := by rw [validI_eq23 _ _ _ hk]; exact decide_eq_decide.2 (by omega)
          rw [hb]; clear hb
          rcases hk with rfl | rfl
          all_goals
            go_enter Tryz.func13, Tryz.ntmps13
            go_wp2
            go_ret
            exact ⟨rfl, (Below.refl _ _).alloc (Nat.le_refl _) _⟩
        · have hb : validI 0 k l = false := by rw [validI_eq23 _ _ _ hk]; exact decide_eq_false (by omega)
          rw [hb]; clear hb
          rcases hk with rfl | rfl
          all_goals
            go_enter Tryz.func13, Tryz.ntmps13
            go_wp2
            go_ret
            exact ⟨rfl, (Below.refl _ _).alloc (Nat.le_refl _) _⟩
      · have hb : validI c k l = false := by rw [validI_eq23 _ _ _ hk]; exact decide_eq_false (by omega)
        rw [hb]; clear hb
        have hc : (c == 0) = false := beq_eq_false_iff_ne.2 h1
        clear h1
        rcases hk with rfl | rfl
        all_goals
          go_enter Tryz.func13, Tryz.ntmps13
          go_wp2
          go_ret
          exact ⟨rfl, (Below.refl _ _).alloc (Nat.le_refl _) _⟩
    · rw [show validI c k l = false by unfold validI; rw [if_neg k1, if_neg hk]]
      have e1 : (k == 1) = false := beq_eq_false_iff_ne.2 k1
      have e2 : (k == 2) = false := beq_eq_false_iff_ne.2 (by omega)
      have e3 : (k == 3) = false := beq_eq_false_iff_ne.2 (by omega)
      clear k1 hk
      go_enter Tryz.func13, Tryz.ntmps13
      go_wp2
      go_ret
      exact ⟨rfl, (Below.refl _ _).alloc (Nat.le_refl _) _⟩


set_option maxRecDepth 100000 in
set_option maxHeartbeats 1000000 in
theorem rfits_any (w : World) (B : Nat) (v : Value) (cl : List ClsD) (c k n : Int) (h : RdRow 2 (ElC B) B w v cl) (hB : B ≤ w.heap.size) (hl : cl.length ≤ 16) (hf : ∀ d ∈ cl, d.fields.length ≤ 15) :
    Calls Tryz.prog 67 #[v, .agg #[.int .i64 c, .int .i64 k, .int .i64 n]] w fun e w' => e = .returned (.bool (fitI cl c k n)) ∧ Below w.heap.size w w' := by
  obtain ⟨a, q, rfl⟩ := rd_shape h
  have hb := (Below.refl w.heap.size w).alloc (Nat.le_refl _) (.cells #[.int .i64 c, .int .i64 k, .int .i64 n] 25)
  have k1 := Blk.new w #[.int .i64 c, .int .i64 k, .int .i64 n] 25
  have HB := Lib.hid hb
  have K1 := Lib.hid k1
  have y0 := k1.val 0 rfl
  have y1 := k1.val 1 rfl
  have y2 := k1.val 2 rfl
  have HR := Lib.hid (fun W (hb : Below w.heap.size w W) => h.keep (hb.mono hB) fun _ _ _ e r => r.keep (hb.mono hB) e)
  have hFV : fitI cl c k n = true → validI c k n = true := fun q => by
    unfold fitI at q
    split at q
    next e =>
      split at q
      next d hd =>
        have hm := List.mem_of_getElem? hd
        have h1 := hf d hm
        have h2 := (List.getElem?_eq_some_iff.1 hd).1
        simp at q
        unfold validI
        rw [if_pos e]
        simp
        omega
      next => cases q
    next e => exact q
  have IH := Lib.hid (isHead_anyRmap c k n (w.alloc (.cells #[.int .i64 c, .int .i64 k, .int .i64 n] 25)))
  clear h hb k1
  cases hv : validI c k n with
  | false =>
    have HX : Hid (fitI cl c k n = false) := by
      cases e : fitI cl c k n with
      | false => rfl
      | true => rw [hFV e] at hv; cases hv
    rw [hv] at IH
    clear hFV
    go_enter Tryz.func67, Tryz.ntmps67
    go_wp2_with fail
    refine IH.out.mono ?_
    rintro e w2 ⟨rfl, hb2⟩
    have HB2 := Lib.hid (HB.out.trans (hb2.mono HB.out.size))
    clear hb2
    go_wp2
    go_ret
    exact ⟨by rw [HX.out]; rfl, HB2.out⟩
  | true =>
    rw [hv] at IH
    by_cases hk : k = 1
    · subst hk
      have hv' := hv
      unfold validI at hv'
      simp at hv'
      obtain ⟨ci, rfl⟩ : ∃ ci : Nat, c = (ci : Int) := ⟨c.toNat, by omega⟩
      by_cases hc : ci < cl.length
      · have hc' : (ci : Int) < (cl.length : Int) := by omega
        have hc2 : decide ((ci : Int) < (cl.length : Int)) = true := by simpa using hc
        have i1 : (0 : Int) ≤ (ci : Int) ∧ (ci : Int) < (cl.length : Int) := ⟨by omega, by omega⟩
        have i2 : 0 < cl.length := by omega
        have HX := Lib.hid (fitI_at hc n)
        have EL := Lib.hid (fun W (hb : Below w.heap.size w W) => rd_at (HR.out W hb) hc)
        clear hFV hv' hv
        go_enter Tryz.func67, Tryz.ntmps67
        go_wp2_with fail
        refine IH.out.mono ?_
        rintro e w2 ⟨rfl, hb2⟩
        have hbb := HB.out.trans (hb2.mono HB.out.size)
        obtain ⟨b, o, rfl, _, e1, vf, e2, e3⟩ := EL.out w2 hbb
        obtain ⟨fa, fc, hvf⟩ := rd_shape e3
        subst hvf
        have HB2 := Lib.hid hbb
        have k1 := K1.out.grew hb2
        clear y0 y1 y2
        have y0 := k1.val 0 rfl
        have y1 := k1.val 1 rfl
        have y2 := k1.val 2 rfl
        generalize cl[ci] = d at *
        clear hb2 hbb k1 e3
        go_wp2_with fail
        go_quiet (fail)
        go_wp2
        go_ret
        exact ⟨by rw [HX.out]; rfl, HB2.out.trans ((Quiet.below ⟨nq, rfl⟩).mono HB2.out.size)⟩
      · have hc2 : decide ((ci : Int) < (cl.length : Int)) = false := by simpa using hc
        have HX : Hid (fitI cl ci 1 n = false) := fitI_no (by unfold atB; simp; omega) n
        clear hFV hv' hv
        go_enter Tryz.func67, Tryz.ntmps67
        go_wp2_with fail
        refine IH.out.mono ?_
        rintro e w2 ⟨rfl, hb2⟩
        have HB2 := Lib.hid (HB.out.trans (hb2.mono HB.out.size))
        have k1 := K1.out.grew hb2
        clear y0 y1 y2
        have y0 := k1.val 0 rfl
        have y1 := k1.val 1 rfl
        have y2 := k1.val 2 rfl
        clear hb2 k1
        go_wp2_with fail
        go_quiet (fail)
        go_wp2
        go_ret
        exact ⟨by rw [HX.out]; rfl, HB2.out.trans ((Quiet.below ⟨nq, rfl⟩).mono HB2.out.size)⟩
    · have hk' : (k != 1) = true := by simpa using hk
      have HX : Hid (fitI cl c k n = true) := by unfold Hid fitI; rw [if_neg hk]; exact hv
      clear hFV hv
      go_enter Tryz.func67, Tryz.ntmps67
      go_wp2_with fail
      refine IH.out.mono ?_
      rintro e w2 ⟨rfl, hb2⟩
      have HB2 := Lib.hid (HB.out.trans (hb2.mono HB.out.size))
      have k1 := K1.out.grew hb2
      clear y0 y1 y2
      have y1 := k1.val 1 rfl
      clear hb2 k1
      go_wp2
      go_ret
      exact ⟨by rw [HX.out]; rfl, HB2.out⟩
theorem isrI_eq {cl : List ClsD} {c k n i : Int} : isrI cl c k n i = (fitI cl c k n && (decide (0 ≤ i) && decide (i < n)) && refI cl c k i) := by
  unfold isrI ptrL ptrs
  cases hf : fitI cl c k n with
  | false => simp
  | true =>
    by_cases h0 : 0 ≤ i
    · obtain ⟨j, rfl⟩ : ∃ j : Nat, i = (j : Int) := ⟨i.toNat, by omega⟩
      by_cases h1 : (j : Int) < n
      · have h2 : j < n.toNat := by omega
        cases hr : refI cl c k (j : Int) with
        | true =>
          simp [h1]
          exact ⟨j, ⟨h1, hr⟩, rfl⟩
        | false =>
          simp [h1]
          intro x _ hx e
          obtain rfl : x = j := by omega
          rw [hr] at hx
          cases hx
      · simp [h1]
        intro q
        omega
    · simp [h0]
      intro x _ _ e
      omega
end Go.Proofs.YtpoddnfooaddgaaGreatDoor
/- The document's objects: Look's errors. Conditions: the plan is a plan, the cells are a row of their own, the classes are read. -/
namespace Go.Proofs.YtpoddnfooaddgaaGreatDoor
open Go.RowKit
set_option linter.unusedVariables false
structure RkS (w : World) (P T R bs tb z : Int) (d : Nat) (cs : List Int) (B : Nat) (v : Value) (cl : List ClsD) (W : World) : Prop where
  mp : Blk W w.heap.size #[.int .i64 P, .int .i64 T, .int .i64 R, .int .i64 bs, .int .i64 tb, .int .i64 z] 36
  res : Blk W (w.heap.size + 1) #[.int .i64 0, .int .i64 0, .int .i64 0, .slice none 0 0] 80
  row : Blk W d (cs.map (Value.int .u64)).toArray 57
  cls : RdRow 2 (ElC B) B W v cl
  bw : B ≤ w.heap.size
  bel : Below w.heap.size w W
section
variable {w W W' : World} {P T R bs tb z : Int} {d : Nat} {cs : List Int} {B : Nat} {v : Value} {cl : List ClsD}
theorem RkS.grew (h : RkS w P T R bs tb z d cs B v cl W) (hb : Below W.heap.size W W') : RkS w P T R bs tb z d cs B v cl W' :=
  ⟨h.mp.grew hb, h.res.grew hb, h.row.grew hb, h.cls.keep (hb.mono (Nat.le_trans h.bw h.bel.size)) fun _ _ _ e r => r.keep (hb.mono (Nat.le_trans h.bw h.bel.size)) e, h.bw, h.bel.trans (hb.mono h.bel.size)⟩
theorem RkS.new (P T R bs tb z : Int) (hd : Blk w d (cs.map (Value.int .u64)).toArray 57) (hc : RdRow 2 (ElC B) B w v cl) (hB : B ≤ w.heap.size) : RkS w P T R bs tb z d cs B v cl ((w.alloc (.cells #[.int .i64 P, .int .i64 T, .int .i64 R, .int .i64 bs, .int .i64 tb, .int .i64 z] 36)).alloc (.cells #[.int .i64 0, .int .i64 0, .int .i64 0, .slice none 0 0] 80)) :=
  have hb : Below w.heap.size w ((w.alloc (.cells #[.int .i64 P, .int .i64 T, .int .i64 R, .int .i64 bs, .int .i64 tb, .int .i64 z] 36)).alloc (.cells #[.int .i64 0, .int .i64 0, .int .i64 0, .slice none 0 0] 80)) := ((Below.refl _ _).alloc (Nat.le_refl _) _).alloc (by simp) _
  ⟨(Blk.new _ _ _).alloc _, Blk.new' (by simp), hd.grew hb, hc.keep (hb.mono hB) fun _ _ _ e r => r.keep (hb.mono hB) e, hB, hb⟩
theorem RkS.put (h : RkS w P T R bs tb z d cs B v cl W) (v0 v1 v2 v3 : Value) :
    Blk ((((W.setCell ⟨w.heap.size + 1, 0, none⟩ v0).setCell ⟨w.heap.size + 1, 1, none⟩ v1).setCell ⟨w.heap.size + 1, 2, none⟩ v2).setCell ⟨w.heap.size + 1, 3, none⟩ v3) (w.heap.size + 1) #[v0, v1, v2, v3] 80 ∧
    Below w.heap.size w ((((W.setCell ⟨w.heap.size + 1, 0, none⟩ v0).setCell ⟨w.heap.size + 1, 1, none⟩ v1).setCell ⟨w.heap.size + 1, 2, none⟩ v2).setCell ⟨w.heap.size + 1, 3, none⟩ v3) :=
  ⟨(((h.res.set 0 v0).set 1 v1).set 2 v2).set 3 v3, (((h.bel.setCell (p := ⟨w.heap.size + 1, 0, none⟩) (by simp) _).setCell (p := ⟨w.heap.size + 1, 1, none⟩) (by simp) _).setCell (p := ⟨w.heap.size + 1, 2, none⟩) (by simp) _).setCell (p := ⟨w.heap.size + 1, 3, none⟩) (by simp) _⟩
theorem RkS.rest (h : RkS w P T R bs tb z d cs B v cl W) : (W.cell? ⟨w.heap.size + 1, 0, none⟩ = some (.int .i64 0) ∧ W.cell? ⟨w.heap.size + 1, 1, none⟩ = some (.int .i64 0) ∧ W.cell? ⟨w.heap.size + 1, 2, none⟩ = some (.int .i64 0) ∧ W.cell? ⟨w.heap.size + 1, 3, none⟩ = some (.slice none 0 0)) ∧
    (W.frozen? ⟨w.heap.size + 1, 0, none⟩ = false ∧ W.frozen? ⟨w.heap.size + 1, 1, none⟩ = false ∧ W.frozen? ⟨w.heap.size + 1, 2, none⟩ = false ∧ W.frozen? ⟨w.heap.size + 1, 3, none⟩ = false) :=
  ⟨⟨h.res.val 0 rfl, h.res.val 1 rfl, h.res.val 2 rfl, h.res.val 3 rfl⟩, h.res.frozen 0, h.res.frozen 1, h.res.frozen 2, h.res.frozen 3⟩
def RkNo (n : Int) (w : World) (e : Ending) (w' : World) : Prop := e = .returned (.tuple #[.agg #[.int .i64 0, .int .i64 0, .int .i64 0, .slice none 0 0], .int .i64 n]) ∧ Below w.heap.size w w'
set_option maxRecDepth 100000 in
set_option maxHeartbeats 4000000 in
theorem rlook_addr (x : Int) (h : Right P T R) (hx : I64 x) (hd : Blk w d (cs.map (Value.int .u64)).toArray 57) (hl : cs.length = cellsN P T R) (hU : ∀ z ∈ cs, U64 z) (hc : RdRow 2 (ElC B) B w v cl) (hB : B ≤ w.heap.size) (hh : holdB P T R cs x = false) :
    Calls Tryz.prog 29 #[.slice (some ⟨d, 0, none⟩) (cellsN P T R) (cellsN P T R), mapV P T R, v, .int .i64 x] w (RkNo 5 w) := by
  have AL := Lib.hid (fun W (hd : Blk W d (cs.map (Value.int .u64)).toArray 57) => rallocated_any P T R x d cs W h hx hd hl hU)
  rw [hh] at AL
  have hS := RkS.new P T R (baseI P T R) (tabI T R) (baseI P T R + 64 * P) hd hc hB
  obtain ⟨av, qv, rfl⟩ := rd_shape hc
  clear hd hl hU hc hh h hx
  unfold RkNo
  unfold mapV at AL ⊢
  generalize baseI P T R = bs at *
  generalize tabI T R = tb at *
  generalize bs + 64 * P = z at *
  generalize cellsN P T R = N at *
  obtain ⟨⟨a0, a1, a2, a3, a4, a5⟩, _⟩ := hS.mp.six
  go_enter Tryz.func29, Tryz.ntmps29
  go_wp2_with fail
  refine (AL.out _ hS.row).mono ?_; rintro e w1 ⟨rfl, hb1⟩
  have hS1 := hS.grew hb1
  clear hS hb1 a0 a1 a2 a3 a4 a5 AL
  obtain ⟨⟨r0, r1, r2, r3⟩, f0, f1, f2, f3⟩ := hS1.rest
  have HF := Lib.hid (hS1.put (.int .i64 0) (.int .i64 0) (.int .i64 0) (.slice none 0 0))
  go_wp2
  generalize World.setCell (World.setCell (World.setCell (World.setCell _ _ _) _ _) _ _) _ _ = W9 at *
  obtain ⟨hZ, hB9⟩ := HF.out
  have z0 := hZ.val 0 rfl
  have z1 := hZ.val 1 rfl
  have z2 := hZ.val 2 rfl
  have z3 := hZ.val 3 rfl
  exact bodyPost_ret (v := .tuple #[.agg #[.int .i64 0, .int .i64 0, .int .i64 0, .slice none 0 0], .int .i64 5]) (by simp [results, Tryz.results29, go_sem, z0, z1, z2, z3]) rfl ⟨rfl, hB9⟩
set_option maxRecDepth 100000 in
set_option maxHeartbeats 4000000 in
theorem rlook_head (x : Nat) (h : Right P T R) (hx : x < cs.length) (hd : Blk w d (cs.map (Value.int .u64)).toArray 57) (hl : cs.length = cellsN P T R) (hU : ∀ z ∈ cs, U64 z) (hc : RdRow 2 (ElC B) B w v cl) (hB : B ≤ w.heap.size) (hl6 : cl.length ≤ 16) (hf : ∀ d ∈ cl, d.fields.length ≤ 15) (hh : holdB P T R cs x = true)
    (h2 : hdE (cs.getD x 0) = 4) :
    Calls Tryz.prog 29 #[.slice (some ⟨d, 0, none⟩) (cellsN P T R) (cellsN P T R), mapV P T R, v, .int .i64 (x : Int)] w (RkNo 4 w) := by
  obtain ⟨p0, p1, p2, p3⟩ := holdB_parts hh
  have hpP := place_lt p0
  have hpb := place_bdO P T R x
  have hcl := (cellsN_bd h).2.2
  have hx6 : I64 (x : Int) := ⟨by omega, by omega⟩
  have AL := Lib.hid (fun W (hd : Blk W d (cs.map (Value.int .u64)).toArray 57) => rallocated_any P T R x d cs W h hx6 hd hl hU)
  rw [hh] at AL
  have HP := Lib.hid (fun W => rheap_any P T R x W h hx6)
  have DH : Hid (∀ W : World, Calls Tryz.prog 65 #[.int .u64 (cs.getD x 0)] W fun e w' => e = .returned (.tuple #[.agg #[.int .i64 (hdC (cs.getD x 0)), .int .i64 (hdK (cs.getD x 0)), .int .i64 (hdN (cs.getD x 0))], .int .i64 (hdE (cs.getD x 0))]) ∧ Below W.heap.size W w') := Lib.hid (fun W => rdec_any (cs.getD x 0) W (getD_U hU _))
  rw [h2] at DH
  have RE := Lib.hid (fun W (hd : Blk W d (cs.map (Value.int .u64)).toArray 57) => rentry_any P T R (placeI P T R x).1 d cs W h p0 hpP hd hl hU)
  unfold decD at RE
  rw [p1] at RE
  simp only [if_true] at RE
  have FT := Lib.hid (fun W (h : RdRow 2 (ElC B) B W v cl) (hB : B ≤ W.heap.size) => rfits_any W B v cl (hdC (cs.getD x 0)) (hdK (cs.getD x 0)) (hdN (cs.getD x 0)) h hB hl6 hf)
  have RM := Lib.hid (fun W => room_any P T R (baseI P T R) (tabI T R) (baseI P T R + 64 * P) (cs.getD (rowN P T R 0 (placeI P T R x).1) 0 % 4) (cs.getD (rowN P T R 0 (placeI P T R x).1) 0 / 4 % 16) (cs.getD (rowN P T R 0 (placeI P T R x).1) 0 / 64 % 4) (cs.getD (rowN P T R 0 (placeI P T R x).1) 0 / 256 % 16) (cs.getD (rowN P T R 0 (placeI P T R x).1) 0 / 65536 % 4294967296) (placeI P T R x).1 (placeI P T R x).2 (hdC (cs.getD x 0)) (hdK (cs.getD x 0)) (hdN (cs.getD x 0)) W p0 hpb.2.1)
  have GX := Lib.hid (fun W (hr : Blk W d (cs.map (Value.int .u64)).toArray 57) => row_get hr hx)
  have hS := RkS.new P T R (baseI P T R) (tabI T R) (baseI P T R + 64 * P) hd hc hB
  obtain ⟨av, qv, rfl⟩ := rd_shape hc
  have hxN : (x : Int) < (cellsN P T R : Int) := by omega
  clear hd hU hc hh h hx6 p0 p1 p2 p3 hpP hpb hcl h2 hl6 hf hx hl
  unfold RkNo
  unfold mapV at AL HP RE ⊢
  generalize cs.getD x 0 = xw at *
  generalize hdC xw = hc at *
  generalize hdK xw = hk at *
  generalize hdN xw = hn at *
  generalize cs.getD (rowN P T R 0 (placeI P T R x).1) 0 % 4 = q0 at *
  generalize cs.getD (rowN P T R 0 (placeI P T R x).1) 0 / 4 % 16 = q1 at *
  generalize cs.getD (rowN P T R 0 (placeI P T R x).1) 0 / 64 % 4 = q2 at *
  generalize cs.getD (rowN P T R 0 (placeI P T R x).1) 0 / 256 % 16 = q3 at *
  generalize cs.getD (rowN P T R 0 (placeI P T R x).1) 0 / 65536 % 4294967296 = q4 at *
  generalize (placeI P T R x).1 = pg at *
  generalize (placeI P T R x).2 = off at *
  generalize baseI P T R = bs at *
  generalize tabI T R = tb at *
  generalize bs + 64 * P = z at *
  generalize cellsN P T R = N at *
  obtain ⟨⟨a0, a1, a2, a3, a4, a5⟩, _⟩ := hS.mp.six
  go_enter Tryz.func29, Tryz.ntmps29
  go_wp2_with fail
  refine (AL.out _ hS.row).mono ?_; rintro e w1 ⟨rfl, hb1⟩
  have hS1 := hS.grew hb1
  clear hS hb1 a0 a1 a2 a3 a4 a5 AL
  have cx := GX.out _ hS1.row
  go_wp2_with fail
  refine (DH.out _).mono ?_; rintro e w2 ⟨rfl, hb2⟩
  have hb2a := hb2.alloc hb2.size (.cells #[.int .i64 hc, .int .i64 hk, .int .i64 hn] 25)
  have hH := Blk.new w2 #[.int .i64 hc, .int .i64 hk, .int .i64 hn] 25
  have hS2 := hS1.grew hb2a
  clear hS1 hb2 hb2a cx DH
  go_upto_region 4 with fail
  generalize w2.alloc (.cells #[.int .i64 hc, .int .i64 hk, .int .i64 hn] 25) = w3 at *
  generalize w2.heap.size = bh at *
  obtain ⟨⟨a0, a1, a2, a3, a4, a5⟩, _⟩ := hS2.mp.six
  go_wp2_with fail
  refine (HP.out _).mono ?_; rintro e w4 ⟨rfl, hb4⟩
  have hS4 := hS2.grew hb4
  have hH4 := hH.grew hb4
  clear hS2 hH hb4 a0 a1 a2 a3 a4 a5 HP
  obtain ⟨⟨a0, a1, a2, a3, a4, a5⟩, _⟩ := hS4.mp.six
  go_wp2_with fail
  refine (RE.out _ hS4.row).mono ?_; rintro e w5 ⟨rfl, hb5⟩
  have hb5a := hb5.alloc hb5.size (.cells #[.int .i64 q0, .int .i64 q1, .int .i64 q2, .int .i64 q3, .int .i64 q4] 105)
  have hE := Blk.new w5 #[.int .i64 q0, .int .i64 q1, .int .i64 q2, .int .i64 q3, .int .i64 q4] 105
  have hS6 := hS4.grew hb5a
  have hH6 := hH4.grew hb5a
  clear hS4 hH4 hb5 hb5a a0 a1 a2 a3 a4 a5 RE
  go_upto_region 6 with fail
  generalize w5.alloc (.cells #[.int .i64 q0, .int .i64 q1, .int .i64 q2, .int .i64 q3, .int .i64 q4] 105) = w6 at *
  generalize w5.heap.size = be at *
  obtain ⟨⟨r0, r1, r2, r3⟩, f0, f1, f2, f3⟩ := hS6.rest
  have HF := Lib.hid (hS6.put (.int .i64 0) (.int .i64 0) (.int .i64 0) (.slice none 0 0))
  go_wp2
  generalize World.setCell (World.setCell (World.setCell (World.setCell _ _ _) _ _) _ _) _ _ = W9 at *
  obtain ⟨hZ, hB9⟩ := HF.out
  have z0 := hZ.val 0 rfl
  have z1 := hZ.val 1 rfl
  have z2 := hZ.val 2 rfl
  have z3 := hZ.val 3 rfl
  exact bodyPost_ret (v := .tuple #[.agg #[.int .i64 0, .int .i64 0, .int .i64 0, .slice none 0 0], .int .i64 4]) (by simp [results, Tryz.results29, go_sem, z0, z1, z2, z3]) rfl ⟨rfl, hB9⟩
set_option maxRecDepth 100000 in
set_option maxHeartbeats 4000000 in
theorem rlook_class (x : Nat) (h : Right P T R) (hx : x < cs.length) (hd : Blk w d (cs.map (Value.int .u64)).toArray 57) (hl : cs.length = cellsN P T R) (hU : ∀ z ∈ cs, U64 z) (hc : RdRow 2 (ElC B) B w v cl) (hB : B ≤ w.heap.size) (hl6 : cl.length ≤ 16) (hf : ∀ d ∈ cl, d.fields.length ≤ 15) (hh : holdB P T R cs x = true)
    (h2 : hdE (cs.getD x 0) = 0) (h3 : fitI cl (hdC (cs.getD x 0)) (hdK (cs.getD x 0)) (hdN (cs.getD x 0)) = false) :
    Calls Tryz.prog 29 #[.slice (some ⟨d, 0, none⟩) (cellsN P T R) (cellsN P T R), mapV P T R, v, .int .i64 (x : Int)] w (RkNo 4 w) := by
  obtain ⟨p0, p1, p2, p3⟩ := holdB_parts hh
  have hpP := place_lt p0
  have hpb := place_bdO P T R x
  have hcl := (cellsN_bd h).2.2
  have hx6 : I64 (x : Int) := ⟨by omega, by omega⟩
  have AL := Lib.hid (fun W (hd : Blk W d (cs.map (Value.int .u64)).toArray 57) => rallocated_any P T R x d cs W h hx6 hd hl hU)
  rw [hh] at AL
  have HP := Lib.hid (fun W => rheap_any P T R x W h hx6)
  have DH : Hid (∀ W : World, Calls Tryz.prog 65 #[.int .u64 (cs.getD x 0)] W fun e w' => e = .returned (.tuple #[.agg #[.int .i64 (hdC (cs.getD x 0)), .int .i64 (hdK (cs.getD x 0)), .int .i64 (hdN (cs.getD x 0))], .int .i64 (hdE (cs.getD x 0))]) ∧ Below W.heap.size W w') := Lib.hid (fun W => rdec_any (cs.getD x 0) W (getD_U hU _))
  rw [h2] at DH
  have RE := Lib.hid (fun W (hd : Blk W d (cs.map (Value.int .u64)).toArray 57) => rentry_any P T R (placeI P T R x).1 d cs W h p0 hpP hd hl hU)
  unfold decD at RE
  rw [p1] at RE
  simp only [if_true] at RE
  have FT := Lib.hid (fun W (h : RdRow 2 (ElC B) B W v cl) (hB : B ≤ W.heap.size) => rfits_any W B v cl (hdC (cs.getD x 0)) (hdK (cs.getD x 0)) (hdN (cs.getD x 0)) h hB hl6 hf)
  have RM := Lib.hid (fun W => room_any P T R (baseI P T R) (tabI T R) (baseI P T R + 64 * P) (cs.getD (rowN P T R 0 (placeI P T R x).1) 0 % 4) (cs.getD (rowN P T R 0 (placeI P T R x).1) 0 / 4 % 16) (cs.getD (rowN P T R 0 (placeI P T R x).1) 0 / 64 % 4) (cs.getD (rowN P T R 0 (placeI P T R x).1) 0 / 256 % 16) (cs.getD (rowN P T R 0 (placeI P T R x).1) 0 / 65536 % 4294967296) (placeI P T R x).1 (placeI P T R x).2 (hdC (cs.getD x 0)) (hdK (cs.getD x 0)) (hdN (cs.getD x 0)) W p0 hpb.2.1)
  rw [h3] at FT
  have GX := Lib.hid (fun W (hr : Blk W d (cs.map (Value.int .u64)).toArray 57) => row_get hr hx)
  have hS := RkS.new P T R (baseI P T R) (tabI T R) (baseI P T R + 64 * P) hd hc hB
  obtain ⟨av, qv, rfl⟩ := rd_shape hc
  have hxN : (x : Int) < (cellsN P T R : Int) := by omega
  clear hd hU hc hh h hx6 p0 p1 p2 p3 hpP hpb hcl h2 hl6 hf hx hl h3
  unfold RkNo
  unfold mapV at AL HP RE ⊢
  generalize cs.getD x 0 = xw at *
  generalize hdC xw = hc at *
  generalize hdK xw = hk at *
  generalize hdN xw = hn at *
  generalize cs.getD (rowN P T R 0 (placeI P T R x).1) 0 % 4 = q0 at *
  generalize cs.getD (rowN P T R 0 (placeI P T R x).1) 0 / 4 % 16 = q1 at *
  generalize cs.getD (rowN P T R 0 (placeI P T R x).1) 0 / 64 % 4 = q2 at *
  generalize cs.getD (rowN P T R 0 (placeI P T R x).1) 0 / 256 % 16 = q3 at *
  generalize cs.getD (rowN P T R 0 (placeI P T R x).1) 0 / 65536 % 4294967296 = q4 at *
  generalize (placeI P T R x).1 = pg at *
  generalize (placeI P T R x).2 = off at *
  generalize baseI P T R = bs at *
  generalize tabI T R = tb at *
  generalize bs + 64 * P = z at *
  generalize cellsN P T R = N at *
  obtain ⟨⟨a0, a1, a2, a3, a4, a5⟩, _⟩ := hS.mp.six
  go_enter Tryz.func29, Tryz.ntmps29
  go_wp2_with fail
  refine (AL.out _ hS.row).mono ?_; rintro e w1 ⟨rfl, hb1⟩
  have hS1 := hS.grew hb1
  clear hS hb1 a0 a1 a2 a3 a4 a5 AL
  have cx := GX.out _ hS1.row
  go_wp2_with fail
  refine (DH.out _).mono ?_; rintro e w2 ⟨rfl, hb2⟩
  have hb2a := hb2.alloc hb2.size (.cells #[.int .i64 hc, .int .i64 hk, .int .i64 hn] 25)
  have hH := Blk.new w2 #[.int .i64 hc, .int .i64 hk, .int .i64 hn] 25
  have hS2 := hS1.grew hb2a
  clear hS1 hb2 hb2a cx DH
  go_upto_region 4 with fail
  generalize w2.alloc (.cells #[.int .i64 hc, .int .i64 hk, .int .i64 hn] 25) = w3 at *
  generalize w2.heap.size = bh at *
  obtain ⟨⟨a0, a1, a2, a3, a4, a5⟩, _⟩ := hS2.mp.six
  go_wp2_with fail
  refine (HP.out _).mono ?_; rintro e w4 ⟨rfl, hb4⟩
  have hS4 := hS2.grew hb4
  have hH4 := hH.grew hb4
  clear hS2 hH hb4 a0 a1 a2 a3 a4 a5 HP
  obtain ⟨⟨a0, a1, a2, a3, a4, a5⟩, _⟩ := hS4.mp.six
  go_wp2_with fail
  refine (RE.out _ hS4.row).mono ?_; rintro e w5 ⟨rfl, hb5⟩
  have hb5a := hb5.alloc hb5.size (.cells #[.int .i64 q0, .int .i64 q1, .int .i64 q2, .int .i64 q3, .int .i64 q4] 105)
  have hE := Blk.new w5 #[.int .i64 q0, .int .i64 q1, .int .i64 q2, .int .i64 q3, .int .i64 q4] 105
  have hS6 := hS4.grew hb5a
  have hH6 := hH4.grew hb5a
  clear hS4 hH4 hb5 hb5a a0 a1 a2 a3 a4 a5 RE
  go_upto_region 6 with fail
  generalize w5.alloc (.cells #[.int .i64 q0, .int .i64 q1, .int .i64 q2, .int .i64 q3, .int .i64 q4] 105) = w6 at *
  generalize w5.heap.size = be at *
  obtain ⟨d0, d1, d2⟩ := hH6.three.1
  go_wp2_with fail
  refine (FT.out _ hS6.cls (Nat.le_trans hS6.bw hS6.bel.size)).mono ?_; rintro e w7 ⟨rfl, hb7⟩
  have hS7 := hS6.grew hb7
  obtain ⟨⟨r0, r1, r2, r3⟩, f0, f1, f2, f3⟩ := hS7.rest
  have HF := Lib.hid (hS7.put (.int .i64 0) (.int .i64 0) (.int .i64 0) (.slice none 0 0))
  go_wp2
  generalize World.setCell (World.setCell (World.setCell (World.setCell _ _ _) _ _) _ _) _ _ = W9 at *
  obtain ⟨hZ, hB9⟩ := HF.out
  have z0 := hZ.val 0 rfl
  have z1 := hZ.val 1 rfl
  have z2 := hZ.val 2 rfl
  have z3 := hZ.val 3 rfl
  exact bodyPost_ret (v := .tuple #[.agg #[.int .i64 0, .int .i64 0, .int .i64 0, .slice none 0 0], .int .i64 4]) (by simp [results, Tryz.results29, go_sem, z0, z1, z2, z3]) rfl ⟨rfl, hB9⟩
set_option maxRecDepth 100000 in
set_option maxHeartbeats 4000000 in
theorem rlook_room (x : Nat) (h : Right P T R) (hx : x < cs.length) (hd : Blk w d (cs.map (Value.int .u64)).toArray 57) (hl : cs.length = cellsN P T R) (hU : ∀ z ∈ cs, U64 z) (hc : RdRow 2 (ElC B) B w v cl) (hB : B ≤ w.heap.size) (hl6 : cl.length ≤ 16) (hf : ∀ d ∈ cl, d.fields.length ≤ 15) (hh : holdB P T R cs x = true)
    (h2 : hdE (cs.getD x 0) = 0) (h3 : fitI cl (hdC (cs.getD x 0)) (hdK (cs.getD x 0)) (hdN (cs.getD x 0)) = true)
    (h4 : roomB P (cs.getD (rowN P T R 0 (placeI P T R x).1) 0 % 4) (cs.getD (rowN P T R 0 (placeI P T R x).1) 0 / 4 % 16) (placeI P T R x).1 (wordsV (hdC (cs.getD x 0)) (hdK (cs.getD x 0)) (hdN (cs.getD x 0))) = false) :
    Calls Tryz.prog 29 #[.slice (some ⟨d, 0, none⟩) (cellsN P T R) (cellsN P T R), mapV P T R, v, .int .i64 (x : Int)] w (RkNo 4 w) := by
  obtain ⟨p0, p1, p2, p3⟩ := holdB_parts hh
  have hpP := place_lt p0
  have hpb := place_bdO P T R x
  have hcl := (cellsN_bd h).2.2
  have hx6 : I64 (x : Int) := ⟨by omega, by omega⟩
  have AL := Lib.hid (fun W (hd : Blk W d (cs.map (Value.int .u64)).toArray 57) => rallocated_any P T R x d cs W h hx6 hd hl hU)
  rw [hh] at AL
  have HP := Lib.hid (fun W => rheap_any P T R x W h hx6)
  have DH : Hid (∀ W : World, Calls Tryz.prog 65 #[.int .u64 (cs.getD x 0)] W fun e w' => e = .returned (.tuple #[.agg #[.int .i64 (hdC (cs.getD x 0)), .int .i64 (hdK (cs.getD x 0)), .int .i64 (hdN (cs.getD x 0))], .int .i64 (hdE (cs.getD x 0))]) ∧ Below W.heap.size W w') := Lib.hid (fun W => rdec_any (cs.getD x 0) W (getD_U hU _))
  rw [h2] at DH
  have RE := Lib.hid (fun W (hd : Blk W d (cs.map (Value.int .u64)).toArray 57) => rentry_any P T R (placeI P T R x).1 d cs W h p0 hpP hd hl hU)
  unfold decD at RE
  rw [p1] at RE
  simp only [if_true] at RE
  have FT := Lib.hid (fun W (h : RdRow 2 (ElC B) B W v cl) (hB : B ≤ W.heap.size) => rfits_any W B v cl (hdC (cs.getD x 0)) (hdK (cs.getD x 0)) (hdN (cs.getD x 0)) h hB hl6 hf)
  have RM := Lib.hid (fun W => room_any P T R (baseI P T R) (tabI T R) (baseI P T R + 64 * P) (cs.getD (rowN P T R 0 (placeI P T R x).1) 0 % 4) (cs.getD (rowN P T R 0 (placeI P T R x).1) 0 / 4 % 16) (cs.getD (rowN P T R 0 (placeI P T R x).1) 0 / 64 % 4) (cs.getD (rowN P T R 0 (placeI P T R x).1) 0 / 256 % 16) (cs.getD (rowN P T R 0 (placeI P T R x).1) 0 / 65536 % 4294967296) (placeI P T R x).1 (placeI P T R x).2 (hdC (cs.getD x 0)) (hdK (cs.getD x 0)) (hdN (cs.getD x 0)) W p0 hpb.2.1)
  rw [h3] at FT
  rw [h4] at RM
  have GX := Lib.hid (fun W (hr : Blk W d (cs.map (Value.int .u64)).toArray 57) => row_get hr hx)
  have hS := RkS.new P T R (baseI P T R) (tabI T R) (baseI P T R + 64 * P) hd hc hB
  obtain ⟨av, qv, rfl⟩ := rd_shape hc
  have hxN : (x : Int) < (cellsN P T R : Int) := by omega
  clear hd hU hc hh h hx6 p0 p1 p2 p3 hpP hpb hcl h2 hl6 hf hx hl h3 h4
  unfold RkNo
  unfold mapV at AL HP RE ⊢
  generalize cs.getD x 0 = xw at *
  generalize hdC xw = hc at *
  generalize hdK xw = hk at *
  generalize hdN xw = hn at *
  generalize cs.getD (rowN P T R 0 (placeI P T R x).1) 0 % 4 = q0 at *
  generalize cs.getD (rowN P T R 0 (placeI P T R x).1) 0 / 4 % 16 = q1 at *
  generalize cs.getD (rowN P T R 0 (placeI P T R x).1) 0 / 64 % 4 = q2 at *
  generalize cs.getD (rowN P T R 0 (placeI P T R x).1) 0 / 256 % 16 = q3 at *
  generalize cs.getD (rowN P T R 0 (placeI P T R x).1) 0 / 65536 % 4294967296 = q4 at *
  generalize (placeI P T R x).1 = pg at *
  generalize (placeI P T R x).2 = off at *
  generalize baseI P T R = bs at *
  generalize tabI T R = tb at *
  generalize bs + 64 * P = z at *
  generalize cellsN P T R = N at *
  obtain ⟨⟨a0, a1, a2, a3, a4, a5⟩, _⟩ := hS.mp.six
  go_enter Tryz.func29, Tryz.ntmps29
  go_wp2_with fail
  refine (AL.out _ hS.row).mono ?_; rintro e w1 ⟨rfl, hb1⟩
  have hS1 := hS.grew hb1
  clear hS hb1 a0 a1 a2 a3 a4 a5 AL
  have cx := GX.out _ hS1.row
  go_wp2_with fail
  refine (DH.out _).mono ?_; rintro e w2 ⟨rfl, hb2⟩
  have hb2a := hb2.alloc hb2.size (.cells #[.int .i64 hc, .int .i64 hk, .int .i64 hn] 25)
  have hH := Blk.new w2 #[.int .i64 hc, .int .i64 hk, .int .i64 hn] 25
  have hS2 := hS1.grew hb2a
  clear hS1 hb2 hb2a cx DH
  go_upto_region 4 with fail
  generalize w2.alloc (.cells #[.int .i64 hc, .int .i64 hk, .int .i64 hn] 25) = w3 at *
  generalize w2.heap.size = bh at *
  obtain ⟨⟨a0, a1, a2, a3, a4, a5⟩, _⟩ := hS2.mp.six
  go_wp2_with fail
  refine (HP.out _).mono ?_; rintro e w4 ⟨rfl, hb4⟩
  have hS4 := hS2.grew hb4
  have hH4 := hH.grew hb4
  clear hS2 hH hb4 a0 a1 a2 a3 a4 a5 HP
  obtain ⟨⟨a0, a1, a2, a3, a4, a5⟩, _⟩ := hS4.mp.six
  go_wp2_with fail
  refine (RE.out _ hS4.row).mono ?_; rintro e w5 ⟨rfl, hb5⟩
  have hb5a := hb5.alloc hb5.size (.cells #[.int .i64 q0, .int .i64 q1, .int .i64 q2, .int .i64 q3, .int .i64 q4] 105)
  have hE := Blk.new w5 #[.int .i64 q0, .int .i64 q1, .int .i64 q2, .int .i64 q3, .int .i64 q4] 105
  have hS6 := hS4.grew hb5a
  have hH6 := hH4.grew hb5a
  clear hS4 hH4 hb5 hb5a a0 a1 a2 a3 a4 a5 RE
  go_upto_region 6 with fail
  generalize w5.alloc (.cells #[.int .i64 q0, .int .i64 q1, .int .i64 q2, .int .i64 q3, .int .i64 q4] 105) = w6 at *
  generalize w5.heap.size = be at *
  obtain ⟨d0, d1, d2⟩ := hH6.three.1
  go_wp2_with fail
  refine (FT.out _ hS6.cls (Nat.le_trans hS6.bw hS6.bel.size)).mono ?_; rintro e w7 ⟨rfl, hb7⟩
  have hS7 := hS6.grew hb7
  obtain ⟨⟨a0, a1, a2, a3, a4, a5⟩, _⟩ := hS7.mp.six
  obtain ⟨b0, b1, b2, b3, b4⟩ := five_at (hE.grew hb7)
  have hd7 := (hH6.grew hb7).three.1
  clear d0 d1 d2
  obtain ⟨d0, d1, d2⟩ := hd7
  go_wp2_with fail
  refine (RM.out _).mono ?_; rintro e w8 ⟨rfl, hb8⟩
  have hS8 := hS7.grew hb8
  obtain ⟨⟨r0, r1, r2, r3⟩, f0, f1, f2, f3⟩ := hS8.rest
  have HF := Lib.hid (hS8.put (.int .i64 0) (.int .i64 0) (.int .i64 0) (.slice none 0 0))
  go_wp2
  generalize World.setCell (World.setCell (World.setCell (World.setCell _ _ _) _ _) _ _) _ _ = W9 at *
  obtain ⟨hZ, hB9⟩ := HF.out
  have z0 := hZ.val 0 rfl
  have z1 := hZ.val 1 rfl
  have z2 := hZ.val 2 rfl
  have z3 := hZ.val 3 rfl
  exact bodyPost_ret (v := .tuple #[.agg #[.int .i64 0, .int .i64 0, .int .i64 0, .slice none 0 0], .int .i64 4]) (by simp [results, Tryz.results29, go_sem, z0, z1, z2, z3]) rfl ⟨rfl, hB9⟩
end
end Go.Proofs.YtpoddnfooaddgaaGreatDoor
