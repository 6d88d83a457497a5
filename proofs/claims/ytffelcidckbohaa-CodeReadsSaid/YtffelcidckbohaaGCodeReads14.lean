/- Texts of this seat, one behind the other: each says at its head what it holds. No condition of its own. -/
import Derived.Test.YtffelcidckbohaaGCodeReads02
import Derived.Test.YtffelcidckbohaaGCodeReads13
/- The document's reader: types, Unsigned, names. Condition: the reader is there. -/
namespace Go.Proofs.Ytffelcidckbohaa
open Go.RowKit
set_option linter.unusedVariables false
set_option maxRecDepth 100000 in
set_option maxHeartbeats 2000000 in
theorem rkindD_any (t : TypeId) (w : World) (B b : Nat) (bs : List UInt8) (st : St) (h : RdS t w B b bs st) :
    Calls Try.prog 23 #[.pointer (some ⟨b, 0, none⟩)] w (ReadsV (fun x : Int => Value.int .i64 x) (fun x => x) NoInn t B b bs (after st (kindD bs)) w) := by
  obtain ⟨q, hq6, c1, hq⟩ := h.atC
  have N := Lib.hid (rone_any t w B b bs st h)
  have HQ := Lib.hid hq
  clear h hq
  go_enter Try.func23, Try.ntmps23
  go_wp2_with fail
  refine N.out.mono ?_
  rintro e' w1 ⟨x, s1, rfl, hG, h0, hS, hT⟩
  have hx := x.toNat_lt
  have HG := Lib.hid (And.intro hG h0)
  have HS := Lib.hid hS
  have HT := Lib.hid hT
  clear hG h0 hS hT N c1
  cases s1 with
  | ok p =>
    obtain ⟨c2, _⟩ := HS.out.okC
    by_cases h2 : 2 < x.toNat
    · have h2' : (2 : Int) < (x.toNat : Int) := by omega
      go_wp2_with fail
      refine (HS.out.rfailed (q : Int) 32 (by decide)).mono ?_
      rintro e' w2 ⟨⟨u, rfl⟩, hS2, hT2⟩
      have H2 := Lib.hid (And.intro hS2 hT2)
      clear hS2 hT2
      go_wp2
      go_ret
      exact ⟨(x.toNat : Int), _, rfl, gets_kind_big HG.out.1 HG.out.2 HQ.out h2, trivial, H2.out.1, HT.out.trans H2.out.2⟩
    · have h2' : ¬ (2 : Int) < (x.toNat : Int) := by omega
      go_wp2
      go_ret
      exact ⟨(x.toNat : Int), _, rfl, gets_kind_ok HG.out.1 h2, trivial, HS.out, HT.out⟩
  | error y =>
    obtain ⟨c2, c2a, c2b, _⟩ := HS.out.errC
    obtain rfl := HG.out.2 y rfl
    go_wp2
    go_ret
    exact ⟨0, .error y, rfl, gets_kind_ok (x := 0) HG.out.1 (by decide), trivial, HS.out, HT.out⟩
set_option maxHeartbeats 1000000 in
theorem runsigned_any (n : Nat) (w : World) (hn : n < 18446744073709551616) : Calls Try.prog 47 #[.int .u64 n] w fun e w' => e = .returned (.int .i64 (unfI n)) ∧ w = w' := by
  by_cases h : n % 2 = 1
  · have HU : Hid (-((n / 2 : Nat) : Int) - 1 = unfI n) := by unfold Hid unfI; rw [if_pos h]
    have hc : ((n : Int) % 2 == 0) = false := by simp; omega
    go_enter Try.func47, Try.ntmps47
    go_wp2
    go_ret
    refine ⟨ret_int ?_, rfl⟩
    rw [← HU.out]
    omega
  · have HU : Hid (((n / 2 : Nat) : Int) = unfI n) := by unfold Hid unfI; rw [if_neg h]
    have hc : ((n : Int) % 2 == 0) = true := by simp; omega
    go_enter Try.func47, Try.ntmps47
    go_wp2
    go_ret
    refine ⟨ret_int ?_, rfl⟩
    rw [← HU.out]
    omega
theorem num_pos {bs : List UInt8} {most p n q : Nat} (h : numD bs most p = .ok (n, q)) : p < bs.length := by
  cases hb : bs[p]? with
  | some b => exact (List.getElem?_eq_some_iff.1 hb).1
  | none => rw [numD, gathD, hb] at h; cases h
/-- a name, once its count is read -/
theorem gets_txt {bs : List UInt8} {st : St} {n q : Nat} (h : Gets (after st (numD bs 16)) n (.ok q)) (hq : q ≤ bs.length) : after st (txtD bs) = if q + n ≤ bs.length then .ok ((bs.drop q).take n, q + n) else .error (10, bs.length) := by
  have e : after st (txtD bs) = bindD (after st (numD bs 16)) fun n q => seqD (nextD bs) n q := after_bind st _ _
  rw [e, h.ok, bindD_ok, seqD_next bs q hq]
theorem gets_txt_err {bs : List UInt8} {st : St} {n : Nat} {x : DErr} (h : Gets (after st (numD bs 16)) n (.error x)) : after st (txtD bs) = .error x := by
  have e : after st (txtD bs) = bindD (after st (numD bs 16)) fun n q => seqD (nextD bs) n q := after_bind st _ _
  rw [e, h.err]; rfl
theorem conv_part (W : World) (d o c q n : Nat) (bs : List UInt8) (hl : q + n ≤ bs.length) (hc : bs.length ≤ c) (hby : ∀ j, j < bs.length → W.cell? ⟨d, o + j, none⟩ = some (.int .u8 ((bs.getD j 0).toNat : Int))) :
    (convert 22 9 (.slice (if c = q then some ⟨d, o, none⟩ else some ⟨d, o + q, none⟩) n (c - q))).run Try.prog W = .ok (.string (bytA ((bs.drop q).take n))) W := by
  have hlen : ((bs.drop q).take n).length = n := by rw [List.length_take, List.length_drop]; omega
  by_cases hcq : c = q
  · have hn : n = 0 := by omega
    subst hn
    rw [if_pos hcq]
    exact run_convert_bytes_back W 22 9 5 ⟨d, o, none⟩ (c - q) [] Try.underlying22 Try.underlying5 Try.underlying9 (fun j hj => absurd hj (by simp))
  · rw [if_neg hcq]
    have := run_convert_bytes_back (P := Try.prog) W 22 9 5 ⟨d, o + q, none⟩ (c - q) ((bs.drop q).take n) Try.underlying22 Try.underlying5 Try.underlying9 (fun j hj => by
      rw [hlen] at hj
      rw [add_at, Nat.add_assoc, hby (q + j) (by omega), List.getElem_take, List.getElem_drop, List.getD_eq_getElem?_getD, List.getElem?_eq_getElem (by omega)]
      rfl)
    rw [hlen] at this
    exact this
set_option maxRecDepth 100000 in
set_option maxHeartbeats 2000000 in
theorem rtext_any' (t : TypeId) (w : World) (B b : Nat) (bs : List UInt8) (st : St) (h : RdS t w B b bs st) :
    Calls Try.prog 22 #[.pointer (some ⟨b, 0, none⟩)] w (ReadsV (fun l : List UInt8 => Value.string (bytA l)) (fun x => x) NoInn t B b bs (after st (txtD bs)) w) := by
  have N := Lib.hid (rnumber_any' t w B b bs st 16 h (by decide))
  clear h
  go_enter Try.func22, Try.ntmps22
  go_wp2_with fail
  refine N.out.mono ?_
  rintro e' w1 ⟨n, s1, rfl, hG, h0, hS, hT⟩
  have hn := num_le hG h0
  have HG := Lib.hid hG
  have HT := Lib.hid hT
  clear hG h0 hT N
  cases s1 with
  | error x =>
    have HE := Lib.hid (gets_txt_err HG.out)
    obtain ⟨c2, c2a, c2b, _⟩ := hS.errC
    have HS := Lib.hid hS
    clear hS HG
    go_upto_region 2 with fail
    refine wp_region_held_drew (S := (fun W' => W'.cell? ⟨b, 2, none⟩ = some (.int .i64 x.1))) (by kernel_rfl) c2 (fun hHeld => ?_)
    refine wpAnyH_take (i := 0) (oi := _) (v := ?_) (op_atC rfl) (by kernel_rfl) (by kernel_rfl) (by kernel_rfl) (fun _ _ _ h => h) (Or.inl ⟨by rfl, ?_⟩) hHeld ?_
    rotate_left 1
    focus (intro W hSw; (try dsimp only at hSw); go_simp; (try (with_reducible rfl)))
    (try simp only [Act.put, List.setIfInBounds_toArray, List.set_cons_zero, List.set_cons_succ])
    refine wpAnyH_take (i := 1) (oi := _) (v := ?_) (op_atC rfl) (by kernel_rfl) (by kernel_rfl) (by kernel_rfl) (fun _ _ _ h => h) (Or.inl ⟨by rfl, ?_⟩) hHeld ?_
    rotate_left 1
    focus (intro W hSw; (try dsimp only at hSw); go_simp; (try (with_reducible rfl)))
    (try simp only [Act.put, List.setIfInBounds_toArray, List.set_cons_zero, List.set_cons_succ])
    refine wpAnyH_take (i := 2) (oi := _) (v := ?_) (op_atC rfl) (by kernel_rfl) (by kernel_rfl) (by kernel_rfl) (fun _ _ _ h => h) (Or.inl ⟨by rfl, ?_⟩) hHeld ?_
    rotate_left 1
    focus (intro W hSw; (try dsimp only at hSw); go_simp; (try (with_reducible rfl)))
    (try simp only [Act.put, List.setIfInBounds_toArray, List.set_cons_zero, List.set_cons_succ])
    refine wpAnyH_take (i := 3) (oi := _) (v := ?_) (op_atC rfl) (by kernel_rfl) (by kernel_rfl) (by kernel_rfl) (fun _ _ _ h => h) (Or.inl ⟨by rfl, ?_⟩) hHeld ?_
    rotate_left 1
    focus (intro W hSw; (try dsimp only at hSw); go_simp; (try (with_reducible rfl)))
    (try simp only [Act.put, List.setIfInBounds_toArray, List.set_cons_zero, List.set_cons_succ])
    refine wpAnyH_take (i := 4) (oi := _) (v := ?_) (op_atC rfl) (by kernel_rfl) (by kernel_rfl) (by kernel_rfl) (fun _ _ _ h => h) (Or.inl ⟨by rfl, ?_⟩) hHeld ?_
    rotate_left 1
    focus (intro W hSw; (try dsimp only at hSw); go_simp; (try (with_reducible rfl)))
    (try simp only [Act.put, List.setIfInBounds_toArray, List.set_cons_zero, List.set_cons_succ])
    refine wpAnyH_take (i := 5) (oi := _) (v := ?_) (op_atC rfl) (by kernel_rfl) (by kernel_rfl) (by kernel_rfl) (fun _ _ _ h => h) (Or.inl ⟨by rfl, ?_⟩) hHeld ?_
    rotate_left 1
    focus (intro W hSw; (try dsimp only at hSw); go_simp; (try (with_reducible rfl)))
    (try simp only [Act.put, List.setIfInBounds_toArray, List.set_cons_zero, List.set_cons_succ])
    refine wpAnyH_take (i := 6) (oi := _) (v := undef) (op_atC rfl) (by kernel_rfl) (by kernel_rfl) (by kernel_rfl) (fun _ _ _ h => h) (Or.inr ⟨by rfl, rfl⟩) hHeld ?_
    (try simp only [Act.put, List.setIfInBounds_toArray, List.set_cons_zero, List.set_cons_succ])
    refine wpAnyH_take (i := 7) (oi := _) (v := undef) (op_atC rfl) (by kernel_rfl) (by kernel_rfl) (by kernel_rfl) (fun _ _ _ h => h) (Or.inr ⟨by rfl, rfl⟩) hHeld ?_
    (try simp only [Act.put, List.setIfInBounds_toArray, List.set_cons_zero, List.set_cons_succ])
    refine wpAnyH_take (i := 8) (oi := _) (v := undef) (op_atC rfl) (by kernel_rfl) (by kernel_rfl) (by kernel_rfl) (fun _ _ _ h => h) (Or.inr ⟨by rfl, rfl⟩) hHeld ?_
    (try simp only [Act.put, List.setIfInBounds_toArray, List.set_cons_zero, List.set_cons_succ])
    refine wpAnyH_take (i := 9) (oi := _) (v := undef) (op_atC rfl) (by kernel_rfl) (by kernel_rfl) (by kernel_rfl) (fun _ _ _ h => h) (Or.inr ⟨by rfl, rfl⟩) hHeld ?_
    (try simp only [Act.put, List.setIfInBounds_toArray, List.set_cons_zero, List.set_cons_succ])
    refine wpAnyH_take (i := 10) (oi := _) (v := undef) (op_atC rfl) (by kernel_rfl) (by kernel_rfl) (by kernel_rfl) (fun _ _ _ h => h) (Or.inr ⟨by rfl, rfl⟩) hHeld ?_
    (try simp only [Act.put, List.setIfInBounds_toArray, List.set_cons_zero, List.set_cons_succ])
    refine wpAnyH_take (i := 11) (oi := _) (v := undef) (op_atC rfl) (by kernel_rfl) (by kernel_rfl) (by kernel_rfl) (fun _ _ _ h => h) (Or.inr ⟨by rfl, rfl⟩) hHeld ?_
    (try simp only [Act.put, List.setIfInBounds_toArray, List.set_cons_zero, List.set_cons_succ])
    refine wpAnyH_take (i := 12) (oi := _) (v := undef) (op_atC rfl) (by kernel_rfl) (by kernel_rfl) (by kernel_rfl) (fun _ _ _ h => h) (Or.inr ⟨by rfl, rfl⟩) hHeld ?_
    (try simp only [Act.put, List.setIfInBounds_toArray, List.set_cons_zero, List.set_cons_succ])
    refine wpAnyH_take (i := 13) (oi := _) (v := undef) (op_atC rfl) (by kernel_rfl) (by kernel_rfl) (by kernel_rfl) (fun _ _ _ h => h) (Or.inr ⟨by rfl, rfl⟩) hHeld ?_
    (try simp only [Act.put, List.setIfInBounds_toArray, List.set_cons_zero, List.set_cons_succ])
    refine wpAnyH_take (i := 14) (oi := _) (v := undef) (op_atC rfl) (by kernel_rfl) (by kernel_rfl) (by kernel_rfl) (fun _ _ _ h => h) (Or.inr ⟨by rfl, rfl⟩) hHeld ?_
    (try simp only [Act.put, List.setIfInBounds_toArray, List.set_cons_zero, List.set_cons_succ])
    refine wpAnyH_take (i := 15) (oi := _) (v := undef) (op_atC rfl) (by kernel_rfl) (by kernel_rfl) (by kernel_rfl) (fun _ _ _ h => h) (Or.inr ⟨by rfl, rfl⟩) hHeld ?_
    (try simp only [Act.put, List.setIfInBounds_toArray, List.set_cons_zero, List.set_cons_succ])
    refine wpAnyH_take (i := 16) (oi := _) (v := undef) (op_atC rfl) (by kernel_rfl) (by kernel_rfl) (by kernel_rfl) (fun _ _ _ h => h) (Or.inr ⟨by rfl, rfl⟩) hHeld ?_
    (try simp only [Act.put, List.setIfInBounds_toArray, List.set_cons_zero, List.set_cons_succ])
    refine wpAnyH_take (i := 17) (oi := _) (v := undef) (op_atC rfl) (by kernel_rfl) (by kernel_rfl) (by kernel_rfl) (fun _ _ _ h => h) (Or.inr ⟨by rfl, rfl⟩) hHeld ?_
    (try simp only [Act.put, List.setIfInBounds_toArray, List.set_cons_zero, List.set_cons_succ])
    refine wpAnyH_take (i := 18) (oi := _) (v := ?_) (op_atC rfl) (by kernel_rfl) (by kernel_rfl) (by kernel_rfl) (fun _ _ _ h => h) (Or.inl ⟨by rfl, ?_⟩) hHeld ?_
    rotate_left 1
    focus (intro W hSw; (try dsimp only at hSw); go_simp; (try (with_reducible rfl)))
    (try simp only [Act.put, List.setIfInBounds_toArray, List.set_cons_zero, List.set_cons_succ])
    refine wpAnyH_done (by kernel_rfl) ?_ _
    have d2 : w1.drew.cell? ⟨b, 2, none⟩ = some (.int .i64 x.1) := c2
    go_wp2
    go_ret
    exact ⟨[], .error x, rfl, .inr ⟨x, HE.out, rfl⟩, trivial, HS.out.quiet ⟨1, rfl⟩, HT.out.trans (RdT.quiet ⟨1, rfl⟩)⟩
  | ok q =>
    have hql : q ≤ bs.length := hS.2
    have hlb := hS.lb
    have HX := Lib.hid (gets_txt HG.out hql)
    have HP0 : Hid (0 < bs.length) := by
      cases st with
      | error y => cases HG.out.ok
      | ok p => have := num_pos (HG.out.ok : numD bs 16 p = _); unfold Hid; omega
    have HS := Lib.hid hS
    obtain ⟨⟨bad, ⟨v, h1, h2⟩, h3, h4⟩, _⟩ := hS
    obtain ⟨a, c, rfl⟩ := rd_shape h2.1
    have c0 := h1.val 0 rfl
    have c1 := h1.val 1 rfl
    have c2 := h1.val 2 rfl
    clear h1 h2 h3 h4 HG
    by_cases hl : q + n ≤ bs.length
    · have hl' : decide ((bs.length : Int) < (q : Int) + (n : Int)) = false := by simp; omega
      go_wp2
      go_quiet (fail)
      have hq1 : Quiet w1 (w1.drewN nq) := ⟨nq, rfl⟩
      have H1 := Lib.hid (HS.out.quiet hq1)
      have HT1 := Lib.hid (HT.out.trans (RdT.quiet hq1))
      clear hq1 c0 c1 c2 HS HT
      generalize w1.drewN nq = w2 at *
      obtain ⟨⟨bad, hA⟩, _⟩ := H1.out
      have H2 := Lib.hid (hA.set1 ((q : Int) + (n : Int)))
      obtain ⟨⟨v, h1, h2⟩, h3, h4⟩ := hA
      obtain ⟨a', c', rfl⟩ := rd_shape h2.1
      have c1 := h1.val 1 rfl
      have c2 := h1.val 2 rfl
      have f1 := h1.frozen 1
      clear h1 h2 h3 h4
      go_upto_region 7 with fail
      clear c1 c2 f1 H1
      generalize World.setCell _ _ _ = w3 at *
      obtain ⟨⟨v, h1, h2⟩, h3, h4⟩ := H2.out.1
      obtain ⟨a, c, rfl⟩ := rd_shape h2.1
      have hcap : bs.length ≤ c := by obtain ⟨_, a1, n1, c1, e, hle⟩ := h2; injection e with e1 e2 e3; omega
      have hp0 : 0 < bs.length := HP0.out
      obtain ⟨d, o, rfl, hdB, _⟩ := rd_at h2.1 hp0
      have hby : ∀ j, j < bs.length → w3.cell? ⟨d, o + j, none⟩ = some (.int .u8 ((bs.getD j 0).toNat : Int)) := by
        intro j hj
        obtain ⟨d', o', e, _, hc⟩ := rd_at h2.1 hj
        injection e with e
        injection e with e1 e2
        subst e1 e2
        unfold ElB at hc
        rw [Nat.mul_one] at hc
        rw [hc, List.getD_eq_getElem?_getD, List.getElem?_eq_getElem hj]; rfl
      have c0 := h1.val 0 rfl
      have c1 := h1.val 1 rfl
      clear h1 h2 h3 h4
      refine wp_region_held_drew (S := (fun W' => W'.cell? ⟨b, 0, none⟩ = some (.slice (some ⟨d, o, none⟩) bs.length c) ∧ W'.cell? ⟨b, 1, none⟩ = some (.int .i64 ((q : Int) + (n : Int))) ∧ ∀ j, j < bs.length → W'.cell? ⟨d, o + j, none⟩ = some (.int .u8 ((bs.getD j 0).toNat : Int)))) (by kernel_rfl) ⟨c0, c1, hby⟩ (fun hHeld => ?_)
      refine wpAnyH_take (i := 0) (oi := _) (v := ?_) (op_atC rfl) (by kernel_rfl) (by kernel_rfl) (by kernel_rfl) (fun _ _ _ h => h) (Or.inl ⟨by rfl, ?_⟩) hHeld ?_
      rotate_left 1
      focus (intro W hSw; (try dsimp only at hSw); go_simp; (try (with_reducible rfl)))
      (try simp only [Act.put, List.setIfInBounds_toArray, List.set_cons_zero, List.set_cons_succ])
      refine wpAnyH_take (i := 1) (oi := _) (v := ?_) (op_atC rfl) (by kernel_rfl) (by kernel_rfl) (by kernel_rfl) (fun _ _ _ h => h) (Or.inl ⟨by rfl, ?_⟩) hHeld ?_
      rotate_left 1
      focus (intro W hSw; (try dsimp only at hSw); go_simp; (try (with_reducible rfl)))
      (try simp only [Act.put, List.setIfInBounds_toArray, List.set_cons_zero, List.set_cons_succ])
      refine wpAnyH_take (i := 2) (oi := _) (v := ?_) (op_atC rfl) (by kernel_rfl) (by kernel_rfl) (by kernel_rfl) (fun _ _ _ h => h) (Or.inl ⟨by rfl, ?_⟩) hHeld ?_
      rotate_left 1
      focus (intro W hSw; (try dsimp only at hSw); go_simp; (try (with_reducible rfl)))
      (try simp only [Act.put, List.setIfInBounds_toArray, List.set_cons_zero, List.set_cons_succ])
      refine wpAnyH_take (i := 3) (oi := _) (v := ?_) (op_atC rfl) (by kernel_rfl) (by kernel_rfl) (by kernel_rfl) (fun _ _ _ h => h) (Or.inl ⟨by rfl, ?_⟩) hHeld ?_
      rotate_left 1
      focus (intro W hSw; (try dsimp only at hSw); go_simp; (try (with_reducible rfl)))
      (try simp only [Act.put, List.setIfInBounds_toArray, List.set_cons_zero, List.set_cons_succ])
      refine wpAnyH_take (i := 4) (oi := _) (v := ?_) (op_atC rfl) (by kernel_rfl) (by kernel_rfl) (by kernel_rfl) (fun _ _ _ h => h) (Or.inl ⟨by rfl, ?_⟩) hHeld ?_
      rotate_left 1
      focus (intro W hSw; (try dsimp only at hSw); go_simp; (try (with_reducible rfl)))
      (try simp only [Act.put, List.setIfInBounds_toArray, List.set_cons_zero, List.set_cons_succ])
      refine wpAnyH_take (i := 5) (oi := _) (v := ?_) (op_atC rfl) (by kernel_rfl) (by kernel_rfl) (by kernel_rfl) (fun _ _ _ h => h) (Or.inl ⟨by rfl, ?_⟩) hHeld ?_
      rotate_left 1
      focus (intro W hSw; (try dsimp only at hSw); go_simp; (try (with_reducible rfl)))
      (try simp only [Act.put, List.setIfInBounds_toArray, List.set_cons_zero, List.set_cons_succ])
      refine wpAnyH_take (i := 6) (oi := _) (v := ?_) (op_atC rfl) (by kernel_rfl) (by kernel_rfl) (by kernel_rfl) (fun _ _ _ h => h) (Or.inl ⟨by rfl, ?_⟩) hHeld ?_
      rotate_left 1
      focus (intro W hSw; (try dsimp only at hSw); go_simp; (try (with_reducible rfl)))
      (try simp only [Act.put, List.setIfInBounds_toArray, List.set_cons_zero, List.set_cons_succ])
      refine wpAnyH_take (i := 7) (oi := _) (v := ?_) (op_atC rfl) (by kernel_rfl) (by kernel_rfl) (by kernel_rfl) (fun _ _ _ h => h) (Or.inl ⟨by rfl, ?_⟩) hHeld ?_
      rotate_left 1
      focus (intro W hSw; (try dsimp only at hSw); go_simp; (try (with_reducible rfl)))
      (try simp only [Act.put, List.setIfInBounds_toArray, List.set_cons_zero, List.set_cons_succ])
      refine wpAnyH_take (i := 8) (oi := _) (v := ?_) (op_atC rfl) (by kernel_rfl) (by kernel_rfl) (by kernel_rfl) (fun _ _ _ h => h) (Or.inl ⟨by rfl, ?_⟩) hHeld ?_
      rotate_left 1
      focus (intro W hSw; (try dsimp only at hSw); go_simp; (try (with_reducible rfl)))
      (try simp only [Act.put, List.setIfInBounds_toArray, List.set_cons_zero, List.set_cons_succ])
      refine wpAnyH_take (i := 9) (oi := _) (v := ?_) (op_atC rfl) (by kernel_rfl) (by kernel_rfl) (by kernel_rfl) (fun _ _ _ h => h) (Or.inl ⟨by rfl, ?_⟩) hHeld ?_
      rotate_left 1
      focus (intro W hSw; (try dsimp only at hSw); go_simp; (try (with_reducible rfl)))
      (try simp only [Act.put, List.setIfInBounds_toArray, List.set_cons_zero, List.set_cons_succ])
      refine wpAnyH_take (i := 10) (oi := _) (v := ?_) (op_atC rfl) (by kernel_rfl) (by kernel_rfl) (by kernel_rfl) (fun _ _ _ h => h) (Or.inl ⟨by rfl, ?_⟩) hHeld ?_
      rotate_left 1
      focus (intro W hSw; (try dsimp only at hSw); go_simp; (try (with_reducible rfl)))
      (try simp only [Act.put, List.setIfInBounds_toArray, List.set_cons_zero, List.set_cons_succ])
      refine wpAnyH_take (i := 11) (oi := _) (v := ?_) (op_atC rfl) (by kernel_rfl) (by kernel_rfl) (by kernel_rfl) (fun _ _ _ h => h) (Or.inl ⟨by rfl, ?_⟩) hHeld ?_
      rotate_left 1
      focus (intro W hSw; (try dsimp only at hSw); go_simp; (try (with_reducible rfl)))
      (try simp only [Act.put, List.setIfInBounds_toArray, List.set_cons_zero, List.set_cons_succ])
      refine wpAnyH_take (i := 12) (oi := _) (v := ?_) (op_atC rfl) (by kernel_rfl) (by kernel_rfl) (by kernel_rfl) (fun _ _ _ h => h) (Or.inl ⟨by rfl, ?_⟩) hHeld ?_
      rotate_left 1
      focus (intro W hSw; (try dsimp only at hSw); go_simp; (try (with_reducible rfl)))
      (try simp only [Act.put, List.setIfInBounds_toArray, List.set_cons_zero, List.set_cons_succ])
      refine wpAnyH_take (i := 13) (oi := _) (v := ?_) (op_atC rfl) (by kernel_rfl) (by kernel_rfl) (by kernel_rfl) (fun _ _ _ h => h) (Or.inl ⟨by rfl, ?_⟩) hHeld ?_
      rotate_left 1
      focus (intro W hSw; (try dsimp only at hSw); go_simp; (try (with_reducible rfl)))
      (try simp only [Act.put, List.setIfInBounds_toArray, List.set_cons_zero, List.set_cons_succ])
      refine wpAnyH_take (i := 14) (oi := _) (v := .slice (if c = q then some ⟨d, o, none⟩ else some ⟨d, o + q, none⟩) n (c - q)) (op_atC rfl) (by kernel_rfl) (by kernel_rfl) (by kernel_rfl) (fun _ _ _ h => h) (Or.inl ⟨by rfl, ?_⟩) hHeld ?_
      focus
        intro W hSw
        (try dsimp only at hSw)
        go_simp
        have e1 : IntKind.i64.wrap (q : Int) = (q : Int) := by rw [IntKind.wrap_i64]; omega
        have e2 : ((q : Int) + (n : Int)).toNat = q + n := by omega
        rw [e1, if_pos (by omega), if_pos ⟨by omega, by omega⟩, e2, Int.toNat_natCast, Nat.add_sub_cancel_left]
      (try simp only [Act.put, List.setIfInBounds_toArray, List.set_cons_zero, List.set_cons_succ])
      have HCV := fun W h => conv_part W d o c q n bs hl hcap h
      refine wpAnyH_take (i := 15) (oi := _) (v := .string (bytA ((bs.drop q).take n))) (op_atC rfl) (by kernel_rfl) (by kernel_rfl) (by kernel_rfl) (fun _ _ _ h => h) (Or.inl ⟨by rfl, ?_⟩) hHeld ?_
      focus
        intro W hSw
        (try dsimp only at hSw)
        have e := HCV W hSw.2.2
        go_simp
      (try simp only [Act.put, List.setIfInBounds_toArray, List.set_cons_zero, List.set_cons_succ])
      refine wpAnyH_take (i := 16) (oi := _) (v := ?_) (op_atC rfl) (by kernel_rfl) (by kernel_rfl) (by kernel_rfl) (fun _ _ _ h => h) (Or.inl ⟨by rfl, ?_⟩) hHeld ?_
      rotate_left 1
      focus (intro W hSw; (try dsimp only at hSw); go_simp; (try (with_reducible rfl)))
      (try simp only [Act.put, List.setIfInBounds_toArray, List.set_cons_zero, List.set_cons_succ])
      refine wpAnyH_done (by kernel_rfl) ?_ _
      clear hHeld HCV hby c0 c1
      have HA := Lib.hid (H2.out.1.quiet (w' := w3.drew) ⟨1, rfl⟩)
      rw [show ((q : Int) + (n : Int)) = ((q + n : Nat) : Int) by omega] at HA
      have HL := Lib.hid hl
      clear hl
      go_wp2
      all_goals go_ret
      all_goals exact ⟨(bs.drop q).take n, .ok (q + n), rfl, .inl ⟨_, HX.out.trans (if_pos HL.out), rfl⟩, trivial, ⟨⟨bad, HA.out⟩, HL.out⟩, (HT1.out.trans H2.out.2).trans (RdT.quiet ⟨1, rfl⟩)⟩
    · have hl' : decide ((bs.length : Int) < (q : Int) + (n : Int)) = true := by simp; omega
      go_wp2
      go_quiet (fail)
      have hq1 : Quiet w1 (w1.drewN nq) := ⟨nq, rfl⟩
      have H1 := Lib.hid (HS.out.quiet hq1)
      have HT1 := Lib.hid (HT.out.trans (RdT.quiet hq1))
      clear hq1 c0 c1 c2 HS HT
      generalize w1.drewN nq = w2 at *
      obtain ⟨⟨bad, ⟨v, h1, h2⟩, h3, h4⟩, _⟩ := H1.out
      obtain ⟨a', c', rfl⟩ := rd_shape h2.1
      have c0 := h1.val 0 rfl
      clear h1 h2 h3 h4
      go_wp2_with fail
      refine (H1.out.rfailed (bs.length : Int) 10 (by decide)).mono ?_
      rintro e' w3 ⟨⟨u, rfl⟩, hS3, hT3⟩
      change RdS t w3 B b bs (.error (10, (bs.length : Int))) at hS3
      obtain ⟨d2, d2a, _⟩ := hS3.errC
      have H3 := Lib.hid (And.intro hS3 hT3)
      clear hS3 hT3 c0
      go_wp2
      go_ret
      exact ⟨[], .error (10, (bs.length : Int)), rfl, .inr ⟨_, HX.out.trans (if_neg hl), rfl⟩, trivial, H3.out.1, HT1.out.trans H3.out.2⟩
end Go.Proofs.Ytffelcidckbohaa
/- The document's Operands and Right of an instruction. No condition. -/
namespace Go.Proofs.Ytffelcidckbohaa
open Go.RowKit
set_option linter.unusedVariables false
set_option maxRecDepth 100000 in
set_option maxHeartbeats 4000000 in
theorem roperands_any (op : Int) (w : World) : Calls Try.prog 46 #[.int .i64 op] w fun e w' => e = .returned (.int .i64 (opsI op)) ∧ Below w.heap.size w w' := by
  by_cases h1 : op < 1
  · go_enter Try.func46, Try.ntmps46
    go_wp2
    go_ret
    exact ⟨ret_int (by unfold opsI; rw [if_pos (.inl (by assumption))]), Below.refl _ _⟩
  by_cases h2 : 39 < op
  · go_enter Try.func46, Try.ntmps46
    go_wp2
    go_ret
    exact ⟨ret_int (by unfold opsI; rw [if_pos (.inr (by assumption))]), Below.refl _ _⟩
  have H12 : Hid (¬ (op < 1 ∨ 39 < op)) := fun h => h.elim h1 h2
  have k1 : Blk ((w.alloc (.cells #[.int .i64 25, .int .i64 26, .int .i64 27] 3)).alloc (.cells #[.int .i64 1, .int .i64 3, .int .i64 4, .int .i64 18, .int .i64 19, .int .i64 20, .int .i64 22, .int .i64 33, .int .i64 34, .int .i64 35] 3)) w.heap.size #[.int .i64 25, .int .i64 26, .int .i64 27] 3 := (Blk.new _ _ _).alloc _
  have k2 : Blk ((w.alloc (.cells #[.int .i64 25, .int .i64 26, .int .i64 27] 3)).alloc (.cells #[.int .i64 1, .int .i64 3, .int .i64 4, .int .i64 18, .int .i64 19, .int .i64 20, .int .i64 22, .int .i64 33, .int .i64 34, .int .i64 35] 3)) (w.heap.size + 1) #[.int .i64 1, .int .i64 3, .int .i64 4, .int .i64 18, .int .i64 19, .int .i64 20, .int .i64 22, .int .i64 33, .int .i64 34, .int .i64 35] 3 := Blk.new' (by simp)
  have hb : Hid (Below w.heap.size w ((w.alloc (.cells #[.int .i64 25, .int .i64 26, .int .i64 27] 3)).alloc (.cells #[.int .i64 1, .int .i64 3, .int .i64 4, .int .i64 18, .int .i64 19, .int .i64 20, .int .i64 22, .int .i64 33, .int .i64 34, .int .i64 35] 3))) := ((Below.refl _ _).alloc (Nat.le_refl _) _).alloc (by simp) _
  go_enter Try.func46, Try.ntmps46
  go_wp2
  generalize World.alloc _ _ = W at *
  generalize hS : w.heap.size = S at *
  have HS := Lib.hid hS
  clear hS
  go_loop [5] (fun i => ∃ k : Nat, k ≤ 3 ∧ i = .int .i64 k ∧ ∀ j, j < k → [25, 26, 27].getD j 0 ≠ op) (fun i => 3 - (intOf i).toNat)
  case atStart => exact ⟨0, by omega, rfl, fun j hj => absurd hj (by omega)⟩
  case round =>
    obtain ⟨k, hk, rfl, hno⟩ := hrel
    have HNO := Lib.hid hno
    clear hno
    rcases (show k = 0 ∨ k = 1 ∨ k = 2 ∨ k = 3 by omega) with rfl | rfl | rfl | rfl
    · by_cases he : (25 : Int) = op
      · subst he
        have c := k1.val 0 rfl
        go_wp2
        go_ret
        exact ⟨ret_int (by decide), by rw [HS.out]; exact hb.out⟩
      · have he' : ((25 : Int) == op) = false := by simpa using he
        have HE := Lib.hid he
        clear he
        have c := k1.val 0 rfl
        go_wp2
        go_round
        case rel => exact ⟨1, by omega, by go_num, fun j hj => by
          rcases Nat.lt_or_ge j 0 with h | h
          · exact HNO.out j h
          · obtain rfl : j = 0 := by omega
            exact HE.out⟩
        case measure => simp [intOf]
    · by_cases he : (26 : Int) = op
      · subst he
        have c := k1.val 1 rfl
        go_wp2
        go_ret
        exact ⟨ret_int (by decide), by rw [HS.out]; exact hb.out⟩
      · have he' : ((26 : Int) == op) = false := by simpa using he
        have HE := Lib.hid he
        clear he
        have c := k1.val 1 rfl
        go_wp2
        go_round
        case rel => exact ⟨2, by omega, by go_num, fun j hj => by
          rcases Nat.lt_or_ge j 1 with h | h
          · exact HNO.out j h
          · obtain rfl : j = 1 := by omega
            exact HE.out⟩
        case measure => simp [intOf]
    · by_cases he : (27 : Int) = op
      · subst he
        have c := k1.val 2 rfl
        go_wp2
        go_ret
        exact ⟨ret_int (by decide), by rw [HS.out]; exact hb.out⟩
      · have he' : ((27 : Int) == op) = false := by simpa using he
        have HE := Lib.hid he
        clear he
        have c := k1.val 2 rfl
        go_wp2
        go_round
        case rel => exact ⟨3, by omega, by go_num, fun j hj => by
          rcases Nat.lt_or_ge j 2 with h | h
          · exact HNO.out j h
          · obtain rfl : j = 2 := by omega
            exact HE.out⟩
        case measure => simp [intOf]
    · have hn : op ≠ 25 ∧ op ≠ 26 ∧ op ≠ 27 := ⟨fun e => HNO.out 0 (by decide) e.symm, fun e => HNO.out 1 (by decide) e.symm, fun e => HNO.out 2 (by decide) e.symm⟩
      have HN := Lib.hid hn
      clear hn
      go_wp2
      go_loop [6] (fun i => ∃ k : Nat, k ≤ 10 ∧ i = .int .i64 k ∧ ∀ j, j < k → [1, 3, 4, 18, 19, 20, 22, 33, 34, 35].getD j 0 ≠ op) (fun i => 10 - (intOf i).toNat)
      case atStart => exact ⟨0, by omega, rfl, fun j hj => absurd hj (by omega)⟩
      case round =>
        obtain ⟨k, hk, rfl, hno⟩ := hrel
        have HNO2 := Lib.hid hno
        clear hno
        rcases (show k = 0 ∨ k = 1 ∨ k = 2 ∨ k = 3 ∨ k = 4 ∨ k = 5 ∨ k = 6 ∨ k = 7 ∨ k = 8 ∨ k = 9 ∨ k = 10 by omega) with rfl | rfl | rfl | rfl | rfl | rfl | rfl | rfl | rfl | rfl | rfl
        · by_cases he : (1 : Int) = op
          · subst he
            have c := k2.val 0 rfl
            go_wp2
            go_ret
            exact ⟨ret_int (by decide), by rw [HS.out]; exact hb.out⟩
          · have he' : ((1 : Int) == op) = false := by simpa using he
            have HE := Lib.hid he
            clear he
            have c := k2.val 0 rfl
            go_wp2
            go_round
            case rel => exact ⟨1, by omega, by go_num, fun j hj => by
              rcases Nat.lt_or_ge j 0 with h | h
              · exact HNO2.out j h
              · obtain rfl : j = 0 := by omega
                exact HE.out⟩
            case measure => simp [intOf]
        · by_cases he : (3 : Int) = op
          · subst he
            have c := k2.val 1 rfl
            go_wp2
            go_ret
            exact ⟨ret_int (by decide), by rw [HS.out]; exact hb.out⟩
          · have he' : ((3 : Int) == op) = false := by simpa using he
            have HE := Lib.hid he
            clear he
            have c := k2.val 1 rfl
            go_wp2
            go_round
            case rel => exact ⟨2, by omega, by go_num, fun j hj => by
              rcases Nat.lt_or_ge j 1 with h | h
              · exact HNO2.out j h
              · obtain rfl : j = 1 := by omega
                exact HE.out⟩
            case measure => simp [intOf]
        · by_cases he : (4 : Int) = op
          · subst he
            have c := k2.val 2 rfl
            go_wp2
            go_ret
            exact ⟨ret_int (by decide), by rw [HS.out]; exact hb.out⟩
          · have he' : ((4 : Int) == op) = false := by simpa using he
            have HE := Lib.hid he
            clear he
            have c := k2.val 2 rfl
            go_wp2
            go_round
            case rel => exact ⟨3, by omega, by go_num, fun j hj => by
              rcases Nat.lt_or_ge j 2 with h | h
              · exact HNO2.out j h
              · obtain rfl : j = 2 := by omega
                exact HE.out⟩
            case measure => simp [intOf]
        · by_cases he : (18 : Int) = op
          · subst he
            have c := k2.val 3 rfl
            go_wp2
            go_ret
            exact ⟨ret_int (by decide), by rw [HS.out]; exact hb.out⟩
          · have he' : ((18 : Int) == op) = false := by simpa using he
            have HE := Lib.hid he
            clear he
            have c := k2.val 3 rfl
            go_wp2
            go_round
            case rel => exact ⟨4, by omega, by go_num, fun j hj => by
              rcases Nat.lt_or_ge j 3 with h | h
              · exact HNO2.out j h
              · obtain rfl : j = 3 := by omega
                exact HE.out⟩
            case measure => simp [intOf]
        · by_cases he : (19 : Int) = op
          · subst he
            have c := k2.val 4 rfl
            go_wp2
            go_ret
            exact ⟨ret_int (by decide), by rw [HS.out]; exact hb.out⟩
          · have he' : ((19 : Int) == op) = false := by simpa using he
            have HE := Lib.hid he
            clear he
            have c := k2.val 4 rfl
            go_wp2
            go_round
            case rel => exact ⟨5, by omega, by go_num, fun j hj => by
              rcases Nat.lt_or_ge j 4 with h | h
              · exact HNO2.out j h
              · obtain rfl : j = 4 := by omega
                exact HE.out⟩
            case measure => simp [intOf]
        · by_cases he : (20 : Int) = op
          · subst he
            have c := k2.val 5 rfl
            go_wp2
            go_ret
            exact ⟨ret_int (by decide), by rw [HS.out]; exact hb.out⟩
          · have he' : ((20 : Int) == op) = false := by simpa using he
            have HE := Lib.hid he
            clear he
            have c := k2.val 5 rfl
            go_wp2
            go_round
            case rel => exact ⟨6, by omega, by go_num, fun j hj => by
              rcases Nat.lt_or_ge j 5 with h | h
              · exact HNO2.out j h
              · obtain rfl : j = 5 := by omega
                exact HE.out⟩
            case measure => simp [intOf]
        · by_cases he : (22 : Int) = op
          · subst he
            have c := k2.val 6 rfl
            go_wp2
            go_ret
            exact ⟨ret_int (by decide), by rw [HS.out]; exact hb.out⟩
          · have he' : ((22 : Int) == op) = false := by simpa using he
            have HE := Lib.hid he
            clear he
            have c := k2.val 6 rfl
            go_wp2
            go_round
            case rel => exact ⟨7, by omega, by go_num, fun j hj => by
              rcases Nat.lt_or_ge j 6 with h | h
              · exact HNO2.out j h
              · obtain rfl : j = 6 := by omega
                exact HE.out⟩
            case measure => simp [intOf]
        · by_cases he : (33 : Int) = op
          · subst he
            have c := k2.val 7 rfl
            go_wp2
            go_ret
            exact ⟨ret_int (by decide), by rw [HS.out]; exact hb.out⟩
          · have he' : ((33 : Int) == op) = false := by simpa using he
            have HE := Lib.hid he
            clear he
            have c := k2.val 7 rfl
            go_wp2
            go_round
            case rel => exact ⟨8, by omega, by go_num, fun j hj => by
              rcases Nat.lt_or_ge j 7 with h | h
              · exact HNO2.out j h
              · obtain rfl : j = 7 := by omega
                exact HE.out⟩
            case measure => simp [intOf]
        · by_cases he : (34 : Int) = op
          · subst he
            have c := k2.val 8 rfl
            go_wp2
            go_ret
            exact ⟨ret_int (by decide), by rw [HS.out]; exact hb.out⟩
          · have he' : ((34 : Int) == op) = false := by simpa using he
            have HE := Lib.hid he
            clear he
            have c := k2.val 8 rfl
            go_wp2
            go_round
            case rel => exact ⟨9, by omega, by go_num, fun j hj => by
              rcases Nat.lt_or_ge j 8 with h | h
              · exact HNO2.out j h
              · obtain rfl : j = 8 := by omega
                exact HE.out⟩
            case measure => simp [intOf]
        · by_cases he : (35 : Int) = op
          · subst he
            have c := k2.val 9 rfl
            go_wp2
            go_ret
            exact ⟨ret_int (by decide), by rw [HS.out]; exact hb.out⟩
          · have he' : ((35 : Int) == op) = false := by simpa using he
            have HE := Lib.hid he
            clear he
            have c := k2.val 9 rfl
            go_wp2
            go_round
            case rel => exact ⟨10, by omega, by go_num, fun j hj => by
              rcases Nat.lt_or_ge j 9 with h | h
              · exact HNO2.out j h
              · obtain rfl : j = 9 := by omega
                exact HE.out⟩
            case measure => simp [intOf]
        · go_wp2
          go_ret
          have q : op ≠ 1 ∧ op ≠ 3 ∧ op ≠ 4 ∧ op ≠ 18 ∧ op ≠ 19 ∧ op ≠ 20 ∧ op ≠ 22 ∧ op ≠ 33 ∧ op ≠ 34 ∧ op ≠ 35 := ⟨fun e => HNO2.out 0 (by decide) e.symm, fun e => HNO2.out 1 (by decide) e.symm, fun e => HNO2.out 2 (by decide) e.symm, fun e => HNO2.out 3 (by decide) e.symm, fun e => HNO2.out 4 (by decide) e.symm, fun e => HNO2.out 5 (by decide) e.symm, fun e => HNO2.out 6 (by decide) e.symm, fun e => HNO2.out 7 (by decide) e.symm, fun e => HNO2.out 8 (by decide) e.symm, fun e => HNO2.out 9 (by decide) e.symm⟩
          have hn := HN.out
          exact ⟨ret_int (by unfold opsI; rw [if_neg H12.out, if_neg (by omega), if_neg (by omega)]), by rw [HS.out]; exact hb.out⟩
end Go.Proofs.Ytffelcidckbohaa
/- The document's reader: lists of types, an instruction. Condition: the reader is there. -/
namespace Go.Proofs.Ytffelcidckbohaa
open Go.RowKit
set_option linter.unusedVariables false
set_option maxRecDepth 100000 in
set_option maxHeartbeats 2000000 in
theorem rkinds_any (t : TypeId) (w : World) (B b : Nat) (bs : List UInt8) (st : St) (most : Nat) (h : RdS t w B b bs st) (hm : most ≤ 1000) :
    Calls Try.prog 24 #[.pointer (some ⟨b, 0, none⟩), .int .u64 most] w (ReadsL (OwnR 3 1 intC) (fun x => x) most t B b bs (after st (listD bs (kindD bs) most)) w) := by
  obtain ⟨i0, hi, hz0, hz1, hz2⟩ := info_parts info_intC
  have Z := Lib.hid (And.intro hi (And.intro hz0 (And.intro hz1 hz2)))
  have hbl := h.lt
  have NU := Lib.hid (rnumber_any' t w B b bs st most h (by omega))
  clear h hi hz0 hz1 hz2
  go_enter Try.func24, Try.ntmps24
  go_wp2_with fail
  refine NU.out.mono ?_
  rintro e' w1 ⟨n, st1, rfl, hG, h0, hS, hT⟩
  have hn := num_le hG h0
  have HG := Lib.hid hG
  have HS := Lib.hid hS
  have HT := Lib.hid hT
  clear hG h0 hS hT NU
  go_wp2_with fail
  go_loopw [5, 7] (fun v x wr => ∃ (i : Nat) (ls : List Int) (s : St), x = .int .i64 i ∧ i ≤ n ∧ Hid (ls.length = i) ∧ OwnR 3 1 intC wr w.heap.size v ls ∧ Gets (after st1 (seqD (kindD bs) i)) (ls.map fun x => x) s ∧ RdS t wr B b bs s ∧ RdT b w wr) (fun _ x _ => n - (intOf x).toNat)
  case atStart => exact ⟨0, [], st1, rfl, Nat.zero_le _, rfl, OwnR.nil _ _ _ _ _, gets_none _ _, HS.out, HT.out⟩
  case round =>
    obtain ⟨i, ls, s, rfl, hin, hil, hO, hGi, hSi, hTi⟩ := hrel
    obtain ⟨va, vc, rfl⟩ := row_shape hO
    have HGi := Lib.hid hGi
    have HTi := Lib.hid hTi
    have hsz := hTi.size
    clear hGi hTi
    by_cases hlt : i < n
    · have hlt' : (i : Int) < (n : Int) := by omega
      cases s with
      | error x =>
        obtain ⟨c2, _, c2', _⟩ := hSi.errC
        have HSi := Lib.hid hSi
        clear hSi
        go_wp2
        go_ret
        exact ⟨_, ls, .error x, rfl, gets_list HG.out (gets_late HGi.out hin), by have := hil.out; omega, hO, HSi.out, HTi.out⟩
      | ok p =>
        obtain ⟨c2, _⟩ := hSi.okC
        have NX := Lib.hid (rkindD_any t wr B b bs _ hSi)
        clear hSi
        go_wp2_with fail
        refine NX.out.mono ?_
        rintro e' w2 ⟨a, s', rfl, hG2, _, hS2, hT2⟩
        have hO2 := hO.touch hT2 hbl
        have HG2 := Lib.hid hG2
        have HS2 := Lib.hid hS2
        have HT2 := Lib.hid (HTi.out.trans hT2)
        have hsz2 := hT2.size
        clear hG2 hS2 hT2 NX c2 hO
        go_wp2_with (at_builtin; refine wpList_append_own_at _ rfl _ _ 43 rfl w.heap.size 3 i0 _ 1 8 Try.underlying43 Z.out.1 Z.out.2.1 Z.out.2.2.1 Z.out.2.2.2 rfl (by decide) _ ls.length (ls.flatMap intC) rfl (own_grewG hO2 ((Below.refl _ _).alloc (Nat.le_refl _) _)) ⟨w2.heap.size, 0, none⟩ 1 1 (intC a) rfl rfl (World.news_of_block (Blk.new _ _ _)) (by simp [Value.oneCell', intC]) (by have := hil.out; unfold maxLen; omega) (by have := hil.out; omega) (by simp; omega) ?_; intro v' w3 hown' hgrow _ hat; obtain ⟨ga, gc, rfl⟩ := row_shape hown'; have HA := Lib.hid (list_kept HS2.out hbl hO2 hgrow HT2.out); clear hgrow hat)
        go_roundw
        case rel => exact ⟨i + 1, ls ++ [a], s', by go_num, by omega, by unfold Hid; rw [List.length_append, hil.out]; rfl, own_app hown', by rw [List.map_append]; exact gets_one HGi.out HG2.out, HA.out.1, HA.out.2⟩
        case measure => simp [intOf]; omega
    · have hlt' : ¬ (i : Int) < (n : Int) := by omega
      obtain rfl : i = n := by omega
      have HSi := Lib.hid hSi
      clear hSi
      go_wp2
      go_ret
      exact ⟨_, ls, s, rfl, gets_list HG.out HGi.out, by have := hil.out; omega, hO, HSi.out, HTi.out⟩
theorem gets_err_any {α : Type} (D : Nat → Rd α) (a : α) (y : DErr) : Gets (after (.error y) D) a (.error y) := .inr ⟨y, rfl, rfl⟩
set_option maxRecDepth 100000 in
set_option maxHeartbeats 8000000 in
theorem rinsD_any (t : TypeId) (w : World) (B b : Nat) (bs : List UInt8) (st : St) (h : RdS t w B b bs st) :
    Calls Try.prog 25 #[.pointer (some ⟨b, 0, none⟩)] w (ReadsV (fun x : InsD => Value.agg #[.int .i64 x.op, .int .i64 x.a, .int .i64 x.b]) (fun x => x) NoInn t B b bs (after st (insD bs)) w) := by
  have hb0 := (Below.refl w.heap.size w).alloc (Nat.le_refl _) (.cells #[.int .i64 0, .int .i64 0, .int .i64 0] 41)
  have hbl := h.lt
  obtain ⟨q, hq6, c1, hq⟩ := (h.grew hb0).atC
  have N := Lib.hid (rone_any t _ B b bs st (h.grew hb0))
  have k0 := Lib.hid (Blk.new w #[.int .i64 0, .int .i64 0, .int .i64 0] 41)
  have HB0 := Lib.hid hb0
  have HQ := Lib.hid hq
  clear h hb0 hq
  go_enter Try.func25, Try.ntmps25
  go_wp2_with fail
  refine N.out.mono ?_
  rintro e' w1 ⟨x, s1, rfl, hG, h0, hS, hT⟩
  have hx := x.toNat_lt
  have HT1 := Lib.hid (Touch.trans (Touch.of HB0.out) hT)
  have K1 := Lib.hid (k0.out.touch hT (by omega))
  have HG := Lib.hid (And.intro hG h0)
  have HS := Lib.hid hS
  clear hG h0 hS hT N k0 HB0 c1
  go_wp2_with fail
  refine (roperands_any _ _).mono ?_
  rintro e' w2 ⟨rfl, hb2⟩
  have HS2 := Lib.hid (HS.out.grew hb2)
  have K2 := Lib.hid (K1.out.grew hb2)
  have HT2 := Lib.hid (HT1.out.trans (Touch.of hb2))
  clear HS K1 HT1 hb2
  cases s1 with
  | error y =>
    obtain rfl := HG.out.2 y rfl
    have HS2 : Hid (RdS t w2 B b bs (.error y)) := HS2
    obtain ⟨c2, c2a, c2b, _⟩ := HS2.out.errC
    have HF : Hid (Gets (after st (insD bs)) (InsD.mk (((0 : UInt8).toNat : Nat) : Int) 0 0) (.error y)) := gets_ins_bad HG.out.1 HQ.out (by decide) 0 0
    have hwa : (w2.alloc (.cells #[.int .i64 0, .int .i64 0, .int .i64 0] 41)).cell? ⟨b, 2, none⟩ = some (.int .i64 y.1) := ((Below.refl _ _).alloc (Nat.le_refl _) _).cell (p := ⟨b, 2, none⟩) HS2.out.lt |>.trans c2
    have kI : InS t w B b w2.heap.size bs 0 0 0 _ (w2.alloc (.cells #[.int .i64 0, .int .i64 0, .int .i64 0] 41)) :=
      ⟨HS2.out.grew ((Below.refl _ _).alloc (Nat.le_refl _) _), K2.out.alloc _, Blk.new _ _ _, HT2.out.alloc _, hbl, by have := K2.out.lt; omega⟩
    have HI := Lib.hid kI
    clear kI K2 HT2 HS2
    go_upto_region 7 with fail
    generalize w2.alloc (.cells #[.int .i64 0, .int .i64 0, .int .i64 0] 41) = wi at *
    generalize w2.heap.size = bi at *
    clear hwa c2
    obtain ⟨c2e, c2ea, c2eb, _⟩ := HI.out.rd.errC
    obtain ⟨⟨y0, y1, y2⟩, _, _⟩ := HI.out.cells
    obtain ⟨⟨r0, r1, r2⟩, g0, g1, g2⟩ := HI.out.res
    have HZ := Lib.hid HI.out.out
    clear HI
    go_wp2
    generalize World.setCell (World.setCell (World.setCell _ _ _) _ _) _ _ = W9 at *
    have z0 := HZ.out.1.val 0 rfl
    have z1 := HZ.out.1.val 1 rfl
    have z2 := HZ.out.1.val 2 rfl
    refine bodyPost_ret (v := .agg #[.int .i64 0, .int .i64 (0), .int .i64 (0)]) (by simp [results, Try.results25, go_sem, z0, z1, z2]) rfl ⟨⟨(((0 : UInt8).toNat : Nat) : Int), 0, 0⟩, _, rfl, HF.out, trivial, HZ.out.2⟩
  | ok p =>
    obtain ⟨c2, _⟩ := HS2.out.okC
    by_cases hneg : opsI (x.toNat : Int) < 0
    · have HF := Lib.hid (gets_ins_bad HG.out.1 HQ.out hneg 0 0)
      generalize opsI (x.toNat : Int) = op at *
      go_wp2_with fail
      refine (HS2.out.rfailed (q : Int) 30 (by decide)).mono ?_
      rintro e' w3 ⟨⟨u, rfl⟩, hS3, hT3⟩
      change RdS t w3 B b bs (.error (30, (q : Int))) at hS3
      have HS3 := Lib.hid hS3
      have K3 := Lib.hid (K2.out.touch hT3 (by omega))
      have HT3 := Lib.hid (HT2.out.trans hT3)
      clear hS3 hT3 HS2 K2 HT2 c2
      have kI : InS t w B b w3.heap.size bs (x.toNat : Int) 0 0 _ (w3.alloc (.cells #[.int .i64 (x.toNat : Int), .int .i64 0, .int .i64 0] 41)) :=
        ⟨HS3.out.grew ((Below.refl _ _).alloc (Nat.le_refl _) _), K3.out.alloc _, Blk.new _ _ _, HT3.out.alloc _, hbl, by have := K3.out.lt; omega⟩
      have HI := Lib.hid kI
      clear kI K3 HT3 HS3
      go_upto_region 7 with fail
      generalize w3.alloc (.cells #[.int .i64 (x.toNat : Int), .int .i64 0, .int .i64 0] 41) = wi at *
      generalize w3.heap.size = bi at *
      obtain ⟨c2e, c2ea, c2eb, _⟩ := HI.out.rd.errC
      obtain ⟨⟨y0, y1, y2⟩, _, _⟩ := HI.out.cells
      obtain ⟨⟨r0, r1, r2⟩, g0, g1, g2⟩ := HI.out.res
      have HZ := Lib.hid HI.out.out
      clear HI
      go_wp2
      generalize World.setCell (World.setCell (World.setCell _ _ _) _ _) _ _ = W9 at *
      have z0 := HZ.out.1.val 0 rfl
      have z1 := HZ.out.1.val 1 rfl
      have z2 := HZ.out.1.val 2 rfl
      refine bodyPost_ret (v := .agg #[.int .i64 (x.toNat : Int), .int .i64 (0), .int .i64 (0)]) (by simp [results, Try.results25, go_sem, z0, z1, z2]) rfl ⟨⟨x.toNat, 0, 0⟩, _, rfl, HF.out, trivial, HZ.out.2⟩
    · by_cases hone : x.toNat = 1
      · have hx1 : x = 1 := by rw [← UInt8.toNat_inj]; exact hone
        subst hx1
        have ho : opsI (((1 : UInt8).toNat : Nat) : Int) = 1 := by decide
        have HO := Lib.hid ho
        have HH := Lib.hid hneg
        rw [ho]
        clear hneg ho hone hx
        go_upto_region 6 with fail
        clear c2
        have kI : InS t w B b w2.heap.size bs 1 0 0 _ (w2.alloc (.cells #[.int .i64 1, .int .i64 0, .int .i64 0] 41)) :=
          ⟨HS2.out.grew ((Below.refl _ _).alloc (Nat.le_refl _) _), K2.out.alloc _, Blk.new _ _ _, HT2.out.alloc _, hbl, by have := K2.out.lt; omega⟩
        have HI := Lib.hid kI
        clear kI K2 HT2 HS2
        go_upto_region 7 with fail
        generalize w2.alloc (.cells #[.int .i64 1, .int .i64 0, .int .i64 0] 41) = wi at *
        generalize w2.heap.size = bi at *
        obtain ⟨c2n, _⟩ := HI.out.rd.okC
        go_wp2_with fail
        refine (rnumber_any' t _ B b bs _ 18446744073709551615 HI.out.rd (by decide)).mono ?_
        rintro e' w4n ⟨n, s4, rfl, hGn, h0n, hSn, hTn⟩
        have hnn := num_le hGn h0n
        have HNn := Lib.hid hGn
        have In := Lib.hid (HI.out.step hSn hTn)
        clear hGn h0n hSn hTn c2n
        obtain ⟨⟨y0, y1, y2⟩, f1, f2⟩ := In.out.cells
        go_wp2_with fail
        refine (runsigned_any n _ (by omega)).mono ?_
        rintro e' w5n ⟨rfl, rfl⟩
        go_upto_region 11 with fail
        have I4 := Lib.hid (In.out.seta (unfI n))
        clear In HI y0 y1 y2 f1 f2
        generalize w4n.setCell _ _ = w6n at *
        cases s4 with
        | ok p4 =>
          obtain ⟨c2e, _⟩ := I4.out.rd.okC
          obtain ⟨⟨y0, y1, y2⟩, _, _⟩ := I4.out.cells
          obtain ⟨⟨r0, r1, r2⟩, g0, g1, g2⟩ := I4.out.res
          have HZ := Lib.hid I4.out.out
          clear I4
          go_wp2
          generalize World.setCell (World.setCell (World.setCell _ _ _) _ _) _ _ = W9 at *
          have z0 := HZ.out.1.val 0 rfl
          have z1 := HZ.out.1.val 1 rfl
          have z2 := HZ.out.1.val 2 rfl
          refine bodyPost_ret (v := .agg #[.int .i64 1, .int .i64 (unfI n), .int .i64 (0)]) (by simp [results, Try.results25, go_sem, z0, z1, z2]) rfl ⟨⟨(((1 : UInt8).toNat : Nat) : Int), unfI n, 0⟩, .ok p4, rfl, gets_ins HG.out.1 (by have := HH.out; omega) (argA_one HNn.out) (argB_no (by rw [HO.out]; decide)), trivial, HZ.out.2⟩
        | error y =>
          obtain ⟨c2e, c2ea, c2eb, _⟩ := I4.out.rd.errC
          obtain ⟨⟨y0, y1, y2⟩, _, _⟩ := I4.out.cells
          obtain ⟨⟨r0, r1, r2⟩, g0, g1, g2⟩ := I4.out.res
          have HZ := Lib.hid I4.out.out
          clear I4
          go_wp2
          generalize World.setCell (World.setCell (World.setCell _ _ _) _ _) _ _ = W9 at *
          have z0 := HZ.out.1.val 0 rfl
          have z1 := HZ.out.1.val 1 rfl
          have z2 := HZ.out.1.val 2 rfl
          refine bodyPost_ret (v := .agg #[.int .i64 1, .int .i64 (unfI n), .int .i64 (0)]) (by simp [results, Try.results25, go_sem, z0, z1, z2]) rfl ⟨⟨(((1 : UInt8).toNat : Nat) : Int), unfI n, 0⟩, .error y, rfl, gets_ins HG.out.1 (by have := HH.out; omega) (argA_one HNn.out) (argB_no (by rw [HO.out]; decide)), trivial, HZ.out.2⟩
      · have hn1 : ((x.toNat : Int) == 1) = false := by simp; omega
        have HH := Lib.hid hneg
        have HC := Lib.hid (opsI_cases (x.toNat : Int))
        by_cases h2 : opsI (x.toNat : Int) = 2
        · have HO := Lib.hid h2
          rw [h2]
          clear h2 hneg
          go_upto_region 6 with fail
          clear c2
          have kI : InS t w B b w2.heap.size bs (x.toNat : Int) 0 0 _ (w2.alloc (.cells #[.int .i64 (x.toNat : Int), .int .i64 0, .int .i64 0] 41)) :=
            ⟨HS2.out.grew ((Below.refl _ _).alloc (Nat.le_refl _) _), K2.out.alloc _, Blk.new _ _ _, HT2.out.alloc _, hbl, by have := K2.out.lt; omega⟩
          have HI := Lib.hid kI
          clear kI K2 HT2 HS2
          go_upto_region 7 with fail
          generalize w2.alloc (.cells #[.int .i64 (x.toNat : Int), .int .i64 0, .int .i64 0] 41) = wi at *
          generalize w2.heap.size = bi at *
          obtain ⟨c2n, _⟩ := HI.out.rd.okC
          go_wp2_with fail
          refine (rnumber_any' t _ B b bs _ 2147483647 HI.out.rd (by decide)).mono ?_
          rintro e' w4n ⟨n, s4, rfl, hGn, h0n, hSn, hTn⟩
          have hnn := num_le hGn h0n
          have HNn := Lib.hid hGn
          have In := Lib.hid (HI.out.step hSn hTn)
          clear hGn h0n hSn hTn c2n
          obtain ⟨⟨y0, y1, y2⟩, f1, f2⟩ := In.out.cells
          go_upto_region 11 with fail
          have I4 := Lib.hid (In.out.seta ((n : Int)))
          clear In HI y0 y1 y2 f1 f2
          generalize w4n.setCell _ _ = w6n at *
          cases s4 with
          | ok p4 =>
            obtain ⟨c2m, _⟩ := I4.out.rd.okC
            go_wp2_with fail
            refine (rnumber_any' t _ B b bs _ 2147483647 I4.out.rd (by decide)).mono ?_
            rintro e' w4m ⟨m, s5, rfl, hGm, h0m, hSm, hTm⟩
            have hnm := num_le hGm h0m
            have HNm := Lib.hid hGm
            have Im := Lib.hid (I4.out.step hSm hTm)
            clear hGm h0m hSm hTm c2m
            obtain ⟨⟨y0, y1, y2⟩, f1, f2⟩ := Im.out.cells
            go_upto_region 13 with fail
            have I5 := Lib.hid (Im.out.setm ((m : Int)))
            clear Im I4 y0 y1 y2 f1 f2
            generalize w4m.setCell _ _ = w6m at *
            cases s5 with
            | ok p5 =>
              obtain ⟨c2e, _⟩ := I5.out.rd.okC
              obtain ⟨⟨y0, y1, y2⟩, _, _⟩ := I5.out.cells
              obtain ⟨⟨r0, r1, r2⟩, g0, g1, g2⟩ := I5.out.res
              have HZ := Lib.hid I5.out.out
              clear I5
              go_wp2
              generalize World.setCell (World.setCell (World.setCell _ _ _) _ _) _ _ = W9 at *
              have z0 := HZ.out.1.val 0 rfl
              have z1 := HZ.out.1.val 1 rfl
              have z2 := HZ.out.1.val 2 rfl
              refine bodyPost_ret (v := .agg #[.int .i64 (x.toNat : Int), .int .i64 ((n : Int)), .int .i64 ((m : Int))]) (by simp [results, Try.results25, go_sem, z0, z1, z2]) rfl ⟨⟨x.toNat, (n : Int), (m : Int)⟩, .ok p5, rfl, gets_ins HG.out.1 (by have := HH.out; omega) (argA_num hone (by rw [HO.out]; decide) HNn.out) (argB_num HO.out HNm.out), trivial, HZ.out.2⟩
            | error y =>
              obtain ⟨c2e, c2ea, c2eb, _⟩ := I5.out.rd.errC
              obtain ⟨⟨y0, y1, y2⟩, _, _⟩ := I5.out.cells
              obtain ⟨⟨r0, r1, r2⟩, g0, g1, g2⟩ := I5.out.res
              have HZ := Lib.hid I5.out.out
              clear I5
              go_wp2
              generalize World.setCell (World.setCell (World.setCell _ _ _) _ _) _ _ = W9 at *
              have z0 := HZ.out.1.val 0 rfl
              have z1 := HZ.out.1.val 1 rfl
              have z2 := HZ.out.1.val 2 rfl
              refine bodyPost_ret (v := .agg #[.int .i64 (x.toNat : Int), .int .i64 ((n : Int)), .int .i64 ((m : Int))]) (by simp [results, Try.results25, go_sem, z0, z1, z2]) rfl ⟨⟨x.toNat, (n : Int), (m : Int)⟩, .error y, rfl, gets_ins HG.out.1 (by have := HH.out; omega) (argA_num hone (by rw [HO.out]; decide) HNn.out) (argB_num HO.out HNm.out), trivial, HZ.out.2⟩
          | error y =>
            obtain ⟨c2e, c2ea, c2eb, _⟩ := I4.out.rd.errC
            obtain ⟨⟨y0, y1, y2⟩, _, _⟩ := I4.out.cells
            obtain ⟨⟨r0, r1, r2⟩, g0, g1, g2⟩ := I4.out.res
            have HZ := Lib.hid I4.out.out
            clear I4
            go_wp2
            generalize World.setCell (World.setCell (World.setCell _ _ _) _ _) _ _ = W9 at *
            have z0 := HZ.out.1.val 0 rfl
            have z1 := HZ.out.1.val 1 rfl
            have z2 := HZ.out.1.val 2 rfl
            refine bodyPost_ret (v := .agg #[.int .i64 (x.toNat : Int), .int .i64 ((n : Int)), .int .i64 (0)]) (by simp [results, Try.results25, go_sem, z0, z1, z2]) rfl ⟨⟨x.toNat, (n : Int), 0⟩, .error y, rfl, gets_ins HG.out.1 (by have := HH.out; omega) (argA_num hone (by rw [HO.out]; decide) HNn.out) (gets_err_any _ _ _), trivial, HZ.out.2⟩
        · by_cases h1 : opsI (x.toNat : Int) = 1
          · have HO := Lib.hid h1
            rw [h1]
            clear h1 h2 hneg
            go_upto_region 6 with fail
            clear c2
            have kI : InS t w B b w2.heap.size bs (x.toNat : Int) 0 0 _ (w2.alloc (.cells #[.int .i64 (x.toNat : Int), .int .i64 0, .int .i64 0] 41)) :=
              ⟨HS2.out.grew ((Below.refl _ _).alloc (Nat.le_refl _) _), K2.out.alloc _, Blk.new _ _ _, HT2.out.alloc _, hbl, by have := K2.out.lt; omega⟩
            have HI := Lib.hid kI
            clear kI K2 HT2 HS2
            go_upto_region 7 with fail
            generalize w2.alloc (.cells #[.int .i64 (x.toNat : Int), .int .i64 0, .int .i64 0] 41) = wi at *
            generalize w2.heap.size = bi at *
            obtain ⟨c2n, _⟩ := HI.out.rd.okC
            go_wp2_with fail
            refine (rnumber_any' t _ B b bs _ 2147483647 HI.out.rd (by decide)).mono ?_
            rintro e' w4n ⟨n, s4, rfl, hGn, h0n, hSn, hTn⟩
            have hnn := num_le hGn h0n
            have HNn := Lib.hid hGn
            have In := Lib.hid (HI.out.step hSn hTn)
            clear hGn h0n hSn hTn c2n
            obtain ⟨⟨y0, y1, y2⟩, f1, f2⟩ := In.out.cells
            go_upto_region 11 with fail
            have I4 := Lib.hid (In.out.seta ((n : Int)))
            clear In HI y0 y1 y2 f1 f2
            generalize w4n.setCell _ _ = w6n at *
            cases s4 with
            | ok p4 =>
              obtain ⟨c2e, _⟩ := I4.out.rd.okC
              obtain ⟨⟨y0, y1, y2⟩, _, _⟩ := I4.out.cells
              obtain ⟨⟨r0, r1, r2⟩, g0, g1, g2⟩ := I4.out.res
              have HZ := Lib.hid I4.out.out
              clear I4
              go_wp2
              generalize World.setCell (World.setCell (World.setCell _ _ _) _ _) _ _ = W9 at *
              have z0 := HZ.out.1.val 0 rfl
              have z1 := HZ.out.1.val 1 rfl
              have z2 := HZ.out.1.val 2 rfl
              refine bodyPost_ret (v := .agg #[.int .i64 (x.toNat : Int), .int .i64 ((n : Int)), .int .i64 (0)]) (by simp [results, Try.results25, go_sem, z0, z1, z2]) rfl ⟨⟨x.toNat, (n : Int), 0⟩, .ok p4, rfl, gets_ins HG.out.1 (by have := HH.out; omega) (argA_num hone (by rw [HO.out]; decide) HNn.out) (argB_no (by rw [HO.out]; decide)), trivial, HZ.out.2⟩
            | error y =>
              obtain ⟨c2e, c2ea, c2eb, _⟩ := I4.out.rd.errC
              obtain ⟨⟨y0, y1, y2⟩, _, _⟩ := I4.out.cells
              obtain ⟨⟨r0, r1, r2⟩, g0, g1, g2⟩ := I4.out.res
              have HZ := Lib.hid I4.out.out
              clear I4
              go_wp2
              generalize World.setCell (World.setCell (World.setCell _ _ _) _ _) _ _ = W9 at *
              have z0 := HZ.out.1.val 0 rfl
              have z1 := HZ.out.1.val 1 rfl
              have z2 := HZ.out.1.val 2 rfl
              refine bodyPost_ret (v := .agg #[.int .i64 (x.toNat : Int), .int .i64 ((n : Int)), .int .i64 (0)]) (by simp [results, Try.results25, go_sem, z0, z1, z2]) rfl ⟨⟨x.toNat, (n : Int), 0⟩, .error y, rfl, gets_ins HG.out.1 (by have := HH.out; omega) (argA_num hone (by rw [HO.out]; decide) HNn.out) (gets_err_any _ _ _), trivial, HZ.out.2⟩
          · have h0 : opsI (x.toNat : Int) = 0 := by rcases HC.out with h | h | h | h <;> omega
            have HO := Lib.hid h0
            rw [h0]
            clear h1 h2 hneg h0
            go_upto_region 6 with fail
            clear c2
            have kI : InS t w B b w2.heap.size bs (x.toNat : Int) 0 0 _ (w2.alloc (.cells #[.int .i64 (x.toNat : Int), .int .i64 0, .int .i64 0] 41)) :=
              ⟨HS2.out.grew ((Below.refl _ _).alloc (Nat.le_refl _) _), K2.out.alloc _, Blk.new _ _ _, HT2.out.alloc _, hbl, by have := K2.out.lt; omega⟩
            have HI := Lib.hid kI
            clear kI K2 HT2 HS2
            go_upto_region 7 with fail
            generalize w2.alloc (.cells #[.int .i64 (x.toNat : Int), .int .i64 0, .int .i64 0] 41) = wi at *
            generalize w2.heap.size = bi at *
            obtain ⟨c2e, _⟩ := HI.out.rd.okC
            obtain ⟨⟨y0, y1, y2⟩, _, _⟩ := HI.out.cells
            obtain ⟨⟨r0, r1, r2⟩, g0, g1, g2⟩ := HI.out.res
            have HZ := Lib.hid HI.out.out
            clear HI
            go_wp2
            generalize World.setCell (World.setCell (World.setCell _ _ _) _ _) _ _ = W9 at *
            have z0 := HZ.out.1.val 0 rfl
            have z1 := HZ.out.1.val 1 rfl
            have z2 := HZ.out.1.val 2 rfl
            refine bodyPost_ret (v := .agg #[.int .i64 (x.toNat : Int), .int .i64 (0), .int .i64 (0)]) (by simp [results, Try.results25, go_sem, z0, z1, z2]) rfl ⟨⟨x.toNat, 0, 0⟩, .ok p, rfl, gets_ins HG.out.1 (by have := HH.out; omega) (argA_no hone (by rw [HO.out]; decide)) (argB_no (by rw [HO.out]; decide)), trivial, HZ.out.2⟩
end Go.Proofs.Ytffelcidckbohaa
