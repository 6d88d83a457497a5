/- Texts of this seat, one behind the other: each says at its head what it holds. No condition of its own. -/
import Derived.Laws.DeepNot64
import Derived.Test.YtffelcidckbohaaGCodeBack07
/- code's reader: list, at instructions. Condition: what a call of the closure does is given. -/
namespace Go.Proofs.Ytffelcidckbohaa
open Go.RowKit
set_option linter.unusedVariables false
set_option maxRecDepth 100000 in
set_option maxHeartbeats 2000000 in
theorem list_ins (t : TypeId) (w : World) (B b : Nat) (bs : List UInt8) (st : St) (most : Nat) (h : RdS t w B b bs st) (hm : most ≤ 1000)
    (ST : Hid (∀ (W : World) (s : St), RdS t W B b bs s → Calls Try.prog 45 #[.pointer (some ⟨b, 0, none⟩)] W (ReadsV (fun x : InsD => Value.agg #[.int .i64 x.op, .int .i64 x.a, .int .i64 x.b]) (fun x => x) NoInn t B b bs (after s (insD bs)) W))) :
    Calls Try.prog 44 #[.pointer (some ⟨b, 0, none⟩), .int .i64 most, .func (.func 45) #[.pointer (some ⟨b, 0, none⟩)] #[]] w (ReadsL (OwnR 41 3 insC) (fun x => x) most t B b bs (after st (listD bs (insD bs) most)) w) := by
  obtain ⟨i0, hi, hz0, hz1, hz2⟩ := info_parts info_ins
  have Z := Lib.hid (And.intro hi (And.intro hz0 (And.intro hz1 hz2)))
  have hbl := h.lt
  have NU := Lib.hid (numr_any t w B b bs st most h (by omega))
  clear h hi hz0 hz1 hz2
  go_enter Try.func44, Try.ntmps44
  go_wp2_with fail
  refine NU.out.mono ?_
  rintro e' w1 ⟨n, st1, rfl, hG, h0, hS, hT⟩
  have hn := num_le hG h0
  have HG := Lib.hid hG
  have HS := Lib.hid hS
  have HT := Lib.hid hT
  clear hG h0 hS hT NU
  go_wp2_with fail
  go_loopw [7, 9] (fun v x wr => ∃ (i : Nat) (ls : List InsD) (s : St), x = .int .i64 i ∧ i ≤ n ∧ Hid (ls.length = i) ∧ OwnR 41 3 insC wr w.heap.size v ls ∧ Gets (after st1 (seqD (insD bs) i)) (ls.map fun x => x) s ∧ RdS t wr B b bs s ∧ RdT b w wr) (fun _ x _ => n - (intOf x).toNat)
  case atStart => exact ⟨0, [], st1, rfl, Nat.zero_le _, rfl, OwnR.nil _ _ _ _ _, gets_none _ _, HS.out, HT.out⟩
  case round =>
    obtain ⟨i, ls, s, rfl, hin, hil, hO, hGi, hSi, hTi⟩ := hrel
    obtain ⟨va, vc, rfl⟩ := row_shape hO
    have HGi := Lib.hid hGi
    have HTi := Lib.hid hTi
    have hsz := hTi.size
    clear hGi hTi
    by_cases hlt : i < n
    · have hlt' : (i : Int) < (n : Int) := by omega
      cases s with
      | error x =>
        obtain ⟨c2, _, c2', _⟩ := hSi.errC
        have HSi := Lib.hid hSi
        clear hSi
        go_wp2
        go_ret
        exact ⟨_, ls, .error x, rfl, gets_list HG.out (gets_late HGi.out hin), by have := hil.out; omega, hO, HSi.out, HTi.out⟩
      | ok p =>
        obtain ⟨c2, _⟩ := hSi.okC
        have NX := Lib.hid (ST.out wr _ hSi)
        clear hSi
        go_wp2_with fail
        refine NX.out.mono ?_
        rintro e' w2 ⟨a, s', rfl, hG2, _, hS2, hT2⟩
        have hO2 := hO.touch hT2 hbl
        have HG2 := Lib.hid hG2
        have HS2 := Lib.hid hS2
        have HT2 := Lib.hid (HTi.out.trans hT2)
        have hsz2 := hT2.size
        clear hG2 hS2 hT2 NX c2 hO
        go_wp2_with (at_builtin; refine wpList_append_own_at _ rfl _ _ 42 rfl w.heap.size 41 i0 _ 3 24 Try.underlying42 Z.out.1 Z.out.2.1 Z.out.2.2.1 Z.out.2.2.2 rfl (by decide) _ ls.length (ls.flatMap insC) rfl (own_grewG hO2 ((Below.refl _ _).alloc (Nat.le_refl _) _)) ⟨w2.heap.size, 0, none⟩ 1 1 (insC a) rfl rfl (World.news_of_block (Blk.new _ _ _)) (by simp [Value.oneCell', insC]) (by have := hil.out; unfold maxLen; omega) (by have := hil.out; omega) (by simp; omega) ?_; intro v' w3 hown' hgrow _ hat; obtain ⟨ga, gc, rfl⟩ := row_shape hown'; have HA := Lib.hid (list_kept HS2.out hbl hO2 hgrow HT2.out); clear hgrow hat)
        go_roundw
        case rel => exact ⟨i + 1, ls ++ [a], s', by go_num, by omega, by unfold Hid; rw [List.length_append, hil.out]; rfl, own_app hown', by rw [List.map_append]; exact gets_one HGi.out HG2.out, HA.out.1, HA.out.2⟩
        case measure => simp [intOf]; omega
    · have hlt' : ¬ (i : Int) < (n : Int) := by omega
      obtain rfl : i = n := by omega
      have HSi := Lib.hid hSi
      clear hSi
      go_wp2
      go_ret
      exact ⟨_, ls, s, rfl, gets_list HG.out HGi.out, by have := hil.out; omega, hO, HSi.out, HTi.out⟩
end Go.Proofs.Ytffelcidckbohaa
/- code's reader: names, types, fields, instructions. Condition: the reader is there. -/
namespace Go.Proofs.Ytffelcidckbohaa
open Go.RowKit
set_option linter.unusedVariables false
theorem conv_rowD {w : World} {B : Nat} {v : Value} {l : List UInt8} (h : w.ownsRow B 5 1 v l.length (u8L l)) : (convert 22 9 v).run Try.prog w = .ok (.string ⟨l.toArray⟩) w := by
  obtain ⟨a, c, rfl⟩ := row_shape h
  rcases Nat.eq_zero_or_pos l.length with h0 | h0
  · obtain rfl := List.eq_nil_of_length_eq_zero h0
    cases a with
    | none => exact run_convert_bytes_string w 22 9 5 none 0 c Try.underlying22 Try.underlying5 Try.underlying9
    | some ad => exact run_convert_bytes_back w 22 9 5 ad c [] Try.underlying22 Try.underlying5 Try.underlying9 (fun j hj => absurd hj (by simp))
  · obtain ⟨g, cap, e1, q1, q2, q3, q4, q5⟩ := own_cellG h h0
    injection e1 with e1 e2 e3
    subst e1 e3
    exact run_convert_bytes_back w 22 9 5 ⟨g, 0, none⟩ _ l Try.underlying22 Try.underlying5 Try.underlying9 (fun j hj => by
      rw [add_at, Nat.zero_add]
      exact q5 j _ (by simp [u8L, hj]))
section
variable {t : TypeId} {w : World} {B b : Nat} {bs : List UInt8} {st : St}
theorem RdS.atC (h : RdS t w B b bs st) : ∃ q : Nat, q ≤ 65536 ∧ w.cell? ⟨b, 1, none⟩ = some (.int .i64 (q : Int)) ∧ ∀ p, st = .ok p → q = p := by
  cases st with
  | ok p => exact ⟨p, h.okC.2.2, h.okC.2.1, fun _ e => by injection e⟩
  | error x => obtain ⟨_, _, _, q, h1, h2⟩ := h.errC; exact ⟨q, h1, h2, fun _ e => by cases e⟩
end
theorem flat_byt (l : List UInt8) : l.flatMap bytC = u8L l := by
  induction l with
  | nil => rfl
  | cons x l ih => rw [List.flatMap_cons, ih]; rfl
theorem map_id' {α : Type} (l : List α) : l.map (fun x => x) = l := by simp
theorem nextV (t : TypeId) (w : World) (B b : Nat) (bs : List UInt8) (st : St) (h : RdS t w B b bs st) :
    Calls Try.prog 37 #[.pointer (some ⟨b, 0, none⟩)] w (ReadsV (fun x : UInt8 => Value.int .u8 (x.toNat : Int)) (fun x => x) NoInn t B b bs (after st (nextD bs)) w) :=
  (next_any t w B b bs st h).mono fun e' w' ⟨x, s, h1, h2, h3, h4, h5⟩ => ⟨x, s, h1, h2, trivial, h4, h5⟩
set_option maxRecDepth 100000 in
set_option maxHeartbeats 2000000 in
theorem rdname_any (t : TypeId) (w : World) (B b : Nat) (bs : List UInt8) (st : St) (h : RdS t w B b bs st) :
    Calls Try.prog 39 #[.pointer (some ⟨b, 0, none⟩)] w (ReadsV (fun l : List UInt8 => Value.string (bytA l)) (fun x => x) NoInn t B b bs (after st (txtD bs)) w) := by
  have L := Lib.hid (list_byt t w B b bs st 16 h (by decide) (fun W s hs => nextV t W B b bs s hs))
  clear h
  go_enter Try.func39, Try.ntmps39
  go_wp2_with fail
  refine L.out.mono ?_
  rintro e' w1 ⟨v, l, s, rfl, hG, hl, hO, hS, hT⟩
  unfold OwnR at hO
  rw [flat_byt] at hO
  have HC := conv_rowD hO
  obtain ⟨va, vc, rfl⟩ := row_shape hO
  rw [map_id'] at hG
  have HH := Lib.hid (And.intro hG (And.intro hS hT))
  clear hG hS hT hO L
  go_wp2
  go_ret
  exact ⟨l, s, rfl, HH.out.1, trivial, HH.out.2⟩
theorem gets_kind_big {bs : List UInt8} {st s1 : St} {x : UInt8} {q : Nat} (hG : Gets (after st (nextD bs)) x s1) (h0 : ∀ y, s1 = .error y → x = 0) (hq : ∀ p, st = .ok p → q = p) (h2 : 2 < x.toNat) : Gets (after st (kindD bs)) (x.toNat : Int) (failS s1 (32, (q : Int))) := by
  rcases hG with ⟨p, h1, h3⟩ | ⟨e, h1, h3⟩
  · cases st with
    | error y => cases h1
    | ok p0 =>
      subst h3
      obtain rfl := hq _ rfl
      rw [after_ok] at h1
      exact .inr ⟨_, by rw [after_ok, kindD, h1, bindD_ok, if_pos h2], rfl⟩
  · rw [h0 _ h3] at h2
    exact absurd h2 (by decide)
theorem gets_kind_ok {bs : List UInt8} {st s1 : St} {x : UInt8} (hG : Gets (after st (nextD bs)) x s1) (h2 : ¬ 2 < x.toNat) : Gets (after st (kindD bs)) (x.toNat : Int) s1 := by
  rcases hG with ⟨p, h1, h3⟩ | ⟨e, h1, h3⟩
  · cases st with
    | error y => cases h1
    | ok p0 =>
      rw [after_ok] at h1
      exact .inl ⟨p, by rw [after_ok, kindD, h1, bindD_ok, if_neg h2], h3⟩
  · cases st with
    | error y => exact .inr ⟨e, by rw [after_err] at h1 ⊢; injection h1 with h1; rw [h1], h3⟩
    | ok p0 =>
      rw [after_ok] at h1
      exact .inr ⟨e, by rw [after_ok, kindD, h1, bindD_err], h3⟩
set_option maxRecDepth 100000 in
set_option maxHeartbeats 2000000 in
theorem rdkind_any (t : TypeId) (w : World) (B b : Nat) (bs : List UInt8) (st : St) (h : RdS t w B b bs st) :
    Calls Try.prog 43 #[.pointer (some ⟨b, 0, none⟩)] w (ReadsV (fun x : Int => Value.int .i64 x) (fun x => x) NoInn t B b bs (after st (kindD bs)) w) := by
  obtain ⟨q, hq6, c1, hq⟩ := h.atC
  have N := Lib.hid (next_any t w B b bs st h)
  have HQ := Lib.hid hq
  clear h hq
  go_enter Try.func43, Try.ntmps43
  go_wp2_with fail
  refine N.out.mono ?_
  rintro e' w1 ⟨x, s1, rfl, hG, h0, hS, hT⟩
  have hx := x.toNat_lt
  have HG := Lib.hid (And.intro hG h0)
  have HS := Lib.hid hS
  have HT := Lib.hid hT
  clear hG h0 hS hT N c1
  by_cases h2 : 2 < x.toNat
  · have h2' : (2 : Int) < (x.toNat : Int) := by omega
    go_wp2_with fail
    refine (HS.out.failed (q : Int) 32 (by decide)).mono ?_
    rintro e' w2 ⟨⟨u, rfl⟩, hS2, hT2⟩
    have H2 := Lib.hid (And.intro hS2 hT2)
    clear hS2 hT2
    go_wp2
    go_ret
    exact ⟨(x.toNat : Int), _, rfl, gets_kind_big HG.out.1 HG.out.2 HQ.out h2, trivial, H2.out.1, HT.out.trans H2.out.2⟩
  · have h2' : ¬ (2 : Int) < (x.toNat : Int) := by omega
    go_wp2
    go_ret
    exact ⟨(x.toNat : Int), _, rfl, gets_kind_ok HG.out.1 h2, trivial, HS.out, HT.out⟩
theorem gets_fld {bs : List UInt8} {st s1 s2 : St} {l : List UInt8} {x : Int} (h1 : Gets (after st (txtD bs)) l s1) (h2 : Gets (after s1 (kindD bs)) x s2) : Gets (after st (fldD bs)) (FldD.mk (bytA l) x) s2 := by
  have e : after st (fldD bs) = bindD (after st (txtD bs)) fun l q => bindD (kindD bs q) fun t r => .ok (⟨bytA l, t⟩, r) := after_bind st _ _
  rw [e]
  refine h1.bind ?_
  rw [after_bind]
  exact h2.map fun t => FldD.mk (bytA l) t
set_option maxRecDepth 100000 in
set_option maxHeartbeats 2000000 in
theorem rdfield_any (t : TypeId) (w : World) (B b : Nat) (bs : List UInt8) (st : St) (h : RdS t w B b bs st) :
    Calls Try.prog 41 #[.pointer (some ⟨b, 0, none⟩)] w (ReadsV (fun x : FldD => Value.agg #[.string x.name, .int .i64 x.ty]) (fun x => x) NoInn t B b bs (after st (fldD bs)) w) := by
  have hb0 := (Below.refl w.heap.size w).alloc (Nat.le_refl _) (.cells #[.string ⟨#[]⟩, .int .i64 0] 66)
  have hbl := h.lt
  have N := Lib.hid (rdname_any t _ B b bs st (h.grew hb0))
  have k0 := Lib.hid (Blk.new w #[.string ⟨#[]⟩, .int .i64 0] 66)
  have HB0 := Lib.hid hb0
  clear h hb0
  go_enter Try.func41, Try.ntmps41
  go_wp2_with fail
  refine N.out.mono ?_
  rintro e' w1 ⟨l, s1, rfl, hG1, _, hS1, hT1⟩
  have k1 := Lib.hid (k0.out.touch hT1 (by omega))
  have K := Lib.hid (rdkind_any t w1 B b bs s1 hS1)
  have HG1 := Lib.hid hG1
  have HT1 := Lib.hid (Touch.trans (Touch.of HB0.out) hT1)
  clear hG1 hS1 hT1 N k0 HB0
  go_wp2_with fail
  refine K.out.mono ?_
  rintro e' w2 ⟨x, s2, rfl, hG2, _, hS2, hT2⟩
  have k2 := k1.out.touch hT2 (by omega)
  have y0 := k2.val 0 rfl
  have y1 := k2.val 1 rfl
  have f0 := k2.frozen 0
  have f1 := k2.frozen 1
  have hsz := HT1.out.size
  have hT3 := ((Touch.refl (fun y => w.heap.size ≤ y) w2).setCell (p := ⟨w.heap.size, 0, none⟩) (Nat.le_refl _) (.string (bytA l))).setCell (p := ⟨w.heap.size, 1, none⟩) (Nat.le_refl _) (.int .i64 x)
  have HZ := Lib.hid ((k2.set 0 (.string (bytA l))).set 1 (.int .i64 x))
  have HE := Lib.hid (And.intro (gets_fld HG1.out hG2) (new_kept hS2 hbl (HT1.out.trans hT2) hT3))
  clear hG2 hS2 hT2 K k1 k2 HG1 HT1 hT3
  go_wp2
  generalize World.setCell (World.setCell _ _ _) _ _ = W9 at *
  have z0 := HZ.out.val 0 rfl
  have z1 := HZ.out.val 1 rfl
  refine bodyPost_ret (v := .agg #[.string (bytA l), .int .i64 x]) (by simp [results, Try.results41, go_sem, z0, z1]) rfl ⟨⟨bytA l, x⟩, s2, rfl, HE.out.1, trivial, HE.out.2⟩
end Go.Proofs.Ytffelcidckbohaa
/- code's reader: an instruction. Condition: the reader is there. -/
namespace Go.Proofs.Ytffelcidckbohaa
open Go.RowKit
set_option linter.unusedVariables false
set_option maxHeartbeats 1000000 in
theorem unfold_any (n : Nat) (w : World) (hn : n < 18446744073709551616) : Calls Try.prog 62 #[.int .u64 n] w fun e w' => e = .returned (.int .i64 (unfI n)) ∧ w = w' := by
  have e1 : bits .and .u64 (n : Int) 1 = ((n % 2 : Nat) : Int) := by
    rw [show (1 : Int) = ((1 : Nat) : Int) from rfl, bits_and_u64_nat _ _ hn (by decide), Nat.and_one_is_mod]
  have HX : Hid (bits .xor .i64 (-1) ((n / 2 : Nat) : Int) = -1 - ((n / 2 : Nat) : Int)) := i64_not _ (by omega)
  have E1 := Lib.hid e1
  by_cases h : n % 2 = 1
  · have HU : Hid (-1 - ((n / 2 : Nat) : Int) = unfI n) := by unfold Hid unfI; rw [if_pos h]; omega
    have hc : (bits .and .u64 (n : Int) 1 == 1) = true := by rw [e1, h]; rfl
    clear e1
    go_enter Try.func62, Try.ntmps62
    go_wp2
    go_ret
    refine ⟨ret_int ?_, rfl⟩
    rw [← HU.out, ← HX.out]
    congr 1
  · have HU : Hid (((n / 2 : Nat) : Int) = unfI n) := by unfold Hid unfI; rw [if_neg h]
    have hc : (bits .and .u64 (n : Int) 1 == 1) = false := by rw [e1]; simp; omega
    clear e1
    go_enter Try.func62, Try.ntmps62
    go_wp2
    go_ret
    refine ⟨ret_int ?_, rfl⟩
    rw [← HU.out]
    omega
theorem gets_pure {α : Type} (s : St) (a : α) : Gets (after s (fun q => (.ok (a, q) : Rd α))) a s := by
  cases s with
  | ok q => exact .inl ⟨q, rfl, rfl⟩
  | error x => exact .inr ⟨x, rfl, rfl⟩
theorem gets_ins {bs : List UInt8} {st s1 s2 s3 : St} {x : UInt8} {a m : Int} (h1 : Gets (after st (nextD bs)) x s1) (hx : ¬ opsI (x.toNat : Int) < 0) (h2 : Gets (after s1 (argA bs x.toNat)) a s2) (h3 : Gets (after s2 (argB bs x.toNat)) m s3) : Gets (after st (insD bs)) (InsD.mk x.toNat a m) s3 := by
  have e : after st (insD bs) = bindD (after st (nextD bs)) fun b q => if opsI (b.toNat : Int) < 0 then .error (30, 0) else bindD (argA bs b.toNat q) fun a r => bindD (argB bs b.toNat r) fun m s => .ok (⟨b.toNat, a, m⟩, s) := by
    cases st with
    | error y => rfl
    | ok p =>
      rw [after_ok, after_ok, insD]
      rcases h1 with ⟨q, h1, _⟩ | ⟨y, h1, _⟩
      · rw [after_ok] at h1
        rw [h1, bindD_ok, bindD_ok, if_neg hx, if_neg hx]
      · rw [after_ok] at h1
        rw [h1]; rfl
  rw [e]
  refine h1.bind ?_
  have e2 : after s1 (fun q => if opsI (x.toNat : Int) < 0 then (.error (30, 0) : Rd InsD) else bindD (argA bs x.toNat q) fun a r => bindD (argB bs x.toNat r) fun m s => .ok (⟨x.toNat, a, m⟩, s)) = bindD (after s1 (argA bs x.toNat)) fun a r => bindD (argB bs x.toNat r) fun m s => .ok (⟨x.toNat, a, m⟩, s) := by
    cases s1 with
    | error y => rfl
    | ok p => rw [after_ok, if_neg hx]; rfl
  rw [e2]
  refine h2.bind ?_
  rw [after_bind]
  exact h3.map fun m => InsD.mk x.toNat a m
theorem gets_ins_bad {bs : List UInt8} {st s1 : St} {x : UInt8} {q : Nat} (h1 : Gets (after st (nextD bs)) x s1) (hq : ∀ p, st = .ok p → q = p) (hx : opsI (x.toNat : Int) < 0) (a m : Int) : Gets (after st (insD bs)) (InsD.mk x.toNat a m) (failS s1 (30, (q : Int))) := by
  rcases h1 with ⟨p, h1, h3⟩ | ⟨e, h1, h3⟩
  · cases st with
    | error y => cases h1
    | ok p0 =>
      subst h3
      obtain rfl := hq _ rfl
      rw [after_ok] at h1
      exact .inr ⟨_, by rw [after_ok, insD, h1, bindD_ok, if_pos hx], rfl⟩
  · subst h3
    cases st with
    | error y => exact .inr ⟨e, by rw [after_err] at h1 ⊢; injection h1 with h1; rw [h1], rfl⟩
    | ok p0 =>
      rw [after_ok] at h1
      exact .inr ⟨e, by rw [after_ok, insD, h1, bindD_err], rfl⟩
theorem argA_one {bs : List UInt8} {s s' : St} {n : Nat} (h : Gets (after s (numD bs 18446744073709551615)) n s') : Gets (after s (argA bs 1)) (unfI n) s' := by
  have e : argA bs 1 = fun q => bindD (numD bs 18446744073709551615 q) fun n r => .ok (unfI n, r) := by funext q; rw [argA, if_pos rfl]
  rw [e, after_bind]
  exact h.map unfI
theorem argA_num {bs : List UInt8} {s s' : St} {n x : Nat} (hx : x ≠ 1) (ho : 1 ≤ opsI (x : Int)) (h : Gets (after s (numD bs 2147483647)) n s') : Gets (after s (argA bs x)) (n : Int) s' := by
  have e : argA bs x = fun q => bindD (numD bs 2147483647 q) fun n r => .ok ((n : Int), r) := by funext q; rw [argA, if_neg hx, if_pos ho]
  rw [e, after_bind]
  exact h.map fun n => (n : Int)
theorem argA_no {bs : List UInt8} {s : St} {x : Nat} (hx : x ≠ 1) (ho : ¬ 1 ≤ opsI (x : Int)) : Gets (after s (argA bs x)) 0 s := by
  have e : argA bs x = fun q => .ok (0, q) := by funext q; rw [argA, if_neg hx, if_neg ho]
  rw [e]
  exact gets_pure s 0
theorem argB_num {bs : List UInt8} {s s' : St} {n x : Nat} (ho : opsI (x : Int) = 2) (h : Gets (after s (numD bs 2147483647)) n s') : Gets (after s (argB bs x)) (n : Int) s' := by
  have e : argB bs x = fun q => bindD (numD bs 2147483647 q) fun n r => .ok ((n : Int), r) := by funext q; rw [argB, if_pos ho]
  rw [e, after_bind]
  exact h.map fun n => (n : Int)
theorem argB_no {bs : List UInt8} {s : St} {x : Nat} (ho : ¬ opsI (x : Int) = 2) : Gets (after s (argB bs x)) 0 s := by
  have e : argB bs x = fun q => .ok (0, q) := by funext q; rw [argB, if_neg ho]
  rw [e]
  exact gets_pure s 0
/-- the reader, the result's block and the instruction's, between two calls -/
structure InS (t : TypeId) (w : World) (B b bi : Nat) (bs : List UInt8) (x a m : Int) (s : St) (W : World) : Prop where
  rd : RdS t W B b bs s
  k0 : Blk W w.heap.size #[.int .i64 0, .int .i64 0, .int .i64 0] 41
  ki : Blk W bi #[.int .i64 x, .int .i64 a, .int .i64 m] 41
  tb : RdT b w W
  bl : b < w.heap.size
  il : w.heap.size < bi
section
variable {t : TypeId} {w W W' : World} {B b bi : Nat} {bs : List UInt8} {x a m : Int} {s s' : St}
theorem InS.step (h : InS t w B b bi bs x a m s W) (hS : RdS t W' B b bs s') (hT : RdT b W W') : InS t w B b bi bs x a m s' W' :=
  ⟨hS, h.k0.touch hT (fun e => by have := h.bl; omega), h.ki.touch hT (fun e => by have := h.bl; have := h.il; omega), h.tb.trans hT, h.bl, h.il⟩
theorem InS.seta (h : InS t w B b bi bs x a m s W) (v : Int) : InS t w B b bi bs x v m s (W.setCell ⟨bi, 1, none⟩ (.int .i64 v)) := by
  have hT := (Touch.refl (fun y => y = bi) W).setCell (p := ⟨bi, 1, none⟩) rfl (.int .i64 v)
  obtain ⟨h1, h2⟩ := new_kept h.rd h.bl h.tb (hT.mono fun y _ e => by have := h.il; omega)
  exact ⟨h1, h.k0.touch hT (fun e => by have := h.il; omega), h.ki.set 1 _, h2, h.bl, h.il⟩
theorem InS.setm (h : InS t w B b bi bs x a m s W) (v : Int) : InS t w B b bi bs x a v s (W.setCell ⟨bi, 2, none⟩ (.int .i64 v)) := by
  have hT := (Touch.refl (fun y => y = bi) W).setCell (p := ⟨bi, 2, none⟩) rfl (.int .i64 v)
  obtain ⟨h1, h2⟩ := new_kept h.rd h.bl h.tb (hT.mono fun y _ e => by have := h.il; omega)
  exact ⟨h1, h.k0.touch hT (fun e => by have := h.il; omega), h.ki.set 2 _, h2, h.bl, h.il⟩
theorem InS.cells (h : InS t w B b bi bs x a m s W) : (W.cell? ⟨bi, 0, none⟩ = some (.int .i64 x) ∧ W.cell? ⟨bi, 1, none⟩ = some (.int .i64 a) ∧ W.cell? ⟨bi, 2, none⟩ = some (.int .i64 m)) ∧ W.frozen? ⟨bi, 1, none⟩ = false ∧ W.frozen? ⟨bi, 2, none⟩ = false :=
  ⟨⟨h.ki.val 0 rfl, h.ki.val 1 rfl, h.ki.val 2 rfl⟩, h.ki.frozen 1, h.ki.frozen 2⟩
theorem InS.res (h : InS t w B b bi bs x a m s W) : (W.cell? ⟨w.heap.size, 0, none⟩ = some (.int .i64 0) ∧ W.cell? ⟨w.heap.size, 1, none⟩ = some (.int .i64 0) ∧ W.cell? ⟨w.heap.size, 2, none⟩ = some (.int .i64 0)) ∧ W.frozen? ⟨w.heap.size, 0, none⟩ = false ∧ W.frozen? ⟨w.heap.size, 1, none⟩ = false ∧ W.frozen? ⟨w.heap.size, 2, none⟩ = false :=
  ⟨⟨h.k0.val 0 rfl, h.k0.val 1 rfl, h.k0.val 2 rfl⟩, h.k0.frozen 0, h.k0.frozen 1, h.k0.frozen 2⟩
theorem InS.out (h : InS t w B b bi bs x a m s W) : Blk (((W.setCell ⟨w.heap.size, 0, none⟩ (.int .i64 x)).setCell ⟨w.heap.size, 1, none⟩ (.int .i64 a)).setCell ⟨w.heap.size, 2, none⟩ (.int .i64 m)) w.heap.size #[.int .i64 x, .int .i64 a, .int .i64 m] 41 ∧
    RdS t (((W.setCell ⟨w.heap.size, 0, none⟩ (.int .i64 x)).setCell ⟨w.heap.size, 1, none⟩ (.int .i64 a)).setCell ⟨w.heap.size, 2, none⟩ (.int .i64 m)) B b bs s ∧ RdT b w (((W.setCell ⟨w.heap.size, 0, none⟩ (.int .i64 x)).setCell ⟨w.heap.size, 1, none⟩ (.int .i64 a)).setCell ⟨w.heap.size, 2, none⟩ (.int .i64 m)) :=
  ⟨((h.k0.set 0 _).set 1 _).set 2 _, new_kept h.rd h.bl h.tb ((((Touch.refl (fun y => w.heap.size ≤ y) W).setCell (p := ⟨w.heap.size, 0, none⟩) (Nat.le_refl _) _).setCell (p := ⟨w.heap.size, 1, none⟩) (Nat.le_refl _) _).setCell (p := ⟨w.heap.size, 2, none⟩) (Nat.le_refl _) _)⟩
end
set_option maxRecDepth 100000 in
set_option maxHeartbeats 4000000 in
theorem rdins_any (t : TypeId) (w : World) (B b : Nat) (bs : List UInt8) (st : St) (h : RdS t w B b bs st) :
    Calls Try.prog 45 #[.pointer (some ⟨b, 0, none⟩)] w (ReadsV (fun x : InsD => Value.agg #[.int .i64 x.op, .int .i64 x.a, .int .i64 x.b]) (fun x => x) NoInn t B b bs (after st (insD bs)) w) := by
  have hb0 := (Below.refl w.heap.size w).alloc (Nat.le_refl _) (.cells #[.int .i64 0, .int .i64 0, .int .i64 0] 41)
  have hbl := h.lt
  obtain ⟨q, hq6, c1, hq⟩ := (h.grew hb0).atC
  have N := Lib.hid (next_any t _ B b bs st (h.grew hb0))
  have k0 := Lib.hid (Blk.new w #[.int .i64 0, .int .i64 0, .int .i64 0] 41)
  have HB0 := Lib.hid hb0
  have HQ := Lib.hid hq
  clear h hb0 hq
  go_enter Try.func45, Try.ntmps45
  go_wp2_with fail
  refine N.out.mono ?_
  rintro e' w1 ⟨x, s1, rfl, hG, h0, hS, hT⟩
  have hx := x.toNat_lt
  have hT1 := Touch.trans (Touch.of HB0.out) hT
  have kI : InS t w B b w1.heap.size bs (x.toNat : Int) 0 0 s1 (w1.alloc (.cells #[.int .i64 (x.toNat : Int), .int .i64 0, .int .i64 0] 41)) :=
    ⟨hS.grew ((Below.refl _ _).alloc (Nat.le_refl _) _), (k0.out.touch hT (by omega)).alloc _, Blk.new _ _ _, hT1.alloc _, hbl, by have := (k0.out.touch hT (by omega)).lt; omega⟩
  have HG := Lib.hid (And.intro hG h0)
  clear hG h0 hS hT hT1 N k0 HB0 c1
  obtain ⟨⟨y0, y1, y2⟩, f1, f2⟩ := kI.cells
  go_wp2_with fail
  have HI := Lib.hid kI
  clear kI
  generalize w1.alloc (.cells #[.int .i64 (x.toNat : Int), .int .i64 0, .int .i64 0] 41) = w2 at *
  generalize w1.heap.size = bi at *
  refine (operands_any _ _).mono ?_
  rintro e' w3 ⟨rfl, rfl⟩
  by_cases hneg : opsI (x.toNat : Int) < 0
  · have HF := Lib.hid (gets_ins_bad HG.out.1 HQ.out hneg 0 0)
    have hn1 : ((x.toNat : Int) == 1) = false := by
      have : ¬ x.toNat = 1 := fun e => by rw [e] at hneg; exact absurd hneg (by decide)
      simp; omega
    generalize opsI (x.toNat : Int) = op at *
    have ho1 : ¬ (1 : Int) ≤ op := by omega
    have ho2 : (op == 2) = false := by simp; omega
    go_wp2_with fail
    refine (HI.out.rd.failed (q : Int) 30 (by decide)).mono ?_
    rintro e' w4 ⟨⟨u, rfl⟩, hS4, hT4⟩
    have I4 := Lib.hid (HI.out.step hS4 hT4)
    clear hS4 hT4 HI y0 y1 y2 f1 f2
    obtain ⟨⟨y0, y1, y2⟩, _, _⟩ := I4.out.cells
    obtain ⟨⟨r0, r1, r2⟩, g0, g1, g2⟩ := I4.out.res
    have HZ := Lib.hid I4.out.out
    clear I4
    go_wp2
    generalize World.setCell (World.setCell (World.setCell _ _ _) _ _) _ _ = W9 at *
    have z0 := HZ.out.1.val 0 rfl
    have z1 := HZ.out.1.val 1 rfl
    have z2 := HZ.out.1.val 2 rfl
    refine bodyPost_ret (v := .agg #[.int .i64 (x.toNat : Int), .int .i64 (0), .int .i64 (0)]) (by simp [results, Try.results45, go_sem, z0, z1, z2]) rfl ⟨⟨x.toNat, 0, 0⟩, _, rfl, HF.out, trivial, HZ.out.2⟩
  · by_cases hone : x.toNat = 1
    · have hx1 : x = 1 := by rw [← UInt8.toNat_inj]; exact hone
      subst hx1
      have ho : opsI (((1 : UInt8).toNat : Nat) : Int) = 1 := by decide
      have HO := Lib.hid ho
      have HH := Lib.hid hneg
      have HI : Hid (InS t w B b bi bs 1 0 0 s1 w2) := HI
      have y0 : w2.cell? ⟨bi, 0, none⟩ = some (.int .i64 1) := y0
      rw [ho]
      clear hneg ho hone hx
      go_wp2_with fail
      refine (numr_any t _ B b bs _ 18446744073709551615 HI.out.rd (by decide)).mono ?_
      rintro e' w4n ⟨n, s4, rfl, hGn, h0n, hSn, hTn⟩
      have hnn := num_le hGn h0n
      have HNn := Lib.hid hGn
      have In := Lib.hid (HI.out.step hSn hTn)
      clear hGn h0n hSn hTn
      obtain ⟨⟨y0, y1, y2⟩, f1, f2⟩ := In.out.cells
      go_wp2_with fail
      refine (unfold_any n _ (by omega)).mono ?_
      rintro e' w5n ⟨rfl, rfl⟩
      have I4 := Lib.hid (In.out.seta (unfI n))
      clear In HI
      obtain ⟨⟨y0, y1, y2⟩, _, _⟩ := I4.out.cells
      obtain ⟨⟨r0, r1, r2⟩, g0, g1, g2⟩ := I4.out.res
      have HZ := Lib.hid I4.out.out
      clear I4
      go_wp2
      generalize World.setCell (World.setCell (World.setCell _ _ _) _ _) _ _ = W9 at *
      have z0 := HZ.out.1.val 0 rfl
      have z1 := HZ.out.1.val 1 rfl
      have z2 := HZ.out.1.val 2 rfl
      refine bodyPost_ret (v := .agg #[.int .i64 1, .int .i64 (unfI n), .int .i64 (0)]) (by simp [results, Try.results45, go_sem, z0, z1, z2]) rfl ⟨⟨(((1 : UInt8).toNat : Nat) : Int), unfI n, 0⟩, s4, rfl, gets_ins HG.out.1 (by have := HH.out; omega) (argA_one HNn.out) (argB_no (by rw [HO.out]; decide)), trivial, HZ.out.2⟩
    · have hn1 : ((x.toNat : Int) == 1) = false := by simp; omega
      have HH := Lib.hid hneg
      have HC := Lib.hid (opsI_cases (x.toNat : Int))
      by_cases h2 : opsI (x.toNat : Int) = 2
      · have HO := Lib.hid h2
        rw [h2]
        clear h2 hneg
        go_wp2_with fail
        refine (numr_any t _ B b bs _ 2147483647 HI.out.rd (by decide)).mono ?_
        rintro e' w4n ⟨n, s4, rfl, hGn, h0n, hSn, hTn⟩
        have hnn := num_le hGn h0n
        have HNn := Lib.hid hGn
        have In := Lib.hid (HI.out.step hSn hTn)
        clear hGn h0n hSn hTn
        obtain ⟨⟨y0, y1, y2⟩, f1, f2⟩ := In.out.cells
        have I4 := Lib.hid (In.out.seta ((n : Int)))
        clear In HI
        go_wp2_with fail
        refine (numr_any t _ B b bs _ 2147483647 I4.out.rd (by decide)).mono ?_
        rintro e' w4m ⟨m, s5, rfl, hGm, h0m, hSm, hTm⟩
        have hnm := num_le hGm h0m
        have HNm := Lib.hid hGm
        have Im := Lib.hid (I4.out.step hSm hTm)
        clear hGm h0m hSm hTm
        obtain ⟨⟨y0, y1, y2⟩, f1, f2⟩ := Im.out.cells
        have I5 := Lib.hid (Im.out.setm ((m : Int)))
        clear Im I4
        obtain ⟨⟨y0, y1, y2⟩, _, _⟩ := I5.out.cells
        obtain ⟨⟨r0, r1, r2⟩, g0, g1, g2⟩ := I5.out.res
        have HZ := Lib.hid I5.out.out
        clear I5
        go_wp2
        generalize World.setCell (World.setCell (World.setCell _ _ _) _ _) _ _ = W9 at *
        have z0 := HZ.out.1.val 0 rfl
        have z1 := HZ.out.1.val 1 rfl
        have z2 := HZ.out.1.val 2 rfl
        refine bodyPost_ret (v := .agg #[.int .i64 (x.toNat : Int), .int .i64 ((n : Int)), .int .i64 ((m : Int))]) (by simp [results, Try.results45, go_sem, z0, z1, z2]) rfl ⟨⟨x.toNat, (n : Int), (m : Int)⟩, s5, rfl, gets_ins HG.out.1 (by have := HH.out; omega) (argA_num hone (by rw [HO.out]; decide) HNn.out) (argB_num HO.out HNm.out), trivial, HZ.out.2⟩
      · by_cases h1 : opsI (x.toNat : Int) = 1
        · have HO := Lib.hid h1
          rw [h1]
          clear h1 h2 hneg
          go_wp2_with fail
          refine (numr_any t _ B b bs _ 2147483647 HI.out.rd (by decide)).mono ?_
          rintro e' w4n ⟨n, s4, rfl, hGn, h0n, hSn, hTn⟩
          have hnn := num_le hGn h0n
          have HNn := Lib.hid hGn
          have In := Lib.hid (HI.out.step hSn hTn)
          clear hGn h0n hSn hTn
          obtain ⟨⟨y0, y1, y2⟩, f1, f2⟩ := In.out.cells
          have I4 := Lib.hid (In.out.seta ((n : Int)))
          clear In HI
          obtain ⟨⟨y0, y1, y2⟩, _, _⟩ := I4.out.cells
          obtain ⟨⟨r0, r1, r2⟩, g0, g1, g2⟩ := I4.out.res
          have HZ := Lib.hid I4.out.out
          clear I4
          go_wp2
          generalize World.setCell (World.setCell (World.setCell _ _ _) _ _) _ _ = W9 at *
          have z0 := HZ.out.1.val 0 rfl
          have z1 := HZ.out.1.val 1 rfl
          have z2 := HZ.out.1.val 2 rfl
          refine bodyPost_ret (v := .agg #[.int .i64 (x.toNat : Int), .int .i64 ((n : Int)), .int .i64 (0)]) (by simp [results, Try.results45, go_sem, z0, z1, z2]) rfl ⟨⟨x.toNat, (n : Int), 0⟩, s4, rfl, gets_ins HG.out.1 (by have := HH.out; omega) (argA_num hone (by rw [HO.out]; decide) HNn.out) (argB_no (by rw [HO.out]; decide)), trivial, HZ.out.2⟩
        · have h0 : opsI (x.toNat : Int) = 0 := by rcases HC.out with h | h | h | h <;> omega
          have HO := Lib.hid h0
          rw [h0]
          clear h1 h2 hneg h0
          obtain ⟨⟨y0, y1, y2⟩, _, _⟩ := HI.out.cells
          obtain ⟨⟨r0, r1, r2⟩, g0, g1, g2⟩ := HI.out.res
          have HZ := Lib.hid HI.out.out
          clear HI
          go_wp2
          generalize World.setCell (World.setCell (World.setCell _ _ _) _ _) _ _ = W9 at *
          have z0 := HZ.out.1.val 0 rfl
          have z1 := HZ.out.1.val 1 rfl
          have z2 := HZ.out.1.val 2 rfl
          refine bodyPost_ret (v := .agg #[.int .i64 (x.toNat : Int), .int .i64 (0), .int .i64 (0)]) (by simp [results, Try.results45, go_sem, z0, z1, z2]) rfl ⟨⟨x.toNat, 0, 0⟩, s1, rfl, gets_ins HG.out.1 (by have := HH.out; omega) (argA_no hone (by rw [HO.out]; decide)) (argB_no (by rw [HO.out]; decide)), trivial, HZ.out.2⟩
end Go.Proofs.Ytffelcidckbohaa
/- copyClass: a class of one's own. Condition: the class is there, its texts are not too long. -/
namespace Go.Proofs.Ytffelcidckbohaa
open Go.RowKit
set_option linter.unusedVariables false
end Go.Proofs.Ytffelcidckbohaa
/- copyFunc: a function of one's own. Condition: the function is there, its name is not too long. -/
namespace Go.Proofs.Ytffelcidckbohaa
open Go.RowKit
set_option linter.unusedVariables false
theorem Touch.cellC {R : Nat → Prop} {w w' : World} (h : Touch R w w') {a : Addr} (hl : a.block < w.heap.size) (hr : ¬ R a.block) : w'.cell? a = w.cell? a := by
  unfold World.cell?
  rw [h.block a.block hl hr]
theorem step_app_nil {ops : Array Oper} {o : Oper} {a : Act} {w : World} {K : Act → World → Prop} {Q : Exit → Act → World → Prop} {E : Prop} {t : TypeId} {vin : Value} {R : Value → World → Prop} (hgd : o.guard = none) (s x : Operand)
    (ho : o.op = .call { callee := .builtin .append, args := #[s, x], argTypes := #[t, t] }) (hs : a.eval s = .slice none 0 0) (hx : a.eval x = vin)
    (hr : ∃ v' w', (Builtin.append_ #[t, t] o.type #[.slice none 0 0, vin]).run Try.prog w = .ok v' w' ∧ R v' w')
    (h : ∀ v' w', R v' w' → K (a.put o.dst v') w') : if Region.wanted o (yielded ops a.tmps) = true then Oper.wp Try.prog o a w K Q else E := by
  have hw : Region.wanted o (yielded ops a.tmps) = true := by simp [Region.wanted, hgd]
  rw [if_pos hw]
  obtain ⟨v', w', h1, h2⟩ := hr
  unfold Oper.wp execOp
  simp only [ho, resolve, invoke, builtin, Sem.run_bind, Sem.run_pure, Result.andThen_ok, List.map_toArray, List.map_cons, List.map_nil, hs, hx, h1]
  exact h v' w' h2
theorem elI_at {w : World} (b k : Nat) (x : Int) (h : ElI w b k x) : ∀ j u, (intC x)[j]? = some u → w.cell? ⟨b, k + j, none⟩ = some u := by
  intro j u hu
  match j with
  | 0 => simp [intC] at hu; subst hu; exact h.1
  | j + 1 => simp [intC] at hu
theorem elN_at {w : World} (b k : Nat) (x : InsD) (h : ElN w b k x) : ∀ j u, (insC x)[j]? = some u → w.cell? ⟨b, k + j, none⟩ = some u := by
  intro j u hu
  match j with
  | 0 => simp [insC] at hu; subst hu; exact h.1
  | 1 => simp [insC] at hu; subst hu; exact h.2.1
  | 2 => simp [insC] at hu; subst hu; exact h.2.2.1
  | j + 3 => simp [insC] at hu
end Go.Proofs.Ytffelcidckbohaa
/- slices.Equal at numbers, fields and instructions. No condition. -/
namespace Go.Proofs.Ytffelcidckbohaa
open Go.RowKit
set_option linter.unusedVariables false
set_option maxRecDepth 100000 in
set_option maxHeartbeats 4000000 in
theorem eqints_any (w : World) (B : Nat) (v1 v2 : Value) (l1 l2 : List Int) (h1 : RdRow 1 ElI B w v1 l1) (h2 : RdRow 1 ElI B w v2 l2) :
    Calls Try.prog 58 #[v1, v2] w fun e w' => e = .returned (.bool (decide (l1 = l2))) ∧ Quiet w w' := by
  have h1' := h1
  have h2' := h2
  obtain ⟨a1, c1, rfl⟩ := rd_shape h1'
  obtain ⟨a2, c2, rfl⟩ := rd_shape h2'
  have M1 : l1.length ≤ maxLen := by obtain ⟨_, _, _, h, _⟩ := h1; exact h
  unfold maxLen at M1
  have R1 := Lib.hid (fun i (hi : i < l1.length) => rd_at h1 hi)
  have R2 := Lib.hid (fun i (hi : i < l2.length) => rd_at h2 hi)
  clear h1 h2 h1' h2'
  by_cases hn : l1.length = l2.length
  · have hne : ((l1.length : Int) != (l2.length : Int)) = false := by simp [hn]
    have HNN := Lib.hid hn
    clear hn
    go_enter Try.func58, Try.ntmps58
    go_wp2
    go_loopw [13] (fun i wr => ∃ k : Nat, k ≤ l1.length ∧ i = .int .i64 k ∧ Quiet w wr ∧ ∀ j, (j1 : j < l1.length) → (j2 : j < l2.length) → j < k → l1[j] = l2[j]) (fun i _ => l1.length - (intOf i).toNat)
    case atStart => exact ⟨0, Nat.zero_le _, rfl, Quiet.refl _, fun j _ _ h => absurd h (by omega)⟩
    case round =>
      obtain ⟨k, hk, rfl, hq, hj⟩ := hrel
      have HJ := Lib.hid hj
      clear hj
      by_cases hlt : k < l1.length
      · have hlt2 : k < l2.length := by have := HNN.out; omega
        obtain ⟨b1, o1, rfl, _, p1, _⟩ := R1.out k hlt
        obtain ⟨b2, o2, rfl, _, p2, _⟩ := R2.out k hlt2
        rw [Nat.mul_one] at p1 p2
        have p1 := (hq.cell _).trans p1
        have p2 := (hq.cell _).trans p2
        have hlt' : (k : Int) < (l1.length : Int) := by omega
        have hlt2' : (k : Int) < (l2.length : Int) := by omega
        have hge' : (0 : Int) ≤ (k : Int) := by omega
        by_cases hx : l1[k] = l2[k]
        · have hx' : (l1[k] != l2[k]) = false := by simp [hx]
          have HX : Hid (∀ (j1 : k < l1.length) (j2 : k < l2.length), l1[k]'j1 = l2[k]'j2) := fun _ _ => hx
          clear hx
          generalize l1[k] = z1 at *
          generalize l2[k] = z2 at *
          go_wp2
          go_quiet (fail)
          go_wp2
          go_roundw
          case rel => exact ⟨k + 1, by omega, by go_num, hq.trans ⟨_, rfl⟩, fun j j1 j2 j3 => by
            rcases Nat.lt_or_ge j k with h | h
            · exact HJ.out j j1 j2 h
            · obtain rfl : j = k := by omega
              exact HX.out j1 j2⟩
          case measure => simp [intOf]; omega
        · have hx' : (l1[k] != l2[k]) = true := by simp [hx]
          have HX : Hid (¬ l1 = l2) := fun h => hx (by subst h; rfl)
          clear hx
          generalize l1[k] = z1 at *
          generalize l2[k] = z2 at *
          go_wp2
          go_quiet (fail)
          go_wp2
          go_ret
          exact ⟨ret_bool (by simp [HX.out]), hq.trans ⟨_, rfl⟩⟩
      · have hlt' : ¬ (k : Int) < (l1.length : Int) := by omega
        go_wp2
        go_ret
        exact ⟨ret_bool (by simp [list_eq_of HNN.out fun i i1 i2 => HJ.out i i1 i2 (by omega)]), hq⟩
  · have hne : ((l1.length : Int) != (l2.length : Int)) = true := by simp; omega
    have HX : Hid (¬ l1 = l2) := fun h => hn (by rw [h])
    go_enter Try.func58, Try.ntmps58
    go_wp2
    go_ret
    exact ⟨ret_bool (by simp [HX.out]), Quiet.refl _⟩
set_option maxRecDepth 100000 in
set_option maxHeartbeats 4000000 in
theorem eqflds_any (w : World) (B : Nat) (v1 v2 : Value) (l1 l2 : List FldD) (h1 : RdRow 2 ElF B w v1 l1) (h2 : RdRow 2 ElF B w v2 l2) :
    Calls Try.prog 57 #[v1, v2] w fun e w' => e = .returned (.bool (decide (l1.map fldP = l2.map fldP))) ∧ Quiet w w' := by
  have h1' := h1
  have h2' := h2
  obtain ⟨a1, c1, rfl⟩ := rd_shape h1'
  obtain ⟨a2, c2, rfl⟩ := rd_shape h2'
  have M1 : l1.length ≤ maxLen := by obtain ⟨_, _, _, h, _⟩ := h1; exact h
  unfold maxLen at M1
  have R1 := Lib.hid (fun i (hi : i < l1.length) => rd_at h1 hi)
  have R2 := Lib.hid (fun i (hi : i < l2.length) => rd_at h2 hi)
  clear h1 h2 h1' h2'
  have hG := guard_fld
  by_cases hn : l1.length = l2.length
  · have hne : ((l1.length : Int) != (l2.length : Int)) = false := by simp [hn]
    have HN := Lib.hid hn
    clear hn
    go_enter Try.func57, Try.ntmps57
    go_wp2
    go_loopw [13] (fun i wr => ∃ k : Nat, k ≤ l1.length ∧ i = .int .i64 k ∧ Quiet w wr ∧ ∀ j, (j1 : j < l1.length) → (j2 : j < l2.length) → j < k → fldP l1[j] = fldP l2[j]) (fun i _ => l1.length - (intOf i).toNat)
    case atStart => exact ⟨0, Nat.zero_le _, rfl, Quiet.refl _, fun j _ _ h => absurd h (by omega)⟩
    case round =>
      obtain ⟨k, hk, rfl, hq, hj⟩ := hrel
      have HJ := Lib.hid hj
      clear hj
      by_cases hlt : k < l1.length
      · have hlt2 : k < l2.length := by have := HN.out; omega
        obtain ⟨b1, o1, rfl, _, p0, p1, _⟩ := R1.out k hlt
        obtain ⟨b2, o2, rfl, _, q0, q1, _⟩ := R2.out k hlt2
        replace p0 := (hq.cell _).trans p0
        replace q0 := (hq.cell _).trans q0
        replace p1 := (hq.cell _).trans p1
        replace q1 := (hq.cell _).trans q1
        have hlt' : (k : Int) < (l1.length : Int) := by omega
        have hlt2' : (k : Int) < (l2.length : Int) := by omega
        have hge' : (0 : Int) ≤ (k : Int) := by omega
        have FP := Lib.hid (@fldP_eq l1[k] l2[k])
        have HM : Hid (¬ fldP l1[k] = fldP l2[k] → ¬ l1.map fldP = l2.map fldP) := map_ne_at hlt hlt2
        have HE : Hid (∀ (j1 : k < l1.length) (j2 : k < l2.length), fldP (l1[k]'j1) = fldP (l1[k]'hlt) ∧ fldP (l2[k]'j2) = fldP (l2[k]'hlt2)) := fun _ _ => ⟨rfl, rfl⟩
        generalize l1[k] = z1 at *
        generalize l2[k] = z2 at *
        rcases z1 with ⟨x0, x1⟩
        rcases z2 with ⟨y0, y1⟩
        have hE := fun W => neq_fld W x0 y0 x1 y1
        have FQ : (x0.toList == y0.toList && x1 == y1) = decide (fldP ⟨x0, x1⟩ = fldP ⟨y0, y1⟩) := FP.out
        simp only at p0 q0 p1 q1
        by_cases hy : fldP ⟨x0, x1⟩ = fldP ⟨y0, y1⟩
        · have hv : (x0.toList == y0.toList && x1 == y1) = true := by rw [FQ]; simpa using hy
          have HY := Lib.hid hy
          clear hy FQ
          go_wp2
          go_quiet (fail)
          go_wp2
          go_roundw
          case rel => exact ⟨k + 1, by omega, by go_num, hq.trans ⟨_, rfl⟩, fun j j1 j2 j3 => by
            rcases Nat.lt_or_ge j k with h | h
            · exact HJ.out j j1 j2 h
            · obtain rfl : j = k := by omega
              exact (HE.out j1 j2).1.trans (HY.out.trans (HE.out j1 j2).2.symm)⟩
          case measure => simp [intOf]; omega
        · have hv : (x0.toList == y0.toList && x1 == y1) = false := by rw [FQ]; simpa using hy
          have HY := Lib.hid hy
          clear hy FQ
          go_wp2
          go_quiet (fail)
          go_wp2
          go_ret
          exact ⟨ret_bool (by simp [HM.out HY.out]), hq.trans ⟨_, rfl⟩⟩
      · have hlt' : ¬ (k : Int) < (l1.length : Int) := by omega
        go_wp2
        go_ret
        exact ⟨ret_bool (by simp [map_eq_of HN.out fun i i1 i2 => HJ.out i i1 i2 (by omega)]), hq⟩
  · have hne : ((l1.length : Int) != (l2.length : Int)) = true := by simp; omega
    have HM := Lib.hid (map_ne_len (f := fldP) hn)
    clear hn
    go_enter Try.func57, Try.ntmps57
    go_wp2
    go_ret
    exact ⟨ret_bool (by simp [HM.out]), Quiet.refl _⟩
set_option maxRecDepth 100000 in
set_option maxHeartbeats 4000000 in
theorem eqinss_any (w : World) (B : Nat) (v1 v2 : Value) (l1 l2 : List InsD) (h1 : RdRow 3 ElN B w v1 l1) (h2 : RdRow 3 ElN B w v2 l2) :
    Calls Try.prog 59 #[v1, v2] w fun e w' => e = .returned (.bool (decide (l1.map insP = l2.map insP))) ∧ Quiet w w' := by
  have h1' := h1
  have h2' := h2
  obtain ⟨a1, c1, rfl⟩ := rd_shape h1'
  obtain ⟨a2, c2, rfl⟩ := rd_shape h2'
  have M1 : l1.length ≤ maxLen := by obtain ⟨_, _, _, h, _⟩ := h1; exact h
  unfold maxLen at M1
  have R1 := Lib.hid (fun i (hi : i < l1.length) => rd_at h1 hi)
  have R2 := Lib.hid (fun i (hi : i < l2.length) => rd_at h2 hi)
  clear h1 h2 h1' h2'
  have hG := guard_ins
  by_cases hn : l1.length = l2.length
  · have hne : ((l1.length : Int) != (l2.length : Int)) = false := by simp [hn]
    have HN := Lib.hid hn
    clear hn
    go_enter Try.func59, Try.ntmps59
    go_wp2
    go_loopw [13] (fun i wr => ∃ k : Nat, k ≤ l1.length ∧ i = .int .i64 k ∧ Quiet w wr ∧ ∀ j, (j1 : j < l1.length) → (j2 : j < l2.length) → j < k → insP l1[j] = insP l2[j]) (fun i _ => l1.length - (intOf i).toNat)
    case atStart => exact ⟨0, Nat.zero_le _, rfl, Quiet.refl _, fun j _ _ h => absurd h (by omega)⟩
    case round =>
      obtain ⟨k, hk, rfl, hq, hj⟩ := hrel
      have HJ := Lib.hid hj
      clear hj
      by_cases hlt : k < l1.length
      · have hlt2 : k < l2.length := by have := HN.out; omega
        obtain ⟨b1, o1, rfl, _, p0, p1, p2, _⟩ := R1.out k hlt
        obtain ⟨b2, o2, rfl, _, q0, q1, q2, _⟩ := R2.out k hlt2
        replace p0 := (hq.cell _).trans p0
        replace q0 := (hq.cell _).trans q0
        replace p1 := (hq.cell _).trans p1
        replace q1 := (hq.cell _).trans q1
        replace p2 := (hq.cell _).trans p2
        replace q2 := (hq.cell _).trans q2
        have hlt' : (k : Int) < (l1.length : Int) := by omega
        have hlt2' : (k : Int) < (l2.length : Int) := by omega
        have hge' : (0 : Int) ≤ (k : Int) := by omega
        have FP := Lib.hid (@insP_eq l1[k] l2[k])
        have HM : Hid (¬ insP l1[k] = insP l2[k] → ¬ l1.map insP = l2.map insP) := map_ne_at hlt hlt2
        have HE : Hid (∀ (j1 : k < l1.length) (j2 : k < l2.length), insP (l1[k]'j1) = insP (l1[k]'hlt) ∧ insP (l2[k]'j2) = insP (l2[k]'hlt2)) := fun _ _ => ⟨rfl, rfl⟩
        generalize l1[k] = z1 at *
        generalize l2[k] = z2 at *
        rcases z1 with ⟨x0, x1, x2⟩
        rcases z2 with ⟨y0, y1, y2⟩
        have hE := fun W => neq_ins W x0 x1 x2 y0 y1 y2
        have FQ : (x0 == y0 && (x1 == y1 && x2 == y2)) = decide (insP ⟨x0, x1, x2⟩ = insP ⟨y0, y1, y2⟩) := FP.out
        simp only at p0 q0 p1 q1 p2 q2
        by_cases hy : insP ⟨x0, x1, x2⟩ = insP ⟨y0, y1, y2⟩
        · have hv : (x0 == y0 && (x1 == y1 && x2 == y2)) = true := by rw [FQ]; simpa using hy
          have HY := Lib.hid hy
          clear hy FQ
          go_wp2
          go_quiet (fail)
          go_wp2
          go_roundw
          case rel => exact ⟨k + 1, by omega, by go_num, hq.trans ⟨_, rfl⟩, fun j j1 j2 j3 => by
            rcases Nat.lt_or_ge j k with h | h
            · exact HJ.out j j1 j2 h
            · obtain rfl : j = k := by omega
              exact (HE.out j1 j2).1.trans (HY.out.trans (HE.out j1 j2).2.symm)⟩
          case measure => simp [intOf]; omega
        · have hv : (x0 == y0 && (x1 == y1 && x2 == y2)) = false := by rw [FQ]; simpa using hy
          have HY := Lib.hid hy
          clear hy FQ
          go_wp2
          go_quiet (fail)
          go_wp2
          go_ret
          exact ⟨ret_bool (by simp [HM.out HY.out]), hq.trans ⟨_, rfl⟩⟩
      · have hlt' : ¬ (k : Int) < (l1.length : Int) := by omega
        go_wp2
        go_ret
        exact ⟨ret_bool (by simp [map_eq_of HN.out fun i i1 i2 => HJ.out i i1 i2 (by omega)]), hq⟩
  · have hne : ((l1.length : Int) != (l2.length : Int)) = true := by simp; omega
    have HM := Lib.hid (map_ne_len (f := insP) hn)
    clear hn
    go_enter Try.func59, Try.ntmps59
    go_wp2
    go_ret
    exact ⟨ret_bool (by simp [HM.out]), Quiet.refl _⟩
end Go.Proofs.Ytffelcidckbohaa
/- equalClasses, equalFuncs, slices.EqualFunc at both, Equal of programs. No condition. -/
namespace Go.Proofs.Ytffelcidckbohaa
open Go.RowKit
set_option linter.unusedVariables false
set_option maxRecDepth 100000 in
set_option maxHeartbeats 4000000 in
theorem eqcls_any (w : World) (B : Nat) (v1 v2 : Value) (c d : ClsD) (hB : B ≤ w.heap.size) (h1 : RdRow 2 ElF B w v1 c.fields) (h2 : RdRow 2 ElF B w v2 d.fields) :
    Calls Try.prog 34 #[.agg #[.string c.name, v1], .agg #[.string d.name, v2]] w fun e w' => e = .returned (.bool (decide (clsP c = clsP d))) ∧ Below w.heap.size w w' := by
  have h1' := h1
  have h2' := h2
  obtain ⟨a1, q1, rfl⟩ := rd_shape h1'
  obtain ⟨a2, q2, rfl⟩ := rd_shape h2'
  have k1 : Blk ((w.alloc (.cells #[.string c.name, .slice a1 c.fields.length q1] 52)).alloc (.cells #[.string d.name, .slice a2 d.fields.length q2] 52)) w.heap.size #[.string c.name, .slice a1 c.fields.length q1] 52 := (Blk.new _ _ _).alloc _
  have k2 : Blk ((w.alloc (.cells #[.string c.name, .slice a1 c.fields.length q1] 52)).alloc (.cells #[.string d.name, .slice a2 d.fields.length q2] 52)) (w.heap.size + 1) #[.string d.name, .slice a2 d.fields.length q2] 52 := Blk.new' (by simp)
  have hb0 : Below w.heap.size w ((w.alloc (.cells #[.string c.name, .slice a1 c.fields.length q1] 52)).alloc (.cells #[.string d.name, .slice a2 d.fields.length q2] 52)) := ((Below.refl _ _).alloc (Nat.le_refl _) _).alloc (by simp) _
  have IN := Lib.hid (eqflds_any _ B _ _ _ _ (h1.keep (hb0.mono hB) fun _ _ _ e r => r.keep (hb0.mono hB) e) (h2.keep (hb0.mono hB) fun _ _ _ e r => r.keep (hb0.mono hB) e))
  have hb := Lib.hid hb0
  have CP := Lib.hid (clsP_eq (f := c) (g := d))
  have c0 := k1.val 0 rfl
  have c1 := k1.val 1 rfl
  have d0 := k2.val 0 rfl
  have d1 := k2.val 1 rfl
  clear h1 h2 h1' h2' hb0 k1 k2
  by_cases hx : c.name.toList = d.name.toList
  · have hx' : (c.name.toList == d.name.toList) = true := by simp [hx]
    have HX := Lib.hid hx
    clear hx
    go_enter Try.func34, Try.ntmps34
    go_wp2_with fail
    refine IN.out.mono ?_
    rintro e9 w3 ⟨rfl, hq3⟩
    have HQ := Lib.hid hq3
    clear hq3
    go_wp2
    go_ret
    exact ⟨ret_bool (by rw [CP.out]; simp [HX.out]), hb.out.trans (Quiet.below HQ.out)⟩
  · have hx' : (c.name.toList == d.name.toList) = false := by simpa using hx
    have HX := Lib.hid hx
    clear hx
    go_enter Try.func34, Try.ntmps34
    go_wp2
    go_ret
    exact ⟨ret_bool (by rw [CP.out]; simp [HX.out]), hb.out⟩
set_option maxRecDepth 100000 in
set_option maxHeartbeats 4000000 in
theorem eqfun_any (w : World) (B : Nat) (x1 x3 x4 y1 y3 y4 : Value) (fn gn : FunD) (hB : B ≤ w.heap.size) (g1 : RdRow 1 ElI B w x1 fn.params) (g3 : RdRow 1 ElI B w x3 fn.locals) (g4 : RdRow 3 ElN B w x4 fn.code) (l1 : RdRow 1 ElI B w y1 gn.params) (l3 : RdRow 1 ElI B w y3 gn.locals) (l4 : RdRow 3 ElN B w y4 gn.code) :
    Calls Try.prog 36 #[.agg #[.string fn.name, x1, .int .i64 fn.result, x3, x4], .agg #[.string gn.name, y1, .int .i64 gn.result, y3, y4]] w fun e w' => e = .returned (.bool (decide (funP fn = funP gn))) ∧ Below w.heap.size w w' := by
  obtain ⟨fa1, fc1, rfl⟩ := rd_shape g1
  obtain ⟨fa3, fc3, rfl⟩ := rd_shape g3
  obtain ⟨fa4, fc4, rfl⟩ := rd_shape g4
  obtain ⟨ga1, gc1, rfl⟩ := rd_shape l1
  obtain ⟨ga3, gc3, rfl⟩ := rd_shape l3
  obtain ⟨ga4, gc4, rfl⟩ := rd_shape l4
  have kF : Blk ((w.alloc (.cells #[.string fn.name, .slice fa1 fn.params.length fc1, .int .i64 fn.result, .slice fa3 fn.locals.length fc3, .slice fa4 fn.code.length fc4] 45)).alloc (.cells #[.string gn.name, .slice ga1 gn.params.length gc1, .int .i64 gn.result, .slice ga3 gn.locals.length gc3, .slice ga4 gn.code.length gc4] 45)) w.heap.size #[.string fn.name, .slice fa1 fn.params.length fc1, .int .i64 fn.result, .slice fa3 fn.locals.length fc3, .slice fa4 fn.code.length fc4] 45 := (Blk.new _ _ _).alloc _
  have kG : Blk ((w.alloc (.cells #[.string fn.name, .slice fa1 fn.params.length fc1, .int .i64 fn.result, .slice fa3 fn.locals.length fc3, .slice fa4 fn.code.length fc4] 45)).alloc (.cells #[.string gn.name, .slice ga1 gn.params.length gc1, .int .i64 gn.result, .slice ga3 gn.locals.length gc3, .slice ga4 gn.code.length gc4] 45)) (w.heap.size + 1) #[.string gn.name, .slice ga1 gn.params.length gc1, .int .i64 gn.result, .slice ga3 gn.locals.length gc3, .slice ga4 gn.code.length gc4] 45 := Blk.new' (by simp)
  have hb0 : Below w.heap.size w ((w.alloc (.cells #[.string fn.name, .slice fa1 fn.params.length fc1, .int .i64 fn.result, .slice fa3 fn.locals.length fc3, .slice fa4 fn.code.length fc4] 45)).alloc (.cells #[.string gn.name, .slice ga1 gn.params.length gc1, .int .i64 gn.result, .slice ga3 gn.locals.length gc3, .slice ga4 gn.code.length gc4] 45)) := ((Below.refl _ _).alloc (Nat.le_refl _) _).alloc (by simp) _
  have hF := hb0.mono hB
  have IN1 := Lib.hid (eqints_any _ B _ _ _ _ (g1.keep hF fun _ _ _ e r => r.keep hF e) (l1.keep hF fun _ _ _ e r => r.keep hF e))
  have IN2 := Lib.hid (fun W (hq : Quiet ((w.alloc (.cells #[.string fn.name, .slice fa1 fn.params.length fc1, .int .i64 fn.result, .slice fa3 fn.locals.length fc3, .slice fa4 fn.code.length fc4] 45)).alloc (.cells #[.string gn.name, .slice ga1 gn.params.length gc1, .int .i64 gn.result, .slice ga3 gn.locals.length gc3, .slice ga4 gn.code.length gc4] 45)) W) => eqints_any W B _ _ _ _ (g3.keep (hF.trans (Quiet.below hq)) fun _ _ _ e r => r.keep (hF.trans (Quiet.below hq)) e) (l3.keep (hF.trans (Quiet.below hq)) fun _ _ _ e r => r.keep (hF.trans (Quiet.below hq)) e))
  have IN3 := Lib.hid (fun W (hq : Quiet ((w.alloc (.cells #[.string fn.name, .slice fa1 fn.params.length fc1, .int .i64 fn.result, .slice fa3 fn.locals.length fc3, .slice fa4 fn.code.length fc4] 45)).alloc (.cells #[.string gn.name, .slice ga1 gn.params.length gc1, .int .i64 gn.result, .slice ga3 gn.locals.length gc3, .slice ga4 gn.code.length gc4] 45)) W) => eqinss_any W B _ _ _ _ (g4.keep (hF.trans (Quiet.below hq)) fun _ _ _ e r => r.keep (hF.trans (Quiet.below hq)) e) (l4.keep (hF.trans (Quiet.below hq)) fun _ _ _ e r => r.keep (hF.trans (Quiet.below hq)) e))
  have FE := Lib.hid (@funP_eq fn gn)
  have BE := Lib.hid hb0
  have z0 := kF.val 0 rfl
  have q0 := kG.val 0 rfl
  have z1 := kF.val 1 rfl
  have q1 := kG.val 1 rfl
  have z2 := kF.val 2 rfl
  have q2 := kG.val 2 rfl
  have z3 := kF.val 3 rfl
  have q3 := kG.val 3 rfl
  have z4 := kF.val 4 rfl
  have q4 := kG.val 4 rfl
  clear g1 g3 g4 l1 l3 l4 kF kG hb0 hF hB
  by_cases ca : fn.name.toList = gn.name.toList
  · have va : (fn.name.toList == gn.name.toList) = true := by simpa using ca
    have HA := Lib.hid ca
    clear ca
    by_cases cc : fn.params = gn.params
    · have vc : decide (fn.params = gn.params) = true := by simpa using cc
      have HC := Lib.hid cc
      clear cc
      by_cases cb : fn.result = gn.result
      · have vb : (fn.result == gn.result) = true := by simpa using cb
        have HBB := Lib.hid cb
        clear cb
        by_cases cd : fn.locals = gn.locals
        · have vd : decide (fn.locals = gn.locals) = true := by simpa using cd
          have HD := Lib.hid cd
          clear cd
          have VE : Hid (decide (fn.code.map insP = gn.code.map insP) = decide (funP fn = funP gn)) := decide_eq_decide.2 ⟨fun e => FE.out.2 ⟨HA.out, HC.out, HBB.out, HD.out, e⟩, fun e => (FE.out.1 e).2.2.2.2⟩
          go_enter Try.func36, Try.ntmps36
          go_wp2_with fail
          refine IN1.out.mono ?_
          rintro e9 w3 ⟨rfl, hq1⟩
          replace z0 := (hq1.cell _).trans z0
          replace q0 := (hq1.cell _).trans q0
          replace z1 := (hq1.cell _).trans z1
          replace q1 := (hq1.cell _).trans q1
          replace z2 := (hq1.cell _).trans z2
          replace q2 := (hq1.cell _).trans q2
          replace z3 := (hq1.cell _).trans z3
          replace q3 := (hq1.cell _).trans q3
          replace z4 := (hq1.cell _).trans z4
          replace q4 := (hq1.cell _).trans q4
          have HQ2 := Lib.hid (hq1)
          clear hq1
          have INX2 := Lib.hid (IN2.out w3 HQ2.out)
          go_wp2_with fail
          refine INX2.out.mono ?_
          rintro e9 w4 ⟨rfl, hq2⟩
          replace z0 := (hq2.cell _).trans z0
          replace q0 := (hq2.cell _).trans q0
          replace z1 := (hq2.cell _).trans z1
          replace q1 := (hq2.cell _).trans q1
          replace z2 := (hq2.cell _).trans z2
          replace q2 := (hq2.cell _).trans q2
          replace z3 := (hq2.cell _).trans z3
          replace q3 := (hq2.cell _).trans q3
          replace z4 := (hq2.cell _).trans z4
          replace q4 := (hq2.cell _).trans q4
          have HQ3 := Lib.hid (HQ2.out.trans hq2)
          clear hq2
          have INX3 := Lib.hid (IN3.out w4 HQ3.out)
          go_wp2_with fail
          refine INX3.out.mono ?_
          rintro e9 w5 ⟨rfl, hq3⟩
          replace z0 := (hq3.cell _).trans z0
          replace q0 := (hq3.cell _).trans q0
          replace z1 := (hq3.cell _).trans z1
          replace q1 := (hq3.cell _).trans q1
          replace z2 := (hq3.cell _).trans z2
          replace q2 := (hq3.cell _).trans q2
          replace z3 := (hq3.cell _).trans z3
          replace q3 := (hq3.cell _).trans q3
          replace z4 := (hq3.cell _).trans z4
          replace q4 := (hq3.cell _).trans q4
          have HQ4 := Lib.hid (HQ3.out.trans hq3)
          clear hq3
          go_wp2
          go_ret
          exact ⟨ret_bool (by exact VE.out), BE.out.trans (Quiet.below HQ4.out)⟩
        · have vd : decide (fn.locals = gn.locals) = false := by simpa using cd
          have HD := Lib.hid cd
          clear cd
          go_enter Try.func36, Try.ntmps36
          go_wp2_with fail
          refine IN1.out.mono ?_
          rintro e9 w3 ⟨rfl, hq1⟩
          replace z0 := (hq1.cell _).trans z0
          replace q0 := (hq1.cell _).trans q0
          replace z1 := (hq1.cell _).trans z1
          replace q1 := (hq1.cell _).trans q1
          replace z2 := (hq1.cell _).trans z2
          replace q2 := (hq1.cell _).trans q2
          replace z3 := (hq1.cell _).trans z3
          replace q3 := (hq1.cell _).trans q3
          replace z4 := (hq1.cell _).trans z4
          replace q4 := (hq1.cell _).trans q4
          have HQ2 := Lib.hid (hq1)
          clear hq1
          have INX2 := Lib.hid (IN2.out w3 HQ2.out)
          go_wp2_with fail
          refine INX2.out.mono ?_
          rintro e9 w4 ⟨rfl, hq2⟩
          replace z0 := (hq2.cell _).trans z0
          replace q0 := (hq2.cell _).trans q0
          replace z1 := (hq2.cell _).trans z1
          replace q1 := (hq2.cell _).trans q1
          replace z2 := (hq2.cell _).trans z2
          replace q2 := (hq2.cell _).trans q2
          replace z3 := (hq2.cell _).trans z3
          replace q3 := (hq2.cell _).trans q3
          replace z4 := (hq2.cell _).trans z4
          replace q4 := (hq2.cell _).trans q4
          have HQ3 := Lib.hid (HQ2.out.trans hq2)
          clear hq2
          go_wp2
          go_ret
          exact ⟨ret_bool (by simp [show ¬ funP fn = funP gn from fun e => HD.out (FE.out.1 e).2.2.2.1]), BE.out.trans (Quiet.below HQ3.out)⟩
      · have vb : (fn.result == gn.result) = false := by simpa using cb
        have HBB := Lib.hid cb
        clear cb
        go_enter Try.func36, Try.ntmps36
        go_wp2_with fail
        refine IN1.out.mono ?_
        rintro e9 w3 ⟨rfl, hq1⟩
        replace z0 := (hq1.cell _).trans z0
        replace q0 := (hq1.cell _).trans q0
        replace z1 := (hq1.cell _).trans z1
        replace q1 := (hq1.cell _).trans q1
        replace z2 := (hq1.cell _).trans z2
        replace q2 := (hq1.cell _).trans q2
        replace z3 := (hq1.cell _).trans z3
        replace q3 := (hq1.cell _).trans q3
        replace z4 := (hq1.cell _).trans z4
        replace q4 := (hq1.cell _).trans q4
        have HQ2 := Lib.hid (hq1)
        clear hq1
        go_wp2
        go_ret
        exact ⟨ret_bool (by simp [show ¬ funP fn = funP gn from fun e => HBB.out (FE.out.1 e).2.2.1]), BE.out.trans (Quiet.below HQ2.out)⟩
    · have vc : decide (fn.params = gn.params) = false := by simpa using cc
      have HC := Lib.hid cc
      clear cc
      go_enter Try.func36, Try.ntmps36
      go_wp2_with fail
      refine IN1.out.mono ?_
      rintro e9 w3 ⟨rfl, hq1⟩
      replace z0 := (hq1.cell _).trans z0
      replace q0 := (hq1.cell _).trans q0
      replace z1 := (hq1.cell _).trans z1
      replace q1 := (hq1.cell _).trans q1
      replace z2 := (hq1.cell _).trans z2
      replace q2 := (hq1.cell _).trans q2
      replace z3 := (hq1.cell _).trans z3
      replace q3 := (hq1.cell _).trans q3
      replace z4 := (hq1.cell _).trans z4
      replace q4 := (hq1.cell _).trans q4
      have HQ2 := Lib.hid (hq1)
      clear hq1
      go_wp2
      go_ret
      exact ⟨ret_bool (by simp [show ¬ funP fn = funP gn from fun e => HC.out (FE.out.1 e).2.1]), BE.out.trans (Quiet.below HQ2.out)⟩
  · have va : (fn.name.toList == gn.name.toList) = false := by simpa using ca
    have HA := Lib.hid ca
    clear ca
    go_enter Try.func36, Try.ntmps36
    go_wp2
    go_ret
    exact ⟨ret_bool (by simp [show ¬ funP fn = funP gn from fun e => HA.out (FE.out.1 e).1]), BE.out⟩
end Go.Proofs.Ytffelcidckbohaa
