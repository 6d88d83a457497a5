/- Texts of this seat, one behind the other: each says at its head what it holds. No condition of its own. -/
import Derived.Deep.CutBlock
import Derived.Deep.RegionLaw
import Derived.Deep.AppendLies
import Derived.Test.YtffelcidckbohaaGCodeBack02
/- code's writer: list, at each closure that it is called with: a count, then each thing by its index. Condition: what each call of the closure does is given. -/
namespace Go.Proofs.Ytffelcidckbohaa
open Go.RowKit
set_option linter.unusedVariables false
/-- what a call of the closure does, at the i-th thing -/
def StepOk (F : FuncId) (c1 c2 : Nat) (B b : Nat) (K : Nat → Prop) (w : World) (n most L M : Nat) (f : Nat → Res) : Prop :=
  ∀ (i : Nat) (l : List UInt8) (W : World), i < n → n ≤ most → WrX W B b l 0 K → WrT B K w W → l.length ≤ L + 10 + most * M →
    Calls Try.prog F #[.int .i64 i, .pointer (some ⟨c1, 0, none⟩), .pointer (some ⟨c2, 0, none⟩)] W fun e' W' => (∃ u, e' = .returned u) ∧ WrP W' B b (andE (.ok l) (f i)) K ∧ WrT B K W W'
theorem WrP.cell {w : World} {B b : Nat} {r : Res} {K : Nat → Prop} (h : WrP w B b r K) : ∃ e, w.cell? ⟨b, 1, none⟩ = some (.int .i64 e) ∧ w.frozen? ⟨b, 1, none⟩ = false ∧ ((e == 0) = true ∧ (∃ l, r = .ok l ∧ WrX w B b l 0 K) ∨ (e == 0) = false ∧ r = .error e ∧ WrE w B b e K) := by
  cases r with
  | ok l => exact ⟨0, (WrX.errCell h).1, (WrX.errCell h).2, .inl ⟨rfl, l, rfl, h⟩⟩
  | error e => exact ⟨e, h.2.errCell.1, h.2.errCell.2, .inr ⟨by simpa using h.1, rfl, h.2⟩⟩
set_option maxRecDepth 100000 in
set_option maxHeartbeats 2000000 in
theorem list_errEnc1 (B b c1 c2 : Nat) (e : Int) (K : Nat → Prop) (n most : Nat) (w : World) (h : WrE w B b e K) (he : (e == 0) = false) :
    Calls Try.prog 28 #[.pointer (some ⟨b, 0, none⟩), .int .i64 n, .int .i64 most, .func (.func 29) #[] #[.pointer (some ⟨c1, 0, none⟩), .pointer (some ⟨c2, 0, none⟩)]] w fun e' w' => (∃ u, e' = .returned u) ∧ w = w' := by
  obtain ⟨h1, h2⟩ := h.errCell
  have he' : (e != 0) = true := by simpa using he
  clear h he
  go_enter Try.func28, Try.ntmps28
  go_wp2
  refine bodyPost_ret (results_none rfl _ _ _) rfl ?_
  exact ⟨⟨_, rfl⟩, rfl⟩
set_option maxRecDepth 100000 in
set_option maxHeartbeats 2000000 in
theorem list_bigEnc1 (B b c1 c2 : Nat) (K : Nat → Prop) (n most : Nat) (w : World) (h : WrE w B b 0 K) (hn : most < n) :
    Calls Try.prog 28 #[.pointer (some ⟨b, 0, none⟩), .int .i64 n, .int .i64 most, .func (.func 29) #[] #[.pointer (some ⟨c1, 0, none⟩), .pointer (some ⟨c2, 0, none⟩)]] w fun e' w' => (∃ u, e' = .returned u) ∧ WrE w' B b 3 K ∧ WrT B K w w' := by
  obtain ⟨h1, h2⟩ := h.errCell
  have H := Lib.hid (h.fail 3)
  have hn' : (most : Int) < (n : Int) := by omega
  clear h
  go_enter Try.func28, Try.ntmps28
  go_wp2
  refine bodyPost_ret (results_none rfl _ _ _) rfl ?_
  exact ⟨⟨_, rfl⟩, H.out⟩
set_option maxRecDepth 100000 in
set_option maxHeartbeats 2000000 in
theorem list_okEnc1 (B b c1 c2 : Nat) (l : List UInt8) (K : Nat → Prop) (n most L M : Nat) (f : Nat → Res) (w : World) (h : WrE w B b 0 K) (NB : Hid (Calls Try.prog 49 #[.pointer (some ⟨b, 0, none⟩), .int .u64 n] w fun e' w' => (∃ u, e' = .returned u) ∧ WrX w' B b (l ++ numB n) 0 K ∧ WrT B K w w')) (hn : n ≤ most) (hm : most ≤ 1000) (hl : l.length ≤ L) (hL : L + 10 + most * M ≤ 100000000) (hf : Hid (∀ i, i < n → lenE (f i) M))
    (hst : Hid (StepOk 29 c1 c2 B b K w n most L M f)) :
    Calls Try.prog 28 #[.pointer (some ⟨b, 0, none⟩), .int .i64 n, .int .i64 most, .func (.func 29) #[] #[.pointer (some ⟨c1, 0, none⟩), .pointer (some ⟨c2, 0, none⟩)]] w fun e' w' => (∃ u, e' = .returned u) ∧ WrP w' B b (andE (.ok l) (listE n most f)) K ∧ WrT B K w w' := by
  obtain ⟨h1, h2⟩ := h.errCell
  have hn' : ¬ (most : Int) < (n : Int) := by omega
  have hlst : Hid (listE n most f = andE (.ok (numB n)) (seqE f n)) := by unfold Hid listE; rw [if_neg (by omega)]
  have hlen : Hid (l.length ≤ L ∧ L + 10 + most * M ≤ 100000000) := ⟨hl, hL⟩
  clear h hl hL
  go_enter Try.func28, Try.ntmps28
  go_wp2_with fail
  refine NB.out.mono ?_
  rintro e w1 ⟨⟨u, rfl⟩, hX, hT⟩
  go_wp2_with fail
  go_loopw [8] (fun x wr => ∃ i : Nat, i ≤ n ∧ x = .int .i64 i ∧ WrP wr B b (andE (.ok (l ++ numB n)) (seqE f i)) K ∧ WrT B K w wr) (fun x _ => n - (intOf x).toNat)
  case atStart => exact ⟨0, Nat.zero_le _, rfl, by rw [seqE, andE_nil]; exact hX, hT⟩
  case round =>
    obtain ⟨i, hi, rfl, hW, hTr⟩ := hrel
    obtain ⟨e, c0, cf, hcase⟩ := hW.cell
    rcases hcase with ⟨e0, m, hm1, hX1⟩ | ⟨e0, hm1, hX1⟩
    · by_cases hlt : i < n
      · have hlt' : (i : Int) < (n : Int) := by omega
        have hsl : m.length ≤ L + 10 + most * M := by
          have h1 := lenE_seq (n := i) (M := M) (fun j hj => hf.out j (by omega))
          have h2 : lenE (.ok (l ++ numB n)) (L + 10) := fun q e => by injection e with e; subst e; have := numB_len10 (n := n) (by omega); have := hlen.out.1; simp; omega
          have h3 := lenE_and h2 h1 m hm1
          have h4 : i * M ≤ most * M := Nat.mul_le_mul_right M (by omega)
          omega
        have ST := Lib.hid (hst.out i m wr hlt hn hX1 hTr hsl)
        have HE : Hid (andE (.ok m) (f i) = andE (.ok (l ++ numB n)) (seqE f (i + 1))) := by unfold Hid; rw [← hm1, seqE, andE_assoc]
        clear hm1 hX1 hX
        go_wp2_with fail
        refine ST.out.mono ?_
        rintro e' w2 ⟨⟨u2, rfl⟩, hW2, hT2⟩
        go_wp2
        go_roundw
        case rel => exact ⟨i + 1, by omega, by go_num, HE.out ▸ hW2, hTr.trans hT2⟩
        case measure => simp [intOf]; omega
      · have hlt' : ¬ (i : Int) < (n : Int) := by omega
        go_wp2
        go_end0
        obtain rfl : i = n := by omega
        refine ⟨⟨_, rfl⟩, ?_, hTr⟩
        rw [hlst.out, ← andE_assoc, andE_ok]
        exact hW
    · have HE : Hid (andE (.ok l) (listE n most f) = .error e) := by
        unfold Hid
        rw [hlst.out, ← andE_assoc, andE_ok]
        have h1 : seqE f i = .error e := by
          cases hq : seqE f i with
          | error y => rw [hq] at hm1; simpa [andE] using hm1
          | ok y => rw [hq] at hm1; simp [andE] at hm1
        rw [seqE_err h1 n hi]; rfl
      have hW2 : Hid (WrP wr B b (.error e) K) := ⟨by simpa using e0, hX1⟩
      clear hm1 hX1 hW hX
      by_cases hlt : i < n
      · have hlt' : (i : Int) < (n : Int) := by omega
        go_wp2
        go_end0
        exact ⟨⟨_, rfl⟩, HE.out ▸ hW2.out, hTr⟩
      · have hlt' : ¬ (i : Int) < (n : Int) := by omega
        go_wp2
        go_end0
        exact ⟨⟨_, rfl⟩, HE.out ▸ hW2.out, hTr⟩
theorem list_anyEnc1 (B b c1 c2 : Nat) (r : Res) (K : Nat → Prop) (n most L M : Nat) (f : Nat → Res) (w : World) (h : WrP w B b r K) (hm : most ≤ 1000) (hl : lenE r L) (hL : L + 10 + most * M ≤ 100000000) (hf : ∀ i, i < n → lenE (f i) M)
    (hst : StepOk 29 c1 c2 B b K w n most L M f) :
    Calls Try.prog 28 #[.pointer (some ⟨b, 0, none⟩), .int .i64 n, .int .i64 most, .func (.func 29) #[] #[.pointer (some ⟨c1, 0, none⟩), .pointer (some ⟨c2, 0, none⟩)]] w fun e' w' => (∃ u, e' = .returned u) ∧ WrP w' B b (andE r (listE n most f)) K ∧ WrT B K w w' := by
  cases r with
  | error e =>
    obtain ⟨he, hX⟩ := h
    exact (list_errEnc1 B b c1 c2 e K n most w hX (by simpa using he)).mono fun e' w' ⟨hu, hw⟩ => ⟨hu, by subst hw; exact ⟨he, hX⟩, by subst hw; exact WrT.refl _ _ _⟩
  | ok l =>
    by_cases hn : n ≤ most
    · exact list_okEnc1 B b c1 c2 l K n most L M f w (WrX.e h) (number_any B b l 0 K n w h (by omega) (by have := hl l rfl; omega)) hn hm (hl l rfl) hL hf hst
    · refine (list_bigEnc1 B b c1 c2 K n most w (WrX.e h) (by omega)).mono fun e' w' ⟨hu, hX, hT⟩ => ⟨hu, ?_, hT⟩
      rw [listE, if_pos (by omega)]; exact ⟨by decide, hX⟩
set_option maxRecDepth 100000 in
set_option maxHeartbeats 2000000 in
theorem list_errEnc2 (B b c1 c2 : Nat) (e : Int) (K : Nat → Prop) (n most : Nat) (w : World) (h : WrE w B b e K) (he : (e == 0) = false) :
    Calls Try.prog 28 #[.pointer (some ⟨b, 0, none⟩), .int .i64 n, .int .i64 most, .func (.func 31) #[] #[.pointer (some ⟨c1, 0, none⟩), .pointer (some ⟨c2, 0, none⟩)]] w fun e' w' => (∃ u, e' = .returned u) ∧ w = w' := by
  obtain ⟨h1, h2⟩ := h.errCell
  have he' : (e != 0) = true := by simpa using he
  clear h he
  go_enter Try.func28, Try.ntmps28
  go_wp2
  refine bodyPost_ret (results_none rfl _ _ _) rfl ?_
  exact ⟨⟨_, rfl⟩, rfl⟩
set_option maxRecDepth 100000 in
set_option maxHeartbeats 2000000 in
theorem list_bigEnc2 (B b c1 c2 : Nat) (K : Nat → Prop) (n most : Nat) (w : World) (h : WrE w B b 0 K) (hn : most < n) :
    Calls Try.prog 28 #[.pointer (some ⟨b, 0, none⟩), .int .i64 n, .int .i64 most, .func (.func 31) #[] #[.pointer (some ⟨c1, 0, none⟩), .pointer (some ⟨c2, 0, none⟩)]] w fun e' w' => (∃ u, e' = .returned u) ∧ WrE w' B b 3 K ∧ WrT B K w w' := by
  obtain ⟨h1, h2⟩ := h.errCell
  have H := Lib.hid (h.fail 3)
  have hn' : (most : Int) < (n : Int) := by omega
  clear h
  go_enter Try.func28, Try.ntmps28
  go_wp2
  refine bodyPost_ret (results_none rfl _ _ _) rfl ?_
  exact ⟨⟨_, rfl⟩, H.out⟩
set_option maxRecDepth 100000 in
set_option maxHeartbeats 2000000 in
theorem list_okEnc2 (B b c1 c2 : Nat) (l : List UInt8) (K : Nat → Prop) (n most L M : Nat) (f : Nat → Res) (w : World) (h : WrE w B b 0 K) (NB : Hid (Calls Try.prog 49 #[.pointer (some ⟨b, 0, none⟩), .int .u64 n] w fun e' w' => (∃ u, e' = .returned u) ∧ WrX w' B b (l ++ numB n) 0 K ∧ WrT B K w w')) (hn : n ≤ most) (hm : most ≤ 1000) (hl : l.length ≤ L) (hL : L + 10 + most * M ≤ 100000000) (hf : Hid (∀ i, i < n → lenE (f i) M))
    (hst : Hid (StepOk 31 c1 c2 B b K w n most L M f)) :
    Calls Try.prog 28 #[.pointer (some ⟨b, 0, none⟩), .int .i64 n, .int .i64 most, .func (.func 31) #[] #[.pointer (some ⟨c1, 0, none⟩), .pointer (some ⟨c2, 0, none⟩)]] w fun e' w' => (∃ u, e' = .returned u) ∧ WrP w' B b (andE (.ok l) (listE n most f)) K ∧ WrT B K w w' := by
  obtain ⟨h1, h2⟩ := h.errCell
  have hn' : ¬ (most : Int) < (n : Int) := by omega
  have hlst : Hid (listE n most f = andE (.ok (numB n)) (seqE f n)) := by unfold Hid listE; rw [if_neg (by omega)]
  have hlen : Hid (l.length ≤ L ∧ L + 10 + most * M ≤ 100000000) := ⟨hl, hL⟩
  clear h hl hL
  go_enter Try.func28, Try.ntmps28
  go_wp2_with fail
  refine NB.out.mono ?_
  rintro e w1 ⟨⟨u, rfl⟩, hX, hT⟩
  go_wp2_with fail
  go_loopw [8] (fun x wr => ∃ i : Nat, i ≤ n ∧ x = .int .i64 i ∧ WrP wr B b (andE (.ok (l ++ numB n)) (seqE f i)) K ∧ WrT B K w wr) (fun x _ => n - (intOf x).toNat)
  case atStart => exact ⟨0, Nat.zero_le _, rfl, by rw [seqE, andE_nil]; exact hX, hT⟩
  case round =>
    obtain ⟨i, hi, rfl, hW, hTr⟩ := hrel
    obtain ⟨e, c0, cf, hcase⟩ := hW.cell
    rcases hcase with ⟨e0, m, hm1, hX1⟩ | ⟨e0, hm1, hX1⟩
    · by_cases hlt : i < n
      · have hlt' : (i : Int) < (n : Int) := by omega
        have hsl : m.length ≤ L + 10 + most * M := by
          have h1 := lenE_seq (n := i) (M := M) (fun j hj => hf.out j (by omega))
          have h2 : lenE (.ok (l ++ numB n)) (L + 10) := fun q e => by injection e with e; subst e; have := numB_len10 (n := n) (by omega); have := hlen.out.1; simp; omega
          have h3 := lenE_and h2 h1 m hm1
          have h4 : i * M ≤ most * M := Nat.mul_le_mul_right M (by omega)
          omega
        have ST := Lib.hid (hst.out i m wr hlt hn hX1 hTr hsl)
        have HE : Hid (andE (.ok m) (f i) = andE (.ok (l ++ numB n)) (seqE f (i + 1))) := by unfold Hid; rw [← hm1, seqE, andE_assoc]
        clear hm1 hX1 hX
        go_wp2_with fail
        refine ST.out.mono ?_
        rintro e' w2 ⟨⟨u2, rfl⟩, hW2, hT2⟩
        go_wp2
        go_roundw
        case rel => exact ⟨i + 1, by omega, by go_num, HE.out ▸ hW2, hTr.trans hT2⟩
        case measure => simp [intOf]; omega
      · have hlt' : ¬ (i : Int) < (n : Int) := by omega
        go_wp2
        go_end0
        obtain rfl : i = n := by omega
        refine ⟨⟨_, rfl⟩, ?_, hTr⟩
        rw [hlst.out, ← andE_assoc, andE_ok]
        exact hW
    · have HE : Hid (andE (.ok l) (listE n most f) = .error e) := by
        unfold Hid
        rw [hlst.out, ← andE_assoc, andE_ok]
        have h1 : seqE f i = .error e := by
          cases hq : seqE f i with
          | error y => rw [hq] at hm1; simpa [andE] using hm1
          | ok y => rw [hq] at hm1; simp [andE] at hm1
        rw [seqE_err h1 n hi]; rfl
      have hW2 : Hid (WrP wr B b (.error e) K) := ⟨by simpa using e0, hX1⟩
      clear hm1 hX1 hW hX
      by_cases hlt : i < n
      · have hlt' : (i : Int) < (n : Int) := by omega
        go_wp2
        go_end0
        exact ⟨⟨_, rfl⟩, HE.out ▸ hW2.out, hTr⟩
      · have hlt' : ¬ (i : Int) < (n : Int) := by omega
        go_wp2
        go_end0
        exact ⟨⟨_, rfl⟩, HE.out ▸ hW2.out, hTr⟩
theorem list_anyEnc2 (B b c1 c2 : Nat) (r : Res) (K : Nat → Prop) (n most L M : Nat) (f : Nat → Res) (w : World) (h : WrP w B b r K) (hm : most ≤ 1000) (hl : lenE r L) (hL : L + 10 + most * M ≤ 100000000) (hf : ∀ i, i < n → lenE (f i) M)
    (hst : StepOk 31 c1 c2 B b K w n most L M f) :
    Calls Try.prog 28 #[.pointer (some ⟨b, 0, none⟩), .int .i64 n, .int .i64 most, .func (.func 31) #[] #[.pointer (some ⟨c1, 0, none⟩), .pointer (some ⟨c2, 0, none⟩)]] w fun e' w' => (∃ u, e' = .returned u) ∧ WrP w' B b (andE r (listE n most f)) K ∧ WrT B K w w' := by
  cases r with
  | error e =>
    obtain ⟨he, hX⟩ := h
    exact (list_errEnc2 B b c1 c2 e K n most w hX (by simpa using he)).mono fun e' w' ⟨hu, hw⟩ => ⟨hu, by subst hw; exact ⟨he, hX⟩, by subst hw; exact WrT.refl _ _ _⟩
  | ok l =>
    by_cases hn : n ≤ most
    · exact list_okEnc2 B b c1 c2 l K n most L M f w (WrX.e h) (number_any B b l 0 K n w h (by omega) (by have := hl l rfl; omega)) hn hm (hl l rfl) hL hf hst
    · refine (list_bigEnc2 B b c1 c2 K n most w (WrX.e h) (by omega)).mono fun e' w' ⟨hu, hX, hT⟩ => ⟨hu, ?_, hT⟩
      rw [listE, if_pos (by omega)]; exact ⟨by decide, hX⟩
set_option maxRecDepth 100000 in
set_option maxHeartbeats 2000000 in
theorem list_errCls1 (B b c1 c2 : Nat) (e : Int) (K : Nat → Prop) (n most : Nat) (w : World) (h : WrE w B b e K) (he : (e == 0) = false) :
    Calls Try.prog 28 #[.pointer (some ⟨b, 0, none⟩), .int .i64 n, .int .i64 most, .func (.func 51) #[] #[.pointer (some ⟨c1, 0, none⟩), .pointer (some ⟨c2, 0, none⟩)]] w fun e' w' => (∃ u, e' = .returned u) ∧ w = w' := by
  obtain ⟨h1, h2⟩ := h.errCell
  have he' : (e != 0) = true := by simpa using he
  clear h he
  go_enter Try.func28, Try.ntmps28
  go_wp2
  refine bodyPost_ret (results_none rfl _ _ _) rfl ?_
  exact ⟨⟨_, rfl⟩, rfl⟩
set_option maxRecDepth 100000 in
set_option maxHeartbeats 2000000 in
theorem list_bigCls1 (B b c1 c2 : Nat) (K : Nat → Prop) (n most : Nat) (w : World) (h : WrE w B b 0 K) (hn : most < n) :
    Calls Try.prog 28 #[.pointer (some ⟨b, 0, none⟩), .int .i64 n, .int .i64 most, .func (.func 51) #[] #[.pointer (some ⟨c1, 0, none⟩), .pointer (some ⟨c2, 0, none⟩)]] w fun e' w' => (∃ u, e' = .returned u) ∧ WrE w' B b 3 K ∧ WrT B K w w' := by
  obtain ⟨h1, h2⟩ := h.errCell
  have H := Lib.hid (h.fail 3)
  have hn' : (most : Int) < (n : Int) := by omega
  clear h
  go_enter Try.func28, Try.ntmps28
  go_wp2
  refine bodyPost_ret (results_none rfl _ _ _) rfl ?_
  exact ⟨⟨_, rfl⟩, H.out⟩
set_option maxRecDepth 100000 in
set_option maxHeartbeats 2000000 in
theorem list_okCls1 (B b c1 c2 : Nat) (l : List UInt8) (K : Nat → Prop) (n most L M : Nat) (f : Nat → Res) (w : World) (h : WrE w B b 0 K) (NB : Hid (Calls Try.prog 49 #[.pointer (some ⟨b, 0, none⟩), .int .u64 n] w fun e' w' => (∃ u, e' = .returned u) ∧ WrX w' B b (l ++ numB n) 0 K ∧ WrT B K w w')) (hn : n ≤ most) (hm : most ≤ 1000) (hl : l.length ≤ L) (hL : L + 10 + most * M ≤ 100000000) (hf : Hid (∀ i, i < n → lenE (f i) M))
    (hst : Hid (StepOk 51 c1 c2 B b K w n most L M f)) :
    Calls Try.prog 28 #[.pointer (some ⟨b, 0, none⟩), .int .i64 n, .int .i64 most, .func (.func 51) #[] #[.pointer (some ⟨c1, 0, none⟩), .pointer (some ⟨c2, 0, none⟩)]] w fun e' w' => (∃ u, e' = .returned u) ∧ WrP w' B b (andE (.ok l) (listE n most f)) K ∧ WrT B K w w' := by
  obtain ⟨h1, h2⟩ := h.errCell
  have hn' : ¬ (most : Int) < (n : Int) := by omega
  have hlst : Hid (listE n most f = andE (.ok (numB n)) (seqE f n)) := by unfold Hid listE; rw [if_neg (by omega)]
  have hlen : Hid (l.length ≤ L ∧ L + 10 + most * M ≤ 100000000) := ⟨hl, hL⟩
  clear h hl hL
  go_enter Try.func28, Try.ntmps28
  go_wp2_with fail
  refine NB.out.mono ?_
  rintro e w1 ⟨⟨u, rfl⟩, hX, hT⟩
  go_wp2_with fail
  go_loopw [8] (fun x wr => ∃ i : Nat, i ≤ n ∧ x = .int .i64 i ∧ WrP wr B b (andE (.ok (l ++ numB n)) (seqE f i)) K ∧ WrT B K w wr) (fun x _ => n - (intOf x).toNat)
  case atStart => exact ⟨0, Nat.zero_le _, rfl, by rw [seqE, andE_nil]; exact hX, hT⟩
  case round =>
    obtain ⟨i, hi, rfl, hW, hTr⟩ := hrel
    obtain ⟨e, c0, cf, hcase⟩ := hW.cell
    rcases hcase with ⟨e0, m, hm1, hX1⟩ | ⟨e0, hm1, hX1⟩
    · by_cases hlt : i < n
      · have hlt' : (i : Int) < (n : Int) := by omega
        have hsl : m.length ≤ L + 10 + most * M := by
          have h1 := lenE_seq (n := i) (M := M) (fun j hj => hf.out j (by omega))
          have h2 : lenE (.ok (l ++ numB n)) (L + 10) := fun q e => by injection e with e; subst e; have := numB_len10 (n := n) (by omega); have := hlen.out.1; simp; omega
          have h3 := lenE_and h2 h1 m hm1
          have h4 : i * M ≤ most * M := Nat.mul_le_mul_right M (by omega)
          omega
        have ST := Lib.hid (hst.out i m wr hlt hn hX1 hTr hsl)
        have HE : Hid (andE (.ok m) (f i) = andE (.ok (l ++ numB n)) (seqE f (i + 1))) := by unfold Hid; rw [← hm1, seqE, andE_assoc]
        clear hm1 hX1 hX
        go_wp2_with fail
        refine ST.out.mono ?_
        rintro e' w2 ⟨⟨u2, rfl⟩, hW2, hT2⟩
        go_wp2
        go_roundw
        case rel => exact ⟨i + 1, by omega, by go_num, HE.out ▸ hW2, hTr.trans hT2⟩
        case measure => simp [intOf]; omega
      · have hlt' : ¬ (i : Int) < (n : Int) := by omega
        go_wp2
        go_end0
        obtain rfl : i = n := by omega
        refine ⟨⟨_, rfl⟩, ?_, hTr⟩
        rw [hlst.out, ← andE_assoc, andE_ok]
        exact hW
    · have HE : Hid (andE (.ok l) (listE n most f) = .error e) := by
        unfold Hid
        rw [hlst.out, ← andE_assoc, andE_ok]
        have h1 : seqE f i = .error e := by
          cases hq : seqE f i with
          | error y => rw [hq] at hm1; simpa [andE] using hm1
          | ok y => rw [hq] at hm1; simp [andE] at hm1
        rw [seqE_err h1 n hi]; rfl
      have hW2 : Hid (WrP wr B b (.error e) K) := ⟨by simpa using e0, hX1⟩
      clear hm1 hX1 hW hX
      by_cases hlt : i < n
      · have hlt' : (i : Int) < (n : Int) := by omega
        go_wp2
        go_end0
        exact ⟨⟨_, rfl⟩, HE.out ▸ hW2.out, hTr⟩
      · have hlt' : ¬ (i : Int) < (n : Int) := by omega
        go_wp2
        go_end0
        exact ⟨⟨_, rfl⟩, HE.out ▸ hW2.out, hTr⟩
theorem list_anyCls1 (B b c1 c2 : Nat) (r : Res) (K : Nat → Prop) (n most L M : Nat) (f : Nat → Res) (w : World) (h : WrP w B b r K) (hm : most ≤ 1000) (hl : lenE r L) (hL : L + 10 + most * M ≤ 100000000) (hf : ∀ i, i < n → lenE (f i) M)
    (hst : StepOk 51 c1 c2 B b K w n most L M f) :
    Calls Try.prog 28 #[.pointer (some ⟨b, 0, none⟩), .int .i64 n, .int .i64 most, .func (.func 51) #[] #[.pointer (some ⟨c1, 0, none⟩), .pointer (some ⟨c2, 0, none⟩)]] w fun e' w' => (∃ u, e' = .returned u) ∧ WrP w' B b (andE r (listE n most f)) K ∧ WrT B K w w' := by
  cases r with
  | error e =>
    obtain ⟨he, hX⟩ := h
    exact (list_errCls1 B b c1 c2 e K n most w hX (by simpa using he)).mono fun e' w' ⟨hu, hw⟩ => ⟨hu, by subst hw; exact ⟨he, hX⟩, by subst hw; exact WrT.refl _ _ _⟩
  | ok l =>
    by_cases hn : n ≤ most
    · exact list_okCls1 B b c1 c2 l K n most L M f w (WrX.e h) (number_any B b l 0 K n w h (by omega) (by have := hl l rfl; omega)) hn hm (hl l rfl) hL hf hst
    · refine (list_bigCls1 B b c1 c2 K n most w (WrX.e h) (by omega)).mono fun e' w' ⟨hu, hX, hT⟩ => ⟨hu, ?_, hT⟩
      rw [listE, if_pos (by omega)]; exact ⟨by decide, hX⟩
set_option maxRecDepth 100000 in
set_option maxHeartbeats 2000000 in
theorem list_errFun1 (B b c1 c2 : Nat) (e : Int) (K : Nat → Prop) (n most : Nat) (w : World) (h : WrE w B b e K) (he : (e == 0) = false) :
    Calls Try.prog 28 #[.pointer (some ⟨b, 0, none⟩), .int .i64 n, .int .i64 most, .func (.func 53) #[] #[.pointer (some ⟨c1, 0, none⟩), .pointer (some ⟨c2, 0, none⟩)]] w fun e' w' => (∃ u, e' = .returned u) ∧ w = w' := by
  obtain ⟨h1, h2⟩ := h.errCell
  have he' : (e != 0) = true := by simpa using he
  clear h he
  go_enter Try.func28, Try.ntmps28
  go_wp2
  refine bodyPost_ret (results_none rfl _ _ _) rfl ?_
  exact ⟨⟨_, rfl⟩, rfl⟩
set_option maxRecDepth 100000 in
set_option maxHeartbeats 2000000 in
theorem list_bigFun1 (B b c1 c2 : Nat) (K : Nat → Prop) (n most : Nat) (w : World) (h : WrE w B b 0 K) (hn : most < n) :
    Calls Try.prog 28 #[.pointer (some ⟨b, 0, none⟩), .int .i64 n, .int .i64 most, .func (.func 53) #[] #[.pointer (some ⟨c1, 0, none⟩), .pointer (some ⟨c2, 0, none⟩)]] w fun e' w' => (∃ u, e' = .returned u) ∧ WrE w' B b 3 K ∧ WrT B K w w' := by
  obtain ⟨h1, h2⟩ := h.errCell
  have H := Lib.hid (h.fail 3)
  have hn' : (most : Int) < (n : Int) := by omega
  clear h
  go_enter Try.func28, Try.ntmps28
  go_wp2
  refine bodyPost_ret (results_none rfl _ _ _) rfl ?_
  exact ⟨⟨_, rfl⟩, H.out⟩
set_option maxRecDepth 100000 in
set_option maxHeartbeats 2000000 in
theorem list_okFun1 (B b c1 c2 : Nat) (l : List UInt8) (K : Nat → Prop) (n most L M : Nat) (f : Nat → Res) (w : World) (h : WrE w B b 0 K) (NB : Hid (Calls Try.prog 49 #[.pointer (some ⟨b, 0, none⟩), .int .u64 n] w fun e' w' => (∃ u, e' = .returned u) ∧ WrX w' B b (l ++ numB n) 0 K ∧ WrT B K w w')) (hn : n ≤ most) (hm : most ≤ 1000) (hl : l.length ≤ L) (hL : L + 10 + most * M ≤ 100000000) (hf : Hid (∀ i, i < n → lenE (f i) M))
    (hst : Hid (StepOk 53 c1 c2 B b K w n most L M f)) :
    Calls Try.prog 28 #[.pointer (some ⟨b, 0, none⟩), .int .i64 n, .int .i64 most, .func (.func 53) #[] #[.pointer (some ⟨c1, 0, none⟩), .pointer (some ⟨c2, 0, none⟩)]] w fun e' w' => (∃ u, e' = .returned u) ∧ WrP w' B b (andE (.ok l) (listE n most f)) K ∧ WrT B K w w' := by
  obtain ⟨h1, h2⟩ := h.errCell
  have hn' : ¬ (most : Int) < (n : Int) := by omega
  have hlst : Hid (listE n most f = andE (.ok (numB n)) (seqE f n)) := by unfold Hid listE; rw [if_neg (by omega)]
  have hlen : Hid (l.length ≤ L ∧ L + 10 + most * M ≤ 100000000) := ⟨hl, hL⟩
  clear h hl hL
  go_enter Try.func28, Try.ntmps28
  go_wp2_with fail
  refine NB.out.mono ?_
  rintro e w1 ⟨⟨u, rfl⟩, hX, hT⟩
  go_wp2_with fail
  go_loopw [8] (fun x wr => ∃ i : Nat, i ≤ n ∧ x = .int .i64 i ∧ WrP wr B b (andE (.ok (l ++ numB n)) (seqE f i)) K ∧ WrT B K w wr) (fun x _ => n - (intOf x).toNat)
  case atStart => exact ⟨0, Nat.zero_le _, rfl, by rw [seqE, andE_nil]; exact hX, hT⟩
  case round =>
    obtain ⟨i, hi, rfl, hW, hTr⟩ := hrel
    obtain ⟨e, c0, cf, hcase⟩ := hW.cell
    rcases hcase with ⟨e0, m, hm1, hX1⟩ | ⟨e0, hm1, hX1⟩
    · by_cases hlt : i < n
      · have hlt' : (i : Int) < (n : Int) := by omega
        have hsl : m.length ≤ L + 10 + most * M := by
          have h1 := lenE_seq (n := i) (M := M) (fun j hj => hf.out j (by omega))
          have h2 : lenE (.ok (l ++ numB n)) (L + 10) := fun q e => by injection e with e; subst e; have := numB_len10 (n := n) (by omega); have := hlen.out.1; simp; omega
          have h3 := lenE_and h2 h1 m hm1
          have h4 : i * M ≤ most * M := Nat.mul_le_mul_right M (by omega)
          omega
        have ST := Lib.hid (hst.out i m wr hlt hn hX1 hTr hsl)
        have HE : Hid (andE (.ok m) (f i) = andE (.ok (l ++ numB n)) (seqE f (i + 1))) := by unfold Hid; rw [← hm1, seqE, andE_assoc]
        clear hm1 hX1 hX
        go_wp2_with fail
        refine ST.out.mono ?_
        rintro e' w2 ⟨⟨u2, rfl⟩, hW2, hT2⟩
        go_wp2
        go_roundw
        case rel => exact ⟨i + 1, by omega, by go_num, HE.out ▸ hW2, hTr.trans hT2⟩
        case measure => simp [intOf]; omega
      · have hlt' : ¬ (i : Int) < (n : Int) := by omega
        go_wp2
        go_end0
        obtain rfl : i = n := by omega
        refine ⟨⟨_, rfl⟩, ?_, hTr⟩
        rw [hlst.out, ← andE_assoc, andE_ok]
        exact hW
    · have HE : Hid (andE (.ok l) (listE n most f) = .error e) := by
        unfold Hid
        rw [hlst.out, ← andE_assoc, andE_ok]
        have h1 : seqE f i = .error e := by
          cases hq : seqE f i with
          | error y => rw [hq] at hm1; simpa [andE] using hm1
          | ok y => rw [hq] at hm1; simp [andE] at hm1
        rw [seqE_err h1 n hi]; rfl
      have hW2 : Hid (WrP wr B b (.error e) K) := ⟨by simpa using e0, hX1⟩
      clear hm1 hX1 hW hX
      by_cases hlt : i < n
      · have hlt' : (i : Int) < (n : Int) := by omega
        go_wp2
        go_end0
        exact ⟨⟨_, rfl⟩, HE.out ▸ hW2.out, hTr⟩
      · have hlt' : ¬ (i : Int) < (n : Int) := by omega
        go_wp2
        go_end0
        exact ⟨⟨_, rfl⟩, HE.out ▸ hW2.out, hTr⟩
theorem list_anyFun1 (B b c1 c2 : Nat) (r : Res) (K : Nat → Prop) (n most L M : Nat) (f : Nat → Res) (w : World) (h : WrP w B b r K) (hm : most ≤ 1000) (hl : lenE r L) (hL : L + 10 + most * M ≤ 100000000) (hf : ∀ i, i < n → lenE (f i) M)
    (hst : StepOk 53 c1 c2 B b K w n most L M f) :
    Calls Try.prog 28 #[.pointer (some ⟨b, 0, none⟩), .int .i64 n, .int .i64 most, .func (.func 53) #[] #[.pointer (some ⟨c1, 0, none⟩), .pointer (some ⟨c2, 0, none⟩)]] w fun e' w' => (∃ u, e' = .returned u) ∧ WrP w' B b (andE r (listE n most f)) K ∧ WrT B K w w' := by
  cases r with
  | error e =>
    obtain ⟨he, hX⟩ := h
    exact (list_errFun1 B b c1 c2 e K n most w hX (by simpa using he)).mono fun e' w' ⟨hu, hw⟩ => ⟨hu, by subst hw; exact ⟨he, hX⟩, by subst hw; exact WrT.refl _ _ _⟩
  | ok l =>
    by_cases hn : n ≤ most
    · exact list_okFun1 B b c1 c2 l K n most L M f w (WrX.e h) (number_any B b l 0 K n w h (by omega) (by have := hl l rfl; omega)) hn hm (hl l rfl) hL hf hst
    · refine (list_bigFun1 B b c1 c2 K n most w (WrX.e h) (by omega)).mono fun e' w' ⟨hu, hX, hT⟩ => ⟨hu, ?_, hT⟩
      rw [listE, if_pos (by omega)]; exact ⟨by decide, hX⟩
set_option maxRecDepth 100000 in
set_option maxHeartbeats 2000000 in
theorem list_errFun2 (B b c1 c2 : Nat) (e : Int) (K : Nat → Prop) (n most : Nat) (w : World) (h : WrE w B b e K) (he : (e == 0) = false) :
    Calls Try.prog 28 #[.pointer (some ⟨b, 0, none⟩), .int .i64 n, .int .i64 most, .func (.func 54) #[] #[.pointer (some ⟨c1, 0, none⟩), .pointer (some ⟨c2, 0, none⟩)]] w fun e' w' => (∃ u, e' = .returned u) ∧ w = w' := by
  obtain ⟨h1, h2⟩ := h.errCell
  have he' : (e != 0) = true := by simpa using he
  clear h he
  go_enter Try.func28, Try.ntmps28
  go_wp2
  refine bodyPost_ret (results_none rfl _ _ _) rfl ?_
  exact ⟨⟨_, rfl⟩, rfl⟩
set_option maxRecDepth 100000 in
set_option maxHeartbeats 2000000 in
theorem list_bigFun2 (B b c1 c2 : Nat) (K : Nat → Prop) (n most : Nat) (w : World) (h : WrE w B b 0 K) (hn : most < n) :
    Calls Try.prog 28 #[.pointer (some ⟨b, 0, none⟩), .int .i64 n, .int .i64 most, .func (.func 54) #[] #[.pointer (some ⟨c1, 0, none⟩), .pointer (some ⟨c2, 0, none⟩)]] w fun e' w' => (∃ u, e' = .returned u) ∧ WrE w' B b 3 K ∧ WrT B K w w' := by
  obtain ⟨h1, h2⟩ := h.errCell
  have H := Lib.hid (h.fail 3)
  have hn' : (most : Int) < (n : Int) := by omega
  clear h
  go_enter Try.func28, Try.ntmps28
  go_wp2
  refine bodyPost_ret (results_none rfl _ _ _) rfl ?_
  exact ⟨⟨_, rfl⟩, H.out⟩
set_option maxRecDepth 100000 in
set_option maxHeartbeats 2000000 in
theorem list_okFun2 (B b c1 c2 : Nat) (l : List UInt8) (K : Nat → Prop) (n most L M : Nat) (f : Nat → Res) (w : World) (h : WrE w B b 0 K) (NB : Hid (Calls Try.prog 49 #[.pointer (some ⟨b, 0, none⟩), .int .u64 n] w fun e' w' => (∃ u, e' = .returned u) ∧ WrX w' B b (l ++ numB n) 0 K ∧ WrT B K w w')) (hn : n ≤ most) (hm : most ≤ 1000) (hl : l.length ≤ L) (hL : L + 10 + most * M ≤ 100000000) (hf : Hid (∀ i, i < n → lenE (f i) M))
    (hst : Hid (StepOk 54 c1 c2 B b K w n most L M f)) :
    Calls Try.prog 28 #[.pointer (some ⟨b, 0, none⟩), .int .i64 n, .int .i64 most, .func (.func 54) #[] #[.pointer (some ⟨c1, 0, none⟩), .pointer (some ⟨c2, 0, none⟩)]] w fun e' w' => (∃ u, e' = .returned u) ∧ WrP w' B b (andE (.ok l) (listE n most f)) K ∧ WrT B K w w' := by
  obtain ⟨h1, h2⟩ := h.errCell
  have hn' : ¬ (most : Int) < (n : Int) := by omega
  have hlst : Hid (listE n most f = andE (.ok (numB n)) (seqE f n)) := by unfold Hid listE; rw [if_neg (by omega)]
  have hlen : Hid (l.length ≤ L ∧ L + 10 + most * M ≤ 100000000) := ⟨hl, hL⟩
  clear h hl hL
  go_enter Try.func28, Try.ntmps28
  go_wp2_with fail
  refine NB.out.mono ?_
  rintro e w1 ⟨⟨u, rfl⟩, hX, hT⟩
  go_wp2_with fail
  go_loopw [8] (fun x wr => ∃ i : Nat, i ≤ n ∧ x = .int .i64 i ∧ WrP wr B b (andE (.ok (l ++ numB n)) (seqE f i)) K ∧ WrT B K w wr) (fun x _ => n - (intOf x).toNat)
  case atStart => exact ⟨0, Nat.zero_le _, rfl, by rw [seqE, andE_nil]; exact hX, hT⟩
  case round =>
    obtain ⟨i, hi, rfl, hW, hTr⟩ := hrel
    obtain ⟨e, c0, cf, hcase⟩ := hW.cell
    rcases hcase with ⟨e0, m, hm1, hX1⟩ | ⟨e0, hm1, hX1⟩
    · by_cases hlt : i < n
      · have hlt' : (i : Int) < (n : Int) := by omega
        have hsl : m.length ≤ L + 10 + most * M := by
          have h1 := lenE_seq (n := i) (M := M) (fun j hj => hf.out j (by omega))
          have h2 : lenE (.ok (l ++ numB n)) (L + 10) := fun q e => by injection e with e; subst e; have := numB_len10 (n := n) (by omega); have := hlen.out.1; simp; omega
          have h3 := lenE_and h2 h1 m hm1
          have h4 : i * M ≤ most * M := Nat.mul_le_mul_right M (by omega)
          omega
        have ST := Lib.hid (hst.out i m wr hlt hn hX1 hTr hsl)
        have HE : Hid (andE (.ok m) (f i) = andE (.ok (l ++ numB n)) (seqE f (i + 1))) := by unfold Hid; rw [← hm1, seqE, andE_assoc]
        clear hm1 hX1 hX
        go_wp2_with fail
        refine ST.out.mono ?_
        rintro e' w2 ⟨⟨u2, rfl⟩, hW2, hT2⟩
        go_wp2
        go_roundw
        case rel => exact ⟨i + 1, by omega, by go_num, HE.out ▸ hW2, hTr.trans hT2⟩
        case measure => simp [intOf]; omega
      · have hlt' : ¬ (i : Int) < (n : Int) := by omega
        go_wp2
        go_end0
        obtain rfl : i = n := by omega
        refine ⟨⟨_, rfl⟩, ?_, hTr⟩
        rw [hlst.out, ← andE_assoc, andE_ok]
        exact hW
    · have HE : Hid (andE (.ok l) (listE n most f) = .error e) := by
        unfold Hid
        rw [hlst.out, ← andE_assoc, andE_ok]
        have h1 : seqE f i = .error e := by
          cases hq : seqE f i with
          | error y => rw [hq] at hm1; simpa [andE] using hm1
          | ok y => rw [hq] at hm1; simp [andE] at hm1
        rw [seqE_err h1 n hi]; rfl
      have hW2 : Hid (WrP wr B b (.error e) K) := ⟨by simpa using e0, hX1⟩
      clear hm1 hX1 hW hX
      by_cases hlt : i < n
      · have hlt' : (i : Int) < (n : Int) := by omega
        go_wp2
        go_end0
        exact ⟨⟨_, rfl⟩, HE.out ▸ hW2.out, hTr⟩
      · have hlt' : ¬ (i : Int) < (n : Int) := by omega
        go_wp2
        go_end0
        exact ⟨⟨_, rfl⟩, HE.out ▸ hW2.out, hTr⟩
theorem list_anyFun2 (B b c1 c2 : Nat) (r : Res) (K : Nat → Prop) (n most L M : Nat) (f : Nat → Res) (w : World) (h : WrP w B b r K) (hm : most ≤ 1000) (hl : lenE r L) (hL : L + 10 + most * M ≤ 100000000) (hf : ∀ i, i < n → lenE (f i) M)
    (hst : StepOk 54 c1 c2 B b K w n most L M f) :
    Calls Try.prog 28 #[.pointer (some ⟨b, 0, none⟩), .int .i64 n, .int .i64 most, .func (.func 54) #[] #[.pointer (some ⟨c1, 0, none⟩), .pointer (some ⟨c2, 0, none⟩)]] w fun e' w' => (∃ u, e' = .returned u) ∧ WrP w' B b (andE r (listE n most f)) K ∧ WrT B K w w' := by
  cases r with
  | error e =>
    obtain ⟨he, hX⟩ := h
    exact (list_errFun2 B b c1 c2 e K n most w hX (by simpa using he)).mono fun e' w' ⟨hu, hw⟩ => ⟨hu, by subst hw; exact ⟨he, hX⟩, by subst hw; exact WrT.refl _ _ _⟩
  | ok l =>
    by_cases hn : n ≤ most
    · exact list_okFun2 B b c1 c2 l K n most L M f w (WrX.e h) (number_any B b l 0 K n w h (by omega) (by have := hl l rfl; omega)) hn hm (hl l rfl) hL hf hst
    · refine (list_bigFun2 B b c1 c2 K n most w (WrX.e h) (by omega)).mono fun e' w' ⟨hu, hX, hT⟩ => ⟨hu, ?_, hT⟩
      rw [listE, if_pos (by omega)]; exact ⟨by decide, hX⟩
set_option maxRecDepth 100000 in
set_option maxHeartbeats 2000000 in
theorem list_errFun3 (B b c1 c2 : Nat) (e : Int) (K : Nat → Prop) (n most : Nat) (w : World) (h : WrE w B b e K) (he : (e == 0) = false) :
    Calls Try.prog 28 #[.pointer (some ⟨b, 0, none⟩), .int .i64 n, .int .i64 most, .func (.func 55) #[] #[.pointer (some ⟨c1, 0, none⟩), .pointer (some ⟨c2, 0, none⟩)]] w fun e' w' => (∃ u, e' = .returned u) ∧ w = w' := by
  obtain ⟨h1, h2⟩ := h.errCell
  have he' : (e != 0) = true := by simpa using he
  clear h he
  go_enter Try.func28, Try.ntmps28
  go_wp2
  refine bodyPost_ret (results_none rfl _ _ _) rfl ?_
  exact ⟨⟨_, rfl⟩, rfl⟩
set_option maxRecDepth 100000 in
set_option maxHeartbeats 2000000 in
theorem list_bigFun3 (B b c1 c2 : Nat) (K : Nat → Prop) (n most : Nat) (w : World) (h : WrE w B b 0 K) (hn : most < n) :
    Calls Try.prog 28 #[.pointer (some ⟨b, 0, none⟩), .int .i64 n, .int .i64 most, .func (.func 55) #[] #[.pointer (some ⟨c1, 0, none⟩), .pointer (some ⟨c2, 0, none⟩)]] w fun e' w' => (∃ u, e' = .returned u) ∧ WrE w' B b 3 K ∧ WrT B K w w' := by
  obtain ⟨h1, h2⟩ := h.errCell
  have H := Lib.hid (h.fail 3)
  have hn' : (most : Int) < (n : Int) := by omega
  clear h
  go_enter Try.func28, Try.ntmps28
  go_wp2
  refine bodyPost_ret (results_none rfl _ _ _) rfl ?_
  exact ⟨⟨_, rfl⟩, H.out⟩
set_option maxRecDepth 100000 in
set_option maxHeartbeats 2000000 in
theorem list_okFun3 (B b c1 c2 : Nat) (l : List UInt8) (K : Nat → Prop) (n most L M : Nat) (f : Nat → Res) (w : World) (h : WrE w B b 0 K) (NB : Hid (Calls Try.prog 49 #[.pointer (some ⟨b, 0, none⟩), .int .u64 n] w fun e' w' => (∃ u, e' = .returned u) ∧ WrX w' B b (l ++ numB n) 0 K ∧ WrT B K w w')) (hn : n ≤ most) (hm : most ≤ 1000) (hl : l.length ≤ L) (hL : L + 10 + most * M ≤ 100000000) (hf : Hid (∀ i, i < n → lenE (f i) M))
    (hst : Hid (StepOk 55 c1 c2 B b K w n most L M f)) :
    Calls Try.prog 28 #[.pointer (some ⟨b, 0, none⟩), .int .i64 n, .int .i64 most, .func (.func 55) #[] #[.pointer (some ⟨c1, 0, none⟩), .pointer (some ⟨c2, 0, none⟩)]] w fun e' w' => (∃ u, e' = .returned u) ∧ WrP w' B b (andE (.ok l) (listE n most f)) K ∧ WrT B K w w' := by
  obtain ⟨h1, h2⟩ := h.errCell
  have hn' : ¬ (most : Int) < (n : Int) := by omega
  have hlst : Hid (listE n most f = andE (.ok (numB n)) (seqE f n)) := by unfold Hid listE; rw [if_neg (by omega)]
  have hlen : Hid (l.length ≤ L ∧ L + 10 + most * M ≤ 100000000) := ⟨hl, hL⟩
  clear h hl hL
  go_enter Try.func28, Try.ntmps28
  go_wp2_with fail
  refine NB.out.mono ?_
  rintro e w1 ⟨⟨u, rfl⟩, hX, hT⟩
  go_wp2_with fail
  go_loopw [8] (fun x wr => ∃ i : Nat, i ≤ n ∧ x = .int .i64 i ∧ WrP wr B b (andE (.ok (l ++ numB n)) (seqE f i)) K ∧ WrT B K w wr) (fun x _ => n - (intOf x).toNat)
  case atStart => exact ⟨0, Nat.zero_le _, rfl, by rw [seqE, andE_nil]; exact hX, hT⟩
  case round =>
    obtain ⟨i, hi, rfl, hW, hTr⟩ := hrel
    obtain ⟨e, c0, cf, hcase⟩ := hW.cell
    rcases hcase with ⟨e0, m, hm1, hX1⟩ | ⟨e0, hm1, hX1⟩
    · by_cases hlt : i < n
      · have hlt' : (i : Int) < (n : Int) := by omega
        have hsl : m.length ≤ L + 10 + most * M := by
          have h1 := lenE_seq (n := i) (M := M) (fun j hj => hf.out j (by omega))
          have h2 : lenE (.ok (l ++ numB n)) (L + 10) := fun q e => by injection e with e; subst e; have := numB_len10 (n := n) (by omega); have := hlen.out.1; simp; omega
          have h3 := lenE_and h2 h1 m hm1
          have h4 : i * M ≤ most * M := Nat.mul_le_mul_right M (by omega)
          omega
        have ST := Lib.hid (hst.out i m wr hlt hn hX1 hTr hsl)
        have HE : Hid (andE (.ok m) (f i) = andE (.ok (l ++ numB n)) (seqE f (i + 1))) := by unfold Hid; rw [← hm1, seqE, andE_assoc]
        clear hm1 hX1 hX
        go_wp2_with fail
        refine ST.out.mono ?_
        rintro e' w2 ⟨⟨u2, rfl⟩, hW2, hT2⟩
        go_wp2
        go_roundw
        case rel => exact ⟨i + 1, by omega, by go_num, HE.out ▸ hW2, hTr.trans hT2⟩
        case measure => simp [intOf]; omega
      · have hlt' : ¬ (i : Int) < (n : Int) := by omega
        go_wp2
        go_end0
        obtain rfl : i = n := by omega
        refine ⟨⟨_, rfl⟩, ?_, hTr⟩
        rw [hlst.out, ← andE_assoc, andE_ok]
        exact hW
    · have HE : Hid (andE (.ok l) (listE n most f) = .error e) := by
        unfold Hid
        rw [hlst.out, ← andE_assoc, andE_ok]
        have h1 : seqE f i = .error e := by
          cases hq : seqE f i with
          | error y => rw [hq] at hm1; simpa [andE] using hm1
          | ok y => rw [hq] at hm1; simp [andE] at hm1
        rw [seqE_err h1 n hi]; rfl
      have hW2 : Hid (WrP wr B b (.error e) K) := ⟨by simpa using e0, hX1⟩
      clear hm1 hX1 hW hX
      by_cases hlt : i < n
      · have hlt' : (i : Int) < (n : Int) := by omega
        go_wp2
        go_end0
        exact ⟨⟨_, rfl⟩, HE.out ▸ hW2.out, hTr⟩
      · have hlt' : ¬ (i : Int) < (n : Int) := by omega
        go_wp2
        go_end0
        exact ⟨⟨_, rfl⟩, HE.out ▸ hW2.out, hTr⟩
theorem list_anyFun3 (B b c1 c2 : Nat) (r : Res) (K : Nat → Prop) (n most L M : Nat) (f : Nat → Res) (w : World) (h : WrP w B b r K) (hm : most ≤ 1000) (hl : lenE r L) (hL : L + 10 + most * M ≤ 100000000) (hf : ∀ i, i < n → lenE (f i) M)
    (hst : StepOk 55 c1 c2 B b K w n most L M f) :
    Calls Try.prog 28 #[.pointer (some ⟨b, 0, none⟩), .int .i64 n, .int .i64 most, .func (.func 55) #[] #[.pointer (some ⟨c1, 0, none⟩), .pointer (some ⟨c2, 0, none⟩)]] w fun e' w' => (∃ u, e' = .returned u) ∧ WrP w' B b (andE r (listE n most f)) K ∧ WrT B K w w' := by
  cases r with
  | error e =>
    obtain ⟨he, hX⟩ := h
    exact (list_errFun3 B b c1 c2 e K n most w hX (by simpa using he)).mono fun e' w' ⟨hu, hw⟩ => ⟨hu, by subst hw; exact ⟨he, hX⟩, by subst hw; exact WrT.refl _ _ _⟩
  | ok l =>
    by_cases hn : n ≤ most
    · exact list_okFun3 B b c1 c2 l K n most L M f w (WrX.e h) (number_any B b l 0 K n w h (by omega) (by have := hl l rfl; omega)) hn hm (hl l rfl) hL hf hst
    · refine (list_bigFun3 B b c1 c2 K n most w (WrX.e h) (by omega)).mono fun e' w' ⟨hu, hX, hT⟩ => ⟨hu, ?_, hT⟩
      rw [listE, if_pos (by omega)]; exact ⟨by decide, hX⟩
set_option maxRecDepth 100000 in
set_option maxHeartbeats 2000000 in
theorem list_errNam1 (B b c1 c2 : Nat) (e : Int) (K : Nat → Prop) (n most : Nat) (w : World) (h : WrE w B b e K) (he : (e == 0) = false) :
    Calls Try.prog 28 #[.pointer (some ⟨b, 0, none⟩), .int .i64 n, .int .i64 most, .func (.func 63) #[] #[.pointer (some ⟨c1, 0, none⟩), .pointer (some ⟨c2, 0, none⟩)]] w fun e' w' => (∃ u, e' = .returned u) ∧ w = w' := by
  obtain ⟨h1, h2⟩ := h.errCell
  have he' : (e != 0) = true := by simpa using he
  clear h he
  go_enter Try.func28, Try.ntmps28
  go_wp2
  refine bodyPost_ret (results_none rfl _ _ _) rfl ?_
  exact ⟨⟨_, rfl⟩, rfl⟩
set_option maxRecDepth 100000 in
set_option maxHeartbeats 2000000 in
theorem list_bigNam1 (B b c1 c2 : Nat) (K : Nat → Prop) (n most : Nat) (w : World) (h : WrE w B b 0 K) (hn : most < n) :
    Calls Try.prog 28 #[.pointer (some ⟨b, 0, none⟩), .int .i64 n, .int .i64 most, .func (.func 63) #[] #[.pointer (some ⟨c1, 0, none⟩), .pointer (some ⟨c2, 0, none⟩)]] w fun e' w' => (∃ u, e' = .returned u) ∧ WrE w' B b 3 K ∧ WrT B K w w' := by
  obtain ⟨h1, h2⟩ := h.errCell
  have H := Lib.hid (h.fail 3)
  have hn' : (most : Int) < (n : Int) := by omega
  clear h
  go_enter Try.func28, Try.ntmps28
  go_wp2
  refine bodyPost_ret (results_none rfl _ _ _) rfl ?_
  exact ⟨⟨_, rfl⟩, H.out⟩
set_option maxRecDepth 100000 in
set_option maxHeartbeats 2000000 in
theorem list_okNam1 (B b c1 c2 : Nat) (l : List UInt8) (K : Nat → Prop) (n most L M : Nat) (f : Nat → Res) (w : World) (h : WrE w B b 0 K) (NB : Hid (Calls Try.prog 49 #[.pointer (some ⟨b, 0, none⟩), .int .u64 n] w fun e' w' => (∃ u, e' = .returned u) ∧ WrX w' B b (l ++ numB n) 0 K ∧ WrT B K w w')) (hn : n ≤ most) (hm : most ≤ 1000) (hl : l.length ≤ L) (hL : L + 10 + most * M ≤ 100000000) (hf : Hid (∀ i, i < n → lenE (f i) M))
    (hst : Hid (StepOk 63 c1 c2 B b K w n most L M f)) :
    Calls Try.prog 28 #[.pointer (some ⟨b, 0, none⟩), .int .i64 n, .int .i64 most, .func (.func 63) #[] #[.pointer (some ⟨c1, 0, none⟩), .pointer (some ⟨c2, 0, none⟩)]] w fun e' w' => (∃ u, e' = .returned u) ∧ WrP w' B b (andE (.ok l) (listE n most f)) K ∧ WrT B K w w' := by
  obtain ⟨h1, h2⟩ := h.errCell
  have hn' : ¬ (most : Int) < (n : Int) := by omega
  have hlst : Hid (listE n most f = andE (.ok (numB n)) (seqE f n)) := by unfold Hid listE; rw [if_neg (by omega)]
  have hlen : Hid (l.length ≤ L ∧ L + 10 + most * M ≤ 100000000) := ⟨hl, hL⟩
  clear h hl hL
  go_enter Try.func28, Try.ntmps28
  go_wp2_with fail
  refine NB.out.mono ?_
  rintro e w1 ⟨⟨u, rfl⟩, hX, hT⟩
  go_wp2_with fail
  go_loopw [8] (fun x wr => ∃ i : Nat, i ≤ n ∧ x = .int .i64 i ∧ WrP wr B b (andE (.ok (l ++ numB n)) (seqE f i)) K ∧ WrT B K w wr) (fun x _ => n - (intOf x).toNat)
  case atStart => exact ⟨0, Nat.zero_le _, rfl, by rw [seqE, andE_nil]; exact hX, hT⟩
  case round =>
    obtain ⟨i, hi, rfl, hW, hTr⟩ := hrel
    obtain ⟨e, c0, cf, hcase⟩ := hW.cell
    rcases hcase with ⟨e0, m, hm1, hX1⟩ | ⟨e0, hm1, hX1⟩
    · by_cases hlt : i < n
      · have hlt' : (i : Int) < (n : Int) := by omega
        have hsl : m.length ≤ L + 10 + most * M := by
          have h1 := lenE_seq (n := i) (M := M) (fun j hj => hf.out j (by omega))
          have h2 : lenE (.ok (l ++ numB n)) (L + 10) := fun q e => by injection e with e; subst e; have := numB_len10 (n := n) (by omega); have := hlen.out.1; simp; omega
          have h3 := lenE_and h2 h1 m hm1
          have h4 : i * M ≤ most * M := Nat.mul_le_mul_right M (by omega)
          omega
        have ST := Lib.hid (hst.out i m wr hlt hn hX1 hTr hsl)
        have HE : Hid (andE (.ok m) (f i) = andE (.ok (l ++ numB n)) (seqE f (i + 1))) := by unfold Hid; rw [← hm1, seqE, andE_assoc]
        clear hm1 hX1 hX
        go_wp2_with fail
        refine ST.out.mono ?_
        rintro e' w2 ⟨⟨u2, rfl⟩, hW2, hT2⟩
        go_wp2
        go_roundw
        case rel => exact ⟨i + 1, by omega, by go_num, HE.out ▸ hW2, hTr.trans hT2⟩
        case measure => simp [intOf]; omega
      · have hlt' : ¬ (i : Int) < (n : Int) := by omega
        go_wp2
        go_end0
        obtain rfl : i = n := by omega
        refine ⟨⟨_, rfl⟩, ?_, hTr⟩
        rw [hlst.out, ← andE_assoc, andE_ok]
        exact hW
    · have HE : Hid (andE (.ok l) (listE n most f) = .error e) := by
        unfold Hid
        rw [hlst.out, ← andE_assoc, andE_ok]
        have h1 : seqE f i = .error e := by
          cases hq : seqE f i with
          | error y => rw [hq] at hm1; simpa [andE] using hm1
          | ok y => rw [hq] at hm1; simp [andE] at hm1
        rw [seqE_err h1 n hi]; rfl
      have hW2 : Hid (WrP wr B b (.error e) K) := ⟨by simpa using e0, hX1⟩
      clear hm1 hX1 hW hX
      by_cases hlt : i < n
      · have hlt' : (i : Int) < (n : Int) := by omega
        go_wp2
        go_end0
        exact ⟨⟨_, rfl⟩, HE.out ▸ hW2.out, hTr⟩
      · have hlt' : ¬ (i : Int) < (n : Int) := by omega
        go_wp2
        go_end0
        exact ⟨⟨_, rfl⟩, HE.out ▸ hW2.out, hTr⟩
theorem list_anyNam1 (B b c1 c2 : Nat) (r : Res) (K : Nat → Prop) (n most L M : Nat) (f : Nat → Res) (w : World) (h : WrP w B b r K) (hm : most ≤ 1000) (hl : lenE r L) (hL : L + 10 + most * M ≤ 100000000) (hf : ∀ i, i < n → lenE (f i) M)
    (hst : StepOk 63 c1 c2 B b K w n most L M f) :
    Calls Try.prog 28 #[.pointer (some ⟨b, 0, none⟩), .int .i64 n, .int .i64 most, .func (.func 63) #[] #[.pointer (some ⟨c1, 0, none⟩), .pointer (some ⟨c2, 0, none⟩)]] w fun e' w' => (∃ u, e' = .returned u) ∧ WrP w' B b (andE r (listE n most f)) K ∧ WrT B K w w' := by
  cases r with
  | error e =>
    obtain ⟨he, hX⟩ := h
    exact (list_errNam1 B b c1 c2 e K n most w hX (by simpa using he)).mono fun e' w' ⟨hu, hw⟩ => ⟨hu, by subst hw; exact ⟨he, hX⟩, by subst hw; exact WrT.refl _ _ _⟩
  | ok l =>
    by_cases hn : n ≤ most
    · exact list_okNam1 B b c1 c2 l K n most L M f w (WrX.e h) (number_any B b l 0 K n w h (by omega) (by have := hl l rfl; omega)) hn hm (hl l rfl) hL hf hst
    · refine (list_bigNam1 B b c1 c2 K n most w (WrX.e h) (by omega)).mono fun e' w' ⟨hu, hX, hT⟩ => ⟨hu, ?_, hT⟩
      rw [listE, if_pos (by omega)]; exact ⟨by decide, hX⟩
end Go.Proofs.Ytffelcidckbohaa
/- code's writer: an append in a statement that draws its order. Condition: its blocks are there. -/
namespace Go.Proofs.Ytffelcidckbohaa
open Go.RowKit
set_option linter.unusedVariables false
theorem own_drew {w : World} {B n m : Nat} {e : TypeId} {v : Value} {xs : List Value} (h : w.ownsRow B e n v m xs) : w.drew.ownsRow B e n v m xs := h
theorem Wr_app_d {w w1 : World} {B b g cap : Nat} {bs : List UInt8} {e : Int} {K : Nat → Prop} {v : Value} {x : UInt8} {tmp : Obj} (h1 : Blk w b #[v, .int .i64 e] 73) (h2 : w.ownsRow B 5 1 v bs.length (u8L bs)) (h3 : ∀ g, v.ownBlock = some g → ¬ K g ∧ g ≠ b) (h4 : ¬ K b) (h5 : B ≤ b) (h6 : B ≤ w.heap.size) (h7 : ∀ x, K x → x < w.heap.size)
    (hown : w1.ownsRow B 5 1 (.slice (some ⟨g, 0, none⟩) (bs.length + 1) cap) (bs.length + 1) (u8L bs ++ [Value.int .u8 (x.toNat : Int)])) (hgrow : ((w.alloc tmp).drew).grownBy w1 v.ownBlock) (hat : v.ownBlock = some g ∨ g = w.heap.size + 1) :
    Blk w1 b #[v, .int .i64 e] 73 ∧ WrX (w1.setCell ⟨b, 0, none⟩ (.slice (some ⟨g, 0, none⟩) (bs.length + 1) cap)) B b (bs ++ [x]) e K ∧ WrT B K w (w1.setCell ⟨b, 0, none⟩ (.slice (some ⟨g, 0, none⟩) (bs.length + 1) cap)) ∧ (∀ c, K c → w1.heap[c]? = w.heap[c]?) := by
  have q := Wr_app (tmp := tmp) h1 h2 h3 h4 h5 h6 h7 hown ⟨hgrow.os, hgrow.tape, hgrow.output, hgrow.size, hgrow.block⟩ (by
    rcases hat with h | h
    · exact .inl (by rw [h]; rfl)
    · exact .inr (by rw [h]; simp [Value.ownBlock]))
  exact ⟨q.1, q.2.1, q.2.2, fun c hc => (hgrow.block c (by have := h7 c hc; show c < (w.alloc tmp).heap.size; simp; omega) (fun e => (h3 c e.symm).1 hc)).trans (Below.heap_alloc _ _ _ (h7 c hc))⟩
end Go.Proofs.Ytffelcidckbohaa
