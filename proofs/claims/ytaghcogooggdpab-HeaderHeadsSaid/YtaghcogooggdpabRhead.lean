/- What the document's functions on headers return. No condition but that each number fits its kind. -/
import Derived.Test.YtaghcogooggdpabHlaw
namespace Go.Proofs.Ytaghcogooggdpab
open Go.RowKit
set_option linter.unusedVariables false

theorem headB_eq1 (c l : Int) : headB c 1 l = decide (0 ≤ c ∧ c ≤ 15 ∧ 0 ≤ l ∧ l ≤ 15) := by
  unfold headB inB
  rw [if_pos rfl, ← Bool.decide_and]
  exact decide_eq_decide.2 (by omega)
theorem headB_eq23 (c k l : Int) (hk : k = 2 ∨ k = 3) : headB c k l = decide (c = 0 ∧ 0 ≤ l ∧ l ≤ 255) := by
  unfold headB inB
  rw [if_neg (by omega), if_pos hk, ← Bool.decide_and]

set_option maxHeartbeats 1000000 in
theorem isHead_any (c k l : Int) (w : World) :
    Calls Try.prog 37 #[.agg #[.int .i64 c, .int .i64 k, .int .i64 l]] w fun e w' => e = .returned (.bool (headB c k l)) ∧ Below w.heap.size w w' := by
  by_cases k1 : k = 1
  · subst k1
    by_cases h1 : 0 ≤ c
    · by_cases h2 : c ≤ 15
      · by_cases h3 : 0 ≤ l
        · have hb : headB c 1 l = decide (l ≤ 15) := by rw [headB_eq1]; exact decide_eq_decide.2 (by omega)
          rw [hb]; clear hb
          go_enter Try.func37, Try.ntmps37
          go_wp2
          go_ret
          exact ⟨rfl, (Below.refl _ _).alloc (Nat.le_refl _) _⟩
        · have hb : headB c 1 l = false := by rw [headB_eq1]; exact decide_eq_false (by omega)
          rw [hb]; clear hb
          go_enter Try.func37, Try.ntmps37
          go_wp2
          go_ret
          exact ⟨rfl, (Below.refl _ _).alloc (Nat.le_refl _) _⟩
      · have hb : headB c 1 l = false := by rw [headB_eq1]; exact decide_eq_false (by omega)
        rw [hb]; clear hb
        go_enter Try.func37, Try.ntmps37
        go_wp2
        go_ret
        exact ⟨rfl, (Below.refl _ _).alloc (Nat.le_refl _) _⟩
    · have hb : headB c 1 l = false := by rw [headB_eq1]; exact decide_eq_false (by omega)
      rw [hb]; clear hb
      go_enter Try.func37, Try.ntmps37
      go_wp2
      go_ret
      exact ⟨rfl, (Below.refl _ _).alloc (Nat.le_refl _) _⟩
  · by_cases hk : k = 2 ∨ k = 3
    · by_cases h1 : c = 0
      · subst h1
        by_cases h3 : 0 ≤ l
        · have hb : headB 0 k l = decide (l ≤ 255) := by rw [headB_eq23 _ _ _ hk]; exact decide_eq_decide.2 (by omega)
          rw [hb]; clear hb
          rcases hk with rfl | rfl
          all_goals
            go_enter Try.func37, Try.ntmps37
            go_wp2
            go_ret
            exact ⟨rfl, (Below.refl _ _).alloc (Nat.le_refl _) _⟩
        · have hb : headB 0 k l = false := by rw [headB_eq23 _ _ _ hk]; exact decide_eq_false (by omega)
          rw [hb]; clear hb
          rcases hk with rfl | rfl
          all_goals
            go_enter Try.func37, Try.ntmps37
            go_wp2
            go_ret
            exact ⟨rfl, (Below.refl _ _).alloc (Nat.le_refl _) _⟩
      · have hb : headB c k l = false := by rw [headB_eq23 _ _ _ hk]; exact decide_eq_false (by omega)
        rw [hb]; clear hb
        have hc : (c == 0) = false := beq_eq_false_iff_ne.2 h1
        clear h1
        rcases hk with rfl | rfl
        all_goals
          go_enter Try.func37, Try.ntmps37
          go_wp2
          go_ret
          exact ⟨rfl, (Below.refl _ _).alloc (Nat.le_refl _) _⟩
    · rw [headB_no c k l k1 (by omega) (by omega)]
      have e1 : (k == 1) = false := beq_eq_false_iff_ne.2 k1
      have e2 : (k == 2) = false := beq_eq_false_iff_ne.2 (by omega)
      have e3 : (k == 3) = false := beq_eq_false_iff_ne.2 (by omega)
      clear k1 hk
      go_enter Try.func37, Try.ntmps37
      go_wp2
      go_ret
      exact ⟨rfl, (Below.refl _ _).alloc (Nat.le_refl _) _⟩

def sgn (j : Nat) : Int := 165 * 256 ^ j
set_option maxHeartbeats 1000000 in
theorem renc_yes (c k l : Int) (w : World) (h : headB c k l = true) :
    Calls Try.prog 12 #[.agg #[.int .i64 c, .int .i64 k, .int .i64 l]] w fun e w' => e = .returned (.tuple #[.int .u64 (encH c k l), .int .i64 0]) ∧ Below w.heap.size w w' := by
  have hbd := headB_bd h
  have wk : IntKind.u64.wrap k = k := IntWalk.u64_in k (by omega)
  have wc : IntKind.u64.wrap c = c := IntWalk.u64_in c (by omega)
  have wl : IntKind.u64.wrap l = l := IntWalk.u64_in l (by omega)
  have w1 : IntKind.u64.wrap (l * 65536) = l * 65536 := IntWalk.u64_in _ (by omega)
  have w2 : IntKind.u64.wrap (c * 256) = c * 256 := IntWalk.u64_in _ (by omega)
  obtain ⟨T, hT, hT0⟩ : ∃ T : Int, T = 11889503016258109440 ∧ sgn 7 = T := ⟨_, rfl, by decide⟩
  have w3 : IntKind.u64.wrap (T + l * 65536) = T + l * 65536 := IntWalk.u64_in _ (by omega)
  have w4 : IntKind.u64.wrap (T + l * 65536 + c * 256) = T + l * 65536 + c * 256 := IntWalk.u64_in _ (by omega)
  have w5 : IntKind.u64.wrap (T + l * 65536 + c * 256 + k) = T + l * 65536 + c * 256 + k := IntWalk.u64_in _ (by omega)
  have he : encH c k l = T + l * 65536 + c * 256 + k := by rw [hT]; rfl
  have hstep : ∀ j : Nat, j < 7 → IntKind.u64.wrap (sgn j * 256) = sgn (j + 1) := by
    intro j hj
    match j, hj with
    | 0, _ => decide
    | 1, _ => decide
    | 2, _ => decide
    | 3, _ => decide
    | 4, _ => decide
    | 5, _ => decide
    | 6, _ => decide
  rw [he]
  have HS := Lib.hid hstep
  have HT := Lib.hid hT0
  clear hstep he hT hT0 hbd
  go_enter Try.func12, Try.ntmps12
  go_wp2_with (go_at_call 37; refine (isHead_any _ _ _ _).mono ?_; rintro e w1 ⟨rfl, hb⟩)
  have hH := (headAt_new w c k l 23).below hb
  have hA : Below w.heap.size w w1 := ((Below.refl _ _).alloc (Nat.le_refl _) _).trans (hb.mono (by simp))
  obtain ⟨a0, a1, a2⟩ := id hH
  go_loop [4, 5] (fun s i => ∃ j : Nat, j ≤ 7 ∧ i = .int .i64 j ∧ s = .int .u64 (sgn j)) (fun _ i => 7 - (intOf i).toNat)
  case atStart => exact ⟨0, Nat.zero_le _, rfl, rfl⟩
  case round =>
    obtain ⟨j, hj, rfl, rfl⟩ := hrel
    by_cases hlt : (j : Int) < 7
    · have hs := HS.out j (by omega)
      go_wp2
      go_round
      case rel => exact ⟨j + 1, by omega, by go_num, rfl⟩
      case measure => simp [intOf]; omega
    · obtain rfl : j = 7 := by omega
      rw [HT.out]
      go_wp2
      go_ret2
      exact ⟨rfl, hA⟩
set_option maxHeartbeats 1000000 in
theorem renc_no (c k l : Int) (w : World) (h : headB c k l = false) :
    Calls Try.prog 12 #[.agg #[.int .i64 c, .int .i64 k, .int .i64 l]] w fun e w' => e = .returned (.tuple #[.int .u64 0, .int .i64 4]) ∧ Below w.heap.size w w' := by
  go_enter Try.func12, Try.ntmps12
  go_wp2_with (go_at_call 37; refine (isHead_any _ _ _ _).mono ?_; rintro e w1 ⟨rfl, hb⟩)
  go_ret2
  exact ⟨rfl, ((Below.refl _ _).alloc (Nat.le_refl _) _).trans (hb.mono (by simp))⟩
theorem renc_any (c k l : Int) (w : World) :
    Calls Try.prog 12 #[.agg #[.int .i64 c, .int .i64 k, .int .i64 l]] w fun e w' => e = .returned (.tuple #[.int .u64 (encV c k l), .int .i64 (encF c k l)]) ∧ Below w.heap.size w w' := by
  unfold encV encF
  cases h : headB c k l with
  | true => exact renc_yes c k l w h
  | false => exact renc_no c k l w h

set_option maxHeartbeats 400000 in
theorem rwords_yes (c k l : Int) (w : World) (h : headB c k l = true) :
    Calls Try.prog 17 #[.agg #[.int .i64 c, .int .i64 k, .int .i64 l]] w fun e w' => e = .returned (.int .i64 (l + 1)) ∧ Below w.heap.size w w' := by
  have hbd := headB_bd h
  go_enter Try.func17, Try.ntmps17
  go_wp2_with (go_at_call 37; refine (isHead_any _ _ _ _).mono ?_; rintro e w1 ⟨rfl, hb⟩; obtain ⟨a0, a1, a2⟩ := (headAt_new w c k l 23).below hb)
  go_ret
  exact ⟨ret_int (by omega), ((Below.refl _ _).alloc (Nat.le_refl _) _).trans (hb.mono (by simp))⟩
set_option maxHeartbeats 400000 in
theorem rwords_no (c k l : Int) (w : World) (h : headB c k l = false) :
    Calls Try.prog 17 #[.agg #[.int .i64 c, .int .i64 k, .int .i64 l]] w fun e w' => e = .returned (.int .i64 0) ∧ Below w.heap.size w w' := by
  go_enter Try.func17, Try.ntmps17
  go_wp2_with (go_at_call 37; refine (isHead_any _ _ _ _).mono ?_; rintro e w1 ⟨rfl, hb⟩)
  go_ret
  exact ⟨rfl, ((Below.refl _ _).alloc (Nat.le_refl _) _).trans (hb.mono (by simp))⟩
def wordsV (c k l : Int) : Int := if headB c k l then l + 1 else 0
theorem rwords_any (c k l : Int) (w : World) :
    Calls Try.prog 17 #[.agg #[.int .i64 c, .int .i64 k, .int .i64 l]] w fun e w' => e = .returned (.int .i64 (wordsV c k l)) ∧ Below w.heap.size w w' := by
  unfold wordsV
  cases h : headB c k l with
  | true => exact rwords_yes c k l w h
  | false => exact rwords_no c k l w h
theorem words_any (c k l : Int) (w : World) :
    Calls Try.prog 16 #[.agg #[.int .i64 c, .int .i64 k, .int .i64 l]] w fun e w' => e = .returned (.int .i64 (wordsV c k l)) ∧ Below w.heap.size w w' := by
  unfold wordsV
  cases h : headB c k l with
  | true => exact words_yes c k l w h
  | false => exact words_no c k l w h

set_option maxHeartbeats 400000 in
theorem head_any (c k l : Int) (w : World) :
    Calls Try.prog 11 #[.agg #[.int .i64 c, .int .i64 k, .int .i64 l]] w fun e w' => e = .returned (.agg #[.int .i64 c, .int .i64 k, .int .i64 l]) ∧ Below w.heap.size w w' := by
  go_enter Try.func11, Try.ntmps11
  go_wp2
  refine bodyPost_ret (v := .agg #[.int .i64 c, .int .i64 k, .int .i64 l]) (by simp [results, Try.results11, go_sem]) rfl ⟨rfl, ?_⟩
  exact ((Below.refl _ _).alloc (Nat.le_refl _) _).alloc (by simp) _

set_option maxHeartbeats 1000000 in
theorem rdec_core (x A B C : Int) (w : World) (x0 : 0 ≤ x) (x1 : x < 18446744073709551616) (eA : x % 256 = A) (eB : x / 256 % 256 = B) (eC : x / 65536 % 256 = C) (h : headB B A C = true) (he : (encH B A C != x) = false) :
    Calls Try.prog 14 #[.int .u64 x] w fun e w' => e = .returned (.tuple #[.agg #[.int .i64 B, .int .i64 A, .int .i64 C], .int .i64 0]) ∧ Below w.heap.size w w' := by
  have hA : 0 ≤ A ∧ A ≤ 255 := by omega
  have hB : 0 ≤ B ∧ B ≤ 255 := by omega
  have hC : 0 ≤ C ∧ C ≤ 255 := by omega
  have wA : IntKind.i64.wrap A = A := IntWalk.i64_in A (by omega)
  have wB : IntKind.i64.wrap B = B := IntWalk.i64_in B (by omega)
  have wC : IntKind.i64.wrap C = C := IntWalk.i64_in C (by omega)
  go_enter Try.func14, Try.ntmps14
  go_wp2_with fail
  refine (renc_yes B A C _ h).mono ?_
  rintro e w5 ⟨rfl, hb5⟩
  have hN := (headAt_new (w.alloc (.cells #[.int .i64 0, .int .i64 0, .int .i64 0] 23)) B A C 23).below hb5
  have hO := ((headAt_new w 0 0 0 23).alloc (.cells #[.int .i64 B, .int .i64 A, .int .i64 C] 23)).below hb5
  have hO5 : Below (w.alloc (.cells #[.int .i64 0, .int .i64 0, .int .i64 0] 23)).heap.size (w.alloc (.cells #[.int .i64 0, .int .i64 0, .int .i64 0] 23)) w5 := ((Below.refl _ _).alloc (Nat.le_refl _) _).trans (hb5.mono (by simp))
  have hB5 : Below w.heap.size w w5 := ((Below.refl _ _).alloc (Nat.le_refl _) _).trans (hO5.mono (by simp))
  have f0 := box_frozen hO5 0
  have f1 := box_frozen hO5 1
  have f2 := box_frozen hO5 2
  rw [World.size_alloc] at hN
  obtain ⟨n0, n1, n2⟩ := id hN
  obtain ⟨o0, o1, o2⟩ := id hO
  clear hb5 hO5 eA eB eC
  go_wp2
  refine bodyPost_ret (v := .tuple #[.agg #[.int .i64 B, .int .i64 A, .int .i64 C], .int .i64 0]) (by simp [results, Try.results14, go_sem, o0, o1, o2]) rfl ⟨rfl, ?_⟩
  exact ((hB5.setCell (Nat.le_refl _) _).setCell (Nat.le_refl _) _).setCell (Nat.le_refl _) _
set_option maxHeartbeats 1000000 in
theorem rdec_part (x A B C : Int) (w : World) (x0 : 0 ≤ x) (x1 : x < 18446744073709551616) (eA : x % 256 = A) (eB : x / 256 % 256 = B) (eC : x / 65536 % 256 = C) (h : headB B A C = true) (he : (encH B A C != x) = true) :
    Calls Try.prog 14 #[.int .u64 x] w fun e w' => e = .returned (.tuple #[.agg #[.int .i64 0, .int .i64 0, .int .i64 0], .int .i64 4]) ∧ Below w.heap.size w w' := by
  have hA : 0 ≤ A ∧ A ≤ 255 := by omega
  have hB : 0 ≤ B ∧ B ≤ 255 := by omega
  have hC : 0 ≤ C ∧ C ≤ 255 := by omega
  have wA : IntKind.i64.wrap A = A := IntWalk.i64_in A (by omega)
  have wB : IntKind.i64.wrap B = B := IntWalk.i64_in B (by omega)
  have wC : IntKind.i64.wrap C = C := IntWalk.i64_in C (by omega)
  go_enter Try.func14, Try.ntmps14
  go_wp2_with fail
  refine (renc_yes B A C _ h).mono ?_
  rintro e w5 ⟨rfl, hb5⟩
  have hN := (headAt_new (w.alloc (.cells #[.int .i64 0, .int .i64 0, .int .i64 0] 23)) B A C 23).below hb5
  have hO := ((headAt_new w 0 0 0 23).alloc (.cells #[.int .i64 B, .int .i64 A, .int .i64 C] 23)).below hb5
  have hO5 : Below (w.alloc (.cells #[.int .i64 0, .int .i64 0, .int .i64 0] 23)).heap.size (w.alloc (.cells #[.int .i64 0, .int .i64 0, .int .i64 0] 23)) w5 := ((Below.refl _ _).alloc (Nat.le_refl _) _).trans (hb5.mono (by simp))
  have hB5 : Below w.heap.size w w5 := ((Below.refl _ _).alloc (Nat.le_refl _) _).trans (hO5.mono (by simp))
  have f0 := box_frozen hO5 0
  have f1 := box_frozen hO5 1
  have f2 := box_frozen hO5 2
  rw [World.size_alloc] at hN
  obtain ⟨n0, n1, n2⟩ := id hN
  obtain ⟨o0, o1, o2⟩ := id hO
  clear hb5 hO5 eA eB eC
  go_wp2
  refine bodyPost_ret (v := .tuple #[.agg #[.int .i64 0, .int .i64 0, .int .i64 0], .int .i64 4]) (by simp [results, Try.results14, go_sem, o0, o1, o2]) rfl ⟨rfl, ?_⟩
  exact ((hB5.setCell (Nat.le_refl _) _).setCell (Nat.le_refl _) _).setCell (Nat.le_refl _) _
set_option maxHeartbeats 1000000 in
theorem rdec_none (x A B C : Int) (w : World) (x0 : 0 ≤ x) (x1 : x < 18446744073709551616) (eA : x % 256 = A) (eB : x / 256 % 256 = B) (eC : x / 65536 % 256 = C) (h : headB B A C = false) :
    Calls Try.prog 14 #[.int .u64 x] w fun e w' => e = .returned (.tuple #[.agg #[.int .i64 0, .int .i64 0, .int .i64 0], .int .i64 4]) ∧ Below w.heap.size w w' := by
  have hA : 0 ≤ A ∧ A ≤ 255 := by omega
  have hB : 0 ≤ B ∧ B ≤ 255 := by omega
  have hC : 0 ≤ C ∧ C ≤ 255 := by omega
  have wA : IntKind.i64.wrap A = A := IntWalk.i64_in A (by omega)
  have wB : IntKind.i64.wrap B = B := IntWalk.i64_in B (by omega)
  have wC : IntKind.i64.wrap C = C := IntWalk.i64_in C (by omega)
  go_enter Try.func14, Try.ntmps14
  go_wp2_with fail
  refine (renc_no B A C _ h).mono ?_
  rintro e w5 ⟨rfl, hb5⟩
  have hN := (headAt_new (w.alloc (.cells #[.int .i64 0, .int .i64 0, .int .i64 0] 23)) B A C 23).below hb5
  have hO := ((headAt_new w 0 0 0 23).alloc (.cells #[.int .i64 B, .int .i64 A, .int .i64 C] 23)).below hb5
  have hO5 : Below (w.alloc (.cells #[.int .i64 0, .int .i64 0, .int .i64 0] 23)).heap.size (w.alloc (.cells #[.int .i64 0, .int .i64 0, .int .i64 0] 23)) w5 := ((Below.refl _ _).alloc (Nat.le_refl _) _).trans (hb5.mono (by simp))
  have hB5 : Below w.heap.size w w5 := ((Below.refl _ _).alloc (Nat.le_refl _) _).trans (hO5.mono (by simp))
  have f0 := box_frozen hO5 0
  have f1 := box_frozen hO5 1
  have f2 := box_frozen hO5 2
  rw [World.size_alloc] at hN
  obtain ⟨n0, n1, n2⟩ := id hN
  obtain ⟨o0, o1, o2⟩ := id hO
  clear hb5 hO5 eA eB eC
  go_wp2
  refine bodyPost_ret (v := .tuple #[.agg #[.int .i64 0, .int .i64 0, .int .i64 0], .int .i64 4]) (by simp [results, Try.results14, go_sem, o0, o1, o2]) rfl ⟨rfl, ?_⟩
  exact ((hB5.setCell (Nat.le_refl _) _).setCell (Nat.le_refl _) _).setCell (Nat.le_refl _) _
theorem rdec_any (x : Int) (w : World) (hx : U64 x) :
    Calls Try.prog 14 #[.int .u64 x] w fun e w' => e = .returned (.tuple #[.agg #[.int .i64 (decD (decOk x) (x / 256 % 256)), .int .i64 (decD (decOk x) (x % 256)), .int .i64 (decD (decOk x) (x / 65536 % 256))], .int .i64 (decF (decOk x))]) ∧ Below w.heap.size w w' := by
  unfold decD decF
  cases h : decOk x with
  | true =>
    unfold decOk at h
    rw [Bool.and_eq_true, beq_iff_eq] at h
    exact rdec_core x (x % 256) (x / 256 % 256) (x / 65536 % 256) w hx.1 hx.2 rfl rfl rfl h.1 (by rw [h.2]; simp)
  | false =>
    unfold decOk at h
    cases hb : headB (x / 256 % 256) (x % 256) (x / 65536 % 256) with
    | true =>
      rw [hb, Bool.true_and] at h
      exact rdec_part x _ _ _ w hx.1 hx.2 rfl rfl rfl hb (by rw [bne, h]; rfl)
    | false => exact rdec_none x _ _ _ w hx.1 hx.2 rfl rfl rfl hb
end Go.Proofs.Ytaghcogooggdpab
