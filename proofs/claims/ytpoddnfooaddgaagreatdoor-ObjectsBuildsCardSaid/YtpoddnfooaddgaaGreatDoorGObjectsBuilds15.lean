/- Texts of this seat, one behind the other: each says at its head what it holds. No condition of its own. -/
import Derived.Test.YtpoddnfooaddgaaGreatDoorGObjectsBuilds01
import Derived.Test.YtpoddnfooaddgaaGreatDoorGObjectsBuilds14
/- What the document's functions on headers return. No condition but that each number fits its kind. -/
namespace Go.Proofs.YtpoddnfooaddgaaGreatDoor
open Go.RowKit
set_option linter.unusedVariables false

theorem headB_eq1 (c l : Int) : headB c 1 l = decide (0 ≤ c ∧ c ≤ 15 ∧ 0 ≤ l ∧ l ≤ 15) := by
  unfold headB inB
  rw [if_pos rfl, ← Bool.decide_and]
  exact decide_eq_decide.2 (by omega)
theorem headB_eq23 (c k l : Int) (hk : k = 2 ∨ k = 3) : headB c k l = decide (c = 0 ∧ 0 ≤ l ∧ l ≤ 255) := by
  unfold headB inB
  rw [if_neg (by omega), if_pos hk, ← Bool.decide_and]

set_option maxHeartbeats 1000000 in
theorem isHead_anyRhead (c k l : Int) (w : World) :
    Calls Tryz.prog 13 #[.agg #[.int .i64 c, .int .i64 k, .int .i64 l]] w fun e w' => e = .returned (.bool (headB c k l)) ∧ Below w.heap.size w w' := by
  by_cases k1 : k = 1
  · subst k1
    by_cases h1 : 0 ≤ c
    · by_cases h2 : c ≤ 15
      · by_cases h3 : 0 ≤ l
        · have hb : headB c 1 l = decide (l ≤ 15) := by rw [headB_eq1]; exact decide_eq_decide.2 (by omega)
          rw [hb]; clear hb
          go_enter Tryz.func13, Tryz.ntmps13
          go_wp2
          go_ret
          exact ⟨rfl, (Below.refl _ _).alloc (Nat.le_refl _) _⟩
        · have hb : headB c 1 l = false := by rw [headB_eq1]; exact decide_eq_false (by omega)
          rw [hb]; clear hb
          go_enter Tryz.func13, Tryz.ntmps13
          go_wp2
          go_ret
          exact ⟨rfl, (Below.refl _ _).alloc (Nat.le_refl _) _⟩
      · have hb : headB c 1 l = false := by rw [headB_eq1]; exact decide_eq_false (by omega)
        rw [hb]; clear hb
        go_enter Tryz.func13, Tryz.ntmps13
        go_wp2
        go_ret
        exact ⟨rfl, (Below.refl _ _).alloc (Nat.le_refl _) _⟩
    · have hb : headB c 1 l = false := by rw [headB_eq1]; exact decide_eq_false (by omega)
      rw [hb]; clear hb
      go_enter Tryz.func13, Tryz.ntmps13
      go_wp2
      go_ret
      exact ⟨rfl, (Below.refl _ _).alloc (Nat.le_refl _) _⟩
  · by_cases hk : k = 2 ∨ k = 3
    · by_cases h1 : c = 0
      · subst h1
        by_cases h3 : 0 ≤ l
        · have hb : headB 0 k l = decide (l ≤ 255) := by rw [headB_eq23 _ _ _ hk]; exact decide_eq_decide.2 (by omega)
          rw [hb]; clear hb
          rcases hk with rfl | rfl
          all_goals
            go_enter Tryz.func13, Tryz.ntmps13
            go_wp2
            go_ret
            exact ⟨rfl, (Below.refl _ _).alloc (Nat.le_refl _) _⟩
        · have hb : headB 0 k l = false := by rw [headB_eq23 _ _ _ hk]; exact decide_eq_false (by omega)
          rw [hb]; clear hb
          rcases hk with rfl | rfl
          all_goals
            go_enter Tryz.func13, Tryz.ntmps13
            go_wp2
            go_ret
            exact ⟨rfl, (Below.refl _ _).alloc (Nat.le_refl _) _⟩
      · have hb : headB c k l = false := by rw [headB_eq23 _ _ _ hk]; exact decide_eq_false (by omega)
        rw [hb]; clear hb
        have hc : (c == 0) = false := beq_eq_false_iff_ne.2 h1
        clear h1
        rcases hk with rfl | rfl
        all_goals
          go_enter Tryz.func13, Tryz.ntmps13
          go_wp2
          go_ret
          exact ⟨rfl, (Below.refl _ _).alloc (Nat.le_refl _) _⟩
    · rw [headB_no c k l k1 (by omega) (by omega)]
      have e1 : (k == 1) = false := beq_eq_false_iff_ne.2 k1
      have e2 : (k == 2) = false := beq_eq_false_iff_ne.2 (by omega)
      have e3 : (k == 3) = false := beq_eq_false_iff_ne.2 (by omega)
      clear k1 hk
      go_enter Tryz.func13, Tryz.ntmps13
      go_wp2
      go_ret
      exact ⟨rfl, (Below.refl _ _).alloc (Nat.le_refl _) _⟩

def sgn (j : Nat) : Int := 165 * 256 ^ j
set_option maxHeartbeats 1000000 in
theorem renc_yes (c k l : Int) (w : World) (h : headB c k l = true) :
    Calls Tryz.prog 55 #[.agg #[.int .i64 c, .int .i64 k, .int .i64 l]] w fun e w' => e = .returned (.tuple #[.int .u64 (encH c k l), .int .i64 0]) ∧ Below w.heap.size w w' := by
  have hbd := headB_bd h
  have wk : IntKind.u64.wrap k = k := IntWalk.u64_in k (by omega)
  have wc : IntKind.u64.wrap c = c := IntWalk.u64_in c (by omega)
  have wl : IntKind.u64.wrap l = l := IntWalk.u64_in l (by omega)
  have w1 : IntKind.u64.wrap (l * 65536) = l * 65536 := IntWalk.u64_in _ (by omega)
  have w2 : IntKind.u64.wrap (c * 256) = c * 256 := IntWalk.u64_in _ (by omega)
  obtain ⟨T, hT, hT0⟩ : ∃ T : Int, T = 11889503016258109440 ∧ sgn 7 = T := ⟨_, rfl, by decide⟩
  have w3 : IntKind.u64.wrap (T + l * 65536) = T + l * 65536 := IntWalk.u64_in _ (by omega)
  have w4 : IntKind.u64.wrap (T + l * 65536 + c * 256) = T + l * 65536 + c * 256 := IntWalk.u64_in _ (by omega)
  have w5 : IntKind.u64.wrap (T + l * 65536 + c * 256 + k) = T + l * 65536 + c * 256 + k := IntWalk.u64_in _ (by omega)
  have he : encH c k l = T + l * 65536 + c * 256 + k := by rw [hT]; rfl
  have hstep : ∀ j : Nat, j < 7 → IntKind.u64.wrap (sgn j * 256) = sgn (j + 1) := by
    intro j hj
    match j, hj with
    | 0, _ => decide
    | 1, _ => decide
    | 2, _ => decide
    | 3, _ => decide
    | 4, _ => decide
    | 5, _ => decide
    | 6, _ => decide
  rw [he]
  have HS := Lib.hid hstep
  have HT := Lib.hid hT0
  clear hstep he hT hT0 hbd
  go_enter Tryz.func55, Tryz.ntmps55
  go_wp2_with (go_at_call 13; refine (isHead_anyRhead _ _ _ _).mono ?_; rintro e w1 ⟨rfl, hb⟩)
  have hH := (headAt_new w c k l 25).below hb
  have hA : Below w.heap.size w w1 := ((Below.refl _ _).alloc (Nat.le_refl _) _).trans (hb.mono (by simp))
  obtain ⟨a0, a1, a2⟩ := id hH
  go_loop [4, 5] (fun s i => ∃ j : Nat, j ≤ 7 ∧ i = .int .i64 j ∧ s = .int .u64 (sgn j)) (fun _ i => 7 - (intOf i).toNat)
  case atStart => exact ⟨0, Nat.zero_le _, rfl, rfl⟩
  case round =>
    obtain ⟨j, hj, rfl, rfl⟩ := hrel
    by_cases hlt : (j : Int) < 7
    · have hs := HS.out j (by omega)
      go_wp2
      go_round
      case rel => exact ⟨j + 1, by omega, by go_num, rfl⟩
      case measure => simp [intOf]; omega
    · obtain rfl : j = 7 := by omega
      rw [HT.out]
      go_wp2
      go_ret2
      exact ⟨rfl, hA⟩
set_option maxHeartbeats 1000000 in
theorem renc_no (c k l : Int) (w : World) (h : headB c k l = false) :
    Calls Tryz.prog 55 #[.agg #[.int .i64 c, .int .i64 k, .int .i64 l]] w fun e w' => e = .returned (.tuple #[.int .u64 0, .int .i64 4]) ∧ Below w.heap.size w w' := by
  go_enter Tryz.func55, Tryz.ntmps55
  go_wp2_with (go_at_call 13; refine (isHead_anyRhead _ _ _ _).mono ?_; rintro e w1 ⟨rfl, hb⟩)
  go_ret2
  exact ⟨rfl, ((Below.refl _ _).alloc (Nat.le_refl _) _).trans (hb.mono (by simp))⟩
theorem renc_any (c k l : Int) (w : World) :
    Calls Tryz.prog 55 #[.agg #[.int .i64 c, .int .i64 k, .int .i64 l]] w fun e w' => e = .returned (.tuple #[.int .u64 (encV c k l), .int .i64 (encF c k l)]) ∧ Below w.heap.size w w' := by
  unfold encV encF
  cases h : headB c k l with
  | true => exact renc_yes c k l w h
  | false => exact renc_no c k l w h

set_option maxHeartbeats 400000 in
theorem rwords_yes (c k l : Int) (w : World) (h : headB c k l = true) :
    Calls Tryz.prog 49 #[.agg #[.int .i64 c, .int .i64 k, .int .i64 l]] w fun e w' => e = .returned (.int .i64 (l + 1)) ∧ Below w.heap.size w w' := by
  have hbd := headB_bd h
  go_enter Tryz.func49, Tryz.ntmps49
  go_wp2_with (go_at_call 13; refine (isHead_anyRhead _ _ _ _).mono ?_; rintro e w1 ⟨rfl, hb⟩; obtain ⟨a0, a1, a2⟩ := (headAt_new w c k l 25).below hb)
  go_ret
  exact ⟨ret_int (by omega), ((Below.refl _ _).alloc (Nat.le_refl _) _).trans (hb.mono (by simp))⟩
set_option maxHeartbeats 400000 in
theorem rwords_no (c k l : Int) (w : World) (h : headB c k l = false) :
    Calls Tryz.prog 49 #[.agg #[.int .i64 c, .int .i64 k, .int .i64 l]] w fun e w' => e = .returned (.int .i64 0) ∧ Below w.heap.size w w' := by
  go_enter Tryz.func49, Tryz.ntmps49
  go_wp2_with (go_at_call 13; refine (isHead_anyRhead _ _ _ _).mono ?_; rintro e w1 ⟨rfl, hb⟩)
  go_ret
  exact ⟨rfl, ((Below.refl _ _).alloc (Nat.le_refl _) _).trans (hb.mono (by simp))⟩
def wordsV (c k l : Int) : Int := if headB c k l then l + 1 else 0
theorem rwords_anyRhead (c k l : Int) (w : World) :
    Calls Tryz.prog 49 #[.agg #[.int .i64 c, .int .i64 k, .int .i64 l]] w fun e w' => e = .returned (.int .i64 (wordsV c k l)) ∧ Below w.heap.size w w' := by
  unfold wordsV
  cases h : headB c k l with
  | true => exact rwords_yes c k l w h
  | false => exact rwords_no c k l w h
theorem words_anyRhead (c k l : Int) (w : World) :
    Calls Tryz.prog 47 #[.agg #[.int .i64 c, .int .i64 k, .int .i64 l]] w fun e w' => e = .returned (.int .i64 (wordsV c k l)) ∧ Below w.heap.size w w' := by
  unfold wordsV
  cases h : headB c k l with
  | true => exact words_yes c k l w h
  | false => exact words_no c k l w h

set_option maxHeartbeats 1000000 in
theorem rdec_core (x A B C : Int) (w : World) (x0 : 0 ≤ x) (x1 : x < 18446744073709551616) (eA : x % 256 = A) (eB : x / 256 % 256 = B) (eC : x / 65536 % 256 = C) (h : headB B A C = true) (he : (encH B A C != x) = false) :
    Calls Tryz.prog 65 #[.int .u64 x] w fun e w' => e = .returned (.tuple #[.agg #[.int .i64 B, .int .i64 A, .int .i64 C], .int .i64 0]) ∧ Below w.heap.size w w' := by
  have hA : 0 ≤ A ∧ A ≤ 255 := by omega
  have hB : 0 ≤ B ∧ B ≤ 255 := by omega
  have hC : 0 ≤ C ∧ C ≤ 255 := by omega
  have wA : IntKind.i64.wrap A = A := IntWalk.i64_in A (by omega)
  have wB : IntKind.i64.wrap B = B := IntWalk.i64_in B (by omega)
  have wC : IntKind.i64.wrap C = C := IntWalk.i64_in C (by omega)
  go_enter Tryz.func65, Tryz.ntmps65
  go_wp2_with fail
  refine (renc_yes B A C _ h).mono ?_
  rintro e w5 ⟨rfl, hb5⟩
  have hN := (headAt_new (w.alloc (.cells #[.int .i64 0, .int .i64 0, .int .i64 0] 25)) B A C 25).below hb5
  have hO := ((headAt_new w 0 0 0 25).alloc (.cells #[.int .i64 B, .int .i64 A, .int .i64 C] 25)).below hb5
  have hO5 : Below (w.alloc (.cells #[.int .i64 0, .int .i64 0, .int .i64 0] 25)).heap.size (w.alloc (.cells #[.int .i64 0, .int .i64 0, .int .i64 0] 25)) w5 := ((Below.refl _ _).alloc (Nat.le_refl _) _).trans (hb5.mono (by simp))
  have hB5 : Below w.heap.size w w5 := ((Below.refl _ _).alloc (Nat.le_refl _) _).trans (hO5.mono (by simp))
  have f0 := box_frozen hO5 0
  have f1 := box_frozen hO5 1
  have f2 := box_frozen hO5 2
  rw [World.size_alloc] at hN
  obtain ⟨n0, n1, n2⟩ := id hN
  obtain ⟨o0, o1, o2⟩ := id hO
  clear hb5 hO5 eA eB eC
  go_wp2
  refine bodyPost_ret (v := .tuple #[.agg #[.int .i64 B, .int .i64 A, .int .i64 C], .int .i64 0]) (by simp [results, Tryz.results65, go_sem, o0, o1, o2]) rfl ⟨rfl, ?_⟩
  exact ((hB5.setCell (Nat.le_refl _) _).setCell (Nat.le_refl _) _).setCell (Nat.le_refl _) _
set_option maxHeartbeats 1000000 in
theorem rdec_part (x A B C : Int) (w : World) (x0 : 0 ≤ x) (x1 : x < 18446744073709551616) (eA : x % 256 = A) (eB : x / 256 % 256 = B) (eC : x / 65536 % 256 = C) (h : headB B A C = true) (he : (encH B A C != x) = true) :
    Calls Tryz.prog 65 #[.int .u64 x] w fun e w' => e = .returned (.tuple #[.agg #[.int .i64 0, .int .i64 0, .int .i64 0], .int .i64 4]) ∧ Below w.heap.size w w' := by
  have hA : 0 ≤ A ∧ A ≤ 255 := by omega
  have hB : 0 ≤ B ∧ B ≤ 255 := by omega
  have hC : 0 ≤ C ∧ C ≤ 255 := by omega
  have wA : IntKind.i64.wrap A = A := IntWalk.i64_in A (by omega)
  have wB : IntKind.i64.wrap B = B := IntWalk.i64_in B (by omega)
  have wC : IntKind.i64.wrap C = C := IntWalk.i64_in C (by omega)
  go_enter Tryz.func65, Tryz.ntmps65
  go_wp2_with fail
  refine (renc_yes B A C _ h).mono ?_
  rintro e w5 ⟨rfl, hb5⟩
  have hN := (headAt_new (w.alloc (.cells #[.int .i64 0, .int .i64 0, .int .i64 0] 25)) B A C 25).below hb5
  have hO := ((headAt_new w 0 0 0 25).alloc (.cells #[.int .i64 B, .int .i64 A, .int .i64 C] 25)).below hb5
  have hO5 : Below (w.alloc (.cells #[.int .i64 0, .int .i64 0, .int .i64 0] 25)).heap.size (w.alloc (.cells #[.int .i64 0, .int .i64 0, .int .i64 0] 25)) w5 := ((Below.refl _ _).alloc (Nat.le_refl _) _).trans (hb5.mono (by simp))
  have hB5 : Below w.heap.size w w5 := ((Below.refl _ _).alloc (Nat.le_refl _) _).trans (hO5.mono (by simp))
  have f0 := box_frozen hO5 0
  have f1 := box_frozen hO5 1
  have f2 := box_frozen hO5 2
  rw [World.size_alloc] at hN
  obtain ⟨n0, n1, n2⟩ := id hN
  obtain ⟨o0, o1, o2⟩ := id hO
  clear hb5 hO5 eA eB eC
  go_wp2
  refine bodyPost_ret (v := .tuple #[.agg #[.int .i64 0, .int .i64 0, .int .i64 0], .int .i64 4]) (by simp [results, Tryz.results65, go_sem, o0, o1, o2]) rfl ⟨rfl, ?_⟩
  exact ((hB5.setCell (Nat.le_refl _) _).setCell (Nat.le_refl _) _).setCell (Nat.le_refl _) _
set_option maxHeartbeats 1000000 in
theorem rdec_none (x A B C : Int) (w : World) (x0 : 0 ≤ x) (x1 : x < 18446744073709551616) (eA : x % 256 = A) (eB : x / 256 % 256 = B) (eC : x / 65536 % 256 = C) (h : headB B A C = false) :
    Calls Tryz.prog 65 #[.int .u64 x] w fun e w' => e = .returned (.tuple #[.agg #[.int .i64 0, .int .i64 0, .int .i64 0], .int .i64 4]) ∧ Below w.heap.size w w' := by
  have hA : 0 ≤ A ∧ A ≤ 255 := by omega
  have hB : 0 ≤ B ∧ B ≤ 255 := by omega
  have hC : 0 ≤ C ∧ C ≤ 255 := by omega
  have wA : IntKind.i64.wrap A = A := IntWalk.i64_in A (by omega)
  have wB : IntKind.i64.wrap B = B := IntWalk.i64_in B (by omega)
  have wC : IntKind.i64.wrap C = C := IntWalk.i64_in C (by omega)
  go_enter Tryz.func65, Tryz.ntmps65
  go_wp2_with fail
  refine (renc_no B A C _ h).mono ?_
  rintro e w5 ⟨rfl, hb5⟩
  have hN := (headAt_new (w.alloc (.cells #[.int .i64 0, .int .i64 0, .int .i64 0] 25)) B A C 25).below hb5
  have hO := ((headAt_new w 0 0 0 25).alloc (.cells #[.int .i64 B, .int .i64 A, .int .i64 C] 25)).below hb5
  have hO5 : Below (w.alloc (.cells #[.int .i64 0, .int .i64 0, .int .i64 0] 25)).heap.size (w.alloc (.cells #[.int .i64 0, .int .i64 0, .int .i64 0] 25)) w5 := ((Below.refl _ _).alloc (Nat.le_refl _) _).trans (hb5.mono (by simp))
  have hB5 : Below w.heap.size w w5 := ((Below.refl _ _).alloc (Nat.le_refl _) _).trans (hO5.mono (by simp))
  have f0 := box_frozen hO5 0
  have f1 := box_frozen hO5 1
  have f2 := box_frozen hO5 2
  rw [World.size_alloc] at hN
  obtain ⟨n0, n1, n2⟩ := id hN
  obtain ⟨o0, o1, o2⟩ := id hO
  clear hb5 hO5 eA eB eC
  go_wp2
  refine bodyPost_ret (v := .tuple #[.agg #[.int .i64 0, .int .i64 0, .int .i64 0], .int .i64 4]) (by simp [results, Tryz.results65, go_sem, o0, o1, o2]) rfl ⟨rfl, ?_⟩
  exact ((hB5.setCell (Nat.le_refl _) _).setCell (Nat.le_refl _) _).setCell (Nat.le_refl _) _
theorem rdec_any (x : Int) (w : World) (hx : U64 x) :
    Calls Tryz.prog 65 #[.int .u64 x] w fun e w' => e = .returned (.tuple #[.agg #[.int .i64 (decD (decOk x) (x / 256 % 256)), .int .i64 (decD (decOk x) (x % 256)), .int .i64 (decD (decOk x) (x / 65536 % 256))], .int .i64 (decF (decOk x))]) ∧ Below w.heap.size w w' := by
  unfold decD decF
  cases h : decOk x with
  | true =>
    unfold decOk at h
    rw [Bool.and_eq_true, beq_iff_eq] at h
    exact rdec_core x (x % 256) (x / 256 % 256) (x / 65536 % 256) w hx.1 hx.2 rfl rfl rfl h.1 (by rw [h.2]; simp)
  | false =>
    unfold decOk at h
    cases hb : headB (x / 256 % 256) (x % 256) (x / 65536 % 256) with
    | true =>
      rw [hb, Bool.true_and] at h
      exact rdec_part x _ _ _ w hx.1 hx.2 rfl rfl rfl hb (by rw [bne, h]; rfl)
    | false => exact rdec_none x _ _ _ w hx.1 hx.2 rfl rfl rfl hb
end Go.Proofs.YtpoddnfooaddgaaGreatDoor
/- What the document's answers of layer 1 return: Power, Bit, Field, Get, Put. No condition but that each number fits its kind. -/
namespace Go.Proofs.YtpoddnfooaddgaaGreatDoor
open Go.RowKit

def powI (i : Int) : Int := ((2 ^ i.toNat : Nat) : Int)
theorem powI_U64 (i : Int) (h : i ≤ 63) : U64 (powI i) := by
  refine U64.nat _ ?_
  exact Nat.pow_lt_pow_right (by decide) (by omega)
theorem powI_succ (j : Nat) (h : j < 63) : IntKind.u64.wrap (powI j * 2) = powI (j + 1) := by
  have h1 : 2 ^ (j + 1) < 2 ^ 64 := Nat.pow_lt_pow_right (by decide) (by omega)
  have e : powI (j + 1) = ((2 ^ (j + 1) : Nat) : Int) := rfl
  rw [e, IntKind.wrap_u64]
  unfold powI
  rw [Int.toNat_natCast]
  have : (2 : Nat) ^ (j + 1) = 2 ^ j * 2 := Nat.pow_succ ..
  omega
set_option maxHeartbeats 400000 in
theorem power_any (i : Int) (w : World) (h : i ≤ 63) :
    Calls Tryz.prog 98 #[.int .i64 i] w fun e w' => e = .returned (.int .u64 (powI i)) ∧ Quiet w w' := by
  go_enter Tryz.func98, Tryz.ntmps98
  go_wp2
  go_loopw [3, 4] (fun p k wr => ∃ j : Nat, j ≤ i.toNat ∧ k = .int .i64 j ∧ p = .int .u64 (powI j) ∧ Quiet w wr) (fun _ k _ => i.toNat - (intOf k).toNat)
  case atStart => exact ⟨0, Nat.zero_le _, rfl, rfl, Quiet.refl _⟩
  case round =>
    obtain ⟨j, hj, rfl, rfl, hq⟩ := hrel
    by_cases hlt : (j : Int) < i
    · have hw := powI_succ j (by omega)
      go_wp2
      go_roundw
      case rel => exact ⟨j + 1, by omega, by go_num, rfl, hq⟩
      case measure => simp [intOf]; omega
    · go_wp2
      go_ret
      exact ⟨ret_int (by unfold powI; rw [show i.toNat = j by omega]; rfl), hq⟩

/-- bit i of x, as a number -/
def bitI (x i : Int) : Int := (((x.toNat.testBit i.toNat).toNat : Nat) : Int)
theorem bitI_eq (x : Int) (i : Int) (hx : U64 x) : x / powI i % 2 = bitI x i := by
  obtain ⟨X, rfl⟩ := Int.eq_ofNat_of_zero_le hx.1
  unfold powI bitI
  rw [Int.toNat_natCast, Nat.toNat_testBit, ← Int.natCast_ediv]
  rfl
theorem bitI_01 (x i : Int) : bitI x i = 0 ∨ bitI x i = 1 := by
  unfold bitI
  cases x.toNat.testBit i.toNat <;> simp
theorem powI_pos (i : Int) : 1 ≤ powI i := by
  unfold powI
  have := Nat.two_pow_pos i.toNat
  omega
set_option maxHeartbeats 400000 in
theorem bit_any (x i : Int) (w : World) (hx : U64 x) (h : i ≤ 63) :
    Calls Tryz.prog 69 #[.int .u64 x, .int .i64 i] w fun e w' => e = .returned (.int .u64 (bitI x i)) ∧ Quiet w w' := by
  have hp := powI_pos i
  have hu := powI_U64 i h
  rw [← bitI_eq x i hx]
  obtain ⟨x0, x1⟩ := id hx
  generalize hP : powI i = P at *
  have C := Lib.hid (fun W => power_any i W h)
  rw [hP] at C
  clear hP
  go_enter Tryz.func69, Tryz.ntmps69
  go_wp2_with (go_at_call 98; refine (C.out _).mono ?_; rintro e w1 ⟨rfl, hq⟩)
  go_ret
  exact ⟨ret_int (Int.tmod_eq_emod_of_nonneg (Int.ediv_nonneg x0 (by omega))), hq⟩
/-! a word put together bit by bit -/
theorem getN_succ (x a j : Nat) : getN x a (j + 1) = getN x a j + (x.testBit (a + j)).toNat * 2 ^ j := by
  unfold getN
  rw [Nat.mod_pow_succ, ← Nat.toNat_testBit, Nat.testBit_shiftRight, Nat.mul_comm]
theorem sum_step (x : Int) (a j : Nat) (hj : j < 64) : IntKind.u64.wrap (bitI x (a + j) * powI j) = bitI x (a + j) * powI j ∧ IntKind.u64.wrap (getI x a j + bitI x (a + j) * powI j) = getI x a (j + 1 : Nat) := by
  have h1 := getN_succ x.toNat a j
  have h2 := getN_lt x.toNat a (j + 1)
  have h3 : 2 ^ (j + 1) ≤ 2 ^ 64 := Nat.pow_le_pow_right (by decide) (by omega)
  have e1 : bitI x (a + j) * powI j = (((x.toNat.testBit (a + j)).toNat * 2 ^ j : Nat) : Int) := by
    unfold bitI powI
    rw [show ((a : Int) + (j : Int)).toNat = a + j by omega, Int.toNat_natCast, Int.natCast_mul]
  have e2 : getI x a j = ((getN x.toNat a j : Nat) : Int) := by
    unfold getI
    rw [Int.toNat_natCast, Int.toNat_natCast]
  have e3 : getI x a (j + 1 : Nat) = ((getN x.toNat a (j + 1) : Nat) : Int) := by
    unfold getI
    rw [Int.toNat_natCast, Int.toNat_natCast]
  rw [e3, e1, e2, IntKind.wrap_u64, IntKind.wrap_u64]
  generalize (x.toNat.testBit (a + j)).toNat * 2 ^ j = T at *
  omega

end Go.Proofs.YtpoddnfooaddgaaGreatDoor
/- What math/bits.OnesCount64 returns: how many bits are 1; plain mathematics of bytes. No condition but that the number has 64 bits. -/
namespace Go.Proofs.YtpoddnfooaddgaaGreatDoor
open Go.RowKit
set_option linter.unusedVariables false

/-- the ones among the n lowest bits -/
def cnt (x : Nat) : Nat → Nat
  | 0 => 0
  | n + 1 => cnt x n + (x.testBit n).toNat
theorem cnt_add (lo hi s : Nat) (h : lo < 2 ^ s) : ∀ m, cnt (2 ^ s * hi + lo) (s + m) = cnt lo s + cnt hi m := by
  have h0 : ∀ n, n ≤ s → cnt (2 ^ s * hi + lo) n = cnt lo n := by
    intro n
    induction n with
    | zero => intro _; rfl
    | succ n ih =>
      intro hn
      rw [cnt, cnt, ih (by omega), Nat.testBit_two_pow_mul_add _ h, if_pos (by omega)]
  intro m
  induction m with
  | zero => rw [Nat.add_zero, h0 s (Nat.le_refl _)]; rfl
  | succ m ih =>
    rw [← Nat.add_assoc, cnt, ih, Nat.testBit_two_pow_mul_add _ h, if_neg (by omega), show s + m - s = m by omega, cnt]
    omega
/-- bytes, the lowest first -/
def val : List Nat → Nat
  | [] => 0
  | c :: l => 2 ^ 8 * val l + c
def mask8 (m : Nat) (n : Nat) : Nat := val (List.replicate n m)
def small (l : List Nat) : Prop := ∀ c ∈ l, c < 256
theorem and_byte (c r m M : Nat) (hc : c < 256) (hm : m < 256) : (2 ^ 8 * r + c) &&& (2 ^ 8 * M + m) = 2 ^ 8 * (r &&& M) + (c &&& m) := by
  apply Nat.eq_of_testBit_eq
  intro i
  have h3 : c &&& m < 2 ^ 8 := Nat.and_lt_two_pow _ (by omega)
  rw [Nat.testBit_and, Nat.testBit_two_pow_mul_add _ (show c < 2 ^ 8 by omega), Nat.testBit_two_pow_mul_add _ (show m < 2 ^ 8 by omega), Nat.testBit_two_pow_mul_add _ h3]
  split
  · rw [Nat.testBit_and]
  · rw [Nat.testBit_and]
theorem and_val (m : Nat) (hm : m < 256) : ∀ l, small l → val l &&& mask8 m l.length = val (l.map (· &&& m)) := by
  intro l
  induction l with
  | nil => intro _; simp [val, mask8]
  | cons c l ih =>
    intro h
    have := ih (fun d hd => h d (by simp [hd]))
    show (2 ^ 8 * val l + c) &&& (2 ^ 8 * mask8 m l.length + m) = 2 ^ 8 * val (l.map (· &&& m)) + (c &&& m)
    rw [and_byte _ _ _ _ (h c (by simp)) hm, this]
/-- a shift within bytes, where the mask lets no bit of the next byte by -/
theorem shr_val (t m : Nat) (hm : m < 256) (ht : t ≤ 8) (hclean : ∀ c r : Nat, c < 256 → (c / 2 ^ t + 2 ^ (8 - t) * (r % 2 ^ t)) &&& m = (c / 2 ^ t) &&& m) :
    ∀ l, small l → (val l / 2 ^ t) &&& mask8 m l.length = val (l.map (fun c => (c / 2 ^ t) &&& m)) := by
  intro l
  induction l with
  | nil => intro _; simp [val, mask8]
  | cons c l ih =>
    intro h
    have hc := h c (by simp)
    have ih' := ih (fun d hd => h d (by simp [hd]))
    show ((2 ^ 8 * val l + c) / 2 ^ t) &&& (2 ^ 8 * mask8 m l.length + m) = 2 ^ 8 * val (l.map (fun c => (c / 2 ^ t) &&& m)) + ((c / 2 ^ t) &&& m)
    have hp := Nat.two_pow_pos t
    have e8 : (2 : Nat) ^ 8 = 2 ^ t * 2 ^ (8 - t) := by rw [← Nat.pow_add, show t + (8 - t) = 8 by omega]
    have hv : val l = 2 ^ t * (val l / 2 ^ t) + val l % 2 ^ t := (Nat.div_add_mod _ _).symm
    have e : (2 ^ 8 * val l + c) / 2 ^ t = 2 ^ 8 * (val l / 2 ^ t) + (c / 2 ^ t + 2 ^ (8 - t) * (val l % 2 ^ t)) := by
      have h1 : 2 ^ 8 * val l + c = 2 ^ t * (2 ^ (8 - t) * val l) + c := by rw [e8, Nat.mul_assoc]
      rw [h1, Nat.mul_add_div hp]
      have h2 : 2 ^ (8 - t) * val l = 2 ^ 8 * (val l / 2 ^ t) + 2 ^ (8 - t) * (val l % 2 ^ t) := by
        have : 2 ^ (8 - t) * val l = 2 ^ (8 - t) * (2 ^ t * (val l / 2 ^ t) + val l % 2 ^ t) := by rw [← hv]
        rw [this, Nat.mul_add, ← Nat.mul_assoc, e8, Nat.mul_comm (2 ^ (8 - t)) (2 ^ t)]
      omega
    have hlt : c / 2 ^ t + 2 ^ (8 - t) * (val l % 2 ^ t) < 256 := by
      have h1 : c / 2 ^ t < 2 ^ (8 - t) := by
        rw [Nat.div_lt_iff_lt_mul hp, Nat.mul_comm, ← e8]
        exact hc
      have h2 : val l % 2 ^ t < 2 ^ t := Nat.mod_lt _ hp
      have h3 : 2 ^ (8 - t) * (val l % 2 ^ t) + 2 ^ (8 - t) ≤ 2 ^ (8 - t) * 2 ^ t := by
        rw [← Nat.mul_succ]
        exact Nat.mul_le_mul_left _ h2
      rw [Nat.mul_comm (2 ^ (8 - t)) (2 ^ t), ← e8] at h3
      omega
    rw [e, and_byte _ _ _ _ hlt hm, ih', hclean c (val l) hc]
theorem clean1 (c r : Nat) (hc : c < 256) : (c / 2 ^ 1 + 2 ^ (8 - 1) * (r % 2 ^ 1)) &&& 85 = (c / 2 ^ 1) &&& 85 := by
  have h : ∀ a : Fin 128, ∀ b : Fin 2, (a.val + 128 * b.val) &&& 85 = a.val &&& 85 := by decide +kernel
  exact h ⟨c / 2, by omega⟩ ⟨r % 2, by omega⟩
theorem clean2 (c r : Nat) (hc : c < 256) : (c / 2 ^ 2 + 2 ^ (8 - 2) * (r % 2 ^ 2)) &&& 51 = (c / 2 ^ 2) &&& 51 := by
  have h : ∀ a : Fin 64, ∀ b : Fin 4, (a.val + 64 * b.val) &&& 51 = a.val &&& 51 := by decide +kernel
  exact h ⟨c / 4, by omega⟩ ⟨r % 4, by omega⟩
theorem clean4 (c r : Nat) (hc : c < 256) : (c / 2 ^ 4 + 2 ^ (8 - 4) * (r % 2 ^ 4)) &&& 15 = (c / 2 ^ 4) &&& 15 := by
  have h : ∀ a : Fin 16, ∀ b : Fin 16, (a.val + 16 * b.val) &&& 15 = a.val &&& 15 := by decide +kernel
  exact h ⟨c / 16, by omega⟩ ⟨r % 16, by omega⟩
/-- the three steps on one byte -/
def st1 (c : Nat) : Nat := (c / 2 &&& 85) + (c &&& 85)
def st2 (c : Nat) : Nat := (c / 4 &&& 51) + (c &&& 51)
theorem st_all : ∀ c : Fin 256, st1 c.val < 256 ∧ st2 (st1 c.val) ≤ 68 ∧ st2 (st1 c.val) % 16 ≤ 4 ∧ st2 (st1 c.val) / 16 + st2 (st1 c.val) % 16 = cnt c.val 8 ∧ cnt c.val 8 ≤ 8 := by decide +kernel
theorem val_add (f g : Nat → Nat) : ∀ l : List Nat, val (l.map f) + val (l.map g) = val (l.map fun c => f c + g c) := by
  intro l
  induction l with
  | nil => rfl
  | cons c l ih =>
    show (2 ^ 8 * val (l.map f) + f c) + (2 ^ 8 * val (l.map g) + g c) = 2 ^ 8 * val (l.map fun c => f c + g c) + (f c + g c)
    rw [← ih]
    omega
theorem low4 (l : List Nat) (h : ∀ c ∈ l, c % 16 ≤ 4) : val l % 16 ≤ 4 := by
  cases l with
  | nil => simp [val]
  | cons c l =>
    have := h c (by simp)
    show (2 ^ 8 * val l + c) % 16 ≤ 4
    omega
theorem nib_val : ∀ l : List Nat, (∀ c ∈ l, c ≤ 68 ∧ c % 16 ≤ 4) → (val l / 16 + val l) &&& mask8 15 l.length = val (l.map fun c => c / 16 + c % 16) := by
  intro l
  induction l with
  | nil => intro _; simp [val, mask8]
  | cons c l ih =>
    intro h
    have hc := h c (by simp)
    have hl := low4 l fun d hd => (h d (by simp [hd])).2
    have ih' := ih fun d hd => h d (by simp [hd])
    show ((2 ^ 8 * val l + c) / 16 + (2 ^ 8 * val l + c)) &&& (2 ^ 8 * mask8 15 l.length + 15) = 2 ^ 8 * val (l.map fun c => c / 16 + c % 16) + (c / 16 + c % 16)
    have e : (2 ^ 8 * val l + c) / 16 + (2 ^ 8 * val l + c) = 2 ^ 8 * (val l / 16 + val l) + (c / 16 + 16 * (val l % 16) + c) := by omega
    rw [e, and_byte _ _ _ _ (by omega) (by decide), ih', show (15 : Nat) = 2 ^ 4 - 1 from rfl, Nat.and_two_pow_sub_one_eq_mod]
    omega
theorem cnt_val : ∀ l : List Nat, small l → cnt (val l) (8 * l.length) = (l.map fun c => cnt c 8).sum := by
  intro l
  induction l with
  | nil => intro _; rfl
  | cons c l ih =>
    intro h
    show cnt (2 ^ 8 * val l + c) (8 * (l.length + 1)) = cnt c 8 + (l.map fun c => cnt c 8).sum
    rw [← ih (fun d hd => h d (by simp [hd])), show 8 * (l.length + 1) = 8 + 8 * l.length by omega, cnt_add _ _ _ (h c (by simp))]
def bytes8 (x : Nat) : List Nat := [x % 256, x / 256 % 256, x / 65536 % 256, x / 16777216 % 256, x / 4294967296 % 256, x / 1099511627776 % 256, x / 281474976710656 % 256, x / 72057594037927936 % 256]
theorem val_bytes8 (x : Nat) (h : x < 2 ^ 64) : val (bytes8 x) = x := by
  unfold bytes8
  simp only [val]
  omega
theorem small_bytes8 (x : Nat) : small (bytes8 x) := by
  intro c hc
  simp only [bytes8, List.mem_cons, List.not_mem_nil, or_false] at hc
  rcases hc with rfl | rfl | rfl | rfl | rfl | rfl | rfl | rfl <;> exact Nat.mod_lt _ (by decide)
/-- the three masked steps -/
theorem three (x : Nat) (hx : x < 2 ^ 64) : ∃ x1 x2 x3 : Nat, (x / 2 &&& 6148914691236517205) + (x &&& 6148914691236517205) = x1 ∧ (x1 / 4 &&& 3689348814741910323) + (x1 &&& 3689348814741910323) = x2 ∧ (x2 / 16 + x2) &&& 1085102592571150095 = x3 ∧
    x1 < 2 ^ 64 ∧ x2 < 2 ^ 63 ∧ x3 = val ((bytes8 x).map fun c => cnt c 8) := by
  have m85 : (6148914691236517205 : Nat) = mask8 85 8 := by decide
  have m51 : (3689348814741910323 : Nat) = mask8 51 8 := by decide
  have m15 : (1085102592571150095 : Nat) = mask8 15 8 := by decide
  have hs := small_bytes8 x
  have hst : ∀ c ∈ bytes8 x, st1 c < 256 ∧ st2 (st1 c) ≤ 68 ∧ st2 (st1 c) % 16 ≤ 4 ∧ st2 (st1 c) / 16 + st2 (st1 c) % 16 = cnt c 8 ∧ cnt c 8 ≤ 8 := fun c hc => st_all ⟨c, hs c hc⟩
  have e1 : (x / 2 &&& 6148914691236517205) + (x &&& 6148914691236517205) = val ((bytes8 x).map st1) := by
    have h1 := shr_val 1 85 (by decide) (by decide) clean1 (bytes8 x) hs
    have h2 := and_val 85 (by decide) (bytes8 x) hs
    rw [val_bytes8 x hx] at h1 h2
    rw [m85, show (8 : Nat) = (bytes8 x).length from rfl, show x / 2 = x / 2 ^ 1 from rfl, h1, h2, val_add]
    rfl
  have hs1 : small ((bytes8 x).map st1) := by
    intro c hc
    obtain ⟨d, hd, rfl⟩ := List.mem_map.1 hc
    exact (hst d hd).1
  have e2 : (val ((bytes8 x).map st1) / 4 &&& 3689348814741910323) + (val ((bytes8 x).map st1) &&& 3689348814741910323) = val (((bytes8 x).map st1).map st2) := by
    have h1 := shr_val 2 51 (by decide) (by decide) clean2 _ hs1
    have h2 := and_val 51 (by decide) _ hs1
    rw [m51, show (8 : Nat) = ((bytes8 x).map st1).length from rfl, show val ((bytes8 x).map st1) / 4 = val ((bytes8 x).map st1) / 2 ^ 2 from rfl, h1, h2, val_add]
    rfl
  have hb2 : ∀ c ∈ ((bytes8 x).map st1).map st2, c ≤ 68 ∧ c % 16 ≤ 4 := by
    intro c hc
    obtain ⟨d, hd, rfl⟩ := List.mem_map.1 hc
    obtain ⟨d', hd', rfl⟩ := List.mem_map.1 hd
    exact ⟨(hst d' hd').2.1, (hst d' hd').2.2.1⟩
  have e3 : (val (((bytes8 x).map st1).map st2) / 16 + val (((bytes8 x).map st1).map st2)) &&& 1085102592571150095 = val ((bytes8 x).map fun c => cnt c 8) := by
    have h1 := nib_val _ hb2
    rw [m15, show (8 : Nat) = (((bytes8 x).map st1).map st2).length from rfl, h1, List.map_map, List.map_map]
    congr 1
    exact List.map_congr_left fun c hc => (hst c hc).2.2.2.1
  refine ⟨_, _, _, rfl, rfl, rfl, ?_, ?_, ?_⟩
  · rw [e1]
    have b : ∀ l : List Nat, small l → val l < 2 ^ (8 * l.length) := by
      intro l
      induction l with
      | nil => intro _; simp [val]
      | cons c l ih =>
        intro h
        have h1 := ih fun d hd => h d (by simp [hd])
        have h2 := h c (by simp)
        show 2 ^ 8 * val l + c < 2 ^ (8 * (l.length + 1))
        rw [show 8 * (l.length + 1) = 8 + 8 * l.length by omega, Nat.pow_add]
        omega
    exact b _ hs1
  · rw [e1, e2]
    have hd := fun i (h : i < 8) => hb2 ((((bytes8 x).map st1).map st2)[i]'h) (List.getElem_mem _)
    have b0 := (hd 0 (by decide)).1
    have b1 := (hd 1 (by decide)).1
    have b2 := (hd 2 (by decide)).1
    have b3 := (hd 3 (by decide)).1
    have b4 := (hd 4 (by decide)).1
    have b5 := (hd 5 (by decide)).1
    have b6 := (hd 6 (by decide)).1
    have b7 := (hd 7 (by decide)).1
    simp only [bytes8, List.map_cons, List.map_nil, List.getElem_cons_zero, List.getElem_cons_succ] at b0 b1 b2 b3 b4 b5 b6 b7
    simp only [bytes8, List.map_cons, List.map_nil, val]
    omega
  · rw [e1, e2, e3]
end Go.Proofs.YtpoddnfooaddgaaGreatDoor
