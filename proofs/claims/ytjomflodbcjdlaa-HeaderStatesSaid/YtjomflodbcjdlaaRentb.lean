/- What the document's functions on entries return: the word of an entry, the entry of a word. No condition but that each number fits its kind. -/
import Derived.Test.YtjomflodbcjdlaaRent
namespace Go.Proofs.Ytjomflodbcjdlaa
open Go.RowKit
set_option linter.unusedVariables false

set_option maxHeartbeats 1000000 in
theorem reenc_yes (k c s o y : Int) (w : World) (h : entB k c s o y = true) :
    Calls Try.prog 20 #[.agg #[.int .i64 k, .int .i64 c, .int .i64 s, .int .i64 o, .int .i64 y]] w fun e w' => e = .returned (.tuple #[.int .u64 (encE k c s o y), .int .i64 0]) ∧ Below w.heap.size w w' := by
  have hbd := entB_bd h
  have wk : IntKind.u64.wrap k = k := IntWalk.u64_in k (by omega)
  have wc : IntKind.u64.wrap c = c := IntWalk.u64_in c (by omega)
  have ws : IntKind.u64.wrap s = s := IntWalk.u64_in s (by omega)
  have wo : IntKind.u64.wrap o = o := IntWalk.u64_in o (by omega)
  have wy : IntKind.u64.wrap y = y := IntWalk.u64_in y (by omega)
  obtain ⟨b1, b2, b3, b4, b5, b6⟩ := hbd
  go_enter Try.func20, Try.ntmps20
  go_wp2_with (go_at_call 40; refine (isEnt_any _ _ _ _ _ _).mono ?_; rintro e w1 ⟨rfl, hb⟩; obtain ⟨c0, c1, c2, c3, c4⟩ := (entAt_new w k c s o y 41).below hb)
  go_ret2
  exact ⟨ret_two rfl rfl, ((Below.refl _ _).alloc (Nat.le_refl _) _).trans (hb.mono (by simp))⟩
set_option maxHeartbeats 1000000 in
theorem reenc_no (k c s o y : Int) (w : World) (h : entB k c s o y = false) :
    Calls Try.prog 20 #[.agg #[.int .i64 k, .int .i64 c, .int .i64 s, .int .i64 o, .int .i64 y]] w fun e w' => e = .returned (.tuple #[.int .u64 0, .int .i64 4]) ∧ Below w.heap.size w w' := by
  go_enter Try.func20, Try.ntmps20
  go_wp2_with (go_at_call 40; refine (isEnt_any _ _ _ _ _ _).mono ?_; rintro e w1 ⟨rfl, hb⟩)
  go_ret2
  exact ⟨rfl, ((Below.refl _ _).alloc (Nat.le_refl _) _).trans (hb.mono (by simp))⟩
theorem reenc_any (k c s o y : Int) (w : World) :
    Calls Try.prog 20 #[.agg #[.int .i64 k, .int .i64 c, .int .i64 s, .int .i64 o, .int .i64 y]] w fun e w' => e = .returned (.tuple #[.int .u64 (eencV k c s o y), .int .i64 (eencF k c s o y)]) ∧ Below w.heap.size w w' := by
  unfold eencV eencF
  cases h : entB k c s o y with
  | true => exact reenc_yes k c s o y w h
  | false => exact reenc_no k c s o y w h
set_option maxHeartbeats 400000 in
theorem entry_any (k c s o y : Int) (w : World) :
    Calls Try.prog 19 #[.agg #[.int .i64 k, .int .i64 c, .int .i64 s, .int .i64 o, .int .i64 y]] w fun e w' => e = .returned (.agg #[.int .i64 k, .int .i64 c, .int .i64 s, .int .i64 o, .int .i64 y]) ∧ Below w.heap.size w w' := by
  go_enter Try.func19, Try.ntmps19
  go_wp2
  refine bodyPost_ret (v := .agg #[.int .i64 k, .int .i64 c, .int .i64 s, .int .i64 o, .int .i64 y]) (by simp [results, Try.results19, go_sem]) rfl ⟨rfl, ?_⟩
  exact ((Below.refl _ _).alloc (Nat.le_refl _) _).alloc (by simp) _

set_option maxHeartbeats 1000000 in
theorem redec_core (x A B C D Y : Int) (w : World) (x0 : 0 ≤ x) (x1 : x < 18446744073709551616) (eA : x % 4 = A) (eB : x / 4 % 16 = B) (eC : x / 64 % 4 = C) (eD : x / 256 % 16 = D) (eY : x / 65536 % 4294967296 = Y) (h : entB A B C D Y = true) (he : (encE A B C D Y != x) = false) :
    Calls Try.prog 22 #[.int .u64 x] w fun e w' => e = .returned (.tuple #[.agg #[.int .i64 A, .int .i64 B, .int .i64 C, .int .i64 D, .int .i64 Y], .int .i64 0]) ∧ Below w.heap.size w w' := by
  have hA : 0 ≤ A ∧ A ≤ 3 := by omega
  have hB : 0 ≤ B ∧ B ≤ 15 := by omega
  have hC : 0 ≤ C ∧ C ≤ 3 := by omega
  have hD : 0 ≤ D ∧ D ≤ 15 := by omega
  have hY : 0 ≤ Y ∧ Y ≤ 4294967295 := by omega
  have wA : IntKind.i64.wrap A = A := IntWalk.i64_in A (by omega)
  have wB : IntKind.i64.wrap B = B := IntWalk.i64_in B (by omega)
  have wC : IntKind.i64.wrap C = C := IntWalk.i64_in C (by omega)
  have wD : IntKind.i64.wrap D = D := IntWalk.i64_in D (by omega)
  have wY : IntKind.i64.wrap Y = Y := IntWalk.i64_in Y (by omega)
  go_enter Try.func22, Try.ntmps22
  go_wp2_with fail
  refine (reenc_yes A B C D Y _ h).mono ?_
  rintro e w5 ⟨rfl, hb5⟩
  have hN := (entAt_new (w.alloc (.cells #[.int .i64 0, .int .i64 0, .int .i64 0, .int .i64 0, .int .i64 0] 41)) A B C D Y 41).below hb5
  have hO := ((entAt_new w 0 0 0 0 0 41).alloc (.cells #[.int .i64 A, .int .i64 B, .int .i64 C, .int .i64 D, .int .i64 Y] 41)).below hb5
  have hO5 : Below (w.alloc (.cells #[.int .i64 0, .int .i64 0, .int .i64 0, .int .i64 0, .int .i64 0] 41)).heap.size (w.alloc (.cells #[.int .i64 0, .int .i64 0, .int .i64 0, .int .i64 0, .int .i64 0] 41)) w5 := ((Below.refl _ _).alloc (Nat.le_refl _) _).trans (hb5.mono (by simp))
  have hB5 : Below w.heap.size w w5 := ((Below.refl _ _).alloc (Nat.le_refl _) _).trans (hO5.mono (by simp))
  obtain ⟨f0, f1, f2, f3, f4⟩ := box5f hO5
  rw [World.size_alloc] at hN
  obtain ⟨n0, n1, n2, n3, n4⟩ := id hN
  obtain ⟨o0, o1, o2, o3, o4⟩ := id hO
  clear hb5 hO5 eA eB eC eD eY
  go_wp2
  refine bodyPost_ret (v := .tuple #[.agg #[.int .i64 A, .int .i64 B, .int .i64 C, .int .i64 D, .int .i64 Y], .int .i64 0]) (by simp [results, Try.results22, go_sem, o0, o1, o2, o3, o4]) rfl ⟨rfl, ?_⟩
  exact ((((hB5.setCell (Nat.le_refl _) _).setCell (Nat.le_refl _) _).setCell (Nat.le_refl _) _).setCell (Nat.le_refl _) _).setCell (Nat.le_refl _) _
set_option maxHeartbeats 1000000 in
theorem redec_part (x A B C D Y : Int) (w : World) (x0 : 0 ≤ x) (x1 : x < 18446744073709551616) (eA : x % 4 = A) (eB : x / 4 % 16 = B) (eC : x / 64 % 4 = C) (eD : x / 256 % 16 = D) (eY : x / 65536 % 4294967296 = Y) (h : entB A B C D Y = true) (he : (encE A B C D Y != x) = true) :
    Calls Try.prog 22 #[.int .u64 x] w fun e w' => e = .returned (.tuple #[.agg #[.int .i64 0, .int .i64 0, .int .i64 0, .int .i64 0, .int .i64 0], .int .i64 4]) ∧ Below w.heap.size w w' := by
  have hA : 0 ≤ A ∧ A ≤ 3 := by omega
  have hB : 0 ≤ B ∧ B ≤ 15 := by omega
  have hC : 0 ≤ C ∧ C ≤ 3 := by omega
  have hD : 0 ≤ D ∧ D ≤ 15 := by omega
  have hY : 0 ≤ Y ∧ Y ≤ 4294967295 := by omega
  have wA : IntKind.i64.wrap A = A := IntWalk.i64_in A (by omega)
  have wB : IntKind.i64.wrap B = B := IntWalk.i64_in B (by omega)
  have wC : IntKind.i64.wrap C = C := IntWalk.i64_in C (by omega)
  have wD : IntKind.i64.wrap D = D := IntWalk.i64_in D (by omega)
  have wY : IntKind.i64.wrap Y = Y := IntWalk.i64_in Y (by omega)
  go_enter Try.func22, Try.ntmps22
  go_wp2_with fail
  refine (reenc_yes A B C D Y _ h).mono ?_
  rintro e w5 ⟨rfl, hb5⟩
  have hN := (entAt_new (w.alloc (.cells #[.int .i64 0, .int .i64 0, .int .i64 0, .int .i64 0, .int .i64 0] 41)) A B C D Y 41).below hb5
  have hO := ((entAt_new w 0 0 0 0 0 41).alloc (.cells #[.int .i64 A, .int .i64 B, .int .i64 C, .int .i64 D, .int .i64 Y] 41)).below hb5
  have hO5 : Below (w.alloc (.cells #[.int .i64 0, .int .i64 0, .int .i64 0, .int .i64 0, .int .i64 0] 41)).heap.size (w.alloc (.cells #[.int .i64 0, .int .i64 0, .int .i64 0, .int .i64 0, .int .i64 0] 41)) w5 := ((Below.refl _ _).alloc (Nat.le_refl _) _).trans (hb5.mono (by simp))
  have hB5 : Below w.heap.size w w5 := ((Below.refl _ _).alloc (Nat.le_refl _) _).trans (hO5.mono (by simp))
  obtain ⟨f0, f1, f2, f3, f4⟩ := box5f hO5
  rw [World.size_alloc] at hN
  obtain ⟨n0, n1, n2, n3, n4⟩ := id hN
  obtain ⟨o0, o1, o2, o3, o4⟩ := id hO
  clear hb5 hO5 eA eB eC eD eY
  go_wp2
  refine bodyPost_ret (v := .tuple #[.agg #[.int .i64 0, .int .i64 0, .int .i64 0, .int .i64 0, .int .i64 0], .int .i64 4]) (by simp [results, Try.results22, go_sem, o0, o1, o2, o3, o4]) rfl ⟨rfl, ?_⟩
  exact ((((hB5.setCell (Nat.le_refl _) _).setCell (Nat.le_refl _) _).setCell (Nat.le_refl _) _).setCell (Nat.le_refl _) _).setCell (Nat.le_refl _) _
set_option maxHeartbeats 1000000 in
theorem redec_none (x A B C D Y : Int) (w : World) (x0 : 0 ≤ x) (x1 : x < 18446744073709551616) (eA : x % 4 = A) (eB : x / 4 % 16 = B) (eC : x / 64 % 4 = C) (eD : x / 256 % 16 = D) (eY : x / 65536 % 4294967296 = Y) (h : entB A B C D Y = false) :
    Calls Try.prog 22 #[.int .u64 x] w fun e w' => e = .returned (.tuple #[.agg #[.int .i64 0, .int .i64 0, .int .i64 0, .int .i64 0, .int .i64 0], .int .i64 4]) ∧ Below w.heap.size w w' := by
  have hA : 0 ≤ A ∧ A ≤ 3 := by omega
  have hB : 0 ≤ B ∧ B ≤ 15 := by omega
  have hC : 0 ≤ C ∧ C ≤ 3 := by omega
  have hD : 0 ≤ D ∧ D ≤ 15 := by omega
  have hY : 0 ≤ Y ∧ Y ≤ 4294967295 := by omega
  have wA : IntKind.i64.wrap A = A := IntWalk.i64_in A (by omega)
  have wB : IntKind.i64.wrap B = B := IntWalk.i64_in B (by omega)
  have wC : IntKind.i64.wrap C = C := IntWalk.i64_in C (by omega)
  have wD : IntKind.i64.wrap D = D := IntWalk.i64_in D (by omega)
  have wY : IntKind.i64.wrap Y = Y := IntWalk.i64_in Y (by omega)
  go_enter Try.func22, Try.ntmps22
  go_wp2_with fail
  refine (reenc_no A B C D Y _ h).mono ?_
  rintro e w5 ⟨rfl, hb5⟩
  have hN := (entAt_new (w.alloc (.cells #[.int .i64 0, .int .i64 0, .int .i64 0, .int .i64 0, .int .i64 0] 41)) A B C D Y 41).below hb5
  have hO := ((entAt_new w 0 0 0 0 0 41).alloc (.cells #[.int .i64 A, .int .i64 B, .int .i64 C, .int .i64 D, .int .i64 Y] 41)).below hb5
  have hO5 : Below (w.alloc (.cells #[.int .i64 0, .int .i64 0, .int .i64 0, .int .i64 0, .int .i64 0] 41)).heap.size (w.alloc (.cells #[.int .i64 0, .int .i64 0, .int .i64 0, .int .i64 0, .int .i64 0] 41)) w5 := ((Below.refl _ _).alloc (Nat.le_refl _) _).trans (hb5.mono (by simp))
  have hB5 : Below w.heap.size w w5 := ((Below.refl _ _).alloc (Nat.le_refl _) _).trans (hO5.mono (by simp))
  obtain ⟨f0, f1, f2, f3, f4⟩ := box5f hO5
  rw [World.size_alloc] at hN
  obtain ⟨n0, n1, n2, n3, n4⟩ := id hN
  obtain ⟨o0, o1, o2, o3, o4⟩ := id hO
  clear hb5 hO5 eA eB eC eD eY
  go_wp2
  refine bodyPost_ret (v := .tuple #[.agg #[.int .i64 0, .int .i64 0, .int .i64 0, .int .i64 0, .int .i64 0], .int .i64 4]) (by simp [results, Try.results22, go_sem, o0, o1, o2, o3, o4]) rfl ⟨rfl, ?_⟩
  exact ((((hB5.setCell (Nat.le_refl _) _).setCell (Nat.le_refl _) _).setCell (Nat.le_refl _) _).setCell (Nat.le_refl _) _).setCell (Nat.le_refl _) _
theorem redec_any (x : Int) (w : World) (hx : U64 x) :
    Calls Try.prog 22 #[.int .u64 x] w fun e w' => e = .returned (.tuple #[.agg #[.int .i64 (decD (edecOk x) (x % 4)), .int .i64 (decD (edecOk x) (x / 4 % 16)), .int .i64 (decD (edecOk x) (x / 64 % 4)), .int .i64 (decD (edecOk x) (x / 256 % 16)), .int .i64 (decD (edecOk x) (x / 65536 % 4294967296))], .int .i64 (decF (edecOk x))]) ∧ Below w.heap.size w w' := by
  unfold decD decF
  cases h : edecOk x with
  | true =>
    unfold edecOk at h
    rw [Bool.and_eq_true, beq_iff_eq] at h
    exact redec_core x (x % 4) (x / 4 % 16) (x / 64 % 4) (x / 256 % 16) (x / 65536 % 4294967296) w hx.1 hx.2 rfl rfl rfl rfl rfl h.1 (by rw [h.2]; simp)
  | false =>
    unfold edecOk at h
    cases hb : entB (x % 4) (x / 4 % 16) (x / 64 % 4) (x / 256 % 16) (x / 65536 % 4294967296) with
    | true =>
      rw [hb, Bool.true_and] at h
      exact redec_part x (x % 4) (x / 4 % 16) (x / 64 % 4) (x / 256 % 16) (x / 65536 % 4294967296) w hx.1 hx.2 rfl rfl rfl rfl rfl hb (by rw [bne, h]; rfl)
    | false => exact redec_none x (x % 4) (x / 4 % 16) (x / 64 % 4) (x / 256 % 16) (x / 65536 % 4294967296) w hx.1 hx.2 rfl rfl rfl rfl rfl hb
end Go.Proofs.Ytjomflodbcjdlaa
