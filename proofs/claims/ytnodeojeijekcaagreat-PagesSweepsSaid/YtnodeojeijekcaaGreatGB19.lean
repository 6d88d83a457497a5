/- Texts of this seat, one behind the other: each says at its head what it holds. No condition of its own. -/
import Derived.Deep.CutBlock
import Derived.Deep.QuietTactic
import Derived.BigQuiet
import Derived.Test.YtnodeojeijekcaaGreatGB01
import Derived.Test.YtnodeojeijekcaaGreatGB10
import Derived.Test.YtnodeojeijekcaaGreatGB18
/- What the document's functions on entries return: the word of an entry, the entry of a word. No condition but that each number fits its kind. -/
namespace Go.Proofs.YtnodeojeijekcaaGreat
open Go.RowKit
set_option linter.unusedVariables false

set_option maxHeartbeats 1000000 in
theorem reenc_yes (k c s o y : Int) (w : World) (h : entB k c s o y = true) :
    Calls Tryz.prog 23 #[.agg #[.int .i64 k, .int .i64 c, .int .i64 s, .int .i64 o, .int .i64 y]] w fun e w' => e = .returned (.tuple #[.int .u64 (encE k c s o y), .int .i64 0]) ∧ Below w.heap.size w w' := by
  have hbd := entB_bd h
  have wk : IntKind.u64.wrap k = k := IntWalk.u64_in k (by omega)
  have wc : IntKind.u64.wrap c = c := IntWalk.u64_in c (by omega)
  have ws : IntKind.u64.wrap s = s := IntWalk.u64_in s (by omega)
  have wo : IntKind.u64.wrap o = o := IntWalk.u64_in o (by omega)
  have wy : IntKind.u64.wrap y = y := IntWalk.u64_in y (by omega)
  obtain ⟨b1, b2, b3, b4, b5, b6⟩ := hbd
  go_enter Tryz.func23, Tryz.ntmps23
  go_wp2_with (go_at_call 65; refine (isEnt_any _ _ _ _ _ _).mono ?_; rintro e w1 ⟨rfl, hb⟩; obtain ⟨c0, c1, c2, c3, c4⟩ := (entAt_new w k c s o y 71).below hb)
  go_ret2
  exact ⟨ret_two rfl rfl, ((Below.refl _ _).alloc (Nat.le_refl _) _).trans (hb.mono (by simp))⟩
set_option maxHeartbeats 1000000 in
theorem reenc_no (k c s o y : Int) (w : World) (h : entB k c s o y = false) :
    Calls Tryz.prog 23 #[.agg #[.int .i64 k, .int .i64 c, .int .i64 s, .int .i64 o, .int .i64 y]] w fun e w' => e = .returned (.tuple #[.int .u64 0, .int .i64 4]) ∧ Below w.heap.size w w' := by
  go_enter Tryz.func23, Tryz.ntmps23
  go_wp2_with (go_at_call 65; refine (isEnt_any _ _ _ _ _ _).mono ?_; rintro e w1 ⟨rfl, hb⟩)
  go_ret2
  exact ⟨rfl, ((Below.refl _ _).alloc (Nat.le_refl _) _).trans (hb.mono (by simp))⟩
theorem reenc_any (k c s o y : Int) (w : World) :
    Calls Tryz.prog 23 #[.agg #[.int .i64 k, .int .i64 c, .int .i64 s, .int .i64 o, .int .i64 y]] w fun e w' => e = .returned (.tuple #[.int .u64 (eencV k c s o y), .int .i64 (eencF k c s o y)]) ∧ Below w.heap.size w w' := by
  unfold eencV eencF
  cases h : entB k c s o y with
  | true => exact reenc_yes k c s o y w h
  | false => exact reenc_no k c s o y w h
set_option maxHeartbeats 1000000 in
theorem redec_core (x A B C D Y : Int) (w : World) (x0 : 0 ≤ x) (x1 : x < 18446744073709551616) (eA : x % 4 = A) (eB : x / 4 % 16 = B) (eC : x / 64 % 4 = C) (eD : x / 256 % 16 = D) (eY : x / 65536 % 4294967296 = Y) (h : entB A B C D Y = true) (he : (encE A B C D Y != x) = false) :
    Calls Tryz.prog 36 #[.int .u64 x] w fun e w' => e = .returned (.tuple #[.agg #[.int .i64 A, .int .i64 B, .int .i64 C, .int .i64 D, .int .i64 Y], .int .i64 0]) ∧ Below w.heap.size w w' := by
  have hA : 0 ≤ A ∧ A ≤ 3 := by omega
  have hB : 0 ≤ B ∧ B ≤ 15 := by omega
  have hC : 0 ≤ C ∧ C ≤ 3 := by omega
  have hD : 0 ≤ D ∧ D ≤ 15 := by omega
  have hY : 0 ≤ Y ∧ Y ≤ 4294967295 := by omega
  have wA : IntKind.i64.wrap A = A := IntWalk.i64_in A (by omega)
  have wB : IntKind.i64.wrap B = B := IntWalk.i64_in B (by omega)
  have wC : IntKind.i64.wrap C = C := IntWalk.i64_in C (by omega)
  have wD : IntKind.i64.wrap D = D := IntWalk.i64_in D (by omega)
  have wY : IntKind.i64.wrap Y = Y := IntWalk.i64_in Y (by omega)
  go_enter Tryz.func36, Tryz.ntmps36
  go_wp2_with fail
  refine (reenc_yes A B C D Y _ h).mono ?_
  rintro e w5 ⟨rfl, hb5⟩
  have hN := (entAt_new (w.alloc (.cells #[.int .i64 0, .int .i64 0, .int .i64 0, .int .i64 0, .int .i64 0] 71)) A B C D Y 71).below hb5
  have hO := ((entAt_new w 0 0 0 0 0 71).alloc (.cells #[.int .i64 A, .int .i64 B, .int .i64 C, .int .i64 D, .int .i64 Y] 71)).below hb5
  have hO5 : Below (w.alloc (.cells #[.int .i64 0, .int .i64 0, .int .i64 0, .int .i64 0, .int .i64 0] 71)).heap.size (w.alloc (.cells #[.int .i64 0, .int .i64 0, .int .i64 0, .int .i64 0, .int .i64 0] 71)) w5 := ((Below.refl _ _).alloc (Nat.le_refl _) _).trans (hb5.mono (by simp))
  have hB5 : Below w.heap.size w w5 := ((Below.refl _ _).alloc (Nat.le_refl _) _).trans (hO5.mono (by simp))
  obtain ⟨f0, f1, f2, f3, f4⟩ := box5f hO5
  rw [World.size_alloc] at hN
  obtain ⟨n0, n1, n2, n3, n4⟩ := id hN
  obtain ⟨o0, o1, o2, o3, o4⟩ := id hO
  clear hb5 hO5 eA eB eC eD eY
  go_wp2
  refine bodyPost_ret (v := .tuple #[.agg #[.int .i64 A, .int .i64 B, .int .i64 C, .int .i64 D, .int .i64 Y], .int .i64 0]) (by simp [results, Tryz.results36, go_sem, o0, o1, o2, o3, o4]) rfl ⟨rfl, ?_⟩
  exact ((((hB5.setCell (Nat.le_refl _) _).setCell (Nat.le_refl _) _).setCell (Nat.le_refl _) _).setCell (Nat.le_refl _) _).setCell (Nat.le_refl _) _
set_option maxHeartbeats 1000000 in
theorem redec_part (x A B C D Y : Int) (w : World) (x0 : 0 ≤ x) (x1 : x < 18446744073709551616) (eA : x % 4 = A) (eB : x / 4 % 16 = B) (eC : x / 64 % 4 = C) (eD : x / 256 % 16 = D) (eY : x / 65536 % 4294967296 = Y) (h : entB A B C D Y = true) (he : (encE A B C D Y != x) = true) :
    Calls Tryz.prog 36 #[.int .u64 x] w fun e w' => e = .returned (.tuple #[.agg #[.int .i64 0, .int .i64 0, .int .i64 0, .int .i64 0, .int .i64 0], .int .i64 4]) ∧ Below w.heap.size w w' := by
  have hA : 0 ≤ A ∧ A ≤ 3 := by omega
  have hB : 0 ≤ B ∧ B ≤ 15 := by omega
  have hC : 0 ≤ C ∧ C ≤ 3 := by omega
  have hD : 0 ≤ D ∧ D ≤ 15 := by omega
  have hY : 0 ≤ Y ∧ Y ≤ 4294967295 := by omega
  have wA : IntKind.i64.wrap A = A := IntWalk.i64_in A (by omega)
  have wB : IntKind.i64.wrap B = B := IntWalk.i64_in B (by omega)
  have wC : IntKind.i64.wrap C = C := IntWalk.i64_in C (by omega)
  have wD : IntKind.i64.wrap D = D := IntWalk.i64_in D (by omega)
  have wY : IntKind.i64.wrap Y = Y := IntWalk.i64_in Y (by omega)
  go_enter Tryz.func36, Tryz.ntmps36
  go_wp2_with fail
  refine (reenc_yes A B C D Y _ h).mono ?_
  rintro e w5 ⟨rfl, hb5⟩
  have hN := (entAt_new (w.alloc (.cells #[.int .i64 0, .int .i64 0, .int .i64 0, .int .i64 0, .int .i64 0] 71)) A B C D Y 71).below hb5
  have hO := ((entAt_new w 0 0 0 0 0 71).alloc (.cells #[.int .i64 A, .int .i64 B, .int .i64 C, .int .i64 D, .int .i64 Y] 71)).below hb5
  have hO5 : Below (w.alloc (.cells #[.int .i64 0, .int .i64 0, .int .i64 0, .int .i64 0, .int .i64 0] 71)).heap.size (w.alloc (.cells #[.int .i64 0, .int .i64 0, .int .i64 0, .int .i64 0, .int .i64 0] 71)) w5 := ((Below.refl _ _).alloc (Nat.le_refl _) _).trans (hb5.mono (by simp))
  have hB5 : Below w.heap.size w w5 := ((Below.refl _ _).alloc (Nat.le_refl _) _).trans (hO5.mono (by simp))
  obtain ⟨f0, f1, f2, f3, f4⟩ := box5f hO5
  rw [World.size_alloc] at hN
  obtain ⟨n0, n1, n2, n3, n4⟩ := id hN
  obtain ⟨o0, o1, o2, o3, o4⟩ := id hO
  clear hb5 hO5 eA eB eC eD eY
  go_wp2
  refine bodyPost_ret (v := .tuple #[.agg #[.int .i64 0, .int .i64 0, .int .i64 0, .int .i64 0, .int .i64 0], .int .i64 4]) (by simp [results, Tryz.results36, go_sem, o0, o1, o2, o3, o4]) rfl ⟨rfl, ?_⟩
  exact ((((hB5.setCell (Nat.le_refl _) _).setCell (Nat.le_refl _) _).setCell (Nat.le_refl _) _).setCell (Nat.le_refl _) _).setCell (Nat.le_refl _) _
set_option maxHeartbeats 1000000 in
theorem redec_none (x A B C D Y : Int) (w : World) (x0 : 0 ≤ x) (x1 : x < 18446744073709551616) (eA : x % 4 = A) (eB : x / 4 % 16 = B) (eC : x / 64 % 4 = C) (eD : x / 256 % 16 = D) (eY : x / 65536 % 4294967296 = Y) (h : entB A B C D Y = false) :
    Calls Tryz.prog 36 #[.int .u64 x] w fun e w' => e = .returned (.tuple #[.agg #[.int .i64 0, .int .i64 0, .int .i64 0, .int .i64 0, .int .i64 0], .int .i64 4]) ∧ Below w.heap.size w w' := by
  have hA : 0 ≤ A ∧ A ≤ 3 := by omega
  have hB : 0 ≤ B ∧ B ≤ 15 := by omega
  have hC : 0 ≤ C ∧ C ≤ 3 := by omega
  have hD : 0 ≤ D ∧ D ≤ 15 := by omega
  have hY : 0 ≤ Y ∧ Y ≤ 4294967295 := by omega
  have wA : IntKind.i64.wrap A = A := IntWalk.i64_in A (by omega)
  have wB : IntKind.i64.wrap B = B := IntWalk.i64_in B (by omega)
  have wC : IntKind.i64.wrap C = C := IntWalk.i64_in C (by omega)
  have wD : IntKind.i64.wrap D = D := IntWalk.i64_in D (by omega)
  have wY : IntKind.i64.wrap Y = Y := IntWalk.i64_in Y (by omega)
  go_enter Tryz.func36, Tryz.ntmps36
  go_wp2_with fail
  refine (reenc_no A B C D Y _ h).mono ?_
  rintro e w5 ⟨rfl, hb5⟩
  have hN := (entAt_new (w.alloc (.cells #[.int .i64 0, .int .i64 0, .int .i64 0, .int .i64 0, .int .i64 0] 71)) A B C D Y 71).below hb5
  have hO := ((entAt_new w 0 0 0 0 0 71).alloc (.cells #[.int .i64 A, .int .i64 B, .int .i64 C, .int .i64 D, .int .i64 Y] 71)).below hb5
  have hO5 : Below (w.alloc (.cells #[.int .i64 0, .int .i64 0, .int .i64 0, .int .i64 0, .int .i64 0] 71)).heap.size (w.alloc (.cells #[.int .i64 0, .int .i64 0, .int .i64 0, .int .i64 0, .int .i64 0] 71)) w5 := ((Below.refl _ _).alloc (Nat.le_refl _) _).trans (hb5.mono (by simp))
  have hB5 : Below w.heap.size w w5 := ((Below.refl _ _).alloc (Nat.le_refl _) _).trans (hO5.mono (by simp))
  obtain ⟨f0, f1, f2, f3, f4⟩ := box5f hO5
  rw [World.size_alloc] at hN
  obtain ⟨n0, n1, n2, n3, n4⟩ := id hN
  obtain ⟨o0, o1, o2, o3, o4⟩ := id hO
  clear hb5 hO5 eA eB eC eD eY
  go_wp2
  refine bodyPost_ret (v := .tuple #[.agg #[.int .i64 0, .int .i64 0, .int .i64 0, .int .i64 0, .int .i64 0], .int .i64 4]) (by simp [results, Tryz.results36, go_sem, o0, o1, o2, o3, o4]) rfl ⟨rfl, ?_⟩
  exact ((((hB5.setCell (Nat.le_refl _) _).setCell (Nat.le_refl _) _).setCell (Nat.le_refl _) _).setCell (Nat.le_refl _) _).setCell (Nat.le_refl _) _
theorem redec_any (x : Int) (w : World) (hx : U64 x) :
    Calls Tryz.prog 36 #[.int .u64 x] w fun e w' => e = .returned (.tuple #[.agg #[.int .i64 (decD (edecOk x) (x % 4)), .int .i64 (decD (edecOk x) (x / 4 % 16)), .int .i64 (decD (edecOk x) (x / 64 % 4)), .int .i64 (decD (edecOk x) (x / 256 % 16)), .int .i64 (decD (edecOk x) (x / 65536 % 4294967296))], .int .i64 (decF (edecOk x))]) ∧ Below w.heap.size w w' := by
  unfold decD decF
  cases h : edecOk x with
  | true =>
    unfold edecOk at h
    rw [Bool.and_eq_true, beq_iff_eq] at h
    exact redec_core x (x % 4) (x / 4 % 16) (x / 64 % 4) (x / 256 % 16) (x / 65536 % 4294967296) w hx.1 hx.2 rfl rfl rfl rfl rfl h.1 (by rw [h.2]; simp)
  | false =>
    unfold edecOk at h
    cases hb : entB (x % 4) (x / 4 % 16) (x / 64 % 4) (x / 256 % 16) (x / 65536 % 4294967296) with
    | true =>
      rw [hb, Bool.true_and] at h
      exact redec_part x (x % 4) (x / 4 % 16) (x / 64 % 4) (x / 256 % 16) (x / 65536 % 4294967296) w hx.1 hx.2 rfl rfl rfl rfl rfl hb (by rw [bne, h]; rfl)
    | false => exact redec_none x (x % 4) (x / 4 % 16) (x / 64 % 4) (x / 256 % 16) (x / 65536 % 4294967296) w hx.1 hx.2 rfl rfl rfl rfl rfl hb
end Go.Proofs.YtnodeojeijekcaaGreat
/- The walk of the law HeaderStates: it returns true, whatever it is given. No condition but that each number fits its kind. -/
namespace Go.Proofs.YtnodeojeijekcaaGreat
open Go.RowKit
set_option linter.unusedVariables false
set_option linter.unusedSimpArgs false
def tkB (k c s o y st ow : Int) : Bool := entB k c s o y && entB k c st ow y
def gvB (k c s o y cy : Int) : Bool := holdsB k && (entB k c s o y && entB k c 0 0 cy)
theorem taken_any (k c s o y st ow : Int) (w : World) :
    Calls Tryz.prog 77 #[.agg #[.int .i64 k, .int .i64 c, .int .i64 s, .int .i64 o, .int .i64 y], .int .i64 st, .int .i64 ow] w fun e w' => e = .returned (.tuple #[.agg #[.int .i64 (decD (tkB k c s o y st ow) k), .int .i64 (decD (tkB k c s o y st ow) c), .int .i64 (decD (tkB k c s o y st ow) st), .int .i64 (decD (tkB k c s o y st ow) ow), .int .i64 (decD (tkB k c s o y st ow) y)], .int .i64 (decF (tkB k c s o y st ow))]) ∧ Below w.heap.size w w' := by
  unfold tkB
  cases h : entB k c s o y with
  | false => exact taken_a k c s o y st ow w h
  | true =>
    cases h2 : entB k c st ow y with
    | false => exact taken_b k c s o y st ow w h h2
    | true => exact taken_c k c s o y st ow w h h2
theorem rtaken_any (k c s o y st ow : Int) (w : World) :
    Calls Tryz.prog 38 #[.agg #[.int .i64 k, .int .i64 c, .int .i64 s, .int .i64 o, .int .i64 y], .int .i64 st, .int .i64 ow] w fun e w' => e = .returned (.tuple #[.agg #[.int .i64 (decD (tkB k c s o y st ow) k), .int .i64 (decD (tkB k c s o y st ow) c), .int .i64 (decD (tkB k c s o y st ow) st), .int .i64 (decD (tkB k c s o y st ow) ow), .int .i64 (decD (tkB k c s o y st ow) y)], .int .i64 (decF (tkB k c s o y st ow))]) ∧ Below w.heap.size w w' := by
  unfold tkB
  cases h : entB k c s o y with
  | false => exact rtaken_a k c s o y st ow w h
  | true =>
    cases h2 : entB k c st ow y with
    | false => exact rtaken_b k c s o y st ow w h h2
    | true => exact rtaken_c k c s o y st ow w h h2
theorem given_any (k c s o y cy : Int) (w : World) :
    Calls Tryz.prog 80 #[.agg #[.int .i64 k, .int .i64 c, .int .i64 s, .int .i64 o, .int .i64 y], .int .i64 cy] w fun e w' => e = .returned (.tuple #[.agg #[.int .i64 (decD (gvB k c s o y cy) k), .int .i64 (decD (gvB k c s o y cy) c), .int .i64 (decD (gvB k c s o y cy) 0), .int .i64 (decD (gvB k c s o y cy) 0), .int .i64 (decD (gvB k c s o y cy) cy)], .int .i64 (decF (gvB k c s o y cy))]) ∧ Below w.heap.size w w' := by
  unfold gvB
  cases h : holdsB k with
  | false => exact given_a k c s o y cy w h
  | true =>
    cases h2 : entB k c s o y with
    | false => exact given_b k c s o y cy w h h2
    | true =>
      cases h3 : entB k c 0 0 cy with
      | false => exact given_c k c s o y cy w h h2 h3
      | true => exact given_d k c s o y cy w h h2 h3
theorem rgiven_any (k c s o y cy : Int) (w : World) :
    Calls Tryz.prog 43 #[.agg #[.int .i64 k, .int .i64 c, .int .i64 s, .int .i64 o, .int .i64 y], .int .i64 cy] w fun e w' => e = .returned (.tuple #[.agg #[.int .i64 (decD (gvB k c s o y cy) k), .int .i64 (decD (gvB k c s o y cy) c), .int .i64 (decD (gvB k c s o y cy) 0), .int .i64 (decD (gvB k c s o y cy) 0), .int .i64 (decD (gvB k c s o y cy) cy)], .int .i64 (decF (gvB k c s o y cy))]) ∧ Below w.heap.size w w' := by
  unfold gvB
  cases h2 : entB k c s o y with
  | false => rw [Bool.false_and, Bool.and_false]; exact rgiven_a k c s o y cy w h2
  | true =>
    cases h0 : (k == 0) with
    | true =>
      have hh : holdsB k = false := by rw [beq_iff_eq] at h0; subst h0; rfl
      rw [hh]; exact rgiven_0 k c s o y cy w h2 h0
    | false =>
      cases h3 : (k == 3) with
      | true =>
        have hh : holdsB k = false := by rw [beq_iff_eq] at h3; subst h3; rfl
        rw [hh]; exact rgiven_3 k c s o y cy w h2 h0 h3
      | false =>
        have hh : holdsB k = true := by
          have := (entB_bd h2).1
          rw [beq_eq_false_iff_ne] at h0 h3
          have hk : k = 1 ∨ k = 2 := by omega
          rcases hk with rfl | rfl <;> rfl
        rw [hh]
        cases h4 : entB k c 0 0 cy with
        | false => exact rgiven_c k c s o y cy w h2 h0 h3 h4
        | true => exact rgiven_d k c s o y cy w h2 h0 h3 h4
theorem keep5 {w W W' : World} (bX b8 b10 b12 b14 : Nat) (k c s o y A1 A2 A3 A4 A5 G1 G2 G3 G4 G5 : Int) (h : EntAt W bX k c s o y ∧ EntAt W b8 A1 A2 A3 A4 A5 ∧ EntAt W b10 A1 A2 A3 A4 A5 ∧ EntAt W b12 G1 G2 G3 G4 G5 ∧ EntAt W b14 G1 G2 G3 G4 G5 ∧ Below w.heap.size w W) (hb : Below W.heap.size W W') : EntAt W' bX k c s o y ∧ EntAt W' b8 A1 A2 A3 A4 A5 ∧ EntAt W' b10 A1 A2 A3 A4 A5 ∧ EntAt W' b12 G1 G2 G3 G4 G5 ∧ EntAt W' b14 G1 G2 G3 G4 G5 ∧ Below w.heap.size w W' :=
  ⟨h.1.below hb, h.2.1.below hb, h.2.2.1.below hb, h.2.2.2.1.below hb, h.2.2.2.2.1.below hb, h.2.2.2.2.2.trans (hb.mono h.2.2.2.2.2.size)⟩
theorem held5 {w W : World} (bX b8 b10 b12 b14 : Nat) (k c s o y A1 A2 A3 A4 A5 G1 G2 G3 G4 G5 : Int) (h : EntAt W bX k c s o y ∧ EntAt W b8 A1 A2 A3 A4 A5 ∧ EntAt W b10 A1 A2 A3 A4 A5 ∧ EntAt W b12 G1 G2 G3 G4 G5 ∧ EntAt W b14 G1 G2 G3 G4 G5 ∧ Below w.heap.size w W) : Below w.heap.size w W := h.2.2.2.2.2
end Go.Proofs.YtnodeojeijekcaaGreat
/- Small functions of package pages and of the law beside it: plans, pages, workers, cycles, the words of entries. No condition but those that are written. -/
namespace Go.Proofs.YtnodeojeijekcaaGreat
open Go.RowKit
set_option linter.unusedVariables false
def psI (x k : Int) : Int := wrap64 (1 + wrap64 ((IntKind.u64.wrap x).tmod k))
set_option maxHeartbeats 1000000 in
theorem psmall_any (P T R : Int) (w : World) :
    Calls Tryz.prog 19 #[.agg #[.int .i64 P, .int .i64 T, .int .i64 R]] w fun e w' => e = .returned (.agg #[.int .i64 (psI P 5), .int .i64 (psI T 3), .int .i64 1]) ∧ Below w.heap.size w w' := by
  unfold psI
  go_enter Tryz.func19, Tryz.ntmps19
  have c0 := (planNew w P T R 23)
  go_wp2
  generalize wrap64 (1 + wrap64 ((IntKind.u64.wrap P).tmod 5)) = P' at *
  generalize wrap64 (1 + wrap64 ((IntKind.u64.wrap T).tmod 3)) = T' at *
  have hZ : Blk ((w.alloc (.cells #[.int .i64 P, .int .i64 T, .int .i64 R] 23)).alloc (.cells #[.int .i64 P', .int .i64 T', .int .i64 1] 23)) (w.heap.size + 1) #[.int .i64 P', .int .i64 T', .int .i64 1] 23 := Blk.new' (by simp)
  have z0 := hZ.val 0 rfl
  have z1 := hZ.val 1 rfl
  have z2 := hZ.val 2 rfl
  refine bodyPost_ret (v := .agg #[.int .i64 P', .int .i64 T', .int .i64 1]) (by simp [results, Tryz.results19, go_sem, z0, z1, z2]) rfl ⟨rfl, ?_⟩
  exact c0.2.trans ((Below.refl _ _).alloc (by simp) _)
set_option maxHeartbeats 400000 in
theorem pplan_any (P T R : Int) (w : World) :
    Calls Tryz.prog 7 #[.agg #[.int .i64 P, .int .i64 T, .int .i64 R]] w fun e w' => e = .returned (.agg #[.int .i64 P, .int .i64 T, .int .i64 R]) ∧ Below w.heap.size w w' := by
  go_enter Tryz.func7, Tryz.ntmps7
  have c0 := (planNew w P T R 23)
  go_wp2
  refine bodyPost_ret (v := .agg #[.int .i64 P, .int .i64 T, .int .i64 R]) (by simp [results, Tryz.results7, go_sem, *]) rfl ⟨rfl, ?_⟩
  exact c0.2.trans ((Below.refl _ _).alloc (by simp) _)
def cyI (x : Int) : Int := wrap64 (IntKind.u64.wrap x % 4294967296)
theorem pwithin_any (n lo hi : Int) (w : World) :
    Calls Tryz.prog 67 #[.int .i64 n, .int .i64 lo, .int .i64 hi] w fun e w' => e = .returned (.bool (inB n lo hi)) ∧ Quiet w w' := by
  by_cases h1 : lo ≤ n
  · by_cases h2 : n ≤ hi
    · rw [show inB n lo hi = true from decide_eq_true ⟨h1, h2⟩]
      go_enter Tryz.func67, Tryz.ntmps67
      go_wp2
      go_ret
      exact ⟨rfl, Quiet.refl _⟩
    · rw [show inB n lo hi = false from decide_eq_false (fun h => h2 h.2)]
      go_enter Tryz.func67, Tryz.ntmps67
      go_wp2
      go_ret
      exact ⟨rfl, Quiet.refl _⟩
  · rw [show inB n lo hi = false from decide_eq_false (fun h => h1 h.1)]
    go_enter Tryz.func67, Tryz.ntmps67
    go_wp2
    go_ret
    exact ⟨rfl, Quiet.refl _⟩
theorem isCycle_any (n : Int) (w : World) :
    Calls Tryz.prog 33 #[.int .i64 n] w fun e w' => e = .returned (.bool (inB n 0 4294967295)) ∧ Quiet w w' := by
  have C := Lib.hid (fun W => pwithin_any n 0 4294967295 W)
  go_enter Tryz.func33, Tryz.ntmps33
  go_wp2_with fail
  refine (C.out _).mono ?_; rintro e w1 ⟨rfl, hq⟩
  go_wp2
  go_ret
  exact ⟨rfl, hq⟩
def workB (n : Int) : Bool := inB n 0 5 || n == 15
theorem isWorker_any (n : Int) (w : World) :
    Calls Tryz.prog 32 #[.int .i64 n] w fun e w' => e = .returned (.bool (workB n)) ∧ Quiet w w' := by
  have C := Lib.hid (fun W => pwithin_any n 0 5 W)
  unfold workB
  cases h : inB n 0 5 with
  | true =>
    rw [h] at C
    clear h
    go_enter Tryz.func32, Tryz.ntmps32
    go_wp2_with fail
    refine (C.out _).mono ?_; rintro e w1 ⟨rfl, hq⟩
    go_wp2
    go_ret
    exact ⟨rfl, hq⟩
  | false =>
    rw [h] at C
    clear h
    go_enter Tryz.func32, Tryz.ntmps32
    go_wp2_with fail
    refine (C.out _).mono ?_; rintro e w1 ⟨rfl, hq⟩
    go_wp2
    go_ret
    exact ⟨rfl, hq⟩
/-- has the plan such a page? -/
def pgB (P T R pg : Int) : Bool := rightB P T R && inB pg 0 (P - 1)
theorem row_yes {P T R pg : Int} (k : Int) (h : pgB P T R pg = true) (hk : 0 ≤ k ∧ k ≤ 2) : ∃ i : Nat, rowI P T R k pg = (i : Int) ∧ (i : Int) = tabI T R + k * P + pg ∧ i < cellsN P T R ∧ 16 ≤ i := by
  have h' := h
  unfold pgB at h'
  rw [Bool.and_eq_true] at h'
  have hR := right_of h'.1
  have hp := of_decide_eq_true h'.2
  have hb := base_bd hR
  have ht := tab_bd hR
  have hkP : 0 ≤ k * P ∧ k * P + P ≤ 3 * P := by
    obtain ⟨⟨p1, p2⟩, _⟩ := hR
    have : k = 0 ∨ k = 1 ∨ k = 2 := by omega
    rcases this with rfl | rfl | rfl <;> omega
  have hv : rowI P T R k pg = tabI T R + k * P + pg := by
    unfold rowI
    unfold pgB at h
    rw [if_pos h]
  have hc := cellsN_bd hR
  obtain ⟨⟨p1, p2⟩, ⟨t1, t2⟩, r1, r2⟩ := hR
  have hTR : 0 ≤ T * (5 + R) := Int.mul_nonneg (by omega) (by omega)
  have htab : tabI T R = 16 + T * (5 + R) := rfl
  refine ⟨(tabI T R + k * P + pg).toNat, ?_, ?_, ?_, ?_⟩
  · rw [hv]; generalize k * P = q at *; generalize T * (5 + R) = r at *; omega
  · generalize k * P = q at *; generalize T * (5 + R) = r at *; omega
  · generalize k * P = q at *; generalize T * (5 + R) = r at *; omega
  · generalize k * P = q at *; generalize T * (5 + R) = r at *; omega
theorem hasPage_any (P T R pg : Int) (w : World) :
    Calls Tryz.prog 31 #[.agg #[.int .i64 P, .int .i64 T, .int .i64 R], .int .i64 pg] w fun e w' => e = .returned (.bool (pgB P T R pg)) ∧ Below w.heap.size w w' := by
  have C := Lib.hid (fun W => entry_anyLayc P T R pg W)
  have hz : decide (rowI P T R 0 pg ≥ 0) = pgB P T R pg := by
    cases h : pgB P T R pg with
    | true =>
      obtain ⟨i, h1, _⟩ := row_yes 0 h (by decide)
      rw [h1]
      exact decide_eq_true (by omega)
    | false =>
      unfold pgB at h
      unfold rowI
      rw [h]
      rfl
  rw [← hz]
  clear hz
  generalize rowI P T R 0 pg = z at *
  go_enter Tryz.func31, Tryz.ntmps31
  have c0 := (planNew w P T R 43)
  go_wp2_with fail
  refine (C.out _).mono ?_; rintro e w1 ⟨rfl, hb1⟩
  have c1 := planKeep c0 hb1
  go_wp2
  go_ret
  exact ⟨rfl, c1.2⟩
theorem wordOf_yes (k c s o y : Int) (w : World) (h : entB k c s o y = true) :
    Calls Tryz.prog 79 #[.agg #[.int .i64 k, .int .i64 c, .int .i64 s, .int .i64 o, .int .i64 y]] w fun e w' => e = .returned (.int .u64 (encE k c s o y)) ∧ Below w.heap.size w w' := by
  have C := Lib.hid (fun W => eenc_yes k c s o y W h)
  clear h
  go_enter Tryz.func79, Tryz.ntmps79
  go_wp2_with fail
  refine (C.out _).mono ?_; rintro e w1 ⟨rfl, hb1⟩
  have hb : Below w.heap.size w w1 := ((Below.refl _ _).alloc (Nat.le_refl _) _).trans (hb1.mono (by simp))
  go_wp2
  go_ret
  exact ⟨rfl, hb⟩
theorem pmNew (w : World) (P T R x y z : Int) (t : TypeId) : Blk (w.alloc (.cells #[.int .i64 P, .int .i64 T, .int .i64 R, .int .i64 x, .int .i64 y, .int .i64 z] t)) w.heap.size #[.int .i64 P, .int .i64 T, .int .i64 R, .int .i64 x, .int .i64 y, .int .i64 z] t := Blk.new _ _ _
set_option maxHeartbeats 400000 in
theorem pmPage_any (P T R x y z i : Int) (w : World) :
    Calls Tryz.prog 24 #[.agg #[.int .i64 P, .int .i64 T, .int .i64 R, .int .i64 x, .int .i64 y, .int .i64 z], .int .i64 i] w fun e w' => e = .returned (.int .i64 (wrap64 (y + i))) ∧ Below w.heap.size w w' := by
  have c4 := (pmNew w P T R x y z 33).val 4 rfl
  go_enter Tryz.func24, Tryz.ntmps24
  go_wp2
  go_ret
  exact ⟨rfl, (Below.refl _ _).alloc (Nat.le_refl _) _⟩
set_option maxHeartbeats 400000 in
theorem pmAlloc_any (P T R x y z i : Int) (w : World) :
    Calls Tryz.prog 25 #[.agg #[.int .i64 P, .int .i64 T, .int .i64 R, .int .i64 x, .int .i64 y, .int .i64 z], .int .i64 i] w fun e w' => e = .returned (.int .i64 (wrap64 (wrap64 (y + P) + i))) ∧ Below w.heap.size w w' := by
  have c4 := (pmNew w P T R x y z 33).val 4 rfl
  have c0 := (pmNew w P T R x y z 33).val 0 rfl
  go_enter Tryz.func25, Tryz.ntmps25
  go_wp2
  go_ret
  exact ⟨rfl, (Below.refl _ _).alloc (Nat.le_refl _) _⟩
set_option maxHeartbeats 400000 in
theorem pmMark_any (P T R x y z i : Int) (w : World) :
    Calls Tryz.prog 26 #[.agg #[.int .i64 P, .int .i64 T, .int .i64 R, .int .i64 x, .int .i64 y, .int .i64 z], .int .i64 i] w fun e w' => e = .returned (.int .i64 (wrap64 (wrap64 (y + wrap64 (2 * P)) + i))) ∧ Below w.heap.size w w' := by
  have c4 := (pmNew w P T R x y z 33).val 4 rfl
  have c0 := (pmNew w P T R x y z 33).val 0 rfl
  go_enter Tryz.func26, Tryz.ntmps26
  go_wp2
  go_ret
  exact ⟨rfl, (Below.refl _ _).alloc (Nat.le_refl _) _⟩
end Go.Proofs.YtnodeojeijekcaaGreat
/- A machine beside its arena and its port, as one fact, whatever machine it is: what each access leaves of it. No condition but that the blocks are there. -/
namespace Go.Proofs.YtnodeojeijekcaaGreat
open Go.RowKit
set_option linter.unusedVariables false
theorem set_sameP (cs : List Int) (i : Nat) : cs.set i (cs.getD i 0) = cs := by
  apply List.ext_getElem
  · simp
  · intro k h1 h2
    simp only [List.getElem_set]
    by_cases e : i = k
    · subst e; simp [List.getD_eq_getElem?_getD, h2]
    · simp [e]
theorem cas_x {w : World} {B a c p : Nat} {cs : List Int} {xs : List Value} {n : Nat} {K : List Nat} {who : Int} {i : Nat} (want v : Int) (hA : Arx w B a c cs xs n K) (hP : PortAt w p a who true) (hp : p ∈ K) (hn : n < 1000000) (hi : i < cs.length) :
    Calls Tryz.prog 78 #[.pointer (some ⟨p, 0, none⟩), .int .i64 i, .int .u64 want, .int .u64 v] w fun e w' => (e = .returned (.bool (cs.getD i 0 == want))) ∧ ArxStep B a c p cs xs n K i who 4 want v w w' := by
  obtain ⟨lv, hL, hg⟩ := hA.ex
  exact (cas_log B a c p cs lv xs n 0 who i want v w hL hP (fun e => hA.na (e ▸ hp)) (fun e => hA.nc (e ▸ hp)) (fun e => hg p e hp) hA.bw hn hi).mono fun e w' ⟨he, hs⟩ => ⟨he, hs.arx hA hL hg⟩
/-- a machine, the arena and the port -/
structure MaS (τ : TypeId) (w0 : World) (B a c p m : Nat) (V : Array Value) (cs : List Int) (xs : List Value) (n : Nat) (K : List Nat) (who : Int) (o : Bool) (w : World) : Prop where
  mach : Blk w m V τ
  arx : Arx w B a c cs xs n K
  port : PortAt w p a who o
  touch : Touch (fun b => b = p ∨ b = m ∨ (B ≤ b ∧ b ∉ K)) w0 w
/-- what all its steps need -/
structure MaR (p m : Nat) (K : List Nat) : Prop where
  mp : m ≠ p
  hm : m ∈ K
  hp : p ∈ K
section
variable {τ : TypeId} {w0 w w' : World} {B a c p m : Nat} {V : Array Value} {cs : List Int} {xs : List Value} {n : Nat} {K : List Nat} {who : Int} {o : Bool}
theorem MaS.start (hM : Blk w m V τ) (hA : Arx w B a c cs xs n K) (hP : PortAt w p a who o) : MaS τ w B a c p m V cs xs n K who o w := ⟨hM, hA, hP, Touch.refl _ _⟩
theorem MaS.grew (h : MaS τ w0 B a c p m V cs xs n K who o w) (hb : Below w.heap.size w w') : MaS τ w0 B a c p m V cs xs n K who o w' :=
  ⟨h.mach.grew hb, h.arx.grew hb, h.port.grew hb, h.touch.trans (Touch.of hb)⟩
theorem MaS.quiet (h : MaS τ w0 B a c p m V cs xs n K who o w) (hq : Quiet w w') : MaS τ w0 B a c p m V cs xs n K who o w' := h.grew hq.below
theorem MaS.drew (h : MaS τ w0 B a c p m V cs xs n K who o w) : MaS τ w0 B a c p m V cs xs n K who o w.drew := h.quiet ⟨1, rfl⟩
theorem MaS.alloc (h : MaS τ w0 B a c p m V cs xs n K who o w) (ob : Obj) : MaS τ w0 B a c p m V cs xs n K who o (w.alloc ob) := h.grew ((Below.refl _ _).alloc (Nat.le_refl _) _)
theorem MaS.set (h : MaS τ w0 B a c p m V cs xs n K who o w) (hr : MaR p m K) (i : Nat) (v : Value) : MaS τ w0 B a c p m (V.setIfInBounds i v) cs xs n K who o (w.setCell ⟨m, i, none⟩ v) :=
  have hT : Touch (fun b => b = m) w (w.setCell ⟨m, i, none⟩ v) := (Touch.refl (fun b => b = m) w).setCell (p := ⟨m, i, none⟩) rfl _
  ⟨h.mach.set i _, h.arx.touch hT (fun _ e => e ▸ hr.hm), h.port.touch hT (Ne.symm hr.mp), h.touch.trans (hT.mono fun _ _ e => .inr (.inl e))⟩
theorem MaS.stepped {i : Nat} {k want put : Int} (h : MaS τ w0 B a c p m V cs xs n K who true w) (hr : MaR p m K) (hs : ArxStep B a c p cs xs n K i who k want put w w') :
    MaS τ w0 B a c p m V (cs.set i (leftI k (cs.getD i 0) want put)) (xs ++ accV who k i want put (cs.getD i 0) (leftI k (cs.getD i 0) want put)) (n + 1) K who false w' := by
  obtain ⟨h1, h2, h3⟩ := hs
  exact ⟨h.mach.touch h3 (fun r => r.elim hr.mp (fun r => r.2 hr.hm)), h1, h2, h.touch.trans (h3.mono fun _ _ hr => hr.elim .inl (fun r => .inr (.inr r)))⟩
theorem MaS.open' (h : MaS τ w0 B a c p m V cs xs n K who o w) :
    Calls Tryz.prog 46 #[.pointer (some ⟨p, 0, none⟩)] w fun e w' => e = .returned (.bool o) ∧ MaS τ w0 B a c p m V cs xs n K who o w' :=
  (open_at p a who o w h.port).mono fun _ _ ⟨he, hq⟩ => ⟨he, h.quiet hq⟩
theorem MaS.grant (h : MaS τ w0 B a c p m V cs xs n K who o w) (hr : MaR p m K) :
    Calls Tryz.prog 29 #[.pointer (some ⟨p, 0, none⟩)] w fun e w' => (∃ v, e = .returned v) ∧ MaS τ w0 B a c p m V cs xs n K who true w' :=
  (grant_at p a who o w h.port).mono fun _ _ ⟨he, hP, hT⟩ => ⟨he, h.mach.touch hT hr.mp, h.arx.touch hT (fun _ e => e ▸ hr.hp), hP, h.touch.trans (hT.mono fun _ _ e => .inl e)⟩
theorem MaS.load {i : Nat} (h : MaS τ w0 B a c p m V cs xs n K who true w) (hr : MaR p m K) (hn : n < 1000000) (hi : i < cs.length) :
    Calls Tryz.prog 48 #[.pointer (some ⟨p, 0, none⟩), .int .i64 i] w fun e w' => (e = .returned (.int .u64 (cs.getD i 0))) ∧ MaS τ w0 B a c p m V cs (xs ++ accV who 1 i 0 0 (cs.getD i 0) (cs.getD i 0)) (n + 1) K who false w' := by
  refine (load_x h.arx h.port hr.hp hn hi).mono fun e w' ⟨he, hs⟩ => ⟨he, ?_⟩
  have := h.stepped hr hs
  rw [show leftI 1 (cs.getD i 0) 0 0 = cs.getD i 0 from rfl, set_sameP] at this
  exact this
theorem MaS.store {i : Nat} (x : Int) (h : MaS τ w0 B a c p m V cs xs n K who true w) (hr : MaR p m K) (hn : n < 1000000) (hi : i < cs.length) :
    Calls Tryz.prog 54 #[.pointer (some ⟨p, 0, none⟩), .int .i64 i, .int .u64 x] w fun e w' => (∃ u, e = .returned u) ∧ MaS τ w0 B a c p m V (cs.set i x) (xs ++ accV who 2 i 0 x (cs.getD i 0) x) (n + 1) K who false w' := by
  refine (store_x x h.arx h.port hr.hp hn hi).mono fun e w' ⟨he, hs⟩ => ⟨he, ?_⟩
  exact h.stepped hr hs
/-- what an exchange leaves in a cell -/
def casI (z want put : Int) : Int := if z = want then put else z
theorem MaS.cas {i : Nat} (want x : Int) (h : MaS τ w0 B a c p m V cs xs n K who true w) (hr : MaR p m K) (hn : n < 1000000) (hi : i < cs.length) :
    Calls Tryz.prog 78 #[.pointer (some ⟨p, 0, none⟩), .int .i64 i, .int .u64 want, .int .u64 x] w fun e w' => (e = .returned (.bool (cs.getD i 0 == want))) ∧ MaS τ w0 B a c p m V (cs.set i (casI (cs.getD i 0) want x)) (xs ++ accV who 4 i want x (cs.getD i 0) (casI (cs.getD i 0) want x)) (n + 1) K who false w' := by
  refine (cas_x want x h.arx h.port hr.hp hn hi).mono fun e w' ⟨he, hs⟩ => ⟨he, ?_⟩
  exact h.stepped hr hs
end
end Go.Proofs.YtnodeojeijekcaaGreat
/- The sweep of package pages: its small functions, as they change the machine. No condition but that it is there. -/
namespace Go.Proofs.YtnodeojeijekcaaGreat
open Go.RowKit
set_option linter.unusedVariables false
/-- a sweep -/
structure Sw where
  (P T R who cyc pg nx seen k c s o y ma al kp tl : Int)
  (sw bl : Bool)
def Sw.V (σ : Sw) : Array Value := #[.int .i64 σ.P, .int .i64 σ.T, .int .i64 σ.R, .int .i64 σ.who, .int .i64 σ.cyc, .int .i64 σ.pg, .int .i64 σ.nx, .int .u64 σ.seen, .int .i64 σ.k, .int .i64 σ.c, .int .i64 σ.s, .int .i64 σ.o, .int .i64 σ.y, .int .u64 σ.ma, .int .u64 σ.al, .int .u64 σ.kp, .int .i64 σ.tl, .bool σ.sw, .bool σ.bl]
abbrev SwS (w0 : World) (B a c p m : Nat) (σ : Sw) (cs : List Int) (xs : List Value) (n : Nat) (K : List Nat) (who : Int) (o : Bool) (w : World) : Prop := MaS 85 w0 B a c p m σ.V cs xs n K who o w
def sw0 (P T R who cyc pg : Int) : Sw := ⟨P, T, R, who, cyc, pg, 1, 0, 0, 0, 0, 0, 0, 0, 0, 0, 0, false, false⟩
theorem Sw.fix {w : World} {m : Nat} {σ : Sw} (h : Blk w m σ.V 85) : (w.cell? ⟨m, 0, none⟩ = some (.int .i64 σ.P) ∧ w.cell? ⟨m, 1, none⟩ = some (.int .i64 σ.T) ∧ w.cell? ⟨m, 2, none⟩ = some (.int .i64 σ.R) ∧ w.cell? ⟨m, 3, none⟩ = some (.int .i64 σ.who) ∧ w.cell? ⟨m, 4, none⟩ = some (.int .i64 σ.cyc) ∧ w.cell? ⟨m, 5, none⟩ = some (.int .i64 σ.pg)) :=
  ⟨h.val 0 rfl, h.val 1 rfl, h.val 2 rfl, h.val 3 rfl, h.val 4 rfl, h.val 5 rfl⟩
theorem Sw.ent {w : World} {m : Nat} {σ : Sw} (h : Blk w m σ.V 85) : (w.cell? ⟨m, 8, none⟩ = some (.int .i64 σ.k) ∧ w.cell? ⟨m, 9, none⟩ = some (.int .i64 σ.c) ∧ w.cell? ⟨m, 10, none⟩ = some (.int .i64 σ.s) ∧ w.cell? ⟨m, 11, none⟩ = some (.int .i64 σ.o) ∧ w.cell? ⟨m, 12, none⟩ = some (.int .i64 σ.y)) :=
  ⟨h.val 8 rfl, h.val 9 rfl, h.val 10 rfl, h.val 11 rfl, h.val 12 rfl⟩
theorem below_drewN {b : Nat} {w w' : World} (h : Below b w w') (n : Nat) : Below b w (w'.drewN n) := ⟨h.os, h.tape, h.output, h.size, h.block⟩
theorem Blk.five {w : World} {b : Nat} {v0 v1 v2 v3 v4 : Value} {t : TypeId} (h : Blk w b #[v0, v1, v2, v3, v4] t) :
    (w.cell? ⟨b, 0, none⟩ = some v0 ∧ w.cell? ⟨b, 1, none⟩ = some v1 ∧ w.cell? ⟨b, 2, none⟩ = some v2 ∧ w.cell? ⟨b, 3, none⟩ = some v3 ∧ w.cell? ⟨b, 4, none⟩ = some v4) :=
  ⟨h.val 0 rfl, h.val 1 rfl, h.val 2 rfl, h.val 3 rfl, h.val 4 rfl⟩
section
variable {w w' : World} {m : Nat} {σ : Sw}
theorem swOver (h : Blk w m σ.V 85) :
    Calls Tryz.prog 13 #[.pointer (some ⟨m, 0, none⟩)] w fun e w' => e = .returned (.bool (σ.nx == 0)) ∧ Quiet w w' := by
  have h2 : w.cell? ⟨m, 6, none⟩ = some (.int .i64 σ.nx) := h.val 6 rfl
  clear h
  go_enter Tryz.func13, Tryz.ntmps13
  go_wp2
  go_ret
  exact ⟨rfl, Quiet.refl _⟩
theorem swSwept (h : Blk w m σ.V 85) :
    Calls Tryz.prog 14 #[.pointer (some ⟨m, 0, none⟩)] w fun e w' => e = .returned (.bool σ.sw) ∧ Quiet w w' := by
  have h2 : w.cell? ⟨m, 17, none⟩ = some (.bool σ.sw) := h.val 17 rfl
  clear h
  go_enter Tryz.func14, Tryz.ntmps14
  go_wp2
  go_ret
  exact ⟨rfl, Quiet.refl _⟩
theorem swBlocked (h : Blk w m σ.V 85) :
    Calls Tryz.prog 17 #[.pointer (some ⟨m, 0, none⟩)] w fun e w' => e = .returned (.bool σ.bl) ∧ Quiet w w' := by
  have h2 : w.cell? ⟨m, 18, none⟩ = some (.bool σ.bl) := h.val 18 rfl
  clear h
  go_enter Tryz.func17, Tryz.ntmps17
  go_wp2
  go_ret
  exact ⟨rfl, Quiet.refl _⟩
set_option maxHeartbeats 1000000 in
theorem swEmpty (h : Blk w m σ.V 85) :
    Calls Tryz.prog 15 #[.pointer (some ⟨m, 0, none⟩)] w fun e w' => e = .returned (.bool (σ.sw && σ.kp == 0)) ∧ Quiet w w' := by
  have C := Lib.hid (swSwept h)
  have D := Lib.hid (fun W (hq : Quiet w W) => show W.cell? ⟨m, 15, none⟩ = some (.int .u64 σ.kp) from (h.quiet hq).val 15 rfl)
  clear h
  cases hs : σ.sw with
  | true =>
    rw [hs] at C
    clear hs
    go_enter Tryz.func15, Tryz.ntmps15
    go_wp2_with fail
    refine C.out.mono ?_; rintro e w1 ⟨rfl, hq⟩
    have d := D.out _ hq
    go_wp2
    go_ret
    exact ⟨rfl, hq⟩
  | false =>
    rw [hs] at C
    clear hs
    go_enter Tryz.func15, Tryz.ntmps15
    go_wp2_with fail
    refine C.out.mono ?_; rintro e w1 ⟨rfl, hq⟩
    go_wp2
    go_ret
    exact ⟨rfl, hq⟩
def beyB (P pg k c : Int) : Bool := k == 2 && decide (P < pg + c)
set_option maxHeartbeats 1000000 in
theorem swBeyond (h : Blk w m σ.V 85) (k c s o y : Int) (hc : 0 ≤ c ∧ c ≤ 15) (hp : 0 ≤ σ.pg ∧ σ.pg ≤ 31) :
    Calls Tryz.prog 74 #[.pointer (some ⟨m, 0, none⟩), .agg #[.int .i64 k, .int .i64 c, .int .i64 s, .int .i64 o, .int .i64 y]] w fun e w' => e = .returned (.bool (beyB σ.P σ.pg k c)) ∧ Below w.heap.size w w' := by
  obtain ⟨d0, d1, d2, d3, d4, d5⟩ := Sw.fix (h.alloc (.cells #[.int .i64 k, .int .i64 c, .int .i64 s, .int .i64 o, .int .i64 y] 83))
  have hX : Blk (w.alloc (.cells #[.int .i64 k, .int .i64 c, .int .i64 s, .int .i64 o, .int .i64 y] 83)) w.heap.size #[.int .i64 k, .int .i64 c, .int .i64 s, .int .i64 o, .int .i64 y] 83 := Blk.new _ _ _
  obtain ⟨x0, x1, x2, x3, x4⟩ := hX.five
  have hb : Below w.heap.size w (w.alloc (.cells #[.int .i64 k, .int .i64 c, .int .i64 s, .int .i64 o, .int .i64 y] 83)) := (Below.refl _ _).alloc (Nat.le_refl _) _
  have hw : wrap64 (σ.pg + c) = σ.pg + c := IntWalk.wrap64_in _ (by omega)
  unfold beyB
  clear h hX hc hp d1 d2 d3 d4
  generalize σ.pg = pg at *
  generalize σ.P = P at *
  cases hk : (k == 2) with
  | true =>
    go_enter Tryz.func74, Tryz.ntmps74
    go_upto_region 1 with fail
    generalize w.alloc (.cells #[.int .i64 k, .int .i64 c, .int .i64 s, .int .i64 o, .int .i64 y] 83) = W at *
    go_quiet (fail)
    go_wp2
    go_ret
    exact ⟨rfl, below_drewN hb _⟩
  | false =>
    go_enter Tryz.func74, Tryz.ntmps74
    go_upto_region 1 with fail
    generalize w.alloc (.cells #[.int .i64 k, .int .i64 c, .int .i64 s, .int .i64 o, .int .i64 y] 83) = W at *
    go_quiet (fail)
    go_wp2
    go_ret
    exact ⟨rfl, below_drewN hb _⟩
end
end Go.Proofs.YtnodeojeijekcaaGreat
