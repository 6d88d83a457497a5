/- What header.DecodeEntry returns, for every word. No condition. -/
import Derived.Test.YtnodeojeijekcaaGreatGB13
namespace Go.Proofs.YtnodeojeijekcaaGreat
open Go.RowKit

theorem unpack_ent (x : Int) (hx : U64 x) : ∃ f, unpackL [2, 4, 2, 4, 4, 32] x 0 = some [x % 4, x / 4 % 16, x / 64 % 4, x / 256 % 16, f, x / 65536 % 4294967296] := by
  refine ⟨getI x 12 4, ?_⟩
  rw [unpackL_cons _ _ _ _ (by decide), unpackL_cons _ _ _ _ (by decide), unpackL_cons _ _ _ _ (by decide), unpackL_cons _ _ _ _ (by decide), unpackL_cons _ _ _ _ (by decide), unpackL_cons _ _ _ _ (by decide), unpackL]
  rw [getI_div _ _ _ hx (by decide), getI_div x (0 + 2) 4 hx (by decide), getI_div x (0 + 2 + 4) 2 hx (by decide), getI_div x (0 + 2 + 4 + 2) 4 hx (by decide), getI_div x (0 + 2 + 4 + 2 + 4 + 4) 32 hx (by decide)]
  have e1 : x / 2 ^ (0 : Int).toNat % 2 ^ (2 : Int).toNat = x % 4 := by
    show x / 1 % 4 = _
    rw [Int.ediv_one]
  have e2 : x / 2 ^ (0 + 2 : Int).toNat % 2 ^ (4 : Int).toNat = x / 4 % 16 := rfl
  have e3 : x / 2 ^ (0 + 2 + 4 : Int).toNat % 2 ^ (2 : Int).toNat = x / 64 % 4 := rfl
  have e4 : x / 2 ^ (0 + 2 + 4 + 2 : Int).toNat % 2 ^ (4 : Int).toNat = x / 256 % 16 := rfl
  have e5 : x / 2 ^ (0 + 2 + 4 + 2 + 4 + 4 : Int).toNat % 2 ^ (32 : Int).toNat = x / 65536 % 4294967296 := rfl
  rw [e1, e2, e3, e4, e5]
  rfl
theorem unpack6 (x A B C D F Y : Int) (ds : List Int) (hx : U64 x) (hu : unpackL ds x 0 = some [A, B, C, D, F, Y]) (v : Value) (W : World) (hl : Lst .i64 W v ds) :
    Calls Tryz.prog 84 #[.int .u64 x, v] W fun e w' => ∃ b off cap, e = .returned (.tuple #[.slice (some ⟨b, off, none⟩) 6 cap, .int .i64 0]) ∧ w'.cell? ⟨b, off, none⟩ = some (.int .u64 A) ∧ w'.cell? ⟨b, off + 1, none⟩ = some (.int .u64 B) ∧ w'.cell? ⟨b, off + 2, none⟩ = some (.int .u64 C) ∧ w'.cell? ⟨b, off + 3, none⟩ = some (.int .u64 D) ∧ w'.cell? ⟨b, off + 5, none⟩ = some (.int .u64 Y) ∧ Below W.heap.size W w' := by
  refine (unpack_any x v ds W hx hl).mono ?_
  rintro e w' ⟨v2, he, hl2, hb⟩
  rw [hu] at he hl2
  rcases hl2 with ⟨h0, _⟩ | ⟨b, off, cap, hv, _, _, hc⟩
  · exact absurd h0 (by simp)
  · exact ⟨b, off, cap, by rw [he, hv]; rfl, hc 0 (by simp), hc 1 (by simp), hc 2 (by simp), hc 3 (by simp), hc 5 (by simp), hb⟩
theorem box5f {w w1 : World} {a b c d f : Value} {t : TypeId} (hb : Below (w.alloc (.cells #[a, b, c, d, f] t)).heap.size (w.alloc (.cells #[a, b, c, d, f] t)) w1) :
    w1.frozen? ⟨w.heap.size, 0, none⟩ = false ∧ w1.frozen? ⟨w.heap.size, 1, none⟩ = false ∧ w1.frozen? ⟨w.heap.size, 2, none⟩ = false ∧ w1.frozen? ⟨w.heap.size, 3, none⟩ = false ∧ w1.frozen? ⟨w.heap.size, 4, none⟩ = false :=
  ⟨box_frozen hb 0, box_frozen hb 1, box_frozen hb 2, box_frozen hb 3, box_frozen hb 4⟩

set_option maxHeartbeats 1000000 in
theorem edec_core (x A B C D F Y : Int) (w : World) (hx : U64 x) (hu : Hid (unpackL [2, 4, 2, 4, 4, 32] x 0 = some [A, B, C, D, F, Y])) (hA : 0 ≤ A ∧ A ≤ 3) (hB : 0 ≤ B ∧ B ≤ 15) (hC : 0 ≤ C ∧ C ≤ 3) (hD : 0 ≤ D ∧ D ≤ 15) (hY : 0 ≤ Y ∧ Y ≤ 4294967295) (h : entB A B C D Y = true) (he : (encE A B C D Y != x) = false) :
    Calls Tryz.prog 72 #[.int .u64 x] w fun e w' => e = .returned (.tuple #[.agg #[.int .i64 A, .int .i64 B, .int .i64 C, .int .i64 D, .int .i64 Y], .int .i64 0]) ∧ Below w.heap.size w w' := by
  have U := Lib.hid (fun v W hl => unpack6 x A B C D F Y [2, 4, 2, 4, 4, 32] hx hu.out v W hl)
  go_enter Tryz.func72, Tryz.ntmps72
  go_wp2_with (first | (go_at_call 85; refine (entryWidths_any _).mono ?_; rintro e w1 ⟨v1, rfl, hl1, hb1⟩) | (go_at_call 84; refine (U.out _ _ hl1).mono ?_; rintro e w2 ⟨b, off, cap, rfl, c0, c1, c2, c3, c5, hb2⟩))
  have hb12 := hb1.trans (hb2.mono hb1.size)
  have hsz : w.heap.size < w2.heap.size := by have := hb12.size; simp at this; omega
  have hbl := World.block_lt_of_cell? _ _ c0
  have wA : IntKind.i64.wrap A = A := IntWalk.i64_in A (by omega)
  have wB : IntKind.i64.wrap B = B := IntWalk.i64_in B (by omega)
  have wC : IntKind.i64.wrap C = C := IntWalk.i64_in C (by omega)
  have wD : IntKind.i64.wrap D = D := IntWalk.i64_in D (by omega)
  have wY : IntKind.i64.wrap Y = Y := IntWalk.i64_in Y (by omega)
  have i0 : (0 : Int) < 6 := by decide
  have i1 : (1 : Int) < 6 := by decide
  have i2 : (2 : Int) < 6 := by decide
  have i3 : (3 : Int) < 6 := by decide
  have i5 : (5 : Int) < 6 := by decide
  go_region_held3 (fun w' => w'.cell? ⟨b, off, none⟩ = some (.int .u64 A) ∧ w'.cell? ⟨b, off + 1, none⟩ = some (.int .u64 B) ∧ w'.cell? ⟨b, off + 2, none⟩ = some (.int .u64 C) ∧ w'.cell? ⟨b, off + 3, none⟩ = some (.int .u64 D) ∧ w'.cell? ⟨b, off + 5, none⟩ = some (.int .u64 Y)) (first | exact ⟨c0, c1, c2, c3, c5⟩ | go_keep) (fail)
  go_wp2_with fail
  refine (eenc_yes A B C D Y _ h).mono ?_
  rintro e w5 ⟨rfl, hb5⟩
  have hN : Below (w2.alloc (.cells #[.int .i64 A, .int .i64 B, .int .i64 C, .int .i64 D, .int .i64 Y] 83)).heap.size (w2.alloc (.cells #[.int .i64 A, .int .i64 B, .int .i64 C, .int .i64 D, .int .i64 Y] 83)) w5 := (Quiet.below ⟨1, rfl⟩).trans (hb5.mono (by simp))
  have hO := hb12.trans ((((Below.refl _ _).alloc (Nat.le_refl _) _).trans (hN.mono (by simp))).mono hb12.size)
  obtain ⟨n0, n1, n2, n3, n4⟩ := box5 hN
  obtain ⟨o0, o1, o2, o3, o4⟩ := box5 hO
  obtain ⟨f0, f1, f2, f3, f4⟩ := box5f hO
  go_wp2
  refine bodyPost_ret (v := .tuple #[.agg #[.int .i64 A, .int .i64 B, .int .i64 C, .int .i64 D, .int .i64 Y], .int .i64 0]) (by simp [results, Tryz.results72, go_sem, o0, o1, o2, o3, o4]) rfl ⟨rfl, ?_⟩
  exact ((((((((Below.refl _ _).alloc (Nat.le_refl _) _).trans (hO.mono (by simp))).setCell (Nat.le_refl _) _).setCell (Nat.le_refl _) _).setCell (Nat.le_refl _) _).setCell (Nat.le_refl _) _).setCell (Nat.le_refl _) _)
set_option maxHeartbeats 1000000 in
theorem edec_part (x A B C D F Y : Int) (w : World) (hx : U64 x) (hu : Hid (unpackL [2, 4, 2, 4, 4, 32] x 0 = some [A, B, C, D, F, Y])) (hA : 0 ≤ A ∧ A ≤ 3) (hB : 0 ≤ B ∧ B ≤ 15) (hC : 0 ≤ C ∧ C ≤ 3) (hD : 0 ≤ D ∧ D ≤ 15) (hY : 0 ≤ Y ∧ Y ≤ 4294967295) (h : entB A B C D Y = true) (he : (encE A B C D Y != x) = true) :
    Calls Tryz.prog 72 #[.int .u64 x] w fun e w' => e = .returned (.tuple #[.agg #[.int .i64 0, .int .i64 0, .int .i64 0, .int .i64 0, .int .i64 0], .int .i64 4]) ∧ Below w.heap.size w w' := by
  have U := Lib.hid (fun v W hl => unpack6 x A B C D F Y [2, 4, 2, 4, 4, 32] hx hu.out v W hl)
  go_enter Tryz.func72, Tryz.ntmps72
  go_wp2_with (first | (go_at_call 85; refine (entryWidths_any _).mono ?_; rintro e w1 ⟨v1, rfl, hl1, hb1⟩) | (go_at_call 84; refine (U.out _ _ hl1).mono ?_; rintro e w2 ⟨b, off, cap, rfl, c0, c1, c2, c3, c5, hb2⟩))
  have hb12 := hb1.trans (hb2.mono hb1.size)
  have hsz : w.heap.size < w2.heap.size := by have := hb12.size; simp at this; omega
  have hbl := World.block_lt_of_cell? _ _ c0
  have wA : IntKind.i64.wrap A = A := IntWalk.i64_in A (by omega)
  have wB : IntKind.i64.wrap B = B := IntWalk.i64_in B (by omega)
  have wC : IntKind.i64.wrap C = C := IntWalk.i64_in C (by omega)
  have wD : IntKind.i64.wrap D = D := IntWalk.i64_in D (by omega)
  have wY : IntKind.i64.wrap Y = Y := IntWalk.i64_in Y (by omega)
  have i0 : (0 : Int) < 6 := by decide
  have i1 : (1 : Int) < 6 := by decide
  have i2 : (2 : Int) < 6 := by decide
  have i3 : (3 : Int) < 6 := by decide
  have i5 : (5 : Int) < 6 := by decide
  go_region_held3 (fun w' => w'.cell? ⟨b, off, none⟩ = some (.int .u64 A) ∧ w'.cell? ⟨b, off + 1, none⟩ = some (.int .u64 B) ∧ w'.cell? ⟨b, off + 2, none⟩ = some (.int .u64 C) ∧ w'.cell? ⟨b, off + 3, none⟩ = some (.int .u64 D) ∧ w'.cell? ⟨b, off + 5, none⟩ = some (.int .u64 Y)) (first | exact ⟨c0, c1, c2, c3, c5⟩ | go_keep) (fail)
  go_wp2_with fail
  refine (eenc_yes A B C D Y _ h).mono ?_
  rintro e w5 ⟨rfl, hb5⟩
  have hN : Below (w2.alloc (.cells #[.int .i64 A, .int .i64 B, .int .i64 C, .int .i64 D, .int .i64 Y] 83)).heap.size (w2.alloc (.cells #[.int .i64 A, .int .i64 B, .int .i64 C, .int .i64 D, .int .i64 Y] 83)) w5 := (Quiet.below ⟨1, rfl⟩).trans (hb5.mono (by simp))
  have hO := hb12.trans ((((Below.refl _ _).alloc (Nat.le_refl _) _).trans (hN.mono (by simp))).mono hb12.size)
  obtain ⟨n0, n1, n2, n3, n4⟩ := box5 hN
  obtain ⟨o0, o1, o2, o3, o4⟩ := box5 hO
  obtain ⟨f0, f1, f2, f3, f4⟩ := box5f hO
  go_wp2
  refine bodyPost_ret (v := .tuple #[.agg #[.int .i64 0, .int .i64 0, .int .i64 0, .int .i64 0, .int .i64 0], .int .i64 4]) (by simp [results, Tryz.results72, go_sem, o0, o1, o2, o3, o4]) rfl ⟨rfl, ?_⟩
  exact ((((((((Below.refl _ _).alloc (Nat.le_refl _) _).trans (hO.mono (by simp))).setCell (Nat.le_refl _) _).setCell (Nat.le_refl _) _).setCell (Nat.le_refl _) _).setCell (Nat.le_refl _) _).setCell (Nat.le_refl _) _)
set_option maxHeartbeats 1000000 in
theorem edec_none (x A B C D F Y : Int) (w : World) (hx : U64 x) (hu : Hid (unpackL [2, 4, 2, 4, 4, 32] x 0 = some [A, B, C, D, F, Y])) (hA : 0 ≤ A ∧ A ≤ 3) (hB : 0 ≤ B ∧ B ≤ 15) (hC : 0 ≤ C ∧ C ≤ 3) (hD : 0 ≤ D ∧ D ≤ 15) (hY : 0 ≤ Y ∧ Y ≤ 4294967295) (h : entB A B C D Y = false) :
    Calls Tryz.prog 72 #[.int .u64 x] w fun e w' => e = .returned (.tuple #[.agg #[.int .i64 0, .int .i64 0, .int .i64 0, .int .i64 0, .int .i64 0], .int .i64 4]) ∧ Below w.heap.size w w' := by
  have U := Lib.hid (fun v W hl => unpack6 x A B C D F Y [2, 4, 2, 4, 4, 32] hx hu.out v W hl)
  go_enter Tryz.func72, Tryz.ntmps72
  go_wp2_with (first | (go_at_call 85; refine (entryWidths_any _).mono ?_; rintro e w1 ⟨v1, rfl, hl1, hb1⟩) | (go_at_call 84; refine (U.out _ _ hl1).mono ?_; rintro e w2 ⟨b, off, cap, rfl, c0, c1, c2, c3, c5, hb2⟩))
  have hb12 := hb1.trans (hb2.mono hb1.size)
  have hsz : w.heap.size < w2.heap.size := by have := hb12.size; simp at this; omega
  have hbl := World.block_lt_of_cell? _ _ c0
  have wA : IntKind.i64.wrap A = A := IntWalk.i64_in A (by omega)
  have wB : IntKind.i64.wrap B = B := IntWalk.i64_in B (by omega)
  have wC : IntKind.i64.wrap C = C := IntWalk.i64_in C (by omega)
  have wD : IntKind.i64.wrap D = D := IntWalk.i64_in D (by omega)
  have wY : IntKind.i64.wrap Y = Y := IntWalk.i64_in Y (by omega)
  have i0 : (0 : Int) < 6 := by decide
  have i1 : (1 : Int) < 6 := by decide
  have i2 : (2 : Int) < 6 := by decide
  have i3 : (3 : Int) < 6 := by decide
  have i5 : (5 : Int) < 6 := by decide
  go_region_held3 (fun w' => w'.cell? ⟨b, off, none⟩ = some (.int .u64 A) ∧ w'.cell? ⟨b, off + 1, none⟩ = some (.int .u64 B) ∧ w'.cell? ⟨b, off + 2, none⟩ = some (.int .u64 C) ∧ w'.cell? ⟨b, off + 3, none⟩ = some (.int .u64 D) ∧ w'.cell? ⟨b, off + 5, none⟩ = some (.int .u64 Y)) (first | exact ⟨c0, c1, c2, c3, c5⟩ | go_keep) (fail)
  go_wp2_with fail
  refine (eenc_no A B C D Y _ h).mono ?_
  rintro e w5 ⟨rfl, hb5⟩
  have hN : Below (w2.alloc (.cells #[.int .i64 A, .int .i64 B, .int .i64 C, .int .i64 D, .int .i64 Y] 83)).heap.size (w2.alloc (.cells #[.int .i64 A, .int .i64 B, .int .i64 C, .int .i64 D, .int .i64 Y] 83)) w5 := (Quiet.below ⟨1, rfl⟩).trans (hb5.mono (by simp))
  have hO := hb12.trans ((((Below.refl _ _).alloc (Nat.le_refl _) _).trans (hN.mono (by simp))).mono hb12.size)
  obtain ⟨n0, n1, n2, n3, n4⟩ := box5 hN
  obtain ⟨o0, o1, o2, o3, o4⟩ := box5 hO
  obtain ⟨f0, f1, f2, f3, f4⟩ := box5f hO
  go_wp2
  refine bodyPost_ret (v := .tuple #[.agg #[.int .i64 0, .int .i64 0, .int .i64 0, .int .i64 0, .int .i64 0], .int .i64 4]) (by simp [results, Tryz.results72, go_sem, o0, o1, o2, o3, o4]) rfl ⟨rfl, ?_⟩
  exact ((((((((Below.refl _ _).alloc (Nat.le_refl _) _).trans (hO.mono (by simp))).setCell (Nat.le_refl _) _).setCell (Nat.le_refl _) _).setCell (Nat.le_refl _) _).setCell (Nat.le_refl _) _).setCell (Nat.le_refl _) _)

/-- Is the word an entry's? -/
def edecOk (x : Int) : Bool := entB (x % 4) (x / 4 % 16) (x / 64 % 4) (x / 256 % 16) (x / 65536 % 4294967296) && encE (x % 4) (x / 4 % 16) (x / 64 % 4) (x / 256 % 16) (x / 65536 % 4294967296) == x
theorem edec_yes (x : Int) (w : World) (hx : U64 x) (h : edecOk x = true) :
    Calls Tryz.prog 72 #[.int .u64 x] w fun e w' => e = .returned (.tuple #[.agg #[.int .i64 (x % 4), .int .i64 (x / 4 % 16), .int .i64 (x / 64 % 4), .int .i64 (x / 256 % 16), .int .i64 (x / 65536 % 4294967296)], .int .i64 0]) ∧ Below w.heap.size w w' := by
  obtain ⟨f, hu⟩ := unpack_ent x hx
  unfold edecOk at h
  rw [Bool.and_eq_true, beq_iff_eq] at h
  exact edec_core x _ _ _ _ f _ w hx hu (by omega) (by omega) (by omega) (by omega) (by omega) h.1 (by rw [h.2]; simp)
theorem edec_no (x : Int) (w : World) (hx : U64 x) (h : edecOk x = false) :
    Calls Tryz.prog 72 #[.int .u64 x] w fun e w' => e = .returned (.tuple #[.agg #[.int .i64 0, .int .i64 0, .int .i64 0, .int .i64 0, .int .i64 0], .int .i64 4]) ∧ Below w.heap.size w w' := by
  obtain ⟨f, hu⟩ := unpack_ent x hx
  unfold edecOk at h
  cases hb : entB (x % 4) (x / 4 % 16) (x / 64 % 4) (x / 256 % 16) (x / 65536 % 4294967296) with
  | true =>
    rw [hb, Bool.true_and] at h
    exact edec_part x _ _ _ _ f _ w hx hu (by omega) (by omega) (by omega) (by omega) (by omega) hb (by rw [bne, h]; rfl)
  | false => exact edec_none x _ _ _ _ f _ w hx hu (by omega) (by omega) (by omega) (by omega) (by omega) hb
end Go.Proofs.YtnodeojeijekcaaGreat
