/- What header.DecodeHead returns, for every word. No condition. -/
import Derived.Test.YtjomflodbcjdlaaHead
namespace Go.Proofs.Ytjomflodbcjdlaa
open Go.RowKit

theorem getI_div (x a d : Int) (hx : U64 x) (_h : fldB a d = true) : getI x a d = x / 2 ^ a.toNat % 2 ^ d.toNat := by
  obtain ⟨X, rfl⟩ := Int.eq_ofNat_of_zero_le hx.1
  unfold getI getN
  rw [Int.toNat_natCast, Nat.shiftRight_eq_div_pow]
  simp
theorem unpackL_cons (d : Int) (ds : List Int) (x a : Int) (h : fldB a d = true) : unpackL (d :: ds) x a = (unpackL ds x (a + d)).map (getI x a d :: ·) := by rw [unpackL, h, if_pos rfl]
theorem unpack_head (x : Int) (hx : U64 x) : ∃ d e, unpackL [8, 8, 8, 32, 8] x 0 = some [x % 256, x / 256 % 256, x / 65536 % 256, d, e] := by
  refine ⟨getI x 24 32, getI x 56 8, ?_⟩
  rw [unpackL_cons _ _ _ _ (by decide), unpackL_cons _ _ _ _ (by decide), unpackL_cons _ _ _ _ (by decide), unpackL_cons _ _ _ _ (by decide), unpackL_cons _ _ _ _ (by decide), unpackL]
  rw [getI_div _ _ _ hx (by decide), getI_div x (0 + 8) 8 hx (by decide), getI_div x (0 + 8 + 8) 8 hx (by decide)]
  have e1 : x / 2 ^ (0 : Int).toNat % 2 ^ (8 : Int).toNat = x % 256 := by
    show x / 1 % 256 = _
    rw [Int.ediv_one]
  have e2 : x / 2 ^ (0 + 8 : Int).toNat % 2 ^ (8 : Int).toNat = x / 256 % 256 := rfl
  have e3 : x / 2 ^ (0 + 8 + 8 : Int).toNat % 2 ^ (8 : Int).toNat = x / 65536 % 256 := rfl
  rw [e1, e2, e3]
  rfl

/-- A box of one's own may be written in a world that has only grown. -/
theorem box_frozen {w w1 : World} {cs : Array Value} {t : TypeId} (hb : Below (w.alloc (.cells cs t)).heap.size (w.alloc (.cells cs t)) w1) (i : Nat) :
    w1.frozen? ⟨w.heap.size, i, none⟩ = false := by
  rw [hb.frozen (p := ⟨w.heap.size, i, none⟩) (by simp)]
  exact World.frozen?_alloc_new ..
theorem unpack5 (x A B C D E : Int) (ds : List Int) (hx : U64 x) (hu : unpackL ds x 0 = some [A, B, C, D, E]) (v : Value) (W : World) (hl : Lst .i64 W v ds) :
    Calls Try.prog 33 #[.int .u64 x, v] W fun e w' => ∃ b off cap, e = .returned (.tuple #[.slice (some ⟨b, off, none⟩) 5 cap, .int .i64 0]) ∧ w'.cell? ⟨b, off, none⟩ = some (.int .u64 A) ∧ w'.cell? ⟨b, off + 1, none⟩ = some (.int .u64 B) ∧ w'.cell? ⟨b, off + 2, none⟩ = some (.int .u64 C) ∧ Below W.heap.size W w' := by
  refine (unpack_any x v ds W hx hl).mono ?_
  rintro e w' ⟨v2, he, hl2, hb⟩
  rw [hu] at he hl2
  rcases hl2 with ⟨h0, _⟩ | ⟨b, off, cap, hv, _, _, hc⟩
  · exact absurd h0 (by simp)
  · exact ⟨b, off, cap, by rw [he, hv]; rfl, hc 0 (by simp), hc 1 (by simp), hc 2 (by simp), hb⟩

set_option maxHeartbeats 1000000 in
theorem dec_core (x A B C D E : Int) (w : World) (hx : U64 x) (hu : Hid (unpackL [8, 8, 8, 32, 8] x 0 = some [A, B, C, D, E])) (hA : 0 ≤ A ∧ A ≤ 255) (hB : 0 ≤ B ∧ B ≤ 255) (hC : 0 ≤ C ∧ C ≤ 255) (h : headB B A C = true) (he : (encH B A C != x) = false) :
    Calls Try.prog 13 #[.int .u64 x] w fun e w' => e = .returned (.tuple #[.agg #[.int .i64 B, .int .i64 A, .int .i64 C], .int .i64 0]) ∧ Below w.heap.size w w' := by
  have U := Lib.hid (fun v W hl => unpack5 x A B C D E [8, 8, 8, 32, 8] hx hu.out v W hl)
  go_enter Try.func13, Try.ntmps13
  go_wp2_with (first | (go_at_call 36; refine (headWidths_any _).mono ?_; rintro e w1 ⟨v1, rfl, hl1, hb1⟩) | (go_at_call 33; refine (U.out _ _ hl1).mono ?_; rintro e w2 ⟨b, off, cap, rfl, c0, c1, c2, hb2⟩))
  have hb12 := hb1.trans (hb2.mono hb1.size)
  have hsz : w.heap.size < w2.heap.size := by have := hb12.size; simp at this; omega
  have g0 := box_cell hb12 0
  have g1 := box_cell hb12 1
  have g2 := box_cell hb12 2
  simp only [List.getElem?_toArray, List.getElem?_cons_zero, List.getElem?_cons_succ] at g0 g1 g2
  have hbl := World.block_lt_of_cell? _ _ c0
  have wA : IntKind.i64.wrap A = A := IntWalk.i64_in A (by omega)
  have wB : IntKind.i64.wrap B = B := IntWalk.i64_in B (by omega)
  have wC : IntKind.i64.wrap C = C := IntWalk.i64_in C (by omega)
  have i0 : (0 : Int) < 5 := by decide
  have i1 : (1 : Int) < 5 := by decide
  have i2 : (2 : Int) < 5 := by decide
  go_region_held3 (fun w' => w'.cell? ⟨b, off, none⟩ = some (.int .u64 A) ∧ w'.cell? ⟨b, off + 1, none⟩ = some (.int .u64 B) ∧ w'.cell? ⟨b, off + 2, none⟩ = some (.int .u64 C)) (first | exact ⟨c0, c1, c2⟩ | go_keep) (fail)
  go_wp2_with fail
  refine (enc_yes B A C _ h).mono ?_
  rintro e w5 ⟨rfl, hb5⟩
  have hN : Below (w2.alloc (.cells #[.int .i64 B, .int .i64 A, .int .i64 C] 28)).heap.size (w2.alloc (.cells #[.int .i64 B, .int .i64 A, .int .i64 C] 28)) w5 := (Quiet.below ⟨1, rfl⟩).trans (hb5.mono (by simp))
  have hO := hb12.trans ((((Below.refl _ _).alloc (Nat.le_refl _) _).trans (hN.mono (by simp))).mono hb12.size)
  have n0 := box_cell hN 0
  have n1 := box_cell hN 1
  have n2 := box_cell hN 2
  have o0 := box_cell hO 0
  have o1 := box_cell hO 1
  have o2 := box_cell hO 2
  have f0 := box_frozen hO 0
  have f1 := box_frozen hO 1
  have f2 := box_frozen hO 2
  simp only [List.getElem?_toArray, List.getElem?_cons_zero, List.getElem?_cons_succ] at n0 n1 n2 o0 o1 o2
  go_wp2
  refine bodyPost_ret (v := .tuple #[.agg #[.int .i64 B, .int .i64 A, .int .i64 C], .int .i64 0]) (by simp [results, Try.results13, go_sem, o0, o1, o2]) rfl ⟨rfl, ?_⟩
  exact ((((((Below.refl _ _).alloc (Nat.le_refl _) _).trans (hO.mono (by simp))).setCell (Nat.le_refl _) _).setCell (Nat.le_refl _) _).setCell (Nat.le_refl _) _)
set_option maxHeartbeats 1000000 in
theorem dec_part (x A B C D E : Int) (w : World) (hx : U64 x) (hu : Hid (unpackL [8, 8, 8, 32, 8] x 0 = some [A, B, C, D, E])) (hA : 0 ≤ A ∧ A ≤ 255) (hB : 0 ≤ B ∧ B ≤ 255) (hC : 0 ≤ C ∧ C ≤ 255) (h : headB B A C = true) (he : (encH B A C != x) = true) :
    Calls Try.prog 13 #[.int .u64 x] w fun e w' => e = .returned (.tuple #[.agg #[.int .i64 0, .int .i64 0, .int .i64 0], .int .i64 4]) ∧ Below w.heap.size w w' := by
  have U := Lib.hid (fun v W hl => unpack5 x A B C D E [8, 8, 8, 32, 8] hx hu.out v W hl)
  go_enter Try.func13, Try.ntmps13
  go_wp2_with (first | (go_at_call 36; refine (headWidths_any _).mono ?_; rintro e w1 ⟨v1, rfl, hl1, hb1⟩) | (go_at_call 33; refine (U.out _ _ hl1).mono ?_; rintro e w2 ⟨b, off, cap, rfl, c0, c1, c2, hb2⟩))
  have hb12 := hb1.trans (hb2.mono hb1.size)
  have hsz : w.heap.size < w2.heap.size := by have := hb12.size; simp at this; omega
  have g0 := box_cell hb12 0
  have g1 := box_cell hb12 1
  have g2 := box_cell hb12 2
  simp only [List.getElem?_toArray, List.getElem?_cons_zero, List.getElem?_cons_succ] at g0 g1 g2
  have hbl := World.block_lt_of_cell? _ _ c0
  have wA : IntKind.i64.wrap A = A := IntWalk.i64_in A (by omega)
  have wB : IntKind.i64.wrap B = B := IntWalk.i64_in B (by omega)
  have wC : IntKind.i64.wrap C = C := IntWalk.i64_in C (by omega)
  have i0 : (0 : Int) < 5 := by decide
  have i1 : (1 : Int) < 5 := by decide
  have i2 : (2 : Int) < 5 := by decide
  go_region_held3 (fun w' => w'.cell? ⟨b, off, none⟩ = some (.int .u64 A) ∧ w'.cell? ⟨b, off + 1, none⟩ = some (.int .u64 B) ∧ w'.cell? ⟨b, off + 2, none⟩ = some (.int .u64 C)) (first | exact ⟨c0, c1, c2⟩ | go_keep) (fail)
  go_wp2_with fail
  refine (enc_yes B A C _ h).mono ?_
  rintro e w5 ⟨rfl, hb5⟩
  have hN : Below (w2.alloc (.cells #[.int .i64 B, .int .i64 A, .int .i64 C] 28)).heap.size (w2.alloc (.cells #[.int .i64 B, .int .i64 A, .int .i64 C] 28)) w5 := (Quiet.below ⟨1, rfl⟩).trans (hb5.mono (by simp))
  have hO := hb12.trans ((((Below.refl _ _).alloc (Nat.le_refl _) _).trans (hN.mono (by simp))).mono hb12.size)
  have n0 := box_cell hN 0
  have n1 := box_cell hN 1
  have n2 := box_cell hN 2
  have o0 := box_cell hO 0
  have o1 := box_cell hO 1
  have o2 := box_cell hO 2
  have f0 := box_frozen hO 0
  have f1 := box_frozen hO 1
  have f2 := box_frozen hO 2
  simp only [List.getElem?_toArray, List.getElem?_cons_zero, List.getElem?_cons_succ] at n0 n1 n2 o0 o1 o2
  go_wp2
  refine bodyPost_ret (v := .tuple #[.agg #[.int .i64 0, .int .i64 0, .int .i64 0], .int .i64 4]) (by simp [results, Try.results13, go_sem, o0, o1, o2]) rfl ⟨rfl, ?_⟩
  exact ((((((Below.refl _ _).alloc (Nat.le_refl _) _).trans (hO.mono (by simp))).setCell (Nat.le_refl _) _).setCell (Nat.le_refl _) _).setCell (Nat.le_refl _) _)
set_option maxHeartbeats 1000000 in
theorem dec_none (x A B C D E : Int) (w : World) (hx : U64 x) (hu : Hid (unpackL [8, 8, 8, 32, 8] x 0 = some [A, B, C, D, E])) (hA : 0 ≤ A ∧ A ≤ 255) (hB : 0 ≤ B ∧ B ≤ 255) (hC : 0 ≤ C ∧ C ≤ 255) (h : headB B A C = false) :
    Calls Try.prog 13 #[.int .u64 x] w fun e w' => e = .returned (.tuple #[.agg #[.int .i64 0, .int .i64 0, .int .i64 0], .int .i64 4]) ∧ Below w.heap.size w w' := by
  have U := Lib.hid (fun v W hl => unpack5 x A B C D E [8, 8, 8, 32, 8] hx hu.out v W hl)
  go_enter Try.func13, Try.ntmps13
  go_wp2_with (first | (go_at_call 36; refine (headWidths_any _).mono ?_; rintro e w1 ⟨v1, rfl, hl1, hb1⟩) | (go_at_call 33; refine (U.out _ _ hl1).mono ?_; rintro e w2 ⟨b, off, cap, rfl, c0, c1, c2, hb2⟩))
  have hb12 := hb1.trans (hb2.mono hb1.size)
  have hsz : w.heap.size < w2.heap.size := by have := hb12.size; simp at this; omega
  have g0 := box_cell hb12 0
  have g1 := box_cell hb12 1
  have g2 := box_cell hb12 2
  simp only [List.getElem?_toArray, List.getElem?_cons_zero, List.getElem?_cons_succ] at g0 g1 g2
  have hbl := World.block_lt_of_cell? _ _ c0
  have wA : IntKind.i64.wrap A = A := IntWalk.i64_in A (by omega)
  have wB : IntKind.i64.wrap B = B := IntWalk.i64_in B (by omega)
  have wC : IntKind.i64.wrap C = C := IntWalk.i64_in C (by omega)
  have i0 : (0 : Int) < 5 := by decide
  have i1 : (1 : Int) < 5 := by decide
  have i2 : (2 : Int) < 5 := by decide
  go_region_held3 (fun w' => w'.cell? ⟨b, off, none⟩ = some (.int .u64 A) ∧ w'.cell? ⟨b, off + 1, none⟩ = some (.int .u64 B) ∧ w'.cell? ⟨b, off + 2, none⟩ = some (.int .u64 C)) (first | exact ⟨c0, c1, c2⟩ | go_keep) (fail)
  go_wp2_with fail
  refine (enc_no B A C _ h).mono ?_
  rintro e w5 ⟨rfl, hb5⟩
  have hN : Below (w2.alloc (.cells #[.int .i64 B, .int .i64 A, .int .i64 C] 28)).heap.size (w2.alloc (.cells #[.int .i64 B, .int .i64 A, .int .i64 C] 28)) w5 := (Quiet.below ⟨1, rfl⟩).trans (hb5.mono (by simp))
  have hO := hb12.trans ((((Below.refl _ _).alloc (Nat.le_refl _) _).trans (hN.mono (by simp))).mono hb12.size)
  have n0 := box_cell hN 0
  have n1 := box_cell hN 1
  have n2 := box_cell hN 2
  have o0 := box_cell hO 0
  have o1 := box_cell hO 1
  have o2 := box_cell hO 2
  have f0 := box_frozen hO 0
  have f1 := box_frozen hO 1
  have f2 := box_frozen hO 2
  simp only [List.getElem?_toArray, List.getElem?_cons_zero, List.getElem?_cons_succ] at n0 n1 n2 o0 o1 o2
  go_wp2
  refine bodyPost_ret (v := .tuple #[.agg #[.int .i64 0, .int .i64 0, .int .i64 0], .int .i64 4]) (by simp [results, Try.results13, go_sem, o0, o1, o2]) rfl ⟨rfl, ?_⟩
  exact ((((((Below.refl _ _).alloc (Nat.le_refl _) _).trans (hO.mono (by simp))).setCell (Nat.le_refl _) _).setCell (Nat.le_refl _) _).setCell (Nat.le_refl _) _)

/-- The header that a word is, or none. -/
def decOk (x : Int) : Bool := headB (x / 256 % 256) (x % 256) (x / 65536 % 256) && encH (x / 256 % 256) (x % 256) (x / 65536 % 256) == x
theorem dec_yes (x : Int) (w : World) (hx : U64 x) (h : decOk x = true) :
    Calls Try.prog 13 #[.int .u64 x] w fun e w' => e = .returned (.tuple #[.agg #[.int .i64 (x / 256 % 256), .int .i64 (x % 256), .int .i64 (x / 65536 % 256)], .int .i64 0]) ∧ Below w.heap.size w w' := by
  obtain ⟨d, e, hu⟩ := unpack_head x hx
  unfold decOk at h
  rw [Bool.and_eq_true, beq_iff_eq] at h
  exact dec_core x _ _ _ d e w hx hu (by omega) (by omega) (by omega) h.1 (by rw [h.2]; simp)
theorem dec_no (x : Int) (w : World) (hx : U64 x) (h : decOk x = false) :
    Calls Try.prog 13 #[.int .u64 x] w fun e w' => e = .returned (.tuple #[.agg #[.int .i64 0, .int .i64 0, .int .i64 0], .int .i64 4]) ∧ Below w.heap.size w w' := by
  obtain ⟨d, e, hu⟩ := unpack_head x hx
  unfold decOk at h
  cases hb : headB (x / 256 % 256) (x % 256) (x / 65536 % 256) with
  | true =>
    rw [hb, Bool.true_and] at h
    exact dec_part x _ _ _ d e w hx hu (by omega) (by omega) (by omega) hb (by rw [bne, h]; rfl)
  | false => exact dec_none x _ _ _ d e w hx hu (by omega) (by omega) (by omega) hb
end Go.Proofs.Ytjomflodbcjdlaa
