/- Small words for the walk of the law RingOrder: Head and Tail of the document's map, a cell that is written from without, where the queue begins. No condition. -/
import Derived.Test.YtgcahbgapojimaaRordb
namespace Go.Proofs.Ytgcahbgapojimaa
open Go.RowKit
theorem Ary.poke {w : World} {B a c n i : Nat} {cs : List Int} {K : List Nat} (v : Int) (h : Ary w B a c cs n K) (hi : i < cs.length) (hm : cs.length ≤ 1000000) :
    Calls Try.prog 18 #[.pointer (some ⟨a, 0, none⟩), .int .i64 i, .int .u64 v] w fun e w' => e = .returned (.int .i64 0) ∧ Ary w' B a c (cs.set i v) n K ∧ Touch (fun b => b = c) w w' := by
  obtain ⟨xs, h⟩ := h
  exact (poke_x v h hi hm).mono fun _ _ ⟨he, h1, h2⟩ => ⟨he, ⟨xs, h1⟩, h2⟩
theorem Ary.ac {w : World} {B a c n : Nat} {cs : List Int} {K : List Nat} (h : Ary w B a c cs n K) : c ∉ K ∧ B ≤ c := by
  obtain ⟨xs, h⟩ := h
  exact ⟨h.nc, h.bc⟩
set_option maxHeartbeats 400000 in
theorem mhead_0 (P T R x y z : Int) (w : World) (hR : 1 ≤ R ∧ R ≤ 16) :
    Calls Try.prog 19 #[.agg #[.int .i64 P, .int .i64 T, .int .i64 R, .int .i64 x, .int .i64 y, .int .i64 z], .int .i64 0] w fun e w' => e = .returned (.int .i64 ((19 : Nat) : Int)) ∧ Below w.heap.size w w' := by
  have S := Lib.hid (fun W => mstatus_any P T R x y z 0 W hR (by decide))
  clear hR
  go_enter Try.func19, Try.ntmps19
  have hZ := (Blk.new w #[.int .i64 P, .int .i64 T, .int .i64 R, .int .i64 x, .int .i64 y, .int .i64 z] 36).six.1
  have hB0 : Below w.heap.size w (w.alloc (.cells #[.int .i64 P, .int .i64 T, .int .i64 R, .int .i64 x, .int .i64 y, .int .i64 z] 36)) := (Below.refl _ _).alloc (Nat.le_refl _) _
  go_wp2_with fail
  refine (S.out _).mono ?_; rintro e w1 ⟨rfl, hb1⟩
  have hB1 := hB0.trans (hb1.mono hB0.size)
  go_wp2
  go_ret
  exact ⟨ret_int (by first | rfl | simp), hB1⟩
set_option maxHeartbeats 400000 in
theorem mtail_0 (P T R x y z : Int) (w : World) (hR : 1 ≤ R ∧ R ≤ 16) :
    Calls Try.prog 20 #[.agg #[.int .i64 P, .int .i64 T, .int .i64 R, .int .i64 x, .int .i64 y, .int .i64 z], .int .i64 0] w fun e w' => e = .returned (.int .i64 ((20 : Nat) : Int)) ∧ Below w.heap.size w w' := by
  have S := Lib.hid (fun W => mstatus_any P T R x y z 0 W hR (by decide))
  clear hR
  go_enter Try.func20, Try.ntmps20
  have hZ := (Blk.new w #[.int .i64 P, .int .i64 T, .int .i64 R, .int .i64 x, .int .i64 y, .int .i64 z] 36).six.1
  have hB0 : Below w.heap.size w (w.alloc (.cells #[.int .i64 P, .int .i64 T, .int .i64 R, .int .i64 x, .int .i64 y, .int .i64 z] 36)) := (Below.refl _ _).alloc (Nat.le_refl _) _
  go_wp2_with fail
  refine (S.out _).mono ?_; rintro e w1 ⟨rfl, hb1⟩
  have hB1 := hB0.trans (hb1.mono hB0.size)
  go_wp2
  go_ret
  exact ⟨ret_int (by first | rfl | simp), hB1⟩
theorem RoC.start {P T R f : Int} (hx : exB P T R 0 = true) : RoC P T R f 0 0 (((List.replicate (cellsN P T R) (0 : Int)).set 19 f).set 20 f) := by
  obtain ⟨r1, r2⟩ := ring_bd hx
  have h3 := ownN_bd hx 3 (by decide) (by omega)
  have h4 := ownN_bd hx 4 (by decide) (by omega)
  have e3 : ownN R 0 3 = 19 := by rw [own0]; rfl
  have e4 : ownN R 0 4 = 20 := by rw [own0]; rfl
  rw [e3] at h3
  rw [e4] at h4
  refine ⟨by simp, ?_, ?_, Nat.le_refl _, by omega, fun j h1 h2 => absurd h2 (by omega)⟩
  · rw [e4, getD_set, if_pos ⟨rfl, by simp; exact h4.2.1⟩]; simp
  · rw [e3, getD_set, if_neg (by omega), getD_set, if_pos ⟨rfl, by simp; exact h3.2.1⟩]; simp
/-- what Waiting answers in the midst -/
theorem RoQ.wait {w0 w : World} {B a c p cp x : Nat} {P T R f pn kn : Int} {np nt N : Nat} (h : RoQ w0 B a c p cp x P T R f np nt pn kn N w) (hx : exB P T R 0 = true) (hnp : np ≤ 1000000) :
    Calls Try.prog 23 #[.pointer (some ⟨a, 0, none⟩), .agg #[.int .i64 P, .int .i64 T, .int .i64 R], .int .i64 0] w fun e w' => ∃ v L, e = .returned (.tuple #[v, .int .i64 0]) ∧ w'.ownsRow w.heap.size 22 1 v (np - nt) L ∧ Below w.heap.size w w' := by
  obtain ⟨pup, pop, vp, vt, cs, n, K, hn, hQ, hC, hU, hO⟩ := h
  have hle := hC.le
  have hro := hC.room
  refine (waiting_yes P T R 0 (f + nt) (f + np) (np - nt) w hQ.ary hx hC.len hC.head hC.tail (by rw [IntKind.wrap_u64]; omega) (by omega)).mono fun e w' ⟨v, he, ho, hb⟩ => ⟨v, _, he, ho, hb⟩
theorem RoQ.grew {w0 w w' : World} {B a c p cp x : Nat} {P T R f pn kn : Int} {np nt N : Nat} (h : RoQ w0 B a c p cp x P T R f np nt pn kn N w) (hb : Below w.heap.size w w') : RoQ w0 B a c p cp x P T R f np nt pn kn N w' := by
  obtain ⟨pup, pop, vp, vt, cs, n, K, hn, hQ, hC, hU, hO⟩ := h
  refine ⟨pup, pop, vp, vt, cs, n, K, hn, hQ.grew hb, hC, ?_, ?_⟩
  · rcases hU with h | ⟨m, h1, h2, h3, h4⟩
    · exact .inl h
    · exact .inr ⟨m, h1, h2, h3.grew hb, h4⟩
  · rcases hO with h | ⟨m, v, h1, h2, h3, h4⟩
    · exact .inl h
    · exact .inr ⟨m, v, h1, h2, h3.grew hb, h4⟩
end Go.Proofs.Ytgcahbgapojimaa
