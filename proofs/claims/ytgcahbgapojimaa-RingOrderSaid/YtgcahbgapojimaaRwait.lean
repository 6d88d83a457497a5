/- What ring's Waiting returns where there is no such thread, or the arena is too small. Condition: the arena is there. -/
import Derived.Test.YtgcahbgapojimaaRinged
namespace Go.Proofs.Ytgcahbgapojimaa
open Go.RowKit
set_option maxHeartbeats 1000000 in
theorem waiting_no (x : Option Addr) (P T R t : Int) (w : World) (h : exB P T R t = false) :
    Calls Try.prog 23 #[.pointer x, .agg #[.int .i64 P, .int .i64 T, .int .i64 R], .int .i64 t] w fun e w' => e = .returned (.tuple #[.slice none 0 0, .int .i64 1]) ∧ Below w.heap.size w w' := by
  have H := Lib.hid (fun W => exists_any P T R t W)
  rw [h] at H
  clear h
  go_enter Try.func23, Try.ntmps23
  have c0 := (planNew w P T R 49)
  go_wp2_with fail
  refine (H.out _).mono ?_; rintro e w1 ⟨rfl, hb1⟩
  have c1 := planKeep c0 hb1
  go_wp2
  go_ret2
  exact ⟨rfl, c1.2⟩
set_option maxHeartbeats 1000000 in
theorem waiting_addr (a c : Nat) (cs : List Int) (keep : Bool) (lv : Value) (n f : Int) (P T R t : Int) (w : World) (hA : ArenaAt w a c cs keep lv n f) (h : exB P T R t = true) (hi : insB cs.length (ownI P T R t 3) = false) :
    Calls Try.prog 23 #[.pointer (some ⟨a, 0, none⟩), .agg #[.int .i64 P, .int .i64 T, .int .i64 R], .int .i64 t] w fun e w' => e = .returned (.tuple #[.slice none 0 0, .int .i64 5]) ∧ Below w.heap.size w w' := by
  have H := Lib.hid (fun W => exists_any P T R t W)
  rw [h] at H
  have HH := Lib.hid (fun W => head_any P T R t W)
  have PK := Lib.hid (fun W (h : ArenaAt W a c cs keep lv n f) => peek_no (ownI P T R t 3) h hi)
  clear h hi
  generalize ownI P T R t 3 = i at *
  go_enter Try.func23, Try.ntmps23
  have c0 := (planNew w P T R 49)
  have hA0 := hA.alloc (.cells #[.int .i64 P, .int .i64 T, .int .i64 R] 49)
  go_wp2_with fail
  refine (H.out _).mono ?_; rintro e w1 ⟨rfl, hb1⟩
  have c1 := planKeep c0 hb1
  obtain ⟨d10, d11, d12⟩ := c1.1
  have hA1 := hA0.grew hb1
  go_wp2_with fail
  refine (HH.out _).mono ?_; rintro e w2 ⟨rfl, hb2⟩
  have c2 := planKeep c1 hb2
  have hA2 := hA1.grew hb2
  go_wp2_with fail
  refine (PK.out _ hA2).mono ?_; rintro e w3 ⟨rfl, hq3⟩
  have hB3 := c2.2.trans hq3.below
  go_wp2
  go_ret2
  exact ⟨rfl, hB3⟩
end Go.Proofs.Ytgcahbgapojimaa
