/- What tableSpot of package layout returns. Condition: the plan's numbers are in their bounds, n is not negative. -/
import Derived.Test.YtahppkdbaagcgaaFinda
namespace Go.Proofs.Ytahppkdbaagcgaa
open Go.RowKit
set_option linter.unusedVariables false
set_option maxHeartbeats 1000000 in
theorem tableSpot_0 (P T R n : Int) (w : World) (hR : Right P T R) (h0 : 0 ≤ n) (h1 : n < 1000) (hc : n / P = 0) :
    Calls Try.prog 24 #[.agg #[.int .i64 P, .int .i64 T, .int .i64 R], .int .i64 n] w fun e w' => e = .returned (.agg #[.int .i64 5, .int .i64 (n % P), .int .i64 0]) ∧ Below w.heap.size w w' := by
  obtain ⟨⟨r1, r2⟩, _⟩ := hR
  have q0 : 0 ≤ n / P := Int.ediv_nonneg h0 (by omega)
  have q1 : n / P ≤ n := Int.ediv_le_self _ h0
  have m0 : 0 ≤ n % P := Int.emod_nonneg _ (by omega)
  have m1 : n % P < P := Int.emod_lt_of_pos _ (by omega)
  have td : n.tdiv P = n / P := Int.tdiv_eq_ediv_of_nonneg h0
  have tm : n.tmod P = n % P := Int.tmod_eq_emod_of_nonneg h0
  have hE : P ≠ 0 := by omega
  have hE1 : P ≠ -1 := by omega
  have hE0 : 0 < P := by omega
  generalize hq : n / P = q at *
  generalize hm : n % P = m at *
  have k1 : IntKind.i64.wrap q = q := wi (by omega)
  have k2 : IntKind.i64.wrap m = m := wi (by omega)
  subst hc
  have X0 := (Blk.new w #[.int .i64 P, .int .i64 T, .int .i64 R] 25).alloc (.cells #[.int .i64 0, .int .i64 0, .int .i64 0] 33)
  have Z0 : Blk ((w.alloc (.cells #[.int .i64 P, .int .i64 T, .int .i64 R] 25)).alloc (.cells #[.int .i64 0, .int .i64 0, .int .i64 0] 33)) (w.heap.size + 1) #[.int .i64 0, .int .i64 0, .int .i64 0] 33 := Blk.new' (by simp)
  have B0 : Below w.heap.size w ((w.alloc (.cells #[.int .i64 P, .int .i64 T, .int .i64 R] 25)).alloc (.cells #[.int .i64 0, .int .i64 0, .int .i64 0] 33)) := ((Below.refl _ _).alloc (Nat.le_refl _) _).alloc (by simp) _
  go_enter Try.func24, Try.ntmps24
  go_wp2_with fail
  have X1 := X0.alloc (.cells #[.int .i64 5, .int .i64 6, .int .i64 7] 43)
  have Z1 := Z0.alloc (.cells #[.int .i64 5, .int .i64 6, .int .i64 7] 43)
  have B1 := B0.alloc B0.size (.cells #[.int .i64 5, .int .i64 6, .int .i64 7] 43)
  have K1 : Blk (((w.alloc (.cells #[.int .i64 P, .int .i64 T, .int .i64 R] 25)).alloc (.cells #[.int .i64 0, .int .i64 0, .int .i64 0] 33)).alloc (.cells #[.int .i64 5, .int .i64 6, .int .i64 7] 43)) (w.heap.size + 1 + 1) #[.int .i64 5, .int .i64 6, .int .i64 7] 43 := Blk.new' (by simp)
  have hlt := Z1.lt
  have f0 := Z1.frozen 0
  have f1 := Z1.frozen 1
  have f2 := Z1.frozen 2
  have z0 := Z1.val 0 rfl
  have z1 := Z1.val 1 rfl
  have z2 := Z1.val 2 rfl
  generalize (((w.alloc (.cells #[.int .i64 P, .int .i64 T, .int .i64 R] 25)).alloc (.cells #[.int .i64 0, .int .i64 0, .int .i64 0] 33)).alloc (.cells #[.int .i64 5, .int .i64 6, .int .i64 7] 43)) = W at *
  clear X0 Z0 B0
  go_region_held3 (fun w' => w'.cell? ⟨w.heap.size, 0, none⟩ = some (.int .i64 P) ∧ w'.cell? ⟨w.heap.size + 1 + 1, 0, none⟩ = some (.int .i64 5)) ((refine ⟨Blk.val (cs := #[.int .i64 P, .int .i64 T, .int .i64 R]) (t := 25) ?_ 0 rfl, Blk.val (cs := #[.int .i64 5, .int .i64 6, .int .i64 7]) (t := 43) ?_ 0 rfl⟩; all_goals (repeat (first | (with_reducible exact X1) | (with_reducible exact K1) | (with_reducible refine Blk.drew ?_) | (with_reducible refine Blk.other ?_ _ _ (by simp; done)))))) (fail)
  go_wp2
  clear hq hm td tm k1 k2
  refine bodyPost_ret (v := .agg #[.int .i64 5, .int .i64 (m), .int .i64 0]) (by simp [results, Try.results24, go_sem, *]) rfl ⟨rfl, ?_⟩
  exact (((B1.drew.setCell (Nat.le_succ _) _).setCell (Nat.le_succ _) _).setCell (Nat.le_succ _) _)
set_option maxHeartbeats 1000000 in
theorem tableSpot_1 (P T R n : Int) (w : World) (hR : Right P T R) (h0 : 0 ≤ n) (h1 : n < 1000) (hc : n / P = 1) :
    Calls Try.prog 24 #[.agg #[.int .i64 P, .int .i64 T, .int .i64 R], .int .i64 n] w fun e w' => e = .returned (.agg #[.int .i64 6, .int .i64 (n % P), .int .i64 0]) ∧ Below w.heap.size w w' := by
  obtain ⟨⟨r1, r2⟩, _⟩ := hR
  have q0 : 0 ≤ n / P := Int.ediv_nonneg h0 (by omega)
  have q1 : n / P ≤ n := Int.ediv_le_self _ h0
  have m0 : 0 ≤ n % P := Int.emod_nonneg _ (by omega)
  have m1 : n % P < P := Int.emod_lt_of_pos _ (by omega)
  have td : n.tdiv P = n / P := Int.tdiv_eq_ediv_of_nonneg h0
  have tm : n.tmod P = n % P := Int.tmod_eq_emod_of_nonneg h0
  have hE : P ≠ 0 := by omega
  have hE1 : P ≠ -1 := by omega
  have hE0 : 0 < P := by omega
  generalize hq : n / P = q at *
  generalize hm : n % P = m at *
  have k1 : IntKind.i64.wrap q = q := wi (by omega)
  have k2 : IntKind.i64.wrap m = m := wi (by omega)
  subst hc
  have X0 := (Blk.new w #[.int .i64 P, .int .i64 T, .int .i64 R] 25).alloc (.cells #[.int .i64 0, .int .i64 0, .int .i64 0] 33)
  have Z0 : Blk ((w.alloc (.cells #[.int .i64 P, .int .i64 T, .int .i64 R] 25)).alloc (.cells #[.int .i64 0, .int .i64 0, .int .i64 0] 33)) (w.heap.size + 1) #[.int .i64 0, .int .i64 0, .int .i64 0] 33 := Blk.new' (by simp)
  have B0 : Below w.heap.size w ((w.alloc (.cells #[.int .i64 P, .int .i64 T, .int .i64 R] 25)).alloc (.cells #[.int .i64 0, .int .i64 0, .int .i64 0] 33)) := ((Below.refl _ _).alloc (Nat.le_refl _) _).alloc (by simp) _
  go_enter Try.func24, Try.ntmps24
  go_wp2_with fail
  have X1 := X0.alloc (.cells #[.int .i64 5, .int .i64 6, .int .i64 7] 43)
  have Z1 := Z0.alloc (.cells #[.int .i64 5, .int .i64 6, .int .i64 7] 43)
  have B1 := B0.alloc B0.size (.cells #[.int .i64 5, .int .i64 6, .int .i64 7] 43)
  have K1 : Blk (((w.alloc (.cells #[.int .i64 P, .int .i64 T, .int .i64 R] 25)).alloc (.cells #[.int .i64 0, .int .i64 0, .int .i64 0] 33)).alloc (.cells #[.int .i64 5, .int .i64 6, .int .i64 7] 43)) (w.heap.size + 1 + 1) #[.int .i64 5, .int .i64 6, .int .i64 7] 43 := Blk.new' (by simp)
  have hlt := Z1.lt
  have f0 := Z1.frozen 0
  have f1 := Z1.frozen 1
  have f2 := Z1.frozen 2
  have z0 := Z1.val 0 rfl
  have z1 := Z1.val 1 rfl
  have z2 := Z1.val 2 rfl
  generalize (((w.alloc (.cells #[.int .i64 P, .int .i64 T, .int .i64 R] 25)).alloc (.cells #[.int .i64 0, .int .i64 0, .int .i64 0] 33)).alloc (.cells #[.int .i64 5, .int .i64 6, .int .i64 7] 43)) = W at *
  clear X0 Z0 B0
  go_region_held3 (fun w' => w'.cell? ⟨w.heap.size, 0, none⟩ = some (.int .i64 P) ∧ w'.cell? ⟨w.heap.size + 1 + 1, 1, none⟩ = some (.int .i64 6)) ((refine ⟨Blk.val (cs := #[.int .i64 P, .int .i64 T, .int .i64 R]) (t := 25) ?_ 0 rfl, Blk.val (cs := #[.int .i64 5, .int .i64 6, .int .i64 7]) (t := 43) ?_ 1 rfl⟩; all_goals (repeat (first | (with_reducible exact X1) | (with_reducible exact K1) | (with_reducible refine Blk.drew ?_) | (with_reducible refine Blk.other ?_ _ _ (by simp; done)))))) (fail)
  go_wp2
  clear hq hm td tm k1 k2
  refine bodyPost_ret (v := .agg #[.int .i64 6, .int .i64 (m), .int .i64 0]) (by simp [results, Try.results24, go_sem, *]) rfl ⟨rfl, ?_⟩
  exact (((B1.drew.setCell (Nat.le_succ _) _).setCell (Nat.le_succ _) _).setCell (Nat.le_succ _) _)
set_option maxHeartbeats 1000000 in
theorem tableSpot_2 (P T R n : Int) (w : World) (hR : Right P T R) (h0 : 0 ≤ n) (h1 : n < 1000) (hc : n / P = 2) :
    Calls Try.prog 24 #[.agg #[.int .i64 P, .int .i64 T, .int .i64 R], .int .i64 n] w fun e w' => e = .returned (.agg #[.int .i64 7, .int .i64 (n % P), .int .i64 0]) ∧ Below w.heap.size w w' := by
  obtain ⟨⟨r1, r2⟩, _⟩ := hR
  have q0 : 0 ≤ n / P := Int.ediv_nonneg h0 (by omega)
  have q1 : n / P ≤ n := Int.ediv_le_self _ h0
  have m0 : 0 ≤ n % P := Int.emod_nonneg _ (by omega)
  have m1 : n % P < P := Int.emod_lt_of_pos _ (by omega)
  have td : n.tdiv P = n / P := Int.tdiv_eq_ediv_of_nonneg h0
  have tm : n.tmod P = n % P := Int.tmod_eq_emod_of_nonneg h0
  have hE : P ≠ 0 := by omega
  have hE1 : P ≠ -1 := by omega
  have hE0 : 0 < P := by omega
  generalize hq : n / P = q at *
  generalize hm : n % P = m at *
  have k1 : IntKind.i64.wrap q = q := wi (by omega)
  have k2 : IntKind.i64.wrap m = m := wi (by omega)
  subst hc
  have X0 := (Blk.new w #[.int .i64 P, .int .i64 T, .int .i64 R] 25).alloc (.cells #[.int .i64 0, .int .i64 0, .int .i64 0] 33)
  have Z0 : Blk ((w.alloc (.cells #[.int .i64 P, .int .i64 T, .int .i64 R] 25)).alloc (.cells #[.int .i64 0, .int .i64 0, .int .i64 0] 33)) (w.heap.size + 1) #[.int .i64 0, .int .i64 0, .int .i64 0] 33 := Blk.new' (by simp)
  have B0 : Below w.heap.size w ((w.alloc (.cells #[.int .i64 P, .int .i64 T, .int .i64 R] 25)).alloc (.cells #[.int .i64 0, .int .i64 0, .int .i64 0] 33)) := ((Below.refl _ _).alloc (Nat.le_refl _) _).alloc (by simp) _
  go_enter Try.func24, Try.ntmps24
  go_wp2_with fail
  have X1 := X0.alloc (.cells #[.int .i64 5, .int .i64 6, .int .i64 7] 43)
  have Z1 := Z0.alloc (.cells #[.int .i64 5, .int .i64 6, .int .i64 7] 43)
  have B1 := B0.alloc B0.size (.cells #[.int .i64 5, .int .i64 6, .int .i64 7] 43)
  have K1 : Blk (((w.alloc (.cells #[.int .i64 P, .int .i64 T, .int .i64 R] 25)).alloc (.cells #[.int .i64 0, .int .i64 0, .int .i64 0] 33)).alloc (.cells #[.int .i64 5, .int .i64 6, .int .i64 7] 43)) (w.heap.size + 1 + 1) #[.int .i64 5, .int .i64 6, .int .i64 7] 43 := Blk.new' (by simp)
  have hlt := Z1.lt
  have f0 := Z1.frozen 0
  have f1 := Z1.frozen 1
  have f2 := Z1.frozen 2
  have z0 := Z1.val 0 rfl
  have z1 := Z1.val 1 rfl
  have z2 := Z1.val 2 rfl
  generalize (((w.alloc (.cells #[.int .i64 P, .int .i64 T, .int .i64 R] 25)).alloc (.cells #[.int .i64 0, .int .i64 0, .int .i64 0] 33)).alloc (.cells #[.int .i64 5, .int .i64 6, .int .i64 7] 43)) = W at *
  clear X0 Z0 B0
  go_region_held3 (fun w' => w'.cell? ⟨w.heap.size, 0, none⟩ = some (.int .i64 P) ∧ w'.cell? ⟨w.heap.size + 1 + 1, 2, none⟩ = some (.int .i64 7)) ((refine ⟨Blk.val (cs := #[.int .i64 P, .int .i64 T, .int .i64 R]) (t := 25) ?_ 0 rfl, Blk.val (cs := #[.int .i64 5, .int .i64 6, .int .i64 7]) (t := 43) ?_ 2 rfl⟩; all_goals (repeat (first | (with_reducible exact X1) | (with_reducible exact K1) | (with_reducible refine Blk.drew ?_) | (with_reducible refine Blk.other ?_ _ _ (by simp; done)))))) (fail)
  go_wp2
  clear hq hm td tm k1 k2
  refine bodyPost_ret (v := .agg #[.int .i64 7, .int .i64 (m), .int .i64 0]) (by simp [results, Try.results24, go_sem, *]) rfl ⟨rfl, ?_⟩
  exact (((B1.drew.setCell (Nat.le_succ _) _).setCell (Nat.le_succ _) _).setCell (Nat.le_succ _) _)
set_option maxHeartbeats 1000000 in
theorem tableSpot_3 (P T R n : Int) (w : World) (hR : Right P T R) (h0 : 0 ≤ n) (h1 : n < 1000) (hc : 3 ≤ n / P) :
    Calls Try.prog 24 #[.agg #[.int .i64 P, .int .i64 T, .int .i64 R], .int .i64 n] w fun e w' => e = .returned (.agg #[.int .i64 0, .int .i64 0, .int .i64 0]) ∧ Below w.heap.size w w' := by
  obtain ⟨⟨r1, r2⟩, _⟩ := hR
  have q0 : 0 ≤ n / P := Int.ediv_nonneg h0 (by omega)
  have q1 : n / P ≤ n := Int.ediv_le_self _ h0
  have m0 : 0 ≤ n % P := Int.emod_nonneg _ (by omega)
  have m1 : n % P < P := Int.emod_lt_of_pos _ (by omega)
  have td : n.tdiv P = n / P := Int.tdiv_eq_ediv_of_nonneg h0
  have tm : n.tmod P = n % P := Int.tmod_eq_emod_of_nonneg h0
  have hE : P ≠ 0 := by omega
  have hE1 : P ≠ -1 := by omega
  have hE0 : 0 < P := by omega
  generalize hq : n / P = q at *
  generalize hm : n % P = m at *
  have k1 : IntKind.i64.wrap q = q := wi (by omega)
  have k2 : IntKind.i64.wrap m = m := wi (by omega)
  
  have X0 := (Blk.new w #[.int .i64 P, .int .i64 T, .int .i64 R] 25).alloc (.cells #[.int .i64 0, .int .i64 0, .int .i64 0] 33)
  have Z0 : Blk ((w.alloc (.cells #[.int .i64 P, .int .i64 T, .int .i64 R] 25)).alloc (.cells #[.int .i64 0, .int .i64 0, .int .i64 0] 33)) (w.heap.size + 1) #[.int .i64 0, .int .i64 0, .int .i64 0] 33 := Blk.new' (by simp)
  have B0 : Below w.heap.size w ((w.alloc (.cells #[.int .i64 P, .int .i64 T, .int .i64 R] 25)).alloc (.cells #[.int .i64 0, .int .i64 0, .int .i64 0] 33)) := ((Below.refl _ _).alloc (Nat.le_refl _) _).alloc (by simp) _
  go_enter Try.func24, Try.ntmps24
  go_wp2_with fail
  refine bodyPost_ret (v := .agg #[.int .i64 0, .int .i64 0, .int .i64 0]) (by simp [results, Try.results24, go_sem, *]) rfl ⟨rfl, ?_⟩
  first | exact B0.alloc B0.size _ | exact ((B0.alloc B0.size _).setCell (Nat.le_succ _) _).setCell (Nat.le_succ _) _ | exact ((((B0.alloc B0.size _).setCell (Nat.le_succ _) _).setCell (Nat.le_succ _) _).setCell (Nat.le_succ _) _)
end Go.Proofs.Ytahppkdbaagcgaa
