/- What threadSpot and tableSpot of package layout return. Condition: the plan's numbers are in their bounds, n is not negative. -/
import Derived.Test.YtahppkdbaagcgaaSpot
namespace Go.Proofs.Ytahppkdbaagcgaa
open Go.RowKit
set_option linter.unusedVariables false
/-- A plan's box, a result's box of noughts behind it, and all that was there below them. -/
def RestF (w w' : World) (P T R : Int) (tp tz : TypeId) : Prop := Blk w' w.heap.size #[.int .i64 P, .int .i64 T, .int .i64 R] tp ∧ Blk w' (w.heap.size + 1) #[.int .i64 0, .int .i64 0, .int .i64 0] tz ∧ Below w.heap.size w w'
theorem startF {w W : World} {P T R : Int} {tp tz : TypeId} (h : RestF w W P T R tp tz) : (W.cell? ⟨w.heap.size, 0, none⟩ = some (.int .i64 P) ∧ W.cell? ⟨w.heap.size, 1, none⟩ = some (.int .i64 T) ∧ W.cell? ⟨w.heap.size, 2, none⟩ = some (.int .i64 R)) ∧ RestF w W P T R tp tz :=
  ⟨⟨h.1.val 0 rfl, h.1.val 1 rfl, h.1.val 2 rfl⟩, h⟩
theorem keepF {w W W' : World} {P T R : Int} {tp tz : TypeId} (h : (W.cell? ⟨w.heap.size, 0, none⟩ = some (.int .i64 P) ∧ W.cell? ⟨w.heap.size, 1, none⟩ = some (.int .i64 T) ∧ W.cell? ⟨w.heap.size, 2, none⟩ = some (.int .i64 R)) ∧ RestF w W P T R tp tz) (hb : Below W.heap.size W W') :
    (W'.cell? ⟨w.heap.size, 0, none⟩ = some (.int .i64 P) ∧ W'.cell? ⟨w.heap.size, 1, none⟩ = some (.int .i64 T) ∧ W'.cell? ⟨w.heap.size, 2, none⟩ = some (.int .i64 R)) ∧ RestF w W' P T R tp tz :=
  startF ⟨h.2.1.grew hb, h.2.2.1.grew hb, h.2.2.2.trans (hb.mono h.2.2.2.size)⟩
theorem restF {w W : World} {P T R : Int} {tp tz : TypeId} (h : (W.cell? ⟨w.heap.size, 0, none⟩ = some (.int .i64 P) ∧ W.cell? ⟨w.heap.size, 1, none⟩ = some (.int .i64 T) ∧ W.cell? ⟨w.heap.size, 2, none⟩ = some (.int .i64 R)) ∧ RestF w W P T R tp tz) : RestF w W P T R tp tz := h.2
set_option maxHeartbeats 1000000 in
theorem threadSpot_a (P T R n : Int) (w : World) (hR : Right P T R) (h0 : 0 ≤ n) (h1 : n < 1000) (hc : n % (5 + R) < 5) :
    Calls Try.prog 23 #[.agg #[.int .i64 P, .int .i64 T, .int .i64 R], .int .i64 n] w fun e w' => e = .returned (.agg #[.int .i64 3, .int .i64 (n / (5 + R)), .int .i64 (n % (5 + R))]) ∧ Below w.heap.size w w' := by
  have E := Lib.hid (fun W => each_any P T R W hR)
  obtain ⟨_, _, r1, r2⟩ := hR
  have q0 : 0 ≤ n / (5 + R) := Int.ediv_nonneg h0 (by omega)
  have q1 : n / (5 + R) ≤ n := Int.ediv_le_self _ h0
  have m0 : 0 ≤ n % (5 + R) := Int.emod_nonneg _ (by omega)
  have m1 : n % (5 + R) < 5 + R := Int.emod_lt_of_pos _ (by omega)
  have td : n.tdiv (5 + R) = n / (5 + R) := Int.tdiv_eq_ediv_of_nonneg h0
  have tm : n.tmod (5 + R) = n % (5 + R) := Int.tmod_eq_emod_of_nonneg h0
  have hE : 5 + R ≠ 0 := by omega
  have hE1 : 5 + R ≠ -1 := by omega
  have hE0 : 0 < 5 + R := by omega
  have hE2 : 5 + R ≤ 21 := by omega
  generalize 5 + R = E5 at *
  generalize hq : n / E5 = q at *
  generalize hm : n % E5 = m at *
  clear hq hm
  have k1 : IntKind.i64.wrap q = q := wi (by omega)
  have k2 : IntKind.i64.wrap m = m := wi (by omega)
  have k3 : IntKind.i64.wrap (m - 5) = m - 5 := wi (by omega)
  have k4 : wrap64 (m - 5) = m - 5 := by unfold wrap64; omega
  have X0 := (Blk.new w #[.int .i64 P, .int .i64 T, .int .i64 R] 25).alloc (.cells #[.int .i64 0, .int .i64 0, .int .i64 0] 33)
  have Z0 : Blk ((w.alloc (.cells #[.int .i64 P, .int .i64 T, .int .i64 R] 25)).alloc (.cells #[.int .i64 0, .int .i64 0, .int .i64 0] 33)) (w.heap.size + 1) #[.int .i64 0, .int .i64 0, .int .i64 0] 33 := Blk.new' (by simp)
  have B0 : Below w.heap.size w ((w.alloc (.cells #[.int .i64 P, .int .i64 T, .int .i64 R] 25)).alloc (.cells #[.int .i64 0, .int .i64 0, .int .i64 0] 33)) := ((Below.refl _ _).alloc (Nat.le_refl _) _).alloc (by simp) _
  go_enter Try.func23, Try.ntmps23
  go_wp2_with fail
  go_region_held3 (fun w' => (w'.cell? ⟨w.heap.size, 0, none⟩ = some (.int .i64 P) ∧ w'.cell? ⟨w.heap.size, 1, none⟩ = some (.int .i64 T) ∧ w'.cell? ⟨w.heap.size, 2, none⟩ = some (.int .i64 R)) ∧ RestF w w' P T R 25 33)
    (first | exact startF ⟨X0, Z0, B0⟩ | exact startF ⟨X0, Z0, B0.drew⟩ | exact keepF (by assumption) hbk)
    (first | (go_at_call 28; refine (E.out _).mono ?_; rintro e w9 ⟨rfl, hbk⟩))
  obtain ⟨X1, Z1, B1⟩ := restF (by assumption)
  have p10 := X1.val 0 rfl; have p11 := X1.val 1 rfl; have p12 := X1.val 2 rfl
  have f10 := Z1.frozen 0; have f11 := Z1.frozen 1; have f12 := Z1.frozen 2; have z10 := Z1.val 0 rfl; have z11 := Z1.val 1 rfl; have z12 := Z1.val 2 rfl
  go_wp2
  have hlt := Z1.lt
  refine bodyPost_ret (v := .agg #[.int .i64 3, .int .i64 (q), .int .i64 (m)]) (by simp [results, Try.results23, go_sem, *]) rfl ⟨rfl, ?_⟩
  exact (((B1.setCell (Nat.le_succ _) _).setCell (Nat.le_succ _) _).setCell (Nat.le_succ _) _)
set_option maxHeartbeats 1000000 in
theorem threadSpot_b (P T R n : Int) (w : World) (hR : Right P T R) (h0 : 0 ≤ n) (h1 : n < 1000) (hc : 5 ≤ n % (5 + R)) :
    Calls Try.prog 23 #[.agg #[.int .i64 P, .int .i64 T, .int .i64 R], .int .i64 n] w fun e w' => e = .returned (.agg #[.int .i64 4, .int .i64 (n / (5 + R)), .int .i64 (n % (5 + R) - 5)]) ∧ Below w.heap.size w w' := by
  have E := Lib.hid (fun W => each_any P T R W hR)
  obtain ⟨_, _, r1, r2⟩ := hR
  have q0 : 0 ≤ n / (5 + R) := Int.ediv_nonneg h0 (by omega)
  have q1 : n / (5 + R) ≤ n := Int.ediv_le_self _ h0
  have m0 : 0 ≤ n % (5 + R) := Int.emod_nonneg _ (by omega)
  have m1 : n % (5 + R) < 5 + R := Int.emod_lt_of_pos _ (by omega)
  have td : n.tdiv (5 + R) = n / (5 + R) := Int.tdiv_eq_ediv_of_nonneg h0
  have tm : n.tmod (5 + R) = n % (5 + R) := Int.tmod_eq_emod_of_nonneg h0
  have hE : 5 + R ≠ 0 := by omega
  have hE1 : 5 + R ≠ -1 := by omega
  have hE0 : 0 < 5 + R := by omega
  have hE2 : 5 + R ≤ 21 := by omega
  generalize 5 + R = E5 at *
  generalize hq : n / E5 = q at *
  generalize hm : n % E5 = m at *
  clear hq hm
  have k1 : IntKind.i64.wrap q = q := wi (by omega)
  have k2 : IntKind.i64.wrap m = m := wi (by omega)
  have k3 : IntKind.i64.wrap (m - 5) = m - 5 := wi (by omega)
  have k4 : wrap64 (m - 5) = m - 5 := by unfold wrap64; omega
  have X0 := (Blk.new w #[.int .i64 P, .int .i64 T, .int .i64 R] 25).alloc (.cells #[.int .i64 0, .int .i64 0, .int .i64 0] 33)
  have Z0 : Blk ((w.alloc (.cells #[.int .i64 P, .int .i64 T, .int .i64 R] 25)).alloc (.cells #[.int .i64 0, .int .i64 0, .int .i64 0] 33)) (w.heap.size + 1) #[.int .i64 0, .int .i64 0, .int .i64 0] 33 := Blk.new' (by simp)
  have B0 : Below w.heap.size w ((w.alloc (.cells #[.int .i64 P, .int .i64 T, .int .i64 R] 25)).alloc (.cells #[.int .i64 0, .int .i64 0, .int .i64 0] 33)) := ((Below.refl _ _).alloc (Nat.le_refl _) _).alloc (by simp) _
  go_enter Try.func23, Try.ntmps23
  go_wp2_with fail
  go_region_held3 (fun w' => (w'.cell? ⟨w.heap.size, 0, none⟩ = some (.int .i64 P) ∧ w'.cell? ⟨w.heap.size, 1, none⟩ = some (.int .i64 T) ∧ w'.cell? ⟨w.heap.size, 2, none⟩ = some (.int .i64 R)) ∧ RestF w w' P T R 25 33)
    (first | exact startF ⟨X0, Z0, B0⟩ | exact startF ⟨X0, Z0, B0.drew⟩ | exact keepF (by assumption) hbk)
    (first | (go_at_call 28; refine (E.out _).mono ?_; rintro e w9 ⟨rfl, hbk⟩))
  obtain ⟨X1, Z1, B1⟩ := restF (by assumption)
  have p10 := X1.val 0 rfl; have p11 := X1.val 1 rfl; have p12 := X1.val 2 rfl
  have f10 := Z1.frozen 0; have f11 := Z1.frozen 1; have f12 := Z1.frozen 2; have z10 := Z1.val 0 rfl; have z11 := Z1.val 1 rfl; have z12 := Z1.val 2 rfl
  go_wp2
  have hlt := Z1.lt
  refine bodyPost_ret (v := .agg #[.int .i64 4, .int .i64 (q), .int .i64 (m - 5)]) (by simp [results, Try.results23, go_sem, *]) rfl ⟨rfl, ?_⟩
  exact (((B1.setCell (Nat.le_succ _) _).setCell (Nat.le_succ _) _).setCell (Nat.le_succ _) _)
end Go.Proofs.Ytahppkdbaagcgaa
