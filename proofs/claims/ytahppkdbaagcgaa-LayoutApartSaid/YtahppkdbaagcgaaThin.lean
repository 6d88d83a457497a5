/- Where the cells of a plan stand, by what they are for; what Global returns; two structs of three numbers compared. No condition. -/
import Derived.Test.YtahppkdbaagcgaaSpot
import Derived.Test.YtahppkdbaagcgaaLayd
import Derived.Laws.StructEq
import Derived.WalkKit
namespace Go.Proofs.Ytahppkdbaagcgaa
open Go.RowKit
set_option linter.unusedVariables false
set_option linter.unusedSimpArgs false
theorem fields3 {l : List Field} {t : TypeId} (h : l.map (fun f => (f.type, f.offset, f.name == "_")) = [(t, 0, false), (t, 1, false), (t, 2, false)]) :
    ∃ f g k, l = [f, g, k] ∧ (f.type = t ∧ f.offset = 0 ∧ ¬ f.name = "_") ∧ (g.type = t ∧ g.offset = 1 ∧ ¬ g.name = "_") ∧ (k.type = t ∧ k.offset = 2 ∧ ¬ k.name = "_") := by
  have hl : l.length = 3 := by have := congrArg List.length h; simpa using this
  obtain ⟨f, l1, rfl⟩ := List.exists_cons_of_length_eq_add_one hl
  obtain ⟨g, l2, rfl⟩ := List.exists_cons_of_length_eq_add_one (show l1.length = 1 + 1 by simpa using hl)
  obtain ⟨k, l3, rfl⟩ := List.exists_cons_of_length_eq_add_one (show l2.length = 0 + 1 by simpa using hl)
  have h3 : l3 = [] := List.eq_nil_of_length_eq_zero (by simpa using hl)
  subst h3
  simp only [List.map_cons, List.map_nil, List.cons.injEq, Prod.mk.injEq, beq_eq_false_iff_ne, ne_eq, and_true] at h
  exact ⟨f, g, k, rfl, h.1, h.2.1, h.2.2⟩
instance okDec (P T R k i j : Int) : Decidable (okI P T R k i j) := by unfold okI; infer_instance
def whereI (P T R k i j : Int) : Int := if rightB P T R && decide (okI P T R k i j) then posI P T R k i j else -1
def globalI (P T R i : Int) : Int := if rightB P T R && inB i 0 7 then 8 + i else -1
set_option maxHeartbeats 400000 in
theorem global_any (P T R i : Int) (w : World) :
    Calls Try.prog 9 #[.agg #[.int .i64 P, .int .i64 T, .int .i64 R], .int .i64 i] w fun e w' => e = .returned (.int .i64 (globalI P T R i)) ∧ Below w.heap.size w w' := by
  have V := Lib.hid (fun W => valid_any P T R W)
  have W1 := Lib.hid (fun W => within_any i 0 7 W)
  unfold globalI
  cases hr : rightB P T R with
  | false =>
    rw [hr] at V
    go_enter Try.func9, Try.ntmps9
    have c0 := (planNew w P T R 25)
    go_wp2_with fail
    refine (V.out _).mono ?_; rintro e w1 ⟨rfl, hb1⟩
    have c1 := planKeep c0 hb1
    obtain ⟨d10, d11, d12⟩ := c1.1
    go_wp2
    go_ret
    exact ⟨rfl, c1.2⟩
  | true =>
    rw [hr] at V
    cases hi : inB i 0 7 with
    | false =>
      rw [hi] at W1
      go_enter Try.func9, Try.ntmps9
      have c0 := (planNew w P T R 25)
      go_wp2_with fail
      refine (V.out _).mono ?_; rintro e w1 ⟨rfl, hb1⟩
      have c1 := planKeep c0 hb1
      obtain ⟨d10, d11, d12⟩ := c1.1
      go_wp2_with fail
      refine (W1.out _).mono ?_; rintro e w2 ⟨rfl, hb2⟩
      have c2 := planKeep c1 hb2
      obtain ⟨d20, d21, d22⟩ := c2.1
      go_wp2
      go_ret
      exact ⟨rfl, c2.2⟩
    | true =>
      rw [hi] at W1
      simp [inB] at hi
      obtain ⟨i0, i1⟩ := hi
      have k1 : IntKind.i64.wrap (8 + i) = 8 + i := wi (by omega)
      go_enter Try.func9, Try.ntmps9
      have c0 := (planNew w P T R 25)
      go_wp2_with fail
      refine (V.out _).mono ?_; rintro e w1 ⟨rfl, hb1⟩
      have c1 := planKeep c0 hb1
      obtain ⟨d10, d11, d12⟩ := c1.1
      go_wp2_with fail
      refine (W1.out _).mono ?_; rintro e w2 ⟨rfl, hb2⟩
      have c2 := planKeep c1 hb2
      obtain ⟨d20, d21, d22⟩ := c2.1
      go_wp2
      go_ret
      exact ⟨rfl, c2.2⟩
theorem where_of {P T R k i j p : Int} {b : Bool} (hb : Right P T R → (okI P T R k i j ↔ b = true)) (hp : posI P T R k i j = p) : whereI P T R k i j = if rightB P T R && b then p else -1 := by
  unfold whereI
  rw [hp]
  cases hr : rightB P T R with
  | false => rfl
  | true =>
    have h := hb (right_of hr)
    cases b with
    | true => rw [decide_eq_true (h.2 rfl)]
    | false => rw [decide_eq_false (fun ho => by have := h.1 ho; cases this)]
theorem inB_iff (n lo hi : Int) : inB n lo hi = true ↔ lo ≤ n ∧ n ≤ hi := by unfold inB; exact decide_eq_true_iff
theorem where_2 (P T R i : Int) : whereI P T R 2 i 0 = globalI P T R i := by
  refine where_of (fun h => ?_) (pos_2 P T R i 0)
  rw [inB_iff]; unfold okI; omega
theorem where_3 (P T R i n : Int) (h0 : 0 ≤ n) (h1 : n ≤ 4) : whereI P T R 3 i n = ownI P T R i n := by
  refine where_of (fun h => ?_) (pos_3 P T R i n)
  rw [inB_iff]; unfold okI; omega
theorem where_4 (P T R i n : Int) (h : Right P T R) : whereI P T R 4 i (n % R) = slotI P T R i n := by
  have hR := h.2.2
  have h0 : 0 ≤ n % R := Int.emod_nonneg _ (by omega)
  have h1 : n % R < R := Int.emod_lt_of_pos _ (by omega)
  refine where_of (fun h => ?_) (pos_4 P T R i (n % R))
  rw [inB_iff]; unfold okI; omega
theorem where_5 (P T R i : Int) : whereI P T R 5 i 0 = rowI P T R 0 i := by
  refine where_of (fun h => ?_) ((pos_5 P T R i 0).trans (by omega))
  rw [inB_iff]; unfold okI; omega
theorem where_6 (P T R i : Int) : whereI P T R 6 i 0 = rowI P T R 1 i := by
  refine where_of (fun h => ?_) ((pos_6 P T R i 0).trans (by omega))
  rw [inB_iff]; unfold okI; omega
theorem where_7 (P T R i : Int) : whereI P T R 7 i 0 = rowI P T R 2 i := by
  refine where_of (fun h => ?_) ((pos_7 P T R i 0).trans (by omega))
  rw [inB_iff]; unfold okI; omega
theorem where_88 (P T R i j : Int) : whereI P T R 8 i j = addrI P T R i j := by
  refine where_of (fun h => ?_) ((pos_8 P T R i j).trans (by omega))
  rw [Bool.and_eq_true, inB_iff, inB_iff]; unfold okI; omega

theorem planKeep2 {w W W' : World} {b c : Nat} {P T R P' T' R' : Int} (h : ((W.cell? ⟨b, 0, none⟩ = some (.int .i64 P) ∧ W.cell? ⟨b, 1, none⟩ = some (.int .i64 T) ∧ W.cell? ⟨b, 2, none⟩ = some (.int .i64 R)) ∧ (W.cell? ⟨c, 0, none⟩ = some (.int .i64 P') ∧ W.cell? ⟨c, 1, none⟩ = some (.int .i64 T') ∧ W.cell? ⟨c, 2, none⟩ = some (.int .i64 R'))) ∧ Below w.heap.size w W) (hb : Below W.heap.size W W') :
    ((W'.cell? ⟨b, 0, none⟩ = some (.int .i64 P) ∧ W'.cell? ⟨b, 1, none⟩ = some (.int .i64 T) ∧ W'.cell? ⟨b, 2, none⟩ = some (.int .i64 R)) ∧ (W'.cell? ⟨c, 0, none⟩ = some (.int .i64 P') ∧ W'.cell? ⟨c, 1, none⟩ = some (.int .i64 T') ∧ W'.cell? ⟨c, 2, none⟩ = some (.int .i64 R'))) ∧ Below w.heap.size w W' := by
  obtain ⟨⟨h1, h2⟩, h3⟩ := h
  obtain ⟨e1, e2⟩ := planKeep ⟨h1, h3⟩ hb
  exact ⟨⟨e1, (planKeep ⟨h2, h3⟩ hb).1⟩, e2⟩
theorem planHeld2 {w W : World} {b c : Nat} {P T R P' T' R' : Int} (h : ((W.cell? ⟨b, 0, none⟩ = some (.int .i64 P) ∧ W.cell? ⟨b, 1, none⟩ = some (.int .i64 T) ∧ W.cell? ⟨b, 2, none⟩ = some (.int .i64 R)) ∧ (W.cell? ⟨c, 0, none⟩ = some (.int .i64 P') ∧ W.cell? ⟨c, 1, none⟩ = some (.int .i64 T') ∧ W.cell? ⟨c, 2, none⟩ = some (.int .i64 R'))) ∧ Below w.heap.size w W) : ((W.cell? ⟨b, 0, none⟩ = some (.int .i64 P) ∧ W.cell? ⟨b, 1, none⟩ = some (.int .i64 T) ∧ W.cell? ⟨b, 2, none⟩ = some (.int .i64 R)) ∧ (W.cell? ⟨c, 0, none⟩ = some (.int .i64 P') ∧ W.cell? ⟨c, 1, none⟩ = some (.int .i64 T') ∧ W.cell? ⟨c, 2, none⟩ = some (.int .i64 R'))) ∧ Below w.heap.size w W := h
end Go.Proofs.Ytahppkdbaagcgaa
