/- What the functions of package layout return for a plan that may be, and for one that may not. No condition but that the numbers fit their kinds. -/
import Derived.Test.YtcjkachlahjbiaaDoorTouch
namespace Go.Proofs.YtcjkachlahjbiaaDoor
open Go.RowKit

theorem op_at {l : List Oper} {i : Nat} {o : Oper} (h : l[i]? = some o) : l.toArray[i]? = some o := by simpa using h
theorem wi {x : Int} (h : -1000000000000 ≤ x ∧ x ≤ 1000000000000) : IntKind.i64.wrap x = x := by
  rw [IntKind.wrap_i64]; omega
def inL (n lo hi : Int) : Bool := decide (lo ≤ n ∧ n ≤ hi)
def rightB (P T R : Int) : Bool := inL P 1 32 && (inL T 1 6 && inL R 1 16)
def Right (P T R : Int) : Prop := (1 ≤ P ∧ P ≤ 32) ∧ (1 ≤ T ∧ T ≤ 6) ∧ (1 ≤ R ∧ R ≤ 16)
theorem right_of {P T R : Int} (h : rightB P T R = true) : Right P T R := by
  simp [rightB, inL] at h
  unfold Right; omega
theorem of_right {P T R : Int} (h : Right P T R) : rightB P T R = true := by
  unfold Right at h
  simp [rightB, inL]; omega
set_option maxHeartbeats 400000 in
theorem within_any (n lo hi : Int) (w : World) :
    Calls Tryd.prog 29 #[.int .i64 n, .int .i64 lo, .int .i64 hi] w fun e w' => e = .returned (.bool (inL n lo hi)) ∧ Below w.heap.size w w' := by
  by_cases h1 : lo ≤ n
  · by_cases h2 : n ≤ hi
    · rw [show inL n lo hi = true from decide_eq_true ⟨h1, h2⟩]
      go_enter Tryd.func29, Tryd.ntmps29
      go_wp2
      go_ret
      exact ⟨rfl, Below.refl _ _⟩
    · rw [show inL n lo hi = false from decide_eq_false (fun h => h2 h.2)]
      go_enter Tryd.func29, Tryd.ntmps29
      go_wp2
      go_ret
      exact ⟨rfl, Below.refl _ _⟩
  · rw [show inL n lo hi = false from decide_eq_false (fun h => h1 h.1)]
    go_enter Tryd.func29, Tryd.ntmps29
    go_wp2
    go_ret
    exact ⟨rfl, Below.refl _ _⟩
/-- A plan's box, and all that was there below it. -/
theorem planKeep {w W W' : World} {b : Nat} {P T R : Int} (h : (W.cell? ⟨b, 0, none⟩ = some (.int .i64 P) ∧ W.cell? ⟨b, 1, none⟩ = some (.int .i64 T) ∧ W.cell? ⟨b, 2, none⟩ = some (.int .i64 R)) ∧ Below w.heap.size w W) (hb : Below W.heap.size W W') :
    (W'.cell? ⟨b, 0, none⟩ = some (.int .i64 P) ∧ W'.cell? ⟨b, 1, none⟩ = some (.int .i64 T) ∧ W'.cell? ⟨b, 2, none⟩ = some (.int .i64 R)) ∧ Below w.heap.size w W' := by
  obtain ⟨⟨h0, h1, h2⟩, hB⟩ := h
  have hl := World.block_lt_of_cell? W _ h0
  exact ⟨⟨(hb.cell (p := ⟨b, 0, none⟩) hl).trans h0, (hb.cell (p := ⟨b, 1, none⟩) hl).trans h1, (hb.cell (p := ⟨b, 2, none⟩) hl).trans h2⟩, hB.trans (hb.mono hB.size)⟩
theorem planHeld {w W : World} {b : Nat} {P T R : Int} (h : (W.cell? ⟨b, 0, none⟩ = some (.int .i64 P) ∧ W.cell? ⟨b, 1, none⟩ = some (.int .i64 T) ∧ W.cell? ⟨b, 2, none⟩ = some (.int .i64 R)) ∧ Below w.heap.size w W) :
    (W.cell? ⟨b, 0, none⟩ = some (.int .i64 P) ∧ W.cell? ⟨b, 1, none⟩ = some (.int .i64 T) ∧ W.cell? ⟨b, 2, none⟩ = some (.int .i64 R)) ∧ Below w.heap.size w W := h
theorem planNew (w : World) (P T R : Int) (t : TypeId) :
    ((w.alloc (.cells #[.int .i64 P, .int .i64 T, .int .i64 R] t)).cell? ⟨w.heap.size, 0, none⟩ = some (.int .i64 P) ∧ (w.alloc (.cells #[.int .i64 P, .int .i64 T, .int .i64 R] t)).cell? ⟨w.heap.size, 1, none⟩ = some (.int .i64 T) ∧ (w.alloc (.cells #[.int .i64 P, .int .i64 T, .int .i64 R] t)).cell? ⟨w.heap.size, 2, none⟩ = some (.int .i64 R)) ∧ Below w.heap.size w (w.alloc (.cells #[.int .i64 P, .int .i64 T, .int .i64 R] t)) :=
  ⟨⟨(Blk.new w _ t).val 0 rfl, (Blk.new w _ t).val 1 rfl, (Blk.new w _ t).val 2 rfl⟩, (Below.refl _ _).alloc (Nat.le_refl _) _⟩
set_option maxHeartbeats 400000 in
theorem lvalid_any (P T R : Int) (w : World) :
    Calls Tryd.prog 23 #[.agg #[.int .i64 P, .int .i64 T, .int .i64 R]] w fun e w' => e = .returned (.bool (rightB P T R)) ∧ Below w.heap.size w w' := by
  unfold rightB
  have W1 := Lib.hid (fun W => within_any P 1 32 W)
  have W2 := Lib.hid (fun W => within_any T 1 6 W)
  have W3 := Lib.hid (fun W => within_any R 1 16 W)
  generalize inL P 1 32 = b1 at *
  generalize inL T 1 6 = b2 at *
  generalize inL R 1 16 = b3 at *
  cases b1 with
  | false =>
    go_enter Tryd.func23, Tryd.ntmps23
    have c0 := (planNew w P T R 26)
    go_wp2_with fail
    refine (W1.out _).mono ?_; rintro e w1 ⟨rfl, hb1⟩
    have c1 := planKeep c0 hb1
    obtain ⟨d10, d11, d12⟩ := c1.1
    go_wp2
    go_ret
    exact ⟨rfl, c1.2⟩
  | true =>
    cases b2 with
    | false =>
      go_enter Tryd.func23, Tryd.ntmps23
      have c0 := (planNew w P T R 26)
      go_wp2_with fail
      refine (W1.out _).mono ?_; rintro e w1 ⟨rfl, hb1⟩
      have c1 := planKeep c0 hb1
      obtain ⟨d10, d11, d12⟩ := c1.1
      go_wp2_with fail
      refine (W2.out _).mono ?_; rintro e w2 ⟨rfl, hb2⟩
      have c2 := planKeep c1 hb2
      obtain ⟨d20, d21, d22⟩ := c2.1
      go_wp2
      go_ret
      exact ⟨rfl, c2.2⟩
    | true =>
      go_enter Tryd.func23, Tryd.ntmps23
      have c0 := (planNew w P T R 26)
      go_wp2_with fail
      refine (W1.out _).mono ?_; rintro e w1 ⟨rfl, hb1⟩
      have c1 := planKeep c0 hb1
      obtain ⟨d10, d11, d12⟩ := c1.1
      go_wp2_with fail
      refine (W2.out _).mono ?_; rintro e w2 ⟨rfl, hb2⟩
      have c2 := planKeep c1 hb2
      obtain ⟨d20, d21, d22⟩ := c2.1
      go_wp2_with fail
      refine (W3.out _).mono ?_; rintro e w3 ⟨rfl, hb3⟩
      have c3 := planKeep c2 hb3
      obtain ⟨d30, d31, d32⟩ := c3.1
      go_wp2
      go_ret
      exact ⟨rfl, c3.2⟩
end Go.Proofs.YtcjkachlahjbiaaDoor
