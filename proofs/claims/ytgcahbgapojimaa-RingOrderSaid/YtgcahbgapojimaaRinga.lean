/- What the small functions of package ring return: exists, NewPush, NewPop, Over, Full, Empty, Value. No condition but that the machine's block is there. -/
import Derived.Test.YtgcahbgapojimaaTouch
import Derived.Deep.QuietTactic
import Derived.BigQuiet
import Derived.Test.YtgcahbgapojimaaLayc
namespace Go.Proofs.Ytgcahbgapojimaa
open Go.RowKit
/-- has the plan such a thread? -/
def exB (P T R t : Int) : Bool := rightB P T R && inB t 0 (T - 1)
theorem own_ge (P T R t n : Int) (hn : 0 ≤ n) : decide (0 ≤ ownI P T R t n) = exB P T R t := by
  unfold ownI exB
  by_cases h : (rightB P T R && inB t 0 (T - 1)) = true
  · rw [if_pos h, h]
    have h' := h
    rw [Bool.and_eq_true] at h'
    have b := own_bd (right_of h'.1) h'.2
    exact decide_eq_true (by omega)
  · rw [if_neg h, Bool.not_eq_true _ |>.mp h]
    rfl
/-- a machine that pushes: its block m, its plan, its thread, its word; the tail that it has seen, what it does next, whether there was no room -/
def PushAt (w : World) (m : Nat) (P T R t v tl nx : Int) (fu : Bool) : Prop := Blk w m #[.int .i64 P, .int .i64 T, .int .i64 R, .int .i64 t, .int .u64 v, .int .u64 tl, .int .i64 nx, .bool fu] 144
def PopAt (w : World) (m : Nat) (P T R t v hd nx : Int) (em : Bool) : Prop := Blk w m #[.int .i64 P, .int .i64 T, .int .i64 R, .int .i64 t, .int .u64 v, .int .u64 hd, .int .i64 nx, .bool em] 149
set_option maxHeartbeats 400000 in
theorem exists_any (P T R t : Int) (w : World) :
    Calls Try.prog 79 #[.agg #[.int .i64 P, .int .i64 T, .int .i64 R], .int .i64 t] w fun e w' => e = .returned (.bool (exB P T R t)) ∧ Below w.heap.size w w' := by
  have H := Lib.hid (fun W => head_any P T R t W)
  have E := Lib.hid (own_ge P T R t 3 (by decide))
  go_enter Try.func79, Try.ntmps79
  have c0 := (planNew w P T R 49)
  go_wp2_with fail
  refine (H.out _).mono ?_; rintro e w1 ⟨rfl, hb1⟩
  have c1 := planKeep c0 hb1
  go_wp2
  go_ret
  exact ⟨ret_bool E.out, c1.2⟩
/-- what NewPush makes -/
def NewPushPost (P T R t v : Int) (w : World) (e : Ending) (w' : World) : Prop :=
  ∃ m, e = .returned (.tuple #[.pointer (some ⟨m, 0, none⟩), .int .i64 0]) ∧ PushAt w' m P T R t v 0 1 false ∧ w.heap.size ≤ m ∧ Below w.heap.size w w'
def NewPopPost (P T R t : Int) (w : World) (e : Ending) (w' : World) : Prop :=
  ∃ m, e = .returned (.tuple #[.pointer (some ⟨m, 0, none⟩), .int .i64 0]) ∧ PopAt w' m P T R t 0 0 2 false ∧ w.heap.size ≤ m ∧ Below w.heap.size w w'
set_option maxHeartbeats 400000 in
theorem newpush_yes (P T R t v : Int) (w : World) (h : exB P T R t = true) (hv : v ≠ 0) :
    Calls Try.prog 26 #[.agg #[.int .i64 P, .int .i64 T, .int .i64 R], .int .i64 t, .int .u64 v] w (NewPushPost P T R t v w) := by
  have H := Lib.hid (fun W => exists_any P T R t W)
  rw [h] at H
  have hv' : (v == 0) = false := by simpa using hv
  clear h hv
  go_enter Try.func26, Try.ntmps26
  have c0 := (planNew w P T R 49)
  go_wp2_with fail
  refine (H.out _).mono ?_; rintro e w1 ⟨rfl, hb1⟩
  have c1 := planKeep c0 hb1
  obtain ⟨d10, d11, d12⟩ := c1.1
  go_wp2
  go_ret2
  exact ⟨_, rfl, Blk.new' (by simp), Nat.le_trans c1.2.size (Nat.le_refl _), c1.2.trans ((Below.refl _ _).alloc c1.2.size _)⟩
set_option maxHeartbeats 400000 in
theorem newpush_no (P T R t v : Int) (w : World) (h : exB P T R t = false ∨ v = 0) :
    Calls Try.prog 26 #[.agg #[.int .i64 P, .int .i64 T, .int .i64 R], .int .i64 t, .int .u64 v] w fun e w' => e = .returned (.tuple #[.pointer none, .int .i64 1]) ∧ Below w.heap.size w w' := by
  have H := Lib.hid (fun W => exists_any P T R t W)
  by_cases hx : exB P T R t = true
  · have hv := h.resolve_left (by simp [hx])
    subst hv
    rw [hx] at H
    clear h hx
    go_enter Try.func26, Try.ntmps26
    have c0 := (planNew w P T R 49)
    go_wp2_with fail
    refine (H.out _).mono ?_; rintro e w1 ⟨rfl, hb1⟩
    have c1 := planKeep c0 hb1
    go_wp2
    go_ret2
    exact ⟨rfl, c1.2⟩
  · rw [Bool.not_eq_true _ |>.mp hx] at H
    clear h hx
    go_enter Try.func26, Try.ntmps26
    have c0 := (planNew w P T R 49)
    go_wp2_with fail
    refine (H.out _).mono ?_; rintro e w1 ⟨rfl, hb1⟩
    have c1 := planKeep c0 hb1
    go_wp2
    go_ret2
    exact ⟨rfl, c1.2⟩
set_option maxHeartbeats 400000 in
theorem newpop_yes (P T R t : Int) (w : World) (h : exB P T R t = true) :
    Calls Try.prog 32 #[.agg #[.int .i64 P, .int .i64 T, .int .i64 R], .int .i64 t] w (NewPopPost P T R t w) := by
  have H := Lib.hid (fun W => exists_any P T R t W)
  rw [h] at H
  clear h
  go_enter Try.func32, Try.ntmps32
  have c0 := (planNew w P T R 49)
  go_wp2_with fail
  refine (H.out _).mono ?_; rintro e w1 ⟨rfl, hb1⟩
  have c1 := planKeep c0 hb1
  obtain ⟨d10, d11, d12⟩ := c1.1
  go_wp2
  go_ret2
  exact ⟨_, rfl, Blk.new' (by simp), Nat.le_trans c1.2.size (Nat.le_refl _), c1.2.trans ((Below.refl _ _).alloc c1.2.size _)⟩
set_option maxHeartbeats 400000 in
theorem newpop_no (P T R t : Int) (w : World) (h : exB P T R t = false) :
    Calls Try.prog 32 #[.agg #[.int .i64 P, .int .i64 T, .int .i64 R], .int .i64 t] w fun e w' => e = .returned (.tuple #[.pointer none, .int .i64 1]) ∧ Below w.heap.size w w' := by
  have H := Lib.hid (fun W => exists_any P T R t W)
  rw [h] at H
  clear h
  go_enter Try.func32, Try.ntmps32
  have c0 := (planNew w P T R 49)
  go_wp2_with fail
  refine (H.out _).mono ?_; rintro e w1 ⟨rfl, hb1⟩
  have c1 := planKeep c0 hb1
  go_wp2
  go_ret2
  exact ⟨rfl, c1.2⟩
theorem over_pushnil (w : World) :
    Calls Try.prog 41 #[.pointer none] w fun e w' => e = .returned (.bool true) ∧ Quiet w w' := by
  go_enter Try.func41, Try.ntmps41
  go_wp2
  go_ret
  exact ⟨rfl, Quiet.refl _⟩
theorem over_popnil (w : World) :
    Calls Try.prog 43 #[.pointer none] w fun e w' => e = .returned (.bool true) ∧ Quiet w w' := by
  go_enter Try.func43, Try.ntmps43
  go_wp2
  go_ret
  exact ⟨rfl, Quiet.refl _⟩
theorem full_nil (w : World) :
    Calls Try.prog 28 #[.pointer none] w fun e w' => e = .returned (.bool false) ∧ Quiet w w' := by
  go_enter Try.func28, Try.ntmps28
  go_wp2
  go_ret
  exact ⟨rfl, Quiet.refl _⟩
theorem empty_nil (w : World) :
    Calls Try.prog 44 #[.pointer none] w fun e w' => e = .returned (.bool false) ∧ Quiet w w' := by
  go_enter Try.func44, Try.ntmps44
  go_wp2
  go_ret
  exact ⟨rfl, Quiet.refl _⟩
theorem value_nil (w : World) :
    Calls Try.prog 45 #[.pointer none] w fun e w' => e = .returned (.int .u64 0) ∧ Quiet w w' := by
  go_enter Try.func45, Try.ntmps45
  go_wp2
  go_ret
  exact ⟨rfl, Quiet.refl _⟩
theorem step_pushnil (p : Option Addr) (w : World) :
    Calls Try.prog 40 #[.pointer none, .pointer p] w fun e w' => e = .returned (.bool true) ∧ Quiet w w' := by
  go_enter Try.func40, Try.ntmps40
  go_wp2_with fail
  refine (over_pushnil _).mono ?_; rintro e w1 ⟨rfl, hq1⟩
  go_wp2_with fail
  refine (over_pushnil _).mono ?_; rintro e w2 ⟨rfl, hq2⟩
  go_wp2
  go_ret
  exact ⟨rfl, hq1.trans hq2⟩
theorem step_popnil (p : Option Addr) (w : World) :
    Calls Try.prog 42 #[.pointer none, .pointer p] w fun e w' => e = .returned (.bool true) ∧ Quiet w w' := by
  go_enter Try.func42, Try.ntmps42
  go_wp2_with fail
  refine (over_popnil _).mono ?_; rintro e w1 ⟨rfl, hq1⟩
  go_wp2_with fail
  refine (over_popnil _).mono ?_; rintro e w2 ⟨rfl, hq2⟩
  go_wp2
  go_ret
  exact ⟨rfl, hq1.trans hq2⟩
section
variable {w : World} {m : Nat} {P T R t v x nx : Int} {b : Bool}
theorem over_push (h : PushAt w m P T R t v x nx b) :
    Calls Try.prog 41 #[.pointer (some ⟨m, 0, none⟩)] w fun e w' => e = .returned (.bool (nx == 0)) ∧ Quiet w w' := by
  have h2 := h.val 6 rfl
  clear h
  go_enter Try.func41, Try.ntmps41
  go_wp2
  go_ret
  exact ⟨rfl, Quiet.refl _⟩
theorem over_pop (h : PopAt w m P T R t v x nx b) :
    Calls Try.prog 43 #[.pointer (some ⟨m, 0, none⟩)] w fun e w' => e = .returned (.bool (nx == 0)) ∧ Quiet w w' := by
  have h2 := h.val 6 rfl
  clear h
  go_enter Try.func43, Try.ntmps43
  go_wp2
  go_ret
  exact ⟨rfl, Quiet.refl _⟩
theorem full_push (h : PushAt w m P T R t v x nx b) :
    Calls Try.prog 28 #[.pointer (some ⟨m, 0, none⟩)] w fun e w' => e = .returned (.bool b) ∧ Quiet w w' := by
  have h2 := h.val 7 rfl
  clear h
  go_enter Try.func28, Try.ntmps28
  go_wp2
  go_ret
  exact ⟨rfl, Quiet.refl _⟩
theorem empty_pop (h : PopAt w m P T R t v x nx b) :
    Calls Try.prog 44 #[.pointer (some ⟨m, 0, none⟩)] w fun e w' => e = .returned (.bool b) ∧ Quiet w w' := by
  have h2 := h.val 7 rfl
  clear h
  go_enter Try.func44, Try.ntmps44
  go_wp2
  go_ret
  exact ⟨rfl, Quiet.refl _⟩
theorem value_pop (h : PopAt w m P T R t v x 0 b) :
    Calls Try.prog 45 #[.pointer (some ⟨m, 0, none⟩)] w fun e w' => e = .returned (.int .u64 v) ∧ Quiet w w' := by
  have h4 := h.val 4 rfl
  have O := Lib.hid (over_pop h)
  clear h
  go_enter Try.func45, Try.ntmps45
  go_wp2_with fail
  refine O.out.mono ?_; rintro e w1 ⟨rfl, hq1⟩
  rw [← hq1.cell] at h4
  go_wp2
  go_ret
  exact ⟨rfl, hq1⟩
theorem value_not (h : PopAt w m P T R t v x nx b) (hn : (nx == 0) = false) :
    Calls Try.prog 45 #[.pointer (some ⟨m, 0, none⟩)] w fun e w' => e = .returned (.int .u64 0) ∧ Quiet w w' := by
  have O := Lib.hid (over_pop h)
  rw [hn] at O
  clear h hn
  go_enter Try.func45, Try.ntmps45
  go_wp2_with fail
  refine O.out.mono ?_; rintro e w1 ⟨rfl, hq1⟩
  go_wp2
  go_ret
  exact ⟨rfl, hq1⟩
end
end Go.Proofs.Ytgcahbgapojimaa
