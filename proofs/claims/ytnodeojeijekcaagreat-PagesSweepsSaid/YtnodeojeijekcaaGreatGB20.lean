/- The sweep of package pages: what examine leaves of it. No condition but that the blocks are there. -/
import Derived.Deep.RegionHeld3
import Derived.StillTailTactics
import Derived.Test.YtnodeojeijekcaaGreatGB19
namespace Go.Proofs.YtnodeojeijekcaaGreat
open Go.RowKit
set_option linter.unusedVariables false
section
variable {w0 w w' : World} {B a c p m b : Nat} {σ : Sw} {cs : List Int} {xs : List Value} {n : Nat} {K : List Nat} {who : Int} {o : Bool} {A C' S D Y : Int}
/-- the machine, and an entry's box beside it -/
structure ExS (w0 : World) (B a c p m b : Nat) (σ : Sw) (cs : List Int) (xs : List Value) (n : Nat) (K : List Nat) (who : Int) (o : Bool) (A C' S D Y : Int) (w : World) : Prop where
  ma : SwS w0 B a c p m σ cs xs n K who o w
  box : Blk w b #[.int .i64 A, .int .i64 C', .int .i64 S, .int .i64 D, .int .i64 Y] 83
  bm : b ≠ m
theorem ExS.grew (h : ExS w0 B a c p m b σ cs xs n K who o A C' S D Y w) (hb : Below w.heap.size w w') : ExS w0 B a c p m b σ cs xs n K who o A C' S D Y w' := ⟨h.ma.grew hb, h.box.grew hb, h.bm⟩
theorem ExS.drew (h : ExS w0 B a c p m b σ cs xs n K who o A C' S D Y w) : ExS w0 B a c p m b σ cs xs n K who o A C' S D Y w.drew := ⟨h.ma.drew, h.box.drew, h.bm⟩
theorem ExS.new (h : SwS w0 B a c p m σ cs xs n K who o w) : ExS w0 B a c p m w.heap.size σ cs xs n K who o A C' S D Y (w.alloc (.cells #[.int .i64 A, .int .i64 C', .int .i64 S, .int .i64 D, .int .i64 Y] 83)) := ⟨h.alloc _, Blk.new _ _ _, by have := h.mach.lt; omega⟩
theorem ExS.set (h : ExS w0 B a c p m b σ cs xs n K who o A C' S D Y w) (hr : MaR p m K) (i : Nat) (v : Value) (σ' : Sw) (hv : σ.V.setIfInBounds i v = σ'.V) : ExS w0 B a c p m b σ' cs xs n K who o A C' S D Y (w.setCell ⟨m, i, none⟩ v) := ⟨by have := h.ma.set hr i v; rw [hv] at this; exact this, h.box.other _ _ h.bm, h.bm⟩
theorem ExS.cells (h : ExS w0 B a c p m b σ cs xs n K who o A C' S D Y w) : (w.cell? ⟨b, 0, none⟩ = some (.int .i64 A) ∧ w.cell? ⟨b, 1, none⟩ = some (.int .i64 C') ∧ w.cell? ⟨b, 2, none⟩ = some (.int .i64 S) ∧ w.cell? ⟨b, 3, none⟩ = some (.int .i64 D) ∧ w.cell? ⟨b, 4, none⟩ = some (.int .i64 Y)) ∧ (w.cell? ⟨m, 0, none⟩ = some (.int .i64 σ.P) ∧ w.cell? ⟨m, 1, none⟩ = some (.int .i64 σ.T) ∧ w.cell? ⟨m, 2, none⟩ = some (.int .i64 σ.R) ∧ w.cell? ⟨m, 3, none⟩ = some (.int .i64 σ.who) ∧ w.cell? ⟨m, 4, none⟩ = some (.int .i64 σ.cyc) ∧ w.cell? ⟨m, 5, none⟩ = some (.int .i64 σ.pg)) := ⟨h.box.five, Sw.fix h.ma.mach⟩
set_option maxRecDepth 100000 in
set_option maxHeartbeats 1000000 in
theorem swEx_none (h : SwS w0 B a c p m σ cs xs n K who o w) (hr : MaR p m K) (z : Int) (hU : U64 z) (hz : edecOk z = false) :
    Calls Tryz.prog 47 #[.pointer (some ⟨m, 0, none⟩), .int .u64 z] w fun e w' => (∃ v, e = .returned v) ∧ SwS w0 B a c p m { σ with nx := 0 } cs xs n K who o w' := by
  have f6 := h.mach.frozen 6
  have n6 : w.cell? ⟨m, 6, none⟩ = some (.int .i64 σ.nx) := h.mach.val 6 rfl
  have C := Lib.hid (fun W => edec_no z W hU hz)
  have h1 : SwS w0 B a c p m { σ with nx := 0 } cs xs n K who o (w.setCell ⟨m, 6, none⟩ (.int .i64 0)) := h.set hr 6 _
  clear h hU hz
  go_enter Tryz.func47, Tryz.ntmps47
  go_upto_region 1 with fail
  generalize w.setCell ⟨m, 6, none⟩ (.int .i64 0) = W1 at *
  go_wp2_with fail
  refine (C.out _).mono ?_; rintro e w1 ⟨rfl, hb⟩
  have h2 := h1.grew hb
  go_wp2
  refine bodyPost_ret (results_none rfl _ _ _) rfl ?_
  exact ⟨⟨_, rfl⟩, h2.alloc _⟩
set_option maxRecDepth 100000 in
set_option maxHeartbeats 4000000 in
theorem swEx_busy (h : SwS w0 B a c p m σ cs xs n K who o w) (hr : MaR p m K) (z : Int) (y' : Bool) (hS : S = 2)
    (hD : ∀ W, Calls Tryz.prog 72 #[.int .u64 z] W fun e w' => e = .returned (.tuple #[.agg #[.int .i64 A, .int .i64 C', .int .i64 2, .int .i64 D, .int .i64 Y], .int .i64 0]) ∧ Below W.heap.size W w')
    (hy : decide (Y < σ.cyc) = y') (hd : dueB A C' S D Y σ.cyc = false) :
    Calls Tryz.prog 47 #[.pointer (some ⟨m, 0, none⟩), .int .u64 z] w fun e w' => (∃ v, e = .returned v) ∧ SwS w0 B a c p m { σ with nx := 0, bl := y' } cs xs n K who o w' := by
  obtain ⟨P, T, R, whoo, cyc, pg, nx, seen, k, c', s, oo, y, ma, al, kp, tl, sw, bl⟩ := σ
  dsimp only at *
  subst hS
  have f6 := h.mach.frozen 6
  have n6 : w.cell? ⟨m, 6, none⟩ = some (.int .i64 nx) := h.mach.val 6 rfl
  have C := Lib.hid hD
  have DU := Lib.hid (fun W => due_any A C' 2 D Y cyc W)
  rw [hd] at DU
  have h1 : SwS w0 B a c p m ⟨P, T, R, whoo, cyc, pg, 0, seen, k, c', s, oo, y, ma, al, kp, tl, sw, bl⟩ cs xs n K who o (w.setCell ⟨m, 6, none⟩ (.int .i64 0)) := h.set hr 6 _
  clear h hD hd 
  go_enter Tryz.func47, Tryz.ntmps47
  go_upto_region 1 with fail
  generalize w.setCell ⟨m, 6, none⟩ (.int .i64 0) = W1 at *
  go_wp2_with fail
  refine (C.out _).mono ?_; rintro e w1 ⟨rfl, hb⟩
  have h2 := ExS.new (A := A) (C' := C') (S := 2) (D := D) (Y := Y) (h1.grew hb)
  clear h1 hb f6 n6
  go_upto_region 2 with fail
  generalize w1.alloc (.cells #[.int .i64 A, .int .i64 C', .int .i64 2, .int .i64 D, .int .i64 Y] 83) = W2 at *
  generalize w1.heap.size = bb at *
  obtain ⟨⟨x0, x1, x2, x3, x4⟩, d0, d1, d2, d3, d4, d5⟩ := h2.cells
  dsimp only at d0 d1 d2 d3 d4 d5
  go_wp2_with fail
  go_still_tail 13, (by kernel_rfl)
  clear x0 x1 x2 x3 x4 d0 d1 d2 d3 d4 d5
  change wpList _ _ _ _ _ W2.drew
  have h3 := h2.drew
  generalize W2.drew = W3 at *
  have e18 : W3.cell? ⟨m, 18, none⟩ = some (.bool bl) := h3.ma.mach.val 18 rfl
  have f18 := h3.ma.mach.frozen 18
  have h4 := h3.set hr 18 (.bool y') ⟨P, T, R, whoo, cyc, pg, 0, seen, k, c', s, oo, y, ma, al, kp, tl, sw, y'⟩ rfl
  clear h2
  go_upto_region 4 with fail
  clear e18 f18 h3
  generalize W3.setCell ⟨m, 18, none⟩ (.bool y') = W4 at *
  go_wp2_with fail
  refine wp_region_held_drew (S := (fun W' => (W'.cell? ⟨bb, 0, none⟩ = some (.int .i64 A) ∧ W'.cell? ⟨bb, 1, none⟩ = some (.int .i64 C') ∧ W'.cell? ⟨bb, 2, none⟩ = some (.int .i64 2) ∧ W'.cell? ⟨bb, 3, none⟩ = some (.int .i64 D) ∧ W'.cell? ⟨bb, 4, none⟩ = some (.int .i64 Y)) ∧ (W'.cell? ⟨m, 0, none⟩ = some (.int .i64 P) ∧ W'.cell? ⟨m, 1, none⟩ = some (.int .i64 T) ∧ W'.cell? ⟨m, 2, none⟩ = some (.int .i64 R) ∧ W'.cell? ⟨m, 3, none⟩ = some (.int .i64 whoo) ∧ W'.cell? ⟨m, 4, none⟩ = some (.int .i64 cyc) ∧ W'.cell? ⟨m, 5, none⟩ = some (.int .i64 pg)))) (by kernel_rfl) h4.drew.cells (fun hHeld => ?_)
  refine wpAnyH_take (i := 0) (oi := _) (v := ?_) (op_at rfl) (by kernel_rfl) (by kernel_rfl) (by kernel_rfl) (fun _ _ _ h => h) (Or.inl ⟨by rfl, ?_⟩) hHeld ?_
  rotate_left 1
  focus (intro W hSw; (try dsimp only at hSw); go_simp; (try (with_reducible rfl)))
  (try simp only [Act.put, List.setIfInBounds_toArray, List.set_cons_zero, List.set_cons_succ])
  refine wpAnyH_take (i := 1) (oi := _) (v := ?_) (op_at rfl) (by kernel_rfl) (by kernel_rfl) (by kernel_rfl) (fun _ _ _ h => h) (Or.inl ⟨by rfl, ?_⟩) hHeld ?_
  rotate_left 1
  focus (intro W hSw; (try dsimp only at hSw); go_simp; (try (with_reducible rfl)))
  (try simp only [Act.put, List.setIfInBounds_toArray, List.set_cons_zero, List.set_cons_succ])
  refine wpAnyH_take (i := 2) (oi := _) (v := ?_) (op_at rfl) (by kernel_rfl) (by kernel_rfl) (by kernel_rfl) (fun _ _ _ h => h) (Or.inl ⟨by rfl, ?_⟩) hHeld ?_
  rotate_left 1
  focus (intro W hSw; (try dsimp only at hSw); go_simp; (try (with_reducible rfl)))
  (try simp only [Act.put, List.setIfInBounds_toArray, List.set_cons_zero, List.set_cons_succ])
  refine wpAnyH_take (i := 3) (oi := _) (v := ?_) (op_at rfl) (by kernel_rfl) (by kernel_rfl) (by kernel_rfl) (fun _ _ _ h => h) (Or.inl ⟨by rfl, ?_⟩) hHeld ?_
  rotate_left 1
  focus (intro W hSw; (try dsimp only at hSw); go_simp; (try (with_reducible rfl)))
  (try simp only [Act.put, List.setIfInBounds_toArray, List.set_cons_zero, List.set_cons_succ])
  refine wpAnyH_take (i := 4) (oi := _) (v := ?_) (op_at rfl) (by kernel_rfl) (by kernel_rfl) (by kernel_rfl) (fun _ _ _ h => h) (Or.inl ⟨by rfl, ?_⟩) hHeld ?_
  rotate_left 1
  focus (intro W hSw; (try dsimp only at hSw); go_simp; (try (with_reducible rfl)))
  (try simp only [Act.put, List.setIfInBounds_toArray, List.set_cons_zero, List.set_cons_succ])
  refine wpAnyH_ready (rs := [5]) (by kernel_rfl) (by simp) ?_
  refine AllReadyH.cons (o := _) (op_at rfl) (fun Kc hKc => ?_) AllReadyH.nil
  go_simp
  go_at_call 73
  (with_reducible refine (DU.out _).mono ?_)
  rintro e w5 ⟨rfl, hb5⟩
  have h5 := h4.drew.grew hb5
  clear hb5
  go_wp2_with fail
  refine hKc.out _ _ ?_ ?_
  focus exact h5.cells
  clear hHeld
  intro hHeld
  clear hKc Kc
  (try simp only [Act.put, List.setIfInBounds_toArray, List.set_cons_zero, List.set_cons_succ])
  refine wpAnyH_take (i := 6) (oi := _) (v := ?_) (op_at rfl) (by kernel_rfl) (by kernel_rfl) (by kernel_rfl) (fun _ _ _ h => h) (Or.inl ⟨by rfl, ?_⟩) hHeld ?_
  rotate_left 1
  focus (intro W hSw; (try dsimp only at hSw); go_simp; (try (with_reducible rfl)))
  (try simp only [Act.put, List.setIfInBounds_toArray, List.set_cons_zero, List.set_cons_succ])
  refine wpAnyH_take (i := 7) (oi := _) (v := ?_) (op_at rfl) (by kernel_rfl) (by kernel_rfl) (by kernel_rfl) (fun _ _ _ h => h) (Or.inl ⟨by rfl, ?_⟩) hHeld ?_
  rotate_left 1
  focus (intro W hSw; (try dsimp only at hSw); go_simp; (try (with_reducible rfl)))
  (try simp only [Act.put, List.setIfInBounds_toArray, List.set_cons_zero, List.set_cons_succ])
  refine wpAnyH_take (i := 8) (oi := _) (v := undef) (op_at rfl) (by kernel_rfl) (by kernel_rfl) (by kernel_rfl) (fun _ _ _ h => h) (Or.inr ⟨by rfl, rfl⟩) hHeld ?_
  (try simp only [Act.put, List.setIfInBounds_toArray, List.set_cons_zero, List.set_cons_succ])
  refine wpAnyH_take (i := 9) (oi := _) (v := undef) (op_at rfl) (by kernel_rfl) (by kernel_rfl) (by kernel_rfl) (fun _ _ _ h => h) (Or.inr ⟨by rfl, rfl⟩) hHeld ?_
  (try simp only [Act.put, List.setIfInBounds_toArray, List.set_cons_zero, List.set_cons_succ])
  refine wpAnyH_take (i := 10) (oi := _) (v := undef) (op_at rfl) (by kernel_rfl) (by kernel_rfl) (by kernel_rfl) (fun _ _ _ h => h) (Or.inr ⟨by rfl, rfl⟩) hHeld ?_
  (try simp only [Act.put, List.setIfInBounds_toArray, List.set_cons_zero, List.set_cons_succ])
  refine wpAnyH_take (i := 11) (oi := _) (v := ?_) (op_at rfl) (by kernel_rfl) (by kernel_rfl) (by kernel_rfl) (fun _ _ _ h => h) (Or.inl ⟨by rfl, ?_⟩) hHeld ?_
  rotate_left 1
  focus (intro W hSw; (try dsimp only at hSw); go_simp; (try (with_reducible rfl)))
  (try simp only [Act.put, List.setIfInBounds_toArray, List.set_cons_zero, List.set_cons_succ])
  refine wpAnyH_done (by kernel_rfl) ?_ _
  go_wp2
  refine bodyPost_ret (results_none rfl _ _ _) rfl ?_
  exact ⟨⟨_, rfl⟩, h5.ma⟩
set_option maxRecDepth 100000 in
set_option maxHeartbeats 4000000 in
theorem swEx_late (h : SwS w0 B a c p m σ cs xs n K who o w) (hr : MaR p m K) (z : Int) (hS : (S == 2) = false)
    (hD : ∀ W, Calls Tryz.prog 72 #[.int .u64 z] W fun e w' => e = .returned (.tuple #[.agg #[.int .i64 A, .int .i64 C', .int .i64 S, .int .i64 D, .int .i64 Y], .int .i64 0]) ∧ Below W.heap.size W w')
    (hd : dueB A C' S D Y σ.cyc = false) :
    Calls Tryz.prog 47 #[.pointer (some ⟨m, 0, none⟩), .int .u64 z] w fun e w' => (∃ v, e = .returned v) ∧ SwS w0 B a c p m { σ with nx := 0, bl := false } cs xs n K who o w' := by
  obtain ⟨P, T, R, whoo, cyc, pg, nx, seen, k, c', s, oo, y, ma, al, kp, tl, sw, bl⟩ := σ
  dsimp only at *
  have f6 := h.mach.frozen 6
  have n6 : w.cell? ⟨m, 6, none⟩ = some (.int .i64 nx) := h.mach.val 6 rfl
  have C := Lib.hid hD
  have DU := Lib.hid (fun W => due_any A C' S D Y cyc W)
  rw [hd] at DU
  have h1 : SwS w0 B a c p m ⟨P, T, R, whoo, cyc, pg, 0, seen, k, c', s, oo, y, ma, al, kp, tl, sw, bl⟩ cs xs n K who o (w.setCell ⟨m, 6, none⟩ (.int .i64 0)) := h.set hr 6 _
  clear h hD hd 
  go_enter Tryz.func47, Tryz.ntmps47
  go_upto_region 1 with fail
  generalize w.setCell ⟨m, 6, none⟩ (.int .i64 0) = W1 at *
  go_wp2_with fail
  refine (C.out _).mono ?_; rintro e w1 ⟨rfl, hb⟩
  have h2 := ExS.new (A := A) (C' := C') (S := S) (D := D) (Y := Y) (h1.grew hb)
  clear h1 hb f6 n6
  go_upto_region 2 with fail
  generalize w1.alloc (.cells #[.int .i64 A, .int .i64 C', .int .i64 S, .int .i64 D, .int .i64 Y] 83) = W2 at *
  generalize w1.heap.size = bb at *
  obtain ⟨⟨x0, x1, x2, x3, x4⟩, d0, d1, d2, d3, d4, d5⟩ := h2.cells
  dsimp only at d0 d1 d2 d3 d4 d5
  clear x0 x1 x2 x3 x4 d0 d1 d2 d3 d4 d5
  have e18 : W2.drew.cell? ⟨m, 18, none⟩ = some (.bool bl) := h2.ma.mach.val 18 rfl
  have f18 : W2.drew.frozen? ⟨m, 18, none⟩ = false := h2.ma.mach.frozen 18
  have h4 := (h2.set hr 18 (.bool false) ⟨P, T, R, whoo, cyc, pg, 0, seen, k, c', s, oo, y, ma, al, kp, tl, sw, false⟩ rfl).drew
  go_wp2_with fail
  refine wp_region_held_drew (S := (fun W' => (W'.cell? ⟨bb, 0, none⟩ = some (.int .i64 A) ∧ W'.cell? ⟨bb, 1, none⟩ = some (.int .i64 C') ∧ W'.cell? ⟨bb, 2, none⟩ = some (.int .i64 S) ∧ W'.cell? ⟨bb, 3, none⟩ = some (.int .i64 D) ∧ W'.cell? ⟨bb, 4, none⟩ = some (.int .i64 Y)) ∧ (W'.cell? ⟨m, 0, none⟩ = some (.int .i64 P) ∧ W'.cell? ⟨m, 1, none⟩ = some (.int .i64 T) ∧ W'.cell? ⟨m, 2, none⟩ = some (.int .i64 R) ∧ W'.cell? ⟨m, 3, none⟩ = some (.int .i64 whoo) ∧ W'.cell? ⟨m, 4, none⟩ = some (.int .i64 cyc) ∧ W'.cell? ⟨m, 5, none⟩ = some (.int .i64 pg)))) (by kernel_rfl) h2.drew.cells (fun hHeld => ?_)
  refine wpAnyH_take (i := 0) (oi := _) (v := ?_) (op_at rfl) (by kernel_rfl) (by kernel_rfl) (by kernel_rfl) (fun _ _ _ h => h) (Or.inl ⟨by rfl, ?_⟩) hHeld ?_
  rotate_left 1
  focus (intro W hSw; (try dsimp only at hSw); go_simp; (try (with_reducible rfl)))
  (try simp only [Act.put, List.setIfInBounds_toArray, List.set_cons_zero, List.set_cons_succ])
  refine wpAnyH_take (i := 1) (oi := _) (v := ?_) (op_at rfl) (by kernel_rfl) (by kernel_rfl) (by kernel_rfl) (fun _ _ _ h => h) (Or.inl ⟨by rfl, ?_⟩) hHeld ?_
  rotate_left 1
  focus (intro W hSw; (try dsimp only at hSw); go_simp; (try (with_reducible rfl)))
  (try simp only [Act.put, List.setIfInBounds_toArray, List.set_cons_zero, List.set_cons_succ])
  refine wpAnyH_take (i := 2) (oi := _) (v := ?_) (op_at rfl) (by kernel_rfl) (by kernel_rfl) (by kernel_rfl) (fun _ _ _ h => h) (Or.inl ⟨by rfl, ?_⟩) hHeld ?_
  rotate_left 1
  focus (intro W hSw; (try dsimp only at hSw); go_simp; (try (with_reducible rfl)))
  (try simp only [Act.put, List.setIfInBounds_toArray, List.set_cons_zero, List.set_cons_succ])
  refine wpAnyH_take (i := 3) (oi := _) (v := ?_) (op_at rfl) (by kernel_rfl) (by kernel_rfl) (by kernel_rfl) (fun _ _ _ h => h) (Or.inl ⟨by rfl, ?_⟩) hHeld ?_
  rotate_left 1
  focus (intro W hSw; (try dsimp only at hSw); go_simp; (try (with_reducible rfl)))
  (try simp only [Act.put, List.setIfInBounds_toArray, List.set_cons_zero, List.set_cons_succ])
  refine wpAnyH_take (i := 4) (oi := _) (v := ?_) (op_at rfl) (by kernel_rfl) (by kernel_rfl) (by kernel_rfl) (fun _ _ _ h => h) (Or.inl ⟨by rfl, ?_⟩) hHeld ?_
  rotate_left 1
  focus (intro W hSw; (try dsimp only at hSw); go_simp; (try (with_reducible rfl)))
  (try simp only [Act.put, List.setIfInBounds_toArray, List.set_cons_zero, List.set_cons_succ])
  refine wpAnyH_take (i := 5) (oi := _) (v := undef) (op_at rfl) (by kernel_rfl) (by kernel_rfl) (by kernel_rfl) (fun _ _ _ h => h) (Or.inr ⟨by rfl, rfl⟩) hHeld ?_
  (try simp only [Act.put, List.setIfInBounds_toArray, List.set_cons_zero, List.set_cons_succ])
  refine wpAnyH_take (i := 6) (oi := _) (v := undef) (op_at rfl) (by kernel_rfl) (by kernel_rfl) (by kernel_rfl) (fun _ _ _ h => h) (Or.inr ⟨by rfl, rfl⟩) hHeld ?_
  (try simp only [Act.put, List.setIfInBounds_toArray, List.set_cons_zero, List.set_cons_succ])
  refine wpAnyH_take (i := 7) (oi := _) (v := undef) (op_at rfl) (by kernel_rfl) (by kernel_rfl) (by kernel_rfl) (fun _ _ _ h => h) (Or.inr ⟨by rfl, rfl⟩) hHeld ?_
  (try simp only [Act.put, List.setIfInBounds_toArray, List.set_cons_zero, List.set_cons_succ])
  refine wpAnyH_take (i := 8) (oi := _) (v := undef) (op_at rfl) (by kernel_rfl) (by kernel_rfl) (by kernel_rfl) (fun _ _ _ h => h) (Or.inr ⟨by rfl, rfl⟩) hHeld ?_
  (try simp only [Act.put, List.setIfInBounds_toArray, List.set_cons_zero, List.set_cons_succ])
  refine wpAnyH_take (i := 9) (oi := _) (v := undef) (op_at rfl) (by kernel_rfl) (by kernel_rfl) (by kernel_rfl) (fun _ _ _ h => h) (Or.inr ⟨by rfl, rfl⟩) hHeld ?_
  (try simp only [Act.put, List.setIfInBounds_toArray, List.set_cons_zero, List.set_cons_succ])
  refine wpAnyH_take (i := 10) (oi := _) (v := undef) (op_at rfl) (by kernel_rfl) (by kernel_rfl) (by kernel_rfl) (fun _ _ _ h => h) (Or.inr ⟨by rfl, rfl⟩) hHeld ?_
  (try simp only [Act.put, List.setIfInBounds_toArray, List.set_cons_zero, List.set_cons_succ])
  refine wpAnyH_take (i := 11) (oi := _) (v := undef) (op_at rfl) (by kernel_rfl) (by kernel_rfl) (by kernel_rfl) (fun _ _ _ h => h) (Or.inr ⟨by rfl, rfl⟩) hHeld ?_
  (try simp only [Act.put, List.setIfInBounds_toArray, List.set_cons_zero, List.set_cons_succ])
  refine wpAnyH_take (i := 12) (oi := _) (v := ?_) (op_at rfl) (by kernel_rfl) (by kernel_rfl) (by kernel_rfl) (fun _ _ _ h => h) (Or.inl ⟨by rfl, ?_⟩) hHeld ?_
  rotate_left 1
  focus (intro W hSw; (try dsimp only at hSw); go_simp; (try (with_reducible rfl)))
  (try simp only [Act.put, List.setIfInBounds_toArray, List.set_cons_zero, List.set_cons_succ])
  refine wpAnyH_take (i := 13) (oi := _) (v := ?_) (op_at rfl) (by kernel_rfl) (by kernel_rfl) (by kernel_rfl) (fun _ _ _ h => h) (Or.inl ⟨by rfl, ?_⟩) hHeld ?_
  rotate_left 1
  focus (intro W hSw; (try dsimp only at hSw); go_simp; (try (with_reducible rfl)))
  (try simp only [Act.put, List.setIfInBounds_toArray, List.set_cons_zero, List.set_cons_succ])
  refine wpAnyH_take (i := 14) (oi := _) (v := ?_) (op_at rfl) (by kernel_rfl) (by kernel_rfl) (by kernel_rfl) (fun _ _ _ h => h) (Or.inl ⟨by rfl, ?_⟩) hHeld ?_
  rotate_left 1
  focus (intro W hSw; (try dsimp only at hSw); go_simp; (try (with_reducible rfl)))
  (try simp only [Act.put, List.setIfInBounds_toArray, List.set_cons_zero, List.set_cons_succ])
  refine wpAnyH_ready (rs := [15]) (by kernel_rfl) (by simp) ?_
  refine AllReadyH.cons (o := _) (op_at rfl) (fun Kc hKc => ?_) AllReadyH.nil
  go_simp
  refine hKc.out _ _ ?_ ?_
  focus exact h4.cells
  clear hHeld
  intro hHeld
  clear hKc Kc
  (try simp only [Act.put, List.setIfInBounds_toArray, List.set_cons_zero, List.set_cons_succ])
  refine wpAnyH_done (by kernel_rfl) ?_ _
  clear e18 f18 h2
  generalize (W2.setCell ⟨m, 18, none⟩ (.bool false)).drew = W4 at *
  go_wp2_with fail
  refine wp_region_held_drew (S := (fun W' => (W'.cell? ⟨bb, 0, none⟩ = some (.int .i64 A) ∧ W'.cell? ⟨bb, 1, none⟩ = some (.int .i64 C') ∧ W'.cell? ⟨bb, 2, none⟩ = some (.int .i64 S) ∧ W'.cell? ⟨bb, 3, none⟩ = some (.int .i64 D) ∧ W'.cell? ⟨bb, 4, none⟩ = some (.int .i64 Y)) ∧ (W'.cell? ⟨m, 0, none⟩ = some (.int .i64 P) ∧ W'.cell? ⟨m, 1, none⟩ = some (.int .i64 T) ∧ W'.cell? ⟨m, 2, none⟩ = some (.int .i64 R) ∧ W'.cell? ⟨m, 3, none⟩ = some (.int .i64 whoo) ∧ W'.cell? ⟨m, 4, none⟩ = some (.int .i64 cyc) ∧ W'.cell? ⟨m, 5, none⟩ = some (.int .i64 pg)))) (by kernel_rfl) h4.drew.cells (fun hHeld => ?_)
  refine wpAnyH_take (i := 0) (oi := _) (v := ?_) (op_at rfl) (by kernel_rfl) (by kernel_rfl) (by kernel_rfl) (fun _ _ _ h => h) (Or.inl ⟨by rfl, ?_⟩) hHeld ?_
  rotate_left 1
  focus (intro W hSw; (try dsimp only at hSw); go_simp; (try (with_reducible rfl)))
  (try simp only [Act.put, List.setIfInBounds_toArray, List.set_cons_zero, List.set_cons_succ])
  refine wpAnyH_take (i := 1) (oi := _) (v := ?_) (op_at rfl) (by kernel_rfl) (by kernel_rfl) (by kernel_rfl) (fun _ _ _ h => h) (Or.inl ⟨by rfl, ?_⟩) hHeld ?_
  rotate_left 1
  focus (intro W hSw; (try dsimp only at hSw); go_simp; (try (with_reducible rfl)))
  (try simp only [Act.put, List.setIfInBounds_toArray, List.set_cons_zero, List.set_cons_succ])
  refine wpAnyH_take (i := 2) (oi := _) (v := ?_) (op_at rfl) (by kernel_rfl) (by kernel_rfl) (by kernel_rfl) (fun _ _ _ h => h) (Or.inl ⟨by rfl, ?_⟩) hHeld ?_
  rotate_left 1
  focus (intro W hSw; (try dsimp only at hSw); go_simp; (try (with_reducible rfl)))
  (try simp only [Act.put, List.setIfInBounds_toArray, List.set_cons_zero, List.set_cons_succ])
  refine wpAnyH_take (i := 3) (oi := _) (v := ?_) (op_at rfl) (by kernel_rfl) (by kernel_rfl) (by kernel_rfl) (fun _ _ _ h => h) (Or.inl ⟨by rfl, ?_⟩) hHeld ?_
  rotate_left 1
  focus (intro W hSw; (try dsimp only at hSw); go_simp; (try (with_reducible rfl)))
  (try simp only [Act.put, List.setIfInBounds_toArray, List.set_cons_zero, List.set_cons_succ])
  refine wpAnyH_take (i := 4) (oi := _) (v := ?_) (op_at rfl) (by kernel_rfl) (by kernel_rfl) (by kernel_rfl) (fun _ _ _ h => h) (Or.inl ⟨by rfl, ?_⟩) hHeld ?_
  rotate_left 1
  focus (intro W hSw; (try dsimp only at hSw); go_simp; (try (with_reducible rfl)))
  (try simp only [Act.put, List.setIfInBounds_toArray, List.set_cons_zero, List.set_cons_succ])
  refine wpAnyH_ready (rs := [5]) (by kernel_rfl) (by simp) ?_
  refine AllReadyH.cons (o := _) (op_at rfl) (fun Kc hKc => ?_) AllReadyH.nil
  go_simp
  go_at_call 73
  (with_reducible refine (DU.out _).mono ?_)
  rintro e w5 ⟨rfl, hb5⟩
  have h5 := h4.drew.grew hb5
  clear hb5
  go_wp2_with fail
  refine hKc.out _ _ ?_ ?_
  focus exact h5.cells
  clear hHeld
  intro hHeld
  clear hKc Kc
  (try simp only [Act.put, List.setIfInBounds_toArray, List.set_cons_zero, List.set_cons_succ])
  refine wpAnyH_take (i := 6) (oi := _) (v := ?_) (op_at rfl) (by kernel_rfl) (by kernel_rfl) (by kernel_rfl) (fun _ _ _ h => h) (Or.inl ⟨by rfl, ?_⟩) hHeld ?_
  rotate_left 1
  focus (intro W hSw; (try dsimp only at hSw); go_simp; (try (with_reducible rfl)))
  (try simp only [Act.put, List.setIfInBounds_toArray, List.set_cons_zero, List.set_cons_succ])
  refine wpAnyH_take (i := 7) (oi := _) (v := ?_) (op_at rfl) (by kernel_rfl) (by kernel_rfl) (by kernel_rfl) (fun _ _ _ h => h) (Or.inl ⟨by rfl, ?_⟩) hHeld ?_
  rotate_left 1
  focus (intro W hSw; (try dsimp only at hSw); go_simp; (try (with_reducible rfl)))
  (try simp only [Act.put, List.setIfInBounds_toArray, List.set_cons_zero, List.set_cons_succ])
  refine wpAnyH_take (i := 8) (oi := _) (v := undef) (op_at rfl) (by kernel_rfl) (by kernel_rfl) (by kernel_rfl) (fun _ _ _ h => h) (Or.inr ⟨by rfl, rfl⟩) hHeld ?_
  (try simp only [Act.put, List.setIfInBounds_toArray, List.set_cons_zero, List.set_cons_succ])
  refine wpAnyH_take (i := 9) (oi := _) (v := undef) (op_at rfl) (by kernel_rfl) (by kernel_rfl) (by kernel_rfl) (fun _ _ _ h => h) (Or.inr ⟨by rfl, rfl⟩) hHeld ?_
  (try simp only [Act.put, List.setIfInBounds_toArray, List.set_cons_zero, List.set_cons_succ])
  refine wpAnyH_take (i := 10) (oi := _) (v := undef) (op_at rfl) (by kernel_rfl) (by kernel_rfl) (by kernel_rfl) (fun _ _ _ h => h) (Or.inr ⟨by rfl, rfl⟩) hHeld ?_
  (try simp only [Act.put, List.setIfInBounds_toArray, List.set_cons_zero, List.set_cons_succ])
  refine wpAnyH_take (i := 11) (oi := _) (v := ?_) (op_at rfl) (by kernel_rfl) (by kernel_rfl) (by kernel_rfl) (fun _ _ _ h => h) (Or.inl ⟨by rfl, ?_⟩) hHeld ?_
  rotate_left 1
  focus (intro W hSw; (try dsimp only at hSw); go_simp; (try (with_reducible rfl)))
  (try simp only [Act.put, List.setIfInBounds_toArray, List.set_cons_zero, List.set_cons_succ])
  refine wpAnyH_done (by kernel_rfl) ?_ _
  go_wp2
  refine bodyPost_ret (results_none rfl _ _ _) rfl ?_
  exact ⟨⟨_, rfl⟩, h5.ma⟩
set_option maxRecDepth 100000 in
set_option maxHeartbeats 4000000 in
theorem swEx_bey (h : SwS w0 B a c p m σ cs xs n K who o w) (hr : MaR p m K) (z : Int) (hS : (S == 2) = false) (hc : 0 ≤ C' ∧ C' ≤ 15) (hp : 0 ≤ σ.pg ∧ σ.pg ≤ 31)
    (hD : ∀ W, Calls Tryz.prog 72 #[.int .u64 z] W fun e w' => e = .returned (.tuple #[.agg #[.int .i64 A, .int .i64 C', .int .i64 S, .int .i64 D, .int .i64 Y], .int .i64 0]) ∧ Below W.heap.size W w')
    (hd : dueB A C' S D Y σ.cyc = true) (hb : beyB σ.P σ.pg A C' = true) :
    Calls Tryz.prog 47 #[.pointer (some ⟨m, 0, none⟩), .int .u64 z] w fun e w' => (∃ v, e = .returned v) ∧ SwS w0 B a c p m { σ with nx := 0, bl := false } cs xs n K who o w' := by
  obtain ⟨P, T, R, whoo, cyc, pg, nx, seen, k, c', s, oo, y, ma, al, kp, tl, sw, bl⟩ := σ
  dsimp only at *
  have f6 := h.mach.frozen 6
  have n6 : w.cell? ⟨m, 6, none⟩ = some (.int .i64 nx) := h.mach.val 6 rfl
  have C := Lib.hid hD
  have DU := Lib.hid (fun W => due_any A C' S D Y cyc W)
  rw [hd] at DU
  have BE := Lib.hid (fun W m (h : Blk W m (Sw.V ⟨P, T, R, whoo, cyc, pg, 0, seen, k, c', s, oo, y, ma, al, kp, tl, sw, false⟩) 85) => swBeyond h A C' S D Y hc hp)
  dsimp only at BE
  rw [hb] at BE
  have h1 : SwS w0 B a c p m ⟨P, T, R, whoo, cyc, pg, 0, seen, k, c', s, oo, y, ma, al, kp, tl, sw, bl⟩ cs xs n K who o (w.setCell ⟨m, 6, none⟩ (.int .i64 0)) := h.set hr 6 _
  clear h hD hd hb
  go_enter Tryz.func47, Tryz.ntmps47
  go_upto_region 1 with fail
  generalize w.setCell ⟨m, 6, none⟩ (.int .i64 0) = W1 at *
  go_wp2_with fail
  refine (C.out _).mono ?_; rintro e w1 ⟨rfl, hb⟩
  have h2 := ExS.new (A := A) (C' := C') (S := S) (D := D) (Y := Y) (h1.grew hb)
  clear h1 hb f6 n6
  go_upto_region 2 with fail
  generalize w1.alloc (.cells #[.int .i64 A, .int .i64 C', .int .i64 S, .int .i64 D, .int .i64 Y] 83) = W2 at *
  generalize w1.heap.size = bb at *
  obtain ⟨⟨x0, x1, x2, x3, x4⟩, d0, d1, d2, d3, d4, d5⟩ := h2.cells
  dsimp only at d0 d1 d2 d3 d4 d5
  clear x0 x1 x2 x3 x4 d0 d1 d2 d3 d4 d5
  have e18 : W2.drew.cell? ⟨m, 18, none⟩ = some (.bool bl) := h2.ma.mach.val 18 rfl
  have f18 : W2.drew.frozen? ⟨m, 18, none⟩ = false := h2.ma.mach.frozen 18
  have h4 := (h2.set hr 18 (.bool false) ⟨P, T, R, whoo, cyc, pg, 0, seen, k, c', s, oo, y, ma, al, kp, tl, sw, false⟩ rfl).drew
  go_wp2_with fail
  refine wp_region_held_drew (S := (fun W' => (W'.cell? ⟨bb, 0, none⟩ = some (.int .i64 A) ∧ W'.cell? ⟨bb, 1, none⟩ = some (.int .i64 C') ∧ W'.cell? ⟨bb, 2, none⟩ = some (.int .i64 S) ∧ W'.cell? ⟨bb, 3, none⟩ = some (.int .i64 D) ∧ W'.cell? ⟨bb, 4, none⟩ = some (.int .i64 Y)) ∧ (W'.cell? ⟨m, 0, none⟩ = some (.int .i64 P) ∧ W'.cell? ⟨m, 1, none⟩ = some (.int .i64 T) ∧ W'.cell? ⟨m, 2, none⟩ = some (.int .i64 R) ∧ W'.cell? ⟨m, 3, none⟩ = some (.int .i64 whoo) ∧ W'.cell? ⟨m, 4, none⟩ = some (.int .i64 cyc) ∧ W'.cell? ⟨m, 5, none⟩ = some (.int .i64 pg)))) (by kernel_rfl) h2.drew.cells (fun hHeld => ?_)
  refine wpAnyH_take (i := 0) (oi := _) (v := ?_) (op_at rfl) (by kernel_rfl) (by kernel_rfl) (by kernel_rfl) (fun _ _ _ h => h) (Or.inl ⟨by rfl, ?_⟩) hHeld ?_
  rotate_left 1
  focus (intro W hSw; (try dsimp only at hSw); go_simp; (try (with_reducible rfl)))
  (try simp only [Act.put, List.setIfInBounds_toArray, List.set_cons_zero, List.set_cons_succ])
  refine wpAnyH_take (i := 1) (oi := _) (v := ?_) (op_at rfl) (by kernel_rfl) (by kernel_rfl) (by kernel_rfl) (fun _ _ _ h => h) (Or.inl ⟨by rfl, ?_⟩) hHeld ?_
  rotate_left 1
  focus (intro W hSw; (try dsimp only at hSw); go_simp; (try (with_reducible rfl)))
  (try simp only [Act.put, List.setIfInBounds_toArray, List.set_cons_zero, List.set_cons_succ])
  refine wpAnyH_take (i := 2) (oi := _) (v := ?_) (op_at rfl) (by kernel_rfl) (by kernel_rfl) (by kernel_rfl) (fun _ _ _ h => h) (Or.inl ⟨by rfl, ?_⟩) hHeld ?_
  rotate_left 1
  focus (intro W hSw; (try dsimp only at hSw); go_simp; (try (with_reducible rfl)))
  (try simp only [Act.put, List.setIfInBounds_toArray, List.set_cons_zero, List.set_cons_succ])
  refine wpAnyH_take (i := 3) (oi := _) (v := ?_) (op_at rfl) (by kernel_rfl) (by kernel_rfl) (by kernel_rfl) (fun _ _ _ h => h) (Or.inl ⟨by rfl, ?_⟩) hHeld ?_
  rotate_left 1
  focus (intro W hSw; (try dsimp only at hSw); go_simp; (try (with_reducible rfl)))
  (try simp only [Act.put, List.setIfInBounds_toArray, List.set_cons_zero, List.set_cons_succ])
  refine wpAnyH_take (i := 4) (oi := _) (v := ?_) (op_at rfl) (by kernel_rfl) (by kernel_rfl) (by kernel_rfl) (fun _ _ _ h => h) (Or.inl ⟨by rfl, ?_⟩) hHeld ?_
  rotate_left 1
  focus (intro W hSw; (try dsimp only at hSw); go_simp; (try (with_reducible rfl)))
  (try simp only [Act.put, List.setIfInBounds_toArray, List.set_cons_zero, List.set_cons_succ])
  refine wpAnyH_take (i := 5) (oi := _) (v := undef) (op_at rfl) (by kernel_rfl) (by kernel_rfl) (by kernel_rfl) (fun _ _ _ h => h) (Or.inr ⟨by rfl, rfl⟩) hHeld ?_
  (try simp only [Act.put, List.setIfInBounds_toArray, List.set_cons_zero, List.set_cons_succ])
  refine wpAnyH_take (i := 6) (oi := _) (v := undef) (op_at rfl) (by kernel_rfl) (by kernel_rfl) (by kernel_rfl) (fun _ _ _ h => h) (Or.inr ⟨by rfl, rfl⟩) hHeld ?_
  (try simp only [Act.put, List.setIfInBounds_toArray, List.set_cons_zero, List.set_cons_succ])
  refine wpAnyH_take (i := 7) (oi := _) (v := undef) (op_at rfl) (by kernel_rfl) (by kernel_rfl) (by kernel_rfl) (fun _ _ _ h => h) (Or.inr ⟨by rfl, rfl⟩) hHeld ?_
  (try simp only [Act.put, List.setIfInBounds_toArray, List.set_cons_zero, List.set_cons_succ])
  refine wpAnyH_take (i := 8) (oi := _) (v := undef) (op_at rfl) (by kernel_rfl) (by kernel_rfl) (by kernel_rfl) (fun _ _ _ h => h) (Or.inr ⟨by rfl, rfl⟩) hHeld ?_
  (try simp only [Act.put, List.setIfInBounds_toArray, List.set_cons_zero, List.set_cons_succ])
  refine wpAnyH_take (i := 9) (oi := _) (v := undef) (op_at rfl) (by kernel_rfl) (by kernel_rfl) (by kernel_rfl) (fun _ _ _ h => h) (Or.inr ⟨by rfl, rfl⟩) hHeld ?_
  (try simp only [Act.put, List.setIfInBounds_toArray, List.set_cons_zero, List.set_cons_succ])
  refine wpAnyH_take (i := 10) (oi := _) (v := undef) (op_at rfl) (by kernel_rfl) (by kernel_rfl) (by kernel_rfl) (fun _ _ _ h => h) (Or.inr ⟨by rfl, rfl⟩) hHeld ?_
  (try simp only [Act.put, List.setIfInBounds_toArray, List.set_cons_zero, List.set_cons_succ])
  refine wpAnyH_take (i := 11) (oi := _) (v := undef) (op_at rfl) (by kernel_rfl) (by kernel_rfl) (by kernel_rfl) (fun _ _ _ h => h) (Or.inr ⟨by rfl, rfl⟩) hHeld ?_
  (try simp only [Act.put, List.setIfInBounds_toArray, List.set_cons_zero, List.set_cons_succ])
  refine wpAnyH_take (i := 12) (oi := _) (v := ?_) (op_at rfl) (by kernel_rfl) (by kernel_rfl) (by kernel_rfl) (fun _ _ _ h => h) (Or.inl ⟨by rfl, ?_⟩) hHeld ?_
  rotate_left 1
  focus (intro W hSw; (try dsimp only at hSw); go_simp; (try (with_reducible rfl)))
  (try simp only [Act.put, List.setIfInBounds_toArray, List.set_cons_zero, List.set_cons_succ])
  refine wpAnyH_take (i := 13) (oi := _) (v := ?_) (op_at rfl) (by kernel_rfl) (by kernel_rfl) (by kernel_rfl) (fun _ _ _ h => h) (Or.inl ⟨by rfl, ?_⟩) hHeld ?_
  rotate_left 1
  focus (intro W hSw; (try dsimp only at hSw); go_simp; (try (with_reducible rfl)))
  (try simp only [Act.put, List.setIfInBounds_toArray, List.set_cons_zero, List.set_cons_succ])
  refine wpAnyH_take (i := 14) (oi := _) (v := ?_) (op_at rfl) (by kernel_rfl) (by kernel_rfl) (by kernel_rfl) (fun _ _ _ h => h) (Or.inl ⟨by rfl, ?_⟩) hHeld ?_
  rotate_left 1
  focus (intro W hSw; (try dsimp only at hSw); go_simp; (try (with_reducible rfl)))
  (try simp only [Act.put, List.setIfInBounds_toArray, List.set_cons_zero, List.set_cons_succ])
  refine wpAnyH_ready (rs := [15]) (by kernel_rfl) (by simp) ?_
  refine AllReadyH.cons (o := _) (op_at rfl) (fun Kc hKc => ?_) AllReadyH.nil
  go_simp
  refine hKc.out _ _ ?_ ?_
  focus exact h4.cells
  clear hHeld
  intro hHeld
  clear hKc Kc
  (try simp only [Act.put, List.setIfInBounds_toArray, List.set_cons_zero, List.set_cons_succ])
  refine wpAnyH_done (by kernel_rfl) ?_ _
  clear e18 f18 h2
  generalize (W2.setCell ⟨m, 18, none⟩ (.bool false)).drew = W4 at *
  go_wp2_with fail
  refine wp_region_held_drew (S := (fun W' => (W'.cell? ⟨bb, 0, none⟩ = some (.int .i64 A) ∧ W'.cell? ⟨bb, 1, none⟩ = some (.int .i64 C') ∧ W'.cell? ⟨bb, 2, none⟩ = some (.int .i64 S) ∧ W'.cell? ⟨bb, 3, none⟩ = some (.int .i64 D) ∧ W'.cell? ⟨bb, 4, none⟩ = some (.int .i64 Y)) ∧ (W'.cell? ⟨m, 0, none⟩ = some (.int .i64 P) ∧ W'.cell? ⟨m, 1, none⟩ = some (.int .i64 T) ∧ W'.cell? ⟨m, 2, none⟩ = some (.int .i64 R) ∧ W'.cell? ⟨m, 3, none⟩ = some (.int .i64 whoo) ∧ W'.cell? ⟨m, 4, none⟩ = some (.int .i64 cyc) ∧ W'.cell? ⟨m, 5, none⟩ = some (.int .i64 pg)))) (by kernel_rfl) h4.drew.cells (fun hHeld => ?_)
  refine wpAnyH_take (i := 0) (oi := _) (v := ?_) (op_at rfl) (by kernel_rfl) (by kernel_rfl) (by kernel_rfl) (fun _ _ _ h => h) (Or.inl ⟨by rfl, ?_⟩) hHeld ?_
  rotate_left 1
  focus (intro W hSw; (try dsimp only at hSw); go_simp; (try (with_reducible rfl)))
  (try simp only [Act.put, List.setIfInBounds_toArray, List.set_cons_zero, List.set_cons_succ])
  refine wpAnyH_take (i := 1) (oi := _) (v := ?_) (op_at rfl) (by kernel_rfl) (by kernel_rfl) (by kernel_rfl) (fun _ _ _ h => h) (Or.inl ⟨by rfl, ?_⟩) hHeld ?_
  rotate_left 1
  focus (intro W hSw; (try dsimp only at hSw); go_simp; (try (with_reducible rfl)))
  (try simp only [Act.put, List.setIfInBounds_toArray, List.set_cons_zero, List.set_cons_succ])
  refine wpAnyH_take (i := 2) (oi := _) (v := ?_) (op_at rfl) (by kernel_rfl) (by kernel_rfl) (by kernel_rfl) (fun _ _ _ h => h) (Or.inl ⟨by rfl, ?_⟩) hHeld ?_
  rotate_left 1
  focus (intro W hSw; (try dsimp only at hSw); go_simp; (try (with_reducible rfl)))
  (try simp only [Act.put, List.setIfInBounds_toArray, List.set_cons_zero, List.set_cons_succ])
  refine wpAnyH_take (i := 3) (oi := _) (v := ?_) (op_at rfl) (by kernel_rfl) (by kernel_rfl) (by kernel_rfl) (fun _ _ _ h => h) (Or.inl ⟨by rfl, ?_⟩) hHeld ?_
  rotate_left 1
  focus (intro W hSw; (try dsimp only at hSw); go_simp; (try (with_reducible rfl)))
  (try simp only [Act.put, List.setIfInBounds_toArray, List.set_cons_zero, List.set_cons_succ])
  refine wpAnyH_take (i := 4) (oi := _) (v := ?_) (op_at rfl) (by kernel_rfl) (by kernel_rfl) (by kernel_rfl) (fun _ _ _ h => h) (Or.inl ⟨by rfl, ?_⟩) hHeld ?_
  rotate_left 1
  focus (intro W hSw; (try dsimp only at hSw); go_simp; (try (with_reducible rfl)))
  (try simp only [Act.put, List.setIfInBounds_toArray, List.set_cons_zero, List.set_cons_succ])
  refine wpAnyH_ready (rs := [5]) (by kernel_rfl) (by simp) ?_
  refine AllReadyH.cons (o := _) (op_at rfl) (fun Kc hKc => ?_) AllReadyH.nil
  go_simp
  go_at_call 73
  (with_reducible refine (DU.out _).mono ?_)
  rintro e w5 ⟨rfl, hb5⟩
  have h5 := h4.drew.grew hb5
  clear hb5
  go_wp2_with fail
  refine hKc.out _ _ ?_ ?_
  focus exact h5.cells
  clear hHeld
  intro hHeld
  clear hKc Kc
  (try simp only [Act.put, List.setIfInBounds_toArray, List.set_cons_zero, List.set_cons_succ])
  refine wpAnyH_take (i := 6) (oi := _) (v := ?_) (op_at rfl) (by kernel_rfl) (by kernel_rfl) (by kernel_rfl) (fun _ _ _ h => h) (Or.inl ⟨by rfl, ?_⟩) hHeld ?_
  rotate_left 1
  focus (intro W hSw; (try dsimp only at hSw); go_simp; (try (with_reducible rfl)))
  (try simp only [Act.put, List.setIfInBounds_toArray, List.set_cons_zero, List.set_cons_succ])
  refine wpAnyH_take (i := 7) (oi := _) (v := ?_) (op_at rfl) (by kernel_rfl) (by kernel_rfl) (by kernel_rfl) (fun _ _ _ h => h) (Or.inl ⟨by rfl, ?_⟩) hHeld ?_
  rotate_left 1
  focus (intro W hSw; (try dsimp only at hSw); go_simp; (try (with_reducible rfl)))
  (try simp only [Act.put, List.setIfInBounds_toArray, List.set_cons_zero, List.set_cons_succ])
  refine wpAnyH_take (i := 8) (oi := _) (v := ?_) (op_at rfl) (by kernel_rfl) (by kernel_rfl) (by kernel_rfl) (fun _ _ _ h => h) (Or.inl ⟨by rfl, ?_⟩) hHeld ?_
  rotate_left 1
  focus (intro W hSw; (try dsimp only at hSw); go_simp; (try (with_reducible rfl)))
  (try simp only [Act.put, List.setIfInBounds_toArray, List.set_cons_zero, List.set_cons_succ])
  refine wpAnyH_take (i := 9) (oi := _) (v := ?_) (op_at rfl) (by kernel_rfl) (by kernel_rfl) (by kernel_rfl) (fun _ _ _ h => h) (Or.inl ⟨by rfl, ?_⟩) hHeld ?_
  rotate_left 1
  focus (intro W hSw; (try dsimp only at hSw); go_simp; (try (with_reducible rfl)))
  (try simp only [Act.put, List.setIfInBounds_toArray, List.set_cons_zero, List.set_cons_succ])
  refine wpAnyH_ready (rs := [10]) (by kernel_rfl) (by simp) ?_
  refine AllReadyH.cons (o := _) (op_at rfl) (fun Kc hKc => ?_) AllReadyH.nil
  go_simp
  go_at_call 74
  (with_reducible refine (BE.out _ _ h5.ma.mach).mono ?_)
  rintro e w6 ⟨rfl, hb6⟩
  have h6 := h5.grew hb6
  clear hb6
  go_wp2_with fail
  refine hKc.out _ _ ?_ ?_
  focus exact h6.cells
  clear hHeld
  intro hHeld
  clear hKc Kc
  (try simp only [Act.put, List.setIfInBounds_toArray, List.set_cons_zero, List.set_cons_succ])
  refine wpAnyH_take (i := 11) (oi := _) (v := ?_) (op_at rfl) (by kernel_rfl) (by kernel_rfl) (by kernel_rfl) (fun _ _ _ h => h) (Or.inl ⟨by rfl, ?_⟩) hHeld ?_
  rotate_left 1
  focus (intro W hSw; (try dsimp only at hSw); go_simp; (try (with_reducible rfl)))
  (try simp only [Act.put, List.setIfInBounds_toArray, List.set_cons_zero, List.set_cons_succ])
  refine wpAnyH_done (by kernel_rfl) ?_ _
  go_wp2
  refine bodyPost_ret (results_none rfl _ _ _) rfl ?_
  exact ⟨⟨_, rfl⟩, h6.ma⟩
set_option maxRecDepth 100000 in
set_option maxHeartbeats 4000000 in
theorem swEx_due (h : SwS w0 B a c p m σ cs xs n K who o w) (hr : MaR p m K) (z : Int) (hS : (S == 2) = false) (hc : 0 ≤ C' ∧ C' ≤ 15) (hp : 0 ≤ σ.pg ∧ σ.pg ≤ 31)
    (hD : ∀ W, Calls Tryz.prog 72 #[.int .u64 z] W fun e w' => e = .returned (.tuple #[.agg #[.int .i64 A, .int .i64 C', .int .i64 S, .int .i64 D, .int .i64 Y], .int .i64 0]) ∧ Below W.heap.size W w')
    (hd : dueB A C' S D Y σ.cyc = true) (hb : beyB σ.P σ.pg A C' = false) :
    Calls Tryz.prog 47 #[.pointer (some ⟨m, 0, none⟩), .int .u64 z] w fun e w' => (∃ v, e = .returned v) ∧ SwS w0 B a c p m { σ with nx := 2, bl := false, seen := z, k := A, c := C', s := S, o := D, y := Y } cs xs n K who o w' := by
  obtain ⟨P, T, R, whoo, cyc, pg, nx, seen, k, c', s, oo, y, ma, al, kp, tl, sw, bl⟩ := σ
  dsimp only at *
  have f6 := h.mach.frozen 6
  have n6 : w.cell? ⟨m, 6, none⟩ = some (.int .i64 nx) := h.mach.val 6 rfl
  have C := Lib.hid hD
  have DU := Lib.hid (fun W => due_any A C' S D Y cyc W)
  rw [hd] at DU
  have BE := Lib.hid (fun W m (h : Blk W m (Sw.V ⟨P, T, R, whoo, cyc, pg, 0, seen, k, c', s, oo, y, ma, al, kp, tl, sw, false⟩) 85) => swBeyond h A C' S D Y hc hp)
  dsimp only at BE
  rw [hb] at BE
  have h1 : SwS w0 B a c p m ⟨P, T, R, whoo, cyc, pg, 0, seen, k, c', s, oo, y, ma, al, kp, tl, sw, bl⟩ cs xs n K who o (w.setCell ⟨m, 6, none⟩ (.int .i64 0)) := h.set hr 6 _
  clear h hD hd hb
  go_enter Tryz.func47, Tryz.ntmps47
  go_upto_region 1 with fail
  generalize w.setCell ⟨m, 6, none⟩ (.int .i64 0) = W1 at *
  go_wp2_with fail
  refine (C.out _).mono ?_; rintro e w1 ⟨rfl, hb⟩
  have h2 := ExS.new (A := A) (C' := C') (S := S) (D := D) (Y := Y) (h1.grew hb)
  clear h1 hb f6 n6
  go_upto_region 2 with fail
  generalize w1.alloc (.cells #[.int .i64 A, .int .i64 C', .int .i64 S, .int .i64 D, .int .i64 Y] 83) = W2 at *
  generalize w1.heap.size = bb at *
  obtain ⟨⟨x0, x1, x2, x3, x4⟩, d0, d1, d2, d3, d4, d5⟩ := h2.cells
  dsimp only at d0 d1 d2 d3 d4 d5
  clear x0 x1 x2 x3 x4 d0 d1 d2 d3 d4 d5
  have e18 : W2.drew.cell? ⟨m, 18, none⟩ = some (.bool bl) := h2.ma.mach.val 18 rfl
  have f18 : W2.drew.frozen? ⟨m, 18, none⟩ = false := h2.ma.mach.frozen 18
  have h4 := (h2.set hr 18 (.bool false) ⟨P, T, R, whoo, cyc, pg, 0, seen, k, c', s, oo, y, ma, al, kp, tl, sw, false⟩ rfl).drew
  go_wp2_with fail
  refine wp_region_held_drew (S := (fun W' => (W'.cell? ⟨bb, 0, none⟩ = some (.int .i64 A) ∧ W'.cell? ⟨bb, 1, none⟩ = some (.int .i64 C') ∧ W'.cell? ⟨bb, 2, none⟩ = some (.int .i64 S) ∧ W'.cell? ⟨bb, 3, none⟩ = some (.int .i64 D) ∧ W'.cell? ⟨bb, 4, none⟩ = some (.int .i64 Y)) ∧ (W'.cell? ⟨m, 0, none⟩ = some (.int .i64 P) ∧ W'.cell? ⟨m, 1, none⟩ = some (.int .i64 T) ∧ W'.cell? ⟨m, 2, none⟩ = some (.int .i64 R) ∧ W'.cell? ⟨m, 3, none⟩ = some (.int .i64 whoo) ∧ W'.cell? ⟨m, 4, none⟩ = some (.int .i64 cyc) ∧ W'.cell? ⟨m, 5, none⟩ = some (.int .i64 pg)))) (by kernel_rfl) h2.drew.cells (fun hHeld => ?_)
  refine wpAnyH_take (i := 0) (oi := _) (v := ?_) (op_at rfl) (by kernel_rfl) (by kernel_rfl) (by kernel_rfl) (fun _ _ _ h => h) (Or.inl ⟨by rfl, ?_⟩) hHeld ?_
  rotate_left 1
  focus (intro W hSw; (try dsimp only at hSw); go_simp; (try (with_reducible rfl)))
  (try simp only [Act.put, List.setIfInBounds_toArray, List.set_cons_zero, List.set_cons_succ])
  refine wpAnyH_take (i := 1) (oi := _) (v := ?_) (op_at rfl) (by kernel_rfl) (by kernel_rfl) (by kernel_rfl) (fun _ _ _ h => h) (Or.inl ⟨by rfl, ?_⟩) hHeld ?_
  rotate_left 1
  focus (intro W hSw; (try dsimp only at hSw); go_simp; (try (with_reducible rfl)))
  (try simp only [Act.put, List.setIfInBounds_toArray, List.set_cons_zero, List.set_cons_succ])
  refine wpAnyH_take (i := 2) (oi := _) (v := ?_) (op_at rfl) (by kernel_rfl) (by kernel_rfl) (by kernel_rfl) (fun _ _ _ h => h) (Or.inl ⟨by rfl, ?_⟩) hHeld ?_
  rotate_left 1
  focus (intro W hSw; (try dsimp only at hSw); go_simp; (try (with_reducible rfl)))
  (try simp only [Act.put, List.setIfInBounds_toArray, List.set_cons_zero, List.set_cons_succ])
  refine wpAnyH_take (i := 3) (oi := _) (v := ?_) (op_at rfl) (by kernel_rfl) (by kernel_rfl) (by kernel_rfl) (fun _ _ _ h => h) (Or.inl ⟨by rfl, ?_⟩) hHeld ?_
  rotate_left 1
  focus (intro W hSw; (try dsimp only at hSw); go_simp; (try (with_reducible rfl)))
  (try simp only [Act.put, List.setIfInBounds_toArray, List.set_cons_zero, List.set_cons_succ])
  refine wpAnyH_take (i := 4) (oi := _) (v := ?_) (op_at rfl) (by kernel_rfl) (by kernel_rfl) (by kernel_rfl) (fun _ _ _ h => h) (Or.inl ⟨by rfl, ?_⟩) hHeld ?_
  rotate_left 1
  focus (intro W hSw; (try dsimp only at hSw); go_simp; (try (with_reducible rfl)))
  (try simp only [Act.put, List.setIfInBounds_toArray, List.set_cons_zero, List.set_cons_succ])
  refine wpAnyH_take (i := 5) (oi := _) (v := undef) (op_at rfl) (by kernel_rfl) (by kernel_rfl) (by kernel_rfl) (fun _ _ _ h => h) (Or.inr ⟨by rfl, rfl⟩) hHeld ?_
  (try simp only [Act.put, List.setIfInBounds_toArray, List.set_cons_zero, List.set_cons_succ])
  refine wpAnyH_take (i := 6) (oi := _) (v := undef) (op_at rfl) (by kernel_rfl) (by kernel_rfl) (by kernel_rfl) (fun _ _ _ h => h) (Or.inr ⟨by rfl, rfl⟩) hHeld ?_
  (try simp only [Act.put, List.setIfInBounds_toArray, List.set_cons_zero, List.set_cons_succ])
  refine wpAnyH_take (i := 7) (oi := _) (v := undef) (op_at rfl) (by kernel_rfl) (by kernel_rfl) (by kernel_rfl) (fun _ _ _ h => h) (Or.inr ⟨by rfl, rfl⟩) hHeld ?_
  (try simp only [Act.put, List.setIfInBounds_toArray, List.set_cons_zero, List.set_cons_succ])
  refine wpAnyH_take (i := 8) (oi := _) (v := undef) (op_at rfl) (by kernel_rfl) (by kernel_rfl) (by kernel_rfl) (fun _ _ _ h => h) (Or.inr ⟨by rfl, rfl⟩) hHeld ?_
  (try simp only [Act.put, List.setIfInBounds_toArray, List.set_cons_zero, List.set_cons_succ])
  refine wpAnyH_take (i := 9) (oi := _) (v := undef) (op_at rfl) (by kernel_rfl) (by kernel_rfl) (by kernel_rfl) (fun _ _ _ h => h) (Or.inr ⟨by rfl, rfl⟩) hHeld ?_
  (try simp only [Act.put, List.setIfInBounds_toArray, List.set_cons_zero, List.set_cons_succ])
  refine wpAnyH_take (i := 10) (oi := _) (v := undef) (op_at rfl) (by kernel_rfl) (by kernel_rfl) (by kernel_rfl) (fun _ _ _ h => h) (Or.inr ⟨by rfl, rfl⟩) hHeld ?_
  (try simp only [Act.put, List.setIfInBounds_toArray, List.set_cons_zero, List.set_cons_succ])
  refine wpAnyH_take (i := 11) (oi := _) (v := undef) (op_at rfl) (by kernel_rfl) (by kernel_rfl) (by kernel_rfl) (fun _ _ _ h => h) (Or.inr ⟨by rfl, rfl⟩) hHeld ?_
  (try simp only [Act.put, List.setIfInBounds_toArray, List.set_cons_zero, List.set_cons_succ])
  refine wpAnyH_take (i := 12) (oi := _) (v := ?_) (op_at rfl) (by kernel_rfl) (by kernel_rfl) (by kernel_rfl) (fun _ _ _ h => h) (Or.inl ⟨by rfl, ?_⟩) hHeld ?_
  rotate_left 1
  focus (intro W hSw; (try dsimp only at hSw); go_simp; (try (with_reducible rfl)))
  (try simp only [Act.put, List.setIfInBounds_toArray, List.set_cons_zero, List.set_cons_succ])
  refine wpAnyH_take (i := 13) (oi := _) (v := ?_) (op_at rfl) (by kernel_rfl) (by kernel_rfl) (by kernel_rfl) (fun _ _ _ h => h) (Or.inl ⟨by rfl, ?_⟩) hHeld ?_
  rotate_left 1
  focus (intro W hSw; (try dsimp only at hSw); go_simp; (try (with_reducible rfl)))
  (try simp only [Act.put, List.setIfInBounds_toArray, List.set_cons_zero, List.set_cons_succ])
  refine wpAnyH_take (i := 14) (oi := _) (v := ?_) (op_at rfl) (by kernel_rfl) (by kernel_rfl) (by kernel_rfl) (fun _ _ _ h => h) (Or.inl ⟨by rfl, ?_⟩) hHeld ?_
  rotate_left 1
  focus (intro W hSw; (try dsimp only at hSw); go_simp; (try (with_reducible rfl)))
  (try simp only [Act.put, List.setIfInBounds_toArray, List.set_cons_zero, List.set_cons_succ])
  refine wpAnyH_ready (rs := [15]) (by kernel_rfl) (by simp) ?_
  refine AllReadyH.cons (o := _) (op_at rfl) (fun Kc hKc => ?_) AllReadyH.nil
  go_simp
  refine hKc.out _ _ ?_ ?_
  focus exact h4.cells
  clear hHeld
  intro hHeld
  clear hKc Kc
  (try simp only [Act.put, List.setIfInBounds_toArray, List.set_cons_zero, List.set_cons_succ])
  refine wpAnyH_done (by kernel_rfl) ?_ _
  clear e18 f18 h2
  generalize (W2.setCell ⟨m, 18, none⟩ (.bool false)).drew = W4 at *
  go_wp2_with fail
  refine wp_region_held_drew (S := (fun W' => (W'.cell? ⟨bb, 0, none⟩ = some (.int .i64 A) ∧ W'.cell? ⟨bb, 1, none⟩ = some (.int .i64 C') ∧ W'.cell? ⟨bb, 2, none⟩ = some (.int .i64 S) ∧ W'.cell? ⟨bb, 3, none⟩ = some (.int .i64 D) ∧ W'.cell? ⟨bb, 4, none⟩ = some (.int .i64 Y)) ∧ (W'.cell? ⟨m, 0, none⟩ = some (.int .i64 P) ∧ W'.cell? ⟨m, 1, none⟩ = some (.int .i64 T) ∧ W'.cell? ⟨m, 2, none⟩ = some (.int .i64 R) ∧ W'.cell? ⟨m, 3, none⟩ = some (.int .i64 whoo) ∧ W'.cell? ⟨m, 4, none⟩ = some (.int .i64 cyc) ∧ W'.cell? ⟨m, 5, none⟩ = some (.int .i64 pg)))) (by kernel_rfl) h4.drew.cells (fun hHeld => ?_)
  refine wpAnyH_take (i := 0) (oi := _) (v := ?_) (op_at rfl) (by kernel_rfl) (by kernel_rfl) (by kernel_rfl) (fun _ _ _ h => h) (Or.inl ⟨by rfl, ?_⟩) hHeld ?_
  rotate_left 1
  focus (intro W hSw; (try dsimp only at hSw); go_simp; (try (with_reducible rfl)))
  (try simp only [Act.put, List.setIfInBounds_toArray, List.set_cons_zero, List.set_cons_succ])
  refine wpAnyH_take (i := 1) (oi := _) (v := ?_) (op_at rfl) (by kernel_rfl) (by kernel_rfl) (by kernel_rfl) (fun _ _ _ h => h) (Or.inl ⟨by rfl, ?_⟩) hHeld ?_
  rotate_left 1
  focus (intro W hSw; (try dsimp only at hSw); go_simp; (try (with_reducible rfl)))
  (try simp only [Act.put, List.setIfInBounds_toArray, List.set_cons_zero, List.set_cons_succ])
  refine wpAnyH_take (i := 2) (oi := _) (v := ?_) (op_at rfl) (by kernel_rfl) (by kernel_rfl) (by kernel_rfl) (fun _ _ _ h => h) (Or.inl ⟨by rfl, ?_⟩) hHeld ?_
  rotate_left 1
  focus (intro W hSw; (try dsimp only at hSw); go_simp; (try (with_reducible rfl)))
  (try simp only [Act.put, List.setIfInBounds_toArray, List.set_cons_zero, List.set_cons_succ])
  refine wpAnyH_take (i := 3) (oi := _) (v := ?_) (op_at rfl) (by kernel_rfl) (by kernel_rfl) (by kernel_rfl) (fun _ _ _ h => h) (Or.inl ⟨by rfl, ?_⟩) hHeld ?_
  rotate_left 1
  focus (intro W hSw; (try dsimp only at hSw); go_simp; (try (with_reducible rfl)))
  (try simp only [Act.put, List.setIfInBounds_toArray, List.set_cons_zero, List.set_cons_succ])
  refine wpAnyH_take (i := 4) (oi := _) (v := ?_) (op_at rfl) (by kernel_rfl) (by kernel_rfl) (by kernel_rfl) (fun _ _ _ h => h) (Or.inl ⟨by rfl, ?_⟩) hHeld ?_
  rotate_left 1
  focus (intro W hSw; (try dsimp only at hSw); go_simp; (try (with_reducible rfl)))
  (try simp only [Act.put, List.setIfInBounds_toArray, List.set_cons_zero, List.set_cons_succ])
  refine wpAnyH_ready (rs := [5]) (by kernel_rfl) (by simp) ?_
  refine AllReadyH.cons (o := _) (op_at rfl) (fun Kc hKc => ?_) AllReadyH.nil
  go_simp
  go_at_call 73
  (with_reducible refine (DU.out _).mono ?_)
  rintro e w5 ⟨rfl, hb5⟩
  have h5 := h4.drew.grew hb5
  clear hb5
  go_wp2_with fail
  refine hKc.out _ _ ?_ ?_
  focus exact h5.cells
  clear hHeld
  intro hHeld
  clear hKc Kc
  (try simp only [Act.put, List.setIfInBounds_toArray, List.set_cons_zero, List.set_cons_succ])
  refine wpAnyH_take (i := 6) (oi := _) (v := ?_) (op_at rfl) (by kernel_rfl) (by kernel_rfl) (by kernel_rfl) (fun _ _ _ h => h) (Or.inl ⟨by rfl, ?_⟩) hHeld ?_
  rotate_left 1
  focus (intro W hSw; (try dsimp only at hSw); go_simp; (try (with_reducible rfl)))
  (try simp only [Act.put, List.setIfInBounds_toArray, List.set_cons_zero, List.set_cons_succ])
  refine wpAnyH_take (i := 7) (oi := _) (v := ?_) (op_at rfl) (by kernel_rfl) (by kernel_rfl) (by kernel_rfl) (fun _ _ _ h => h) (Or.inl ⟨by rfl, ?_⟩) hHeld ?_
  rotate_left 1
  focus (intro W hSw; (try dsimp only at hSw); go_simp; (try (with_reducible rfl)))
  (try simp only [Act.put, List.setIfInBounds_toArray, List.set_cons_zero, List.set_cons_succ])
  refine wpAnyH_take (i := 8) (oi := _) (v := ?_) (op_at rfl) (by kernel_rfl) (by kernel_rfl) (by kernel_rfl) (fun _ _ _ h => h) (Or.inl ⟨by rfl, ?_⟩) hHeld ?_
  rotate_left 1
  focus (intro W hSw; (try dsimp only at hSw); go_simp; (try (with_reducible rfl)))
  (try simp only [Act.put, List.setIfInBounds_toArray, List.set_cons_zero, List.set_cons_succ])
  refine wpAnyH_take (i := 9) (oi := _) (v := ?_) (op_at rfl) (by kernel_rfl) (by kernel_rfl) (by kernel_rfl) (fun _ _ _ h => h) (Or.inl ⟨by rfl, ?_⟩) hHeld ?_
  rotate_left 1
  focus (intro W hSw; (try dsimp only at hSw); go_simp; (try (with_reducible rfl)))
  (try simp only [Act.put, List.setIfInBounds_toArray, List.set_cons_zero, List.set_cons_succ])
  refine wpAnyH_ready (rs := [10]) (by kernel_rfl) (by simp) ?_
  refine AllReadyH.cons (o := _) (op_at rfl) (fun Kc hKc => ?_) AllReadyH.nil
  go_simp
  go_at_call 74
  (with_reducible refine (BE.out _ _ h5.ma.mach).mono ?_)
  rintro e w6 ⟨rfl, hb6⟩
  have h6 := h5.grew hb6
  clear hb6
  go_wp2_with fail
  refine hKc.out _ _ ?_ ?_
  focus exact h6.cells
  clear hHeld
  intro hHeld
  clear hKc Kc
  (try simp only [Act.put, List.setIfInBounds_toArray, List.set_cons_zero, List.set_cons_succ])
  refine wpAnyH_take (i := 11) (oi := _) (v := ?_) (op_at rfl) (by kernel_rfl) (by kernel_rfl) (by kernel_rfl) (fun _ _ _ h => h) (Or.inl ⟨by rfl, ?_⟩) hHeld ?_
  rotate_left 1
  focus (intro W hSw; (try dsimp only at hSw); go_simp; (try (with_reducible rfl)))
  (try simp only [Act.put, List.setIfInBounds_toArray, List.set_cons_zero, List.set_cons_succ])
  refine wpAnyH_done (by kernel_rfl) ?_ _
  clear h5 h4 DU BE C
  have hS7 := (h6.set hr 7 (.int .u64 z) ⟨P, T, R, whoo, cyc, pg, 0, z, k, c', s, oo, y, ma, al, kp, tl, sw, false⟩ rfl).drew
  have u7 : w6.cell? ⟨m, 7, none⟩ = some (.int .u64 seen) := h6.ma.mach.val 7 rfl
  have g7 := h6.ma.mach.frozen 7
  have hbox := h6.box
  have hbm := h6.bm
  clear h6
  go_wp2_with fail
  refine wp_region_held_drew (S := (fun W' => W'.cell? ⟨bb, 0, none⟩ = some (.int .i64 A) ∧ W'.cell? ⟨bb, 1, none⟩ = some (.int .i64 C') ∧ W'.cell? ⟨bb, 2, none⟩ = some (.int .i64 S) ∧ W'.cell? ⟨bb, 3, none⟩ = some (.int .i64 D) ∧ W'.cell? ⟨bb, 4, none⟩ = some (.int .i64 Y))) (by kernel_rfl) hbox.five (fun hHeld => ?_)
  refine wpAnyH_take (i := 0) (oi := _) (v := ?_) (op_at rfl) (by kernel_rfl) (by kernel_rfl) (by kernel_rfl) (fun _ _ _ h => h) (Or.inl ⟨by rfl, ?_⟩) hHeld ?_
  rotate_left 1
  focus (intro W hSw; (try dsimp only at hSw); go_simp; (try (with_reducible rfl)))
  (try simp only [Act.put, List.setIfInBounds_toArray, List.set_cons_zero, List.set_cons_succ])
  refine wpAnyH_take (i := 1) (oi := _) (v := ?_) (op_at rfl) (by kernel_rfl) (by kernel_rfl) (by kernel_rfl) (fun _ _ _ h => h) (Or.inl ⟨by rfl, ?_⟩) hHeld ?_
  rotate_left 1
  focus (intro W hSw; (try dsimp only at hSw); go_simp; (try (with_reducible rfl)))
  (try simp only [Act.put, List.setIfInBounds_toArray, List.set_cons_zero, List.set_cons_succ])
  refine wpAnyH_take (i := 2) (oi := _) (v := ?_) (op_at rfl) (by kernel_rfl) (by kernel_rfl) (by kernel_rfl) (fun _ _ _ h => h) (Or.inl ⟨by rfl, ?_⟩) hHeld ?_
  rotate_left 1
  focus (intro W hSw; (try dsimp only at hSw); go_simp; (try (with_reducible rfl)))
  (try simp only [Act.put, List.setIfInBounds_toArray, List.set_cons_zero, List.set_cons_succ])
  refine wpAnyH_take (i := 3) (oi := _) (v := ?_) (op_at rfl) (by kernel_rfl) (by kernel_rfl) (by kernel_rfl) (fun _ _ _ h => h) (Or.inl ⟨by rfl, ?_⟩) hHeld ?_
  rotate_left 1
  focus (intro W hSw; (try dsimp only at hSw); go_simp; (try (with_reducible rfl)))
  (try simp only [Act.put, List.setIfInBounds_toArray, List.set_cons_zero, List.set_cons_succ])
  refine wpAnyH_take (i := 4) (oi := _) (v := ?_) (op_at rfl) (by kernel_rfl) (by kernel_rfl) (by kernel_rfl) (fun _ _ _ h => h) (Or.inl ⟨by rfl, ?_⟩) hHeld ?_
  rotate_left 1
  focus (intro W hSw; (try dsimp only at hSw); go_simp; (try (with_reducible rfl)))
  (try simp only [Act.put, List.setIfInBounds_toArray, List.set_cons_zero, List.set_cons_succ])
  refine wpAnyH_take (i := 5) (oi := _) (v := ?_) (op_at rfl) (by kernel_rfl) (by kernel_rfl) (by kernel_rfl) (fun _ _ _ h => h) (Or.inl ⟨by rfl, ?_⟩) hHeld ?_
  rotate_left 1
  focus (intro W hSw; (try dsimp only at hSw); go_simp; (try (with_reducible rfl)))
  (try simp only [Act.put, List.setIfInBounds_toArray, List.set_cons_zero, List.set_cons_succ])
  refine wpAnyH_take (i := 6) (oi := _) (v := ?_) (op_at rfl) (by kernel_rfl) (by kernel_rfl) (by kernel_rfl) (fun _ _ _ h => h) (Or.inl ⟨by rfl, ?_⟩) hHeld ?_
  rotate_left 1
  focus (intro W hSw; (try dsimp only at hSw); go_simp; (try (with_reducible rfl)))
  (try simp only [Act.put, List.setIfInBounds_toArray, List.set_cons_zero, List.set_cons_succ])
  refine wpAnyH_ready (rs := [7]) (by kernel_rfl) (by simp) ?_
  refine AllReadyH.cons (o := _) (op_at rfl) (fun Kc hKc => ?_) AllReadyH.nil
  go_simp
  refine hKc.out _ _ ?_ ?_
  focus (refine Blk.five (t := 83) ?_; repeat (first | (with_reducible exact hbox) | (with_reducible refine Blk.other ?_ _ _ hbm) | (with_reducible refine Blk.drew ?_)))
  clear hHeld
  intro hHeld
  clear hKc Kc
  (try simp only [Act.put, List.setIfInBounds_toArray, List.set_cons_zero, List.set_cons_succ])
  refine wpAnyH_take (i := 8) (oi := _) (v := ?_) (op_at rfl) (by kernel_rfl) (by kernel_rfl) (by kernel_rfl) (fun _ _ _ h => h) (Or.inl ⟨by rfl, ?_⟩) hHeld ?_
  rotate_left 1
  focus (intro W hSw; (try dsimp only at hSw); go_simp; (try (with_reducible rfl)))
  (try simp only [Act.put, List.setIfInBounds_toArray, List.set_cons_zero, List.set_cons_succ])
  refine wpAnyH_take (i := 9) (oi := _) (v := ?_) (op_at rfl) (by kernel_rfl) (by kernel_rfl) (by kernel_rfl) (fun _ _ _ h => h) (Or.inl ⟨by rfl, ?_⟩) hHeld ?_
  rotate_left 1
  focus (intro W hSw; (try dsimp only at hSw); go_simp; (try (with_reducible rfl)))
  (try simp only [Act.put, List.setIfInBounds_toArray, List.set_cons_zero, List.set_cons_succ])
  clear u7 g7 hbox
  generalize (w6.setCell ⟨m, 7, none⟩ (.int .u64 z)).drew = W7 at *
  have u8 : W7.cell? ⟨m, 8, none⟩ = some (.int .i64 k) := hS7.ma.mach.val 8 rfl
  have u9 : W7.cell? ⟨m, 9, none⟩ = some (.int .i64 c') := hS7.ma.mach.val 9 rfl
  have u10 : W7.cell? ⟨m, 10, none⟩ = some (.int .i64 s) := hS7.ma.mach.val 10 rfl
  have u11 : W7.cell? ⟨m, 11, none⟩ = some (.int .i64 oo) := hS7.ma.mach.val 11 rfl
  have u12 : W7.cell? ⟨m, 12, none⟩ = some (.int .i64 y) := hS7.ma.mach.val 12 rfl
  have g8 := hS7.ma.mach.frozen 8
  have g9 := hS7.ma.mach.frozen 9
  have g10 := hS7.ma.mach.frozen 10
  have g11 := hS7.ma.mach.frozen 11
  have g12 := hS7.ma.mach.frozen 12
  have hbox := hS7.box
  have h8 := Lib.hid (((((hS7.ma.set hr 8 (.int .i64 A)).set hr 9 (.int .i64 C')).set hr 10 (.int .i64 S)).set hr 11 (.int .i64 D)).set hr 12 (.int .i64 Y))
  clear hS7
  refine wpAnyH_ready (rs := [10]) (by kernel_rfl) (by simp) ?_
  refine AllReadyH.cons (o := _) (op_at rfl) (fun Kc hKc => ?_) AllReadyH.nil
  go_simp
  refine hKc.out _ _ ?_ ?_
  focus (refine Blk.five (t := 83) ?_; repeat (first | (with_reducible exact hbox) | (with_reducible refine Blk.other ?_ _ _ hbm) | (with_reducible refine Blk.drew ?_)))
  clear hHeld
  intro hHeld
  clear hKc Kc
  (try simp only [Act.put, List.setIfInBounds_toArray, List.set_cons_zero, List.set_cons_succ])
  refine wpAnyH_take (i := 11) (oi := _) (v := ?_) (op_at rfl) (by kernel_rfl) (by kernel_rfl) (by kernel_rfl) (fun _ _ _ h => h) (Or.inl ⟨by rfl, ?_⟩) hHeld ?_
  rotate_left 1
  focus (intro W hSw; (try dsimp only at hSw); go_simp; (try (with_reducible rfl)))
  (try simp only [Act.put, List.setIfInBounds_toArray, List.set_cons_zero, List.set_cons_succ])
  refine wpAnyH_take (i := 12) (oi := _) (v := ?_) (op_at rfl) (by kernel_rfl) (by kernel_rfl) (by kernel_rfl) (fun _ _ _ h => h) (Or.inl ⟨by rfl, ?_⟩) hHeld ?_
  rotate_left 1
  focus (intro W hSw; (try dsimp only at hSw); go_simp; (try (with_reducible rfl)))
  (try simp only [Act.put, List.setIfInBounds_toArray, List.set_cons_zero, List.set_cons_succ])
  clear u8 u9 u10 u11 u12 g8 g9 g10 g11 g12
  replace hbox := ((((hbox.other ⟨m, 8, none⟩ (.int .i64 A) hbm).other ⟨m, 9, none⟩ (.int .i64 C') hbm).other ⟨m, 10, none⟩ (.int .i64 S) hbm).other ⟨m, 11, none⟩ (.int .i64 D) hbm).other ⟨m, 12, none⟩ (.int .i64 Y) hbm
  generalize ((((W7.setCell ⟨m, 8, none⟩ (.int .i64 A)).setCell ⟨m, 9, none⟩ (.int .i64 C')).setCell ⟨m, 10, none⟩ (.int .i64 S)).setCell ⟨m, 11, none⟩ (.int .i64 D)).setCell ⟨m, 12, none⟩ (.int .i64 Y) = W8 at *
  have u6 : W8.cell? ⟨m, 6, none⟩ = some (.int .i64 0) := h8.out.mach.val 6 rfl
  have g6 := h8.out.mach.frozen 6
  have h9 := Lib.hid (h8.out.set hr 6 (.int .i64 2))
  clear h8
  refine wpAnyH_ready (rs := [13]) (by kernel_rfl) (by simp) ?_
  refine AllReadyH.cons (o := _) (op_at rfl) (fun Kc hKc => ?_) AllReadyH.nil
  go_simp
  refine hKc.out _ _ ?_ ?_
  focus (refine Blk.five (t := 83) ?_; repeat (first | (with_reducible exact hbox) | (with_reducible refine Blk.other ?_ _ _ hbm) | (with_reducible refine Blk.drew ?_)))
  clear hHeld
  intro hHeld
  clear hKc Kc
  (try simp only [Act.put, List.setIfInBounds_toArray, List.set_cons_zero, List.set_cons_succ])
  refine wpAnyH_done (by kernel_rfl) ?_ _
  go_wp2
  go_end0
  exact ⟨⟨_, rfl⟩, h9.out⟩
end
end Go.Proofs.YtnodeojeijekcaaGreat
