/- The document's sweep, path by path. Conditions: the tape lies there, its answers are words; the page is the plan's. -/
import Derived.Test.YtnodeojeijekcaaGreatGPagesSweeps29
namespace Go.Proofs.YtnodeojeijekcaaGreat
open Go.RowKit
set_option linter.unusedVariables false
set_option linter.unusedSimpArgs false
def RsPost (w : World) (B x : Nat) (hv : Value) (r : Swr) (t' : Tp) (e : Ending) (w' : World) : Prop := e = .returned (.agg r.V) ∧ TapeAt w' B x hv t' ∧ Touch (· = x) w w'
section
variable {w W W' : World} {B x : Nat} {hv : Value} {t t' : Tp} {P T who cy pg eI aI mI A C S D Y z : Int}
/-- the boxes, and an entry's -/
structure RsE (w : World) (B x : Nat) (hv : Value) (t : Tp) (P T : Int) (b : Nat) (A C S D Y : Int) (W : World) : Prop where
  rs : RsS w B x hv t P T W
  en : Blk W b #[.int .i64 A, .int .i64 C, .int .i64 S, .int .i64 D, .int .i64 Y] 71
  lo : w.heap.size ≤ b
theorem RsE.grew {b : Nat} (h : RsE w B x hv t P T b A C S D Y W) (hb : Below W.heap.size W W') : RsE w B x hv t P T b A C S D Y W' := ⟨h.rs.grew hb, h.en.grew hb, h.lo⟩
theorem RsE.new (h : RsS w B x hv t P T W) : RsE w B x hv t P T W.heap.size A C S D Y (W.alloc (.cells #[.int .i64 A, .int .i64 C, .int .i64 S, .int .i64 D, .int .i64 Y] 71)) := ⟨h.grew ((Below.refl _ _).alloc (Nat.le_refl _) _), Blk.new _ _ _, h.tch.size⟩
theorem RsE.asked {b : Nat} (h : RsE w B x hv t P T b A C S D Y W) (hT : TapeAt W' B x hv t') (ht : Touch (· = x) W W') (hH : t'.H = t.H) : RsE w B x hv t' P T b A C S D Y W' := ⟨h.rs.asked hT ht hH, h.en.touch ht (by have := h.rs.hx; have := h.lo; omega), h.lo⟩
theorem RsE.load {b : Nat} (h : RsE w B x hv t P T b A C S D Y W) (a : Int) :
    Calls Tryz.prog 35 #[.pointer (some ⟨x, 0, none⟩), .int .i64 a] W fun e w' => e = .returned (.int .u64 (t.ask 1 a 0 0).1) ∧ RsE w B x hv (t.ask 1 a 0 0).2 P T b A C S D Y w' :=
  (tload_any h.rs.tape h.rs.hm a).mono fun _ _ ⟨he, hT, ht⟩ => ⟨he, h.asked hT ht (ask_H _ _ _ _ _)⟩
theorem RsE.store {b : Nat} (h : RsE w B x hv t P T b A C S D Y W) (a v : Int) :
    Calls Tryz.prog 42 #[.pointer (some ⟨x, 0, none⟩), .int .i64 a, .int .u64 v] W fun e w' => (∃ u, e = .returned u) ∧ RsE w B x hv (t.ask 2 a 0 v).2 P T b A C S D Y w' :=
  (tstore_any h.rs.tape h.rs.hm a v).mono fun _ _ ⟨he, hT, ht⟩ => ⟨he, h.asked hT ht (ask_H _ _ _ _ _)⟩
/-- the boxes, the entry's, and one more -/
structure RsF (w : World) (B x : Nat) (hv : Value) (t : Tp) (P T : Int) (b b2 : Nat) (A C S D Y g1 g2 g3 g4 g5 : Int) (W : World) : Prop where
  re : RsE w B x hv t P T b A C S D Y W
  bu : Blk W b2 #[.int .i64 g1, .int .i64 g2, .int .i64 g3, .int .i64 g4, .int .i64 g5] 71
  lo : w.heap.size ≤ b2
theorem RsF.grew {b b2 : Nat} {g1 g2 g3 g4 g5 : Int} (h : RsF w B x hv t P T b b2 A C S D Y g1 g2 g3 g4 g5 W) (hb : Below W.heap.size W W') : RsF w B x hv t P T b b2 A C S D Y g1 g2 g3 g4 g5 W' := ⟨h.re.grew hb, h.bu.grew hb, h.lo⟩
theorem RsF.drew {b b2 : Nat} {g1 g2 g3 g4 g5 : Int} (h : RsF w B x hv t P T b b2 A C S D Y g1 g2 g3 g4 g5 W) : RsF w B x hv t P T b b2 A C S D Y g1 g2 g3 g4 g5 W.drew := h.grew (Quiet.below ⟨1, rfl⟩)
theorem RsF.asked {b b2 : Nat} {g1 g2 g3 g4 g5 : Int} (h : RsF w B x hv t P T b b2 A C S D Y g1 g2 g3 g4 g5 W) (hT : TapeAt W' B x hv t') (ht : Touch (· = x) W W') (hH : t'.H = t.H) : RsF w B x hv t' P T b b2 A C S D Y g1 g2 g3 g4 g5 W' := ⟨h.re.asked hT ht hH, h.bu.touch ht (by have := h.re.rs.hx; have := h.lo; omega), h.lo⟩
theorem RsF.cas {b b2 : Nat} {g1 g2 g3 g4 g5 : Int} (h : RsF w B x hv t P T b b2 A C S D Y g1 g2 g3 g4 g5 W) (a wn p : Int) :
    Calls Tryz.prog 39 #[.pointer (some ⟨x, 0, none⟩), .int .i64 a, .int .u64 wn, .int .u64 p] W fun e w' => e = .returned (.bool ((t.ask 4 a wn p).1 == wn)) ∧ RsF w B x hv (t.ask 4 a wn p).2 P T b b2 A C S D Y g1 g2 g3 g4 g5 w' :=
  (tcas_any h.re.rs.tape h.re.rs.hm a wn p).mono fun _ _ ⟨he, hT, ht⟩ => ⟨he, h.asked hT ht (ask_H _ _ _ _ _)⟩
theorem RsF.store {b b2 : Nat} {g1 g2 g3 g4 g5 : Int} (h : RsF w B x hv t P T b b2 A C S D Y g1 g2 g3 g4 g5 W) (a v : Int) :
    Calls Tryz.prog 42 #[.pointer (some ⟨x, 0, none⟩), .int .i64 a, .int .u64 v] W fun e w' => (∃ u, e = .returned u) ∧ RsF w B x hv (t.ask 2 a 0 v).2 P T b b2 A C S D Y g1 g2 g3 g4 g5 w' :=
  (tstore_any h.re.rs.tape h.re.rs.hm a v).mono fun _ _ ⟨he, hT, ht⟩ => ⟨he, h.asked hT ht (ask_H _ _ _ _ _)⟩
theorem RsF.cells {b b2 : Nat} {g1 g2 g3 g4 g5 : Int} (h : RsF w B x hv t P T b b2 A C S D Y g1 g2 g3 g4 g5 W) : (W.cell? ⟨w.heap.size, 0, none⟩ = some (.int .i64 P) ∧ W.cell? ⟨w.heap.size, 1, none⟩ = some (.int .i64 T) ∧ W.cell? ⟨w.heap.size, 2, none⟩ = some (.int .i64 1) ∧ W.cell? ⟨w.heap.size, 3, none⟩ = some (.int .i64 (baseI P T 1)) ∧ W.cell? ⟨w.heap.size, 4, none⟩ = some (.int .i64 (tabI T 1)) ∧ W.cell? ⟨w.heap.size, 5, none⟩ = some (.int .i64 (baseI P T 1 + 64 * P))) ∧ (W.cell? ⟨b2, 0, none⟩ = some (.int .i64 g1) ∧ W.cell? ⟨b2, 1, none⟩ = some (.int .i64 g2) ∧ W.cell? ⟨b2, 2, none⟩ = some (.int .i64 g3) ∧ W.cell? ⟨b2, 3, none⟩ = some (.int .i64 g4) ∧ W.cell? ⟨b2, 4, none⟩ = some (.int .i64 g5)) := ⟨h.re.rs.six, h.bu.five⟩
theorem rtaken_yes {k c s o y st ow : Int} (w : World) (h : tkB k c s o y st ow = true) :
    Calls Tryz.prog 38 #[.agg #[.int .i64 k, .int .i64 c, .int .i64 s, .int .i64 o, .int .i64 y], .int .i64 st, .int .i64 ow] w fun e w' => e = .returned (.tuple #[.agg #[.int .i64 k, .int .i64 c, .int .i64 st, .int .i64 ow, .int .i64 y], .int .i64 0]) ∧ Below w.heap.size w w' := by
  have := rtaken_any k c s o y st ow w
  rw [h] at this
  exact this
theorem rgiven_yes {k c s o y cy : Int} (w : World) (h : gvB k c s o y cy = true) :
    Calls Tryz.prog 43 #[.agg #[.int .i64 k, .int .i64 c, .int .i64 s, .int .i64 o, .int .i64 y], .int .i64 cy] w fun e w' => e = .returned (.tuple #[.agg #[.int .i64 k, .int .i64 c, .int .i64 0, .int .i64 0, .int .i64 cy], .int .i64 0]) ∧ Below w.heap.size w w' := by
  have := rgiven_any k c s o y cy w
  rw [h] at this
  exact this
theorem eencV_yes {k c s o y : Int} (h : entB k c s o y = true) : eencV k c s o y = encE k c s o y := by unfold eencV; rw [h]; rfl
theorem RsE.drew {b : Nat} (h : RsE w B x hv t P T b A C S D Y W) : RsE w B x hv t P T b A C S D Y W.drew := h.grew (Quiet.below ⟨1, rfl⟩)
theorem RsE.cells {b : Nat} (h : RsE w B x hv t P T b A C S D Y W) : (W.cell? ⟨w.heap.size, 0, none⟩ = some (.int .i64 P) ∧ W.cell? ⟨w.heap.size, 1, none⟩ = some (.int .i64 T) ∧ W.cell? ⟨w.heap.size, 2, none⟩ = some (.int .i64 1) ∧ W.cell? ⟨w.heap.size, 3, none⟩ = some (.int .i64 (baseI P T 1)) ∧ W.cell? ⟨w.heap.size, 4, none⟩ = some (.int .i64 (tabI T 1)) ∧ W.cell? ⟨w.heap.size, 5, none⟩ = some (.int .i64 (baseI P T 1 + 64 * P))) ∧ (W.cell? ⟨b, 0, none⟩ = some (.int .i64 A) ∧ W.cell? ⟨b, 1, none⟩ = some (.int .i64 C) ∧ W.cell? ⟨b, 2, none⟩ = some (.int .i64 S) ∧ W.cell? ⟨b, 3, none⟩ = some (.int .i64 D) ∧ W.cell? ⟨b, 4, none⟩ = some (.int .i64 Y)) := ⟨h.rs.six, h.en.five⟩
set_option maxRecDepth 100000 in
set_option maxHeartbeats 4000000 in
theorem rsw_stop1 (hT : TapeAt w B x hv t) (hx : x < w.heap.size) (hB : ∀ g, hv.ownBlock = some g → g < w.heap.size) (hm : t.H.length ≤ 1000000) (hU : ∀ z ∈ t.H, U64 z) (hE : wrap64 (tabI T 1 + pg) = eI) (h1 : (t.ask 1 eI 0 0).2.st = true) :
    Calls Tryz.prog 10 #[.pointer (some ⟨x, 0, none⟩), .agg #[.int .i64 P, .int .i64 T, .int .i64 1, .int .i64 (baseI P T 1), .int .i64 (tabI T 1), .int .i64 (baseI P T 1 + 64 * P)], .int .i64 who, .int .i64 cy, .int .i64 pg] w (RsPost w B x hv rw0 (t.ask 1 eI 0 0).2) := by
  have PE := Lib.hid (fun W => pmPage_any P T 1 (baseI P T 1) (tabI T 1) (baseI P T 1 + 64 * P) pg W)
  rw [hE] at PE
  have hS := RsS.new (P := P) (T := T) hT hx hB hm hU
  unfold RsPost
  clear hT hB hm hE
  go_enter Tryz.func10, Tryz.ntmps10
  go_upto_region 1 with fail
  generalize (w.alloc (.cells #[.int .i64 P, .int .i64 T, .int .i64 1, .int .i64 (baseI P T 1), .int .i64 (tabI T 1), .int .i64 (baseI P T 1 + 64 * P)] 33)).alloc (.cells #[.bool false, .bool false, .bool false, .bool false, .int .i64 0] 54) = W at *
  obtain ⟨x0, x1, x2, x3, x4, x5⟩ := hS.six
  go_wp2_with fail
  refine (PE.out _).mono ?_; rintro e w1 ⟨rfl, hb1⟩
  have hS1 := hS.grew hb1
  clear x0 x1 x2 x3 x4 x5 hS hb1
  go_wp2_with fail
  refine (hS1.load eI).mono ?_; rintro e w2 ⟨rfl, hS2⟩
  clear hS1
  have st := hS2.stop
  rw [h1] at st
  obtain ⟨hT9, ht9, hR9⟩ := hS2.ret rw0
  dsimp only [rw0, Swr.V] at hT9 ht9 hR9
  obtain ⟨v0, v1, v2, v3, v4⟩ := hS2.res.five
  have q0 := hS2.res.frozen 0
  have q1 := hS2.res.frozen 1
  have q2 := hS2.res.frozen 2
  have q3 := hS2.res.frozen 3
  have q4 := hS2.res.frozen 4
  replace hT9 := Lib.hid hT9
  replace ht9 := Lib.hid ht9
  replace hR9 := Lib.hid hR9
  clear hS2
  go_wp2
  obtain ⟨u0, u1, u2, u3, u4⟩ := hR9.out.five
  refine bodyPost_ret (v := .agg (Swr.V rw0)) (by simp [results, Tryz.results10, go_sem, Swr.V, rw0, u0, u1, u2, u3, u4]) rfl ⟨rfl, hT9.out, ht9.out⟩
set_option maxRecDepth 100000 in
set_option maxHeartbeats 4000000 in
theorem rsw_form (hT : TapeAt w B x hv t) (hx : x < w.heap.size) (hB : ∀ g, hv.ownBlock = some g → g < w.heap.size) (hm : t.H.length ≤ 1000000) (hU : ∀ z ∈ t.H, U64 z) (hE : wrap64 (tabI T 1 + pg) = eI) (h1 : (t.ask 1 eI 0 0).2.st = false) (hz : (t.ask 1 eI 0 0).1 = z) (hD : ∀ W, Calls Tryz.prog 36 #[.int .u64 z] W fun e w' => e = .returned (.tuple #[.agg #[.int .i64 A, .int .i64 C, .int .i64 S, .int .i64 D, .int .i64 Y], .int .i64 4]) ∧ Below W.heap.size W w') :
    Calls Tryz.prog 10 #[.pointer (some ⟨x, 0, none⟩), .agg #[.int .i64 P, .int .i64 T, .int .i64 1, .int .i64 (baseI P T 1), .int .i64 (tabI T 1), .int .i64 (baseI P T 1 + 64 * P)], .int .i64 who, .int .i64 cy, .int .i64 pg] w (RsPost w B x hv ⟨true, false, false, false, 0⟩ (t.ask 1 eI 0 0).2) := by
  have PE := Lib.hid (fun W => pmPage_any P T 1 (baseI P T 1) (tabI T 1) (baseI P T 1 + 64 * P) pg W)
  rw [hE] at PE
  have hS := RsS.new (P := P) (T := T) hT hx hB hm hU
  unfold RsPost
  clear hT hB hm hE
  go_enter Tryz.func10, Tryz.ntmps10
  go_upto_region 1 with fail
  generalize (w.alloc (.cells #[.int .i64 P, .int .i64 T, .int .i64 1, .int .i64 (baseI P T 1), .int .i64 (tabI T 1), .int .i64 (baseI P T 1 + 64 * P)] 33)).alloc (.cells #[.bool false, .bool false, .bool false, .bool false, .int .i64 0] 54) = W at *
  obtain ⟨x0, x1, x2, x3, x4, x5⟩ := hS.six
  go_wp2_with fail
  refine (PE.out _).mono ?_; rintro e w1 ⟨rfl, hb1⟩
  have hS1 := hS.grew hb1
  clear x0 x1 x2 x3 x4 x5 hS hb1
  go_wp2_with fail
  refine (hS1.load eI).mono ?_; rintro e w2 ⟨rfl, hS2⟩
  clear hS1
  have st := hS2.stop
  rw [h1] at st
  rw [hz] at *
  have DE := Lib.hid hD
  clear hD
  go_wp2_with fail
  refine (DE.out _).mono ?_; rintro e w3 ⟨rfl, hb3⟩
  have hS3 := hS2.grew hb3
  clear DE st hb3 hS2
  go_upto_region 5 with fail
  have hE3 := RsE.new (A := A) (C := C) (S := S) (D := D) (Y := Y) hS3
  generalize w3.alloc (.cells #[.int .i64 A, .int .i64 C, .int .i64 S, .int .i64 D, .int .i64 Y] 71) = W3 at *
  generalize w3.heap.size = b at *
  obtain ⟨⟨m0, m1, m2, m3, m4, m5⟩, y0, y1, y2, y3, y4⟩ := hE3.cells
  clear hS3
  obtain ⟨hT9, ht9, hR9⟩ := hE3.rs.ret ⟨true, false, false, false, 0⟩
  dsimp only [rw0, Swr.V] at hT9 ht9 hR9
  obtain ⟨v0, v1, v2, v3, v4⟩ := hE3.rs.res.five
  have q0 := hE3.rs.res.frozen 0
  have q1 := hE3.rs.res.frozen 1
  have q2 := hE3.rs.res.frozen 2
  have q3 := hE3.rs.res.frozen 3
  have q4 := hE3.rs.res.frozen 4
  replace hT9 := Lib.hid hT9
  replace ht9 := Lib.hid ht9
  replace hR9 := Lib.hid hR9
  clear hE3
  go_wp2
  obtain ⟨u0, u1, u2, u3, u4⟩ := hR9.out.five
  refine bodyPost_ret (v := .agg (Swr.V ⟨true, false, false, false, 0⟩)) (by simp [results, Tryz.results10, go_sem, Swr.V, rw0, u0, u1, u2, u3, u4]) rfl ⟨rfl, hT9.out, ht9.out⟩
set_option maxRecDepth 100000 in
set_option maxHeartbeats 4000000 in
theorem rsw_busy (hT : TapeAt w B x hv t) (hx : x < w.heap.size) (hB : ∀ g, hv.ownBlock = some g → g < w.heap.size) (hm : t.H.length ≤ 1000000) (hU : ∀ z ∈ t.H, U64 z) (hE : wrap64 (tabI T 1 + pg) = eI) (h1 : (t.ask 1 eI 0 0).2.st = false) (hz : (t.ask 1 eI 0 0).1 = z) (hD : ∀ W, Calls Tryz.prog 36 #[.int .u64 z] W fun e w' => e = .returned (.tuple #[.agg #[.int .i64 A, .int .i64 C, .int .i64 S, .int .i64 D, .int .i64 Y], .int .i64 0]) ∧ Below W.heap.size W w') (hS2' : S = 2) (y' : Bool) (hy : decide (Y < cy) = y') (hd : dueB A C S D Y cy = false) :
    Calls Tryz.prog 10 #[.pointer (some ⟨x, 0, none⟩), .agg #[.int .i64 P, .int .i64 T, .int .i64 1, .int .i64 (baseI P T 1), .int .i64 (tabI T 1), .int .i64 (baseI P T 1 + 64 * P)], .int .i64 who, .int .i64 cy, .int .i64 pg] w (RsPost w B x hv ⟨true, false, false, y', 0⟩ (t.ask 1 eI 0 0).2) := by
  have PE := Lib.hid (fun W => pmPage_any P T 1 (baseI P T 1) (tabI T 1) (baseI P T 1 + 64 * P) pg W)
  rw [hE] at PE
  have hS := RsS.new (P := P) (T := T) hT hx hB hm hU
  unfold RsPost
  clear hT hB hm hE
  go_enter Tryz.func10, Tryz.ntmps10
  go_upto_region 1 with fail
  generalize (w.alloc (.cells #[.int .i64 P, .int .i64 T, .int .i64 1, .int .i64 (baseI P T 1), .int .i64 (tabI T 1), .int .i64 (baseI P T 1 + 64 * P)] 33)).alloc (.cells #[.bool false, .bool false, .bool false, .bool false, .int .i64 0] 54) = W at *
  obtain ⟨x0, x1, x2, x3, x4, x5⟩ := hS.six
  go_wp2_with fail
  refine (PE.out _).mono ?_; rintro e w1 ⟨rfl, hb1⟩
  have hS1 := hS.grew hb1
  clear x0 x1 x2 x3 x4 x5 hS hb1
  go_wp2_with fail
  refine (hS1.load eI).mono ?_; rintro e w2 ⟨rfl, hS2⟩
  clear hS1
  have st := hS2.stop
  subst hS2'
  have DU := Lib.hid (fun W => rdue_any A C 2 D Y cy W)
  rw [hd] at DU
  clear hd
  rw [h1] at st
  rw [hz] at *
  have DE := Lib.hid hD
  clear hD
  go_wp2_with fail
  refine (DE.out _).mono ?_; rintro e w3 ⟨rfl, hb3⟩
  have hS3 := hS2.grew hb3
  clear DE st hb3 hS2
  go_upto_region 5 with fail
  have hE3 := RsE.new (A := A) (C := C) (S := 2) (D := D) (Y := Y) hS3
  generalize w3.alloc (.cells #[.int .i64 A, .int .i64 C, .int .i64 2, .int .i64 D, .int .i64 Y] 71) = W3 at *
  generalize w3.heap.size = b at *
  obtain ⟨⟨m0, m1, m2, m3, m4, m5⟩, y0, y1, y2, y3, y4⟩ := hE3.cells
  clear hS3
  go_wp2_with fail
  refine (DU.out _).mono ?_; rintro e w4 ⟨rfl, hb4⟩
  have hE4 := hE3.grew hb4
  clear m0 m1 m2 m3 m4 m5 y0 y1 y2 y3 y4 hE3 hb4 DU
  obtain ⟨⟨m0, m1, m2, m3, m4, m5⟩, y0, y1, y2, y3, y4⟩ := hE4.cells
  obtain ⟨hT9, ht9, hR9⟩ := hE4.rs.ret ⟨true, false, false, y', 0⟩
  dsimp only [rw0, Swr.V] at hT9 ht9 hR9
  obtain ⟨v0, v1, v2, v3, v4⟩ := hE4.rs.res.five
  have q0 := hE4.rs.res.frozen 0
  have q1 := hE4.rs.res.frozen 1
  have q2 := hE4.rs.res.frozen 2
  have q3 := hE4.rs.res.frozen 3
  have q4 := hE4.rs.res.frozen 4
  replace hT9 := Lib.hid hT9
  replace ht9 := Lib.hid ht9
  replace hR9 := Lib.hid hR9
  clear hE4
  go_wp2
  obtain ⟨u0, u1, u2, u3, u4⟩ := hR9.out.five
  refine bodyPost_ret (v := .agg (Swr.V ⟨true, false, false, y', 0⟩)) (by simp [results, Tryz.results10, go_sem, Swr.V, rw0, u0, u1, u2, u3, u4]) rfl ⟨rfl, hT9.out, ht9.out⟩
set_option maxRecDepth 100000 in
set_option maxHeartbeats 4000000 in
theorem rsw_late (hT : TapeAt w B x hv t) (hx : x < w.heap.size) (hB : ∀ g, hv.ownBlock = some g → g < w.heap.size) (hm : t.H.length ≤ 1000000) (hU : ∀ z ∈ t.H, U64 z) (hE : wrap64 (tabI T 1 + pg) = eI) (h1 : (t.ask 1 eI 0 0).2.st = false) (hz : (t.ask 1 eI 0 0).1 = z) (hD : ∀ W, Calls Tryz.prog 36 #[.int .u64 z] W fun e w' => e = .returned (.tuple #[.agg #[.int .i64 A, .int .i64 C, .int .i64 S, .int .i64 D, .int .i64 Y], .int .i64 0]) ∧ Below W.heap.size W w') (hS2' : (S == 2) = false) (hd : dueB A C S D Y cy = false) :
    Calls Tryz.prog 10 #[.pointer (some ⟨x, 0, none⟩), .agg #[.int .i64 P, .int .i64 T, .int .i64 1, .int .i64 (baseI P T 1), .int .i64 (tabI T 1), .int .i64 (baseI P T 1 + 64 * P)], .int .i64 who, .int .i64 cy, .int .i64 pg] w (RsPost w B x hv ⟨true, false, false, false, 0⟩ (t.ask 1 eI 0 0).2) := by
  have PE := Lib.hid (fun W => pmPage_any P T 1 (baseI P T 1) (tabI T 1) (baseI P T 1 + 64 * P) pg W)
  rw [hE] at PE
  have hS := RsS.new (P := P) (T := T) hT hx hB hm hU
  unfold RsPost
  clear hT hB hm hE
  go_enter Tryz.func10, Tryz.ntmps10
  go_upto_region 1 with fail
  generalize (w.alloc (.cells #[.int .i64 P, .int .i64 T, .int .i64 1, .int .i64 (baseI P T 1), .int .i64 (tabI T 1), .int .i64 (baseI P T 1 + 64 * P)] 33)).alloc (.cells #[.bool false, .bool false, .bool false, .bool false, .int .i64 0] 54) = W at *
  obtain ⟨x0, x1, x2, x3, x4, x5⟩ := hS.six
  go_wp2_with fail
  refine (PE.out _).mono ?_; rintro e w1 ⟨rfl, hb1⟩
  have hS1 := hS.grew hb1
  clear x0 x1 x2 x3 x4 x5 hS hb1
  go_wp2_with fail
  refine (hS1.load eI).mono ?_; rintro e w2 ⟨rfl, hS2⟩
  clear hS1
  have st := hS2.stop
  have DU := Lib.hid (fun W => rdue_any A C S D Y cy W)
  rw [hd] at DU
  clear hd
  rw [h1] at st
  rw [hz] at *
  have DE := Lib.hid hD
  clear hD
  go_wp2_with fail
  refine (DE.out _).mono ?_; rintro e w3 ⟨rfl, hb3⟩
  have hS3 := hS2.grew hb3
  clear DE st hb3 hS2
  go_upto_region 5 with fail
  have hE3 := RsE.new (A := A) (C := C) (S := S) (D := D) (Y := Y) hS3
  generalize w3.alloc (.cells #[.int .i64 A, .int .i64 C, .int .i64 S, .int .i64 D, .int .i64 Y] 71) = W3 at *
  generalize w3.heap.size = b at *
  obtain ⟨⟨m0, m1, m2, m3, m4, m5⟩, y0, y1, y2, y3, y4⟩ := hE3.cells
  clear hS3
  go_wp2_with fail
  refine (DU.out _).mono ?_; rintro e w4 ⟨rfl, hb4⟩
  have hE4 := hE3.grew hb4
  clear m0 m1 m2 m3 m4 m5 y0 y1 y2 y3 y4 hE3 hb4 DU
  obtain ⟨⟨m0, m1, m2, m3, m4, m5⟩, y0, y1, y2, y3, y4⟩ := hE4.cells
  obtain ⟨hT9, ht9, hR9⟩ := hE4.rs.ret ⟨true, false, false, false, 0⟩
  dsimp only [rw0, Swr.V] at hT9 ht9 hR9
  obtain ⟨v0, v1, v2, v3, v4⟩ := hE4.rs.res.five
  have q0 := hE4.rs.res.frozen 0
  have q1 := hE4.rs.res.frozen 1
  have q2 := hE4.rs.res.frozen 2
  have q3 := hE4.rs.res.frozen 3
  have q4 := hE4.rs.res.frozen 4
  replace hT9 := Lib.hid hT9
  replace ht9 := Lib.hid ht9
  replace hR9 := Lib.hid hR9
  clear hE4
  go_wp2
  obtain ⟨u0, u1, u2, u3, u4⟩ := hR9.out.five
  refine bodyPost_ret (v := .agg (Swr.V ⟨true, false, false, false, 0⟩)) (by simp [results, Tryz.results10, go_sem, Swr.V, rw0, u0, u1, u2, u3, u4]) rfl ⟨rfl, hT9.out, ht9.out⟩
set_option maxRecDepth 100000 in
set_option maxHeartbeats 4000000 in
theorem rsw_bey (hT : TapeAt w B x hv t) (hx : x < w.heap.size) (hB : ∀ g, hv.ownBlock = some g → g < w.heap.size) (hm : t.H.length ≤ 1000000) (hU : ∀ z ∈ t.H, U64 z) (hE : wrap64 (tabI T 1 + pg) = eI) (h1 : (t.ask 1 eI 0 0).2.st = false) (hz : (t.ask 1 eI 0 0).1 = z) (hD : ∀ W, Calls Tryz.prog 36 #[.int .u64 z] W fun e w' => e = .returned (.tuple #[.agg #[.int .i64 A, .int .i64 C, .int .i64 S, .int .i64 D, .int .i64 Y], .int .i64 0]) ∧ Below W.heap.size W w') (hS2' : (S == 2) = false) (hA : A = 2) (hw : wrap64 (pg + C) = pg + C) (hp : P < pg + C) (hd : dueB A C S D Y cy = true) :
    Calls Tryz.prog 10 #[.pointer (some ⟨x, 0, none⟩), .agg #[.int .i64 P, .int .i64 T, .int .i64 1, .int .i64 (baseI P T 1), .int .i64 (tabI T 1), .int .i64 (baseI P T 1 + 64 * P)], .int .i64 who, .int .i64 cy, .int .i64 pg] w (RsPost w B x hv ⟨true, false, false, false, 0⟩ (t.ask 1 eI 0 0).2) := by
  have PE := Lib.hid (fun W => pmPage_any P T 1 (baseI P T 1) (tabI T 1) (baseI P T 1 + 64 * P) pg W)
  rw [hE] at PE
  have hS := RsS.new (P := P) (T := T) hT hx hB hm hU
  unfold RsPost
  clear hT hB hm hE
  go_enter Tryz.func10, Tryz.ntmps10
  go_upto_region 1 with fail
  generalize (w.alloc (.cells #[.int .i64 P, .int .i64 T, .int .i64 1, .int .i64 (baseI P T 1), .int .i64 (tabI T 1), .int .i64 (baseI P T 1 + 64 * P)] 33)).alloc (.cells #[.bool false, .bool false, .bool false, .bool false, .int .i64 0] 54) = W at *
  obtain ⟨x0, x1, x2, x3, x4, x5⟩ := hS.six
  go_wp2_with fail
  refine (PE.out _).mono ?_; rintro e w1 ⟨rfl, hb1⟩
  have hS1 := hS.grew hb1
  clear x0 x1 x2 x3 x4 x5 hS hb1
  go_wp2_with fail
  refine (hS1.load eI).mono ?_; rintro e w2 ⟨rfl, hS2⟩
  clear hS1
  have st := hS2.stop
  subst hA
  have DU := Lib.hid (fun W => rdue_any 2 C S D Y cy W)
  rw [hd] at DU
  clear hd
  rw [h1] at st
  rw [hz] at *
  have DE := Lib.hid hD
  clear hD
  go_wp2_with fail
  refine (DE.out _).mono ?_; rintro e w3 ⟨rfl, hb3⟩
  have hS3 := hS2.grew hb3
  clear DE st hb3 hS2
  go_upto_region 5 with fail
  have hE3 := RsE.new (A := 2) (C := C) (S := S) (D := D) (Y := Y) hS3
  generalize w3.alloc (.cells #[.int .i64 2, .int .i64 C, .int .i64 S, .int .i64 D, .int .i64 Y] 71) = W3 at *
  generalize w3.heap.size = b at *
  obtain ⟨⟨m0, m1, m2, m3, m4, m5⟩, y0, y1, y2, y3, y4⟩ := hE3.cells
  clear hS3
  go_wp2_with fail
  refine (DU.out _).mono ?_; rintro e w4 ⟨rfl, hb4⟩
  have hE4 := hE3.grew hb4
  clear m0 m1 m2 m3 m4 m5 y0 y1 y2 y3 y4 hE3 hb4 DU
  obtain ⟨⟨m0, m1, m2, m3, m4, m5⟩, y0, y1, y2, y3, y4⟩ := hE4.cells
  obtain ⟨hT9, ht9, hR9⟩ := hE4.rs.ret ⟨true, false, false, false, 0⟩
  dsimp only [rw0, Swr.V] at hT9 ht9 hR9
  obtain ⟨v0, v1, v2, v3, v4⟩ := hE4.rs.res.five
  have q0 := hE4.rs.res.frozen 0
  have q1 := hE4.rs.res.frozen 1
  have q2 := hE4.rs.res.frozen 2
  have q3 := hE4.rs.res.frozen 3
  have q4 := hE4.rs.res.frozen 4
  replace hT9 := Lib.hid hT9
  replace ht9 := Lib.hid ht9
  replace hR9 := Lib.hid hR9
  clear hE4
  go_wp2
  obtain ⟨u0, u1, u2, u3, u4⟩ := hR9.out.five
  refine bodyPost_ret (v := .agg (Swr.V ⟨true, false, false, false, 0⟩)) (by simp [results, Tryz.results10, go_sem, Swr.V, rw0, u0, u1, u2, u3, u4]) rfl ⟨rfl, hT9.out, ht9.out⟩
set_option maxRecDepth 100000 in
set_option maxHeartbeats 4000000 in
theorem rsw_stop2s (hT : TapeAt w B x hv t) (hx : x < w.heap.size) (hB : ∀ g, hv.ownBlock = some g → g < w.heap.size) (hm : t.H.length ≤ 1000000) (hU : ∀ z ∈ t.H, U64 z) (hE : wrap64 (tabI T 1 + pg) = eI) (h1 : (t.ask 1 eI 0 0).2.st = false) (hz : (t.ask 1 eI 0 0).1 = z) (hD : ∀ W, Calls Tryz.prog 36 #[.int .u64 z] W fun e w' => e = .returned (.tuple #[.agg #[.int .i64 A, .int .i64 C, .int .i64 S, .int .i64 D, .int .i64 Y], .int .i64 0]) ∧ Below W.heap.size W w') (hS2' : (S == 2) = false) (hA : (A == 2) = false) (hd : dueB A C S D Y cy = true) (hg : tkB A C S D Y 2 who = true) (E : Int) (hEE : encE A C 2 who Y = E) (h2 : ((t.ask 1 eI 0 0).2.ask 4 eI z E).2.st = true) :
    Calls Tryz.prog 10 #[.pointer (some ⟨x, 0, none⟩), .agg #[.int .i64 P, .int .i64 T, .int .i64 1, .int .i64 (baseI P T 1), .int .i64 (tabI T 1), .int .i64 (baseI P T 1 + 64 * P)], .int .i64 who, .int .i64 cy, .int .i64 pg] w (RsPost w B x hv rw0 ((t.ask 1 eI 0 0).2.ask 4 eI z E).2) := by
  have PE := Lib.hid (fun W => pmPage_any P T 1 (baseI P T 1) (tabI T 1) (baseI P T 1 + 64 * P) pg W)
  rw [hE] at PE
  have hS := RsS.new (P := P) (T := T) hT hx hB hm hU
  unfold RsPost
  clear hT hB hm hE
  go_enter Tryz.func10, Tryz.ntmps10
  go_upto_region 1 with fail
  generalize (w.alloc (.cells #[.int .i64 P, .int .i64 T, .int .i64 1, .int .i64 (baseI P T 1), .int .i64 (tabI T 1), .int .i64 (baseI P T 1 + 64 * P)] 33)).alloc (.cells #[.bool false, .bool false, .bool false, .bool false, .int .i64 0] 54) = W at *
  obtain ⟨x0, x1, x2, x3, x4, x5⟩ := hS.six
  go_wp2_with fail
  refine (PE.out _).mono ?_; rintro e w1 ⟨rfl, hb1⟩
  have hS1 := hS.grew hb1
  clear x0 x1 x2 x3 x4 x5 hS hb1
  go_wp2_with fail
  refine (hS1.load eI).mono ?_; rintro e w2 ⟨rfl, hS2⟩
  clear hS1
  have st := hS2.stop
  have DU := Lib.hid (fun W => rdue_any A C S D Y cy W)
  rw [hd] at DU
  clear hd
  have TK := Lib.hid (fun W => rtaken_yes W hg)
  have WO := Lib.hid (fun W => rword_any A C 2 who Y W)
  rw [eencV_yes (by unfold tkB at hg; rw [Bool.and_eq_true] at hg; exact hg.2), hEE] at WO
  clear hg hEE
  rw [h1] at st
  rw [hz] at *
  have DE := Lib.hid hD
  clear hD
  go_wp2_with fail
  refine (DE.out _).mono ?_; rintro e w3 ⟨rfl, hb3⟩
  have hS3 := hS2.grew hb3
  clear DE st hb3 hS2
  go_upto_region 5 with fail
  have hE3 := RsE.new (A := A) (C := C) (S := S) (D := D) (Y := Y) hS3
  generalize w3.alloc (.cells #[.int .i64 A, .int .i64 C, .int .i64 S, .int .i64 D, .int .i64 Y] 71) = W3 at *
  generalize w3.heap.size = b at *
  obtain ⟨⟨m0, m1, m2, m3, m4, m5⟩, y0, y1, y2, y3, y4⟩ := hE3.cells
  clear hS3
  go_wp2_with fail
  refine (DU.out _).mono ?_; rintro e w4 ⟨rfl, hb4⟩
  have hE4 := hE3.grew hb4
  clear m0 m1 m2 m3 m4 m5 y0 y1 y2 y3 y4 hE3 hb4 DU
  obtain ⟨⟨m0, m1, m2, m3, m4, m5⟩, y0, y1, y2, y3, y4⟩ := hE4.cells
  go_wp2_with fail
  refine (TK.out _).mono ?_; rintro e w5 ⟨rfl, hb5⟩
  have hE5 := hE4.grew hb5
  clear m0 m1 m2 m3 m4 m5 y0 y1 y2 y3 y4 hE4 hb5 TK
  go_upto_region 8 with fail
  have hF5 : RsF w B x hv (t.ask 1 eI 0 0).2 P T b w5.heap.size A C S D Y A C 2 who Y (w5.alloc (.cells #[.int .i64 A, .int .i64 C, .int .i64 2, .int .i64 who, .int .i64 Y] 71)) := ⟨hE5.grew ((Below.refl _ _).alloc (Nat.le_refl _) _), Blk.new _ _ _, hE5.rs.tch.size⟩
  generalize w5.alloc (.cells #[.int .i64 A, .int .i64 C, .int .i64 2, .int .i64 who, .int .i64 Y] 71) = W5 at *
  generalize w5.heap.size = b2 at *
  have hF5d := hF5.drew
  have CA := Lib.hid (fun W (h : RsF w B x hv (t.ask 1 eI 0 0).2 P T b b2 A C S D Y A C 2 who Y W) => h.cas eI z E)
  clear hE5
  go_wp2_with fail
  go_region_held3 (fun W' => (W'.cell? ⟨w.heap.size, 0, none⟩ = some (.int .i64 P) ∧ W'.cell? ⟨w.heap.size, 1, none⟩ = some (.int .i64 T) ∧ W'.cell? ⟨w.heap.size, 2, none⟩ = some (.int .i64 1) ∧ W'.cell? ⟨w.heap.size, 3, none⟩ = some (.int .i64 (baseI P T 1)) ∧ W'.cell? ⟨w.heap.size, 4, none⟩ = some (.int .i64 (tabI T 1)) ∧ W'.cell? ⟨w.heap.size, 5, none⟩ = some (.int .i64 (baseI P T 1 + 64 * P))) ∧ (W'.cell? ⟨b2, 0, none⟩ = some (.int .i64 A) ∧ W'.cell? ⟨b2, 1, none⟩ = some (.int .i64 C) ∧ W'.cell? ⟨b2, 2, none⟩ = some (.int .i64 2) ∧ W'.cell? ⟨b2, 3, none⟩ = some (.int .i64 who) ∧ W'.cell? ⟨b2, 4, none⟩ = some (.int .i64 Y)))
    ((with_reducible exact RsF.cells (by assumption)))
    (first
      | (go_at_call 24; refine (PE.out _).mono ?_; rintro e w6 ⟨rfl, hb6⟩; have hF6 := RsF.grew (by assumption) hb6)
      | (go_at_call 40; refine (WO.out _).mono ?_; rintro e w7 ⟨rfl, hb7⟩; have hF7 := RsF.grew (by assumption) hb7)
      | (go_at_call 39; refine (CA.out _ (by assumption)).mono ?_; rintro e w8 ⟨rfl, hF8⟩))
  all_goals
    replace hF8 := hF8.re
    have st := hF8.rs.stop
    clear hF5 hF5d CA WO
    try clear hF6 hb6
    try clear hF7 hb7
    rw [h2] at st
    obtain ⟨hT9, ht9, hR9⟩ := hF8.rs.ret rw0
    dsimp only [rw0, Swr.V] at hT9 ht9 hR9
    obtain ⟨v0, v1, v2, v3, v4⟩ := hF8.rs.res.five
    have q0 := hF8.rs.res.frozen 0
    have q1 := hF8.rs.res.frozen 1
    have q2 := hF8.rs.res.frozen 2
    have q3 := hF8.rs.res.frozen 3
    have q4 := hF8.rs.res.frozen 4
    replace hT9 := Lib.hid hT9
    replace ht9 := Lib.hid ht9
    replace hR9 := Lib.hid hR9
    clear hF8
    go_wp2
    obtain ⟨u0, u1, u2, u3, u4⟩ := hR9.out.five
    refine bodyPost_ret (v := .agg (Swr.V rw0)) (by simp [results, Tryz.results10, go_sem, Swr.V, rw0, u0, u1, u2, u3, u4]) rfl ⟨rfl, hT9.out, ht9.out⟩
set_option maxRecDepth 100000 in
set_option maxHeartbeats 4000000 in
theorem rsw_losts (hT : TapeAt w B x hv t) (hx : x < w.heap.size) (hB : ∀ g, hv.ownBlock = some g → g < w.heap.size) (hm : t.H.length ≤ 1000000) (hU : ∀ z ∈ t.H, U64 z) (hE : wrap64 (tabI T 1 + pg) = eI) (h1 : (t.ask 1 eI 0 0).2.st = false) (hz : (t.ask 1 eI 0 0).1 = z) (hD : ∀ W, Calls Tryz.prog 36 #[.int .u64 z] W fun e w' => e = .returned (.tuple #[.agg #[.int .i64 A, .int .i64 C, .int .i64 S, .int .i64 D, .int .i64 Y], .int .i64 0]) ∧ Below W.heap.size W w') (hS2' : (S == 2) = false) (hA : (A == 2) = false) (hd : dueB A C S D Y cy = true) (hg : tkB A C S D Y 2 who = true) (E : Int) (hEE : encE A C 2 who Y = E) (h2 : ((t.ask 1 eI 0 0).2.ask 4 eI z E).2.st = false) (h3 : (((t.ask 1 eI 0 0).2.ask 4 eI z E).1 == z) = false) :
    Calls Tryz.prog 10 #[.pointer (some ⟨x, 0, none⟩), .agg #[.int .i64 P, .int .i64 T, .int .i64 1, .int .i64 (baseI P T 1), .int .i64 (tabI T 1), .int .i64 (baseI P T 1 + 64 * P)], .int .i64 who, .int .i64 cy, .int .i64 pg] w (RsPost w B x hv ⟨true, false, false, true, 0⟩ ((t.ask 1 eI 0 0).2.ask 4 eI z E).2) := by
  have PE := Lib.hid (fun W => pmPage_any P T 1 (baseI P T 1) (tabI T 1) (baseI P T 1 + 64 * P) pg W)
  rw [hE] at PE
  have hS := RsS.new (P := P) (T := T) hT hx hB hm hU
  unfold RsPost
  clear hT hB hm hE
  go_enter Tryz.func10, Tryz.ntmps10
  go_upto_region 1 with fail
  generalize (w.alloc (.cells #[.int .i64 P, .int .i64 T, .int .i64 1, .int .i64 (baseI P T 1), .int .i64 (tabI T 1), .int .i64 (baseI P T 1 + 64 * P)] 33)).alloc (.cells #[.bool false, .bool false, .bool false, .bool false, .int .i64 0] 54) = W at *
  obtain ⟨x0, x1, x2, x3, x4, x5⟩ := hS.six
  go_wp2_with fail
  refine (PE.out _).mono ?_; rintro e w1 ⟨rfl, hb1⟩
  have hS1 := hS.grew hb1
  clear x0 x1 x2 x3 x4 x5 hS hb1
  go_wp2_with fail
  refine (hS1.load eI).mono ?_; rintro e w2 ⟨rfl, hS2⟩
  clear hS1
  have st := hS2.stop
  have DU := Lib.hid (fun W => rdue_any A C S D Y cy W)
  rw [hd] at DU
  clear hd
  have TK := Lib.hid (fun W => rtaken_yes W hg)
  have WO := Lib.hid (fun W => rword_any A C 2 who Y W)
  rw [eencV_yes (by unfold tkB at hg; rw [Bool.and_eq_true] at hg; exact hg.2), hEE] at WO
  clear hg hEE
  rw [h1] at st
  rw [hz] at *
  have DE := Lib.hid hD
  clear hD
  go_wp2_with fail
  refine (DE.out _).mono ?_; rintro e w3 ⟨rfl, hb3⟩
  have hS3 := hS2.grew hb3
  clear DE st hb3 hS2
  go_upto_region 5 with fail
  have hE3 := RsE.new (A := A) (C := C) (S := S) (D := D) (Y := Y) hS3
  generalize w3.alloc (.cells #[.int .i64 A, .int .i64 C, .int .i64 S, .int .i64 D, .int .i64 Y] 71) = W3 at *
  generalize w3.heap.size = b at *
  obtain ⟨⟨m0, m1, m2, m3, m4, m5⟩, y0, y1, y2, y3, y4⟩ := hE3.cells
  clear hS3
  go_wp2_with fail
  refine (DU.out _).mono ?_; rintro e w4 ⟨rfl, hb4⟩
  have hE4 := hE3.grew hb4
  clear m0 m1 m2 m3 m4 m5 y0 y1 y2 y3 y4 hE3 hb4 DU
  obtain ⟨⟨m0, m1, m2, m3, m4, m5⟩, y0, y1, y2, y3, y4⟩ := hE4.cells
  go_wp2_with fail
  refine (TK.out _).mono ?_; rintro e w5 ⟨rfl, hb5⟩
  have hE5 := hE4.grew hb5
  clear m0 m1 m2 m3 m4 m5 y0 y1 y2 y3 y4 hE4 hb5 TK
  go_upto_region 8 with fail
  have hF5 : RsF w B x hv (t.ask 1 eI 0 0).2 P T b w5.heap.size A C S D Y A C 2 who Y (w5.alloc (.cells #[.int .i64 A, .int .i64 C, .int .i64 2, .int .i64 who, .int .i64 Y] 71)) := ⟨hE5.grew ((Below.refl _ _).alloc (Nat.le_refl _) _), Blk.new _ _ _, hE5.rs.tch.size⟩
  generalize w5.alloc (.cells #[.int .i64 A, .int .i64 C, .int .i64 2, .int .i64 who, .int .i64 Y] 71) = W5 at *
  generalize w5.heap.size = b2 at *
  have hF5d := hF5.drew
  have CA := Lib.hid (fun W (h : RsF w B x hv (t.ask 1 eI 0 0).2 P T b b2 A C S D Y A C 2 who Y W) => h.cas eI z E)
  rw [h3] at CA
  clear hE5
  go_wp2_with fail
  go_region_held3 (fun W' => (W'.cell? ⟨w.heap.size, 0, none⟩ = some (.int .i64 P) ∧ W'.cell? ⟨w.heap.size, 1, none⟩ = some (.int .i64 T) ∧ W'.cell? ⟨w.heap.size, 2, none⟩ = some (.int .i64 1) ∧ W'.cell? ⟨w.heap.size, 3, none⟩ = some (.int .i64 (baseI P T 1)) ∧ W'.cell? ⟨w.heap.size, 4, none⟩ = some (.int .i64 (tabI T 1)) ∧ W'.cell? ⟨w.heap.size, 5, none⟩ = some (.int .i64 (baseI P T 1 + 64 * P))) ∧ (W'.cell? ⟨b2, 0, none⟩ = some (.int .i64 A) ∧ W'.cell? ⟨b2, 1, none⟩ = some (.int .i64 C) ∧ W'.cell? ⟨b2, 2, none⟩ = some (.int .i64 2) ∧ W'.cell? ⟨b2, 3, none⟩ = some (.int .i64 who) ∧ W'.cell? ⟨b2, 4, none⟩ = some (.int .i64 Y)))
    ((with_reducible exact RsF.cells (by assumption)))
    (first
      | (go_at_call 24; refine (PE.out _).mono ?_; rintro e w6 ⟨rfl, hb6⟩; have hF6 := RsF.grew (by assumption) hb6)
      | (go_at_call 40; refine (WO.out _).mono ?_; rintro e w7 ⟨rfl, hb7⟩; have hF7 := RsF.grew (by assumption) hb7)
      | (go_at_call 39; refine (CA.out _ (by assumption)).mono ?_; rintro e w8 ⟨rfl, hF8⟩))
  all_goals
    replace hF8 := hF8.re
    have st := hF8.rs.stop
    clear hF5 hF5d CA WO
    try clear hF6 hb6
    try clear hF7 hb7
    rw [h2] at st
    obtain ⟨hT9, ht9, hR9⟩ := hF8.rs.ret ⟨true, false, false, true, 0⟩
    dsimp only [rw0, Swr.V] at hT9 ht9 hR9
    obtain ⟨v0, v1, v2, v3, v4⟩ := hF8.rs.res.five
    have q0 := hF8.rs.res.frozen 0
    have q1 := hF8.rs.res.frozen 1
    have q2 := hF8.rs.res.frozen 2
    have q3 := hF8.rs.res.frozen 3
    have q4 := hF8.rs.res.frozen 4
    replace hT9 := Lib.hid hT9
    replace ht9 := Lib.hid ht9
    replace hR9 := Lib.hid hR9
    clear hF8
    go_wp2
    obtain ⟨u0, u1, u2, u3, u4⟩ := hR9.out.five
    refine bodyPost_ret (v := .agg (Swr.V ⟨true, false, false, true, 0⟩)) (by simp [results, Tryz.results10, go_sem, Swr.V, rw0, u0, u1, u2, u3, u4]) rfl ⟨rfl, hT9.out, ht9.out⟩
set_option maxRecDepth 100000 in
set_option maxHeartbeats 4000000 in
theorem rsw_stop2l (hT : TapeAt w B x hv t) (hx : x < w.heap.size) (hB : ∀ g, hv.ownBlock = some g → g < w.heap.size) (hm : t.H.length ≤ 1000000) (hU : ∀ z ∈ t.H, U64 z) (hE : wrap64 (tabI T 1 + pg) = eI) (h1 : (t.ask 1 eI 0 0).2.st = false) (hz : (t.ask 1 eI 0 0).1 = z) (hD : ∀ W, Calls Tryz.prog 36 #[.int .u64 z] W fun e w' => e = .returned (.tuple #[.agg #[.int .i64 A, .int .i64 C, .int .i64 S, .int .i64 D, .int .i64 Y], .int .i64 0]) ∧ Below W.heap.size W w') (hS2' : (S == 2) = false) (hA : A = 2) (hw : wrap64 (pg + C) = pg + C) (hp : ¬ pg + C > P) (hd : dueB A C S D Y cy = true) (hg : tkB A C S D Y 2 who = true) (E : Int) (hEE : encE A C 2 who Y = E) (h2 : ((t.ask 1 eI 0 0).2.ask 4 eI z E).2.st = true) :
    Calls Tryz.prog 10 #[.pointer (some ⟨x, 0, none⟩), .agg #[.int .i64 P, .int .i64 T, .int .i64 1, .int .i64 (baseI P T 1), .int .i64 (tabI T 1), .int .i64 (baseI P T 1 + 64 * P)], .int .i64 who, .int .i64 cy, .int .i64 pg] w (RsPost w B x hv rw0 ((t.ask 1 eI 0 0).2.ask 4 eI z E).2) := by
  have PE := Lib.hid (fun W => pmPage_any P T 1 (baseI P T 1) (tabI T 1) (baseI P T 1 + 64 * P) pg W)
  rw [hE] at PE
  have hS := RsS.new (P := P) (T := T) hT hx hB hm hU
  unfold RsPost
  clear hT hB hm hE
  go_enter Tryz.func10, Tryz.ntmps10
  go_upto_region 1 with fail
  generalize (w.alloc (.cells #[.int .i64 P, .int .i64 T, .int .i64 1, .int .i64 (baseI P T 1), .int .i64 (tabI T 1), .int .i64 (baseI P T 1 + 64 * P)] 33)).alloc (.cells #[.bool false, .bool false, .bool false, .bool false, .int .i64 0] 54) = W at *
  obtain ⟨x0, x1, x2, x3, x4, x5⟩ := hS.six
  go_wp2_with fail
  refine (PE.out _).mono ?_; rintro e w1 ⟨rfl, hb1⟩
  have hS1 := hS.grew hb1
  clear x0 x1 x2 x3 x4 x5 hS hb1
  go_wp2_with fail
  refine (hS1.load eI).mono ?_; rintro e w2 ⟨rfl, hS2⟩
  clear hS1
  have st := hS2.stop
  subst hA
  have DU := Lib.hid (fun W => rdue_any 2 C S D Y cy W)
  rw [hd] at DU
  clear hd
  have TK := Lib.hid (fun W => rtaken_yes W hg)
  have WO := Lib.hid (fun W => rword_any 2 C 2 who Y W)
  rw [eencV_yes (by unfold tkB at hg; rw [Bool.and_eq_true] at hg; exact hg.2), hEE] at WO
  clear hg hEE
  rw [h1] at st
  rw [hz] at *
  have DE := Lib.hid hD
  clear hD
  go_wp2_with fail
  refine (DE.out _).mono ?_; rintro e w3 ⟨rfl, hb3⟩
  have hS3 := hS2.grew hb3
  clear DE st hb3 hS2
  go_upto_region 5 with fail
  have hE3 := RsE.new (A := 2) (C := C) (S := S) (D := D) (Y := Y) hS3
  generalize w3.alloc (.cells #[.int .i64 2, .int .i64 C, .int .i64 S, .int .i64 D, .int .i64 Y] 71) = W3 at *
  generalize w3.heap.size = b at *
  obtain ⟨⟨m0, m1, m2, m3, m4, m5⟩, y0, y1, y2, y3, y4⟩ := hE3.cells
  clear hS3
  go_wp2_with fail
  refine (DU.out _).mono ?_; rintro e w4 ⟨rfl, hb4⟩
  have hE4 := hE3.grew hb4
  clear m0 m1 m2 m3 m4 m5 y0 y1 y2 y3 y4 hE3 hb4 DU
  obtain ⟨⟨m0, m1, m2, m3, m4, m5⟩, y0, y1, y2, y3, y4⟩ := hE4.cells
  go_wp2_with fail
  refine (TK.out _).mono ?_; rintro e w5 ⟨rfl, hb5⟩
  have hE5 := hE4.grew hb5
  clear m0 m1 m2 m3 m4 m5 y0 y1 y2 y3 y4 hE4 hb5 TK
  go_upto_region 8 with fail
  have hF5 : RsF w B x hv (t.ask 1 eI 0 0).2 P T b w5.heap.size 2 C S D Y 2 C 2 who Y (w5.alloc (.cells #[.int .i64 2, .int .i64 C, .int .i64 2, .int .i64 who, .int .i64 Y] 71)) := ⟨hE5.grew ((Below.refl _ _).alloc (Nat.le_refl _) _), Blk.new _ _ _, hE5.rs.tch.size⟩
  generalize w5.alloc (.cells #[.int .i64 2, .int .i64 C, .int .i64 2, .int .i64 who, .int .i64 Y] 71) = W5 at *
  generalize w5.heap.size = b2 at *
  have hF5d := hF5.drew
  have CA := Lib.hid (fun W (h : RsF w B x hv (t.ask 1 eI 0 0).2 P T b b2 2 C S D Y 2 C 2 who Y W) => h.cas eI z E)
  clear hE5
  go_wp2_with fail
  go_region_held3 (fun W' => (W'.cell? ⟨w.heap.size, 0, none⟩ = some (.int .i64 P) ∧ W'.cell? ⟨w.heap.size, 1, none⟩ = some (.int .i64 T) ∧ W'.cell? ⟨w.heap.size, 2, none⟩ = some (.int .i64 1) ∧ W'.cell? ⟨w.heap.size, 3, none⟩ = some (.int .i64 (baseI P T 1)) ∧ W'.cell? ⟨w.heap.size, 4, none⟩ = some (.int .i64 (tabI T 1)) ∧ W'.cell? ⟨w.heap.size, 5, none⟩ = some (.int .i64 (baseI P T 1 + 64 * P))) ∧ (W'.cell? ⟨b2, 0, none⟩ = some (.int .i64 2) ∧ W'.cell? ⟨b2, 1, none⟩ = some (.int .i64 C) ∧ W'.cell? ⟨b2, 2, none⟩ = some (.int .i64 2) ∧ W'.cell? ⟨b2, 3, none⟩ = some (.int .i64 who) ∧ W'.cell? ⟨b2, 4, none⟩ = some (.int .i64 Y)))
    ((with_reducible exact RsF.cells (by assumption)))
    (first
      | (go_at_call 24; refine (PE.out _).mono ?_; rintro e w6 ⟨rfl, hb6⟩; have hF6 := RsF.grew (by assumption) hb6)
      | (go_at_call 40; refine (WO.out _).mono ?_; rintro e w7 ⟨rfl, hb7⟩; have hF7 := RsF.grew (by assumption) hb7)
      | (go_at_call 39; refine (CA.out _ (by assumption)).mono ?_; rintro e w8 ⟨rfl, hF8⟩))
  all_goals
    replace hF8 := hF8.re
    have st := hF8.rs.stop
    clear hF5 hF5d CA WO
    try clear hF6 hb6
    try clear hF7 hb7
    rw [h2] at st
    obtain ⟨hT9, ht9, hR9⟩ := hF8.rs.ret rw0
    dsimp only [rw0, Swr.V] at hT9 ht9 hR9
    obtain ⟨v0, v1, v2, v3, v4⟩ := hF8.rs.res.five
    have q0 := hF8.rs.res.frozen 0
    have q1 := hF8.rs.res.frozen 1
    have q2 := hF8.rs.res.frozen 2
    have q3 := hF8.rs.res.frozen 3
    have q4 := hF8.rs.res.frozen 4
    replace hT9 := Lib.hid hT9
    replace ht9 := Lib.hid ht9
    replace hR9 := Lib.hid hR9
    clear hF8
    go_wp2
    obtain ⟨u0, u1, u2, u3, u4⟩ := hR9.out.five
    refine bodyPost_ret (v := .agg (Swr.V rw0)) (by simp [results, Tryz.results10, go_sem, Swr.V, rw0, u0, u1, u2, u3, u4]) rfl ⟨rfl, hT9.out, ht9.out⟩
set_option maxRecDepth 100000 in
set_option maxHeartbeats 4000000 in
theorem rsw_lostl (hT : TapeAt w B x hv t) (hx : x < w.heap.size) (hB : ∀ g, hv.ownBlock = some g → g < w.heap.size) (hm : t.H.length ≤ 1000000) (hU : ∀ z ∈ t.H, U64 z) (hE : wrap64 (tabI T 1 + pg) = eI) (h1 : (t.ask 1 eI 0 0).2.st = false) (hz : (t.ask 1 eI 0 0).1 = z) (hD : ∀ W, Calls Tryz.prog 36 #[.int .u64 z] W fun e w' => e = .returned (.tuple #[.agg #[.int .i64 A, .int .i64 C, .int .i64 S, .int .i64 D, .int .i64 Y], .int .i64 0]) ∧ Below W.heap.size W w') (hS2' : (S == 2) = false) (hA : A = 2) (hw : wrap64 (pg + C) = pg + C) (hp : ¬ pg + C > P) (hd : dueB A C S D Y cy = true) (hg : tkB A C S D Y 2 who = true) (E : Int) (hEE : encE A C 2 who Y = E) (h2 : ((t.ask 1 eI 0 0).2.ask 4 eI z E).2.st = false) (h3 : (((t.ask 1 eI 0 0).2.ask 4 eI z E).1 == z) = false) :
    Calls Tryz.prog 10 #[.pointer (some ⟨x, 0, none⟩), .agg #[.int .i64 P, .int .i64 T, .int .i64 1, .int .i64 (baseI P T 1), .int .i64 (tabI T 1), .int .i64 (baseI P T 1 + 64 * P)], .int .i64 who, .int .i64 cy, .int .i64 pg] w (RsPost w B x hv ⟨true, false, false, true, 0⟩ ((t.ask 1 eI 0 0).2.ask 4 eI z E).2) := by
  have PE := Lib.hid (fun W => pmPage_any P T 1 (baseI P T 1) (tabI T 1) (baseI P T 1 + 64 * P) pg W)
  rw [hE] at PE
  have hS := RsS.new (P := P) (T := T) hT hx hB hm hU
  unfold RsPost
  clear hT hB hm hE
  go_enter Tryz.func10, Tryz.ntmps10
  go_upto_region 1 with fail
  generalize (w.alloc (.cells #[.int .i64 P, .int .i64 T, .int .i64 1, .int .i64 (baseI P T 1), .int .i64 (tabI T 1), .int .i64 (baseI P T 1 + 64 * P)] 33)).alloc (.cells #[.bool false, .bool false, .bool false, .bool false, .int .i64 0] 54) = W at *
  obtain ⟨x0, x1, x2, x3, x4, x5⟩ := hS.six
  go_wp2_with fail
  refine (PE.out _).mono ?_; rintro e w1 ⟨rfl, hb1⟩
  have hS1 := hS.grew hb1
  clear x0 x1 x2 x3 x4 x5 hS hb1
  go_wp2_with fail
  refine (hS1.load eI).mono ?_; rintro e w2 ⟨rfl, hS2⟩
  clear hS1
  have st := hS2.stop
  subst hA
  have DU := Lib.hid (fun W => rdue_any 2 C S D Y cy W)
  rw [hd] at DU
  clear hd
  have TK := Lib.hid (fun W => rtaken_yes W hg)
  have WO := Lib.hid (fun W => rword_any 2 C 2 who Y W)
  rw [eencV_yes (by unfold tkB at hg; rw [Bool.and_eq_true] at hg; exact hg.2), hEE] at WO
  clear hg hEE
  rw [h1] at st
  rw [hz] at *
  have DE := Lib.hid hD
  clear hD
  go_wp2_with fail
  refine (DE.out _).mono ?_; rintro e w3 ⟨rfl, hb3⟩
  have hS3 := hS2.grew hb3
  clear DE st hb3 hS2
  go_upto_region 5 with fail
  have hE3 := RsE.new (A := 2) (C := C) (S := S) (D := D) (Y := Y) hS3
  generalize w3.alloc (.cells #[.int .i64 2, .int .i64 C, .int .i64 S, .int .i64 D, .int .i64 Y] 71) = W3 at *
  generalize w3.heap.size = b at *
  obtain ⟨⟨m0, m1, m2, m3, m4, m5⟩, y0, y1, y2, y3, y4⟩ := hE3.cells
  clear hS3
  go_wp2_with fail
  refine (DU.out _).mono ?_; rintro e w4 ⟨rfl, hb4⟩
  have hE4 := hE3.grew hb4
  clear m0 m1 m2 m3 m4 m5 y0 y1 y2 y3 y4 hE3 hb4 DU
  obtain ⟨⟨m0, m1, m2, m3, m4, m5⟩, y0, y1, y2, y3, y4⟩ := hE4.cells
  go_wp2_with fail
  refine (TK.out _).mono ?_; rintro e w5 ⟨rfl, hb5⟩
  have hE5 := hE4.grew hb5
  clear m0 m1 m2 m3 m4 m5 y0 y1 y2 y3 y4 hE4 hb5 TK
  go_upto_region 8 with fail
  have hF5 : RsF w B x hv (t.ask 1 eI 0 0).2 P T b w5.heap.size 2 C S D Y 2 C 2 who Y (w5.alloc (.cells #[.int .i64 2, .int .i64 C, .int .i64 2, .int .i64 who, .int .i64 Y] 71)) := ⟨hE5.grew ((Below.refl _ _).alloc (Nat.le_refl _) _), Blk.new _ _ _, hE5.rs.tch.size⟩
  generalize w5.alloc (.cells #[.int .i64 2, .int .i64 C, .int .i64 2, .int .i64 who, .int .i64 Y] 71) = W5 at *
  generalize w5.heap.size = b2 at *
  have hF5d := hF5.drew
  have CA := Lib.hid (fun W (h : RsF w B x hv (t.ask 1 eI 0 0).2 P T b b2 2 C S D Y 2 C 2 who Y W) => h.cas eI z E)
  rw [h3] at CA
  clear hE5
  go_wp2_with fail
  go_region_held3 (fun W' => (W'.cell? ⟨w.heap.size, 0, none⟩ = some (.int .i64 P) ∧ W'.cell? ⟨w.heap.size, 1, none⟩ = some (.int .i64 T) ∧ W'.cell? ⟨w.heap.size, 2, none⟩ = some (.int .i64 1) ∧ W'.cell? ⟨w.heap.size, 3, none⟩ = some (.int .i64 (baseI P T 1)) ∧ W'.cell? ⟨w.heap.size, 4, none⟩ = some (.int .i64 (tabI T 1)) ∧ W'.cell? ⟨w.heap.size, 5, none⟩ = some (.int .i64 (baseI P T 1 + 64 * P))) ∧ (W'.cell? ⟨b2, 0, none⟩ = some (.int .i64 2) ∧ W'.cell? ⟨b2, 1, none⟩ = some (.int .i64 C) ∧ W'.cell? ⟨b2, 2, none⟩ = some (.int .i64 2) ∧ W'.cell? ⟨b2, 3, none⟩ = some (.int .i64 who) ∧ W'.cell? ⟨b2, 4, none⟩ = some (.int .i64 Y)))
    ((with_reducible exact RsF.cells (by assumption)))
    (first
      | (go_at_call 24; refine (PE.out _).mono ?_; rintro e w6 ⟨rfl, hb6⟩; have hF6 := RsF.grew (by assumption) hb6)
      | (go_at_call 40; refine (WO.out _).mono ?_; rintro e w7 ⟨rfl, hb7⟩; have hF7 := RsF.grew (by assumption) hb7)
      | (go_at_call 39; refine (CA.out _ (by assumption)).mono ?_; rintro e w8 ⟨rfl, hF8⟩))
  all_goals
    replace hF8 := hF8.re
    have st := hF8.rs.stop
    clear hF5 hF5d CA WO
    try clear hF6 hb6
    try clear hF7 hb7
    rw [h2] at st
    obtain ⟨hT9, ht9, hR9⟩ := hF8.rs.ret ⟨true, false, false, true, 0⟩
    dsimp only [rw0, Swr.V] at hT9 ht9 hR9
    obtain ⟨v0, v1, v2, v3, v4⟩ := hF8.rs.res.five
    have q0 := hF8.rs.res.frozen 0
    have q1 := hF8.rs.res.frozen 1
    have q2 := hF8.rs.res.frozen 2
    have q3 := hF8.rs.res.frozen 3
    have q4 := hF8.rs.res.frozen 4
    replace hT9 := Lib.hid hT9
    replace ht9 := Lib.hid ht9
    replace hR9 := Lib.hid hR9
    clear hF8
    go_wp2
    obtain ⟨u0, u1, u2, u3, u4⟩ := hR9.out.five
    refine bodyPost_ret (v := .agg (Swr.V ⟨true, false, false, true, 0⟩)) (by simp [results, Tryz.results10, go_sem, Swr.V, rw0, u0, u1, u2, u3, u4]) rfl ⟨rfl, hT9.out, ht9.out⟩
end
end Go.Proofs.YtnodeojeijekcaaGreat
