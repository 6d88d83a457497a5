/- What arena.repeat returns and writes, and the document's Left. No condition but that the numbers fit their kinds and the cells are there. -/
import Derived.Test.YtngmflbnkpiojaaPerg
import Derived.Laws.OwnMore
import Derived.Deep.RegionHeld3
namespace Go.Proofs.Ytngmflbnkpiojaa
open Go.RowKit
set_option linter.unusedVariables false
set_option linter.unusedSimpArgs false

/-- a slice of words of one's own: where it lies, what it holds -/
structure Rw (w : World) (B g n c : Nat) (cs : List Int) : Prop where
  own : w.ownsRow B 30 1 (.slice (some ⟨g, 0, none⟩) n c) n (cs.map (Value.int .u64))
theorem Rw.len {w : World} {B g n c : Nat} {cs : List Int} (h : Rw w B g n c cs) : cs.length = n := by have := h.own.1; simpa using this
theorem Rw.cell {w : World} {B g n c : Nat} {cs : List Int} (h : Rw w B g n c cs) (i : Nat) (hi : i < n) : w.cell? ⟨g, i, none⟩ = some (.int .u64 (cs.getD i 0)) := by
  have hl := h.len
  rw [h.own.cellAt i (by omega)]
  simp [List.getD_eq_getElem?_getD, List.getElem?_eq_getElem (show i < cs.length by omega)]
theorem Rw.frozen {w : World} {B g n c : Nat} {cs : List Int} (h : Rw w B g n c cs) (i : Nat) : w.frozen? ⟨g, i, none⟩ = false := h.own.frozenAt i
theorem Rw.lt {w : World} {B g n c : Nat} {cs : List Int} (h : Rw w B g n c cs) : B ≤ g ∧ g < w.heap.size := h.own.lt g rfl
theorem Rw.of {w w' : World} {B g n c : Nat} {cs : List Int} (h : Rw w B g n c cs) (he : w'.heap[g]? = w.heap[g]?) : Rw w' B g n c cs := by
  obtain ⟨h0⟩ := h
  refine ⟨h0.1, ?_⟩
  rcases h0.2 with ⟨h1, _⟩ | ⟨g', cap', cur, h1, h2, h3, h4⟩
  · simp at h1
  · simp only [Value.slice.injEq, Option.some.injEq, Addr.mk.injEq, and_true, true_and] at h1
    obtain ⟨rfl, rfl⟩ := h1
    exact .inr ⟨g, c, cur, rfl, h2, he.trans h3, h4⟩
theorem Rw.grew {w w' : World} {B g n c : Nat} {cs : List Int} (h : Rw w B g n c cs) (hb : Below w.heap.size w w') : Rw w' B g n c cs := h.of (hb.block g h.lt.2)
theorem Rw.touch {R : Nat → Prop} {w w' : World} {B g n c : Nat} {cs : List Int} (h : Rw w B g n c cs) (ht : Touch R w w') (hn : ¬ R g) : Rw w' B g n c cs := h.of (ht.block g h.lt.2 hn)
theorem Rw.alloc {w : World} {B g n c : Nat} {cs : List Int} (h : Rw w B g n c cs) (o : Obj) : Rw (w.alloc o) B g n c cs := ⟨h.own.alloc o⟩
theorem Rw.set {w : World} {B g n c : Nat} {cs : List Int} (h : Rw w B g n c cs) (i : Nat) (v : Int) : Rw (w.setCell ⟨g, i, none⟩ (.int .u64 v)) B g n c (cs.set i v) := ⟨by
  have := (h.own.stored i (.int .u64 v)).1
  rw [List.map_set]
  exact this⟩

theorem qleft {P : Program} {f : FuncId} {args : Array Value} {w : World} {n : Nat} {v : Value} (h : Calls P f args (w.drewN n) fun e w' => e = .returned v ∧ w.drewN n = w') :
    Calls P f args (w.drewN n) fun e w'' => e = .returned v ∧ ∃ m, w'' = w.drewN m := h.mono fun _ _ ⟨he, hw⟩ => ⟨he, n, hw.symm⟩
/-! the document's Left -/
set_option maxHeartbeats 400000 in
theorem rleft_yes (k seen want put : Int) (w : World) (hk : kindB k = true) :
    Calls Try.prog 37 #[.int .i64 k, .int .u64 seen, .int .u64 want, .int .u64 put] w fun e w' => e = .returned (.tuple #[.int .u64 (leftI k seen want put), .bool true]) ∧ w' = w := by
  by_cases hs : seen = want
  · have h2 : (seen == want) = true := by simp [hs]
    rcases kind_cases hk with rfl | rfl | rfl | rfl | rfl | rfl
    all_goals
      clear hk
      go_enter Try.func37, Try.ntmps37
      go_wp2
      go_ret2
      refine ⟨?_, rfl⟩
      simp [leftI, hs]
  · have h2 : (seen == want) = false := by simp [hs]
    rcases kind_cases hk with rfl | rfl | rfl | rfl | rfl | rfl
    all_goals
      clear hk
      go_enter Try.func37, Try.ntmps37
      go_wp2
      go_ret2
      refine ⟨?_, rfl⟩
      simp [leftI, hs]
set_option maxHeartbeats 400000 in
theorem rleft_no (k seen want put : Int) (w : World) (hk : kindB k = false) :
    Calls Try.prog 37 #[.int .i64 k, .int .u64 seen, .int .u64 want, .int .u64 put] w fun e w' => e = .returned (.tuple #[.int .u64 0, .bool false]) ∧ w' = w := by
  have hk' := of_decide_eq_false hk
  have e1 : (k == 1) = false := beq_eq_false_iff_ne.2 (by omega)
  have e2 : (k == 2) = false := beq_eq_false_iff_ne.2 (by omega)
  have e3 : (k == 3) = false := beq_eq_false_iff_ne.2 (by omega)
  have e4 : (k == 4) = false := beq_eq_false_iff_ne.2 (by omega)
  have e5 : (k == 5) = false := beq_eq_false_iff_ne.2 (by omega)
  have e6 : (k == 6) = false := beq_eq_false_iff_ne.2 (by omega)
  clear hk hk'
  go_enter Try.func37, Try.ntmps37
  go_wp2
  go_ret2
  exact ⟨rfl, rfl⟩

/-! repeat -/
section
variable (who k at' want put seen left : Int)
set_option maxHeartbeats 400000 in
theorem repeat_out (a : Option Addr) (n c : Nat) (w : World) (h : insB n at' = false) :
    Calls Try.prog 30 #[.slice a n c, .agg #[.int .i64 who, .int .i64 k, .int .i64 at', .int .u64 want, .int .u64 put, .int .u64 seen, .int .u64 left]] w fun e w' => e = .returned (.int .i64 5) ∧ Below w.heap.size w w' := by
  have I := Lib.hid (fun W => inside_any a n c at' W)
  rw [h] at I
  go_enter Try.func30, Try.ntmps30
  go_wp2_with fail
  refine (I.out _).mono ?_
  rintro e w1 ⟨rfl, rfl⟩
  go_wp2
  go_ret
  exact ⟨rfl, (Below.refl _ _).alloc (Nat.le_refl _) _⟩


set_option maxHeartbeats 1000000 in
theorem repeat_kind (B g n c : Nat) (cs : List Int) (i : Nat) (w : World) (hR : Rw w B g n c cs) (hi : i < n) (hk : kindB k = false) :
    Calls Try.prog 30 #[.slice (some ⟨g, 0, none⟩) n c, .agg #[.int .i64 who, .int .i64 k, .int .i64 i, .int .u64 want, .int .u64 put, .int .u64 seen, .int .u64 left]] w fun e w' => e = .returned (.int .i64 4) ∧ Below w.heap.size w w' := by
  have I := Lib.hid (fun W => inside_any (some ⟨g, 0, none⟩) n c (i : Int) W)
  rw [show insB n (i : Int) = true from decide_eq_true ⟨by omega, by omega⟩] at I
  have i0 : (0 : Int) ≤ (i : Int) := by omega
  have i1 : (i : Int) < (n : Int) := by omega
  have E := Lib.hid (fun W => effect_no who k i want put seen left W hk)
  have hX := AccAt.new w who k i want put seen left
  have hb0 : Below w.heap.size w (w.alloc (.cells #[.int .i64 who, .int .i64 k, .int .i64 i, .int .u64 want, .int .u64 put, .int .u64 seen, .int .u64 left] 71)) := (Below.refl _ _).alloc (Nat.le_refl _) _
  have hs0 := hb0.size
  have hR0 := hR.alloc (.cells #[.int .i64 who, .int .i64 k, .int .i64 i, .int .u64 want, .int .u64 put, .int .u64 seen, .int .u64 left] 71)
  have hgl := hR.lt.2
  go_enter Try.func30, Try.ntmps30
  have y2 := hX.c2
  go_wp2_with fail
  generalize w.alloc (.cells #[.int .i64 who, .int .i64 k, .int .i64 i, .int .u64 want, .int .u64 put, .int .u64 seen, .int .u64 left] 71) = w0 at *
  have x0 := hX.c0
  have x1 := hX.c1
  have x2 := hX.c2
  have x3 := hX.c3
  have x4 := hX.c4
  have x5 := hX.c5
  have x6 := hX.c6
  refine (I.out _).mono ?_
  rintro e w1 ⟨rfl, hw1⟩
  obtain rfl := hw1
  go_wp2_with fail
  refine (E.out _).mono ?_
  rintro e w2 ⟨rfl, hb2⟩
  have hX2 := hX.grew hb2
  have x5 := hX2.c5
  go_wp2
  go_quiet (fail)
  go_wp2
  go_ret
  exact ⟨rfl, below_drewN (hb0.trans (hb2.mono hs0)) _⟩

set_option maxHeartbeats 1000000 in
theorem repeat_seen (B g n c : Nat) (cs : List Int) (i : Nat) (w : World) (hR : Rw w B g n c cs) (hi : i < n) (hk : kindB k = true) (hs : seen ≠ cs.getD i 0) :
    Calls Try.prog 30 #[.slice (some ⟨g, 0, none⟩) n c, .agg #[.int .i64 who, .int .i64 k, .int .i64 i, .int .u64 want, .int .u64 put, .int .u64 seen, .int .u64 left]] w fun e w' => e = .returned (.int .i64 4) ∧ Below w.heap.size w w' := by
  have I := Lib.hid (fun W => inside_any (some ⟨g, 0, none⟩) n c (i : Int) W)
  rw [show insB n (i : Int) = true from decide_eq_true ⟨by omega, by omega⟩] at I
  have i0 : (0 : Int) ≤ (i : Int) := by omega
  have i1 : (i : Int) < (n : Int) := by omega
  have E := Lib.hid (fun W => effect_yes who k i want put seen left W hk)
  have hX := AccAt.new w who k i want put seen left
  have hb0 : Below w.heap.size w (w.alloc (.cells #[.int .i64 who, .int .i64 k, .int .i64 i, .int .u64 want, .int .u64 put, .int .u64 seen, .int .u64 left] 71)) := (Below.refl _ _).alloc (Nat.le_refl _) _
  have hs0 := hb0.size
  have hR0 := hR.alloc (.cells #[.int .i64 who, .int .i64 k, .int .i64 i, .int .u64 want, .int .u64 put, .int .u64 seen, .int .u64 left] 71)
  have hgl := hR.lt.2
  go_enter Try.func30, Try.ntmps30
  have y2 := hX.c2
  go_wp2_with fail
  generalize w.alloc (.cells #[.int .i64 who, .int .i64 k, .int .i64 i, .int .u64 want, .int .u64 put, .int .u64 seen, .int .u64 left] 71) = w0 at *
  have x0 := hX.c0
  have x1 := hX.c1
  have x2 := hX.c2
  have x3 := hX.c3
  have x4 := hX.c4
  have x5 := hX.c5
  have x6 := hX.c6
  refine (I.out _).mono ?_
  rintro e w1 ⟨rfl, hw1⟩
  obtain rfl := hw1
  go_wp2_with fail
  refine (E.out _).mono ?_
  rintro e w2 ⟨bw, bp, rfl, hw, hp, hb2⟩
  have hX2 := hX.grew hb2
  have hR2 := hR0.grew hb2
  have hbb := hb0.trans (hb2.mono hs0)
  clear x0 x1 x2 x3 x4 x5 x6 hX hR0
  have x2 := hX2.c2
  have x5 := hX2.c5
  have x6 := hX2.c6
  have cc := hR2.cell i hi
  generalize actF k bw bp = fv at *
  generalize cs.getD i 0 = z at *
  have hz : (seen != z) = true := by simp [hs]
  go_wp2
  go_quiet (fail)
  go_wp2
  go_ret
  exact ⟨rfl, below_drewN hbb _⟩

set_option maxHeartbeats 400000 in
theorem repeat_left1 (B g n c : Nat) (cs : List Int) (i : Nat) (w : World) (hR : Rw w B g n c cs) (hi : i < n) (hs : seen = cs.getD i 0) (hl : left ≠ leftI 1 seen want put) :
    Calls Try.prog 30 #[.slice (some ⟨g, 0, none⟩) n c, .agg #[.int .i64 who, .int .i64 1, .int .i64 i, .int .u64 want, .int .u64 put, .int .u64 seen, .int .u64 left]] w fun e w' => e = .returned (.int .i64 4) ∧ Below w.heap.size w w' := by
  have HS := Lib.hid hs
  have HLL := Lib.hid hl
  clear hs hl
  have I := Lib.hid (fun W => inside_any (some ⟨g, 0, none⟩) n c (i : Int) W)
  rw [show insB n (i : Int) = true from decide_eq_true ⟨by omega, by omega⟩] at I
  have i0 : (0 : Int) ≤ (i : Int) := by omega
  have i1 : (i : Int) < (n : Int) := by omega
  have E := Lib.hid (fun W => effect_yes who 1 i want put seen left W (by decide))
  have hX := AccAt.new w who 1 i want put seen left
  have hb0 : Below w.heap.size w (w.alloc (.cells #[.int .i64 who, .int .i64 1, .int .i64 i, .int .u64 want, .int .u64 put, .int .u64 seen, .int .u64 left] 71)) := (Below.refl _ _).alloc (Nat.le_refl _) _
  have hs0 := hb0.size
  have hR0 := hR.alloc (.cells #[.int .i64 who, .int .i64 1, .int .i64 i, .int .u64 want, .int .u64 put, .int .u64 seen, .int .u64 left] 71)
  have hgl := hR.lt.2
  go_enter Try.func30, Try.ntmps30
  have y2 := hX.c2
  go_wp2_with fail
  generalize w.alloc (.cells #[.int .i64 who, .int .i64 1, .int .i64 i, .int .u64 want, .int .u64 put, .int .u64 seen, .int .u64 left] 71) = w0 at *
  have x0 := hX.c0
  have x1 := hX.c1
  have x2 := hX.c2
  have x3 := hX.c3
  have x4 := hX.c4
  have x5 := hX.c5
  have x6 := hX.c6
  refine (I.out _).mono ?_
  rintro e w1 ⟨rfl, hw1⟩
  obtain rfl := hw1
  go_wp2_with fail
  refine (E.out _).mono ?_
  rintro e w2 ⟨bw, bp, rfl, hw, hp, hb2⟩
  have hX2 := hX.grew hb2
  have hR2 := hR0.grew hb2
  have hbb := hb0.trans (hb2.mono hs0)
  clear x0 x1 x2 x3 x4 x5 x6 hX hR0
  have x2 := hX2.c2
  have x5 := hX2.c5
  have x6 := hX2.c6
  have cc := hR2.cell i hi
  have cw : w2.cell? ⟨bw, 0, none⟩ = some (.int .u64 want) := hw.val 0 rfl
  have cp : w2.cell? ⟨bp, 0, none⟩ = some (.int .u64 put) := hp.val 0 rfl
  have L1 := Lib.hid (fun m => qleft (left1 seen want put (w2.drewN m)))
  rw [← HS.out] at cc
  have hz : (seen != seen) = false := by simp
  have hl1 := bne_iff_ne.2 HLL.out
  simp only [actF, Int.reduceEq, if_true, if_false]
  clear E
  generalize leftI 1 seen want put = y1 at *
  go_wp2
  go_quiet ((go_at_call 38; with_reducible exact L1.out _))
  go_wp2
  go_ret
  exact ⟨rfl, below_drewN hbb _⟩

set_option maxHeartbeats 400000 in
theorem repeat_left2 (B g n c : Nat) (cs : List Int) (i : Nat) (w : World) (hR : Rw w B g n c cs) (hi : i < n) (hs : seen = cs.getD i 0) (hl : left ≠ leftI 2 seen want put) :
    Calls Try.prog 30 #[.slice (some ⟨g, 0, none⟩) n c, .agg #[.int .i64 who, .int .i64 2, .int .i64 i, .int .u64 want, .int .u64 put, .int .u64 seen, .int .u64 left]] w fun e w' => e = .returned (.int .i64 4) ∧ Below w.heap.size w w' := by
  have HS := Lib.hid hs
  have HLL := Lib.hid hl
  clear hs hl
  have I := Lib.hid (fun W => inside_any (some ⟨g, 0, none⟩) n c (i : Int) W)
  rw [show insB n (i : Int) = true from decide_eq_true ⟨by omega, by omega⟩] at I
  have i0 : (0 : Int) ≤ (i : Int) := by omega
  have i1 : (i : Int) < (n : Int) := by omega
  have E := Lib.hid (fun W => effect_yes who 2 i want put seen left W (by decide))
  have hX := AccAt.new w who 2 i want put seen left
  have hb0 : Below w.heap.size w (w.alloc (.cells #[.int .i64 who, .int .i64 2, .int .i64 i, .int .u64 want, .int .u64 put, .int .u64 seen, .int .u64 left] 71)) := (Below.refl _ _).alloc (Nat.le_refl _) _
  have hs0 := hb0.size
  have hR0 := hR.alloc (.cells #[.int .i64 who, .int .i64 2, .int .i64 i, .int .u64 want, .int .u64 put, .int .u64 seen, .int .u64 left] 71)
  have hgl := hR.lt.2
  go_enter Try.func30, Try.ntmps30
  have y2 := hX.c2
  go_wp2_with fail
  generalize w.alloc (.cells #[.int .i64 who, .int .i64 2, .int .i64 i, .int .u64 want, .int .u64 put, .int .u64 seen, .int .u64 left] 71) = w0 at *
  have x0 := hX.c0
  have x1 := hX.c1
  have x2 := hX.c2
  have x3 := hX.c3
  have x4 := hX.c4
  have x5 := hX.c5
  have x6 := hX.c6
  refine (I.out _).mono ?_
  rintro e w1 ⟨rfl, hw1⟩
  obtain rfl := hw1
  go_wp2_with fail
  refine (E.out _).mono ?_
  rintro e w2 ⟨bw, bp, rfl, hw, hp, hb2⟩
  have hX2 := hX.grew hb2
  have hR2 := hR0.grew hb2
  have hbb := hb0.trans (hb2.mono hs0)
  clear x0 x1 x2 x3 x4 x5 x6 hX hR0
  have x2 := hX2.c2
  have x5 := hX2.c5
  have x6 := hX2.c6
  have cc := hR2.cell i hi
  have cw : w2.cell? ⟨bw, 0, none⟩ = some (.int .u64 want) := hw.val 0 rfl
  have cp : w2.cell? ⟨bp, 0, none⟩ = some (.int .u64 put) := hp.val 0 rfl
  have L2 := Lib.hid (fun m => qleft (left2 seen want put bp (w2.drewN m) (by simp only [World.cell?_drewN, cp])))
  rw [← HS.out] at cc
  have hz : (seen != seen) = false := by simp
  have hl1 := bne_iff_ne.2 HLL.out
  simp only [actF, Int.reduceEq, if_true, if_false]
  clear E
  generalize leftI 2 seen want put = y2 at *
  go_wp2
  go_quiet ((go_at_call 39; with_reducible exact L2.out _))
  go_wp2
  go_ret
  exact ⟨rfl, below_drewN hbb _⟩

set_option maxHeartbeats 400000 in
theorem repeat_left3 (B g n c : Nat) (cs : List Int) (i : Nat) (w : World) (hR : Rw w B g n c cs) (hi : i < n) (hs : seen = cs.getD i 0) (hl : left ≠ leftI 3 seen want put) :
    Calls Try.prog 30 #[.slice (some ⟨g, 0, none⟩) n c, .agg #[.int .i64 who, .int .i64 3, .int .i64 i, .int .u64 want, .int .u64 put, .int .u64 seen, .int .u64 left]] w fun e w' => e = .returned (.int .i64 4) ∧ Below w.heap.size w w' := by
  have HS := Lib.hid hs
  have HLL := Lib.hid hl
  clear hs hl
  have I := Lib.hid (fun W => inside_any (some ⟨g, 0, none⟩) n c (i : Int) W)
  rw [show insB n (i : Int) = true from decide_eq_true ⟨by omega, by omega⟩] at I
  have i0 : (0 : Int) ≤ (i : Int) := by omega
  have i1 : (i : Int) < (n : Int) := by omega
  have E := Lib.hid (fun W => effect_yes who 3 i want put seen left W (by decide))
  have hX := AccAt.new w who 3 i want put seen left
  have hb0 : Below w.heap.size w (w.alloc (.cells #[.int .i64 who, .int .i64 3, .int .i64 i, .int .u64 want, .int .u64 put, .int .u64 seen, .int .u64 left] 71)) := (Below.refl _ _).alloc (Nat.le_refl _) _
  have hs0 := hb0.size
  have hR0 := hR.alloc (.cells #[.int .i64 who, .int .i64 3, .int .i64 i, .int .u64 want, .int .u64 put, .int .u64 seen, .int .u64 left] 71)
  have hgl := hR.lt.2
  go_enter Try.func30, Try.ntmps30
  have y2 := hX.c2
  go_wp2_with fail
  generalize w.alloc (.cells #[.int .i64 who, .int .i64 3, .int .i64 i, .int .u64 want, .int .u64 put, .int .u64 seen, .int .u64 left] 71) = w0 at *
  have x0 := hX.c0
  have x1 := hX.c1
  have x2 := hX.c2
  have x3 := hX.c3
  have x4 := hX.c4
  have x5 := hX.c5
  have x6 := hX.c6
  refine (I.out _).mono ?_
  rintro e w1 ⟨rfl, hw1⟩
  obtain rfl := hw1
  go_wp2_with fail
  refine (E.out _).mono ?_
  rintro e w2 ⟨bw, bp, rfl, hw, hp, hb2⟩
  have hX2 := hX.grew hb2
  have hR2 := hR0.grew hb2
  have hbb := hb0.trans (hb2.mono hs0)
  clear x0 x1 x2 x3 x4 x5 x6 hX hR0
  have x2 := hX2.c2
  have x5 := hX2.c5
  have x6 := hX2.c6
  have cc := hR2.cell i hi
  have cw : w2.cell? ⟨bw, 0, none⟩ = some (.int .u64 want) := hw.val 0 rfl
  have cp : w2.cell? ⟨bp, 0, none⟩ = some (.int .u64 put) := hp.val 0 rfl
  have L2 := Lib.hid (fun m => qleft (left2 seen want put bp (w2.drewN m) (by simp only [World.cell?_drewN, cp])))
  have h3 : leftI 3 seen want put = leftI 2 seen want put := rfl
  rw [← HS.out] at cc
  have hz : (seen != seen) = false := by simp
  have hl1 := bne_iff_ne.2 HLL.out
  rw [h3] at hl1
  simp only [actF, Int.reduceEq, if_true, if_false]
  clear E h3
  generalize leftI 2 seen want put = y2 at *
  go_wp2
  go_quiet ((go_at_call 39; with_reducible exact L2.out _))
  go_wp2
  go_ret
  exact ⟨rfl, below_drewN hbb _⟩

set_option maxHeartbeats 400000 in
theorem repeat_left4 (B g n c : Nat) (cs : List Int) (i : Nat) (w : World) (hR : Rw w B g n c cs) (hi : i < n) (hs : seen = cs.getD i 0) (hl : left ≠ leftI 4 seen want put) :
    Calls Try.prog 30 #[.slice (some ⟨g, 0, none⟩) n c, .agg #[.int .i64 who, .int .i64 4, .int .i64 i, .int .u64 want, .int .u64 put, .int .u64 seen, .int .u64 left]] w fun e w' => e = .returned (.int .i64 4) ∧ Below w.heap.size w w' := by
  have HS := Lib.hid hs
  have HLL := Lib.hid hl
  clear hs hl
  have I := Lib.hid (fun W => inside_any (some ⟨g, 0, none⟩) n c (i : Int) W)
  rw [show insB n (i : Int) = true from decide_eq_true ⟨by omega, by omega⟩] at I
  have i0 : (0 : Int) ≤ (i : Int) := by omega
  have i1 : (i : Int) < (n : Int) := by omega
  have E := Lib.hid (fun W => effect_yes who 4 i want put seen left W (by decide))
  have hX := AccAt.new w who 4 i want put seen left
  have hb0 : Below w.heap.size w (w.alloc (.cells #[.int .i64 who, .int .i64 4, .int .i64 i, .int .u64 want, .int .u64 put, .int .u64 seen, .int .u64 left] 71)) := (Below.refl _ _).alloc (Nat.le_refl _) _
  have hs0 := hb0.size
  have hR0 := hR.alloc (.cells #[.int .i64 who, .int .i64 4, .int .i64 i, .int .u64 want, .int .u64 put, .int .u64 seen, .int .u64 left] 71)
  have hgl := hR.lt.2
  go_enter Try.func30, Try.ntmps30
  have y2 := hX.c2
  go_wp2_with fail
  generalize w.alloc (.cells #[.int .i64 who, .int .i64 4, .int .i64 i, .int .u64 want, .int .u64 put, .int .u64 seen, .int .u64 left] 71) = w0 at *
  have x0 := hX.c0
  have x1 := hX.c1
  have x2 := hX.c2
  have x3 := hX.c3
  have x4 := hX.c4
  have x5 := hX.c5
  have x6 := hX.c6
  refine (I.out _).mono ?_
  rintro e w1 ⟨rfl, hw1⟩
  obtain rfl := hw1
  go_wp2_with fail
  refine (E.out _).mono ?_
  rintro e w2 ⟨bw, bp, rfl, hw, hp, hb2⟩
  have hX2 := hX.grew hb2
  have hR2 := hR0.grew hb2
  have hbb := hb0.trans (hb2.mono hs0)
  clear x0 x1 x2 x3 x4 x5 x6 hX hR0
  have x2 := hX2.c2
  have x5 := hX2.c5
  have x6 := hX2.c6
  have cc := hR2.cell i hi
  have cw : w2.cell? ⟨bw, 0, none⟩ = some (.int .u64 want) := hw.val 0 rfl
  have cp : w2.cell? ⟨bp, 0, none⟩ = some (.int .u64 put) := hp.val 0 rfl
  have L4 := Lib.hid (fun m => qleft (left4 seen want put bw bp (w2.drewN m) (by simp only [World.cell?_drewN, cw]) (by simp only [World.cell?_drewN, cp])))
  rw [← HS.out] at cc
  have hz : (seen != seen) = false := by simp
  have hl1 := bne_iff_ne.2 HLL.out
  simp only [actF, Int.reduceEq, if_true, if_false]
  clear E
  generalize leftI 4 seen want put = y4 at *
  go_wp2
  go_quiet ((go_at_call 40; with_reducible exact L4.out _))
  go_wp2
  go_ret
  exact ⟨rfl, below_drewN hbb _⟩

set_option maxHeartbeats 400000 in
theorem repeat_left5 (B g n c : Nat) (cs : List Int) (i : Nat) (w : World) (hR : Rw w B g n c cs) (hi : i < n) (hs : seen = cs.getD i 0) (hl : left ≠ leftI 5 seen want put) :
    Calls Try.prog 30 #[.slice (some ⟨g, 0, none⟩) n c, .agg #[.int .i64 who, .int .i64 5, .int .i64 i, .int .u64 want, .int .u64 put, .int .u64 seen, .int .u64 left]] w fun e w' => e = .returned (.int .i64 4) ∧ Below w.heap.size w w' := by
  have HS := Lib.hid hs
  have HLL := Lib.hid hl
  clear hs hl
  have I := Lib.hid (fun W => inside_any (some ⟨g, 0, none⟩) n c (i : Int) W)
  rw [show insB n (i : Int) = true from decide_eq_true ⟨by omega, by omega⟩] at I
  have i0 : (0 : Int) ≤ (i : Int) := by omega
  have i1 : (i : Int) < (n : Int) := by omega
  have E := Lib.hid (fun W => effect_yes who 5 i want put seen left W (by decide))
  have hX := AccAt.new w who 5 i want put seen left
  have hb0 : Below w.heap.size w (w.alloc (.cells #[.int .i64 who, .int .i64 5, .int .i64 i, .int .u64 want, .int .u64 put, .int .u64 seen, .int .u64 left] 71)) := (Below.refl _ _).alloc (Nat.le_refl _) _
  have hs0 := hb0.size
  have hR0 := hR.alloc (.cells #[.int .i64 who, .int .i64 5, .int .i64 i, .int .u64 want, .int .u64 put, .int .u64 seen, .int .u64 left] 71)
  have hgl := hR.lt.2
  go_enter Try.func30, Try.ntmps30
  have y2 := hX.c2
  go_wp2_with fail
  generalize w.alloc (.cells #[.int .i64 who, .int .i64 5, .int .i64 i, .int .u64 want, .int .u64 put, .int .u64 seen, .int .u64 left] 71) = w0 at *
  have x0 := hX.c0
  have x1 := hX.c1
  have x2 := hX.c2
  have x3 := hX.c3
  have x4 := hX.c4
  have x5 := hX.c5
  have x6 := hX.c6
  refine (I.out _).mono ?_
  rintro e w1 ⟨rfl, hw1⟩
  obtain rfl := hw1
  go_wp2_with fail
  refine (E.out _).mono ?_
  rintro e w2 ⟨bw, bp, rfl, hw, hp, hb2⟩
  have hX2 := hX.grew hb2
  have hR2 := hR0.grew hb2
  have hbb := hb0.trans (hb2.mono hs0)
  clear x0 x1 x2 x3 x4 x5 x6 hX hR0
  have x2 := hX2.c2
  have x5 := hX2.c5
  have x6 := hX2.c6
  have cc := hR2.cell i hi
  have cw : w2.cell? ⟨bw, 0, none⟩ = some (.int .u64 want) := hw.val 0 rfl
  have cp : w2.cell? ⟨bp, 0, none⟩ = some (.int .u64 put) := hp.val 0 rfl
  have L5 := Lib.hid (fun m => qleft (left5 seen want put bp (w2.drewN m) (by simp only [World.cell?_drewN, cp])))
  rw [← HS.out] at cc
  have hz : (seen != seen) = false := by simp
  have hl1 := bne_iff_ne.2 HLL.out
  simp only [actF, Int.reduceEq, if_true, if_false]
  clear E
  generalize leftI 5 seen want put = y5 at *
  go_wp2
  go_quiet ((go_at_call 41; with_reducible exact L5.out _))
  go_wp2
  go_ret
  exact ⟨rfl, below_drewN hbb _⟩

set_option maxHeartbeats 400000 in
theorem repeat_left6 (B g n c : Nat) (cs : List Int) (i : Nat) (w : World) (hR : Rw w B g n c cs) (hi : i < n) (hs : seen = cs.getD i 0) (hl : left ≠ leftI 6 seen want put) :
    Calls Try.prog 30 #[.slice (some ⟨g, 0, none⟩) n c, .agg #[.int .i64 who, .int .i64 6, .int .i64 i, .int .u64 want, .int .u64 put, .int .u64 seen, .int .u64 left]] w fun e w' => e = .returned (.int .i64 4) ∧ Below w.heap.size w w' := by
  have HS := Lib.hid hs
  have HLL := Lib.hid hl
  clear hs hl
  have I := Lib.hid (fun W => inside_any (some ⟨g, 0, none⟩) n c (i : Int) W)
  rw [show insB n (i : Int) = true from decide_eq_true ⟨by omega, by omega⟩] at I
  have i0 : (0 : Int) ≤ (i : Int) := by omega
  have i1 : (i : Int) < (n : Int) := by omega
  have E := Lib.hid (fun W => effect_yes who 6 i want put seen left W (by decide))
  have hX := AccAt.new w who 6 i want put seen left
  have hb0 : Below w.heap.size w (w.alloc (.cells #[.int .i64 who, .int .i64 6, .int .i64 i, .int .u64 want, .int .u64 put, .int .u64 seen, .int .u64 left] 71)) := (Below.refl _ _).alloc (Nat.le_refl _) _
  have hs0 := hb0.size
  have hR0 := hR.alloc (.cells #[.int .i64 who, .int .i64 6, .int .i64 i, .int .u64 want, .int .u64 put, .int .u64 seen, .int .u64 left] 71)
  have hgl := hR.lt.2
  go_enter Try.func30, Try.ntmps30
  have y2 := hX.c2
  go_wp2_with fail
  generalize w.alloc (.cells #[.int .i64 who, .int .i64 6, .int .i64 i, .int .u64 want, .int .u64 put, .int .u64 seen, .int .u64 left] 71) = w0 at *
  have x0 := hX.c0
  have x1 := hX.c1
  have x2 := hX.c2
  have x3 := hX.c3
  have x4 := hX.c4
  have x5 := hX.c5
  have x6 := hX.c6
  refine (I.out _).mono ?_
  rintro e w1 ⟨rfl, hw1⟩
  obtain rfl := hw1
  go_wp2_with fail
  refine (E.out _).mono ?_
  rintro e w2 ⟨bw, bp, rfl, hw, hp, hb2⟩
  have hX2 := hX.grew hb2
  have hR2 := hR0.grew hb2
  have hbb := hb0.trans (hb2.mono hs0)
  clear x0 x1 x2 x3 x4 x5 x6 hX hR0
  have x2 := hX2.c2
  have x5 := hX2.c5
  have x6 := hX2.c6
  have cc := hR2.cell i hi
  have cw : w2.cell? ⟨bw, 0, none⟩ = some (.int .u64 want) := hw.val 0 rfl
  have cp : w2.cell? ⟨bp, 0, none⟩ = some (.int .u64 put) := hp.val 0 rfl
  have L6 := Lib.hid (fun m => qleft (left6 seen want put bp (w2.drewN m) (by simp only [World.cell?_drewN, cp])))
  rw [← HS.out] at cc
  have hz : (seen != seen) = false := by simp
  have hl1 := bne_iff_ne.2 HLL.out
  simp only [actF, Int.reduceEq, if_true, if_false]
  clear E
  generalize leftI 6 seen want put = y6 at *
  go_wp2
  go_quiet ((go_at_call 42; with_reducible exact L6.out _))
  go_wp2
  go_ret
  exact ⟨rfl, below_drewN hbb _⟩

set_option maxHeartbeats 400000 in
theorem repeat_ok1 (B g n c : Nat) (cs : List Int) (i : Nat) (w : World) (hR : Rw w B g n c cs) (hi : i < n) (hs : seen = cs.getD i 0) (hl : left = leftI 1 seen want put) :
    Calls Try.prog 30 #[.slice (some ⟨g, 0, none⟩) n c, .agg #[.int .i64 who, .int .i64 1, .int .i64 i, .int .u64 want, .int .u64 put, .int .u64 seen, .int .u64 left]] w fun e w' => e = .returned (.int .i64 0) ∧ Rw w' B g n c (cs.set i left) ∧ Touch (· = g) w w' := by
  have HS := Lib.hid hs
  have HLL := Lib.hid hl
  clear hs hl
  have I := Lib.hid (fun W => inside_any (some ⟨g, 0, none⟩) n c (i : Int) W)
  rw [show insB n (i : Int) = true from decide_eq_true ⟨by omega, by omega⟩] at I
  have i0 : (0 : Int) ≤ (i : Int) := by omega
  have i1 : (i : Int) < (n : Int) := by omega
  have E := Lib.hid (fun W => effect_yes who 1 i want put seen left W (by decide))
  have hX := AccAt.new w who 1 i want put seen left
  have hb0 : Below w.heap.size w (w.alloc (.cells #[.int .i64 who, .int .i64 1, .int .i64 i, .int .u64 want, .int .u64 put, .int .u64 seen, .int .u64 left] 71)) := (Below.refl _ _).alloc (Nat.le_refl _) _
  have hs0 := hb0.size
  have hR0 := hR.alloc (.cells #[.int .i64 who, .int .i64 1, .int .i64 i, .int .u64 want, .int .u64 put, .int .u64 seen, .int .u64 left] 71)
  have hgl := hR.lt.2
  go_enter Try.func30, Try.ntmps30
  have y2 := hX.c2
  go_wp2_with fail
  generalize w.alloc (.cells #[.int .i64 who, .int .i64 1, .int .i64 i, .int .u64 want, .int .u64 put, .int .u64 seen, .int .u64 left] 71) = w0 at *
  have x0 := hX.c0
  have x1 := hX.c1
  have x2 := hX.c2
  have x3 := hX.c3
  have x4 := hX.c4
  have x5 := hX.c5
  have x6 := hX.c6
  refine (I.out _).mono ?_
  rintro e w1 ⟨rfl, hw1⟩
  obtain rfl := hw1
  go_wp2_with fail
  refine (E.out _).mono ?_
  rintro e w2 ⟨bw, bp, rfl, hw, hp, hb2⟩
  have hX2 := hX.grew hb2
  have hR2 := hR0.grew hb2
  have hbb := hb0.trans (hb2.mono hs0)
  clear x0 x1 x2 x3 x4 x5 x6 hX hR0
  have x2 := hX2.c2
  have x5 := hX2.c5
  have x6 := hX2.c6
  have cc := hR2.cell i hi
  have cw : w2.cell? ⟨bw, 0, none⟩ = some (.int .u64 want) := hw.val 0 rfl
  have cp : w2.cell? ⟨bp, 0, none⟩ = some (.int .u64 put) := hp.val 0 rfl
  have L1 := Lib.hid (fun m => qleft (left1 seen want put (w2.drewN m)))
  rw [← HS.out] at cc
  have hz : (seen != seen) = false := by simp
  have hl1 := bne_eq_false_iff_eq.2 HLL.out
  simp only [actF, Int.reduceEq, if_true, if_false]
  clear E
  generalize leftI 1 seen want put = y1 at *
  have fc := hR2.frozen i
  go_wp2
  go_quiet ((go_at_call 38; with_reducible exact L1.out _))
  go_wp2
  go_ret
  exact ⟨rfl, ((hR2.touch (Touch.of (below_drewN (Below.refl _ _) _)) (R := fun _ => False) (fun h => h)).set i left), (Touch.setCell (R := (· = g)) (Touch.of (below_drewN hbb _)) rfl _)⟩

set_option maxHeartbeats 400000 in
theorem repeat_ok2 (B g n c : Nat) (cs : List Int) (i : Nat) (w : World) (hR : Rw w B g n c cs) (hi : i < n) (hs : seen = cs.getD i 0) (hl : left = leftI 2 seen want put) :
    Calls Try.prog 30 #[.slice (some ⟨g, 0, none⟩) n c, .agg #[.int .i64 who, .int .i64 2, .int .i64 i, .int .u64 want, .int .u64 put, .int .u64 seen, .int .u64 left]] w fun e w' => e = .returned (.int .i64 0) ∧ Rw w' B g n c (cs.set i left) ∧ Touch (· = g) w w' := by
  have HS := Lib.hid hs
  have HLL := Lib.hid hl
  clear hs hl
  have I := Lib.hid (fun W => inside_any (some ⟨g, 0, none⟩) n c (i : Int) W)
  rw [show insB n (i : Int) = true from decide_eq_true ⟨by omega, by omega⟩] at I
  have i0 : (0 : Int) ≤ (i : Int) := by omega
  have i1 : (i : Int) < (n : Int) := by omega
  have E := Lib.hid (fun W => effect_yes who 2 i want put seen left W (by decide))
  have hX := AccAt.new w who 2 i want put seen left
  have hb0 : Below w.heap.size w (w.alloc (.cells #[.int .i64 who, .int .i64 2, .int .i64 i, .int .u64 want, .int .u64 put, .int .u64 seen, .int .u64 left] 71)) := (Below.refl _ _).alloc (Nat.le_refl _) _
  have hs0 := hb0.size
  have hR0 := hR.alloc (.cells #[.int .i64 who, .int .i64 2, .int .i64 i, .int .u64 want, .int .u64 put, .int .u64 seen, .int .u64 left] 71)
  have hgl := hR.lt.2
  go_enter Try.func30, Try.ntmps30
  have y2 := hX.c2
  go_wp2_with fail
  generalize w.alloc (.cells #[.int .i64 who, .int .i64 2, .int .i64 i, .int .u64 want, .int .u64 put, .int .u64 seen, .int .u64 left] 71) = w0 at *
  have x0 := hX.c0
  have x1 := hX.c1
  have x2 := hX.c2
  have x3 := hX.c3
  have x4 := hX.c4
  have x5 := hX.c5
  have x6 := hX.c6
  refine (I.out _).mono ?_
  rintro e w1 ⟨rfl, hw1⟩
  obtain rfl := hw1
  go_wp2_with fail
  refine (E.out _).mono ?_
  rintro e w2 ⟨bw, bp, rfl, hw, hp, hb2⟩
  have hX2 := hX.grew hb2
  have hR2 := hR0.grew hb2
  have hbb := hb0.trans (hb2.mono hs0)
  clear x0 x1 x2 x3 x4 x5 x6 hX hR0
  have x2 := hX2.c2
  have x5 := hX2.c5
  have x6 := hX2.c6
  have cc := hR2.cell i hi
  have cw : w2.cell? ⟨bw, 0, none⟩ = some (.int .u64 want) := hw.val 0 rfl
  have cp : w2.cell? ⟨bp, 0, none⟩ = some (.int .u64 put) := hp.val 0 rfl
  have L2 := Lib.hid (fun m => qleft (left2 seen want put bp (w2.drewN m) (by simp only [World.cell?_drewN, cp])))
  rw [← HS.out] at cc
  have hz : (seen != seen) = false := by simp
  have hl1 := bne_eq_false_iff_eq.2 HLL.out
  simp only [actF, Int.reduceEq, if_true, if_false]
  clear E
  generalize leftI 2 seen want put = y2 at *
  have fc := hR2.frozen i
  go_wp2
  go_quiet ((go_at_call 39; with_reducible exact L2.out _))
  go_wp2
  go_ret
  exact ⟨rfl, ((hR2.touch (Touch.of (below_drewN (Below.refl _ _) _)) (R := fun _ => False) (fun h => h)).set i left), (Touch.setCell (R := (· = g)) (Touch.of (below_drewN hbb _)) rfl _)⟩

set_option maxHeartbeats 400000 in
theorem repeat_ok3 (B g n c : Nat) (cs : List Int) (i : Nat) (w : World) (hR : Rw w B g n c cs) (hi : i < n) (hs : seen = cs.getD i 0) (hl : left = leftI 3 seen want put) :
    Calls Try.prog 30 #[.slice (some ⟨g, 0, none⟩) n c, .agg #[.int .i64 who, .int .i64 3, .int .i64 i, .int .u64 want, .int .u64 put, .int .u64 seen, .int .u64 left]] w fun e w' => e = .returned (.int .i64 0) ∧ Rw w' B g n c (cs.set i left) ∧ Touch (· = g) w w' := by
  have HS := Lib.hid hs
  have HLL := Lib.hid hl
  clear hs hl
  have I := Lib.hid (fun W => inside_any (some ⟨g, 0, none⟩) n c (i : Int) W)
  rw [show insB n (i : Int) = true from decide_eq_true ⟨by omega, by omega⟩] at I
  have i0 : (0 : Int) ≤ (i : Int) := by omega
  have i1 : (i : Int) < (n : Int) := by omega
  have E := Lib.hid (fun W => effect_yes who 3 i want put seen left W (by decide))
  have hX := AccAt.new w who 3 i want put seen left
  have hb0 : Below w.heap.size w (w.alloc (.cells #[.int .i64 who, .int .i64 3, .int .i64 i, .int .u64 want, .int .u64 put, .int .u64 seen, .int .u64 left] 71)) := (Below.refl _ _).alloc (Nat.le_refl _) _
  have hs0 := hb0.size
  have hR0 := hR.alloc (.cells #[.int .i64 who, .int .i64 3, .int .i64 i, .int .u64 want, .int .u64 put, .int .u64 seen, .int .u64 left] 71)
  have hgl := hR.lt.2
  go_enter Try.func30, Try.ntmps30
  have y2 := hX.c2
  go_wp2_with fail
  generalize w.alloc (.cells #[.int .i64 who, .int .i64 3, .int .i64 i, .int .u64 want, .int .u64 put, .int .u64 seen, .int .u64 left] 71) = w0 at *
  have x0 := hX.c0
  have x1 := hX.c1
  have x2 := hX.c2
  have x3 := hX.c3
  have x4 := hX.c4
  have x5 := hX.c5
  have x6 := hX.c6
  refine (I.out _).mono ?_
  rintro e w1 ⟨rfl, hw1⟩
  obtain rfl := hw1
  go_wp2_with fail
  refine (E.out _).mono ?_
  rintro e w2 ⟨bw, bp, rfl, hw, hp, hb2⟩
  have hX2 := hX.grew hb2
  have hR2 := hR0.grew hb2
  have hbb := hb0.trans (hb2.mono hs0)
  clear x0 x1 x2 x3 x4 x5 x6 hX hR0
  have x2 := hX2.c2
  have x5 := hX2.c5
  have x6 := hX2.c6
  have cc := hR2.cell i hi
  have cw : w2.cell? ⟨bw, 0, none⟩ = some (.int .u64 want) := hw.val 0 rfl
  have cp : w2.cell? ⟨bp, 0, none⟩ = some (.int .u64 put) := hp.val 0 rfl
  have L2 := Lib.hid (fun m => qleft (left2 seen want put bp (w2.drewN m) (by simp only [World.cell?_drewN, cp])))
  have h3 : leftI 3 seen want put = leftI 2 seen want put := rfl
  rw [← HS.out] at cc
  have hz : (seen != seen) = false := by simp
  have hl1 := bne_eq_false_iff_eq.2 HLL.out
  rw [h3] at hl1
  simp only [actF, Int.reduceEq, if_true, if_false]
  clear E h3
  generalize leftI 2 seen want put = y2 at *
  have fc := hR2.frozen i
  go_wp2
  go_quiet ((go_at_call 39; with_reducible exact L2.out _))
  go_wp2
  go_ret
  exact ⟨rfl, ((hR2.touch (Touch.of (below_drewN (Below.refl _ _) _)) (R := fun _ => False) (fun h => h)).set i left), (Touch.setCell (R := (· = g)) (Touch.of (below_drewN hbb _)) rfl _)⟩

set_option maxHeartbeats 400000 in
theorem repeat_ok4 (B g n c : Nat) (cs : List Int) (i : Nat) (w : World) (hR : Rw w B g n c cs) (hi : i < n) (hs : seen = cs.getD i 0) (hl : left = leftI 4 seen want put) :
    Calls Try.prog 30 #[.slice (some ⟨g, 0, none⟩) n c, .agg #[.int .i64 who, .int .i64 4, .int .i64 i, .int .u64 want, .int .u64 put, .int .u64 seen, .int .u64 left]] w fun e w' => e = .returned (.int .i64 0) ∧ Rw w' B g n c (cs.set i left) ∧ Touch (· = g) w w' := by
  have HS := Lib.hid hs
  have HLL := Lib.hid hl
  clear hs hl
  have I := Lib.hid (fun W => inside_any (some ⟨g, 0, none⟩) n c (i : Int) W)
  rw [show insB n (i : Int) = true from decide_eq_true ⟨by omega, by omega⟩] at I
  have i0 : (0 : Int) ≤ (i : Int) := by omega
  have i1 : (i : Int) < (n : Int) := by omega
  have E := Lib.hid (fun W => effect_yes who 4 i want put seen left W (by decide))
  have hX := AccAt.new w who 4 i want put seen left
  have hb0 : Below w.heap.size w (w.alloc (.cells #[.int .i64 who, .int .i64 4, .int .i64 i, .int .u64 want, .int .u64 put, .int .u64 seen, .int .u64 left] 71)) := (Below.refl _ _).alloc (Nat.le_refl _) _
  have hs0 := hb0.size
  have hR0 := hR.alloc (.cells #[.int .i64 who, .int .i64 4, .int .i64 i, .int .u64 want, .int .u64 put, .int .u64 seen, .int .u64 left] 71)
  have hgl := hR.lt.2
  go_enter Try.func30, Try.ntmps30
  have y2 := hX.c2
  go_wp2_with fail
  generalize w.alloc (.cells #[.int .i64 who, .int .i64 4, .int .i64 i, .int .u64 want, .int .u64 put, .int .u64 seen, .int .u64 left] 71) = w0 at *
  have x0 := hX.c0
  have x1 := hX.c1
  have x2 := hX.c2
  have x3 := hX.c3
  have x4 := hX.c4
  have x5 := hX.c5
  have x6 := hX.c6
  refine (I.out _).mono ?_
  rintro e w1 ⟨rfl, hw1⟩
  obtain rfl := hw1
  go_wp2_with fail
  refine (E.out _).mono ?_
  rintro e w2 ⟨bw, bp, rfl, hw, hp, hb2⟩
  have hX2 := hX.grew hb2
  have hR2 := hR0.grew hb2
  have hbb := hb0.trans (hb2.mono hs0)
  clear x0 x1 x2 x3 x4 x5 x6 hX hR0
  have x2 := hX2.c2
  have x5 := hX2.c5
  have x6 := hX2.c6
  have cc := hR2.cell i hi
  have cw : w2.cell? ⟨bw, 0, none⟩ = some (.int .u64 want) := hw.val 0 rfl
  have cp : w2.cell? ⟨bp, 0, none⟩ = some (.int .u64 put) := hp.val 0 rfl
  have L4 := Lib.hid (fun m => qleft (left4 seen want put bw bp (w2.drewN m) (by simp only [World.cell?_drewN, cw]) (by simp only [World.cell?_drewN, cp])))
  rw [← HS.out] at cc
  have hz : (seen != seen) = false := by simp
  have hl1 := bne_eq_false_iff_eq.2 HLL.out
  simp only [actF, Int.reduceEq, if_true, if_false]
  clear E
  generalize leftI 4 seen want put = y4 at *
  have fc := hR2.frozen i
  go_wp2
  go_quiet ((go_at_call 40; with_reducible exact L4.out _))
  go_wp2
  go_ret
  exact ⟨rfl, ((hR2.touch (Touch.of (below_drewN (Below.refl _ _) _)) (R := fun _ => False) (fun h => h)).set i left), (Touch.setCell (R := (· = g)) (Touch.of (below_drewN hbb _)) rfl _)⟩

set_option maxHeartbeats 400000 in
theorem repeat_ok5 (B g n c : Nat) (cs : List Int) (i : Nat) (w : World) (hR : Rw w B g n c cs) (hi : i < n) (hs : seen = cs.getD i 0) (hl : left = leftI 5 seen want put) :
    Calls Try.prog 30 #[.slice (some ⟨g, 0, none⟩) n c, .agg #[.int .i64 who, .int .i64 5, .int .i64 i, .int .u64 want, .int .u64 put, .int .u64 seen, .int .u64 left]] w fun e w' => e = .returned (.int .i64 0) ∧ Rw w' B g n c (cs.set i left) ∧ Touch (· = g) w w' := by
  have HS := Lib.hid hs
  have HLL := Lib.hid hl
  clear hs hl
  have I := Lib.hid (fun W => inside_any (some ⟨g, 0, none⟩) n c (i : Int) W)
  rw [show insB n (i : Int) = true from decide_eq_true ⟨by omega, by omega⟩] at I
  have i0 : (0 : Int) ≤ (i : Int) := by omega
  have i1 : (i : Int) < (n : Int) := by omega
  have E := Lib.hid (fun W => effect_yes who 5 i want put seen left W (by decide))
  have hX := AccAt.new w who 5 i want put seen left
  have hb0 : Below w.heap.size w (w.alloc (.cells #[.int .i64 who, .int .i64 5, .int .i64 i, .int .u64 want, .int .u64 put, .int .u64 seen, .int .u64 left] 71)) := (Below.refl _ _).alloc (Nat.le_refl _) _
  have hs0 := hb0.size
  have hR0 := hR.alloc (.cells #[.int .i64 who, .int .i64 5, .int .i64 i, .int .u64 want, .int .u64 put, .int .u64 seen, .int .u64 left] 71)
  have hgl := hR.lt.2
  go_enter Try.func30, Try.ntmps30
  have y2 := hX.c2
  go_wp2_with fail
  generalize w.alloc (.cells #[.int .i64 who, .int .i64 5, .int .i64 i, .int .u64 want, .int .u64 put, .int .u64 seen, .int .u64 left] 71) = w0 at *
  have x0 := hX.c0
  have x1 := hX.c1
  have x2 := hX.c2
  have x3 := hX.c3
  have x4 := hX.c4
  have x5 := hX.c5
  have x6 := hX.c6
  refine (I.out _).mono ?_
  rintro e w1 ⟨rfl, hw1⟩
  obtain rfl := hw1
  go_wp2_with fail
  refine (E.out _).mono ?_
  rintro e w2 ⟨bw, bp, rfl, hw, hp, hb2⟩
  have hX2 := hX.grew hb2
  have hR2 := hR0.grew hb2
  have hbb := hb0.trans (hb2.mono hs0)
  clear x0 x1 x2 x3 x4 x5 x6 hX hR0
  have x2 := hX2.c2
  have x5 := hX2.c5
  have x6 := hX2.c6
  have cc := hR2.cell i hi
  have cw : w2.cell? ⟨bw, 0, none⟩ = some (.int .u64 want) := hw.val 0 rfl
  have cp : w2.cell? ⟨bp, 0, none⟩ = some (.int .u64 put) := hp.val 0 rfl
  have L5 := Lib.hid (fun m => qleft (left5 seen want put bp (w2.drewN m) (by simp only [World.cell?_drewN, cp])))
  rw [← HS.out] at cc
  have hz : (seen != seen) = false := by simp
  have hl1 := bne_eq_false_iff_eq.2 HLL.out
  simp only [actF, Int.reduceEq, if_true, if_false]
  clear E
  generalize leftI 5 seen want put = y5 at *
  have fc := hR2.frozen i
  go_wp2
  go_quiet ((go_at_call 41; with_reducible exact L5.out _))
  go_wp2
  go_ret
  exact ⟨rfl, ((hR2.touch (Touch.of (below_drewN (Below.refl _ _) _)) (R := fun _ => False) (fun h => h)).set i left), (Touch.setCell (R := (· = g)) (Touch.of (below_drewN hbb _)) rfl _)⟩

set_option maxHeartbeats 400000 in
theorem repeat_ok6 (B g n c : Nat) (cs : List Int) (i : Nat) (w : World) (hR : Rw w B g n c cs) (hi : i < n) (hs : seen = cs.getD i 0) (hl : left = leftI 6 seen want put) :
    Calls Try.prog 30 #[.slice (some ⟨g, 0, none⟩) n c, .agg #[.int .i64 who, .int .i64 6, .int .i64 i, .int .u64 want, .int .u64 put, .int .u64 seen, .int .u64 left]] w fun e w' => e = .returned (.int .i64 0) ∧ Rw w' B g n c (cs.set i left) ∧ Touch (· = g) w w' := by
  have HS := Lib.hid hs
  have HLL := Lib.hid hl
  clear hs hl
  have I := Lib.hid (fun W => inside_any (some ⟨g, 0, none⟩) n c (i : Int) W)
  rw [show insB n (i : Int) = true from decide_eq_true ⟨by omega, by omega⟩] at I
  have i0 : (0 : Int) ≤ (i : Int) := by omega
  have i1 : (i : Int) < (n : Int) := by omega
  have E := Lib.hid (fun W => effect_yes who 6 i want put seen left W (by decide))
  have hX := AccAt.new w who 6 i want put seen left
  have hb0 : Below w.heap.size w (w.alloc (.cells #[.int .i64 who, .int .i64 6, .int .i64 i, .int .u64 want, .int .u64 put, .int .u64 seen, .int .u64 left] 71)) := (Below.refl _ _).alloc (Nat.le_refl _) _
  have hs0 := hb0.size
  have hR0 := hR.alloc (.cells #[.int .i64 who, .int .i64 6, .int .i64 i, .int .u64 want, .int .u64 put, .int .u64 seen, .int .u64 left] 71)
  have hgl := hR.lt.2
  go_enter Try.func30, Try.ntmps30
  have y2 := hX.c2
  go_wp2_with fail
  generalize w.alloc (.cells #[.int .i64 who, .int .i64 6, .int .i64 i, .int .u64 want, .int .u64 put, .int .u64 seen, .int .u64 left] 71) = w0 at *
  have x0 := hX.c0
  have x1 := hX.c1
  have x2 := hX.c2
  have x3 := hX.c3
  have x4 := hX.c4
  have x5 := hX.c5
  have x6 := hX.c6
  refine (I.out _).mono ?_
  rintro e w1 ⟨rfl, hw1⟩
  obtain rfl := hw1
  go_wp2_with fail
  refine (E.out _).mono ?_
  rintro e w2 ⟨bw, bp, rfl, hw, hp, hb2⟩
  have hX2 := hX.grew hb2
  have hR2 := hR0.grew hb2
  have hbb := hb0.trans (hb2.mono hs0)
  clear x0 x1 x2 x3 x4 x5 x6 hX hR0
  have x2 := hX2.c2
  have x5 := hX2.c5
  have x6 := hX2.c6
  have cc := hR2.cell i hi
  have cw : w2.cell? ⟨bw, 0, none⟩ = some (.int .u64 want) := hw.val 0 rfl
  have cp : w2.cell? ⟨bp, 0, none⟩ = some (.int .u64 put) := hp.val 0 rfl
  have L6 := Lib.hid (fun m => qleft (left6 seen want put bp (w2.drewN m) (by simp only [World.cell?_drewN, cp])))
  rw [← HS.out] at cc
  have hz : (seen != seen) = false := by simp
  have hl1 := bne_eq_false_iff_eq.2 HLL.out
  simp only [actF, Int.reduceEq, if_true, if_false]
  clear E
  generalize leftI 6 seen want put = y6 at *
  have fc := hR2.frozen i
  go_wp2
  go_quiet ((go_at_call 42; with_reducible exact L6.out _))
  go_wp2
  go_ret
  exact ⟨rfl, ((hR2.touch (Touch.of (below_drewN (Below.refl _ _) _)) (R := fun _ => False) (fun h => h)).set i left), (Touch.setCell (R := (· = g)) (Touch.of (below_drewN hbb _)) rfl _)⟩


theorem repeat_left (B g n c : Nat) (cs : List Int) (i : Nat) (w : World) (hR : Rw w B g n c cs) (hi : i < n) (hk : kindB k = true) (hs : seen = cs.getD i 0) (hl : left ≠ leftI k seen want put) :
    Calls Try.prog 30 #[.slice (some ⟨g, 0, none⟩) n c, .agg #[.int .i64 who, .int .i64 k, .int .i64 i, .int .u64 want, .int .u64 put, .int .u64 seen, .int .u64 left]] w fun e w' => e = .returned (.int .i64 4) ∧ Below w.heap.size w w' := by
  rcases kind_cases hk with rfl | rfl | rfl | rfl | rfl | rfl
  · exact repeat_left1 who want put seen left B g n c cs i w hR hi hs hl
  · exact repeat_left2 who want put seen left B g n c cs i w hR hi hs hl
  · exact repeat_left3 who want put seen left B g n c cs i w hR hi hs hl
  · exact repeat_left4 who want put seen left B g n c cs i w hR hi hs hl
  · exact repeat_left5 who want put seen left B g n c cs i w hR hi hs hl
  · exact repeat_left6 who want put seen left B g n c cs i w hR hi hs hl
theorem repeat_ok (B g n c : Nat) (cs : List Int) (i : Nat) (w : World) (hR : Rw w B g n c cs) (hi : i < n) (hk : kindB k = true) (hs : seen = cs.getD i 0) (hl : left = leftI k seen want put) :
    Calls Try.prog 30 #[.slice (some ⟨g, 0, none⟩) n c, .agg #[.int .i64 who, .int .i64 k, .int .i64 i, .int .u64 want, .int .u64 put, .int .u64 seen, .int .u64 left]] w fun e w' => e = .returned (.int .i64 0) ∧ Rw w' B g n c (cs.set i left) ∧ Touch (· = g) w w' := by
  rcases kind_cases hk with rfl | rfl | rfl | rfl | rfl | rfl
  · exact repeat_ok1 who want put seen left B g n c cs i w hR hi hs hl
  · exact repeat_ok2 who want put seen left B g n c cs i w hR hi hs hl
  · exact repeat_ok3 who want put seen left B g n c cs i w hR hi hs hl
  · exact repeat_ok4 who want put seen left B g n c cs i w hR hi hs hl
  · exact repeat_ok5 who want put seen left B g n c cs i w hR hi hs hl
  · exact repeat_ok6 who want put seen left B g n c cs i w hR hi hs hl
end
end Go.Proofs.Ytngmflbnkpiojaa
