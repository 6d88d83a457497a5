/- What arena's perform does: an access that may be made, and one that may not. Condition: the arena's blocks are there, its counts are small. -/
import Derived.Test.YtedccpconldkoaaEffe
import Derived.Laws.MakeOwn
namespace Go.Proofs.Ytedccpconldkoaa
open Go.RowKit

theorem inside_yes {n : Nat} {i : Int} (h : insB n i = true) (a : Option Addr) (c : Nat) (w : World) :
    Calls Try.prog 30 #[.slice a n c, .int .i64 i] w fun e w' => e = .returned (.bool true) ∧ Quiet w w' := by
  have := inside_any a n c i w; rw [h] at this; exact this.mono fun _ _ ⟨h1, h2⟩ => ⟨h1, h2 ▸ Quiet.refl _⟩
theorem inside_no {n : Nat} {i : Int} (h : insB n i = false) (a : Option Addr) (c : Nat) (w : World) :
    Calls Try.prog 30 #[.slice a n c, .int .i64 i] w fun e w' => e = .returned (.bool false) ∧ Quiet w w' := by
  have := inside_any a n c i w; rw [h] at this; exact this.mono fun _ _ ⟨h1, h2⟩ => ⟨h1, h2 ▸ Quiet.refl _⟩
section
variable {a c : Nat} {cs : List Int} {keep : Bool} {lv : Value} {n f : Int} {w : World}
theorem ArenaAt.grew {w' : World} (h : ArenaAt w a c cs keep lv n f) (hb : Below w.heap.size w w') : ArenaAt w' a c cs keep lv n f := ⟨h.own.grew hb, h.row.grew hb, h.apart⟩
theorem ArenaAt.drew (h : ArenaAt w a c cs keep lv n f) : ArenaAt w.drew a c cs keep lv n f := ⟨h.own, h.row, h.apart⟩
theorem ArenaAt.drewN (h : ArenaAt w a c cs keep lv n f) (m : Nat) : ArenaAt (w.drewN m) a c cs keep lv n f := ⟨h.own, h.row, h.apart⟩
theorem ArenaAt.alloc (h : ArenaAt w a c cs keep lv n f) (o : Obj) : ArenaAt (w.alloc o) a c cs keep lv n f := ⟨h.own.alloc o, h.row.alloc o, h.apart⟩
theorem ArenaAt.quiet {w' : World} (h : ArenaAt w a c cs keep lv n f) (hq : Quiet w w') : ArenaAt w' a c cs keep lv n f := ⟨h.own.quiet hq, h.row.quiet hq, h.apart⟩
theorem ArenaAt.touch {R : Nat → Prop} {w' : World} (h : ArenaAt w a c cs keep lv n f) (ht : Touch R w w') (h1 : ¬ R a) (h2 : ¬ R c) : ArenaAt w' a c cs keep lv n f := ⟨h.own.touch ht h1, h.row.touch ht h2, h.apart⟩
theorem ArenaAt.faulted (h : ArenaAt w a c cs keep lv n f) (g : Int) : ArenaAt (w.setCell ⟨a, 4, none⟩ (.int .i64 g)) a c cs keep lv n g :=
  ⟨h.own.set 4 _, h.row.other _ _ (Ne.symm h.apart), h.apart⟩
theorem ArenaAt.counted (h : ArenaAt w a c cs keep lv n f) (g : Int) : ArenaAt (w.setCell ⟨a, 3, none⟩ (.int .i64 g)) a c cs keep lv g f :=
  ⟨h.own.set 3 _, h.row.other _ _ (Ne.symm h.apart), h.apart⟩
theorem ArenaAt.logged (h : ArenaAt w a c cs keep lv n f) (v : Value) : ArenaAt (w.setCell ⟨a, 2, none⟩ v) a c cs keep v n f :=
  ⟨h.own.set 2 _, h.row.other _ _ (Ne.symm h.apart), h.apart⟩
theorem ArenaAt.stored (h : ArenaAt w a c cs keep lv n f) (i : Nat) (v : Int) : ArenaAt (w.setCell ⟨c, i, none⟩ (.int .u64 v)) a c (cs.set i v) keep lv n f := by
  refine ⟨?_, ?_, h.apart⟩
  · rw [List.length_set]; exact h.own.other _ _ h.apart
  · have := h.row.set i (.int .u64 v)
    rw [List.map_set]
    simpa using this
theorem ArenaAt.c0 (h : ArenaAt w a c cs keep lv n f) : w.cell? ⟨a, 0, none⟩ = some (.slice (some ⟨c, 0, none⟩) cs.length cs.length) := h.own.val 0 rfl
theorem ArenaAt.c1 (h : ArenaAt w a c cs keep lv n f) : w.cell? ⟨a, 1, none⟩ = some (.bool keep) := h.own.val 1 rfl
theorem ArenaAt.c2 (h : ArenaAt w a c cs keep lv n f) : w.cell? ⟨a, 2, none⟩ = some lv := h.own.val 2 rfl
theorem ArenaAt.c3 (h : ArenaAt w a c cs keep lv n f) : w.cell? ⟨a, 3, none⟩ = some (.int .i64 n) := h.own.val 3 rfl
theorem ArenaAt.c4 (h : ArenaAt w a c cs keep lv n f) : w.cell? ⟨a, 4, none⟩ = some (.int .i64 f) := h.own.val 4 rfl
theorem ArenaAt.cell (h : ArenaAt w a c cs keep lv n f) (i : Nat) (hi : i < cs.length) : w.cell? ⟨c, i, none⟩ = some (.int .u64 (cs.getD i 0)) := by
  refine h.row.val i ?_
  simp [List.getD_eq_getElem?_getD, hi]
/-- the seven words of an access in their box -/
structure AccAt (w : World) (b : Nat) (who k at' want put seen left : Int) : Prop where
  blk : Blk w b #[.int .i64 who, .int .i64 k, .int .i64 at', .int .u64 want, .int .u64 put, .int .u64 seen, .int .u64 left] 69
section
variable {b : Nat} {who k at' want put seen left : Int}
theorem AccAt.c0 (h : AccAt w b who k at' want put seen left) : w.cell? ⟨b, 0, none⟩ = some (.int .i64 who) := h.blk.val 0 rfl
theorem AccAt.c1 (h : AccAt w b who k at' want put seen left) : w.cell? ⟨b, 1, none⟩ = some (.int .i64 k) := h.blk.val 1 rfl
theorem AccAt.c2 (h : AccAt w b who k at' want put seen left) : w.cell? ⟨b, 2, none⟩ = some (.int .i64 at') := h.blk.val 2 rfl
theorem AccAt.c3 (h : AccAt w b who k at' want put seen left) : w.cell? ⟨b, 3, none⟩ = some (.int .u64 want) := h.blk.val 3 rfl
theorem AccAt.c4 (h : AccAt w b who k at' want put seen left) : w.cell? ⟨b, 4, none⟩ = some (.int .u64 put) := h.blk.val 4 rfl
theorem AccAt.c5 (h : AccAt w b who k at' want put seen left) : w.cell? ⟨b, 5, none⟩ = some (.int .u64 seen) := h.blk.val 5 rfl
theorem AccAt.c6 (h : AccAt w b who k at' want put seen left) : w.cell? ⟨b, 6, none⟩ = some (.int .u64 left) := h.blk.val 6 rfl
theorem AccAt.new (w : World) (who k at' want put seen left : Int) : AccAt (w.alloc (.cells #[.int .i64 who, .int .i64 k, .int .i64 at', .int .u64 want, .int .u64 put, .int .u64 seen, .int .u64 left] 69)) w.heap.size who k at' want put seen left := ⟨Blk.new _ _ _⟩
theorem AccAt.grew {w' : World} (h : AccAt w b who k at' want put seen left) (hb : Below w.heap.size w w') : AccAt w' b who k at' want put seen left := ⟨h.blk.grew hb⟩
end
theorem ArenaAt.lt (h : ArenaAt w a c cs keep lv n f) : a < w.heap.size ∧ c < w.heap.size := ⟨h.own.lt, h.row.lt⟩
end

theorem new_touch {R : Nat → Prop} (w : World) (o : Obj) : Touch R w (w.alloc o) := Touch.of ((Below.refl _ _).alloc (Nat.le_refl _) _)
set_option maxHeartbeats 1000000 in
theorem perform_no (a c : Nat) (cs : List Int) (keep : Bool) (lv : Value) (n f : Int) (g : Bool) (who k at' want put seen left : Int) (w : World) (hA : ArenaAt w a c cs keep lv n f) (hf0 : 0 ≤ f) (hf1 : f < 1000000)
    (hk : kindB k = true) (hg : g = false ∨ insB cs.length at' = false) :
    Calls Try.prog 33 #[.pointer (some ⟨a, 0, none⟩), .bool g, .agg #[.int .i64 who, .int .i64 k, .int .i64 at', .int .u64 want, .int .u64 put, .int .u64 seen, .int .u64 left]] w fun e w' =>
      e = .returned (.tuple #[.int .u64 0, .bool false]) ∧ ArenaAt w' a c cs keep lv n (f + 1) ∧ Touch (· = a) w w' := by
  have E := Lib.hid (fun W => effect_yes who k at' want put seen left W hk)
  clear hk
  rcases hg with rfl | hg
  · go_enter Try.func33, Try.ntmps33
    go_wp2_with fail
    refine (E.out _).mono ?_
    rintro e w1 ⟨bw, bp, rfl, _, _, hb⟩
    have hA1 := (hA.alloc (.cells #[.int .i64 who, .int .i64 k, .int .i64 at', .int .u64 want, .int .u64 put, .int .u64 seen, .int .u64 left] 69)).grew hb
    have hT := (new_touch (R := (· = a)) w (.cells #[.int .i64 who, .int .i64 k, .int .i64 at', .int .u64 want, .int .u64 put, .int .u64 seen, .int .u64 left] 69)).trans (Touch.of hb)
    clear hb hA
    have c4 := hA1.c4
    have f4 := hA1.own.frozen 4
    go_wp2
    go_quiet (fail)
    go_wp2
    go_ret2
    exact ⟨rfl, (hA1.drewN _).faulted _, (hT.drewN _).setCell (by rfl) _⟩
  · have I := Lib.hid (fun W => inside_no hg (some ⟨c, 0, none⟩) cs.length W)
    cases g
    all_goals
      go_enter Try.func33, Try.ntmps33
      go_wp2_with fail
      refine (E.out _).mono ?_
      rintro e w1 ⟨bw, bp, rfl, _, _, hb⟩
      have hA1 := (hA.alloc (.cells #[.int .i64 who, .int .i64 k, .int .i64 at', .int .u64 want, .int .u64 put, .int .u64 seen, .int .u64 left] 69)).grew hb
      have hT := (new_touch (R := (· = a)) w (.cells #[.int .i64 who, .int .i64 k, .int .i64 at', .int .u64 want, .int .u64 put, .int .u64 seen, .int .u64 left] 69)).trans (Touch.of hb)
      have hX := (AccAt.new w who k at' want put seen left).grew hb
      clear hb hA
      have c0 := hA1.c0
      have c4 := hA1.c4
      have f4 := hA1.own.frozen 4
      have x2 := hX.c2
      go_wp2
      go_quiet ((go_at_call 30; exact qcall (I.out _)))
      go_wp2
      go_ret2
      exact ⟨rfl, (hA1.drewN _).faulted _, (hT.drewN _).setCell (by rfl) _⟩
end Go.Proofs.Ytedccpconldkoaa
