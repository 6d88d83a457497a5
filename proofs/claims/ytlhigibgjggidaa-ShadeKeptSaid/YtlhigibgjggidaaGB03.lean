/- Texts of this seat, one behind the other: each says at its head what it holds. No condition of its own. -/
import Derived.Laws.MakeOwn
import Derived.StillTailTactics
import Derived.Outline
import Derived.Test.YtlhigibgjggidaaGB02
/- What arena's perform does: an access that may be made, and one that may not. Condition: the arena's blocks are there, its counts are small. -/
namespace Go.Proofs.Ytlhigibgjggidaa
open Go.RowKit

theorem inside_yes {n : Nat} {i : Int} (h : insB n i = true) (a : Option Addr) (c : Nat) (w : World) :
    Calls Try.prog 60 #[.slice a n c, .int .i64 i] w fun e w' => e = .returned (.bool true) ∧ Quiet w w' := by
  have := inside_any a n c i w; rw [h] at this; exact this.mono fun _ _ ⟨h1, h2⟩ => ⟨h1, h2 ▸ Quiet.refl _⟩
theorem inside_no {n : Nat} {i : Int} (h : insB n i = false) (a : Option Addr) (c : Nat) (w : World) :
    Calls Try.prog 60 #[.slice a n c, .int .i64 i] w fun e w' => e = .returned (.bool false) ∧ Quiet w w' := by
  have := inside_any a n c i w; rw [h] at this; exact this.mono fun _ _ ⟨h1, h2⟩ => ⟨h1, h2 ▸ Quiet.refl _⟩
section
variable {a c : Nat} {cs : List Int} {keep : Bool} {lv : Value} {n f : Int} {w : World}
theorem ArenaAt.grew {w' : World} (h : ArenaAt w a c cs keep lv n f) (hb : Below w.heap.size w w') : ArenaAt w' a c cs keep lv n f := ⟨h.own.grew hb, h.row.grew hb, h.apart⟩
theorem ArenaAt.drew (h : ArenaAt w a c cs keep lv n f) : ArenaAt w.drew a c cs keep lv n f := ⟨h.own, h.row, h.apart⟩
theorem ArenaAt.drewN (h : ArenaAt w a c cs keep lv n f) (m : Nat) : ArenaAt (w.drewN m) a c cs keep lv n f := ⟨h.own, h.row, h.apart⟩
theorem ArenaAt.alloc (h : ArenaAt w a c cs keep lv n f) (o : Obj) : ArenaAt (w.alloc o) a c cs keep lv n f := ⟨h.own.alloc o, h.row.alloc o, h.apart⟩
theorem ArenaAt.quiet {w' : World} (h : ArenaAt w a c cs keep lv n f) (hq : Quiet w w') : ArenaAt w' a c cs keep lv n f := ⟨h.own.quiet hq, h.row.quiet hq, h.apart⟩
theorem ArenaAt.touch {R : Nat → Prop} {w' : World} (h : ArenaAt w a c cs keep lv n f) (ht : Touch R w w') (h1 : ¬ R a) (h2 : ¬ R c) : ArenaAt w' a c cs keep lv n f := ⟨h.own.touch ht h1, h.row.touch ht h2, h.apart⟩
theorem ArenaAt.faulted (h : ArenaAt w a c cs keep lv n f) (g : Int) : ArenaAt (w.setCell ⟨a, 4, none⟩ (.int .i64 g)) a c cs keep lv n g :=
  ⟨h.own.set 4 _, h.row.other _ _ (Ne.symm h.apart), h.apart⟩
theorem ArenaAt.counted (h : ArenaAt w a c cs keep lv n f) (g : Int) : ArenaAt (w.setCell ⟨a, 3, none⟩ (.int .i64 g)) a c cs keep lv g f :=
  ⟨h.own.set 3 _, h.row.other _ _ (Ne.symm h.apart), h.apart⟩
theorem ArenaAt.logged (h : ArenaAt w a c cs keep lv n f) (v : Value) : ArenaAt (w.setCell ⟨a, 2, none⟩ v) a c cs keep v n f :=
  ⟨h.own.set 2 _, h.row.other _ _ (Ne.symm h.apart), h.apart⟩
theorem ArenaAt.stored (h : ArenaAt w a c cs keep lv n f) (i : Nat) (v : Int) : ArenaAt (w.setCell ⟨c, i, none⟩ (.int .u64 v)) a c (cs.set i v) keep lv n f := by
  refine ⟨?_, ?_, h.apart⟩
  · rw [List.length_set]; exact h.own.other _ _ h.apart
  · have := h.row.set i (.int .u64 v)
    rw [List.map_set]
    simpa using this
theorem ArenaAt.c0 (h : ArenaAt w a c cs keep lv n f) : w.cell? ⟨a, 0, none⟩ = some (.slice (some ⟨c, 0, none⟩) cs.length cs.length) := h.own.val 0 rfl
theorem ArenaAt.c1 (h : ArenaAt w a c cs keep lv n f) : w.cell? ⟨a, 1, none⟩ = some (.bool keep) := h.own.val 1 rfl
theorem ArenaAt.c2 (h : ArenaAt w a c cs keep lv n f) : w.cell? ⟨a, 2, none⟩ = some lv := h.own.val 2 rfl
theorem ArenaAt.c3 (h : ArenaAt w a c cs keep lv n f) : w.cell? ⟨a, 3, none⟩ = some (.int .i64 n) := h.own.val 3 rfl
theorem ArenaAt.c4 (h : ArenaAt w a c cs keep lv n f) : w.cell? ⟨a, 4, none⟩ = some (.int .i64 f) := h.own.val 4 rfl
theorem ArenaAt.cell (h : ArenaAt w a c cs keep lv n f) (i : Nat) (hi : i < cs.length) : w.cell? ⟨c, i, none⟩ = some (.int .u64 (cs.getD i 0)) := by
  refine h.row.val i ?_
  simp [List.getD_eq_getElem?_getD, hi]
/-- the seven words of an access in their box -/
structure AccAt (w : World) (b : Nat) (who k at' want put seen left : Int) : Prop where
  blk : Blk w b #[.int .i64 who, .int .i64 k, .int .i64 at', .int .u64 want, .int .u64 put, .int .u64 seen, .int .u64 left] 57
section
variable {b : Nat} {who k at' want put seen left : Int}
theorem AccAt.c0 (h : AccAt w b who k at' want put seen left) : w.cell? ⟨b, 0, none⟩ = some (.int .i64 who) := h.blk.val 0 rfl
theorem AccAt.c1 (h : AccAt w b who k at' want put seen left) : w.cell? ⟨b, 1, none⟩ = some (.int .i64 k) := h.blk.val 1 rfl
theorem AccAt.c2 (h : AccAt w b who k at' want put seen left) : w.cell? ⟨b, 2, none⟩ = some (.int .i64 at') := h.blk.val 2 rfl
theorem AccAt.c3 (h : AccAt w b who k at' want put seen left) : w.cell? ⟨b, 3, none⟩ = some (.int .u64 want) := h.blk.val 3 rfl
theorem AccAt.c4 (h : AccAt w b who k at' want put seen left) : w.cell? ⟨b, 4, none⟩ = some (.int .u64 put) := h.blk.val 4 rfl
theorem AccAt.c5 (h : AccAt w b who k at' want put seen left) : w.cell? ⟨b, 5, none⟩ = some (.int .u64 seen) := h.blk.val 5 rfl
theorem AccAt.c6 (h : AccAt w b who k at' want put seen left) : w.cell? ⟨b, 6, none⟩ = some (.int .u64 left) := h.blk.val 6 rfl
theorem AccAt.new (w : World) (who k at' want put seen left : Int) : AccAt (w.alloc (.cells #[.int .i64 who, .int .i64 k, .int .i64 at', .int .u64 want, .int .u64 put, .int .u64 seen, .int .u64 left] 57)) w.heap.size who k at' want put seen left := ⟨Blk.new _ _ _⟩
theorem AccAt.grew {w' : World} (h : AccAt w b who k at' want put seen left) (hb : Below w.heap.size w w') : AccAt w' b who k at' want put seen left := ⟨h.blk.grew hb⟩
end
theorem ArenaAt.lt (h : ArenaAt w a c cs keep lv n f) : a < w.heap.size ∧ c < w.heap.size := ⟨h.own.lt, h.row.lt⟩
end

theorem new_touch {R : Nat → Prop} (w : World) (o : Obj) : Touch R w (w.alloc o) := Touch.of ((Below.refl _ _).alloc (Nat.le_refl _) _)
set_option maxHeartbeats 1000000 in
theorem perform_no (a c : Nat) (cs : List Int) (keep : Bool) (lv : Value) (n f : Int) (g : Bool) (who k at' want put seen left : Int) (w : World) (hA : ArenaAt w a c cs keep lv n f) (hf0 : 0 ≤ f) (hf1 : f < 1000000)
    (hk : kindB k = true) (hg : g = false ∨ insB cs.length at' = false) :
    Calls Try.prog 98 #[.pointer (some ⟨a, 0, none⟩), .bool g, .agg #[.int .i64 who, .int .i64 k, .int .i64 at', .int .u64 want, .int .u64 put, .int .u64 seen, .int .u64 left]] w fun e w' =>
      e = .returned (.tuple #[.int .u64 0, .bool false]) ∧ ArenaAt w' a c cs keep lv n (f + 1) ∧ Touch (· = a) w w' := by
  have E := Lib.hid (fun W => effect_yes who k at' want put seen left W hk)
  clear hk
  rcases hg with rfl | hg
  · go_enter Try.func98, Try.ntmps98
    go_wp2_with fail
    refine (E.out _).mono ?_
    rintro e w1 ⟨bw, bp, rfl, _, _, hb⟩
    have hA1 := (hA.alloc (.cells #[.int .i64 who, .int .i64 k, .int .i64 at', .int .u64 want, .int .u64 put, .int .u64 seen, .int .u64 left] 57)).grew hb
    have hT := (new_touch (R := (· = a)) w (.cells #[.int .i64 who, .int .i64 k, .int .i64 at', .int .u64 want, .int .u64 put, .int .u64 seen, .int .u64 left] 57)).trans (Touch.of hb)
    clear hb hA
    have c4 := hA1.c4
    have f4 := hA1.own.frozen 4
    go_wp2
    go_quiet (fail)
    go_wp2
    go_ret2
    exact ⟨rfl, (hA1.drewN _).faulted _, (hT.drewN _).setCell (by rfl) _⟩
  · have I := Lib.hid (fun W => inside_no hg (some ⟨c, 0, none⟩) cs.length W)
    cases g
    all_goals
      go_enter Try.func98, Try.ntmps98
      go_wp2_with fail
      refine (E.out _).mono ?_
      rintro e w1 ⟨bw, bp, rfl, _, _, hb⟩
      have hA1 := (hA.alloc (.cells #[.int .i64 who, .int .i64 k, .int .i64 at', .int .u64 want, .int .u64 put, .int .u64 seen, .int .u64 left] 57)).grew hb
      have hT := (new_touch (R := (· = a)) w (.cells #[.int .i64 who, .int .i64 k, .int .i64 at', .int .u64 want, .int .u64 put, .int .u64 seen, .int .u64 left] 57)).trans (Touch.of hb)
      have hX := (AccAt.new w who k at' want put seen left).grew hb
      clear hb hA
      have c0 := hA1.c0
      have c4 := hA1.c4
      have f4 := hA1.own.frozen 4
      have x2 := hX.c2
      go_wp2
      go_quiet ((go_at_call 60; exact qcall (I.out _)))
      go_wp2
      go_ret2
      exact ⟨rfl, (hA1.drewN _).faulted _, (hT.drewN _).setCell (by rfl) _⟩
end Go.Proofs.Ytlhigibgjggidaa
/- What arena's perform does with an access that may be made, where no log is kept. Condition: the arena's blocks are there, its counts are small. -/
namespace Go.Proofs.Ytlhigibgjggidaa
open Go.RowKit
theorem left1 (x want put : Int) (w : World) : Calls Try.prog 101 #[.int .u64 x] w fun e w' => e = .returned (.int .u64 (leftI 1 x want put)) ∧ w = w' := act1 x w
theorem left2 (x want put : Int) (bp : Nat) (w : World) (hp : w.cell? ⟨bp, 0, none⟩ = some (.int .u64 put)) : Calls Try.prog 102 #[.int .u64 x, .pointer (some ⟨bp, 0, none⟩)] w fun e w' => e = .returned (.int .u64 (leftI 2 x want put)) ∧ w = w' := act2 x put bp w hp
theorem left3 (x want put : Int) (bp : Nat) (w : World) (hp : w.cell? ⟨bp, 0, none⟩ = some (.int .u64 put)) : Calls Try.prog 102 #[.int .u64 x, .pointer (some ⟨bp, 0, none⟩)] w fun e w' => e = .returned (.int .u64 (leftI 3 x want put)) ∧ w = w' := act2 x put bp w hp
theorem left4 (x want put : Int) (bw bp : Nat) (w : World) (hw : w.cell? ⟨bw, 0, none⟩ = some (.int .u64 want)) (hp : w.cell? ⟨bp, 0, none⟩ = some (.int .u64 put)) : Calls Try.prog 103 #[.int .u64 x, .pointer (some ⟨bw, 0, none⟩), .pointer (some ⟨bp, 0, none⟩)] w fun e w' => e = .returned (.int .u64 (leftI 4 x want put)) ∧ w = w' := act3 x want put bw bp w hw hp
theorem left5 (x want put : Int) (bp : Nat) (w : World) (hp : w.cell? ⟨bp, 0, none⟩ = some (.int .u64 put)) : Calls Try.prog 104 #[.int .u64 x, .pointer (some ⟨bp, 0, none⟩)] w fun e w' => e = .returned (.int .u64 (leftI 5 x want put)) ∧ w = w' := act4 x put bp w hp
theorem left6 (x want put : Int) (bp : Nat) (w : World) (hp : w.cell? ⟨bp, 0, none⟩ = some (.int .u64 put)) : Calls Try.prog 105 #[.int .u64 x, .pointer (some ⟨bp, 0, none⟩)] w fun e w' => e = .returned (.int .u64 (leftI 6 x want put)) ∧ w = w' := act5 x put bp w hp
def PerfPost (a c : Nat) (cs : List Int) (lv : Value) (n f : Int) (i : Nat) (k want put : Int) (w : World) (e : Ending) (w' : World) : Prop :=
  e = .returned (.tuple #[.int .u64 (cs.getD i 0), .bool true]) ∧ ArenaAt w' a c (cs.set i (leftI k (cs.getD i 0) want put)) false lv (n + 1) f ∧ Touch (fun b => b = a ∨ b = c) w w'
set_option maxRecDepth 100000 in
set_option maxHeartbeats 2000000 in
theorem perform_yes (a c : Nat) (cs : List Int) (lv : Value) (n f : Int) (who k want put seen left : Int) (i : Nat) (w : World) (hA : ArenaAt w a c cs false lv n f) (hn0 : 0 ≤ n) (hn1 : n < 1000000)
    (hk : kindB k = true) (hi : i < cs.length) (_hm : cs.length ≤ 1000000) :
    Calls Try.prog 98 #[.pointer (some ⟨a, 0, none⟩), .bool true, .agg #[.int .i64 who, .int .i64 k, .int .i64 i, .int .u64 want, .int .u64 put, .int .u64 seen, .int .u64 left]] w
      (PerfPost a c cs lv n f i k want put w) := by
  have E := Lib.hid (fun W => effect_yes who k i want put seen left W hk)
  have I := Lib.hid (fun W => inside_yes (show insB cs.length i = true from decide_eq_true ⟨by omega, by omega⟩) (some ⟨c, 0, none⟩) cs.length W)
  have hi0 : (0 : Int) ≤ (i : Int) := by omega
  have hi1 : (i : Int) < (cs.length : Int) := by omega
  rcases kind_cases hk with rfl | rfl | rfl | rfl | rfl | rfl
  all_goals
    clear hk
    go_enter Try.func98, Try.ntmps98
    go_wp2_with fail
    refine (E.out _).mono ?_
    rintro e w1 ⟨bw, bp, rfl, hw, hp, hb⟩
    have hA1 := (hA.alloc (.cells #[.int .i64 who, .int .i64 _, .int .i64 i, .int .u64 want, .int .u64 put, .int .u64 seen, .int .u64 left] 57)).grew hb
    have hT := (new_touch (R := fun b => b = a ∨ b = c) w (.cells #[.int .i64 who, .int .i64 _, .int .i64 i, .int .u64 want, .int .u64 put, .int .u64 seen, .int .u64 left] 57)).trans (Touch.of hb)
    have hX := (AccAt.new w who _ i want put seen left).grew hb
    clear hb hA E
    have c0 := hA1.c0
    have c1 := hA1.c1
    have c3 := hA1.c3
    have f3 := hA1.own.frozen 3
    have cc := hA1.cell i hi
    have fc := hA1.row.frozen i
    have x2 := hX.c2
    have cw : w1.cell? ⟨bw, 0, none⟩ = some (.int .u64 want) := hw.val 0 rfl
    have cp : w1.cell? ⟨bp, 0, none⟩ = some (.int .u64 put) := hp.val 0 rfl
    have hne : ¬ (a = c) := hA1.apart
    have hne2 : ¬ (c = a) := fun h => hne h.symm
    generalize hz : cs.getD i 0 = z at *
    simp only [actF, Int.reduceEq, if_true, if_false]
    go_wp2
    go_quiet ((go_at_call 60; exact qcall (I.out _)))
    go_wp2
    go_quiet (fail)
    have Hz := Lib.hid hz
    clear hz
    have L1 := Lib.hid (fun W => left1 z want put W)
    have L2 := Lib.hid (fun W => left2 z want put bp W)
    have L4 := Lib.hid (fun W => left4 z want put bw bp W)
    have L5 := Lib.hid (fun W => left5 z want put bp W)
    have L6 := Lib.hid (fun W => left6 z want put bp W)
    generalize h1 : leftI 1 z want put = y1 at *
    generalize h2 : leftI 2 z want put = y2 at *
    have h3 : leftI 3 z want put = y2 := Eq.trans (show leftI 3 z want put = leftI 2 z want put from rfl) h2
    generalize h4 : leftI 4 z want put = y4 at *
    generalize h5 : leftI 5 z want put = y5 at *
    generalize h6 : leftI 6 z want put = y6 at *
    have Y : Hid (leftI 1 z want put = y1 ∧ leftI 2 z want put = y2 ∧ leftI 3 z want put = y2 ∧ leftI 4 z want put = y4 ∧ leftI 5 z want put = y5 ∧ leftI 6 z want put = y6) := ⟨h1, h2, h3, h4, h5, h6⟩
    clear h1 h2 h3 h4 h5 h6
    go_wp2_with fail
    first
      | (with_reducible refine (L1.out _).mono ?_)
      | (with_reducible refine (L2.out _ (by simp only [World.cell?_drewN, cp])).mono ?_)
      | (with_reducible refine (L4.out _ (by simp only [World.cell?_drewN, cw]) (by simp only [World.cell?_drewN, cp])).mono ?_)
      | (with_reducible refine (L5.out _ (by simp only [World.cell?_drewN, cp])).mono ?_)
      | (with_reducible refine (L6.out _ (by simp only [World.cell?_drewN, cp])).mono ?_)
    rintro e w2 ⟨rfl, rfl⟩
    go_wp2_with fail
    go_region
    go_wp2
    go_ret2
    exact ⟨by rw [Hz.out]; rfl, by rw [Hz.out]; (first | rw [Y.out.1] | rw [Y.out.2.1] | rw [Y.out.2.2.1] | rw [Y.out.2.2.2.1] | rw [Y.out.2.2.2.2.1] | rw [Y.out.2.2.2.2.2]); exact ((hA1.drewN _).drew.stored i _).counted _, ((hT.drewN _).drew.setCell (.inr rfl) _).setCell (.inl rfl) _⟩
end Go.Proofs.Ytlhigibgjggidaa
