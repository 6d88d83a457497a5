/- What arena's perform does with an access that may be made, where no log is kept. Condition: the arena's blocks are there, its counts are small. -/
import Derived.Test.YtedccpconldkoaaPerf
import Derived.StillTailTactics
import Derived.Outline
namespace Go.Proofs.Ytedccpconldkoaa
open Go.RowKit
theorem left1 (x want put : Int) (w : World) : Calls Try.prog 35 #[.int .u64 x] w fun e w' => e = .returned (.int .u64 (leftI 1 x want put)) ∧ w = w' := act1 x w
theorem left2 (x want put : Int) (bp : Nat) (w : World) (hp : w.cell? ⟨bp, 0, none⟩ = some (.int .u64 put)) : Calls Try.prog 36 #[.int .u64 x, .pointer (some ⟨bp, 0, none⟩)] w fun e w' => e = .returned (.int .u64 (leftI 2 x want put)) ∧ w = w' := act2 x put bp w hp
theorem left3 (x want put : Int) (bp : Nat) (w : World) (hp : w.cell? ⟨bp, 0, none⟩ = some (.int .u64 put)) : Calls Try.prog 36 #[.int .u64 x, .pointer (some ⟨bp, 0, none⟩)] w fun e w' => e = .returned (.int .u64 (leftI 3 x want put)) ∧ w = w' := act2 x put bp w hp
theorem left4 (x want put : Int) (bw bp : Nat) (w : World) (hw : w.cell? ⟨bw, 0, none⟩ = some (.int .u64 want)) (hp : w.cell? ⟨bp, 0, none⟩ = some (.int .u64 put)) : Calls Try.prog 37 #[.int .u64 x, .pointer (some ⟨bw, 0, none⟩), .pointer (some ⟨bp, 0, none⟩)] w fun e w' => e = .returned (.int .u64 (leftI 4 x want put)) ∧ w = w' := act3 x want put bw bp w hw hp
theorem left5 (x want put : Int) (bp : Nat) (w : World) (hp : w.cell? ⟨bp, 0, none⟩ = some (.int .u64 put)) : Calls Try.prog 38 #[.int .u64 x, .pointer (some ⟨bp, 0, none⟩)] w fun e w' => e = .returned (.int .u64 (leftI 5 x want put)) ∧ w = w' := act4 x put bp w hp
theorem left6 (x want put : Int) (bp : Nat) (w : World) (hp : w.cell? ⟨bp, 0, none⟩ = some (.int .u64 put)) : Calls Try.prog 39 #[.int .u64 x, .pointer (some ⟨bp, 0, none⟩)] w fun e w' => e = .returned (.int .u64 (leftI 6 x want put)) ∧ w = w' := act5 x put bp w hp
def PerfPost (a c : Nat) (cs : List Int) (lv : Value) (n f : Int) (i : Nat) (k want put : Int) (w : World) (e : Ending) (w' : World) : Prop :=
  e = .returned (.tuple #[.int .u64 (cs.getD i 0), .bool true]) ∧ ArenaAt w' a c (cs.set i (leftI k (cs.getD i 0) want put)) false lv (n + 1) f ∧ Touch (fun b => b = a ∨ b = c) w w'
set_option maxRecDepth 100000 in
set_option maxHeartbeats 2000000 in
theorem perform_yes (a c : Nat) (cs : List Int) (lv : Value) (n f : Int) (who k want put seen left : Int) (i : Nat) (w : World) (hA : ArenaAt w a c cs false lv n f) (hn0 : 0 ≤ n) (hn1 : n < 1000000)
    (hk : kindB k = true) (hi : i < cs.length) (_hm : cs.length ≤ 1000000) :
    Calls Try.prog 33 #[.pointer (some ⟨a, 0, none⟩), .bool true, .agg #[.int .i64 who, .int .i64 k, .int .i64 i, .int .u64 want, .int .u64 put, .int .u64 seen, .int .u64 left]] w
      (PerfPost a c cs lv n f i k want put w) := by
  have E := Lib.hid (fun W => effect_yes who k i want put seen left W hk)
  have I := Lib.hid (fun W => inside_yes (show insB cs.length i = true from decide_eq_true ⟨by omega, by omega⟩) (some ⟨c, 0, none⟩) cs.length W)
  have hi0 : (0 : Int) ≤ (i : Int) := by omega
  have hi1 : (i : Int) < (cs.length : Int) := by omega
  rcases kind_cases hk with rfl | rfl | rfl | rfl | rfl | rfl
  all_goals
    clear hk
    go_enter Try.func33, Try.ntmps33
    go_wp2_with fail
    refine (E.out _).mono ?_
    rintro e w1 ⟨bw, bp, rfl, hw, hp, hb⟩
    have hA1 := (hA.alloc (.cells #[.int .i64 who, .int .i64 _, .int .i64 i, .int .u64 want, .int .u64 put, .int .u64 seen, .int .u64 left] 69)).grew hb
    have hT := (new_touch (R := fun b => b = a ∨ b = c) w (.cells #[.int .i64 who, .int .i64 _, .int .i64 i, .int .u64 want, .int .u64 put, .int .u64 seen, .int .u64 left] 69)).trans (Touch.of hb)
    have hX := (AccAt.new w who _ i want put seen left).grew hb
    clear hb hA E
    have c0 := hA1.c0
    have c1 := hA1.c1
    have c3 := hA1.c3
    have f3 := hA1.own.frozen 3
    have cc := hA1.cell i hi
    have fc := hA1.row.frozen i
    have x2 := hX.c2
    have cw : w1.cell? ⟨bw, 0, none⟩ = some (.int .u64 want) := hw.val 0 rfl
    have cp : w1.cell? ⟨bp, 0, none⟩ = some (.int .u64 put) := hp.val 0 rfl
    have hne : ¬ (a = c) := hA1.apart
    have hne2 : ¬ (c = a) := fun h => hne h.symm
    generalize hz : cs.getD i 0 = z at *
    simp only [actF, Int.reduceEq, if_true, if_false]
    go_wp2
    go_quiet ((go_at_call 30; exact qcall (I.out _)))
    go_wp2
    go_quiet (fail)
    have Hz := Lib.hid hz
    clear hz
    have L1 := Lib.hid (fun W => left1 z want put W)
    have L2 := Lib.hid (fun W => left2 z want put bp W)
    have L4 := Lib.hid (fun W => left4 z want put bw bp W)
    have L5 := Lib.hid (fun W => left5 z want put bp W)
    have L6 := Lib.hid (fun W => left6 z want put bp W)
    generalize h1 : leftI 1 z want put = y1 at *
    generalize h2 : leftI 2 z want put = y2 at *
    have h3 : leftI 3 z want put = y2 := Eq.trans (show leftI 3 z want put = leftI 2 z want put from rfl) h2
    generalize h4 : leftI 4 z want put = y4 at *
    generalize h5 : leftI 5 z want put = y5 at *
    generalize h6 : leftI 6 z want put = y6 at *
    have Y : Hid (leftI 1 z want put = y1 ∧ leftI 2 z want put = y2 ∧ leftI 3 z want put = y2 ∧ leftI 4 z want put = y4 ∧ leftI 5 z want put = y5 ∧ leftI 6 z want put = y6) := ⟨h1, h2, h3, h4, h5, h6⟩
    clear h1 h2 h3 h4 h5 h6
    go_wp2_with fail
    first
      | (with_reducible refine (L1.out _).mono ?_)
      | (with_reducible refine (L2.out _ (by simp only [World.cell?_drewN, cp])).mono ?_)
      | (with_reducible refine (L4.out _ (by simp only [World.cell?_drewN, cw]) (by simp only [World.cell?_drewN, cp])).mono ?_)
      | (with_reducible refine (L5.out _ (by simp only [World.cell?_drewN, cp])).mono ?_)
      | (with_reducible refine (L6.out _ (by simp only [World.cell?_drewN, cp])).mono ?_)
    rintro e w2 ⟨rfl, rfl⟩
    go_wp2_with fail
    go_region
    go_wp2
    go_ret2
    exact ⟨by rw [Hz.out]; rfl, by rw [Hz.out]; (first | rw [Y.out.1] | rw [Y.out.2.1] | rw [Y.out.2.2.1] | rw [Y.out.2.2.2.1] | rw [Y.out.2.2.2.2.1] | rw [Y.out.2.2.2.2.2]); exact ((hA1.drewN _).drew.stored i _).counted _, ((hT.drewN _).drew.setCell (.inr rfl) _).setCell (.inl rfl) _⟩
end Go.Proofs.Ytedccpconldkoaa
