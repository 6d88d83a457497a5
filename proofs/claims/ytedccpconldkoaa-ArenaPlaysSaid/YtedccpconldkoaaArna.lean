/- What the small functions of package arena return: inside, New, Port, Grant, Open, Who, Count, Faults, Cells, Peek, Poke. No condition but that the arena's blocks are there. -/
import Derived.Test.YtedccpconldkoaaTouch
import Derived.Deep.RegionHeld3
namespace Go.Proofs.Ytedccpconldkoaa
open Go.RowKit

/-- An arena: its block a, its cells' block c with the numbers cs, its own four other fields. -/
structure ArenaAt (w : World) (a c : Nat) (cs : List Int) (keep : Bool) (lv : Value) (n f : Int) : Prop where
  own : Blk w a #[.slice (some ⟨c, 0, none⟩) cs.length cs.length, .bool keep, lv, .int .i64 n, .int .i64 f] 54
  row : Blk w c (cs.map (Value.int .u64)).toArray 43
  apart : a ≠ c
/-- A port of it. -/
def PortAt (w : World) (p a : Nat) (who : Int) (o : Bool) : Prop := Blk w p #[.pointer (some ⟨a, 0, none⟩), .int .i64 who, .bool o] 59

def insB (n : Nat) (at' : Int) : Bool := decide (0 ≤ at' ∧ at' < n)
set_option maxHeartbeats 400000 in
theorem inside_any (a : Option Addr) (n c : Nat) (i : Int) (w : World) :
    Calls Try.prog 30 #[.slice a n c, .int .i64 i] w fun e w' => e = .returned (.bool (insB n i)) ∧ w = w' := by
  by_cases h1 : 0 ≤ i
  · have hb : insB n i = decide (i < (n : Int)) := by simp [insB, h1]
    rw [hb]; clear hb
    go_enter Try.func30, Try.ntmps30
    go_wp2
    go_ret
    exact ⟨rfl, rfl⟩
  · have hb : insB n i = false := by simp [insB, h1]
    rw [hb]; clear hb
    go_enter Try.func30, Try.ntmps30
    go_wp2
    go_ret
    exact ⟨rfl, rfl⟩

set_option maxHeartbeats 400000 in
theorem port_no (a : Option Addr) (i : Int) (w : World) (hn : a ≠ none) (h : i < 0 ∨ 15 < i) :
    Calls Try.prog 7 #[.pointer a, .int .i64 i] w fun e w' => e = .returned (.tuple #[.pointer none, .int .i64 1]) ∧ Quiet w w' := by
  cases a with
  | none => exact absurd rfl hn
  | some x =>
    clear hn
    rcases h with h | h
    · go_enter Try.func7, Try.ntmps7
      go_wp2
      go_ret2
      exact ⟨rfl, Quiet.refl _⟩
    · have h' : ¬ i < 0 := by omega
      go_enter Try.func7, Try.ntmps7
      go_wp2
      go_ret2
      exact ⟨rfl, Quiet.refl _⟩
set_option maxHeartbeats 400000 in
theorem port_nil (i : Int) (w : World) :
    Calls Try.prog 7 #[.pointer none, .int .i64 i] w fun e w' => e = .returned (.tuple #[.pointer none, .int .i64 2]) ∧ Quiet w w' := by
  go_enter Try.func7, Try.ntmps7
  go_wp2
  go_ret2
  exact ⟨rfl, Quiet.refl _⟩
set_option maxHeartbeats 400000 in
theorem port_yes (a : Nat) (i : Int) (w : World) (h : 0 ≤ i) (h' : i ≤ 15) :
    Calls Try.prog 7 #[.pointer (some ⟨a, 0, none⟩), .int .i64 i] w fun e w' => ∃ p, e = .returned (.tuple #[.pointer (some ⟨p, 0, none⟩), .int .i64 0]) ∧ PortAt w' p a i false ∧ w.heap.size ≤ p ∧ Below w.heap.size w w' := by
  go_enter Try.func7, Try.ntmps7
  go_wp2
  go_ret2
  exact ⟨_, rfl, Blk.new _ _ _, Nat.le_refl _, (Below.refl _ _).alloc (Nat.le_refl _) _⟩

set_option maxHeartbeats 400000 in
theorem grant_nil (w : World) :
    Calls Try.prog 15 #[.pointer none] w fun e w' => (∃ v, e = .returned v) ∧ w = w' := by
  go_enter Try.func15, Try.ntmps15
  go_wp2
  go_end0
  exact ⟨⟨_, rfl⟩, rfl⟩
set_option maxHeartbeats 400000 in
theorem grant_at (p a : Nat) (who : Int) (o : Bool) (w : World) (h : PortAt w p a who o) :
    Calls Try.prog 15 #[.pointer (some ⟨p, 0, none⟩)] w fun e w' => (∃ v, e = .returned v) ∧ PortAt w' p a who true ∧ Touch (· = p) w w' := by
  have h2 := h.val 2 rfl
  have f2 := h.frozen 2
  have H : Hid (PortAt (w.setCell ⟨p, 2, none⟩ (.bool true)) p a who true) := h.set 2 (.bool true)
  clear h
  go_enter Try.func15, Try.ntmps15
  go_wp2
  go_end0
  exact ⟨⟨_, rfl⟩, H.out, (Touch.refl _ _).setCell (by rfl) _⟩

set_option maxHeartbeats 400000 in
theorem open_nil (w : World) :
    Calls Try.prog 25 #[.pointer none] w fun e w' => e = .returned (.bool false) ∧ Quiet w w' := by
  go_enter Try.func25, Try.ntmps25
  go_wp2
  go_ret
  exact ⟨rfl, Quiet.refl _⟩
set_option maxHeartbeats 400000 in
theorem open_at (p a : Nat) (who : Int) (o : Bool) (w : World) (h : PortAt w p a who o) :
    Calls Try.prog 25 #[.pointer (some ⟨p, 0, none⟩)] w fun e w' => e = .returned (.bool o) ∧ Quiet w w' := by
  have h2 := h.val 2 rfl
  clear h
  go_enter Try.func25, Try.ntmps25
  go_wp2
  go_ret
  exact ⟨rfl, Quiet.refl _⟩
set_option maxHeartbeats 400000 in
theorem who_at (p a : Nat) (who : Int) (o : Bool) (w : World) (h : PortAt w p a who o) :
    Calls Try.prog 26 #[.pointer (some ⟨p, 0, none⟩)] w fun e w' => e = .returned (.int .i64 who) ∧ Quiet w w' := by
  have h2 := h.val 1 rfl
  clear h
  go_enter Try.func26, Try.ntmps26
  go_wp2
  go_ret
  exact ⟨rfl, Quiet.refl _⟩

set_option maxHeartbeats 400000 in
theorem count_nil (w : World) :
    Calls Try.prog 10 #[.pointer none] w fun e w' => e = .returned (.int .i64 0) ∧ Quiet w w' := by
  go_enter Try.func10, Try.ntmps10
  go_wp2
  go_ret
  exact ⟨rfl, Quiet.refl _⟩
set_option maxHeartbeats 400000 in
theorem cells_nil (w : World) :
    Calls Try.prog 6 #[.pointer none] w fun e w' => e = .returned (.int .i64 0) ∧ Quiet w w' := by
  go_enter Try.func6, Try.ntmps6
  go_wp2
  go_ret
  exact ⟨rfl, Quiet.refl _⟩
section
variable {a c : Nat} {cs : List Int} {keep : Bool} {lv : Value} {n f : Int} {w : World}
set_option maxHeartbeats 400000 in
theorem count_at (h : ArenaAt w a c cs keep lv n f) :
    Calls Try.prog 10 #[.pointer (some ⟨a, 0, none⟩)] w fun e w' => e = .returned (.int .i64 n) ∧ Quiet w w' := by
  have h2 := h.own.val 3 rfl
  clear h
  go_enter Try.func10, Try.ntmps10
  go_wp2
  go_ret
  exact ⟨rfl, Quiet.refl _⟩
set_option maxHeartbeats 400000 in
theorem faults_at (h : ArenaAt w a c cs keep lv n f) :
    Calls Try.prog 9 #[.pointer (some ⟨a, 0, none⟩)] w fun e w' => e = .returned (.int .i64 f) ∧ Quiet w w' := by
  have h2 := h.own.val 4 rfl
  clear h
  go_enter Try.func9, Try.ntmps9
  go_wp2
  go_ret
  exact ⟨rfl, Quiet.refl _⟩
set_option maxHeartbeats 400000 in
theorem cells_at (h : ArenaAt w a c cs keep lv n f) :
    Calls Try.prog 6 #[.pointer (some ⟨a, 0, none⟩)] w fun e w' => e = .returned (.int .i64 cs.length) ∧ Quiet w w' := by
  have h2 := h.own.val 0 rfl
  clear h
  go_enter Try.func6, Try.ntmps6
  go_wp2
  go_ret
  exact ⟨rfl, Quiet.refl _⟩
end
end Go.Proofs.Ytedccpconldkoaa
