/- What New, Peek, Poke and Image of package arena return. Condition: the arena's blocks are there. -/
import Derived.Test.YtedccpconldkoaaOps
namespace Go.Proofs.Ytedccpconldkoaa
open Go.RowKit
def zeros (n : Nat) : Array Value := ((List.replicate n (0 : Int)).map (Value.int .u64)).toArray
theorem madeCells_zeros (n : Nat) : madeCells #[Value.int .u64 0] (n * 1) = zeros n := by
  unfold madeCells zeros
  apply Array.ext
  · simp
  · intro i h1 h2
    simp [show i % 1 = 0 by omega]
theorem info_u64 : (Try.prog.info? 43).map (fun i => (i.zero, i.size, i.bytes)) = some (some (.int .u64 0), 1, 8) := by kernel_rfl
theorem run_mk (W : World) (n : Int) (h0 : 0 ≤ n) (h1 : n ≤ 4096) : (Instr.makeSlice 30 (.int .i64 n) (.int .i64 n)).run Try.prog W = .ok (.slice (some ⟨W.heap.size, 0, none⟩) n.toNat n.toNat) (W.alloc (.cells (zeros n.toNat) 43)) := by
  obtain ⟨i0, hi0, hz0, hz1, hz2⟩ := info_parts info_u64
  rw [run_make W 30 43 i0 _ Try.underlying30 hi0 hz0 .i64 .i64 n n h0 (Int.le_refl _) (by rw [hz2]; omega) (by omega), hz1, ← madeCells_zeros]
  rfl
set_option maxHeartbeats 400000 in
theorem new_no (n : Int) (keep : Bool) (w : World) (h : n < 1 ∨ 4096 < n) :
    Calls Try.prog 4 #[.int .i64 n, .bool keep] w fun e w' => e = .returned (.tuple #[.pointer none, .int .i64 1]) ∧ Quiet w w' := by
  rcases h with h | h
  · go_enter Try.func4, Try.ntmps4
    go_wp2
    go_ret2
    exact ⟨rfl, Quiet.refl _⟩
  · have h' : ¬ n < 1 := by omega
    go_enter Try.func4, Try.ntmps4
    go_wp2
    go_ret2
    exact ⟨rfl, Quiet.refl _⟩
def NewPost (n : Nat) (keep : Bool) (w : World) (e : Ending) (w' : World) : Prop :=
  ∃ a c, e = .returned (.tuple #[.pointer (some ⟨a, 0, none⟩), .int .i64 0]) ∧ ArenaAt w' a c (List.replicate n 0) keep (.slice none 0 0) 0 0 ∧ w.heap.size ≤ a ∧ w.heap.size ≤ c ∧ Below w.heap.size w w'
set_option maxHeartbeats 400000 in
theorem new_yes (n : Nat) (keep : Bool) (w : World) (h0 : 1 ≤ n) (h1 : n ≤ 4096) :
    Calls Try.prog 4 #[.int .i64 n, .bool keep] w (NewPost n keep w) := by
  have hmk := fun W => run_mk W n (by omega) (by omega)
  go_enter Try.func4, Try.ntmps4
  go_wp2
  go_ret2
  exact ⟨w.heap.size + 1, w.heap.size, rfl, ⟨by rw [List.length_replicate]; exact Blk.new' (by simp), (Blk.new' rfl).alloc _, by omega⟩, by omega, Nat.le_refl _, ((Below.refl _ _).alloc (Nat.le_refl _) _).alloc (by simp) _⟩
section
variable {a c : Nat} {cs : List Int} {keep : Bool} {lv : Value} {n f : Int} {w : World}
set_option maxHeartbeats 400000 in
theorem peek_nil (i : Int) (w : World) :
    Calls Try.prog 17 #[.pointer none, .int .i64 i] w fun e w' => e = .returned (.tuple #[.int .u64 0, .int .i64 2]) ∧ Quiet w w' := by
  go_enter Try.func17, Try.ntmps17
  go_wp2
  go_ret2
  exact ⟨rfl, Quiet.refl _⟩
set_option maxHeartbeats 400000 in
theorem peek_no (i : Int) (hA : ArenaAt w a c cs keep lv n f) (hi : insB cs.length i = false) :
    Calls Try.prog 17 #[.pointer (some ⟨a, 0, none⟩), .int .i64 i] w fun e w' => e = .returned (.tuple #[.int .u64 0, .int .i64 5]) ∧ Quiet w w' := by
  have c0 := hA.c0
  clear hA
  go_enter Try.func17, Try.ntmps17
  go_wp2_with (go_at_call 30; refine (inside_no hi _ _ _).mono ?_; rintro e w1 ⟨rfl, hq⟩)
  go_ret2
  exact ⟨rfl, hq⟩
set_option maxHeartbeats 400000 in
theorem peek_yes (i : Nat) (hA : ArenaAt w a c cs keep lv n f) (hi : i < cs.length) (_hm : cs.length ≤ 1000000) :
    Calls Try.prog 17 #[.pointer (some ⟨a, 0, none⟩), .int .i64 i] w fun e w' => e = .returned (.tuple #[.int .u64 (cs.getD i 0), .int .i64 0]) ∧ Quiet w w' := by
  have I := Lib.hid (fun W => inside_yes (show insB cs.length i = true from decide_eq_true ⟨by omega, by omega⟩) (some ⟨c, 0, none⟩) cs.length W)
  have hi0 : (0 : Int) ≤ (i : Int) := by omega
  have hi1 : (i : Int) < (cs.length : Int) := by omega
  have c0 := hA.c0
  have cc := hA.cell i hi
  clear hA
  generalize cs.getD i 0 = z at *
  go_enter Try.func17, Try.ntmps17
  go_wp2_with (go_at_call 30; refine (I.out _).mono ?_; rintro e w1 ⟨rfl, m1, rfl⟩)
  go_ret2
  exact ⟨rfl, Quiet.drew⟩
set_option maxHeartbeats 400000 in
theorem poke_nil (i v : Int) (w : World) :
    Calls Try.prog 24 #[.pointer none, .int .i64 i, .int .u64 v] w fun e w' => e = .returned (.int .i64 2) ∧ Quiet w w' := by
  go_enter Try.func24, Try.ntmps24
  go_wp2
  go_ret
  exact ⟨rfl, Quiet.refl _⟩
set_option maxHeartbeats 400000 in
theorem poke_no (i v : Int) (hA : ArenaAt w a c cs keep lv n f) (hi : insB cs.length i = false) :
    Calls Try.prog 24 #[.pointer (some ⟨a, 0, none⟩), .int .i64 i, .int .u64 v] w fun e w' => e = .returned (.int .i64 5) ∧ Quiet w w' := by
  have c0 := hA.c0
  clear hA
  go_enter Try.func24, Try.ntmps24
  go_wp2_with (go_at_call 30; refine (inside_no hi _ _ _).mono ?_; rintro e w1 ⟨rfl, hq⟩)
  go_ret
  exact ⟨rfl, hq⟩
set_option maxHeartbeats 400000 in
theorem poke_yes (i : Nat) (v : Int) (hA : ArenaAt w a c cs keep lv n f) (hi : i < cs.length) (_hm : cs.length ≤ 1000000) :
    Calls Try.prog 24 #[.pointer (some ⟨a, 0, none⟩), .int .i64 i, .int .u64 v] w fun e w' => e = .returned (.int .i64 0) ∧ ArenaAt w' a c (cs.set i v) keep lv n f ∧ Touch (fun b => b = c) w w' := by
  have I := Lib.hid (fun W => inside_yes (show insB cs.length i = true from decide_eq_true ⟨by omega, by omega⟩) (some ⟨c, 0, none⟩) cs.length W)
  have hi0 : (0 : Int) ≤ (i : Int) := by omega
  have hi1 : (i : Int) < (cs.length : Int) := by omega
  have c0 := hA.c0
  have cc := hA.cell i hi
  have fc := hA.row.frozen i
  go_enter Try.func24, Try.ntmps24
  go_wp2_with (go_at_call 30; refine (I.out _).mono ?_; rintro e w1 ⟨rfl, m1, rfl⟩)
  go_ret
  exact ⟨rfl, (hA.drewN _).stored i v, ((Touch.refl _ _).drewN _).setCell (by rfl) _⟩
end
end Go.Proofs.Ytedccpconldkoaa
