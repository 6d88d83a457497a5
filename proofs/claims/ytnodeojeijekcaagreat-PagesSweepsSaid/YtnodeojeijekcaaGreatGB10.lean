/- Texts of this seat, one behind the other: each says at its head what it holds. No condition of its own. -/
import Derived.Deep.RegionHeld3
import Derived.StillTailTactics
import Derived.Deep.Slices
import Derived.Deep.Fields
import Derived.ChangeSame
import Derived.Deep.Strs
import Derived.Test.YtnodeojeijekcaaGreatGB01
import Derived.Test.YtnodeojeijekcaaGreatGB02
import Derived.Test.YtnodeojeijekcaaGreatGB09
/- What Load, Store, Swap, Cas, Or and And of a port return, and what is so behind them. Condition: the arena's and the port's blocks are there, its counts are small. -/
namespace Go.Proofs.YtnodeojeijekcaaGreat
open Go.RowKit
set_option maxHeartbeats 400000 in
theorem load_nil (at' : Int) (w : World) :
    Calls Tryz.prog 48 #[.pointer none, .int .i64 at'] w fun e w' => (e = .returned (.int .u64 0)) ∧ Below w.heap.size w w' := by
  go_enter Tryz.func48, Tryz.ntmps48
  go_wp2_with (go_at_call 75; refine (access_nil _ _ _ _ _ _ _ _).mono ?_; rintro e w1 ⟨rfl, hs⟩)
  go_ret
  exact ⟨rfl, hs⟩
set_option maxHeartbeats 400000 in
theorem load_fault (a c p : Nat) (cs : List Int) (keep : Bool) (lv : Value) (n f : Int) (g : Bool) (who at' : Int) (w : World) (hL : ArenaAt w a c cs keep lv n f) (hP : PortAt w p a who g) (hpa : p ≠ a) (hpc : p ≠ c)
    (hf0 : 0 ≤ f) (hf1 : f < 1000000) (hg : g = false ∨ insB cs.length at' = false) :
    Calls Tryz.prog 48 #[.pointer (some ⟨p, 0, none⟩), .int .i64 at'] w fun e w' => (e = .returned (.int .u64 0)) ∧ FaultStep a c p cs keep lv n f who w w' := by
  have T := Lib.hid (access_no a c p cs keep lv n f g who 1 at' 0 0 w hL hP hpa hpc hf0 hf1 (by decide) hg)
  clear hg hL hP
  go_enter Tryz.func48, Tryz.ntmps48
  go_wp2_with (go_at_call 75; refine (T.out).mono ?_; rintro e w1 ⟨rfl, hs⟩)
  go_ret
  exact ⟨rfl, hs⟩
set_option maxHeartbeats 400000 in
theorem load_put (a c p : Nat) (cs : List Int) (lv : Value) (n f : Int) (who : Int) (i : Nat) (w : World) (hL : ArenaAt w a c cs false lv n f) (hP : PortAt w p a who true) (hpa : p ≠ a) (hpc : p ≠ c)
    (hn0 : 0 ≤ n) (hn1 : n < 1000000) (hi : i < cs.length) (hm : cs.length ≤ 1000000) :
    Calls Tryz.prog 48 #[.pointer (some ⟨p, 0, none⟩), .int .i64 i] w fun e w' => (e = .returned (.int .u64 (cs.getD i 0))) ∧ PutStep a c p cs lv n f i who 1 0 0 w w' := by
  have T := Lib.hid (access_put a c p cs lv n f who 1 0 0 i w hL hP hpa hpc hn0 hn1 (by decide) hi hm)
  clear hL hP
  unfold AccPutPost at T
  generalize cs.getD i 0 = z at *
  go_enter Tryz.func48, Tryz.ntmps48
  go_wp2_with (go_at_call 75; refine (T.out).mono ?_; rintro e w1 ⟨rfl, hs⟩)
  go_ret
  exact ⟨rfl, hs⟩
set_option maxHeartbeats 400000 in
theorem load_log (B a c p : Nat) (cs : List Int) (lv : Value) (xs : List Value) (m : Nat) (f : Int) (who : Int) (i : Nat) (w : World) (hL : ArenaL w B a c cs lv xs m f) (hP : PortAt w p a who true) (hpa : p ≠ a) (hpc : p ≠ c) (hpl : lv.ownBlock ≠ some p)
    (hB : B ≤ w.heap.size) (hn1 : m < 1000000) (hi : i < cs.length) :
    Calls Tryz.prog 48 #[.pointer (some ⟨p, 0, none⟩), .int .i64 i] w fun e w' => (e = .returned (.int .u64 (cs.getD i 0))) ∧ LogStep B a c p cs lv xs m f i who 1 0 0 w w' := by
  have T := Lib.hid (access_log B a c p cs lv xs m f who 1 0 0 i w hL hP hpa hpc hpl hB hn1 (by decide) hi)
  clear hL hP hpl
  unfold AccLogPost at T
  generalize cs.getD i 0 = z at *
  go_enter Tryz.func48, Tryz.ntmps48
  go_wp2_with (go_at_call 75; refine (T.out).mono ?_; rintro e w1 ⟨rfl, hs⟩)
  go_ret
  exact ⟨rfl, hs⟩
set_option maxHeartbeats 400000 in
theorem store_nil (at' : Int) (v : Int) (w : World) :
    Calls Tryz.prog 54 #[.pointer none, .int .i64 at', .int .u64 v] w fun e w' => (∃ v, e = .returned v) ∧ Below w.heap.size w w' := by
  go_enter Tryz.func54, Tryz.ntmps54
  go_wp2_with (go_at_call 75; refine (access_nil _ _ _ _ _ _ _ _).mono ?_; rintro e w1 ⟨rfl, hs⟩)
  go_end0
  exact ⟨⟨_, rfl⟩, hs⟩
set_option maxHeartbeats 400000 in
theorem store_fault (a c p : Nat) (cs : List Int) (keep : Bool) (lv : Value) (n f : Int) (g : Bool) (who at' : Int) (v : Int) (w : World) (hL : ArenaAt w a c cs keep lv n f) (hP : PortAt w p a who g) (hpa : p ≠ a) (hpc : p ≠ c)
    (hf0 : 0 ≤ f) (hf1 : f < 1000000) (hg : g = false ∨ insB cs.length at' = false) :
    Calls Tryz.prog 54 #[.pointer (some ⟨p, 0, none⟩), .int .i64 at', .int .u64 v] w fun e w' => (∃ v, e = .returned v) ∧ FaultStep a c p cs keep lv n f who w w' := by
  have T := Lib.hid (access_no a c p cs keep lv n f g who 2 at' 0 v w hL hP hpa hpc hf0 hf1 (by decide) hg)
  clear hg hL hP
  go_enter Tryz.func54, Tryz.ntmps54
  go_wp2_with (go_at_call 75; refine (T.out).mono ?_; rintro e w1 ⟨rfl, hs⟩)
  go_end0
  exact ⟨⟨_, rfl⟩, hs⟩
set_option maxHeartbeats 400000 in
theorem store_put (a c p : Nat) (cs : List Int) (lv : Value) (n f : Int) (who : Int) (i : Nat) (v : Int) (w : World) (hL : ArenaAt w a c cs false lv n f) (hP : PortAt w p a who true) (hpa : p ≠ a) (hpc : p ≠ c)
    (hn0 : 0 ≤ n) (hn1 : n < 1000000) (hi : i < cs.length) (hm : cs.length ≤ 1000000) :
    Calls Tryz.prog 54 #[.pointer (some ⟨p, 0, none⟩), .int .i64 i, .int .u64 v] w fun e w' => (∃ v, e = .returned v) ∧ PutStep a c p cs lv n f i who 2 0 v w w' := by
  have T := Lib.hid (access_put a c p cs lv n f who 2 0 v i w hL hP hpa hpc hn0 hn1 (by decide) hi hm)
  clear hL hP
  unfold AccPutPost at T
  generalize cs.getD i 0 = z at *
  go_enter Tryz.func54, Tryz.ntmps54
  go_wp2_with (go_at_call 75; refine (T.out).mono ?_; rintro e w1 ⟨rfl, hs⟩)
  go_end0
  exact ⟨⟨_, rfl⟩, hs⟩
set_option maxHeartbeats 400000 in
theorem store_log (B a c p : Nat) (cs : List Int) (lv : Value) (xs : List Value) (m : Nat) (f : Int) (who : Int) (i : Nat) (v : Int) (w : World) (hL : ArenaL w B a c cs lv xs m f) (hP : PortAt w p a who true) (hpa : p ≠ a) (hpc : p ≠ c) (hpl : lv.ownBlock ≠ some p)
    (hB : B ≤ w.heap.size) (hn1 : m < 1000000) (hi : i < cs.length) :
    Calls Tryz.prog 54 #[.pointer (some ⟨p, 0, none⟩), .int .i64 i, .int .u64 v] w fun e w' => (∃ v, e = .returned v) ∧ LogStep B a c p cs lv xs m f i who 2 0 v w w' := by
  have T := Lib.hid (access_log B a c p cs lv xs m f who 2 0 v i w hL hP hpa hpc hpl hB hn1 (by decide) hi)
  clear hL hP hpl
  unfold AccLogPost at T
  generalize cs.getD i 0 = z at *
  go_enter Tryz.func54, Tryz.ntmps54
  go_wp2_with (go_at_call 75; refine (T.out).mono ?_; rintro e w1 ⟨rfl, hs⟩)
  go_end0
  exact ⟨⟨_, rfl⟩, hs⟩
set_option maxHeartbeats 400000 in
theorem cas_nil (at' : Int) (want v : Int) (w : World) :
    Calls Tryz.prog 78 #[.pointer none, .int .i64 at', .int .u64 want, .int .u64 v] w fun e w' => (e = .returned (.bool false)) ∧ Below w.heap.size w w' := by
  go_enter Tryz.func78, Tryz.ntmps78
  go_wp2_with (go_at_call 75; refine (access_nil _ _ _ _ _ _ _ _).mono ?_; rintro e w1 ⟨rfl, hs⟩)
  go_ret
  exact ⟨rfl, hs⟩
set_option maxHeartbeats 400000 in
theorem cas_fault (a c p : Nat) (cs : List Int) (keep : Bool) (lv : Value) (n f : Int) (g : Bool) (who at' : Int) (want v : Int) (w : World) (hL : ArenaAt w a c cs keep lv n f) (hP : PortAt w p a who g) (hpa : p ≠ a) (hpc : p ≠ c)
    (hf0 : 0 ≤ f) (hf1 : f < 1000000) (hg : g = false ∨ insB cs.length at' = false) :
    Calls Tryz.prog 78 #[.pointer (some ⟨p, 0, none⟩), .int .i64 at', .int .u64 want, .int .u64 v] w fun e w' => (e = .returned (.bool false)) ∧ FaultStep a c p cs keep lv n f who w w' := by
  have T := Lib.hid (access_no a c p cs keep lv n f g who 4 at' want v w hL hP hpa hpc hf0 hf1 (by decide) hg)
  clear hg hL hP
  go_enter Tryz.func78, Tryz.ntmps78
  go_wp2_with (go_at_call 75; refine (T.out).mono ?_; rintro e w1 ⟨rfl, hs⟩)
  go_ret
  exact ⟨rfl, hs⟩
set_option maxHeartbeats 400000 in
theorem cas_put (a c p : Nat) (cs : List Int) (lv : Value) (n f : Int) (who : Int) (i : Nat) (want v : Int) (w : World) (hL : ArenaAt w a c cs false lv n f) (hP : PortAt w p a who true) (hpa : p ≠ a) (hpc : p ≠ c)
    (hn0 : 0 ≤ n) (hn1 : n < 1000000) (hi : i < cs.length) (hm : cs.length ≤ 1000000) :
    Calls Tryz.prog 78 #[.pointer (some ⟨p, 0, none⟩), .int .i64 i, .int .u64 want, .int .u64 v] w fun e w' => (e = .returned (.bool ((cs.getD i 0) == want))) ∧ PutStep a c p cs lv n f i who 4 want v w w' := by
  have T := Lib.hid (access_put a c p cs lv n f who 4 want v i w hL hP hpa hpc hn0 hn1 (by decide) hi hm)
  clear hL hP
  unfold AccPutPost at T
  generalize cs.getD i 0 = z at *
  go_enter Tryz.func78, Tryz.ntmps78
  go_wp2_with (go_at_call 75; refine (T.out).mono ?_; rintro e w1 ⟨rfl, hs⟩)
  go_ret
  exact ⟨rfl, hs⟩
set_option maxHeartbeats 400000 in
theorem cas_log (B a c p : Nat) (cs : List Int) (lv : Value) (xs : List Value) (m : Nat) (f : Int) (who : Int) (i : Nat) (want v : Int) (w : World) (hL : ArenaL w B a c cs lv xs m f) (hP : PortAt w p a who true) (hpa : p ≠ a) (hpc : p ≠ c) (hpl : lv.ownBlock ≠ some p)
    (hB : B ≤ w.heap.size) (hn1 : m < 1000000) (hi : i < cs.length) :
    Calls Tryz.prog 78 #[.pointer (some ⟨p, 0, none⟩), .int .i64 i, .int .u64 want, .int .u64 v] w fun e w' => (e = .returned (.bool ((cs.getD i 0) == want))) ∧ LogStep B a c p cs lv xs m f i who 4 want v w w' := by
  have T := Lib.hid (access_log B a c p cs lv xs m f who 4 want v i w hL hP hpa hpc hpl hB hn1 (by decide) hi)
  clear hL hP hpl
  unfold AccLogPost at T
  generalize cs.getD i 0 = z at *
  go_enter Tryz.func78, Tryz.ntmps78
  go_wp2_with (go_at_call 75; refine (T.out).mono ?_; rintro e w1 ⟨rfl, hs⟩)
  go_ret
  exact ⟨rfl, hs⟩
end Go.Proofs.YtnodeojeijekcaaGreat
/- What New, Peek, Poke and Image of package arena return. Condition: the arena's blocks are there. -/
namespace Go.Proofs.YtnodeojeijekcaaGreat
open Go.RowKit
def zeros (n : Nat) : Array Value := ((List.replicate n (0 : Int)).map (Value.int .u64)).toArray
theorem madeCells_zeros (n : Nat) : madeCells #[Value.int .u64 0] (n * 1) = zeros n := by
  unfold madeCells zeros
  apply Array.ext
  · simp
  · intro i h1 h2
    simp [show i % 1 = 0 by omega]
theorem run_mk (W : World) (n : Int) (h0 : 0 ≤ n) (h1 : n ≤ 4096) : (Instr.makeSlice 46 (.int .i64 n) (.int .i64 n)).run Tryz.prog W = .ok (.slice (some ⟨W.heap.size, 0, none⟩) n.toNat n.toNat) (W.alloc (.cells (zeros n.toNat) 47)) := by
  obtain ⟨i0, hi0, hz0, hz1, hz2⟩ := info_parts info_u64
  rw [run_make W 46 47 i0 _ Tryz.underlying46 hi0 hz0 .i64 .i64 n n h0 (Int.le_refl _) (by rw [hz2]; omega) (by omega), hz1, ← madeCells_zeros]
  rfl
set_option maxHeartbeats 400000 in
theorem new_no (n : Int) (keep : Bool) (w : World) (h : n < 1 ∨ 4096 < n) :
    Calls Tryz.prog 22 #[.int .i64 n, .bool keep] w fun e w' => e = .returned (.tuple #[.pointer none, .int .i64 1]) ∧ Quiet w w' := by
  rcases h with h | h
  · go_enter Tryz.func22, Tryz.ntmps22
    go_wp2
    go_ret2
    exact ⟨rfl, Quiet.refl _⟩
  · have h' : ¬ n < 1 := by omega
    go_enter Tryz.func22, Tryz.ntmps22
    go_wp2
    go_ret2
    exact ⟨rfl, Quiet.refl _⟩
def NewPost (n : Nat) (keep : Bool) (w : World) (e : Ending) (w' : World) : Prop :=
  ∃ a c, e = .returned (.tuple #[.pointer (some ⟨a, 0, none⟩), .int .i64 0]) ∧ ArenaAt w' a c (List.replicate n 0) keep (.slice none 0 0) 0 0 ∧ w.heap.size ≤ a ∧ w.heap.size ≤ c ∧ Below w.heap.size w w'
set_option maxHeartbeats 400000 in
theorem new_yes (n : Nat) (keep : Bool) (w : World) (h0 : 1 ≤ n) (h1 : n ≤ 4096) :
    Calls Tryz.prog 22 #[.int .i64 n, .bool keep] w (NewPost n keep w) := by
  have hmk := fun W => run_mk W n (by omega) (by omega)
  go_enter Tryz.func22, Tryz.ntmps22
  go_wp2
  go_ret2
  exact ⟨w.heap.size + 1, w.heap.size, rfl, ⟨by rw [List.length_replicate]; exact Blk.new' (by simp), (Blk.new' rfl).alloc _, by omega⟩, by omega, Nat.le_refl _, ((Below.refl _ _).alloc (Nat.le_refl _) _).alloc (by simp) _⟩
section
variable {a c : Nat} {cs : List Int} {keep : Bool} {lv : Value} {n f : Int} {w : World}
set_option maxHeartbeats 400000 in
theorem peek_nil (i : Int) (w : World) :
    Calls Tryz.prog 30 #[.pointer none, .int .i64 i] w fun e w' => e = .returned (.tuple #[.int .u64 0, .int .i64 2]) ∧ Quiet w w' := by
  go_enter Tryz.func30, Tryz.ntmps30
  go_wp2
  go_ret2
  exact ⟨rfl, Quiet.refl _⟩
set_option maxHeartbeats 400000 in
theorem peek_no (i : Int) (hA : ArenaAt w a c cs keep lv n f) (hi : insB cs.length i = false) :
    Calls Tryz.prog 30 #[.pointer (some ⟨a, 0, none⟩), .int .i64 i] w fun e w' => e = .returned (.tuple #[.int .u64 0, .int .i64 5]) ∧ Quiet w w' := by
  have c0 := hA.c0
  clear hA
  go_enter Tryz.func30, Tryz.ntmps30
  go_wp2_with (go_at_call 66; refine (inside_no hi _ _ _).mono ?_; rintro e w1 ⟨rfl, hq⟩)
  go_ret2
  exact ⟨rfl, hq⟩
set_option maxHeartbeats 400000 in
theorem peek_yes (i : Nat) (hA : ArenaAt w a c cs keep lv n f) (hi : i < cs.length) (_hm : cs.length ≤ 1000000) :
    Calls Tryz.prog 30 #[.pointer (some ⟨a, 0, none⟩), .int .i64 i] w fun e w' => e = .returned (.tuple #[.int .u64 (cs.getD i 0), .int .i64 0]) ∧ Quiet w w' := by
  have I := Lib.hid (fun W => inside_yes (show insB cs.length i = true from decide_eq_true ⟨by omega, by omega⟩) (some ⟨c, 0, none⟩) cs.length W)
  have hi0 : (0 : Int) ≤ (i : Int) := by omega
  have hi1 : (i : Int) < (cs.length : Int) := by omega
  have c0 := hA.c0
  have cc := hA.cell i hi
  clear hA
  generalize cs.getD i 0 = z at *
  go_enter Tryz.func30, Tryz.ntmps30
  go_wp2_with (go_at_call 66; refine (I.out _).mono ?_; rintro e w1 ⟨rfl, m1, rfl⟩)
  go_ret2
  exact ⟨rfl, Quiet.drew⟩
set_option maxHeartbeats 400000 in
theorem poke_nil (i v : Int) (w : World) :
    Calls Tryz.prog 27 #[.pointer none, .int .i64 i, .int .u64 v] w fun e w' => e = .returned (.int .i64 2) ∧ Quiet w w' := by
  go_enter Tryz.func27, Tryz.ntmps27
  go_wp2
  go_ret
  exact ⟨rfl, Quiet.refl _⟩
set_option maxHeartbeats 400000 in
theorem poke_no (i v : Int) (hA : ArenaAt w a c cs keep lv n f) (hi : insB cs.length i = false) :
    Calls Tryz.prog 27 #[.pointer (some ⟨a, 0, none⟩), .int .i64 i, .int .u64 v] w fun e w' => e = .returned (.int .i64 5) ∧ Quiet w w' := by
  have c0 := hA.c0
  clear hA
  go_enter Tryz.func27, Tryz.ntmps27
  go_wp2_with (go_at_call 66; refine (inside_no hi _ _ _).mono ?_; rintro e w1 ⟨rfl, hq⟩)
  go_ret
  exact ⟨rfl, hq⟩
set_option maxHeartbeats 400000 in
theorem poke_yes (i : Nat) (v : Int) (hA : ArenaAt w a c cs keep lv n f) (hi : i < cs.length) (_hm : cs.length ≤ 1000000) :
    Calls Tryz.prog 27 #[.pointer (some ⟨a, 0, none⟩), .int .i64 i, .int .u64 v] w fun e w' => e = .returned (.int .i64 0) ∧ ArenaAt w' a c (cs.set i v) keep lv n f ∧ Touch (fun b => b = c) w w' := by
  have I := Lib.hid (fun W => inside_yes (show insB cs.length i = true from decide_eq_true ⟨by omega, by omega⟩) (some ⟨c, 0, none⟩) cs.length W)
  have hi0 : (0 : Int) ≤ (i : Int) := by omega
  have hi1 : (i : Int) < (cs.length : Int) := by omega
  have c0 := hA.c0
  have cc := hA.cell i hi
  have fc := hA.row.frozen i
  go_enter Tryz.func27, Tryz.ntmps27
  go_wp2_with (go_at_call 66; refine (I.out _).mono ?_; rintro e w1 ⟨rfl, m1, rfl⟩)
  go_ret
  exact ⟨rfl, (hA.drewN _).stored i v, ((Touch.refl _ _).drewN _).setCell (by rfl) _⟩
end
end Go.Proofs.YtnodeojeijekcaaGreat
/- An arena with a log as one fact, with the list of the blocks that are none of its own: what its ports' accesses do. Condition: its blocks are there, its counts are small. -/
namespace Go.Proofs.YtnodeojeijekcaaGreat
open Go.RowKit
/-- An arena that keeps its log, made at or behind block B: cells cs, n accesses made, no fault; the blocks of K are none of its own. -/
structure Arx (w : World) (B a c : Nat) (cs : List Int) (xs : List Value) (n : Nat) (K : List Nat) : Prop where
  ex : ∃ lv, ArenaL w B a c cs lv xs n 0 ∧ ∀ g, lv.ownBlock = some g → g ∉ K
  na : a ∉ K
  nc : c ∉ K
  lt : ∀ b ∈ K, b < w.heap.size
  ba : B ≤ a
  bc : B ≤ c
  bw : B ≤ w.heap.size
section
variable {w w' : World} {B a c p : Nat} {cs : List Int} {xs : List Value} {n : Nat} {K : List Nat} {who : Int} {i : Nat}
theorem Arx.touch {R : Nat → Prop} (h : Arx w B a c cs xs n K) (ht : Touch R w w') (hR : ∀ b, R b → b ∈ K) : Arx w' B a c cs xs n K := by
  obtain ⟨⟨lv, hL, hg⟩, h1, h2, h3, h4, h5, h6⟩ := h
  exact ⟨⟨lv, hL.touch ht (fun r => h1 (hR _ r)) (fun r => h2 (hR _ r)) (fun g e r => hg g e (hR _ r)), hg⟩, h1, h2, fun b hb => Nat.lt_of_lt_of_le (h3 b hb) ht.size, h4, h5, Nat.le_trans h6 ht.size⟩
theorem Arx.grew (h : Arx w B a c cs xs n K) (hb : Below w.heap.size w w') : Arx w' B a c cs xs n K :=
  h.touch (R := fun _ => False) (Touch.of hb) (fun _ h => h.elim)
theorem Arx.quiet (h : Arx w B a c cs xs n K) (hq : Quiet w w') : Arx w' B a c cs xs n K := h.grew hq.below
theorem Arx.a_lt (h : Arx w B a c cs xs n K) : a < w.heap.size := by
  obtain ⟨lv, hL, _⟩ := h.ex; exact hL.at'.own.lt
theorem Arx.c_lt (h : Arx w B a c cs xs n K) : c < w.heap.size := by
  obtain ⟨lv, hL, _⟩ := h.ex; exact hL.at'.row.lt
/-- a block that came later is none of its own -/
theorem Arx.add (h : Arx w B a c cs xs n K) (hb : Below w.heap.size w w') {m : Nat} (hm : w.heap.size ≤ m) (hm' : m < w'.heap.size) : Arx w' B a c cs xs n (m :: K) := by
  obtain ⟨⟨lv, hL, hg⟩, h1, h2, h3, h4, h5, h6⟩ := h
  have la := hL.at'.own.lt
  have lc := hL.at'.row.lt
  have lg := fun g hg => (hL.own.lt g hg).2
  refine ⟨⟨lv, hL.grew hb, fun g e => ?_⟩, ?_, ?_, ?_, h4, h5, Nat.le_trans h6 hb.size⟩
  · have := lg g e
    rw [List.mem_cons]
    rintro (rfl | r)
    · omega
    · exact hg g e r
  · rw [List.mem_cons]
    rintro (rfl | r)
    · omega
    · exact h1 r
  · rw [List.mem_cons]
    rintro (rfl | r)
    · omega
    · exact h2 r
  · intro b hb'
    rcases List.mem_cons.1 hb' with rfl | r
    · exact hm'
    · exact Nat.lt_of_lt_of_le (h3 b r) hb.size
theorem Arx.sub {K' : List Nat} (h : Arx w B a c cs xs n K) (hs : ∀ b ∈ K', b ∈ K) : Arx w B a c cs xs n K' := by
  obtain ⟨⟨lv, hL, hg⟩, h1, h2, h3, h4, h5, h6⟩ := h
  exact ⟨⟨lv, hL, fun g e r => hg g e (hs _ r)⟩, fun r => h1 (hs _ r), fun r => h2 (hs _ r), fun b hb => h3 b (hs _ hb), h4, h5, h6⟩
/-- what an access through port p leaves -/
def ArxStep (B a c p : Nat) (cs : List Int) (xs : List Value) (n : Nat) (K : List Nat) (i : Nat) (who k want put : Int) (w w' : World) : Prop :=
  Arx w' B a c (cs.set i (leftI k (cs.getD i 0) want put)) (xs ++ accV who k i want put (cs.getD i 0) (leftI k (cs.getD i 0) want put)) (n + 1) K ∧ PortAt w' p a who false ∧ Touch (fun b => b = p ∨ (B ≤ b ∧ b ∉ K)) w w'
theorem LogStep.arx {lv : Value} {k want put : Int} (h : LogStep B a c p cs lv xs n 0 i who k want put w w') (hA : Arx w B a c cs xs n K) (hL : ArenaL w B a c cs lv xs n 0) (hg : ∀ g, lv.ownBlock = some g → g ∉ K) : ArxStep B a c p cs xs n K i who k want put w w' := by
  obtain ⟨lv', hL', hP', hg', hT⟩ := h
  refine ⟨⟨⟨lv', hL', fun g e r => ?_⟩, hA.na, hA.nc, fun b hb => Nat.lt_of_lt_of_le (hA.lt b hb) hT.size, hA.ba, hA.bc, Nat.le_trans hA.bw hT.size⟩, hP', hT.mono fun b hb hr => ?_⟩
  · rcases hg' g e with h | h
    · exact hg g h r
    · have := hA.lt g r
      omega
  · rcases hr with rfl | rfl | rfl | e
    · exact .inr ⟨hA.ba, hA.na⟩
    · exact .inr ⟨hA.bc, hA.nc⟩
    · exact .inl rfl
    · exact .inr ⟨(hL.own.lt b e).1, hg b e⟩
theorem load_x (hA : Arx w B a c cs xs n K) (hP : PortAt w p a who true) (hp : p ∈ K) (hn : n < 1000000) (hi : i < cs.length) :
    Calls Tryz.prog 48 #[.pointer (some ⟨p, 0, none⟩), .int .i64 i] w fun e w' => (e = .returned (.int .u64 (cs.getD i 0))) ∧ ArxStep B a c p cs xs n K i who 1 0 0 w w' := by
  obtain ⟨lv, hL, hg⟩ := hA.ex
  exact (load_log B a c p cs lv xs n 0 who i w hL hP (fun e => hA.na (e ▸ hp)) (fun e => hA.nc (e ▸ hp)) (fun e => hg p e hp) hA.bw hn hi).mono fun e w' ⟨he, hs⟩ => ⟨he, hs.arx hA hL hg⟩
theorem store_x (v : Int) (hA : Arx w B a c cs xs n K) (hP : PortAt w p a who true) (hp : p ∈ K) (hn : n < 1000000) (hi : i < cs.length) :
    Calls Tryz.prog 54 #[.pointer (some ⟨p, 0, none⟩), .int .i64 i, .int .u64 v] w fun e w' => (∃ u, e = .returned u) ∧ ArxStep B a c p cs xs n K i who 2 0 v w w' := by
  obtain ⟨lv, hL, hg⟩ := hA.ex
  exact (store_log B a c p cs lv xs n 0 who i v w hL hP (fun e => hA.na (e ▸ hp)) (fun e => hA.nc (e ▸ hp)) (fun e => hg p e hp) hA.bw hn hi).mono fun e w' ⟨he, hs⟩ => ⟨he, hs.arx hA hL hg⟩
theorem poke_x (v : Int) (hA : Arx w B a c cs xs n K) (hi : i < cs.length) (hm : cs.length ≤ 1000000) :
    Calls Tryz.prog 27 #[.pointer (some ⟨a, 0, none⟩), .int .i64 i, .int .u64 v] w fun e w' => e = .returned (.int .i64 0) ∧ Arx w' B a c (cs.set i v) xs n K ∧ Touch (fun b => b = c) w w' := by
  obtain ⟨lv, hL, hg⟩ := hA.ex
  refine (poke_yes i v hL.at' hi hm).mono fun e w' ⟨he, hA', hT⟩ => ⟨he, ⟨⟨lv, ⟨hA', own_touch hL.own hT (fun g e r => hL.apc (e.trans (by rw [r]))), hL.apa, hL.apc⟩, hg⟩, hA.na, hA.nc, fun b hb => Nat.lt_of_lt_of_le (hA.lt b hb) hT.size, hA.ba, hA.bc, Nat.le_trans hA.bw hT.size⟩, hT⟩
theorem peek_x (hA : Arx w B a c cs xs n K) (hi : i < cs.length) (hm : cs.length ≤ 1000000) :
    Calls Tryz.prog 30 #[.pointer (some ⟨a, 0, none⟩), .int .i64 i] w fun e w' => e = .returned (.tuple #[.int .u64 (cs.getD i 0), .int .i64 0]) ∧ Quiet w w' := by
  obtain ⟨lv, hL, _⟩ := hA.ex
  exact peek_yes i hL.at' hi hm
/-- the arena that New makes -/
theorem ArenaAt.arx {m : Nat} (hA : ArenaAt w a c (List.replicate m 0) true (.slice none 0 0) 0 0) (ha : B ≤ a) (hc : B ≤ c) (hb : B ≤ w.heap.size) : Arx w B a c (List.replicate m 0) [] 0 [] :=
  ⟨⟨_, ⟨hA, World.ownsRow_nil _ _ _ _, by simp [Value.ownBlock], by simp [Value.ownBlock]⟩, fun _ _ => List.not_mem_nil⟩, List.not_mem_nil, List.not_mem_nil, fun _ h => absurd h List.not_mem_nil, ha, hc, hb⟩
end
end Go.Proofs.YtnodeojeijekcaaGreat
/- Words for the laws of package objects: an arena whatever its log tells; the document's map of a plan. Condition: the plan is right. -/
namespace Go.Proofs.YtnodeojeijekcaaGreat
open Go.RowKit
set_option linter.unusedVariables false
def cellsN (P T R : Int) : Nat := (baseI P T R + 64 * P).toNat
theorem cellsN_bd {P T R : Int} (h : Right P T R) : ((cellsN P T R : Nat) : Int) = baseI P T R + 64 * P ∧ 1 ≤ cellsN P T R ∧ cellsN P T R ≤ 2304 := by
  have hb := base_bd h
  obtain ⟨⟨p1, p2⟩, _⟩ := h
  unfold cellsN
  omega
def Ary (w : World) (B a c : Nat) (cs : List Int) (n : Nat) (K : List Nat) : Prop := ∃ xs, Arx w B a c cs xs n K
section
variable {w w' : World} {B a c m : Nat} {cs : List Int} {n : Nat} {K : List Nat}
theorem Ary.grew (h : Ary w B a c cs n K) (hb : Below w.heap.size w w') : Ary w' B a c cs n K := by
  obtain ⟨xs, h⟩ := h; exact ⟨xs, h.grew hb⟩
theorem Ary.quiet (h : Ary w B a c cs n K) (hq : Quiet w w') : Ary w' B a c cs n K := h.grew hq.below
theorem Ary.add (h : Ary w B a c cs n K) (hb : Below w.heap.size w w') (hm : w.heap.size ≤ m) (hm' : m < w'.heap.size) : Ary w' B a c cs n (m :: K) := by
  obtain ⟨xs, h⟩ := h; exact ⟨xs, h.add hb hm hm'⟩
theorem Ary.sub {K' : List Nat} (h : Ary w B a c cs n K) (hs : ∀ b ∈ K', b ∈ K) : Ary w B a c cs n K' := by
  obtain ⟨xs, h⟩ := h; exact ⟨xs, h.sub hs⟩
theorem Ary.bw (h : Ary w B a c cs n K) : B ≤ w.heap.size := by
  obtain ⟨xs, h⟩ := h; exact h.bw
theorem Ary.touch {R : Nat → Prop} (h : Ary w B a c cs n K) (ht : Touch R w w') (hR : ∀ b, R b → b ∈ K) : Ary w' B a c cs n K := by
  obtain ⟨xs, h⟩ := h; exact ⟨xs, h.touch ht hR⟩
end
theorem dwhere_8 {P T R : Int} (h : Right P T R) : whereI P T R 8 0 0 = baseI P T R := by
  have hp := h.1
  unfold whereI
  rw [of_right h, decide_eq_true (show okI P T R 8 0 0 by unfold okI; omega)]
  show posI P T R 8 0 0 = _
  rw [pos_8]; omega
theorem dwhere_5 {P T R : Int} (h : Right P T R) : whereI P T R 5 0 0 = tabI T R := by
  have hp := h.1
  unfold whereI
  rw [of_right h, decide_eq_true (show okI P T R 5 0 0 by unfold okI; omega)]
  show posI P T R 5 0 0 = _
  unfold posI; simp
set_option maxHeartbeats 400000 in
theorem dbase_yes (P T R : Int) (w : World) (h : Right P T R) :
    Calls Tryz.prog 62 #[.agg #[.int .i64 P, .int .i64 T, .int .i64 R]] w fun e w' => e = .returned (.int .i64 (baseI P T R)) ∧ Below w.heap.size w w' := by
  have V := Lib.hid (fun W => where_yes P T R 8 0 0 W h)
  rw [dwhere_8 h] at V
  go_enter Tryz.func62, Tryz.ntmps62
  go_wp2_with fail
  refine (V.out _).mono ?_; rintro e w1 ⟨rfl, hb1⟩
  go_wp2
  go_ret
  exact ⟨rfl, ((Below.refl _ _).alloc (Nat.le_refl _) _).trans (hb1.mono (by simp))⟩
theorem Blk.six {w : World} {b : Nat} {v0 v1 v2 v3 v4 v5 : Value} {t : TypeId} (h : Blk w b #[v0, v1, v2, v3, v4, v5] t) :
    (w.cell? ⟨b, 0, none⟩ = some v0 ∧ w.cell? ⟨b, 1, none⟩ = some v1 ∧ w.cell? ⟨b, 2, none⟩ = some v2 ∧ w.cell? ⟨b, 3, none⟩ = some v3 ∧ w.cell? ⟨b, 4, none⟩ = some v4 ∧ w.cell? ⟨b, 5, none⟩ = some v5) ∧
    (w.frozen? ⟨b, 0, none⟩ = false ∧ w.frozen? ⟨b, 1, none⟩ = false ∧ w.frozen? ⟨b, 2, none⟩ = false ∧ w.frozen? ⟨b, 3, none⟩ = false ∧ w.frozen? ⟨b, 4, none⟩ = false ∧ w.frozen? ⟨b, 5, none⟩ = false) :=
  ⟨⟨h.val 0 rfl, h.val 1 rfl, h.val 2 rfl, h.val 3 rfl, h.val 4 rfl, h.val 5 rfl⟩, h.frozen 0, h.frozen 1, h.frozen 2, h.frozen 3, h.frozen 4, h.frozen 5⟩
theorem Blk.three {w : World} {b : Nat} {v0 v1 v2 : Value} {t : TypeId} (h : Blk w b #[v0, v1, v2] t) :
    (w.cell? ⟨b, 0, none⟩ = some v0 ∧ w.cell? ⟨b, 1, none⟩ = some v1 ∧ w.cell? ⟨b, 2, none⟩ = some v2) ∧ (w.frozen? ⟨b, 0, none⟩ = false ∧ w.frozen? ⟨b, 1, none⟩ = false ∧ w.frozen? ⟨b, 2, none⟩ = false) :=
  ⟨⟨h.val 0 rfl, h.val 1 rfl, h.val 2 rfl⟩, h.frozen 0, h.frozen 1, h.frozen 2⟩
def mapV (P T R : Int) : Value := .agg #[.int .i64 P, .int .i64 T, .int .i64 R, .int .i64 (baseI P T R), .int .i64 (tabI T R), .int .i64 (baseI P T R + 64 * P)]
structure DrS (w : World) (P T R : Int) (b0 b1 : Nat) (W : World) : Prop where
  plan : Blk W b0 #[.int .i64 P, .int .i64 T, .int .i64 R] 23
  res : Blk W b1 #[.int .i64 0, .int .i64 0, .int .i64 0, .int .i64 0, .int .i64 0, .int .i64 0] 33
  bel : Below w.heap.size w W
theorem DrS.grew {w W W' : World} {P T R : Int} {b0 b1 : Nat} (h : DrS w P T R b0 b1 W) (hb : Below W.heap.size W W') : DrS w P T R b0 b1 W' := ⟨h.plan.grew hb, h.res.grew hb, h.bel.trans (hb.mono h.bel.size)⟩
set_option maxRecDepth 100000 in
set_option maxHeartbeats 600000 in
theorem draw_yes (P T R : Int) (w : World) (h : Right P T R) :
    Calls Tryz.prog 20 #[.agg #[.int .i64 P, .int .i64 T, .int .i64 R]] w fun e w' => e = .returned (mapV P T R) ∧ Below w.heap.size w w' := by
  have V := Lib.hid (fun W => rright_any P T R W)
  rw [of_right h] at V
  have BB := Lib.hid (fun W => dbase_yes P T R W h)
  have WW := Lib.hid (fun W => where_yes P T R 5 0 0 W h)
  rw [dwhere_5 h] at WW
  have CC := Lib.hid (fun W => rcells_yes P T R W h)
  clear h
  unfold mapV
  generalize baseI P T R + 64 * P = x at *
  generalize baseI P T R = y at *
  generalize tabI T R = z at *
  go_enter Tryz.func20, Tryz.ntmps20
  go_wp2_with fail
  refine (V.out _).mono ?_; rintro e w1 ⟨rfl, hb1⟩
  have hS1 : DrS w P T R w.heap.size (w.heap.size + 1) w1 := DrS.grew ⟨(Blk.new' rfl).alloc _, Blk.new' (by simp), ((Below.refl _ _).alloc (Nat.le_refl _) _).alloc (by simp) _⟩ hb1
  have p1 := hS1.plan.three.1
  clear hb1
  go_wp2_with fail
  have hS2 := hS1.grew (Quiet.below ⟨1, rfl⟩ : Below w1.heap.size w1 w1.drew)
  go_region_held3 (fun W => (W.cell? ⟨w.heap.size, 0, none⟩ = some (.int .i64 P) ∧ W.cell? ⟨w.heap.size, 1, none⟩ = some (.int .i64 T) ∧ W.cell? ⟨w.heap.size, 2, none⟩ = some (.int .i64 R)))
    (((with_reducible refine (Blk.three (t := 23) ?_).1); repeat (first | (with_reducible exact DrS.plan (by assumption)) | (with_reducible refine Blk.other ?_ _ _ (by simp)))))
    (first | (go_at_call 62; refine (BB.out _).mono ?_; rintro e w3 ⟨rfl, hb3⟩; have hS3 := DrS.grew (by assumption) hb3) | (go_at_call 63; refine (WW.out _).mono ?_; rintro e w3 ⟨rfl, hb3⟩; have hS3 := DrS.grew (by assumption) hb3) | (go_at_call 21; refine (CC.out _).mono ?_; rintro e w3 ⟨rfl, hb3⟩; have hS3 := DrS.grew (by assumption) hb3; have z3 := hS3.res.six))
  have hZ := ((((((hS3.res.set 0 (.int .i64 P)).set 1 (.int .i64 T)).set 2 (.int .i64 R)).set 3 (.int .i64 y)).set 4 (.int .i64 z)).set 5 (.int .i64 x))
  have hB := ((((((hS3.bel.setCell (p := ⟨w.heap.size + 1, 0, none⟩) (by simp) (.int .i64 P)).setCell (p := ⟨w.heap.size + 1, 1, none⟩) (by simp) (.int .i64 T)).setCell (p := ⟨w.heap.size + 1, 2, none⟩) (by simp) (.int .i64 R)).setCell (p := ⟨w.heap.size + 1, 3, none⟩) (by simp) (.int .i64 y)).setCell (p := ⟨w.heap.size + 1, 4, none⟩) (by simp) (.int .i64 z)).setCell (p := ⟨w.heap.size + 1, 5, none⟩) (by simp) (.int .i64 x))
  generalize World.setCell (World.setCell (World.setCell (World.setCell (World.setCell (World.setCell w3 _ _) _ _) _ _) _ _) _ _) _ _ = w9 at *
  have hY : Blk w9 (w.heap.size + 1) #[.int .i64 P, .int .i64 T, .int .i64 R, .int .i64 y, .int .i64 z, .int .i64 x] 33 := hZ
  obtain ⟨y0, y1, y2, y3, y4, y5⟩ := hY.six.1
  clear hZ hY z3 hS1 hS2 hS3
  go_wp2
  refine bodyPost_ret (v := .agg #[.int .i64 P, .int .i64 T, .int .i64 R, .int .i64 y, .int .i64 z, .int .i64 x]) (by simp [results, Tryz.results20, go_sem, y0, y1, y2, y3, y4, y5]) rfl ⟨rfl, hB⟩
end Go.Proofs.YtnodeojeijekcaaGreat
/- Slices of structs of integers, as arguments: what a walk is told of one; and Words of the document at two slices. No condition. -/
namespace Go.Proofs.YtnodeojeijekcaaGreat
open Go.ChangeShapes Go.WideShapes Go.ChangeAt Go.RowKit Go.Deep
section
variable {H : Type} {enc : TypeId × Value → H} {P : Program} {w : World} {base : Nat} {spare : Nat → Bool} {held : Bool}
theorem open_slice_fields {t e : TypeId} {fs : Array Field} {fuel : Nat} {cs : List Value} {x : DataW H × List MemPlace} (ht : P.underlying t = some (.slice e)) (he : P.underlying e = some (.struct fs))
    (hone : oneCellFields P fs = true) (hC : P.cellsOf e = fs.size) (h : DataW.trod enc P w base spare held fuel t cs = some x) :
    (cs = [.slice none 0 0]) ∨
    ∃ (a : Addr) (len cap m : Nat), cs = [.slice (some a) len cap] ∧ len ≤ cap ∧ cap ≤ maxLen ∧ m = (if spare a.block then cap else len) ∧
      ∀ i, i < m → ∃ n : Nat, ∀ (j : Nat) (f : Field), fs[j]? = some f → ∃ (v : Value) (y : DataW H × List MemPlace), w.cell? (a.add (i * fs.size + j)) = some v ∧ DataW.trod enc P w base spare held n f.type [v] = some y := by
  rcases open_slice ht h with h0 | ⟨a, len, cap, m, n, D, Pl, hcs, hb, hl, hm, hmm, hx, hi⟩
  · exact .inl h0.1
  · refine .inr ⟨a, len, cap, m, hcs, hl, hm, hmm, fun i him => ?_⟩
    obtain ⟨cs', hc, ht'⟩ := hi i him
    rw [hC] at hc
    obtain ⟨ys, n', hn', hy, hlen, hyl, hf⟩ := DataW.trod_struct he ht'
    obtain ⟨_, hcl, hat⟩ := World.cells?_some hc
    refine ⟨n', fun j f hj => ?_⟩
    obtain ⟨ho, hk⟩ := hone_of hone j f hj
    have hjl : j < fs.size := (Array.getElem?_eq_some_iff.1 hj).1
    have hcell := hat j hjl
    have hv : cs'[j]? = some (cs'[j]'(by omega)) := List.getElem?_eq_getElem (by omega)
    have h1 := hf j f hj
    rw [ho, hk] at h1
    have hone' : (cs'.drop j).take 1 = [cs'[j]'(by omega)] := by
      rw [List.drop_eq_getElem_cons (by omega)]
      rfl
    rw [hone'] at h1
    have hys : ys[j]? = some (ys[j]'(by omega)) := List.getElem?_eq_getElem (by omega)
    refine ⟨_, _, ?_, h1.trans hys⟩
    rw [← Go.Deep.add_add, hcell, hv]
end
/-- A slice of structs of nf integers, field j of kind kd j: nil, or the elements' numbers F i j. -/
def RowS (nf : Nat) (kd : Nat → IntKind) (w : World) (a : Option Addr) (len _cap : Nat) (F : Nat → Nat → Int) : Prop :=
  len ≤ maxLen ∧ (len = 0 ∨ (∃ b o, a = some ⟨b, o, none⟩ ∧ b < w.heap.size ∧ ∀ i, i < len → ∀ j, j < nf → w.cell? ⟨b, o + i * nf + j, none⟩ = some (.int (kd j) (F i j)) ∧ (Lit.int (kd j) (F i j)).wf = true))
theorem choose2 {p : Nat → Nat → Int → Prop} {m nf : Nat} (h : ∀ i, i < m → ∀ j, j < nf → ∃ n : Int, p i j n) : ∃ F : Nat → Nat → Int, ∀ i, i < m → ∀ j, j < nf → p i j (F i j) := by
  refine ⟨fun i j => if h' : i < m ∧ j < nf then Classical.choose (h i h'.1 j h'.2) else 0, fun i hi j hj => ?_⟩
  simp only [dif_pos (And.intro hi hj)]
  exact Classical.choose_spec (h i hi j hj)
theorem rowS_mk {H : Type} {enc : TypeId × Value → H} {P : Program} {w : World} {base : Nat} {spare : Nat → Bool} {held : Bool} {fs : Array Field} {nf : Nat} {kd : Nat → IntKind} {x : Addr} {len cap m : Nat} (hfs : fs.size = nf)
    (hk : ∀ j, j < nf → ∃ f, fs[j]? = some f ∧ P.underlying f.type = some (.int (kd j))) (hl : len ≤ m) (hmax : len ≤ maxLen) (hn : 0 < nf)
    (hi : ∀ i, i < m → ∃ n : Nat, ∀ (j : Nat) (f : Field), fs[j]? = some f → ∃ (v : Value) (y : DataW H × List MemPlace), w.cell? (x.add (i * fs.size + j)) = some v ∧ DataW.trod enc P w base spare held n f.type [v] = some y) :
    ∃ F, RowS nf kd w (some x) len cap F := by
  subst hfs
  rcases Nat.eq_zero_or_pos len with h0 | h0
  · exact ⟨fun _ _ => 0, hmax, .inl h0⟩
  · obtain ⟨F, hF⟩ := choose2 (p := fun i j n => w.cell? (x.add (i * fs.size + j)) = some (.int (kd j) n) ∧ (Lit.int (kd j) n).wf = true) (m := len) (nf := fs.size) (fun i hil j hj => by
      obtain ⟨n, hf⟩ := hi i (Nat.lt_of_lt_of_le hil hl)
      obtain ⟨f, hfj, hu⟩ := hk j hj
      obtain ⟨v, y, hc, ht⟩ := hf j f hfj
      obtain ⟨q, rfl, hw⟩ := leaf_int hu ht
      exact ⟨q, hc, hw⟩)
    obtain ⟨b, o, s⟩ := x
    have hs : s = none := by simpa [Addr.add] using World.cell?_spot (hF 0 h0 0 hn).1
    subst hs
    have e1 : ∀ k, (⟨b, o, none⟩ : Addr).add k = ⟨b, o + k, none⟩ := fun k => by unfold Addr.add; split <;> simp_all
    refine ⟨F, hmax, .inr ⟨b, o, rfl, World.block_lt_of_cell? w _ ((e1 _) ▸ (hF 0 h0 0 hn).1), fun i hil j hj => ?_⟩⟩
    have := hF i hil j hj
    rw [e1, ← Nat.add_assoc] at this
    exact this
end Go.Proofs.YtnodeojeijekcaaGreat
/- Programs (classes and functions) as arguments: their rows opened, cell by cell. No condition. -/
namespace Go.Proofs.YtnodeojeijekcaaGreat
open Go.ChangeShapes Go.WideShapes Go.ChangeAt Go.RowKit Go.Deep
set_option linter.unusedVariables false
structure FldD where
  name : ByteArray
  ty : Int
structure ClsD where
  name : ByteArray
  fields : List FldD
structure InsD where
  op : Int
  a : Int
  b : Int
structure FunD where
  name : ByteArray
  params : List Int
  result : Int
  locals : List Int
  code : List InsD
structure PrgD where
  classes : List ClsD
  funcs : List FunD
def I64 (x : Int) : Prop := -9223372036854775808 ≤ x ∧ x < 9223372036854775808
theorem wf_I64 {x : Int} (h : (Lit.int .i64 x).wf = true) : I64 x := by
  simp [Lit.wf, IntKind.min, IntKind.max, IntKind.signed, IntKind.bits] at h
  exact ⟨by omega, by omega⟩
/-- A slice whose elements take sz cells each, in blocks below B. -/
def RdRow {α : Type} (sz : Nat) (el : World → Nat → Nat → α → Prop) (B : Nat) (w : World) (v : Value) (l : List α) : Prop :=
  ∃ a c, v = .slice a l.length c ∧ l.length ≤ maxLen ∧ ∀ i, (h : i < l.length) → ∃ b o, a = some ⟨b, o, none⟩ ∧ b < B ∧ el w b (o + i * sz) l[i]
def ElI (w : World) (b k : Nat) (x : Int) : Prop := w.cell? ⟨b, k, none⟩ = some (.int .i64 x) ∧ I64 x
def ElF (w : World) (b k : Nat) (f : FldD) : Prop := w.cell? ⟨b, k, none⟩ = some (.string f.name) ∧ w.cell? ⟨b, k + 1, none⟩ = some (.int .i64 f.ty) ∧ I64 f.ty
def ElC (B : Nat) (w : World) (b k : Nat) (c : ClsD) : Prop := w.cell? ⟨b, k, none⟩ = some (.string c.name) ∧ ∃ v, w.cell? ⟨b, k + 1, none⟩ = some v ∧ RdRow 2 ElF B w v c.fields
def ElN (w : World) (b k : Nat) (x : InsD) : Prop := w.cell? ⟨b, k, none⟩ = some (.int .i64 x.op) ∧ w.cell? ⟨b, k + 1, none⟩ = some (.int .i64 x.a) ∧ w.cell? ⟨b, k + 2, none⟩ = some (.int .i64 x.b) ∧ I64 x.op ∧ I64 x.a ∧ I64 x.b
def ElU (B : Nat) (w : World) (b k : Nat) (f : FunD) : Prop := w.cell? ⟨b, k, none⟩ = some (.string f.name) ∧ (∃ v, w.cell? ⟨b, k + 1, none⟩ = some v ∧ RdRow 1 ElI B w v f.params) ∧ (w.cell? ⟨b, k + 2, none⟩ = some (.int .i64 f.result) ∧ I64 f.result) ∧
  (∃ v, w.cell? ⟨b, k + 3, none⟩ = some v ∧ RdRow 1 ElI B w v f.locals) ∧ ∃ v, w.cell? ⟨b, k + 4, none⟩ = some v ∧ RdRow 3 ElN B w v f.code
def RdPrg (B : Nat) (w : World) (v0 v1 : Value) (p : PrgD) : Prop := RdRow 2 (ElC B) B w v0 p.classes ∧ RdRow 5 (ElU B) B w v1 p.funcs

section
variable {α : Type} {sz B : Nat} {el : World → Nat → Nat → α → Prop} {w w' : World} {v : Value} {l : List α}
theorem RdRow.keep (h : RdRow sz el B w v l) (hb : Below B w w') (hk : ∀ b k x, b < B → el w b k x → el w' b k x) : RdRow sz el B w' v l := by
  obtain ⟨a, c, h1, h2, h3⟩ := h
  exact ⟨a, c, h1, h2, fun i hi => by obtain ⟨b, o, e1, e2, e3⟩ := h3 i hi; exact ⟨b, o, e1, e2, hk _ _ _ e2 e3⟩⟩
theorem ElI.keep {b k : Nat} {x : Int} (hb : Below B w w') (h0 : b < B) (h : ElI w b k x) : ElI w' b k x := ⟨(hb.cell (p := ⟨b, k, none⟩) h0).trans h.1, h.2⟩
theorem ElF.keep {b k : Nat} {x : FldD} (hb : Below B w w') (h0 : b < B) (h : ElF w b k x) : ElF w' b k x :=
  ⟨(hb.cell (p := ⟨b, k, none⟩) h0).trans h.1, (hb.cell (p := ⟨b, k + 1, none⟩) h0).trans h.2.1, h.2.2⟩
theorem ElN.keep {b k : Nat} {x : InsD} (hb : Below B w w') (h0 : b < B) (h : ElN w b k x) : ElN w' b k x :=
  ⟨(hb.cell (p := ⟨b, k, none⟩) h0).trans h.1, (hb.cell (p := ⟨b, k + 1, none⟩) h0).trans h.2.1, (hb.cell (p := ⟨b, k + 2, none⟩) h0).trans h.2.2.1, h.2.2.2⟩
theorem ElC.keep {b k : Nat} {x : ClsD} (hb : Below B w w') (h0 : b < B) (h : ElC B w b k x) : ElC B w' b k x := by
  obtain ⟨h1, v, h2, h3⟩ := h
  exact ⟨(hb.cell (p := ⟨b, k, none⟩) h0).trans h1, v, (hb.cell (p := ⟨b, k + 1, none⟩) h0).trans h2, h3.keep hb fun _ _ _ e r => r.keep hb e⟩
theorem ElU.keep {b k : Nat} {x : FunD} (hb : Below B w w') (h0 : b < B) (h : ElU B w b k x) : ElU B w' b k x := by
  obtain ⟨h1, ⟨v2, h2, h3⟩, ⟨h4, h5⟩, ⟨v6, h6, h7⟩, v8, h8, h9⟩ := h
  exact ⟨(hb.cell (p := ⟨b, k, none⟩) h0).trans h1, ⟨v2, (hb.cell (p := ⟨b, k + 1, none⟩) h0).trans h2, h3.keep hb fun _ _ _ e r => r.keep hb e⟩, ⟨(hb.cell (p := ⟨b, k + 2, none⟩) h0).trans h4, h5⟩,
    ⟨v6, (hb.cell (p := ⟨b, k + 3, none⟩) h0).trans h6, h7.keep hb fun _ _ _ e r => r.keep hb e⟩, v8, (hb.cell (p := ⟨b, k + 4, none⟩) h0).trans h8, h9.keep hb fun _ _ _ e r => r.keep hb e⟩
theorem RdPrg.keep {v0 v1 : Value} {p : PrgD} (h : RdPrg B w v0 v1 p) (hb : Below B w w') : RdPrg B w' v0 v1 p :=
  ⟨h.1.keep hb fun _ _ _ e r => r.keep hb e, h.2.keep hb fun _ _ _ e r => r.keep hb e⟩
end

theorem RdRow.mono {α : Type} {sz B B' : Nat} {el el' : World → Nat → Nat → α → Prop} {w : World} {v : Value} {l : List α} (h : RdRow sz el B w v l) (hB : B ≤ B') (hk : ∀ b k x, el w b k x → el' w b k x) : RdRow sz el' B' w v l := by
  obtain ⟨a, c, h1, h2, h3⟩ := h
  exact ⟨a, c, h1, h2, fun i hi => by obtain ⟨b, o, e1, e2, e3⟩ := h3 i hi; exact ⟨b, o, e1, Nat.lt_of_lt_of_le e2 hB, hk _ _ _ e3⟩⟩
theorem RdPrg.mono {B B' : Nat} {w : World} {v0 v1 : Value} {p : PrgD} (h : RdPrg B w v0 v1 p) (hB : B ≤ B') : RdPrg B' w v0 v1 p :=
  ⟨h.1.mono hB fun b k x ⟨e1, v, e2, e3⟩ => ⟨e1, v, e2, e3.mono hB fun _ _ _ q => q⟩,
   h.2.mono hB fun b k x ⟨e1, ⟨v2, e2, e3⟩, e4, ⟨v6, e6, e7⟩, v8, e8, e9⟩ => ⟨e1, ⟨v2, e2, e3.mono hB fun _ _ _ q => q⟩, e4, ⟨v6, e6, e7.mono hB fun _ _ _ q => q⟩, v8, e8, e9.mono hB fun _ _ _ q => q⟩⟩
section
variable {H : Type} {enc : TypeId × Value → H} {P : Program} {w : World} {base : Nat} {spare : Nat → Bool} {held : Bool}
theorem chooseL {α : Type} {p : Nat → α → Prop} {m : Nat} (h : ∀ i, i < m → ∃ x, p i x) : ∃ l : List α, l.length = m ∧ ∀ i, (hi : i < l.length) → p i l[i] := by
  induction m with
  | zero => exact ⟨[], rfl, fun i hi => absurd hi (by simp)⟩
  | succ m ih =>
    obtain ⟨l, hl, hp⟩ := ih fun i hi => h i (by omega)
    obtain ⟨x, hx⟩ := h m (by omega)
    refine ⟨l ++ [x], by simp [hl], fun i hi => ?_⟩
    by_cases e : i < l.length
    · rw [List.getElem_append_left e]; exact hp i e
    · simp at hi
      obtain rfl : i = m := by omega
      rw [List.getElem_append_right (by omega)]
      simpa using hx
theorem rdRow_mk {α : Type} {sz : Nat} {el : World → Nat → Nat → α → Prop} {fs : Array Field} {x : Addr} {len cap m : Nat} (hfs : fs.size = sz) (hl : len ≤ m) (hmax : len ≤ maxLen) {f0 : Field} (h0 : fs[0]? = some f0)
    (hi : ∀ i, i < m → ∃ n : Nat, ∀ (j : Nat) (f : Field), fs[j]? = some f → ∃ (v : Value) (y : DataW H × List MemPlace), w.cell? (x.add (i * fs.size + j)) = some v ∧ DataW.trod enc P w base spare held n f.type [v] = some y)
    (hel : ∀ b k n, (∀ (j : Nat) (f : Field), fs[j]? = some f → ∃ (v : Value) (y : DataW H × List MemPlace), w.cell? ⟨b, k + j, none⟩ = some v ∧ DataW.trod enc P w base spare held n f.type [v] = some y) → ∃ a, el w b k a) :
    ∃ l, l.length = len ∧ RdRow sz el w.heap.size w (.slice (some x) len cap) l := by
  subst hfs
  rcases Nat.eq_zero_or_pos len with e | hpos
  · subst e; exact ⟨[], rfl, _, _, rfl, by unfold maxLen; simp, fun i hi => absurd hi (by simp)⟩
  obtain ⟨b, o, s⟩ := x
  have hs : s = none := by
    obtain ⟨n, hf⟩ := hi 0 (by omega)
    obtain ⟨v, _, hc, _⟩ := hf 0 _ h0
    simpa [Addr.add] using World.cell?_spot hc
  subst hs
  have e1 : ∀ k, (⟨b, o, none⟩ : Addr).add k = ⟨b, o + k, none⟩ := fun k => by unfold Addr.add; split <;> simp_all
  obtain ⟨l, hl', hp⟩ := chooseL (p := fun i a => b < w.heap.size ∧ el w b (o + i * fs.size) a) (m := len) (fun i hil => by
    obtain ⟨n, hf⟩ := hi i (by omega)
    obtain ⟨v, _, hc, _⟩ := hf 0 _ h0
    rw [e1] at hc
    obtain ⟨a, ha⟩ := hel b (o + i * fs.size) n (fun j f hj => by
      obtain ⟨v, y, hc, ht⟩ := hf j f hj
      rw [e1, ← Nat.add_assoc] at hc
      exact ⟨v, y, hc, ht⟩)
    exact ⟨a, World.block_lt_of_cell? w _ hc, ha⟩)
  exact ⟨l, hl', some ⟨b, o, none⟩, cap, by rw [hl'], by omega, fun i hi => ⟨b, o, rfl, (hp i hi).1, (hp i hi).2⟩⟩
theorem leaf_string {t : TypeId} {fuel : Nat} {c : Value} {x : DataW H × List MemPlace} (ht : P.underlying t = some .string) (h : DataW.trod enc P w base spare held fuel t [c] = some x) : ∃ s, c = .string s := by
  obtain ⟨s, hs, _⟩ := DataW.trod_string ht h
  exact ⟨s, by simpa using hs⟩
/-- a field that is a slice of structs -/
theorem rdField {α : Type} {sz : Nat} {el : World → Nat → Nat → α → Prop} {t e : TypeId} {fs : Array Field} {fuel : Nat} {v : Value} {x : DataW H × List MemPlace} (ht : P.underlying t = some (.slice e)) (he : P.underlying e = some (.struct fs))
    (hone : oneCellFields P fs = true) (hC : P.cellsOf e = fs.size) (hfs : fs.size = sz) {f0 : Field} (h0 : fs[0]? = some f0) (h : DataW.trod enc P w base spare held fuel t [v] = some x)
    (hel : ∀ b k n, (∀ (j : Nat) (f : Field), fs[j]? = some f → ∃ (v : Value) (y : DataW H × List MemPlace), w.cell? ⟨b, k + j, none⟩ = some v ∧ DataW.trod enc P w base spare held n f.type [v] = some y) → ∃ a, el w b k a) :
    ∃ l, RdRow sz el w.heap.size w v l := by
  rcases open_slice_fields ht he hone hC h with hcs | ⟨x, len, c, m, hcs, hl, hm, hmm, hi⟩
  · obtain rfl : v = .slice none 0 0 := by simpa using hcs
    exact ⟨[], none, 0, rfl, by unfold maxLen; simp, fun i hi => absurd hi (by simp)⟩
  · obtain rfl : v = .slice (some x) len c := by simpa using hcs
    obtain ⟨l, _, hr⟩ := rdRow_mk (cap := c) (len := len) hfs (by split at hmm <;> omega) (by omega) h0 hi hel
    exact ⟨l, hr⟩
theorem rdInts {t e : TypeId} {fuel : Nat} {v : Value} {x : DataW H × List MemPlace} (ht : P.underlying t = some (.slice e)) (he : P.underlying e = some (.int .i64)) (hC : P.cellsOf e = 1) (h : DataW.trod enc P w base spare held fuel t [v] = some x) :
    ∃ l, RdRow 1 ElI w.heap.size w v l := by
  rcases open_ints ht he hC h with ⟨hcs, _⟩ | ⟨x, len, c, zs, hcs, _, hl, hm, hz, _, hcell, hwz⟩
  · obtain rfl : v = .slice none 0 0 := by simpa using hcs
    exact ⟨[], none, 0, rfl, by unfold maxLen; simp, fun i hi => absurd hi (by simp)⟩
  · obtain rfl : v = .slice (some x) len c := by simpa using hcs
    have hz' : len ≤ zs.length := by split at hz <;> omega
    rcases Nat.eq_zero_or_pos len with e0 | hpos
    · subst e0; exact ⟨[], _, _, rfl, by unfold maxLen; simp, fun i hi => absurd hi (by simp)⟩
    obtain ⟨b, o, s⟩ := x
    have hs : s = none := by simpa [Addr.add] using World.cell?_spot (hcell 0 (by omega))
    subst hs
    have e1 : ∀ k, (⟨b, o, none⟩ : Addr).add k = ⟨b, o + k, none⟩ := fun k => by unfold Addr.add; split <;> simp_all
    have hlen : (zs.take len).length = len := by rw [List.length_take]; omega
    refine ⟨zs.take len, some ⟨b, o, none⟩, c, by rw [hlen], by omega, fun i hi => ⟨b, o, rfl, ?_, ?_, ?_⟩⟩
    · have := hcell 0 (by omega)
      rw [e1] at this
      exact World.block_lt_of_cell? w _ this
    · have := hcell i (by omega)
      rw [e1] at this
      rw [Nat.mul_one, this, List.getElem_take, List.getD_eq_getElem?_getD, List.getElem?_eq_getElem (by omega)]
      rfl
    · exact wf_I64 (hwz _ (by rw [List.getElem_take]; exact List.getElem_mem _))
end
section
variable {H : Type} {enc : TypeId × Value → H} {w : World} {base : Nat} {spare : Nat → Bool} {held : Bool}
end
end Go.Proofs.YtnodeojeijekcaaGreat
/- The law's own small functions: a plan within a few, plans and headers handed on, an arena laid out of words. Condition: the plan is right; the words are read in full. -/
namespace Go.Proofs.YtnodeojeijekcaaGreat
open Go.RowKit
set_option linter.unusedVariables false
theorem osmall_bd (x k : Int) (h0 : 0 < k) (h1 : k ≤ 1000000) : 1 ≤ wrap64 (1 + wrap64 ((IntKind.u64.wrap x).tmod k)) ∧ wrap64 (1 + wrap64 ((IntKind.u64.wrap x).tmod k)) ≤ k := by
  have hw : 0 ≤ IntKind.u64.wrap x := by rw [IntKind.wrap_u64]; omega
  generalize IntKind.u64.wrap x = y at *
  have e : y.tmod k = y % k := by rw [Int.tmod_eq_emod_of_nonneg hw]
  have h2 : 0 ≤ y % k := Int.emod_nonneg _ (by omega)
  have h3 : y % k < k := Int.emod_lt_of_pos _ (by omega)
  rw [e]
  generalize y % k = z at *
  rw [IntWalk.wrap64_in z ⟨by omega, by omega⟩, IntWalk.wrap64_in (1 + z) ⟨by omega, by omega⟩]
  omega
def OSmall (w : World) (e : Ending) (w' : World) : Prop := ∃ P : Int, e = .returned (.agg #[.int .i64 P, .int .i64 1, .int .i64 1]) ∧ 1 ≤ P ∧ P ≤ 5 ∧ Below w.heap.size w w'
/-- a cell's word, as the law is given it -/
def ElW (w : World) (b k : Nat) (x : Int × Int) : Prop := w.cell? ⟨b, k, none⟩ = some (.int .i64 x.1) ∧ w.cell? ⟨b, k + 1, none⟩ = some (.int .u64 x.2) ∧ U64 x.2
theorem ElW.keep {B : Nat} {w w' : World} {b k : Nat} {x : Int × Int} (hb : Below B w w') (h0 : b < B) (h : ElW w b k x) : ElW w' b k x :=
  ⟨(hb.cell (p := ⟨b, k, none⟩) h0).trans h.1, (hb.cell (p := ⟨b, k + 1, none⟩) h0).trans h.2.1, h.2.2⟩
def layAt (N : Nat) (x : Int) : Nat := (IntKind.u64.wrap x % (N : Int)).toNat
def layL (N : Nat) (l : List (Int × Int)) : List Int := l.foldl (fun cs x => cs.set (layAt N x.1) x.2) (List.replicate N 0)
theorem layL_snoc (N : Nat) (l : List (Int × Int)) (x : Int × Int) : layL N (l ++ [x]) = (layL N l).set (layAt N x.1) x.2 := by unfold layL; rw [List.foldl_append]; rfl
theorem layL_len (N : Nat) : ∀ l, (layL N l).length = N := by
  intro l
  have : ∀ (l : List (Int × Int)) (cs : List Int), (l.foldl (fun cs x => cs.set (layAt N x.1) x.2) cs).length = cs.length := by
    intro l
    induction l with
    | nil => intro cs; rfl
    | cons x l ih => intro cs; rw [List.foldl_cons, ih, List.length_set]
  unfold layL
  rw [this, List.length_replicate]
theorem layL_U (N : Nat) : ∀ l : List (Int × Int), (∀ x ∈ l, U64 x.2) → ∀ z ∈ layL N l, U64 z := by
  intro l
  have : ∀ (l : List (Int × Int)) (cs : List Int), (∀ z ∈ cs, U64 z) → (∀ x ∈ l, U64 x.2) → ∀ z ∈ l.foldl (fun cs x => cs.set (layAt N x.1) x.2) cs, U64 z := by
    intro l
    induction l with
    | nil => intro cs h _; exact h
    | cons x l ih =>
      intro cs h hx
      rw [List.foldl_cons]
      refine ih _ (fun z hz => ?_) (fun y hy => hx y (List.mem_cons_of_mem _ hy))
      rcases List.mem_or_eq_of_mem_set hz with h1 | h1
      · exact h z h1
      · rw [h1]; exact hx x (by simp)
  exact this l _ (fun z hz => by rw [List.eq_of_mem_replicate hz]; exact ⟨by decide, by decide⟩)
theorem layAt_lt {N : Nat} (h : 0 < N) (x : Int) : layAt N x < N := by
  unfold layAt
  have h2 := Int.emod_nonneg (IntKind.u64.wrap x) (show (N : Int) ≠ 0 by omega)
  have h3 := Int.emod_lt_of_pos (IntKind.u64.wrap x) (show (0 : Int) < N by omega)
  omega
theorem layAt_val {N : Nat} (h : 0 < N) (h1 : N ≤ 4096) (x : Int) : wrap64 ((IntKind.u64.wrap x).tmod (N : Int)) = (layAt N x : Int) ∧ wrap64 (IntKind.u64.wrap x % (N : Int)) = (layAt N x : Int) := by
  have hw : 0 ≤ IntKind.u64.wrap x := by rw [IntKind.wrap_u64]; omega
  have h2 := Int.emod_nonneg (IntKind.u64.wrap x) (show (N : Int) ≠ 0 by omega)
  have h3 := Int.emod_lt_of_pos (IntKind.u64.wrap x) (show (0 : Int) < N by omega)
  have e : wrap64 (IntKind.u64.wrap x % (N : Int)) = (layAt N x : Int) := by
    unfold layAt
    rw [IntWalk.wrap64_in _ ⟨by omega, by omega⟩]; omega
  exact ⟨by rw [Int.tmod_eq_emod_of_nonneg hw]; exact e, e⟩
structure LyS (w : World) (B a c d : Nat) (cs : List Int) (W : World) : Prop where
  ary : Ary W B a c cs 0 [d]
  row : Blk W d (cs.map (Value.int .u64)).toArray 47
  bel : Below B w W
theorem LyS.grew {w W W' : World} {B a c d : Nat} {cs : List Int} (h : LyS w B a c d cs W) (hb : Below W.heap.size W W') : LyS w B a c d cs W' := ⟨h.ary.grew hb, h.row.grew hb, h.bel.trans (hb.mono (h.ary.bw))⟩
theorem LyS.put {w W : World} {B a c d : Nat} {cs : List Int} (h : LyS w B a c d cs W) (hd : B ≤ d) (i : Nat) (v : Int) :
    Ary (W.setCell ⟨d, i, none⟩ (.int .u64 v)) B a c cs 0 [d] ∧ Blk (W.setCell ⟨d, i, none⟩ (.int .u64 v)) d ((cs.set i v).map (Value.int .u64)).toArray 47 ∧ Below B w (W.setCell ⟨d, i, none⟩ (.int .u64 v)) := by
  refine ⟨h.ary.touch ((Touch.refl (fun b => b = d) W).setCell (p := ⟨d, i, none⟩) rfl _) (fun b e => by rw [e]; simp), ?_, h.bel.setCell (p := ⟨d, i, none⟩) hd _⟩
  have := h.row.set i (.int .u64 v)
  rw [List.map_set, ← List.setIfInBounds_toArray]
  exact this
theorem apoke {w : World} {B a c n i : Nat} {cs : List Int} {K : List Nat} (v : Int) (hA : Ary w B a c cs n K) (hi : i < cs.length) (hm : cs.length ≤ 1000000) :
    Calls Tryz.prog 27 #[.pointer (some ⟨a, 0, none⟩), .int .i64 i, .int .u64 v] w fun e w' => e = .returned (.int .i64 0) ∧ Ary w' B a c (cs.set i v) n K ∧ Touch (fun b => b = c) w w' := by
  obtain ⟨xs, h⟩ := hA
  exact (poke_x v h hi hm).mono fun e w' ⟨h1, h2, h3⟩ => ⟨h1, ⟨xs, h2⟩, h3⟩
theorem Ary.cne {w : World} {B a c n : Nat} {cs : List Int} {K : List Nat} (h : Ary w B a c cs n K) : c ∉ K ∧ B ≤ c ∧ B ≤ a ∧ a ∉ K ∧ ∀ b ∈ K, b < w.heap.size := by
  obtain ⟨xs, h⟩ := h; exact ⟨h.nc, h.bc, h.ba, h.na, h.lt⟩
end Go.Proofs.YtnodeojeijekcaaGreat
/- What the functions of package word return, for all integers of their kinds: bound, valid, Mask, Get, Put. No condition. -/
namespace Go.Proofs.YtnodeojeijekcaaGreat
open Go.RowKit

set_option maxHeartbeats 400000 in
theorem bound_any (n : Int) (w : World) :
    Calls Tryz.prog 107 #[.int .i64 n] w fun e w' => e = .returned (.int .i64 (bnd n)) ∧ Quiet w w' := by
  by_cases h1 : n < 0
  · have hb : bnd n = 0 := by unfold bnd; rw [if_pos h1]
    rw [hb]; clear hb
    go_enter Tryz.func107, Tryz.ntmps107
    go_wp2
    go_ret
    exact ⟨rfl, Quiet.refl _⟩
  · by_cases h2 : 64 < n
    · have hb : bnd n = 64 := by unfold bnd; rw [if_neg h1, if_pos h2]
      rw [hb]; clear hb
      go_enter Tryz.func107, Tryz.ntmps107
      go_wp2
      go_ret
      exact ⟨rfl, Quiet.refl _⟩
    · have hb : bnd n = n := by unfold bnd; rw [if_neg h1, if_neg h2]
      rw [hb]; clear hb
      go_enter Tryz.func107, Tryz.ntmps107
      go_wp2
      go_ret
      exact ⟨rfl, Quiet.refl _⟩

set_option maxHeartbeats 400000 in
theorem valid_anyWord (a d : Int) (w : World)  :
    Calls Tryz.prog 99 #[.int .i64 a, .int .i64 d] w fun e w' => e = .returned (.bool (fldB a d)) ∧ Quiet w w' := by
  by_cases hf : 0 ≤ a ∧ a < 64 ∧ 1 ≤ d ∧ d ≤ 64 - a
  · rw [fldB_mk hf]
    obtain ⟨h1, h2, h3, h4⟩ := hf
    go_enter Tryz.func99, Tryz.ntmps99
    go_wp2
    go_ret
    exact ⟨rfl, Quiet.refl _⟩
  · have hb : fldB a d = false := by unfold fldB; exact decide_eq_false hf
    rw [hb]; clear hb
    by_cases h1 : 0 ≤ a
    · by_cases h2 : a < 64
      · by_cases h3 : 1 ≤ d
        · have h4 : ¬ d ≤ 64 - a := fun h => hf ⟨h1, h2, h3, h⟩
          clear hf
          go_enter Tryz.func99, Tryz.ntmps99
          go_wp2
          go_ret
          exact ⟨rfl, Quiet.refl _⟩
        · clear hf
          go_enter Tryz.func99, Tryz.ntmps99
          go_wp2
          go_ret
          exact ⟨rfl, Quiet.refl _⟩
      · clear hf
        go_enter Tryz.func99, Tryz.ntmps99
        go_wp2
        go_ret
        exact ⟨rfl, Quiet.refl _⟩
    · clear hf
      go_enter Tryz.func99, Tryz.ntmps99
      go_wp2
      go_ret
      exact ⟨rfl, Quiet.refl _⟩

set_option maxHeartbeats 400000 in
theorem mask_any (n : Int) (w : World) :
    Calls Tryz.prog 100 #[.int .i64 n] w fun e w' => e = .returned (.int .u64 (maskI n)) ∧ Quiet w w' := by
  have hb := bnd_bd n
  go_enter Tryz.func100, Tryz.ntmps100
  go_wp2_with (go_at_call 107; refine (bound_any _ _).mono ?_; rintro e w1 ⟨rfl, hq⟩)
  go_ret
  exact ⟨ret_int (mask_wrap _ hb.1 hb.2), hq⟩

set_option maxHeartbeats 400000 in
theorem get_yes (x a d : Int) (w : World) (hx : U64 x) (h : fldB a d = true) :
    Calls Tryz.prog 93 #[.int .u64 x, .int .i64 a, .int .i64 d] w fun e w' => e = .returned (.tuple #[.int .u64 (getI x a d), .int .i64 0]) ∧ Quiet w w' := by
  rw [← get_bits x a d hx h]
  obtain ⟨h1, h2, h3, h4⟩ := fldB_true h
  go_enter Tryz.func93, Tryz.ntmps93
  go_wp2_with (go_at_call 99; refine (valid_anyWord _ _ _).mono ?_; rintro e w1 ⟨rfl, hq⟩)
  go_quiet ((go_at_call 100; exact qcall (mask_any _ _)))
  go_wp2
  go_ret2
  exact ⟨rfl, hq.trans Quiet.drew⟩

set_option maxHeartbeats 400000 in
theorem get_no (x a d : Int) (w : World) (h : fldB a d = false) :
    Calls Tryz.prog 93 #[.int .u64 x, .int .i64 a, .int .i64 d] w fun e w' => e = .returned (.tuple #[.int .u64 0, .int .i64 1]) ∧ Quiet w w' := by
  go_enter Tryz.func93, Tryz.ntmps93
  go_wp2_with (go_at_call 99; refine (valid_anyWord _ _ _).mono ?_; rintro e w1 ⟨rfl, hq⟩)
  go_ret2
  exact ⟨rfl, hq⟩

set_option maxHeartbeats 400000 in
theorem put_yes (x a d v : Int) (w : World) (hx : U64 x) (hv0 : 0 ≤ v) (h : fldB a d = true) (hv : v ≤ maskI d) :
    Calls Tryz.prog 101 #[.int .u64 x, .int .i64 a, .int .i64 d, .int .u64 v] w fun e w' => e = .returned (.tuple #[.int .u64 (putI x a d v), .int .i64 0]) ∧ Quiet w w' := by
  rw [← put_bits x a d v hx h hv0 hv]
  obtain ⟨h1, h2, h3, h4⟩ := fldB_true h
  go_enter Tryz.func101, Tryz.ntmps101
  go_wp2_with (first | (go_at_call 99; refine (valid_anyWord _ _ _).mono ?_; rintro e w1 ⟨rfl, hq⟩) | (go_at_call 100; refine (mask_any _ _).mono ?_; rintro e w2 ⟨rfl, hq2⟩))
  go_quiet ((go_at_call 100; exact qcall (mask_any _ _)))
  go_wp2
  go_ret2
  exact ⟨rfl, (hq.trans hq2).trans Quiet.drew⟩

set_option maxHeartbeats 400000 in
theorem put_no (x a d v : Int) (w : World) (h : fldB a d = false) :
    Calls Tryz.prog 101 #[.int .u64 x, .int .i64 a, .int .i64 d, .int .u64 v] w fun e w' => e = .returned (.tuple #[.int .u64 0, .int .i64 1]) ∧ Quiet w w' := by
  go_enter Tryz.func101, Tryz.ntmps101
  go_wp2_with (go_at_call 99; refine (valid_anyWord _ _ _).mono ?_; rintro e w1 ⟨rfl, hq⟩)
  go_ret2
  exact ⟨rfl, hq⟩
set_option maxHeartbeats 400000 in
theorem put_big (x a d v : Int) (w : World) (h : fldB a d = true) (hv : maskI d < v) :
    Calls Tryz.prog 101 #[.int .u64 x, .int .i64 a, .int .i64 d, .int .u64 v] w fun e w' => e = .returned (.tuple #[.int .u64 0, .int .i64 3]) ∧ Quiet w w' := by
  go_enter Tryz.func101, Tryz.ntmps101
  go_wp2_with (first | (go_at_call 99; refine (valid_anyWord _ _ _).mono ?_; rintro e w1 ⟨rfl, hq⟩) | (go_at_call 100; refine (mask_any _ _).mono ?_; rintro e w2 ⟨rfl, hq2⟩))
  go_ret2
  exact ⟨rfl, hq.trans hq2⟩
end Go.Proofs.YtnodeojeijekcaaGreat
