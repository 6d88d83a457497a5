/- What a port's access does: granted and inside, and not. Condition: the arena's and the port's blocks are there, its counts are small. -/
import Derived.Deep.RegionWith
import Derived.Test.YtlhigibgjggidaaGB05
import Derived.Test.YtlhigibgjggidaaGB06
import Derived.Test.YtlhigibgjggidaaGB07
namespace Go.Proofs.Ytlhigibgjggidaa
open Go.RowKit
set_option maxHeartbeats 400000 in
theorem access_nil (who k at' want put seen left : Int) (w : World) :
    Calls Try.prog 87 #[.pointer none, .agg #[.int .i64 who, .int .i64 k, .int .i64 at', .int .u64 want, .int .u64 put, .int .u64 seen, .int .u64 left]] w fun e w' =>
      e = .returned (.tuple #[.int .u64 0, .bool false]) ∧ Below w.heap.size w w' := by
  go_enter Try.func87, Try.ntmps87
  go_wp2
  go_ret2
  exact ⟨rfl, (Below.refl _ _).alloc (Nat.le_refl _) _⟩
theorem perform_log (B a c : Nat) (cs : List Int) (lv : Value) (xs : List Value) (m : Nat) (f : Int) (who k want put seen left : Int) (i : Nat) (w : World) (hL : ArenaL w B a c cs lv xs m f) (hB : B ≤ w.heap.size) (hn1 : m < 1000000)
    (hk : kindB k = true) (hi : i < cs.length) :
    Calls Try.prog 98 #[.pointer (some ⟨a, 0, none⟩), .bool true, .agg #[.int .i64 who, .int .i64 k, .int .i64 i, .int .u64 want, .int .u64 put, .int .u64 seen, .int .u64 left]] w
      (PerlPost B a c cs lv xs m f i who k want put w) := by
  rcases kind_cases hk with rfl | rfl | rfl | rfl | rfl | rfl
  · exact perform_log1 B a c cs lv xs m f who want put seen left i w hL hB hn1 hi
  · exact perform_log2 B a c cs lv xs m f who want put seen left i w hL hB hn1 hi
  · exact perform_log3 B a c cs lv xs m f who want put seen left i w hL hB hn1 hi
  · exact perform_log4 B a c cs lv xs m f who want put seen left i w hL hB hn1 hi
  · exact perform_log5 B a c cs lv xs m f who want put seen left i w hL hB hn1 hi
  · exact perform_log6 B a c cs lv xs m f who want put seen left i w hL hB hn1 hi
theorem getD_in (cs : List Int) (i : Nat) (hi : i < cs.length) : cs.getD i 0 = cs[i] := by simp [List.getD_eq_getElem?_getD, hi]
theorem ArenaL.touch {R : Nat → Prop} {w w' : World} {B a c : Nat} {cs : List Int} {lv : Value} {xs : List Value} {m : Nat} {f : Int} (h : ArenaL w B a c cs lv xs m f) (ht : Touch R w w') (h1 : ¬ R a) (h2 : ¬ R c) (h3 : ∀ g, lv.ownBlock = some g → ¬ R g) : ArenaL w' B a c cs lv xs m f :=
  ⟨h.at'.touch ht h1 h2, own_touch h.own ht h3, h.apa, h.apc⟩
theorem ArenaL.grew {w w' : World} {B a c : Nat} {cs : List Int} {lv : Value} {xs : List Value} {m : Nat} {f : Int} (h : ArenaL w B a c cs lv xs m f) (hb : Below w.heap.size w w') : ArenaL w' B a c cs lv xs m f :=
  ⟨h.at'.grew hb, own_grew h.own hb, h.apa, h.apc⟩
theorem ArenaL.quiet {w w' : World} {B a c : Nat} {cs : List Int} {lv : Value} {xs : List Value} {m : Nat} {f : Int} (h : ArenaL w B a c cs lv xs m f) (hq : Quiet w w') : ArenaL w' B a c cs lv xs m f := h.grew hq.below
/-- What is so behind an access through port p that was made, where a log is kept. -/
def LogStep (B a c p : Nat) (cs : List Int) (lv : Value) (xs : List Value) (m : Nat) (f : Int) (i : Nat) (who k want put : Int) (w w' : World) : Prop :=
  ∃ lv', ArenaL w' B a c (cs.set i (leftI k (cs.getD i 0) want put)) lv' (xs ++ accV who k i want put (cs.getD i 0) (leftI k (cs.getD i 0) want put)) (m + 1) f ∧ PortAt w' p a who false ∧
    (∀ g, lv'.ownBlock = some g → lv.ownBlock = some g ∨ w.heap.size ≤ g) ∧ Touch (fun b => b = a ∨ b = c ∨ b = p ∨ lv.ownBlock = some b) w w'
def AccLogPost (B a c p : Nat) (cs : List Int) (lv : Value) (xs : List Value) (m : Nat) (f : Int) (i : Nat) (who k want put : Int) (w : World) (e : Ending) (w' : World) : Prop :=
  e = .returned (.tuple #[.int .u64 (cs.getD i 0), .bool true]) ∧ LogStep B a c p cs lv xs m f i who k want put w w'
set_option maxRecDepth 100000 in
set_option maxHeartbeats 1000000 in
theorem access_log (B a c p : Nat) (cs : List Int) (lv : Value) (xs : List Value) (m : Nat) (f : Int) (who k want put : Int) (i : Nat) (w : World) (hL : ArenaL w B a c cs lv xs m f) (hP : PortAt w p a who true) (hpa : p ≠ a) (hpc : p ≠ c) (hpl : lv.ownBlock ≠ some p)
    (hB : B ≤ w.heap.size) (hn1 : m < 1000000) (hk : kindB k = true) (hi : i < cs.length) :
    Calls Try.prog 87 #[.pointer (some ⟨p, 0, none⟩), .agg #[.int .i64 0, .int .i64 k, .int .i64 i, .int .u64 want, .int .u64 put, .int .u64 0, .int .u64 0]] w
      (AccLogPost B a c p cs lv xs m f i who k want put w) := by
  have p0 : w.cell? ⟨p, 0, none⟩ = some (.pointer (some ⟨a, 0, none⟩)) := hP.val 0 rfl
  have p1 : w.cell? ⟨p, 1, none⟩ = some (.int .i64 who) := hP.val 1 rfl
  have p2 : w.cell? ⟨p, 2, none⟩ = some (.bool true) := hP.val 2 rfl
  have pf := hP.frozen 2
  have lp := hP.lt
  have hne : ¬ (p = w.heap.size) := by omega
  have hne2 : ¬ (w.heap.size = p) := by omega
  go_enter Try.func87, Try.ntmps87
  go_wp2_with fail
  have hT : Touch (· = p) w ((w.setCell ⟨p, 2, none⟩ (.bool false)).alloc (.cells #[.int .i64 who, .int .i64 k, .int .i64 i, .int .u64 want, .int .u64 put, .int .u64 0, .int .u64 0] 57)) :=
    ((Touch.refl _ _).setCell (by rfl) _).alloc _
  have hL1 := hL.touch hT (Ne.symm hpa) (Ne.symm hpc) (fun g e h => hpl (by rw [e, h]))
  have hP1 : PortAt ((w.setCell ⟨p, 2, none⟩ (.bool false)).alloc (.cells #[.int .i64 who, .int .i64 k, .int .i64 i, .int .u64 want, .int .u64 put, .int .u64 0, .int .u64 0] 57)) p a who false := (hP.set 2 (.bool false)).alloc _
  have hX1 : AccAt ((w.setCell ⟨p, 2, none⟩ (.bool false)).alloc (.cells #[.int .i64 who, .int .i64 k, .int .i64 i, .int .u64 want, .int .u64 put, .int .u64 0, .int .u64 0] 57)) w.heap.size who k i want put 0 0 := ⟨Blk.new' (by simp)⟩
  clear p0 p1 p2 pf hL hP
  have PL := Lib.hid (fun W h1 h2 => perform_log B a c cs lv xs m f who k want put 0 0 i W h1 h2 hn1 hk hi)
  have Hpl := Lib.hid hpl
  clear hpl
  generalize ((w.setCell ⟨p, 2, none⟩ (.bool false)).alloc (.cells #[.int .i64 who, .int .i64 k, .int .i64 i, .int .u64 want, .int .u64 put, .int .u64 0, .int .u64 0] 57)) = W at *
  have hsz := hT.size
  have p0 : W.cell? ⟨p, 0, none⟩ = some (.pointer (some ⟨a, 0, none⟩)) := hP1.val 0 rfl
  have x0 := hX1.c0
  have x1 := hX1.c1
  have x2 := hX1.c2
  have x3 := hX1.c3
  have x4 := hX1.c4
  have x5 := hX1.c5
  have x6 := hX1.c6
  go_region_with (go_at_call 98; refine (PL.out _ (hL1.quiet ⟨1, rfl⟩) (by simp; omega)).mono ?_; rintro e w4 ⟨rfl, lv', hL4, hlv, hT4⟩)
  all_goals
    go_wp2
    go_ret2
    exact ⟨(by rw [getD_in _ _ hi]; rfl), lv', hL4, Blk.touch (Blk.drew hP1) hT4 (fun h => h.elim hpa (fun h => h.elim hpc Hpl.out)),
      fun g e => (hlv g e).imp id (fun h => Nat.le_trans hsz h),
      ((hT.mono (fun b _ h => .inr (.inr (.inl h)))).drew).trans (hT4.mono (fun b _ h => h.elim .inl (fun h => h.elim (fun h => .inr (.inl h)) (fun h => .inr (.inr (.inr h))))))⟩
/-- What is so behind an access through port p that was made, where no log is kept. -/
def PutStep (a c p : Nat) (cs : List Int) (lv : Value) (n f : Int) (i : Nat) (who k want put : Int) (w w' : World) : Prop :=
  ArenaAt w' a c (cs.set i (leftI k (cs.getD i 0) want put)) false lv (n + 1) f ∧ PortAt w' p a who false ∧ Touch (fun b => b = a ∨ b = c ∨ b = p) w w'
def AccPutPost (a c p : Nat) (cs : List Int) (lv : Value) (n f : Int) (i : Nat) (who k want put : Int) (w : World) (e : Ending) (w' : World) : Prop :=
  e = .returned (.tuple #[.int .u64 (cs.getD i 0), .bool true]) ∧ PutStep a c p cs lv n f i who k want put w w'
set_option maxRecDepth 100000 in
set_option maxHeartbeats 1000000 in
theorem access_put (a c p : Nat) (cs : List Int) (lv : Value) (n f : Int) (who k want put : Int) (i : Nat) (w : World) (hL : ArenaAt w a c cs false lv n f) (hP : PortAt w p a who true) (hpa : p ≠ a) (hpc : p ≠ c)
    (hn0 : 0 ≤ n) (hn1 : n < 1000000) (hk : kindB k = true) (hi : i < cs.length) (hm : cs.length ≤ 1000000) :
    Calls Try.prog 87 #[.pointer (some ⟨p, 0, none⟩), .agg #[.int .i64 0, .int .i64 k, .int .i64 i, .int .u64 want, .int .u64 put, .int .u64 0, .int .u64 0]] w
      (AccPutPost a c p cs lv n f i who k want put w) := by
  have p0 : w.cell? ⟨p, 0, none⟩ = some (.pointer (some ⟨a, 0, none⟩)) := hP.val 0 rfl
  have p1 : w.cell? ⟨p, 1, none⟩ = some (.int .i64 who) := hP.val 1 rfl
  have p2 : w.cell? ⟨p, 2, none⟩ = some (.bool true) := hP.val 2 rfl
  have pf := hP.frozen 2
  have lp := hP.lt
  have hne : ¬ (p = w.heap.size) := by omega
  have hne2 : ¬ (w.heap.size = p) := by omega
  go_enter Try.func87, Try.ntmps87
  go_wp2_with fail
  have hT : Touch (· = p) w ((w.setCell ⟨p, 2, none⟩ (.bool false)).alloc (.cells #[.int .i64 who, .int .i64 k, .int .i64 i, .int .u64 want, .int .u64 put, .int .u64 0, .int .u64 0] 57)) :=
    ((Touch.refl _ _).setCell (by rfl) _).alloc _
  have hL1 := hL.touch hT (Ne.symm hpa) (Ne.symm hpc)
  have hP1 : PortAt ((w.setCell ⟨p, 2, none⟩ (.bool false)).alloc (.cells #[.int .i64 who, .int .i64 k, .int .i64 i, .int .u64 want, .int .u64 put, .int .u64 0, .int .u64 0] 57)) p a who false := (hP.set 2 (.bool false)).alloc _
  have hX1 : AccAt ((w.setCell ⟨p, 2, none⟩ (.bool false)).alloc (.cells #[.int .i64 who, .int .i64 k, .int .i64 i, .int .u64 want, .int .u64 put, .int .u64 0, .int .u64 0] 57)) w.heap.size who k i want put 0 0 := ⟨Blk.new' (by simp)⟩
  clear p0 p1 p2 pf hL hP
  have PL := Lib.hid (fun W h1 => perform_yes a c cs lv n f who k want put 0 0 i W h1 hn0 hn1 hk hi hm)
  generalize ((w.setCell ⟨p, 2, none⟩ (.bool false)).alloc (.cells #[.int .i64 who, .int .i64 k, .int .i64 i, .int .u64 want, .int .u64 put, .int .u64 0, .int .u64 0] 57)) = W at *
  have p0 : W.cell? ⟨p, 0, none⟩ = some (.pointer (some ⟨a, 0, none⟩)) := hP1.val 0 rfl
  have x0 := hX1.c0
  have x1 := hX1.c1
  have x2 := hX1.c2
  have x3 := hX1.c3
  have x4 := hX1.c4
  have x5 := hX1.c5
  have x6 := hX1.c6
  go_region_with (go_at_call 98; refine (PL.out _ (hL1.quiet ⟨1, rfl⟩)).mono ?_; rintro e w4 ⟨rfl, hL4, hT4⟩)
  all_goals
    go_wp2
    go_ret2
    exact ⟨(by rw [getD_in _ _ hi]; rfl), hL4, Blk.touch (Blk.drew hP1) hT4 (fun h => h.elim hpa hpc),
      ((hT.mono (fun b _ h => .inr (.inr h))).drew).trans (hT4.mono (fun b _ h => h.elim .inl (fun h => .inr (.inl h))))⟩
/-- What is so behind a call through port p that was a fault. -/
def FaultStep (a c p : Nat) (cs : List Int) (keep : Bool) (lv : Value) (n f : Int) (who : Int) (w w' : World) : Prop :=
  ArenaAt w' a c cs keep lv n (f + 1) ∧ PortAt w' p a who false ∧ Touch (fun b => b = a ∨ b = p) w w'
def AccFaultPost (a c p : Nat) (cs : List Int) (keep : Bool) (lv : Value) (n f : Int) (who : Int) (w : World) (e : Ending) (w' : World) : Prop :=
  e = .returned (.tuple #[.int .u64 0, .bool false]) ∧ FaultStep a c p cs keep lv n f who w w'
set_option maxRecDepth 100000 in
set_option maxHeartbeats 1000000 in
theorem access_no (a c p : Nat) (cs : List Int) (keep : Bool) (lv : Value) (n f : Int) (g : Bool) (who k at' want put : Int) (w : World) (hL : ArenaAt w a c cs keep lv n f) (hP : PortAt w p a who g) (hpa : p ≠ a) (hpc : p ≠ c)
    (hf0 : 0 ≤ f) (hf1 : f < 1000000) (hk : kindB k = true) (hg : g = false ∨ insB cs.length at' = false) :
    Calls Try.prog 87 #[.pointer (some ⟨p, 0, none⟩), .agg #[.int .i64 0, .int .i64 k, .int .i64 at', .int .u64 want, .int .u64 put, .int .u64 0, .int .u64 0]] w
      (AccFaultPost a c p cs keep lv n f who w) := by
  have p0 : w.cell? ⟨p, 0, none⟩ = some (.pointer (some ⟨a, 0, none⟩)) := hP.val 0 rfl
  have p1 : w.cell? ⟨p, 1, none⟩ = some (.int .i64 who) := hP.val 1 rfl
  have p2 : w.cell? ⟨p, 2, none⟩ = some (.bool g) := hP.val 2 rfl
  have pf := hP.frozen 2
  have lp := hP.lt
  have hne : ¬ (p = w.heap.size) := by omega
  have hne2 : ¬ (w.heap.size = p) := by omega
  have PL := Lib.hid (fun W h1 => perform_no a c cs keep lv n f g who k at' want put 0 0 W h1 hf0 hf1 hk hg)
  clear hg
  go_enter Try.func87, Try.ntmps87
  go_wp2_with fail
  have hT : Touch (· = p) w ((w.setCell ⟨p, 2, none⟩ (.bool false)).alloc (.cells #[.int .i64 who, .int .i64 k, .int .i64 at', .int .u64 want, .int .u64 put, .int .u64 0, .int .u64 0] 57)) :=
    ((Touch.refl _ _).setCell (by rfl) _).alloc _
  have hL1 := hL.touch hT (Ne.symm hpa) (Ne.symm hpc)
  have hP1 : PortAt ((w.setCell ⟨p, 2, none⟩ (.bool false)).alloc (.cells #[.int .i64 who, .int .i64 k, .int .i64 at', .int .u64 want, .int .u64 put, .int .u64 0, .int .u64 0] 57)) p a who false := (hP.set 2 (.bool false)).alloc _
  have hX1 : AccAt ((w.setCell ⟨p, 2, none⟩ (.bool false)).alloc (.cells #[.int .i64 who, .int .i64 k, .int .i64 at', .int .u64 want, .int .u64 put, .int .u64 0, .int .u64 0] 57)) w.heap.size who k at' want put 0 0 := ⟨Blk.new' (by simp)⟩
  clear p0 p1 p2 pf hL hP
  generalize ((w.setCell ⟨p, 2, none⟩ (.bool false)).alloc (.cells #[.int .i64 who, .int .i64 k, .int .i64 at', .int .u64 want, .int .u64 put, .int .u64 0, .int .u64 0] 57)) = W at *
  have p0 : W.cell? ⟨p, 0, none⟩ = some (.pointer (some ⟨a, 0, none⟩)) := hP1.val 0 rfl
  have x0 := hX1.c0
  have x1 := hX1.c1
  have x2 := hX1.c2
  have x3 := hX1.c3
  have x4 := hX1.c4
  have x5 := hX1.c5
  have x6 := hX1.c6
  go_region_with (go_at_call 98; refine (PL.out _ (hL1.quiet ⟨1, rfl⟩)).mono ?_; rintro e w4 ⟨rfl, hL4, hT4⟩)
  all_goals
    go_wp2
    go_ret2
    exact ⟨rfl, hL4, Blk.touch (Blk.drew hP1) hT4 hpa, ((hT.mono (fun b _ h => .inr h)).drew).trans (hT4.mono (fun b _ h => .inl h))⟩
end Go.Proofs.Ytlhigibgjggidaa
