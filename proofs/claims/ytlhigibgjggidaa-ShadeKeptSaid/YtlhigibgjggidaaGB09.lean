/- What Load, Store, Swap, Cas, Or and And of a port return, and what is so behind them. Condition: the arena's and the port's blocks are there, its counts are small. -/
import Derived.Test.YtlhigibgjggidaaGB08
namespace Go.Proofs.Ytlhigibgjggidaa
open Go.RowKit
set_option maxHeartbeats 400000 in
theorem load_nil (at' : Int) (w : World) :
    Calls Try.prog 67 #[.pointer none, .int .i64 at'] w fun e w' => (e = .returned (.int .u64 0)) ∧ Below w.heap.size w w' := by
  go_enter Try.func67, Try.ntmps67
  go_wp2_with (go_at_call 87; refine (access_nil _ _ _ _ _ _ _ _).mono ?_; rintro e w1 ⟨rfl, hs⟩)
  go_ret
  exact ⟨rfl, hs⟩
set_option maxHeartbeats 400000 in
theorem load_fault (a c p : Nat) (cs : List Int) (keep : Bool) (lv : Value) (n f : Int) (g : Bool) (who at' : Int) (w : World) (hL : ArenaAt w a c cs keep lv n f) (hP : PortAt w p a who g) (hpa : p ≠ a) (hpc : p ≠ c)
    (hf0 : 0 ≤ f) (hf1 : f < 1000000) (hg : g = false ∨ insB cs.length at' = false) :
    Calls Try.prog 67 #[.pointer (some ⟨p, 0, none⟩), .int .i64 at'] w fun e w' => (e = .returned (.int .u64 0)) ∧ FaultStep a c p cs keep lv n f who w w' := by
  have T := Lib.hid (access_no a c p cs keep lv n f g who 1 at' 0 0 w hL hP hpa hpc hf0 hf1 (by decide) hg)
  clear hg hL hP
  go_enter Try.func67, Try.ntmps67
  go_wp2_with (go_at_call 87; refine (T.out).mono ?_; rintro e w1 ⟨rfl, hs⟩)
  go_ret
  exact ⟨rfl, hs⟩
set_option maxHeartbeats 400000 in
theorem load_put (a c p : Nat) (cs : List Int) (lv : Value) (n f : Int) (who : Int) (i : Nat) (w : World) (hL : ArenaAt w a c cs false lv n f) (hP : PortAt w p a who true) (hpa : p ≠ a) (hpc : p ≠ c)
    (hn0 : 0 ≤ n) (hn1 : n < 1000000) (hi : i < cs.length) (hm : cs.length ≤ 1000000) :
    Calls Try.prog 67 #[.pointer (some ⟨p, 0, none⟩), .int .i64 i] w fun e w' => (e = .returned (.int .u64 (cs.getD i 0))) ∧ PutStep a c p cs lv n f i who 1 0 0 w w' := by
  have T := Lib.hid (access_put a c p cs lv n f who 1 0 0 i w hL hP hpa hpc hn0 hn1 (by decide) hi hm)
  clear hL hP
  unfold AccPutPost at T
  generalize cs.getD i 0 = z at *
  go_enter Try.func67, Try.ntmps67
  go_wp2_with (go_at_call 87; refine (T.out).mono ?_; rintro e w1 ⟨rfl, hs⟩)
  go_ret
  exact ⟨rfl, hs⟩
set_option maxHeartbeats 400000 in
theorem load_log (B a c p : Nat) (cs : List Int) (lv : Value) (xs : List Value) (m : Nat) (f : Int) (who : Int) (i : Nat) (w : World) (hL : ArenaL w B a c cs lv xs m f) (hP : PortAt w p a who true) (hpa : p ≠ a) (hpc : p ≠ c) (hpl : lv.ownBlock ≠ some p)
    (hB : B ≤ w.heap.size) (hn1 : m < 1000000) (hi : i < cs.length) :
    Calls Try.prog 67 #[.pointer (some ⟨p, 0, none⟩), .int .i64 i] w fun e w' => (e = .returned (.int .u64 (cs.getD i 0))) ∧ LogStep B a c p cs lv xs m f i who 1 0 0 w w' := by
  have T := Lib.hid (access_log B a c p cs lv xs m f who 1 0 0 i w hL hP hpa hpc hpl hB hn1 (by decide) hi)
  clear hL hP hpl
  unfold AccLogPost at T
  generalize cs.getD i 0 = z at *
  go_enter Try.func67, Try.ntmps67
  go_wp2_with (go_at_call 87; refine (T.out).mono ?_; rintro e w1 ⟨rfl, hs⟩)
  go_ret
  exact ⟨rfl, hs⟩
set_option maxHeartbeats 400000 in
theorem store_nil (at' : Int) (v : Int) (w : World) :
    Calls Try.prog 64 #[.pointer none, .int .i64 at', .int .u64 v] w fun e w' => (∃ v, e = .returned v) ∧ Below w.heap.size w w' := by
  go_enter Try.func64, Try.ntmps64
  go_wp2_with (go_at_call 87; refine (access_nil _ _ _ _ _ _ _ _).mono ?_; rintro e w1 ⟨rfl, hs⟩)
  go_end0
  exact ⟨⟨_, rfl⟩, hs⟩
set_option maxHeartbeats 400000 in
theorem store_fault (a c p : Nat) (cs : List Int) (keep : Bool) (lv : Value) (n f : Int) (g : Bool) (who at' : Int) (v : Int) (w : World) (hL : ArenaAt w a c cs keep lv n f) (hP : PortAt w p a who g) (hpa : p ≠ a) (hpc : p ≠ c)
    (hf0 : 0 ≤ f) (hf1 : f < 1000000) (hg : g = false ∨ insB cs.length at' = false) :
    Calls Try.prog 64 #[.pointer (some ⟨p, 0, none⟩), .int .i64 at', .int .u64 v] w fun e w' => (∃ v, e = .returned v) ∧ FaultStep a c p cs keep lv n f who w w' := by
  have T := Lib.hid (access_no a c p cs keep lv n f g who 2 at' 0 v w hL hP hpa hpc hf0 hf1 (by decide) hg)
  clear hg hL hP
  go_enter Try.func64, Try.ntmps64
  go_wp2_with (go_at_call 87; refine (T.out).mono ?_; rintro e w1 ⟨rfl, hs⟩)
  go_end0
  exact ⟨⟨_, rfl⟩, hs⟩
set_option maxHeartbeats 400000 in
theorem store_put (a c p : Nat) (cs : List Int) (lv : Value) (n f : Int) (who : Int) (i : Nat) (v : Int) (w : World) (hL : ArenaAt w a c cs false lv n f) (hP : PortAt w p a who true) (hpa : p ≠ a) (hpc : p ≠ c)
    (hn0 : 0 ≤ n) (hn1 : n < 1000000) (hi : i < cs.length) (hm : cs.length ≤ 1000000) :
    Calls Try.prog 64 #[.pointer (some ⟨p, 0, none⟩), .int .i64 i, .int .u64 v] w fun e w' => (∃ v, e = .returned v) ∧ PutStep a c p cs lv n f i who 2 0 v w w' := by
  have T := Lib.hid (access_put a c p cs lv n f who 2 0 v i w hL hP hpa hpc hn0 hn1 (by decide) hi hm)
  clear hL hP
  unfold AccPutPost at T
  generalize cs.getD i 0 = z at *
  go_enter Try.func64, Try.ntmps64
  go_wp2_with (go_at_call 87; refine (T.out).mono ?_; rintro e w1 ⟨rfl, hs⟩)
  go_end0
  exact ⟨⟨_, rfl⟩, hs⟩
set_option maxHeartbeats 400000 in
theorem store_log (B a c p : Nat) (cs : List Int) (lv : Value) (xs : List Value) (m : Nat) (f : Int) (who : Int) (i : Nat) (v : Int) (w : World) (hL : ArenaL w B a c cs lv xs m f) (hP : PortAt w p a who true) (hpa : p ≠ a) (hpc : p ≠ c) (hpl : lv.ownBlock ≠ some p)
    (hB : B ≤ w.heap.size) (hn1 : m < 1000000) (hi : i < cs.length) :
    Calls Try.prog 64 #[.pointer (some ⟨p, 0, none⟩), .int .i64 i, .int .u64 v] w fun e w' => (∃ v, e = .returned v) ∧ LogStep B a c p cs lv xs m f i who 2 0 v w w' := by
  have T := Lib.hid (access_log B a c p cs lv xs m f who 2 0 v i w hL hP hpa hpc hpl hB hn1 (by decide) hi)
  clear hL hP hpl
  unfold AccLogPost at T
  generalize cs.getD i 0 = z at *
  go_enter Try.func64, Try.ntmps64
  go_wp2_with (go_at_call 87; refine (T.out).mono ?_; rintro e w1 ⟨rfl, hs⟩)
  go_end0
  exact ⟨⟨_, rfl⟩, hs⟩
set_option maxHeartbeats 400000 in
theorem or_nil (at' : Int) (v : Int) (w : World) :
    Calls Try.prog 84 #[.pointer none, .int .i64 at', .int .u64 v] w fun e w' => (e = .returned (.int .u64 0)) ∧ Below w.heap.size w w' := by
  go_enter Try.func84, Try.ntmps84
  go_wp2_with (go_at_call 87; refine (access_nil _ _ _ _ _ _ _ _).mono ?_; rintro e w1 ⟨rfl, hs⟩)
  go_ret
  exact ⟨rfl, hs⟩
set_option maxHeartbeats 400000 in
theorem or_fault (a c p : Nat) (cs : List Int) (keep : Bool) (lv : Value) (n f : Int) (g : Bool) (who at' : Int) (v : Int) (w : World) (hL : ArenaAt w a c cs keep lv n f) (hP : PortAt w p a who g) (hpa : p ≠ a) (hpc : p ≠ c)
    (hf0 : 0 ≤ f) (hf1 : f < 1000000) (hg : g = false ∨ insB cs.length at' = false) :
    Calls Try.prog 84 #[.pointer (some ⟨p, 0, none⟩), .int .i64 at', .int .u64 v] w fun e w' => (e = .returned (.int .u64 0)) ∧ FaultStep a c p cs keep lv n f who w w' := by
  have T := Lib.hid (access_no a c p cs keep lv n f g who 5 at' 0 v w hL hP hpa hpc hf0 hf1 (by decide) hg)
  clear hg hL hP
  go_enter Try.func84, Try.ntmps84
  go_wp2_with (go_at_call 87; refine (T.out).mono ?_; rintro e w1 ⟨rfl, hs⟩)
  go_ret
  exact ⟨rfl, hs⟩
set_option maxHeartbeats 400000 in
theorem or_put (a c p : Nat) (cs : List Int) (lv : Value) (n f : Int) (who : Int) (i : Nat) (v : Int) (w : World) (hL : ArenaAt w a c cs false lv n f) (hP : PortAt w p a who true) (hpa : p ≠ a) (hpc : p ≠ c)
    (hn0 : 0 ≤ n) (hn1 : n < 1000000) (hi : i < cs.length) (hm : cs.length ≤ 1000000) :
    Calls Try.prog 84 #[.pointer (some ⟨p, 0, none⟩), .int .i64 i, .int .u64 v] w fun e w' => (e = .returned (.int .u64 (cs.getD i 0))) ∧ PutStep a c p cs lv n f i who 5 0 v w w' := by
  have T := Lib.hid (access_put a c p cs lv n f who 5 0 v i w hL hP hpa hpc hn0 hn1 (by decide) hi hm)
  clear hL hP
  unfold AccPutPost at T
  generalize cs.getD i 0 = z at *
  go_enter Try.func84, Try.ntmps84
  go_wp2_with (go_at_call 87; refine (T.out).mono ?_; rintro e w1 ⟨rfl, hs⟩)
  go_ret
  exact ⟨rfl, hs⟩
set_option maxHeartbeats 400000 in
theorem or_log (B a c p : Nat) (cs : List Int) (lv : Value) (xs : List Value) (m : Nat) (f : Int) (who : Int) (i : Nat) (v : Int) (w : World) (hL : ArenaL w B a c cs lv xs m f) (hP : PortAt w p a who true) (hpa : p ≠ a) (hpc : p ≠ c) (hpl : lv.ownBlock ≠ some p)
    (hB : B ≤ w.heap.size) (hn1 : m < 1000000) (hi : i < cs.length) :
    Calls Try.prog 84 #[.pointer (some ⟨p, 0, none⟩), .int .i64 i, .int .u64 v] w fun e w' => (e = .returned (.int .u64 (cs.getD i 0))) ∧ LogStep B a c p cs lv xs m f i who 5 0 v w w' := by
  have T := Lib.hid (access_log B a c p cs lv xs m f who 5 0 v i w hL hP hpa hpc hpl hB hn1 (by decide) hi)
  clear hL hP hpl
  unfold AccLogPost at T
  generalize cs.getD i 0 = z at *
  go_enter Try.func84, Try.ntmps84
  go_wp2_with (go_at_call 87; refine (T.out).mono ?_; rintro e w1 ⟨rfl, hs⟩)
  go_ret
  exact ⟨rfl, hs⟩
end Go.Proofs.Ytlhigibgjggidaa
