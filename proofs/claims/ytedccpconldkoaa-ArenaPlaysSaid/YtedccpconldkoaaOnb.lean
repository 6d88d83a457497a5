/- ArenaPlays: one call of both sides: stores, compares and swaps, grants, and none. Condition: few calls were made. -/
import Derived.Test.YtedccpconldkoaaOna
import Derived.Deep.QuietTactic
import Derived.BigQuiet
namespace Go.Proofs.Ytedccpconldkoaa
open Go.RowKit
set_option linter.unusedVariables false
theorem qcall2 {P : Program} {f : FuncId} {args : Array Value} {w : World} {n : Nat} {v : Value} (h : Calls P f args (w.drewN n) fun e w' => e = .returned v ∧ Quiet (w.drewN n) w') : Calls P f args (w.drewN n) fun e w'' => e = .returned v ∧ ∃ m, w'' = w.drewN m :=
  h.mono fun _ _ ⟨he, m, hm⟩ => ⟨he, n + m, by rw [hm, World.drewN_drewN]⟩
section
variable {X : Nat → Prop} {w0 w : World} {B a c M d : Nat} {P Q : Nat → Nat} {wh : Nat → Int} {keep : Bool} {g : Nat → Bool} {lv lm : Value} {s : St} {k : Nat}
set_option maxRecDepth 100000 in
set_option maxHeartbeats 4000000 in
theorem one_2 (h : Duo X w0 w B a c M d P Q wh keep g g lv lm s s) (hk : k < 3) (hb : Bd s) (pn at' want put : Int) :
    Calls Try.prog 8 #[.pointer (some ⟨a, 0, none⟩), .pointer (some ⟨P k, 0, none⟩), .pointer (some ⟨M, 0, none⟩), .pointer (some ⟨Q k, 0, none⟩), .agg #[.int .i64 pn, .int .i64 2, .int .i64 at', .int .u64 want, .int .u64 put]] w (OnePost X w0 B a c M d P Q wh keep s) := by
  have hE := h.enter (.cells #[.int .i64 pn, .int .i64 2, .int .i64 at', .int .u64 want, .int .u64 put] 45)
  have hO : Blk (w.alloc (.cells #[.int .i64 pn, .int .i64 2, .int .i64 at', .int .u64 want, .int .u64 put] 45)) w.heap.size #[.int .i64 pn, .int .i64 2, .int .i64 at', .int .u64 want, .int .u64 put] 45 := Blk.new _ _ _
  have fin : ∀ w' g' lv' lm' s', Step s s' → Duo (fun k => X k ∨ k = w.heap.size) (w.alloc (.cells #[.int .i64 pn, .int .i64 2, .int .i64 at', .int .u64 want, .int .u64 put] 45)) w' B a c M d P Q wh keep g' g' lv' lm' s' s' → ∃ g' lv' lm' s', Duo X w0 w' B a c M d P Q wh keep g' g' lv' lm' s' s' ∧ Step s s' := fun w' g' lv' lm' s' hs h' => ⟨_, _, _, _, h.leave h', hs⟩
  have FIN := Lib.hid fin
  clear fin h
  go_enter Try.func8, Try.ntmps8
  go_upto_region 1 with fail
  generalize w.alloc (.cells #[.int .i64 pn, .int .i64 2, .int .i64 at', .int .u64 want, .int .u64 put] 45) = wa at *
  have hx : (fun k => X k ∨ k = w.heap.size) w.heap.size := .inr rfl
  have h5 : wa.cell? ⟨w.heap.size, 0, none⟩ = some (.int .i64 pn) ∧ wa.cell? ⟨w.heap.size, 1, none⟩ = some (.int .i64 2) ∧ wa.cell? ⟨w.heap.size, 2, none⟩ = some (.int .i64 at') ∧ wa.cell? ⟨w.heap.size, 3, none⟩ = some (.int .u64 want) ∧ wa.cell? ⟨w.heap.size, 4, none⟩ = some (.int .u64 put) := hE.five hO (Or.inr rfl)
  obtain ⟨e0, e1, e2, e3, e4⟩ := h5
  go_wp2_with fail
  refine (duo_store hE hk hb at' put).mono ?_
  rintro e w1 ⟨⟨v, rfl⟩, lv1, hD1⟩
  obtain ⟨e0, e1, e2, e3, e4⟩ := hD1.five hO (Or.inr rfl)
  go_wp2_with fail
  refine (duo_do hD1 hk hb 2 at' 0 put (by decide)).mono ?_
  rintro e W30 ⟨rfl, lm2, hD2⟩
  have hP30 := hD2.port k hk
  have hQ30 := hD2.prt k hk
  have q0 := hQ30.val 0 rfl
  have q1 := hQ30.val 1 rfl
  have FD := Lib.hid hD2
  clear hQ30 hD2
  generalize upd g k false k = bq at *
  have OP := Lib.hid (fun W (hq : Quiet W30 W) => open_at (P k) a (wh k) bq W (Blk.quiet hP30 hq))
  have WO := Lib.hid (fun W (hq : Quiet W30 W) => who_at (P k) a (wh k) bq W (Blk.quiet hP30 hq))
  have hbb : (bq == bq) = true := by simp
  have hww : (wh k == wh k) = true := by simp
  clear hP30
  go_upto_region 30 with fail
  go_quiet (first | (go_at_call 25; exact qcall2 (OP.out _ ⟨_, rfl⟩)) | (go_at_call 26; exact qcall2 (WO.out _ ⟨_, rfl⟩)))
  go_wp2
  go_ret
  exact ⟨by simp, FIN.out _ _ _ _ _ (Step.next s hb.2.1 _ _ _ _ _ _) (FD.out.quiet ⟨_, rfl⟩)⟩
set_option maxRecDepth 100000 in
set_option maxHeartbeats 4000000 in
theorem one_7 (h : Duo X w0 w B a c M d P Q wh keep g g lv lm s s) (hk : k < 3) (hb : Bd s) (pn at' want put : Int) :
    Calls Try.prog 8 #[.pointer (some ⟨a, 0, none⟩), .pointer (some ⟨P k, 0, none⟩), .pointer (some ⟨M, 0, none⟩), .pointer (some ⟨Q k, 0, none⟩), .agg #[.int .i64 pn, .int .i64 7, .int .i64 at', .int .u64 want, .int .u64 put]] w (OnePost X w0 B a c M d P Q wh keep s) := by
  have hE := h.enter (.cells #[.int .i64 pn, .int .i64 7, .int .i64 at', .int .u64 want, .int .u64 put] 45)
  have hO : Blk (w.alloc (.cells #[.int .i64 pn, .int .i64 7, .int .i64 at', .int .u64 want, .int .u64 put] 45)) w.heap.size #[.int .i64 pn, .int .i64 7, .int .i64 at', .int .u64 want, .int .u64 put] 45 := Blk.new _ _ _
  have fin : ∀ w' g' lv' lm' s', Step s s' → Duo (fun k => X k ∨ k = w.heap.size) (w.alloc (.cells #[.int .i64 pn, .int .i64 7, .int .i64 at', .int .u64 want, .int .u64 put] 45)) w' B a c M d P Q wh keep g' g' lv' lm' s' s' → ∃ g' lv' lm' s', Duo X w0 w' B a c M d P Q wh keep g' g' lv' lm' s' s' ∧ Step s s' := fun w' g' lv' lm' s' hs h' => ⟨_, _, _, _, h.leave h', hs⟩
  have FIN := Lib.hid fin
  clear fin h
  go_enter Try.func8, Try.ntmps8
  go_upto_region 1 with fail
  generalize w.alloc (.cells #[.int .i64 pn, .int .i64 7, .int .i64 at', .int .u64 want, .int .u64 put] 45) = wa at *
  have hx : (fun k => X k ∨ k = w.heap.size) w.heap.size := .inr rfl
  have h5 : wa.cell? ⟨w.heap.size, 0, none⟩ = some (.int .i64 pn) ∧ wa.cell? ⟨w.heap.size, 1, none⟩ = some (.int .i64 7) ∧ wa.cell? ⟨w.heap.size, 2, none⟩ = some (.int .i64 at') ∧ wa.cell? ⟨w.heap.size, 3, none⟩ = some (.int .u64 want) ∧ wa.cell? ⟨w.heap.size, 4, none⟩ = some (.int .u64 put) := hE.five hO (Or.inr rfl)
  obtain ⟨e0, e1, e2, e3, e4⟩ := h5
  go_wp2_with fail
  refine (duo_grant hE hk).mono ?_
  rintro e w1 ⟨⟨v, rfl⟩, hD1⟩
  have r1 := (hD1.prt k hk).val 1 rfl
  have r2 := (hD1.prt k hk).frozen 1
  have hD2 := hD1.granted hk
  clear hD1
  go_upto_region 30 with fail
  generalize hW30 : w1.setCell ⟨Q k, 1, none⟩ (.bool true) = W30 at *
  have hP30 := hD2.port k hk
  have hQ30 := hD2.prt k hk
  have q0 := hQ30.val 0 rfl
  have q1 := hQ30.val 1 rfl
  have FD := Lib.hid hD2
  clear hQ30 hD2
  generalize upd g k true k = bq at *
  have OP := Lib.hid (fun W (hq : Quiet W30 W) => open_at (P k) a (wh k) bq W (Blk.quiet hP30 hq))
  have WO := Lib.hid (fun W (hq : Quiet W30 W) => who_at (P k) a (wh k) bq W (Blk.quiet hP30 hq))
  have hbb : (bq == bq) = true := by simp
  have hww : (wh k == wh k) = true := by simp
  clear hP30
  go_quiet (first | (go_at_call 25; exact qcall2 (OP.out _ ⟨_, rfl⟩)) | (go_at_call 26; exact qcall2 (WO.out _ ⟨_, rfl⟩)))
  go_wp2
  go_ret
  exact ⟨by simp, FIN.out _ _ _ _ _ (Step.refl s hb.2.1) (FD.out.quiet ⟨_, rfl⟩)⟩
set_option maxRecDepth 100000 in
set_option maxHeartbeats 4000000 in
theorem one_o (h : Duo X w0 w B a c M d P Q wh keep g g lv lm s s) (hk : k < 3) (hb : Bd s) (pn kk at' want put : Int) (n1 : kk ≠ 1) (n2 : kk ≠ 2) (n3 : kk ≠ 3) (n4 : kk ≠ 4) (n5 : kk ≠ 5) (n6 : kk ≠ 6) (n7 : kk ≠ 7) (n8 : kk ≠ 8) (n9 : kk ≠ 9) :
    Calls Try.prog 8 #[.pointer (some ⟨a, 0, none⟩), .pointer (some ⟨P k, 0, none⟩), .pointer (some ⟨M, 0, none⟩), .pointer (some ⟨Q k, 0, none⟩), .agg #[.int .i64 pn, .int .i64 kk, .int .i64 at', .int .u64 want, .int .u64 put]] w (OnePost X w0 B a c M d P Q wh keep s) := by
  have hE := h.enter (.cells #[.int .i64 pn, .int .i64 kk, .int .i64 at', .int .u64 want, .int .u64 put] 45)
  have hO : Blk (w.alloc (.cells #[.int .i64 pn, .int .i64 kk, .int .i64 at', .int .u64 want, .int .u64 put] 45)) w.heap.size #[.int .i64 pn, .int .i64 kk, .int .i64 at', .int .u64 want, .int .u64 put] 45 := Blk.new _ _ _
  have fin : ∀ w' g' lv' lm' s', Step s s' → Duo (fun k => X k ∨ k = w.heap.size) (w.alloc (.cells #[.int .i64 pn, .int .i64 kk, .int .i64 at', .int .u64 want, .int .u64 put] 45)) w' B a c M d P Q wh keep g' g' lv' lm' s' s' → ∃ g' lv' lm' s', Duo X w0 w' B a c M d P Q wh keep g' g' lv' lm' s' s' ∧ Step s s' := fun w' g' lv' lm' s' hs h' => ⟨_, _, _, _, h.leave h', hs⟩
  have FIN := Lib.hid fin
  clear fin h
  have m1 : (kk == 1) = false := by simpa using n1
  have m2 : (kk == 2) = false := by simpa using n2
  have m3 : (kk == 3) = false := by simpa using n3
  have m4 : (kk == 4) = false := by simpa using n4
  have m5 : (kk == 5) = false := by simpa using n5
  have m6 : (kk == 6) = false := by simpa using n6
  have m7 : (kk == 7) = false := by simpa using n7
  have m8 : (kk == 8) = false := by simpa using n8
  have m9 : (kk == 9) = false := by simpa using n9
  clear n1 n2 n3 n4 n5 n6 n7 n8 n9
  go_enter Try.func8, Try.ntmps8
  go_upto_region 1 with fail
  generalize w.alloc (.cells #[.int .i64 pn, .int .i64 kk, .int .i64 at', .int .u64 want, .int .u64 put] 45) = wa at *
  have hx : (fun k => X k ∨ k = w.heap.size) w.heap.size := .inr rfl
  have h5 : wa.cell? ⟨w.heap.size, 0, none⟩ = some (.int .i64 pn) ∧ wa.cell? ⟨w.heap.size, 1, none⟩ = some (.int .i64 kk) ∧ wa.cell? ⟨w.heap.size, 2, none⟩ = some (.int .i64 at') ∧ wa.cell? ⟨w.heap.size, 3, none⟩ = some (.int .u64 want) ∧ wa.cell? ⟨w.heap.size, 4, none⟩ = some (.int .u64 put) := hE.five hO (Or.inr rfl)
  obtain ⟨e0, e1, e2, e3, e4⟩ := h5
  go_upto_region 30 with fail
  generalize wa = W30 at *
  have hP30 := hE.port k hk
  have hQ30 := hE.prt k hk
  have q0 := hQ30.val 0 rfl
  have q1 := hQ30.val 1 rfl
  have FD := Lib.hid hE
  clear hQ30 hE
  generalize g k = bq at *
  have OP := Lib.hid (fun W (hq : Quiet W30 W) => open_at (P k) a (wh k) bq W (Blk.quiet hP30 hq))
  have WO := Lib.hid (fun W (hq : Quiet W30 W) => who_at (P k) a (wh k) bq W (Blk.quiet hP30 hq))
  have hbb : (bq == bq) = true := by simp
  have hww : (wh k == wh k) = true := by simp
  clear hP30
  go_quiet (first | (go_at_call 25; exact qcall2 (OP.out _ ⟨_, rfl⟩)) | (go_at_call 26; exact qcall2 (WO.out _ ⟨_, rfl⟩)))
  go_wp2
  go_ret
  exact ⟨by simp, FIN.out _ _ _ _ _ (Step.refl s hb.2.1) (FD.out.quiet ⟨_, rfl⟩)⟩
end
end Go.Proofs.Ytedccpconldkoaa
