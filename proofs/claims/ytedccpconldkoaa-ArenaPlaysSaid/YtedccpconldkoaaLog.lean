/- arena.Log: the iterator over the accesses that were kept: its contract. No condition but that the log lies there. -/
import Derived.Test.YtedccpconldkoaaPerf
import Derived.RangeFuncNested
import Derived.RangeFuncBound
import Derived.RangeFuncCalls
import Derived.RangeFuncLeaves
import Derived.RangeFuncFrom
import Derived.RangeFuncBox
import Derived.RangeFuncWrites
import Derived.Shelf.Abstract
import Derived.Shelf.RegionOpen
import Derived.WalkKit
import Derived.OwnWalkIn
import Derived.TacticsInMore
import Derived.LoopNIn
import Derived.LoopIn
namespace Go.Proofs.Ytedccpconldkoaa
open Go.RowKit Go.Shelf
set_option linter.unusedVariables false
attribute [local go_sem] Oper.semAt_some

/-- an access as a value -/
abbrev accA (F : Nat → Nat → Int) (i : Nat) : Array Value := #[.int .i64 (F i 0), .int .i64 (F i 1), .int .i64 (F i 2), .int .u64 (F i 3), .int .u64 (F i 4), .int .u64 (F i 5), .int .u64 (F i 6)]
abbrev logEnc (F : Nat → Nat → Int) (i : Nat) : Array Value := #[.int .i64 i, .agg (accA F i)]
theorem range_prefix (k N : Nat) (h : k ≤ N) : List.range k <+: List.range N := by
  obtain ⟨d, rfl⟩ := Nat.exists_eq_add_of_le h
  rw [List.range_add]
  exact List.prefix_append _ _

/-- the kept accesses, m of them, lie from ⟨b, 0⟩ on -/
structure LogRow (w : World) (b m : Nat) (F : Nat → Nat → Int) : Prop where
  cell : ∀ i, i < m → w.cell? ⟨b, i * 7, none⟩ = some (.int .i64 (F i 0)) ∧ w.cell? ⟨b, i * 7 + 1, none⟩ = some (.int .i64 (F i 1)) ∧ w.cell? ⟨b, i * 7 + 2, none⟩ = some (.int .i64 (F i 2)) ∧
    w.cell? ⟨b, i * 7 + 3, none⟩ = some (.int .u64 (F i 3)) ∧ w.cell? ⟨b, i * 7 + 4, none⟩ = some (.int .u64 (F i 4)) ∧ w.cell? ⟨b, i * 7 + 5, none⟩ = some (.int .u64 (F i 5)) ∧ w.cell? ⟨b, i * 7 + 6, none⟩ = some (.int .u64 (F i 6))
theorem LogRow.below {w w' : World} {b m n₀ : Nat} {F : Nat → Nat → Int} (h : LogRow w b m F) (hb : Below n₀ w w') (hlt : b < n₀) : LogRow w' b m F := ⟨fun i hi => by
  obtain ⟨h0, h1, h2, h3, h4, h5, h6⟩ := h.cell i hi
  exact ⟨(hb.cell (p := ⟨b, _, none⟩) hlt).trans h0, (hb.cell (p := ⟨b, _, none⟩) hlt).trans h1, (hb.cell (p := ⟨b, _, none⟩) hlt).trans h2, (hb.cell (p := ⟨b, _, none⟩) hlt).trans h3, (hb.cell (p := ⟨b, _, none⟩) hlt).trans h4, (hb.cell (p := ⟨b, _, none⟩) hlt).trans h5, (hb.cell (p := ⟨b, _, none⟩) hlt).trans h6⟩⟩

set_option maxRecDepth 100000 in
set_option maxHeartbeats 2000000 in
theorem log_stops (n : Nat) (hn : 1 ≤ n) (B n₀ b m c : Nat) (bp : Option Addr) (F : Nat → Nat → Int) (w : World) (hn₀ : n₀ ≤ w.heap.size) (hm : m ≤ 1000000) (hbp : 0 < m → bp = some ⟨b, 0, none⟩ ∧ b < n₀ ∧ LogRow w b m F) (hlt : B < w.heap.size) (hB : w.cell? ⟨B, 0, none⟩ = some (.slice bp m c)) :
    SeqStopsK Fence.wide n Try.prog 32 #[.pointer (some ⟨B, 0, none⟩)] (logEnc F) (Below n₀) (fun xs => xs = List.range m) (fun pre => pre <+: List.range m) m w :=
  fun l J Jx W hWW hAJ _ hY h0 => by
  have hB1 := (hWW.cell (p := ⟨B, 0, none⟩) hlt).trans hB
  have hsW := hWW.size
  have hL1 : 0 < m → bp = some ⟨b, 0, none⟩ ∧ b < n₀ ∧ LogRow W b m F := fun h => by
    obtain ⟨h1, h2, h3⟩ := hbp h
    exact ⟨h1, h2, h3.below hWW (by omega)⟩
  have hL := Lib.hid hL1
  clear hL1 hbp
  refine callsIn_of_wp Try.func32 rfl trivial ?_ rfl
  simp only [Try.ntmps32, List.size_toArray, List.length_cons, List.length_nil, Nat.reduceAdd, Nat.reduceSub, Array.replicate_succ, Array.replicate_zero, List.push_toArray, List.append_toArray, List.nil_append, List.cons_append]
  gi_wp2
  gi_loopw [7] (fun p wr => ∃ (k : Nat), k ≤ m ∧ p = .int .i64 k ∧ Hid (0 < m → bp = some ⟨b, 0, none⟩ ∧ b < n₀ ∧ LogRow wr b m F) ∧ Hid (n₀ ≤ wr.heap.size) ∧ Hid (W.heap.size ≤ wr.heap.size) ∧ J (List.range k) wr) (fun p _ => m - (intOf p).toNat)
  case atStart => exact ⟨0, by omega, rfl, hL, Lib.hid (by omega), Lib.hid (Nat.le_refl _), h0⟩
  case round =>
    obtain ⟨k, hk, rfl, hLr, hnr, hWr, hJ⟩ := hrel
    by_cases hkm : k < m
    · obtain ⟨rfl, hb, hrow⟩ := hLr.out (by omega)
      obtain ⟨r0, r1, r2, r3, r4, r5, r6⟩ := hrow.cell k hkm
      have hal := Below.alloc (Below.refl wr.heap.size wr) (Nat.le_refl _) (.cells (accA F k) 69)
      have hJ2 : J (List.range k) (wr.alloc (.cells (accA F k) 69)) := hAJ (List.range k) wr _ none hJ (World.grownBy_alloc wr _ none) (fun r e => by cases e)
      obtain ⟨fn, tmps, assign, body, hy, hRd⟩ := hY (List.range k) k _ hJ2 (by simpa using hkm)
      have HR := Lib.hid (List.range_succ (n := k))
      rw [← HR.out] at hRd
      dsimp only [logEnc, accA] at hy hRd hal
      have HL2 := Lib.hid (hrow.below hal (by have := hnr.out; omega))
      have hsz := Lib.hid hal.size
      clear hal
      clear hJ hJ2 hrow
      generalize F k 0 = q0 at *
      generalize F k 1 = q1 at *
      generalize F k 2 = q2 at *
      generalize F k 3 = q3 at *
      generalize F k 4 = q4 at *
      generalize F k 5 = q5 at *
      generalize F k 6 = q6 at *
      gi_wp2
      refine hRd.mono ?_
      rintro e W3 (⟨rfl, hJ3, hk3⟩ | ⟨rfl, hJx3⟩)
      · gi_wp2
        go_roundw
        case rel => exact ⟨k + 1, by omega, by go_num, Lib.hid (fun _ => ⟨by simp, hb, HL2.out.below hk3 hb⟩), Lib.hid (by have := hnr.out; have := hsz.out; have := hk3.size; omega), Lib.hid (by have := hWr.out; have := hsz.out; have := hk3.size; omega), hJ3⟩
        case measure => simp only [intOf]; omega
      · gi_wp2
        refine bodyPost_ret (results_none rfl _ _ _) rfl ?_
        exact ⟨⟨_, rfl⟩, .inr ⟨List.range (k + 1), range_prefix _ _ (by omega), hJx3⟩⟩
    · obtain rfl : k = m := by omega
      gi_wp2
      go_end0
      exact ⟨⟨_, rfl⟩, .inl ⟨_, rfl, hJ⟩⟩
end Go.Proofs.Ytedccpconldkoaa
