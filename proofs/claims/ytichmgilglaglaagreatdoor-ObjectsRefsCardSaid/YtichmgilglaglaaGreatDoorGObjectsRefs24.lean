/- Pointers: the iterator of the words that are references; IsRef. Condition: the table is there. -/
import Derived.RangeFuncNested
import Derived.RangeFuncBound
import Derived.RangeFuncCalls
import Derived.RangeFuncLeaves
import Derived.RangeFuncFrom
import Derived.Shelf.Abstract
import Derived.Shelf.RegionOpen
import Derived.WalkKit
import Derived.OwnWalkIn
import Derived.TacticsInMore
import Derived.LoopNIn
import Derived.LoopIn
import Derived.Test.YtichmgilglaglaaGreatDoorGObjectsRefs21
namespace Go.Proofs.YtichmgilglaglaaGreatDoor
open Go.RowKit Go.Shelf
set_option linter.unusedVariables false
attribute [local go_sem] Oper.semAt_some
/-- the words below m that are references -/
def ptrs (cl : List ClsD) (c k : Int) (m : Nat) : List Nat := (List.range m).filter fun i => refI cl c k (i : Nat)
def ptrL (cl : List ClsD) (c k n : Int) : List Nat := if fitI cl c k n then ptrs cl c k n.toNat else []
theorem ptrs_yes {cl : List ClsD} {c k : Int} {m : Nat} (h : refI cl c k (m : Nat) = true) : ptrs cl c k (m + 1) = ptrs cl c k m ++ [m] := by
  unfold ptrs
  rw [List.range_succ, List.filter_append]
  simp [h]
theorem ptrs_no {cl : List ClsD} {c k : Int} {m : Nat} (h : refI cl c k (m : Nat) = false) : ptrs cl c k (m + 1) = ptrs cl c k m := by
  unfold ptrs
  rw [List.range_succ, List.filter_append]
  simp [h]
theorem ptrs_pre (cl : List ClsD) (c k : Int) {m n : Nat} (h : m ≤ n) : ptrs cl c k m <+: ptrs cl c k n := by
  induction n with
  | zero => obtain rfl : m = 0 := by omega
            exact List.prefix_rfl
  | succ n ih =>
    rcases Nat.lt_or_ge m (n + 1) with q | q
    · refine (ih (by omega)).trans ?_
      cases e : refI cl c k (n : Nat) with
      | true => rw [ptrs_yes e]; exact List.prefix_append _ _
      | false => rw [ptrs_no e]; exact List.prefix_rfl
    · obtain rfl : m = n + 1 := by omega
      exact List.prefix_rfl
theorem fit_len {cl : List ClsD} {c k n : Int} (h : fitI cl c k n = true) : 0 ≤ n := by
  unfold fitI at h
  split at h
  · split at h
    · simp at h; omega
    · cases h
  · exact (valid_len h).1
theorem fit_le {w : World} {lo t m : Nat} {v : Value} {L : List (ClsD × Value × Nat)} {c k n : Int} (hT : TabS w lo t v m L) (h : fitI (L.map (·.1)) c k n = true) : n ≤ 9223372036854775807 := by
  unfold fitI at h
  split at h
  · split at h
    · rename_i d hd
      have hm := List.mem_of_getElem? hd
      obtain ⟨x, hx, rfl⟩ := List.mem_map.1 hm
      have ho := (hT.rows.inner x hx).1
      simp at h
      rcases Nat.eq_zero_or_pos x.1.fields.length with e | e
      · omega
      · obtain ⟨_, _, _, _, _, h1, h2, _⟩ := own_cellG ho e
        unfold maxLen at h2
        omega
    · cases h
  · have := valid_len h; omega
theorem grown_below {w w' : World} (h : Below w.heap.size w w') : w.grownBy w' none := ⟨h.os, h.tape, h.output, h.size, fun k hk _ => h.block k hk⟩
abbrev ptrEnc (i : Nat) : Array Value := #[.int .i64 (i : Nat)]
theorem pointers_any (c k n : Int) (t : Nat) (w : World) :
    Calls Tryz.prog 84 #[.pointer (some ⟨t, 0, none⟩), .agg #[.int .i64 c, .int .i64 k, .int .i64 n]] w fun e w' => e = .returned (.func (.func 117) #[] #[.pointer (some ⟨w.heap.size, 0, none⟩), .pointer (some ⟨w.heap.size + 1, 0, none⟩)]) ∧
      w' = (w.alloc (.cells #[.pointer (some ⟨t, 0, none⟩)] 75)).alloc (.cells #[.int .i64 c, .int .i64 k, .int .i64 n] 44) := by
  go_enter Tryz.func84, Tryz.ntmps84
  go_wp2
  go_ret
  exact ⟨rfl, rfl⟩
set_option maxRecDepth 100000 in
set_option maxHeartbeats 4000000 in
theorem ptr_stops (n : Nat) (hn : 1 ≤ n) (B1 B2 n₀ lo t m : Nat) (v : Value) (L : List (ClsD × Value × Nat)) (c k q : Int) (w : World) (hn₀ : n₀ ≤ w.heap.size)
    (HK : ∀ W, Below n₀ w W → TabS W lo t v m L ∧ W.cell? ⟨B1, 0, none⟩ = some (.pointer (some ⟨t, 0, none⟩)) ∧ W.cell? ⟨B2, 0, none⟩ = some (.int .i64 c) ∧ W.cell? ⟨B2, 1, none⟩ = some (.int .i64 k) ∧ W.cell? ⟨B2, 2, none⟩ = some (.int .i64 q)) :
    SeqStopsK Fence.wide n Tryz.prog 117 #[.pointer (some ⟨B1, 0, none⟩), .pointer (some ⟨B2, 0, none⟩)] ptrEnc (Below n₀) (fun xs => xs = ptrL (L.map (·.1)) c k q) (fun pre => pre <+: ptrL (L.map (·.1)) c k q) (ptrL (L.map (·.1)) c k q).length w :=
  fun l J Jx W hWW hJA _ hY h0 => by
  have hW0 : Below n₀ w W := hWW.mono hn₀
  obtain ⟨hT, b1, b20, b21, b22⟩ := HK W hW0
  have HKK := Lib.hid HK
  have JA := Lib.hid hJA
  have HY := Lib.hid hY
  have FI := Lib.hid (fits_any W lo t m v L c k q hT)
  clear HK hJA hY
  cases hf : fitI (L.map (·.1)) c k q with
  | false =>
    have HP : Hid (ptrL (L.map (·.1)) c k q = []) := by unfold Hid ptrL; rw [hf]; rfl
    clear hT
    rw [hf] at FI
    refine callsIn_of_wp Tryz.func117 rfl trivial ?_ rfl
    simp only [Tryz.ntmps117, List.size_toArray, List.length_cons, List.length_nil, Nat.reduceAdd, Nat.reduceSub, Array.replicate_succ, Array.replicate_zero, List.push_toArray, List.append_toArray, List.nil_append, List.cons_append]
    gi_wp2_with fail
    refine ⟨trivial, ?_⟩
    refine (callsIn_wide.2 FI.out).mono ?_
    rintro e w1 ⟨rfl, hb1⟩
    have HJ := Lib.hid (JA.out [] W w1 none h0 (grown_below hb1) (fun r e => by cases e))
    clear hb1
    gi_wp2
    refine bodyPost_ret (results_none rfl _ _ _) rfl ?_
    exact ⟨⟨_, rfl⟩, .inl ⟨[], HP.out.symm, HJ.out⟩⟩
  | true =>
    have hq := fit_len hf
    have hqm := fit_le hT hf
    obtain ⟨N, hN⟩ : ∃ N : Nat, q = (N : Int) := ⟨q.toNat, by omega⟩
    subst hN
    have HP : Hid (ptrL (L.map (·.1)) c k N = ptrs (L.map (·.1)) c k N) := by unfold Hid ptrL; rw [hf]; simp
    rw [hf] at FI
    clear hf hq hT
    refine callsIn_of_wp Tryz.func117 rfl trivial ?_ rfl
    simp only [Tryz.ntmps117, List.size_toArray, List.length_cons, List.length_nil, Nat.reduceAdd, Nat.reduceSub, Array.replicate_succ, Array.replicate_zero, List.push_toArray, List.append_toArray, List.nil_append, List.cons_append]
    gi_wp2_with fail
    refine ⟨trivial, ?_⟩
    refine (callsIn_wide.2 FI.out).mono ?_
    rintro e w1 ⟨rfl, hb1⟩
    have hJ1 := JA.out [] W w1 none h0 (grown_below hb1) (fun r e => by cases e)
    have hW1 := hW0.trans (hb1.mono (Nat.le_trans hn₀ hW0.size))
    obtain ⟨_, b1, b20, b21, b22⟩ := HKK.out w1 hW1
    clear hb1 FI h0
    gi_wp2
    gi_loopw [11] (fun p wr => ∃ i : Nat, i ≤ N ∧ p = .int .i64 i ∧ Below n₀ w wr ∧ J (ptrs (L.map (·.1)) c k i) wr) (fun p _ => N - (intOf p).toNat)
    case atStart => exact ⟨0, Nat.zero_le _, rfl, hW1, hJ1⟩
    case round =>
      clear hW1 hJ1 b1 b20 b21 b22
      obtain ⟨i, hi, rfl, hWr, hJ⟩ := hrel
      by_cases hlt : i < N
      · have hlt' : (i : Int) < (N : Int) := by omega
        obtain ⟨hT, b1, b20, b21, b22⟩ := HKK.out wr hWr
        have RF := Lib.hid (refers_any wr lo t m v L c k N i hT)
        clear hT
        gi_wp2_with fail
        refine ⟨trivial, ?_⟩
        refine (callsIn_wide.2 RF.out).mono ?_
        rintro e w2 ⟨rfl, hb2⟩
        have hJ2 := JA.out _ wr w2 none hJ (grown_below hb2) (fun r e => by cases e)
        have hW2 := hWr.trans (hb2.mono (Nat.le_trans hn₀ hWr.size))
        clear RF hb2 b1 b20 b21 b22 hJ
        cases hr : refI (L.map (·.1)) c k i with
        | false =>
          have HN := Lib.hid (ptrs_no hr)
          gi_wp2
          refine ⟨(fun f e => by cases e), ?_⟩
          rename_i hK9 _ _ _ _
          refine hK9 _ _ ?_
          gi_wp2
          go_roundw
          case rel => exact ⟨i + 1, by omega, by go_num, hW2, by rw [HN.out]; exact hJ2⟩
          case measure => simp only [intOf]; omega
        | true =>
          have HN := Lib.hid (ptrs_yes hr)
          have hlen : (ptrs (L.map (·.1)) c k i).length < (ptrL (L.map (·.1)) c k N).length := by
            rw [HP.out]
            have := (ptrs_pre (L.map (·.1)) c k (show i + 1 ≤ N by omega)).length_le
            rw [ptrs_yes hr, List.length_append, List.length_singleton] at this
            omega
          obtain ⟨fn, tmps, assign, body, hy, hRd⟩ := HY.out (ptrs (L.map (·.1)) c k i) i w2 hJ2 hlen
          rw [← HN.out] at hRd
          dsimp only [ptrEnc] at hy
          clear hlen hJ2
          gi_wp2
          refine hRd.mono ?_
          rintro e W3 (⟨rfl, hJ3, hk3⟩ | ⟨rfl, hJx3⟩)
          · gi_wp2
            go_roundw
            case rel => exact ⟨i + 1, by omega, by go_num, hW2.trans hk3, hJ3⟩
            case measure => simp only [intOf]; omega
          · gi_wp2
            refine bodyPost_ret (results_none rfl _ _ _) rfl ?_
            exact ⟨⟨_, rfl⟩, .inr ⟨ptrs (L.map (·.1)) c k (i + 1), by rw [HP.out]; exact ptrs_pre _ _ _ (by omega), hJx3⟩⟩
      · obtain rfl : i = N := by omega
        gi_wp2
        go_end0
        exact ⟨⟨_, rfl⟩, .inl ⟨_, HP.out.symm, hJ⟩⟩
end Go.Proofs.YtichmgilglaglaaGreatDoor
