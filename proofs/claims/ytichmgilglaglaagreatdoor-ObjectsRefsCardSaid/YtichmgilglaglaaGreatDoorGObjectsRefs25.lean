/- The iterator of a table's pointers, by their bound, for a caller whose memory lies ahead of the iterator's: whatever relation of worlds holds what it reads. No condition. -/
import Derived.Test.YtichmgilglaglaaGreatDoorGObjectsRefs24
namespace Go.Proofs.YtichmgilglaglaaGreatDoor
open Go.RowKit
set_option linter.unusedVariables false
theorem ptrs_lt {cl : List ClsD} {c k : Int} {m j : Nat} (h : j ∈ ptrs cl c k m) : j < m := by
  unfold ptrs at h
  exact List.mem_range.1 (List.mem_filter.1 h).1
def ptrsF (cl : List ClsD) (c k : Int) (N m : Nat) : List (Fin N) := (ptrs cl c k m).filterMap fun j => if h : j < N then some ⟨j, h⟩ else none
def ptrFL (cl : List ClsD) (c k : Int) (N : Nat) : List (Fin N) := if fitI cl c k (N : Int) then ptrsF cl c k N N else []
abbrev ptrEncF {N : Nat} (i : Fin N) : Array Value := #[.int .i64 ((i.val : Nat) : Int)]
theorem ptrsF_yes {cl : List ClsD} {c k : Int} {N m : Nat} (hm : m < N) (h : refI cl c k (m : Nat) = true) : ptrsF cl c k N (m + 1) = ptrsF cl c k N m ++ [⟨m, hm⟩] := by
  unfold ptrsF; rw [ptrs_yes h, List.filterMap_append]; simp [hm]
theorem ptrsF_no {cl : List ClsD} {c k : Int} {N m : Nat} (h : refI cl c k (m : Nat) = false) : ptrsF cl c k N (m + 1) = ptrsF cl c k N m := by
  unfold ptrsF; rw [ptrs_no h]
theorem ptrsF_pre {N : Nat} (cl : List ClsD) (c k : Int) {m n : Nat} (h : m ≤ n) : ptrsF cl c k N m <+: ptrsF cl c k N n := by
  unfold ptrsF
  obtain ⟨r, hr⟩ := ptrs_pre cl c k h
  exact ⟨r.filterMap _, by rw [← hr, List.filterMap_append]⟩
theorem ptrsF_val {cl : List ClsD} {c k : Int} {N m : Nat} (h : m ≤ N) : (ptrsF cl c k N m).map (fun i => i.val) = ptrs cl c k m := by
  unfold ptrsF
  rw [List.map_filterMap]
  have : ∀ l : List Nat, (∀ j ∈ l, j < N) → l.filterMap (fun j => Option.map (fun i : Fin N => i.val) (if h : j < N then some ⟨j, h⟩ else none)) = l := by
    intro l
    induction l with
    | nil => intro _; rfl
    | cons a l ih =>
      intro hl
      have ha : a < N := hl a (by simp)
      rw [List.filterMap_cons]
      simp only [ha, dif_pos, Option.map_some]
      rw [ih (fun j hj => hl j (by simp [hj]))]
  exact this _ (fun j hj => Nat.lt_of_lt_of_le (ptrs_lt hj) h)
theorem ptrFL_val {cl : List ClsD} {c k : Int} {N : Nat} : (ptrFL cl c k N).map (fun i => i.val) = ptrL cl c k N := by
  unfold ptrFL ptrL
  cases fitI cl c k (N : Int) with
  | false => rfl
  | true => simp only [if_true, Int.toNat_natCast]; exact ptrsF_val (Nat.le_refl _)
set_option maxRecDepth 100000 in
set_option maxHeartbeats 4000000 in
theorem ptr_stopsF {Kp : World → World → Prop} (hKt : ∀ {A B C : World}, Kp A B → Kp B C → Kp A C) (hKg : ∀ {A B : World}, Below A.heap.size A B → Kp A B) (n : Nat) (hn : 1 ≤ n) (B1 B2 lo t m : Nat) (v : Value) (L : List (ClsD × Value × Nat)) (c k : Int) (N : Nat) (w : World)
    (HK : ∀ W, Kp w W → TabS W lo t v m L ∧ W.cell? ⟨B1, 0, none⟩ = some (.pointer (some ⟨t, 0, none⟩)) ∧ W.cell? ⟨B2, 0, none⟩ = some (.int .i64 c) ∧ W.cell? ⟨B2, 1, none⟩ = some (.int .i64 k) ∧ W.cell? ⟨B2, 2, none⟩ = some (.int .i64 (N : Int))) :
    SeqStopsK Fence.wide n Tryz.prog 117 #[.pointer (some ⟨B1, 0, none⟩), .pointer (some ⟨B2, 0, none⟩)] (ptrEncF (N := N)) Kp (fun xs => xs = ptrFL (L.map (·.1)) c k N) (fun pre => pre <+: ptrFL (L.map (·.1)) c k N) (ptrFL (L.map (·.1)) c k N).length w :=
  fun l J Jx W hWW hJA _ hY h0 => by
  have hW0 : Kp w W := hKg hWW
  obtain ⟨hT, b1, b20, b21, b22⟩ := HK W hW0
  have HKK := Lib.hid HK
  have JA := Lib.hid hJA
  have HY := Lib.hid hY
  have FI := Lib.hid (fits_any W lo t m v L c k (N : Int) hT)
  clear HK hJA hY
  cases hf : fitI (L.map (·.1)) c k (N : Int) with
  | false =>
    have HP : Hid (ptrFL (L.map (·.1)) c k N = []) := by unfold Hid ptrFL; rw [hf]; rfl
    clear hT
    rw [hf] at FI
    refine callsIn_of_wp Tryz.func117 rfl trivial ?_ rfl
    simp only [Tryz.ntmps117, List.size_toArray, List.length_cons, List.length_nil, Nat.reduceAdd, Nat.reduceSub, Array.replicate_succ, Array.replicate_zero, List.push_toArray, List.append_toArray, List.nil_append, List.cons_append]
    gi_wp2_with fail
    refine ⟨trivial, ?_⟩
    refine (callsIn_wide.2 FI.out).mono ?_
    rintro e w1 ⟨rfl, hb1⟩
    have HJ := Lib.hid (JA.out [] W w1 none h0 (grown_below hb1) (fun r e => by cases e))
    clear hb1
    gi_wp2
    refine bodyPost_ret (results_none rfl _ _ _) rfl ?_
    exact ⟨⟨_, rfl⟩, .inl ⟨[], HP.out.symm, HJ.out⟩⟩
  | true =>
    have hqm := fit_le hT hf
    have HP : Hid (ptrFL (L.map (·.1)) c k N = ptrsF (L.map (·.1)) c k N N) := by unfold Hid ptrFL; rw [hf]; simp
    rw [hf] at FI
    clear hf hT
    refine callsIn_of_wp Tryz.func117 rfl trivial ?_ rfl
    simp only [Tryz.ntmps117, List.size_toArray, List.length_cons, List.length_nil, Nat.reduceAdd, Nat.reduceSub, Array.replicate_succ, Array.replicate_zero, List.push_toArray, List.append_toArray, List.nil_append, List.cons_append]
    gi_wp2_with fail
    refine ⟨trivial, ?_⟩
    refine (callsIn_wide.2 FI.out).mono ?_
    rintro e w1 ⟨rfl, hb1⟩
    have hJ1 := JA.out [] W w1 none h0 (grown_below hb1) (fun r e => by cases e)
    have hW1 := hKt hW0 (hKg hb1)
    obtain ⟨_, b1, b20, b21, b22⟩ := HKK.out w1 hW1
    clear hb1 FI h0
    gi_wp2
    gi_loopw [11] (fun p wr => ∃ i : Nat, i ≤ N ∧ p = .int .i64 i ∧ Kp w wr ∧ J (ptrsF (L.map (·.1)) c k N i) wr) (fun p _ => N - (intOf p).toNat)
    case atStart => exact ⟨0, Nat.zero_le _, rfl, hW1, hJ1⟩
    case round =>
      clear hW1 hJ1 b1 b20 b21 b22
      obtain ⟨i, hi, rfl, hWr, hJ⟩ := hrel
      by_cases hlt : i < N
      · have hlt' : (i : Int) < (N : Int) := by omega
        obtain ⟨hT, b1, b20, b21, b22⟩ := HKK.out wr hWr
        have RF := Lib.hid (refers_any wr lo t m v L c k N i hT)
        clear hT
        gi_wp2_with fail
        refine ⟨trivial, ?_⟩
        refine (callsIn_wide.2 RF.out).mono ?_
        rintro e w2 ⟨rfl, hb2⟩
        have hJ2 := JA.out _ wr w2 none hJ (grown_below hb2) (fun r e => by cases e)
        have hW2 := hKt hWr (hKg hb2)
        clear RF hb2 b1 b20 b21 b22 hJ
        cases hr : refI (L.map (·.1)) c k i with
        | false =>
          have HN := Lib.hid (ptrsF_no (N := N) hr)
          gi_wp2
          refine ⟨(fun f e => by cases e), ?_⟩
          rename_i hK9 _ _ _ _
          refine hK9 _ _ ?_
          gi_wp2
          go_roundw
          case rel => exact ⟨i + 1, by omega, by go_num, hW2, by rw [HN.out]; exact hJ2⟩
          case measure => simp only [intOf]; omega
        | true =>
          have HN := Lib.hid (ptrsF_yes hlt hr)
          have hlen : (ptrsF (L.map (·.1)) c k N i).length < (ptrFL (L.map (·.1)) c k N).length := by
            rw [HP.out]
            have := (ptrsF_pre (N := N) (L.map (·.1)) c k (show i + 1 ≤ N by omega)).length_le
            rw [ptrsF_yes hlt hr, List.length_append, List.length_singleton] at this
            omega
          obtain ⟨fn, tmps, assign, body, hy, hRd⟩ := HY.out (ptrsF (L.map (·.1)) c k N i) ⟨i, hlt⟩ w2 hJ2 hlen
          rw [← HN.out] at hRd
          dsimp only [ptrEncF] at hy
          clear hlen hJ2
          gi_wp2
          refine hRd.mono ?_
          rintro e W3 (⟨rfl, hJ3, hk3⟩ | ⟨rfl, hJx3⟩)
          · gi_wp2
            go_roundw
            case rel => exact ⟨i + 1, by omega, by go_num, hKt hW2 hk3, hJ3⟩
            case measure => simp only [intOf]; omega
          · gi_wp2
            refine bodyPost_ret (results_none rfl _ _ _) rfl ?_
            exact ⟨⟨_, rfl⟩, .inr ⟨ptrsF (L.map (·.1)) c k N (i + 1), by rw [HP.out]; exact ptrsF_pre _ _ _ (by omega), hJx3⟩⟩
      · obtain rfl : i = N := by omega
        gi_wp2
        go_end0
        exact ⟨⟨_, rfl⟩, .inl ⟨_, HP.out.symm, hJ⟩⟩
end Go.Proofs.YtichmgilglaglaaGreatDoor
