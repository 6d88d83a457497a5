/- What word.Ones and mask's Count, Minus, Within, Same return. No condition but that the lists are short and each number has 64 bits. -/
import Derived.Test.YtalhlbedgkhijaaDoorWithout
namespace Go.Proofs.YtalhlbedgkhijaaDoor
open Go.RowKit
set_option linter.unusedVariables false
theorem cnt_le (x : Nat) : ∀ n, cnt x n ≤ n
  | 0 => Nat.le_refl _
  | n + 1 => by
    have := cnt_le x n
    have h : (x.testBit n).toNat ≤ 1 := by cases x.testBit n <;> decide
    unfold cnt; omega
theorem onesI_bd (x : Int) : 0 ≤ onesI x ∧ onesI x ≤ 64 := by
  unfold onesI
  have := cnt_le x.toNat 64
  omega
set_option maxHeartbeats 400000 in
theorem ones_any (x : Int) (w : World) (hx : U64 x) :
    Calls Tryd.prog 46 #[.int .u64 x] w fun e w' => e = .returned (.int .i64 (onesI x)) ∧ Quiet w w' := by
  go_enter Tryd.func46, Tryd.ntmps46
  go_wp2_with (go_at_call 64; refine (onesCount_any _ _ hx).mono ?_; rintro e w1 ⟨rfl, hq⟩)
  go_ret
  exact ⟨rfl, hq⟩
def cntL (l : List Int) : Int := (l.map onesI).sum
theorem cntL_take (l : List Int) (k : Nat) (h : k < l.length) : cntL (l.take (k + 1)) = cntL (l.take k) + onesI (l.getD k 0) := by
  unfold cntL
  rw [List.take_succ_eq_append_getElem h, List.map_append, List.sum_append, getD_in l k h]
  simp only [List.map_cons, List.map_nil, List.sum_cons, List.sum_nil]
  omega
theorem cntL_bd : ∀ l : List Int, 0 ≤ cntL l ∧ cntL l ≤ 64 * l.length
  | [] => by simp [cntL]
  | x :: l => by
    have h1 := cntL_bd l
    have h2 := onesI_bd x
    simp only [cntL, List.map_cons, List.sum_cons, List.length_cons] at *
    omega
set_option maxRecDepth 100000 in
set_option maxHeartbeats 1000000 in
theorem count_rows (b o cap n : Nat) (l : List Int) (w : World) (hn : Hid (l.length = n)) (h0 : 0 < n) (hm : n ≤ 4096) (hU : Hid (∀ i, i < n → U64 (l.getD i 0)))
    (hc : Hid (∀ i, i < n → w.cell? ⟨b, o + i, none⟩ = some (.int .u64 (l.getD i 0)))) :
    Calls Tryd.prog 17 #[.slice (some ⟨b, o, none⟩) n cap] w fun e w' => e = .returned (.int .i64 (cntL l)) ∧ Quiet w w' := by
  go_enter Tryd.func17, Tryd.ntmps17
  go_wp2
  go_loopw [3, 8] (fun s i wr => ∃ k : Nat, k ≤ n ∧ i = .int .i64 k ∧ s = .int .i64 (cntL (l.take k)) ∧ Quiet w wr) (fun _ i _ => n - (intOf i).toNat)
  case atStart => exact ⟨0, Nat.zero_le _, rfl, by simp [cntL], Quiet.refl _⟩
  case round =>
    obtain ⟨k, hk, rfl, rfl, hq⟩ := hrel
    by_cases hlt : k < n
    · have e1 := (hq.cell ⟨b, o + k, none⟩).trans (hc.out k hlt)
      have hs := Lib.hid (cntL_take l k (by rw [hn.out]; exact hlt))
      have hb := cntL_bd (l.take k)
      have ho := onesI_bd (l.getD k 0)
      have O := Lib.hid (fun W => ones_any (l.getD k 0) W (hU.out k hlt))
      have hlen : (l.take k).length ≤ k := List.length_take_le _ _
      have hb2 : cntL (l.take k) ≤ 64 * k := by omega
      have hb1 := hb.1
      clear hb hlen
      generalize onesI (l.getD k 0) = y at *
      generalize cntL (l.take k) = S at *
      generalize l.getD k 0 = V at *
      go_wp2_with (go_at_call 46; refine (O.out _).mono ?_; rintro e w1 ⟨rfl, hq1⟩)
      go_roundw
      case rel => exact ⟨k + 1, by omega, by go_num, by rw [hs.out], hq.trans hq1⟩
      case measure => simp [intOf]; omega
    · obtain rfl : k = n := by omega
      have hs := Lib.hid (show cntL (l.take k) = cntL l by rw [← hn.out, List.take_length])
      generalize cntL (l.take k) = S at *
      go_wp2
      go_ret
      exact ⟨ret_int hs.out, hq⟩
set_option maxHeartbeats 400000 in
theorem count_none (a : Option Addr) (cap : Nat) (w : World) :
    Calls Tryd.prog 17 #[.slice a 0 cap] w fun e w' => e = .returned (.int .i64 0) ∧ Quiet w w' := by
  go_enter Tryd.func17, Tryd.ntmps17
  go_wp2
  go_loopw [3, 8] (fun s i wr => i = .int .i64 0 ∧ s = .int .i64 0 ∧ Quiet w wr) (fun _ _ _ => 0)
  case atStart => exact ⟨rfl, rfl, Quiet.refl _⟩
  case round =>
    obtain ⟨rfl, rfl, hq⟩ := hrel
    go_wp2
    go_ret
    exact ⟨rfl, hq⟩
theorem count_lst (v : Value) (l : List Int) (w : World) (h : Lst .u64 w v l) (hU : ∀ z ∈ l, U64 z) (hm : l.length ≤ 4096) :
    Calls Tryd.prog 17 #[v] w fun e w' => e = .returned (.int .i64 (cntL l)) ∧ Quiet w w' := by
  rcases h with ⟨rfl, a, cap, rfl⟩ | ⟨b, o, cap, rfl, h1, h2, h3⟩
  · exact count_none a cap w
  · exact count_rows b o cap l.length l w rfl h1 hm (fun i hi => hU _ (by simp [List.getD_eq_getElem?_getD, hi])) h3
/-! the first alone -/
def minusL (a b : List Int) : List Int := (List.range (max a.length b.length)).map fun i => bits .andNot .u64 (a.getD i 0) (b.getD i 0)
set_option maxHeartbeats 400000 in
theorem andnot_any (x y : Int) (w : World) :
    Calls Tryd.prog 49 #[.int .u64 x, .int .u64 y] w fun e w' => e = .returned (.int .u64 (bits .andNot .u64 x y)) ∧ Quiet w w' := by
  go_enter Tryd.func49, Tryd.ntmps49
  go_wp2
  go_ret
  exact ⟨rfl, Quiet.refl _⟩
def fillL (a b : List Int) (N k : Nat) : List Int := (List.range N).map fun i => if i < k then bits .andNot .u64 (a.getD i 0) (b.getD i 0) else 0
theorem fillL_len (a b : List Int) (N k : Nat) : (fillL a b N k).length = N := by simp [fillL]
theorem fillL_set (a b : List Int) (N k : Nat) (h : k < N) : (fillL a b N k).set k (bits .andNot .u64 (a.getD k 0) (b.getD k 0)) = fillL a b N (k + 1) := by
  unfold fillL
  apply List.ext_getElem
  · simp
  · intro i h1 h2
    simp only [List.getElem_set, List.getElem_map, List.getElem_range]
    by_cases e : k = i
    · subst e
      simp
    · rw [if_neg e]
      by_cases hi : i < k
      · simp [hi, show i < k + 1 by omega]
      · simp [hi, show ¬ i < k + 1 by omega]
theorem fillL_zero (a b : List Int) (N : Nat) : zeros N = ((fillL a b N 0).map (Value.int .u64)).toArray := by
  unfold zeros fillL
  congr 2
  apply List.ext_getElem
  · simp
  · intro i h1 h2
    simp
set_option maxRecDepth 100000 in
set_option maxHeartbeats 2000000 in
theorem combine_core (la ca lb cb : Nat) (aa ab : Option Addr) (a b : List Int) (N : Nat) (w : World) (ha : Lst .u64 w (.slice aa la ca) a) (hb : Lst .u64 w (.slice ab lb cb) b) (hN : (la < lb ∧ N = lb) ∨ (lb ≤ la ∧ N = la)) (hN1 : N ≤ 4096) :
    Calls Tryd.prog 47 #[.slice aa la ca, .slice ab lb cb, .func (.func 49) #[] #[]] w (NewRow w (fillL a b N N)) := by
  have hmk := fun W => run_mk W N (by omega) (by omega)
  have hN0 : (0 : Int) ≤ (N : Int) := by omega
  have RA := Lib.hid (fun W i (h : Below w.heap.size w W) (hi : i < 1000000) => read_any _ a i W (ha.below h) hi)
  have RB := Lib.hid (fun W i (h : Below w.heap.size w W) (hi : i < 1000000) => read_any _ b i W (hb.below h) hi)
  clear ha hb
  rcases hN with ⟨hc, rfl⟩ | ⟨hc, rfl⟩
  · have hc1 : (la : Int) < (N : Int) := by omega
    have hmx : max (la : Int) (N : Int) = (N : Int) := by omega
    go_enter Tryd.func47, Tryd.ntmps47
    go_wp2_with fail
    have hG : Blk (w.alloc (.cells (zeros N) 33)) w.heap.size ((fillL a b N 0).map (Value.int .u64)).toArray 33 := by rw [← fillL_zero]; exact Blk.new _ _ _
    go_loopw [17] (fun i wr => ∃ k : Nat, k ≤ N ∧ i = .int .i64 k ∧ Blk wr w.heap.size ((fillL a b N k).map (Value.int .u64)).toArray 33 ∧ Below w.heap.size w wr) (fun i _ => N - (intOf i).toNat)
    case atStart => exact ⟨0, Nat.zero_le _, rfl, hG, (Below.refl _ _).alloc (Nat.le_refl _) _⟩
    case round =>
      obtain ⟨k, hk, rfl, hB, hb⟩ := hrel
      clear hG hmk
      by_cases hlt : k < N
      · have hs := Lib.hid (fillL_set a b N k hlt)
        have RA := Lib.hid (fun W h => RA.out W k h (by omega))
        have RB := Lib.hid (fun W h => RB.out W k h (by omega))
        have hfl := Lib.hid (fillL_len a b N k)
        generalize a.getD k 0 = x at *
        generalize b.getD k 0 = y at *
        have hk0 : (0 : Int) ≤ (k : Int) := by omega
        have hk1 : (k : Int) < (N : Int) := by omega
        go_wp2_with fail
        refine (RA.out _ hb).mono ?_
        rintro e w1 ⟨rfl, hq1⟩
        have hb1 := hb.trans hq1.below
        go_wp2_with fail
        refine (RB.out _ hb1).mono ?_
        rintro e w2 ⟨rfl, hq2⟩
        have hb2 := hb1.trans hq2.below
        go_wp2_with fail
        refine (andnot_any x y _).mono ?_
        rintro e w3 ⟨rfl, hq3⟩
        have hb3 := hb2.trans hq3.below
        have hB3 := ((hB.quiet hq1).quiet hq2).quiet hq3
        have hc3 := blk_word hB3 k (by rw [hfl.out]; exact hlt)
        have hf3 := hB3.frozen k
        clear hB hb hb1 hb2 RA RB
        generalize (fillL a b N k).getD k 0 = o at *
        go_wp2
        go_roundw
        case rel => exact ⟨k + 1, by omega, by go_num, by rw [← hs.out]; exact blk_set hB3 k _, hb3.setCell (Nat.le_refl _) _⟩
        case measure => simp [intOf]; omega
      · obtain rfl : k = N := by omega
        go_wp2
        go_ret
        exact ⟨w.heap.size, by rw [fillL_len]; rfl, hB, Nat.le_refl _, hb⟩
  · have hc1 : (lb : Int) ≤ (N : Int) := by omega
    have hmx : max (N : Int) (lb : Int) = (N : Int) := by omega
    go_enter Tryd.func47, Tryd.ntmps47
    go_wp2_with fail
    have hG : Blk (w.alloc (.cells (zeros N) 33)) w.heap.size ((fillL a b N 0).map (Value.int .u64)).toArray 33 := by rw [← fillL_zero]; exact Blk.new _ _ _
    go_loopw [17] (fun i wr => ∃ k : Nat, k ≤ N ∧ i = .int .i64 k ∧ Blk wr w.heap.size ((fillL a b N k).map (Value.int .u64)).toArray 33 ∧ Below w.heap.size w wr) (fun i _ => N - (intOf i).toNat)
    case atStart => exact ⟨0, Nat.zero_le _, rfl, hG, (Below.refl _ _).alloc (Nat.le_refl _) _⟩
    case round =>
      obtain ⟨k, hk, rfl, hB, hb⟩ := hrel
      clear hG hmk
      by_cases hlt : k < N
      · have hs := Lib.hid (fillL_set a b N k hlt)
        have RA := Lib.hid (fun W h => RA.out W k h (by omega))
        have RB := Lib.hid (fun W h => RB.out W k h (by omega))
        have hfl := Lib.hid (fillL_len a b N k)
        generalize a.getD k 0 = x at *
        generalize b.getD k 0 = y at *
        have hk0 : (0 : Int) ≤ (k : Int) := by omega
        have hk1 : (k : Int) < (N : Int) := by omega
        go_wp2_with fail
        refine (RA.out _ hb).mono ?_
        rintro e w1 ⟨rfl, hq1⟩
        have hb1 := hb.trans hq1.below
        go_wp2_with fail
        refine (RB.out _ hb1).mono ?_
        rintro e w2 ⟨rfl, hq2⟩
        have hb2 := hb1.trans hq2.below
        go_wp2_with fail
        refine (andnot_any x y _).mono ?_
        rintro e w3 ⟨rfl, hq3⟩
        have hb3 := hb2.trans hq3.below
        have hB3 := ((hB.quiet hq1).quiet hq2).quiet hq3
        have hc3 := blk_word hB3 k (by rw [hfl.out]; exact hlt)
        have hf3 := hB3.frozen k
        clear hB hb hb1 hb2 RA RB
        generalize (fillL a b N k).getD k 0 = o at *
        go_wp2
        go_roundw
        case rel => exact ⟨k + 1, by omega, by go_num, by rw [← hs.out]; exact blk_set hB3 k _, hb3.setCell (Nat.le_refl _) _⟩
        case measure => simp [intOf]; omega
      · obtain rfl : k = N := by omega
        go_wp2
        go_ret
        exact ⟨w.heap.size, by rw [fillL_len]; rfl, hB, Nat.le_refl _, hb⟩
theorem minus_any (va vb : Value) (a b : List Int) (w : World) (ha : Lst .u64 w va a) (hb : Lst .u64 w vb b) (h1 : a.length ≤ 4096) (h2 : b.length ≤ 4096) :
    Calls Tryd.prog 19 #[va, vb] w (NewRow w (fillL a b (max a.length b.length) (max a.length b.length))) := by
  obtain ⟨aa, ca, rfl, _⟩ := lst_len ha
  obtain ⟨ab, cb, rfl, _⟩ := lst_len hb
  have C := Lib.hid (combine_core a.length ca b.length cb aa ab a b (max a.length b.length) w ha hb (by omega) (by omega))
  clear ha hb
  unfold NewRow
  go_enter Tryd.func19, Tryd.ntmps19
  go_wp2_with (go_at_call 47; refine C.out.mono ?_; rintro e w1 ⟨g, rfl, h3, h4, h5⟩)
  go_ret
  exact ⟨g, rfl, h3, h4, h5⟩
end Go.Proofs.YtalhlbedgkhijaaDoor
