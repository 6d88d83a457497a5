/- Package sizes: the iterator of a page's cells; what Starts, Cells and Cell return. No condition but that the tables lie as the start lays them. -/
import Derived.Test.YtcjkachlahjbiaaDoorSz
import Derived.Test.YtcjkachlahjbiaaDoorIter
import Derived.RangeFuncFrom
namespace Go.Proofs.YtcjkachlahjbiaaDoor
open Go.RowKit Go.Shelf
set_option linter.unusedVariables false
attribute [local go_sem] Oper.semAt_some

theorem Quiet.frozen {w w' : World} (h : Quiet w w') (a : Addr) : w'.frozen? a = w.frozen? a := by
  obtain ⟨n, rfl⟩ := h
  rfl
theorem Quiet.others {w w' : World} (h : Quiet w w') : KeepsOthers w w' := by
  obtain ⟨n, rfl⟩ := h
  exact ⟨Nat.le_refl _, fun _ _ h _ => h⟩

/-- how many cells a page has -/
def numF (j : Nat) : Nat := ([32, 21, 16, 10, 8, 5, 4, 2] : List Nat).getD j 0
def numN (c : Int) : Nat := if clsB c then numF c.toNat else 0
theorem num_fit : ∀ j : Fin 8, ∀ k : Fin 32, k.val < numF j.val → ((k.val : Nat) : Int) * widF j.val + widF j.val ≤ 64 := by decide +kernel
theorem num_end : ∀ j : Fin 8, 64 < ((numF j.val : Nat) : Int) * widF j.val + widF j.val ∧ numF j.val ≤ 32 := by decide +kernel
theorem num_le (j : Nat) (h : j < 8) : numF j ≤ 32 := (num_end ⟨j, h⟩).2
theorem num_over (j : Nat) (h : j < 8) : 64 < ((numF j : Nat) : Int) * widF j + widF j := (num_end ⟨j, h⟩).1
theorem num_in (j : Nat) (h : j < 8) (k : Nat) (hk : k < numF j) : ((k : Nat) : Int) * widF j + widF j ≤ 64 := num_fit ⟨j, h⟩ ⟨k, Nat.lt_of_lt_of_le hk (num_le j h)⟩ hk
theorem range_prefix (k N : Nat) (h : k ≤ N) : List.range k <+: List.range N := by
  obtain ⟨d, rfl⟩ := Nat.exists_eq_add_of_le h
  rw [List.range_add]
  exact List.prefix_append _ _
/-- the words at which the cells begin -/
def cellL (c : Int) : List Int := (List.range (numN c)).map fun i => ((i : Nat) : Int) * widI c
abbrev cellEnc (c : Int) (i : Nat) : Array Value := #[.int .i64 (((i : Nat) : Int) * widI c), .int .i64 (((i : Nat) : Int) * widI c + widI c)]

set_option maxHeartbeats 400000 in
theorem cells_any (c : Int) (w : World) :
    Calls Tryd.prog 31 #[.int .i64 c] w fun e w' => e = .returned (.func (.func 38) #[] #[.pointer (some ⟨w.heap.size, 0, none⟩)]) ∧ w' = w.alloc (.cells #[.int .i64 c] 3) := by
  go_enter Tryd.func31, Tryd.ntmps31
  go_wp2
  go_ret
  exact ⟨rfl, rfl⟩

set_option maxRecDepth 100000 in
set_option maxHeartbeats 2000000 in
theorem cells_stops (n : Nat) (hn : 1 ≤ n) (B n₀ : Nat) (c : Int) (w : World) (hW : Wid w) (hlt : B < w.heap.size) (hB : w.cell? ⟨B, 0, none⟩ = some (.int .i64 c)) :
    SeqStopsK Fence.wide n Tryd.prog 38 #[.pointer (some ⟨B, 0, none⟩)] (cellEnc c) (Below n₀) (fun xs => xs = List.range (numN c)) (fun pre => pre <+: List.range (numN c)) (numN c) w :=
  fun l J Jx W hWW _ _ hY h0 => by
  have hW1 : Wid W := hW.grew hWW
  have hB1 := (hWW.cell (p := ⟨B, 0, none⟩) hlt).trans hB
  have P := Lib.hid (fun W' (h : Wid W') => words_any c W' h)
  cases hc : clsB c with
  | false =>
    have e1 : numN c = 0 := by unfold numN; rw [hc]; rfl
    have e2 : errI c = 1 := by unfold errI; rw [hc]; rfl
    have e3 : widI c = 0 := by unfold widI; rw [hc]; rfl
    rw [e2, e3] at P
    rw [e1]
    clear e1 e2 e3 hc
    refine callsIn_of_wp Tryd.func38 rfl trivial ?_ rfl
    simp only [Tryd.ntmps38, List.size_toArray, List.length_cons, List.length_nil, Nat.reduceAdd, Nat.reduceSub, Array.replicate_succ, Array.replicate_zero, List.push_toArray, List.append_toArray, List.nil_append, List.cons_append]
    gi_wp2_with fail
    refine ⟨trivial, ?_⟩
    refine (callsIn_wide.2 (P.out _ hW1)).mono ?_
    rintro e w' ⟨rfl, rfl⟩
    gi_wp2
    refine bodyPost_ret (results_none rfl _ _ _) rfl ?_
    exact ⟨⟨_, rfl⟩, .inl ⟨[], rfl, h0⟩⟩
  | true =>
    obtain ⟨j, hj, hj8⟩ := clsB_yes hc
    have e2 : errI c = 0 := by unfold errI; rw [hc]; rfl
    have e3 : widI c = widF j := by unfold widI; rw [hc, hj]; rfl
    have e4 : numN c = numF j := by unfold numN; rw [hc, hj]; rfl
    have hfit : Hid (∀ k, k < numF j → ((k : Nat) : Int) * widF j + widF j ≤ 64) := num_in j hj8
    have hend := num_over j hj8
    have hle := num_le j hj8
    have hb := widF_bd j hj8
    rw [e2] at P
    rw [e3] at P
    unfold cellEnc at hY
    rw [e3, e4] at hY
    rw [e4]
    clear e2 e3 e4 hc hj
    have HE := Lib.hid hend
    clear hend
    generalize widF j = v at *
    generalize numF j = N at *
    refine callsIn_of_wp Tryd.func38 rfl trivial ?_ rfl
    simp only [Tryd.ntmps38, List.size_toArray, List.length_cons, List.length_nil, Nat.reduceAdd, Nat.reduceSub, Array.replicate_succ, Array.replicate_zero, List.push_toArray, List.append_toArray, List.nil_append, List.cons_append]
    gi_wp2_with fail
    refine ⟨trivial, ?_⟩
    refine (callsIn_wide.2 (P.out _ hW1)).mono ?_
    rintro e w' ⟨rfl, rfl⟩
    gi_wp2
    gi_loopw [5] (fun p wr => ∃ (k : Nat) (E : Int), k ≤ N ∧ p = .int .i64 E ∧ Hid (E = ((k : Nat) : Int) * v) ∧ 0 ≤ E ∧ E ≤ 64 ∧ J (List.range k) wr) (fun p _ => 64 - (intOf p).toNat)
    case atStart => exact ⟨0, 0, by omega, rfl, by unfold Hid; simp, by omega, by omega, h0⟩
    case round =>
      obtain ⟨k, E, hk, rfl, hE, hE0, hE1, hJ⟩ := hrel
      by_cases hkN : k < N
      · have hf := hfit.out k hkN
        rw [← hE.out] at hf
        obtain ⟨fn, tmps, assign, body, hy, hRd⟩ := hY (List.range k) k wr hJ (by simpa using hkN)
        rw [← hE.out] at hy
        have HS : Hid (E + v = (((k + 1 : Nat) : Nat) : Int) * v) := by unfold Hid; rw [hE.out]; push_cast; rw [Int.add_mul, Int.one_mul]
        have HR := Lib.hid (List.range_succ (n := k))
        have hf2 : ¬ 64 < E + v := by omega
        rw [← HR.out] at hRd
        gi_wp2
        refine hRd.mono ?_
        rintro e W3 (⟨rfl, hJ3, hk3⟩ | ⟨rfl, hJx3⟩)
        · gi_wp2
          go_roundw
          case rel => exact ⟨k + 1, E + v, by omega, rfl, HS, by omega, by omega, hJ3⟩
          case measure => simp only [intOf]; omega
        · gi_wp2
          refine bodyPost_ret (results_none rfl _ _ _) rfl ?_
          exact ⟨⟨_, rfl⟩, .inr ⟨List.range (k + 1), range_prefix _ _ (by omega), hJx3⟩⟩
      · obtain rfl : k = N := by omega
        have hend := HE.out
        rw [← hE.out] at hend
        gi_wp2
        go_end0
        exact ⟨⟨_, rfl⟩, .inl ⟨_, rfl, hJ⟩⟩

/-- the words at which cells begin, as bits -/
def stOr (v : Int) (l : List Nat) : Int := l.foldl (fun s i => bits .or .u64 s (IntKind.u64.wrap (2 ^ min (((i : Nat) : Int) * v).toNat 64))) 0
theorem stOr_snoc (v : Int) (l : List Nat) (i : Nat) : stOr v (l ++ [i]) = bits .or .u64 (stOr v l) (IntKind.u64.wrap (2 ^ min (((i : Nat) : Int) * v).toNat 64)) := by simp [stOr]
def startsI (c : Int) : Int := if clsB c then stOr (widF c.toNat) (List.range (numF c.toNat)) else 0

set_option maxRecDepth 100000 in
set_option maxHeartbeats 2000000 in
theorem starts_any (c : Int) (w : World) (hW : Wid w) :
    Calls Tryd.prog 25 #[.int .i64 c] w fun e w' => e = .returned (.tuple #[.int .u64 (startsI c), .int .i64 (errI c)]) ∧ Below w.heap.size w w' := by
  have P := Lib.hid (fun W' (h : Wid W') => words_any c W' h)
  cases hc : clsB c with
  | false =>
    have e1 : startsI c = 0 := by unfold startsI; rw [hc]; rfl
    have e2 : errI c = 1 := by unfold errI; rw [hc]; rfl
    have e3 : widI c = 0 := by unfold widI; rw [hc]; rfl
    rw [e2, e3] at P
    rw [e1, e2]
    clear e1 e2 e3 hc
    go_enter Tryd.func25, Tryd.ntmps25
    go_wp2_with fail
    refine (P.out _ hW).mono ?_
    rintro e w2 ⟨rfl, rfl⟩
    go_wp2
    go_ret2
    exact ⟨rfl, Below.refl _ _⟩
  | true =>
    obtain ⟨j, hj, hj8⟩ := clsB_yes hc
    have e1 : startsI c = stOr (widI c) (List.range (numN c)) := by unfold startsI widI numN; rw [hc]; rfl
    have e2 : errI c = 0 := by unfold errI; rw [hc]; rfl
    have e3 : widI c = widF j := by unfold widI; rw [hc, hj]; rfl
    have hb := widF_bd j hj8
    rw [← e3] at hb
    rw [e2] at P
    rw [e1, e2]
    clear e1 e2 e3 hc hj
    refine (callsIn_wide (n := 9)).1 ?_
    refine callsIn_of_wp_marks Tryd.func25 rfl trivial ?_ rfl
    simp only [Tryd.ntmps25, List.size_toArray, List.length_cons, List.length_nil, Nat.reduceAdd, Nat.reduceSub, Array.replicate_succ, Array.replicate_zero, List.push_toArray, List.append_toArray, List.nil_append, List.cons_append]
    gi_wp2_with fail
    refine ⟨trivial, ?_⟩
    refine (callsIn_wide.2 (P.out _ hW)).mono ?_
    rintro e w' ⟨rfl, hw'⟩
    obtain rfl := hw'.symm
    gi_wp2_with fail
    refine ⟨trivial, ?_⟩
    refine (callsIn_wide.2 (cells_any c _)).mono ?_
    rintro e w2 ⟨rfl, rfl⟩
    gi_wp2_with fail
    have b0 : Blk ((w.alloc (.cells #[.int .u64 0] 30)).alloc (.cells #[.int .i64 c] 3)) w.heap.size #[.int .u64 0] 30 := (Blk.new _ _ _).alloc _
    have b1 : Blk ((w.alloc (.cells #[.int .u64 0] 30)).alloc (.cells #[.int .i64 c] 3)) (w.heap.size + 1) #[.int .i64 c] 3 := Blk.new' (by simp)
    have hB0 : Below w.heap.size w ((w.alloc (.cells #[.int .u64 0] 30)).alloc (.cells #[.int .i64 c] 3)) := ((Below.refl _ w).alloc (Nat.le_refl _) _).alloc (by simp) _
    have hsz : ((w.alloc (.cells #[.int .u64 0] 30)).alloc (.cells #[.int .i64 c] 3)).heap.size = w.heap.size + 2 := by simp
    generalize ((w.alloc (.cells #[.int .u64 0] 30)).alloc (.cells #[.int .i64 c] 3)) = W0 at *
    have c0 := b0.val 0 rfl
    have f0 := b0.frozen 0
    have c1 := b1.val 0 rfl
    have hW0 := hW.grew hB0
    refine wpIn_rangeFunc_ownF rfl (by omega) (gf := 38) (lb := #[.pointer (some ⟨w.heap.size + 1, 0, none⟩)]) rfl trivial (enters_of Tryd.func38 (by kernel_rfl) rfl)
      (cells_stops 8 (by omega) (w.heap.size + 1) w.heap.size c W0 hW0 (by omega) c1) belowK_t (belowK_b (by omega)) (Below.refl _ _) (fun _ => rfl)
      (fun pre W => (∃ V, W.cell? ⟨w.heap.size, 0, none⟩ = some (.int .u64 V) ∧ Hid (V = stOr (widI c) pre) ∧ W.frozen? ⟨w.heap.size, 0, none⟩ = false) ∧ Below w.heap.size w W)
      (fun _ _ _ => False)
      (OwnFrom.and (Own.from (fun s A B row hs hg hr => by obtain ⟨V, h1, h2, h3⟩ := hs; exact ⟨V, cell_kept h1 hg hr, h2, (frozen_kept h1 hg hr).trans h3⟩) _) (ownFrom_below (Nat.le_refl _) (by omega)))
      (fun _ _ _ _ _ hs _ _ => hs)
      ⟨⟨0, c0, by unfold Hid; rfl, f0⟩, hB0⟩
      (fun i => { tmps := #[.int .i64 c, undef, .int .u64 0, .int .i64 0, .int .i64 (widI c), .int .i64 0, .pointer (some ⟨w.heap.size, 0, none⟩), .int .i64 (((i : Nat) : Int) * widI c),
        .tuple #[.int .i64 (widI c), .int .i64 0], .int .i64 c, .tuple #[.int .i64 (widI c), .int .i64 0], .int .i64 (widI c), .int .i64 0, .int .i64 0, .bool false, undef, .int .i64 c,
        .func (.func 38) #[] #[.pointer (some ⟨w.heap.size + 1, 0, none⟩)], .int .i64 (((i : Nat) : Int) * widI c), .int .i64 (((i : Nat) : Int) * widI c + widI c), undef, undef, undef, undef, undef], defers := [] }) ?assign ?body ?done ?stop
    case assign =>
      intro l i W K hK
      gi_wp2
      exact hK
    case body =>
      rintro l pre i W ⟨⟨V, hv, hV, hfr⟩, hB⟩ _
      have hmx : Tryd.prog.follows .mixedOrders = true := by kernel_rfl
      have hS : Hid (bits .or .u64 V (IntKind.u64.wrap (2 ^ min (((i : Nat) : Int) * widI c).toNat 64)) = stOr (widI c) (pre ++ [i])) := by unfold Hid; rw [stOr_snoc, hV.out]
      have he0 : 0 ≤ ((i : Nat) : Int) * widI c := Int.mul_nonneg (by omega) (by omega)
      generalize ((i : Nat) : Int) * widI c = E at *
      have hEn : ¬ E < 0 := by omega
      gi_wp2_with fail
      gi_region_with_o fail
      all_goals gi_wp2
      all_goals exact ⟨(KeepsOthers.setCell _ _ _).trans (KeepsOthers.drew _), ((Below.refl w.heap.size W).setCell (p := ⟨w.heap.size, 0, none⟩) (Nat.le_refl _) _).drew,
        ⟨_, World.cell?_setCell_same' _ _ _ (by rw [hv]; rfl), hS, by rw [frozen_drew_own, World.frozen?_setCell]; exact hfr⟩, (hB.setCell (p := ⟨w.heap.size, 0, none⟩) (Nat.le_refl _) _).drew⟩
    case done =>
      rintro D ys W hD hys ⟨⟨V, hc, hV, _⟩, hB⟩ hK
      subst hys
      gi_wp2
      refine ⟨by simp, .inl ⟨_, _, rfl, run_takeDeferred hK, ?_⟩⟩
      refine ⟨_, results_tmp2 rfl _ _ _, ?_, hB.trans (belowK_b (w := w) (Nat.le_refl _) W D _ _ (by omega) hK rfl rfl)⟩
      exact ret_two hV.out rfl
    case stop =>
      rintro D c pre W _ _ h _
      exact h.elim

/-- the cell in which a word lies; -1: in none -/
def inB (c at_ : Int) (i : Nat) : Bool := decide (((i : Nat) : Int) * widI c ≤ at_ ∧ at_ < ((i : Nat) : Int) * widI c + widI c)
def cellI (c at_ : Int) : Int := match (List.range (numN c)).find? (inB c at_) with
  | some i => ((i : Nat) : Int) * widI c
  | none => -1
theorem cell_hit (c at_ : Int) (q : List Nat) (i : Nat) (h : (q ++ [i]) <+: List.range (numN c)) (hq : ∀ y ∈ q, inB c at_ y = false) (hi : inB c at_ i = true) : cellI c at_ = ((i : Nat) : Int) * widI c := by
  obtain ⟨r, hr⟩ := h
  unfold cellI
  rw [← hr, List.append_assoc, List.find?_append, List.find?_eq_none.2 (fun y hy => by simp [hq y hy])]
  simp [hi]
theorem cell_miss (c at_ : Int) (h : ∀ y ∈ List.range (numN c), inB c at_ y = false) : cellI c at_ = -1 := by
  unfold cellI
  rw [List.find?_eq_none.2 (fun y hy => by simp [h y hy])]

set_option maxRecDepth 100000 in
set_option maxHeartbeats 2000000 in
theorem cell_any (c at_ : Int) (w : World) (hW : Wid w) :
    Calls Tryd.prog 11 #[.int .i64 c, .int .i64 at_] w fun e w' => e = .returned (.int .i64 (cellI c at_)) ∧ Below w.heap.size w w' := by
  have hM := Lib.hid (cell_miss c at_)
  have hH := Lib.hid (cell_hit c at_)
  refine (callsIn_wide (n := 9)).1 ?_
  refine callsIn_of_wp_marks Tryd.func11 rfl trivial ?_ rfl
  simp only [Tryd.ntmps11, List.size_toArray, List.length_cons, List.length_nil, Nat.reduceAdd, Nat.reduceSub, Array.replicate_succ, Array.replicate_zero, List.push_toArray, List.append_toArray, List.nil_append, List.cons_append]
  gi_wp2_with fail
  refine ⟨trivial, ?_⟩
  refine (callsIn_wide.2 (cells_any c _)).mono ?_
  rintro e w2 ⟨rfl, rfl⟩
  gi_wp2_with fail
  have b0 : Blk (((w.alloc (.cells #[.int .i64 at_] 3)).alloc (.cells #[.int .i64 0] 3)).alloc (.cells #[.int .i64 c] 3)) w.heap.size #[.int .i64 at_] 3 := ((Blk.new _ _ _).alloc _).alloc _
  have b1 : Blk (((w.alloc (.cells #[.int .i64 at_] 3)).alloc (.cells #[.int .i64 0] 3)).alloc (.cells #[.int .i64 c] 3)) (w.heap.size + 1) #[.int .i64 0] 3 := (Blk.new' (by simp)).alloc _
  have b2 : Blk (((w.alloc (.cells #[.int .i64 at_] 3)).alloc (.cells #[.int .i64 0] 3)).alloc (.cells #[.int .i64 c] 3)) (w.heap.size + 1 + 1) #[.int .i64 c] 3 := Blk.new' (by simp)
  have hB0 : Below w.heap.size w (((w.alloc (.cells #[.int .i64 at_] 3)).alloc (.cells #[.int .i64 0] 3)).alloc (.cells #[.int .i64 c] 3)) := (((Below.refl _ w).alloc (Nat.le_refl _) _).alloc (by simp) _).alloc (by simp; omega) _
  have hsz : (((w.alloc (.cells #[.int .i64 at_] 3)).alloc (.cells #[.int .i64 0] 3)).alloc (.cells #[.int .i64 c] 3)).heap.size = w.heap.size + 3 := by simp
  generalize (((w.alloc (.cells #[.int .i64 at_] 3)).alloc (.cells #[.int .i64 0] 3)).alloc (.cells #[.int .i64 c] 3)) = W0 at *
  have c0 := b0.val 0 rfl
  have c1 := b1.val 0 rfl
  have f1 := b1.frozen 0
  have c2 := b2.val 0 rfl
  have hW0 := hW.grew hB0
  refine wpIn_rangeFunc_ownF rfl (by omega) (gf := 38) (lb := #[.pointer (some ⟨w.heap.size + 1 + 1, 0, none⟩)]) rfl trivial (enters_of Tryd.func38 (by kernel_rfl) rfl)
    (cells_stops 8 (by omega) (w.heap.size + 1 + 1) w.heap.size c W0 hW0 (by omega) c2) belowK_t (belowK_b (by omega)) (Below.refl _ _) (fun _ => rfl)
    (fun pre W => (Hid (∀ y ∈ pre, inB c at_ y = false) ∧ W.cell? ⟨w.heap.size, 0, none⟩ = some (.int .i64 at_) ∧ W.cell? ⟨w.heap.size + 1, 0, none⟩ = some (.int .i64 0) ∧ W.frozen? ⟨w.heap.size + 1, 0, none⟩ = false) ∧ Below w.heap.size w W)
    (fun cc pre W => (cc = .ret ∧ (∃ q i, Hid (pre = q ++ [i]) ∧ Hid (∀ y ∈ q, inB c at_ y = false) ∧ Hid (inB c at_ i = true) ∧ W.cell? ⟨w.heap.size + 1, 0, none⟩ = some (.int .i64 (((i : Nat) : Int) * widI c)))) ∧ Below w.heap.size w W)
    (OwnFrom.and (Own.from (fun s A B row hs hg hr => ⟨hs.1, cell_kept hs.2.1 hg hr, cell_kept hs.2.2.1 hg hr, (frozen_kept hs.2.2.1 hg hr).trans hs.2.2.2⟩) _) (ownFrom_below (Nat.le_refl _) (by omega)))
    (fun cc => OwnFrom.and (Own.from (fun s A B row hs hg hr => by obtain ⟨h1, q, i, h2, h3, h4, h5⟩ := hs; exact ⟨h1, q, i, h2, h3, h4, cell_kept h5 hg hr⟩) _) (ownFrom_below (Nat.le_refl _) (by omega)))
    ⟨⟨by unfold Hid; simp, c0, c1, f1⟩, hB0⟩
    (fun i => { tmps := #[.int .i64 c, .int .i64 at_, undef, .pointer (some ⟨w.heap.size, 0, none⟩), .pointer (some ⟨w.heap.size + 1, 0, none⟩), .int .i64 (((i : Nat) : Int) * widI c), .int .i64 (((i : Nat) : Int) * widI c + widI c), .int .i64 c,
      .func (.func 38) #[] #[.pointer (some ⟨w.heap.size + 1 + 1, 0, none⟩)], .int .i64 (((i : Nat) : Int) * widI c), .int .i64 (((i : Nat) : Int) * widI c + widI c), undef, undef, undef, undef, undef, undef, undef, undef, undef], defers := [] }) ?assign ?body ?done ?stop
  case assign =>
    intro l i W K hK
    gi_wp2
    exact hK
  case body =>
    rintro l pre i W ⟨⟨hp, hca, hcr, hfr⟩, hB⟩ _
    cases hin : inB c at_ i with
    | true =>
      obtain ⟨h1, h2⟩ : ((i : Nat) : Int) * widI c ≤ at_ ∧ at_ < ((i : Nat) : Int) * widI c + widI c := by simpa [inB] using hin
      have HI := Lib.hid hin
      clear hin
      generalize hE : ((i : Nat) : Int) * widI c = E at *
      have HE := Lib.hid hE
      clear hE
      gi_wp2
      exact ⟨KeepsOthers.setCell _ _ _, ⟨rfl, pre, i, rfl, hp, HI, by rw [HE.out]; exact World.cell?_setCell_same' _ _ _ (by rw [hcr]; rfl)⟩, hB.setCell (p := ⟨w.heap.size + 1, 0, none⟩) (by simp) _⟩
    | false =>
      have hno : ¬ (((i : Nat) : Int) * widI c ≤ at_ ∧ at_ < ((i : Nat) : Int) * widI c + widI c) := by simpa [inB] using hin
      have hp2 : Hid (∀ y ∈ pre ++ [i], inB c at_ y = false) := by
        unfold Hid
        intro y hy
        rcases List.mem_append.1 hy with h | h
        · exact hp.out y h
        · rw [List.mem_singleton.1 h]; exact hin
      clear hin hp
      generalize ((i : Nat) : Int) * widI c = E at *
      by_cases h1 : E ≤ at_
      · have h2 : ¬ at_ < E + widI c := fun h => hno ⟨h1, h⟩
        clear hno
        gi_wp2
        exact ⟨KeepsOthers.refl _, Below.refl _ _, ⟨hp2, hca, hcr, hfr⟩, hB⟩
      · clear hno
        gi_wp2
        exact ⟨KeepsOthers.refl _, Below.refl _ _, ⟨hp2, hca, hcr, hfr⟩, hB⟩
  case done =>
    rintro D ys W hD hys ⟨⟨hp, _, hcr, hfr⟩, hB⟩ hK
    have hs : cellI c at_ = -1 := hM.out (by rw [← hys]; exact hp.out)
    gi_wp2
    have hK' := (KeepsOthers.setCell W ⟨w.heap.size + 1, 0, none⟩ (.int .i64 (-1))).same D _ hK rfl
    refine ⟨by simp, .inl ⟨_, _, rfl, run_takeDeferred hK', ?_⟩⟩
    have hc5 := cell_kept (World.cell?_setCell_same' W ⟨w.heap.size + 1, 0, none⟩ (.int .i64 (-1)) (by rw [hcr]; rfl)) (grownBy_putObj' _ D (.deferred none)) (fun r e => by cases e; exact ⟨_, hK', rfl⟩)
    refine ⟨.int .i64 (-1), ?_, by rw [hs], (hB.setCell (p := ⟨w.heap.size + 1, 0, none⟩) (by simp) _).trans (belowK_b (w := w) (Nat.le_refl _) _ D _ _ (by omega) hK' rfl rfl)⟩
    simp [results, Tryd.f11, go_sem, hc5]
  case stop =>
    rintro D cc pre W hD hpre ⟨⟨rfl, q, i, h1, h2, h3, hcr⟩, hB⟩ hK
    have hs : cellI c at_ = ((i : Nat) : Int) * widI c := hH.out q i (by rw [← h1.out]; exact hpre) h2.out h3.out
    gi_wp2
    refine ⟨by simp, .inl ⟨_, _, rfl, run_takeDeferred hK, ?_⟩⟩
    have hc5 := cell_kept hcr (grownBy_putObj' _ D (.deferred none)) (fun r e => by cases e; exact ⟨_, hK, rfl⟩)
    refine ⟨.int .i64 (((i : Nat) : Int) * widI c), ?_, by rw [hs], hB.trans (belowK_b (w := w) (Nat.le_refl _) W D _ _ (by omega) hK rfl rfl)⟩
    simp [results, Tryd.f11, go_sem, hc5]
end Go.Proofs.YtcjkachlahjbiaaDoor
