/- mask.Fit at every list: the first room between the rows. Conditions: the list is short, the table of math/bits lies as the start lays it. -/
import Derived.Test.YtbpgnhakphpobaaDoorMrun
namespace Go.Proofs.YtbpgnhakphpobaaDoor
open Go.RowKit Go.Shelf
set_option linter.unusedVariables false
attribute [local go_sem] Oper.semAt_some

def fitI (n e : Int) : Int → List (Int × Int) → Int
  | bh, [] => if e - bh ≥ n then bh else -1
  | bh, (b, k) :: rs => if b - bh ≥ n then bh else fitI n e (b + k) rs
def fitV (l : List Int) (n : Int) : Int := if n < 1 then 0 else fitI n (64 * (l.length : Int)) 0 (runsI 0 0 (plL l))
def FitI (n0 : Nat) (n e : Int) (pre : List Pr) : (Nat → Prop) → World → Prop := fun Y W =>
  ∃ bh, (∀ rest, fitI n e 0 (prs pre ++ rest) = fitI n e bh rest) ∧ 0 ≤ bh ∧ bh ≤ 131072 ∧ (∀ k, Y k ↔ (k = n0 ∨ k = n0 + 1 ∨ k = n0 + 2)) ∧ Boxed W n0 3 (.int .i64 n) ∧ Boxed W (n0 + 1) 3 (.int .i64 0) ∧ Boxed W (n0 + 2) 3 (.int .i64 bh)
def FitX (n0 : Nat) (n e : Int) (c : Code) (pre : List Pr) : (Nat → Prop) → World → Prop := fun Y W =>
  c = .ret ∧ ∃ bh, (∀ rest, fitI n e 0 (prs pre ++ rest) = bh) ∧ (∀ k, Y k ↔ (k = n0 ∨ k = n0 + 1 ∨ k = n0 + 2)) ∧ Boxed W (n0 + 1) 3 (.int .i64 bh)
theorem fitI_foot (n0 : Nat) (n e : Int) : Foot (FitI n0 n e) := by
  rintro pre Y A B ⟨bh, h1, h2, h3, h4, h5, h6, h7⟩ hl hk
  exact ⟨bh, h1, h2, h3, h4, Blk.keep h5 hk ((h4 _).2 (.inl rfl)), Blk.keep h6 hk ((h4 _).2 (.inr (.inl rfl))), Blk.keep h7 hk ((h4 _).2 (.inr (.inr rfl)))⟩
theorem fitX_foot (n0 : Nat) (n e : Int) (c : Code) : Foot (FitX n0 n e c) := by
  rintro pre Y A B ⟨h0, bh, h1, h4, h6⟩ hl hk
  exact ⟨h0, bh, h1, h4, Blk.keep h6 hk ((h4 _).2 (.inr (.inl rfl)))⟩
theorem Went.store {Y : Nat → Prop} {W : World} {p : Addr} (v : Value) (hp : Y p.block) (hl : ∀ k, Y k → k < W.heap.size) : Went Y W Y (W.setCell p v) :=
  ⟨Touch.setCell (Touch.refl _ _) hp _, fun k hk => .inl hk, fun k hk => by rw [World.size_setCell]; exact hl k hk⟩

set_option maxHeartbeats 400000 in
theorem fit_small (v : Value) (n : Int) (w : World) (h : n < 1) :
    Calls Tryd.prog 12 #[v, .int .i64 n] w fun e w' => e = .returned (.int .i64 0) ∧ Below w.heap.size w w' := by
  go_enter Tryd.func12, Tryd.ntmps12
  go_wp2
  have b1 : Boxed ((w.alloc (.cells #[.int .i64 n] 3)).alloc (.cells #[.int .i64 0] 3)) (w.heap.size + 1) 3 (.int .i64 0) := Blk.new' (by simp)
  have hc := Boxed.cell b1
  refine bodyPost_ret (v := .int .i64 0) ?_ rfl ⟨rfl, ((Below.refl _ w).alloc (Nat.le_refl _) _).alloc (by simp) _⟩
  simp [results, Tryd.f12, go_sem, hc]
set_option maxRecDepth 100000 in
set_option maxHeartbeats 4000000 in
theorem fit_big (v : Value) (l : List Int) (n : Int) (w : World) (h : Lst .u64 w v l) (hl : l.length ≤ 1024) (hU : ∀ z ∈ l, U64 z) (hT : Tab w) (hn : 1 ≤ n) (hn2 : n < 9223372036854775808) :
    Calls Tryd.prog 12 #[v, .int .i64 n] w fun e w' => e = .returned (.int .i64 (fitI n (64 * (l.length : Int)) 0 (runsI 0 0 (plL l)))) ∧ Below w.heap.size w w' := by
  have hn' : ¬ n < 1 := by omega
  obtain ⟨la, lc, rfl, _⟩ := lst_len h
  have RU := Lib.hid (fun W (hb : Below w.heap.size w W) => runs_any _ l W (h.below hb) (by omega))
  have EN := Lib.hid (fun W => end_any la l.length lc W (by omega))
  have HT := Lib.hid (fun W (hb : Below w.heap.size w W) => hT.grew hb)
  clear h hT
  refine (callsIn_wide (n := 9)).1 ?_
  refine callsIn_of_wp_marks Tryd.func12 rfl trivial ?_ rfl
  simp only [Tryd.ntmps12, List.size_toArray, List.length_cons, List.length_nil, Nat.reduceAdd, Nat.reduceSub, Array.replicate_succ, Array.replicate_zero, List.push_toArray, List.append_toArray, List.nil_append, List.cons_append]
  gi_wp2_with fail
  refine ⟨trivial, ?_⟩
  have b0 : Boxed (((w.alloc (.cells #[.int .i64 n] 3)).alloc (.cells #[.int .i64 0] 3)).alloc (.cells #[.int .i64 0] 3)) w.heap.size 3 (.int .i64 n) := ((Blk.new _ _ _).alloc _).alloc _
  have b1 : Boxed (((w.alloc (.cells #[.int .i64 n] 3)).alloc (.cells #[.int .i64 0] 3)).alloc (.cells #[.int .i64 0] 3)) (w.heap.size + 1) 3 (.int .i64 0) := (Blk.new' (by simp)).alloc _
  have b2 : Boxed (((w.alloc (.cells #[.int .i64 n] 3)).alloc (.cells #[.int .i64 0] 3)).alloc (.cells #[.int .i64 0] 3)) (w.heap.size + 2) 3 (.int .i64 0) := Blk.new' (by simp)
  have hB0 : Below w.heap.size w (((w.alloc (.cells #[.int .i64 n] 3)).alloc (.cells #[.int .i64 0] 3)).alloc (.cells #[.int .i64 0] 3)) := (((Below.refl _ w).alloc (Nat.le_refl _) _).alloc (by simp) _).alloc (by simp; omega) _
  have hs0 : (((w.alloc (.cells #[.int .i64 n] 3)).alloc (.cells #[.int .i64 0] 3)).alloc (.cells #[.int .i64 0] 3)).heap.size = w.heap.size + 3 := by simp
  generalize (((w.alloc (.cells #[.int .i64 n] 3)).alloc (.cells #[.int .i64 0] 3)).alloc (.cells #[.int .i64 0] 3)) = W0 at *
  refine (callsIn_wide.2 (RU.out _ hB0)).mono ?_
  rintro e W1 ⟨c, b, a, cap, g, rfl, hcx, hbx, hb, hg, hrow, hB1⟩
  have bB : Below w.heap.size w W1 := hB0.trans (hB1.mono (by omega))
  have hT1 := HT.out W1 bB
  have hS := Lib.hid (runs_x c b g cap a l W1 hl hU hT1 hcx hbx hrow)
  have d0 : Boxed W1 w.heap.size 3 (.int .i64 n) := Blk.grew b0 hB1
  have d1 : Boxed W1 (w.heap.size + 1) 3 (.int .i64 0) := Blk.grew b1 hB1
  have d2 : Boxed W1 (w.heap.size + 2) 3 (.int .i64 0) := Blk.grew b2 hB1
  have hs1 : w.heap.size + 3 ≤ W1.heap.size := by have := hB1.size; omega
  have hlE : ∀ k, (k = w.heap.size ∨ k = w.heap.size + 1 ∨ k = w.heap.size + 2) → k < W1.heap.size := fun k hk => by omega
  have htl : 0 < w.heap.size := (HT.out w (Below.refl _ _)).lt
  have hZ0 : ∀ k, (k = 0 ∨ (0 < l.length ∧ k = g)) → ¬ (k = w.heap.size ∨ k = w.heap.size + 1 ∨ k = w.heap.size + 2) := fun k hk e => by
    rcases hk with h | ⟨_, h⟩ <;> omega
  have hZ1 : ∀ k, (k = 0 ∨ (0 < l.length ∧ k = g)) → k < W1.heap.size := fun k hk => by
    rcases hk with h | ⟨h0, h⟩
    · omega
    · have := (hrow h0).2.1; omega
  have hI0 : FitI w.heap.size n (64 * (l.length : Int)) [] (fun k => k = w.heap.size ∨ k = w.heap.size + 1 ∨ k = w.heap.size + 2) W1 := ⟨0, fun rest => rfl, by omega, by omega, fun k => Iff.rfl, d0, d1, d2⟩
  have P := Lib.hid (And.intro hlE (And.intro hZ0 (And.intro hZ1 hI0)))
  clear b0 b1 b2 hB0 hs0 hcx hbx hrow hB1 hT1 d0 d1 d2 hlE hZ0 hZ1 hI0 RU
  gi_wp2_with fail
  refine range_X (gf := 17) (lb := #[.pointer (some ⟨c, 0, none⟩)]) rfl (enters_of Tryd.func17 (by kernel_rfl) rfl) hS.out (Below.refl _ _) (fun _ => rfl) _ _ _ P.out.1 P.out.2.1 P.out.2.2.1 (fitI_foot w.heap.size n (64 * (l.length : Int))) (fun c => fitX_foot w.heap.size n (64 * (l.length : Int)) c) P.out.2.2.2
    (fun x => { tmps := #[.slice la l.length lc, .int .i64 n, undef, .pointer (some ⟨w.heap.size, 0, none⟩), .pointer (some ⟨w.heap.size + 1, 0, none⟩), .pointer (some ⟨w.heap.size + 1 + 1, 0, none⟩), .int .i64 ((x.1.val : Nat) : Int), .int .i64 ((x.2.val : Nat) : Int), .int .i64 n, .bool false, .slice la l.length lc, .func (.func 17) #[] #[.pointer (some ⟨c, 0, none⟩)], .int .i64 ((x.1.val : Nat) : Int), .int .i64 ((x.2.val : Nat) : Int), undef, undef, undef, undef, undef, undef, undef, undef, undef, undef, undef, undef, undef, undef, undef, undef], defers := [] }) ?assign ?body ?done ?stop
  case assign =>
    intro l' x W' K hK
    gi_wp2
    exact hK
  case body =>
    rintro l' q x Yc Wc ⟨bh, hq, r0, r1, hYe, hb0, hb1, hb2⟩ hlt _ _
    have c0 := Boxed.cell hb0
    have c1 := Boxed.cell hb1
    have c2 := Boxed.cell hb2
    have f1 := Boxed.frozen hb1
    have f2 := Boxed.frozen hb2
    have hx0 : (0 : Int) ≤ ((x.1.val : Nat) : Int) := by omega
    have hx1 : ((x.1.val : Nat) : Int) < 65536 := by have := x.1.isLt; omega
    have hy0 : (0 : Int) ≤ ((x.2.val : Nat) : Int) := by omega
    have hy1 : ((x.2.val : Nat) : Int) < 65537 := by have := x.2.isLt; omega
    have hstep : ∀ rest, fitI n (64 * (l.length : Int)) 0 (prs (q ++ [x]) ++ rest) = if ((x.1.val : Nat) : Int) - bh ≥ n then bh else fitI n (64 * (l.length : Int)) (((x.1.val : Nat) : Int) + ((x.2.val : Nat) : Int)) rest := fun rest => by
      rw [prs_snoc, List.append_assoc, hq]
      rfl
    by_cases ht : n ≤ ((x.1.val : Nat) : Int) - bh
    · have G : ∃ Y', Went Yc Wc Y' (Wc.setCell ⟨w.heap.size + 1, 0, none⟩ (.int .i64 bh)) ∧ FitX w.heap.size n (64 * (l.length : Int)) .ret (q ++ [x]) Y' (Wc.setCell ⟨w.heap.size + 1, 0, none⟩ (.int .i64 bh)) :=
        ⟨Yc, Went.store _ ((hYe _).2 (.inr (.inl rfl))) hlt, rfl, bh, fun rest => by rw [hstep, if_pos ht], hYe, hb1.set (.int .i64 bh)⟩
      have HG := Lib.hid G
      clear G hstep hq hYe hb0 hb1 hb2 hlt
      generalize ((x.1.val : Nat) : Int) = p at *
      generalize ((x.2.val : Nat) : Int) = p2 at *
      gi_wp2
      exact HG.out
    · have G : ∃ Y', Went Yc Wc Y' (Wc.setCell ⟨w.heap.size + 1 + 1, 0, none⟩ (.int .i64 (((x.1.val : Nat) : Int) + ((x.2.val : Nat) : Int)))) ∧ FitI w.heap.size n (64 * (l.length : Int)) (q ++ [x]) Y' (Wc.setCell ⟨w.heap.size + 1 + 1, 0, none⟩ (.int .i64 (((x.1.val : Nat) : Int) + ((x.2.val : Nat) : Int)))) :=
        ⟨Yc, Went.store _ ((hYe _).2 (.inr (.inr rfl))) hlt, ((x.1.val : Nat) : Int) + ((x.2.val : Nat) : Int), fun rest => by rw [hstep, if_neg ht], by omega, by omega, hYe, hb0.other (by omega) _, hb1.other (by omega) _, hb2.set _⟩
      have HG := Lib.hid G
      clear G hstep hq hYe hb0 hb1 hb2 hlt
      generalize ((x.1.val : Nat) : Int) = p at *
      generalize ((x.2.val : Nat) : Int) = p2 at *
      gi_wp2
      exact HG.out
  case done =>
    rintro D q Yc Wc hD hYD hq ⟨bh, hqr, r0, r1, hYe, hb0, hb1, hb2⟩ hWe hDk
    have hv : fitI n (64 * (l.length : Int)) 0 (runsI 0 0 (plL l)) = if 64 * (l.length : Int) - bh ≥ n then bh else -1 := by
      have := hqr []
      rw [List.append_nil, hq] at this
      rw [this]; rfl
    have c0 := Boxed.cell hb0
    have c2 := Boxed.cell hb2
    have c1 := Boxed.cell hb1
    have f1 := Boxed.frozen hb1
    have bW : Below w.heap.size w Wc := bB.trans (hWe.touch.below (B := w.heap.size) (by omega) (fun k hk => by omega))
    have H := Lib.hid (And.intro hv (And.intro bW (And.intro hDk (And.intro hb0 (And.intro hb1 hb2)))))
    have hl0 : (l.length : Int) ≤ 1024 := by omega
    have hwr : IntKind.i64.wrap (64 * (l.length : Int) - bh) = 64 * (l.length : Int) - bh := by rw [IntKind.wrap_i64]; omega
    have hmx : Tryd.prog.follows .mixedOrders = true := by kernel_rfl
    clear hv bW hDk hb0 hb1 hb2 hqr hq hWe hYe bB
    gi_wp2_with fail
    refine Code.wpIn_mono NoPanic.imp ?_
    gi_region_with_o (refine ⟨trivial, ?_⟩; gi_at_call 21; refine (callsIn_wide.2 (EN.out _)).mono ?_; rintro e w' ⟨rfl, hq⟩; have k0 := (hq.cell ⟨w.heap.size, 0, none⟩).trans c0; have k2 := (hq.cell ⟨w.heap.size + 1 + 1, 0, none⟩).trans c2)
    all_goals refine NoPanic.normal ?_
    all_goals
      have hq2 : Quiet Wc w' := by first | exact hq | exact Quiet.trans ⟨1, rfl⟩ hq
      have c1' := (hq2.cell ⟨w.heap.size + 1, 0, none⟩).trans c1
      have f1' : w'.frozen? ⟨w.heap.size + 1, 0, none⟩ = false := by obtain ⟨m, rfl⟩ := hq2; exact f1
      have hD3 : w'.heap[D]? = some (.deferred (some [])) := by obtain ⟨m, rfl⟩ := hq2; exact H.out.2.2.1
      have k2 := (hq2.cell ⟨w.heap.size + 1 + 1, 0, none⟩).trans c2
      have bW := H.out.2.1.trans hq2.below
      by_cases ht : n ≤ 64 * (l.length : Int) - bh
      · have hv := H.out.1
        rw [if_pos ht] at hv
        have ht' : decide (n ≤ 64 * (l.length : Int) - bh) = true := by simp [ht]
        clear H
        gi_wp2
        have hK' := (KeepsOthers.setCell w' ⟨w.heap.size + 1, 0, none⟩ (.int .i64 bh)).same D _ hD3 rfl
        refine ⟨by simp, .inl ⟨_, _, rfl, run_takeDeferred hK', ?_⟩⟩
        have hc5 := cell_kept (World.cell?_setCell_same' w' ⟨w.heap.size + 1, 0, none⟩ (.int .i64 bh) (by rw [c1']; rfl)) (grownBy_putObj' _ D (.deferred none)) (fun r e => by cases e; exact ⟨_, hK', rfl⟩)
        refine ⟨.int .i64 bh, ?_, by first | rfl | rw [hv], (bW.setCell (p := ⟨w.heap.size + 1, 0, none⟩) (by simp) _).trans (belowK_b (w := w) (Nat.le_refl _) _ D _ _ (by omega) hK' rfl rfl)⟩
        simp [results, Tryd.f12, go_sem, hc5]
      · have hv := H.out.1
        rw [if_neg ht] at hv
        have ht' : decide (n ≤ 64 * (l.length : Int) - bh) = false := by simp [ht]
        clear H
        gi_wp2
        have hK' := (KeepsOthers.setCell w' ⟨w.heap.size + 1, 0, none⟩ (.int .i64 (-1))).same D _ hD3 rfl
        refine ⟨by simp, .inl ⟨_, _, rfl, run_takeDeferred hK', ?_⟩⟩
        have hc5 := cell_kept (World.cell?_setCell_same' w' ⟨w.heap.size + 1, 0, none⟩ (.int .i64 (-1)) (by rw [c1']; rfl)) (grownBy_putObj' _ D (.deferred none)) (fun r e => by cases e; exact ⟨_, hK', rfl⟩)
        refine ⟨.int .i64 (-1), ?_, by first | rfl | rw [hv], (bW.setCell (p := ⟨w.heap.size + 1, 0, none⟩) (by simp) _).trans (belowK_b (w := w) (Nat.le_refl _) _ D _ _ (by omega) hK' rfl rfl)⟩
        simp [results, Tryd.f12, go_sem, hc5]
  case stop =>
    rintro D c' q Yc Wc hD hYD hq ⟨rfl, bh, hqr, hYe, hb1⟩ hWe hDk
    have hv : fitI n (64 * (l.length : Int)) 0 (runsI 0 0 (plL l)) = bh := by
      obtain ⟨t, ht⟩ := hq
      rw [← ht]
      exact hqr t
    have bW : Below w.heap.size w Wc := bB.trans (hWe.touch.below (B := w.heap.size) (by omega) (fun k hk => by omega))
    gi_wp2
    refine ⟨by simp, .inl ⟨_, _, rfl, run_takeDeferred hDk, ?_⟩⟩
    have hc5 := cell_kept (Boxed.cell hb1) (grownBy_putObj' _ D (.deferred none)) (fun r e => by cases e; exact ⟨_, hDk, rfl⟩)
    refine ⟨.int .i64 bh, ?_, by rw [hv], bW.trans (belowK_b (w := w) (Nat.le_refl _) _ D _ _ (by omega) hDk rfl rfl)⟩
    simp [results, Tryd.f12, go_sem, hc5]
end Go.Proofs.YtbpgnhakphpobaaDoor
