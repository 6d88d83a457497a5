/- mask.Runs as an iterator over the iterator All: what it hands on is the rows of the places. Conditions: as for All. -/
import Derived.Test.YtbpgnhakphpobaaDoorMalx
import Derived.Laws.EntriesVeiled
namespace Go.Proofs.YtbpgnhakphpobaaDoor
open Go.RowKit Go.Shelf
set_option linter.unusedVariables false
attribute [local go_sem] Oper.semAt_some

/-- rows of numbers that stand one behind the other -/
def runsI : Int → Int → List Int → List (Int × Int)
  | b, n, [] => if 0 < n then [(b, n)] else []
  | b, n, p :: ps => if 0 < n then (if p = b + n then runsI b (n + 1) ps else (b, n) :: runsI p 1 ps) else runsI p 1 ps
abbrev Pr := Fin 65536 × Fin 65537
def prs (l : List Pr) : List (Int × Int) := l.map fun x => (((x.1.val : Nat) : Int), ((x.2.val : Nat) : Int))
theorem prs_snoc (l : List Pr) (x : Pr) : prs (l ++ [x]) = prs l ++ [(((x.1.val : Nat) : Int), ((x.2.val : Nat) : Int))] := by simp [prs]
abbrev prEnc (x : Pr) : Array Value := #[.int .i64 ((x.1.val : Nat) : Int), .int .i64 ((x.2.val : Nat) : Int)]
structure RunS (q : List (Fin 65536)) (outs : List Pr) (b n : Int) : Prop where
  eq : ∀ rest, runsI 0 0 (nums q ++ rest) = prs outs ++ runsI b n rest
  b0 : 0 ≤ b
  b1 : b < 65536
  n0 : 0 ≤ n
  n1 : n ≤ q.length
  len : outs.length + (if 0 < n then 1 else 0) ≤ q.length
theorem run_start : RunS [] [] 0 0 := ⟨fun rest => rfl, by omega, by omega, by omega, by simp, by simp⟩
theorem run_more {q : List (Fin 65536)} {outs : List Pr} {b n : Int} (h : RunS q outs b n) (x : Fin 65536) (hn : 0 < n) (hx : ((x.val : Nat) : Int) = b + n) : RunS (q ++ [x]) outs b (n + 1) :=
  ⟨fun rest => by
    rw [nums_snoc, List.append_assoc, h.eq]
    simp only [List.cons_append, List.nil_append, runsI, if_pos hn, if_pos hx], h.b0, h.b1, by have := h.n0; omega, by have := h.n1; rw [List.length_append, List.length_singleton]; omega, by have := h.len; rw [if_pos hn] at this; rw [if_pos (by omega), List.length_append, List.length_singleton]; omega⟩
theorem run_new {q : List (Fin 65536)} {outs : List Pr} {b n : Int} (h : RunS q outs b n) (x : Fin 65536) (hn : ¬ 0 < n) : RunS (q ++ [x]) outs ((x.val : Nat) : Int) 1 :=
  ⟨fun rest => by
    rw [nums_snoc, List.append_assoc, h.eq]
    simp only [List.cons_append, List.nil_append, runsI, if_neg hn], by omega, by have := x.isLt; omega, by omega, by rw [List.length_append, List.length_singleton]; omega, by have := h.len; rw [if_neg hn] at this; rw [if_pos (by omega), List.length_append, List.length_singleton]; omega⟩
theorem run_out {q : List (Fin 65536)} {outs : List Pr} {b n : Int} (h : RunS q outs b n) (hq : q.length ≤ 65536) (hn : 0 < n) : ∃ y : Pr, ((y.1.val : Nat) : Int) = b ∧ ((y.2.val : Nat) : Int) = n ∧ outs.length < q.length ∧ prs (outs ++ [y]) = prs outs ++ [(b, n)] := by
  have h1 := h.b0; have h2 := h.b1; have h3 := h.n1; have h4 := h.len
  rw [if_pos hn] at h4
  refine ⟨⟨⟨b.toNat, by omega⟩, ⟨n.toNat, by omega⟩⟩, by simp; omega, by simp; omega, by omega, ?_⟩
  rw [prs_snoc]
  simp only [Int.toNat_of_nonneg h1, Int.toNat_of_nonneg (show 0 ≤ n by omega)]
theorem run_next {q : List (Fin 65536)} {outs : List Pr} {b n : Int} (h : RunS q outs b n) (x : Fin 65536) (y : Pr) (hy : prs (outs ++ [y]) = prs outs ++ [(b, n)]) (hn : 0 < n) (hx : ¬ ((x.val : Nat) : Int) = b + n) : RunS (q ++ [x]) (outs ++ [y]) ((x.val : Nat) : Int) 1 :=
  ⟨fun rest => by
    rw [nums_snoc, List.append_assoc, h.eq, hy]
    simp only [List.cons_append, List.nil_append, runsI, if_pos hn, if_neg hx, List.append_assoc], by omega, by have := x.isLt; omega, by omega, by rw [List.length_append, List.length_singleton]; omega, by have := h.len; rw [if_pos hn] at this; rw [if_pos (by omega), List.length_append, List.length_singleton, List.length_append, List.length_singleton]; omega⟩
theorem plR_len (l : List Int) : ∀ m, (plR l m).length ≤ 64 * m
  | 0 => by simp [plR]
  | m + 1 => by
    have := plR_len l m
    have h2 := plcs_len_le (l.getD m 0).toNat 64
    rw [plR_succ, List.length_append, List.length_map]; omega

set_option maxHeartbeats 400000 in
theorem runs_any (v : Value) (l : List Int) (w : World) (h : Lst .u64 w v l) (hl : l.length ≤ 4096) :
    Calls Tryd.prog 6 #[v] w fun e w' => ∃ c b a cap g, e = .returned (.func (.func 17) #[] #[.pointer (some ⟨c, 0, none⟩)]) ∧ Boxed w' c 27 (.func (.func 15) #[] #[.pointer (some ⟨b, 0, none⟩)]) ∧ Boxed w' b 22 (.slice a l.length cap) ∧ w.heap.size ≤ b ∧ w.heap.size ≤ g ∧
      (0 < l.length → a = some ⟨g, 0, none⟩ ∧ g < w'.heap.size ∧ ∀ i, i < l.length → w'.cell? ⟨g, i, none⟩ = some (.int .u64 (l.getD i 0))) ∧ Below w.heap.size w w' := by
  have C := Lib.hid (all_any v l w h hl)
  clear h
  go_enter Tryd.func6, Tryd.ntmps6
  go_wp2_with fail
  refine C.out.mono ?_
  rintro e w1 ⟨b, a, cap, g, rfl, hbx, hb, hg, hrow, hB⟩
  clear C
  go_wp2
  go_ret
  exact ⟨w1.heap.size, b, a, cap, g, rfl, Blk.new _ _ _, Blk.alloc hbx _, hb, hg, fun h => ⟨(hrow h).1, by have := (hrow h).2.1; simp; omega, fun i hi => by have hc := (hrow h).2.2 i hi; rw [World.cell?_alloc_lt _ _ _ (World.block_lt_of_cell? w1 _ hc)]; exact hc⟩, hB.alloc hB.size _⟩

/-- the variables of the rows' iterator, as they lie -/
def RunI (n0 lp : Nat) (J : List Pr → (Nat → Prop) → World → Prop) (q : List (Fin 65536)) : (Nat → Prop) → World → Prop := fun Y W =>
  ∃ outs b n, RunS q outs b n ∧ Wth (fun k => k = n0 ∨ k = n0 + 1 ∨ k = n0 + 2) (fun (_ : Unit) Y W => J outs Y W) (fun W => Boxed W n0 45 (.func (.yield lp) #[] #[]) ∧ Boxed W (n0 + 1) 3 (.int .i64 b) ∧ Boxed W (n0 + 2) 3 (.int .i64 n)) () Y W
def RunX (n0 : Nat) (Jx : List Pr → (Nat → Prop) → World → Prop) (c : Code) (q : List (Fin 65536)) : (Nat → Prop) → World → Prop := fun Y W =>
  c = .ret ∧ ∃ outs, (∀ rest, prs outs <+: runsI 0 0 (nums q ++ rest)) ∧ Wth (fun k => k = n0 ∨ k = n0 + 1 ∨ k = n0 + 2) (fun (_ : Unit) Y W => Jx outs Y W) (fun W => True) () Y W
theorem runI_foot (n0 lp : Nat) {J : List Pr → (Nat → Prop) → World → Prop} (hJ : Foot J) : Foot (RunI n0 lp J) := by
  rintro q Y A B ⟨outs, b, n, h1, h2⟩ hl hk
  exact ⟨outs, b, n, h1, foot_with (fun s X A B h hl hk => hJ _ X A B h hl hk) (fun A B h hl hk => ⟨Blk.keep h.1 hk (.inl rfl), Blk.keep h.2.1 hk (.inr (.inl rfl)), Blk.keep h.2.2 hk (.inr (.inr rfl))⟩) () Y A B h2 hl hk⟩
theorem runX_foot (n0 : Nat) {Jx : List Pr → (Nat → Prop) → World → Prop} (hJ : Foot Jx) (c : Code) : Foot (RunX n0 Jx c) := by
  rintro q Y A B ⟨h0, outs, h1, h2⟩ hl hk
  exact ⟨h0, outs, h1, foot_with (fun s X A B h hl hk => hJ _ X A B h hl hk) (fun A B h hl hk => trivial) () Y A B h2 hl hk⟩

set_option maxRecDepth 100000 in
set_option maxHeartbeats 4000000 in
theorem runs_x (c b g cap : Nat) (a : Option Addr) (l : List Int) (w : World) (hl : l.length ≤ 1024) (hU : ∀ z ∈ l, U64 z) (hT : Tab w) (hcx : Boxed w c 27 (.func (.func 15) #[] #[.pointer (some ⟨b, 0, none⟩)])) (hbx : Boxed w b 22 (.slice a l.length cap))
    (hrow : 0 < l.length → a = some ⟨g, 0, none⟩ ∧ g < w.heap.size ∧ ∀ i, i < l.length → w.cell? ⟨g, i, none⟩ = some (.int .u64 (l.getD i 0))) :
    SeqX Tryd.prog 17 #[.pointer (some ⟨c, 0, none⟩)] prEnc (fun k => k = 0 ∨ (0 < l.length ∧ k = g)) (fun xs => prs xs = runsI 0 0 (plL l)) (fun pre => prs pre <+: runsI 0 0 (plL l)) ((plL l).length + 1) w :=
  fun lp J Jx X W hW hXl hZ hJ hJx hY h0 => by
  have A0 := (all_x b g cap a l w hl hU hT hbx hrow).later hW
  have hcx1 : Boxed W c _ _ := Blk.grew hcx hW
  have hcc := Boxed.cell hcx1
  have hclt := Blk.lt hcx1
  have hT1 : Tab W := hT.grew hW
  have hZl : ∀ k, (k = 0 ∨ (0 < l.length ∧ k = g)) → k < W.heap.size := fun k hk => by
    rcases hk with e | ⟨h, e⟩
    · have := hT1.lt; omega
    · have := (hrow h).2.1; have := hW.size; omega
  refine callsIn_of_wp_marks Tryd.func17 rfl trivial ?_ rfl
  simp only [Tryd.ntmps17, List.size_toArray, List.length_cons, List.length_nil, Nat.reduceAdd, Nat.reduceSub, Array.replicate_succ, Array.replicate_zero, List.push_toArray, List.append_toArray, List.nil_append, List.cons_append]
  have hcA : (((W.alloc (.cells #[.func (.yield lp) #[] #[]] 45)).alloc (.cells #[.int .i64 0] 3)).alloc (.cells #[.int .i64 0] 3)).cell? ⟨c, 0, none⟩ = some (.func (.func 15) #[] #[.pointer (some ⟨b, 0, none⟩)]) := by
    rw [World.cell?_alloc_lt _ _ _ (by simp; omega), World.cell?_alloc_lt _ _ _ (by simp; omega), World.cell?_alloc_lt _ _ _ (by simp; omega)]; exact hcc
  have HZ := Lib.hid (And.intro hZ hZl)
  have HY := Lib.hid hY
  have HA := Lib.hid A0
  have HJ := Lib.hid (And.intro hJ hJx)
  clear hrow hZ hY hbx A0 hcx hcx1 hZl hT hT1 hJ hJx
  gi_wp2_with fail
  have b0 : Boxed (((W.alloc (.cells #[.func (.yield lp) #[] #[]] 45)).alloc (.cells #[.int .i64 0] 3)).alloc (.cells #[.int .i64 0] 3)) W.heap.size 45 (.func (.yield lp) #[] #[]) := ((Blk.new _ _ _).alloc _).alloc _
  have b1 : Boxed (((W.alloc (.cells #[.func (.yield lp) #[] #[]] 45)).alloc (.cells #[.int .i64 0] 3)).alloc (.cells #[.int .i64 0] 3)) (W.heap.size + 1) 3 (.int .i64 0) := (Blk.new' (by simp)).alloc _
  have b2 : Boxed (((W.alloc (.cells #[.func (.yield lp) #[] #[]] 45)).alloc (.cells #[.int .i64 0] 3)).alloc (.cells #[.int .i64 0] 3)) (W.heap.size + 2) 3 (.int .i64 0) := Blk.new' (by simp)
  have t0 : Touch (fun _ => False) W (((W.alloc (.cells #[.func (.yield lp) #[] #[]] 45)).alloc (.cells #[.int .i64 0] 3)).alloc (.cells #[.int .i64 0] 3)) := (((Touch.refl _ _).alloc _).alloc _).alloc _
  have hs0 : (((W.alloc (.cells #[.func (.yield lp) #[] #[]] 45)).alloc (.cells #[.int .i64 0] 3)).alloc (.cells #[.int .i64 0] 3)).heap.size = W.heap.size + 3 := by simp
  clear hcA hcc
  generalize (((W.alloc (.cells #[.func (.yield lp) #[] #[]] 45)).alloc (.cells #[.int .i64 0] 3)).alloc (.cells #[.int .i64 0] 3)) = W0 at *
  have hBW : Below W.heap.size W W0 := ⟨t0.os, t0.tape, t0.output, t0.size, fun k hk => t0.block k hk (fun e => e)⟩
  have hNl : (plL l).length ≤ 65536 := by have := plR_len l l.length; unfold plL; omega
  have hNl' := Lib.hid hNl
  have hX0 : ∀ k, (X k ∨ k = W.heap.size ∨ k = W.heap.size + 1 ∨ k = W.heap.size + 2) → k < W0.heap.size := fun k hk => by
    rcases hk with e | e | e | e
    · have := hXl k e; omega
    · omega
    · omega
    · omega
  have hZ0 : ∀ k, (k = 0 ∨ (0 < l.length ∧ k = g)) → ¬ (X k ∨ k = W.heap.size ∨ k = W.heap.size + 1 ∨ k = W.heap.size + 2) := fun k hk e => by
    have h1 := HZ.out.1 k hk
    have h2 := HZ.out.2 k hk
    rcases e with e | e | e | e
    · exact h1 e
    · omega
    · omega
    · omega
  have hZ1 : ∀ k, (k = 0 ∨ (0 < l.length ∧ k = g)) → k < W0.heap.size := fun k hk => by have := HZ.out.2 k hk; omega
  have hI0 : RunI W.heap.size lp J [] (fun k => X k ∨ k = W.heap.size ∨ k = W.heap.size + 1 ∨ k = W.heap.size + 2) W0 :=
    ⟨[], 0, 0, run_start, X, fun k => Iff.rfl, fun k hk e => by have := hXl k e; omega, HJ.out.1 _ _ _ _ h0 hXl (Keep.of_touch t0 (fun _ _ e => e)), b0, b1, b2⟩
  have P := Lib.hid (And.intro hX0 (And.intro hZ0 (And.intro hZ1 hI0)))
  have hend : ∀ (D : Nat) (Yc Yj : Nat → Prop) (Wc : World), W0.heap.size ≤ D → ¬ Yc D → Went (fun k => X k ∨ k = W.heap.size ∨ k = W.heap.size + 1 ∨ k = W.heap.size + 2) W0 Yc Wc → (∀ k, Yj k → Yc k) → Wc.heap[D]? = some (.deferred (some [])) →
      Went X W Yj Wc ∧ [D].Nodup ∧ ∀ D' ∈ [D], Wc.heap[D']? = some (.deferred (some [])) ∧ W.heap.size ≤ D' ∧ ¬ Yj D' := fun D Yc Yj Wc hD hYD hWe hYj hDk =>
    ⟨(Went.refl hXl).join t0 hWe (fun k hk => by rcases hk with e | e | e | e; exact .inl e; exact .inr (by omega); exact .inr (by omega); exact .inr (by omega)) hYj, by simp, fun D' h => by
      rw [List.mem_singleton.1 h]
      exact ⟨hDk, by omega, fun e => hYD (hYj _ e)⟩⟩
  have HE := Lib.hid hend
  clear hX0 hZ0 hZ1 hI0 hend b0 b1 b2 h0 hNl
  refine range_X (gf := 15) (lb := #[.pointer (some ⟨b, 0, none⟩)]) rfl (enters_of Tryd.func15 (by kernel_rfl) rfl) HA.out hBW (fun _ => rfl) _ _ _ P.out.1 P.out.2.1 P.out.2.2.1 (runI_foot W.heap.size lp HJ.out.1) (fun c => runX_foot W.heap.size HJ.out.2 c) P.out.2.2.2
    (fun x => { tmps := #[.func (.yield lp) #[] #[], .pointer (some ⟨c, 0, none⟩), .pointer (some ⟨W.heap.size, 0, none⟩), .pointer (some ⟨W.heap.size + 1, 0, none⟩), .pointer (some ⟨W.heap.size + 1 + 1, 0, none⟩), .int .i64 ((x.val : Nat) : Int), .func (.func 15) #[] #[.pointer (some ⟨b, 0, none⟩)], .int .i64 ((x.val : Nat) : Int), undef, undef, undef, undef, undef, undef, undef, undef, undef, undef, undef, undef, undef, undef, undef, undef, undef, undef, undef, undef, undef, undef, undef, undef, undef, undef, undef], defers := [] }) ?assign ?body ?done ?stop
  case assign =>
    intro l' x W' K hK
    gi_wp2
    exact hK
  case body =>
    rintro l' q x Yc Wc ⟨outs, rb, n, hR, Yj, h1, h2, hj, hb0, hb1, hb2⟩ hlt _ hqlen
    have hql : q.length ≤ 65536 := by have := hNl'.out; omega
    have hE : ∀ k, (k = W.heap.size ∨ k = W.heap.size + 1 ∨ k = W.heap.size + 2) → k < Wc.heap.size := fun k hk => hlt k ((h1 k).2 (.inr hk))
    have hltj : ∀ k, Yj k → k < Wc.heap.size := fun k hk => hlt k ((h1 k).2 (.inl hk))
    have r1 := hR.b0; have r2 := hR.b1; have r3 := hR.n0; have r4 := hR.n1
    have r5 : n ≤ 65536 := by omega
    have c0 := Boxed.cell hb0
    have c1 := Boxed.cell hb1
    have c2 := Boxed.cell hb2
    have f1 := Boxed.frozen hb1
    have f2 := Boxed.frozen hb2
    have hx0 : (0 : Int) ≤ ((x.val : Nat) : Int) := by omega
    have hset : ∀ (outs' : List Pr) (b' n' : Int) (Y3 : Nat → Prop) (W3 : World), Went Yj Wc Y3 W3 → J outs' Y3 W3 → RunS (q ++ [x]) outs' b' n' → ∀ W4 : World, Touch (fun k => k = W.heap.size + 1 ∨ k = W.heap.size + 2) W3 W4 → Boxed W4 (W.heap.size + 1) 3 (.int .i64 b') → Boxed W4 (W.heap.size + 2) 3 (.int .i64 n') → ∃ Y', Went Yc Wc Y' W4 ∧ RunI W.heap.size lp J (q ++ [x]) Y' W4 := fun outs' b' n' Y3 W3 hw hj3 hr W4 ht4 hb4 hn4 => by
      have hE3 : ∀ k, (k = W.heap.size ∨ k = W.heap.size + 1 ∨ k = W.heap.size + 2) → ¬ Y3 k := fun k hk => hw.not (hE k hk) (h2 k hk)
      have h5 := hw.with h1 hE
      refine ⟨_, h5.trans ⟨ht4.mono (fun k _ hk => .inr (.inr hk)), fun k hk => .inl hk, fun k hk => Nat.lt_of_lt_of_le (h5.lt k hk) ht4.size⟩, outs', b', n', hr, Y3, fun _ => Iff.rfl, hE3, HJ.out.1 _ _ _ _ hj3 hw.lt (Keep.of_touch ht4 (fun k hy hk => hE3 k (.inr hk) hy)), ?_, hb4, hn4⟩
      exact Blk.touch (Blk.touch hb0 hw.touch (h2 _ (.inl rfl))) ht4 (by omega)
    have HS := Lib.hid hset
    clear hset
    by_cases hn : 0 < n
    · by_cases hx : ((x.val : Nat) : Int) = rb + n
      · have G := Lib.hid (HS.out outs rb (n + 1) Yj Wc (Went.refl hltj) hj (run_more hR x hn hx) (Wc.setCell ⟨W.heap.size + 1 + 1, 0, none⟩ (.int .i64 (n + 1))) (Touch.setCell (Touch.refl _ _) (.inr rfl) _) (hb1.other (by omega) (.int .i64 (n + 1))) (hb2.set (.int .i64 (n + 1))))
        clear HS hR h1 h2 hj hlt hE hltj
        generalize ((x.val : Nat) : Int) = p at *
        subst hx
        gi_wp2
        exact G.out
      · obtain ⟨y, y1, y2, y3, y4⟩ := run_out hR hql hn
        have hR2 := run_next hR x y y4 hn hx
        obtain ⟨fn, tmps, assign, body, hy, hRd⟩ := HY.out outs y Yj Wc hj hltj (by omega)
        dsimp only [prEnc] at hy
        rw [y1, y2] at hy
        have hR0 := Lib.hid hRd
        have eq2 : ∀ rest, prs (outs ++ [y]) <+: runsI 0 0 (nums (q ++ [x]) ++ rest) := fun rest => by rw [hR2.eq]; exact ⟨_, rfl⟩
        have H := Lib.hid (And.intro hR2 (And.intro eq2 (And.intro h1 (And.intro h2 (And.intro hE (And.intro hb1 hb2))))))
        clear hR hR2 hRd h1 h2 hj hlt hE hltj eq2 hb0 hb1 hb2 y1 y2 y4
        generalize ((x.val : Nat) : Int) = p at *
        gi_wp2
        refine (round_in hR0.out).mono ?_
        rintro e W3 ⟨Y3, hW3, (⟨rfl, hJ3⟩ | ⟨rfl, hJ3⟩)⟩
        · have hb13 : Boxed W3 (W.heap.size + 1) 3 (.int .i64 rb) := Blk.touch H.out.2.2.2.2.2.1 hW3.touch (H.out.2.2.2.1 _ (.inr (.inl rfl)))
          have hb23 : Boxed W3 (W.heap.size + 2) 3 (.int .i64 n) := Blk.touch H.out.2.2.2.2.2.2 hW3.touch (H.out.2.2.2.1 _ (.inr (.inr rfl)))
          have G := Lib.hid (HS.out (outs ++ [y]) p 1 Y3 W3 hW3 hJ3 H.out.1 ((W3.setCell ⟨W.heap.size + 1, 0, none⟩ (.int .i64 p)).setCell ⟨W.heap.size + 1 + 1, 0, none⟩ (.int .i64 1)) (Touch.setCell (Touch.setCell (Touch.refl _ _) (.inl rfl) _) (.inr rfl) _) ((hb13.set (.int .i64 p)).other (by omega) (.int .i64 1)) ((hb23.other (by omega) (.int .i64 p)).set (.int .i64 1)))
          have k1 := Boxed.cell hb13
          have k2 := Boxed.cell hb23
          have k3 := Boxed.frozen hb13
          have k4 := Boxed.frozen hb23
          clear hb13 hb23 HS H
          gi_wp2
          exact G.out
        · have fin : Hid (∃ Y', Went Yc Wc Y' W3 ∧ RunX W.heap.size Jx .ret (q ++ [x]) Y' W3) := ⟨_, hW3.with H.out.2.2.1 H.out.2.2.2.2.1, rfl, _, H.out.2.1, Y3, fun _ => Iff.rfl, fun k hk => hW3.not (H.out.2.2.2.2.1 k hk) (H.out.2.2.2.1 k hk), hJ3, trivial⟩
          clear HS H
          gi_wp2
          exact fin.out
    · have hn0 : n = 0 := by omega
      subst hn0
      have G := Lib.hid (HS.out outs ((x.val : Nat) : Int) 1 Yj Wc (Went.refl hltj) hj (run_new hR x (by omega)) ((Wc.setCell ⟨W.heap.size + 1, 0, none⟩ (.int .i64 ((x.val : Nat) : Int))).setCell ⟨W.heap.size + 1 + 1, 0, none⟩ (.int .i64 1)) (Touch.setCell (Touch.setCell (Touch.refl _ _) (.inl rfl) _) (.inr rfl) _) ((hb1.set (.int .i64 ((x.val : Nat) : Int))).other (by omega) (.int .i64 1)) ((hb2.other (by omega) (.int .i64 ((x.val : Nat) : Int))).set (.int .i64 1)))
      clear HS hR h1 h2 hj hlt hE hltj
      generalize ((x.val : Nat) : Int) = p at *
      gi_wp2
      refine ⟨fun f h => (by cases h), ?_⟩
      gi_wp2
      exact G.out
  case done =>
    rintro D q Yc Wc hD hYD hq ⟨outs, rb, n, hR, Yj, h1, h2, hj, hb0, hb1, hb2⟩ hWe hDk
    have hYj : ∀ k, Yj k → Yc k := fun k hk => (h1 k).2 (.inl hk)
    obtain ⟨e1, e2, e3⟩ := HE.out D Yc Yj Wc hD hYD hWe hYj hDk
    have hql : q.length = (plL l).length := by rw [← hq, nums_len]
    have c0 := Boxed.cell hb0
    have c1 := Boxed.cell hb1
    have c2 := Boxed.cell hb2
    have r3 := hR.n0
    have eqE := hR.eq []
    rw [List.append_nil, hq] at eqE
    by_cases hn : 0 < n
    · obtain ⟨y, y1, y2, y3, y4⟩ := run_out hR (by have := hNl'.out; omega) hn
      have hltj : ∀ k, Yj k → k < Wc.heap.size := e1.lt
      obtain ⟨fn, tmps, assign, body, hy, hRd⟩ := HY.out outs y Yj Wc hj hltj (by omega)
      dsimp only [prEnc] at hy
      rw [y1, y2] at hy
      have eqF : prs (outs ++ [y]) = runsI 0 0 (plL l) := by rw [y4, eqE]; simp [runsI, hn]
      have hDlt : D < Wc.heap.size := (Array.getElem?_eq_some_iff.1 hDk).1
      have hYDj : ¬ Yj D := fun h => hYD (hYj _ h)
      have H := Lib.hid (And.intro e1 (And.intro e3 (And.intro hRd (And.intro hDlt (And.intro hYDj eqF)))))
      clear hR hRd h1 h2 hj hltj e1 e2 e3 hb0 hb1 hb2 y1 y2 y4 eqE eqF hq hWe hDk HE
      gi_wp2
      refine (round_wide H.out.2.2.1).mono ?_
      rintro e W3 ⟨Y3, hW3, hres⟩
      have hD3 : W3.heap[D]? = some (.deferred (some [])) := (hW3.touch.block D H.out.2.2.2.1 H.out.2.2.2.2.1).trans (H.out.2.1 D (by simp)).1
      have hDs : ∀ D' ∈ [D], W3.heap[D']? = some (.deferred (some [])) ∧ W.heap.size ≤ D' ∧ ¬ Y3 D' := fun D' h => by
        rw [List.mem_singleton.1 h]
        exact ⟨hD3, (H.out.2.1 D (by simp)).2.1, hW3.not H.out.2.2.2.1 H.out.2.2.2.2.1⟩
      rcases hres with ⟨rfl, hJ3⟩ | ⟨rfl, hJ3⟩
      · gi_wp2
        exact out_marks (Ds := [D]) (H.out.1.trans hW3) (by simp) hDs (fun w' hk => .inl ⟨_, H.out.2.2.2.2.2, HJ.out.1 _ _ _ _ hJ3 hW3.lt hk⟩) _ (fun w => results_none rfl _ _ _)
      · gi_wp2
        exact out_marks (Ds := [D]) (H.out.1.trans hW3) (by simp) hDs (fun w' hk => .inr ⟨_, by rw [H.out.2.2.2.2.2]; exact List.prefix_refl _, HJ.out.2 _ _ _ _ hJ3 hW3.lt hk⟩) _ (fun w => results_none rfl _ _ _)
    · have eqF : prs outs = runsI 0 0 (plL l) := by rw [eqE]; simp [runsI, hn]
      have F := Lib.hid (fun (tm : Array Value) => out_marks (P := Tryd.prog) (Ds := [D]) e1 e2 e3 (fn := Tryd.f17) (tmps := tm) (Res := fun Y W' => (∃ xs, prs xs = runsI 0 0 (plL l) ∧ J xs Y W') ∨ ∃ pre, prs pre <+: runsI 0 0 (plL l) ∧ Jx pre Y W') (fun w' hk => .inl ⟨_, eqF, HJ.out.1 _ _ _ _ hj e1.lt hk⟩))
      clear hR h1 h2 hj e1 e2 e3 hb0 hb1 hb2 eqE eqF hq hWe hDk HE
      gi_wp2
      exact F.out _ _ (fun w => results_none rfl _ _ _)
  case stop =>
    rintro D c' q Yc Wc hD hYD hq ⟨rfl, outs, ho, Yj, h1, h2, hj, -⟩ hWe hDk
    have hYj : ∀ k, Yj k → Yc k := fun k hk => (h1 k).2 (.inl hk)
    obtain ⟨e1, e2, e3⟩ := HE.out D Yc Yj Wc hD hYD hWe hYj hDk
    obtain ⟨t, ht⟩ := hq
    have hpf := ho t
    rw [ht] at hpf
    gi_wp2
    exact out_marks (Ds := [D]) e1 e2 e3 (fun w' hk => .inr ⟨_, hpf, HJ.out.2 _ _ _ _ hj e1.lt hk⟩) _ (fun w => results_none rfl _ _ _)
end Go.Proofs.YtbpgnhakphpobaaDoor
