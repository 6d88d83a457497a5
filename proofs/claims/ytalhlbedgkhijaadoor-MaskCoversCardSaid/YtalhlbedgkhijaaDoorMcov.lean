/- MaskCovers: the walk of the whole. Conditions: the argument is a list of words, the table of math/bits lies as the start lays it. -/
import Derived.Test.YtalhlbedgkhijaaDoorMcvn
import Derived.Test.YtalhlbedgkhijaaDoorMnexl
import Derived.Test.YtalhlbedgkhijaaDoorMroom
import Derived.Test.YtalhlbedgkhijaaDoorMplac
namespace Go.Proofs.YtalhlbedgkhijaaDoor
open Go.RowKit Go.Shelf
set_option linter.unusedVariables false
attribute [local go_sem] Oper.semAt_some

theorem went_quiet {Y : Nat → Prop} {W W' : World} (h : Quiet W W') (hl : ∀ k, Y k → k < W.heap.size) : Went Y W Y W' := by
  obtain ⟨n, rfl⟩ := h
  exact ⟨(Touch.refl _ _).drewN n, fun k hk => .inl hk, hl⟩
def CovF (B1 B2 Eb Cb Lb : Nat) : Nat → Prop := fun k => k = B1 ∨ k = B2 ∨ k = Eb ∨ k = Cb ∨ k = Lb
/-- what lies there between two pairs -/
structure CovW (w : World) (B1 B2 Eb Cb Lb o n cap : Nat) (aa : Option Addr) (l : List Int) (e c : Nat) (W : World) : Prop where
  b1 : Boxed W B1 22 (.slice aa n cap)
  b2 : Boxed W B2 4 (.bool false)
  be : Boxed W Eb 3 (.int .i64 (e : Int))
  bc : Boxed W Cb 3 (.int .i64 (c : Int))
  row : Lst .u64 W (.slice aa n cap) l
  kb : Lb < w.heap.size → W.heap[Lb]? = w.heap[Lb]?
theorem lst_keep {X : Nat → Prop} {w w' : World} {v : Value} {l : List Int} (h : Lst .u64 w v l) (hk : Keep X w w') (hb : ∀ b o c n, v = .slice (some ⟨b, o, none⟩) n c → 0 < n → X b) : Lst .u64 w' v l := by
  rcases h with h | ⟨b, o, cap, h1, h2, h3, h4⟩
  · exact .inl h
  · refine .inr ⟨b, o, cap, h1, h2, h3, fun i hi => ?_⟩
    have hc := h4 i hi
    exact (World.cell?_of_block (hk.block b (hb b o cap _ h1 h2) (World.block_lt_of_cell? w _ hc))).trans hc
def CovI (w : World) (h : Nat → Bool) (B1 B2 Eb Cb Lb o n cap : Nat) (aa : Option Addr) (l : List Int) (q : List Pr) : (Nat → Prop) → World → Prop := fun Y W =>
  (∀ k, Y k ↔ CovF B1 B2 Eb Cb Lb k) ∧ ∃ e c, chkF h (64 * n) (some (0, 0)) (prs q) = some (e, c) ∧ e ≤ 64 * n ∧ c ≤ 512 * q.length ∧ CovW w B1 B2 Eb Cb Lb o n cap aa l e c W
def CovX (h : Nat → Bool) (n : Nat) (c : Code) (q : List Pr) : (Nat → Prop) → World → Prop := fun _ _ => c = .ret ∧ chkF h (64 * n) (some (0, 0)) (prs q) = none
theorem covI_foot (w : World) (h : Nat → Bool) (B1 B2 Eb Cb Lb o n cap : Nat) (aa : Option Addr) (l : List Int) (ha : ∀ b o' c' n', (.slice aa n cap : Value) = .slice (some ⟨b, o', none⟩) n' c' → 0 < n' → b = Lb) : Foot (CovI w h B1 B2 Eb Cb Lb o n cap aa l) := by
  rintro q Y A B ⟨h1, e, c, h2, h3, h4, h5⟩ hl hk
  exact ⟨h1, e, c, h2, h3, h4, Blk.keep h5.b1 hk ((h1 _).2 (.inl rfl)), Blk.keep h5.b2 hk ((h1 _).2 (.inr (.inl rfl))), Blk.keep h5.be hk ((h1 _).2 (.inr (.inr (.inl rfl)))), Blk.keep h5.bc hk ((h1 _).2 (.inr (.inr (.inr (.inl rfl))))), lst_keep h5.row hk (fun b o' c' n' hv hn => (h1 b).2 (by rw [ha b o' c' n' hv hn]; exact .inr (.inr (.inr (.inr rfl))))), fun hl2 => (hk.block Lb ((h1 _).2 (.inr (.inr (.inr (.inr rfl))))) (hl _ ((h1 _).2 (.inr (.inr (.inr (.inr rfl))))))).trans (h5.kb hl2)⟩
theorem covX_foot (h : Nat → Bool) (n : Nat) (c : Code) : Foot (CovX h n c) := fun _ _ _ _ hs _ _ => hs
theorem prs_one (x : Pr) : prs [x] = [(((x.1.val : Nat) : Int), ((x.2.val : Nat) : Int))] := rfl
theorem chk_step (h : Nat → Bool) (E : Nat) (q : List Pr) (x : Pr) (e c : Nat) (hq : chkF h E (some (0, 0)) (prs q) = some (e, c)) : chkF h E (some (0, 0)) (prs (q ++ [x])) = if chk h E e x.1.val x.2.val then some (x.1.val + x.2.val, c + x.2.val) else none := by
  have : prs (q ++ [x]) = prs q ++ prs [x] := by simp [prs]
  rw [this, chkF_append, hq, prs_one]
  simp only [chkF, Int.toNat_natCast]
set_option maxRecDepth 100000 in
set_option maxHeartbeats 4000000 in
theorem covers_walk (na ca : Nat) (aa : Option Addr) (l : List Int) (w : World) (ha : LstAll w (.slice aa na ca) l) (h1 : na ≤ 8) (hl8 : l.length = na) (hT : Tab w) (hne : ∀ b o, aa = some ⟨b, o, none⟩ → 0 < na → b ≠ 0) :
    Calls Tryd.prog 3 #[.slice aa na ca] w fun e w' => e = .returned (.bool true) ∧ Below w.heap.size w w' := by
  have h1' : ¬ (8 : Int) < (na : Int) := by omega
  have LA := Lib.hid (fun W (h : Below w.heap.size w W) => (ha.grew h).1)
  have TA := Lib.hid (fun W (h : Below w.heap.size w W) => hT.grew h)
  have MY := Lib.hid (fun W (h : Below w.heap.size w W) => masked_yes W (hT.grew h))
  have RU := Lib.hid (fun W (hb : Below w.heap.size w W) => runs_any _ l W (ha.grew hb).1 (by have := ha.2.2; omega))
  have UA := Lib.hid (And.intro ha.2.1 (And.intro h1 hl8))
  obtain ⟨Lb, hLb⟩ : ∃ Lb, (∀ b o' c' n', (.slice aa na ca : Value) = .slice (some ⟨b, o', none⟩) n' c' → 0 < n' → b = Lb) ∧ Lb < w.heap.size + 1 ∧ Lb ≠ 0 := by
    rcases ha.1 with ⟨he, a', c', hv⟩ | ⟨b, o, cap, hv, hp, _, hc⟩
    · refine ⟨w.heap.size, fun b o' c' n' hv2 hn => ?_, by omega, by have := hT.lt; omega⟩
      rw [hv] at hv2
      simp only [Value.slice.injEq] at hv2
      omega
    · simp only [Value.slice.injEq] at hv
      refine ⟨b, fun b' o' c' n' hv2 hn => ?_, by have := World.block_lt_of_cell? w _ (hc 0 (by omega)); simp at this; omega, hne b o hv.1 (by omega)⟩
      rw [hv.1] at hv2
      simp only [Value.slice.injEq, Option.some.injEq, Addr.mk.injEq] at hv2
      exact hv2.1.1.symm
  have HLb := Lib.hid hLb
  clear ha hT h1 hl8 hLb hne
  refine (callsIn_wide (n := 9)).1 ?_
  refine callsIn_of_wp_marks Tryd.func3 rfl trivial ?_ rfl
  simp only [Tryd.ntmps3, List.size_toArray, List.length_cons, List.length_nil, Nat.reduceAdd, Nat.reduceSub, Array.replicate_succ, Array.replicate_zero, List.push_toArray, List.append_toArray, List.nil_append, List.cons_append]
  gi_wp2_with fail
  refine ⟨trivial, ?_⟩
  have x1 : Boxed ((w.alloc (.cells #[.slice aa na ca] 22)).alloc (.cells #[.bool false] 4)) w.heap.size 22 (.slice aa na ca) := (Blk.new _ _ _).alloc _
  have x2 : Boxed ((w.alloc (.cells #[.slice aa na ca] 22)).alloc (.cells #[.bool false] 4)) (w.heap.size + 1) 4 (.bool false) := Blk.new' (by simp)
  have xb : Below w.heap.size w ((w.alloc (.cells #[.slice aa na ca] 22)).alloc (.cells #[.bool false] 4)) := ((Below.refl _ w).alloc (Nat.le_refl _) _).alloc (by simp) _
  have xs : ((w.alloc (.cells #[.slice aa na ca] 22)).alloc (.cells #[.bool false] 4)).heap.size = w.heap.size + 2 := by simp
  generalize (w.alloc (.cells #[.slice aa na ca] 22)).alloc (.cells #[.bool false] 4) = wa at *
  refine (callsIn_wide.2 (MY.out _ xb)).mono ?_
  rintro e w0 ⟨rfl, c0⟩
  have y1 : Boxed w0 w.heap.size 22 (.slice aa na ca) := Blk.grew x1 c0
  have y2 : Boxed w0 (w.heap.size + 1) 4 (.bool false) := Blk.grew x2 c0
  have b0 := xb.trans (c0.mono (by omega))
  have hs0 : w.heap.size + 2 ≤ w0.heap.size := by have := c0.size; omega
  have d1 := Boxed.cell y1
  clear x1 x2 xb xs c0 MY
  have z1 : Boxed ((w0.alloc (.cells #[.int .i64 0] 3)).alloc (.cells #[.int .i64 0] 3)) w.heap.size 22 (.slice aa na ca) := Blk.alloc (Blk.alloc y1 _) _
  have z2 : Boxed ((w0.alloc (.cells #[.int .i64 0] 3)).alloc (.cells #[.int .i64 0] 3)) (w.heap.size + 1) 4 (.bool false) := Blk.alloc (Blk.alloc y2 _) _
  have z3 : Boxed ((w0.alloc (.cells #[.int .i64 0] 3)).alloc (.cells #[.int .i64 0] 3)) w0.heap.size 3 (.int .i64 0) := (Blk.new _ _ _).alloc _
  have z4 : Boxed ((w0.alloc (.cells #[.int .i64 0] 3)).alloc (.cells #[.int .i64 0] 3)) (w0.heap.size + 1) 3 (.int .i64 0) := Blk.new' (by simp)
  have zb : Below w.heap.size w ((w0.alloc (.cells #[.int .i64 0] 3)).alloc (.cells #[.int .i64 0] 3)) := (b0.alloc b0.size _).alloc (by have := b0.size; simp; omega) _
  have zs : ((w0.alloc (.cells #[.int .i64 0] 3)).alloc (.cells #[.int .i64 0] 3)).heap.size = w0.heap.size + 2 := by simp
  have dA := Boxed.cell z1
  clear y1 y2
  gi_wp2_with fail
  refine ⟨trivial, ?_⟩
  clear dA d1
  generalize (w0.alloc (.cells #[.int .i64 0] 3)).alloc (.cells #[.int .i64 0] 3) = wb at *
  refine (callsIn_wide.2 (RU.out _ zb)).mono ?_
  rintro e W1 ⟨c, b, a, cap, g, rfl, hcx, hbx, hb, hg, hrow, hB1⟩
  have bW := zb.trans (hB1.mono zb.size)
  have hS := Lib.hid (runs_x c b g cap a l W1 (by have := UA.out.2; omega) UA.out.1 (TA.out W1 bW) hcx hbx hrow)
  have hs1 : w0.heap.size + 2 ≤ W1.heap.size := by have := hB1.size; omega
  have htl : 0 < w.heap.size := (TA.out w (Below.refl _ _)).lt
  have hcw : CovW w w.heap.size (w.heap.size + 1) w0.heap.size (w0.heap.size + 1) Lb 0 na ca aa l 0 0 W1 := ⟨Blk.grew z1 hB1, Blk.grew z2 hB1, Blk.grew z3 hB1, Blk.grew z4 hB1, LA.out W1 bW, fun hl => bW.block Lb hl⟩
  have hlE : ∀ k, CovF w.heap.size (w.heap.size + 1) w0.heap.size (w0.heap.size + 1) Lb k → k < W1.heap.size := fun k hk => by
    have := HLb.out.2.1
    rcases hk with e | e | e | e | e <;> omega
  have hZ0 : ∀ k, (k = 0 ∨ (0 < l.length ∧ k = g)) → ¬ CovF w.heap.size (w.heap.size + 1) w0.heap.size (w0.heap.size + 1) Lb k := by
    intro k hk hF
    have h5 := HLb.out.2
    rcases hk with h | ⟨h0, h⟩
    · rcases hF with e | e | e | e | e <;> omega
    · rcases hF with e | e | e | e | e <;> omega
  have hZ1 : ∀ k, (k = 0 ∨ (0 < l.length ∧ k = g)) → k < W1.heap.size := fun k hk => by
    rcases hk with h | ⟨h0, h⟩
    · omega
    · have := (hrow h0).2.1; omega
  have hI0 : CovI w (hasP l) w.heap.size (w.heap.size + 1) w0.heap.size (w0.heap.size + 1) Lb 0 na ca aa l [] (CovF w.heap.size (w.heap.size + 1) w0.heap.size (w0.heap.size + 1) Lb) W1 := ⟨fun k => Iff.rfl, 0, 0, rfl, by omega, by simp, hcw⟩
  have P := Lib.hid (And.intro hlE (And.intro hZ0 (And.intro hZ1 hI0)))
  clear z1 z2 z3 z4 zb zs hcx hbx hrow hB1 hcw hlE hZ0 hZ1 hI0 RU
  gi_wp2_with fail
  refine range_X (gf := 41) (lb := #[.pointer (some ⟨c, 0, none⟩)]) rfl (enters_of Tryd.func41 (by kernel_rfl) rfl) hS.out (Below.refl _ _) (fun _ => rfl) _ _ _ P.out.1 P.out.2.1 P.out.2.2.1 (covI_foot w (hasP l) _ _ _ _ Lb 0 na ca aa l HLb.out.1) (fun c => covX_foot (hasP l) na c) P.out.2.2.2
    (fun x => { tmps := #[.slice aa na ca, .pointer (some ⟨w.heap.size, 0, none⟩), .pointer (some ⟨w.heap.size + 1, 0, none⟩), .pointer (some ⟨w0.heap.size, 0, none⟩), .pointer (some ⟨w0.heap.size + 1, 0, none⟩), .int .i64 ((x.1.val : Nat) : Int), .int .i64 ((x.2.val : Nat) : Int), undef, undef, .bool true, .bool false, .bool false, .slice aa na ca, .int .i64 (na : Int), .bool (decide ((8 : Int) < (na : Int))), .bool (decide ((8 : Int) < (na : Int))), undef, .slice aa na ca, .func (.func 41) #[] #[.pointer (some ⟨c, 0, none⟩)], .int .i64 ((x.1.val : Nat) : Int), .int .i64 ((x.2.val : Nat) : Int), undef, undef, undef, undef, undef, undef, undef, undef, undef, undef, undef, undef, undef, undef, undef, undef, undef, undef, undef, undef, undef, undef, undef, undef, undef, undef, undef, undef, undef, undef, undef, undef, undef, undef, undef, undef, undef, undef, undef, undef, undef, undef, undef, undef, undef, undef, undef, undef, undef, undef, undef, undef, undef, undef, undef, undef, undef, undef, undef, undef, undef, undef], defers := [] }) ?assign ?body ?done ?stop
  case assign =>
    intro l' x W' K hK
    gi_wp2
    exact hK
  case body =>
    rintro l' q x Yc Wc ⟨hYe, e, c', hq, he1, hc1, hcw⟩ hlt _ hqlen
    have hst := chk_step (hasP l) (64 * na) q x e c' hq
    have k1 := Boxed.cell hcw.b1
    have k2 := Boxed.cell hcw.b2
    have k3 := Boxed.cell hcw.be
    have k4 := Boxed.cell hcw.bc
    have f2 := Boxed.frozen hcw.b2
    have f3 := Boxed.frozen hcw.be
    have f4 := Boxed.frozen hcw.bc
    have hn8 := UA.out.2.1
    generalize hbv : x.1.val = b1 at *
    generalize hkv : x.2.val = b2 at *
    have hbb : b1 < 65536 := by have := x.1.isLt; omega
    have hkk : b2 < 65537 := by have := x.2.isLt; omega
    have HBK := Lib.hid (And.intro hbv hkv)
    clear hbv hkv
    have hret : ∀ wr : World, Quiet Wc wr → ¬ chk (hasP l) (64 * na) e b1 b2 = true → ∃ Y', Went Yc Wc Y' (wr.setCell ⟨w.heap.size + 1, 0, none⟩ (.bool false)) ∧ CovX (hasP l) na .ret (q ++ [x]) Y' (wr.setCell ⟨w.heap.size + 1, 0, none⟩ (.bool false)) := fun wr hQ hno =>
      ⟨Yc, (went_quiet hQ hlt).trans (Went.store _ ((hYe _).2 (.inr (.inl rfl))) (fun k hk => Nat.lt_of_lt_of_le (hlt k hk) (hQ.below (B := 0)).size)), rfl, by rw [hst, if_neg hno]⟩
    have HR := Lib.hid hret
    have hb0 : (0 : Int) ≤ (b1 : Int) := by omega
    have hbB : (b1 : Int) < 65536 := by omega
    have hk0 : (0 : Int) ≤ (b2 : Int) := by omega
    have hkB : (b2 : Int) < 65537 := by omega
    have HNB := Lib.hid (And.intro hbb (And.intro hkk (And.intro he1 hc1)))
    by_cases t1 : b2 < 1
    · have G := Lib.hid (HR.out Wc (Quiet.refl _) (by unfold chk; simp; omega))
      have t1' : (b2 : Int) < 1 := by omega
      clear HR hret hst hq hcw hYe
      gi_wp2
      exact G.out
    · have t1' : ¬ (b2 : Int) < 1 := by omega
      by_cases t2 : b1 < e
      · have G := Lib.hid (HR.out Wc (Quiet.refl _) (by unfold chk; simp; omega))
        have t2' : (b1 : Int) < (e : Int) := by omega
        clear HR hret hst hq hcw hYe
        gi_wp2
        exact G.out
      · have t2' : ¬ (b1 : Int) < (e : Int) := by omega
        by_cases t3 : b1 = e ∧ 0 < e
        · have G := Lib.hid (HR.out Wc (Quiet.refl _) (by unfold chk; simp [t3.1, t3.2]))
          have t3a : ((b1 : Int) == (e : Int)) = true := by simp [t3.1]
          have t3b : (0 : Int) < (e : Int) := by omega
          clear HR hret hst hq hcw hYe
          gi_wp2
          exact G.out
        · by_cases t4 : 64 * na < b1 + b2
          · have G := Lib.hid (HR.out Wc (Quiet.refl _) (by unfold chk; simp; omega))
            have t4' : 64 * (na : Int) < (b1 : Int) + (b2 : Int) := by omega
            by_cases t5 : b1 = e
            · obtain rfl : e = 0 := by omega
              obtain rfl : b1 = 0 := t5
              clear hret hst hq hcw hYe t3 hbb hkk he1 hc1 t1 t2 t4
              generalize hkk2 : (b2 : Int) = kk at *
              have HK := Lib.hid hkk2
              clear hkk2
              clear HR
              gi_wp2
              exact G.out
            · have t5' : ((b1 : Int) == (e : Int)) = false := by simp; omega
              clear t5
              clear HR hret hst hq hcw hYe t3 hbb hkk he1 hc1 t1 t2 t4
              gi_wp2
              exact G.out
          · have t4' : ¬ 64 * (na : Int) < (b1 : Int) + (b2 : Int) := by omega
            have HAs := Lib.hid (fun p W (hQ : Quiet Wc W) (hp : p < 1000000) => has_any _ l p W (hcw.row.quiet hQ) hp)
            have HPs := Lib.hid (fun p => hasB_P UA.out.1 p)
            have hfin : chk (hasP l) (64 * na) e b1 b2 = true → ∀ wr : World, Quiet Wc wr → ∃ Y', Went Yc Wc Y' ((wr.setCell ⟨w0.heap.size, 0, none⟩ (.int .i64 ((b1 : Int) + (b2 : Int)))).setCell ⟨w0.heap.size + 1, 0, none⟩ (.int .i64 ((c' : Int) + (b2 : Int)))) ∧ CovI w (hasP l) w.heap.size (w.heap.size + 1) w0.heap.size (w0.heap.size + 1) Lb 0 na ca aa l (q ++ [x]) Y' ((wr.setCell ⟨w0.heap.size, 0, none⟩ (.int .i64 ((b1 : Int) + (b2 : Int)))).setCell ⟨w0.heap.size + 1, 0, none⟩ (.int .i64 ((c' : Int) + (b2 : Int)))) := fun hyes wr hQ => by
              have m1 : Boxed wr w.heap.size _ _ := Blk.quiet hcw.b1 hQ
              have m2 : Boxed wr (w.heap.size + 1) _ _ := Blk.quiet hcw.b2 hQ
              have m3 : Boxed wr w0.heap.size _ _ := Blk.quiet hcw.be hQ
              have m4 : Boxed wr (w0.heap.size + 1) _ _ := Blk.quiet hcw.bc hQ
              have hlq : ∀ k, Yc k → k < wr.heap.size := fun k hk => Nat.lt_of_lt_of_le (hlt k hk) (hQ.below (B := 0)).size
              have hlb := HLb.out.2.1
              refine ⟨Yc, ((went_quiet hQ hlt).trans (Went.store _ ((hYe _).2 (.inr (.inr (.inl rfl)))) hlq)).trans (Went.store _ ((hYe _).2 (.inr (.inr (.inr (.inl rfl))))) (fun k hk => by rw [World.size_setCell]; exact hlq k hk)), hYe, b1 + b2, c' + b2, by rw [hst, if_pos hyes], by omega, by rw [List.length_append, List.length_singleton]; omega, ?_⟩
              refine ⟨(m1.other (by omega) _).other (by omega) _, (m2.other (by omega) _).other (by omega) _, ?_, ?_, ?_, fun hl2 => ((Touch.setCell (Touch.setCell (Touch.refl (fun k => k = w0.heap.size ∨ k = w0.heap.size + 1) wr) (.inl rfl) _) (.inr rfl) _).block Lb (hlq Lb ((hYe _).2 (.inr (.inr (.inr (.inr rfl)))))) (by omega)).trans (((hQ.below (B := Wc.heap.size)).block Lb (hlt Lb ((hYe _).2 (.inr (.inr (.inr (.inr rfl))))))).trans (hcw.kb hl2))⟩
              · rw [show ((b1 + b2 : Nat) : Int) = (b1 : Int) + (b2 : Int) by omega]
                exact (m3.set _).other (by omega) _
              · rw [show ((c' + b2 : Nat) : Int) = (c' : Int) + (b2 : Int) by omega]
                exact (m4.other (by omega) _).set _
              · exact lst_keep (X := fun k => k = Lb) (hcw.row.quiet hQ) (Keep.of_touch (R := fun k => k = w0.heap.size ∨ k = w0.heap.size + 1) (Touch.setCell (Touch.setCell (Touch.refl _ _) (.inl rfl) _) (.inr rfl) _) (fun k hk e => by omega)) HLb.out.1
            have HF := Lib.hid hfin
            have hchk : Hid ((∀ j, e ≤ j → j < b1 → hasP l j = false) → (∀ j, b1 ≤ j → j < b1 + b2 → hasP l j = true) → chk (hasP l) (64 * na) e b1 b2 = true) := Lib.hid (fun g1 g2 => chk_yes (by omega) (by omega) (by omega) (by omega) g1 g2)
            have hno1 : Hid (∀ j, e ≤ j → j < b1 → hasP l j = true → ¬ chk (hasP l) (64 * na) e b1 b2 = true) := Lib.hid (fun j g1 g2 g3 hc => by
              unfold chk at hc
              simp only [Bool.and_eq_true, List.all_eq_true, List.mem_range, Bool.not_eq_true'] at hc
              have := hc.1.2 (j - e) (by omega)
              rw [show e + (j - e) = j by omega, g3] at this; cases this)
            have hno2 : Hid (∀ j, b1 ≤ j → j < b1 + b2 → hasP l j = false → ¬ chk (hasP l) (64 * na) e b1 b2 = true) := Lib.hid (fun j g1 g2 g3 hc => by
              unfold chk at hc
              simp only [Bool.and_eq_true, List.all_eq_true, List.mem_range, Bool.not_eq_true'] at hc
              have := hc.2 (j - b1) (by omega)
              rw [show b1 + (j - b1) = j by omega, g3] at this; cases this)
            have hcb : (c' : Int) < 300000 := by
              have h5 := plR_len l l.length
              have h6 : (plL l).length ≤ 64 * l.length := h5
              have := UA.out.2
              omega
            have HCB := Lib.hid hcb
            clear hcb
            have hbs : b1 + b2 ≤ 512 := by omega
            have HCW := Lib.hid (And.intro hcw (And.intro hbs (And.intro t1 (And.intro t2 t4))))
            clear hfin hret hst hq hYe
            have t35 : Hid (b1 = e → ¬ 0 < e) := Lib.hid (fun h g => t3 ⟨h, g⟩)
            by_cases t5 : b1 = e
            · have t6' : ¬ (0 : Int) < (e : Int) := by have := t35.out t5; omega
              have hz5 : (-5 : Int) ≤ (e : Int) := by omega
              subst t5
              have hcw := HCW.out.1
              clear hcw hbb hkk he1 hc1 t1 t2 t3 t4 hbs
              generalize hz : (b1 : Int) = z at *
              have HZ := Lib.hid hz
              clear hz hb0 t2'
              gi_wp2_with fail
              have hz := HZ.out
              subst hz
              gi_loopw [7] (fun i wr => ∃ I : Nat, b1 ≤ I ∧ I ≤ b1 ∧ i = .int .i64 I ∧ Hid (∀ j, b1 ≤ j → j < I → hasP l j = false) ∧ Quiet Wc wr) (fun i _ => b1 - (intOf i).toNat)
              case atStart => exact ⟨b1, Nat.le_refl _, by have := HCW.out.2.2.2.1; omega, rfl, Lib.hid (fun j h1 h2 => by omega), Quiet.refl _⟩
              case round =>
                obtain ⟨I, hI1, hI2, rfl, hall, hQ⟩ := hrel
                have q1 := (hQ.cell _).trans k1
                by_cases hlt1 : I < b1
                · exfalso; omega
                · obtain rfl : I = b1 := by omega
                  have h2 : ¬ (I : Int) < (I : Int) := by omega
                  have HALL := hall
                  have HQ := Lib.hid hQ
                  clear hall hQ q1
                  generalize wr = wm at *
                  gi_wp2_with fail
                  gi_loopw [8] (fun i wr => ∃ J : Nat, I ≤ J ∧ J ≤ I + b2 ∧ i = .int .i64 J ∧ Hid (∀ j, I ≤ j → j < J → hasP l j = true) ∧ Quiet Wc wr) (fun i _ => I + b2 - (intOf i).toNat)
                  case atStart => exact ⟨I, Nat.le_refl _, by omega, rfl, Lib.hid (fun j h1 h2 => by omega), HQ.out⟩
                  case round =>
                    obtain ⟨J, hJ1, hJ2, rfl, hall, hQ⟩ := hrel
                    have q1 := (hQ.cell _).trans k1
                    have hsum : (I : Int) + (b2 : Int) < 600 := by have := HCW.out.2.1; omega
                    by_cases hlt1 : J < I + b2
                    · have h2 : (J : Int) < (I : Int) + (b2 : Int) := by omega
                      have h3 : (J : Int) + 1 < 600 := by have := HCW.out.2.1; omega
                      have C := Lib.hid (HAs.out J wr hQ (by have := HCW.out.2.1; omega))
                      rw [HPs.out] at C
                      cases hb : hasP l J with
                      | false =>
                        rw [hb] at C
                        have G := Lib.hid (fun W hQ' => HR.out W hQ' (hno2.out J hJ1 hlt1 hb))
                        clear hb
                        gi_wp2_with fail
                        refine ⟨trivial, ?_⟩
                        refine (CallsIn.inRound l' (callsIn_wide.2 C.out)).mono ?_
                        rintro en w2 ⟨rfl, q2⟩
                        have hQ2 := hQ.trans q2
                        have k2q := (hQ2.cell _).trans k2
                        have f2q : w2.frozen? ⟨w.heap.size + 1, 0, none⟩ = false := by obtain ⟨m, rfl⟩ := hQ2; exact f2
                        have G2 := Lib.hid (G.out w2 hQ2)
                        clear G
                        gi_wp2
                        exact G2.out
                      | true =>
                        rw [hb] at C
                        have HA2 : Hid (∀ j, I ≤ j → j < J + 1 → hasP l j = true) := Lib.hid (fun j h1 h2 => by
                          by_cases ej : j = J
                          · subst ej; exact hb
                          · exact hall.out j h1 (by omega))
                        clear hb
                        gi_wp2_with fail
                        refine ⟨trivial, ?_⟩
                        refine (CallsIn.inRound l' (callsIn_wide.2 C.out)).mono ?_
                        rintro en w2 ⟨rfl, q2⟩
                        gi_wp2
                        go_roundw
                        case rel => exact ⟨J + 1, by omega, by omega, by go_num, HA2, hQ.trans q2⟩
                        case measure => simp [intOf]; omega
                    · obtain rfl : J = I + b2 := by omega
                      have h2 : ¬ ((I + b2 : Nat) : Int) < (I : Int) + (b2 : Int) := by omega
                      have G := Lib.hid (HF.out (hchk.out HALL.out hall.out) wr hQ)
                      have k3q := (hQ.cell _).trans k3
                      have k4q := (hQ.cell _).trans k4
                      have f3q : wr.frozen? ⟨w0.heap.size, 0, none⟩ = false := by obtain ⟨m, rfl⟩ := hQ; exact f3
                      have f4q : wr.frozen? ⟨w0.heap.size + 1, 0, none⟩ = false := by obtain ⟨m, rfl⟩ := hQ; exact f4
                      have hcb2 := HCB.out
                      clear hall HALL
                      gi_wp2
                      exact G.out
            · have t5' : ((b1 : Int) == (e : Int)) = false := by simp; omega
              clear t5
              have hcw := HCW.out.1
              clear hcw hbb hkk he1 hc1 t1 t2 t3 t4 hbs
              gi_wp2_with fail
              gi_loopw [7] (fun i wr => ∃ I : Nat, e ≤ I ∧ I ≤ b1 ∧ i = .int .i64 I ∧ Hid (∀ j, e ≤ j → j < I → hasP l j = false) ∧ Quiet Wc wr) (fun i _ => b1 - (intOf i).toNat)
              case atStart => exact ⟨e, Nat.le_refl _, by have := HCW.out.2.2.2.1; omega, rfl, Lib.hid (fun j h1 h2 => by omega), Quiet.refl _⟩
              case round =>
                obtain ⟨I, hI1, hI2, rfl, hall, hQ⟩ := hrel
                have q1 := (hQ.cell _).trans k1
                by_cases hlt1 : I < b1
                · have h2 : (I : Int) < (b1 : Int) := by omega
                  have h3 : (I : Int) + 1 < 600 := by have := HCW.out.2.1; omega
                  have C := Lib.hid (HAs.out I wr hQ (by have := HCW.out.2.1; omega))
                  rw [HPs.out] at C
                  cases hb : hasP l I with
                  | true =>
                    rw [hb] at C
                    have G := Lib.hid (fun W hQ' => HR.out W hQ' (hno1.out I hI1 hlt1 hb))
                    clear hb
                    gi_wp2_with fail
                    refine ⟨trivial, ?_⟩
                    refine (CallsIn.inRound l' (callsIn_wide.2 C.out)).mono ?_
                    rintro en w2 ⟨rfl, q2⟩
                    have hQ2 := hQ.trans q2
                    have k2q := (hQ2.cell _).trans k2
                    have f2q : w2.frozen? ⟨w.heap.size + 1, 0, none⟩ = false := by obtain ⟨m, rfl⟩ := hQ2; exact f2
                    have G2 := Lib.hid (G.out w2 hQ2)
                    clear G
                    gi_wp2
                    exact G2.out
                  | false =>
                    rw [hb] at C
                    have HA2 : Hid (∀ j, e ≤ j → j < I + 1 → hasP l j = false) := Lib.hid (fun j h1 h2 => by
                      by_cases ej : j = I
                      · subst ej; exact hb
                      · exact hall.out j h1 (by omega))
                    clear hb
                    gi_wp2_with fail
                    refine ⟨trivial, ?_⟩
                    refine (CallsIn.inRound l' (callsIn_wide.2 C.out)).mono ?_
                    rintro en w2 ⟨rfl, q2⟩
                    gi_wp2
                    go_roundw
                    case rel => exact ⟨I + 1, by omega, by omega, by go_num, HA2, hQ.trans q2⟩
                    case measure => simp [intOf]; omega
                · obtain rfl : I = b1 := by omega
                  have h2 : ¬ (I : Int) < (I : Int) := by omega
                  have HALL := hall
                  have HQ := Lib.hid hQ
                  clear hall hQ q1
                  generalize wr = wm at *
                  gi_wp2_with fail
                  gi_loopw [8] (fun i wr => ∃ J : Nat, I ≤ J ∧ J ≤ I + b2 ∧ i = .int .i64 J ∧ Hid (∀ j, I ≤ j → j < J → hasP l j = true) ∧ Quiet Wc wr) (fun i _ => I + b2 - (intOf i).toNat)
                  case atStart => exact ⟨I, Nat.le_refl _, by omega, rfl, Lib.hid (fun j h1 h2 => by omega), HQ.out⟩
                  case round =>
                    obtain ⟨J, hJ1, hJ2, rfl, hall, hQ⟩ := hrel
                    have q1 := (hQ.cell _).trans k1
                    have hsum : (I : Int) + (b2 : Int) < 600 := by have := HCW.out.2.1; omega
                    by_cases hlt1 : J < I + b2
                    · have h2 : (J : Int) < (I : Int) + (b2 : Int) := by omega
                      have h3 : (J : Int) + 1 < 600 := by have := HCW.out.2.1; omega
                      have C := Lib.hid (HAs.out J wr hQ (by have := HCW.out.2.1; omega))
                      rw [HPs.out] at C
                      cases hb : hasP l J with
                      | false =>
                        rw [hb] at C
                        have G := Lib.hid (fun W hQ' => HR.out W hQ' (hno2.out J hJ1 hlt1 hb))
                        clear hb
                        gi_wp2_with fail
                        refine ⟨trivial, ?_⟩
                        refine (CallsIn.inRound l' (callsIn_wide.2 C.out)).mono ?_
                        rintro en w2 ⟨rfl, q2⟩
                        have hQ2 := hQ.trans q2
                        have k2q := (hQ2.cell _).trans k2
                        have f2q : w2.frozen? ⟨w.heap.size + 1, 0, none⟩ = false := by obtain ⟨m, rfl⟩ := hQ2; exact f2
                        have G2 := Lib.hid (G.out w2 hQ2)
                        clear G
                        gi_wp2
                        exact G2.out
                      | true =>
                        rw [hb] at C
                        have HA2 : Hid (∀ j, I ≤ j → j < J + 1 → hasP l j = true) := Lib.hid (fun j h1 h2 => by
                          by_cases ej : j = J
                          · subst ej; exact hb
                          · exact hall.out j h1 (by omega))
                        clear hb
                        gi_wp2_with fail
                        refine ⟨trivial, ?_⟩
                        refine (CallsIn.inRound l' (callsIn_wide.2 C.out)).mono ?_
                        rintro en w2 ⟨rfl, q2⟩
                        gi_wp2
                        go_roundw
                        case rel => exact ⟨J + 1, by omega, by omega, by go_num, HA2, hQ.trans q2⟩
                        case measure => simp [intOf]; omega
                    · obtain rfl : J = I + b2 := by omega
                      have h2 : ¬ ((I + b2 : Nat) : Int) < (I : Int) + (b2 : Int) := by omega
                      have G := Lib.hid (HF.out (hchk.out HALL.out hall.out) wr hQ)
                      have k3q := (hQ.cell _).trans k3
                      have k4q := (hQ.cell _).trans k4
                      have f3q : wr.frozen? ⟨w0.heap.size, 0, none⟩ = false := by obtain ⟨m, rfl⟩ := hQ; exact f3
                      have f4q : wr.frozen? ⟨w0.heap.size + 1, 0, none⟩ = false := by obtain ⟨m, rfl⟩ := hQ; exact f4
                      have hcb2 := HCB.out
                      clear hall HALL
                      gi_wp2
                      exact G.out
  case done =>
    rintro D q Yc Wc hD hYD hq ⟨hYe, e, c', hqc, he1, hc1, hcw⟩ hWe hDk
    obtain ⟨e', g1, g2⟩ := cover_num l
    rw [hq, ← UA.out.2.2, g1] at hqc
    simp only [Option.some.injEq, Prod.mk.injEq] at hqc
    obtain ⟨rfl, hcc⟩ := hqc
    have bWc : Below w.heap.size w Wc := ⟨hWe.touch.os.trans bW.os, hWe.touch.tape.trans bW.tape, hWe.touch.output.trans bW.output, Nat.le_trans bW.size hWe.touch.size, fun k hk => by
      by_cases ek : k = Lb
      · rw [ek] at hk ⊢; exact hcw.kb hk
      · refine (hWe.touch.block k (Nat.lt_of_lt_of_le hk bW.size) (fun hY => ?_)).trans (bW.block k hk)
        rcases hY with h | h | h | h | h <;> omega⟩
    have hnx : nextV (fun x => x) l e' = -1 := by
      rw [next_has UA.out.1, show 64 * l.length - e' = (64 * l.length - e') + 0 by omega, rnext_skip _ 0 _ _ (fun j hj => g2 (e' + j) (by omega) (by omega))]; rfl
    have hct : cntL l = (c' : Int) := by rw [← count_places l]; omega
    have NX := Lib.hid (fun W (hQ : Quiet Wc W) => next_any _ l (e' : Int) e' W (hcw.row.quiet hQ) (by have := UA.out.2; omega) UA.out.1 ((TA.out Wc bWc).quiet hQ) (by omega) (by have := UA.out.2; omega))
    rw [hnx] at NX
    have CT := Lib.hid (fun W (hQ : Quiet Wc W) => count_lst _ l W (hcw.row.quiet hQ) UA.out.1 (by have := UA.out.2; omega))
    rw [hct] at CT
    have k1 := Boxed.cell hcw.b1
    have k2 := Boxed.cell hcw.b2
    have k3 := Boxed.cell hcw.be
    have k4 := Boxed.cell hcw.bc
    have f2 := Boxed.frozen hcw.b2
    have H := Lib.hid (And.intro bWc hDk)
    have hmx : Tryd.prog.follows .mixedOrders = true := by kernel_rfl
    clear g1 g2 hcc hnx hct hcw hDk hWe hYe hq he1 hc1 bWc
    gi_wp2_with fail
    refine Code.wpIn_mono NoPanic.imp ?_
    gi_region_with_o (first | (refine ⟨trivial, ?_⟩; gi_at_call 16; refine (callsIn_wide.2 (NX.out _ (by first | exact Quiet.refl _ | exact ⟨1, rfl⟩))).mono ?_; rintro en wn ⟨rfl, hqn⟩; have hQ1 : Quiet Wc wn := (by first | exact hqn | exact Quiet.trans ⟨1, rfl⟩ hqn); have k1n := (hQ1.cell ⟨w.heap.size, 0, none⟩).trans k1; have k4n := (hQ1.cell ⟨w0.heap.size + 1, 0, none⟩).trans k4) | (refine ⟨trivial, ?_⟩; gi_at_call 17; refine (callsIn_wide.2 (CT.out _ (by first | exact hQ1 | exact hQ1.trans ⟨1, rfl⟩))).mono ?_; rintro en wz ⟨rfl, hqz⟩; have hQ2 : Quiet Wc wz := (by first | exact hQ1.trans hqz | exact (hQ1.trans ⟨1, rfl⟩).trans hqz); have k4z := (hQ2.cell ⟨w0.heap.size + 1, 0, none⟩).trans k4; have k2z := (hQ2.cell ⟨w.heap.size + 1, 0, none⟩).trans k2; have f2z : wz.frozen? ⟨w.heap.size + 1, 0, none⟩ = false := (by obtain ⟨m, hm⟩ := hQ2; rw [hm]; exact f2)))
    all_goals refine NoPanic.normal ?_
    all_goals
      have hD3 : wz.heap[D]? = some (.deferred (some [])) := by obtain ⟨m, rfl⟩ := hQ2; exact H.out.2
      have bWz := H.out.1.trans hQ2.below
      clear H
      gi_wp2
      have hK' := (KeepsOthers.setCell wz ⟨w.heap.size + 1, 0, none⟩ (.bool true)).same D _ hD3 rfl
      refine ⟨by simp, .inl ⟨_, _, rfl, run_takeDeferred hK', ?_⟩⟩
      have hc5 := cell_kept (World.cell?_setCell_same' wz ⟨w.heap.size + 1, 0, none⟩ (.bool true) (by rw [k2z]; rfl)) (grownBy_putObj' _ D (.deferred none)) (fun r e => by cases e; exact ⟨_, hK', rfl⟩)
      refine ⟨.bool true, ?_, rfl, (bWz.setCell (p := ⟨w.heap.size + 1, 0, none⟩) (by simp) _).trans (belowK_b (w := w) (Nat.le_refl _) _ D _ _ (by omega) hK' rfl rfl)⟩
      simp [results, Tryd.f3, go_sem, hc5]
  case stop =>
    rintro D c' q Yc Wc hD hYD hq ⟨rfl, hno⟩ hWe hDk
    exfalso
    obtain ⟨e', g1, g2⟩ := cover_num l
    obtain ⟨t, ht⟩ := hq
    rw [← ht, UA.out.2.2, chkF_append, hno, chkF_none] at g1
    cases g1
set_option maxRecDepth 100000 in
set_option maxHeartbeats 1000000 in
theorem covers_law (a0 : Option Addr) (n0 c0 : Nat) (z0 : List Int) (w : World) (h0 : IsRow .u64 w a0 n0 c0 z0) (hT : Tab w) (hX : ∀ j, 64 ≤ j → w.cell? ⟨0, j, none⟩ = none) :
    Calls Tryd.prog 3 #[.slice a0 n0 c0] w fun e w' => e = .returned (.bool true) ∧ Below w.heap.size w w' := by
  by_cases k0 : n0 ≤ 8
  · refine covers_walk n0 c0 a0 _ w (row_all h0 k0).1 k0 (row_all h0 k0).2 hT (fun b o ha hn hb => ?_)
    rcases h0 with ⟨_, h2, _, _⟩ | ⟨x, h1, h2, h3, h4, h5, h6⟩
    · omega
    · rw [ha] at h1
      obtain rfl := Option.some.inj h1
      have h7 : w.cell? ⟨b, o + 0, none⟩ = some (.int .u64 (z0.getD 0 0)) := h5 0 (by omega)
      rw [Nat.add_zero, hb] at h7
      by_cases ho : o < 64
      · rw [hT o ho] at h7
        simp at h7
      · rw [hX o (by omega)] at h7
        cases h7
  · have k0' : (8 : Int) < (n0 : Int) := by omega
    have MY := Lib.hid (fun W (h : Below w.heap.size w W) => masked_yes W (hT.grew h))
    clear h0 hT hX k0
    go_enter Tryd.func3, Tryd.ntmps3
    go_wp2_with fail
    have x1 : Boxed ((w.alloc (.cells #[.slice a0 n0 c0] 22)).alloc (.cells #[.bool false] 4)) w.heap.size 22 (.slice a0 n0 c0) := (Blk.new _ _ _).alloc _
    have x2 : Boxed ((w.alloc (.cells #[.slice a0 n0 c0] 22)).alloc (.cells #[.bool false] 4)) (w.heap.size + 1) 4 (.bool false) := Blk.new' (by simp)
    have xb : Below w.heap.size w ((w.alloc (.cells #[.slice a0 n0 c0] 22)).alloc (.cells #[.bool false] 4)) := ((Below.refl _ w).alloc (Nat.le_refl _) _).alloc (by simp) _
    have xs : ((w.alloc (.cells #[.slice a0 n0 c0] 22)).alloc (.cells #[.bool false] 4)).heap.size = w.heap.size + 2 := by simp
    generalize (w.alloc (.cells #[.slice a0 n0 c0] 22)).alloc (.cells #[.bool false] 4) = wa at *
    refine (MY.out _ xb).mono ?_
    rintro e w0 ⟨rfl, c0'⟩
    have y1 := Boxed.cell (Blk.grew x1 c0')
    have y2 : Boxed w0 (w.heap.size + 1) 4 (.bool false) := Blk.grew x2 c0'
    have b0 := xb.trans (c0'.mono (by omega))
    clear x1
    go_wp2_with fail
    refine (MY.out w0 b0).mono ?_
    rintro e w1 ⟨rfl, b1⟩
    have y3 := Blk.grew y2 b1
    have y4 := Boxed.cell y3
    have y5 := Boxed.frozen y3
    have b2 := b0.trans (b1.mono b0.size)
    go_wp2
    have hc5 := World.cell?_setCell_same' w1 ⟨w.heap.size + 1, 0, none⟩ (.bool true) (by rw [y4]; rfl)
    refine bodyPost_ret (v := .bool true) ?_ rfl ⟨rfl, b2.setCell (p := ⟨w.heap.size + 1, 0, none⟩) (by simp) _⟩
    simp [results, Tryd.f3, go_sem, hc5]
end Go.Proofs.YtalhlbedgkhijaaDoor
