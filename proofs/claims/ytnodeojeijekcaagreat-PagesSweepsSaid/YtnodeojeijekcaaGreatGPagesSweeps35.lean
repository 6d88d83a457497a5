/- PagesSweeps: both logs are the same at the end. Condition: both have at most 300 accesses, and one at least. -/
import Derived.Deep.CutBlock
import Derived.Deep.DeepCutAuto
import Derived.Test.YtnodeojeijekcaaGreatGPagesSweeps33
import Derived.Test.YtnodeojeijekcaaGreatGPagesSweeps34
namespace Go.Proofs.YtnodeojeijekcaaGreat
open Go.RowKit
set_option linter.unusedVariables false
attribute [local go_sem] Oper.semAt_some
theorem name_actPg {F : Fence} {n : Nat} {P : Program} {c : Code} {Q : Exit → Act → World → Prop} {a : Act} {w : World} (h : ∀ a0, a0 = a → c.wpIn F n P Q a0 w) : c.wpIn F n P Q a w := h a rfl
section
variable {w0 W W' : World} {B f s M d x p a c : Nat} {P T : Int} {σ : Sw} {cs : List Int} {F : Nat → Nat → Int} {n : Nat} {cs2 : List Int} {F2 : Nat → Nat → Int} {n2 : Nat} {t : Tp} {o : Bool} {K : List Nat} {lm hv : Value} {N : Nat}
theorem PtS.box (h : PtS w0 B f s M d x p a c P T σ cs F n cs2 F2 n2 t o K lm hv W') {W0 : World} {q : Nat} (hq : q = W'.heap.size) (hb : Below W'.heap.size W' W0) (hlt : q < W0.heap.size) (ht : Touch (fun x => x = q) W0 W) :
    PtS w0 B f s M d x p a c P T σ cs F n cs2 F2 n2 t o (q :: K) lm hv W := by
  subst hq
  have hl : ∀ b ∈ ptL f s M d x p, b ≠ W'.heap.size := fun b hb => by have := h.arx.lt b (h.inK b hb); omega
  have l1 : ∀ g, lm.ownBlock = some g → ¬ g = W'.heap.size := fun g e r => by have := (h.doc.log.lt g e).2; omega
  have l2 : ∀ g, hv.ownBlock = some g → ¬ g = W'.heap.size := fun g e r => by have := (h.tape.row.lt g e).2; omega
  have g := h.grew hb
  exact { g with
    fl := g.fl.touch ht (hl f (by simp [ptL])), mach := Blk.touch g.mach ht (hl s (by simp [ptL])), arx := (h.arx.add hb (Nat.le_refl _) hlt).touch ht (fun b e => by rw [e]; exact List.mem_cons_self), port := g.port.touch ht (hl p (by simp [ptL])),
    doc := g.doc.touchP ht (hl M (by simp [ptL])) (hl d (by simp [ptL])) l1, tape := g.tape.touch ht (hl x (by simp [ptL])) l2,
    bel := g.bel.trans (ht.below g.bel.size (fun b e => by have := h.bel.size; omega)),
    inK := fun b hb => List.mem_cons_of_mem _ (h.inK b hb), lmK := fun g e => List.mem_cons_of_mem _ (h.lmK g e), hvK := fun g e => List.mem_cons_of_mem _ (h.hvK g e) }
set_option maxRecDepth 100000 in
set_option maxHeartbeats 4000000 in
theorem PtS.same (h : PtS w0 B f s M d x p a c P T σ cs F n cs F n t o K lm hv W) (h0 : 0 < n) (hn : n ≤ 300) (hd0 : 0 < cs.length) (hd1 : cs.length ≤ 1000000) :
    Calls Tryz.prog 18 #[.pointer (some ⟨f, 0, none⟩)] W fun e w' => e = .returned (.bool true) ∧ Below w0.heap.size w0 w' := by
  have hrb : w0.heap.size ≤ W.heap.size := h.bel.size
  refine (callsIn_wide (n := 9)).1 ?_
  refine callsIn_of_wp_marks Tryz.func18 rfl trivial ?_ rfl
  simp only [Tryz.ntmps18, List.size_toArray, List.length_cons, List.length_nil, Nat.reduceAdd, Nat.reduceSub, Array.replicate_succ, Array.replicate_zero, List.push_toArray, List.append_toArray, List.nil_append, List.cons_append]
  refine wpIn_wide.2 ?_
  go_upto_region 1 with fail
  have hRb : Blk (W.alloc (.cells #[.bool false] 4)) W.heap.size #[.bool false] 4 := Blk.new _ _ _
  have hO := h.grew ((Below.refl _ W).alloc (Nat.le_refl _) (.cells #[.bool false] 4))
  clear h
  generalize W.alloc (.cells #[.bool false] 4) = wr at *
  generalize W.heap.size = rb at *
  obtain ⟨⟨lv, hLv, hgK⟩, _, _, _, _, _, _⟩ := id hO.arx
  obtain ⟨bp, cp, hlv⟩ := row_form hLv.own
  subst hlv
  obtain ⟨lb, hlrow⟩ : ∃ lb, Hid (0 < n → bp = some ⟨lb, 0, none⟩ ∧ lb < wr.heap.size ∧ LogRow wr lb n F) := by
    obtain ⟨lb, hb⟩ := logrow hLv.own h0
    exact ⟨lb, fun _ => hb⟩
  have LG := Lib.hid (fun W (q : ArenaAt W a c cs true (.slice bp n cp) ((n : Nat) : Int) 0) => log_any a c cs true bp n cp ((n : Nat) : Int) 0 W q)
  have hLW := Lib.hid (fun W (hb : Below wr.heap.size wr W) => hLv.grew hb)
  have hb0 : Below wr.heap.size wr (wr.alloc (.cells #[.slice none 0 0] 63)) := (Below.refl wr.heap.size wr).alloc (Nat.le_refl _) (.cells #[.slice none 0 0] 63)
  have f9 : (wr.alloc (.cells #[.slice none 0 0] 63)).cell? ⟨f, 9, none⟩ = some (.pointer (some ⟨a, 0, none⟩)) := (hO.grew hb0).fl.val 9 rfl
  have hb21 : Blk (wr.alloc (.cells #[.slice none 0 0] 63)) wr.heap.size #[.slice none 0 0] 63 := Blk.new _ _ _
  have hs2 : (wr.alloc (.cells #[.slice none 0 0] 63)).heap.size = wr.heap.size + 1 := by simp
  clear hLv
  go_upto_region 2 with fail
  generalize wr.alloc (.cells #[.slice none 0 0] 63) = wr2 at *
  go_wp2_with fail
  clear f9
  refine (LG.out _ (hLW.out _ hb0).at').mono ?_
  rintro e W0 ⟨rfl, b4, hbl, hsz0⟩
  have hbel1 : Below wr.heap.size wr W0 := hb0.trans (hbl.mono (by omega))
  have b21 : Boxed W0 wr.heap.size 63 (.slice none 0 0) := Blk.grew hb21 hbl
  have hs0 : W0.heap.size = wr.heap.size + 2 := by omega
  rw [hs2] at b4
  clear LG hb0 hb21 hbl hsz0
  go_wp2_with fail
  refine (wpIn_wide (n := 9)).1 ?_
  obtain ⟨i0, hi, hz0, hz1, hz2⟩ := info_parts info_acc
  refine wpIn_rangeFunc_ownH rfl (by omega) (gf := 82) (lb := #[.pointer (some ⟨wr.heap.size + 1, 0, none⟩)]) rfl trivial (enters_of Tryz.func82 (by kernel_rfl) rfl)
    (log_stops 8 (by omega) (wr.heap.size + 1) wr.heap.size lb n cp bp F W0 (by omega) (by omega) (fun h => by obtain ⟨h1, h2, h3⟩ := hlrow.out h; exact ⟨h1, h2, h3.below hbel1 h2⟩) (by omega) b4.cell) belowK_t (belowK_b (by omega)) (Below.refl _ _) (fun _ => rfl)
    (fun pre W => (∃ v, Boxed W wr.heap.size 63 v ∧ W.ownsRow W0.heap.size 49 7 v pre.length (flat F pre) ∧ True) ∧ Touch (fun x => x = wr.heap.size) W0 W)
    (fun _ _ _ => False)
    (OwnFrom.and (Own.from (holdsRow_own W0.heap.size wr.heap.size 63 49 7 (fun pre : List Nat => pre.length) (fun pre : List Nat => flat F pre) (fun _ _ => True)) _) (ownFrom_touch (Nat.le_refl _)))
    (fun _ _ _ _ _ hs _ _ => hs)
    ⟨⟨_, b21, World.ownsRow_nil _ _ _ _, trivial⟩, Touch.refl _ _⟩
    (fun i a' W => ∃ xb, W0.heap.size ≤ xb ∧ a' = { tmps := #[.pointer (some ⟨f, 0, none⟩), undef, .pointer (some ⟨rb, 0, none⟩), .pointer (some ⟨wr.heap.size, 0, none⟩), undef, .pointer (some ⟨xb, 0, none⟩), .pointer (some ⟨f, 0, none⟩), .pointer (some ⟨f, 0, none⟩), .pointer (some ⟨f, 9, none⟩), .pointer (some ⟨a, 0, none⟩), .func (.func 82) #[] #[.pointer (some ⟨wr.heap.size + 1, 0, none⟩)], .int .i64 ((i : Nat) : Int), .agg (accA F i), undef, undef, undef, undef, undef, undef, undef, undef, undef, undef, undef, undef, undef, undef, undef, undef, undef, undef, undef, undef, undef, undef, undef, undef], defers := [] } ∧ Blk W xb (accA F i) 49)
    (fun x a' => blk_own_from _ (fun xb => W0.heap.size ≤ xb) a' _ _) ?assign ?body ?done ?stop
  case assign =>
    rintro l pre i W K ⟨⟨v, hv, hr, _⟩, ht⟩ hK
    have hX : Blk (W.alloc (.cells (accA F i) 49)) W.heap.size (accA F i) 49 := Blk.new _ _ _
    have hK2 := hK _ (W.alloc (.cells (accA F i) 49)) ((KeepsOthers.alloc W _).from _) ((Below.refl _ W).alloc (by have := ht.size; omega) _) ⟨⟨v, hv.alloc _, hr.alloc _, trivial⟩, ht.alloc _⟩ ⟨W.heap.size, ht.size, rfl, hX⟩
    clear hK hX hv hr ht
    gi_wp2
    exact hK2
  case body =>
    rintro l pre i a' W _ _ ⟨⟨v, hv, hr, _⟩, ht⟩ ⟨xb, hxb, rfl, hX⟩ hltN
    have hsW := ht.size
    have HF := Lib.hid (flat_snoc F pre i)
    have HL : Hid ((pre ++ [i]).length = pre.length + 1) := by unfold Hid; simp
    obtain ⟨a1, k1, hveq⟩ := row_form hr
    subst hveq
    have hc := hv.cell
    generalize hp : pre.length = pl at *
    have h300 : ¬ (5000 : Int) < (pl : Int) := by omega
    dsimp only [accA] at hX
    generalize F i 0 = q0 at *
    generalize F i 1 = q1 at *
    generalize F i 2 = q2 at *
    generalize F i 3 = q3 at *
    generalize F i 4 = q4 at *
    generalize F i 5 = q5 at *
    generalize F i 6 = q6 at *
    have y0 := hX.val 0 rfl
    have y1 := hX.val 1 rfl
    have y2 := hX.val 2 rfl
    have y3 := hX.val 3 rfl
    have y4 := hX.val 4 rfl
    have y5 := hX.val 5 rfl
    have y6 := hX.val 6 rfl
    simp only [List.setIfInBounds_toArray, List.set_cons_zero, List.set_cons_succ]
    gi_wp2_with (gi_at_builtin; refine wpListIn_append_own _ rfl _ _ 63 rfl W0.heap.size 49 i0 _ 7 56 Tryz.underlying63 hi hz0 hz1 hz2 rfl (by decide) _ _ _ rfl (hr.alloc _) ⟨W.heap.size, 0, none⟩ 1 1 [.int .i64 q0, .int .i64 q1, .int .i64 q2, .int .u64 q3, .int .u64 q4, .int .u64 q5, .int .u64 q6] rfl rfl (new_cells _ [.int .i64 q0, .int .i64 q1, .int .i64 q2, .int .u64 q3, .int .u64 q4, .int .u64 q5, .int .u64 q6] _ _ rfl) (by simp [Value.oneCell']) (by unfold maxLen; omega) (by omega) (by simp; omega) ?_; intro v' w1 hown' hgrow _; obtain ⟨g', cap', rfl⟩ := ownsRow_succ hown'; obtain ⟨hv1, hv2, hr2, hk2, ht2, hbl2⟩ := appended_touch7 (R := fun x => x = wr.heap.size) rfl hv (by decide) hr hown' hgrow; have hc1 := hv1.cell; have hf1 := hv1.frozen)
    exact ⟨hk2.from _, hbl2 wr.heap.size (by omega) (by omega) (by omega), ⟨_, hv2, by rw [HL.out, HF.out]; first | exact hr2 | (rw [hs0] at hr2; exact hr2)⟩, ht2 W0 ht (Nat.le_refl _)⟩
  case stop =>
    rintro D c pre W _ _ h _
    exact h.elim
  case done =>
    rintro D ys W hD hys ⟨⟨v, hv', hr, _⟩, ht⟩ hDK
    subst hys
    rw [List.length_range] at hr
    have hOW := hO.box rfl hbel1 (by omega) ht
    obtain ⟨lv', hLV⟩ : ∃ lv', ArenaL W B a c cs lv' (flat F (List.range n)) n 0 := by
      obtain ⟨⟨lv', h, _⟩, _⟩ := hOW.arx
      exact ⟨lv', h⟩
    obtain ⟨a1, k1, hveq⟩ := row_form hr
    subst hveq
    have hrl := hRb.lt
    have hRb2 : Blk W rb #[.bool false] 4 := (hRb.grew hbel1).touch ht (by omega)
    have SM := Lib.hid (fun W' (hb : Below W.heap.size W W') => same_own (own_grew hr hb) (own_grew hOW.doc.log hb) (by omega))
    have FA := Lib.hid (fun W' (hb : Below W.heap.size W W') => faults_at ((hLV.grew hb).at'))
    have SQ := Lib.hid (fun W' (hb : Below W.heap.size W W') => show W'.cell? ⟨wr.heap.size, 0, none⟩ = some (.slice a1 n k1) ∧ W'.cell? ⟨f, 9, none⟩ = some (.pointer (some ⟨a, 0, none⟩)) ∧ W'.cell? ⟨f, 10, none⟩ = some (.pointer (some ⟨M, 0, none⟩)) ∧ W'.cell? ⟨M, 1, none⟩ = some lm from
      ⟨(Blk.grew hv' hb).val 0 rfl, (Blk.grew hOW.fl hb).val 9 rfl, (Blk.grew hOW.fl hb).val 10 rfl, (Blk.grew hOW.doc.own hb).val 1 rfl⟩)
    have RQ := Lib.hid (fun W' (hb : Below W.heap.size W W') => And.intro ((Blk.grew hRb2 hb).val 0 rfl) ((Blk.grew hRb2 hb).frozen 0))
    have HD9 := Lib.hid (fun W' (hb : Below W.heap.size W W') => show W'.heap[D]? = some (.deferred (some [])) from (hb.block D (Array.getElem?_eq_some_iff.1 hDK).1).trans hDK)
    have HW9 := Lib.hid (fun W' (hb : Below W.heap.size W W') => show Below w0.heap.size w0 W' from hOW.bel.trans (hb.mono hOW.bel.size))
    have hne1 : wr.heap.size ≠ rb := by omega
    have hne2 : M ≠ rb := blk_ne hOW.doc.own hRb2 (by decide)
    have hne3 : f ≠ rb := blk_ne hOW.fl hRb2 (by decide)
    have hDw : w0.heap.size ≤ D := by have := hO.bel.size; omega
    have hd' : Below W.heap.size W W.drew := (Below.refl _ _).drew
    clear hO hOW hLV hLW hgK ht hbel1 b21 b4 hv' hr hRb
    go_wp2_with fail
    go_region_held3 (fun W' => W'.cell? ⟨wr.heap.size, 0, none⟩ = some (.slice a1 n k1) ∧ W'.cell? ⟨f, 9, none⟩ = some (.pointer (some ⟨a, 0, none⟩)) ∧ W'.cell? ⟨f, 10, none⟩ = some (.pointer (some ⟨M, 0, none⟩)) ∧ W'.cell? ⟨M, 1, none⟩ = some lm)
      (first | (with_reducible exact SQ.out _ (by assumption)) | (obtain ⟨s1, s2, s3, s4⟩ := SQ.out _ h11; exact ⟨(World.cell?_setCell_other w11 ⟨rb, 0, none⟩ _ _ (by first | (simp; done) | (simp; omega))).trans s1, (World.cell?_setCell_other w11 ⟨rb, 0, none⟩ _ _ (by first | (simp; done) | (simp; omega))).trans s2, (World.cell?_setCell_other w11 ⟨rb, 0, none⟩ _ _ (by first | (simp; done) | (simp; omega))).trans s3, (World.cell?_setCell_other w11 ⟨rb, 0, none⟩ _ _ (by first | (simp; done) | (simp; omega))).trans s4⟩))
      (first
        | (go_at_call 59; refine (FA.out _ hd').mono ?_; rintro e w8' ⟨rfl, hq8⟩; have h8 := hd'.trans hq8.below)
        | (go_at_call 60; refine (SM.out _ h8).mono ?_; rintro e w11 ⟨rfl, hq11⟩; have h11 := h8.trans hq11.below; have zr9 := (RQ.out _ h11).1; have zf9 := (RQ.out _ h11).2))
    have e0 : (w11.setCell ⟨rb, 0, none⟩ (.bool true)).cell? ⟨rb, 0, none⟩ = some (.bool true) := (Blk.set (Blk.grew hRb2 h11) 0 (.bool true)).val 0 rfl
    have eD : (w11.setCell ⟨rb, 0, none⟩ (.bool true)).heap[D]? = some (.deferred (some [])) := (KeepsOthers.setCell w11 _ _).same D _ (HD9.out _ h11) rfl
    have eB : Below w0.heap.size w0 (w11.setCell ⟨rb, 0, none⟩ (.bool true)) := (HW9.out _ h11).setCell (by simp; omega) _
    generalize w11.setCell ⟨rb, 0, none⟩ (.bool true) = wz at *
    go_wp2
    refine ⟨by simp, .inl ⟨_, _, rfl, run_takeDeferred eD, ?_⟩⟩
    have e0' := cell_kept e0 (grownBy_putObj' _ D (.deferred none)) (fun r e => by cases e; exact ⟨_, eD, rfl⟩)
    refine ⟨.bool true, ?_, ⟨rfl, eB.trans (belowK_b (w := w0) (Nat.le_refl _) _ D _ _ (by omega) eD rfl rfl)⟩⟩
    simp [results, Tryz.f18, go_sem, e0']
end
end Go.Proofs.YtnodeojeijekcaaGreat
