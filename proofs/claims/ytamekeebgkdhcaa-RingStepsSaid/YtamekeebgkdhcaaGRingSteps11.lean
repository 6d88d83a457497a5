/- Texts of this seat, one behind the other: each says at its head what it holds. No condition of its own. -/
import Derived.Laws.StructEq
import Derived.Deep.QuietTactic
import Derived.BigQuiet
import Derived.Test.YtamekeebgkdhcaaGRingSteps05
import Derived.Test.YtamekeebgkdhcaaGRingSteps10
/- waits: do all rings have the words that the document says? Condition: both arenas hold the same cells, as great as the plan. -/
namespace Go.Proofs.Ytamekeebgkdhcaa
open Go.RowKit
set_option linter.unusedVariables false
structure WtS (w : World) (B a c M d n bq bm : Nat) (cs : List Int) (P : Int) (T : Nat) (R : Int) (lm : Value) (W : World) : Prop where
  ary : Ary W B a c cs n []
  own : Blk W M #[.slice (some ⟨d, 0, none⟩) cs.length cs.length, lm, .int .i64 0] 36
  row : Blk W d (cs.map (Value.int .u64)).toArray 41
  q : Blk W bq #[.int .i64 P, .int .i64 (T : Int), .int .i64 R] 23
  mp : Blk W bm #[.int .i64 P, .int .i64 (T : Int), .int .i64 R, .int .i64 (baseI P (T : Int) R), .int .i64 (tabI (T : Int) R), .int .i64 (baseI P (T : Int) R + 64 * P)] 38
  bel : Below w.heap.size w W
section
variable {w W W' : World} {B a c M d n bq bm : Nat} {cs : List Int} {P : Int} {T : Nat} {R : Int} {lm : Value}
theorem WtS.grew (h : WtS w B a c M d n bq bm cs P T R lm W) (hb : Below W.heap.size W W') : WtS w B a c M d n bq bm cs P T R lm W' := ⟨h.ary.grew hb, h.own.grew hb, h.row.grew hb, h.q.grew hb, h.mp.grew hb, h.bel.trans (hb.mono h.bel.size)⟩
theorem WtS.drew (h : WtS w B a c M d n bq bm cs P T R lm W) : WtS w B a c M d n bq bm cs P T R lm W.drew := h.grew (Quiet.below ⟨1, rfl⟩)
theorem WtS.three (h : WtS w B a c M d n bq bm cs P T R lm W) : W.cell? ⟨bq, 0, none⟩ = some (.int .i64 P) ∧ W.cell? ⟨bq, 1, none⟩ = some (.int .i64 (T : Int)) ∧ W.cell? ⟨bq, 2, none⟩ = some (.int .i64 R) := ⟨h.q.val 0 rfl, h.q.val 1 rfl, h.q.val 2 rfl⟩
theorem WtS.seven (h : WtS w B a c M d n bq bm cs P T R lm W) : W.cell? ⟨M, 0, none⟩ = some (.slice (some ⟨d, 0, none⟩) cs.length cs.length) ∧ (W.cell? ⟨bm, 0, none⟩ = some (.int .i64 P) ∧ W.cell? ⟨bm, 1, none⟩ = some (.int .i64 (T : Int)) ∧ W.cell? ⟨bm, 2, none⟩ = some (.int .i64 R) ∧ W.cell? ⟨bm, 3, none⟩ = some (.int .i64 (baseI P (T : Int) R)) ∧ W.cell? ⟨bm, 4, none⟩ = some (.int .i64 (tabI (T : Int) R)) ∧ W.cell? ⟨bm, 5, none⟩ = some (.int .i64 (baseI P (T : Int) R + 64 * P))) :=
  ⟨h.own.val 0 rfl, h.mp.val 0 rfl, h.mp.val 1 rfl, h.mp.val 2 rfl, h.mp.val 3 rfl, h.mp.val 4 rfl, h.mp.val 5 rfl⟩
end
set_option maxRecDepth 100000 in
set_option maxHeartbeats 4000000 in
theorem waits_any {B a c M d n : Nat} {cs : List Int} {P : Int} {T : Nat} {R : Int} {lm : Value} (w : World) (hA : Ary w B a c cs n []) (hM : Blk w M #[.slice (some ⟨d, 0, none⟩) cs.length cs.length, lm, .int .i64 0] 36) (hD : Blk w d (cs.map (Value.int .u64)).toArray 41) (hPl : Right P (T : Int) R) (hl : cs.length = cellsN P (T : Int) R) (hT : T ≤ 6) :
    Calls Try.prog 19 #[.pointer (some ⟨a, 0, none⟩), .pointer (some ⟨M, 0, none⟩), .agg #[.int .i64 P, .int .i64 (T : Int), .int .i64 R]] w fun e w' => e = .returned (.bool true) ∧ Below w.heap.size w w' := by
  have hx : Hid (∀ t : Nat, t < T → exB P (T : Int) R (t : Int) = true) := Lib.hid (fun t ht => by
    unfold exB
    rw [of_right hPl]
    simp [inB]; omega)
  have DR := Lib.hid (fun W => draw_yes P (T : Int) R W hPl)
  have PL := Lib.hid (fun W => rplan_any P (T : Int) R W)
  have HL := Lib.hid hl
  have b0 : Below w.heap.size w (w.alloc (.cells #[.int .i64 P, .int .i64 (T : Int), .int .i64 R] 23)) := (Below.refl _ _).alloc (Nat.le_refl _) _
  have hQ := Blk.new w #[.int .i64 P, .int .i64 (T : Int), .int .i64 R] 23
  have g0 := hQ.val 0 rfl
  have g1 := hQ.val 1 rfl
  have g2 := hQ.val 2 rfl
  have hA0 := hA.grew b0
  have hM0 := hM.grew b0
  have hD0 := hD.grew b0
  clear hA hM hD hPl hl
  go_enter Try.func19, Try.ntmps19
  go_wp2_with fail
  generalize hw0 : w.alloc _ = w0 at *
  clear hw0
  refine (DR.out _).mono ?_
  rintro e w1 ⟨rfl, hb1⟩
  unfold mapV
  have b1 : Below w0.heap.size w0 (w1.alloc (.cells #[.int .i64 P, .int .i64 (T : Int), .int .i64 R, .int .i64 (baseI P (T : Int) R), .int .i64 (tabI (T : Int) R), .int .i64 (baseI P (T : Int) R + 64 * P)] 38)) := hb1.alloc hb1.size _
  have hS : WtS w B a c M d n w.heap.size w1.heap.size cs P T R lm (w1.alloc (.cells #[.int .i64 P, .int .i64 (T : Int), .int .i64 R, .int .i64 (baseI P (T : Int) R), .int .i64 (tabI (T : Int) R), .int .i64 (baseI P (T : Int) R + 64 * P)] 38)) := ⟨hA0.grew b1, hM0.grew b1, hD0.grew b1, hQ.grew b1, Blk.new _ _ _, b0.trans (b1.mono b0.size)⟩
  clear hA0 hM0 hD0 hQ b0 b1 hb1 g0 g1 g2
  have HS := Lib.hid hS
  clear hS
  go_wp2_with fail
  generalize w1.heap.size = bm at *
  generalize World.alloc w1 _ = w2 at *
  go_loopw [8] (fun s8 wr => ∃ t : Nat, t ≤ T ∧ s8 = .int .i64 t ∧ WtS w B a c M d n w.heap.size bm cs P T R lm wr) (fun t _ => T - (intOf t).toNat)
  case atStart => exact ⟨0, by omega, rfl, HS.out⟩
  case round =>
    clear HS
    obtain ⟨t, ht, rfl, hS⟩ := hrel
    obtain ⟨g0, g1, g2⟩ := hS.three
    by_cases hlt : t < T
    · have h1 : (t : Int) < (T : Int) := by omega
      have hxt := hx.out t hlt
      obtain ⟨hd, hhd⟩ : ∃ hd, cs.getD (ownN R (t : Int) 3) 0 = hd := ⟨_, rfl⟩
      obtain ⟨tl, htl⟩ : ∃ tl, cs.getD (ownN R (t : Int) 4) 0 = tl := ⟨_, rfl⟩
      obtain ⟨k, hk⟩ : ∃ k : Nat, IntKind.u64.wrap (tl - hd) = (k : Int) := ⟨(IntKind.u64.wrap (tl - hd)).toNat, by have := (wrap_U64 (tl - hd)).1; omega⟩
      by_cases hkR : (k : Int) ≤ R
      · have W1 := Lib.hid (fun W (q : Ary W B a c cs n []) => waiting_yes P (T : Int) R (t : Int) hd tl k W q hxt HL.out hhd htl hk hkR)
        have W2 := Lib.hid (fun W (q : Blk W d (cs.map (Value.int .u64)).toArray 41) => rwaiting_yes P (T : Int) R (baseI P (T : Int) R) (tabI (T : Int) R) (baseI P (T : Int) R + 64 * P) (t : Int) hd tl k W q rfl hxt HL.out hhd htl hk hkR)
        clear hhd htl hk hxt
        go_wp2_with fail
        refine (PL.out _).mono ?_
        rintro e w3 ⟨rfl, hb3⟩
        have hS3 := hS.grew hb3
        clear hS hb3 g0 g1 g2
        go_wp2_with fail
        refine (W1.out _ hS3.ary).mono ?_
        rintro e w4 ⟨v1, rfl, ho1, hb4⟩
        have hS4 := hS3.grew hb4
        have hsv := hS4.seven
        have hd4 := hS4.drew
        clear hS3 hb4
        obtain ⟨a1, c1, rfl⟩ : ∃ a1 c1, v1 = .slice a1 k c1 := by
          rcases ho1.2 with ⟨h1, h2⟩ | ⟨g, cap, cur, h1, _⟩
          · exact ⟨none, 0, by rw [h1, h2]⟩
          · exact ⟨_, cap, h1⟩
        obtain ⟨y0, y1, y2, y3, y4, y5, y6⟩ := hsv
        go_wp2_with fail
        go_region_held3 (fun W => W.cell? ⟨M, 0, none⟩ = some (.slice (some ⟨d, 0, none⟩) cs.length cs.length) ∧ (W.cell? ⟨bm, 0, none⟩ = some (.int .i64 P) ∧ W.cell? ⟨bm, 1, none⟩ = some (.int .i64 (T : Int)) ∧ W.cell? ⟨bm, 2, none⟩ = some (.int .i64 R) ∧ W.cell? ⟨bm, 3, none⟩ = some (.int .i64 (baseI P (T : Int) R)) ∧ W.cell? ⟨bm, 4, none⟩ = some (.int .i64 (tabI (T : Int) R)) ∧ W.cell? ⟨bm, 5, none⟩ = some (.int .i64 (baseI P (T : Int) R + 64 * P))))
          (first | (with_reducible exact WtS.seven (by assumption)))
          (first | (go_at_call 45; refine (W2.out _ hd4.row).mono ?_; rintro e w5 ⟨v2, rfl, ho2, hb5⟩; have hS5 := hd4.grew hb5))
        have ho1' := own_grew (own_grew ho1 (Quiet.below ⟨1, rfl⟩ : Below w4.heap.size w4 w4.drew)) hb5
        have WW := Lib.hid (words_any _ _ _ w5 (lst_of_own ho1') (lst_of_own ho2))
        clear ho1 ho2 ho1' hb5 hd4 hS4 y0 y1 y2 y3 y4 y5 y6
        go_wp2_with fail
        refine WW.out.mono ?_
        rintro e w6 ⟨rfl, hq6⟩
        have hS6 := hS5.grew hq6.below
        go_wp2
        go_roundw
        case rel => exact ⟨t + 1, by omega, by go_num, hS6⟩
        case measure => simp [intOf]; omega
      · have W1 := Lib.hid (fun W (q : Ary W B a c cs n []) => waiting_bad P (T : Int) R (t : Int) hd tl k W q hxt HL.out hhd htl hk (by omega))
        have W2 := Lib.hid (fun W (q : Blk W d (cs.map (Value.int .u64)).toArray 41) => rwaiting_bad P (T : Int) R (baseI P (T : Int) R) (tabI (T : Int) R) (baseI P (T : Int) R + 64 * P) (t : Int) hd tl k W q rfl hxt HL.out hhd htl hk (by omega))
        clear hhd htl hk hxt
        go_wp2_with fail
        refine (PL.out _).mono ?_
        rintro e w3 ⟨rfl, hb3⟩
        have hS3 := hS.grew hb3
        clear hS hb3 g0 g1 g2
        go_wp2_with fail
        refine (W1.out _ hS3.ary).mono ?_
        rintro e w4 ⟨rfl, hb4⟩
        have hS4 := hS3.grew hb4
        have hsv := hS4.seven
        have hd4 := hS4.drew
        clear hS3 hb4
        obtain ⟨y0, y1, y2, y3, y4, y5, y6⟩ := hsv
        go_wp2_with fail
        go_region_held3 (fun W => W.cell? ⟨M, 0, none⟩ = some (.slice (some ⟨d, 0, none⟩) cs.length cs.length) ∧ (W.cell? ⟨bm, 0, none⟩ = some (.int .i64 P) ∧ W.cell? ⟨bm, 1, none⟩ = some (.int .i64 (T : Int)) ∧ W.cell? ⟨bm, 2, none⟩ = some (.int .i64 R) ∧ W.cell? ⟨bm, 3, none⟩ = some (.int .i64 (baseI P (T : Int) R)) ∧ W.cell? ⟨bm, 4, none⟩ = some (.int .i64 (tabI (T : Int) R)) ∧ W.cell? ⟨bm, 5, none⟩ = some (.int .i64 (baseI P (T : Int) R + 64 * P))))
          (first | (with_reducible exact WtS.seven (by assumption)))
          (first | (go_at_call 45; refine (W2.out _ hd4.row).mono ?_; rintro e w5 ⟨rfl, hb5⟩; have hS5 := hd4.grew hb5))
        clear hb5 hd4 hS4 y0 y1 y2 y3 y4 y5 y6
        go_wp2_with fail
        refine (words_none none none 0 0 _).mono ?_
        rintro e w6 ⟨rfl, hq6⟩
        have hS6 := hS5.grew hq6.below
        go_wp2
        go_roundw
        case rel => exact ⟨t + 1, by omega, by go_num, hS6⟩
        case measure => simp [intOf]; omega
    · go_wp2
      go_ret
      exact ⟨rfl, hS.bel⟩
end Go.Proofs.Ytamekeebgkdhcaa
/- SameLog of the document at two logs of the same accesses. No condition but that they are short. -/
namespace Go.Proofs.Ytamekeebgkdhcaa
open Go.RowKit
set_option linter.unusedVariables false
theorem fields7 {l : List Field} {t u : TypeId} (h : l.map (fun f => (f.type, f.offset, f.name == "_")) = [(t, 0, false), (t, 1, false), (t, 2, false), (u, 3, false), (u, 4, false), (u, 5, false), (u, 6, false)]) :
    ∃ f0 f1 f2 f3 f4 f5 f6, l = [f0, f1, f2, f3, f4, f5, f6] ∧ (f0.type = t ∧ f0.offset = 0 ∧ ¬ f0.name = "_") ∧ (f1.type = t ∧ f1.offset = 1 ∧ ¬ f1.name = "_") ∧ (f2.type = t ∧ f2.offset = 2 ∧ ¬ f2.name = "_") ∧
      (f3.type = u ∧ f3.offset = 3 ∧ ¬ f3.name = "_") ∧ (f4.type = u ∧ f4.offset = 4 ∧ ¬ f4.name = "_") ∧ (f5.type = u ∧ f5.offset = 5 ∧ ¬ f5.name = "_") ∧ (f6.type = u ∧ f6.offset = 6 ∧ ¬ f6.name = "_") := by
  rcases l with _ | ⟨f0, _ | ⟨f1, _ | ⟨f2, _ | ⟨f3, _ | ⟨f4, _ | ⟨f5, _ | ⟨f6, _ | ⟨f7, l⟩⟩⟩⟩⟩⟩⟩⟩ <;> simp only [List.map_cons, List.map_nil, List.cons.injEq, Prod.mk.injEq, beq_eq_false_iff_ne, ne_eq, and_true, reduceCtorEq, and_false] at h
  exact ⟨f0, f1, f2, f3, f4, f5, f6, rfl, h.1, h.2.1, h.2.2.1, h.2.2.2.1, h.2.2.2.2.1, h.2.2.2.2.2.1, h.2.2.2.2.2.2⟩
theorem neq_acc (w : World) (a b c x y z u : Int) :
    (binOp .neq 56 (.agg #[.int .i64 a, .int .i64 b, .int .i64 c, .int .u64 x, .int .u64 y, .int .u64 z, .int .u64 u]) (.agg #[.int .i64 a, .int .i64 b, .int .i64 c, .int .u64 x, .int .u64 y, .int .u64 z, .int .u64 u])).run Try.prog w = .ok (.bool false) w := by
  rw [run_neq_struct, run_equalIn_agg w 9999 _ _ _ (by kernel_rfl) (by kernel_rfl)]
  obtain ⟨f0, f1, f2, f3, f4, f5, f6, hl, ⟨a1, a2, a3⟩, ⟨b1, b2, b3⟩, ⟨c1, c2, c3⟩, ⟨d1, d2, d3⟩, ⟨e1, e2, e3⟩, ⟨g1, g2, g3⟩, h1, h2, h3⟩ := fields7 (l := (Try.prog.fieldsOf 56).toList) (t := 3) (u := 41) (by kernel_rfl)
  rw [hl]
  have hi : Try.prog.underlying 3 = some (.int .i64) := by kernel_rfl
  have hj : Try.prog.underlying 41 = some (.int .u64) := by kernel_rfl
  simp [Op.eqFields, a1, a2, a3, b1, b2, b3, c1, c2, c3, d1, d2, d3, e1, e2, e3, g1, g2, g3, h1, h2, h3, go_sem, hi, hj]
theorem guard_acc : Try.prog.eqGuardType Try.prog.depth 56 = false := by kernel_rfl

set_option maxHeartbeats 2000000 in
theorem same_rows (b1 c1 b2 c2 n : Nat) (F : Nat → Nat → Int) (w : World) (hm : n ≤ 1000) (h1 : LogRow w b1 n F) (h2 : LogRow w b2 n F) :
    Calls Try.prog 18 #[.slice (some ⟨b1, 0, none⟩) n c1, .slice (some ⟨b2, 0, none⟩) n c2] w fun e w' => e = .returned (.bool true) ∧ Quiet w w' := by
  have hne : ((n : Int) != (n : Int)) = false := by simp
  have R1 := Lib.hid (fun k (hk : k < n) => h1.cell k hk)
  have R2 := Lib.hid (fun k (hk : k < n) => h2.cell k hk)
  have hG := guard_acc
  clear h1 h2
  go_enter Try.func18, Try.ntmps18
  go_wp2
  go_loopw [5] (fun i wr => ∃ k : Nat, k ≤ n ∧ i = .int .i64 k ∧ Quiet w wr) (fun i _ => n - (intOf i).toNat)
  case atStart => exact ⟨0, Nat.zero_le _, rfl, Quiet.refl _⟩
  case round =>
    obtain ⟨k, hk, rfl, hq⟩ := hrel
    by_cases hlt : k < n
    · obtain ⟨p0, p1, p2, p3, p4, p5, p6⟩ := R1.out k hlt
      obtain ⟨q0, q1, q2, q3, q4, q5, q6⟩ := R2.out k hlt
      have p0 := (hq.cell _).trans p0
      have p1 := (hq.cell _).trans p1
      have p2 := (hq.cell _).trans p2
      have p3 := (hq.cell _).trans p3
      have p4 := (hq.cell _).trans p4
      have p5 := (hq.cell _).trans p5
      have p6 := (hq.cell _).trans p6
      have q0 := (hq.cell _).trans q0
      have q1 := (hq.cell _).trans q1
      have q2 := (hq.cell _).trans q2
      have q3 := (hq.cell _).trans q3
      have q4 := (hq.cell _).trans q4
      have q5 := (hq.cell _).trans q5
      have q6 := (hq.cell _).trans q6
      have hE := fun W => neq_acc W (F k 0) (F k 1) (F k 2) (F k 3) (F k 4) (F k 5) (F k 6)
      have hlt' : (k : Int) < (n : Int) := by omega
      have hge' : (0 : Int) ≤ (k : Int) := by omega
      have h0n : 0 < n := by omega
      generalize F k 0 = z0 at *
      generalize F k 1 = z1 at *
      generalize F k 2 = z2 at *
      generalize F k 3 = z3 at *
      generalize F k 4 = z4 at *
      generalize F k 5 = z5 at *
      generalize F k 6 = z6 at *
      go_wp2
      go_quiet (fail)
      go_wp2
      go_roundw
      case rel => exact ⟨k + 1, by omega, by go_num, hq.trans ⟨_, rfl⟩⟩
      case measure => simp [intOf]; omega
    · go_wp2
      go_ret
      exact ⟨rfl, hq⟩
set_option maxHeartbeats 400000 in
theorem same_none (a1 a2 : Option Addr) (c1 c2 : Nat) (w : World) :
    Calls Try.prog 18 #[.slice a1 0 c1, .slice a2 0 c2] w fun e w' => e = .returned (.bool true) ∧ Quiet w w' := by
  go_enter Try.func18, Try.ntmps18
  go_wp2
  go_loopw [5] (fun i wr => i = .int .i64 0 ∧ Quiet w wr) (fun _ _ => 0)
  case atStart => exact ⟨rfl, Quiet.refl _⟩
  case round =>
    obtain ⟨rfl, hq⟩ := hrel
    go_wp2
    go_ret
    exact ⟨rfl, hq⟩
theorem same_own {w : World} {B1 B2 m : Nat} {v1 v2 : Value} {F : Nat → Nat → Int} (h1 : w.ownsRow B1 56 7 v1 m (flat F (List.range m))) (h2 : w.ownsRow B2 56 7 v2 m (flat F (List.range m))) (hm : m ≤ 1000) :
    Calls Try.prog 18 #[v1, v2] w fun e w' => e = .returned (.bool true) ∧ Quiet w w' := by
  obtain ⟨a1, c1, rfl⟩ := row_form h1
  obtain ⟨a2, c2, rfl⟩ := row_form h2
  by_cases h0 : 0 < m
  · obtain ⟨b1, rfl, -, r1⟩ := logrow h1 h0
    obtain ⟨b2, rfl, -, r2⟩ := logrow h2 h0
    exact same_rows b1 c1 b2 c2 m F w hm r1 r2
  · obtain rfl : m = 0 := by omega
    exact same_none a1 a2 c1 c2 w
end Go.Proofs.Ytamekeebgkdhcaa
