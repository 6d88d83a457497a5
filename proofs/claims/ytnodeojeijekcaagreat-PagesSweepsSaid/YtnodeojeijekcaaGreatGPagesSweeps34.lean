/- Texts of this seat, one behind the other: each says at its head what it holds. No condition of its own. -/
import Derived.Laws.StructEq
import Derived.Deep.QuietTactic
import Derived.BigQuiet
import Derived.Test.YtnodeojeijekcaaGreatGPagesSweeps33
/- PagesSweeps: what the law's own helpers do to the machine beside its tape: made, between. No condition but that the blocks are there. -/
namespace Go.Proofs.YtnodeojeijekcaaGreat
open Go.RowKit
set_option linter.unusedVariables false
def jAt (at' P : Int) : Int := wrap64 ((IntKind.u64.wrap at').tmod P)
theorem jAt_bd {at' P : Int} (hP : 1 ≤ P ∧ P ≤ 5) : 0 ≤ jAt at' P ∧ jAt at' P < P := by
  unfold jAt
  have hw : 0 ≤ IntKind.u64.wrap at' := by rw [IntKind.wrap_u64]; omega
  generalize IntKind.u64.wrap at' = y at *
  have e : y.tmod P = y % P := by rw [Int.tmod_eq_emod_of_nonneg hw]
  have h2 : 0 ≤ y % P := Int.emod_nonneg _ (by omega)
  have h3 : y % P < P := Int.emod_lt_of_pos _ (by omega)
  rw [e, IntWalk.wrap64_in _ (by omega)]
  exact ⟨h2, h3⟩
section
variable {w0 W W' : World} {B f s M d x p a c : Nat} {P T : Int} {σ : Sw} {cs : List Int} {F : Nat → Nat → Int} {n : Nat} {cs2 : List Int} {F2 : Nat → Nat → Int} {n2 : Nat} {t : Tp} {o : Bool} {K : List Nat} {lm hv : Value} {N : Nat}
theorem PtS.cells (h : PtS w0 B f s M d x p a c P T σ cs F n cs2 F2 n2 t o K lm hv W) (hc : cs2.length = N) : (W.cell? ⟨f, 3, none⟩ = some (.int .i64 P) ∧ W.cell? ⟨f, 4, none⟩ = some (.int .i64 T) ∧ W.cell? ⟨f, 5, none⟩ = some (.int .i64 1) ∧ W.cell? ⟨f, 6, none⟩ = some (.int .i64 (baseI P T 1)) ∧ W.cell? ⟨f, 7, none⟩ = some (.int .i64 (tabI T 1)) ∧ W.cell? ⟨f, 8, none⟩ = some (.int .i64 (baseI P T 1 + 64 * P))) ∧ W.cell? ⟨f, 9, none⟩ = some (.pointer (some ⟨a, 0, none⟩)) ∧ W.cell? ⟨f, 10, none⟩ = some (.pointer (some ⟨M, 0, none⟩)) ∧ W.cell? ⟨M, 0, none⟩ = some (.slice (some ⟨d, 0, none⟩) N N) := by
  have := h.doc.own.val 0 rfl
  rw [hc] at this
  exact ⟨⟨h.fl.val 3 rfl, h.fl.val 4 rfl, h.fl.val 5 rfl, h.fl.val 6 rfl, h.fl.val 7 rfl, h.fl.val 8 rfl⟩, h.fl.val 9 rfl, h.fl.val 10 rfl, this⟩
set_option maxRecDepth 100000 in
set_option maxHeartbeats 1000000 in
theorem PtS.madeF (i : Nat) (h : PtS w0 B f s M d x p a c P T σ cs F n cs2 F2 n2 t o K lm hv W) (hk : 1 ≤ t.k ∧ t.k ≤ 6) (ha : t.a = (i : Int)) (hi : i < cs2.length) (hn : n2 < 1000000) (hH : t.H.length < 1000000) :
    Calls Tryz.prog 11 #[.pointer (some ⟨f, 0, none⟩), .pointer (some ⟨x, 0, none⟩)] W fun e w' => (∃ v, e = .returned v) ∧ ∃ K' lm' hv',
      PtS w0 B f s M d x p a c P T σ cs F n (cs2.set i (leftI t.k (cs2.getD i 0) t.wn t.p)) (more F2 n2 15 t.k i t.wn t.p (cs2.getD i 0) (leftI t.k (cs2.getD i 0) t.wn t.p)) (n2 + 1) ({ t with H := t.H ++ [cs2.getD i 0] } : Tp).again true K' lm' hv' w' := by
  have G1 := Lib.hid h.grant
  have G2 := Lib.hid (fun W (h : PtS w0 B f s M d x p a c P T σ cs F n cs2 F2 n2 t true K lm hv W) => h.make i hk ha hi hn hH)
  have f11 : W.cell? ⟨f, 11, none⟩ = some (.pointer (some ⟨p, 0, none⟩)) := h.fl.val 11 rfl
  clear h hk ha hi hn hH
  go_enter Tryz.func11, Tryz.ntmps11
  go_wp2_with fail
  refine G1.out.mono ?_; rintro e w1 ⟨⟨v1, rfl⟩, h1⟩
  have f10 : w1.cell? ⟨f, 10, none⟩ = some (.pointer (some ⟨M, 0, none⟩)) := h1.fl.val 10 rfl
  clear f11 G1
  go_wp2_with fail
  refine (G2.out _ h1).mono ?_; rintro e w2 ⟨⟨v2, rfl⟩, K', lm', hv', h2⟩
  have G3 := Lib.hid h2.again
  clear f10 h1 h2 G2
  go_wp2_with fail
  refine G3.out.mono ?_; rintro e w3 ⟨⟨v3, rfl⟩, h3⟩
  replace h3 := Lib.hid h3
  clear G3
  go_wp2
  go_end0
  exact ⟨⟨_, rfl⟩, K', lm', hv', h3.out⟩
set_option maxRecDepth 100000 in
set_option maxHeartbeats 2000000 in
theorem PtS.between (h : PtS w0 B f s M d x p a c P T σ cs F n cs2 F2 n2 t o K lm hv W) (hP : 1 ≤ P ∧ P ≤ 5) (hT : 1 ≤ T ∧ T ≤ 3) (hc : cs.length = N) (hc2 : cs2.length = N) (hN : cellsN P T 1 = N) (k' c' s' o' y' od al ma at' : Int) :
    Calls Tryz.prog 34 #[.pointer (some ⟨f, 0, none⟩), .agg #[.int .i64 k', .int .i64 c', .int .i64 s', .int .i64 o', .int .i64 y', .int .u64 od, .int .u64 al, .int .u64 ma], .int .i64 at'] W fun e w' => (∃ v, e = .returned v) ∧
      PtS w0 B f s M d x p a c P T σ (cs.set (pE T + (jAt at' P).toNat) (eencV k' c' s' o' y')) F n (cs2.set (pE T + (jAt at' P).toNat) (eencV k' c' s' o' y')) F2 n2 t o K lm hv w' := by
  have hb := jAt_bd (at' := at') hP
  obtain ⟨⟨q0, q1⟩, _⟩ := pq_at (k := (jAt at' P).toNat) hP hT (by omega)
  rw [hN] at q1
  have hN5 := (cellsN_bd (right_small hP hT)).2.2
  rw [hN] at hN5
  have hj : ((jAt at' P).toNat : Int) = jAt at' P := by omega
  rw [hj] at q0
  have PG := Lib.hid (fun W => pmPage_any P T 1 (baseI P T 1) (tabI T 1) (baseI P T 1 + 64 * P) (jAt at' P) W)
  rw [q0] at PG
  have EE := Lib.hid (fun W => reenc_any k' c' s' o' y' W)
  generalize pE T + (jAt at' P).toNat = q at *
  generalize eencV k' c' s' o' y' = z at *
  have wP : IntKind.u64.wrap P = P := by rw [IntKind.wrap_u64]; omega
  have hj2 := Lib.hid (show wrap64 ((IntKind.u64.wrap at').tmod P) = jAt at' P from rfl)
  generalize jAt at' P = j at *
  have hP0 : P ≠ 0 := by omega
  have hq0 : (0 : Int) ≤ (q : Int) := by omega
  have hq1 : (q : Int) < (N : Int) := by omega
  clear hP hT hN hb hj q0
  go_enter Tryz.func34, Tryz.ntmps34
  go_upto_region 1 with fail
  have hX : Blk (W.alloc (.cells #[.int .i64 k', .int .i64 c', .int .i64 s', .int .i64 o', .int .i64 y', .int .u64 od, .int .u64 al, .int .u64 ma] 73)) W.heap.size #[.int .i64 k', .int .i64 c', .int .i64 s', .int .i64 o', .int .i64 y', .int .u64 od, .int .u64 al, .int .u64 ma] 73 := Blk.new _ _ _
  have h1 := h.grew ((Below.refl _ W).alloc (Nat.le_refl _) (.cells #[.int .i64 k', .int .i64 c', .int .i64 s', .int .i64 o', .int .i64 y', .int .u64 od, .int .u64 al, .int .u64 ma] 73))
  generalize W.alloc (.cells #[.int .i64 k', .int .i64 c', .int .i64 s', .int .i64 o', .int .i64 y', .int .u64 od, .int .u64 al, .int .u64 ma] 73) = W1 at *
  have e0 := hX.val 0 rfl
  have e1 := hX.val 1 rfl
  have e2 := hX.val 2 rfl
  have e3 := hX.val 3 rfl
  have e4 := hX.val 4 rfl
  clear h hX
  go_wp2_with fail
  refine (EE.out _).mono ?_; rintro e w2 ⟨rfl, hb2⟩
  have h2 := h1.grew hb2
  clear e0 e1 e2 e3 e4 h1 hb2 EE
  have f0 : w2.cell? ⟨f, 0, none⟩ = some (.int .i64 P) := h2.fl.val 0 rfl
  go_upto_region 3 with fail
  rw [hj2.out]
  clear f0
  have h2d := h2.drew
  have hc3 : (cs2.set q z).length = N := by simp [hc2]
  go_wp2_with fail
  go_region_held3 (fun W => (W.cell? ⟨f, 3, none⟩ = some (.int .i64 P) ∧ W.cell? ⟨f, 4, none⟩ = some (.int .i64 T) ∧ W.cell? ⟨f, 5, none⟩ = some (.int .i64 1) ∧ W.cell? ⟨f, 6, none⟩ = some (.int .i64 (baseI P T 1)) ∧ W.cell? ⟨f, 7, none⟩ = some (.int .i64 (tabI T 1)) ∧ W.cell? ⟨f, 8, none⟩ = some (.int .i64 (baseI P T 1 + 64 * P))) ∧ W.cell? ⟨f, 9, none⟩ = some (.pointer (some ⟨a, 0, none⟩)) ∧ W.cell? ⟨f, 10, none⟩ = some (.pointer (some ⟨M, 0, none⟩)) ∧ W.cell? ⟨M, 0, none⟩ = some (.slice (some ⟨d, 0, none⟩) N N))
    ((first | (with_reducible exact PtS.cells (by assumption) hc2) | (with_reducible exact PtS.cells (by assumption) hc3)))
    (first
      | (go_at_call 24; refine (PG.out _).mono ?_; rintro e w3 ⟨rfl, hb3⟩; have h3 := PtS.grew h2d hb3; have r1 := h3.doc.cell q (by omega); have r2 := h3.doc.row.frozen q; have h4 := h3.put q z))
  generalize w3.setCell ⟨d, q, none⟩ (.int .u64 z) = W4 at *
  clear r1 r2 h3 hb3 h2d h2
  have h4d := h4.drew
  have PK := Lib.hid (fun W (h : PtS w0 B f s M d x p a c P T σ cs F n (cs2.set q z) F2 n2 t o K lm hv W) => h.poke (i := q) z (by omega) (by omega))
  go_wp2_with fail
  go_region_held3 (fun W => (W.cell? ⟨f, 3, none⟩ = some (.int .i64 P) ∧ W.cell? ⟨f, 4, none⟩ = some (.int .i64 T) ∧ W.cell? ⟨f, 5, none⟩ = some (.int .i64 1) ∧ W.cell? ⟨f, 6, none⟩ = some (.int .i64 (baseI P T 1)) ∧ W.cell? ⟨f, 7, none⟩ = some (.int .i64 (tabI T 1)) ∧ W.cell? ⟨f, 8, none⟩ = some (.int .i64 (baseI P T 1 + 64 * P))) ∧ W.cell? ⟨f, 9, none⟩ = some (.pointer (some ⟨a, 0, none⟩)) ∧ W.cell? ⟨f, 10, none⟩ = some (.pointer (some ⟨M, 0, none⟩)) ∧ W.cell? ⟨M, 0, none⟩ = some (.slice (some ⟨d, 0, none⟩) N N))
    ((with_reducible exact PtS.cells (by assumption) hc3))
    (first
      | (go_at_call 24; refine (PG.out _).mono ?_; rintro e w5 ⟨rfl, hb5⟩; have h5 := PtS.grew h4d hb5)
      | (go_at_call 27; refine (PK.out _ (by assumption)).mono ?_; rintro e w6 ⟨rfl, h6⟩))
  replace h6 := Lib.hid h6
  clear h5 hb5 h4d h4 PK PG
  go_wp2
  go_end0
  exact ⟨⟨_, rfl⟩, h6.out⟩
end
end Go.Proofs.YtnodeojeijekcaaGreat
/- PagesSweeps: the turns of others, ahead of a step. Condition: the turns are read in full. -/
namespace Go.Proofs.YtnodeojeijekcaaGreat
open Go.RowKit
set_option linter.unusedVariables false
/-- a turn, as the law is given it -/
structure TnD where
  (n at' k c s o y : Int)
def ElTn (w : World) (b i : Nat) (x : TnD) : Prop := (w.cell? ⟨b, i, none⟩ = some (.int .i64 x.n) ∧ w.cell? ⟨b, i + 1, none⟩ = some (.int .i64 x.at')) ∧ (w.cell? ⟨b, i + 2, none⟩ = some (.int .i64 x.k) ∧ w.cell? ⟨b, i + 3, none⟩ = some (.int .i64 x.c) ∧ w.cell? ⟨b, i + 4, none⟩ = some (.int .i64 x.s) ∧ w.cell? ⟨b, i + 5, none⟩ = some (.int .i64 x.o) ∧ w.cell? ⟨b, i + 6, none⟩ = some (.int .i64 x.y))
theorem ElTn.keep {B : Nat} {w w' : World} {b k : Nat} {x : TnD} (hb : Below B w w') (h0 : b < B) (h : ElTn w b k x) : ElTn w' b k x := by
  obtain ⟨⟨a1, a2⟩, a3, a4, a5, a6, a7⟩ := h
  exact ⟨⟨(hb.cell (p := ⟨b, _, none⟩) h0).trans a1, (hb.cell (p := ⟨b, _, none⟩) h0).trans a2⟩, (hb.cell (p := ⟨b, _, none⟩) h0).trans a3, (hb.cell (p := ⟨b, _, none⟩) h0).trans a4, (hb.cell (p := ⟨b, _, none⟩) h0).trans a5, (hb.cell (p := ⟨b, _, none⟩) h0).trans a6, (hb.cell (p := ⟨b, _, none⟩) h0).trans a7⟩
theorem ElTn.out {w : World} {b i : Nat} {x : TnD} (h : ElTn w b i x) : (w.cell? ⟨b, i, none⟩ = some (.int .i64 x.n) ∧ w.cell? ⟨b, i + 1, none⟩ = some (.int .i64 x.at')) ∧ (w.cell? ⟨b, i + 2, none⟩ = some (.int .i64 x.k) ∧ w.cell? ⟨b, i + 3, none⟩ = some (.int .i64 x.c) ∧ w.cell? ⟨b, i + 4, none⟩ = some (.int .i64 x.s) ∧ w.cell? ⟨b, i + 5, none⟩ = some (.int .i64 x.o) ∧ w.cell? ⟨b, i + 6, none⟩ = some (.int .i64 x.y)) := h
theorem eencV_U (k c s o y : Int) : U64 (eencV k c s o y) := by
  cases h : entB k c s o y with
  | true => rw [eencV_yes h]; exact (decE_of h).1
  | false =>
    have e : eencV k c s o y = 0 := by unfold eencV; rw [h]; rfl
    rw [e]; exact ⟨by decide, by decide⟩
theorem set_U {cs : List Int} (hu : ∀ z ∈ cs, U64 z) {v : Int} (hv : U64 v) (i : Nat) : ∀ z ∈ cs.set i v, U64 z := by
  intro z hz
  rcases List.mem_or_eq_of_mem_set hz with h | h
  · exact hu z h
  · rw [h]; exact hv
section
variable {w0 W W' : World} {B f s M d x p a c : Nat} {P T : Int} {σ : Sw} {cs : List Int} {F : Nat → Nat → Int} {n : Nat} {cs2 : List Int} {F2 : Nat → Nat → Int} {n2 : Nat} {t : Tp} {o : Bool} {K : List Nat} {lm hv : Value} {N : Nat}
set_option maxRecDepth 100000 in
set_option maxHeartbeats 2000000 in
theorem PtS.turns {l : List TnD} {v : Value} (h : PtS w0 B f s M d x p a c P T σ cs F n cs F2 n2 t o K lm hv W) (hl : RdRow 7 ElTn w0.heap.size w0 v l) (hP : 1 ≤ P ∧ P ≤ 5) (hT : 1 ≤ T ∧ T ≤ 3) (hc : cs.length = N) (hN : cellsN P T 1 = N) (hU : ∀ z ∈ cs, U64 z) (j : Int) :
    Calls Tryz.prog 8 #[.pointer (some ⟨f, 0, none⟩), v, .int .i64 j] W fun e w' => (∃ v, e = .returned v) ∧ ∃ cs', cs'.length = N ∧ (∀ z ∈ cs', U64 z) ∧ PtS w0 B f s M d x p a c P T σ cs' F n cs' F2 n2 t o K lm hv w' := by
  obtain ⟨a1, q1, rfl, hx⟩ := hl
  have hl : RdRow 7 ElTn w0.heap.size w0 (.slice a1 l.length q1) l := ⟨a1, q1, rfl, hx⟩
  have hmx : l.length ≤ maxLen := hx.1
  clear hx
  have RP := Lib.hid (fun W (hb : Below w0.heap.size w0 W) => hl.keep hb fun _ _ _ e r => r.keep hb e)
  have BT := Lib.hid (fun W cs (h : PtS w0 B f s M d x p a c P T σ cs F n cs F2 n2 t o K lm hv W) (hc : cs.length = N) k' c' s' o' y' at' => h.between hP hT hc hc hN k' c' s' o' y' 0 0 0 at')
  clear hl hP hT hN
  go_enter Tryz.func8, Tryz.ntmps8
  go_wp2_with fail
  go_loopw [6] (fun i wr => ∃ k : Nat, k ≤ min l.length 20 ∧ i = .int .i64 k ∧ ∃ cs', cs'.length = N ∧ (∀ z ∈ cs', U64 z) ∧ PtS w0 B f s M d x p a c P T σ cs' F n cs' F2 n2 t o K lm hv wr) (fun i _ => min l.length 20 - (intOf i).toNat)
  case atStart => exact ⟨0, Nat.zero_le _, rfl, cs, hc, hU, h⟩
  case round =>
    clear h hc hU
    obtain ⟨k, hk, rfl, cs3, hc, hU, h⟩ := hrel
    by_cases hkl : k < l.length
    · have hk1 : (k : Int) < (l.length : Int) := by omega
      by_cases hk2 : k < 20
      · have hk20 : (k : Int) < 20 := by omega
        obtain ⟨b, q, rfl, hbw, hel00⟩ := rd_at (RP.out _ (Below.refl _ _)) hkl
        have EL := Lib.hid (fun W (hb : Below w0.heap.size w0 W) => ElTn.out (ElTn.keep hb hbw hel00))
        have hel0 := EL.out _ h.bel
        clear hel00
        generalize l[k] = tn at *
        obtain ⟨⟨e0, e1⟩, e2, e3, e4, e5, e6⟩ := hel0
        by_cases hnj : tn.n = j
        · have hnj' : (tn.n == j) = true := by simp [hnj]
          clear hnj
          have hd := h.drew
          have hU2 := Lib.hid (set_U hU (eencV_U tn.k tn.c tn.s tn.o tn.y) (pE T + (jAt tn.at' P).toNat))
          go_upto_region 4 with fail
          go_region_held3 (fun W => (W.cell? ⟨b, q + k * 7, none⟩ = some (.int .i64 tn.n) ∧ W.cell? ⟨b, q + k * 7 + 1, none⟩ = some (.int .i64 tn.at')) ∧ (W.cell? ⟨b, q + k * 7 + 2, none⟩ = some (.int .i64 tn.k) ∧ W.cell? ⟨b, q + k * 7 + 3, none⟩ = some (.int .i64 tn.c) ∧ W.cell? ⟨b, q + k * 7 + 4, none⟩ = some (.int .i64 tn.s) ∧ W.cell? ⟨b, q + k * 7 + 5, none⟩ = some (.int .i64 tn.o) ∧ W.cell? ⟨b, q + k * 7 + 6, none⟩ = some (.int .i64 tn.y)))
            ((with_reducible exact EL.out _ (PtS.bel (by assumption))))
            (first
              | (go_at_call 34; refine (BT.out _ _ hd hc _ _ _ _ _ _).mono ?_; rintro e w3 ⟨⟨v3, rfl⟩, h3⟩))
          replace h3 := Lib.hid h3
          clear h hd
          go_wp2
          go_roundw
          case rel => exact ⟨k + 1, by omega, by go_num, _, by simp [hc], hU2.out, h3.out⟩
          case measure => simp [intOf]; omega
        · have hnj' : (tn.n == j) = false := by simp [hnj]
          clear hnj
          replace h := Lib.hid h
          go_wp2
          go_roundw
          case rel => exact ⟨k + 1, by omega, by go_num, cs3, hc, hU, h.out⟩
          case measure => simp [intOf]; omega
      · have hk20 : ¬ (k : Int) < 20 := by omega
        replace h := Lib.hid h
        go_wp2
        go_end0
        exact ⟨⟨_, rfl⟩, cs3, hc, hU, h.out⟩
    · have hk1 : ¬ (k : Int) < (l.length : Int) := by omega
      replace h := Lib.hid h
      go_wp2
      go_end0
      exact ⟨⟨_, rfl⟩, cs3, hc, hU, h.out⟩
end
end Go.Proofs.YtnodeojeijekcaaGreat
/- SameLog of the document at two logs of the same accesses. No condition but that they are short. -/
namespace Go.Proofs.YtnodeojeijekcaaGreat
open Go.RowKit
set_option linter.unusedVariables false
theorem fields7 {l : List Field} {t u : TypeId} (h : l.map (fun f => (f.type, f.offset, f.name == "_")) = [(t, 0, false), (t, 1, false), (t, 2, false), (u, 3, false), (u, 4, false), (u, 5, false), (u, 6, false)]) :
    ∃ f0 f1 f2 f3 f4 f5 f6, l = [f0, f1, f2, f3, f4, f5, f6] ∧ (f0.type = t ∧ f0.offset = 0 ∧ ¬ f0.name = "_") ∧ (f1.type = t ∧ f1.offset = 1 ∧ ¬ f1.name = "_") ∧ (f2.type = t ∧ f2.offset = 2 ∧ ¬ f2.name = "_") ∧
      (f3.type = u ∧ f3.offset = 3 ∧ ¬ f3.name = "_") ∧ (f4.type = u ∧ f4.offset = 4 ∧ ¬ f4.name = "_") ∧ (f5.type = u ∧ f5.offset = 5 ∧ ¬ f5.name = "_") ∧ (f6.type = u ∧ f6.offset = 6 ∧ ¬ f6.name = "_") := by
  rcases l with _ | ⟨f0, _ | ⟨f1, _ | ⟨f2, _ | ⟨f3, _ | ⟨f4, _ | ⟨f5, _ | ⟨f6, _ | ⟨f7, l⟩⟩⟩⟩⟩⟩⟩⟩ <;> simp only [List.map_cons, List.map_nil, List.cons.injEq, Prod.mk.injEq, beq_eq_false_iff_ne, ne_eq, and_true, reduceCtorEq, and_false] at h
  exact ⟨f0, f1, f2, f3, f4, f5, f6, rfl, h.1, h.2.1, h.2.2.1, h.2.2.2.1, h.2.2.2.2.1, h.2.2.2.2.2.1, h.2.2.2.2.2.2⟩
theorem neq_acc (w : World) (a b c x y z u : Int) :
    (binOp .neq 49 (.agg #[.int .i64 a, .int .i64 b, .int .i64 c, .int .u64 x, .int .u64 y, .int .u64 z, .int .u64 u]) (.agg #[.int .i64 a, .int .i64 b, .int .i64 c, .int .u64 x, .int .u64 y, .int .u64 z, .int .u64 u])).run Tryz.prog w = .ok (.bool false) w := by
  rw [run_neq_struct, run_equalIn_agg w 9999 _ _ _ (by kernel_rfl) (by kernel_rfl)]
  obtain ⟨f0, f1, f2, f3, f4, f5, f6, hl, ⟨a1, a2, a3⟩, ⟨b1, b2, b3⟩, ⟨c1, c2, c3⟩, ⟨d1, d2, d3⟩, ⟨e1, e2, e3⟩, ⟨g1, g2, g3⟩, h1, h2, h3⟩ := fields7 (l := (Tryz.prog.fieldsOf 49).toList) (t := 3) (u := 47) (by kernel_rfl)
  rw [hl]
  have hi : Tryz.prog.underlying 3 = some (.int .i64) := by kernel_rfl
  have hj : Tryz.prog.underlying 47 = some (.int .u64) := by kernel_rfl
  simp [Op.eqFields, a1, a2, a3, b1, b2, b3, c1, c2, c3, d1, d2, d3, e1, e2, e3, g1, g2, g3, h1, h2, h3, go_sem, hi, hj]
theorem guard_acc : Tryz.prog.eqGuardType Tryz.prog.depth 49 = false := by kernel_rfl

set_option maxHeartbeats 2000000 in
theorem same_rows (b1 c1 b2 c2 n : Nat) (F : Nat → Nat → Int) (w : World) (hm : n ≤ 1000) (h1 : LogRow w b1 n F) (h2 : LogRow w b2 n F) :
    Calls Tryz.prog 60 #[.slice (some ⟨b1, 0, none⟩) n c1, .slice (some ⟨b2, 0, none⟩) n c2] w fun e w' => e = .returned (.bool true) ∧ Quiet w w' := by
  have hne : ((n : Int) != (n : Int)) = false := by simp
  have R1 := Lib.hid (fun k (hk : k < n) => h1.cell k hk)
  have R2 := Lib.hid (fun k (hk : k < n) => h2.cell k hk)
  have hG := guard_acc
  clear h1 h2
  go_enter Tryz.func60, Tryz.ntmps60
  go_wp2
  go_loopw [5] (fun i wr => ∃ k : Nat, k ≤ n ∧ i = .int .i64 k ∧ Quiet w wr) (fun i _ => n - (intOf i).toNat)
  case atStart => exact ⟨0, Nat.zero_le _, rfl, Quiet.refl _⟩
  case round =>
    obtain ⟨k, hk, rfl, hq⟩ := hrel
    by_cases hlt : k < n
    · obtain ⟨p0, p1, p2, p3, p4, p5, p6⟩ := R1.out k hlt
      obtain ⟨q0, q1, q2, q3, q4, q5, q6⟩ := R2.out k hlt
      have p0 := (hq.cell _).trans p0
      have p1 := (hq.cell _).trans p1
      have p2 := (hq.cell _).trans p2
      have p3 := (hq.cell _).trans p3
      have p4 := (hq.cell _).trans p4
      have p5 := (hq.cell _).trans p5
      have p6 := (hq.cell _).trans p6
      have q0 := (hq.cell _).trans q0
      have q1 := (hq.cell _).trans q1
      have q2 := (hq.cell _).trans q2
      have q3 := (hq.cell _).trans q3
      have q4 := (hq.cell _).trans q4
      have q5 := (hq.cell _).trans q5
      have q6 := (hq.cell _).trans q6
      have hE := fun W => neq_acc W (F k 0) (F k 1) (F k 2) (F k 3) (F k 4) (F k 5) (F k 6)
      have hlt' : (k : Int) < (n : Int) := by omega
      have hge' : (0 : Int) ≤ (k : Int) := by omega
      have h0n : 0 < n := by omega
      generalize F k 0 = z0 at *
      generalize F k 1 = z1 at *
      generalize F k 2 = z2 at *
      generalize F k 3 = z3 at *
      generalize F k 4 = z4 at *
      generalize F k 5 = z5 at *
      generalize F k 6 = z6 at *
      go_wp2
      go_quiet (fail)
      go_wp2
      go_roundw
      case rel => exact ⟨k + 1, by omega, by go_num, hq.trans ⟨_, rfl⟩⟩
      case measure => simp [intOf]; omega
    · go_wp2
      go_ret
      exact ⟨rfl, hq⟩
set_option maxHeartbeats 400000 in
theorem same_none (a1 a2 : Option Addr) (c1 c2 : Nat) (w : World) :
    Calls Tryz.prog 60 #[.slice a1 0 c1, .slice a2 0 c2] w fun e w' => e = .returned (.bool true) ∧ Quiet w w' := by
  go_enter Tryz.func60, Tryz.ntmps60
  go_wp2
  go_loopw [5] (fun i wr => i = .int .i64 0 ∧ Quiet w wr) (fun _ _ => 0)
  case atStart => exact ⟨rfl, Quiet.refl _⟩
  case round =>
    obtain ⟨rfl, hq⟩ := hrel
    go_wp2
    go_ret
    exact ⟨rfl, hq⟩
theorem same_own {w : World} {B1 B2 m : Nat} {v1 v2 : Value} {F : Nat → Nat → Int} (h1 : w.ownsRow B1 49 7 v1 m (flat F (List.range m))) (h2 : w.ownsRow B2 49 7 v2 m (flat F (List.range m))) (hm : m ≤ 1000) :
    Calls Tryz.prog 60 #[v1, v2] w fun e w' => e = .returned (.bool true) ∧ Quiet w w' := by
  obtain ⟨a1, c1, rfl⟩ := row_form h1
  obtain ⟨a2, c2, rfl⟩ := row_form h2
  by_cases h0 : 0 < m
  · obtain ⟨b1, rfl, -, r1⟩ := logrow h1 h0
    obtain ⟨b2, rfl, -, r2⟩ := logrow h2 h0
    exact same_rows b1 c1 b2 c2 m F w hm r1 r2
  · obtain rfl : m = 0 := by omega
    exact same_none a1 a2 c1 c2 w
end Go.Proofs.YtnodeojeijekcaaGreat
