/- What the document's Runs of a set returns: where its rows begin, how long they are. Condition: the list is short. -/
import Derived.Test.YtbpgnhakphpobaaDoorMrpl
import Derived.Test.YtbpgnhakphpobaaDoorMrrn
import Derived.Test.YtbpgnhakphpobaaDoorMrwi
import Derived.Deep.QuietTactic
import Derived.BigQuiet
namespace Go.Proofs.YtbpgnhakphpobaaDoor
open Go.RowKit
set_option linter.unusedVariables false

theorem own_last {w : World} {base g m cap : Nat} {e : TypeId} {xs : List Value} {x : Value} (y : Value) (h : w.ownsRow base e 1 (.slice (some ⟨g, 0, none⟩) (m + 1) cap) (m + 1) (xs ++ [x])) :
    (w.setCell ⟨g, m, none⟩ y).ownsRow base e 1 (.slice (some ⟨g, 0, none⟩) (m + 1) cap) (m + 1) (xs ++ [y]) := by
  obtain ⟨h1, h2⟩ := h
  refine ⟨by simpa using h1, ?_⟩
  rcases h2 with ⟨h2, _⟩ | ⟨g', cap', cur, hv, hb, hg, h4, h5, h6, h7⟩
  · cases h2
  · simp only [Value.slice.injEq, Option.some.injEq, Addr.mk.injEq, true_and, and_true] at hv
    obtain ⟨rfl, rfl⟩ := hv
    refine .inr ⟨g, cap, cur.setIfInBounds m y, rfl, hb, heap_setCell_same w g m cur e y hg, h4, h5, by simpa using h6, ?_⟩
    have hm : xs.length = m := by simp at h1; omega
    have hs : cur.size = cap := by omega
    rw [Array.toList_setIfInBounds, List.take_set, h7, ← hm]
    simp
theorem own_froz {w : World} {base g m cap n : Nat} {e : TypeId} {xs : List Value} (h : w.ownsRow base e 1 (.slice (some ⟨g, 0, none⟩) n cap) n xs) (k : Nat) : w.frozen? ⟨g, k, none⟩ = false := by
  rcases h.2 with ⟨h2, _⟩ | ⟨g', cap', cur, hv, hb, hg, h4, h5, h6, h7⟩
  · cases h2
  · simp only [Value.slice.injEq, Option.some.injEq, Addr.mk.injEq, true_and, and_true] at hv
    obtain ⟨rfl, rfl⟩ := hv
    simp [World.frozen?, hg]
theorem own_keptG {w w' : World} {base n : Nat} {row : Option Nat} {e : TypeId} {v : Value} {xs : List Value} (h : w.ownsRow base e 1 v n xs) (hg : w.grownBy w' row) (hn : ∀ k, v.ownBlock = some k → row ≠ some k) : w'.ownsRow base e 1 v n xs := by
  refine ⟨h.1, ?_⟩
  rcases h.2 with h1 | ⟨g, cap, cur, rfl, h2, h3, h4⟩
  · exact .inl h1
  · exact .inr ⟨g, cap, cur, rfl, h2, (hg.block g (Array.getElem?_eq_some_iff.1 h3).1 (fun e => hn g rfl e.symm)).trans h3, h4⟩
def fsts (R : List (Int × Int)) : List Int := R.map fun z => z.1
def snds (R : List (Int × Int)) : List Int := R.map fun z => z.2
/-- two own rows and the places: none lies in another's block -/
structure RrS (P : List Int) (pa : Option Addr) (R : List (Int × Int)) (w : World) (f c : Value) (wr : World) : Prop where
  rf : wr.ownsRow w.heap.size 3 1 f R.length ((fsts R).map (Value.int .i64))
  rc : wr.ownsRow w.heap.size 3 1 c R.length ((snds R).map (Value.int .i64))
  fc : ∀ k, f.ownBlock = some k → c.ownBlock ≠ some k
  rp : ∀ i, i < P.length → ∃ gb, pa = some ⟨gb, 0, none⟩ ∧ wr.cell? ⟨gb, i, none⟩ = some (.int .i64 (P.getD i 0)) ∧ f.ownBlock ≠ some gb ∧ c.ownBlock ≠ some gb
  rb : Below w.heap.size w wr
set_option maxRecDepth 100000 in
set_option maxHeartbeats 4000000 in
theorem rruns_any (v : Value) (l : List Int) (w : World) (h : Lst .u64 w v l) (hU : ∀ z ∈ l, U64 z) (hm : l.length ≤ 1024) :
    Calls Tryd.prog 8 #[v] w fun e w' => ∃ f c, e = .returned (.tuple #[f, c]) ∧ w'.ownsRow w.heap.size 3 1 f (runsI 0 0 (plL l)).length ((fsts (runsI 0 0 (plL l))).map (Value.int .i64)) ∧ w'.ownsRow w.heap.size 3 1 c (runsI 0 0 (plL l)).length ((snds (runsI 0 0 (plL l))).map (Value.int .i64)) ∧ Below w.heap.size w w' := by
  obtain ⟨i0, hi, hz0, hz1, hz2⟩ := info_parts info_int
  have Z := Lib.hid (And.intro hi (And.intro hz0 (And.intro hz1 hz2)))
  have RP := Lib.hid (rplaces_any v l w h hU hm)
  have HL : (plL l).length ≤ 65536 := by have := plR_len l l.length; have e : plL l = plR l l.length := rfl; rw [e]; omega
  have HB := Lib.hid (fun i (hi : i < (plL l).length) => show 0 ≤ (plL l).getD i 0 ∧ (plL l).getD i 0 < 65536 by
    have := plL_mem (l := l) (p := (plL l).getD i 0) (by rw [getD_in _ i hi]; exact List.getElem_mem hi)
    omega)
  rw [← rows_end (plL l)]
  generalize plL l = P at *
  clear h hU hm hi hz0 hz1 hz2
  go_enter Tryd.func8, Tryd.ntmps8
  go_wp2_with fail
  refine RP.out.mono ?_
  rintro e w1 ⟨pv, rfl, hpv, hb1⟩
  obtain ⟨pa, pc, rfl⟩ := own_slice hpv
  have hp : ∀ i, i < P.length → ∃ gb, pa = some ⟨gb, 0, none⟩ ∧ w1.cell? ⟨gb, i, none⟩ = some (.int .i64 (P.getD i 0)) := fun i hi => by
    obtain ⟨gb, cap', hv, hgb, _⟩ := own_form hpv (by omega)
    simp only [Value.slice.injEq, true_and] at hv
    obtain ⟨rfl, rfl⟩ := hv
    exact ⟨gb, rfl, own_int hpv i hi⟩
  have hq : ∀ i, i < P.length → ∃ gb, pa = some ⟨gb, 0, none⟩ ∧ w1.cell? ⟨gb, i, none⟩ = some (.int .i64 (P.getD i 0)) ∧ (Value.slice none 0 0).ownBlock ≠ some gb ∧ (Value.slice none 0 0).ownBlock ≠ some gb := fun i hi => by
    obtain ⟨gb, g1, g2⟩ := hp i hi
    exact ⟨gb, g1, g2, by simp [Value.ownBlock], by simp [Value.ownBlock]⟩
  have H0 : RrS P pa (rowsAt P 0) w (.slice none 0 0) (.slice none 0 0) w1 := by
    refine ⟨World.ownsRow_nil _ _ _ _, World.ownsRow_nil _ _ _ _, fun k h => ?_, hq, hb1⟩
    simp [Value.ownBlock] at h
  have H0 := Lib.hid H0
  clear hpv hb1 hp hq RP
  go_wp2
  go_loopw [4, 5, 7] (fun f c i wr => ∃ m : Nat, m ≤ P.length ∧ i = .int .i64 m ∧ RrS P pa (rowsAt P m) w f c wr) (fun _ _ i _ => P.length - (intOf i).toNat)
  case atStart => exact ⟨0, Nat.zero_le _, rfl, H0.out⟩
  case round =>
    obtain ⟨m, hmn, rfl, hS⟩ := hrel
    by_cases hlt : m < P.length
    · have hx := HB.out m hlt
      have hL := rows_len P m hmn
      have h1 : (m : Int) < (P.length : Int) := by omega
      have h2 : (0 : Int) ≤ (m : Int) := by omega
      by_cases e1 : m = 0 ∨ P.getD m 0 ≠ P.getD (m - 1) 0 + 1
      · have HN := Lib.hid (rows_new P m hlt e1)
        have key : RrS P pa (rowsAt P m) w u4 u5 wr := hS
        obtain ⟨hf, hc, hfc, hp, hb⟩ := hS
        obtain ⟨gb, rfl, hcm, hfg, hcg⟩ := hp m hlt
        have gbl : gb < wr.heap.size := World.block_lt_of_cell? wr _ hcm
        have HP := Lib.hid hp
        have HFC := Lib.hid hfc
        have HG := Lib.hid (And.intro hfg hcg)
        have HK := Lib.hid hc
        generalize hRR : rowsAt P m = R at *
        have HR := Lib.hid hRR
        have hszr := hb.size
        have HT := Lib.hid key
        clear hp hfc hfg hcg hc key hRR
        by_cases e0 : m = 0
        · subst e0
          clear e1
          generalize P.getD 0 0 = x at *
          go_wp2_with fail
          go_quiet (fail)
          have hf : (wr.drewN nq).ownsRow w.heap.size 3 1 u4 R.length ((fsts R).map (Value.int .i64)) := hf
          have hcm : (wr.drewN nq).cell? ⟨gb, 0, none⟩ = some (.int .i64 x) := hcm
          have hbq : Below w.heap.size w (wr.drewN nq) := below_drewN hb _
          have HT : Hid (RrS P (some ⟨gb, 0, none⟩) R w u4 u5 (wr.drewN nq)) := Lib.hid ⟨HT.out.rf, HT.out.rc, HT.out.fc, HT.out.rp, hbq⟩
          have gbl : gb < (wr.drewN nq).heap.size := gbl
          have hszr : w.heap.size ≤ (wr.drewN nq).heap.size := hszr
          clear hb HK HP
          generalize wr.drewN nq = wq at *
          go_wp2_with (at_builtin; first | (refine wpList_append_lies _ rfl _ _ 25 rfl w.heap.size 3 i0 (.int .i64 0) 1 8 Tryd.underlying25 Z.out.1 Z.out.2.1 Z.out.2.2.1 Z.out.2.2.2 rfl (by decide) _ _ _ rfl (hf.alloc _) ⟨wq.heap.size, 0, none⟩ 1 1 [.int .i64 x] rfl rfl (cell_one_new _ _ _) (by simp [Value.oneCell']) (by decide) (by unfold maxLen; omega) (by omega) (by simp; omega) (wq.heap.size + 1) (by simp) ?_; intro g cap3 w8 hown8 hgrow hat hlt8; have g8 : Below w.heap.size w w8 := (hbq.alloc hszr _).grown hgrow (hbq.alloc hszr _).size (fun k' e => (hf.lt k' e).1); have hc8 := own_keptG (HT.out.rc.alloc _) hgrow (fun k hk e => HT.out.fc k e hk); have hz8 := g8.size; have hcm8 := (hgrow.cell_far ⟨gb, 0, none⟩ (by simp; omega) (fun e => HG.out.1 e.symm)).trans ((World.cell?_alloc_lt _ _ _ gbl).trans hcm)) | (refine wpList_append_lies _ rfl _ _ 25 rfl w.heap.size 3 i0 (.int .i64 0) 1 8 Tryd.underlying25 Z.out.1 Z.out.2.1 Z.out.2.2.1 Z.out.2.2.2 rfl (by decide) _ _ _ rfl (hc8.alloc _) ⟨w8.heap.size, 0, none⟩ 1 1 [.int .i64 1] rfl rfl (cell_one_new _ _ _) (by simp [Value.oneCell']) (by decide) (by unfold maxLen; omega) (by omega) (by simp; omega) (w8.heap.size + 1) (by simp) ?_; intro g2 cap4 w9 hown9 hgrow9 hat9 hlt9))
          have hgg : g ≠ g2 := by
            intro e
            rcases hat9 with b | b
            · rcases hat with a | a
              · exact HT.out.fc g a (e ▸ b)
              · have := (HT.out.rc.lt g2 b).2; omega
            · omega
          have gbl8 : gb < w8.heap.size := World.block_lt_of_cell? w8 _ hcm8
          have hS9 : RrS P (some ⟨gb, 0, none⟩) (rowsAt P (0 + 1)) w (.slice (some ⟨g, 0, none⟩) (R.length + 1) cap3) (.slice (some ⟨g2, 0, none⟩) (R.length + 1) cap4) w9 := by
            rw [HN.out]
            refine ⟨?_, by simpa [snds] using hown9, fun k h1 h2 => ?_, fun i hi => ?_, (g8.alloc hz8 _).grown hgrow9 (g8.alloc hz8 _).size (fun k' e => (hc8.lt k' e).1)⟩
            · have h9 := own_keptG (hown8.alloc _) hgrow9 (fun k hk e => by
                have ek : g = k := Option.some.inj hk
                rcases hat with a | a
                · exact HT.out.fc g a (ek ▸ e)
                · have := (HT.out.rc.lt k e).2; omega)
              simpa [fsts] using h9
            · have e1 : g = k := Option.some.inj h1
              have e2 : g2 = k := Option.some.inj h2
              exact hgg (e1.trans e2.symm)
            · obtain ⟨gb', e1, c1, n1, n2⟩ := HT.out.rp i hi
              simp only [Option.some.injEq, Addr.mk.injEq, and_true] at e1
              obtain rfl := e1
              refine ⟨gb, rfl, (hgrow9.cell_far ⟨gb, i, none⟩ (by simp; omega) (fun e => n2 e.symm)).trans ((World.cell?_alloc_lt _ _ _ gbl8).trans ((hgrow.cell_far ⟨gb, i, none⟩ (by simp; omega) (fun e => n1 e.symm)).trans ((World.cell?_alloc_lt _ _ _ gbl).trans c1))), fun e => ?_, fun e => ?_⟩
              · have e1 : g = gb := Option.some.inj e
                rcases hat with a | a
                · exact n1 (e1 ▸ a)
                · omega
              · have e1 : g2 = gb := Option.some.inj e
                rcases hat9 with a | a
                · exact n2 (e1 ▸ a)
                · omega
          refine ⟨⟨0 + 1, by omega, by go_num, hS9⟩, ?_⟩
          simp [intOf]; omega
        · have h0 : (0 : Int) < (m : Int) := by omega
          have hn0 : 0 < m := by omega
          have hd0 : decide ((0 : Int) < (m : Int)) = true := by simp [hn0]
          obtain ⟨gb', hv, hcm1, _, _⟩ := HP.out (m - 1) (by omega)
          simp only [Option.some.injEq, Addr.mk.injEq, and_true] at hv
          obtain rfl := hv
          have hy := HB.out (m - 1) (by omega)
          have hm2 : (m : Int) - 1 = ((m - 1 : Nat) : Int) := by omega
          have hlt1 : ((m - 1 : Nat) : Int) < (P.length : Int) := by omega
          have hge1 : (0 : Int) ≤ ((m - 1 : Nat) : Int) := by omega
          have hw2 : wrap64 (P.getD (m - 1) 0 + 1) = P.getD (m - 1) 0 + 1 := by unfold wrap64; omega
          have hee : (P.getD m 0 == P.getD (m - 1) 0 + 1) = false := by simpa using e1.resolve_left e0
          clear e1
          generalize P.getD (m - 1) 0 = y at *
          generalize P.getD m 0 = x at *
          go_wp2_with fail
          go_quiet (fail)
          have hf : (wr.drewN nq).ownsRow w.heap.size 3 1 u4 R.length ((fsts R).map (Value.int .i64)) := hf
          have hcm : (wr.drewN nq).cell? ⟨gb, m, none⟩ = some (.int .i64 x) := hcm
          have hbq : Below w.heap.size w (wr.drewN nq) := below_drewN hb _
          have HT : Hid (RrS P (some ⟨gb, 0, none⟩) R w u4 u5 (wr.drewN nq)) := Lib.hid ⟨HT.out.rf, HT.out.rc, HT.out.fc, HT.out.rp, hbq⟩
          have gbl : gb < (wr.drewN nq).heap.size := gbl
          have hszr : w.heap.size ≤ (wr.drewN nq).heap.size := hszr
          clear hb HK HP hcm1
          generalize wr.drewN nq = wq at *
          go_wp2_with (at_builtin; first | (refine wpList_append_lies _ rfl _ _ 25 rfl w.heap.size 3 i0 (.int .i64 0) 1 8 Tryd.underlying25 Z.out.1 Z.out.2.1 Z.out.2.2.1 Z.out.2.2.2 rfl (by decide) _ _ _ rfl (hf.alloc _) ⟨wq.heap.size, 0, none⟩ 1 1 [.int .i64 x] rfl rfl (cell_one_new _ _ _) (by simp [Value.oneCell']) (by decide) (by unfold maxLen; omega) (by omega) (by simp; omega) (wq.heap.size + 1) (by simp) ?_; intro g cap3 w8 hown8 hgrow hat hlt8; have g8 : Below w.heap.size w w8 := (hbq.alloc hszr _).grown hgrow (hbq.alloc hszr _).size (fun k' e => (hf.lt k' e).1); have hc8 := own_keptG (HT.out.rc.alloc _) hgrow (fun k hk e => HT.out.fc k e hk); have hz8 := g8.size; have hcm8 := (hgrow.cell_far ⟨gb, m, none⟩ (by simp; omega) (fun e => HG.out.1 e.symm)).trans ((World.cell?_alloc_lt _ _ _ gbl).trans hcm)) | (refine wpList_append_lies _ rfl _ _ 25 rfl w.heap.size 3 i0 (.int .i64 0) 1 8 Tryd.underlying25 Z.out.1 Z.out.2.1 Z.out.2.2.1 Z.out.2.2.2 rfl (by decide) _ _ _ rfl (hc8.alloc _) ⟨w8.heap.size, 0, none⟩ 1 1 [.int .i64 1] rfl rfl (cell_one_new _ _ _) (by simp [Value.oneCell']) (by decide) (by unfold maxLen; omega) (by omega) (by simp; omega) (w8.heap.size + 1) (by simp) ?_; intro g2 cap4 w9 hown9 hgrow9 hat9 hlt9))
          have hgg : g ≠ g2 := by
            intro e
            rcases hat9 with b | b
            · rcases hat with a | a
              · exact HT.out.fc g a (e ▸ b)
              · have := (HT.out.rc.lt g2 b).2; omega
            · omega
          have gbl8 : gb < w8.heap.size := World.block_lt_of_cell? w8 _ hcm8
          have hS9 : RrS P (some ⟨gb, 0, none⟩) (rowsAt P (m + 1)) w (.slice (some ⟨g, 0, none⟩) (R.length + 1) cap3) (.slice (some ⟨g2, 0, none⟩) (R.length + 1) cap4) w9 := by
            rw [HN.out]
            refine ⟨?_, by simpa [snds] using hown9, fun k h1 h2 => ?_, fun i hi => ?_, (g8.alloc hz8 _).grown hgrow9 (g8.alloc hz8 _).size (fun k' e => (hc8.lt k' e).1)⟩
            · have h9 := own_keptG (hown8.alloc _) hgrow9 (fun k hk e => by
                have ek : g = k := Option.some.inj hk
                rcases hat with a | a
                · exact HT.out.fc g a (ek ▸ e)
                · have := (HT.out.rc.lt k e).2; omega)
              simpa [fsts] using h9
            · have e1 : g = k := Option.some.inj h1
              have e2 : g2 = k := Option.some.inj h2
              exact hgg (e1.trans e2.symm)
            · obtain ⟨gb', e1, c1, n1, n2⟩ := HT.out.rp i hi
              simp only [Option.some.injEq, Addr.mk.injEq, and_true] at e1
              obtain rfl := e1
              refine ⟨gb, rfl, (hgrow9.cell_far ⟨gb, i, none⟩ (by simp; omega) (fun e => n2 e.symm)).trans ((World.cell?_alloc_lt _ _ _ gbl8).trans ((hgrow.cell_far ⟨gb, i, none⟩ (by simp; omega) (fun e => n1 e.symm)).trans ((World.cell?_alloc_lt _ _ _ gbl).trans c1))), fun e => ?_, fun e => ?_⟩
              · have e1 : g = gb := Option.some.inj e
                rcases hat with a | a
                · exact n1 (e1 ▸ a)
                · omega
              · have e1 : g2 = gb := Option.some.inj e
                rcases hat9 with a | a
                · exact n2 (e1 ▸ a)
                · omega
          refine ⟨⟨m + 1, by omega, by go_num, hS9⟩, ?_⟩
          simp [intOf]; omega
      · have hm0 : m ≠ 0 := fun e => e1 (.inl e)
        have e2 : P.getD m 0 = P.getD (m - 1) 0 + 1 := Classical.byContradiction fun e => e1 (.inr e)
        obtain ⟨A, b, n, n1, n2, hA, hA2⟩ := rows_more P m (by omega) hlt e2
        clear e1
        obtain ⟨hf, hc, hfc, hp, hb⟩ := hS
        obtain ⟨gb, rfl, hcm, hfg, hcg⟩ := hp m hlt
        obtain ⟨gb', hv, hcm1, _, _⟩ := hp (m - 1) (by omega)
        simp only [Option.some.injEq, Addr.mk.injEq, and_true] at hv
        obtain rfl := hv
        rw [hA] at hf hc
        have hAl : (A ++ [(b, n)]).length = A.length + 1 := by simp
        have hsn : (snds (A ++ [(b, n)])).map (Value.int .i64) = (snds A).map (Value.int .i64) ++ [.int .i64 n] := by simp [snds]
        rw [hAl] at hf hc
        rw [hsn] at hc
        have hcell : ∃ g cap, u5 = .slice (some ⟨g, 0, none⟩) (A.length + 1) cap ∧ wr.cell? ⟨g, A.length, none⟩ = some (.int .i64 n) := by
          rcases hc.2 with ⟨_, h0⟩ | ⟨g, cap, cur, hv, _⟩
          · omega
          · refine ⟨g, cap, hv, ?_⟩
            rw [hv] at hc
            rw [hc.cellAt A.length (by omega)]
            simp [snds]
        obtain ⟨g, cap, rfl, hcc⟩ := hcell
        have hfr := own_froz (m := 0) hc A.length
        have hlast := Lib.hid (own_last (.int .i64 (n + 1)) hc)
        have hy := HB.out (m - 1) (by omega)
        have hF := Lib.hid (And.intro hf (And.intro hc (And.intro hfc (And.intro hp hb))))
        have hn0 : 0 < m := by omega
        have hd0 : decide ((0 : Int) < (m : Int)) = true := by simp [hn0]
        have h0 : (0 : Int) < (m : Int) := by omega
        have hm2 : (m : Int) - 1 = ((m - 1 : Nat) : Int) := by omega
        have hlt1 : ((m - 1 : Nat) : Int) < (P.length : Int) := by omega
        have hge1 : (0 : Int) ≤ ((m - 1 : Nat) : Int) := by omega
        have hw2 : wrap64 (P.getD (m - 1) 0 + 1) = P.getD (m - 1) 0 + 1 := by unfold wrap64; omega
        have hee : (P.getD m 0 == P.getD (m - 1) 0 + 1) = true := by simpa using e2
        have hAm : A.length < 65536 := by have := hA ▸ hL; simp at this; omega
        have HE := Lib.hid (And.intro e2 (And.intro hA hA2))
        clear hf hc hfc hp hb e2 hA hA2 hL hAl hsn
        generalize P.getD (m - 1) 0 = y at *
        generalize P.getD m 0 = x at *
        go_wp2_with fail
        go_quiet (fail)
        have hcc : (wr.drewN nq).cell? ⟨g, A.length, none⟩ = some (.int .i64 n) := hcc
        have hfr : (wr.drewN nq).frozen? ⟨g, A.length, none⟩ = false := hfr
        have hLS := Lib.hid (own_last (w := wr.drewN nq) (.int .i64 (n + 1)) hF.out.2.1)
        have hA1 : ((A.length : Int) + 1) - 1 = (A.length : Int) := by omega
        have hA3 : (A.length : Int) < 65536 := by omega
        have hA4 : (A.length : Int) < (A.length : Int) + 1 := by omega
        have hnn : n < 65537 := by omega
        have f1 : (wr.drewN nq).ownsRow w.heap.size 3 1 u4 (A.length + 1) ((fsts (A ++ [(b, n)])).map (Value.int .i64)) := hF.out.1
        have f4 : Below w.heap.size w (wr.drewN nq) := below_drewN hF.out.2.2.2.2 _
        have f3 : ∀ i, i < P.length → (wr.drewN nq).cell? ⟨gb, i, none⟩ = some (.int .i64 (P.getD i 0)) ∧ u4.ownBlock ≠ some gb ∧ g ≠ gb := fun i hi => by
          obtain ⟨gb', e1, c1, n1, n2⟩ := hF.out.2.2.2.1 i hi
          simp only [Option.some.injEq, Addr.mk.injEq, and_true] at e1
          obtain rfl := e1
          exact ⟨c1, n1, fun e => n2 (congrArg some e)⟩
        have HQ := Lib.hid (And.intro f1 (And.intro f3 f4))
        clear hlast hcm hcm1 f1 f3 f4
        generalize wr.drewN nq = wq at *
        go_wp2_with fail
        have hfg : ∀ k, u4.ownBlock = some k → k ≠ g := fun k h e => hF.out.2.2.1 k h (congrArg some e.symm)
        have hS9 : RrS P (some ⟨gb, 0, none⟩) (rowsAt P (m + 1)) w u4 (.slice (some ⟨g, 0, none⟩) (A.length + 1) cap) (wq.setCell ⟨g, A.length, none⟩ (.int .i64 (n + 1))) := by
          rw [HE.out.2.2]
          refine ⟨?_, by simpa [snds] using hLS.out, hF.out.2.2.1, fun i hi => ?_, HQ.out.2.2.setCell (p := ⟨g, A.length, none⟩) (hF.out.2.1.lt g rfl).1 _⟩
          · have h := HQ.out.1
            have hl : (fsts (A ++ [(b, n)])).map (Value.int .i64) = (fsts (A ++ [(b, n + 1)])).map (Value.int .i64) := by simp [fsts]
            rw [hl] at h
            rw [List.length_append, List.length_singleton]
            refine ⟨h.1, ?_⟩
            rcases h.2 with h1 | ⟨g', cap', cur, hv, h2, h3, h4⟩
            · exact .inl h1
            · exact .inr ⟨g', cap', cur, hv, h2, (Below.heap_setCell _ _ _ _ (hfg g' (by rw [hv]; rfl))).trans h3, h4⟩
          · obtain ⟨c1, n1, n2⟩ := HQ.out.2.1 i hi
            exact ⟨gb, rfl, (World.cell?_of_block (Below.heap_setCell _ _ _ _ n2.symm)).trans c1, n1, fun e => n2 (Option.some.inj e)⟩
        refine ⟨⟨m + 1, by omega, by go_num, hS9⟩, ?_⟩
        simp [intOf]; omega
    · obtain rfl : m = P.length := by omega
      have HS := Lib.hid hS
      clear hS
      go_wp2
      refine bodyPost_ret (v := .tuple #[u4, u5]) (by simp [results, Tryd.f8, go_sem]) rfl ⟨_, _, rfl, HS.out.rf, HS.out.rc, HS.out.rb⟩
end Go.Proofs.YtbpgnhakphpobaaDoor
