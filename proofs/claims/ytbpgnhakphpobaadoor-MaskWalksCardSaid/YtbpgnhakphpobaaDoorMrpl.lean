/- What the document's Places of a set returns: all of them, rising. Condition: the list is short. -/
import Derived.Test.YtbpgnhakphpobaaDoorMofl
import Derived.Test.YtbpgnhakphpobaaDoorMfin
import Derived.Deep.AppendLies
namespace Go.Proofs.YtbpgnhakphpobaaDoor
open Go.RowKit
set_option linter.unusedVariables false

theorem own_int {w : World} {B g n cap : Nat} {E : TypeId} {L : List Int} (h : w.ownsRow B E 1 (.slice (some ⟨g, 0, none⟩) n cap) n (L.map (Value.int .i64))) (q : Nat) (hq : q < n) : w.cell? ⟨g, q, none⟩ = some (.int .i64 (L.getD q 0)) := by
  have hn : L.length = n := by have := h.1; simpa using this
  rw [h.cellAt q (by omega)]
  simp [List.getD_eq_getElem?_getD, show q < L.length by omega]
theorem row_below {w w' : World} {base : Nat} {e : TypeId} {size : Nat} {v : Value} {n : Nat} {xs : List Value} (h : w.ownsRow base e size v n xs) (hb : Below w.heap.size w w') : w'.ownsRow base e size v n xs := by
  refine ⟨h.1, ?_⟩
  rcases h.2 with h1 | ⟨g, cap, cur, h1, h2, h3, h4⟩
  · exact .inl h1
  · exact .inr ⟨g, cap, cur, h1, h2, (hb.block g (Array.getElem?_eq_some_iff.1 h3).1).trans h3, h4⟩
theorem map_take_succ (f : Int → Int) (Q : List Int) (k : Nat) (hk : k < Q.length) : (Q.take (k + 1)).map f = (Q.take k).map f ++ [f (Q.getD k 0)] := by
  rw [List.take_succ_eq_append_getElem hk, List.map_append, getD_in Q k hk]; rfl
theorem plcs_bd {X : Nat} {z : Int} (h : z ∈ plcs X 64) : 0 ≤ z ∧ z < 64 := ⟨(plcs_mem h).1, (plcs_mem h).2.1⟩
def InnF (Q : List Int) (gb : Nat) (wx : World) (pa : Option Addr) (o : Value) (wr : World) : Prop := (0 < Q.length → o.ownBlock ≠ some gb) ∧ (0 < Q.length → pa = some ⟨gb, 0, none⟩ ∧ wx.heap.size ≤ gb ∧ ∀ i, i < Q.length → wr.cell? ⟨gb, i, none⟩ = some (.int .i64 (Q.getD i 0)))
set_option maxRecDepth 100000 in
set_option maxHeartbeats 4000000 in
theorem rplaces_any (v : Value) (l : List Int) (w : World) (h : Lst .u64 w v l) (hU : ∀ z ∈ l, U64 z) (hm : l.length ≤ 1024) :
    Calls Tryd.prog 7 #[v] w fun e w' => ∃ u, e = .returned u ∧ w'.ownsRow w.heap.size 3 1 u (plL l).length ((plL l).map (Value.int .i64)) ∧ Below w.heap.size w w' := by
  obtain ⟨i0, hi, hz0, hz1, hz2⟩ := info_parts info_int
  have Z := Lib.hid (And.intro hi (And.intro hz0 (And.intro hz1 hz2)))
  obtain ⟨a, cap, rfl, hcell⟩ := lst_form h
  have HC := Lib.hid hcell
  have HU := Lib.hid (fun i => getD_U64 hU i)
  have PL := Lib.hid (fun (x : Int) W (h : U64 x) => places_any x W h)
  have HR := Lib.hid (plR_succ l)
  have HLn := Lib.hid (fun m (hm : m ≤ l.length) => (plR_pre l (l.length - m) m).length_le)
  have HL64 := Lib.hid (plR_len l)
  have HF : Hid (plL l = plR l l.length) := Lib.hid rfl
  generalize hn : l.length = n at *
  have HN := Lib.hid hn
  clear hcell h hn hi hz0 hz1 hz2 hU
  go_enter Tryd.func7, Tryd.ntmps7
  go_wp2
  go_loopw [3, 4] (fun o i wr => ∃ m : Nat, m ≤ n ∧ i = .int .i64 m ∧ wr.ownsRow w.heap.size 3 1 o (plR l m).length ((plR l m).map (Value.int .i64)) ∧ Below w.heap.size w wr) (fun _ i _ => n - (intOf i).toNat)
  case atStart => exact ⟨0, Nat.zero_le _, rfl, World.ownsRow_nil _ _ _ _, Below.refl _ _⟩
  case round =>
    obtain ⟨m, hmn, rfl, hown, hb⟩ := hrel
    by_cases hlt : m < n
    · have h1 : (m : Int) < (n : Int) := by omega
      have h0 : (0 : Int) ≤ (m : Int) := by omega
      have hm1 : (m : Int) < 1024 := by omega
      obtain ⟨b, o, rfl, hc⟩ := HC.out (by omega)
      have hck := (hb.cell (p := ⟨b, o + m, none⟩) (World.block_lt_of_cell? w _ (hc m hlt))).trans (hc m hlt)
      have hx := HU.out m
      have HRm := HR.out m
      have hRl := HL64.out m
      have hQl := plcs_len_le (l.getD m 0).toNat 64
      have hQm := fun z (h : z ∈ plcs (l.getD m 0).toNat 64) => plcs_bd h
      have P := Lib.hid (fun W => PL.out (l.getD m 0) W hx)
      generalize hQ : plcs (l.getD m 0).toNat 64 = Q at *
      have HQ := Lib.hid hQ
      generalize l.getD m 0 = z at *
      have HRm := Lib.hid HRm
      generalize hRR : plR l m = R at *
      have HRR := Lib.hid hRR
      have HQm := Lib.hid hQm
      clear hc HC hx hQ hQm hRR
      generalize wr = wx at *
      go_wp2_with fail
      refine (P.out _).mono ?_
      rintro e w2 ⟨pv, rfl, hpv, hb2⟩
      obtain ⟨pa, pc, rfl⟩ := own_slice hpv
      have hform : 0 < Q.length → ∃ gb, pa = some ⟨gb, 0, none⟩ ∧ wx.heap.size ≤ gb ∧ ∀ i, i < Q.length → w2.cell? ⟨gb, i, none⟩ = some (.int .i64 (Q.getD i 0)) := fun hq => by
        obtain ⟨gb, cap', hv, hgb, _⟩ := own_form hpv hq
        simp only [Value.slice.injEq, true_and] at hv
        obtain ⟨rfl, rfl⟩ := hv
        exact ⟨gb, rfl, hgb, fun i hi => own_int hpv i hi⟩
      obtain ⟨gb, hform⟩ : ∃ gb, 0 < Q.length → pa = some ⟨gb, 0, none⟩ ∧ wx.heap.size ≤ gb ∧ ∀ i, i < Q.length → w2.cell? ⟨gb, i, none⟩ = some (.int .i64 (Q.getD i 0)) := by
        by_cases hq : 0 < Q.length
        · obtain ⟨gb, hh⟩ := hform hq
          exact ⟨gb, fun _ => hh⟩
        · exact ⟨0, fun h => absurd h hq⟩
      have hown2 := row_below hown hb2
      have hob : 0 < Q.length → u3.ownBlock ≠ some gb := fun hq e => by have := (hown.lt gb e).2; have := (hform hq).2.1; omega
      have b2 := hb.trans (hb2.mono hb.size)
      have H0 := Lib.hid (And.intro hown2 (And.intro hob hform))
      clear hpv hb2 hown hb hown2 hob P
      go_wp2
      go_loopw [3, 6] (fun o i wr => ∃ k : Nat, k ≤ Q.length ∧ i = .int .i64 k ∧ wr.ownsRow w.heap.size 3 1 o (R.length + k) ((R ++ (Q.take k).map (fun p => 64 * (m : Int) + p)).map (Value.int .i64)) ∧ InnF Q gb wx pa o wr ∧ Below w.heap.size w wr) (fun _ i _ => Q.length - (intOf i).toNat)
      case atStart => exact ⟨0, Nat.zero_le _, rfl, by simpa using H0.out.1, H0.out.2, b2⟩
      case round =>
        obtain ⟨k, hk, rfl, hown, hB, hb⟩ := hrel
        clear H0 b2
        by_cases hlk : k < Q.length
        · have h2 : (k : Int) < (Q.length : Int) := by omega
          have h3 : (0 : Int) ≤ (k : Int) := by omega
          obtain ⟨hob, hf⟩ := hB
          obtain ⟨rfl, hgb, hcc⟩ := hf (by omega)
          have hck2 := hcc k hlk
          have hqm := HQm.out (Q.getD k 0) (by rw [getD_in Q k hlk]; exact List.getElem_mem hlk)
          have HE := Lib.hid (map_take_succ (fun p => 64 * (m : Int) + p) Q k hlk)
          have HCC := Lib.hid (And.intro (hob (by omega)) (And.intro hgb hcc))
          have hwr : wrap64 (64 * (m : Int) + Q.getD k 0) = 64 * (m : Int) + Q.getD k 0 := by unfold wrap64; omega
          generalize Q.getD k 0 = y at *
          clear hob hf hgb hcc
          have hszr := hb.size
          have hLL : R.length + k ≤ 70000 := by omega
          go_wp2_with (at_builtin; refine wpList_append_lies _ rfl _ _ 25 rfl w.heap.size 3 i0 (.int .i64 0) 1 8 Tryd.underlying25 Z.out.1 Z.out.2.1 Z.out.2.2.1 Z.out.2.2.2 rfl (by decide) _ _ _ rfl (hown.alloc _) ⟨wr.heap.size, 0, none⟩ 1 1 [.int .i64 (64 * (m : Int) + y)] rfl rfl (cell_one_new _ _ _) (by simp [Value.oneCell']) (by decide) (by unfold maxLen; omega) (by omega) (by simp; omega) (wr.heap.size + 1) (by simp) ?_; intro g cap3 w8 hown8 hgrow hat hlt8)
          have g8 : Below w.heap.size w w8 := (hb.alloc hb.size _).grown hgrow (hb.alloc hb.size _).size (fun k' e => (hown.lt k' e).1)
          have gbl : gb < wr.heap.size := World.block_lt_of_cell? wr _ (HCC.out.2.2 0 (by omega))
          have hnb : ∀ i, i < Q.length → w8.cell? ⟨gb, i, none⟩ = some (.int .i64 (Q.getD i 0)) := fun i hi => (hgrow.cell_far ⟨gb, i, none⟩ (by simp; omega) (fun e => HCC.out.1 e.symm)).trans ((World.cell?_alloc_lt _ _ _ gbl).trans (HCC.out.2.2 i hi))
          have hgn : (Value.slice (some ⟨g, 0, none⟩) (R.length + k + 1) cap3).ownBlock ≠ some gb := fun e => by
            have e1 : g = gb := Option.some.inj e
            rcases hat with h | h
            · exact HCC.out.1 (by rw [← e1]; exact h)
            · omega
          have HN8 : InnF Q gb wx (some ⟨gb, 0, none⟩) (.slice (some ⟨g, 0, none⟩) (R.length + k + 1) cap3) w8 := ⟨fun _ => hgn, fun _ => ⟨rfl, HCC.out.2.1, hnb⟩⟩
          have hown9 : w8.ownsRow w.heap.size 3 1 (.slice (some ⟨g, 0, none⟩) (R.length + (k + 1)) cap3) (R.length + (k + 1)) ((R ++ (Q.take (k + 1)).map (fun p => 64 * (m : Int) + p)).map (Value.int .i64)) := by
            rw [HE.out, ← List.append_assoc, List.map_append]; exact hown8
          clear hown8 hgrow hat hnb hgn HCC HE
          go_wp2
          go_roundw
          case rel => exact ⟨k + 1, by omega, by go_num, hown9, HN8, g8⟩
          case measure => simp [intOf]; omega
        · obtain rfl : k = Q.length := by omega
          have hfin : wr.ownsRow w.heap.size 3 1 u3 (plR l (m + 1)).length ((plR l (m + 1)).map (Value.int .i64)) := by
            rw [HRm.out, List.length_append, List.length_map]
            have e := List.take_of_length_le (Nat.le_refl Q.length)
            rw [e] at hown
            exact hown
          have HFi := Lib.hid hfin
          clear hfin hown hB
          go_wp2
          go_roundw
          case rel => exact ⟨m + 1, by omega, by go_num, HFi.out, hb⟩
          case measure => simp [intOf]; omega
    · obtain rfl : m = n := by omega
      go_wp2
      go_ret
      exact ⟨_, rfl, by rw [HF.out]; exact hown, hb⟩
end Go.Proofs.YtbpgnhakphpobaaDoor
