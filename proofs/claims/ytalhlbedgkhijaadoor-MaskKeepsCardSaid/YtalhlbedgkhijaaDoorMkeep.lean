/- MaskKeeps: the walk of the whole. Conditions: the argument is a list of words, the table of math/bits lies as the start lays it. -/
import Derived.Test.YtalhlbedgkhijaaDoorMwr
import Derived.Deep.AppendLies
namespace Go.Proofs.YtalhlbedgkhijaaDoor
open Go.RowKit
set_option linter.unusedVariables false

def K3 (g3 n3 g4 n4 g5 n5 : Nat) (W : World) : Prop := (0 < n3 → ∃ cs : Array Value, Blk W g3 cs 33 ∧ n3 ≤ cs.size) ∧ (0 < n4 → ∃ cs : Array Value, Blk W g4 cs 33 ∧ n4 ≤ cs.size) ∧ (0 < n5 → ∃ cs : Array Value, Blk W g5 cs 33 ∧ n5 ≤ cs.size)
theorem K3.set {g3 n3 g4 n4 g5 n5 : Nat} {W : World} (h : K3 g3 n3 g4 n4 g5 n5 W) (g i : Nat) (v : Value) : K3 g3 n3 g4 n4 g5 n5 (W.setCell ⟨g, i, none⟩ v) := ⟨wr_store h.1 g i v, wr_store h.2.1 g i v, wr_store h.2.2 g i v⟩
theorem wr_cell {W : World} {g n k : Nat} (h : 0 < n → ∃ cs : Array Value, Blk W g cs 33 ∧ n ≤ cs.size) (hk : k < n) : ∃ u, W.cell? ⟨g, k, none⟩ = some u ∧ W.frozen? ⟨g, k, none⟩ = false := by
  obtain ⟨cs, h1, h2⟩ := h (by omega)
  exact ⟨cs[k]'(by omega), by rw [h1.cell]; simp [show k < cs.size by omega], h1.frozen k⟩
theorem cells_new (W : World) (l : List Value) (t : TypeId) (b : Nat) (hb : b = W.heap.size) (j : Nat) (u : Value) (h : l[j]? = some u) : (W.alloc (.cells l.toArray t)).cell? ((⟨b, 0, none⟩ : Addr).add j) = some u := by
  subst hb
  have e1 : (⟨W.heap.size, 0, none⟩ : Addr).add j = ⟨W.heap.size, j, none⟩ := by unfold Addr.add; split <;> simp_all
  rw [e1, Blk.cell (cs := l.toArray) (t := t) (Blk.new W _ _)]
  simpa using h
theorem own_cap {w : World} {B g n cap : Nat} {E : TypeId} {xs : List Value} (h : w.ownsRow B E 1 (.slice (some ⟨g, 0, none⟩) n cap) n xs) : n ≤ cap ∧ cap ≤ maxLen ∧ B ≤ g ∧ g < w.heap.size := by
  rcases h.2 with ⟨h1, _⟩ | ⟨g', cap', cur, h1, h2, h3, h4, h5, _⟩
  · cases h1
  · simp only [Value.slice.injEq, Option.some.injEq, Addr.mk.injEq, and_true, true_and] at h1
    obtain ⟨rfl, rfl⟩ := h1
    exact ⟨h4, h5, h2, (Array.getElem?_eq_some_iff.1 h3).1⟩
set_option maxRecDepth 100000 in
set_option maxHeartbeats 4000000 in
theorem keeps_walk (na ca : Nat) (aa : Option Addr) (x : Int) (l : List Int) (w : World) (ha : LstAll w (.slice aa na ca) l) (h1 : na ≤ 8) (hl8 : l.length = na) (hT : Tab w) :
    Calls Tryd.prog 7 #[.slice aa na ca, .int .i64 x] w fun e w' => e = .returned (.bool true) ∧ Below w.heap.size w w' := by
  obtain ⟨i0, hi, hz0, hz1, hz2⟩ := info_parts info_u64
  have Z := Lib.hid (And.intro hi (And.intro hz0 (And.intro hz1 hz2)))
  have h1' : ¬ (8 : Int) < (na : Int) := by omega
  have MY := Lib.hid (masked_yes w hT)
  have LA := Lib.hid (fun W (h : Below w.heap.size w W) => (ha.grew h).1)
  have H8 := Lib.hid (And.intro h1 hl8)
  obtain ⟨p, hp, hpe⟩ := mod_small x 500 (by decide) (by decide)
  rw [show ((500 : Nat) : Int) = 500 from rfl] at hpe
  have HPE := Lib.hid hpe
  clear hi hz0 hz1 hz2 hT ha h1 hl8 hpe
  go_enter Tryd.func7, Tryd.ntmps7
  go_wp2_with fail
  refine MY.out.mono ?_
  rintro e w0 ⟨rfl, b0⟩
  clear MY
  have HIN := Lib.hid ((LA.out _ b0).below (w' := w0.alloc (.cells #[] 33)) ((Below.refl _ _).alloc (Nat.le_refl _) _))
  have hll : l.length ≤ 1000000 := by have := H8.out; omega
  go_wp2_with (first | (at_builtin; refine wp_appM rfl _ _ rfl w0.heap.size (.slice aa na ca) l HIN.out hll _ rfl (World.ownsRow_made w0 #[] 0 (Nat.le_refl _) (by decide) rfl) rfl (by simp) ?_; intro v1 w1 hown1 hgrow1) | (at_builtin; refine wpList_append_lies _ rfl _ _ 22 rfl w0.heap.size 33 i0 (.int .u64 0) 1 8 Tryd.underlying22 Z.out.1 Z.out.2.1 Z.out.2.2.1 Z.out.2.2.2 rfl (by decide) _ _ _ rfl (hown1.alloc _) ⟨w1.heap.size, 0, none⟩ 2 2 [.int .u64 71, .int .u64 72] rfl rfl (cells_new w1 [.int .u64 71, .int .u64 72] _ _ rfl) (by simp [Value.oneCell']) (by decide) (by have := H8.out; unfold maxLen; omega) (by have := H8.out; omega) (by have := hgrow1.size; simp at this ⊢; omega) (w1.heap.size + 1) (by simp) ?_; intro g cap w2 hown2 hgrow2 hat hlt2; have hcp := own_cap hown2; have hnc : (na : Int) ≤ (cap : Int) := (by have := H8.out; omega); have hncN : na ≤ cap := (by have := H8.out; omega)))
  have bA : Below w0.heap.size w0 w1 := ((Below.refl _ _).alloc (Nat.le_refl _) _).grown hgrow1 (by simp) (fun k hk => by have : w0.heap.size = k := Option.some.inj hk; omega)
  have bB : Below w0.heap.size w0 w2 := (bA.alloc bA.size _).grown hgrow2 (by have := bA.size; simp; omega) (fun k' e => (hown1.lt k' e).1)
  have b2 := b0.trans (bB.mono b0.size)
  have hl8 := H8.out.2
  have hown3 : w2.ownsRow w0.heap.size 33 1 (.slice (some ⟨g, 0, none⟩) (l.length + 2) cap) (l.length + 2) ((l ++ [71, 72]).map (Value.int .u64)) := by rw [List.map_append]; exact hown2
  have hget : ∀ i, i < na → (l ++ [71, 72]).getD i 0 = l.getD i 0 := fun i hi => by
    rw [List.getD_eq_getElem?_getD, List.getD_eq_getElem?_getD, List.getElem?_append_left (by omega)]
  have e71 : (l ++ [71, 72]).getD na 0 = 71 := by rw [List.getD_eq_getElem?_getD, List.getElem?_append_right (by omega), show na - l.length = 0 by omega]; rfl
  have e72 : (l ++ [71, 72]).getD (na + 1) 0 = 72 := by rw [List.getD_eq_getElem?_getD, List.getElem?_append_right (by omega), show na + 1 - l.length = 1 by omega]; rfl
  have hLs : Lst .u64 w2 (.slice (some ⟨g, 0, none⟩) na cap) l := by
    rcases Nat.eq_zero_or_pos na with h0 | h0
    · exact .inl ⟨List.eq_nil_of_length_eq_zero (by omega), some ⟨g, 0, none⟩, cap, by rw [h0]⟩
    · refine .inr ⟨g, 0, cap, by rw [hl8], by omega, by have := H8.out; unfold maxLen; omega, fun i hi => ?_⟩
      rw [Nat.zero_add, own_word hown3 i (by omega), hget i (by omega)]
  have h71 := own_word hown3 na (by omega)
  have h72 := own_word hown3 (na + 1) (by omega)
  rw [e71] at h71
  rw [e72] at h72
  have HL := Lib.hid (fun W (h : Below w2.heap.size w2 W) => hLs.below h)
  have H7 := Lib.hid (And.intro h71 (And.intro h72 (show g < w2.heap.size from hlt2)))
  clear hown1 hgrow1 hown2 hgrow2 hat hown3 hget e71 e72 hLs h71 h72 bA bB b0 HIN hl8 hcp
  rw [HPE.out]
  refine (with_wr _ l p _ (HL.out _ (Below.refl _ _)) (by omega) (by have := H8.out; omega)).mono ?_
  rintro e w3 ⟨v3, rfl, ⟨a3, n3, c3, rfl, m3, g3, s3, d3⟩, b3⟩
  have S3 := Lib.hid s3
  have D3 := Lib.hid d3
  go_wp2_with fail
  refine (without_wr _ l p _ (HL.out _ b3) (by omega) (by have := H8.out; omega)).mono ?_
  rintro e w4 ⟨v4, rfl, ⟨a4, n4, c4, rfl, m4, g4, s4, d4⟩, b4⟩
  have S4 := Lib.hid s4
  have D4 := Lib.hid d4
  have b4' := b3.trans (b4.mono b3.size)
  go_wp2_with fail
  refine (union_wr _ _ l l _ (HL.out _ b4') (HL.out _ b4') (by have := H8.out; omega) (by have := H8.out; omega)).mono ?_
  rintro e w5 ⟨v5, rfl, ⟨a5, n5, c5, rfl, m5, g5, s5, d5⟩, b5⟩
  have b5' := b4'.trans (b5.mono b4'.size)
  have S5 := Lib.hid s5
  have I0 : (0 < n3 → ∃ cs : Array Value, Blk w5 g3 cs 33 ∧ n3 ≤ cs.size) ∧ (0 < n4 → ∃ cs : Array Value, Blk w5 g4 cs 33 ∧ n4 ≤ cs.size) ∧ (0 < n5 → ∃ cs : Array Value, Blk w5 g5 cs 33 ∧ n5 ≤ cs.size) := ⟨wr_below (wr_below D3.out b4) b5, wr_below D4.out b5, d5⟩
  have hS : (0 < n3 → w2.heap.size ≤ g3) ∧ (0 < n4 → w2.heap.size ≤ g4) ∧ (0 < n5 → w2.heap.size ≤ g5) := ⟨fun h => (S3.out h).2, fun h => Nat.le_trans b3.size (S4.out h).2, fun h => Nat.le_trans b4'.size (S5.out h).2⟩
  have HSz := Lib.hid hS
  have HI0 : Hid (K3 g3 n3 g4 n4 g5 n5 w5) := Lib.hid I0
  clear s3 d3 s4 d4 s5 d5 D3 D4 b3 b4 b5 b4' I0 hS
  go_wp2
  go_loopw [12] (fun i wr => ∃ k : Nat, k ≤ n3 ∧ i = .int .i64 k ∧ K3 g3 n3 g4 n4 g5 n5 wr ∧ Below w2.heap.size w2 wr) (fun i _ => n3 - (intOf i).toNat)
  case atStart => exact ⟨0, Nat.zero_le _, rfl, HI0.out, b5'⟩
  case round =>
    obtain ⟨k, hk, rfl, hK, hB⟩ := hrel
    by_cases hlt : k < n3
    · have h1 : (k : Int) < (n3 : Int) := by omega
      have h0 : (0 : Int) ≤ (k : Int) := by omega
      have hk5 : (k : Int) + 1 < 5000 := by omega
      obtain ⟨rfl, _⟩ := S3.out (by omega)
      obtain ⟨u, hcu, hfu⟩ := wr_cell hK.1 hlt
      have hK2 := hK.set g3 k (.int .u64 1)
      have hB2 : Below w2.heap.size w2 (wr.setCell ⟨g3, k, none⟩ (.int .u64 1)) := hB.setCell (p := ⟨g3, k, none⟩) (HSz.out.1 (by omega)) _
      clear hK hB
      go_wp2
      go_roundw
      case rel => exact ⟨k + 1, by omega, by go_num, hK2, hB2⟩
      case measure => simp [intOf]; omega
    · have h1 : ¬ (k : Int) < (n3 : Int) := by omega
      clear hk hlt
      have HK := Lib.hid (And.intro hK hB)
      generalize wr = wa at *
      clear hK hB
      go_wp2
      go_loopw [13] (fun i wr => ∃ k : Nat, k ≤ n4 ∧ i = .int .i64 k ∧ K3 g3 n3 g4 n4 g5 n5 wr ∧ Below w2.heap.size w2 wr) (fun i _ => n4 - (intOf i).toNat)
      case atStart => exact ⟨0, Nat.zero_le _, rfl, HK.out.1, HK.out.2⟩
      case round =>
        obtain ⟨k, hk, rfl, hK, hB⟩ := hrel
        by_cases hlt : k < n4
        · have h1 : (k : Int) < (n4 : Int) := by omega
          have h0 : (0 : Int) ≤ (k : Int) := by omega
          have hk5 : (k : Int) + 1 < 5000 := by omega
          obtain ⟨rfl, _⟩ := S4.out (by omega)
          obtain ⟨u, hcu, hfu⟩ := wr_cell hK.2.1 hlt
          have hK2 := hK.set g4 k (.int .u64 2)
          have hB2 : Below w2.heap.size w2 (wr.setCell ⟨g4, k, none⟩ (.int .u64 2)) := hB.setCell (p := ⟨g4, k, none⟩) (HSz.out.2.1 (by omega)) _
          clear hK hB
          go_wp2
          go_roundw
          case rel => exact ⟨k + 1, by omega, by go_num, hK2, hB2⟩
          case measure => simp [intOf]; omega
        · have h1 : ¬ (k : Int) < (n4 : Int) := by omega
          clear hk hlt
          have HK2 := Lib.hid (And.intro hK hB)
          generalize wr = wb at *
          clear hK hB HK
          go_wp2
          go_loopw [14] (fun i wr => ∃ k : Nat, k ≤ n5 ∧ i = .int .i64 k ∧ K3 g3 n3 g4 n4 g5 n5 wr ∧ Below w2.heap.size w2 wr) (fun i _ => n5 - (intOf i).toNat)
          case atStart => exact ⟨0, Nat.zero_le _, rfl, HK2.out.1, HK2.out.2⟩
          case round =>
            obtain ⟨k, hk, rfl, hK, hB⟩ := hrel
            by_cases hlt : k < n5
            · have h1 : (k : Int) < (n5 : Int) := by omega
              have h0 : (0 : Int) ≤ (k : Int) := by omega
              have hk5 : (k : Int) + 1 < 5000 := by omega
              obtain ⟨rfl, _⟩ := S5.out (by omega)
              obtain ⟨u, hcu, hfu⟩ := wr_cell hK.2.2 hlt
              have hK2 := hK.set g5 k (.int .u64 3)
              have hB2 : Below w2.heap.size w2 (wr.setCell ⟨g5, k, none⟩ (.int .u64 3)) := hB.setCell (p := ⟨g5, k, none⟩) (HSz.out.2.2 (by omega)) _
              clear hK hB
              go_wp2
              go_roundw
              case rel => exact ⟨k + 1, by omega, by go_num, hK2, hB2⟩
              case measure => simp [intOf]; omega
            · have h1 : ¬ (k : Int) < (n5 : Int) := by omega
              clear hk hlt
              have bF := b2.trans (hB.mono b2.size)
              have hL := HL.out _ hB
              have hA := LA.out _ bF
              have c71 : wr.cell? ⟨g, na, none⟩ = some (.int .u64 71) := (hB.cell (p := ⟨g, na, none⟩) H7.out.2.2).trans H7.out.1
              have c72 : wr.cell? ⟨g, na + 1, none⟩ = some (.int .u64 72) := (hB.cell (p := ⟨g, na + 1, none⟩) H7.out.2.2).trans H7.out.2.1
              have hn2 : (na : Int) < ((l.length + 2 : Nat) : Int) := by have := H8.out; omega
              have hn3 : (na : Int) + 1 < ((l.length + 2 : Nat) : Int) := by have := H8.out; omega
              clear hK HK2
              go_wp2_with fail
              refine (words_any _ _ l wr hL hA).mono ?_
              rintro e w9 ⟨rfl, q9⟩
              have d71 := (q9.cell _).trans c71
              have d72 := (q9.cell _).trans c72
              clear hL hA c71 c72
              go_wp2
              go_ret
              exact ⟨by simp, bF.trans q9.below⟩
set_option maxRecDepth 100000 in
set_option maxHeartbeats 1000000 in
theorem keeps_law (a0 : Option Addr) (n0 c0 : Nat) (z0 : List Int) (x : Int) (w : World) (h0 : IsRow .u64 w a0 n0 c0 z0) (h1 : (Lit.int .i64 x).wf = true) (hT : Tab w) :
    Calls Tryd.prog 7 #[.slice a0 n0 c0, .int .i64 x] w fun e w' => e = .returned (.bool true) ∧ Below w.heap.size w w' := by
  by_cases k0 : n0 ≤ 8
  · exact keeps_walk n0 c0 a0 x _ w (row_all h0 k0).1 k0 (row_all h0 k0).2 hT
  · have k0' : (8 : Int) < (n0 : Int) := by omega
    have MY := Lib.hid (fun W (h : Below w.heap.size w W) => masked_yes W (hT.grew h))
    clear h0 h1 hT k0
    go_enter Tryd.func7, Tryd.ntmps7
    go_wp2_with fail
    refine (MY.out w (Below.refl _ _)).mono ?_
    rintro e w0 ⟨rfl, b0⟩
    go_wp2_with fail
    refine (MY.out w0 b0).mono ?_
    rintro e w1 ⟨rfl, b1⟩
    go_wp2
    go_ret
    exact ⟨rfl, b0.trans (b1.mono b0.size)⟩
end Go.Proofs.YtalhlbedgkhijaaDoor
