/- The walk of the law ArenaOthers: it returns true, whatever is given. No condition but that each number fits its kind. -/
import Derived.Test.YtkecoekeepigkaaCell
import Derived.Deep.AppendLies
namespace Go.Proofs.Ytkecoekeepigkaa
open Go.RowKit
/-- the cells when the first k have been set -/
def filled (zs : List Int) (k : Nat) : List Int := zs.take k ++ List.replicate (zs.length - k) 0
theorem filled_len (zs : List Int) (k : Nat) (h : k ≤ zs.length) : (filled zs k).length = zs.length := by simp [filled]; omega
theorem filled_zero (zs : List Int) : filled zs 0 = List.replicate zs.length 0 := by simp [filled]
theorem filled_all (zs : List Int) : filled zs zs.length = zs := by simp [filled]
theorem own_cell {w : World} {B g n cap : Nat} {cs : List Int} {E : TypeId} (h : w.ownsRow B E 1 (.slice (some ⟨g, 0, none⟩) n cap) n (cs.map (Value.int .u64))) (q : Nat) (hq : q < n) : w.cell? ⟨g, q, none⟩ = some (.int .u64 (cs.getD q 0)) := by
  have hn : cs.length = n := by have := h.1; simpa using this
  rw [h.cellAt q (by omega)]
  simp [List.getD_eq_getElem?_getD, show q < cs.length by omega]
theorem cell_of_touch {R : Nat → Prop} {w w' : World} (h : Touch R w w') (p : Addr) (hl : p.block < w.heap.size) (hr : ¬ R p.block) : w'.cell? p = w.cell? p := World.cell?_of_block (h.block p.block hl hr)
theorem filled_set (zs : List Int) (k : Nat) (h : k < zs.length) : (filled zs k).set k (zs.getD k 0) = filled zs (k + 1) := by
  unfold filled
  apply List.ext_getElem
  · simp; omega
  · intro i h1 h2
    simp only [List.getElem_set, List.getElem_append, List.length_take, List.getElem_take, List.getElem_replicate]
    by_cases e : k = i
    · subst e
      simp [List.getD_eq_getElem?_getD, h]
      omega
    · rw [if_neg e]
      by_cases hi : i < k
      · simp [hi, show i < k + 1 by omega, show min k zs.length = k by omega, show min (k + 1) zs.length = k + 1 by omega]
      · simp [hi, show ¬ i < k + 1 by omega, show min k zs.length = k by omega, show min (k + 1) zs.length = k + 1 by omega]
theorem mod_small (x : Int) (n : Nat) (h0 : 0 < n) (h1 : n ≤ 1000000) : ∃ j : Nat, j < n ∧ wrap64 ((IntKind.u64.wrap x).tmod n) = j := by
  have hw : 0 ≤ IntKind.u64.wrap x := by rw [IntKind.wrap_u64]; omega
  generalize IntKind.u64.wrap x = y at *
  have e : y.tmod n = y % n := by rw [Int.tmod_eq_emod_of_nonneg hw]
  have h2 : 0 ≤ y % (n : Int) := Int.emod_nonneg _ (by omega)
  have h3 : y % (n : Int) < n := Int.emod_lt_of_pos _ (by omega)
  refine ⟨(y % (n : Int)).toNat, by omega, ?_⟩
  rw [e, IntWalk.wrap64_in _ ⟨by omega, by omega⟩]
  omega
def OthS (B a c : Nat) (w w' : World) : Prop := (∃ cs n, ArenaAt w' a c cs false (.slice none 0 0) n 0) ∧ Below B w w'
theorem OthS.quiet {B a c : Nat} {w w1 w2 : World} (h : OthS B a c w w1) (hq : Quiet w1 w2) : OthS B a c w w2 := by
  obtain ⟨⟨cs, n, hA⟩, hB⟩ := h
  exact ⟨⟨cs, n, hA.quiet hq⟩, hB.trans hq.below⟩
theorem OthS.faults {B a c : Nat} {w w' : World} (h : OthS B a c w w') :
    Calls Try.prog 26 #[.pointer (some ⟨a, 0, none⟩)] w' fun e w2 => e = .returned (.int .i64 0) ∧ Quiet w' w2 := by
  obtain ⟨⟨cs, n, hA⟩, _⟩ := h
  exact faults_at hA
theorem oth_keep {B a c p b o j : Nat} {z ov : Int} {cs : List Int} {n : Int} {w w1 w2 : World} (h : PutStep a c p cs (.slice none 0 0) n 0 j 0 1 0 0 w1 w2) (ec : w1.cell? ⟨b, o + j, none⟩ = some (.int .u64 z)) (eo : w1.cell? ⟨B, 4, none⟩ = some (.int .u64 ov)) (hB : Below B w w1)
    (hl : B < w1.heap.size) (ha : B < a) (hc : B < c) (hp : B < p) (hlt : b < B) : w2.cell? ⟨b, o + j, none⟩ = some (.int .u64 z) ∧ w2.cell? ⟨B, 4, none⟩ = some (.int .u64 ov) ∧ OthS B a c w w2 := by
  obtain ⟨h1, h2, h3⟩ := h
  refine ⟨(cell_of_touch h3 _ (by show b < _; omega) (by show ¬ (b = a ∨ b = c ∨ b = p); omega)).trans ec, (cell_of_touch h3 _ (by show B < _; omega) (by show ¬ (B = a ∨ B = c ∨ B = p); omega)).trans eo, ⟨_, _, h1⟩, hB.trans (h3.belowP (by omega) (by omega) (by omega) (by omega))⟩
theorem oth_quiet {B a c b o j : Nat} {z ov : Int} {w w1 w2 : World} (h : w1.cell? ⟨b, o + j, none⟩ = some (.int .u64 z) ∧ w1.cell? ⟨B, 4, none⟩ = some (.int .u64 ov) ∧ OthS B a c w w1) (hq : Quiet w1 w2) : w2.cell? ⟨b, o + j, none⟩ = some (.int .u64 z) ∧ w2.cell? ⟨B, 4, none⟩ = some (.int .u64 ov) ∧ OthS B a c w w2 :=
  ⟨(hq.cell _).trans h.1, (hq.cell _).trans h.2.1, h.2.2.quiet hq⟩
theorem oth_got {B a c b o j : Nat} {z ov : Int} {w w1 : World} (h : w1.cell? ⟨b, o + j, none⟩ = some (.int .u64 z) ∧ w1.cell? ⟨B, 4, none⟩ = some (.int .u64 ov) ∧ OthS B a c w w1) : OthS B a c w w1 := h.2.2
theorem oth_end {B a c b o j : Nat} {z ov : Int} {w w1 : World} (h : w1.cell? ⟨b, o + j, none⟩ = some (.int .u64 z) ∧ w1.cell? ⟨B, 4, none⟩ = some (.int .u64 ov) ∧ OthS B a c w w1) : Below B w w1 := h.2.2.2
set_option maxRecDepth 100000 in
set_option maxHeartbeats 2000000 in
theorem others_main (b o cap n : Nat) (zs : List Int) (op ok oa ow ov : Int) (w : World) (hn : Hid (zs.length = n)) (h0 : 0 < n) (h1 : n ≤ 200) (hc : Hid (∀ i, i < n → w.cell? ⟨b, o + i, none⟩ = some (.int .u64 (zs.getD i 0)))) (hlt : b < w.heap.size)  :
    Calls Try.prog 5 #[.slice (some ⟨b, o, none⟩) n cap, .agg #[.int .i64 op, .int .i64 ok, .int .i64 oa, .int .u64 ow, .int .u64 ov]] w fun e w' => e = .returned (.bool true) ∧ Below w.heap.size w w' := by
  go_enter Try.func5, Try.ntmps5
  go_wp2_with fail
  refine (celled_any _).mono ?_
  rintro e w1 ⟨rfl, hb1⟩
  go_wp2_with fail
  refine (new_yes n false _ (by omega) (by omega)).mono ?_
  rintro e w2 ⟨a, c, rfl, hA2, ha, hc2, hb2⟩
  go_wp2_with fail
  have hs1 := hb1.size
  have hs2 := hb2.size
  rw [World.size_alloc] at hs1
  have lA := hA2.lt
  have hB2 : Below w.heap.size w w2 := (((Below.refl _ _).alloc (Nat.le_refl _) _).trans (hb1.mono (by simp))).trans (hb2.mono (by omega))
  have hA2' : ArenaAt w2 a c (filled zs 0) false (.slice none 0 0) 0 0 := by rw [filled_zero, hn.out]; exact hA2
  have hO2 : Blk w2 w.heap.size #[.int .i64 op, .int .i64 ok, .int .i64 oa, .int .u64 ow, .int .u64 ov] 35 := ((Blk.new w _ _).grew hb1).grew hb2
  clear hA2 hb1 hb2
  go_loopw [7] (fun i wr => ∃ k : Nat, k ≤ n ∧ i = .int .i64 k ∧ ArenaAt wr a c (filled zs k) false (.slice none 0 0) 0 0 ∧ Touch (fun x => x = c) w2 wr) (fun i _ => n - (intOf i).toNat)
  case atStart => exact ⟨0, Nat.zero_le _, rfl, hA2', Touch.refl _ _⟩
  case round =>
    obtain ⟨k, hk, rfl, hA, hT⟩ := hrel
    by_cases hlt' : k < n
    · have e1 : wr.cell? ⟨b, o + k, none⟩ = some (.int .u64 (zs.getD k 0)) := (cell_of_touch hT ⟨b, o + k, none⟩ (by show b < _; omega) (by show ¬ b = c; omega)).trans ((hB2.cell (p := ⟨b, o + k, none⟩) hlt).trans (hc.out k hlt'))
      have hfs := Lib.hid (filled_set zs k (by rw [hn.out]; exact hlt'))
      have hfl := Lib.hid (filled_len zs k (by rw [hn.out]; exact hk))
      have P := Lib.hid (fun W (hq : Quiet wr W) => poke_yes k (zs.getD k 0) (hA.quiet hq) (by rw [hfl.out, hn.out]; exact hlt') (by rw [hfl.out, hn.out]; omega))
      have hA := Lib.hid hA
      generalize zs.getD k 0 = v at *
      go_wp2_with fail
      refine (P.out _ (Quiet.refl _)).mono ?_
      rintro e w3 ⟨rfl, hA3, hT3⟩
      rw [hfs.out] at hA3
      go_wp2
      go_roundw
      case rel => exact ⟨k + 1, by omega, by go_num, hA3, hT.trans hT3⟩
      case measure => simp [intOf]; omega
    · obtain rfl : k = n := by omega
      rw [← hn.out, filled_all] at hA
      have hB3 : Below w.heap.size w wr := hB2.trans (hT.below hB2.size (fun x hx => by omega))
      have hO3 := hO2.touch hT (by omega)
      have lA3 := hA.lt
      clear hA2' hO2
      go_wp2_with fail
      refine (port_yes a 0 _ (by decide) (by decide)).mono ?_
      rintro e w4 ⟨p, rfl, hP4, hp, hb4⟩
      have hA4 := hA.grew hb4
      have hB4 := hB3.trans (hb4.mono hB3.size)
      have hO4 := hO3.grew hb4
      have o2 : w4.cell? ⟨w.heap.size, 2, none⟩ = some (.int .i64 oa) := hO4.val 2 rfl
      have hpa : p ≠ a := by omega
      have hpc : p ≠ c := by omega
      clear hA hb4 hT hO3
      go_wp2_with fail
      refine (grant_at p a 0 false _ hP4).mono ?_
      rintro e w5 ⟨⟨v5, rfl⟩, hP5, hT5⟩
      have hA5 := hA4.touch hT5 (Ne.symm hpa) (Ne.symm hpc)
      have hB5 := hB4.trans (hT5.below hB4.size (fun x hx => by omega))
      have hO5 := Blk.touch hO4 hT5 (by omega)
      have o4 : w5.cell? ⟨w.heap.size, 4, none⟩ = some (.int .u64 ov) := hO5.val 4 rfl
      clear hA4 hB4 hO4 hT5 hP4 o2
      obtain ⟨j, hj, HJ⟩ := mod_small oa k h0 (by omega)
      have SW := Lib.hid (swap_put a c p zs (.slice none 0 0) 0 0 0 j ov w5 hA5 hP5 hpa hpc (by decide) (by decide) (by rw [hn.out]; exact hj) (by rw [hn.out]; omega))
      generalize hz : zs.getD j 0 = z at SW
      have Hz := Lib.hid hz
      clear hz
      go_wp2_with fail
      refine SW.out.mono ?_
      rintro e w6 ⟨rfl, hA6, hP6, hT6⟩
      rw [show leftI 3 (zs.getD j 0) 0 ov = ov from rfl] at hA6
      have hB6 := hB5.trans (hT6.belowP hB5.size (by omega) (by omega) (by omega))
      have hO6 := Blk.touch hO5 hT6 (by omega)
      clear SW hA5 hB5 hO5 hT6 hP5 o4
      go_wp2_with fail
      refine (image_at a c _ false _ _ _ _ hA6 (by rw [List.length_set, hn.out]; exact h0) (by rw [List.length_set, hn.out]; omega)).mono ?_
      rintro e w7 ⟨v, rfl, hown7, hb7⟩
      rw [List.length_set, hn.out] at hown7
      obtain ⟨g, gcap, rfl, hg, hgl⟩ := hown7.form h0
      have hA7 := hA6.grew hb7
      have hP7 : PortAt w7 p a 0 false := Blk.grew hP6 hb7
      have hB7 := hB6.trans (hb7.mono hB6.size)
      have hO7 := Blk.grew hO6 hb7
      clear hA6 hP6 hB6 hO6 hb7
      have hsl := Lib.hid (show (zs.set j ov).length = k by rw [List.length_set, hn.out])
      go_wp2_with fail
      go_loopw [12] (fun i wr => ∃ q : Nat, q ≤ k ∧ i = .int .i64 q ∧ Quiet w7 wr) (fun i _ => k - (intOf i).toNat)
      case atStart => exact ⟨0, Nat.zero_le _, rfl, Quiet.refl _⟩
      case round =>
        obtain ⟨q, hq, rfl, hQ⟩ := hrel
        by_cases hlq : q < k
        · have ec : wr.cell? ⟨b, o + q, none⟩ = some (.int .u64 (zs.getD q 0)) := (hQ.cell _).trans ((hB7.cell (p := ⟨b, o + q, none⟩) hlt).trans (hc.out q hlq))
          have en : wr.cell? ⟨g, q, none⟩ = some (.int .u64 ((zs.set j ov).getD q 0)) := by
            rw [hQ.cell]; exact own_cell hown7 q hlq
          have eo : wr.cell? ⟨w.heap.size, 4, none⟩ = some (.int .u64 ov) := (hQ.cell _).trans (hO7.val 4 rfl)
          by_cases hqj : q = j
          · subst hqj
            rw [show (zs.set q ov).getD q 0 = ov by simp [List.getD_eq_getElem?_getD, show q < zs.length by rw [hn.out]; exact hlq]] at en
            have hb1 : ((q : Int) == (q : Int)) = true := by simp
            have hb2 : (ov != ov) = false := by simp
            generalize zs.getD q 0 = V at *
            go_wp2
            go_roundw
            case rel => exact ⟨q + 1, by omega, by go_num, hQ⟩
            case measure => simp [intOf]; omega
          · rw [show (zs.set j ov).getD q 0 = zs.getD q 0 by simp [List.getD_eq_getElem?_getD, Ne.symm hqj]] at en
            have hb1 : ((q : Int) == (j : Int)) = false := beq_eq_false_iff_ne.2 (by omega)
            have hb3 : (q == j) = false := beq_eq_false_iff_ne.2 hqj
            generalize zs.getD q 0 = V at *
            have hb2 : (V != V) = false := by simp
            go_wp2
            go_roundw
            case rel => exact ⟨q + 1, by omega, by go_num, hQ⟩
            case measure => simp [intOf]; omega
        · obtain rfl : q = k := by omega
          go_wp2_with fail
          refine (grant_at p a 0 false _ (Blk.quiet hP7 hQ)).mono ?_
          rintro e w8 ⟨⟨v8, rfl⟩, hP8, hT8⟩
          have hA8 := (hA7.quiet hQ).touch hT8 (Ne.symm hpa) (Ne.symm hpc)
          have hB8 : Below w.heap.size w w8 := (hB7.trans hQ.below).trans (hT8.below (Nat.le_trans hB7.size (hQ.below (B := 0)).size) (fun x hx => by omega))
          have ec : w8.cell? ⟨b, o + j, none⟩ = some (.int .u64 z) := by
            rw [hB8.cell (p := ⟨b, o + j, none⟩) hlt, hc.out j hj, Hz.out]
          have eo : w8.cell? ⟨w.heap.size, 4, none⟩ = some (.int .u64 ov) := (Blk.touch (Blk.quiet hO7 hQ) hT8 (by omega)).val 4 rfl
          have hz2 : (zs.set j ov).getD j 0 = ov := by simp [List.getD_eq_getElem?_getD, show j < zs.length by rw [hn.out]; exact hj]
          have LD := load_put a c p (zs.set j ov) (.slice none 0 0) (0 + 1) 0 0 j w8.drew hA8.drew (Blk.drew hP8) hpa hpc (by decide) (by decide) (by rw [hsl.out]; exact hj) (by rw [hsl.out]; omega)
          rw [hz2] at LD
          have LD := Lib.hid LD
          have FL := Lib.hid (fun W (h : OthS w.heap.size a c w W) => OthS.faults h)
          have KL := Lib.hid (fun W (h : PutStep a c p (zs.set j ov) (.slice none 0 0) (0 + 1) 0 j 0 1 0 0 w8.drew W) => oth_keep (b := b) (o := o) (j := j) (z := z) (ov := ov) (B := w.heap.size) (w := w) h ec eo (hB8.trans (Quiet.below (Quiet.drew (n := 1)))) (World.block_lt_of_cell? _ _ eo) (by omega) (by omega) (by omega) hlt)
          clear hz2 Hz HJ hc hO7 hP7 hA7 hQ hown7 hsl hT8
          go_wp2_with fail
          have eo0 : OthS w.heap.size a c w w8 := ⟨⟨_, _, hA8⟩, hB8⟩
          go_region_held3 (fun w' => w'.cell? ⟨b, o + j, none⟩ = some (.int .u64 z) ∧ w'.cell? ⟨w.heap.size, 4, none⟩ = some (.int .u64 ov) ∧ OthS w.heap.size a c w w') (first | exact ⟨ec, eo, eo0.quiet ⟨1, rfl⟩⟩ | exact KL.out _ hstep | exact oth_quiet (by assumption) hqf) (first | (go_at_call 15; refine LD.out.mono ?_; rintro e w9 ⟨rfl, hstep⟩) | (go_at_call 26; refine (FL.out _ (oth_got (by assumption))).mono ?_; rintro e w10 ⟨rfl, hqf⟩))
          all_goals
            go_wp2
            go_ret
            exact ⟨rfl, oth_end (by assumption)⟩
set_option maxHeartbeats 400000 in
theorem others_out (x : Option Addr) (cap n : Nat) (op ok oa ow ov : Int) (w : World) (h : n = 0 ∨ 200 < n) :
    Calls Try.prog 5 #[.slice x n cap, .agg #[.int .i64 op, .int .i64 ok, .int .i64 oa, .int .u64 ow, .int .u64 ov]] w fun e w' => e = .returned (.bool true) ∧ Below w.heap.size w w' := by
  rcases h with rfl | h
  · go_enter Try.func5, Try.ntmps5
    go_wp2_with fail
    refine (celled_any _).mono ?_
    rintro e w1 ⟨rfl, hb1⟩
    have hB1 := ((Below.refl _ _).alloc (Nat.le_refl _) (.cells #[.int .i64 op, .int .i64 ok, .int .i64 oa, .int .u64 ow, .int .u64 ov] 35)).trans (hb1.mono (B' := w.heap.size) (by simp))
    clear hb1
    go_wp2_with fail
    refine (celled_any _).mono ?_
    rintro e w2 ⟨rfl, hb2⟩
    go_wp2_with fail
    go_ret
    exact ⟨rfl, hB1.trans (hb2.mono hB1.size)⟩
  · have h1 : 1 ≤ n := by omega
    go_enter Try.func5, Try.ntmps5
    go_wp2_with fail
    refine (celled_any _).mono ?_
    rintro e w1 ⟨rfl, hb1⟩
    have hB1 := ((Below.refl _ _).alloc (Nat.le_refl _) (.cells #[.int .i64 op, .int .i64 ok, .int .i64 oa, .int .u64 ow, .int .u64 ov] 35)).trans (hb1.mono (B' := w.heap.size) (by simp))
    clear hb1
    go_wp2_with fail
    refine (celled_any _).mono ?_
    rintro e w2 ⟨rfl, hb2⟩
    go_wp2_with fail
    go_ret
    exact ⟨rfl, hB1.trans (hb2.mono hB1.size)⟩
theorem others_law (x : Option Addr) (n cap : Nat) (z : List Int) (op ok oa ow ov : Int) (w : World) (h : IsRow .u64 w x n cap z) (_h1 : (Lit.int .i64 op).wf = true) (_h2 : (Lit.int .i64 ok).wf = true) (_h3 : (Lit.int .i64 oa).wf = true) (_h4 : (Lit.int .u64 ow).wf = true) (_h5 : (Lit.int .u64 ov).wf = true) :
    Calls Try.prog 5 #[.slice x n cap, .agg #[.int .i64 op, .int .i64 ok, .int .i64 oa, .int .u64 ow, .int .u64 ov]] w fun e w' => e = .returned (.bool true) ∧ Below w.heap.size w w' := by
  by_cases hn : n = 0 ∨ 200 < n
  · exact others_out x cap n op ok oa ow ov w hn
  · obtain ⟨hl, _, _, hlen⟩ := h.lst
    rcases hl with ⟨h0, _⟩ | ⟨b, o, c, he, hp, _, hc⟩
    · rw [h0] at hlen
      exact absurd hlen.symm (fun e => hn (.inl e))
    · rw [hlen] at he hp hc
      cases he
      exact others_main b o _ n (z.take n) op ok oa ow ov w hlen hp (by omega) hc (World.block_lt_of_cell? w _ (hc 0 hp))
end Go.Proofs.Ytkecoekeepigkaa
