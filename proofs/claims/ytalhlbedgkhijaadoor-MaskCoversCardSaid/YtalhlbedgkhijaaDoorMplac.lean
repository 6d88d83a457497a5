/- MaskPlaces: the walk of the whole. Conditions: the argument is a list of words, the table of math/bits lies as the start lays it. -/
import Derived.Test.YtalhlbedgkhijaaDoorMrwo
import Derived.Test.YtalhlbedgkhijaaDoorMnexl
import Derived.Test.YtalhlbedgkhijaaDoorMroom
namespace Go.Proofs.YtalhlbedgkhijaaDoor
open Go.RowKit
set_option linter.unusedVariables false

theorem cnt_plcs (X : Nat) : ∀ n, (plcs X n).length = cnt X n := plcs_length X
theorem count_places (l : List Int) : ((plL l).length : Int) = cntL l := by
  have h : ∀ m, ((plR l m).length : Int) = ((List.range m).map fun i => onesI (l.getD i 0)).sum := by
    intro m
    induction m with
    | zero => rfl
    | succ m ih =>
      rw [plR_succ, List.length_append, List.length_map, plcs_length, List.range_succ, List.map_append, List.sum_append, ← ih]
      simp [onesI]
  rw [cntL_range l l.length (Nat.le_refl _), ← h]
  rfl
set_option maxHeartbeats 400000 in
theorem has_neg (v : Value) (p : Int) (w : World) (h : p < 0) :
    Calls Tryd.prog 15 #[v, .int .i64 p] w fun e w' => e = .returned (.bool false) ∧ Quiet w w' := by
  have h' : ¬ 0 ≤ p := by omega
  go_enter Tryd.func15, Tryd.ntmps15
  go_wp2
  go_ret
  exact ⟨rfl, Quiet.refl _⟩
set_option maxHeartbeats 400000 in
theorem rhas_neg (v : Value) (p : Int) (w : World) (h : p < 0) :
    Calls Tryd.prog 29 #[v, .int .i64 p] w fun e w' => e = .returned (.bool false) ∧ Quiet w w' := by
  go_enter Tryd.func29, Tryd.ntmps29
  go_wp2
  go_ret
  exact ⟨rfl, Quiet.refl _⟩
set_option maxHeartbeats 400000 in
theorem read_out (a : Option Addr) (n cap i : Nat) (w : World) (h : n ≤ i) :
    Calls Tryd.prog 42 #[.slice a n cap, .int .i64 i] w fun e w' => e = .returned (.int .u64 0) ∧ Quiet w w' := by
  have h' : (n : Int) ≤ (i : Int) := by omega
  go_enter Tryd.func42, Tryd.ntmps42
  go_wp2
  go_ret
  exact ⟨rfl, Quiet.refl _⟩
set_option maxHeartbeats 400000 in
theorem mbit_big (at' : Nat) (w : World) :
    Calls Tryd.prog 43 #[.int .i64 at'] w fun e w' => e = .returned (.int .u64 (mbitI at')) ∧ Quiet w w' := by
  have h0 : (0 : Int) ≤ (at' : Int) := by omega
  go_enter Tryd.func43, Tryd.ntmps43
  go_wp2
  go_ret
  exact ⟨ret_int (wrap_pow _ (Nat.mod_lt _ (by decide))), Quiet.refl _⟩
set_option maxHeartbeats 400000 in
theorem has_big (a : Option Addr) (n cap p : Nat) (w : World) (h : 64 * n ≤ p) (h2 : p < 9223372036854775808) :
    Calls Tryd.prog 15 #[.slice a n cap, .int .i64 p] w fun e w' => e = .returned (.bool false) ∧ Quiet w w' := by
  have R := Lib.hid (fun W => read_out a n cap (p / 64) W (by omega))
  have B := Lib.hid (fun W => mbit_big p W)
  have hz : bits .and .u64 0 (mbitI p) = 0 := tb_ext (and_U64 ⟨by decide, by decide⟩ (bitI_U64 p)) ⟨by decide, by decide⟩ (fun k => by rw [tb_and ⟨by decide, by decide⟩ (bitI_U64 p), tb_zero]; rfl)
  generalize mbitI p = y at *
  have h0 : (0 : Int) ≤ (p : Int) := by omega
  have hq : (p : Int) / 64 = ((p / 64 : Nat) : Int) := by omega
  have hqw : wrap64 ((p / 64 : Nat) : Int) = ((p / 64 : Nat) : Int) := by unfold wrap64; omega
  have hqi : IntKind.i64.wrap ((p / 64 : Nat) : Int) = ((p / 64 : Nat) : Int) := by rw [IntKind.wrap_i64]; omega
  clear h h2
  generalize p / 64 = q at *
  go_enter Tryd.func15, Tryd.ntmps15
  go_wp2_with fail
  refine (R.out _).mono ?_
  rintro e w1 ⟨rfl, q1⟩
  go_wp2_with fail
  refine (B.out _).mono ?_
  rintro e w2 ⟨rfl, q2⟩
  go_wp2
  go_ret
  exact ⟨by simp, q1.trans q2⟩
set_option maxHeartbeats 400000 in
theorem rhas_big (a : Option Addr) (n cap p : Nat) (w : World) (h : 64 * n ≤ p) (hn : n ≤ 4096) :
    Calls Tryd.prog 29 #[.slice a n cap, .int .i64 p] w fun e w' => e = .returned (.bool false) ∧ Quiet w w' := by
  have EN := Lib.hid (fun W => rend_any a n cap W (by omega))
  have hpn : ¬ (p : Int) < 0 := by omega
  have h1 : (64 * (n : Int) ≤ (p : Int)) := by omega
  clear h
  go_enter Tryd.func29, Tryd.ntmps29
  go_wp2_with fail
  refine (EN.out _).mono ?_
  rintro e w1 ⟨rfl, q1⟩
  go_wp2
  go_ret
  exact ⟨rfl, q1⟩
/-- both Has tell the same, at any number -/
theorem has_both (a : Option Addr) (n cap : Nat) (l : List Int) (p : Int) (w : World) (h : Lst .u64 w (.slice a n cap) l) (hn : l.length = n) (hU : ∀ z ∈ l, U64 z) (hl : n ≤ 1000) (hp : p < 9223372036854775808) :
    ∃ b : Bool, (∀ W, Below w.heap.size w W → Calls Tryd.prog 15 #[.slice a n cap, .int .i64 p] W fun e w' => e = .returned (.bool b) ∧ Quiet W w') ∧ (∀ W, Below w.heap.size w W → Calls Tryd.prog 29 #[.slice a n cap, .int .i64 p] W fun e w' => e = .returned (.bool b) ∧ Quiet W w') := by
  by_cases h0 : p < 0
  · exact ⟨false, fun W _ => has_neg _ p W h0, fun W _ => rhas_neg _ p W h0⟩
  · obtain ⟨P, rfl⟩ := Int.eq_ofNat_of_zero_le (show 0 ≤ p by omega)
    by_cases hb : P < 1000000
    · exact ⟨hasP l P, fun W hW => by rw [← hasB_P hU P]; exact has_any _ l P W (h.below hW) hb, fun W hW => rhas_any _ l P W (h.below hW) hU (by omega) hb⟩
    · exact ⟨false, fun W _ => has_big a n cap P W (by omega) (by omega), fun W _ => rhas_big a n cap P W (by omega) (by omega)⟩
set_option maxRecDepth 100000 in
set_option maxHeartbeats 2000000 in
theorem places_walk (na ca : Nat) (aa : Option Addr) (p : Int) (l : List Int) (w : World) (ha : LstAll w (.slice aa na ca) l) (h1 : na ≤ 8) (hl8 : l.length = na) (hp : p < 9223372036854775808) (hT : Tab w) :
    Calls Tryd.prog 8 #[.slice aa na ca, .int .i64 p] w fun e w' => e = .returned (.bool true) ∧ Below w.heap.size w w' := by
  have h1' : ¬ (8 : Int) < (na : Int) := by omega
  obtain ⟨b, HB1, HB2⟩ := has_both aa na ca l p w ha.1 hl8 ha.2.1 (by omega) hp
  have C1 := Lib.hid (fun W (h : Below w.heap.size w W) => with_both _ l p W (ha.grew h).1 ha.2.2)
  have C2 := Lib.hid (fun W (h : Below w.heap.size w W) => rwith_both aa na ca l p W (ha.grew h).1 hl8 ha.2.1 (by omega))
  have C3 := Lib.hid (fun W (h : Below w.heap.size w W) => without_both _ l p W (ha.grew h).1 ha.2.2)
  have C4 := Lib.hid (fun W (h : Below w.heap.size w W) => rwithout_both aa na ca l p W (ha.grew h).1 hl8 ha.2.1 (by omega))
  have C5 := Lib.hid (fun W (h : Below w.heap.size w W) => count_lst _ l W (ha.grew h).1 ha.2.1 (by have := ha.2.2; omega))
  have C6 := Lib.hid (fun W (h : Below w.heap.size w W) => rplaces_any _ l W (ha.grew h).1 ha.2.1 ha.2.2)
  have HB1 := Lib.hid HB1
  have HB2 := Lib.hid HB2
  have MY := Lib.hid (fun W (h : Below w.heap.size w W) => masked_yes W (hT.grew h))
  have CP := Lib.hid (count_places l)
  clear ha h1 hl8 hp hT
  generalize withW l p = L1 at *
  generalize withoutW l p = L2 at *
  generalize withE p = er at *
  go_enter Tryd.func8, Tryd.ntmps8
  go_wp2_with fail
  refine (C1.out w (Below.refl _ _)).mono ?_
  rintro e w1 ⟨v1, rfl, l1, -, b1⟩
  go_wp2_with fail
  refine (C2.out w1 b1).mono ?_
  rintro e w2 ⟨v2, rfl, l2, -, c2⟩
  have b2 := b1.trans (c2.mono b1.size)
  have l1b := l1.below c2
  go_wp2_with fail
  refine (C3.out w2 b2).mono ?_
  rintro e w3 ⟨v3, rfl, l3, -, c3⟩
  have b3 := b2.trans (c3.mono b2.size)
  have l1c := l1b.below c3
  have l2c := l2.below c3
  clear l1 l1b l2 c2 c3
  go_wp2_with fail
  refine (C4.out w3 b3).mono ?_
  rintro e w4 ⟨v4, rfl, l4, -, c4⟩
  have b4 := b3.trans (c4.mono b3.size)
  have l1d := l1c.below c4
  have l2d := l2c.below c4
  have l3d := l3.below c4
  clear l1c l2c l3 c4
  go_wp2_with fail
  refine (MY.out w4 b4).mono ?_
  rintro e w5 ⟨rfl, c5⟩
  have b5 := b4.trans (c5.mono b4.size)
  have l1e := l1d.below c5
  have l2e := l2d.below c5
  have l3e := l3d.below c5
  have l4e := l4.below c5
  clear l1d l2d l3d l4 c5 C1 C2 C3 C4 b1 b2 b3 b4
  go_wp2_with fail
  refine (HB1.out w5 b5).mono ?_
  rintro e w6 ⟨rfl, q6⟩
  have b6 := b5.trans q6.below
  go_wp2_with fail
  refine (HB2.out w6 b6).mono ?_
  rintro e w7 ⟨rfl, q7⟩
  have b7 := b6.trans q7.below
  have q67 := q6.trans q7
  have HL := Lib.hid (And.intro (l1e.quiet q67) (And.intro (l2e.quiet q67) (And.intro (l3e.quiet q67) (l4e.quiet q67))))
  clear l1e l2e l3e l4e q6 q7 q67
  go_wp2_with fail
  refine (words_any v1 v2 L1 w7 HL.out.1 HL.out.2.1).mono ?_
  rintro e w8 ⟨rfl, q8⟩
  have b8 := b7.trans q8.below
  go_wp2_with fail
  refine (words_any v3 v4 L2 w8 (HL.out.2.2.1.quiet q8) (HL.out.2.2.2.quiet q8)).mono ?_
  rintro e w9 ⟨rfl, q9⟩
  have b9 := b8.trans q9.below
  clear HL q8 q9 b5 b6 b7 b8
  go_wp2_with fail
  refine (C5.out w9 b9).mono ?_
  rintro e wa ⟨rfl, qa⟩
  have ba := b9.trans qa.below
  go_wp2_with fail
  refine (C6.out wa ba).mono ?_
  rintro e wb ⟨u, rfl, hown, cb⟩
  obtain ⟨ua, uc, rfl⟩ := own_slice hown
  have bb := ba.trans (cb.mono ba.size)
  rw [← CP.out]
  clear hown cb
  go_wp2
  go_ret
  exact ⟨by simp, bb⟩
set_option maxRecDepth 100000 in
set_option maxHeartbeats 1000000 in
theorem places_law (a0 : Option Addr) (n0 c0 : Nat) (z0 : List Int) (p : Int) (w : World) (h0 : IsRow .u64 w a0 n0 c0 z0) (h1 : (Lit.int .i64 p).wf = true) (hT : Tab w) :
    Calls Tryd.prog 8 #[.slice a0 n0 c0, .int .i64 p] w fun e w' => e = .returned (.bool true) ∧ Below w.heap.size w w' := by
  by_cases k0 : n0 ≤ 8
  · exact places_walk n0 c0 a0 p _ w (row_all h0 k0).1 k0 (row_all h0 k0).2 (wf_I64 h1).2 hT
  · have k0' : (8 : Int) < (n0 : Int) := by omega
    have MY := Lib.hid (masked_yes w hT)
    clear h0 h1 hT k0
    go_enter Tryd.func8, Tryd.ntmps8
    go_wp2_with fail
    refine MY.out.mono ?_
    rintro e w0 ⟨rfl, b0⟩
    go_wp2
    go_ret
    exact ⟨rfl, b0⟩
end Go.Proofs.YtalhlbedgkhijaaDoor
