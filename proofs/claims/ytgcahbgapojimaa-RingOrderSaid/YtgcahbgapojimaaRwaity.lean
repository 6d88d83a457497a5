/- What ring's Waiting returns where the thread is there and its ring's counts are right. Condition: the arena is there, as great as the plan. -/
import Derived.Test.YtgcahbgapojimaaRtakes
import Derived.Test.YtgcahbgapojimaaRwait
import Derived.Test.YtgcahbgapojimaaDraw
namespace Go.Proofs.Ytgcahbgapojimaa
open Go.RowKit
/-- the words that wait: k from the count hd on -/
def waitL (R t hd : Int) (cs : List Int) (k : Nat) : List Int := (List.range k).map (fun (i : Nat) => cs.getD (slotN R t (IntKind.u64.wrap (hd + i))) 0)
theorem waitL_succ (R t hd : Int) (cs : List Int) (k : Nat) : waitL R t hd cs (k + 1) = waitL R t hd cs k ++ [cs.getD (slotN R t (IntKind.u64.wrap (hd + k))) 0] := by simp [waitL, List.range_succ]
theorem waitL_len (R t hd : Int) (cs : List Int) (k : Nat) : (waitL R t hd cs k).length = k := by simp [waitL]
def WaitPost (R t hd : Int) (cs : List Int) (k : Nat) (w : World) (e : Ending) (w' : World) : Prop :=
  ∃ v, e = .returned (.tuple #[v, .int .i64 0]) ∧ w'.ownsRow w.heap.size 22 1 v k ((waitL R t hd cs k).map (Value.int .u64)) ∧ Below w.heap.size w w'
theorem own_base {w : World} {base base' E size n : Nat} {v : Value} {xs : List Value} (h : w.ownsRow base E size v n xs) (hb : base' ≤ base) : w.ownsRow base' E size v n xs := by
  refine ⟨h.1, ?_⟩
  rcases h.2 with hn | ⟨g, cap, cur, h1, h2, rest⟩
  · exact .inl hn
  · exact .inr ⟨g, cap, cur, h1, Nat.le_trans hb h2, rest⟩
theorem Ary.peek {w : World} {B a c n i : Nat} {cs : List Int} {K : List Nat} (h : Ary w B a c cs n K) (hi : i < cs.length) (hm : cs.length ≤ 1000000) :
    Calls Try.prog 74 #[.pointer (some ⟨a, 0, none⟩), .int .i64 i] w fun e w' => e = .returned (.tuple #[.int .u64 (cs.getD i 0), .int .i64 0]) ∧ Quiet w w' := by
  obtain ⟨xs, h⟩ := h; exact peek_x h hi hm
set_option maxRecDepth 100000 in
set_option maxHeartbeats 1000000 in
theorem waiting_yes {B a c n : Nat} {cs : List Int} {K : List Nat} (P T R t hd tl : Int) (k : Nat) (w : World) (hA : Ary w B a c cs n K) (hx : exB P T R t = true) (hl : cs.length = cellsN P T R) (h1 : cs.getD (ownN R t 3) 0 = hd) (h2 : cs.getD (ownN R t 4) 0 = tl) (h3 : IntKind.u64.wrap (tl - hd) = k) (h4 : (k : Int) ≤ R) :
    Calls Try.prog 23 #[.pointer (some ⟨a, 0, none⟩), .agg #[.int .i64 P, .int .i64 T, .int .i64 R], .int .i64 t] w (WaitPost R t hd cs k w) := by
  obtain ⟨hN, hN1, hN2⟩ := cellsN_bd (exB_of hx).1
  have hm : cs.length ≤ 1000000 := by omega
  obtain ⟨r1, r2⟩ := ring_bd hx
  have i3 := ownN_bd hx 3 (by decide) (by omega)
  have i4 := ownN_bd hx 4 (by decide) (by omega)
  have EX := Lib.hid (fun W => exists_any P T R t W)
  rw [hx] at EX
  have HH := Lib.hid (fun W => head_any P T R t W)
  rw [i3.1] at HH
  have TT := Lib.hid (fun W => tail_any P T R t W)
  rw [i4.1] at TT
  have PH := Lib.hid (fun W (h : Ary W B a c cs n K) => h.peek (i := ownN R t 3) (by rw [hl]; exact i3.2.1) hm)
  rw [h1] at PH
  have PT := Lib.hid (fun W (h : Ary W B a c cs n K) => h.peek (i := ownN R t 4) (by rw [hl]; exact i4.2.1) hm)
  rw [h2] at PT
  have SL := Lib.hid (fun (j : Nat) W => (show Calls Try.prog 82 #[.agg #[.int .i64 P, .int .i64 T, .int .i64 R], .int .i64 t, .int .u64 (IntKind.u64.wrap (hd + j))] W fun e w' => e = .returned (.int .i64 (slotN R t (IntKind.u64.wrap (hd + j)))) ∧ Below W.heap.size W w' by
    have := slot_any P T R t (IntKind.u64.wrap (hd + j)) W (by rw [IntKind.wrap_u64]; exact ⟨by omega, by omega⟩)
    rw [(slotN_bd hx _).1] at this; exact this))
  have PS := Lib.hid (fun (j : Nat) W (h : Ary W B a c cs n K) => h.peek (i := slotN R t (IntKind.u64.wrap (hd + j))) (by rw [hl]; exact (slotN_bd hx _).2.1) hm)
  have hwR : IntKind.u64.wrap R = R := by rw [IntKind.wrap_u64]; omega
  have hgt : decide (R < (k : Int)) = false := decide_eq_false (by omega)
  obtain ⟨i0, hi0, hz0, hz1, hz2⟩ := info_parts info_u64
  have Z := Lib.hid (And.intro hi0 (And.intro hz0 (And.intro hz1 hz2)))
  clear hi0 hz0 hz1 hz2
  have hk16 : k ≤ 16 := by omega
  clear hN hN1 hN2 i3 i4 h1 h2 hl hm hx
  generalize ownN R t 3 = i3 at *
  generalize ownN R t 4 = i4 at *
  have hA0 := hA.grew ((Below.refl _ _).alloc (Nat.le_refl _) (.cells #[.int .i64 P, .int .i64 T, .int .i64 R] 49))
  have hBx := Blk.new w #[.int .i64 P, .int .i64 T, .int .i64 R] 49
  have hB0 : Below w.heap.size w (w.alloc (.cells #[.int .i64 P, .int .i64 T, .int .i64 R] 49)) := (Below.refl _ _).alloc (Nat.le_refl _) _
  clear hA
  have b0 := hBx.three.1
  go_enter Try.func23, Try.ntmps23
  go_wp2_with fail
  generalize w.alloc (.cells #[.int .i64 P, .int .i64 T, .int .i64 R] 49) = w0 at *
  have hsz0 := hB0.size
  generalize hbq : w.heap.size = bq at *
  refine (EX.out _).mono ?_; rintro e w1 ⟨rfl, hb1⟩
  have hA1 := hA0.grew hb1
  have b1 := (hBx.grew hb1).three.1
  have g1 := hb1
  clear hb1 b0
  go_wp2_with fail
  refine (HH.out _).mono ?_; rintro e w2 ⟨rfl, hb2⟩
  have hA2 := hA1.grew hb2
  have g2 := g1.trans (hb2.mono g1.size)
  clear hb2 b1 hA1 g1
  go_wp2_with fail
  refine (PH.out _ hA2).mono ?_; rintro e w3 ⟨rfl, hq3⟩
  have hA3 := hA2.quiet hq3
  have g3 := g2.trans hq3.below
  have b3 := (hBx.grew g3).three.1
  clear hq3 hA2 g2
  go_wp2_with fail
  refine (TT.out _).mono ?_; rintro e w4 ⟨rfl, hb4⟩
  have hA4 := hA3.grew hb4
  have g4 := g3.trans (hb4.mono g3.size)
  clear hb4 b3 hA3 g3
  go_wp2_with fail
  refine (PT.out _ hA4).mono ?_; rintro e w5 ⟨rfl, hq5⟩
  have g5 := g4.trans hq5.below
  have b5 := (hBx.grew g5).three.1
  clear hq5 hA4 g4
  as_aux_lemma =>
    go_wp2_with fail
    go_loopw [11, 51] (fun v i wr => ∃ j : Nat, j ≤ k ∧ i = .int .u64 j ∧ wr.ownsRow w0.heap.size 22 1 v j ((waitL R t hd cs j).map (Value.int .u64)) ∧ Below w0.heap.size w0 wr) (fun _ i _ => k - (intOf i).toNat)
    case atStart => exact ⟨0, Nat.zero_le _, rfl, World.ownsRow_nil _ _ _ _, g5⟩
    case round =>
      obtain ⟨j, hj, rfl, hown, hg⟩ := hrel
      by_cases hlt : j < k
      · have hAj := hA0.grew hg
        have bj := (hBx.grew hg).three.1
        have hsu := Lib.hid (waitL_succ R t hd cs j)
        have SLj := Lib.hid (SL.out j)
        have PSj := Lib.hid (PS.out j)
        have hj1 : IntKind.u64.wrap ((j : Int) + 1) = ((j + 1 : Nat) : Int) := by rw [IntKind.wrap_u64]; omega
        clear SL PS PH PT HH TT EX b5
        generalize slotN R t (IntKind.u64.wrap (hd + (j : Int))) = si at *
        generalize cs.getD si 0 = z at *
        go_wp2_with fail
        refine (SLj.out _).mono ?_; rintro e w6 ⟨rfl, hb6⟩
        have g6 := hg.trans (hb6.mono hg.size)
        have hown6 := own_grew hown hb6
        have hA6 := hAj.grew hb6
        clear hb6 hAj bj hown hg
        go_wp2_with fail
        refine (PSj.out _ hA6).mono ?_; rintro e w7 ⟨rfl, hq7⟩
        have g7 := g6.trans hq7.below
        have hown7 := own_grew hown6 (hq7.below : Below w6.heap.size w6 w7)
        clear hq7 hA6 hown6 g6 SLj PSj
        as_aux_lemma =>
          have hs7 := g7.size
          go_wp2_with (at_builtin; refine wpList_append_lies _ rfl _ _ 43 rfl w0.heap.size 22 i0 (.int .u64 0) 1 8 Try.underlying43 Z.out.1 Z.out.2.1 Z.out.2.2.1 Z.out.2.2.2 rfl (by decide) _ _ _ rfl (hown7.alloc _) ⟨w7.heap.size, 0, none⟩ 1 1 [.int .u64 z] rfl rfl (cell_one_new _ _ _) (by simp [Value.oneCell']) (by decide) (by unfold maxLen; omega) (by omega) (by simp; omega) (w7.heap.size + 1) (by simp) ?_; intro g cap w8 hown8 hgrow hat hlt8)
          have g8 : Below w0.heap.size w0 w8 := (g7.alloc g7.size _).grown hgrow (g7.alloc g7.size _).size (fun k' e => (hown7.lt k' e).1)
          go_wp2
          go_roundw
          case rel => exact ⟨j + 1, by omega, by first | rfl | rw [hj1], by rw [hsu.out, List.map_append]; exact hown8, g8⟩
          case measure => simp [intOf]; omega
      · obtain rfl : j = k := by omega
        clear SL PS PH PT HH TT EX b5
        have hB := hB0.trans (hg.mono hsz0)
        go_wp2
        go_ret2
        subst hbq
        exact ⟨_, rfl, own_base hown hsz0, hB⟩
end Go.Proofs.Ytgcahbgapojimaa
