/- What Marked returns; what shaded of the laws of package shade returns: an object is fresh once, and no more. No condition but that the arena is there. -/
import Derived.Test.YtgcahbgapojimaaShadl
import Derived.Test.YtgcahbgapojimaaDraw
namespace Go.Proofs.Ytgcahbgapojimaa
open Go.RowKit
theorem ShE.ary {w0 w : World} {B a c p s mk pu ce : Nat} {P T R t rf bi nx mn tl pn : Int} {lo mf fu : Bool} {cs : List Int} {n : Nat} {K : List Nat} {who : Int} {o : Bool} (h : ShE w0 B a c p s mk pu P T R t rf ce bi nx lo mn mf tl pn fu cs n K who o w) : Ary w B a c cs n K := by
  obtain ⟨xs, h⟩ := h; exact ⟨xs, h.arx⟩
theorem ShE.parts {w0 w : World} {B a c p s mk pu ce : Nat} {P T R t rf bi nx mn tl pn : Int} {lo mf fu : Bool} {cs : List Int} {n : Nat} {K : List Nat} {who : Int} {o : Bool} (h : ShE w0 B a c p s mk pu P T R t rf ce bi nx lo mn mf tl pn fu cs n K who o w) :
    ShadeAt w s rf mk (some ⟨pu, 0, none⟩) nx lo ∧ MarkAt w mk ce bi mn mf ∧ PushAt w pu P T R t rf tl pn fu ∧ PortAt w p a who o ∧ Touch (fun b => b = p ∨ b = s ∨ b = mk ∨ b = pu ∨ (B ≤ b ∧ b ∉ K)) w0 w := by
  obtain ⟨xs, h⟩ := h; exact ⟨h.shade, h.mark, h.push, h.port, h.touch⟩
theorem Ary.sh {w : World} {B a c p s mk pu ce : Nat} {P T R t rf bi nx mn tl pn : Int} {lo mf fu : Bool} {cs : List Int} {n : Nat} {K : List Nat} {who : Int} {o : Bool} (h : Ary w B a c cs n K) (h1 : ShadeAt w s rf mk (some ⟨pu, 0, none⟩) nx lo) (h2 : MarkAt w mk ce bi mn mf) (h3 : PushAt w pu P T R t rf tl pn fu) (h4 : PortAt w p a who o) :
    ShE w B a c p s mk pu P T R t rf ce bi nx lo mn mf tl pn fu cs n K who o w := by
  obtain ⟨xs, h⟩ := h; exact ⟨xs, h1, h2, h3, h, h4, Touch.refl _ _⟩
/-- blocks that came later are none of its own -/
theorem Ary.adds {w w' : World} {B a c : Nat} {cs : List Int} {n : Nat} {K L : List Nat} (h : Ary w B a c cs n K) (hb : Below w.heap.size w w') (hL : ∀ m ∈ L, w.heap.size ≤ m ∧ m < w'.heap.size) : Ary w' B a c cs n (L ++ K) := by
  obtain ⟨xs, ⟨lv, hL', hg⟩, h1, h2, h3, h4, h5, h6⟩ := h
  have la := hL'.at'.own.lt
  have lc := hL'.at'.row.lt
  have lg := fun g hg => (hL'.own.lt g hg).2
  refine ⟨xs, ⟨lv, hL'.grew hb, fun g e r => ?_⟩, fun r => ?_, fun r => ?_, fun b r => ?_, h4, h5, Nat.le_trans h6 hb.size⟩
  · rcases List.mem_append.1 r with r | r
    · have := hL g r; have := lg g e; omega
    · exact hg g e r
  · rcases List.mem_append.1 r with r | r
    · have := hL a r; omega
    · exact h1 r
  · rcases List.mem_append.1 r with r | r
    · have := hL c r; omega
    · exact h2 r
  · rcases List.mem_append.1 r with r | r
    · exact (hL b r).2
    · exact Nat.lt_of_lt_of_le (h3 b r) hb.size
theorem marked_no (x : Option Addr) (P T R rf : Int) (w : World) (hu : U64 rf) (h : refB P T R rf = false) :
    Calls Try.prog 64 #[.pointer x, .agg #[.int .i64 P, .int .i64 T, .int .i64 R], .int .u64 rf] w fun e w' => e = .returned (.bool false) ∧ Below w.heap.size w w' := by
  have PL := Lib.hid (fun W => splace_no P T R rf W hu h)
  clear hu h
  go_enter Try.func64, Try.ntmps64
  have c0 := (planNew w P T R 49)
  go_wp2_with fail
  refine (PL.out _).mono ?_; rintro e w1 ⟨rfl, hb1⟩
  have c1 := planKeep c0 hb1
  go_wp2
  go_ret
  exact ⟨rfl, c1.2⟩
theorem marked_nil (P T R rf : Int) (w : World) (hu : U64 rf) :
    Calls Try.prog 64 #[.pointer none, .agg #[.int .i64 P, .int .i64 T, .int .i64 R], .int .u64 rf] w fun e w' => e = .returned (.bool false) ∧ Below w.heap.size w w' := by
  by_cases h : refB P T R rf = true
  · have PL := Lib.hid (fun W => splace_yes P T R rf W hu h)
    clear hu h
    go_enter Try.func64, Try.ntmps64
    have c0 := (planNew w P T R 49)
    go_wp2_with fail
    refine (PL.out _).mono ?_; rintro e w1 ⟨rfl, hb1⟩
    have c1 := planKeep c0 hb1
    go_wp2_with fail
    refine (peek_nil _ _).mono ?_; rintro e w2 ⟨rfl, hq2⟩
    have hB := c1.2.trans hq2.below
    go_wp2
    go_ret
    exact ⟨rfl, hB⟩
  · exact marked_no none P T R rf w hu (Bool.not_eq_true _ |>.mp h)
theorem marked_yes {B a c n i : Nat} {cs : List Int} {K : List Nat} (P T R rf : Int) (w : World) (hu : U64 rf) (h : refB P T R rf = true) (hA : Ary w B a c cs n K) (hi : cellI P T R rf = (i : Int)) (hl : i < cs.length) (hm : cs.length ≤ 1000000) :
    Calls Try.prog 64 #[.pointer (some ⟨a, 0, none⟩), .agg #[.int .i64 P, .int .i64 T, .int .i64 R], .int .u64 rf] w fun e w' => e = .returned (.bool (bits .and .u64 (cs.getD i 0) (bitI P T R rf) != 0)) ∧ Below w.heap.size w w' := by
  have PL := Lib.hid (fun W => splace_yes P T R rf W hu h)
  rw [hi] at PL
  have PK := Lib.hid (fun W (h : Ary W B a c cs n K) => (show Calls Try.prog 74 #[.pointer (some ⟨a, 0, none⟩), .int .i64 i] W fun e w' => e = .returned (.tuple #[.int .u64 (cs.getD i 0), .int .i64 0]) ∧ Quiet W w' by obtain ⟨xs, h⟩ := h; exact peek_x h hl hm))
  have hA0 := hA.grew ((Below.refl _ _).alloc (Nat.le_refl _) (.cells #[.int .i64 P, .int .i64 T, .int .i64 R] 49))
  clear hu h hi hl hm hA
  generalize cs.getD i 0 = z at *
  go_enter Try.func64, Try.ntmps64
  have c0 := (planNew w P T R 49)
  go_wp2_with fail
  refine (PL.out _).mono ?_; rintro e w1 ⟨rfl, hb1⟩
  have c1 := planKeep c0 hb1
  have hA1 := hA0.grew hb1
  go_wp2_with fail
  refine (PK.out _ hA1).mono ?_; rintro e w2 ⟨rfl, hq2⟩
  have hB := c1.2.trans hq2.below
  go_wp2
  go_ret
  exact ⟨rfl, hB⟩
set_option maxRecDepth 100000 in
set_option maxHeartbeats 4000000 in
theorem shaded_any (w : World) :
    Calls Try.prog 46 #[] w fun e w' => e = .returned (.bool true) ∧ Below w.heap.size w w' := by
  have hx : exB 1 1 1 0 = true := by kernel_rfl
  have hu : U64 66 := ⟨by decide, by decide⟩
  have hu7 : U64 67 := ⟨by decide, by decide⟩
  have hr : refB 1 1 1 66 = true := by kernel_rfl
  have hr7 : refB 1 1 1 67 = true := by kernel_rfl
  have hce : cellI 1 1 1 66 = ((24 : Nat) : Int) := by kernel_rfl
  have hce7 : cellI 1 1 1 67 = ((24 : Nat) : Int) := by kernel_rfl
  obtain ⟨cs0, h0⟩ : ∃ cs0, List.replicate (cellsN 1 1 1) (0 : Int) = cs0 := ⟨_, rfl⟩
  obtain ⟨cs1, h1⟩ : ∃ cs1, cs0.set 24 (bits .or .u64 (cs0.getD 24 0) (bitI 1 1 1 66)) = cs1 := ⟨_, rfl⟩
  obtain ⟨cs2, h2⟩ : ∃ cs2, cs1.set (slotN 1 0 0) 66 = cs2 := ⟨_, rfl⟩
  obtain ⟨cs3, h3⟩ : ∃ cs3, cs2.set (ownN 1 0 4) (IntKind.u64.wrap (0 + 1)) = cs3 := ⟨_, rfl⟩
  obtain ⟨cs4, h4⟩ : ∃ cs4, cs3.set 24 (bits .or .u64 (cs3.getD 24 0) (bitI 1 1 1 66)) = cs4 := ⟨_, rfl⟩
  have l0 : cs0.length = cellsN 1 1 1 := by rw [← h0]; simp
  have l3 : cs3.length = cellsN 1 1 1 := by rw [← h3, ← h2, ← h1]; simp [l0]
  have l4 : cs4.length = cellsN 1 1 1 := by rw [← h4]; simp [l3]
  have hN : cellsN 1 1 1 = 128 := by kernel_rfl
  have f1 : (bits .and .u64 (cs0.getD 24 0) (bitI 1 1 1 66) == 0) = true := by rw [← h0]; kernel_rfl
  have hz : cs1.getD (ownN 1 0 4) 0 = 0 := by rw [← h1, ← h0]; kernel_rfl
  have hro : fullB 1 0 (cs1.getD (ownN 1 0 3) 0) = false := by rw [← h1, ← h0]; kernel_rfl
  have f2 : (bits .and .u64 (cs3.getD 24 0) (bitI 1 1 1 66) == 0) = false := by rw [← h3, ← h2, ← h1, ← h0]; kernel_rfl
  have f6 : (bits .and .u64 (cs4.getD 24 0) (bitI 1 1 1 66) != 0) = true := by rw [← h4, ← h3, ← h2, ← h1, ← h0]; kernel_rfl
  have f7 : (bits .and .u64 (cs4.getD 24 0) (bitI 1 1 1 67) != 0) = false := by rw [← h4, ← h3, ← h2, ← h1, ← h0]; kernel_rfl
  have L := Lib.hid (fun W => slay_yes 1 1 1 0 W (right_of (by kernel_rfl)) (by decide) (by decide))
  unfold LayPost at L
  rw [h0] at L
  have NS := Lib.hid (fun W => newshade_yes 1 1 1 0 66 W hx hu (by decide) hr)
  unfold NewShadePost at NS
  rw [hce] at NS
  have R1 := Lib.hid (fun (p s mk pu : Nat) (K : List Nat) (a1 : s ≠ p) (a2 : s ≠ mk) (a3 : s ≠ pu) (a4 : mk ≠ p) (a5 : mk ≠ pu) (a6 : pu ≠ p) (b1 : s ∈ K) (b2 : mk ∈ K) (b3 : pu ∈ K) (b4 : p ∈ K) => (ShR.mk hx a1 a2 a3 a4 a5 a6 b1 b2 b3 b4 l0 (by rw [l0, hN]; decide) : ShR 1 1 1 0 p s mk pu 24 cs0 K))
  have R2 := Lib.hid (fun (p s mk pu : Nat) (K : List Nat) (a1 : s ≠ p) (a2 : s ≠ mk) (a3 : s ≠ pu) (a4 : mk ≠ p) (a5 : mk ≠ pu) (a6 : pu ≠ p) (b1 : s ∈ K) (b2 : mk ∈ K) (b3 : pu ∈ K) (b4 : p ∈ K) => (ShR.mk hx a1 a2 a3 a4 a5 a6 b1 b2 b3 b4 l3 (by rw [l3, hN]; decide) : ShR 1 1 1 0 p s mk pu 24 cs3 K))
  have M6 := Lib.hid (fun W B a c n K (h : Ary W B a c cs4 n K) => marked_yes 1 1 1 66 W hu hr h hce (by rw [l4, hN]; decide) (by rw [l4, hN]; decide))
  have M7 := Lib.hid (fun W B a c n K (h : Ary W B a c cs4 n K) => marked_yes 1 1 1 67 W hu7 hr7 h hce7 (by rw [l4, hN]; decide) (by rw [l4, hN]; decide))
  rw [f6] at M6
  rw [f7] at M7
  have FF := Lib.hid (fun W p s mk pu B a c n K who (hr : ShR 1 1 1 0 p s mk pu 24 cs0 K) (hn : n < 999990) (h : ShE W B a c p s mk pu 1 1 1 0 66 24 (bitI 1 1 1 66) 1 false 1 false 0 1 false cs0 n K who false W) => sfinish_fresh cs1 cs2 cs3 0 h hr hn f1 h1 hz hro ⟨by decide, by decide⟩ h2 h3)
  have FS := Lib.hid (fun W p s mk pu B a c n K who (hr : ShR 1 1 1 0 p s mk pu 24 cs3 K) (hn : n < 999990) (h : ShE W B a c p s mk pu 1 1 1 0 66 24 (bitI 1 1 1 66) 1 false 1 false 0 1 false cs3 n K who false W) => sfinish_seen h hr hn f2)
  rw [h4] at FS
  clear hx hu hu7 hr hr7 hce hce7 h0 h1 h2 h3 h4 l0 l3 l4 hN f1 hz hro f2 f6 f7
  generalize bitI 1 1 1 66 = bi at *
  go_enter Try.func46, Try.ntmps46
  have hQ0 := (Blk.new w #[.int .i64 1, .int .i64 1, .int .i64 1] 26)
  have hB0 : Below w.heap.size w (w.alloc (.cells #[.int .i64 1, .int .i64 1, .int .i64 1] 26)) := (Below.refl _ _).alloc (Nat.le_refl _) _
  go_wp2_with fail
  generalize w.alloc (.cells #[.int .i64 1, .int .i64 1, .int .i64 1] 26) = w0 at *
  have lq := hQ0.lt
  refine (L.out _).mono ?_; rintro e w1 ⟨a, c, p, rfl, hX1, hP1, hp, hb1⟩
  have hY1 : Ary w1 w0.heap.size a c cs0 0 [p] := ⟨_, hX1⟩
  have hQ1 := hQ0.grew hb1
  have hB1 := hB0.trans (hb1.mono hB0.size)
  have q1 := hQ1.three.1
  clear hX1 hb1 hQ0 hB0 L
  go_wp2_with fail
  refine (splan_any 1 1 1 _).mono ?_; rintro e w2 ⟨rfl, hb2⟩
  have hY2 := hY1.grew hb2
  have hP2 := Blk.grew hP1 hb2
  have hQ2 := hQ1.grew hb2
  have hB2 := hB1.trans (hb2.mono hB1.size)
  clear hY1 hP1 hb2 hB1 hQ1 q1
  as_aux_lemma =>
    go_wp2_with fail
    refine (NS.out _).mono ?_; rintro e w3 ⟨s1, k1, u1, rfl, hS3, hM3, hU3, hk3, hku3, hus3, hb3⟩
    have lS3 := hS3.lt
    have hY3 := hY2.adds (L := [s1, k1, u1]) hb3 (by simp; omega)
    have hP3 := Blk.grew hP2 hb3
    have hQ3 := hQ2.grew hb3
    have hB3 := hB2.trans (hb3.mono hB2.size)
    have q3 := hQ3.three.1
    have lp2 := hP2.lt
    have lw2 := hB2.size
    clear hY2 hP2 hb3 hB2 hQ2
    as_aux_lemma =>
      go_wp2_with fail
      refine (splan_any 1 1 1 _).mono ?_; rintro e w4 ⟨rfl, hb4⟩
      have hY4 := hY3.grew hb4
      have hP4 := Blk.grew hP3 hb4
      have hQ4 := hQ3.grew hb4
      have hS4 := Blk.grew hS3 hb4
      have hM4 := Blk.grew hM3 hb4
      have hU4 := Blk.grew hU3 hb4
      have hB4 := hB3.trans (hb4.mono hB3.size)
      have ls4 := hb4.size
      clear hY3 hP3 hb4 hB3 hQ3 q3 hS3 hM3 hU3
      go_wp2_with fail
      refine (NS.out _).mono ?_; rintro e w5 ⟨s2, k2, u2, rfl, hS5, hM5, hU5, hk5, hku5, hus5, hb5⟩
      have lS5 := hS5.lt
      have hY5 := hY4.adds (L := [s2, k2, u2]) hb5 (by simp; omega)
      have hP5 := Blk.grew hP4 hb5
      have hQ5 := hQ4.grew hb5
      have hB5 := hB4.trans (hb5.mono hB4.size)
      have hS1 := Blk.grew hS4 hb5
      have hM1 := Blk.grew hM4 hb5
      have hU1 := Blk.grew hU4 hb5
      clear hY4 hP4 hb5 hB4 hQ4 hS4 hM4 hU4
      as_aux_lemma =>
        go_wp2_with fail
        refine (FF.out _ p s1 k1 u1 _ a c 0 _ 0 (R1.out p s1 k1 u1 _ (by omega) (by omega) (by omega) (by omega) (by omega) (by omega) (by simp) (by simp) (by simp) (by simp)) (by decide) (hY5.sh hS1 hM1 hU1 hP5)).mono ?_; rintro e w6 ⟨rfl, h6⟩
        obtain ⟨hS6, hM6, hU6, hP6, hT6⟩ := h6.parts
        have hY6 := h6.ary
        have hS7 := Blk.touch hS5 hT6 (by simp; omega)
        have hM7 := Blk.touch hM5 hT6 (by simp; omega)
        have hU7 := Blk.touch hU5 hT6 (by simp; omega)
        have hQ6 := hQ5.touch hT6 (by simp; omega)
        have hB6 := hB5.trans (hT6.below hB5.size (fun x hx => by rcases hx with rfl | rfl | rfl | rfl | hx <;> omega))
        clear hY5 hP5 hB5 hQ5 hS1 hM1 hU1 hS5 hM5 hU5 h6 hT6 FF
        as_aux_lemma =>
          go_wp2_with fail
          refine (FS.out _ p s2 k2 u2 _ a c _ _ 0 (R2.out p s2 k2 u2 _ (by omega) (by omega) (by omega) (by omega) (by omega) (by omega) (by simp) (by simp) (by simp) (by simp)) (by decide) (hY6.sh hS7 hM7 hU7 hP6)).mono ?_; rintro e w7 ⟨rfl, h7⟩
          obtain ⟨hS8, hM8, hU8, hP8, hT7⟩ := h7.parts
          have hY7 := h7.ary
          have hS9 := Blk.touch hS6 hT7 (by simp; omega)
          have hM9 := Blk.touch hM6 hT7 (by simp; omega)
          have hQ7 := hQ6.touch hT7 (by simp; omega)
          have hB7 := hB6.trans (hT7.below hB6.size (fun x hx => by rcases hx with rfl | rfl | rfl | rfl | hx <;> omega))
          clear hY6 hP6 hB6 hQ6 hS6 hM6 hU6 hS7 hM7 hU7 h7 hT7 FS
          as_aux_lemma =>
            go_wp2_with fail
            refine (fresh_shade hS9 hM9).mono ?_; rintro e w8 ⟨rfl, hq8⟩
            have hSA := Blk.quiet hS8 hq8
            have hMA := Blk.quiet hM8 hq8
            have hQ8 := hQ7.quiet hq8
            have hY8 := hY7.quiet hq8
            have hB8 := hB7.trans hq8.below
            clear hS9 hM9 hS8 hM8 hQ7 hY7 hB7 hq8
            go_wp2_with fail
            refine (fresh_shade hSA hMA).mono ?_; rintro e w9 ⟨rfl, hq9⟩
            have hQ9 := hQ8.quiet hq9
            have hY9 := hY8.quiet hq9
            have hB9 := hB8.trans hq9.below
            have q9 := hQ9.three.1
            clear hSA hMA hQ8 hY8 hB8 hq9
            go_wp2_with fail
            refine (splan_any 1 1 1 _).mono ?_; rintro e w10 ⟨rfl, hb10⟩
            have hQ10 := hQ9.grew hb10
            have hY10 := hY9.grew hb10
            have hB10 := hB9.trans (hb10.mono hB9.size)
            clear hQ9 hY9 hB9 q9 hb10
            as_aux_lemma =>
              go_wp2_with fail
              refine (M6.out _ _ _ _ _ _ hY10).mono ?_; rintro e w11 ⟨rfl, hb11⟩
              have hQ11 := hQ10.grew hb11
              have hY11 := hY10.grew hb11
              have hB11 := hB10.trans (hb11.mono hB10.size)
              have q11 := hQ11.three.1
              clear hQ10 hY10 hB10 hb11
              go_wp2_with fail
              refine (splan_any 1 1 1 _).mono ?_; rintro e w12 ⟨rfl, hb12⟩
              have hY12 := hY11.grew hb12
              have hB12 := hB11.trans (hb12.mono hB11.size)
              clear hQ11 hY11 hB11 q11 hb12
              go_wp2_with fail
              refine (M7.out _ _ _ _ _ _ hY12).mono ?_; rintro e w13 ⟨rfl, hb13⟩
              have hB13 := hB12.trans (hb13.mono hB12.size)
              go_wp2
              go_ret
              exact ⟨rfl, hB13⟩
end Go.Proofs.Ytgcahbgapojimaa
