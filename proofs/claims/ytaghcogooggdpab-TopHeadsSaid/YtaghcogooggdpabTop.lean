/- The walk of the law TopHeads: it returns true, whatever it is given. No condition but that each number fits its kind. -/
import Derived.Test.YtaghcogooggdpabHlaw
import Derived.Test.YtaghcogooggdpabPmath
namespace Go.Proofs.Ytaghcogooggdpab
open Go.RowKit

theorem put_mid (lo mid hi v a d : Nat) (h : a + d ≤ 64) (hlo : lo < 2 ^ a) (hmid : mid < 2 ^ d) (hv : v < 2 ^ d) (hx : 2 ^ a * (2 ^ d * hi + mid) + lo < 2 ^ 64) :
    putN (2 ^ a * (2 ^ d * hi + mid) + lo) a d v = 2 ^ a * (2 ^ d * hi + v) + lo := by
  apply Nat.eq_of_testBit_eq
  intro i
  rw [testBit_putN _ _ _ _ _ h hx hv, Nat.testBit_two_pow_mul_add _ hlo, Nat.testBit_two_pow_mul_add _ hlo]
  by_cases h1 : i < a
  · rw [if_neg (by omega), if_pos h1, if_pos h1]
  · rw [if_neg h1, if_neg h1, Nat.testBit_two_pow_mul_add _ hmid, Nat.testBit_two_pow_mul_add _ hv]
    by_cases h2 : i < a + d
    · rw [if_pos ⟨by omega, h2⟩, if_pos (by omega)]
    · rw [if_neg (by omega), if_neg (by omega), if_neg (by omega)]
theorem putI_encH {c k l : Int} (n : Int) (h : headB c k l = true) (hn : 0 ≤ n ∧ n ≤ 255) : putI (encH c k l) 16 8 n = encH c k n := by
  have hb := headB_bd h
  obtain ⟨C, rfl⟩ := Int.eq_ofNat_of_zero_le (show 0 ≤ c by omega)
  obtain ⟨K, rfl⟩ := Int.eq_ofNat_of_zero_le (show 0 ≤ k by omega)
  obtain ⟨L, rfl⟩ := Int.eq_ofNat_of_zero_le (show 0 ≤ l by omega)
  obtain ⟨M, rfl⟩ := Int.eq_ofNat_of_zero_le hn.1
  have e : (encH C K L).toNat = 2 ^ 16 * (2 ^ 8 * (165 * 4294967296) + L) + (C * 256 + K) := by unfold encH; omega
  unfold putI
  rw [e, show (16 : Int).toNat = 16 from rfl, show (8 : Int).toNat = 8 from rfl, Int.toNat_natCast, put_mid _ _ _ _ _ _ (by decide) (by omega) (by omega) (by omega) (by omega)]
  unfold encH
  omega
theorem getI_encH {c k l : Int} (h : headB c k l = true) : getI (encH c k l) 0 8 = k ∧ getI (encH c k l) 8 8 = c ∧ getI (encH c k l) 16 8 = l := by
  have hb := headB_bd h
  have hU := encH_U64 h
  rw [getI_div _ _ _ hU (by decide), getI_div _ _ _ hU (by decide), getI_div _ _ _ hU (by decide)]
  unfold encH
  refine ⟨?_, ?_, ?_⟩
  · show (11889503016258109440 + l * 65536 + c * 256 + k) / 1 % 256 = k
    omega
  · show (11889503016258109440 + l * 65536 + c * 256 + k) / 256 % 256 = c
    omega
  · show (11889503016258109440 + l * 65536 + c * 256 + k) / 65536 % 256 = l
    omega
/-- a word that differs from a header's in its length alone is the header of that length, or none's -/
theorem decOk_len {c k l : Int} (n : Int) (h : headB c k l = true) (hn : 0 ≤ n ∧ n ≤ 255) : U64 (encH c k n) ∧ decOk (encH c k n) = headB c k n ∧ encH c k n / 65536 % 256 = n := by
  have hb := headB_bd h
  have e1 : encH c k n / 256 % 256 = c := by unfold encH; omega
  have e2 : encH c k n % 256 = k := by unfold encH; omega
  have e3 : encH c k n / 65536 % 256 = n := by unfold encH; omega
  refine ⟨by unfold encH; exact ⟨by omega, by omega⟩, ?_, e3⟩
  unfold decOk
  rw [e1, e2, e3]
  simp
theorem unpack_encE {k c s o y : Int} (h : entB k c s o y = true) : unpackL [2, 4, 2, 4, 4, 32] (encE k c s o y) 0 = some [k, c, s, o, 0, y] := by
  have hb := entB_bd h
  have hv : ∀ v ∈ [k, c, s, o, 0, y], U64 v := by
    intro x hx
    simp only [List.mem_cons, List.not_mem_nil, or_false] at hx
    exact ⟨by omega, by omega⟩
  have := packI_ok (ds := [2, 4, 2, 4, 4, 32]) hv (by rw [pack_ent k c s o y h])
  rw [pack_ent k c s o y h] at this
  exact this.2

set_option maxRecDepth 100000 in
set_option maxHeartbeats 4000000 in
theorem top_walk (c k l k2 c2 s o y n : Int) (w : World) (_hn : -9223372036854775808 ≤ n ∧ n ≤ 9223372036854775807) :
    Calls Try.prog 9 #[.agg #[.int .i64 c, .int .i64 k, .int .i64 l], .agg #[.int .i64 k2, .int .i64 c2, .int .i64 s, .int .i64 o, .int .i64 y], .int .i64 n] w fun e w' => e = .returned (.bool true) ∧ Below w.heap.size w w' := by
  have hH := (headAt_new w c k l 28).alloc (.cells #[.int .i64 k2, .int .i64 c2, .int .i64 s, .int .i64 o, .int .i64 y] 43)
  have hE := entAt_new (w.alloc (.cells #[.int .i64 c, .int .i64 k, .int .i64 l] 28)) k2 c2 s o y 43
  have hB : Below w.heap.size w ((w.alloc (.cells #[.int .i64 c, .int .i64 k, .int .i64 l] 28)).alloc (.cells #[.int .i64 k2, .int .i64 c2, .int .i64 s, .int .i64 o, .int .i64 y] 43)) := ((Below.refl _ _).alloc (Nat.le_refl _) _).alloc (by simp) _
  rw [World.size_alloc] at hE
  have p := fun W => enc_yes 0 2 5 W (by decide)
  have hX : encH 0 2 5 = 11889503016258109440 + 327682 := by decide
  generalize encH 0 2 5 = X0 at *
  have t2 : (bits .and .u64 X0 255 != 2) = false := by rw [hX]; decide
  have P := Lib.hid p
  clear p
  go_enter Try.func9, Try.ntmps9
  go_upto_if 42 with (first | (go_at_call 10; (with_reducible refine (P.out _).mono ?_); rintro e w1 ⟨rfl, hb1⟩; have hH1 := hH.below hb1; have hE1 := hE.below hb1; have hB1 := hB.trans (hb1.mono hB.size); obtain ⟨a0, a1, a2⟩ := id hH1) | (go_at_call 10; refine (enc_any _ _ _ _).mono ?_; rintro e w2 ⟨rfl, hb2⟩; have hH2 := hH1.below hb2; have hE2 := hE1.below hb2; have hB2 := hB1.trans (hb2.mono hB1.size); clear a0 a1 a2))
  go_cut [] (fun wx => EntAt wx (w.heap.size + 1) k2 c2 s o y ∧ Below w.heap.size w wx)
  case first =>
    clear hH hE hB hb1 hH1 hE1 hB1 hb2
    cases hh : headB c k l with
    | false =>
      have hF : (encF c k l == 0) = false := by unfold encF; rw [hh]; rfl
      go_wp2
      go_meet
      case rel => exact ⟨hE2, hB2⟩
    | true =>
      have hF : (encF c k l == 0) = true := by unfold encF; rw [hh]; rfl
      have hV : encV c k l = encH c k l := by unfold encV; rw [hh]; rfl
      have hU := encH_U64 hh
      obtain ⟨d1, d2, d3⟩ := getI_encH hh
      have G1 := Lib.hid (fun W => get_yes (encH c k l) 0 8 W hU (by decide))
      have G2 := Lib.hid (fun W => get_yes (encH c k l) 8 8 W hU (by decide))
      have G3 := Lib.hid (fun W => get_yes (encH c k l) 16 8 W hU (by decide))
      rw [d1, ← hV] at G1
      rw [d2, ← hV] at G2
      rw [d3, ← hV] at G3
      obtain ⟨a0, a1, a2⟩ := id hH2
      have hbd := headB_bd hh
      have wk : IntKind.i64.wrap k = k := IntWalk.i64_in k (by omega)
      have wc : IntKind.i64.wrap c = c := IntWalk.i64_in c (by omega)
      have wl : IntKind.i64.wrap l = l := IntWalk.i64_in l (by omega)
      obtain ⟨m, hm, hm0, hm1⟩ : ∃ m, (IntKind.u64.wrap n).tmod 256 = m ∧ 0 ≤ m ∧ m ≤ 255 := by
        refine ⟨_, rfl, ?_⟩
        rw [IntKind.wrap_u64, Int.tmod_eq_emod_of_nonneg (by omega)]
        omega
      have wm1 : IntKind.u64.wrap m = m := IntWalk.u64_in m (by omega)
      have wm2 : IntKind.i64.wrap m = m := IntWalk.i64_in m (by omega)
      have wm3 : wrap64 m = m := IntWalk.wrap64_in m (by omega)
      obtain ⟨y1, y2, y3⟩ := decOk_len m hh ⟨hm0, hm1⟩
      have Q := Lib.hid (fun W => put_yes (encH c k l) 16 8 m W hU hm0 (by decide) (show m ≤ maskI 8 from Int.le_trans hm1 (by decide)))
      rw [putI_encH m hh ⟨hm0, hm1⟩, ← hV] at Q
      clear d1 d2 d3 hV hU hbd t2 P hX
      go_wp2_with fail
      refine (G1.out _).mono ?_
      rintro e w3 ⟨rfl, n3, rfl⟩
      go_wp2_with fail
      refine (G2.out _).mono ?_
      rintro e w4 ⟨rfl, n4, rfl⟩
      go_wp2_with fail
      refine (G3.out _).mono ?_
      rintro e w5 ⟨rfl, n5, rfl⟩
      go_wp2_with fail
      refine (Q.out _).mono ?_
      rintro e w6 ⟨rfl, n6, rfl⟩
      cases hq : headB c k m with
      | true =>
        have hd := dec_of_enc hq
        have D := Lib.hid (fun W => dec_yes (encH c k m) W y1 hd.2.2.2)
        rw [hd.1, hd.2.1, hd.2.2.1] at D
        have E := Lib.hid (fun W => enc_yes c k m W hq)
        clear hd y1 y2 y3
        generalize encH c k m = Y at *
        go_wp2_with fail
        refine (D.out _).mono ?_
        rintro e w7 ⟨rfl, hb7⟩
        have hb7' : Below w2.heap.size w2 w7 := (Quiet.below ⟨_, rfl⟩).trans hb7
        have hH7 := hH2.below hb7'
        have hE7 := hE2.below hb7'
        have hB7 := hB2.trans (hb7'.mono hB2.size)
        clear a0 a1 a2 hb7 hb7' hH2 hE2 hB2
        obtain ⟨a0, a1, a2⟩ := id hH7
        have hs7 := hH7.lt
        go_wp2_with fail
        refine (E.out _).mono ?_
        rintro e w8 ⟨rfl, hb8⟩
        have hK8 := (headAt_new w7 c k m 28).below hb8
        have hE8 := (hE7.alloc (.cells #[.int .i64 c, .int .i64 k, .int .i64 m] 28)).below hb8
        have hB8 := (hB7.alloc hB7.size (.cells #[.int .i64 c, .int .i64 k, .int .i64 m] 28)).trans (hb8.mono (by have := hB7.size; simp; omega))
        obtain ⟨b0, b1, b2⟩ := id hK8
        go_wp2_with fail
        go_meet
        case rel => exact ⟨hE8, hB8⟩
      | false =>
        rw [hq] at y2
        have D := Lib.hid (fun W => dec_no (encH c k m) W y1 y2)
        have E := Lib.hid (fun W => enc_no c k m W hq)
        clear y1 y2 y3
        generalize encH c k m = Y at *
        go_wp2_with fail
        refine (D.out _).mono ?_
        rintro e w7 ⟨rfl, hb7⟩
        have hb7' : Below w2.heap.size w2 w7 := (Quiet.below ⟨_, rfl⟩).trans hb7
        have hH7 := hH2.below hb7'
        have hE7 := hE2.below hb7'
        have hB7 := hB2.trans (hb7'.mono hB2.size)
        clear a0 a1 a2 hb7 hb7' hH2 hE2 hB2
        obtain ⟨a0, a1, a2⟩ := id hH7
        have hs7 := hH7.lt
        go_wp2_with fail
        refine (E.out _).mono ?_
        rintro e w8 ⟨rfl, hb8⟩
        have hK8 := (headAt_new w7 0 0 0 28).below hb8
        have hE8 := (hE7.alloc (.cells #[.int .i64 0, .int .i64 0, .int .i64 0] 28)).below hb8
        have hB8 := (hB7.alloc hB7.size (.cells #[.int .i64 0, .int .i64 0, .int .i64 0] 28)).trans (hb8.mono (by have := hB7.size; simp; omega))
        obtain ⟨b0, b1, b2⟩ := id hK8
        go_wp2_with fail
        go_meet
        case rel => exact ⟨hE8, hB8⟩
  case rest =>
    obtain ⟨hE3, hB3⟩ := hcut
    clear hH hE hB hb1 hH1 hE1 hB1 hb2 hH2 hE2 hB2 t2 P hX
    obtain ⟨g0, g1, g2, g3, g4⟩ := id hE3
    cases hh : entB k2 c2 s o y with
    | false =>
      have D := Lib.hid (fun W => eenc_no k2 c2 s o y W hh)
      clear hh
      go_wp2_with (go_at_call 18; refine (D.out _).mono ?_; rintro e w2 ⟨rfl, hb2⟩; have hB4 := hB3.trans (hb2.mono hB3.size))
      go_ret
      exact ⟨rfl, hB4⟩
    | true =>
      have D := Lib.hid (fun W => eenc_yes k2 c2 s o y W hh)
      have hU := encE_U64 hh
      have hbd := entB_bd hh
      have U := Lib.hid (fun v W hl => unpack_row (encE k2 c2 s o y) v [2, 4, 2, 4, 4, 32] [k2, c2, s, o, 0, y] 6 W hU hl (unpack_encE hh) rfl (by decide))
      have wk : IntKind.i64.wrap k2 = k2 := IntWalk.i64_in k2 (by omega)
      have wc : IntKind.i64.wrap c2 = c2 := IntWalk.i64_in c2 (by omega)
      have ws : IntKind.i64.wrap s = s := IntWalk.i64_in s (by omega)
      have wo : IntKind.i64.wrap o = o := IntWalk.i64_in o (by omega)
      have wy : IntKind.i64.wrap y = y := IntWalk.i64_in y (by omega)
      clear hh hU hbd
      generalize encE k2 c2 s o y = V at *
      go_wp2_with fail
      refine (D.out _).mono ?_
      rintro e w2 ⟨rfl, hb2⟩
      have hE4 := hE3.below hb2
      have hB4 := hB3.trans (hb2.mono hB3.size)
      have hs4 := hE4.lt
      clear g0 g1 g2 g3 g4 hE3 hB3 hb2
      go_wp2_with fail
      refine (U.out _ _ (by exact lst_new w2 [2, 4, 2, 4, 4, 32] _ _ 6 6 rfl (by decide) (by decide) rfl)).mono ?_
      rintro e w5 ⟨b5, o5, c5, rfl, hc5, _, hb5⟩
      have hE5 := (hE4.alloc (.cells #[.int .i64 2, .int .i64 4, .int .i64 2, .int .i64 4, .int .i64 4, .int .i64 32] 3)).below hb5
      have hB5 := (hB4.alloc hB4.size (.cells #[.int .i64 2, .int .i64 4, .int .i64 2, .int .i64 4, .int .i64 4, .int .i64 32] 3)).trans (hb5.mono (by have := hB4.size; simp; omega))
      obtain ⟨g0, g1, g2, g3, g4⟩ := id hE5
      have q0 : w5.cell? ⟨b5, o5, none⟩ = some (.int .u64 k2) := hc5 0 (by decide)
      have q1 : w5.cell? ⟨b5, o5 + 1, none⟩ = some (.int .u64 c2) := hc5 1 (by decide)
      have q2 : w5.cell? ⟨b5, o5 + 2, none⟩ = some (.int .u64 s) := hc5 2 (by decide)
      have q3 : w5.cell? ⟨b5, o5 + 3, none⟩ = some (.int .u64 o) := hc5 3 (by decide)
      have q4 : w5.cell? ⟨b5, o5 + 4, none⟩ = some (.int .u64 0) := hc5 4 (by decide)
      have q5 : w5.cell? ⟨b5, o5 + 5, none⟩ = some (.int .u64 y) := hc5 5 (by decide)
      clear hc5 hb5 hE4 hB4 D U
      go_wp2_with fail
      go_quiet (fail)
      go_wp2
      go_ret
      exact ⟨rfl, hB5.trans Quiet.drew.below⟩
theorem i64_bd {x : Int} (h : (Lit.int .i64 x).wf = true) : -9223372036854775808 ≤ x ∧ x ≤ 9223372036854775807 := by
  simp [Lit.wf, IntKind.min, IntKind.max, IntKind.signed, IntKind.bits] at h
  exact ⟨by omega, by omega⟩
theorem top_law (c k l k2 c2 s o y n : Int) (w : World) (_w0 : (Lit.int .i64 c).wf = true) (_w1 : (Lit.int .i64 k).wf = true) (_w2 : (Lit.int .i64 l).wf = true) (_w3 : (Lit.int .i64 k2).wf = true) (_w4 : (Lit.int .i64 c2).wf = true) (_w5 : (Lit.int .i64 s).wf = true) (_w6 : (Lit.int .i64 o).wf = true) (_w7 : (Lit.int .i64 y).wf = true) (w8 : (Lit.int .i64 n).wf = true) :
    Calls Try.prog 9 #[.agg #[.int .i64 c, .int .i64 k, .int .i64 l], .agg #[.int .i64 k2, .int .i64 c2, .int .i64 s, .int .i64 o, .int .i64 y], .int .i64 n] w fun e w' => e = .returned (.bool true) ∧ Below w.heap.size w w' :=
  top_walk c k l k2 c2 s o y n w (i64_bd w8)
end Go.Proofs.Ytaghcogooggdpab
