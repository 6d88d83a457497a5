/- The walk of the law HeaderBack: it returns true, whatever it is given. No condition but that each number fits its kind. -/
import Derived.Test.YtaghcogooggdpabHlaw
namespace Go.Proofs.Ytaghcogooggdpab
open Go.RowKit
set_option maxRecDepth 100000 in
set_option maxHeartbeats 2000000 in
theorem back_walk (c k l k2 c2 s o y x : Int) (w : World) (hl : -9223372036854775808 ≤ l ∧ l ≤ 9223372036854775807) (hx : U64 x) :
    Calls Try.prog 6 #[.agg #[.int .i64 c, .int .i64 k, .int .i64 l], .agg #[.int .i64 k2, .int .i64 c2, .int .i64 s, .int .i64 o, .int .i64 y], .int .u64 x] w fun e w' => e = .returned (.bool true) ∧ Below w.heap.size w w' := by
  have hH := (headAt_new w c k l 28).alloc (.cells #[.int .i64 k2, .int .i64 c2, .int .i64 s, .int .i64 o, .int .i64 y] 43)
  have hE := entAt_new (w.alloc (.cells #[.int .i64 c, .int .i64 k, .int .i64 l] 28)) k2 c2 s o y 43
  have hB : Below w.heap.size w ((w.alloc (.cells #[.int .i64 c, .int .i64 k, .int .i64 l] 28)).alloc (.cells #[.int .i64 k2, .int .i64 c2, .int .i64 s, .int .i64 o, .int .i64 y] 43)) := ((Below.refl _ _).alloc (Nat.le_refl _) _).alloc (by simp) _
  rw [World.size_alloc] at hE
  go_enter Try.func6, Try.ntmps6
  go_upto_if 28 with (first | (go_at_call 15; refine (headed_any _).mono ?_; rintro e w1 ⟨rfl, hb1⟩; have hH1 := hH.below hb1; have hE1 := hE.below hb1; have hB1 := hB.trans (hb1.mono hB.size); obtain ⟨a0, a1, a2⟩ := id hH1) | (go_at_call 10; refine (enc_any _ _ _ _).mono ?_; rintro e w2 ⟨rfl, hb2⟩; have hH2 := hH1.below hb2; have hE2 := hE1.below hb2; have hB2 := hB1.trans (hb2.mono hB1.size); clear a0 a1 a2))
  go_cut [] (fun wx => EntAt wx (w.heap.size + 1) k2 c2 s o y ∧ Below w.heap.size w wx)
  case first =>
    cases hh : headB c k l with
    | false =>
      have hF : (encF c k l == 0) = false := by unfold encF; rw [hh]; rfl
      go_wp2
      go_meet
      case rel => exact ⟨hE2, hB2⟩
    | true =>
      have hF : (encF c k l == 0) = true := by unfold encF; rw [hh]; rfl
      have hV : encV c k l = encH c k l := by unfold encV; rw [hh]; rfl
      have hU := encH_U64 hh
      have hbd := headB_bd hh
      have hwl : IntKind.i64.wrap (l + 1) = l + 1 := IntWalk.i64_in _ (by omega)
      clear hbd
      obtain ⟨d1, d2, d3, d4⟩ := dec_of_enc hh
      have D := Lib.hid (fun W => dec_yes (encH c k l) W hU d4)
      rw [d1, d2, d3, ← hV] at D
      have hw0 := Lib.hid (fun W => words_yes c k l W hh)
      obtain ⟨a0, a1, a2⟩ := id hH2
      have hsz := hE2.lt
      clear d1 d2 d3 d4 hV hU hb1 hb2
      go_wp2_with (go_at_call 13; refine (D.out _).mono ?_; rintro e w3 ⟨rfl, hb3⟩; have hH3 := hH2.below hb3; have hE3 := hE2.below hb3; have hB3 := hB2.trans (hb3.mono hB2.size); clear a0 a1 a2; obtain ⟨a0, a1, a2⟩ := id hH3; have hsz3 := hE3.lt)
      have hH3a := hH3.alloc (.cells #[.int .i64 c, .int .i64 k, .int .i64 l] 28)
      have hE3a := hE3.alloc (.cells #[.int .i64 c, .int .i64 k, .int .i64 l] 28)
      have hK3 := headAt_new w3 c k l 28
      have hB3a := hB3.alloc (by omega) (.cells #[.int .i64 c, .int .i64 k, .int .i64 l] 28)
      clear a0 a1 a2
      obtain ⟨a0, a1, a2⟩ := id hH3a
      obtain ⟨b0, b1, b2⟩ := id hK3
      go_region_held3 (fun w' => (w'.cell? ⟨w.heap.size, 0, none⟩ = some (.int .i64 c) ∧ w'.cell? ⟨w.heap.size, 1, none⟩ = some (.int .i64 k) ∧ w'.cell? ⟨w.heap.size, 2, none⟩ = some (.int .i64 l)) ∧ (w'.cell? ⟨w3.heap.size, 0, none⟩ = some (.int .i64 c) ∧ w'.cell? ⟨w3.heap.size, 1, none⟩ = some (.int .i64 k) ∧ w'.cell? ⟨w3.heap.size, 2, none⟩ = some (.int .i64 l)))
        (first | exact ⟨hH3a, hK3⟩ | exact ⟨hH4, hK4⟩) (first | (go_at_call 16; refine (hw0.out _).mono ?_; rintro e w4 ⟨rfl, hb4⟩; have hb4' := (Quiet.below (B := (w3.alloc (.cells #[.int .i64 c, .int .i64 k, .int .i64 l] 28)).heap.size) (w := w3.alloc (.cells #[.int .i64 c, .int .i64 k, .int .i64 l] 28)) ⟨1, rfl⟩).trans hb4; have hH4 := hH3a.below hb4'; have hK4 := hK3.below hb4'; have hE4 := hE3a.below hb4'; have hB4 := hB3a.trans (hb4'.mono hB3a.size)))
      go_wp2_with fail
      go_meet
      case rel => exact ⟨hE4, hB4⟩
  case rest =>
    obtain ⟨hE3, hB3⟩ := hcut
    clear hH hE hB hb1 hH1 hE1 hB1 hb2 hH2 hE2 hB2
    obtain ⟨g0, g1, g2, g3, g4⟩ := id hE3
    go_upto_if 55 with (go_at_call 18; refine (eenc_any _ _ _ _ _ _).mono ?_; rintro e w2 ⟨rfl, hb2⟩; have hE4 := hE3.below hb2; have hB4 := hB3.trans (hb2.mono hB3.size); clear g0 g1 g2 g3 g4)
    go_cut [] (fun wx => Below w.heap.size w wx)
    case first =>
      cases hh : entB k2 c2 s o y with
      | false =>
        have hF : (eencF k2 c2 s o y == 0) = false := by unfold eencF; rw [hh]; rfl
        go_wp2
        go_meet
        case rel => exact hB4
      | true =>
        have hF : (eencF k2 c2 s o y == 0) = true := by unfold eencF; rw [hh]; rfl
        have hV : eencV k2 c2 s o y = encE k2 c2 s o y := by unfold eencV; rw [hh]; rfl
        have hU := encE_U64 hh
        obtain ⟨d1, d2, d3, d4, d5, d6⟩ := edec_of_enc hh
        have D := Lib.hid (fun W => edec_yes (encE k2 c2 s o y) W hU d6)
        rw [d1, d2, d3, d4, d5, ← hV] at D
        have hsz := hE4.lt
        clear d1 d2 d3 d4 d5 d6 hV hU hb2
        go_wp2_with (go_at_call 21; refine (D.out _).mono ?_; rintro e w5 ⟨rfl, hb5⟩; have hE5 := hE4.below hb5; have hB5 := hB4.trans (hb5.mono hB4.size); have hsz5 := hE5.lt; obtain ⟨g0, g1, g2, g3, g4⟩ := id hE5)
        go_meet
        case rel => exact hB5.alloc hB5.size _
    case rest =>
      clear hE3 hB3 hb2 hE4 hB4
      have hc1 := hcut
      clear hcut
      go_upto_if 74 with (go_at_call 13; refine (dec_any _ _ hx).mono ?_; rintro e w2 ⟨rfl, hb2⟩; have hB4 := hc1.trans (hb2.mono hc1.size))
      go_cut [] (fun wx => Below w.heap.size w wx)
      case first =>
        by_cases hh : decOk x = true
        · have hF := decF_yes hh
          obtain ⟨h1, h2⟩ := enc_of_dec hh
          have D := Lib.hid (fun W => enc_yes _ _ _ W h1)
          rw [h2] at D
          clear h2 h1 hb2 hh
          go_wp2_with (go_at_call 10; refine (D.out _).mono ?_; rintro e w5 ⟨rfl, hb5⟩; have hB5 := (hB4.alloc hB4.size _).trans (hb5.mono (by have := hB4.size; simp; omega)))
          go_meet
          case rel => exact hB5
        · have hF := decF_no (Bool.eq_false_iff.2 hh)
          clear hh
          go_wp2
          go_meet
          case rel => exact hB4.alloc hB4.size _
      case rest =>
        clear hc1 hb2 hB4
        by_cases hh : edecOk x = true
        · have hF := decF_yes hh
          obtain ⟨h1, h2⟩ := eenc_of_dec hh
          have D := Lib.hid (fun W => eenc_yes _ _ _ _ _ W h1)
          rw [h2] at D
          clear h2 h1 hh
          go_wp2_with (first | (go_at_call 21; refine (edec_any _ _ hx).mono ?_; rintro e w6 ⟨rfl, hb6⟩; have hB6 := hcut.trans (hb6.mono hcut.size)) | (go_at_call 18; refine (D.out _).mono ?_; rintro e w7 ⟨rfl, hb7⟩; have hB7 := (hB6.alloc hB6.size _).trans (hb7.mono (by have := hB6.size; simp; omega))))
          go_ret
          exact ⟨rfl, hB7⟩
        · have hF := decF_no (Bool.eq_false_iff.2 hh)
          clear hh
          go_wp2_with (go_at_call 21; refine (edec_any _ _ hx).mono ?_; rintro e w6 ⟨rfl, hb6⟩; have hB6 := hcut.trans (hb6.mono hcut.size))
          go_ret
          exact ⟨rfl, hB6.alloc hB6.size _⟩
theorem i64_bd {x : Int} (h : (Lit.int .i64 x).wf = true) : -9223372036854775808 ≤ x ∧ x ≤ 9223372036854775807 := by
  simp [Lit.wf, IntKind.min, IntKind.max, IntKind.signed, IntKind.bits] at h
  exact ⟨by omega, by omega⟩
theorem back_law (c k l k2 c2 s o y x : Int) (w : World) (_w0 : (Lit.int .i64 c).wf = true) (_w1 : (Lit.int .i64 k).wf = true) (w2 : (Lit.int .i64 l).wf = true) (_w3 : (Lit.int .i64 k2).wf = true) (_w4 : (Lit.int .i64 c2).wf = true) (_w5 : (Lit.int .i64 s).wf = true) (_w6 : (Lit.int .i64 o).wf = true) (_w7 : (Lit.int .i64 y).wf = true) (w8 : (Lit.int .u64 x).wf = true) :
    Calls Try.prog 6 #[.agg #[.int .i64 c, .int .i64 k, .int .i64 l], .agg #[.int .i64 k2, .int .i64 c2, .int .i64 s, .int .i64 o, .int .i64 y], .int .u64 x] w fun e w' => e = .returned (.bool true) ∧ Below w.heap.size w w' :=
  back_walk c k l k2 c2 s o y x w (i64_bd w2) (wf_U64 w8)
end Go.Proofs.Ytaghcogooggdpab
