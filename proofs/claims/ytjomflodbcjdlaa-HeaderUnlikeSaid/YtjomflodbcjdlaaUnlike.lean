/- The law HeaderUnlike, its first assignment: four boxes are made in a drawn order, and hold what was given. No condition. -/
import Derived.Test.YtjomflodbcjdlaaHlaw
import Derived.Test.YtjomflodbcjdlaaTouch
import Derived.Deep.CutBlock
import Derived.Deep.DeepCutAuto
namespace Go.Proofs.Ytjomflodbcjdlaa
open Go.RowKit
set_option linter.unusedVariables false
def Box16 (W : World) (b : Nat) (c k l c' k' l' ek ec es eo ey fk fc fs fo fy : Int) : Prop := Blk W b #[.int .i64 c, .int .i64 k, .int .i64 l, .int .i64 c', .int .i64 k', .int .i64 l', .int .i64 ek, .int .i64 ec, .int .i64 es, .int .i64 eo, .int .i64 ey, .int .i64 fk, .int .i64 fc, .int .i64 fs, .int .i64 fo, .int .i64 fy] 64
theorem Box16.cells {w' : World} {b : Nat} {c k l c' k' l' ek ec es eo ey fk fc fs fo fy : Int} (h : Box16 w' b c k l c' k' l' ek ec es eo ey fk fc fs fo fy) :
    w'.cell? ⟨b, 0, none⟩ = some (.int .i64 c) ∧ w'.cell? ⟨b, 1, none⟩ = some (.int .i64 k) ∧ w'.cell? ⟨b, 2, none⟩ = some (.int .i64 l) ∧ w'.cell? ⟨b, 3, none⟩ = some (.int .i64 c') ∧ w'.cell? ⟨b, 4, none⟩ = some (.int .i64 k') ∧ w'.cell? ⟨b, 5, none⟩ = some (.int .i64 l') ∧ w'.cell? ⟨b, 6, none⟩ = some (.int .i64 ek) ∧ w'.cell? ⟨b, 7, none⟩ = some (.int .i64 ec) ∧ w'.cell? ⟨b, 8, none⟩ = some (.int .i64 es) ∧ w'.cell? ⟨b, 9, none⟩ = some (.int .i64 eo) ∧ w'.cell? ⟨b, 10, none⟩ = some (.int .i64 ey) ∧ w'.cell? ⟨b, 11, none⟩ = some (.int .i64 fk) ∧ w'.cell? ⟨b, 12, none⟩ = some (.int .i64 fc) ∧ w'.cell? ⟨b, 13, none⟩ = some (.int .i64 fs) ∧ w'.cell? ⟨b, 14, none⟩ = some (.int .i64 fo) ∧ w'.cell? ⟨b, 15, none⟩ = some (.int .i64 fy) := by
  refine ⟨?_, ?_, ?_, ?_, ?_, ?_, ?_, ?_, ?_, ?_, ?_, ?_, ?_, ?_, ?_, ?_⟩ <;> exact h.val _ rfl
theorem encH_inj {c k l c' k' l' : Int} (h : headB c k l = true) (h' : headB c' k' l' = true) (he : encH c k l = encH c' k' l') : c = c' ∧ k = k' ∧ l = l' := by
  have h1 := dec_of_enc h
  have h2 := dec_of_enc h'
  rw [he] at h1
  exact ⟨h1.1.symm.trans h2.1, h1.2.1.symm.trans h2.2.1, h1.2.2.1.symm.trans h2.2.2.1⟩
theorem encE_inj {k c s o y k' c' s' o' y' : Int} (h : entB k c s o y = true) (h' : entB k' c' s' o' y' = true) (he : encE k c s o y = encE k' c' s' o' y') : k = k' ∧ c = c' ∧ s = s' ∧ o = o' ∧ y = y' := by
  have h1 := edec_of_enc h
  have h2 := edec_of_enc h'
  rw [he] at h1
  exact ⟨h1.1.symm.trans h2.1, h1.2.1.symm.trans h2.2.1, h1.2.2.1.symm.trans h2.2.2.1, h1.2.2.2.1.symm.trans h2.2.2.2.1, h1.2.2.2.2.1.symm.trans h2.2.2.2.2.1⟩
theorem headAt_blk {W : World} {b : Nat} {c k l : Int} {t : TypeId} (h : Blk W b #[.int .i64 c, .int .i64 k, .int .i64 l] t) : HeadAt W b c k l := ⟨h.val 0 rfl, h.val 1 rfl, h.val 2 rfl⟩
theorem entAt_blk {W : World} {b : Nat} {k c s o y : Int} {t : TypeId} (h : Blk W b #[.int .i64 k, .int .i64 c, .int .i64 s, .int .i64 o, .int .i64 y] t) : EntAt W b k c s o y := ⟨h.val 0 rfl, h.val 1 rfl, h.val 2 rfl, h.val 3 rfl, h.val 4 rfl⟩
def FourAt (w : World) (c k l c' k' l' ek ec es eo ey fk fc fs fo fy : Int) (s3 s4 s5 s6 : Value) (wx : World) : Prop :=
  ∃ b3 b4 b5 b6 : Nat, s3 = .pointer (some ⟨b3, 0, none⟩) ∧ s4 = .pointer (some ⟨b4, 0, none⟩) ∧ s5 = .pointer (some ⟨b5, 0, none⟩) ∧ s6 = .pointer (some ⟨b6, 0, none⟩) ∧ HeadAt wx b3 c k l ∧ HeadAt wx b4 c' k' l' ∧ EntAt wx b5 ek ec es eo ey ∧ EntAt wx b6 fk fc fs fo fy ∧ Below w.heap.size w wx
set_option maxRecDepth 100000 in
set_option maxHeartbeats 40000000 in
theorem unlike_walk (c k l c' k' l' ek ec es eo ey fk fc fs fo fy : Int) (w : World) :
    Calls Try.prog 7 #[.agg #[.int .i64 c, .int .i64 k, .int .i64 l, .int .i64 c', .int .i64 k', .int .i64 l', .int .i64 ek, .int .i64 ec, .int .i64 es, .int .i64 eo, .int .i64 ey, .int .i64 fk, .int .i64 fc, .int .i64 fs, .int .i64 fo, .int .i64 fy]] w fun e w' => e = .returned (.bool true) ∧ Below w.heap.size w w' := by
  go_enter Try.func7, Try.ntmps7
  go_upto_region 1 with fail
  have hB : Below w.heap.size w (w.alloc (.cells #[.int .i64 c, .int .i64 k, .int .i64 l, .int .i64 c', .int .i64 k', .int .i64 l', .int .i64 ek, .int .i64 ec, .int .i64 es, .int .i64 eo, .int .i64 ey, .int .i64 fk, .int .i64 fc, .int .i64 fs, .int .i64 fo, .int .i64 fy] 64)) := (Below.refl _ _).alloc (Nat.le_refl _) _
  have hX : Box16 (w.alloc (.cells #[.int .i64 c, .int .i64 k, .int .i64 l, .int .i64 c', .int .i64 k', .int .i64 l', .int .i64 ek, .int .i64 ec, .int .i64 es, .int .i64 eo, .int .i64 ey, .int .i64 fk, .int .i64 fc, .int .i64 fs, .int .i64 fo, .int .i64 fy] 64)) w.heap.size c k l c' k' l' ek ec es eo ey fk fc fs fo fy := Blk.new _ _ _
  generalize w.alloc (.cells #[.int .i64 c, .int .i64 k, .int .i64 l, .int .i64 c', .int .i64 k', .int .i64 l', .int .i64 ek, .int .i64 ec, .int .i64 es, .int .i64 eo, .int .i64 ey, .int .i64 fk, .int .i64 fc, .int .i64 fs, .int .i64 fo, .int .i64 fy] 64) = W at *
  have hlt := hX.lt
  go_cut [3, 4, 5, 6] (fun s3 s4 s5 s6 wx => FourAt w c k l c' k' l' ek ec es eo ey fk fc fs fo fy s3 s4 s5 s6 wx)
  case first =>
    go_region_held3 (fun w' => w'.cell? ⟨w.heap.size, 0, none⟩ = some (.int .i64 c) ∧ w'.cell? ⟨w.heap.size, 1, none⟩ = some (.int .i64 k) ∧ w'.cell? ⟨w.heap.size, 2, none⟩ = some (.int .i64 l) ∧ w'.cell? ⟨w.heap.size, 3, none⟩ = some (.int .i64 c') ∧ w'.cell? ⟨w.heap.size, 4, none⟩ = some (.int .i64 k') ∧ w'.cell? ⟨w.heap.size, 5, none⟩ = some (.int .i64 l') ∧ w'.cell? ⟨w.heap.size, 6, none⟩ = some (.int .i64 ek) ∧ w'.cell? ⟨w.heap.size, 7, none⟩ = some (.int .i64 ec) ∧ w'.cell? ⟨w.heap.size, 8, none⟩ = some (.int .i64 es) ∧ w'.cell? ⟨w.heap.size, 9, none⟩ = some (.int .i64 eo) ∧ w'.cell? ⟨w.heap.size, 10, none⟩ = some (.int .i64 ey) ∧ w'.cell? ⟨w.heap.size, 11, none⟩ = some (.int .i64 fk) ∧ w'.cell? ⟨w.heap.size, 12, none⟩ = some (.int .i64 fc) ∧ w'.cell? ⟨w.heap.size, 13, none⟩ = some (.int .i64 fs) ∧ w'.cell? ⟨w.heap.size, 14, none⟩ = some (.int .i64 fo) ∧ w'.cell? ⟨w.heap.size, 15, none⟩ = some (.int .i64 fy)) ((refine Box16.cells ?_; repeat (first | exact hX | refine Blk.drew ?_ | refine Blk.alloc ?_ _ | refine Blk.other ?_ _ _ (by simp; omega)))) (fail)
    all_goals
      go_wp2
      go_meet
      case rel =>
        refine ⟨_, _, _, _, rfl, rfl, rfl, rfl, headAt_blk (t := 28) ?_, headAt_blk (t := 28) ?_, entAt_blk (t := 43) ?_, entAt_blk (t := 43) ?_, ?_⟩
        all_goals repeat' (first | exact hB | exact hB.size | (refine Blk.new' ?_; simp; done) | refine Blk.drew ?_ | refine Blk.alloc ?_ _ | refine Quiet.below' ?_ | refine Below.alloc ?_ ?_ _ | (simp; done) | (simp; omega))
  case rest =>
    obtain ⟨b3, b4, b5, b6, rfl, rfl, rfl, rfl, h3, h4, h5, h6, hB⟩ := hcut
    obtain ⟨a0, a1, a2⟩ := id h3
    obtain ⟨d0, d1, d2⟩ := id h4
    clear hX hlt
    go_upto_region 4 with (first | (go_at_call 10; refine (enc_any _ _ _ _).mono ?_; rintro e w1 ⟨rfl, hb1⟩; have h3 := h3.below hb1; have h4 := h4.below hb1; have h5 := h5.below hb1; have h6 := h6.below hb1; have hB := hB.trans (hb1.mono hB.size); obtain ⟨a0, a1, a2⟩ := id h3; obtain ⟨d0, d1, d2⟩ := id h4; clear hb1))
    clear a0 a1 a2 d0 d1 d2
    go_cut [47] (fun s wx => s = .bool false ∧ EntAt wx b5 ek ec es eo ey ∧ EntAt wx b6 fk fc fs fo fy ∧ Below w.heap.size w wx)
    case first =>
      have HD := Lib.hid (fun W => headed_any W)
      cases hA : headB c k l with
      | false =>
        have F1 : (encF c k l == 0) = false := by unfold encF; rw [hA]; rfl
        clear hA
        go_wp2_with (go_at_call 15; refine (HD.out _).mono ?_; rintro e w2 ⟨rfl, hb2⟩)
        go_meet
        case rel => exact ⟨rfl, h5.below hb2, h6.below hb2, hB.trans (hb2.mono hB.size)⟩
      | true =>
        have F1 : (encF c k l == 0) = true := by unfold encF; rw [hA]; rfl
        cases hA' : headB c' k' l' with
        | false =>
          have F2 : (encF c' k' l' == 0) = false := by unfold encF; rw [hA']; rfl
          clear hA hA'
          go_wp2_with (go_at_call 15; refine (HD.out _).mono ?_; rintro e w2 ⟨rfl, hb2⟩)
          go_meet
          case rel => exact ⟨rfl, h5.below hb2, h6.below hb2, hB.trans (hb2.mono hB.size)⟩
        | true =>
          have F2 : (encF c' k' l' == 0) = true := by unfold encF; rw [hA']; rfl
          by_cases he : c = c' ∧ k = k' ∧ l = l'
          · obtain ⟨rfl, rfl, rfl⟩ := he
            clear hA hA'
            generalize encV c k l = V at *
            have hV : (V == V) = true := by simp
            go_wp2_with (go_at_call 15; refine (HD.out _).mono ?_; rintro e w2 ⟨rfl, hb2⟩; obtain ⟨a0, a1, a2⟩ := h3.below hb2; obtain ⟨d0, d1, d2⟩ := h4.below hb2)
            go_meet
            case rel => exact ⟨by simp, h5.below hb2, h6.below hb2, hB.trans (hb2.mono hB.size)⟩
          · have hV : (encV c k l == encV c' k' l') = false := beq_eq_false_iff_ne.2 (fun h => he (encH_inj hA hA' (by unfold encV at h; rwa [if_pos hA, if_pos hA'] at h)))
            generalize encV c k l = V at *
            generalize encV c' k' l' = V' at *
            have hne : (c == c' && (k == k' && l == l')) = false := by
              rw [Bool.eq_false_iff]
              intro h
              simp at h
              exact he h
            clear he hA hA'
            cases b1 : (c == c') <;> cases b2 : (k == k') <;> cases b3 : (l == l') <;> rw [b1, b2, b3] at hne <;> first | (exact absurd hne (by decide)) | skip
            all_goals
              clear hne
              go_wp2_with (go_at_call 15; refine (HD.out _).mono ?_; rintro e w2 ⟨rfl, hb2⟩; obtain ⟨a0, a1, a2⟩ := h3.below hb2; obtain ⟨d0, d1, d2⟩ := h4.below hb2)
              go_meet
              case rel => exact ⟨by simp, h5.below hb2, h6.below hb2, hB.trans (hb2.mono hB.size)⟩
    case rest =>
      obtain ⟨rfl, h5, h6, hB⟩ := hcut
      obtain ⟨a0, a1, a2, a3, a4⟩ := id h5
      obtain ⟨d0, d1, d2, d3, d4⟩ := id h6
      go_upto_region 8 with (first | (go_at_call 18; refine (eenc_any _ _ _ _ _ _).mono ?_; rintro e w3 ⟨rfl, hb3⟩; have h5 := h5.below hb3; have h6 := h6.below hb3; have hB := hB.trans (hb3.mono hB.size); obtain ⟨a0, a1, a2, a3, a4⟩ := id h5; obtain ⟨d0, d1, d2, d3, d4⟩ := id h6; clear hb3))
      cases hA : entB ek ec es eo ey with
      | false =>
        have F1 : (eencF ek ec es eo ey != 0) = true := by unfold eencF; rw [hA]; rfl
        clear hA
        go_wp2
        go_ret
        exact ⟨rfl, hB⟩
      | true =>
        have F1 : (eencF ek ec es eo ey != 0) = false := by unfold eencF; rw [hA]; rfl
        cases hA' : entB fk fc fs fo fy with
        | false =>
          have F2 : (eencF fk fc fs fo fy != 0) = true := by unfold eencF; rw [hA']; rfl
          clear hA hA'
          go_wp2
          go_ret
          exact ⟨rfl, hB⟩
        | true =>
          have F2 : (eencF fk fc fs fo fy != 0) = false := by unfold eencF; rw [hA']; rfl
          by_cases he : ek = fk ∧ ec = fc ∧ es = fs ∧ eo = fo ∧ ey = fy
          · obtain ⟨rfl, rfl, rfl, rfl, rfl⟩ := he
            clear hA hA'
            generalize eencV ek ec es eo ey = V at *
            have hV : (V == V) = true := by simp
            go_wp2
            go_ret
            exact ⟨by simp, hB⟩
          · have hV : (eencV ek ec es eo ey == eencV fk fc fs fo fy) = false := beq_eq_false_iff_ne.2 (fun h => he (encE_inj hA hA' (by unfold eencV at h; rwa [if_pos hA, if_pos hA'] at h)))
            generalize eencV ek ec es eo ey = V at *
            generalize eencV fk fc fs fo fy = V' at *
            have hne : (ek == fk && (ec == fc && (es == fs && (eo == fo && ey == fy)))) = false := by
              rw [Bool.eq_false_iff]
              intro h
              simp at h
              exact he h
            clear he hA hA'
            cases b1 : (ek == fk) <;> cases b2 : (ec == fc) <;> cases b3 : (es == fs) <;> cases b4 : (eo == fo) <;> cases b5' : (ey == fy) <;> rw [b1, b2, b3, b4, b5'] at hne <;> first | (exact absurd hne (by decide)) | skip
            all_goals
              clear hne
              go_wp2
              go_ret
              exact ⟨by simp, hB⟩
theorem unlike_law (c k l c' k' l' ek ec es eo ey fk fc fs fo fy : Int) (w : World) (_w0 : (Lit.int .i64 c).wf = true) (_w1 : (Lit.int .i64 k).wf = true) (_w2 : (Lit.int .i64 l).wf = true) (_w3 : (Lit.int .i64 c').wf = true) (_w4 : (Lit.int .i64 k').wf = true) (_w5 : (Lit.int .i64 l').wf = true) (_w6 : (Lit.int .i64 ek).wf = true) (_w7 : (Lit.int .i64 ec).wf = true) (_w8 : (Lit.int .i64 es).wf = true) (_w9 : (Lit.int .i64 eo).wf = true) (_w10 : (Lit.int .i64 ey).wf = true) (_w11 : (Lit.int .i64 fk).wf = true) (_w12 : (Lit.int .i64 fc).wf = true) (_w13 : (Lit.int .i64 fs).wf = true) (_w14 : (Lit.int .i64 fo).wf = true) (_w15 : (Lit.int .i64 fy).wf = true) :
    Calls Try.prog 7 #[.agg #[.int .i64 c, .int .i64 k, .int .i64 l, .int .i64 c', .int .i64 k', .int .i64 l', .int .i64 ek, .int .i64 ec, .int .i64 es, .int .i64 eo, .int .i64 ey, .int .i64 fk, .int .i64 fc, .int .i64 fs, .int .i64 fo, .int .i64 fy]] w fun e w' => e = .returned (.bool true) ∧ Below w.heap.size w w' :=
  unlike_walk c k l c' k' l' ek ec es eo ey fk fc fs fo fy w
end Go.Proofs.Ytjomflodbcjdlaa
