/- The walk of the law HeaderHeads: it returns true, whatever it is given. No condition but that each number fits its kind. -/
import Derived.Test.YtaghcogooggdpabRhead
namespace Go.Proofs.Ytaghcogooggdpab
open Go.RowKit
set_option linter.unusedVariables false

theorem keep3 {w W W' : World} (b1 : Nat) (c1 k1 l1 : Int) (b2 : Nat) (c2 k2 l2 : Int) (b3 : Nat) (c3 k3 l3 : Int) (h : HeadAt W b1 c1 k1 l1 ∧ HeadAt W b2 c2 k2 l2 ∧ HeadAt W b3 c3 k3 l3 ∧ Below w.heap.size w W) (hb : Below W.heap.size W W') : HeadAt W' b1 c1 k1 l1 ∧ HeadAt W' b2 c2 k2 l2 ∧ HeadAt W' b3 c3 k3 l3 ∧ Below w.heap.size w W' :=
  ⟨h.1.below hb, h.2.1.below hb, h.2.2.1.below hb, h.2.2.2.trans (hb.mono h.2.2.2.size)⟩
theorem held3 {w W : World} (b1 : Nat) (c1 k1 l1 : Int) (b2 : Nat) (c2 k2 l2 : Int) (b3 : Nat) (c3 k3 l3 : Int) (h : HeadAt W b1 c1 k1 l1 ∧ HeadAt W b2 c2 k2 l2 ∧ HeadAt W b3 c3 k3 l3 ∧ Below w.heap.size w W) : Below w.heap.size w W := h.2.2.2

set_option maxRecDepth 100000 in
set_option maxHeartbeats 4000000 in
theorem heads_walk (c k l x : Int) (w : World) (hx : U64 x) :
    Calls Try.prog 3 #[.agg #[.int .i64 c, .int .i64 k, .int .i64 l], .int .u64 x] w fun e w' => e = .returned (.bool true) ∧ Below w.heap.size w w' := by
  have D := Lib.hid (fun W => dec_any x W hx)
  have R := Lib.hid (fun W => rdec_any x W hx)
  have E := Lib.hid (fun W => enc_any c k l W)
  have Q := Lib.hid (fun W => renc_any c k l W)
  have V := Lib.hid (fun W => words_any c k l W)
  have Y := Lib.hid (fun W => rwords_any c k l W)
  generalize decD (decOk x) (x / 256 % 256) = A at *
  generalize decD (decOk x) (x % 256) = B at *
  generalize decD (decOk x) (x / 65536 % 256) = C at *
  generalize decF (decOk x) = F at *
  generalize encV c k l = ev at *
  generalize encF c k l = ef at *
  generalize wordsV c k l = wv at *
  have hH := headAt_new w c k l 23
  have hB : Below w.heap.size w (w.alloc (.cells #[.int .i64 c, .int .i64 k, .int .i64 l] 23)) := (Below.refl _ _).alloc (Nat.le_refl _) _
  go_enter Try.func3, Try.ntmps3
  go_wp2_with fail
  refine (head_any _ _ _ _).mono ?_
  rintro e w1 ⟨rfl, hb1⟩
  have hH1 := hH.below hb1
  have hB1 := hB.trans (hb1.mono hB.size)
  go_wp2_with fail
  refine (E.out _).mono ?_
  rintro e w2 ⟨rfl, hb2⟩
  have hH2 := hH1.below hb2
  have hB2 := hB1.trans (hb2.mono hB1.size)
  obtain ⟨a0, a1, a2⟩ := id hH2
  go_wp2_with fail
  refine (Q.out _).mono ?_
  rintro e w3 ⟨rfl, hb3⟩
  have hH3 := hH2.below hb3
  have hB3 := hB2.trans (hb3.mono hB2.size)
  clear a0 a1 a2 hb1 hb2 hb3 hH1 hH2 hB1 hB2
  go_wp2_with fail
  refine (D.out _).mono ?_
  rintro e w4 ⟨rfl, hb4⟩
  have hH4 := (hH3.below hb4).alloc (.cells #[.int .i64 A, .int .i64 B, .int .i64 C] 28)
  have hD4 := headAt_new w4 A B C 28
  have hB4' := hB3.trans (hb4.mono hB3.size)
  have hB4 := hB4'.alloc hB4'.size (.cells #[.int .i64 A, .int .i64 B, .int .i64 C] 28)
  clear hb4 hH3 hB3 hB4'
  go_wp2_with fail
  refine (R.out _).mono ?_
  rintro e w5 ⟨rfl, hb5⟩
  have hH5 := (hH4.below hb5).alloc (.cells #[.int .i64 A, .int .i64 B, .int .i64 C] 23)
  have hD5 := (hD4.below hb5).alloc (.cells #[.int .i64 A, .int .i64 B, .int .i64 C] 23)
  have hR5 := headAt_new w5 A B C 23
  have hB5' := hB4.trans (hb5.mono hB4.size)
  have hB5 := hB5'.alloc hB5'.size (.cells #[.int .i64 A, .int .i64 B, .int .i64 C] 23)
  clear hb5 hH4 hD4 hB4 hB5' D R E Q hH hB
  have hd4 := hD5.lt
  obtain ⟨a0, a1, a2⟩ := id hH5
  obtain ⟨b0, b1, b2⟩ := id hD5
  obtain ⟨c0, c1, c2⟩ := id hR5
  go_wp2_with fail
  go_region_held3 (fun w' => (w'.cell? ⟨w.heap.size, 0, none⟩ = some (.int .i64 c) ∧ w'.cell? ⟨w.heap.size, 1, none⟩ = some (.int .i64 k) ∧ w'.cell? ⟨w.heap.size, 2, none⟩ = some (.int .i64 l)) ∧ (w'.cell? ⟨w4.heap.size, 0, none⟩ = some (.int .i64 A) ∧ w'.cell? ⟨w4.heap.size, 1, none⟩ = some (.int .i64 B) ∧ w'.cell? ⟨w4.heap.size, 2, none⟩ = some (.int .i64 C)) ∧ (w'.cell? ⟨w5.heap.size, 0, none⟩ = some (.int .i64 A) ∧ w'.cell? ⟨w5.heap.size, 1, none⟩ = some (.int .i64 B) ∧ w'.cell? ⟨w5.heap.size, 2, none⟩ = some (.int .i64 C)) ∧ Below w.heap.size w w')
    (first | exact ⟨hH5, hD5, hR5, hB5⟩ | exact ⟨hH5, hD5, hR5, hB5.trans (Quiet.below ⟨1, rfl⟩)⟩ | exact keep3 w.heap.size c k l w4.heap.size A B C w5.heap.size A B C (by assumption) hbk)
    (first | (go_at_call 15; refine (headed_any _).mono ?_; rintro e w6 ⟨rfl, hbk⟩) | (go_at_call 11; refine (head_any _ _ _ _).mono ?_; rintro e w7 ⟨rfl, hbk⟩) | (go_at_call 16; refine (V.out _).mono ?_; rintro e w8 ⟨rfl, hbk⟩) | (go_at_call 17; refine (Y.out _).mono ?_; rintro e w9 ⟨rfl, hbk⟩))
  go_wp2
  go_ret
  exact ⟨rfl, held3 w.heap.size c k l w4.heap.size A B C w5.heap.size A B C (by assumption)⟩
theorem heads_law (c k l x : Int) (w : World) (w0 : (Lit.int .i64 c).wf = true) (w1 : (Lit.int .i64 k).wf = true) (w2 : (Lit.int .i64 l).wf = true) (w3 : (Lit.int .u64 x).wf = true) :
    Calls Try.prog 3 #[.agg #[.int .i64 c, .int .i64 k, .int .i64 l], .int .u64 x] w fun e w' => e = .returned (.bool true) ∧ Below w.heap.size w w' :=
  heads_walk c k l x w (wf_U64 w3)
end Go.Proofs.Ytaghcogooggdpab
