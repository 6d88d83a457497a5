/- The walk of the law HeaderEntries: it returns true, whatever it is given. No condition but that each number fits its kind. -/
import Derived.Test.YtaghcogooggdpabRentb
import Derived.Deep.RegionHeld3
namespace Go.Proofs.Ytaghcogooggdpab
open Go.RowKit
set_option linter.unusedVariables false

theorem keepE {w W W' : World} (b1 : Nat) (k1 c1 s1 o1 y1 : Int) (b2 : Nat) (k2 c2 s2 o2 y2 : Int) (h : EntAt W b1 k1 c1 s1 o1 y1 ∧ EntAt W b2 k2 c2 s2 o2 y2 ∧ Below w.heap.size w W) (hb : Below W.heap.size W W') : EntAt W' b1 k1 c1 s1 o1 y1 ∧ EntAt W' b2 k2 c2 s2 o2 y2 ∧ Below w.heap.size w W' :=
  ⟨h.1.below hb, h.2.1.below hb, h.2.2.trans (hb.mono h.2.2.size)⟩
theorem heldE {w W : World} (b1 : Nat) (k1 c1 s1 o1 y1 : Int) (b2 : Nat) (k2 c2 s2 o2 y2 : Int) (h : EntAt W b1 k1 c1 s1 o1 y1 ∧ EntAt W b2 k2 c2 s2 o2 y2 ∧ Below w.heap.size w W) : Below w.heap.size w W := h.2.2

set_option maxRecDepth 100000 in
set_option maxHeartbeats 4000000 in
theorem entries_walk (k c s o y x : Int) (w : World) (hx : U64 x) :
    Calls Try.prog 4 #[.agg #[.int .i64 k, .int .i64 c, .int .i64 s, .int .i64 o, .int .i64 y], .int .u64 x] w fun e w' => e = .returned (.bool true) ∧ Below w.heap.size w w' := by
  have D := Lib.hid (fun W => edec_any x W hx)
  have R := Lib.hid (fun W => redec_any x W hx)
  have E := Lib.hid (fun W => eenc_any k c s o y W)
  have Q := Lib.hid (fun W => reenc_any k c s o y W)
  generalize decD (edecOk x) (x % 4) = A1 at *
  generalize decD (edecOk x) (x / 4 % 16) = A2 at *
  generalize decD (edecOk x) (x / 64 % 4) = A3 at *
  generalize decD (edecOk x) (x / 256 % 16) = A4 at *
  generalize decD (edecOk x) (x / 65536 % 4294967296) = A5 at *
  generalize decF (edecOk x) = F at *
  generalize eencV k c s o y = ev at *
  generalize eencF k c s o y = ef at *
  have hH := entAt_new w k c s o y 41
  have hB : Below w.heap.size w (w.alloc (.cells #[.int .i64 k, .int .i64 c, .int .i64 s, .int .i64 o, .int .i64 y] 41)) := (Below.refl _ _).alloc (Nat.le_refl _) _
  go_enter Try.func4, Try.ntmps4
  go_wp2_with fail
  refine (entry_any _ _ _ _ _ _).mono ?_
  rintro e w1 ⟨rfl, hb1⟩
  have hH1 := hH.below hb1
  have hB1 := hB.trans (hb1.mono hB.size)
  go_wp2_with fail
  refine (E.out _).mono ?_
  rintro e w2 ⟨rfl, hb2⟩
  have hH2 := hH1.below hb2
  have hB2 := hB1.trans (hb2.mono hB1.size)
  obtain ⟨a0, a1, a2, a3, a4⟩ := id hH2
  go_wp2_with fail
  refine (Q.out _).mono ?_
  rintro e w3 ⟨rfl, hb3⟩
  have hB3 := hB2.trans (hb3.mono hB2.size)
  clear a0 a1 a2 a3 a4 hb1 hb2 hb3 hH1 hH2 hB1 hB2 hH
  go_wp2_with fail
  refine (D.out _).mono ?_
  rintro e w4 ⟨rfl, hb4⟩
  have hD4 := entAt_new w4 A1 A2 A3 A4 A5 43
  have hB4' := hB3.trans (hb4.mono hB3.size)
  have hB4 := hB4'.alloc hB4'.size (.cells #[.int .i64 A1, .int .i64 A2, .int .i64 A3, .int .i64 A4, .int .i64 A5] 43)
  clear hb4 hB3 hB4'
  go_wp2_with fail
  refine (R.out _).mono ?_
  rintro e w5 ⟨rfl, hb5⟩
  have hD5 := (hD4.below hb5).alloc (.cells #[.int .i64 A1, .int .i64 A2, .int .i64 A3, .int .i64 A4, .int .i64 A5] 41)
  have hR5 := entAt_new w5 A1 A2 A3 A4 A5 41
  have hB5' := hB4.trans (hb5.mono hB4.size)
  have hB5 := hB5'.alloc hB5'.size (.cells #[.int .i64 A1, .int .i64 A2, .int .i64 A3, .int .i64 A4, .int .i64 A5] 41)
  clear hb5 hD4 hB4 hB5' D R E Q hB
  have hd4 := hD5.lt
  obtain ⟨b0, b1, b2, b3, b4⟩ := id hD5
  obtain ⟨c0, c1, c2, c3, c4⟩ := id hR5
  go_wp2_with fail
  go_region_held3 (fun w' => (w'.cell? ⟨w4.heap.size, 0, none⟩ = some (.int .i64 A1) ∧ w'.cell? ⟨w4.heap.size, 1, none⟩ = some (.int .i64 A2) ∧ w'.cell? ⟨w4.heap.size, 2, none⟩ = some (.int .i64 A3) ∧ w'.cell? ⟨w4.heap.size, 3, none⟩ = some (.int .i64 A4) ∧ w'.cell? ⟨w4.heap.size, 4, none⟩ = some (.int .i64 A5)) ∧ (w'.cell? ⟨w5.heap.size, 0, none⟩ = some (.int .i64 A1) ∧ w'.cell? ⟨w5.heap.size, 1, none⟩ = some (.int .i64 A2) ∧ w'.cell? ⟨w5.heap.size, 2, none⟩ = some (.int .i64 A3) ∧ w'.cell? ⟨w5.heap.size, 3, none⟩ = some (.int .i64 A4) ∧ w'.cell? ⟨w5.heap.size, 4, none⟩ = some (.int .i64 A5)) ∧ Below w.heap.size w w')
    (first | exact ⟨hD5, hR5, hB5⟩ | exact ⟨hD5, hR5, hB5.trans (Quiet.below ⟨1, rfl⟩)⟩ | exact keepE w4.heap.size A1 A2 A3 A4 A5 w5.heap.size A1 A2 A3 A4 A5 (by assumption) hbk)
    (first | (go_at_call 15; refine (headed_any _).mono ?_; rintro e w6 ⟨rfl, hbk⟩) | (go_at_call 19; refine (entry_any _ _ _ _ _ _).mono ?_; rintro e w7 ⟨rfl, hbk⟩))
  go_wp2
  go_ret
  exact ⟨rfl, heldE w4.heap.size A1 A2 A3 A4 A5 w5.heap.size A1 A2 A3 A4 A5 (by assumption)⟩
theorem entries_law (k c s o y x : Int) (w : World) (w0 : (Lit.int .i64 k).wf = true) (w1 : (Lit.int .i64 c).wf = true) (w2 : (Lit.int .i64 s).wf = true) (w3 : (Lit.int .i64 o).wf = true) (w4 : (Lit.int .i64 y).wf = true) (w5 : (Lit.int .u64 x).wf = true) :
    Calls Try.prog 4 #[.agg #[.int .i64 k, .int .i64 c, .int .i64 s, .int .i64 o, .int .i64 y], .int .u64 x] w fun e w' => e = .returned (.bool true) ∧ Below w.heap.size w w' :=
  entries_walk k c s o y x w (wf_U64 w5)
end Go.Proofs.Ytaghcogooggdpab
