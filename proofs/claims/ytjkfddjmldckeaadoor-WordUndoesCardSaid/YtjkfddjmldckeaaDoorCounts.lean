/- The law WordCounts: the walk. No condition but that the table of math/bits lies as the start lays it. -/
import Derived.Test.YtjkfddjmldckeaaDoorPlaces
import Derived.Test.YtjkfddjmldckeaaDoorTabs
import Derived.Test.YtjkfddjmldckeaaDoorKept
namespace Go.Proofs.YtjkfddjmldckeaaDoor
open Go.RowKit
set_option linter.unusedVariables false

theorem ones_len (x : Int) : onesI x = (((plcs x.toNat 64).length : Nat) : Int) := by unfold onesI; rw [plcs_length]
theorem low_zero : lowI 0 = 64 := by decide +kernel
theorem high_zero : highI 0 = -1 := by decide +kernel
theorem low_head (x : Int) (hx : U64 x) (h0 : x ≠ 0) : (plcs x.toNat 64).getD 0 0 = lowI x := (plcs_low x.toNat (by have := hx.2; omega) (by have := hx.1; omega)).2
theorem high_last (x : Int) (hx : U64 x) (h0 : x ≠ 0) : (plcs x.toNat 64).getD ((plcs x.toNat 64).length - 1) 0 = highI x := plcs_top x.toNat (by have := hx.2; omega) (by have := hx.1; omega)

set_option maxHeartbeats 1000000 in
theorem counts_zero (a : Int) (w : World) (hT : Tab w) :
    Calls Tryd.prog 4 #[.int .u64 0, .int .i64 a] w fun e w' => e = .returned (.bool true) ∧ Below w.heap.size w w' := by
  have hx : U64 0 := ⟨by decide, by decide⟩
  have O := Lib.hid (fun W => ones_w 0 W hx)
  rw [show onesI 0 = 0 from by decide +kernel] at O
  have LW := Lib.hid (fun W (h : Tab W) => lowest_any 0 W hx h)
  rw [low_zero] at LW
  have HG := Lib.hid (fun W => highest_any 0 W hx)
  rw [high_zero] at HG
  have R1 := Lib.hid (fun W => rank_any 0 a W hx)
  have R2 := Lib.hid (fun W => rrank_any 0 a W hx)
  have M1 := Lib.hid (fun W => mask_any a W)
  have M2 := Lib.hid (fun W => rmask_any a W)
  generalize rankI 0 a = r at *
  generalize maskI a = m at *
  go_enter Tryd.func4, Tryd.ntmps4
  go_wp2_with fail
  refine (places_none _).mono ?_
  rintro e w1 ⟨b1, c1, rfl, hb1⟩
  have hT1 := hT.grew hb1
  go_wp2_with fail
  refine (worded_any _).mono ?_
  rintro e w2 ⟨rfl, hq2⟩
  go_wp2_with fail
  refine (O.out _).mono ?_
  rintro e w3 ⟨rfl, hq3⟩
  have hT3 := (hT1.quiet hq2).quiet hq3
  go_wp2_with fail
  refine (LW.out _ hT3).mono ?_
  rintro e w4 ⟨rfl, hq4⟩
  go_wp2_with fail
  refine (HG.out _).mono ?_
  rintro e w5 ⟨rfl, hq5⟩
  go_wp2_with fail
  refine (R1.out _).mono ?_
  rintro e w6 ⟨rfl, hq6⟩
  have hb6 : Below w.heap.size w w6 := hb1.trans ((((hq2.trans hq3).trans hq4).trans hq5).trans hq6).below
  go_wp2_with fail
  refine (R2.out _).mono ?_
  rintro e w7 ⟨rfl, hb7⟩
  go_wp2_with fail
  refine (M1.out _).mono ?_
  rintro e w8 ⟨rfl, hq8⟩
  go_wp2_with fail
  refine (M2.out _).mono ?_
  rintro e w9 ⟨rfl, hq9⟩
  go_wp2
  go_ret
  exact ⟨rfl, (hb6.trans (hb7.mono hb6.size)).trans (hq8.trans hq9).below⟩

set_option maxHeartbeats 1000000 in
theorem counts_some (x a : Int) (w : World) (hx : U64 x) (h0 : x ≠ 0) (hT : Tab w) :
    Calls Tryd.prog 4 #[.int .u64 x, .int .i64 a] w fun e w' => e = .returned (.bool true) ∧ Below w.heap.size w w' := by
  have O := Lib.hid (fun W => ones_w x W hx)
  rw [ones_len] at O
  have LW := Lib.hid (fun W (h : Tab W) => lowest_any x W hx h)
  rw [← low_head x hx h0] at LW
  have HG := Lib.hid (fun W => highest_any x W hx)
  rw [← high_last x hx h0] at HG
  have R1 := Lib.hid (fun W => rank_any x a W hx)
  have R2 := Lib.hid (fun W => rrank_any x a W hx)
  have M1 := Lib.hid (fun W => mask_any a W)
  have M2 := Lib.hid (fun W => rmask_any a W)
  have hp := (plcs_low x.toNat (by have := hx.2; omega) (by have := hx.1; omega)).1
  have hle := plcs_len_le x.toNat 64
  have P := Lib.hid (fun W => places_some x W _ hx rfl hp)
  generalize rankI x a = r at *
  generalize maskI a = m at *
  generalize plcs x.toNat 64 = L at *
  generalize L.length = n at *
  go_enter Tryd.func4, Tryd.ntmps4
  go_wp2_with fail
  refine (P.out _).mono ?_
  rintro e w1 ⟨b, o, c, rfl, hc, hb1⟩
  have hT1 := hT.grew hb1
  have e0 := hc 0 hp
  have e1 := hc (n - 1) (by omega)
  have i1 : wrap64 ((n : Int) - 1) = (n : Int) - 1 := by unfold wrap64; omega
  have i2 : ((n : Int) - 1).toNat = n - 1 := by omega
  rw [Nat.add_zero] at e0
  generalize L.getD 0 0 = E0 at *
  generalize L.getD (n - 1) 0 = E1 at *
  clear hc
  go_wp2_with fail
  go_region
  go_wp2_with fail
  refine (worded_any _).mono ?_
  rintro e w2 ⟨rfl, hq2'⟩
  have hq2 : Quiet w1 w2 := Quiet.trans ⟨1, rfl⟩ hq2'
  go_wp2_with fail
  refine (O.out _).mono ?_
  rintro e w3 ⟨rfl, hq3⟩
  have hT3 := (hT1.quiet hq2).quiet hq3
  go_wp2_with fail
  refine (LW.out _ hT3).mono ?_
  rintro e w4 ⟨rfl, hq4⟩
  go_wp2_with fail
  refine (HG.out _).mono ?_
  rintro e w5 ⟨rfl, hq5⟩
  go_wp2_with fail
  refine (R1.out _).mono ?_
  rintro e w6 ⟨rfl, hq6⟩
  have hb6 : Below w.heap.size w w6 := hb1.trans ((((hq2.trans hq3).trans hq4).trans hq5).trans hq6).below
  go_wp2_with fail
  refine (R2.out _).mono ?_
  rintro e w7 ⟨rfl, hb7⟩
  go_wp2_with fail
  refine (M1.out _).mono ?_
  rintro e w8 ⟨rfl, hq8⟩
  go_wp2_with fail
  refine (M2.out _).mono ?_
  rintro e w9 ⟨rfl, hq9⟩
  go_wp2
  go_ret
  exact ⟨rfl, (hb6.trans (hb7.mono hb6.size)).trans (hq8.trans hq9).below⟩

theorem counts_law (x a : Int) (w : World) (w0 : (Lit.int .u64 x).wf = true) (w1 : (Lit.int .i64 a).wf = true) (hT : Tab w) :
    Calls Tryd.prog 4 #[.int .u64 x, .int .i64 a] w fun e w' => e = .returned (.bool true) ∧ Below w.heap.size w w' := by
  by_cases h0 : x = 0
  · subst h0
    exact counts_zero a w hT
  · exact counts_some x a w (wf_U64 w0) h0 hT
end Go.Proofs.YtjkfddjmldckeaaDoor
