/- The law ArenaPlays. Condition: the list of calls is a list. -/
import Derived.Test.YtedccpconldkoaaPlb
namespace Go.Proofs.Ytedccpconldkoaa
open Go.RowKit
set_option linter.unusedVariables false
set_option maxRecDepth 100000 in
set_option maxHeartbeats 1000000 in
theorem plays_out (x : Int) (keep : Bool) (aa : Option Addr) (n0 c0 : Nat) (w : World) (h : x < 1 ∨ 4096 < x) :
    Calls Try.prog 3 #[.int .i64 x, .bool keep, .slice aa n0 c0] w fun e w' => e = .returned (.bool true) ∧ Below w.heap.size w w' := by
  have NO := Lib.hid (fun W => new_no x keep W h)
  rcases h with h | h
  · go_enter Try.func3, Try.ntmps3
    go_wp2_with fail
    refine (NO.out _).mono ?_
    rintro e w1 ⟨rfl, hq1⟩
    go_wp2_with fail
    refine (celled_any _).mono ?_
    rintro e w2 ⟨rfl, hb2⟩
    go_wp2
    go_ret
    exact ⟨by simp, hq1.below.trans (hb2.mono (hq1.below (B := 0)).size)⟩
  · have h1 : ¬ x < 1 := by omega
    go_enter Try.func3, Try.ntmps3
    go_wp2_with fail
    refine (NO.out _).mono ?_
    rintro e w1 ⟨rfl, hq1⟩
    go_wp2_with fail
    refine (celled_any _).mono ?_
    rintro e w2 ⟨rfl, hb2⟩
    go_wp2
    go_ret
    exact ⟨by simp, hq1.below.trans (hb2.mono (hq1.below (B := 0)).size)⟩
theorem plays_law (x : Int) (keep : Bool) (a : Option Addr) (len cap : Nat) (F : Nat → Nat → Int) (w : World) (h1 : (Lit.int .i64 x).wf = true) (h : RowS 5 (fun j => ([.i64, .i64, .i64, .u64, .u64] : List IntKind).getD j .i64) w a len cap F) :
    Calls Try.prog 3 #[.int .i64 x, .bool keep, .slice a len cap] w fun e w' => e = .returned (.bool true) ∧ Below w.heap.size w w' := by
  obtain ⟨hm, hr⟩ := h
  by_cases hn : x < 1 ∨ 4096 < x
  · exact plays_out x keep a len cap w hn
  · obtain ⟨n, rfl⟩ := Int.eq_ofNat_of_zero_le (show 0 ≤ x by omega)
    have h1n : 1 ≤ n := by omega
    have h2n : n ≤ 4096 := by omega
    rcases hr with rfl | ⟨b2, o2, rfl, hlt, hc2⟩
    · exact plays_walk n keep a 0 cap F w h1n h2n hm 0 0 (Lib.hid (fun h => absurd h (by decide))) (Lib.hid (fun i hi => absurd hi (by omega)))
    · exact plays_walk n keep _ len cap F w h1n h2n hm b2 o2 (Lib.hid (fun _ => ⟨rfl, hlt⟩)) (Lib.hid (fun i hi j hj => (hc2 i hi j hj).1))
end Go.Proofs.Ytedccpconldkoaa
