/- MaskNexts: the walk of the whole. Conditions: the argument is a list of words, the table of math/bits lies as the start lays it. -/
import Derived.Test.YtalhlbedgkhijaaDoorMnxn
import Derived.Test.YtalhlbedgkhijaaDoorMfin
import Derived.Test.YtalhlbedgkhijaaDoorMcoun
namespace Go.Proofs.YtalhlbedgkhijaaDoor
open Go.RowKit
set_option linter.unusedVariables false

theorem wf_I64 {x : Int} (h : (Lit.int .i64 x).wf = true) : -9223372036854775808 ≤ x ∧ x < 9223372036854775808 := by
  simp [Lit.wf, IntKind.min, IntKind.max, IntKind.signed, IntKind.bits] at h
  exact ⟨by omega, by omega⟩
set_option maxRecDepth 100000 in
set_option maxHeartbeats 4000000 in
theorem nexts_walk (na ca : Nat) (aa : Option Addr) (l : List Int) (fr n : Int) (w : World) (ha : LstAll w (.slice aa na ca) l) (h1 : na ≤ 8) (hl8 : l.length = na) (hx : fr < 9223372036854775808) (hy : n < 9223372036854775808) (hT : Tab w) :
    Calls Tryd.prog 10 #[.slice aa na ca, .int .i64 fr, .int .i64 n] w fun e w' => e = .returned (.bool true) ∧ Below w.heap.size w w' := by
  have h1' : ¬ (8 : Int) < (na : Int) := by omega
  have LA := Lib.hid (fun W (h : Below w.heap.size w W) => ha.grew h)
  have UA := Lib.hid ha.2
  have TA := Lib.hid (fun W (h : Below w.heap.size w W) => hT.grew h)
  have MY := Lib.hid (masked_yes w hT)
  have hF : ((fr.toNat : Nat) : Int) = max fr 0 := by omega
  have hF2 : fr.toNat < 9223372036854775808 := by omega
  have N1 := next_has ha.2.1 fr.toNat
  have N2 := clear_has ha.2.1 fr.toNat
  have C1 := Lib.hid (fun W (h : Below w.heap.size w W) => next_any _ l fr fr.toNat W (ha.grew h).1 (by have := ha.2.2; omega) ha.2.1 (hT.grew h) hF hF2)
  have C2 := Lib.hid (fun W (h : Below w.heap.size w W) => rnext_any _ l fr fr.toNat W (ha.grew h).1 ha.2.1 (by have := ha.2.2; omega) hF hF2)
  have C3 := Lib.hid (fun W (h : Below w.heap.size w W) => clear_any _ l fr fr.toNat W (ha.grew h).1 (by have := ha.2.2; omega) ha.2.1 (hT.grew h) hF hF2)
  have C4 := Lib.hid (fun W (h : Below w.heap.size w W) => rclear_any _ l fr fr.toNat W (ha.grew h).1 ha.2.1 (by have := ha.2.2; omega) hF hF2)
  have C56 : Hid (∃ V, (∀ W, Below w.heap.size w W → Calls Tryd.prog 23 #[.slice aa na ca, .int .i64 n] W fun e w' => e = .returned (.int .i64 V) ∧ Below W.heap.size W w') ∧ (∀ W, Below w.heap.size w W → Calls Tryd.prog 36 #[.slice aa na ca, .int .i64 n] W fun e w' => e = .returned (.int .i64 V) ∧ Quiet W w')) := by
    by_cases hn : n < 1
    · exact ⟨0, fun W h => fit_small _ n W hn, fun W h => rfit_small _ n W hn⟩
    · refine ⟨rfitI (hasP l) n (64 * l.length) 0 0, fun W h => ?_, fun W h => rfit_big _ l n W (ha.grew h).1 ha.2.1 (by have := ha.2.2; omega) (by omega)⟩
      rw [← fit_num l n (by omega)]
      exact fit_big _ l n W (ha.grew h).1 ha.2.2 ha.2.1 (hT.grew h) (by omega) hy
  obtain ⟨V, C5, C6⟩ := C56.out
  have C5 := Lib.hid C5
  have C6 := Lib.hid C6
  rw [N1] at C1
  rw [N2] at C3
  clear ha h1 hT hl8 N1 N2 hF hF2 C56 hx hy
  generalize rnextI (hasP l) (64 * l.length - fr.toNat) fr.toNat = V1 at *
  generalize rnextI (fun p => !hasP l p) (64 * l.length - fr.toNat) fr.toNat = V2 at *
  go_enter Tryd.func10, Tryd.ntmps10
  go_wp2_with fail
  refine MY.out.mono ?_
  rintro e w0 ⟨rfl, b0⟩
  go_wp2_with fail
  refine (C1.out _ b0).mono ?_
  rintro e w1 ⟨rfl, q1⟩
  have b1 := b0.trans q1.below
  go_wp2_with fail
  refine (C2.out _ b1).mono ?_
  rintro e w2 ⟨rfl, q2⟩
  have b2 := b1.trans q2.below
  go_wp2_with fail
  refine (C3.out _ b2).mono ?_
  rintro e w3 ⟨rfl, q3⟩
  have b3 := b2.trans q3.below
  go_wp2_with fail
  refine (C4.out _ b3).mono ?_
  rintro e w4 ⟨rfl, q4⟩
  have b4 := b3.trans q4.below
  go_wp2_with fail
  refine (C5.out _ b4).mono ?_
  rintro e w5 ⟨rfl, c5⟩
  have b5 := b4.trans (c5.mono b4.size)
  go_wp2_with fail
  refine (C6.out _ b5).mono ?_
  rintro e w6 ⟨rfl, q6⟩
  go_wp2
  go_ret
  exact ⟨by simp, b5.trans q6.below⟩
set_option maxRecDepth 100000 in
set_option maxHeartbeats 1000000 in
theorem nexts_law (a0 : Option Addr) (n0 c0 : Nat) (z0 : List Int) (fr n : Int) (w : World) (h0 : IsRow .u64 w a0 n0 c0 z0) (h1 : (Lit.int .i64 fr).wf = true) (h2 : (Lit.int .i64 n).wf = true) (hT : Tab w) :
    Calls Tryd.prog 10 #[.slice a0 n0 c0, .int .i64 fr, .int .i64 n] w fun e w' => e = .returned (.bool true) ∧ Below w.heap.size w w' := by
  by_cases k0 : n0 ≤ 8
  · exact nexts_walk n0 c0 a0 _ fr n w (row_all h0 k0).1 k0 (row_all h0 k0).2 (wf_I64 h1).2 (wf_I64 h2).2 hT
  · have k0' : (8 : Int) < (n0 : Int) := by omega
    have MY := Lib.hid (masked_yes w hT)
    clear h0 h1 h2 hT k0
    go_enter Tryd.func10, Tryd.ntmps10
    go_wp2_with fail
    refine MY.out.mono ?_
    rintro e w0 ⟨rfl, b0⟩
    go_wp2
    go_ret
    exact ⟨rfl, b0⟩
end Go.Proofs.YtalhlbedgkhijaaDoor
