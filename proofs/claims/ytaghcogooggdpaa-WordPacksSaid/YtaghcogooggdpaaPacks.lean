/- The walk of the law WordPacks: it returns true, whatever it is given. No condition but that each number fits its kind. -/
import Derived.Test.YtaghcogooggdpaaKept
import Derived.Test.YtaghcogooggdpaaRpack
import Derived.Test.YtaghcogooggdpaaRunpack
namespace Go.Proofs.Ytaghcogooggdpaa
open Go.RowKit
set_option linter.unusedVariables false

set_option maxHeartbeats 1000000 in
theorem words_rows (b1 o1 c1 b2 o2 c2 n : Nat) (zs : List Int) (w : World) (h0 : 0 < n) (hm : n ≤ maxLen)
    (hc1 : Hid (∀ i, i < n → w.cell? ⟨b1, o1 + i, none⟩ = some (.int .u64 (zs.getD i 0)))) (hc2 : Hid (∀ i, i < n → w.cell? ⟨b2, o2 + i, none⟩ = some (.int .u64 (zs.getD i 0)))) :
    Calls Try.prog 25 #[.slice (some ⟨b1, o1, none⟩) n c1, .slice (some ⟨b2, o2, none⟩) n c2] w fun e w' => e = .returned (.bool true) ∧ Quiet w w' := by
  unfold maxLen at hm
  have hne : ((n : Int) != (n : Int)) = false := by simp
  go_enter Try.func25, Try.ntmps25
  go_wp2
  go_loopw [5] (fun i wr => ∃ k : Nat, k ≤ n ∧ i = .int .i64 k ∧ Quiet w wr) (fun i _ => n - (intOf i).toNat)
  case atStart => exact ⟨0, Nat.zero_le _, rfl, Quiet.refl _⟩
  case round =>
    obtain ⟨k, hk, rfl, hq⟩ := hrel
    by_cases hlt : k < n
    · have e1 := (hq.cell ⟨b1, o1 + k, none⟩).trans (hc1.out k hlt)
      have e2 := (hq.cell ⟨b2, o2 + k, none⟩).trans (hc2.out k hlt)
      have hlt' : (k : Int) < (n : Int) := by omega
      have hge' : (0 : Int) ≤ (k : Int) := by omega
      generalize zs.getD k 0 = V at *
      have hv : (V != V) = false := by simp
      go_wp2
      go_quiet (fail)
      go_wp2
      go_roundw
      case rel => exact ⟨k + 1, by omega, by go_num, hq.trans Quiet.drew⟩
      case measure => simp [intOf]; omega
    · go_wp2
      go_ret
      exact ⟨rfl, hq⟩
set_option maxHeartbeats 400000 in
theorem words_none (a1 a2 : Option Addr) (c1 c2 : Nat) (w : World) :
    Calls Try.prog 25 #[.slice a1 0 c1, .slice a2 0 c2] w fun e w' => e = .returned (.bool true) ∧ Quiet w w' := by
  go_enter Try.func25, Try.ntmps25
  go_wp2
  go_loopw [5] (fun i wr => i = .int .i64 0 ∧ Quiet w wr) (fun _ _ => 0)
  case atStart => exact ⟨rfl, Quiet.refl _⟩
  case round =>
    obtain ⟨rfl, hq⟩ := hrel
    go_wp2
    go_ret
    exact ⟨rfl, hq⟩
theorem words_any (v1 v2 : Value) (zs : List Int) (w : World) (h1 : Lst .u64 w v1 zs) (h2 : Lst .u64 w v2 zs) :
    Calls Try.prog 25 #[v1, v2] w fun e w' => e = .returned (.bool true) ∧ Quiet w w' := by
  rcases h1 with ⟨rfl, a1, c1, rfl⟩ | ⟨b1, o1, c1, rfl, hp1, hm1, hc1⟩
  · rcases h2 with ⟨_, a2, c2, rfl⟩ | ⟨b2, o2, c2, rfl, hp2, _⟩
    · exact words_none a1 a2 c1 c2 w
    · exact absurd hp2 (by simp)
  · rcases h2 with ⟨rfl, a2, c2, rfl⟩ | ⟨b2, o2, c2, rfl, _, _, hc2⟩
    · exact absurd hp1 (by simp)
    · exact words_rows b1 o1 c1 b2 o2 c2 zs.length zs w hp1 hm1 hc1 hc2

def errOf (r : Option (List Int)) : Int := if r.isSome then 0 else 1
set_option maxRecDepth 100000 in
set_option maxHeartbeats 1000000 in
theorem packs_walk (a1 a2 : Option Addr) (n1 c1 n2 c2 : Nat) (vs ds : List Int) (x : Int) (w : World) (hx : U64 x) (hl1 : Lst .u64 w (.slice a1 n1 c1) vs) (hl2 : Lst .i64 w (.slice a2 n2 c2) ds) (hv : ∀ v ∈ vs, U64 v) (hm1 : n1 ≤ maxLen) (hm2 : n2 ≤ maxLen) :
    Calls Try.prog 10 #[.slice a1 n1 c1, .slice a2 n2 c2, .int .u64 x] w fun e w' => e = .returned (.bool true) ∧ Below w.heap.size w w' := by
  unfold maxLen at hm1 hm2
  have P := Lib.hid (fun W h1 h2 => pack_any (.slice a1 n1 c1) (.slice a2 n2 c2) vs ds W h1 h2 hv)
  have Q := Lib.hid (fun W h1 h2 => rpack_any (.slice a1 n1 c1) (.slice a2 n2 c2) vs ds W h1 h2 hv)
  have U : Hid (∀ W, Lst .i64 W (.slice a2 n2 c2) ds → Calls Try.prog 18 #[.int .u64 x, .slice a2 n2 c2] W fun e w' => ∃ v, e = .returned (.tuple #[v, .int .i64 (errOf (unpackL ds x 0))]) ∧ Lst .u64 w' v ((unpackL ds x 0).getD []) ∧ Below W.heap.size W w') := fun W h => unpack_any x (.slice a2 n2 c2) ds W hx h
  have V : Hid (∀ W, Lst .i64 W (.slice a2 n2 c2) ds → Calls Try.prog 24 #[.int .u64 x, .slice a2 n2 c2] W fun e w' => ∃ v, e = .returned (.tuple #[v, .int .i64 (errOf (unpackL ds x 0))]) ∧ Lst .u64 w' v ((unpackL ds x 0).getD []) ∧ Below W.heap.size W w') := fun W h => runpack_any x (.slice a2 n2 c2) ds W hx h
  generalize (packI vs ds).1 = p1 at *
  generalize (packI vs ds).2 = p2 at *
  generalize errOf (unpackL ds x 0) = g at *
  generalize (unpackL ds x 0).getD [] = zs at *
  by_cases h1 : 200 < n1
  · go_enter Try.func10, Try.ntmps10
    go_wp2_with (go_at_call 11; refine (worded_any _).mono ?_; rintro e w1 ⟨rfl, hq1⟩)
    go_ret
    exact ⟨rfl, hq1.below⟩
  · by_cases h2 : 200 < n2
    · go_enter Try.func10, Try.ntmps10
      go_wp2_with (go_at_call 11; refine (worded_any _).mono ?_; rintro e w1 ⟨rfl, hq1⟩)
      go_ret
      exact ⟨rfl, hq1.below⟩
    · go_enter Try.func10, Try.ntmps10
      go_wp2_with fail
      refine (P.out _ hl1 hl2).mono ?_
      rintro e w1 ⟨rfl, hq1⟩
      go_wp2_with fail
      refine (Q.out _ (hl1.quiet hq1) (hl2.quiet hq1)).mono ?_
      rintro e w2 ⟨rfl, hq2⟩
      have hq12 := hq1.trans hq2
      go_wp2_with fail
      refine (U.out _ (hl2.quiet hq12)).mono ?_
      rintro e w3 ⟨v3, he3, hl3, hb3⟩
      have hB3 := (hq12.below (B := w.heap.size)).trans (hb3.mono (hq12.below (B := w.heap.size)).size)
      subst he3
      go_wp2_with fail
      refine (V.out _ ((hl2.quiet hq12).below hb3)).mono ?_
      rintro e w4 ⟨v4, he4, hl4, hb4⟩
      have hB4 := hB3.trans (hb4.mono hB3.size)
      have hl34 := hl3.below hb4
      subst he4
      go_wp2_with (first | (go_at_call 11; refine (worded_any _).mono ?_; rintro e w5 ⟨rfl, hq5⟩) | (go_at_call 25; refine (words_any _ _ _ _ (hl34.quiet hq5) (hl4.quiet hq5)).mono ?_; rintro e w6 ⟨rfl, hq6⟩))
      go_ret
      exact ⟨rfl, hB4.trans (hq5.trans hq6).below⟩
theorem packs_law (a1 : Option Addr) (n1 c1 : Nat) (z1 : List Int) (a2 : Option Addr) (n2 c2 : Nat) (z2 : List Int) (x : Int) (w : World) (h1 : IsRow .u64 w a1 n1 c1 z1) (h2 : IsRow .i64 w a2 n2 c2 z2) (h3 : (Lit.int .u64 x).wf = true) :
    Calls Try.prog 10 #[.slice a1 n1 c1, .slice a2 n2 c2, .int .u64 x] w fun e w' => e = .returned (.bool true) ∧ Below w.heap.size w w' :=
  packs_walk a1 a2 n1 c1 n2 c2 (z1.take n1) (z2.take n2) x w (wf_U64 h3) h1.lst.1 h2.lst.1 (fun v hv => wf_U64 (h1.lst.2.1 v hv)) h1.lst.2.2.1 h2.lst.2.2.1
end Go.Proofs.Ytaghcogooggdpaa
