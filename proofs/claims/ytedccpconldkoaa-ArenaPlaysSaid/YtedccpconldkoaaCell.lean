/- The walks of celled and of the law ArenaPorts: they return true, whatever is given. No condition but that each number fits its kind. -/
import Derived.Test.YtedccpconldkoaaClon
namespace Go.Proofs.Ytedccpconldkoaa
open Go.RowKit
theorem Touch.belowL {B a c p : Nat} {lv : Value} {w w' : World} (h : Touch (fun b => b = a ∨ b = c ∨ b = p ∨ lv.ownBlock = some b) w w') (hB : B ≤ w.heap.size) (h1 : B ≤ a) (h2 : B ≤ c) (h3 : B ≤ p) (h4 : ∀ g, lv.ownBlock = some g → B ≤ g) : Below B w w' :=
  h.below hB (fun k hk => hk.elim (fun e => e ▸ h1) (fun hk => hk.elim (fun e => e ▸ h2) (fun hk => hk.elim (fun e => e ▸ h3) (h4 k))))
theorem Touch.belowF {B a p : Nat} {w w' : World} (h : Touch (fun b => b = a ∨ b = p) w w') (hB : B ≤ w.heap.size) (h1 : B ≤ a) (h3 : B ≤ p) : Below B w w' :=
  h.below hB (fun _ hk => hk.elim (fun e => e ▸ h1) (fun e => e ▸ h3))
theorem Touch.belowP {B a c p : Nat} {w w' : World} (h : Touch (fun b => b = a ∨ b = c ∨ b = p) w w') (hB : B ≤ w.heap.size) (h1 : B ≤ a) (h2 : B ≤ c) (h3 : B ≤ p) : Below B w w' :=
  h.below hB (fun _ hk => hk.elim (fun e => e ▸ h1) (fun hk => hk.elim (fun e => e ▸ h2) (fun e => e ▸ h3)))
theorem own_none (B : Nat) : ∀ g, (Value.slice none 0 0).ownBlock = some g → B ≤ g := fun g h => by simp [Value.ownBlock] at h
set_option maxRecDepth 100000 in
set_option maxHeartbeats 2000000 in
theorem celled_any (w : World) : Calls Try.prog 5 #[] w fun e w' => e = .returned (.bool true) ∧ Below w.heap.size w w' := by
  go_enter Try.func5, Try.ntmps5
  go_wp2_with fail
  refine (new_yes 2 true _ (by decide) (by decide)).mono ?_
  rintro e w1 ⟨a, c, rfl, hA1, ha, hc, hb1⟩
  have lA := hA1.lt
  have hs1 := hb1.size
  go_wp2_with fail
  refine (port_yes a 3 _ (by decide) (by decide)).mono ?_
  rintro e w2 ⟨p, rfl, hP2, hp, hb2⟩
  have hA2 := hA1.grew hb2
  have hL2 : ArenaL w2 w.heap.size a c (List.replicate 2 0) (.slice none 0 0) [] 0 0 := ⟨hA2, World.ownsRow_nil _ _ _ _, by simp [Value.ownBlock], by simp [Value.ownBlock]⟩
  have hpa : p ≠ a := by omega
  have hpc : p ≠ c := by omega
  have hB2 : Below w.heap.size w w2 := hb1.trans (hb2.mono hb1.size)
  clear hA1 hA2 hb1 hb2
  go_wp2_with fail
  refine (grant_at p a 3 false _ hP2).mono ?_
  rintro e w3 ⟨⟨v3, rfl⟩, hP3, hT3⟩
  have hL3 := hL2.touch hT3 (Ne.symm hpa) (Ne.symm hpc) (by simp [Value.ownBlock])
  have hB3 := hB2.trans (hT3.below hB2.size (fun k hk => by omega))
  clear hL2 hP2 hB2 hT3
  go_wp2_with fail
  have T4 := or_log w.heap.size a c p _ _ [] 0 0 3 1 6 _ hL3 hP3 hpa hpc (by simp [Value.ownBlock]) hB3.size (by decide) (by decide)
  rw [show (List.replicate 2 (0 : Int)).getD 1 0 = 0 from rfl] at T4
  refine T4.mono ?_
  rintro e w4 ⟨rfl, lv4, hL4, hP4, hg4, hT4⟩
  have hB4 := hB3.trans (hT4.belowL hB3.size ha hc (by omega) (own_none _))
  have hpl : lv4.ownBlock ≠ some p := fun e => by
    rcases hg4 p e with h | h
    · simp [Value.ownBlock] at h
    · have := hP3.lt; omega
  go_wp2_with fail
  refine (or_fault a c p _ true lv4 _ _ false 3 1 1 _ hL4.at' hP4 hpa hpc (by decide) (by decide) (.inl rfl)).mono ?_
  rintro e w5 ⟨rfl, hA5, hP5, hT5⟩
  have hB5 := hB4.trans (hT5.belowF hB4.size ha (by omega))
  go_wp2_with fail
  have T6 := peek_yes 1 hA5 (by decide) (by decide)
  rw [show ((List.replicate 2 (0 : Int)).set 1 (leftI 5 ((List.replicate 2 0).getD 1 0) 0 6)).getD 1 0 = 6 from by decide] at T6
  refine T6.mono ?_
  rintro e w6 ⟨rfl, hq6⟩
  have hA6 := hA5.quiet hq6
  have TC := Lib.hid (fun W (h : Quiet w6 W) => count_at (hA6.quiet h))
  have TF := Lib.hid (fun W (h : Quiet w6 W) => faults_at (hA6.quiet h))
  go_wp2_with (first | (go_at_call 10; refine (TC.out _ (Quiet.refl _)).mono ?_; rintro e w7 ⟨rfl, hq7⟩) | (go_at_call 9; refine (TF.out _ hq7).mono ?_; rintro e w8 ⟨rfl, hq8⟩))
  go_ret
  exact ⟨rfl, (hB5.trans hq6.below).trans (hq7.trans hq8).below⟩
end Go.Proofs.Ytedccpconldkoaa
