/- MaskRoom: the walk of the whole. Conditions: the argument is a list of words, the table of math/bits lies as the start lays it. -/
import Derived.Test.YtalhlbedgkhijaaDoorMnexl
import Derived.Test.YtalhlbedgkhijaaDoorMadds
namespace Go.Proofs.YtalhlbedgkhijaaDoor
open Go.RowKit
set_option linter.unusedVariables false

theorem rfit_spec (n : Nat) (hn : 1 ≤ n) (h : Nat → Bool) : ∀ (d i f : Nat), f ≤ i → (∀ j, j < f → h (i - f + j) = false) → (f = i ∨ h (i - f - 1) = true) → f < n →
    rfitI h n d i f = -1 ∨ ∃ s : Nat, rfitI h n d i f = (s : Int) ∧ s + n ≤ i + d ∧ (∀ j, j < n → h (s + j) = false) ∧ (s = 0 ∨ h (s - 1) = true)
  | 0, i, f, _, _, _, _ => .inl rfl
  | d + 1, i, f, hf, h1, h2, h3 => by
    simp only [rfitI]
    cases hb : h i with
    | true =>
      simp only [if_true]
      rw [if_neg (by simp; omega)]
      rcases rfit_spec n hn h d (i + 1) 0 (by omega) (fun j hj => by omega) (.inr (by simpa using hb)) (by omega) with e | ⟨s, e1, e2, e3⟩
      · exact .inl e
      · exact .inr ⟨s, e1, by omega, e3⟩
    | false =>
      simp only [Bool.false_eq_true, if_false]
      have hall : ∀ j, j < f + 1 → h (i + 1 - (f + 1) + j) = false := fun j hj => by
        rw [show i + 1 - (f + 1) + j = i - f + j by omega]
        by_cases e : j = f
        · subst e; rw [show i - j + j = i by omega]; exact hb
        · exact h1 j (by omega)
      by_cases he : ((f + 1 : Nat) : Int) = (n : Int)
      · rw [if_pos he]
        refine .inr ⟨i - f, by omega, by omega, fun j hj => ?_, ?_⟩
        · have := hall j (by omega)
          rwa [show i + 1 - (f + 1) + j = i - f + j by omega] at this
        · rcases h2 with e | e
          · exact .inl (by omega)
          · exact .inr e
      · rw [if_neg he]
        rcases rfit_spec n hn h d (i + 1) (f + 1) (by omega) hall (by
          rcases h2 with e | e
          · exact .inl (by omega)
          · exact .inr (by rw [show i + 1 - (f + 1) - 1 = i - f - 1 by omega]; exact e)) (by omega) with e | ⟨s, e1, e2, e3⟩
        · exact .inl e
        · exact .inr ⟨s, e1, by omega, e3⟩
theorem hasB_P {l : List Int} (hU : ∀ z ∈ l, U64 z) (p : Nat) : hasB l p = hasP l p := hasB_tb hU p
theorem mod_plus (x : Int) : ∃ N : Nat, 1 ≤ N ∧ N ≤ 200 ∧ wrap64 (1 + wrap64 ((IntKind.u64.wrap x).tmod 200)) = N := by
  obtain ⟨j, hj, HJ⟩ := mod_small x 200 (by decide) (by decide)
  rw [show ((200 : Nat) : Int) = 200 from rfl] at HJ
  refine ⟨1 + j, by omega, by omega, ?_⟩
  rw [HJ, IntWalk.wrap64_in _ ⟨by omega, by omega⟩]
  omega
set_option maxRecDepth 100000 in
set_option maxHeartbeats 4000000 in
theorem room_walk (na ca : Nat) (aa : Option Addr) (l : List Int) (x : Int) (w : World) (ha : LstAll w (.slice aa na ca) l) (h1 : na ≤ 8) (hl8 : l.length = na) (hT : Tab w) :
    Calls Tryd.prog 5 #[.slice aa na ca, .int .i64 x] w fun e w' => e = .returned (.bool true) ∧ Below w.heap.size w w' := by
  have h1' : ¬ (8 : Int) < (na : Int) := by omega
  have MY := Lib.hid (masked_yes w hT)
  obtain ⟨n, hn0, hn1, hne⟩ := mod_plus x
  have C5 := Lib.hid (fun W (h : Below w.heap.size w W) => fit_big _ l (n : Int) W (ha.grew h).1 ha.2.2 ha.2.1 (hT.grew h) (by omega) (by omega))
  have HA := Lib.hid (fun p W (h : Below w.heap.size w W) (hp : p < 1000000) => has_any _ l p W (ha.grew h).1 hp)
  rw [fit_num l n (by omega)] at C5
  have HP := Lib.hid (fun p => hasB_P ha.2.1 p)
  have S := rfit_spec n hn0 (hasP l) (64 * l.length) 0 0 (Nat.le_refl _) (fun j hj => by omega) (.inl rfl) (by omega)
  have HNE := Lib.hid hne
  rw [hl8] at C5 S
  clear ha hT hl8 hne
  generalize hV : rfitI (hasP l) (n : Int) (64 * na) 0 0 = V at *
  have HV := Lib.hid hV
  clear hV
  go_enter Tryd.func5, Tryd.ntmps5
  go_wp2_with fail
  refine MY.out.mono ?_
  rintro e w0 ⟨rfl, b0⟩
  go_wp2_with fail
  rw [HNE.out]
  refine (C5.out _ b0).mono ?_
  rintro e w1 ⟨rfl, c1⟩
  have b1 := b0.trans (c1.mono b0.size)
  clear b0 c1 MY HNE C5
  rcases S with rfl | ⟨s, rfl, hs1, hs2, hs3⟩
  · go_wp2
    go_loopw [6, 7] (fun g i wr => ∃ I f : Nat, i = .int .i64 I ∧ g = .int .i64 f ∧ f ≤ I ∧ Hid (rfitI (hasP l) n (64 * na - I) I f = -1) ∧ Below w.heap.size w wr) (fun _ i _ => 64 * na - (intOf i).toNat)
    case atStart => exact ⟨0, 0, rfl, rfl, Nat.le_refl _, HV, b1⟩
    case round =>
      obtain ⟨I, f, rfl, rfl, hf, hE, hQ⟩ := hrel
      by_cases hlt : I < 64 * na
      · have h2 : (I : Int) < 64 * (na : Int) := by omega
        have hf1 : (f : Int) + 1 < 300000 := by omega
        have hf0 : (0 : Int) ≤ (f : Int) := by omega
        have hI1 : (I : Int) + 1 < 300000 := by omega
        have hE2 := hE.out
        rw [show 64 * na - I = (64 * na - (I + 1)) + 1 by omega] at hE2
        unfold rfitI at hE2
        have HE2 := Lib.hid hE2
        have HAI := Lib.hid (HA.out I wr hQ (by omega))
        rw [HP.out] at HAI
        clear hE hE2
        go_wp2_with fail
        refine HAI.out.mono ?_
        rintro e w2 ⟨rfl, q2⟩
        have b2 := hQ.trans q2.below
        clear HAI
        cases hb : hasP l I with
        | true =>
          have HE3 := HE2.out
          simp only [hb, if_true] at HE3
          rw [if_neg (by simp; omega)] at HE3
          have HE4 := Lib.hid HE3
          have hz : (0 == (n : Int)) = false := by simp; omega
          clear HE2 HE3
          go_wp2
          go_roundw
          case rel => exact ⟨I + 1, 0, by go_num, rfl, Nat.zero_le _, HE4, b2⟩
          case measure => simp [intOf]; omega
        | false =>
          have HE3 := HE2.out
          simp only [hb, Bool.false_eq_true, if_false] at HE3
          by_cases he : ((f + 1 : Nat) : Int) = n
          · exfalso
            rw [if_pos he] at HE3
            omega
          · rw [if_neg he] at HE3
            have HE4 := Lib.hid HE3
            have hz : ((f : Int) + 1 == (n : Int)) = false := by simp; omega
            clear HE2 HE3
            go_wp2
            go_roundw
            case rel => exact ⟨I + 1, f + 1, by go_num, by go_num, by omega, HE4, b2⟩
            case measure => simp [intOf]; omega
      · have h2 : ¬ (I : Int) < 64 * (na : Int) := by omega
        clear hE
        go_wp2
        go_ret
        exact ⟨rfl, hQ⟩
  · have HS := Lib.hid (And.intro hs2 hs3)
    have hsn : ¬ (s : Int) < 0 := by omega
    have hsb : (s : Int) + (n : Int) < 10000 := by omega
    have hs0 : (0 : Int) ≤ (s : Int) := by omega
    clear hs2 hs3
    go_wp2
    go_loopw [8] (fun i wr => ∃ j : Nat, j ≤ n ∧ i = .int .i64 ((s + j : Nat) : Int) ∧ Below w.heap.size w wr) (fun i _ => s + n - (intOf i).toNat)
    case atStart => exact ⟨0, Nat.zero_le _, rfl, b1⟩
    case round =>
      obtain ⟨j, hj, rfl, hQ⟩ := hrel
      by_cases hlt : j < n
      · have h2 : ((s + j : Nat) : Int) < (s : Int) + (n : Int) := by omega
        have h3 : ¬ (64 * (na : Int) ≤ ((s + j : Nat) : Int)) := by omega
        have h4 : ((s + j : Nat) : Int) + 1 < 20000 := by omega
        have HAI := Lib.hid (HA.out (s + j) wr hQ (by omega))
        rw [HP.out, HS.out.1 j hlt] at HAI
        generalize hp : s + j = p at *
        go_wp2_with fail
        refine HAI.out.mono ?_
        rintro e w2 ⟨rfl, q2⟩
        clear HAI
        go_wp2
        go_roundw
        case rel => exact ⟨j + 1, by omega, by rw [← Nat.add_assoc, hp]; go_num, hQ.trans q2.below⟩
        case measure => simp [intOf]; omega
      · have h2 : ¬ ((s + j : Nat) : Int) < (s : Int) + (n : Int) := by omega
        by_cases hs : s = 0
        · have hz : ((s : Int) == 0) = true := by simp [hs]
          go_wp2
          go_ret
          exact ⟨by simp, hQ⟩
        · have hz : ((s : Int) == 0) = false := by simp; omega
          have hh : hasP l (s - 1) = true := HS.out.2.resolve_left hs
          have HAI := Lib.hid (HA.out (s - 1) wr hQ (by omega))
          rw [HP.out, hh] at HAI
          have hm : wrap64 ((s : Int) - 1) = ((s - 1 : Nat) : Int) := by unfold wrap64; omega
          have hm2 : (s : Int) - 1 = ((s - 1 : Nat) : Int) := by omega
          go_wp2_with fail
          refine HAI.out.mono ?_
          rintro e w2 ⟨rfl, q2⟩
          go_wp2
          go_ret
          exact ⟨by simp, hQ.trans q2.below⟩
set_option maxRecDepth 100000 in
set_option maxHeartbeats 1000000 in
theorem room_law (a0 : Option Addr) (n0 c0 : Nat) (z0 : List Int) (x : Int) (w : World) (h0 : IsRow .u64 w a0 n0 c0 z0) (h1 : (Lit.int .i64 x).wf = true) (hT : Tab w) :
    Calls Tryd.prog 5 #[.slice a0 n0 c0, .int .i64 x] w fun e w' => e = .returned (.bool true) ∧ Below w.heap.size w w' := by
  by_cases k0 : n0 ≤ 8
  · exact room_walk n0 c0 a0 _ x w (row_all h0 k0).1 k0 (row_all h0 k0).2 hT
  · have k0' : (8 : Int) < (n0 : Int) := by omega
    have MY := Lib.hid (fun W (h : Below w.heap.size w W) => masked_yes W (hT.grew h))
    clear h0 h1 hT k0
    go_enter Tryd.func5, Tryd.ntmps5
    go_wp2_with fail
    refine (MY.out w (Below.refl _ _)).mono ?_
    rintro e w0 ⟨rfl, b0⟩
    go_wp2_with fail
    refine (MY.out w0 b0).mono ?_
    rintro e w1 ⟨rfl, b1⟩
    go_wp2
    go_ret
    exact ⟨rfl, b0.trans (b1.mono b0.size)⟩
end Go.Proofs.YtalhlbedgkhijaaDoor
