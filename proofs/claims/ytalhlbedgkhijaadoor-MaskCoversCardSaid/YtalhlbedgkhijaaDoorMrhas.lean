/- What the document's Has, Next, Clear and Fit of a set return, at every list. Condition: the list is short. -/
import Derived.Test.YtalhlbedgkhijaaDoorMnum
import Derived.Test.YtalhlbedgkhijaaDoorMof
import Derived.Test.YtalhlbedgkhijaaDoorPlaces
namespace Go.Proofs.YtalhlbedgkhijaaDoor
open Go.RowKit
set_option linter.unusedVariables false

def hasP (l : List Int) (p : Nat) : Bool := tbI (l.getD (p / 64) 0) (p % 64)
theorem hasP_out {l : List Int} {p : Nat} (h : 64 * l.length ≤ p) : hasP l p = false := by
  unfold hasP
  rw [show l.getD (p / 64) 0 = 0 by simp [List.getD_eq_getElem?_getD, show ¬ p / 64 < l.length by omega], tb_zero]
set_option maxHeartbeats 400000 in
theorem rend_any (a : Option Addr) (n c : Nat) (w : World) (h : n ≤ 1000000) :
    Calls Tryd.prog 55 #[.slice a n c] w fun e w' => e = .returned (.int .i64 (64 * (n : Int))) ∧ Quiet w w' := by
  go_enter Tryd.func55, Tryd.ntmps55
  go_wp2
  go_ret
  exact ⟨rfl, Quiet.refl _⟩
set_option maxRecDepth 100000 in
set_option maxHeartbeats 1000000 in
theorem rhas_any (v : Value) (l : List Int) (p : Nat) (w : World) (h : Lst .u64 w v l) (hU : ∀ z ∈ l, U64 z) (hm : l.length ≤ 4096) (hp : p < 1000000) :
    Calls Tryd.prog 29 #[v, .int .i64 p] w fun e w' => e = .returned (.bool (hasP l p)) ∧ Quiet w w' := by
  obtain ⟨a, cap, rfl, hc⟩ := lst_form h
  have EN := Lib.hid (fun W => rend_any a l.length cap W (by omega))
  have hp0 : (0 : Int) ≤ (p : Int) := by omega
  have hpn : ¬ (p : Int) < 0 := by omega
  by_cases hlt : p < 64 * l.length
  · have h1 : ¬ (64 * (l.length : Int) ≤ (p : Int)) := by omega
    obtain ⟨b, o, rfl, hcell⟩ := hc (by omega)
    have hk : p / 64 < l.length := by omega
    have hck := hcell (p / 64) hk
    have hU1 := hU (l.getD (p / 64) 0) (by rw [getD_in l _ hk]; exact List.getElem_mem hk)
    have hv : hasP l p = tbI (l.getD (p / 64) 0) (p % 64) := rfl
    rw [hv]
    have hq : (p : Int) / 64 = ((p / 64 : Nat) : Int) := by omega
    have hr : (p : Int) % 64 = ((p % 64 : Nat) : Int) := by omega
    have hkl : ((p / 64 : Nat) : Int) < (l.length : Int) := by omega
    have hk0 : (0 : Int) ≤ ((p / 64 : Nat) : Int) := by omega
    have hr64 : p % 64 < 64 := Nat.mod_lt _ (by decide)
    have hwq : wrap64 ((p / 64 : Nat) : Int) = ((p / 64 : Nat) : Int) := by unfold wrap64; omega
    generalize l.getD (p / 64) 0 = z at *
    generalize p / 64 = q at *
    generalize p % 64 = r at *
    have B := Lib.hid (fun W => bit_any z r W hU1 (by omega))
    clear hc hcell h hU hv
    go_enter Tryd.func29, Tryd.ntmps29
    go_wp2_with fail
    refine (EN.out _).mono ?_
    rintro e w1 ⟨rfl, q1⟩
    have hck1 := (q1.cell _).trans hck
    go_wp2_with fail
    refine (B.out _).mono ?_
    rintro e w2 ⟨rfl, q2⟩
    go_wp2
    go_ret
    refine ⟨?_, q1.trans q2⟩
    unfold bitI tbI
    rw [Int.toNat_natCast]
    cases z.toNat.testBit r <;> rfl
  · have h1 : (64 * (l.length : Int) ≤ (p : Int)) := by omega
    rw [hasP_out (by omega)]
    clear hc h hU
    go_enter Tryd.func29, Tryd.ntmps29
    go_wp2_with fail
    refine (EN.out _).mono ?_
    rintro e w1 ⟨rfl, q1⟩
    go_wp2
    go_ret
    exact ⟨rfl, q1⟩
/-- the first one of many numbers -/
def rnextI (h : Nat → Bool) : Nat → Nat → Int
  | 0, _ => -1
  | d + 1, i => if h i then (i : Int) else rnextI h d (i + 1)
set_option maxRecDepth 100000 in
set_option maxHeartbeats 2000000 in
theorem rnext_any (v : Value) (l : List Int) (fr : Int) (F : Nat) (w : World) (h : Lst .u64 w v l) (hU : ∀ z ∈ l, U64 z) (hm : l.length ≤ 4096) (hF : (F : Int) = max fr 0) (hF2 : F < 9223372036854775808) :
    Calls Tryd.prog 33 #[v, .int .i64 fr] w fun e w' => e = .returned (.int .i64 (rnextI (hasP l) (64 * l.length - F) F)) ∧ Quiet w w' := by
  obtain ⟨a, cap, rfl, hc⟩ := lst_form h
  have EN := Lib.hid (fun W => rend_any a l.length cap W (by omega))
  have HA := Lib.hid (fun p W (hq : Quiet w W) (hp : p < 1000000) => rhas_any _ l p W (h.quiet hq) hU hm hp)
  have hF0 : (0 : Int) ≤ (F : Int) := by omega
  have HE : Hid (rnextI (hasP l) (64 * l.length - F) F = rnextI (hasP l) (64 * l.length - F) F) := Lib.hid rfl
  generalize hV : rnextI (hasP l) (64 * l.length - F) F = V at *
  have HV := Lib.hid hV
  clear hV h hc hU HE
  have fin : ∀ {Q : Exit → Act → World → Prop}, True := fun {_} => trivial
  by_cases hneg : fr < 0
  · have hFz : F = 0 := by omega
    subst hFz
    clear hF hF2
    go_enter Tryd.func33, Tryd.ntmps33
    go_wp2
    go_loopw [5] (fun i wr => ∃ I : Nat, i = .int .i64 I ∧ Hid (rnextI (hasP l) (64 * l.length - I) I = V) ∧ Quiet w wr) (fun i _ => 64 * l.length - (intOf i).toNat)
    case atStart => exact ⟨0, rfl, HV, Quiet.refl _⟩
    case round =>
      obtain ⟨I, rfl, hE, hQ⟩ := hrel
      go_wp2_with fail
      refine (EN.out _).mono ?_
      rintro e w1 ⟨rfl, q1⟩
      by_cases hlt : I < 64 * l.length
      · have h1 : (I : Int) < 64 * (l.length : Int) := by omega
        have hE2 := hE.out
        rw [show 64 * l.length - I = (64 * l.length - (I + 1)) + 1 by omega] at hE2
        unfold rnextI at hE2
        have HE2 := Lib.hid hE2
        clear hE hE2
        go_wp2_with fail
        refine (HA.out I _ (hQ.trans q1) (by omega)).mono ?_
        rintro e w2 ⟨rfl, q2⟩
        cases hb : hasP l I with
        | true =>
          have HE3 := HE2.out
          rw [hb] at HE3
          have HE4 := Lib.hid HE3
          clear HE2 HE3
          go_wp2
          go_ret
          exact ⟨by rw [← HE4.out]; rfl, (hQ.trans q1).trans q2⟩
        | false =>
          have HE3 := HE2.out
          rw [hb] at HE3
          have HE4 := Lib.hid HE3
          clear HE2 HE3
          go_wp2
          go_roundw
          case rel => exact ⟨I + 1, by go_num, HE4, (hQ.trans q1).trans q2⟩
          case measure => simp [intOf]; omega
      · have h1 : ¬ (I : Int) < 64 * (l.length : Int) := by omega
        have hE2 := hE.out
        rw [show 64 * l.length - I = 0 by omega] at hE2
        have HE2 := Lib.hid hE2
        clear hE hE2
        go_wp2
        go_ret
        exact ⟨by rw [← HE2.out]; rfl, hQ.trans q1⟩
  · have hFe : fr = (F : Int) := by omega
    subst hFe
    have hneg' : ¬ (F : Int) < 0 := hneg
    have hF1 : (F : Int) < 9223372036854775808 := by omega
    clear hF hF2
    go_enter Tryd.func33, Tryd.ntmps33
    go_wp2
    clear hF1
    go_loopw [5] (fun i wr => ∃ I : Nat, i = .int .i64 I ∧ Hid (rnextI (hasP l) (64 * l.length - I) I = V) ∧ Quiet w wr) (fun i _ => 64 * l.length - (intOf i).toNat)
    case atStart => exact ⟨F, rfl, HV, Quiet.refl _⟩
    case round =>
      obtain ⟨I, rfl, hE, hQ⟩ := hrel
      go_wp2_with fail
      refine (EN.out _).mono ?_
      rintro e w1 ⟨rfl, q1⟩
      by_cases hlt : I < 64 * l.length
      · have h1 : (I : Int) < 64 * (l.length : Int) := by omega
        have hE2 := hE.out
        rw [show 64 * l.length - I = (64 * l.length - (I + 1)) + 1 by omega] at hE2
        unfold rnextI at hE2
        have HE2 := Lib.hid hE2
        clear hE hE2
        go_wp2_with fail
        refine (HA.out I _ (hQ.trans q1) (by omega)).mono ?_
        rintro e w2 ⟨rfl, q2⟩
        cases hb : hasP l I with
        | true =>
          have HE3 := HE2.out
          rw [hb] at HE3
          have HE4 := Lib.hid HE3
          clear HE2 HE3
          go_wp2
          go_ret
          exact ⟨by rw [← HE4.out]; rfl, (hQ.trans q1).trans q2⟩
        | false =>
          have HE3 := HE2.out
          rw [hb] at HE3
          have HE4 := Lib.hid HE3
          clear HE2 HE3
          go_wp2
          go_roundw
          case rel => exact ⟨I + 1, by go_num, HE4, (hQ.trans q1).trans q2⟩
          case measure => simp [intOf]; omega
      · have h1 : ¬ (I : Int) < 64 * (l.length : Int) := by omega
        have hE2 := hE.out
        rw [show 64 * l.length - I = 0 by omega] at hE2
        have HE2 := Lib.hid hE2
        clear hE hE2
        go_wp2
        go_ret
        exact ⟨by rw [← HE2.out]; rfl, hQ.trans q1⟩
set_option maxRecDepth 100000 in
set_option maxHeartbeats 2000000 in
theorem rclear_any (v : Value) (l : List Int) (fr : Int) (F : Nat) (w : World) (h : Lst .u64 w v l) (hU : ∀ z ∈ l, U64 z) (hm : l.length ≤ 4096) (hF : (F : Int) = max fr 0) (hF2 : F < 9223372036854775808) :
    Calls Tryd.prog 35 #[v, .int .i64 fr] w fun e w' => e = .returned (.int .i64 (rnextI (fun p => !hasP l p) (64 * l.length - F) F)) ∧ Quiet w w' := by
  obtain ⟨a, cap, rfl, hc⟩ := lst_form h
  have EN := Lib.hid (fun W => rend_any a l.length cap W (by omega))
  have HA := Lib.hid (fun p W (hq : Quiet w W) (hp : p < 1000000) => rhas_any _ l p W (h.quiet hq) hU hm hp)
  have hF0 : (0 : Int) ≤ (F : Int) := by omega
  have HE : Hid (rnextI (fun p => !hasP l p) (64 * l.length - F) F = rnextI (fun p => !hasP l p) (64 * l.length - F) F) := Lib.hid rfl
  generalize hV : rnextI (fun p => !hasP l p) (64 * l.length - F) F = V at *
  have HV := Lib.hid hV
  clear hV h hc hU HE
  have fin : ∀ {Q : Exit → Act → World → Prop}, True := fun {_} => trivial
  by_cases hneg : fr < 0
  · have hFz : F = 0 := by omega
    subst hFz
    clear hF hF2
    go_enter Tryd.func35, Tryd.ntmps35
    go_wp2
    go_loopw [5] (fun i wr => ∃ I : Nat, i = .int .i64 I ∧ Hid (rnextI (fun p => !hasP l p) (64 * l.length - I) I = V) ∧ Quiet w wr) (fun i _ => 64 * l.length - (intOf i).toNat)
    case atStart => exact ⟨0, rfl, HV, Quiet.refl _⟩
    case round =>
      obtain ⟨I, rfl, hE, hQ⟩ := hrel
      go_wp2_with fail
      refine (EN.out _).mono ?_
      rintro e w1 ⟨rfl, q1⟩
      by_cases hlt : I < 64 * l.length
      · have h1 : (I : Int) < 64 * (l.length : Int) := by omega
        have hE2 := hE.out
        rw [show 64 * l.length - I = (64 * l.length - (I + 1)) + 1 by omega] at hE2
        unfold rnextI at hE2
        have HE2 := Lib.hid hE2
        clear hE hE2
        go_wp2_with fail
        refine (HA.out I _ (hQ.trans q1) (by omega)).mono ?_
        rintro e w2 ⟨rfl, q2⟩
        cases hb : hasP l I with
        | false =>
          have HE3 := HE2.out
          rw [hb] at HE3
          have HE4 := Lib.hid HE3
          clear HE2 HE3
          go_wp2
          go_ret
          exact ⟨by rw [← HE4.out]; rfl, (hQ.trans q1).trans q2⟩
        | true =>
          have HE3 := HE2.out
          rw [hb] at HE3
          have HE4 := Lib.hid HE3
          clear HE2 HE3
          go_wp2
          go_roundw
          case rel => exact ⟨I + 1, by go_num, HE4, (hQ.trans q1).trans q2⟩
          case measure => simp [intOf]; omega
      · have h1 : ¬ (I : Int) < 64 * (l.length : Int) := by omega
        have hE2 := hE.out
        rw [show 64 * l.length - I = 0 by omega] at hE2
        have HE2 := Lib.hid hE2
        clear hE hE2
        go_wp2
        go_ret
        exact ⟨by rw [← HE2.out]; rfl, hQ.trans q1⟩
  · have hFe : fr = (F : Int) := by omega
    subst hFe
    have hneg' : ¬ (F : Int) < 0 := hneg
    have hF1 : (F : Int) < 9223372036854775808 := by omega
    clear hF hF2
    go_enter Tryd.func35, Tryd.ntmps35
    go_wp2
    clear hF1
    go_loopw [5] (fun i wr => ∃ I : Nat, i = .int .i64 I ∧ Hid (rnextI (fun p => !hasP l p) (64 * l.length - I) I = V) ∧ Quiet w wr) (fun i _ => 64 * l.length - (intOf i).toNat)
    case atStart => exact ⟨F, rfl, HV, Quiet.refl _⟩
    case round =>
      obtain ⟨I, rfl, hE, hQ⟩ := hrel
      go_wp2_with fail
      refine (EN.out _).mono ?_
      rintro e w1 ⟨rfl, q1⟩
      by_cases hlt : I < 64 * l.length
      · have h1 : (I : Int) < 64 * (l.length : Int) := by omega
        have hE2 := hE.out
        rw [show 64 * l.length - I = (64 * l.length - (I + 1)) + 1 by omega] at hE2
        unfold rnextI at hE2
        have HE2 := Lib.hid hE2
        clear hE hE2
        go_wp2_with fail
        refine (HA.out I _ (hQ.trans q1) (by omega)).mono ?_
        rintro e w2 ⟨rfl, q2⟩
        cases hb : hasP l I with
        | false =>
          have HE3 := HE2.out
          rw [hb] at HE3
          have HE4 := Lib.hid HE3
          clear HE2 HE3
          go_wp2
          go_ret
          exact ⟨by rw [← HE4.out]; rfl, (hQ.trans q1).trans q2⟩
        | true =>
          have HE3 := HE2.out
          rw [hb] at HE3
          have HE4 := Lib.hid HE3
          clear HE2 HE3
          go_wp2
          go_roundw
          case rel => exact ⟨I + 1, by go_num, HE4, (hQ.trans q1).trans q2⟩
          case measure => simp [intOf]; omega
      · have h1 : ¬ (I : Int) < 64 * (l.length : Int) := by omega
        have hE2 := hE.out
        rw [show 64 * l.length - I = 0 by omega] at hE2
        have HE2 := Lib.hid hE2
        clear hE hE2
        go_wp2
        go_ret
        exact ⟨by rw [← HE2.out]; rfl, hQ.trans q1⟩
/-- the first room of n, number by number -/
def rfitI (h : Nat → Bool) (n : Int) : Nat → Nat → Nat → Int
  | 0, _, _ => -1
  | d + 1, i, f => if (((if h i then 0 else f + 1 : Nat)) : Int) = n then (i : Int) - n + 1 else rfitI h n d (i + 1) (if h i then 0 else f + 1)
set_option maxHeartbeats 400000 in
theorem rfit_small (v : Value) (n : Int) (w : World) (h : n < 1) :
    Calls Tryd.prog 36 #[v, .int .i64 n] w fun e w' => e = .returned (.int .i64 0) ∧ Quiet w w' := by
  go_enter Tryd.func36, Tryd.ntmps36
  go_wp2
  go_ret
  exact ⟨rfl, Quiet.refl _⟩
set_option maxRecDepth 100000 in
set_option maxHeartbeats 2000000 in
theorem rfit_big (v : Value) (l : List Int) (n : Int) (w : World) (h : Lst .u64 w v l) (hU : ∀ z ∈ l, U64 z) (hm : l.length ≤ 4096) (hn : 1 ≤ n) :
    Calls Tryd.prog 36 #[v, .int .i64 n] w fun e w' => e = .returned (.int .i64 (rfitI (hasP l) n (64 * l.length) 0 0)) ∧ Quiet w w' := by
  obtain ⟨a, cap, rfl, hc⟩ := lst_form h
  have EN := Lib.hid (fun W => rend_any a l.length cap W (by omega))
  have HA := Lib.hid (fun p W (hq : Quiet w W) (hp : p < 1000000) => rhas_any _ l p W (h.quiet hq) hU hm hp)
  generalize hV : rfitI (hasP l) n (64 * l.length) 0 0 = V at *
  have HV := Lib.hid hV
  have hn' : ¬ n < 1 := by omega
  clear hV h hc hU
  go_enter Tryd.func36, Tryd.ntmps36
  go_wp2
  go_loopw [5, 6] (fun g i wr => ∃ I f : Nat, i = .int .i64 I ∧ g = .int .i64 f ∧ f ≤ I ∧ Hid (rfitI (hasP l) n (64 * l.length - I) I f = V) ∧ Quiet w wr) (fun _ i _ => 64 * l.length - (intOf i).toNat)
  case atStart => exact ⟨0, 0, rfl, rfl, Nat.le_refl _, HV, Quiet.refl _⟩
  case round =>
    obtain ⟨I, f, rfl, rfl, hf, hE, hQ⟩ := hrel
    go_wp2_with fail
    refine (EN.out _).mono ?_
    rintro e w1 ⟨rfl, q1⟩
    by_cases hlt : I < 64 * l.length
    · have h1 : (I : Int) < 64 * (l.length : Int) := by omega
      have hf1 : (f : Int) + 1 < 300000 := by omega
      have hf0 : (0 : Int) ≤ (f : Int) := by omega
      have hI1 : (I : Int) + 1 < 300000 := by omega
      have hE2 := hE.out
      rw [show 64 * l.length - I = (64 * l.length - (I + 1)) + 1 by omega] at hE2
      unfold rfitI at hE2
      have HE2 := Lib.hid hE2
      clear hE hE2
      go_wp2_with fail
      refine (HA.out I _ (hQ.trans q1) (by omega)).mono ?_
      rintro e w2 ⟨rfl, q2⟩
      cases hb : hasP l I with
      | true =>
        have HE3 := HE2.out
        simp only [hb, if_true] at HE3
        rw [if_neg (by simp; omega)] at HE3
        have HE4 := Lib.hid HE3
        have hz : (0 == n) = false := by simp; omega
        clear HE2 HE3
        go_wp2
        go_roundw
        case rel => exact ⟨I + 1, 0, by go_num, rfl, Nat.zero_le _, HE4, (hQ.trans q1).trans q2⟩
        case measure => simp [intOf]; omega
      | false =>
        have HE3 := HE2.out
        simp only [hb, Bool.false_eq_true, if_false] at HE3
        by_cases he : ((f + 1 : Nat) : Int) = n
        · rw [if_pos he] at HE3
          have HE4 := Lib.hid HE3
          have hz : ((f : Int) + 1 == n) = true := by simp; omega
          have hw1 : wrap64 ((I : Int) - n) = (I : Int) - n := by unfold wrap64; omega
          have hw2 : wrap64 ((I : Int) - n + 1) = (I : Int) - n + 1 := by unfold wrap64; omega
          have hw3 : IntKind.i64.wrap ((I : Int) - n) = (I : Int) - n := by rw [IntKind.wrap_i64]; omega
          clear HE2 HE3
          go_wp2
          go_ret
          exact ⟨by rw [← HE4.out]; rfl, (hQ.trans q1).trans q2⟩
        · rw [if_neg he] at HE3
          have HE4 := Lib.hid HE3
          have hz : ((f : Int) + 1 == n) = false := by simp; omega
          clear HE2 HE3
          go_wp2
          go_roundw
          case rel => exact ⟨I + 1, f + 1, by go_num, by go_num, by omega, HE4, (hQ.trans q1).trans q2⟩
          case measure => simp [intOf]; omega
    · have h1 : ¬ (I : Int) < 64 * (l.length : Int) := by omega
      have hE2 := hE.out
      rw [show 64 * l.length - I = 0 by omega] at hE2
      have HE2 := Lib.hid hE2
      clear hE hE2
      go_wp2
      go_ret
      exact ⟨by rw [← HE2.out]; rfl, hQ.trans q1⟩
end Go.Proofs.YtalhlbedgkhijaaDoor
