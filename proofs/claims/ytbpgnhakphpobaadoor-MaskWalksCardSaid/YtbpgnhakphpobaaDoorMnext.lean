/- What mask.Next and Clear return at every list. Conditions: the list is short, the table of math/bits lies as the start lays it. -/
import Derived.Test.YtbpgnhakphpobaaDoorMof
import Derived.Test.YtbpgnhakphpobaaDoorTabs
namespace Go.Proofs.YtbpgnhakphpobaaDoor
open Go.RowKit
set_option linter.unusedVariables false

def firstI (o : Int → Int) (l : List Int) : Nat → Nat → Int → Int
  | 0, _, _ => -1
  | d + 1, i, b => if bits .andNot .u64 (o (l.getD i 0)) b = 0 then firstI o l d (i + 1) 0 else 64 * (i : Int) + lowI (bits .andNot .u64 (o (l.getD i 0)) b)
def nextV (o : Int → Int) (l : List Int) (F : Nat) : Int := firstI o l (l.length - F / 64) (F / 64) (maskI ((F % 64 : Nat) : Int))
set_option maxHeartbeats 400000 in
theorem nextf_any (x : Int) (w : World) :
    Calls Tryd.prog 23 #[.int .u64 x] w fun e w' => e = .returned (.int .u64 x) ∧ Quiet w w' := by
  go_enter Tryd.func23, Tryd.ntmps23
  go_wp2
  go_ret
  exact ⟨rfl, Quiet.refl _⟩
def notI (x : Int) : Int := bits .xor .u64 IntKind.u64.max x
theorem notI_U64 {x : Int} (hx : U64 x) : U64 (notI x) := by
  obtain ⟨X, rfl⟩ := Int.eq_ofNat_of_zero_le hx.1
  have hX : X < 2 ^ 64 := by have := hx.2; omega
  unfold notI
  rw [show IntKind.u64.max = ((2 ^ 64 - 1 : Nat) : Int) by decide, bits_xor_u64_nat _ _ (by decide) hX]
  exact U64.nat _ (Nat.xor_lt_two_pow (by decide) hX)
set_option maxRecDepth 100000 in
set_option maxHeartbeats 2000000 in
theorem first_next (a : Option Addr) (cap n : Nat) (l : List Int) (fr : Int) (F : Nat) (w : World) (hn : l.length = n) (hm : n ≤ 4096) (hcell : 0 < n → ∃ b o, a = some ⟨b, o, none⟩ ∧ ∀ i, i < n → w.cell? ⟨b, o + i, none⟩ = some (.int .u64 (l.getD i 0))) (hU : ∀ i, i < n → U64 (l.getD i 0)) (hT : Tab w) (hF : (F : Int) = max fr 0) (hF2 : F < 9223372036854775808) :
    Calls Tryd.prog 22 #[.slice a n cap, .int .i64 fr, .func (.func 23) #[] #[]] w fun e w' => e = .returned (.int .i64 (nextV (fun x => x) l F)) ∧ Quiet w w' := by
  have HC := Lib.hid hcell
  have HU := Lib.hid hU
  have HT := Lib.hid hT
  have HN := Lib.hid hn
  have MA := Lib.hid (fun W => mask_any ((F % 64 : Nat) : Int) W)
  have LO := Lib.hid (fun x W (hx : U64 x) (h : Tab W) => lowest_still x W hx h)
  have hmx := hF.symm
  have hF0 : (0 : Int) ≤ (F : Int) := by omega
  have hF1 : (F : Int) < 9223372036854775808 := by omega
  have hV : Hid (nextV (fun x => x) l F = firstI (fun x => x) l (n - F / 64) (F / 64) (maskI ((F % 64 : Nat) : Int))) := Lib.hid (by unfold nextV; rw [hn])
  generalize nextV (fun x => x) l F = V at *
  have hMU := maskI_U64 ((F % 64 : Nat) : Int)
  generalize maskI ((F % 64 : Nat) : Int) = B0 at *
  clear hcell hU hT hn hF
  go_enter Tryd.func22, Tryd.ntmps22
  go_wp2_with fail
  rw [show (F : Int) % 64 = ((F % 64 : Nat) : Int) by omega]
  refine (MA.out _).mono ?_
  rintro e w1 ⟨rfl, hQ1⟩
  have hq : (F : Int) / 64 = ((F / 64 : Nat) : Int) := by omega
  have hwr : wrap64 ((F / 64 : Nat) : Int) = ((F / 64 : Nat) : Int) := by unfold wrap64; omega
  clear MA hF0 hF1 hF2
  generalize F / 64 = I0 at *
  go_wp2
  simp only [hwr]
  go_loopw [7, 8] (fun b i wr => ∃ (I : Nat) (B : Int), i = .int .i64 I ∧ b = .int .u64 B ∧ U64 B ∧ Hid (firstI (fun x => x) l (n - I) I B = V) ∧ Quiet w wr) (fun _ i _ => n - (intOf i).toNat)
  case atStart => exact ⟨I0, B0, rfl, rfl, hMU, Lib.hid hV.out.symm, hQ1⟩
  case round =>
    obtain ⟨I, B, rfl, rfl, hBU, hE, hQ⟩ := hrel
    by_cases hlt : I < n
    · have h1 : (I : Int) < (n : Int) := by omega
      have h0 : (0 : Int) ≤ (I : Int) := by omega
      obtain ⟨b, o, rfl, hc⟩ := HC.out (by omega)
      have hck := (hQ.cell _).trans (hc I hlt)
      have hx := HU.out I hlt
      have hE2 := hE.out
      rw [show n - I = (n - (I + 1)) + 1 by omega] at hE2
      unfold firstI at hE2
      have HE2 := Lib.hid hE2
      have HX := Lib.hid hx
      have hI5 : (I : Int) + 1 < 5000 := by omega
      generalize l.getD I 0 = z at *
      clear hc HC hE hE2 hx
      have NF := Lib.hid (fun W => nextf_any z W)
      go_wp2_with fail
      refine (NF.out _).mono ?_
      rintro e w2 ⟨rfl, hQ2⟩
      by_cases hz : bits .andNot .u64 z B = 0
      · have HE3 := HE2.out
        rw [if_pos hz] at HE3
        have HE4 := Lib.hid HE3
        have hz' : (bits .andNot .u64 z B == 0) = true := by simp [hz]
        clear hz HE2 HE3
        go_wp2
        go_roundw
        case rel => exact ⟨I + 1, 0, by go_num, rfl, ⟨by decide, by decide⟩, HE4, hQ.trans hQ2⟩
        case measure => simp [intOf]; omega
      · have HE3 := HE2.out
        rw [if_neg hz] at HE3
        have HE4 := Lib.hid HE3
        have hz' : (bits .andNot .u64 z B == 0) = false := by simp [hz]
        have LW := Lib.hid (fun W h => LO.out (bits .andNot .u64 z B) W (andNot_U64 HX.out hBU) h)
        have LB := lowI_bd (bits .andNot .u64 z B) (andNot_U64 HX.out hBU)
        have hTW := HT.out.quiet ((hQ.trans hQ2))
        have HTW := Lib.hid hTW
        clear hz HE2 HE3 hTW
        have hI4 : (I : Int) < 4096 := by omega
        go_wp2_with fail
        refine (LW.out _ HTW.out).mono ?_
        rintro e w3 ⟨rfl, rfl⟩
        go_wp2
        go_ret
        exact ⟨by rw [← HE4.out]; rfl, hQ.trans hQ2⟩
    · have hE2 := hE.out
      rw [show n - I = 0 by omega] at hE2
      have HE2 := Lib.hid hE2
      have h1 : ¬ (I : Int) < (n : Int) := by omega
      clear hE hE2
      go_wp2
      go_ret
      exact ⟨by rw [← HE2.out]; rfl, hQ⟩
set_option maxHeartbeats 400000 in
theorem next_any (v : Value) (l : List Int) (fr : Int) (F : Nat) (w : World) (h : Lst .u64 w v l) (hm : l.length ≤ 4096) (hU : ∀ z ∈ l, U64 z) (hT : Tab w) (hF : (F : Int) = max fr 0) (hF2 : F < 9223372036854775808) :
    Calls Tryd.prog 13 #[v, .int .i64 fr] w fun e w' => e = .returned (.int .i64 (nextV (fun x => x) l F)) ∧ Quiet w w' := by
  obtain ⟨a, cap, rfl, hc⟩ := lst_form h
  have C := Lib.hid (first_next a cap l.length l fr F w rfl hm hc (fun i hi => hU _ (by rw [getD_in l i hi]; exact List.getElem_mem hi)) hT hF hF2)
  clear h hc hF hF2
  go_enter Tryd.func13, Tryd.ntmps13
  go_wp2_with fail
  refine C.out.mono ?_
  rintro e w1 ⟨rfl, hQ⟩
  clear C
  go_wp2
  go_ret
  exact ⟨rfl, hQ⟩
end Go.Proofs.YtbpgnhakphpobaaDoor
