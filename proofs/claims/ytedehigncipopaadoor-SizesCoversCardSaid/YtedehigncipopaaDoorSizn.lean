/- The law SizesCovers: the walk. No condition but that the tables lie as the start lays them. -/
import Derived.Test.YtedehigncipopaaDoorSizm
namespace Go.Proofs.YtedehigncipopaaDoor
open Go.RowKit
set_option linter.unusedVariables false

theorem places_len (x : Int) (w : World) (hx : U64 x) : Calls Tryd.prog 34 #[.int .u64 x] w fun e w' => ∃ a k, e = .returned (.slice a (plcs x.toNat 64).length k) ∧ Below w.heap.size w w' :=
  (places_lst x w hx).mono fun _ _ ⟨v, he, hl, hb⟩ => by
    rcases hl with ⟨h0, a, k, h1⟩ | ⟨b, o, k, h1, _, _, _⟩
    · exact ⟨a, k, by rw [he, h1, h0]; rfl, hb⟩
    · exact ⟨_, k, by rw [he, h1], hb⟩
theorem covers_facts : ∀ j : Fin 8, ∀ k : Fin 64,
    (((k.val : Nat) : Int) < ((numF j.val : Nat) : Int) * widF j.val ↔ 0 ≤ cellI ((j.val : Nat) : Int) ((k.val : Nat) : Int)) ∧
    (0 ≤ cellI ((j.val : Nat) : Int) ((k.val : Nat) : Int) → cellI ((j.val : Nat) : Int) ((k.val : Nat) : Int) ≤ ((k.val : Nat) : Int) ∧ ((k.val : Nat) : Int) - cellI ((j.val : Nat) : Int) ((k.val : Nat) : Int) < widF j.val ∧
      cellI ((j.val : Nat) : Int) (cellI ((j.val : Nat) : Int) ((k.val : Nat) : Int)) = cellI ((j.val : Nat) : Int) ((k.val : Nat) : Int) ∧
      bits .and .u64 (stOr (widF j.val) (List.range (numF j.val)) / 2 ^ (cellI ((j.val : Nat) : Int) ((k.val : Nat) : Int)).toNat) 1 = 1) ∧
    (¬ 0 ≤ cellI ((j.val : Nat) : Int) ((k.val : Nat) : Int) → cellI ((j.val : Nat) : Int) ((k.val : Nat) : Int) = -1) := by decide +kernel
theorem covers_end : ∀ j : Fin 8, ((numF j.val : Nat) : Int) * widF j.val ≤ 64 ∧ 64 - ((numF j.val : Nat) : Int) * widF j.val < widF j.val ∧ 0 ≤ ((numF j.val : Nat) : Int) * widF j.val := by decide +kernel

set_option maxHeartbeats 2000000 in
theorem covers_law (a : Int) (w : World) (w0 : (Lit.int .i64 a).wf = true) (hTab : Tab w) (hWid : Wid w) :
    Calls Tryd.prog 6 #[.int .i64 a] w fun e w' => e = .returned (.bool true) ∧ Below w.heap.size w w' := by
  have hT : Tbs w := ⟨hTab, hWid⟩
  obtain ⟨M, hM⟩ : ∃ M : Nat, wrap64 ((IntKind.u64.wrap a).tmod 8) = (M : Int) := ⟨(wrap64 ((IntKind.u64.wrap a).tmod 8)).toNat, by have := mod_lit a 8 (by decide) (by decide); omega⟩
  have lM := mod_lit a 8 (by decide) (by decide)
  rw [hM] at lM
  have hM8 : M < 8 := by omega
  obtain ⟨_, h2, h3, h4, h5⟩ := cls_nat M hM8
  have A1 := Lib.hid (fun W (h : Wid W) => words_any ((M : Nat) : Int) W h)
  have A3 := Lib.hid (fun W (h : Wid W) => cnum_any ((M : Nat) : Int) W h)
  have A4 := Lib.hid (fun W (h : Wid W) => starts_any ((M : Nat) : Int) W h)
  have A5 := Lib.hid (fun W => places_len (startsI ((M : Nat) : Int)) W (startsI_U64 _))
  have CL := Lib.hid (fun p W (h : Wid W) => cell_any ((M : Nat) : Int) p W h)
  have S := Lib.hid (fun W (h : Tbs W) => sized_any W h)
  have hlen : (cellL ((M : Nat) : Int)).length = numN ((M : Nat) : Int) := by simp [cellL]
  rw [startsI_plcs, hlen, h3] at A5
  rw [h2, h5] at A1
  rw [h3, h5] at A3
  rw [h5] at A4
  have hF : Hid (∀ k : Nat, k < 64 →
      (((k : Nat) : Int) < ((numF M : Nat) : Int) * widF M ↔ 0 ≤ cellI ((M : Nat) : Int) ((k : Nat) : Int)) ∧
      (0 ≤ cellI ((M : Nat) : Int) ((k : Nat) : Int) → cellI ((M : Nat) : Int) ((k : Nat) : Int) ≤ ((k : Nat) : Int) ∧ ((k : Nat) : Int) - cellI ((M : Nat) : Int) ((k : Nat) : Int) < widF M ∧
        cellI ((M : Nat) : Int) (cellI ((M : Nat) : Int) ((k : Nat) : Int)) = cellI ((M : Nat) : Int) ((k : Nat) : Int) ∧
        bits .and .u64 (startsI ((M : Nat) : Int) / 2 ^ (cellI ((M : Nat) : Int) ((k : Nat) : Int)).toNat) 1 = 1) ∧
      (¬ 0 ≤ cellI ((M : Nat) : Int) ((k : Nat) : Int) → cellI ((M : Nat) : Int) ((k : Nat) : Int) = -1)) := by
    intro k hk
    rw [h4]
    exact covers_facts ⟨M, hM8⟩ ⟨k, hk⟩
  obtain ⟨e1, e2, e3⟩ : ((numF M : Nat) : Int) * widF M ≤ 64 ∧ 64 - ((numF M : Nat) : Int) * widF M < widF M ∧ 0 ≤ ((numF M : Nat) : Int) * widF M := covers_end ⟨M, hM8⟩
  obtain ⟨v0, v1⟩ := widF_bd M hM8
  have n1 := num_le M hM8
  have ew : wrap64 (((numF M : Nat) : Int) * widF M) = ((numF M : Nat) : Int) * widF M := IntWalk.wrap64_in _ ⟨by omega, by omega⟩
  clear h2 h3 h4 h5 hlen
  generalize startsI ((M : Nat) : Int) = s at *
  generalize widF M = v at *
  generalize numF M = N at *
  generalize hE : ((N : Nat) : Int) * v = E at *
  have HE := Lib.hid hE
  go_enter Tryd.func6, Tryd.ntmps6
  go_wp2_with fail
  refine (A1.out _ hWid).mono ?_
  rintro e w1 ⟨rfl, hw1⟩
  obtain rfl := hw1.symm
  go_wp2_with fail
  refine (A3.out _ hWid).mono ?_
  rintro e w2 ⟨rfl, hb2⟩
  go_wp2_with fail
  refine (A4.out _ (hT.grew hb2).wid).mono ?_
  rintro e w3 ⟨rfl, hb3⟩
  have hb3 := hb2.trans (hb3.mono hb2.size)
  go_wp2_with fail
  refine (S.out _ (hT.grew hb3)).mono ?_
  rintro e w4 ⟨rfl, hb4⟩
  have hb4 := hb3.trans (hb4.mono hb3.size)
  go_wp2_with fail
  refine (A5.out _).mono ?_
  rintro e w5 ⟨a5, k5, rfl, hb5⟩
  have hb5 := hb4.trans (hb5.mono hb4.size)
  clear hb2 hb3 hb4
  as_aux_lemma =>
  go_wp2
  go_loopw [9] (fun i wr => ∃ (k : Nat), k ≤ 64 ∧ i = .int .i64 k ∧ Below w.heap.size w wr) (fun i _ => 64 - (intOf i).toNat)
  case atStart => exact ⟨0, by omega, rfl, hb5⟩
  case round =>
    obtain ⟨k, hk, rfl, hb⟩ := hrel
    have hsz := hb.size
    by_cases hlt : (k : Int) < 64
    · obtain ⟨f1, f2, f3⟩ := hF.out k (by omega)
      have C1 := Lib.hid (fun W (h : Wid W) => CL.out ((k : Nat) : Int) W h)
      have C2 := Lib.hid (fun W (h : Wid W) => CL.out (cellI ((M : Nat) : Int) ((k : Nat) : Int)) W h)
      by_cases h0 : 0 ≤ cellI ((M : Nat) : Int) ((k : Nat) : Int)
      · obtain ⟨g1, g2, g3, g4⟩ := f2 h0
        have f1' := f1.2 h0
        rw [g3] at C2
        clear f1 f2 f3 g3
        generalize cellI ((M : Nat) : Int) ((k : Nat) : Int) = C at *
        have hd : wrap64 ((k : Int) - C) = (k : Int) - C := IntWalk.wrap64_in _ ⟨by omega, by omega⟩
        have hCn : ¬ C < 0 := by omega
        go_wp2_with fail
        refine (C1.out _ (hT.grew hb).wid).mono ?_
        rintro e w6 ⟨rfl, hb6⟩
        have hb6 := hb.trans (hb6.mono hsz)
        go_wp2_with fail
        refine (C2.out _ (hT.grew hb6).wid).mono ?_
        rintro e w7 ⟨rfl, hb7⟩
        have hb7 := hb6.trans (hb7.mono hb6.size)
        go_wp2
        go_roundw
        case rel => exact ⟨k + 1, by omega, by go_num, hb7⟩
        case measure => simp [intOf]; omega
      · have f1' : ¬ ((k : Nat) : Int) < E := fun h => h0 (f1.1 h)
        have f3' := f3 (by omega)
        rw [f3'] at C1
        clear f1 f2 f3 f3' C2 h0
        go_wp2_with fail
        refine (C1.out _ (hT.grew hb).wid).mono ?_
        rintro e w6 ⟨rfl, hb6⟩
        have hb6 := hb.trans (hb6.mono hsz)
        go_wp2
        go_roundw
        case rel => exact ⟨k + 1, by omega, by go_num, hb6⟩
        case measure => simp [intOf]; omega
    · go_wp2
      go_ret
      exact ⟨rfl, hb⟩
end Go.Proofs.YtedehigncipopaaDoor
