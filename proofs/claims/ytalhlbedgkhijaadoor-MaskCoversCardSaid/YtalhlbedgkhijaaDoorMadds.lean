/- MaskAdds: the walk of the whole. Conditions: the argument is a list of words, the table of math/bits lies as the start lays it. -/
import Derived.Test.YtalhlbedgkhijaaDoorMbit
import Derived.Test.YtalhlbedgkhijaaDoorMcoun
namespace Go.Proofs.YtalhlbedgkhijaaDoor
open Go.RowKit
set_option linter.unusedVariables false

theorem mod_small (x : Int) (m : Nat) (h0 : 0 < m) (h1 : m < 100000) : ∃ p : Nat, p < m ∧ wrap64 ((IntKind.u64.wrap x).tmod (m : Int)) = (p : Int) := by
  have h : 0 ≤ IntKind.u64.wrap x := by rw [IntKind.wrap_u64]; omega
  generalize IntKind.u64.wrap x = y at *
  obtain ⟨Y, rfl⟩ := Int.eq_ofNat_of_zero_le h
  refine ⟨Y % m, Nat.mod_lt _ h0, ?_⟩
  have e : ((Y : Int)).tmod (m : Int) = ((Y % m : Nat) : Int) := by rw [Int.tmod_eq_emod_of_nonneg (by omega)]; rfl
  rw [e]
  have := Nat.mod_lt Y h0
  unfold wrap64; omega
set_option maxRecDepth 100000 in
set_option maxHeartbeats 4000000 in
theorem adds_walk (na ca : Nat) (aa : Option Addr) (x : Int) (l : List Int) (w : World) (ha : LstAll w (.slice aa na ca) l) (h1 : na ≤ 8) (hl8 : l.length = na) (hT : Tab w) :
    Calls Tryd.prog 6 #[.slice aa na ca, .int .i64 x] w fun e w' => e = .returned (.bool true) ∧ Below w.heap.size w w' := by
  have h1' : ¬ (8 : Int) < (na : Int) := by omega
  have LA := Lib.hid (fun W (h : Below w.heap.size w W) => ha.grew h)
  have UA := Lib.hid ha.2
  have HN := Lib.hid (fun p => adds_num ha.2.1 p)
  have MY := Lib.hid (masked_yes w hT)
  have HL8 := Lib.hid hl8
  have H8 := Lib.hid h1
  clear ha h1 hT hl8
  go_enter Tryd.func6, Tryd.ntmps6
  go_wp2_with fail
  refine MY.out.mono ?_
  rintro e w0 ⟨rfl, b0⟩
  clear MY
  go_wp2_with fail
  obtain ⟨p, hp, hpe⟩ := mod_small x 600 (by decide) (by decide)
  rw [show ((600 : Nat) : Int) = 600 from rfl] at hpe
  rw [hpe]
  have HN := Lib.hid (HN.out p)
  have hWl : (withL l p).length ≤ 1000 := by rw [withL_len]; have := HL8.out; have := H8.out; split <;> omega
  have hVl : (withoutL (withL l p) p).length ≤ 1000 := by unfold withoutL; rw [List.length_set]; exact hWl
  have HWV := Lib.hid (And.intro (with_U64 UA.out.1 p) (And.intro hWl (And.intro (without_U64 (with_U64 UA.out.1 p) p) hVl)))
  clear hWl hVl hpe
  refine (with_lst _ l p _ (LA.out _ b0).1 (by omega) UA.out.2).mono ?_
  rintro e w1 ⟨va, rfl, la, c1, -⟩
  have b1 := b0.trans (c1.mono b0.size)
  go_wp2_with fail
  refine (without_any _ _ p _ la (by omega) (by have := HWV.out.2.1; omega)).mono ?_
  rintro e w2 ⟨vb, rfl, lb, c2, -⟩
  have b2 := b1.trans (c2.mono b1.size)
  have la2 := la.below c2
  clear la c1 c2
  go_wp2_with fail
  refine (has_any _ _ p _ la2 (by omega)).mono ?_
  rintro e w3 ⟨rfl, q3⟩
  rw [HN.out.1]
  have la3 := la2.below q3.below
  have lb3 := lb.below q3.below
  have b3 := b2.trans q3.below
  clear la2 lb q3
  go_wp2_with fail
  refine (has_any _ _ p _ lb3 (by omega)).mono ?_
  rintro e w4 ⟨rfl, q4⟩
  rw [HN.out.2.1]
  have la4 := la3.below q4.below
  have lb4 := lb3.below q4.below
  have b4 := b3.trans q4.below
  clear la3 lb3 q4
  go_wp2_with fail
  refine (within_any _ _ l _ _ (LA.out _ b4).1 la4 (by have := UA.out.2; omega) (by have := HWV.out.2.1; omega) UA.out.1 HWV.out.1).mono ?_
  rintro e w5 ⟨rfl, c5⟩
  rw [HN.out.2.2.1]
  have la5 := la4.below c5
  have lb5 := lb4.below c5
  have b5 := b4.trans (c5.mono b4.size)
  clear la4 lb4 c5
  go_wp2_with fail
  refine (within_any _ _ _ l _ lb5 (LA.out _ b5).1 (by have := HWV.out.2.2.2; omega) (by have := UA.out.2; omega) HWV.out.2.2.1 UA.out.1).mono ?_
  rintro e w6 ⟨rfl, c6⟩
  rw [HN.out.2.2.2.1]
  have la6 := la5.below c6
  have lb6 := lb5.below c6
  have b6 := b5.trans (c6.mono b5.size)
  clear la5 lb5 c6 b1 b2 b3 b4 b5
  go_wp2_with fail
  refine (has_any _ l p _ (LA.out _ b6).1 (by omega)).mono ?_
  rintro e w7 ⟨rfl, q7⟩
  have la7 := la6.below q7.below
  have lb7 := lb6.below q7.below
  have b7 := b6.trans q7.below
  clear la6 lb6 q7
  have hcl := cntL_bd l
  have hcl2 : cntL l ≤ 64 * 1024 := by have := UA.out.2; omega
  cases hb : hasB l p with
  | true =>
    have e1 : cntL (withL l p) = cntL l := by have := HN.out.2.2.2.2.1; rw [hb] at this; simpa using this
    have e2 : cntL (withoutL (withL l p) p) = cntL l - 1 := by rw [HN.out.2.2.2.2.2, e1]
    have C1 := Lib.hid (fun W h => count_lst va (withL l p) W h HWV.out.1 (by have := HWV.out.2.1; omega))
    have C2 := Lib.hid (fun W h => count_lst (.slice aa na ca) l W h UA.out.1 (by have := UA.out.2; omega))
    have C3 := Lib.hid (fun W h => count_lst vb (withoutL (withL l p) p) W h HWV.out.2.2.1 (by have := HWV.out.2.2.2; omega))
    rw [e1] at C1
    rw [e2] at C3
    clear HN e1 e2
    generalize cntL l = n at *
    go_wp2_with fail
    refine (C1.out _ la7).mono ?_
    rintro e w8 ⟨rfl, q8⟩
    have b8 := b7.trans q8.below
    go_wp2_with fail
    refine (C2.out _ (LA.out _ b8).1).mono ?_
    rintro e w9 ⟨rfl, q9⟩
    have b9 := b8.trans q9.below
    have la9 := (la7.below q8.below).below q9.below
    have lb9 := (lb7.below q8.below).below q9.below
    go_wp2_with fail
    refine (C3.out _ lb9).mono ?_
    rintro e wa ⟨rfl, qa⟩
    go_wp2_with fail
    refine (C1.out _ (la9.below qa.below)).mono ?_
    rintro e wb ⟨rfl, qb⟩
    go_wp2
    go_ret
    exact ⟨by simp, (b9.trans qa.below).trans qb.below⟩
  | false =>
    have e1 : cntL (withL l p) = cntL l + 1 := by have := HN.out.2.2.2.2.1; rw [hb] at this; simpa using this
    have e2 : cntL (withoutL (withL l p) p) = cntL l := by rw [HN.out.2.2.2.2.2, e1]; omega
    have C1 := Lib.hid (fun W h => count_lst va (withL l p) W h HWV.out.1 (by have := HWV.out.2.1; omega))
    have C2 := Lib.hid (fun W h => count_lst (.slice aa na ca) l W h UA.out.1 (by have := UA.out.2; omega))
    have C3 := Lib.hid (fun W h => count_lst vb (withoutL (withL l p) p) W h HWV.out.2.2.1 (by have := HWV.out.2.2.2; omega))
    rw [e1] at C1
    rw [e2] at C3
    clear HN e1 e2
    generalize cntL l = n at *
    go_wp2_with fail
    refine (C1.out _ la7).mono ?_
    rintro e w8 ⟨rfl, q8⟩
    have b8 := b7.trans q8.below
    go_wp2_with fail
    refine (C2.out _ (LA.out _ b8).1).mono ?_
    rintro e w9 ⟨rfl, q9⟩
    have b9 := b8.trans q9.below
    have la9 := (la7.below q8.below).below q9.below
    have lb9 := (lb7.below q8.below).below q9.below
    go_wp2_with fail
    refine (C3.out _ lb9).mono ?_
    rintro e wa ⟨rfl, qa⟩
    go_wp2_with fail
    refine (C1.out _ (la9.below qa.below)).mono ?_
    rintro e wb ⟨rfl, qb⟩
    go_wp2
    go_ret
    exact ⟨by simp, (b9.trans qa.below).trans qb.below⟩
set_option maxRecDepth 100000 in
set_option maxHeartbeats 1000000 in
theorem adds_law (a0 : Option Addr) (n0 c0 : Nat) (z0 : List Int) (x : Int) (w : World) (h0 : IsRow .u64 w a0 n0 c0 z0) (h1 : (Lit.int .i64 x).wf = true) (hT : Tab w) :
    Calls Tryd.prog 6 #[.slice a0 n0 c0, .int .i64 x] w fun e w' => e = .returned (.bool true) ∧ Below w.heap.size w w' := by
  by_cases k0 : n0 ≤ 8
  · exact adds_walk n0 c0 a0 x _ w (row_all h0 k0).1 k0 (row_all h0 k0).2 hT
  · have k0' : (8 : Int) < (n0 : Int) := by omega
    have MY := Lib.hid (fun W (h : Below w.heap.size w W) => masked_yes W (hT.grew h))
    clear h0 h1 hT k0
    go_enter Tryd.func6, Tryd.ntmps6
    go_wp2_with fail
    refine (MY.out w (Below.refl _ _)).mono ?_
    rintro e w0 ⟨rfl, b0⟩
    go_wp2_with fail
    refine (MY.out w0 b0).mono ?_
    rintro e w1 ⟨rfl, b1⟩
    go_wp2
    go_ret
    exact ⟨rfl, b0.trans (b1.mono b0.size)⟩
end Go.Proofs.YtalhlbedgkhijaaDoor
