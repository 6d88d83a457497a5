/- What mask.Within and Same return at two lists of the same words: true. No condition but that the lists are short and each number has 64 bits. -/
import Derived.Test.YtalhlbedgkhijaaDoorCount
namespace Go.Proofs.YtalhlbedgkhijaaDoor
open Go.RowKit
set_option linter.unusedVariables false
theorem andNot_self (x : Int) (hx : U64 x) : bits .andNot .u64 x x = 0 := by
  obtain ⟨h0, h1⟩ := hx
  obtain ⟨n, rfl⟩ := Int.eq_ofNat_of_zero_le h0
  have hn : n < 2 ^ 64 := by omega
  rw [u64_andNot_nat _ _ hn hn]
  have : n &&& (18446744073709551615 - n) = 0 := by
    apply Nat.eq_of_testBit_eq
    intro i
    rw [Nat.testBit_and, testBit_not64 _ _ hn, Nat.zero_testBit]
    cases n.testBit i <;> simp
  omega
theorem getD_U64 {l : List Int} (h : ∀ z ∈ l, U64 z) (i : Nat) : U64 (l.getD i 0) := by
  by_cases hi : i < l.length
  · rw [getD_in l i hi]; exact h _ (List.getElem_mem hi)
  · have : l.getD i 0 = 0 := by simp [List.getD_eq_getElem?_getD, hi]
    rw [this]; exact ⟨by decide, by decide⟩
theorem fillL_same (a b : List Int) (N : Nat) (h : ∀ i, a.getD i 0 = b.getD i 0) (hU : ∀ z ∈ a, U64 z) : fillL a b N N = List.replicate N 0 := by
  unfold fillL
  apply List.ext_getElem
  · simp
  · intro i h1 h2
    simp only [List.getElem_map, List.getElem_range, List.getElem_replicate]
    rw [← h i, andNot_self _ (getD_U64 hU i)]
    simp
theorem cntL_zeros : ∀ N : Nat, cntL (List.replicate N 0) = 0
  | 0 => rfl
  | n + 1 => by
    have := cntL_zeros n
    unfold cntL at *
    rw [List.replicate_succ, List.map_cons, List.sum_cons, this]
    decide
set_option maxHeartbeats 400000 in
theorem within_eq (va vb : Value) (a b : List Int) (w : World) (ha : Lst .u64 w va a) (hb : Lst .u64 w vb b) (h1 : a.length ≤ 4096) (h2 : b.length ≤ 4096) (h : ∀ i, a.getD i 0 = b.getD i 0) (hU : ∀ z ∈ a, U64 z) :
    Calls Tryd.prog 22 #[va, vb] w fun e w' => e = .returned (.bool true) ∧ Below w.heap.size w w' := by
  have M := minus_any va vb a b w ha hb h1 h2
  rw [fillL_same a b _ h hU] at M
  have hN : max a.length b.length ≤ 4096 := by omega
  generalize max a.length b.length = N at *
  have z1 : cntL (List.replicate N 0) = 0 := cntL_zeros N
  have z2 : ∀ z ∈ List.replicate N (0 : Int), U64 z := fun z hz => by rw [List.eq_of_mem_replicate hz]; exact ⟨by decide, by decide⟩
  have z3 : (List.replicate N (0 : Int)).length ≤ 4096 := by rw [List.length_replicate]; exact hN
  generalize List.replicate N (0 : Int) = Z at *
  have M := Lib.hid M
  have z1 := Lib.hid z1
  have z2 := Lib.hid z2
  clear ha hb h h1 h2 hN hU
  go_enter Tryd.func22, Tryd.ntmps22
  go_wp2_with fail
  refine M.out.mono ?_
  rintro e w1 ⟨g, rfl, hB, hg, hb⟩
  have C := count_lst _ Z w1 (blk_lst hB (by unfold maxLen; omega)) z2.out z3
  rw [z1.out] at C
  have C := Lib.hid C
  clear hB
  go_wp2_with fail
  refine C.out.mono ?_
  rintro e w2 ⟨rfl, hq⟩
  go_wp2
  go_ret
  exact ⟨rfl, hb.trans hq.below⟩
set_option maxHeartbeats 400000 in
theorem same_eq (va vb : Value) (a b : List Int) (w : World) (ha : Lst .u64 w va a) (hb : Lst .u64 w vb b) (h1 : a.length ≤ 4096) (h2 : b.length ≤ 4096) (h : ∀ i, a.getD i 0 = b.getD i 0) (hU : ∀ z ∈ a, U64 z) (hV : ∀ z ∈ b, U64 z) :
    Calls Tryd.prog 20 #[va, vb] w fun e w' => e = .returned (.bool true) ∧ Below w.heap.size w w' := by
  have X := Lib.hid (within_eq va vb a b w ha hb h1 h2 h hU)
  have Y := Lib.hid (fun W (hq : Below w.heap.size w W) => within_eq vb va b a W (hb.below hq) (ha.below hq) h2 h1 (fun i => (h i).symm) hV)
  clear ha hb h hU hV
  go_enter Tryd.func20, Tryd.ntmps20
  go_wp2_with fail
  refine X.out.mono ?_
  rintro e w1 ⟨rfl, hb1⟩
  go_wp2_with fail
  refine (Y.out _ hb1).mono ?_
  rintro e w2 ⟨rfl, hb2⟩
  go_wp2
  go_ret
  exact ⟨rfl, hb1.trans (hb2.mono hb1.size)⟩
end Go.Proofs.YtalhlbedgkhijaaDoor
