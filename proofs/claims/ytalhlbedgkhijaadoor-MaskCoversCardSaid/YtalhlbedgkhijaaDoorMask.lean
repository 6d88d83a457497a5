/- What the small functions of package mask return: fits, end, bit, read, Has. No condition but that the numbers fit their kinds. -/
import Derived.Test.YtalhlbedgkhijaaDoorClom
import Derived.Test.YtalhlbedgkhijaaDoorOnesb
namespace Go.Proofs.YtalhlbedgkhijaaDoor
open Go.RowKit
def mbitI (at' : Nat) : Int := ((2 ^ (at' % 64) : Nat) : Int)
def hasB (l : List Int) (at' : Nat) : Bool := bits .and .u64 (l.getD (at' / 64) 0) (mbitI at') != 0
theorem wrap_pow (k : Nat) (h : k < 64) : IntKind.u64.wrap (2 ^ k) = ((2 ^ k : Nat) : Int) := by
  have e : (2 : Int) ^ k = ((2 ^ k : Nat) : Int) := by simp
  have h2 : 2 ^ k < 2 ^ 64 := Nat.pow_lt_pow_right (by decide) h
  rw [e, IntKind.wrap_u64]
  clear e
  generalize 2 ^ k = m at *
  omega
set_option maxRecDepth 100000 in
set_option maxHeartbeats 400000 in
theorem fits_yes (at' : Nat) (w : World) (h : at' < 65536) :
    Calls Tryd.prog 52 #[.int .i64 at'] w fun e w' => e = .returned (.bool true) ∧ Quiet w w' := by
  have hb : ((at' : Int) < 65536) := by omega
  have hb0 : ((0 : Int) ≤ at') := by omega
  clear h
  go_enter Tryd.func52, Tryd.ntmps52
  go_wp2
  go_ret
  exact ⟨rfl, Quiet.refl _⟩
set_option maxHeartbeats 400000 in
theorem end_any (a : Option Addr) (n c : Nat) (w : World) (h : n ≤ 1000000) :
    Calls Tryd.prog 51 #[.slice a n c] w fun e w' => e = .returned (.int .i64 (64 * (n : Int))) ∧ Quiet w w' := by
  go_enter Tryd.func51, Tryd.ntmps51
  go_wp2
  go_ret
  exact ⟨rfl, Quiet.refl _⟩
set_option maxHeartbeats 400000 in
theorem mbit_any (at' : Nat) (w : World) (h : at' < 1000000) :
    Calls Tryd.prog 43 #[.int .i64 at'] w fun e w' => e = .returned (.int .u64 (mbitI at')) ∧ Quiet w w' := by
  have h0 : (0 : Int) ≤ (at' : Int) := by omega
  go_enter Tryd.func43, Tryd.ntmps43
  go_wp2
  go_ret
  exact ⟨ret_int (wrap_pow _ (Nat.mod_lt _ (by decide))), Quiet.refl _⟩
set_option maxHeartbeats 400000 in
theorem read_any (v : Value) (l : List Int) (i : Nat) (w : World) (h : Lst .u64 w v l) (_hi : i < 1000000) :
    Calls Tryd.prog 42 #[v, .int .i64 i] w fun e w' => e = .returned (.int .u64 (l.getD i 0)) ∧ Quiet w w' := by
  rcases h with ⟨rfl, a, cap, rfl⟩ | ⟨b, o, cap, rfl, h1, h2, h3⟩
  · go_enter Tryd.func42, Tryd.ntmps42
    go_wp2
    go_ret
    exact ⟨rfl, Quiet.refl _⟩
  · unfold maxLen at h2
    by_cases hl : i < l.length
    · have hc := h3 i hl
      clear h3
      generalize l.getD i 0 = z at *
      go_enter Tryd.func42, Tryd.ntmps42
      go_wp2
      go_ret
      exact ⟨rfl, Quiet.refl _⟩
    · have hz : l.getD i 0 = 0 := by simp [List.getD_eq_getElem?_getD, hl]
      rw [hz]
      clear h3 hz
      go_enter Tryd.func42, Tryd.ntmps42
      go_wp2
      go_ret
      exact ⟨rfl, Quiet.refl _⟩
set_option maxHeartbeats 400000 in
theorem has_any (v : Value) (l : List Int) (at' : Nat) (w : World) (h : Lst .u64 w v l) (hi : at' < 1000000) :
    Calls Tryd.prog 15 #[v, .int .i64 at'] w fun e w' => e = .returned (.bool (hasB l at')) ∧ Quiet w w' := by
  have R := Lib.hid (fun W (hq : Quiet w W) => read_any v l (at' / 64) W (h.quiet hq) (by omega))
  have B := Lib.hid (fun W => mbit_any at' W hi)
  unfold hasB
  generalize l.getD (at' / 64) 0 = z at *
  generalize mbitI at' = y at *
  have h0 : (0 : Int) ≤ (at' : Int) := by omega
  clear h
  go_enter Tryd.func15, Tryd.ntmps15
  go_wp2_with fail
  rw [show (at' : Int) / 64 = ((at' / 64 : Nat) : Int) from by omega]
  refine (R.out _ (Quiet.refl _)).mono ?_
  rintro e w1 ⟨rfl, hq1⟩
  go_wp2_with fail
  refine (B.out _).mono ?_
  rintro e w2 ⟨rfl, hq2⟩
  go_wp2
  go_ret
  exact ⟨rfl, hq1.trans hq2⟩
end Go.Proofs.YtalhlbedgkhijaaDoor
