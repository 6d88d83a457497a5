/- What the small functions of package mask return: fits, end, bit, read, Has. No condition but that the numbers fit their kinds. -/
import Derived.Test.YtbpgnhakphpobaaDoorClom
import Derived.Test.YtbpgnhakphpobaaDoorOnesb
namespace Go.Proofs.YtbpgnhakphpobaaDoor
open Go.RowKit
def mbitI (at' : Nat) : Int := ((2 ^ (at' % 64) : Nat) : Int)
def hasB (l : List Int) (at' : Nat) : Bool := bits .and .u64 (l.getD (at' / 64) 0) (mbitI at') != 0
theorem wrap_pow (k : Nat) (h : k < 64) : IntKind.u64.wrap (2 ^ k) = ((2 ^ k : Nat) : Int) := by
  have e : (2 : Int) ^ k = ((2 ^ k : Nat) : Int) := by simp
  have h2 : 2 ^ k < 2 ^ 64 := Nat.pow_lt_pow_right (by decide) h
  rw [e, IntKind.wrap_u64]
  clear e
  generalize 2 ^ k = m at *
  omega
set_option maxRecDepth 100000 in
set_option maxHeartbeats 400000 in
theorem fits_yes (at' : Nat) (w : World) (h : at' < 65536) :
    Calls Tryd.prog 19 #[.int .i64 at'] w fun e w' => e = .returned (.bool true) ∧ Quiet w w' := by
  have hb : ((at' : Int) < 65536) := by omega
  have hb0 : ((0 : Int) ≤ at') := by omega
  clear h
  go_enter Tryd.func19, Tryd.ntmps19
  go_wp2
  go_ret
  exact ⟨rfl, Quiet.refl _⟩
set_option maxHeartbeats 400000 in
theorem end_any (a : Option Addr) (n c : Nat) (w : World) (h : n ≤ 1000000) :
    Calls Tryd.prog 21 #[.slice a n c] w fun e w' => e = .returned (.int .i64 (64 * (n : Int))) ∧ Quiet w w' := by
  go_enter Tryd.func21, Tryd.ntmps21
  go_wp2
  go_ret
  exact ⟨rfl, Quiet.refl _⟩
set_option maxHeartbeats 400000 in
theorem mbit_any (at' : Nat) (w : World) (h : at' < 1000000) :
    Calls Tryd.prog 20 #[.int .i64 at'] w fun e w' => e = .returned (.int .u64 (mbitI at')) ∧ Quiet w w' := by
  have h0 : (0 : Int) ≤ (at' : Int) := by omega
  go_enter Tryd.func20, Tryd.ntmps20
  go_wp2
  go_ret
  exact ⟨ret_int (wrap_pow _ (Nat.mod_lt _ (by decide))), Quiet.refl _⟩
end Go.Proofs.YtbpgnhakphpobaaDoor
