/- math/bits' table as the start lays it, and what math/bits.TrailingZeros64 and word.Lowest return where it lies so. No other condition. -/
import Derived.Test.YtcjkachlahjbiaaDoorTouch
import Derived.Lib.TrailingZeros
namespace Go.Proofs.YtcjkachlahjbiaaDoor
open Go.RowKit

/-- the table in its variable -/
def tabF (j : Nat) : Int := ((Lib.deBruijn64tab.getD j 0 : Nat) : Int)
def Tab (w : World) : Prop := ∀ j, j < 64 → w.cell? ⟨1, j, none⟩ = some (.int .u8 (tabF j))
theorem Tab.quiet {w w' : World} (h : Tab w) (q : Quiet w w') : Tab w' := fun j hj => (q.cell _).trans (h j hj)
theorem Tab.lt {w : World} (h : Tab w) : 1 < w.heap.size := World.block_lt_of_cell? w _ (h 0 (by decide))
theorem Tab.below {B : Nat} {w w' : World} (h : Tab w) (hb : Below B w w') (hl : 1 < B) : Tab w' := fun j hj => (hb.cell (p := ⟨1, j, none⟩) hl).trans (h j hj)
theorem Tab.grew {w w' : World} (h : Tab w) (hb : Below w.heap.size w w') : Tab w' := h.below hb h.lt

/-- the lowest bit that is 1; 64: none -/
def lowI (x : Int) : Int := ((Lib.ctz 64 x.toNat : Nat) : Int)
theorem lowI_bd (x : Int) (hx : U64 x) : 0 ≤ lowI x ∧ lowI x ≤ 64 := by
  unfold lowI
  by_cases h : x.toNat = 0
  · rw [h]; decide
  · have := (Lib.lowest_bit 64 x.toNat h (by have := hx.2; omega)).2
    omega

theorem tz64_key (x a : Nat) (hx : x < 18446744073709551616) (hx0 : x ≠ 0) (hlow : x &&& (18446744073709551616 - x) = a) :
    IntKind.u64.wrap (bits BinOp.and IntKind.u64 (x : Int) (IntKind.u64.wrap (-(x : Int))) * 285870213051353865) / 288230376151711744 = ((a * 285870213051353865 % 18446744073709551616 / 288230376151711744 : Nat) : Int) := by
  have e1 : IntKind.u64.wrap (-(x : Int)) = ((18446744073709551616 - x : Nat) : Int) := by rw [IntKind.wrap_u64]; omega
  rw [e1, bits_and_u64_nat x _ hx (by omega), hlow, IntKind.wrap_u64]
  omega

set_option maxHeartbeats 1000000 in
theorem tz_core (x k idx : Nat) (w : World) (hx0 : ((x : Int) == 0) = false)
    (key : IntKind.u64.wrap (bits BinOp.and IntKind.u64 (x : Int) (IntKind.u64.wrap (-(x : Int))) * 285870213051353865) / 288230376151711744 = (idx : Int))
    (hi : idx < 64) (hk : k < 64) (hcell : w.cell? ⟨1, idx, none⟩ = some (.int .u8 k)) :
    Calls Tryd.prog 40 #[.int .u64 x] w fun e w' => e = .returned (.int .i64 k) ∧ w' = w := by
  go_enter Tryd.func40, Tryd.ntmps40
  go_wp2_with (simp only [key])
  go_ret
  exact ⟨rfl, rfl⟩

set_option maxHeartbeats 400000 in
theorem tz_zero (w : World) : Calls Tryd.prog 40 #[.int .u64 0] w fun e w' => e = .returned (.int .i64 64) ∧ w' = w := by
  go_enter Tryd.func40, Tryd.ntmps40
  go_wp2
  go_ret
  exact ⟨rfl, rfl⟩

theorem tz_any (x : Int) (w : World) (hx : U64 x) (hT : Tab w) :
    Calls Tryd.prog 40 #[.int .u64 x] w fun e w' => e = .returned (.int .i64 (lowI x)) ∧ w' = w := by
  obtain ⟨X, rfl⟩ := Int.eq_ofNat_of_zero_le hx.1
  have hX : X < 18446744073709551616 := by have := hx.2; omega
  by_cases hx0 : X = 0
  · subst hx0
    exact tz_zero w
  · obtain ⟨hlow, hk⟩ := Lib.lowest_bit 64 X hx0 hX
    obtain ⟨hi, htab⟩ := Lib.deBruijn64_at _ hk
    have hcell := hT _ hi
    unfold tabF at hcell
    rw [htab] at hcell
    exact tz_core X _ _ w (by simp; omega) (tz64_key X _ hX hx0 hlow) hi hk hcell

set_option maxHeartbeats 400000 in
theorem lowest_still (x : Int) (w : World) (hx : U64 x) (hT : Tab w) :
    Calls Tryd.prog 37 #[.int .u64 x] w fun e w' => e = .returned (.int .i64 (lowI x)) ∧ w' = w := by
  go_enter Tryd.func37, Tryd.ntmps37
  go_wp2_with (go_at_call 40; refine (tz_any _ _ hx hT).mono ?_; rintro e w1 ⟨rfl, rfl⟩)
  go_ret
  exact ⟨rfl, rfl⟩
theorem lowest_any (x : Int) (w : World) (hx : U64 x) (hT : Tab w) :
    Calls Tryd.prog 37 #[.int .u64 x] w fun e w' => e = .returned (.int .i64 (lowI x)) ∧ Quiet w w' :=
  (lowest_still x w hx hT).mono fun _ _ ⟨h1, h2⟩ => ⟨h1, h2 ▸ Quiet.refl _⟩
end Go.Proofs.YtcjkachlahjbiaaDoor
