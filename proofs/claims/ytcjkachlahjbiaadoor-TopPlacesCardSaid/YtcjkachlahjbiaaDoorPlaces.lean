/- What the document's Places, Rank and Mask return, and word.Ones, Rank and Highest, for all words. No condition but that each number fits its kind. -/
import Derived.Test.YtcjkachlahjbiaaDoorPlcs
import Derived.Test.YtcjkachlahjbiaaDoorWord
import Derived.Maps.AppendAt
import Derived.Test.YtcjkachlahjbiaaDoorLen
namespace Go.Proofs.YtcjkachlahjbiaaDoor
open Go.RowKit
set_option linter.unusedVariables false

theorem Quiet.ownsRow {w w' : World} {base : Nat} {e : TypeId} {size : Nat} {v : Value} {n : Nat} {xs : List Value} (hq : Quiet w w') (h : w.ownsRow base e size v n xs) : w'.ownsRow base e size v n xs := by
  obtain ⟨n, rfl⟩ := hq
  exact h
theorem info_int : (Tryd.prog.info? 3).map (fun i => (i.zero, i.size, i.bytes)) = some (some (.int .i64 0), 1, 8) := by kernel_rfl
theorem lst_of_own {k : IntKind} {w : World} {base : Nat} {e : TypeId} {v : Value} {n : Nat} {zs : List Int} (h : w.ownsRow base e 1 v n (zs.map (Value.int k))) : Lst k w v zs := by
  have hn : zs.length = n := by have := h.1; simpa using this
  rcases h.2 with ⟨h1, h2⟩ | ⟨g, cap, cur, h1, _, _, h4, h5, _⟩
  · exact .inl ⟨List.eq_nil_of_length_eq_zero (by omega), none, 0, h1⟩
  · rcases Nat.eq_zero_or_pos n with h0 | h0
    · exact .inl ⟨List.eq_nil_of_length_eq_zero (by omega), _, cap, by rw [h1, h0]⟩
    · refine .inr ⟨g, 0, cap, by rw [hn]; exact h1, by omega, by omega, fun i hi => ?_⟩
      subst h1
      have := h.cellAt i (by omega)
      rw [Nat.zero_add, this]
      simp [List.getD_eq_getElem?_getD, hi]

/-- how many ones stand below a bit -/
def rankI (x a : Int) : Int := (((plcs x.toNat (bnd a).toNat).length : Nat) : Int)
theorem bnd_min (a : Int) : (bnd a).toNat = min 64 a.toNat := by unfold bnd; split <;> (try split) <;> omega
theorem rank_and (x a : Int) (hx : U64 x) : onesI (bits .and .u64 x (maskI a)) = rankI x a ∧ U64 (bits .and .u64 x (maskI a)) := by
  obtain ⟨X, rfl⟩ := Int.eq_ofNat_of_zero_le hx.1
  have hX : X < 2 ^ 64 := by have := hx.2; omega
  have hm := maskI_U64 a
  have hb := bnd_bd a
  unfold maskI at hm ⊢
  rw [bits_and_u64_nat _ _ hX (by have := hm.2; omega), Nat.and_two_pow_sub_one_eq_mod]
  refine ⟨?_, U64.nat _ (Nat.lt_of_le_of_lt (Nat.mod_le _ _) hX)⟩
  unfold onesI rankI
  rw [Int.toNat_natCast, Int.toNat_natCast, plcs_length]
  obtain ⟨b, hb'⟩ : ∃ b, b = (bnd a).toNat := ⟨_, rfl⟩
  rw [← hb']
  have h64 : 64 = b + (64 - b) := by omega
  have h := cnt_add (X % 2 ^ b) 0 b (Nat.mod_lt _ (Nat.two_pow_pos b)) (64 - b)
  rw [Nat.mul_zero, Nat.zero_add, ← h64, ← cnt_all] at h
  have h0 : ∀ m, cnt 0 m = 0 := by
    intro m
    induction m with
    | zero => rfl
    | succ m ih => simp [cnt, ih]
  rw [h, h0, Nat.add_zero]

set_option maxHeartbeats 400000 in
theorem ones_w (x : Int) (w : World) (hx : U64 x) :
    Calls Tryd.prog 26 #[.int .u64 x] w fun e w' => e = .returned (.int .i64 (onesI x)) ∧ Quiet w w' := by
  have R := Lib.hid (fun W => onesCount_any x W hx)
  generalize onesI x = y at *
  go_enter Tryd.func26, Tryd.ntmps26
  go_wp2_with (go_at_call 35; refine (R.out _).mono ?_; rintro e w1 ⟨rfl, hq1⟩)
  go_ret
  exact ⟨rfl, hq1⟩

theorem filt_take_succ (L : List Int) (a : Int) (k : Nat) (h : k < L.length) :
    (((L.take (k + 1)).filter fun z => decide (z < a)).length = ((L.take k).filter fun z => decide (z < a)).length + (if L.getD k 0 < a then 1 else 0)) := by
  rw [List.take_add_one, List.getElem?_eq_getElem h, List.filter_append, List.length_append]
  simp only [Option.toList]
  rw [List.getD_eq_getElem?_getD, List.getElem?_eq_getElem h, Option.getD_some]
  by_cases h1 : L[k] < a <;> simp [h1]

theorem mask_step (n : Int) (j : Nat) (hj : j < 64) : (j < n → IntKind.u64.wrap (((2 ^ min j n.toNat - 1 : Nat) : Int) + powI j) = ((2 ^ min (j + 1) n.toNat - 1 : Nat) : Int)) ∧ (¬ j < n → min (j + 1) n.toNat = min j n.toNat) := by
  refine ⟨fun h => ?_, fun h => by omega⟩
  have e1 : min j n.toNat = j := by omega
  have e2 : min (j + 1) n.toNat = j + 1 := by omega
  have hp := Nat.two_pow_pos j
  have h1 : 2 ^ (j + 1) ≤ 2 ^ 64 := Nat.pow_le_pow_right (by decide) (by omega)
  rw [e1, e2, IntKind.wrap_u64]
  unfold powI
  rw [Int.toNat_natCast]
  rw [Nat.pow_succ] at h1 ⊢
  omega
/-- the highest bit that is 1; -1: none -/
def highI (x : Int) : Int := ((Lib.bitLen x.toNat : Nat) : Int) - 1
end Go.Proofs.YtcjkachlahjbiaaDoor
