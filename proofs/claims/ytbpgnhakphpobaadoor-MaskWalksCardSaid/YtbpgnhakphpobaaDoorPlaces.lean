/- What the document's Places, Rank and Mask return, and word.Ones, Rank and Highest, for all words. No condition but that each number fits its kind. -/
import Derived.Test.YtbpgnhakphpobaaDoorPlcs
import Derived.Test.YtbpgnhakphpobaaDoorWord
import Derived.Maps.AppendAt
import Derived.Test.YtbpgnhakphpobaaDoorLen
namespace Go.Proofs.YtbpgnhakphpobaaDoor
open Go.RowKit
set_option linter.unusedVariables false

theorem Quiet.ownsRow {w w' : World} {base : Nat} {e : TypeId} {size : Nat} {v : Value} {n : Nat} {xs : List Value} (hq : Quiet w w') (h : w.ownsRow base e size v n xs) : w'.ownsRow base e size v n xs := by
  obtain ⟨n, rfl⟩ := hq
  exact h
theorem info_int : (Tryd.prog.info? 3).map (fun i => (i.zero, i.size, i.bytes)) = some (some (.int .i64 0), 1, 8) := by kernel_rfl
theorem lst_of_own {k : IntKind} {w : World} {base : Nat} {e : TypeId} {v : Value} {n : Nat} {zs : List Int} (h : w.ownsRow base e 1 v n (zs.map (Value.int k))) : Lst k w v zs := by
  have hn : zs.length = n := by have := h.1; simpa using this
  rcases h.2 with ⟨h1, h2⟩ | ⟨g, cap, cur, h1, _, _, h4, h5, _⟩
  · exact .inl ⟨List.eq_nil_of_length_eq_zero (by omega), none, 0, h1⟩
  · rcases Nat.eq_zero_or_pos n with h0 | h0
    · exact .inl ⟨List.eq_nil_of_length_eq_zero (by omega), _, cap, by rw [h1, h0]⟩
    · refine .inr ⟨g, 0, cap, by rw [hn]; exact h1, by omega, by omega, fun i hi => ?_⟩
      subst h1
      have := h.cellAt i (by omega)
      rw [Nat.zero_add, this]
      simp [List.getD_eq_getElem?_getD, hi]

theorem bit_yes (x : Int) (j : Nat) (hx : U64 x) (hj : j < 64) (h : x.toNat.testBit j = true) (w : World) :
    Calls Tryd.prog 26 #[.int .u64 x, .int .i64 j] w fun e w' => e = .returned (.int .u64 1) ∧ Quiet w w' := by
  have := bit_any x j w hx (by omega)
  unfold bitI at this
  rw [Int.toNat_natCast, h] at this
  exact this
theorem bit_no (x : Int) (j : Nat) (hx : U64 x) (hj : j < 64) (h : x.toNat.testBit j = false) (w : World) :
    Calls Tryd.prog 26 #[.int .u64 x, .int .i64 j] w fun e w' => e = .returned (.int .u64 0) ∧ Quiet w w' := by
  have := bit_any x j w hx (by omega)
  unfold bitI at this
  rw [Int.toNat_natCast, h] at this
  exact this

set_option maxHeartbeats 1000000 in
theorem places_any (x : Int) (w : World) (hx : U64 x) :
    Calls Tryd.prog 18 #[.int .u64 x] w fun e w' => ∃ v, e = .returned v ∧ w'.ownsRow w.heap.size 3 1 v (plcs x.toNat 64).length ((plcs x.toNat 64).map (Value.int .i64)) ∧ Below w.heap.size w w' := by
  obtain ⟨i0, hi, hz0, hz1, hz2⟩ := info_parts info_int
  go_enter Tryd.func18, Tryd.ntmps18
  go_wp2
  go_loopw [3, 4] (fun v i wr => ∃ (j : Nat), j ≤ 64 ∧ i = .int .i64 j ∧ wr.ownsRow w.heap.size 3 1 v (plcs x.toNat j).length ((plcs x.toNat j).map (Value.int .i64)) ∧ Below w.heap.size w wr)
    (fun _ i _ => 64 - (intOf i).toNat)
  case atStart => exact ⟨0, Nat.zero_le _, rfl, World.ownsRow_nil _ _ _ _, Below.refl _ _⟩
  case round =>
    obtain ⟨j, hj, rfl, hown, hb⟩ := hrel
    have hlen := plcs_len_le x.toNat j
    have hsz := hb.size
    by_cases hlt : j < 64
    · cases hbit : x.toNat.testBit j with
      | true =>
        have P := Lib.hid (fun W => bit_yes x j hx hlt hbit W)
        have E := Lib.hid (plcs_one x.toNat j hbit)
        clear hbit
        generalize plcs x.toNat j = L at *
        go_wp2_with (first | (go_at_call 26; refine (P.out _).mono ?_; rintro e w2 ⟨rfl, hq2⟩; have hown2 := hq2.ownsRow hown; have hb2 := hb.trans (hq2.below (B := w.heap.size)); have hsz2 := hb2.size) | (at_builtin; refine wpList_append_own _ rfl _ _ 25 rfl w.heap.size 3 i0 (.int .i64 0) 1 8 Tryd.underlying25 hi hz0 hz1 hz2 rfl (by decide) _ _ _ rfl (hown2.alloc _) ⟨w2.heap.size, 0, none⟩ 1 1 [.int .i64 j] rfl rfl (cell_one_new _ _ _) ?c2 ?c3 ?c4 ?c5 ?_))
        case c2 => simp [Value.oneCell']
        case c3 => unfold maxLen; omega
        case c4 => omega
        case c5 => simp; omega
        intro v' w3 hown3 hgrow _
        have hb3 : Below w.heap.size w w3 := (hb2.alloc hsz2 _).grown hgrow (by simp; omega) (fun j hj => (hown2.lt j hj).1)
        have hown4 : w3.ownsRow w.heap.size 3 1 v' (plcs x.toNat (j + 1)).length ((plcs x.toNat (j + 1)).map (Value.int .i64)) := by rw [E.out, List.map_append, List.length_append]; exact hown3
        clear hown3 hgrow hown2 hown hb2 hb E
        go_wp2
        go_roundw
        case rel => exact ⟨j + 1, by omega, by go_num, hown4, hb3⟩
        case measure => simp [intOf]; omega
      | false =>
        have P := Lib.hid (fun W => bit_no x j hx hlt hbit W)
        have E := Lib.hid (plcs_no x.toNat j hbit)
        clear hbit
        rw [← E.out] at hown
        generalize hLL : plcs x.toNat (j + 1) = L at hown
        have HL := Lib.hid hLL
        clear hLL E hlen
        go_wp2_with (go_at_call 26; refine (P.out _).mono ?_; rintro e w2 ⟨rfl, hq2⟩; have hown2 := hq2.ownsRow hown; have hb2 := hb.trans (hq2.below (B := w.heap.size)); have hsz2 := hb2.size)
        go_roundw
        case rel => exact ⟨j + 1, by omega, by go_num, by rw [HL.out]; exact hown2, hb2⟩
        case measure => simp [intOf]; omega
    · obtain rfl : j = 64 := by omega
      go_wp2
      go_ret
      exact ⟨_, rfl, hown, hb⟩

theorem places_lst (x : Int) (w : World) (hx : U64 x) :
    Calls Tryd.prog 18 #[.int .u64 x] w fun e w' => ∃ v, e = .returned v ∧ Lst .i64 w' v (plcs x.toNat 64) ∧ Below w.heap.size w w' :=
  (places_any x w hx).mono fun _ _ ⟨v, he, hr, hb⟩ => ⟨v, he, lst_of_own hr, hb⟩
/-- .. of 0, of another word: nil, a row of cells. -/
theorem places_none (w : World) : Calls Tryd.prog 18 #[.int .u64 0] w fun e w' => ∃ a c, e = .returned (.slice a 0 c) ∧ Below w.heap.size w w' :=
  (places_lst 0 w (by constructor <;> decide)).mono fun _ _ ⟨v, he, hl, hb⟩ => by
    rw [show (0 : Int).toNat = 0 from rfl, plcs_nil] at hl
    rcases hl with ⟨_, a, c, h1⟩ | ⟨_, _, _, _, h2, _⟩
    · exact ⟨a, c, by rw [he, h1], hb⟩
    · exact absurd h2 (by simp)
theorem places_some (x : Int) (w : World) (n : Nat) (hx : U64 x) (hn : n = (plcs x.toNat 64).length) (h0 : 0 < n) :
    Calls Tryd.prog 18 #[.int .u64 x] w fun e w' => ∃ b o c, e = .returned (.slice (some ⟨b, o, none⟩) n c) ∧ (∀ i, i < n → w'.cell? ⟨b, o + i, none⟩ = some (.int .i64 ((plcs x.toNat 64).getD i 0))) ∧ Below w.heap.size w w' := by
  subst hn
  refine (places_lst x w hx).mono fun _ _ ⟨v, he, hl, hb⟩ => ?_
  rcases hl with ⟨h1, _⟩ | ⟨b, o, c, h1, _, h3, h4⟩
  · rw [h1] at h0; exact absurd h0 (by simp)
  · exact ⟨b, o, c, by rw [he, h1], h4, hb⟩

/-- how many ones stand below a bit -/
def rankI (x a : Int) : Int := (((plcs x.toNat (bnd a).toNat).length : Nat) : Int)
theorem bnd_min (a : Int) : (bnd a).toNat = min 64 a.toNat := by unfold bnd; split <;> (try split) <;> omega
theorem rank_and (x a : Int) (hx : U64 x) : onesI (bits .and .u64 x (maskI a)) = rankI x a ∧ U64 (bits .and .u64 x (maskI a)) := by
  obtain ⟨X, rfl⟩ := Int.eq_ofNat_of_zero_le hx.1
  have hX : X < 2 ^ 64 := by have := hx.2; omega
  have hm := maskI_U64 a
  have hb := bnd_bd a
  unfold maskI at hm ⊢
  rw [bits_and_u64_nat _ _ hX (by have := hm.2; omega), Nat.and_two_pow_sub_one_eq_mod]
  refine ⟨?_, U64.nat _ (Nat.lt_of_le_of_lt (Nat.mod_le _ _) hX)⟩
  unfold onesI rankI
  rw [Int.toNat_natCast, Int.toNat_natCast, plcs_length]
  obtain ⟨b, hb'⟩ : ∃ b, b = (bnd a).toNat := ⟨_, rfl⟩
  rw [← hb']
  have h64 : 64 = b + (64 - b) := by omega
  have h := cnt_add (X % 2 ^ b) 0 b (Nat.mod_lt _ (Nat.two_pow_pos b)) (64 - b)
  rw [Nat.mul_zero, Nat.zero_add, ← h64, ← cnt_all] at h
  have h0 : ∀ m, cnt 0 m = 0 := by
    intro m
    induction m with
    | zero => rfl
    | succ m ih => simp [cnt, ih]
  rw [h, h0, Nat.add_zero]

theorem filt_take_succ (L : List Int) (a : Int) (k : Nat) (h : k < L.length) :
    (((L.take (k + 1)).filter fun z => decide (z < a)).length = ((L.take k).filter fun z => decide (z < a)).length + (if L.getD k 0 < a then 1 else 0)) := by
  rw [List.take_add_one, List.getElem?_eq_getElem h, List.filter_append, List.length_append]
  simp only [Option.toList]
  rw [List.getD_eq_getElem?_getD, List.getElem?_eq_getElem h, Option.getD_some]
  by_cases h1 : L[k] < a <;> simp [h1]

theorem mask_step (n : Int) (j : Nat) (hj : j < 64) : (j < n → IntKind.u64.wrap (((2 ^ min j n.toNat - 1 : Nat) : Int) + powI j) = ((2 ^ min (j + 1) n.toNat - 1 : Nat) : Int)) ∧ (¬ j < n → min (j + 1) n.toNat = min j n.toNat) := by
  refine ⟨fun h => ?_, fun h => by omega⟩
  have e1 : min j n.toNat = j := by omega
  have e2 : min (j + 1) n.toNat = j + 1 := by omega
  have hp := Nat.two_pow_pos j
  have h1 : 2 ^ (j + 1) ≤ 2 ^ 64 := Nat.pow_le_pow_right (by decide) (by omega)
  rw [e1, e2, IntKind.wrap_u64]
  unfold powI
  rw [Int.toNat_natCast]
  rw [Nat.pow_succ] at h1 ⊢
  omega
/-- the highest bit that is 1; -1: none -/
def highI (x : Int) : Int := ((Lib.bitLen x.toNat : Nat) : Int) - 1
end Go.Proofs.YtbpgnhakphpobaaDoor
