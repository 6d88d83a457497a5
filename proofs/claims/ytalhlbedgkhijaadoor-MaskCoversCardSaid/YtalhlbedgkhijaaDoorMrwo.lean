/- What the document's Without of a set returns: as the program's. Condition: the list is short. -/
import Derived.Test.YtalhlbedgkhijaaDoorMrwi
namespace Go.Proofs.YtalhlbedgkhijaaDoor
open Go.RowKit
set_option linter.unusedVariables false

def neL (R : List Int) (p : Int) (k : Nat) : List Int := (R.take k).filter (fun q => q != p)
theorem neL_len (R : List Int) (p : Int) (k : Nat) : (neL R p k).length ≤ R.length := Nat.le_trans (List.length_filter_le _ _) (by rw [List.length_take]; omega)
theorem neL_yes (R : List Int) (p : Int) (k : Nat) (hk : k < R.length) (h : R.getD k 0 ≠ p) : neL R p (k + 1) = neL R p k ++ [R.getD k 0] := by
  unfold neL
  rw [List.take_succ_eq_append_getElem hk, List.filter_append, getD_in R k hk]
  rw [getD_in R k hk] at h
  simp [h]
theorem neL_no (R : List Int) (p : Int) (k : Nat) (hk : k < R.length) (h : R.getD k 0 = p) : neL R p (k + 1) = neL R p k := by
  unfold neL
  rw [List.take_succ_eq_append_getElem hk, List.filter_append]
  rw [getD_in R k hk] at h
  simp [h]
set_option maxRecDepth 100000 in
set_option maxHeartbeats 2000000 in
theorem rwithout_both (a : Option Addr) (n cap : Nat) (l : List Int) (p : Int) (w : World) (h : Lst .u64 w (.slice a n cap) l) (hn : l.length = n) (hU : ∀ z ∈ l, U64 z) (hl : n ≤ 1000) : Calls Tryd.prog 28 #[.slice a n cap, .int .i64 p] w (BothE (withE p) (withoutW l p) w) := by
  cases hb : okPl p with
  | false =>
    have hz := of_decide_eq_false hb
    have HE : Hid (∀ (w : World), BothE (withE p) (withoutW l p) w (.returned (.tuple #[.slice none 0 0, .int .i64 1])) w) := Lib.hid (fun w => nil_both _ (by unfold withoutW; rw [hb]; rfl) _ (by unfold withE; rw [hb]; rfl) ⟨rfl, Quiet.refl _⟩)
    by_cases hneg : p < 0
    · clear h hn hU hz hb
      go_enter Tryd.func28, Tryd.ntmps28
      go_wp2
      go_ret2
      exact HE.out _
    · have hbig : 65536 ≤ p := by omega
      clear h hn hU hz hb
      go_enter Tryd.func28, Tryd.ntmps28
      go_wp2
      go_ret2
      exact HE.out _
  | true =>
    have ho := of_decide_eq_true hb
    obtain ⟨P, rfl⟩ := Int.eq_ofNat_of_zero_le ho.1
    have hp0 : ¬ (P : Int) < 0 := by omega
    have hp1 : ¬ 65536 ≤ (P : Int) := by have := ho.2; omega
    obtain ⟨i0, hi, hz0, hz1, hz2⟩ := info_parts info_int
    have Z := Lib.hid (And.intro hi (And.intro hz0 (And.intro hz1 hz2)))
    have PL := Lib.hid (rplaces_any _ l w h hU (by omega))
    have hlen2 : (plL l).length ≤ 64 * l.length := plR_len l l.length
    have hRl : (plL l).length ≤ 70000 := by omega
    have HE : Hid (∀ (u : Value) W, Lst .i64 W u (neL (plL l) P (plL l).length) → Calls Tryd.prog 32 #[u, .int .i64 n] W (BothE (withE P) (withoutW l P) W)) := Lib.hid (fun u W hu => by
      have e1 : neL (plL l) P (plL l).length = (plL l).filter (fun q => q != (P : Int)) := by unfold neL; rw [List.take_of_length_le (Nat.le_refl _)]
      rw [e1] at hu
      have ok := okAll_pl (l := l) (by omega) ((plL l).filter (fun q => q != (P : Int))) (fun q hq => (List.mem_filter.1 hq).1)
      have r := rof_both u _ n W hu (by have := List.length_filter_le (fun q => q != (P : Int)) (plL l); omega) (by omega)
      rw [ok] at r
      have e2 := without_num hU P
      rw [hn] at e2
      simp only [if_true] at r
      rw [e2] at r
      refine r.mono (fun e w' hh => ?_)
      unfold BothPost at hh
      unfold withE withoutW
      have hb' : okPl (P : Int) = true := hb
      rw [hb']
      exact hh)
    clear h hU hn hi hz0 hz1 hz2 hlen2 ho hb
    generalize plL l = R at *
    go_enter Tryd.func28, Tryd.ntmps28
    go_wp2_with fail
    refine PL.out.mono ?_
    rintro e w1 ⟨u, rfl, hown, hb⟩
    obtain ⟨pa, pc, rfl⟩ := own_slice hown
    have hform : ∃ gb, 0 < R.length → pa = some ⟨gb, 0, none⟩ ∧ ∀ i, i < R.length → w1.cell? ⟨gb, i, none⟩ = some (.int .i64 (R.getD i 0)) := by
      by_cases hq : 0 < R.length
      · obtain ⟨gb, cap', hv, hgb, _⟩ := own_form hown hq
        simp only [Value.slice.injEq, true_and] at hv
        obtain ⟨rfl, rfl⟩ := hv
        exact ⟨gb, fun _ => ⟨rfl, fun i hi => own_int hown i hi⟩⟩
      · exact ⟨0, fun h => absurd h hq⟩
    obtain ⟨gb, hform⟩ := hform
    have HFm := Lib.hid hform
    have HRl := Lib.hid (And.intro hRl hl)
    clear PL hown hform hRl hl
    go_wp2
    go_loopw [7, 8] (fun o i wr => ∃ k : Nat, k ≤ R.length ∧ i = .int .i64 k ∧ wr.ownsRow w1.heap.size 3 1 o (neL R P k).length ((neL R P k).map (Value.int .i64)) ∧ Below w1.heap.size w1 wr) (fun _ i _ => R.length - (intOf i).toNat)
    case atStart => exact ⟨0, Nat.zero_le _, rfl, World.ownsRow_nil _ _ _ _, Below.refl _ _⟩
    case round =>
      obtain ⟨k, hk, rfl, hown, hB⟩ := hrel
      by_cases hlk : k < R.length
      · have h2 : (k : Int) < (R.length : Int) := by omega
        have h3 : (0 : Int) ≤ (k : Int) := by omega
        have hkw : wrap64 ((k : Int) + 1) = (k : Int) + 1 := by have := HRl.out.1; unfold wrap64; omega
        have hkw2 : IntKind.i64.wrap ((k : Int) + 1) = (k : Int) + 1 := by have := HRl.out.1; rw [IntKind.wrap_i64]; omega
        obtain ⟨rfl, hcc⟩ := HFm.out (by omega)
        have hck := (hB.cell (p := ⟨gb, k, none⟩) (World.block_lt_of_cell? w1 _ (hcc k hlk))).trans (hcc k hlk)
        have hnl := neL_len R P k
        by_cases he : R.getD k 0 = (P : Int)
        · have E := Lib.hid (neL_no R P k hlk he)
          rw [he] at hck
          clear hcc HFm he
          go_wp2
          go_roundw
          case rel => exact ⟨k + 1, by omega, by go_num, by rw [E.out]; exact hown, hB⟩
          case measure => simp [intOf]; omega
        · have E := Lib.hid (neL_yes R P k hlk he)
          have he' : (R.getD k 0 == (P : Int)) = false := by simpa using he
          clear hp0 hp1
          generalize R.getD k 0 = y at *
          generalize neL R P k = Fk at *
          clear hcc HFm he
          go_wp2_with (at_builtin; refine wpList_append_lies _ rfl _ _ 39 rfl w1.heap.size 3 i0 (.int .i64 0) 1 8 Tryd.underlying39 Z.out.1 Z.out.2.1 Z.out.2.2.1 Z.out.2.2.2 rfl (by decide) _ _ _ rfl (hown.alloc _) ⟨wr.heap.size, 0, none⟩ 1 1 [.int .i64 y] rfl rfl (cell_one_new _ _ _) (by simp [Value.oneCell']) (by decide) (by have := HRl.out.1; unfold maxLen; omega) (by have := HRl.out.1; omega) (by have := hB.size; simp; omega) (wr.heap.size + 1) (by simp) ?_; intro g cap3 w8 hown8 hgrow hat hlt8)
          have g8 : Below w1.heap.size w1 w8 := (hB.alloc hB.size _).grown hgrow (hB.alloc hB.size _).size (fun k' e => (hown.lt k' e).1)
          have hown9 : w8.ownsRow w1.heap.size 3 1 (.slice (some ⟨g, 0, none⟩) (Fk.length + 1) cap3) (neL R P (k + 1)).length ((neL R P (k + 1)).map (Value.int .i64)) := by
            rw [E.out, List.map_append, List.length_append]; exact hown8
          clear hown8 hgrow hat hown
          as_aux_lemma =>
            go_wp2
            go_roundw
            case rel => exact ⟨k + 1, by omega, by go_num, hown9, g8⟩
            case measure => simp [intOf]; omega
      · obtain rfl : k = R.length := by omega
        have RO := Lib.hid (HE.out u7 wr (lst_int hown))
        have hb9 := hb.trans (hB.mono hb.size)
        clear hown HE
        go_wp2_with fail
        refine RO.out.mono ?_
        rintro e w9 ⟨u9, rfl, k1, k2, k3⟩
        go_wp2
        go_ret2
        exact ⟨u9, rfl, k1, fun b hb => Nat.le_trans hb9.size (k2 b hb), hb9.trans (k3.mono hb9.size)⟩
end Go.Proofs.YtalhlbedgkhijaaDoor
