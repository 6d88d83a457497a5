/- The document's Starts, Cell, Free, First and Valid of layer 5. No condition but that each number fits its kind. -/
import Derived.Test.YtedehigncipopaaDoorBegins
namespace Go.Proofs.YtedehigncipopaaDoor
open Go.RowKit
set_option linter.unusedVariables false

set_option maxHeartbeats 1000000 in
theorem rstarts_any (c : Int) (w : World) :
    Calls Tryd.prog 15 #[.int .i64 c] w fun e w' => e = .returned (.tuple #[.int .u64 (startsI c), .int .i64 (errI c)]) ∧ Below w.heap.size w w' := by
  have P := Lib.hid (fun W => rwords_any c W)
  cases hc : clsB c with
  | false =>
    have Q := Lib.hid (fun W => begins_none c W hc)
    obtain ⟨h1, h2, h3, h4, h5⟩ := cls_none c hc
    rw [h1, h4] at P
    rw [h3, h4]
    clear h1 h2 h3 h4 h5 hc
    go_enter Tryd.func15, Tryd.ntmps15
    go_wp2_with fail
    refine (P.out _).mono ?_
    rintro e w2 ⟨rfl, hb2⟩
    go_wp2_with fail
    refine (Q.out _).mono ?_
    rintro e w3 ⟨a, k, rfl, hb3⟩
    have hb := hb2.trans (hb3.mono hb2.size)
    go_wp2
    go_loopw [6, 8] (fun v i wr => v = .int .u64 0 ∧ i = .int .i64 0 ∧ wr = w3) (fun _ _ _ => 0)
    case atStart => exact ⟨rfl, rfl, rfl⟩
    case round =>
      obtain ⟨rfl, rfl, rfl⟩ := hrel
      go_wp2
      go_ret2
      exact ⟨rfl, hb⟩
  | true =>
    obtain ⟨j, rfl, hj⟩ := clsB_yes hc
    obtain ⟨_, h2, h3, h4, h5⟩ := cls_nat j hj
    have Q := Lib.hid (fun W => begins_some j hj W)
    have hfit : Hid (∀ k, k < numF j → ((k : Nat) : Int) * widF j + widF j ≤ 64) := num_in j hj
    have hsum : Hid (∀ k, k < numF j → IntKind.u64.wrap (stOr (widF j) (List.range k) + powI (((k : Nat) : Int) * widF j)) = stOr (widF j) (List.range (k + 1))) :=
      fun k hk => starts_sum ⟨j, hj⟩ ⟨k, Nat.lt_of_lt_of_le hk (num_le j hj)⟩ hk
    have hle := num_le j hj
    have hwd := widF_bd j hj
    rw [h2, h5] at P
    rw [h4, h5]
    clear h2 h3 h4 h5 hc
    generalize widF j = v at *
    generalize numF j = N at *
    have PW := Lib.hid (fun i W (h : i ≤ 63) => power_any i W h)
    go_enter Tryd.func15, Tryd.ntmps15
    go_wp2_with fail
    refine (P.out _).mono ?_
    rintro e w2 ⟨rfl, hb2⟩
    go_wp2_with fail
    refine (Q.out _).mono ?_
    rintro e w3 ⟨b, o, q, rfl, hcell, hb3⟩
    have hb := hb2.trans (hb3.mono hb2.size)
    have HC := Lib.hid hcell
    clear hcell hb2 hb3
    go_wp2
    go_loopw [6, 8] (fun s i wr => ∃ (k : Nat) (S : Int), k ≤ N ∧ i = .int .i64 k ∧ s = .int .u64 S ∧ Hid (S = stOr v (List.range k)) ∧ Quiet w3 wr) (fun _ i _ => N - (intOf i).toNat)
    case atStart => exact ⟨0, 0, by omega, rfl, rfl, by unfold Hid; rfl, Quiet.refl _⟩
    case round =>
      obtain ⟨k, S, hk, rfl, rfl, hS, hq⟩ := hrel
      by_cases hkN : k < N
      · have hcell := (hq.cell _).trans (HC.out k hkN)
        have hf := hfit.out k hkN
        have h2 := hsum.out k hkN
        rw [← hS.out] at h2
        generalize ((k : Nat) : Int) * v = E at *
        have H2 := Lib.hid h2
        clear h2
        have hE : E ≤ 63 := by omega
        have PE := Lib.hid (fun W => PW.out E W hE)
        generalize powI E = p at *
        go_wp2_with fail
        refine (PE.out _).mono ?_
        rintro e w4 ⟨rfl, hq4⟩
        go_wp2
        go_roundw
        case rel => exact ⟨k + 1, _, by omega, by go_num, rfl, H2, hq.trans hq4⟩
        case measure => simp [intOf]; omega
      · obtain rfl : k = N := by omega
        go_wp2
        go_ret2
        exact ⟨ret_two hS.out rfl, hb.trans hq.below⟩

set_option maxHeartbeats 1000000 in
theorem rcell_any (c at_ : Int) (w : World) :
    Calls Tryd.prog 27 #[.int .i64 c, .int .i64 at_] w fun e w' => e = .returned (.int .i64 (cellI c at_)) ∧ Below w.heap.size w w' := by
  have P := Lib.hid (fun W => rwords_any c W)
  have hM := Lib.hid (cell_miss c at_)
  have hH := Lib.hid (cell_hit c at_)
  cases hc : clsB c with
  | false =>
    have Q := Lib.hid (fun W => begins_none c W hc)
    obtain ⟨h1, h2, h3, h4, h5⟩ := cls_none c hc
    have hm := hM.out (by rw [h2]; simp)
    rw [h1, h4] at P
    rw [hm]
    clear h1 h2 h3 h4 h5 hc hm hM hH
    go_enter Tryd.func27, Tryd.ntmps27
    go_wp2_with fail
    refine (P.out _).mono ?_
    rintro e w2 ⟨rfl, hb2⟩
    go_wp2_with fail
    refine (Q.out _).mono ?_
    rintro e w3 ⟨a, k, rfl, hb3⟩
    have hb := hb2.trans (hb3.mono hb2.size)
    go_wp2
    go_loopw [8] (fun i wr => i = .int .i64 0 ∧ wr = w3) (fun _ _ => 0)
    case atStart => exact ⟨rfl, rfl⟩
    case round =>
      obtain ⟨rfl, rfl⟩ := hrel
      go_wp2
      go_ret
      exact ⟨rfl, hb⟩
  | true =>
    obtain ⟨j, rfl, hj⟩ := clsB_yes hc
    obtain ⟨_, h2, h3, h4, h5⟩ := cls_nat j hj
    have Q := Lib.hid (fun W => begins_some j hj W)
    have hfit : Hid (∀ k, k < numF j → ((k : Nat) : Int) * widF j + widF j ≤ 64) := num_in j hj
    have hin : Hid (∀ k, inB (j : Int) at_ k = decide (((k : Nat) : Int) * widF j ≤ at_ ∧ at_ < ((k : Nat) : Int) * widF j + widF j)) := by unfold Hid inB; intro k; rw [h2]
    have hle := num_le j hj
    have hwd := widF_bd j hj
    rw [h2, h5] at P
    rw [h3] at hM hH
    rw [h2] at hH
    clear h2 h3 h4 h5 hc
    generalize cellI (j : Int) at_ = R at *
    generalize widF j = v at *
    generalize numF j = N at *
    go_enter Tryd.func27, Tryd.ntmps27
    go_wp2_with fail
    refine (P.out _).mono ?_
    rintro e w2 ⟨rfl, hb2⟩
    go_wp2_with fail
    refine (Q.out _).mono ?_
    rintro e w3 ⟨b, o, q, rfl, hcell, hb3⟩
    have hb := hb2.trans (hb3.mono hb2.size)
    have HC := Lib.hid hcell
    clear hcell hb2 hb3
    go_wp2
    go_loopw [8] (fun i wr => ∃ (k : Nat), k ≤ N ∧ i = .int .i64 k ∧ Hid (∀ y ∈ List.range k, inB (j : Int) at_ y = false) ∧ wr = w3) (fun i _ => N - (intOf i).toNat)
    case atStart => exact ⟨0, by omega, rfl, by unfold Hid; simp, rfl⟩
    case round =>
      obtain ⟨k, hk, rfl, hno, rfl⟩ := hrel
      by_cases hkN : k < N
      · have hcell := HC.out k hkN
        have hf := hfit.out k hkN
        have hi := hin.out k
        have hE0 : 0 ≤ ((k : Nat) : Int) * v := Int.mul_nonneg (by omega) (by omega)
        by_cases hy : ((k : Nat) : Int) * v ≤ at_ ∧ at_ < ((k : Nat) : Int) * v + v
        · rw [decide_eq_true hy] at hi
          have hR := hH.out (List.range k) k (by rw [← List.range_succ]; exact range_prefix _ _ (by omega)) hno.out hi
          obtain ⟨y1, y2⟩ := hy
          have HR := Lib.hid hR
          clear hR hi
          generalize ((k : Nat) : Int) * v = E at *
          go_wp2
          go_ret
          exact ⟨ret_int HR.out.symm, hb⟩
        · rw [decide_eq_false hy] at hi
          have hno2 : Hid (∀ y ∈ List.range (k + 1), inB (j : Int) at_ y = false) := by
            unfold Hid
            intro y hy
            rw [List.range_succ] at hy
            rcases List.mem_append.1 hy with h | h
            · exact hno.out y h
            · rw [List.mem_singleton.1 h]; exact hi
          clear hi
          generalize ((k : Nat) : Int) * v = E at *
          by_cases h1 : E ≤ at_
          · have h2 : ¬ at_ < E + v := fun h => hy ⟨h1, h⟩
            clear hy
            go_wp2
            go_roundw
            case rel => exact ⟨k + 1, by omega, by go_num, hno2, by first | rfl | trivial⟩
            case measure => simp [intOf]; omega
          · clear hy
            go_wp2
            go_roundw
            case rel => exact ⟨k + 1, by omega, by go_num, hno2, by first | rfl | trivial⟩
            case measure => simp [intOf]; omega
      · obtain rfl : k = N := by omega
        have hR := hM.out hno.out
        have HR := Lib.hid hR
        clear hR
        go_wp2
        go_ret
        exact ⟨ret_int HR.out.symm, hb⟩

theorem filt_snoc (L : List Int) (p : Int → Bool) (k : Nat) (h : k < L.length) : (L.take (k + 1)).filter p = (L.take k).filter p ++ (if p (L.getD k 0) then [L.getD k 0] else []) := by
  rw [List.take_add_one, List.getElem?_eq_getElem h, List.filter_append, List.getD_eq_getElem?_getD, List.getElem?_eq_getElem h]
  simp only [Option.toList, Option.getD_some]
  cases hp : p L[k] <;> simp [hp]

set_option maxHeartbeats 1000000 in
theorem rfree_any (c a : Int) (w : World) (ha : U64 a) :
    Calls Tryd.prog 29 #[.int .i64 c, .int .u64 a] w fun e w' => ∃ v, e = .returned v ∧ Lst .i64 w' v (freeL c a) ∧ (freeL c a).length ≤ 32 ∧ Below w.heap.size w w' := by
  obtain ⟨i0, hi, hz0, hz1, hz2⟩ := info_parts info_int
  cases hc : clsB c with
  | false =>
    have Q := Lib.hid (fun W => begins_none c W hc)
    have h5 : freeL c a = [] := by unfold freeL; rw [(cls_none c hc).2.2.2.2]; rfl
    rw [h5]
    clear h5 hc
    go_enter Tryd.func29, Tryd.ntmps29
    go_wp2_with fail
    refine (Q.out _).mono ?_
    rintro e w3 ⟨a1, k, rfl, hb⟩
    go_wp2
    go_loopw [5, 7] (fun v i wr => v = .slice none 0 0 ∧ i = .int .i64 0 ∧ wr = w3) (fun _ _ _ => 0)
    case atStart => exact ⟨rfl, rfl, rfl⟩
    case round =>
      obtain ⟨rfl, rfl, rfl⟩ := hrel
      go_wp2
      go_ret
      exact ⟨_, rfl, .inl ⟨rfl, none, 0, rfl⟩, by simp, hb⟩
  | true =>
    obtain ⟨j, rfl, hj⟩ := clsB_yes hc
    have Q := Lib.hid (fun W => begins_some j hj W)
    have hfit : Hid (∀ k, k < numF j → ((k : Nat) : Int) * widF j + widF j ≤ 64) := num_in j hj
    obtain ⟨l1, l2⟩ := cellL_at j hj
    have hle := num_le j hj
    have hwd := widF_bd j hj
    have hst : Hid (∀ k, k < numF j → ((cellL (j : Int)).take (k + 1)).filter (fun z => !a.toNat.testBit z.toNat) = ((cellL (j : Int)).take k).filter (fun z => !a.toNat.testBit z.toNat) ++ (if !a.toNat.testBit (((k : Nat) : Int) * widF j).toNat then [((k : Nat) : Int) * widF j] else [])) := by
      unfold Hid
      intro k hk
      rw [filt_snoc _ _ k (by omega), l2 k hk]
    have hfl : ∀ k, (((cellL (j : Int)).take k).filter (fun z => !a.toNat.testBit z.toNat)).length ≤ k := fun k => Nat.le_trans (List.length_filter_le _ _) (by simp; omega)
    have HF := Lib.hid hfl
    clear hfl
    have hall : freeL (j : Int) a = ((cellL (j : Int)).take (numF j)).filter (fun z => !a.toNat.testBit z.toNat) := by unfold freeL; rw [← l1, List.take_length]
    rw [hall]
    clear hall l1 l2 hc
    generalize widF j = v at *
    generalize numF j = N at *
    generalize hFF : (fun k => ((cellL (j : Int)).take k).filter (fun z => !a.toNat.testBit z.toNat)) = FF
    have hFk : ∀ k, ((cellL (j : Int)).take k).filter (fun z => !a.toNat.testBit z.toNat) = FF k := fun k => by rw [← hFF]
    have HFk := Lib.hid hFk
    rw [hFk]
    simp only [hFk] at hst HF
    have hF0 : FF 0 = [] := by rw [← hFk]; simp
    clear hFF hFk HFk
    have HF0 := Lib.hid hF0
    clear hF0
    go_enter Tryd.func29, Tryd.ntmps29
    go_wp2_with fail
    refine (Q.out _).mono ?_
    rintro e w3 ⟨b, o, q, rfl, hcell, hb⟩
    have HC := Lib.hid hcell
    have hblt : Hid (∀ k, k < N → b < w3.heap.size) := fun k hk => World.block_lt_of_cell? w3 _ (hcell k hk)
    clear hcell
    have hs3 := hb.size
    go_wp2
    go_loopw [5, 7] (fun l i wr => ∃ (k : Nat), k ≤ N ∧ i = .int .i64 k ∧ wr.ownsRow w3.heap.size 3 1 l (FF k).length ((FF k).map (Value.int .i64)) ∧ Below w3.heap.size w3 wr) (fun _ i _ => N - (intOf i).toNat)
    case atStart => exact ⟨0, by omega, rfl, by rw [HF0.out]; exact World.ownsRow_nil _ _ _ _, Below.refl _ _⟩
    case round =>
      obtain ⟨k, hk, rfl, hown, hbr⟩ := hrel
      have hsz := hbr.size
      by_cases hkN : k < N
      · have hcell := (hbr.cell (p := ⟨b, o + k, none⟩) (hblt.out k hkN)).trans (HC.out k hkN)
        have hf := hfit.out k hkN
        have h2 := hst.out k hkN
        have hlen := HF.out k
        have hE0 : 0 ≤ ((k : Nat) : Int) * v := Int.mul_nonneg (by omega) (by omega)
        generalize ((k : Nat) : Int) * v = E at *
        obtain ⟨E', rfl⟩ := Int.eq_ofNat_of_zero_le hE0
        rw [Int.toNat_natCast] at h2
        cases hbit : a.toNat.testBit E' with
        | true =>
          have PB := Lib.hid (fun W => bit_yes a E' ha (by omega) hbit W)
          rw [hbit] at h2
          simp only [Bool.not_true, Bool.false_eq_true, if_false, List.append_nil] at h2
          rw [← h2] at hown
          clear hbit
          generalize hG : FF (k + 1) = G at hown h2
          have HG := Lib.hid hG
          clear hG h2
          go_wp2_with fail
          refine (PB.out _).mono ?_
          rintro e w4 ⟨rfl, hq4⟩
          have hown4 := hq4.ownsRow hown
          have hb4 := hbr.trans (hq4.below (B := w3.heap.size))
          go_wp2
          go_roundw
          case rel => exact ⟨k + 1, by omega, by go_num, by rw [HG.out]; exact hown4, hb4⟩
          case measure => simp [intOf]; omega
        | false =>
          have PB := Lib.hid (fun W => bit_no a E' ha (by omega) hbit W)
          rw [hbit] at h2
          simp only [Bool.not_false, if_true] at h2
          have H2 := Lib.hid h2
          clear hbit h2
          generalize FF k = L at *
          go_wp2_with fail
          refine (PB.out _).mono ?_
          rintro e w4 ⟨rfl, hq4⟩
          have hown4 := hq4.ownsRow hown
          have hb4 := hbr.trans (hq4.below (B := w3.heap.size))
          have hsz4 := hb4.size
          have hcell4 := (hq4.cell ⟨b, o + k, none⟩).trans hcell
          go_wp2_with (at_builtin; refine wpList_append_own _ rfl _ _ 33 rfl w3.heap.size 3 i0 (.int .i64 0) 1 8 Tryd.underlying33 hi hz0 hz1 hz2 rfl (by decide) _ _ _ rfl (hown4.alloc _) ⟨w4.heap.size, 0, none⟩ 1 1 [.int .i64 E'] rfl rfl (cell_one_new _ _ _) ?c2 ?c3 ?c4 ?c5 ?_)
          case c2 => simp [Value.oneCell']
          case c3 => unfold maxLen; omega
          case c4 => omega
          case c5 => simp; omega
          intro v' w5 hown5 hgrow _
          have hb5 : Below w3.heap.size w3 w5 := (hb4.alloc hsz4 _).grown hgrow (by simp; omega) (fun j hj => (hown4.lt j hj).1)
          have hown6 : w5.ownsRow w3.heap.size 3 1 v' (FF (k + 1)).length ((FF (k + 1)).map (Value.int .i64)) := by rw [H2.out, List.map_append, List.length_append]; exact hown5
          clear hown5 hgrow hown4 hown hb4 H2 hcell hcell4
          go_wp2
          go_roundw
          case rel => exact ⟨k + 1, by omega, by go_num, hown6, hb5⟩
          case measure => simp [intOf]; omega
      · obtain rfl : k = N := by omega
        have hlen := HF.out k
        go_wp2
        go_ret
        exact ⟨_, rfl, lst_of_own hown, by omega, hb.trans (hbr.mono hs3)⟩
end Go.Proofs.YtedehigncipopaaDoor
