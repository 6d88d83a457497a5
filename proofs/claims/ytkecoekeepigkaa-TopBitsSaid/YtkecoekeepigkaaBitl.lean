/- The walk of the law TopBits: it returns true, whatever is given. No condition but that each number fits its kind. -/
import Derived.Test.YtkecoekeepigkaaBits
import Derived.Test.YtkecoekeepigkaaNewa
import Derived.Test.YtkecoekeepigkaaOps
import Derived.Test.YtkecoekeepigkaaOthers
namespace Go.Proofs.Ytkecoekeepigkaa
open Go.RowKit
set_option linter.unusedVariables false
theorem info_port : (Try.prog.info? 31).map (fun i => (i.zero, i.size, i.bytes)) = some (some (.pointer none), 1, 8) := by kernel_rfl
def TbA (w : World) (a c : Nat) (k : Nat) (v : Value) (wr : World) : Prop :=
  ∃ ps : Nat → Nat, ArenaAt wr a c (List.replicate 8 0) true (.slice none 0 0) 0 0 ∧ (∀ j, j < k → PortAt wr (ps j) a j false) ∧ wr.ownsRow w.heap.size 31 1 v k ((List.range k).map fun j => .pointer (some ⟨ps j, 0, none⟩)) ∧ Below w.heap.size w wr ∧
    w.heap.size ≤ a ∧ w.heap.size ≤ c ∧ (∀ j, j < k → w.heap.size ≤ ps j ∧ ps j ≠ a ∧ ps j ≠ c ∧ v.ownBlock ≠ some (ps j)) ∧ (∀ i j, i < k → j < k → i ≠ j → ps i ≠ ps j) ∧ v.ownBlock ≠ some a ∧ v.ownBlock ≠ some c
theorem row_succ (ps : Nat → Nat) (k p : Nat) : (List.range (k + 1)).map (fun j => Value.pointer (some ⟨if j = k then p else ps j, 0, none⟩)) = (List.range k).map (fun j => Value.pointer (some ⟨ps j, 0, none⟩)) ++ [Value.pointer (some ⟨p, 0, none⟩)] := by
  rw [List.range_succ, List.map_append]
  congr 1
  · refine List.map_congr_left fun j hj => ?_
    rw [if_neg (by have := List.mem_range.1 hj; omega)]
  · simp
theorem own_ptr {w : World} {B g n cap : Nat} {E : TypeId} {xs : List Value} (h : w.ownsRow B E 1 (.slice (some ⟨g, 0, none⟩) n cap) n xs) (q : Nat) (hq : q < n) {v : Value} (hx : xs[q]? = some v) : w.cell? ⟨g, q, none⟩ = some v := by
  rw [h.cellAt q (by omega)]
  exact hx
theorem xor_max {y : Int} (hy : U64 y) : bits .xor .u64 IntKind.u64.max y = 18446744073709551615 - y := by
  obtain ⟨y0, y1⟩ := hy
  obtain ⟨Y, rfl⟩ := Int.eq_ofNat_of_zero_le y0
  have hY : Y < 18446744073709551616 := by omega
  rw [show IntKind.u64.max = ((18446744073709551615 : Nat) : Int) from rfl, u64_xor_nat _ _ (by decide) hY]
  have h := BitVec.toNat_not (x := BitVec.ofNat 64 Y)
  rw [← BitVec.allOnes_xor, BitVec.toNat_xor, BitVec.toNat_allOnes, BitVec.toNat_ofNat, Nat.mod_eq_of_lt hY] at h
  have h2 : 18446744073709551615 ^^^ Y = 18446744073709551615 - Y := h
  rw [h2]
  omega
theorem cnt_range (a : List Int) : ∀ N, ((List.range N).map fun i => onesI (a.getD i 0)).sum = cntL (a.take N) := by
  intro N
  induction N with
  | zero => simp [cntL]
  | succ k ih =>
    rw [List.range_succ, List.map_append, List.sum_append, ih]
    by_cases h : k < a.length
    · rw [cntL_take a k h]; simp
    · have h0 : a.getD k 0 = 0 := by simp [List.getD_eq_getElem?_getD, h]
      rw [List.take_of_length_le (by omega), List.take_of_length_le (by omega)]
      simp only [List.map_cons, List.map_nil, List.sum_cons, List.sum_nil, h0]
      rw [show onesI 0 = 0 from by decide]
      omega
theorem cnt_eq (a b : List Int) (h : ∀ i, a.getD i 0 = b.getD i 0) : cntL a = cntL b := by
  have h1 := cnt_range a (a.length + b.length)
  have h2 := cnt_range b (a.length + b.length)
  rw [List.take_of_length_le (by omega)] at h1 h2
  rw [← h1, ← h2]
  simp only [h]
set_option maxRecDepth 100000 in
set_option maxHeartbeats 16000000 in
theorem topbits_walk (A1 A2 A3 : Option Addr) (n1 n2 n3 c1 c2 c3 : Nat) (w : World) (hn2 : n2 ≤ maxLen) (h1 : Hid (∀ i, i < n1 → ∃ b o z, A1 = some ⟨b, o, none⟩ ∧ b < w.heap.size ∧ w.cell? ⟨b, o + i, none⟩ = some (.int .i64 z)))
    (h2 : Hid (∀ i, i < n2 → ∃ b o z, A2 = some ⟨b, o, none⟩ ∧ b < w.heap.size ∧ w.cell? ⟨b, o + i, none⟩ = some (.int .i64 z))) (h3 : Hid (∀ i, i < n3 → ∃ b o z, A3 = some ⟨b, o, none⟩ ∧ b < w.heap.size ∧ w.cell? ⟨b, o + i, none⟩ = some (.bool z))) :
    Calls Try.prog 9 #[.slice A1 n1 c1, .slice A2 n2 c2, .slice A3 n3 c3] w fun e w' => e = .returned (.bool true) ∧ Below w.heap.size w w' := by
  obtain ⟨i0, hi0, hz0, hz1, hz2⟩ := info_parts info_port
  have Z := Lib.hid (And.intro hi0 (And.intro hz0 (And.intro hz1 hz2)))
  clear hi0 hz0 hz1 hz2
  go_enter Try.func9, Try.ntmps9
  go_wp2_with fail
  refine (new_yes 8 true _ (by decide) (by decide)).mono ?_
  rintro e w1 ⟨a, c, rfl, hA1, ha, hc, hb1⟩
  have lA := hA1.lt
  have hI : TbA w a c 0 (.slice none 0 0) w1 := ⟨fun _ => 0, hA1, fun j h => absurd h (by omega), ⟨by simp, .inl ⟨rfl, rfl⟩⟩, hb1, ha, hc, fun j h => absurd h (by omega), fun i j h => absurd h (by omega), by simp [Value.ownBlock], by simp [Value.ownBlock]⟩
  clear hA1 hb1 ha hc lA
  go_wp2_with fail
  go_loopw [9, 10] (fun l i wr => ∃ (k : Nat), k ≤ 4 ∧ i = .int .i64 k ∧ TbA w a c k l wr) (fun _ i _ => 4 - (intOf i).toNat)
  case atStart => exact ⟨0, by decide, rfl, hI⟩
  case round =>
    obtain ⟨k, hk, rfl, ps, hA, hP, hown, hB, ha, hc, hps, hdis, hla, hlc⟩ := hrel
    clear hI
    by_cases hk4 : k < 4
    · go_wp2_with fail
      refine (port_yes a k _ (by omega) (by omega)).mono ?_
      rintro e w2 ⟨p, rfl, hP2, hp2, hb2⟩
      have hown2 := own_grew hown hb2
      have lA := hA.lt
      have lp := Blk.lt hP2
      have hB2 := hB.trans (hb2.mono hB.size)
      go_wp2_with (at_builtin; refine wpList_append_lies _ rfl _ _ 54 rfl w.heap.size 31 i0 (.pointer none) 1 8 Try.underlying54 Z.out.1 Z.out.2.1 Z.out.2.2.1 Z.out.2.2.2 rfl (by decide) _ _ _ rfl (hown2.alloc _) ⟨w2.heap.size, 0, none⟩ 1 1 [.pointer (some ⟨p, 0, none⟩)] rfl rfl (cell_one_new _ _ _) (by simp [Value.oneCell']) (by decide) (by unfold maxLen; omega) (by omega) (by have := hB2.size; simp; omega) (w2.heap.size + 1) (by simp) ?_; intro g cap w5 hown5 hgrow hat hlt)
      have hgrow : World.grownBy _ w5 u9.ownBlock := hgrow
      have hat : u9.ownBlock = some g ∨ g = w2.heap.size + 1 := hat
      have hs2 := hb2.size
      have hA5 := ((hA.grew hb2).alloc (.cells #[.pointer (some ⟨p, 0, none⟩)] 31)).grownBy hgrow hla hlc
      have hT5 : Touch (fun b => u9.ownBlock = some b) wr w5 := ((Touch.of hb2).alloc _).grown hgrow (fun k hk => .inl hk)
      have hgx : ∀ b, b < w2.heap.size → u9.ownBlock ≠ some b → (Value.slice (some ⟨g, 0, none⟩) (k + 1) cap).ownBlock ≠ some b := fun b hb hn e => by
        have e1 : g = b := Option.some.inj e
        rcases hat with h | h
        · exact hn (by rw [h, e1])
        · omega
      have hup : u9.ownBlock ≠ some p := fun e => by have := (hown.lt p e).2; omega
      have hP5 : ∀ j, j < k + 1 → PortAt w5 (if j = k then p else ps j) a j false := by
        intro j hj
        by_cases e : j = k
        · subst e
          rw [if_pos rfl]
          exact Blk.touch hP2 (((Touch.refl _ _).alloc _).grown hgrow (fun k hk => .inl hk)) hup
        · rw [if_neg e]
          exact Blk.touch (hP j (by omega)) hT5 (hps j (by omega)).2.2.2
      have hlp : ∀ j, j < k → ps j < wr.heap.size := fun j hj => Blk.lt (hP j hj)
      go_roundw
      case rel =>
        refine ⟨k + 1, by omega, by go_num, fun j => if j = k then p else ps j, hA5, hP5, ?_, hB.trans (hT5.below hB.size (fun b e => (hown.lt b e).1)), ha, hc, ?_, ?_, hgx a (by omega) hla, hgx c (by omega) hlc⟩
        · rw [row_succ]; exact hown5
        · intro j hj
          by_cases e : j = k
          · subst e
            simp only [if_true]
            exact ⟨by have := hB.size; omega, by omega, by omega, hgx p lp hup⟩
          · simp only [if_neg e]
            have h := hps j (by omega)
            have := hlp j (by omega)
            exact ⟨h.1, h.2.1, h.2.2.1, hgx _ (by omega) h.2.2.2⟩
        · intro i j hi hj hij
          by_cases e : i = k
          · have e2 : j ≠ k := by omega
            simp only [if_pos e, if_neg e2]
            have := hlp j (by omega)
            omega
          · by_cases e2 : j = k
            · simp only [if_neg e, if_pos e2]
              have := hlp i (by omega)
              omega
            · simp only [if_neg e, if_neg e2]
              exact hdis i j (by omega) (by omega) hij
      case measure => simp [intOf]; omega
    · have e4 : k = 4 := by omega
      subst e4
      obtain ⟨g, cap, hv, hg0, hrow⟩ : ∃ g cap, u9 = .slice (some ⟨g, 0, none⟩) 4 cap ∧ w.heap.size ≤ g ∧ ∀ j, j < 4 → wr.cell? ⟨g, j, none⟩ = some (.pointer (some ⟨ps j, 0, none⟩)) := by
        rcases hown.2 with ⟨_, h⟩ | ⟨g, cap, cur, hv, hg, _⟩
        · omega
        · subst hv
          exact ⟨g, cap, rfl, hg, fun j hj => own_ptr hown j hj (by simp [hj])⟩
      subst hv
      have hI : TB w wr a c g ps (List.replicate 8 0) (.slice none 0 0) [] 0 (.slice none 0 0) [] :=
        { ar := ⟨hA, ⟨by simp, .inl ⟨rfl, rfl⟩⟩, by simp [Value.ownBlock], by simp [Value.ownBlock]⟩, pt := fun j hj => ⟨false, hP j hj⟩, row := hrow, wl := .inl ⟨rfl, none, 0, rfl⟩, bel := hB, len := by simp, lenL := by simp, U := fun z hz => by rw [List.eq_of_mem_replicate hz]; exact ⟨by decide, by decide⟩, UL := fun z hz => by simp at hz,
          lo := ⟨ha, hc, hg0, fun e => hla (by rw [← e]; rfl), fun e => hlc (by rw [← e]; rfl), by simp [Value.ownBlock]⟩, lop := fun j hj => ⟨(hps j hj).1, (hps j hj).2.1, (hps j hj).2.2.1, fun e => (hps j hj).2.2.2 (by rw [e]; rfl), by simp [Value.ownBlock]⟩, dis := hdis, lol := fun b hb => by simp [Value.ownBlock] at hb, wb := fun b hb => by simp [setBlk] at hb }
      have hE : ∀ i, (List.replicate 8 (0 : Int)).getD i 0 = ([] : List Int).getD i 0 := by
        intro i
        match i with
        | 0 | 1 | 2 | 3 | 4 | 5 | 6 | 7 => rfl
        | n + 8 => rfl
      clear hA hP hown hB hps hdis hla hlc ha hc hrow hg0
      rw [show ((4 : Nat) : Int) = 4 from rfl]
      go_wp2_with fail
      go_loopw [13, 14, 15] (fun s13 s14 s15 wr => ∃ (k m : Nat) (cs L : List Int) (lv : Value) (xs : List Value), k ≤ n2 ∧ k ≤ 300 ∧ m ≤ k ∧ s14 = .int .i64 0 ∧ s15 = .int .i64 k ∧ (∀ i, cs.getD i 0 = L.getD i 0) ∧ TB w wr a c g ps cs lv xs m s13 L) (fun _ _ i _ => n2 - (intOf i).toNat)
      case atStart => exact ⟨0, 0, _, _, _, _, by omega, by omega, by omega, rfl, rfl, hE, hI⟩
      case round =>
        clear hI hE
        obtain ⟨k, m, cs, L, lv, xs, hk, hk3, hmk, rfl, rfl, hE, hT⟩ := hrel
        have hE := Lib.hid hE
        by_cases hl : k < n2 ∧ k < 300
        · obtain ⟨hl, hl3⟩ := hl
          obtain ⟨b2, o2, z2, rfl, hb2, r2⟩ := h2.out k hl
          have r2 := (hT.bel.cell (p := ⟨b2, o2 + k, none⟩) hb2).trans r2
          go_upto_if 55 with fail
          go_cut [16] (fun s wx => (∃ j : Nat, j < 4 ∧ s = .int .i64 j) ∧ wx = wr)
          case first =>
            by_cases hp : k < n1
            · obtain ⟨b1, o1, z1, rfl, hb1, r1⟩ := h1.out k hp
              have r1 := (hT.bel.cell (p := ⟨b1, o1 + k, none⟩) hb1).trans r1
              obtain ⟨j, hj, HJ⟩ := mod_small z1 4 (by decide) (by decide)
              rw [show ((4 : Nat) : Int) = 4 from rfl] at HJ
              go_wp2
              go_meet
              case rel => exact ⟨⟨j, hj, by rw [HJ]⟩, rfl⟩
            · go_wp2
              go_meet
              case rel => exact ⟨⟨0, by decide, rfl⟩, rfl⟩
          case rest =>
            obtain ⟨⟨j, hj, rfl⟩, rfl⟩ := hcut
            obtain ⟨q, hq, HQ⟩ := mod_small z2 512 (by decide) (by decide)
            rw [show ((512 : Nat) : Int) = 512 from rfl] at HQ
            obtain ⟨o, hPj⟩ := hT.pt j hj
            have rj := hT.row j hj
            go_wp2_with fail
            rw [HQ]
            refine (grant_at (ps j) a j o _ hPj).mono ?_
            rintro e w5 ⟨⟨v5, rfl⟩, hP5, hT5⟩
            have hT := hT.granted hj hP5 hT5
            clear hT5 hPj rj HQ
            have hq0 : (0 : Int) ≤ (q : Int) := by omega
            have hq6 : (q : Int).tmod 64 = ((q % 64 : Nat) : Int) := by rw [Int.tmod_eq_emod_of_nonneg hq0]; omega
            go_upto_region 23 with fail
            rw [show IntKind.u64.wrap (2 ^ (q % 64)) = bitI q from wrap_pow _ (Nat.mod_lt _ (by decide))]
            have hy := bitI_U64 q
            obtain ⟨y, hyy⟩ : ∃ y, bitI q = y := ⟨_, rfl⟩
            rw [hyy] at hy ⊢
            obtain ⟨r, hr⟩ : ∃ r, q / 64 = r := ⟨_, rfl⟩
            have hqi : (q : Int) / 64 = (r : Int) := by omega
            have hr8 : r < 8 := by omega
            have hwr : IntKind.i64.wrap (r : Int) = (r : Int) := IntWalk.i64_in _ (by omega)
            have hyb := hy
            obtain ⟨hy0, hy1⟩ := hyb
            go_cut [87] (fun s wx => (∃ cb : Bool, s = .bool cb) ∧ wx = w5)
            case first =>
              by_cases hp : k < n3
              · obtain ⟨b3, o3, z3, rfl, hb3, r3⟩ := h3.out k hp
                have r3 := (hT.bel.cell (p := ⟨b3, o3 + k, none⟩) hb3).trans r3
                go_wp2
                go_meet
                case rel => exact ⟨⟨_, rfl⟩, rfl⟩
              · go_wp2
                go_meet
                case rel => exact ⟨⟨_, rfl⟩, rfl⟩
            case rest =>
              obtain ⟨⟨cb, rfl⟩, rfl⟩ := hcut
              have rj := hT.row j hj
              have hlj := hT.lop j hj
              have hE1 : cs.getD r 0 = L.getD (q / 64) 0 := by rw [hr]; exact hE.out r
              have hUz : U64 (cs.getD r 0) := getD_U64 hT.U r
              have hrl : r < cs.length := by rw [hT.len]; exact hr8
              cases cb with
              | true =>
                go_wp2_with fail
                rw [xor_max hy]
                refine (and_log w.heap.size a c (ps j) cs lv xs m 0 j r (18446744073709551615 - y) _ hT.ar hP5 hlj.2.1 hlj.2.2.1 hlj.2.2.2.2 hT.bel.size (by omega) hrl).mono ?_
                rintro e w6 ⟨rfl, hS⟩
                have hlf : leftI 6 (cs.getD r 0) 0 (18446744073709551615 - y) = bits .andNot .u64 (cs.getD r 0) y := by
                  rw [← and_not hUz hy]; rfl
                obtain ⟨lv2, xs2, hT2⟩ := hT.stepped hj hS (by rw [hlf]; exact andNot_U64 hUz hy)
                rw [hlf] at hT2
                have hE2 := eqv_without cs L q hE.out (by rw [hr]; exact hrl)
                rw [hr, hyy] at hE2
                clear hS hP5 rj
                go_wp2_with fail
                refine (without_any _ L q _ hT2.wl (by omega) (by have := hT2.lenL; omega)).mono ?_
                rintro e w7 ⟨v7, rfl, hl7, hb7, hv7⟩
                have hT3 := hT2.reset hb7 hl7 (without_len q hT2.lenL) (without_U64 hT2.UL q) hv7
                go_wp2
                go_roundw
                case rel => exact ⟨k + 1, m + 1, _, _, lv2, xs2, by omega, by omega, by omega, rfl, by go_num, hE2, hT3⟩
                case measure => simp [intOf]; omega
              | false =>
                have hB : hasB L q = !(bits .and .u64 (cs.getD r 0) y == 0) := by unfold hasB; rw [← hE1, hyy]; rfl
                clear hE1
                go_wp2_with fail
                refine (or_log w.heap.size a c (ps j) cs lv xs m 0 j r y _ hT.ar hP5 hlj.2.1 hlj.2.2.1 hlj.2.2.2.2 hT.bel.size (by omega) hrl).mono ?_
                rintro e w6 ⟨rfl, hS⟩
                have hlf : leftI 5 (cs.getD r 0) 0 y = bits .or .u64 (cs.getD r 0) y := rfl
                obtain ⟨lv2, xs2, hT2⟩ := hT.stepped hj hS (by rw [hlf]; exact or_U64 hUz hy)
                rw [hlf] at hT2
                have hE2 := eqv_with cs L q hE.out (by rw [hr]; exact hrl)
                rw [hr, hyy] at hE2
                clear hS hP5 rj hlf
                generalize cs.getD r 0 = z at *
                have hQ := Quiet.refl w6
                cases hz : (bits .and .u64 z y == 0) with
                | true =>
                  rw [hz] at hB
                  have H := fun W (hq : Quiet w6 W) => has_any _ L q W (hT2.wl.quiet hq) (by omega)
                  rw [hB] at H
                  have H := Lib.hid H
                  go_wp2_with (go_at_call 35; refine (H.out _ hQ).mono ?_; rintro e w7 ⟨rfl, hq7⟩; have hQ := hQ.trans hq7)
                  have hT7 := hT2.grew hQ.below
                  clear hT2
                  refine (with_lst _ L q _ hT7.wl (by omega) (by have := hT7.lenL; omega)).mono ?_
                  rintro e w8 ⟨v8, rfl, hl8, hb8, hv8⟩
                  have hT8 := hT7.reset hb8 hl8 (with_len q hT7.lenL hq) (with_U64 hT7.UL q) hv8
                  go_wp2
                  go_roundw
                  case rel => exact ⟨k + 1, m + 1, _, _, lv2, xs2, by omega, by omega, by omega, rfl, by go_num, hE2, hT8⟩
                  case measure => simp [intOf]; omega
                | false =>
                  rw [hz] at hB
                  have H := fun W (hq : Quiet w6 W) => has_any _ L q W (hT2.wl.quiet hq) (by omega)
                  rw [hB] at H
                  have H := Lib.hid H
                  go_wp2_with (go_at_call 35; refine (H.out _ hQ).mono ?_; rintro e w7 ⟨rfl, hq7⟩; have hQ := hQ.trans hq7)
                  have hT7 := hT2.grew hQ.below
                  clear hT2
                  refine (with_lst _ L q _ hT7.wl (by omega) (by have := hT7.lenL; omega)).mono ?_
                  rintro e w8 ⟨v8, rfl, hl8, hb8, hv8⟩
                  have hT8 := hT7.reset hb8 hl8 (with_len q hT7.lenL hq) (with_U64 hT7.UL q) hv8
                  go_wp2
                  go_roundw
                  case rel => exact ⟨k + 1, m + 1, _, _, lv2, xs2, by omega, by omega, by omega, rfl, by go_num, hE2, hT8⟩
                  case measure => simp [intOf]; omega
        · have hlen := hT.len
          have hx : Hid (k < n2 → ¬ k < 300) := fun h h' => hl ⟨h, h'⟩
          have I := Lib.hid (image_at a c cs true lv m 0 wr hT.ar.at' (by omega) (by omega))
          clear hl
          by_cases hl : k < n2
          · have h300 : ¬ k < 300 := hx.out hl
            go_wp2_with fail
            refine I.out.mono ?_
            rintro e w6 ⟨v6, rfl, hown, hb6⟩
            have hT6 := hT.grew hb6
            have hV6 := lst_of_own hown
            rw [hlen] at hown
            obtain ⟨g6, cap6, rfl, hg6, _⟩ := own_form hown (by decide)
            have hS := Lib.hid (same_eq _ _ cs L _ hV6 hT6.wl (by omega) (by have := hT6.lenL; omega) hE.out hT6.U hT6.UL)
            go_wp2_with fail
            refine hS.out.mono ?_
            rintro e w7 ⟨rfl, hb7⟩
            have hT7 := hT6.grew hb7
            have hV7 := hV6.below hb7
            have hN1 := Lib.hid (fun W (hq : Quiet w7 W) => count_lst _ cs W (hV7.quiet hq) hT7.U (by omega))
            have hN2 := fun W (hq : Quiet w7 W) => count_lst _ L W (hT7.wl.quiet hq) hT7.UL (by have := hT7.lenL; omega)
            rw [← cnt_eq cs L hE.out] at hN2
            have hN2 := Lib.hid hN2
            have hF := fun W (hq : Quiet w7 W) => faults_at (hT7.ar.at'.quiet hq)
            have hC := fun W (hq : Quiet w7 W) => cells_at (hT7.ar.at'.quiet hq)
            rw [hlen] at hC
            have hF := Lib.hid hF
            have hC := Lib.hid hC
            have hQ := Quiet.refl w7
            clear hT hT6 hV6 hb6 hb7 hS
            go_wp2_with fail
            refine (hN1.out _ hQ).mono ?_
            rintro e w8 ⟨rfl, hq8⟩
            have hQ := hQ.trans hq8
            have hz1 : (cntL cs == cntL cs) = true := by simp
            go_wp2_with fail
            refine (hN2.out _ hQ).mono ?_
            rintro e w9 ⟨rfl, hq9⟩
            have hQ := hQ.trans hq9
            generalize cntL cs = ct at *
            go_wp2_with fail
            refine (hF.out _ hQ).mono ?_
            rintro e w10 ⟨rfl, hq10⟩
            have hQ := hQ.trans hq10
            go_wp2_with fail
            refine (hC.out _ hQ).mono ?_
            rintro e w11 ⟨rfl, hq11⟩
            have hQ := hQ.trans hq11
            go_wp2_with fail
            go_ret
            exact ⟨rfl, hT7.bel.trans hQ.below⟩
          · go_wp2_with fail
            refine I.out.mono ?_
            rintro e w6 ⟨v6, rfl, hown, hb6⟩
            have hT6 := hT.grew hb6
            have hV6 := lst_of_own hown
            rw [hlen] at hown
            obtain ⟨g6, cap6, rfl, hg6, _⟩ := own_form hown (by decide)
            have hS := Lib.hid (same_eq _ _ cs L _ hV6 hT6.wl (by omega) (by have := hT6.lenL; omega) hE.out hT6.U hT6.UL)
            go_wp2_with fail
            refine hS.out.mono ?_
            rintro e w7 ⟨rfl, hb7⟩
            have hT7 := hT6.grew hb7
            have hV7 := hV6.below hb7
            have hN1 := Lib.hid (fun W (hq : Quiet w7 W) => count_lst _ cs W (hV7.quiet hq) hT7.U (by omega))
            have hN2 := fun W (hq : Quiet w7 W) => count_lst _ L W (hT7.wl.quiet hq) hT7.UL (by have := hT7.lenL; omega)
            rw [← cnt_eq cs L hE.out] at hN2
            have hN2 := Lib.hid hN2
            have hF := fun W (hq : Quiet w7 W) => faults_at (hT7.ar.at'.quiet hq)
            have hC := fun W (hq : Quiet w7 W) => cells_at (hT7.ar.at'.quiet hq)
            rw [hlen] at hC
            have hF := Lib.hid hF
            have hC := Lib.hid hC
            have hQ := Quiet.refl w7
            clear hT hT6 hV6 hb6 hb7 hS
            go_wp2_with fail
            refine (hN1.out _ hQ).mono ?_
            rintro e w8 ⟨rfl, hq8⟩
            have hQ := hQ.trans hq8
            have hz1 : (cntL cs == cntL cs) = true := by simp
            go_wp2_with fail
            refine (hN2.out _ hQ).mono ?_
            rintro e w9 ⟨rfl, hq9⟩
            have hQ := hQ.trans hq9
            generalize cntL cs = ct at *
            go_wp2_with fail
            refine (hF.out _ hQ).mono ?_
            rintro e w10 ⟨rfl, hq10⟩
            have hQ := hQ.trans hq10
            go_wp2_with fail
            refine (hC.out _ hQ).mono ?_
            rintro e w11 ⟨rfl, hq11⟩
            have hQ := hQ.trans hq11
            go_wp2_with fail
            go_ret
            exact ⟨rfl, hT7.bel.trans hQ.below⟩
end Go.Proofs.Ytkecoekeepigkaa
