/- The walk of the law ArenaSerial. No condition but that the lists are there. -/
import Derived.Test.YtngmflbnkpiojaaSera
import Derived.Test.YtngmflbnkpiojaaAppl
import Derived.Test.YtngmflbnkpiojaaWords
import Derived.Test.YtngmflbnkpiojaaCell
import Derived.Test.YtngmflbnkpiojaaRowS
namespace Go.Proofs.Ytngmflbnkpiojaa
open Go.RowKit
set_option linter.unusedVariables false

theorem logrow_cells {w : World} {b m : Nat} {F : Nat → Nat → Int} (h : LogRow w b m F) : ∀ i, i < m → ∀ j, j < 7 → w.cell? ⟨b, 0 + i * 7 + j, none⟩ = some (.int (accK j) (F i j)) := fun i hi j hj => by
  obtain ⟨h0, h1, h2, h3, h4, h5, h6⟩ := h.cell i hi
  rw [Nat.zero_add]
  match j, hj with
  | 0, _ => exact h0
  | 1, _ => exact h1
  | 2, _ => exact h2
  | 3, _ => exact h3
  | 4, _ => exact h4
  | 5, _ => exact h5
  | 6, _ => exact h6
/-- the first k words given, the others still 0 -/
def filled (zs : List Int) (k : Nat) : List Int := zs.take k ++ List.replicate (zs.length - k) 0
theorem filled_len (zs : List Int) (k : Nat) (h : k ≤ zs.length) : (filled zs k).length = zs.length := by simp [filled]; omega
theorem filled_set (zs : List Int) (k : Nat) (h : k < zs.length) : (filled zs k).set k (zs.getD k 0) = filled zs (k + 1) := by
  apply List.ext_getElem?
  intro j
  unfold filled
  rw [List.getElem?_set]
  by_cases hj : k = j
  · subst hj
    rw [if_pos rfl, if_pos (by simp; omega)]
    rw [List.getElem?_append_left (by simp; omega), List.getElem?_take, if_pos (by omega)]
    simp [List.getD_eq_getElem?_getD, h]
  · rw [if_neg hj]
    by_cases hl : j < k
    · rw [List.getElem?_append_left (by simp; omega), List.getElem?_append_left (by simp; omega), List.getElem?_take, List.getElem?_take, if_pos hl, if_pos (by omega)]
    · rw [List.getElem?_append_right (by simp; omega), List.getElem?_append_right (by simp; omega), List.getElem?_replicate, List.getElem?_replicate]
      simp only [List.length_take]
      split <;> split <;> first | rfl | omega
theorem filled_all (zs : List Int) : filled zs zs.length = zs := by simp [filled]

def SerE (a c p q : Nat) (zs : List Int) (k : Nat) (w0 w : World) : Prop := ∃ gp gq, SerAt a c p 1 gp q 2 gq zs k w0 w
theorem ser_end {a c p q : Nat} {zs : List Int} {k : Nat} {w0 w : World} {A B C : Prop} (h : A ∧ B ∧ C ∧ SerE a c p q zs k w0 w) : SerE a c p q zs k w0 w := h.2.2.2
set_option maxRecDepth 100000 in
set_option maxHeartbeats 8000000 in
theorem serial_walk (b o cap N b2 o2 cap2 len : Nat) (G : Nat → Nat → Int) (zs : List Int) (w : World) (hN : zs.length = N) (h1 : 1 ≤ N) (h100 : N ≤ 100) (hmx : len ≤ maxLen) (hz : Hid (∀ i, i < N → w.cell? ⟨b, o + i, none⟩ = some (.int .u64 (zs.getD i 0)))) (hb : b < w.heap.size)
    (bp : Option Addr) (hbp : 0 < len → bp = some ⟨b2, o2, none⟩ ∧ b2 < w.heap.size) (hc : Hid (∀ i, i < len → ∀ j, j < 5 → w.cell? ⟨b2, o2 + i * 5 + j, none⟩ = some (.int (([.i64, .i64, .i64, .u64, .u64] : List IntKind).getD j .i64) (G i j)))) :
    Calls Try.prog 3 #[.slice (some ⟨b, o, none⟩) N cap, .slice bp len cap2] w fun e w' => e = .returned (.bool true) ∧ Below w.heap.size w w' := by
  unfold maxLen at hmx
  have i1 : ¬ (N : Int) < 1 := by omega
  have i2 : ¬ (100 : Int) < (N : Int) := by omega
  have HN := Lib.hid hN
  have hbp := Lib.hid hbp
  have NW := Lib.hid (fun W => new_yes N true W h1 (by omega))
  clear hN
  go_enter Try.func3, Try.ntmps3
  go_wp2_with fail
  refine (celled_any _).mono ?_
  rintro e w1 ⟨rfl, hb1⟩
  go_wp2_with fail
  refine (NW.out _).mono ?_
  rintro e w2 ⟨a, c, rfl, hA2, ha, hcc, hb2⟩
  have hB2 := hb1.trans (hb2.mono hb1.size)
  have hA2 := Lib.hid (show ArenaAt w2 a c (filled zs 0) true (.slice none 0 0) 0 0 by unfold filled; simpa [HN.out] using hA2)
  have ha' := Nat.le_trans hb1.size ha
  have hc' := Nat.le_trans hb1.size hcc
  clear hb1 hb2 ha hcc NW
  go_wp2_with fail
  go_loopw [7] (fun i wr => ∃ k : Nat, k ≤ N ∧ i = .int .i64 k ∧ Hid (ArenaAt wr a c (filled zs k) true (.slice none 0 0) 0 0) ∧ Below w.heap.size w wr) (fun i _ => N - (intOf i).toNat)
  case atStart => exact ⟨0, Nat.zero_le _, rfl, hA2, hB2⟩
  case round =>
    obtain ⟨k, hk, rfl, hA, hB⟩ := hrel
    clear hA2 hB2
    by_cases hl : k < N
    · have r0 : wr.cell? ⟨b, o + k, none⟩ = some (.int .u64 (zs.getD k 0)) := (hB.cell (p := ⟨b, o + k, none⟩) hb).trans (hz.out k hl)
      have P := Lib.hid (poke_yes k (zs.getD k 0) hA.out (by rw [filled_len _ _ (by rw [HN.out]; omega), HN.out]; exact hl) (by rw [filled_len _ _ (by rw [HN.out]; omega), HN.out]; omega))
      rw [filled_set zs k (by rw [HN.out]; exact hl)] at P
      generalize zs.getD k 0 = z at *
      go_wp2_with fail
      refine P.out.mono ?_
      rintro e w3 ⟨rfl, hA3, hT3⟩
      have hA3 := Lib.hid hA3
      go_wp2
      go_roundw
      case rel => exact ⟨k + 1, by omega, by go_num, hA3, hB.trans (hT3.below hB.size (fun x hx => hx ▸ hc'))⟩
      case measure => simp [intOf]; omega
    · have hkN : N = k := by omega
      subst hkN
      have hA3 : ArenaAt wr a c zs true (.slice none 0 0) 0 0 := by
        have := hA.out
        rw [← HN.out, filled_all] at this
        exact this
      clear hA
      go_wp2_with fail
      refine (port_yes a 1 _ (by decide) (by decide)).mono ?_
      rintro e w3 ⟨p, rfl, hP3, hp, hb3⟩
      have lA := hA3.lt
      go_wp2_with fail
      refine (port_yes a 2 _ (by decide) (by decide)).mono ?_
      rintro e w4 ⟨q, rfl, hP4, hq, hb4⟩
      have lP := Blk.lt hP3
      have hs3 := hb3.size
      have hA5 := (hA3.grew hb3).grew hb4
      have hPp : PortAt w4 p a 1 false := Blk.grew hP3 hb4
      have hB4 := (hB.trans (hb3.mono hB.size)).trans (hb4.mono (Nat.le_trans hB.size hs3))
      have hI : SerAt a c p 1 false q 2 false zs 0 w w4 := ⟨zs, .slice none 0 0, 0, 0, fun _ _ => 0, ⟨⟨hA5, World.ownsRow_nil _ _ _ _, by simp [Value.ownBlock], by simp [Value.ownBlock]⟩, hPp, hP4, hB4, rfl, rfl, Nat.le_refl _, by decide, by decide, ha', hc', Nat.le_trans hB.size hp, Nat.le_trans (Nat.le_trans hB.size hs3) hq, by omega, by omega, by omega, by omega, by omega, by simp [Value.ownBlock], by simp [Value.ownBlock]⟩⟩
      clear hA3 hP3 hP4 hA5 hPp hB4 hb3 hb4 hB
      have hI := Lib.hid hI
      go_wp2_with fail
      go_loopw [11] (fun i wr => ∃ (k : Nat) (gp gq : Bool), k ≤ len ∧ k ≤ 200 ∧ i = .int .i64 k ∧ Hid (SerAt a c p 1 gp q 2 gq zs k w wr)) (fun i _ => len - (intOf i).toNat)
      case atStart => exact ⟨0, false, false, by omega, by omega, rfl, hI⟩
      case round =>
        obtain ⟨k, gp, gq, hk, hk2, rfl, hS⟩ := hrel
        clear hI
        by_cases hl : k < len
        · by_cases h200 : k < 200
          · obtain ⟨rfl, hb2⟩ := hbp.out (by omega)
            have R0 := Lib.hid (fun W (h : Below w.heap.size w W) => (h.cell (p := ⟨b2, o2 + k * 5, none⟩) hb2).trans (hc.out k hl 0 (by decide)))
            have R1 := Lib.hid (fun W (h : Below w.heap.size w W) => (h.cell (p := ⟨b2, o2 + k * 5 + 1, none⟩) hb2).trans (hc.out k hl 1 (by decide)))
            have R2 := Lib.hid (fun W (h : Below w.heap.size w W) => (h.cell (p := ⟨b2, o2 + k * 5 + 2, none⟩) hb2).trans (hc.out k hl 2 (by decide)))
            have R3 := Lib.hid (fun W (h : Below w.heap.size w W) => (h.cell (p := ⟨b2, o2 + k * 5 + 3, none⟩) hb2).trans (hc.out k hl 3 (by decide)))
            have R4 := Lib.hid (fun W (h : Below w.heap.size w W) => (h.cell (p := ⟨b2, o2 + k * 5 + 4, none⟩) hb2).trans (hc.out k hl 4 (by decide)))
            have r0 : wr.cell? ⟨b2, o2 + k * 5, none⟩ = some (.int .i64 (G k 0)) := R0.out wr hS.out.low
            have hcc := Lib.hid hc
            clear hc R0
            generalize G k 0 = q0 at *
            generalize G k 1 = q1 at *
            generalize G k 2 = q2 at *
            generalize G k 3 = q3 at *
            generalize G k 4 = q4 at *
            have R1 : Hid (∀ W, Below w.heap.size w W → W.cell? ⟨b2, o2 + k * 5 + 1, none⟩ = some (.int .i64 q1)) := R1
            have R2 : Hid (∀ W, Below w.heap.size w W → W.cell? ⟨b2, o2 + k * 5 + 2, none⟩ = some (.int .i64 q2)) := R2
            have R3 : Hid (∀ W, Below w.heap.size w W → W.cell? ⟨b2, o2 + k * 5 + 3, none⟩ = some (.int .u64 q3)) := R3
            have R4 : Hid (∀ W, Below w.heap.size w W → W.cell? ⟨b2, o2 + k * 5 + 4, none⟩ = some (.int .u64 q4)) := R4
            by_cases hpar : Int.tmod q0 2 = 0
            · have hp1 : (Int.tmod q0 2 != 0) = false := by simp [hpar]
              clear hpar
              by_cases h1 : q1 = 1
              · subst h1
                have GR := Lib.hid (ser_grant hS.out)
                have low := hS.out.low
                go_wp2_with fail
                refine GR.out.mono ?_
                rintro e w5 ⟨⟨v5, rfl⟩, hS5⟩
                have hB5 := hS5.low
                clear r0 GR
                have r1 := R1.out w5 hB5
                have r2 := R2.out w5 hB5
                have OC := Lib.hid (ser_load hS5 (by omega) (by rw [HN.out]; omega) q2)
                clear hS5
                go_wp2_with fail
                refine OC.out.mono ?_
                rintro e w6 ⟨⟨v6, rfl⟩, hstep⟩
                have hstep := Lib.hid hstep
                go_wp2
                go_roundw
                case rel => exact ⟨k + 1, false, gq, by omega, by omega, by go_num, Lib.hid hstep.out⟩
                case measure => simp [intOf]; omega
              by_cases h2 : q1 = 2
              · subst h2
                have GR := Lib.hid (ser_grant hS.out)
                have low := hS.out.low
                go_wp2_with fail
                refine GR.out.mono ?_
                rintro e w5 ⟨⟨v5, rfl⟩, hS5⟩
                have hB5 := hS5.low
                clear r0 GR
                have r1 := R1.out w5 hB5
                have r2 := R2.out w5 hB5
                have r3 := R3.out w5 hB5
                have r4 := R4.out w5 hB5
                have OC := Lib.hid (ser_store (hS5.quiet (w' := w5.drew) ⟨1, rfl⟩) (by omega) (by rw [HN.out]; omega) q2 q4)
                have H0 : Hid (SerE a c p q zs (k + 1) w w5.drew) := Lib.hid ⟨true, gq, (hS5.quiet ⟨1, rfl⟩).more⟩
                have KL := Lib.hid (fun W (hstep : SerAt a c p 1 false q 2 gq zs (k + 1) w W) => (⟨R2.out W hstep.low, R3.out W hstep.low, R4.out W hstep.low, ⟨false, gq, hstep⟩⟩ : W.cell? ⟨b2, o2 + k * 5 + 2, none⟩ = some (.int .i64 q2) ∧ W.cell? ⟨b2, o2 + k * 5 + 3, none⟩ = some (.int .u64 q3) ∧ W.cell? ⟨b2, o2 + k * 5 + 4, none⟩ = some (.int .u64 q4) ∧ SerE a c p q zs (k + 1) w W))
                clear hS5
                go_wp2_with fail
                go_region_held3 (fun w' => w'.cell? ⟨b2, o2 + k * 5 + 2, none⟩ = some (.int .i64 q2) ∧ w'.cell? ⟨b2, o2 + k * 5 + 3, none⟩ = some (.int .u64 q3) ∧ w'.cell? ⟨b2, o2 + k * 5 + 4, none⟩ = some (.int .u64 q4) ∧ SerE a c p q zs (k + 1) w w') (first | exact ⟨r2, r3, r4, H0.out⟩ | exact KL.out _ hstep) (first | (go_at_call 11; refine OC.out.mono ?_; rintro e w6 ⟨⟨v6, rfl⟩, hstep⟩))
                all_goals
                  obtain ⟨gp', gq', hS6⟩ := ser_end (by assumption)
                  have hS6 := Lib.hid hS6
                  go_wp2
                  go_roundw
                  case rel => exact ⟨k + 1, gp', gq', by omega, by omega, by go_num, hS6⟩
                  case measure => simp [intOf]; omega
              by_cases h3 : q1 = 3
              · subst h3
                have GR := Lib.hid (ser_grant hS.out)
                have low := hS.out.low
                go_wp2_with fail
                refine GR.out.mono ?_
                rintro e w5 ⟨⟨v5, rfl⟩, hS5⟩
                have hB5 := hS5.low
                clear r0 GR
                have r1 := R1.out w5 hB5
                have r2 := R2.out w5 hB5
                have r3 := R3.out w5 hB5
                have r4 := R4.out w5 hB5
                have OC := Lib.hid (ser_swap (hS5.quiet (w' := w5.drew) ⟨1, rfl⟩) (by omega) (by rw [HN.out]; omega) q2 q4)
                have H0 : Hid (SerE a c p q zs (k + 1) w w5.drew) := Lib.hid ⟨true, gq, (hS5.quiet ⟨1, rfl⟩).more⟩
                have KL := Lib.hid (fun W (hstep : SerAt a c p 1 false q 2 gq zs (k + 1) w W) => (⟨R2.out W hstep.low, R3.out W hstep.low, R4.out W hstep.low, ⟨false, gq, hstep⟩⟩ : W.cell? ⟨b2, o2 + k * 5 + 2, none⟩ = some (.int .i64 q2) ∧ W.cell? ⟨b2, o2 + k * 5 + 3, none⟩ = some (.int .u64 q3) ∧ W.cell? ⟨b2, o2 + k * 5 + 4, none⟩ = some (.int .u64 q4) ∧ SerE a c p q zs (k + 1) w W))
                clear hS5
                go_wp2_with fail
                go_region_held3 (fun w' => w'.cell? ⟨b2, o2 + k * 5 + 2, none⟩ = some (.int .i64 q2) ∧ w'.cell? ⟨b2, o2 + k * 5 + 3, none⟩ = some (.int .u64 q3) ∧ w'.cell? ⟨b2, o2 + k * 5 + 4, none⟩ = some (.int .u64 q4) ∧ SerE a c p q zs (k + 1) w w') (first | exact ⟨r2, r3, r4, H0.out⟩ | exact KL.out _ hstep) (first | (go_at_call 12; refine OC.out.mono ?_; rintro e w6 ⟨⟨v6, rfl⟩, hstep⟩))
                all_goals
                  obtain ⟨gp', gq', hS6⟩ := ser_end (by assumption)
                  have hS6 := Lib.hid hS6
                  go_wp2
                  go_roundw
                  case rel => exact ⟨k + 1, gp', gq', by omega, by omega, by go_num, hS6⟩
                  case measure => simp [intOf]; omega
              by_cases h4 : q1 = 4
              · subst h4
                have GR := Lib.hid (ser_grant hS.out)
                have low := hS.out.low
                go_wp2_with fail
                refine GR.out.mono ?_
                rintro e w5 ⟨⟨v5, rfl⟩, hS5⟩
                have hB5 := hS5.low
                clear r0 GR
                have r1 := R1.out w5 hB5
                have r2 := R2.out w5 hB5
                have r3 := R3.out w5 hB5
                have r4 := R4.out w5 hB5
                have OC := Lib.hid (ser_cas (hS5.quiet (w' := w5.drew) ⟨1, rfl⟩) (by omega) (by rw [HN.out]; omega) q2 q3 q4)
                have H0 : Hid (SerE a c p q zs (k + 1) w w5.drew) := Lib.hid ⟨true, gq, (hS5.quiet ⟨1, rfl⟩).more⟩
                have KL := Lib.hid (fun W (hstep : SerAt a c p 1 false q 2 gq zs (k + 1) w W) => (⟨R2.out W hstep.low, R3.out W hstep.low, R4.out W hstep.low, ⟨false, gq, hstep⟩⟩ : W.cell? ⟨b2, o2 + k * 5 + 2, none⟩ = some (.int .i64 q2) ∧ W.cell? ⟨b2, o2 + k * 5 + 3, none⟩ = some (.int .u64 q3) ∧ W.cell? ⟨b2, o2 + k * 5 + 4, none⟩ = some (.int .u64 q4) ∧ SerE a c p q zs (k + 1) w W))
                clear hS5
                go_wp2_with fail
                go_region_held3 (fun w' => w'.cell? ⟨b2, o2 + k * 5 + 2, none⟩ = some (.int .i64 q2) ∧ w'.cell? ⟨b2, o2 + k * 5 + 3, none⟩ = some (.int .u64 q3) ∧ w'.cell? ⟨b2, o2 + k * 5 + 4, none⟩ = some (.int .u64 q4) ∧ SerE a c p q zs (k + 1) w w') (first | exact ⟨r2, r3, r4, H0.out⟩ | exact KL.out _ hstep) (first | (go_at_call 13; refine OC.out.mono ?_; rintro e w6 ⟨⟨v6, rfl⟩, hstep⟩))
                all_goals
                  obtain ⟨gp', gq', hS6⟩ := ser_end (by assumption)
                  have hS6 := Lib.hid hS6
                  go_wp2
                  go_roundw
                  case rel => exact ⟨k + 1, gp', gq', by omega, by omega, by go_num, hS6⟩
                  case measure => simp [intOf]; omega
              by_cases h5 : q1 = 5
              · subst h5
                have GR := Lib.hid (ser_grant hS.out)
                have low := hS.out.low
                go_wp2_with fail
                refine GR.out.mono ?_
                rintro e w5 ⟨⟨v5, rfl⟩, hS5⟩
                have hB5 := hS5.low
                clear r0 GR
                have r1 := R1.out w5 hB5
                have r2 := R2.out w5 hB5
                have r3 := R3.out w5 hB5
                have r4 := R4.out w5 hB5
                have OC := Lib.hid (ser_or (hS5.quiet (w' := w5.drew) ⟨1, rfl⟩) (by omega) (by rw [HN.out]; omega) q2 q4)
                have H0 : Hid (SerE a c p q zs (k + 1) w w5.drew) := Lib.hid ⟨true, gq, (hS5.quiet ⟨1, rfl⟩).more⟩
                have KL := Lib.hid (fun W (hstep : SerAt a c p 1 false q 2 gq zs (k + 1) w W) => (⟨R2.out W hstep.low, R3.out W hstep.low, R4.out W hstep.low, ⟨false, gq, hstep⟩⟩ : W.cell? ⟨b2, o2 + k * 5 + 2, none⟩ = some (.int .i64 q2) ∧ W.cell? ⟨b2, o2 + k * 5 + 3, none⟩ = some (.int .u64 q3) ∧ W.cell? ⟨b2, o2 + k * 5 + 4, none⟩ = some (.int .u64 q4) ∧ SerE a c p q zs (k + 1) w W))
                clear hS5
                go_wp2_with fail
                go_region_held3 (fun w' => w'.cell? ⟨b2, o2 + k * 5 + 2, none⟩ = some (.int .i64 q2) ∧ w'.cell? ⟨b2, o2 + k * 5 + 3, none⟩ = some (.int .u64 q3) ∧ w'.cell? ⟨b2, o2 + k * 5 + 4, none⟩ = some (.int .u64 q4) ∧ SerE a c p q zs (k + 1) w w') (first | exact ⟨r2, r3, r4, H0.out⟩ | exact KL.out _ hstep) (first | (go_at_call 14; refine OC.out.mono ?_; rintro e w6 ⟨⟨v6, rfl⟩, hstep⟩))
                all_goals
                  obtain ⟨gp', gq', hS6⟩ := ser_end (by assumption)
                  have hS6 := Lib.hid hS6
                  go_wp2
                  go_roundw
                  case rel => exact ⟨k + 1, gp', gq', by omega, by omega, by go_num, hS6⟩
                  case measure => simp [intOf]; omega
              by_cases h6 : q1 = 6
              · subst h6
                have GR := Lib.hid (ser_grant hS.out)
                have low := hS.out.low
                go_wp2_with fail
                refine GR.out.mono ?_
                rintro e w5 ⟨⟨v5, rfl⟩, hS5⟩
                have hB5 := hS5.low
                clear r0 GR
                have r1 := R1.out w5 hB5
                have r2 := R2.out w5 hB5
                have r3 := R3.out w5 hB5
                have r4 := R4.out w5 hB5
                have OC := Lib.hid (ser_and (hS5.quiet (w' := w5.drew) ⟨1, rfl⟩) (by omega) (by rw [HN.out]; omega) q2 q4)
                have H0 : Hid (SerE a c p q zs (k + 1) w w5.drew) := Lib.hid ⟨true, gq, (hS5.quiet ⟨1, rfl⟩).more⟩
                have KL := Lib.hid (fun W (hstep : SerAt a c p 1 false q 2 gq zs (k + 1) w W) => (⟨R2.out W hstep.low, R3.out W hstep.low, R4.out W hstep.low, ⟨false, gq, hstep⟩⟩ : W.cell? ⟨b2, o2 + k * 5 + 2, none⟩ = some (.int .i64 q2) ∧ W.cell? ⟨b2, o2 + k * 5 + 3, none⟩ = some (.int .u64 q3) ∧ W.cell? ⟨b2, o2 + k * 5 + 4, none⟩ = some (.int .u64 q4) ∧ SerE a c p q zs (k + 1) w W))
                clear hS5
                go_wp2_with fail
                go_region_held3 (fun w' => w'.cell? ⟨b2, o2 + k * 5 + 2, none⟩ = some (.int .i64 q2) ∧ w'.cell? ⟨b2, o2 + k * 5 + 3, none⟩ = some (.int .u64 q3) ∧ w'.cell? ⟨b2, o2 + k * 5 + 4, none⟩ = some (.int .u64 q4) ∧ SerE a c p q zs (k + 1) w w') (first | exact ⟨r2, r3, r4, H0.out⟩ | exact KL.out _ hstep) (first | (go_at_call 15; refine OC.out.mono ?_; rintro e w6 ⟨⟨v6, rfl⟩, hstep⟩))
                all_goals
                  obtain ⟨gp', gq', hS6⟩ := ser_end (by assumption)
                  have hS6 := Lib.hid hS6
                  go_wp2
                  go_roundw
                  case rel => exact ⟨k + 1, gp', gq', by omega, by omega, by go_num, hS6⟩
                  case measure => simp [intOf]; omega
              have e1 : (q1 == 1) = false := by simp [h1]
              have e2 : (q1 == 2) = false := by simp [h2]
              have e3 : (q1 == 3) = false := by simp [h3]
              have e4 : (q1 == 4) = false := by simp [h4]
              have e5 : (q1 == 5) = false := by simp [h5]
              have e6 : (q1 == 6) = false := by simp [h6]
              clear h1 h2 h3 h4 h5 h6
              have GR := Lib.hid (ser_grant hS.out)
              have low := hS.out.low
              go_wp2_with fail
              refine GR.out.mono ?_
              rintro e w5 ⟨⟨v5, rfl⟩, hS5⟩
              have hB5 := hS5.low
              clear r0 GR
              have r1 := R1.out w5 hB5
              have hS5 := Lib.hid hS5.more
              go_wp2
              go_roundw
              case rel => exact ⟨k + 1, true, gq, by omega, by omega, by go_num, Lib.hid hS5.out⟩
              case measure => simp [intOf]; omega
            · have hp1 : (Int.tmod q0 2 != 0) = true := by simp [hpar]
              clear hpar
              by_cases h1 : q1 = 1
              · subst h1
                have GR := Lib.hid (ser_grant hS.out.swap)
                have low := hS.out.low
                go_wp2_with fail
                refine GR.out.mono ?_
                rintro e w5 ⟨⟨v5, rfl⟩, hS5⟩
                have hB5 := hS5.low
                clear r0 GR
                have r1 := R1.out w5 hB5
                have r2 := R2.out w5 hB5
                have OC := Lib.hid (ser_load hS5 (by omega) (by rw [HN.out]; omega) q2)
                clear hS5
                go_wp2_with fail
                refine OC.out.mono ?_
                rintro e w6 ⟨⟨v6, rfl⟩, hstep⟩
                have hstep := Lib.hid hstep
                go_wp2
                go_roundw
                case rel => exact ⟨k + 1, gp, false, by omega, by omega, by go_num, Lib.hid hstep.out.swap⟩
                case measure => simp [intOf]; omega
              by_cases h2 : q1 = 2
              · subst h2
                have GR := Lib.hid (ser_grant hS.out.swap)
                have low := hS.out.low
                go_wp2_with fail
                refine GR.out.mono ?_
                rintro e w5 ⟨⟨v5, rfl⟩, hS5⟩
                have hB5 := hS5.low
                clear r0 GR
                have r1 := R1.out w5 hB5
                have r2 := R2.out w5 hB5
                have r3 := R3.out w5 hB5
                have r4 := R4.out w5 hB5
                have OC := Lib.hid (ser_store (hS5.quiet (w' := w5.drew) ⟨1, rfl⟩) (by omega) (by rw [HN.out]; omega) q2 q4)
                have H0 : Hid (SerE a c p q zs (k + 1) w w5.drew) := Lib.hid ⟨gp, true, (hS5.quiet ⟨1, rfl⟩).more.swap⟩
                have KL := Lib.hid (fun W (hstep : SerAt a c q 2 false p 1 gp zs (k + 1) w W) => (⟨R2.out W hstep.low, R3.out W hstep.low, R4.out W hstep.low, ⟨gp, false, hstep.swap⟩⟩ : W.cell? ⟨b2, o2 + k * 5 + 2, none⟩ = some (.int .i64 q2) ∧ W.cell? ⟨b2, o2 + k * 5 + 3, none⟩ = some (.int .u64 q3) ∧ W.cell? ⟨b2, o2 + k * 5 + 4, none⟩ = some (.int .u64 q4) ∧ SerE a c p q zs (k + 1) w W))
                clear hS5
                go_wp2_with fail
                go_region_held3 (fun w' => w'.cell? ⟨b2, o2 + k * 5 + 2, none⟩ = some (.int .i64 q2) ∧ w'.cell? ⟨b2, o2 + k * 5 + 3, none⟩ = some (.int .u64 q3) ∧ w'.cell? ⟨b2, o2 + k * 5 + 4, none⟩ = some (.int .u64 q4) ∧ SerE a c p q zs (k + 1) w w') (first | exact ⟨r2, r3, r4, H0.out⟩ | exact KL.out _ hstep) (first | (go_at_call 11; refine OC.out.mono ?_; rintro e w6 ⟨⟨v6, rfl⟩, hstep⟩))
                all_goals
                  obtain ⟨gp', gq', hS6⟩ := ser_end (by assumption)
                  have hS6 := Lib.hid hS6
                  go_wp2
                  go_roundw
                  case rel => exact ⟨k + 1, gp', gq', by omega, by omega, by go_num, hS6⟩
                  case measure => simp [intOf]; omega
              by_cases h3 : q1 = 3
              · subst h3
                have GR := Lib.hid (ser_grant hS.out.swap)
                have low := hS.out.low
                go_wp2_with fail
                refine GR.out.mono ?_
                rintro e w5 ⟨⟨v5, rfl⟩, hS5⟩
                have hB5 := hS5.low
                clear r0 GR
                have r1 := R1.out w5 hB5
                have r2 := R2.out w5 hB5
                have r3 := R3.out w5 hB5
                have r4 := R4.out w5 hB5
                have OC := Lib.hid (ser_swap (hS5.quiet (w' := w5.drew) ⟨1, rfl⟩) (by omega) (by rw [HN.out]; omega) q2 q4)
                have H0 : Hid (SerE a c p q zs (k + 1) w w5.drew) := Lib.hid ⟨gp, true, (hS5.quiet ⟨1, rfl⟩).more.swap⟩
                have KL := Lib.hid (fun W (hstep : SerAt a c q 2 false p 1 gp zs (k + 1) w W) => (⟨R2.out W hstep.low, R3.out W hstep.low, R4.out W hstep.low, ⟨gp, false, hstep.swap⟩⟩ : W.cell? ⟨b2, o2 + k * 5 + 2, none⟩ = some (.int .i64 q2) ∧ W.cell? ⟨b2, o2 + k * 5 + 3, none⟩ = some (.int .u64 q3) ∧ W.cell? ⟨b2, o2 + k * 5 + 4, none⟩ = some (.int .u64 q4) ∧ SerE a c p q zs (k + 1) w W))
                clear hS5
                go_wp2_with fail
                go_region_held3 (fun w' => w'.cell? ⟨b2, o2 + k * 5 + 2, none⟩ = some (.int .i64 q2) ∧ w'.cell? ⟨b2, o2 + k * 5 + 3, none⟩ = some (.int .u64 q3) ∧ w'.cell? ⟨b2, o2 + k * 5 + 4, none⟩ = some (.int .u64 q4) ∧ SerE a c p q zs (k + 1) w w') (first | exact ⟨r2, r3, r4, H0.out⟩ | exact KL.out _ hstep) (first | (go_at_call 12; refine OC.out.mono ?_; rintro e w6 ⟨⟨v6, rfl⟩, hstep⟩))
                all_goals
                  obtain ⟨gp', gq', hS6⟩ := ser_end (by assumption)
                  have hS6 := Lib.hid hS6
                  go_wp2
                  go_roundw
                  case rel => exact ⟨k + 1, gp', gq', by omega, by omega, by go_num, hS6⟩
                  case measure => simp [intOf]; omega
              by_cases h4 : q1 = 4
              · subst h4
                have GR := Lib.hid (ser_grant hS.out.swap)
                have low := hS.out.low
                go_wp2_with fail
                refine GR.out.mono ?_
                rintro e w5 ⟨⟨v5, rfl⟩, hS5⟩
                have hB5 := hS5.low
                clear r0 GR
                have r1 := R1.out w5 hB5
                have r2 := R2.out w5 hB5
                have r3 := R3.out w5 hB5
                have r4 := R4.out w5 hB5
                have OC := Lib.hid (ser_cas (hS5.quiet (w' := w5.drew) ⟨1, rfl⟩) (by omega) (by rw [HN.out]; omega) q2 q3 q4)
                have H0 : Hid (SerE a c p q zs (k + 1) w w5.drew) := Lib.hid ⟨gp, true, (hS5.quiet ⟨1, rfl⟩).more.swap⟩
                have KL := Lib.hid (fun W (hstep : SerAt a c q 2 false p 1 gp zs (k + 1) w W) => (⟨R2.out W hstep.low, R3.out W hstep.low, R4.out W hstep.low, ⟨gp, false, hstep.swap⟩⟩ : W.cell? ⟨b2, o2 + k * 5 + 2, none⟩ = some (.int .i64 q2) ∧ W.cell? ⟨b2, o2 + k * 5 + 3, none⟩ = some (.int .u64 q3) ∧ W.cell? ⟨b2, o2 + k * 5 + 4, none⟩ = some (.int .u64 q4) ∧ SerE a c p q zs (k + 1) w W))
                clear hS5
                go_wp2_with fail
                go_region_held3 (fun w' => w'.cell? ⟨b2, o2 + k * 5 + 2, none⟩ = some (.int .i64 q2) ∧ w'.cell? ⟨b2, o2 + k * 5 + 3, none⟩ = some (.int .u64 q3) ∧ w'.cell? ⟨b2, o2 + k * 5 + 4, none⟩ = some (.int .u64 q4) ∧ SerE a c p q zs (k + 1) w w') (first | exact ⟨r2, r3, r4, H0.out⟩ | exact KL.out _ hstep) (first | (go_at_call 13; refine OC.out.mono ?_; rintro e w6 ⟨⟨v6, rfl⟩, hstep⟩))
                all_goals
                  obtain ⟨gp', gq', hS6⟩ := ser_end (by assumption)
                  have hS6 := Lib.hid hS6
                  go_wp2
                  go_roundw
                  case rel => exact ⟨k + 1, gp', gq', by omega, by omega, by go_num, hS6⟩
                  case measure => simp [intOf]; omega
              by_cases h5 : q1 = 5
              · subst h5
                have GR := Lib.hid (ser_grant hS.out.swap)
                have low := hS.out.low
                go_wp2_with fail
                refine GR.out.mono ?_
                rintro e w5 ⟨⟨v5, rfl⟩, hS5⟩
                have hB5 := hS5.low
                clear r0 GR
                have r1 := R1.out w5 hB5
                have r2 := R2.out w5 hB5
                have r3 := R3.out w5 hB5
                have r4 := R4.out w5 hB5
                have OC := Lib.hid (ser_or (hS5.quiet (w' := w5.drew) ⟨1, rfl⟩) (by omega) (by rw [HN.out]; omega) q2 q4)
                have H0 : Hid (SerE a c p q zs (k + 1) w w5.drew) := Lib.hid ⟨gp, true, (hS5.quiet ⟨1, rfl⟩).more.swap⟩
                have KL := Lib.hid (fun W (hstep : SerAt a c q 2 false p 1 gp zs (k + 1) w W) => (⟨R2.out W hstep.low, R3.out W hstep.low, R4.out W hstep.low, ⟨gp, false, hstep.swap⟩⟩ : W.cell? ⟨b2, o2 + k * 5 + 2, none⟩ = some (.int .i64 q2) ∧ W.cell? ⟨b2, o2 + k * 5 + 3, none⟩ = some (.int .u64 q3) ∧ W.cell? ⟨b2, o2 + k * 5 + 4, none⟩ = some (.int .u64 q4) ∧ SerE a c p q zs (k + 1) w W))
                clear hS5
                go_wp2_with fail
                go_region_held3 (fun w' => w'.cell? ⟨b2, o2 + k * 5 + 2, none⟩ = some (.int .i64 q2) ∧ w'.cell? ⟨b2, o2 + k * 5 + 3, none⟩ = some (.int .u64 q3) ∧ w'.cell? ⟨b2, o2 + k * 5 + 4, none⟩ = some (.int .u64 q4) ∧ SerE a c p q zs (k + 1) w w') (first | exact ⟨r2, r3, r4, H0.out⟩ | exact KL.out _ hstep) (first | (go_at_call 14; refine OC.out.mono ?_; rintro e w6 ⟨⟨v6, rfl⟩, hstep⟩))
                all_goals
                  obtain ⟨gp', gq', hS6⟩ := ser_end (by assumption)
                  have hS6 := Lib.hid hS6
                  go_wp2
                  go_roundw
                  case rel => exact ⟨k + 1, gp', gq', by omega, by omega, by go_num, hS6⟩
                  case measure => simp [intOf]; omega
              by_cases h6 : q1 = 6
              · subst h6
                have GR := Lib.hid (ser_grant hS.out.swap)
                have low := hS.out.low
                go_wp2_with fail
                refine GR.out.mono ?_
                rintro e w5 ⟨⟨v5, rfl⟩, hS5⟩
                have hB5 := hS5.low
                clear r0 GR
                have r1 := R1.out w5 hB5
                have r2 := R2.out w5 hB5
                have r3 := R3.out w5 hB5
                have r4 := R4.out w5 hB5
                have OC := Lib.hid (ser_and (hS5.quiet (w' := w5.drew) ⟨1, rfl⟩) (by omega) (by rw [HN.out]; omega) q2 q4)
                have H0 : Hid (SerE a c p q zs (k + 1) w w5.drew) := Lib.hid ⟨gp, true, (hS5.quiet ⟨1, rfl⟩).more.swap⟩
                have KL := Lib.hid (fun W (hstep : SerAt a c q 2 false p 1 gp zs (k + 1) w W) => (⟨R2.out W hstep.low, R3.out W hstep.low, R4.out W hstep.low, ⟨gp, false, hstep.swap⟩⟩ : W.cell? ⟨b2, o2 + k * 5 + 2, none⟩ = some (.int .i64 q2) ∧ W.cell? ⟨b2, o2 + k * 5 + 3, none⟩ = some (.int .u64 q3) ∧ W.cell? ⟨b2, o2 + k * 5 + 4, none⟩ = some (.int .u64 q4) ∧ SerE a c p q zs (k + 1) w W))
                clear hS5
                go_wp2_with fail
                go_region_held3 (fun w' => w'.cell? ⟨b2, o2 + k * 5 + 2, none⟩ = some (.int .i64 q2) ∧ w'.cell? ⟨b2, o2 + k * 5 + 3, none⟩ = some (.int .u64 q3) ∧ w'.cell? ⟨b2, o2 + k * 5 + 4, none⟩ = some (.int .u64 q4) ∧ SerE a c p q zs (k + 1) w w') (first | exact ⟨r2, r3, r4, H0.out⟩ | exact KL.out _ hstep) (first | (go_at_call 15; refine OC.out.mono ?_; rintro e w6 ⟨⟨v6, rfl⟩, hstep⟩))
                all_goals
                  obtain ⟨gp', gq', hS6⟩ := ser_end (by assumption)
                  have hS6 := Lib.hid hS6
                  go_wp2
                  go_roundw
                  case rel => exact ⟨k + 1, gp', gq', by omega, by omega, by go_num, hS6⟩
                  case measure => simp [intOf]; omega
              have e1 : (q1 == 1) = false := by simp [h1]
              have e2 : (q1 == 2) = false := by simp [h2]
              have e3 : (q1 == 3) = false := by simp [h3]
              have e4 : (q1 == 4) = false := by simp [h4]
              have e5 : (q1 == 5) = false := by simp [h5]
              have e6 : (q1 == 6) = false := by simp [h6]
              clear h1 h2 h3 h4 h5 h6
              have GR := Lib.hid (ser_grant hS.out.swap)
              have low := hS.out.low
              go_wp2_with fail
              refine GR.out.mono ?_
              rintro e w5 ⟨⟨v5, rfl⟩, hS5⟩
              have hB5 := hS5.low
              clear r0 GR
              have r1 := R1.out w5 hB5
              have hS5 := Lib.hid hS5.more
              go_wp2
              go_roundw
              case rel => exact ⟨k + 1, gp, true, by omega, by omega, by go_num, Lib.hid hS5.out.swap⟩
              case measure => simp [intOf]; omega
          · have hk3 : k = 200 := by omega
            subst hk3
            clear hbp hc
            obtain ⟨cs, lv, m, f, F, h⟩ := hS.out
            have hmk := h.mlk
            have hlen := h.len
            have LG := Lib.hid (logged_yes w.heap.size a c cs lv m f F wr h.ar (by omega))
            have RP0 := h.rep
            have low := h.low
            have hA := h.ar.at'
            clear h hS
            go_wp2_with fail
            refine LG.out.mono ?_
            rintro e w5 ⟨v, rfl, hown, hb5⟩
            obtain ⟨a1, c1, hveq⟩ := row_form hown
            subst hveq
            have hA5 := hA.grew hb5
            have hB5 := low.trans (hb5.mono low.size)
            have hin5 : Lst .u64 w5 (.slice (some ⟨b, o, none⟩) N cap) zs := .inr ⟨b, o, cap, by rw [HN.out], by rw [HN.out]; omega, by rw [HN.out]; unfold maxLen; omega, fun i hi => (hB5.cell (p := ⟨b, o + i, none⟩) hb).trans (hz.out i (by rw [HN.out] at hi; exact hi))⟩
            obtain ⟨b', hlr⟩ : ∃ b', 0 < m → a1 = some ⟨b', 0, none⟩ ∧ b' < w5.heap.size ∧ LogRow w5 b' m F := by
              by_cases h : 0 < m
              · obtain ⟨b', hb'⟩ := logrow hown h
                exact ⟨b', fun _ => hb'⟩
              · exact ⟨0, fun h' => absurd h' h⟩
            have RP := replay_walk b' 0 c1 m F _ zs w5 (by omega) (by rw [HN.out]; omega) hin5 (fun h => (hlr h).2.1) (Lib.hid (fun i hi => logrow_cells (hlr (by omega)).2.2 i hi)) a1 (fun h => (hlr h).1) (fun W' hl => clone_any _ zs W' hl (by rw [HN.out]; omega))
            rw [RP0] at RP
            have RP := Lib.hid RP
            clear hin5 hlr hown RP0 LG
            have hlen2 := hlen
            rw [HN.out] at hlen2
            have HL := Lib.hid hlen2
            clear hlen hlen2
            go_wp2_with fail
            refine RP.out.mono ?_
            rintro e w6 ⟨v6, rfl, hown6, hb6⟩
            have hV6 := lst_of_own hown6
            have hA6 := hA5.grew hb6
            have hB6 := hB5.trans (hb6.mono hB5.size)
            clear hown6 RP hA5 hA
            go_wp2_with fail
            refine (image_at a c cs true lv m f w6 hA6 (by rw [HL.out]; omega) (by rw [HL.out]; omega)).mono ?_
            rintro e w7 ⟨v7, rfl, hown7, hb7⟩
            have hA7 := hA6.grew hb7
            have hV7 := lst_of_own hown7
            have hV8 := hV6.below hb7
            have hB7 := hB6.trans (hb7.mono hB6.size)
            clear hown7 hA6 hV6
            go_wp2_with fail
            refine (words_any v6 v7 cs w7 hV8 hV7).mono ?_
            rintro e w8 ⟨rfl, hq8⟩
            go_wp2_with fail
            refine (count_at (hA7.quiet hq8)).mono ?_
            rintro e w9 ⟨rfl, hq9⟩
            go_wp2
            go_ret
            exact ⟨by simp, (hB7.trans hq8.below).trans hq9.below⟩
        · have hk3 : k = len := by omega
          subst hk3
          clear hbp hc
          obtain ⟨cs, lv, m, f, F, h⟩ := hS.out
          have hmk := h.mlk
          have hlen := h.len
          have LG := Lib.hid (logged_yes w.heap.size a c cs lv m f F wr h.ar (by omega))
          have RP0 := h.rep
          have low := h.low
          have hA := h.ar.at'
          clear h hS
          go_wp2_with fail
          refine LG.out.mono ?_
          rintro e w5 ⟨v, rfl, hown, hb5⟩
          obtain ⟨a1, c1, hveq⟩ := row_form hown
          subst hveq
          have hA5 := hA.grew hb5
          have hB5 := low.trans (hb5.mono low.size)
          have hin5 : Lst .u64 w5 (.slice (some ⟨b, o, none⟩) N cap) zs := .inr ⟨b, o, cap, by rw [HN.out], by rw [HN.out]; omega, by rw [HN.out]; unfold maxLen; omega, fun i hi => (hB5.cell (p := ⟨b, o + i, none⟩) hb).trans (hz.out i (by rw [HN.out] at hi; exact hi))⟩
          obtain ⟨b', hlr⟩ : ∃ b', 0 < m → a1 = some ⟨b', 0, none⟩ ∧ b' < w5.heap.size ∧ LogRow w5 b' m F := by
            by_cases h : 0 < m
            · obtain ⟨b', hb'⟩ := logrow hown h
              exact ⟨b', fun _ => hb'⟩
            · exact ⟨0, fun h' => absurd h' h⟩
          have RP := replay_walk b' 0 c1 m F _ zs w5 (by omega) (by rw [HN.out]; omega) hin5 (fun h => (hlr h).2.1) (Lib.hid (fun i hi => logrow_cells (hlr (by omega)).2.2 i hi)) a1 (fun h => (hlr h).1) (fun W' hl => clone_any _ zs W' hl (by rw [HN.out]; omega))
          rw [RP0] at RP
          have RP := Lib.hid RP
          clear hin5 hlr hown RP0 LG
          have hlen2 := hlen
          rw [HN.out] at hlen2
          have HL := Lib.hid hlen2
          clear hlen hlen2
          go_wp2_with fail
          refine RP.out.mono ?_
          rintro e w6 ⟨v6, rfl, hown6, hb6⟩
          have hV6 := lst_of_own hown6
          have hA6 := hA5.grew hb6
          have hB6 := hB5.trans (hb6.mono hB5.size)
          clear hown6 RP hA5 hA
          go_wp2_with fail
          refine (image_at a c cs true lv m f w6 hA6 (by rw [HL.out]; omega) (by rw [HL.out]; omega)).mono ?_
          rintro e w7 ⟨v7, rfl, hown7, hb7⟩
          have hA7 := hA6.grew hb7
          have hV7 := lst_of_own hown7
          have hV8 := hV6.below hb7
          have hB7 := hB6.trans (hb7.mono hB6.size)
          clear hown7 hA6 hV6
          go_wp2_with fail
          refine (words_any v6 v7 cs w7 hV8 hV7).mono ?_
          rintro e w8 ⟨rfl, hq8⟩
          go_wp2_with fail
          refine (count_at (hA7.quiet hq8)).mono ?_
          rintro e w9 ⟨rfl, hq9⟩
          go_wp2
          go_ret
          exact ⟨by simp, (hB7.trans hq8.below).trans hq9.below⟩
set_option maxRecDepth 100000 in
set_option maxHeartbeats 1000000 in
theorem serial_out (x bp : Option Addr) (n cap len cap2 : Nat) (w : World) (h : n < 1 ∨ 100 < n) :
    Calls Try.prog 3 #[.slice x n cap, .slice bp len cap2] w fun e w' => e = .returned (.bool true) ∧ Below w.heap.size w w' := by
  by_cases h0 : n = 0
  · subst h0
    clear h
    go_enter Try.func3, Try.ntmps3
    go_wp2_with fail
    refine (celled_any _).mono ?_
    rintro e w1 ⟨rfl, hb1⟩
    go_wp2_with fail
    refine (celled_any _).mono ?_
    rintro e w2 ⟨rfl, hb2⟩
    go_wp2
    go_ret
    exact ⟨rfl, hb1.trans (hb2.mono hb1.size)⟩
  · have hgt : (100 : Int) < (n : Int) := by omega
    have hlt : ¬ (n : Int) < 1 := by omega
    clear h h0
    go_enter Try.func3, Try.ntmps3
    go_wp2_with fail
    refine (celled_any _).mono ?_
    rintro e w1 ⟨rfl, hb1⟩
    go_wp2_with fail
    refine (celled_any _).mono ?_
    rintro e w2 ⟨rfl, hb2⟩
    go_wp2
    go_ret
    exact ⟨rfl, hb1.trans (hb2.mono hb1.size)⟩
theorem serial_law (x : Option Addr) (n cap : Nat) (z : List Int) (a : Option Addr) (len cap2 : Nat) (F : Nat → Nat → Int) (w : World) (h1 : IsRow .u64 w x n cap z) (h : RowS 5 (fun j => ([.i64, .i64, .i64, .u64, .u64] : List IntKind).getD j .i64) w a len cap2 F) :
    Calls Try.prog 3 #[.slice x n cap, .slice a len cap2] w fun e w' => e = .returned (.bool true) ∧ Below w.heap.size w w' := by
  obtain ⟨hL, _, hm1, hlen⟩ := h1.lst
  obtain ⟨hm, hr⟩ := h
  by_cases hn : n < 1 ∨ 100 < n
  · exact serial_out x a n cap len cap2 w hn
  · have h1n : 1 ≤ n := by omega
    have h2n : n ≤ 100 := by omega
    rcases hL with ⟨h0, _⟩ | ⟨b, off, c, hv, hp, _, hc⟩
    · rw [h0] at hlen; simp at hlen; omega
    · rw [hlen] at hv hc
      simp only [Value.slice.injEq] at hv
      obtain ⟨rfl, _, _⟩ := hv
      have hb : b < w.heap.size := World.block_lt_of_cell? w _ (hc 0 (by omega))
      rcases hr with rfl | ⟨b2, o2, rfl, hlt, hc2⟩
      · exact serial_walk b off cap n 0 0 cap2 0 F (z.take n) w hlen h1n h2n hm (Lib.hid hc) hb a (fun h => absurd h (by decide)) (Lib.hid (fun i hi => absurd hi (by omega)))
      · exact serial_walk b off cap n b2 o2 cap2 len F (z.take n) w hlen h1n h2n hm (Lib.hid hc) hb _ (fun _ => ⟨rfl, hlt⟩) (Lib.hid (fun i hi j hj => (hc2 i hi j hj).1))
end Go.Proofs.Ytngmflbnkpiojaa
