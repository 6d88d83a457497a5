/- Texts of this seat, one behind the other: each says at its head what it holds. No condition of its own. -/
import Derived.Deep.RegionHeld3
import Derived.Test.YtpoddnfooaddgaaGreatDoorGObjectsBuilds01
import Derived.Test.YtpoddnfooaddgaaGreatDoorGObjectsBuilds02
/- What Spots, Cells and Where of the document's layer 6 return. No condition. -/
namespace Go.Proofs.YtpoddnfooaddgaaGreatDoor
open Go.RowKit
set_option linter.unusedVariables false
set_option linter.unusedSimpArgs false
theorem spotsL_length (P T R : Int) (n : Nat) : (spotsL P T R n).length = 3 * n := by
  induction n with
  | zero => rfl
  | succ n ih => rw [spotsL_succ, List.length_append, ih]; simp; omega
theorem spotsL_get (P T R : Int) (n i : Nat) (h : i < n) : (spotsL P T R n)[i * 3]? = some (.int .i64 (findK P T R i)) ∧ (spotsL P T R n)[i * 3 + 1]? = some (.int .i64 (findA P T R i)) ∧ (spotsL P T R n)[i * 3 + 2]? = some (.int .i64 (findB P T R i)) := by
  induction n with
  | zero => omega
  | succ n ih =>
    rw [spotsL_succ]
    by_cases hi : i < n
    · obtain ⟨h1, h2, h3⟩ := ih hi
      have hl := spotsL_length P T R n
      rw [List.getElem?_append_left (by omega), List.getElem?_append_left (by omega), List.getElem?_append_left (by omega)]
      exact ⟨h1, h2, h3⟩
    · have : i = n := by omega
      subst this
      have hl := spotsL_length P T R i
      rw [List.getElem?_append_right (by omega), List.getElem?_append_right (by omega), List.getElem?_append_right (by omega), hl]
      rw [show i * 3 - 3 * i = 0 by omega, show i * 3 + 1 - 3 * i = 1 by omega, show i * 3 + 2 - 3 * i = 2 by omega]
      exact ⟨rfl, rfl, rfl⟩
/-- A list of the document's: of each cell what it is for. -/
def SpotRow (W : World) (B : Nat) (P T R : Int) (v : Value) (n : Nat) : Prop := W.ownsRow B 110 3 v n (spotsL P T R n)
theorem SpotRow.below {W W' : World} {B : Nat} {P T R : Int} {v : Value} {n : Nat} (h : SpotRow W B P T R v n) (hb : Below W.heap.size W W') : SpotRow W' B P T R v n := by
  obtain ⟨h1, h2⟩ := h
  refine ⟨h1, ?_⟩
  rcases h2 with ⟨e1, e2⟩ | ⟨g, cap, cur, e1, e2, e3, e4⟩
  · exact .inl ⟨e1, e2⟩
  · exact .inr ⟨g, cap, cur, e1, e2, (hb.block g (Array.getElem?_eq_some_iff.1 e3).1).trans e3, e4⟩
theorem SpotRow.cells {W : World} {B : Nat} {P T R : Int} {v : Value} {n : Nat} (h : SpotRow W B P T R v n) (h0 : 0 < n) : ∃ g c, v = .slice (some ⟨g, 0, none⟩) n c ∧ B ≤ g ∧ g < W.heap.size ∧
    ∀ i, i < n → W.cell? ⟨g, i * 3, none⟩ = some (.int .i64 (findK P T R i)) ∧ W.cell? ⟨g, i * 3 + 1, none⟩ = some (.int .i64 (findA P T R i)) ∧ W.cell? ⟨g, i * 3 + 2, none⟩ = some (.int .i64 (findB P T R i)) := by
  have hx := h
  rcases h.2 with ⟨_, h2⟩ | ⟨g, c, cur, h1, h2, h3, _⟩
  · omega
  · refine ⟨g, c, h1, h2, (Array.getElem?_eq_some_iff.1 h3).1, fun i hi => ?_⟩
    subst h1
    obtain ⟨g1, g2, g3⟩ := spotsL_get P T R n i hi
    have c0 := hx.cellAt (i * 3) (by omega)
    have c1 := hx.cellAt (i * 3 + 1) (by omega)
    have c2 := hx.cellAt (i * 3 + 2) (by omega)
    exact ⟨c0.trans g1, c1.trans g2, c2.trans g3⟩
theorem spots_yes (P T R : Int) (w : World) (hR : Right P T R) :
    Calls Tryz.prog 77 #[.agg #[.int .i64 P, .int .i64 T, .int .i64 R]] w fun e w' => ∃ (v : Value) (n : Nat), e = .returned v ∧ (n : Int) = baseI P T R + 64 * P ∧ SpotRow w' (w.heap.size + 1) P T R v n ∧ Below w.heap.size w w' := by
  have hR' := hR
  obtain ⟨⟨p1, p2⟩, ⟨t1, t2⟩, r1, r2⟩ := hR'
  obtain ⟨p, rfl⟩ := Int.eq_ofNat_of_zero_le (show 0 ≤ P by omega)
  obtain ⟨t, rfl⟩ := Int.eq_ofNat_of_zero_le (show 0 ≤ T by omega)
  obtain ⟨r, rfl⟩ := Int.eq_ofNat_of_zero_le (show 0 ≤ R by omega)
  refine (spots_walk p t r w hR).mono ?_
  rintro e w' ⟨v, n, he, hn, hS⟩
  exact ⟨v, n, he, hn, hS.own, hS.bel⟩
set_option maxHeartbeats 400000 in
theorem spots_no (P T R : Int) (w : World) (h : rightB P T R = false) :
    Calls Tryz.prog 77 #[.agg #[.int .i64 P, .int .i64 T, .int .i64 R]] w fun e w' => e = .returned (.slice none 0 0) ∧ Below w.heap.size w w' := by
  have V := Lib.hid (fun W => rright_any P T R W)
  rw [h] at V
  go_enter Tryz.func77, Tryz.ntmps77
  go_wp2_with fail
  refine (V.out _).mono ?_; rintro e w1 ⟨rfl, hb1⟩
  have c1 := planKeep (planNew w P T R 23) hb1
  go_wp2
  go_ret
  exact ⟨rfl, c1.2⟩
set_option maxHeartbeats 400000 in
theorem rcells_yes (P T R : Int) (w : World) (hR : Right P T R) :
    Calls Tryz.prog 36 #[.agg #[.int .i64 P, .int .i64 T, .int .i64 R]] w fun e w' => e = .returned (.int .i64 (baseI P T R + 64 * P)) ∧ Below w.heap.size w w' := by
  have V := Lib.hid (fun W => spots_yes P T R W hR)
  have hb := base_bd hR
  obtain ⟨⟨p1, p2⟩, _⟩ := hR
  generalize hC : baseI P T R + 64 * P = C at *
  go_enter Tryz.func36, Tryz.ntmps36
  go_wp2_with fail
  refine (V.out _).mono ?_; rintro e w1 ⟨v, n, rfl, hn, hS, hb1⟩
  obtain ⟨g, c, rfl, _⟩ := hS.cells (by omega)
  have hB : Below w.heap.size w w1 := ((Below.refl _ _).alloc (Nat.le_refl _) _).trans (hb1.mono (by simp))
  go_wp2
  go_ret
  exact ⟨ret_int (by omega), hB⟩
set_option maxHeartbeats 400000 in
theorem rcells_no (P T R : Int) (w : World) (h : rightB P T R = false) :
    Calls Tryz.prog 36 #[.agg #[.int .i64 P, .int .i64 T, .int .i64 R]] w fun e w' => e = .returned (.int .i64 0) ∧ Below w.heap.size w w' := by
  have V := Lib.hid (fun W => spots_no P T R W h)
  go_enter Tryz.func36, Tryz.ntmps36
  go_wp2_with fail
  refine (V.out _).mono ?_; rintro e w1 ⟨rfl, hb1⟩
  have hB : Below w.heap.size w w1 := ((Below.refl _ _).alloc (Nat.le_refl _) _).trans (hb1.mono (by simp))
  go_wp2
  go_ret
  exact ⟨rfl, hB⟩
instance okDec (P T R k i j : Int) : Decidable (okI P T R k i j) := by unfold okI; infer_instance
/-- where what is so named stands, or -1 -/
def whereI (P T R k i j : Int) : Int := if rightB P T R && decide (okI P T R k i j) then posI P T R k i j else -1
theorem where_found {P T R k i j : Int} (h : Right P T R) (m : Nat) (hm : (m : Int) < baseI P T R + 64 * P) (hk : k ≠ 0) (h1 : findK P T R m = k) (h2 : findA P T R m = i) (h3 : findB P T R m = j) : whereI P T R k i j = m := by
  rcases pos_find h (Int.natCast_nonneg m) hm with ⟨e, _⟩ | ⟨e1, e2⟩
  · exact absurd (h1.symm.trans e) hk
  · rw [h1, h2, h3] at e1 e2
    unfold whereI
    rw [of_right h, decide_eq_true e1]
    exact e2
theorem where_none {P T R k i j : Int} (h : Right P T R) (n : Nat) (hn : (n : Int) = baseI P T R + 64 * P) (hno : k = 0 ∨ ∀ q : Nat, q < n → ¬ (findK P T R q = k ∧ findA P T R q = i ∧ findB P T R q = j)) : whereI P T R k i j = -1 := by
  have hx : ¬ okI P T R k i j := by
    intro ho
    rcases hno with rfl | hno
    · unfold okI at ho; omega
    · obtain ⟨e, e0, e1⟩ := find_pos h ho
      obtain ⟨m, hm⟩ := Int.eq_ofNat_of_zero_le e0
      rw [hm] at e e1
      exact hno m (by omega) e
  unfold whereI
  rw [of_right h, decide_eq_false hx]
  rfl
set_option maxHeartbeats 400000 in
theorem where_no (P T R k i j : Int) (w : World) (h : rightB P T R = false) :
    Calls Tryz.prog 44 #[.agg #[.int .i64 P, .int .i64 T, .int .i64 R], .agg #[.int .i64 k, .int .i64 i, .int .i64 j]] w fun e w' => e = .returned (.int .i64 (whereI P T R k i j)) ∧ Below w.heap.size w w' := by
  have V := Lib.hid (fun W => spots_no P T R W h)
  unfold whereI
  rw [h]
  go_enter Tryz.func44, Tryz.ntmps44
  go_wp2_with fail
  refine (V.out _).mono ?_; rintro e w1 ⟨rfl, hb1⟩
  have hB : Below w.heap.size w w1 := (((Below.refl _ _).alloc (Nat.le_refl _) _).alloc (by simp) _).trans (hb1.mono (by simp; omega))
  go_wp2
  go_loopw [6] (fun x wr => x = .int .i64 0 ∧ Below w.heap.size w wr) (fun _ _ => 0)
  case atStart => exact ⟨rfl, hB⟩
  case round =>
    obtain ⟨rfl, hq⟩ := hrel
    go_wp2
    go_ret
    exact ⟨rfl, hq⟩
set_option maxHeartbeats 1000000 in
theorem where_yes (P T R k i j : Int) (w : World) (h : Right P T R) :
    Calls Tryz.prog 44 #[.agg #[.int .i64 P, .int .i64 T, .int .i64 R], .agg #[.int .i64 k, .int .i64 i, .int .i64 j]] w fun e w' => e = .returned (.int .i64 (whereI P T R k i j)) ∧ Below w.heap.size w w' := by
  have V := Lib.hid (fun W => spots_yes P T R W h)
  have hb := base_bd h
  have hp := h.1
  go_enter Tryz.func44, Tryz.ntmps44
  go_wp2_with fail
  refine (V.out _).mono ?_; rintro e w1 ⟨v, n, rfl, hn, hS, hb1⟩
  have X0 : Blk (w.alloc (.cells #[.int .i64 P, .int .i64 T, .int .i64 R] 23)) w.heap.size #[.int .i64 P, .int .i64 T, .int .i64 R] 23 := Blk.new _ _ _
  have Y1 : Blk w1 (w.heap.size + 1) #[.int .i64 k, .int .i64 i, .int .i64 j] 110 := (Blk.new' (by simp)).grew hb1
  have hB : Below w.heap.size w w1 := (((Below.refl _ _).alloc (Nat.le_refl _) _).alloc (by simp) _).trans (hb1.mono (by simp; omega))
  clear X0 hb1
  obtain ⟨g, c, rfl, hg1, hg2, hc⟩ := hS.cells (by omega)
  have C := Lib.hid hc
  clear hc hS
  go_wp2
  go_loopw [6] (fun x wr => ∃ m : Nat, m ≤ n ∧ x = .int .i64 m ∧ Hid (k = 0 ∨ ∀ q : Nat, q < m → ¬ (findK P T R q = k ∧ findA P T R q = i ∧ findB P T R q = j)) ∧ Below w1.heap.size w1 wr) (fun x _ => n - (intOf x).toNat)
  case atStart => exact ⟨0, by omega, rfl, .inr (fun q hq => by omega), Below.refl _ _⟩
  case round =>
    obtain ⟨m, hm, rfl, hno, hq⟩ := hrel
    have hW := hB.trans (hq.mono hB.size)
    by_cases hlt : (m : Int) < n
    · obtain ⟨a0, a1, a2⟩ := C.out m (by omega)
      have s0 := (hq.cell (p := ⟨g, m * 3, none⟩) hg2).trans a0
      have s1 := (hq.cell (p := ⟨g, m * 3 + 1, none⟩) hg2).trans a1
      have s2 := (hq.cell (p := ⟨g, m * 3 + 2, none⟩) hg2).trans a2
      have Y2 := Y1.grew hq
      have y0 : wr.cell? ⟨w.heap.size + 1, 0, none⟩ = some (.int .i64 k) := Y2.val 0 rfl
      have y1 : wr.cell? ⟨w.heap.size + 1, 1, none⟩ = some (.int .i64 i) := Y2.val 1 rfl
      have y2 : wr.cell? ⟨w.heap.size + 1, 2, none⟩ = some (.int .i64 j) := Y2.val 2 rfl
      clear a0 a1 a2
      by_cases hk : k = 0
      · subst hk
        go_wp2
        go_quiet (fail)
        go_wp2
        go_roundw
        case rel => exact ⟨m + 1, by omega, by go_num, .inl trivial, hq.trans Quiet.drew.below⟩
        case measure => simp [intOf]; omega
      · generalize hf1 : findK P T R m = f1 at *
        generalize hf2 : findA P T R m = f2 at *
        generalize hf3 : findB P T R m = f3 at *
        have hE := fun W => eq_spot W f1 f2 f3 k i j
        have hG := guard_spot
        have hk' : (k != 0) = true := by simp; exact hk
        have hml : (m : Int) < baseI P T R + 64 * P := by omega
        cases hM : (f1 == k && (f2 == i && f3 == j)) with
        | true =>
          have hM' := hM
          simp only [Bool.and_eq_true, beq_iff_eq] at hM'
          have hwf := where_found h m hml hk (hf1.trans hM'.1) (hf2.trans hM'.2.1) (hf3.trans hM'.2.2)
          have HW := Lib.hid hwf
          clear hwf hM' hf1 hf2 hf3
          go_wp2
          go_quiet (fail)
          go_wp2
          go_ret
          exact ⟨ret_int HW.out.symm, hW.trans Quiet.drew.below⟩
        | false =>
          have hno' : Hid (k = 0 ∨ ∀ q : Nat, q < m + 1 → ¬ (findK P T R q = k ∧ findA P T R q = i ∧ findB P T R q = j)) := by
            rcases hno.out with h0 | h0
            · exact .inl h0
            · refine .inr (fun q hq' => ?_)
              by_cases hqm : q < m
              · exact h0 q hqm
              · have : q = m := by omega
                subst this
                rintro ⟨e1, e2, e3⟩
                rw [hf1] at e1; rw [hf2] at e2; rw [hf3] at e3
                subst e1; subst e2; subst e3
                simp at hM
          clear hno hf1 hf2 hf3
          go_wp2
          go_quiet (fail)
          go_wp2
          go_roundw
          case rel => exact ⟨m + 1, by omega, by go_num, hno', hq.trans Quiet.drew.below⟩
          case measure => simp [intOf]; omega
    · go_wp2
      go_ret
      have hmn : m = n := by omega
      subst hmn
      exact ⟨ret_int (where_none h m hn hno.out).symm, hW⟩
end Go.Proofs.YtpoddnfooaddgaaGreatDoor
/- What the small functions of package arena return: inside, New, Port, Grant, Open, Who, Count, Faults, Cells, Peek, Poke. No condition but that the arena's blocks are there. -/
namespace Go.Proofs.YtpoddnfooaddgaaGreatDoor
open Go.RowKit

/-- An arena: its block a, its cells' block c with the numbers cs, its own four other fields. -/
structure ArenaAt (w : World) (a c : Nat) (cs : List Int) (keep : Bool) (lv : Value) (n f : Int) : Prop where
  own : Blk w a #[.slice (some ⟨c, 0, none⟩) cs.length cs.length, .bool keep, lv, .int .i64 n, .int .i64 f] 129
  row : Blk w c (cs.map (Value.int .u64)).toArray 57
  apart : a ≠ c
/-- A port of it. -/
def PortAt (w : World) (p a : Nat) (who : Int) (o : Bool) : Prop := Blk w p #[.pointer (some ⟨a, 0, none⟩), .int .i64 who, .bool o] 120

def insB (n : Nat) (at' : Int) : Bool := decide (0 ≤ at' ∧ at' < n)
set_option maxHeartbeats 400000 in
theorem inside_any (a : Option Addr) (n c : Nat) (i : Int) (w : World) :
    Calls Tryz.prog 78 #[.slice a n c, .int .i64 i] w fun e w' => e = .returned (.bool (insB n i)) ∧ w = w' := by
  by_cases h1 : 0 ≤ i
  · have hb : insB n i = decide (i < (n : Int)) := by simp [insB, h1]
    rw [hb]; clear hb
    go_enter Tryz.func78, Tryz.ntmps78
    go_wp2
    go_ret
    exact ⟨rfl, rfl⟩
  · have hb : insB n i = false := by simp [insB, h1]
    rw [hb]; clear hb
    go_enter Tryz.func78, Tryz.ntmps78
    go_wp2
    go_ret
    exact ⟨rfl, rfl⟩

set_option maxHeartbeats 400000 in
theorem port_no (a : Option Addr) (i : Int) (w : World) (hn : a ≠ none) (h : i < 0 ∨ 15 < i) :
    Calls Tryz.prog 15 #[.pointer a, .int .i64 i] w fun e w' => e = .returned (.tuple #[.pointer none, .int .i64 1]) ∧ Quiet w w' := by
  cases a with
  | none => exact absurd rfl hn
  | some x =>
    clear hn
    rcases h with h | h
    · go_enter Tryz.func15, Tryz.ntmps15
      go_wp2
      go_ret2
      exact ⟨rfl, Quiet.refl _⟩
    · have h' : ¬ i < 0 := by omega
      go_enter Tryz.func15, Tryz.ntmps15
      go_wp2
      go_ret2
      exact ⟨rfl, Quiet.refl _⟩
set_option maxHeartbeats 400000 in
theorem port_nil (i : Int) (w : World) :
    Calls Tryz.prog 15 #[.pointer none, .int .i64 i] w fun e w' => e = .returned (.tuple #[.pointer none, .int .i64 2]) ∧ Quiet w w' := by
  go_enter Tryz.func15, Tryz.ntmps15
  go_wp2
  go_ret2
  exact ⟨rfl, Quiet.refl _⟩
set_option maxHeartbeats 400000 in
theorem port_yes (a : Nat) (i : Int) (w : World) (h : 0 ≤ i) (h' : i ≤ 15) :
    Calls Tryz.prog 15 #[.pointer (some ⟨a, 0, none⟩), .int .i64 i] w fun e w' => ∃ p, e = .returned (.tuple #[.pointer (some ⟨p, 0, none⟩), .int .i64 0]) ∧ PortAt w' p a i false ∧ w.heap.size ≤ p ∧ Below w.heap.size w w' := by
  go_enter Tryz.func15, Tryz.ntmps15
  go_wp2
  go_ret2
  exact ⟨_, rfl, Blk.new _ _ _, Nat.le_refl _, (Below.refl _ _).alloc (Nat.le_refl _) _⟩

set_option maxHeartbeats 400000 in
theorem grant_nil (w : World) :
    Calls Tryz.prog 20 #[.pointer none] w fun e w' => (∃ v, e = .returned v) ∧ w = w' := by
  go_enter Tryz.func20, Tryz.ntmps20
  go_wp2
  go_end0
  exact ⟨⟨_, rfl⟩, rfl⟩
set_option maxHeartbeats 400000 in
theorem grant_at (p a : Nat) (who : Int) (o : Bool) (w : World) (h : PortAt w p a who o) :
    Calls Tryz.prog 20 #[.pointer (some ⟨p, 0, none⟩)] w fun e w' => (∃ v, e = .returned v) ∧ PortAt w' p a who true ∧ Touch (· = p) w w' := by
  have h2 := h.val 2 rfl
  have f2 := h.frozen 2
  have H : Hid (PortAt (w.setCell ⟨p, 2, none⟩ (.bool true)) p a who true) := h.set 2 (.bool true)
  clear h
  go_enter Tryz.func20, Tryz.ntmps20
  go_wp2
  go_end0
  exact ⟨⟨_, rfl⟩, H.out, (Touch.refl _ _).setCell (by rfl) _⟩

set_option maxHeartbeats 400000 in
theorem open_nil (w : World) :
    Calls Tryz.prog 51 #[.pointer none] w fun e w' => e = .returned (.bool false) ∧ Quiet w w' := by
  go_enter Tryz.func51, Tryz.ntmps51
  go_wp2
  go_ret
  exact ⟨rfl, Quiet.refl _⟩
set_option maxHeartbeats 400000 in
theorem open_at (p a : Nat) (who : Int) (o : Bool) (w : World) (h : PortAt w p a who o) :
    Calls Tryz.prog 51 #[.pointer (some ⟨p, 0, none⟩)] w fun e w' => e = .returned (.bool o) ∧ Quiet w w' := by
  have h2 := h.val 2 rfl
  clear h
  go_enter Tryz.func51, Tryz.ntmps51
  go_wp2
  go_ret
  exact ⟨rfl, Quiet.refl _⟩
section
variable {a c : Nat} {cs : List Int} {keep : Bool} {lv : Value} {n f : Int} {w : World}
set_option maxHeartbeats 400000 in
theorem faults_at (h : ArenaAt w a c cs keep lv n f) :
    Calls Tryz.prog 26 #[.pointer (some ⟨a, 0, none⟩)] w fun e w' => e = .returned (.int .i64 f) ∧ Quiet w w' := by
  have h2 := h.own.val 4 rfl
  clear h
  go_enter Tryz.func26, Tryz.ntmps26
  go_wp2
  go_ret
  exact ⟨rfl, Quiet.refl _⟩
end
end Go.Proofs.YtpoddnfooaddgaaGreatDoor
