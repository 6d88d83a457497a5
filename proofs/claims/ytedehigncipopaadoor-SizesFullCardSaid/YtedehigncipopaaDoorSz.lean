/- Package sizes: the classes' numbers; what Words, Class, Pages return, and the document's. No condition but that the tables lie as the start lays them. -/
import Derived.Test.YtedehigncipopaaDoorTabs
import Derived.Test.YtedehigncipopaaDoorPlcs
namespace Go.Proofs.YtedehigncipopaaDoor
open Go.RowKit
set_option linter.unusedVariables false

/-- how many words a class's cells have -/
def widF (j : Nat) : Int := ([2, 3, 4, 6, 8, 12, 16, 32] : List Int).getD j 0
def Wid (w : World) : Prop := ∀ j, j < 8 → w.cell? ⟨0, j, none⟩ = some (.int .i64 (widF j))
theorem Wid.quiet {w w' : World} (h : Wid w) (q : Quiet w w') : Wid w' := fun j hj => (q.cell _).trans (h j hj)
theorem Wid.lt {w : World} (h : Wid w) : 0 < w.heap.size := World.block_lt_of_cell? w _ (h 0 (by decide))
theorem Wid.below {B : Nat} {w w' : World} (h : Wid w) (hb : Below B w w') (hl : 0 < B) : Wid w' := fun j hj => (hb.cell (p := ⟨0, j, none⟩) hl).trans (h j hj)
theorem Wid.grew {w w' : World} (h : Wid w) (hb : Below w.heap.size w w') : Wid w' := h.below hb h.lt
/-- both tables lie as the start lays them -/
structure Tbs (w : World) : Prop where
  tab : Tab w
  wid : Wid w
theorem Tbs.quiet {w w' : World} (h : Tbs w) (q : Quiet w w') : Tbs w' := ⟨h.tab.quiet q, h.wid.quiet q⟩
theorem Tbs.grew {w w' : World} (h : Tbs w) (hb : Below w.heap.size w w') : Tbs w' := ⟨h.tab.grew hb, h.wid.grew hb⟩

/-- is it a class? -/
def clsB (c : Int) : Bool := decide (0 ≤ c ∧ c < 8)
theorem clsB_yes {c : Int} (h : clsB c = true) : ∃ k : Nat, c = (k : Int) ∧ k < 8 := by
  have : 0 ≤ c ∧ c < 8 := by simpa [clsB] using h
  exact ⟨c.toNat, by omega, by omega⟩
theorem clsB_no {c : Int} (h : clsB c = false) : c < 0 ∨ 8 ≤ c := by
  have : ¬ (0 ≤ c ∧ c < 8) := by simpa [clsB] using h
  omega
def widI (c : Int) : Int := if clsB c then widF c.toNat else 0
def errI (c : Int) : Int := if clsB c then 0 else 1
theorem widF_bd (k : Nat) (h : k < 8) : 2 ≤ widF k ∧ widF k ≤ 32 := by
  have : ∀ k : Fin 8, 2 ≤ widF k.val ∧ widF k.val ≤ 32 := by decide
  exact this ⟨k, h⟩

set_option maxHeartbeats 400000 in
theorem words_any (c : Int) (w : World) (hW : Wid w) :
    Calls Tryd.prog 11 #[.int .i64 c] w fun e w' => e = .returned (.tuple #[.int .i64 (widI c), .int .i64 (errI c)]) ∧ w' = w := by
  cases hc : clsB c with
  | true =>
    have e1 : widI c = widF c.toNat := by unfold widI; rw [hc]; rfl
    have e2 : errI c = 0 := by unfold errI; rw [hc]; rfl
    obtain ⟨k, rfl, hk⟩ := clsB_yes hc
    rw [Int.toNat_natCast] at e1
    have h := hW k hk
    rw [e1, e2]
    generalize widF k = V at *
    clear e1 e2 hc
    have k8 : (k : Int) < 8 := by omega
    go_enter Tryd.func11, Tryd.ntmps11
    go_wp2
    go_ret2
    exact ⟨rfl, rfl⟩
  | false =>
    have e1 : widI c = 0 := by unfold widI; rw [hc]; rfl
    have e2 : errI c = 1 := by unfold errI; rw [hc]; rfl
    rw [e1, e2]
    clear e1 e2
    rcases clsB_no hc with h | h
    · clear hc
      go_enter Tryd.func11, Tryd.ntmps11
      go_wp2
      go_ret2
      exact ⟨rfl, rfl⟩
    · clear hc
      have h0 : 0 ≤ c := by omega
      go_enter Tryd.func11, Tryd.ntmps11
      go_wp2
      go_ret2
      exact ⟨rfl, rfl⟩

set_option maxHeartbeats 1000000 in
theorem rwords_any (c : Int) (w : World) :
    Calls Tryd.prog 12 #[.int .i64 c] w fun e w' => e = .returned (.tuple #[.int .i64 (widI c), .int .i64 (errI c)]) ∧ Below w.heap.size w w' := by
  have hnew : ∀ k, k < 8 → (w.alloc (.cells #[.int .i64 2, .int .i64 3, .int .i64 4, .int .i64 6, .int .i64 8, .int .i64 12, .int .i64 16, .int .i64 32] 3)).cell? ⟨w.heap.size, k, none⟩ = some (.int .i64 (widF k)) := by
    intro k hk
    rw [World.cell?_alloc_new]
    have : ∀ k : Fin 8, (#[Value.int .i64 2, .int .i64 3, .int .i64 4, .int .i64 6, .int .i64 8, .int .i64 12, .int .i64 16, .int .i64 32] : Array Value)[k.val]? = some (Value.int .i64 (widF k.val)) := by
      intro k
      match k with
      | 0 => rfl
      | 1 => rfl
      | 2 => rfl
      | 3 => rfl
      | 4 => rfl
      | 5 => rfl
      | 6 => rfl
      | 7 => rfl
    exact this ⟨k, hk⟩
  have hb : Below w.heap.size w (w.alloc (.cells #[.int .i64 2, .int .i64 3, .int .i64 4, .int .i64 6, .int .i64 8, .int .i64 12, .int .i64 16, .int .i64 32] 3)) := (Below.refl _ _).alloc (Nat.le_refl _) _
  cases hc : clsB c with
  | true =>
    have e1 : widI c = widF c.toNat := by unfold widI; rw [hc]; rfl
    have e2 : errI c = 0 := by unfold errI; rw [hc]; rfl
    obtain ⟨k, rfl, hk⟩ := clsB_yes hc
    rw [Int.toNat_natCast] at e1
    have h := hnew k hk
    rw [e1, e2]
    generalize widF k = V at *
    clear e1 e2 hc hnew
    have k8 : (k : Int) < 8 := by omega
    go_enter Tryd.func12, Tryd.ntmps12
    go_wp2
    go_ret2
    exact ⟨rfl, hb⟩
  | false =>
    have e1 : widI c = 0 := by unfold widI; rw [hc]; rfl
    have e2 : errI c = 1 := by unfold errI; rw [hc]; rfl
    rw [e1, e2]
    clear e1 e2 hnew
    rcases clsB_no hc with h | h
    · clear hc
      go_enter Tryd.func12, Tryd.ntmps12
      go_wp2
      go_ret2
      exact ⟨rfl, hb⟩
    · clear hc
      have h0 : 0 ≤ c := by omega
      go_enter Tryd.func12, Tryd.ntmps12
      go_wp2
      go_ret2
      exact ⟨rfl, hb⟩

/-- the least class whose cells have so many words, and what is told of one that there isn't -/
def clV (n : Int) : Int := if n < 1 then 0 else if n ≤ 2 then 0 else if n ≤ 3 then 1 else if n ≤ 4 then 2 else if n ≤ 6 then 3 else if n ≤ 8 then 4 else if n ≤ 12 then 5 else if n ≤ 16 then 6 else if n ≤ 32 then 7 else 0
def clE (n : Int) : Int := if n < 1 then 1 else if n ≤ 32 then 0 else 3
theorem cl_hit (n : Int) (k : Nat) (h1 : 1 ≤ n) (hk : k < 8) (h : n ≤ widF k) (hl : ∀ j, j < k → widF j < n) : clV n = (k : Int) ∧ clE n = 0 := by
  have hl0 := hl (k - 1)
  have e : ∀ j : Fin 8, widF j.val = ([2, 3, 4, 6, 8, 12, 16, 32] : List Int).getD j.val 0 := fun _ => rfl
  match k, hk with
  | 0, _ => unfold clV clE; rw [show widF 0 = 2 from rfl] at h; constructor <;> (repeat' split) <;> omega
  | 1, _ => have := hl0 (by omega); rw [show widF (1 - 1) = 2 from rfl] at this; rw [show widF 1 = 3 from rfl] at h; unfold clV clE; constructor <;> (repeat' split) <;> omega
  | 2, _ => have := hl0 (by omega); rw [show widF (2 - 1) = 3 from rfl] at this; rw [show widF 2 = 4 from rfl] at h; unfold clV clE; constructor <;> (repeat' split) <;> omega
  | 3, _ => have := hl0 (by omega); rw [show widF (3 - 1) = 4 from rfl] at this; rw [show widF 3 = 6 from rfl] at h; unfold clV clE; constructor <;> (repeat' split) <;> omega
  | 4, _ => have := hl0 (by omega); rw [show widF (4 - 1) = 6 from rfl] at this; rw [show widF 4 = 8 from rfl] at h; unfold clV clE; constructor <;> (repeat' split) <;> omega
  | 5, _ => have := hl0 (by omega); rw [show widF (5 - 1) = 8 from rfl] at this; rw [show widF 5 = 12 from rfl] at h; unfold clV clE; constructor <;> (repeat' split) <;> omega
  | 6, _ => have := hl0 (by omega); rw [show widF (6 - 1) = 12 from rfl] at this; rw [show widF 6 = 16 from rfl] at h; unfold clV clE; constructor <;> (repeat' split) <;> omega
  | 7, _ => have := hl0 (by omega); rw [show widF (7 - 1) = 16 from rfl] at this; rw [show widF 7 = 32 from rfl] at h; unfold clV clE; constructor <;> (repeat' split) <;> omega
theorem cl_miss (n : Int) (h1 : 1 ≤ n) (hl : ∀ j, j < 8 → widF j < n) : clV n = 0 ∧ clE n = 3 := by
  have := hl 7 (by omega)
  rw [show widF 7 = 32 from rfl] at this
  unfold clV clE
  constructor <;> (repeat' split) <;> omega
theorem cl_low (n : Int) (h : n < 1) : clV n = 0 ∧ clE n = 1 := by
  unfold clV clE
  rw [if_pos h, if_pos h]
  exact ⟨rfl, rfl⟩

set_option maxHeartbeats 1000000 in
theorem rclass_any (n : Int) (w : World) :
    Calls Tryd.prog 19 #[.int .i64 n] w fun e w' => e = .returned (.tuple #[.int .i64 (clV n), .int .i64 (clE n)]) ∧ Below w.heap.size w w' := by
  by_cases h1 : n < 1
  · obtain ⟨e1, e2⟩ := cl_low n h1
    rw [e1, e2]
    clear e1 e2
    go_enter Tryd.func19, Tryd.ntmps19
    go_wp2
    go_ret2
    exact ⟨rfl, Below.refl _ _⟩
  · have hhit := Lib.hid (cl_hit n)
    have hmiss := Lib.hid (cl_miss n (by omega))
    generalize clV n = V at *
    generalize clE n = E at *
    have RW := Lib.hid (fun c W => rwords_any c W)
    go_enter Tryd.func19, Tryd.ntmps19
    go_wp2
    go_loopw [4] (fun i wr => ∃ k : Nat, k ≤ 8 ∧ i = .int .i64 k ∧ Hid (∀ j, j < k → widF j < n) ∧ Below w.heap.size w wr) (fun i _ => 8 - (intOf i).toNat)
    case atStart => exact ⟨0, by omega, rfl, by unfold Hid; omega, Below.refl _ _⟩
    case round =>
      obtain ⟨k, hk, rfl, hl, hb⟩ := hrel
      by_cases hlt : (k : Int) < 8
      · have R := Lib.hid (fun W => RW.out (k : Int) W)
        have hw : widI (k : Int) = widF k := by unfold widI clsB; rw [Int.toNat_natCast, if_pos (by simp; omega)]
        have he : errI (k : Int) = 0 := by unfold errI clsB; rw [if_pos (by simp; omega)]
        rw [hw, he] at R
        have hsz := hb.size
        by_cases hn : n ≤ widF k
        · obtain ⟨eV, eE⟩ := hhit.out k (by omega) (by omega) hn hl.out
          subst eV eE
          clear hw he
          generalize widF k = q at *
          have hn2 : ¬ q < n := by omega
          go_wp2_with fail
          refine (R.out _).mono ?_
          rintro e w2 ⟨rfl, hb2⟩
          go_wp2
          go_ret2
          exact ⟨rfl, hb.trans (hb2.mono hsz)⟩
        · have hl2 : Hid (∀ j, j < k + 1 → widF j < n) := by
            unfold Hid
            intro j hj
            by_cases hjk : j < k
            · exact hl.out j hjk
            · have : j = k := by omega
              subst this; omega
          clear hw he
          generalize widF k = q at *
          have hn2 : q < n := by omega
          go_wp2_with fail
          refine (R.out _).mono ?_
          rintro e w2 ⟨rfl, hb2⟩
          go_wp2
          go_roundw
          case rel => exact ⟨k + 1, by omega, by go_num, hl2, hb.trans (hb2.mono hsz)⟩
          case measure => simp [intOf]; omega
      · obtain rfl : k = 8 := by omega
        obtain ⟨eV, eE⟩ := hmiss.out hl.out
        subst eV eE
        go_wp2
        go_ret2
        exact ⟨rfl, hb⟩

theorem ix0 (w : World) : (Instr.index 56 (.agg #[.int .i64 2, .int .i64 3, .int .i64 4, .int .i64 6, .int .i64 8, .int .i64 12, .int .i64 16, .int .i64 32]) (.int .i64 0)).run Tryd.prog w = .ok (.int .i64 2) w := by kernel_rfl
theorem ix1 (w : World) : (Instr.index 56 (.agg #[.int .i64 2, .int .i64 3, .int .i64 4, .int .i64 6, .int .i64 8, .int .i64 12, .int .i64 16, .int .i64 32]) (.int .i64 1)).run Tryd.prog w = .ok (.int .i64 3) w := by kernel_rfl
theorem ix2 (w : World) : (Instr.index 56 (.agg #[.int .i64 2, .int .i64 3, .int .i64 4, .int .i64 6, .int .i64 8, .int .i64 12, .int .i64 16, .int .i64 32]) (.int .i64 2)).run Tryd.prog w = .ok (.int .i64 4) w := by kernel_rfl
theorem ix3 (w : World) : (Instr.index 56 (.agg #[.int .i64 2, .int .i64 3, .int .i64 4, .int .i64 6, .int .i64 8, .int .i64 12, .int .i64 16, .int .i64 32]) (.int .i64 3)).run Tryd.prog w = .ok (.int .i64 6) w := by kernel_rfl
theorem ix4 (w : World) : (Instr.index 56 (.agg #[.int .i64 2, .int .i64 3, .int .i64 4, .int .i64 6, .int .i64 8, .int .i64 12, .int .i64 16, .int .i64 32]) (.int .i64 4)).run Tryd.prog w = .ok (.int .i64 8) w := by kernel_rfl
theorem ix5 (w : World) : (Instr.index 56 (.agg #[.int .i64 2, .int .i64 3, .int .i64 4, .int .i64 6, .int .i64 8, .int .i64 12, .int .i64 16, .int .i64 32]) (.int .i64 5)).run Tryd.prog w = .ok (.int .i64 12) w := by kernel_rfl
theorem ix6 (w : World) : (Instr.index 56 (.agg #[.int .i64 2, .int .i64 3, .int .i64 4, .int .i64 6, .int .i64 8, .int .i64 12, .int .i64 16, .int .i64 32]) (.int .i64 6)).run Tryd.prog w = .ok (.int .i64 16) w := by kernel_rfl
theorem ix7 (w : World) : (Instr.index 56 (.agg #[.int .i64 2, .int .i64 3, .int .i64 4, .int .i64 6, .int .i64 8, .int .i64 12, .int .i64 16, .int .i64 32]) (.int .i64 7)).run Tryd.prog w = .ok (.int .i64 32) w := by kernel_rfl
set_option maxHeartbeats 2000000 in
theorem class_any (n : Int) (w : World) (hW : Wid w) :
    Calls Tryd.prog 18 #[.int .i64 n] w fun e w' => e = .returned (.tuple #[.int .i64 (clV n), .int .i64 (clE n)]) ∧ w' = w := by
  by_cases h1 : n < 1
  · obtain ⟨e1, e2⟩ := cl_low n h1
    rw [e1, e2]
    clear e1 e2
    go_enter Tryd.func18, Tryd.ntmps18
    go_wp2
    go_ret2
    exact ⟨rfl, rfl⟩
  · have hhit := Lib.hid (cl_hit n)
    have hmiss := Lib.hid (cl_miss n (by omega))
    generalize clV n = V at *
    generalize clE n = E at *
    have g0 := hW 0 (by decide)
    have g1 := hW 1 (by decide)
    have g2 := hW 2 (by decide)
    have g3 := hW 3 (by decide)
    have g4 := hW 4 (by decide)
    have g5 := hW 5 (by decide)
    have g6 := hW 6 (by decide)
    have g7 := hW 7 (by decide)
    rw [show widF 0 = 2 from rfl] at g0
    rw [show widF 1 = 3 from rfl] at g1
    rw [show widF 2 = 4 from rfl] at g2
    rw [show widF 3 = 6 from rfl] at g3
    rw [show widF 4 = 8 from rfl] at g4
    rw [show widF 5 = 12 from rfl] at g5
    rw [show widF 6 = 16 from rfl] at g6
    rw [show widF 7 = 32 from rfl] at g7
    go_enter Tryd.func18, Tryd.ntmps18
    go_wp2
    go_loopw [9] (fun i wr => ∃ k : Nat, k ≤ 8 ∧ i = .int .i64 k ∧ Hid (∀ j, j < k → widF j < n) ∧ wr = w) (fun i _ => 8 - (intOf i).toNat)
    case atStart => exact ⟨0, by omega, rfl, by unfold Hid; omega, rfl⟩
    case round =>
      obtain ⟨k, hk, rfl, hl, rfl⟩ := hrel
      by_cases hlt : (k : Int) < 8
      · by_cases hn : n ≤ widF k
        · obtain ⟨eV, eE⟩ := hhit.out k (by omega) (by omega) hn hl.out
          subst eV eE
          have hk8 : k < 8 := by omega
          rcases (show k = 0 ∨ k = 1 ∨ k = 2 ∨ k = 3 ∨ k = 4 ∨ k = 5 ∨ k = 6 ∨ k = 7 by omega) with rfl | rfl | rfl | rfl | rfl | rfl | rfl | rfl
          · rw [show widF 0 = 2 from rfl] at hn; have ix := ix0 wr; go_wp2; go_ret2; exact ⟨rfl, rfl⟩
          · rw [show widF 1 = 3 from rfl] at hn; have ix := ix1 wr; go_wp2; go_ret2; exact ⟨rfl, rfl⟩
          · rw [show widF 2 = 4 from rfl] at hn; have ix := ix2 wr; go_wp2; go_ret2; exact ⟨rfl, rfl⟩
          · rw [show widF 3 = 6 from rfl] at hn; have ix := ix3 wr; go_wp2; go_ret2; exact ⟨rfl, rfl⟩
          · rw [show widF 4 = 8 from rfl] at hn; have ix := ix4 wr; go_wp2; go_ret2; exact ⟨rfl, rfl⟩
          · rw [show widF 5 = 12 from rfl] at hn; have ix := ix5 wr; go_wp2; go_ret2; exact ⟨rfl, rfl⟩
          · rw [show widF 6 = 16 from rfl] at hn; have ix := ix6 wr; go_wp2; go_ret2; exact ⟨rfl, rfl⟩
          · rw [show widF 7 = 32 from rfl] at hn; have ix := ix7 wr; go_wp2; go_ret2; exact ⟨rfl, rfl⟩
        · have hl2 : Hid (∀ j, j < k + 1 → widF j < n) := by
            unfold Hid
            intro j hj
            by_cases hjk : j < k
            · exact hl.out j hjk
            · have : j = k := by omega
              subst this; omega
          have hk8 : k < 8 := by omega
          rcases (show k = 0 ∨ k = 1 ∨ k = 2 ∨ k = 3 ∨ k = 4 ∨ k = 5 ∨ k = 6 ∨ k = 7 by omega) with rfl | rfl | rfl | rfl | rfl | rfl | rfl | rfl
          · rw [show widF 0 = 2 from rfl] at hn; have hn2 : 2 < n := by omega
            have ix := ix0 wr
            go_wp2; go_roundw
            case rel => exact ⟨1, by omega, by go_num, hl2, by first | rfl | trivial⟩
            case measure => simp [intOf]
          · rw [show widF 1 = 3 from rfl] at hn; have hn2 : 3 < n := by omega
            have ix := ix1 wr
            go_wp2; go_roundw
            case rel => exact ⟨2, by omega, by go_num, hl2, by first | rfl | trivial⟩
            case measure => simp [intOf]
          · rw [show widF 2 = 4 from rfl] at hn; have hn2 : 4 < n := by omega
            have ix := ix2 wr
            go_wp2; go_roundw
            case rel => exact ⟨3, by omega, by go_num, hl2, by first | rfl | trivial⟩
            case measure => simp [intOf]
          · rw [show widF 3 = 6 from rfl] at hn; have hn2 : 6 < n := by omega
            have ix := ix3 wr
            go_wp2; go_roundw
            case rel => exact ⟨4, by omega, by go_num, hl2, by first | rfl | trivial⟩
            case measure => simp [intOf]
          · rw [show widF 4 = 8 from rfl] at hn; have hn2 : 8 < n := by omega
            have ix := ix4 wr
            go_wp2; go_roundw
            case rel => exact ⟨5, by omega, by go_num, hl2, by first | rfl | trivial⟩
            case measure => simp [intOf]
          · rw [show widF 5 = 12 from rfl] at hn; have hn2 : 12 < n := by omega
            have ix := ix5 wr
            go_wp2; go_roundw
            case rel => exact ⟨6, by omega, by go_num, hl2, by first | rfl | trivial⟩
            case measure => simp [intOf]
          · rw [show widF 6 = 16 from rfl] at hn; have hn2 : 16 < n := by omega
            have ix := ix6 wr
            go_wp2; go_roundw
            case rel => exact ⟨7, by omega, by go_num, hl2, by first | rfl | trivial⟩
            case measure => simp [intOf]
          · rw [show widF 7 = 32 from rfl] at hn; have hn2 : 32 < n := by omega
            have ix := ix7 wr
            go_wp2; go_roundw
            case rel => exact ⟨8, by omega, by go_num, hl2, by first | rfl | trivial⟩
            case measure => simp [intOf]
      · obtain rfl : k = 8 := by omega
        obtain ⟨eV, eE⟩ := hmiss.out hl.out
        subst eV eE
        go_wp2
        go_ret2
        exact ⟨rfl, rfl⟩

/-- how many pages an object has for itself, and what is told of one that has none -/
def pgV (n : Int) : Int := if n < 1 then 0 else if 256 < n then 0 else if n ≤ 32 then 0 else (n + 63) / 64
def pgE (n : Int) : Int := if n < 1 then 1 else if 256 < n then 3 else 0
theorem pg_low (n : Int) (h : n < 1) : pgV n = 0 ∧ pgE n = 1 := by unfold pgV pgE; rw [if_pos h, if_pos h]; exact ⟨rfl, rfl⟩
theorem pg_big (n : Int) (h : 256 < n) : pgV n = 0 ∧ pgE n = 3 := by unfold pgV pgE; rw [if_neg (by omega), if_pos h, if_neg (by omega), if_pos h]; exact ⟨rfl, rfl⟩
theorem pg_small (n : Int) (h : 1 ≤ n) (h2 : n ≤ 32) : pgV n = 0 ∧ pgE n = 0 := by unfold pgV pgE; rw [if_neg (by omega), if_neg (by omega), if_pos h2, if_neg (by omega), if_neg (by omega)]; exact ⟨rfl, rfl⟩
theorem pg_mid (n : Int) (h : 32 < n) (h2 : n ≤ 256) : pgV n = (n + 63) / 64 ∧ pgE n = 0 := by unfold pgV pgE; rw [if_neg (by omega), if_neg (by omega), if_neg (by omega), if_neg (by omega), if_neg (by omega)]; exact ⟨rfl, rfl⟩

set_option maxHeartbeats 400000 in
theorem pages_any (n : Int) (w : World) :
    Calls Tryd.prog 20 #[.int .i64 n] w fun e w' => e = .returned (.tuple #[.int .i64 (pgV n), .int .i64 (pgE n)]) ∧ w' = w := by
  by_cases h1 : n < 1
  · obtain ⟨e1, e2⟩ := pg_low n h1
    rw [e1, e2]; clear e1 e2
    go_enter Tryd.func20, Tryd.ntmps20
    go_wp2; go_ret2; exact ⟨rfl, rfl⟩
  · by_cases h2 : 256 < n
    · obtain ⟨e1, e2⟩ := pg_big n h2
      rw [e1, e2]; clear e1 e2
      go_enter Tryd.func20, Tryd.ntmps20
      go_wp2; go_ret2; exact ⟨rfl, rfl⟩
    · by_cases h3 : n ≤ 32
      · obtain ⟨e1, e2⟩ := pg_small n (by omega) h3
        rw [e1, e2]; clear e1 e2
        go_enter Tryd.func20, Tryd.ntmps20
        go_wp2; go_ret2; exact ⟨rfl, rfl⟩
      · obtain ⟨e1, e2⟩ := pg_mid n (by omega) (by omega)
        rw [e1, e2]; clear e1 e2
        go_enter Tryd.func20, Tryd.ntmps20
        go_wp2; go_ret2
        refine ⟨ret_two ?_ rfl, rfl⟩
        omega
set_option maxHeartbeats 400000 in
theorem rpages_any (n : Int) (w : World) :
    Calls Tryd.prog 21 #[.int .i64 n] w fun e w' => e = .returned (.tuple #[.int .i64 (pgV n), .int .i64 (pgE n)]) ∧ w' = w := by
  by_cases h1 : n < 1
  · obtain ⟨e1, e2⟩ := pg_low n h1
    rw [e1, e2]; clear e1 e2
    go_enter Tryd.func21, Tryd.ntmps21
    go_wp2; go_ret2; exact ⟨rfl, rfl⟩
  · by_cases h2 : 256 < n
    · obtain ⟨e1, e2⟩ := pg_big n h2
      rw [e1, e2]; clear e1 e2
      go_enter Tryd.func21, Tryd.ntmps21
      go_wp2; go_ret2; exact ⟨rfl, rfl⟩
    · by_cases h3 : n ≤ 32
      · obtain ⟨e1, e2⟩ := pg_small n (by omega) h3
        rw [e1, e2]; clear e1 e2
        go_enter Tryd.func21, Tryd.ntmps21
        go_wp2; go_ret2; exact ⟨rfl, rfl⟩
      · obtain ⟨e1, e2⟩ := pg_mid n (by omega) (by omega)
        rw [e2]; clear e2
        have E1 := Lib.hid e1
        clear e1
        generalize pgV n = V at *
        go_enter Tryd.func21, Tryd.ntmps21
        go_wp2
        go_loopw [4] (fun i wr => ∃ k : Nat, 1 ≤ k ∧ k ≤ 4 ∧ ((k : Int) - 1) * 64 < n ∧ i = .int .i64 k ∧ wr = w) (fun i _ => 4 - (intOf i).toNat)
        case atStart => exact ⟨1, by omega, by omega, by omega, rfl, rfl⟩
        case round =>
          obtain ⟨k, hk1, hk, hn, rfl, rfl⟩ := hrel
          by_cases hlt : (k : Int) * 64 < n
          · go_wp2
            go_roundw
            case rel => exact ⟨k + 1, by omega, by omega, by omega, by go_num, by first | rfl | trivial⟩
            case measure => simp [intOf]; omega
          · go_wp2
            go_ret2
            exact ⟨ret_two (by rw [E1.out]; omega) rfl, rfl⟩
end Go.Proofs.YtedehigncipopaaDoor
