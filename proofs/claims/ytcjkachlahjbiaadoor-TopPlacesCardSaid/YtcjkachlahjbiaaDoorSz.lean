/- Package sizes: the classes' numbers; what Words, Class, Pages return, and the document's. No condition but that the tables lie as the start lays them. -/
import Derived.Test.YtcjkachlahjbiaaDoorTabs
import Derived.Test.YtcjkachlahjbiaaDoorPlcs
namespace Go.Proofs.YtcjkachlahjbiaaDoor
open Go.RowKit
set_option linter.unusedVariables false

/-- how many words a class's cells have -/
def widF (j : Nat) : Int := ([2, 3, 4, 6, 8, 12, 16, 32] : List Int).getD j 0
def Wid (w : World) : Prop := ∀ j, j < 8 → w.cell? ⟨0, j, none⟩ = some (.int .i64 (widF j))
theorem Wid.quiet {w w' : World} (h : Wid w) (q : Quiet w w') : Wid w' := fun j hj => (q.cell _).trans (h j hj)
theorem Wid.lt {w : World} (h : Wid w) : 0 < w.heap.size := World.block_lt_of_cell? w _ (h 0 (by decide))
theorem Wid.below {B : Nat} {w w' : World} (h : Wid w) (hb : Below B w w') (hl : 0 < B) : Wid w' := fun j hj => (hb.cell (p := ⟨0, j, none⟩) hl).trans (h j hj)
theorem Wid.grew {w w' : World} (h : Wid w) (hb : Below w.heap.size w w') : Wid w' := h.below hb h.lt
/-- both tables lie as the start lays them -/
structure Tbs (w : World) : Prop where
  tab : Tab w
  wid : Wid w
theorem Tbs.quiet {w w' : World} (h : Tbs w) (q : Quiet w w') : Tbs w' := ⟨h.tab.quiet q, h.wid.quiet q⟩
theorem Tbs.grew {w w' : World} (h : Tbs w) (hb : Below w.heap.size w w') : Tbs w' := ⟨h.tab.grew hb, h.wid.grew hb⟩

/-- is it a class? -/
def clsB (c : Int) : Bool := decide (0 ≤ c ∧ c < 8)
theorem clsB_yes {c : Int} (h : clsB c = true) : ∃ k : Nat, c = (k : Int) ∧ k < 8 := by
  have : 0 ≤ c ∧ c < 8 := by simpa [clsB] using h
  exact ⟨c.toNat, by omega, by omega⟩
theorem clsB_no {c : Int} (h : clsB c = false) : c < 0 ∨ 8 ≤ c := by
  have : ¬ (0 ≤ c ∧ c < 8) := by simpa [clsB] using h
  omega
def widI (c : Int) : Int := if clsB c then widF c.toNat else 0
def errI (c : Int) : Int := if clsB c then 0 else 1
theorem widF_bd (k : Nat) (h : k < 8) : 2 ≤ widF k ∧ widF k ≤ 32 := by
  have : ∀ k : Fin 8, 2 ≤ widF k.val ∧ widF k.val ≤ 32 := by decide
  exact this ⟨k, h⟩

set_option maxHeartbeats 400000 in
theorem words_any (c : Int) (w : World) (hW : Wid w) :
    Calls Tryd.prog 6 #[.int .i64 c] w fun e w' => e = .returned (.tuple #[.int .i64 (widI c), .int .i64 (errI c)]) ∧ w' = w := by
  cases hc : clsB c with
  | true =>
    have e1 : widI c = widF c.toNat := by unfold widI; rw [hc]; rfl
    have e2 : errI c = 0 := by unfold errI; rw [hc]; rfl
    obtain ⟨k, rfl, hk⟩ := clsB_yes hc
    rw [Int.toNat_natCast] at e1
    have h := hW k hk
    rw [e1, e2]
    generalize widF k = V at *
    clear e1 e2 hc
    have k8 : (k : Int) < 8 := by omega
    go_enter Tryd.func6, Tryd.ntmps6
    go_wp2
    go_ret2
    exact ⟨rfl, rfl⟩
  | false =>
    have e1 : widI c = 0 := by unfold widI; rw [hc]; rfl
    have e2 : errI c = 1 := by unfold errI; rw [hc]; rfl
    rw [e1, e2]
    clear e1 e2
    rcases clsB_no hc with h | h
    · clear hc
      go_enter Tryd.func6, Tryd.ntmps6
      go_wp2
      go_ret2
      exact ⟨rfl, rfl⟩
    · clear hc
      have h0 : 0 ≤ c := by omega
      go_enter Tryd.func6, Tryd.ntmps6
      go_wp2
      go_ret2
      exact ⟨rfl, rfl⟩

/-- the least class whose cells have so many words, and what is told of one that there isn't -/
def clV (n : Int) : Int := if n < 1 then 0 else if n ≤ 2 then 0 else if n ≤ 3 then 1 else if n ≤ 4 then 2 else if n ≤ 6 then 3 else if n ≤ 8 then 4 else if n ≤ 12 then 5 else if n ≤ 16 then 6 else if n ≤ 32 then 7 else 0
def clE (n : Int) : Int := if n < 1 then 1 else if n ≤ 32 then 0 else 3
theorem cl_hit (n : Int) (k : Nat) (h1 : 1 ≤ n) (hk : k < 8) (h : n ≤ widF k) (hl : ∀ j, j < k → widF j < n) : clV n = (k : Int) ∧ clE n = 0 := by
  have hl0 := hl (k - 1)
  have e : ∀ j : Fin 8, widF j.val = ([2, 3, 4, 6, 8, 12, 16, 32] : List Int).getD j.val 0 := fun _ => rfl
  match k, hk with
  | 0, _ => unfold clV clE; rw [show widF 0 = 2 from rfl] at h; constructor <;> (repeat' split) <;> omega
  | 1, _ => have := hl0 (by omega); rw [show widF (1 - 1) = 2 from rfl] at this; rw [show widF 1 = 3 from rfl] at h; unfold clV clE; constructor <;> (repeat' split) <;> omega
  | 2, _ => have := hl0 (by omega); rw [show widF (2 - 1) = 3 from rfl] at this; rw [show widF 2 = 4 from rfl] at h; unfold clV clE; constructor <;> (repeat' split) <;> omega
  | 3, _ => have := hl0 (by omega); rw [show widF (3 - 1) = 4 from rfl] at this; rw [show widF 3 = 6 from rfl] at h; unfold clV clE; constructor <;> (repeat' split) <;> omega
  | 4, _ => have := hl0 (by omega); rw [show widF (4 - 1) = 6 from rfl] at this; rw [show widF 4 = 8 from rfl] at h; unfold clV clE; constructor <;> (repeat' split) <;> omega
  | 5, _ => have := hl0 (by omega); rw [show widF (5 - 1) = 8 from rfl] at this; rw [show widF 5 = 12 from rfl] at h; unfold clV clE; constructor <;> (repeat' split) <;> omega
  | 6, _ => have := hl0 (by omega); rw [show widF (6 - 1) = 12 from rfl] at this; rw [show widF 6 = 16 from rfl] at h; unfold clV clE; constructor <;> (repeat' split) <;> omega
  | 7, _ => have := hl0 (by omega); rw [show widF (7 - 1) = 16 from rfl] at this; rw [show widF 7 = 32 from rfl] at h; unfold clV clE; constructor <;> (repeat' split) <;> omega
theorem cl_miss (n : Int) (h1 : 1 ≤ n) (hl : ∀ j, j < 8 → widF j < n) : clV n = 0 ∧ clE n = 3 := by
  have := hl 7 (by omega)
  rw [show widF 7 = 32 from rfl] at this
  unfold clV clE
  constructor <;> (repeat' split) <;> omega
theorem cl_low (n : Int) (h : n < 1) : clV n = 0 ∧ clE n = 1 := by
  unfold clV clE
  rw [if_pos h, if_pos h]
  exact ⟨rfl, rfl⟩

theorem ix0 (w : World) : (Instr.index 43 (.agg #[.int .i64 2, .int .i64 3, .int .i64 4, .int .i64 6, .int .i64 8, .int .i64 12, .int .i64 16, .int .i64 32]) (.int .i64 0)).run Tryd.prog w = .ok (.int .i64 2) w := by kernel_rfl
theorem ix1 (w : World) : (Instr.index 43 (.agg #[.int .i64 2, .int .i64 3, .int .i64 4, .int .i64 6, .int .i64 8, .int .i64 12, .int .i64 16, .int .i64 32]) (.int .i64 1)).run Tryd.prog w = .ok (.int .i64 3) w := by kernel_rfl
theorem ix2 (w : World) : (Instr.index 43 (.agg #[.int .i64 2, .int .i64 3, .int .i64 4, .int .i64 6, .int .i64 8, .int .i64 12, .int .i64 16, .int .i64 32]) (.int .i64 2)).run Tryd.prog w = .ok (.int .i64 4) w := by kernel_rfl
theorem ix3 (w : World) : (Instr.index 43 (.agg #[.int .i64 2, .int .i64 3, .int .i64 4, .int .i64 6, .int .i64 8, .int .i64 12, .int .i64 16, .int .i64 32]) (.int .i64 3)).run Tryd.prog w = .ok (.int .i64 6) w := by kernel_rfl
theorem ix4 (w : World) : (Instr.index 43 (.agg #[.int .i64 2, .int .i64 3, .int .i64 4, .int .i64 6, .int .i64 8, .int .i64 12, .int .i64 16, .int .i64 32]) (.int .i64 4)).run Tryd.prog w = .ok (.int .i64 8) w := by kernel_rfl
theorem ix5 (w : World) : (Instr.index 43 (.agg #[.int .i64 2, .int .i64 3, .int .i64 4, .int .i64 6, .int .i64 8, .int .i64 12, .int .i64 16, .int .i64 32]) (.int .i64 5)).run Tryd.prog w = .ok (.int .i64 12) w := by kernel_rfl
theorem ix6 (w : World) : (Instr.index 43 (.agg #[.int .i64 2, .int .i64 3, .int .i64 4, .int .i64 6, .int .i64 8, .int .i64 12, .int .i64 16, .int .i64 32]) (.int .i64 6)).run Tryd.prog w = .ok (.int .i64 16) w := by kernel_rfl
theorem ix7 (w : World) : (Instr.index 43 (.agg #[.int .i64 2, .int .i64 3, .int .i64 4, .int .i64 6, .int .i64 8, .int .i64 12, .int .i64 16, .int .i64 32]) (.int .i64 7)).run Tryd.prog w = .ok (.int .i64 32) w := by kernel_rfl
/-- how many pages an object has for itself, and what is told of one that has none -/
def pgV (n : Int) : Int := if n < 1 then 0 else if 256 < n then 0 else if n ≤ 32 then 0 else (n + 63) / 64
def pgE (n : Int) : Int := if n < 1 then 1 else if 256 < n then 3 else 0
theorem pg_low (n : Int) (h : n < 1) : pgV n = 0 ∧ pgE n = 1 := by unfold pgV pgE; rw [if_pos h, if_pos h]; exact ⟨rfl, rfl⟩
theorem pg_big (n : Int) (h : 256 < n) : pgV n = 0 ∧ pgE n = 3 := by unfold pgV pgE; rw [if_neg (by omega), if_pos h, if_neg (by omega), if_pos h]; exact ⟨rfl, rfl⟩
theorem pg_small (n : Int) (h : 1 ≤ n) (h2 : n ≤ 32) : pgV n = 0 ∧ pgE n = 0 := by unfold pgV pgE; rw [if_neg (by omega), if_neg (by omega), if_pos h2, if_neg (by omega), if_neg (by omega)]; exact ⟨rfl, rfl⟩
theorem pg_mid (n : Int) (h : 32 < n) (h2 : n ≤ 256) : pgV n = (n + 63) / 64 ∧ pgE n = 0 := by unfold pgV pgE; rw [if_neg (by omega), if_neg (by omega), if_neg (by omega), if_neg (by omega), if_neg (by omega)]; exact ⟨rfl, rfl⟩

end Go.Proofs.YtcjkachlahjbiaaDoor
