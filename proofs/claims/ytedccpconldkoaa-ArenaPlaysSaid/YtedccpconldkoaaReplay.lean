/- What arena.Replay and the document's Replay return. Condition: the lists are there, at most 500 long. -/
import Derived.Test.YtedccpconldkoaaRepeat
import Derived.Test.YtedccpconldkoaaClon
import Derived.Test.YtedccpconldkoaaRowS
namespace Go.Proofs.Ytedccpconldkoaa
open Go.RowKit
set_option linter.unusedVariables false

/-- what comes of one access: the number of an error, or nothing -/
def stepE (cs : List Int) (at' k want put seen left : Int) : Int :=
  if insB cs.length at' = false then 5 else if kindB k = true ∧ seen = cs.getD at'.toNat 0 ∧ left = leftI k seen want put then 0 else 4
/-- the cells behind accesses, from the i-th on; where it stopped; the error's number -/
def repl (F : Nat → Nat → Int) : Nat → Nat → List Int → Option (List Int) × Nat × Int
  | 0, _, cs => (some cs, 0, 0)
  | m + 1, i, cs => if stepE cs (F i 2) (F i 1) (F i 3) (F i 4) (F i 5) (F i 6) = 0 then repl F m (i + 1) (cs.set (F i 2).toNat (F i 6)) else (none, i, stepE cs (F i 2) (F i 1) (F i 3) (F i 4) (F i 5) (F i 6))
theorem repl_len (F : Nat → Nat → Int) : ∀ m i cs l, (repl F m i cs).1 = some l → l.length = cs.length
  | 0, _, cs, l, h => by simp only [repl, Option.some.injEq] at h; rw [h]
  | m + 1, i, cs, l, h => by
    unfold repl at h
    split at h
    · have := repl_len F m _ _ l h; simpa using this
    · cases h
def ReplayPost (r : Option (List Int) × Nat × Int) (w : World) (e : Ending) (w' : World) : Prop :=
  ∃ v, e = .returned (.tuple #[v, .int .i64 ((r.2.1 : Nat) : Int), .int .i64 r.2.2]) ∧ w'.ownsRow w.heap.size 43 1 v (r.1.getD []).length ((r.1.getD []).map (Value.int .u64)) ∧ Below w.heap.size w w'
abbrev accK (j : Nat) : IntKind := ([.i64, .i64, .i64, .u64, .u64, .u64, .u64] : List IntKind).getD j .i64

/-- the slice that holds the cells, whatever its length -/
def Held (w : World) (B : Nat) (a : Option Addr) (n c : Nat) (cs : List Int) : Prop := w.ownsRow B 43 1 (.slice a n c) n (cs.map (Value.int .u64))
theorem Held.len {w : World} {B n c : Nat} {a : Option Addr} {cs : List Int} (h : Held w B a n c cs) : cs.length = n := by have := h.1; simpa using this
theorem Held.rw {w : World} {B n c : Nat} {a : Option Addr} {cs : List Int} (h : Held w B a n c cs) (h0 : 0 < n) : ∃ g, a = some ⟨g, 0, none⟩ ∧ Rw w B g n c cs := by
  rcases h.2 with ⟨h1, h2⟩ | ⟨g, cap, cur, h1, _⟩
  · omega
  · simp only [Value.slice.injEq, true_and] at h1
    obtain ⟨rfl, rfl⟩ := h1
    exact ⟨g, rfl, ⟨h⟩⟩
theorem Held.grew {w w' : World} {B n c : Nat} {a : Option Addr} {cs : List Int} (h : Held w B a n c cs) (hb : Below w.heap.size w w') : Held w' B a n c cs := by
  refine ⟨h.1, ?_⟩
  rcases h.2 with h1 | ⟨g, cap, cur, h1, h2, h3, h4⟩
  · exact .inl h1
  · exact .inr ⟨g, cap, cur, h1, h2, (hb.block g (Array.getElem?_eq_some_iff.1 h3).1).trans h3, h4⟩

theorem repl_more (F : Nat → Nat → Int) (m k : Nat) (cs : List Int) (hk : k < m) (h : stepE cs (F k 2) (F k 1) (F k 3) (F k 4) (F k 5) (F k 6) = 0) :
    repl F (m - k) k cs = repl F (m - (k + 1)) (k + 1) (cs.set (F k 2).toNat (F k 6)) := by
  rw [show m - k = (m - (k + 1)) + 1 by omega, repl, if_pos h]
theorem repl_stop (F : Nat → Nat → Int) (m k : Nat) (cs : List Int) (hk : k < m) (h : ¬ stepE cs (F k 2) (F k 1) (F k 3) (F k 4) (F k 5) (F k 6) = 0) :
    repl F (m - k) k cs = (none, k, stepE cs (F k 2) (F k 1) (F k 3) (F k 4) (F k 5) (F k 6)) := by
  rw [show m - k = (m - (k + 1)) + 1 by omega, repl, if_neg h]

end Go.Proofs.Ytedccpconldkoaa
