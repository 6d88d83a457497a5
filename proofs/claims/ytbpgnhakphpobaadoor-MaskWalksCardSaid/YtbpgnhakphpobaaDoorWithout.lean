/- What slices.Clone at any list of words, mask.Without and With return, as lists. No condition but that the lists are short and the place fits. -/
import Derived.Test.YtbpgnhakphpobaaDoorWith
namespace Go.Proofs.YtbpgnhakphpobaaDoor
open Go.RowKit
set_option linter.unusedVariables false
set_option maxRecDepth 100000 in
set_option maxHeartbeats 1000000 in
theorem clone_zero (x : Addr) (cap : Nat) (w : World) :
    Calls Tryd.prog 14 #[.slice (some x) 0 cap] w (ClonePost [] w) := by
  obtain ⟨i0, hi, hz0, hz1, hz2⟩ := info_parts info_u64
  have hn := fun W => Lib.run_eql_slice_nil (P := Tryd.prog) W 22 24 (some x) 0 cap 0 0 Tryd.underlying22
  go_enter Tryd.func14, Tryd.ntmps14
  go_wp2_with (at_builtin; refine wpList_append_own_at _ rfl _ _ 22 rfl w.heap.size 24 i0 (.int .u64 0) 1 8 Tryd.underlying22 hi hz0 hz1 hz2 rfl (by decide) _ _ _ rfl (World.ownsRow_made w #[] 0 (Nat.le_refl _) (by decide) rfl) x 0 cap [] rfl (by simp) (by simp) (by simp) (by decide) (by decide) (by simp) ?_)
  intro v' w2 hown2 hgrow _ _
  have hb : Below w.heap.size w w2 := ((Below.refl _ _).alloc (Nat.le_refl _) _).grown hgrow (by simp) (fun k hk => by have : w.heap.size = k := Option.some.inj hk; omega)
  clear hn
  go_wp2
  go_ret
  exact ⟨v', rfl, hown2, hb⟩
set_option maxHeartbeats 400000 in
theorem clone_nil (cap : Nat) (n : Nat) (w : World) :
    Calls Tryd.prog 14 #[.slice none 0 cap] w (ClonePost [] w) := by
  have hn := fun W => Lib.run_eql_slice_nil (P := Tryd.prog) W 22 24 none 0 cap 0 0 Tryd.underlying22
  go_enter Tryd.func14, Tryd.ntmps14
  go_wp2
  go_ret
  exact ⟨_, rfl, World.ownsRow_nil _ _ _ _, Below.refl _ _⟩
theorem clone_any (v : Value) (l : List Int) (w : World) (h : Lst .u64 w v l) (hl : l.length ≤ 1000000) :
    Calls Tryd.prog 14 #[v] w (ClonePost l w) := by
  rcases h with ⟨rfl, a, cap, rfl⟩ | ⟨b, o, cap, rfl, h1, h2, h3⟩
  · cases a with
    | none => exact clone_nil cap 0 w
    | some x => exact clone_zero x cap w
  · exact clone_row b o cap l w h1 hl h3
def withoutL (l : List Int) (at' : Nat) : List Int := l.set (at' / 64) (bits .andNot .u64 (l.getD (at' / 64) 0) (mbitI at'))
theorem own_set {w : World} {B g n cap : Nat} {E : TypeId} {L : List Int} (h : w.ownsRow B E 1 (.slice (some ⟨g, 0, none⟩) n cap) n (L.map (Value.int .u64))) (i : Nat) (hi : i < n) (v : Int) :
    (w.setCell ⟨g, i, none⟩ (.int .u64 v)).ownsRow B E 1 (.slice (some ⟨g, 0, none⟩) n cap) n ((L.set i v).map (Value.int .u64)) := by
  refine ⟨by simpa using h.1, ?_⟩
  rcases h.2 with ⟨h1, _⟩ | ⟨g', cap', cur, h1, h2, h3, h4, h5, h6, h7⟩
  · cases h1
  · cases h1
    refine .inr ⟨g, cap, cur.setIfInBounds i (.int .u64 v), rfl, h2, ?_, h4, h5, by simpa using h6, ?_⟩
    · exact Blk.set (cs := cur) h3 i (.int .u64 v)
    · rw [Array.toList_setIfInBounds, List.map_set, ← h7, List.take_set]
theorem own_frozen {w : World} {B g n cap : Nat} {E : TypeId} {xs : List Value} (h : w.ownsRow B E 1 (.slice (some ⟨g, 0, none⟩) n cap) n xs) (i : Nat) : w.frozen? ⟨g, i, none⟩ = false := by
  rcases h.2 with ⟨h1, _⟩ | ⟨g', cap', cur, h1, h2, h3, _⟩
  · cases h1
  · cases h1
    exact Blk.frozen (cs := cur) h3 i
theorem own_word {w : World} {B g n cap : Nat} {E : TypeId} {L : List Int} (h : w.ownsRow B E 1 (.slice (some ⟨g, 0, none⟩) n cap) n (L.map (Value.int .u64))) (q : Nat) (hq : q < n) : w.cell? ⟨g, q, none⟩ = some (.int .u64 (L.getD q 0)) := by
  have hn : L.length = n := by have := h.1; simpa using this
  rw [h.cellAt q (by omega)]
  simp [List.getD_eq_getElem?_getD, show q < L.length by omega]
theorem Quiet.ownsRow' {w w' : World} {base : Nat} {e : TypeId} {size : Nat} {v : Value} {n : Nat} {xs : List Value} (h : w.ownsRow base e size v n xs) (hq : Quiet w w') : w'.ownsRow base e size v n xs := by
  obtain ⟨n, rfl⟩ := hq; exact h
theorem own_form {w : World} {base : Nat} {e : TypeId} {size : Nat} {v : Value} {n : Nat} {xs : List Value} (h : w.ownsRow base e size v n xs) (hn : 0 < n) : ∃ g cap, v = .slice (some ⟨g, 0, none⟩) n cap ∧ base ≤ g ∧ True := by
  rcases h.2 with ⟨_, h0⟩ | ⟨g, cap, cur, hv, hb, _⟩
  · omega
  · exact ⟨g, cap, hv, hb, trivial⟩
theorem own_slice {w : World} {base : Nat} {e : TypeId} {size : Nat} {v : Value} {n : Nat} {xs : List Value} (h : w.ownsRow base e size v n xs) : ∃ a cap, v = .slice a n cap := by
  rcases h.2 with ⟨hv, h0⟩ | ⟨g, cap, cur, hv, hb, _⟩
  · exact ⟨none, 0, by rw [hv, h0]⟩
  · exact ⟨_, cap, hv⟩
/-- the block in which a list's words lie, if it has any -/
def setBlk : Value → Option Nat
  | .slice (some x) n _ => if n = 0 then none else some x.block
  | _ => none
theorem setBlk_at {g o n cap b : Nat} (h : setBlk (.slice (some ⟨g, o, none⟩) n cap) = some b) : g = b := by
  have h' : (if n = 0 then none else some g) = some b := h
  split at h'
  · cases h'
  · exact Option.some.inj h'
theorem own_setBlk {w : World} {base : Nat} {e : TypeId} {size n : Nat} {v : Value} {xs : List Value} (h : w.ownsRow base e size v n xs) : ∀ b, setBlk v = some b → base ≤ b := by
  intro b hb
  rcases h.2 with ⟨rfl, _⟩ | ⟨g, cap, cur, rfl, hg, _⟩
  · simp [setBlk] at hb
  · rw [← setBlk_at hb]; exact hg
/-- A new list and no error. -/
def SetPost (w0 : World) (L : List Int) (e : Ending) (w' : World) : Prop :=
  ∃ v, e = .returned (.tuple #[v, .int .i64 0]) ∧ Lst .u64 w' v L ∧ Below w0.heap.size w0 w' ∧ ∀ b, setBlk v = some b → w0.heap.size ≤ b
end Go.Proofs.YtbpgnhakphpobaaDoor
