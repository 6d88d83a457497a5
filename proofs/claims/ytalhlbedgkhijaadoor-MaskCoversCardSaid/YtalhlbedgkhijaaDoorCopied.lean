/- What mask.copied, With and Without return: new lists. No condition but that the lists are short. -/
import Derived.Test.YtalhlbedgkhijaaDoorMask
import Derived.Laws.CopyOwn
namespace Go.Proofs.YtalhlbedgkhijaaDoor
open Go.RowKit
set_option linter.unusedVariables false
def padL (l : List Int) (n : Nat) : List Int := l ++ List.replicate (n - l.length) 0
theorem padL_len (l : List Int) (n : Nat) (h : l.length ≤ n) : (padL l n).length = n := by simp [padL]; omega
theorem padL_get (l : List Int) (n i : Nat) : (padL l n).getD i 0 = l.getD i 0 := by
  unfold padL
  by_cases h : i < l.length
  · simp [List.getD_eq_getElem?_getD, List.getElem?_append_left h]
  · rw [List.getD_eq_getElem?_getD, List.getD_eq_getElem?_getD, List.getElem?_append_right (by omega), List.getElem?_eq_none (l := l) (by omega)]
    by_cases h2 : i - l.length < n - l.length
    · simp [h2]
    · simp [h2]
/-- The cells of a new list of words, its block known whole. -/
def NewRow (w0 : World) (L : List Int) (e : Ending) (w' : World) : Prop :=
  ∃ g, e = .returned (.slice (some ⟨g, 0, none⟩) L.length L.length) ∧ Blk w' g (L.map (Value.int .u64)).toArray 33 ∧ w0.heap.size ≤ g ∧ Below w0.heap.size w0 w'
theorem splice_pad (l : List Int) (n : Nat) (h : l.length ≤ n) : splice (zeros n).toList 0 (l.map (Value.int .u64)) = (padL l n).map (Value.int .u64) := by
  unfold splice zeros padL
  simp
theorem lst_len {w : World} {v : Value} {l : List Int} (h : Lst .u64 w v l) : ∃ a cap, v = .slice a l.length cap ∧ (0 < l.length → ∃ b o, a = some ⟨b, o, none⟩ ∧ ∀ i, i < l.length → w.cell? ⟨b, o + i, none⟩ = some (.int .u64 (l.getD i 0))) := by
  rcases h with ⟨rfl, a, cap, rfl⟩ | ⟨b, o, cap, rfl, h1, h2, h3⟩
  · exact ⟨a, cap, rfl, fun h => absurd h (by simp)⟩
  · exact ⟨_, cap, rfl, fun _ => ⟨b, o, rfl, h3⟩⟩
set_option maxRecDepth 100000 in
set_option maxHeartbeats 1000000 in
theorem copied_lt (v : Value) (l : List Int) (m : Nat) (w : World) (h : Lst .u64 w v l) (hc : l.length < m) (hN1 : m ≤ 4096) :
    Calls Tryd.prog 53 #[v, .int .i64 m] w (NewRow w (padL l (m))) := by
  obtain ⟨a, cap, rfl, hcell⟩ := lst_len h
  have hmk := fun W => run_mk W (m) (by omega) (by omega)
  have hsz : (Tryd.prog.info? 33).map (·.size) = some 1 := by kernel_rfl
  have hln : l.length ≤ m := by omega
  have hc1 : (l.length : Int) < (m : Int) := by omega
  have hmx : max (l.length : Int) (m : Int) = (m : Int) := by omega
  have HC := Lib.hid hcell
  have HS := Lib.hid hsz
  clear h hcell hsz
  go_enter Tryd.func53, Tryd.ntmps53
  go_wp2_with (with_reducible refine wpList_copy_splice rfl _ _ 22 22 rfl 33 Tryd.underlying22 HS.out _ _ _ _ _ _ rfl rfl w.heap.size 0 (zeros (m)).toList 33 ?c1 (l.map (Value.int .u64)) ?c2 ?c3 ?c4 ?c5 w.heap.size w ?c6 (Nat.le_refl _) ?_)
  case c1 => exact Blk.new' (by simp)
  case c2 => simp only [List.length_map, Nat.min_def]; split <;> omega
  case c3 =>
    intro hp
    obtain ⟨b, o, rfl, hcc⟩ := HC.out hp
    refine ⟨_, rfl, fun j x hx => ?_⟩
    have hj : j < l.length := (List.getElem?_eq_some_iff.1 hx).1
    have e1 : (⟨b, o, none⟩ : Addr).add j = ⟨b, o + j, none⟩ := by unfold Addr.add; split <;> simp_all
    have hu : l.getD j 0 = x := by simp [List.getD_eq_getElem?_getD, hx]
    have hcj := hcc j hj
    rw [e1, World.cell?_alloc_lt _ _ _ (World.block_lt_of_cell? w _ hcj), hcj, hu]
  case c4 => simp [zeros] <;> omega
  case c5 =>
    intro u hu
    simp at hu
    obtain ⟨x, _, rfl⟩ := hu
    rfl
  case c6 => exact (Below.refl _ _).alloc (Nat.le_refl _) _
  intro w2 hg hb
  have hg2 : Blk w2 w.heap.size ((padL l (m)).map (Value.int .u64)).toArray 33 := by rw [← splice_pad l _ hln]; exact hg.out
  have hg3 := Lib.hid hg2
  clear hg hg2 hmk
  go_wp2
  go_ret
  exact ⟨w.heap.size, by rw [padL_len l _ hln]; rfl, hg3.out, Nat.le_refl _, hb⟩
set_option maxRecDepth 100000 in
set_option maxHeartbeats 1000000 in
theorem copied_ge (v : Value) (l : List Int) (m : Nat) (w : World) (h : Lst .u64 w v l) (hc : m ≤ l.length) (hN1 : l.length ≤ 4096) :
    Calls Tryd.prog 53 #[v, .int .i64 m] w (NewRow w (padL l (l.length))) := by
  obtain ⟨a, cap, rfl, hcell⟩ := lst_len h
  have hmk := fun W => run_mk W (l.length) (by omega) (by omega)
  have hsz : (Tryd.prog.info? 33).map (·.size) = some 1 := by kernel_rfl
  have hln : l.length ≤ l.length := by omega
  have hc1 : (m : Int) ≤ (l.length : Int) := by omega
  have hmx : max (l.length : Int) (m : Int) = (l.length : Int) := by omega
  have HC := Lib.hid hcell
  have HS := Lib.hid hsz
  clear h hcell hsz
  go_enter Tryd.func53, Tryd.ntmps53
  go_wp2_with (with_reducible refine wpList_copy_splice rfl _ _ 22 22 rfl 33 Tryd.underlying22 HS.out _ _ _ _ _ _ rfl rfl w.heap.size 0 (zeros (l.length)).toList 33 ?c1 (l.map (Value.int .u64)) ?c2 ?c3 ?c4 ?c5 w.heap.size w ?c6 (Nat.le_refl _) ?_)
  case c1 => exact Blk.new' (by simp)
  case c2 => simp only [List.length_map, Nat.min_def]; split <;> omega
  case c3 =>
    intro hp
    obtain ⟨b, o, rfl, hcc⟩ := HC.out hp
    refine ⟨_, rfl, fun j x hx => ?_⟩
    have hj : j < l.length := (List.getElem?_eq_some_iff.1 hx).1
    have e1 : (⟨b, o, none⟩ : Addr).add j = ⟨b, o + j, none⟩ := by unfold Addr.add; split <;> simp_all
    have hu : l.getD j 0 = x := by simp [List.getD_eq_getElem?_getD, hx]
    have hcj := hcc j hj
    rw [e1, World.cell?_alloc_lt _ _ _ (World.block_lt_of_cell? w _ hcj), hcj, hu]
  case c4 => simp [zeros] <;> omega
  case c5 =>
    intro u hu
    simp at hu
    obtain ⟨x, _, rfl⟩ := hu
    rfl
  case c6 => exact (Below.refl _ _).alloc (Nat.le_refl _) _
  intro w2 hg hb
  have hg2 : Blk w2 w.heap.size ((padL l (l.length)).map (Value.int .u64)).toArray 33 := by rw [← splice_pad l _ hln]; exact hg.out
  have hg3 := Lib.hid hg2
  clear hg hg2 hmk
  go_wp2
  go_ret
  exact ⟨w.heap.size, by rw [padL_len l _ hln]; rfl, hg3.out, Nat.le_refl _, hb⟩
theorem copied_any (v : Value) (l : List Int) (m : Nat) (w : World) (h : Lst .u64 w v l) (h1 : m ≤ 4096) (h2 : l.length ≤ 4096) :
    Calls Tryd.prog 53 #[v, .int .i64 m] w (NewRow w (padL l (if l.length < m then m else l.length))) := by
  by_cases hc : l.length < m
  · rw [if_pos hc]; exact copied_lt v l m w h hc h1
  · rw [if_neg hc]; exact copied_ge v l m w h (by omega) h2
end Go.Proofs.YtalhlbedgkhijaaDoor
