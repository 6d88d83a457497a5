/- What slices.Clone returns at a slice of words, and Image of an arena. Condition: the cells are there. -/
import Derived.Test.YtedccpconldkoaaNewa
import Derived.Maps.AppendAt
namespace Go.Proofs.Ytedccpconldkoaa
open Go.RowKit
theorem lst_of_own {w : World} {base : Nat} {e : TypeId} {v : Value} {n : Nat} {zs : List Int} (h : w.ownsRow base e 1 v n (zs.map (Value.int .u64))) : Lst .u64 w v zs := by
  have hn : zs.length = n := by have := h.1; simpa using this
  rcases h.2 with ⟨h1, h2⟩ | ⟨g, cap, cur, h1, _, _, h4, h5, _⟩
  · exact .inl ⟨List.eq_nil_of_length_eq_zero (by omega), none, 0, h1⟩
  · rcases Nat.eq_zero_or_pos n with h0 | h0
    · exact .inl ⟨List.eq_nil_of_length_eq_zero (by omega), _, cap, by rw [h1, h0]⟩
    · refine .inr ⟨g, 0, cap, by rw [hn]; exact h1, by omega, by omega, fun i hi => ?_⟩
      subst h1
      have := h.cellAt i (by omega)
      rw [Nat.zero_add, this]
      simp [List.getD_eq_getElem?_getD, hi]
def ClonePost (zs : List Int) (w : World) (e : Ending) (w' : World) : Prop :=
  ∃ v, e = .returned v ∧ w'.ownsRow w.heap.size 43 1 v zs.length (zs.map (Value.int .u64)) ∧ Below w.heap.size w w'
set_option maxRecDepth 100000 in
set_option maxHeartbeats 1000000 in
theorem clone_row (b o cap : Nat) (zs : List Int) (w : World) (h0 : 0 < zs.length) (hm : zs.length ≤ 1000000) (hc : Hid (∀ i, i < zs.length → w.cell? ⟨b, o + i, none⟩ = some (.int .u64 (zs.getD i 0)))) :
    Calls Try.prog 28 #[.slice (some ⟨b, o, none⟩) zs.length cap] w (ClonePost zs w) := by
  obtain ⟨i0, hi, hz0, hz1, hz2⟩ := info_parts info_u64
  have hn := fun W => Lib.run_eql_slice_nil (P := Try.prog) W 30 43 (some ⟨b, o, none⟩) zs.length cap 0 0 Try.underlying30
  go_enter Try.func28, Try.ntmps28
  go_wp2_with (at_builtin; refine wpList_append_own_at _ rfl _ _ 30 rfl w.heap.size 43 i0 (.int .u64 0) 1 8 Try.underlying30 hi hz0 hz1 hz2 rfl (by decide) _ _ _ rfl (World.ownsRow_made w #[] 0 (Nat.le_refl _) (by decide) rfl) ⟨b, o, none⟩ zs.length cap (zs.map (Value.int .u64)) rfl (by simp) ?c1 ?c2 ?c3 ?c4 ?c5 ?_)
  case c1 =>
    intro j u hu
    have hj : j < zs.length := by
      rcases Nat.lt_or_ge j zs.length with h | h
      · exact h
      · rw [List.getElem?_eq_none (by simpa using h)] at hu; cases hu
    have e1 : (⟨b, o, none⟩ : Addr).add j = ⟨b, o + j, none⟩ := by unfold Addr.add; split <;> simp_all
    have hu' : u = .int .u64 (zs.getD j 0) := by
      simp [hj] at hu
      simp [List.getD_eq_getElem?_getD, hj, hu]
    have hcj := hc.out j hj
    rw [e1, World.cell?_alloc_lt _ _ _ (World.block_lt_of_cell? w _ hcj), hcj, hu']
  case c2 =>
    intro u hu
    simp at hu
    obtain ⟨x, _, rfl⟩ := hu
    rfl
  case c3 => unfold maxLen; omega
  case c4 => omega
  case c5 => simp
  intro v' w2 hown2 hgrow _ _
  have hb : Below w.heap.size w w2 := ((Below.refl _ _).alloc (Nat.le_refl _) _).grown hgrow (by simp) (fun k hk => by have : w.heap.size = k := Option.some.inj hk; omega)
  clear hn
  go_wp2
  go_ret
  exact ⟨v', rfl, hown2, hb⟩
def ImagePost (cs : List Int) (w : World) (e : Ending) (w' : World) : Prop :=
  ∃ v, e = .returned v ∧ w'.ownsRow w.heap.size 43 1 v cs.length (cs.map (Value.int .u64)) ∧ Below w.heap.size w w'
set_option maxHeartbeats 400000 in
theorem image_nil (w : World) :
    Calls Try.prog 14 #[.pointer none] w fun e w' => e = .returned (.slice none 0 0) ∧ Quiet w w' := by
  go_enter Try.func14, Try.ntmps14
  go_wp2
  go_ret
  exact ⟨rfl, Quiet.refl _⟩
set_option maxHeartbeats 400000 in
theorem image_at (a c : Nat) (cs : List Int) (keep : Bool) (lv : Value) (n f : Int) (w : World) (hA : ArenaAt w a c cs keep lv n f) (h0 : 0 < cs.length) (hm : cs.length ≤ 1000000) :
    Calls Try.prog 14 #[.pointer (some ⟨a, 0, none⟩)] w (ImagePost cs w) := by
  have c0 := hA.c0
  have T := Lib.hid (clone_row c 0 cs.length cs w h0 hm (fun i hi => by rw [Nat.zero_add]; exact hA.cell i hi))
  clear hA
  go_enter Try.func14, Try.ntmps14
  go_wp2_with (go_at_call 28; refine T.out.mono ?_; rintro e w1 ⟨v, rfl, hown, hb⟩)
  go_ret
  exact ⟨v, rfl, hown, hb⟩
end Go.Proofs.Ytedccpconldkoaa
