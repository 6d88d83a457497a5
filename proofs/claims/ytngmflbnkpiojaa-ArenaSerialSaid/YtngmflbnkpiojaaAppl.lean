/- append of any slice of words to an empty slice of one's own. Condition: it is at most a million long. -/
import Derived.Test.YtngmflbnkpiojaaClon
import Derived.Maps.AppendAt
namespace Go.Proofs.Ytngmflbnkpiojaa
open Go.RowKit
set_option linter.unusedVariables false

theorem app_none (w : World) (ty : TypeId) (g : Option Addr) (cap c : Nat) {i0 : TypeInfo} (hi : Try.prog.info? 30 = some i0) :
    (Builtin.append_ #[22, 22] ty #[.slice g 0 cap, .slice none 0 c]).run Try.prog w = .ok (.slice g 0 cap) w := by
  have ht := run_underlying (P := Try.prog) (w := w) Try.underlying22
  cases g <;> simp [Builtin.append_, ht, sizeOf, typeInfo, hi, Builtin.lenOf, Builtin.firstCells, loadCells, loadCellsFrom, storeCells]
theorem wp_app {ops : Array Oper} {rest : List Oper} {o : Oper} {a : Act} {Q : Exit → Act → World → Prop} {w : World} (hgd : o.guard = none) (s x : Operand)
    (ho : o.op = .call { callee := .builtin .append, args := #[s, x], argTypes := #[22, 22] }) (base : Nat) (vin : Value) (zs : List Int) (hin : Lst .u64 w vin zs) (hm : zs.length ≤ 1000000)
    (v : Value) (hs : a.eval s = v) (hown : w.ownsRow base 30 1 v 0 []) (hx : a.eval x = vin) (hbase : base ≤ w.heap.size)
    (h : ∀ v' w', w'.ownsRow base 30 1 v' zs.length (zs.map (Value.int .u64)) → w.grownBy w' v.ownBlock → wpList Try.prog ops Q rest (a.put o.dst v') w') :
    wpList Try.prog ops Q (o :: rest) a w := by
  obtain ⟨i0, hi, hz0, hz1, hz2⟩ := info_parts info_u64
  rcases hin with ⟨rfl, a1, c1, rfl⟩ | ⟨b, off, c1, rfl, hp, hmx, hc⟩
  · refine wpList_plain hgd fun K hK => ?_
    have H := fun ad => run_append_own_at (P := Try.prog) w base 22 o.type 30 i0 (.int .u64 0) 1 8 Try.underlying22 hi hz0 hz1 hz2 rfl (by decide) v 0 [] hown ad 0 c1 [] rfl (fun j u hu => by simp at hu) (fun u hu => by simp at hu) (by unfold maxLen; omega) (by omega) hbase
    have H2 : ∃ v' w', (Builtin.append_ #[22, 22] o.type #[v, .slice a1 0 c1]).run Try.prog w = .ok v' w' ∧ w'.ownsRow base 30 1 v' 0 [] ∧ w.grownBy w' v.ownBlock := by
      cases a1 with
      | some ad =>
        obtain ⟨v', w', hr, h2, h3, h4, h5⟩ := H ad
        exact ⟨v', w', hr, by simpa using h2, h3⟩
      | none =>
        have hv : ∃ g cap, v = .slice g 0 cap := by
          rcases hown.2 with ⟨h1, h2⟩ | ⟨g, cap, cur, h1, _⟩
          · exact ⟨_, _, h1⟩
          · exact ⟨_, _, h1⟩
        obtain ⟨g, cap, rfl⟩ := hv
        exact ⟨_, w, app_none w o.type g cap c1 hi, hown, ⟨rfl, rfl, rfl, Nat.le_refl _, fun _ _ _ => rfl⟩⟩
    obtain ⟨v', w', hr, h2, h3⟩ := H2
    unfold Oper.wp execOp
    simp only [ho, resolve, invoke, builtin, Sem.run_bind, Sem.run_pure, Result.andThen_ok, List.map_toArray, List.map_cons, List.map_nil, hs, hx, hr]
    exact hK _ _ (h v' w' h2 h3)
  · refine wpList_append_own_at _ hgd s x 22 ho base 30 i0 (.int .u64 0) 1 8 Try.underlying22 hi hz0 hz1 hz2 rfl (by decide) v 0 [] hs hown ⟨b, off, none⟩ zs.length c1 (zs.map (Value.int .u64)) hx (by simp) ?_ ?_ (by unfold maxLen; omega) (by omega) hbase ?_
    · intro j u hu
      have hj : j < zs.length := by
        rcases Nat.lt_or_ge j zs.length with h | h
        · exact h
        · rw [List.getElem?_eq_none (by simpa using h)] at hu; cases hu
      have e1 : (⟨b, off, none⟩ : Addr).add j = ⟨b, off + j, none⟩ := by unfold Addr.add; split <;> simp_all
      have hu' : u = .int .u64 (zs.getD j 0) := by
        simp [hj] at hu
        simp [List.getD_eq_getElem?_getD, hj, hu]
      rw [e1, hc j hj, hu']
    · intro u hu
      simp at hu
      obtain ⟨x, _, rfl⟩ := hu
      rfl
    · intro v' w' h2 h3 _ _
      exact h v' w' (by simpa using h2) h3
set_option maxRecDepth 100000 in
set_option maxHeartbeats 1000000 in
theorem clone_any (vin : Value) (zs : List Int) (w : World) (hin : Lst .u64 w vin zs) (hm : zs.length ≤ 1000000) :
    Calls Try.prog 29 #[vin] w (ClonePost zs w) := by
  rcases hin with ⟨rfl, a1, c1, rfl⟩ | ⟨b, off, c1, rfl, hp, hmx, hc⟩
  · have hL : Lst .u64 w (.slice a1 0 c1) [] := .inl ⟨rfl, a1, c1, rfl⟩
    have hn := fun W => Lib.run_eql_slice_nil (P := Try.prog) W 22 30 a1 0 c1 0 0 Try.underlying22
    cases a1 with
    | none =>
      go_enter Try.func29, Try.ntmps29
      go_wp2
      go_ret
      exact ⟨_, rfl, World.ownsRow_nil _ _ _ _, Below.refl _ _⟩
    | some ad =>
      go_enter Try.func29, Try.ntmps29
      go_wp2_with (at_builtin; refine wp_app rfl _ _ rfl w.heap.size (.slice (some ad) 0 c1) [] (.inl ⟨rfl, _, _, rfl⟩) (by decide) _ rfl (World.ownsRow_made w #[] 0 (Nat.le_refl _) (by decide) rfl) rfl (by simp) ?_)
      intro v' w2 hown2 hgrow
      have hb : Below w.heap.size w w2 := ((Below.refl _ _).alloc (Nat.le_refl _) _).grown hgrow (by simp) (fun k hk => by have : w.heap.size = k := Option.some.inj hk; omega)
      clear hn
      go_wp2
      go_ret
      exact ⟨v', rfl, hown2, hb⟩
  · exact clone_row b off c1 zs w hp hm (Lib.hid hc)
end Go.Proofs.Ytngmflbnkpiojaa
