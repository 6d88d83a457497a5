/- Rows that may be written: what mask.With, Without and Union return, told so; append of any slice. Condition: the lists are short. -/
import Derived.Test.YtalhlbedgkhijaaDoorMadds
namespace Go.Proofs.YtalhlbedgkhijaaDoor
open Go.RowKit
set_option linter.unusedVariables false

theorem app_noneM (w : World) (ty : TypeId) (g : Option Addr) (cap c : Nat) {i0 : TypeInfo} (hi : Tryd.prog.info? 33 = some i0) :
    (Builtin.append_ #[22, 22] ty #[.slice g 0 cap, .slice none 0 c]).run Tryd.prog w = .ok (.slice g 0 cap) w := by
  have ht := run_underlying (P := Tryd.prog) (w := w) Tryd.underlying22
  cases g <;> simp [Builtin.append_, ht, sizeOf, typeInfo, hi, Builtin.lenOf, Builtin.firstCells, loadCells, loadCellsFrom, storeCells]
theorem wp_appM {ops : Array Oper} {rest : List Oper} {o : Oper} {a : Act} {Q : Exit → Act → World → Prop} {w : World} (hgd : o.guard = none) (s x : Operand)
    (ho : o.op = .call { callee := .builtin .append, args := #[s, x], argTypes := #[22, 22] }) (base : Nat) (vin : Value) (zs : List Int) (hin : Lst .u64 w vin zs) (hm : zs.length ≤ 1000000)
    (v : Value) (hs : a.eval s = v) (hown : w.ownsRow base 33 1 v 0 []) (hx : a.eval x = vin) (hbase : base ≤ w.heap.size)
    (h : ∀ v' w', w'.ownsRow base 33 1 v' zs.length (zs.map (Value.int .u64)) → w.grownBy w' v.ownBlock → wpList Tryd.prog ops Q rest (a.put o.dst v') w') :
    wpList Tryd.prog ops Q (o :: rest) a w := by
  obtain ⟨i0, hi, hz0, hz1, hz2⟩ := info_parts info_u64
  rcases hin with ⟨rfl, a1, c1, rfl⟩ | ⟨b, off, c1, rfl, hp, hmx, hc⟩
  · refine wpList_plain hgd fun K hK => ?_
    have H := fun ad => run_append_own_at (P := Tryd.prog) w base 22 o.type 33 i0 (.int .u64 0) 1 8 Tryd.underlying22 hi hz0 hz1 hz2 rfl (by decide) v 0 [] hown ad 0 c1 [] rfl (fun j u hu => by simp at hu) (fun u hu => by simp at hu) (by unfold maxLen; omega) (by omega) hbase
    have H2 : ∃ v' w', (Builtin.append_ #[22, 22] o.type #[v, .slice a1 0 c1]).run Tryd.prog w = .ok v' w' ∧ w'.ownsRow base 33 1 v' 0 [] ∧ w.grownBy w' v.ownBlock := by
      cases a1 with
      | some ad =>
        obtain ⟨v', w', hr, h2, h3, h4, h5⟩ := H ad
        exact ⟨v', w', hr, by simpa using h2, h3⟩
      | none =>
        have hv : ∃ g cap, v = .slice g 0 cap := by
          rcases hown.2 with ⟨h1, h2⟩ | ⟨g, cap, cur, h1, _⟩
          · exact ⟨_, _, h1⟩
          · exact ⟨_, _, h1⟩
        obtain ⟨g, cap, rfl⟩ := hv
        exact ⟨_, w, app_noneM w o.type g cap c1 hi, hown, ⟨rfl, rfl, rfl, Nat.le_refl _, fun _ _ _ => rfl⟩⟩
    obtain ⟨v', w', hr, h2, h3⟩ := H2
    unfold Oper.wp execOp
    simp only [ho, resolve, invoke, builtin, Sem.run_bind, Sem.run_pure, Result.andThen_ok, List.map_toArray, List.map_cons, List.map_nil, hs, hx, hr]
    exact hK _ _ (h v' w' h2 h3)
  · refine wpList_append_own_at _ hgd s x 22 ho base 33 i0 (.int .u64 0) 1 8 Tryd.underlying22 hi hz0 hz1 hz2 rfl (by decide) v 0 [] hs hown ⟨b, off, none⟩ zs.length c1 (zs.map (Value.int .u64)) hx (by simp) ?_ ?_ (by unfold maxLen; omega) (by omega) hbase ?_
    · intro j u hu
      have hj : j < zs.length := by
        rcases Nat.lt_or_ge j zs.length with h | h
        · exact h
        · rw [List.getElem?_eq_none (by simpa using h)] at hu; cases hu
      have e1 : (⟨b, off, none⟩ : Addr).add j = ⟨b, off + j, none⟩ := by unfold Addr.add; split <;> simp_all
      have hu' : u = .int .u64 (zs.getD j 0) := by
        simp [hj] at hu
        simp [List.getD_eq_getElem?_getD, hj, hu]
      rw [e1, hc j hj, hu']
    · intro u hu
      simp at hu
      obtain ⟨x, _, rfl⟩ := hu
      rfl
    · intro v' w' h2 h3 _ _
      exact h v' w' (by simpa using h2) h3
/-- words of a block that may be written, laid behind w0 -/
def WrB (w0 W : World) (v : Value) : Prop := ∃ a n cap, v = .slice a n cap ∧ n ≤ 4096 ∧ ∃ g, (0 < n → a = some ⟨g, 0, none⟩ ∧ w0.heap.size ≤ g) ∧ (0 < n → ∃ cs : Array Value, Blk W g cs 33 ∧ n ≤ cs.size)
def WrPost (w0 : World) (e : Ending) (w' : World) : Prop := ∃ v, e = .returned (.tuple #[v, .int .i64 0]) ∧ WrB w0 w' v ∧ Below w0.heap.size w0 w'
theorem own_wr {w0 w : World} {base n : Nat} {v : Value} {L : List Int} (h : w.ownsRow base 33 1 v n (L.map (Value.int .u64))) (hb : w0.heap.size ≤ base) (hn : n ≤ 4096) : WrB w0 w v := by
  rcases h.2 with ⟨h1, h2⟩ | ⟨g, cap, cur, h1, h2, h3, h4, _, h6, _⟩
  · exact ⟨none, 0, 0, h1, by omega, 0, fun h => by omega, fun h => by omega⟩
  · exact ⟨some ⟨g, 0, none⟩, n, cap, h1, hn, g, fun _ => ⟨rfl, Nat.le_trans hb h2⟩, fun _ => ⟨cur, h3, by omega⟩⟩
theorem blk_wr {w0 w : World} {g : Nat} {L : List Int} (h : Blk w g (L.map (Value.int .u64)).toArray 33) (hb : w0.heap.size ≤ g) (hn : L.length ≤ 4096) : WrB w0 w (.slice (some ⟨g, 0, none⟩) L.length L.length) :=
  ⟨_, _, _, rfl, hn, g, fun _ => ⟨rfl, hb⟩, fun _ => ⟨_, h, by simp⟩⟩
theorem wr_store {W : World} {g n : Nat} (h : 0 < n → ∃ cs : Array Value, Blk W g cs 33 ∧ n ≤ cs.size) (g' i : Nat) (v : Value) : 0 < n → ∃ cs : Array Value, Blk (W.setCell ⟨g', i, none⟩ v) g cs 33 ∧ n ≤ cs.size := fun hn => by
  obtain ⟨cs, h1, h2⟩ := h hn
  by_cases e : g = g'
  · subst e; exact ⟨_, h1.set i v, by rw [Array.size_setIfInBounds]; exact h2⟩
  · exact ⟨cs, h1.other _ _ e, h2⟩
theorem wr_below {w w' : World} {g n : Nat} (h : 0 < n → ∃ cs : Array Value, Blk w g cs 33 ∧ n ≤ cs.size) (hb : Below w.heap.size w w') : 0 < n → ∃ cs : Array Value, Blk w' g cs 33 ∧ n ≤ cs.size := fun hn => by
  obtain ⟨cs, h1, h2⟩ := h hn
  exact ⟨cs, h1.grew hb, h2⟩
theorem with_wr (v : Value) (l : List Int) (at' : Nat) (w : World) (h : Lst .u64 w v l) (ha : at' < 65536) (hl : l.length ≤ 1024) :
    Calls Tryd.prog 24 #[v, .int .i64 at'] w (WrPost w) :=
  (with_any v l at' w h ha hl).mono fun _ _ ⟨g, he, hB, hg, hb⟩ => ⟨_, he, blk_wr hB hg (by rw [withL_len]; split <;> omega), hb⟩
theorem union_wr (va vb : Value) (a b : List Int) (w : World) (ha : Lst .u64 w va a) (hb : Lst .u64 w vb b) (h1 : a.length ≤ 4096) (h2 : b.length ≤ 4096) :
    Calls Tryd.prog 18 #[va, vb] w fun e w' => ∃ v, e = .returned v ∧ WrB w w' v ∧ Below w.heap.size w w' :=
  (union_anyL va vb a b w ha hb h1 h2).mono fun _ _ ⟨g, he, hB, hg, hb⟩ => ⟨_, he, blk_wr hB hg (by have := fillU_len a b (max a.length b.length) (max a.length b.length); omega), hb⟩
set_option maxRecDepth 100000 in
set_option maxHeartbeats 1000000 in
theorem without_wr (v : Value) (l : List Int) (at' : Nat) (w : World) (h : Lst .u64 w v l) (ha : at' < 65536) (hl : l.length ≤ 1024) :
    Calls Tryd.prog 25 #[v, .int .i64 at'] w (WrPost w) := by
  have C := Lib.hid (fun W (hq : Quiet w W) => clone_any v l W (h.quiet hq) (by omega))
  have F := Lib.hid (fun W => fits_yes at' W ha)
  have B := Lib.hid (fun W => mbit_any at' W (by omega))
  have HW : Hid (withoutL l at' = l.set (at' / 64) (bits .andNot .u64 (l.getD (at' / 64) 0) (mbitI at'))) := rfl
  have h0 : (0 : Int) ≤ (at' : Int) := by omega
  have h1 : (at' : Int) < 100000 := by omega
  generalize mbitI at' = y at *
  have hqq : 64 * (at' / 64) ≤ at' ∧ at' < 64 * (at' / 64) + 64 := by omega
  generalize hq : at' / 64 = q at *
  have hqi : (at' : Int) / 64 = (q : Int) := by omega
  have hq1 : (q : Int) < 2000 := by omega
  have hq0 : (0 : Int) ≤ (q : Int) := by omega
  clear h ha hq
  go_enter Tryd.func25, Tryd.ntmps25
  go_wp2_with fail
  refine (F.out _).mono ?_
  rintro e w1 ⟨rfl, hQ1⟩
  go_wp2_with fail
  refine (C.out _ hQ1).mono ?_
  rintro e w2 ⟨v2, rfl, hown, hb2⟩
  have hsz := hQ1.below (B := w.heap.size)
  have hB := hsz.trans (hb2.mono hsz.size)
  by_cases hlt : q < l.length
  · obtain ⟨g, cap, rfl, hgl, _⟩ := own_form hown (by omega)
    have hc := own_word hown q hlt
    have hf := own_frozen hown q
    generalize l.getD q 0 = z at *
    have hp1 : (q : Int) < (l.length : Int) := by omega
    have hlim : (at' : Int) < 64 * (l.length : Int) := by omega
    have hlm : (l.length : Int) ≤ 1024 := by omega
    have hr : IntKind.i64.wrap (q : Int) = (q : Int) := IntWalk.i64_in _ (by omega)
    clear hqq
    go_wp2_with fail
    refine (end_any _ _ _ _ (by omega)).mono ?_
    rintro e w3 ⟨rfl, n3, rfl⟩
    go_wp2_with fail
    go_region_with (go_at_call 43; refine (B.out _).mono ?_; rintro e w4 ⟨rfl, n4, rfl⟩)
    all_goals
      go_wp2
      go_ret2
      have hgw : w.heap.size ≤ g := Nat.le_trans hsz.size hgl
      refine ⟨_, rfl, own_wr (base := w1.heap.size) (L := l.set q (bits .andNot .u64 z y)) (n := l.length) ?_ hsz.size (by omega), ?_⟩
      · first | exact own_set (Quiet.ownsRow' hown ⟨_, rfl⟩) q hlt _ | exact Quiet.ownsRow' (own_set (Quiet.ownsRow' hown ⟨_, rfl⟩) q hlt _) ⟨1, rfl⟩ | exact Quiet.ownsRow' (own_set hown q hlt _) ⟨_, rfl⟩
      · repeat (first | exact hB | refine Below.setCell ?_ hgw _ | refine Below.drew ?_ | refine below_drewN ?_ _)
  · have hset : l.set q (bits .andNot .u64 (l.getD q 0) y) = l := List.set_eq_of_length_le (by omega)
    have HS := Lib.hid hset
    have hlim : 64 * (l.length : Int) ≤ (at' : Int) := by omega
    have hlm : (l.length : Int) ≤ 1024 := by omega
    obtain ⟨a2, cap2, rfl⟩ := own_slice hown
    have HLM := Lib.hid hlm
    have EN := fun W => end_any a2 l.length cap2 W (by omega)
    generalize 64 * (l.length : Int) = E at *
    have EN := Lib.hid EN
    have hlim2 : E ≤ (at' : Int) := hlim
    clear hset hqq hlt hqi hq1 hq0 h1 hlm hlim
    go_wp2_with fail
    refine (EN.out _).mono ?_
    rintro e w3 ⟨rfl, hQ3⟩
    go_wp2
    go_ret2
    exact ⟨_, rfl, own_wr (L := l) (Quiet.ownsRow' hown hQ3) hsz.size (by have := HLM.out; omega), hB.trans hQ3.below⟩
end Go.Proofs.YtalhlbedgkhijaaDoor
