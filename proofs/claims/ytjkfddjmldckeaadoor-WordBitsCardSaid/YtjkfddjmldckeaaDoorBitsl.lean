/- The law WordBits: the walk. No condition but that the table of math/bits lies as the start lays it. -/
import Derived.Test.YtjkfddjmldckeaaDoorSelect
import Derived.Test.YtjkfddjmldckeaaDoorInts
import Derived.RangeFuncBox
import Derived.RangeFuncWrites
import Derived.Deep.RegionHeld3
namespace Go.Proofs.YtjkfddjmldckeaaDoor
open Go.RowKit Go.Shelf
set_option linter.unusedVariables false
attribute [local go_sem] Oper.semAt_some

theorem ownsRow_low {W : World} {base base' : Nat} {e : TypeId} {size : Nat} {v : Value} {k : Nat} {xs : List Value} (h : W.ownsRow base e size v k xs) (hb : base' ≤ base) : W.ownsRow base' e size v k xs := by
  refine ⟨h.1, ?_⟩
  rcases h.2 with h1 | ⟨g, cap, cur, h1, h2, h3⟩
  · exact .inl h1
  · exact .inr ⟨g, cap, cur, h1, Nat.le_trans hb h2, h3⟩
/-- an element more, the slice in its box -/
theorem appended_touch {W w1 : World} {base B : Nat} {t e : TypeId} {v v' : Value} {k m : Nat} {xs ys : List Value} {tmp : Obj} (hv : Boxed W B t v) (hte : t ≠ e) (hrow : W.ownsRow base e 1 v k xs) (hown' : w1.ownsRow base e 1 v' m ys) (hgrow : (W.alloc tmp).grownBy w1 v.ownBlock) :
    Boxed w1 B t v ∧ Boxed (w1.setCell ⟨B, 0, none⟩ v') B t v' ∧ (w1.setCell ⟨B, 0, none⟩ v').ownsRow base e 1 v' m ys ∧ KeepsOthers W (w1.setCell ⟨B, 0, none⟩ v') ∧
    (∀ W0, Touch (· = B) W0 W → W0.heap.size ≤ base → Touch (· = B) W0 (w1.setCell ⟨B, 0, none⟩ v')) ∧
    (∀ n, n ≤ base → n ≤ W.heap.size → n ≤ B → Below n W (w1.setCell ⟨B, 0, none⟩ v')) := by
  obtain ⟨h1, h2, h3, h4, h5⟩ := hv.appended hte (ownsRow_low hrow (Nat.zero_le _)) (Nat.zero_le _) (Nat.zero_le _) (ownsRow_low hown' (Nat.zero_le _)) hgrow
  refine ⟨h1, h2, hown'.kept (grownBy_setCell' w1 B v') (.inr (h1.not_row hte hown').symm), h4, fun W0 ht hb => ?_, fun n h1 h2 h3 => (hv.appended hte (ownsRow_low hrow h1) h2 h3 (ownsRow_low hown' h1) hgrow).2.2.2.2⟩
  have ht2 := (ht.alloc tmp).grown hgrow (fun k hk => .inr (Nat.le_trans hb (hrow.lt k hk).1))
  exact ht2.setCell rfl _
theorem ownsRow_form {W : World} {base : Nat} {e : TypeId} {v : Value} {k : Nat} {xs : List Value} (h : W.ownsRow base e 1 v k xs) : ∃ a c, v = .slice a k c := by
  rcases h.2 with ⟨h1, h2⟩ | ⟨g, cap, cur, h1, _⟩
  · exact ⟨none, 0, by rw [h1, h2]⟩
  · exact ⟨_, cap, h1⟩
theorem Touch.at_below {B n : Nat} {w w' : World} (h : Touch (· = B) w w') (hn : n ≤ w.heap.size) (hB : n ≤ B) : Below n w w' := h.below hn (fun k hk => by omega)
theorem Boxed.touched {B b : Nat} {w w' : World} {t : TypeId} {v : Value} (h : Boxed w b t v) (ht : Touch (· = B) w w') (hne : b ≠ B) : Boxed w' b t v := (ht.block b h.lt hne).trans h
/-- a row of numbers isn't the box of a value that is no number -/
theorem Lst.touched {k : IntKind} {w w' : World} {v u : Value} {zs : List Int} {B : Nat} {t : TypeId} (h : Lst k w v zs) (hb : Boxed w B t u) (ht : Touch (· = B) w w') (hu : ∀ i, u ≠ .int k i := by intro i e; cases e) : Lst k w' v zs := by
  rcases h with h | ⟨b, off, cap, h1, h2, h3, h4⟩
  · exact .inl h
  · refine .inr ⟨b, off, cap, h1, h2, h3, fun i hi => ?_⟩
    have hc := h4 i hi
    have hlt := World.block_lt_of_cell? w _ hc
    have hne : b ≠ B := by
      intro e
      subst e
      rw [Blk.cell (cs := #[u]) (t := t) hb] at hc
      rcases Nat.eq_zero_or_pos (off + i) with h0 | h0
      · rw [h0] at hc
        simp at hc
        exact hu _ hc
      · rw [Array.getElem?_eq_none (by simp; omega)] at hc
        cases hc
    have he := ht.block b hlt hne
    unfold World.cell? at hc ⊢
    rw [he]
    exact hc
theorem own_sub {w : World} {base : Nat} {e : TypeId} {v : Value} {n : Nat} {zs q : List Int} (h : w.ownsRow base e 1 v n (zs.map (Value.int .i64))) (hn : zs.length = n) (hq : q <+: zs) : ∃ a c, v = .slice a n c ∧ n ≤ c ∧ Lst .i64 w (.slice a q.length c) q := by
  have hle := hq.length_le
  rcases h.2 with ⟨h1, h2⟩ | ⟨g, cap, cur, h1, h2, h3, h4, h5, h6⟩
  · have hq0 : q = [] := List.eq_nil_of_length_eq_zero (by omega)
    exact ⟨none, 0, by rw [h1, h2], by omega, .inl ⟨hq0, none, 0, by rw [hq0]; rfl⟩⟩
  · refine ⟨_, cap, h1, by omega, ?_⟩
    rcases Nat.eq_zero_or_pos q.length with h0 | h0
    · exact .inl ⟨List.eq_nil_of_length_eq_zero h0, _, cap, by rw [h0]⟩
    · refine .inr ⟨g, 0, cap, rfl, h0, by omega, fun i hi => ?_⟩
      subst h1
      have hc := h.cellAt i (by omega)
      obtain ⟨r, rfl⟩ := hq
      rw [Nat.zero_add, hc]
      simp [List.getD_eq_getElem?_getD, List.getElem?_append_left, hi]
theorem cell_set_ne {W : World} {B : Nat} {v : Value} {p : Addr} (h : p.block ≠ B) : (W.setCell ⟨B, 0, none⟩ v).cell? p = W.cell? p := by
  unfold World.cell?
  rw [Below.heap_setCell _ _ _ _ h]
section
variable {B : Nat} {w3 W W' : World} {p r : Addr} {x y : Value} {t : TypeId}
theorem bkeep (h : (W.cell? p = some x ∧ W.cell? r = some y) ∧ Touch (· = B) w3 W ∧ ∃ u, Boxed W B t (.bool u)) (hq : Quiet W W') : (W'.cell? p = some x ∧ W'.cell? r = some y) ∧ Touch (· = B) w3 W' ∧ ∃ u, Boxed W' B t (.bool u) :=
  ⟨⟨(hq.cell _).trans h.1.1, (hq.cell _).trans h.1.2⟩, h.2.1.trans (.of hq.below), h.2.2.elim fun u hu => ⟨u, Blk.quiet hu hq⟩⟩
theorem bset (h : (W.cell? p = some x ∧ W.cell? r = some y) ∧ Touch (· = B) w3 W ∧ ∃ u, Boxed W B t (.bool u)) {u : Bool} (hp : p.block ≠ B) (hr : r.block ≠ B) : ((W.setCell ⟨B, 0, none⟩ (.bool u)).cell? p = some x ∧ (W.setCell ⟨B, 0, none⟩ (.bool u)).cell? r = some y) ∧ Touch (· = B) w3 (W.setCell ⟨B, 0, none⟩ (.bool u)) ∧ ∃ u', Boxed (W.setCell ⟨B, 0, none⟩ (.bool u)) B t (.bool u') :=
  ⟨⟨(cell_set_ne hp).trans h.1.1, (cell_set_ne hr).trans h.1.2⟩, h.2.1.setCell rfl _, h.2.2.elim fun _ hu => ⟨u, hu.set _⟩⟩
theorem blst {v : Value} {zs : List Int} {b0 : Bool} (h : (W.cell? p = some x ∧ W.cell? r = some y) ∧ Touch (· = B) w3 W ∧ ∃ u, Boxed W B t (.bool u)) (hl : Lst .i64 w3 v zs) (hb : Boxed w3 B t (.bool b0)) : Lst .i64 W v zs := hl.touched hb h.2.1
end
theorem ownFrom_touch {β : Type} {R : Nat → Prop} {B : Nat} {W0 : World} (hB : W0.heap.size ≤ B) : OwnFrom B (fun (_ : β) W => Touch R W0 W) :=
  fun s W W' row h hg hr => h.grown hg (fun k hk => .inr (Nat.le_trans hB (hr k hk).1))

set_option maxRecDepth 100000 in
set_option maxHeartbeats 4000000 in
theorem bits_law (x s : Int) (w : World) (w0 : (Lit.int .u64 x).wf = true) (w1 : (Lit.int .i64 s).wf = true) (hT : Tab w) :
    Calls Tryd.prog 6 #[.int .u64 x, .int .i64 s] w fun e w' => e = .returned (.bool true) ∧ Below w.heap.size w w' := by
  have hx := wf_U64 w0
  obtain ⟨i0, hi, hz0, hz1, hz2⟩ := info_parts info_int
  have hlen64 := plcs_len_le x.toNat 64
  refine (callsIn_wide (n := 9)).1 ?_
  refine callsIn_of_wp_marks Tryd.func6 rfl trivial ?_ rfl
  simp only [Tryd.ntmps6, List.size_toArray, List.length_cons, List.length_nil, Nat.reduceAdd, Nat.reduceSub, Array.replicate_succ, Array.replicate_zero, List.push_toArray, List.append_toArray, List.nil_append, List.cons_append]
  gi_wp2_with fail
  refine ⟨trivial, ?_⟩
  refine (callsIn_wide.2 (worded_any _)).mono ?_
  rintro e wa ⟨rfl, hqa⟩
  have a0 : Boxed wa w.heap.size 3 (.int .i64 s) := ((Blk.new w #[.int .i64 s] 3).alloc (.cells #[.bool false] 4)).quiet hqa
  have a1 : Boxed wa (w.heap.size + 1) 4 (.bool false) := (Blk.new' (w := w.alloc (.cells #[.int .i64 s] 3)) (cs := #[.bool false]) (t := 4) (by simp)).quiet hqa
  have hba : Below w.heap.size w wa := (((Below.refl _ w).alloc (Nat.le_refl _) _).alloc (by simp) _).trans hqa.below
  have hsa : wa.heap.size = w.heap.size + 2 := by obtain ⟨n, rfl⟩ := hqa; simp [World.drewN]
  clear hqa
  gi_wp2_with fail
  refine ⟨trivial, ?_⟩
  refine (callsIn_wide.2 (bits_any _ _)).mono ?_
  rintro e w' ⟨rfl, rfl⟩
  have b2 : Boxed (((wa.alloc (.cells #[.slice none 0 0] 30)).alloc (.cells #[.slice none 0 0] 30)).alloc (.cells #[.int .u64 x] 22)) wa.heap.size 30 (.slice none 0 0) := ((Blk.new wa _ _).alloc _).alloc _
  have b3 : Boxed (((wa.alloc (.cells #[.slice none 0 0] 30)).alloc (.cells #[.slice none 0 0] 30)).alloc (.cells #[.int .u64 x] 22)) (wa.heap.size + 1) 30 (.slice none 0 0) := (Blk.new' (by simp)).alloc _
  have b4 : Boxed (((wa.alloc (.cells #[.slice none 0 0] 30)).alloc (.cells #[.slice none 0 0] 30)).alloc (.cells #[.int .u64 x] 22)) (wa.heap.size + 1 + 1) 22 (.int .u64 x) := Blk.new' (by simp)
  have b0 : Boxed (((wa.alloc (.cells #[.slice none 0 0] 30)).alloc (.cells #[.slice none 0 0] 30)).alloc (.cells #[.int .u64 x] 22)) w.heap.size 3 (.int .i64 s) := ((a0.alloc _).alloc _).alloc _
  have b1 : Boxed (((wa.alloc (.cells #[.slice none 0 0] 30)).alloc (.cells #[.slice none 0 0] 30)).alloc (.cells #[.int .u64 x] 22)) (w.heap.size + 1) 4 (.bool false) := ((a1.alloc _).alloc _).alloc _
  have hB0 : Below w.heap.size w (((wa.alloc (.cells #[.slice none 0 0] 30)).alloc (.cells #[.slice none 0 0] 30)).alloc (.cells #[.int .u64 x] 22)) := ((hba.alloc (by omega) _).alloc (by simp; omega) _).alloc (by simp; omega) _
  have hsz : (((wa.alloc (.cells #[.slice none 0 0] 30)).alloc (.cells #[.slice none 0 0] 30)).alloc (.cells #[.int .u64 x] 22)).heap.size = w.heap.size + 5 := by simp; omega
  generalize hW0 : ((wa.alloc (.cells #[.slice none 0 0] 30)).alloc (.cells #[.slice none 0 0] 30)).alloc (.cells #[.int .u64 x] 22) = W0 at *
  clear hW0
  rw [hsa] at b2 b3 b4
  have hT0 := hT.grew hB0
  gi_wp2_with fail
  rename_i K hK
  have KF : ∀ (D : Nat) (q : List (Fin 64)) (v : Value) (W : World), W0.heap.size ≤ D → W.heap[D]? = some (.deferred (some [])) → Hid (fins q <+: plcs x.toNat 64) → Boxed W (w.heap.size + 2 + 1) 30 v → W.ownsRow (w.heap.size + 5) 3 1 v q.length ((fins q).map (Value.int .i64)) → Touch (· = w.heap.size + 2 + 1) W0 W →
      K { tmps := #[.int .u64 x, .int .i64 s, undef, .pointer (some ⟨w.heap.size, 0, none⟩), .pointer (some ⟨w.heap.size + 1, 0, none⟩), .pointer (some ⟨w.heap.size + 2, 0, none⟩), .pointer (some ⟨w.heap.size + 2 + 1, 0, none⟩), .func (.func 30) #[] #[.pointer (some ⟨w.heap.size + 2 + 1 + 1, 0, none⟩)], undef, undef, undef, .bool true, .bool false, .int .u64 x, .func (.func 30) #[] #[.pointer (some ⟨w.heap.size + 2 + 1 + 1, 0, none⟩)], .func (.func 30) #[] #[.pointer (some ⟨w.heap.size + 2 + 1 + 1, 0, none⟩)], undef, undef, undef, undef, undef, undef, undef, undef, undef, undef, undef, undef, undef, undef, undef, undef, undef, undef, undef, undef, undef, undef, undef, undef, undef, undef, undef, undef, undef, undef, undef, undef, undef, undef, undef, undef, undef, undef, undef, undef, undef, undef, undef, undef, undef, undef, undef, undef, undef, undef, undef], defers := [{ target := .collected D, args := #[] }] } W := by
    intro D q v W1 hD hDK hq hv hrow ht
    have hs1 := ht.size
    have hDlt : D < W1.heap.size := (Array.getElem?_eq_some_iff.1 hDK).1
    have d1 := Boxed.touched b1 ht (by omega)
    have d2 := Boxed.touched b2 ht (by omega)
    have d4 := Boxed.touched b4 ht (by omega)
    have hB1 : Below w.heap.size w W1 := hB0.trans (ht.at_below (by omega) (by omega))
    have hT1 := hT.grew hB1
    apply hK
    clear hK
    gi_wp2_with fail
    refine wpIn_rangeFunc_ownF rfl (by omega) (gf := 30) (lb := #[.pointer (some ⟨w.heap.size + 2 + 1 + 1, 0, none⟩)]) rfl trivial (enters_of Tryd.func30 (by kernel_rfl) rfl)
      (bits_stops 8 (by omega) (w.heap.size + 2 + 1 + 1) w.heap.size x W1 hx (by omega) hT.lt hT1 (by omega) d4.cell) belowK_t (belowK_b (by omega)) (Below.refl _ _) (fun _ => rfl)
      (fun pre W => (∃ v, Boxed W (w.heap.size + 2) 30 v ∧ W.ownsRow W1.heap.size 3 1 v pre.length ((fins pre).map (Value.int .i64)) ∧ True) ∧ Touch (· = w.heap.size + 2) W1 W)
      (fun _ _ _ => False)
      (OwnFrom.and (Own.from (holdsRow_own W1.heap.size (w.heap.size + 2) 30 3 1 (fun pre : List (Fin 64) => pre.length) (fun pre : List (Fin 64) => (fins pre).map (Value.int .i64)) (fun _ _ => True)) _) (ownFrom_touch (Nat.le_refl _)))
      (fun _ _ _ _ _ hs _ _ => hs)
      ⟨⟨_, d2, World.ownsRow_nil _ _ _ _, trivial⟩, Touch.refl _ _⟩
      (fun i => { tmps := #[.int .u64 x, .int .i64 s, undef, .pointer (some ⟨w.heap.size, 0, none⟩), .pointer (some ⟨w.heap.size + 1, 0, none⟩), .pointer (some ⟨w.heap.size + 2, 0, none⟩), .pointer (some ⟨w.heap.size + 2 + 1, 0, none⟩), .func (.func 30) #[] #[.pointer (some ⟨w.heap.size + 2 + 1 + 1, 0, none⟩)], undef, .int .i64 ((i.val : Nat) : Int), undef, .bool true, .bool false, .int .u64 x, .func (.func 30) #[] #[.pointer (some ⟨w.heap.size + 2 + 1 + 1, 0, none⟩)], .func (.func 30) #[] #[.pointer (some ⟨w.heap.size + 2 + 1 + 1, 0, none⟩)], undef, undef, undef, undef, undef, undef, undef, undef, undef, undef, undef, undef, undef, undef, undef, undef, undef, undef, undef, .func (.func 30) #[] #[.pointer (some ⟨w.heap.size + 2 + 1 + 1, 0, none⟩)], .int .i64 ((i.val : Nat) : Int), undef, undef, undef, undef, undef, undef, undef, undef, undef, undef, undef, undef, undef, undef, undef, undef, undef, undef, undef, undef, undef, undef, undef, undef, undef, undef, undef, undef, undef, undef], defers := [] }) ?assign ?body ?done ?stop
    case assign =>
      intro l i W K hK
      gi_wp2
      exact hK
    case body =>
      rintro l pre i W ⟨⟨v, hv, hrow, _⟩, ht⟩ hlt
      have hsW := ht.size
      have hl64 : ((pre.length : Nat) : Int) ≤ 63 := by omega
      obtain ⟨a1, k1, hveq⟩ := ownsRow_form hrow
      subst hveq
      have hc := hv.cell
      generalize hy : ((i.val : Nat) : Int) = y at *
      have HY := Lib.hid hy
      clear hy
      have HF : Hid (fins (pre ++ [i]) = fins pre ++ [y]) := by unfold Hid; rw [fins_snoc, HY.out]
      have HL : Hid ((pre ++ [i]).length = pre.length + 1) := by unfold Hid; simp
      generalize hp : pre.length = p at *
      have h64 : ¬ 65 ≤ (p : Int) := by omega
      gi_wp2_with (gi_at_builtin; refine wpListIn_append_own _ rfl _ _ 30 rfl W1.heap.size 3 i0 (.int .i64 0) 1 8 Tryd.underlying30 hi hz0 hz1 hz2 rfl (by decide) _ _ _ rfl (hrow.alloc _) ⟨W.heap.size, 0, none⟩ 1 1 [.int .i64 y] rfl rfl (cell_one_new _ _ _) (by simp [Value.oneCell']) (by unfold maxLen; omega) (by omega) (by simp; omega) ?_; intro v' w1 hown' hgrow _; obtain ⟨g', cap', rfl⟩ := ownsRow_succ hown'; obtain ⟨hv1, hv2, hr2, hk2, ht2, hbl⟩ := appended_touch hv (by decide) hrow hown' hgrow; have hc1 := hv1.cell; have hf1 := hv1.frozen)
      exact ⟨hk2, hbl w.heap.size (by omega) (by omega) (by omega), ⟨_, hv2, by rw [HL.out, HF.out, List.map_append]; exact hr2⟩, ht2 W1 ht (Nat.le_refl _)⟩
    case stop =>
      rintro D c pre W _ _ h _
      exact h.elim
    case done =>
      rintro D2 ys W2 hD2 hys ⟨⟨v2, hv2, hrow2, _⟩, ht2⟩ hDK2
      have hs2 := ht2.size
      have e1 := Boxed.touched d1 ht2 (by omega)
      have e3 := Boxed.touched hv ht2 (by omega)
      have hDK1 : W2.heap[D]? = some (.deferred (some [])) := (ht2.block D hDlt (by omega)).trans hDK
      have hB2 : Below w.heap.size w W2 := hB1.trans (ht2.at_below (by omega) (by omega))
      have hl2 : Lst .i64 W2 v2 (plcs x.toNat 64) := by
        have := lst_of_own hrow2
        rw [hys] at this
        exact this
      have hl1 : Lst .i64 W2 v (fins q) := by
        refine Lst.touched (lst_of_own hrow) d2 ht2
      have hql : q.length ≤ (plcs x.toNat 64).length := by have := hq.out.length_le; simpa [fins] using this
      have hfl : (fins q).length = q.length := by simp [fins]
      gi_wp2_with fail
      refine ⟨trivial, ?_⟩
      refine (callsIn_wide.2 (places_any x _ hx)).mono ?_
      rintro e W3 ⟨pv, rfl, hown3, hb3⟩
      have hl3 := lst_of_own hown3
      have hs3 := hb3.size
      have g1 : Boxed W3 (w.heap.size + 1) 4 (.bool false) := Blk.grew e1 hb3
      have g2 : Boxed W3 (w.heap.size + 2) 30 v2 := Blk.grew hv2 hb3
      have g3 : Boxed W3 (w.heap.size + 2 + 1) 30 v := Blk.grew e3 hb3
      have hD2lt : D2 < W2.heap.size := (Array.getElem?_eq_some_iff.1 hDK2).1
      have k2 : W3.heap[D2]? = some (.deferred (some [])) := (hb3.block D2 hD2lt).trans hDK2
      have k1 : W3.heap[D]? = some (.deferred (some [])) := (hb3.block D (by omega)).trans hDK1
      have l2 := hl2.below hb3
      have l1 := hl1.below hb3
      have hB3 : Below w.heap.size w W3 := hB2.trans (hb3.mono (by omega))
      clear hl1 hl2 hv hv2 hrow hrow2 e1 e3 d1 d2 d4 hDK hDK1 hDK2 hB1 hB2 hT1 hs2 hb3 ht ht2
      obtain ⟨a1, k1', hv1⟩ : ∃ a c, v = .slice a q.length c := by
        rcases l1 with ⟨h0, a, c, h1⟩ | ⟨b, o, c, h1, _⟩
        · exact ⟨a, c, by rw [h1]; rw [h0] at hfl; simp at hfl; rw [← hfl]⟩
        · exact ⟨_, c, by rw [h1, hfl]⟩
      subst hv1
      have hpre := hq.out
      obtain ⟨ap, cp, hvp, hcap, hsub⟩ : ∃ a c, pv = .slice a (plcs x.toNat 64).length c ∧ (plcs x.toNat 64).length ≤ c ∧ Lst .i64 W3 (.slice a q.length c) (fins q) := by
        have := own_sub hown3 rfl hpre
        rw [hfl] at this
        exact this
      subst hvp
      clear hfl hpre
      have hqL : ((q.length : Nat) : Int) ≤ (((plcs x.toNat 64).length : Nat) : Int) := by omega
      have hnc : ((q.length : Nat) : Int) ≤ ((cp : Nat) : Int) := by omega
      have h0n : (0 : Int) ≤ ((q.length : Nat) : Int) := by omega
      generalize (plcs x.toNat 64).length = L at *
      generalize hqn : q.length = n at *
      have c2 := g2.cell
      have c3 := g3.cell
      have c1 := g1.cell
      have f1 := g1.frozen
      clear hown3
      have hne2 : (⟨w.heap.size + 2, 0, none⟩ : Addr).block ≠ w.heap.size + 1 := by simp
      have hne3 : (⟨w.heap.size + 2 + 1, 0, none⟩ : Addr).block ≠ w.heap.size + 1 := by simp
      have hdrew : (W3.drew.cell? ⟨w.heap.size + 2, 0, none⟩ = some v2 ∧ W3.drew.cell? ⟨w.heap.size + 2 + 1, 0, none⟩ = some (.slice a1 n k1')) ∧ Touch (· = w.heap.size + 1) W3 W3.drew ∧ ∃ u, Boxed W3.drew (w.heap.size + 1) 4 (.bool u) := ⟨⟨c2, c3⟩, (Touch.refl _ _).drew, false, g1⟩
      gi_wp2_with fail
      refine wpIn_wide.2 ?_
      clear a0 b0 b1 b2 b3 b4 hba hB0 hT0 hT hsa
      go_wp2_with fail
      go_region_held3 (fun w' => (w'.cell? ⟨w.heap.size + 2, 0, none⟩ = some v2 ∧ w'.cell? ⟨w.heap.size + 2 + 1, 0, none⟩ = some (.slice a1 n k1')) ∧ Touch (· = w.heap.size + 1) W3 w' ∧ ∃ u, Boxed w' (w.heap.size + 1) 4 (.bool u))
        (first | with_reducible assumption | with_reducible exact ⟨⟨c2, c3⟩, Touch.refl _ _, false, g1⟩ | with_reducible exact hdrew | with_reducible exact bkeep (by assumption) hq4 | with_reducible exact bkeep (by assumption) hq5 | with_reducible exact bkeep (by assumption) hq6 | with_reducible exact bset (by assumption) hne2 hne3)
        (first | (go_at_call 8; refine (worded_any _).mono ?_; rintro e w4 ⟨rfl, hq4⟩) | (go_at_call 20; with_reducible refine (ints_any v2 _ _ _ (blst (by assumption) l2 g1) (blst (by assumption) hl3 g1)).mono ?_; rintro e w5 ⟨rfl, hq5⟩) | (go_at_call 20; with_reducible refine (ints_any (.slice a1 n k1') _ _ _ (blst (by assumption) l1 g1) (blst (by assumption) hsub g1)).mono ?_; rintro e w6 ⟨rfl, hq6⟩; have t6 := bkeep (by assumption) hq6; obtain ⟨u6, hu6⟩ := t6.2.2; have c16 := hu6.cell; have f16 := hu6.frozen))
      have hbT := Boxed.set (.bool true) hu6
      have tT : Touch (· = w.heap.size + 1) W3 (w6.setCell ⟨w.heap.size + 1, 0, none⟩ (.bool true)) := t6.2.1.setCell rfl _
      generalize w6.setCell ⟨w.heap.size + 1, 0, none⟩ (.bool true) = WF at *
      gi_wp2
      have kk2 : WF.heap[D2]? = some (.deferred (some [])) := (tT.block D2 (by omega) (by omega)).trans k2
      have kk1 : WF.heap[D]? = some (.deferred (some [])) := (tT.block D (by omega) (by omega)).trans k1
      have hDD : D ≠ D2 := by omega
      have hWF : Below w.heap.size w WF := hB3.trans (tT.at_below (by omega) (by omega))
      have hsF := tT.size
      refine ⟨by simp, .inl ⟨_, _, rfl, run_takeDeferred kk2, ?_⟩⟩
      have kk1' : (WF.putObj D2 (.deferred none)).heap[D]? = some (.deferred (some [])) := (World.putObj_heap_other (by omega)).trans kk1
      refine ⟨by simp, .inl ⟨_, _, rfl, run_takeDeferred kk1', ?_⟩⟩
      have hbF : ((WF.putObj D2 (.deferred none)).putObj D (.deferred none)).cell? ⟨w.heap.size + 1, 0, none⟩ = some (.bool true) :=
        Boxed.cell (t := 4) ((World.putObj_heap_other (by omega)).trans ((World.putObj_heap_other (by omega)).trans hbT))
      refine ⟨.bool true, ?_, rfl, (hWF.trans (belowK_b (w := w) (Nat.le_refl _) WF D2 _ _ (by omega) kk2 rfl rfl)).trans (belowK_b (w := w) (Nat.le_refl _) _ D _ _ (by omega) kk1' rfl rfl)⟩
      simp [results, Tryd.f6, go_sem, hbF]
  clear hK
  refine wpIn_rangeFunc_ownF rfl (by omega) (gf := 30) (lb := #[.pointer (some ⟨w.heap.size + 2 + 1 + 1, 0, none⟩)]) rfl trivial (enters_of Tryd.func30 (by kernel_rfl) rfl)
    (bits_stops 8 (by omega) (w.heap.size + 2 + 1 + 1) w.heap.size x W0 hx (by omega) hT.lt hT0 (by omega) b4.cell) belowK_t (belowK_b (by omega)) (Below.refl _ _) (fun _ => rfl)
    (fun pre W => (∃ v, Boxed W (w.heap.size + 2 + 1) 30 v ∧ W.ownsRow (w.heap.size + 5) 3 1 v pre.length ((fins pre).map (Value.int .i64)) ∧ True) ∧ Touch (· = w.heap.size + 2 + 1) W0 W)
    (fun c pre W => (∃ v, Boxed W (w.heap.size + 2 + 1) 30 v ∧ W.ownsRow (w.heap.size + 5) 3 1 v (pre.length - 1) ((fins (pre.take (pre.length - 1))).map (Value.int .i64)) ∧ c = .exit 0) ∧ Touch (· = w.heap.size + 2 + 1) W0 W)
    (OwnFrom.and (Own.from (holdsRow_own (w.heap.size + 5) (w.heap.size + 2 + 1) 30 3 1 (fun pre : List (Fin 64) => pre.length) (fun pre : List (Fin 64) => (fins pre).map (Value.int .i64)) (fun _ _ => True)) _) (ownFrom_touch (Nat.le_refl _)))
    (fun c => OwnFrom.and (Own.from (holdsRow_own (w.heap.size + 5) (w.heap.size + 2 + 1) 30 3 1 (fun pre : List (Fin 64) => pre.length - 1) (fun pre : List (Fin 64) => (fins (pre.take (pre.length - 1))).map (Value.int .i64)) (fun _ _ => c = .exit 0)) _) (ownFrom_touch (Nat.le_refl _)))
    ⟨⟨_, b3, World.ownsRow_nil _ _ _ _, trivial⟩, Touch.refl _ _⟩
    (fun i => { tmps := #[.int .u64 x, .int .i64 s, undef, .pointer (some ⟨w.heap.size, 0, none⟩), .pointer (some ⟨w.heap.size + 1, 0, none⟩), .pointer (some ⟨w.heap.size + 2, 0, none⟩), .pointer (some ⟨w.heap.size + 2 + 1, 0, none⟩), .func (.func 30) #[] #[.pointer (some ⟨w.heap.size + 2 + 1 + 1, 0, none⟩)], .int .i64 ((i.val : Nat) : Int), undef, undef, .bool true, .bool false, .int .u64 x, .func (.func 30) #[] #[.pointer (some ⟨w.heap.size + 2 + 1 + 1, 0, none⟩)], .func (.func 30) #[] #[.pointer (some ⟨w.heap.size + 2 + 1 + 1, 0, none⟩)], .int .i64 ((i.val : Nat) : Int), undef, undef, undef, undef, undef, undef, undef, undef, undef, undef, undef, undef, undef, undef, undef, undef, undef, undef, undef, undef, undef, undef, undef, undef, undef, undef, undef, undef, undef, undef, undef, undef, undef, undef, undef, undef, undef, undef, undef, undef, undef, undef, undef, undef, undef, undef, undef, undef, undef, undef], defers := [] }) ?assign ?body ?done ?stop
  case assign =>
    intro l i W K hK
    gi_wp2
    exact hK
  case body =>
    rintro l pre i W ⟨⟨v, hv, hrow, _⟩, ht⟩ hlt
    have hsW := ht.size
    have hst := (Boxed.touched b0 ht (by omega)).cell
    have hl64 : ((pre.length : Nat) : Int) ≤ 63 := by omega
    obtain ⟨a1, k1, hveq⟩ := ownsRow_form hrow
    have hc := hv.cell
    have hall : (∃ v', Boxed W (w.heap.size + 2 + 1) 30 v' ∧ W.ownsRow (w.heap.size + 5) 3 1 v' ((pre ++ [i]).length - 1) ((fins ((pre ++ [i]).take ((pre ++ [i]).length - 1))).map (Value.int .i64)) ∧ Code.exit 0 = .exit 0) := by
      refine ⟨v, hv, ?_, rfl⟩
      rw [List.length_append, List.length_singleton, Nat.add_sub_cancel, List.take_left]
      exact hrow
    subst hveq
    generalize hy : ((i.val : Nat) : Int) = y at *
    have HY := Lib.hid hy
    clear hy
    have HF : Hid (fins (pre ++ [i]) = fins pre ++ [y]) := by unfold Hid; rw [fins_snoc, HY.out]
    have HL : Hid ((pre ++ [i]).length = pre.length + 1) := by unfold Hid; simp
    generalize hp : pre.length = p at *
    have h64 : ¬ 64 ≤ (p : Int) := by omega
    by_cases c2 : 0 ≤ s
    · gi_wp2_with (gi_at_builtin; refine wpListIn_append_own _ rfl _ _ 30 rfl (w.heap.size + 5) 3 i0 (.int .i64 0) 1 8 Tryd.underlying30 hi hz0 hz1 hz2 rfl (by decide) _ _ _ rfl (hrow.alloc _) ⟨W.heap.size, 0, none⟩ 1 1 [.int .i64 y] rfl rfl (cell_one_new _ _ _) (by simp [Value.oneCell']) (by unfold maxLen; omega) (by omega) (by simp; omega) ?_; intro v' w1 hown' hgrow _; obtain ⟨g', cap', rfl⟩ := ownsRow_succ hown'; obtain ⟨hv1, hv2, hr2, hk2, ht2, hbl⟩ := appended_touch hv (by decide) hrow hown' hgrow; have hc1 := hv1.cell; have hf1 := hv1.frozen)
      · obtain ⟨v', h1, h2, _⟩ := hall
        exact ⟨KeepsOthers.refl _, ⟨v', h1, h2, by first | rfl | trivial | simp⟩, ht⟩
      · have ht3 := ht2 W0 ht (by omega)
        exact ⟨hk2, hbl w.heap.size (by omega) (by omega) (by omega), ⟨_, hv2, by rw [HL.out, HF.out, List.map_append]; exact hr2⟩, ht3⟩
    · gi_wp2_with (gi_at_builtin; refine wpListIn_append_own _ rfl _ _ 30 rfl (w.heap.size + 5) 3 i0 (.int .i64 0) 1 8 Tryd.underlying30 hi hz0 hz1 hz2 rfl (by decide) _ _ _ rfl (hrow.alloc _) ⟨W.heap.size, 0, none⟩ 1 1 [.int .i64 y] rfl rfl (cell_one_new _ _ _) (by simp [Value.oneCell']) (by unfold maxLen; omega) (by omega) (by simp; omega) ?_; intro v' w1 hown' hgrow _; obtain ⟨g', cap', rfl⟩ := ownsRow_succ hown'; obtain ⟨hv1, hv2, hr2, hk2, ht2, hbl⟩ := appended_touch hv (by decide) hrow hown' hgrow; have hc1 := hv1.cell; have hf1 := hv1.frozen)
      have ht3 := ht2 W0 ht (by omega)
      exact ⟨hk2, hbl w.heap.size (by omega) (by omega) (by omega), ⟨_, hv2, by rw [HL.out, HF.out, List.map_append]; exact hr2⟩, ht3⟩
  case done =>
    rintro D ys W hD hys ⟨⟨v, hv, hrow, _⟩, ht⟩ hDK
    gi_wp2_with fail
    exact KF D ys v W hD hDK (by unfold Hid; rw [hys]; exact List.prefix_refl _) hv hrow ht
  case stop =>
    rintro D c pre W hD hpre ⟨⟨v, hv, hrow, rfl⟩, ht⟩ hDK
    have hl : (pre.take (pre.length - 1)).length = pre.length - 1 := by simp
    have hrow' : W.ownsRow (w.heap.size + 5) 3 1 v (pre.take (pre.length - 1)).length ((fins (pre.take (pre.length - 1))).map (Value.int .i64)) := by rw [hl]; exact hrow
    have hpf : Hid (fins (pre.take (pre.length - 1)) <+: plcs x.toNat 64) := by
      unfold Hid
      refine List.IsPrefix.trans ?_ hpre
      unfold fins
      rw [List.map_take]
      exact List.take_prefix _ _
    gi_wp2_with fail
    exact KF D _ v W hD hDK hpf hv hrow' ht
end Go.Proofs.YtjkfddjmldckeaaDoor
