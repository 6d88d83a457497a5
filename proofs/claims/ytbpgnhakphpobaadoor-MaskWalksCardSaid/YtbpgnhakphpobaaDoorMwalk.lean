/- MaskWalks: the walk of the whole. Conditions: the argument is a list of words, the table of math/bits lies as the start lays it. -/
import Derived.Test.YtbpgnhakphpobaaDoorMrrw
import Derived.Test.YtbpgnhakphpobaaDoorMrun
import Derived.Test.YtbpgnhakphpobaaDoorMplac
import Derived.Test.YtbpgnhakphpobaaDoorInts
import Derived.Maps.OwnIn
import Derived.Deep.RegionHeld3
namespace Go.Proofs.YtbpgnhakphpobaaDoor
open Go.RowKit Go.Shelf
set_option linter.unusedVariables false
attribute [local go_sem] Oper.semAt_some

theorem own_keep {X : Nat → Prop} {w w' : World} {base n : Nat} {e : TypeId} {v : Value} {xs : List Value} (h : w.ownsRow base e 1 v n xs) (hk : Keep X w w') (hx : ∀ k, v.ownBlock = some k → X k) : w'.ownsRow base e 1 v n xs := by
  refine ⟨h.1, ?_⟩
  rcases h.2 with hn | ⟨g, cap, cur, h1, h2, h3, h4⟩
  · exact .inl hn
  · exact .inr ⟨g, cap, cur, h1, h2, (hk.block g (hx g (by rw [h1]; rfl)) (Array.getElem?_eq_some_iff.1 h3).1).trans h3, h4⟩
theorem own_touch {R : Nat → Prop} {w w' : World} {base n : Nat} {e : TypeId} {v : Value} {xs : List Value} (h : w.ownsRow base e 1 v n xs) (hk : Touch R w w') (hx : ∀ k, v.ownBlock = some k → ¬ R k) : w'.ownsRow base e 1 v n xs :=
  own_keep (X := fun k => ¬ R k) h ⟨hk.os, hk.tape, hk.output, hk.size, fun k hr hl => hk.block k hl hr⟩ hx
theorem Boxed.touchR {R : Nat → Prop} {b : Nat} {w w' : World} {t : TypeId} {v : Value} (h : Boxed w b t v) (ht : Touch R w w') (hne : ¬ R b) : Boxed w' b t v := (ht.block b h.lt hne).trans h
theorem ownsRow_form2 {W : World} {base : Nat} {e : TypeId} {v : Value} {k : Nat} {xs : List Value} (h : W.ownsRow base e 1 v k xs) : ∃ a c, v = .slice a k c := by
  rcases h.2 with ⟨h1, h2⟩ | ⟨g, cap, cur, h1, _⟩
  · exact ⟨none, 0, by rw [h1, h2]⟩
  · exact ⟨_, cap, h1⟩
theorem own_sub2 {w : World} {base : Nat} {e : TypeId} {v : Value} {n : Nat} {zs q : List Int} (h : w.ownsRow base e 1 v n (zs.map (Value.int .i64))) (hn : zs.length = n) (hq : q <+: zs) : ∃ a c, v = .slice a n c ∧ n ≤ c ∧ Lst .i64 w (.slice a q.length c) q := by
  have hle := hq.length_le
  rcases h.2 with ⟨h1, h2⟩ | ⟨g, cap, cur, h1, h2, h3, h4, h5, h6⟩
  · have hq0 : q = [] := List.eq_nil_of_length_eq_zero (by omega)
    exact ⟨none, 0, by rw [h1, h2], by omega, .inl ⟨hq0, none, 0, by rw [hq0]; rfl⟩⟩
  · refine ⟨_, cap, h1, by omega, ?_⟩
    rcases Nat.eq_zero_or_pos q.length with h0 | h0
    · exact .inl ⟨List.eq_nil_of_length_eq_zero h0, _, cap, by rw [h0]⟩
    · refine .inr ⟨g, 0, cap, rfl, h0, by omega, fun i hi => ?_⟩
      subst h1
      have hc := h.cellAt i (by omega)
      obtain ⟨r, rfl⟩ := hq
      rw [Nat.zero_add, hc]
      simp [List.getD_eq_getElem?_getD, List.getElem?_append_left, hi]
/-- the way out of a function with many marks; its results may lie in boxes -/
theorem leaves_marks2 {F : Fence} {n : Nat} {P : Program} {fn : Func} {tmps : Array Value} {R : Ending → World → Prop} (v : Value) : ∀ (Ds : List Nat) (w : World), Ds.Nodup → (∀ D ∈ Ds, w.heap[D]? = some (.deferred (some []))) → (∀ w', Touch (· ∈ Ds) w w' → (results fn tmps).run P w' = .ok v w' ∧ R (.returned v) w') → LeavesInM F n P fn tmps R (Ds.map markD) .returning w
  | [], w, _, _, h => ⟨v, (h w (Touch.refl _ _)).1, (h w (Touch.refl _ _)).2⟩
  | D :: Ds, w, hn, hd, h => by
    obtain ⟨h1, h2⟩ := List.nodup_cons.1 hn
    refine ⟨by simp, .inl ⟨D, _, rfl, run_takeDeferred (hd D (by simp)), ?_⟩⟩
    refine leaves_marks2 v Ds _ h2 (fun D' hD' => (World.putObj_heap_other (fun e => h1 (by rw [← e]; exact hD'))).trans (hd D' (by simp [hD']))) (fun w' ht => h w' ?_)
    exact Touch.trans (Touch.putObj (Touch.refl _ _) (.inl (by simp)) _) (ht.mono (fun k _ hk => by simp [hk]))
/-- a box and the row in it -/
structure BoxRow (base B : Nat) (xs : List Int) (Y : Nat → Prop) (W : World) (v : Value) : Prop where
  box : Boxed W B 25 v
  row : W.ownsRow base 3 1 v xs.length (xs.map (Value.int .i64))
  yb : Y B
  yr : ∀ k, v.ownBlock = some k → Y k
  bw : base ≤ W.heap.size
theorem BoxRow.keep {base B : Nat} {xs : List Int} {Y : Nat → Prop} {A C : World} {v : Value} (h : BoxRow base B xs Y A v) (hk : Keep Y A C) : BoxRow base B xs Y C v :=
  ⟨Blk.keep h.box hk h.yb, own_keep h.row hk h.yr, h.yb, h.yr, Nat.le_trans h.bw hk.size⟩
theorem BoxRow.touch {base B : Nat} {xs : List Int} {Y R : Nat → Prop} {A C : World} {v : Value} (h : BoxRow base B xs Y A v) (hk : Touch R A C) (hB : ¬ R B) (hR : ∀ k, base ≤ k → ¬ R k) : BoxRow base B xs Y C v :=
  ⟨Boxed.touchR h.box hk hB, own_touch h.row hk (fun k e => hR k (h.row.lt k e).1), h.yb, h.yr, Nat.le_trans h.bw hk.size⟩
theorem BoxRow.more {base B : Nat} {xs : List Int} {Y : Nat → Prop} {W w1 : World} {v v' : Value} {tmp : Obj} {y : Int} (h : BoxRow base B xs Y W v) (hl : ∀ k, Y k → k < W.heap.size) (hown' : w1.ownsRow base 3 1 v' (xs.length + 1) (xs.map (Value.int .i64) ++ [.int .i64 y]))
    (hgrow : (W.alloc tmp).grownBy w1 v.ownBlock) (hat : v'.ownBlock = v.ownBlock ∨ v'.ownBlock = some (W.alloc tmp).heap.size) (hB : B < base) :
    Boxed w1 B 25 v ∧ BoxRow base B (xs ++ [y]) (fun k => Y k ∨ v'.ownBlock = some k) (w1.setCell ⟨B, 0, none⟩ v') v' ∧ Went Y W (fun k => Y k ∨ v'.ownBlock = some k) (w1.setCell ⟨B, 0, none⟩ v') ∧ Touch (fun k => k = B ∨ v.ownBlock = some k) W (w1.setCell ⟨B, 0, none⟩ v') ∧
    (∀ k, v'.ownBlock = some k → v.ownBlock = some k ∨ W.heap.size ≤ k) := by
  have t1 : Touch (fun k => v.ownBlock = some k) W w1 := ((Touch.refl _ W).alloc tmp).grown hgrow (fun k e => .inl e)
  have hvB : ¬ v.ownBlock = some B := fun e => by have := (h.row.lt B e).1; omega
  have box1 : Boxed w1 B 25 v := Boxed.touchR h.box t1 hvB
  have hnew : ∀ k, v'.ownBlock = some k → v.ownBlock = some k ∨ W.heap.size ≤ k := fun k e => by
    rcases hat with e2 | e2
    · exact .inl (by rw [← e2]; exact e)
    · rw [e2] at e
      have := Option.some.inj e
      rw [World.size_alloc] at this
      exact .inr (by omega)
  have t2 : Touch (fun k => k = B ∨ v.ownBlock = some k) W (w1.setCell ⟨B, 0, none⟩ v') := Touch.setCell (t1.mono (fun k _ e => .inr e)) (.inl rfl) _
  have hrow2 : (w1.setCell ⟨B, 0, none⟩ v').ownsRow base 3 1 v' (xs ++ [y]).length ((xs ++ [y]).map (Value.int .i64)) := by
    rw [List.length_append, List.map_append]
    exact own_touch hown' (Touch.setCell (R := fun k => k = B) (Touch.refl _ _) rfl _) (fun k e => by have := (hown'.lt k e).1; omega)
  refine ⟨box1, ⟨Boxed.set v' box1, hrow2, .inl h.yb, fun k e => .inr e, Nat.le_trans h.bw t2.size⟩, ⟨t2.mono (fun k _ e => ?_), fun k e => ?_, fun k e => ?_⟩, t2, hnew⟩
  · rcases e with e | e
    · rw [e]; exact h.yb
    · exact h.yr k e
  · rcases e with e | e
    · exact .inl e
    · rcases hnew k e with e2 | e2
      · exact .inl (h.yr k e2)
      · exact .inr e2
  · rcases e with e | e
    · exact Nat.lt_of_lt_of_le (hl k e) t2.size
    · exact (hrow2.lt k e).2
/-- the first loop: what lies there between two places, and when it was left -/
def Wk1I (base B S : Nat) (s : Nat) (pre : List (Fin 65536)) : (Nat → Prop) → World → Prop := fun Y W =>
  ∃ v, BoxRow base B (nums pre) Y W v ∧ Boxed W S 3 (.int .i64 s) ∧ Y S ∧ pre.length ≤ s
def Wk1X (base B S : Nat) (s : Nat) (c : Code) (pre : List (Fin 65536)) : (Nat → Prop) → World → Prop := fun Y W =>
  c = .exit 0 ∧ pre.length - 1 = s ∧ ∃ v, BoxRow base B (nums (pre.take (pre.length - 1))) Y W v ∧ Boxed W S 3 (.int .i64 s) ∧ Y S
theorem wk1I_foot (base B S s : Nat) : Foot (Wk1I base B S s) := by
  rintro pre Y A C ⟨v, h1, h2, h3, h4⟩ hl hk
  exact ⟨v, h1.keep hk, Blk.keep h2 hk h3, h3, h4⟩
theorem wk1X_foot (base B S s : Nat) (c : Code) : Foot (Wk1X base B S s c) := by
  rintro pre Y A C ⟨h0, h4, v, h1, h2, h3⟩ hl hk
  exact ⟨h0, h4, v, h1.keep hk, Blk.keep h2 hk h3, h3⟩
def Wk2I (base B : Nat) (pre : List (Fin 65536)) : (Nat → Prop) → World → Prop := fun Y W => ∃ v, BoxRow base B (nums pre) Y W v
theorem wk2I_foot (base B : Nat) : Foot (Wk2I base B) := by
  rintro pre Y A C ⟨v, h1⟩ hl hk
  exact ⟨v, h1.keep hk⟩
theorem none_foot {α : Type} : Foot (fun (_ : List α) (_ : Nat → Prop) (_ : World) => False) := fun _ _ _ _ h _ _ => h.elim
def Wk3I (base B C : Nat) (pre : List Pr) : (Nat → Prop) → World → Prop := fun Y W =>
  ∃ f c, BoxRow base B (fsts (prs pre)) Y W f ∧ BoxRow base C (snds (prs pre)) Y W c ∧ ∀ k, f.ownBlock = some k → c.ownBlock ≠ some k
theorem wk3I_foot (base B C : Nat) : Foot (Wk3I base B C) := by
  rintro pre Y A D ⟨f, c, h1, h2, h3⟩ hl hk
  exact ⟨f, c, h1.keep hk, h2.keep hk, h3⟩
theorem touch_cell {R : Nat → Prop} {W W' : World} (ht : Touch R W W') {p : Addr} (hp : p.block < W.heap.size) (hn : ¬ R p.block) : W'.cell? p = W.cell? p := World.cell?_of_block (ht.block p.block hp hn)
theorem lst_touchR {R : Nat → Prop} {w w' : World} {base n : Nat} {v : Value} {zs : List Int} (h : w.ownsRow base 3 1 v n (zs.map (Value.int .i64))) (ht : Touch R w w') (hR : ∀ k, base ≤ k → ¬ R k) : w'.ownsRow base 3 1 v n (zs.map (Value.int .i64)) :=
  own_touch h ht (fun k e => hR k (h.lt k e).1)
theorem nums_take (q : List (Fin 65536)) (k : Nat) : nums (q.take k) = (nums q).take k := by unfold nums; rw [List.map_take]
theorem Blk.ne3 {w : World} {b b' : Nat} {cs cs' : Array Value} {t t' : TypeId} (h : Blk w b cs t) (h' : Blk w b' cs' t') (ht : t ≠ t') : ¬ b = b' := by
  intro e
  subst e
  unfold Blk at h h'
  rw [h] at h'
  simp only [Option.some.injEq, Obj.cells.injEq] at h'
  exact ht h'.2.1
theorem cell_one_newN (w : World) (x : Value) (t : TypeId) (n : Nat) (hn : w.heap.size = n) : ∀ j u, [x][j]? = some u → (w.alloc (.cells #[x] t)).cell? ((⟨n, 0, none⟩ : Addr).add j) = some u := by
  subst hn
  exact cell_one_new w x t
theorem cell_set_ne2 {W : World} {B : Nat} {v : Value} {p : Addr} (h : p.block ≠ B) : (W.setCell ⟨B, 0, none⟩ v).cell? p = W.cell? p := by
  unfold World.cell?
  rw [Below.heap_setCell _ _ _ _ h]
section
variable {B : Nat} {w3 W W' : World} {p1 p2 p3 p4 p5 : Addr} {x1 x2 x3 x4 x5 : Value} {t : TypeId}
theorem skeep (h : (W.cell? p1 = some x1 ∧ W.cell? p2 = some x2 ∧ W.cell? p3 = some x3 ∧ W.cell? p4 = some x4 ∧ W.cell? p5 = some x5) ∧ Touch (· = B) w3 W ∧ ∃ u, Boxed W B t (.bool u)) (hq : Below W.heap.size W W') :
    (W'.cell? p1 = some x1 ∧ W'.cell? p2 = some x2 ∧ W'.cell? p3 = some x3 ∧ W'.cell? p4 = some x4 ∧ W'.cell? p5 = some x5) ∧ Touch (· = B) w3 W' ∧ ∃ u, Boxed W' B t (.bool u) := by
  obtain ⟨⟨h1, h2, h3, h4, h5⟩, ht, u, hu⟩ := h
  exact ⟨⟨(hq.cell (World.block_lt_of_cell? W _ h1)).trans h1, (hq.cell (World.block_lt_of_cell? W _ h2)).trans h2, (hq.cell (World.block_lt_of_cell? W _ h3)).trans h3, (hq.cell (World.block_lt_of_cell? W _ h4)).trans h4, (hq.cell (World.block_lt_of_cell? W _ h5)).trans h5⟩, ht.trans (.of hq), u, Blk.grew hu hq⟩
theorem sset (h : (W.cell? p1 = some x1 ∧ W.cell? p2 = some x2 ∧ W.cell? p3 = some x3 ∧ W.cell? p4 = some x4 ∧ W.cell? p5 = some x5) ∧ Touch (· = B) w3 W ∧ ∃ u, Boxed W B t (.bool u)) {u : Bool} (h1 : p1.block ≠ B) (h2 : p2.block ≠ B) (h3 : p3.block ≠ B) (h4 : p4.block ≠ B) (h5 : p5.block ≠ B) :
    ((W.setCell ⟨B, 0, none⟩ (.bool u)).cell? p1 = some x1 ∧ (W.setCell ⟨B, 0, none⟩ (.bool u)).cell? p2 = some x2 ∧ (W.setCell ⟨B, 0, none⟩ (.bool u)).cell? p3 = some x3 ∧ (W.setCell ⟨B, 0, none⟩ (.bool u)).cell? p4 = some x4 ∧ (W.setCell ⟨B, 0, none⟩ (.bool u)).cell? p5 = some x5) ∧ Touch (· = B) w3 (W.setCell ⟨B, 0, none⟩ (.bool u)) ∧ ∃ u', Boxed (W.setCell ⟨B, 0, none⟩ (.bool u)) B t (.bool u') :=
  ⟨⟨(cell_set_ne2 h1).trans h.1.1, (cell_set_ne2 h2).trans h.1.2.1, (cell_set_ne2 h3).trans h.1.2.2.1, (cell_set_ne2 h4).trans h.1.2.2.2.1, (cell_set_ne2 h5).trans h.1.2.2.2.2⟩, h.2.1.setCell rfl _, h.2.2.elim fun _ hu => ⟨u, hu.set _⟩⟩
theorem slst {v : Value} {zs : List Int} {b0 : Bool} (h : (W.cell? p1 = some x1 ∧ W.cell? p2 = some x2 ∧ W.cell? p3 = some x3 ∧ W.cell? p4 = some x4 ∧ W.cell? p5 = some x5) ∧ Touch (· = B) w3 W ∧ ∃ u, Boxed W B t (.bool u)) (hl : Lst .i64 w3 v zs) (hb : Boxed w3 B t (.bool b0)) : Lst .i64 W v zs := by
  rcases hl with h0 | ⟨b, off, cap, h1, h2, h3, h4⟩
  · exact .inl h0
  · refine .inr ⟨b, off, cap, h1, h2, h3, fun i hi => ?_⟩
    have hc := h4 i hi
    have hlt := World.block_lt_of_cell? w3 _ hc
    have hne : b ≠ B := by
      intro e
      subst e
      rw [Blk.cell (cs := #[.bool b0]) (t := t) hb] at hc
      rcases Nat.eq_zero_or_pos (off + i) with h0 | h0
      · rw [h0] at hc
        simp at hc
      · rw [Array.getElem?_eq_none (by simp; omega)] at hc
        cases hc
    exact (touch_cell h.2.1 (p := ⟨b, off + i, none⟩) hlt hne).trans hc
theorem sbel {n : Nat} {w0 : World} (h : (W.cell? p1 = some x1 ∧ W.cell? p2 = some x2 ∧ W.cell? p3 = some x3 ∧ W.cell? p4 = some x4 ∧ W.cell? p5 = some x5) ∧ Touch (· = B) w3 W ∧ ∃ u, Boxed W B t (.bool u)) (hb : Below n w0 w3) (hn : n ≤ B) (hs : n ≤ w3.heap.size) : Below n w0 W := hb.trans (h.2.1.below hs (fun k hk => by omega))
end
set_option maxRecDepth 100000 in
set_option maxHeartbeats 4000000 in
theorem walks_walk (na ca : Nat) (aa : Option Addr) (st : Int) (l : List Int) (w : World) (ha : LstAll w (.slice aa na ca) l) (h1 : na ≤ 8) (hl8 : l.length = na) (hT : Tab w) :
    Calls Tryd.prog 3 #[.slice aa na ca, .int .i64 st] w fun e w' => e = .returned (.bool true) ∧ Below w.heap.size w w' := by
  have h1' : ¬ (8 : Int) < (na : Int) := by omega
  have h1d : decide ((8 : Int) < (na : Int)) = false := by simp; omega
  have LA := Lib.hid (fun W (h : Below w.heap.size w W) => (ha.grew h).1)
  have TA := Lib.hid (fun W (h : Below w.heap.size w W) => hT.grew h)
  have MY := Lib.hid (fun W (h : Below w.heap.size w W) => masked_yes W (hT.grew h))
  have AL := Lib.hid (fun W (hb : Below w.heap.size w W) => all_any _ l W (ha.grew hb).1 (by have := ha.2.2; omega))
  have RU := Lib.hid (fun W (hb : Below w.heap.size w W) => runs_any _ l W (ha.grew hb).1 (by have := ha.2.2; omega))
  have RP := Lib.hid (fun W (hb : Below w.heap.size w W) => rplaces_any _ l W (ha.grew hb).1 ha.2.1 (by have := ha.2.2; omega))
  have RR := Lib.hid (fun W (hb : Below w.heap.size w W) => rruns_any _ l W (ha.grew hb).1 ha.2.1 (by have := ha.2.2; omega))
  have UA := Lib.hid (And.intro ha.2.1 (And.intro h1 hl8))
  have PL := Lib.hid (show (plL l).length ≤ 512 by have := plR_len l l.length; have e : plL l = plR l l.length := rfl; rw [e]; omega)
  obtain ⟨s, hs⟩ : ∃ s : Nat, wrap64 ((IntKind.u64.wrap st).tmod 40) = (s : Int) ∧ s < 40 := by
    have h0 : 0 ≤ IntKind.u64.wrap st := by rw [IntKind.wrap_u64]; omega
    have hlt : IntKind.u64.wrap st < 18446744073709551616 := by rw [IntKind.wrap_u64]; omega
    generalize IntKind.u64.wrap st = y at *
    have e : y.tmod 40 = y % 40 := by rw [Int.tmod_eq_emod_of_nonneg h0]
    refine ⟨(y % 40).toNat, ?_, by omega⟩
    rw [e]; unfold wrap64; omega
  have HS := Lib.hid hs
  clear ha hT h1 hl8 hs
  refine (callsIn_wide (n := 9)).1 ?_
  refine callsIn_of_wp_marks Tryd.func3 rfl trivial ?_ rfl
  simp only [Tryd.ntmps3, List.size_toArray, List.length_cons, List.length_nil, Nat.reduceAdd, Nat.reduceSub, Array.replicate_succ, Array.replicate_zero, List.push_toArray, List.append_toArray, List.nil_append, List.cons_append]
  gi_wp2_with fail
  refine ⟨trivial, ?_⟩
  have x1 : Boxed ((w.alloc (.cells #[.int .i64 st] 3)).alloc (.cells #[.bool false] 4)) w.heap.size 3 (.int .i64 st) := (Blk.new _ _ _).alloc _
  have x2 : Boxed ((w.alloc (.cells #[.int .i64 st] 3)).alloc (.cells #[.bool false] 4)) (w.heap.size + 1) 4 (.bool false) := Blk.new' (by simp)
  have xb : Below w.heap.size w ((w.alloc (.cells #[.int .i64 st] 3)).alloc (.cells #[.bool false] 4)) := ((Below.refl _ w).alloc (Nat.le_refl _) _).alloc (by simp) _
  have xs : ((w.alloc (.cells #[.int .i64 st] 3)).alloc (.cells #[.bool false] 4)).heap.size = w.heap.size + 2 := by simp
  generalize (w.alloc (.cells #[.int .i64 st] 3)).alloc (.cells #[.bool false] 4) = wa at *
  refine (callsIn_wide.2 (MY.out _ xb)).mono ?_
  rintro e w0 ⟨rfl, c0⟩
  have y1 : Boxed w0 w.heap.size 3 (.int .i64 st) := Blk.grew x1 c0
  have y2 : Boxed w0 (w.heap.size + 1) 4 (.bool false) := Blk.grew x2 c0
  have b0 := xb.trans (c0.mono (by omega))
  have hs0 : w.heap.size + 2 ≤ w0.heap.size := by have := c0.size; omega
  have d1 := Boxed.cell y1
  have f1 := Boxed.frozen y1
  clear x1 x2 xb xs c0
  gi_wp2_with fail
  rw [HS.out.1]
  obtain ⟨W0, hW0⟩ : ∃ W0, ((((w0.setCell ⟨w.heap.size, 0, none⟩ (.int .i64 (s : Int))).alloc (.cells #[.slice none 0 0] 25)).alloc (.cells #[.slice none 0 0] 25)).alloc (.cells #[.slice none 0 0] 25)).alloc (.cells #[.slice none 0 0] 25) = W0 := ⟨_, rfl⟩
  have z1 : Boxed W0 w.heap.size 3 (.int .i64 (s : Int)) := by rw [← hW0]; exact ((((y1.set _).alloc _).alloc _).alloc _).alloc _
  have z2 : Boxed W0 (w.heap.size + 1) 4 (.bool false) := by rw [← hW0]; exact (((((y2.other (by omega) _)).alloc _).alloc _).alloc _).alloc _
  have z5 : Boxed W0 w0.heap.size 25 (.slice none 0 0) := by rw [← hW0]; exact (((Blk.new' (by simp)).alloc _).alloc _).alloc _
  have z6 : Boxed W0 (w0.heap.size + 1) 25 (.slice none 0 0) := by rw [← hW0]; exact ((Blk.new' (by simp)).alloc _).alloc _
  have z7 : Boxed W0 (w0.heap.size + 1 + 1) 25 (.slice none 0 0) := by rw [← hW0]; exact (Blk.new' (by simp)).alloc _
  have z8 : Boxed W0 (w0.heap.size + 1 + 1 + 1) 25 (.slice none 0 0) := by rw [← hW0]; exact Blk.new' (by simp)
  have zb : Below w.heap.size w W0 := by
    rw [← hW0]
    exact ((((b0.setCell (p := ⟨w.heap.size, 0, none⟩) (Nat.le_refl _) _).alloc (by simp; omega) _).alloc (by simp; omega) _).alloc (by simp; omega) _).alloc (by simp; omega) _
  have zs : W0.heap.size = w0.heap.size + 4 := by rw [← hW0]; simp
  rw [hW0]
  clear hW0 y1 y2 d1 f1 b0
  refine ⟨trivial, ?_⟩
  refine (callsIn_wide.2 (AL.out W0 zb)).mono ?_
  rintro e W1 ⟨b1, a1, cap1, g1, rfl, hb1, hbl1, hgl1, hrow1, c1⟩
  have bW1 := zb.trans (c1.mono zb.size)
  gi_wp2_with fail
  refine ⟨trivial, ?_⟩
  refine (callsIn_wide.2 (RU.out W1 bW1)).mono ?_
  rintro e W2 ⟨cb2, b2, a2, cap2, g2, rfl, hcb2, hb2, hbl2, hgl2, hrow2, c2⟩
  have bW2 := bW1.trans (c2.mono bW1.size)
  have hs1 := c1.size
  have hs2 := c2.size
  have v1 : Boxed W2 w.heap.size 3 (.int .i64 (s : Int)) := Blk.grew (Blk.grew z1 c1) c2
  have v2 : Boxed W2 (w.heap.size + 1) 4 (.bool false) := Blk.grew (Blk.grew z2 c1) c2
  have v5 : Boxed W2 w0.heap.size 25 (.slice none 0 0) := Blk.grew (Blk.grew z5 c1) c2
  have v6 : Boxed W2 (w0.heap.size + 1) 25 (.slice none 0 0) := Blk.grew (Blk.grew z6 c1) c2
  have v7 : Boxed W2 (w0.heap.size + 1 + 1) 25 (.slice none 0 0) := Blk.grew (Blk.grew z7 c1) c2
  have v8 : Boxed W2 (w0.heap.size + 1 + 1 + 1) 25 (.slice none 0 0) := Blk.grew (Blk.grew z8 c1) c2
  have hb1' : Boxed W2 b1 22 (.slice a1 l.length cap1) := Blk.grew hb1 c2
  have hrow1' : 0 < l.length → a1 = some ⟨g1, 0, none⟩ ∧ g1 < W2.heap.size ∧ ∀ i, i < l.length → W2.cell? ⟨g1, i, none⟩ = some (.int .u64 (l.getD i 0)) := fun h => by
    obtain ⟨e1, e2, e3⟩ := hrow1 h
    exact ⟨e1, Nat.lt_of_lt_of_le e2 c2.size, fun i hi => (c2.cell (p := ⟨g1, i, none⟩) e2).trans (e3 i hi)⟩
  have F := Lib.hid (And.intro v1 (And.intro v2 (And.intro v5 (And.intro v6 (And.intro v7 (And.intro v8 (And.intro hb1' (And.intro hrow1' (And.intro hcb2 (And.intro hb2 (And.intro hrow2 bW2)))))))))))
  clear v1 v2 v5 v6 v7 v8 hb1 hb1' hrow1 hrow1' hcb2 hb2 hrow2 bW2 z1 z2 z5 z6 z7 z8 c1 c2 zb bW1 AL RU
  gi_wp2_with fail
  rename_i K hK
  obtain ⟨i0, hi, hz0, hz1, hz2⟩ := info_parts info_int
  have Z := Lib.hid (And.intro hi (And.intro hz0 (And.intro hz1 hz2)))
  clear hi hz0 hz1 hz2
  have KF : ∀ (D : Nat) (q : List (Fin 65536)) (v : Value) (Y : Nat → Prop) (W : World), W2.heap.size ≤ D → W.heap[D]? = some (.deferred (some [])) → Hid (nums q <+: plL l) → Hid (q.length = min s (plL l).length) → BoxRow W2.heap.size (w0.heap.size + 1) (nums q) Y W v → Boxed W w.heap.size 3 (.int .i64 (s : Int)) → Touch (fun k => k = w0.heap.size + 1 ∨ k = w.heap.size) W2 W →
      K { tmps := #[.slice aa na ca, .int .i64 st, undef, .pointer (some ⟨w.heap.size, 0, none⟩), .pointer (some ⟨w.heap.size + 1, 0, none⟩), .pointer (some ⟨w0.heap.size, 0, none⟩), .pointer (some ⟨w0.heap.size + 1, 0, none⟩), .pointer (some ⟨w0.heap.size + 1 + 1, 0, none⟩), .pointer (some ⟨w0.heap.size + 1 + 1 + 1, 0, none⟩), .func (.func 15) #[] #[.pointer (some ⟨b1, 0, none⟩)], .func (.func 17) #[] #[.pointer (some ⟨cb2, 0, none⟩)], undef, undef, undef, undef, undef, undef, undef, .bool true, .bool false, .bool false, .slice aa na ca, .int .i64 (na : Int), .bool false, .bool false, undef, .int .i64 st, .int .u64 (IntKind.u64.wrap st), .int .u64 ((IntKind.u64.wrap st).tmod 40), .int .i64 (s : Int), .slice aa na ca, .func (.func 15) #[] #[.pointer (some ⟨b1, 0, none⟩)], .slice aa na ca, .func (.func 17) #[] #[.pointer (some ⟨cb2, 0, none⟩)], .func (.func 15) #[] #[.pointer (some ⟨b1, 0, none⟩)], undef, undef, undef, undef, undef, undef, undef, undef, undef, undef, undef, undef, undef, undef, undef, undef, undef, undef, undef, undef, undef, undef, undef, undef, undef, undef, undef, undef, undef, undef, undef, undef, undef, undef, undef, undef, undef, undef, undef, undef, undef, undef, undef, undef, undef, undef, undef, undef, undef, undef, undef, undef, undef, undef, undef, undef, undef, undef, undef, undef, undef, undef, undef, undef, undef], defers := [markD D] } W := by
    intro D q v Y W3 hD hDK hq hql hR hSx hT3
    have hs3 := hT3.size
    have n5 : ¬ cb2 = w.heap.size := fun e => by
      have h1 : W2.heap[cb2]? = _ := F.out.2.2.2.2.2.2.2.2.1
      rw [e, show W2.heap[w.heap.size]? = _ from F.out.1] at h1
      simp at h1
    have n6 : ¬ cb2 = w0.heap.size := fun e => by
      have h1 : W2.heap[cb2]? = _ := F.out.2.2.2.2.2.2.2.2.1
      rw [e, show W2.heap[w0.heap.size]? = _ from F.out.2.2.1] at h1
      simp at h1
    have n7 : ¬ cb2 = w0.heap.size + 1 := fun e => by
      have h1 : W2.heap[cb2]? = _ := F.out.2.2.2.2.2.2.2.2.1
      rw [e, show W2.heap[w0.heap.size + 1]? = _ from F.out.2.2.2.1] at h1
      simp at h1
    have htab := (TA.out w (Below.refl _ _)).lt
    have bW3 : Below w.heap.size w W3 := F.out.2.2.2.2.2.2.2.2.2.2.2.trans (hT3.below (by have := F.out.2.2.2.2.2.2.2.2.2.2.2.size; omega) (fun k hk => by omega))
    have p2 : Boxed W3 (w.heap.size + 1) 4 (.bool false) := Boxed.touchR F.out.2.1 hT3 (by omega)
    have p5 : Boxed W3 w0.heap.size 25 (.slice none 0 0) := Boxed.touchR F.out.2.2.1 hT3 (by omega)
    have p7 : Boxed W3 (w0.heap.size + 1 + 1) 25 (.slice none 0 0) := Boxed.touchR F.out.2.2.2.2.1 hT3 (by omega)
    have p8 : Boxed W3 (w0.heap.size + 1 + 1 + 1) 25 (.slice none 0 0) := Boxed.touchR F.out.2.2.2.2.2.1 hT3 (by omega)
    have pb1 : Boxed W3 b1 22 (.slice a1 l.length cap1) := Boxed.touchR F.out.2.2.2.2.2.2.1 hT3 (by omega)
    have pr1 : 0 < l.length → a1 = some ⟨g1, 0, none⟩ ∧ g1 < W3.heap.size ∧ ∀ i, i < l.length → W3.cell? ⟨g1, i, none⟩ = some (.int .u64 (l.getD i 0)) := fun h => by
      obtain ⟨e1, e2, e3⟩ := F.out.2.2.2.2.2.2.2.1 h
      exact ⟨e1, Nat.lt_of_lt_of_le e2 hs3, fun i hi => (touch_cell hT3 (p := ⟨g1, i, none⟩) e2 (by simp; omega)).trans (e3 i hi)⟩
    have pcb : Boxed W3 cb2 27 (.func (.func 15) #[] #[.pointer (some ⟨b2, 0, none⟩)]) := Boxed.touchR F.out.2.2.2.2.2.2.2.2.1 hT3 (by omega)
    have pb2 : Boxed W3 b2 22 (.slice a2 l.length cap2) := Boxed.touchR F.out.2.2.2.2.2.2.2.2.2.1 hT3 (by omega)
    have pr2 : 0 < l.length → a2 = some ⟨g2, 0, none⟩ ∧ g2 < W3.heap.size ∧ ∀ i, i < l.length → W3.cell? ⟨g2, i, none⟩ = some (.int .u64 (l.getD i 0)) := fun h => by
      obtain ⟨e1, e2, e3⟩ := F.out.2.2.2.2.2.2.2.2.2.2.1 h
      exact ⟨e1, Nat.lt_of_lt_of_le e2 hs3, fun i hi => (touch_cell hT3 (p := ⟨g2, i, none⟩) e2 (by simp; omega)).trans (e3 i hi)⟩
    have hDlt : D < W3.heap.size := (Array.getElem?_eq_some_iff.1 hDK).1
    have hX2 : ∀ k, k = w0.heap.size → k < W3.heap.size := fun k hk => by omega
    have hZ3 : ∀ k, (k = 0 ∨ (0 < l.length ∧ k = g1)) → ¬ k = w0.heap.size := fun k hk e => by
      rcases hk with h | ⟨_, h⟩ <;> omega
    have hZ4 : ∀ k, (k = 0 ∨ (0 < l.length ∧ k = g1)) → k < W3.heap.size := fun k hk => by
      rcases hk with h | ⟨h0, h⟩
      · omega
      · have := (pr1 h0).2.1; omega
    have hI2 : Wk2I W2.heap.size w0.heap.size [] (fun k => k = w0.heap.size) W3 := ⟨.slice none 0 0, ⟨p5, World.ownsRow_nil _ _ _ _, rfl, fun k e => by simp [Value.ownBlock] at e, hs3⟩⟩
    have hSq := Lib.hid (all_x b1 g1 cap1 a1 l W3 (by have := UA.out.2; omega) UA.out.1 (TA.out W3 bW3) pb1 pr1)
    have G3 := Lib.hid (And.intro p2 (And.intro p7 (And.intro p8 (And.intro pcb (And.intro pb2 (And.intro pr2 (And.intro bW3 (And.intro hDK (And.intro hDlt (And.intro hR hSx))))))))))
    have HX2 := Lib.hid (And.intro hX2 (And.intro hZ3 (And.intro hZ4 hI2)))
    clear p2 p5 p7 p8 pb1 pr1 pcb pb2 pr2 bW3 hDK hDlt hR hSx hX2 hZ3 hZ4 hI2 hT3
    apply hK
    clear hK
    gi_wp2_with fail
    refine range_X (gf := 15) (lb := #[.pointer (some ⟨b1, 0, none⟩)]) rfl (enters_of Tryd.func15 (by kernel_rfl) rfl) hSq.out (Below.refl _ _) (fun _ => rfl) (Wk2I W2.heap.size w0.heap.size) (fun _ _ _ _ => False) _ HX2.out.1 HX2.out.2.1 HX2.out.2.2.1 (wk2I_foot _ _) (fun c => none_foot) HX2.out.2.2.2
      (fun x => { tmps := #[.slice aa na ca, .int .i64 st, undef, .pointer (some ⟨w.heap.size, 0, none⟩), .pointer (some ⟨w.heap.size + 1, 0, none⟩), .pointer (some ⟨w0.heap.size, 0, none⟩), .pointer (some ⟨w0.heap.size + 1, 0, none⟩), .pointer (some ⟨w0.heap.size + 1 + 1, 0, none⟩), .pointer (some ⟨w0.heap.size + 1 + 1 + 1, 0, none⟩), .func (.func 15) #[] #[.pointer (some ⟨b1, 0, none⟩)], .func (.func 17) #[] #[.pointer (some ⟨cb2, 0, none⟩)], undef, .int .i64 ((x.val : Nat) : Int), undef, undef, undef, undef, undef, .bool true, .bool false, .bool false, .slice aa na ca, .int .i64 (na : Int), .bool false, .bool false, undef, .int .i64 st, .int .u64 (IntKind.u64.wrap st), .int .u64 ((IntKind.u64.wrap st).tmod 40), .int .i64 (s : Int), .slice aa na ca, .func (.func 15) #[] #[.pointer (some ⟨b1, 0, none⟩)], .slice aa na ca, .func (.func 17) #[] #[.pointer (some ⟨cb2, 0, none⟩)], .func (.func 15) #[] #[.pointer (some ⟨b1, 0, none⟩)], undef, undef, undef, undef, undef, undef, undef, undef, undef, .func (.func 15) #[] #[.pointer (some ⟨b1, 0, none⟩)], .int .i64 ((x.val : Nat) : Int), undef, undef, undef, undef, undef, undef, undef, undef, undef, undef, undef, undef, undef, undef, undef, undef, undef, undef, undef, undef, undef, undef, undef, undef, undef, undef, undef, undef, undef, undef, undef, undef, undef, undef, undef, undef, undef, undef, undef, undef, undef, undef, undef, undef, undef, undef, undef, undef, undef, undef, undef, undef, undef, undef], defers := [] }) ?assign ?body ?done ?stop
    case assign =>
      intro l' x W' K hK
      gi_wp2
      exact hK
    case body =>
      rintro l' pre x Yc Wc ⟨v', hR⟩ hlt hbb hlen
      have hsW := hR.bw
      have hNL := nums_len pre
      obtain ⟨va, vc, rfl⟩ := ownsRow_form2 hR.row
      have hc := hR.box.cell
      have HN := Lib.hid (nums_snoc pre x)
      have hp512 : pre.length < 512 := by have := PL.out; omega
      rw [hNL] at hc
      have hR0 := hR
      have ht' : ¬ (512 : Int) < (pre.length : Int) := by omega
      generalize ((x.val : Nat) : Int) = y at *
      generalize hpp : nums pre = P at *
      obtain ⟨hRb, hRr, hRy, hRyr⟩ := hR
      rw [hNL] at hRr
      have hrr := hRr
      generalize pre.length = p at *
      clear hRb
      subst hNL
      gi_wp2_with (gi_at_builtin; refine wpListIn_append_own_at _ rfl _ _ 25 rfl W2.heap.size 3 i0 (.int .i64 0) 1 8 Tryd.underlying25 Z.out.1 Z.out.2.1 Z.out.2.2.1 Z.out.2.2.2 rfl (by decide) _ _ _ rfl (hrr.alloc _) ⟨Wc.heap.size, 0, none⟩ 1 1 [.int .i64 y] rfl rfl (cell_one_new _ _ _) (by simp [Value.oneCell']) (by unfold maxLen; omega) (by omega) (by simp; omega) ?_; intro v' w1 hown' hgrow _ hat; obtain ⟨hv1, hv2, hv3, hv4, hv5⟩ := BoxRow.more hR0 hlt hown' hgrow hat (by omega); obtain ⟨va', vc', rfl⟩ := ownsRow_form2 hown'; have hc1 := hv1.cell; have hf1 := hv1.frozen)
      exact ⟨_, hv3, _, by rw [HN.out]; exact hv2⟩
    case stop =>
      rintro D2 c pre W hD2 _ _ _ h _ _
      exact h.elim
    case done =>
      rintro D2 q2 Y2 W4 hD2 hYD2 hq2 ⟨vall, hR2⟩ hWe2 hDK2
      have hT4 : Touch (fun k => k = w0.heap.size) W3 W4 := hWe2.touch
      have hs4 := hT4.size
      have r2 : Boxed W4 (w.heap.size + 1) 4 (.bool false) := Boxed.touchR G3.out.1 hT4 (by omega)
      have r7 : Boxed W4 (w0.heap.size + 1 + 1) 25 (.slice none 0 0) := Boxed.touchR G3.out.2.1 hT4 (by omega)
      have r8 : Boxed W4 (w0.heap.size + 1 + 1 + 1) 25 (.slice none 0 0) := Boxed.touchR G3.out.2.2.1 hT4 (by omega)
      have rcb : Boxed W4 cb2 27 (.func (.func 15) #[] #[.pointer (some ⟨b2, 0, none⟩)]) := Boxed.touchR G3.out.2.2.2.1 hT4 (by omega)
      have rb2 : Boxed W4 b2 22 (.slice a2 l.length cap2) := Boxed.touchR G3.out.2.2.2.2.1 hT4 (by omega)
      have rr2 : 0 < l.length → a2 = some ⟨g2, 0, none⟩ ∧ g2 < W4.heap.size ∧ ∀ i, i < l.length → W4.cell? ⟨g2, i, none⟩ = some (.int .u64 (l.getD i 0)) := fun h => by
        obtain ⟨e1, e2, e3⟩ := G3.out.2.2.2.2.2.1 h
        exact ⟨e1, Nat.lt_of_lt_of_le e2 hs4, fun i hi => (touch_cell hT4 (p := ⟨g2, i, none⟩) e2 (by simp; omega)).trans (e3 i hi)⟩
      have bW4 : Below w.heap.size w W4 := G3.out.2.2.2.2.2.2.1.trans (hT4.below (by have := G3.out.2.2.2.2.2.2.1.size; omega) (fun k hk => by omega))
      have rD : W4.heap[D]? = some (.deferred (some [])) := (hT4.block D G3.out.2.2.2.2.2.2.2.2.1 (by omega)).trans G3.out.2.2.2.2.2.2.2.1
      have rso := BoxRow.touch G3.out.2.2.2.2.2.2.2.2.2.1 hT4 (by omega) (fun k hk => by omega)
      have rst : Boxed W4 w.heap.size 3 (.int .i64 (s : Int)) := Boxed.touchR G3.out.2.2.2.2.2.2.2.2.2.2 hT4 (by omega)
      have hD2lt : D2 < W4.heap.size := (Array.getElem?_eq_some_iff.1 hDK2).1
      have hDlt := G3.out.2.2.2.2.2.2.2.2.1
      have hX3 : ∀ k, (k = w0.heap.size + 1 + 1 ∨ k = w0.heap.size + 1 + 1 + 1) → k < W4.heap.size := fun k hk => by omega
      have hZ5 : ∀ k, (k = 0 ∨ (0 < l.length ∧ k = g2)) → ¬ (k = w0.heap.size + 1 + 1 ∨ k = w0.heap.size + 1 + 1 + 1) := fun k hk e => by
        rcases hk with h | ⟨_, h⟩ <;> omega
      have hZ6 : ∀ k, (k = 0 ∨ (0 < l.length ∧ k = g2)) → k < W4.heap.size := fun k hk => by
        rcases hk with h | ⟨h0, h⟩
        · omega
        · have := (rr2 h0).2.1; omega
      have hI3 : Wk3I W2.heap.size (w0.heap.size + 1 + 1) (w0.heap.size + 1 + 1 + 1) [] (fun k => k = w0.heap.size + 1 + 1 ∨ k = w0.heap.size + 1 + 1 + 1) W4 :=
        ⟨.slice none 0 0, .slice none 0 0, ⟨r7, World.ownsRow_nil _ _ _ _, .inl rfl, fun k e => by simp [Value.ownBlock] at e, by omega⟩, ⟨r8, World.ownsRow_nil _ _ _ _, .inr rfl, fun k e => by simp [Value.ownBlock] at e, by omega⟩, fun k e => by simp [Value.ownBlock] at e⟩
      have n8 : ¬ cb2 = w0.heap.size + 1 + 1 := Blk.ne3 rcb r7 (by decide)
      have n9 : ¬ cb2 = w0.heap.size + 1 + 1 + 1 := Blk.ne3 rcb r8 (by decide)
      have hSq4 := Lib.hid (runs_x cb2 b2 g2 cap2 a2 l W4 (by have := UA.out.2; omega) UA.out.1 (TA.out W4 bW4) rcb rb2 rr2)
      have HX3 := Lib.hid (And.intro hX3 (And.intro hZ5 (And.intro hZ6 hI3)))
      have G4 := Lib.hid (And.intro r2 (And.intro bW4 (And.intro rD (And.intro rso (And.intro rst (And.intro hDK2 hR2))))))
      have HQ2 := Lib.hid hq2
      clear r2 r7 r8 rcb rb2 rr2 bW4 rD rso rst hDK2 hR2 hX3 hZ5 hZ6 hI3 hq2 hWe2 hT4 G3 HX2 hSq
      gi_wp2_with fail
      refine range_X (gf := 17) (lb := #[.pointer (some ⟨cb2, 0, none⟩)]) rfl (enters_of Tryd.func17 (by kernel_rfl) rfl) hSq4.out (Below.refl _ _) (fun _ => rfl) (Wk3I W2.heap.size (w0.heap.size + 1 + 1) (w0.heap.size + 1 + 1 + 1)) (fun _ _ _ _ => False) _ HX3.out.1 HX3.out.2.1 HX3.out.2.2.1 (wk3I_foot _ _ _) (fun c => none_foot) HX3.out.2.2.2
        (fun x => { tmps := #[.slice aa na ca, .int .i64 st, undef, .pointer (some ⟨w.heap.size, 0, none⟩), .pointer (some ⟨w.heap.size + 1, 0, none⟩), .pointer (some ⟨w0.heap.size, 0, none⟩), .pointer (some ⟨w0.heap.size + 1, 0, none⟩), .pointer (some ⟨w0.heap.size + 1 + 1, 0, none⟩), .pointer (some ⟨w0.heap.size + 1 + 1 + 1, 0, none⟩), .func (.func 15) #[] #[.pointer (some ⟨b1, 0, none⟩)], .func (.func 17) #[] #[.pointer (some ⟨cb2, 0, none⟩)], undef, undef, .int .i64 ((x.1.val : Nat) : Int), .int .i64 ((x.2.val : Nat) : Int), undef, undef, undef, .bool true, .bool false, .bool false, .slice aa na ca, .int .i64 (na : Int), .bool false, .bool false, undef, .int .i64 st, .int .u64 (IntKind.u64.wrap st), .int .u64 ((IntKind.u64.wrap st).tmod 40), .int .i64 (s : Int), .slice aa na ca, .func (.func 15) #[] #[.pointer (some ⟨b1, 0, none⟩)], .slice aa na ca, .func (.func 17) #[] #[.pointer (some ⟨cb2, 0, none⟩)], .func (.func 15) #[] #[.pointer (some ⟨b1, 0, none⟩)], undef, undef, undef, undef, undef, undef, undef, undef, undef, .func (.func 15) #[] #[.pointer (some ⟨b1, 0, none⟩)], undef, undef, undef, undef, undef, undef, undef, undef, .func (.func 17) #[] #[.pointer (some ⟨cb2, 0, none⟩)], .int .i64 ((x.1.val : Nat) : Int), .int .i64 ((x.2.val : Nat) : Int), undef, undef, undef, undef, undef, undef, undef, undef, undef, undef, undef, undef, undef, undef, undef, undef, undef, undef, undef, undef, undef, undef, undef, undef, undef, undef, undef, undef, undef, undef, undef, undef, undef, undef, undef, undef, undef, undef, undef, undef, undef, undef, undef, undef], defers := [] }) ?assign ?body ?done ?stop
      case assign =>
        intro l' x W' K hK
        gi_wp2
        exact hK
      case body =>
        rintro l' pre x Yc Wc ⟨vf, vc, hR, hC, hFC⟩ hlt hbb hlen
        have hsW := hR.bw
        have HN : Hid (fsts (prs (pre ++ [x])) = fsts (prs pre) ++ [((x.1.val : Nat) : Int)] ∧ snds (prs (pre ++ [x])) = snds (prs pre) ++ [((x.2.val : Nat) : Int)]) := Lib.hid (by rw [prs_snoc]; simp [fsts, snds])
        have hNL : (fsts (prs pre)).length = pre.length := by simp [fsts, prs]
        have hNC : (snds (prs pre)).length = pre.length := by simp [snds, prs]
        obtain ⟨va, vca, rfl⟩ := ownsRow_form2 hR.row
        obtain ⟨ua, uca, rfl⟩ := ownsRow_form2 hC.row
        have hp512 : pre.length ≤ 512 := by have := PL.out; omega
        have ht' : ¬ (512 : Int) < (pre.length : Int) := by omega
        generalize ((x.1.val : Nat) : Int) = y at *
        generalize ((x.2.val : Nat) : Int) = z at *
        generalize fsts (prs pre) = P at *
        generalize snds (prs pre) = P2 at *
        generalize pre.length = p at *
        subst hNL
        have hR0 := hR
        have hC0 := hC
        rw [hNC] at hC0 hFC
        have hc := hR.box.cell
        have hc2 := hC0.box.cell
        obtain ⟨hRb, hrr, hRy, hRyr⟩ := hR
        clear hRb hC
        have hdc : ∀ k, (Value.slice ua P.length uca).ownBlock = some k → ¬ (k = w0.heap.size + 1 + 1 ∨ (Value.slice va P.length vca).ownBlock = some k) := fun k e h => by
          rcases h with h | h
          · have := (hC0.row.lt k e).1; omega
          · exact hFC k h e
        have hdf : ∀ k, k < W2.heap.size → k ≠ w0.heap.size + 1 + 1 → ¬ (k = w0.heap.size + 1 + 1 ∨ (Value.slice va P.length vca).ownBlock = some k) := fun k hk hn h => by
          rcases h with h | h
          · exact hn h
          · have := (hR0.row.lt k h).1; omega
        gi_wp2_with (first | (gi_at_builtin; refine wpListIn_append_own_at _ rfl _ _ 25 rfl W2.heap.size 3 i0 (.int .i64 0) 1 8 Tryd.underlying25 Z.out.1 Z.out.2.1 Z.out.2.2.1 Z.out.2.2.2 rfl (by decide) _ _ _ rfl (hrr.alloc _) ⟨Wc.heap.size, 0, none⟩ 1 1 [.int .i64 y] rfl rfl (cell_one_new _ _ _) (by simp [Value.oneCell']) (by unfold maxLen; omega) (by omega) (by simp; omega) ?_; intro v' w1 hown' hgrow _ hat; obtain ⟨hv1, hv2, hv3, hv4, hv5⟩ := BoxRow.more hR0 hlt hown' hgrow hat (by omega); obtain ⟨va', vc', rfl⟩ := ownsRow_form2 hown'; have hc1 := hv1.cell; have hf1 := hv1.frozen; have hsz := Lib.hid (World.size_setCell w1 ⟨w0.heap.size + 1 + 1, 0, none⟩ (.slice va' (P.length + 1) vc')); have hmid : BoxRow W2.heap.size (w0.heap.size + 1 + 1 + 1) P2 (fun k => Yc k ∨ (Value.slice va' (P.length + 1) vc').ownBlock = some k) (w1.setCell ⟨w0.heap.size + 1 + 1, 0, none⟩ (.slice va' (P.length + 1) vc')) (.slice ua P.length uca) := ⟨Boxed.touchR hC0.box hv4 (hdf _ (by omega) (by omega)), own_touch hC0.row hv4 (fun k e => hdc k e), Or.inl hC0.yb, fun k e => Or.inl (hC0.yr k e), Nat.le_trans hC0.bw hv4.size⟩; have hcm := hmid.box.cell; have hcm1 := (cell_set_ne2 (W := w1) (B := w0.heap.size + 1 + 1) (v := .slice va' (P.length + 1) vc') (p := ⟨w0.heap.size + 1 + 1 + 1, 0, none⟩) (by simp)).symm.trans hcm) | (gi_at_builtin; generalize w1.setCell ⟨w0.heap.size + 1 + 1, 0, none⟩ (.slice va' (P.length + 1) vc') = Wm at *; have hmr := hmid.row; rw [hNC] at hmr; have hmb := hmid.bw; refine wpListIn_append_own_at _ rfl _ _ 25 rfl W2.heap.size 3 i0 (.int .i64 0) 1 8 Tryd.underlying25 Z.out.1 Z.out.2.1 Z.out.2.2.1 Z.out.2.2.2 rfl (by decide) _ _ _ rfl (hmr.alloc _) ⟨w1.heap.size, 0, none⟩ 1 1 [.int .i64 z] rfl rfl (cell_one_newN _ _ _ _ hsz.out) (by simp [Value.oneCell']) (by unfold maxLen; omega) (by omega) (by simp; omega) ?_; intro v2' w2 hown2 hgrow2 _ hat2; rw [← hNC] at hown2; obtain ⟨kv1, kv2, kv3, kv4, kv5⟩ := BoxRow.more hmid hv3.lt hown2 hgrow2 hat2 (by omega); rw [hNC] at hown2; obtain ⟨ua', uc', rfl⟩ := ownsRow_form2 hown2; have hc2 := kv1.cell; have hf2 := kv1.frozen))
        have hdd : ∀ k, (Value.slice va' (P.length + 1) vc').ownBlock = some k → ¬ (k = w0.heap.size + 1 + 1 + 1 ∨ (Value.slice ua P.length uca).ownBlock = some k) := fun k e h => by
          rcases h with h | h
          · have := (hv2.row.lt k e).1; omega
          · rcases hv5 k e with h2 | h2
            · exact hFC k h2 h
            · have := (hC0.row.lt k h).2; omega
        refine ⟨_, hv3.trans kv3, .slice va' (P.length + 1) vc', .slice ua' (P.length + 1) uc', ?_, by rw [HN.out.2]; exact kv2, fun k e1 e2 => ?_⟩
        · rw [HN.out.1]
          refine ⟨Boxed.touchR hv2.box kv4 ?_, own_touch hv2.row kv4 hdd, Or.inl hv2.yb, fun k e => Or.inl (hv2.yr k e), Nat.le_trans hv2.bw kv4.size⟩
          rintro (h | h)
          · omega
          · have := (hC0.row.lt _ h).1; omega
        · rcases kv5 k e2 with h | h
          · exact hdd k e1 (.inr h)
          · have := (hv2.row.lt k e1).2; omega
      case stop =>
        rintro D3 c pre W hD3 _ _ _ h _ _
        exact h.elim
      case done =>
        rintro D3 q3 Y3 W5 hD3 hYD3 hq3 ⟨vf, vc, hR3, hC3, hFC⟩ hWe3 hDK3
        gi_wp2_with fail
        have hT5 : Touch (fun k => k = w0.heap.size + 1 + 1 ∨ k = w0.heap.size + 1 + 1 + 1) W4 W5 := hWe3.touch
        have hs5 := hT5.size
        have hge : ∀ k, W2.heap.size ≤ k → ¬ (k = w0.heap.size + 1 + 1 ∨ k = w0.heap.size + 1 + 1 + 1) := fun k hk => by omega
        have u2 : Boxed W5 (w.heap.size + 1) 4 (.bool false) := Boxed.touchR G4.out.1 hT5 (by omega)
        have bW5 : Below w.heap.size w W5 := G4.out.2.1.trans (hT5.below (by have := G4.out.2.1.size; omega) (fun k hk => by omega))
        have uD : W5.heap[D]? = some (.deferred (some [])) := (hT5.block D (by omega) (by omega)).trans G4.out.2.2.1
        have uD2 : W5.heap[D2]? = some (.deferred (some [])) := (hT5.block D2 hD2lt (by omega)).trans G4.out.2.2.2.2.2.1
        have uso := BoxRow.touch G4.out.2.2.2.1 hT5 (by omega) hge
        have ust : Boxed W5 w.heap.size 3 (.int .i64 (s : Int)) := Boxed.touchR G4.out.2.2.2.2.1 hT5 (by omega)
        have ual := BoxRow.touch G4.out.2.2.2.2.2.2 hT5 (by omega) hge
        have hD3lt : D3 < W5.heap.size := (Array.getElem?_eq_some_iff.1 hDK3).1
        rw [HQ2.out] at ual
        rw [hq3] at hR3 hC3
        have lall := lst_of_own ual.row
        have lsome := lst_of_own uso.row
        have lfrom := lst_of_own hR3.row
        have lcount := lst_of_own hC3.row
        have q5 := ual.box
        have q6 := uso.box
        have q7 := hR3.box
        have q8 := hC3.box
        have HD := Lib.hid (And.intro uD (And.intro uD2 hDK3))
        clear uD uD2 hDK3 ual uso hR3 hC3 hFC hWe3 hT5 G4 HX3 hSq4 hq3
        refine ⟨trivial, ?_⟩
        refine (callsIn_wide.2 (RP.out W5 bW5)).mono ?_
        rintro e W6 ⟨pv, rfl, hpv, c6⟩
        have bW6 := bW5.trans (c6.mono bW5.size)
        have hs6 := c6.size
        gi_wp2_with fail
        refine ⟨trivial, ?_⟩
        refine (callsIn_wide.2 (RR.out W6 bW6)).mono ?_
        rintro e W7 ⟨fv, cv, rfl, hfv, hcv, c7⟩
        have bW7 := bW6.trans (c7.mono bW6.size)
        have hs7 := c7.size
        have lfv := lst_of_own hfv
        have lcv := lst_of_own hcv
        have l5 := (lall.below c6).below c7
        have l6 := (lsome.below c6).below c7
        have l7 := (lfrom.below c6).below c7
        have l8 := (lcount.below c6).below c7
        have hnq : (nums q).length = q.length := nums_len q
        obtain ⟨ap, cp, rfl, hcap, hsub⟩ := own_sub2 (row_below hpv c7) rfl hq.out
        have lpv : Lst .i64 W7 (.slice ap (plL l).length cp) (plL l) := (lst_of_own hpv).below c7
        rw [hnq] at hsub
        have t2 : Boxed W7 (w.heap.size + 1) 4 (.bool false) := Blk.grew (Blk.grew u2 c6) c7
        have t0 : Boxed W7 w.heap.size 3 (.int .i64 (s : Int)) := Blk.grew (Blk.grew ust c6) c7
        have t5 : Boxed W7 w0.heap.size 25 vall := Blk.grew (Blk.grew q5 c6) c7
        have t6 : Boxed W7 (w0.heap.size + 1) 25 v := Blk.grew (Blk.grew q6 c6) c7
        have t7 : Boxed W7 (w0.heap.size + 1 + 1) 25 vf := Blk.grew (Blk.grew q7 c6) c7
        have t8 : Boxed W7 (w0.heap.size + 1 + 1 + 1) 25 vc := Blk.grew (Blk.grew q8 c6) c7
        have k1 : W7.heap[D]? = some (.deferred (some [])) := (c7.block D (by omega)).trans ((c6.block D (by omega)).trans HD.out.1)
        have k2 : W7.heap[D2]? = some (.deferred (some [])) := (c7.block D2 (by omega)).trans ((c6.block D2 (by omega)).trans HD.out.2.1)
        have k3 : W7.heap[D3]? = some (.deferred (some [])) := (c7.block D3 (by omega)).trans ((c6.block D3 (by omega)).trans HD.out.2.2)
        have LH := Lib.hid (And.intro l5 (And.intro l6 (And.intro l7 (And.intro l8 (And.intro lpv (And.intro hsub (And.intro lfv (And.intro lcv t2))))))))
        have KH := Lib.hid (And.intro k1 (And.intro k2 (And.intro k3 bW7)))
        have hmin : min (s : Int) (((plL l).length : Nat) : Int) = ((q.length : Nat) : Int) := by have := hql.out; omega
        have hqL : ((q.length : Nat) : Int) ≤ (((plL l).length : Nat) : Int) := by have := hql.out; omega
        have hnc : ((q.length : Nat) : Int) ≤ ((cp : Nat) : Int) := by omega
        have h0n : (0 : Int) ≤ ((q.length : Nat) : Int) := by omega
        clear k1 k2 k3 bW7 l5 l6 l7 l8 lpv hsub lfv lcv lall lsome lfrom lcount hfv hcv hpv c6 c7 HD q5 q6 q7 q8 u2 ust bW5 bW6
        have b7 := KH.out.2.2.2.size
        generalize (plL l).length = L at *
        generalize q.length = n at *
        have d5 := t5.cell
        have d6 := t6.cell
        have d7 := t7.cell
        have d8 := t8.cell
        have d0 := t0.cell
        have d2 := t2.cell
        have g2' := t2.frozen
        have hbase : (W7.cell? ⟨w0.heap.size, 0, none⟩ = some vall ∧ W7.cell? ⟨w0.heap.size + 1, 0, none⟩ = some v ∧ W7.cell? ⟨w0.heap.size + 1 + 1, 0, none⟩ = some vf ∧ W7.cell? ⟨w0.heap.size + 1 + 1 + 1, 0, none⟩ = some vc ∧ W7.cell? ⟨w.heap.size, 0, none⟩ = some (.int .i64 (s : Int))) ∧ Touch (· = w.heap.size + 1) W7 W7 ∧ ∃ u, Boxed W7 (w.heap.size + 1) 4 (.bool u) := ⟨⟨d5, d6, d7, d8, d0⟩, Touch.refl _ _, false, t2⟩
        have hdrew : (W7.drew.cell? ⟨w0.heap.size, 0, none⟩ = some vall ∧ W7.drew.cell? ⟨w0.heap.size + 1, 0, none⟩ = some v ∧ W7.drew.cell? ⟨w0.heap.size + 1 + 1, 0, none⟩ = some vf ∧ W7.drew.cell? ⟨w0.heap.size + 1 + 1 + 1, 0, none⟩ = some vc ∧ W7.drew.cell? ⟨w.heap.size, 0, none⟩ = some (.int .i64 (s : Int))) ∧ Touch (· = w.heap.size + 1) W7 W7.drew ∧ ∃ u, Boxed W7.drew (w.heap.size + 1) 4 (.bool u) := ⟨⟨d5, d6, d7, d8, d0⟩, (Touch.refl _ _).drew, false, t2⟩
        have m5 : (⟨w0.heap.size, 0, none⟩ : Addr).block ≠ w.heap.size + 1 := by simp; omega
        have m6 : (⟨w0.heap.size + 1, 0, none⟩ : Addr).block ≠ w.heap.size + 1 := by simp; omega
        have m7 : (⟨w0.heap.size + 1 + 1, 0, none⟩ : Addr).block ≠ w.heap.size + 1 := by simp; omega
        have m8 : (⟨w0.heap.size + 1 + 1 + 1, 0, none⟩ : Addr).block ≠ w.heap.size + 1 := by simp; omega
        have m0 : (⟨w.heap.size, 0, none⟩ : Addr).block ≠ w.heap.size + 1 := by simp
        gi_wp2_with fail
        refine wpIn_wide.2 ?_
        go_wp2_with fail
        go_region_held3 (fun w' => (w'.cell? ⟨w0.heap.size, 0, none⟩ = some vall ∧ w'.cell? ⟨w0.heap.size + 1, 0, none⟩ = some v ∧ w'.cell? ⟨w0.heap.size + 1 + 1, 0, none⟩ = some vf ∧ w'.cell? ⟨w0.heap.size + 1 + 1 + 1, 0, none⟩ = some vc ∧ w'.cell? ⟨w.heap.size, 0, none⟩ = some (.int .i64 (s : Int))) ∧ Touch (· = w.heap.size + 1) W7 w' ∧ ∃ u, Boxed w' (w.heap.size + 1) 4 (.bool u))
          (first | with_reducible assumption | with_reducible exact hbase | with_reducible exact hdrew | with_reducible exact skeep (by assumption) hq4 | with_reducible exact skeep (by assumption) hq5.below | with_reducible exact skeep (by assumption) hq6.below | with_reducible exact skeep (by assumption) hq7.below | with_reducible exact skeep (by assumption) hq8.below | with_reducible exact sset (by assumption) m5 m6 m7 m8 m0)
          (first | (go_at_call 4; refine (MY.out _ (sbel (by assumption) KH.out.2.2.2 (by omega) b7)).mono ?_; rintro e w4 ⟨rfl, hq4⟩) | (go_at_call 9; with_reducible refine (ints_any vall _ _ _ (slst (by assumption) LH.out.1 t2) (slst (by assumption) LH.out.2.2.2.2.1 t2)).mono ?_; rintro e w5 ⟨rfl, hq5⟩) | (go_at_call 9; with_reducible refine (ints_any v _ _ _ (slst (by assumption) LH.out.2.1 t2) (slst (by assumption) LH.out.2.2.2.2.2.1 t2)).mono ?_; rintro e w6 ⟨rfl, hq6⟩) | (go_at_call 9; with_reducible refine (ints_any vf _ _ _ (slst (by assumption) LH.out.2.2.1 t2) (slst (by assumption) LH.out.2.2.2.2.2.2.1 t2)).mono ?_; rintro e w7' ⟨rfl, hq7⟩) | (go_at_call 9; with_reducible refine (ints_any vc _ _ _ (slst (by assumption) LH.out.2.2.2.1 t2) (slst (by assumption) LH.out.2.2.2.2.2.2.2.1 t2)).mono ?_; rintro e w8 ⟨rfl, hq8⟩; have tt8 := skeep (by assumption) hq8.below; obtain ⟨uu8, hu8⟩ := tt8.2.2; have c18 := hu8.cell; have f18 := hu8.frozen))
        have hbT := Boxed.set (.bool true) hu8
        have tT : Touch (· = w.heap.size + 1) W7 (w8.setCell ⟨w.heap.size + 1, 0, none⟩ (.bool true)) := tt8.2.1.setCell rfl _
        generalize w8.setCell ⟨w.heap.size + 1, 0, none⟩ (.bool true) = WF at *
        gi_wp2
        have kk1 : WF.heap[D]? = some (.deferred (some [])) := (tT.block D (by omega) (by omega)).trans KH.out.1
        have kk2 : WF.heap[D2]? = some (.deferred (some [])) := (tT.block D2 (by omega) (by omega)).trans KH.out.2.1
        have kk3 : WF.heap[D3]? = some (.deferred (some [])) := (tT.block D3 (by omega) (by omega)).trans KH.out.2.2.1
        have hWF : Below w.heap.size w WF := KH.out.2.2.2.trans (tT.below b7 (fun k hk => by omega))
        refine leaves_marks2 (.bool true) [D3, D2, D] WF ?_ ?_ ?_
        · simp; omega
        · intro x hx
          simp at hx
          rcases hx with rfl | rfl | rfl <;> assumption
        · intro w' ht'
          have hbF : w'.cell? ⟨w.heap.size + 1, 0, none⟩ = some (.bool true) := Boxed.cell (t := 4) (Boxed.touchR hbT ht' (by simp; omega))
          refine ⟨?_, rfl, hWF.trans (ht'.below hWF.size (fun k hk => ?_))⟩
          · simp [results, Tryd.f3, go_sem, hbF]
          · simp at hk
            omega
  clear hK
  have hX1 : ∀ k, (k = w0.heap.size + 1 ∨ k = w.heap.size) → k < W2.heap.size := fun k hk => by omega
  have hZ1 : ∀ k, (k = 0 ∨ (0 < l.length ∧ k = g1)) → ¬ (k = w0.heap.size + 1 ∨ k = w.heap.size) := fun k hk e => by
    have := (TA.out w (Below.refl _ _)).lt
    rcases hk with h | ⟨_, h⟩ <;> omega
  have hZ2 : ∀ k, (k = 0 ∨ (0 < l.length ∧ k = g1)) → k < W2.heap.size := fun k hk => by
    have := (TA.out w (Below.refl _ _)).lt
    rcases hk with h | ⟨h0, h⟩
    · omega
    · have := (F.out.2.2.2.2.2.2.2.1 h0).2.1; omega
  have hI1 : Wk1I W2.heap.size (w0.heap.size + 1) w.heap.size s [] (fun k => k = w0.heap.size + 1 ∨ k = w.heap.size) W2 :=
    ⟨.slice none 0 0, ⟨F.out.2.2.2.1, World.ownsRow_nil _ _ _ _, .inl rfl, fun k e => by simp [Value.ownBlock] at e, Nat.le_refl _⟩, F.out.1, .inr rfl, Nat.zero_le _⟩
  have hSq := Lib.hid (all_x b1 g1 cap1 a1 l W2 (by have := UA.out.2; omega) UA.out.1 (TA.out W2 F.out.2.2.2.2.2.2.2.2.2.2.2) F.out.2.2.2.2.2.2.1 F.out.2.2.2.2.2.2.2.1)
  refine range_X (gf := 15) (lb := #[.pointer (some ⟨b1, 0, none⟩)]) rfl (enters_of Tryd.func15 (by kernel_rfl) rfl) hSq.out (Below.refl _ _) (fun _ => rfl) (Wk1I W2.heap.size (w0.heap.size + 1) w.heap.size s) (Wk1X W2.heap.size (w0.heap.size + 1) w.heap.size s) _ hX1 hZ1 hZ2 (wk1I_foot _ _ _ _) (fun c => wk1X_foot _ _ _ _ c) hI1
    (fun x => { tmps := #[.slice aa na ca, .int .i64 st, undef, .pointer (some ⟨w.heap.size, 0, none⟩), .pointer (some ⟨w.heap.size + 1, 0, none⟩), .pointer (some ⟨w0.heap.size, 0, none⟩), .pointer (some ⟨w0.heap.size + 1, 0, none⟩), .pointer (some ⟨w0.heap.size + 1 + 1, 0, none⟩), .pointer (some ⟨w0.heap.size + 1 + 1 + 1, 0, none⟩), .func (.func 15) #[] #[.pointer (some ⟨b1, 0, none⟩)], .func (.func 17) #[] #[.pointer (some ⟨cb2, 0, none⟩)], .int .i64 ((x.val : Nat) : Int), undef, undef, undef, undef, undef, undef, .bool true, .bool false, .bool false, .slice aa na ca, .int .i64 (na : Int), .bool false, .bool false, undef, .int .i64 st, .int .u64 (IntKind.u64.wrap st), .int .u64 ((IntKind.u64.wrap st).tmod 40), .int .i64 (s : Int), .slice aa na ca, .func (.func 15) #[] #[.pointer (some ⟨b1, 0, none⟩)], .slice aa na ca, .func (.func 17) #[] #[.pointer (some ⟨cb2, 0, none⟩)], .func (.func 15) #[] #[.pointer (some ⟨b1, 0, none⟩)], .int .i64 ((x.val : Nat) : Int), undef, undef, undef, undef, undef, undef, undef, undef, undef, undef, undef, undef, undef, undef, undef, undef, undef, undef, undef, undef, undef, undef, undef, undef, undef, undef, undef, undef, undef, undef, undef, undef, undef, undef, undef, undef, undef, undef, undef, undef, undef, undef, undef, undef, undef, undef, undef, undef, undef, undef, undef, undef, undef, undef, undef, undef, undef, undef, undef, undef, undef, undef, undef, undef], defers := [] }) ?assign ?body ?done ?stop
  case assign =>
    intro l' x W' K hK
    gi_wp2
    exact hK
  case body =>
    rintro l' pre x Yc Wc ⟨v, hR, hSx, hYS, hle⟩ hlt hbb hlen
    have hsW := hR.bw
    have hNL := nums_len pre
    obtain ⟨va, vc, rfl⟩ := ownsRow_form2 hR.row
    have hc := hR.box.cell
    have hsc := hSx.cell
    have HN := Lib.hid (nums_snoc pre x)
    have HX : Hid (nums ((pre ++ [x]).take ((pre ++ [x]).length - 1)) = nums pre ∧ (pre ++ [x]).length = pre.length + 1) := Lib.hid (by constructor <;> simp)
    have hp40 := HS.out.2
    rw [hNL] at hc
    have hR0 := hR
    by_cases ht : pre.length < s
    · have ht' : ¬ (s : Int) ≤ (pre.length : Int) := by omega
      generalize ((x.val : Nat) : Int) = y at *
      generalize hpp : nums pre = P at *
      obtain ⟨hRb, hRr, hRy, hRyr⟩ := hR
      rw [hNL] at hRr
      have hrr := hRr
      generalize pre.length = p at *
      clear hRb hle
      subst hNL
      gi_wp2_with (gi_at_builtin; go_loud (refine wpListIn_append_own_at _ rfl _ _ 25 rfl W2.heap.size 3 i0 (.int .i64 0) 1 8 Tryd.underlying25 Z.out.1 Z.out.2.1 Z.out.2.2.1 Z.out.2.2.2 rfl (by decide) _ _ _ rfl (hrr.alloc _) ⟨Wc.heap.size, 0, none⟩ 1 1 [.int .i64 y] rfl rfl (cell_one_new _ _ _) (by simp [Value.oneCell']) (by unfold maxLen; omega) (by omega) (by simp; omega) ?_; intro v' w1 hown' hgrow _ hat; obtain ⟨hv1, hv2, hv3, hv4, hv5⟩ := BoxRow.more hR0 hlt hown' hgrow hat (by omega); obtain ⟨va', vc', rfl⟩ := ownsRow_form2 hown'; have hc1 := hv1.cell; have hf1 := hv1.frozen))
      refine ⟨_, hv3, _, by rw [HN.out]; exact hv2, ?_, Or.inl hYS, by rw [HX.out.2]; omega⟩
      exact Boxed.touchR hSx hv4 (fun e => e.elim (fun e => by omega) (fun e => by have := (hrr.lt _ e).1; omega))
    · have ht' : (s : Int) ≤ (pre.length : Int) := by omega
      have G : ∃ Y', Went Yc Wc Y' Wc ∧ Wk1X W2.heap.size (w0.heap.size + 1) w.heap.size s (.exit 0) (pre ++ [x]) Y' Wc :=
        ⟨Yc, Went.refl hlt, rfl, by rw [HX.out.2]; omega, _, by rw [HX.out.1]; exact hR, hSx, hYS⟩
      have HG := Lib.hid G
      clear G hR hSx hR0 HX HN hNL
      generalize ((x.val : Nat) : Int) = y at *
      gi_wp2
      exact HG.out
  case done =>
    rintro D q Y W hD hYD hq ⟨v, hR, hSx, hYS, hle⟩ hWe hDk
    gi_wp2_with fail
    refine KF D q v Y W hD hDk (Lib.hid (by rw [hq]; exact List.prefix_refl _)) (Lib.hid ?_) hR hSx hWe.touch
    have := congrArg List.length hq
    rw [nums_len] at this
    omega
  case stop =>
    rintro D c pre Y W hD hYD hq ⟨rfl, hls, v, hR, hSx, hYS⟩ hWe hDk
    gi_wp2_with fail
    refine KF D _ v Y W hD hDk (Lib.hid ?_) (Lib.hid ?_) hR hSx hWe.touch
    · rw [nums_take]
      exact List.IsPrefix.trans (List.take_prefix _ _) hq
    · have := hq.length_le
      rw [nums_len] at this
      rw [List.length_take]
      omega
set_option maxRecDepth 100000 in
set_option maxHeartbeats 1000000 in
theorem walks_law (a0 : Option Addr) (n0 c0 : Nat) (z0 : List Int) (st : Int) (w : World) (h0 : IsRow .u64 w a0 n0 c0 z0) (h1 : (Lit.int .i64 st).wf = true) (hT : Tab w) :
    Calls Tryd.prog 3 #[.slice a0 n0 c0, .int .i64 st] w fun e w' => e = .returned (.bool true) ∧ Below w.heap.size w w' := by
  by_cases k0 : n0 ≤ 8
  · exact walks_walk n0 c0 a0 st _ w (row_all h0 k0).1 k0 (row_all h0 k0).2 hT
  · have k0' : (8 : Int) < (n0 : Int) := by omega
    have MY := Lib.hid (fun W (h : Below w.heap.size w W) => masked_yes W (hT.grew h))
    clear h0 h1 hT k0
    go_enter Tryd.func3, Tryd.ntmps3
    go_wp2_with fail
    have x2 : Boxed ((w.alloc (.cells #[.int .i64 st] 3)).alloc (.cells #[.bool false] 4)) (w.heap.size + 1) 4 (.bool false) := Blk.new' (by simp)
    have xb : Below w.heap.size w ((w.alloc (.cells #[.int .i64 st] 3)).alloc (.cells #[.bool false] 4)) := ((Below.refl _ w).alloc (Nat.le_refl _) _).alloc (by simp) _
    generalize (w.alloc (.cells #[.int .i64 st] 3)).alloc (.cells #[.bool false] 4) = wa at *
    refine (MY.out _ xb).mono ?_
    rintro e w0 ⟨rfl, c0'⟩
    have y2 : Boxed w0 (w.heap.size + 1) 4 (.bool false) := Blk.grew x2 c0'
    have b0 := xb.trans (c0'.mono xb.size)
    go_wp2_with fail
    refine (MY.out w0 b0).mono ?_
    rintro e w1 ⟨rfl, b1⟩
    have y3 := Blk.grew y2 b1
    have y4 := Boxed.cell y3
    have y5 := Boxed.frozen y3
    have b2 := b0.trans (b1.mono b0.size)
    go_wp2
    have hc5 := World.cell?_setCell_same' w1 ⟨w.heap.size + 1, 0, none⟩ (.bool true) (by rw [y4]; rfl)
    refine bodyPost_ret (v := .bool true) ?_ rfl ⟨rfl, b2.setCell (p := ⟨w.heap.size + 1, 0, none⟩) (by simp) _⟩
    simp [results, Tryd.f3, go_sem, hc5]
end Go.Proofs.YtbpgnhakphpobaaDoor
