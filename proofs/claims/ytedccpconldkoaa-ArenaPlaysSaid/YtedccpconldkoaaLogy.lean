/- arena.Log, and what logged of the document tells: the accesses that were kept. Condition: at most 200 were kept. -/
import Derived.Test.YtedccpconldkoaaLog
import Derived.Test.YtedccpconldkoaaOps
namespace Go.Proofs.Ytedccpconldkoaa
open Go.RowKit Go.Shelf
set_option linter.unusedVariables false
attribute [local go_sem] Oper.semAt_some

set_option maxHeartbeats 1000000 in
theorem log_any (a c : Nat) (cs : List Int) (keep : Bool) (bp : Option Addr) (m cp : Nat) (n f : Int) (w : World) (hA : ArenaAt w a c cs keep (.slice bp m cp) n f) :
    Calls Try.prog 27 #[.pointer (some ⟨a, 0, none⟩)] w fun e w' => e = .returned (.func (.func 32) #[] #[.pointer (some ⟨w.heap.size, 0, none⟩)]) ∧ Boxed w' w.heap.size 31 (.slice bp m cp) ∧ Below w.heap.size w w' ∧ w'.heap.size = w.heap.size + 1 := by
  have hc2 : w.cell? ⟨a, 2, none⟩ = some (.slice bp m cp) := hA.own.val 2 rfl
  have hlt := hA.own.lt
  clear hA
  go_enter Try.func27, Try.ntmps27
  go_wp2
  go_ret
  exact ⟨rfl, Blk.new _ _ _, (Below.refl _ w).alloc (Nat.le_refl _) _, by simp⟩

/-- the accesses' words, one behind the other -/
def flat (F : Nat → Nat → Int) (l : List Nat) : List Value := l.flatMap fun i => (accA F i).toList
theorem flat_snoc (F : Nat → Nat → Int) (l : List Nat) (i : Nat) : flat F (l ++ [i]) = flat F l ++ [.int .i64 (F i 0), .int .i64 (F i 1), .int .i64 (F i 2), .int .u64 (F i 3), .int .u64 (F i 4), .int .u64 (F i 5), .int .u64 (F i 6)] := by simp [flat]
def okB (l : List Nat) : Bool := decide (l = List.range l.length)
theorem okB_snoc (l : List Nat) (i : Nat) : okB (l ++ [i]) = (okB l && decide ((i : Int) = (l.length : Int))) := by
  unfold okB
  rw [List.length_append, List.length_singleton, List.range_succ]
  by_cases h1 : l = List.range l.length
  · by_cases h2 : i = l.length
    · subst h2; rw [← h1]; simp
    · have : ¬ ((i : Int) = (l.length : Int)) := by omega
      simp only [this, decide_false, Bool.and_false, decide_eq_false_iff_not]
      intro h
      have := List.append_inj_right' h rfl
      simp at this
      omega
  · simp only [h1, decide_false, Bool.false_and, decide_eq_false_iff_not]
    intro h
    exact h1 (List.append_inj_left' h rfl)

theorem ownsRow_low {W : World} {base base' : Nat} {e : TypeId} {size : Nat} {v : Value} {k : Nat} {xs : List Value} (h : W.ownsRow base e size v k xs) (hb : base' ≤ base) : W.ownsRow base' e size v k xs := by
  refine ⟨h.1, ?_⟩
  rcases h.2 with h1 | ⟨g, cap, cur, h1, h2, h3⟩
  · exact .inl h1
  · exact .inr ⟨g, cap, cur, h1, Nat.le_trans hb h2, h3⟩
theorem ownFrom_touch {β : Type} {R : Nat → Prop} {B : Nat} {W0 : World} (hB : W0.heap.size ≤ B) : OwnFrom B (fun (_ : β) W => Touch R W0 W) :=
  fun s W W' row h hg hr => h.grown hg (fun k hk => .inr (Nat.le_trans hB (hr k hk).1))
theorem blk_own_from {β : Type} (B : Nat) (P : Nat → Prop) (a : Act) (fa : Nat → Act) (cs : Array Value) (t : TypeId := 69) : OwnFrom B (fun (_ : β) W => ∃ xb, P xb ∧ a = fa xb ∧ Blk W xb cs t) :=
  fun s W W' row ⟨xb, h1, h2, h3⟩ hg hr => ⟨xb, h1, h2, (hg.block xb h3.lt (fun e' => by obtain ⟨_, o, ho, hc⟩ := hr xb e'.symm; rw [show W.heap[xb]? = _ from h3] at ho; cases ho; cases hc)).trans h3⟩
theorem row_form {W : World} {base n : Nat} {e : TypeId} {v : Value} {k : Nat} {xs : List Value} (h : W.ownsRow base e n v k xs) : ∃ a c, v = .slice a k c := by
  rcases h.2 with ⟨h1, h2⟩ | ⟨g, cap, cur, h1, _⟩
  · exact ⟨none, 0, by rw [h1, h2]⟩
  · exact ⟨_, cap, h1⟩

theorem flat_get (F : Nat → Nat → Int) : ∀ (m i j : Nat), i < m → j < 7 → (flat F (List.range m))[i * 7 + j]? = (accA F i)[j]?
  | 0, i, j, h, _ => by omega
  | m + 1, i, j, h, hj => by
    have hl : ∀ m, (flat F (List.range m)).length = m * 7 := by
      intro m
      induction m with
      | zero => rfl
      | succ m ih => rw [List.range_succ, flat_snoc, List.length_append, ih]; simp; omega
    rw [List.range_succ, flat_snoc]
    by_cases hi : i < m
    · rw [List.getElem?_append_left (by rw [hl]; omega)]
      exact flat_get F m i j hi hj
    · obtain rfl : i = m := by omega
      rw [List.getElem?_append_right (by rw [hl]; omega), hl, show i * 7 + j - i * 7 = j by omega]
      match j, hj with
      | 0, _ => rfl
      | 1, _ => rfl
      | 2, _ => rfl
      | 3, _ => rfl
      | 4, _ => rfl
      | 5, _ => rfl
      | 6, _ => rfl
theorem logrow {w : World} {B m cp : Nat} {bp : Option Addr} {F : Nat → Nat → Int} (h : w.ownsRow B 69 7 (.slice bp m cp) m (flat F (List.range m))) (h0 : 0 < m) : ∃ b, bp = some ⟨b, 0, none⟩ ∧ b < w.heap.size ∧ LogRow w b m F := by
  rcases h.2 with ⟨h1, h2⟩ | ⟨g, cap, cur, h1, h2, h3, h4⟩
  · omega
  · simp only [Value.slice.injEq, true_and] at h1
    obtain ⟨rfl, rfl⟩ := h1
    refine ⟨g, rfl, (Array.getElem?_eq_some_iff.1 h3).1, ⟨fun i hi => ?_⟩⟩
    have hc := fun j (hj : j < 7) v (e : (accA F i)[j]? = some v) => h.cells (g := g) rfl (i * 7 + j) v ((flat_get F m i j hi hj).trans e)
    have ha : ∀ k, (⟨g, 0, none⟩ : Addr).add k = ⟨g, k, none⟩ := fun k => by unfold Addr.add; split <;> simp_all
    simp only [ha] at hc
    exact ⟨hc 0 (by omega) _ rfl, hc 1 (by omega) _ rfl, hc 2 (by omega) _ rfl, hc 3 (by omega) _ rfl, hc 4 (by omega) _ rfl, hc 5 (by omega) _ rfl, hc 6 (by omega) _ rfl⟩

theorem new_cells (W : World) (l : List Value) (t : TypeId) (b : Nat) (hb : b = W.heap.size) (j : Nat) (u : Value) (h : l[j]? = some u) : (W.alloc (.cells l.toArray t)).cell? ((⟨b, 0, none⟩ : Addr).add j) = some u := by
  subst hb
  have e1 : (⟨W.heap.size, 0, none⟩ : Addr).add j = ⟨W.heap.size, j, none⟩ := by unfold Addr.add; split <;> simp_all
  rw [e1, Blk.cell (cs := l.toArray) (t := t) (Blk.new W _ _)]
  simpa using h
/-- an element more, the slice in its box -/
theorem appended_touch7 {W w1 : World} {base B : Nat} {t e : TypeId} {v v' : Value} {k m : Nat} {xs ys : List Value} {tmp : Obj} {R : Nat → Prop} (hR : R B) (hv : Boxed W B t v) (hte : t ≠ e) (hrow : W.ownsRow base e 7 v k xs) (hown' : w1.ownsRow base e 7 v' m ys) (hgrow : (W.alloc tmp).grownBy w1 v.ownBlock) :
    Boxed w1 B t v ∧ Boxed (w1.setCell ⟨B, 0, none⟩ v') B t v' ∧ (w1.setCell ⟨B, 0, none⟩ v').ownsRow base e 7 v' m ys ∧ KeepsOthers W (w1.setCell ⟨B, 0, none⟩ v') ∧
    (∀ W0, Touch R W0 W → W0.heap.size ≤ base → Touch R W0 (w1.setCell ⟨B, 0, none⟩ v')) ∧
    (∀ n, n ≤ base → n ≤ W.heap.size → n ≤ B → Below n W (w1.setCell ⟨B, 0, none⟩ v')) := by
  obtain ⟨h1, h2, h3, h4, h5⟩ := hv.appended hte (ownsRow_low hrow (Nat.zero_le _)) (Nat.zero_le _) (Nat.zero_le _) (ownsRow_low hown' (Nat.zero_le _)) hgrow
  refine ⟨h1, h2, hown'.kept (grownBy_setCell' w1 B v') (.inr (h1.not_row hte hown').symm), h4, fun W0 ht hb => ?_, fun n h1 h2 h3 => (hv.appended hte (ownsRow_low hrow h1) h2 h3 (ownsRow_low hown' h1) hgrow).2.2.2.2⟩
  have ht2 := (ht.alloc tmp).grown hgrow (fun k hk => .inr (Nat.le_trans hb (hrow.lt k hk).1))
  exact ht2.setCell hR _

set_option maxRecDepth 100000 in
set_option maxHeartbeats 4000000 in
theorem logged_gen (B a c : Nat) (cs : List Int) (keep : Bool) (lv : Value) (m : Nat) (nn f : Int) (F : Nat → Nat → Int) (w : World) (hAt : ArenaAt w a c cs keep lv nn f) (hOwn : w.ownsRow B 69 7 lv m (flat F (List.range m))) (hm : m ≤ 200) :
    Calls Try.prog 11 #[.pointer (some ⟨a, 0, none⟩)] w fun e w' => ∃ v, e = .returned (.tuple #[v, .bool true]) ∧ w'.ownsRow w.heap.size 69 7 v m (flat F (List.range m)) ∧ Below w.heap.size w w' := by
  obtain ⟨bp, cp, hlv⟩ := row_form hOwn
  subst hlv
  have LG := Lib.hid (fun W (h : Below w.heap.size w W) => log_any a c cs keep bp m cp nn f W (hAt.grew h))
  have hrow : 0 < m → ∃ b, bp = some ⟨b, 0, none⟩ ∧ b < w.heap.size ∧ LogRow w b m F := fun h => logrow hOwn h
  obtain ⟨b, hrow⟩ : ∃ b, 0 < m → bp = some ⟨b, 0, none⟩ ∧ b < w.heap.size ∧ LogRow w b m F := by
    by_cases h : 0 < m
    · obtain ⟨b, hb⟩ := hrow h
      exact ⟨b, fun _ => hb⟩
    · exact ⟨0, fun h' => absurd h' h⟩
  have hrow := Lib.hid hrow
  clear hAt hOwn
  obtain ⟨i0, hi, hz0, hz1, hz2⟩ := info_parts info_acc
  refine (callsIn_wide (n := 9)).1 ?_
  refine callsIn_of_wp_marks Try.func11 rfl trivial ?_ rfl
  simp only [Try.ntmps11, List.size_toArray, List.length_cons, List.length_nil, Nat.reduceAdd, Nat.reduceSub, Array.replicate_succ, Array.replicate_zero, List.push_toArray, List.append_toArray, List.nil_append, List.cons_append]
  gi_wp2_with fail
  refine ⟨trivial, ?_⟩
  have a0 : Boxed ((((w.alloc (.cells #[.slice none 0 0] 31)).alloc (.cells #[.bool false] 4)).alloc (.cells #[.slice none 0 0] 31)).alloc (.cells #[.bool true] 4)) w.heap.size 31 (.slice none 0 0) := (((Blk.new w _ _).alloc _).alloc _).alloc _
  have a1 : Boxed ((((w.alloc (.cells #[.slice none 0 0] 31)).alloc (.cells #[.bool false] 4)).alloc (.cells #[.slice none 0 0] 31)).alloc (.cells #[.bool true] 4)) (w.heap.size + 1) 4 (.bool false) := ((Blk.new' (by simp)).alloc _).alloc _
  have a2 : Boxed ((((w.alloc (.cells #[.slice none 0 0] 31)).alloc (.cells #[.bool false] 4)).alloc (.cells #[.slice none 0 0] 31)).alloc (.cells #[.bool true] 4)) (w.heap.size + 1 + 1) 31 (.slice none 0 0) := (Blk.new' (by simp)).alloc _
  have a3 : Boxed ((((w.alloc (.cells #[.slice none 0 0] 31)).alloc (.cells #[.bool false] 4)).alloc (.cells #[.slice none 0 0] 31)).alloc (.cells #[.bool true] 4)) (w.heap.size + 1 + 1 + 1) 4 (.bool true) := Blk.new' (by simp)
  have hB0 : Below w.heap.size w ((((w.alloc (.cells #[.slice none 0 0] 31)).alloc (.cells #[.bool false] 4)).alloc (.cells #[.slice none 0 0] 31)).alloc (.cells #[.bool true] 4)) := ((((Below.refl _ w).alloc (Nat.le_refl _) _).alloc (by simp) _).alloc (by simp; omega) _).alloc (by simp; omega) _
  have hsz : ((((w.alloc (.cells #[.slice none 0 0] 31)).alloc (.cells #[.bool false] 4)).alloc (.cells #[.slice none 0 0] 31)).alloc (.cells #[.bool true] 4)).heap.size = w.heap.size + 4 := by simp
  generalize ((((w.alloc (.cells #[.slice none 0 0] 31)).alloc (.cells #[.bool false] 4)).alloc (.cells #[.slice none 0 0] 31)).alloc (.cells #[.bool true] 4)) = Wa at *
  refine (callsIn_wide.2 (LG.out _ hB0)).mono ?_
  rintro e W0 ⟨rfl, b4, hbl, hsz0⟩
  have b0 : Boxed W0 w.heap.size 31 (.slice none 0 0) := Blk.grew a0 hbl
  have b1 : Boxed W0 (w.heap.size + 1) 4 (.bool false) := Blk.grew a1 hbl
  have b2 : Boxed W0 (w.heap.size + 2) 31 (.slice none 0 0) := Blk.grew a2 hbl
  have b3 : Boxed W0 (w.heap.size + 3) 4 (.bool true) := Blk.grew a3 hbl
  have hBW : Below w.heap.size w W0 := hB0.trans (hbl.mono (by omega))
  have hs0 : W0.heap.size = w.heap.size + 5 := by omega
  rw [hsz] at b4
  rw [hsz]
  clear a0 a1 a2 a3 hB0 hbl hsz hsz0 LG
  gi_wp2_with fail
  refine wpIn_rangeFunc_ownH rfl (by omega) (gf := 32) (lb := #[.pointer (some ⟨w.heap.size + 4, 0, none⟩)]) rfl trivial (enters_of Try.func32 (by kernel_rfl) rfl)
    (log_stops 8 (by omega) (w.heap.size + 4) w.heap.size b m cp bp F W0 (by omega) (by omega) (fun h => by obtain ⟨h1, h2, h3⟩ := hrow.out h; exact ⟨h1, h2, h3.below hBW h2⟩) (by omega) b4.cell) belowK_t (belowK_b (by omega)) (Below.refl _ _) (fun _ => rfl)
    (fun pre W => ((∃ v, Boxed W (w.heap.size + 2) 31 v ∧ W.ownsRow W0.heap.size 69 7 v pre.length (flat F pre) ∧ True) ∧ Boxed W (w.heap.size + 3) 4 (.bool (okB pre))) ∧ Touch (fun x => x = w.heap.size + 2 ∨ x = w.heap.size + 3) W0 W)
    (fun _ _ _ => False)
    (OwnFrom.and (OwnFrom.and (Own.from (holdsRow_own W0.heap.size (w.heap.size + 2) 31 69 7 (fun pre : List Nat => pre.length) (fun pre : List Nat => flat F pre) (fun _ _ => True)) _) (Own.from (boxed_own (w.heap.size + 3) 4 (fun pre : List Nat => .bool (okB pre))) _)) (ownFrom_touch (Nat.le_refl _)))
    (fun _ _ _ _ _ hs _ _ => hs)
    ⟨⟨⟨_, b2, World.ownsRow_nil _ _ _ _, trivial⟩, b3⟩, Touch.refl _ _⟩
    (fun i a' W => ∃ xb, W0.heap.size ≤ xb ∧ a' = { tmps := #[.pointer (some ⟨a, 0, none⟩), undef, .pointer (some ⟨w.heap.size, 0, none⟩), .pointer (some ⟨w.heap.size + 1, 0, none⟩), .pointer (some ⟨w.heap.size + 2, 0, none⟩), .pointer (some ⟨w.heap.size + 3, 0, none⟩), .int .i64 ((i : Nat) : Int), .pointer (some ⟨xb, 0, none⟩), .pointer (some ⟨a, 0, none⟩), .func (.func 32) #[] #[.pointer (some ⟨w.heap.size + 4, 0, none⟩)], .int .i64 ((i : Nat) : Int), .agg (accA F i), undef, undef, undef, undef, undef, undef, undef, undef, undef, undef, undef, undef, undef, undef, undef, undef, undef], defers := [] } ∧ Blk W xb (accA F i) 69)
    (fun x a' => blk_own_from _ (fun xb => W0.heap.size ≤ xb) a' _ _) ?assign ?body ?done ?stop
  case assign =>
    rintro l pre i W K ⟨⟨⟨v, hv, hr, _⟩, hk⟩, ht⟩ hK
    have hX : Blk (W.alloc (.cells (accA F i) 69)) W.heap.size (accA F i) 69 := Blk.new _ _ _
    have hK2 := hK _ (W.alloc (.cells (accA F i) 69)) ((KeepsOthers.alloc W _).from _) ((Below.refl _ W).alloc (by have := ht.size; omega) _) ⟨⟨⟨v, hv.alloc _, hr.alloc _, trivial⟩, hk.alloc _⟩, ht.alloc _⟩ ⟨W.heap.size, ht.size, rfl, hX⟩
    clear hK hX
    gi_wp2
    exact hK2
  case body =>
    rintro l pre i a' W _ _ ⟨⟨⟨v, hv, hr, _⟩, hk⟩, ht⟩ ⟨xb, hxb, rfl, hX⟩ hlt
    have hsW := ht.size
    have HF := Lib.hid (flat_snoc F pre i)
    have HO := Lib.hid (okB_snoc pre i)
    have HL : Hid ((pre ++ [i]).length = pre.length + 1) := by unfold Hid; simp
    generalize okB pre = ok at *
    obtain ⟨a1, k1, hveq⟩ := row_form hr
    subst hveq
    have hc := hv.cell
    have hkc := hk.cell
    have hkf := hk.frozen
    generalize hp : pre.length = p at *
    have h200 : ¬ (200 : Int) < (p : Int) := by omega
    dsimp only [accA] at hX
    generalize F i 0 = q0 at *
    generalize F i 1 = q1 at *
    generalize F i 2 = q2 at *
    generalize F i 3 = q3 at *
    generalize F i 4 = q4 at *
    generalize F i 5 = q5 at *
    generalize F i 6 = q6 at *
    have hk' : ∀ u, Boxed (W.setCell ⟨w.heap.size + 3, 0, none⟩ u) (w.heap.size + 3) 4 u := fun u => hk.set u
    have hv' : ∀ u, Boxed (W.setCell ⟨w.heap.size + 3, 0, none⟩ u) (w.heap.size + 2) 31 (.slice a1 p k1) := fun u => hv.other (by omega) u
    have hr' : ∀ u, (W.setCell ⟨w.heap.size + 3, 0, none⟩ u).ownsRow W0.heap.size 69 7 (.slice a1 p k1) p (flat F pre) := fun u => hr.kept (grownBy_setCell' W (w.heap.size + 3) u) (.inr (hk.not_row (by decide) hr).symm)
    have ht' : ∀ u, Touch (fun x => x = w.heap.size + 2 ∨ x = w.heap.size + 3) W0 (W.setCell ⟨w.heap.size + 3, 0, none⟩ u) := fun u => ht.setCell (.inr rfl) _
    have hX' : ∀ u, Blk (W.setCell ⟨w.heap.size + 3, 0, none⟩ u) xb #[.int .i64 q0, .int .i64 q1, .int .i64 q2, .int .u64 q3, .int .u64 q4, .int .u64 q5, .int .u64 q6] 69 := fun u => hX.touch (Touch.setCell (R := (· = w.heap.size + 3)) (Touch.refl _ _) rfl _) (by omega)
    have hks : ∀ u, KeepsOthers W (W.setCell ⟨w.heap.size + 3, 0, none⟩ u) := fun u => KeepsOthers.setCell _ _ _
    have hbs : ∀ u, Below w.heap.size W (W.setCell ⟨w.heap.size + 3, 0, none⟩ u) := fun u => (Below.refl _ W).setCell (by simp) _
    have PK := Lib.hid (fun u => And.intro (hk' u) (And.intro (hv' u) (And.intro (hr' u) (And.intro (ht' u) (And.intro (hX' u) (And.intro (hks u) (hbs u)))))))
    have y0 : ∀ u, (W.setCell ⟨w.heap.size + 3, 0, none⟩ u).cell? ⟨xb, 0, none⟩ = some (.int .i64 q0) := fun u => (hX' u).val 0 rfl
    have y1 : ∀ u, (W.setCell ⟨w.heap.size + 3, 0, none⟩ u).cell? ⟨xb, 1, none⟩ = some (.int .i64 q1) := fun u => (hX' u).val 1 rfl
    have y2 : ∀ u, (W.setCell ⟨w.heap.size + 3, 0, none⟩ u).cell? ⟨xb, 2, none⟩ = some (.int .i64 q2) := fun u => (hX' u).val 2 rfl
    have y3 : ∀ u, (W.setCell ⟨w.heap.size + 3, 0, none⟩ u).cell? ⟨xb, 3, none⟩ = some (.int .u64 q3) := fun u => (hX' u).val 3 rfl
    have y4 : ∀ u, (W.setCell ⟨w.heap.size + 3, 0, none⟩ u).cell? ⟨xb, 4, none⟩ = some (.int .u64 q4) := fun u => (hX' u).val 4 rfl
    have y5 : ∀ u, (W.setCell ⟨w.heap.size + 3, 0, none⟩ u).cell? ⟨xb, 5, none⟩ = some (.int .u64 q5) := fun u => (hX' u).val 5 rfl
    have y6 : ∀ u, (W.setCell ⟨w.heap.size + 3, 0, none⟩ u).cell? ⟨xb, 6, none⟩ = some (.int .u64 q6) := fun u => (hX' u).val 6 rfl
    clear hk' hv' hr' ht' hX' hks hbs hk hv hr ht hX
    have hx2 : (⟨w.heap.size + 2, 0, none⟩ : Addr).block ≠ w.heap.size + 3 := by simp
    cases ok with
    | true =>
      gi_wp2_with (gi_at_builtin; obtain ⟨k3, v2, r2, t2, X2, ks, bs⟩ := PK.out (.bool ((i : Int) == (p : Int))); refine wpListIn_append_own _ rfl _ _ 31 rfl W0.heap.size 69 i0 _ 7 56 Try.underlying31 hi hz0 hz1 hz2 rfl (by decide) _ _ _ rfl (r2.alloc _) ⟨W.heap.size, 0, none⟩ 1 1 [.int .i64 q0, .int .i64 q1, .int .i64 q2, .int .u64 q3, .int .u64 q4, .int .u64 q5, .int .u64 q6] rfl rfl (new_cells _ [.int .i64 q0, .int .i64 q1, .int .i64 q2, .int .u64 q3, .int .u64 q4, .int .u64 q5, .int .u64 q6] _ _ (by rw [World.size_setCell])) (by simp [Value.oneCell']) (by unfold maxLen; omega) (by omega) (by simp [World.size_setCell]; omega) ?_; intro v' w1 hown' hgrow _; obtain ⟨g', cap', rfl⟩ := ownsRow_succ hown'; obtain ⟨hv1, hv2, hr2, hk2, ht2, hbl⟩ := appended_touch7 (R := fun x => x = w.heap.size + 2 ∨ x = w.heap.size + 3) (.inl rfl) v2 (by decide) r2 hown' hgrow; have k4 := ((k3.alloc _).kept hgrow (k3.not_row (by decide) r2)).other (B' := w.heap.size + 2) (by omega) (.slice (some ⟨g', 0, none⟩) (p + 1) cap'); have hc1 := hv1.cell; have hf1 := hv1.frozen; clear k3 v2 X2)
      exact ⟨(ks.trans hk2).from _, bs.trans (hbl w.heap.size (by omega) (by rw [World.size_setCell]; omega) (by omega)), ⟨⟨_, hv2, by rw [HL.out, HF.out]; first | exact hr2 | (rw [hs0] at hr2; exact hr2)⟩, by rw [HO.out]; exact k4⟩, ht2 W0 t2 (Nat.le_refl _)⟩
    | false =>
      gi_wp2_with (gi_at_builtin; obtain ⟨k3, v2, r2, t2, X2, ks, bs⟩ := PK.out (.bool false); refine wpListIn_append_own _ rfl _ _ 31 rfl W0.heap.size 69 i0 _ 7 56 Try.underlying31 hi hz0 hz1 hz2 rfl (by decide) _ _ _ rfl (r2.alloc _) ⟨W.heap.size, 0, none⟩ 1 1 [.int .i64 q0, .int .i64 q1, .int .i64 q2, .int .u64 q3, .int .u64 q4, .int .u64 q5, .int .u64 q6] rfl rfl (new_cells _ [.int .i64 q0, .int .i64 q1, .int .i64 q2, .int .u64 q3, .int .u64 q4, .int .u64 q5, .int .u64 q6] _ _ (by rw [World.size_setCell])) (by simp [Value.oneCell']) (by unfold maxLen; omega) (by omega) (by simp [World.size_setCell]; omega) ?_; intro v' w1 hown' hgrow _; obtain ⟨g', cap', rfl⟩ := ownsRow_succ hown'; obtain ⟨hv1, hv2, hr2, hk2, ht2, hbl⟩ := appended_touch7 (R := fun x => x = w.heap.size + 2 ∨ x = w.heap.size + 3) (.inl rfl) v2 (by decide) r2 hown' hgrow; have k4 := ((k3.alloc _).kept hgrow (k3.not_row (by decide) r2)).other (B' := w.heap.size + 2) (by omega) (.slice (some ⟨g', 0, none⟩) (p + 1) cap'); have hc1 := hv1.cell; have hf1 := hv1.frozen; clear k3 v2 X2)
      exact ⟨(ks.trans hk2).from _, bs.trans (hbl w.heap.size (by omega) (by rw [World.size_setCell]; omega) (by omega)), ⟨⟨_, hv2, by rw [HL.out, HF.out]; first | exact hr2 | (rw [hs0] at hr2; exact hr2)⟩, by rw [HO.out]; exact k4⟩, ht2 W0 t2 (Nat.le_refl _)⟩
  case stop =>
    rintro D c pre W _ _ h _
    exact h.elim
  case done =>
    rintro D ys W hD hys ⟨⟨⟨v, hv, hr, _⟩, hk⟩, ht⟩ hDK
    subst hys
    rw [show okB (List.range m) = true by simp [okB]] at hk
    rw [List.length_range] at hr
    obtain ⟨a1, k1, hveq⟩ := row_form hr
    subst hveq
    have hsW := ht.size
    have d0 : Boxed W w.heap.size 31 (.slice none 0 0) := (ht.block _ b0.lt (by omega)).trans b0
    have d1 : Boxed W (w.heap.size + 1) 4 (.bool false) := (ht.block _ b1.lt (by omega)).trans b1
    have c2 := hv.cell
    have c3 := hk.cell
    have f0 := d0.frozen
    have f1 := d1.frozen
    have c0 := d0.cell
    have c1 := d1.cell
    have hDlt : D < W.heap.size := (Array.getElem?_eq_some_iff.1 hDK).1
    have hmx : Try.prog.follows .mixedOrders = true := by kernel_rfl
    have hBW2 : Below w.heap.size w W := hBW.trans ((ht.below (B := w.heap.size) (by omega) (fun k hk => by omega)))
    have P1 : Hid ((((W.setCell ⟨w.heap.size, 0, none⟩ (.slice a1 m k1)).setCell ⟨w.heap.size + 1, 0, none⟩ (.bool true)).drew).cell? ⟨w.heap.size, 0, none⟩ = some (.slice a1 m k1) ∧
        (((W.setCell ⟨w.heap.size, 0, none⟩ (.slice a1 m k1)).setCell ⟨w.heap.size + 1, 0, none⟩ (.bool true)).drew).cell? ⟨w.heap.size + 1, 0, none⟩ = some (.bool true) ∧
        (((W.setCell ⟨w.heap.size, 0, none⟩ (.slice a1 m k1)).setCell ⟨w.heap.size + 1, 0, none⟩ (.bool true)).drew).heap[D]? = some (.deferred (some [])) ∧
        (((W.setCell ⟨w.heap.size, 0, none⟩ (.slice a1 m k1)).setCell ⟨w.heap.size + 1, 0, none⟩ (.bool true)).drew).ownsRow w.heap.size 69 7 (.slice a1 m k1) m (flat F (List.range m)) ∧
        Below w.heap.size w (((W.setCell ⟨w.heap.size, 0, none⟩ (.slice a1 m k1)).setCell ⟨w.heap.size + 1, 0, none⟩ (.bool true)).drew)) := by
      have g0 := (d0.set (.slice a1 m k1)).other (B' := w.heap.size + 1) (by omega) (.bool true)
      have g1 := (d1.other (B' := w.heap.size) (by omega) (.slice a1 m k1)).set (.bool true)
      have r1 := hr.kept (grownBy_setCell' W w.heap.size (.slice a1 m k1)) (.inr (d0.not_row (by decide) hr).symm)
      have r2 := r1.kept (grownBy_setCell' _ (w.heap.size + 1) (.bool true)) (.inr ((d1.other (B' := w.heap.size) (by omega) (.slice a1 m k1)).not_row (by decide) r1).symm)
      exact ⟨g0.cell, g1.cell, ((KeepsOthers.setCell W _ _).trans (KeepsOthers.setCell _ _ _)).same D _ hDK rfl, ownsRow_low r2 (by omega), ((hBW2.setCell (Nat.le_refl _) _).setCell (by simp) _).drew⟩
    have P2 : Hid ((((W.setCell ⟨w.heap.size + 1, 0, none⟩ (.bool true)).setCell ⟨w.heap.size, 0, none⟩ (.slice a1 m k1)).drew).cell? ⟨w.heap.size, 0, none⟩ = some (.slice a1 m k1) ∧
        (((W.setCell ⟨w.heap.size + 1, 0, none⟩ (.bool true)).setCell ⟨w.heap.size, 0, none⟩ (.slice a1 m k1)).drew).cell? ⟨w.heap.size + 1, 0, none⟩ = some (.bool true) ∧
        (((W.setCell ⟨w.heap.size + 1, 0, none⟩ (.bool true)).setCell ⟨w.heap.size, 0, none⟩ (.slice a1 m k1)).drew).heap[D]? = some (.deferred (some [])) ∧
        (((W.setCell ⟨w.heap.size + 1, 0, none⟩ (.bool true)).setCell ⟨w.heap.size, 0, none⟩ (.slice a1 m k1)).drew).ownsRow w.heap.size 69 7 (.slice a1 m k1) m (flat F (List.range m)) ∧
        Below w.heap.size w (((W.setCell ⟨w.heap.size + 1, 0, none⟩ (.bool true)).setCell ⟨w.heap.size, 0, none⟩ (.slice a1 m k1)).drew)) := by
      have g1 := (d1.set (.bool true)).other (B' := w.heap.size) (by omega) (.slice a1 m k1)
      have g0 := (d0.other (B' := w.heap.size + 1) (by omega) (.bool true)).set (.slice a1 m k1)
      have r1 := hr.kept (grownBy_setCell' W (w.heap.size + 1) (.bool true)) (.inr (d1.not_row (by decide) hr).symm)
      have r2 := r1.kept (grownBy_setCell' _ w.heap.size (.slice a1 m k1)) (.inr ((d0.other (B' := w.heap.size + 1) (by omega) (.bool true)).not_row (by decide) r1).symm)
      exact ⟨g0.cell, g1.cell, ((KeepsOthers.setCell W _ _).trans (KeepsOthers.setCell _ _ _)).same D _ hDK rfl, ownsRow_low r2 (by omega), ((hBW2.setCell (by simp) _).setCell (Nat.le_refl _) _).drew⟩
    gi_wp2_with fail
    gi_region_with_o fail
    all_goals gi_wp2
    all_goals first
      | (obtain ⟨e0, e1, eD, er, eB⟩ := P1.out; refine ⟨by simp, .inl ⟨_, _, rfl, run_takeDeferred eD, ?_⟩⟩; have e0' := cell_kept e0 (grownBy_putObj' _ D (.deferred none)) (fun r e => by cases e; exact ⟨_, eD, rfl⟩); have e1' := cell_kept e1 (grownBy_putObj' _ D (.deferred none)) (fun r e => by cases e; exact ⟨_, eD, rfl⟩); refine ⟨.tuple #[.slice a1 m k1, .bool true], ?_, ⟨_, rfl, ownsRow_putObj er _ eD rfl, eB.trans (belowK_b (w := w) (Nat.le_refl _) _ D _ _ (by omega) eD rfl rfl)⟩⟩; simp [results, Try.f11, go_sem, e0', e1'])
      | (obtain ⟨e0, e1, eD, er, eB⟩ := P2.out; refine ⟨by simp, .inl ⟨_, _, rfl, run_takeDeferred eD, ?_⟩⟩; have e0' := cell_kept e0 (grownBy_putObj' _ D (.deferred none)) (fun r e => by cases e; exact ⟨_, eD, rfl⟩); have e1' := cell_kept e1 (grownBy_putObj' _ D (.deferred none)) (fun r e => by cases e; exact ⟨_, eD, rfl⟩); refine ⟨.tuple #[.slice a1 m k1, .bool true], ?_, ⟨_, rfl, ownsRow_putObj er _ eD rfl, eB.trans (belowK_b (w := w) (Nat.le_refl _) _ D _ _ (by omega) eD rfl rfl)⟩⟩; simp [results, Try.f11, go_sem, e0', e1'])
theorem logged_yes (B a c : Nat) (cs : List Int) (lv : Value) (m : Nat) (f : Int) (F : Nat → Nat → Int) (w : World) (hL : ArenaL w B a c cs lv (flat F (List.range m)) m f) (hm : m ≤ 200) :
    Calls Try.prog 11 #[.pointer (some ⟨a, 0, none⟩)] w fun e w' => ∃ v, e = .returned (.tuple #[v, .bool true]) ∧ w'.ownsRow w.heap.size 69 7 v m (flat F (List.range m)) ∧ Below w.heap.size w w' :=
  logged_gen B a c cs true lv m m f F w hL.at' hL.own hm
end Go.Proofs.Ytedccpconldkoaa
