/- Texts of this seat, one behind the other: each says at its head what it holds. No condition of its own. -/
import Derived.Deep.RegionLaw
import Derived.Deep.AppendLies
import Derived.Deep.Cut
import Derived.Laws.StructEq
import Derived.Deep.QuietTactic
import Derived.BigQuiet
import Derived.Test.YtpoddnfooaddgaaGreatDoorGObjectsBuilds01
import Derived.Test.YtpoddnfooaddgaaGreatDoorGObjectsBuilds11
import Derived.Test.YtpoddnfooaddgaaGreatDoorGObjectsBuilds23
/- arena.Log, and what logged of the document tells: the accesses that were kept. Condition: at most 200 were kept. -/
namespace Go.Proofs.YtpoddnfooaddgaaGreatDoor
open Go.RowKit Go.Shelf
set_option linter.unusedVariables false
attribute [local go_sem] Oper.semAt_some

set_option maxHeartbeats 1000000 in
theorem log_any (a c : Nat) (cs : List Int) (keep : Bool) (bp : Option Addr) (m cp : Nat) (n f : Int) (w : World) (hA : ArenaAt w a c cs keep (.slice bp m cp) n f) :
    Calls Tryz.prog 22 #[.pointer (some ⟨a, 0, none⟩)] w fun e w' => e = .returned (.func (.func 57) #[] #[.pointer (some ⟨w.heap.size, 0, none⟩)]) ∧ Boxed w' w.heap.size 53 (.slice bp m cp) ∧ Below w.heap.size w w' ∧ w'.heap.size = w.heap.size + 1 := by
  have hc2 : w.cell? ⟨a, 2, none⟩ = some (.slice bp m cp) := hA.own.val 2 rfl
  have hlt := hA.own.lt
  clear hA
  go_enter Tryz.func22, Tryz.ntmps22
  go_wp2
  go_ret
  exact ⟨rfl, Blk.new _ _ _, (Below.refl _ w).alloc (Nat.le_refl _) _, by simp⟩

/-- the accesses' words, one behind the other -/
def flat (F : Nat → Nat → Int) (l : List Nat) : List Value := l.flatMap fun i => (accA F i).toList
theorem flat_snoc (F : Nat → Nat → Int) (l : List Nat) (i : Nat) : flat F (l ++ [i]) = flat F l ++ [.int .i64 (F i 0), .int .i64 (F i 1), .int .i64 (F i 2), .int .u64 (F i 3), .int .u64 (F i 4), .int .u64 (F i 5), .int .u64 (F i 6)] := by simp [flat]
def okB (l : List Nat) : Bool := decide (l = List.range l.length)
theorem okB_snoc (l : List Nat) (i : Nat) : okB (l ++ [i]) = (okB l && decide ((i : Int) = (l.length : Int))) := by
  unfold okB
  rw [List.length_append, List.length_singleton, List.range_succ]
  by_cases h1 : l = List.range l.length
  · by_cases h2 : i = l.length
    · subst h2; rw [← h1]; simp
    · have : ¬ ((i : Int) = (l.length : Int)) := by omega
      simp only [this, decide_false, Bool.and_false, decide_eq_false_iff_not]
      intro h
      have := List.append_inj_right' h rfl
      simp at this
      omega
  · simp only [h1, decide_false, Bool.false_and, decide_eq_false_iff_not]
    intro h
    exact h1 (List.append_inj_left' h rfl)

theorem ownsRow_lowLogy {W : World} {base base' : Nat} {e : TypeId} {size : Nat} {v : Value} {k : Nat} {xs : List Value} (h : W.ownsRow base e size v k xs) (hb : base' ≤ base) : W.ownsRow base' e size v k xs := by
  refine ⟨h.1, ?_⟩
  rcases h.2 with h1 | ⟨g, cap, cur, h1, h2, h3⟩
  · exact .inl h1
  · exact .inr ⟨g, cap, cur, h1, Nat.le_trans hb h2, h3⟩
theorem ownFrom_touchLogy {β : Type} {R : Nat → Prop} {B : Nat} {W0 : World} (hB : W0.heap.size ≤ B) : OwnFrom B (fun (_ : β) W => Touch R W0 W) :=
  fun s W W' row h hg hr => h.grown hg (fun k hk => .inr (Nat.le_trans hB (hr k hk).1))
theorem blk_own_from {β : Type} (B : Nat) (P : Nat → Prop) (a : Act) (fa : Nat → Act) (cs : Array Value) (t : TypeId := 59) : OwnFrom B (fun (_ : β) W => ∃ xb, P xb ∧ a = fa xb ∧ Blk W xb cs t) :=
  fun s W W' row ⟨xb, h1, h2, h3⟩ hg hr => ⟨xb, h1, h2, (hg.block xb h3.lt (fun e' => by obtain ⟨_, o, ho, hc⟩ := hr xb e'.symm; rw [show W.heap[xb]? = _ from h3] at ho; cases ho; cases hc)).trans h3⟩
theorem row_form {W : World} {base n : Nat} {e : TypeId} {v : Value} {k : Nat} {xs : List Value} (h : W.ownsRow base e n v k xs) : ∃ a c, v = .slice a k c := by
  rcases h.2 with ⟨h1, h2⟩ | ⟨g, cap, cur, h1, _⟩
  · exact ⟨none, 0, by rw [h1, h2]⟩
  · exact ⟨_, cap, h1⟩

theorem flat_get (F : Nat → Nat → Int) : ∀ (m i j : Nat), i < m → j < 7 → (flat F (List.range m))[i * 7 + j]? = (accA F i)[j]?
  | 0, i, j, h, _ => by omega
  | m + 1, i, j, h, hj => by
    have hl : ∀ m, (flat F (List.range m)).length = m * 7 := by
      intro m
      induction m with
      | zero => rfl
      | succ m ih => rw [List.range_succ, flat_snoc, List.length_append, ih]; simp; omega
    rw [List.range_succ, flat_snoc]
    by_cases hi : i < m
    · rw [List.getElem?_append_left (by rw [hl]; omega)]
      exact flat_get F m i j hi hj
    · obtain rfl : i = m := by omega
      rw [List.getElem?_append_right (by rw [hl]; omega), hl, show i * 7 + j - i * 7 = j by omega]
      match j, hj with
      | 0, _ => rfl
      | 1, _ => rfl
      | 2, _ => rfl
      | 3, _ => rfl
      | 4, _ => rfl
      | 5, _ => rfl
      | 6, _ => rfl
theorem logrow {w : World} {B m cp : Nat} {bp : Option Addr} {F : Nat → Nat → Int} (h : w.ownsRow B 59 7 (.slice bp m cp) m (flat F (List.range m))) (h0 : 0 < m) : ∃ b, bp = some ⟨b, 0, none⟩ ∧ b < w.heap.size ∧ LogRow w b m F := by
  rcases h.2 with ⟨h1, h2⟩ | ⟨g, cap, cur, h1, h2, h3, h4⟩
  · omega
  · simp only [Value.slice.injEq, true_and] at h1
    obtain ⟨rfl, rfl⟩ := h1
    refine ⟨g, rfl, (Array.getElem?_eq_some_iff.1 h3).1, ⟨fun i hi => ?_⟩⟩
    have hc := fun j (hj : j < 7) v (e : (accA F i)[j]? = some v) => h.cells (g := g) rfl (i * 7 + j) v ((flat_get F m i j hi hj).trans e)
    have ha : ∀ k, (⟨g, 0, none⟩ : Addr).add k = ⟨g, k, none⟩ := fun k => by unfold Addr.add; split <;> simp_all
    simp only [ha] at hc
    exact ⟨hc 0 (by omega) _ rfl, hc 1 (by omega) _ rfl, hc 2 (by omega) _ rfl, hc 3 (by omega) _ rfl, hc 4 (by omega) _ rfl, hc 5 (by omega) _ rfl, hc 6 (by omega) _ rfl⟩

theorem new_cells (W : World) (l : List Value) (t : TypeId) (b : Nat) (hb : b = W.heap.size) (j : Nat) (u : Value) (h : l[j]? = some u) : (W.alloc (.cells l.toArray t)).cell? ((⟨b, 0, none⟩ : Addr).add j) = some u := by
  subst hb
  have e1 : (⟨W.heap.size, 0, none⟩ : Addr).add j = ⟨W.heap.size, j, none⟩ := by unfold Addr.add; split <;> simp_all
  rw [e1, Blk.cell (cs := l.toArray) (t := t) (Blk.new W _ _)]
  simpa using h
/-- an element more, the slice in its box -/
theorem appended_touch7 {W w1 : World} {base B : Nat} {t e : TypeId} {v v' : Value} {k m : Nat} {xs ys : List Value} {tmp : Obj} {R : Nat → Prop} (hR : R B) (hv : Boxed W B t v) (hte : t ≠ e) (hrow : W.ownsRow base e 7 v k xs) (hown' : w1.ownsRow base e 7 v' m ys) (hgrow : (W.alloc tmp).grownBy w1 v.ownBlock) :
    Boxed w1 B t v ∧ Boxed (w1.setCell ⟨B, 0, none⟩ v') B t v' ∧ (w1.setCell ⟨B, 0, none⟩ v').ownsRow base e 7 v' m ys ∧ KeepsOthers W (w1.setCell ⟨B, 0, none⟩ v') ∧
    (∀ W0, Touch R W0 W → W0.heap.size ≤ base → Touch R W0 (w1.setCell ⟨B, 0, none⟩ v')) ∧
    (∀ n, n ≤ base → n ≤ W.heap.size → n ≤ B → Below n W (w1.setCell ⟨B, 0, none⟩ v')) := by
  obtain ⟨h1, h2, h3, h4, h5⟩ := hv.appended hte (ownsRow_lowLogy hrow (Nat.zero_le _)) (Nat.zero_le _) (Nat.zero_le _) (ownsRow_lowLogy hown' (Nat.zero_le _)) hgrow
  refine ⟨h1, h2, hown'.kept (grownBy_setCell' w1 B v') (.inr (h1.not_row hte hown').symm), h4, fun W0 ht hb => ?_, fun n h1 h2 h3 => (hv.appended hte (ownsRow_lowLogy hrow h1) h2 h3 (ownsRow_lowLogy hown' h1) hgrow).2.2.2.2⟩
  have ht2 := (ht.alloc tmp).grown hgrow (fun k hk => .inr (Nat.le_trans hb (hrow.lt k hk).1))
  exact ht2.setCell hR _

end Go.Proofs.YtpoddnfooaddgaaGreatDoor
/- A log that grows: numbers alone. What replaying it gives, when one more access was kept. -/
namespace Go.Proofs.YtpoddnfooaddgaaGreatDoor
open Go.RowKit
set_option linter.unusedVariables false

theorem repl_congr (F G : Nat → Nat → Int) : ∀ m i cs, (∀ j, i ≤ j → j < i + m → ∀ c, F j c = G j c) → repl F m i cs = repl G m i cs
  | 0, _, _, _ => rfl
  | m + 1, i, cs, h => by
    have h0 := h i (Nat.le_refl _) (by omega)
    have ih := fun cs' => repl_congr F G m (i + 1) cs' (fun j h1 h2 c => h j (by omega) (by omega) c)
    unfold repl
    rw [h0 1, h0 2, h0 3, h0 4, h0 5, h0 6, ih]
theorem repl_snoc (F : Nat → Nat → Int) : ∀ m i cs cs', repl F m i cs = (some cs', 0, 0) → stepE cs' (F (i + m) 2) (F (i + m) 1) (F (i + m) 3) (F (i + m) 4) (F (i + m) 5) (F (i + m) 6) = 0 →
    repl F (m + 1) i cs = (some (cs'.set (F (i + m) 2).toNat (F (i + m) 6)), 0, 0)
  | 0, i, cs, cs', h, hs => by
    simp only [repl, Prod.mk.injEq, Option.some.injEq] at h
    obtain ⟨rfl, _⟩ := h
    unfold repl
    rw [Nat.add_zero] at hs
    rw [if_pos hs, Nat.add_zero]
    rfl
  | m + 1, i, cs, cs', h, hs => by
    unfold repl at h
    split at h
    · rename_i h0
      have hs2 : i + (m + 1) = i + 1 + m := by omega
      rw [hs2] at hs ⊢
      have ih := repl_snoc F m (i + 1) _ cs' h hs
      rw [repl, if_pos h0, ih]
    · cases h
/-- one access more -/
def more (F : Nat → Nat → Int) (m : Nat) (who k at' want put seen left : Int) : Nat → Nat → Int := fun j c => if j < m then F j c else ([who, k, at', want, put, seen, left] : List Int).getD c 0
theorem flat_congr (F G : Nat → Nat → Int) : ∀ l : List Nat, (∀ i ∈ l, accA F i = accA G i) → flat F l = flat G l
  | [], _ => rfl
  | i :: l, h => by
    have ih := flat_congr F G l (fun j hj => h j (List.mem_cons_of_mem _ hj))
    have h0 := h i List.mem_cons_self
    unfold flat at ih ⊢
    rw [List.flatMap_cons, List.flatMap_cons, ih, h0]
theorem flat_more (F : Nat → Nat → Int) (m : Nat) (who k at' want put seen left : Int) : flat (more F m who k at' want put seen left) (List.range (m + 1)) = flat F (List.range m) ++ accV who k at' want put seen left := by
  rw [List.range_succ, flat_snoc]
  congr 1
  · refine flat_congr _ _ _ fun i hi => ?_
    have := List.mem_range.1 hi
    simp [accA, more, this]
  · simp [more, accV]
theorem repl_more1 (F : Nat → Nat → Int) (m : Nat) (zs cs : List Int) (who k want put : Int) (i : Nat) (h : repl F m 0 zs = (some cs, 0, 0)) (hk : kindBEffe k = true) (hi : i < cs.length) :
    repl (more F m who k i want put (cs.getD i 0) (leftI k (cs.getD i 0) want put)) (m + 1) 0 zs = (some (cs.set i (leftI k (cs.getD i 0) want put)), 0, 0) := by
  have e : ∀ c, more F m who k i want put (cs.getD i 0) (leftI k (cs.getD i 0) want put) (0 + m) c = ([who, k, (i : Int), want, put, cs.getD i 0, leftI k (cs.getD i 0) want put] : List Int).getD c 0 := fun c => by simp [more]
  have h1 : repl (more F m who k i want put (cs.getD i 0) (leftI k (cs.getD i 0) want put)) m 0 zs = (some cs, 0, 0) := by
    rw [← h]
    refine repl_congr _ _ m 0 zs (fun j _ hj c => ?_)
    simp only [more, if_pos (show j < m by omega)]
  have := repl_snoc _ m 0 zs cs h1 (by
    simp only [e]
    unfold stepE
    rw [if_neg (by rw [show insB cs.length _ = true from decide_eq_true ⟨by simp, by simpa using hi⟩]; decide), if_pos ⟨hk, by simp, rfl⟩])
  simp only [e] at this
  simpa using this
end Go.Proofs.YtpoddnfooaddgaaGreatDoor
/- The document's own arena: what its Do returns and leaves. Condition: its blocks lie there. -/
namespace Go.Proofs.YtpoddnfooaddgaaGreatDoor
open Go.RowKit
set_option linter.unusedVariables false

def RefP (w : World) (q : Nat) (who : Int) (g : Bool) : Prop := Blk w q #[.int .i64 who, .bool g] 126
structure RefA (w : World) (B M d : Nat) (cs : List Int) (lv : Value) (xs : List Value) (m : Nat) (f : Int) : Prop where
  own : Blk w M #[.slice (some ⟨d, 0, none⟩) cs.length cs.length, lv, .int .i64 f] 55
  row : Blk w d (cs.map (Value.int .u64)).toArray 57
  log : w.ownsRow B 59 7 lv m xs
  md : M ≠ d
  lM : lv.ownBlock ≠ some M
  ld : lv.ownBlock ≠ some d
theorem RefA.cell {w : World} {B M d : Nat} {cs : List Int} {lv : Value} {xs : List Value} {m : Nat} {f : Int} (h : RefA w B M d cs lv xs m f) (i : Nat) (hi : i < cs.length) : w.cell? ⟨d, i, none⟩ = some (.int .u64 (cs.getD i 0)) := by
  have := Blk.cell (cs := (cs.map (Value.int .u64)).toArray) (t := 57) h.row (i := i)
  rw [this]
  simp [List.getD_eq_getElem?_getD, hi]

set_option maxHeartbeats 1000000 in
theorem do_fault (B M d q : Nat) (cs : List Int) (lv : Value) (xs : List Value) (m : Nat) (f : Int) (g : Bool) (who k at' want put : Int) (w : World) (hA : RefA w B M d cs lv xs m f) (hP : RefP w q who g) (hqM : q ≠ M) (hqd : q ≠ d) (hql : lv.ownBlock ≠ some q) (hf0 : 0 ≤ f) (hf1 : f < 1000000) (hg : g = false ∨ insB cs.length at' = false) :
    Calls Tryz.prog 56 #[.pointer (some ⟨M, 0, none⟩), .pointer (some ⟨q, 0, none⟩), .int .i64 k, .int .i64 at', .int .u64 want, .int .u64 put] w fun e w' =>
      e = .returned (.int .u64 0) ∧ RefA w' B M d cs lv xs m (f + 1) ∧ RefP w' q who false ∧ Touch (fun b => b = M ∨ b = q) w w' := by
  have c0 : w.cell? ⟨M, 0, none⟩ = some (.slice (some ⟨d, 0, none⟩) cs.length cs.length) := hA.own.val 0 rfl
  have c2 : w.cell? ⟨M, 2, none⟩ = some (.int .i64 f) := hA.own.val 2 rfl
  have p1 : w.cell? ⟨q, 1, none⟩ = some (.bool g) := hP.val 1 rfl
  have fp := hP.frozen 1
  have fM := hA.own.frozen 2
  have hMq : M ≠ q := Ne.symm hqM
  have H : Hid (RefA ((w.setCell ⟨q, 1, none⟩ (.bool false)).setCell ⟨M, 2, none⟩ (.int .i64 (f + 1))) B M d cs lv xs m (f + 1) ∧ RefP ((w.setCell ⟨q, 1, none⟩ (.bool false)).setCell ⟨M, 2, none⟩ (.int .i64 (f + 1))) q who false ∧ Touch (fun b => b = M ∨ b = q) w ((w.setCell ⟨q, 1, none⟩ (.bool false)).setCell ⟨M, 2, none⟩ (.int .i64 (f + 1)))) :=
    ⟨⟨(hA.own.other _ _ hMq).set 2 _, (hA.row.other _ _ (Ne.symm hqd)).other _ _ (Ne.symm hA.md), own_other (own_other hA.log hql) hA.lM, hA.md, hA.lM, hA.ld⟩, (hP.set 1 (.bool false)).other _ _ hqM, ((Touch.refl _ _).setCell (.inr rfl) _).setCell (.inl rfl) _⟩
  have hcM := hA.md
  clear hA hP
  rcases hg with rfl | hi
  · go_enter Tryz.func56, Tryz.ntmps56
    go_wp2
    go_ret
    exact ⟨rfl, H.out⟩
  · have hi := of_decide_eq_false hi
    cases g with
    | false =>
      clear hi
      go_enter Tryz.func56, Tryz.ntmps56
      go_wp2
      go_ret
      exact ⟨rfl, H.out⟩
    | true =>
      by_cases h0 : 0 ≤ at'
      · have h1 : ¬ at' < (cs.length : Int) := by omega
        clear hi
        go_enter Tryz.func56, Tryz.ntmps56
        go_wp2
        go_ret
        exact ⟨rfl, H.out⟩
      · clear hi
        go_enter Tryz.func56, Tryz.ntmps56
        go_wp2
        go_ret
        exact ⟨rfl, H.out⟩
theorem RefA.alloc {w : World} {B M d : Nat} {cs : List Int} {lv : Value} {xs : List Value} {m : Nat} {f : Int} (h : RefA w B M d cs lv xs m f) (o : Obj) : RefA (w.alloc o) B M d cs lv xs m f := ⟨h.own.alloc o, h.row.alloc o, h.log.alloc o, h.md, h.lM, h.ld⟩
theorem RefA.quiet {w w' : World} {B M d : Nat} {cs : List Int} {lv : Value} {xs : List Value} {m : Nat} {f : Int} (h : RefA w B M d cs lv xs m f) (hq : Quiet w w') : RefA w' B M d cs lv xs m f := ⟨h.own.quiet hq, h.row.quiet hq, hq.ownsRow h.log, h.md, h.lM, h.ld⟩

def DoPost (B M d q : Nat) (cs : List Int) (lv : Value) (xs : List Value) (m : Nat) (f : Int) (who k want put : Int) (i : Nat) (w : World) (e : Ending) (w' : World) : Prop :=
  e = .returned (.int .u64 (cs.getD i 0)) ∧ ∃ lv', RefA w' B M d (cs.set i (leftI k (cs.getD i 0) want put)) lv' (xs ++ accV who k i want put (cs.getD i 0) (leftI k (cs.getD i 0) want put)) (m + 1) f ∧ RefP w' q who false ∧
    (∀ g, lv'.ownBlock = some g → lv.ownBlock = some g ∨ w.heap.size ≤ g) ∧ Touch (fun b => b = M ∨ b = d ∨ b = q ∨ lv.ownBlock = some b) w w'
set_option maxRecDepth 100000 in
set_option maxHeartbeats 4000000 in
theorem do_yes (B M d q : Nat) (cs : List Int) (lv : Value) (xs : List Value) (m : Nat) (f : Int) (who k want put : Int) (i : Nat) (w : World) (hA : RefA w B M d cs lv xs m f) (hP : RefP w q who true) (hqM : q ≠ M) (hqd : q ≠ d) (hql : lv.ownBlock ≠ some q) (hB : B ≤ w.heap.size) (hn1 : m < 1000000) (hk : kindBEffe k = true) (hi : i < cs.length) :
    Calls Tryz.prog 56 #[.pointer (some ⟨M, 0, none⟩), .pointer (some ⟨q, 0, none⟩), .int .i64 k, .int .i64 i, .int .u64 want, .int .u64 put] w (DoPost B M d q cs lv xs m f who k want put i w) := by
  obtain ⟨i0, hi0, hz0, hz1, hz2⟩ := info_parts info_acc
  have Z := Lib.hid (And.intro hi0 (And.intro hz0 (And.intro hz1 hz2)))
  clear hi0 hz0 hz1 hz2
  have c0 : w.cell? ⟨M, 0, none⟩ = some (.slice (some ⟨d, 0, none⟩) cs.length cs.length) := hA.own.val 0 rfl
  have p1 : w.cell? ⟨q, 1, none⟩ = some (.bool true) := hP.val 1 rfl
  have fp := hP.frozen 1
  have cc := hA.cell i hi
  have fd := hA.row.frozen i
  have hMq : ¬ M = q := Ne.symm hqM
  have hdq : ¬ d = q := Ne.symm hqd
  have hn0 : (0 : Int) ≤ (i : Int) := by omega
  have hn2 : (i : Int) < (cs.length : Int) := by omega
  have L := Lib.hid (fun z W => rleft_yes k z want put W hk)
  have lM := Blk.lt hA.own
  unfold DoPost
  generalize hz : cs.getD i 0 = z at *
  have Hz := Lib.hid hz
  clear hz
  generalize hy : leftI k z want put = y at *
  have Hy := Lib.hid hy
  clear hy
  have H : Hid (RefA ((w.setCell ⟨q, 1, none⟩ (.bool false)).setCell ⟨d, i, none⟩ (.int .u64 y)) B M d (cs.set i y) lv xs m f ∧ RefP ((w.setCell ⟨q, 1, none⟩ (.bool false)).setCell ⟨d, i, none⟩ (.int .u64 y)) q who false ∧ Touch (fun b => b = M ∨ b = d ∨ b = q ∨ lv.ownBlock = some b) w ((w.setCell ⟨q, 1, none⟩ (.bool false)).setCell ⟨d, i, none⟩ (.int .u64 y))) :=
    ⟨⟨by rw [List.length_set]; exact (hA.own.other _ _ hMq).other _ _ hA.md, by have h := (hA.row.other (a := ⟨q, 1, none⟩) (v := .bool false) hdq).set i (.int .u64 y); rw [List.map_set]; simpa using h, own_other (own_other hA.log hql) hA.ld, hA.md, hA.lM, hA.ld⟩, (hP.set 1 (.bool false)).other _ _ hqd, ((Touch.refl _ _).setCell (.inr (.inr (.inl rfl))) _).setCell (.inr (.inl rfl)) _⟩
  have hlM := Lib.hid hA.lM
  have hld := Lib.hid hA.ld
  have hMd := hA.md
  have hdM : ¬ d = M := Ne.symm hA.md
  clear hA hP
  go_enter Tryz.func56, Tryz.ntmps56
  go_wp2_with fail
  refine (L.out z _).mono ?_
  rintro e w1 ⟨rfl, hw1⟩
  obtain rfl := hw1
  rw [Hy.out]
  go_wp2_with fail
  clear c0 p1 fp cc fd L
  generalize (w.setCell ⟨q, 1, none⟩ (.bool false)).setCell ⟨d, i, none⟩ (.int .u64 y) = v2 at *
  obtain ⟨hA2, hP2, hT2⟩ := H.out
  clear H
  have hsz := hT2.size
  have c1 : v2.cell? ⟨M, 1, none⟩ = some lv := hA2.own.val 1 rfl
  have f1 := hA2.own.frozen 1
  have p0 : v2.cell? ⟨q, 0, none⟩ = some (.int .i64 who) := hP2.val 0 rfl
  have lM2 := Blk.lt hA2.own
  go_region_law ((refine step_append_lies _ (by rfl) _ _ _ (by rfl) B 59 i0 _ 7 56 Tryz.underlying53 Z.out.1 Z.out.2.1 Z.out.2.2.1 Z.out.2.2.2 rfl (by omega) lv m xs (by rfl) (Quiet.ownsRow ⟨1, rfl⟩ (hA2.log.alloc _)) ⟨v2.heap.size, 0, none⟩ 1 1 (accV who k i want put z y) (by rfl) (by rfl) (World.news_of_block (cs := #[.int .i64 who, .int .i64 k, .int .i64 i, .int .u64 want, .int .u64 put, .int .u64 z, .int .u64 y]) (t := 59) (fr := (0, 0)) (heap_alloc_new v2 _)) (by simp [accV, Value.oneCell']) (by omega) (by unfold maxLen; omega) (by omega) (by simp; omega) (v2.heap.size + 1) (by simp) ?_; intro g cap w5 hown5 hgrow hat hlt; have k2 := (hgrow.cell_far ⟨M, 1, none⟩ (by simp; omega) (Ne.symm hlM.out)).trans (((hA2.alloc _).quiet ⟨1, rfl⟩).own.val 1 rfl); have kf := (hgrow.frozen_far ⟨M, 1, none⟩ (by simp; omega) (Ne.symm hlM.out)).trans (((hA2.alloc _).quiet ⟨1, rfl⟩).own.frozen 1)))
  all_goals
    go_wp2
    go_ret
    have hT5 := ((hT2.alloc _).drew).grown hgrow (fun k hk => .inl (.inr (.inr (.inr hk))))
    have ne (x : Nat) (hx : lv.ownBlock ≠ some x) (hlt : x < v2.heap.size) : (Value.slice (some ⟨g, 0, none⟩) (m + 1) cap).ownBlock ≠ some x := fun e => by
      have e1 : g = x := Option.some.inj e
      rcases hat with h | h
      · exact hx (by rw [h, e1])
      · omega
    have hA3 := (hA2.alloc (.cells #[.int .i64 who, .int .i64 k, .int .i64 i, .int .u64 want, .int .u64 put, .int .u64 z, .int .u64 y] 59)).quiet (w' := (v2.alloc (.cells #[.int .i64 who, .int .i64 k, .int .i64 i, .int .u64 want, .int .u64 put, .int .u64 z, .int .u64 y] 59)).drew) ⟨1, rfl⟩
    have hP3 : RefP (v2.alloc (.cells #[.int .i64 who, .int .i64 k, .int .i64 i, .int .u64 want, .int .u64 put, .int .u64 z, .int .u64 y] 59)).drew q who false := Blk.quiet (Blk.alloc hP2 _) ⟨1, rfl⟩
    have o5 := (hA3.own.of (hgrow.block M hA3.own.lt (Ne.symm hlM.out))).set 1 (.slice (some ⟨g, 0, none⟩) (m + 1) cap)
    have r5 := (hA3.row.of (hgrow.block d hA3.row.lt (Ne.symm hld.out))).other (a := ⟨M, 1, none⟩) (v := .slice (some ⟨g, 0, none⟩) (m + 1) cap) hdM
    have p5 : RefP (w5.setCell ⟨M, 1, none⟩ (.slice (some ⟨g, 0, none⟩) (m + 1) cap)) q who false := (Blk.of hP3 (hgrow.block q (Blk.lt hP3) (Ne.symm hql))).other _ _ hqM
    exact ⟨rfl, .slice (some ⟨g, 0, none⟩) (m + 1) cap, ⟨o5, r5, own_other hown5 (ne M hlM.out (Blk.lt hA2.own)), hMd, ne M hlM.out (Blk.lt hA2.own), ne d hld.out (Blk.lt hA2.row)⟩, p5, fun g' e => by
      have e1 : g = g' := Option.some.inj e
      rcases hat with h | h
      · exact .inl (by rw [h, e1])
      · exact .inr (by omega), hT5.setCell (.inl rfl) _⟩
end Go.Proofs.YtpoddnfooaddgaaGreatDoor
/- The document's arena makes the access that a tape asks for. Condition: it may be made, and few were. -/
namespace Go.Proofs.YtpoddnfooaddgaaGreatDoor
open Go.RowKit
set_option linter.unusedVariables false

set_option maxRecDepth 100000 in
set_option maxHeartbeats 2000000 in
theorem make_yes {B Bt M d x : Nat} {cs : List Int} {lv hv : Value} {xs : List Value} {m : Nat} {f : Int} {t : Tp} {w : World} (who : Int) (i : Nat) (hA : RefA w B M d cs lv xs m f) (hT : TapeAt w Bt x hv t)
    (hxM : x ≠ M) (hxd : x ≠ d) (hhM : hv.ownBlock ≠ some M) (hhd : hv.ownBlock ≠ some d) (hlx : lv.ownBlock ≠ some x) (hlh : ∀ g, hv.ownBlock = some g → lv.ownBlock ≠ some g)
    (hB : B ≤ w.heap.size) (hBt : Bt ≤ w.heap.size) (hm : m < 1000000) (hH : t.H.length < 1000000) (hk : kindBEffe t.k = true) (ha : t.a = (i : Int)) (hi : i < cs.length) :
    Calls Tryz.prog 21 #[.pointer (some ⟨M, 0, none⟩), .pointer (some ⟨x, 0, none⟩), .int .i64 who] w fun e w' => (∃ v, e = .returned v) ∧ ∃ lv' hv',
      RefA w' B M d (cs.set i (leftI t.k (cs.getD i 0) t.wn t.p)) lv' (xs ++ accV who t.k i t.wn t.p (cs.getD i 0) (leftI t.k (cs.getD i 0) t.wn t.p)) (m + 1) f ∧ TapeAt w' Bt x hv' { t with H := t.H ++ [cs.getD i 0] } ∧
      (∀ g, lv'.ownBlock = some g → lv.ownBlock = some g ∨ w.heap.size ≤ g) ∧ (∀ g, hv'.ownBlock = some g → hv.ownBlock = some g ∨ w.heap.size ≤ g) ∧ (∀ g, hv'.ownBlock = some g → lv'.ownBlock ≠ some g) ∧
      Touch (fun b => b = M ∨ b = d ∨ lv.ownBlock = some b ∨ b = x ∨ hv.ownBlock = some b) w w' := by
  obtain ⟨z, hz⟩ : ∃ z, cs.getD i 0 = z := ⟨_, rfl⟩
  rw [hz]
  have HZ := Lib.hid hz
  clear hz
  obtain ⟨i0, zi, zz0, zz1, zz2⟩ := info_parts info_u64
  have Z := Lib.hid (And.intro zi (And.intro zz0 (And.intro zz1 zz2)))
  clear zi zz0 zz1 zz2
  have hq0 : RefP (w.alloc (.cells #[.int .i64 who, .bool true] 126)) w.heap.size who true := Blk.new _ _ _
  have tA : Touch (fun _ => False) w (w.alloc (.cells #[.int .i64 who, .bool true] 126)) := (Touch.refl _ _).alloc _
  have hTa := hT.touch tA (fun e => e) (fun _ _ e => e)
  have hAa := hA.alloc (.cells #[.int .i64 who, .bool true] 126)
  have hxl := Blk.lt hT.own
  have hMl := Blk.lt hA.own
  have hdl := Blk.lt hA.row
  have hll : ∀ g, lv.ownBlock = some g → g < w.heap.size := fun g e => (hA.log.lt g e).2
  have hhl : ∀ g, hv.ownBlock = some g → g < w.heap.size := fun g e => (hT.row.lt g e).2
  have hsz : (w.alloc (.cells #[.int .i64 who, .bool true] 126)).heap.size = w.heap.size + 1 := by simp
  clear hA hT
  go_enter Tryz.func21, Tryz.ntmps21
  go_upto_region 1 with fail
  generalize w.alloc (.cells #[.int .i64 who, .bool true] 126) = wa at *
  have c2 : wa.cell? ⟨x, 2, none⟩ = some (.int .i64 0) := hTa.own.val 2 rfl
  have c3 : wa.cell? ⟨x, 3, none⟩ = some (.int .i64 t.k) := hTa.own.val 3 rfl
  have c4 : wa.cell? ⟨x, 4, none⟩ = some (.int .i64 (i : Int)) := by rw [← ha]; exact hTa.own.val 4 rfl
  have c5 : wa.cell? ⟨x, 5, none⟩ = some (.int .u64 t.wn) := hTa.own.val 5 rfl
  have c6 : wa.cell? ⟨x, 6, none⟩ = some (.int .u64 t.p) := hTa.own.val 6 rfl
  have c7 : wa.cell? ⟨x, 7, none⟩ = some (.int .u64 0) := hTa.own.val 7 rfl
  have c8 : wa.cell? ⟨x, 8, none⟩ = some (.int .u64 0) := hTa.own.val 8 rfl
  have tB : Touch (fun _ => False) wa (wa.alloc (.cells #[.int .i64 0, .int .i64 t.k, .int .i64 i, .int .u64 t.wn, .int .u64 t.p, .int .u64 0, .int .u64 0] 59)) := (Touch.refl _ _).alloc _
  have hTb := hTa.touch tB (fun e => e) (fun _ _ e => e)
  have hAb := hAa.alloc (.cells #[.int .i64 0, .int .i64 t.k, .int .i64 i, .int .u64 t.wn, .int .u64 t.p, .int .u64 0, .int .u64 0] 59)
  have hqb : RefP (wa.alloc (.cells #[.int .i64 0, .int .i64 t.k, .int .i64 i, .int .u64 t.wn, .int .u64 t.p, .int .u64 0, .int .u64 0] 59)) w.heap.size who true := Blk.alloc hq0 _
  have tAB := tA.trans tB
  have hsb : (wa.alloc (.cells #[.int .i64 0, .int .i64 t.k, .int .i64 i, .int .u64 t.wn, .int .u64 t.p, .int .u64 0, .int .u64 0] 59)).heap.size = w.heap.size + 2 := by simp [hsz]
  clear hTa hAa hq0 tA tB
  go_wp2_with fail
  clear c2 c3 c4 c5 c6 c7 c8
  generalize wa.alloc (.cells #[.int .i64 0, .int .i64 t.k, .int .i64 i, .int .u64 t.wn, .int .u64 t.p, .int .u64 0, .int .u64 0] 59) = wb at *
  refine (do_yes B M d w.heap.size cs lv xs m f who t.k t.wn t.p i wb hAb hqb (by omega) (by omega) (fun e => by have := hll _ e; omega) (by omega) hm hk hi).mono ?_
  rintro e w1 ⟨he, lv', hA1, hq1, hg1, tD⟩
  rw [HZ.out] at he hA1
  subst he
  have nh : ∀ g, hv.ownBlock = some g → ¬ (g = M ∨ g = d ∨ g = w.heap.size ∨ lv.ownBlock = some g) := fun g e h => by
    rcases h with h | h | h | h
    · exact hhM (h ▸ e)
    · exact hhd (h ▸ e)
    · have := hhl g e; omega
    · exact hlh g e h
  have hT1 := hTb.touch tD (fun h => by
    rcases h with h | h | h | h
    · exact hxM h
    · exact hxd h
    · omega
    · exact hlx h) nh
  have hs1 := tD.size
  have hrow := hT1.row
  obtain ⟨ha0, hc0, rfl⟩ : ∃ a c, hv = .slice a t.H.length c := by
    rcases hrow.2 with ⟨h1, h2⟩ | ⟨g, cap, cur, h1, _⟩
    · exact ⟨none, 0, by rw [h1, h2]⟩
    · exact ⟨_, cap, h1⟩
  have e0 : w1.cell? ⟨x, 0, none⟩ = some (.slice ha0 t.H.length hc0) := hT1.own.val 0 rfl
  have hxl1 : x < w1.heap.size := Blk.lt hT1.own
  have HF := Lib.hid (And.intro hA1 (And.intro hT1 (And.intro hg1 (And.intro tD tAB))))
  clear hTb hAb hqb hA1 hq1 hg1 tD tAB hT1
  go_wp2_with (at_builtin; refine wpList_append_lies _ rfl _ _ 31 rfl Bt 57 i0 (.int .u64 0) 1 8 Tryz.underlying31 Z.out.1 Z.out.2.1 Z.out.2.2.1 Z.out.2.2.2 rfl (by decide) _ _ _ rfl (hrow.alloc _) ⟨w1.heap.size, 0, none⟩ 1 1 [.int .u64 z] rfl rfl (cell_one_new _ _ _) (by simp [Value.oneCell']) (by decide) (by unfold maxLen; omega) (by omega) (by simp; omega) (w1.heap.size + 1) (by simp) ?_; intro g cap w2 hown2 hgrow hat hlt; have t2 : Touch (fun b => (Value.slice ha0 t.H.length hc0).ownBlock = some b) w1 w2 := ((Touch.refl _ _).alloc _).grown hgrow (fun k hk => .inl hk); have hX2 := Blk.touch HF.out.2.1.own t2 (own_neP hrow HF.out.2.1.own (by decide)); have e2 : w2.cell? ⟨x, 0, none⟩ = some (.slice ha0 t.H.length hc0) := hX2.val 0 rfl; have f2 := hX2.frozen 0)
  have t3 : Touch (fun b => (Value.slice ha0 t.H.length hc0).ownBlock = some b ∨ b = x) w1 (w2.setCell ⟨x, 0, none⟩ (.slice (some ⟨g, 0, none⟩) (t.H.length + 1) cap)) := Touch.setCell (t2.mono (fun _ _ h => .inl h)) (.inr rfl) _
  have hnew : ∀ b, (Value.slice (some ⟨g, 0, none⟩) (t.H.length + 1) cap).ownBlock = some b → (Value.slice ha0 t.H.length hc0).ownBlock = some b ∨ w1.heap.size ≤ b := fun b h => by
    obtain rfl : g = b := Option.some.inj h
    rcases hat with h2 | h2
    · exact .inl h2
    · exact .inr (by omega)
  have nl : ∀ b, lv'.ownBlock = some b → ¬ ((Value.slice ha0 t.H.length hc0).ownBlock = some b ∨ b = x) := fun b h h2 => by
    rcases HF.out.2.2.1 b h with h3 | h3
    · rcases h2 with h2 | h2
      · exact hlh b h2 h3
      · exact hlx (h2 ▸ h3)
    · rcases h2 with h2 | h2
      · have := hhl b h2; omega
      · omega
  have hA3 : RefA (w2.setCell ⟨x, 0, none⟩ (.slice (some ⟨g, 0, none⟩) (t.H.length + 1) cap)) B M d (cs.set i (leftI t.k z t.wn t.p)) lv' (xs ++ accV who t.k i t.wn t.p z (leftI t.k z t.wn t.p)) (m + 1) f := by
    have h := HF.out.1
    exact ⟨Blk.touch h.own t3 (fun h2 => by rcases h2 with h2 | h2; exact hhM h2; exact hxM h2.symm), Blk.touch h.row t3 (fun h2 => by rcases h2 with h2 | h2; exact hhd h2; exact hxd h2.symm), own_touchP h.log t3 nl, h.md, h.lM, h.ld⟩
  have hT3 : TapeAt (w2.setCell ⟨x, 0, none⟩ (.slice (some ⟨g, 0, none⟩) (t.H.length + 1) cap)) Bt x (.slice (some ⟨g, 0, none⟩) (t.H.length + 1) cap) { t with H := t.H ++ [z] } := by
    refine ⟨hX2.set 0 _, ?_⟩
    have h := own_touchP (R := fun b => b = x) hown2 (Touch.setCell (R := fun b => b = x) (p := ⟨x, 0, none⟩) (Touch.refl _ _) rfl (.slice (some ⟨g, 0, none⟩) (t.H.length + 1) cap)) (fun b h h2 => own_neP hown2 hX2 (by decide) (by rw [← h2]; exact h))
    simpa using h
  have H3 := Lib.hid (And.intro hA3 (And.intro hT3 t3))
  clear hA3 hT3 t3 t2 hown2 hgrow hX2 hrow
  go_wp2
  go_end0
  refine ⟨⟨_, rfl⟩, lv', _, H3.out.1, H3.out.2.1, fun b h => ?_, fun b h => ?_, fun b h h2 => ?_, ?_⟩
  · rcases HF.out.2.2.1 b h with h3 | h3
    · exact .inl h3
    · exact .inr (by omega)
  · rcases hnew b h with h3 | h3
    · exact .inl h3
    · exact .inr (by omega)
  · rcases hnew b h with h3 | h3
    · exact nl b h2 (.inl h3)
    · have := (HF.out.1.log.lt b h2).2; omega
  · have tD := HF.out.2.2.2.1
    have tAB := HF.out.2.2.2.2
    have tW : Touch (fun b => b = M ∨ b = d ∨ lv.ownBlock = some b ∨ b = x ∨ (Value.slice ha0 t.H.length hc0).ownBlock = some b) w w1 := ⟨tD.os.trans tAB.os, tD.tape.trans tAB.tape, tD.output.trans tAB.output, Nat.le_trans tAB.size tD.size, fun k hk hn => (tD.block k (Nat.lt_of_lt_of_le hk tAB.size) (fun h => by
      rcases h with h | h | h | h
      · exact hn (.inl h)
      · exact hn (.inr (.inl h))
      · omega
      · exact hn (.inr (.inr (.inl h))))).trans (tAB.block k hk (fun e => e))⟩
    refine tW.trans (H3.out.2.2.mono (fun b _ h => ?_))
    rcases h with h | h
    · exact .inr (.inr (.inr (.inr h)))
    · exact .inr (.inr (.inr (.inl h)))
end Go.Proofs.YtpoddnfooaddgaaGreatDoor
/- ObjectsBuilds: the machine and the tape side by side, as one fact; what each call leaves of it. No condition but that the blocks are there. -/
namespace Go.Proofs.YtpoddnfooaddgaaGreatDoor
open Go.RowKit
set_option linter.unusedVariables false
theorem RefA.touchO {R : Nat → Prop} {w w' : World} {B M d : Nat} {cs : List Int} {lv : Value} {xs : List Value} {m : Nat} {f : Int} (h : RefA w B M d cs lv xs m f) (ht : Touch R w w') (h1 : ¬ R M) (h2 : ¬ R d) (h3 : ∀ g, lv.ownBlock = some g → ¬ R g) : RefA w' B M d cs lv xs m f :=
  ⟨Blk.touch h.own ht h1, Blk.touch h.row ht h2, own_touchP h.log ht h3, h.md, h.lM, h.ld⟩
theorem Arx.touchAdd {R : Nat → Prop} {w w' : World} {B a c : Nat} {cs : List Int} {xs : List Value} {n : Nat} {K : List Nat} (h : Arx w B a c cs xs n K) (ht : Touch R w w') (hR : ∀ b, R b → b ∈ K) : Arx w' B a c cs xs n (between w.heap.size w'.heap.size ++ K) := by
  have la := h.a_lt
  have lc := h.c_lt
  obtain ⟨⟨lv, hL, hg⟩, h1, h2, h3, h4, h5, h6⟩ := h
  have lg := fun g hg => (hL.own.lt g hg).2
  refine ⟨⟨lv, hL.touch ht (fun r => h1 (hR _ r)) (fun r => h2 (hR _ r)) (fun g e r => hg g e (hR _ r)), fun g e r => ?_⟩, fun r => ?_, fun r => ?_, fun b hb => ?_, h4, h5, Nat.le_trans h6 ht.size⟩
  · rcases List.mem_append.1 r with r | r
    · have := (mem_between.1 r).1; have := lg g e; omega
    · exact hg g e r
  · rcases List.mem_append.1 r with r | r
    · have := (mem_between.1 r).1; omega
    · exact h1 r
  · rcases List.mem_append.1 r with r | r
    · have := (mem_between.1 r).1; omega
    · exact h2 r
  · rcases List.mem_append.1 hb with r | r
    · exact (mem_between.1 r).2
    · exact Nat.lt_of_lt_of_le (h3 b r) ht.size
def obL (rb P5 M d xa m p : Nat) : List Nat := [rb, P5, M, d, xa, m, p]
structure OuT (w0 : World) (rb P5 B a c p m M d xa x : Nat) (H left k1 k2 k3 : Int) (cs : List Int) (F : Nat → Nat → Int) (n : Nat) (cs2 : List Int) (F2 : Nat → Nat → Int) (n2 : Nat) (t : Tp) (o : Bool) (K : List Nat) (lm hv : Value) (W : World) : Prop where
  mach : BuildAt W m x H left
  arx : Arx W B a c cs (flat F (List.range n)) n K
  port : PortAt W p a 2 o
  doc : RefA W B M d cs2 lm (flat F2 (List.range n2)) n2 0
  tape : TapeAt W B xa hv t
  res : Blk W rb #[.bool false] 4
  hd : Blk W P5 #[.int .i64 k1, .int .i64 k2, .int .i64 k3] 25
  bel : Below w0.heap.size w0 W
  inK : ∀ b ∈ obL rb P5 M d xa m p, b ∈ K
  lmK : ∀ g, lm.ownBlock = some g → g ∈ K
  hvK : ∀ g, hv.ownBlock = some g → g ∈ K
  nd : (obL rb P5 M d xa m p).Nodup
  lmn : ∀ g, lm.ownBlock = some g → g ∉ obL rb P5 M d xa m p ∧ hv.ownBlock ≠ some g
  hvn : ∀ g, hv.ownBlock = some g → g ∉ obL rb P5 M d xa m p
  lo : ∀ b ∈ obL rb P5 M d xa m p, w0.heap.size ≤ b
  lB : w0.heap.size ≤ B
theorem nd7 {a b c d e f g : Nat} (h : ([a, b, c, d, e, f, g] : List Nat).Nodup) :
    ((a ≠ b ∧ a ≠ c ∧ a ≠ d ∧ a ≠ e ∧ a ≠ f ∧ a ≠ g) ∧ (b ≠ c ∧ b ≠ d ∧ b ≠ e ∧ b ≠ f ∧ b ≠ g) ∧ (c ≠ d ∧ c ≠ e ∧ c ≠ f ∧ c ≠ g) ∧ (d ≠ e ∧ d ≠ f ∧ d ≠ g) ∧ (e ≠ f ∧ e ≠ g) ∧ f ≠ g) ∧
    ((b ≠ a ∧ c ≠ a ∧ d ≠ a ∧ e ≠ a ∧ f ≠ a ∧ g ≠ a) ∧ (c ≠ b ∧ d ≠ b ∧ e ≠ b ∧ f ≠ b ∧ g ≠ b) ∧ (d ≠ c ∧ e ≠ c ∧ f ≠ c ∧ g ≠ c) ∧ (e ≠ d ∧ f ≠ d ∧ g ≠ d) ∧ (f ≠ e ∧ g ≠ e) ∧ g ≠ f) := by
  simp only [List.nodup_cons, List.mem_cons, List.not_mem_nil, or_false, not_or, not_false_eq_true, List.nodup_nil, and_true] at h
  obtain ⟨⟨h1, h2, h3, h4, h5, h6⟩, ⟨h7, h8, h9, h10, h11⟩, ⟨h12, h13, h14, h15⟩, ⟨h16, h17, h18⟩, ⟨h19, h20⟩, h21⟩ := h
  exact ⟨⟨⟨h1, h2, h3, h4, h5, h6⟩, ⟨h7, h8, h9, h10, h11⟩, ⟨h12, h13, h14, h15⟩, ⟨h16, h17, h18⟩, ⟨h19, h20⟩, h21⟩, ⟨Ne.symm h1, Ne.symm h2, Ne.symm h3, Ne.symm h4, Ne.symm h5, Ne.symm h6⟩, ⟨Ne.symm h7, Ne.symm h8, Ne.symm h9, Ne.symm h10, Ne.symm h11⟩, ⟨Ne.symm h12, Ne.symm h13, Ne.symm h14, Ne.symm h15⟩, ⟨Ne.symm h16, Ne.symm h17, Ne.symm h18⟩, ⟨Ne.symm h19, Ne.symm h20⟩, Ne.symm h21⟩
section
variable {w0 W W' : World} {rb P5 B a c p m M d xa x : Nat} {H left k1 k2 k3 : Int} {cs : List Int} {F : Nat → Nat → Int} {n : Nat} {cs2 : List Int} {F2 : Nat → Nat → Int} {n2 : Nat} {t : Tp} {o : Bool} {K : List Nat} {lm hv : Value}
theorem OuT.grew (h : OuT w0 rb P5 B a c p m M d xa x H left k1 k2 k3 cs F n cs2 F2 n2 t o K lm hv W) (hb : Below W.heap.size W W') : OuT w0 rb P5 B a c p m M d xa x H left k1 k2 k3 cs F n cs2 F2 n2 t o K lm hv W' :=
  have ht : Touch (fun _ => False) W W' := .of hb
  { h with mach := h.mach.grew hb, arx := h.arx.grew hb, port := h.port.grew hb, doc := h.doc.touchO ht (fun e => e) (fun e => e) (fun _ _ e => e), tape := h.tape.touch ht (fun e => e) (fun _ _ e => e), res := h.res.grew hb, hd := h.hd.grew hb, bel := h.bel.trans (hb.mono h.bel.size) }
theorem OuT.quiet (h : OuT w0 rb P5 B a c p m M d xa x H left k1 k2 k3 cs F n cs2 F2 n2 t o K lm hv W) (hq : Quiet W W') : OuT w0 rb P5 B a c p m M d xa x H left k1 k2 k3 cs F n cs2 F2 n2 t o K lm hv W' := h.grew hq.below
theorem OuT.ask (h : OuT w0 rb P5 B a c p m M d xa x H left k1 k2 k3 cs F n cs2 F2 n2 t o K lm hv W) {t' : Tp} (hT : TapeAt W' B xa hv t') (ht : Touch (· = xa) W W') : OuT w0 rb P5 B a c p m M d xa x H left k1 k2 k3 cs F n cs2 F2 n2 t' o K lm hv W' := by
  have nd := nd7 h.nd
  exact { h with
    mach := Blk.touch h.mach ht (by simp [nd]), arx := h.arx.touch ht (fun b e => by subst e; exact h.inK _ (by simp [obL])), port := h.port.touch ht (by simp [nd]),
    doc := h.doc.touchO ht (by simp [nd]) (by simp [nd]) (fun g e r => (h.lmn g e).1 (by simp [obL, r])), tape := hT, res := h.res.touch ht (by simp [nd]), hd := h.hd.touch ht (by simp [nd]),
    bel := h.bel.trans (ht.below h.bel.size (fun b e => by subst e; exact h.lo _ (by simp [obL]))) }
theorem OuT.bu (h : OuT w0 rb P5 B a c p m M d xa x H left k1 k2 k3 cs F n cs2 F2 n2 t o K lm hv W) : BuS W B a c p m x H left cs (flat F (List.range n)) n K 2 o W := BuS.start h.mach h.arx h.port
/-- the machine's side has moved -/
theorem OuT.moved (h : OuT w0 rb P5 B a c p m M d xa x H left k1 k2 k3 cs F n cs2 F2 n2 t o K lm hv W) {left' : Int} {cs' : List Int} {F' : Nat → Nat → Int} {n' : Nat} {o' : Bool} (hB : BuS W B a c p m x H left' cs' (flat F' (List.range n')) n' K 2 o' W') :
    OuT w0 rb P5 B a c p m M d xa x H left' k1 k2 k3 cs' F' n' cs2 F2 n2 t o' K lm hv W' := by
  have nd := nd7 h.nd
  have ht := hB.touch
  have no : ∀ b, b ∈ [rb, P5, M, d, xa] → ¬ (b = p ∨ b = m ∨ (B ≤ b ∧ b ∉ K)) := by
    intro b hb r
    have q : b ≠ p ∧ b ≠ m ∧ b ∈ obL rb P5 M d xa m p := by
      unfold obL
      simp only [List.mem_cons, List.not_mem_nil, or_false] at hb
      rcases hb with rfl | rfl | rfl | rfl | rfl <;> simp [nd]
    rcases r with r | r | r
    · exact q.1 r
    · exact q.2.1 r
    · exact r.2 (h.inK b q.2.2)
  have nl : ∀ g, g ∉ obL rb P5 M d xa m p → g ∈ K → ¬ (g = p ∨ g = m ∨ (B ≤ g ∧ g ∉ K)) := by
    intro g h1 h2 r
    rcases r with r | r | r
    · exact h1 (by simp [obL, r])
    · exact h1 (by simp [obL, r])
    · exact r.2 h2
  exact { h with
    mach := hB.mach, arx := hB.arx, port := hB.port,
    doc := h.doc.touchO ht (no M (by simp)) (no d (by simp)) (fun g e => nl g (h.lmn g e).1 (h.lmK g e)), tape := h.tape.touch ht (no xa (by simp)) (fun g e => nl g (h.hvn g e) (h.hvK g e)), res := h.res.touch ht (no rb (by simp)), hd := h.hd.touch ht (no P5 (by simp)),
    bel := h.bel.trans (ht.below h.bel.size (fun b e => by
      rcases e with rfl | rfl | e
      · exact h.lo _ (by simp [obL])
      · exact h.lo _ (by simp [obL])
      · exact Nat.le_trans h.lB e.1)) }
/-- the document's arena makes what the tape asks -/
theorem OuT.made (h : OuT w0 rb P5 B a c p m M d xa x H left k1 k2 k3 cs F n cs2 F2 n2 t o K lm hv W) {cs3 : List Int} {F3 : Nat → Nat → Int} {n3 : Nat} {t' : Tp} {lm' hv' : Value} (hD : RefA W' B M d cs3 lm' (flat F3 (List.range n3)) n3 0) (hT : TapeAt W' B xa hv' t')
    (g1 : ∀ g, lm'.ownBlock = some g → lm.ownBlock = some g ∨ W.heap.size ≤ g) (g2 : ∀ g, hv'.ownBlock = some g → hv.ownBlock = some g ∨ W.heap.size ≤ g) (g3 : ∀ g, hv'.ownBlock = some g → lm'.ownBlock ≠ some g)
    (ht : Touch (fun b => b = M ∨ b = d ∨ lm.ownBlock = some b ∨ b = xa ∨ hv.ownBlock = some b) W W') :
    OuT w0 rb P5 B a c p m M d xa x H left k1 k2 k3 cs F n cs3 F3 n3 t' o (between W.heap.size W'.heap.size ++ K) lm' hv' W' := by
  have nd := nd7 h.nd
  have hl : ∀ b ∈ obL rb P5 M d xa m p, b < W.heap.size := fun b hb => h.arx.lt b (h.inK b hb)
  have l1 := fun g e => (hD.log.lt g e).2
  have l2 := fun g e => (hT.row.lt g e).2
  have no : ∀ b, b ∈ [rb, P5, m, p] → ¬ (b = M ∨ b = d ∨ lm.ownBlock = some b ∨ b = xa ∨ hv.ownBlock = some b) := by
    intro b hb r
    have q : b ≠ M ∧ b ≠ d ∧ b ≠ xa ∧ b ∈ obL rb P5 M d xa m p := by
      unfold obL
      simp only [List.mem_cons, List.not_mem_nil, or_false] at hb
      rcases hb with rfl | rfl | rfl | rfl <;> simp [nd]
    rcases r with r | r | r | r | r
    · exact q.1 r
    · exact q.2.1 r
    · exact (h.lmn b r).1 q.2.2.2
    · exact q.2.2.1 r
    · exact h.hvn b r q.2.2.2
  have inR : ∀ b, (b = M ∨ b = d ∨ lm.ownBlock = some b ∨ b = xa ∨ hv.ownBlock = some b) → b ∈ K := by
    intro b r
    rcases r with rfl | rfl | r | rfl | r
    · exact h.inK _ (by simp [obL])
    · exact h.inK _ (by simp [obL])
    · exact h.lmK b r
    · exact h.inK _ (by simp [obL])
    · exact h.hvK b r
  have loR : ∀ b, (b = M ∨ b = d ∨ lm.ownBlock = some b ∨ b = xa ∨ hv.ownBlock = some b) → w0.heap.size ≤ b := by
    intro b r
    rcases r with rfl | rfl | r | rfl | r
    · exact h.lo _ (by simp [obL])
    · exact h.lo _ (by simp [obL])
    · exact Nat.le_trans h.lB (h.doc.log.lt b r).1
    · exact h.lo _ (by simp [obL])
    · exact Nat.le_trans h.lB (h.tape.row.lt b r).1
  exact { h with
    mach := Blk.touch h.mach ht (no m (by simp)), arx := h.arx.touchAdd ht inR, port := h.port.touch ht (no p (by simp)), doc := hD, tape := hT, res := h.res.touch ht (no rb (by simp)), hd := h.hd.touch ht (no P5 (by simp)),
    bel := h.bel.trans (ht.below h.bel.size loR),
    inK := fun b hb => List.mem_append_right _ (h.inK b hb),
    lmK := fun g e => (g1 g e).elim (fun r => List.mem_append_right _ (h.lmK g r)) (fun r => List.mem_append_left _ (mem_between.2 ⟨r, l1 g e⟩)),
    hvK := fun g e => (g2 g e).elim (fun r => List.mem_append_right _ (h.hvK g r)) (fun r => List.mem_append_left _ (mem_between.2 ⟨r, l2 g e⟩)),
    lmn := fun g e => ⟨(g1 g e).elim (fun r => (h.lmn g r).1) (fun r hb => by have := hl g hb; omega), fun r => g3 g r e⟩,
    hvn := fun g e => (g2 g e).elim (fun r => h.hvn g r) (fun r hb => by have := hl g hb; omega) }
end
end Go.Proofs.YtpoddnfooaddgaaGreatDoor
/- ObjectsBuilds: a round of the law: what each of its calls leaves of the machine beside its tape. No condition but that the blocks are there. -/
namespace Go.Proofs.YtpoddnfooaddgaaGreatDoor
open Go.RowKit
set_option linter.unusedVariables false
section
variable {w0 W W' : World} {rb P5 B a c p m M d xa x : Nat} {H left k1 k2 k3 : Int} {cs : List Int} {F : Nat → Nat → Int} {n : Nat} {cs2 : List Int} {F2 : Nat → Nat → Int} {n2 : Nat} {t : Tp} {o : Bool} {K : List Nat} {lm hv : Value}
theorem OuT.mp (h : OuT w0 rb P5 B a c p m M d xa x H left k1 k2 k3 cs F n cs2 F2 n2 t o K lm hv W) : m ≠ p ∧ m ∈ K ∧ p ∈ K := by
  have nd := nd7 h.nd
  exact ⟨by simp [nd], h.inK _ (by simp [obL]), h.inK _ (by simp [obL])⟩
theorem OuT.again (h : OuT w0 rb P5 B a c p m M d xa x H left k1 k2 k3 cs F n cs2 F2 n2 t o K lm hv W) :
    Calls Tryz.prog 18 #[.pointer (some ⟨xa, 0, none⟩)] W fun e w' => (∃ v, e = .returned v) ∧ OuT w0 rb P5 B a c p m M d xa x H left k1 k2 k3 cs F n cs2 F2 n2 t.again o K lm hv w' :=
  (again_at B xa hv t W h.tape).mono fun _ _ ⟨he, hT, ht⟩ => ⟨he, h.ask hT ht⟩
theorem OuT.build {N : Nat} (h : OuT w0 rb P5 B a c p m M d xa x H left k1 k2 k3 cs F n cs2 F2 n2 t o K lm hv W)
    (BE : ∀ (B xa : Nat) (hv : Value) (t : Tp) (W : World) (X' : Nat), TapeAt W B xa hv t → t.pos = 0 → t.st = false → t.H.length ≤ N → X' ≤ 100000 → Calls Tryz.prog 19 #[.pointer (some ⟨xa, 0, none⟩), .int .i64 (X' : Int), .agg #[.int .i64 k1, .int .i64 k2, .int .i64 (N : Int)]] W fun e w' => e = .returned (.bool false) ∧ TapeAt w' B xa hv (tpB t X' N H) ∧ Touch (fun x => x = xa) W w')
    (h0 : t.pos = 0) (h1 : t.st = false) (hH : t.H.length ≤ N) (hx : x ≤ 100000) :
    Calls Tryz.prog 19 #[.pointer (some ⟨xa, 0, none⟩), .int .i64 (x : Int), .agg #[.int .i64 k1, .int .i64 k2, .int .i64 (N : Int)]] W fun e w' => e = .returned (.bool false) ∧ OuT w0 rb P5 B a c p m M d xa x H left k1 k2 k3 cs F n cs2 F2 n2 (tpB t x N H) o K lm hv w' :=
  (BE B xa hv t W x h.tape h0 h1 hH hx).mono fun _ _ ⟨he, hT, ht⟩ => ⟨he, h.ask hT ht⟩
theorem OuT.grant (h : OuT w0 rb P5 B a c p m M d xa x H left k1 k2 k3 cs F n cs2 F2 n2 t o K lm hv W) :
    Calls Tryz.prog 20 #[.pointer (some ⟨p, 0, none⟩)] W fun e w' => (∃ v, e = .returned v) ∧ OuT w0 rb P5 B a c p m M d xa x H left k1 k2 k3 cs F n cs2 F2 n2 t true K lm hv w' :=
  (h.bu.grant h.mp.1 h.mp.2.2).mono fun _ _ ⟨he, hB⟩ => ⟨he, h.moved hB⟩
theorem OuT.make (h : OuT w0 rb P5 B a c p m M d xa x H left k1 k2 k3 cs F n cs2 F2 n2 t o K lm hv W) (i : Nat) (hk : t.k = 2) (ha : t.a = (i : Int)) (hi : i < cs2.length) (hn : n2 < 1000000) (hH : t.H.length < 1000000) :
    Calls Tryz.prog 21 #[.pointer (some ⟨M, 0, none⟩), .pointer (some ⟨xa, 0, none⟩), .int .i64 2] W fun e w' => (∃ v, e = .returned v) ∧ ∃ K' lm' hv',
      OuT w0 rb P5 B a c p m M d xa x H left k1 k2 k3 cs F n (cs2.set i t.p) (more F2 n2 2 2 i t.wn t.p (cs2.getD i 0) t.p) (n2 + 1) { t with H := t.H ++ [cs2.getD i 0] } o K' lm' hv' w' := by
  have nd := nd7 h.nd
  refine (make_yes 2 i h.doc h.tape (by simp [nd]) (by simp [nd]) (fun e => h.hvn M e (by simp [obL])) (fun e => h.hvn d e (by simp [obL])) (fun e => (h.lmn xa e).1 (by simp [obL])) (fun g e e2 => (h.lmn g e2).2 e) h.arx.bw h.arx.bw hn hH (by rw [hk]; rfl) ha hi).mono ?_
  rintro e w' ⟨he, lm', hv', hD, hT, g1, g2, g3, ht⟩
  refine ⟨he, _, lm', hv', h.made ?_ hT g1 g2 g3 ht⟩
  rw [flat_more]
  rw [hk] at hD
  exact hD
theorem OuT.over (h : OuT w0 rb P5 B a c p m M d xa x H left k1 k2 k3 cs F n cs2 F2 n2 t o K lm hv W) :
    Calls Tryz.prog 17 #[.pointer (some ⟨m, 0, none⟩)] W fun e w' => e = .returned (.bool (left == 0)) ∧ OuT w0 rb P5 B a c p m M d xa x H left k1 k2 k3 cs F n cs2 F2 n2 t o K lm hv w' :=
  (bover_any h.mach).mono fun _ _ ⟨he, hq⟩ => ⟨he, h.quiet hq⟩
theorem OuT.stepN {j : Nat} (h : OuT w0 rb P5 B a c p m M d xa x H ((j : Int) + 1) k1 k2 k3 cs F n cs2 F2 n2 t true K lm hv W) (hj : 1 ≤ j) (hj2 : j ≤ 1000) (hx : x ≤ 100000) (hn : n < 1000000) (hi : x + j < cs.length) :
    Calls Tryz.prog 16 #[.pointer (some ⟨m, 0, none⟩), .pointer (some ⟨p, 0, none⟩)] W fun e w' => e = .returned (.bool false) ∧
      OuT w0 rb P5 B a c p m M d xa x H (j : Int) k1 k2 k3 (cs.set (x + j) 0) (more F n 2 2 ((x + j : Nat) : Int) 0 0 (cs.getD (x + j) 0) 0) (n + 1) cs2 F2 n2 t false K lm hv w' :=
  (bstep_more j h.bu hj hj2 hx h.mp.1 h.mp.2.1 h.mp.2.2 hn hi).mono fun _ _ ⟨he, hB⟩ => ⟨he, h.moved (by rw [flat_more]; exact hB)⟩
theorem OuT.stepL (h : OuT w0 rb P5 B a c p m M d xa x H 1 k1 k2 k3 cs F n cs2 F2 n2 t true K lm hv W) (hn : n < 1000000) (hi : x < cs.length) :
    Calls Tryz.prog 16 #[.pointer (some ⟨m, 0, none⟩), .pointer (some ⟨p, 0, none⟩)] W fun e w' => e = .returned (.bool true) ∧
      OuT w0 rb P5 B a c p m M d xa x H 0 k1 k2 k3 (cs.set x H) (more F n 2 2 (x : Int) 0 H (cs.getD x 0) H) (n + 1) cs2 F2 n2 t false K lm hv w' :=
  (bstep_last h.bu h.mp.1 h.mp.2.1 h.mp.2.2 hn hi).mono fun _ _ ⟨he, hB⟩ => ⟨he, h.moved (by rw [flat_more]; exact hB)⟩
end
end Go.Proofs.YtpoddnfooaddgaaGreatDoor
/- SameLog of the document at two logs of the same accesses. No condition but that they are short. -/
namespace Go.Proofs.YtpoddnfooaddgaaGreatDoor
open Go.RowKit
set_option linter.unusedVariables false
theorem fields7 {l : List Field} {t u : TypeId} (h : l.map (fun f => (f.type, f.offset, f.name == "_")) = [(t, 0, false), (t, 1, false), (t, 2, false), (u, 3, false), (u, 4, false), (u, 5, false), (u, 6, false)]) :
    ∃ f0 f1 f2 f3 f4 f5 f6, l = [f0, f1, f2, f3, f4, f5, f6] ∧ (f0.type = t ∧ f0.offset = 0 ∧ ¬ f0.name = "_") ∧ (f1.type = t ∧ f1.offset = 1 ∧ ¬ f1.name = "_") ∧ (f2.type = t ∧ f2.offset = 2 ∧ ¬ f2.name = "_") ∧
      (f3.type = u ∧ f3.offset = 3 ∧ ¬ f3.name = "_") ∧ (f4.type = u ∧ f4.offset = 4 ∧ ¬ f4.name = "_") ∧ (f5.type = u ∧ f5.offset = 5 ∧ ¬ f5.name = "_") ∧ (f6.type = u ∧ f6.offset = 6 ∧ ¬ f6.name = "_") := by
  rcases l with _ | ⟨f0, _ | ⟨f1, _ | ⟨f2, _ | ⟨f3, _ | ⟨f4, _ | ⟨f5, _ | ⟨f6, _ | ⟨f7, l⟩⟩⟩⟩⟩⟩⟩⟩ <;> simp only [List.map_cons, List.map_nil, List.cons.injEq, Prod.mk.injEq, beq_eq_false_iff_ne, ne_eq, and_true, reduceCtorEq, and_false] at h
  exact ⟨f0, f1, f2, f3, f4, f5, f6, rfl, h.1, h.2.1, h.2.2.1, h.2.2.2.1, h.2.2.2.2.1, h.2.2.2.2.2.1, h.2.2.2.2.2.2⟩
theorem neq_acc (w : World) (a b c x y z u : Int) :
    (binOp .neq 59 (.agg #[.int .i64 a, .int .i64 b, .int .i64 c, .int .u64 x, .int .u64 y, .int .u64 z, .int .u64 u]) (.agg #[.int .i64 a, .int .i64 b, .int .i64 c, .int .u64 x, .int .u64 y, .int .u64 z, .int .u64 u])).run Tryz.prog w = .ok (.bool false) w := by
  rw [run_neq_struct, run_equalIn_agg w 9999 _ _ _ (by kernel_rfl) (by kernel_rfl)]
  obtain ⟨f0, f1, f2, f3, f4, f5, f6, hl, ⟨a1, a2, a3⟩, ⟨b1, b2, b3⟩, ⟨c1, c2, c3⟩, ⟨d1, d2, d3⟩, ⟨e1, e2, e3⟩, ⟨g1, g2, g3⟩, h1, h2, h3⟩ := fields7 (l := (Tryz.prog.fieldsOf 59).toList) (t := 3) (u := 57) (by kernel_rfl)
  rw [hl]
  have hi : Tryz.prog.underlying 3 = some (.int .i64) := by kernel_rfl
  have hj : Tryz.prog.underlying 57 = some (.int .u64) := by kernel_rfl
  simp [Op.eqFields, a1, a2, a3, b1, b2, b3, c1, c2, c3, d1, d2, d3, e1, e2, e3, g1, g2, g3, h1, h2, h3, go_sem, hi, hj]
theorem guard_acc : Tryz.prog.eqGuardType Tryz.prog.depth 59 = false := by kernel_rfl

set_option maxHeartbeats 2000000 in
theorem same_rows (b1 c1 b2 c2 n : Nat) (F : Nat → Nat → Int) (w : World) (hm : n ≤ 1000) (h1 : LogRow w b1 n F) (h2 : LogRow w b2 n F) :
    Calls Tryz.prog 23 #[.slice (some ⟨b1, 0, none⟩) n c1, .slice (some ⟨b2, 0, none⟩) n c2] w fun e w' => e = .returned (.bool true) ∧ Quiet w w' := by
  have hne : ((n : Int) != (n : Int)) = false := by simp
  have R1 := Lib.hid (fun k (hk : k < n) => h1.cell k hk)
  have R2 := Lib.hid (fun k (hk : k < n) => h2.cell k hk)
  have hG := guard_acc
  clear h1 h2
  go_enter Tryz.func23, Tryz.ntmps23
  go_wp2
  go_loopw [5] (fun i wr => ∃ k : Nat, k ≤ n ∧ i = .int .i64 k ∧ Quiet w wr) (fun i _ => n - (intOf i).toNat)
  case atStart => exact ⟨0, Nat.zero_le _, rfl, Quiet.refl _⟩
  case round =>
    obtain ⟨k, hk, rfl, hq⟩ := hrel
    by_cases hlt : k < n
    · obtain ⟨p0, p1, p2, p3, p4, p5, p6⟩ := R1.out k hlt
      obtain ⟨q0, q1, q2, q3, q4, q5, q6⟩ := R2.out k hlt
      have p0 := (hq.cell _).trans p0
      have p1 := (hq.cell _).trans p1
      have p2 := (hq.cell _).trans p2
      have p3 := (hq.cell _).trans p3
      have p4 := (hq.cell _).trans p4
      have p5 := (hq.cell _).trans p5
      have p6 := (hq.cell _).trans p6
      have q0 := (hq.cell _).trans q0
      have q1 := (hq.cell _).trans q1
      have q2 := (hq.cell _).trans q2
      have q3 := (hq.cell _).trans q3
      have q4 := (hq.cell _).trans q4
      have q5 := (hq.cell _).trans q5
      have q6 := (hq.cell _).trans q6
      have hE := fun W => neq_acc W (F k 0) (F k 1) (F k 2) (F k 3) (F k 4) (F k 5) (F k 6)
      have hlt' : (k : Int) < (n : Int) := by omega
      have hge' : (0 : Int) ≤ (k : Int) := by omega
      have h0n : 0 < n := by omega
      generalize F k 0 = z0 at *
      generalize F k 1 = z1 at *
      generalize F k 2 = z2 at *
      generalize F k 3 = z3 at *
      generalize F k 4 = z4 at *
      generalize F k 5 = z5 at *
      generalize F k 6 = z6 at *
      go_wp2
      go_quiet (fail)
      go_wp2
      go_roundw
      case rel => exact ⟨k + 1, by omega, by go_num, hq.trans ⟨_, rfl⟩⟩
      case measure => simp [intOf]; omega
    · go_wp2
      go_ret
      exact ⟨rfl, hq⟩
set_option maxHeartbeats 400000 in
theorem same_none (a1 a2 : Option Addr) (c1 c2 : Nat) (w : World) :
    Calls Tryz.prog 23 #[.slice a1 0 c1, .slice a2 0 c2] w fun e w' => e = .returned (.bool true) ∧ Quiet w w' := by
  go_enter Tryz.func23, Tryz.ntmps23
  go_wp2
  go_loopw [5] (fun i wr => i = .int .i64 0 ∧ Quiet w wr) (fun _ _ => 0)
  case atStart => exact ⟨rfl, Quiet.refl _⟩
  case round =>
    obtain ⟨rfl, hq⟩ := hrel
    go_wp2
    go_ret
    exact ⟨rfl, hq⟩
theorem same_own {w : World} {B1 B2 m : Nat} {v1 v2 : Value} {F : Nat → Nat → Int} (h1 : w.ownsRow B1 59 7 v1 m (flat F (List.range m))) (h2 : w.ownsRow B2 59 7 v2 m (flat F (List.range m))) (hm : m ≤ 1000) :
    Calls Tryz.prog 23 #[v1, v2] w fun e w' => e = .returned (.bool true) ∧ Quiet w w' := by
  obtain ⟨a1, c1, rfl⟩ := row_form h1
  obtain ⟨a2, c2, rfl⟩ := row_form h2
  by_cases h0 : 0 < m
  · obtain ⟨b1, rfl, -, r1⟩ := logrow h1 h0
    obtain ⟨b2, rfl, -, r2⟩ := logrow h2 h0
    exact same_rows b1 c1 b2 c2 m F w hm r1 r2
  · obtain rfl : m = 0 := by omega
    exact same_none a1 a2 c1 c2 w
end Go.Proofs.YtpoddnfooaddgaaGreatDoor
/- What Words of the document returns at two slices of the same words. No condition. -/
namespace Go.Proofs.YtpoddnfooaddgaaGreatDoor
open Go.RowKit
set_option maxHeartbeats 1000000 in
theorem words_rows (b1 o1 c1 b2 o2 c2 n : Nat) (zs : List Int) (w : World) (h0 : 0 < n) (hm : n ≤ maxLen)
    (hc1 : Hid (∀ i, i < n → w.cell? ⟨b1, o1 + i, none⟩ = some (.int .u64 (zs.getD i 0)))) (hc2 : Hid (∀ i, i < n → w.cell? ⟨b2, o2 + i, none⟩ = some (.int .u64 (zs.getD i 0)))) :
    Calls Tryz.prog 24 #[.slice (some ⟨b1, o1, none⟩) n c1, .slice (some ⟨b2, o2, none⟩) n c2] w fun e w' => e = .returned (.bool true) ∧ Quiet w w' := by
  unfold maxLen at hm
  have hne : ((n : Int) != (n : Int)) = false := by simp
  go_enter Tryz.func24, Tryz.ntmps24
  go_wp2
  go_loopw [5] (fun i wr => ∃ k : Nat, k ≤ n ∧ i = .int .i64 k ∧ Quiet w wr) (fun i _ => n - (intOf i).toNat)
  case atStart => exact ⟨0, Nat.zero_le _, rfl, Quiet.refl _⟩
  case round =>
    obtain ⟨k, hk, rfl, hq⟩ := hrel
    by_cases hlt : k < n
    · have e1 := (hq.cell ⟨b1, o1 + k, none⟩).trans (hc1.out k hlt)
      have e2 := (hq.cell ⟨b2, o2 + k, none⟩).trans (hc2.out k hlt)
      have hlt' : (k : Int) < (n : Int) := by omega
      have hge' : (0 : Int) ≤ (k : Int) := by omega
      generalize zs.getD k 0 = V at *
      have hv : (V != V) = false := by simp
      go_wp2
      go_quiet (fail)
      go_wp2
      go_roundw
      case rel => exact ⟨k + 1, by omega, by go_num, hq.trans Quiet.drew⟩
      case measure => simp [intOf]; omega
    · go_wp2
      go_ret
      exact ⟨rfl, hq⟩
set_option maxHeartbeats 400000 in
theorem words_none (a1 a2 : Option Addr) (c1 c2 : Nat) (w : World) :
    Calls Tryz.prog 24 #[.slice a1 0 c1, .slice a2 0 c2] w fun e w' => e = .returned (.bool true) ∧ Quiet w w' := by
  go_enter Tryz.func24, Tryz.ntmps24
  go_wp2
  go_loopw [5] (fun i wr => i = .int .i64 0 ∧ Quiet w wr) (fun _ _ => 0)
  case atStart => exact ⟨rfl, Quiet.refl _⟩
  case round =>
    obtain ⟨rfl, hq⟩ := hrel
    go_wp2
    go_ret
    exact ⟨rfl, hq⟩
theorem words_anyWords (v1 v2 : Value) (zs : List Int) (w : World) (h1 : Lst .u64 w v1 zs) (h2 : Lst .u64 w v2 zs) :
    Calls Tryz.prog 24 #[v1, v2] w fun e w' => e = .returned (.bool true) ∧ Quiet w w' := by
  rcases h1 with ⟨rfl, a1, c1, rfl⟩ | ⟨b1, o1, c1, rfl, hp1, hm1, hc1⟩
  · rcases h2 with ⟨_, a2, c2, rfl⟩ | ⟨b2, o2, c2, rfl, hp2, _⟩
    · exact words_none a1 a2 c1 c2 w
    · exact absurd hp2 (by simp)
  · rcases h2 with ⟨rfl, a2, c2, rfl⟩ | ⟨b2, o2, c2, rfl, _, _, hc2⟩
    · exact absurd hp1 (by simp)
    · exact words_rows b1 o1 c1 b2 o2 c2 zs.length zs w hp1 hm1 hc1 hc2

end Go.Proofs.YtpoddnfooaddgaaGreatDoor
