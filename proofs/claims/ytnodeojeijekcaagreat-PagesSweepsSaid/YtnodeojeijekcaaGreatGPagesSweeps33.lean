/- Texts of this seat, one behind the other: each says at its head what it holds. No condition of its own. -/
import Derived.RangeFuncNested
import Derived.RangeFuncBound
import Derived.RangeFuncCalls
import Derived.RangeFuncLeaves
import Derived.RangeFuncFrom
import Derived.RangeFuncBox
import Derived.RangeFuncWrites
import Derived.Shelf.Abstract
import Derived.Shelf.RegionOpen
import Derived.WalkKit
import Derived.OwnWalkIn
import Derived.TacticsInMore
import Derived.LoopNIn
import Derived.LoopIn
import Derived.Deep.RegionLaw
import Derived.Deep.AppendLies
import Derived.Deep.Cut
import Derived.Test.YtnodeojeijekcaaGreatGB04
import Derived.Test.YtnodeojeijekcaaGreatGB10
import Derived.Test.YtnodeojeijekcaaGreatGB28
import Derived.Test.YtnodeojeijekcaaGreatGPagesSweeps29
import Derived.Test.YtnodeojeijekcaaGreatGPagesSweeps32
/- arena.Log: the iterator over the accesses that were kept: its contract. No condition but that the log lies there. -/
namespace Go.Proofs.YtnodeojeijekcaaGreat
open Go.RowKit Go.Shelf
set_option linter.unusedVariables false
attribute [local go_sem] Oper.semAt_some

/-- an access as a value -/
abbrev accA (F : Nat → Nat → Int) (i : Nat) : Array Value := #[.int .i64 (F i 0), .int .i64 (F i 1), .int .i64 (F i 2), .int .u64 (F i 3), .int .u64 (F i 4), .int .u64 (F i 5), .int .u64 (F i 6)]
abbrev logEnc (F : Nat → Nat → Int) (i : Nat) : Array Value := #[.int .i64 i, .agg (accA F i)]
theorem range_prefix (k N : Nat) (h : k ≤ N) : List.range k <+: List.range N := by
  obtain ⟨d, rfl⟩ := Nat.exists_eq_add_of_le h
  rw [List.range_add]
  exact List.prefix_append _ _

/-- the kept accesses, m of them, lie from ⟨b, 0⟩ on -/
structure LogRow (w : World) (b m : Nat) (F : Nat → Nat → Int) : Prop where
  cell : ∀ i, i < m → w.cell? ⟨b, i * 7, none⟩ = some (.int .i64 (F i 0)) ∧ w.cell? ⟨b, i * 7 + 1, none⟩ = some (.int .i64 (F i 1)) ∧ w.cell? ⟨b, i * 7 + 2, none⟩ = some (.int .i64 (F i 2)) ∧
    w.cell? ⟨b, i * 7 + 3, none⟩ = some (.int .u64 (F i 3)) ∧ w.cell? ⟨b, i * 7 + 4, none⟩ = some (.int .u64 (F i 4)) ∧ w.cell? ⟨b, i * 7 + 5, none⟩ = some (.int .u64 (F i 5)) ∧ w.cell? ⟨b, i * 7 + 6, none⟩ = some (.int .u64 (F i 6))
theorem LogRow.below {w w' : World} {b m n₀ : Nat} {F : Nat → Nat → Int} (h : LogRow w b m F) (hb : Below n₀ w w') (hlt : b < n₀) : LogRow w' b m F := ⟨fun i hi => by
  obtain ⟨h0, h1, h2, h3, h4, h5, h6⟩ := h.cell i hi
  exact ⟨(hb.cell (p := ⟨b, _, none⟩) hlt).trans h0, (hb.cell (p := ⟨b, _, none⟩) hlt).trans h1, (hb.cell (p := ⟨b, _, none⟩) hlt).trans h2, (hb.cell (p := ⟨b, _, none⟩) hlt).trans h3, (hb.cell (p := ⟨b, _, none⟩) hlt).trans h4, (hb.cell (p := ⟨b, _, none⟩) hlt).trans h5, (hb.cell (p := ⟨b, _, none⟩) hlt).trans h6⟩⟩

set_option maxRecDepth 100000 in
set_option maxHeartbeats 2000000 in
theorem log_stops (n : Nat) (hn : 1 ≤ n) (B n₀ b m c : Nat) (bp : Option Addr) (F : Nat → Nat → Int) (w : World) (hn₀ : n₀ ≤ w.heap.size) (hm : m ≤ 1000000) (hbp : 0 < m → bp = some ⟨b, 0, none⟩ ∧ b < n₀ ∧ LogRow w b m F) (hlt : B < w.heap.size) (hB : w.cell? ⟨B, 0, none⟩ = some (.slice bp m c)) :
    SeqStopsK Fence.wide n Tryz.prog 82 #[.pointer (some ⟨B, 0, none⟩)] (logEnc F) (Below n₀) (fun xs => xs = List.range m) (fun pre => pre <+: List.range m) m w :=
  fun l J Jx W hWW hAJ _ hY h0 => by
  have hB1 := (hWW.cell (p := ⟨B, 0, none⟩) hlt).trans hB
  have hsW := hWW.size
  have hL1 : 0 < m → bp = some ⟨b, 0, none⟩ ∧ b < n₀ ∧ LogRow W b m F := fun h => by
    obtain ⟨h1, h2, h3⟩ := hbp h
    exact ⟨h1, h2, h3.below hWW (by omega)⟩
  have hL := Lib.hid hL1
  clear hL1 hbp
  refine callsIn_of_wp Tryz.func82 rfl trivial ?_ rfl
  simp only [Tryz.ntmps82, List.size_toArray, List.length_cons, List.length_nil, Nat.reduceAdd, Nat.reduceSub, Array.replicate_succ, Array.replicate_zero, List.push_toArray, List.append_toArray, List.nil_append, List.cons_append]
  gi_wp2
  gi_loopw [7] (fun p wr => ∃ (k : Nat), k ≤ m ∧ p = .int .i64 k ∧ Hid (0 < m → bp = some ⟨b, 0, none⟩ ∧ b < n₀ ∧ LogRow wr b m F) ∧ Hid (n₀ ≤ wr.heap.size) ∧ Hid (W.heap.size ≤ wr.heap.size) ∧ J (List.range k) wr) (fun p _ => m - (intOf p).toNat)
  case atStart => exact ⟨0, by omega, rfl, hL, Lib.hid (by omega), Lib.hid (Nat.le_refl _), h0⟩
  case round =>
    obtain ⟨k, hk, rfl, hLr, hnr, hWr, hJ⟩ := hrel
    by_cases hkm : k < m
    · obtain ⟨rfl, hb, hrow⟩ := hLr.out (by omega)
      obtain ⟨r0, r1, r2, r3, r4, r5, r6⟩ := hrow.cell k hkm
      have hal := Below.alloc (Below.refl wr.heap.size wr) (Nat.le_refl _) (.cells (accA F k) 49)
      have hJ2 : J (List.range k) (wr.alloc (.cells (accA F k) 49)) := hAJ (List.range k) wr _ none hJ (World.grownBy_alloc wr _ none) (fun r e => by cases e)
      obtain ⟨fn, tmps, assign, body, hy, hRd⟩ := hY (List.range k) k _ hJ2 (by simpa using hkm)
      have HR := Lib.hid (List.range_succ (n := k))
      rw [← HR.out] at hRd
      dsimp only [logEnc, accA] at hy hRd hal
      have HL2 := Lib.hid (hrow.below hal (by have := hnr.out; omega))
      have hsz := Lib.hid hal.size
      clear hal
      clear hJ hJ2 hrow
      generalize F k 0 = q0 at *
      generalize F k 1 = q1 at *
      generalize F k 2 = q2 at *
      generalize F k 3 = q3 at *
      generalize F k 4 = q4 at *
      generalize F k 5 = q5 at *
      generalize F k 6 = q6 at *
      gi_wp2
      refine hRd.mono ?_
      rintro e W3 (⟨rfl, hJ3, hk3⟩ | ⟨rfl, hJx3⟩)
      · gi_wp2
        go_roundw
        case rel => exact ⟨k + 1, by omega, by go_num, Lib.hid (fun _ => ⟨by simp, hb, HL2.out.below hk3 hb⟩), Lib.hid (by have := hnr.out; have := hsz.out; have := hk3.size; omega), Lib.hid (by have := hWr.out; have := hsz.out; have := hk3.size; omega), hJ3⟩
        case measure => simp only [intOf]; omega
      · gi_wp2
        refine bodyPost_ret (results_none rfl _ _ _) rfl ?_
        exact ⟨⟨_, rfl⟩, .inr ⟨List.range (k + 1), range_prefix _ _ (by omega), hJx3⟩⟩
    · obtain rfl : k = m := by omega
      gi_wp2
      go_end0
      exact ⟨⟨_, rfl⟩, .inl ⟨_, rfl, hJ⟩⟩
end Go.Proofs.YtnodeojeijekcaaGreat
/- arena.Log, and what logged of the document tells: the accesses that were kept. Condition: at most 200 were kept. -/
namespace Go.Proofs.YtnodeojeijekcaaGreat
open Go.RowKit Go.Shelf
set_option linter.unusedVariables false
attribute [local go_sem] Oper.semAt_some

set_option maxHeartbeats 1000000 in
theorem log_any (a c : Nat) (cs : List Int) (keep : Bool) (bp : Option Addr) (m cp : Nat) (n f : Int) (w : World) (hA : ArenaAt w a c cs keep (.slice bp m cp) n f) :
    Calls Tryz.prog 58 #[.pointer (some ⟨a, 0, none⟩)] w fun e w' => e = .returned (.func (.func 82) #[] #[.pointer (some ⟨w.heap.size, 0, none⟩)]) ∧ Boxed w' w.heap.size 63 (.slice bp m cp) ∧ Below w.heap.size w w' ∧ w'.heap.size = w.heap.size + 1 := by
  have hc2 : w.cell? ⟨a, 2, none⟩ = some (.slice bp m cp) := hA.own.val 2 rfl
  have hlt := hA.own.lt
  clear hA
  go_enter Tryz.func58, Tryz.ntmps58
  go_wp2
  go_ret
  exact ⟨rfl, Blk.new _ _ _, (Below.refl _ w).alloc (Nat.le_refl _) _, by simp⟩

/-- the accesses' words, one behind the other -/
def flat (F : Nat → Nat → Int) (l : List Nat) : List Value := l.flatMap fun i => (accA F i).toList
theorem flat_snoc (F : Nat → Nat → Int) (l : List Nat) (i : Nat) : flat F (l ++ [i]) = flat F l ++ [.int .i64 (F i 0), .int .i64 (F i 1), .int .i64 (F i 2), .int .u64 (F i 3), .int .u64 (F i 4), .int .u64 (F i 5), .int .u64 (F i 6)] := by simp [flat]
def okB (l : List Nat) : Bool := decide (l = List.range l.length)
theorem okB_snoc (l : List Nat) (i : Nat) : okB (l ++ [i]) = (okB l && decide ((i : Int) = (l.length : Int))) := by
  unfold okB
  rw [List.length_append, List.length_singleton, List.range_succ]
  by_cases h1 : l = List.range l.length
  · by_cases h2 : i = l.length
    · subst h2; rw [← h1]; simp
    · have : ¬ ((i : Int) = (l.length : Int)) := by omega
      simp only [this, decide_false, Bool.and_false, decide_eq_false_iff_not]
      intro h
      have := List.append_inj_right' h rfl
      simp at this
      omega
  · simp only [h1, decide_false, Bool.false_and, decide_eq_false_iff_not]
    intro h
    exact h1 (List.append_inj_left' h rfl)

theorem ownsRow_low {W : World} {base base' : Nat} {e : TypeId} {size : Nat} {v : Value} {k : Nat} {xs : List Value} (h : W.ownsRow base e size v k xs) (hb : base' ≤ base) : W.ownsRow base' e size v k xs := by
  refine ⟨h.1, ?_⟩
  rcases h.2 with h1 | ⟨g, cap, cur, h1, h2, h3⟩
  · exact .inl h1
  · exact .inr ⟨g, cap, cur, h1, Nat.le_trans hb h2, h3⟩
theorem ownFrom_touch {β : Type} {R : Nat → Prop} {B : Nat} {W0 : World} (hB : W0.heap.size ≤ B) : OwnFrom B (fun (_ : β) W => Touch R W0 W) :=
  fun s W W' row h hg hr => h.grown hg (fun k hk => .inr (Nat.le_trans hB (hr k hk).1))
theorem blk_own_from {β : Type} (B : Nat) (P : Nat → Prop) (a : Act) (fa : Nat → Act) (cs : Array Value) (t : TypeId := 49) : OwnFrom B (fun (_ : β) W => ∃ xb, P xb ∧ a = fa xb ∧ Blk W xb cs t) :=
  fun s W W' row ⟨xb, h1, h2, h3⟩ hg hr => ⟨xb, h1, h2, (hg.block xb h3.lt (fun e' => by obtain ⟨_, o, ho, hc⟩ := hr xb e'.symm; rw [show W.heap[xb]? = _ from h3] at ho; cases ho; cases hc)).trans h3⟩
theorem row_form {W : World} {base n : Nat} {e : TypeId} {v : Value} {k : Nat} {xs : List Value} (h : W.ownsRow base e n v k xs) : ∃ a c, v = .slice a k c := by
  rcases h.2 with ⟨h1, h2⟩ | ⟨g, cap, cur, h1, _⟩
  · exact ⟨none, 0, by rw [h1, h2]⟩
  · exact ⟨_, cap, h1⟩

theorem flat_get (F : Nat → Nat → Int) : ∀ (m i j : Nat), i < m → j < 7 → (flat F (List.range m))[i * 7 + j]? = (accA F i)[j]?
  | 0, i, j, h, _ => by omega
  | m + 1, i, j, h, hj => by
    have hl : ∀ m, (flat F (List.range m)).length = m * 7 := by
      intro m
      induction m with
      | zero => rfl
      | succ m ih => rw [List.range_succ, flat_snoc, List.length_append, ih]; simp; omega
    rw [List.range_succ, flat_snoc]
    by_cases hi : i < m
    · rw [List.getElem?_append_left (by rw [hl]; omega)]
      exact flat_get F m i j hi hj
    · obtain rfl : i = m := by omega
      rw [List.getElem?_append_right (by rw [hl]; omega), hl, show i * 7 + j - i * 7 = j by omega]
      match j, hj with
      | 0, _ => rfl
      | 1, _ => rfl
      | 2, _ => rfl
      | 3, _ => rfl
      | 4, _ => rfl
      | 5, _ => rfl
      | 6, _ => rfl
theorem logrow {w : World} {B m cp : Nat} {bp : Option Addr} {F : Nat → Nat → Int} (h : w.ownsRow B 49 7 (.slice bp m cp) m (flat F (List.range m))) (h0 : 0 < m) : ∃ b, bp = some ⟨b, 0, none⟩ ∧ b < w.heap.size ∧ LogRow w b m F := by
  rcases h.2 with ⟨h1, h2⟩ | ⟨g, cap, cur, h1, h2, h3, h4⟩
  · omega
  · simp only [Value.slice.injEq, true_and] at h1
    obtain ⟨rfl, rfl⟩ := h1
    refine ⟨g, rfl, (Array.getElem?_eq_some_iff.1 h3).1, ⟨fun i hi => ?_⟩⟩
    have hc := fun j (hj : j < 7) v (e : (accA F i)[j]? = some v) => h.cells (g := g) rfl (i * 7 + j) v ((flat_get F m i j hi hj).trans e)
    have ha : ∀ k, (⟨g, 0, none⟩ : Addr).add k = ⟨g, k, none⟩ := fun k => by unfold Addr.add; split <;> simp_all
    simp only [ha] at hc
    exact ⟨hc 0 (by omega) _ rfl, hc 1 (by omega) _ rfl, hc 2 (by omega) _ rfl, hc 3 (by omega) _ rfl, hc 4 (by omega) _ rfl, hc 5 (by omega) _ rfl, hc 6 (by omega) _ rfl⟩

theorem new_cells (W : World) (l : List Value) (t : TypeId) (b : Nat) (hb : b = W.heap.size) (j : Nat) (u : Value) (h : l[j]? = some u) : (W.alloc (.cells l.toArray t)).cell? ((⟨b, 0, none⟩ : Addr).add j) = some u := by
  subst hb
  have e1 : (⟨W.heap.size, 0, none⟩ : Addr).add j = ⟨W.heap.size, j, none⟩ := by unfold Addr.add; split <;> simp_all
  rw [e1, Blk.cell (cs := l.toArray) (t := t) (Blk.new W _ _)]
  simpa using h
/-- an element more, the slice in its box -/
theorem appended_touch7 {W w1 : World} {base B : Nat} {t e : TypeId} {v v' : Value} {k m : Nat} {xs ys : List Value} {tmp : Obj} {R : Nat → Prop} (hR : R B) (hv : Boxed W B t v) (hte : t ≠ e) (hrow : W.ownsRow base e 7 v k xs) (hown' : w1.ownsRow base e 7 v' m ys) (hgrow : (W.alloc tmp).grownBy w1 v.ownBlock) :
    Boxed w1 B t v ∧ Boxed (w1.setCell ⟨B, 0, none⟩ v') B t v' ∧ (w1.setCell ⟨B, 0, none⟩ v').ownsRow base e 7 v' m ys ∧ KeepsOthers W (w1.setCell ⟨B, 0, none⟩ v') ∧
    (∀ W0, Touch R W0 W → W0.heap.size ≤ base → Touch R W0 (w1.setCell ⟨B, 0, none⟩ v')) ∧
    (∀ n, n ≤ base → n ≤ W.heap.size → n ≤ B → Below n W (w1.setCell ⟨B, 0, none⟩ v')) := by
  obtain ⟨h1, h2, h3, h4, h5⟩ := hv.appended hte (ownsRow_low hrow (Nat.zero_le _)) (Nat.zero_le _) (Nat.zero_le _) (ownsRow_low hown' (Nat.zero_le _)) hgrow
  refine ⟨h1, h2, hown'.kept (grownBy_setCell' w1 B v') (.inr (h1.not_row hte hown').symm), h4, fun W0 ht hb => ?_, fun n h1 h2 h3 => (hv.appended hte (ownsRow_low hrow h1) h2 h3 (ownsRow_low hown' h1) hgrow).2.2.2.2⟩
  have ht2 := (ht.alloc tmp).grown hgrow (fun k hk => .inr (Nat.le_trans hb (hrow.lt k hk).1))
  exact ht2.setCell hR _

end Go.Proofs.YtnodeojeijekcaaGreat
/- A log that grows: numbers alone. What replaying it gives, when one more access was kept. -/
namespace Go.Proofs.YtnodeojeijekcaaGreat
open Go.RowKit
set_option linter.unusedVariables false

theorem repl_congr (F G : Nat → Nat → Int) : ∀ m i cs, (∀ j, i ≤ j → j < i + m → ∀ c, F j c = G j c) → repl F m i cs = repl G m i cs
  | 0, _, _, _ => rfl
  | m + 1, i, cs, h => by
    have h0 := h i (Nat.le_refl _) (by omega)
    have ih := fun cs' => repl_congr F G m (i + 1) cs' (fun j h1 h2 c => h j (by omega) (by omega) c)
    unfold repl
    rw [h0 1, h0 2, h0 3, h0 4, h0 5, h0 6, ih]
theorem repl_snoc (F : Nat → Nat → Int) : ∀ m i cs cs', repl F m i cs = (some cs', 0, 0) → stepE cs' (F (i + m) 2) (F (i + m) 1) (F (i + m) 3) (F (i + m) 4) (F (i + m) 5) (F (i + m) 6) = 0 →
    repl F (m + 1) i cs = (some (cs'.set (F (i + m) 2).toNat (F (i + m) 6)), 0, 0)
  | 0, i, cs, cs', h, hs => by
    simp only [repl, Prod.mk.injEq, Option.some.injEq] at h
    obtain ⟨rfl, _⟩ := h
    unfold repl
    rw [Nat.add_zero] at hs
    rw [if_pos hs, Nat.add_zero]
    rfl
  | m + 1, i, cs, cs', h, hs => by
    unfold repl at h
    split at h
    · rename_i h0
      have hs2 : i + (m + 1) = i + 1 + m := by omega
      rw [hs2] at hs ⊢
      have ih := repl_snoc F m (i + 1) _ cs' h hs
      rw [repl, if_pos h0, ih]
    · cases h
/-- one access more -/
def more (F : Nat → Nat → Int) (m : Nat) (who k at' want put seen left : Int) : Nat → Nat → Int := fun j c => if j < m then F j c else ([who, k, at', want, put, seen, left] : List Int).getD c 0
theorem flat_congr (F G : Nat → Nat → Int) : ∀ l : List Nat, (∀ i ∈ l, accA F i = accA G i) → flat F l = flat G l
  | [], _ => rfl
  | i :: l, h => by
    have ih := flat_congr F G l (fun j hj => h j (List.mem_cons_of_mem _ hj))
    have h0 := h i List.mem_cons_self
    unfold flat at ih ⊢
    rw [List.flatMap_cons, List.flatMap_cons, ih, h0]
theorem flat_more (F : Nat → Nat → Int) (m : Nat) (who k at' want put seen left : Int) : flat (more F m who k at' want put seen left) (List.range (m + 1)) = flat F (List.range m) ++ accV who k at' want put seen left := by
  rw [List.range_succ, flat_snoc]
  congr 1
  · refine flat_congr _ _ _ fun i hi => ?_
    have := List.mem_range.1 hi
    simp [accA, more, this]
  · simp [more, accV]
theorem repl_more1 (F : Nat → Nat → Int) (m : Nat) (zs cs : List Int) (who k want put : Int) (i : Nat) (h : repl F m 0 zs = (some cs, 0, 0)) (hk : kindBEffe k = true) (hi : i < cs.length) :
    repl (more F m who k i want put (cs.getD i 0) (leftI k (cs.getD i 0) want put)) (m + 1) 0 zs = (some (cs.set i (leftI k (cs.getD i 0) want put)), 0, 0) := by
  have e : ∀ c, more F m who k i want put (cs.getD i 0) (leftI k (cs.getD i 0) want put) (0 + m) c = ([who, k, (i : Int), want, put, cs.getD i 0, leftI k (cs.getD i 0) want put] : List Int).getD c 0 := fun c => by simp [more]
  have h1 : repl (more F m who k i want put (cs.getD i 0) (leftI k (cs.getD i 0) want put)) m 0 zs = (some cs, 0, 0) := by
    rw [← h]
    refine repl_congr _ _ m 0 zs (fun j _ hj c => ?_)
    simp only [more, if_pos (show j < m by omega)]
  have := repl_snoc _ m 0 zs cs h1 (by
    simp only [e]
    unfold stepE
    rw [if_neg (by rw [show insB cs.length _ = true from decide_eq_true ⟨by simp, by simpa using hi⟩]; decide), if_pos ⟨hk, by simp, rfl⟩])
  simp only [e] at this
  simpa using this
end Go.Proofs.YtnodeojeijekcaaGreat
/- The document's own arena: what its Do returns and leaves. Condition: its blocks lie there. -/
namespace Go.Proofs.YtnodeojeijekcaaGreat
open Go.RowKit
set_option linter.unusedVariables false

def RefP (w : World) (q : Nat) (who : Int) (g : Bool) : Prop := Blk w q #[.int .i64 who, .bool g] 127
structure RefA (w : World) (B M d : Nat) (cs : List Int) (lv : Value) (xs : List Value) (m : Nat) (f : Int) : Prop where
  own : Blk w M #[.slice (some ⟨d, 0, none⟩) cs.length cs.length, lv, .int .i64 f] 65
  row : Blk w d (cs.map (Value.int .u64)).toArray 47
  log : w.ownsRow B 49 7 lv m xs
  md : M ≠ d
  lM : lv.ownBlock ≠ some M
  ld : lv.ownBlock ≠ some d
theorem RefA.cell {w : World} {B M d : Nat} {cs : List Int} {lv : Value} {xs : List Value} {m : Nat} {f : Int} (h : RefA w B M d cs lv xs m f) (i : Nat) (hi : i < cs.length) : w.cell? ⟨d, i, none⟩ = some (.int .u64 (cs.getD i 0)) := by
  have := Blk.cell (cs := (cs.map (Value.int .u64)).toArray) (t := 47) h.row (i := i)
  rw [this]
  simp [List.getD_eq_getElem?_getD, hi]

set_option maxHeartbeats 1000000 in
theorem do_fault (B M d q : Nat) (cs : List Int) (lv : Value) (xs : List Value) (m : Nat) (f : Int) (g : Bool) (who k at' want put : Int) (w : World) (hA : RefA w B M d cs lv xs m f) (hP : RefP w q who g) (hqM : q ≠ M) (hqd : q ≠ d) (hql : lv.ownBlock ≠ some q) (hf0 : 0 ≤ f) (hf1 : f < 1000000) (hg : g = false ∨ insB cs.length at' = false) :
    Calls Tryz.prog 71 #[.pointer (some ⟨M, 0, none⟩), .pointer (some ⟨q, 0, none⟩), .int .i64 k, .int .i64 at', .int .u64 want, .int .u64 put] w fun e w' =>
      e = .returned (.int .u64 0) ∧ RefA w' B M d cs lv xs m (f + 1) ∧ RefP w' q who false ∧ Touch (fun b => b = M ∨ b = q) w w' := by
  have c0 : w.cell? ⟨M, 0, none⟩ = some (.slice (some ⟨d, 0, none⟩) cs.length cs.length) := hA.own.val 0 rfl
  have c2 : w.cell? ⟨M, 2, none⟩ = some (.int .i64 f) := hA.own.val 2 rfl
  have p1 : w.cell? ⟨q, 1, none⟩ = some (.bool g) := hP.val 1 rfl
  have fp := hP.frozen 1
  have fM := hA.own.frozen 2
  have hMq : M ≠ q := Ne.symm hqM
  have H : Hid (RefA ((w.setCell ⟨q, 1, none⟩ (.bool false)).setCell ⟨M, 2, none⟩ (.int .i64 (f + 1))) B M d cs lv xs m (f + 1) ∧ RefP ((w.setCell ⟨q, 1, none⟩ (.bool false)).setCell ⟨M, 2, none⟩ (.int .i64 (f + 1))) q who false ∧ Touch (fun b => b = M ∨ b = q) w ((w.setCell ⟨q, 1, none⟩ (.bool false)).setCell ⟨M, 2, none⟩ (.int .i64 (f + 1)))) :=
    ⟨⟨(hA.own.other _ _ hMq).set 2 _, (hA.row.other _ _ (Ne.symm hqd)).other _ _ (Ne.symm hA.md), own_other (own_other hA.log hql) hA.lM, hA.md, hA.lM, hA.ld⟩, (hP.set 1 (.bool false)).other _ _ hqM, ((Touch.refl _ _).setCell (.inr rfl) _).setCell (.inl rfl) _⟩
  have hcM := hA.md
  clear hA hP
  rcases hg with rfl | hi
  · go_enter Tryz.func71, Tryz.ntmps71
    go_wp2
    go_ret
    exact ⟨rfl, H.out⟩
  · have hi := of_decide_eq_false hi
    cases g with
    | false =>
      clear hi
      go_enter Tryz.func71, Tryz.ntmps71
      go_wp2
      go_ret
      exact ⟨rfl, H.out⟩
    | true =>
      by_cases h0 : 0 ≤ at'
      · have h1 : ¬ at' < (cs.length : Int) := by omega
        clear hi
        go_enter Tryz.func71, Tryz.ntmps71
        go_wp2
        go_ret
        exact ⟨rfl, H.out⟩
      · clear hi
        go_enter Tryz.func71, Tryz.ntmps71
        go_wp2
        go_ret
        exact ⟨rfl, H.out⟩
theorem RefA.alloc {w : World} {B M d : Nat} {cs : List Int} {lv : Value} {xs : List Value} {m : Nat} {f : Int} (h : RefA w B M d cs lv xs m f) (o : Obj) : RefA (w.alloc o) B M d cs lv xs m f := ⟨h.own.alloc o, h.row.alloc o, h.log.alloc o, h.md, h.lM, h.ld⟩
theorem RefA.quiet {w w' : World} {B M d : Nat} {cs : List Int} {lv : Value} {xs : List Value} {m : Nat} {f : Int} (h : RefA w B M d cs lv xs m f) (hq : Quiet w w') : RefA w' B M d cs lv xs m f := ⟨h.own.quiet hq, h.row.quiet hq, hq.ownsRow h.log, h.md, h.lM, h.ld⟩

def DoPost (B M d q : Nat) (cs : List Int) (lv : Value) (xs : List Value) (m : Nat) (f : Int) (who k want put : Int) (i : Nat) (w : World) (e : Ending) (w' : World) : Prop :=
  e = .returned (.int .u64 (cs.getD i 0)) ∧ ∃ lv', RefA w' B M d (cs.set i (leftI k (cs.getD i 0) want put)) lv' (xs ++ accV who k i want put (cs.getD i 0) (leftI k (cs.getD i 0) want put)) (m + 1) f ∧ RefP w' q who false ∧
    (∀ g, lv'.ownBlock = some g → lv.ownBlock = some g ∨ w.heap.size ≤ g) ∧ Touch (fun b => b = M ∨ b = d ∨ b = q ∨ lv.ownBlock = some b) w w'
set_option maxRecDepth 100000 in
set_option maxHeartbeats 4000000 in
theorem do_yes (B M d q : Nat) (cs : List Int) (lv : Value) (xs : List Value) (m : Nat) (f : Int) (who k want put : Int) (i : Nat) (w : World) (hA : RefA w B M d cs lv xs m f) (hP : RefP w q who true) (hqM : q ≠ M) (hqd : q ≠ d) (hql : lv.ownBlock ≠ some q) (hB : B ≤ w.heap.size) (hn1 : m < 1000000) (hk : kindBEffe k = true) (hi : i < cs.length) :
    Calls Tryz.prog 71 #[.pointer (some ⟨M, 0, none⟩), .pointer (some ⟨q, 0, none⟩), .int .i64 k, .int .i64 i, .int .u64 want, .int .u64 put] w (DoPost B M d q cs lv xs m f who k want put i w) := by
  obtain ⟨i0, hi0, hz0, hz1, hz2⟩ := info_parts info_acc
  have Z := Lib.hid (And.intro hi0 (And.intro hz0 (And.intro hz1 hz2)))
  clear hi0 hz0 hz1 hz2
  have c0 : w.cell? ⟨M, 0, none⟩ = some (.slice (some ⟨d, 0, none⟩) cs.length cs.length) := hA.own.val 0 rfl
  have p1 : w.cell? ⟨q, 1, none⟩ = some (.bool true) := hP.val 1 rfl
  have fp := hP.frozen 1
  have cc := hA.cell i hi
  have fd := hA.row.frozen i
  have hMq : ¬ M = q := Ne.symm hqM
  have hdq : ¬ d = q := Ne.symm hqd
  have hn0 : (0 : Int) ≤ (i : Int) := by omega
  have hn2 : (i : Int) < (cs.length : Int) := by omega
  have L := Lib.hid (fun z W => rleft_yes k z want put W hk)
  have lM := Blk.lt hA.own
  unfold DoPost
  generalize hz : cs.getD i 0 = z at *
  have Hz := Lib.hid hz
  clear hz
  generalize hy : leftI k z want put = y at *
  have Hy := Lib.hid hy
  clear hy
  have H : Hid (RefA ((w.setCell ⟨q, 1, none⟩ (.bool false)).setCell ⟨d, i, none⟩ (.int .u64 y)) B M d (cs.set i y) lv xs m f ∧ RefP ((w.setCell ⟨q, 1, none⟩ (.bool false)).setCell ⟨d, i, none⟩ (.int .u64 y)) q who false ∧ Touch (fun b => b = M ∨ b = d ∨ b = q ∨ lv.ownBlock = some b) w ((w.setCell ⟨q, 1, none⟩ (.bool false)).setCell ⟨d, i, none⟩ (.int .u64 y))) :=
    ⟨⟨by rw [List.length_set]; exact (hA.own.other _ _ hMq).other _ _ hA.md, by have h := (hA.row.other (a := ⟨q, 1, none⟩) (v := .bool false) hdq).set i (.int .u64 y); rw [List.map_set]; simpa using h, own_other (own_other hA.log hql) hA.ld, hA.md, hA.lM, hA.ld⟩, (hP.set 1 (.bool false)).other _ _ hqd, ((Touch.refl _ _).setCell (.inr (.inr (.inl rfl))) _).setCell (.inr (.inl rfl)) _⟩
  have hlM := Lib.hid hA.lM
  have hld := Lib.hid hA.ld
  have hMd := hA.md
  have hdM : ¬ d = M := Ne.symm hA.md
  clear hA hP
  go_enter Tryz.func71, Tryz.ntmps71
  go_wp2_with fail
  refine (L.out z _).mono ?_
  rintro e w1 ⟨rfl, hw1⟩
  obtain rfl := hw1
  rw [Hy.out]
  go_wp2_with fail
  clear c0 p1 fp cc fd L
  generalize (w.setCell ⟨q, 1, none⟩ (.bool false)).setCell ⟨d, i, none⟩ (.int .u64 y) = v2 at *
  obtain ⟨hA2, hP2, hT2⟩ := H.out
  clear H
  have hsz := hT2.size
  have c1 : v2.cell? ⟨M, 1, none⟩ = some lv := hA2.own.val 1 rfl
  have f1 := hA2.own.frozen 1
  have p0 : v2.cell? ⟨q, 0, none⟩ = some (.int .i64 who) := hP2.val 0 rfl
  have lM2 := Blk.lt hA2.own
  go_region_law ((refine step_append_lies _ (by rfl) _ _ _ (by rfl) B 49 i0 _ 7 56 Tryz.underlying63 Z.out.1 Z.out.2.1 Z.out.2.2.1 Z.out.2.2.2 rfl (by omega) lv m xs (by rfl) (Quiet.ownsRow ⟨1, rfl⟩ (hA2.log.alloc _)) ⟨v2.heap.size, 0, none⟩ 1 1 (accV who k i want put z y) (by rfl) (by rfl) (World.news_of_block (cs := #[.int .i64 who, .int .i64 k, .int .i64 i, .int .u64 want, .int .u64 put, .int .u64 z, .int .u64 y]) (t := 49) (fr := (0, 0)) (heap_alloc_new v2 _)) (by simp [accV, Value.oneCell']) (by omega) (by unfold maxLen; omega) (by omega) (by simp; omega) (v2.heap.size + 1) (by simp) ?_; intro g cap w5 hown5 hgrow hat hlt; have k2 := (hgrow.cell_far ⟨M, 1, none⟩ (by simp; omega) (Ne.symm hlM.out)).trans (((hA2.alloc _).quiet ⟨1, rfl⟩).own.val 1 rfl); have kf := (hgrow.frozen_far ⟨M, 1, none⟩ (by simp; omega) (Ne.symm hlM.out)).trans (((hA2.alloc _).quiet ⟨1, rfl⟩).own.frozen 1)))
  all_goals
    go_wp2
    go_ret
    have hT5 := ((hT2.alloc _).drew).grown hgrow (fun k hk => .inl (.inr (.inr (.inr hk))))
    have ne (x : Nat) (hx : lv.ownBlock ≠ some x) (hlt : x < v2.heap.size) : (Value.slice (some ⟨g, 0, none⟩) (m + 1) cap).ownBlock ≠ some x := fun e => by
      have e1 : g = x := Option.some.inj e
      rcases hat with h | h
      · exact hx (by rw [h, e1])
      · omega
    have hA3 := (hA2.alloc (.cells #[.int .i64 who, .int .i64 k, .int .i64 i, .int .u64 want, .int .u64 put, .int .u64 z, .int .u64 y] 49)).quiet (w' := (v2.alloc (.cells #[.int .i64 who, .int .i64 k, .int .i64 i, .int .u64 want, .int .u64 put, .int .u64 z, .int .u64 y] 49)).drew) ⟨1, rfl⟩
    have hP3 : RefP (v2.alloc (.cells #[.int .i64 who, .int .i64 k, .int .i64 i, .int .u64 want, .int .u64 put, .int .u64 z, .int .u64 y] 49)).drew q who false := Blk.quiet (Blk.alloc hP2 _) ⟨1, rfl⟩
    have o5 := (hA3.own.of (hgrow.block M hA3.own.lt (Ne.symm hlM.out))).set 1 (.slice (some ⟨g, 0, none⟩) (m + 1) cap)
    have r5 := (hA3.row.of (hgrow.block d hA3.row.lt (Ne.symm hld.out))).other (a := ⟨M, 1, none⟩) (v := .slice (some ⟨g, 0, none⟩) (m + 1) cap) hdM
    have p5 : RefP (w5.setCell ⟨M, 1, none⟩ (.slice (some ⟨g, 0, none⟩) (m + 1) cap)) q who false := (Blk.of hP3 (hgrow.block q (Blk.lt hP3) (Ne.symm hql))).other _ _ hqM
    exact ⟨rfl, .slice (some ⟨g, 0, none⟩) (m + 1) cap, ⟨o5, r5, own_other hown5 (ne M hlM.out (Blk.lt hA2.own)), hMd, ne M hlM.out (Blk.lt hA2.own), ne d hld.out (Blk.lt hA2.row)⟩, p5, fun g' e => by
      have e1 : g = g' := Option.some.inj e
      rcases hat with h | h
      · exact .inl (by rw [h, e1])
      · exact .inr (by omega), hT5.setCell (.inl rfl) _⟩
end Go.Proofs.YtnodeojeijekcaaGreat
/- The document's arena makes the access that a tape asks for. Condition: it may be made, and few were. -/
namespace Go.Proofs.YtnodeojeijekcaaGreat
open Go.RowKit
set_option linter.unusedVariables false

set_option maxRecDepth 100000 in
set_option maxHeartbeats 2000000 in
theorem make_yes {B Bt M d x : Nat} {cs : List Int} {lv hv : Value} {xs : List Value} {m : Nat} {f : Int} {t : Tp} {w : World} (who : Int) (i : Nat) (hA : RefA w B M d cs lv xs m f) (hT : TapeAt w Bt x hv t)
    (hxM : x ≠ M) (hxd : x ≠ d) (hhM : hv.ownBlock ≠ some M) (hhd : hv.ownBlock ≠ some d) (hlx : lv.ownBlock ≠ some x) (hlh : ∀ g, hv.ownBlock = some g → lv.ownBlock ≠ some g)
    (hB : B ≤ w.heap.size) (hBt : Bt ≤ w.heap.size) (hm : m < 1000000) (hH : t.H.length < 1000000) (hk : kindBEffe t.k = true) (ha : t.a = (i : Int)) (hi : i < cs.length) :
    Calls Tryz.prog 45 #[.pointer (some ⟨M, 0, none⟩), .pointer (some ⟨x, 0, none⟩), .int .i64 who] w fun e w' => (∃ v, e = .returned v) ∧ ∃ lv' hv',
      RefA w' B M d (cs.set i (leftI t.k (cs.getD i 0) t.wn t.p)) lv' (xs ++ accV who t.k i t.wn t.p (cs.getD i 0) (leftI t.k (cs.getD i 0) t.wn t.p)) (m + 1) f ∧ TapeAt w' Bt x hv' { t with H := t.H ++ [cs.getD i 0] } ∧
      (∀ g, lv'.ownBlock = some g → lv.ownBlock = some g ∨ w.heap.size ≤ g) ∧ (∀ g, hv'.ownBlock = some g → hv.ownBlock = some g ∨ w.heap.size ≤ g) ∧ (∀ g, hv'.ownBlock = some g → lv'.ownBlock ≠ some g) ∧
      Touch (fun b => b = M ∨ b = d ∨ lv.ownBlock = some b ∨ b = x ∨ hv.ownBlock = some b) w w' := by
  obtain ⟨z, hz⟩ : ∃ z, cs.getD i 0 = z := ⟨_, rfl⟩
  rw [hz]
  have HZ := Lib.hid hz
  clear hz
  obtain ⟨i0, zi, zz0, zz1, zz2⟩ := info_parts info_u64
  have Z := Lib.hid (And.intro zi (And.intro zz0 (And.intro zz1 zz2)))
  clear zi zz0 zz1 zz2
  have hq0 : RefP (w.alloc (.cells #[.int .i64 who, .bool true] 127)) w.heap.size who true := Blk.new _ _ _
  have tA : Touch (fun _ => False) w (w.alloc (.cells #[.int .i64 who, .bool true] 127)) := (Touch.refl _ _).alloc _
  have hTa := hT.touch tA (fun e => e) (fun _ _ e => e)
  have hAa := hA.alloc (.cells #[.int .i64 who, .bool true] 127)
  have hxl := Blk.lt hT.own
  have hMl := Blk.lt hA.own
  have hdl := Blk.lt hA.row
  have hll : ∀ g, lv.ownBlock = some g → g < w.heap.size := fun g e => (hA.log.lt g e).2
  have hhl : ∀ g, hv.ownBlock = some g → g < w.heap.size := fun g e => (hT.row.lt g e).2
  have hsz : (w.alloc (.cells #[.int .i64 who, .bool true] 127)).heap.size = w.heap.size + 1 := by simp
  clear hA hT
  go_enter Tryz.func45, Tryz.ntmps45
  go_upto_region 1 with fail
  generalize w.alloc (.cells #[.int .i64 who, .bool true] 127) = wa at *
  have c2 : wa.cell? ⟨x, 2, none⟩ = some (.int .i64 0) := hTa.own.val 2 rfl
  have c3 : wa.cell? ⟨x, 3, none⟩ = some (.int .i64 t.k) := hTa.own.val 3 rfl
  have c4 : wa.cell? ⟨x, 4, none⟩ = some (.int .i64 (i : Int)) := by rw [← ha]; exact hTa.own.val 4 rfl
  have c5 : wa.cell? ⟨x, 5, none⟩ = some (.int .u64 t.wn) := hTa.own.val 5 rfl
  have c6 : wa.cell? ⟨x, 6, none⟩ = some (.int .u64 t.p) := hTa.own.val 6 rfl
  have c7 : wa.cell? ⟨x, 7, none⟩ = some (.int .u64 0) := hTa.own.val 7 rfl
  have c8 : wa.cell? ⟨x, 8, none⟩ = some (.int .u64 0) := hTa.own.val 8 rfl
  have tB : Touch (fun _ => False) wa (wa.alloc (.cells #[.int .i64 0, .int .i64 t.k, .int .i64 i, .int .u64 t.wn, .int .u64 t.p, .int .u64 0, .int .u64 0] 49)) := (Touch.refl _ _).alloc _
  have hTb := hTa.touch tB (fun e => e) (fun _ _ e => e)
  have hAb := hAa.alloc (.cells #[.int .i64 0, .int .i64 t.k, .int .i64 i, .int .u64 t.wn, .int .u64 t.p, .int .u64 0, .int .u64 0] 49)
  have hqb : RefP (wa.alloc (.cells #[.int .i64 0, .int .i64 t.k, .int .i64 i, .int .u64 t.wn, .int .u64 t.p, .int .u64 0, .int .u64 0] 49)) w.heap.size who true := Blk.alloc hq0 _
  have tAB := tA.trans tB
  have hsb : (wa.alloc (.cells #[.int .i64 0, .int .i64 t.k, .int .i64 i, .int .u64 t.wn, .int .u64 t.p, .int .u64 0, .int .u64 0] 49)).heap.size = w.heap.size + 2 := by simp [hsz]
  clear hTa hAa hq0 tA tB
  go_wp2_with fail
  clear c2 c3 c4 c5 c6 c7 c8
  generalize wa.alloc (.cells #[.int .i64 0, .int .i64 t.k, .int .i64 i, .int .u64 t.wn, .int .u64 t.p, .int .u64 0, .int .u64 0] 49) = wb at *
  refine (do_yes B M d w.heap.size cs lv xs m f who t.k t.wn t.p i wb hAb hqb (by omega) (by omega) (fun e => by have := hll _ e; omega) (by omega) hm hk hi).mono ?_
  rintro e w1 ⟨he, lv', hA1, hq1, hg1, tD⟩
  rw [HZ.out] at he hA1
  subst he
  have nh : ∀ g, hv.ownBlock = some g → ¬ (g = M ∨ g = d ∨ g = w.heap.size ∨ lv.ownBlock = some g) := fun g e h => by
    rcases h with h | h | h | h
    · exact hhM (h ▸ e)
    · exact hhd (h ▸ e)
    · have := hhl g e; omega
    · exact hlh g e h
  have hT1 := hTb.touch tD (fun h => by
    rcases h with h | h | h | h
    · exact hxM h
    · exact hxd h
    · omega
    · exact hlx h) nh
  have hs1 := tD.size
  have hrow := hT1.row
  obtain ⟨ha0, hc0, rfl⟩ : ∃ a c, hv = .slice a t.H.length c := by
    rcases hrow.2 with ⟨h1, h2⟩ | ⟨g, cap, cur, h1, _⟩
    · exact ⟨none, 0, by rw [h1, h2]⟩
    · exact ⟨_, cap, h1⟩
  have e0 : w1.cell? ⟨x, 0, none⟩ = some (.slice ha0 t.H.length hc0) := hT1.own.val 0 rfl
  have hxl1 : x < w1.heap.size := Blk.lt hT1.own
  have HF := Lib.hid (And.intro hA1 (And.intro hT1 (And.intro hg1 (And.intro tD tAB))))
  clear hTb hAb hqb hA1 hq1 hg1 tD tAB hT1
  go_wp2_with (at_builtin; refine wpList_append_lies _ rfl _ _ 46 rfl Bt 47 i0 (.int .u64 0) 1 8 Tryz.underlying46 Z.out.1 Z.out.2.1 Z.out.2.2.1 Z.out.2.2.2 rfl (by decide) _ _ _ rfl (hrow.alloc _) ⟨w1.heap.size, 0, none⟩ 1 1 [.int .u64 z] rfl rfl (cell_one_new _ _ _) (by simp [Value.oneCell']) (by decide) (by unfold maxLen; omega) (by omega) (by simp; omega) (w1.heap.size + 1) (by simp) ?_; intro g cap w2 hown2 hgrow hat hlt; have t2 : Touch (fun b => (Value.slice ha0 t.H.length hc0).ownBlock = some b) w1 w2 := ((Touch.refl _ _).alloc _).grown hgrow (fun k hk => .inl hk); have hX2 := Blk.touch HF.out.2.1.own t2 (own_neP hrow HF.out.2.1.own (by decide)); have e2 : w2.cell? ⟨x, 0, none⟩ = some (.slice ha0 t.H.length hc0) := hX2.val 0 rfl; have f2 := hX2.frozen 0)
  have t3 : Touch (fun b => (Value.slice ha0 t.H.length hc0).ownBlock = some b ∨ b = x) w1 (w2.setCell ⟨x, 0, none⟩ (.slice (some ⟨g, 0, none⟩) (t.H.length + 1) cap)) := Touch.setCell (t2.mono (fun _ _ h => .inl h)) (.inr rfl) _
  have hnew : ∀ b, (Value.slice (some ⟨g, 0, none⟩) (t.H.length + 1) cap).ownBlock = some b → (Value.slice ha0 t.H.length hc0).ownBlock = some b ∨ w1.heap.size ≤ b := fun b h => by
    obtain rfl : g = b := Option.some.inj h
    rcases hat with h2 | h2
    · exact .inl h2
    · exact .inr (by omega)
  have nl : ∀ b, lv'.ownBlock = some b → ¬ ((Value.slice ha0 t.H.length hc0).ownBlock = some b ∨ b = x) := fun b h h2 => by
    rcases HF.out.2.2.1 b h with h3 | h3
    · rcases h2 with h2 | h2
      · exact hlh b h2 h3
      · exact hlx (h2 ▸ h3)
    · rcases h2 with h2 | h2
      · have := hhl b h2; omega
      · omega
  have hA3 : RefA (w2.setCell ⟨x, 0, none⟩ (.slice (some ⟨g, 0, none⟩) (t.H.length + 1) cap)) B M d (cs.set i (leftI t.k z t.wn t.p)) lv' (xs ++ accV who t.k i t.wn t.p z (leftI t.k z t.wn t.p)) (m + 1) f := by
    have h := HF.out.1
    exact ⟨Blk.touch h.own t3 (fun h2 => by rcases h2 with h2 | h2; exact hhM h2; exact hxM h2.symm), Blk.touch h.row t3 (fun h2 => by rcases h2 with h2 | h2; exact hhd h2; exact hxd h2.symm), own_touchP h.log t3 nl, h.md, h.lM, h.ld⟩
  have hT3 : TapeAt (w2.setCell ⟨x, 0, none⟩ (.slice (some ⟨g, 0, none⟩) (t.H.length + 1) cap)) Bt x (.slice (some ⟨g, 0, none⟩) (t.H.length + 1) cap) { t with H := t.H ++ [z] } := by
    refine ⟨hX2.set 0 _, ?_⟩
    have h := own_touchP (R := fun b => b = x) hown2 (Touch.setCell (R := fun b => b = x) (p := ⟨x, 0, none⟩) (Touch.refl _ _) rfl (.slice (some ⟨g, 0, none⟩) (t.H.length + 1) cap)) (fun b h h2 => own_neP hown2 hX2 (by decide) (by rw [← h2]; exact h))
    simpa using h
  have H3 := Lib.hid (And.intro hA3 (And.intro hT3 t3))
  clear hA3 hT3 t3 t2 hown2 hgrow hX2 hrow
  go_wp2
  go_end0
  refine ⟨⟨_, rfl⟩, lv', _, H3.out.1, H3.out.2.1, fun b h => ?_, fun b h => ?_, fun b h h2 => ?_, ?_⟩
  · rcases HF.out.2.2.1 b h with h3 | h3
    · exact .inl h3
    · exact .inr (by omega)
  · rcases hnew b h with h3 | h3
    · exact .inl h3
    · exact .inr (by omega)
  · rcases hnew b h with h3 | h3
    · exact nl b h2 (.inl h3)
    · have := (HF.out.1.log.lt b h2).2; omega
  · have tD := HF.out.2.2.2.1
    have tAB := HF.out.2.2.2.2
    have tW : Touch (fun b => b = M ∨ b = d ∨ lv.ownBlock = some b ∨ b = x ∨ (Value.slice ha0 t.H.length hc0).ownBlock = some b) w w1 := ⟨tD.os.trans tAB.os, tD.tape.trans tAB.tape, tD.output.trans tAB.output, Nat.le_trans tAB.size tD.size, fun k hk hn => (tD.block k (Nat.lt_of_lt_of_le hk tAB.size) (fun h => by
      rcases h with h | h | h | h
      · exact hn (.inl h)
      · exact hn (.inr (.inl h))
      · omega
      · exact hn (.inr (.inr (.inl h))))).trans (tAB.block k hk (fun e => e))⟩
    refine tW.trans (H3.out.2.2.mono (fun b _ h => ?_))
    rcases h with h | h
    · exact .inr (.inr (.inr (.inr h)))
    · exact .inr (.inr (.inr (.inl h)))
end Go.Proofs.YtnodeojeijekcaaGreat
/- PagesSweeps: the machine beside the document's tape, with both arenas, as one fact; what each call leaves of it. No condition but that the blocks are there. -/
namespace Go.Proofs.YtnodeojeijekcaaGreat
open Go.RowKit
set_option linter.unusedVariables false
def btw (m n : Nat) : List Nat := (List.range n).filter fun b => decide (m ≤ b)
theorem mem_btw {m n b : Nat} : b ∈ btw m n ↔ m ≤ b ∧ b < n := by unfold btw; simp; omega
theorem RefA.touchP {R : Nat → Prop} {w w' : World} {B M d : Nat} {cs : List Int} {lv : Value} {xs : List Value} {m : Nat} {f : Int} (h : RefA w B M d cs lv xs m f) (ht : Touch R w w') (h1 : ¬ R M) (h2 : ¬ R d) (h3 : ∀ g, lv.ownBlock = some g → ¬ R g) : RefA w' B M d cs lv xs m f :=
  ⟨Blk.touch h.own ht h1, Blk.touch h.row ht h2, own_touchP h.log ht h3, h.md, h.lM, h.ld⟩
theorem Arx.touchMore {R : Nat → Prop} {w w' : World} {B a c : Nat} {cs : List Int} {xs : List Value} {n : Nat} {K : List Nat} (h : Arx w B a c cs xs n K) (ht : Touch R w w') (hR : ∀ b, R b → b ∈ K) : Arx w' B a c cs xs n (btw w.heap.size w'.heap.size ++ K) := by
  have la := h.a_lt
  have lc := h.c_lt
  obtain ⟨⟨lv, hL, hg⟩, h1, h2, h3, h4, h5, h6⟩ := h
  have lg := fun g hg => (hL.own.lt g hg).2
  refine ⟨⟨lv, hL.touch ht (fun r => h1 (hR _ r)) (fun r => h2 (hR _ r)) (fun g e r => hg g e (hR _ r)), fun g e r => ?_⟩, fun r => ?_, fun r => ?_, fun b hb => ?_, h4, h5, Nat.le_trans h6 ht.size⟩
  · rcases List.mem_append.1 r with r | r
    · have := (mem_btw.1 r).1; have := lg g e; omega
    · exact hg g e r
  · rcases List.mem_append.1 r with r | r
    · have := (mem_btw.1 r).1; omega
    · exact h1 r
  · rcases List.mem_append.1 r with r | r
    · have := (mem_btw.1 r).1; omega
    · exact h2 r
  · rcases List.mem_append.1 hb with r | r
    · exact (mem_btw.1 r).2
    · exact Nat.lt_of_lt_of_le (h3 b r) ht.size
def ptL (f s M d x p : Nat) : List Nat := [f, s, M, d, x, p]
theorem nd6 {a b c d e f : Nat} (h : ([a, b, c, d, e, f] : List Nat).Nodup) :
    ((a ≠ b ∧ a ≠ c ∧ a ≠ d ∧ a ≠ e ∧ a ≠ f) ∧ (b ≠ c ∧ b ≠ d ∧ b ≠ e ∧ b ≠ f) ∧ (c ≠ d ∧ c ≠ e ∧ c ≠ f) ∧ (d ≠ e ∧ d ≠ f) ∧ e ≠ f) ∧
    ((b ≠ a ∧ c ≠ a ∧ d ≠ a ∧ e ≠ a ∧ f ≠ a) ∧ (c ≠ b ∧ d ≠ b ∧ e ≠ b ∧ f ≠ b) ∧ (d ≠ c ∧ e ≠ c ∧ f ≠ c) ∧ (e ≠ d ∧ f ≠ d) ∧ f ≠ e) := by
  simp only [List.nodup_cons, List.mem_cons, List.not_mem_nil, or_false, not_or, not_false_eq_true, List.nodup_nil, and_true] at h
  obtain ⟨⟨h1, h2, h3, h4, h5⟩, ⟨h7, h8, h9, h10⟩, ⟨h12, h13, h14⟩, ⟨h16, h17⟩, h19⟩ := h
  exact ⟨⟨⟨h1, h2, h3, h4, h5⟩, ⟨h7, h8, h9, h10⟩, ⟨h12, h13, h14⟩, ⟨h16, h17⟩, h19⟩, ⟨Ne.symm h1, Ne.symm h2, Ne.symm h3, Ne.symm h4, Ne.symm h5⟩, ⟨Ne.symm h7, Ne.symm h8, Ne.symm h9, Ne.symm h10⟩, ⟨Ne.symm h12, Ne.symm h13, Ne.symm h14⟩, ⟨Ne.symm h16, Ne.symm h17⟩, Ne.symm h19⟩
structure PtS (w0 : World) (B f s M d x p a c : Nat) (P T : Int) (σ : Sw) (cs : List Int) (F : Nat → Nat → Int) (n : Nat) (cs2 : List Int) (F2 : Nat → Nat → Int) (n2 : Nat) (t : Tp) (o : Bool) (K : List Nat) (lm hv : Value) (W : World) : Prop where
  fl : Blk W f (flV P T (some ⟨a, 0, none⟩) (some ⟨M, 0, none⟩) (some ⟨p, 0, none⟩)) 38
  mach : Blk W s σ.V 85
  arx : Arx W B a c cs (flat F (List.range n)) n K
  port : PortAt W p a 15 o
  doc : RefA W B M d cs2 lm (flat F2 (List.range n2)) n2 0
  tape : TapeAt W B x hv t
  bel : Below w0.heap.size w0 W
  inK : ∀ b ∈ ptL f s M d x p, b ∈ K
  lmK : ∀ g, lm.ownBlock = some g → g ∈ K
  hvK : ∀ g, hv.ownBlock = some g → g ∈ K
  nd : (ptL f s M d x p).Nodup
  lmn : ∀ g, lm.ownBlock = some g → g ∉ ptL f s M d x p ∧ hv.ownBlock ≠ some g
  hvn : ∀ g, hv.ownBlock = some g → g ∉ ptL f s M d x p
  lo : ∀ b ∈ ptL f s M d x p, w0.heap.size ≤ b
  lB : w0.heap.size ≤ B
section
variable {w0 W W' : World} {B f s M d x p a c : Nat} {P T : Int} {σ : Sw} {cs : List Int} {F : Nat → Nat → Int} {n : Nat} {cs2 : List Int} {F2 : Nat → Nat → Int} {n2 : Nat} {t : Tp} {o : Bool} {K : List Nat} {lm hv : Value}
theorem PtS.grew (h : PtS w0 B f s M d x p a c P T σ cs F n cs2 F2 n2 t o K lm hv W) (hb : Below W.heap.size W W') : PtS w0 B f s M d x p a c P T σ cs F n cs2 F2 n2 t o K lm hv W' :=
  have ht : Touch (fun _ => False) W W' := .of hb
  { h with fl := h.fl.grew hb, mach := h.mach.grew hb, arx := h.arx.grew hb, port := h.port.grew hb, doc := h.doc.touchP ht (fun e => e) (fun e => e) (fun _ _ e => e), tape := h.tape.touch ht (fun e => e) (fun _ _ e => e), bel := h.bel.trans (hb.mono h.bel.size) }
theorem PtS.quiet (h : PtS w0 B f s M d x p a c P T σ cs F n cs2 F2 n2 t o K lm hv W) (hq : Quiet W W') : PtS w0 B f s M d x p a c P T σ cs F n cs2 F2 n2 t o K lm hv W' := h.grew hq.below
theorem PtS.drew (h : PtS w0 B f s M d x p a c P T σ cs F n cs2 F2 n2 t o K lm hv W) : PtS w0 B f s M d x p a c P T σ cs F n cs2 F2 n2 t o K lm hv W.drew := h.quiet ⟨1, rfl⟩
theorem PtS.pin (h : PtS w0 B f s M d x p a c P T σ cs F n cs2 F2 n2 t o K lm hv W) (hb : Below W.heap.size W W') : PtS w0 B f s M d x p a c P T σ cs F n cs2 F2 n2 t o (btw W.heap.size W'.heap.size ++ K) lm hv W' :=
  have ht : Touch (fun _ => False) W W' := .of hb
  { h.grew hb with arx := h.arx.touchMore ht (fun _ e => e.elim), inK := fun b hb => List.mem_append_right _ (h.inK b hb), lmK := fun g e => List.mem_append_right _ (h.lmK g e), hvK := fun g e => List.mem_append_right _ (h.hvK g e) }
/-- a block of one's own is written -/
theorem PtS.own {b : Nat} (h : PtS w0 B f s M d x p a c P T σ cs F n cs2 F2 n2 t o K lm hv W) (hb : b ∈ K) (h1 : b ∉ ptL f s M d x p) (h2 : lm.ownBlock ≠ some b) (h3 : hv.ownBlock ≠ some b) (h4 : w0.heap.size ≤ b) (ht : Touch (· = b) W W') : PtS w0 B f s M d x p a c P T σ cs F n cs2 F2 n2 t o K lm hv W' := by
  unfold ptL at h1
  simp only [List.mem_cons, List.not_mem_nil, or_false, not_or] at h1
  obtain ⟨e1, e2, e3, e4, e5, e6⟩ := h1
  exact { h with
    fl := h.fl.touch ht (Ne.symm e1), mach := h.mach.touch ht (Ne.symm e2), arx := h.arx.touch ht (fun g e => by subst e; exact hb), port := h.port.touch ht (Ne.symm e6),
    doc := h.doc.touchP ht (Ne.symm e3) (Ne.symm e4) (fun g e r => h2 (by rw [e, r])), tape := h.tape.touch ht (Ne.symm e5) (fun g e r => h3 (by rw [e, r])),
    bel := h.bel.trans (ht.below h.bel.size (fun g e => by subst e; exact h4)) }
theorem PtS.ask (h : PtS w0 B f s M d x p a c P T σ cs F n cs2 F2 n2 t o K lm hv W) {t' : Tp} (hT : TapeAt W' B x hv t') (ht : Touch (· = x) W W') : PtS w0 B f s M d x p a c P T σ cs F n cs2 F2 n2 t' o K lm hv W' := by
  have nd := nd6 h.nd
  exact { h with
    fl := h.fl.touch ht (by simp [nd]), mach := Blk.touch h.mach ht (by simp [nd]), arx := h.arx.touch ht (fun b e => by subst e; exact h.inK _ (by simp [ptL])), port := h.port.touch ht (by simp [nd]),
    doc := h.doc.touchP ht (by simp [nd]) (by simp [nd]) (fun g e r => (h.lmn g e).1 (by simp [ptL, r])), tape := hT,
    bel := h.bel.trans (ht.below h.bel.size (fun b e => by subst e; exact h.lo _ (by simp [ptL]))) }
theorem PtS.sw (h : PtS w0 B f s M d x p a c P T σ cs F n cs2 F2 n2 t o K lm hv W) : SwS W B a c p s σ cs (flat F (List.range n)) n K 15 o W := MaS.start h.mach h.arx h.port
theorem PtS.mr (h : PtS w0 B f s M d x p a c P T σ cs F n cs2 F2 n2 t o K lm hv W) : MaR p s K := by
  have nd := nd6 h.nd
  exact ⟨by simp [nd], h.inK _ (by simp [ptL]), h.inK _ (by simp [ptL])⟩
/-- the machine's side has moved -/
theorem PtS.moved (h : PtS w0 B f s M d x p a c P T σ cs F n cs2 F2 n2 t o K lm hv W) {σ' : Sw} {cs' : List Int} {F' : Nat → Nat → Int} {n' : Nat} {o' : Bool} (hB : SwS W B a c p s σ' cs' (flat F' (List.range n')) n' K 15 o' W') :
    PtS w0 B f s M d x p a c P T σ' cs' F' n' cs2 F2 n2 t o' K lm hv W' := by
  have nd := nd6 h.nd
  have ht := hB.touch
  have no : ∀ b, b ∈ [f, M, d, x] → ¬ (b = p ∨ b = s ∨ (B ≤ b ∧ b ∉ K)) := by
    intro b hb r
    have q : b ≠ p ∧ b ≠ s ∧ b ∈ ptL f s M d x p := by
      unfold ptL
      simp only [List.mem_cons, List.not_mem_nil, or_false] at hb
      rcases hb with rfl | rfl | rfl | rfl <;> simp [nd]
    rcases r with r | r | r
    · exact q.1 r
    · exact q.2.1 r
    · exact r.2 (h.inK b q.2.2)
  have nl : ∀ g, g ∉ ptL f s M d x p → g ∈ K → ¬ (g = p ∨ g = s ∨ (B ≤ g ∧ g ∉ K)) := by
    intro g h1 h2 r
    rcases r with r | r | r
    · exact h1 (by simp [ptL, r])
    · exact h1 (by simp [ptL, r])
    · exact r.2 h2
  exact { h with
    fl := h.fl.touch ht (no f (by simp)), mach := hB.mach, arx := hB.arx, port := hB.port,
    doc := h.doc.touchP ht (no M (by simp)) (no d (by simp)) (fun g e => nl g (h.lmn g e).1 (h.lmK g e)), tape := h.tape.touch ht (no x (by simp)) (fun g e => nl g (h.hvn g e) (h.hvK g e)),
    bel := h.bel.trans (ht.below h.bel.size (fun b e => by
      rcases e with rfl | rfl | e
      · exact h.lo _ (by simp [ptL])
      · exact h.lo _ (by simp [ptL])
      · exact Nat.le_trans h.lB e.1)) }
/-- the document's arena makes what the tape asks -/
theorem PtS.made (h : PtS w0 B f s M d x p a c P T σ cs F n cs2 F2 n2 t o K lm hv W) {cs3 : List Int} {F3 : Nat → Nat → Int} {n3 : Nat} {t' : Tp} {lm' hv' : Value} (hD : RefA W' B M d cs3 lm' (flat F3 (List.range n3)) n3 0) (hT : TapeAt W' B x hv' t')
    (g1 : ∀ g, lm'.ownBlock = some g → lm.ownBlock = some g ∨ W.heap.size ≤ g) (g2 : ∀ g, hv'.ownBlock = some g → hv.ownBlock = some g ∨ W.heap.size ≤ g) (g3 : ∀ g, hv'.ownBlock = some g → lm'.ownBlock ≠ some g)
    (ht : Touch (fun b => b = M ∨ b = d ∨ lm.ownBlock = some b ∨ b = x ∨ hv.ownBlock = some b) W W') :
    PtS w0 B f s M d x p a c P T σ cs F n cs3 F3 n3 t' o (btw W.heap.size W'.heap.size ++ K) lm' hv' W' := by
  have nd := nd6 h.nd
  have hl : ∀ b ∈ ptL f s M d x p, b < W.heap.size := fun b hb => h.arx.lt b (h.inK b hb)
  have l1 := fun g e => (hD.log.lt g e).2
  have l2 := fun g e => (hT.row.lt g e).2
  have no : ∀ b, b ∈ [f, s, p] → ¬ (b = M ∨ b = d ∨ lm.ownBlock = some b ∨ b = x ∨ hv.ownBlock = some b) := by
    intro b hb r
    have q : b ≠ M ∧ b ≠ d ∧ b ≠ x ∧ b ∈ ptL f s M d x p := by
      unfold ptL
      simp only [List.mem_cons, List.not_mem_nil, or_false] at hb
      rcases hb with rfl | rfl | rfl <;> simp [nd]
    rcases r with r | r | r | r | r
    · exact q.1 r
    · exact q.2.1 r
    · exact (h.lmn b r).1 q.2.2.2
    · exact q.2.2.1 r
    · exact h.hvn b r q.2.2.2
  have inR : ∀ b, (b = M ∨ b = d ∨ lm.ownBlock = some b ∨ b = x ∨ hv.ownBlock = some b) → b ∈ K := by
    intro b r
    rcases r with rfl | rfl | r | rfl | r
    · exact h.inK _ (by simp [ptL])
    · exact h.inK _ (by simp [ptL])
    · exact h.lmK b r
    · exact h.inK _ (by simp [ptL])
    · exact h.hvK b r
  have loR : ∀ b, (b = M ∨ b = d ∨ lm.ownBlock = some b ∨ b = x ∨ hv.ownBlock = some b) → w0.heap.size ≤ b := by
    intro b r
    rcases r with rfl | rfl | r | rfl | r
    · exact h.lo _ (by simp [ptL])
    · exact h.lo _ (by simp [ptL])
    · exact Nat.le_trans h.lB (h.doc.log.lt b r).1
    · exact h.lo _ (by simp [ptL])
    · exact Nat.le_trans h.lB (h.tape.row.lt b r).1
  exact { h with
    fl := h.fl.touch ht (no f (by simp)), mach := Blk.touch h.mach ht (no s (by simp)), arx := h.arx.touchMore ht inR, port := h.port.touch ht (no p (by simp)), doc := hD, tape := hT,
    bel := h.bel.trans (ht.below h.bel.size loR),
    inK := fun b hb => List.mem_append_right _ (h.inK b hb),
    lmK := fun g e => (g1 g e).elim (fun r => List.mem_append_right _ (h.lmK g r)) (fun r => List.mem_append_left _ (mem_btw.2 ⟨r, l1 g e⟩)),
    hvK := fun g e => (g2 g e).elim (fun r => List.mem_append_right _ (h.hvK g r)) (fun r => List.mem_append_left _ (mem_btw.2 ⟨r, l2 g e⟩)),
    lmn := fun g e => ⟨(g1 g e).elim (fun r => (h.lmn g r).1) (fun r hb => by have := hl g hb; omega), fun r => g3 g r e⟩,
    hvn := fun g e => (g2 g e).elim (fun r => h.hvn g r) (fun r hb => by have := hl g hb; omega) }
/-- a cell of the document's arena is written -/
theorem PtS.put (h : PtS w0 B f s M d x p a c P T σ cs F n cs2 F2 n2 t o K lm hv W) (i : Nat) (v : Int) : PtS w0 B f s M d x p a c P T σ cs F n (cs2.set i v) F2 n2 t o K lm hv (W.setCell ⟨d, i, none⟩ (.int .u64 v)) := by
  have nd := nd6 h.nd
  have ht : Touch (· = d) W (W.setCell ⟨d, i, none⟩ (.int .u64 v)) := Touch.setCell (R := (· = d)) (p := ⟨d, i, none⟩) (Touch.refl _ _) rfl _
  have hD := h.doc
  refine { h with
    fl := h.fl.touch ht (by simp [nd]), mach := Blk.touch h.mach ht (by simp [nd]), arx := h.arx.touch ht (fun b e => by subst e; exact h.inK _ (by simp [ptL])), port := h.port.touch ht (by simp [nd]),
    doc := ⟨?_, ?_, own_touchP hD.log ht (fun g e r => hD.ld (by rw [e, r])), hD.md, hD.lM, hD.ld⟩,
    tape := h.tape.touch ht (by simp [nd]) (fun g e r => h.hvn g e (by simp [ptL, r])),
    bel := h.bel.setCell (p := ⟨d, i, none⟩) (h.lo d (by simp [ptL])) _ }
  · rw [List.length_set]; exact Blk.touch hD.own ht (by simp [nd])
  · have := Blk.set hD.row i (.int .u64 v)
    rw [List.map_set, ← List.setIfInBounds_toArray]
    exact this
/-- a cell of the program's arena is poked -/
theorem PtS.poke {i : Nat} (h : PtS w0 B f s M d x p a c P T σ cs F n cs2 F2 n2 t o K lm hv W) (v : Int) (hi : i < cs.length) (hm : cs.length ≤ 1000000) :
    Calls Tryz.prog 27 #[.pointer (some ⟨a, 0, none⟩), .int .i64 i, .int .u64 v] W fun e w' => e = .returned (.int .i64 0) ∧ PtS w0 B f s M d x p a c P T σ (cs.set i v) F n cs2 F2 n2 t o K lm hv w' := by
  have hc := h.arx.nc
  have hbc := h.arx.bc
  refine (poke_x v h.arx hi hm).mono fun e w' ⟨he, hA, ht⟩ => ⟨he, ?_⟩
  have no : ∀ b ∈ ptL f s M d x p, ¬ b = c := fun b hb e => hc (e ▸ h.inK b hb)
  exact { h with
    fl := h.fl.touch ht (no f (by simp [ptL])), mach := Blk.touch h.mach ht (no s (by simp [ptL])), arx := hA, port := h.port.touch ht (no p (by simp [ptL])),
    doc := h.doc.touchP ht (no M (by simp [ptL])) (no d (by simp [ptL])) (fun g e r => hc (r ▸ h.lmK g e)), tape := h.tape.touch ht (no x (by simp [ptL])) (fun g e r => hc (r ▸ h.hvK g e)),
    bel := h.bel.trans (ht.below h.bel.size (fun b e => by rw [e]; exact Nat.le_trans h.lB hbc)) }
/-- the calls of a round -/
theorem PtS.again (h : PtS w0 B f s M d x p a c P T σ cs F n cs2 F2 n2 t o K lm hv W) :
    Calls Tryz.prog 9 #[.pointer (some ⟨x, 0, none⟩)] W fun e w' => (∃ v, e = .returned v) ∧ PtS w0 B f s M d x p a c P T σ cs F n cs2 F2 n2 t.again o K lm hv w' :=
  (again_at B x hv t W h.tape).mono fun _ _ ⟨he, hT, ht⟩ => ⟨he, h.ask hT ht⟩
theorem PtS.grant (h : PtS w0 B f s M d x p a c P T σ cs F n cs2 F2 n2 t o K lm hv W) :
    Calls Tryz.prog 29 #[.pointer (some ⟨p, 0, none⟩)] W fun e w' => (∃ v, e = .returned v) ∧ PtS w0 B f s M d x p a c P T σ cs F n cs2 F2 n2 t true K lm hv w' :=
  (h.sw.grant h.mr).mono fun _ _ ⟨he, hB⟩ => ⟨he, h.moved hB⟩
theorem PtS.make (h : PtS w0 B f s M d x p a c P T σ cs F n cs2 F2 n2 t o K lm hv W) (i : Nat) (hk : 1 ≤ t.k ∧ t.k ≤ 6) (ha : t.a = (i : Int)) (hi : i < cs2.length) (hn : n2 < 1000000) (hH : t.H.length < 1000000) :
    Calls Tryz.prog 45 #[.pointer (some ⟨M, 0, none⟩), .pointer (some ⟨x, 0, none⟩), .int .i64 15] W fun e w' => (∃ v, e = .returned v) ∧ ∃ K' lm' hv',
      PtS w0 B f s M d x p a c P T σ cs F n (cs2.set i (leftI t.k (cs2.getD i 0) t.wn t.p)) (more F2 n2 15 t.k i t.wn t.p (cs2.getD i 0) (leftI t.k (cs2.getD i 0) t.wn t.p)) (n2 + 1) { t with H := t.H ++ [cs2.getD i 0] } o K' lm' hv' w' := by
  have nd := nd6 h.nd
  refine (make_yes 15 i h.doc h.tape (by simp [nd]) (by simp [nd]) (fun e => h.hvn M e (by simp [ptL])) (fun e => h.hvn d e (by simp [ptL])) (fun e => (h.lmn x e).1 (by simp [ptL])) (fun g e e2 => (h.lmn g e2).2 e) h.arx.bw h.arx.bw hn hH (decide_eq_true hk) ha hi).mono ?_
  rintro e w' ⟨he, lm', hv', hD, hT, g1, g2, g3, ht⟩
  refine ⟨he, _, lm', hv', h.made ?_ hT g1 g2 g3 ht⟩
  rw [flat_more]
  exact hD
theorem PtS.step {σ' : Sw} {k wn pt : Int} {i : Nat} (h : PtS w0 B f s M d x p a c P T σ cs F n cs2 F2 n2 t true K lm hv W) (hS : StpOk σ σ' k wn pt cs i) (hn : n < 1000000) :
    Calls Tryz.prog 12 #[.pointer (some ⟨s, 0, none⟩), .pointer (some ⟨p, 0, none⟩)] W fun e w' => e = .returned (.bool (σ'.nx == 0)) ∧
      PtS w0 B f s M d x p a c P T σ' (cs.set i (leftI k (cs.getD i 0) wn pt)) (more F n 15 k i wn pt (cs.getD i 0) (leftI k (cs.getD i 0) wn pt)) (n + 1) cs2 F2 n2 t false K lm hv w' :=
  (hS W W B a c p s n K _ h.sw h.mr hn).mono fun _ _ ⟨he, hB⟩ => ⟨he, h.moved (by rw [flat_more]; exact hB)⟩
theorem PtS.asked {who cy pg : Int} {H : List Int} {r : Swr} {q : Option (Int × Int × Int × Int)} (h : PtS w0 B f s M d x p a c P T σ cs F n cs2 F2 n2 t o K lm hv W) (hD : DocIs P T who cy pg H r q) (hH : t.H = H) (hp : t.pos = 0) (hs : t.st = false) (hl : H.length ≤ 1000000) (hU : ∀ z ∈ H, U64 z) :
    Calls Tryz.prog 10 #[.pointer (some ⟨x, 0, none⟩), .agg #[.int .i64 P, .int .i64 T, .int .i64 1, .int .i64 (baseI P T 1), .int .i64 (tabI T 1), .int .i64 (baseI P T 1 + 64 * P)], .int .i64 who, .int .i64 cy, .int .i64 pg] W fun e w' => e = .returned (.agg r.V) ∧ ∃ t', t'.H = H ∧ (∀ k a' wn pt, q = some (k, a', wn, pt) → t'.k = k ∧ t'.a = a' ∧ t'.wn = wn ∧ t'.p = pt) ∧ PtS w0 B f s M d x p a c P T σ cs F n cs2 F2 n2 t' o K lm hv w' :=
  (hD W B x hv t h.tape (h.arx.lt x (h.inK x (by simp [ptL]))) (fun g e => h.arx.lt g (h.hvK g e)) hH hp hs hl hU).mono fun _ _ ⟨he, t', h1, h2, hT, ht⟩ => ⟨he, t', h1, h2, h.ask hT ht⟩
theorem PtS.over (h : PtS w0 B f s M d x p a c P T σ cs F n cs2 F2 n2 t o K lm hv W) :
    Calls Tryz.prog 13 #[.pointer (some ⟨s, 0, none⟩)] W fun e w' => e = .returned (.bool (σ.nx == 0)) ∧ PtS w0 B f s M d x p a c P T σ cs F n cs2 F2 n2 t o K lm hv w' :=
  (swOver h.mach).mono fun _ _ ⟨he, hq⟩ => ⟨he, h.quiet hq⟩
theorem PtS.swept (h : PtS w0 B f s M d x p a c P T σ cs F n cs2 F2 n2 t o K lm hv W) :
    Calls Tryz.prog 14 #[.pointer (some ⟨s, 0, none⟩)] W fun e w' => e = .returned (.bool σ.sw) ∧ PtS w0 B f s M d x p a c P T σ cs F n cs2 F2 n2 t o K lm hv w' :=
  (swSwept h.mach).mono fun _ _ ⟨he, hq⟩ => ⟨he, h.quiet hq⟩
theorem PtS.blocked (h : PtS w0 B f s M d x p a c P T σ cs F n cs2 F2 n2 t o K lm hv W) :
    Calls Tryz.prog 17 #[.pointer (some ⟨s, 0, none⟩)] W fun e w' => e = .returned (.bool σ.bl) ∧ PtS w0 B f s M d x p a c P T σ cs F n cs2 F2 n2 t o K lm hv w' :=
  (swBlocked h.mach).mono fun _ _ ⟨he, hq⟩ => ⟨he, h.quiet hq⟩
theorem PtS.empty (h : PtS w0 B f s M d x p a c P T σ cs F n cs2 F2 n2 t o K lm hv W) :
    Calls Tryz.prog 15 #[.pointer (some ⟨s, 0, none⟩)] W fun e w' => e = .returned (.bool (σ.sw && σ.kp == 0)) ∧ PtS w0 B f s M d x p a c P T σ cs F n cs2 F2 n2 t o K lm hv w' :=
  (swEmpty h.mach).mono fun _ _ ⟨he, hq⟩ => ⟨he, h.quiet hq⟩
theorem PtS.freed {r : Swr} (hF : Fl σ r) (h : PtS w0 B f s M d x p a c P T σ cs F n cs2 F2 n2 t o K lm hv W) :
    Calls Tryz.prog 16 #[.pointer (some ⟨s, 0, none⟩)] W fun e w' => e = .returned (.int .i64 r.fr) ∧ PtS w0 B f s M d x p a c P T σ cs F n cs2 F2 n2 t o K lm hv w' := by
  obtain ⟨_, _, _, _, h1, h2⟩ := hF
  cases hs : σ.sw with
  | false =>
    rw [h1 hs]
    exact (swFreed_not h.mach hs).mono fun _ _ ⟨he, hq⟩ => ⟨he, h.quiet hq⟩
  | true =>
    rw [(h2 hs).2]
    exact (swFreed_yes h.mach hs (h2 hs).1).mono fun _ _ ⟨he, hq⟩ => ⟨he, h.quiet hq⟩
end
end Go.Proofs.YtnodeojeijekcaaGreat
