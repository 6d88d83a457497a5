/- mask.All as an iterator: it goes over the iterators of its words. Conditions: the list is short, the table of math/bits lies as the start lays it. -/
import Derived.Test.YtbpgnhakphpobaaDoorItex
import Derived.Test.YtbpgnhakphpobaaDoorWithout
namespace Go.Proofs.YtbpgnhakphpobaaDoor
open Go.RowKit Go.Shelf
set_option linter.unusedVariables false
attribute [local go_sem] Oper.semAt_some

/-- a party's own facts beside its caller's: E are its own blocks -/
def Wth {σ : Type} (E : Nat → Prop) (J : σ → (Nat → Prop) → World → Prop) (C : World → Prop) : σ → (Nat → Prop) → World → Prop := fun s Y W => ∃ Yj : Nat → Prop, (∀ k, Y k ↔ (Yj k ∨ E k)) ∧ (∀ k, E k → ¬ Yj k) ∧ J s Yj W ∧ C W
theorem foot_with {σ : Type} {E : Nat → Prop} {J : σ → (Nat → Prop) → World → Prop} {C : World → Prop} (hJ : Foot J) (hC : ∀ A B, C A → (∀ k, E k → k < A.heap.size) → Keep E A B → C B) : Foot (Wth E J C) := by
  rintro s Y A B ⟨Yj, h1, h2, h3, h4⟩ hlt hk
  exact ⟨Yj, h1, h2, hJ s Yj A B h3 (fun k e => hlt k ((h1 k).2 (.inl e))) ⟨hk.os, hk.tape, hk.output, hk.size, fun k e => hk.block k ((h1 k).2 (.inl e))⟩, hC A B h4 (fun k e => hlt k ((h1 k).2 (.inr e))) ⟨hk.os, hk.tape, hk.output, hk.size, fun k e => hk.block k ((h1 k).2 (.inr e))⟩⟩
theorem foot_map {σ τ : Type} {J : σ → (Nat → Prop) → World → Prop} (hJ : Foot J) (f : τ → σ) (p : τ → Prop) : Foot (fun s Y W => p s ∧ J (f s) Y W) := fun s Y A B h hl hk => ⟨h.1, hJ _ Y A B h.2 hl hk⟩
theorem Went.with {Yj Yj' E Y : Nat → Prop} {A B : World} (h : Went Yj A Yj' B) (h1 : ∀ k, Y k ↔ (Yj k ∨ E k)) (hE : ∀ k, E k → k < A.heap.size) : Went Y A (fun k => Yj' k ∨ E k) B :=
  ⟨h.touch.mono (fun k _ hk => (h1 k).2 (.inl hk)), fun k hk => by
    rcases hk with hk | hk
    · rcases h.new k hk with e | e
      · exact .inl ((h1 k).2 (.inl e))
      · exact .inr e
    · exact .inl ((h1 k).2 (.inr hk)), fun k hk => by
    rcases hk with hk | hk
    · exact h.lt k hk
    · exact Nat.lt_of_lt_of_le (hE k hk) h.touch.size⟩
theorem Went.without {X Y Yj E : Nat → Prop} {A B : World} (h : Went X A Y B) (h1 : ∀ k, Y k → ¬ E k → Yj k) (h2 : ∀ k, Yj k → Y k) {X0 : Nat → Prop} {A0 : World} (hX : ∀ k, X k → X0 k ∨ A0.heap.size ≤ k) (h0 : Below A0.heap.size A0 A) : Went X0 A0 Yj B :=
  ⟨⟨h.touch.os.trans h0.os, h.touch.tape.trans h0.tape, h.touch.output.trans h0.output, Nat.le_trans h0.size h.touch.size, fun k hk hx => (h.touch.block k (Nat.lt_of_lt_of_le hk h0.size) (fun e => by
    rcases hX k e with e | e
    · exact hx e
    · omega)).trans (h0.block k hk)⟩, fun k hk => by
    rcases h.new k (h2 k hk) with e | e
    · exact hX k e
    · exact .inr (Nat.le_trans h0.size e), fun k hk => h.lt k (h2 k hk)⟩
theorem Went.not {X Y : Nat → Prop} {A B : World} (h : Went X A Y B) {k : Nat} (hk : k < A.heap.size) (hx : ¬ X k) : ¬ Y k := fun e => by
  rcases h.new k e with e | e
  · exact hx e
  · omega
theorem Went.shut {X Y R : Nat → Prop} {A B C : World} (h : Went X A Y B) (ht : Touch R B C) (hR : ∀ k, R k → A.heap.size ≤ k) : Went X A Y C :=
  ⟨⟨ht.os.trans h.touch.os, ht.tape.trans h.touch.tape, ht.output.trans h.touch.output, Nat.le_trans h.touch.size ht.size, fun k hk hx => (ht.block k (Nat.lt_of_lt_of_le hk h.touch.size) (fun e => by have := hR k e; omega)).trans (h.touch.block k hk hx)⟩, h.new, fun k hk => Nat.lt_of_lt_of_le (h.lt k hk) ht.size⟩
/-- the way out of a function with many marks -/
theorem leaves_marks {F : Fence} {n : Nat} {P : Program} {fn : Func} {tmps : Array Value} {R : Ending → World → Prop} (v : Value) (hv : ∀ w, (results fn tmps).run P w = .ok v w) : ∀ (Ds : List Nat) (w : World), Ds.Nodup → (∀ D ∈ Ds, w.heap[D]? = some (.deferred (some []))) → (∀ w', Touch (· ∈ Ds) w w' → R (.returned v) w') → LeavesInM F n P fn tmps R (Ds.map markD) .returning w
  | [], w, _, _, h => ⟨v, hv w, h w (Touch.refl _ _)⟩
  | D :: Ds, w, hn, hd, h => by
    obtain ⟨h1, h2⟩ := List.nodup_cons.1 hn
    refine ⟨by simp, .inl ⟨D, _, rfl, run_takeDeferred (hd D (by simp)), ?_⟩⟩
    refine leaves_marks v hv Ds _ h2 (fun D' hD' => (World.putObj_heap_other (fun e => h1 (by rw [← e]; exact hD'))).trans (hd D' (by simp [hD']))) (fun w' ht => h w' ?_)
    exact Touch.trans (Touch.putObj (Touch.refl _ _) (.inl (by simp)) _) (ht.mono (fun k _ hk => by simp [hk]))

/-- the places of a list of words -/
def nums (l : List (Fin 65536)) : List Int := l.map fun i => ((i.val : Nat) : Int)
theorem nums_snoc (l : List (Fin 65536)) (i : Fin 65536) : nums (l ++ [i]) = nums l ++ [((i.val : Nat) : Int)] := by simp [nums]
abbrev plEnc (i : Fin 65536) : Array Value := #[.int .i64 ((i.val : Nat) : Int)]
def plR (l : List Int) (m : Nat) : List Int := (List.range m).flatMap fun i => (plcs (l.getD i 0).toNat 64).map fun p => 64 * (i : Int) + p
def plL (l : List Int) : List Int := plR l l.length
theorem plR_succ (l : List Int) (m : Nat) : plR l (m + 1) = plR l m ++ (plcs (l.getD m 0).toNat 64).map fun p => 64 * (m : Int) + p := by simp [plR, List.range_succ]
theorem plR_pre (l : List Int) : ∀ (d m : Nat), plR l m <+: plR l (m + d)
  | 0, m => List.prefix_refl _
  | d + 1, m => (plR_pre l d m).trans (by rw [Nat.add_succ, plR_succ]; exact ⟨_, rfl⟩)
/-- a bit's place in its list -/
def upF (i : Nat) (hi : i < 1024) (b : Fin 64) : Fin 65536 := ⟨64 * i + b.val, by have := b.isLt; omega⟩
theorem nums_up (i : Nat) (hi : i < 1024) (l : List (Fin 64)) : nums (l.map (upF i hi)) = (fins l).map fun p => 64 * (i : Int) + p := by
  simp [nums, fins, upF, List.map_map, Function.comp_def]
theorem nums_len (l : List (Fin 65536)) : (nums l).length = l.length := by simp [nums]
theorem fins_len (l : List (Fin 64)) : (fins l).length = l.length := by simp [fins]

theorem Went.join {X Y Xin Yc Yj : Nat → Prop} {W wr w2 Wc : World} (h : Went X W Y wr) (h2 : Touch (fun _ => False) wr w2) (h3 : Went Xin w2 Yc Wc) (hX : ∀ k, Xin k → Y k ∨ W.heap.size ≤ k) (hY : ∀ k, Yj k → Yc k) : Went X W Yj Wc := by
  have hx : ∀ k, Xin k → X k ∨ W.heap.size ≤ k := fun k e => by
    rcases hX k e with e | e
    · exact h.new k e
    · exact .inr e
  refine ⟨⟨h3.touch.os.trans (h2.os.trans h.touch.os), h3.touch.tape.trans (h2.tape.trans h.touch.tape), h3.touch.output.trans (h2.output.trans h.touch.output), Nat.le_trans h.touch.size (Nat.le_trans h2.size h3.touch.size), fun k hk hn => ?_⟩, fun k hk => ?_, fun k hk => h3.lt k (hY k hk)⟩
  · have e1 := h.touch.block k hk hn
    have e2 := h2.block k (Nat.lt_of_lt_of_le hk h.touch.size) (fun e => e)
    refine (h3.touch.block k (Nat.lt_of_lt_of_le hk (Nat.le_trans h.touch.size h2.size)) (fun e => ?_)).trans (e2.trans e1)
    rcases hx k e with e | e
    · exact hn e
    · omega
  · rcases h3.new k (hY k hk) with e | e
    · exact hx k e
    · exact .inr (Nat.le_trans h.touch.size (Nat.le_trans h2.size e))
theorem out_marks {P : Program} {X Y : Nat → Prop} {W wr : World} {Ds : List Nat} (we : Went X W Y wr) (dn : Ds.Nodup) (dd : ∀ D ∈ Ds, wr.heap[D]? = some (.deferred (some [])) ∧ W.heap.size ≤ D ∧ ¬ Y D) {fn : Func} {tmps : Array Value} {Res : (Nat → Prop) → World → Prop} (hres : ∀ w', Keep Y wr w' → Res Y w') (v : Value) (hv : ∀ w, (results fn tmps).run P w = .ok v w) :
    LeavesInM Fence.wide 9 P fn tmps (fun e W' => (∃ v, e = .returned v) ∧ ∃ Y, Went X W Y W' ∧ Res Y W') (Ds.map markD) .returning wr :=
  leaves_marks v hv Ds wr dn (fun D hD => (dd D hD).1) (fun w' ht => ⟨⟨_, rfl⟩, Y, we.shut ht (fun k hk => (dd k hk).2.1), hres w' (Keep.of_touch ht (fun k hy hk => (dd k hk).2.2 hy))⟩)
end Go.Proofs.YtbpgnhakphpobaaDoor
