/- Ranges over functions whose iterators range over others, and store into variables of their own: a set of blocks says what is the caller's. No condition. -/
import Derived.Test.YtedccpconldkoaaTouch
import Derived.RangeFuncRecord
import Derived.RangeFuncCalls
import Derived.RangeFuncBound
import Derived.RangeFuncWrites
namespace Go.Proofs.Ytedccpconldkoaa
open Go.RowKit
set_option linter.unusedVariables false

/-- what X names lies as it lay -/
structure Keep (X : Nat → Prop) (w w' : World) : Prop where
  os : w'.os = w.os
  tape : w'.tape = w.tape
  output : w'.output = w.output
  size : w.heap.size ≤ w'.heap.size
  block : ∀ k, X k → k < w.heap.size → w'.heap[k]? = w.heap[k]?
def Foot {σ : Type} (J : σ → (Nat → Prop) → World → Prop) : Prop := ∀ s X W W', J s X W → (∀ k, X k → k < W.heap.size) → Keep X W W' → J s X W'
/-- a party whose blocks were X at W has come to W', with the blocks X' -/
structure Went (X : Nat → Prop) (W : World) (X' : Nat → Prop) (W' : World) : Prop where
  touch : Touch X W W'
  new : ∀ k, X' k → X k ∨ W.heap.size ≤ k
  lt : ∀ k, X' k → k < W'.heap.size
theorem Went.refl {X : Nat → Prop} {W : World} (h : ∀ k, X k → k < W.heap.size) : Went X W X W := ⟨Touch.refl _ _, fun _ hk => .inl hk, h⟩
theorem Went.trans {X Y Z : Nat → Prop} {A B C : World} (h : Went X A Y B) (k : Went Y B Z C) : Went X A Z C :=
  ⟨⟨k.touch.os.trans h.touch.os, k.touch.tape.trans h.touch.tape, k.touch.output.trans h.touch.output, Nat.le_trans h.touch.size k.touch.size, fun i hi hx => by
    have h1 := h.touch.block i hi hx
    refine (k.touch.block i (Nat.lt_of_lt_of_le hi h.touch.size) (fun hy => ?_)).trans h1
    rcases h.new i hy with e | e
    · exact hx e
    · omega⟩, fun i hz => by
    rcases k.new i hz with e | e
    · exact h.new i e
    · exact .inr (Nat.le_trans h.touch.size e), k.lt⟩
theorem Keep.of_touch {X R : Nat → Prop} {w w' : World} (h : Touch R w w') (hx : ∀ k, X k → ¬ R k) : Keep X w w' := ⟨h.os, h.tape, h.output, h.size, fun k hk hl => h.block k hl (hx k hk)⟩
theorem Touch.putObj {R : Nat → Prop} {a w : World} (h : Touch R a w) {l : Nat} (hl : R l ∨ a.heap.size ≤ l) (o : Obj) : Touch R a (w.putObj l o) :=
  ⟨h.os, h.tape, h.output, by rw [World.putObj_size]; exact h.size, fun k hk hr => (World.putObj_heap_other (fun e => by
    subst e
    rcases hl with e | e
    · exact hr e
    · omega)).trans (h.block k hk hr)⟩
theorem Keep.trans {X : Nat → Prop} {a b c : World} (h : Keep X a b) (k : Keep X b c) : Keep X a c :=
  ⟨k.os.trans h.os, k.tape.trans h.tape, k.output.trans h.output, Nat.le_trans h.size k.size, fun i hx hi => (k.block i hx (Nat.lt_of_lt_of_le hi h.size)).trans (h.block i hx hi)⟩
theorem Blk.keep {X : Nat → Prop} {w w' : World} {b : Nat} {cs : Array Value} {t : TypeId} (h : Blk w b cs t) (hk : Keep X w w') (hx : X b) : Blk w' b cs t := h.of (hk.block b hx h.lt)

/-- a round of a wide fence is one of any depth, within any round -/
theorem round_wide {P : Program} {m m' l : Nat} {f : FuncId} {tmps : Array Value} {assign body : Code} {w : World} {R : Ending → World → Prop} (h : RoundIn Fence.wide m P l f tmps assign body w R) : RoundIn Fence.wide m' P l f tmps assign body w R :=
  ⟨trivial, fun c cs _ => h.2 c cs (room_wide _)⟩
theorem round_in {P : Program} {m m' l k : Nat} {f : FuncId} {tmps : Array Value} {assign body : Code} {w : World} {R : Ending → World → Prop} (h : RoundIn Fence.wide m P l f tmps assign body w R) : RoundIn (Fence.wide.inRound k) m' P l f tmps assign body w R :=
  round_wide h

/-- what an iterator promises: it hands on the elements, stops where it is told to, and writes none of its caller's blocks; Z: the blocks that it reads -/
def SeqX {α : Type} (P : Program) (g : Nat) (lb : Array Value) (encs : α → Array Value) (Z : Nat → Prop) (S Sp : List α → Prop) (N : Nat) (w : World) : Prop :=
  ∀ (l : Nat) (J Jx : List α → (Nat → Prop) → World → Prop) (X : Nat → Prop) (W : World), Below w.heap.size w W → (∀ k, X k → k < W.heap.size) → (∀ k, Z k → ¬ X k) → Foot J → Foot Jx →
    (∀ pre x Y W1, J pre Y W1 → (∀ k, Y k → k < W1.heap.size) → pre.length < N → YieldAt Fence.wide 9 P l (encs x) W1 fun e W' =>
      ∃ Y', Went Y W1 Y' W' ∧ ((e = .returned (.bool true) ∧ J (pre ++ [x]) Y' W') ∨ (e = .returned (.bool false) ∧ Jx (pre ++ [x]) Y' W'))) →
    J [] X W →
    CallsIn Fence.wide 9 P g (#[.func (.yield l) #[] #[]] ++ lb) W fun e W' => (∃ v, e = .returned v) ∧ ∃ Y, Went X W Y W' ∧ ((∃ xs, S xs ∧ J xs Y W') ∨ (∃ pre, Sp pre ∧ Jx pre Y W'))
theorem SeqX.later {α : Type} {P : Program} {g : Nat} {lb : Array Value} {encs : α → Array Value} {Z : Nat → Prop} {S Sp : List α → Prop} {N : Nat} {w w' : World} (h : SeqX P g lb encs Z S Sp N w) (hb : Below w.heap.size w w') : SeqX P g lb encs Z S Sp N w' :=
  fun l J Jx X W hW => h l J Jx X W (hb.trans (hW.mono hb.size))

/-- how the body of a round may be left -/
def postX {α : Type} (I : List α → (Nat → Prop) → World → Prop) (Ix : Code → List α → (Nat → Prop) → World → Prop) (xs : List α) (Y : Nat → Prop) (W : World) : Exit → Act → World → Prop
  | .normal, _, W' => ∃ Y', Went Y W Y' W' ∧ I xs Y' W'
  | .ret, _, W' => ∃ Y', Went Y W Y' W' ∧ Ix .ret xs Y' W'
  | .exit id, _, W' => ∃ Y', Went Y W Y' W' ∧ Ix (.exit id) xs Y' W'
  | .goto t, _, W' => ∃ Y', Went Y W Y' W' ∧ Ix (.goto t) xs Y' W'
  | .panic _, _, _ => False
  | .outgrown, _, _ => False
abbrev markD (D : Nat) : Deferred := { target := .collected D, args := #[] }

theorem range_X {α : Type} {P : Program} {n : Nat} {g : Operand} {ps : Array Tmp} {assign body : Code} {Q : Exit → Act → World → Prop} {a : Act} {w : World}
    {gf : Nat} {lb : Array Value} (hg : a.eval g = .func (.func gf) #[] lb) (eg : ∀ args w, (callFunc gf args).run P w = .ok (.enter gf args) w)
    {encs : α → Array Value} {Z : Nat → Prop} {S Sp : List α → Prop} {N : Nat} {w0 : World} (hseq : SeqX P gf lb encs Z S Sp N w0) (hb0 : Below w0.heap.size w0 w) (hps : ∀ x, (encs x).size = ps.size)
    (I : List α → (Nat → Prop) → World → Prop) (Ix : Code → List α → (Nat → Prop) → World → Prop) (X : Nat → Prop) (hX : ∀ k, X k → k < w.heap.size) (hZ : ∀ k, Z k → ¬ X k) (hZl : ∀ k, Z k → k < w.heap.size)
    (hI : Foot I) (hIx : ∀ c, Foot (Ix c)) (h0 : I [] X w) (a₁ : α → Act)
    (hassign : ∀ (l : Nat) (x : α) (W : World) (K : Act → World → Prop), K (a₁ x) W →
      assign.wpIn (Fence.wide.inRound l) 9 P (Exit.then K (fun _ _ _ => False)) { tmps := (ps.zip (encs x)).foldl (fun t (p, v) => t.setIfInBounds p v) a.tmps, defers := [] } W)
    (hbody : ∀ (l : Nat) (pre : List α) (x : α) (Y : Nat → Prop) (W : World), I pre Y W → (∀ k, Y k → k < W.heap.size) → Below w.heap.size w w → pre.length < N → body.wpIn (Fence.wide.inRound l) 9 P (postX I Ix (pre ++ [x]) Y W) (a₁ x) W)
    (hdone : ∀ (D : Nat) (xs : List α) (Y : Nat → Prop) (W : World), w.heap.size ≤ D → ¬ Y D → S xs → I xs Y W → Went X w Y W → W.heap[D]? = some (.deferred (some [])) → Q .normal { a with defers := markD D :: a.defers } W)
    (hstop : ∀ (D : Nat) (c : Code) (pre : List α) (Y : Nat → Prop) (W : World), w.heap.size ≤ D → ¬ Y D → Sp pre → Ix c pre Y W → Went X w Y W → W.heap[D]? = some (.deferred (some [])) → c.wpIn Fence.wide n P Q { a with defers := markD D :: a.defers } W) :
    (Code.rangeFunc g ps assign body).wpIn Fence.wide n P Q a w := by
  refine wpIn_rangeFunc ?_
  intro fn hfn
  obtain ⟨rec, hrec⟩ : ∃ rec : LoopState → Option Code → Loop, rec = fun st pe => { state := st, pending := pe, fn, tmps := a.tmps, params := ps, assign, body, defers := w.heap.size } := ⟨_, rfl⟩
  obtain ⟨W1, hW1⟩ : ∃ W1, (w.alloc (.deferred (some []))).alloc (.loop (rec .ready none)) = W1 := ⟨_, rfl⟩
  have hs1 : W1.heap.size = w.heap.size + 2 := by rw [← hW1]; simp
  have hL1 : W1.heap[w.heap.size + 1]? = some (.loop (rec .ready none)) := by
    rw [← hW1]; have := World.alloc_heap_new (w.alloc (.deferred (some []))) (.loop (rec .ready none)); rwa [World.size_alloc] at this
  have hD1 : W1.heap[w.heap.size]? = some (.deferred (some [])) := by
    rw [← hW1]; exact (Below.heap_alloc _ _ _ (by simp)).trans (World.alloc_heap_new w _)
  have hB1 : Below w.heap.size w W1 := by rw [← hW1]; exact ((Below.refl _ w).alloc (Nat.le_refl _) _).alloc (by simp) _
  have fJ : ∀ (I' : Loop → List α → (Nat → Prop) → World → Prop), (∀ x, Foot (I' x)) → Foot (fun pre (Y : Nat → Prop) W => ∃ (Yi : Nat → Prop) (x : Loop), (∀ k, Y k ↔ (Yi k ∨ k = w.heap.size ∨ k = w.heap.size + 1)) ∧ ¬ Yi w.heap.size ∧ ¬ Yi (w.heap.size + 1) ∧ I' x pre Yi W ∧ W.heap[w.heap.size + 1]? = some (.loop x) ∧ W.heap[w.heap.size]? = some (.deferred (some []))) := by
    rintro I' hI' s Y A B ⟨Yi, x, h1, h2, h3, h4, h5, h6⟩ hlt hk
    refine ⟨Yi, x, h1, h2, h3, hI' x s Yi A B h4 (fun k hk' => hlt k ((h1 k).2 (.inl hk'))) ⟨hk.os, hk.tape, hk.output, hk.size, fun k hk' hl => hk.block k ((h1 k).2 (.inl hk')) hl⟩, ?_, ?_⟩
    · exact (hk.block _ ((h1 _).2 (.inr (.inr rfl))) (hlt _ ((h1 _).2 (.inr (.inr rfl))))).trans h5
    · exact (hk.block _ ((h1 _).2 (.inr (.inl rfl))) (hlt _ ((h1 _).2 (.inr (.inl rfl))))).trans h6
  have f1 := fJ (fun x pre Y W => x = rec .ready none ∧ I pre Y W) (fun x s Y A B h hl hk => ⟨h.1, hI s Y A B h.2 hl hk⟩)
  have f2 := fJ (fun x pre Y W => ∃ c, x = rec .done (some c) ∧ Ix c pre Y W) (fun x s Y A B h hl hk => by obtain ⟨c, h1, h2⟩ := h; exact ⟨c, h1, hIx c s Y A B h2 hl hk⟩)
  refine ⟨w.heap.size + 1, [markD w.heap.size], W1, { target := .fn (.func gf) lb, args := #[.func (.yield (w.heap.size + 1)) #[] #[]] }, W1, gf, #[.func (.yield (w.heap.size + 1)) #[] #[]] ++ lb, W1, ?_, ?_, ?_, ?_, ?_, ?_⟩
  · rw [← hW1, hrec]; exact run_enterLoop_outer _ _ _ _ _
  · simp only [resolve, hg]
    simp [go_sem]
  · intro f' hf'; exact trivial
  · simp [invoke, go_sem, eg]
  · intro h; cases h
  · refine callsIn_wide.2 ((callsIn_wide.1 (hseq (w.heap.size + 1) _ _ (fun k => X k ∨ k = w.heap.size ∨ k = w.heap.size + 1) W1 (hb0.trans (hB1.mono hb0.size)) ?lt ?z f1 f2 ?round ?start)).mono ?_)
    case lt =>
      rintro k (h | h | h)
      · have := hX k h; omega
      · omega
      · omega
    case z =>
      rintro k hz (h | h | h)
      · exact hZ k hz h
      · have := hZl k hz; omega
      · have := hZl k hz; omega
    case start =>
      refine ⟨X, _, fun k => Iff.rfl, fun h => ?_, fun h => ?_, ⟨rfl, hI [] X w W1 h0 hX ⟨hB1.os, hB1.tape, hB1.output, hB1.size, fun k _ hl => hB1.block k hl⟩⟩, hL1, hD1⟩
      · have := hX _ h; omega
      · have := hX _ h; omega
    case round =>
      rintro pre x Y W ⟨Yi, _, h1, h2, h3, ⟨rfl, hi⟩, hl, hd⟩ hlt hlen
      have hlt' := hlt _ ((h1 _).2 (.inr (.inr rfl)))
      have hltd := hlt _ ((h1 _).2 (.inr (.inl rfl)))
      have hlti : ∀ k, Yi k → k < W.heap.size := fun k hk => hlt k ((h1 k).2 (.inl hk))
      have hy := run_yield (P := P) (args := encs x) hl (by rw [hrec]; exact hps x)
      rw [hrec] at hy
      refine ⟨fn, _, assign, body, hy, roundIn_of_wpIn hfn (hassign _ x W _ ?_)⟩
      clear hy
      refine ⟨_, run_beginRound hl (by rw [hrec]), ?_⟩
      have hl2 : (W.putObj (w.heap.size + 1) (.loop { rec .ready none with state := .busy })).heap[w.heap.size + 1]? = some (.loop { rec .ready none with state := .busy }) := World.putObj_heap_same hlt'
      have ht2 : Touch (fun k => k = w.heap.size + 1) W (W.putObj (w.heap.size + 1) (.loop { rec .ready none with state := .busy })) := Touch.putObj (R := fun k => k = w.heap.size + 1) (Touch.refl _ _) (.inl rfl) _
      have hi2 := hI pre Yi W _ hi hlti (Keep.of_touch ht2 (fun k hk e => h3 (e ▸ hk)))
      refine wpIn_mono (hbody _ pre x Yi _ hi2 (fun k hk => Nat.lt_of_lt_of_le (hlti k hk) ht2.size) (Below.refl _ _) hlen) ?_
      have fin : ∀ (jump : Option Code) (Y' : Nat → Prop) (W3 : World), Went Yi (W.putObj (w.heap.size + 1) (.loop { rec .ready none with state := .busy })) Y' W3 →
          (Instr.endRound (w.heap.size + 1) jump).run P W3 = .ok (.bool jump.isNone) (W3.putObj (w.heap.size + 1) (.loop (rec (if jump.isNone then .ready else .done) jump))) ∧
          (∀ I'' : (Nat → Prop) → World → Prop, I'' Y' W3 → (∀ A B, I'' Y' A → (∀ k, Y' k → k < A.heap.size) → Keep Y' A B → I'' Y' B) → I'' Y' (W3.putObj (w.heap.size + 1) (.loop (rec (if jump.isNone then .ready else .done) jump)))) ∧
          ¬ Y' w.heap.size ∧ ¬ Y' (w.heap.size + 1) ∧
          (W3.putObj (w.heap.size + 1) (.loop (rec (if jump.isNone then .ready else .done) jump))).heap[w.heap.size + 1]? = some (.loop (rec (if jump.isNone then .ready else .done) jump)) ∧
          (W3.putObj (w.heap.size + 1) (.loop (rec (if jump.isNone then .ready else .done) jump))).heap[w.heap.size]? = some (.deferred (some [])) ∧
          Went Y W (fun k => Y' k ∨ k = w.heap.size ∨ k = w.heap.size + 1) (W3.putObj (w.heap.size + 1) (.loop (rec (if jump.isNone then .ready else .done) jump))) := fun jump Y' W3 hw => by
        have e3 : ¬ Y' (w.heap.size + 1) := fun h => by
          rcases hw.new _ h with e | e
          · exact h3 e
          · rw [World.putObj_size] at e; omega
        have e2 : ¬ Y' w.heap.size := fun h => by
          rcases hw.new _ h with e | e
          · exact h2 e
          · rw [World.putObj_size] at e; omega
        have hl3 := (hw.touch.block (w.heap.size + 1) (by rw [World.putObj_size]; exact hlt') h3).trans hl2
        have hd3 := (hw.touch.block w.heap.size (by rw [World.putObj_size]; exact hltd) h2).trans ((World.putObj_heap_other (by omega)).trans hd)
        have hr := run_endRound (P := P) jump hl3
        rw [hrec] at hr ⊢
        refine ⟨hr, fun I'' hs hk => hk _ _ hs hw.lt (Keep.of_touch ((Touch.refl (fun k => k = w.heap.size + 1) _).putObj (.inl rfl) _) (fun k hk e => e3 (e ▸ hk))), e2, e3, World.putObj_heap_same (Array.getElem?_eq_some_iff.1 hl3).1, (World.putObj_heap_other (by omega)).trans hd3, ?_, ?_, ?_⟩
        · refine Touch.putObj ?_ (.inl ((h1 _).2 (.inr (.inr rfl)))) _
          exact (((Touch.refl Y W).putObj (.inl ((h1 _).2 (.inr (.inr rfl)))) _)).trans (hw.touch.mono (fun k _ hk => (h1 k).2 (.inl hk)))
        · rintro k (h | h | h)
          · rcases hw.new k h with e | e
            · exact .inl ((h1 k).2 (.inl e))
            · exact .inr (by rw [World.putObj_size] at e; exact e)
          · exact .inl ((h1 k).2 (.inr (.inl h)))
          · exact .inl ((h1 k).2 (.inr (.inr h)))
        · have hs := hw.touch.size
          rw [World.putObj_size] at hs ⊢
          rintro k (h | h | h)
          · exact hw.lt k h
          · omega
          · omega
      rintro e a3 W3 hp
      cases e with
      | normal =>
        obtain ⟨Y', hw, hi3⟩ := hp
        obtain ⟨hr, hI3, e2, e3, hl4, hd4, hw4⟩ := fin none Y' W3 hw
        exact ⟨_, _, hr, _, hw4, .inl ⟨rfl, Y', _, fun _ => Iff.rfl, e2, e3, ⟨rfl, hI3 (I (pre ++ [x])) hi3 (fun A B => hI _ Y' A B)⟩, hl4, hd4⟩⟩
      | ret =>
        obtain ⟨Y', hw, hi3⟩ := hp
        obtain ⟨hr, hI3, e2, e3, hl4, hd4, hw4⟩ := fin (some .ret) Y' W3 hw
        exact ⟨_, _, hr, _, hw4, .inr ⟨rfl, Y', _, fun _ => Iff.rfl, e2, e3, ⟨_, rfl, hI3 (Ix .ret (pre ++ [x])) hi3 (fun A B => hIx _ _ Y' A B)⟩, hl4, hd4⟩⟩
      | exit id =>
        obtain ⟨Y', hw, hi3⟩ := hp
        obtain ⟨hr, hI3, e2, e3, hl4, hd4, hw4⟩ := fin (some (.exit id)) Y' W3 hw
        exact ⟨_, _, hr, _, hw4, .inr ⟨rfl, Y', _, fun _ => Iff.rfl, e2, e3, ⟨_, rfl, hI3 (Ix (.exit id) (pre ++ [x])) hi3 (fun A B => hIx _ _ Y' A B)⟩, hl4, hd4⟩⟩
      | goto t =>
        obtain ⟨Y', hw, hi3⟩ := hp
        obtain ⟨hr, hI3, e2, e3, hl4, hd4, hw4⟩ := fin (some (.goto t)) Y' W3 hw
        exact ⟨_, _, hr, _, hw4, .inr ⟨rfl, Y', _, fun _ => Iff.rfl, e2, e3, ⟨_, rfl, hI3 (Ix (.goto t) (pre ++ [x])) hi3 (fun A B => hIx _ _ Y' A B)⟩, hl4, hd4⟩⟩
      | panic ch => exact hp.elim
      | outgrown => exact hp.elim
    · have went : ∀ (Y Yi : Nat → Prop) (W2 : World) (o : Obj), (∀ k, Y k ↔ (Yi k ∨ k = w.heap.size ∨ k = w.heap.size + 1)) → Went (fun k => X k ∨ k = w.heap.size ∨ k = w.heap.size + 1) W1 Y W2 → Went X w Yi (W2.putObj (w.heap.size + 1) o) := fun Y Yi W2 o h1 hw => by
        refine ⟨Touch.putObj ⟨hw.touch.os.trans hB1.os, hw.touch.tape.trans hB1.tape, hw.touch.output.trans hB1.output, Nat.le_trans hB1.size hw.touch.size, fun k hk hx => ?_⟩ (.inr (by omega)) _, fun k hk => ?_, fun k hk => ?_⟩
        · refine (hw.touch.block k (by omega) ?_).trans (hB1.block k hk)
          rintro (h | h | h)
          · exact hx h
          · omega
          · omega
        · rcases hw.new k ((h1 k).2 (.inl hk)) with (e | e | e) | e
          · exact .inl e
          · exact .inr (by omega)
          · exact .inr (by omega)
          · exact .inr (by omega)
        · rw [World.putObj_size]; exact hw.lt k ((h1 k).2 (.inl hk))
      rintro e W2 ⟨⟨v, rfl⟩, Y, hw, (⟨xs, hS, Yi, _, h1, h2, h3, ⟨rfl, hi⟩, hl, hd⟩ | ⟨pre, hSp, Yi, _, h1, h2, h3, ⟨c, rfl, hi⟩, hl, hd⟩)⟩
      · have kp : ∀ o, Keep Yi W2 (W2.putObj (w.heap.size + 1) o) := fun o => Keep.of_touch ((Touch.refl (fun k => k = w.heap.size + 1) _).putObj (.inl rfl) _) (fun k hk e => h3 (e ▸ hk))
        have hlti : ∀ k, Yi k → k < W2.heap.size := fun k hk => hw.lt k ((h1 k).2 (.inl hk))
        exact ⟨none, _, by have := run_endLoop (P := P) hl (by rw [hrec]; simp); rw [hrec] at this; exact this, hdone _ xs Yi _ (Nat.le_refl _) h2 hS (hI xs Yi _ _ hi hlti (kp _)) (went Y Yi W2 _ h1 hw) ((World.putObj_heap_other (by omega)).trans hd)⟩
      · have kp : ∀ o, Keep Yi W2 (W2.putObj (w.heap.size + 1) o) := fun o => Keep.of_touch ((Touch.refl (fun k => k = w.heap.size + 1) _).putObj (.inl rfl) _) (fun k hk e => h3 (e ▸ hk))
        have hlti : ∀ k, Yi k → k < W2.heap.size := fun k hk => hw.lt k ((h1 k).2 (.inl hk))
        exact ⟨some c, _, by have := run_endLoop (P := P) hl (by rw [hrec]; simp); rw [hrec] at this; exact this, hstop _ c pre Yi _ (Nat.le_refl _) h2 hSp (hIx c pre Yi _ _ hi hlti (kp _)) (went Y Yi W2 _ h1 hw) ((World.putObj_heap_other (by omega)).trans hd)⟩
end Go.Proofs.Ytedccpconldkoaa
