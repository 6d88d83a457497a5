/- ArenaPlays: the arena with its ports and the document's arena with its ports, side by side, as one fact; what a call on one side leaves of it. No condition but that few calls are made. -/
import Derived.Test.YtedccpconldkoaaPlayd
import Derived.Test.YtedccpconldkoaaSeqx
import Derived.Test.YtedccpconldkoaaNewa
namespace Go.Proofs.Ytedccpconldkoaa
open Go.RowKit
set_option linter.unusedVariables false

/-- the fixed blocks are all different, and elder than B -/
structure Fixd (B a c M d : Nat) (P Q : Nat → Nat) : Prop where
  lo : a < B ∧ c < B ∧ M < B ∧ d < B
  lp : ∀ i, i < 3 → P i < B ∧ Q i < B
  ne : a ≠ c ∧ a ≠ M ∧ a ≠ d ∧ c ≠ M ∧ c ≠ d ∧ M ≠ d
  pq : ∀ i, i < 3 → (P i ≠ a ∧ P i ≠ c ∧ P i ≠ M ∧ P i ≠ d) ∧ (Q i ≠ a ∧ Q i ≠ c ∧ Q i ≠ M ∧ Q i ≠ d)
  pp : ∀ i j, i < 3 → j < 3 → (i ≠ j → P i ≠ P j ∧ Q i ≠ Q j) ∧ P i ≠ Q j
structure Duo (X : Nat → Prop) (w0 w : World) (B a c M d : Nat) (P Q : Nat → Nat) (wh : Nat → Int) (keep : Bool) (gp gq : Nat → Bool) (lv lm : Value) (s t : St) : Prop where
  fx : Fixd B a c M d P Q
  bw : B ≤ w.heap.size
  at' : ArenaAt w a c s.cs keep lv s.m s.f
  log : keep = true → ArenaL w B a c s.cs lv s.xs s.m s.f
  nil : keep = false → lv = .slice none 0 0
  port : ∀ i, i < 3 → PortAt w (P i) a (wh i) (gp i)
  ar : RefA w B M d t.cs lm t.xs t.m t.f
  prt : ∀ i, i < 3 → RefP w (Q i) (wh i) (gq i)
  ll : ∀ g, lv.ownBlock = some g → lm.ownBlock ≠ some g
  kp : Keep X w0 w
  xl : ∀ k, X k → k < w0.heap.size
  xo : ∀ k, X k → k ≠ a ∧ k ≠ c ∧ k ≠ M ∧ k ≠ d ∧ lv.ownBlock ≠ some k ∧ lm.ownBlock ≠ some k
  xp : ∀ k, X k → ∀ i, i < 3 → k ≠ P i ∧ k ≠ Q i
section
variable {X : Nat → Prop} {w0 w w' : World} {B a c M d : Nat} {P Q : Nat → Nat} {wh : Nat → Int} {keep : Bool} {gp gq : Nat → Bool} {lv lm lv' lm' : Value} {s t s' t' : St}
theorem Duo.lvB (h : Duo X w0 w B a c M d P Q wh keep gp gq lv lm s t) (g : Nat) (e : lv.ownBlock = some g) : B ≤ g ∧ g < w.heap.size := by
  cases keep with
  | true => exact (h.log rfl).own.lt g e
  | false => rw [h.nil rfl] at e; simp [Value.ownBlock] at e
theorem Duo.lmB (h : Duo X w0 w B a c M d P Q wh keep gp gq lv lm s t) (g : Nat) (e : lm.ownBlock = some g) : B ≤ g ∧ g < w.heap.size := h.ar.log.lt g e
theorem own_touchR {R : Nat → Prop} {base n size : Nat} {e : TypeId} {v : Value} {xs : List Value} (h : w.ownsRow base e size v n xs) (hk : Touch R w w') (hx : ∀ k, v.ownBlock = some k → ¬ R k) : w'.ownsRow base e size v n xs := by
  refine ⟨h.1, ?_⟩
  rcases h.2 with hn | ⟨g, cap, cur, h1, h2, h3, h4⟩
  · exact .inl hn
  · exact .inr ⟨g, cap, cur, h1, h2, (hk.block g (Array.getElem?_eq_some_iff.1 h3).1 (hx g (by rw [h1]; rfl))).trans h3, h4⟩
theorem RefA.touch {R : Nat → Prop} {cs : List Int} {xs : List Value} {m : Nat} {f : Int} (h : RefA w B M d cs lv xs m f) (ht : Touch R w w') (h1 : ¬ R M) (h2 : ¬ R d) (h3 : ∀ g, lv.ownBlock = some g → ¬ R g) : RefA w' B M d cs lv xs m f :=
  ⟨h.own.touch ht h1, h.row.touch ht h2, own_touchR h.log ht h3, h.md, h.lM, h.ld⟩
theorem ArenaL.touchD {R : Nat → Prop} {cs : List Int} {xs : List Value} {m : Nat} {f : Int} (h : ArenaL w B a c cs lv xs m f) (ht : Touch R w w') (h1 : ¬ R a) (h2 : ¬ R c) (h3 : ∀ g, lv.ownBlock = some g → ¬ R g) : ArenaL w' B a c cs lv xs m f :=
  ⟨h.at'.touch ht h1 h2, own_touchR h.own ht h3, h.apa, h.apc⟩
/-- the arena's side has moved -/
theorem Duo.real (h : Duo X w0 w B a c M d P Q wh keep gp gq lv lm s t) {gp' : Nat → Bool} (hat : ArenaAt w' a c s'.cs keep lv' s'.m s'.f) (hlog : keep = true → ArenaL w' B a c s'.cs lv' s'.xs s'.m s'.f) (hnil : keep = false → lv' = .slice none 0 0)
    (hport : ∀ i, i < 3 → PortAt w' (P i) a (wh i) (gp' i)) (hnew : ∀ g, lv'.ownBlock = some g → lv.ownBlock = some g ∨ w.heap.size ≤ g)
    (hT : Touch (fun b => b = a ∨ b = c ∨ (∃ i, i < 3 ∧ b = P i) ∨ lv.ownBlock = some b) w w') : Duo X w0 w' B a c M d P Q wh keep gp' gq lv' lm s' t := by
  have nP : ∀ b, b < B → b ≠ a → b ≠ c → (∀ i, i < 3 → b ≠ P i) → ¬ (b = a ∨ b = c ∨ (∃ i, i < 3 ∧ b = P i) ∨ lv.ownBlock = some b) := fun b hb h1 h2 h3 e => by
    rcases e with e | e | ⟨i, hi, e⟩ | e
    · exact h1 e
    · exact h2 e
    · exact h3 i hi e
    · have := (h.lvB b e).1; omega
  have f := h.fx
  refine ⟨f, Nat.le_trans h.bw hT.size, hat, hlog, hnil, hport, ?_, fun i hi => ?_, fun g e1 e2 => ?_, ?_, h.xl, fun k hk => ?_, h.xp⟩
  · refine h.ar.touch hT (nP M f.lo.2.2.1 f.ne.2.1.symm f.ne.2.2.2.1.symm (fun i hi => (f.pq i hi).1.2.2.1.symm)) (nP d f.lo.2.2.2 f.ne.2.2.1.symm f.ne.2.2.2.2.1.symm (fun i hi => (f.pq i hi).1.2.2.2.symm)) (fun g e e2 => ?_)
    have hg := (h.lmB g e).1
    rcases e2 with e2 | e2 | ⟨i, hi, e2⟩ | e2
    · have := f.lo.1; omega
    · have := f.lo.2.1; omega
    · have := (f.lp i hi).1; omega
    · exact h.ll g e2 e
  · exact Blk.touch (h.prt i hi) hT (nP (Q i) (f.lp i hi).2 (f.pq i hi).2.1 (f.pq i hi).2.2.1 (fun j hj => ((f.pp j i hj hi).2).symm))
  · rcases hnew g e1 with e | e
    · exact h.ll g e e2
    · have := (h.lmB g e2).2; omega
  · refine h.kp.trans (Keep.of_touch hT (fun k hk e => ?_))
    have o := h.xo k hk
    rcases e with e | e | ⟨i, hi, e⟩ | e
    · exact o.1 e
    · exact o.2.1 e
    · exact (h.xp k hk i hi).1 e
    · exact o.2.2.2.2.1 e
  · have o := h.xo k hk
    refine ⟨o.1, o.2.1, o.2.2.1, o.2.2.2.1, fun e => ?_, o.2.2.2.2.2⟩
    rcases hnew k e with e | e
    · exact o.2.2.2.2.1 e
    · have := h.xl k hk; have := h.kp.size; omega
/-- the document's side has moved -/
theorem Duo.mod (h : Duo X w0 w B a c M d P Q wh keep gp gq lv lm s t) {gq' : Nat → Bool} (har : RefA w' B M d t'.cs lm' t'.xs t'.m t'.f) (hprt : ∀ i, i < 3 → RefP w' (Q i) (wh i) (gq' i))
    (hnew : ∀ g, lm'.ownBlock = some g → lm.ownBlock = some g ∨ w.heap.size ≤ g)
    (hT : Touch (fun b => b = M ∨ b = d ∨ (∃ i, i < 3 ∧ b = Q i) ∨ lm.ownBlock = some b) w w') : Duo X w0 w' B a c M d P Q wh keep gp gq' lv lm' s t' := by
  have nP : ∀ b, b < B → b ≠ M → b ≠ d → (∀ i, i < 3 → b ≠ Q i) → ¬ (b = M ∨ b = d ∨ (∃ i, i < 3 ∧ b = Q i) ∨ lm.ownBlock = some b) := fun b hb h1 h2 h3 e => by
    rcases e with e | e | ⟨i, hi, e⟩ | e
    · exact h1 e
    · exact h2 e
    · exact h3 i hi e
    · have := (h.lmB b e).1; omega
  have f := h.fx
  have na := nP a f.lo.1 f.ne.2.1 f.ne.2.2.1 (fun i hi => (f.pq i hi).2.1.symm)
  have nc := nP c f.lo.2.1 f.ne.2.2.2.1 f.ne.2.2.2.2.1 (fun i hi => (f.pq i hi).2.2.1.symm)
  have nl : ∀ g, lv.ownBlock = some g → ¬ (g = M ∨ g = d ∨ (∃ i, i < 3 ∧ g = Q i) ∨ lm.ownBlock = some g) := fun g e e2 => by
    have hg := (h.lvB g e).1
    rcases e2 with e2 | e2 | ⟨i, hi, e2⟩ | e2
    · have := f.lo.2.2.1; omega
    · have := f.lo.2.2.2; omega
    · have := (f.lp i hi).2; omega
    · exact h.ll g e e2
  refine ⟨f, Nat.le_trans h.bw hT.size, h.at'.touch hT na nc, fun hk => (h.log hk).touchD hT na nc nl, h.nil, fun i hi => ?_, har, hprt, fun g e1 e2 => ?_, ?_, h.xl, fun k hk => ?_, h.xp⟩
  · exact Blk.touch (h.port i hi) hT (nP (P i) (f.lp i hi).1 (f.pq i hi).1.2.2.1 (f.pq i hi).1.2.2.2 (fun j hj => (f.pp i j hi hj).2))
  · rcases hnew g e2 with e | e
    · exact h.ll g e1 e
    · have := (h.lvB g e1).2; omega
  · refine h.kp.trans (Keep.of_touch hT (fun k hk e => ?_))
    have o := h.xo k hk
    rcases e with e | e | ⟨i, hi, e⟩ | e
    · exact o.2.2.1 e
    · exact o.2.2.2.1 e
    · exact (h.xp k hk i hi).2 e
    · exact o.2.2.2.2.2 e
  · have o := h.xo k hk
    refine ⟨o.1, o.2.1, o.2.2.1, o.2.2.2.1, o.2.2.2.2.1, fun e => ?_⟩
    rcases hnew k e with e | e
    · exact o.2.2.2.2.2 e
    · have := h.xl k hk; have := h.kp.size; omega
theorem Duo.quiet (h : Duo X w0 w B a c M d P Q wh keep gp gq lv lm s t) (hq : Quiet w w') : Duo X w0 w' B a c M d P Q wh keep gp gq lv lm s t :=
  h.real (h.at'.quiet hq) (fun hk => (h.log hk).touchD (R := fun _ => False) (.of hq.below) (fun e => e) (fun e => e) (fun _ _ e => e)) h.nil (fun i hi => Blk.quiet (h.port i hi) hq) (fun g e => .inl e) (.of hq.below)
def upd (g : Nat → Bool) (k : Nat) (b : Bool) : Nat → Bool := fun i => if i = k then b else g i
theorem Duo.realTo (h : Duo X w0 w B a c M d P Q wh keep gp gq lv lm s t) {k : Nat} (hk : k < 3) (ht : RealTo B a c (P k) (wh k) keep lv s' w w') : ∃ lv', Duo X w0 w' B a c M d P Q wh keep (upd gp k false) gq lv' lm s' t := by
  obtain ⟨lv', hR, hn, hT⟩ := ht
  refine ⟨lv', h.real hR.at' hR.log hR.nil (fun i hi => ?_) hn (hT.mono (fun b _ e => ?_))⟩
  · unfold upd
    by_cases e : i = k
    · subst e; rw [if_pos rfl]; exact hR.port
    · rw [if_neg e]
      refine Blk.touch (h.port i hi) hT (fun e2 => ?_)
      rcases e2 with e2 | e2 | e2 | e2
      · exact (h.fx.pq i hi).1.1 e2
      · exact (h.fx.pq i hi).1.2.1 e2
      · exact ((h.fx.pp i k hi hk).1 e).1 e2
      · have := (h.lvB _ e2).1; have := (h.fx.lp i hi).1; omega
  · rcases e with e | e | e | e
    · exact .inl e
    · exact .inr (.inl e)
    · exact .inr (.inr (.inl ⟨k, hk, e⟩))
    · exact .inr (.inr (.inr e))
theorem Duo.modTo (h : Duo X w0 w B a c M d P Q wh keep gp gq lv lm s t) {k : Nat} (hk : k < 3) (ht : ModTo B M d (Q k) (wh k) lm t' w w') : ∃ lm', Duo X w0 w' B a c M d P Q wh keep gp (upd gq k false) lv lm' s t' := by
  obtain ⟨lm', hR, hn, hT⟩ := ht
  refine ⟨lm', h.mod hR.ar (fun i hi => ?_) hn (hT.mono (fun b _ e => ?_))⟩
  · unfold upd
    by_cases e : i = k
    · subst e; rw [if_pos rfl]; exact hR.port
    · rw [if_neg e]
      refine Blk.touch (h.prt i hi) hT (fun e2 => ?_)
      rcases e2 with e2 | e2 | e2 | e2
      · exact (h.fx.pq i hi).2.2.2.1 e2
      · exact (h.fx.pq i hi).2.2.2.2 e2
      · exact ((h.fx.pp i k hi hk).1 e).2 e2
      · have := (h.lmB _ e2).1; have := (h.fx.lp i hi).2; omega
  · rcases e with e | e | e | e
    · exact .inl e
    · exact .inr (.inl e)
    · exact .inr (.inr (.inl ⟨k, hk, e⟩))
    · exact .inr (.inr (.inr e))
theorem Duo.realS (h : Duo X w0 w B a c M d P Q wh keep gp gq lv lm s t) {k : Nat} (hk : k < 3) : RealS w B a c (P k) (wh k) (gp k) keep lv s :=
  ⟨h.at', h.log, h.nil, h.port k hk, (h.fx.pq k hk).1.1, (h.fx.pq k hk).1.2.1, fun e => by have := (h.lvB _ e).1; have := (h.fx.lp k hk).1; omega⟩
theorem Duo.modS (h : Duo X w0 w B a c M d P Q wh keep gp gq lv lm s t) {k : Nat} (hk : k < 3) : ModS w B M d (Q k) (wh k) (gq k) lm t :=
  ⟨h.ar, h.prt k hk, (h.fx.pq k hk).2.2.2.1, (h.fx.pq k hk).2.2.2.2, fun e => by have := (h.lmB _ e).1; have := (h.fx.lp k hk).2; omega⟩
/-- a block more that is nobody's of the two -/
theorem Duo.enter (h : Duo X w0 w B a c M d P Q wh keep gp gq lv lm s t) (o : Obj) : Duo (fun k => X k ∨ k = w.heap.size) (w.alloc o) (w.alloc o) B a c M d P Q wh keep gp gq lv lm s t := by
  have hT : Touch (fun _ => False) w (w.alloc o) := (Touch.refl _ _).alloc o
  have hs : (w.alloc o).heap.size = w.heap.size + 1 := World.size_alloc _ _
  refine ⟨h.fx, by have := h.bw; omega, h.at'.alloc o, fun hk => (h.log hk).touchD hT (fun e => e) (fun e => e) (fun _ _ e => e), h.nil, fun i hi => Blk.alloc (h.port i hi) o, h.ar.alloc o, fun i hi => Blk.alloc (h.prt i hi) o, h.ll, ⟨rfl, rfl, rfl, Nat.le_refl _, fun _ _ _ => rfl⟩, fun k hk => ?_, fun k hk => ?_, fun k hk i hi => ?_⟩
  · rcases hk with hk | hk
    · have := h.xl k hk; have := h.kp.size; omega
    · omega
  · rcases hk with hk | hk
    · exact h.xo k hk
    · have f := h.fx.lo
      have b := h.bw
      refine ⟨by omega, by omega, by omega, by omega, fun e => ?_, fun e => ?_⟩
      · have := (h.lvB k e).2; omega
      · have := (h.lmB k e).2; omega
  · rcases hk with hk | hk
    · exact h.xp k hk i hi
    · have := h.fx.lp i hi
      have b := h.bw
      omega
theorem Duo.leave {gp' gq' : Nat → Bool} {o : Obj} (h : Duo X w0 w B a c M d P Q wh keep gp gq lv lm s t) (h' : Duo (fun k => X k ∨ k = w.heap.size) (w.alloc o) w' B a c M d P Q wh keep gp' gq' lv' lm' s' t') : Duo X w0 w' B a c M d P Q wh keep gp' gq' lv' lm' s' t' := by
  refine ⟨h'.fx, h'.bw, h'.at', h'.log, h'.nil, h'.port, h'.ar, h'.prt, h'.ll, ?_, h.xl, fun k hk => h'.xo k (.inl hk), fun k hk => h'.xp k (.inl hk)⟩
  have k1 : Keep X w (w.alloc o) := Keep.of_touch (R := fun _ => False) ((Touch.refl _ _).alloc o) (fun _ _ e => e)
  exact (h.kp.trans k1).trans ⟨h'.kp.os, h'.kp.tape, h'.kp.output, h'.kp.size, fun k hk hl => h'.kp.block k (.inl hk) hl⟩
end
end Go.Proofs.Ytedccpconldkoaa
