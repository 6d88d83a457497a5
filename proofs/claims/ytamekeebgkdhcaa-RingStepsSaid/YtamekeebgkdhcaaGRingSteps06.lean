/- Texts of this seat, one behind the other: each says at its head what it holds. No condition of its own. -/
import Derived.Maps.AppendAt
import Derived.Test.YtamekeebgkdhcaaGRingSteps03
import Derived.Test.YtamekeebgkdhcaaGRingSteps04
import Derived.Test.YtamekeebgkdhcaaGRingSteps05
/- A machine and the document's tape beside it: an arena with its log and a port, the machine, the document's arena and the tape, as one fact; what each call leaves of it. No condition but that the blocks are there. -/
namespace Go.Proofs.Ytamekeebgkdhcaa
open Go.RowKit
set_option linter.unusedVariables false

theorem RefA.touchP {R : Nat → Prop} {w w' : World} {B M d : Nat} {cs : List Int} {lv : Value} {xs : List Value} {m : Nat} {f : Int} (h : RefA w B M d cs lv xs m f) (ht : Touch R w w') (h1 : ¬ R M) (h2 : ¬ R d) (h3 : ∀ g, lv.ownBlock = some g → ¬ R g) : RefA w' B M d cs lv xs m f :=
  ⟨Blk.touch h.own ht h1, Blk.touch h.row ht h2, own_touchP h.log ht h3, h.md, h.lM, h.ld⟩
theorem nd8 {a c p m sb M d xa : Nat} (nd : [a, c, p, m, sb, M, d, xa].Nodup) :
    ((a ≠ c ∧ a ≠ p ∧ a ≠ m ∧ a ≠ sb ∧ a ≠ M ∧ a ≠ d ∧ a ≠ xa) ∧ (c ≠ p ∧ c ≠ m ∧ c ≠ sb ∧ c ≠ M ∧ c ≠ d ∧ c ≠ xa) ∧ (p ≠ m ∧ p ≠ sb ∧ p ≠ M ∧ p ≠ d ∧ p ≠ xa) ∧ (m ≠ sb ∧ m ≠ M ∧ m ≠ d ∧ m ≠ xa) ∧ (sb ≠ M ∧ sb ≠ d ∧ sb ≠ xa) ∧ (M ≠ d ∧ M ≠ xa) ∧ d ≠ xa) ∧
    ((c ≠ a ∧ p ≠ a ∧ m ≠ a ∧ sb ≠ a ∧ M ≠ a ∧ d ≠ a ∧ xa ≠ a) ∧ (p ≠ c ∧ m ≠ c ∧ sb ≠ c ∧ M ≠ c ∧ d ≠ c ∧ xa ≠ c) ∧ (m ≠ p ∧ sb ≠ p ∧ M ≠ p ∧ d ≠ p ∧ xa ≠ p) ∧ (sb ≠ m ∧ M ≠ m ∧ d ≠ m ∧ xa ≠ m) ∧ (M ≠ sb ∧ d ≠ sb ∧ xa ≠ sb) ∧ (d ≠ M ∧ xa ≠ M) ∧ xa ≠ d) := by
  simp only [List.nodup_cons, List.mem_cons, List.not_mem_nil, or_false, not_or, not_false_eq_true, List.nodup_nil, and_true] at nd
  obtain ⟨⟨h1, h2, h3, h4, h5, h6, h7⟩, ⟨h8, h9, h10, h11, h12, h13⟩, ⟨h14, h15, h16, h17, h18⟩, ⟨h19, h20, h21, h22⟩, ⟨h23, h24, h25⟩, ⟨h26, h27⟩, h28⟩ := nd
  exact ⟨⟨⟨h1, h2, h3, h4, h5, h6, h7⟩, ⟨h8, h9, h10, h11, h12, h13⟩, ⟨h14, h15, h16, h17, h18⟩, ⟨h19, h20, h21, h22⟩, ⟨h23, h24, h25⟩, ⟨h26, h27⟩, h28⟩, ⟨⟨Ne.symm h1, Ne.symm h2, Ne.symm h3, Ne.symm h4, Ne.symm h5, Ne.symm h6, Ne.symm h7⟩, ⟨Ne.symm h8, Ne.symm h9, Ne.symm h10, Ne.symm h11, Ne.symm h12, Ne.symm h13⟩, ⟨Ne.symm h14, Ne.symm h15, Ne.symm h16, Ne.symm h17, Ne.symm h18⟩, ⟨Ne.symm h19, Ne.symm h20, Ne.symm h21, Ne.symm h22⟩, ⟨Ne.symm h23, Ne.symm h24, Ne.symm h25⟩, ⟨Ne.symm h26, Ne.symm h27⟩, Ne.symm h28⟩⟩
/-- what hangs on what -/
structure Pn (a c p m sb M d xa : Nat) (lv lm hv : Value) : Prop where
  nd : [a, c, p, m, sb, M, d, xa].Nodup
  gl : ∀ g, lv.ownBlock = some g → g ∉ [a, c, p, m, sb, M, d, xa] ∧ lm.ownBlock ≠ some g ∧ hv.ownBlock ≠ some g
  gm : ∀ g, lm.ownBlock = some g → g ∉ [a, c, p, m, sb, M, d, xa] ∧ hv.ownBlock ≠ some g
  gh : ∀ g, hv.ownBlock = some g → g ∉ [a, c, p, m, sb, M, d, xa]
structure Pq (w0 : World) (R0 : Nat → Prop) (B a c p m sb M d xa : Nat) (who : Int) (mt st : TypeId) (sc : Array Value) (mc : Array Value) (o : Bool) (cs : List Int) (xs : List Value) (n : Nat) (cs2 : List Int) (xs2 : List Value) (n2 : Nat) (tp : Tp) (lv lm hv : Value) (w : World) : Prop where
  real : ArenaL w B a c cs lv xs n 0
  port : PortAt w p a who o
  mach : Blk w m mc mt
  side : Blk w sb sc st
  doc : RefA w B M d cs2 lm xs2 n2 0
  tape : TapeAt w B xa hv tp
  pn : Pn a c p m sb M d xa lv lm hv
  ba : B ≤ a
  bc : B ≤ c
  bw : B ≤ w0.heap.size
  tch : Touch R0 w0 w
  fx : ∀ b ∈ [a, c, p, m, M, d, xa], R0 b
  rl : ∀ g, lv.ownBlock = some g → R0 g ∨ w0.heap.size ≤ g
  rm : ∀ g, lm.ownBlock = some g → R0 g ∨ w0.heap.size ≤ g
  rh : ∀ g, hv.ownBlock = some g → R0 g ∨ w0.heap.size ≤ g
section
variable {w0 w w' : World} {R0 : Nat → Prop} {B a c p m sb M d xa : Nat} {who : Int} {mt st : TypeId} {sc mc : Array Value} {o : Bool} {cs : List Int} {xs : List Value} {n : Nat} {cs2 : List Int} {xs2 : List Value} {n2 : Nat} {tp : Tp} {lv lm hv : Value}
/-- what is written: those of R0, or new ones -/
theorem touch0 {R0 R : Nat → Prop} {w0 w w' : World} (h : Touch R0 w0 w) (ht : Touch R w w') (hR : ∀ b, R b → R0 b ∨ w0.heap.size ≤ b) : Touch R0 w0 w' :=
  ⟨ht.os.trans h.os, ht.tape.trans h.tape, ht.output.trans h.output, Nat.le_trans h.size ht.size, fun k hk hr => (ht.block k (Nat.lt_of_lt_of_le hk h.size) (fun r => (hR k r).elim hr (fun e => by omega))).trans (h.block k hk hr)⟩
theorem Pq.ask (h : Pq w0 R0 B a c p m sb M d xa who mt st sc mc o cs xs n cs2 xs2 n2 tp lv lm hv w) {tp' : Tp} (hT : TapeAt w' B xa hv tp') (ht : Touch (· = xa) w w') :
    Pq w0 R0 B a c p m sb M d xa who mt st sc mc o cs xs n cs2 xs2 n2 tp' lv lm hv w' := by
  have nd := nd8 h.pn.nd
  refine ⟨h.real.touch ht (by simp [nd]) (by simp [nd]) (fun g e r => (h.pn.gl g e).1 (by simp [r])), Blk.touch h.port ht (by simp [nd]), Blk.touch h.mach ht (by simp [nd]), Blk.touch h.side ht (by simp [nd]), h.doc.touchP ht (by simp [nd]) (by simp [nd]) (fun g e r => (h.pn.gm g e).1 (by simp [r])), hT, h.pn, h.ba, h.bc, h.bw, touch0 h.tch ht (fun b r => .inl (h.fx b (by simp [r]))), h.fx, h.rl, h.rm, h.rh⟩
theorem Pq.grew (h : Pq w0 R0 B a c p m sb M d xa who mt st sc mc o cs xs n cs2 xs2 n2 tp lv lm hv w) (hb : Below w.heap.size w w') :
    Pq w0 R0 B a c p m sb M d xa who mt st sc mc o cs xs n cs2 xs2 n2 tp lv lm hv w' := by
  have ht : Touch (fun _ => False) w w' := .of hb
  exact ⟨h.real.touch ht (fun e => e) (fun e => e) (fun _ _ e => e), Blk.touch h.port ht (fun e => e), Blk.touch h.mach ht (fun e => e), Blk.touch h.side ht (fun e => e), h.doc.touchP ht (fun e => e) (fun e => e) (fun _ _ e => e), h.tape.touch ht (fun e => e) (fun _ _ e => e), h.pn, h.ba, h.bc, h.bw, touch0 h.tch ht (fun b r => r.elim), h.fx, h.rl, h.rm, h.rh⟩
theorem Pq.quiet (h : Pq w0 R0 B a c p m sb M d xa who mt st sc mc o cs xs n cs2 xs2 n2 tp lv lm hv w) (hq : Quiet w w') : Pq w0 R0 B a c p m sb M d xa who mt st sc mc o cs xs n cs2 xs2 n2 tp lv lm hv w' := h.grew hq.below
theorem Pq.drew (h : Pq w0 R0 B a c p m sb M d xa who mt st sc mc o cs xs n cs2 xs2 n2 tp lv lm hv w) : Pq w0 R0 B a c p m sb M d xa who mt st sc mc o cs xs n cs2 xs2 n2 tp lv lm hv w.drew := h.quiet ⟨1, rfl⟩
theorem Pq.granted (h : Pq w0 R0 B a c p m sb M d xa who mt st sc mc o cs xs n cs2 xs2 n2 tp lv lm hv w) (hP : PortAt w' p a who true) (ht : Touch (· = p) w w') :
    Pq w0 R0 B a c p m sb M d xa who mt st sc mc true cs xs n cs2 xs2 n2 tp lv lm hv w' := by
  have nd := nd8 h.pn.nd
  refine ⟨h.real.touch ht (by simp [nd]) (by simp [nd]) (fun g e r => (h.pn.gl g e).1 (by simp [r])), hP, Blk.touch h.mach ht (by simp [nd]), Blk.touch h.side ht (by simp [nd]), h.doc.touchP ht (by simp [nd]) (by simp [nd]) (fun g e r => (h.pn.gm g e).1 (by simp [r])), h.tape.touch ht (by simp [nd]) (fun g e r => h.pn.gh g e (by simp [r])), h.pn, h.ba, h.bc, h.bw, touch0 h.tch ht (fun b r => .inl (h.fx b (by simp [r]))), h.fx, h.rl, h.rm, h.rh⟩
theorem Pq.size (h : Pq w0 R0 B a c p m sb M d xa who mt st sc mc o cs xs n cs2 xs2 n2 tp lv lm hv w) : ∀ b ∈ [a, c, p, m, sb, M, d, xa], b < w.heap.size := by
  have h1 := h.real.at'.own.lt
  have h2 := h.real.at'.row.lt
  have h3 := Blk.lt h.port
  have h4 := h.mach.lt
  have h5 := h.side.lt
  have h6 := h.doc.own.lt
  have h7 := h.doc.row.lt
  have h8 := h.tape.own.lt
  intro b hb
  simp at hb
  rcases hb with rfl | rfl | rfl | rfl | rfl | rfl | rfl | rfl <;> assumption
theorem Pq.lvl (h : Pq w0 R0 B a c p m sb M d xa who mt st sc mc o cs xs n cs2 xs2 n2 tp lv lm hv w) : (∀ g, lv.ownBlock = some g → g < w.heap.size) ∧ (∀ g, lm.ownBlock = some g → g < w.heap.size) ∧ (∀ g, hv.ownBlock = some g → g < w.heap.size) :=
  ⟨fun g e => (h.real.own.lt g e).2, fun g e => (h.doc.log.lt g e).2, fun g e => (h.tape.row.lt g e).2⟩
/-- the document's arena makes what the tape asks -/
theorem Pq.made (h : Pq w0 R0 B a c p m sb M d xa who mt st sc mc o cs xs n cs2 xs2 n2 tp lv lm hv w) {cs3 : List Int} {xs3 : List Value} {n3 : Nat} {tp' : Tp} {lm' hv' : Value} (hD : RefA w' B M d cs3 lm' xs3 n3 0) (hT : TapeAt w' B xa hv' tp')
    (g1 : ∀ g, lm'.ownBlock = some g → lm.ownBlock = some g ∨ w.heap.size ≤ g) (g2 : ∀ g, hv'.ownBlock = some g → hv.ownBlock = some g ∨ w.heap.size ≤ g) (g3 : ∀ g, hv'.ownBlock = some g → lm'.ownBlock ≠ some g)
    (ht : Touch (fun b => b = M ∨ b = d ∨ lm.ownBlock = some b ∨ b = xa ∨ hv.ownBlock = some b) w w') :
    Pq w0 R0 B a c p m sb M d xa who mt st sc mc o cs xs n cs3 xs3 n3 tp' lv lm' hv' w' := by
  have nd := nd8 h.pn.nd
  have hs := h.size
  obtain ⟨l1, l2, l3⟩ := h.lvl
  have hz := h.tch.size
  have no : ∀ b, b ∈ [a, c, p, m, sb] → ¬ (b = M ∨ b = d ∨ lm.ownBlock = some b ∨ b = xa ∨ hv.ownBlock = some b) := by
    intro b hb r
    have q : b ≠ M ∧ b ≠ d ∧ b ≠ xa ∧ b ∈ [a, c, p, m, sb, M, d, xa] := by
      simp only [List.mem_cons, List.not_mem_nil, or_false] at hb
      rcases hb with rfl | rfl | rfl | rfl | rfl <;> simp [nd]
    rcases r with r | r | r | r | r
    · exact q.1 r
    · exact q.2.1 r
    · exact (h.pn.gm b r).1 q.2.2.2
    · exact q.2.2.1 r
    · exact h.pn.gh b r q.2.2.2
  have nl : ∀ g, lv.ownBlock = some g → ¬ (g = M ∨ g = d ∨ lm.ownBlock = some g ∨ g = xa ∨ hv.ownBlock = some g) := by
    intro g e r
    obtain ⟨q1, q2, q3⟩ := h.pn.gl g e
    rcases r with r | r | r | r | r
    · exact q1 (by simp [r])
    · exact q1 (by simp [r])
    · exact q2 r
    · exact q1 (by simp [r])
    · exact q3 r
  have gn := h.pn.nd
  refine ⟨h.real.touch ht (no a (by simp)) (no c (by simp)) nl, Blk.touch h.port ht (no p (by simp)), Blk.touch h.mach ht (no m (by simp)), Blk.touch h.side ht (no sb (by simp)), hD, hT, ⟨gn, ?_, ?_, ?_⟩, h.ba, h.bc, h.bw, touch0 h.tch ht ?_, h.fx, h.rl, ?_, ?_⟩
  · intro g e
    obtain ⟨q1, q2, q3⟩ := h.pn.gl g e
    have q4 := l1 g e
    exact ⟨q1, fun r => (g1 g r).elim q2 (fun r => by omega), fun r => (g2 g r).elim q3 (fun r => by omega)⟩
  · intro g e
    refine ⟨?_, fun r => g3 g r e⟩
    rcases g1 g e with r | r
    · exact (h.pn.gm g r).1
    · intro hb; have := hs g hb; omega
  · intro g e
    rcases g2 g e with r | r
    · exact h.pn.gh g r
    · intro hb; have := hs g hb; omega
  · intro b r
    rcases r with r | r | r | r | r
    · exact .inl (h.fx b (by simp [r]))
    · exact .inl (h.fx b (by simp [r]))
    · exact h.rm b r
    · exact .inl (h.fx b (by simp [r]))
    · exact h.rh b r
  · intro g e
    exact (g1 g e).elim (h.rm g) (fun r => .inr (by omega))
  · intro g e
    exact (g2 g e).elim (h.rh g) (fun r => .inr (by omega))
/-- the machine makes an access -/
theorem Pq.stepped (h : Pq w0 R0 B a c p m sb M d xa who mt st sc mc o cs xs n cs2 xs2 n2 tp lv lm hv w) {cs3 : List Int} {xs3 : List Value} {n3 : Nat} {mc' : Array Value} {o' : Bool} {lv' : Value} (hL : ArenaL w' B a c cs3 lv' xs3 n3 0) (hP : PortAt w' p a who o') (hM : Blk w' m mc' mt)
    (g1 : ∀ g, lv'.ownBlock = some g → lv.ownBlock = some g ∨ w.heap.size ≤ g) (ht : Touch (fun b => b = p ∨ b = m ∨ b = a ∨ b = c ∨ lv.ownBlock = some b) w w') :
    Pq w0 R0 B a c p m sb M d xa who mt st sc mc' o' cs3 xs3 n3 cs2 xs2 n2 tp lv' lm hv w' := by
  have nd := nd8 h.pn.nd
  have hs := h.size
  obtain ⟨l1, l2, l3⟩ := h.lvl
  have hz := h.tch.size
  have no : ∀ b, b ∈ [sb, M, d, xa] → ¬ (b = p ∨ b = m ∨ b = a ∨ b = c ∨ lv.ownBlock = some b) := by
    intro b hb r
    have q : b ≠ p ∧ b ≠ m ∧ b ≠ a ∧ b ≠ c ∧ b ∈ [a, c, p, m, sb, M, d, xa] := by
      simp only [List.mem_cons, List.not_mem_nil, or_false] at hb
      rcases hb with rfl | rfl | rfl | rfl <;> simp [nd]
    rcases r with r | r | r | r | r
    · exact q.1 r
    · exact q.2.1 r
    · exact q.2.2.1 r
    · exact q.2.2.2.1 r
    · exact (h.pn.gl b r).1 q.2.2.2.2
  have nm : ∀ g, (lm.ownBlock = some g ∨ hv.ownBlock = some g) → ¬ (g = p ∨ g = m ∨ g = a ∨ g = c ∨ lv.ownBlock = some g) := by
    intro g e r
    have q1 : g ∉ [a, c, p, m, sb, M, d, xa] := e.elim (fun e => (h.pn.gm g e).1) (fun e => h.pn.gh g e)
    rcases r with r | r | r | r | r
    · exact q1 (by simp [r])
    · exact q1 (by simp [r])
    · exact q1 (by simp [r])
    · exact q1 (by simp [r])
    · exact e.elim (fun e => (h.pn.gl g r).2.1 e) (fun e => (h.pn.gl g r).2.2 e)
  have gn := h.pn.nd
  refine ⟨hL, hP, hM, Blk.touch h.side ht (no sb (by simp)), h.doc.touchP ht (no M (by simp)) (no d (by simp)) (fun g e => nm g (.inl e)), h.tape.touch ht (no xa (by simp)) (fun g e => nm g (.inr e)), ⟨gn, ?_, h.pn.gm, h.pn.gh⟩, h.ba, h.bc, h.bw, touch0 h.tch ht ?_, h.fx, ?_, h.rm, h.rh⟩
  · intro g e
    rcases g1 g e with r | r
    · exact h.pn.gl g r
    · exact ⟨fun hb => by have := hs g hb; omega, fun r2 => by have := l2 g r2; omega, fun r2 => by have := l3 g r2; omega⟩
  · intro b r
    rcases r with r | r | r | r | r
    · exact .inl (h.fx b (by simp [r]))
    · exact .inl (h.fx b (by simp [r]))
    · exact .inl (h.fx b (by simp [r]))
    · exact .inl (h.fx b (by simp [r]))
    · exact h.rl b r
  · intro g e
    exact (g1 g e).elim (h.rl g) (fun r => .inr (by omega))
/-- the blocks at hand -/
def foot (a c p m M d xa : Nat) (lv lm hv : Value) (b : Nat) : Prop := b ∈ [a, c, p, m, M, d, xa] ∨ lv.ownBlock = some b ∨ lm.ownBlock = some b ∨ hv.ownBlock = some b
theorem Pq.rebase (h : Pq w0 R0 B a c p m sb M d xa who mt st sc mc o cs xs n cs2 xs2 n2 tp lv lm hv w) : Pq w (foot a c p m M d xa lv lm hv) B a c p m sb M d xa who mt st sc mc o cs xs n cs2 xs2 n2 tp lv lm hv w :=
  ⟨h.real, h.port, h.mach, h.side, h.doc, h.tape, h.pn, h.ba, h.bc, Nat.le_trans h.bw h.tch.size, Touch.refl _ _, fun b hb => .inl hb, fun g e => .inl (.inr (.inl e)), fun g e => .inl (.inr (.inr (.inl e))), fun g e => .inl (.inr (.inr (.inr e)))⟩
theorem Pq.footR (h : Pq w0 R0 B a c p m sb M d xa who mt st sc mc o cs xs n cs2 xs2 n2 tp lv lm hv w) (b : Nat) (hb : foot a c p m M d xa lv lm hv b) : R0 b ∨ w0.heap.size ≤ b := by
  rcases hb with hb | hb | hb | hb
  · exact .inl (h.fx b hb)
  · exact h.rl b hb
  · exact h.rm b hb
  · exact h.rh b hb
theorem Pq.footL (h : Pq w0 R0 B a c p m sb M d xa who mt st sc mc o cs xs n cs2 xs2 n2 tp lv lm hv w) (b : Nat) (hb : foot a c p m M d xa lv lm hv b) : b < w.heap.size := by
  obtain ⟨l1, l2, l3⟩ := h.lvl
  rcases hb with hb | hb | hb | hb
  · exact h.size b (by simp only [List.mem_cons, List.not_mem_nil, or_false] at hb ⊢; rcases hb with r | r | r | r | r | r | r <;> simp [r])
  · exact l1 b hb
  · exact l2 b hb
  · exact l3 b hb
theorem Pq.debase {wm : World} {R1 : Nat → Prop} {mc' : Array Value} {o' : Bool} {cs' : List Int} {xs' : List Value} {n' : Nat} {cs2' : List Int} {xs2' : List Value} {n2' : Nat} {tp' : Tp} {lv' lm' hv' : Value} (h : Pq wm R1 B a c p m sb M d xa who mt st sc mc' o' cs' xs' n' cs2' xs2' n2' tp' lv' lm' hv' w') (h0 : Touch R0 w0 wm) (hB : B ≤ w0.heap.size) (hR : ∀ b, R1 b → R0 b ∨ w0.heap.size ≤ b) (hf : ∀ b ∈ [a, c, p, m, M, d, xa], R0 b) :
    Pq w0 R0 B a c p m sb M d xa who mt st sc mc' o' cs' xs' n' cs2' xs2' n2' tp' lv' lm' hv' w' := by
  have hz := h0.size
  exact ⟨h.real, h.port, h.mach, h.side, h.doc, h.tape, h.pn, h.ba, h.bc, hB, touch0 h0 h.tch hR, hf, fun g e => (h.rl g e).elim (hR g) (fun r => .inr (by omega)), fun g e => (h.rm g e).elim (hR g) (fun r => .inr (by omega)), fun g e => (h.rh g e).elim (hR g) (fun r => .inr (by omega))⟩
end
end Go.Proofs.Ytamekeebgkdhcaa
/- The machines of a ring as parties of that fact. No condition. -/
namespace Go.Proofs.Ytamekeebgkdhcaa
open Go.RowKit
set_option linter.unusedVariables false

def others (w : World) (a c : Nat) (lv : Value) : List Nat := (List.range w.heap.size).filter fun b => decide (b ≠ a) && (decide (b ≠ c) && decide (lv.ownBlock ≠ some b))
theorem mem_others {w : World} {a c : Nat} {lv : Value} {b : Nat} : b ∈ others w a c lv ↔ b < w.heap.size ∧ b ≠ a ∧ b ≠ c ∧ lv.ownBlock ≠ some b := by
  simp [others]
section
variable {w0 w w' : World} {R0 : Nat → Prop} {B a c p m sb M d xa : Nat} {who : Int} {mt st : TypeId} {sc mc : Array Value} {o : Bool} {cs : List Int} {xs : List Value} {n : Nat} {cs2 : List Int} {xs2 : List Value} {n2 : Nat} {tp : Tp} {lv lm hv : Value}
theorem Pq.arx (h : Pq w0 R0 B a c p m sb M d xa who mt st sc mc o cs xs n cs2 xs2 n2 tp lv lm hv w) : Arx w B a c cs xs n (others w a c lv) :=
  ⟨⟨lv, h.real, fun g e hg => (mem_others.1 hg).2.2.2 e⟩, fun hg => (mem_others.1 hg).2.1 rfl, fun hg => (mem_others.1 hg).2.2.1 rfl, fun b hb => (mem_others.1 hb).1, h.ba, h.bc, Nat.le_trans h.bw h.tch.size⟩
theorem Pq.inK (h : Pq w0 R0 B a c p m sb M d xa who mt st sc mc o cs xs n cs2 xs2 n2 tp lv lm hv w) : m ≠ p ∧ m ∈ others w a c lv ∧ p ∈ others w a c lv := by
  have nd := nd8 h.pn.nd
  have hs := h.size
  refine ⟨by simp [nd], mem_others.2 ⟨hs m (by simp), by simp [nd], by simp [nd], fun e => (h.pn.gl m e).1 (by simp)⟩, mem_others.2 ⟨hs p (by simp), by simp [nd], by simp [nd], fun e => (h.pn.gl p e).1 (by simp)⟩⟩
theorem Arx.back {w w' : World} {B a c p m : Nat} {cs' : List Int} {xs' : List Value} {n' : Nat} {lv : Value} (h : Arx w' B a c cs' xs' n' (others w a c lv)) :
    ∃ lv', ArenaL w' B a c cs' lv' xs' n' 0 ∧ ∀ g, lv'.ownBlock = some g → lv.ownBlock = some g ∨ w.heap.size ≤ g := by
  obtain ⟨⟨lv', hL, hg⟩, _⟩ := h
  refine ⟨lv', hL, fun g e => ?_⟩
  by_cases h1 : lv.ownBlock = some g
  · exact .inl h1
  · refine .inr (Nat.le_of_not_lt fun h2 => hg g e (mem_others.2 ⟨h2, fun r => hL.apa (r ▸ e), fun r => hL.apc (r ▸ e), h1⟩))
theorem touch_back {w w' : World} {B a c p m : Nat} {lv : Value} (h : Touch (fun b => b = p ∨ b = m ∨ (B ≤ b ∧ b ∉ others w a c lv)) w w') : Touch (fun b => b = p ∨ b = m ∨ b = a ∨ b = c ∨ lv.ownBlock = some b) w w' :=
  h.mono fun k hk r => by
    rcases r with r | r | ⟨_, r⟩
    · exact .inl r
    · exact .inr (.inl r)
    · by_cases h1 : k = a
      · exact .inr (.inr (.inl h1))
      · by_cases h2 : k = c
        · exact .inr (.inr (.inr (.inl h2)))
        · by_cases h3 : lv.ownBlock = some k
          · exact .inr (.inr (.inr (.inr h3)))
          · exact absurd (mem_others.2 ⟨hk, h1, h2, h3⟩) r
abbrev puCells (P T R t v tl nx : Int) (fu : Bool) : Array Value := #[.int .i64 P, .int .i64 T, .int .i64 R, .int .i64 t, .int .u64 v, .int .u64 tl, .int .i64 nx, .bool fu]
theorem Pq.pu {P T R t v tl nx : Int} {fu : Bool} (h : Pq w0 R0 B a c p m sb M d xa who 85 st sc (puCells P T R t v tl nx fu) o cs xs n cs2 xs2 n2 tp lv lm hv w) : PuS w B a c p m P T R t v tl nx fu cs xs n (others w a c lv) who o w :=
  PuS.start h.mach h.arx h.port
theorem Pq.pushed {P T R t v tl nx tl' nx' : Int} {fu fu' o' : Bool} {cs' : List Int} {xs' : List Value} {n' : Nat} (h : Pq w0 R0 B a c p m sb M d xa who 85 st sc (puCells P T R t v tl nx fu) o cs xs n cs2 xs2 n2 tp lv lm hv w)
    (hS : PuS w B a c p m P T R t v tl' nx' fu' cs' xs' n' (others w a c lv) who o' w') : ∃ lv', Pq w0 R0 B a c p m sb M d xa who 85 st sc (puCells P T R t v tl' nx' fu') o' cs' xs' n' cs2 xs2 n2 tp lv' lm hv w' := by
  obtain ⟨lv', hL, g1⟩ := Arx.back (p := p) (m := m) hS.arx
  exact ⟨lv', h.stepped hL hS.port hS.mach g1 (touch_back hS.touch)⟩
abbrev poCells (P T R t v hd nx : Int) (em : Bool) : Array Value := #[.int .i64 P, .int .i64 T, .int .i64 R, .int .i64 t, .int .u64 v, .int .u64 hd, .int .i64 nx, .bool em]
theorem Pq.po {P T R t v tl nx : Int} {fu : Bool} (h : Pq w0 R0 B a c p m sb M d xa who 87 st sc (poCells P T R t v tl nx fu) o cs xs n cs2 xs2 n2 tp lv lm hv w) : PoS w B a c p m P T R t v tl nx fu cs xs n (others w a c lv) who o w :=
  PoS.start h.mach h.arx h.port
theorem Pq.popped {P T R t v tl nx v' tl' nx' : Int} {fu fu' o' : Bool} {cs' : List Int} {xs' : List Value} {n' : Nat} (h : Pq w0 R0 B a c p m sb M d xa who 87 st sc (poCells P T R t v tl nx fu) o cs xs n cs2 xs2 n2 tp lv lm hv w)
    (hS : PoS w B a c p m P T R t v' tl' nx' fu' cs' xs' n' (others w a c lv) who o' w') : ∃ lv', Pq w0 R0 B a c p m sb M d xa who 87 st sc (poCells P T R t v' tl' nx' fu') o' cs' xs' n' cs2 xs2 n2 tp lv' lm hv w' := by
  obtain ⟨lv', hL, g1⟩ := Arx.back (p := p) (m := m) hS.arx
  exact ⟨lv', h.stepped hL hS.port hS.mach g1 (touch_back hS.touch)⟩
end
end Go.Proofs.Ytamekeebgkdhcaa
/- What the functions of package layout return that tell where a word of the heap stands, and of which page a cell is. No condition but that the numbers fit their kinds. -/
namespace Go.Proofs.Ytamekeebgkdhcaa
open Go.RowKit

def addrI (P T R pg at' : Int) : Int := if rightB P T R && (inB pg 0 (P - 1) && inB at' 0 63) then baseI P T R + 64 * pg + at' else -1
/-- is it a cell of the heap? -/
def heapB (P T R at' : Int) : Bool := rightB P T R && inB at' (baseI P T R) (baseI P T R + 64 * P - 1)
def placeI (P T R at' : Int) : Int × Int := if heapB P T R at' then ((at' - baseI P T R) / 64, (at' - baseI P T R) % 64) else (-1, -1)
def refB (P T R x : Int) : Bool := decide (x < 4096) && heapB P T R x
end Go.Proofs.Ytamekeebgkdhcaa
/- What each cell of a plan is for, in numbers; and where it stands. Condition: the plan's numbers are in their bounds. -/
namespace Go.Proofs.Ytamekeebgkdhcaa
open Go.RowKit

/-- what a cell is for: kind, i, j -/
def findK (P T R a : Int) : Int :=
  if a = 0 ∨ a = 7 then 0 else if a < 8 then 1 else if a < 16 then 2
  else if a < tabI T R then (if (a - 16) % (5 + R) < 5 then 3 else 4)
  else if a < baseI P T R then (if 3 ≤ (a - tabI T R) / P then 0 else 5 + (a - tabI T R) / P) else 8
def findA (P T R a : Int) : Int :=
  if a = 0 ∨ a = 7 then 0 else if a < 8 then a else if a < 16 then a - 8
  else if a < tabI T R then (a - 16) / (5 + R)
  else if a < baseI P T R then (if 3 ≤ (a - tabI T R) / P then 0 else (a - tabI T R) % P) else (a - baseI P T R) / 64
def findB (P T R a : Int) : Int :=
  if a = 0 ∨ a = 7 then 0 else if a < 8 then 0 else if a < 16 then 0
  else if a < tabI T R then (if (a - 16) % (5 + R) < 5 then (a - 16) % (5 + R) else (a - 16) % (5 + R) - 5)
  else if a < baseI P T R then 0 else (a - baseI P T R) % 64
/-- where what is so named stands -/
def posI (P T R k i j : Int) : Int :=
  if k = 1 then i else if k = 2 then 8 + i else if k = 3 then 16 + i * (5 + R) + j else if k = 4 then 16 + i * (5 + R) + (5 + j)
  else if k = 5 then tabI T R + i else if k = 6 then tabI T R + P + i else if k = 7 then tabI T R + 2 * P + i else baseI P T R + 64 * i + j
/-- may it be named so? -/
def okI (P T R k i j : Int) : Prop :=
  (k = 1 ∧ 1 ≤ i ∧ i ≤ 6 ∧ j = 0) ∨ (k = 2 ∧ 0 ≤ i ∧ i ≤ 7 ∧ j = 0) ∨ (k = 3 ∧ 0 ≤ i ∧ i < T ∧ 0 ≤ j ∧ j ≤ 4) ∨ (k = 4 ∧ 0 ≤ i ∧ i < T ∧ 0 ≤ j ∧ j < R) ∨
  (k = 5 ∧ 0 ≤ i ∧ i < P ∧ j = 0) ∨ (k = 6 ∧ 0 ≤ i ∧ i < P ∧ j = 0) ∨ (k = 7 ∧ 0 ≤ i ∧ i < P ∧ j = 0) ∨ (k = 8 ∧ 0 ≤ i ∧ i < P ∧ 0 ≤ j ∧ j < 64)
theorem div_lt {a m t : Int} (hm : 0 < m) (h : a < t * m) : a / m < t := Int.ediv_lt_of_lt_mul hm h
theorem mul_le_of {i T m : Int} (h : i < T) (hm : 0 < m) : i * m + m ≤ T * m := by
  have h1 : i + 1 ≤ T := by omega
  have h2 := Int.mul_le_mul_of_nonneg_right h1 (Int.le_of_lt hm)
  rw [Int.add_mul, Int.one_mul] at h2
  exact h2
theorem div_mul_add {i m j : Int} (hm : 0 < m) (h0 : 0 ≤ j) (h1 : j < m) : (i * m + j) / m = i ∧ (i * m + j) % m = j := by
  constructor
  · rw [Int.add_comm, Int.add_mul_ediv_right _ _ (by omega), Int.ediv_eq_zero_of_lt h0 h1]; omega
  · rw [Int.add_comm, Int.add_mul_emod_self_right, Int.emod_eq_of_lt h0 h1]
theorem find_1 {P T R a : Int} (c : ¬ (a = 0 ∨ a = 7)) (c1 : a < 8) : findK P T R a = 1 ∧ findA P T R a = a ∧ findB P T R a = 0 := by
  unfold findK findA findB; simp only [c, c1, if_true, if_false]; exact ⟨by trivial, by trivial, by trivial⟩
theorem find_2 {P T R a : Int} (c1 : 8 ≤ a) (c2 : a < 16) : findK P T R a = 2 ∧ findA P T R a = a - 8 ∧ findB P T R a = 0 := by
  have c : ¬ (a = 0 ∨ a = 7) := by omega
  have c1' : ¬ a < 8 := by omega
  unfold findK findA findB; simp only [c, c1', c2, if_true, if_false]; exact ⟨by trivial, by trivial, by trivial⟩
theorem find_3 {P T R a : Int} (c1 : 16 ≤ a) (c2 : a < tabI T R) : findK P T R a = (if (a - 16) % (5 + R) < 5 then 3 else 4) ∧ findA P T R a = (a - 16) / (5 + R) ∧ findB P T R a = (if (a - 16) % (5 + R) < 5 then (a - 16) % (5 + R) else (a - 16) % (5 + R) - 5) := by
  have c : ¬ (a = 0 ∨ a = 7) := by omega
  have c1' : ¬ a < 8 := by omega
  have c1'' : ¬ a < 16 := by omega
  unfold findK findA findB; simp only [c, c1', c1'', c2, if_true, if_false]; exact ⟨by trivial, by trivial, by trivial⟩
theorem find_5 {P T R a : Int} (c1 : 16 ≤ a) (c2 : tabI T R ≤ a) (c3 : a < baseI P T R) : findK P T R a = (if 3 ≤ (a - tabI T R) / P then 0 else 5 + (a - tabI T R) / P) ∧ findA P T R a = (if 3 ≤ (a - tabI T R) / P then 0 else (a - tabI T R) % P) ∧ findB P T R a = 0 := by
  have c : ¬ (a = 0 ∨ a = 7) := by omega
  have c1' : ¬ a < 8 := by omega
  have c1'' : ¬ a < 16 := by omega
  have c2' : ¬ a < tabI T R := by omega
  unfold findK findA findB; simp only [c, c1', c1'', c2', c3, if_true, if_false]; exact ⟨by trivial, by trivial, by trivial⟩
theorem find_8 {P T R a : Int} (c1 : 16 ≤ a) (c2 : tabI T R ≤ a) (c3 : baseI P T R ≤ a) : findK P T R a = 8 ∧ findA P T R a = (a - baseI P T R) / 64 ∧ findB P T R a = (a - baseI P T R) % 64 := by
  have c : ¬ (a = 0 ∨ a = 7) := by omega
  have c1' : ¬ a < 8 := by omega
  have c1'' : ¬ a < 16 := by omega
  have c2' : ¬ a < tabI T R := by omega
  have c3' : ¬ a < baseI P T R := by omega
  unfold findK findA findB; simp only [c, c1', c1'', c2', c3', if_false]; exact ⟨by trivial, by trivial, by trivial⟩
theorem pos_1 (P T R i j : Int) : posI P T R 1 i j = i := rfl
theorem pos_2 (P T R i j : Int) : posI P T R 2 i j = 8 + i := rfl
theorem pos_3 (P T R i j : Int) : posI P T R 3 i j = 16 + i * (5 + R) + j := rfl
theorem pos_4 (P T R i j : Int) : posI P T R 4 i j = 16 + i * (5 + R) + (5 + j) := rfl
theorem pos_5 (P T R i j : Int) : posI P T R 5 i j = tabI T R + i := rfl
theorem pos_6 (P T R i j : Int) : posI P T R 6 i j = tabI T R + P + i := rfl
theorem pos_7 (P T R i j : Int) : posI P T R 7 i j = tabI T R + 2 * P + i := rfl
theorem pos_8 (P T R i j : Int) : posI P T R 8 i j = baseI P T R + 64 * i + j := rfl
/-- what stands where it is said to -/
theorem find_pos {P T R k i j : Int} (h : Right P T R) (ho : okI P T R k i j) :
    (findK P T R (posI P T R k i j) = k ∧ findA P T R (posI P T R k i j) = i ∧ findB P T R (posI P T R k i j) = j) ∧ 0 ≤ posI P T R k i j ∧ posI P T R k i j < baseI P T R + 64 * P := by
  have ht := tab_bd h
  have hb := base_bd h
  obtain ⟨⟨p1, p2⟩, ⟨t1, t2⟩, r1, r2⟩ := h
  have htab : tabI T R = 16 + T * (5 + R) := rfl
  rcases ho with ⟨rfl, h1, h2, rfl⟩ | ⟨rfl, h1, h2, rfl⟩ | ⟨rfl, h1, h2, h3, h4⟩ | ⟨rfl, h1, h2, h3, h4⟩ | ⟨rfl, h1, h2, rfl⟩ | ⟨rfl, h1, h2, rfl⟩ | ⟨rfl, h1, h2, rfl⟩ | ⟨rfl, h1, h2, h3, h4⟩
  · rw [pos_1]
    exact ⟨find_1 (by omega) (by omega), by omega, by omega⟩
  · rw [pos_2]
    obtain ⟨e1, e2, e3⟩ := find_2 (P := P) (T := T) (R := R) (a := 8 + i) (by omega) (by omega)
    exact ⟨⟨e1, by omega, e3⟩, by omega, by omega⟩
  · rw [pos_3]
    have hm := mul_le_of h2 (show 0 < 5 + R by omega)
    have h0 : 0 ≤ i * (5 + R) := Int.mul_nonneg h1 (by omega)
    have hd := div_mul_add (i := i) (m := 5 + R) (j := j) (by omega) h3 (by omega)
    obtain ⟨e1, e2, e3⟩ := find_3 (P := P) (T := T) (R := R) (a := 16 + i * (5 + R) + j) (by omega) (by omega)
    rw [show 16 + i * (5 + R) + j - 16 = i * (5 + R) + j by omega, hd.1] at e2
    rw [show 16 + i * (5 + R) + j - 16 = i * (5 + R) + j by omega, hd.2, if_pos (by omega)] at e1 e3
    exact ⟨⟨e1, e2, e3⟩, by omega, by omega⟩
  · rw [pos_4]
    have hm := mul_le_of h2 (show 0 < 5 + R by omega)
    have h0 : 0 ≤ i * (5 + R) := Int.mul_nonneg h1 (by omega)
    have hd := div_mul_add (i := i) (m := 5 + R) (j := 5 + j) (by omega) (by omega) (by omega)
    obtain ⟨e1, e2, e3⟩ := find_3 (P := P) (T := T) (R := R) (a := 16 + i * (5 + R) + (5 + j)) (by omega) (by omega)
    rw [show 16 + i * (5 + R) + (5 + j) - 16 = i * (5 + R) + (5 + j) by omega, hd.1] at e2
    rw [show 16 + i * (5 + R) + (5 + j) - 16 = i * (5 + R) + (5 + j) by omega, hd.2, if_neg (by omega)] at e1 e3
    exact ⟨⟨e1, e2, by omega⟩, by omega, by omega⟩
  · rw [pos_5]
    obtain ⟨e1, e2, e3⟩ := find_5 (P := P) (T := T) (R := R) (a := tabI T R + i) (by omega) (by omega) (by omega)
    have hd := div_mul_add (i := 0) (m := P) (j := i) (by omega) (by omega) (by omega)
    rw [show tabI T R + i - tabI T R = 0 * P + i by omega, hd.1] at e1
    rw [show tabI T R + i - tabI T R = 0 * P + i by omega, hd.1, hd.2] at e2
    exact ⟨⟨e1, e2, e3⟩, by omega, by omega⟩
  · rw [pos_6]
    obtain ⟨e1, e2, e3⟩ := find_5 (P := P) (T := T) (R := R) (a := tabI T R + P + i) (by omega) (by omega) (by omega)
    have hd := div_mul_add (i := 1) (m := P) (j := i) (by omega) (by omega) (by omega)
    rw [show tabI T R + P + i - tabI T R = 1 * P + i by omega, hd.1] at e1
    rw [show tabI T R + P + i - tabI T R = 1 * P + i by omega, hd.1, hd.2] at e2
    exact ⟨⟨e1, e2, e3⟩, by omega, by omega⟩
  · rw [pos_7]
    obtain ⟨e1, e2, e3⟩ := find_5 (P := P) (T := T) (R := R) (a := tabI T R + 2 * P + i) (by omega) (by omega) (by omega)
    have hd := div_mul_add (i := 2) (m := P) (j := i) (by omega) (by omega) (by omega)
    rw [show tabI T R + 2 * P + i - tabI T R = 2 * P + i by omega, hd.1] at e1
    rw [show tabI T R + 2 * P + i - tabI T R = 2 * P + i by omega, hd.1, hd.2] at e2
    exact ⟨⟨e1, e2, e3⟩, by omega, by omega⟩
  · rw [pos_8]
    obtain ⟨e1, e2, e3⟩ := find_8 (P := P) (T := T) (R := R) (a := baseI P T R + 64 * i + j) (by omega) (by omega) (by omega)
    exact ⟨⟨e1, by omega, by omega⟩, by omega, by omega⟩
/-- what a cell is for tells where it stands -/
theorem pos_find {P T R a : Int} (h : Right P T R) (h0 : 0 ≤ a) (h1 : a < baseI P T R + 64 * P) :
    (findK P T R a = 0 ∧ findA P T R a = 0 ∧ findB P T R a = 0 ∧ (a < 8 ∨ a < baseI P T R)) ∨ (okI P T R (findK P T R a) (findA P T R a) (findB P T R a) ∧ posI P T R (findK P T R a) (findA P T R a) (findB P T R a) = a) := by
  have ht := tab_bd h
  have hb := base_bd h
  obtain ⟨⟨p1, p2⟩, ⟨t1, t2⟩, r1, r2⟩ := h
  have htab : tabI T R = 16 + T * (5 + R) := rfl
  by_cases c : a = 0 ∨ a = 7
  · left
    unfold findK findA findB; simp only [c, if_true]; exact ⟨by trivial, by trivial, by trivial, by omega⟩
  by_cases c1 : a < 8
  · right
    obtain ⟨e1, e2, e3⟩ := find_1 (P := P) (T := T) (R := R) c c1
    rw [e1, e2, e3]
    exact ⟨by unfold okI; omega, rfl⟩
  by_cases c2 : a < 16
  · right
    obtain ⟨e1, e2, e3⟩ := find_2 (P := P) (T := T) (R := R) (a := a) (by omega) c2
    rw [e1, e2, e3, pos_2]
    exact ⟨by unfold okI; omega, by omega⟩
  by_cases c3 : a < tabI T R
  · right
    obtain ⟨e1, e2, e3⟩ := find_3 (P := P) (T := T) (R := R) (a := a) (by omega) c3
    have hq := div_lt (a := a - 16) (m := 5 + R) (t := T) (by omega) (by omega)
    have hq0 : 0 ≤ (a - 16) / (5 + R) := Int.ediv_nonneg (by omega) (by omega)
    have hr0 : 0 ≤ (a - 16) % (5 + R) := Int.emod_nonneg _ (by omega)
    have hr1 : (a - 16) % (5 + R) < 5 + R := Int.emod_lt_of_pos _ (by omega)
    have hqr := Int.mul_ediv_add_emod (a - 16) (5 + R)
    rw [Int.mul_comm] at hqr
    rw [e1, e2, e3]
    generalize (a - 16) / (5 + R) = q at *
    generalize (a - 16) % (5 + R) = r at *
    by_cases c4 : r < 5
    · rw [if_pos c4, if_pos c4, pos_3]
      exact ⟨by unfold okI; omega, by omega⟩
    · rw [if_neg c4, if_neg c4, pos_4]
      exact ⟨by unfold okI; omega, by omega⟩
  by_cases c4 : a < baseI P T R
  · obtain ⟨e1, e2, e3⟩ := find_5 (P := P) (T := T) (R := R) (a := a) (by omega) (by omega) c4
    have hq0 : 0 ≤ (a - tabI T R) / P := Int.ediv_nonneg (by omega) (by omega)
    have hr0 : 0 ≤ (a - tabI T R) % P := Int.emod_nonneg _ (by omega)
    have hr1 : (a - tabI T R) % P < P := Int.emod_lt_of_pos _ (by omega)
    have hqr := Int.mul_ediv_add_emod (a - tabI T R) P
    rw [e1, e2, e3]
    generalize (a - tabI T R) / P = q at *
    generalize (a - tabI T R) % P = r at *
    by_cases c5 : 3 ≤ q
    · left
      rw [if_pos c5, if_pos c5]; exact ⟨rfl, rfl, rfl, .inr c4⟩
    · right
      rw [if_neg c5, if_neg c5]
      have hq : q = 0 ∨ q = 1 ∨ q = 2 := by omega
      rcases hq with rfl | rfl | rfl
      · rw [show (5 + 0 : Int) = 5 from rfl, pos_5]
        exact ⟨by unfold okI; omega, by omega⟩
      · rw [show (5 + 1 : Int) = 6 from rfl, pos_6]
        exact ⟨by unfold okI; omega, by omega⟩
      · rw [show (5 + 2 : Int) = 7 from rfl, pos_7]
        exact ⟨by unfold okI; omega, by omega⟩
  · right
    obtain ⟨e1, e2, e3⟩ := find_8 (P := P) (T := T) (R := R) (a := a) (by omega) (by omega) (by omega)
    rw [e1, e2, e3, pos_8]
    exact ⟨by unfold okI; omega, by omega⟩
end Go.Proofs.Ytamekeebgkdhcaa
/- What Right of the document's layer 6 returns. No condition. -/
namespace Go.Proofs.Ytamekeebgkdhcaa
open Go.RowKit
set_option linter.unusedVariables false
set_option linter.unusedSimpArgs false
set_option maxHeartbeats 1000000 in
theorem rright_any (P T R : Int) (w : World) :
    Calls Try.prog 26 #[.agg #[.int .i64 P, .int .i64 T, .int .i64 R]] w fun e w' => e = .returned (.bool (rightB P T R)) ∧ Below w.heap.size w w' := by
  by_cases h0 : 1 ≤ P
  rotate_left 1
  · rw [show rightB P T R = false by simp [rightB, inB]; omega]
    have g0 : decide (1 ≤ P) = false := decide_eq_false h0
    go_enter Try.func26, Try.ntmps26
    go_wp2
    go_ret
    exact ⟨rfl, (Below.refl _ _).alloc (Nat.le_refl _) _⟩
  by_cases h1 : P ≤ 32
  rotate_left 1
  · rw [show rightB P T R = false by simp [rightB, inB]; omega]
    have g1 : decide (P ≤ 32) = false := decide_eq_false h1
    go_enter Try.func26, Try.ntmps26
    go_wp2
    go_ret
    exact ⟨rfl, (Below.refl _ _).alloc (Nat.le_refl _) _⟩
  by_cases h2 : 1 ≤ T
  rotate_left 1
  · rw [show rightB P T R = false by simp [rightB, inB]; omega]
    have g2 : decide (1 ≤ T) = false := decide_eq_false h2
    go_enter Try.func26, Try.ntmps26
    go_wp2
    go_ret
    exact ⟨rfl, (Below.refl _ _).alloc (Nat.le_refl _) _⟩
  by_cases h3 : T ≤ 6
  rotate_left 1
  · rw [show rightB P T R = false by simp [rightB, inB]; omega]
    have g3 : decide (T ≤ 6) = false := decide_eq_false h3
    go_enter Try.func26, Try.ntmps26
    go_wp2
    go_ret
    exact ⟨rfl, (Below.refl _ _).alloc (Nat.le_refl _) _⟩
  by_cases h4 : 1 ≤ R
  rotate_left 1
  · rw [show rightB P T R = false by simp [rightB, inB]; omega]
    have g4 : decide (1 ≤ R) = false := decide_eq_false h4
    go_enter Try.func26, Try.ntmps26
    go_wp2
    go_ret
    exact ⟨rfl, (Below.refl _ _).alloc (Nat.le_refl _) _⟩
  by_cases h5 : R ≤ 16
  rotate_left 1
  · rw [show rightB P T R = false by simp [rightB, inB]; omega]
    have g5 : decide (R ≤ 16) = false := decide_eq_false h5
    go_enter Try.func26, Try.ntmps26
    go_wp2
    go_ret
    exact ⟨rfl, (Below.refl _ _).alloc (Nat.le_refl _) _⟩
  rw [show rightB P T R = true by simp [rightB, inB]; omega]
  go_enter Try.func26, Try.ntmps26
  go_wp2
  go_ret
  exact ⟨rfl, (Below.refl _ _).alloc (Nat.le_refl _) _⟩
end Go.Proofs.Ytamekeebgkdhcaa
