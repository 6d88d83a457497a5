/- What puts of the queue does, by the state of its machine. Condition: the queue, its arena, its port are there; the ring's plan is right. -/
import Derived.Test.YtgcahbgapojimaaRqueue
namespace Go.Proofs.Ytgcahbgapojimaa
open Go.RowKit
section
variable {w0 w w' : World} {B a c p cp x m : Nat} {pu po : Option Addr} {P T R nx v tl pn tl' pn' : Int} {vp vt : Value} {ps ts cs cs' : List Int} {n n' : Nat} {K : List Nat} {wh wh2 : Int}
/-- the queue with its machine that pushes -/
structure QP (w0 : World) (B a c p cp x m : Nat) (po : Option Addr) (P T R nx v tl pn : Int) (vp vt : Value) (ps ts cs : List Int) (n : Nat) (K : List Nat) (wh wh2 : Int) (w : World) : Prop where
  qs : QS w0 B a c p cp x (some ⟨m, 0, none⟩) po nx vp vt ps ts cs n K wh wh2 w
  mach : PushAt w m P T R 0 v tl pn false
  hm : m ∈ K
theorem QP.grew (h : QP w0 B a c p cp x m po P T R nx v tl pn vp vt ps ts cs n K wh wh2 w) (hb : Below w.heap.size w w') : QP w0 B a c p cp x m po P T R nx v tl pn vp vt ps ts cs n K wh wh2 w' := ⟨h.qs.grew hb, h.mach.grew hb, h.hm⟩
/-- in the midst of a step: the port was granted, the machine has made its access -/
structure QG (w0 : World) (B a c p cp x m : Nat) (po : Option Addr) (P T R nx v tl pn : Int) (fu : Bool) (vp vt : Value) (ps ts cs : List Int) (n : Nat) (K : List Nat) (wh wh2 : Int) (o : Bool) (w1 w : World) : Prop where
  old : QP w0 B a c p cp x m po P T R nx v tl pn vp vt ps ts cs n K wh wh2 w1
  xs : ∃ tl pn cs n, PuE w1 B a c p m P T R 0 v tl pn fu cs n K wh o w
theorem qcells (h : QueueAt w x p cp pu po nx vp vt) : w.cell? ⟨x, 0, none⟩ = some (.pointer (some ⟨p, 0, none⟩)) ∧ w.cell? ⟨x, 1, none⟩ = some (.pointer (some ⟨cp, 0, none⟩)) ∧ w.cell? ⟨x, 2, none⟩ = some (.pointer pu) ∧ w.cell? ⟨x, 3, none⟩ = some (.pointer po) := ⟨h.val 0 rfl, h.val 1 rfl, h.val 2 rfl, h.val 3 rfl⟩
/-- the queue's block is as it was behind accesses of the machine -/
theorem QP.qat (h : QP w0 B a c p cp x m po P T R nx v tl pn vp vt ps ts cs n K wh wh2 w) (hT : Touch (fun b => b = p ∨ b = m ∨ (B ≤ b ∧ b ∉ K)) w w') : QueueAt w' x p cp (some ⟨m, 0, none⟩) po nx vp vt :=
  h.qs.q.touch hT (fun r => by
    rcases r with r | r | r
    · exact h.qs.xp.1 r
    · exact h.qs.q.ne h.mach (by decide) r
    · exact r.2 h.qs.hx)
/-- the machine's step, on the queue: what it leaves -/
theorem QP.after {fu' : Bool} (h : QP w0 B a c p cp x m po P T R nx v tl pn vp vt ps ts cs n K wh wh2 w) (hE : PuE w B a c p m P T R 0 v tl' pn' fu' cs' n' K wh false w') :
    QS w0 B a c p cp x (some ⟨m, 0, none⟩) po nx vp vt ps ts cs' n' K wh wh2 w' :=
  h.qs.put h.mach (by decide) (by decide) (by decide) h.hm hE.touch hE.ary hE.port
theorem QP.push (h : QP w0 B a c p cp x m po P T R nx v tl pn vp vt ps ts cs n K wh wh2 w) : PuE w B a c p m P T R 0 v tl pn false cs n K wh false w := h.qs.ary.pu h.mach h.qs.port
theorem QP.ready (h : QP w0 B a c p cp x m po P T R nx v tl pn vp vt ps ts cs n K wh wh2 w) (hx : exB P T R 0 = true) (hl : cs.length = cellsN P T R) : Ready P T R 0 p m cs K := ⟨hx, h.mach.ne h.qs.port (by decide), h.hm, h.qs.hp, hl⟩
theorem Ary.touchs {R : Nat → Prop} {L : List Nat} (h : Ary w B a c cs n K) (ht : Touch R w w') (hR : ∀ b, R b → b ∈ K) (hL : ∀ m ∈ L, w.heap.size ≤ m ∧ m < w'.heap.size) : Ary w' B a c cs n (L ++ K) := by
  obtain ⟨xs, ⟨lv, hL', hg⟩, h1, h2, h3, h4, h5, h6⟩ := h
  have la := hL'.at'.own.lt
  have lc := hL'.at'.row.lt
  have lg := fun g hg => (hL'.own.lt g hg).2
  refine ⟨xs, ⟨lv, hL'.touch ht (fun r => h1 (hR _ r)) (fun r => h2 (hR _ r)) (fun g e r => hg g e (hR _ r)), fun g e r => ?_⟩, fun r => ?_, fun r => ?_, fun b r => ?_, h4, h5, Nat.le_trans h6 ht.size⟩
  · rcases List.mem_append.1 r with r | r
    · have := hL g r; have := lg g e; omega
    · exact hg g e r
  · rcases List.mem_append.1 r with r | r
    · have := hL a r; omega
    · exact h1 r
  · rcases List.mem_append.1 r with r | r
    · have := hL c r; omega
    · exact h2 r
  · rcases List.mem_append.1 r with r | r
    · exact (hL b r).2
    · exact Nat.lt_of_lt_of_le (h3 b r) ht.size
theorem own_lt {B E size n g : Nat} {v : Value} {xs : List Value} (h : w.ownsRow B E size v n xs) (hg : v.ownBlock = some g) : g < w.heap.size := (h.lt g hg).2
/-- a word more was put into the row of those that were put -/
theorem QS.putted {o : Obj} {w5 : World} {g cap : Nat} {y : Int} (h : QS w0 B a c p cp x pu po nx vp vt ps ts cs n K wh wh2 w) (hg : ((w.alloc o).drew).grownBy w5 vp.ownBlock)
    (hown : w5.ownsRow w0.heap.size 22 1 (.slice (some ⟨g, 0, none⟩) (ps.length + 1) cap) (ps.length + 1) (ps.map (Value.int .u64) ++ [.int .u64 y])) (hat : vp.ownBlock = some g ∨ g = w.heap.size + 1) (hlt : g < w5.heap.size) :
    QS w0 B a c p cp x pu po nx (.slice (some ⟨g, 0, none⟩) (ps.length + 1) cap) vt (ps ++ [y]) ts cs n (g :: K) wh wh2 (w5.setCell ⟨x, 5, none⟩ (.slice (some ⟨g, 0, none⟩) (ps.length + 1) cap)) := by
  have hT1 : Touch (fun b => vp.ownBlock = some b) w ((w.alloc o).drew) := ((Touch.refl _ w).alloc o).drew
  have hT2 : Touch (fun b => vp.ownBlock = some b) w w5 := hT1.grown hg (fun k e => .inl e)
  have hT3 : Touch (fun b => vp.ownBlock = some b ∨ b = x) w (w5.setCell ⟨x, 5, none⟩ (.slice (some ⟨g, 0, none⟩) (ps.length + 1) cap)) := (hT2.mono fun _ _ e => .inl e).setCell (.inr rfl) _
  have gK : ∀ g', vp.ownBlock = some g' → g' ∈ K := h.k1
  have hs : g ∈ K ∨ (w.heap.size ≤ g) := hat.elim (fun e => .inl (h.k1 g e)) (fun e => .inr (by omega))
  have hlo : w0.heap.size ≤ g := hs.elim (h.lo g) (fun e => Nat.le_trans h.bel.size e)
  have lx := h.q.lt
  have gx : g ≠ x := hat.elim (fun e => own_ne h.own1 e h.q (by decide)) (fun e => by omega)
  have hP : ∀ b, b ∈ K → (∀ g', vp.ownBlock = some g' → g' ≠ b) → b ≠ x → ¬ (vp.ownBlock = some b ∨ b = x) := fun b _ h1 h2 r => r.elim (fun e => h1 b e rfl) h2
  refine ⟨?_, h.port.touch hT3 (hP p h.hp (fun g' e => own_ne h.own1 e h.port (by decide)) (Ne.symm h.xp.1)), h.cport.touch hT3 (hP cp h.hcp (fun g' e => own_ne h.own1 e h.cport (by decide)) (Ne.symm h.xp.2)), ?_, ?_, ?_, fun g' e => ?_, fun g' e => List.mem_cons_of_mem _ (h.k2 g' e), fun g' e e2 => ?_, List.mem_cons_of_mem _ h.hp, List.mem_cons_of_mem _ h.hcp, List.mem_cons_of_mem _ h.hx, h.bel.trans (hT3.below h.bel.size fun b r => ?_), fun b r => ?_, h.lb⟩
  · have hR : ∀ b, (vp.ownBlock = some b ∨ b = x) → b ∈ K := fun b r => r.elim (h.k1 b) (fun e => e ▸ h.hx)
    rcases hat with e | e
    · exact (h.ary.touch hT3 hR).sub (fun b r => (List.mem_cons.1 r).elim (fun e2 => e2 ▸ h.k1 g e) id)
    · have := h.ary.touchs (L := [g]) hT3 hR (fun m r => by
        have e3 := List.mem_singleton.1 r
        subst e3
        exact ⟨by omega, by simpa [World.setCell] using hlt⟩)
      exact this
  · have := (h.q.touch hT2 (fun e => own_ne h.own1 e h.q (by decide) rfl)).set 5 (.slice (some ⟨g, 0, none⟩) (ps.length + 1) cap)
    exact this
  · have h5 := own_other (a := ⟨x, 5, none⟩) (u := .slice (some ⟨g, 0, none⟩) (ps.length + 1) cap) hown (by intro e; exact gx (Option.some.inj e))
    rw [List.length_append, List.map_append]
    exact h5
  · refine own_touch h.own2 hT3 (fun g' e r => ?_)
    rcases r with r | r
    · exact h.ne g' r e
    · exact own_ne h.own2 e h.q (by decide) r
  · have e1 : g = g' := Option.some.inj e
    rw [e1]; exact List.mem_cons_self ..
  · have e1 : g = g' := Option.some.inj e
    subst e1
    rcases hat with e3 | e3
    · exact h.ne g e3 e2
    · have := own_lt h.own2 e2
      omega
  · rcases r with r | r
    · exact h.lo b (h.k1 b r)
    · exact r ▸ h.lo x h.hx
  · rcases List.mem_cons.1 r with r | r
    · rw [r]; exact hlo
    · exact h.lo b r
theorem cell_other5 (W : World) (v : Value) : (W.setCell ⟨x, 5, none⟩ v).cell? ⟨x, 4, none⟩ = W.cell? ⟨x, 4, none⟩ := World.cell?_setCell_other _ _ _ _ (by simp)
/-- a cell of the queue is written -/
theorem QS.set {i : Nat} {u : Value} {pu' po' : Option Addr} {nx' : Int} (h : QS w0 B a c p cp x pu po nx vp vt ps ts cs n K wh wh2 w) (hq : QueueAt (w.setCell ⟨x, i, none⟩ u) x p cp pu' po' nx' vp vt) : QS w0 B a c p cp x pu' po' nx' vp vt ps ts cs n K wh wh2 (w.setCell ⟨x, i, none⟩ u) := by
  have hT : Touch (fun b => b = x) w (w.setCell ⟨x, i, none⟩ u) := (Touch.refl (fun b => b = x) w).setCell (p := ⟨x, i, none⟩) rfl _
  exact ⟨h.ary.touch hT (fun b e => e ▸ h.hx), h.port.touch hT (Ne.symm h.xp.1), h.cport.touch hT (Ne.symm h.xp.2), hq, own_touch h.own1 hT (fun g e => own_ne h.own1 e h.q (by decide)), own_touch h.own2 hT (fun g e => own_ne h.own2 e h.q (by decide)), h.k1, h.k2, h.ne, h.hp, h.hcp, h.hx, h.bel.trans (hT.below h.bel.size fun b e => e ▸ h.lo x h.hx), h.lo, h.lb⟩
/-- the blocks that a call of puts, or takes, may write: the queue's, the port's, the machine's, the arena's, the row's -/
def PtR (B p m x : Nat) (K : List Nat) (v : Value) (b : Nat) : Prop := b = x ∨ b = p ∨ b = m ∨ (B ≤ b ∧ b ∉ K) ∨ v.ownBlock = some b
theorem ptR_of {B p m x : Nat} {K : List Nat} {v : Value} {b : Nat} (h : b = p ∨ b = m ∨ (B ≤ b ∧ b ∉ K)) : PtR B p m x K v b := by
  rcases h with h | h | h
  · exact .inr (.inl h)
  · exact .inr (.inr (.inl h))
  · exact .inr (.inr (.inr (.inl h)))
theorem ptR_of' {B p m x : Nat} {K : List Nat} {v : Value} {b : Nat} (h : b = p ∨ b = m ∨ (B ≤ b ∧ b ∉ m :: K)) : PtR B p m x K v b := by
  rcases h with h | h | h
  · exact .inr (.inl h)
  · exact .inr (.inr (.inl h))
  · exact .inr (.inr (.inr (.inl ⟨h.1, fun r => h.2 (List.mem_cons_of_mem _ r)⟩)))
set_option maxRecDepth 100000 in
set_option maxHeartbeats 2000000 in
/-- a step that goes on -/
theorem puts_on (P0 T0 R0 : Int) (h : QP w0 B a c p cp x m po P T R nx v tl pn vp vt ps ts cs n K wh wh2 w) (hx : exB P T R 0 = true) (hl : cs.length = cellsN P T R)
    (hst : ∀ W W0, PuE W0 B a c p m P T R 0 v tl pn false cs n K wh true W → Calls Try.prog 40 #[.pointer (some ⟨m, 0, none⟩), .pointer (some ⟨p, 0, none⟩)] W fun e w' => e = .returned (.bool false) ∧ PuE W0 B a c p m P T R 0 v tl' pn' false cs' n' K wh false w') :
    Calls Try.prog 21 #[.pointer (some ⟨x, 0, none⟩), .agg #[.int .i64 P0, .int .i64 T0, .int .i64 R0]] w fun e w' => (∃ u, e = .returned u) ∧ QP w0 B a c p cp x m po P T R nx v tl' pn' vp vt ps ts cs' n' K wh wh2 w' ∧ Touch (PtR B p m x K vp) w w' := by
  have h0 := h.grew ((Below.refl _ _).alloc (Nat.le_refl _) (.cells #[.int .i64 P0, .int .i64 T0, .int .i64 R0] 26))
  have hr := h0.ready hx hl
  have q0 := qcells h0.qs.q
  have hT0 : Touch (PtR B p m x K vp) w (w.alloc (.cells #[.int .i64 P0, .int .i64 T0, .int .i64 R0] 26)) := (Touch.refl _ _).alloc _
  have ST := Lib.hid hst
  clear hst h hx hl
  go_enter Try.func21, Try.ntmps21
  go_wp2_with fail
  generalize w.alloc (.cells #[.int .i64 P0, .int .i64 T0, .int .i64 R0] 26) = w1 at *
  refine (h0.push.grant hr).mono ?_; rintro e w2 ⟨⟨u2, rfl⟩, h2⟩
  have hq2 := h0.qat h2.touch
  have q2 := qcells hq2
  clear q0
  go_wp2_with fail
  have S2 := Lib.hid (fun W (hW : W = w2.drew) => (show PuE w1 B a c p m P T R 0 v tl pn false cs n K wh true W by subst hW; obtain ⟨xs, h2⟩ := h2; exact ⟨xs, h2.drew⟩))
  go_region_held3 (fun W => W.cell? ⟨x, 0, none⟩ = some (.pointer (some ⟨p, 0, none⟩)) ∧ W.cell? ⟨x, 2, none⟩ = some (.pointer (some ⟨m, 0, none⟩)))
    (first | exact ⟨q2.1, q2.2.2.1⟩ | exact ⟨q3.1, q3.2.2.1⟩)
    (first | (go_at_call 40; refine (ST.out _ _ (S2.out _ rfl)).mono ?_; rintro e w3 ⟨rfl, h3⟩; have q3 := qcells (h0.qat h3.touch)))
  have hQ := h0.after h3
  have hT3 := hT0.trans (h3.touch.mono (fun b _ r => ptR_of r))
  have hM := h3.mach
  go_wp2
  go_end0
  exact ⟨⟨_, rfl⟩, ⟨hQ, hM, h0.hm⟩, hT3⟩
set_option maxRecDepth 100000 in
set_option maxHeartbeats 2000000 in
/-- a step behind which there was no room -/
theorem puts_full (P0 T0 R0 : Int) (h : QP w0 B a c p cp x m po P T R nx v tl pn vp vt ps ts cs n K wh wh2 w) (hx : exB P T R 0 = true) (hl : cs.length = cellsN P T R)
    (hst : ∀ W W0, PuE W0 B a c p m P T R 0 v tl pn false cs n K wh true W → Calls Try.prog 40 #[.pointer (some ⟨m, 0, none⟩), .pointer (some ⟨p, 0, none⟩)] W fun e w' => e = .returned (.bool true) ∧ PuE W0 B a c p m P T R 0 v tl' pn' true cs' n' K wh false w') :
    Calls Try.prog 21 #[.pointer (some ⟨x, 0, none⟩), .agg #[.int .i64 P0, .int .i64 T0, .int .i64 R0]] w fun e w' => (∃ u, e = .returned u) ∧ QS w0 B a c p cp x none po nx vp vt ps ts cs' n' K wh wh2 w' ∧ Touch (PtR B p m x K vp) w w' := by
  have h0 := h.grew ((Below.refl _ _).alloc (Nat.le_refl _) (.cells #[.int .i64 P0, .int .i64 T0, .int .i64 R0] 26))
  have hr := h0.ready hx hl
  have q0 := qcells h0.qs.q
  have hT0 : Touch (PtR B p m x K vp) w (w.alloc (.cells #[.int .i64 P0, .int .i64 T0, .int .i64 R0] 26)) := (Touch.refl _ _).alloc _
  have ST := Lib.hid hst
  clear hst h hx hl
  go_enter Try.func21, Try.ntmps21
  go_wp2_with fail
  generalize w.alloc (.cells #[.int .i64 P0, .int .i64 T0, .int .i64 R0] 26) = w1 at *
  refine (h0.push.grant hr).mono ?_; rintro e w2 ⟨⟨u2, rfl⟩, h2⟩
  have hq2 := h0.qat h2.touch
  have q2 := qcells hq2
  clear q0
  go_wp2_with fail
  have S2 := Lib.hid (fun W (hW : W = w2.drew) => (show PuE w1 B a c p m P T R 0 v tl pn false cs n K wh true W by subst hW; obtain ⟨xs, h2⟩ := h2; exact ⟨xs, h2.drew⟩))
  go_region_held3 (fun W => W.cell? ⟨x, 0, none⟩ = some (.pointer (some ⟨p, 0, none⟩)) ∧ W.cell? ⟨x, 2, none⟩ = some (.pointer (some ⟨m, 0, none⟩)))
    (first | exact ⟨q2.1, q2.2.2.1⟩ | exact ⟨q3.1, q3.2.2.1⟩)
    (first | (go_at_call 40; refine (ST.out _ _ (S2.out _ rfl)).mono ?_; rintro e w3 ⟨rfl, h3⟩; have q3 := qcells (h0.qat h3.touch)))
  have hQ := h0.after h3
  have hT3 := hT0.trans (h3.touch.mono (fun b _ r => ptR_of r))
  have hM := h3.mach
  go_wp2_with fail
  refine (full_push hM).mono ?_; rintro e w4 ⟨rfl, hq4⟩
  have hQ4 := hQ.quiet hq4
  have hT4 := hT3.trans (Touch.of hq4.below)
  have c2 := hQ4.q.val 2 rfl
  have f2 := hQ4.q.frozen 2
  have hQ5 := hQ4.set (i := 2) (u := .pointer none) (hQ4.q.set 2 (.pointer none))
  clear q3 hQ hM h3 hq4
  have hT5 := hT4.setCell (p := ⟨x, 2, none⟩) (.inl rfl) (.pointer none)
  go_wp2
  go_end0
  exact ⟨⟨_, rfl⟩, hQ5, hT5⟩
set_option maxRecDepth 100000 in
set_option maxHeartbeats 4000000 in
/-- a step behind which the word is in the ring -/
theorem puts_over (P0 T0 R0 : Int) (h : QP w0 B a c p cp x m po P T R nx v tl pn vp vt ps ts cs n K wh wh2 w) (hx : exB P T R 0 = true) (hl : cs.length = cellsN P T R) (hps : ps.length ≤ 1000000)
    (hst : ∀ W W0, PuE W0 B a c p m P T R 0 v tl pn false cs n K wh true W → Calls Try.prog 40 #[.pointer (some ⟨m, 0, none⟩), .pointer (some ⟨p, 0, none⟩)] W fun e w' => e = .returned (.bool true) ∧ PuE W0 B a c p m P T R 0 v tl' pn' false cs' n' K wh false w') :
    Calls Try.prog 21 #[.pointer (some ⟨x, 0, none⟩), .agg #[.int .i64 P0, .int .i64 T0, .int .i64 R0]] w fun e w' => (∃ u, e = .returned u) ∧ ∃ g cap, QS w0 B a c p cp x none po (IntKind.u64.wrap (nx + 1)) (.slice (some ⟨g, 0, none⟩) (ps.length + 1) cap) vt (ps ++ [nx]) ts cs' n' (g :: K) wh wh2 w' ∧ Touch (PtR B p m x K vp) w w' := by
  obtain ⟨i0, hi0, hz0, hz1, hz2⟩ := info_parts info_u64
  have Z := Lib.hid (And.intro hi0 (And.intro hz0 (And.intro hz1 hz2)))
  clear hi0 hz0 hz1 hz2
  have h0 := h.grew ((Below.refl _ _).alloc (Nat.le_refl _) (.cells #[.int .i64 P0, .int .i64 T0, .int .i64 R0] 26))
  have hr := h0.ready hx hl
  have q0 := qcells h0.qs.q
  have hT0 : Touch (PtR B p m x K vp) w (w.alloc (.cells #[.int .i64 P0, .int .i64 T0, .int .i64 R0] 26)) := (Touch.refl _ _).alloc _
  have ST := Lib.hid hst
  clear hst h hx hl
  go_enter Try.func21, Try.ntmps21
  go_wp2_with fail
  generalize w.alloc (.cells #[.int .i64 P0, .int .i64 T0, .int .i64 R0] 26) = w1 at *
  refine (h0.push.grant hr).mono ?_; rintro e w2 ⟨⟨u2, rfl⟩, h2⟩
  have hq2 := h0.qat h2.touch
  have q2 := qcells hq2
  clear q0
  go_wp2_with fail
  have S2 := Lib.hid (fun W (hW : W = w2.drew) => (show PuE w1 B a c p m P T R 0 v tl pn false cs n K wh true W by subst hW; obtain ⟨xs, h2⟩ := h2; exact ⟨xs, h2.drew⟩))
  go_region_held3 (fun W => W.cell? ⟨x, 0, none⟩ = some (.pointer (some ⟨p, 0, none⟩)) ∧ W.cell? ⟨x, 2, none⟩ = some (.pointer (some ⟨m, 0, none⟩)))
    (first | exact ⟨q2.1, q2.2.2.1⟩ | exact ⟨q3.1, q3.2.2.1⟩)
    (first | (go_at_call 40; refine (ST.out _ _ (S2.out _ rfl)).mono ?_; rintro e w3 ⟨rfl, h3⟩; have q3 := qcells (h0.qat h3.touch)))
  have hQ := h0.after h3
  have hT3 := hT0.trans (h3.touch.mono (fun b _ r => ptR_of r))
  have hM := h3.mach
  go_wp2_with fail
  refine (full_push hM).mono ?_; rintro e w4 ⟨rfl, hq4⟩
  have hQ4 := hQ.quiet hq4
  have hT4 := hT3.trans (Touch.of hq4.below)
  have c4 := hQ4.q.val 4 rfl
  have c5 := hQ4.q.val 5 rfl
  clear q3 hQ hM h3 hq4 q2 hq2 h2 h0 hr S2 ST
  have lx := hQ4.q.lt
  have hne5 := Lib.hid (fun g e => own_ne hQ4.own1 e hQ4.q (by decide) (g := g))
  have hb4 := hQ4.bel.size
  have hAl := hQ4.q.alloc (.cells #[.int .u64 nx] 22)
  as_aux_lemma =>
    go_wp2_with fail
    have k4a : w4.drew.cell? ⟨x, 4, none⟩ = some (.int .u64 nx) := c4
    have k4b := (hAl.drew).val 4 rfl
    have k5a : w4.drew.cell? ⟨x, 5, none⟩ = some vp := c5
    have k5b := (hAl.drew).val 5 rfl
    refine wp_region_held_drew (S := (fun W => W.cell? ⟨x, 4, none⟩ = some (.int .u64 nx))) (by kernel_rfl) k4a (fun hHeld => ?_)
    refine wpAnyH_take (i := 0) (oi := _) (v := ?_) (op_at rfl) (by kernel_rfl) (by kernel_rfl) (by kernel_rfl) (fun _ _ _ h => h) (Or.inl ⟨by rfl, ?_⟩) hHeld ?_
    rotate_left 1
    focus (intro W hSw; (try dsimp only at hSw); go_simp; (try (with_reducible rfl)))
    (try simp only [Act.put, List.setIfInBounds_toArray, List.set_cons_zero, List.set_cons_succ])
    refine wpAnyH_take (i := 1) (oi := _) (v := ?_) (op_at rfl) (by kernel_rfl) (by kernel_rfl) (by kernel_rfl) (fun _ _ _ h => h) (Or.inl ⟨by rfl, ?_⟩) hHeld ?_
    rotate_left 1
    focus (intro W hSw; (try dsimp only at hSw); go_simp; (try (with_reducible rfl)))
    (try simp only [Act.put, List.setIfInBounds_toArray, List.set_cons_zero, List.set_cons_succ])
    refine wpAnyH_take (i := 2) (oi := _) (v := ?_) (op_at rfl) (by kernel_rfl) (by kernel_rfl) (by kernel_rfl) (fun _ _ _ h => h) (Or.inl ⟨by rfl, ?_⟩) hHeld ?_
    rotate_left 1
    focus (intro W hSw; (try dsimp only at hSw); go_simp; (try (with_reducible rfl)))
    (try simp only [Act.put, List.setIfInBounds_toArray, List.set_cons_zero, List.set_cons_succ])
    refine wpAnyH_take (i := 3) (oi := _) (v := ?_) (op_at rfl) (by kernel_rfl) (by kernel_rfl) (by kernel_rfl) (fun _ _ _ h => h) (Or.inl ⟨by rfl, ?_⟩) hHeld ?_
    rotate_left 1
    focus (intro W hSw; (try dsimp only at hSw); go_simp; (try (with_reducible rfl)))
    (try simp only [Act.put, List.setIfInBounds_toArray, List.set_cons_zero, List.set_cons_succ])
    refine wpAnyH_take (i := 5) (oi := _) (v := ?_) (op_at rfl) (by kernel_rfl) (by kernel_rfl) (by kernel_rfl) (fun _ _ _ h => h) (Or.inl ⟨by rfl, ?_⟩) hHeld ?_
    rotate_left 1
    focus (intro W hSw; (try dsimp only at hSw); go_simp; (try (with_reducible rfl)))
    (try simp only [Act.put, List.setIfInBounds_toArray, List.set_cons_zero, List.set_cons_succ])
    refine wpAnyH_take (i := 6) (oi := _) (v := ?_) (op_at rfl) (by kernel_rfl) (by kernel_rfl) (by kernel_rfl) (fun _ _ _ h => h) (Or.inl ⟨by rfl, ?_⟩) hHeld ?_
    rotate_left 1
    focus (intro W hSw; (try dsimp only at hSw); go_simp; (try (with_reducible rfl)))
    (try simp only [Act.put, List.setIfInBounds_toArray, List.set_cons_zero, List.set_cons_succ])
    refine wpAnyH_take (i := 7) (oi := _) (v := ?_) (op_at rfl) (by kernel_rfl) (by kernel_rfl) (by kernel_rfl) (fun _ _ _ h => h) (Or.inl ⟨by rfl, ?_⟩) hHeld ?_
    rotate_left 1
    focus (intro W hSw; (try dsimp only at hSw); go_simp; (try (with_reducible rfl)))
    (try simp only [Act.put, List.setIfInBounds_toArray, List.set_cons_zero, List.set_cons_succ])
    refine wpAnyH_take (i := 8) (oi := _) (v := ?_) (op_at rfl) (by kernel_rfl) (by kernel_rfl) (by kernel_rfl) (fun _ _ _ h => h) (Or.inl ⟨by rfl, ?_⟩) hHeld ?_
    rotate_left 1
    focus (intro W hSw; (try dsimp only at hSw); go_simp; (try (with_reducible rfl)))
    (try simp only [Act.put, List.setIfInBounds_toArray, List.set_cons_zero, List.set_cons_succ])
    refine wpAnyH_ready (rs := [4, 9]) (by kernel_rfl) (by simp) ?_
    refine AllReadyH.cons (o := _) (op_at rfl) (fun K hK => ?_) (AllReadyH.cons (o := _) (op_at rfl) (fun K hK => ?_) AllReadyH.nil)
    · as_aux_lemma =>
        go_simp
        refine hK.out _ _ k4a (fun hHeld => ?_)
        clear hK K
        (try simp only [Act.put, List.setIfInBounds_toArray, List.set_cons_zero, List.set_cons_succ])
        refine wpAnyH_ready (rs := [9]) (by kernel_rfl) (by simp) ?_
        refine AllReadyH.cons (o := _) (op_at rfl) (fun K hK => ?_) AllReadyH.nil
        go_simp
        refine hK.out _ _ k4b (fun hHeld => ?_)
        clear hK K
        (try simp only [Act.put, List.setIfInBounds_toArray, List.set_cons_zero, List.set_cons_succ])
        refine wpAnyH_ready (rs := [10]) (by kernel_rfl) (by simp) ?_
        refine AllReadyH.cons (o := _) (op_at rfl) (fun K hK => ?_) AllReadyH.nil
        refine step_append_lies _ (by rfl) _ _ _ (by rfl) w0.heap.size 22 i0 _ 1 8 Try.underlying43 Z.out.1 Z.out.2.1 Z.out.2.2.1 Z.out.2.2.2 rfl (by decide) vp ps.length (ps.map (Value.int .u64)) (by rfl) (Quiet.ownsRow ⟨1, rfl⟩ (hQ4.own1.alloc _)) ⟨w4.heap.size, 0, none⟩ 1 1 [.int .u64 nx] (by rfl) (by rfl) (World.news_of_block (cs := #[.int .u64 nx]) (t := 22) (fr := (0, 0)) (heap_alloc_new w4 _)) (by simp [Value.oneCell']) (by decide) (by unfold maxLen; omega) (by omega) (by simp; omega) (w4.heap.size + 1) (by simp) ?_; intro g cap w5 hown5 hgrow hat hlt; have k5 := (hgrow.cell_far ⟨x, 5, none⟩ (hAl.drew).lt (fun e => hne5.out x e.symm rfl)).trans ((hAl.drew).val 5 rfl); have kf := (hgrow.frozen_far ⟨x, 5, none⟩ (hAl.drew).lt (fun e => hne5.out x e.symm rfl)).trans ((hAl.drew).frozen 5); have k4c := (hgrow.cell_far ⟨x, 4, none⟩ (hAl.drew).lt (fun e => hne5.out x e.symm rfl)).trans ((hAl.drew).val 4 rfl); have k4d := (cell_other5 w5 (.slice (some ⟨g, 0, none⟩) (ps.length + 1) cap)).trans k4c
        refine hK.out _ _ k4c (fun hHeld => ?_)
        clear hK K
        (try simp only [Act.put, List.setIfInBounds_toArray, List.set_cons_zero, List.set_cons_succ])
        refine wpAnyH_take (i := 11) (oi := _) (v := ?_) (op_at rfl) (by kernel_rfl) (by kernel_rfl) (by kernel_rfl) (fun _ _ _ h => h) (Or.inl ⟨by rfl, ?_⟩) hHeld ?_
        rotate_left 1
        focus (intro W hSw; (try dsimp only at hSw); go_simp; (try (with_reducible rfl)))
        (try simp only [Act.put, List.setIfInBounds_toArray, List.set_cons_zero, List.set_cons_succ])
        refine wpAnyH_take (i := 12) (oi := _) (v := ?_) (op_at rfl) (by kernel_rfl) (by kernel_rfl) (by kernel_rfl) (fun _ _ _ h => h) (Or.inl ⟨by rfl, ?_⟩) hHeld ?_
        rotate_left 1
        focus (intro W hSw; (try dsimp only at hSw); go_simp; (try (with_reducible rfl)))
        (try simp only [Act.put, List.setIfInBounds_toArray, List.set_cons_zero, List.set_cons_succ])
        refine wpAnyH_ready (rs := [13]) (by kernel_rfl) (by simp) ?_
        refine AllReadyH.cons (o := _) (op_at rfl) (fun K hK => ?_) AllReadyH.nil
        go_simp
        refine hK.out _ _ k4d (fun hHeld => ?_)
        clear hK K
        (try simp only [Act.put, List.setIfInBounds_toArray, List.set_cons_zero, List.set_cons_succ])
        refine wpAnyH_done (by kernel_rfl) ?_ _
        have hQ6 := hQ4.putted hgrow hown5 hat hlt
        have hT6 := (((hT4.alloc (.cells #[.int .u64 nx] 22)).drew).grown hgrow (fun k e => .inl (.inr (.inr (.inr (.inr e)))))).setCell (p := ⟨x, 5, none⟩) (.inl rfl) (.slice (some ⟨g, 0, none⟩) (ps.length + 1) cap)
        have c4 := hQ6.q.val 4 rfl
        have f4 := hQ6.q.frozen 4
        have hQ7 := hQ6.set (i := 4) (u := .int .u64 (IntKind.u64.wrap (nx + 1))) (hQ6.q.set 4 (.int .u64 (IntKind.u64.wrap (nx + 1))))
        have c2 := hQ7.q.val 2 rfl
        have f2 := hQ7.q.frozen 2
        have hQ8 := hQ7.set (i := 2) (u := .pointer none) (hQ7.q.set 2 (.pointer none))
        have hT8 := (hT6.setCell (p := ⟨x, 4, none⟩) (.inl rfl) (.int .u64 (IntKind.u64.wrap (nx + 1)))).setCell (p := ⟨x, 2, none⟩) (.inl rfl) (.pointer none)
        clear hgrow hown5 hat hlt k5 kf k4c k4d k4a k4b k5a k5b hAl
        go_wp2
        go_end0
        exact ⟨⟨_, rfl⟩, g, cap, hQ8, hT8⟩
    · as_aux_lemma =>
        go_simp
        refine hK.out _ _ k4b (fun hHeld => ?_)
        clear hK K
        (try simp only [Act.put, List.setIfInBounds_toArray, List.set_cons_zero, List.set_cons_succ])
        refine wpAnyH_ready (rs := [4]) (by kernel_rfl) (by simp) ?_
        refine AllReadyH.cons (o := _) (op_at rfl) (fun K hK => ?_) AllReadyH.nil
        go_simp
        refine hK.out _ _ k4b (fun hHeld => ?_)
        clear hK K
        (try simp only [Act.put, List.setIfInBounds_toArray, List.set_cons_zero, List.set_cons_succ])
        refine wpAnyH_ready (rs := [10]) (by kernel_rfl) (by simp) ?_
        refine AllReadyH.cons (o := _) (op_at rfl) (fun K hK => ?_) AllReadyH.nil
        refine step_append_lies _ (by rfl) _ _ _ (by rfl) w0.heap.size 22 i0 _ 1 8 Try.underlying43 Z.out.1 Z.out.2.1 Z.out.2.2.1 Z.out.2.2.2 rfl (by decide) vp ps.length (ps.map (Value.int .u64)) (by rfl) (Quiet.ownsRow ⟨1, rfl⟩ (hQ4.own1.alloc _)) ⟨w4.heap.size, 0, none⟩ 1 1 [.int .u64 nx] (by rfl) (by rfl) (World.news_of_block (cs := #[.int .u64 nx]) (t := 22) (fr := (0, 0)) (heap_alloc_new w4 _)) (by simp [Value.oneCell']) (by decide) (by unfold maxLen; omega) (by omega) (by simp; omega) (w4.heap.size + 1) (by simp) ?_; intro g cap w5 hown5 hgrow hat hlt; have k5 := (hgrow.cell_far ⟨x, 5, none⟩ (hAl.drew).lt (fun e => hne5.out x e.symm rfl)).trans ((hAl.drew).val 5 rfl); have kf := (hgrow.frozen_far ⟨x, 5, none⟩ (hAl.drew).lt (fun e => hne5.out x e.symm rfl)).trans ((hAl.drew).frozen 5); have k4c := (hgrow.cell_far ⟨x, 4, none⟩ (hAl.drew).lt (fun e => hne5.out x e.symm rfl)).trans ((hAl.drew).val 4 rfl); have k4d := (cell_other5 w5 (.slice (some ⟨g, 0, none⟩) (ps.length + 1) cap)).trans k4c
        refine hK.out _ _ k4c (fun hHeld => ?_)
        clear hK K
        (try simp only [Act.put, List.setIfInBounds_toArray, List.set_cons_zero, List.set_cons_succ])
        refine wpAnyH_take (i := 11) (oi := _) (v := ?_) (op_at rfl) (by kernel_rfl) (by kernel_rfl) (by kernel_rfl) (fun _ _ _ h => h) (Or.inl ⟨by rfl, ?_⟩) hHeld ?_
        rotate_left 1
        focus (intro W hSw; (try dsimp only at hSw); go_simp; (try (with_reducible rfl)))
        (try simp only [Act.put, List.setIfInBounds_toArray, List.set_cons_zero, List.set_cons_succ])
        refine wpAnyH_take (i := 12) (oi := _) (v := ?_) (op_at rfl) (by kernel_rfl) (by kernel_rfl) (by kernel_rfl) (fun _ _ _ h => h) (Or.inl ⟨by rfl, ?_⟩) hHeld ?_
        rotate_left 1
        focus (intro W hSw; (try dsimp only at hSw); go_simp; (try (with_reducible rfl)))
        (try simp only [Act.put, List.setIfInBounds_toArray, List.set_cons_zero, List.set_cons_succ])
        refine wpAnyH_ready (rs := [13]) (by kernel_rfl) (by simp) ?_
        refine AllReadyH.cons (o := _) (op_at rfl) (fun K hK => ?_) AllReadyH.nil
        go_simp
        refine hK.out _ _ k4d (fun hHeld => ?_)
        clear hK K
        (try simp only [Act.put, List.setIfInBounds_toArray, List.set_cons_zero, List.set_cons_succ])
        refine wpAnyH_done (by kernel_rfl) ?_ _
        have hQ6 := hQ4.putted hgrow hown5 hat hlt
        have hT6 := (((hT4.alloc (.cells #[.int .u64 nx] 22)).drew).grown hgrow (fun k e => .inl (.inr (.inr (.inr (.inr e)))))).setCell (p := ⟨x, 5, none⟩) (.inl rfl) (.slice (some ⟨g, 0, none⟩) (ps.length + 1) cap)
        have c4 := hQ6.q.val 4 rfl
        have f4 := hQ6.q.frozen 4
        have hQ7 := hQ6.set (i := 4) (u := .int .u64 (IntKind.u64.wrap (nx + 1))) (hQ6.q.set 4 (.int .u64 (IntKind.u64.wrap (nx + 1))))
        have c2 := hQ7.q.val 2 rfl
        have f2 := hQ7.q.frozen 2
        have hQ8 := hQ7.set (i := 2) (u := .pointer none) (hQ7.q.set 2 (.pointer none))
        have hT8 := (hT6.setCell (p := ⟨x, 4, none⟩) (.inl rfl) (.int .u64 (IntKind.u64.wrap (nx + 1)))).setCell (p := ⟨x, 2, none⟩) (.inl rfl) (.pointer none)
        clear hgrow hown5 hat hlt k5 kf k4c k4d k4a k4b k5a k5b hAl
        go_wp2
        go_end0
        exact ⟨⟨_, rfl⟩, g, cap, hQ8, hT8⟩
/-- ahead of the first step of a machine: the queue, and the plan's box -/
structure QN (w0 : World) (B a c p cp x bq : Nat) (pu po : Option Addr) (P T R nx : Int) (vp vt : Value) (ps ts cs : List Int) (n : Nat) (K : List Nat) (wh wh2 : Int) (w : World) : Prop where
  qs : QS w0 B a c p cp x pu po nx vp vt ps ts cs n K wh wh2 w
  box : Blk w bq #[.int .i64 P, .int .i64 T, .int .i64 R] 26
theorem QN.grew {bq : Nat} (h : QN w0 B a c p cp x bq pu po P T R nx vp vt ps ts cs n K wh wh2 w) (hb : Below w.heap.size w w') : QN w0 B a c p cp x bq pu po P T R nx vp vt ps ts cs n K wh wh2 w' := ⟨h.qs.grew hb, h.box.grew hb⟩
theorem QN.cells {bq : Nat} (h : QN w0 B a c p cp x bq pu po P T R nx vp vt ps ts cs n K wh wh2 w) : (w.cell? ⟨bq, 0, none⟩ = some (.int .i64 P) ∧ w.cell? ⟨bq, 1, none⟩ = some (.int .i64 T) ∧ w.cell? ⟨bq, 2, none⟩ = some (.int .i64 R)) ∧ w.cell? ⟨x, 4, none⟩ = some (.int .u64 nx) :=
  ⟨⟨h.box.val 0 rfl, h.box.val 1 rfl, h.box.val 2 rfl⟩, h.qs.q.val 4 rfl⟩
theorem QN.set {bq i : Nat} {u : Value} {pu' po' : Option Addr} (h : QN w0 B a c p cp x bq pu po P T R nx vp vt ps ts cs n K wh wh2 w) (hq : QueueAt (w.setCell ⟨x, i, none⟩ u) x p cp pu' po' nx vp vt) : QN w0 B a c p cp x bq pu' po' P T R nx vp vt ps ts cs n K wh wh2 (w.setCell ⟨x, i, none⟩ u) :=
  ⟨h.qs.set hq, h.box.other _ _ (h.box.ne h.qs.q (by decide))⟩
set_option maxRecDepth 100000 in
set_option maxHeartbeats 4000000 in
/-- the first step of a word more -/
theorem puts_nil (h : QS w0 B a c p cp x none po nx vp vt ps ts cs n K wh wh2 w) (hx : exB P T R 0 = true) (hl : cs.length = cellsN P T R) (hn : n < 1000000) (hnx : nx ≠ 0) :
    Calls Try.prog 21 #[.pointer (some ⟨x, 0, none⟩), .agg #[.int .i64 P, .int .i64 T, .int .i64 R]] w fun e w' => (∃ u, e = .returned u) ∧ ∃ m, QP w0 B a c p cp x m po P T R nx nx (cs.getD (ownN R 0 4) 0) 2 vp vt ps ts cs (n + 1) (m :: K) wh wh2 w' ∧ w.heap.size ≤ m ∧ Touch (PtR B p m x K vp) w w' := by
  have h0 : QN w0 B a c p cp x w.heap.size none po P T R nx vp vt ps ts cs n K wh wh2 (w.alloc (.cells #[.int .i64 P, .int .i64 T, .int .i64 R] 26)) := ⟨h.grew ((Below.refl _ _).alloc (Nat.le_refl _) _), Blk.new _ _ _⟩
  have NP := Lib.hid (fun W => newpush_yes P T R 0 nx W hx hnx)
  have q0 := h0.qs.q.val 2 rfl
  have hT0 : ∀ m, Touch (PtR B p m x K vp) w (w.alloc (.cells #[.int .i64 P, .int .i64 T, .int .i64 R] 26)) := fun m => (Touch.refl _ _).alloc _
  have hT0 := Lib.hid hT0
  have hs0 : w.heap.size ≤ (w.alloc (.cells #[.int .i64 P, .int .i64 T, .int .i64 R] 26)).heap.size := by simp
  have RD := Lib.hid (fun m (h1 : m ≠ p) => (⟨hx, h1, by simp, List.mem_cons_of_mem _ h.hp, hl⟩ : Ready P T R 0 p m cs (m :: K)))
  clear h hx hl hnx
  go_enter Try.func21, Try.ntmps21
  go_wp2_with fail
  generalize w.alloc (.cells #[.int .i64 P, .int .i64 T, .int .i64 R] 26) = w1 at *
  generalize hbq : w.heap.size = bq at *
  have hS := h0.grew (Quiet.below ⟨1, rfl⟩ : Below w1.heap.size w1 w1.drew)
  clear h0 q0
  go_region_held3 (fun W => (W.cell? ⟨bq, 0, none⟩ = some (.int .i64 P) ∧ W.cell? ⟨bq, 1, none⟩ = some (.int .i64 T) ∧ W.cell? ⟨bq, 2, none⟩ = some (.int .i64 R)) ∧ W.cell? ⟨x, 4, none⟩ = some (.int .u64 nx))
    (with_reducible exact QN.cells (by assumption))
    (first | (go_at_call 24; refine (rplan_any P T R _).mono ?_; rintro e w3 ⟨rfl, hb3⟩; have h3 := hS.grew hb3) | (go_at_call 26; refine (NP.out _).mono ?_; rintro e w4 ⟨m, rfl, hM4, hm4, hb4⟩; have h4 := h3.grew hb4; have c4 := h4.qs.q.val 2 rfl; have f4 := h4.qs.q.frozen 2; have h5 := h4.set (i := 2) (u := .pointer (some ⟨m, 0, none⟩)) (pu' := some ⟨m, 0, none⟩) (po' := po) (h4.qs.q.set 2 (.pointer (some ⟨m, 0, none⟩)))))
  have hmx : m ≠ x := hM4.ne h4.qs.q (by decide)
  have hT5 := ((((hT0.out m).drew).trans (Touch.of hb3)).trans (Touch.of hb4)).setCell (p := ⟨x, 2, none⟩) (.inl rfl) (.pointer (some ⟨m, 0, none⟩))
  have hwm : w.heap.size ≤ m := by have := hb3.size; simp at this; omega
  have hA := (h3.qs.add hb4 hm4 hM4.lt).set (i := 2) (u := .pointer (some ⟨m, 0, none⟩)) (pu' := some ⟨m, 0, none⟩) (po' := po) (nx' := nx) (h4.qs.q.set 2 (.pointer (some ⟨m, 0, none⟩)))
  have hMA : PushAt (w4.setCell ⟨x, 2, none⟩ (.pointer (some ⟨m, 0, none⟩))) m P T R 0 nx 0 1 false := Blk.other hM4 _ _ hmx
  generalize World.setCell w4 ⟨x, 2, none⟩ (.pointer (some ⟨m, 0, none⟩)) = w5 at *
  clear h3 h4 hb4 hm4 hM4 c4 f4 hb3 hS h5 NP hT0 hs0
  have hP : QP w0 B a c p cp x m po P T R nx nx 0 1 vp vt ps ts cs n (m :: K) wh wh2 w5 := ⟨hA, hMA, by simp⟩
  have hr := RD.out m (hMA.ne hA.port (by decide))
  have q5 := qcells hA.q
  clear RD
  as_aux_lemma =>
    go_wp2_with fail
    refine (hP.push.grant hr).mono ?_; rintro e w6 ⟨⟨u6, rfl⟩, h6⟩
    have q6 := qcells (hP.qat h6.touch)
    clear q5
    go_wp2_with fail
    have S6 := Lib.hid (fun W (hW : W = w6.drew) => (show PuE w5 B a c p m P T R 0 nx 0 1 false cs n (m :: K) wh true W by subst hW; obtain ⟨xs, h6⟩ := h6; exact ⟨xs, h6.drew⟩))
    have ST := Lib.hid (fun W (hW : PuE w5 B a c p m P T R 0 nx 0 1 false cs n (m :: K) wh true W) => hW.step1 hr hn)
    go_region_held3 (fun W => W.cell? ⟨x, 0, none⟩ = some (.pointer (some ⟨p, 0, none⟩)) ∧ W.cell? ⟨x, 2, none⟩ = some (.pointer (some ⟨m, 0, none⟩)))
      (first | exact ⟨q6.1, q6.2.2.1⟩ | exact ⟨q7.1, q7.2.2.1⟩)
      (first | (go_at_call 40; refine (ST.out _ (S6.out _ rfl)).mono ?_; rintro e w7 ⟨rfl, h7⟩; have q7 := qcells (hP.qat h7.touch)))
    have hQ := hP.after h7
    have hM := h7.mach
    have hT7 := hT5.trans (h7.touch.mono (fun b _ r => ptR_of' r))
    go_wp2
    go_end0
    exact ⟨⟨_, rfl⟩, m, ⟨hQ, hM, by simp⟩, hwm, hT7⟩
end
end Go.Proofs.Ytgcahbgapojimaa
