/- What takes of the queue does, by the state of its machine. Condition: the queue, its arena, its port are there; the ring's plan is right. -/
import Derived.Test.YtgcahbgapojimaaRputs
namespace Go.Proofs.Ytgcahbgapojimaa
open Go.RowKit
section
variable {w0 w w' : World} {B a c p cp x m : Nat} {pu po : Option Addr} {P T R nx v v' tl pn tl' pn' : Int} {vp vt : Value} {ps ts cs cs' : List Int} {n n' : Nat} {K : List Nat} {wh wh2 : Int} {fu : Bool} {who : Int} {t : Int}

theorem PoE.step1 (h : PoE w0 B a c p m P T R t v tl 2 fu cs n K who true w) (hr : Ready P T R t p m cs K) (hn : n < 1000000) :
    Calls Try.prog 42 #[.pointer (some ⟨m, 0, none⟩), .pointer (some ⟨p, 0, none⟩)] w fun e w' => e = .returned (.bool false) ∧ PoE w0 B a c p m P T R t v (cs.getD (ownN R t 3) 0) 1 fu cs (n + 1) K who false w' := by
  obtain ⟨xs, h⟩ := h
  exact (pop_step1 h hr.ex hr.ne hr.hm hr.hp hn hr.len).mono fun _ _ ⟨he, h⟩ => ⟨he, _, h⟩

theorem PoE.step2e (h : PoE w0 B a c p m P T R t v tl 1 fu cs n K who true w) (hr : Ready P T R t p m cs K) (hn : n < 1000000) (hf : (cs.getD (ownN R t 4) 0 == tl) = true) :
    Calls Try.prog 42 #[.pointer (some ⟨m, 0, none⟩), .pointer (some ⟨p, 0, none⟩)] w fun e w' => e = .returned (.bool true) ∧ PoE w0 B a c p m P T R t v tl 0 true cs (n + 1) K who false w' := by
  obtain ⟨xs, h⟩ := h
  exact (pop_step2_empty h hr.ex hr.ne hr.hm hr.hp hn hr.len hf).mono fun _ _ ⟨he, h⟩ => ⟨he, _, h⟩

theorem PoE.step2s (h : PoE w0 B a c p m P T R t v tl 1 fu cs n K who true w) (hr : Ready P T R t p m cs K) (hn : n < 1000000) (hf : (cs.getD (ownN R t 4) 0 == tl) = false) :
    Calls Try.prog 42 #[.pointer (some ⟨m, 0, none⟩), .pointer (some ⟨p, 0, none⟩)] w fun e w' => e = .returned (.bool false) ∧ PoE w0 B a c p m P T R t v tl 5 fu cs (n + 1) K who false w' := by
  obtain ⟨xs, h⟩ := h
  exact (pop_step2_some h hr.ex hr.ne hr.hm hr.hp hn hr.len hf).mono fun _ _ ⟨he, h⟩ => ⟨he, _, h⟩

theorem PoE.step3 (h : PoE w0 B a c p m P T R t v tl 5 fu cs n K who true w) (hr : Ready P T R t p m cs K) (hn : n < 1000000) (hu : U64 tl) :
    Calls Try.prog 42 #[.pointer (some ⟨m, 0, none⟩), .pointer (some ⟨p, 0, none⟩)] w fun e w' => e = .returned (.bool false) ∧ PoE w0 B a c p m P T R t (cs.getD (slotN R t tl) 0) tl 6 fu cs (n + 1) K who false w' := by
  obtain ⟨xs, h⟩ := h
  exact (pop_step3 h hr.ex hr.ne hr.hm hr.hp hn hr.len hu).mono fun _ _ ⟨he, h⟩ => ⟨he, _, h⟩

theorem PoE.step4 (h : PoE w0 B a c p m P T R t v tl 6 fu cs n K who true w) (hr : Ready P T R t p m cs K) (hn : n < 1000000) :
    Calls Try.prog 42 #[.pointer (some ⟨m, 0, none⟩), .pointer (some ⟨p, 0, none⟩)] w fun e w' => e = .returned (.bool true) ∧ PoE w0 B a c p m P T R t v tl 0 fu (cs.set (ownN R t 3) (IntKind.u64.wrap (tl + 1))) (n + 1) K who false w' := by
  obtain ⟨xs, h⟩ := h
  exact (pop_step4 h hr.ex hr.ne hr.hm hr.hp hn hr.len).mono fun _ _ ⟨he, h⟩ => ⟨he, _, h⟩

/-- behind accesses of a machine through the port cp that takes -/
theorem QS.take {cs' : List Int} {n' : Nat} {ms : Array Value} {tm : TypeId} (h : QS w0 B a c p cp x pu po nx vp vt ps ts cs n K wh wh2 w) (hM : Blk w m ms tm) (t1 : 22 ≠ tm) (t2 : 45 ≠ tm) (t3 : 133 ≠ tm) (hmK : m ∈ K)
    (hT : Touch (fun b => b = cp ∨ b = m ∨ (B ≤ b ∧ b ∉ K)) w w') (hY : Ary w' B a c cs' n' K) (hP : PortAt w' cp a wh2 false) : QS w0 B a c p cp x pu po nx vp vt ps ts cs' n' K wh wh2 w' := by
  have hxp := h.xp
  have nR : ∀ g, g ∈ K → g ≠ cp → g ≠ m → ¬ (g = cp ∨ g = m ∨ (B ≤ g ∧ g ∉ K)) := fun g hg h1 h2 r => by
    rcases r with r | r | r
    · exact h1 r
    · exact h2 r
    · exact r.2 hg
  have hc : PortAt w' p a wh false := by
    by_cases e : cp = p
    · have e2 := h.same e
      subst e; subst e2; exact hP
    · exact h.port.touch hT (nR p h.hp (fun e2 => e e2.symm) (h.port.ne hM t3))
  refine ⟨hY, hc, hP, h.q.touch hT (nR x h.hx hxp.2 (h.q.ne hM t2)), own_touch h.own1 hT (fun g e => nR g (h.k1 g e) (own_ne h.own1 e h.cport (by decide)) (own_ne h.own1 e hM t1)), own_touch h.own2 hT (fun g e => nR g (h.k2 g e) (own_ne h.own2 e h.cport (by decide)) (own_ne h.own2 e hM t1)), h.k1, h.k2, h.ne, h.hp, h.hcp, h.hx, h.bel.trans (hT.below h.bel.size fun b r => ?_), h.lo, h.lb⟩
  rcases r with rfl | rfl | r
  · exact h.lo _ h.hcp
  · exact h.lo _ hmK
  · exact Nat.le_trans h.lb r.1

/-- a word more was put into the row of those that were taken -/
theorem QS.taken {o : Obj} {w5 : World} {g cap : Nat} {y : Int} (h : QS w0 B a c p cp x pu po nx vp vt ps ts cs n K wh wh2 w) (hg : (w.alloc o).grownBy w5 vt.ownBlock)
    (hown : w5.ownsRow w0.heap.size 22 1 (.slice (some ⟨g, 0, none⟩) (ts.length + 1) cap) (ts.length + 1) (ts.map (Value.int .u64) ++ [.int .u64 y])) (hat : vt.ownBlock = some g ∨ g = w.heap.size + 1) (hlt : g < w5.heap.size) :
    QS w0 B a c p cp x pu po nx vp (.slice (some ⟨g, 0, none⟩) (ts.length + 1) cap) ps (ts ++ [y]) cs n (g :: K) wh wh2 (w5.setCell ⟨x, 6, none⟩ (.slice (some ⟨g, 0, none⟩) (ts.length + 1) cap)) := by
  have hT1 : Touch (fun b => vt.ownBlock = some b) w (w.alloc o) := (Touch.refl _ w).alloc o
  have hT2 : Touch (fun b => vt.ownBlock = some b) w w5 := hT1.grown hg (fun k e => .inl e)
  have hT3 : Touch (fun b => vt.ownBlock = some b ∨ b = x) w (w5.setCell ⟨x, 6, none⟩ (.slice (some ⟨g, 0, none⟩) (ts.length + 1) cap)) := (hT2.mono fun _ _ e => .inl e).setCell (.inr rfl) _
  have gK : ∀ g', vt.ownBlock = some g' → g' ∈ K := h.k2
  have hs : g ∈ K ∨ (w.heap.size ≤ g) := hat.elim (fun e => .inl (h.k2 g e)) (fun e => .inr (by omega))
  have hlo : w0.heap.size ≤ g := hs.elim (h.lo g) (fun e => Nat.le_trans h.bel.size e)
  have lx := h.q.lt
  have gx : g ≠ x := hat.elim (fun e => own_ne h.own2 e h.q (by decide)) (fun e => by omega)
  have hP : ∀ b, b ∈ K → (∀ g', vt.ownBlock = some g' → g' ≠ b) → b ≠ x → ¬ (vt.ownBlock = some b ∨ b = x) := fun b _ h1 h2 r => r.elim (fun e => h1 b e rfl) h2
  refine ⟨?_, h.port.touch hT3 (hP p h.hp (fun g' e => own_ne h.own2 e h.port (by decide)) (Ne.symm h.xp.1)), h.cport.touch hT3 (hP cp h.hcp (fun g' e => own_ne h.own2 e h.cport (by decide)) (Ne.symm h.xp.2)), ?_, ?_, ?_, fun g' e => List.mem_cons_of_mem _ (h.k1 g' e), fun g' e => ?_, fun g' e e2 => ?_, List.mem_cons_of_mem _ h.hp, List.mem_cons_of_mem _ h.hcp, List.mem_cons_of_mem _ h.hx, h.bel.trans (hT3.below h.bel.size fun b r => ?_), fun b r => ?_, h.lb⟩
  · have hR : ∀ b, (vt.ownBlock = some b ∨ b = x) → b ∈ K := fun b r => r.elim (h.k2 b) (fun e => e ▸ h.hx)
    rcases hat with e | e
    · exact (h.ary.touch hT3 hR).sub (fun b r => (List.mem_cons.1 r).elim (fun e2 => e2 ▸ h.k2 g e) id)
    · have := h.ary.touchs (L := [g]) hT3 hR (fun m r => by
        have e3 := List.mem_singleton.1 r
        subst e3
        exact ⟨by omega, by simpa [World.setCell] using hlt⟩)
      exact this
  · have := (h.q.touch hT2 (fun e => own_ne h.own2 e h.q (by decide) rfl)).set 6 (.slice (some ⟨g, 0, none⟩) (ts.length + 1) cap)
    exact this
  · refine own_touch h.own1 hT3 (fun g' e r => ?_)
    rcases r with r | r
    · exact h.ne g' e r
    · exact own_ne h.own1 e h.q (by decide) r
  · have h5 := own_other (a := ⟨x, 6, none⟩) (u := .slice (some ⟨g, 0, none⟩) (ts.length + 1) cap) hown (by intro e; exact gx (Option.some.inj e))
    rw [List.length_append, List.map_append]
    exact h5
  · have e1 : g = g' := Option.some.inj e
    rw [e1]; exact List.mem_cons_self ..
  · have e1 : g = g' := Option.some.inj e2
    subst e1
    rcases hat with e3 | e3
    · exact h.ne g e e3
    · have := own_lt h.own1 e
      omega
  · rcases r with r | r
    · exact h.lo b (h.k2 b r)
    · exact r ▸ h.lo x h.hx
  · rcases List.mem_cons.1 r with r | r
    · rw [r]; exact hlo
    · exact h.lo b r

/-- the queue with its machine that pops -/
structure QK (w0 : World) (B a c p cp x m : Nat) (pu : Option Addr) (P T R nx v tl pn : Int) (vp vt : Value) (ps ts cs : List Int) (n : Nat) (K : List Nat) (wh wh2 : Int) (w : World) : Prop where
  qs : QS w0 B a c p cp x pu (some ⟨m, 0, none⟩) nx vp vt ps ts cs n K wh wh2 w
  mach : PopAt w m P T R 0 v tl pn false
  hm : m ∈ K
theorem QK.grew (h : QK w0 B a c p cp x m pu P T R nx v tl pn vp vt ps ts cs n K wh wh2 w) (hb : Below w.heap.size w w') : QK w0 B a c p cp x m pu P T R nx v tl pn vp vt ps ts cs n K wh wh2 w' := ⟨h.qs.grew hb, h.mach.grew hb, h.hm⟩
theorem QK.qat (h : QK w0 B a c p cp x m pu P T R nx v tl pn vp vt ps ts cs n K wh wh2 w) (hT : Touch (fun b => b = cp ∨ b = m ∨ (B ≤ b ∧ b ∉ K)) w w') : QueueAt w' x p cp pu (some ⟨m, 0, none⟩) nx vp vt :=
  h.qs.q.touch hT (fun r => by
    rcases r with r | r | r
    · exact h.qs.xp.2 r
    · exact h.qs.q.ne h.mach (by decide) r
    · exact r.2 h.qs.hx)
theorem QK.after {fu' : Bool} (h : QK w0 B a c p cp x m pu P T R nx v tl pn vp vt ps ts cs n K wh wh2 w) (hE : PoE w B a c cp m P T R 0 v' tl' pn' fu' cs' n' K wh2 false w') :
    QS w0 B a c p cp x pu (some ⟨m, 0, none⟩) nx vp vt ps ts cs' n' K wh wh2 w' :=
  h.qs.take h.mach (by decide) (by decide) (by decide) h.hm hE.touch hE.ary hE.port
theorem QK.pop (h : QK w0 B a c p cp x m pu P T R nx v tl pn vp vt ps ts cs n K wh wh2 w) : PoE w B a c cp m P T R 0 v tl pn false cs n K wh2 false w := h.qs.ary.po h.mach h.qs.cport
theorem QK.ready (h : QK w0 B a c p cp x m pu P T R nx v tl pn vp vt ps ts cs n K wh wh2 w) (hx : exB P T R 0 = true) (hl : cs.length = cellsN P T R) : Ready P T R 0 cp m cs K := ⟨hx, h.mach.ne h.qs.cport (by decide), h.hm, h.qs.hcp, hl⟩

set_option maxRecDepth 100000 in
set_option maxHeartbeats 4000000 in
/-- a step that goes on -/
theorem takes_on (P0 T0 R0 : Int) (h : QK w0 B a c p cp x m pu P T R nx v tl pn vp vt ps ts cs n K wh wh2 w) (hx : exB P T R 0 = true) (hl : cs.length = cellsN P T R)
    (hst : ∀ W W0, PoE W0 B a c cp m P T R 0 v tl pn false cs n K wh2 true W → Calls Try.prog 42 #[.pointer (some ⟨m, 0, none⟩), .pointer (some ⟨cp, 0, none⟩)] W fun e w' => e = .returned (.bool false) ∧ PoE W0 B a c cp m P T R 0 v' tl' pn' false cs' n' K wh2 false w') :
    Calls Try.prog 22 #[.pointer (some ⟨x, 0, none⟩), .agg #[.int .i64 P0, .int .i64 T0, .int .i64 R0]] w fun e w' => (∃ u, e = .returned u) ∧ QK w0 B a c p cp x m pu P T R nx v' tl' pn' vp vt ps ts cs' n' K wh wh2 w' ∧ Touch (PtR B cp m x K vt) w w' := by
  have h0 := h.grew ((Below.refl _ _).alloc (Nat.le_refl _) (.cells #[.int .i64 P0, .int .i64 T0, .int .i64 R0] 26))
  have hr := h0.ready hx hl
  have q0 := qcells h0.qs.q
  have hT0 : Touch (PtR B cp m x K vt) w (w.alloc (.cells #[.int .i64 P0, .int .i64 T0, .int .i64 R0] 26)) := (Touch.refl _ _).alloc _
  have ST := Lib.hid hst
  clear hst h hx hl
  go_enter Try.func22, Try.ntmps22
  go_wp2_with fail
  generalize w.alloc (.cells #[.int .i64 P0, .int .i64 T0, .int .i64 R0] 26) = w1 at *
  refine (h0.pop.grant hr).mono ?_; rintro e w2 ⟨⟨u2, rfl⟩, h2⟩
  have hq2 := h0.qat h2.touch
  have q2 := qcells hq2
  clear q0
  go_wp2_with fail
  have S2 := Lib.hid (fun W (hW : W = w2.drew) => (show PoE w1 B a c cp m P T R 0 v tl pn false cs n K wh2 true W by subst hW; obtain ⟨xs, h2⟩ := h2; exact ⟨xs, h2.drew⟩))
  go_region_held3 (fun W => W.cell? ⟨x, 1, none⟩ = some (.pointer (some ⟨cp, 0, none⟩)) ∧ W.cell? ⟨x, 3, none⟩ = some (.pointer (some ⟨m, 0, none⟩)))
    (first | exact ⟨q2.2.1, q2.2.2.2⟩ | exact ⟨q3.2.1, q3.2.2.2⟩)
    (first | (go_at_call 42; refine (ST.out _ _ (S2.out _ rfl)).mono ?_; rintro e w3 ⟨rfl, h3⟩; have q3 := qcells (h0.qat h3.touch)))
  have hQ := h0.after h3
  have hT3 := hT0.trans (h3.touch.mono (fun b _ r => ptR_of r))
  have hM := h3.mach
  go_wp2
  go_end0
  exact ⟨⟨_, rfl⟩, ⟨hQ, hM, h0.hm⟩, hT3⟩

set_option maxRecDepth 100000 in
set_option maxHeartbeats 4000000 in
/-- a step behind which there was nothing -/
theorem takes_empty (P0 T0 R0 : Int) (h : QK w0 B a c p cp x m pu P T R nx v tl pn vp vt ps ts cs n K wh wh2 w) (hx : exB P T R 0 = true) (hl : cs.length = cellsN P T R)
    (hst : ∀ W W0, PoE W0 B a c cp m P T R 0 v tl pn false cs n K wh2 true W → Calls Try.prog 42 #[.pointer (some ⟨m, 0, none⟩), .pointer (some ⟨cp, 0, none⟩)] W fun e w' => e = .returned (.bool true) ∧ PoE W0 B a c cp m P T R 0 0 tl' 0 true cs' n' K wh2 false w') :
    Calls Try.prog 22 #[.pointer (some ⟨x, 0, none⟩), .agg #[.int .i64 P0, .int .i64 T0, .int .i64 R0]] w fun e w' => (∃ u, e = .returned u) ∧ QS w0 B a c p cp x pu none nx vp vt ps ts cs' n' K wh wh2 w' ∧ Touch (PtR B cp m x K vt) w w' := by
  have h0 := h.grew ((Below.refl _ _).alloc (Nat.le_refl _) (.cells #[.int .i64 P0, .int .i64 T0, .int .i64 R0] 26))
  have hr := h0.ready hx hl
  have q0 := qcells h0.qs.q
  have hT0 : Touch (PtR B cp m x K vt) w (w.alloc (.cells #[.int .i64 P0, .int .i64 T0, .int .i64 R0] 26)) := (Touch.refl _ _).alloc _
  have ST := Lib.hid hst
  clear hst h hx hl
  go_enter Try.func22, Try.ntmps22
  go_wp2_with fail
  generalize w.alloc (.cells #[.int .i64 P0, .int .i64 T0, .int .i64 R0] 26) = w1 at *
  refine (h0.pop.grant hr).mono ?_; rintro e w2 ⟨⟨u2, rfl⟩, h2⟩
  have hq2 := h0.qat h2.touch
  have q2 := qcells hq2
  clear q0
  go_wp2_with fail
  have S2 := Lib.hid (fun W (hW : W = w2.drew) => (show PoE w1 B a c cp m P T R 0 v tl pn false cs n K wh2 true W by subst hW; obtain ⟨xs, h2⟩ := h2; exact ⟨xs, h2.drew⟩))
  go_region_held3 (fun W => W.cell? ⟨x, 1, none⟩ = some (.pointer (some ⟨cp, 0, none⟩)) ∧ W.cell? ⟨x, 3, none⟩ = some (.pointer (some ⟨m, 0, none⟩)))
    (first | exact ⟨q2.2.1, q2.2.2.2⟩ | exact ⟨q3.2.1, q3.2.2.2⟩)
    (first | (go_at_call 42; refine (ST.out _ _ (S2.out _ rfl)).mono ?_; rintro e w3 ⟨rfl, h3⟩; have q3 := qcells (h0.qat h3.touch)))
  have hQ := h0.after h3
  have hT3 := hT0.trans (h3.touch.mono (fun b _ r => ptR_of r))
  have hM := h3.mach
  go_wp2_with fail
  refine (empty_pop hM).mono ?_; rintro e w4 ⟨rfl, hq4⟩
  have hQ4 := hQ.quiet hq4
  have hT4 := hT3.trans (Touch.of hq4.below)
  have hM4 := Blk.quiet hM hq4
  have q4 := qcells hQ4.q
  go_wp2_with fail
  refine (value_pop hM4).mono ?_; rintro e w5 ⟨rfl, hq5⟩
  have hQ5 := hQ4.quiet hq5
  have hT6 := (hT4.trans (Touch.of hq5.below)).setCell (p := ⟨x, 3, none⟩) (.inl rfl) (.pointer none)
  have c2 := hQ5.q.val 3 rfl
  have f2 := hQ5.q.frozen 3
  have hQ6 := hQ5.set (i := 3) (u := .pointer none) (hQ5.q.set 3 (.pointer none))
  clear q3 hQ hM h3 hq4 hQ4 hM4 q4
  go_wp2
  go_end0
  exact ⟨⟨_, rfl⟩, hQ6, hT6⟩

theorem cell_other6 (W : World) (v : Value) : (W.setCell ⟨x, 6, none⟩ v).cell? ⟨x, 3, none⟩ = W.cell? ⟨x, 3, none⟩ := World.cell?_setCell_other _ _ _ _ (by simp)

set_option maxRecDepth 100000 in
set_option maxHeartbeats 4000000 in
/-- a step behind which the word was taken -/
theorem takes_over (P0 T0 R0 : Int) (h : QK w0 B a c p cp x m pu P T R nx v tl pn vp vt ps ts cs n K wh wh2 w) (hx : exB P T R 0 = true) (hl : cs.length = cellsN P T R) (hts : ts.length ≤ 1000000)
    (hst : ∀ W W0, PoE W0 B a c cp m P T R 0 v tl pn false cs n K wh2 true W → Calls Try.prog 42 #[.pointer (some ⟨m, 0, none⟩), .pointer (some ⟨cp, 0, none⟩)] W fun e w' => e = .returned (.bool true) ∧ PoE W0 B a c cp m P T R 0 v' tl' 0 false cs' n' K wh2 false w') :
    Calls Try.prog 22 #[.pointer (some ⟨x, 0, none⟩), .agg #[.int .i64 P0, .int .i64 T0, .int .i64 R0]] w fun e w' => (∃ u, e = .returned u) ∧ ∃ g cap, QS w0 B a c p cp x pu none nx vp (.slice (some ⟨g, 0, none⟩) (ts.length + 1) cap) ps (ts ++ [v']) cs' n' (g :: K) wh wh2 w' ∧ Touch (PtR B cp m x K vt) w w' := by
  obtain ⟨i0, hi0, hz0, hz1, hz2⟩ := info_parts info_u64
  have Z := Lib.hid (And.intro hi0 (And.intro hz0 (And.intro hz1 hz2)))
  clear hi0 hz0 hz1 hz2
  have h0 := h.grew ((Below.refl _ _).alloc (Nat.le_refl _) (.cells #[.int .i64 P0, .int .i64 T0, .int .i64 R0] 26))
  have hr := h0.ready hx hl
  have q0 := qcells h0.qs.q
  have hT0 : Touch (PtR B cp m x K vt) w (w.alloc (.cells #[.int .i64 P0, .int .i64 T0, .int .i64 R0] 26)) := (Touch.refl _ _).alloc _
  have ST := Lib.hid hst
  clear hst h hx hl
  go_enter Try.func22, Try.ntmps22
  go_wp2_with fail
  generalize w.alloc (.cells #[.int .i64 P0, .int .i64 T0, .int .i64 R0] 26) = w1 at *
  refine (h0.pop.grant hr).mono ?_; rintro e w2 ⟨⟨u2, rfl⟩, h2⟩
  have hq2 := h0.qat h2.touch
  have q2 := qcells hq2
  clear q0
  go_wp2_with fail
  have S2 := Lib.hid (fun W (hW : W = w2.drew) => (show PoE w1 B a c cp m P T R 0 v tl pn false cs n K wh2 true W by subst hW; obtain ⟨xs, h2⟩ := h2; exact ⟨xs, h2.drew⟩))
  go_region_held3 (fun W => W.cell? ⟨x, 1, none⟩ = some (.pointer (some ⟨cp, 0, none⟩)) ∧ W.cell? ⟨x, 3, none⟩ = some (.pointer (some ⟨m, 0, none⟩)))
    (first | exact ⟨q2.2.1, q2.2.2.2⟩ | exact ⟨q3.2.1, q3.2.2.2⟩)
    (first | (go_at_call 42; refine (ST.out _ _ (S2.out _ rfl)).mono ?_; rintro e w3 ⟨rfl, h3⟩; have q3 := qcells (h0.qat h3.touch)))
  have hQ := h0.after h3
  have hT3 := hT0.trans (h3.touch.mono (fun b _ r => ptR_of r))
  have hM := h3.mach
  go_wp2_with fail
  refine (empty_pop hM).mono ?_; rintro e w4 ⟨rfl, hq4⟩
  have hQ4 := hQ.quiet hq4
  have hT4 := hT3.trans (Touch.of hq4.below)
  have hM4 := Blk.quiet hM hq4
  have k3a : w4.drew.cell? ⟨x, 3, none⟩ = some (.pointer (some ⟨m, 0, none⟩)) := hQ4.q.val 3 rfl
  have l4a : w4.drew.cell? ⟨x, 6, none⟩ = some vt := hQ4.q.val 6 rfl
  have V4 := Lib.hid (fun W (hW : W = w4.drew) => (show Calls Try.prog 45 #[.pointer (some ⟨m, 0, none⟩)] W fun e w' => e = .returned (.int .u64 v') ∧ QS w0 B a c p cp x pu (some ⟨m, 0, none⟩) nx vp vt ps ts cs' n' K wh wh2 w' ∧ Touch (PtR B cp m x K vt) w w' by subst hW; exact (value_pop (Blk.drew hM4)).mono fun _ _ ⟨he, hq⟩ => ⟨he, (hQ4.quiet ⟨1, rfl⟩).quiet hq, (hT4.drew).trans (Touch.of hq.below)⟩))
  clear q3 hQ hM h3 hq4 q2 hq2 h2 h0 hr S2 ST hQ4 hM4
  as_aux_lemma =>
    go_wp2_with fail
    refine wp_region_held_drew (S := (fun W => W.cell? ⟨x, 3, none⟩ = some (.pointer (some ⟨m, 0, none⟩)))) (by kernel_rfl) k3a (fun hHeld => ?_)
    refine wpAnyH_take (i := 0) (oi := _) (v := ?_) (op_at rfl) (by kernel_rfl) (by kernel_rfl) (by kernel_rfl) (fun _ _ _ h => h) (Or.inl ⟨by rfl, ?_⟩) hHeld ?_
    rotate_left 1
    focus (intro W hSw; (try dsimp only at hSw); go_simp; (try (with_reducible rfl)))
    (try simp only [Act.put, List.setIfInBounds_toArray, List.set_cons_zero, List.set_cons_succ])
    refine wpAnyH_take (i := 1) (oi := _) (v := ?_) (op_at rfl) (by kernel_rfl) (by kernel_rfl) (by kernel_rfl) (fun _ _ _ h => h) (Or.inl ⟨by rfl, ?_⟩) hHeld ?_
    rotate_left 1
    focus (intro W hSw; (try dsimp only at hSw); go_simp; (try (with_reducible rfl)))
    (try simp only [Act.put, List.setIfInBounds_toArray, List.set_cons_zero, List.set_cons_succ])
    refine wpAnyH_take (i := 2) (oi := _) (v := ?_) (op_at rfl) (by kernel_rfl) (by kernel_rfl) (by kernel_rfl) (fun _ _ _ h => h) (Or.inl ⟨by rfl, ?_⟩) hHeld ?_
    rotate_left 1
    focus (intro W hSw; (try dsimp only at hSw); go_simp; (try (with_reducible rfl)))
    (try simp only [Act.put, List.setIfInBounds_toArray, List.set_cons_zero, List.set_cons_succ])
    refine wpAnyH_take (i := 3) (oi := _) (v := ?_) (op_at rfl) (by kernel_rfl) (by kernel_rfl) (by kernel_rfl) (fun _ _ _ h => h) (Or.inl ⟨by rfl, ?_⟩) hHeld ?_
    rotate_left 1
    focus (intro W hSw; (try dsimp only at hSw); go_simp; (try (with_reducible rfl)))
    (try simp only [Act.put, List.setIfInBounds_toArray, List.set_cons_zero, List.set_cons_succ])
    refine wpAnyH_take (i := 5) (oi := _) (v := ?_) (op_at rfl) (by kernel_rfl) (by kernel_rfl) (by kernel_rfl) (fun _ _ _ h => h) (Or.inl ⟨by rfl, ?_⟩) hHeld ?_
    rotate_left 1
    focus (intro W hSw; (try dsimp only at hSw); go_simp; (try (with_reducible rfl)))
    (try simp only [Act.put, List.setIfInBounds_toArray, List.set_cons_zero, List.set_cons_succ])
    refine wpAnyH_take (i := 6) (oi := _) (v := ?_) (op_at rfl) (by kernel_rfl) (by kernel_rfl) (by kernel_rfl) (fun _ _ _ h => h) (Or.inl ⟨by rfl, ?_⟩) hHeld ?_
    rotate_left 1
    focus (intro W hSw; (try dsimp only at hSw); go_simp; (try (with_reducible rfl)))
    (try simp only [Act.put, List.setIfInBounds_toArray, List.set_cons_zero, List.set_cons_succ])
    refine wpAnyH_take (i := 7) (oi := _) (v := ?_) (op_at rfl) (by kernel_rfl) (by kernel_rfl) (by kernel_rfl) (fun _ _ _ h => h) (Or.inl ⟨by rfl, ?_⟩) hHeld ?_
    rotate_left 1
    focus (intro W hSw; (try dsimp only at hSw); go_simp; (try (with_reducible rfl)))
    (try simp only [Act.put, List.setIfInBounds_toArray, List.set_cons_zero, List.set_cons_succ])
    refine wpAnyH_take (i := 8) (oi := _) (v := ?_) (op_at rfl) (by kernel_rfl) (by kernel_rfl) (by kernel_rfl) (fun _ _ _ h => h) (Or.inl ⟨by rfl, ?_⟩) hHeld ?_
    rotate_left 1
    focus (intro W hSw; (try dsimp only at hSw); go_simp; (try (with_reducible rfl)))
    (try simp only [Act.put, List.setIfInBounds_toArray, List.set_cons_zero, List.set_cons_succ])
    refine wpAnyH_ready (rs := [4, 9]) (by kernel_rfl) (by simp) ?_
    refine AllReadyH.cons (o := _) (op_at rfl) (fun K hK => ?_) (AllReadyH.cons (o := _) (op_at rfl) (fun K hK => ?_) AllReadyH.nil)
    · as_aux_lemma =>
        go_simp
        refine hK.out _ _ k3a (fun hHeld => ?_)
        clear hK K
        (try simp only [Act.put, List.setIfInBounds_toArray, List.set_cons_zero, List.set_cons_succ])
        refine wpAnyH_ready (rs := [9]) (by kernel_rfl) (by simp) ?_
        refine AllReadyH.cons (o := _) (op_at rfl) (fun K hK => ?_) AllReadyH.nil
        go_simp
        go_at_call 45
        refine (V4.out _ rfl).mono ?_
        rintro e w5 ⟨rfl, hQ5, hT5⟩
        have s5 := hQ5.q.val 3 rfl
        have l5 := hQ5.q.val 6 rfl
        have hne6 := Lib.hid (fun g e => own_ne hQ5.own2 e hQ5.q (by decide) (g := g))
        have lx := hQ5.q.lt
        have hb5 := hQ5.bel.size
        have hAl := hQ5.q.alloc (.cells #[.int .u64 v'] 22)
        have sB := hAl.val 3 rfl
        have lB := hAl.val 6 rfl
        go_wp2_with fail
        refine hK.out _ _ s5 (fun hHeld => ?_)
        clear hK K
        (try simp only [Act.put, List.setIfInBounds_toArray, List.set_cons_zero, List.set_cons_succ])
        refine wpAnyH_ready (rs := [10]) (by kernel_rfl) (by simp) ?_
        refine AllReadyH.cons (o := _) (op_at rfl) (fun K hK => ?_) AllReadyH.nil
        go_simp
        refine hK.out _ _ sB (fun hHeld => ?_)
        clear hK K
        (try simp only [Act.put, List.setIfInBounds_toArray, List.set_cons_zero, List.set_cons_succ])
        refine wpAnyH_ready (rs := [11]) (by kernel_rfl) (by simp) ?_
        refine AllReadyH.cons (o := _) (op_at rfl) (fun K hK => ?_) AllReadyH.nil
        refine step_append_lies _ (by rfl) _ _ _ (by rfl) w0.heap.size 22 i0 _ 1 8 Try.underlying43 Z.out.1 Z.out.2.1 Z.out.2.2.1 Z.out.2.2.2 rfl (by decide) vt ts.length (ts.map (Value.int .u64)) (by rfl) (hQ5.own2.alloc _) ⟨w5.heap.size, 0, none⟩ 1 1 [.int .u64 v'] (by rfl) (by rfl) (World.news_of_block (cs := #[.int .u64 v']) (t := 22) (fr := (0, 0)) (heap_alloc_new w5 _)) (by simp [Value.oneCell']) (by decide) (by unfold maxLen; omega) (by omega) (by simp; omega) (w5.heap.size + 1) (by simp) ?_; intro g cap w6 hown6 hgrow hat hlt; have k6 := (hgrow.cell_far ⟨x, 6, none⟩ (hAl).lt (fun e => hne6.out x e.symm rfl)).trans ((hAl).val 6 rfl); have kf := (hgrow.frozen_far ⟨x, 6, none⟩ (hAl).lt (fun e => hne6.out x e.symm rfl)).trans ((hAl).frozen 6); have k3c := (hgrow.cell_far ⟨x, 3, none⟩ (hAl).lt (fun e => hne6.out x e.symm rfl)).trans ((hAl).val 3 rfl); have k3d := (cell_other6 w6 (.slice (some ⟨g, 0, none⟩) (ts.length + 1) cap)).trans k3c
        refine hK.out _ _ k3c (fun hHeld => ?_)
        clear hK K
        (try simp only [Act.put, List.setIfInBounds_toArray, List.set_cons_zero, List.set_cons_succ])
        refine wpAnyH_take (i := 12) (oi := _) (v := ?_) (op_at rfl) (by kernel_rfl) (by kernel_rfl) (by kernel_rfl) (fun _ _ _ h => h) (Or.inl ⟨by rfl, ?_⟩) hHeld ?_
        rotate_left 1
        focus (intro W hSw; (try dsimp only at hSw); go_simp; (try (with_reducible rfl)))
        (try simp only [Act.put, List.setIfInBounds_toArray, List.set_cons_zero, List.set_cons_succ])
        refine wpAnyH_take (i := 13) (oi := _) (v := ?_) (op_at rfl) (by kernel_rfl) (by kernel_rfl) (by kernel_rfl) (fun _ _ _ h => h) (Or.inl ⟨by rfl, ?_⟩) hHeld ?_
        rotate_left 1
        focus (intro W hSw; (try dsimp only at hSw); go_simp; (try (with_reducible rfl)))
        (try simp only [Act.put, List.setIfInBounds_toArray, List.set_cons_zero, List.set_cons_succ])
        refine wpAnyH_ready (rs := [14]) (by kernel_rfl) (by simp) ?_
        refine AllReadyH.cons (o := _) (op_at rfl) (fun K hK => ?_) AllReadyH.nil
        go_simp
        refine hK.out _ _ k3d (fun hHeld => ?_)
        clear hK K
        (try simp only [Act.put, List.setIfInBounds_toArray, List.set_cons_zero, List.set_cons_succ])
        refine wpAnyH_done (by kernel_rfl) ?_ _
        have hQ7 := hQ5.taken hgrow hown6 hat hlt
        have hT7 := ((hT5.alloc (.cells #[.int .u64 v'] 22)).grown hgrow (fun k e => .inl (.inr (.inr (.inr (.inr e)))))).setCell (p := ⟨x, 6, none⟩) (.inl rfl) (.slice (some ⟨g, 0, none⟩) (ts.length + 1) cap)
        have hT8 := hT7.setCell (p := ⟨x, 3, none⟩) (.inl rfl) (.pointer none)
        have c2 := hQ7.q.val 3 rfl
        have f2 := hQ7.q.frozen 3
        have hQ8 := hQ7.set (i := 3) (u := .pointer none) (hQ7.q.set 3 (.pointer none))
        clear hgrow hown6 hat hlt k6 kf k3c k3d hAl sB lB s5 l5
        go_wp2
        go_end0
        exact ⟨⟨_, rfl⟩, g, cap, hQ8, hT8⟩
    · as_aux_lemma =>
        go_simp
        go_at_call 45
        refine (V4.out _ rfl).mono ?_
        rintro e w5 ⟨rfl, hQ5, hT5⟩
        have s5 := hQ5.q.val 3 rfl
        have l5 := hQ5.q.val 6 rfl
        have hne6 := Lib.hid (fun g e => own_ne hQ5.own2 e hQ5.q (by decide) (g := g))
        have lx := hQ5.q.lt
        have hb5 := hQ5.bel.size
        have hAl := hQ5.q.alloc (.cells #[.int .u64 v'] 22)
        have sB := hAl.val 3 rfl
        have lB := hAl.val 6 rfl
        go_wp2_with fail
        refine hK.out _ _ s5 (fun hHeld => ?_)
        clear hK K
        (try simp only [Act.put, List.setIfInBounds_toArray, List.set_cons_zero, List.set_cons_succ])
        refine wpAnyH_ready (rs := [4, 10]) (by kernel_rfl) (by simp) ?_
        refine AllReadyH.cons (o := _) (op_at rfl) (fun K hK => ?_) (AllReadyH.cons (o := _) (op_at rfl) (fun K hK => ?_) AllReadyH.nil)
        · as_aux_lemma =>
            go_simp
            refine hK.out _ _ s5 (fun hHeld => ?_)
            clear hK K
            (try simp only [Act.put, List.setIfInBounds_toArray, List.set_cons_zero, List.set_cons_succ])
            refine wpAnyH_ready (rs := [10]) (by kernel_rfl) (by simp) ?_
            refine AllReadyH.cons (o := _) (op_at rfl) (fun K hK => ?_) AllReadyH.nil
            go_simp
            refine hK.out _ _ sB (fun hHeld => ?_)
            clear hK K
            (try simp only [Act.put, List.setIfInBounds_toArray, List.set_cons_zero, List.set_cons_succ])
            refine wpAnyH_ready (rs := [11]) (by kernel_rfl) (by simp) ?_
            refine AllReadyH.cons (o := _) (op_at rfl) (fun K hK => ?_) AllReadyH.nil
            refine step_append_lies _ (by rfl) _ _ _ (by rfl) w0.heap.size 22 i0 _ 1 8 Try.underlying43 Z.out.1 Z.out.2.1 Z.out.2.2.1 Z.out.2.2.2 rfl (by decide) vt ts.length (ts.map (Value.int .u64)) (by rfl) (hQ5.own2.alloc _) ⟨w5.heap.size, 0, none⟩ 1 1 [.int .u64 v'] (by rfl) (by rfl) (World.news_of_block (cs := #[.int .u64 v']) (t := 22) (fr := (0, 0)) (heap_alloc_new w5 _)) (by simp [Value.oneCell']) (by decide) (by unfold maxLen; omega) (by omega) (by simp; omega) (w5.heap.size + 1) (by simp) ?_; intro g cap w6 hown6 hgrow hat hlt; have k6 := (hgrow.cell_far ⟨x, 6, none⟩ (hAl).lt (fun e => hne6.out x e.symm rfl)).trans ((hAl).val 6 rfl); have kf := (hgrow.frozen_far ⟨x, 6, none⟩ (hAl).lt (fun e => hne6.out x e.symm rfl)).trans ((hAl).frozen 6); have k3c := (hgrow.cell_far ⟨x, 3, none⟩ (hAl).lt (fun e => hne6.out x e.symm rfl)).trans ((hAl).val 3 rfl); have k3d := (cell_other6 w6 (.slice (some ⟨g, 0, none⟩) (ts.length + 1) cap)).trans k3c
            refine hK.out _ _ k3c (fun hHeld => ?_)
            clear hK K
            (try simp only [Act.put, List.setIfInBounds_toArray, List.set_cons_zero, List.set_cons_succ])
            refine wpAnyH_take (i := 12) (oi := _) (v := ?_) (op_at rfl) (by kernel_rfl) (by kernel_rfl) (by kernel_rfl) (fun _ _ _ h => h) (Or.inl ⟨by rfl, ?_⟩) hHeld ?_
            rotate_left 1
            focus (intro W hSw; (try dsimp only at hSw); go_simp; (try (with_reducible rfl)))
            (try simp only [Act.put, List.setIfInBounds_toArray, List.set_cons_zero, List.set_cons_succ])
            refine wpAnyH_take (i := 13) (oi := _) (v := ?_) (op_at rfl) (by kernel_rfl) (by kernel_rfl) (by kernel_rfl) (fun _ _ _ h => h) (Or.inl ⟨by rfl, ?_⟩) hHeld ?_
            rotate_left 1
            focus (intro W hSw; (try dsimp only at hSw); go_simp; (try (with_reducible rfl)))
            (try simp only [Act.put, List.setIfInBounds_toArray, List.set_cons_zero, List.set_cons_succ])
            refine wpAnyH_ready (rs := [14]) (by kernel_rfl) (by simp) ?_
            refine AllReadyH.cons (o := _) (op_at rfl) (fun K hK => ?_) AllReadyH.nil
            go_simp
            refine hK.out _ _ k3d (fun hHeld => ?_)
            clear hK K
            (try simp only [Act.put, List.setIfInBounds_toArray, List.set_cons_zero, List.set_cons_succ])
            refine wpAnyH_done (by kernel_rfl) ?_ _
            have hQ7 := hQ5.taken hgrow hown6 hat hlt
            have hT7 := ((hT5.alloc (.cells #[.int .u64 v'] 22)).grown hgrow (fun k e => .inl (.inr (.inr (.inr (.inr e)))))).setCell (p := ⟨x, 6, none⟩) (.inl rfl) (.slice (some ⟨g, 0, none⟩) (ts.length + 1) cap)
            have hT8 := hT7.setCell (p := ⟨x, 3, none⟩) (.inl rfl) (.pointer none)
            have c2 := hQ7.q.val 3 rfl
            have f2 := hQ7.q.frozen 3
            have hQ8 := hQ7.set (i := 3) (u := .pointer none) (hQ7.q.set 3 (.pointer none))
            clear hgrow hown6 hat hlt k6 kf k3c k3d hAl sB lB s5 l5
            go_wp2
            go_end0
            exact ⟨⟨_, rfl⟩, g, cap, hQ8, hT8⟩
        · as_aux_lemma =>
            go_simp
            refine hK.out _ _ sB (fun hHeld => ?_)
            clear hK K
            (try simp only [Act.put, List.setIfInBounds_toArray, List.set_cons_zero, List.set_cons_succ])
            refine wpAnyH_ready (rs := [4]) (by kernel_rfl) (by simp) ?_
            refine AllReadyH.cons (o := _) (op_at rfl) (fun K hK => ?_) AllReadyH.nil
            go_simp
            refine hK.out _ _ sB (fun hHeld => ?_)
            clear hK K
            (try simp only [Act.put, List.setIfInBounds_toArray, List.set_cons_zero, List.set_cons_succ])
            refine wpAnyH_ready (rs := [11]) (by kernel_rfl) (by simp) ?_
            refine AllReadyH.cons (o := _) (op_at rfl) (fun K hK => ?_) AllReadyH.nil
            refine step_append_lies _ (by rfl) _ _ _ (by rfl) w0.heap.size 22 i0 _ 1 8 Try.underlying43 Z.out.1 Z.out.2.1 Z.out.2.2.1 Z.out.2.2.2 rfl (by decide) vt ts.length (ts.map (Value.int .u64)) (by rfl) (hQ5.own2.alloc _) ⟨w5.heap.size, 0, none⟩ 1 1 [.int .u64 v'] (by rfl) (by rfl) (World.news_of_block (cs := #[.int .u64 v']) (t := 22) (fr := (0, 0)) (heap_alloc_new w5 _)) (by simp [Value.oneCell']) (by decide) (by unfold maxLen; omega) (by omega) (by simp; omega) (w5.heap.size + 1) (by simp) ?_; intro g cap w6 hown6 hgrow hat hlt; have k6 := (hgrow.cell_far ⟨x, 6, none⟩ (hAl).lt (fun e => hne6.out x e.symm rfl)).trans ((hAl).val 6 rfl); have kf := (hgrow.frozen_far ⟨x, 6, none⟩ (hAl).lt (fun e => hne6.out x e.symm rfl)).trans ((hAl).frozen 6); have k3c := (hgrow.cell_far ⟨x, 3, none⟩ (hAl).lt (fun e => hne6.out x e.symm rfl)).trans ((hAl).val 3 rfl); have k3d := (cell_other6 w6 (.slice (some ⟨g, 0, none⟩) (ts.length + 1) cap)).trans k3c
            refine hK.out _ _ k3c (fun hHeld => ?_)
            clear hK K
            (try simp only [Act.put, List.setIfInBounds_toArray, List.set_cons_zero, List.set_cons_succ])
            refine wpAnyH_take (i := 12) (oi := _) (v := ?_) (op_at rfl) (by kernel_rfl) (by kernel_rfl) (by kernel_rfl) (fun _ _ _ h => h) (Or.inl ⟨by rfl, ?_⟩) hHeld ?_
            rotate_left 1
            focus (intro W hSw; (try dsimp only at hSw); go_simp; (try (with_reducible rfl)))
            (try simp only [Act.put, List.setIfInBounds_toArray, List.set_cons_zero, List.set_cons_succ])
            refine wpAnyH_take (i := 13) (oi := _) (v := ?_) (op_at rfl) (by kernel_rfl) (by kernel_rfl) (by kernel_rfl) (fun _ _ _ h => h) (Or.inl ⟨by rfl, ?_⟩) hHeld ?_
            rotate_left 1
            focus (intro W hSw; (try dsimp only at hSw); go_simp; (try (with_reducible rfl)))
            (try simp only [Act.put, List.setIfInBounds_toArray, List.set_cons_zero, List.set_cons_succ])
            refine wpAnyH_ready (rs := [14]) (by kernel_rfl) (by simp) ?_
            refine AllReadyH.cons (o := _) (op_at rfl) (fun K hK => ?_) AllReadyH.nil
            go_simp
            refine hK.out _ _ k3d (fun hHeld => ?_)
            clear hK K
            (try simp only [Act.put, List.setIfInBounds_toArray, List.set_cons_zero, List.set_cons_succ])
            refine wpAnyH_done (by kernel_rfl) ?_ _
            have hQ7 := hQ5.taken hgrow hown6 hat hlt
            have hT7 := ((hT5.alloc (.cells #[.int .u64 v'] 22)).grown hgrow (fun k e => .inl (.inr (.inr (.inr (.inr e)))))).setCell (p := ⟨x, 6, none⟩) (.inl rfl) (.slice (some ⟨g, 0, none⟩) (ts.length + 1) cap)
            have hT8 := hT7.setCell (p := ⟨x, 3, none⟩) (.inl rfl) (.pointer none)
            have c2 := hQ7.q.val 3 rfl
            have f2 := hQ7.q.frozen 3
            have hQ8 := hQ7.set (i := 3) (u := .pointer none) (hQ7.q.set 3 (.pointer none))
            clear hgrow hown6 hat hlt k6 kf k3c k3d hAl sB lB s5 l5
            go_wp2
            go_end0
            exact ⟨⟨_, rfl⟩, g, cap, hQ8, hT8⟩

set_option maxRecDepth 100000 in
set_option maxHeartbeats 4000000 in
/-- the first step of a machine that takes -/
theorem takes_nil (h : QS w0 B a c p cp x pu none nx vp vt ps ts cs n K wh wh2 w) (hx : exB P T R 0 = true) (hl : cs.length = cellsN P T R) (hn : n < 1000000) :
    Calls Try.prog 22 #[.pointer (some ⟨x, 0, none⟩), .agg #[.int .i64 P, .int .i64 T, .int .i64 R]] w fun e w' => (∃ u, e = .returned u) ∧ ∃ m, QK w0 B a c p cp x m pu P T R nx 0 (cs.getD (ownN R 0 3) 0) 1 vp vt ps ts cs (n + 1) (m :: K) wh wh2 w' ∧ w.heap.size ≤ m ∧ Touch (PtR B cp m x K vt) w w' := by
  have h0 : QN w0 B a c p cp x w.heap.size pu none P T R nx vp vt ps ts cs n K wh wh2 (w.alloc (.cells #[.int .i64 P, .int .i64 T, .int .i64 R] 26)) := ⟨h.grew ((Below.refl _ _).alloc (Nat.le_refl _) _), Blk.new _ _ _⟩
  have NO := Lib.hid (fun W => newpop_yes P T R 0 W hx)
  have q0 := h0.qs.q.val 3 rfl
  have hT0 : ∀ m, Touch (PtR B cp m x K vt) w (w.alloc (.cells #[.int .i64 P, .int .i64 T, .int .i64 R] 26)) := fun m => (Touch.refl _ _).alloc _
  have hT0 := Lib.hid hT0
  have hs0 : w.heap.size ≤ (w.alloc (.cells #[.int .i64 P, .int .i64 T, .int .i64 R] 26)).heap.size := by simp
  have RD := Lib.hid (fun m (h1 : m ≠ cp) => (⟨hx, h1, by simp, List.mem_cons_of_mem _ h.hcp, hl⟩ : Ready P T R 0 cp m cs (m :: K)))
  clear h hx hl
  have pc := h0.cells.1
  go_enter Try.func22, Try.ntmps22
  go_wp2_with fail
  generalize w.alloc (.cells #[.int .i64 P, .int .i64 T, .int .i64 R] 26) = w1 at *
  generalize hbq : w.heap.size = bq at *
  have hS := h0
  clear h0
  go_wp2_with fail
  refine (rplan_any P T R _).mono ?_; rintro e w3 ⟨rfl, hb3⟩
  have h3 := hS.grew hb3
  go_wp2_with fail
  refine (NO.out _).mono ?_; rintro e w4 ⟨m, rfl, hM4, hm4, hb4⟩
  have h4 := h3.grew hb4
  have c4 := h4.qs.q.val 3 rfl
  have f4 := h4.qs.q.frozen 3
  have hmx : m ≠ x := hM4.ne h4.qs.q (by decide)
  have hT5 := ((((hT0.out m)).trans (Touch.of hb3)).trans (Touch.of hb4)).setCell (p := ⟨x, 3, none⟩) (.inl rfl) (.pointer (some ⟨m, 0, none⟩))
  have hwm : w.heap.size ≤ m := by have := hb3.size; omega
  have hA := (h3.qs.add hb4 hm4 hM4.lt).set (i := 3) (u := .pointer (some ⟨m, 0, none⟩)) (pu' := pu) (po' := some ⟨m, 0, none⟩) (nx' := nx) (h4.qs.q.set 3 (.pointer (some ⟨m, 0, none⟩)))
  have hMA : PopAt (w4.setCell ⟨x, 3, none⟩ (.pointer (some ⟨m, 0, none⟩))) m P T R 0 0 0 2 false := Blk.other hM4 _ _ hmx
  have qA := qcells hA.q
  clear h3 h4 hb4 hm4 hM4 hb3 hS NO hT0 hs0
  have hP : QK w0 B a c p cp x m pu P T R nx 0 0 2 vp vt ps ts cs n (m :: K) wh wh2 (w4.setCell ⟨x, 3, none⟩ (.pointer (some ⟨m, 0, none⟩))) := ⟨hA, hMA, by simp⟩
  have hr := RD.out m (hMA.ne hA.cport (by decide))
  clear RD hMA hA hmx
  as_aux_lemma =>
    go_wp2_with fail
    generalize World.setCell w4 ⟨x, 3, none⟩ (.pointer (some ⟨m, 0, none⟩)) = w5 at *
    refine (hP.pop.grant hr).mono ?_; rintro e w6 ⟨⟨u6, rfl⟩, h6⟩
    have q6 := qcells (hP.qat h6.touch)
    clear qA c4 f4
    go_wp2_with fail
    have S6 := Lib.hid (fun W (hW : W = w6.drew) => (show PoE w5 B a c cp m P T R 0 0 0 2 false cs n (m :: K) wh2 true W by subst hW; obtain ⟨xs, h6⟩ := h6; exact ⟨xs, h6.drew⟩))
    have ST := Lib.hid (fun W (hW : PoE w5 B a c cp m P T R 0 0 0 2 false cs n (m :: K) wh2 true W) => hW.step1 hr hn)
    go_region_held3 (fun W => W.cell? ⟨x, 1, none⟩ = some (.pointer (some ⟨cp, 0, none⟩)) ∧ W.cell? ⟨x, 3, none⟩ = some (.pointer (some ⟨m, 0, none⟩)))
      (first | exact ⟨q6.2.1, q6.2.2.2⟩ | exact ⟨q7.2.1, q7.2.2.2⟩)
      (first | (go_at_call 42; refine (ST.out _ (S6.out _ rfl)).mono ?_; rintro e w7 ⟨rfl, h7⟩; have q7 := qcells (hP.qat h7.touch)))
    have hQ := hP.after h7
    have hM := h7.mach
    have hT7 := hT5.trans (h7.touch.mono (fun b _ r => ptR_of' r))
    go_wp2
    go_end0
    exact ⟨⟨_, rfl⟩, m, ⟨hQ, hM, by simp⟩, hwm, hT7⟩

end
end Go.Proofs.Ytgcahbgapojimaa
