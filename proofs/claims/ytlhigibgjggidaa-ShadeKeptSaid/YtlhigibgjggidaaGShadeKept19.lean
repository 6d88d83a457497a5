/- Texts of this seat, one behind the other: each says at its head what it holds. No condition of its own. -/
import Derived.Test.YtlhigibgjggidaaGB12
import Derived.Test.YtlhigibgjggidaaGShadeKept18
/- ShadeKept: the boxes and the lists beside the machines; a pop; what a machine holds. Condition: the blocks lie apart. -/
namespace Go.Proofs.Ytlhigibgjggidaa
open Go.RowKit
set_option linter.unusedVariables false
def rowL (lp : Nat → Option Addr) (T : Nat) : Array Value := ((List.range T).map fun t => Value.pointer (lp t)).toArray
def rowR (rr : Nat → Int) (T : Nat) : Array Value := ((List.range T).map fun t => Value.int .u64 (rr t)).toArray
def rowI64 (l : List Int) : Array Value := (l.map (Value.int .i64)).toArray
structure KS (w : World) (B a c p qb db lb sb tb rb : Nat) (P : Int) (T : Nat) (R : Int) (o : Bool) (D : KD) (W : World) : Prop where
  k : KC B a c p P (T : Int) R o D W
  qB : Blk W qb #[.int .i64 P, .int .i64 (T : Int), .int .i64 R] 23
  dB : Blk W db #[.int .i64 P, .int .i64 (T : Int), .int .i64 R, .int .i64 (baseI P (T : Int) R), .int .i64 (tabI (T : Int) R), .int .i64 (baseI P (T : Int) R + 64 * P)] 38
  lB : Blk W lb (rowL D.lp T) 45
  sB : Blk W sb (rowI64 D.sn) 3
  tB : Blk W tb (rowI64 D.tk) 3
  rB : Blk W rb (rowR D.rr T) 41
  fx : ∀ b, (b = db ∨ b = lb ∨ b = sb ∨ b = tb ∨ b = rb) → b ∈ D.K ∧ b ≠ p ∧ ∀ t : Nat, (t : Int) < (T : Int) → D.st t ≤ 8 → ¬ D.own t b
  od : qb < B ∧ B ≤ p ∧ p < db ∧ db < lb ∧ lb < sb ∧ sb < tb ∧ tb < rb
  lw : w.heap.size ≤ qb
  bel : Below w.heap.size w W
  sl : D.sn.length = cellsN P (T : Int) R ∧ D.tk.length = cellsN P (T : Int) R
theorem rowL_get {lp : Nat → Option Addr} {T t : Nat} (h : t < T) : (rowL lp T)[t]? = some (.pointer (lp t)) := by unfold rowL; simp [h]
theorem rowR_get {rr : Nat → Int} {T t : Nat} (h : t < T) : (rowR rr T)[t]? = some (.int .u64 (rr t)) := by unfold rowR; simp [h]
theorem rowI64_get {l : List Int} {i : Nat} (h : i < l.length) : (rowI64 l)[i]? = some (.int .i64 (l.getD i 0)) := by unfold rowI64; simp [List.getD_eq_getElem?_getD, h]
theorem rowI64_set (l : List Int) (i : Nat) (x : Int) : rowI64 (l.set i x) = (rowI64 l).setIfInBounds i (.int .i64 x) := by unfold rowI64; simp [List.map_set]
theorem rowR_set (rr : Nat → Int) (T t : Nat) (x : Int) : rowR (updI rr t x) T = (rowR rr T).setIfInBounds t (.int .u64 x) := by
  unfold rowR
  apply Array.ext_getElem?
  intro i
  rw [Array.getElem?_setIfInBounds]
  by_cases hi : i < T
  · by_cases e : t = i
    · subst e; simp [hi, updI_eq]
    · have e2 : i ≠ t := fun r => e r.symm
      simp [hi, e, updI_ne e2]
  · by_cases e : t = i
    · subst e; simp [hi]
    · simp [hi, e]
def updO (f : Nat → Option Addr) (k : Nat) (x : Option Addr) : Nat → Option Addr := fun j => if j = k then x else f j
theorem updO_eq (f : Nat → Option Addr) (k : Nat) (x : Option Addr) : updO f k x k = x := if_pos rfl
theorem updO_ne {f : Nat → Option Addr} {k j : Nat} {x : Option Addr} (h : j ≠ k) : updO f k x j = f j := if_neg h
theorem rowL_set (lp : Nat → Option Addr) (T t : Nat) (x : Option Addr) : rowL (updO lp t x) T = (rowL lp T).setIfInBounds t (.pointer x) := by
  unfold rowL
  apply Array.ext_getElem?
  intro i
  rw [Array.getElem?_setIfInBounds]
  by_cases hi : i < T
  · by_cases e : t = i
    · subst e; simp [hi, updO_eq]
    · have e2 : i ≠ t := fun r => e r.symm
      simp [hi, e, updO_ne e2]
  · by_cases e : t = i
    · subst e; simp [hi]
    · simp [hi, e]
section
variable {w W W' : World} {B a c p qb db lb sb tb rb : Nat} {P : Int} {T : Nat} {R : Int} {o : Bool} {D : KD}
theorem KS.grew (h : KS w B a c p qb db lb sb tb rb P T R o D W) (hb : Below W.heap.size W W') : KS w B a c p qb db lb sb tb rb P T R o D W' :=
  ⟨h.k.grew hb, Blk.grew h.qB hb, Blk.grew h.dB hb, Blk.grew h.lB hb, Blk.grew h.sB hb, Blk.grew h.tB hb, Blk.grew h.rB hb, h.fx, h.od, h.lw, h.bel.trans (hb.mono h.bel.size), h.sl⟩
theorem KS.quiet (h : KS w B a c p qb db lb sb tb rb P T R o D W) (hq : Quiet W W') : KS w B a c p qb db lb sb tb rb P T R o D W' := h.grew hq.below
theorem KS.drew (h : KS w B a c p qb db lb sb tb rb P T R o D W) : KS w B a c p qb db lb sb tb rb P T R o D W.drew := h.quiet ⟨1, rfl⟩
/-- what leaves the boxes and the lists as they were -/
theorem KS.moved {X : Nat → Prop} {o' : Bool} {D' : KD} (h : KS w B a c p qb db lb sb tb rb P T R o D W) (hk : KC B a c p P (T : Int) R o' D' W') (hT : Touch X W W')
    (hX : ∀ b, X b → b ≠ qb ∧ b ≠ db ∧ b ≠ lb ∧ b ≠ sb ∧ b ≠ tb ∧ b ≠ rb ∧ w.heap.size ≤ b) (h1 : D'.lp = D.lp) (h2 : D'.rr = D.rr) (h3 : D'.sn = D.sn) (h4 : D'.tk = D.tk)
    (hf : ∀ b, (b = db ∨ b = lb ∨ b = sb ∨ b = tb ∨ b = rb) → b ∈ D'.K ∧ b ≠ p ∧ ∀ t : Nat, (t : Int) < (T : Int) → D'.st t ≤ 8 → ¬ D'.own t b) : KS w B a c p qb db lb sb tb rb P T R o' D' W' :=
  ⟨hk, Blk.touch h.qB hT (fun r => (hX _ r).1 rfl), Blk.touch h.dB hT (fun r => (hX _ r).2.1 rfl), by rw [h1]; exact Blk.touch h.lB hT (fun r => (hX _ r).2.2.1 rfl), by rw [h3]; exact Blk.touch h.sB hT (fun r => (hX _ r).2.2.2.1 rfl), by rw [h4]; exact Blk.touch h.tB hT (fun r => (hX _ r).2.2.2.2.1 rfl), by rw [h2]; exact Blk.touch h.rB hT (fun r => (hX _ r).2.2.2.2.2.1 rfl), hf, h.od, h.lw, h.bel.trans (hT.below h.bel.size (fun b e => (hX b e).2.2.2.2.2.2)), by rw [h3, h4]; exact h.sl⟩
theorem KS.grant (h : KS w B a c p qb db lb sb tb rb P T R o D W) :
    Calls Try.prog 24 #[.pointer (some ⟨p, 0, none⟩)] W fun e W' => (∃ v, e = .returned v) ∧ KS w B a c p qb db lb sb tb rb P T R true D W' := by
  have od := h.od
  have lw := h.lw
  exact h.k.grant.mono fun e W' ⟨he, hk, hT⟩ => ⟨he, h.moved hk hT (fun b e => by omega) rfl rfl rfl rfl h.fx⟩
/-- a step of a machine that is at work -/
def SStep (w : World) (B a c p qb db lb sb tb rb : Nat) (P : Int) (T : Nat) (R : Int) (D : KD) (t : Nat) (e : Ending) (W' : World) : Prop :=
  ∃ (s' : Nat) (D' : KD) (o' : Bool), e = .returned (.bool (kNx s' == 0)) ∧ s' ≤ 8 ∧ D'.st = updS D.st t s' ∧ D.Same D' ∧ D'.n ≤ D.n + 1 ∧ D'.Sn = (if kMf s' then addS D.Sn (D.rf t) else D.Sn) ∧ KS w B a c p qb db lb sb tb rb P T R o' D' W'
theorem KS.step (h : KS w B a c p qb db lb sb tb rb P T R true D W) {t : Nat} (ht : (t : Int) < (T : Int)) (hs : D.st t = 0 ∨ kHe (D.st t)) (hn : D.n < 999990) :
    Calls Try.prog 25 #[.pointer (some ⟨D.bs t, 0, none⟩), .pointer (some ⟨p, 0, none⟩)] W fun e W' => SStep w B a c p qb db lb sb tb rb P T R D t e W' := by
  have od := h.od
  have lw := h.lw
  have h8 : D.st t ≤ 8 := by unfold kHe at hs; omega
  refine (h.k.step ht hs hn).mono fun e W' ⟨s', D', o', h1, h2, h3, h4, h5, h6, hk, hT⟩ => ⟨s', D', o', h1, h2, h3, h4, h5, h6, ?_⟩
  have ho := h.k.own t ht h8
  have st8 : ∀ j, D'.st j ≤ 8 → D.st j ≤ 8 := by
    intro j hj
    rw [h3] at hj
    by_cases e : j = t
    · subst e; exact h8
    · rw [updS_ne e] at hj; exact hj
  have nf : ∀ b, (b = db ∨ b = lb ∨ b = sb ∨ b = tb ∨ b = rb) → ¬ D.foot B p t b := by
    intro b hb r
    obtain ⟨f1, f2, f3⟩ := h.fx b hb
    rcases r with r | r | r
    · exact f2 r
    · exact f3 t ht h8 r
    · exact r.2 f1
  refine h.moved hk hT (fun b r => ?_) h4.lp h4.rr h4.sn h4.tk (fun b hb => ?_)
  · refine ⟨?_, fun e => nf db (.inl rfl) (e ▸ r), fun e => nf lb (.inr (.inl rfl)) (e ▸ r), fun e => nf sb (.inr (.inr (.inl rfl))) (e ▸ r), fun e => nf tb (.inr (.inr (.inr (.inl rfl)))) (e ▸ r), fun e => nf rb (.inr (.inr (.inr (.inr rfl)))) (e ▸ r), ?_⟩
    · rcases r with r | r | r
      · omega
      · unfold KD.own at r; omega
      · omega
    · rcases r with r | r | r
      · omega
      · unfold KD.own at r; omega
      · omega
  · obtain ⟨f1, f2, f3⟩ := h.fx b hb
    refine ⟨by rw [h4.K]; exact f1, f2, fun u hu u8 => ?_⟩
    have := f3 u hu (st8 u u8)
    unfold KD.own at this ⊢
    rw [h4.bs, h4.bm, h4.bu]; exact this
/-- a store into one of the lists -/
theorem KS.other (h : KS w B a c p qb db lb sb tb rb P T R o D W) {b0 : Nat} (hb0 : b0 = lb ∨ b0 = sb ∨ b0 = tb ∨ b0 = rb) (i : Nat) (v : Value) :
    KC B a c p P (T : Int) R o D (W.setCell ⟨b0, i, none⟩ v) ∧ Blk (W.setCell ⟨b0, i, none⟩ v) qb #[.int .i64 P, .int .i64 (T : Int), .int .i64 R] 23 ∧ Blk (W.setCell ⟨b0, i, none⟩ v) db #[.int .i64 P, .int .i64 (T : Int), .int .i64 R, .int .i64 (baseI P (T : Int) R), .int .i64 (tabI (T : Int) R), .int .i64 (baseI P (T : Int) R + 64 * P)] 38 ∧
    (lb ≠ b0 → Blk (W.setCell ⟨b0, i, none⟩ v) lb (rowL D.lp T) 45) ∧ (sb ≠ b0 → Blk (W.setCell ⟨b0, i, none⟩ v) sb (rowI64 D.sn) 3) ∧ (tb ≠ b0 → Blk (W.setCell ⟨b0, i, none⟩ v) tb (rowI64 D.tk) 3) ∧ (rb ≠ b0 → Blk (W.setCell ⟨b0, i, none⟩ v) rb (rowR D.rr T) 41) ∧ Below w.heap.size w (W.setCell ⟨b0, i, none⟩ v) := by
  have od := h.od
  have lw := h.lw
  have hT : Touch (fun b => b = b0) W (W.setCell ⟨b0, i, none⟩ v) := Touch.setCell (R := fun b => b = b0) (Touch.refl _ _) rfl _
  refine ⟨h.k.touch hT (fun b e => by subst e; exact h.fx b (.inr hb0)), Blk.touch h.qB hT (by omega), Blk.touch h.dB hT (by omega), fun e => Blk.touch h.lB hT e, fun e => Blk.touch h.sB hT e, fun e => Blk.touch h.tB hT e, fun e => Blk.touch h.rB hT e, h.bel.trans (hT.below h.bel.size (fun b e => by omega))⟩
theorem KC.lists (k : KC B a c p P (T : Int) R o D W) (lp : Nat → Option Addr) (rr : Nat → Int) (sn tk : List Int) : KC B a c p P (T : Int) R o { D with lp := lp, rr := rr, sn := sn, tk := tk } W :=
  ⟨k.right, k.ary, k.port, k.mch, k.tlq, k.own, k.far, k.hp, k.qs, k.cc, k.ll⟩
theorem KS.seen (h : KS w B a c p qb db lb sb tb rb P T R o D W) (i : Nat) (x : Int) : KS w B a c p qb db lb sb tb rb P T R o { D with sn := D.sn.set i x } (W.setCell ⟨sb, i, none⟩ (.int .i64 x)) := by
  have od := h.od
  obtain ⟨h1, h2, h3, h4, h5, h6, h7, h8⟩ := h.other (b0 := sb) (.inr (.inl rfl)) i (.int .i64 x)
  exact ⟨h1.lists D.lp D.rr _ D.tk, h2, h3, h4 (by omega), by show Blk _ _ (rowI64 (D.sn.set i x)) _; rw [rowI64_set]; exact Blk.set h.sB i _, h6 (by omega), h7 (by omega), h.fx, h.od, h.lw, h8, by rw [List.length_set]; exact h.sl⟩
theorem KS.taken (h : KS w B a c p qb db lb sb tb rb P T R o D W) (i : Nat) (x : Int) : KS w B a c p qb db lb sb tb rb P T R o { D with tk := D.tk.set i x } (W.setCell ⟨tb, i, none⟩ (.int .i64 x)) := by
  have od := h.od
  obtain ⟨h1, h2, h3, h4, h5, h6, h7, h8⟩ := h.other (b0 := tb) (.inr (.inr (.inl rfl))) i (.int .i64 x)
  exact ⟨h1.lists D.lp D.rr D.sn _, h2, h3, h4 (by omega), h5 (by omega), by show Blk _ _ (rowI64 (D.tk.set i x)) _; rw [rowI64_set]; exact Blk.set h.tB i _, h7 (by omega), h.fx, h.od, h.lw, h8, by rw [List.length_set]; exact h.sl⟩
theorem KS.refs (h : KS w B a c p qb db lb sb tb rb P T R o D W) (i : Nat) (x : Int) : KS w B a c p qb db lb sb tb rb P T R o { D with rr := updI D.rr i x } (W.setCell ⟨rb, i, none⟩ (.int .u64 x)) := by
  have od := h.od
  obtain ⟨h1, h2, h3, h4, h5, h6, h7, h8⟩ := h.other (b0 := rb) (.inr (.inr (.inr rfl))) i (.int .u64 x)
  exact ⟨h1.lists D.lp _ D.sn D.tk, h2, h3, h4 (by omega), h5 (by omega), h6 (by omega), by show Blk _ _ (rowR (updI D.rr i x) T) _; rw [rowR_set]; exact Blk.set h.rB i _, h.fx, h.od, h.lw, h8, h.sl⟩
theorem KS.list (h : KS w B a c p qb db lb sb tb rb P T R o D W) (i : Nat) (x : Option Addr) : KS w B a c p qb db lb sb tb rb P T R o { D with lp := updO D.lp i x } (W.setCell ⟨lb, i, none⟩ (.pointer x)) := by
  have od := h.od
  obtain ⟨h1, h2, h3, h4, h5, h6, h7, h8⟩ := h.other (b0 := lb) (.inl rfl) i (.pointer x)
  exact ⟨h1.lists _ D.rr D.sn D.tk, h2, h3, by show Blk _ _ (rowL (updO D.lp i x) T) _; rw [rowL_set]; exact Blk.set h.lB i _, h5 (by omega), h6 (by omega), h7 (by omega), h.fx, h.od, h.lw, h8, h.sl⟩
/-- a machine that holds nothing is forgotten -/
theorem KS.retire (h : KS w B a c p qb db lb sb tb rb P T R o D W) {t : Nat} (ht : (t : Int) < (T : Int)) (hn : ¬ kHe (D.st t)) : KS w B a c p qb db lb sb tb rb P T R o { D with st := updS D.st t 9 } W := by
  have k := h.k
  have st8 : ∀ j, updS D.st t 9 j ≤ 8 → j ≠ t ∧ D.st j ≤ 8 := by
    intro j hj
    by_cases e : j = t
    · subst e; rw [updS_eq] at hj; omega
    · rw [updS_ne e] at hj; exact ⟨e, hj⟩
  have n9 : ¬ kHe 9 := by unfold kHe; omega
  refine ⟨⟨k.right, k.ary, k.port, fun j hj hj8 => ?_, fun j hj e => ?_, fun j hj hj8 => k.own j hj (st8 j hj8).2, fun i j hi hj i8 j8 => k.far i j hi hj (st8 i i8).2 (st8 j j8).2, k.hp, k.qs, k.cc.same (by decide) (by decide), k.ll.go ht (by decide) (fun e => by omega) ⟨fun e => absurd e n9, fun e => absurd e hn⟩⟩, h.qB, h.dB, h.lB, h.sB, h.tB, h.rB, fun b hb => ⟨(h.fx b hb).1, (h.fx b hb).2.1, fun u hu u8 => (h.fx b hb).2.2 u hu (st8 u u8).2⟩, h.od, h.lw, h.bel, h.sl⟩
  · obtain ⟨e1, e2⟩ := st8 j hj8
    show ShadeAt W _ _ _ _ (kNx (updS D.st t 9 j)) (kLo (updS D.st t 9 j)) ∧ MarkAt W _ _ _ (kMn (updS D.st t 9 j)) (kMf (updS D.st t 9 j)) ∧ PushAt W _ _ _ _ _ _ _ (kPn (updS D.st t 9 j)) (kFu (updS D.st t 9 j))
    rw [updS_ne e1]; exact k.mch j hj e2
  · replace e : updS D.st t 9 j = 2 ∨ updS D.st t 9 j = 3 ∨ updS D.st t 9 j = 4 := e
    by_cases e2 : j = t
    · subst e2; rw [updS_eq] at e; omega
    · rw [updS_ne e2] at e; exact k.tlq j hj e
/-- more blocks that are none of the arena's -/
theorem KS.addK (h : KS w B a c p qb db lb sb tb rb P T R o D W) (hb : Below W.heap.size W W') {L : List Nat} (hL : ∀ m ∈ L, W.heap.size ≤ m ∧ m < W'.heap.size) : KS w B a c p qb db lb sb tb rb P T R o { D with K := L ++ D.K } W' := by
  have g := h.grew hb
  have k := g.k
  exact ⟨⟨k.right, h.k.ary.adds hb hL, k.port, k.mch, k.tlq, fun t ht h8 => by obtain ⟨q0, q1, q2, q3⟩ := k.own t ht h8; exact ⟨q0, List.mem_append_right _ q1, List.mem_append_right _ q2, List.mem_append_right _ q3⟩, k.far, List.mem_append_right _ k.hp, k.qs, k.cc, k.ll⟩, g.qB, g.dB, g.lB, g.sB, g.tB, g.rB, fun b hb => ⟨List.mem_append_right _ (h.fx b hb).1, (h.fx b hb).2⟩, g.od, g.lw, g.bel, g.sl⟩
/-- a new machine -/
theorem KS.begin {s mk pu : Nat} {x : Int} (h : KS w B a c p qb db lb sb tb rb P T R o D W) (hb : Below W.heap.size W W') {t : Nat} (ht : (t : Int) < (T : Int)) (h9 : D.st t = 9) (hx : refB P (T : Int) R x = true)
    (hS : ShadeAt W' s x mk (some ⟨pu, 0, none⟩) 1 false) (hM : MarkAt W' mk (cellI P (T : Int) R x) (bitI P (T : Int) R x) 1 false) (hU : PushAt W' pu P (T : Int) R t x 0 1 false) (l1 : W.heap.size ≤ mk) (l2 : mk < pu) (l3 : pu < s) :
    KS w B a c p qb db lb sb tb rb P T R o { D with st := updS D.st t 0, rf := updI D.rf t x, bs := updS D.bs t s, bm := updS D.bm t mk, bu := updS D.bu t pu, tl := updI D.tl t 0, K := [s, mk, pu] ++ D.K } W' := by
  have ls := hS.lt
  have g := h.addK hb (L := [s, mk, pu]) (by intro m hm; simp only [List.mem_cons, List.not_mem_nil, or_false] at hm; rcases hm with rfl | rfl | rfl <;> omega)
  have k := g.k
  have n9 : ¬ kHe (D.st t) := by rw [h9]; unfold kHe; omega
  have lp := Blk.lt h.k.port
  have oldlt : ∀ j : Nat, (j : Int) < (T : Int) → D.st j ≤ 8 → ∀ b, D.own j b → b < W.heap.size := by
    intro j hj hj8 b hb
    obtain ⟨m1, m2, m3⟩ := h.k.mch j hj hj8
    rcases hb with rfl | rfl | rfl
    · exact m1.lt
    · exact m2.lt
    · exact m3.lt
  have st8 : ∀ j, j ≠ t → updS D.st t 0 j ≤ 8 → D.st j ≤ 8 := fun j e hj => by rw [updS_ne e] at hj; exact hj
  refine ⟨⟨k.right, k.ary, k.port, fun j hj hj8 => ?_, fun j hj e => ?_, fun j hj hj8 => ?_, fun i j hi hj i8 j8 hne b hb1 hb2 => ?_, k.hp, k.qs, k.cc.new t x, k.ll.new ht n9 hx⟩, g.qB, g.dB, g.lB, g.sB, g.tB, g.rB, fun b hb1 => ?_, g.od, g.lw, g.bel, g.sl⟩
  · show ShadeAt W' (updS D.bs t s j) (updI D.rf t x j) (updS D.bm t mk j) (some ⟨updS D.bu t pu j, 0, none⟩) (kNx (updS D.st t 0 j)) (kLo (updS D.st t 0 j)) ∧ MarkAt W' (updS D.bm t mk j) (cellI P (T : Int) R (updI D.rf t x j)) (bitI P (T : Int) R (updI D.rf t x j)) (kMn (updS D.st t 0 j)) (kMf (updS D.st t 0 j)) ∧ PushAt W' (updS D.bu t pu j) P (T : Int) R j (updI D.rf t x j) (updI D.tl t 0 j) (kPn (updS D.st t 0 j)) (kFu (updS D.st t 0 j))
    by_cases e : j = t
    · subst e
      rw [updS_eq, updS_eq, updS_eq, updS_eq, updI_eq, updI_eq]
      exact ⟨hS, hM, hU⟩
    · have := k.mch j hj (st8 j e hj8)
      rw [updS_ne e, updS_ne e, updS_ne e, updS_ne e, updI_ne e, updI_ne e]
      exact this
  · show updI D.tl t 0 j = (D.q j : Int)
    replace e : updS D.st t 0 j = 2 ∨ updS D.st t 0 j = 3 ∨ updS D.st t 0 j = 4 := e
    by_cases e2 : j = t
    · subst e2; rw [updS_eq] at e; omega
    · rw [updS_ne e2] at e; rw [updI_ne e2]; exact k.tlq j hj e
  · show (p < updS D.bm t mk j ∧ updS D.bm t mk j < updS D.bu t pu j ∧ updS D.bu t pu j < updS D.bs t s j) ∧ updS D.bs t s j ∈ [s, mk, pu] ++ D.K ∧ updS D.bm t mk j ∈ [s, mk, pu] ++ D.K ∧ updS D.bu t pu j ∈ [s, mk, pu] ++ D.K
    by_cases e : j = t
    · subst e
      rw [updS_eq, updS_eq, updS_eq]
      exact ⟨⟨by omega, l2, l3⟩, by simp, by simp, by simp⟩
    · rw [updS_ne e, updS_ne e, updS_ne e]; exact k.own j hj (st8 j e hj8)
  · have ow : ∀ u, u ≠ t → (u : Int) < (T : Int) → updS D.st t 0 u ≤ 8 → (b = updS D.bs t s u ∨ b = updS D.bm t mk u ∨ b = updS D.bu t pu u) → D.own u b ∧ b < W.heap.size := by
      intro u e hu u8 r
      rw [updS_ne e, updS_ne e, updS_ne e] at r
      exact ⟨r, oldlt u hu (st8 u e u8) b r⟩
    have nw : (b = updS D.bs t s t ∨ b = updS D.bm t mk t ∨ b = updS D.bu t pu t) → W.heap.size ≤ b := by
      intro r
      rw [updS_eq, updS_eq, updS_eq] at r
      omega
    by_cases e1 : i = t
    · by_cases e2 : j = t
      · omega
      · subst e1
        have := nw hb1
        have := (ow j e2 hj j8 hb2).2
        omega
    · by_cases e2 : j = t
      · subst e2
        have := nw hb2
        have := (ow i e1 hi i8 hb1).2
        omega
      · exact h.k.far i j hi hj (st8 i e1 i8) (st8 j e2 j8) hne b (ow i e1 hi i8 hb1).1 (ow j e2 hj j8 hb2).1
  · obtain ⟨f1, f2, f3⟩ := g.fx b hb1
    refine ⟨f1, f2, fun u hu u8 r => ?_⟩
    have lb' : b < W.heap.size := by
      rcases hb1 with rfl | rfl | rfl | rfl | rfl
      · exact h.dB.lt
      · exact h.lB.lt
      · exact h.sB.lt
      · exact h.tB.lt
      · exact h.rB.lt
    by_cases e : u = t
    · subst e
      replace r : b = updS D.bs u s u ∨ b = updS D.bm u mk u ∨ b = updS D.bu u pu u := r
      rw [updS_eq, updS_eq, updS_eq] at r
      omega
    · replace r : b = updS D.bs t s u ∨ b = updS D.bm t mk u ∨ b = updS D.bu t pu u := r
      rw [updS_ne e, updS_ne e, updS_ne e] at r
      exact f3 u hu (st8 u e u8) r
end
end Go.Proofs.Ytlhigibgjggidaa
/- ShadeKept: a pop beside the machines; what a machine holds; slices that are made. Condition: the blocks lie apart. -/
namespace Go.Proofs.Ytlhigibgjggidaa
open Go.RowKit
set_option linter.unusedVariables false
structure KP (w : World) (B a c p qb db lb sb tb rb : Nat) (P : Int) (T : Nat) (R : Int) (o : Bool) (D : KD) (m t : Nat) (v x pn : Int) (fu : Bool) (W : World) : Prop where
  s : KS w B a c p qb db lb sb tb rb P T R o D W
  pm : PopAt W m P (T : Int) R (t : Int) v x pn fu
  inK : m ∈ D.K
  gt : rb < m
  far : ∀ u : Nat, (u : Int) < (T : Int) → D.st u ≤ 8 → ¬ D.own u m
section
variable {w W W' : World} {B a c p qb db lb sb tb rb : Nat} {P : Int} {T : Nat} {R : Int} {o : Bool} {D : KD} {m t : Nat} {v x pn : Int} {fu : Bool}
theorem KP.grew (h : KP w B a c p qb db lb sb tb rb P T R o D m t v x pn fu W) (hb : Below W.heap.size W W') : KP w B a c p qb db lb sb tb rb P T R o D m t v x pn fu W' := ⟨h.s.grew hb, Blk.grew h.pm hb, h.inK, h.gt, h.far⟩
theorem KP.grant (h : KP w B a c p qb db lb sb tb rb P T R o D m t v x pn fu W) :
    Calls Try.prog 24 #[.pointer (some ⟨p, 0, none⟩)] W fun e W' => (∃ v, e = .returned v) ∧ KP w B a c p qb db lb sb tb rb P T R true D m t v x pn fu W' := by
  have od := h.s.od
  have lw := h.s.lw
  have gt := h.gt
  exact h.s.k.grant.mono fun e W' ⟨he, hk, hT⟩ => ⟨he, h.s.moved hk hT (fun b e => by omega) rfl rfl rfl rfl h.s.fx, Blk.touch h.pm hT (by omega), h.inK, h.gt, h.far⟩
theorem KP.pos (h : KP w B a c p qb db lb sb tb rb P T R o D m t v x pn fu W) : PoE W B a c p m P (T : Int) R t v x pn fu D.cs D.n D.K 1 o W := by
  obtain ⟨xs, hA⟩ := h.s.k.ary
  exact ⟨xs, PoS.start h.pm hA h.s.k.port⟩
theorem KP.after {o' : Bool} {v' x' pn' : Int} {fu' : Bool} {cs' : List Int} {n' : Nat} {h' : Nat → Nat} {Tk' : Int → Bool} (h : KP w B a c p qb db lb sb tb rb P T R o D m t v x pn fu W) (hE : PoE W B a c p m P (T : Int) R t v' x' pn' fu' cs' n' D.K 1 o' W')
    (hn : D.n ≤ n') (hc : CsK P (T : Int) R h' D.q D.st D.rf D.W D.Sn D.ov cs') (hl : Lg P (T : Int) R h' D.q D.st D.rf D.W D.Sn Tk' D.ov) :
    KP w B a c p qb db lb sb tb rb P T R o' { D with h := h', Tk := Tk', cs := cs', n := n' } m t v' x' pn' fu' W' := by
  obtain ⟨xs, hE⟩ := hE
  have hT := hE.touch
  have k := h.s.k
  have od := h.s.od
  have lw := h.s.lw
  have gt := h.gt
  have nf : ∀ u : Nat, (u : Int) < (T : Int) → D.st u ≤ 8 → ∀ b, D.own u b → ¬ (b = p ∨ b = m ∨ (B ≤ b ∧ b ∉ D.K)) := by
    intro u hu u8 b hb r
    obtain ⟨l1, l2, l3, l4⟩ := k.own u hu u8
    rcases r with r | r | r
    · unfold KD.own at hb; omega
    · subst r; exact h.far u hu u8 hb
    · refine r.2 ?_
      rcases hb with rfl | rfl | rfl
      · exact l2
      · exact l3
      · exact l4
  have hk : KC B a c p P (T : Int) R o' { D with h := h', Tk := Tk', cs := cs', n := n' } W' := by
    refine ⟨k.right, ⟨xs, hE.arx⟩, hE.port, fun u hu u8 => ?_, k.tlq, k.own, k.far, k.hp, fun u hu => Nat.le_trans (k.qs u hu) hn, hc, hl⟩
    obtain ⟨m1, m2, m3⟩ := k.mch u hu u8
    exact ⟨Blk.touch m1 hT (nf u hu u8 _ (.inl rfl)), Blk.touch m2 hT (nf u hu u8 _ (.inr (.inl rfl))), Blk.touch m3 hT (nf u hu u8 _ (.inr (.inr rfl)))⟩
  refine ⟨h.s.moved hk hT (fun b r => ?_) rfl rfl rfl rfl h.s.fx, hE.mach, h.inK, h.gt, h.far⟩
  have nb : ∀ b', (b' = db ∨ b' = lb ∨ b' = sb ∨ b' = tb ∨ b' = rb) → b ≠ b' := by
    intro b' hb' e
    subst e
    obtain ⟨f1, f2, f3⟩ := h.s.fx b hb'
    rcases r with r | r | r
    · exact f2 r
    · omega
    · exact r.2 f1
  exact ⟨by omega, nb db (.inl rfl), nb lb (.inr (.inl rfl)), nb sb (.inr (.inr (.inl rfl))), nb tb (.inr (.inr (.inr (.inl rfl)))), nb rb (.inr (.inr (.inr (.inr rfl)))), by omega⟩
/-- the pop behind k steps -/
def PopK (w : World) (B a c p qb db lb sb tb rb : Nat) (P : Int) (T : Nat) (R : Int) (o : Bool) (D : KD) (m t : Nat) (k : Nat) (W : World) : Prop :=
  (k = 0 ∧ KP w B a c p qb db lb sb tb rb P T R o D m t 0 0 2 false W) ∨
  (k = 1 ∧ KP w B a c p qb db lb sb tb rb P T R o { D with n := D.n + 1 } m t 0 (D.h t : Int) 1 false W) ∨
  (k = 2 ∧ D.h t < D.q t ∧ KP w B a c p qb db lb sb tb rb P T R o { D with n := D.n + 2 } m t 0 (D.h t : Int) 5 false W) ∨
  (k = 3 ∧ D.h t < D.q t ∧ KP w B a c p qb db lb sb tb rb P T R o { D with n := D.n + 3 } m t (D.W t (D.h t)) (D.h t : Int) 6 false W) ∨
  (k = 4 ∧ D.h t < D.q t ∧ KP w B a c p qb db lb sb tb rb P T R o { D with h := updS D.h t (D.h t + 1), Tk := addS D.Tk (D.W t (D.h t)), cs := D.cs.set (ownN R t 3) ((D.h t + 1 : Nat) : Int), n := D.n + 4 } m t (D.W t (D.h t)) (D.h t : Int) 0 false W) ∨
  (2 ≤ k ∧ D.h t = D.q t ∧ KP w B a c p qb db lb sb tb rb P T R o { D with n := D.n + 2 } m t 0 (D.h t : Int) 0 true W)
theorem PopK.grant {k : Nat} (h : PopK w B a c p qb db lb sb tb rb P T R o D m t k W) :
    Calls Try.prog 24 #[.pointer (some ⟨p, 0, none⟩)] W fun e W' => (∃ v, e = .returned v) ∧ PopK w B a c p qb db lb sb tb rb P T R true D m t k W' := by
  rcases h with ⟨e, h⟩ | ⟨e, h⟩ | ⟨e, e2, h⟩ | ⟨e, e2, h⟩ | ⟨e, e2, h⟩ | ⟨e, e2, h⟩
  · exact h.grant.mono fun _ _ ⟨he, hk⟩ => ⟨he, .inl ⟨e, hk⟩⟩
  · exact h.grant.mono fun _ _ ⟨he, hk⟩ => ⟨he, .inr (.inl ⟨e, hk⟩)⟩
  · exact h.grant.mono fun _ _ ⟨he, hk⟩ => ⟨he, .inr (.inr (.inl ⟨e, e2, hk⟩))⟩
  · exact h.grant.mono fun _ _ ⟨he, hk⟩ => ⟨he, .inr (.inr (.inr (.inl ⟨e, e2, hk⟩)))⟩
  · exact h.grant.mono fun _ _ ⟨he, hk⟩ => ⟨he, .inr (.inr (.inr (.inr (.inl ⟨e, e2, hk⟩))))⟩
  · exact h.grant.mono fun _ _ ⟨he, hk⟩ => ⟨he, .inr (.inr (.inr (.inr (.inr ⟨e, e2, hk⟩))))⟩
theorem PopK.step {k : Nat} (h : PopK w B a c p qb db lb sb tb rb P T R true D m t k W) (ht : (t : Int) < (T : Int)) (hk : k < 4) (hn : D.n < 999990) :
    Calls Try.prog 30 #[.pointer (some ⟨m, 0, none⟩), .pointer (some ⟨p, 0, none⟩)] W fun e W' => (∃ u, e = .returned u) ∧ ∃ o', PopK w B a c p qb db lb sb tb rb P T R o' D m t (k + 1) W' := by
  rcases h with ⟨rfl, h⟩ | ⟨rfl, h⟩ | ⟨rfl, e2, h⟩ | ⟨rfl, e2, h⟩ | ⟨e, e2, h⟩ | ⟨e, e2, h⟩
  · have k := h.s.k
    have hx := exB_mk k.right (Int.natCast_nonneg t) ht
    have od := h.s.od
    have gt := h.gt
    have hP := h.pos
    obtain ⟨xs, hP'⟩ := hP
    refine (pop_step1 hP' hx (by omega) h.inK k.hp (by first | omega | (dsimp only; omega)) k.cc.len).mono fun e W' ⟨he, hE⟩ => ⟨⟨_, he⟩, false, .inr (.inl ⟨rfl, ?_⟩)⟩
    rw [k.cc.hd t ht] at hE
    exact h.after ⟨_, hE⟩ (Nat.le_succ _) k.cc k.ll
  · have k := h.s.k
    have hx := exB_mk k.right (Int.natCast_nonneg t) ht
    have od := h.s.od
    have gt := h.gt
    obtain ⟨xs, hP'⟩ := h.pos
    have htl : D.cs.getD (ownN R t 4) 0 = (D.q t : Int) := k.cc.tl t ht
    have hq : D.h t ≤ D.q t := (k.cc.hq t ht).1
    by_cases e : D.h t = D.q t
    · have hf : (D.cs.getD (ownN R t 4) 0 == (D.h t : Int)) = true := by rw [htl, e]; simp
      refine (pop_step2_empty hP' hx (by omega) h.inK k.hp (by first | omega | (dsimp only; omega)) k.cc.len hf).mono fun _ W' ⟨he, hE⟩ => ⟨⟨_, he⟩, false, .inr (.inr (.inr (.inr (.inr ⟨by omega, e, ?_⟩))))⟩
      exact h.after ⟨_, hE⟩ (Nat.le_succ _) k.cc k.ll
    · have hf : (D.cs.getD (ownN R t 4) 0 == (D.h t : Int)) = false := by rw [htl]; exact beq_eq_false_iff_ne.2 (by omega)
      refine (pop_step2_some hP' hx (by omega) h.inK k.hp (by first | omega | (dsimp only; omega)) k.cc.len hf).mono fun _ W' ⟨he, hE⟩ => ⟨⟨_, he⟩, false, .inr (.inr (.inl ⟨rfl, by omega, ?_⟩))⟩
      exact h.after ⟨_, hE⟩ (Nat.le_succ _) k.cc k.ll
  · have k := h.s.k
    have hx := exB_mk k.right (Int.natCast_nonneg t) ht
    have od := h.s.od
    have gt := h.gt
    obtain ⟨xs, hP'⟩ := h.pos
    have hqn : D.q t ≤ D.n + 2 := k.qs t ht
    have hsl : D.cs.getD (slotN R t (D.h t : Int)) 0 = D.W t (D.h t) := k.cc.slot t ht _ (Nat.le_refl _) e2
    refine (pop_step3 hP' hx (by omega) h.inK k.hp (by first | omega | (dsimp only; omega)) k.cc.len ⟨by omega, by omega⟩).mono fun e W' ⟨he, hE⟩ => ⟨⟨_, he⟩, false, .inr (.inr (.inr (.inl ⟨rfl, e2, ?_⟩)))⟩
    replace hE := h.after ⟨_, hE⟩ (Nat.le_succ _) k.cc k.ll
    rw [hsl] at hE
    exact hE
  · have k := h.s.k
    have hx := exB_mk k.right (Int.natCast_nonneg t) ht
    have od := h.s.od
    have gt := h.gt
    obtain ⟨xs, hP'⟩ := h.pos
    have hqn : D.q t ≤ D.n + 3 := k.qs t ht
    refine (pop_step4 hP' hx (by omega) h.inK k.hp (by first | omega | (dsimp only; omega)) k.cc.len).mono fun e W' ⟨he, hE⟩ => ⟨⟨_, he⟩, false, .inr (.inr (.inr (.inr (.inl ⟨rfl, e2, ?_⟩))))⟩
    have hw : IntKind.u64.wrap ((D.h t : Int) + 1) = ((D.h t + 1 : Nat) : Int) := by rw [IntKind.wrap_u64]; omega
    rw [hw] at hE
    exact h.after ⟨_, hE⟩ (Nat.le_succ _) (k.cc.pop k.right ht e2) (k.ll.pop ht e2).2
  · omega
  · obtain ⟨xs, hP'⟩ := h.pos
    refine (pop_over hP').mono fun _ W' ⟨he, hE⟩ => ⟨⟨_, he⟩, true, .inr (.inr (.inr (.inr (.inr ⟨by omega, e2, ?_⟩))))⟩
    exact h.after ⟨_, hE⟩ (Nat.le_refl _) h.s.k.cc h.s.k.ll
/-- what was popped: a word that waited, or nothing -/
theorem PopK.done (h : PopK w B a c p qb db lb sb tb rb P T R o D m t 4 W) :
    Calls Try.prog 31 #[.pointer (some ⟨m, 0, none⟩)] W fun e W' =>
      (e = .returned (.int .u64 0) ∧ KS w B a c p qb db lb sb tb rb P T R o { D with n := D.n + 2 } W') ∨
      (D.h t < D.q t ∧ e = .returned (.int .u64 (D.W t (D.h t))) ∧ KS w B a c p qb db lb sb tb rb P T R o { D with h := updS D.h t (D.h t + 1), Tk := addS D.Tk (D.W t (D.h t)), cs := D.cs.set (ownN R t 3) ((D.h t + 1 : Nat) : Int), n := D.n + 4 } W') := by
  rcases h with ⟨e, h⟩ | ⟨e, h⟩ | ⟨e, e2, h⟩ | ⟨e, e2, h⟩ | ⟨e, e2, h⟩ | ⟨e, e2, h⟩
  · omega
  · omega
  · omega
  · omega
  · exact (value_pop h.pm).mono fun _ W' ⟨he, hq⟩ => .inr ⟨e2, he, h.s.quiet hq⟩
  · exact (value_pop h.pm).mono fun _ W' ⟨he, hq⟩ => .inl ⟨he, h.s.quiet hq⟩
/-- a pop is made -/
theorem KS.pop (h : KS w B a c p qb db lb sb tb rb P T R o D W) (hb : Below W.heap.size W W') (hm : PopAt W' m P (T : Int) R (t : Int) 0 0 2 false) (hl : W.heap.size ≤ m) : PopK w B a c p qb db lb sb tb rb P T R o { D with K := [m] ++ D.K } m t 0 W' := by
  have lm := hm.lt
  have g := h.addK hb (L := [m]) (by intro x hx; simp only [List.mem_cons, List.not_mem_nil, or_false] at hx; subst hx; omega)
  have lr := h.rB.lt
  refine .inl ⟨rfl, g, hm, by simp, by omega, fun u hu u8 r => ?_⟩
  obtain ⟨m1, m2, m3⟩ := h.k.mch u hu u8
  have l1 := m1.lt
  have l2 := m2.lt
  have l3 := m3.lt
  rcases r with r | r | r
  · change m = D.bs u at r; omega
  · change m = D.bm u at r; omega
  · change m = D.bu u at r; omega
end
theorem held_any {w : World} {s mk : Nat} {ce bi nx mn x : Int} {fr lost : Bool} {pu : Option Addr} (h : ShadeAt w s x mk pu nx lost) (hM : MarkAt w mk ce bi mn fr) :
    Calls Try.prog 54 #[.pointer (some ⟨s, 0, none⟩)] w fun e w' => e = .returned (.int .u64 (if ((nx == 0) || !fr) = true then 0 else x)) ∧ Quiet w w' := by
  have O := Lib.hid (fun W (h : ShadeAt W s x mk pu nx lost) => over_shade h)
  have F := Lib.hid (fun W (h : ShadeAt W s x mk pu nx lost) (hM : MarkAt W mk ce bi mn fr) => (show Calls Try.prog 27 #[.pointer (some ⟨s, 0, none⟩)] W fun e w' => e = .returned (.bool fr) ∧ Quiet W w' by
    have h2 := h.val 1 rfl
    have F := Lib.hid (fresh_mark hM)
    clear h hM
    go_enter Try.func27, Try.ntmps27
    go_wp2_with fail
    refine F.out.mono ?_; rintro e w1 ⟨rfl, hq1⟩
    go_wp2
    go_ret
    exact ⟨rfl, hq1⟩))
  cases hnx : (nx == 0) with
  | true =>
    rw [hnx] at O
    rw [Bool.true_or, if_pos rfl]
    clear F
    go_enter Try.func54, Try.ntmps54
    go_wp2_with fail
    refine (O.out _ h).mono ?_; rintro e w1 ⟨rfl, hq1⟩
    go_wp2
    go_ret
    exact ⟨rfl, hq1⟩
  | false =>
    rw [hnx] at O
    rw [Bool.false_or]
    cases fr with
    | false =>
      rw [if_pos (by rfl)]
      go_enter Try.func54, Try.ntmps54
      go_wp2_with fail
      refine (O.out _ h).mono ?_; rintro e w1 ⟨rfl, hq1⟩
      go_wp2_with fail
      refine (F.out _ (Blk.quiet h hq1) (Blk.quiet hM hq1)).mono ?_; rintro e w2 ⟨rfl, hq2⟩
      go_wp2
      go_ret
      exact ⟨rfl, hq1.trans hq2⟩
    | true =>
      rw [if_neg (by decide)]
      go_enter Try.func54, Try.ntmps54
      go_wp2_with fail
      refine (O.out _ h).mono ?_; rintro e w1 ⟨rfl, hq1⟩
      go_wp2_with fail
      refine (F.out _ (Blk.quiet h hq1) (Blk.quiet hM hq1)).mono ?_; rintro e w2 ⟨rfl, hq2⟩
      have h0 := (Blk.quiet h (hq1.trans hq2)).val 0 rfl
      go_wp2
      go_ret
      exact ⟨rfl, hq1.trans hq2⟩
section
variable {w W W' : World} {B a c p : Nat} {P T R : Int} {o : Bool} {D : KD}
open Classical in
theorem KC.held (k : KC B a c p P T R o D W) {t : Nat} (ht : (t : Int) < T) (h8 : D.st t ≤ 8) :
    Calls Try.prog 54 #[.pointer (some ⟨D.bs t, 0, none⟩)] W fun e w' => e = .returned (.int .u64 (if kHe (D.st t) then D.rf t else 0)) ∧ Quiet W w' := by
  obtain ⟨m1, m2, m3⟩ := k.mch t ht h8
  refine (held_any m1 m2).mono fun e w' ⟨he, hq⟩ => ⟨?_, hq⟩
  rw [he]
  have : D.st t = 0 ∨ D.st t = 1 ∨ D.st t = 2 ∨ D.st t = 3 ∨ D.st t = 4 ∨ D.st t = 5 ∨ D.st t = 6 ∨ D.st t = 7 ∨ D.st t = 8 := by omega
  rcases this with e | e | e | e | e | e | e | e | e <;> rw [e] <;> congr 2
  all_goals first
    | (rw [if_pos (by decide), if_neg (by unfold kHe; omega)])
    | (rw [if_neg (by decide), if_pos (by unfold kHe; omega)])
theorem KC.over (k : KC B a c p P T R o D W) {t : Nat} (ht : (t : Int) < T) (h8 : D.st t ≤ 8) :
    Calls Try.prog 32 #[.pointer (some ⟨D.bs t, 0, none⟩)] W fun e w' => e = .returned (.bool (kNx (D.st t) == 0)) ∧ Quiet W w' := over_shade (k.mch t ht h8).1
theorem KC.fresh (k : KC B a c p P T R o D W) {t : Nat} (ht : (t : Int) < T) (h8 : D.st t ≤ 8) :
    Calls Try.prog 27 #[.pointer (some ⟨D.bs t, 0, none⟩)] W fun e w' => e = .returned (.bool (kMf (D.st t))) ∧ Quiet W w' := by
  obtain ⟨h, hM, _⟩ := k.mch t ht h8
  have h2 := h.val 1 rfl
  have F := Lib.hid (fresh_mark hM)
  clear h hM
  go_enter Try.func27, Try.ntmps27
  go_wp2_with fail
  refine F.out.mono ?_; rintro e w1 ⟨rfl, hq1⟩
  go_wp2
  go_ret
  exact ⟨rfl, hq1⟩
end
end Go.Proofs.Ytlhigibgjggidaa
