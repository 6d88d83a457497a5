/- Texts of this seat, one behind the other: each says at its head what it holds. No condition of its own. -/
import Derived.Deep.AppendLies
import Derived.Test.YtamekeebgkdhcaaGRingSteps01
import Derived.Test.YtamekeebgkdhcaaGRingSteps04
import Derived.Test.YtamekeebgkdhcaaGRingSteps05
import Derived.Test.YtamekeebgkdhcaaGRingSteps07
import Derived.Test.YtamekeebgkdhcaaGRingSteps09
/- A step of any of them, and what lies in the sides. Condition: the plan is right, the thread is there, the counts are small. -/
namespace Go.Proofs.Ytamekeebgkdhcaa
open Go.RowKit
set_option linter.unusedVariables false
theorem mc_push (P T R : Int) (t : Nat) (k : Mc) : mcCells P T R (2 * t) k = puCells P T R (t : Int) k.v k.x k.nx k.fl ∧ mcType (2 * t) = 85 ∧ mcTie R (2 * t) k = (PuTie R k.x k.nx k.fl k.tp.H ∧ U64 k.v) := by
  have h1 : 2 * t % 2 = 0 := by omega
  have h2 : 2 * t / 2 = t := by omega
  refine ⟨by unfold mcCells; rw [if_pos h1, h2], by unfold mcType; rw [if_pos h1], by unfold mcTie; rw [if_pos h1]⟩
theorem mc_pop (P T R : Int) (t : Nat) (k : Mc) : mcCells P T R (2 * t + 1) k = poCells P T R (t : Int) k.v k.x k.nx k.fl ∧ mcType (2 * t + 1) = 87 ∧ mcTie R (2 * t + 1) k = PoTie k.x k.nx k.fl k.v k.tp.H := by
  have h1 : ¬ (2 * t + 1) % 2 = 0 := by omega
  have h2 : (2 * t + 1) / 2 = t := by omega
  refine ⟨by unfold mcCells; rw [if_neg h1, h2], by unfold mcType; rw [if_neg h1], by unfold mcTie; rw [if_neg h1]⟩
section
variable {w0 w w' : World} {Z : Nat → Prop} {B a c p sb M d : Nat} {P T R : Int} {sc : Array Value} {mk : Nat → Option Mc} {cs : List Int} {xs : List Value} {n : Nat} {lv lm : Value}
/-- what a step leaves -/
def GsStep (w0 : World) (Z : Nat → Prop) (B a c p sb M d : Nat) (P T R : Int) (sc : Array Value) (mk : Nat → Option Mc) (j : Nat) (k : Mc) (xs : List Value) (n : Nat) (w' : World) : Prop :=
  ∃ k' cs' xs' n' lv' lm', Gs w0 Z B a c p sb M d P T R sc (updM mk j k') cs' xs' n' lv' lm' w' ∧ k'.m = k.m ∧ k'.xa = k.xa ∧ k'.v = k.v ∧ Grown xs xs' n n' 9
def GsStep2 (w0 : World) (Z : Nat → Prop) (B a c p sb M d : Nat) (P T R : Int) (sc : Array Value) (mk : Nat → Option Mc) (j : Nat) (k : Mc) (xs : List Value) (n : Nat) (w' : World) : Prop :=
  ∃ k' cs' xs' n' lv' lm', Gs w0 Z B a c p sb M d P T R sc (updM mk j k') cs' xs' n' lv' lm' w' ∧ k'.m = k.m ∧ k'.xa = k.xa ∧ Grown xs xs' n n' 9
theorem Gs.pushes (h : Gs w0 Z B a c p sb M d P T R sc mk cs xs n lv lm w) (t : Nat) (k : Mc) (hk : mk (2 * t) = some k) (b1 b2 b3 : Int) (off : Nat) (bare : Bool)
    (hs : Hid (sc[off]? = some (.pointer (some ⟨k.m, 0, none⟩)) ∧ sc[off + 2]? = some (.pointer (some ⟨k.xa, 0, none⟩)) ∧ sc[off + 4]? = some (.int .u64 k.v))) (hx : exB P T R (t : Int) = true) (hn : n < 1000000) :
    Calls Try.prog 12 #[.pointer (some ⟨sb, off, none⟩), .pointer (some ⟨p, 0, none⟩), .pointer (some ⟨M, 0, none⟩), .agg #[.int .i64 P, .int .i64 T, .int .i64 R, .int .i64 b1, .int .i64 b2, .int .i64 b3], .int .i64 (t : Int), .bool bare] w fun e w' => e = .returned (.bool true) ∧ GsStep w0 Z B a c p sb M d P T R sc mk (2 * t) k xs n w' := by
  obtain ⟨c1, c2, c3⟩ := mc_push P T R t k
  obtain ⟨_, _, q3, q4⟩ := h.at' _ k hk
  rw [c3] at q3
  have hq := h.pq hk
  rw [c1, c2] at hq
  refine (pushes_any b1 b2 b3 off bare hq hs hx q3.1 q4 h.hc h.hl hn q3.2).mono ?_
  rintro e w' ⟨he, tl, nx, fu, cs', xs', n', tp', lv', lm', hv', hQ, tie, gr, al⟩
  refine ⟨he, { k with hv := hv', tp := tp', x := tl, nx := nx, fl := fu }, cs', xs', n', lv', lm', ?_, rfl, rfl, rfl, gr⟩
  obtain ⟨c1', c2', c3'⟩ := mc_push P T R t { k with hv := hv', tp := tp', x := tl, nx := nx, fl := fu }
  exact h.after hk (k' := { k with hv := hv', tp := tp', x := tl, nx := nx, fl := fu }) rfl rfl (by rw [c1', c2']; exact hQ) (by rw [c3']; exact ⟨tie, q3.2⟩) al.hu al.hc (al.hl.trans h.hl)
theorem Gs.pops (h : Gs w0 Z B a c p sb M d P T R sc mk cs xs n lv lm w) (t : Nat) (k : Mc) (hk : mk (2 * t + 1) = some k) (b1 b2 b3 : Int) (off : Nat) (bare : Bool)
    (hs : Hid (sc[off + 1]? = some (.pointer (some ⟨k.m, 0, none⟩)) ∧ sc[off + 3]? = some (.pointer (some ⟨k.xa, 0, none⟩)))) (hx : exB P T R (t : Int) = true) (hn : n < 1000000) :
    Calls Try.prog 13 #[.pointer (some ⟨sb, off, none⟩), .pointer (some ⟨p, 0, none⟩), .pointer (some ⟨M, 0, none⟩), .agg #[.int .i64 P, .int .i64 T, .int .i64 R, .int .i64 b1, .int .i64 b2, .int .i64 b3], .int .i64 (t : Int), .bool bare] w fun e w' => e = .returned (.bool true) ∧ GsStep2 w0 Z B a c p sb M d P T R sc mk (2 * t + 1) k xs n w' := by
  obtain ⟨c1, c2, c3⟩ := mc_pop P T R t k
  obtain ⟨_, _, q3, q4⟩ := h.at' _ k hk
  rw [c3] at q3
  have hq := h.pq hk
  rw [c1, c2] at hq
  refine (pops_any b1 b2 b3 off bare hq hs hx q3 q4 h.hc h.hl hn).mono ?_
  rintro e w' ⟨he, v', hd, nx, em, cs', xs', n', tp', lv', lm', hv', hQ, tie, gr, al⟩
  refine ⟨he, { k with hv := hv', tp := tp', v := v', x := hd, nx := nx, fl := em }, cs', xs', n', lv', lm', ?_, rfl, rfl, gr⟩
  obtain ⟨c1', c2', c3'⟩ := mc_pop P T R t { k with hv := hv', tp := tp', v := v', x := hd, nx := nx, fl := em }
  exact h.after hk (k' := { k with hv := hv', tp := tp', v := v', x := hd, nx := nx, fl := em }) rfl rfl (by rw [c1', c2']; exact hQ) (by rw [c3']; exact tie) al.hu al.hc (al.hl.trans h.hl)
end
/-- the sides' cells -/
structure SideOk (T : Nat) (sc : Array Value) (mk : Nat → Option Mc) : Prop where
  sz : sc.size = 5 * T
  pu : ∀ t, t < T → (mk (2 * t) = none ∧ sc[5 * t]? = some (.pointer none)) ∨ ∃ k, mk (2 * t) = some k ∧ sc[5 * t]? = some (.pointer (some ⟨k.m, 0, none⟩)) ∧ sc[5 * t + 2]? = some (.pointer (some ⟨k.xa, 0, none⟩)) ∧ sc[5 * t + 4]? = some (.int .u64 k.v)
  po : ∀ t, t < T → (mk (2 * t + 1) = none ∧ sc[5 * t + 1]? = some (.pointer none)) ∨ ∃ k, mk (2 * t + 1) = some k ∧ sc[5 * t + 1]? = some (.pointer (some ⟨k.m, 0, none⟩)) ∧ sc[5 * t + 3]? = some (.pointer (some ⟨k.xa, 0, none⟩))
theorem updM_same (mk : Nat → Option Mc) (j : Nat) (k : Mc) : updM mk j k j = some k := if_pos rfl
theorem updM_other (mk : Nat → Option Mc) {i j : Nat} (k : Mc) (h : i ≠ j) : updM mk j k i = mk i := if_neg h
theorem SideOk.stepU {T : Nat} {sc : Array Value} {mk : Nat → Option Mc} (h : SideOk T sc mk) {t : Nat} {k k' : Mc} (hk : mk (2 * t) = some k) (h1 : k'.m = k.m) (h2 : k'.xa = k.xa) (h3 : k'.v = k.v) : SideOk T sc (updM mk (2 * t) k') := by
  refine ⟨h.sz, fun s hs => ?_, fun s hs => ?_⟩
  · by_cases e : s = t
    · subst e
      rcases h.pu s hs with ⟨q, _⟩ | ⟨k2, q, q1, q2, q3⟩
      · rw [hk] at q; cases q
      · obtain rfl := Option.some.inj (hk.symm.trans q)
        exact .inr ⟨k', updM_same _ _ _, by rw [h1]; exact q1, by rw [h2]; exact q2, by rw [h3]; exact q3⟩
    · rw [updM_other mk k' (show 2 * s ≠ 2 * t by omega)]; exact h.pu s hs
  · rw [updM_other mk k' (show 2 * s + 1 ≠ 2 * t by omega)]; exact h.po s hs
theorem SideOk.stepO {T : Nat} {sc : Array Value} {mk : Nat → Option Mc} (h : SideOk T sc mk) {t : Nat} {k k' : Mc} (hk : mk (2 * t + 1) = some k) (h1 : k'.m = k.m) (h2 : k'.xa = k.xa) : SideOk T sc (updM mk (2 * t + 1) k') := by
  refine ⟨h.sz, fun s hs => ?_, fun s hs => ?_⟩
  · rw [updM_other mk k' (show 2 * s ≠ 2 * t + 1 by omega)]; exact h.pu s hs
  · by_cases e : s = t
    · subst e
      rcases h.po s hs with ⟨q, _⟩ | ⟨k2, q, q1, q2⟩
      · rw [hk] at q; cases q
      · obtain rfl := Option.some.inj (hk.symm.trans q)
        exact .inr ⟨k', updM_same _ _ _, by rw [h1]; exact q1, by rw [h2]; exact q2⟩
    · rw [updM_other mk k' (show 2 * s + 1 ≠ 2 * t + 1 by omega)]; exact h.po s hs
theorem set_at {sc : Array Value} {i j : Nat} {v : Value} (h : i ≠ j) : (sc.setIfInBounds i v)[j]? = sc[j]? := by simp [h]
theorem set_eq {sc : Array Value} {i : Nat} {v : Value} (h : i < sc.size) : (sc.setIfInBounds i v)[i]? = some v := by simp [h]
theorem SideOk.newU {T : Nat} {sc : Array Value} {mk : Nat → Option Mc} (h : SideOk T sc mk) {t : Nat} (ht : t < T) (k : Mc) :
    SideOk T (((sc.setIfInBounds (5 * t) (.pointer (some ⟨k.m, 0, none⟩))).setIfInBounds (5 * t + 2) (.pointer (some ⟨k.xa, 0, none⟩))).setIfInBounds (5 * t + 4) (.int .u64 k.v)) (updM mk (2 * t) k) := by
  have hz := h.sz
  refine ⟨by simp [hz], fun s hs => ?_, fun s hs => ?_⟩
  · by_cases e : s = t
    · subst e
      refine .inr ⟨k, updM_same _ _ _, ?_, ?_, set_eq (by simp; omega)⟩
      · rw [set_at (by omega), set_at (by omega)]; exact set_eq (by omega)
      · rw [set_at (by omega)]; exact set_eq (by simp; omega)
    · rw [updM_other mk k (show 2 * s ≠ 2 * t by omega), set_at (by omega), set_at (by omega), set_at (by omega), set_at (by omega), set_at (by omega), set_at (by omega), set_at (by omega), set_at (by omega), set_at (by omega)]
      exact h.pu s hs
  · rw [updM_other mk k (show 2 * s + 1 ≠ 2 * t by omega), set_at (by omega), set_at (by omega), set_at (by omega), set_at (by omega), set_at (by omega), set_at (by omega)]
    exact h.po s hs
theorem SideOk.newO {T : Nat} {sc : Array Value} {mk : Nat → Option Mc} (h : SideOk T sc mk) {t : Nat} (ht : t < T) (k : Mc) :
    SideOk T ((sc.setIfInBounds (5 * t + 1) (.pointer (some ⟨k.m, 0, none⟩))).setIfInBounds (5 * t + 3) (.pointer (some ⟨k.xa, 0, none⟩))) (updM mk (2 * t + 1) k) := by
  have hz := h.sz
  refine ⟨by simp [hz], fun s hs => ?_, fun s hs => ?_⟩
  · rw [updM_other mk k (show 2 * s ≠ 2 * t + 1 by omega), set_at (by omega), set_at (by omega), set_at (by omega), set_at (by omega), set_at (by omega), set_at (by omega)]
    exact h.pu s hs
  · by_cases e : s = t
    · subst e
      refine .inr ⟨k, updM_same _ _ _, ?_, set_eq (by simp; omega)⟩
      rw [set_at (by omega)]; exact set_eq (by omega)
    · rw [updM_other mk k (show 2 * s + 1 ≠ 2 * t + 1 by omega), set_at (by omega), set_at (by omega), set_at (by omega), set_at (by omega)]
      exact h.po s hs
/-- the log's accesses one by one -/
def GoodL (xs : List Value) (n : Nat) : Prop := ∃ F, xs = flat F (List.range n)
theorem flat_congr2 {F G : Nat → Nat → Int} {l : List Nat} (h : ∀ i ∈ l, ∀ j, F i j = G i j) : flat F l = flat G l := by
  have hF : ∀ i ∈ l, F i = G i := fun i hi => funext (h i hi)
  induction l with
  | nil => rfl
  | cons a l ih =>
    have := ih (fun i hi => h i (by simp [hi])) (fun i hi => hF i (by simp [hi]))
    simp only [flat, List.flatMap_cons] at this ⊢
    rw [this]
    simp only [hF a (by simp)]
theorem GoodL.next {xs : List Value} {n : Nat} (h : GoodL xs n) (who k i wn q s l : Int) : GoodL (xs ++ accV who k i wn q s l) (n + 1) := by
  obtain ⟨F, rfl⟩ := h
  refine ⟨fun r j => if r = n then ([who, k, i, wn, q, s, l] : List Int).getD j 0 else F r j, ?_⟩
  rw [List.range_succ, flat_snoc]
  congr 1
  · exact flat_congr2 (fun r hr j => by have := List.mem_range.1 hr; rw [if_neg (by omega)])
  · simp [accV]
theorem GoodL.grown {xs xs' : List Value} {n n' : Nat} {who : Int} (h : GoodL xs n) (g : Grown xs xs' n n' who) : GoodL xs' n' ∧ n' ≤ n + 1 := by
  rcases g with ⟨rfl, rfl⟩ | ⟨rfl, k, i, wn, q, s, l, rfl⟩
  · exact ⟨h, by omega⟩
  · exact ⟨h.next .., by omega⟩
end Go.Proofs.Ytamekeebgkdhcaa
/- Words for the laws of package ring: an arena is laid, a push is stepped to its end; a ring of one place takes one word. Condition: the plan is right. -/
namespace Go.Proofs.Ytamekeebgkdhcaa
open Go.RowKit
theorem cellsN_bd {P T R : Int} (h : Right P T R) : ((cellsN P T R : Nat) : Int) = baseI P T R + 64 * P ∧ 1 ≤ cellsN P T R ∧ cellsN P T R ≤ 2304 := by
  have hb := base_bd h
  obtain ⟨⟨p1, p2⟩, _⟩ := h
  unfold cellsN
  omega
def LayPost (P T R who : Int) (w : World) (e : Ending) (w' : World) : Prop :=
  ∃ a c p, e = .returned (.tuple #[.pointer (some ⟨a, 0, none⟩), .pointer (some ⟨p, 0, none⟩), .bool true]) ∧ Arx w' w.heap.size a c (List.replicate (cellsN P T R) 0) [] 0 [p] ∧ PortAt w' p a who false ∧ w.heap.size ≤ p ∧ Below w.heap.size w w'
set_option maxHeartbeats 400000 in
theorem rplan_any (P T R : Int) (w : World) :
    Calls Try.prog 10 #[.agg #[.int .i64 P, .int .i64 T, .int .i64 R]] w fun e w' => e = .returned (.agg #[.int .i64 P, .int .i64 T, .int .i64 R]) ∧ Below w.heap.size w w' := by
  go_enter Try.func10, Try.ntmps10
  have c0 := (planNew w P T R 23)
  go_wp2
  refine bodyPost_ret (v := .agg #[.int .i64 P, .int .i64 T, .int .i64 R]) (by simp [results, Try.results10, go_sem, *]) rfl ⟨rfl, ?_⟩
  exact c0.2.trans ((Below.refl _ _).alloc (by simp) _)
set_option maxHeartbeats 1000000 in
theorem lay_yes (P T R who : Int) (w : World) (h : Right P T R) (h0 : 0 ≤ who) (h1 : who ≤ 15) :
    Calls Try.prog 6 #[.agg #[.int .i64 P, .int .i64 T, .int .i64 R], .int .i64 who] w (LayPost P T R who w) := by
  obtain ⟨hc, hc1, hc2⟩ := cellsN_bd h
  have C := Lib.hid (fun W => rcells_yes P T R W h)
  rw [← hc] at C
  have N := Lib.hid (fun W => new_yes (cellsN P T R) true W hc1 (by omega))
  clear hc hc1 hc2 h
  go_enter Try.func6, Try.ntmps6
  have c0 := (planNew w P T R 23)
  go_wp2_with fail
  refine (C.out _).mono ?_; rintro e w1 ⟨rfl, hb1⟩
  have c1 := planKeep c0 hb1
  have hB1 := c1.2
  clear c0 hb1 c1
  go_wp2_with fail
  refine (N.out _).mono ?_; rintro e w2 ⟨a, c, rfl, hA2, ha, hc, hb2⟩
  have hB2 := hB1.trans (hb2.mono hB1.size)
  have hX2 : Arx w2 w.heap.size a c (List.replicate (cellsN P T R) 0) [] 0 [] := hA2.arx (Nat.le_trans hB1.size ha) (Nat.le_trans hB1.size hc) hB2.size
  clear hA2 hb2 hB1
  go_wp2_with fail
  refine (port_yes a who _ h0 h1).mono ?_; rintro e w3 ⟨p, rfl, hP3, hp, hb3⟩
  have hX3 := hX2.add hb3 hp hP3.lt
  have hB3 := hB2.trans (hb3.mono hB2.size)
  have hp' := Nat.le_trans hB2.size hp
  clear hX2 hb3 hB2
  go_wp2
  go_ret3
  exact ⟨a, c, p, rfl, hX3, hP3, hp', hB3⟩
/-- the machine, the arena and the port, whatever the log tells -/
def PuE (w0 : World) (B a c p m : Nat) (P T R t v tl nx : Int) (fu : Bool) (cs : List Int) (n : Nat) (K : List Nat) (who : Int) (o : Bool) (w : World) : Prop :=
  ∃ xs, PuS w0 B a c p m P T R t v tl nx fu cs xs n K who o w
def PoE (w0 : World) (B a c p m : Nat) (P T R t v tl nx : Int) (fu : Bool) (cs : List Int) (n : Nat) (K : List Nat) (who : Int) (o : Bool) (w : World) : Prop :=
  ∃ xs, PoS w0 B a c p m P T R t v tl nx fu cs xs n K who o w
/-- what all steps of a machine at a thread's ring need -/
structure Ready (P T R t : Int) (p m : Nat) (cs : List Int) (K : List Nat) : Prop where
  ex : exB P T R t = true
  ne : m ≠ p
  hm : m ∈ K
  hp : p ∈ K
  len : cs.length = cellsN P T R
theorem Ready.set {P T R t : Int} {p m : Nat} {cs : List Int} {K : List Nat} (h : Ready P T R t p m cs K) (i : Nat) (x : Int) : Ready P T R t p m (cs.set i x) K := ⟨h.ex, h.ne, h.hm, h.hp, by rw [List.length_set]; exact h.len⟩
section
variable {w0 w w' : World} {B a c p m : Nat} {P T R t v tl nx : Int} {fu : Bool} {cs : List Int} {n : Nat} {K : List Nat} {who : Int} {o : Bool}
theorem PuE.grant (h : PuE w0 B a c p m P T R t v tl nx fu cs n K who o w) (hr : Ready P T R t p m cs K) :
    Calls Try.prog 32 #[.pointer (some ⟨p, 0, none⟩)] w fun e w' => (∃ v, e = .returned v) ∧ PuE w0 B a c p m P T R t v tl nx fu cs n K who true w' := by
  obtain ⟨xs, h⟩ := h
  exact (grant_at p a who o w h.port).mono fun _ _ ⟨he, hP, hT⟩ => ⟨he, xs, h.mach.touch hT hr.ne, h.arx.touch hT (fun _ e => e ▸ hr.hp), hP, h.touch.trans (hT.mono fun _ _ e => .inl e)⟩
theorem PuE.step1 (h : PuE w0 B a c p m P T R t v tl 1 fu cs n K who true w) (hr : Ready P T R t p m cs K) (hn : n < 1000000) :
    Calls Try.prog 35 #[.pointer (some ⟨m, 0, none⟩), .pointer (some ⟨p, 0, none⟩)] w fun e w' => e = .returned (.bool false) ∧ PuE w0 B a c p m P T R t v (cs.getD (ownN R t 4) 0) 2 fu cs (n + 1) K who false w' := by
  obtain ⟨xs, h⟩ := h
  exact (push_step1 h hr.ex hr.ne hr.hm hr.hp hn hr.len).mono fun _ _ ⟨he, h⟩ => ⟨he, _, h⟩
theorem PuE.step2f (h : PuE w0 B a c p m P T R t v tl 2 fu cs n K who true w) (hr : Ready P T R t p m cs K) (hn : n < 1000000) (hf : fullB R tl (cs.getD (ownN R t 3) 0) = true) :
    Calls Try.prog 35 #[.pointer (some ⟨m, 0, none⟩), .pointer (some ⟨p, 0, none⟩)] w fun e w' => e = .returned (.bool true) ∧ PuE w0 B a c p m P T R t v tl 0 true cs (n + 1) K who false w' := by
  obtain ⟨xs, h⟩ := h
  exact (push_step2_full h hr.ex hr.ne hr.hm hr.hp hn hr.len hf).mono fun _ _ ⟨he, h⟩ => ⟨he, _, h⟩
theorem PuE.step2r (h : PuE w0 B a c p m P T R t v tl 2 fu cs n K who true w) (hr : Ready P T R t p m cs K) (hn : n < 1000000) (hf : fullB R tl (cs.getD (ownN R t 3) 0) = false) :
    Calls Try.prog 35 #[.pointer (some ⟨m, 0, none⟩), .pointer (some ⟨p, 0, none⟩)] w fun e w' => e = .returned (.bool false) ∧ PuE w0 B a c p m P T R t v tl 3 fu cs (n + 1) K who false w' := by
  obtain ⟨xs, h⟩ := h
  exact (push_step2_room h hr.ex hr.ne hr.hm hr.hp hn hr.len hf).mono fun _ _ ⟨he, h⟩ => ⟨he, _, h⟩
theorem PuE.step3 (h : PuE w0 B a c p m P T R t v tl 3 fu cs n K who true w) (hr : Ready P T R t p m cs K) (hn : n < 1000000) (hu : U64 tl) :
    Calls Try.prog 35 #[.pointer (some ⟨m, 0, none⟩), .pointer (some ⟨p, 0, none⟩)] w fun e w' => e = .returned (.bool false) ∧ PuE w0 B a c p m P T R t v tl 4 fu (cs.set (slotN R t tl) v) (n + 1) K who false w' := by
  obtain ⟨xs, h⟩ := h
  exact (push_step3 h hr.ex hr.ne hr.hm hr.hp hn hr.len hu).mono fun _ _ ⟨he, h⟩ => ⟨he, _, h⟩
theorem PuE.step4 (h : PuE w0 B a c p m P T R t v tl 4 fu cs n K who true w) (hr : Ready P T R t p m cs K) (hn : n < 1000000) :
    Calls Try.prog 35 #[.pointer (some ⟨m, 0, none⟩), .pointer (some ⟨p, 0, none⟩)] w fun e w' => e = .returned (.bool true) ∧ PuE w0 B a c p m P T R t v tl 0 fu (cs.set (ownN R t 4) (IntKind.u64.wrap (tl + 1))) (n + 1) K who false w' := by
  obtain ⟨xs, h⟩ := h
  exact (push_step4 h hr.ex hr.ne hr.hm hr.hp hn hr.len).mono fun _ _ ⟨he, h⟩ => ⟨he, _, h⟩
/-- a push that finds no room is over behind two steps -/
theorem finish_full (h : PuE w0 B a c p m P T R t v tl 1 fu cs n K who o w) (hr : Ready P T R t p m cs K) (hn : n < 999990) (hf : fullB R (cs.getD (ownN R t 4) 0) (cs.getD (ownN R t 3) 0) = true) :
    Calls Try.prog 20 #[.pointer (some ⟨p, 0, none⟩), .pointer (some ⟨m, 0, none⟩)] w fun e w' => e = .returned (.int .i64 2) ∧ PuE w0 B a c p m P T R t v (cs.getD (ownN R t 4) 0) 0 true cs (n + 2) K who false w' := by
  have G1 := Lib.hid (fun W o (h : PuE w0 B a c p m P T R t v tl 1 fu cs n K who o W) => h.grant hr)
  have S1 := Lib.hid (fun W (h : PuE w0 B a c p m P T R t v tl 1 fu cs n K who true W) => h.step1 hr (by omega))
  have G2 := Lib.hid (fun W o (h : PuE w0 B a c p m P T R t v (cs.getD (ownN R t 4) 0) 2 fu cs (n + 1) K who o W) => h.grant hr)
  have S2 := Lib.hid (fun W (h : PuE w0 B a c p m P T R t v (cs.getD (ownN R t 4) 0) 2 fu cs (n + 1) K who true W) => h.step2f hr (by omega) hf)
  clear hf
  generalize cs.getD (ownN R t 4) 0 = z at *
  go_enter Try.func20, Try.ntmps20
  go_wp2
  go_loopw [5] (fun i wr => ∃ k : Int, (k = 1 ∧ PuE w0 B a c p m P T R t v tl 1 fu cs n K who o wr ∨ k = 2 ∧ PuE w0 B a c p m P T R t v z 2 fu cs (n + 1) K who false wr) ∧ i = .int .i64 k) (fun i _ => (5 - intOf i).toNat)
  case atStart => exact ⟨1, .inl ⟨rfl, h⟩, rfl⟩
  case round =>
    obtain ⟨k, (⟨rfl, h1⟩ | ⟨rfl, h1⟩), rfl⟩ := hrel
    · go_wp2_with fail
      refine (G1.out _ _ h1).mono ?_; rintro e w1 ⟨⟨u1, rfl⟩, h2⟩
      go_wp2_with fail
      refine (S1.out _ h2).mono ?_; rintro e w2 ⟨rfl, h3⟩
      go_wp2
      go_roundw
      case rel => exact ⟨2, .inr ⟨rfl, h3⟩, by go_num⟩
      case measure => simp [intOf]
    · go_wp2_with fail
      refine (G2.out _ _ h1).mono ?_; rintro e w1 ⟨⟨u1, rfl⟩, h2⟩
      go_wp2_with fail
      refine (S2.out _ h2).mono ?_; rintro e w2 ⟨rfl, h3⟩
      go_wp2
      go_ret
      exact ⟨rfl, h3⟩
/-- what a push leaves in the cells -/
def pushed (R t : Int) (cs : List Int) (v : Int) : List Int := (cs.set (slotN R t (cs.getD (ownN R t 4) 0)) v).set (ownN R t 4) (IntKind.u64.wrap (cs.getD (ownN R t 4) 0 + 1))
/-- a push that finds room is over behind four steps -/
theorem finish_room (h : PuE w0 B a c p m P T R t v tl 1 fu cs n K who o w) (hr : Ready P T R t p m cs K) (hn : n < 999990) (hf : fullB R (cs.getD (ownN R t 4) 0) (cs.getD (ownN R t 3) 0) = false) (hu : U64 (cs.getD (ownN R t 4) 0)) :
    Calls Try.prog 20 #[.pointer (some ⟨p, 0, none⟩), .pointer (some ⟨m, 0, none⟩)] w fun e w' => e = .returned (.int .i64 4) ∧ PuE w0 B a c p m P T R t v (cs.getD (ownN R t 4) 0) 0 fu (pushed R t cs v) (n + 4) K who false w' := by
  have G1 := Lib.hid (fun W o (h : PuE w0 B a c p m P T R t v tl 1 fu cs n K who o W) => h.grant hr)
  have S1 := Lib.hid (fun W (h : PuE w0 B a c p m P T R t v tl 1 fu cs n K who true W) => h.step1 hr (by omega))
  have G2 := Lib.hid (fun W o (h : PuE w0 B a c p m P T R t v (cs.getD (ownN R t 4) 0) 2 fu cs (n + 1) K who o W) => h.grant hr)
  have S2 := Lib.hid (fun W (h : PuE w0 B a c p m P T R t v (cs.getD (ownN R t 4) 0) 2 fu cs (n + 1) K who true W) => h.step2r hr (by omega) hf)
  have G3 := Lib.hid (fun W o (h : PuE w0 B a c p m P T R t v (cs.getD (ownN R t 4) 0) 3 fu cs (n + 2) K who o W) => h.grant hr)
  have S3 := Lib.hid (fun W (h : PuE w0 B a c p m P T R t v (cs.getD (ownN R t 4) 0) 3 fu cs (n + 2) K who true W) => h.step3 hr (by omega) hu)
  have G4 := Lib.hid (fun W o (h : PuE w0 B a c p m P T R t v (cs.getD (ownN R t 4) 0) 4 fu (cs.set (slotN R t (cs.getD (ownN R t 4) 0)) v) (n + 3) K who o W) => h.grant (hr.set _ _))
  have S4 := Lib.hid (fun W (h : PuE w0 B a c p m P T R t v (cs.getD (ownN R t 4) 0) 4 fu (cs.set (slotN R t (cs.getD (ownN R t 4) 0)) v) (n + 3) K who true W) => h.step4 (hr.set _ _) (by omega))
  clear hf hu
  unfold pushed
  generalize cs.getD (ownN R t 4) 0 = z at *
  go_enter Try.func20, Try.ntmps20
  go_wp2
  go_loopw [5] (fun i wr => ∃ k : Int, (k = 1 ∧ PuE w0 B a c p m P T R t v tl 1 fu cs n K who o wr ∨ k = 2 ∧ PuE w0 B a c p m P T R t v z 2 fu cs (n + 1) K who false wr ∨ k = 3 ∧ PuE w0 B a c p m P T R t v z 3 fu cs (n + 2) K who false wr ∨ k = 4 ∧ PuE w0 B a c p m P T R t v z 4 fu (cs.set (slotN R t z) v) (n + 3) K who false wr) ∧ i = .int .i64 k) (fun i _ => (5 - intOf i).toNat)
  case atStart => exact ⟨1, .inl ⟨rfl, h⟩, rfl⟩
  case round =>
    obtain ⟨k, (⟨rfl, h1⟩ | ⟨rfl, h1⟩ | ⟨rfl, h1⟩ | ⟨rfl, h1⟩), rfl⟩ := hrel
    · go_wp2_with fail
      refine (G1.out _ _ h1).mono ?_; rintro e w1 ⟨⟨u1, rfl⟩, h2⟩
      go_wp2_with fail
      refine (S1.out _ h2).mono ?_; rintro e w2 ⟨rfl, h3⟩
      go_wp2
      go_roundw
      case rel => exact ⟨2, .inr (.inl ⟨rfl, h3⟩), by go_num⟩
      case measure => simp [intOf]
    · go_wp2_with fail
      refine (G2.out _ _ h1).mono ?_; rintro e w1 ⟨⟨u1, rfl⟩, h2⟩
      go_wp2_with fail
      refine (S2.out _ h2).mono ?_; rintro e w2 ⟨rfl, h3⟩
      go_wp2
      go_roundw
      case rel => exact ⟨3, .inr (.inr (.inl ⟨rfl, h3⟩)), by go_num⟩
      case measure => simp [intOf]
    · go_wp2_with fail
      refine (G3.out _ _ h1).mono ?_; rintro e w1 ⟨⟨u1, rfl⟩, h2⟩
      go_wp2_with fail
      refine (S3.out _ h2).mono ?_; rintro e w2 ⟨rfl, h3⟩
      go_wp2
      go_roundw
      case rel => exact ⟨4, .inr (.inr (.inr ⟨rfl, h3⟩)), by go_num⟩
      case measure => simp [intOf]
    · go_wp2_with fail
      refine (G4.out _ _ h1).mono ?_; rintro e w1 ⟨⟨u1, rfl⟩, h2⟩
      go_wp2_with fail
      refine (S4.out _ h2).mono ?_; rintro e w2 ⟨rfl, h3⟩
      go_wp2
      go_ret
      exact ⟨rfl, h3⟩
end
end Go.Proofs.Ytamekeebgkdhcaa
/- What ringed returns: a ring of one place takes one word, and no other. No condition. -/
namespace Go.Proofs.Ytamekeebgkdhcaa
open Go.RowKit
theorem PuE.mach {w0 w : World} {B a c p m : Nat} {P T R t v tl nx : Int} {fu : Bool} {cs : List Int} {n : Nat} {K : List Nat} {who : Int} {o : Bool} (h : PuE w0 B a c p m P T R t v tl nx fu cs n K who o w) : PushAt w m P T R t v tl nx fu := by
  obtain ⟨xs, h⟩ := h; exact h.mach
theorem PuE.port {w0 w : World} {B a c p m : Nat} {P T R t v tl nx : Int} {fu : Bool} {cs : List Int} {n : Nat} {K : List Nat} {who : Int} {o : Bool} (h : PuE w0 B a c p m P T R t v tl nx fu cs n K who o w) : PortAt w p a who o := by
  obtain ⟨xs, h⟩ := h; exact h.port
theorem PuE.touch {w0 w : World} {B a c p m : Nat} {P T R t v tl nx : Int} {fu : Bool} {cs : List Int} {n : Nat} {K : List Nat} {who : Int} {o : Bool} (h : PuE w0 B a c p m P T R t v tl nx fu cs n K who o w) : Touch (fun b => b = p ∨ b = m ∨ (B ≤ b ∧ b ∉ K)) w0 w := by
  obtain ⟨xs, h⟩ := h; exact h.touch
/-- an arena with a log, whatever the log tells -/
def Ary (w : World) (B a c : Nat) (cs : List Int) (n : Nat) (K : List Nat) : Prop := ∃ xs, Arx w B a c cs xs n K
theorem PuE.ary {w0 w : World} {B a c p m : Nat} {P T R t v tl nx : Int} {fu : Bool} {cs : List Int} {n : Nat} {K : List Nat} {who : Int} {o : Bool} (h : PuE w0 B a c p m P T R t v tl nx fu cs n K who o w) : Ary w B a c cs n K := by
  obtain ⟨xs, h⟩ := h; exact ⟨xs, h.arx⟩
section
variable {w w' : World} {B a c m : Nat} {cs : List Int} {n : Nat} {K : List Nat}
theorem Ary.grew (h : Ary w B a c cs n K) (hb : Below w.heap.size w w') : Ary w' B a c cs n K := by
  obtain ⟨xs, h⟩ := h; exact ⟨xs, h.grew hb⟩
theorem Ary.quiet (h : Ary w B a c cs n K) (hq : Quiet w w') : Ary w' B a c cs n K := h.grew hq.below
theorem Ary.add (h : Ary w B a c cs n K) (hb : Below w.heap.size w w') (hm : w.heap.size ≤ m) (hm' : m < w'.heap.size) : Ary w' B a c cs n (m :: K) := by
  obtain ⟨xs, h⟩ := h; exact ⟨xs, h.add hb hm hm'⟩
theorem Ary.sub {K' : List Nat} (h : Ary w B a c cs n K) (hs : ∀ b ∈ K', b ∈ K) : Ary w B a c cs n K' := by
  obtain ⟨xs, h⟩ := h; exact ⟨xs, h.sub hs⟩
theorem Ary.count (h : Ary w B a c cs n K) : Calls Try.prog 22 #[.pointer (some ⟨a, 0, none⟩)] w fun e w' => e = .returned (.int .i64 n) ∧ Quiet w w' := by
  obtain ⟨xs, h⟩ := h; exact count_x h
theorem Ary.bw (h : Ary w B a c cs n K) : B ≤ w.heap.size := by
  obtain ⟨xs, h⟩ := h; exact h.bw
theorem Ary.touch {R : Nat → Prop} (h : Ary w B a c cs n K) (ht : Touch R w w') (hR : ∀ b, R b → b ∈ K) : Ary w' B a c cs n K := by
  obtain ⟨xs, h⟩ := h; exact ⟨xs, h.touch ht hR⟩
theorem Ary.pu {p : Nat} {P T R t v tl nx : Int} {fu : Bool} {who : Int} {o : Bool} (h : Ary w B a c cs n K) (hM : PushAt w m P T R t v tl nx fu) (hP : PortAt w p a who o) : PuE w B a c p m P T R t v tl nx fu cs n K who o w := by
  obtain ⟨xs, h⟩ := h; exact ⟨xs, .start hM h hP⟩
theorem Ary.po {p : Nat} {P T R t v tl nx : Int} {fu : Bool} {who : Int} {o : Bool} (h : Ary w B a c cs n K) (hM : PopAt w m P T R t v tl nx fu) (hP : PortAt w p a who o) : PoE w B a c p m P T R t v tl nx fu cs n K who o w := by
  obtain ⟨xs, h⟩ := h; exact ⟨xs, .start hM h hP⟩
end
set_option maxRecDepth 100000 in
set_option maxHeartbeats 2000000 in
theorem ringed_any (w : World) :
    Calls Try.prog 4 #[] w fun e w' => e = .returned (.bool true) ∧ Below w.heap.size w w' := by
  have hx : exB 1 1 1 0 = true := by kernel_rfl
  have f1 : fullB 1 ((List.replicate (cellsN 1 1 1) (0 : Int)).getD (ownN 1 0 4) 0) ((List.replicate (cellsN 1 1 1) (0 : Int)).getD (ownN 1 0 3) 0) = false := by kernel_rfl
  have u1 : U64 ((List.replicate (cellsN 1 1 1) (0 : Int)).getD (ownN 1 0 4) 0) := by
    have : (List.replicate (cellsN 1 1 1) (0 : Int)).getD (ownN 1 0 4) 0 = 0 := by kernel_rfl
    rw [this]; exact ⟨by decide, by decide⟩
  have f2 : fullB 1 ((pushed 1 0 (List.replicate (cellsN 1 1 1) (0 : Int)) 7).getD (ownN 1 0 4) 0) ((pushed 1 0 (List.replicate (cellsN 1 1 1) (0 : Int)) 7).getD (ownN 1 0 3) 0) = true := by kernel_rfl
  have hl : (List.replicate (cellsN 1 1 1) (0 : Int)).length = cellsN 1 1 1 := by simp
  have hl2 : (pushed 1 0 (List.replicate (cellsN 1 1 1) (0 : Int)) 7).length = cellsN 1 1 1 := by simp [pushed]
  have L := Lib.hid (fun W => lay_yes 1 1 1 0 W (right_of (by kernel_rfl)) (by decide) (by decide))
  have N7 := Lib.hid (fun W => newpush_yes 1 1 1 0 7 W hx (by decide))
  have N8 := Lib.hid (fun W => newpush_yes 1 1 1 0 8 W hx (by decide))
  have F1 := Lib.hid f1
  have F2 := Lib.hid f2
  have U1 := Lib.hid u1
  have H1 := Lib.hid hl
  have H2 := Lib.hid hl2
  have HX := Lib.hid hx
  clear f1 f2 u1 hl hl2 hx
  generalize hc1 : pushed 1 0 (List.replicate (cellsN 1 1 1) (0 : Int)) 7 = cs1 at *
  have HC := Lib.hid hc1
  clear hc1
  generalize hc0 : List.replicate (cellsN 1 1 1) (0 : Int) = cs0 at *
  have HC0 := Lib.hid hc0
  clear hc0
  go_enter Try.func4, Try.ntmps4
  go_wp2_with fail
  refine (L.out _).mono ?_; rintro e w1 ⟨a, c, p, rfl, hX1, hP1, hp, hB1⟩
  rw [HC0.out] at hX1
  have hY1 : Ary w1 w.heap.size a c cs0 0 [p] := ⟨_, hX1⟩
  clear hX1
  go_wp2_with fail
  refine (rplan_any 1 1 1 _).mono ?_; rintro e w2 ⟨rfl, hb2⟩
  have hY2 := hY1.grew hb2
  have hP2 := Blk.grew hP1 hb2
  have hB2 := hB1.trans (hb2.mono hB1.size)
  clear hY1 hP1 hb2 hB1
  go_wp2_with fail
  refine (N7.out _).mono ?_; rintro e w3 ⟨m1, rfl, hM3, hm1, hb3⟩
  have hY3 := hY2.add hb3 hm1 hM3.lt
  have hP3 := Blk.grew hP2 hb3
  have hB3 := hB2.trans (hb3.mono hB2.size)
  have lp2 := hP2.lt
  have lm1 := hM3.lt
  have lw2 := hB2.size
  clear hY2 hP2 hb3 hB2
  go_wp2_with fail
  refine (rplan_any 1 1 1 _).mono ?_; rintro e w4 ⟨rfl, hb4⟩
  have hY4 := hY3.grew hb4
  have hP4 := Blk.grew hP3 hb4
  have hM4 := Blk.grew hM3 hb4
  have hB4 := hB3.trans (hb4.mono hB3.size)
  have ls4 := hb4.size
  clear hY3 hP3 hb4 hB3 hM3
  go_wp2_with fail
  refine (N8.out _).mono ?_; rintro e w5 ⟨m2, rfl, hM5, hm2, hb5⟩
  have hY5 := hY4.add hb5 hm2 hM5.lt
  have hP5 := Blk.grew hP4 hb5
  have hN5 := Blk.grew hM4 hb5
  have hB5 := hB4.trans (hb5.mono hB4.size)
  clear hY4 hP4 hb5 hB4 hM4
  have R1 : Ready 1 1 1 0 p m1 cs0 [m2, m1, p] := ⟨HX.out, by omega, by simp, by simp, H1.out⟩
  have R2 : Ready 1 1 1 0 p m2 cs1 [m2, m1, p] := ⟨HX.out, by omega, by simp, by simp, H2.out⟩
  go_wp2_with fail
  refine (finish_room (hY5.pu hN5 hP5) R1 (by decide) F1.out U1.out).mono ?_; rintro e w6 ⟨rfl, h6⟩
  rw [HC.out] at h6
  have hM6 := Blk.touch hM5 h6.touch (by simp; omega)
  have hB6 := hB5.trans (h6.touch.below hB5.size (fun x hx => by rcases hx with rfl | rfl | hx <;> omega))
  clear hY5 hN5 hP5 hM5 hB5
  go_wp2_with fail
  refine (finish_full (h6.ary.pu hM6 h6.port) R2 (by decide) F2.out).mono ?_; rintro e w7 ⟨rfl, h7⟩
  have hM7 := Blk.touch h6.mach h7.touch (by simp; omega)
  have hB7 := hB6.trans (h7.touch.below hB6.size (fun x hx => by rcases hx with rfl | rfl | hx <;> omega))
  clear h6 hM6 hB6
  go_wp2_with fail
  refine (full_push hM7).mono ?_; rintro e w8 ⟨rfl, hq8⟩
  have hN8 := Blk.quiet h7.mach hq8
  have hY8 := h7.ary.quiet hq8
  have hB8 := hB7.trans hq8.below
  clear hM7 h7 hB7 hq8
  go_wp2_with fail
  refine (full_push hN8).mono ?_; rintro e w9 ⟨rfl, hq9⟩
  have hY9 := hY8.quiet hq9
  have hB9 := hB8.trans hq9.below
  clear hN8 hY8 hB8 hq9
  go_wp2_with fail
  refine hY9.count.mono ?_; rintro e w10 ⟨rfl, hq10⟩
  have hB10 := hB9.trans hq10.below
  go_wp2
  go_ret
  exact ⟨rfl, hB10⟩
end Go.Proofs.Ytamekeebgkdhcaa
/- What small of the laws of package ring returns: a plan within a few. No condition. -/
namespace Go.Proofs.Ytamekeebgkdhcaa
open Go.RowKit
def SmallPost (w : World) (e : Ending) (w' : World) : Prop :=
  ∃ P T R : Int, e = .returned (.agg #[.int .i64 P, .int .i64 T, .int .i64 R]) ∧ (1 ≤ P ∧ P ≤ 4) ∧ (1 ≤ T ∧ T ≤ 3) ∧ (1 ≤ R ∧ R ≤ 5) ∧ Below w.heap.size w w'
theorem small_bd (x k : Int) (h0 : 0 < k) (h1 : k ≤ 1000000) : 1 ≤ wrap64 (1 + wrap64 ((IntKind.u64.wrap x).tmod k)) ∧ wrap64 (1 + wrap64 ((IntKind.u64.wrap x).tmod k)) ≤ k := by
  have hw : 0 ≤ IntKind.u64.wrap x := by rw [IntKind.wrap_u64]; omega
  generalize IntKind.u64.wrap x = y at *
  have e : y.tmod k = y % k := by rw [Int.tmod_eq_emod_of_nonneg hw]
  have h2 : 0 ≤ y % k := Int.emod_nonneg _ (by omega)
  have h3 : y % k < k := Int.emod_lt_of_pos _ (by omega)
  rw [e]
  generalize y % k = z at *
  rw [IntWalk.wrap64_in z ⟨by omega, by omega⟩, IntWalk.wrap64_in (1 + z) ⟨by omega, by omega⟩]
  omega
set_option maxHeartbeats 1000000 in
theorem small_any (P T R : Int) (w : World) :
    Calls Try.prog 5 #[.agg #[.int .i64 P, .int .i64 T, .int .i64 R]] w (SmallPost w) := by
  go_enter Try.func5, Try.ntmps5
  have c0 := (planNew w P T R 23)
  go_wp2
  have hP := small_bd P 4 (by decide) (by decide)
  have hT := small_bd T 3 (by decide) (by decide)
  have hR := small_bd R 5 (by decide) (by decide)
  generalize wrap64 (1 + wrap64 ((IntKind.u64.wrap P).tmod 4)) = P' at *
  generalize wrap64 (1 + wrap64 ((IntKind.u64.wrap T).tmod 3)) = T' at *
  generalize wrap64 (1 + wrap64 ((IntKind.u64.wrap R).tmod 5)) = R' at *
  have hZ : Blk ((w.alloc (.cells #[.int .i64 P, .int .i64 T, .int .i64 R] 23)).alloc (.cells #[.int .i64 P', .int .i64 T', .int .i64 R'] 23)) (w.heap.size + 1) #[.int .i64 P', .int .i64 T', .int .i64 R'] 23 := Blk.new' (by simp)
  have z0 := hZ.val 0 rfl
  have z1 := hZ.val 1 rfl
  have z2 := hZ.val 2 rfl
  refine bodyPost_ret (v := .agg #[.int .i64 P', .int .i64 T', .int .i64 R']) (by simp [results, Try.results5, go_sem, z0, z1, z2]) rfl ⟨P', T', R', rfl, hP, hT, hR, ?_⟩
  exact c0.2.trans ((Below.refl _ _).alloc (by simp) _)
end Go.Proofs.Ytamekeebgkdhcaa
/- What ring's Waiting returns where the thread is there and its ring's counts are right. Condition: the arena is there, as great as the plan. -/
namespace Go.Proofs.Ytamekeebgkdhcaa
open Go.RowKit
/-- the words that wait: k from the count hd on -/
def waitL (R t hd : Int) (cs : List Int) (k : Nat) : List Int := (List.range k).map (fun (i : Nat) => cs.getD (slotN R t (IntKind.u64.wrap (hd + i))) 0)
theorem waitL_succ (R t hd : Int) (cs : List Int) (k : Nat) : waitL R t hd cs (k + 1) = waitL R t hd cs k ++ [cs.getD (slotN R t (IntKind.u64.wrap (hd + k))) 0] := by simp [waitL, List.range_succ]
theorem waitL_len (R t hd : Int) (cs : List Int) (k : Nat) : (waitL R t hd cs k).length = k := by simp [waitL]
def WaitPost (R t hd : Int) (cs : List Int) (k : Nat) (w : World) (e : Ending) (w' : World) : Prop :=
  ∃ v, e = .returned (.tuple #[v, .int .i64 0]) ∧ w'.ownsRow w.heap.size 41 1 v k ((waitL R t hd cs k).map (Value.int .u64)) ∧ Below w.heap.size w w'
theorem own_base {w : World} {base base' E size n : Nat} {v : Value} {xs : List Value} (h : w.ownsRow base E size v n xs) (hb : base' ≤ base) : w.ownsRow base' E size v n xs := by
  refine ⟨h.1, ?_⟩
  rcases h.2 with hn | ⟨g, cap, cur, h1, h2, rest⟩
  · exact .inl hn
  · exact .inr ⟨g, cap, cur, h1, Nat.le_trans hb h2, rest⟩
theorem Ary.peek {w : World} {B a c n i : Nat} {cs : List Int} {K : List Nat} (h : Ary w B a c cs n K) (hi : i < cs.length) (hm : cs.length ≤ 1000000) :
    Calls Try.prog 61 #[.pointer (some ⟨a, 0, none⟩), .int .i64 i] w fun e w' => e = .returned (.tuple #[.int .u64 (cs.getD i 0), .int .i64 0]) ∧ Quiet w w' := by
  obtain ⟨xs, h⟩ := h; exact peek_x h hi hm
set_option maxRecDepth 100000 in
set_option maxHeartbeats 1000000 in
theorem waiting_yes {B a c n : Nat} {cs : List Int} {K : List Nat} (P T R t hd tl : Int) (k : Nat) (w : World) (hA : Ary w B a c cs n K) (hx : exB P T R t = true) (hl : cs.length = cellsN P T R) (h1 : cs.getD (ownN R t 3) 0 = hd) (h2 : cs.getD (ownN R t 4) 0 = tl) (h3 : IntKind.u64.wrap (tl - hd) = k) (h4 : (k : Int) ≤ R) :
    Calls Try.prog 44 #[.pointer (some ⟨a, 0, none⟩), .agg #[.int .i64 P, .int .i64 T, .int .i64 R], .int .i64 t] w (WaitPost R t hd cs k w) := by
  obtain ⟨hN, hN1, hN2⟩ := cellsN_bd (exB_of hx).1
  have hm : cs.length ≤ 1000000 := by omega
  obtain ⟨r1, r2⟩ := ring_bd hx
  have i3 := ownN_bd hx 3 (by decide) (by omega)
  have i4 := ownN_bd hx 4 (by decide) (by omega)
  have EX := Lib.hid (fun W => exists_any P T R t W)
  rw [hx] at EX
  have HH := Lib.hid (fun W => head_any P T R t W)
  rw [i3.1] at HH
  have TT := Lib.hid (fun W => tail_any P T R t W)
  rw [i4.1] at TT
  have PH := Lib.hid (fun W (h : Ary W B a c cs n K) => h.peek (i := ownN R t 3) (by rw [hl]; exact i3.2.1) hm)
  rw [h1] at PH
  have PT := Lib.hid (fun W (h : Ary W B a c cs n K) => h.peek (i := ownN R t 4) (by rw [hl]; exact i4.2.1) hm)
  rw [h2] at PT
  have SL := Lib.hid (fun (j : Nat) W => (show Calls Try.prog 59 #[.agg #[.int .i64 P, .int .i64 T, .int .i64 R], .int .i64 t, .int .u64 (IntKind.u64.wrap (hd + j))] W fun e w' => e = .returned (.int .i64 (slotN R t (IntKind.u64.wrap (hd + j)))) ∧ Below W.heap.size W w' by
    have := slot_any P T R t (IntKind.u64.wrap (hd + j)) W (by rw [IntKind.wrap_u64]; exact ⟨by omega, by omega⟩)
    rw [(slotN_bd hx _).1] at this; exact this))
  have PS := Lib.hid (fun (j : Nat) W (h : Ary W B a c cs n K) => h.peek (i := slotN R t (IntKind.u64.wrap (hd + j))) (by rw [hl]; exact (slotN_bd hx _).2.1) hm)
  have hwR : IntKind.u64.wrap R = R := by rw [IntKind.wrap_u64]; omega
  have hgt : decide (R < (k : Int)) = false := decide_eq_false (by omega)
  obtain ⟨i0, hi0, hz0, hz1, hz2⟩ := info_parts info_u64
  have Z := Lib.hid (And.intro hi0 (And.intro hz0 (And.intro hz1 hz2)))
  clear hi0 hz0 hz1 hz2
  have hk16 : k ≤ 16 := by omega
  clear hN hN1 hN2 i3 i4 h1 h2 hl hm hx
  generalize ownN R t 3 = i3 at *
  generalize ownN R t 4 = i4 at *
  have hA0 := hA.grew ((Below.refl _ _).alloc (Nat.le_refl _) (.cells #[.int .i64 P, .int .i64 T, .int .i64 R] 53))
  have hBx := Blk.new w #[.int .i64 P, .int .i64 T, .int .i64 R] 53
  have hB0 : Below w.heap.size w (w.alloc (.cells #[.int .i64 P, .int .i64 T, .int .i64 R] 53)) := (Below.refl _ _).alloc (Nat.le_refl _) _
  clear hA
  have b0 := hBx.three.1
  go_enter Try.func44, Try.ntmps44
  go_wp2_with fail
  generalize w.alloc (.cells #[.int .i64 P, .int .i64 T, .int .i64 R] 53) = w0 at *
  have hsz0 := hB0.size
  generalize hbq : w.heap.size = bq at *
  refine (EX.out _).mono ?_; rintro e w1 ⟨rfl, hb1⟩
  have hA1 := hA0.grew hb1
  have b1 := (hBx.grew hb1).three.1
  have g1 := hb1
  clear hb1 b0
  go_wp2_with fail
  refine (HH.out _).mono ?_; rintro e w2 ⟨rfl, hb2⟩
  have hA2 := hA1.grew hb2
  have g2 := g1.trans (hb2.mono g1.size)
  clear hb2 b1 hA1 g1
  go_wp2_with fail
  refine (PH.out _ hA2).mono ?_; rintro e w3 ⟨rfl, hq3⟩
  have hA3 := hA2.quiet hq3
  have g3 := g2.trans hq3.below
  have b3 := (hBx.grew g3).three.1
  clear hq3 hA2 g2
  go_wp2_with fail
  refine (TT.out _).mono ?_; rintro e w4 ⟨rfl, hb4⟩
  have hA4 := hA3.grew hb4
  have g4 := g3.trans (hb4.mono g3.size)
  clear hb4 b3 hA3 g3
  go_wp2_with fail
  refine (PT.out _ hA4).mono ?_; rintro e w5 ⟨rfl, hq5⟩
  have g5 := g4.trans hq5.below
  have b5 := (hBx.grew g5).three.1
  clear hq5 hA4 g4
  as_aux_lemma =>
    go_wp2_with fail
    go_loopw [11, 51] (fun v i wr => ∃ j : Nat, j ≤ k ∧ i = .int .u64 j ∧ wr.ownsRow w0.heap.size 41 1 v j ((waitL R t hd cs j).map (Value.int .u64)) ∧ Below w0.heap.size w0 wr) (fun _ i _ => k - (intOf i).toNat)
    case atStart => exact ⟨0, Nat.zero_le _, rfl, World.ownsRow_nil _ _ _ _, g5⟩
    case round =>
      obtain ⟨j, hj, rfl, hown, hg⟩ := hrel
      by_cases hlt : j < k
      · have hAj := hA0.grew hg
        have bj := (hBx.grew hg).three.1
        have hsu := Lib.hid (waitL_succ R t hd cs j)
        have SLj := Lib.hid (SL.out j)
        have PSj := Lib.hid (PS.out j)
        have hj1 : IntKind.u64.wrap ((j : Int) + 1) = ((j + 1 : Nat) : Int) := by rw [IntKind.wrap_u64]; omega
        clear SL PS PH PT HH TT EX b5
        generalize slotN R t (IntKind.u64.wrap (hd + (j : Int))) = si at *
        generalize cs.getD si 0 = z at *
        go_wp2_with fail
        refine (SLj.out _).mono ?_; rintro e w6 ⟨rfl, hb6⟩
        have g6 := hg.trans (hb6.mono hg.size)
        have hown6 := own_grew hown hb6
        have hA6 := hAj.grew hb6
        clear hb6 hAj bj hown hg
        go_wp2_with fail
        refine (PSj.out _ hA6).mono ?_; rintro e w7 ⟨rfl, hq7⟩
        have g7 := g6.trans hq7.below
        have hown7 := own_grew hown6 (hq7.below : Below w6.heap.size w6 w7)
        clear hq7 hA6 hown6 g6 SLj PSj
        as_aux_lemma =>
          have hs7 := g7.size
          go_wp2_with (at_builtin; refine wpList_append_lies _ rfl _ _ 32 rfl w0.heap.size 41 i0 (.int .u64 0) 1 8 Try.underlying32 Z.out.1 Z.out.2.1 Z.out.2.2.1 Z.out.2.2.2 rfl (by decide) _ _ _ rfl (hown7.alloc _) ⟨w7.heap.size, 0, none⟩ 1 1 [.int .u64 z] rfl rfl (cell_one_new _ _ _) (by simp [Value.oneCell']) (by decide) (by unfold maxLen; omega) (by omega) (by simp; omega) (w7.heap.size + 1) (by simp) ?_; intro g cap w8 hown8 hgrow hat hlt8)
          have g8 : Below w0.heap.size w0 w8 := (g7.alloc g7.size _).grown hgrow (g7.alloc g7.size _).size (fun k' e => (hown7.lt k' e).1)
          go_wp2
          go_roundw
          case rel => exact ⟨j + 1, by omega, by first | rfl | rw [hj1], by rw [hsu.out, List.map_append]; exact hown8, g8⟩
          case measure => simp [intOf]; omega
      · obtain rfl : j = k := by omega
        clear SL PS PH PT HH TT EX b5
        have hB := hB0.trans (hg.mono hsz0)
        go_wp2
        go_ret2
        subst hbq
        exact ⟨_, rfl, own_base hown hsz0, hB⟩
set_option maxRecDepth 100000 in
set_option maxHeartbeats 1000000 in
theorem waiting_bad {B a c n : Nat} {cs : List Int} {K : List Nat} (P T R t hd tl : Int) (k : Nat) (w : World) (hA : Ary w B a c cs n K) (hx : exB P T R t = true) (hl : cs.length = cellsN P T R) (h1 : cs.getD (ownN R t 3) 0 = hd) (h2 : cs.getD (ownN R t 4) 0 = tl) (h3 : IntKind.u64.wrap (tl - hd) = k) (h4 : R < (k : Int)) :
    Calls Try.prog 44 #[.pointer (some ⟨a, 0, none⟩), .agg #[.int .i64 P, .int .i64 T, .int .i64 R], .int .i64 t] w fun e w' => e = .returned (.tuple #[.slice none 0 0, .int .i64 4]) ∧ Below w.heap.size w w' := by
  obtain ⟨hN, hN1, hN2⟩ := cellsN_bd (exB_of hx).1
  have hm : cs.length ≤ 1000000 := by omega
  obtain ⟨r1, r2⟩ := ring_bd hx
  have i3 := ownN_bd hx 3 (by decide) (by omega)
  have i4 := ownN_bd hx 4 (by decide) (by omega)
  have EX := Lib.hid (fun W => exists_any P T R t W)
  rw [hx] at EX
  have HH := Lib.hid (fun W => head_any P T R t W)
  rw [i3.1] at HH
  have TT := Lib.hid (fun W => tail_any P T R t W)
  rw [i4.1] at TT
  have PH := Lib.hid (fun W (h : Ary W B a c cs n K) => h.peek (i := ownN R t 3) (by rw [hl]; exact i3.2.1) hm)
  rw [h1] at PH
  have PT := Lib.hid (fun W (h : Ary W B a c cs n K) => h.peek (i := ownN R t 4) (by rw [hl]; exact i4.2.1) hm)
  rw [h2] at PT
  have hwR : IntKind.u64.wrap R = R := by rw [IntKind.wrap_u64]; omega
  have hgt : decide (R < (k : Int)) = true := decide_eq_true h4
  clear hN hN1 hN2 i3 i4 h1 h2 hl hm hx
  generalize ownN R t 3 = i3 at *
  generalize ownN R t 4 = i4 at *
  have hA0 := hA.grew ((Below.refl _ _).alloc (Nat.le_refl _) (.cells #[.int .i64 P, .int .i64 T, .int .i64 R] 53))
  have hBx := Blk.new w #[.int .i64 P, .int .i64 T, .int .i64 R] 53
  have hB0 : Below w.heap.size w (w.alloc (.cells #[.int .i64 P, .int .i64 T, .int .i64 R] 53)) := (Below.refl _ _).alloc (Nat.le_refl _) _
  clear hA
  have b0 := hBx.three.1
  go_enter Try.func44, Try.ntmps44
  go_wp2_with fail
  generalize w.alloc (.cells #[.int .i64 P, .int .i64 T, .int .i64 R] 53) = w0 at *
  have hsz0 := hB0.size
  generalize hbq : w.heap.size = bq at *
  refine (EX.out _).mono ?_; rintro e w1 ⟨rfl, hb1⟩
  have hA1 := hA0.grew hb1
  have b1 := (hBx.grew hb1).three.1
  have g1 := hb1
  clear hb1 b0
  go_wp2_with fail
  refine (HH.out _).mono ?_; rintro e w2 ⟨rfl, hb2⟩
  have hA2 := hA1.grew hb2
  have g2 := g1.trans (hb2.mono g1.size)
  clear hb2 b1 hA1 g1
  go_wp2_with fail
  refine (PH.out _ hA2).mono ?_; rintro e w3 ⟨rfl, hq3⟩
  have hA3 := hA2.quiet hq3
  have g3 := g2.trans hq3.below
  have b3 := (hBx.grew g3).three.1
  clear hq3 hA2 g2
  go_wp2_with fail
  refine (TT.out _).mono ?_; rintro e w4 ⟨rfl, hb4⟩
  have hA4 := hA3.grew hb4
  have g4 := g3.trans (hb4.mono g3.size)
  clear hb4 b3 hA3 g3
  go_wp2_with fail
  refine (PT.out _ hA4).mono ?_; rintro e w5 ⟨rfl, hq5⟩
  have g5 := g4.trans hq5.below
  have b5 := (hBx.grew g5).three.1
  clear hq5 hA4 g4
  have hB := hB0.trans (g5.mono hsz0)
  go_wp2
  go_ret2
  subst hbq
  exact ⟨rfl, hB⟩
end Go.Proofs.Ytamekeebgkdhcaa
/- What the document's Waiting returns, at cells as great as the plan. No condition. -/
namespace Go.Proofs.Ytamekeebgkdhcaa
open Go.RowKit
set_option linter.unusedVariables false
/-- the map's box and the cells, kept -/
structure RwS (w : World) (d N ob : Nat) (cs : List Int) (P T R x y z : Int) (W : World) : Prop where
  box : Blk W ob #[.int .i64 P, .int .i64 T, .int .i64 R, .int .i64 x, .int .i64 y, .int .i64 z] 38
  row : Blk W d (cs.map (Value.int .u64)).toArray 41
  bel : Below w.heap.size w W
theorem RwS.grew {w W W' : World} {d N ob : Nat} {cs : List Int} {P T R x y z : Int} (h : RwS w d N ob cs P T R x y z W) (hb : Below W.heap.size W W') : RwS w d N ob cs P T R x y z W' := ⟨h.box.grew hb, h.row.grew hb, h.bel.trans (hb.mono h.bel.size)⟩
theorem RwS.at {w W : World} {d N ob : Nat} {cs : List Int} {P T R x y z : Int} (h : RwS w d N ob cs P T R x y z W) (i : Nat) (hi : i < cs.length) : W.cell? ⟨d, i, none⟩ = some (.int .u64 (cs.getD i 0)) := by
  rw [h.row.cell]
  simp [List.getD_eq_getElem?_getD, hi]
theorem RwS.six {w W : World} {d N ob : Nat} {cs : List Int} {P T R x y z : Int} (h : RwS w d N ob cs P T R x y z W) : W.cell? ⟨ob, 0, none⟩ = some (.int .i64 P) ∧ W.cell? ⟨ob, 1, none⟩ = some (.int .i64 T) ∧ W.cell? ⟨ob, 2, none⟩ = some (.int .i64 R) ∧ W.cell? ⟨ob, 3, none⟩ = some (.int .i64 x) ∧ W.cell? ⟨ob, 4, none⟩ = some (.int .i64 y) ∧ W.cell? ⟨ob, 5, none⟩ = some (.int .i64 z) :=
  ⟨h.box.val 0 rfl, h.box.val 1 rfl, h.box.val 2 rfl, h.box.val 3 rfl, h.box.val 4 rfl, h.box.val 5 rfl⟩
set_option maxRecDepth 100000 in
set_option maxHeartbeats 2000000 in
theorem rwaiting_yes {d N : Nat} {cs : List Int} (P T R x y z t hd tl : Int) (k : Nat) (w : World) (hr : Blk w d (cs.map (Value.int .u64)).toArray 41) (hN : cs.length = N) (hx : exB P T R t = true) (hl : cs.length = cellsN P T R) (h1 : cs.getD (ownN R t 3) 0 = hd) (h2 : cs.getD (ownN R t 4) 0 = tl) (h3 : IntKind.u64.wrap (tl - hd) = k) (h4 : (k : Int) ≤ R) :
    Calls Try.prog 45 #[.slice (some ⟨d, 0, none⟩) N N, .agg #[.int .i64 P, .int .i64 T, .int .i64 R, .int .i64 x, .int .i64 y, .int .i64 z], .int .i64 t] w (WaitPost R t hd cs k w) := by
  obtain ⟨hR, ht⟩ := ex_bd hx
  have i3 := (ownN_bd hx 3 (by decide) (by omega)).2.1
  have i4 := (ownN_bd hx 4 (by decide) (by omega)).2.1
  rw [← hl] at i3 i4
  have HH := Lib.hid (fun W => mhead_any P T R x y z t W hR ht)
  have TT := Lib.hid (fun W => mtail_any P T R x y z t W hR ht)
  rw [ring_own hx 3 (by decide)] at HH
  rw [ring_own hx 4 (by decide)] at TT
  have SL := Lib.hid (fun (j : Nat) W => (show Calls Try.prog 52 #[.agg #[.int .i64 P, .int .i64 T, .int .i64 R, .int .i64 x, .int .i64 y, .int .i64 z], .int .i64 t, .int .u64 (IntKind.u64.wrap (hd + j))] W fun e w' => e = .returned (.int .i64 (slotN R t (IntKind.u64.wrap (hd + j)))) ∧ Below W.heap.size W w' by
    have := mslot_any P T R x y z t (IntKind.u64.wrap (hd + j)) W (by rw [IntKind.wrap_u64]; exact ⟨by omega, by omega⟩) hR ht
    rw [ring_slot hx] at this; exact this))
  have SI := Lib.hid (fun (j : Nat) => show slotN R t (IntKind.u64.wrap (hd + j)) < cs.length by rw [hl]; exact (slotN_bd hx _).2.1)
  obtain ⟨hC, hC1, hC2⟩ := cellsN_bd (exB_of hx).1
  have hm : cs.length ≤ 2304 := by omega
  have hwR : IntKind.u64.wrap R = R := by rw [IntKind.wrap_u64]; omega
  have hgt : decide (R < (k : Int)) = false := decide_eq_false (by omega)
  obtain ⟨i0, hi0, hz0, hz1, hz2⟩ := info_parts info_u64
  have Z := Lib.hid (And.intro hi0 (And.intro hz0 (And.intro hz1 hz2)))
  clear hi0 hz0 hz1 hz2
  have hk16 : k ≤ 16 := by omega
  subst hN
  clear hx hl hC hC1 hC2
  generalize hi3 : ownN R t 3 = j3 at *
  generalize hi4 : ownN R t 4 = j4 at *
  clear hi3 hi4
  have hS0 : RwS w d cs.length w.heap.size cs P T R x y z (w.alloc (.cells #[.int .i64 P, .int .i64 T, .int .i64 R, .int .i64 x, .int .i64 y, .int .i64 z] 38)) := ⟨Blk.new _ _ _, hr.alloc _, (Below.refl _ _).alloc (Nat.le_refl _) _⟩
  have n3 : (j3 : Int) < (cs.length : Int) := by omega
  have n4 : (j4 : Int) < (cs.length : Int) := by omega
  have p3 : (0 : Int) ≤ (j3 : Int) := by omega
  have p4 : (0 : Int) ≤ (j4 : Int) := by omega
  go_enter Try.func45, Try.ntmps45
  obtain ⟨b0, b1, b2, b3, b4, b5⟩ := hS0.six
  go_wp2_with fail
  generalize hw0 : w.alloc _ = w0 at *
  clear hw0
  refine (HH.out _).mono ?_; rintro e w1 ⟨rfl, hb1⟩
  have hS1 := hS0.grew hb1
  have g1 := hb1
  clear b0 b1 b2 b3 b4 b5 hb1
  obtain ⟨b0, b1, b2, b3, b4, b5⟩ := hS1.six
  have q3 := hS1.at j3 i3
  rw [h1] at q3
  go_wp2_with fail
  refine (TT.out _).mono ?_; rintro e w2 ⟨rfl, hb2⟩
  have hS2 := hS1.grew hb2
  have g2 := g1.trans (hb2.mono g1.size)
  clear b0 b1 b2 b3 b4 b5 hb2 q3 hS1 g1
  obtain ⟨b0, b1, b2, b3, b4, b5⟩ := hS2.six
  have q4 := hS2.at j4 i4
  rw [h2] at q4
  go_wp2_with fail
  have hs0 := hS0.bel.size
  clear b0 b1 b2 b3 b4 b5 q4 hS2 h1 h2
  go_loopw [10, 11] (fun v i wr => ∃ j : Nat, j ≤ k ∧ i = .int .u64 j ∧ wr.ownsRow w0.heap.size 41 1 v j ((waitL R t hd cs j).map (Value.int .u64)) ∧ Below w0.heap.size w0 wr) (fun _ i _ => k - (intOf i).toNat)
  case atStart => exact ⟨0, Nat.zero_le _, rfl, World.ownsRow_nil _ _ _ _, g2⟩
  case round =>
    obtain ⟨j, hj, rfl, hown, hg⟩ := hrel
    by_cases hlt : j < k
    · have hSj := hS0.grew hg
      have hsu := Lib.hid (waitL_succ R t hd cs j)
      have SLj := Lib.hid (SL.out j)
      have hsi := SI.out j
      have hj1 : IntKind.u64.wrap ((j : Int) + 1) = ((j + 1 : Nat) : Int) := by rw [IntKind.wrap_u64]; omega
      clear SL SI HH TT
      generalize slotN R t (IntKind.u64.wrap (hd + (j : Int))) = si at *
      have n5 : (si : Int) < (cs.length : Int) := by omega
      have p5 : (0 : Int) ≤ (si : Int) := by omega
      obtain ⟨b0, b1, b2, b3, b4, b5⟩ := hSj.six
      go_wp2_with fail
      refine (SLj.out _).mono ?_; rintro e w6 ⟨rfl, hb6⟩
      have g6 := hg.trans (hb6.mono hg.size)
      have hown6 := own_grew hown hb6
      have hS6 := hSj.grew hb6
      have q5 := hS6.at si hsi
      generalize cs.getD si 0 = zz at *
      clear hb6 hSj hown hg b0 b1 b2 b3 b4 b5 SLj
      have hs7 := g6.size
      go_wp2_with (at_builtin; refine wpList_append_lies _ rfl _ _ 32 rfl w0.heap.size 41 i0 (.int .u64 0) 1 8 Try.underlying32 Z.out.1 Z.out.2.1 Z.out.2.2.1 Z.out.2.2.2 rfl (by decide) _ _ _ rfl (hown6.alloc _) ⟨w6.heap.size, 0, none⟩ 1 1 [.int .u64 zz] rfl rfl (cell_one_new _ _ _) (by simp [Value.oneCell']) (by decide) (by unfold maxLen; omega) (by omega) (by simp; omega) (w6.heap.size + 1) (by simp) ?_; intro g cap w8 hown8 hgrow hat hlt8)
      have g8 : Below w0.heap.size w0 w8 := (g6.alloc g6.size _).grown hgrow (g6.alloc g6.size _).size (fun k' e => (hown6.lt k' e).1)
      go_wp2
      go_roundw
      case rel => exact ⟨j + 1, by omega, by first | rfl | rw [hj1], by rw [hsu.out, List.map_append]; exact hown8, g8⟩
      case measure => simp [intOf]; omega
    · obtain rfl : j = k := by omega
      have hB := hS0.bel.trans (hg.mono hs0)
      go_wp2
      go_ret2
      exact ⟨_, rfl, own_base hown hs0, hB⟩
set_option maxRecDepth 100000 in
set_option maxHeartbeats 2000000 in
theorem rwaiting_bad {d N : Nat} {cs : List Int} (P T R x y z t hd tl : Int) (k : Nat) (w : World) (hr : Blk w d (cs.map (Value.int .u64)).toArray 41) (hN : cs.length = N) (hx : exB P T R t = true) (hl : cs.length = cellsN P T R) (h1 : cs.getD (ownN R t 3) 0 = hd) (h2 : cs.getD (ownN R t 4) 0 = tl) (h3 : IntKind.u64.wrap (tl - hd) = k) (h4 : R < (k : Int)) :
    Calls Try.prog 45 #[.slice (some ⟨d, 0, none⟩) N N, .agg #[.int .i64 P, .int .i64 T, .int .i64 R, .int .i64 x, .int .i64 y, .int .i64 z], .int .i64 t] w fun e w' => e = .returned (.tuple #[.slice none 0 0, .int .i64 4]) ∧ Below w.heap.size w w' := by
  obtain ⟨hR, ht⟩ := ex_bd hx
  have i3 := (ownN_bd hx 3 (by decide) (by omega)).2.1
  have i4 := (ownN_bd hx 4 (by decide) (by omega)).2.1
  rw [← hl] at i3 i4
  have HH := Lib.hid (fun W => mhead_any P T R x y z t W hR ht)
  have TT := Lib.hid (fun W => mtail_any P T R x y z t W hR ht)
  rw [ring_own hx 3 (by decide)] at HH
  rw [ring_own hx 4 (by decide)] at TT
  obtain ⟨hC, hC1, hC2⟩ := cellsN_bd (exB_of hx).1
  have hm : cs.length ≤ 2304 := by omega
  have hwR : IntKind.u64.wrap R = R := by rw [IntKind.wrap_u64]; omega
  have hgt : decide (R < (k : Int)) = true := decide_eq_true h4
  subst hN
  clear hx hl hC hC1 hC2
  generalize hi3 : ownN R t 3 = j3 at *
  generalize hi4 : ownN R t 4 = j4 at *
  clear hi3 hi4
  have hS0 : RwS w d cs.length w.heap.size cs P T R x y z (w.alloc (.cells #[.int .i64 P, .int .i64 T, .int .i64 R, .int .i64 x, .int .i64 y, .int .i64 z] 38)) := ⟨Blk.new _ _ _, hr.alloc _, (Below.refl _ _).alloc (Nat.le_refl _) _⟩
  have n3 : (j3 : Int) < (cs.length : Int) := by omega
  have n4 : (j4 : Int) < (cs.length : Int) := by omega
  have p3 : (0 : Int) ≤ (j3 : Int) := by omega
  have p4 : (0 : Int) ≤ (j4 : Int) := by omega
  go_enter Try.func45, Try.ntmps45
  obtain ⟨b0, b1, b2, b3, b4, b5⟩ := hS0.six
  go_wp2_with fail
  generalize hw0 : w.alloc _ = w0 at *
  clear hw0
  refine (HH.out _).mono ?_; rintro e w1 ⟨rfl, hb1⟩
  have hS1 := hS0.grew hb1
  have g1 := hb1
  clear b0 b1 b2 b3 b4 b5 hb1
  obtain ⟨b0, b1, b2, b3, b4, b5⟩ := hS1.six
  have q3 := hS1.at j3 i3
  rw [h1] at q3
  go_wp2_with fail
  refine (TT.out _).mono ?_; rintro e w2 ⟨rfl, hb2⟩
  have hS2 := hS1.grew hb2
  have g2 := g1.trans (hb2.mono g1.size)
  clear b0 b1 b2 b3 b4 b5 hb2 q3 hS1 g1
  obtain ⟨b0, b1, b2, b3, b4, b5⟩ := hS2.six
  have q4 := hS2.at j4 i4
  rw [h2] at q4
  go_wp2_with fail
  go_ret2
  exact ⟨rfl, hS2.bel⟩
end Go.Proofs.Ytamekeebgkdhcaa
/- What Words of the document returns at two slices of the same words. No condition. -/
namespace Go.Proofs.Ytamekeebgkdhcaa
open Go.RowKit
set_option maxHeartbeats 1000000 in
theorem words_rows (b1 o1 c1 b2 o2 c2 n : Nat) (zs : List Int) (w : World) (h0 : 0 < n) (hm : n ≤ maxLen)
    (hc1 : Hid (∀ i, i < n → w.cell? ⟨b1, o1 + i, none⟩ = some (.int .u64 (zs.getD i 0)))) (hc2 : Hid (∀ i, i < n → w.cell? ⟨b2, o2 + i, none⟩ = some (.int .u64 (zs.getD i 0)))) :
    Calls Try.prog 46 #[.slice (some ⟨b1, o1, none⟩) n c1, .slice (some ⟨b2, o2, none⟩) n c2] w fun e w' => e = .returned (.bool true) ∧ Quiet w w' := by
  unfold maxLen at hm
  have hne : ((n : Int) != (n : Int)) = false := by simp
  go_enter Try.func46, Try.ntmps46
  go_wp2
  go_loopw [5] (fun i wr => ∃ k : Nat, k ≤ n ∧ i = .int .i64 k ∧ Quiet w wr) (fun i _ => n - (intOf i).toNat)
  case atStart => exact ⟨0, Nat.zero_le _, rfl, Quiet.refl _⟩
  case round =>
    obtain ⟨k, hk, rfl, hq⟩ := hrel
    by_cases hlt : k < n
    · have e1 := (hq.cell ⟨b1, o1 + k, none⟩).trans (hc1.out k hlt)
      have e2 := (hq.cell ⟨b2, o2 + k, none⟩).trans (hc2.out k hlt)
      have hlt' : (k : Int) < (n : Int) := by omega
      have hge' : (0 : Int) ≤ (k : Int) := by omega
      generalize zs.getD k 0 = V at *
      have hv : (V != V) = false := by simp
      go_wp2
      go_quiet (fail)
      go_wp2
      go_roundw
      case rel => exact ⟨k + 1, by omega, by go_num, hq.trans Quiet.drew⟩
      case measure => simp [intOf]; omega
    · go_wp2
      go_ret
      exact ⟨rfl, hq⟩
set_option maxHeartbeats 400000 in
theorem words_none (a1 a2 : Option Addr) (c1 c2 : Nat) (w : World) :
    Calls Try.prog 46 #[.slice a1 0 c1, .slice a2 0 c2] w fun e w' => e = .returned (.bool true) ∧ Quiet w w' := by
  go_enter Try.func46, Try.ntmps46
  go_wp2
  go_loopw [5] (fun i wr => i = .int .i64 0 ∧ Quiet w wr) (fun _ _ => 0)
  case atStart => exact ⟨rfl, Quiet.refl _⟩
  case round =>
    obtain ⟨rfl, hq⟩ := hrel
    go_wp2
    go_ret
    exact ⟨rfl, hq⟩
theorem words_any (v1 v2 : Value) (zs : List Int) (w : World) (h1 : Lst .u64 w v1 zs) (h2 : Lst .u64 w v2 zs) :
    Calls Try.prog 46 #[v1, v2] w fun e w' => e = .returned (.bool true) ∧ Quiet w w' := by
  rcases h1 with ⟨rfl, a1, c1, rfl⟩ | ⟨b1, o1, c1, rfl, hp1, hm1, hc1⟩
  · rcases h2 with ⟨_, a2, c2, rfl⟩ | ⟨b2, o2, c2, rfl, hp2, _⟩
    · exact words_none a1 a2 c1 c2 w
    · exact absurd hp2 (by simp)
  · rcases h2 with ⟨rfl, a2, c2, rfl⟩ | ⟨b2, o2, c2, rfl, _, _, hc2⟩
    · exact absurd hp1 (by simp)
    · exact words_rows b1 o1 c1 b2 o2 c2 zs.length zs w hp1 hm1 hc1 hc2

end Go.Proofs.Ytamekeebgkdhcaa
