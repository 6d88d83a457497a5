/- Texts of this seat, one behind the other: each says at its head what it holds. No condition of its own. -/
import Derived.Deep.RegionHeld3
import Derived.Deep.QuietTactic
import Derived.BigQuiet
import Derived.Deep.Cut
import Derived.Test.YtamekeebgkdhcaaGRingSteps01
import Derived.Test.YtamekeebgkdhcaaGRingSteps03
/- What a step of ring's Push does, access by access: numbers and words for it. Condition: the arena, its port and the machine are there, the plan is right, the thread is there. -/
namespace Go.Proofs.Ytamekeebgkdhcaa
open Go.RowKit
/-- the cells of a right plan -/
def cellsN (P T R : Int) : Nat := (baseI P T R + 64 * P).toNat
/-- a thread's cell number k of its own -/
def ownN (R t k : Int) : Nat := (16 + t * (5 + R) + k).toNat
theorem exB_of {P T R t : Int} (h : exB P T R t = true) : Right P T R ∧ inB t 0 (T - 1) = true := by
  unfold exB at h
  rw [Bool.and_eq_true] at h
  exact ⟨right_of h.1, h.2⟩
theorem ownN_bd {P T R t : Int} (h : exB P T R t = true) (k : Int) (h0 : 0 ≤ k) (h1 : k < 5 + R) : ownI P T R t k = (ownN R t k : Int) ∧ ownN R t k < cellsN P T R ∧ 16 ≤ ownN R t k := by
  obtain ⟨hR, ht⟩ := exB_of h
  have hb := base_bd hR
  have ht2 := tab_bd hR
  obtain ⟨h2, h3, h4, h5⟩ := own_bd hR ht
  have hR2 := hR
  obtain ⟨⟨p1, p2⟩, ⟨t1, t2⟩, r1, r2⟩ := hR2
  have htT : t * (5 + R) + (5 + R) ≤ T * (5 + R) := by
    have : (t + 1) * (5 + R) ≤ T * (5 + R) := Int.mul_le_mul_of_nonneg_right (by unfold inB at ht; have := of_decide_eq_true ht; omega) (by omega)
    rw [Int.add_mul, Int.one_mul] at this
    exact this
  have hU : ownI P T R t k = 16 + t * (5 + R) + k := by
    unfold ownI
    rw [if_pos (by rw [of_right hR, ht]; rfl)]
  have htab : tabI T R = 16 + T * (5 + R) := rfl
  unfold ownN cellsN
  rw [hU]
  generalize t * (5 + R) = q at *
  generalize T * (5 + R) = r at *
  refine ⟨by omega, by omega, by omega⟩
/-- the slot's cell for a count -/
def slotN (R t n : Int) : Nat := ownN R t (5 + n % R)
theorem slotN_bd {P T R t : Int} (h : exB P T R t = true) (n : Int) : slotI P T R t n = (slotN R t n : Int) ∧ slotN R t n < cellsN P T R ∧ 16 ≤ slotN R t n := by
  have hR := (exB_of h).1
  obtain ⟨_, _, r1, r2⟩ := hR
  have h1 := Int.emod_nonneg n (show R ≠ 0 by omega)
  have h2 := Int.emod_lt_of_pos n (show 0 < R by omega)
  exact ownN_bd h (5 + n % R) (by omega) (by omega)
theorem set_same (cs : List Int) (i : Nat) : cs.set i (cs.getD i 0) = cs := by
  apply List.ext_getElem
  · simp
  · intro k h1 h2
    simp only [List.getElem_set]
    by_cases e : i = k
    · subst e; simp [List.getD_eq_getElem?_getD, h2]
    · simp [e]
/-- the machine, the arena and the port, ahead of an access -/
structure PuS (w0 : World) (B a c p m : Nat) (P T R t v tl nx : Int) (fu : Bool) (cs : List Int) (xs : List Value) (n : Nat) (K : List Nat) (who : Int) (o : Bool) (w : World) : Prop where
  mach : PushAt w m P T R t v tl nx fu
  arx : Arx w B a c cs xs n K
  port : PortAt w p a who o
  touch : Touch (fun b => b = p ∨ b = m ∨ (B ≤ b ∧ b ∉ K)) w0 w
section
variable {w0 w w' : World} {B a c p m : Nat} {P T R t v tl nx : Int} {fu : Bool} {cs : List Int} {xs : List Value} {n : Nat} {K : List Nat} {who : Int} {o : Bool}
theorem PuS.start (hM : PushAt w m P T R t v tl nx fu) (hA : Arx w B a c cs xs n K) (hP : PortAt w p a who o) : PuS w B a c p m P T R t v tl nx fu cs xs n K who o w := ⟨hM, hA, hP, Touch.refl _ _⟩
theorem PuS.grew (h : PuS w0 B a c p m P T R t v tl nx fu cs xs n K who o w) (hb : Below w.heap.size w w') : PuS w0 B a c p m P T R t v tl nx fu cs xs n K who o w' :=
  ⟨h.mach.grew hb, h.arx.grew hb, h.port.grew hb, h.touch.trans (Touch.of hb)⟩
theorem PuS.quiet (h : PuS w0 B a c p m P T R t v tl nx fu cs xs n K who o w) (hq : Quiet w w') : PuS w0 B a c p m P T R t v tl nx fu cs xs n K who o w' := h.grew hq.below
theorem PuS.drew (h : PuS w0 B a c p m P T R t v tl nx fu cs xs n K who o w) : PuS w0 B a c p m P T R t v tl nx fu cs xs n K who o w.drew := h.quiet ⟨1, rfl⟩
theorem PuS.plan (h : PuS w0 B a c p m P T R t v tl nx fu cs xs n K who o w) : w.cell? ⟨m, 0, none⟩ = some (.int .i64 P) ∧ w.cell? ⟨m, 1, none⟩ = some (.int .i64 T) ∧ w.cell? ⟨m, 2, none⟩ = some (.int .i64 R) ∧ w.cell? ⟨m, 3, none⟩ = some (.int .i64 t) :=
  ⟨h.mach.val 0 rfl, h.mach.val 1 rfl, h.mach.val 2 rfl, h.mach.val 3 rfl⟩
/-- an access leaves the machine as it was -/
theorem PuS.stepped {i : Nat} {k want put : Int} (h : PuS w0 B a c p m P T R t v tl nx fu cs xs n K who true w) (hp : m ≠ p) (hm : m ∈ K) (hs : ArxStep B a c p cs xs n K i who k want put w w') :
    PuS w0 B a c p m P T R t v tl nx fu (cs.set i (leftI k (cs.getD i 0) want put)) (xs ++ accV who k i want put (cs.getD i 0) (leftI k (cs.getD i 0) want put)) (n + 1) K who false w' := by
  obtain ⟨h1, h2, h3⟩ := hs
  exact ⟨h.mach.touch h3 (fun r => r.elim hp (fun r => r.2 hm)), h1, h2, h.touch.trans (h3.mono fun _ _ hr => hr.elim .inl (fun r => .inr (.inr r)))⟩
theorem PuS.tail (h : PuS w0 B a c p m P T R t v tl nx fu cs xs n K who o w) (hp : m ≠ p) (hm : m ∈ K) (x : Int) : PuS w0 B a c p m P T R t v x nx fu cs xs n K who o (w.setCell ⟨m, 5, none⟩ (.int .u64 x)) :=
  have hT : Touch (fun b => b = m) w (w.setCell ⟨m, 5, none⟩ (.int .u64 x)) := (Touch.refl (fun b => b = m) w).setCell (p := ⟨m, 5, none⟩) rfl _
  ⟨h.mach.set 5 _, h.arx.touch hT (fun _ e => e ▸ hm), h.port.touch hT (Ne.symm hp), h.touch.trans (hT.mono fun _ _ e => .inr (.inl e))⟩
theorem PuS.next (h : PuS w0 B a c p m P T R t v tl nx fu cs xs n K who o w) (hp : m ≠ p) (hm : m ∈ K) (x : Int) : PuS w0 B a c p m P T R t v tl x fu cs xs n K who o (w.setCell ⟨m, 6, none⟩ (.int .i64 x)) :=
  have hT : Touch (fun b => b = m) w (w.setCell ⟨m, 6, none⟩ (.int .i64 x)) := (Touch.refl (fun b => b = m) w).setCell (p := ⟨m, 6, none⟩) rfl _
  ⟨h.mach.set 6 _, h.arx.touch hT (fun _ e => e ▸ hm), h.port.touch hT (Ne.symm hp), h.touch.trans (hT.mono fun _ _ e => .inr (.inl e))⟩
theorem PuS.full (h : PuS w0 B a c p m P T R t v tl nx fu cs xs n K who o w) (hp : m ≠ p) (hm : m ∈ K) (x : Bool) : PuS w0 B a c p m P T R t v tl nx x cs xs n K who o (w.setCell ⟨m, 7, none⟩ (.bool x)) :=
  have hT : Touch (fun b => b = m) w (w.setCell ⟨m, 7, none⟩ (.bool x)) := (Touch.refl (fun b => b = m) w).setCell (p := ⟨m, 7, none⟩) rfl _
  ⟨h.mach.set 7 _, h.arx.touch hT (fun _ e => e ▸ hm), h.port.touch hT (Ne.symm hp), h.touch.trans (hT.mono fun _ _ e => .inr (.inl e))⟩
theorem PuS.over (h : PuS w0 B a c p m P T R t v tl nx fu cs xs n K who o w) :
    Calls Try.prog 36 #[.pointer (some ⟨m, 0, none⟩)] w fun e w' => e = .returned (.bool (nx == 0)) ∧ PuS w0 B a c p m P T R t v tl nx fu cs xs n K who o w' :=
  (over_push h.mach).mono fun _ _ ⟨he, hq⟩ => ⟨he, h.quiet hq⟩
theorem PuS.open' (h : PuS w0 B a c p m P T R t v tl nx fu cs xs n K who o w) :
    Calls Try.prog 54 #[.pointer (some ⟨p, 0, none⟩)] w fun e w' => e = .returned (.bool o) ∧ PuS w0 B a c p m P T R t v tl nx fu cs xs n K who o w' :=
  (open_at p a who o w h.port).mono fun _ _ ⟨he, hq⟩ => ⟨he, h.quiet hq⟩
theorem PuS.valCell (h : PuS w0 B a c p m P T R t v tl nx fu cs xs n K who o w) : w.cell? ⟨m, 4, none⟩ = some (.int .u64 v) := h.mach.val 4 rfl
theorem PuS.nextCell (h : PuS w0 B a c p m P T R t v tl nx fu cs xs n K who o w) : w.cell? ⟨m, 6, none⟩ = some (.int .i64 nx) ∧ w.frozen? ⟨m, 6, none⟩ = false := ⟨h.mach.val 6 rfl, h.mach.frozen 6⟩
theorem PuS.tailCell (h : PuS w0 B a c p m P T R t v tl nx fu cs xs n K who o w) : w.cell? ⟨m, 5, none⟩ = some (.int .u64 tl) ∧ w.frozen? ⟨m, 5, none⟩ = false := ⟨h.mach.val 5 rfl, h.mach.frozen 5⟩
theorem PuS.fullCell (h : PuS w0 B a c p m P T R t v tl nx fu cs xs n K who o w) : w.cell? ⟨m, 7, none⟩ = some (.bool fu) ∧ w.frozen? ⟨m, 7, none⟩ = false := ⟨h.mach.val 7 rfl, h.mach.frozen 7⟩
theorem PuS.load {i : Nat} (h : PuS w0 B a c p m P T R t v tl nx fu cs xs n K who true w) (hmp : m ≠ p) (hm : m ∈ K) (hp : p ∈ K) (hn : n < 1000000) (hi : i < cs.length) :
    Calls Try.prog 55 #[.pointer (some ⟨p, 0, none⟩), .int .i64 i] w fun e w' => (e = .returned (.int .u64 (cs.getD i 0))) ∧ PuS w0 B a c p m P T R t v tl nx fu cs (xs ++ accV who 1 i 0 0 (cs.getD i 0) (cs.getD i 0)) (n + 1) K who false w' := by
  refine (load_x h.arx h.port hp hn hi).mono fun e w' ⟨he, hs⟩ => ⟨he, ?_⟩
  have := h.stepped hmp hm hs
  rw [show leftI 1 (cs.getD i 0) 0 0 = cs.getD i 0 from rfl, set_same] at this
  exact this
theorem PuS.store {i : Nat} (x : Int) (h : PuS w0 B a c p m P T R t v tl nx fu cs xs n K who true w) (hmp : m ≠ p) (hm : m ∈ K) (hp : p ∈ K) (hn : n < 1000000) (hi : i < cs.length) :
    Calls Try.prog 58 #[.pointer (some ⟨p, 0, none⟩), .int .i64 i, .int .u64 x] w fun e w' => (∃ u, e = .returned u) ∧ PuS w0 B a c p m P T R t v tl nx fu (cs.set i x) (xs ++ accV who 2 i 0 x (cs.getD i 0) x) (n + 1) K who false w' := by
  refine (store_x x h.arx h.port hp hn hi).mono fun e w' ⟨he, hs⟩ => ⟨he, ?_⟩
  have := h.stepped hmp hm hs
  exact this
end
end Go.Proofs.Ytamekeebgkdhcaa
/- What a step of ring's Push does, access by access. Condition: the arena, its port and the machine are there, the plan is right, the thread is there. -/
namespace Go.Proofs.Ytamekeebgkdhcaa
open Go.RowKit
section
variable {w0 w w' : World} {B a c p m : Nat} {P T R t v tl nx : Int} {fu : Bool} {cs : List Int} {xs : List Value} {n : Nat} {K : List Nat} {who : Int} {o : Bool}
/-- is a ring of R places full, with this tail and this head? -/
def fullB (R tl hd : Int) : Bool := decide (R ≤ IntKind.u64.wrap (tl - hd))
theorem ring_bd {P T R t : Int} (h : exB P T R t = true) : 1 ≤ R ∧ R ≤ 16 := (exB_of h).1.2.2

set_option maxRecDepth 100000 in
set_option maxHeartbeats 2000000 in
theorem look_full (hd : Int) (h : PuS w0 B a c p m P T R t v tl nx fu cs xs n K who o w) (hR : 1 ≤ R ∧ R ≤ 16) (hmp : m ≠ p) (hm : m ∈ K) (hf : fullB R tl hd = true) :
    Calls Try.prog 57 #[.pointer (some ⟨m, 0, none⟩), .int .u64 hd] w fun e w' => (∃ u, e = .returned u) ∧ PuS w0 B a c p m P T R t v tl 0 true cs xs n K who o w' := by
  unfold fullB at hf
  have hw : IntKind.u64.wrap R = R := by rw [IntKind.wrap_u64]; omega
  have h3 := h.next hmp hm 3
  have n1 := h.nextCell
  have t3 := h3.tailCell
  have r3 := h3.plan.2.2.1
  have q3 := h3.fullCell
  clear hR
  go_enter Try.func57, Try.ntmps57
  go_wp2
  generalize w.setCell ⟨m, 6, none⟩ (.int .i64 3) = w1 at *
  go_quiet (fail)
  rename_i nq
  have h4 := h3.quiet (⟨nq, rfl⟩ : Quiet w1 (w1.drewN nq))
  have q4 := h4.fullCell
  have h5 := h4.full hmp hm true
  have n5 := h5.nextCell
  have h6 := h5.next hmp hm 0

  go_wp2
  go_end0
  exact ⟨⟨_, rfl⟩, h6⟩

set_option maxRecDepth 100000 in
set_option maxHeartbeats 2000000 in
theorem look_room (hd : Int) (h : PuS w0 B a c p m P T R t v tl nx fu cs xs n K who o w) (hR : 1 ≤ R ∧ R ≤ 16) (hmp : m ≠ p) (hm : m ∈ K) (hf : fullB R tl hd = false) :
    Calls Try.prog 57 #[.pointer (some ⟨m, 0, none⟩), .int .u64 hd] w fun e w' => (∃ u, e = .returned u) ∧ PuS w0 B a c p m P T R t v tl 3 fu cs xs n K who o w' := by
  unfold fullB at hf
  have hw : IntKind.u64.wrap R = R := by rw [IntKind.wrap_u64]; omega
  have h3 := h.next hmp hm 3
  have n1 := h.nextCell
  have t3 := h3.tailCell
  have r3 := h3.plan.2.2.1
  have q3 := h3.fullCell
  clear hR
  go_enter Try.func57, Try.ntmps57
  go_wp2
  generalize w.setCell ⟨m, 6, none⟩ (.int .i64 3) = w1 at *
  go_quiet (fail)
  rename_i nq
  have h4 := h3.quiet (⟨nq, rfl⟩ : Quiet w1 (w1.drewN nq))
  go_wp2
  go_end0
  exact ⟨⟨_, rfl⟩, h4⟩

set_option maxRecDepth 100000 in
set_option maxHeartbeats 2000000 in
theorem push_step1 (h : PuS w0 B a c p m P T R t v tl 1 fu cs xs n K who true w) (hx : exB P T R t = true) (hmp : m ≠ p) (hm : m ∈ K) (hp : p ∈ K) (hn : n < 1000000) (hl : cs.length = cellsN P T R) :
    Calls Try.prog 35 #[.pointer (some ⟨m, 0, none⟩), .pointer (some ⟨p, 0, none⟩)] w fun e w' => e = .returned (.bool false) ∧
      PuS w0 B a c p m P T R t v (cs.getD (ownN R t 4) 0) 2 fu cs (xs ++ accV who 1 (ownN R t 4) 0 0 (cs.getD (ownN R t 4) 0) (cs.getD (ownN R t 4) 0)) (n + 1) K who false w' := by
  have hi := ownN_bd hx 4 (by decide) (by have := (exB_of hx).1.2.2.1; omega)
  have LD := Lib.hid (fun W (h : PuS w0 B a c p m P T R t v tl 1 fu cs xs n K who true W) => h.load hmp hm hp hn (i := ownN R t 4) (by rw [hl]; exact hi.2.1))
  have TT := Lib.hid (fun W => tail_any P T R t W)
  rw [hi.1] at TT
  have Hmp := Lib.hid hmp
  clear hmp hi hl hx hn
  generalize cs.getD (ownN R t 4) 0 = z at *
  generalize ownN R t 4 = i at *
  go_enter Try.func35, Try.ntmps35
  go_wp2_with fail
  refine h.over.mono ?_; rintro e w1 ⟨rfl, h1⟩
  go_wp2_with fail
  refine h1.open'.mono ?_; rintro e w2 ⟨rfl, h2⟩
  have n2 := h2.nextCell
  go_wp2_with fail
  have hS := h2.drew
  clear h h1 h2
  go_region_held3 (fun W => W.cell? ⟨m, 0, none⟩ = some (.int .i64 P) ∧ W.cell? ⟨m, 1, none⟩ = some (.int .i64 T) ∧ W.cell? ⟨m, 2, none⟩ = some (.int .i64 R) ∧ W.cell? ⟨m, 3, none⟩ = some (.int .i64 t))
    (exact PuS.plan (by assumption))
    (first | (go_at_call 56; refine (TT.out _).mono ?_; rintro e w3 ⟨rfl, hb3⟩; have h3 := hS.grew hb3) | (go_at_call 55; refine (LD.out _ (by assumption)).mono ?_; rintro e w4 ⟨rfl, h4⟩; have n4 := h4.tailCell; have h5 := h4.tail Hmp.out hm z))
  have n5 := h5.nextCell
  have h6 := h5.next Hmp.out hm 2
  go_wp2_with fail
  refine h6.over.mono ?_; rintro e w7 ⟨rfl, h7⟩
  go_wp2
  go_ret
  exact ⟨rfl, h7⟩

set_option maxRecDepth 100000 in
set_option maxHeartbeats 2000000 in
theorem push_step2_full (h : PuS w0 B a c p m P T R t v tl 2 fu cs xs n K who true w) (hx : exB P T R t = true) (hmp : m ≠ p) (hm : m ∈ K) (hp : p ∈ K) (hn : n < 1000000) (hl : cs.length = cellsN P T R) (hf : fullB R tl (cs.getD (ownN R t 3) 0) = true) :
    Calls Try.prog 35 #[.pointer (some ⟨m, 0, none⟩), .pointer (some ⟨p, 0, none⟩)] w fun e w' => e = .returned (.bool true) ∧
      PuS w0 B a c p m P T R t v tl 0 true cs (xs ++ accV who 1 (ownN R t 3) 0 0 (cs.getD (ownN R t 3) 0) (cs.getD (ownN R t 3) 0)) (n + 1) K who false w' := by
  have hi := ownN_bd hx 3 (by decide) (by have := (exB_of hx).1.2.2.1; omega)
  have LD := Lib.hid (fun W (h : PuS w0 B a c p m P T R t v tl 2 fu cs xs n K who true W) => h.load hmp hm hp hn (i := ownN R t 3) (by rw [hl]; exact hi.2.1))
  have TT := Lib.hid (fun W => head_any P T R t W)
  rw [hi.1] at TT
  have HR := ring_bd hx
  have Hmp := Lib.hid hmp
  clear hmp hi hl hx hn
  generalize cs.getD (ownN R t 3) 0 = z at *
  generalize ownN R t 3 = i at *
  have LK := Lib.hid (fun W (h : PuS w0 B a c p m P T R t v tl 2 fu cs (xs ++ accV who 1 i 0 0 z z) (n + 1) K who false W) => look_full z h HR Hmp.out hm hf)
  clear HR hf
  go_enter Try.func35, Try.ntmps35
  go_wp2_with fail
  refine h.over.mono ?_; rintro e w1 ⟨rfl, h1⟩
  go_wp2_with fail
  refine h1.open'.mono ?_; rintro e w2 ⟨rfl, h2⟩
  have n2 := h2.nextCell
  go_wp2_with fail
  have hS := h2.drew
  clear h h1 h2
  go_region_held3 (fun W => W.cell? ⟨m, 0, none⟩ = some (.int .i64 P) ∧ W.cell? ⟨m, 1, none⟩ = some (.int .i64 T) ∧ W.cell? ⟨m, 2, none⟩ = some (.int .i64 R) ∧ W.cell? ⟨m, 3, none⟩ = some (.int .i64 t))
    (exact PuS.plan (by assumption))
    (first | (go_at_call 47; refine (TT.out _).mono ?_; rintro e w3 ⟨rfl, hb3⟩; have h3 := hS.grew hb3) | (go_at_call 55; refine (LD.out _ (by assumption)).mono ?_; rintro e w4 ⟨rfl, h4⟩) | (go_at_call 57; refine (LK.out _ (by assumption)).mono ?_; rintro e w5 ⟨⟨u5, rfl⟩, h5⟩))
  go_wp2_with fail
  refine h5.over.mono ?_; rintro e w7 ⟨rfl, h7⟩
  go_wp2
  go_ret
  exact ⟨rfl, h7⟩

set_option maxRecDepth 100000 in
set_option maxHeartbeats 2000000 in
theorem push_step2_room (h : PuS w0 B a c p m P T R t v tl 2 fu cs xs n K who true w) (hx : exB P T R t = true) (hmp : m ≠ p) (hm : m ∈ K) (hp : p ∈ K) (hn : n < 1000000) (hl : cs.length = cellsN P T R) (hf : fullB R tl (cs.getD (ownN R t 3) 0) = false) :
    Calls Try.prog 35 #[.pointer (some ⟨m, 0, none⟩), .pointer (some ⟨p, 0, none⟩)] w fun e w' => e = .returned (.bool false) ∧
      PuS w0 B a c p m P T R t v tl 3 fu cs (xs ++ accV who 1 (ownN R t 3) 0 0 (cs.getD (ownN R t 3) 0) (cs.getD (ownN R t 3) 0)) (n + 1) K who false w' := by
  have hi := ownN_bd hx 3 (by decide) (by have := (exB_of hx).1.2.2.1; omega)
  have LD := Lib.hid (fun W (h : PuS w0 B a c p m P T R t v tl 2 fu cs xs n K who true W) => h.load hmp hm hp hn (i := ownN R t 3) (by rw [hl]; exact hi.2.1))
  have TT := Lib.hid (fun W => head_any P T R t W)
  rw [hi.1] at TT
  have HR := ring_bd hx
  have Hmp := Lib.hid hmp
  clear hmp hi hl hx hn
  generalize cs.getD (ownN R t 3) 0 = z at *
  generalize ownN R t 3 = i at *
  have LK := Lib.hid (fun W (h : PuS w0 B a c p m P T R t v tl 2 fu cs (xs ++ accV who 1 i 0 0 z z) (n + 1) K who false W) => look_room z h HR Hmp.out hm hf)
  clear HR hf
  go_enter Try.func35, Try.ntmps35
  go_wp2_with fail
  refine h.over.mono ?_; rintro e w1 ⟨rfl, h1⟩
  go_wp2_with fail
  refine h1.open'.mono ?_; rintro e w2 ⟨rfl, h2⟩
  have n2 := h2.nextCell
  go_wp2_with fail
  have hS := h2.drew
  clear h h1 h2
  go_region_held3 (fun W => W.cell? ⟨m, 0, none⟩ = some (.int .i64 P) ∧ W.cell? ⟨m, 1, none⟩ = some (.int .i64 T) ∧ W.cell? ⟨m, 2, none⟩ = some (.int .i64 R) ∧ W.cell? ⟨m, 3, none⟩ = some (.int .i64 t))
    (exact PuS.plan (by assumption))
    (first | (go_at_call 47; refine (TT.out _).mono ?_; rintro e w3 ⟨rfl, hb3⟩; have h3 := hS.grew hb3) | (go_at_call 55; refine (LD.out _ (by assumption)).mono ?_; rintro e w4 ⟨rfl, h4⟩) | (go_at_call 57; refine (LK.out _ (by assumption)).mono ?_; rintro e w5 ⟨⟨u5, rfl⟩, h5⟩))
  go_wp2_with fail
  refine h5.over.mono ?_; rintro e w7 ⟨rfl, h7⟩
  go_wp2
  go_ret
  exact ⟨rfl, h7⟩

set_option maxRecDepth 100000 in
set_option maxHeartbeats 2000000 in
theorem push_step3 (h : PuS w0 B a c p m P T R t v tl 3 fu cs xs n K who true w) (hx : exB P T R t = true) (hmp : m ≠ p) (hm : m ∈ K) (hp : p ∈ K) (hn : n < 1000000) (hl : cs.length = cellsN P T R) (hu : U64 tl) :
    Calls Try.prog 35 #[.pointer (some ⟨m, 0, none⟩), .pointer (some ⟨p, 0, none⟩)] w fun e w' => e = .returned (.bool false) ∧
      PuS w0 B a c p m P T R t v tl 4 fu (cs.set (slotN R t tl) v) (xs ++ accV who 2 (slotN R t tl) 0 v (cs.getD (slotN R t tl) 0) v) (n + 1) K who false w' := by
  have hi := slotN_bd hx tl
  have ST := Lib.hid (fun W (h : PuS w0 B a c p m P T R t v tl 3 fu cs xs n K who true W) => h.store v hmp hm hp hn (i := slotN R t tl) (by rw [hl]; exact hi.2.1))
  have TT := Lib.hid (fun W => slot_any P T R t tl W hu)
  rw [hi.1] at TT
  have Hmp := Lib.hid hmp
  clear hmp hi hl hx hn hu
  generalize cs.getD (slotN R t tl) 0 = z at *
  generalize slotN R t tl = i at *
  go_enter Try.func35, Try.ntmps35
  go_wp2_with fail
  refine h.over.mono ?_; rintro e w1 ⟨rfl, h1⟩
  go_wp2_with fail
  refine h1.open'.mono ?_; rintro e w2 ⟨rfl, h2⟩
  have n2 := h2.nextCell
  go_wp2_with fail
  have hS := h2.drew
  clear h h1 h2
  go_region_held3 (fun W => (W.cell? ⟨m, 0, none⟩ = some (.int .i64 P) ∧ W.cell? ⟨m, 1, none⟩ = some (.int .i64 T) ∧ W.cell? ⟨m, 2, none⟩ = some (.int .i64 R) ∧ W.cell? ⟨m, 3, none⟩ = some (.int .i64 t)) ∧ W.cell? ⟨m, 4, none⟩ = some (.int .u64 v) ∧ W.cell? ⟨m, 5, none⟩ = some (.int .u64 tl))
    (exact ⟨PuS.plan (by assumption), PuS.valCell (by assumption), (PuS.tailCell (by assumption)).1⟩)
    (first | (go_at_call 59; refine (TT.out _).mono ?_; rintro e w3 ⟨rfl, hb3⟩; have h3 := hS.grew hb3) | (go_at_call 58; refine (ST.out _ (by assumption)).mono ?_; rintro e w4 ⟨⟨u4, rfl⟩, h5⟩))
  have n5 := h5.nextCell
  have h6 := h5.next Hmp.out hm 4
  go_wp2_with fail
  refine h6.over.mono ?_; rintro e w7 ⟨rfl, h7⟩
  go_wp2
  go_ret
  exact ⟨rfl, h7⟩

set_option maxRecDepth 100000 in
set_option maxHeartbeats 2000000 in
theorem push_step4 (h : PuS w0 B a c p m P T R t v tl 4 fu cs xs n K who true w) (hx : exB P T R t = true) (hmp : m ≠ p) (hm : m ∈ K) (hp : p ∈ K) (hn : n < 1000000) (hl : cs.length = cellsN P T R) :
    Calls Try.prog 35 #[.pointer (some ⟨m, 0, none⟩), .pointer (some ⟨p, 0, none⟩)] w fun e w' => e = .returned (.bool true) ∧
      PuS w0 B a c p m P T R t v tl 0 fu (cs.set (ownN R t 4) (IntKind.u64.wrap (tl + 1))) (xs ++ accV who 2 (ownN R t 4) 0 (IntKind.u64.wrap (tl + 1)) (cs.getD (ownN R t 4) 0) (IntKind.u64.wrap (tl + 1))) (n + 1) K who false w' := by
  have hi := ownN_bd hx 4 (by decide) (by have := (exB_of hx).1.2.2.1; omega)
  have ST := Lib.hid (fun W (h : PuS w0 B a c p m P T R t v tl 4 fu cs xs n K who true W) => h.store (IntKind.u64.wrap (tl + 1)) hmp hm hp hn (i := ownN R t 4) (by rw [hl]; exact hi.2.1))
  have TT := Lib.hid (fun W => tail_any P T R t W)
  rw [hi.1] at TT
  have Hmp := Lib.hid hmp
  clear hmp hi hl hx hn
  generalize cs.getD (ownN R t 4) 0 = z at *
  generalize ownN R t 4 = i at *
  go_enter Try.func35, Try.ntmps35
  go_wp2_with fail
  refine h.over.mono ?_; rintro e w1 ⟨rfl, h1⟩
  go_wp2_with fail
  refine h1.open'.mono ?_; rintro e w2 ⟨rfl, h2⟩
  have n2 := h2.nextCell
  go_wp2_with fail
  have hS := h2.drew
  clear h h1 h2
  go_region_held3 (fun W => (W.cell? ⟨m, 0, none⟩ = some (.int .i64 P) ∧ W.cell? ⟨m, 1, none⟩ = some (.int .i64 T) ∧ W.cell? ⟨m, 2, none⟩ = some (.int .i64 R) ∧ W.cell? ⟨m, 3, none⟩ = some (.int .i64 t)) ∧ W.cell? ⟨m, 5, none⟩ = some (.int .u64 tl))
    (exact ⟨PuS.plan (by assumption), (PuS.tailCell (by assumption)).1⟩)
    (first | (go_at_call 56; refine (TT.out _).mono ?_; rintro e w3 ⟨rfl, hb3⟩; have h3 := hS.grew hb3) | (go_at_call 58; refine (ST.out _ (by assumption)).mono ?_; rintro e w4 ⟨⟨u4, rfl⟩, h5⟩))
  have n5 := h5.nextCell
  have h6 := h5.next Hmp.out hm 0
  go_wp2_with fail
  refine h6.over.mono ?_; rintro e w7 ⟨rfl, h7⟩
  go_wp2
  go_ret
  exact ⟨rfl, h7⟩

set_option maxRecDepth 100000 in
set_option maxHeartbeats 2000000 in
theorem push_over (h : PuS w0 B a c p m P T R t v tl 0 fu cs xs n K who o w) :
    Calls Try.prog 35 #[.pointer (some ⟨m, 0, none⟩), .pointer (some ⟨p, 0, none⟩)] w fun e w' => e = .returned (.bool true) ∧ PuS w0 B a c p m P T R t v tl 0 fu cs xs n K who o w' := by
  go_enter Try.func35, Try.ntmps35
  go_wp2_with fail
  refine h.over.mono ?_; rintro e w1 ⟨rfl, h1⟩
  go_wp2_with fail
  refine h1.over.mono ?_; rintro e w2 ⟨rfl, h2⟩
  go_wp2
  go_ret
  exact ⟨rfl, h2⟩
set_option maxRecDepth 100000 in
set_option maxHeartbeats 2000000 in
theorem push_shut (h : PuS w0 B a c p m P T R t v tl nx fu cs xs n K who false w) (hnx : (nx == 0) = false) :
    Calls Try.prog 35 #[.pointer (some ⟨m, 0, none⟩), .pointer (some ⟨p, 0, none⟩)] w fun e w' => e = .returned (.bool false) ∧ PuS w0 B a c p m P T R t v tl nx fu cs xs n K who false w' := by
  have O := Lib.hid (fun W (h : PuS w0 B a c p m P T R t v tl nx fu cs xs n K who false W) => h.over)
  rw [hnx] at O
  clear hnx
  go_enter Try.func35, Try.ntmps35
  go_wp2_with fail
  refine (O.out _ h).mono ?_; rintro e w1 ⟨rfl, h1⟩
  go_wp2_with fail
  refine h1.open'.mono ?_; rintro e w2 ⟨rfl, h2⟩
  go_wp2_with fail
  refine (O.out _ h2).mono ?_; rintro e w3 ⟨rfl, h3⟩
  go_wp2
  go_ret
  exact ⟨rfl, h3⟩
end
end Go.Proofs.Ytamekeebgkdhcaa
/- What a step of ring's Pop does, access by access: words for it. Condition: the arena, its port and the machine are there, the plan is right, the thread is there. -/
namespace Go.Proofs.Ytamekeebgkdhcaa
open Go.RowKit
/-- the machine, the arena and the port, ahead of an access -/
structure PoS (w0 : World) (B a c p m : Nat) (P T R t v tl nx : Int) (fu : Bool) (cs : List Int) (xs : List Value) (n : Nat) (K : List Nat) (who : Int) (o : Bool) (w : World) : Prop where
  mach : PopAt w m P T R t v tl nx fu
  arx : Arx w B a c cs xs n K
  port : PortAt w p a who o
  touch : Touch (fun b => b = p ∨ b = m ∨ (B ≤ b ∧ b ∉ K)) w0 w
section
variable {w0 w w' : World} {B a c p m : Nat} {P T R t v tl nx : Int} {fu : Bool} {cs : List Int} {xs : List Value} {n : Nat} {K : List Nat} {who : Int} {o : Bool}
theorem PoS.start (hM : PopAt w m P T R t v tl nx fu) (hA : Arx w B a c cs xs n K) (hP : PortAt w p a who o) : PoS w B a c p m P T R t v tl nx fu cs xs n K who o w := ⟨hM, hA, hP, Touch.refl _ _⟩
theorem PoS.grew (h : PoS w0 B a c p m P T R t v tl nx fu cs xs n K who o w) (hb : Below w.heap.size w w') : PoS w0 B a c p m P T R t v tl nx fu cs xs n K who o w' :=
  ⟨h.mach.grew hb, h.arx.grew hb, h.port.grew hb, h.touch.trans (Touch.of hb)⟩
theorem PoS.quiet (h : PoS w0 B a c p m P T R t v tl nx fu cs xs n K who o w) (hq : Quiet w w') : PoS w0 B a c p m P T R t v tl nx fu cs xs n K who o w' := h.grew hq.below
theorem PoS.drew (h : PoS w0 B a c p m P T R t v tl nx fu cs xs n K who o w) : PoS w0 B a c p m P T R t v tl nx fu cs xs n K who o w.drew := h.quiet ⟨1, rfl⟩
theorem PoS.plan (h : PoS w0 B a c p m P T R t v tl nx fu cs xs n K who o w) : w.cell? ⟨m, 0, none⟩ = some (.int .i64 P) ∧ w.cell? ⟨m, 1, none⟩ = some (.int .i64 T) ∧ w.cell? ⟨m, 2, none⟩ = some (.int .i64 R) ∧ w.cell? ⟨m, 3, none⟩ = some (.int .i64 t) :=
  ⟨h.mach.val 0 rfl, h.mach.val 1 rfl, h.mach.val 2 rfl, h.mach.val 3 rfl⟩
/-- an access leaves the machine as it was -/
theorem PoS.stepped {i : Nat} {k want put : Int} (h : PoS w0 B a c p m P T R t v tl nx fu cs xs n K who true w) (hp : m ≠ p) (hm : m ∈ K) (hs : ArxStep B a c p cs xs n K i who k want put w w') :
    PoS w0 B a c p m P T R t v tl nx fu (cs.set i (leftI k (cs.getD i 0) want put)) (xs ++ accV who k i want put (cs.getD i 0) (leftI k (cs.getD i 0) want put)) (n + 1) K who false w' := by
  obtain ⟨h1, h2, h3⟩ := hs
  exact ⟨h.mach.touch h3 (fun r => r.elim hp (fun r => r.2 hm)), h1, h2, h.touch.trans (h3.mono fun _ _ hr => hr.elim .inl (fun r => .inr (.inr r)))⟩
theorem PoS.tail (h : PoS w0 B a c p m P T R t v tl nx fu cs xs n K who o w) (hp : m ≠ p) (hm : m ∈ K) (x : Int) : PoS w0 B a c p m P T R t v x nx fu cs xs n K who o (w.setCell ⟨m, 5, none⟩ (.int .u64 x)) :=
  have hT : Touch (fun b => b = m) w (w.setCell ⟨m, 5, none⟩ (.int .u64 x)) := (Touch.refl (fun b => b = m) w).setCell (p := ⟨m, 5, none⟩) rfl _
  ⟨h.mach.set 5 _, h.arx.touch hT (fun _ e => e ▸ hm), h.port.touch hT (Ne.symm hp), h.touch.trans (hT.mono fun _ _ e => .inr (.inl e))⟩
theorem PoS.next (h : PoS w0 B a c p m P T R t v tl nx fu cs xs n K who o w) (hp : m ≠ p) (hm : m ∈ K) (x : Int) : PoS w0 B a c p m P T R t v tl x fu cs xs n K who o (w.setCell ⟨m, 6, none⟩ (.int .i64 x)) :=
  have hT : Touch (fun b => b = m) w (w.setCell ⟨m, 6, none⟩ (.int .i64 x)) := (Touch.refl (fun b => b = m) w).setCell (p := ⟨m, 6, none⟩) rfl _
  ⟨h.mach.set 6 _, h.arx.touch hT (fun _ e => e ▸ hm), h.port.touch hT (Ne.symm hp), h.touch.trans (hT.mono fun _ _ e => .inr (.inl e))⟩
theorem PoS.full (h : PoS w0 B a c p m P T R t v tl nx fu cs xs n K who o w) (hp : m ≠ p) (hm : m ∈ K) (x : Bool) : PoS w0 B a c p m P T R t v tl nx x cs xs n K who o (w.setCell ⟨m, 7, none⟩ (.bool x)) :=
  have hT : Touch (fun b => b = m) w (w.setCell ⟨m, 7, none⟩ (.bool x)) := (Touch.refl (fun b => b = m) w).setCell (p := ⟨m, 7, none⟩) rfl _
  ⟨h.mach.set 7 _, h.arx.touch hT (fun _ e => e ▸ hm), h.port.touch hT (Ne.symm hp), h.touch.trans (hT.mono fun _ _ e => .inr (.inl e))⟩
theorem PoS.value (h : PoS w0 B a c p m P T R t v tl nx fu cs xs n K who o w) (hp : m ≠ p) (hm : m ∈ K) (x : Int) : PoS w0 B a c p m P T R t x tl nx fu cs xs n K who o (w.setCell ⟨m, 4, none⟩ (.int .u64 x)) :=
  have hT : Touch (fun b => b = m) w (w.setCell ⟨m, 4, none⟩ (.int .u64 x)) := (Touch.refl (fun b => b = m) w).setCell (p := ⟨m, 4, none⟩) rfl _
  ⟨h.mach.set 4 _, h.arx.touch hT (fun _ e => e ▸ hm), h.port.touch hT (Ne.symm hp), h.touch.trans (hT.mono fun _ _ e => .inr (.inl e))⟩
theorem PoS.valueCell (h : PoS w0 B a c p m P T R t v tl nx fu cs xs n K who o w) : w.cell? ⟨m, 4, none⟩ = some (.int .u64 v) ∧ w.frozen? ⟨m, 4, none⟩ = false := ⟨h.mach.val 4 rfl, h.mach.frozen 4⟩
theorem PoS.over (h : PoS w0 B a c p m P T R t v tl nx fu cs xs n K who o w) :
    Calls Try.prog 39 #[.pointer (some ⟨m, 0, none⟩)] w fun e w' => e = .returned (.bool (nx == 0)) ∧ PoS w0 B a c p m P T R t v tl nx fu cs xs n K who o w' :=
  (over_pop h.mach).mono fun _ _ ⟨he, hq⟩ => ⟨he, h.quiet hq⟩
theorem PoS.open' (h : PoS w0 B a c p m P T R t v tl nx fu cs xs n K who o w) :
    Calls Try.prog 54 #[.pointer (some ⟨p, 0, none⟩)] w fun e w' => e = .returned (.bool o) ∧ PoS w0 B a c p m P T R t v tl nx fu cs xs n K who o w' :=
  (open_at p a who o w h.port).mono fun _ _ ⟨he, hq⟩ => ⟨he, h.quiet hq⟩
theorem PoS.nextCell (h : PoS w0 B a c p m P T R t v tl nx fu cs xs n K who o w) : w.cell? ⟨m, 6, none⟩ = some (.int .i64 nx) ∧ w.frozen? ⟨m, 6, none⟩ = false := ⟨h.mach.val 6 rfl, h.mach.frozen 6⟩
theorem PoS.tailCell (h : PoS w0 B a c p m P T R t v tl nx fu cs xs n K who o w) : w.cell? ⟨m, 5, none⟩ = some (.int .u64 tl) ∧ w.frozen? ⟨m, 5, none⟩ = false := ⟨h.mach.val 5 rfl, h.mach.frozen 5⟩
theorem PoS.fullCell (h : PoS w0 B a c p m P T R t v tl nx fu cs xs n K who o w) : w.cell? ⟨m, 7, none⟩ = some (.bool fu) ∧ w.frozen? ⟨m, 7, none⟩ = false := ⟨h.mach.val 7 rfl, h.mach.frozen 7⟩
theorem PoS.load {i : Nat} (h : PoS w0 B a c p m P T R t v tl nx fu cs xs n K who true w) (hmp : m ≠ p) (hm : m ∈ K) (hp : p ∈ K) (hn : n < 1000000) (hi : i < cs.length) :
    Calls Try.prog 55 #[.pointer (some ⟨p, 0, none⟩), .int .i64 i] w fun e w' => (e = .returned (.int .u64 (cs.getD i 0))) ∧ PoS w0 B a c p m P T R t v tl nx fu cs (xs ++ accV who 1 i 0 0 (cs.getD i 0) (cs.getD i 0)) (n + 1) K who false w' := by
  refine (load_x h.arx h.port hp hn hi).mono fun e w' ⟨he, hs⟩ => ⟨he, ?_⟩
  have := h.stepped hmp hm hs
  rw [show leftI 1 (cs.getD i 0) 0 0 = cs.getD i 0 from rfl, set_same] at this
  exact this
theorem PoS.store {i : Nat} (x : Int) (h : PoS w0 B a c p m P T R t v tl nx fu cs xs n K who true w) (hmp : m ≠ p) (hm : m ∈ K) (hp : p ∈ K) (hn : n < 1000000) (hi : i < cs.length) :
    Calls Try.prog 58 #[.pointer (some ⟨p, 0, none⟩), .int .i64 i, .int .u64 x] w fun e w' => (∃ u, e = .returned u) ∧ PoS w0 B a c p m P T R t v tl nx fu (cs.set i x) (xs ++ accV who 2 i 0 x (cs.getD i 0) x) (n + 1) K who false w' := by
  refine (store_x x h.arx h.port hp hn hi).mono fun e w' ⟨he, hs⟩ => ⟨he, ?_⟩
  have := h.stepped hmp hm hs
  exact this
end
end Go.Proofs.Ytamekeebgkdhcaa
/- What a step of ring's Pop does, access by access. Condition: the arena, its port and the machine are there, the plan is right, the thread is there. -/
namespace Go.Proofs.Ytamekeebgkdhcaa
open Go.RowKit
section
variable {w0 w w' : World} {B a c p m : Nat} {P T R t v tl nx : Int} {fu : Bool} {cs : List Int} {xs : List Value} {n : Nat} {K : List Nat} {who : Int} {o : Bool}

set_option maxRecDepth 100000 in
set_option maxHeartbeats 2000000 in
theorem pop_look_empty (x : Int) (h : PoS w0 B a c p m P T R t v tl nx fu cs xs n K who o w) (hmp : m ≠ p) (hm : m ∈ K) (hf : (x == tl) = true) :
    Calls Try.prog 60 #[.pointer (some ⟨m, 0, none⟩), .int .u64 x] w fun e w' => (∃ u, e = .returned u) ∧ PoS w0 B a c p m P T R t v tl 0 true cs xs n K who o w' := by
  have h3 := h.next hmp hm 5
  have n1 := h.nextCell
  have t3 := h3.tailCell
  have q3 := h3.fullCell
  have h5 := h3.full hmp hm true
  have h6 := h5.next hmp hm 0
  have n5 := h5.nextCell
  go_enter Try.func60, Try.ntmps60
  go_wp2
  go_end0
  exact ⟨⟨_, rfl⟩, h6⟩

set_option maxRecDepth 100000 in
set_option maxHeartbeats 2000000 in
theorem pop_look_some (x : Int) (h : PoS w0 B a c p m P T R t v tl nx fu cs xs n K who o w) (hmp : m ≠ p) (hm : m ∈ K) (hf : (x == tl) = false) :
    Calls Try.prog 60 #[.pointer (some ⟨m, 0, none⟩), .int .u64 x] w fun e w' => (∃ u, e = .returned u) ∧ PoS w0 B a c p m P T R t v tl 5 fu cs xs n K who o w' := by
  have h3 := h.next hmp hm 5
  have n1 := h.nextCell
  have t3 := h3.tailCell
  have q3 := h3.fullCell
  go_enter Try.func60, Try.ntmps60
  go_wp2
  go_end0
  exact ⟨⟨_, rfl⟩, h3⟩

set_option maxRecDepth 100000 in
set_option maxHeartbeats 2000000 in
theorem pop_step1 (h : PoS w0 B a c p m P T R t v tl 2 fu cs xs n K who true w) (hx : exB P T R t = true) (hmp : m ≠ p) (hm : m ∈ K) (hp : p ∈ K) (hn : n < 1000000) (hl : cs.length = cellsN P T R) :
    Calls Try.prog 38 #[.pointer (some ⟨m, 0, none⟩), .pointer (some ⟨p, 0, none⟩)] w fun e w' => e = .returned (.bool false) ∧
      PoS w0 B a c p m P T R t v (cs.getD (ownN R t 3) 0) 1 fu cs (xs ++ accV who 1 (ownN R t 3) 0 0 (cs.getD (ownN R t 3) 0) (cs.getD (ownN R t 3) 0)) (n + 1) K who false w' := by
  have hi := ownN_bd hx 3 (by decide) (by have := (exB_of hx).1.2.2.1; omega)
  have LD := Lib.hid (fun W (h : PoS w0 B a c p m P T R t v tl 2 fu cs xs n K who true W) => h.load hmp hm hp hn (i := ownN R t 3) (by rw [hl]; exact hi.2.1))
  have TT := Lib.hid (fun W => head_any P T R t W)
  rw [hi.1] at TT
  have Hmp := Lib.hid hmp
  clear hmp hi hl hx hn
  generalize cs.getD (ownN R t 3) 0 = z at *
  generalize ownN R t 3 = i at *
  go_enter Try.func38, Try.ntmps38
  go_wp2_with fail
  refine h.over.mono ?_; rintro e w1 ⟨rfl, h1⟩
  go_wp2_with fail
  refine h1.open'.mono ?_; rintro e w2 ⟨rfl, h2⟩
  have n2 := h2.nextCell
  go_wp2_with fail
  have hS := h2.drew
  clear h h1 h2
  go_region_held3 (fun W => W.cell? ⟨m, 0, none⟩ = some (.int .i64 P) ∧ W.cell? ⟨m, 1, none⟩ = some (.int .i64 T) ∧ W.cell? ⟨m, 2, none⟩ = some (.int .i64 R) ∧ W.cell? ⟨m, 3, none⟩ = some (.int .i64 t))
    (exact PoS.plan (by assumption))
    (first | (go_at_call 47; refine (TT.out _).mono ?_; rintro e w3 ⟨rfl, hb3⟩; have h3 := hS.grew hb3) | (go_at_call 55; refine (LD.out _ (by assumption)).mono ?_; rintro e w4 ⟨rfl, h4⟩; have n4 := h4.tailCell; have h5 := h4.tail Hmp.out hm z))
  have n5 := h5.nextCell
  have h6 := h5.next Hmp.out hm 1
  go_wp2_with fail
  refine h6.over.mono ?_; rintro e w7 ⟨rfl, h7⟩
  go_wp2
  go_ret
  exact ⟨rfl, h7⟩

set_option maxRecDepth 100000 in
set_option maxHeartbeats 2000000 in
theorem pop_step2_empty (h : PoS w0 B a c p m P T R t v tl 1 fu cs xs n K who true w) (hx : exB P T R t = true) (hmp : m ≠ p) (hm : m ∈ K) (hp : p ∈ K) (hn : n < 1000000) (hl : cs.length = cellsN P T R) (hf : (cs.getD (ownN R t 4) 0 == tl) = true) :
    Calls Try.prog 38 #[.pointer (some ⟨m, 0, none⟩), .pointer (some ⟨p, 0, none⟩)] w fun e w' => e = .returned (.bool true) ∧
      PoS w0 B a c p m P T R t v tl 0 true cs (xs ++ accV who 1 (ownN R t 4) 0 0 (cs.getD (ownN R t 4) 0) (cs.getD (ownN R t 4) 0)) (n + 1) K who false w' := by
  have hi := ownN_bd hx 4 (by decide) (by have := (exB_of hx).1.2.2.1; omega)
  have LD := Lib.hid (fun W (h : PoS w0 B a c p m P T R t v tl 1 fu cs xs n K who true W) => h.load hmp hm hp hn (i := ownN R t 4) (by rw [hl]; exact hi.2.1))
  have TT := Lib.hid (fun W => tail_any P T R t W)
  rw [hi.1] at TT
  have Hmp := Lib.hid hmp
  clear hmp hi hl hx hn
  generalize cs.getD (ownN R t 4) 0 = z at *
  generalize ownN R t 4 = i at *
  have LK := Lib.hid (fun W (h : PoS w0 B a c p m P T R t v tl 1 fu cs (xs ++ accV who 1 i 0 0 z z) (n + 1) K who false W) => pop_look_empty z h Hmp.out hm hf)
  clear hf
  go_enter Try.func38, Try.ntmps38
  go_wp2_with fail
  refine h.over.mono ?_; rintro e w1 ⟨rfl, h1⟩
  go_wp2_with fail
  refine h1.open'.mono ?_; rintro e w2 ⟨rfl, h2⟩
  have n2 := h2.nextCell
  go_wp2_with fail
  have hS := h2.drew
  clear h h1 h2
  go_region_held3 (fun W => W.cell? ⟨m, 0, none⟩ = some (.int .i64 P) ∧ W.cell? ⟨m, 1, none⟩ = some (.int .i64 T) ∧ W.cell? ⟨m, 2, none⟩ = some (.int .i64 R) ∧ W.cell? ⟨m, 3, none⟩ = some (.int .i64 t))
    (exact PoS.plan (by assumption))
    (first | (go_at_call 56; refine (TT.out _).mono ?_; rintro e w3 ⟨rfl, hb3⟩; have h3 := hS.grew hb3) | (go_at_call 55; refine (LD.out _ (by assumption)).mono ?_; rintro e w4 ⟨rfl, h4⟩) | (go_at_call 60; refine (LK.out _ (by assumption)).mono ?_; rintro e w5 ⟨⟨u5, rfl⟩, h5⟩))
  go_wp2_with fail
  refine h5.over.mono ?_; rintro e w7 ⟨rfl, h7⟩
  go_wp2
  go_ret
  exact ⟨rfl, h7⟩

set_option maxRecDepth 100000 in
set_option maxHeartbeats 2000000 in
theorem pop_step2_some (h : PoS w0 B a c p m P T R t v tl 1 fu cs xs n K who true w) (hx : exB P T R t = true) (hmp : m ≠ p) (hm : m ∈ K) (hp : p ∈ K) (hn : n < 1000000) (hl : cs.length = cellsN P T R) (hf : (cs.getD (ownN R t 4) 0 == tl) = false) :
    Calls Try.prog 38 #[.pointer (some ⟨m, 0, none⟩), .pointer (some ⟨p, 0, none⟩)] w fun e w' => e = .returned (.bool false) ∧
      PoS w0 B a c p m P T R t v tl 5 fu cs (xs ++ accV who 1 (ownN R t 4) 0 0 (cs.getD (ownN R t 4) 0) (cs.getD (ownN R t 4) 0)) (n + 1) K who false w' := by
  have hi := ownN_bd hx 4 (by decide) (by have := (exB_of hx).1.2.2.1; omega)
  have LD := Lib.hid (fun W (h : PoS w0 B a c p m P T R t v tl 1 fu cs xs n K who true W) => h.load hmp hm hp hn (i := ownN R t 4) (by rw [hl]; exact hi.2.1))
  have TT := Lib.hid (fun W => tail_any P T R t W)
  rw [hi.1] at TT
  have Hmp := Lib.hid hmp
  clear hmp hi hl hx hn
  generalize cs.getD (ownN R t 4) 0 = z at *
  generalize ownN R t 4 = i at *
  have LK := Lib.hid (fun W (h : PoS w0 B a c p m P T R t v tl 1 fu cs (xs ++ accV who 1 i 0 0 z z) (n + 1) K who false W) => pop_look_some z h Hmp.out hm hf)
  clear hf
  go_enter Try.func38, Try.ntmps38
  go_wp2_with fail
  refine h.over.mono ?_; rintro e w1 ⟨rfl, h1⟩
  go_wp2_with fail
  refine h1.open'.mono ?_; rintro e w2 ⟨rfl, h2⟩
  have n2 := h2.nextCell
  go_wp2_with fail
  have hS := h2.drew
  clear h h1 h2
  go_region_held3 (fun W => W.cell? ⟨m, 0, none⟩ = some (.int .i64 P) ∧ W.cell? ⟨m, 1, none⟩ = some (.int .i64 T) ∧ W.cell? ⟨m, 2, none⟩ = some (.int .i64 R) ∧ W.cell? ⟨m, 3, none⟩ = some (.int .i64 t))
    (exact PoS.plan (by assumption))
    (first | (go_at_call 56; refine (TT.out _).mono ?_; rintro e w3 ⟨rfl, hb3⟩; have h3 := hS.grew hb3) | (go_at_call 55; refine (LD.out _ (by assumption)).mono ?_; rintro e w4 ⟨rfl, h4⟩) | (go_at_call 60; refine (LK.out _ (by assumption)).mono ?_; rintro e w5 ⟨⟨u5, rfl⟩, h5⟩))
  go_wp2_with fail
  refine h5.over.mono ?_; rintro e w7 ⟨rfl, h7⟩
  go_wp2
  go_ret
  exact ⟨rfl, h7⟩

set_option maxRecDepth 100000 in
set_option maxHeartbeats 2000000 in
theorem pop_step3 (h : PoS w0 B a c p m P T R t v tl 5 fu cs xs n K who true w) (hx : exB P T R t = true) (hmp : m ≠ p) (hm : m ∈ K) (hp : p ∈ K) (hn : n < 1000000) (hl : cs.length = cellsN P T R) (hu : U64 tl) :
    Calls Try.prog 38 #[.pointer (some ⟨m, 0, none⟩), .pointer (some ⟨p, 0, none⟩)] w fun e w' => e = .returned (.bool false) ∧
      PoS w0 B a c p m P T R t (cs.getD (slotN R t tl) 0) tl 6 fu cs (xs ++ accV who 1 (slotN R t tl) 0 0 (cs.getD (slotN R t tl) 0) (cs.getD (slotN R t tl) 0)) (n + 1) K who false w' := by
  have hi := slotN_bd hx tl
  have LD := Lib.hid (fun W (h : PoS w0 B a c p m P T R t v tl 5 fu cs xs n K who true W) => h.load hmp hm hp hn (i := slotN R t tl) (by rw [hl]; exact hi.2.1))
  have TT := Lib.hid (fun W => slot_any P T R t tl W hu)
  rw [hi.1] at TT
  have Hmp := Lib.hid hmp
  clear hmp hi hl hx hn hu
  generalize cs.getD (slotN R t tl) 0 = z at *
  generalize slotN R t tl = i at *
  go_enter Try.func38, Try.ntmps38
  go_wp2_with fail
  refine h.over.mono ?_; rintro e w1 ⟨rfl, h1⟩
  go_wp2_with fail
  refine h1.open'.mono ?_; rintro e w2 ⟨rfl, h2⟩
  have n2 := h2.nextCell
  go_wp2_with fail
  have hS := h2.drew
  clear h h1 h2
  go_region_held3 (fun W => (W.cell? ⟨m, 0, none⟩ = some (.int .i64 P) ∧ W.cell? ⟨m, 1, none⟩ = some (.int .i64 T) ∧ W.cell? ⟨m, 2, none⟩ = some (.int .i64 R) ∧ W.cell? ⟨m, 3, none⟩ = some (.int .i64 t)) ∧ W.cell? ⟨m, 5, none⟩ = some (.int .u64 tl))
    (exact ⟨PoS.plan (by assumption), (PoS.tailCell (by assumption)).1⟩)
    (first | (go_at_call 59; refine (TT.out _).mono ?_; rintro e w3 ⟨rfl, hb3⟩; have h3 := hS.grew hb3) | (go_at_call 55; refine (LD.out _ (by assumption)).mono ?_; rintro e w4 ⟨rfl, h4⟩; have n4 := h4.valueCell; have h5 := h4.value Hmp.out hm z))
  have n5 := h5.nextCell
  have h6 := h5.next Hmp.out hm 6
  go_wp2_with fail
  refine h6.over.mono ?_; rintro e w7 ⟨rfl, h7⟩
  go_wp2
  go_ret
  exact ⟨rfl, h7⟩

set_option maxRecDepth 100000 in
set_option maxHeartbeats 2000000 in
theorem pop_step4 (h : PoS w0 B a c p m P T R t v tl 6 fu cs xs n K who true w) (hx : exB P T R t = true) (hmp : m ≠ p) (hm : m ∈ K) (hp : p ∈ K) (hn : n < 1000000) (hl : cs.length = cellsN P T R) :
    Calls Try.prog 38 #[.pointer (some ⟨m, 0, none⟩), .pointer (some ⟨p, 0, none⟩)] w fun e w' => e = .returned (.bool true) ∧
      PoS w0 B a c p m P T R t v tl 0 fu (cs.set (ownN R t 3) (IntKind.u64.wrap (tl + 1))) (xs ++ accV who 2 (ownN R t 3) 0 (IntKind.u64.wrap (tl + 1)) (cs.getD (ownN R t 3) 0) (IntKind.u64.wrap (tl + 1))) (n + 1) K who false w' := by
  have hi := ownN_bd hx 3 (by decide) (by have := (exB_of hx).1.2.2.1; omega)
  have ST := Lib.hid (fun W (h : PoS w0 B a c p m P T R t v tl 6 fu cs xs n K who true W) => h.store (IntKind.u64.wrap (tl + 1)) hmp hm hp hn (i := ownN R t 3) (by rw [hl]; exact hi.2.1))
  have TT := Lib.hid (fun W => head_any P T R t W)
  rw [hi.1] at TT
  have Hmp := Lib.hid hmp
  clear hmp hi hl hx hn
  generalize cs.getD (ownN R t 3) 0 = z at *
  generalize ownN R t 3 = i at *
  go_enter Try.func38, Try.ntmps38
  go_wp2_with fail
  refine h.over.mono ?_; rintro e w1 ⟨rfl, h1⟩
  go_wp2_with fail
  refine h1.open'.mono ?_; rintro e w2 ⟨rfl, h2⟩
  have n2 := h2.nextCell
  go_wp2_with fail
  have hS := h2.drew
  clear h h1 h2
  go_region_held3 (fun W => (W.cell? ⟨m, 0, none⟩ = some (.int .i64 P) ∧ W.cell? ⟨m, 1, none⟩ = some (.int .i64 T) ∧ W.cell? ⟨m, 2, none⟩ = some (.int .i64 R) ∧ W.cell? ⟨m, 3, none⟩ = some (.int .i64 t)) ∧ W.cell? ⟨m, 5, none⟩ = some (.int .u64 tl))
    (exact ⟨PoS.plan (by assumption), (PoS.tailCell (by assumption)).1⟩)
    (first | (go_at_call 47; refine (TT.out _).mono ?_; rintro e w3 ⟨rfl, hb3⟩; have h3 := hS.grew hb3) | (go_at_call 58; refine (ST.out _ (by assumption)).mono ?_; rintro e w4 ⟨⟨u4, rfl⟩, h5⟩))
  have n5 := h5.nextCell
  have h6 := h5.next Hmp.out hm 0
  go_wp2_with fail
  refine h6.over.mono ?_; rintro e w7 ⟨rfl, h7⟩
  go_wp2
  go_ret
  exact ⟨rfl, h7⟩

set_option maxRecDepth 100000 in
set_option maxHeartbeats 2000000 in
theorem pop_over (h : PoS w0 B a c p m P T R t v tl 0 fu cs xs n K who o w) :
    Calls Try.prog 38 #[.pointer (some ⟨m, 0, none⟩), .pointer (some ⟨p, 0, none⟩)] w fun e w' => e = .returned (.bool true) ∧ PoS w0 B a c p m P T R t v tl 0 fu cs xs n K who o w' := by
  go_enter Try.func38, Try.ntmps38
  go_wp2_with fail
  refine h.over.mono ?_; rintro e w1 ⟨rfl, h1⟩
  go_wp2_with fail
  refine h1.over.mono ?_; rintro e w2 ⟨rfl, h2⟩
  go_wp2
  go_ret
  exact ⟨rfl, h2⟩
set_option maxRecDepth 100000 in
set_option maxHeartbeats 2000000 in
theorem pop_shut (h : PoS w0 B a c p m P T R t v tl nx fu cs xs n K who false w) (hnx : (nx == 0) = false) :
    Calls Try.prog 38 #[.pointer (some ⟨m, 0, none⟩), .pointer (some ⟨p, 0, none⟩)] w fun e w' => e = .returned (.bool false) ∧ PoS w0 B a c p m P T R t v tl nx fu cs xs n K who false w' := by
  have O := Lib.hid (fun W (h : PoS w0 B a c p m P T R t v tl nx fu cs xs n K who false W) => h.over)
  rw [hnx] at O
  clear hnx
  go_enter Try.func38, Try.ntmps38
  go_wp2_with fail
  refine (O.out _ h).mono ?_; rintro e w1 ⟨rfl, h1⟩
  go_wp2_with fail
  refine h1.open'.mono ?_; rintro e w2 ⟨rfl, h2⟩
  go_wp2_with fail
  refine (O.out _ h2).mono ?_; rintro e w3 ⟨rfl, h3⟩
  go_wp2
  go_ret
  exact ⟨rfl, h3⟩
end
end Go.Proofs.Ytamekeebgkdhcaa
/- The document's tape: what it was answered, and what it asks next. No condition but that its blocks lie there. -/
namespace Go.Proofs.Ytamekeebgkdhcaa
open Go.RowKit
set_option linter.unusedVariables false

/-- answers, the next one, what is asked (kind, cell, want, put), does it stand? -/
structure Tp where
  H : List Int
  pos : Nat
  k : Int
  a : Int
  wn : Int
  p : Int
  st : Bool
def Tp.ask (t : Tp) (k a wn p : Int) : Int × Tp := if t.st then (0, t) else if t.pos < t.H.length then (t.H.getD t.pos 0, { t with pos := t.pos + 1 }) else (0, { t with k := k, a := a, wn := wn, p := p, st := true })
def Tp.again (t : Tp) : Tp := { t with pos := 0, st := false }
abbrev tpCells (hv : Value) (t : Tp) : Array Value := #[hv, .int .i64 t.pos, .int .i64 0, .int .i64 t.k, .int .i64 t.a, .int .u64 t.wn, .int .u64 t.p, .int .u64 0, .int .u64 0, .bool t.st]
structure TapeAt (w : World) (B x : Nat) (hv : Value) (t : Tp) : Prop where
  own : Blk w x (tpCells hv t) 58
  row : w.ownsRow B 41 1 hv t.H.length (t.H.map (Value.int .u64))
theorem own_neP {w : World} {B E size n b : Nat} {v : Value} {xs : List Value} {cs : Array Value} {t : TypeId} (h : w.ownsRow B E size v n xs) (hb : Blk w b cs t) (ht : E ≠ t) : v.ownBlock ≠ some b := by
  intro hg
  rcases h.2 with ⟨hv, _⟩ | ⟨g', cap, cur, hv, _, hh, _⟩
  · rw [hv] at hg; cases hg
  · rw [hv] at hg
    obtain rfl : g' = b := Option.some.inj hg
    unfold Blk at hb
    rw [hh] at hb
    injection hb with hb
    injection hb with _ h2
    exact ht h2
theorem own_touchP {R : Nat → Prop} {w w' : World} {base n size : Nat} {e : TypeId} {v : Value} {xs : List Value} (h : w.ownsRow base e size v n xs) (hk : Touch R w w') (hx : ∀ k, v.ownBlock = some k → ¬ R k) : w'.ownsRow base e size v n xs := by
  refine ⟨h.1, ?_⟩
  rcases h.2 with hn | ⟨g, cap, cur, h1, h2, h3, h4⟩
  · exact .inl hn
  · exact .inr ⟨g, cap, cur, h1, h2, (hk.block g (Array.getElem?_eq_some_iff.1 h3).1 (hx g (by rw [h1]; rfl))).trans h3, h4⟩
theorem TapeAt.touch {w w' : World} {B x : Nat} {hv : Value} {t : Tp} {R : Nat → Prop} (h : TapeAt w B x hv t) (hT : Touch R w w') (hx : ¬ R x) (hr : ∀ g, hv.ownBlock = some g → ¬ R g) : TapeAt w' B x hv t :=
  ⟨Blk.touch h.own hT hx, own_touchP h.row hT hr⟩
theorem TapeAt.set {w : World} {B x : Nat} {hv : Value} {t t' : Tp} (h : TapeAt w B x hv t) {w' : World} (hT : Touch (· = x) w w') (hb : Blk w' x (tpCells hv t') 58) (hH : t'.H = t.H) : TapeAt w' B x hv t' :=
  ⟨hb, by rw [hH]; exact own_touchP h.row hT (fun g e e2 => own_neP h.row h.own (by decide) (by rw [← e2]; exact e))⟩
set_option maxHeartbeats 1000000 in
theorem again_at (B x : Nat) (hv : Value) (t : Tp) (w : World) (h : TapeAt w B x hv t) :
    Calls Try.prog 30 #[.pointer (some ⟨x, 0, none⟩)] w fun e w' => (∃ v, e = .returned v) ∧ TapeAt w' B x hv t.again ∧ Touch (· = x) w w' := by
  have c1 := h.own.val 1 rfl
  have c9 := h.own.val 9 rfl
  have f1 := h.own.frozen 1
  have f9 := h.own.frozen 9
  have hT : Touch (· = x) w ((w.setCell ⟨x, 1, none⟩ (.int .i64 0)).setCell ⟨x, 9, none⟩ (.bool false)) := Touch.setCell (R := (· = x)) (Touch.setCell (R := (· = x)) (Touch.refl _ _) rfl _) rfl _
  have hB : Blk ((w.setCell ⟨x, 1, none⟩ (.int .i64 0)).setCell ⟨x, 9, none⟩ (.bool false)) x (tpCells hv t.again) 58 := (h.own.set 1 (.int .i64 0)).set 9 (.bool false)
  have H := Lib.hid (And.intro (h.set hT hB rfl) hT)
  clear h hT hB
  go_enter Try.func30, Try.ntmps30
  go_wp2
  go_end0
  exact ⟨⟨_, rfl⟩, H.out⟩
set_option maxHeartbeats 2000000 in
theorem ask_any (B x : Nat) (hv : Value) (t : Tp) (w : World) (h : TapeAt w B x hv t) (hm : t.H.length ≤ 1000000) (k a wn p : Int) :
    Calls Try.prog 63 #[.pointer (some ⟨x, 0, none⟩), .int .i64 k, .int .i64 a, .int .u64 wn, .int .u64 p] w fun e w' => e = .returned (.int .u64 (t.ask k a wn p).1) ∧ TapeAt w' B x hv (t.ask k a wn p).2 ∧ Touch (· = x) w w' := by
  obtain ⟨H, pos, k0, a0, wn0, p0, st⟩ := t
  have c0 := h.own.val 0 rfl
  have c1 := h.own.val 1 rfl
  have c9 := h.own.val 9 rfl
  have f1 := h.own.frozen 1
  have f9 := h.own.frozen 9
  cases st with
  | true =>
    have HH := Lib.hid h
    clear h
    go_enter Try.func63, Try.ntmps63
    go_wp2
    go_ret
    exact ⟨rfl, HH.out, Touch.refl _ _⟩
  | false =>
    obtain ⟨ha, hc, rfl⟩ : ∃ a c, hv = .slice a H.length c := by
      rcases h.row.2 with ⟨h1, h2⟩ | ⟨g, cap, cur, h1, _⟩
      · exact ⟨none, 0, by rw [h1]; have : H.length = 0 := h2; rw [this]⟩
      · exact ⟨_, cap, h1⟩
    by_cases hp : pos < H.length
    · have hk : Tp.ask ⟨H, pos, k0, a0, wn0, p0, false⟩ k a wn p = (H.getD pos 0, ⟨H, pos + 1, k0, a0, wn0, p0, false⟩) := by simp [Tp.ask, hp]
      rw [hk]
      obtain ⟨g, rfl, hcell⟩ : ∃ g, ha = some ⟨g, 0, none⟩ ∧ w.cell? ⟨g, pos, none⟩ = some (.int .u64 (H.getD pos 0)) := by
        rcases h.row.2 with ⟨_, h2⟩ | ⟨g, cap, cur, h1, _⟩
        · have : H.length = 0 := h2; omega
        · simp only [Value.slice.injEq] at h1
          refine ⟨g, h1.1, ?_⟩
          have hr := h.row
          rw [h1.1] at hr
          rw [hr.cellAt pos (by omega)]
          simp [List.getD_eq_getElem?_getD, hp]
      have hgx : g ≠ x := fun e => own_neP h.row h.own (by decide) (by rw [e]; rfl)
      have hT : Touch (· = x) w (w.setCell ⟨x, 1, none⟩ (.int .i64 ((pos : Int) + 1))) := Touch.setCell (R := (· = x)) (Touch.refl _ _) rfl _
      have hB : Blk (w.setCell ⟨x, 1, none⟩ (.int .i64 ((pos : Int) + 1))) x (tpCells (.slice (some ⟨g, 0, none⟩) H.length hc) ⟨H, pos + 1, k0, a0, wn0, p0, false⟩) 58 := h.own.set 1 (.int .i64 ((pos : Int) + 1))
      have HH := Lib.hid (And.intro (h.set hT hB rfl) hT)
      have h1 : (pos : Int) < (H.length : Int) := by omega
      have h2 : (0 : Int) ≤ (pos : Int) := by omega
      have h3 : (H.length : Int) ≤ 1000000 := by have := hm; simp at this; omega
      have hcell2 := (World.cell?_setCell_other w ⟨x, 1, none⟩ ⟨g, pos, none⟩ (.int .i64 ((pos : Int) + 1)) (fun e => hgx (by cases e; rfl))).trans hcell
      have HO := Lib.hid h
      clear h hT hB hm hk
      generalize H.getD pos 0 = z at *
      go_enter Try.func63, Try.ntmps63
      go_upto_region 3 with fail
      go_quiet (fail)
      have hB2 : Blk ((w.drewN nq).setCell ⟨x, 1, none⟩ (.int .i64 ((pos : Int) + 1))) x (tpCells (.slice (some ⟨g, 0, none⟩) H.length hc) ⟨H, pos + 1, k0, a0, wn0, p0, false⟩) 58 := (HO.out.own.drewN nq).set 1 (.int .i64 ((pos : Int) + 1))
      have hT2 : Touch (· = x) w ((w.drewN nq).setCell ⟨x, 1, none⟩ (.int .i64 ((pos : Int) + 1))) := Touch.setCell (R := (· = x)) ((Touch.refl _ _).drewN nq) rfl _
      have hA2 := HO.out.set hT2 hB2 rfl
      have hc2 : ((w.drewN nq).setCell ⟨x, 1, none⟩ (.int .i64 ((pos : Int) + 1))).cell? ⟨g, pos, none⟩ = some (.int .u64 z) := (World.cell?_setCell_other (w.drewN nq) ⟨x, 1, none⟩ ⟨g, pos, none⟩ (.int .i64 ((pos : Int) + 1)) (fun e => hgx (by cases e; rfl))).trans hcell
      go_upto_region 5 with fail
      generalize (w.drewN nq).setCell ⟨x, 1, none⟩ (.int .i64 ((pos : Int) + 1)) = W at *
      have d0 := hB2.val 0 rfl
      have d1 := hB2.val 1 rfl
      have HF := Lib.hid (And.intro hA2 hT2)
      have hL0 : 0 < H.length := by omega
      clear hA2 hT2 hB2
      go_quiet (fail)
      go_wp2
      go_ret
      exact ⟨rfl, HF.out.1.touch (R := fun _ => False) ((Touch.refl _ _).drewN _) (fun e => e) (fun _ _ e => e), HF.out.2.drewN _⟩
    · have hk : Tp.ask ⟨H, pos, k0, a0, wn0, p0, false⟩ k a wn p = (0, ⟨H, pos, k, a, wn, p, true⟩) := by simp [Tp.ask, hp]
      rw [hk]
      have h1 : ¬ (pos : Int) < (H.length : Int) := by omega
      have q2 := h.own.val 2 rfl
      have q3 := h.own.val 3 rfl
      have q4 := h.own.val 4 rfl
      have q5 := h.own.val 5 rfl
      have q6 := h.own.val 6 rfl
      have q7 := h.own.val 7 rfl
      have q8 := h.own.val 8 rfl
      have g2 := h.own.frozen 2
      have g3 := h.own.frozen 3
      have g4 := h.own.frozen 4
      have g5 := h.own.frozen 5
      have g6 := h.own.frozen 6
      have g7 := h.own.frozen 7
      have g8 := h.own.frozen 8
      have HH := Lib.hid h
      clear h hm hk
      go_enter Try.func63, Try.ntmps63
      go_upto_region 3 with fail
      go_quiet (fail)
      go_wp2
      have hB := ((((((((HH.out.own.drewN nq).set 2 (.int .i64 0)).set 3 (.int .i64 k)).set 4 (.int .i64 a)).set 5 (.int .u64 wn)).set 6 (.int .u64 p)).set 7 (.int .u64 0)).set 8 (.int .u64 0)).set 9 (.bool true)
      have hT := Touch.setCell (R := (· = x)) (p := ⟨x, 9, none⟩) (Touch.setCell (R := (· = x)) (p := ⟨x, 8, none⟩) (Touch.setCell (R := (· = x)) (p := ⟨x, 7, none⟩) (Touch.setCell (R := (· = x)) (p := ⟨x, 6, none⟩) (Touch.setCell (R := (· = x)) (p := ⟨x, 5, none⟩) (Touch.setCell (R := (· = x)) (p := ⟨x, 4, none⟩) (Touch.setCell (R := (· = x)) (p := ⟨x, 3, none⟩) (Touch.setCell (R := (· = x)) (p := ⟨x, 2, none⟩) ((Touch.refl (· = x) w).drewN nq) rfl (.int .i64 0)) rfl (.int .i64 k)) rfl (.int .i64 a)) rfl (.int .u64 wn)) rfl (.int .u64 p)) rfl (.int .u64 0)) rfl (.int .u64 0)) rfl (.bool true)
      go_ret
      simp only [List.setIfInBounds_toArray, List.set_cons_zero, List.set_cons_succ] at hB
      have hR := HH.out.set (t' := ⟨H, pos, k, a, wn, p, true⟩) hT hB rfl
      exact ⟨rfl, hR, hT⟩
end Go.Proofs.Ytamekeebgkdhcaa
/- The document's tape: its accesses. No condition but that its blocks lie there. -/
namespace Go.Proofs.Ytamekeebgkdhcaa
open Go.RowKit
set_option linter.unusedVariables false
variable {B x : Nat} {hv : Value} {t : Tp} {w : World}
set_option maxHeartbeats 400000 in
theorem tload_any (h : TapeAt w B x hv t) (hm : t.H.length ≤ 1000000) (a : Int) :
    Calls Try.prog 48 #[.pointer (some ⟨x, 0, none⟩), .int .i64 a] w fun e w' => e = .returned (.int .u64 (t.ask 1 a 0 0).1) ∧ TapeAt w' B x hv (t.ask 1 a 0 0).2 ∧ Touch (· = x) w w' := by
  have C := Lib.hid (ask_any B x hv t w h hm 1 a 0 0)
  clear h
  generalize t.ask 1 a 0 0 = r at *
  go_enter Try.func48, Try.ntmps48
  go_wp2_with fail
  refine C.out.mono ?_
  rintro e w' ⟨rfl, h1, h2⟩
  go_wp2
  go_ret
  exact ⟨rfl, h1, h2⟩
set_option maxHeartbeats 400000 in
theorem tstore_any (h : TapeAt w B x hv t) (hm : t.H.length ≤ 1000000) (a v : Int) :
    Calls Try.prog 51 #[.pointer (some ⟨x, 0, none⟩), .int .i64 a, .int .u64 v] w fun e w' => (∃ u, e = .returned u) ∧ TapeAt w' B x hv (t.ask 2 a 0 v).2 ∧ Touch (· = x) w w' := by
  have C := Lib.hid (ask_any B x hv t w h hm 2 a 0 v)
  clear h
  generalize t.ask 2 a 0 v = r at *
  go_enter Try.func51, Try.ntmps51
  go_wp2_with fail
  refine C.out.mono ?_
  rintro e w' ⟨rfl, h1, h2⟩
  go_wp2
  go_end0
  exact ⟨⟨_, rfl⟩, h1, h2⟩
end Go.Proofs.Ytamekeebgkdhcaa
