/- Texts of this seat, one behind the other: each says at its head what it holds. No condition of its own. -/
import Derived.Deep.RegionHeld3
import Derived.Test.YtlhigibgjggidaaGB10
/- What a step of ring's Push does, access by access: numbers and words for it. Condition: the arena, its port and the machine are there, the plan is right, the thread is there. -/
namespace Go.Proofs.Ytlhigibgjggidaa
open Go.RowKit
/-- the cells of a right plan -/
def cellsN (P T R : Int) : Nat := (baseI P T R + 64 * P).toNat
/-- a thread's cell number k of its own -/
def ownN (R t k : Int) : Nat := (16 + t * (5 + R) + k).toNat
theorem exB_of {P T R t : Int} (h : exB P T R t = true) : Right P T R ∧ inB t 0 (T - 1) = true := by
  unfold exB at h
  rw [Bool.and_eq_true] at h
  exact ⟨right_of h.1, h.2⟩
theorem ownN_bd {P T R t : Int} (h : exB P T R t = true) (k : Int) (h0 : 0 ≤ k) (h1 : k < 5 + R) : ownI P T R t k = (ownN R t k : Int) ∧ ownN R t k < cellsN P T R ∧ 16 ≤ ownN R t k := by
  obtain ⟨hR, ht⟩ := exB_of h
  have hb := base_bd hR
  have ht2 := tab_bd hR
  obtain ⟨h2, h3, h4, h5⟩ := own_bd hR ht
  have hR2 := hR
  obtain ⟨⟨p1, p2⟩, ⟨t1, t2⟩, r1, r2⟩ := hR2
  have htT : t * (5 + R) + (5 + R) ≤ T * (5 + R) := by
    have : (t + 1) * (5 + R) ≤ T * (5 + R) := Int.mul_le_mul_of_nonneg_right (by unfold inB at ht; have := of_decide_eq_true ht; omega) (by omega)
    rw [Int.add_mul, Int.one_mul] at this
    exact this
  have hU : ownI P T R t k = 16 + t * (5 + R) + k := by
    unfold ownI
    rw [if_pos (by rw [of_right hR, ht]; rfl)]
  have htab : tabI T R = 16 + T * (5 + R) := rfl
  unfold ownN cellsN
  rw [hU]
  generalize t * (5 + R) = q at *
  generalize T * (5 + R) = r at *
  refine ⟨by omega, by omega, by omega⟩
/-- the slot's cell for a count -/
def slotN (R t n : Int) : Nat := ownN R t (5 + n % R)
theorem slotN_bd {P T R t : Int} (h : exB P T R t = true) (n : Int) : slotI P T R t n = (slotN R t n : Int) ∧ slotN R t n < cellsN P T R ∧ 16 ≤ slotN R t n := by
  have hR := (exB_of h).1
  obtain ⟨_, _, r1, r2⟩ := hR
  have h1 := Int.emod_nonneg n (show R ≠ 0 by omega)
  have h2 := Int.emod_lt_of_pos n (show 0 < R by omega)
  exact ownN_bd h (5 + n % R) (by omega) (by omega)
theorem set_same (cs : List Int) (i : Nat) : cs.set i (cs.getD i 0) = cs := by
  apply List.ext_getElem
  · simp
  · intro k h1 h2
    simp only [List.getElem_set]
    by_cases e : i = k
    · subst e; simp [List.getD_eq_getElem?_getD, h2]
    · simp [e]
/-- the machine, the arena and the port, ahead of an access -/
structure PuS (w0 : World) (B a c p m : Nat) (P T R t v tl nx : Int) (fu : Bool) (cs : List Int) (xs : List Value) (n : Nat) (K : List Nat) (who : Int) (o : Bool) (w : World) : Prop where
  mach : PushAt w m P T R t v tl nx fu
  arx : Arx w B a c cs xs n K
  port : PortAt w p a who o
  touch : Touch (fun b => b = p ∨ b = m ∨ (B ≤ b ∧ b ∉ K)) w0 w
section
variable {w0 w w' : World} {B a c p m : Nat} {P T R t v tl nx : Int} {fu : Bool} {cs : List Int} {xs : List Value} {n : Nat} {K : List Nat} {who : Int} {o : Bool}
theorem PuS.start (hM : PushAt w m P T R t v tl nx fu) (hA : Arx w B a c cs xs n K) (hP : PortAt w p a who o) : PuS w B a c p m P T R t v tl nx fu cs xs n K who o w := ⟨hM, hA, hP, Touch.refl _ _⟩
theorem PuS.grew (h : PuS w0 B a c p m P T R t v tl nx fu cs xs n K who o w) (hb : Below w.heap.size w w') : PuS w0 B a c p m P T R t v tl nx fu cs xs n K who o w' :=
  ⟨h.mach.grew hb, h.arx.grew hb, h.port.grew hb, h.touch.trans (Touch.of hb)⟩
theorem PuS.quiet (h : PuS w0 B a c p m P T R t v tl nx fu cs xs n K who o w) (hq : Quiet w w') : PuS w0 B a c p m P T R t v tl nx fu cs xs n K who o w' := h.grew hq.below
theorem PuS.drew (h : PuS w0 B a c p m P T R t v tl nx fu cs xs n K who o w) : PuS w0 B a c p m P T R t v tl nx fu cs xs n K who o w.drew := h.quiet ⟨1, rfl⟩
theorem PuS.plan (h : PuS w0 B a c p m P T R t v tl nx fu cs xs n K who o w) : w.cell? ⟨m, 0, none⟩ = some (.int .i64 P) ∧ w.cell? ⟨m, 1, none⟩ = some (.int .i64 T) ∧ w.cell? ⟨m, 2, none⟩ = some (.int .i64 R) ∧ w.cell? ⟨m, 3, none⟩ = some (.int .i64 t) :=
  ⟨h.mach.val 0 rfl, h.mach.val 1 rfl, h.mach.val 2 rfl, h.mach.val 3 rfl⟩
/-- an access leaves the machine as it was -/
theorem PuS.stepped {i : Nat} {k want put : Int} (h : PuS w0 B a c p m P T R t v tl nx fu cs xs n K who true w) (hp : m ≠ p) (hm : m ∈ K) (hs : ArxStep B a c p cs xs n K i who k want put w w') :
    PuS w0 B a c p m P T R t v tl nx fu (cs.set i (leftI k (cs.getD i 0) want put)) (xs ++ accV who k i want put (cs.getD i 0) (leftI k (cs.getD i 0) want put)) (n + 1) K who false w' := by
  obtain ⟨h1, h2, h3⟩ := hs
  exact ⟨h.mach.touch h3 (fun r => r.elim hp (fun r => r.2 hm)), h1, h2, h.touch.trans (h3.mono fun _ _ hr => hr.elim .inl (fun r => .inr (.inr r)))⟩
theorem PuS.tail (h : PuS w0 B a c p m P T R t v tl nx fu cs xs n K who o w) (hp : m ≠ p) (hm : m ∈ K) (x : Int) : PuS w0 B a c p m P T R t v x nx fu cs xs n K who o (w.setCell ⟨m, 5, none⟩ (.int .u64 x)) :=
  have hT : Touch (fun b => b = m) w (w.setCell ⟨m, 5, none⟩ (.int .u64 x)) := (Touch.refl (fun b => b = m) w).setCell (p := ⟨m, 5, none⟩) rfl _
  ⟨h.mach.set 5 _, h.arx.touch hT (fun _ e => e ▸ hm), h.port.touch hT (Ne.symm hp), h.touch.trans (hT.mono fun _ _ e => .inr (.inl e))⟩
theorem PuS.next (h : PuS w0 B a c p m P T R t v tl nx fu cs xs n K who o w) (hp : m ≠ p) (hm : m ∈ K) (x : Int) : PuS w0 B a c p m P T R t v tl x fu cs xs n K who o (w.setCell ⟨m, 6, none⟩ (.int .i64 x)) :=
  have hT : Touch (fun b => b = m) w (w.setCell ⟨m, 6, none⟩ (.int .i64 x)) := (Touch.refl (fun b => b = m) w).setCell (p := ⟨m, 6, none⟩) rfl _
  ⟨h.mach.set 6 _, h.arx.touch hT (fun _ e => e ▸ hm), h.port.touch hT (Ne.symm hp), h.touch.trans (hT.mono fun _ _ e => .inr (.inl e))⟩
theorem PuS.full (h : PuS w0 B a c p m P T R t v tl nx fu cs xs n K who o w) (hp : m ≠ p) (hm : m ∈ K) (x : Bool) : PuS w0 B a c p m P T R t v tl nx x cs xs n K who o (w.setCell ⟨m, 7, none⟩ (.bool x)) :=
  have hT : Touch (fun b => b = m) w (w.setCell ⟨m, 7, none⟩ (.bool x)) := (Touch.refl (fun b => b = m) w).setCell (p := ⟨m, 7, none⟩) rfl _
  ⟨h.mach.set 7 _, h.arx.touch hT (fun _ e => e ▸ hm), h.port.touch hT (Ne.symm hp), h.touch.trans (hT.mono fun _ _ e => .inr (.inl e))⟩
theorem PuS.over (h : PuS w0 B a c p m P T R t v tl nx fu cs xs n K who o w) :
    Calls Try.prog 85 #[.pointer (some ⟨m, 0, none⟩)] w fun e w' => e = .returned (.bool (nx == 0)) ∧ PuS w0 B a c p m P T R t v tl nx fu cs xs n K who o w' :=
  (over_push h.mach).mono fun _ _ ⟨he, hq⟩ => ⟨he, h.quiet hq⟩
theorem PuS.open' (h : PuS w0 B a c p m P T R t v tl nx fu cs xs n K who o w) :
    Calls Try.prog 61 #[.pointer (some ⟨p, 0, none⟩)] w fun e w' => e = .returned (.bool o) ∧ PuS w0 B a c p m P T R t v tl nx fu cs xs n K who o w' :=
  (open_at p a who o w h.port).mono fun _ _ ⟨he, hq⟩ => ⟨he, h.quiet hq⟩
theorem PuS.valCell (h : PuS w0 B a c p m P T R t v tl nx fu cs xs n K who o w) : w.cell? ⟨m, 4, none⟩ = some (.int .u64 v) := h.mach.val 4 rfl
theorem PuS.nextCell (h : PuS w0 B a c p m P T R t v tl nx fu cs xs n K who o w) : w.cell? ⟨m, 6, none⟩ = some (.int .i64 nx) ∧ w.frozen? ⟨m, 6, none⟩ = false := ⟨h.mach.val 6 rfl, h.mach.frozen 6⟩
theorem PuS.tailCell (h : PuS w0 B a c p m P T R t v tl nx fu cs xs n K who o w) : w.cell? ⟨m, 5, none⟩ = some (.int .u64 tl) ∧ w.frozen? ⟨m, 5, none⟩ = false := ⟨h.mach.val 5 rfl, h.mach.frozen 5⟩
theorem PuS.fullCell (h : PuS w0 B a c p m P T R t v tl nx fu cs xs n K who o w) : w.cell? ⟨m, 7, none⟩ = some (.bool fu) ∧ w.frozen? ⟨m, 7, none⟩ = false := ⟨h.mach.val 7 rfl, h.mach.frozen 7⟩
theorem PuS.load {i : Nat} (h : PuS w0 B a c p m P T R t v tl nx fu cs xs n K who true w) (hmp : m ≠ p) (hm : m ∈ K) (hp : p ∈ K) (hn : n < 1000000) (hi : i < cs.length) :
    Calls Try.prog 67 #[.pointer (some ⟨p, 0, none⟩), .int .i64 i] w fun e w' => (e = .returned (.int .u64 (cs.getD i 0))) ∧ PuS w0 B a c p m P T R t v tl nx fu cs (xs ++ accV who 1 i 0 0 (cs.getD i 0) (cs.getD i 0)) (n + 1) K who false w' := by
  refine (load_x h.arx h.port hp hn hi).mono fun e w' ⟨he, hs⟩ => ⟨he, ?_⟩
  have := h.stepped hmp hm hs
  rw [show leftI 1 (cs.getD i 0) 0 0 = cs.getD i 0 from rfl, set_same] at this
  exact this
theorem PuS.store {i : Nat} (x : Int) (h : PuS w0 B a c p m P T R t v tl nx fu cs xs n K who true w) (hmp : m ≠ p) (hm : m ∈ K) (hp : p ∈ K) (hn : n < 1000000) (hi : i < cs.length) :
    Calls Try.prog 64 #[.pointer (some ⟨p, 0, none⟩), .int .i64 i, .int .u64 x] w fun e w' => (∃ u, e = .returned u) ∧ PuS w0 B a c p m P T R t v tl nx fu (cs.set i x) (xs ++ accV who 2 i 0 x (cs.getD i 0) x) (n + 1) K who false w' := by
  refine (store_x x h.arx h.port hp hn hi).mono fun e w' ⟨he, hs⟩ => ⟨he, ?_⟩
  have := h.stepped hmp hm hs
  exact this
end
end Go.Proofs.Ytlhigibgjggidaa
/- What a step of ring's Push does, access by access. Condition: the arena, its port and the machine are there, the plan is right, the thread is there. -/
namespace Go.Proofs.Ytlhigibgjggidaa
open Go.RowKit
section
variable {w0 w w' : World} {B a c p m : Nat} {P T R t v tl nx : Int} {fu : Bool} {cs : List Int} {xs : List Value} {n : Nat} {K : List Nat} {who : Int} {o : Bool}
/-- is a ring of R places full, with this tail and this head? -/
def fullB (R tl hd : Int) : Bool := decide (R ≤ IntKind.u64.wrap (tl - hd))
theorem ring_bd {P T R t : Int} (h : exB P T R t = true) : 1 ≤ R ∧ R ≤ 16 := (exB_of h).1.2.2

set_option maxRecDepth 100000 in
set_option maxHeartbeats 2000000 in
theorem look_full (hd : Int) (h : PuS w0 B a c p m P T R t v tl nx fu cs xs n K who o w) (hR : 1 ≤ R ∧ R ≤ 16) (hmp : m ≠ p) (hm : m ∈ K) (hf : fullB R tl hd = true) :
    Calls Try.prog 86 #[.pointer (some ⟨m, 0, none⟩), .int .u64 hd] w fun e w' => (∃ u, e = .returned u) ∧ PuS w0 B a c p m P T R t v tl 0 true cs xs n K who o w' := by
  unfold fullB at hf
  have hw : IntKind.u64.wrap R = R := by rw [IntKind.wrap_u64]; omega
  have h3 := h.next hmp hm 3
  have n1 := h.nextCell
  have t3 := h3.tailCell
  have r3 := h3.plan.2.2.1
  have q3 := h3.fullCell
  clear hR
  go_enter Try.func86, Try.ntmps86
  go_wp2
  generalize w.setCell ⟨m, 6, none⟩ (.int .i64 3) = w1 at *
  go_quiet (fail)
  rename_i nq
  have h4 := h3.quiet (⟨nq, rfl⟩ : Quiet w1 (w1.drewN nq))
  have q4 := h4.fullCell
  have h5 := h4.full hmp hm true
  have n5 := h5.nextCell
  have h6 := h5.next hmp hm 0

  go_wp2
  go_end0
  exact ⟨⟨_, rfl⟩, h6⟩

set_option maxRecDepth 100000 in
set_option maxHeartbeats 2000000 in
theorem look_room (hd : Int) (h : PuS w0 B a c p m P T R t v tl nx fu cs xs n K who o w) (hR : 1 ≤ R ∧ R ≤ 16) (hmp : m ≠ p) (hm : m ∈ K) (hf : fullB R tl hd = false) :
    Calls Try.prog 86 #[.pointer (some ⟨m, 0, none⟩), .int .u64 hd] w fun e w' => (∃ u, e = .returned u) ∧ PuS w0 B a c p m P T R t v tl 3 fu cs xs n K who o w' := by
  unfold fullB at hf
  have hw : IntKind.u64.wrap R = R := by rw [IntKind.wrap_u64]; omega
  have h3 := h.next hmp hm 3
  have n1 := h.nextCell
  have t3 := h3.tailCell
  have r3 := h3.plan.2.2.1
  have q3 := h3.fullCell
  clear hR
  go_enter Try.func86, Try.ntmps86
  go_wp2
  generalize w.setCell ⟨m, 6, none⟩ (.int .i64 3) = w1 at *
  go_quiet (fail)
  rename_i nq
  have h4 := h3.quiet (⟨nq, rfl⟩ : Quiet w1 (w1.drewN nq))
  go_wp2
  go_end0
  exact ⟨⟨_, rfl⟩, h4⟩

set_option maxRecDepth 100000 in
set_option maxHeartbeats 2000000 in
theorem push_step1 (h : PuS w0 B a c p m P T R t v tl 1 fu cs xs n K who true w) (hx : exB P T R t = true) (hmp : m ≠ p) (hm : m ∈ K) (hp : p ∈ K) (hn : n < 1000000) (hl : cs.length = cellsN P T R) :
    Calls Try.prog 62 #[.pointer (some ⟨m, 0, none⟩), .pointer (some ⟨p, 0, none⟩)] w fun e w' => e = .returned (.bool false) ∧
      PuS w0 B a c p m P T R t v (cs.getD (ownN R t 4) 0) 2 fu cs (xs ++ accV who 1 (ownN R t 4) 0 0 (cs.getD (ownN R t 4) 0) (cs.getD (ownN R t 4) 0)) (n + 1) K who false w' := by
  have hi := ownN_bd hx 4 (by decide) (by have := (exB_of hx).1.2.2.1; omega)
  have LD := Lib.hid (fun W (h : PuS w0 B a c p m P T R t v tl 1 fu cs xs n K who true W) => h.load hmp hm hp hn (i := ownN R t 4) (by rw [hl]; exact hi.2.1))
  have TT := Lib.hid (fun W => tail_any P T R t W)
  rw [hi.1] at TT
  have Hmp := Lib.hid hmp
  clear hmp hi hl hx hn
  generalize cs.getD (ownN R t 4) 0 = z at *
  generalize ownN R t 4 = i at *
  go_enter Try.func62, Try.ntmps62
  go_wp2_with fail
  refine h.over.mono ?_; rintro e w1 ⟨rfl, h1⟩
  go_wp2_with fail
  refine h1.open'.mono ?_; rintro e w2 ⟨rfl, h2⟩
  have n2 := h2.nextCell
  go_wp2_with fail
  have hS := h2.drew
  clear h h1 h2
  go_region_held3 (fun W => W.cell? ⟨m, 0, none⟩ = some (.int .i64 P) ∧ W.cell? ⟨m, 1, none⟩ = some (.int .i64 T) ∧ W.cell? ⟨m, 2, none⟩ = some (.int .i64 R) ∧ W.cell? ⟨m, 3, none⟩ = some (.int .i64 t))
    (exact PuS.plan (by assumption))
    (first | (go_at_call 69; refine (TT.out _).mono ?_; rintro e w3 ⟨rfl, hb3⟩; have h3 := hS.grew hb3) | (go_at_call 67; refine (LD.out _ (by assumption)).mono ?_; rintro e w4 ⟨rfl, h4⟩; have n4 := h4.tailCell; have h5 := h4.tail Hmp.out hm z))
  have n5 := h5.nextCell
  have h6 := h5.next Hmp.out hm 2
  go_wp2_with fail
  refine h6.over.mono ?_; rintro e w7 ⟨rfl, h7⟩
  go_wp2
  go_ret
  exact ⟨rfl, h7⟩

set_option maxRecDepth 100000 in
set_option maxHeartbeats 2000000 in
theorem push_step2_full (h : PuS w0 B a c p m P T R t v tl 2 fu cs xs n K who true w) (hx : exB P T R t = true) (hmp : m ≠ p) (hm : m ∈ K) (hp : p ∈ K) (hn : n < 1000000) (hl : cs.length = cellsN P T R) (hf : fullB R tl (cs.getD (ownN R t 3) 0) = true) :
    Calls Try.prog 62 #[.pointer (some ⟨m, 0, none⟩), .pointer (some ⟨p, 0, none⟩)] w fun e w' => e = .returned (.bool true) ∧
      PuS w0 B a c p m P T R t v tl 0 true cs (xs ++ accV who 1 (ownN R t 3) 0 0 (cs.getD (ownN R t 3) 0) (cs.getD (ownN R t 3) 0)) (n + 1) K who false w' := by
  have hi := ownN_bd hx 3 (by decide) (by have := (exB_of hx).1.2.2.1; omega)
  have LD := Lib.hid (fun W (h : PuS w0 B a c p m P T R t v tl 2 fu cs xs n K who true W) => h.load hmp hm hp hn (i := ownN R t 3) (by rw [hl]; exact hi.2.1))
  have TT := Lib.hid (fun W => head_any P T R t W)
  rw [hi.1] at TT
  have HR := ring_bd hx
  have Hmp := Lib.hid hmp
  clear hmp hi hl hx hn
  generalize cs.getD (ownN R t 3) 0 = z at *
  generalize ownN R t 3 = i at *
  have LK := Lib.hid (fun W (h : PuS w0 B a c p m P T R t v tl 2 fu cs (xs ++ accV who 1 i 0 0 z z) (n + 1) K who false W) => look_full z h HR Hmp.out hm hf)
  clear HR hf
  go_enter Try.func62, Try.ntmps62
  go_wp2_with fail
  refine h.over.mono ?_; rintro e w1 ⟨rfl, h1⟩
  go_wp2_with fail
  refine h1.open'.mono ?_; rintro e w2 ⟨rfl, h2⟩
  have n2 := h2.nextCell
  go_wp2_with fail
  have hS := h2.drew
  clear h h1 h2
  go_region_held3 (fun W => W.cell? ⟨m, 0, none⟩ = some (.int .i64 P) ∧ W.cell? ⟨m, 1, none⟩ = some (.int .i64 T) ∧ W.cell? ⟨m, 2, none⟩ = some (.int .i64 R) ∧ W.cell? ⟨m, 3, none⟩ = some (.int .i64 t))
    (exact PuS.plan (by assumption))
    (first | (go_at_call 45; refine (TT.out _).mono ?_; rintro e w3 ⟨rfl, hb3⟩; have h3 := hS.grew hb3) | (go_at_call 67; refine (LD.out _ (by assumption)).mono ?_; rintro e w4 ⟨rfl, h4⟩) | (go_at_call 86; refine (LK.out _ (by assumption)).mono ?_; rintro e w5 ⟨⟨u5, rfl⟩, h5⟩))
  go_wp2_with fail
  refine h5.over.mono ?_; rintro e w7 ⟨rfl, h7⟩
  go_wp2
  go_ret
  exact ⟨rfl, h7⟩

set_option maxRecDepth 100000 in
set_option maxHeartbeats 2000000 in
theorem push_step2_room (h : PuS w0 B a c p m P T R t v tl 2 fu cs xs n K who true w) (hx : exB P T R t = true) (hmp : m ≠ p) (hm : m ∈ K) (hp : p ∈ K) (hn : n < 1000000) (hl : cs.length = cellsN P T R) (hf : fullB R tl (cs.getD (ownN R t 3) 0) = false) :
    Calls Try.prog 62 #[.pointer (some ⟨m, 0, none⟩), .pointer (some ⟨p, 0, none⟩)] w fun e w' => e = .returned (.bool false) ∧
      PuS w0 B a c p m P T R t v tl 3 fu cs (xs ++ accV who 1 (ownN R t 3) 0 0 (cs.getD (ownN R t 3) 0) (cs.getD (ownN R t 3) 0)) (n + 1) K who false w' := by
  have hi := ownN_bd hx 3 (by decide) (by have := (exB_of hx).1.2.2.1; omega)
  have LD := Lib.hid (fun W (h : PuS w0 B a c p m P T R t v tl 2 fu cs xs n K who true W) => h.load hmp hm hp hn (i := ownN R t 3) (by rw [hl]; exact hi.2.1))
  have TT := Lib.hid (fun W => head_any P T R t W)
  rw [hi.1] at TT
  have HR := ring_bd hx
  have Hmp := Lib.hid hmp
  clear hmp hi hl hx hn
  generalize cs.getD (ownN R t 3) 0 = z at *
  generalize ownN R t 3 = i at *
  have LK := Lib.hid (fun W (h : PuS w0 B a c p m P T R t v tl 2 fu cs (xs ++ accV who 1 i 0 0 z z) (n + 1) K who false W) => look_room z h HR Hmp.out hm hf)
  clear HR hf
  go_enter Try.func62, Try.ntmps62
  go_wp2_with fail
  refine h.over.mono ?_; rintro e w1 ⟨rfl, h1⟩
  go_wp2_with fail
  refine h1.open'.mono ?_; rintro e w2 ⟨rfl, h2⟩
  have n2 := h2.nextCell
  go_wp2_with fail
  have hS := h2.drew
  clear h h1 h2
  go_region_held3 (fun W => W.cell? ⟨m, 0, none⟩ = some (.int .i64 P) ∧ W.cell? ⟨m, 1, none⟩ = some (.int .i64 T) ∧ W.cell? ⟨m, 2, none⟩ = some (.int .i64 R) ∧ W.cell? ⟨m, 3, none⟩ = some (.int .i64 t))
    (exact PuS.plan (by assumption))
    (first | (go_at_call 45; refine (TT.out _).mono ?_; rintro e w3 ⟨rfl, hb3⟩; have h3 := hS.grew hb3) | (go_at_call 67; refine (LD.out _ (by assumption)).mono ?_; rintro e w4 ⟨rfl, h4⟩) | (go_at_call 86; refine (LK.out _ (by assumption)).mono ?_; rintro e w5 ⟨⟨u5, rfl⟩, h5⟩))
  go_wp2_with fail
  refine h5.over.mono ?_; rintro e w7 ⟨rfl, h7⟩
  go_wp2
  go_ret
  exact ⟨rfl, h7⟩

set_option maxRecDepth 100000 in
set_option maxHeartbeats 2000000 in
theorem push_step3 (h : PuS w0 B a c p m P T R t v tl 3 fu cs xs n K who true w) (hx : exB P T R t = true) (hmp : m ≠ p) (hm : m ∈ K) (hp : p ∈ K) (hn : n < 1000000) (hl : cs.length = cellsN P T R) (hu : U64 tl) :
    Calls Try.prog 62 #[.pointer (some ⟨m, 0, none⟩), .pointer (some ⟨p, 0, none⟩)] w fun e w' => e = .returned (.bool false) ∧
      PuS w0 B a c p m P T R t v tl 4 fu (cs.set (slotN R t tl) v) (xs ++ accV who 2 (slotN R t tl) 0 v (cs.getD (slotN R t tl) 0) v) (n + 1) K who false w' := by
  have hi := slotN_bd hx tl
  have ST := Lib.hid (fun W (h : PuS w0 B a c p m P T R t v tl 3 fu cs xs n K who true W) => h.store v hmp hm hp hn (i := slotN R t tl) (by rw [hl]; exact hi.2.1))
  have TT := Lib.hid (fun W => slot_any P T R t tl W hu)
  rw [hi.1] at TT
  have Hmp := Lib.hid hmp
  clear hmp hi hl hx hn hu
  generalize cs.getD (slotN R t tl) 0 = z at *
  generalize slotN R t tl = i at *
  go_enter Try.func62, Try.ntmps62
  go_wp2_with fail
  refine h.over.mono ?_; rintro e w1 ⟨rfl, h1⟩
  go_wp2_with fail
  refine h1.open'.mono ?_; rintro e w2 ⟨rfl, h2⟩
  have n2 := h2.nextCell
  go_wp2_with fail
  have hS := h2.drew
  clear h h1 h2
  go_region_held3 (fun W => (W.cell? ⟨m, 0, none⟩ = some (.int .i64 P) ∧ W.cell? ⟨m, 1, none⟩ = some (.int .i64 T) ∧ W.cell? ⟨m, 2, none⟩ = some (.int .i64 R) ∧ W.cell? ⟨m, 3, none⟩ = some (.int .i64 t)) ∧ W.cell? ⟨m, 4, none⟩ = some (.int .u64 v) ∧ W.cell? ⟨m, 5, none⟩ = some (.int .u64 tl))
    (exact ⟨PuS.plan (by assumption), PuS.valCell (by assumption), (PuS.tailCell (by assumption)).1⟩)
    (first | (go_at_call 70; refine (TT.out _).mono ?_; rintro e w3 ⟨rfl, hb3⟩; have h3 := hS.grew hb3) | (go_at_call 64; refine (ST.out _ (by assumption)).mono ?_; rintro e w4 ⟨⟨u4, rfl⟩, h5⟩))
  have n5 := h5.nextCell
  have h6 := h5.next Hmp.out hm 4
  go_wp2_with fail
  refine h6.over.mono ?_; rintro e w7 ⟨rfl, h7⟩
  go_wp2
  go_ret
  exact ⟨rfl, h7⟩

set_option maxRecDepth 100000 in
set_option maxHeartbeats 2000000 in
theorem push_step4 (h : PuS w0 B a c p m P T R t v tl 4 fu cs xs n K who true w) (hx : exB P T R t = true) (hmp : m ≠ p) (hm : m ∈ K) (hp : p ∈ K) (hn : n < 1000000) (hl : cs.length = cellsN P T R) :
    Calls Try.prog 62 #[.pointer (some ⟨m, 0, none⟩), .pointer (some ⟨p, 0, none⟩)] w fun e w' => e = .returned (.bool true) ∧
      PuS w0 B a c p m P T R t v tl 0 fu (cs.set (ownN R t 4) (IntKind.u64.wrap (tl + 1))) (xs ++ accV who 2 (ownN R t 4) 0 (IntKind.u64.wrap (tl + 1)) (cs.getD (ownN R t 4) 0) (IntKind.u64.wrap (tl + 1))) (n + 1) K who false w' := by
  have hi := ownN_bd hx 4 (by decide) (by have := (exB_of hx).1.2.2.1; omega)
  have ST := Lib.hid (fun W (h : PuS w0 B a c p m P T R t v tl 4 fu cs xs n K who true W) => h.store (IntKind.u64.wrap (tl + 1)) hmp hm hp hn (i := ownN R t 4) (by rw [hl]; exact hi.2.1))
  have TT := Lib.hid (fun W => tail_any P T R t W)
  rw [hi.1] at TT
  have Hmp := Lib.hid hmp
  clear hmp hi hl hx hn
  generalize cs.getD (ownN R t 4) 0 = z at *
  generalize ownN R t 4 = i at *
  go_enter Try.func62, Try.ntmps62
  go_wp2_with fail
  refine h.over.mono ?_; rintro e w1 ⟨rfl, h1⟩
  go_wp2_with fail
  refine h1.open'.mono ?_; rintro e w2 ⟨rfl, h2⟩
  have n2 := h2.nextCell
  go_wp2_with fail
  have hS := h2.drew
  clear h h1 h2
  go_region_held3 (fun W => (W.cell? ⟨m, 0, none⟩ = some (.int .i64 P) ∧ W.cell? ⟨m, 1, none⟩ = some (.int .i64 T) ∧ W.cell? ⟨m, 2, none⟩ = some (.int .i64 R) ∧ W.cell? ⟨m, 3, none⟩ = some (.int .i64 t)) ∧ W.cell? ⟨m, 5, none⟩ = some (.int .u64 tl))
    (exact ⟨PuS.plan (by assumption), (PuS.tailCell (by assumption)).1⟩)
    (first | (go_at_call 69; refine (TT.out _).mono ?_; rintro e w3 ⟨rfl, hb3⟩; have h3 := hS.grew hb3) | (go_at_call 64; refine (ST.out _ (by assumption)).mono ?_; rintro e w4 ⟨⟨u4, rfl⟩, h5⟩))
  have n5 := h5.nextCell
  have h6 := h5.next Hmp.out hm 0
  go_wp2_with fail
  refine h6.over.mono ?_; rintro e w7 ⟨rfl, h7⟩
  go_wp2
  go_ret
  exact ⟨rfl, h7⟩

set_option maxRecDepth 100000 in
set_option maxHeartbeats 2000000 in
theorem push_over (h : PuS w0 B a c p m P T R t v tl 0 fu cs xs n K who o w) :
    Calls Try.prog 62 #[.pointer (some ⟨m, 0, none⟩), .pointer (some ⟨p, 0, none⟩)] w fun e w' => e = .returned (.bool true) ∧ PuS w0 B a c p m P T R t v tl 0 fu cs xs n K who o w' := by
  go_enter Try.func62, Try.ntmps62
  go_wp2_with fail
  refine h.over.mono ?_; rintro e w1 ⟨rfl, h1⟩
  go_wp2_with fail
  refine h1.over.mono ?_; rintro e w2 ⟨rfl, h2⟩
  go_wp2
  go_ret
  exact ⟨rfl, h2⟩
set_option maxRecDepth 100000 in
set_option maxHeartbeats 2000000 in
theorem push_shut (h : PuS w0 B a c p m P T R t v tl nx fu cs xs n K who false w) (hnx : (nx == 0) = false) :
    Calls Try.prog 62 #[.pointer (some ⟨m, 0, none⟩), .pointer (some ⟨p, 0, none⟩)] w fun e w' => e = .returned (.bool false) ∧ PuS w0 B a c p m P T R t v tl nx fu cs xs n K who false w' := by
  have O := Lib.hid (fun W (h : PuS w0 B a c p m P T R t v tl nx fu cs xs n K who false W) => h.over)
  rw [hnx] at O
  clear hnx
  go_enter Try.func62, Try.ntmps62
  go_wp2_with fail
  refine (O.out _ h).mono ?_; rintro e w1 ⟨rfl, h1⟩
  go_wp2_with fail
  refine h1.open'.mono ?_; rintro e w2 ⟨rfl, h2⟩
  go_wp2_with fail
  refine (O.out _ h2).mono ?_; rintro e w3 ⟨rfl, h3⟩
  go_wp2
  go_ret
  exact ⟨rfl, h3⟩
end
end Go.Proofs.Ytlhigibgjggidaa
/- What a step of ring's Pop does, access by access: words for it. Condition: the arena, its port and the machine are there, the plan is right, the thread is there. -/
namespace Go.Proofs.Ytlhigibgjggidaa
open Go.RowKit
/-- the machine, the arena and the port, ahead of an access -/
structure PoS (w0 : World) (B a c p m : Nat) (P T R t v tl nx : Int) (fu : Bool) (cs : List Int) (xs : List Value) (n : Nat) (K : List Nat) (who : Int) (o : Bool) (w : World) : Prop where
  mach : PopAt w m P T R t v tl nx fu
  arx : Arx w B a c cs xs n K
  port : PortAt w p a who o
  touch : Touch (fun b => b = p ∨ b = m ∨ (B ≤ b ∧ b ∉ K)) w0 w
section
variable {w0 w w' : World} {B a c p m : Nat} {P T R t v tl nx : Int} {fu : Bool} {cs : List Int} {xs : List Value} {n : Nat} {K : List Nat} {who : Int} {o : Bool}
theorem PoS.start (hM : PopAt w m P T R t v tl nx fu) (hA : Arx w B a c cs xs n K) (hP : PortAt w p a who o) : PoS w B a c p m P T R t v tl nx fu cs xs n K who o w := ⟨hM, hA, hP, Touch.refl _ _⟩
theorem PoS.grew (h : PoS w0 B a c p m P T R t v tl nx fu cs xs n K who o w) (hb : Below w.heap.size w w') : PoS w0 B a c p m P T R t v tl nx fu cs xs n K who o w' :=
  ⟨h.mach.grew hb, h.arx.grew hb, h.port.grew hb, h.touch.trans (Touch.of hb)⟩
theorem PoS.quiet (h : PoS w0 B a c p m P T R t v tl nx fu cs xs n K who o w) (hq : Quiet w w') : PoS w0 B a c p m P T R t v tl nx fu cs xs n K who o w' := h.grew hq.below
theorem PoS.drew (h : PoS w0 B a c p m P T R t v tl nx fu cs xs n K who o w) : PoS w0 B a c p m P T R t v tl nx fu cs xs n K who o w.drew := h.quiet ⟨1, rfl⟩
theorem PoS.plan (h : PoS w0 B a c p m P T R t v tl nx fu cs xs n K who o w) : w.cell? ⟨m, 0, none⟩ = some (.int .i64 P) ∧ w.cell? ⟨m, 1, none⟩ = some (.int .i64 T) ∧ w.cell? ⟨m, 2, none⟩ = some (.int .i64 R) ∧ w.cell? ⟨m, 3, none⟩ = some (.int .i64 t) :=
  ⟨h.mach.val 0 rfl, h.mach.val 1 rfl, h.mach.val 2 rfl, h.mach.val 3 rfl⟩
/-- an access leaves the machine as it was -/
theorem PoS.stepped {i : Nat} {k want put : Int} (h : PoS w0 B a c p m P T R t v tl nx fu cs xs n K who true w) (hp : m ≠ p) (hm : m ∈ K) (hs : ArxStep B a c p cs xs n K i who k want put w w') :
    PoS w0 B a c p m P T R t v tl nx fu (cs.set i (leftI k (cs.getD i 0) want put)) (xs ++ accV who k i want put (cs.getD i 0) (leftI k (cs.getD i 0) want put)) (n + 1) K who false w' := by
  obtain ⟨h1, h2, h3⟩ := hs
  exact ⟨h.mach.touch h3 (fun r => r.elim hp (fun r => r.2 hm)), h1, h2, h.touch.trans (h3.mono fun _ _ hr => hr.elim .inl (fun r => .inr (.inr r)))⟩
theorem PoS.tail (h : PoS w0 B a c p m P T R t v tl nx fu cs xs n K who o w) (hp : m ≠ p) (hm : m ∈ K) (x : Int) : PoS w0 B a c p m P T R t v x nx fu cs xs n K who o (w.setCell ⟨m, 5, none⟩ (.int .u64 x)) :=
  have hT : Touch (fun b => b = m) w (w.setCell ⟨m, 5, none⟩ (.int .u64 x)) := (Touch.refl (fun b => b = m) w).setCell (p := ⟨m, 5, none⟩) rfl _
  ⟨h.mach.set 5 _, h.arx.touch hT (fun _ e => e ▸ hm), h.port.touch hT (Ne.symm hp), h.touch.trans (hT.mono fun _ _ e => .inr (.inl e))⟩
theorem PoS.next (h : PoS w0 B a c p m P T R t v tl nx fu cs xs n K who o w) (hp : m ≠ p) (hm : m ∈ K) (x : Int) : PoS w0 B a c p m P T R t v tl x fu cs xs n K who o (w.setCell ⟨m, 6, none⟩ (.int .i64 x)) :=
  have hT : Touch (fun b => b = m) w (w.setCell ⟨m, 6, none⟩ (.int .i64 x)) := (Touch.refl (fun b => b = m) w).setCell (p := ⟨m, 6, none⟩) rfl _
  ⟨h.mach.set 6 _, h.arx.touch hT (fun _ e => e ▸ hm), h.port.touch hT (Ne.symm hp), h.touch.trans (hT.mono fun _ _ e => .inr (.inl e))⟩
theorem PoS.full (h : PoS w0 B a c p m P T R t v tl nx fu cs xs n K who o w) (hp : m ≠ p) (hm : m ∈ K) (x : Bool) : PoS w0 B a c p m P T R t v tl nx x cs xs n K who o (w.setCell ⟨m, 7, none⟩ (.bool x)) :=
  have hT : Touch (fun b => b = m) w (w.setCell ⟨m, 7, none⟩ (.bool x)) := (Touch.refl (fun b => b = m) w).setCell (p := ⟨m, 7, none⟩) rfl _
  ⟨h.mach.set 7 _, h.arx.touch hT (fun _ e => e ▸ hm), h.port.touch hT (Ne.symm hp), h.touch.trans (hT.mono fun _ _ e => .inr (.inl e))⟩
theorem PoS.value (h : PoS w0 B a c p m P T R t v tl nx fu cs xs n K who o w) (hp : m ≠ p) (hm : m ∈ K) (x : Int) : PoS w0 B a c p m P T R t x tl nx fu cs xs n K who o (w.setCell ⟨m, 4, none⟩ (.int .u64 x)) :=
  have hT : Touch (fun b => b = m) w (w.setCell ⟨m, 4, none⟩ (.int .u64 x)) := (Touch.refl (fun b => b = m) w).setCell (p := ⟨m, 4, none⟩) rfl _
  ⟨h.mach.set 4 _, h.arx.touch hT (fun _ e => e ▸ hm), h.port.touch hT (Ne.symm hp), h.touch.trans (hT.mono fun _ _ e => .inr (.inl e))⟩
theorem PoS.valueCell (h : PoS w0 B a c p m P T R t v tl nx fu cs xs n K who o w) : w.cell? ⟨m, 4, none⟩ = some (.int .u64 v) ∧ w.frozen? ⟨m, 4, none⟩ = false := ⟨h.mach.val 4 rfl, h.mach.frozen 4⟩
theorem PoS.over (h : PoS w0 B a c p m P T R t v tl nx fu cs xs n K who o w) :
    Calls Try.prog 66 #[.pointer (some ⟨m, 0, none⟩)] w fun e w' => e = .returned (.bool (nx == 0)) ∧ PoS w0 B a c p m P T R t v tl nx fu cs xs n K who o w' :=
  (over_pop h.mach).mono fun _ _ ⟨he, hq⟩ => ⟨he, h.quiet hq⟩
theorem PoS.open' (h : PoS w0 B a c p m P T R t v tl nx fu cs xs n K who o w) :
    Calls Try.prog 61 #[.pointer (some ⟨p, 0, none⟩)] w fun e w' => e = .returned (.bool o) ∧ PoS w0 B a c p m P T R t v tl nx fu cs xs n K who o w' :=
  (open_at p a who o w h.port).mono fun _ _ ⟨he, hq⟩ => ⟨he, h.quiet hq⟩
theorem PoS.nextCell (h : PoS w0 B a c p m P T R t v tl nx fu cs xs n K who o w) : w.cell? ⟨m, 6, none⟩ = some (.int .i64 nx) ∧ w.frozen? ⟨m, 6, none⟩ = false := ⟨h.mach.val 6 rfl, h.mach.frozen 6⟩
theorem PoS.tailCell (h : PoS w0 B a c p m P T R t v tl nx fu cs xs n K who o w) : w.cell? ⟨m, 5, none⟩ = some (.int .u64 tl) ∧ w.frozen? ⟨m, 5, none⟩ = false := ⟨h.mach.val 5 rfl, h.mach.frozen 5⟩
theorem PoS.fullCell (h : PoS w0 B a c p m P T R t v tl nx fu cs xs n K who o w) : w.cell? ⟨m, 7, none⟩ = some (.bool fu) ∧ w.frozen? ⟨m, 7, none⟩ = false := ⟨h.mach.val 7 rfl, h.mach.frozen 7⟩
theorem PoS.load {i : Nat} (h : PoS w0 B a c p m P T R t v tl nx fu cs xs n K who true w) (hmp : m ≠ p) (hm : m ∈ K) (hp : p ∈ K) (hn : n < 1000000) (hi : i < cs.length) :
    Calls Try.prog 67 #[.pointer (some ⟨p, 0, none⟩), .int .i64 i] w fun e w' => (e = .returned (.int .u64 (cs.getD i 0))) ∧ PoS w0 B a c p m P T R t v tl nx fu cs (xs ++ accV who 1 i 0 0 (cs.getD i 0) (cs.getD i 0)) (n + 1) K who false w' := by
  refine (load_x h.arx h.port hp hn hi).mono fun e w' ⟨he, hs⟩ => ⟨he, ?_⟩
  have := h.stepped hmp hm hs
  rw [show leftI 1 (cs.getD i 0) 0 0 = cs.getD i 0 from rfl, set_same] at this
  exact this
theorem PoS.store {i : Nat} (x : Int) (h : PoS w0 B a c p m P T R t v tl nx fu cs xs n K who true w) (hmp : m ≠ p) (hm : m ∈ K) (hp : p ∈ K) (hn : n < 1000000) (hi : i < cs.length) :
    Calls Try.prog 64 #[.pointer (some ⟨p, 0, none⟩), .int .i64 i, .int .u64 x] w fun e w' => (∃ u, e = .returned u) ∧ PoS w0 B a c p m P T R t v tl nx fu (cs.set i x) (xs ++ accV who 2 i 0 x (cs.getD i 0) x) (n + 1) K who false w' := by
  refine (store_x x h.arx h.port hp hn hi).mono fun e w' ⟨he, hs⟩ => ⟨he, ?_⟩
  have := h.stepped hmp hm hs
  exact this
end
end Go.Proofs.Ytlhigibgjggidaa
/- What a step of ring's Pop does, access by access. Condition: the arena, its port and the machine are there, the plan is right, the thread is there. -/
namespace Go.Proofs.Ytlhigibgjggidaa
open Go.RowKit
section
variable {w0 w w' : World} {B a c p m : Nat} {P T R t v tl nx : Int} {fu : Bool} {cs : List Int} {xs : List Value} {n : Nat} {K : List Nat} {who : Int} {o : Bool}

set_option maxRecDepth 100000 in
set_option maxHeartbeats 2000000 in
theorem pop_look_empty (x : Int) (h : PoS w0 B a c p m P T R t v tl nx fu cs xs n K who o w) (hmp : m ≠ p) (hm : m ∈ K) (hf : (x == tl) = true) :
    Calls Try.prog 68 #[.pointer (some ⟨m, 0, none⟩), .int .u64 x] w fun e w' => (∃ u, e = .returned u) ∧ PoS w0 B a c p m P T R t v tl 0 true cs xs n K who o w' := by
  have h3 := h.next hmp hm 5
  have n1 := h.nextCell
  have t3 := h3.tailCell
  have q3 := h3.fullCell
  have h5 := h3.full hmp hm true
  have h6 := h5.next hmp hm 0
  have n5 := h5.nextCell
  go_enter Try.func68, Try.ntmps68
  go_wp2
  go_end0
  exact ⟨⟨_, rfl⟩, h6⟩

set_option maxRecDepth 100000 in
set_option maxHeartbeats 2000000 in
theorem pop_look_some (x : Int) (h : PoS w0 B a c p m P T R t v tl nx fu cs xs n K who o w) (hmp : m ≠ p) (hm : m ∈ K) (hf : (x == tl) = false) :
    Calls Try.prog 68 #[.pointer (some ⟨m, 0, none⟩), .int .u64 x] w fun e w' => (∃ u, e = .returned u) ∧ PoS w0 B a c p m P T R t v tl 5 fu cs xs n K who o w' := by
  have h3 := h.next hmp hm 5
  have n1 := h.nextCell
  have t3 := h3.tailCell
  have q3 := h3.fullCell
  go_enter Try.func68, Try.ntmps68
  go_wp2
  go_end0
  exact ⟨⟨_, rfl⟩, h3⟩

set_option maxRecDepth 100000 in
set_option maxHeartbeats 2000000 in
theorem pop_step1 (h : PoS w0 B a c p m P T R t v tl 2 fu cs xs n K who true w) (hx : exB P T R t = true) (hmp : m ≠ p) (hm : m ∈ K) (hp : p ∈ K) (hn : n < 1000000) (hl : cs.length = cellsN P T R) :
    Calls Try.prog 30 #[.pointer (some ⟨m, 0, none⟩), .pointer (some ⟨p, 0, none⟩)] w fun e w' => e = .returned (.bool false) ∧
      PoS w0 B a c p m P T R t v (cs.getD (ownN R t 3) 0) 1 fu cs (xs ++ accV who 1 (ownN R t 3) 0 0 (cs.getD (ownN R t 3) 0) (cs.getD (ownN R t 3) 0)) (n + 1) K who false w' := by
  have hi := ownN_bd hx 3 (by decide) (by have := (exB_of hx).1.2.2.1; omega)
  have LD := Lib.hid (fun W (h : PoS w0 B a c p m P T R t v tl 2 fu cs xs n K who true W) => h.load hmp hm hp hn (i := ownN R t 3) (by rw [hl]; exact hi.2.1))
  have TT := Lib.hid (fun W => head_any P T R t W)
  rw [hi.1] at TT
  have Hmp := Lib.hid hmp
  clear hmp hi hl hx hn
  generalize cs.getD (ownN R t 3) 0 = z at *
  generalize ownN R t 3 = i at *
  go_enter Try.func30, Try.ntmps30
  go_wp2_with fail
  refine h.over.mono ?_; rintro e w1 ⟨rfl, h1⟩
  go_wp2_with fail
  refine h1.open'.mono ?_; rintro e w2 ⟨rfl, h2⟩
  have n2 := h2.nextCell
  go_wp2_with fail
  have hS := h2.drew
  clear h h1 h2
  go_region_held3 (fun W => W.cell? ⟨m, 0, none⟩ = some (.int .i64 P) ∧ W.cell? ⟨m, 1, none⟩ = some (.int .i64 T) ∧ W.cell? ⟨m, 2, none⟩ = some (.int .i64 R) ∧ W.cell? ⟨m, 3, none⟩ = some (.int .i64 t))
    (exact PoS.plan (by assumption))
    (first | (go_at_call 45; refine (TT.out _).mono ?_; rintro e w3 ⟨rfl, hb3⟩; have h3 := hS.grew hb3) | (go_at_call 67; refine (LD.out _ (by assumption)).mono ?_; rintro e w4 ⟨rfl, h4⟩; have n4 := h4.tailCell; have h5 := h4.tail Hmp.out hm z))
  have n5 := h5.nextCell
  have h6 := h5.next Hmp.out hm 1
  go_wp2_with fail
  refine h6.over.mono ?_; rintro e w7 ⟨rfl, h7⟩
  go_wp2
  go_ret
  exact ⟨rfl, h7⟩

set_option maxRecDepth 100000 in
set_option maxHeartbeats 2000000 in
theorem pop_step2_empty (h : PoS w0 B a c p m P T R t v tl 1 fu cs xs n K who true w) (hx : exB P T R t = true) (hmp : m ≠ p) (hm : m ∈ K) (hp : p ∈ K) (hn : n < 1000000) (hl : cs.length = cellsN P T R) (hf : (cs.getD (ownN R t 4) 0 == tl) = true) :
    Calls Try.prog 30 #[.pointer (some ⟨m, 0, none⟩), .pointer (some ⟨p, 0, none⟩)] w fun e w' => e = .returned (.bool true) ∧
      PoS w0 B a c p m P T R t v tl 0 true cs (xs ++ accV who 1 (ownN R t 4) 0 0 (cs.getD (ownN R t 4) 0) (cs.getD (ownN R t 4) 0)) (n + 1) K who false w' := by
  have hi := ownN_bd hx 4 (by decide) (by have := (exB_of hx).1.2.2.1; omega)
  have LD := Lib.hid (fun W (h : PoS w0 B a c p m P T R t v tl 1 fu cs xs n K who true W) => h.load hmp hm hp hn (i := ownN R t 4) (by rw [hl]; exact hi.2.1))
  have TT := Lib.hid (fun W => tail_any P T R t W)
  rw [hi.1] at TT
  have Hmp := Lib.hid hmp
  clear hmp hi hl hx hn
  generalize cs.getD (ownN R t 4) 0 = z at *
  generalize ownN R t 4 = i at *
  have LK := Lib.hid (fun W (h : PoS w0 B a c p m P T R t v tl 1 fu cs (xs ++ accV who 1 i 0 0 z z) (n + 1) K who false W) => pop_look_empty z h Hmp.out hm hf)
  clear hf
  go_enter Try.func30, Try.ntmps30
  go_wp2_with fail
  refine h.over.mono ?_; rintro e w1 ⟨rfl, h1⟩
  go_wp2_with fail
  refine h1.open'.mono ?_; rintro e w2 ⟨rfl, h2⟩
  have n2 := h2.nextCell
  go_wp2_with fail
  have hS := h2.drew
  clear h h1 h2
  go_region_held3 (fun W => W.cell? ⟨m, 0, none⟩ = some (.int .i64 P) ∧ W.cell? ⟨m, 1, none⟩ = some (.int .i64 T) ∧ W.cell? ⟨m, 2, none⟩ = some (.int .i64 R) ∧ W.cell? ⟨m, 3, none⟩ = some (.int .i64 t))
    (exact PoS.plan (by assumption))
    (first | (go_at_call 69; refine (TT.out _).mono ?_; rintro e w3 ⟨rfl, hb3⟩; have h3 := hS.grew hb3) | (go_at_call 67; refine (LD.out _ (by assumption)).mono ?_; rintro e w4 ⟨rfl, h4⟩) | (go_at_call 68; refine (LK.out _ (by assumption)).mono ?_; rintro e w5 ⟨⟨u5, rfl⟩, h5⟩))
  go_wp2_with fail
  refine h5.over.mono ?_; rintro e w7 ⟨rfl, h7⟩
  go_wp2
  go_ret
  exact ⟨rfl, h7⟩

set_option maxRecDepth 100000 in
set_option maxHeartbeats 2000000 in
theorem pop_step2_some (h : PoS w0 B a c p m P T R t v tl 1 fu cs xs n K who true w) (hx : exB P T R t = true) (hmp : m ≠ p) (hm : m ∈ K) (hp : p ∈ K) (hn : n < 1000000) (hl : cs.length = cellsN P T R) (hf : (cs.getD (ownN R t 4) 0 == tl) = false) :
    Calls Try.prog 30 #[.pointer (some ⟨m, 0, none⟩), .pointer (some ⟨p, 0, none⟩)] w fun e w' => e = .returned (.bool false) ∧
      PoS w0 B a c p m P T R t v tl 5 fu cs (xs ++ accV who 1 (ownN R t 4) 0 0 (cs.getD (ownN R t 4) 0) (cs.getD (ownN R t 4) 0)) (n + 1) K who false w' := by
  have hi := ownN_bd hx 4 (by decide) (by have := (exB_of hx).1.2.2.1; omega)
  have LD := Lib.hid (fun W (h : PoS w0 B a c p m P T R t v tl 1 fu cs xs n K who true W) => h.load hmp hm hp hn (i := ownN R t 4) (by rw [hl]; exact hi.2.1))
  have TT := Lib.hid (fun W => tail_any P T R t W)
  rw [hi.1] at TT
  have Hmp := Lib.hid hmp
  clear hmp hi hl hx hn
  generalize cs.getD (ownN R t 4) 0 = z at *
  generalize ownN R t 4 = i at *
  have LK := Lib.hid (fun W (h : PoS w0 B a c p m P T R t v tl 1 fu cs (xs ++ accV who 1 i 0 0 z z) (n + 1) K who false W) => pop_look_some z h Hmp.out hm hf)
  clear hf
  go_enter Try.func30, Try.ntmps30
  go_wp2_with fail
  refine h.over.mono ?_; rintro e w1 ⟨rfl, h1⟩
  go_wp2_with fail
  refine h1.open'.mono ?_; rintro e w2 ⟨rfl, h2⟩
  have n2 := h2.nextCell
  go_wp2_with fail
  have hS := h2.drew
  clear h h1 h2
  go_region_held3 (fun W => W.cell? ⟨m, 0, none⟩ = some (.int .i64 P) ∧ W.cell? ⟨m, 1, none⟩ = some (.int .i64 T) ∧ W.cell? ⟨m, 2, none⟩ = some (.int .i64 R) ∧ W.cell? ⟨m, 3, none⟩ = some (.int .i64 t))
    (exact PoS.plan (by assumption))
    (first | (go_at_call 69; refine (TT.out _).mono ?_; rintro e w3 ⟨rfl, hb3⟩; have h3 := hS.grew hb3) | (go_at_call 67; refine (LD.out _ (by assumption)).mono ?_; rintro e w4 ⟨rfl, h4⟩) | (go_at_call 68; refine (LK.out _ (by assumption)).mono ?_; rintro e w5 ⟨⟨u5, rfl⟩, h5⟩))
  go_wp2_with fail
  refine h5.over.mono ?_; rintro e w7 ⟨rfl, h7⟩
  go_wp2
  go_ret
  exact ⟨rfl, h7⟩

set_option maxRecDepth 100000 in
set_option maxHeartbeats 2000000 in
theorem pop_step3 (h : PoS w0 B a c p m P T R t v tl 5 fu cs xs n K who true w) (hx : exB P T R t = true) (hmp : m ≠ p) (hm : m ∈ K) (hp : p ∈ K) (hn : n < 1000000) (hl : cs.length = cellsN P T R) (hu : U64 tl) :
    Calls Try.prog 30 #[.pointer (some ⟨m, 0, none⟩), .pointer (some ⟨p, 0, none⟩)] w fun e w' => e = .returned (.bool false) ∧
      PoS w0 B a c p m P T R t (cs.getD (slotN R t tl) 0) tl 6 fu cs (xs ++ accV who 1 (slotN R t tl) 0 0 (cs.getD (slotN R t tl) 0) (cs.getD (slotN R t tl) 0)) (n + 1) K who false w' := by
  have hi := slotN_bd hx tl
  have LD := Lib.hid (fun W (h : PoS w0 B a c p m P T R t v tl 5 fu cs xs n K who true W) => h.load hmp hm hp hn (i := slotN R t tl) (by rw [hl]; exact hi.2.1))
  have TT := Lib.hid (fun W => slot_any P T R t tl W hu)
  rw [hi.1] at TT
  have Hmp := Lib.hid hmp
  clear hmp hi hl hx hn hu
  generalize cs.getD (slotN R t tl) 0 = z at *
  generalize slotN R t tl = i at *
  go_enter Try.func30, Try.ntmps30
  go_wp2_with fail
  refine h.over.mono ?_; rintro e w1 ⟨rfl, h1⟩
  go_wp2_with fail
  refine h1.open'.mono ?_; rintro e w2 ⟨rfl, h2⟩
  have n2 := h2.nextCell
  go_wp2_with fail
  have hS := h2.drew
  clear h h1 h2
  go_region_held3 (fun W => (W.cell? ⟨m, 0, none⟩ = some (.int .i64 P) ∧ W.cell? ⟨m, 1, none⟩ = some (.int .i64 T) ∧ W.cell? ⟨m, 2, none⟩ = some (.int .i64 R) ∧ W.cell? ⟨m, 3, none⟩ = some (.int .i64 t)) ∧ W.cell? ⟨m, 5, none⟩ = some (.int .u64 tl))
    (exact ⟨PoS.plan (by assumption), (PoS.tailCell (by assumption)).1⟩)
    (first | (go_at_call 70; refine (TT.out _).mono ?_; rintro e w3 ⟨rfl, hb3⟩; have h3 := hS.grew hb3) | (go_at_call 67; refine (LD.out _ (by assumption)).mono ?_; rintro e w4 ⟨rfl, h4⟩; have n4 := h4.valueCell; have h5 := h4.value Hmp.out hm z))
  have n5 := h5.nextCell
  have h6 := h5.next Hmp.out hm 6
  go_wp2_with fail
  refine h6.over.mono ?_; rintro e w7 ⟨rfl, h7⟩
  go_wp2
  go_ret
  exact ⟨rfl, h7⟩

set_option maxRecDepth 100000 in
set_option maxHeartbeats 2000000 in
theorem pop_step4 (h : PoS w0 B a c p m P T R t v tl 6 fu cs xs n K who true w) (hx : exB P T R t = true) (hmp : m ≠ p) (hm : m ∈ K) (hp : p ∈ K) (hn : n < 1000000) (hl : cs.length = cellsN P T R) :
    Calls Try.prog 30 #[.pointer (some ⟨m, 0, none⟩), .pointer (some ⟨p, 0, none⟩)] w fun e w' => e = .returned (.bool true) ∧
      PoS w0 B a c p m P T R t v tl 0 fu (cs.set (ownN R t 3) (IntKind.u64.wrap (tl + 1))) (xs ++ accV who 2 (ownN R t 3) 0 (IntKind.u64.wrap (tl + 1)) (cs.getD (ownN R t 3) 0) (IntKind.u64.wrap (tl + 1))) (n + 1) K who false w' := by
  have hi := ownN_bd hx 3 (by decide) (by have := (exB_of hx).1.2.2.1; omega)
  have ST := Lib.hid (fun W (h : PoS w0 B a c p m P T R t v tl 6 fu cs xs n K who true W) => h.store (IntKind.u64.wrap (tl + 1)) hmp hm hp hn (i := ownN R t 3) (by rw [hl]; exact hi.2.1))
  have TT := Lib.hid (fun W => head_any P T R t W)
  rw [hi.1] at TT
  have Hmp := Lib.hid hmp
  clear hmp hi hl hx hn
  generalize cs.getD (ownN R t 3) 0 = z at *
  generalize ownN R t 3 = i at *
  go_enter Try.func30, Try.ntmps30
  go_wp2_with fail
  refine h.over.mono ?_; rintro e w1 ⟨rfl, h1⟩
  go_wp2_with fail
  refine h1.open'.mono ?_; rintro e w2 ⟨rfl, h2⟩
  have n2 := h2.nextCell
  go_wp2_with fail
  have hS := h2.drew
  clear h h1 h2
  go_region_held3 (fun W => (W.cell? ⟨m, 0, none⟩ = some (.int .i64 P) ∧ W.cell? ⟨m, 1, none⟩ = some (.int .i64 T) ∧ W.cell? ⟨m, 2, none⟩ = some (.int .i64 R) ∧ W.cell? ⟨m, 3, none⟩ = some (.int .i64 t)) ∧ W.cell? ⟨m, 5, none⟩ = some (.int .u64 tl))
    (exact ⟨PoS.plan (by assumption), (PoS.tailCell (by assumption)).1⟩)
    (first | (go_at_call 45; refine (TT.out _).mono ?_; rintro e w3 ⟨rfl, hb3⟩; have h3 := hS.grew hb3) | (go_at_call 64; refine (ST.out _ (by assumption)).mono ?_; rintro e w4 ⟨⟨u4, rfl⟩, h5⟩))
  have n5 := h5.nextCell
  have h6 := h5.next Hmp.out hm 0
  go_wp2_with fail
  refine h6.over.mono ?_; rintro e w7 ⟨rfl, h7⟩
  go_wp2
  go_ret
  exact ⟨rfl, h7⟩

set_option maxRecDepth 100000 in
set_option maxHeartbeats 2000000 in
theorem pop_over (h : PoS w0 B a c p m P T R t v tl 0 fu cs xs n K who o w) :
    Calls Try.prog 30 #[.pointer (some ⟨m, 0, none⟩), .pointer (some ⟨p, 0, none⟩)] w fun e w' => e = .returned (.bool true) ∧ PoS w0 B a c p m P T R t v tl 0 fu cs xs n K who o w' := by
  go_enter Try.func30, Try.ntmps30
  go_wp2_with fail
  refine h.over.mono ?_; rintro e w1 ⟨rfl, h1⟩
  go_wp2_with fail
  refine h1.over.mono ?_; rintro e w2 ⟨rfl, h2⟩
  go_wp2
  go_ret
  exact ⟨rfl, h2⟩
set_option maxRecDepth 100000 in
set_option maxHeartbeats 2000000 in
theorem pop_shut (h : PoS w0 B a c p m P T R t v tl nx fu cs xs n K who false w) (hnx : (nx == 0) = false) :
    Calls Try.prog 30 #[.pointer (some ⟨m, 0, none⟩), .pointer (some ⟨p, 0, none⟩)] w fun e w' => e = .returned (.bool false) ∧ PoS w0 B a c p m P T R t v tl nx fu cs xs n K who false w' := by
  have O := Lib.hid (fun W (h : PoS w0 B a c p m P T R t v tl nx fu cs xs n K who false W) => h.over)
  rw [hnx] at O
  clear hnx
  go_enter Try.func30, Try.ntmps30
  go_wp2_with fail
  refine (O.out _ h).mono ?_; rintro e w1 ⟨rfl, h1⟩
  go_wp2_with fail
  refine h1.open'.mono ?_; rintro e w2 ⟨rfl, h2⟩
  go_wp2_with fail
  refine (O.out _ h2).mono ?_; rintro e w3 ⟨rfl, h3⟩
  go_wp2
  go_ret
  exact ⟨rfl, h3⟩
end
end Go.Proofs.Ytlhigibgjggidaa
/- What the functions of package layout return that tell where a word of the heap stands, and of which page a cell is. No condition but that the numbers fit their kinds. -/
namespace Go.Proofs.Ytlhigibgjggidaa
open Go.RowKit

def addrI (P T R pg at' : Int) : Int := if rightB P T R && (inB pg 0 (P - 1) && inB at' 0 63) then baseI P T R + 64 * pg + at' else -1
/-- is it a cell of the heap? -/
def heapB (P T R at' : Int) : Bool := rightB P T R && inB at' (baseI P T R) (baseI P T R + 64 * P - 1)
set_option maxHeartbeats 400000 in
theorem heap_any (P T R at' : Int) (w : World) :
    Calls Try.prog 90 #[.agg #[.int .i64 P, .int .i64 T, .int .i64 R], .int .i64 at'] w fun e w' => e = .returned (.bool (heapB P T R at')) ∧ Below w.heap.size w w' := by
  have V := Lib.hid (fun W => valid_any P T R W)
  unfold heapB
  cases hr : rightB P T R with
  | false =>
    rw [hr] at V
    go_enter Try.func90, Try.ntmps90
    have c0 := (planNew w P T R 53)
    go_wp2_with fail
    refine wp_region_held_drew (S := (fun w' => (w'.cell? ⟨w.heap.size, 0, none⟩ = some (.int .i64 P) ∧ w'.cell? ⟨w.heap.size, 1, none⟩ = some (.int .i64 T) ∧ w'.cell? ⟨w.heap.size, 2, none⟩ = some (.int .i64 R)) ∧ Below w.heap.size w w')) (by kernel_rfl) ⟨c0.1, c0.2.drew⟩ (fun hHeld => ?_)
    refine wpAnyH_take (i := 0) (oi := _) (v := ?_) (op_at rfl) (by kernel_rfl) (by kernel_rfl) (by kernel_rfl) (fun _ _ _ h => h) (Or.inl ⟨by rfl, ?_⟩) hHeld ?_
    rotate_left 1
    focus (intro W hSw; (try dsimp only at hSw); go_simp; (try (with_reducible rfl)))
    (try simp only [Act.put, List.setIfInBounds_toArray, List.set_cons_zero, List.set_cons_succ])
    refine wpAnyH_ready (rs := [1]) (by kernel_rfl) (by simp) ?_
    refine AllReadyH.cons (o := _) (op_at rfl) (fun K hK => ?_) AllReadyH.nil
    go_simp
    go_at_call 72
    refine (V.out _).mono ?_
    rintro e w9 ⟨rfl, hbk⟩
    go_wp2_with fail
    refine hK.out _ _ ?_ (fun hHeld => ?_)
    focus exact planKeep hHeld hbk
    clear hK K
    (try simp only [Act.put, List.setIfInBounds_toArray, List.set_cons_zero, List.set_cons_succ])
    refine wpAnyH_take (i := 2) (oi := _) (v := ?_) (op_at rfl) (by kernel_rfl) (by kernel_rfl) (by kernel_rfl) (fun _ _ _ h => h) (Or.inl ⟨by rfl, ?_⟩) hHeld ?_
    rotate_left 1
    focus (intro W hSw; (try dsimp only at hSw); go_simp; (try (with_reducible rfl)))
    (try simp only [Act.put, List.setIfInBounds_toArray, List.set_cons_zero, List.set_cons_succ])
    refine wpAnyH_take (i := 3) (oi := _) (v := undef) (op_at rfl) (by kernel_rfl) (by kernel_rfl) (by kernel_rfl) (fun _ _ _ h => h) (Or.inr ⟨by rfl, rfl⟩) hHeld ?_
    (try simp only [Act.put, List.setIfInBounds_toArray, List.set_cons_zero, List.set_cons_succ])
    refine wpAnyH_take (i := 4) (oi := _) (v := undef) (op_at rfl) (by kernel_rfl) (by kernel_rfl) (by kernel_rfl) (fun _ _ _ h => h) (Or.inr ⟨by rfl, rfl⟩) hHeld ?_
    (try simp only [Act.put, List.setIfInBounds_toArray, List.set_cons_zero, List.set_cons_succ])
    refine wpAnyH_take (i := 5) (oi := _) (v := undef) (op_at rfl) (by kernel_rfl) (by kernel_rfl) (by kernel_rfl) (fun _ _ _ h => h) (Or.inr ⟨by rfl, rfl⟩) hHeld ?_
    (try simp only [Act.put, List.setIfInBounds_toArray, List.set_cons_zero, List.set_cons_succ])
    refine wpAnyH_take (i := 6) (oi := _) (v := undef) (op_at rfl) (by kernel_rfl) (by kernel_rfl) (by kernel_rfl) (fun _ _ _ h => h) (Or.inr ⟨by rfl, rfl⟩) hHeld ?_
    (try simp only [Act.put, List.setIfInBounds_toArray, List.set_cons_zero, List.set_cons_succ])
    refine wpAnyH_take (i := 7) (oi := _) (v := undef) (op_at rfl) (by kernel_rfl) (by kernel_rfl) (by kernel_rfl) (fun _ _ _ h => h) (Or.inr ⟨by rfl, rfl⟩) hHeld ?_
    (try simp only [Act.put, List.setIfInBounds_toArray, List.set_cons_zero, List.set_cons_succ])
    refine wpAnyH_take (i := 8) (oi := _) (v := undef) (op_at rfl) (by kernel_rfl) (by kernel_rfl) (by kernel_rfl) (fun _ _ _ h => h) (Or.inr ⟨by rfl, rfl⟩) hHeld ?_
    (try simp only [Act.put, List.setIfInBounds_toArray, List.set_cons_zero, List.set_cons_succ])
    refine wpAnyH_take (i := 9) (oi := _) (v := undef) (op_at rfl) (by kernel_rfl) (by kernel_rfl) (by kernel_rfl) (fun _ _ _ h => h) (Or.inr ⟨by rfl, rfl⟩) hHeld ?_
    (try simp only [Act.put, List.setIfInBounds_toArray, List.set_cons_zero, List.set_cons_succ])
    refine wpAnyH_take (i := 10) (oi := _) (v := ?_) (op_at rfl) (by kernel_rfl) (by kernel_rfl) (by kernel_rfl) (fun _ _ _ h => h) (Or.inl ⟨by rfl, ?_⟩) hHeld ?_
    rotate_left 1
    focus (intro W hSw; (try dsimp only at hSw); go_simp; (try (with_reducible rfl)))
    (try simp only [Act.put, List.setIfInBounds_toArray, List.set_cons_zero, List.set_cons_succ])
    refine wpAnyH_take (i := 11) (oi := _) (v := ?_) (op_at rfl) (by kernel_rfl) (by kernel_rfl) (by kernel_rfl) (fun _ _ _ h => h) (Or.inl ⟨by rfl, ?_⟩) hHeld ?_
    rotate_left 1
    focus (intro W hSw; (try dsimp only at hSw); go_simp; (try (with_reducible rfl)))
    (try simp only [Act.put, List.setIfInBounds_toArray, List.set_cons_zero, List.set_cons_succ])
    refine wpAnyH_done (by kernel_rfl) ?_ _
    have c9 := planHeld hHeld
    go_wp2
    go_ret
    exact ⟨rfl, c9.2⟩
  | true =>
    rw [hr] at V
    have hR := right_of hr
    have C := Lib.hid (fun W => base_yes P T R W hR)
    have D := Lib.hid (fun W => cells_yes P T R W hR)
    have hb := base_bd hR
    have W1 := Lib.hid (fun W => within_any at' (baseI P T R) (baseI P T R + 64 * P - 1) W)
    generalize inB at' (baseI P T R) (baseI P T R + 64 * P - 1) = b at *
    generalize baseI P T R = z at *
    obtain ⟨hb1, hb2, _⟩ := hb
    obtain ⟨⟨h1, h2⟩, _⟩ := hR
    have k4 : IntKind.i64.wrap (z + 64 * P - 1) = z + 64 * P - 1 := wi (by omega)
    clear hr
    go_enter Try.func90, Try.ntmps90
    have c0 := (planNew w P T R 53)
    go_wp2_with fail
    go_region_held3 (fun w' => (w'.cell? ⟨w.heap.size, 0, none⟩ = some (.int .i64 P) ∧ w'.cell? ⟨w.heap.size, 1, none⟩ = some (.int .i64 T) ∧ w'.cell? ⟨w.heap.size, 2, none⟩ = some (.int .i64 R)) ∧ Below w.heap.size w w')
      (first | exact c0 | exact ⟨c0.1, c0.2.drew⟩ | exact planKeep (by assumption) hbk)
      (first | (go_at_call 72; refine (V.out _).mono ?_; rintro e w9 ⟨rfl, hbk⟩) | (go_at_call 39; refine (C.out _).mono ?_; rintro e w9 ⟨rfl, hbk⟩) | (go_at_call 36; refine (D.out _).mono ?_; rintro e w9 ⟨rfl, hbk⟩) | (go_at_call 88; refine (W1.out _).mono ?_; rintro e w9 ⟨rfl, hbk⟩))
    have c1 := planHeld (by assumption)
    go_wp2
    go_ret
    exact ⟨rfl, c1.2⟩
def placeI (P T R at' : Int) : Int × Int := if heapB P T R at' then ((at' - baseI P T R) / 64, (at' - baseI P T R) % 64) else (-1, -1)
set_option maxHeartbeats 400000 in
theorem place_any (P T R at' : Int) (w : World) :
    Calls Try.prog 76 #[.agg #[.int .i64 P, .int .i64 T, .int .i64 R], .int .i64 at'] w fun e w' => e = .returned (.tuple #[.int .i64 (placeI P T R at').1, .int .i64 (placeI P T R at').2]) ∧ Below w.heap.size w w' := by
  have V := Lib.hid (fun W => heap_any P T R at' W)
  unfold placeI
  cases hh : heapB P T R at' with
  | false =>
    rw [hh] at V
    go_enter Try.func76, Try.ntmps76
    have c0 := (planNew w P T R 53)
    go_wp2_with fail
    refine (V.out _).mono ?_; rintro e w1 ⟨rfl, hb1⟩
    have c1 := planKeep c0 hb1
    obtain ⟨d10, d11, d12⟩ := c1.1
    go_wp2
    go_ret2
    exact ⟨rfl, c1.2⟩
  | true =>
    rw [hh] at V
    have hh' := hh
    unfold heapB at hh'
    rw [Bool.and_eq_true] at hh'
    obtain ⟨hr, hi⟩ := hh'
    have hR := right_of hr
    have C := Lib.hid (fun W => base_yes P T R W hR)
    have hb := base_bd hR
    clear hh hr
    generalize baseI P T R = z at *
    simp [inB] at hi
    obtain ⟨hb1, hb2, _⟩ := hb
    obtain ⟨⟨h1, h2⟩, _⟩ := hR
    have hd0 : 0 ≤ at' - z := by omega
    have hd1 : at' - z < 2048 := by omega
    go_enter Try.func76, Try.ntmps76
    have c0 := (planNew w P T R 53)
    go_wp2_with fail
    refine (V.out _).mono ?_; rintro e w1 ⟨rfl, hb1⟩
    have c1 := planKeep c0 hb1
    obtain ⟨d10, d11, d12⟩ := c1.1
    go_wp2_with fail
    refine (C.out _).mono ?_; rintro e w2 ⟨rfl, hb2⟩
    have c2 := planKeep c1 hb2
    obtain ⟨d20, d21, d22⟩ := c2.1
    go_wp2
    go_ret2
    exact ⟨rfl, c2.2⟩
def refB (P T R x : Int) : Bool := decide (x < 4096) && heapB P T R x
set_option maxHeartbeats 400000 in
theorem ref_any (P T R x : Int) (w : World) (hx : U64 x) :
    Calls Try.prog 75 #[.agg #[.int .i64 P, .int .i64 T, .int .i64 R], .int .u64 x] w fun e w' => e = .returned (.bool (refB P T R x)) ∧ Below w.heap.size w w' := by
  obtain ⟨hx0, hx1⟩ := hx
  have V := Lib.hid (fun W => heap_any P T R x W)
  unfold refB
  generalize heapB P T R x = b at *
  by_cases hl : x < 4096
  · rw [decide_eq_true hl]
    go_enter Try.func75, Try.ntmps75
    have c0 := (planNew w P T R 53)
    go_wp2_with fail
    refine (V.out _).mono ?_; rintro e w1 ⟨rfl, hb1⟩
    have c1 := planKeep c0 hb1
    obtain ⟨d10, d11, d12⟩ := c1.1
    go_wp2
    go_ret
    exact ⟨rfl, c1.2⟩
  · rw [decide_eq_false hl]
    go_enter Try.func75, Try.ntmps75
    have c0 := (planNew w P T R 53)
    go_wp2
    go_ret
    exact ⟨rfl, c0.2⟩
end Go.Proofs.Ytlhigibgjggidaa
