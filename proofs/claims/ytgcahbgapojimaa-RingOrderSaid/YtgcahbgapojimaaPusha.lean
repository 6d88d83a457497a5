/- What a step of ring's Push does, access by access: numbers and words for it. Condition: the arena, its port and the machine are there, the plan is right, the thread is there. -/
import Derived.Test.YtgcahbgapojimaaArx
import Derived.Test.YtgcahbgapojimaaRinga
import Derived.Deep.RegionHeld3
namespace Go.Proofs.Ytgcahbgapojimaa
open Go.RowKit
/-- the cells of a right plan -/
def cellsN (P T R : Int) : Nat := (baseI P T R + 64 * P).toNat
/-- a thread's cell number k of its own -/
def ownN (R t k : Int) : Nat := (16 + t * (5 + R) + k).toNat
theorem exB_of {P T R t : Int} (h : exB P T R t = true) : Right P T R ∧ inB t 0 (T - 1) = true := by
  unfold exB at h
  rw [Bool.and_eq_true] at h
  exact ⟨right_of h.1, h.2⟩
theorem ownN_bd {P T R t : Int} (h : exB P T R t = true) (k : Int) (h0 : 0 ≤ k) (h1 : k < 5 + R) : ownI P T R t k = (ownN R t k : Int) ∧ ownN R t k < cellsN P T R ∧ 16 ≤ ownN R t k := by
  obtain ⟨hR, ht⟩ := exB_of h
  have hb := base_bd hR
  have ht2 := tab_bd hR
  obtain ⟨h2, h3, h4, h5⟩ := own_bd hR ht
  have hR2 := hR
  obtain ⟨⟨p1, p2⟩, ⟨t1, t2⟩, r1, r2⟩ := hR2
  have htT : t * (5 + R) + (5 + R) ≤ T * (5 + R) := by
    have : (t + 1) * (5 + R) ≤ T * (5 + R) := Int.mul_le_mul_of_nonneg_right (by unfold inB at ht; have := of_decide_eq_true ht; omega) (by omega)
    rw [Int.add_mul, Int.one_mul] at this
    exact this
  have hU : ownI P T R t k = 16 + t * (5 + R) + k := by
    unfold ownI
    rw [if_pos (by rw [of_right hR, ht]; rfl)]
  have htab : tabI T R = 16 + T * (5 + R) := rfl
  unfold ownN cellsN
  rw [hU]
  generalize t * (5 + R) = q at *
  generalize T * (5 + R) = r at *
  refine ⟨by omega, by omega, by omega⟩
/-- the slot's cell for a count -/
def slotN (R t n : Int) : Nat := ownN R t (5 + n % R)
theorem slotN_bd {P T R t : Int} (h : exB P T R t = true) (n : Int) : slotI P T R t n = (slotN R t n : Int) ∧ slotN R t n < cellsN P T R ∧ 16 ≤ slotN R t n := by
  have hR := (exB_of h).1
  obtain ⟨_, _, r1, r2⟩ := hR
  have h1 := Int.emod_nonneg n (show R ≠ 0 by omega)
  have h2 := Int.emod_lt_of_pos n (show 0 < R by omega)
  exact ownN_bd h (5 + n % R) (by omega) (by omega)
theorem set_same (cs : List Int) (i : Nat) : cs.set i (cs.getD i 0) = cs := by
  apply List.ext_getElem
  · simp
  · intro k h1 h2
    simp only [List.getElem_set]
    by_cases e : i = k
    · subst e; simp [List.getD_eq_getElem?_getD, h2]
    · simp [e]
/-- the machine, the arena and the port, ahead of an access -/
structure PuS (w0 : World) (B a c p m : Nat) (P T R t v tl nx : Int) (fu : Bool) (cs : List Int) (xs : List Value) (n : Nat) (K : List Nat) (who : Int) (o : Bool) (w : World) : Prop where
  mach : PushAt w m P T R t v tl nx fu
  arx : Arx w B a c cs xs n K
  port : PortAt w p a who o
  touch : Touch (fun b => b = p ∨ b = m ∨ (B ≤ b ∧ b ∉ K)) w0 w
section
variable {w0 w w' : World} {B a c p m : Nat} {P T R t v tl nx : Int} {fu : Bool} {cs : List Int} {xs : List Value} {n : Nat} {K : List Nat} {who : Int} {o : Bool}
theorem PuS.start (hM : PushAt w m P T R t v tl nx fu) (hA : Arx w B a c cs xs n K) (hP : PortAt w p a who o) : PuS w B a c p m P T R t v tl nx fu cs xs n K who o w := ⟨hM, hA, hP, Touch.refl _ _⟩
theorem PuS.grew (h : PuS w0 B a c p m P T R t v tl nx fu cs xs n K who o w) (hb : Below w.heap.size w w') : PuS w0 B a c p m P T R t v tl nx fu cs xs n K who o w' :=
  ⟨h.mach.grew hb, h.arx.grew hb, h.port.grew hb, h.touch.trans (Touch.of hb)⟩
theorem PuS.quiet (h : PuS w0 B a c p m P T R t v tl nx fu cs xs n K who o w) (hq : Quiet w w') : PuS w0 B a c p m P T R t v tl nx fu cs xs n K who o w' := h.grew hq.below
theorem PuS.drew (h : PuS w0 B a c p m P T R t v tl nx fu cs xs n K who o w) : PuS w0 B a c p m P T R t v tl nx fu cs xs n K who o w.drew := h.quiet ⟨1, rfl⟩
theorem PuS.plan (h : PuS w0 B a c p m P T R t v tl nx fu cs xs n K who o w) : w.cell? ⟨m, 0, none⟩ = some (.int .i64 P) ∧ w.cell? ⟨m, 1, none⟩ = some (.int .i64 T) ∧ w.cell? ⟨m, 2, none⟩ = some (.int .i64 R) ∧ w.cell? ⟨m, 3, none⟩ = some (.int .i64 t) :=
  ⟨h.mach.val 0 rfl, h.mach.val 1 rfl, h.mach.val 2 rfl, h.mach.val 3 rfl⟩
/-- an access leaves the machine as it was -/
theorem PuS.stepped {i : Nat} {k want put : Int} (h : PuS w0 B a c p m P T R t v tl nx fu cs xs n K who true w) (hp : m ≠ p) (hm : m ∈ K) (hs : ArxStep B a c p cs xs n K i who k want put w w') :
    PuS w0 B a c p m P T R t v tl nx fu (cs.set i (leftI k (cs.getD i 0) want put)) (xs ++ accV who k i want put (cs.getD i 0) (leftI k (cs.getD i 0) want put)) (n + 1) K who false w' := by
  obtain ⟨h1, h2, h3⟩ := hs
  exact ⟨h.mach.touch h3 (fun r => r.elim hp (fun r => r.2 hm)), h1, h2, h.touch.trans (h3.mono fun _ _ hr => hr.elim .inl (fun r => .inr (.inr r)))⟩
theorem PuS.tail (h : PuS w0 B a c p m P T R t v tl nx fu cs xs n K who o w) (hp : m ≠ p) (hm : m ∈ K) (x : Int) : PuS w0 B a c p m P T R t v x nx fu cs xs n K who o (w.setCell ⟨m, 5, none⟩ (.int .u64 x)) :=
  have hT : Touch (fun b => b = m) w (w.setCell ⟨m, 5, none⟩ (.int .u64 x)) := (Touch.refl (fun b => b = m) w).setCell (p := ⟨m, 5, none⟩) rfl _
  ⟨h.mach.set 5 _, h.arx.touch hT (fun _ e => e ▸ hm), h.port.touch hT (Ne.symm hp), h.touch.trans (hT.mono fun _ _ e => .inr (.inl e))⟩
theorem PuS.next (h : PuS w0 B a c p m P T R t v tl nx fu cs xs n K who o w) (hp : m ≠ p) (hm : m ∈ K) (x : Int) : PuS w0 B a c p m P T R t v tl x fu cs xs n K who o (w.setCell ⟨m, 6, none⟩ (.int .i64 x)) :=
  have hT : Touch (fun b => b = m) w (w.setCell ⟨m, 6, none⟩ (.int .i64 x)) := (Touch.refl (fun b => b = m) w).setCell (p := ⟨m, 6, none⟩) rfl _
  ⟨h.mach.set 6 _, h.arx.touch hT (fun _ e => e ▸ hm), h.port.touch hT (Ne.symm hp), h.touch.trans (hT.mono fun _ _ e => .inr (.inl e))⟩
theorem PuS.full (h : PuS w0 B a c p m P T R t v tl nx fu cs xs n K who o w) (hp : m ≠ p) (hm : m ∈ K) (x : Bool) : PuS w0 B a c p m P T R t v tl nx x cs xs n K who o (w.setCell ⟨m, 7, none⟩ (.bool x)) :=
  have hT : Touch (fun b => b = m) w (w.setCell ⟨m, 7, none⟩ (.bool x)) := (Touch.refl (fun b => b = m) w).setCell (p := ⟨m, 7, none⟩) rfl _
  ⟨h.mach.set 7 _, h.arx.touch hT (fun _ e => e ▸ hm), h.port.touch hT (Ne.symm hp), h.touch.trans (hT.mono fun _ _ e => .inr (.inl e))⟩
theorem PuS.over (h : PuS w0 B a c p m P T R t v tl nx fu cs xs n K who o w) :
    Calls Try.prog 41 #[.pointer (some ⟨m, 0, none⟩)] w fun e w' => e = .returned (.bool (nx == 0)) ∧ PuS w0 B a c p m P T R t v tl nx fu cs xs n K who o w' :=
  (over_push h.mach).mono fun _ _ ⟨he, hq⟩ => ⟨he, h.quiet hq⟩
theorem PuS.open' (h : PuS w0 B a c p m P T R t v tl nx fu cs xs n K who o w) :
    Calls Try.prog 93 #[.pointer (some ⟨p, 0, none⟩)] w fun e w' => e = .returned (.bool o) ∧ PuS w0 B a c p m P T R t v tl nx fu cs xs n K who o w' :=
  (open_at p a who o w h.port).mono fun _ _ ⟨he, hq⟩ => ⟨he, h.quiet hq⟩
theorem PuS.valCell (h : PuS w0 B a c p m P T R t v tl nx fu cs xs n K who o w) : w.cell? ⟨m, 4, none⟩ = some (.int .u64 v) := h.mach.val 4 rfl
theorem PuS.nextCell (h : PuS w0 B a c p m P T R t v tl nx fu cs xs n K who o w) : w.cell? ⟨m, 6, none⟩ = some (.int .i64 nx) ∧ w.frozen? ⟨m, 6, none⟩ = false := ⟨h.mach.val 6 rfl, h.mach.frozen 6⟩
theorem PuS.tailCell (h : PuS w0 B a c p m P T R t v tl nx fu cs xs n K who o w) : w.cell? ⟨m, 5, none⟩ = some (.int .u64 tl) ∧ w.frozen? ⟨m, 5, none⟩ = false := ⟨h.mach.val 5 rfl, h.mach.frozen 5⟩
theorem PuS.fullCell (h : PuS w0 B a c p m P T R t v tl nx fu cs xs n K who o w) : w.cell? ⟨m, 7, none⟩ = some (.bool fu) ∧ w.frozen? ⟨m, 7, none⟩ = false := ⟨h.mach.val 7 rfl, h.mach.frozen 7⟩
theorem PuS.load {i : Nat} (h : PuS w0 B a c p m P T R t v tl nx fu cs xs n K who true w) (hmp : m ≠ p) (hm : m ∈ K) (hp : p ∈ K) (hn : n < 1000000) (hi : i < cs.length) :
    Calls Try.prog 94 #[.pointer (some ⟨p, 0, none⟩), .int .i64 i] w fun e w' => (e = .returned (.int .u64 (cs.getD i 0))) ∧ PuS w0 B a c p m P T R t v tl nx fu cs (xs ++ accV who 1 i 0 0 (cs.getD i 0) (cs.getD i 0)) (n + 1) K who false w' := by
  refine (load_x h.arx h.port hp hn hi).mono fun e w' ⟨he, hs⟩ => ⟨he, ?_⟩
  have := h.stepped hmp hm hs
  rw [show leftI 1 (cs.getD i 0) 0 0 = cs.getD i 0 from rfl, set_same] at this
  exact this
theorem PuS.store {i : Nat} (x : Int) (h : PuS w0 B a c p m P T R t v tl nx fu cs xs n K who true w) (hmp : m ≠ p) (hm : m ∈ K) (hp : p ∈ K) (hn : n < 1000000) (hi : i < cs.length) :
    Calls Try.prog 96 #[.pointer (some ⟨p, 0, none⟩), .int .i64 i, .int .u64 x] w fun e w' => (∃ u, e = .returned u) ∧ PuS w0 B a c p m P T R t v tl nx fu (cs.set i x) (xs ++ accV who 2 i 0 x (cs.getD i 0) x) (n + 1) K who false w' := by
  refine (store_x x h.arx h.port hp hn hi).mono fun e w' ⟨he, hs⟩ => ⟨he, ?_⟩
  have := h.stepped hmp hm hs
  exact this
end
end Go.Proofs.Ytgcahbgapojimaa
