/- What a step of ring's Pop does, access by access: words for it. Condition: the arena, its port and the machine are there, the plan is right, the thread is there. -/
import Derived.Test.YtgcahbgapojimaaPusha
namespace Go.Proofs.Ytgcahbgapojimaa
open Go.RowKit
/-- the machine, the arena and the port, ahead of an access -/
structure PoS (w0 : World) (B a c p m : Nat) (P T R t v tl nx : Int) (fu : Bool) (cs : List Int) (xs : List Value) (n : Nat) (K : List Nat) (who : Int) (o : Bool) (w : World) : Prop where
  mach : PopAt w m P T R t v tl nx fu
  arx : Arx w B a c cs xs n K
  port : PortAt w p a who o
  touch : Touch (fun b => b = p ∨ b = m ∨ (B ≤ b ∧ b ∉ K)) w0 w
section
variable {w0 w w' : World} {B a c p m : Nat} {P T R t v tl nx : Int} {fu : Bool} {cs : List Int} {xs : List Value} {n : Nat} {K : List Nat} {who : Int} {o : Bool}
theorem PoS.start (hM : PopAt w m P T R t v tl nx fu) (hA : Arx w B a c cs xs n K) (hP : PortAt w p a who o) : PoS w B a c p m P T R t v tl nx fu cs xs n K who o w := ⟨hM, hA, hP, Touch.refl _ _⟩
theorem PoS.grew (h : PoS w0 B a c p m P T R t v tl nx fu cs xs n K who o w) (hb : Below w.heap.size w w') : PoS w0 B a c p m P T R t v tl nx fu cs xs n K who o w' :=
  ⟨h.mach.grew hb, h.arx.grew hb, h.port.grew hb, h.touch.trans (Touch.of hb)⟩
theorem PoS.quiet (h : PoS w0 B a c p m P T R t v tl nx fu cs xs n K who o w) (hq : Quiet w w') : PoS w0 B a c p m P T R t v tl nx fu cs xs n K who o w' := h.grew hq.below
theorem PoS.drew (h : PoS w0 B a c p m P T R t v tl nx fu cs xs n K who o w) : PoS w0 B a c p m P T R t v tl nx fu cs xs n K who o w.drew := h.quiet ⟨1, rfl⟩
theorem PoS.plan (h : PoS w0 B a c p m P T R t v tl nx fu cs xs n K who o w) : w.cell? ⟨m, 0, none⟩ = some (.int .i64 P) ∧ w.cell? ⟨m, 1, none⟩ = some (.int .i64 T) ∧ w.cell? ⟨m, 2, none⟩ = some (.int .i64 R) ∧ w.cell? ⟨m, 3, none⟩ = some (.int .i64 t) :=
  ⟨h.mach.val 0 rfl, h.mach.val 1 rfl, h.mach.val 2 rfl, h.mach.val 3 rfl⟩
/-- an access leaves the machine as it was -/
theorem PoS.stepped {i : Nat} {k want put : Int} (h : PoS w0 B a c p m P T R t v tl nx fu cs xs n K who true w) (hp : m ≠ p) (hm : m ∈ K) (hs : ArxStep B a c p cs xs n K i who k want put w w') :
    PoS w0 B a c p m P T R t v tl nx fu (cs.set i (leftI k (cs.getD i 0) want put)) (xs ++ accV who k i want put (cs.getD i 0) (leftI k (cs.getD i 0) want put)) (n + 1) K who false w' := by
  obtain ⟨h1, h2, h3⟩ := hs
  exact ⟨h.mach.touch h3 (fun r => r.elim hp (fun r => r.2 hm)), h1, h2, h.touch.trans (h3.mono fun _ _ hr => hr.elim .inl (fun r => .inr (.inr r)))⟩
theorem PoS.tail (h : PoS w0 B a c p m P T R t v tl nx fu cs xs n K who o w) (hp : m ≠ p) (hm : m ∈ K) (x : Int) : PoS w0 B a c p m P T R t v x nx fu cs xs n K who o (w.setCell ⟨m, 5, none⟩ (.int .u64 x)) :=
  have hT : Touch (fun b => b = m) w (w.setCell ⟨m, 5, none⟩ (.int .u64 x)) := (Touch.refl (fun b => b = m) w).setCell (p := ⟨m, 5, none⟩) rfl _
  ⟨h.mach.set 5 _, h.arx.touch hT (fun _ e => e ▸ hm), h.port.touch hT (Ne.symm hp), h.touch.trans (hT.mono fun _ _ e => .inr (.inl e))⟩
theorem PoS.next (h : PoS w0 B a c p m P T R t v tl nx fu cs xs n K who o w) (hp : m ≠ p) (hm : m ∈ K) (x : Int) : PoS w0 B a c p m P T R t v tl x fu cs xs n K who o (w.setCell ⟨m, 6, none⟩ (.int .i64 x)) :=
  have hT : Touch (fun b => b = m) w (w.setCell ⟨m, 6, none⟩ (.int .i64 x)) := (Touch.refl (fun b => b = m) w).setCell (p := ⟨m, 6, none⟩) rfl _
  ⟨h.mach.set 6 _, h.arx.touch hT (fun _ e => e ▸ hm), h.port.touch hT (Ne.symm hp), h.touch.trans (hT.mono fun _ _ e => .inr (.inl e))⟩
theorem PoS.full (h : PoS w0 B a c p m P T R t v tl nx fu cs xs n K who o w) (hp : m ≠ p) (hm : m ∈ K) (x : Bool) : PoS w0 B a c p m P T R t v tl nx x cs xs n K who o (w.setCell ⟨m, 7, none⟩ (.bool x)) :=
  have hT : Touch (fun b => b = m) w (w.setCell ⟨m, 7, none⟩ (.bool x)) := (Touch.refl (fun b => b = m) w).setCell (p := ⟨m, 7, none⟩) rfl _
  ⟨h.mach.set 7 _, h.arx.touch hT (fun _ e => e ▸ hm), h.port.touch hT (Ne.symm hp), h.touch.trans (hT.mono fun _ _ e => .inr (.inl e))⟩
theorem PoS.value (h : PoS w0 B a c p m P T R t v tl nx fu cs xs n K who o w) (hp : m ≠ p) (hm : m ∈ K) (x : Int) : PoS w0 B a c p m P T R t x tl nx fu cs xs n K who o (w.setCell ⟨m, 4, none⟩ (.int .u64 x)) :=
  have hT : Touch (fun b => b = m) w (w.setCell ⟨m, 4, none⟩ (.int .u64 x)) := (Touch.refl (fun b => b = m) w).setCell (p := ⟨m, 4, none⟩) rfl _
  ⟨h.mach.set 4 _, h.arx.touch hT (fun _ e => e ▸ hm), h.port.touch hT (Ne.symm hp), h.touch.trans (hT.mono fun _ _ e => .inr (.inl e))⟩
theorem PoS.valueCell (h : PoS w0 B a c p m P T R t v tl nx fu cs xs n K who o w) : w.cell? ⟨m, 4, none⟩ = some (.int .u64 v) ∧ w.frozen? ⟨m, 4, none⟩ = false := ⟨h.mach.val 4 rfl, h.mach.frozen 4⟩
theorem PoS.over (h : PoS w0 B a c p m P T R t v tl nx fu cs xs n K who o w) :
    Calls Try.prog 43 #[.pointer (some ⟨m, 0, none⟩)] w fun e w' => e = .returned (.bool (nx == 0)) ∧ PoS w0 B a c p m P T R t v tl nx fu cs xs n K who o w' :=
  (over_pop h.mach).mono fun _ _ ⟨he, hq⟩ => ⟨he, h.quiet hq⟩
theorem PoS.open' (h : PoS w0 B a c p m P T R t v tl nx fu cs xs n K who o w) :
    Calls Try.prog 93 #[.pointer (some ⟨p, 0, none⟩)] w fun e w' => e = .returned (.bool o) ∧ PoS w0 B a c p m P T R t v tl nx fu cs xs n K who o w' :=
  (open_at p a who o w h.port).mono fun _ _ ⟨he, hq⟩ => ⟨he, h.quiet hq⟩
theorem PoS.nextCell (h : PoS w0 B a c p m P T R t v tl nx fu cs xs n K who o w) : w.cell? ⟨m, 6, none⟩ = some (.int .i64 nx) ∧ w.frozen? ⟨m, 6, none⟩ = false := ⟨h.mach.val 6 rfl, h.mach.frozen 6⟩
theorem PoS.tailCell (h : PoS w0 B a c p m P T R t v tl nx fu cs xs n K who o w) : w.cell? ⟨m, 5, none⟩ = some (.int .u64 tl) ∧ w.frozen? ⟨m, 5, none⟩ = false := ⟨h.mach.val 5 rfl, h.mach.frozen 5⟩
theorem PoS.fullCell (h : PoS w0 B a c p m P T R t v tl nx fu cs xs n K who o w) : w.cell? ⟨m, 7, none⟩ = some (.bool fu) ∧ w.frozen? ⟨m, 7, none⟩ = false := ⟨h.mach.val 7 rfl, h.mach.frozen 7⟩
theorem PoS.load {i : Nat} (h : PoS w0 B a c p m P T R t v tl nx fu cs xs n K who true w) (hmp : m ≠ p) (hm : m ∈ K) (hp : p ∈ K) (hn : n < 1000000) (hi : i < cs.length) :
    Calls Try.prog 94 #[.pointer (some ⟨p, 0, none⟩), .int .i64 i] w fun e w' => (e = .returned (.int .u64 (cs.getD i 0))) ∧ PoS w0 B a c p m P T R t v tl nx fu cs (xs ++ accV who 1 i 0 0 (cs.getD i 0) (cs.getD i 0)) (n + 1) K who false w' := by
  refine (load_x h.arx h.port hp hn hi).mono fun e w' ⟨he, hs⟩ => ⟨he, ?_⟩
  have := h.stepped hmp hm hs
  rw [show leftI 1 (cs.getD i 0) 0 0 = cs.getD i 0 from rfl, set_same] at this
  exact this
theorem PoS.store {i : Nat} (x : Int) (h : PoS w0 B a c p m P T R t v tl nx fu cs xs n K who true w) (hmp : m ≠ p) (hm : m ∈ K) (hp : p ∈ K) (hn : n < 1000000) (hi : i < cs.length) :
    Calls Try.prog 96 #[.pointer (some ⟨p, 0, none⟩), .int .i64 i, .int .u64 x] w fun e w' => (∃ u, e = .returned u) ∧ PoS w0 B a c p m P T R t v tl nx fu (cs.set i x) (xs ++ accV who 2 i 0 x (cs.getD i 0) x) (n + 1) K who false w' := by
  refine (store_x x h.arx h.port hp hn hi).mono fun e w' ⟨he, hs⟩ => ⟨he, ?_⟩
  have := h.stepped hmp hm hs
  exact this
end
end Go.Proofs.Ytgcahbgapojimaa
