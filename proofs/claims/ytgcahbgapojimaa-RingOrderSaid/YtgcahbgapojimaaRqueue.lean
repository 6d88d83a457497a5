/- Words for the queue of the laws of package ring: its block, its two rows of words, its machines. No condition. -/
import Derived.Test.YtgcahbgapojimaaRsmall
import Derived.Deep.RegionLaw
import Derived.Deep.AppendLies
namespace Go.Proofs.Ytgcahbgapojimaa
open Go.RowKit
theorem PoE.mach {w0 w : World} {B a c p m : Nat} {P T R t v tl nx : Int} {fu : Bool} {cs : List Int} {n : Nat} {K : List Nat} {who : Int} {o : Bool} (h : PoE w0 B a c p m P T R t v tl nx fu cs n K who o w) : PopAt w m P T R t v tl nx fu := by
  obtain ⟨xs, h⟩ := h; exact h.mach
theorem PoE.port {w0 w : World} {B a c p m : Nat} {P T R t v tl nx : Int} {fu : Bool} {cs : List Int} {n : Nat} {K : List Nat} {who : Int} {o : Bool} (h : PoE w0 B a c p m P T R t v tl nx fu cs n K who o w) : PortAt w p a who o := by
  obtain ⟨xs, h⟩ := h; exact h.port
theorem PoE.touch {w0 w : World} {B a c p m : Nat} {P T R t v tl nx : Int} {fu : Bool} {cs : List Int} {n : Nat} {K : List Nat} {who : Int} {o : Bool} (h : PoE w0 B a c p m P T R t v tl nx fu cs n K who o w) : Touch (fun b => b = p ∨ b = m ∨ (B ≤ b ∧ b ∉ K)) w0 w := by
  obtain ⟨xs, h⟩ := h; exact h.touch
theorem PoE.ary {w0 w : World} {B a c p m : Nat} {P T R t v tl nx : Int} {fu : Bool} {cs : List Int} {n : Nat} {K : List Nat} {who : Int} {o : Bool} (h : PoE w0 B a c p m P T R t v tl nx fu cs n K who o w) : Ary w B a c cs n K := by
  obtain ⟨xs, h⟩ := h; exact ⟨xs, h.arx⟩
theorem PoE.grant {w0 w : World} {B a c p m : Nat} {P T R t v tl nx : Int} {fu : Bool} {cs : List Int} {n : Nat} {K : List Nat} {who : Int} {o : Bool} (h : PoE w0 B a c p m P T R t v tl nx fu cs n K who o w) (hr : Ready P T R t p m cs K) :
    Calls Try.prog 67 #[.pointer (some ⟨p, 0, none⟩)] w fun e w' => (∃ v, e = .returned v) ∧ PoE w0 B a c p m P T R t v tl nx fu cs n K who true w' := by
  obtain ⟨xs, h⟩ := h
  exact (grant_at p a who o w h.port).mono fun _ _ ⟨he, hP, hT⟩ => ⟨he, xs, h.mach.touch hT hr.ne, h.arx.touch hT (fun _ e => e ▸ hr.hp), hP, h.touch.trans (hT.mono fun _ _ e => .inl e)⟩
theorem Blk.ne {w : World} {b b' : Nat} {cs cs' : Array Value} {t t' : TypeId} (h : Blk w b cs t) (h' : Blk w b' cs' t') (ht : t ≠ t') : b ≠ b' := by
  intro e
  subst e
  unfold Blk at h h'
  rw [h] at h'
  injection h' with h'
  injection h' with _ h2
  exact ht h2
theorem own_ne {w : World} {B E size n b g : Nat} {v : Value} {xs : List Value} {cs : Array Value} {t : TypeId} (h : w.ownsRow B E size v n xs) (hg : v.ownBlock = some g) (hb : Blk w b cs t) (ht : E ≠ t) : g ≠ b := by
  intro e
  subst e
  rcases h.2 with ⟨hv, _⟩ | ⟨g', cap, cur, hv, _, hh, _⟩
  · rw [hv] at hg; cases hg
  · rw [hv] at hg
    injection hg with hg
    subst hg
    unfold Blk at hb
    rw [hb] at hh
    injection hh with hh
    injection hh with _ h2
    exact ht h2.symm
/-- the queue's block -/
def QueueAt (w : World) (x p cp : Nat) (pu po : Option Addr) (nx : Int) (vp vt : Value) : Prop :=
  Blk w x #[.pointer (some ⟨p, 0, none⟩), .pointer (some ⟨cp, 0, none⟩), .pointer pu, .pointer po, .int .u64 nx, vp, vt, .bool true] 45
/-- an arena, two ports of it (the same, perhaps), and a queue over them, with the words that were put and those that were taken -/
structure QS (w0 : World) (B a c p cp x : Nat) (pu po : Option Addr) (nx : Int) (vp vt : Value) (ps ts : List Int) (cs : List Int) (n : Nat) (K : List Nat) (wh wh2 : Int) (w : World) : Prop where
  ary : Ary w B a c cs n K
  port : PortAt w p a wh false
  cport : PortAt w cp a wh2 false
  q : QueueAt w x p cp pu po nx vp vt
  own1 : w.ownsRow w0.heap.size 22 1 vp ps.length (ps.map (Value.int .u64))
  own2 : w.ownsRow w0.heap.size 22 1 vt ts.length (ts.map (Value.int .u64))
  k1 : ∀ g, vp.ownBlock = some g → g ∈ K
  k2 : ∀ g, vt.ownBlock = some g → g ∈ K
  ne : ∀ g, vp.ownBlock = some g → vt.ownBlock ≠ some g
  hp : p ∈ K
  hcp : cp ∈ K
  hx : x ∈ K
  bel : Below w0.heap.size w0 w
  lo : ∀ b ∈ K, w0.heap.size ≤ b
  lb : w0.heap.size ≤ B
section
variable {w0 w w' : World} {B a c p cp x m : Nat} {pu po : Option Addr} {nx : Int} {vp vt : Value} {ps ts cs : List Int} {n : Nat} {K : List Nat} {wh wh2 : Int}
theorem QS.grew (h : QS w0 B a c p cp x pu po nx vp vt ps ts cs n K wh wh2 w) (hb : Below w.heap.size w w') : QS w0 B a c p cp x pu po nx vp vt ps ts cs n K wh wh2 w' :=
  ⟨h.ary.grew hb, h.port.grew hb, h.cport.grew hb, h.q.grew hb, own_grew h.own1 hb, own_grew h.own2 hb, h.k1, h.k2, h.ne, h.hp, h.hcp, h.hx, h.bel.trans (hb.mono h.bel.size), h.lo, h.lb⟩
theorem QS.quiet (h : QS w0 B a c p cp x pu po nx vp vt ps ts cs n K wh wh2 w) (hq : Quiet w w') : QS w0 B a c p cp x pu po nx vp vt ps ts cs n K wh wh2 w' := h.grew hq.below
theorem QS.xp (h : QS w0 B a c p cp x pu po nx vp vt ps ts cs n K wh wh2 w) : x ≠ p ∧ x ≠ cp := ⟨h.q.ne h.port (by decide), h.q.ne h.cport (by decide)⟩
theorem QS.same (h : QS w0 B a c p cp x pu po nx vp vt ps ts cs n K wh wh2 w) (e : cp = p) : wh2 = wh := by
  subst e
  have h1 := h.port
  have h2 := h.cport
  unfold PortAt Blk at h1 h2
  rw [h1] at h2
  simpa using h2.symm
/-- a machine of another block more -/
theorem QS.add (h : QS w0 B a c p cp x pu po nx vp vt ps ts cs n K wh wh2 w) (hb : Below w.heap.size w w') (hm : w.heap.size ≤ m) (hm' : m < w'.heap.size) : QS w0 B a c p cp x pu po nx vp vt ps ts cs n (m :: K) wh wh2 w' := by
  have h' := h.grew hb
  have hs := h.bel.size
  exact ⟨h.ary.add hb hm hm', h'.port, h'.cport, h'.q, h'.own1, h'.own2, fun g e => List.mem_cons_of_mem _ (h.k1 g e), fun g e => List.mem_cons_of_mem _ (h.k2 g e), h.ne, List.mem_cons_of_mem _ h.hp, List.mem_cons_of_mem _ h.hcp, List.mem_cons_of_mem _ h.hx, h'.bel, fun b hb => by
    rcases List.mem_cons.1 hb with rfl | hb
    · omega
    · exact h.lo b hb, h.lb⟩
/-- behind accesses of a machine through the port p that puts -/
theorem QS.put {cs' : List Int} {n' : Nat} {ms : Array Value} {tm : TypeId} (h : QS w0 B a c p cp x pu po nx vp vt ps ts cs n K wh wh2 w) (hM : Blk w m ms tm) (t1 : 22 ≠ tm) (t2 : 45 ≠ tm) (t3 : 133 ≠ tm) (hmK : m ∈ K)
    (hT : Touch (fun b => b = p ∨ b = m ∨ (B ≤ b ∧ b ∉ K)) w w') (hY : Ary w' B a c cs' n' K) (hP : PortAt w' p a wh false) : QS w0 B a c p cp x pu po nx vp vt ps ts cs' n' K wh wh2 w' := by
  have hxp := h.xp
  have nR : ∀ g, g ∈ K → g ≠ p → g ≠ m → ¬ (g = p ∨ g = m ∨ (B ≤ g ∧ g ∉ K)) := fun g hg h1 h2 r => by
    rcases r with r | r | r
    · exact h1 r
    · exact h2 r
    · exact r.2 hg
  have hc : PortAt w' cp a wh2 false := by
    by_cases e : cp = p
    · have e2 := h.same e
      subst e; subst e2; exact hP
    · exact h.cport.touch hT (nR cp h.hcp e (h.cport.ne hM t3))
  refine ⟨hY, hP, hc, h.q.touch hT (nR x h.hx hxp.1 (h.q.ne hM t2)), own_touch h.own1 hT (fun g e => nR g (h.k1 g e) (own_ne h.own1 e h.port (by decide)) (own_ne h.own1 e hM t1)), own_touch h.own2 hT (fun g e => nR g (h.k2 g e) (own_ne h.own2 e h.port (by decide)) (own_ne h.own2 e hM t1)), h.k1, h.k2, h.ne, h.hp, h.hcp, h.hx, h.bel.trans (hT.below h.bel.size fun b r => ?_), h.lo, h.lb⟩
  rcases r with rfl | rfl | r
  · exact h.lo _ h.hp
  · exact h.lo _ hmK
  · exact Nat.le_trans h.lb r.1
theorem QS.swap (h : QS w0 B a c p cp x pu po nx vp vt ps ts cs n K wh wh2 w) : True := trivial
end
end Go.Proofs.Ytgcahbgapojimaa
