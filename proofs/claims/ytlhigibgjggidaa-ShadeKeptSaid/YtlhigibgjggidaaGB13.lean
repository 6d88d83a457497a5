/- Texts of this seat, one behind the other: each says at its head what it holds. No condition of its own. -/
import Derived.Test.YtlhigibgjggidaaGB11
import Derived.Test.YtlhigibgjggidaaGB12
/- What ringed returns: a ring of one place takes one word, and no other. No condition. -/
namespace Go.Proofs.Ytlhigibgjggidaa
open Go.RowKit
theorem PuE.mach {w0 w : World} {B a c p m : Nat} {P T R t v tl nx : Int} {fu : Bool} {cs : List Int} {n : Nat} {K : List Nat} {who : Int} {o : Bool} (h : PuE w0 B a c p m P T R t v tl nx fu cs n K who o w) : PushAt w m P T R t v tl nx fu := by
  obtain ⟨xs, h⟩ := h; exact h.mach
theorem PuE.port {w0 w : World} {B a c p m : Nat} {P T R t v tl nx : Int} {fu : Bool} {cs : List Int} {n : Nat} {K : List Nat} {who : Int} {o : Bool} (h : PuE w0 B a c p m P T R t v tl nx fu cs n K who o w) : PortAt w p a who o := by
  obtain ⟨xs, h⟩ := h; exact h.port
theorem PuE.touch {w0 w : World} {B a c p m : Nat} {P T R t v tl nx : Int} {fu : Bool} {cs : List Int} {n : Nat} {K : List Nat} {who : Int} {o : Bool} (h : PuE w0 B a c p m P T R t v tl nx fu cs n K who o w) : Touch (fun b => b = p ∨ b = m ∨ (B ≤ b ∧ b ∉ K)) w0 w := by
  obtain ⟨xs, h⟩ := h; exact h.touch
/-- an arena with a log, whatever the log tells -/
def Ary (w : World) (B a c : Nat) (cs : List Int) (n : Nat) (K : List Nat) : Prop := ∃ xs, Arx w B a c cs xs n K
theorem PuE.ary {w0 w : World} {B a c p m : Nat} {P T R t v tl nx : Int} {fu : Bool} {cs : List Int} {n : Nat} {K : List Nat} {who : Int} {o : Bool} (h : PuE w0 B a c p m P T R t v tl nx fu cs n K who o w) : Ary w B a c cs n K := by
  obtain ⟨xs, h⟩ := h; exact ⟨xs, h.arx⟩
section
variable {w w' : World} {B a c m : Nat} {cs : List Int} {n : Nat} {K : List Nat}
theorem Ary.grew (h : Ary w B a c cs n K) (hb : Below w.heap.size w w') : Ary w' B a c cs n K := by
  obtain ⟨xs, h⟩ := h; exact ⟨xs, h.grew hb⟩
theorem Ary.quiet (h : Ary w B a c cs n K) (hq : Quiet w w') : Ary w' B a c cs n K := h.grew hq.below
theorem Ary.add (h : Ary w B a c cs n K) (hb : Below w.heap.size w w') (hm : w.heap.size ≤ m) (hm' : m < w'.heap.size) : Ary w' B a c cs n (m :: K) := by
  obtain ⟨xs, h⟩ := h; exact ⟨xs, h.add hb hm hm'⟩
theorem Ary.sub {K' : List Nat} (h : Ary w B a c cs n K) (hs : ∀ b ∈ K', b ∈ K) : Ary w B a c cs n K' := by
  obtain ⟨xs, h⟩ := h; exact ⟨xs, h.sub hs⟩
theorem Ary.bw (h : Ary w B a c cs n K) : B ≤ w.heap.size := by
  obtain ⟨xs, h⟩ := h; exact h.bw
theorem Ary.touch {R : Nat → Prop} (h : Ary w B a c cs n K) (ht : Touch R w w') (hR : ∀ b, R b → b ∈ K) : Ary w' B a c cs n K := by
  obtain ⟨xs, h⟩ := h; exact ⟨xs, h.touch ht hR⟩
theorem Ary.pu {p : Nat} {P T R t v tl nx : Int} {fu : Bool} {who : Int} {o : Bool} (h : Ary w B a c cs n K) (hM : PushAt w m P T R t v tl nx fu) (hP : PortAt w p a who o) : PuE w B a c p m P T R t v tl nx fu cs n K who o w := by
  obtain ⟨xs, h⟩ := h; exact ⟨xs, .start hM h hP⟩
theorem Ary.po {p : Nat} {P T R t v tl nx : Int} {fu : Bool} {who : Int} {o : Bool} (h : Ary w B a c cs n K) (hM : PopAt w m P T R t v tl nx fu) (hP : PortAt w p a who o) : PoE w B a c p m P T R t v tl nx fu cs n K who o w := by
  obtain ⟨xs, h⟩ := h; exact ⟨xs, .start hM h hP⟩
end
end Go.Proofs.Ytlhigibgjggidaa
/- What the small functions of package shade return: place, NewMark, NewShade, Over, Fresh, Lost, Held, Marked. No condition but that the machine's blocks are there. -/
namespace Go.Proofs.Ytlhigibgjggidaa
open Go.RowKit
def MarkAt (w : World) (m : Nat) (cell bit nx : Int) (fr : Bool) : Prop := Blk w m #[.int .i64 cell, .int .u64 bit, .int .i64 nx, .bool fr] 117
def ShadeAt (w : World) (s : Nat) (ref : Int) (mk : Nat) (pu : Option Addr) (nx : Int) (lost : Bool) : Prop := Blk w s #[.int .u64 ref, .pointer (some ⟨mk, 0, none⟩), .pointer pu, .int .i64 nx, .bool lost] 112
/-- the page, the word, the cell and the bit of a reference's mark -/
def pgI (P T R x : Int) : Int := (x - baseI P T R) / 64
def wdI (P T R x : Int) : Int := (x - baseI P T R) % 64
def cellI (P T R x : Int) : Int := rowI P T R 2 (pgI P T R x)
def bitI (P T R x : Int) : Int := IntKind.u64.wrap (2 ^ (wdI P T R x).toNat)
theorem ref_bd {P T R x : Int} (h : refB P T R x = true) : Right P T R ∧ x < 4096 ∧ baseI P T R ≤ x ∧ x < baseI P T R + 64 * P := by
  unfold refB heapB inB at h
  rw [Bool.and_eq_true, Bool.and_eq_true] at h
  have h1 := of_decide_eq_true h.1
  have h2 := of_decide_eq_true h.2.2
  exact ⟨right_of h.2.1, h1, h2.1, by omega⟩
theorem place_ref {P T R x : Int} (h : refB P T R x = true) : placeI P T R x = (pgI P T R x, wdI P T R x) := by
  unfold placeI
  unfold refB at h
  rw [Bool.and_eq_true] at h
  rw [if_pos h.2]
  rfl
set_option maxHeartbeats 1000000 in
theorem splace_no (P T R x : Int) (w : World) (hx : U64 x) (h : refB P T R x = false) :
    Calls Try.prog 48 #[.agg #[.int .i64 P, .int .i64 T, .int .i64 R], .int .u64 x] w fun e w' => e = .returned (.tuple #[.int .i64 0, .int .u64 0, .bool false]) ∧ Below w.heap.size w w' := by
  have H := Lib.hid (fun W => ref_any P T R x W hx)
  rw [h] at H
  clear h hx
  go_enter Try.func48, Try.ntmps48
  have c0 := (planNew w P T R 53)
  go_wp2_with fail
  refine (H.out _).mono ?_; rintro e w1 ⟨rfl, hb1⟩
  have c1 := planKeep c0 hb1
  go_wp2
  go_ret3
  exact ⟨rfl, c1.2⟩
set_option maxHeartbeats 2000000 in
theorem splace_yes (P T R x : Int) (w : World) (hx : U64 x) (h : refB P T R x = true) :
    Calls Try.prog 48 #[.agg #[.int .i64 P, .int .i64 T, .int .i64 R], .int .u64 x] w fun e w' => e = .returned (.tuple #[.int .i64 (cellI P T R x), .int .u64 (bitI P T R x), .bool true]) ∧ Below w.heap.size w w' := by
  have H := Lib.hid (fun W => ref_any P T R x W hx)
  rw [h] at H
  have PL := Lib.hid (fun W => place_any P T R x W)
  rw [place_ref h] at PL
  have MK := Lib.hid (fun W => mark_any P T R (pgI P T R x) W)
  have hb := ref_bd h
  have hwd : 0 ≤ wdI P T R x ∧ wdI P T R x < 64 := by unfold wdI; omega
  have hxw : IntKind.i64.wrap x = x := IntWalk.i64_in _ (by have := hx.1; omega)
  have hxw2 : wrap64 x = x := IntWalk.wrap64_in _ (by have := hx.1; omega)
  unfold cellI bitI
  generalize wdI P T R x = wd at *
  generalize pgI P T R x = pg at *
  generalize rowI P T R 2 pg = ce at *
  obtain ⟨wd0, wd1⟩ := hwd
  clear hb h hx
  go_enter Try.func48, Try.ntmps48
  have c0 := (planNew w P T R 53)
  go_wp2_with fail
  refine (H.out _).mono ?_; rintro e w1 ⟨rfl, hb1⟩
  have c1 := planKeep c0 hb1
  obtain ⟨d10, d11, d12⟩ := c1.1
  go_wp2_with fail
  refine (PL.out _).mono ?_; rintro e w2 ⟨rfl, hb2⟩
  have c2 := planKeep c1 hb2
  obtain ⟨d20, d21, d22⟩ := c2.1
  go_wp2_with fail
  go_region_held3 (fun w' => (w'.cell? ⟨w.heap.size, 0, none⟩ = some (.int .i64 P) ∧ w'.cell? ⟨w.heap.size, 1, none⟩ = some (.int .i64 T) ∧ w'.cell? ⟨w.heap.size, 2, none⟩ = some (.int .i64 R)) ∧ Below w.heap.size w w') (first | exact ⟨c2.1, c2.2.drew⟩ | (with_reducible exact planKeep (by assumption) hbk)) (first | (go_at_call 77; refine (MK.out _).mono ?_; rintro e w9 ⟨rfl, hbk⟩))
  have c9 := planHeld (by assumption)
  go_wp2
  go_ret3
  exact ⟨rfl, c9.2⟩

def NewMarkPost (cell bit nx : Int) (w : World) (e : Ending) (w' : World) : Prop :=
  ∃ m, e = .returned (.tuple #[.pointer (some ⟨m, 0, none⟩), .int .i64 0]) ∧ MarkAt w' m cell bit nx false ∧ w.heap.size ≤ m ∧ Below w.heap.size w w'
theorem cells_pos {P T R : Int} (h : Right P T R) : (baseI P T R + 64 * P == 0) = false := by
  have hb := base_bd h
  have := h.1
  exact beq_eq_false_iff_ne.2 (by omega)

set_option maxHeartbeats 1000000 in
theorem newmark_arg (P T R x : Int) (w : World) (h : rightB P T R = false) :
    Calls Try.prog 15 #[.agg #[.int .i64 P, .int .i64 T, .int .i64 R], .int .u64 x] w fun e w' => e = .returned (.tuple #[.pointer none, .int .i64 1]) ∧ Below w.heap.size w w' := by
  have C := Lib.hid (fun W => cells_no P T R W h)
  clear h
  go_enter Try.func15, Try.ntmps15
  have c0 := (planNew w P T R 53)
  go_wp2_with fail
  refine (C.out _).mono ?_; rintro e w1 ⟨rfl, hb1⟩
  have c1 := planKeep c0 hb1
  obtain ⟨d10, d11, d12⟩ := c1.1
  go_wp2
  go_ret2
  exact ⟨rfl, c1.2⟩

set_option maxHeartbeats 1000000 in
theorem newmark_zero (P T R x : Int) (w : World) (hr : Right P T R) (hx : x = 0) :
    Calls Try.prog 15 #[.agg #[.int .i64 P, .int .i64 T, .int .i64 R], .int .u64 x] w (NewMarkPost 0 0 0 w) := by
  subst hx
  have C := Lib.hid (fun W => cells_yes P T R W hr)
  have hc := cells_pos hr
  generalize baseI P T R + 64 * P = cc at *
  go_enter Try.func15, Try.ntmps15
  have c0 := (planNew w P T R 53)
  go_wp2_with fail
  refine (C.out _).mono ?_; rintro e w1 ⟨rfl, hb1⟩
  have c1 := planKeep c0 hb1
  obtain ⟨d10, d11, d12⟩ := c1.1
  go_wp2
  go_ret2
  exact ⟨_, rfl, Blk.new' (by simp), Nat.le_trans c1.2.size (Nat.le_refl _), c1.2.trans ((Below.refl _ _).alloc c1.2.size _)⟩

set_option maxHeartbeats 1000000 in
theorem newmark_addr (P T R x : Int) (w : World) (hr : Right P T R) (hu : U64 x) (hx : x ≠ 0) (h : refB P T R x = false) :
    Calls Try.prog 15 #[.agg #[.int .i64 P, .int .i64 T, .int .i64 R], .int .u64 x] w fun e w' => e = .returned (.tuple #[.pointer none, .int .i64 5]) ∧ Below w.heap.size w w' := by
  have C := Lib.hid (fun W => cells_yes P T R W hr)
  have hc := cells_pos hr
  generalize baseI P T R + 64 * P = cc at *
  have hx' : (x == 0) = false := by simpa using hx
  have PL := Lib.hid (fun W => splace_no P T R x W hu h)
  clear h hu hx hr
  go_enter Try.func15, Try.ntmps15
  have c0 := (planNew w P T R 53)
  go_wp2_with fail
  refine (C.out _).mono ?_; rintro e w1 ⟨rfl, hb1⟩
  have c1 := planKeep c0 hb1
  obtain ⟨d10, d11, d12⟩ := c1.1
  go_wp2_with fail
  refine (PL.out _).mono ?_; rintro e w2 ⟨rfl, hb2⟩
  have c2 := planKeep c1 hb2
  go_wp2
  go_ret2
  exact ⟨rfl, c2.2⟩

set_option maxHeartbeats 1000000 in
theorem newmark_yes (P T R x : Int) (w : World) (hu : U64 x) (hx : x ≠ 0) (h : refB P T R x = true) :
    Calls Try.prog 15 #[.agg #[.int .i64 P, .int .i64 T, .int .i64 R], .int .u64 x] w (NewMarkPost (cellI P T R x) (bitI P T R x) 1 w) := by
  have hr := (ref_bd h).1
  have C := Lib.hid (fun W => cells_yes P T R W hr)
  have hc := cells_pos hr
  generalize baseI P T R + 64 * P = cc at *
  have hx' : (x == 0) = false := by simpa using hx
  have PL := Lib.hid (fun W => splace_yes P T R x W hu h)
  clear h hu hx hr
  go_enter Try.func15, Try.ntmps15
  have c0 := (planNew w P T R 53)
  go_wp2_with fail
  refine (C.out _).mono ?_; rintro e w1 ⟨rfl, hb1⟩
  have c1 := planKeep c0 hb1
  obtain ⟨d10, d11, d12⟩ := c1.1
  go_wp2_with fail
  refine (PL.out _).mono ?_; rintro e w2 ⟨rfl, hb2⟩
  have c2 := planKeep c1 hb2
  go_wp2
  go_ret2
  exact ⟨_, rfl, Blk.new' (by simp), Nat.le_trans c2.2.size (Nat.le_refl _), c2.2.trans ((Below.refl _ _).alloc c2.2.size _)⟩

/-- what NewShade makes of a reference -/
def NewShadePost (P T R t x : Int) (w : World) (e : Ending) (w' : World) : Prop :=
  ∃ s mk pu, e = .returned (.tuple #[.pointer (some ⟨s, 0, none⟩), .int .i64 0]) ∧ ShadeAt w' s x mk (some ⟨pu, 0, none⟩) 1 false ∧ MarkAt w' mk (cellI P T R x) (bitI P T R x) 1 false ∧ PushAt w' pu P T R t x 0 1 false ∧ w.heap.size ≤ mk ∧ mk < pu ∧ pu < s ∧ Below w.heap.size w w'
def NewShadeZero (w : World) (e : Ending) (w' : World) : Prop :=
  ∃ s mk, e = .returned (.tuple #[.pointer (some ⟨s, 0, none⟩), .int .i64 0]) ∧ ShadeAt w' s 0 mk none 0 false ∧ MarkAt w' mk 0 0 0 false ∧ w.heap.size ≤ mk ∧ mk < s ∧ Below w.heap.size w w'
theorem head_neg {P T R t : Int} (h : exB P T R t = false) : decide (ownI P T R t 3 < 0) = true := by
  have := own_ge P T R t 3 (by decide)
  rw [h] at this
  have := of_decide_eq_false this
  exact decide_eq_true (by omega)
theorem head_not {P T R t : Int} (h : exB P T R t = true) : decide (ownI P T R t 3 < 0) = false := by
  have := own_ge P T R t 3 (by decide)
  rw [h] at this
  have := of_decide_eq_true this
  exact decide_eq_false (by omega)

set_option maxHeartbeats 1000000 in
theorem newshade_arg (P T R t x : Int) (w : World) (h : exB P T R t = false) :
    Calls Try.prog 12 #[.agg #[.int .i64 P, .int .i64 T, .int .i64 R], .int .i64 t, .int .u64 x] w fun e w' => e = .returned (.tuple #[.pointer none, .int .i64 1]) ∧ Below w.heap.size w w' := by
  have H := Lib.hid (fun W => head_any P T R t W)
  have hh := head_neg h
  generalize ownI P T R t 3 = hd at *
  clear h
  go_enter Try.func12, Try.ntmps12
  have c0 := (planNew w P T R 53)
  go_wp2_with fail
  refine (H.out _).mono ?_; rintro e w1 ⟨rfl, hb1⟩
  have c1 := planKeep c0 hb1
  obtain ⟨d10, d11, d12⟩ := c1.1
  go_wp2
  go_ret2
  exact ⟨rfl, c1.2⟩

set_option maxHeartbeats 1000000 in
theorem newshade_addr (P T R t x : Int) (w : World) (h : exB P T R t = true) (hu : U64 x) (hx : x ≠ 0) (hf : refB P T R x = false) :
    Calls Try.prog 12 #[.agg #[.int .i64 P, .int .i64 T, .int .i64 R], .int .i64 t, .int .u64 x] w fun e w' => e = .returned (.tuple #[.pointer none, .int .i64 5]) ∧ Below w.heap.size w w' := by
  have H := Lib.hid (fun W => head_any P T R t W)
  have hr : Right P T R := by unfold exB at h; rw [Bool.and_eq_true] at h; exact right_of h.1
  have NM := Lib.hid (fun W => newmark_addr P T R x W hr hu hx hf)
  have hh := head_not h
  generalize ownI P T R t 3 = hd at *
  clear h hu hx hf hr
  go_enter Try.func12, Try.ntmps12
  have c0 := (planNew w P T R 53)
  go_wp2_with fail
  refine (H.out _).mono ?_; rintro e w1 ⟨rfl, hb1⟩
  have c1 := planKeep c0 hb1
  obtain ⟨d10, d11, d12⟩ := c1.1
  go_wp2_with fail
  refine (NM.out _).mono ?_; rintro e w2 ⟨rfl, hb2⟩
  have c2 := planKeep c1 hb2
  go_wp2
  go_ret2
  exact ⟨rfl, c2.2⟩

set_option maxHeartbeats 1000000 in
theorem newshade_zero (P T R t x : Int) (w : World) (h : exB P T R t = true) (hx : x = 0) :
    Calls Try.prog 12 #[.agg #[.int .i64 P, .int .i64 T, .int .i64 R], .int .i64 t, .int .u64 x] w (NewShadeZero w) := by
  have H := Lib.hid (fun W => head_any P T R t W)
  subst hx
  have hr : Right P T R := by unfold exB at h; rw [Bool.and_eq_true] at h; exact right_of h.1
  have NM := Lib.hid (fun W => newmark_zero P T R 0 W hr rfl)
  have hh := head_not h
  generalize ownI P T R t 3 = hd at *
  clear h hr
  go_enter Try.func12, Try.ntmps12
  have c0 := (planNew w P T R 53)
  go_wp2_with fail
  refine (H.out _).mono ?_; rintro e w1 ⟨rfl, hb1⟩
  have c1 := planKeep c0 hb1
  obtain ⟨d10, d11, d12⟩ := c1.1
  go_wp2_with fail
  refine (NM.out _).mono ?_; rintro e w2 ⟨mk, rfl, hM2, hm2, hb2⟩
  have c2 := planKeep c1 hb2
  have hl := hM2.lt
  go_wp2
  go_ret2
  exact ⟨_, mk, rfl, Blk.new' (by simp), Blk.alloc hM2 _, Nat.le_trans c1.2.size hm2, by simpa using hl, c2.2.trans ((Below.refl _ _).alloc c2.2.size _)⟩

set_option maxHeartbeats 1000000 in
theorem newshade_yes (P T R t x : Int) (w : World) (h : exB P T R t = true) (hu : U64 x) (hx : x ≠ 0) (hf : refB P T R x = true) :
    Calls Try.prog 12 #[.agg #[.int .i64 P, .int .i64 T, .int .i64 R], .int .i64 t, .int .u64 x] w (NewShadePost P T R t x w) := by
  have H := Lib.hid (fun W => head_any P T R t W)
  have NM := Lib.hid (fun W => newmark_yes P T R x W hu hx hf)
  have NP := Lib.hid (fun W => newpush_yes P T R t x W h hx)
  have hx' : (x == 0) = false := by simpa using hx
  have hh := head_not h
  generalize ownI P T R t 3 = hd at *
  clear h hu hx hf
  go_enter Try.func12, Try.ntmps12
  have c0 := (planNew w P T R 53)
  go_wp2_with fail
  refine (H.out _).mono ?_; rintro e w1 ⟨rfl, hb1⟩
  have c1 := planKeep c0 hb1
  obtain ⟨d10, d11, d12⟩ := c1.1
  go_wp2_with fail
  refine (NM.out _).mono ?_; rintro e w2 ⟨mk, rfl, hM2, hm2, hb2⟩
  have c2 := planKeep c1 hb2
  obtain ⟨d20, d21, d22⟩ := c2.1
  have hl := hM2.lt
  go_wp2_with fail
  refine (NP.out _).mono ?_; rintro e w3 ⟨pu, rfl, hP3, hp3, hb3⟩
  have c3 := planKeep c2 hb3
  have hM3 := Blk.grew hM2 hb3
  have hl3 := hP3.lt
  go_wp2
  go_ret2
  exact ⟨_, mk, pu, rfl, Blk.new' (by simp), Blk.alloc hM3 _, Blk.alloc hP3 _, Nat.le_trans c1.2.size hm2, by omega, by simpa using hl3, c3.2.trans ((Below.refl _ _).alloc c3.2.size _)⟩

theorem over_marknil (w : World) :
    Calls Try.prog 57 #[.pointer none] w fun e w' => e = .returned (.bool true) ∧ Quiet w w' := by
  go_enter Try.func57, Try.ntmps57
  go_wp2
  go_ret
  exact ⟨rfl, Quiet.refl _⟩

theorem fresh_marknil (w : World) :
    Calls Try.prog 58 #[.pointer none] w fun e w' => e = .returned (.bool false) ∧ Quiet w w' := by
  go_enter Try.func58, Try.ntmps58
  go_wp2
  go_ret
  exact ⟨rfl, Quiet.refl _⟩

theorem step_marknil (p : Option Addr) (w : World) :
    Calls Try.prog 56 #[.pointer none, .pointer p] w fun e w' => e = .returned (.bool true) ∧ Quiet w w' := by
  go_enter Try.func56, Try.ntmps56
  go_wp2_with fail
  refine (over_marknil _).mono ?_; rintro e w1 ⟨rfl, hq1⟩
  go_wp2_with fail
  refine (over_marknil _).mono ?_; rintro e w2 ⟨rfl, hq2⟩
  go_wp2
  go_ret
  exact ⟨rfl, hq1.trans hq2⟩

theorem over_shadenil (w : World) :
    Calls Try.prog 32 #[.pointer none] w fun e w' => e = .returned (.bool true) ∧ Quiet w w' := by
  go_enter Try.func32, Try.ntmps32
  go_wp2
  go_ret
  exact ⟨rfl, Quiet.refl _⟩

theorem fresh_shadenil (w : World) :
    Calls Try.prog 27 #[.pointer none] w fun e w' => e = .returned (.bool false) ∧ Quiet w w' := by
  go_enter Try.func27, Try.ntmps27
  go_wp2
  go_ret
  exact ⟨rfl, Quiet.refl _⟩

theorem lost_shadenil (w : World) :
    Calls Try.prog 53 #[.pointer none] w fun e w' => e = .returned (.bool false) ∧ Quiet w w' := by
  go_enter Try.func53, Try.ntmps53
  go_wp2
  go_ret
  exact ⟨rfl, Quiet.refl _⟩

theorem held_shadenil (w : World) :
    Calls Try.prog 54 #[.pointer none] w fun e w' => e = .returned (.int .u64 0) ∧ Quiet w w' := by
  go_enter Try.func54, Try.ntmps54
  go_wp2_with fail
  refine (over_shadenil _).mono ?_; rintro e w1 ⟨rfl, hq1⟩
  go_wp2
  go_ret
  exact ⟨rfl, hq1⟩

theorem step_shadenil (p : Option Addr) (w : World) :
    Calls Try.prog 25 #[.pointer none, .pointer p] w fun e w' => e = .returned (.bool true) ∧ Quiet w w' := by
  go_enter Try.func25, Try.ntmps25
  go_wp2_with fail
  refine (over_shadenil _).mono ?_; rintro e w1 ⟨rfl, hq1⟩
  go_wp2_with fail
  refine (over_shadenil _).mono ?_; rintro e w2 ⟨rfl, hq2⟩
  go_wp2
  go_ret
  exact ⟨rfl, hq1.trans hq2⟩

section
variable {w : World} {m s mk : Nat} {ce bi nx x : Int} {fr lost : Bool} {pu : Option Addr}

theorem over_mark (h : MarkAt w m ce bi nx fr) :
    Calls Try.prog 57 #[.pointer (some ⟨m, 0, none⟩)] w fun e w' => e = .returned (.bool (nx == 0)) ∧ Quiet w w' := by
  have h2 := h.val 2 rfl
  clear h
  go_enter Try.func57, Try.ntmps57
  go_wp2
  go_ret
  exact ⟨rfl, Quiet.refl _⟩

theorem fresh_mark (h : MarkAt w m ce bi nx fr) :
    Calls Try.prog 58 #[.pointer (some ⟨m, 0, none⟩)] w fun e w' => e = .returned (.bool fr) ∧ Quiet w w' := by
  have h2 := h.val 3 rfl
  clear h
  go_enter Try.func58, Try.ntmps58
  go_wp2
  go_ret
  exact ⟨rfl, Quiet.refl _⟩

theorem over_shade (h : ShadeAt w s x mk pu nx lost) :
    Calls Try.prog 32 #[.pointer (some ⟨s, 0, none⟩)] w fun e w' => e = .returned (.bool (nx == 0)) ∧ Quiet w w' := by
  have h2 := h.val 3 rfl
  clear h
  go_enter Try.func32, Try.ntmps32
  go_wp2
  go_ret
  exact ⟨rfl, Quiet.refl _⟩

theorem lost_shade (h : ShadeAt w s x mk pu nx lost) :
    Calls Try.prog 53 #[.pointer (some ⟨s, 0, none⟩)] w fun e w' => e = .returned (.bool lost) ∧ Quiet w w' := by
  have h2 := h.val 4 rfl
  clear h
  go_enter Try.func53, Try.ntmps53
  go_wp2
  go_ret
  exact ⟨rfl, Quiet.refl _⟩

theorem fresh_shade (h : ShadeAt w s x mk pu nx lost) (hm : MarkAt w mk ce bi m fr) :
    Calls Try.prog 27 #[.pointer (some ⟨s, 0, none⟩)] w fun e w' => e = .returned (.bool fr) ∧ Quiet w w' := by
  have h2 := h.val 1 rfl
  have F := Lib.hid (fresh_mark hm)
  clear h hm
  go_enter Try.func27, Try.ntmps27
  go_wp2_with fail
  refine F.out.mono ?_; rintro e w1 ⟨rfl, hq1⟩
  go_wp2
  go_ret
  exact ⟨rfl, hq1⟩
end
end Go.Proofs.Ytlhigibgjggidaa
/- What a step of shade's Mark does. Condition: the arena, its port and the machine are there, its cell is one of the arena's. -/
namespace Go.Proofs.Ytlhigibgjggidaa
open Go.RowKit
/-- the machine that marks, the arena and the port -/
structure MkS (w0 : World) (B a c p m : Nat) (ce : Nat) (bi nx : Int) (fr : Bool) (cs : List Int) (xs : List Value) (n : Nat) (K : List Nat) (who : Int) (o : Bool) (w : World) : Prop where
  mach : MarkAt w m ce bi nx fr
  arx : Arx w B a c cs xs n K
  port : PortAt w p a who o
  touch : Touch (fun b => b = p ∨ b = m ∨ (B ≤ b ∧ b ∉ K)) w0 w
section
variable {w0 w w' : World} {B a c p m : Nat} {ce : Nat} {bi nx : Int} {fr : Bool} {cs : List Int} {xs : List Value} {n : Nat} {K : List Nat} {who : Int} {o : Bool}
theorem MkS.start (hM : MarkAt w m ce bi nx fr) (hA : Arx w B a c cs xs n K) (hP : PortAt w p a who o) : MkS w B a c p m ce bi nx fr cs xs n K who o w := ⟨hM, hA, hP, Touch.refl _ _⟩
theorem MkS.grew (h : MkS w0 B a c p m ce bi nx fr cs xs n K who o w) (hb : Below w.heap.size w w') : MkS w0 B a c p m ce bi nx fr cs xs n K who o w' :=
  ⟨h.mach.grew hb, h.arx.grew hb, h.port.grew hb, h.touch.trans (Touch.of hb)⟩
theorem MkS.quiet (h : MkS w0 B a c p m ce bi nx fr cs xs n K who o w) (hq : Quiet w w') : MkS w0 B a c p m ce bi nx fr cs xs n K who o w' := h.grew hq.below
theorem MkS.drew (h : MkS w0 B a c p m ce bi nx fr cs xs n K who o w) : MkS w0 B a c p m ce bi nx fr cs xs n K who o w.drew := h.quiet ⟨1, rfl⟩
theorem MkS.cells (h : MkS w0 B a c p m ce bi nx fr cs xs n K who o w) : w.cell? ⟨m, 0, none⟩ = some (.int .i64 ce) ∧ w.cell? ⟨m, 1, none⟩ = some (.int .u64 bi) := ⟨h.mach.val 0 rfl, h.mach.val 1 rfl⟩
theorem MkS.nextCell (h : MkS w0 B a c p m ce bi nx fr cs xs n K who o w) : w.cell? ⟨m, 2, none⟩ = some (.int .i64 nx) ∧ w.frozen? ⟨m, 2, none⟩ = false := ⟨h.mach.val 2 rfl, h.mach.frozen 2⟩
theorem MkS.freshCell (h : MkS w0 B a c p m ce bi nx fr cs xs n K who o w) : w.cell? ⟨m, 3, none⟩ = some (.bool fr) ∧ w.frozen? ⟨m, 3, none⟩ = false := ⟨h.mach.val 3 rfl, h.mach.frozen 3⟩
theorem MkS.next (h : MkS w0 B a c p m ce bi nx fr cs xs n K who o w) (hp : m ≠ p) (hm : m ∈ K) (x : Int) : MkS w0 B a c p m ce bi x fr cs xs n K who o (w.setCell ⟨m, 2, none⟩ (.int .i64 x)) :=
  have hT : Touch (fun b => b = m) w (w.setCell ⟨m, 2, none⟩ (.int .i64 x)) := (Touch.refl (fun b => b = m) w).setCell (p := ⟨m, 2, none⟩) rfl _
  ⟨h.mach.set 2 _, h.arx.touch hT (fun _ e => e ▸ hm), h.port.touch hT (Ne.symm hp), h.touch.trans (hT.mono fun _ _ e => .inr (.inl e))⟩
theorem MkS.fresh (h : MkS w0 B a c p m ce bi nx fr cs xs n K who o w) (hp : m ≠ p) (hm : m ∈ K) (x : Bool) : MkS w0 B a c p m ce bi nx x cs xs n K who o (w.setCell ⟨m, 3, none⟩ (.bool x)) :=
  have hT : Touch (fun b => b = m) w (w.setCell ⟨m, 3, none⟩ (.bool x)) := (Touch.refl (fun b => b = m) w).setCell (p := ⟨m, 3, none⟩) rfl _
  ⟨h.mach.set 3 _, h.arx.touch hT (fun _ e => e ▸ hm), h.port.touch hT (Ne.symm hp), h.touch.trans (hT.mono fun _ _ e => .inr (.inl e))⟩
theorem MkS.over (h : MkS w0 B a c p m ce bi nx fr cs xs n K who o w) :
    Calls Try.prog 57 #[.pointer (some ⟨m, 0, none⟩)] w fun e w' => e = .returned (.bool (nx == 0)) ∧ MkS w0 B a c p m ce bi nx fr cs xs n K who o w' :=
  (over_mark h.mach).mono fun _ _ ⟨he, hq⟩ => ⟨he, h.quiet hq⟩
theorem MkS.open' (h : MkS w0 B a c p m ce bi nx fr cs xs n K who o w) :
    Calls Try.prog 61 #[.pointer (some ⟨p, 0, none⟩)] w fun e w' => e = .returned (.bool o) ∧ MkS w0 B a c p m ce bi nx fr cs xs n K who o w' :=
  (open_at p a who o w h.port).mono fun _ _ ⟨he, hq⟩ => ⟨he, h.quiet hq⟩
theorem or_x {i : Nat} (v : Int) (hA : Arx w B a c cs xs n K) (hP : PortAt w p a who true) (hp : p ∈ K) (hn : n < 1000000) (hi : i < cs.length) :
    Calls Try.prog 84 #[.pointer (some ⟨p, 0, none⟩), .int .i64 i, .int .u64 v] w fun e w' => e = .returned (.int .u64 (cs.getD i 0)) ∧ ArxStep B a c p cs xs n K i who 5 0 v w w' := by
  obtain ⟨lv, hL, hg⟩ := hA.ex
  exact (or_log B a c p cs lv xs n 0 who i v w hL hP (fun e => hA.na (e ▸ hp)) (fun e => hA.nc (e ▸ hp)) (fun e => hg p e hp) hA.bw hn hi).mono fun e w' ⟨he, hs⟩ => ⟨he, hs.arx hA hL hg⟩
theorem MkS.or {i : Nat} (v : Int) (h : MkS w0 B a c p m ce bi nx fr cs xs n K who true w) (hmp : m ≠ p) (hm : m ∈ K) (hp : p ∈ K) (hn : n < 1000000) (hi : i < cs.length) :
    Calls Try.prog 84 #[.pointer (some ⟨p, 0, none⟩), .int .i64 i, .int .u64 v] w fun e w' => e = .returned (.int .u64 (cs.getD i 0)) ∧
      MkS w0 B a c p m ce bi nx fr (cs.set i (bits .or .u64 (cs.getD i 0) v)) (xs ++ accV who 5 i 0 v (cs.getD i 0) (bits .or .u64 (cs.getD i 0) v)) (n + 1) K who false w' := by
  refine (or_x v h.arx h.port hp hn hi).mono fun e w' ⟨he, h1, h2, h3⟩ => ⟨he, h.mach.touch h3 (fun r => r.elim hmp (fun r => r.2 hm)), h1, h2, h.touch.trans (h3.mono fun _ _ hr => hr.elim .inl (fun r => .inr (.inr r)))⟩
set_option maxRecDepth 100000 in
set_option maxHeartbeats 2000000 in
theorem mark_step (h : MkS w0 B a c p m ce bi 1 fr cs xs n K who true w) (hmp : m ≠ p) (hm : m ∈ K) (hp : p ∈ K) (hn : n < 1000000) (hi : ce < cs.length) :
    Calls Try.prog 56 #[.pointer (some ⟨m, 0, none⟩), .pointer (some ⟨p, 0, none⟩)] w fun e w' => e = .returned (.bool true) ∧
      MkS w0 B a c p m ce bi 0 (bits .and .u64 (cs.getD ce 0) bi == 0) (cs.set ce (bits .or .u64 (cs.getD ce 0) bi)) (xs ++ accV who 5 ce 0 bi (cs.getD ce 0) (bits .or .u64 (cs.getD ce 0) bi)) (n + 1) K who false w' := by
  have OR := Lib.hid (fun W (h : MkS w0 B a c p m ce bi 1 fr cs xs n K who true W) => h.or bi hmp hm hp hn hi)
  have Hmp := Lib.hid hmp
  clear hmp hi hn
  generalize cs.getD ce 0 = z at *
  go_enter Try.func56, Try.ntmps56
  go_wp2_with fail
  refine h.over.mono ?_; rintro e w1 ⟨rfl, h1⟩
  go_wp2_with fail
  refine h1.open'.mono ?_; rintro e w2 ⟨rfl, h2⟩
  go_wp2_with fail
  have hS := h2.drew
  clear h h1 h2
  go_region_held3 (fun W => W.cell? ⟨m, 0, none⟩ = some (.int .i64 ce) ∧ W.cell? ⟨m, 1, none⟩ = some (.int .u64 bi))
    (with_reducible exact MkS.cells (by assumption))
    (first | (go_at_call 84; refine (OR.out _ (by assumption)).mono ?_; rintro e w4 ⟨rfl, h4⟩; have n4 := h4.freshCell; have h5 := h4.fresh Hmp.out hm (bits .and .u64 z bi == 0)))
  have n5 := h5.nextCell
  have h6 := h5.next Hmp.out hm 0
  go_wp2
  go_ret
  exact ⟨rfl, h6⟩
theorem mark_over (h : MkS w0 B a c p m ce bi 0 fr cs xs n K who o w) :
    Calls Try.prog 56 #[.pointer (some ⟨m, 0, none⟩), .pointer (some ⟨p, 0, none⟩)] w fun e w' => e = .returned (.bool true) ∧ MkS w0 B a c p m ce bi 0 fr cs xs n K who o w' := by
  go_enter Try.func56, Try.ntmps56
  go_wp2_with fail
  refine h.over.mono ?_; rintro e w1 ⟨rfl, h1⟩
  go_wp2_with fail
  refine h1.over.mono ?_; rintro e w2 ⟨rfl, h2⟩
  go_wp2
  go_ret
  exact ⟨rfl, h2⟩
end
end Go.Proofs.Ytlhigibgjggidaa
/- What a step of shade's Shade does. Condition: the arena, its port and the three machines are there, the thread is there. -/
namespace Go.Proofs.Ytlhigibgjggidaa
open Go.RowKit
/-- the three machines, the arena and the port -/
structure ShS (w0 : World) (B a c p s mk pu : Nat) (P T R t rf : Int) (ce : Nat) (bi nx : Int) (lo : Bool) (mn : Int) (mf : Bool) (tl pn : Int) (fu : Bool) (cs : List Int) (xs : List Value) (n : Nat) (K : List Nat) (who : Int) (o : Bool) (w : World) : Prop where
  shade : ShadeAt w s rf mk (some ⟨pu, 0, none⟩) nx lo
  mark : MarkAt w mk ce bi mn mf
  push : PushAt w pu P T R t rf tl pn fu
  arx : Arx w B a c cs xs n K
  port : PortAt w p a who o
  touch : Touch (fun b => b = p ∨ b = s ∨ b = mk ∨ b = pu ∨ (B ≤ b ∧ b ∉ K)) w0 w
/-- what all its steps need -/
structure ShR (P T R t : Int) (p s mk pu ce : Nat) (cs : List Int) (K : List Nat) : Prop where
  ex : exB P T R t = true
  sp : s ≠ p
  sm : s ≠ mk
  su : s ≠ pu
  mp : mk ≠ p
  mu : mk ≠ pu
  up : pu ≠ p
  hs : s ∈ K
  hm : mk ∈ K
  hu : pu ∈ K
  hp : p ∈ K
  len : cs.length = cellsN P T R
  hc : ce < cs.length
theorem ShR.set {P T R t : Int} {p s mk pu ce : Nat} {cs : List Int} {K : List Nat} (h : ShR P T R t p s mk pu ce cs K) (i : Nat) (x : Int) : ShR P T R t p s mk pu ce (cs.set i x) K :=
  ⟨h.ex, h.sp, h.sm, h.su, h.mp, h.mu, h.up, h.hs, h.hm, h.hu, h.hp, by rw [List.length_set]; exact h.len, by rw [List.length_set]; exact h.hc⟩
section
variable {w0 w w' : World} {B a c p s mk pu ce : Nat} {P T R t rf bi nx mn tl pn : Int} {lo mf fu : Bool} {cs : List Int} {xs : List Value} {n : Nat} {K : List Nat} {who : Int} {o : Bool}
theorem ShS.grew (h : ShS w0 B a c p s mk pu P T R t rf ce bi nx lo mn mf tl pn fu cs xs n K who o w) (hb : Below w.heap.size w w') : ShS w0 B a c p s mk pu P T R t rf ce bi nx lo mn mf tl pn fu cs xs n K who o w' :=
  ⟨h.shade.grew hb, h.mark.grew hb, h.push.grew hb, h.arx.grew hb, h.port.grew hb, h.touch.trans (Touch.of hb)⟩
theorem ShS.quiet (h : ShS w0 B a c p s mk pu P T R t rf ce bi nx lo mn mf tl pn fu cs xs n K who o w) (hq : Quiet w w') : ShS w0 B a c p s mk pu P T R t rf ce bi nx lo mn mf tl pn fu cs xs n K who o w' := h.grew hq.below
theorem ShS.next (h : ShS w0 B a c p s mk pu P T R t rf ce bi nx lo mn mf tl pn fu cs xs n K who o w) (hr : ShR P T R t p s mk pu ce cs K) (x : Int) : ShS w0 B a c p s mk pu P T R t rf ce bi x lo mn mf tl pn fu cs xs n K who o (w.setCell ⟨s, 3, none⟩ (.int .i64 x)) :=
  have hT : Touch (fun b => b = s) w (w.setCell ⟨s, 3, none⟩ (.int .i64 x)) := (Touch.refl (fun b => b = s) w).setCell (p := ⟨s, 3, none⟩) rfl _
  ⟨h.shade.set 3 _, h.mark.touch hT (Ne.symm hr.sm), h.push.touch hT (Ne.symm hr.su), h.arx.touch hT (fun _ e => e ▸ hr.hs), h.port.touch hT (Ne.symm hr.sp), h.touch.trans (hT.mono fun _ _ e => .inr (.inl e))⟩
theorem ShS.lost (h : ShS w0 B a c p s mk pu P T R t rf ce bi nx lo mn mf tl pn fu cs xs n K who o w) (hr : ShR P T R t p s mk pu ce cs K) (x : Bool) : ShS w0 B a c p s mk pu P T R t rf ce bi nx x mn mf tl pn fu cs xs n K who o (w.setCell ⟨s, 4, none⟩ (.bool x)) :=
  have hT : Touch (fun b => b = s) w (w.setCell ⟨s, 4, none⟩ (.bool x)) := (Touch.refl (fun b => b = s) w).setCell (p := ⟨s, 4, none⟩) rfl _
  ⟨h.shade.set 4 _, h.mark.touch hT (Ne.symm hr.sm), h.push.touch hT (Ne.symm hr.su), h.arx.touch hT (fun _ e => e ▸ hr.hs), h.port.touch hT (Ne.symm hr.sp), h.touch.trans (hT.mono fun _ _ e => .inr (.inl e))⟩
theorem ShS.nextCell (h : ShS w0 B a c p s mk pu P T R t rf ce bi nx lo mn mf tl pn fu cs xs n K who o w) : w.cell? ⟨s, 3, none⟩ = some (.int .i64 nx) ∧ w.frozen? ⟨s, 3, none⟩ = false := ⟨h.shade.val 3 rfl, h.shade.frozen 3⟩
theorem ShS.lostCell (h : ShS w0 B a c p s mk pu P T R t rf ce bi nx lo mn mf tl pn fu cs xs n K who o w) : w.cell? ⟨s, 4, none⟩ = some (.bool lo) ∧ w.frozen? ⟨s, 4, none⟩ = false := ⟨h.shade.val 4 rfl, h.shade.frozen 4⟩
theorem ShS.ptrs (h : ShS w0 B a c p s mk pu P T R t rf ce bi nx lo mn mf tl pn fu cs xs n K who o w) : w.cell? ⟨s, 1, none⟩ = some (.pointer (some ⟨mk, 0, none⟩)) ∧ w.cell? ⟨s, 2, none⟩ = some (.pointer (some ⟨pu, 0, none⟩)) := ⟨h.shade.val 1 rfl, h.shade.val 2 rfl⟩
theorem ShS.over (h : ShS w0 B a c p s mk pu P T R t rf ce bi nx lo mn mf tl pn fu cs xs n K who o w) :
    Calls Try.prog 32 #[.pointer (some ⟨s, 0, none⟩)] w fun e w' => e = .returned (.bool (nx == 0)) ∧ ShS w0 B a c p s mk pu P T R t rf ce bi nx lo mn mf tl pn fu cs xs n K who o w' :=
  (over_shade h.shade).mono fun _ _ ⟨he, hq⟩ => ⟨he, h.quiet hq⟩
theorem ShS.open' (h : ShS w0 B a c p s mk pu P T R t rf ce bi nx lo mn mf tl pn fu cs xs n K who o w) :
    Calls Try.prog 61 #[.pointer (some ⟨p, 0, none⟩)] w fun e w' => e = .returned (.bool o) ∧ ShS w0 B a c p s mk pu P T R t rf ce bi nx lo mn mf tl pn fu cs xs n K who o w' :=
  (open_at p a who o w h.port).mono fun _ _ ⟨he, hq⟩ => ⟨he, h.quiet hq⟩
theorem ShS.grant (h : ShS w0 B a c p s mk pu P T R t rf ce bi nx lo mn mf tl pn fu cs xs n K who o w) (hr : ShR P T R t p s mk pu ce cs K) :
    Calls Try.prog 24 #[.pointer (some ⟨p, 0, none⟩)] w fun e w' => (∃ v, e = .returned v) ∧ ShS w0 B a c p s mk pu P T R t rf ce bi nx lo mn mf tl pn fu cs xs n K who true w' :=
  (grant_at p a who o w h.port).mono fun _ _ ⟨he, hP, hT⟩ => ⟨he, h.shade.touch hT hr.sp, h.mark.touch hT hr.mp, h.push.touch hT hr.up, h.arx.touch hT (fun _ e => e ▸ hr.hp), hP, h.touch.trans (hT.mono fun _ _ e => .inl e)⟩
theorem ShS.freshM (h : ShS w0 B a c p s mk pu P T R t rf ce bi nx lo mn mf tl pn fu cs xs n K who o w) :
    Calls Try.prog 58 #[.pointer (some ⟨mk, 0, none⟩)] w fun e w' => e = .returned (.bool mf) ∧ ShS w0 B a c p s mk pu P T R t rf ce bi nx lo mn mf tl pn fu cs xs n K who o w' :=
  (fresh_mark h.mark).mono fun _ _ ⟨he, hq⟩ => ⟨he, h.quiet hq⟩
theorem ShS.fullP (h : ShS w0 B a c p s mk pu P T R t rf ce bi nx lo mn mf tl pn fu cs xs n K who o w) :
    Calls Try.prog 63 #[.pointer (some ⟨pu, 0, none⟩)] w fun e w' => e = .returned (.bool fu) ∧ ShS w0 B a c p s mk pu P T R t rf ce bi nx lo mn mf tl pn fu cs xs n K who o w' :=
  (full_push h.push).mono fun _ _ ⟨he, hq⟩ => ⟨he, h.quiet hq⟩
theorem ShS.markStep (h : ShS w0 B a c p s mk pu P T R t rf ce bi nx lo 1 mf tl pn fu cs xs n K who true w) (hr : ShR P T R t p s mk pu ce cs K) (hn : n < 1000000) :
    Calls Try.prog 56 #[.pointer (some ⟨mk, 0, none⟩), .pointer (some ⟨p, 0, none⟩)] w fun e w' => e = .returned (.bool true) ∧ ShS w0 B a c p s mk pu P T R t rf ce bi nx lo 0 (bits .and .u64 (cs.getD ce 0) bi == 0) tl pn fu (cs.set ce (bits .or .u64 (cs.getD ce 0) bi)) (xs ++ accV who 5 ce 0 bi (cs.getD ce 0) (bits .or .u64 (cs.getD ce 0) bi)) (n + 1) K who false w' := by
  refine (mark_step (MkS.start h.mark h.arx h.port) hr.mp hr.hm hr.hp hn hr.hc).mono fun e w' ⟨he, hk⟩ => ⟨he, h.shade.touch hk.touch ?_, hk.mach, h.push.touch hk.touch ?_, hk.arx, hk.port, h.touch.trans (hk.touch.mono fun b _ e => ?_)⟩
  · rintro (e | e | ⟨_, e⟩)
    · exact hr.sp e
    · exact hr.sm e
    · exact e hr.hs
  · rintro (e | e | ⟨_, e⟩)
    · exact hr.up e
    · exact hr.mu e.symm
    · exact e hr.hu
  · rcases e with e | e | e
    · exact .inl e
    · exact .inr (.inr (.inl e))
    · exact .inr (.inr (.inr (.inr e)))
/-- what a step of the push leaves -/
theorem ShS.pushed {tl' pn' : Int} {fu' o' : Bool} {cs' : List Int} {xs' : List Value} {n' : Nat} (h : ShS w0 B a c p s mk pu P T R t rf ce bi nx lo mn mf tl pn fu cs xs n K who o w) (hr : ShR P T R t p s mk pu ce cs K) (hk : PuS w B a c p pu P T R t rf tl' pn' fu' cs' xs' n' K who o' w') : ShS w0 B a c p s mk pu P T R t rf ce bi nx lo mn mf tl' pn' fu' cs' xs' n' K who o' w' := by
  refine ⟨h.shade.touch hk.touch ?_, h.mark.touch hk.touch ?_, hk.mach, hk.arx, hk.port, h.touch.trans (hk.touch.mono fun b _ e => ?_)⟩
  · rintro (e | e | ⟨_, e⟩)
    · exact hr.sp e
    · exact hr.su e
    · exact e hr.hs
  · rintro (e | e | ⟨_, e⟩)
    · exact hr.mp e
    · exact hr.mu e
    · exact e hr.hm
  · rcases e with e | e | e
    · exact .inl e
    · exact .inr (.inr (.inr (.inl e)))
    · exact .inr (.inr (.inr (.inr e)))
theorem ShS.store {i : Nat} (x : Int) (h : ShS w0 B a c p s mk pu P T R t rf ce bi nx lo mn mf tl pn fu cs xs n K who true w) (hr : ShR P T R t p s mk pu ce cs K) (hn : n < 1000000) (hi : i < cs.length) :
    Calls Try.prog 64 #[.pointer (some ⟨p, 0, none⟩), .int .i64 i, .int .u64 x] w fun e w' => (∃ u, e = .returned u) ∧ ShS w0 B a c p s mk pu P T R t rf ce bi nx lo mn mf tl pn fu (cs.set i x) (xs ++ accV who 2 i 0 x (cs.getD i 0) x) (n + 1) K who false w' := by
  refine (store_x x h.arx h.port hr.hp hn hi).mono fun e w' ⟨he, h1, h2, h3⟩ => ⟨he, h.shade.touch h3 ?_, h.mark.touch h3 ?_, h.push.touch h3 ?_, h1, h2, h.touch.trans (h3.mono fun b _ e => ?_)⟩
  · exact fun r => r.elim hr.sp (fun r => r.2 hr.hs)
  · exact fun r => r.elim hr.mp (fun r => r.2 hr.hm)
  · exact fun r => r.elim hr.up (fun r => r.2 hr.hu)
  · exact e.elim .inl (fun e => .inr (.inr (.inr (.inr e))))

set_option maxRecDepth 100000 in
set_option maxHeartbeats 2000000 in
theorem shade_step1_fresh (h : ShS w0 B a c p s mk pu P T R t rf ce bi 1 lo 1 mf tl pn fu cs xs n K who true w) (hr : ShR P T R t p s mk pu ce cs K) (hn : n < 1000000) (hf : (bits .and .u64 (cs.getD ce 0) bi == 0) = true) :
    Calls Try.prog 25 #[.pointer (some ⟨s, 0, none⟩), .pointer (some ⟨p, 0, none⟩)] w fun e w' => e = .returned (.bool false) ∧ ShS w0 B a c p s mk pu P T R t rf ce bi 2 lo 0 true tl pn fu (cs.set ce (bits .or .u64 (cs.getD ce 0) bi)) (xs ++ accV who 5 ce 0 bi (cs.getD ce 0) (bits .or .u64 (cs.getD ce 0) bi)) (n + 1) K who false w' := by
  have MS := Lib.hid (fun W (h : ShS w0 B a c p s mk pu P T R t rf ce bi 1 lo 1 mf tl pn fu cs xs n K who true W) => h.markStep hr hn)
  rw [hf] at MS
  have HR := hr.set ce (bits .or .u64 (cs.getD ce 0) bi)
  clear hf hn
  generalize bits .or .u64 (cs.getD ce 0) bi = y at *
  generalize cs.getD ce 0 = z at *
  go_enter Try.func25, Try.ntmps25
  go_wp2_with fail
  refine h.over.mono ?_; rintro e w1 ⟨rfl, h1⟩
  go_wp2_with fail
  refine h1.open'.mono ?_; rintro e w2 ⟨rfl, h2⟩
  have n2 := h2.nextCell
  have p2 := h2.ptrs
  go_wp2_with fail
  refine (MS.out _ h2).mono ?_; rintro e w3 ⟨rfl, h3⟩
  have n3 := h3.nextCell
  have h4 := h3.next HR 0
  have p4 := h4.ptrs
  go_wp2_with fail
  refine h4.freshM.mono ?_; rintro e w5 ⟨rfl, h5⟩
  have n5 := h5.nextCell
  have h5 := h5.next HR 2
  go_wp2_with fail
  refine h5.over.mono ?_; rintro e w6 ⟨rfl, h6⟩
  go_wp2
  go_ret
  exact ⟨rfl, h6⟩

set_option maxRecDepth 100000 in
set_option maxHeartbeats 2000000 in
theorem shade_step1_seen (h : ShS w0 B a c p s mk pu P T R t rf ce bi 1 lo 1 mf tl pn fu cs xs n K who true w) (hr : ShR P T R t p s mk pu ce cs K) (hn : n < 1000000) (hf : (bits .and .u64 (cs.getD ce 0) bi == 0) = false) :
    Calls Try.prog 25 #[.pointer (some ⟨s, 0, none⟩), .pointer (some ⟨p, 0, none⟩)] w fun e w' => e = .returned (.bool true) ∧ ShS w0 B a c p s mk pu P T R t rf ce bi 0 lo 0 false tl pn fu (cs.set ce (bits .or .u64 (cs.getD ce 0) bi)) (xs ++ accV who 5 ce 0 bi (cs.getD ce 0) (bits .or .u64 (cs.getD ce 0) bi)) (n + 1) K who false w' := by
  have MS := Lib.hid (fun W (h : ShS w0 B a c p s mk pu P T R t rf ce bi 1 lo 1 mf tl pn fu cs xs n K who true W) => h.markStep hr hn)
  rw [hf] at MS
  have HR := hr.set ce (bits .or .u64 (cs.getD ce 0) bi)
  clear hf hn
  generalize bits .or .u64 (cs.getD ce 0) bi = y at *
  generalize cs.getD ce 0 = z at *
  go_enter Try.func25, Try.ntmps25
  go_wp2_with fail
  refine h.over.mono ?_; rintro e w1 ⟨rfl, h1⟩
  go_wp2_with fail
  refine h1.open'.mono ?_; rintro e w2 ⟨rfl, h2⟩
  have n2 := h2.nextCell
  have p2 := h2.ptrs
  go_wp2_with fail
  refine (MS.out _ h2).mono ?_; rintro e w3 ⟨rfl, h3⟩
  have n3 := h3.nextCell
  have h4 := h3.next HR 0
  have p4 := h4.ptrs
  go_wp2_with fail
  refine h4.freshM.mono ?_; rintro e w5 ⟨rfl, h5⟩
  skip
  go_wp2_with fail
  refine h5.over.mono ?_; rintro e w6 ⟨rfl, h6⟩
  go_wp2
  go_ret
  exact ⟨rfl, h6⟩

set_option maxRecDepth 100000 in
set_option maxHeartbeats 2000000 in
theorem shade_step2_on {tl' pn' : Int} {cs' : List Int} {xs' : List Value} {n' : Nat} (h : ShS w0 B a c p s mk pu P T R t rf ce bi 2 lo mn mf tl pn fu cs xs n K who true w) (hr : ShR P T R t p s mk pu ce cs K) (_hr' : ShR P T R t p s mk pu ce cs' K)
    (hst : ∀ W, PuS W B a c p pu P T R t rf tl pn fu cs xs n K who true W → Calls Try.prog 62 #[.pointer (some ⟨pu, 0, none⟩), .pointer (some ⟨p, 0, none⟩)] W fun e w' => e = .returned (.bool false) ∧ PuS W B a c p pu P T R t rf tl' pn' false cs' xs' n' K who false w') :
    Calls Try.prog 25 #[.pointer (some ⟨s, 0, none⟩), .pointer (some ⟨p, 0, none⟩)] w fun e w' => e = .returned (.bool false) ∧ ShS w0 B a c p s mk pu P T R t rf ce bi 2 lo mn mf tl' pn' false cs' xs' n' K who false w' := by
  have ST := Lib.hid (fun W (h : ShS w0 B a c p s mk pu P T R t rf ce bi 2 lo mn mf tl pn fu cs xs n K who true W) => (hst W (PuS.start h.push h.arx h.port)).mono (R' := fun e w' => e = .returned (.bool false) ∧ ShS w0 B a c p s mk pu P T R t rf ce bi 2 lo mn mf tl' pn' false cs' xs' n' K who false w') fun e w' ⟨he, hk⟩ => ⟨he, h.pushed hr hk⟩)
  clear hst
  go_enter Try.func25, Try.ntmps25
  go_wp2_with fail
  refine h.over.mono ?_; rintro e w1 ⟨rfl, h1⟩
  go_wp2_with fail
  refine h1.open'.mono ?_; rintro e w2 ⟨rfl, h2⟩
  have n2 := h2.nextCell
  have p2 := h2.ptrs
  go_wp2_with fail
  refine (ST.out _ h2).mono ?_; rintro e w3 ⟨rfl, h3⟩
  have n3 := h3.nextCell
  have p3 := h3.ptrs
  have h4 := h3
  go_wp2_with fail
  refine h4.fullP.mono ?_; rintro e w5 ⟨rfl, h5⟩
  skip
  go_wp2_with fail
  refine h5.over.mono ?_; rintro e w6 ⟨rfl, h6⟩
  go_wp2
  go_ret
  exact ⟨rfl, h6⟩

set_option maxRecDepth 100000 in
set_option maxHeartbeats 2000000 in
theorem shade_step2_over {tl' pn' : Int} {cs' : List Int} {xs' : List Value} {n' : Nat} (h : ShS w0 B a c p s mk pu P T R t rf ce bi 2 lo mn mf tl pn fu cs xs n K who true w) (hr : ShR P T R t p s mk pu ce cs K) (hr' : ShR P T R t p s mk pu ce cs' K)
    (hst : ∀ W, PuS W B a c p pu P T R t rf tl pn fu cs xs n K who true W → Calls Try.prog 62 #[.pointer (some ⟨pu, 0, none⟩), .pointer (some ⟨p, 0, none⟩)] W fun e w' => e = .returned (.bool true) ∧ PuS W B a c p pu P T R t rf tl' pn' false cs' xs' n' K who false w') :
    Calls Try.prog 25 #[.pointer (some ⟨s, 0, none⟩), .pointer (some ⟨p, 0, none⟩)] w fun e w' => e = .returned (.bool true) ∧ ShS w0 B a c p s mk pu P T R t rf ce bi 0 lo mn mf tl' pn' false cs' xs' n' K who false w' := by
  have ST := Lib.hid (fun W (h : ShS w0 B a c p s mk pu P T R t rf ce bi 2 lo mn mf tl pn fu cs xs n K who true W) => (hst W (PuS.start h.push h.arx h.port)).mono (R' := fun e w' => e = .returned (.bool true) ∧ ShS w0 B a c p s mk pu P T R t rf ce bi 2 lo mn mf tl' pn' false cs' xs' n' K who false w') fun e w' ⟨he, hk⟩ => ⟨he, h.pushed hr hk⟩)
  clear hst
  go_enter Try.func25, Try.ntmps25
  go_wp2_with fail
  refine h.over.mono ?_; rintro e w1 ⟨rfl, h1⟩
  go_wp2_with fail
  refine h1.open'.mono ?_; rintro e w2 ⟨rfl, h2⟩
  have n2 := h2.nextCell
  have p2 := h2.ptrs
  go_wp2_with fail
  refine (ST.out _ h2).mono ?_; rintro e w3 ⟨rfl, h3⟩
  have n3 := h3.nextCell
  have p3 := h3.ptrs
  have h4 := h3.next hr' 0
  have p4 := h4.ptrs
  go_wp2_with fail
  refine h4.fullP.mono ?_; rintro e w5 ⟨rfl, h5⟩
  skip
  go_wp2_with fail
  refine h5.over.mono ?_; rintro e w6 ⟨rfl, h6⟩
  go_wp2
  go_ret
  exact ⟨rfl, h6⟩

set_option maxRecDepth 100000 in
set_option maxHeartbeats 2000000 in
theorem shade_step2_full {tl' pn' : Int} {cs' : List Int} {xs' : List Value} {n' : Nat} (h : ShS w0 B a c p s mk pu P T R t rf ce bi 2 lo mn mf tl pn fu cs xs n K who true w) (hr : ShR P T R t p s mk pu ce cs K) (hr' : ShR P T R t p s mk pu ce cs' K)
    (hst : ∀ W, PuS W B a c p pu P T R t rf tl pn fu cs xs n K who true W → Calls Try.prog 62 #[.pointer (some ⟨pu, 0, none⟩), .pointer (some ⟨p, 0, none⟩)] W fun e w' => e = .returned (.bool true) ∧ PuS W B a c p pu P T R t rf tl' pn' true cs' xs' n' K who false w') :
    Calls Try.prog 25 #[.pointer (some ⟨s, 0, none⟩), .pointer (some ⟨p, 0, none⟩)] w fun e w' => e = .returned (.bool false) ∧ ShS w0 B a c p s mk pu P T R t rf ce bi 3 lo mn mf tl' pn' true cs' xs' n' K who false w' := by
  have ST := Lib.hid (fun W (h : ShS w0 B a c p s mk pu P T R t rf ce bi 2 lo mn mf tl pn fu cs xs n K who true W) => (hst W (PuS.start h.push h.arx h.port)).mono (R' := fun e w' => e = .returned (.bool true) ∧ ShS w0 B a c p s mk pu P T R t rf ce bi 2 lo mn mf tl' pn' true cs' xs' n' K who false w') fun e w' ⟨he, hk⟩ => ⟨he, h.pushed hr hk⟩)
  clear hst
  go_enter Try.func25, Try.ntmps25
  go_wp2_with fail
  refine h.over.mono ?_; rintro e w1 ⟨rfl, h1⟩
  go_wp2_with fail
  refine h1.open'.mono ?_; rintro e w2 ⟨rfl, h2⟩
  have n2 := h2.nextCell
  have p2 := h2.ptrs
  go_wp2_with fail
  refine (ST.out _ h2).mono ?_; rintro e w3 ⟨rfl, h3⟩
  have n3 := h3.nextCell
  have p3 := h3.ptrs
  have h4 := h3.next hr' 0
  have p4 := h4.ptrs
  go_wp2_with fail
  refine h4.fullP.mono ?_; rintro e w5 ⟨rfl, h5⟩
  have n5 := h5.nextCell
  have h5 := h5.next hr' 3
  go_wp2_with fail
  refine h5.over.mono ?_; rintro e w6 ⟨rfl, h6⟩
  go_wp2
  go_ret
  exact ⟨rfl, h6⟩

set_option maxRecDepth 100000 in
set_option maxHeartbeats 2000000 in
theorem shade_step3 (h : ShS w0 B a c p s mk pu P T R t rf ce bi 3 lo mn mf tl pn fu cs xs n K who true w) (hr : ShR P T R t p s mk pu ce cs K) (hn : n < 1000000) (h4 : 4 < cs.length) :
    Calls Try.prog 25 #[.pointer (some ⟨s, 0, none⟩), .pointer (some ⟨p, 0, none⟩)] w fun e w' => e = .returned (.bool true) ∧ ShS w0 B a c p s mk pu P T R t rf ce bi 0 true mn mf tl pn fu (cs.set 4 1) (xs ++ accV who 2 4 0 1 (cs.getD 4 0) 1) (n + 1) K who false w' := by
  have ST := Lib.hid (fun W (h : ShS w0 B a c p s mk pu P T R t rf ce bi 3 lo mn mf tl pn fu cs xs n K who true W) => h.store (i := 4) 1 hr hn h4)
  have HR := hr.set 4 1
  clear hn h4
  generalize cs.getD 4 0 = z at *
  go_enter Try.func25, Try.ntmps25
  go_wp2_with fail
  refine h.over.mono ?_; rintro e w1 ⟨rfl, h1⟩
  go_wp2_with fail
  refine h1.open'.mono ?_; rintro e w2 ⟨rfl, h2⟩
  have n2 := h2.nextCell
  have p2 := h2.ptrs
  go_wp2_with fail
  refine (ST.out _ h2).mono ?_; rintro e w3 ⟨⟨u3, rfl⟩, h3⟩
  have n3 := h3.lostCell
  have h4 := h3.lost HR true
  have n4 := h4.nextCell
  have h5 := h4.next HR 0
  go_wp2_with fail
  refine h5.over.mono ?_; rintro e w6 ⟨rfl, h6⟩
  go_wp2
  go_ret
  exact ⟨rfl, h6⟩
set_option maxRecDepth 100000 in
set_option maxHeartbeats 2000000 in
theorem shade_over (h : ShS w0 B a c p s mk pu P T R t rf ce bi 0 lo mn mf tl pn fu cs xs n K who o w) :
    Calls Try.prog 25 #[.pointer (some ⟨s, 0, none⟩), .pointer (some ⟨p, 0, none⟩)] w fun e w' => e = .returned (.bool true) ∧ ShS w0 B a c p s mk pu P T R t rf ce bi 0 lo mn mf tl pn fu cs xs n K who o w' := by
  go_enter Try.func25, Try.ntmps25
  go_wp2_with fail
  refine h.over.mono ?_; rintro e w1 ⟨rfl, h1⟩
  go_wp2_with fail
  refine h1.over.mono ?_; rintro e w2 ⟨rfl, h2⟩
  go_wp2
  go_ret
  exact ⟨rfl, h2⟩
end
end Go.Proofs.Ytlhigibgjggidaa
