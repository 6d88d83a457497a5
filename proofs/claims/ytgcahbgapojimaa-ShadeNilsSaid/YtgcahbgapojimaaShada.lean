/- What the small functions of package shade return: place, NewMark, NewShade, Over, Fresh, Lost, Held, Marked. No condition but that the machine's blocks are there. -/
import Derived.Test.YtgcahbgapojimaaRinged
import Derived.Test.YtgcahbgapojimaaLayd
namespace Go.Proofs.Ytgcahbgapojimaa
open Go.RowKit
def MarkAt (w : World) (m : Nat) (cell bit nx : Int) (fr : Bool) : Prop := Blk w m #[.int .i64 cell, .int .u64 bit, .int .i64 nx, .bool fr] 166
def ShadeAt (w : World) (s : Nat) (ref : Int) (mk : Nat) (pu : Option Addr) (nx : Int) (lost : Bool) : Prop := Blk w s #[.int .u64 ref, .pointer (some ⟨mk, 0, none⟩), .pointer pu, .int .i64 nx, .bool lost] 164
/-- the page, the word, the cell and the bit of a reference's mark -/
def pgI (P T R x : Int) : Int := (x - baseI P T R) / 64
def wdI (P T R x : Int) : Int := (x - baseI P T R) % 64
def cellI (P T R x : Int) : Int := rowI P T R 2 (pgI P T R x)
def bitI (P T R x : Int) : Int := IntKind.u64.wrap (2 ^ (wdI P T R x).toNat)
theorem ref_bd {P T R x : Int} (h : refB P T R x = true) : Right P T R ∧ x < 4096 ∧ baseI P T R ≤ x ∧ x < baseI P T R + 64 * P := by
  unfold refB heapB inB at h
  rw [Bool.and_eq_true, Bool.and_eq_true] at h
  have h1 := of_decide_eq_true h.1
  have h2 := of_decide_eq_true h.2.2
  exact ⟨right_of h.2.1, h1, h2.1, by omega⟩
theorem place_ref {P T R x : Int} (h : refB P T R x = true) : placeI P T R x = (pgI P T R x, wdI P T R x) := by
  unfold placeI
  unfold refB at h
  rw [Bool.and_eq_true] at h
  rw [if_pos h.2]
  rfl
set_option maxHeartbeats 1000000 in
theorem splace_no (P T R x : Int) (w : World) (hx : U64 x) (h : refB P T R x = false) :
    Calls Try.prog 98 #[.agg #[.int .i64 P, .int .i64 T, .int .i64 R], .int .u64 x] w fun e w' => e = .returned (.tuple #[.int .i64 0, .int .u64 0, .bool false]) ∧ Below w.heap.size w w' := by
  have H := Lib.hid (fun W => ref_any P T R x W hx)
  rw [h] at H
  clear h hx
  go_enter Try.func98, Try.ntmps98
  have c0 := (planNew w P T R 49)
  go_wp2_with fail
  refine (H.out _).mono ?_; rintro e w1 ⟨rfl, hb1⟩
  have c1 := planKeep c0 hb1
  go_wp2
  go_ret3
  exact ⟨rfl, c1.2⟩
set_option maxHeartbeats 2000000 in
theorem splace_yes (P T R x : Int) (w : World) (hx : U64 x) (h : refB P T R x = true) :
    Calls Try.prog 98 #[.agg #[.int .i64 P, .int .i64 T, .int .i64 R], .int .u64 x] w fun e w' => e = .returned (.tuple #[.int .i64 (cellI P T R x), .int .u64 (bitI P T R x), .bool true]) ∧ Below w.heap.size w w' := by
  have H := Lib.hid (fun W => ref_any P T R x W hx)
  rw [h] at H
  have PL := Lib.hid (fun W => place_any P T R x W)
  rw [place_ref h] at PL
  have MK := Lib.hid (fun W => mark_any P T R (pgI P T R x) W)
  have hb := ref_bd h
  have hwd : 0 ≤ wdI P T R x ∧ wdI P T R x < 64 := by unfold wdI; omega
  have hxw : IntKind.i64.wrap x = x := IntWalk.i64_in _ (by have := hx.1; omega)
  have hxw2 : wrap64 x = x := IntWalk.wrap64_in _ (by have := hx.1; omega)
  unfold cellI bitI
  generalize wdI P T R x = wd at *
  generalize pgI P T R x = pg at *
  generalize rowI P T R 2 pg = ce at *
  obtain ⟨wd0, wd1⟩ := hwd
  clear hb h hx
  go_enter Try.func98, Try.ntmps98
  have c0 := (planNew w P T R 49)
  go_wp2_with fail
  refine (H.out _).mono ?_; rintro e w1 ⟨rfl, hb1⟩
  have c1 := planKeep c0 hb1
  obtain ⟨d10, d11, d12⟩ := c1.1
  go_wp2_with fail
  refine (PL.out _).mono ?_; rintro e w2 ⟨rfl, hb2⟩
  have c2 := planKeep c1 hb2
  obtain ⟨d20, d21, d22⟩ := c2.1
  go_wp2_with fail
  go_region_held3 (fun w' => (w'.cell? ⟨w.heap.size, 0, none⟩ = some (.int .i64 P) ∧ w'.cell? ⟨w.heap.size, 1, none⟩ = some (.int .i64 T) ∧ w'.cell? ⟨w.heap.size, 2, none⟩ = some (.int .i64 R)) ∧ Below w.heap.size w w') (first | exact ⟨c2.1, c2.2.drew⟩ | (with_reducible exact planKeep (by assumption) hbk)) (first | (go_at_call 112; refine (MK.out _).mono ?_; rintro e w9 ⟨rfl, hbk⟩))
  have c9 := planHeld (by assumption)
  go_wp2
  go_ret3
  exact ⟨rfl, c9.2⟩

def NewMarkPost (cell bit nx : Int) (w : World) (e : Ending) (w' : World) : Prop :=
  ∃ m, e = .returned (.tuple #[.pointer (some ⟨m, 0, none⟩), .int .i64 0]) ∧ MarkAt w' m cell bit nx false ∧ w.heap.size ≤ m ∧ Below w.heap.size w w'
theorem cells_pos {P T R : Int} (h : Right P T R) : (baseI P T R + 64 * P == 0) = false := by
  have hb := base_bd h
  have := h.1
  exact beq_eq_false_iff_ne.2 (by omega)

set_option maxHeartbeats 1000000 in
theorem newmark_arg (P T R x : Int) (w : World) (h : rightB P T R = false) :
    Calls Try.prog 52 #[.agg #[.int .i64 P, .int .i64 T, .int .i64 R], .int .u64 x] w fun e w' => e = .returned (.tuple #[.pointer none, .int .i64 1]) ∧ Below w.heap.size w w' := by
  have C := Lib.hid (fun W => cells_no P T R W h)
  clear h
  go_enter Try.func52, Try.ntmps52
  have c0 := (planNew w P T R 49)
  go_wp2_with fail
  refine (C.out _).mono ?_; rintro e w1 ⟨rfl, hb1⟩
  have c1 := planKeep c0 hb1
  obtain ⟨d10, d11, d12⟩ := c1.1
  go_wp2
  go_ret2
  exact ⟨rfl, c1.2⟩

set_option maxHeartbeats 1000000 in
theorem newmark_zero (P T R x : Int) (w : World) (hr : Right P T R) (hx : x = 0) :
    Calls Try.prog 52 #[.agg #[.int .i64 P, .int .i64 T, .int .i64 R], .int .u64 x] w (NewMarkPost 0 0 0 w) := by
  subst hx
  have C := Lib.hid (fun W => cells_yes P T R W hr)
  have hc := cells_pos hr
  generalize baseI P T R + 64 * P = cc at *
  go_enter Try.func52, Try.ntmps52
  have c0 := (planNew w P T R 49)
  go_wp2_with fail
  refine (C.out _).mono ?_; rintro e w1 ⟨rfl, hb1⟩
  have c1 := planKeep c0 hb1
  obtain ⟨d10, d11, d12⟩ := c1.1
  go_wp2
  go_ret2
  exact ⟨_, rfl, Blk.new' (by simp), Nat.le_trans c1.2.size (Nat.le_refl _), c1.2.trans ((Below.refl _ _).alloc c1.2.size _)⟩

set_option maxHeartbeats 1000000 in
theorem newmark_addr (P T R x : Int) (w : World) (hr : Right P T R) (hu : U64 x) (hx : x ≠ 0) (h : refB P T R x = false) :
    Calls Try.prog 52 #[.agg #[.int .i64 P, .int .i64 T, .int .i64 R], .int .u64 x] w fun e w' => e = .returned (.tuple #[.pointer none, .int .i64 5]) ∧ Below w.heap.size w w' := by
  have C := Lib.hid (fun W => cells_yes P T R W hr)
  have hc := cells_pos hr
  generalize baseI P T R + 64 * P = cc at *
  have hx' : (x == 0) = false := by simpa using hx
  have PL := Lib.hid (fun W => splace_no P T R x W hu h)
  clear h hu hx hr
  go_enter Try.func52, Try.ntmps52
  have c0 := (planNew w P T R 49)
  go_wp2_with fail
  refine (C.out _).mono ?_; rintro e w1 ⟨rfl, hb1⟩
  have c1 := planKeep c0 hb1
  obtain ⟨d10, d11, d12⟩ := c1.1
  go_wp2_with fail
  refine (PL.out _).mono ?_; rintro e w2 ⟨rfl, hb2⟩
  have c2 := planKeep c1 hb2
  go_wp2
  go_ret2
  exact ⟨rfl, c2.2⟩

set_option maxHeartbeats 1000000 in
theorem newmark_yes (P T R x : Int) (w : World) (hu : U64 x) (hx : x ≠ 0) (h : refB P T R x = true) :
    Calls Try.prog 52 #[.agg #[.int .i64 P, .int .i64 T, .int .i64 R], .int .u64 x] w (NewMarkPost (cellI P T R x) (bitI P T R x) 1 w) := by
  have hr := (ref_bd h).1
  have C := Lib.hid (fun W => cells_yes P T R W hr)
  have hc := cells_pos hr
  generalize baseI P T R + 64 * P = cc at *
  have hx' : (x == 0) = false := by simpa using hx
  have PL := Lib.hid (fun W => splace_yes P T R x W hu h)
  clear h hu hx hr
  go_enter Try.func52, Try.ntmps52
  have c0 := (planNew w P T R 49)
  go_wp2_with fail
  refine (C.out _).mono ?_; rintro e w1 ⟨rfl, hb1⟩
  have c1 := planKeep c0 hb1
  obtain ⟨d10, d11, d12⟩ := c1.1
  go_wp2_with fail
  refine (PL.out _).mono ?_; rintro e w2 ⟨rfl, hb2⟩
  have c2 := planKeep c1 hb2
  go_wp2
  go_ret2
  exact ⟨_, rfl, Blk.new' (by simp), Nat.le_trans c2.2.size (Nat.le_refl _), c2.2.trans ((Below.refl _ _).alloc c2.2.size _)⟩

/-- what NewShade makes of a reference -/
def NewShadePost (P T R t x : Int) (w : World) (e : Ending) (w' : World) : Prop :=
  ∃ s mk pu, e = .returned (.tuple #[.pointer (some ⟨s, 0, none⟩), .int .i64 0]) ∧ ShadeAt w' s x mk (some ⟨pu, 0, none⟩) 1 false ∧ MarkAt w' mk (cellI P T R x) (bitI P T R x) 1 false ∧ PushAt w' pu P T R t x 0 1 false ∧ w.heap.size ≤ mk ∧ mk < pu ∧ pu < s ∧ Below w.heap.size w w'
def NewShadeZero (w : World) (e : Ending) (w' : World) : Prop :=
  ∃ s mk, e = .returned (.tuple #[.pointer (some ⟨s, 0, none⟩), .int .i64 0]) ∧ ShadeAt w' s 0 mk none 0 false ∧ MarkAt w' mk 0 0 0 false ∧ w.heap.size ≤ mk ∧ mk < s ∧ Below w.heap.size w w'
theorem head_neg {P T R t : Int} (h : exB P T R t = false) : decide (ownI P T R t 3 < 0) = true := by
  have := own_ge P T R t 3 (by decide)
  rw [h] at this
  have := of_decide_eq_false this
  exact decide_eq_true (by omega)
theorem head_not {P T R t : Int} (h : exB P T R t = true) : decide (ownI P T R t 3 < 0) = false := by
  have := own_ge P T R t 3 (by decide)
  rw [h] at this
  have := of_decide_eq_true this
  exact decide_eq_false (by omega)

set_option maxHeartbeats 1000000 in
theorem newshade_arg (P T R t x : Int) (w : World) (h : exB P T R t = false) :
    Calls Try.prog 49 #[.agg #[.int .i64 P, .int .i64 T, .int .i64 R], .int .i64 t, .int .u64 x] w fun e w' => e = .returned (.tuple #[.pointer none, .int .i64 1]) ∧ Below w.heap.size w w' := by
  have H := Lib.hid (fun W => head_any P T R t W)
  have hh := head_neg h
  generalize ownI P T R t 3 = hd at *
  clear h
  go_enter Try.func49, Try.ntmps49
  have c0 := (planNew w P T R 49)
  go_wp2_with fail
  refine (H.out _).mono ?_; rintro e w1 ⟨rfl, hb1⟩
  have c1 := planKeep c0 hb1
  obtain ⟨d10, d11, d12⟩ := c1.1
  go_wp2
  go_ret2
  exact ⟨rfl, c1.2⟩

set_option maxHeartbeats 1000000 in
theorem newshade_addr (P T R t x : Int) (w : World) (h : exB P T R t = true) (hu : U64 x) (hx : x ≠ 0) (hf : refB P T R x = false) :
    Calls Try.prog 49 #[.agg #[.int .i64 P, .int .i64 T, .int .i64 R], .int .i64 t, .int .u64 x] w fun e w' => e = .returned (.tuple #[.pointer none, .int .i64 5]) ∧ Below w.heap.size w w' := by
  have H := Lib.hid (fun W => head_any P T R t W)
  have hr : Right P T R := by unfold exB at h; rw [Bool.and_eq_true] at h; exact right_of h.1
  have NM := Lib.hid (fun W => newmark_addr P T R x W hr hu hx hf)
  have hh := head_not h
  generalize ownI P T R t 3 = hd at *
  clear h hu hx hf hr
  go_enter Try.func49, Try.ntmps49
  have c0 := (planNew w P T R 49)
  go_wp2_with fail
  refine (H.out _).mono ?_; rintro e w1 ⟨rfl, hb1⟩
  have c1 := planKeep c0 hb1
  obtain ⟨d10, d11, d12⟩ := c1.1
  go_wp2_with fail
  refine (NM.out _).mono ?_; rintro e w2 ⟨rfl, hb2⟩
  have c2 := planKeep c1 hb2
  go_wp2
  go_ret2
  exact ⟨rfl, c2.2⟩

set_option maxHeartbeats 1000000 in
theorem newshade_zero (P T R t x : Int) (w : World) (h : exB P T R t = true) (hx : x = 0) :
    Calls Try.prog 49 #[.agg #[.int .i64 P, .int .i64 T, .int .i64 R], .int .i64 t, .int .u64 x] w (NewShadeZero w) := by
  have H := Lib.hid (fun W => head_any P T R t W)
  subst hx
  have hr : Right P T R := by unfold exB at h; rw [Bool.and_eq_true] at h; exact right_of h.1
  have NM := Lib.hid (fun W => newmark_zero P T R 0 W hr rfl)
  have hh := head_not h
  generalize ownI P T R t 3 = hd at *
  clear h hr
  go_enter Try.func49, Try.ntmps49
  have c0 := (planNew w P T R 49)
  go_wp2_with fail
  refine (H.out _).mono ?_; rintro e w1 ⟨rfl, hb1⟩
  have c1 := planKeep c0 hb1
  obtain ⟨d10, d11, d12⟩ := c1.1
  go_wp2_with fail
  refine (NM.out _).mono ?_; rintro e w2 ⟨mk, rfl, hM2, hm2, hb2⟩
  have c2 := planKeep c1 hb2
  have hl := hM2.lt
  go_wp2
  go_ret2
  exact ⟨_, mk, rfl, Blk.new' (by simp), Blk.alloc hM2 _, Nat.le_trans c1.2.size hm2, by simpa using hl, c2.2.trans ((Below.refl _ _).alloc c2.2.size _)⟩

set_option maxHeartbeats 1000000 in
theorem newshade_yes (P T R t x : Int) (w : World) (h : exB P T R t = true) (hu : U64 x) (hx : x ≠ 0) (hf : refB P T R x = true) :
    Calls Try.prog 49 #[.agg #[.int .i64 P, .int .i64 T, .int .i64 R], .int .i64 t, .int .u64 x] w (NewShadePost P T R t x w) := by
  have H := Lib.hid (fun W => head_any P T R t W)
  have NM := Lib.hid (fun W => newmark_yes P T R x W hu hx hf)
  have NP := Lib.hid (fun W => newpush_yes P T R t x W h hx)
  have hx' : (x == 0) = false := by simpa using hx
  have hh := head_not h
  generalize ownI P T R t 3 = hd at *
  clear h hu hx hf
  go_enter Try.func49, Try.ntmps49
  have c0 := (planNew w P T R 49)
  go_wp2_with fail
  refine (H.out _).mono ?_; rintro e w1 ⟨rfl, hb1⟩
  have c1 := planKeep c0 hb1
  obtain ⟨d10, d11, d12⟩ := c1.1
  go_wp2_with fail
  refine (NM.out _).mono ?_; rintro e w2 ⟨mk, rfl, hM2, hm2, hb2⟩
  have c2 := planKeep c1 hb2
  obtain ⟨d20, d21, d22⟩ := c2.1
  have hl := hM2.lt
  go_wp2_with fail
  refine (NP.out _).mono ?_; rintro e w3 ⟨pu, rfl, hP3, hp3, hb3⟩
  have c3 := planKeep c2 hb3
  have hM3 := Blk.grew hM2 hb3
  have hl3 := hP3.lt
  go_wp2
  go_ret2
  exact ⟨_, mk, pu, rfl, Blk.new' (by simp), Blk.alloc hM3 _, Blk.alloc hP3 _, Nat.le_trans c1.2.size hm2, by omega, by simpa using hl3, c3.2.trans ((Below.refl _ _).alloc c3.2.size _)⟩

theorem over_marknil (w : World) :
    Calls Try.prog 57 #[.pointer none] w fun e w' => e = .returned (.bool true) ∧ Quiet w w' := by
  go_enter Try.func57, Try.ntmps57
  go_wp2
  go_ret
  exact ⟨rfl, Quiet.refl _⟩

theorem fresh_marknil (w : World) :
    Calls Try.prog 58 #[.pointer none] w fun e w' => e = .returned (.bool false) ∧ Quiet w w' := by
  go_enter Try.func58, Try.ntmps58
  go_wp2
  go_ret
  exact ⟨rfl, Quiet.refl _⟩

theorem step_marknil (p : Option Addr) (w : World) :
    Calls Try.prog 56 #[.pointer none, .pointer p] w fun e w' => e = .returned (.bool true) ∧ Quiet w w' := by
  go_enter Try.func56, Try.ntmps56
  go_wp2_with fail
  refine (over_marknil _).mono ?_; rintro e w1 ⟨rfl, hq1⟩
  go_wp2_with fail
  refine (over_marknil _).mono ?_; rintro e w2 ⟨rfl, hq2⟩
  go_wp2
  go_ret
  exact ⟨rfl, hq1.trans hq2⟩

theorem over_shadenil (w : World) :
    Calls Try.prog 60 #[.pointer none] w fun e w' => e = .returned (.bool true) ∧ Quiet w w' := by
  go_enter Try.func60, Try.ntmps60
  go_wp2
  go_ret
  exact ⟨rfl, Quiet.refl _⟩

theorem fresh_shadenil (w : World) :
    Calls Try.prog 61 #[.pointer none] w fun e w' => e = .returned (.bool false) ∧ Quiet w w' := by
  go_enter Try.func61, Try.ntmps61
  go_wp2
  go_ret
  exact ⟨rfl, Quiet.refl _⟩

theorem lost_shadenil (w : World) :
    Calls Try.prog 62 #[.pointer none] w fun e w' => e = .returned (.bool false) ∧ Quiet w w' := by
  go_enter Try.func62, Try.ntmps62
  go_wp2
  go_ret
  exact ⟨rfl, Quiet.refl _⟩

theorem held_shadenil (w : World) :
    Calls Try.prog 63 #[.pointer none] w fun e w' => e = .returned (.int .u64 0) ∧ Quiet w w' := by
  go_enter Try.func63, Try.ntmps63
  go_wp2_with fail
  refine (over_shadenil _).mono ?_; rintro e w1 ⟨rfl, hq1⟩
  go_wp2
  go_ret
  exact ⟨rfl, hq1⟩

theorem step_shadenil (p : Option Addr) (w : World) :
    Calls Try.prog 59 #[.pointer none, .pointer p] w fun e w' => e = .returned (.bool true) ∧ Quiet w w' := by
  go_enter Try.func59, Try.ntmps59
  go_wp2_with fail
  refine (over_shadenil _).mono ?_; rintro e w1 ⟨rfl, hq1⟩
  go_wp2_with fail
  refine (over_shadenil _).mono ?_; rintro e w2 ⟨rfl, hq2⟩
  go_wp2
  go_ret
  exact ⟨rfl, hq1.trans hq2⟩

section
variable {w : World} {m s mk : Nat} {ce bi nx x : Int} {fr lost : Bool} {pu : Option Addr}

theorem over_mark (h : MarkAt w m ce bi nx fr) :
    Calls Try.prog 57 #[.pointer (some ⟨m, 0, none⟩)] w fun e w' => e = .returned (.bool (nx == 0)) ∧ Quiet w w' := by
  have h2 := h.val 2 rfl
  clear h
  go_enter Try.func57, Try.ntmps57
  go_wp2
  go_ret
  exact ⟨rfl, Quiet.refl _⟩

theorem fresh_mark (h : MarkAt w m ce bi nx fr) :
    Calls Try.prog 58 #[.pointer (some ⟨m, 0, none⟩)] w fun e w' => e = .returned (.bool fr) ∧ Quiet w w' := by
  have h2 := h.val 3 rfl
  clear h
  go_enter Try.func58, Try.ntmps58
  go_wp2
  go_ret
  exact ⟨rfl, Quiet.refl _⟩

theorem over_shade (h : ShadeAt w s x mk pu nx lost) :
    Calls Try.prog 60 #[.pointer (some ⟨s, 0, none⟩)] w fun e w' => e = .returned (.bool (nx == 0)) ∧ Quiet w w' := by
  have h2 := h.val 3 rfl
  clear h
  go_enter Try.func60, Try.ntmps60
  go_wp2
  go_ret
  exact ⟨rfl, Quiet.refl _⟩

theorem lost_shade (h : ShadeAt w s x mk pu nx lost) :
    Calls Try.prog 62 #[.pointer (some ⟨s, 0, none⟩)] w fun e w' => e = .returned (.bool lost) ∧ Quiet w w' := by
  have h2 := h.val 4 rfl
  clear h
  go_enter Try.func62, Try.ntmps62
  go_wp2
  go_ret
  exact ⟨rfl, Quiet.refl _⟩

theorem fresh_shade (h : ShadeAt w s x mk pu nx lost) (hm : MarkAt w mk ce bi m fr) :
    Calls Try.prog 61 #[.pointer (some ⟨s, 0, none⟩)] w fun e w' => e = .returned (.bool fr) ∧ Quiet w w' := by
  have h2 := h.val 1 rfl
  have F := Lib.hid (fresh_mark hm)
  clear h hm
  go_enter Try.func61, Try.ntmps61
  go_wp2_with fail
  refine F.out.mono ?_; rintro e w1 ⟨rfl, hq1⟩
  go_wp2
  go_ret
  exact ⟨rfl, hq1⟩
end
end Go.Proofs.Ytgcahbgapojimaa
