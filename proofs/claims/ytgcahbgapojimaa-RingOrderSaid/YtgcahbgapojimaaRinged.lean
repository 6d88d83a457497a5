/- What ringed returns: a ring of one place takes one word, and no other. No condition. -/
import Derived.Test.YtgcahbgapojimaaRingl
namespace Go.Proofs.Ytgcahbgapojimaa
open Go.RowKit
theorem PuE.mach {w0 w : World} {B a c p m : Nat} {P T R t v tl nx : Int} {fu : Bool} {cs : List Int} {n : Nat} {K : List Nat} {who : Int} {o : Bool} (h : PuE w0 B a c p m P T R t v tl nx fu cs n K who o w) : PushAt w m P T R t v tl nx fu := by
  obtain ⟨xs, h⟩ := h; exact h.mach
theorem PuE.port {w0 w : World} {B a c p m : Nat} {P T R t v tl nx : Int} {fu : Bool} {cs : List Int} {n : Nat} {K : List Nat} {who : Int} {o : Bool} (h : PuE w0 B a c p m P T R t v tl nx fu cs n K who o w) : PortAt w p a who o := by
  obtain ⟨xs, h⟩ := h; exact h.port
theorem PuE.touch {w0 w : World} {B a c p m : Nat} {P T R t v tl nx : Int} {fu : Bool} {cs : List Int} {n : Nat} {K : List Nat} {who : Int} {o : Bool} (h : PuE w0 B a c p m P T R t v tl nx fu cs n K who o w) : Touch (fun b => b = p ∨ b = m ∨ (B ≤ b ∧ b ∉ K)) w0 w := by
  obtain ⟨xs, h⟩ := h; exact h.touch
/-- an arena with a log, whatever the log tells -/
def Ary (w : World) (B a c : Nat) (cs : List Int) (n : Nat) (K : List Nat) : Prop := ∃ xs, Arx w B a c cs xs n K
theorem PuE.ary {w0 w : World} {B a c p m : Nat} {P T R t v tl nx : Int} {fu : Bool} {cs : List Int} {n : Nat} {K : List Nat} {who : Int} {o : Bool} (h : PuE w0 B a c p m P T R t v tl nx fu cs n K who o w) : Ary w B a c cs n K := by
  obtain ⟨xs, h⟩ := h; exact ⟨xs, h.arx⟩
section
variable {w w' : World} {B a c m : Nat} {cs : List Int} {n : Nat} {K : List Nat}
theorem Ary.grew (h : Ary w B a c cs n K) (hb : Below w.heap.size w w') : Ary w' B a c cs n K := by
  obtain ⟨xs, h⟩ := h; exact ⟨xs, h.grew hb⟩
theorem Ary.quiet (h : Ary w B a c cs n K) (hq : Quiet w w') : Ary w' B a c cs n K := h.grew hq.below
theorem Ary.add (h : Ary w B a c cs n K) (hb : Below w.heap.size w w') (hm : w.heap.size ≤ m) (hm' : m < w'.heap.size) : Ary w' B a c cs n (m :: K) := by
  obtain ⟨xs, h⟩ := h; exact ⟨xs, h.add hb hm hm'⟩
theorem Ary.sub {K' : List Nat} (h : Ary w B a c cs n K) (hs : ∀ b ∈ K', b ∈ K) : Ary w B a c cs n K' := by
  obtain ⟨xs, h⟩ := h; exact ⟨xs, h.sub hs⟩
theorem Ary.count (h : Ary w B a c cs n K) : Calls Try.prog 75 #[.pointer (some ⟨a, 0, none⟩)] w fun e w' => e = .returned (.int .i64 n) ∧ Quiet w w' := by
  obtain ⟨xs, h⟩ := h; exact count_x h
theorem Ary.bw (h : Ary w B a c cs n K) : B ≤ w.heap.size := by
  obtain ⟨xs, h⟩ := h; exact h.bw
theorem Ary.touch {R : Nat → Prop} (h : Ary w B a c cs n K) (ht : Touch R w w') (hR : ∀ b, R b → b ∈ K) : Ary w' B a c cs n K := by
  obtain ⟨xs, h⟩ := h; exact ⟨xs, h.touch ht hR⟩
theorem Ary.pu {p : Nat} {P T R t v tl nx : Int} {fu : Bool} {who : Int} {o : Bool} (h : Ary w B a c cs n K) (hM : PushAt w m P T R t v tl nx fu) (hP : PortAt w p a who o) : PuE w B a c p m P T R t v tl nx fu cs n K who o w := by
  obtain ⟨xs, h⟩ := h; exact ⟨xs, .start hM h hP⟩
theorem Ary.po {p : Nat} {P T R t v tl nx : Int} {fu : Bool} {who : Int} {o : Bool} (h : Ary w B a c cs n K) (hM : PopAt w m P T R t v tl nx fu) (hP : PortAt w p a who o) : PoE w B a c p m P T R t v tl nx fu cs n K who o w := by
  obtain ⟨xs, h⟩ := h; exact ⟨xs, .start hM h hP⟩
end
set_option maxRecDepth 100000 in
set_option maxHeartbeats 2000000 in
theorem ringed_any (w : World) :
    Calls Try.prog 13 #[] w fun e w' => e = .returned (.bool true) ∧ Below w.heap.size w w' := by
  have hx : exB 1 1 1 0 = true := by kernel_rfl
  have f1 : fullB 1 ((List.replicate (cellsN 1 1 1) (0 : Int)).getD (ownN 1 0 4) 0) ((List.replicate (cellsN 1 1 1) (0 : Int)).getD (ownN 1 0 3) 0) = false := by kernel_rfl
  have u1 : U64 ((List.replicate (cellsN 1 1 1) (0 : Int)).getD (ownN 1 0 4) 0) := by
    have : (List.replicate (cellsN 1 1 1) (0 : Int)).getD (ownN 1 0 4) 0 = 0 := by kernel_rfl
    rw [this]; exact ⟨by decide, by decide⟩
  have f2 : fullB 1 ((pushed 1 0 (List.replicate (cellsN 1 1 1) (0 : Int)) 7).getD (ownN 1 0 4) 0) ((pushed 1 0 (List.replicate (cellsN 1 1 1) (0 : Int)) 7).getD (ownN 1 0 3) 0) = true := by kernel_rfl
  have hl : (List.replicate (cellsN 1 1 1) (0 : Int)).length = cellsN 1 1 1 := by simp
  have hl2 : (pushed 1 0 (List.replicate (cellsN 1 1 1) (0 : Int)) 7).length = cellsN 1 1 1 := by simp [pushed]
  have L := Lib.hid (fun W => lay_yes 1 1 1 0 W (right_of (by kernel_rfl)) (by decide) (by decide))
  have N7 := Lib.hid (fun W => newpush_yes 1 1 1 0 7 W hx (by decide))
  have N8 := Lib.hid (fun W => newpush_yes 1 1 1 0 8 W hx (by decide))
  have F1 := Lib.hid f1
  have F2 := Lib.hid f2
  have U1 := Lib.hid u1
  have H1 := Lib.hid hl
  have H2 := Lib.hid hl2
  have HX := Lib.hid hx
  clear f1 f2 u1 hl hl2 hx
  generalize hc1 : pushed 1 0 (List.replicate (cellsN 1 1 1) (0 : Int)) 7 = cs1 at *
  have HC := Lib.hid hc1
  clear hc1
  generalize hc0 : List.replicate (cellsN 1 1 1) (0 : Int) = cs0 at *
  have HC0 := Lib.hid hc0
  clear hc0
  go_enter Try.func13, Try.ntmps13
  go_wp2_with fail
  refine (L.out _).mono ?_; rintro e w1 ⟨a, c, p, rfl, hX1, hP1, hp, hB1⟩
  rw [HC0.out] at hX1
  have hY1 : Ary w1 w.heap.size a c cs0 0 [p] := ⟨_, hX1⟩
  clear hX1
  go_wp2_with fail
  refine (rplan_any 1 1 1 _).mono ?_; rintro e w2 ⟨rfl, hb2⟩
  have hY2 := hY1.grew hb2
  have hP2 := Blk.grew hP1 hb2
  have hB2 := hB1.trans (hb2.mono hB1.size)
  clear hY1 hP1 hb2 hB1
  go_wp2_with fail
  refine (N7.out _).mono ?_; rintro e w3 ⟨m1, rfl, hM3, hm1, hb3⟩
  have hY3 := hY2.add hb3 hm1 hM3.lt
  have hP3 := Blk.grew hP2 hb3
  have hB3 := hB2.trans (hb3.mono hB2.size)
  have lp2 := hP2.lt
  have lm1 := hM3.lt
  have lw2 := hB2.size
  clear hY2 hP2 hb3 hB2
  go_wp2_with fail
  refine (rplan_any 1 1 1 _).mono ?_; rintro e w4 ⟨rfl, hb4⟩
  have hY4 := hY3.grew hb4
  have hP4 := Blk.grew hP3 hb4
  have hM4 := Blk.grew hM3 hb4
  have hB4 := hB3.trans (hb4.mono hB3.size)
  have ls4 := hb4.size
  clear hY3 hP3 hb4 hB3 hM3
  go_wp2_with fail
  refine (N8.out _).mono ?_; rintro e w5 ⟨m2, rfl, hM5, hm2, hb5⟩
  have hY5 := hY4.add hb5 hm2 hM5.lt
  have hP5 := Blk.grew hP4 hb5
  have hN5 := Blk.grew hM4 hb5
  have hB5 := hB4.trans (hb5.mono hB4.size)
  clear hY4 hP4 hb5 hB4 hM4
  have R1 : Ready 1 1 1 0 p m1 cs0 [m2, m1, p] := ⟨HX.out, by omega, by simp, by simp, H1.out⟩
  have R2 : Ready 1 1 1 0 p m2 cs1 [m2, m1, p] := ⟨HX.out, by omega, by simp, by simp, H2.out⟩
  go_wp2_with fail
  refine (finish_room (hY5.pu hN5 hP5) R1 (by decide) F1.out U1.out).mono ?_; rintro e w6 ⟨rfl, h6⟩
  rw [HC.out] at h6
  have hM6 := Blk.touch hM5 h6.touch (by simp; omega)
  have hB6 := hB5.trans (h6.touch.below hB5.size (fun x hx => by rcases hx with rfl | rfl | hx <;> omega))
  clear hY5 hN5 hP5 hM5 hB5
  go_wp2_with fail
  refine (finish_full (h6.ary.pu hM6 h6.port) R2 (by decide) F2.out).mono ?_; rintro e w7 ⟨rfl, h7⟩
  have hM7 := Blk.touch h6.mach h7.touch (by simp; omega)
  have hB7 := hB6.trans (h7.touch.below hB6.size (fun x hx => by rcases hx with rfl | rfl | hx <;> omega))
  clear h6 hM6 hB6
  go_wp2_with fail
  refine (full_push hM7).mono ?_; rintro e w8 ⟨rfl, hq8⟩
  have hN8 := Blk.quiet h7.mach hq8
  have hY8 := h7.ary.quiet hq8
  have hB8 := hB7.trans hq8.below
  clear hM7 h7 hB7 hq8
  go_wp2_with fail
  refine (full_push hN8).mono ?_; rintro e w9 ⟨rfl, hq9⟩
  have hY9 := hY8.quiet hq9
  have hB9 := hB8.trans hq9.below
  clear hN8 hY8 hB8 hq9
  go_wp2_with fail
  refine hY9.count.mono ?_; rintro e w10 ⟨rfl, hq10⟩
  have hB10 := hB9.trans hq10.below
  go_wp2
  go_ret
  exact ⟨rfl, hB10⟩
end Go.Proofs.Ytgcahbgapojimaa
