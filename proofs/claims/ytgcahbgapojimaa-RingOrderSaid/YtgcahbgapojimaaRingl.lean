/- Words for the laws of package ring: an arena is laid, a push is stepped to its end; a ring of one place takes one word. Condition: the plan is right. -/
import Derived.Test.YtgcahbgapojimaaPushb
import Derived.Test.YtgcahbgapojimaaPopb
import Derived.Test.YtgcahbgapojimaaWhere
namespace Go.Proofs.Ytgcahbgapojimaa
open Go.RowKit
theorem cellsN_bd {P T R : Int} (h : Right P T R) : ((cellsN P T R : Nat) : Int) = baseI P T R + 64 * P ∧ 1 ≤ cellsN P T R ∧ cellsN P T R ≤ 2304 := by
  have hb := base_bd h
  obtain ⟨⟨p1, p2⟩, _⟩ := h
  unfold cellsN
  omega
def LayPost (P T R who : Int) (w : World) (e : Ending) (w' : World) : Prop :=
  ∃ a c p, e = .returned (.tuple #[.pointer (some ⟨a, 0, none⟩), .pointer (some ⟨p, 0, none⟩), .bool true]) ∧ Arx w' w.heap.size a c (List.replicate (cellsN P T R) 0) [] 0 [p] ∧ PortAt w' p a who false ∧ w.heap.size ≤ p ∧ Below w.heap.size w w'
set_option maxHeartbeats 400000 in
theorem rplan_any (P T R : Int) (w : World) :
    Calls Try.prog 24 #[.agg #[.int .i64 P, .int .i64 T, .int .i64 R]] w fun e w' => e = .returned (.agg #[.int .i64 P, .int .i64 T, .int .i64 R]) ∧ Below w.heap.size w w' := by
  go_enter Try.func24, Try.ntmps24
  have c0 := (planNew w P T R 26)
  go_wp2
  refine bodyPost_ret (v := .agg #[.int .i64 P, .int .i64 T, .int .i64 R]) (by simp [results, Try.results24, go_sem, *]) rfl ⟨rfl, ?_⟩
  exact c0.2.trans ((Below.refl _ _).alloc (by simp) _)
set_option maxHeartbeats 1000000 in
theorem lay_yes (P T R who : Int) (w : World) (h : Right P T R) (h0 : 0 ≤ who) (h1 : who ≤ 15) :
    Calls Try.prog 15 #[.agg #[.int .i64 P, .int .i64 T, .int .i64 R], .int .i64 who] w (LayPost P T R who w) := by
  obtain ⟨hc, hc1, hc2⟩ := cellsN_bd h
  have C := Lib.hid (fun W => rcells_yes P T R W h)
  rw [← hc] at C
  have N := Lib.hid (fun W => new_yes (cellsN P T R) true W hc1 (by omega))
  clear hc hc1 hc2 h
  go_enter Try.func15, Try.ntmps15
  have c0 := (planNew w P T R 26)
  go_wp2_with fail
  refine (C.out _).mono ?_; rintro e w1 ⟨rfl, hb1⟩
  have c1 := planKeep c0 hb1
  have hB1 := c1.2
  clear c0 hb1 c1
  go_wp2_with fail
  refine (N.out _).mono ?_; rintro e w2 ⟨a, c, rfl, hA2, ha, hc, hb2⟩
  have hB2 := hB1.trans (hb2.mono hB1.size)
  have hX2 : Arx w2 w.heap.size a c (List.replicate (cellsN P T R) 0) [] 0 [] := hA2.arx (Nat.le_trans hB1.size ha) (Nat.le_trans hB1.size hc) hB2.size
  clear hA2 hb2 hB1
  go_wp2_with fail
  refine (port_yes a who _ h0 h1).mono ?_; rintro e w3 ⟨p, rfl, hP3, hp, hb3⟩
  have hX3 := hX2.add hb3 hp hP3.lt
  have hB3 := hB2.trans (hb3.mono hB2.size)
  have hp' := Nat.le_trans hB2.size hp
  clear hX2 hb3 hB2
  go_wp2
  go_ret3
  exact ⟨a, c, p, rfl, hX3, hP3, hp', hB3⟩
/-- the machine, the arena and the port, whatever the log tells -/
def PuE (w0 : World) (B a c p m : Nat) (P T R t v tl nx : Int) (fu : Bool) (cs : List Int) (n : Nat) (K : List Nat) (who : Int) (o : Bool) (w : World) : Prop :=
  ∃ xs, PuS w0 B a c p m P T R t v tl nx fu cs xs n K who o w
def PoE (w0 : World) (B a c p m : Nat) (P T R t v tl nx : Int) (fu : Bool) (cs : List Int) (n : Nat) (K : List Nat) (who : Int) (o : Bool) (w : World) : Prop :=
  ∃ xs, PoS w0 B a c p m P T R t v tl nx fu cs xs n K who o w
/-- what all steps of a machine at a thread's ring need -/
structure Ready (P T R t : Int) (p m : Nat) (cs : List Int) (K : List Nat) : Prop where
  ex : exB P T R t = true
  ne : m ≠ p
  hm : m ∈ K
  hp : p ∈ K
  len : cs.length = cellsN P T R
theorem Ready.set {P T R t : Int} {p m : Nat} {cs : List Int} {K : List Nat} (h : Ready P T R t p m cs K) (i : Nat) (x : Int) : Ready P T R t p m (cs.set i x) K := ⟨h.ex, h.ne, h.hm, h.hp, by rw [List.length_set]; exact h.len⟩
section
variable {w0 w w' : World} {B a c p m : Nat} {P T R t v tl nx : Int} {fu : Bool} {cs : List Int} {n : Nat} {K : List Nat} {who : Int} {o : Bool}
theorem PuE.grant (h : PuE w0 B a c p m P T R t v tl nx fu cs n K who o w) (hr : Ready P T R t p m cs K) :
    Calls Try.prog 67 #[.pointer (some ⟨p, 0, none⟩)] w fun e w' => (∃ v, e = .returned v) ∧ PuE w0 B a c p m P T R t v tl nx fu cs n K who true w' := by
  obtain ⟨xs, h⟩ := h
  exact (grant_at p a who o w h.port).mono fun _ _ ⟨he, hP, hT⟩ => ⟨he, xs, h.mach.touch hT hr.ne, h.arx.touch hT (fun _ e => e ▸ hr.hp), hP, h.touch.trans (hT.mono fun _ _ e => .inl e)⟩
theorem PuE.step1 (h : PuE w0 B a c p m P T R t v tl 1 fu cs n K who true w) (hr : Ready P T R t p m cs K) (hn : n < 1000000) :
    Calls Try.prog 40 #[.pointer (some ⟨m, 0, none⟩), .pointer (some ⟨p, 0, none⟩)] w fun e w' => e = .returned (.bool false) ∧ PuE w0 B a c p m P T R t v (cs.getD (ownN R t 4) 0) 2 fu cs (n + 1) K who false w' := by
  obtain ⟨xs, h⟩ := h
  exact (push_step1 h hr.ex hr.ne hr.hm hr.hp hn hr.len).mono fun _ _ ⟨he, h⟩ => ⟨he, _, h⟩
theorem PuE.step2f (h : PuE w0 B a c p m P T R t v tl 2 fu cs n K who true w) (hr : Ready P T R t p m cs K) (hn : n < 1000000) (hf : fullB R tl (cs.getD (ownN R t 3) 0) = true) :
    Calls Try.prog 40 #[.pointer (some ⟨m, 0, none⟩), .pointer (some ⟨p, 0, none⟩)] w fun e w' => e = .returned (.bool true) ∧ PuE w0 B a c p m P T R t v tl 0 true cs (n + 1) K who false w' := by
  obtain ⟨xs, h⟩ := h
  exact (push_step2_full h hr.ex hr.ne hr.hm hr.hp hn hr.len hf).mono fun _ _ ⟨he, h⟩ => ⟨he, _, h⟩
theorem PuE.step2r (h : PuE w0 B a c p m P T R t v tl 2 fu cs n K who true w) (hr : Ready P T R t p m cs K) (hn : n < 1000000) (hf : fullB R tl (cs.getD (ownN R t 3) 0) = false) :
    Calls Try.prog 40 #[.pointer (some ⟨m, 0, none⟩), .pointer (some ⟨p, 0, none⟩)] w fun e w' => e = .returned (.bool false) ∧ PuE w0 B a c p m P T R t v tl 3 fu cs (n + 1) K who false w' := by
  obtain ⟨xs, h⟩ := h
  exact (push_step2_room h hr.ex hr.ne hr.hm hr.hp hn hr.len hf).mono fun _ _ ⟨he, h⟩ => ⟨he, _, h⟩
theorem PuE.step3 (h : PuE w0 B a c p m P T R t v tl 3 fu cs n K who true w) (hr : Ready P T R t p m cs K) (hn : n < 1000000) (hu : U64 tl) :
    Calls Try.prog 40 #[.pointer (some ⟨m, 0, none⟩), .pointer (some ⟨p, 0, none⟩)] w fun e w' => e = .returned (.bool false) ∧ PuE w0 B a c p m P T R t v tl 4 fu (cs.set (slotN R t tl) v) (n + 1) K who false w' := by
  obtain ⟨xs, h⟩ := h
  exact (push_step3 h hr.ex hr.ne hr.hm hr.hp hn hr.len hu).mono fun _ _ ⟨he, h⟩ => ⟨he, _, h⟩
theorem PuE.step4 (h : PuE w0 B a c p m P T R t v tl 4 fu cs n K who true w) (hr : Ready P T R t p m cs K) (hn : n < 1000000) :
    Calls Try.prog 40 #[.pointer (some ⟨m, 0, none⟩), .pointer (some ⟨p, 0, none⟩)] w fun e w' => e = .returned (.bool true) ∧ PuE w0 B a c p m P T R t v tl 0 fu (cs.set (ownN R t 4) (IntKind.u64.wrap (tl + 1))) (n + 1) K who false w' := by
  obtain ⟨xs, h⟩ := h
  exact (push_step4 h hr.ex hr.ne hr.hm hr.hp hn hr.len).mono fun _ _ ⟨he, h⟩ => ⟨he, _, h⟩
/-- a push that finds no room is over behind two steps -/
theorem finish_full (h : PuE w0 B a c p m P T R t v tl 1 fu cs n K who o w) (hr : Ready P T R t p m cs K) (hn : n < 999990) (hf : fullB R (cs.getD (ownN R t 4) 0) (cs.getD (ownN R t 3) 0) = true) :
    Calls Try.prog 27 #[.pointer (some ⟨p, 0, none⟩), .pointer (some ⟨m, 0, none⟩)] w fun e w' => e = .returned (.int .i64 2) ∧ PuE w0 B a c p m P T R t v (cs.getD (ownN R t 4) 0) 0 true cs (n + 2) K who false w' := by
  have G1 := Lib.hid (fun W o (h : PuE w0 B a c p m P T R t v tl 1 fu cs n K who o W) => h.grant hr)
  have S1 := Lib.hid (fun W (h : PuE w0 B a c p m P T R t v tl 1 fu cs n K who true W) => h.step1 hr (by omega))
  have G2 := Lib.hid (fun W o (h : PuE w0 B a c p m P T R t v (cs.getD (ownN R t 4) 0) 2 fu cs (n + 1) K who o W) => h.grant hr)
  have S2 := Lib.hid (fun W (h : PuE w0 B a c p m P T R t v (cs.getD (ownN R t 4) 0) 2 fu cs (n + 1) K who true W) => h.step2f hr (by omega) hf)
  clear hf
  generalize cs.getD (ownN R t 4) 0 = z at *
  go_enter Try.func27, Try.ntmps27
  go_wp2
  go_loopw [5] (fun i wr => ∃ k : Int, (k = 1 ∧ PuE w0 B a c p m P T R t v tl 1 fu cs n K who o wr ∨ k = 2 ∧ PuE w0 B a c p m P T R t v z 2 fu cs (n + 1) K who false wr) ∧ i = .int .i64 k) (fun i _ => (5 - intOf i).toNat)
  case atStart => exact ⟨1, .inl ⟨rfl, h⟩, rfl⟩
  case round =>
    obtain ⟨k, (⟨rfl, h1⟩ | ⟨rfl, h1⟩), rfl⟩ := hrel
    · go_wp2_with fail
      refine (G1.out _ _ h1).mono ?_; rintro e w1 ⟨⟨u1, rfl⟩, h2⟩
      go_wp2_with fail
      refine (S1.out _ h2).mono ?_; rintro e w2 ⟨rfl, h3⟩
      go_wp2
      go_roundw
      case rel => exact ⟨2, .inr ⟨rfl, h3⟩, by go_num⟩
      case measure => simp [intOf]
    · go_wp2_with fail
      refine (G2.out _ _ h1).mono ?_; rintro e w1 ⟨⟨u1, rfl⟩, h2⟩
      go_wp2_with fail
      refine (S2.out _ h2).mono ?_; rintro e w2 ⟨rfl, h3⟩
      go_wp2
      go_ret
      exact ⟨rfl, h3⟩
/-- what a push leaves in the cells -/
def pushed (R t : Int) (cs : List Int) (v : Int) : List Int := (cs.set (slotN R t (cs.getD (ownN R t 4) 0)) v).set (ownN R t 4) (IntKind.u64.wrap (cs.getD (ownN R t 4) 0 + 1))
/-- a push that finds room is over behind four steps -/
theorem finish_room (h : PuE w0 B a c p m P T R t v tl 1 fu cs n K who o w) (hr : Ready P T R t p m cs K) (hn : n < 999990) (hf : fullB R (cs.getD (ownN R t 4) 0) (cs.getD (ownN R t 3) 0) = false) (hu : U64 (cs.getD (ownN R t 4) 0)) :
    Calls Try.prog 27 #[.pointer (some ⟨p, 0, none⟩), .pointer (some ⟨m, 0, none⟩)] w fun e w' => e = .returned (.int .i64 4) ∧ PuE w0 B a c p m P T R t v (cs.getD (ownN R t 4) 0) 0 fu (pushed R t cs v) (n + 4) K who false w' := by
  have G1 := Lib.hid (fun W o (h : PuE w0 B a c p m P T R t v tl 1 fu cs n K who o W) => h.grant hr)
  have S1 := Lib.hid (fun W (h : PuE w0 B a c p m P T R t v tl 1 fu cs n K who true W) => h.step1 hr (by omega))
  have G2 := Lib.hid (fun W o (h : PuE w0 B a c p m P T R t v (cs.getD (ownN R t 4) 0) 2 fu cs (n + 1) K who o W) => h.grant hr)
  have S2 := Lib.hid (fun W (h : PuE w0 B a c p m P T R t v (cs.getD (ownN R t 4) 0) 2 fu cs (n + 1) K who true W) => h.step2r hr (by omega) hf)
  have G3 := Lib.hid (fun W o (h : PuE w0 B a c p m P T R t v (cs.getD (ownN R t 4) 0) 3 fu cs (n + 2) K who o W) => h.grant hr)
  have S3 := Lib.hid (fun W (h : PuE w0 B a c p m P T R t v (cs.getD (ownN R t 4) 0) 3 fu cs (n + 2) K who true W) => h.step3 hr (by omega) hu)
  have G4 := Lib.hid (fun W o (h : PuE w0 B a c p m P T R t v (cs.getD (ownN R t 4) 0) 4 fu (cs.set (slotN R t (cs.getD (ownN R t 4) 0)) v) (n + 3) K who o W) => h.grant (hr.set _ _))
  have S4 := Lib.hid (fun W (h : PuE w0 B a c p m P T R t v (cs.getD (ownN R t 4) 0) 4 fu (cs.set (slotN R t (cs.getD (ownN R t 4) 0)) v) (n + 3) K who true W) => h.step4 (hr.set _ _) (by omega))
  clear hf hu
  unfold pushed
  generalize cs.getD (ownN R t 4) 0 = z at *
  go_enter Try.func27, Try.ntmps27
  go_wp2
  go_loopw [5] (fun i wr => ∃ k : Int, (k = 1 ∧ PuE w0 B a c p m P T R t v tl 1 fu cs n K who o wr ∨ k = 2 ∧ PuE w0 B a c p m P T R t v z 2 fu cs (n + 1) K who false wr ∨ k = 3 ∧ PuE w0 B a c p m P T R t v z 3 fu cs (n + 2) K who false wr ∨ k = 4 ∧ PuE w0 B a c p m P T R t v z 4 fu (cs.set (slotN R t z) v) (n + 3) K who false wr) ∧ i = .int .i64 k) (fun i _ => (5 - intOf i).toNat)
  case atStart => exact ⟨1, .inl ⟨rfl, h⟩, rfl⟩
  case round =>
    obtain ⟨k, (⟨rfl, h1⟩ | ⟨rfl, h1⟩ | ⟨rfl, h1⟩ | ⟨rfl, h1⟩), rfl⟩ := hrel
    · go_wp2_with fail
      refine (G1.out _ _ h1).mono ?_; rintro e w1 ⟨⟨u1, rfl⟩, h2⟩
      go_wp2_with fail
      refine (S1.out _ h2).mono ?_; rintro e w2 ⟨rfl, h3⟩
      go_wp2
      go_roundw
      case rel => exact ⟨2, .inr (.inl ⟨rfl, h3⟩), by go_num⟩
      case measure => simp [intOf]
    · go_wp2_with fail
      refine (G2.out _ _ h1).mono ?_; rintro e w1 ⟨⟨u1, rfl⟩, h2⟩
      go_wp2_with fail
      refine (S2.out _ h2).mono ?_; rintro e w2 ⟨rfl, h3⟩
      go_wp2
      go_roundw
      case rel => exact ⟨3, .inr (.inr (.inl ⟨rfl, h3⟩)), by go_num⟩
      case measure => simp [intOf]
    · go_wp2_with fail
      refine (G3.out _ _ h1).mono ?_; rintro e w1 ⟨⟨u1, rfl⟩, h2⟩
      go_wp2_with fail
      refine (S3.out _ h2).mono ?_; rintro e w2 ⟨rfl, h3⟩
      go_wp2
      go_roundw
      case rel => exact ⟨4, .inr (.inr (.inr ⟨rfl, h3⟩)), by go_num⟩
      case measure => simp [intOf]
    · go_wp2_with fail
      refine (G4.out _ _ h1).mono ?_; rintro e w1 ⟨⟨u1, rfl⟩, h2⟩
      go_wp2_with fail
      refine (S4.out _ h2).mono ?_; rintro e w2 ⟨rfl, h3⟩
      go_wp2
      go_ret
      exact ⟨rfl, h3⟩
end
end Go.Proofs.Ytgcahbgapojimaa
