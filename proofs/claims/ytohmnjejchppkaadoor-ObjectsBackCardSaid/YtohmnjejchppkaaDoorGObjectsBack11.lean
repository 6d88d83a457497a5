/- Texts of this seat, one behind the other: each says at its head what it holds. No condition of its own. -/
import Derived.Deep.RegionHeld3
import Derived.StillTailTactics
import Derived.Maps.AppendAt
import Derived.Test.YtohmnjejchppkaaDoorGObjectsBack01
import Derived.Test.YtohmnjejchppkaaDoorGObjectsBack02
import Derived.Test.YtohmnjejchppkaaDoorGObjectsBack10
/- What New, Peek, Poke and Image of package arena return. Condition: the arena's blocks are there. -/
namespace Go.Proofs.YtohmnjejchppkaaDoor
open Go.RowKit
def zeros (n : Nat) : Array Value := ((List.replicate n (0 : Int)).map (Value.int .u64)).toArray
theorem madeCells_zeros (n : Nat) : madeCells #[Value.int .u64 0] (n * 1) = zeros n := by
  unfold madeCells zeros
  apply Array.ext
  · simp
  · intro i h1 h2
    simp [show i % 1 = 0 by omega]
theorem run_mk (W : World) (n : Int) (h0 : 0 ≤ n) (h1 : n ≤ 4096) : (Instr.makeSlice 43 (.int .i64 n) (.int .i64 n)).run Tryd.prog W = .ok (.slice (some ⟨W.heap.size, 0, none⟩) n.toNat n.toNat) (W.alloc (.cells (zeros n.toNat) 26)) := by
  obtain ⟨i0, hi0, hz0, hz1, hz2⟩ := info_parts info_u64
  rw [run_make W 43 26 i0 _ Tryd.underlying43 hi0 hz0 .i64 .i64 n n h0 (Int.le_refl _) (by rw [hz2]; omega) (by omega), hz1, ← madeCells_zeros]
  rfl
set_option maxHeartbeats 400000 in
theorem new_no (n : Int) (keep : Bool) (w : World) (h : n < 1 ∨ 4096 < n) :
    Calls Tryd.prog 32 #[.int .i64 n, .bool keep] w fun e w' => e = .returned (.tuple #[.pointer none, .int .i64 1]) ∧ Quiet w w' := by
  rcases h with h | h
  · go_enter Tryd.func32, Tryd.ntmps32
    go_wp2
    go_ret2
    exact ⟨rfl, Quiet.refl _⟩
  · have h' : ¬ n < 1 := by omega
    go_enter Tryd.func32, Tryd.ntmps32
    go_wp2
    go_ret2
    exact ⟨rfl, Quiet.refl _⟩
def NewPostNewa (n : Nat) (keep : Bool) (w : World) (e : Ending) (w' : World) : Prop :=
  ∃ a c, e = .returned (.tuple #[.pointer (some ⟨a, 0, none⟩), .int .i64 0]) ∧ ArenaAt w' a c (List.replicate n 0) keep (.slice none 0 0) 0 0 ∧ w.heap.size ≤ a ∧ w.heap.size ≤ c ∧ Below w.heap.size w w'
set_option maxHeartbeats 400000 in
theorem new_yes (n : Nat) (keep : Bool) (w : World) (h0 : 1 ≤ n) (h1 : n ≤ 4096) :
    Calls Tryd.prog 32 #[.int .i64 n, .bool keep] w (NewPostNewa n keep w) := by
  have hmk := fun W => run_mk W n (by omega) (by omega)
  go_enter Tryd.func32, Tryd.ntmps32
  go_wp2
  go_ret2
  exact ⟨w.heap.size + 1, w.heap.size, rfl, ⟨by rw [List.length_replicate]; exact Blk.new' (by simp), (Blk.new' rfl).alloc _, by omega⟩, by omega, Nat.le_refl _, ((Below.refl _ _).alloc (Nat.le_refl _) _).alloc (by simp) _⟩
section
variable {a c : Nat} {cs : List Int} {keep : Bool} {lv : Value} {n f : Int} {w : World}
set_option maxHeartbeats 400000 in
theorem peek_nil (i : Int) (w : World) :
    Calls Tryd.prog 20 #[.pointer none, .int .i64 i] w fun e w' => e = .returned (.tuple #[.int .u64 0, .int .i64 2]) ∧ Quiet w w' := by
  go_enter Tryd.func20, Tryd.ntmps20
  go_wp2
  go_ret2
  exact ⟨rfl, Quiet.refl _⟩
set_option maxHeartbeats 400000 in
theorem peek_no (i : Int) (hA : ArenaAt w a c cs keep lv n f) (hi : insB cs.length i = false) :
    Calls Tryd.prog 20 #[.pointer (some ⟨a, 0, none⟩), .int .i64 i] w fun e w' => e = .returned (.tuple #[.int .u64 0, .int .i64 5]) ∧ Quiet w w' := by
  have c0 := hA.c0
  clear hA
  go_enter Tryd.func20, Tryd.ntmps20
  go_wp2_with (go_at_call 40; refine (inside_no hi _ _ _).mono ?_; rintro e w1 ⟨rfl, hq⟩)
  go_ret2
  exact ⟨rfl, hq⟩
set_option maxHeartbeats 400000 in
theorem peek_yes (i : Nat) (hA : ArenaAt w a c cs keep lv n f) (hi : i < cs.length) (_hm : cs.length ≤ 1000000) :
    Calls Tryd.prog 20 #[.pointer (some ⟨a, 0, none⟩), .int .i64 i] w fun e w' => e = .returned (.tuple #[.int .u64 (cs.getD i 0), .int .i64 0]) ∧ Quiet w w' := by
  have I := Lib.hid (fun W => inside_yes (show insB cs.length i = true from decide_eq_true ⟨by omega, by omega⟩) (some ⟨c, 0, none⟩) cs.length W)
  have hi0 : (0 : Int) ≤ (i : Int) := by omega
  have hi1 : (i : Int) < (cs.length : Int) := by omega
  have c0 := hA.c0
  have cc := hA.cell i hi
  clear hA
  generalize cs.getD i 0 = z at *
  go_enter Tryd.func20, Tryd.ntmps20
  go_wp2_with (go_at_call 40; refine (I.out _).mono ?_; rintro e w1 ⟨rfl, m1, rfl⟩)
  go_ret2
  exact ⟨rfl, Quiet.drew⟩
set_option maxHeartbeats 400000 in
theorem poke_nil (i v : Int) (w : World) :
    Calls Tryd.prog 22 #[.pointer none, .int .i64 i, .int .u64 v] w fun e w' => e = .returned (.int .i64 2) ∧ Quiet w w' := by
  go_enter Tryd.func22, Tryd.ntmps22
  go_wp2
  go_ret
  exact ⟨rfl, Quiet.refl _⟩
set_option maxHeartbeats 400000 in
theorem poke_no (i v : Int) (hA : ArenaAt w a c cs keep lv n f) (hi : insB cs.length i = false) :
    Calls Tryd.prog 22 #[.pointer (some ⟨a, 0, none⟩), .int .i64 i, .int .u64 v] w fun e w' => e = .returned (.int .i64 5) ∧ Quiet w w' := by
  have c0 := hA.c0
  clear hA
  go_enter Tryd.func22, Tryd.ntmps22
  go_wp2_with (go_at_call 40; refine (inside_no hi _ _ _).mono ?_; rintro e w1 ⟨rfl, hq⟩)
  go_ret
  exact ⟨rfl, hq⟩
set_option maxHeartbeats 400000 in
theorem poke_yes (i : Nat) (v : Int) (hA : ArenaAt w a c cs keep lv n f) (hi : i < cs.length) (_hm : cs.length ≤ 1000000) :
    Calls Tryd.prog 22 #[.pointer (some ⟨a, 0, none⟩), .int .i64 i, .int .u64 v] w fun e w' => e = .returned (.int .i64 0) ∧ ArenaAt w' a c (cs.set i v) keep lv n f ∧ Touch (fun b => b = c) w w' := by
  have I := Lib.hid (fun W => inside_yes (show insB cs.length i = true from decide_eq_true ⟨by omega, by omega⟩) (some ⟨c, 0, none⟩) cs.length W)
  have hi0 : (0 : Int) ≤ (i : Int) := by omega
  have hi1 : (i : Int) < (cs.length : Int) := by omega
  have c0 := hA.c0
  have cc := hA.cell i hi
  have fc := hA.row.frozen i
  go_enter Tryd.func22, Tryd.ntmps22
  go_wp2_with (go_at_call 40; refine (I.out _).mono ?_; rintro e w1 ⟨rfl, m1, rfl⟩)
  go_ret
  exact ⟨rfl, (hA.drewN _).stored i v, ((Touch.refl _ _).drewN _).setCell (by rfl) _⟩
end
end Go.Proofs.YtohmnjejchppkaaDoor
/- An arena with a log as one fact, with the list of the blocks that are none of its own: what its ports' accesses do. Condition: its blocks are there, its counts are small. -/
namespace Go.Proofs.YtohmnjejchppkaaDoor
open Go.RowKit
/-- An arena that keeps its log, made at or behind block B: cells cs, n accesses made, no fault; the blocks of K are none of its own. -/
structure Arx (w : World) (B a c : Nat) (cs : List Int) (xs : List Value) (n : Nat) (K : List Nat) : Prop where
  ex : ∃ lv, ArenaL w B a c cs lv xs n 0 ∧ ∀ g, lv.ownBlock = some g → g ∉ K
  na : a ∉ K
  nc : c ∉ K
  lt : ∀ b ∈ K, b < w.heap.size
  ba : B ≤ a
  bc : B ≤ c
  bw : B ≤ w.heap.size
section
variable {w w' : World} {B a c p : Nat} {cs : List Int} {xs : List Value} {n : Nat} {K : List Nat} {who : Int} {i : Nat}
theorem Arx.touch {R : Nat → Prop} (h : Arx w B a c cs xs n K) (ht : Touch R w w') (hR : ∀ b, R b → b ∈ K) : Arx w' B a c cs xs n K := by
  obtain ⟨⟨lv, hL, hg⟩, h1, h2, h3, h4, h5, h6⟩ := h
  exact ⟨⟨lv, hL.touch ht (fun r => h1 (hR _ r)) (fun r => h2 (hR _ r)) (fun g e r => hg g e (hR _ r)), hg⟩, h1, h2, fun b hb => Nat.lt_of_lt_of_le (h3 b hb) ht.size, h4, h5, Nat.le_trans h6 ht.size⟩
theorem Arx.grew (h : Arx w B a c cs xs n K) (hb : Below w.heap.size w w') : Arx w' B a c cs xs n K :=
  h.touch (R := fun _ => False) (Touch.of hb) (fun _ h => h.elim)
theorem Arx.quiet (h : Arx w B a c cs xs n K) (hq : Quiet w w') : Arx w' B a c cs xs n K := h.grew hq.below
theorem Arx.a_lt (h : Arx w B a c cs xs n K) : a < w.heap.size := by
  obtain ⟨lv, hL, _⟩ := h.ex; exact hL.at'.own.lt
theorem Arx.c_lt (h : Arx w B a c cs xs n K) : c < w.heap.size := by
  obtain ⟨lv, hL, _⟩ := h.ex; exact hL.at'.row.lt
/-- a block that came later is none of its own -/
theorem Arx.add (h : Arx w B a c cs xs n K) (hb : Below w.heap.size w w') {m : Nat} (hm : w.heap.size ≤ m) (hm' : m < w'.heap.size) : Arx w' B a c cs xs n (m :: K) := by
  obtain ⟨⟨lv, hL, hg⟩, h1, h2, h3, h4, h5, h6⟩ := h
  have la := hL.at'.own.lt
  have lc := hL.at'.row.lt
  have lg := fun g hg => (hL.own.lt g hg).2
  refine ⟨⟨lv, hL.grew hb, fun g e => ?_⟩, ?_, ?_, ?_, h4, h5, Nat.le_trans h6 hb.size⟩
  · have := lg g e
    rw [List.mem_cons]
    rintro (rfl | r)
    · omega
    · exact hg g e r
  · rw [List.mem_cons]
    rintro (rfl | r)
    · omega
    · exact h1 r
  · rw [List.mem_cons]
    rintro (rfl | r)
    · omega
    · exact h2 r
  · intro b hb'
    rcases List.mem_cons.1 hb' with rfl | r
    · exact hm'
    · exact Nat.lt_of_lt_of_le (h3 b r) hb.size
theorem Arx.sub {K' : List Nat} (h : Arx w B a c cs xs n K) (hs : ∀ b ∈ K', b ∈ K) : Arx w B a c cs xs n K' := by
  obtain ⟨⟨lv, hL, hg⟩, h1, h2, h3, h4, h5, h6⟩ := h
  exact ⟨⟨lv, hL, fun g e r => hg g e (hs _ r)⟩, fun r => h1 (hs _ r), fun r => h2 (hs _ r), fun b hb => h3 b (hs _ hb), h4, h5, h6⟩
/-- what an access through port p leaves -/
def ArxStep (B a c p : Nat) (cs : List Int) (xs : List Value) (n : Nat) (K : List Nat) (i : Nat) (who k want put : Int) (w w' : World) : Prop :=
  Arx w' B a c (cs.set i (leftI k (cs.getD i 0) want put)) (xs ++ accV who k i want put (cs.getD i 0) (leftI k (cs.getD i 0) want put)) (n + 1) K ∧ PortAt w' p a who false ∧ Touch (fun b => b = p ∨ (B ≤ b ∧ b ∉ K)) w w'
theorem LogStep.arx {lv : Value} {k want put : Int} (h : LogStep B a c p cs lv xs n 0 i who k want put w w') (hA : Arx w B a c cs xs n K) (hL : ArenaL w B a c cs lv xs n 0) (hg : ∀ g, lv.ownBlock = some g → g ∉ K) : ArxStep B a c p cs xs n K i who k want put w w' := by
  obtain ⟨lv', hL', hP', hg', hT⟩ := h
  refine ⟨⟨⟨lv', hL', fun g e r => ?_⟩, hA.na, hA.nc, fun b hb => Nat.lt_of_lt_of_le (hA.lt b hb) hT.size, hA.ba, hA.bc, Nat.le_trans hA.bw hT.size⟩, hP', hT.mono fun b hb hr => ?_⟩
  · rcases hg' g e with h | h
    · exact hg g h r
    · have := hA.lt g r
      omega
  · rcases hr with rfl | rfl | rfl | e
    · exact .inr ⟨hA.ba, hA.na⟩
    · exact .inr ⟨hA.bc, hA.nc⟩
    · exact .inl rfl
    · exact .inr ⟨(hL.own.lt b e).1, hg b e⟩
theorem store_x (v : Int) (hA : Arx w B a c cs xs n K) (hP : PortAt w p a who true) (hp : p ∈ K) (hn : n < 1000000) (hi : i < cs.length) :
    Calls Tryd.prog 38 #[.pointer (some ⟨p, 0, none⟩), .int .i64 i, .int .u64 v] w fun e w' => (∃ u, e = .returned u) ∧ ArxStep B a c p cs xs n K i who 2 0 v w w' := by
  obtain ⟨lv, hL, hg⟩ := hA.ex
  exact (store_log B a c p cs lv xs n 0 who i v w hL hP (fun e => hA.na (e ▸ hp)) (fun e => hA.nc (e ▸ hp)) (fun e => hg p e hp) hA.bw hn hi).mono fun e w' ⟨he, hs⟩ => ⟨he, hs.arx hA hL hg⟩
theorem poke_x (v : Int) (hA : Arx w B a c cs xs n K) (hi : i < cs.length) (hm : cs.length ≤ 1000000) :
    Calls Tryd.prog 22 #[.pointer (some ⟨a, 0, none⟩), .int .i64 i, .int .u64 v] w fun e w' => e = .returned (.int .i64 0) ∧ Arx w' B a c (cs.set i v) xs n K ∧ Touch (fun b => b = c) w w' := by
  obtain ⟨lv, hL, hg⟩ := hA.ex
  refine (poke_yes i v hL.at' hi hm).mono fun e w' ⟨he, hA', hT⟩ => ⟨he, ⟨⟨lv, ⟨hA', own_touch hL.own hT (fun g e r => hL.apc (e.trans (by rw [r]))), hL.apa, hL.apc⟩, hg⟩, hA.na, hA.nc, fun b hb => Nat.lt_of_lt_of_le (hA.lt b hb) hT.size, hA.ba, hA.bc, Nat.le_trans hA.bw hT.size⟩, hT⟩
theorem peek_x (hA : Arx w B a c cs xs n K) (hi : i < cs.length) (hm : cs.length ≤ 1000000) :
    Calls Tryd.prog 20 #[.pointer (some ⟨a, 0, none⟩), .int .i64 i] w fun e w' => e = .returned (.tuple #[.int .u64 (cs.getD i 0), .int .i64 0]) ∧ Quiet w w' := by
  obtain ⟨lv, hL, _⟩ := hA.ex
  exact peek_yes i hL.at' hi hm
/-- the arena that New makes -/
theorem ArenaAt.arx {m : Nat} (hA : ArenaAt w a c (List.replicate m 0) true (.slice none 0 0) 0 0) (ha : B ≤ a) (hc : B ≤ c) (hb : B ≤ w.heap.size) : Arx w B a c (List.replicate m 0) [] 0 [] :=
  ⟨⟨_, ⟨hA, World.ownsRow_nil _ _ _ _, by simp [Value.ownBlock], by simp [Value.ownBlock]⟩, fun _ _ => List.not_mem_nil⟩, List.not_mem_nil, List.not_mem_nil, fun _ h => absurd h List.not_mem_nil, ha, hc, hb⟩
end
end Go.Proofs.YtohmnjejchppkaaDoor
/- Words for the laws of package objects: an arena whatever its log tells; the document's map of a plan. Condition: the plan is right. -/
namespace Go.Proofs.YtohmnjejchppkaaDoor
open Go.RowKit
set_option linter.unusedVariables false
def cellsN (P T R : Int) : Nat := (baseI P T R + 64 * P).toNat
theorem cellsN_bd {P T R : Int} (h : Right P T R) : ((cellsN P T R : Nat) : Int) = baseI P T R + 64 * P ∧ 1 ≤ cellsN P T R ∧ cellsN P T R ≤ 2304 := by
  have hb := base_bd h
  obtain ⟨⟨p1, p2⟩, _⟩ := h
  unfold cellsN
  omega
def Ary (w : World) (B a c : Nat) (cs : List Int) (n : Nat) (K : List Nat) : Prop := ∃ xs, Arx w B a c cs xs n K
section
variable {w w' : World} {B a c m : Nat} {cs : List Int} {n : Nat} {K : List Nat}
theorem Ary.grew (h : Ary w B a c cs n K) (hb : Below w.heap.size w w') : Ary w' B a c cs n K := by
  obtain ⟨xs, h⟩ := h; exact ⟨xs, h.grew hb⟩
theorem Ary.quiet (h : Ary w B a c cs n K) (hq : Quiet w w') : Ary w' B a c cs n K := h.grew hq.below
theorem Ary.add (h : Ary w B a c cs n K) (hb : Below w.heap.size w w') (hm : w.heap.size ≤ m) (hm' : m < w'.heap.size) : Ary w' B a c cs n (m :: K) := by
  obtain ⟨xs, h⟩ := h; exact ⟨xs, h.add hb hm hm'⟩
theorem Ary.sub {K' : List Nat} (h : Ary w B a c cs n K) (hs : ∀ b ∈ K', b ∈ K) : Ary w B a c cs n K' := by
  obtain ⟨xs, h⟩ := h; exact ⟨xs, h.sub hs⟩
theorem Ary.bw (h : Ary w B a c cs n K) : B ≤ w.heap.size := by
  obtain ⟨xs, h⟩ := h; exact h.bw
theorem Ary.touch {R : Nat → Prop} (h : Ary w B a c cs n K) (ht : Touch R w w') (hR : ∀ b, R b → b ∈ K) : Ary w' B a c cs n K := by
  obtain ⟨xs, h⟩ := h; exact ⟨xs, h.touch ht hR⟩
end
theorem dwhere_8 {P T R : Int} (h : Right P T R) : whereI P T R 8 0 0 = baseI P T R := by
  have hp := h.1
  unfold whereI
  rw [of_right h, decide_eq_true (show okI P T R 8 0 0 by unfold okI; omega)]
  show posI P T R 8 0 0 = _
  rw [pos_8]; omega
theorem dwhere_5 {P T R : Int} (h : Right P T R) : whereI P T R 5 0 0 = tabI T R := by
  have hp := h.1
  unfold whereI
  rw [of_right h, decide_eq_true (show okI P T R 5 0 0 by unfold okI; omega)]
  show posI P T R 5 0 0 = _
  unfold posI; simp
set_option maxHeartbeats 400000 in
theorem dbase_yes (P T R : Int) (w : World) (h : Right P T R) :
    Calls Tryd.prog 27 #[.agg #[.int .i64 P, .int .i64 T, .int .i64 R]] w fun e w' => e = .returned (.int .i64 (baseI P T R)) ∧ Below w.heap.size w w' := by
  have V := Lib.hid (fun W => where_yes P T R 8 0 0 W h)
  rw [dwhere_8 h] at V
  go_enter Tryd.func27, Tryd.ntmps27
  go_wp2_with fail
  refine (V.out _).mono ?_; rintro e w1 ⟨rfl, hb1⟩
  go_wp2
  go_ret
  exact ⟨rfl, ((Below.refl _ _).alloc (Nat.le_refl _) _).trans (hb1.mono (by simp))⟩
theorem Blk.six {w : World} {b : Nat} {v0 v1 v2 v3 v4 v5 : Value} {t : TypeId} (h : Blk w b #[v0, v1, v2, v3, v4, v5] t) :
    (w.cell? ⟨b, 0, none⟩ = some v0 ∧ w.cell? ⟨b, 1, none⟩ = some v1 ∧ w.cell? ⟨b, 2, none⟩ = some v2 ∧ w.cell? ⟨b, 3, none⟩ = some v3 ∧ w.cell? ⟨b, 4, none⟩ = some v4 ∧ w.cell? ⟨b, 5, none⟩ = some v5) ∧
    (w.frozen? ⟨b, 0, none⟩ = false ∧ w.frozen? ⟨b, 1, none⟩ = false ∧ w.frozen? ⟨b, 2, none⟩ = false ∧ w.frozen? ⟨b, 3, none⟩ = false ∧ w.frozen? ⟨b, 4, none⟩ = false ∧ w.frozen? ⟨b, 5, none⟩ = false) :=
  ⟨⟨h.val 0 rfl, h.val 1 rfl, h.val 2 rfl, h.val 3 rfl, h.val 4 rfl, h.val 5 rfl⟩, h.frozen 0, h.frozen 1, h.frozen 2, h.frozen 3, h.frozen 4, h.frozen 5⟩
theorem Blk.three {w : World} {b : Nat} {v0 v1 v2 : Value} {t : TypeId} (h : Blk w b #[v0, v1, v2] t) :
    (w.cell? ⟨b, 0, none⟩ = some v0 ∧ w.cell? ⟨b, 1, none⟩ = some v1 ∧ w.cell? ⟨b, 2, none⟩ = some v2) ∧ (w.frozen? ⟨b, 0, none⟩ = false ∧ w.frozen? ⟨b, 1, none⟩ = false ∧ w.frozen? ⟨b, 2, none⟩ = false) :=
  ⟨⟨h.val 0 rfl, h.val 1 rfl, h.val 2 rfl⟩, h.frozen 0, h.frozen 1, h.frozen 2⟩
def mapV (P T R : Int) : Value := .agg #[.int .i64 P, .int .i64 T, .int .i64 R, .int .i64 (baseI P T R), .int .i64 (tabI T R), .int .i64 (baseI P T R + 64 * P)]
structure DrS (w : World) (P T R : Int) (b0 b1 : Nat) (W : World) : Prop where
  plan : Blk W b0 #[.int .i64 P, .int .i64 T, .int .i64 R] 28
  res : Blk W b1 #[.int .i64 0, .int .i64 0, .int .i64 0, .int .i64 0, .int .i64 0, .int .i64 0] 32
  bel : Below w.heap.size w W
theorem DrS.grew {w W W' : World} {P T R : Int} {b0 b1 : Nat} (h : DrS w P T R b0 b1 W) (hb : Below W.heap.size W W') : DrS w P T R b0 b1 W' := ⟨h.plan.grew hb, h.res.grew hb, h.bel.trans (hb.mono h.bel.size)⟩
set_option maxRecDepth 100000 in
set_option maxHeartbeats 600000 in
theorem draw_yes (P T R : Int) (w : World) (h : Right P T R) :
    Calls Tryd.prog 5 #[.agg #[.int .i64 P, .int .i64 T, .int .i64 R]] w fun e w' => e = .returned (mapV P T R) ∧ Below w.heap.size w w' := by
  have V := Lib.hid (fun W => rright_any P T R W)
  rw [of_right h] at V
  have BB := Lib.hid (fun W => dbase_yes P T R W h)
  have WW := Lib.hid (fun W => where_yes P T R 5 0 0 W h)
  rw [dwhere_5 h] at WW
  have CC := Lib.hid (fun W => rcells_yes P T R W h)
  clear h
  unfold mapV
  generalize baseI P T R + 64 * P = x at *
  generalize baseI P T R = y at *
  generalize tabI T R = z at *
  go_enter Tryd.func5, Tryd.ntmps5
  go_wp2_with fail
  refine (V.out _).mono ?_; rintro e w1 ⟨rfl, hb1⟩
  have hS1 : DrS w P T R w.heap.size (w.heap.size + 1) w1 := DrS.grew ⟨(Blk.new' rfl).alloc _, Blk.new' (by simp), ((Below.refl _ _).alloc (Nat.le_refl _) _).alloc (by simp) _⟩ hb1
  have p1 := hS1.plan.three.1
  clear hb1
  go_wp2_with fail
  have hS2 := hS1.grew (Quiet.below ⟨1, rfl⟩ : Below w1.heap.size w1 w1.drew)
  go_region_held3 (fun W => (W.cell? ⟨w.heap.size, 0, none⟩ = some (.int .i64 P) ∧ W.cell? ⟨w.heap.size, 1, none⟩ = some (.int .i64 T) ∧ W.cell? ⟨w.heap.size, 2, none⟩ = some (.int .i64 R)))
    (((with_reducible refine (Blk.three (t := 28) ?_).1); repeat (first | (with_reducible exact DrS.plan (by assumption)) | (with_reducible refine Blk.other ?_ _ _ (by simp)))))
    (first | (go_at_call 27; refine (BB.out _).mono ?_; rintro e w3 ⟨rfl, hb3⟩; have hS3 := DrS.grew (by assumption) hb3) | (go_at_call 28; refine (WW.out _).mono ?_; rintro e w3 ⟨rfl, hb3⟩; have hS3 := DrS.grew (by assumption) hb3) | (go_at_call 29; refine (CC.out _).mono ?_; rintro e w3 ⟨rfl, hb3⟩; have hS3 := DrS.grew (by assumption) hb3; have z3 := hS3.res.six))
  have hZ := ((((((hS3.res.set 0 (.int .i64 P)).set 1 (.int .i64 T)).set 2 (.int .i64 R)).set 3 (.int .i64 y)).set 4 (.int .i64 z)).set 5 (.int .i64 x))
  have hB := ((((((hS3.bel.setCell (p := ⟨w.heap.size + 1, 0, none⟩) (by simp) (.int .i64 P)).setCell (p := ⟨w.heap.size + 1, 1, none⟩) (by simp) (.int .i64 T)).setCell (p := ⟨w.heap.size + 1, 2, none⟩) (by simp) (.int .i64 R)).setCell (p := ⟨w.heap.size + 1, 3, none⟩) (by simp) (.int .i64 y)).setCell (p := ⟨w.heap.size + 1, 4, none⟩) (by simp) (.int .i64 z)).setCell (p := ⟨w.heap.size + 1, 5, none⟩) (by simp) (.int .i64 x))
  generalize World.setCell (World.setCell (World.setCell (World.setCell (World.setCell (World.setCell w3 _ _) _ _) _ _) _ _) _ _) _ _ = w9 at *
  have hY : Blk w9 (w.heap.size + 1) #[.int .i64 P, .int .i64 T, .int .i64 R, .int .i64 y, .int .i64 z, .int .i64 x] 32 := hZ
  obtain ⟨y0, y1, y2, y3, y4, y5⟩ := hY.six.1
  clear hZ hY z3 hS1 hS2 hS3
  go_wp2
  refine bodyPost_ret (v := .agg #[.int .i64 P, .int .i64 T, .int .i64 R, .int .i64 y, .int .i64 z, .int .i64 x]) (by simp [results, Tryd.results5, go_sem, y0, y1, y2, y3, y4, y5]) rfl ⟨rfl, hB⟩
end Go.Proofs.YtohmnjejchppkaaDoor
/- What the functions of package word return, for all integers of their kinds: bound, valid, Mask, Get, Put. No condition. -/
namespace Go.Proofs.YtohmnjejchppkaaDoor
open Go.RowKit

set_option maxHeartbeats 400000 in
theorem bound_any (n : Int) (w : World) :
    Calls Tryd.prog 87 #[.int .i64 n] w fun e w' => e = .returned (.int .i64 (bnd n)) ∧ Quiet w w' := by
  by_cases h1 : n < 0
  · have hb : bnd n = 0 := by unfold bnd; rw [if_pos h1]
    rw [hb]; clear hb
    go_enter Tryd.func87, Tryd.ntmps87
    go_wp2
    go_ret
    exact ⟨rfl, Quiet.refl _⟩
  · by_cases h2 : 64 < n
    · have hb : bnd n = 64 := by unfold bnd; rw [if_neg h1, if_pos h2]
      rw [hb]; clear hb
      go_enter Tryd.func87, Tryd.ntmps87
      go_wp2
      go_ret
      exact ⟨rfl, Quiet.refl _⟩
    · have hb : bnd n = n := by unfold bnd; rw [if_neg h1, if_neg h2]
      rw [hb]; clear hb
      go_enter Tryd.func87, Tryd.ntmps87
      go_wp2
      go_ret
      exact ⟨rfl, Quiet.refl _⟩

set_option maxHeartbeats 400000 in
theorem valid_anyWord (a d : Int) (w : World)  :
    Calls Tryd.prog 74 #[.int .i64 a, .int .i64 d] w fun e w' => e = .returned (.bool (fldB a d)) ∧ Quiet w w' := by
  by_cases hf : 0 ≤ a ∧ a < 64 ∧ 1 ≤ d ∧ d ≤ 64 - a
  · rw [fldB_mk hf]
    obtain ⟨h1, h2, h3, h4⟩ := hf
    go_enter Tryd.func74, Tryd.ntmps74
    go_wp2
    go_ret
    exact ⟨rfl, Quiet.refl _⟩
  · have hb : fldB a d = false := by unfold fldB; exact decide_eq_false hf
    rw [hb]; clear hb
    by_cases h1 : 0 ≤ a
    · by_cases h2 : a < 64
      · by_cases h3 : 1 ≤ d
        · have h4 : ¬ d ≤ 64 - a := fun h => hf ⟨h1, h2, h3, h⟩
          clear hf
          go_enter Tryd.func74, Tryd.ntmps74
          go_wp2
          go_ret
          exact ⟨rfl, Quiet.refl _⟩
        · clear hf
          go_enter Tryd.func74, Tryd.ntmps74
          go_wp2
          go_ret
          exact ⟨rfl, Quiet.refl _⟩
      · clear hf
        go_enter Tryd.func74, Tryd.ntmps74
        go_wp2
        go_ret
        exact ⟨rfl, Quiet.refl _⟩
    · clear hf
      go_enter Tryd.func74, Tryd.ntmps74
      go_wp2
      go_ret
      exact ⟨rfl, Quiet.refl _⟩

set_option maxHeartbeats 400000 in
theorem mask_any (n : Int) (w : World) :
    Calls Tryd.prog 75 #[.int .i64 n] w fun e w' => e = .returned (.int .u64 (maskI n)) ∧ Quiet w w' := by
  have hb := bnd_bd n
  go_enter Tryd.func75, Tryd.ntmps75
  go_wp2_with (go_at_call 87; refine (bound_any _ _).mono ?_; rintro e w1 ⟨rfl, hq⟩)
  go_ret
  exact ⟨ret_int (mask_wrap _ hb.1 hb.2), hq⟩

set_option maxHeartbeats 400000 in
theorem get_yes (x a d : Int) (w : World) (hx : U64 x) (h : fldB a d = true) :
    Calls Tryd.prog 83 #[.int .u64 x, .int .i64 a, .int .i64 d] w fun e w' => e = .returned (.tuple #[.int .u64 (getI x a d), .int .i64 0]) ∧ Quiet w w' := by
  rw [← get_bits x a d hx h]
  obtain ⟨h1, h2, h3, h4⟩ := fldB_true h
  go_enter Tryd.func83, Tryd.ntmps83
  go_wp2_with (go_at_call 74; refine (valid_anyWord _ _ _).mono ?_; rintro e w1 ⟨rfl, hq⟩)
  go_quiet ((go_at_call 75; exact qcall (mask_any _ _)))
  go_wp2
  go_ret2
  exact ⟨rfl, hq.trans Quiet.drew⟩

set_option maxHeartbeats 400000 in
theorem get_no (x a d : Int) (w : World) (h : fldB a d = false) :
    Calls Tryd.prog 83 #[.int .u64 x, .int .i64 a, .int .i64 d] w fun e w' => e = .returned (.tuple #[.int .u64 0, .int .i64 1]) ∧ Quiet w w' := by
  go_enter Tryd.func83, Tryd.ntmps83
  go_wp2_with (go_at_call 74; refine (valid_anyWord _ _ _).mono ?_; rintro e w1 ⟨rfl, hq⟩)
  go_ret2
  exact ⟨rfl, hq⟩

set_option maxHeartbeats 400000 in
theorem put_yes (x a d v : Int) (w : World) (hx : U64 x) (hv0 : 0 ≤ v) (h : fldB a d = true) (hv : v ≤ maskI d) :
    Calls Tryd.prog 63 #[.int .u64 x, .int .i64 a, .int .i64 d, .int .u64 v] w fun e w' => e = .returned (.tuple #[.int .u64 (putI x a d v), .int .i64 0]) ∧ Quiet w w' := by
  rw [← put_bits x a d v hx h hv0 hv]
  obtain ⟨h1, h2, h3, h4⟩ := fldB_true h
  go_enter Tryd.func63, Tryd.ntmps63
  go_wp2_with (first | (go_at_call 74; refine (valid_anyWord _ _ _).mono ?_; rintro e w1 ⟨rfl, hq⟩) | (go_at_call 75; refine (mask_any _ _).mono ?_; rintro e w2 ⟨rfl, hq2⟩))
  go_quiet ((go_at_call 75; exact qcall (mask_any _ _)))
  go_wp2
  go_ret2
  exact ⟨rfl, (hq.trans hq2).trans Quiet.drew⟩

set_option maxHeartbeats 400000 in
theorem put_no (x a d v : Int) (w : World) (h : fldB a d = false) :
    Calls Tryd.prog 63 #[.int .u64 x, .int .i64 a, .int .i64 d, .int .u64 v] w fun e w' => e = .returned (.tuple #[.int .u64 0, .int .i64 1]) ∧ Quiet w w' := by
  go_enter Tryd.func63, Tryd.ntmps63
  go_wp2_with (go_at_call 74; refine (valid_anyWord _ _ _).mono ?_; rintro e w1 ⟨rfl, hq⟩)
  go_ret2
  exact ⟨rfl, hq⟩
set_option maxHeartbeats 400000 in
theorem put_big (x a d v : Int) (w : World) (h : fldB a d = true) (hv : maskI d < v) :
    Calls Tryd.prog 63 #[.int .u64 x, .int .i64 a, .int .i64 d, .int .u64 v] w fun e w' => e = .returned (.tuple #[.int .u64 0, .int .i64 3]) ∧ Quiet w w' := by
  go_enter Tryd.func63, Tryd.ntmps63
  go_wp2_with (first | (go_at_call 74; refine (valid_anyWord _ _ _).mono ?_; rintro e w1 ⟨rfl, hq⟩) | (go_at_call 75; refine (mask_any _ _).mono ?_; rintro e w2 ⟨rfl, hq2⟩))
  go_ret2
  exact ⟨rfl, hq.trans hq2⟩
end Go.Proofs.YtohmnjejchppkaaDoor
/- What word.Pack returns, for all lists. No condition. -/
namespace Go.Proofs.YtohmnjejchppkaaDoor
open Go.RowKit

def packL : List Int → List Int → Int → Int → Int × Int
  | v :: vs, d :: ds, x, a => if fldB a d then if v ≤ maskI d then packL vs ds (putI x a d v) (a + d) else (0, 3) else (0, 1)
  | _, _, x, _ => (x, 0)
def packI (vs ds : List Int) : Int × Int := if vs.length = ds.length then packL vs ds 0 0 else (0, 1)

theorem packL_step (vs ds : List Int) (k : Nat) (x a : Int) (h1 : k < vs.length) (h2 : k < ds.length) :
    packL (vs.drop k) (ds.drop k) x a = if fldB a (ds.getD k 0) then if vs.getD k 0 ≤ maskI (ds.getD k 0) then packL (vs.drop (k + 1)) (ds.drop (k + 1)) (putI x a (ds.getD k 0) (vs.getD k 0)) (a + ds.getD k 0) else (0, 3) else (0, 1) := by
  rw [List.drop_eq_getElem_cons h1, List.drop_eq_getElem_cons h2, packL]
  simp [List.getD_eq_getElem?_getD, h1, h2]

set_option maxHeartbeats 1000000 in
theorem pack_rows (b1 o1 c1 b2 o2 c2 n : Nat) (vs ds : List Int) (w : World) (hn1 : Hid (vs.length = n)) (hn2 : Hid (ds.length = n)) (hp : 0 < n) (hm : n ≤ maxLen)
    (hc1 : Hid (∀ i, i < n → w.cell? ⟨b1, o1 + i, none⟩ = some (.int .u64 (vs.getD i 0)))) (hc2 : Hid (∀ i, i < n → w.cell? ⟨b2, o2 + i, none⟩ = some (.int .i64 (ds.getD i 0))))
    (hu : Hid (∀ i, i < n → U64 (vs.getD i 0))) :
    Calls Tryd.prog 48 #[.slice (some ⟨b1, o1, none⟩) n c1, .slice (some ⟨b2, o2, none⟩) n c2] w fun e w' => e = .returned (.tuple #[.int .u64 (packL vs ds 0 0).1, .int .i64 (packL vs ds 0 0).2]) ∧ Quiet w w' := by
  unfold maxLen at hm
  have hne : ((n : Int) != (n : Int)) = false := by simp
  go_enter Tryd.func48, Tryd.ntmps48
  go_wp2
  go_loopw [6, 7, 19] (fun x a i wr => ∃ (k : Nat) (X B : Int), k ≤ n ∧ i = .int .i64 k ∧ x = .int .u64 X ∧ a = .int .i64 B ∧ U64 X ∧ 0 ≤ B ∧ B ≤ 64 ∧ Hid (packL vs ds 0 0 = packL (vs.drop k) (ds.drop k) X B) ∧ Quiet w wr)
    (fun _ _ i _ => n - (intOf i).toNat)
  case atStart => exact ⟨0, 0, 0, Nat.zero_le _, rfl, rfl, rfl, ⟨by decide, by decide⟩, by omega, by omega, rfl, Quiet.refl _⟩
  case round =>
    obtain ⟨k, X, B, hk, rfl, rfl, rfl, hX, hB0, hB1, hr, hq⟩ := hrel
    by_cases hlt : k < n
    · have e1 := (hq.cell _).trans (hc1.out k hlt)
      have e2 := (hq.cell _).trans (hc2.out k hlt)
      have hV := hu.out k hlt
      have hst := packL_step vs ds k X B (by rw [hn1.out]; exact hlt) (by rw [hn2.out]; exact hlt)
      rw [← hr.out] at hst
      generalize vs.getD k 0 = V at *
      generalize ds.getD k 0 = E at *
      cases hf : fldB B E with
      | false =>
        rw [hf, if_neg (by simp)] at hst
        have HS := Lib.hid hst
        clear hst hr
        go_wp2_with (go_at_call 63; refine (put_no _ _ _ _ _ hf).mono ?_; rintro e w2 ⟨rfl, hq2⟩)
        go_ret2
        exact ⟨by rw [HS.out]; rfl, hq.trans hq2⟩
      | true =>
        have hf' := fldB_true hf
        rw [hf, if_pos rfl] at hst
        by_cases hmm : V ≤ maskI E
        · rw [if_pos hmm] at hst
          have HS := Lib.hid hst
          have hy := putI_U64 X B E V hX hV.1 hf hmm
          have P := Lib.hid (fun W => put_yes X B E V W hX hV.1 hf hmm)
          clear hst hr hmm
          generalize putI X B E V = Y at *
          go_wp2_with (go_at_call 63; refine (P.out _).mono ?_; rintro e w2 ⟨rfl, hq2⟩; have e3 := (hq2.cell _).trans e2)
          go_roundw
          case rel => exact ⟨k + 1, Y, B + E, by omega, by go_num, rfl, rfl, hy, by omega, by omega, HS, hq.trans hq2⟩
          case measure => simp [intOf]; omega
        · rw [if_neg hmm] at hst
          have HS := Lib.hid hst
          have hmm' : maskI E < V := by omega
          clear hst hr hmm
          go_wp2_with (go_at_call 63; refine (put_big _ _ _ _ _ hf hmm').mono ?_; rintro e w2 ⟨rfl, hq2⟩)
          go_ret2
          exact ⟨by rw [HS.out]; rfl, hq.trans hq2⟩
    · go_wp2
      go_ret2
      refine ⟨?_, hq⟩
      rw [hr.out, List.drop_eq_nil_of_le (by rw [hn1.out]; omega), packL]
      · rfl
      · simp

set_option maxHeartbeats 400000 in
theorem pack_none (a1 a2 : Option Addr) (c1 c2 : Nat) (w : World) :
    Calls Tryd.prog 48 #[.slice a1 0 c1, .slice a2 0 c2] w fun e w' => e = .returned (.tuple #[.int .u64 0, .int .i64 0]) ∧ Quiet w w' := by
  go_enter Tryd.func48, Tryd.ntmps48
  go_wp2
  go_loopw [6, 19] (fun x i wr => x = .int .u64 0 ∧ i = .int .i64 0 ∧ Quiet w wr) (fun _ _ _ => 0)
  case atStart => exact ⟨rfl, rfl, Quiet.refl _⟩
  case round =>
    obtain ⟨rfl, rfl, hq⟩ := hrel
    go_wp2
    go_ret2
    exact ⟨rfl, hq⟩

set_option maxHeartbeats 400000 in
theorem pack_odd (a1 a2 : Option Addr) (n1 n2 c1 c2 : Nat) (w : World) (h : ((n1 : Int) != (n2 : Int)) = true) :
    Calls Tryd.prog 48 #[.slice a1 n1 c1, .slice a2 n2 c2] w fun e w' => e = .returned (.tuple #[.int .u64 0, .int .i64 1]) ∧ Quiet w w' := by
  go_enter Tryd.func48, Tryd.ntmps48
  go_wp2
  go_ret2
  exact ⟨rfl, Quiet.refl _⟩

theorem Lst.form {k : IntKind} {w : World} {v : Value} {zs : List Int} (h : Lst k w v zs) : ∃ a c, v = .slice a zs.length c := by
  rcases h with ⟨rfl, a, c, rfl⟩ | ⟨b, o, c, rfl, _⟩
  · exact ⟨a, c, rfl⟩
  · exact ⟨_, c, rfl⟩

theorem pack_any (v1 v2 : Value) (vs ds : List Int) (w : World) (h1 : Lst .u64 w v1 vs) (h2 : Lst .i64 w v2 ds) (hu : ∀ x ∈ vs, U64 x) :
    Calls Tryd.prog 48 #[v1, v2] w fun e w' => e = .returned (.tuple #[.int .u64 (packI vs ds).1, .int .i64 (packI vs ds).2]) ∧ Quiet w w' := by
  by_cases hlen : vs.length = ds.length
  · have hp : packI vs ds = packL vs ds 0 0 := by unfold packI; rw [if_pos hlen]
    rw [hp]
    rcases h1 with ⟨rfl, a1, c1, rfl⟩ | ⟨b1, o1, c1, rfl, hp1, hm1, hc1⟩
    · rcases h2 with ⟨rfl, a2, c2, rfl⟩ | ⟨b2, o2, c2, rfl, hp2, hm2, hc2⟩
      · exact pack_none a1 a2 c1 c2 w
      · rw [← hlen] at hp2
        exact absurd hp2 (by simp)
    · rcases h2 with ⟨rfl, a2, c2, rfl⟩ | ⟨b2, o2, c2, rfl, hp2, hm2, hc2⟩
      · rw [hlen] at hp1
        exact absurd hp1 (by simp)
      · rw [← hlen] at hc2 ⊢
        refine pack_rows b1 o1 c1 b2 o2 c2 vs.length vs ds w rfl hlen.symm hp1 hm1 hc1 hc2 fun i hi => ?_
        have e : vs.getD i 0 = vs[i] := by simp [List.getD_eq_getElem?_getD, hi]
        rw [e]
        exact hu _ (List.getElem_mem hi)
  · have hp : packI vs ds = (0, 1) := by unfold packI; rw [if_neg hlen]
    rw [hp]
    obtain ⟨a1, c1, rfl⟩ := h1.form
    obtain ⟨a2, c2, rfl⟩ := h2.form
    exact pack_odd a1 a2 _ _ c1 c2 w (by rw [bne_iff_ne]; omega)
end Go.Proofs.YtohmnjejchppkaaDoor
/- What word.Unpack returns, for all lists of widths: new memory that holds the numbers, or none. No condition. -/
namespace Go.Proofs.YtohmnjejchppkaaDoor
open Go.RowKit

/-- the numbers, if every width finds its field -/
def unpackL : List Int → Int → Int → Option (List Int)
  | [], _, _ => some []
  | d :: ds, x, a => if fldB a d then (unpackL ds x (a + d)).map (getI x a d :: ·) else none
theorem unpackL_step (ds : List Int) (k : Nat) (x a : Int) (h : k < ds.length) :
    unpackL (ds.drop k) x a = if fldB a (ds.getD k 0) then (unpackL (ds.drop (k + 1)) x (a + ds.getD k 0)).map (getI x a (ds.getD k 0) :: ·) else none := by
  rw [List.drop_eq_getElem_cons h, unpackL]
  simp [List.getD_eq_getElem?_getD, h]
theorem unpack_snoc (o : Option (List Int)) (acc : List Int) (g : Int) : ((o.map (g :: ·)).map (acc ++ ·)) = o.map ((acc ++ [g]) ++ ·) := by
  cases o <;> simp
theorem getI_wf (x a d : Int) (hx : U64 x) (_h : fldB a d = true) : U64 (getI x a d) := by
  obtain ⟨hx0, hx1⟩ := hx
  refine U64.nat _ (Nat.lt_of_le_of_lt (Nat.mod_le _ _) ?_)
  rw [Nat.shiftRight_eq_div_pow]
  exact Nat.lt_of_le_of_lt (Nat.div_le_self _ _) (by omega)
/-- What becomes of a call that hands back a slice of numbers of its own and an error's number: a list where there is one, else nil. -/
def UnpackPost (r : Option (List Int)) (w : World) (e : Ending) (w' : World) : Prop :=
  ∃ v, e = .returned (.tuple #[v, .int .i64 (if r.isSome then 0 else 1)]) ∧ Lst .u64 w' v (r.getD []) ∧ Below w.heap.size w w'
set_option maxHeartbeats 1000000 in
theorem unpack_rows (x : Int) (b1 o1 c1 n : Nat) (ds : List Int) (w : World) (hx : U64 x) (hn1 : Hid (ds.length = n)) (hp : 0 < n) (hm : n ≤ maxLen)
    (hc1 : Hid (∀ i, i < n → w.cell? ⟨b1, o1 + i, none⟩ = some (.int .i64 (ds.getD i 0)))) (hlt1 : b1 < w.heap.size) :
    Calls Tryd.prog 69 #[.int .u64 x, .slice (some ⟨b1, o1, none⟩) n c1] w (UnpackPost (unpackL ds x 0) w) := by
  unfold maxLen at hm
  obtain ⟨i0, hi, hz0, hz1, hz2⟩ := info_parts info_u64
  go_enter Tryd.func69, Tryd.ntmps69
  go_wp2
  go_loopw [6, 7, 14] (fun v a i wr => ∃ (k : Nat) (acc : List Int) (B : Int), k ≤ n ∧ i = .int .i64 k ∧ a = .int .i64 B ∧ 0 ≤ B ∧ (k : Int) ≤ B ∧ B ≤ 64 ∧ Hid (acc.length = k) ∧ Hid (unpackL ds x 0 = (unpackL (ds.drop k) x B).map (acc ++ ·)) ∧
      wr.ownsRow w.heap.size 26 1 v k (acc.map (Value.int .u64)) ∧ Below w.heap.size w wr)
    (fun _ _ i _ => n - (intOf i).toNat)
  case atStart => exact ⟨0, [], 0, Nat.zero_le _, rfl, rfl, by omega, by omega, by omega, rfl, by simp [Hid], World.ownsRow_nil _ _ _ _, Below.refl _ _⟩
  case round =>
    obtain ⟨k, acc, B, hk, rfl, rfl, hB0, hkB, hB1, hacc, hr, hown, hb⟩ := hrel
    by_cases hlt : k < n
    · have e1 := (hb.cell (p := ⟨b1, o1 + k, none⟩) hlt1).trans (hc1.out k hlt)
      have hst := unpackL_step ds k x B (by rw [hn1.out]; exact hlt)
      have hrr := hr.out
      rw [hst] at hrr
      generalize ds.getD k 0 = E at *
      cases hf : fldB B E with
      | false =>
        rw [hf, if_neg (by simp)] at hrr
        have HS := Lib.hid hrr
        clear hst hr hrr
        go_wp2_with (go_at_call 83; refine (get_no _ _ _ _ hf).mono ?_; rintro e w2 ⟨rfl, hq2⟩)
        go_ret2
        exact ⟨_, by rw [HS.out]; rfl, by rw [HS.out]; exact .inl ⟨rfl, none, 0, rfl⟩, hb.trans hq2.below⟩
      | true =>
        have hf' := fldB_true hf
        rw [hf, if_pos rfl, unpack_snoc] at hrr
        have HS := Lib.hid hrr
        have P := Lib.hid (fun W => get_yes x B E W hx hf)
        have hy := getI_wf x B E hx hf
        clear hst hr hrr
        generalize getI x B E = Y at *
        have hsz := hb.size
        go_wp2_with (first | (go_at_call 83; refine (P.out _).mono ?_; rintro e w2 ⟨rfl, hq2⟩; have hown2 := hq2.ownsRow hown; have hb2 := hb.trans (hq2.below (B := w.heap.size)); have hsz2 := hb2.size) | (at_builtin; refine wpList_append_own _ rfl _ _ 43 rfl w.heap.size 26 i0 (.int .u64 0) 1 8 Tryd.underlying43 hi hz0 hz1 hz2 rfl (by decide) _ _ _ rfl (hown2.alloc _) ⟨w2.heap.size, 0, none⟩ 1 1 [.int .u64 Y] rfl rfl (cell_one_new _ _ _) ?c2 ?c3 ?c4 ?c5 ?_))
        case c2 => simp [Value.oneCell']
        case c3 => unfold maxLen; omega
        case c4 => omega
        case c5 => simp; omega
        intro v' w3 hown3 hgrow _
        have hb3 : Below w.heap.size w w3 := (hb2.alloc hsz2 _).grown hgrow (by simp; omega) (fun j hj => (hown2.lt j hj).1)
        have hown4 : w3.ownsRow w.heap.size 26 1 v' (k + 1) ((acc ++ [Y]).map (Value.int .u64)) := by rw [List.map_append]; exact hown3
        clear hown3 hgrow hown2 hown hb2 hb e1
        go_wp2
        go_roundw
        case rel => exact ⟨k + 1, acc ++ [Y], B + E, by omega, by go_num, rfl, by omega, by omega, by omega, by rw [Hid, List.length_append, hacc.out]; rfl, HS, hown4, hb3⟩
        case measure => simp [intOf]; omega
    · go_wp2
      go_ret2
      have hacc' : unpackL ds x 0 = some acc := by rw [hr.out, List.drop_eq_nil_of_le (by rw [hn1.out]; omega), unpackL]; simp
      exact ⟨_, by rw [hacc']; rfl, by rw [hacc']; exact lst_of_own hown, hb⟩

set_option maxHeartbeats 400000 in
theorem unpack_none (x : Int) (a1 : Option Addr) (c1 : Nat) (w : World) :
    Calls Tryd.prog 69 #[.int .u64 x, .slice a1 0 c1] w (UnpackPost (some []) w) := by
  go_enter Tryd.func69, Tryd.ntmps69
  go_wp2
  go_loopw [6, 14] (fun v i wr => v = .slice none 0 0 ∧ i = .int .i64 0 ∧ Below w.heap.size w wr) (fun _ _ _ => 0)
  case atStart => exact ⟨rfl, rfl, Below.refl _ _⟩
  case round =>
    obtain ⟨rfl, rfl, hq⟩ := hrel
    go_wp2
    go_ret2
    exact ⟨_, rfl, .inl ⟨rfl, none, 0, rfl⟩, hq⟩

theorem unpack_any (x : Int) (v : Value) (ds : List Int) (w : World) (hx : U64 x) (h : Lst .i64 w v ds) :
    Calls Tryd.prog 69 #[.int .u64 x, v] w (UnpackPost (unpackL ds x 0) w) := by
  rcases h with ⟨rfl, a1, c1, rfl⟩ | ⟨b1, o1, c1, rfl, hp1, hm1, hc1⟩
  · exact unpack_none x a1 c1 w
  · exact unpack_rows x b1 o1 c1 ds.length ds w hx rfl hp1 hm1 hc1 (World.block_lt_of_cell? w _ (hc1 0 hp1))
/-- .. where every width finds its field, and there is one. -/
theorem unpack_row (x : Int) (v : Value) (ds zs : List Int) (n : Nat) (w : World) (hx : U64 x) (h : Lst .i64 w v ds) (hu : unpackL ds x 0 = some zs) (hn : zs.length = n) (h0 : 0 < n) :
    Calls Tryd.prog 69 #[.int .u64 x, v] w fun e w' => ∃ b o c, e = .returned (.tuple #[.slice (some ⟨b, o, none⟩) n c, .int .i64 0]) ∧ (∀ i, i < n → w'.cell? ⟨b, o + i, none⟩ = some (.int .u64 (zs.getD i 0))) ∧ n ≤ maxLen ∧ Below w.heap.size w w' := by
  subst hn
  refine (unpack_any x v ds w hx h).mono ?_
  rintro e w' ⟨v2, he, hl, hb⟩
  rw [hu] at he hl
  rcases hl with ⟨h1, _⟩ | ⟨b, o, c, h1, _, h3, h4⟩
  · rw [show (some zs).getD [] = zs from rfl] at h1
    rw [h1] at h0
    exact absurd h0 (by simp)
  · exact ⟨b, o, c, by rw [he, h1]; rfl, h4, h3, hb⟩
theorem unpack_empty (x : Int) (v : Value) (ds : List Int) (w : World) (hx : U64 x) (h : Lst .i64 w v ds) (hu : unpackL ds x 0 = some []) :
    Calls Tryd.prog 69 #[.int .u64 x, v] w fun e w' => ∃ a c, e = .returned (.tuple #[.slice a 0 c, .int .i64 0]) ∧ Below w.heap.size w w' := by
  refine (unpack_any x v ds w hx h).mono ?_
  rintro e w' ⟨v2, he, hl, hb⟩
  rw [hu] at he hl
  rcases hl with ⟨_, a, c, h1⟩ | ⟨b, o, c, h1, h2, _⟩
  · exact ⟨a, c, by rw [he, h1]; rfl, hb⟩
  · exact absurd h2 (by simp)
end Go.Proofs.YtohmnjejchppkaaDoor
