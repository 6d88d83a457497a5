/- Texts of this seat, one behind the other: each says at its head what it holds. No condition of its own. -/
import Derived.Deep.RegionHeld3
import Derived.Deep.QuietTactic
import Derived.BigQuiet
import Derived.Test.YtlhigibgjggidaaGB01
import Derived.Test.YtlhigibgjggidaaGB09
/- What New, Peek, Poke and Image of package arena return. Condition: the arena's blocks are there. -/
namespace Go.Proofs.Ytlhigibgjggidaa
open Go.RowKit
def zeros (n : Nat) : Array Value := ((List.replicate n (0 : Int)).map (Value.int .u64)).toArray
theorem madeCells_zeros (n : Nat) : madeCells #[Value.int .u64 0] (n * 1) = zeros n := by
  unfold madeCells zeros
  apply Array.ext
  · simp
  · intro i h1 h2
    simp [show i % 1 = 0 by omega]
theorem info_u64 : (Try.prog.info? 41).map (fun i => (i.zero, i.size, i.bytes)) = some (some (.int .u64 0), 1, 8) := by kernel_rfl
theorem run_mk (W : World) (n : Int) (h0 : 0 ≤ n) (h1 : n ≤ 4096) : (Instr.makeSlice 32 (.int .i64 n) (.int .i64 n)).run Try.prog W = .ok (.slice (some ⟨W.heap.size, 0, none⟩) n.toNat n.toNat) (W.alloc (.cells (zeros n.toNat) 41)) := by
  obtain ⟨i0, hi0, hz0, hz1, hz2⟩ := info_parts info_u64
  rw [run_make W 32 41 i0 _ Try.underlying32 hi0 hz0 .i64 .i64 n n h0 (Int.le_refl _) (by rw [hz2]; omega) (by omega), hz1, ← madeCells_zeros]
  rfl
set_option maxHeartbeats 400000 in
theorem new_no (n : Int) (keep : Bool) (w : World) (h : n < 1 ∨ 4096 < n) :
    Calls Try.prog 35 #[.int .i64 n, .bool keep] w fun e w' => e = .returned (.tuple #[.pointer none, .int .i64 1]) ∧ Quiet w w' := by
  rcases h with h | h
  · go_enter Try.func35, Try.ntmps35
    go_wp2
    go_ret2
    exact ⟨rfl, Quiet.refl _⟩
  · have h' : ¬ n < 1 := by omega
    go_enter Try.func35, Try.ntmps35
    go_wp2
    go_ret2
    exact ⟨rfl, Quiet.refl _⟩
def NewPost (n : Nat) (keep : Bool) (w : World) (e : Ending) (w' : World) : Prop :=
  ∃ a c, e = .returned (.tuple #[.pointer (some ⟨a, 0, none⟩), .int .i64 0]) ∧ ArenaAt w' a c (List.replicate n 0) keep (.slice none 0 0) 0 0 ∧ w.heap.size ≤ a ∧ w.heap.size ≤ c ∧ Below w.heap.size w w'
set_option maxHeartbeats 400000 in
theorem new_yes (n : Nat) (keep : Bool) (w : World) (h0 : 1 ≤ n) (h1 : n ≤ 4096) :
    Calls Try.prog 35 #[.int .i64 n, .bool keep] w (NewPost n keep w) := by
  have hmk := fun W => run_mk W n (by omega) (by omega)
  go_enter Try.func35, Try.ntmps35
  go_wp2
  go_ret2
  exact ⟨w.heap.size + 1, w.heap.size, rfl, ⟨by rw [List.length_replicate]; exact Blk.new' (by simp), (Blk.new' rfl).alloc _, by omega⟩, by omega, Nat.le_refl _, ((Below.refl _ _).alloc (Nat.le_refl _) _).alloc (by simp) _⟩
section
variable {a c : Nat} {cs : List Int} {keep : Bool} {lv : Value} {n f : Int} {w : World}
set_option maxHeartbeats 400000 in
theorem peek_nil (i : Int) (w : World) :
    Calls Try.prog 40 #[.pointer none, .int .i64 i] w fun e w' => e = .returned (.tuple #[.int .u64 0, .int .i64 2]) ∧ Quiet w w' := by
  go_enter Try.func40, Try.ntmps40
  go_wp2
  go_ret2
  exact ⟨rfl, Quiet.refl _⟩
set_option maxHeartbeats 400000 in
theorem peek_no (i : Int) (hA : ArenaAt w a c cs keep lv n f) (hi : insB cs.length i = false) :
    Calls Try.prog 40 #[.pointer (some ⟨a, 0, none⟩), .int .i64 i] w fun e w' => e = .returned (.tuple #[.int .u64 0, .int .i64 5]) ∧ Quiet w w' := by
  have c0 := hA.c0
  clear hA
  go_enter Try.func40, Try.ntmps40
  go_wp2_with (go_at_call 60; refine (inside_no hi _ _ _).mono ?_; rintro e w1 ⟨rfl, hq⟩)
  go_ret2
  exact ⟨rfl, hq⟩
set_option maxHeartbeats 400000 in
theorem peek_yes (i : Nat) (hA : ArenaAt w a c cs keep lv n f) (hi : i < cs.length) (_hm : cs.length ≤ 1000000) :
    Calls Try.prog 40 #[.pointer (some ⟨a, 0, none⟩), .int .i64 i] w fun e w' => e = .returned (.tuple #[.int .u64 (cs.getD i 0), .int .i64 0]) ∧ Quiet w w' := by
  have I := Lib.hid (fun W => inside_yes (show insB cs.length i = true from decide_eq_true ⟨by omega, by omega⟩) (some ⟨c, 0, none⟩) cs.length W)
  have hi0 : (0 : Int) ≤ (i : Int) := by omega
  have hi1 : (i : Int) < (cs.length : Int) := by omega
  have c0 := hA.c0
  have cc := hA.cell i hi
  clear hA
  generalize cs.getD i 0 = z at *
  go_enter Try.func40, Try.ntmps40
  go_wp2_with (go_at_call 60; refine (I.out _).mono ?_; rintro e w1 ⟨rfl, m1, rfl⟩)
  go_ret2
  exact ⟨rfl, Quiet.drew⟩
set_option maxHeartbeats 400000 in
theorem poke_nil (i v : Int) (w : World) :
    Calls Try.prog 22 #[.pointer none, .int .i64 i, .int .u64 v] w fun e w' => e = .returned (.int .i64 2) ∧ Quiet w w' := by
  go_enter Try.func22, Try.ntmps22
  go_wp2
  go_ret
  exact ⟨rfl, Quiet.refl _⟩
set_option maxHeartbeats 400000 in
theorem poke_no (i v : Int) (hA : ArenaAt w a c cs keep lv n f) (hi : insB cs.length i = false) :
    Calls Try.prog 22 #[.pointer (some ⟨a, 0, none⟩), .int .i64 i, .int .u64 v] w fun e w' => e = .returned (.int .i64 5) ∧ Quiet w w' := by
  have c0 := hA.c0
  clear hA
  go_enter Try.func22, Try.ntmps22
  go_wp2_with (go_at_call 60; refine (inside_no hi _ _ _).mono ?_; rintro e w1 ⟨rfl, hq⟩)
  go_ret
  exact ⟨rfl, hq⟩
set_option maxHeartbeats 400000 in
theorem poke_yes (i : Nat) (v : Int) (hA : ArenaAt w a c cs keep lv n f) (hi : i < cs.length) (_hm : cs.length ≤ 1000000) :
    Calls Try.prog 22 #[.pointer (some ⟨a, 0, none⟩), .int .i64 i, .int .u64 v] w fun e w' => e = .returned (.int .i64 0) ∧ ArenaAt w' a c (cs.set i v) keep lv n f ∧ Touch (fun b => b = c) w w' := by
  have I := Lib.hid (fun W => inside_yes (show insB cs.length i = true from decide_eq_true ⟨by omega, by omega⟩) (some ⟨c, 0, none⟩) cs.length W)
  have hi0 : (0 : Int) ≤ (i : Int) := by omega
  have hi1 : (i : Int) < (cs.length : Int) := by omega
  have c0 := hA.c0
  have cc := hA.cell i hi
  have fc := hA.row.frozen i
  go_enter Try.func22, Try.ntmps22
  go_wp2_with (go_at_call 60; refine (I.out _).mono ?_; rintro e w1 ⟨rfl, m1, rfl⟩)
  go_ret
  exact ⟨rfl, (hA.drewN _).stored i v, ((Touch.refl _ _).drewN _).setCell (by rfl) _⟩
end
end Go.Proofs.Ytlhigibgjggidaa
/- An arena with a log as one fact, with the list of the blocks that are none of its own: what its ports' accesses do. Condition: its blocks are there, its counts are small. -/
namespace Go.Proofs.Ytlhigibgjggidaa
open Go.RowKit
/-- An arena that keeps its log, made at or behind block B: cells cs, n accesses made, no fault; the blocks of K are none of its own. -/
structure Arx (w : World) (B a c : Nat) (cs : List Int) (xs : List Value) (n : Nat) (K : List Nat) : Prop where
  ex : ∃ lv, ArenaL w B a c cs lv xs n 0 ∧ ∀ g, lv.ownBlock = some g → g ∉ K
  na : a ∉ K
  nc : c ∉ K
  lt : ∀ b ∈ K, b < w.heap.size
  ba : B ≤ a
  bc : B ≤ c
  bw : B ≤ w.heap.size
section
variable {w w' : World} {B a c p : Nat} {cs : List Int} {xs : List Value} {n : Nat} {K : List Nat} {who : Int} {i : Nat}
theorem Arx.touch {R : Nat → Prop} (h : Arx w B a c cs xs n K) (ht : Touch R w w') (hR : ∀ b, R b → b ∈ K) : Arx w' B a c cs xs n K := by
  obtain ⟨⟨lv, hL, hg⟩, h1, h2, h3, h4, h5, h6⟩ := h
  exact ⟨⟨lv, hL.touch ht (fun r => h1 (hR _ r)) (fun r => h2 (hR _ r)) (fun g e r => hg g e (hR _ r)), hg⟩, h1, h2, fun b hb => Nat.lt_of_lt_of_le (h3 b hb) ht.size, h4, h5, Nat.le_trans h6 ht.size⟩
theorem Arx.grew (h : Arx w B a c cs xs n K) (hb : Below w.heap.size w w') : Arx w' B a c cs xs n K :=
  h.touch (R := fun _ => False) (Touch.of hb) (fun _ h => h.elim)
theorem Arx.quiet (h : Arx w B a c cs xs n K) (hq : Quiet w w') : Arx w' B a c cs xs n K := h.grew hq.below
theorem Arx.a_lt (h : Arx w B a c cs xs n K) : a < w.heap.size := by
  obtain ⟨lv, hL, _⟩ := h.ex; exact hL.at'.own.lt
theorem Arx.c_lt (h : Arx w B a c cs xs n K) : c < w.heap.size := by
  obtain ⟨lv, hL, _⟩ := h.ex; exact hL.at'.row.lt
/-- a block that came later is none of its own -/
theorem Arx.add (h : Arx w B a c cs xs n K) (hb : Below w.heap.size w w') {m : Nat} (hm : w.heap.size ≤ m) (hm' : m < w'.heap.size) : Arx w' B a c cs xs n (m :: K) := by
  obtain ⟨⟨lv, hL, hg⟩, h1, h2, h3, h4, h5, h6⟩ := h
  have la := hL.at'.own.lt
  have lc := hL.at'.row.lt
  have lg := fun g hg => (hL.own.lt g hg).2
  refine ⟨⟨lv, hL.grew hb, fun g e => ?_⟩, ?_, ?_, ?_, h4, h5, Nat.le_trans h6 hb.size⟩
  · have := lg g e
    rw [List.mem_cons]
    rintro (rfl | r)
    · omega
    · exact hg g e r
  · rw [List.mem_cons]
    rintro (rfl | r)
    · omega
    · exact h1 r
  · rw [List.mem_cons]
    rintro (rfl | r)
    · omega
    · exact h2 r
  · intro b hb'
    rcases List.mem_cons.1 hb' with rfl | r
    · exact hm'
    · exact Nat.lt_of_lt_of_le (h3 b r) hb.size
theorem Arx.sub {K' : List Nat} (h : Arx w B a c cs xs n K) (hs : ∀ b ∈ K', b ∈ K) : Arx w B a c cs xs n K' := by
  obtain ⟨⟨lv, hL, hg⟩, h1, h2, h3, h4, h5, h6⟩ := h
  exact ⟨⟨lv, hL, fun g e r => hg g e (hs _ r)⟩, fun r => h1 (hs _ r), fun r => h2 (hs _ r), fun b hb => h3 b (hs _ hb), h4, h5, h6⟩
/-- what an access through port p leaves -/
def ArxStep (B a c p : Nat) (cs : List Int) (xs : List Value) (n : Nat) (K : List Nat) (i : Nat) (who k want put : Int) (w w' : World) : Prop :=
  Arx w' B a c (cs.set i (leftI k (cs.getD i 0) want put)) (xs ++ accV who k i want put (cs.getD i 0) (leftI k (cs.getD i 0) want put)) (n + 1) K ∧ PortAt w' p a who false ∧ Touch (fun b => b = p ∨ (B ≤ b ∧ b ∉ K)) w w'
theorem LogStep.arx {lv : Value} {k want put : Int} (h : LogStep B a c p cs lv xs n 0 i who k want put w w') (hA : Arx w B a c cs xs n K) (hL : ArenaL w B a c cs lv xs n 0) (hg : ∀ g, lv.ownBlock = some g → g ∉ K) : ArxStep B a c p cs xs n K i who k want put w w' := by
  obtain ⟨lv', hL', hP', hg', hT⟩ := h
  refine ⟨⟨⟨lv', hL', fun g e r => ?_⟩, hA.na, hA.nc, fun b hb => Nat.lt_of_lt_of_le (hA.lt b hb) hT.size, hA.ba, hA.bc, Nat.le_trans hA.bw hT.size⟩, hP', hT.mono fun b hb hr => ?_⟩
  · rcases hg' g e with h | h
    · exact hg g h r
    · have := hA.lt g r
      omega
  · rcases hr with rfl | rfl | rfl | e
    · exact .inr ⟨hA.ba, hA.na⟩
    · exact .inr ⟨hA.bc, hA.nc⟩
    · exact .inl rfl
    · exact .inr ⟨(hL.own.lt b e).1, hg b e⟩
theorem load_x (hA : Arx w B a c cs xs n K) (hP : PortAt w p a who true) (hp : p ∈ K) (hn : n < 1000000) (hi : i < cs.length) :
    Calls Try.prog 67 #[.pointer (some ⟨p, 0, none⟩), .int .i64 i] w fun e w' => (e = .returned (.int .u64 (cs.getD i 0))) ∧ ArxStep B a c p cs xs n K i who 1 0 0 w w' := by
  obtain ⟨lv, hL, hg⟩ := hA.ex
  exact (load_log B a c p cs lv xs n 0 who i w hL hP (fun e => hA.na (e ▸ hp)) (fun e => hA.nc (e ▸ hp)) (fun e => hg p e hp) hA.bw hn hi).mono fun e w' ⟨he, hs⟩ => ⟨he, hs.arx hA hL hg⟩
theorem store_x (v : Int) (hA : Arx w B a c cs xs n K) (hP : PortAt w p a who true) (hp : p ∈ K) (hn : n < 1000000) (hi : i < cs.length) :
    Calls Try.prog 64 #[.pointer (some ⟨p, 0, none⟩), .int .i64 i, .int .u64 v] w fun e w' => (∃ u, e = .returned u) ∧ ArxStep B a c p cs xs n K i who 2 0 v w w' := by
  obtain ⟨lv, hL, hg⟩ := hA.ex
  exact (store_log B a c p cs lv xs n 0 who i v w hL hP (fun e => hA.na (e ▸ hp)) (fun e => hA.nc (e ▸ hp)) (fun e => hg p e hp) hA.bw hn hi).mono fun e w' ⟨he, hs⟩ => ⟨he, hs.arx hA hL hg⟩
theorem poke_x (v : Int) (hA : Arx w B a c cs xs n K) (hi : i < cs.length) (hm : cs.length ≤ 1000000) :
    Calls Try.prog 22 #[.pointer (some ⟨a, 0, none⟩), .int .i64 i, .int .u64 v] w fun e w' => e = .returned (.int .i64 0) ∧ Arx w' B a c (cs.set i v) xs n K ∧ Touch (fun b => b = c) w w' := by
  obtain ⟨lv, hL, hg⟩ := hA.ex
  refine (poke_yes i v hL.at' hi hm).mono fun e w' ⟨he, hA', hT⟩ => ⟨he, ⟨⟨lv, ⟨hA', own_touch hL.own hT (fun g e r => hL.apc (e.trans (by rw [r]))), hL.apa, hL.apc⟩, hg⟩, hA.na, hA.nc, fun b hb => Nat.lt_of_lt_of_le (hA.lt b hb) hT.size, hA.ba, hA.bc, Nat.le_trans hA.bw hT.size⟩, hT⟩
theorem peek_x (hA : Arx w B a c cs xs n K) (hi : i < cs.length) (hm : cs.length ≤ 1000000) :
    Calls Try.prog 40 #[.pointer (some ⟨a, 0, none⟩), .int .i64 i] w fun e w' => e = .returned (.tuple #[.int .u64 (cs.getD i 0), .int .i64 0]) ∧ Quiet w w' := by
  obtain ⟨lv, hL, _⟩ := hA.ex
  exact peek_yes i hL.at' hi hm
/-- the arena that New makes -/
theorem ArenaAt.arx {m : Nat} (hA : ArenaAt w a c (List.replicate m 0) true (.slice none 0 0) 0 0) (ha : B ≤ a) (hc : B ≤ c) (hb : B ≤ w.heap.size) : Arx w B a c (List.replicate m 0) [] 0 [] :=
  ⟨⟨_, ⟨hA, World.ownsRow_nil _ _ _ _, by simp [Value.ownBlock], by simp [Value.ownBlock]⟩, fun _ _ => List.not_mem_nil⟩, List.not_mem_nil, List.not_mem_nil, fun _ h => absurd h List.not_mem_nil, ha, hc, hb⟩
end
end Go.Proofs.Ytlhigibgjggidaa
/- What the functions of package layout return for a plan that may be, and for one that may not. No condition but that the numbers fit their kinds. -/
namespace Go.Proofs.Ytlhigibgjggidaa
open Go.RowKit

theorem op_at {l : List Oper} {i : Nat} {o : Oper} (h : l[i]? = some o) : l.toArray[i]? = some o := by simpa using h
theorem wi {x : Int} (h : -1000000000000 ≤ x ∧ x ≤ 1000000000000) : IntKind.i64.wrap x = x := by
  rw [IntKind.wrap_i64]; omega
def inB (n lo hi : Int) : Bool := decide (lo ≤ n ∧ n ≤ hi)
def rightB (P T R : Int) : Bool := inB P 1 32 && (inB T 1 6 && inB R 1 16)
def Right (P T R : Int) : Prop := (1 ≤ P ∧ P ≤ 32) ∧ (1 ≤ T ∧ T ≤ 6) ∧ (1 ≤ R ∧ R ≤ 16)
theorem right_of {P T R : Int} (h : rightB P T R = true) : Right P T R := by
  simp [rightB, inB] at h
  unfold Right; omega
theorem of_right {P T R : Int} (h : Right P T R) : rightB P T R = true := by
  unfold Right at h
  simp [rightB, inB]; omega
set_option maxHeartbeats 400000 in
theorem within_any (n lo hi : Int) (w : World) :
    Calls Try.prog 88 #[.int .i64 n, .int .i64 lo, .int .i64 hi] w fun e w' => e = .returned (.bool (inB n lo hi)) ∧ Below w.heap.size w w' := by
  by_cases h1 : lo ≤ n
  · by_cases h2 : n ≤ hi
    · rw [show inB n lo hi = true from decide_eq_true ⟨h1, h2⟩]
      go_enter Try.func88, Try.ntmps88
      go_wp2
      go_ret
      exact ⟨rfl, Below.refl _ _⟩
    · rw [show inB n lo hi = false from decide_eq_false (fun h => h2 h.2)]
      go_enter Try.func88, Try.ntmps88
      go_wp2
      go_ret
      exact ⟨rfl, Below.refl _ _⟩
  · rw [show inB n lo hi = false from decide_eq_false (fun h => h1 h.1)]
    go_enter Try.func88, Try.ntmps88
    go_wp2
    go_ret
    exact ⟨rfl, Below.refl _ _⟩
/-- A plan's box, and all that was there below it. -/
theorem planKeep {w W W' : World} {b : Nat} {P T R : Int} (h : (W.cell? ⟨b, 0, none⟩ = some (.int .i64 P) ∧ W.cell? ⟨b, 1, none⟩ = some (.int .i64 T) ∧ W.cell? ⟨b, 2, none⟩ = some (.int .i64 R)) ∧ Below w.heap.size w W) (hb : Below W.heap.size W W') :
    (W'.cell? ⟨b, 0, none⟩ = some (.int .i64 P) ∧ W'.cell? ⟨b, 1, none⟩ = some (.int .i64 T) ∧ W'.cell? ⟨b, 2, none⟩ = some (.int .i64 R)) ∧ Below w.heap.size w W' := by
  obtain ⟨⟨h0, h1, h2⟩, hB⟩ := h
  have hl := World.block_lt_of_cell? W _ h0
  exact ⟨⟨(hb.cell (p := ⟨b, 0, none⟩) hl).trans h0, (hb.cell (p := ⟨b, 1, none⟩) hl).trans h1, (hb.cell (p := ⟨b, 2, none⟩) hl).trans h2⟩, hB.trans (hb.mono hB.size)⟩
theorem planHeld {w W : World} {b : Nat} {P T R : Int} (h : (W.cell? ⟨b, 0, none⟩ = some (.int .i64 P) ∧ W.cell? ⟨b, 1, none⟩ = some (.int .i64 T) ∧ W.cell? ⟨b, 2, none⟩ = some (.int .i64 R)) ∧ Below w.heap.size w W) :
    (W.cell? ⟨b, 0, none⟩ = some (.int .i64 P) ∧ W.cell? ⟨b, 1, none⟩ = some (.int .i64 T) ∧ W.cell? ⟨b, 2, none⟩ = some (.int .i64 R)) ∧ Below w.heap.size w W := h
theorem planNew (w : World) (P T R : Int) (t : TypeId) :
    ((w.alloc (.cells #[.int .i64 P, .int .i64 T, .int .i64 R] t)).cell? ⟨w.heap.size, 0, none⟩ = some (.int .i64 P) ∧ (w.alloc (.cells #[.int .i64 P, .int .i64 T, .int .i64 R] t)).cell? ⟨w.heap.size, 1, none⟩ = some (.int .i64 T) ∧ (w.alloc (.cells #[.int .i64 P, .int .i64 T, .int .i64 R] t)).cell? ⟨w.heap.size, 2, none⟩ = some (.int .i64 R)) ∧ Below w.heap.size w (w.alloc (.cells #[.int .i64 P, .int .i64 T, .int .i64 R] t)) :=
  ⟨⟨(Blk.new w _ t).val 0 rfl, (Blk.new w _ t).val 1 rfl, (Blk.new w _ t).val 2 rfl⟩, (Below.refl _ _).alloc (Nat.le_refl _) _⟩
set_option maxHeartbeats 400000 in
theorem valid_any (P T R : Int) (w : World) :
    Calls Try.prog 72 #[.agg #[.int .i64 P, .int .i64 T, .int .i64 R]] w fun e w' => e = .returned (.bool (rightB P T R)) ∧ Below w.heap.size w w' := by
  unfold rightB
  have W1 := Lib.hid (fun W => within_any P 1 32 W)
  have W2 := Lib.hid (fun W => within_any T 1 6 W)
  have W3 := Lib.hid (fun W => within_any R 1 16 W)
  generalize inB P 1 32 = b1 at *
  generalize inB T 1 6 = b2 at *
  generalize inB R 1 16 = b3 at *
  cases b1 with
  | false =>
    go_enter Try.func72, Try.ntmps72
    have c0 := (planNew w P T R 53)
    go_wp2_with fail
    refine (W1.out _).mono ?_; rintro e w1 ⟨rfl, hb1⟩
    have c1 := planKeep c0 hb1
    obtain ⟨d10, d11, d12⟩ := c1.1
    go_wp2
    go_ret
    exact ⟨rfl, c1.2⟩
  | true =>
    cases b2 with
    | false =>
      go_enter Try.func72, Try.ntmps72
      have c0 := (planNew w P T R 53)
      go_wp2_with fail
      refine (W1.out _).mono ?_; rintro e w1 ⟨rfl, hb1⟩
      have c1 := planKeep c0 hb1
      obtain ⟨d10, d11, d12⟩ := c1.1
      go_wp2_with fail
      refine (W2.out _).mono ?_; rintro e w2 ⟨rfl, hb2⟩
      have c2 := planKeep c1 hb2
      obtain ⟨d20, d21, d22⟩ := c2.1
      go_wp2
      go_ret
      exact ⟨rfl, c2.2⟩
    | true =>
      go_enter Try.func72, Try.ntmps72
      have c0 := (planNew w P T R 53)
      go_wp2_with fail
      refine (W1.out _).mono ?_; rintro e w1 ⟨rfl, hb1⟩
      have c1 := planKeep c0 hb1
      obtain ⟨d10, d11, d12⟩ := c1.1
      go_wp2_with fail
      refine (W2.out _).mono ?_; rintro e w2 ⟨rfl, hb2⟩
      have c2 := planKeep c1 hb2
      obtain ⟨d20, d21, d22⟩ := c2.1
      go_wp2_with fail
      refine (W3.out _).mono ?_; rintro e w3 ⟨rfl, hb3⟩
      have c3 := planKeep c2 hb3
      obtain ⟨d30, d31, d32⟩ := c3.1
      go_wp2
      go_ret
      exact ⟨rfl, c3.2⟩
end Go.Proofs.Ytlhigibgjggidaa
/- What the functions of package layout return for a plan that may be: where the cells stand. Condition: the plan's numbers are in their bounds. -/
namespace Go.Proofs.Ytlhigibgjggidaa
open Go.RowKit

/-- where the tables begin; where the heap begins -/
def tabI (T R : Int) : Int := 16 + T * (5 + R)
def baseI (P T R : Int) : Int := (tabI T R + 3 * P + 63) / 64 * 64
theorem mul_bd {T R : Int} (h1 : 1 ≤ T) (h2 : T ≤ 6) (h3 : 1 ≤ R) (h4 : R ≤ 16) : 6 ≤ T * (5 + R) ∧ T * (5 + R) ≤ 126 := by
  constructor
  · exact Int.le_trans (by decide) (Int.mul_le_mul (a := 1) (b := 6) h1 (by omega) (by decide) (by omega))
  · exact Int.le_trans (Int.mul_le_mul (c := 6) (d := 21) h2 (by omega) (by omega) (by decide)) (by decide)
theorem tab_bd {P T R : Int} (h : Right P T R) : 22 ≤ tabI T R ∧ tabI T R ≤ 142 := by
  obtain ⟨_, ⟨h1, h2⟩, h3, h4⟩ := h
  have := mul_bd h1 h2 h3 h4
  unfold tabI; omega
theorem base_bd {P T R : Int} (h : Right P T R) : 64 ≤ baseI P T R ∧ baseI P T R ≤ 256 ∧ baseI P T R % 64 = 0 ∧ tabI T R + 3 * P ≤ baseI P T R ∧ baseI P T R < tabI T R + 3 * P + 64 := by
  have := tab_bd h
  obtain ⟨⟨h1, h2⟩, _⟩ := h
  unfold baseI
  generalize tabI T R = z at *
  omega
set_option maxHeartbeats 400000 in
theorem each_any (P T R : Int) (w : World) (h : Right P T R) :
    Calls Try.prog 89 #[.agg #[.int .i64 P, .int .i64 T, .int .i64 R]] w fun e w' => e = .returned (.int .i64 (5 + R)) ∧ Below w.heap.size w w' := by
  obtain ⟨_, _, h3, h4⟩ := h
  go_enter Try.func89, Try.ntmps89
  have c0 := (planNew w P T R 53)
  go_wp2
  go_ret
  exact ⟨rfl, c0.2⟩
set_option maxHeartbeats 400000 in
theorem tables_any (P T R : Int) (w : World) (h : Right P T R) :
    Calls Try.prog 73 #[.agg #[.int .i64 P, .int .i64 T, .int .i64 R]] w fun e w' => e = .returned (.int .i64 (tabI T R)) ∧ Below w.heap.size w w' := by
  have C := Lib.hid (fun W => each_any P T R W h)
  obtain ⟨_, ⟨h1, h2⟩, h3, h4⟩ := h
  have hb := mul_bd h1 h2 h3 h4
  unfold tabI
  generalize 5 + R = E at *
  generalize hz : T * E = z at *
  have hz' := hz
  obtain ⟨hb1, hb2⟩ := hb
  have k1 : IntKind.i64.wrap z = z := wi (by omega)
  have k2 : IntKind.i64.wrap (16 + z) = 16 + z := wi (by omega)
  go_enter Try.func73, Try.ntmps73
  have c0 := (planNew w P T R 53)
  go_wp2_with fail
  go_region_held3 (fun w' => (w'.cell? ⟨w.heap.size, 0, none⟩ = some (.int .i64 P) ∧ w'.cell? ⟨w.heap.size, 1, none⟩ = some (.int .i64 T) ∧ w'.cell? ⟨w.heap.size, 2, none⟩ = some (.int .i64 R)) ∧ Below w.heap.size w w')
    (first | exact c0 | exact ⟨c0.1, c0.2.drew⟩ | exact planKeep (by assumption) hbk)
    (first | (go_at_call 89; refine (C.out _).mono ?_; rintro e w9 ⟨rfl, hbk⟩))
  have c1 := planHeld (by assumption)
  go_wp2
  go_ret
  exact ⟨rfl, c1.2⟩
set_option maxHeartbeats 400000 in
theorem base_yes (P T R : Int) (w : World) (h : Right P T R) :
    Calls Try.prog 39 #[.agg #[.int .i64 P, .int .i64 T, .int .i64 R]] w fun e w' => e = .returned (.int .i64 (baseI P T R)) ∧ Below w.heap.size w w' := by
  have V := Lib.hid (fun W => valid_any P T R W)
  rw [of_right h] at V
  have C := Lib.hid (fun W => tables_any P T R W h)
  have hb := tab_bd h
  obtain ⟨⟨h1, h2⟩, _⟩ := h
  unfold baseI
  generalize tabI T R = z at *
  obtain ⟨hb1, hb2⟩ := hb
  have h0 : 0 ≤ z + 3 * P + 63 := by omega
  have k1 : IntKind.i64.wrap (3 * P) = 3 * P := wi (by omega)
  have k2 : IntKind.i64.wrap (z + 3 * P) = z + 3 * P := wi (by omega)
  go_enter Try.func39, Try.ntmps39
  have c0 := (planNew w P T R 53)
  go_wp2_with fail
  refine (V.out _).mono ?_; rintro e w1 ⟨rfl, hb1⟩
  have c1 := planKeep c0 hb1
  obtain ⟨d10, d11, d12⟩ := c1.1
  go_wp2_with fail
  go_region_held3 (fun w' => (w'.cell? ⟨w.heap.size, 0, none⟩ = some (.int .i64 P) ∧ w'.cell? ⟨w.heap.size, 1, none⟩ = some (.int .i64 T) ∧ w'.cell? ⟨w.heap.size, 2, none⟩ = some (.int .i64 R)) ∧ Below w.heap.size w w')
    (first | exact c1 | exact ⟨c1.1, c1.2.drew⟩ | exact planKeep (by assumption) hbk)
    (first | (go_at_call 73; refine (C.out _).mono ?_; rintro e w9 ⟨rfl, hbk⟩))
  have c2 := planHeld (by assumption)
  go_wp2
  go_ret
  exact ⟨ret_int (by omega), c2.2⟩
set_option maxHeartbeats 400000 in
theorem base_no (P T R : Int) (w : World) (h : rightB P T R = false) :
    Calls Try.prog 39 #[.agg #[.int .i64 P, .int .i64 T, .int .i64 R]] w fun e w' => e = .returned (.int .i64 (-1)) ∧ Below w.heap.size w w' := by
  have V := Lib.hid (fun W => valid_any P T R W)
  rw [h] at V
  go_enter Try.func39, Try.ntmps39
  have c0 := (planNew w P T R 53)
  go_wp2_with fail
  refine (V.out _).mono ?_; rintro e w1 ⟨rfl, hb1⟩
  have c1 := planKeep c0 hb1
  obtain ⟨d10, d11, d12⟩ := c1.1
  go_wp2
  go_ret
  exact ⟨rfl, c1.2⟩
set_option maxHeartbeats 400000 in
theorem cells_yes (P T R : Int) (w : World) (h : Right P T R) :
    Calls Try.prog 36 #[.agg #[.int .i64 P, .int .i64 T, .int .i64 R]] w fun e w' => e = .returned (.int .i64 (baseI P T R + 64 * P)) ∧ Below w.heap.size w w' := by
  have V := Lib.hid (fun W => valid_any P T R W)
  rw [of_right h] at V
  have C := Lib.hid (fun W => base_yes P T R W h)
  have hb := base_bd h
  obtain ⟨⟨h1, h2⟩, _⟩ := h
  generalize baseI P T R = z at *
  obtain ⟨hb1, hb2, hb3, _⟩ := hb
  have k1 : IntKind.i64.wrap (P * 64) = P * 64 := wi (by omega)
  have k2 : IntKind.i64.wrap (z + P * 64) = z + P * 64 := wi (by omega)
  go_enter Try.func36, Try.ntmps36
  have c0 := (planNew w P T R 53)
  go_wp2_with fail
  refine (V.out _).mono ?_; rintro e w1 ⟨rfl, hb1⟩
  have c1 := planKeep c0 hb1
  obtain ⟨d10, d11, d12⟩ := c1.1
  go_wp2_with fail
  go_region_held3 (fun w' => (w'.cell? ⟨w.heap.size, 0, none⟩ = some (.int .i64 P) ∧ w'.cell? ⟨w.heap.size, 1, none⟩ = some (.int .i64 T) ∧ w'.cell? ⟨w.heap.size, 2, none⟩ = some (.int .i64 R)) ∧ Below w.heap.size w w')
    (first | exact c1 | exact ⟨c1.1, c1.2.drew⟩ | exact planKeep (by assumption) hbk)
    (first | (go_at_call 39; refine (C.out _).mono ?_; rintro e w9 ⟨rfl, hbk⟩))
  have c2 := planHeld (by assumption)
  go_wp2
  go_ret
  exact ⟨ret_int (by omega), c2.2⟩
set_option maxHeartbeats 400000 in
theorem cells_no (P T R : Int) (w : World) (h : rightB P T R = false) :
    Calls Try.prog 36 #[.agg #[.int .i64 P, .int .i64 T, .int .i64 R]] w fun e w' => e = .returned (.int .i64 0) ∧ Below w.heap.size w w' := by
  have V := Lib.hid (fun W => valid_any P T R W)
  rw [h] at V
  go_enter Try.func36, Try.ntmps36
  have c0 := (planNew w P T R 53)
  go_wp2_with fail
  refine (V.out _).mono ?_; rintro e w1 ⟨rfl, hb1⟩
  have c1 := planKeep c0 hb1
  obtain ⟨d10, d11, d12⟩ := c1.1
  go_wp2
  go_ret
  exact ⟨rfl, c1.2⟩
set_option maxHeartbeats 400000 in
theorem plan_yes (P T R : Int) (w : World) (h : Right P T R) :
    Calls Try.prog 34 #[.int .i64 P, .int .i64 T, .int .i64 R] w fun e w' => e = .returned (.tuple #[.agg #[.int .i64 P, .int .i64 T, .int .i64 R], .int .i64 0]) ∧ Below w.heap.size w w' := by
  have V := Lib.hid (fun W => valid_any P T R W)
  rw [of_right h] at V
  have hS : ∀ i, (w.alloc (.cells #[.int .i64 0, .int .i64 0, .int .i64 0] 53)).frozen? ⟨w.heap.size, i, none⟩ = false := fun i => World.frozen?_alloc_new ..
  have hB : Below w.heap.size w (w.alloc (.cells #[.int .i64 0, .int .i64 0, .int .i64 0] 53)) := (Below.refl _ _).alloc (Nat.le_refl _) _
  have hZ : Blk (w.alloc (.cells #[.int .i64 0, .int .i64 0, .int .i64 0] 53)) w.heap.size #[.int .i64 0, .int .i64 0, .int .i64 0] 53 := Blk.new _ _ _
  go_enter Try.func34, Try.ntmps34
  go_wp2_with fail
  refine (V.out _).mono ?_; rintro e w1 ⟨rfl, hb1⟩
  have hB1 := (hB.alloc hB.size (.cells #[.int .i64 P, .int .i64 T, .int .i64 R] 53)).trans (hb1.mono (hB.alloc hB.size _).size)
  have hX1 : Blk w1 (w.heap.size + 1) #[.int .i64 P, .int .i64 T, .int .i64 R] 53 := (Blk.new' (by simp)).grew hb1
  have hZ1 := (hZ.alloc _).grew hb1
  have hlt := hZ1.lt
  have p0 := hX1.val 0 rfl
  have p1 := hX1.val 1 rfl
  have p2 := hX1.val 2 rfl
  have f0 := hZ1.frozen 0
  have f1 := hZ1.frozen 1
  have f2 := hZ1.frozen 2
  have z0 := hZ1.val 0 rfl
  have z1 := hZ1.val 1 rfl
  have z2 := hZ1.val 2 rfl
  clear hS hB hZ hb1
  go_wp2
  have r0 := hZ1.lt
  refine bodyPost_ret (v := .tuple #[.agg #[.int .i64 P, .int .i64 T, .int .i64 R], .int .i64 0]) (by simp [results, Try.results34, go_sem, *]) rfl ⟨rfl, ?_⟩
  exact (((hB1.setCell (Nat.le_refl _) _).setCell (Nat.le_refl _) _).setCell (Nat.le_refl _) _)
set_option maxHeartbeats 400000 in
theorem plan_no (P T R : Int) (w : World) (h : rightB P T R = false) :
    Calls Try.prog 34 #[.int .i64 P, .int .i64 T, .int .i64 R] w fun e w' => e = .returned (.tuple #[.agg #[.int .i64 0, .int .i64 0, .int .i64 0], .int .i64 1]) ∧ Below w.heap.size w w' := by
  have V := Lib.hid (fun W => valid_any P T R W)
  rw [h] at V
  have hS : ∀ i, (w.alloc (.cells #[.int .i64 0, .int .i64 0, .int .i64 0] 53)).frozen? ⟨w.heap.size, i, none⟩ = false := fun i => World.frozen?_alloc_new ..
  have hB : Below w.heap.size w (w.alloc (.cells #[.int .i64 0, .int .i64 0, .int .i64 0] 53)) := (Below.refl _ _).alloc (Nat.le_refl _) _
  have hZ : Blk (w.alloc (.cells #[.int .i64 0, .int .i64 0, .int .i64 0] 53)) w.heap.size #[.int .i64 0, .int .i64 0, .int .i64 0] 53 := Blk.new _ _ _
  go_enter Try.func34, Try.ntmps34
  go_wp2_with fail
  refine (V.out _).mono ?_; rintro e w1 ⟨rfl, hb1⟩
  have hB1 := (hB.alloc hB.size (.cells #[.int .i64 P, .int .i64 T, .int .i64 R] 53)).trans (hb1.mono (hB.alloc hB.size _).size)
  have hX1 : Blk w1 (w.heap.size + 1) #[.int .i64 P, .int .i64 T, .int .i64 R] 53 := (Blk.new' (by simp)).grew hb1
  have hZ1 := (hZ.alloc _).grew hb1
  have hlt := hZ1.lt
  have p0 := hX1.val 0 rfl
  have p1 := hX1.val 1 rfl
  have p2 := hX1.val 2 rfl
  have f0 := hZ1.frozen 0
  have f1 := hZ1.frozen 1
  have f2 := hZ1.frozen 2
  have z0 := hZ1.val 0 rfl
  have z1 := hZ1.val 1 rfl
  have z2 := hZ1.val 2 rfl
  clear hS hB hZ hb1
  go_wp2
  have r0 := hZ1.lt
  refine bodyPost_ret (v := .tuple #[.agg #[.int .i64 0, .int .i64 0, .int .i64 0], .int .i64 1]) (by simp [results, Try.results34, go_sem, *]) rfl ⟨rfl, ?_⟩
  exact (((hB1.setCell (Nat.le_refl _) _).setCell (Nat.le_refl _) _).setCell (Nat.le_refl _) _)
end Go.Proofs.Ytlhigibgjggidaa
/- What the functions of package layout return that tell where a thread's, a global's, a page's cell or a word of the heap stands. No condition but that the numbers fit their kinds. -/
namespace Go.Proofs.Ytlhigibgjggidaa
open Go.RowKit

def ownI (P T R t n : Int) : Int := if rightB P T R && inB t 0 (T - 1) then 16 + t * (5 + R) + n else -1
theorem own_bd {P T R t : Int} (h : Right P T R) (ht : inB t 0 (T - 1) = true) : 0 ≤ t ∧ t ≤ 5 ∧ 0 ≤ t * (5 + R) ∧ t * (5 + R) ≤ 105 := by
  simp [inB] at ht
  obtain ⟨_, ⟨h1, h2⟩, h3, h4⟩ := h
  refine ⟨by omega, by omega, Int.mul_nonneg ht.1 (by omega), ?_⟩
  exact Int.le_trans (Int.mul_le_mul (c := 5) (d := 21) (by omega) (by omega) (by omega) (by decide)) (by decide)
set_option maxHeartbeats 400000 in
theorem own_any (P T R t n : Int) (w : World) (hn : 0 ≤ n ∧ n ≤ 100) :
    Calls Try.prog 74 #[.agg #[.int .i64 P, .int .i64 T, .int .i64 R], .int .i64 t, .int .i64 n] w fun e w' => e = .returned (.int .i64 (ownI P T R t n)) ∧ Below w.heap.size w w' := by
  have V := Lib.hid (fun W => valid_any P T R W)
  unfold ownI
  cases hr : rightB P T R with
  | false =>
    rw [hr] at V
    go_enter Try.func74, Try.ntmps74
    have c0 := (planNew w P T R 53)
    go_wp2_with fail
    refine (V.out _).mono ?_; rintro e w1 ⟨rfl, hb1⟩
    have c1 := planKeep c0 hb1
    obtain ⟨d10, d11, d12⟩ := c1.1
    go_wp2
    go_ret
    exact ⟨rfl, c1.2⟩
  | true =>
    rw [hr] at V
    have hR := right_of hr
    have W1 := Lib.hid (fun W => within_any t 0 (T - 1) W)
    have C := Lib.hid (fun W => each_any P T R W hR)
    cases hi : inB t 0 (T - 1) with
    | false =>
      rw [hi] at W1
      obtain ⟨_, ⟨h1, h2⟩, _⟩ := hR
      clear hr hi
      go_enter Try.func74, Try.ntmps74
      have c0 := (planNew w P T R 53)
      go_wp2_with fail
      refine (V.out _).mono ?_; rintro e w1 ⟨rfl, hb1⟩
      have c1 := planKeep c0 hb1
      obtain ⟨d10, d11, d12⟩ := c1.1
      go_wp2_with fail
      refine (W1.out _).mono ?_; rintro e w2 ⟨rfl, hb2⟩
      have c2 := planKeep c1 hb2
      obtain ⟨d20, d21, d22⟩ := c2.1
      go_wp2
      go_ret
      exact ⟨rfl, c2.2⟩
    | true =>
      have hb := own_bd hR hi
      rw [hi] at W1
      obtain ⟨_, ⟨h1, h2⟩, h3, h4⟩ := hR
      clear hr hi
      generalize 5 + R = E at *
      generalize hz : t * E = z at *
      obtain ⟨hb1, hb2, hb3, hb4⟩ := hb
      obtain ⟨hn0, hn1⟩ := hn
      have k1 : IntKind.i64.wrap z = z := wi (by omega)
      have k2 : IntKind.i64.wrap (16 + z) = 16 + z := wi (by omega)
      have k3 : IntKind.i64.wrap (16 + z + n) = 16 + z + n := wi (by omega)
      go_enter Try.func74, Try.ntmps74
      have c0 := (planNew w P T R 53)
      go_wp2_with fail
      refine (V.out _).mono ?_; rintro e w1 ⟨rfl, hb1⟩
      have c1 := planKeep c0 hb1
      obtain ⟨d10, d11, d12⟩ := c1.1
      go_wp2_with fail
      refine (W1.out _).mono ?_; rintro e w2 ⟨rfl, hb2⟩
      have c2 := planKeep c1 hb2
      obtain ⟨d20, d21, d22⟩ := c2.1
      go_wp2_with fail
      refine (C.out _).mono ?_; rintro e w3 ⟨rfl, hb3⟩
      have c3 := planKeep c2 hb3
      obtain ⟨d30, d31, d32⟩ := c3.1
      go_wp2
      go_ret
      exact ⟨rfl, c3.2⟩
set_option maxHeartbeats 400000 in
theorem head_any (P T R t : Int) (w : World) :
    Calls Try.prog 45 #[.agg #[.int .i64 P, .int .i64 T, .int .i64 R], .int .i64 t] w fun e w' => e = .returned (.int .i64 (ownI P T R t 3)) ∧ Below w.heap.size w w' := by
  have C := Lib.hid (fun W => own_any P T R t 3 W (by decide))
  go_enter Try.func45, Try.ntmps45
  have c0 := (planNew w P T R 53)
  go_wp2_with fail
  refine (C.out _).mono ?_; rintro e w1 ⟨rfl, hb1⟩
  have c1 := planKeep c0 hb1
  obtain ⟨d10, d11, d12⟩ := c1.1
  go_wp2
  go_ret
  exact ⟨rfl, c1.2⟩
set_option maxHeartbeats 400000 in
theorem tail_any (P T R t : Int) (w : World) :
    Calls Try.prog 69 #[.agg #[.int .i64 P, .int .i64 T, .int .i64 R], .int .i64 t] w fun e w' => e = .returned (.int .i64 (ownI P T R t 4)) ∧ Below w.heap.size w w' := by
  have C := Lib.hid (fun W => own_any P T R t 4 W (by decide))
  go_enter Try.func69, Try.ntmps69
  have c0 := (planNew w P T R 53)
  go_wp2_with fail
  refine (C.out _).mono ?_; rintro e w1 ⟨rfl, hb1⟩
  have c1 := planKeep c0 hb1
  obtain ⟨d10, d11, d12⟩ := c1.1
  go_wp2
  go_ret
  exact ⟨rfl, c1.2⟩
/-- the slot of a thread's ring, by a count -/
def slotI (P T R t n : Int) : Int := ownI P T R t (5 + n % R)
set_option maxHeartbeats 400000 in
theorem slot_any (P T R t n : Int) (w : World) (hn : U64 n) :
    Calls Try.prog 70 #[.agg #[.int .i64 P, .int .i64 T, .int .i64 R], .int .i64 t, .int .u64 n] w fun e w' => e = .returned (.int .i64 (slotI P T R t n)) ∧ Below w.heap.size w w' := by
  have V := Lib.hid (fun W => valid_any P T R W)
  unfold slotI
  cases hr : rightB P T R with
  | false =>
    rw [hr] at V
    unfold ownI
    rw [hr]
    go_enter Try.func70, Try.ntmps70
    have c0 := (planNew w P T R 53)
    go_wp2_with fail
    refine (V.out _).mono ?_; rintro e w1 ⟨rfl, hb1⟩
    have c1 := planKeep c0 hb1
    obtain ⟨d10, d11, d12⟩ := c1.1
    go_wp2
    go_ret
    exact ⟨rfl, c1.2⟩
  | true =>
    rw [hr] at V
    obtain ⟨_, _, h3, h4⟩ := right_of hr
    obtain ⟨n0, n1⟩ := hn
    have hm0 : 0 ≤ n % R := Int.emod_nonneg _ (by omega)
    have hm1 : n % R < R := Int.emod_lt_of_pos _ (by omega)
    have C := Lib.hid (fun W => own_any P T R t (5 + n % R) W (by omega))
    have ht : n.tmod R = n % R := Int.tmod_eq_emod_of_nonneg n0
    have hw : IntKind.u64.wrap R = R := by rw [IntKind.wrap_u64]; omega
    have hw2 : IntKind.i64.wrap (n % R) = n % R := wi (by omega)
    have hw4 : IntKind.u64.wrap (n % R) = n % R := by rw [IntKind.wrap_u64]; omega
    have hR0 : R ≠ 0 := by omega
    have hw3 : IntKind.i64.wrap (5 + n % R) = 5 + n % R := wi (by omega)
    generalize n % R = m at *
    generalize ownI P T R t (5 + m) = y at *
    clear hr
    go_enter Try.func70, Try.ntmps70
    have c0 := (planNew w P T R 53)
    go_wp2_with fail
    refine (V.out _).mono ?_; rintro e w1 ⟨rfl, hb1⟩
    have c1 := planKeep c0 hb1
    obtain ⟨d10, d11, d12⟩ := c1.1
    go_wp2_with fail
    go_region_held3 (fun w' => (w'.cell? ⟨w.heap.size, 0, none⟩ = some (.int .i64 P) ∧ w'.cell? ⟨w.heap.size, 1, none⟩ = some (.int .i64 T) ∧ w'.cell? ⟨w.heap.size, 2, none⟩ = some (.int .i64 R)) ∧ Below w.heap.size w w')
      (first | exact c1 | exact ⟨c1.1, c1.2.drew⟩ | exact planKeep (by assumption) hbk)
      (first | (go_at_call 74; refine (C.out _).mono ?_; rintro e w9 ⟨rfl, hbk⟩))
    have c2 := planHeld (by assumption)
    go_wp2
    go_ret
    exact ⟨rfl, c2.2⟩
/-- the word of page i in table k -/
def rowI (P T R k i : Int) : Int := if rightB P T R && inB i 0 (P - 1) then tabI T R + k * P + i else -1
set_option maxHeartbeats 400000 in
theorem row0_any (P T R i : Int) (w : World) :
    Calls Try.prog 91 #[.agg #[.int .i64 P, .int .i64 T, .int .i64 R], .int .i64 0, .int .i64 i] w fun e w' => e = .returned (.int .i64 (rowI P T R 0 i)) ∧ Below w.heap.size w w' := by
  have V := Lib.hid (fun W => valid_any P T R W)
  unfold rowI
  cases hr : rightB P T R with
  | false =>
    rw [hr] at V
    go_enter Try.func91, Try.ntmps91
    have c0 := (planNew w P T R 53)
    go_wp2_with fail
    refine (V.out _).mono ?_; rintro e w1 ⟨rfl, hb1⟩
    have c1 := planKeep c0 hb1
    obtain ⟨d10, d11, d12⟩ := c1.1
    go_wp2
    go_ret
    exact ⟨rfl, c1.2⟩
  | true =>
    rw [hr] at V
    have hR := right_of hr
    have W1 := Lib.hid (fun W => within_any i 0 (P - 1) W)
    have C := Lib.hid (fun W => tables_any P T R W hR)
    have hb := tab_bd hR
    generalize tabI T R = z at *
    obtain ⟨hb1, hb2⟩ := hb
    obtain ⟨⟨h1, h2⟩, _⟩ := hR
    clear hr
    cases hi : inB i 0 (P - 1) with
    | false =>
      rw [hi] at W1
      clear hi
      go_enter Try.func91, Try.ntmps91
      have c0 := (planNew w P T R 53)
      go_wp2_with fail
      refine (V.out _).mono ?_; rintro e w1 ⟨rfl, hb1⟩
      have c1 := planKeep c0 hb1
      obtain ⟨d10, d11, d12⟩ := c1.1
      go_wp2_with fail
      refine (W1.out _).mono ?_; rintro e w2 ⟨rfl, hb2⟩
      have c2 := planKeep c1 hb2
      obtain ⟨d20, d21, d22⟩ := c2.1
      go_wp2
      go_ret
      exact ⟨rfl, c2.2⟩
    | true =>
      rw [hi] at W1
      simp [inB] at hi
      obtain ⟨i0, i1⟩ := hi
      have i2 : i < P := by omega
      clear i1
      have k1 : IntKind.i64.wrap z = z := wi (by omega)
      have k3 : IntKind.i64.wrap (z + i) = z + i := wi (by omega)
      go_enter Try.func91, Try.ntmps91
      have c0 := (planNew w P T R 53)
      go_wp2_with fail
      refine (V.out _).mono ?_; rintro e w1 ⟨rfl, hb1⟩
      have c1 := planKeep c0 hb1
      obtain ⟨d10, d11, d12⟩ := c1.1
      go_wp2_with fail
      refine (W1.out _).mono ?_; rintro e w2 ⟨rfl, hb2⟩
      have c2 := planKeep c1 hb2
      obtain ⟨d20, d21, d22⟩ := c2.1
      go_wp2_with fail
      go_region_held3 (fun w' => (w'.cell? ⟨w.heap.size, 0, none⟩ = some (.int .i64 P) ∧ w'.cell? ⟨w.heap.size, 1, none⟩ = some (.int .i64 T) ∧ w'.cell? ⟨w.heap.size, 2, none⟩ = some (.int .i64 R)) ∧ Below w.heap.size w w')
        (first | exact c2 | exact ⟨c2.1, c2.2.drew⟩ | exact planKeep (by assumption) hbk)
        (first | (go_at_call 73; refine (C.out _).mono ?_; rintro e w9 ⟨rfl, hbk⟩))
      have c3 := planHeld (by assumption)
      go_wp2
      go_ret
      exact ⟨ret_int (by rw [show IntKind.i64.wrap 0 = 0 from rfl, Int.add_zero, k1, k3]), c3.2⟩
set_option maxHeartbeats 400000 in
theorem row1_any (P T R i : Int) (w : World) :
    Calls Try.prog 91 #[.agg #[.int .i64 P, .int .i64 T, .int .i64 R], .int .i64 1, .int .i64 i] w fun e w' => e = .returned (.int .i64 (rowI P T R 1 i)) ∧ Below w.heap.size w w' := by
  have V := Lib.hid (fun W => valid_any P T R W)
  unfold rowI
  cases hr : rightB P T R with
  | false =>
    rw [hr] at V
    go_enter Try.func91, Try.ntmps91
    have c0 := (planNew w P T R 53)
    go_wp2_with fail
    refine (V.out _).mono ?_; rintro e w1 ⟨rfl, hb1⟩
    have c1 := planKeep c0 hb1
    obtain ⟨d10, d11, d12⟩ := c1.1
    go_wp2
    go_ret
    exact ⟨rfl, c1.2⟩
  | true =>
    rw [hr] at V
    have hR := right_of hr
    have W1 := Lib.hid (fun W => within_any i 0 (P - 1) W)
    have C := Lib.hid (fun W => tables_any P T R W hR)
    have hb := tab_bd hR
    generalize tabI T R = z at *
    obtain ⟨hb1, hb2⟩ := hb
    obtain ⟨⟨h1, h2⟩, _⟩ := hR
    clear hr
    cases hi : inB i 0 (P - 1) with
    | false =>
      rw [hi] at W1
      clear hi
      go_enter Try.func91, Try.ntmps91
      have c0 := (planNew w P T R 53)
      go_wp2_with fail
      refine (V.out _).mono ?_; rintro e w1 ⟨rfl, hb1⟩
      have c1 := planKeep c0 hb1
      obtain ⟨d10, d11, d12⟩ := c1.1
      go_wp2_with fail
      refine (W1.out _).mono ?_; rintro e w2 ⟨rfl, hb2⟩
      have c2 := planKeep c1 hb2
      obtain ⟨d20, d21, d22⟩ := c2.1
      go_wp2
      go_ret
      exact ⟨rfl, c2.2⟩
    | true =>
      rw [hi] at W1
      simp [inB] at hi
      obtain ⟨i0, i1⟩ := hi
      have i2 : i < P := by omega
      clear i1
      have k1 : IntKind.i64.wrap P = P := wi (by omega)
      have k2 : IntKind.i64.wrap (z + P) = z + P := wi (by omega)
      have k3 : IntKind.i64.wrap (z + P + i) = z + P + i := wi (by omega)
      go_enter Try.func91, Try.ntmps91
      have c0 := (planNew w P T R 53)
      go_wp2_with fail
      refine (V.out _).mono ?_; rintro e w1 ⟨rfl, hb1⟩
      have c1 := planKeep c0 hb1
      obtain ⟨d10, d11, d12⟩ := c1.1
      go_wp2_with fail
      refine (W1.out _).mono ?_; rintro e w2 ⟨rfl, hb2⟩
      have c2 := planKeep c1 hb2
      obtain ⟨d20, d21, d22⟩ := c2.1
      go_wp2_with fail
      go_region_held3 (fun w' => (w'.cell? ⟨w.heap.size, 0, none⟩ = some (.int .i64 P) ∧ w'.cell? ⟨w.heap.size, 1, none⟩ = some (.int .i64 T) ∧ w'.cell? ⟨w.heap.size, 2, none⟩ = some (.int .i64 R)) ∧ Below w.heap.size w w')
        (first | exact c2 | exact ⟨c2.1, c2.2.drew⟩ | exact planKeep (by assumption) hbk)
        (first | (go_at_call 73; refine (C.out _).mono ?_; rintro e w9 ⟨rfl, hbk⟩))
      have c3 := planHeld (by assumption)
      go_wp2
      go_ret
      exact ⟨rfl, c3.2⟩
set_option maxHeartbeats 400000 in
theorem row2_any (P T R i : Int) (w : World) :
    Calls Try.prog 91 #[.agg #[.int .i64 P, .int .i64 T, .int .i64 R], .int .i64 2, .int .i64 i] w fun e w' => e = .returned (.int .i64 (rowI P T R 2 i)) ∧ Below w.heap.size w w' := by
  have V := Lib.hid (fun W => valid_any P T R W)
  unfold rowI
  cases hr : rightB P T R with
  | false =>
    rw [hr] at V
    go_enter Try.func91, Try.ntmps91
    have c0 := (planNew w P T R 53)
    go_wp2_with fail
    refine (V.out _).mono ?_; rintro e w1 ⟨rfl, hb1⟩
    have c1 := planKeep c0 hb1
    obtain ⟨d10, d11, d12⟩ := c1.1
    go_wp2
    go_ret
    exact ⟨rfl, c1.2⟩
  | true =>
    rw [hr] at V
    have hR := right_of hr
    have W1 := Lib.hid (fun W => within_any i 0 (P - 1) W)
    have C := Lib.hid (fun W => tables_any P T R W hR)
    have hb := tab_bd hR
    generalize tabI T R = z at *
    obtain ⟨hb1, hb2⟩ := hb
    obtain ⟨⟨h1, h2⟩, _⟩ := hR
    clear hr
    cases hi : inB i 0 (P - 1) with
    | false =>
      rw [hi] at W1
      clear hi
      go_enter Try.func91, Try.ntmps91
      have c0 := (planNew w P T R 53)
      go_wp2_with fail
      refine (V.out _).mono ?_; rintro e w1 ⟨rfl, hb1⟩
      have c1 := planKeep c0 hb1
      obtain ⟨d10, d11, d12⟩ := c1.1
      go_wp2_with fail
      refine (W1.out _).mono ?_; rintro e w2 ⟨rfl, hb2⟩
      have c2 := planKeep c1 hb2
      obtain ⟨d20, d21, d22⟩ := c2.1
      go_wp2
      go_ret
      exact ⟨rfl, c2.2⟩
    | true =>
      rw [hi] at W1
      simp [inB] at hi
      obtain ⟨i0, i1⟩ := hi
      have i2 : i < P := by omega
      clear i1
      have k1 : IntKind.i64.wrap (2 * P) = 2 * P := wi (by omega)
      have k2 : IntKind.i64.wrap (z + 2 * P) = z + 2 * P := wi (by omega)
      have k3 : IntKind.i64.wrap (z + 2 * P + i) = z + 2 * P + i := wi (by omega)
      go_enter Try.func91, Try.ntmps91
      have c0 := (planNew w P T R 53)
      go_wp2_with fail
      refine (V.out _).mono ?_; rintro e w1 ⟨rfl, hb1⟩
      have c1 := planKeep c0 hb1
      obtain ⟨d10, d11, d12⟩ := c1.1
      go_wp2_with fail
      refine (W1.out _).mono ?_; rintro e w2 ⟨rfl, hb2⟩
      have c2 := planKeep c1 hb2
      obtain ⟨d20, d21, d22⟩ := c2.1
      go_wp2_with fail
      go_region_held3 (fun w' => (w'.cell? ⟨w.heap.size, 0, none⟩ = some (.int .i64 P) ∧ w'.cell? ⟨w.heap.size, 1, none⟩ = some (.int .i64 T) ∧ w'.cell? ⟨w.heap.size, 2, none⟩ = some (.int .i64 R)) ∧ Below w.heap.size w w')
        (first | exact c2 | exact ⟨c2.1, c2.2.drew⟩ | exact planKeep (by assumption) hbk)
        (first | (go_at_call 73; refine (C.out _).mono ?_; rintro e w9 ⟨rfl, hbk⟩))
      have c3 := planHeld (by assumption)
      go_wp2
      go_ret
      exact ⟨rfl, c3.2⟩
set_option maxHeartbeats 400000 in
theorem mark_any (P T R i : Int) (w : World) :
    Calls Try.prog 77 #[.agg #[.int .i64 P, .int .i64 T, .int .i64 R], .int .i64 i] w fun e w' => e = .returned (.int .i64 (rowI P T R 2 i)) ∧ Below w.heap.size w w' := by
  have C := Lib.hid (fun W => row2_any P T R i W)
  go_enter Try.func77, Try.ntmps77
  have c0 := (planNew w P T R 53)
  go_wp2_with fail
  refine (C.out _).mono ?_; rintro e w1 ⟨rfl, hb1⟩
  have c1 := planKeep c0 hb1
  obtain ⟨d10, d11, d12⟩ := c1.1
  go_wp2
  go_ret
  exact ⟨rfl, c1.2⟩
end Go.Proofs.Ytlhigibgjggidaa
/- What the small functions of package ring return: exists, NewPush, NewPop, Over, Full, Empty, Value. No condition but that the machine's block is there. -/
namespace Go.Proofs.Ytlhigibgjggidaa
open Go.RowKit
/-- has the plan such a thread? -/
def exB (P T R t : Int) : Bool := rightB P T R && inB t 0 (T - 1)
theorem own_ge (P T R t n : Int) (hn : 0 ≤ n) : decide (0 ≤ ownI P T R t n) = exB P T R t := by
  unfold ownI exB
  by_cases h : (rightB P T R && inB t 0 (T - 1)) = true
  · rw [if_pos h, h]
    have h' := h
    rw [Bool.and_eq_true] at h'
    have b := own_bd (right_of h'.1) h'.2
    exact decide_eq_true (by omega)
  · rw [if_neg h, Bool.not_eq_true _ |>.mp h]
    rfl
/-- a machine that pushes: its block m, its plan, its thread, its word; the tail that it has seen, what it does next, whether there was no room -/
def PushAt (w : World) (m : Nat) (P T R t v tl nx : Int) (fu : Bool) : Prop := Blk w m #[.int .i64 P, .int .i64 T, .int .i64 R, .int .i64 t, .int .u64 v, .int .u64 tl, .int .i64 nx, .bool fu] 143
def PopAt (w : World) (m : Nat) (P T R t v hd nx : Int) (em : Bool) : Prop := Blk w m #[.int .i64 P, .int .i64 T, .int .i64 R, .int .i64 t, .int .u64 v, .int .u64 hd, .int .i64 nx, .bool em] 135
set_option maxHeartbeats 400000 in
theorem exists_any (P T R t : Int) (w : World) :
    Calls Try.prog 65 #[.agg #[.int .i64 P, .int .i64 T, .int .i64 R], .int .i64 t] w fun e w' => e = .returned (.bool (exB P T R t)) ∧ Below w.heap.size w w' := by
  have H := Lib.hid (fun W => head_any P T R t W)
  have E := Lib.hid (own_ge P T R t 3 (by decide))
  go_enter Try.func65, Try.ntmps65
  have c0 := (planNew w P T R 53)
  go_wp2_with fail
  refine (H.out _).mono ?_; rintro e w1 ⟨rfl, hb1⟩
  have c1 := planKeep c0 hb1
  go_wp2
  go_ret
  exact ⟨ret_bool E.out, c1.2⟩
/-- what NewPush makes -/
def NewPushPost (P T R t v : Int) (w : World) (e : Ending) (w' : World) : Prop :=
  ∃ m, e = .returned (.tuple #[.pointer (some ⟨m, 0, none⟩), .int .i64 0]) ∧ PushAt w' m P T R t v 0 1 false ∧ w.heap.size ≤ m ∧ Below w.heap.size w w'
def NewPopPost (P T R t : Int) (w : World) (e : Ending) (w' : World) : Prop :=
  ∃ m, e = .returned (.tuple #[.pointer (some ⟨m, 0, none⟩), .int .i64 0]) ∧ PopAt w' m P T R t 0 0 2 false ∧ w.heap.size ≤ m ∧ Below w.heap.size w w'
set_option maxHeartbeats 400000 in
theorem newpush_yes (P T R t v : Int) (w : World) (h : exB P T R t = true) (hv : v ≠ 0) :
    Calls Try.prog 46 #[.agg #[.int .i64 P, .int .i64 T, .int .i64 R], .int .i64 t, .int .u64 v] w (NewPushPost P T R t v w) := by
  have H := Lib.hid (fun W => exists_any P T R t W)
  rw [h] at H
  have hv' : (v == 0) = false := by simpa using hv
  clear h hv
  go_enter Try.func46, Try.ntmps46
  have c0 := (planNew w P T R 53)
  go_wp2_with fail
  refine (H.out _).mono ?_; rintro e w1 ⟨rfl, hb1⟩
  have c1 := planKeep c0 hb1
  obtain ⟨d10, d11, d12⟩ := c1.1
  go_wp2
  go_ret2
  exact ⟨_, rfl, Blk.new' (by simp), Nat.le_trans c1.2.size (Nat.le_refl _), c1.2.trans ((Below.refl _ _).alloc c1.2.size _)⟩
set_option maxHeartbeats 400000 in
theorem newpush_no (P T R t v : Int) (w : World) (h : exB P T R t = false ∨ v = 0) :
    Calls Try.prog 46 #[.agg #[.int .i64 P, .int .i64 T, .int .i64 R], .int .i64 t, .int .u64 v] w fun e w' => e = .returned (.tuple #[.pointer none, .int .i64 1]) ∧ Below w.heap.size w w' := by
  have H := Lib.hid (fun W => exists_any P T R t W)
  by_cases hx : exB P T R t = true
  · have hv := h.resolve_left (by simp [hx])
    subst hv
    rw [hx] at H
    clear h hx
    go_enter Try.func46, Try.ntmps46
    have c0 := (planNew w P T R 53)
    go_wp2_with fail
    refine (H.out _).mono ?_; rintro e w1 ⟨rfl, hb1⟩
    have c1 := planKeep c0 hb1
    go_wp2
    go_ret2
    exact ⟨rfl, c1.2⟩
  · rw [Bool.not_eq_true _ |>.mp hx] at H
    clear h hx
    go_enter Try.func46, Try.ntmps46
    have c0 := (planNew w P T R 53)
    go_wp2_with fail
    refine (H.out _).mono ?_; rintro e w1 ⟨rfl, hb1⟩
    have c1 := planKeep c0 hb1
    go_wp2
    go_ret2
    exact ⟨rfl, c1.2⟩
set_option maxHeartbeats 400000 in
theorem newpop_yes (P T R t : Int) (w : World) (h : exB P T R t = true) :
    Calls Try.prog 29 #[.agg #[.int .i64 P, .int .i64 T, .int .i64 R], .int .i64 t] w (NewPopPost P T R t w) := by
  have H := Lib.hid (fun W => exists_any P T R t W)
  rw [h] at H
  clear h
  go_enter Try.func29, Try.ntmps29
  have c0 := (planNew w P T R 53)
  go_wp2_with fail
  refine (H.out _).mono ?_; rintro e w1 ⟨rfl, hb1⟩
  have c1 := planKeep c0 hb1
  obtain ⟨d10, d11, d12⟩ := c1.1
  go_wp2
  go_ret2
  exact ⟨_, rfl, Blk.new' (by simp), Nat.le_trans c1.2.size (Nat.le_refl _), c1.2.trans ((Below.refl _ _).alloc c1.2.size _)⟩
set_option maxHeartbeats 400000 in
theorem newpop_no (P T R t : Int) (w : World) (h : exB P T R t = false) :
    Calls Try.prog 29 #[.agg #[.int .i64 P, .int .i64 T, .int .i64 R], .int .i64 t] w fun e w' => e = .returned (.tuple #[.pointer none, .int .i64 1]) ∧ Below w.heap.size w w' := by
  have H := Lib.hid (fun W => exists_any P T R t W)
  rw [h] at H
  clear h
  go_enter Try.func29, Try.ntmps29
  have c0 := (planNew w P T R 53)
  go_wp2_with fail
  refine (H.out _).mono ?_; rintro e w1 ⟨rfl, hb1⟩
  have c1 := planKeep c0 hb1
  go_wp2
  go_ret2
  exact ⟨rfl, c1.2⟩
theorem over_pushnil (w : World) :
    Calls Try.prog 85 #[.pointer none] w fun e w' => e = .returned (.bool true) ∧ Quiet w w' := by
  go_enter Try.func85, Try.ntmps85
  go_wp2
  go_ret
  exact ⟨rfl, Quiet.refl _⟩
theorem over_popnil (w : World) :
    Calls Try.prog 66 #[.pointer none] w fun e w' => e = .returned (.bool true) ∧ Quiet w w' := by
  go_enter Try.func66, Try.ntmps66
  go_wp2
  go_ret
  exact ⟨rfl, Quiet.refl _⟩
theorem full_nil (w : World) :
    Calls Try.prog 63 #[.pointer none] w fun e w' => e = .returned (.bool false) ∧ Quiet w w' := by
  go_enter Try.func63, Try.ntmps63
  go_wp2
  go_ret
  exact ⟨rfl, Quiet.refl _⟩
theorem value_nil (w : World) :
    Calls Try.prog 31 #[.pointer none] w fun e w' => e = .returned (.int .u64 0) ∧ Quiet w w' := by
  go_enter Try.func31, Try.ntmps31
  go_wp2
  go_ret
  exact ⟨rfl, Quiet.refl _⟩
theorem step_pushnil (p : Option Addr) (w : World) :
    Calls Try.prog 62 #[.pointer none, .pointer p] w fun e w' => e = .returned (.bool true) ∧ Quiet w w' := by
  go_enter Try.func62, Try.ntmps62
  go_wp2_with fail
  refine (over_pushnil _).mono ?_; rintro e w1 ⟨rfl, hq1⟩
  go_wp2_with fail
  refine (over_pushnil _).mono ?_; rintro e w2 ⟨rfl, hq2⟩
  go_wp2
  go_ret
  exact ⟨rfl, hq1.trans hq2⟩
theorem step_popnil (p : Option Addr) (w : World) :
    Calls Try.prog 30 #[.pointer none, .pointer p] w fun e w' => e = .returned (.bool true) ∧ Quiet w w' := by
  go_enter Try.func30, Try.ntmps30
  go_wp2_with fail
  refine (over_popnil _).mono ?_; rintro e w1 ⟨rfl, hq1⟩
  go_wp2_with fail
  refine (over_popnil _).mono ?_; rintro e w2 ⟨rfl, hq2⟩
  go_wp2
  go_ret
  exact ⟨rfl, hq1.trans hq2⟩
section
variable {w : World} {m : Nat} {P T R t v x nx : Int} {b : Bool}
theorem over_push (h : PushAt w m P T R t v x nx b) :
    Calls Try.prog 85 #[.pointer (some ⟨m, 0, none⟩)] w fun e w' => e = .returned (.bool (nx == 0)) ∧ Quiet w w' := by
  have h2 := h.val 6 rfl
  clear h
  go_enter Try.func85, Try.ntmps85
  go_wp2
  go_ret
  exact ⟨rfl, Quiet.refl _⟩
theorem over_pop (h : PopAt w m P T R t v x nx b) :
    Calls Try.prog 66 #[.pointer (some ⟨m, 0, none⟩)] w fun e w' => e = .returned (.bool (nx == 0)) ∧ Quiet w w' := by
  have h2 := h.val 6 rfl
  clear h
  go_enter Try.func66, Try.ntmps66
  go_wp2
  go_ret
  exact ⟨rfl, Quiet.refl _⟩
theorem full_push (h : PushAt w m P T R t v x nx b) :
    Calls Try.prog 63 #[.pointer (some ⟨m, 0, none⟩)] w fun e w' => e = .returned (.bool b) ∧ Quiet w w' := by
  have h2 := h.val 7 rfl
  clear h
  go_enter Try.func63, Try.ntmps63
  go_wp2
  go_ret
  exact ⟨rfl, Quiet.refl _⟩
theorem value_pop (h : PopAt w m P T R t v x 0 b) :
    Calls Try.prog 31 #[.pointer (some ⟨m, 0, none⟩)] w fun e w' => e = .returned (.int .u64 v) ∧ Quiet w w' := by
  have h4 := h.val 4 rfl
  have O := Lib.hid (over_pop h)
  clear h
  go_enter Try.func31, Try.ntmps31
  go_wp2_with fail
  refine O.out.mono ?_; rintro e w1 ⟨rfl, hq1⟩
  rw [← hq1.cell] at h4
  go_wp2
  go_ret
  exact ⟨rfl, hq1⟩
theorem value_not (h : PopAt w m P T R t v x nx b) (hn : (nx == 0) = false) :
    Calls Try.prog 31 #[.pointer (some ⟨m, 0, none⟩)] w fun e w' => e = .returned (.int .u64 0) ∧ Quiet w w' := by
  have O := Lib.hid (over_pop h)
  rw [hn] at O
  clear h hn
  go_enter Try.func31, Try.ntmps31
  go_wp2_with fail
  refine O.out.mono ?_; rintro e w1 ⟨rfl, hq1⟩
  go_wp2
  go_ret
  exact ⟨rfl, hq1⟩
end
end Go.Proofs.Ytlhigibgjggidaa
