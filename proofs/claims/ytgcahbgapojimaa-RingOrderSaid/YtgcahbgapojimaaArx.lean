/- An arena with a log as one fact, with the list of the blocks that are none of its own: what its ports' accesses do. Condition: its blocks are there, its counts are small. -/
import Derived.Test.YtgcahbgapojimaaOps
import Derived.Test.YtgcahbgapojimaaNewa
namespace Go.Proofs.Ytgcahbgapojimaa
open Go.RowKit
/-- An arena that keeps its log, made at or behind block B: cells cs, n accesses made, no fault; the blocks of K are none of its own. -/
structure Arx (w : World) (B a c : Nat) (cs : List Int) (xs : List Value) (n : Nat) (K : List Nat) : Prop where
  ex : ∃ lv, ArenaL w B a c cs lv xs n 0 ∧ ∀ g, lv.ownBlock = some g → g ∉ K
  na : a ∉ K
  nc : c ∉ K
  lt : ∀ b ∈ K, b < w.heap.size
  ba : B ≤ a
  bc : B ≤ c
  bw : B ≤ w.heap.size
section
variable {w w' : World} {B a c p : Nat} {cs : List Int} {xs : List Value} {n : Nat} {K : List Nat} {who : Int} {i : Nat}
theorem Arx.touch {R : Nat → Prop} (h : Arx w B a c cs xs n K) (ht : Touch R w w') (hR : ∀ b, R b → b ∈ K) : Arx w' B a c cs xs n K := by
  obtain ⟨⟨lv, hL, hg⟩, h1, h2, h3, h4, h5, h6⟩ := h
  exact ⟨⟨lv, hL.touch ht (fun r => h1 (hR _ r)) (fun r => h2 (hR _ r)) (fun g e r => hg g e (hR _ r)), hg⟩, h1, h2, fun b hb => Nat.lt_of_lt_of_le (h3 b hb) ht.size, h4, h5, Nat.le_trans h6 ht.size⟩
theorem Arx.grew (h : Arx w B a c cs xs n K) (hb : Below w.heap.size w w') : Arx w' B a c cs xs n K :=
  h.touch (R := fun _ => False) (Touch.of hb) (fun _ h => h.elim)
theorem Arx.quiet (h : Arx w B a c cs xs n K) (hq : Quiet w w') : Arx w' B a c cs xs n K := h.grew hq.below
theorem Arx.a_lt (h : Arx w B a c cs xs n K) : a < w.heap.size := by
  obtain ⟨lv, hL, _⟩ := h.ex; exact hL.at'.own.lt
theorem Arx.c_lt (h : Arx w B a c cs xs n K) : c < w.heap.size := by
  obtain ⟨lv, hL, _⟩ := h.ex; exact hL.at'.row.lt
/-- a block that came later is none of its own -/
theorem Arx.add (h : Arx w B a c cs xs n K) (hb : Below w.heap.size w w') {m : Nat} (hm : w.heap.size ≤ m) (hm' : m < w'.heap.size) : Arx w' B a c cs xs n (m :: K) := by
  obtain ⟨⟨lv, hL, hg⟩, h1, h2, h3, h4, h5, h6⟩ := h
  have la := hL.at'.own.lt
  have lc := hL.at'.row.lt
  have lg := fun g hg => (hL.own.lt g hg).2
  refine ⟨⟨lv, hL.grew hb, fun g e => ?_⟩, ?_, ?_, ?_, h4, h5, Nat.le_trans h6 hb.size⟩
  · have := lg g e
    rw [List.mem_cons]
    rintro (rfl | r)
    · omega
    · exact hg g e r
  · rw [List.mem_cons]
    rintro (rfl | r)
    · omega
    · exact h1 r
  · rw [List.mem_cons]
    rintro (rfl | r)
    · omega
    · exact h2 r
  · intro b hb'
    rcases List.mem_cons.1 hb' with rfl | r
    · exact hm'
    · exact Nat.lt_of_lt_of_le (h3 b r) hb.size
theorem Arx.sub {K' : List Nat} (h : Arx w B a c cs xs n K) (hs : ∀ b ∈ K', b ∈ K) : Arx w B a c cs xs n K' := by
  obtain ⟨⟨lv, hL, hg⟩, h1, h2, h3, h4, h5, h6⟩ := h
  exact ⟨⟨lv, hL, fun g e r => hg g e (hs _ r)⟩, fun r => h1 (hs _ r), fun r => h2 (hs _ r), fun b hb => h3 b (hs _ hb), h4, h5, h6⟩
/-- what an access through port p leaves -/
def ArxStep (B a c p : Nat) (cs : List Int) (xs : List Value) (n : Nat) (K : List Nat) (i : Nat) (who k want put : Int) (w w' : World) : Prop :=
  Arx w' B a c (cs.set i (leftI k (cs.getD i 0) want put)) (xs ++ accV who k i want put (cs.getD i 0) (leftI k (cs.getD i 0) want put)) (n + 1) K ∧ PortAt w' p a who false ∧ Touch (fun b => b = p ∨ (B ≤ b ∧ b ∉ K)) w w'
theorem LogStep.arx {lv : Value} {k want put : Int} (h : LogStep B a c p cs lv xs n 0 i who k want put w w') (hA : Arx w B a c cs xs n K) (hL : ArenaL w B a c cs lv xs n 0) (hg : ∀ g, lv.ownBlock = some g → g ∉ K) : ArxStep B a c p cs xs n K i who k want put w w' := by
  obtain ⟨lv', hL', hP', hg', hT⟩ := h
  refine ⟨⟨⟨lv', hL', fun g e r => ?_⟩, hA.na, hA.nc, fun b hb => Nat.lt_of_lt_of_le (hA.lt b hb) hT.size, hA.ba, hA.bc, Nat.le_trans hA.bw hT.size⟩, hP', hT.mono fun b hb hr => ?_⟩
  · rcases hg' g e with h | h
    · exact hg g h r
    · have := hA.lt g r
      omega
  · rcases hr with rfl | rfl | rfl | e
    · exact .inr ⟨hA.ba, hA.na⟩
    · exact .inr ⟨hA.bc, hA.nc⟩
    · exact .inl rfl
    · exact .inr ⟨(hL.own.lt b e).1, hg b e⟩
theorem load_x (hA : Arx w B a c cs xs n K) (hP : PortAt w p a who true) (hp : p ∈ K) (hn : n < 1000000) (hi : i < cs.length) :
    Calls Try.prog 94 #[.pointer (some ⟨p, 0, none⟩), .int .i64 i] w fun e w' => (e = .returned (.int .u64 (cs.getD i 0))) ∧ ArxStep B a c p cs xs n K i who 1 0 0 w w' := by
  obtain ⟨lv, hL, hg⟩ := hA.ex
  exact (load_log B a c p cs lv xs n 0 who i w hL hP (fun e => hA.na (e ▸ hp)) (fun e => hA.nc (e ▸ hp)) (fun e => hg p e hp) hA.bw hn hi).mono fun e w' ⟨he, hs⟩ => ⟨he, hs.arx hA hL hg⟩
theorem store_x (v : Int) (hA : Arx w B a c cs xs n K) (hP : PortAt w p a who true) (hp : p ∈ K) (hn : n < 1000000) (hi : i < cs.length) :
    Calls Try.prog 96 #[.pointer (some ⟨p, 0, none⟩), .int .i64 i, .int .u64 v] w fun e w' => (∃ u, e = .returned u) ∧ ArxStep B a c p cs xs n K i who 2 0 v w w' := by
  obtain ⟨lv, hL, hg⟩ := hA.ex
  exact (store_log B a c p cs lv xs n 0 who i v w hL hP (fun e => hA.na (e ▸ hp)) (fun e => hA.nc (e ▸ hp)) (fun e => hg p e hp) hA.bw hn hi).mono fun e w' ⟨he, hs⟩ => ⟨he, hs.arx hA hL hg⟩
theorem poke_x (v : Int) (hA : Arx w B a c cs xs n K) (hi : i < cs.length) (hm : cs.length ≤ 1000000) :
    Calls Try.prog 18 #[.pointer (some ⟨a, 0, none⟩), .int .i64 i, .int .u64 v] w fun e w' => e = .returned (.int .i64 0) ∧ Arx w' B a c (cs.set i v) xs n K ∧ Touch (fun b => b = c) w w' := by
  obtain ⟨lv, hL, hg⟩ := hA.ex
  refine (poke_yes i v hL.at' hi hm).mono fun e w' ⟨he, hA', hT⟩ => ⟨he, ⟨⟨lv, ⟨hA', own_touch hL.own hT (fun g e r => hL.apc (e.trans (by rw [r]))), hL.apa, hL.apc⟩, hg⟩, hA.na, hA.nc, fun b hb => Nat.lt_of_lt_of_le (hA.lt b hb) hT.size, hA.ba, hA.bc, Nat.le_trans hA.bw hT.size⟩, hT⟩
theorem peek_x (hA : Arx w B a c cs xs n K) (hi : i < cs.length) (hm : cs.length ≤ 1000000) :
    Calls Try.prog 74 #[.pointer (some ⟨a, 0, none⟩), .int .i64 i] w fun e w' => e = .returned (.tuple #[.int .u64 (cs.getD i 0), .int .i64 0]) ∧ Quiet w w' := by
  obtain ⟨lv, hL, _⟩ := hA.ex
  exact peek_yes i hL.at' hi hm
theorem count_x (hA : Arx w B a c cs xs n K) :
    Calls Try.prog 75 #[.pointer (some ⟨a, 0, none⟩)] w fun e w' => e = .returned (.int .i64 n) ∧ Quiet w w' := by
  obtain ⟨lv, hL, _⟩ := hA.ex
  exact count_at hL.at'
/-- the arena that New makes -/
theorem ArenaAt.arx {m : Nat} (hA : ArenaAt w a c (List.replicate m 0) true (.slice none 0 0) 0 0) (ha : B ≤ a) (hc : B ≤ c) (hb : B ≤ w.heap.size) : Arx w B a c (List.replicate m 0) [] 0 [] :=
  ⟨⟨_, ⟨hA, World.ownsRow_nil _ _ _ _, by simp [Value.ownBlock], by simp [Value.ownBlock]⟩, fun _ _ => List.not_mem_nil⟩, List.not_mem_nil, List.not_mem_nil, fun _ h => absurd h List.not_mem_nil, ha, hc, hb⟩
end
end Go.Proofs.Ytgcahbgapojimaa
