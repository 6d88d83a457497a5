/- The walk of the law ArenaGrants: it returns true, whatever is given. No condition but that each number fits its kind. -/
import Derived.Test.YtkecoekeepigkaaOthers
import Derived.Test.YtkecoekeepigkaaRowS
import Derived.Test.YtkecoekeepigkaaWords
namespace Go.Proofs.Ytkecoekeepigkaa
open Go.RowKit
set_option linter.unusedVariables false
/-- What holds at a round's head. -/
def GrAt (a c p : Nat) (N : Nat) (k : Nat) (gr : Int) (w wr : World) : Prop :=
  ∃ (g : Bool) (cs : List Int) (n f : Int), ArenaAt wr a c cs false (.slice none 0 0) n f ∧ PortAt wr p a 4 g ∧ Below w.heap.size w wr ∧ cs.length = N ∧ 0 ≤ n ∧ 0 ≤ f ∧ n + (if g then 1 else 0) ≤ gr ∧ gr ≤ k ∧ n + f ≤ k ∧ w.heap.size ≤ a ∧ w.heap.size ≤ c ∧ w.heap.size ≤ p ∧ p ≠ a ∧ p ≠ c
def lstBlk : Value → Option Nat
  | .slice (some x) n _ => if n = 0 then none else some x.block
  | _ => none
theorem lst_lt {k : IntKind} {w : World} {v : Value} {zs : List Int} (h : Lst k w v zs) : ∀ b, lstBlk v = some b → b < w.heap.size := by
  intro b hb
  rcases h with ⟨_, a, cap, rfl⟩ | ⟨b', off, cap, rfl, h1, _, h3⟩
  · cases a <;> simp [lstBlk] at hb
  · simp [lstBlk] at hb
    obtain ⟨_, rfl⟩ := hb
    exact World.block_lt_of_cell? w _ (h3 0 h1)
theorem own_blk {w : World} {base : Nat} {e : TypeId} {size n : Nat} {v : Value} {xs : List Value} (h : w.ownsRow base e size v n xs) : ∀ b, lstBlk v = some b → base ≤ b := by
  intro b hb
  refine (h.lt b ?_).1
  rcases h.2 with ⟨rfl, _⟩ | ⟨g, cap, cur, rfl, _⟩
  · simp [lstBlk] at hb
  · simp only [lstBlk] at hb
    split at hb
    · cases hb
    · exact hb
theorem lst_touch {k : IntKind} {a p : Nat} {w w' : World} {v : Value} {zs : List Int} (h : Lst k w v zs) (ht : Touch (fun b => b = a ∨ b = p) w w') (hv : ∀ b, lstBlk v = some b → b < w.heap.size ∧ b ≠ a ∧ b ≠ p) : Lst k w' v zs := by
  rcases h with h | ⟨b, off, cap, rfl, h1, h2, h3⟩
  · exact .inl h
  · have hb := hv b (by show (if zs.length = 0 then none else some b) = some b; rw [if_neg (by omega)])
    exact .inr ⟨b, off, cap, rfl, h1, h2, fun i hi => (cell_of_touch ht _ hb.1 (by show ¬ (b = a ∨ b = p); omega)).trans (h3 i hi)⟩
theorem mod_more (x : Int) : ∃ N : Nat, 0 < N ∧ N ≤ 40 ∧ wrap64 (1 + wrap64 ((IntKind.u64.wrap x).tmod 40)) = N := by
  obtain ⟨j, hj, HJ⟩ := mod_small x 40 (by decide) (by decide)
  rw [show ((40 : Nat) : Int) = 40 from rfl] at HJ
  refine ⟨1 + j, by omega, by omega, ?_⟩
  rw [HJ, IntWalk.wrap64_in _ ⟨by omega, by omega⟩]
  omega
set_option maxRecDepth 100000 in
set_option maxHeartbeats 16000000 in
theorem grants_walk (b o cap len : Nat) (F : Nat → Nat → Int) (x : Int) (w : World) (hlt : b < w.heap.size) (hm : len ≤ maxLen) (hc : Hid (∀ i, i < len → ∀ j, j < 5 → w.cell? ⟨b, o + i * 5 + j, none⟩ = some (.int ((fun j => ([.i64, .i64, .i64, .u64, .u64] : List IntKind).getD j .i64) j) (F i j)))) :
    Calls Try.prog 4 #[.int .i64 x, .slice (some ⟨b, o, none⟩) len cap] w fun e w' => e = .returned (.bool true) ∧ Below w.heap.size w w' := by
  unfold maxLen at hm
  obtain ⟨N, hN0, hN1, HJ⟩ := mod_more x
  go_enter Try.func4, Try.ntmps4
  go_wp2_with fail
  refine (celled_any _).mono ?_
  rintro e w1 ⟨rfl, hb1⟩
  go_wp2_with fail
  refine (new_yes N false _ hN0 (by omega)).mono ?_
  rintro e w2 ⟨a, c, rfl, hA2, ha, hcc, hb2⟩
  have hs1 := hb1.size
  have hs2 := hb2.size
  have hB2 := hb1.trans (hb2.mono hs1)
  go_wp2_with fail
  refine (port_yes a 4 _ (by decide) (by decide)).mono ?_
  rintro e w3 ⟨p, rfl, hP3, hpp, hb3⟩
  have hA3 := hA2.grew hb3
  have hB3 := hB2.trans (hb3.mono hB2.size)
  have lA := hA2.lt
  have hI : GrAt a c p N 0 0 w w3 := ⟨false, _, 0, 0, hA3, hP3, hB3, by simp, by decide, by decide, by decide, by decide, by decide, by omega, by omega, by omega, by omega, by omega⟩
  clear hA2 hP3 hA3 hB3 hB2 hb1 hb2 hb3 lA hs1 hs2 HJ ha hcc hpp
  go_wp2_with fail
  go_loopw [8, 9] (fun gr i wr => ∃ (k : Nat) (G : Int), k ≤ len ∧ k ≤ 200 ∧ i = .int .i64 k ∧ gr = .int .i64 G ∧ GrAt a c p N k G w wr) (fun _ i _ => len - (intOf i).toNat)
  case atStart => exact ⟨0, 0, Nat.zero_le _, Nat.zero_le _, rfl, rfl, hI⟩
  case round =>
    obtain ⟨k, G, hk, hk2, rfl, rfl, hG⟩ := hrel
    clear hI
    obtain ⟨g, cs, n, f, hA, hP, hB, hN, hn, hf, hnG, hGk, hnf, ha, hcc, hpp, hpa, hpc⟩ := hG
    by_cases hl : k < len
    · by_cases h200 : k < 200
      · have r0 : wr.cell? ⟨b, o + k * 5, none⟩ = some (.int .i64 (F k 0)) := (hB.cell (p := ⟨b, o + k * 5, none⟩) hlt).trans (hc.out k hl 0 (by decide))
        have r1 : wr.cell? ⟨b, o + k * 5 + 1, none⟩ = some (.int .i64 (F k 1)) := (hB.cell (p := ⟨b, o + k * 5 + 1, none⟩) hlt).trans (hc.out k hl 1 (by decide))
        have r2 : wr.cell? ⟨b, o + k * 5 + 2, none⟩ = some (.int .i64 (F k 2)) := (hB.cell (p := ⟨b, o + k * 5 + 2, none⟩) hlt).trans (hc.out k hl 2 (by decide))
        have r3 : wr.cell? ⟨b, o + k * 5 + 3, none⟩ = some (.int .u64 (F k 3)) := (hB.cell (p := ⟨b, o + k * 5 + 3, none⟩) hlt).trans (hc.out k hl 3 (by decide))
        have r4 : wr.cell? ⟨b, o + k * 5 + 4, none⟩ = some (.int .u64 (F k 4)) := (hB.cell (p := ⟨b, o + k * 5 + 4, none⟩) hlt).trans (hc.out k hl 4 (by decide))
        have hN := Lib.hid hN
        have hc := Lib.hid hc
        generalize F k 0 = q0 at *
        generalize F k 1 = K at *
        generalize F k 2 = q2 at *
        generalize F k 3 = q3 at *
        generalize F k 4 = q4 at *
        by_cases h7 : K = 7
        · subst h7
          go_wp2_with fail
          have hO1 : Blk (wr.alloc (.cells #[.int .i64 q0, .int .i64 7, .int .i64 q2, .int .u64 q3, .int .u64 q4] 35)) wr.heap.size #[.int .i64 q0, .int .i64 7, .int .i64 q2, .int .u64 q3, .int .u64 q4] 35 := Blk.new _ _ _
          have hA1 := hA.alloc (.cells #[.int .i64 q0, .int .i64 7, .int .i64 q2, .int .u64 q3, .int .u64 q4] 35)
          have hP1 : PortAt (wr.alloc (.cells #[.int .i64 q0, .int .i64 7, .int .i64 q2, .int .u64 q3, .int .u64 q4] 35)) p a 4 g := Blk.alloc hP _
          have hB1 := hB.alloc hB.size (.cells #[.int .i64 q0, .int .i64 7, .int .i64 q2, .int .u64 q3, .int .u64 q4] 35)
          clear r0 r1 r2 r3 r4
          have lA := hA.lt
          have lP := Blk.lt hP
          refine (image_at a c cs false _ n f _ hA1 (by rw [hN.out]; exact hN0) (by rw [hN.out]; omega)).mono ?_
          rintro e w2 ⟨v, rfl, hown, hb2⟩
          have hA2 := hA1.grew hb2
          have hP2 : PortAt w2 p a 4 g := Blk.grew hP1 hb2
          have hO2 := hO1.grew hb2
          have hV2 := lst_of_own hown
          have hB2 := hB1.trans (hb2.mono hB1.size)
          clear hA1 hP1 hO1 hB1 hA hP hB
          go_wp2_with fail
          refine (count_at hA2).mono ?_
          rintro e w3 ⟨rfl, hq3⟩
          go_wp2_with fail
          refine (faults_at (hA2.quiet hq3)).mono ?_
          rintro e w4 ⟨rfl, hq4⟩
          have hq := hq3.trans hq4
          have hA4 := hA2.quiet hq
          have hP4 : PortAt w4 p a 4 g := Blk.quiet hP2 hq
          have hO4 := hO2.quiet hq
          have hV4 := hV2.quiet hq
          have hB4 := hB2.trans hq.below
          have o1 : w4.cell? ⟨wr.heap.size, 1, none⟩ = some (.int .i64 7) := hO4.val 1 rfl
          have o2 : w4.cell? ⟨wr.heap.size, 2, none⟩ = some (.int .i64 q2) := hO4.val 2 rfl
          have o3 : w4.cell? ⟨wr.heap.size, 3, none⟩ = some (.int .u64 q3) := hO4.val 3 rfl
          have o4 : w4.cell? ⟨wr.heap.size, 4, none⟩ = some (.int .u64 q4) := hO4.val 4 rfl
          have hvl : Hid (∀ b, lstBlk v = some b → b < w4.heap.size ∧ b ≠ a ∧ b ≠ p) := fun b hb => ⟨lst_lt hV4 b hb, by have := own_blk hown b hb; rw [World.size_alloc] at this; omega, by have := own_blk hown b hb; rw [World.size_alloc] at this; omega⟩
          clear hA2 hP2 hO2 hV2 hB2 hq3 hq4 hq hb2 hown
          go_wp2_with fail
          refine (grant_at p a 4 g _ hP4).mono ?_
          rintro e w5 ⟨⟨v5, rfl⟩, hP5, hT5⟩
          have hA5 := hA4.touch hT5 (Ne.symm hpa) (Ne.symm hpc)
          have hB5 := hB4.trans (hT5.below hB4.size (fun x hx => by omega))
          have hn1 : n ≤ G := by cases g <;> simp at hnG <;> omega
          go_wp2_with fail
          refine (count_at hA5).mono ?_
          rintro e w9 ⟨rfl, hq9⟩
          go_wp2
          go_roundw
          case rel => exact ⟨k + 1, G + 1, by omega, by omega, by go_num, rfl, ⟨true, cs, n, f, hA5.quiet hq9, Blk.quiet hP5 hq9, hB5.trans hq9.below, hN.out, hn, hf, by simp; omega, by omega, by omega, ha, hcc, hpp, hpa, hpc⟩⟩
          case measure => simp [intOf]; omega
        by_cases h1 : K = 1
        · subst h1
          by_cases hgood : g = true ∧ insB N q2 = true
          · obtain ⟨rfl, hi⟩ := hgood
            have hi := of_decide_eq_true hi
            obtain ⟨i, rfl⟩ := Int.eq_ofNat_of_zero_le hi.1
            have hiN : i < N := by omega
            clear hi
            go_wp2_with fail
            have hO1 : Blk (wr.alloc (.cells #[.int .i64 q0, .int .i64 1, .int .i64 (i : Int), .int .u64 q3, .int .u64 q4] 35)) wr.heap.size #[.int .i64 q0, .int .i64 1, .int .i64 (i : Int), .int .u64 q3, .int .u64 q4] 35 := Blk.new _ _ _
            have hA1 := hA.alloc (.cells #[.int .i64 q0, .int .i64 1, .int .i64 (i : Int), .int .u64 q3, .int .u64 q4] 35)
            have hP1 : PortAt (wr.alloc (.cells #[.int .i64 q0, .int .i64 1, .int .i64 (i : Int), .int .u64 q3, .int .u64 q4] 35)) p a 4 true := Blk.alloc hP _
            have hB1 := hB.alloc hB.size (.cells #[.int .i64 q0, .int .i64 1, .int .i64 (i : Int), .int .u64 q3, .int .u64 q4] 35)
            clear r0 r1 r2 r3 r4
            have lA := hA.lt
            have lP := Blk.lt hP
            refine (image_at a c cs false _ n f _ hA1 (by rw [hN.out]; exact hN0) (by rw [hN.out]; omega)).mono ?_
            rintro e w2 ⟨v, rfl, hown, hb2⟩
            have hA2 := hA1.grew hb2
            have hP2 : PortAt w2 p a 4 true := Blk.grew hP1 hb2
            have hO2 := hO1.grew hb2
            have hV2 := lst_of_own hown
            have hB2 := hB1.trans (hb2.mono hB1.size)
            clear hA1 hP1 hO1 hB1 hA hP hB
            go_wp2_with fail
            refine (count_at hA2).mono ?_
            rintro e w3 ⟨rfl, hq3⟩
            go_wp2_with fail
            refine (faults_at (hA2.quiet hq3)).mono ?_
            rintro e w4 ⟨rfl, hq4⟩
            have hq := hq3.trans hq4
            have hA4 := hA2.quiet hq
            have hP4 : PortAt w4 p a 4 true := Blk.quiet hP2 hq
            have hO4 := hO2.quiet hq
            have hV4 := hV2.quiet hq
            have hB4 := hB2.trans hq.below
            have o1 : w4.cell? ⟨wr.heap.size, 1, none⟩ = some (.int .i64 1) := hO4.val 1 rfl
            have o2 : w4.cell? ⟨wr.heap.size, 2, none⟩ = some (.int .i64 (i : Int)) := hO4.val 2 rfl
            have o3 : w4.cell? ⟨wr.heap.size, 3, none⟩ = some (.int .u64 q3) := hO4.val 3 rfl
            have o4 : w4.cell? ⟨wr.heap.size, 4, none⟩ = some (.int .u64 q4) := hO4.val 4 rfl
            have hvl : Hid (∀ b, lstBlk v = some b → b < w4.heap.size ∧ b ≠ a ∧ b ≠ p) := fun b hb => ⟨lst_lt hV4 b hb, by have := own_blk hown b hb; rw [World.size_alloc] at this; omega, by have := own_blk hown b hb; rw [World.size_alloc] at this; omega⟩
            clear hA2 hP2 hO2 hV2 hB2 hq3 hq4 hq hb2 hown
            have T5 := load_put a c p cs (.slice none 0 0) n f 4 i w4 hA4 hP4 hpa hpc hn (by omega) (by rw [hN.out]; exact hiN) (by rw [hN.out]; omega)
            generalize cs.getD i 0 = z at T5
            have T5 := Lib.hid T5
            go_wp2_with fail
            refine T5.out.mono ?_
            rintro e w5 ⟨rfl, hA5, hP5, hT5⟩
            clear T5
            have hB5 := hB4.trans (hT5.belowP hB4.size ha hcc hpp)
            have hG1 : n + 1 ≤ G := by simpa using hnG
            clear hA4 hP4 hO4 hV4 hB4 o1 o2 o3 o4 hvl
            go_wp2_with fail
            refine (open_at p a 4 false _ hP5).mono ?_
            rintro e w6 ⟨rfl, hq6⟩
            have hA6 := hA5.quiet hq6
            go_wp2_with fail
            refine (count_at hA6).mono ?_
            rintro e w7 ⟨rfl, hq7⟩
            have hA7 := hA6.quiet hq7
            go_wp2_with fail
            refine (faults_at hA7).mono ?_
            rintro e w8 ⟨rfl, hq8⟩
            have hA8 := hA7.quiet hq8
            go_wp2_with fail
            refine (faults_at hA8).mono ?_
            rintro e w10 ⟨rfl, hq10⟩
            have hA10 := hA8.quiet hq10
            have hqq := ((hq6.trans hq7).trans hq8).trans hq10
            clear hA5 hA6 hA7 hA8 hq6 hq7 hq8 hq10
            go_wp2_with fail
            refine (count_at hA10).mono ?_
            rintro e w9 ⟨rfl, hq9⟩
            go_wp2
            go_roundw
            case rel => exact ⟨k + 1, G, by omega, by omega, by go_num, rfl, ⟨false, _, n + 1, f, hA10.quiet hq9, Blk.quiet (Blk.quiet hP5 hqq) hq9, (hB5.trans hqq.below).trans hq9.below, by rw [List.length_set]; exact hN.out, by omega, hf, by simp; omega, by omega, by omega, ha, hcc, hpp, hpa, hpc⟩⟩
            case measure => simp [intOf]; omega
          · have hbad : Hid (g = false ∨ insB cs.length q2 = false) := by rw [hN.out]; cases g <;> simp_all
            clear hgood
            go_wp2_with fail
            have hO1 : Blk (wr.alloc (.cells #[.int .i64 q0, .int .i64 1, .int .i64 q2, .int .u64 q3, .int .u64 q4] 35)) wr.heap.size #[.int .i64 q0, .int .i64 1, .int .i64 q2, .int .u64 q3, .int .u64 q4] 35 := Blk.new _ _ _
            have hA1 := hA.alloc (.cells #[.int .i64 q0, .int .i64 1, .int .i64 q2, .int .u64 q3, .int .u64 q4] 35)
            have hP1 : PortAt (wr.alloc (.cells #[.int .i64 q0, .int .i64 1, .int .i64 q2, .int .u64 q3, .int .u64 q4] 35)) p a 4 g := Blk.alloc hP _
            have hB1 := hB.alloc hB.size (.cells #[.int .i64 q0, .int .i64 1, .int .i64 q2, .int .u64 q3, .int .u64 q4] 35)
            clear r0 r1 r2 r3 r4
            have lA := hA.lt
            have lP := Blk.lt hP
            refine (image_at a c cs false _ n f _ hA1 (by rw [hN.out]; exact hN0) (by rw [hN.out]; omega)).mono ?_
            rintro e w2 ⟨v, rfl, hown, hb2⟩
            have hA2 := hA1.grew hb2
            have hP2 : PortAt w2 p a 4 g := Blk.grew hP1 hb2
            have hO2 := hO1.grew hb2
            have hV2 := lst_of_own hown
            have hB2 := hB1.trans (hb2.mono hB1.size)
            clear hA1 hP1 hO1 hB1 hA hP hB
            go_wp2_with fail
            refine (count_at hA2).mono ?_
            rintro e w3 ⟨rfl, hq3⟩
            go_wp2_with fail
            refine (faults_at (hA2.quiet hq3)).mono ?_
            rintro e w4 ⟨rfl, hq4⟩
            have hq := hq3.trans hq4
            have hA4 := hA2.quiet hq
            have hP4 : PortAt w4 p a 4 g := Blk.quiet hP2 hq
            have hO4 := hO2.quiet hq
            have hV4 := hV2.quiet hq
            have hB4 := hB2.trans hq.below
            have o1 : w4.cell? ⟨wr.heap.size, 1, none⟩ = some (.int .i64 1) := hO4.val 1 rfl
            have o2 : w4.cell? ⟨wr.heap.size, 2, none⟩ = some (.int .i64 q2) := hO4.val 2 rfl
            have o3 : w4.cell? ⟨wr.heap.size, 3, none⟩ = some (.int .u64 q3) := hO4.val 3 rfl
            have o4 : w4.cell? ⟨wr.heap.size, 4, none⟩ = some (.int .u64 q4) := hO4.val 4 rfl
            have hvl : Hid (∀ b, lstBlk v = some b → b < w4.heap.size ∧ b ≠ a ∧ b ≠ p) := fun b hb => ⟨lst_lt hV4 b hb, by have := own_blk hown b hb; rw [World.size_alloc] at this; omega, by have := own_blk hown b hb; rw [World.size_alloc] at this; omega⟩
            clear hA2 hP2 hO2 hV2 hB2 hq3 hq4 hq hb2 hown
            have T5 := Lib.hid (load_fault a c p cs false (.slice none 0 0) n f g 4 q2 w4 hA4 hP4 hpa hpc hf (by omega) hbad.out)
            go_wp2_with fail
            refine T5.out.mono ?_
            rintro e w5 ⟨rfl, hA5, hP5, hT5⟩
            clear T5
            have hB5 := hB4.trans (hT5.belowF hB4.size ha hpp)
            have hV5 := lst_touch hV4 hT5 hvl.out
            have hn1 : n ≤ G := by cases g <;> simp at hnG <;> omega
            clear hA4 hP4 hO4 hV4 hB4 o1 o2 o3 o4
            go_wp2_with fail
            refine (open_at p a 4 false _ hP5).mono ?_
            rintro e w6 ⟨rfl, hq6⟩
            have hA6 := hA5.quiet hq6
            go_wp2_with fail
            refine (count_at hA6).mono ?_
            rintro e w7 ⟨rfl, hq7⟩
            have hA7 := hA6.quiet hq7
            go_wp2_with fail
            refine (faults_at hA7).mono ?_
            rintro e w8 ⟨rfl, hq8⟩
            have hA8 := hA7.quiet hq8
            go_wp2_with fail
            refine (faults_at hA8).mono ?_
            rintro e w10 ⟨rfl, hq10⟩
            have hA10 := hA8.quiet hq10
            have hqq := ((hq6.trans hq7).trans hq8).trans hq10
            go_wp2_with fail
            refine (image_at a c cs false _ n _ _ hA10 (by rw [hN.out]; exact hN0) (by rw [hN.out]; omega)).mono ?_
            rintro e w11 ⟨v', rfl, hown', hb11⟩
            have hA11 := hA10.grew hb11
            have hP11 : PortAt w11 p a 4 false := Blk.grew (Blk.quiet hP5 hqq) hb11
            have hB10 := hB5.trans hqq.below
            have hB11 := hB10.trans (hb11.mono hB10.size)
            have hV11 := (hV5.quiet hqq).below hb11
            have hV11' := lst_of_own hown'
            go_wp2_with fail
            refine (words_any _ _ _ _ hV11 hV11').mono ?_
            rintro e w12 ⟨rfl, hq12⟩
            have hA12 := hA11.quiet hq12
            clear hA5 hA6 hA7 hA8 hA10 hA11 hq6 hq7 hq8 hq10 hV5 hV11 hV11' hown' hB10 hB5 hb11
            go_wp2_with fail
            refine (count_at hA12).mono ?_
            rintro e w9 ⟨rfl, hq9⟩
            go_wp2
            go_roundw
            case rel => exact ⟨k + 1, G, by omega, by omega, by go_num, rfl, ⟨false, cs, n, f + 1, hA12.quiet hq9, Blk.quiet (Blk.quiet hP11 hq12) hq9, (hB11.trans hq12.below).trans hq9.below, hN.out, hn, by omega, by simp; omega, by omega, by omega, ha, hcc, hpp, hpa, hpc⟩⟩
            case measure => simp [intOf]; omega
        by_cases h2 : K = 2
        · subst h2
          by_cases hgood : g = true ∧ insB N q2 = true
          · obtain ⟨rfl, hi⟩ := hgood
            have hi := of_decide_eq_true hi
            obtain ⟨i, rfl⟩ := Int.eq_ofNat_of_zero_le hi.1
            have hiN : i < N := by omega
            clear hi
            go_wp2_with fail
            have hO1 : Blk (wr.alloc (.cells #[.int .i64 q0, .int .i64 2, .int .i64 (i : Int), .int .u64 q3, .int .u64 q4] 35)) wr.heap.size #[.int .i64 q0, .int .i64 2, .int .i64 (i : Int), .int .u64 q3, .int .u64 q4] 35 := Blk.new _ _ _
            have hA1 := hA.alloc (.cells #[.int .i64 q0, .int .i64 2, .int .i64 (i : Int), .int .u64 q3, .int .u64 q4] 35)
            have hP1 : PortAt (wr.alloc (.cells #[.int .i64 q0, .int .i64 2, .int .i64 (i : Int), .int .u64 q3, .int .u64 q4] 35)) p a 4 true := Blk.alloc hP _
            have hB1 := hB.alloc hB.size (.cells #[.int .i64 q0, .int .i64 2, .int .i64 (i : Int), .int .u64 q3, .int .u64 q4] 35)
            clear r0 r1 r2 r3 r4
            have lA := hA.lt
            have lP := Blk.lt hP
            refine (image_at a c cs false _ n f _ hA1 (by rw [hN.out]; exact hN0) (by rw [hN.out]; omega)).mono ?_
            rintro e w2 ⟨v, rfl, hown, hb2⟩
            have hA2 := hA1.grew hb2
            have hP2 : PortAt w2 p a 4 true := Blk.grew hP1 hb2
            have hO2 := hO1.grew hb2
            have hV2 := lst_of_own hown
            have hB2 := hB1.trans (hb2.mono hB1.size)
            clear hA1 hP1 hO1 hB1 hA hP hB
            go_wp2_with fail
            refine (count_at hA2).mono ?_
            rintro e w3 ⟨rfl, hq3⟩
            go_wp2_with fail
            refine (faults_at (hA2.quiet hq3)).mono ?_
            rintro e w4 ⟨rfl, hq4⟩
            have hq := hq3.trans hq4
            have hA4 := hA2.quiet hq
            have hP4 : PortAt w4 p a 4 true := Blk.quiet hP2 hq
            have hO4 := hO2.quiet hq
            have hV4 := hV2.quiet hq
            have hB4 := hB2.trans hq.below
            have o1 : w4.cell? ⟨wr.heap.size, 1, none⟩ = some (.int .i64 2) := hO4.val 1 rfl
            have o2 : w4.cell? ⟨wr.heap.size, 2, none⟩ = some (.int .i64 (i : Int)) := hO4.val 2 rfl
            have o3 : w4.cell? ⟨wr.heap.size, 3, none⟩ = some (.int .u64 q3) := hO4.val 3 rfl
            have o4 : w4.cell? ⟨wr.heap.size, 4, none⟩ = some (.int .u64 q4) := hO4.val 4 rfl
            have hvl : Hid (∀ b, lstBlk v = some b → b < w4.heap.size ∧ b ≠ a ∧ b ≠ p) := fun b hb => ⟨lst_lt hV4 b hb, by have := own_blk hown b hb; rw [World.size_alloc] at this; omega, by have := own_blk hown b hb; rw [World.size_alloc] at this; omega⟩
            clear hA2 hP2 hO2 hV2 hB2 hq3 hq4 hq hb2 hown
            have T5 := store_put a c p cs (.slice none 0 0) n f 4 i q4 w4 hA4 hP4 hpa hpc hn (by omega) (by rw [hN.out]; exact hiN) (by rw [hN.out]; omega)
            have T5 := Lib.hid T5
            go_wp2_with fail
            refine T5.out.mono ?_
            rintro e w5 ⟨⟨v5, rfl⟩, hA5, hP5, hT5⟩
            clear T5
            have hB5 := hB4.trans (hT5.belowP hB4.size ha hcc hpp)
            have hG1 : n + 1 ≤ G := by simpa using hnG
            clear hA4 hP4 hO4 hV4 hB4 o1 o2 o3 o4 hvl
            go_wp2_with fail
            refine (open_at p a 4 false _ hP5).mono ?_
            rintro e w6 ⟨rfl, hq6⟩
            have hA6 := hA5.quiet hq6
            go_wp2_with fail
            refine (count_at hA6).mono ?_
            rintro e w7 ⟨rfl, hq7⟩
            have hA7 := hA6.quiet hq7
            go_wp2_with fail
            refine (faults_at hA7).mono ?_
            rintro e w8 ⟨rfl, hq8⟩
            have hA8 := hA7.quiet hq8
            go_wp2_with fail
            refine (faults_at hA8).mono ?_
            rintro e w10 ⟨rfl, hq10⟩
            have hA10 := hA8.quiet hq10
            have hqq := ((hq6.trans hq7).trans hq8).trans hq10
            clear hA5 hA6 hA7 hA8 hq6 hq7 hq8 hq10
            go_wp2_with fail
            refine (count_at hA10).mono ?_
            rintro e w9 ⟨rfl, hq9⟩
            go_wp2
            go_roundw
            case rel => exact ⟨k + 1, G, by omega, by omega, by go_num, rfl, ⟨false, _, n + 1, f, hA10.quiet hq9, Blk.quiet (Blk.quiet hP5 hqq) hq9, (hB5.trans hqq.below).trans hq9.below, by rw [List.length_set]; exact hN.out, by omega, hf, by simp; omega, by omega, by omega, ha, hcc, hpp, hpa, hpc⟩⟩
            case measure => simp [intOf]; omega
          · have hbad : Hid (g = false ∨ insB cs.length q2 = false) := by rw [hN.out]; cases g <;> simp_all
            clear hgood
            go_wp2_with fail
            have hO1 : Blk (wr.alloc (.cells #[.int .i64 q0, .int .i64 2, .int .i64 q2, .int .u64 q3, .int .u64 q4] 35)) wr.heap.size #[.int .i64 q0, .int .i64 2, .int .i64 q2, .int .u64 q3, .int .u64 q4] 35 := Blk.new _ _ _
            have hA1 := hA.alloc (.cells #[.int .i64 q0, .int .i64 2, .int .i64 q2, .int .u64 q3, .int .u64 q4] 35)
            have hP1 : PortAt (wr.alloc (.cells #[.int .i64 q0, .int .i64 2, .int .i64 q2, .int .u64 q3, .int .u64 q4] 35)) p a 4 g := Blk.alloc hP _
            have hB1 := hB.alloc hB.size (.cells #[.int .i64 q0, .int .i64 2, .int .i64 q2, .int .u64 q3, .int .u64 q4] 35)
            clear r0 r1 r2 r3 r4
            have lA := hA.lt
            have lP := Blk.lt hP
            refine (image_at a c cs false _ n f _ hA1 (by rw [hN.out]; exact hN0) (by rw [hN.out]; omega)).mono ?_
            rintro e w2 ⟨v, rfl, hown, hb2⟩
            have hA2 := hA1.grew hb2
            have hP2 : PortAt w2 p a 4 g := Blk.grew hP1 hb2
            have hO2 := hO1.grew hb2
            have hV2 := lst_of_own hown
            have hB2 := hB1.trans (hb2.mono hB1.size)
            clear hA1 hP1 hO1 hB1 hA hP hB
            go_wp2_with fail
            refine (count_at hA2).mono ?_
            rintro e w3 ⟨rfl, hq3⟩
            go_wp2_with fail
            refine (faults_at (hA2.quiet hq3)).mono ?_
            rintro e w4 ⟨rfl, hq4⟩
            have hq := hq3.trans hq4
            have hA4 := hA2.quiet hq
            have hP4 : PortAt w4 p a 4 g := Blk.quiet hP2 hq
            have hO4 := hO2.quiet hq
            have hV4 := hV2.quiet hq
            have hB4 := hB2.trans hq.below
            have o1 : w4.cell? ⟨wr.heap.size, 1, none⟩ = some (.int .i64 2) := hO4.val 1 rfl
            have o2 : w4.cell? ⟨wr.heap.size, 2, none⟩ = some (.int .i64 q2) := hO4.val 2 rfl
            have o3 : w4.cell? ⟨wr.heap.size, 3, none⟩ = some (.int .u64 q3) := hO4.val 3 rfl
            have o4 : w4.cell? ⟨wr.heap.size, 4, none⟩ = some (.int .u64 q4) := hO4.val 4 rfl
            have hvl : Hid (∀ b, lstBlk v = some b → b < w4.heap.size ∧ b ≠ a ∧ b ≠ p) := fun b hb => ⟨lst_lt hV4 b hb, by have := own_blk hown b hb; rw [World.size_alloc] at this; omega, by have := own_blk hown b hb; rw [World.size_alloc] at this; omega⟩
            clear hA2 hP2 hO2 hV2 hB2 hq3 hq4 hq hb2 hown
            have T5 := Lib.hid (store_fault a c p cs false (.slice none 0 0) n f g 4 q2 q4 w4 hA4 hP4 hpa hpc hf (by omega) hbad.out)
            go_wp2_with fail
            refine T5.out.mono ?_
            rintro e w5 ⟨⟨v5, rfl⟩, hA5, hP5, hT5⟩
            clear T5
            have hB5 := hB4.trans (hT5.belowF hB4.size ha hpp)
            have hV5 := lst_touch hV4 hT5 hvl.out
            have hn1 : n ≤ G := by cases g <;> simp at hnG <;> omega
            clear hA4 hP4 hO4 hV4 hB4 o1 o2 o3 o4
            go_wp2_with fail
            refine (open_at p a 4 false _ hP5).mono ?_
            rintro e w6 ⟨rfl, hq6⟩
            have hA6 := hA5.quiet hq6
            go_wp2_with fail
            refine (count_at hA6).mono ?_
            rintro e w7 ⟨rfl, hq7⟩
            have hA7 := hA6.quiet hq7
            go_wp2_with fail
            refine (faults_at hA7).mono ?_
            rintro e w8 ⟨rfl, hq8⟩
            have hA8 := hA7.quiet hq8
            go_wp2_with fail
            refine (faults_at hA8).mono ?_
            rintro e w10 ⟨rfl, hq10⟩
            have hA10 := hA8.quiet hq10
            have hqq := ((hq6.trans hq7).trans hq8).trans hq10
            go_wp2_with fail
            refine (image_at a c cs false _ n _ _ hA10 (by rw [hN.out]; exact hN0) (by rw [hN.out]; omega)).mono ?_
            rintro e w11 ⟨v', rfl, hown', hb11⟩
            have hA11 := hA10.grew hb11
            have hP11 : PortAt w11 p a 4 false := Blk.grew (Blk.quiet hP5 hqq) hb11
            have hB10 := hB5.trans hqq.below
            have hB11 := hB10.trans (hb11.mono hB10.size)
            have hV11 := (hV5.quiet hqq).below hb11
            have hV11' := lst_of_own hown'
            go_wp2_with fail
            refine (words_any _ _ _ _ hV11 hV11').mono ?_
            rintro e w12 ⟨rfl, hq12⟩
            have hA12 := hA11.quiet hq12
            clear hA5 hA6 hA7 hA8 hA10 hA11 hq6 hq7 hq8 hq10 hV5 hV11 hV11' hown' hB10 hB5 hb11
            go_wp2_with fail
            refine (count_at hA12).mono ?_
            rintro e w9 ⟨rfl, hq9⟩
            go_wp2
            go_roundw
            case rel => exact ⟨k + 1, G, by omega, by omega, by go_num, rfl, ⟨false, cs, n, f + 1, hA12.quiet hq9, Blk.quiet (Blk.quiet hP11 hq12) hq9, (hB11.trans hq12.below).trans hq9.below, hN.out, hn, by omega, by simp; omega, by omega, by omega, ha, hcc, hpp, hpa, hpc⟩⟩
            case measure => simp [intOf]; omega
        by_cases h3 : K = 3
        · subst h3
          by_cases hgood : g = true ∧ insB N q2 = true
          · obtain ⟨rfl, hi⟩ := hgood
            have hi := of_decide_eq_true hi
            obtain ⟨i, rfl⟩ := Int.eq_ofNat_of_zero_le hi.1
            have hiN : i < N := by omega
            clear hi
            go_wp2_with fail
            have hO1 : Blk (wr.alloc (.cells #[.int .i64 q0, .int .i64 3, .int .i64 (i : Int), .int .u64 q3, .int .u64 q4] 35)) wr.heap.size #[.int .i64 q0, .int .i64 3, .int .i64 (i : Int), .int .u64 q3, .int .u64 q4] 35 := Blk.new _ _ _
            have hA1 := hA.alloc (.cells #[.int .i64 q0, .int .i64 3, .int .i64 (i : Int), .int .u64 q3, .int .u64 q4] 35)
            have hP1 : PortAt (wr.alloc (.cells #[.int .i64 q0, .int .i64 3, .int .i64 (i : Int), .int .u64 q3, .int .u64 q4] 35)) p a 4 true := Blk.alloc hP _
            have hB1 := hB.alloc hB.size (.cells #[.int .i64 q0, .int .i64 3, .int .i64 (i : Int), .int .u64 q3, .int .u64 q4] 35)
            clear r0 r1 r2 r3 r4
            have lA := hA.lt
            have lP := Blk.lt hP
            refine (image_at a c cs false _ n f _ hA1 (by rw [hN.out]; exact hN0) (by rw [hN.out]; omega)).mono ?_
            rintro e w2 ⟨v, rfl, hown, hb2⟩
            have hA2 := hA1.grew hb2
            have hP2 : PortAt w2 p a 4 true := Blk.grew hP1 hb2
            have hO2 := hO1.grew hb2
            have hV2 := lst_of_own hown
            have hB2 := hB1.trans (hb2.mono hB1.size)
            clear hA1 hP1 hO1 hB1 hA hP hB
            go_wp2_with fail
            refine (count_at hA2).mono ?_
            rintro e w3 ⟨rfl, hq3⟩
            go_wp2_with fail
            refine (faults_at (hA2.quiet hq3)).mono ?_
            rintro e w4 ⟨rfl, hq4⟩
            have hq := hq3.trans hq4
            have hA4 := hA2.quiet hq
            have hP4 : PortAt w4 p a 4 true := Blk.quiet hP2 hq
            have hO4 := hO2.quiet hq
            have hV4 := hV2.quiet hq
            have hB4 := hB2.trans hq.below
            have o1 : w4.cell? ⟨wr.heap.size, 1, none⟩ = some (.int .i64 3) := hO4.val 1 rfl
            have o2 : w4.cell? ⟨wr.heap.size, 2, none⟩ = some (.int .i64 (i : Int)) := hO4.val 2 rfl
            have o3 : w4.cell? ⟨wr.heap.size, 3, none⟩ = some (.int .u64 q3) := hO4.val 3 rfl
            have o4 : w4.cell? ⟨wr.heap.size, 4, none⟩ = some (.int .u64 q4) := hO4.val 4 rfl
            have hvl : Hid (∀ b, lstBlk v = some b → b < w4.heap.size ∧ b ≠ a ∧ b ≠ p) := fun b hb => ⟨lst_lt hV4 b hb, by have := own_blk hown b hb; rw [World.size_alloc] at this; omega, by have := own_blk hown b hb; rw [World.size_alloc] at this; omega⟩
            clear hA2 hP2 hO2 hV2 hB2 hq3 hq4 hq hb2 hown
            have T5 := swap_put a c p cs (.slice none 0 0) n f 4 i q4 w4 hA4 hP4 hpa hpc hn (by omega) (by rw [hN.out]; exact hiN) (by rw [hN.out]; omega)
            generalize cs.getD i 0 = z at T5
            have T5 := Lib.hid T5
            go_wp2_with fail
            refine T5.out.mono ?_
            rintro e w5 ⟨rfl, hA5, hP5, hT5⟩
            clear T5
            have hB5 := hB4.trans (hT5.belowP hB4.size ha hcc hpp)
            have hG1 : n + 1 ≤ G := by simpa using hnG
            clear hA4 hP4 hO4 hV4 hB4 o1 o2 o3 o4 hvl
            go_wp2_with fail
            refine (open_at p a 4 false _ hP5).mono ?_
            rintro e w6 ⟨rfl, hq6⟩
            have hA6 := hA5.quiet hq6
            go_wp2_with fail
            refine (count_at hA6).mono ?_
            rintro e w7 ⟨rfl, hq7⟩
            have hA7 := hA6.quiet hq7
            go_wp2_with fail
            refine (faults_at hA7).mono ?_
            rintro e w8 ⟨rfl, hq8⟩
            have hA8 := hA7.quiet hq8
            go_wp2_with fail
            refine (faults_at hA8).mono ?_
            rintro e w10 ⟨rfl, hq10⟩
            have hA10 := hA8.quiet hq10
            have hqq := ((hq6.trans hq7).trans hq8).trans hq10
            clear hA5 hA6 hA7 hA8 hq6 hq7 hq8 hq10
            go_wp2_with fail
            refine (count_at hA10).mono ?_
            rintro e w9 ⟨rfl, hq9⟩
            go_wp2
            go_roundw
            case rel => exact ⟨k + 1, G, by omega, by omega, by go_num, rfl, ⟨false, _, n + 1, f, hA10.quiet hq9, Blk.quiet (Blk.quiet hP5 hqq) hq9, (hB5.trans hqq.below).trans hq9.below, by rw [List.length_set]; exact hN.out, by omega, hf, by simp; omega, by omega, by omega, ha, hcc, hpp, hpa, hpc⟩⟩
            case measure => simp [intOf]; omega
          · have hbad : Hid (g = false ∨ insB cs.length q2 = false) := by rw [hN.out]; cases g <;> simp_all
            clear hgood
            go_wp2_with fail
            have hO1 : Blk (wr.alloc (.cells #[.int .i64 q0, .int .i64 3, .int .i64 q2, .int .u64 q3, .int .u64 q4] 35)) wr.heap.size #[.int .i64 q0, .int .i64 3, .int .i64 q2, .int .u64 q3, .int .u64 q4] 35 := Blk.new _ _ _
            have hA1 := hA.alloc (.cells #[.int .i64 q0, .int .i64 3, .int .i64 q2, .int .u64 q3, .int .u64 q4] 35)
            have hP1 : PortAt (wr.alloc (.cells #[.int .i64 q0, .int .i64 3, .int .i64 q2, .int .u64 q3, .int .u64 q4] 35)) p a 4 g := Blk.alloc hP _
            have hB1 := hB.alloc hB.size (.cells #[.int .i64 q0, .int .i64 3, .int .i64 q2, .int .u64 q3, .int .u64 q4] 35)
            clear r0 r1 r2 r3 r4
            have lA := hA.lt
            have lP := Blk.lt hP
            refine (image_at a c cs false _ n f _ hA1 (by rw [hN.out]; exact hN0) (by rw [hN.out]; omega)).mono ?_
            rintro e w2 ⟨v, rfl, hown, hb2⟩
            have hA2 := hA1.grew hb2
            have hP2 : PortAt w2 p a 4 g := Blk.grew hP1 hb2
            have hO2 := hO1.grew hb2
            have hV2 := lst_of_own hown
            have hB2 := hB1.trans (hb2.mono hB1.size)
            clear hA1 hP1 hO1 hB1 hA hP hB
            go_wp2_with fail
            refine (count_at hA2).mono ?_
            rintro e w3 ⟨rfl, hq3⟩
            go_wp2_with fail
            refine (faults_at (hA2.quiet hq3)).mono ?_
            rintro e w4 ⟨rfl, hq4⟩
            have hq := hq3.trans hq4
            have hA4 := hA2.quiet hq
            have hP4 : PortAt w4 p a 4 g := Blk.quiet hP2 hq
            have hO4 := hO2.quiet hq
            have hV4 := hV2.quiet hq
            have hB4 := hB2.trans hq.below
            have o1 : w4.cell? ⟨wr.heap.size, 1, none⟩ = some (.int .i64 3) := hO4.val 1 rfl
            have o2 : w4.cell? ⟨wr.heap.size, 2, none⟩ = some (.int .i64 q2) := hO4.val 2 rfl
            have o3 : w4.cell? ⟨wr.heap.size, 3, none⟩ = some (.int .u64 q3) := hO4.val 3 rfl
            have o4 : w4.cell? ⟨wr.heap.size, 4, none⟩ = some (.int .u64 q4) := hO4.val 4 rfl
            have hvl : Hid (∀ b, lstBlk v = some b → b < w4.heap.size ∧ b ≠ a ∧ b ≠ p) := fun b hb => ⟨lst_lt hV4 b hb, by have := own_blk hown b hb; rw [World.size_alloc] at this; omega, by have := own_blk hown b hb; rw [World.size_alloc] at this; omega⟩
            clear hA2 hP2 hO2 hV2 hB2 hq3 hq4 hq hb2 hown
            have T5 := Lib.hid (swap_fault a c p cs false (.slice none 0 0) n f g 4 q2 q4 w4 hA4 hP4 hpa hpc hf (by omega) hbad.out)
            go_wp2_with fail
            refine T5.out.mono ?_
            rintro e w5 ⟨rfl, hA5, hP5, hT5⟩
            clear T5
            have hB5 := hB4.trans (hT5.belowF hB4.size ha hpp)
            have hV5 := lst_touch hV4 hT5 hvl.out
            have hn1 : n ≤ G := by cases g <;> simp at hnG <;> omega
            clear hA4 hP4 hO4 hV4 hB4 o1 o2 o3 o4
            go_wp2_with fail
            refine (open_at p a 4 false _ hP5).mono ?_
            rintro e w6 ⟨rfl, hq6⟩
            have hA6 := hA5.quiet hq6
            go_wp2_with fail
            refine (count_at hA6).mono ?_
            rintro e w7 ⟨rfl, hq7⟩
            have hA7 := hA6.quiet hq7
            go_wp2_with fail
            refine (faults_at hA7).mono ?_
            rintro e w8 ⟨rfl, hq8⟩
            have hA8 := hA7.quiet hq8
            go_wp2_with fail
            refine (faults_at hA8).mono ?_
            rintro e w10 ⟨rfl, hq10⟩
            have hA10 := hA8.quiet hq10
            have hqq := ((hq6.trans hq7).trans hq8).trans hq10
            go_wp2_with fail
            refine (image_at a c cs false _ n _ _ hA10 (by rw [hN.out]; exact hN0) (by rw [hN.out]; omega)).mono ?_
            rintro e w11 ⟨v', rfl, hown', hb11⟩
            have hA11 := hA10.grew hb11
            have hP11 : PortAt w11 p a 4 false := Blk.grew (Blk.quiet hP5 hqq) hb11
            have hB10 := hB5.trans hqq.below
            have hB11 := hB10.trans (hb11.mono hB10.size)
            have hV11 := (hV5.quiet hqq).below hb11
            have hV11' := lst_of_own hown'
            go_wp2_with fail
            refine (words_any _ _ _ _ hV11 hV11').mono ?_
            rintro e w12 ⟨rfl, hq12⟩
            have hA12 := hA11.quiet hq12
            clear hA5 hA6 hA7 hA8 hA10 hA11 hq6 hq7 hq8 hq10 hV5 hV11 hV11' hown' hB10 hB5 hb11
            go_wp2_with fail
            refine (count_at hA12).mono ?_
            rintro e w9 ⟨rfl, hq9⟩
            go_wp2
            go_roundw
            case rel => exact ⟨k + 1, G, by omega, by omega, by go_num, rfl, ⟨false, cs, n, f + 1, hA12.quiet hq9, Blk.quiet (Blk.quiet hP11 hq12) hq9, (hB11.trans hq12.below).trans hq9.below, hN.out, hn, by omega, by simp; omega, by omega, by omega, ha, hcc, hpp, hpa, hpc⟩⟩
            case measure => simp [intOf]; omega
        by_cases h4 : K = 4
        · subst h4
          by_cases hgood : g = true ∧ insB N q2 = true
          · obtain ⟨rfl, hi⟩ := hgood
            have hi := of_decide_eq_true hi
            obtain ⟨i, rfl⟩ := Int.eq_ofNat_of_zero_le hi.1
            have hiN : i < N := by omega
            clear hi
            go_wp2_with fail
            have hO1 : Blk (wr.alloc (.cells #[.int .i64 q0, .int .i64 4, .int .i64 (i : Int), .int .u64 q3, .int .u64 q4] 35)) wr.heap.size #[.int .i64 q0, .int .i64 4, .int .i64 (i : Int), .int .u64 q3, .int .u64 q4] 35 := Blk.new _ _ _
            have hA1 := hA.alloc (.cells #[.int .i64 q0, .int .i64 4, .int .i64 (i : Int), .int .u64 q3, .int .u64 q4] 35)
            have hP1 : PortAt (wr.alloc (.cells #[.int .i64 q0, .int .i64 4, .int .i64 (i : Int), .int .u64 q3, .int .u64 q4] 35)) p a 4 true := Blk.alloc hP _
            have hB1 := hB.alloc hB.size (.cells #[.int .i64 q0, .int .i64 4, .int .i64 (i : Int), .int .u64 q3, .int .u64 q4] 35)
            clear r0 r1 r2 r3 r4
            have lA := hA.lt
            have lP := Blk.lt hP
            refine (image_at a c cs false _ n f _ hA1 (by rw [hN.out]; exact hN0) (by rw [hN.out]; omega)).mono ?_
            rintro e w2 ⟨v, rfl, hown, hb2⟩
            have hA2 := hA1.grew hb2
            have hP2 : PortAt w2 p a 4 true := Blk.grew hP1 hb2
            have hO2 := hO1.grew hb2
            have hV2 := lst_of_own hown
            have hB2 := hB1.trans (hb2.mono hB1.size)
            clear hA1 hP1 hO1 hB1 hA hP hB
            go_wp2_with fail
            refine (count_at hA2).mono ?_
            rintro e w3 ⟨rfl, hq3⟩
            go_wp2_with fail
            refine (faults_at (hA2.quiet hq3)).mono ?_
            rintro e w4 ⟨rfl, hq4⟩
            have hq := hq3.trans hq4
            have hA4 := hA2.quiet hq
            have hP4 : PortAt w4 p a 4 true := Blk.quiet hP2 hq
            have hO4 := hO2.quiet hq
            have hV4 := hV2.quiet hq
            have hB4 := hB2.trans hq.below
            have o1 : w4.cell? ⟨wr.heap.size, 1, none⟩ = some (.int .i64 4) := hO4.val 1 rfl
            have o2 : w4.cell? ⟨wr.heap.size, 2, none⟩ = some (.int .i64 (i : Int)) := hO4.val 2 rfl
            have o3 : w4.cell? ⟨wr.heap.size, 3, none⟩ = some (.int .u64 q3) := hO4.val 3 rfl
            have o4 : w4.cell? ⟨wr.heap.size, 4, none⟩ = some (.int .u64 q4) := hO4.val 4 rfl
            have hvl : Hid (∀ b, lstBlk v = some b → b < w4.heap.size ∧ b ≠ a ∧ b ≠ p) := fun b hb => ⟨lst_lt hV4 b hb, by have := own_blk hown b hb; rw [World.size_alloc] at this; omega, by have := own_blk hown b hb; rw [World.size_alloc] at this; omega⟩
            clear hA2 hP2 hO2 hV2 hB2 hq3 hq4 hq hb2 hown
            have T5 := cas_put a c p cs (.slice none 0 0) n f 4 i q3 q4 w4 hA4 hP4 hpa hpc hn (by omega) (by rw [hN.out]; exact hiN) (by rw [hN.out]; omega)
            generalize cs.getD i 0 = z at T5
            have T5 := Lib.hid T5
            go_wp2_with fail
            refine T5.out.mono ?_
            rintro e w5 ⟨rfl, hA5, hP5, hT5⟩
            clear T5
            have hB5 := hB4.trans (hT5.belowP hB4.size ha hcc hpp)
            have hG1 : n + 1 ≤ G := by simpa using hnG
            clear hA4 hP4 hO4 hV4 hB4 o1 o2 o3 o4 hvl
            go_wp2_with fail
            refine (open_at p a 4 false _ hP5).mono ?_
            rintro e w6 ⟨rfl, hq6⟩
            have hA6 := hA5.quiet hq6
            go_wp2_with fail
            refine (count_at hA6).mono ?_
            rintro e w7 ⟨rfl, hq7⟩
            have hA7 := hA6.quiet hq7
            go_wp2_with fail
            refine (faults_at hA7).mono ?_
            rintro e w8 ⟨rfl, hq8⟩
            have hA8 := hA7.quiet hq8
            go_wp2_with fail
            refine (faults_at hA8).mono ?_
            rintro e w10 ⟨rfl, hq10⟩
            have hA10 := hA8.quiet hq10
            have hqq := ((hq6.trans hq7).trans hq8).trans hq10
            clear hA5 hA6 hA7 hA8 hq6 hq7 hq8 hq10
            go_wp2_with fail
            refine (count_at hA10).mono ?_
            rintro e w9 ⟨rfl, hq9⟩
            go_wp2
            go_roundw
            case rel => exact ⟨k + 1, G, by omega, by omega, by go_num, rfl, ⟨false, _, n + 1, f, hA10.quiet hq9, Blk.quiet (Blk.quiet hP5 hqq) hq9, (hB5.trans hqq.below).trans hq9.below, by rw [List.length_set]; exact hN.out, by omega, hf, by simp; omega, by omega, by omega, ha, hcc, hpp, hpa, hpc⟩⟩
            case measure => simp [intOf]; omega
          · have hbad : Hid (g = false ∨ insB cs.length q2 = false) := by rw [hN.out]; cases g <;> simp_all
            clear hgood
            go_wp2_with fail
            have hO1 : Blk (wr.alloc (.cells #[.int .i64 q0, .int .i64 4, .int .i64 q2, .int .u64 q3, .int .u64 q4] 35)) wr.heap.size #[.int .i64 q0, .int .i64 4, .int .i64 q2, .int .u64 q3, .int .u64 q4] 35 := Blk.new _ _ _
            have hA1 := hA.alloc (.cells #[.int .i64 q0, .int .i64 4, .int .i64 q2, .int .u64 q3, .int .u64 q4] 35)
            have hP1 : PortAt (wr.alloc (.cells #[.int .i64 q0, .int .i64 4, .int .i64 q2, .int .u64 q3, .int .u64 q4] 35)) p a 4 g := Blk.alloc hP _
            have hB1 := hB.alloc hB.size (.cells #[.int .i64 q0, .int .i64 4, .int .i64 q2, .int .u64 q3, .int .u64 q4] 35)
            clear r0 r1 r2 r3 r4
            have lA := hA.lt
            have lP := Blk.lt hP
            refine (image_at a c cs false _ n f _ hA1 (by rw [hN.out]; exact hN0) (by rw [hN.out]; omega)).mono ?_
            rintro e w2 ⟨v, rfl, hown, hb2⟩
            have hA2 := hA1.grew hb2
            have hP2 : PortAt w2 p a 4 g := Blk.grew hP1 hb2
            have hO2 := hO1.grew hb2
            have hV2 := lst_of_own hown
            have hB2 := hB1.trans (hb2.mono hB1.size)
            clear hA1 hP1 hO1 hB1 hA hP hB
            go_wp2_with fail
            refine (count_at hA2).mono ?_
            rintro e w3 ⟨rfl, hq3⟩
            go_wp2_with fail
            refine (faults_at (hA2.quiet hq3)).mono ?_
            rintro e w4 ⟨rfl, hq4⟩
            have hq := hq3.trans hq4
            have hA4 := hA2.quiet hq
            have hP4 : PortAt w4 p a 4 g := Blk.quiet hP2 hq
            have hO4 := hO2.quiet hq
            have hV4 := hV2.quiet hq
            have hB4 := hB2.trans hq.below
            have o1 : w4.cell? ⟨wr.heap.size, 1, none⟩ = some (.int .i64 4) := hO4.val 1 rfl
            have o2 : w4.cell? ⟨wr.heap.size, 2, none⟩ = some (.int .i64 q2) := hO4.val 2 rfl
            have o3 : w4.cell? ⟨wr.heap.size, 3, none⟩ = some (.int .u64 q3) := hO4.val 3 rfl
            have o4 : w4.cell? ⟨wr.heap.size, 4, none⟩ = some (.int .u64 q4) := hO4.val 4 rfl
            have hvl : Hid (∀ b, lstBlk v = some b → b < w4.heap.size ∧ b ≠ a ∧ b ≠ p) := fun b hb => ⟨lst_lt hV4 b hb, by have := own_blk hown b hb; rw [World.size_alloc] at this; omega, by have := own_blk hown b hb; rw [World.size_alloc] at this; omega⟩
            clear hA2 hP2 hO2 hV2 hB2 hq3 hq4 hq hb2 hown
            have T5 := Lib.hid (cas_fault a c p cs false (.slice none 0 0) n f g 4 q2 q3 q4 w4 hA4 hP4 hpa hpc hf (by omega) hbad.out)
            go_wp2_with fail
            refine T5.out.mono ?_
            rintro e w5 ⟨rfl, hA5, hP5, hT5⟩
            clear T5
            have hB5 := hB4.trans (hT5.belowF hB4.size ha hpp)
            have hV5 := lst_touch hV4 hT5 hvl.out
            have hn1 : n ≤ G := by cases g <;> simp at hnG <;> omega
            clear hA4 hP4 hO4 hV4 hB4 o1 o2 o3 o4
            go_wp2_with fail
            refine (open_at p a 4 false _ hP5).mono ?_
            rintro e w6 ⟨rfl, hq6⟩
            have hA6 := hA5.quiet hq6
            go_wp2_with fail
            refine (count_at hA6).mono ?_
            rintro e w7 ⟨rfl, hq7⟩
            have hA7 := hA6.quiet hq7
            go_wp2_with fail
            refine (faults_at hA7).mono ?_
            rintro e w8 ⟨rfl, hq8⟩
            have hA8 := hA7.quiet hq8
            go_wp2_with fail
            refine (faults_at hA8).mono ?_
            rintro e w10 ⟨rfl, hq10⟩
            have hA10 := hA8.quiet hq10
            have hqq := ((hq6.trans hq7).trans hq8).trans hq10
            go_wp2_with fail
            refine (image_at a c cs false _ n _ _ hA10 (by rw [hN.out]; exact hN0) (by rw [hN.out]; omega)).mono ?_
            rintro e w11 ⟨v', rfl, hown', hb11⟩
            have hA11 := hA10.grew hb11
            have hP11 : PortAt w11 p a 4 false := Blk.grew (Blk.quiet hP5 hqq) hb11
            have hB10 := hB5.trans hqq.below
            have hB11 := hB10.trans (hb11.mono hB10.size)
            have hV11 := (hV5.quiet hqq).below hb11
            have hV11' := lst_of_own hown'
            go_wp2_with fail
            refine (words_any _ _ _ _ hV11 hV11').mono ?_
            rintro e w12 ⟨rfl, hq12⟩
            have hA12 := hA11.quiet hq12
            clear hA5 hA6 hA7 hA8 hA10 hA11 hq6 hq7 hq8 hq10 hV5 hV11 hV11' hown' hB10 hB5 hb11
            go_wp2_with fail
            refine (count_at hA12).mono ?_
            rintro e w9 ⟨rfl, hq9⟩
            go_wp2
            go_roundw
            case rel => exact ⟨k + 1, G, by omega, by omega, by go_num, rfl, ⟨false, cs, n, f + 1, hA12.quiet hq9, Blk.quiet (Blk.quiet hP11 hq12) hq9, (hB11.trans hq12.below).trans hq9.below, hN.out, hn, by omega, by simp; omega, by omega, by omega, ha, hcc, hpp, hpa, hpc⟩⟩
            case measure => simp [intOf]; omega
        by_cases h5 : K = 5
        · subst h5
          by_cases hgood : g = true ∧ insB N q2 = true
          · obtain ⟨rfl, hi⟩ := hgood
            have hi := of_decide_eq_true hi
            obtain ⟨i, rfl⟩ := Int.eq_ofNat_of_zero_le hi.1
            have hiN : i < N := by omega
            clear hi
            go_wp2_with fail
            have hO1 : Blk (wr.alloc (.cells #[.int .i64 q0, .int .i64 5, .int .i64 (i : Int), .int .u64 q3, .int .u64 q4] 35)) wr.heap.size #[.int .i64 q0, .int .i64 5, .int .i64 (i : Int), .int .u64 q3, .int .u64 q4] 35 := Blk.new _ _ _
            have hA1 := hA.alloc (.cells #[.int .i64 q0, .int .i64 5, .int .i64 (i : Int), .int .u64 q3, .int .u64 q4] 35)
            have hP1 : PortAt (wr.alloc (.cells #[.int .i64 q0, .int .i64 5, .int .i64 (i : Int), .int .u64 q3, .int .u64 q4] 35)) p a 4 true := Blk.alloc hP _
            have hB1 := hB.alloc hB.size (.cells #[.int .i64 q0, .int .i64 5, .int .i64 (i : Int), .int .u64 q3, .int .u64 q4] 35)
            clear r0 r1 r2 r3 r4
            have lA := hA.lt
            have lP := Blk.lt hP
            refine (image_at a c cs false _ n f _ hA1 (by rw [hN.out]; exact hN0) (by rw [hN.out]; omega)).mono ?_
            rintro e w2 ⟨v, rfl, hown, hb2⟩
            have hA2 := hA1.grew hb2
            have hP2 : PortAt w2 p a 4 true := Blk.grew hP1 hb2
            have hO2 := hO1.grew hb2
            have hV2 := lst_of_own hown
            have hB2 := hB1.trans (hb2.mono hB1.size)
            clear hA1 hP1 hO1 hB1 hA hP hB
            go_wp2_with fail
            refine (count_at hA2).mono ?_
            rintro e w3 ⟨rfl, hq3⟩
            go_wp2_with fail
            refine (faults_at (hA2.quiet hq3)).mono ?_
            rintro e w4 ⟨rfl, hq4⟩
            have hq := hq3.trans hq4
            have hA4 := hA2.quiet hq
            have hP4 : PortAt w4 p a 4 true := Blk.quiet hP2 hq
            have hO4 := hO2.quiet hq
            have hV4 := hV2.quiet hq
            have hB4 := hB2.trans hq.below
            have o1 : w4.cell? ⟨wr.heap.size, 1, none⟩ = some (.int .i64 5) := hO4.val 1 rfl
            have o2 : w4.cell? ⟨wr.heap.size, 2, none⟩ = some (.int .i64 (i : Int)) := hO4.val 2 rfl
            have o3 : w4.cell? ⟨wr.heap.size, 3, none⟩ = some (.int .u64 q3) := hO4.val 3 rfl
            have o4 : w4.cell? ⟨wr.heap.size, 4, none⟩ = some (.int .u64 q4) := hO4.val 4 rfl
            have hvl : Hid (∀ b, lstBlk v = some b → b < w4.heap.size ∧ b ≠ a ∧ b ≠ p) := fun b hb => ⟨lst_lt hV4 b hb, by have := own_blk hown b hb; rw [World.size_alloc] at this; omega, by have := own_blk hown b hb; rw [World.size_alloc] at this; omega⟩
            clear hA2 hP2 hO2 hV2 hB2 hq3 hq4 hq hb2 hown
            have T5 := or_put a c p cs (.slice none 0 0) n f 4 i q4 w4 hA4 hP4 hpa hpc hn (by omega) (by rw [hN.out]; exact hiN) (by rw [hN.out]; omega)
            generalize cs.getD i 0 = z at T5
            have T5 := Lib.hid T5
            go_wp2_with fail
            refine T5.out.mono ?_
            rintro e w5 ⟨rfl, hA5, hP5, hT5⟩
            clear T5
            have hB5 := hB4.trans (hT5.belowP hB4.size ha hcc hpp)
            have hG1 : n + 1 ≤ G := by simpa using hnG
            clear hA4 hP4 hO4 hV4 hB4 o1 o2 o3 o4 hvl
            go_wp2_with fail
            refine (open_at p a 4 false _ hP5).mono ?_
            rintro e w6 ⟨rfl, hq6⟩
            have hA6 := hA5.quiet hq6
            go_wp2_with fail
            refine (count_at hA6).mono ?_
            rintro e w7 ⟨rfl, hq7⟩
            have hA7 := hA6.quiet hq7
            go_wp2_with fail
            refine (faults_at hA7).mono ?_
            rintro e w8 ⟨rfl, hq8⟩
            have hA8 := hA7.quiet hq8
            go_wp2_with fail
            refine (faults_at hA8).mono ?_
            rintro e w10 ⟨rfl, hq10⟩
            have hA10 := hA8.quiet hq10
            have hqq := ((hq6.trans hq7).trans hq8).trans hq10
            clear hA5 hA6 hA7 hA8 hq6 hq7 hq8 hq10
            go_wp2_with fail
            refine (count_at hA10).mono ?_
            rintro e w9 ⟨rfl, hq9⟩
            go_wp2
            go_roundw
            case rel => exact ⟨k + 1, G, by omega, by omega, by go_num, rfl, ⟨false, _, n + 1, f, hA10.quiet hq9, Blk.quiet (Blk.quiet hP5 hqq) hq9, (hB5.trans hqq.below).trans hq9.below, by rw [List.length_set]; exact hN.out, by omega, hf, by simp; omega, by omega, by omega, ha, hcc, hpp, hpa, hpc⟩⟩
            case measure => simp [intOf]; omega
          · have hbad : Hid (g = false ∨ insB cs.length q2 = false) := by rw [hN.out]; cases g <;> simp_all
            clear hgood
            go_wp2_with fail
            have hO1 : Blk (wr.alloc (.cells #[.int .i64 q0, .int .i64 5, .int .i64 q2, .int .u64 q3, .int .u64 q4] 35)) wr.heap.size #[.int .i64 q0, .int .i64 5, .int .i64 q2, .int .u64 q3, .int .u64 q4] 35 := Blk.new _ _ _
            have hA1 := hA.alloc (.cells #[.int .i64 q0, .int .i64 5, .int .i64 q2, .int .u64 q3, .int .u64 q4] 35)
            have hP1 : PortAt (wr.alloc (.cells #[.int .i64 q0, .int .i64 5, .int .i64 q2, .int .u64 q3, .int .u64 q4] 35)) p a 4 g := Blk.alloc hP _
            have hB1 := hB.alloc hB.size (.cells #[.int .i64 q0, .int .i64 5, .int .i64 q2, .int .u64 q3, .int .u64 q4] 35)
            clear r0 r1 r2 r3 r4
            have lA := hA.lt
            have lP := Blk.lt hP
            refine (image_at a c cs false _ n f _ hA1 (by rw [hN.out]; exact hN0) (by rw [hN.out]; omega)).mono ?_
            rintro e w2 ⟨v, rfl, hown, hb2⟩
            have hA2 := hA1.grew hb2
            have hP2 : PortAt w2 p a 4 g := Blk.grew hP1 hb2
            have hO2 := hO1.grew hb2
            have hV2 := lst_of_own hown
            have hB2 := hB1.trans (hb2.mono hB1.size)
            clear hA1 hP1 hO1 hB1 hA hP hB
            go_wp2_with fail
            refine (count_at hA2).mono ?_
            rintro e w3 ⟨rfl, hq3⟩
            go_wp2_with fail
            refine (faults_at (hA2.quiet hq3)).mono ?_
            rintro e w4 ⟨rfl, hq4⟩
            have hq := hq3.trans hq4
            have hA4 := hA2.quiet hq
            have hP4 : PortAt w4 p a 4 g := Blk.quiet hP2 hq
            have hO4 := hO2.quiet hq
            have hV4 := hV2.quiet hq
            have hB4 := hB2.trans hq.below
            have o1 : w4.cell? ⟨wr.heap.size, 1, none⟩ = some (.int .i64 5) := hO4.val 1 rfl
            have o2 : w4.cell? ⟨wr.heap.size, 2, none⟩ = some (.int .i64 q2) := hO4.val 2 rfl
            have o3 : w4.cell? ⟨wr.heap.size, 3, none⟩ = some (.int .u64 q3) := hO4.val 3 rfl
            have o4 : w4.cell? ⟨wr.heap.size, 4, none⟩ = some (.int .u64 q4) := hO4.val 4 rfl
            have hvl : Hid (∀ b, lstBlk v = some b → b < w4.heap.size ∧ b ≠ a ∧ b ≠ p) := fun b hb => ⟨lst_lt hV4 b hb, by have := own_blk hown b hb; rw [World.size_alloc] at this; omega, by have := own_blk hown b hb; rw [World.size_alloc] at this; omega⟩
            clear hA2 hP2 hO2 hV2 hB2 hq3 hq4 hq hb2 hown
            have T5 := Lib.hid (or_fault a c p cs false (.slice none 0 0) n f g 4 q2 q4 w4 hA4 hP4 hpa hpc hf (by omega) hbad.out)
            go_wp2_with fail
            refine T5.out.mono ?_
            rintro e w5 ⟨rfl, hA5, hP5, hT5⟩
            clear T5
            have hB5 := hB4.trans (hT5.belowF hB4.size ha hpp)
            have hV5 := lst_touch hV4 hT5 hvl.out
            have hn1 : n ≤ G := by cases g <;> simp at hnG <;> omega
            clear hA4 hP4 hO4 hV4 hB4 o1 o2 o3 o4
            go_wp2_with fail
            refine (open_at p a 4 false _ hP5).mono ?_
            rintro e w6 ⟨rfl, hq6⟩
            have hA6 := hA5.quiet hq6
            go_wp2_with fail
            refine (count_at hA6).mono ?_
            rintro e w7 ⟨rfl, hq7⟩
            have hA7 := hA6.quiet hq7
            go_wp2_with fail
            refine (faults_at hA7).mono ?_
            rintro e w8 ⟨rfl, hq8⟩
            have hA8 := hA7.quiet hq8
            go_wp2_with fail
            refine (faults_at hA8).mono ?_
            rintro e w10 ⟨rfl, hq10⟩
            have hA10 := hA8.quiet hq10
            have hqq := ((hq6.trans hq7).trans hq8).trans hq10
            go_wp2_with fail
            refine (image_at a c cs false _ n _ _ hA10 (by rw [hN.out]; exact hN0) (by rw [hN.out]; omega)).mono ?_
            rintro e w11 ⟨v', rfl, hown', hb11⟩
            have hA11 := hA10.grew hb11
            have hP11 : PortAt w11 p a 4 false := Blk.grew (Blk.quiet hP5 hqq) hb11
            have hB10 := hB5.trans hqq.below
            have hB11 := hB10.trans (hb11.mono hB10.size)
            have hV11 := (hV5.quiet hqq).below hb11
            have hV11' := lst_of_own hown'
            go_wp2_with fail
            refine (words_any _ _ _ _ hV11 hV11').mono ?_
            rintro e w12 ⟨rfl, hq12⟩
            have hA12 := hA11.quiet hq12
            clear hA5 hA6 hA7 hA8 hA10 hA11 hq6 hq7 hq8 hq10 hV5 hV11 hV11' hown' hB10 hB5 hb11
            go_wp2_with fail
            refine (count_at hA12).mono ?_
            rintro e w9 ⟨rfl, hq9⟩
            go_wp2
            go_roundw
            case rel => exact ⟨k + 1, G, by omega, by omega, by go_num, rfl, ⟨false, cs, n, f + 1, hA12.quiet hq9, Blk.quiet (Blk.quiet hP11 hq12) hq9, (hB11.trans hq12.below).trans hq9.below, hN.out, hn, by omega, by simp; omega, by omega, by omega, ha, hcc, hpp, hpa, hpc⟩⟩
            case measure => simp [intOf]; omega
        by_cases h6 : K = 6
        · subst h6
          by_cases hgood : g = true ∧ insB N q2 = true
          · obtain ⟨rfl, hi⟩ := hgood
            have hi := of_decide_eq_true hi
            obtain ⟨i, rfl⟩ := Int.eq_ofNat_of_zero_le hi.1
            have hiN : i < N := by omega
            clear hi
            go_wp2_with fail
            have hO1 : Blk (wr.alloc (.cells #[.int .i64 q0, .int .i64 6, .int .i64 (i : Int), .int .u64 q3, .int .u64 q4] 35)) wr.heap.size #[.int .i64 q0, .int .i64 6, .int .i64 (i : Int), .int .u64 q3, .int .u64 q4] 35 := Blk.new _ _ _
            have hA1 := hA.alloc (.cells #[.int .i64 q0, .int .i64 6, .int .i64 (i : Int), .int .u64 q3, .int .u64 q4] 35)
            have hP1 : PortAt (wr.alloc (.cells #[.int .i64 q0, .int .i64 6, .int .i64 (i : Int), .int .u64 q3, .int .u64 q4] 35)) p a 4 true := Blk.alloc hP _
            have hB1 := hB.alloc hB.size (.cells #[.int .i64 q0, .int .i64 6, .int .i64 (i : Int), .int .u64 q3, .int .u64 q4] 35)
            clear r0 r1 r2 r3 r4
            have lA := hA.lt
            have lP := Blk.lt hP
            refine (image_at a c cs false _ n f _ hA1 (by rw [hN.out]; exact hN0) (by rw [hN.out]; omega)).mono ?_
            rintro e w2 ⟨v, rfl, hown, hb2⟩
            have hA2 := hA1.grew hb2
            have hP2 : PortAt w2 p a 4 true := Blk.grew hP1 hb2
            have hO2 := hO1.grew hb2
            have hV2 := lst_of_own hown
            have hB2 := hB1.trans (hb2.mono hB1.size)
            clear hA1 hP1 hO1 hB1 hA hP hB
            go_wp2_with fail
            refine (count_at hA2).mono ?_
            rintro e w3 ⟨rfl, hq3⟩
            go_wp2_with fail
            refine (faults_at (hA2.quiet hq3)).mono ?_
            rintro e w4 ⟨rfl, hq4⟩
            have hq := hq3.trans hq4
            have hA4 := hA2.quiet hq
            have hP4 : PortAt w4 p a 4 true := Blk.quiet hP2 hq
            have hO4 := hO2.quiet hq
            have hV4 := hV2.quiet hq
            have hB4 := hB2.trans hq.below
            have o1 : w4.cell? ⟨wr.heap.size, 1, none⟩ = some (.int .i64 6) := hO4.val 1 rfl
            have o2 : w4.cell? ⟨wr.heap.size, 2, none⟩ = some (.int .i64 (i : Int)) := hO4.val 2 rfl
            have o3 : w4.cell? ⟨wr.heap.size, 3, none⟩ = some (.int .u64 q3) := hO4.val 3 rfl
            have o4 : w4.cell? ⟨wr.heap.size, 4, none⟩ = some (.int .u64 q4) := hO4.val 4 rfl
            have hvl : Hid (∀ b, lstBlk v = some b → b < w4.heap.size ∧ b ≠ a ∧ b ≠ p) := fun b hb => ⟨lst_lt hV4 b hb, by have := own_blk hown b hb; rw [World.size_alloc] at this; omega, by have := own_blk hown b hb; rw [World.size_alloc] at this; omega⟩
            clear hA2 hP2 hO2 hV2 hB2 hq3 hq4 hq hb2 hown
            have T5 := and_put a c p cs (.slice none 0 0) n f 4 i q4 w4 hA4 hP4 hpa hpc hn (by omega) (by rw [hN.out]; exact hiN) (by rw [hN.out]; omega)
            generalize cs.getD i 0 = z at T5
            have T5 := Lib.hid T5
            go_wp2_with fail
            refine T5.out.mono ?_
            rintro e w5 ⟨rfl, hA5, hP5, hT5⟩
            clear T5
            have hB5 := hB4.trans (hT5.belowP hB4.size ha hcc hpp)
            have hG1 : n + 1 ≤ G := by simpa using hnG
            clear hA4 hP4 hO4 hV4 hB4 o1 o2 o3 o4 hvl
            go_wp2_with fail
            refine (open_at p a 4 false _ hP5).mono ?_
            rintro e w6 ⟨rfl, hq6⟩
            have hA6 := hA5.quiet hq6
            go_wp2_with fail
            refine (count_at hA6).mono ?_
            rintro e w7 ⟨rfl, hq7⟩
            have hA7 := hA6.quiet hq7
            go_wp2_with fail
            refine (faults_at hA7).mono ?_
            rintro e w8 ⟨rfl, hq8⟩
            have hA8 := hA7.quiet hq8
            go_wp2_with fail
            refine (faults_at hA8).mono ?_
            rintro e w10 ⟨rfl, hq10⟩
            have hA10 := hA8.quiet hq10
            have hqq := ((hq6.trans hq7).trans hq8).trans hq10
            clear hA5 hA6 hA7 hA8 hq6 hq7 hq8 hq10
            go_wp2_with fail
            refine (count_at hA10).mono ?_
            rintro e w9 ⟨rfl, hq9⟩
            go_wp2
            go_roundw
            case rel => exact ⟨k + 1, G, by omega, by omega, by go_num, rfl, ⟨false, _, n + 1, f, hA10.quiet hq9, Blk.quiet (Blk.quiet hP5 hqq) hq9, (hB5.trans hqq.below).trans hq9.below, by rw [List.length_set]; exact hN.out, by omega, hf, by simp; omega, by omega, by omega, ha, hcc, hpp, hpa, hpc⟩⟩
            case measure => simp [intOf]; omega
          · have hbad : Hid (g = false ∨ insB cs.length q2 = false) := by rw [hN.out]; cases g <;> simp_all
            clear hgood
            go_wp2_with fail
            have hO1 : Blk (wr.alloc (.cells #[.int .i64 q0, .int .i64 6, .int .i64 q2, .int .u64 q3, .int .u64 q4] 35)) wr.heap.size #[.int .i64 q0, .int .i64 6, .int .i64 q2, .int .u64 q3, .int .u64 q4] 35 := Blk.new _ _ _
            have hA1 := hA.alloc (.cells #[.int .i64 q0, .int .i64 6, .int .i64 q2, .int .u64 q3, .int .u64 q4] 35)
            have hP1 : PortAt (wr.alloc (.cells #[.int .i64 q0, .int .i64 6, .int .i64 q2, .int .u64 q3, .int .u64 q4] 35)) p a 4 g := Blk.alloc hP _
            have hB1 := hB.alloc hB.size (.cells #[.int .i64 q0, .int .i64 6, .int .i64 q2, .int .u64 q3, .int .u64 q4] 35)
            clear r0 r1 r2 r3 r4
            have lA := hA.lt
            have lP := Blk.lt hP
            refine (image_at a c cs false _ n f _ hA1 (by rw [hN.out]; exact hN0) (by rw [hN.out]; omega)).mono ?_
            rintro e w2 ⟨v, rfl, hown, hb2⟩
            have hA2 := hA1.grew hb2
            have hP2 : PortAt w2 p a 4 g := Blk.grew hP1 hb2
            have hO2 := hO1.grew hb2
            have hV2 := lst_of_own hown
            have hB2 := hB1.trans (hb2.mono hB1.size)
            clear hA1 hP1 hO1 hB1 hA hP hB
            go_wp2_with fail
            refine (count_at hA2).mono ?_
            rintro e w3 ⟨rfl, hq3⟩
            go_wp2_with fail
            refine (faults_at (hA2.quiet hq3)).mono ?_
            rintro e w4 ⟨rfl, hq4⟩
            have hq := hq3.trans hq4
            have hA4 := hA2.quiet hq
            have hP4 : PortAt w4 p a 4 g := Blk.quiet hP2 hq
            have hO4 := hO2.quiet hq
            have hV4 := hV2.quiet hq
            have hB4 := hB2.trans hq.below
            have o1 : w4.cell? ⟨wr.heap.size, 1, none⟩ = some (.int .i64 6) := hO4.val 1 rfl
            have o2 : w4.cell? ⟨wr.heap.size, 2, none⟩ = some (.int .i64 q2) := hO4.val 2 rfl
            have o3 : w4.cell? ⟨wr.heap.size, 3, none⟩ = some (.int .u64 q3) := hO4.val 3 rfl
            have o4 : w4.cell? ⟨wr.heap.size, 4, none⟩ = some (.int .u64 q4) := hO4.val 4 rfl
            have hvl : Hid (∀ b, lstBlk v = some b → b < w4.heap.size ∧ b ≠ a ∧ b ≠ p) := fun b hb => ⟨lst_lt hV4 b hb, by have := own_blk hown b hb; rw [World.size_alloc] at this; omega, by have := own_blk hown b hb; rw [World.size_alloc] at this; omega⟩
            clear hA2 hP2 hO2 hV2 hB2 hq3 hq4 hq hb2 hown
            have T5 := Lib.hid (and_fault a c p cs false (.slice none 0 0) n f g 4 q2 q4 w4 hA4 hP4 hpa hpc hf (by omega) hbad.out)
            go_wp2_with fail
            refine T5.out.mono ?_
            rintro e w5 ⟨rfl, hA5, hP5, hT5⟩
            clear T5
            have hB5 := hB4.trans (hT5.belowF hB4.size ha hpp)
            have hV5 := lst_touch hV4 hT5 hvl.out
            have hn1 : n ≤ G := by cases g <;> simp at hnG <;> omega
            clear hA4 hP4 hO4 hV4 hB4 o1 o2 o3 o4
            go_wp2_with fail
            refine (open_at p a 4 false _ hP5).mono ?_
            rintro e w6 ⟨rfl, hq6⟩
            have hA6 := hA5.quiet hq6
            go_wp2_with fail
            refine (count_at hA6).mono ?_
            rintro e w7 ⟨rfl, hq7⟩
            have hA7 := hA6.quiet hq7
            go_wp2_with fail
            refine (faults_at hA7).mono ?_
            rintro e w8 ⟨rfl, hq8⟩
            have hA8 := hA7.quiet hq8
            go_wp2_with fail
            refine (faults_at hA8).mono ?_
            rintro e w10 ⟨rfl, hq10⟩
            have hA10 := hA8.quiet hq10
            have hqq := ((hq6.trans hq7).trans hq8).trans hq10
            go_wp2_with fail
            refine (image_at a c cs false _ n _ _ hA10 (by rw [hN.out]; exact hN0) (by rw [hN.out]; omega)).mono ?_
            rintro e w11 ⟨v', rfl, hown', hb11⟩
            have hA11 := hA10.grew hb11
            have hP11 : PortAt w11 p a 4 false := Blk.grew (Blk.quiet hP5 hqq) hb11
            have hB10 := hB5.trans hqq.below
            have hB11 := hB10.trans (hb11.mono hB10.size)
            have hV11 := (hV5.quiet hqq).below hb11
            have hV11' := lst_of_own hown'
            go_wp2_with fail
            refine (words_any _ _ _ _ hV11 hV11').mono ?_
            rintro e w12 ⟨rfl, hq12⟩
            have hA12 := hA11.quiet hq12
            clear hA5 hA6 hA7 hA8 hA10 hA11 hq6 hq7 hq8 hq10 hV5 hV11 hV11' hown' hB10 hB5 hb11
            go_wp2_with fail
            refine (count_at hA12).mono ?_
            rintro e w9 ⟨rfl, hq9⟩
            go_wp2
            go_roundw
            case rel => exact ⟨k + 1, G, by omega, by omega, by go_num, rfl, ⟨false, cs, n, f + 1, hA12.quiet hq9, Blk.quiet (Blk.quiet hP11 hq12) hq9, (hB11.trans hq12.below).trans hq9.below, hN.out, hn, by omega, by simp; omega, by omega, by omega, ha, hcc, hpp, hpa, hpc⟩⟩
            case measure => simp [intOf]; omega
        by_cases hlo : K < 1
        · have e7 : (K == 7) = false := beq_eq_false_iff_ne.2 (by omega)
          clear h7 h1 h2 h3 h4 h5 h6
          go_wp2_with fail
          have hO1 : Blk (wr.alloc (.cells #[.int .i64 q0, .int .i64 K, .int .i64 q2, .int .u64 q3, .int .u64 q4] 35)) wr.heap.size #[.int .i64 q0, .int .i64 K, .int .i64 q2, .int .u64 q3, .int .u64 q4] 35 := Blk.new _ _ _
          have hA1 := hA.alloc (.cells #[.int .i64 q0, .int .i64 K, .int .i64 q2, .int .u64 q3, .int .u64 q4] 35)
          have hP1 : PortAt (wr.alloc (.cells #[.int .i64 q0, .int .i64 K, .int .i64 q2, .int .u64 q3, .int .u64 q4] 35)) p a 4 g := Blk.alloc hP _
          have hB1 := hB.alloc hB.size (.cells #[.int .i64 q0, .int .i64 K, .int .i64 q2, .int .u64 q3, .int .u64 q4] 35)
          clear r0 r1 r2 r3 r4
          have lA := hA.lt
          have lP := Blk.lt hP
          refine (image_at a c cs false _ n f _ hA1 (by rw [hN.out]; exact hN0) (by rw [hN.out]; omega)).mono ?_
          rintro e w2 ⟨v, rfl, hown, hb2⟩
          have hA2 := hA1.grew hb2
          have hP2 : PortAt w2 p a 4 g := Blk.grew hP1 hb2
          have hO2 := hO1.grew hb2
          have hV2 := lst_of_own hown
          have hB2 := hB1.trans (hb2.mono hB1.size)
          clear hA1 hP1 hO1 hB1 hA hP hB
          go_wp2_with fail
          refine (count_at hA2).mono ?_
          rintro e w3 ⟨rfl, hq3⟩
          go_wp2_with fail
          refine (faults_at (hA2.quiet hq3)).mono ?_
          rintro e w4 ⟨rfl, hq4⟩
          have hq := hq3.trans hq4
          have hA4 := hA2.quiet hq
          have hP4 : PortAt w4 p a 4 g := Blk.quiet hP2 hq
          have hO4 := hO2.quiet hq
          have hV4 := hV2.quiet hq
          have hB4 := hB2.trans hq.below
          have o1 : w4.cell? ⟨wr.heap.size, 1, none⟩ = some (.int .i64 K) := hO4.val 1 rfl
          have o2 : w4.cell? ⟨wr.heap.size, 2, none⟩ = some (.int .i64 q2) := hO4.val 2 rfl
          have o3 : w4.cell? ⟨wr.heap.size, 3, none⟩ = some (.int .u64 q3) := hO4.val 3 rfl
          have o4 : w4.cell? ⟨wr.heap.size, 4, none⟩ = some (.int .u64 q4) := hO4.val 4 rfl
          have hvl : Hid (∀ b, lstBlk v = some b → b < w4.heap.size ∧ b ≠ a ∧ b ≠ p) := fun b hb => ⟨lst_lt hV4 b hb, by have := own_blk hown b hb; rw [World.size_alloc] at this; omega, by have := own_blk hown b hb; rw [World.size_alloc] at this; omega⟩
          clear hA2 hP2 hO2 hV2 hB2 hq3 hq4 hq hb2 hown
          have hn1 : n ≤ G := by cases g <;> simp at hnG <;> omega
          go_wp2_with fail
          refine (count_at hA4).mono ?_
          rintro e w9 ⟨rfl, hq9⟩
          go_wp2
          go_roundw
          case rel => exact ⟨k + 1, G, by omega, by omega, by go_num, rfl, ⟨g, cs, n, f, hA4.quiet hq9, Blk.quiet hP4 hq9, hB4.trans hq9.below, hN.out, hn, hf, hnG, by omega, by omega, ha, hcc, hpp, hpa, hpc⟩⟩
          case measure => simp [intOf]; omega
        · have hhi : 7 < K := by omega
          have e7 : (K == 7) = false := beq_eq_false_iff_ne.2 (by omega)
          clear h7 h1 h2 h3 h4 h5 h6 hlo
          go_wp2_with fail
          have hO1 : Blk (wr.alloc (.cells #[.int .i64 q0, .int .i64 K, .int .i64 q2, .int .u64 q3, .int .u64 q4] 35)) wr.heap.size #[.int .i64 q0, .int .i64 K, .int .i64 q2, .int .u64 q3, .int .u64 q4] 35 := Blk.new _ _ _
          have hA1 := hA.alloc (.cells #[.int .i64 q0, .int .i64 K, .int .i64 q2, .int .u64 q3, .int .u64 q4] 35)
          have hP1 : PortAt (wr.alloc (.cells #[.int .i64 q0, .int .i64 K, .int .i64 q2, .int .u64 q3, .int .u64 q4] 35)) p a 4 g := Blk.alloc hP _
          have hB1 := hB.alloc hB.size (.cells #[.int .i64 q0, .int .i64 K, .int .i64 q2, .int .u64 q3, .int .u64 q4] 35)
          clear r0 r1 r2 r3 r4
          have lA := hA.lt
          have lP := Blk.lt hP
          refine (image_at a c cs false _ n f _ hA1 (by rw [hN.out]; exact hN0) (by rw [hN.out]; omega)).mono ?_
          rintro e w2 ⟨v, rfl, hown, hb2⟩
          have hA2 := hA1.grew hb2
          have hP2 : PortAt w2 p a 4 g := Blk.grew hP1 hb2
          have hO2 := hO1.grew hb2
          have hV2 := lst_of_own hown
          have hB2 := hB1.trans (hb2.mono hB1.size)
          clear hA1 hP1 hO1 hB1 hA hP hB
          go_wp2_with fail
          refine (count_at hA2).mono ?_
          rintro e w3 ⟨rfl, hq3⟩
          go_wp2_with fail
          refine (faults_at (hA2.quiet hq3)).mono ?_
          rintro e w4 ⟨rfl, hq4⟩
          have hq := hq3.trans hq4
          have hA4 := hA2.quiet hq
          have hP4 : PortAt w4 p a 4 g := Blk.quiet hP2 hq
          have hO4 := hO2.quiet hq
          have hV4 := hV2.quiet hq
          have hB4 := hB2.trans hq.below
          have o1 : w4.cell? ⟨wr.heap.size, 1, none⟩ = some (.int .i64 K) := hO4.val 1 rfl
          have o2 : w4.cell? ⟨wr.heap.size, 2, none⟩ = some (.int .i64 q2) := hO4.val 2 rfl
          have o3 : w4.cell? ⟨wr.heap.size, 3, none⟩ = some (.int .u64 q3) := hO4.val 3 rfl
          have o4 : w4.cell? ⟨wr.heap.size, 4, none⟩ = some (.int .u64 q4) := hO4.val 4 rfl
          have hvl : Hid (∀ b, lstBlk v = some b → b < w4.heap.size ∧ b ≠ a ∧ b ≠ p) := fun b hb => ⟨lst_lt hV4 b hb, by have := own_blk hown b hb; rw [World.size_alloc] at this; omega, by have := own_blk hown b hb; rw [World.size_alloc] at this; omega⟩
          clear hA2 hP2 hO2 hV2 hB2 hq3 hq4 hq hb2 hown
          have hn1 : n ≤ G := by cases g <;> simp at hnG <;> omega
          go_wp2_with fail
          refine (count_at hA4).mono ?_
          rintro e w9 ⟨rfl, hq9⟩
          go_wp2
          go_roundw
          case rel => exact ⟨k + 1, G, by omega, by omega, by go_num, rfl, ⟨g, cs, n, f, hA4.quiet hq9, Blk.quiet hP4 hq9, hB4.trans hq9.below, hN.out, hn, hf, hnG, by omega, by omega, ha, hcc, hpp, hpa, hpc⟩⟩
          case measure => simp [intOf]; omega
      · obtain rfl : k = 200 := by omega
        go_wp2
        go_ret
        exact ⟨rfl, hB⟩
    · go_wp2
      go_ret
      exact ⟨rfl, hB⟩
set_option maxHeartbeats 1000000 in
theorem grants_none (a : Option Addr) (cap : Nat) (x : Int) (w : World) :
    Calls Try.prog 4 #[.int .i64 x, .slice a 0 cap] w fun e w' => e = .returned (.bool true) ∧ Below w.heap.size w w' := by
  obtain ⟨N, hN0, hN1, HJ⟩ := mod_more x
  go_enter Try.func4, Try.ntmps4
  go_wp2_with fail
  refine (celled_any _).mono ?_
  rintro e w1 ⟨rfl, hb1⟩
  go_wp2_with fail
  refine (new_yes N false _ hN0 (by omega)).mono ?_
  rintro e w2 ⟨a, c, rfl, hA2, ha, hcc, hb2⟩
  have hB2 := hb1.trans (hb2.mono hb1.size)
  go_wp2_with fail
  refine (port_yes a 4 _ (by decide) (by decide)).mono ?_
  rintro e w3 ⟨p, rfl, hP3, hpp, hb3⟩
  have hB3 := hB2.trans (hb3.mono hB2.size)
  clear hA2 hP3 hB2 hb1 hb2 hb3 HJ ha hcc hpp
  go_wp2_with fail
  go_loopw [8, 9] (fun gr i wr => i = .int .i64 0 ∧ gr = .int .i64 0 ∧ Below w.heap.size w wr) (fun _ _ _ => 0)
  case atStart => exact ⟨rfl, rfl, hB3⟩
  case round =>
    obtain ⟨rfl, rfl, hB⟩ := hrel
    go_wp2
    go_ret
    exact ⟨rfl, hB⟩
theorem grants_law (x : Int) (a : Option Addr) (len cap : Nat) (F : Nat → Nat → Int) (w : World) (_h : (Lit.int .i64 x).wf = true) (h : RowS 5 (fun j => ([.i64, .i64, .i64, .u64, .u64] : List IntKind).getD j .i64) w a len cap F) :
    Calls Try.prog 4 #[.int .i64 x, .slice a len cap] w fun e w' => e = .returned (.bool true) ∧ Below w.heap.size w w' := by
  obtain ⟨hm, rfl | ⟨b, o, rfl, hlt, hc⟩⟩ := h
  · exact grants_none a cap x w
  · exact grants_walk b o cap len F x w hlt hm (fun i hi j hj => (hc i hi j hj).1)
end Go.Proofs.Ytkecoekeepigkaa
