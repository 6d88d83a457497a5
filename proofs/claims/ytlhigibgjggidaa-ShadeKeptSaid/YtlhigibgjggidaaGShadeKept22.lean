/- ShadeKept: the law, walked. Conditions: the numbers fit their kinds, the row of deeds is there. -/
import Derived.Deep.QuietTactic
import Derived.BigQuiet
import Derived.Deep.RegionHeld3
import Derived.Test.YtlhigibgjggidaaGShadeKept20
import Derived.Test.YtlhigibgjggidaaGShadeKept21
namespace Go.Proofs.Ytlhigibgjggidaa
open Go.RowKit
set_option linter.unusedVariables false
theorem madeL (n : Nat) : madeCells #[Value.pointer none] (n * 1) = rowL (fun _ => none) n := by
  unfold madeCells rowL
  apply Array.ext
  · simp
  · intro i h1 h2
    simp [show i % 1 = 0 by omega]
theorem run_mkL (W : World) (n : Nat) (h1 : n ≤ 4096) : (Instr.makeSlice 77 (.int .i64 (n : Int)) (.int .i64 (n : Int))).run Try.prog W = .ok (.slice (some ⟨W.heap.size, 0, none⟩) n n) (W.alloc (.cells (rowL (fun _ => none) n) 45)) := by
  obtain ⟨i0, hi0, hz0, hz1, hz2⟩ := info_parts info_ps
  rw [run_make W 77 45 i0 _ Try.underlying77 hi0 hz0 .i64 .i64 (n : Int) (n : Int) (by omega) (Int.le_refl _) (by rw [hz2]; omega) (by omega), hz1, Int.toNat_natCast, ← madeL]
  rfl
theorem madeR (n : Nat) : madeCells #[Value.int .u64 0] (n * 1) = rowR (fun _ => 0) n := by
  unfold madeCells rowR
  apply Array.ext
  · simp
  · intro i h1 h2
    simp [show i % 1 = 0 by omega]
theorem run_mkR (W : World) (n : Nat) (h1 : n ≤ 4096) : (Instr.makeSlice 32 (.int .i64 (n : Int)) (.int .i64 (n : Int))).run Try.prog W = .ok (.slice (some ⟨W.heap.size, 0, none⟩) n n) (W.alloc (.cells (rowR (fun _ => 0) n) 41)) := by
  obtain ⟨i0, hi0, hz0, hz1, hz2⟩ := info_parts info_u64
  rw [run_make W 32 41 i0 _ Try.underlying32 hi0 hz0 .i64 .i64 (n : Int) (n : Int) (by omega) (Int.le_refl _) (by rw [hz2]; omega) (by omega), hz1, Int.toNat_natCast, ← madeR]
  rfl
/-- nothing yet -/
def KD.zero (K : List Nat) (N : Nat) : KD := ⟨fun _ => 9, fun _ => 0, fun _ => 0, fun _ => 0, fun _ _ => 0, fun _ => false, fun _ => false, false, K, fun _ => 0, fun _ => 0, fun _ => 0, fun _ => 0, fun _ => none, fun _ => 0, List.replicate N 0, List.replicate N 0, List.replicate N 0, 0⟩
theorem KS.zero {w w6 W : World} {B a c p qb : Nat} {P : Int} {T : Nat} {R : Int} (hR : Right P (T : Int) R) (hA : Arx w6 B a c (List.replicate (cellsN P (T : Int) R) 0) [] 0 [p]) (hP : PortAt w6 p a 1 false) (hQ : Blk w6 qb #[.int .i64 P, .int .i64 (T : Int), .int .i64 R] 23) (hb : Below w6.heap.size w6 W)
    (hd : Blk W w6.heap.size #[.int .i64 P, .int .i64 (T : Int), .int .i64 R, .int .i64 (baseI P (T : Int) R), .int .i64 (tabI (T : Int) R), .int .i64 (baseI P (T : Int) R + 64 * P)] 38) (hl : Blk W (w6.heap.size + 1) (rowL (fun _ => none) T) 45) (hs : Blk W (w6.heap.size + 2) (rowI64 (List.replicate (cellsN P (T : Int) R) 0)) 3) (ht : Blk W (w6.heap.size + 3) (rowI64 (List.replicate (cellsN P (T : Int) R) 0)) 3) (hr : Blk W (w6.heap.size + 4) (rowR (fun _ => 0) T) 41)
    (l1 : qb < B) (l2 : B ≤ p) (l3 : w.heap.size ≤ qb) (hw : Below w.heap.size w W) :
    KS w B a c p qb w6.heap.size (w6.heap.size + 1) (w6.heap.size + 2) (w6.heap.size + 3) (w6.heap.size + 4) P T R false (KD.zero ([w6.heap.size + 4, w6.heap.size + 3, w6.heap.size + 2, w6.heap.size + 1, w6.heap.size] ++ [p]) (cellsN P (T : Int) R)) W ∧ KB P T R (KD.zero ([w6.heap.size + 4, w6.heap.size + 3, w6.heap.size + 2, w6.heap.size + 1, w6.heap.size] ++ [p]) (cellsN P (T : Int) R)) := by
  have lp := Blk.lt hP
  have lr := hr.lt
  have hY : Ary w6 B a c (List.replicate (cellsN P (T : Int) R) 0) 0 [p] := ⟨_, hA⟩
  have hA' := hY.adds (L := [w6.heap.size + 4, w6.heap.size + 3, w6.heap.size + 2, w6.heap.size + 1, w6.heap.size]) hb (by intro m hm; simp only [List.mem_cons, List.not_mem_nil, or_false] at hm; omega)
  refine ⟨⟨⟨hR, hA', Blk.grew hP hb, fun t _ h => ?_, fun t _ h => ?_, fun t _ h => ?_, fun t t' _ _ h => ?_, by simp [KD.zero], fun t _ => Nat.le_refl 0, CsK.start P (T : Int) R hR, Lg.start P (T : Int) R⟩, Blk.grew hQ hb, hd, hl, hs, ht, hr, fun b hb' => ⟨?_, ?_, fun t _ h => ?_⟩, by omega, l3, hw, by simp [KD.zero]⟩, ⟨fun i _ => ?_, fun i _ => ?_, fun t _ => ⟨fun h => ?_, fun _ => rfl⟩⟩⟩
  · exact absurd h (by show ¬ (9 ≤ 8); decide)
  · replace h : 9 = 2 ∨ 9 = 3 ∨ 9 = 4 := h; omega
  · exact absurd h (by show ¬ (9 ≤ 8); decide)
  · exact absurd h (by show ¬ (9 ≤ 8); decide)
  · show b ∈ [w6.heap.size + 4, w6.heap.size + 3, w6.heap.size + 2, w6.heap.size + 1, w6.heap.size] ++ [p]
    rcases hb' with rfl | rfl | rfl | rfl | rfl <;> simp
  · rcases hb' with rfl | rfl | rfl | rfl | rfl <;> omega
  · exact absurd h (by show ¬ (9 ≤ 8); decide)
  · show (List.replicate (cellsN P (T : Int) R) (0 : Int)).getD i 0 = _
    simp only [List.getD_eq_getElem?_getD, List.getElem?_replicate]; split <;> rfl
  · show (List.replicate (cellsN P (T : Int) R) (0 : Int)).getD i 0 = _
    simp only [List.getD_eq_getElem?_getD, List.getElem?_replicate]; split <;> rfl
  · exact absurd h (by show ¬ (9 ≤ 8); decide)
theorem kNx_over {s : Nat} (h8 : s ≤ 8) (h : (kNx s == 0) = true) : ¬ kHe s := by
  have : s = 0 ∨ s = 1 ∨ s = 2 ∨ s = 3 ∨ s = 4 ∨ s = 5 ∨ s = 6 ∨ s = 7 ∨ s = 8 := by omega
  rcases this with e | e | e | e | e | e | e | e | e <;> rw [e] at h ⊢ <;> (first | (unfold kHe; omega) | (cases h))
theorem kNx_on {s : Nat} (h8 : s ≤ 8) (h : (kNx s == 0) = false) : s = 0 ∨ kHe s := by
  have : s = 0 ∨ s = 1 ∨ s = 2 ∨ s = 3 ∨ s = 4 ∨ s = 5 ∨ s = 6 ∨ s = 7 ∨ s = 8 := by omega
  rcases this with e | e | e | e | e | e | e | e | e <;> rw [e] at h ⊢ <;> (first | (unfold kHe; omega) | (cases h))
def OpR (w : World) (a : Option Addr) (len : Nat) : Prop := ∀ i, i < len → ∃ b o kd th v ba, a = some ⟨b, o, none⟩ ∧ b < w.heap.size ∧ w.cell? ⟨b, o + i * 4, none⟩ = some (.int .i64 kd) ∧ w.cell? ⟨b, o + i * 4 + 1, none⟩ = some (.int .i64 th) ∧ w.cell? ⟨b, o + i * 4 + 2, none⟩ = some (.int .u64 v) ∧ w.cell? ⟨b, o + i * 4 + 3, none⟩ = some (.bool ba) ∧ U64 v
theorem getD_sn {P R : Int} {T : Nat} {l : List Int} {S : Int → Bool} (h : ∀ i : Nat, i < cellsN P (T : Int) R → l.getD i 0 = if S (i : Int) then 1 else 0) {x : Nat} (hl : l.length = cellsN P (T : Int) R) : ∀ i : Nat, i < cellsN P (T : Int) R → (l.set x 1).getD i 0 = if addS S (x : Int) (i : Int) then 1 else 0 := by
  intro i hi
  rw [getD_set]
  unfold addS
  by_cases e : x = i
  · subst e; rw [if_pos ⟨rfl, by omega⟩]; simp
  · rw [if_neg (fun r => e r.1), h i hi]
    have : ¬ (i : Int) = (x : Int) := by omega
    simp [this]
set_option maxRecDepth 100000 in
set_option maxHeartbeats 32000000 in
theorem skept_walk (P0 T0 R0 : Int) (aa : Option Addr) (n0 c0 : Nat) (w : World) (hc : Hid (OpR w aa n0)) :
    Calls Try.prog 5 #[.agg #[.int .i64 P0, .int .i64 T0, .int .i64 R0], .slice aa n0 c0] w fun e w' => e = .returned (.bool true) ∧ Below w.heap.size w w' := by
  obtain ⟨hR0, hP3', hT4, hR3'⟩ := ssmall_right P0 T0 R0
  have SM := Lib.hid (fun W => ssmall_any P0 T0 R0 W)
  generalize ssI P0 3 = P at *
  generalize ssI R0 3 = R at *
  obtain ⟨T, hTe⟩ := Int.eq_ofNat_of_zero_le (show 0 ≤ ssI T0 4 by have := hR0.2.1; omega)
  rw [hTe] at SM hR0 hT4
  clear hTe
  have LAY := Lib.hid (fun W => slay_yes P (T : Int) R 1 W hR0 (by decide) (by decide))
  unfold LayPost at LAY
  have DR := Lib.hid (fun W => draw_yes P (T : Int) R W hR0)
  have HR := Lib.hid hR0
  have hcl := cellsN_bd hR0
  have hT0 : 0 < T := by have := hR0.2.1; omega
  obtain ⟨n, hn⟩ : ∃ n, cellsN P (T : Int) R = n := ⟨_, rfl⟩
  have hn2 : n ≤ 2304 := by omega
  have hcl2 : baseI P (T : Int) R + 64 * P = (n : Int) := by rw [← hn]; omega
  replace hcl2 := Lib.hid hcl2
  replace hn := Lib.hid hn
  clear hcl
  go_enter Try.func5, Try.ntmps5
  go_wp2_with fail
  have hQ : Blk (w.alloc (.cells #[.int .i64 P0, .int .i64 T0, .int .i64 R0] 23)) w.heap.size #[.int .i64 P0, .int .i64 T0, .int .i64 R0] 23 := Blk.new _ _ _
  have hB : Below w.heap.size w (w.alloc (.cells #[.int .i64 P0, .int .i64 T0, .int .i64 R0] 23)) := (Below.refl _ _).alloc (Nat.le_refl _) _
  refine (shaded_any _).mono ?_; rintro e w2 ⟨rfl, hb2⟩
  have hQ2 := Blk.grew hQ hb2
  have hB2 := hB.trans (hb2.mono hB.size)
  obtain ⟨⟨x0, x1, x2⟩, _⟩ := hQ2.three
  clear hQ hB hb2
  go_wp2_with fail
  refine (SM.out _).mono ?_; rintro e w3 ⟨rfl, hb3⟩
  have hQ3 := Blk.grew hQ2 hb3
  have hB3 := hB2.trans (hb3.mono hB2.size)
  obtain ⟨⟨y0, y1, y2⟩, z0, z1, z2⟩ := hQ3.three
  clear hQ2 hB2 hb3 x0 x1 x2 SM
  have hQ4 : Blk (((w3.setCell ⟨w.heap.size, 0, none⟩ (.int .i64 P)).setCell ⟨w.heap.size, 1, none⟩ (.int .i64 (T : Int))).setCell ⟨w.heap.size, 2, none⟩ (.int .i64 R)) w.heap.size #[.int .i64 P, .int .i64 (T : Int), .int .i64 R] 23 := ((hQ3.set 0 (.int .i64 P)).set 1 (.int .i64 (T : Int))).set 2 (.int .i64 R)
  have hB4 := ((hB3.setCell (p := ⟨w.heap.size, 0, none⟩) (Nat.le_refl _) (.int .i64 P)).setCell (p := ⟨w.heap.size, 1, none⟩) (Nat.le_refl _) (.int .i64 (T : Int))).setCell (p := ⟨w.heap.size, 2, none⟩) (Nat.le_refl _) (.int .i64 R)
  obtain ⟨g0, g1, g2⟩ := hQ4.three.1
  clear hQ3 hB3
  go_wp2_with fail
  clear y0 y1 y2 z0 z1 z2
  generalize World.setCell (World.setCell (World.setCell w3 _ _) _ _) _ _ = w4 at *
  refine (LAY.out _).mono ?_; rintro e w5 ⟨a, c, p, rfl, hX5, hP5, hp5, hb5⟩
  have hQ5 := Blk.grew hQ4 hb5
  have hB5 := hB4.trans (hb5.mono hB4.size)
  have lq4 := hQ4.lt
  have ls4 := hB4.size
  obtain ⟨k0, k1, k2⟩ := hQ5.three.1
  clear hQ4 hB4 hb5 g0 g1 g2 LAY
  go_wp2_with fail
  refine (DR.out _).mono ?_; rintro e w6 ⟨rfl, hb6⟩
  have hQ6 := Blk.grew hQ5 hb6
  have hB6 := hB5.trans (hb6.mono hB5.size)
  have hX6 := hX5.grew hb6
  have hP6 := Blk.grew hP5 hb6
  clear hQ5 hB5 hb6 hX5 hP5 k0 k1 k2 DR
  unfold mapV
  rw [hcl2.out]
  have hmk1 := fun W => run_mkL W T (by omega)
  have hmk2 := fun W => run_mkJ W n (by omega)
  have hmk3 := fun W => run_mkR W T (by omega)
  have lq6 := hQ6.lt
  have hX7 : Blk (w6.alloc (.cells #[.int .i64 P, .int .i64 (T : Int), .int .i64 R, .int .i64 (baseI P (T : Int) R), .int .i64 (tabI (T : Int) R), .int .i64 (n : Int)] 38)) w6.heap.size #[.int .i64 P, .int .i64 (T : Int), .int .i64 R, .int .i64 (baseI P (T : Int) R), .int .i64 (tabI (T : Int) R), .int .i64 (n : Int)] 38 := Blk.new _ _ _
  have hQ7 := hQ6.alloc (.cells #[.int .i64 P, .int .i64 (T : Int), .int .i64 R, .int .i64 (baseI P (T : Int) R), .int .i64 (tabI (T : Int) R), .int .i64 (n : Int)] 38)
  have hb7 : Below w6.heap.size w6 (w6.alloc (.cells #[.int .i64 P, .int .i64 (T : Int), .int .i64 R, .int .i64 (baseI P (T : Int) R), .int .i64 (tabI (T : Int) R), .int .i64 (n : Int)] 38)) := (Below.refl _ _).alloc (Nat.le_refl _) _
  have hz7 : (w6.alloc (.cells #[.int .i64 P, .int .i64 (T : Int), .int .i64 R, .int .i64 (baseI P (T : Int) R), .int .i64 (tabI (T : Int) R), .int .i64 (n : Int)] 38)).heap.size = w6.heap.size + 1 := by simp
  obtain ⟨v0, v1, v2⟩ := hQ7.three.1
  go_upto_region 8 with fail
  generalize w6.alloc (.cells #[.int .i64 P, .int .i64 (T : Int), .int .i64 R, .int .i64 (baseI P (T : Int) R), .int .i64 (tabI (T : Int) R), .int .i64 (n : Int)] 38) = wd at *
  go_upto_region 9 with fail
  clear v0 v1 v2
  have hQ8 := hQ7.alloc (.cells (rowL (fun _ => none) T) 45)
  have hX8 := hX7.alloc (.cells (rowL (fun _ => none) T) 45)
  have hL8 : Blk (wd.alloc (.cells (rowL (fun _ => none) T) 45)) (w6.heap.size + 1) (rowL (fun _ => none) T) 45 := Blk.new' hz7.symm
  have hb8 := hb7.alloc hb7.size (.cells (rowL (fun _ => none) T) 45)
  have hz8 : (wd.alloc (.cells (rowL (fun _ => none) T) 45)).heap.size = w6.heap.size + 2 := by simp [hz7]
  have v5 := hX8.val 5 rfl
  clear hQ7 hX7 hb7
  try rw [hz7]
  generalize wd.alloc (.cells (rowL (fun _ => none) T) 45) = we at *
  go_upto_region 10 with fail
  clear v5
  have hQ9 := hQ8.alloc (.cells (rowI64 (List.replicate n 0)) 3)
  have hX9 := hX8.alloc (.cells (rowI64 (List.replicate n 0)) 3)
  have hL9 := hL8.alloc (.cells (rowI64 (List.replicate n 0)) 3)
  have hS9 : Blk (we.alloc (.cells (rowI64 (List.replicate n 0)) 3)) (w6.heap.size + 2) (rowI64 (List.replicate n 0)) 3 := Blk.new' hz8.symm
  have hb9 := hb8.alloc hb8.size (.cells (rowI64 (List.replicate n 0)) 3)
  have hz9 : (we.alloc (.cells (rowI64 (List.replicate n 0)) 3)).heap.size = w6.heap.size + 3 := by simp [hz8]
  have v5 := hX9.val 5 rfl
  clear hQ8 hX8 hb8 hL8
  try rw [hz8]
  generalize we.alloc (.cells (rowI64 (List.replicate n 0)) 3) = wf at *
  go_upto_region 11 with fail
  clear v5
  have hQa := hQ9.alloc (.cells (rowI64 (List.replicate n 0)) 3)
  have hXa := hX9.alloc (.cells (rowI64 (List.replicate n 0)) 3)
  have hLa := hL9.alloc (.cells (rowI64 (List.replicate n 0)) 3)
  have hSa := hS9.alloc (.cells (rowI64 (List.replicate n 0)) 3)
  have hTa : Blk (wf.alloc (.cells (rowI64 (List.replicate n 0)) 3)) (w6.heap.size + 3) (rowI64 (List.replicate n 0)) 3 := Blk.new' hz9.symm
  have hba := hb9.alloc hb9.size (.cells (rowI64 (List.replicate n 0)) 3)
  have hza : (wf.alloc (.cells (rowI64 (List.replicate n 0)) 3)).heap.size = w6.heap.size + 4 := by simp [hz9]
  obtain ⟨v0, v1, v2⟩ := hQa.three.1
  clear hQ9 hX9 hb9 hL9 hS9
  try rw [hz9]
  generalize wf.alloc (.cells (rowI64 (List.replicate n 0)) 3) = wg at *
  go_upto_region 12 with fail
  clear v0 v1 v2
  have hXb := hXa.alloc (.cells (rowR (fun _ => 0) T) 41)
  have hLb := hLa.alloc (.cells (rowR (fun _ => 0) T) 41)
  have hSb := hSa.alloc (.cells (rowR (fun _ => 0) T) 41)
  have hTb := hTa.alloc (.cells (rowR (fun _ => 0) T) 41)
  have hRb : Blk (wg.alloc (.cells (rowR (fun _ => 0) T) 41)) (w6.heap.size + 4) (rowR (fun _ => 0) T) 41 := Blk.new' hza.symm
  have hbb := hba.alloc hba.size (.cells (rowR (fun _ => 0) T) 41)
  clear hXa hLa hSa hTa hba hQa hmk1 hmk2 hmk3
  try rw [hza]
  generalize wg.alloc (.cells (rowR (fun _ => 0) T) 41) = w7 at *
  have hZ := KS.zero (w := w) (T := T) HR.out hX6 hP6 hQ6 hbb (by rw [hcl2.out]; exact hXb) hLb (by rw [hn.out]; exact hSb) (by rw [hn.out]; exact hTb) hRb lq4 hp5 (Nat.le_refl _) (hB6.trans (hbb.mono hB6.size))
  obtain ⟨hZ1, hZ2⟩ := hZ
  rw [hn.out] at hZ1 hZ2
  have hZN : (KD.zero ([w6.heap.size + 4, w6.heap.size + 3, w6.heap.size + 2, w6.heap.size + 1, w6.heap.size] ++ [p]) n).n ≤ 4 * 0 := Nat.le_refl 0
  clear hX6 hP6 hQ6 hB6 hbb hp5 lq4 ls4 hXb hLb hSb hTb hRb
  generalize KD.zero ([w6.heap.size + 4, w6.heap.size + 3, w6.heap.size + 2, w6.heap.size + 1, w6.heap.size] ++ [p]) n = D0 at *
  generalize w4.heap.size = B at *
  have hI := Lib.hid (And.intro hZ1 (And.intro hZ2 hZN))
  clear hZ1 hZ2 hZN
  go_wp2_with fail
  go_loopw [13] (fun i2 wr => ∃ (i : Nat) (D : KD) (o : Bool), (i ≤ n0 ∧ i ≤ 150) ∧ i2 = .int .i64 (i : Int) ∧ Hid (KS w B a c p w.heap.size w6.heap.size (w6.heap.size + 1) (w6.heap.size + 2) (w6.heap.size + 3) (w6.heap.size + 4) P T R o D wr ∧ KB P T R D ∧ D.n ≤ 4 * i)) (fun i2 _ => 150 - (intOf i2).toNat)
  case atStart => exact ⟨0, _, _, ⟨by omega, by omega⟩, rfl, hI⟩
  case round =>
    obtain ⟨i, D, o, ⟨hi1, hi2⟩, rfl, hS⟩ := hrel
    clear hI
    obtain ⟨w0, hw0⟩ : ∃ W, W = wr := ⟨_, rfl⟩
    subst hw0
    have hi0 : (0 : Int) ≤ (i : Int) := by omega
    have hi9 : (i : Int) < 1000 := by omega
    by_cases hin : i < n0
    · have hin' : (i : Int) < (n0 : Int) := by omega
      by_cases hi6 : i < 150
      · have hi6' : (i : Int) < 150 := by omega
        obtain ⟨b, off, kd, th, v, ba, rfl, hbb, r0', r1', r2', r3', hv⟩ := hc.out i hin
        have RC := Lib.hid (fun W (hb : Below w.heap.size w W) => (⟨(hb.cell (p := ⟨b, off + i * 4, none⟩) hbb).trans r0', (hb.cell (p := ⟨b, off + i * 4 + 1, none⟩) hbb).trans r1', (hb.cell (p := ⟨b, off + i * 4 + 2, none⟩) hbb).trans r2'⟩ : W.cell? ⟨b, off + i * 4, none⟩ = some (.int .i64 kd) ∧ W.cell? ⟨b, off + i * 4 + 1, none⟩ = some (.int .i64 th) ∧ W.cell? ⟨b, off + i * 4 + 2, none⟩ = some (.int .u64 v)))
        clear r0' r1' r2' r3' hbb
        obtain ⟨t, hmt, htT⟩ := smod_T th T hT0 (by omega)
        have htT' : (t : Int) < (T : Int) := by omega
        have ht0 : (0 : Int) ≤ (t : Int) := by omega
        have hTw : IntKind.u64.wrap (T : Int) = (T : Int) := by rw [IntKind.wrap_u64]; omega
        have hTz : ¬ (T : Int) = 0 := by omega
        have hTp : (0 : Int) < (T : Int) := by omega
        obtain ⟨r0, r1, r2⟩ := RC.out _ hS.out.1.bel
        obtain ⟨q0, q1, q2⟩ := hS.out.1.qB.three.1
        go_wp2_with fail
        go_quiet (fail)
        rw [hmt]
        clear hmt
        have hS1 := hS.out.1.quiet (⟨nq, rfl⟩ : Quiet w0 (w0.drewN nq))
        have hB1 := hS.out.2.1
        have hn1 := hS.out.2.2
        generalize w0.drewN nq = w1 at *
        clear hS r0 r1 r2 q0 q1 q2
        obtain ⟨r0, r1, r2⟩ := RC.out _ hS1.bel
        have hx := exB_mk HR.out ht0 htT'
        replace hx := Lib.hid hx
        by_cases hkd : kd = 2
        · subst hkd
          obtain ⟨q0, q1, q2⟩ := hS1.qB.three.1
          have NP := Lib.hid (fun W => newpop_yes P (T : Int) R (t : Int) W hx.out)
          replace hS1 := Lib.hid hS1
          replace hB1 := Lib.hid hB1
          go_wp2_with fail
          refine (splan_any _ _ _ _).mono ?_; rintro e w2 ⟨rfl, hb2⟩
          go_wp2_with fail
          refine (NP.out _).mono ?_; rintro e w3 ⟨m, rfl, hm3, hml, hb3⟩
          have hP0 := (hS1.out.grew hb2).pop hb3 hm3 hml
          have hB2 : KB P T R { D with K := [m] ++ D.K } := ⟨hB1.out.sn, hB1.out.tk, hB1.out.lp⟩
          have hn2' : ({ D with K := [m] ++ D.K } : KD).n ≤ 4 * i := hn1
          have hll : Lg P (T : Int) R ({ D with K := [m] ++ D.K } : KD).h ({ D with K := [m] ++ D.K } : KD).q ({ D with K := [m] ++ D.K } : KD).st ({ D with K := [m] ++ D.K } : KD).rf ({ D with K := [m] ++ D.K } : KD).W ({ D with K := [m] ++ D.K } : KD).Sn ({ D with K := [m] ++ D.K } : KD).Tk ({ D with K := [m] ++ D.K } : KD).ov := hS1.out.k.ll
          have hsl : ({ D with K := [m] ++ D.K } : KD).sn.length = cellsN P (T : Int) R ∧ ({ D with K := [m] ++ D.K } : KD).tk.length = cellsN P (T : Int) R := hS1.out.sl
          generalize ({ D with K := [m] ++ D.K } : KD) = D1 at *
          replace hP0 := Lib.hid hP0
          replace hB2 := Lib.hid hB2
          replace hll := Lib.hid hll
          replace hsl := Lib.hid hsl
          clear hS1 hB1 hb2 hb3 hm3 hml q0 q1 q2 r0 r1 r2 NP hn1
          go_wp2_with fail
          go_loopw [17] (fun k2 wr => ∃ (k : Nat) (o : Bool), k ≤ 4 ∧ k2 = .int .i64 (k : Int) ∧ Hid (PopK w B a c p w.heap.size w6.heap.size (w6.heap.size + 1) (w6.heap.size + 2) (w6.heap.size + 3) (w6.heap.size + 4) P T R o D1 m t k wr)) (fun k2 _ => 4 - (intOf k2).toNat)
          case atStart => exact ⟨0, _, by omega, rfl, hP0⟩
          case round =>
            obtain ⟨k, o1, hk4, rfl, hPk⟩ := hrel
            clear hP0
            have hk0 : (0 : Int) ≤ (k : Int) := by omega
            by_cases hk : k < 4
            · have hk' : (k : Int) < 4 := by omega
              go_wp2_with fail
              refine hPk.out.grant.mono ?_; rintro e w4 ⟨⟨u4, rfl⟩, hP4⟩
              replace hP4 := Lib.hid hP4
              go_wp2_with fail
              refine (hP4.out.step htT' hk (by omega)).mono ?_; rintro e w5 ⟨⟨u5, rfl⟩, o2, hP5⟩
              replace hP5 := Lib.hid hP5
              clear hPk hP4
              go_wp2
              go_roundw
              case rel => exact ⟨k + 1, o2, by omega, by go_num, hP5⟩
              case measure => simp [intOf]; omega
            · obtain rfl : k = 4 := by omega
              rw [show ((4 : Nat) : Int) = 4 from rfl]
              clear hk0
              go_wp2_with fail
              refine hPk.out.done.mono ?_; rintro e w6' (⟨rfl, hS6⟩ | ⟨hlt, rfl, hS6⟩)
              · have hK := Lib.hid (And.intro hS6 (And.intro (⟨hB2.out.sn, hB2.out.tk, hB2.out.lp⟩ : KB P T R { D1 with n := D1.n + 2 }) (show D1.n + 2 ≤ 4 * (i + 1) by omega)))
                clear hPk hS6
                obtain ⟨q0, q1, q2⟩ := hK.out.1.qB.three.1
                have KPT := kept_yes hK.out.1 hK.out.2.1 (fun u hu => Int.ofNat_le.2 (Nat.le_trans (Nat.le_trans (hK.out.1.k.qs u hu) hK.out.2.2) (show 4 * (i + 1) ≤ 1000000 by omega)))
                rw [hn.out] at KPT
                replace KPT := Lib.hid KPT
                go_wp2_with fail
                refine KPT.out.mono ?_; rintro e w9 ⟨rfl, hb9⟩
                have hN := Lib.hid (And.intro (hK.out.1.grew hb9) hK.out.2)
                clear hK KPT hb9 q0 q1 q2
                go_wp2
                go_roundw
                case rel => first | exact ⟨i + 1, _, _, ⟨by omega, by omega⟩, by go_num, hN⟩ | ((repeat apply Exists.intro); exact ⟨⟨i + 1, _, _, ⟨by omega, by omega⟩, by go_num, hN⟩, rfl⟩)
                case measure => simp [intOf]; omega
              · obtain ⟨⟨s1, s2, s3⟩, -⟩ := hll.out.pop htT' hlt
                obtain ⟨x, hxe, hxn, hx0⟩ := ref_lt s2
                have hsn := hB2.out.sn x hxn
                have htk := hB2.out.tk x hxn
                rw [← hxe, s1, if_pos rfl] at hsn
                rw [← hxe, s3, if_neg (by decide)] at htk
                have cs1 := hS6.sB.val x (rowI64_get (show x < D1.sn.length by rw [hsl.out.1]; exact hxn))
                have ct1 := hS6.tB.val x (rowI64_get (show x < D1.tk.length by rw [hsl.out.2]; exact hxn))
                replace cs1 : w6'.cell? ⟨w6.heap.size + 2, x, none⟩ = some (.int .i64 1) := by rw [cs1]; exact congrArg (fun z => some (Value.int IntKind.i64 z)) hsn
                replace ct1 : w6'.cell? ⟨w6.heap.size + 3, x, none⟩ = some (.int .i64 0) := by rw [ct1]; exact congrArg (fun z => some (Value.int IntKind.i64 z)) htk
                have fz := hS6.tB.frozen x
                have hxz : ((x : Int) == 0) = false := beq_eq_false_iff_ne.2 (by omega)
                have hxN : x < n := by rw [← hn.out]; exact hxn
                have hxnI : ¬ (n : Int) ≤ (x : Int) := by omega
                have hxnJ : (x : Int) < (n : Int) := by omega
                have hx00 : (0 : Int) ≤ (x : Int) := by omega
                have hnw : IntKind.u64.wrap (n : Int) = (n : Int) := by rw [IntKind.wrap_u64]; omega
                have hS7 := hS6.taken x 1
                have hB7 : KB P T R { ({ D1 with h := updS D1.h t (D1.h t + 1), Tk := addS D1.Tk (D1.W t (D1.h t)), cs := D1.cs.set (ownN R t 3) ((D1.h t + 1 : Nat) : Int), n := D1.n + 4 } : KD) with tk := D1.tk.set x 1 } := ⟨hB2.out.sn, (by
                  show ∀ i : Nat, i < cellsN P (T : Int) R → (D1.tk.set x 1).getD i 0 = if addS D1.Tk (D1.W t (D1.h t)) (i : Int) then 1 else 0
                  rw [hxe]; exact getD_sn hB2.out.tk hsl.out.2), hB2.out.lp⟩
                have hK := Lib.hid (And.intro hS7 (And.intro hB7 (show D1.n + 4 ≤ 4 * (i + 1) by omega)))
                rw [hxe]
                clear hPk hS6 hS7 hB7 s1 s2 s3 hxe hxn hx0 hsn htk hlt
                go_upto_region 35 with fail
                generalize World.setCell w6' _ _ = w7' at *
                clear cs1 ct1 fz
                obtain ⟨q0, q1, q2⟩ := hK.out.1.qB.three.1
                have KPT := kept_yes hK.out.1 hK.out.2.1 (fun u hu => Int.ofNat_le.2 (Nat.le_trans (Nat.le_trans (hK.out.1.k.qs u hu) hK.out.2.2) (show 4 * (i + 1) ≤ 1000000 by omega)))
                rw [hn.out] at KPT
                replace KPT := Lib.hid KPT
                go_wp2_with fail
                refine KPT.out.mono ?_; rintro e w9 ⟨rfl, hb9⟩
                have hN := Lib.hid (And.intro (hK.out.1.grew hb9) hK.out.2)
                clear hK KPT hb9 q0 q1 q2
                go_wp2
                go_roundw
                case rel => first | exact ⟨i + 1, _, _, ⟨by omega, by omega⟩, by go_num, hN⟩ | ((repeat apply Exists.intro); exact ⟨⟨i + 1, _, _, ⟨by omega, by omega⟩, by go_num, hN⟩, rfl⟩)
                case measure => simp [intOf]; omega
        · have hkz : (kd == 2) = false := beq_eq_false_iff_ne.2 hkd
          have hlB := hS1.lB.val t (rowL_get htT)
          have l9 := hS1.k.ll.le t htT'
          have hRG := or1_ok hv
          have hsr := sref_ok HR.out hRG.1
          have RFS := Lib.hid (fun W => srefers_any P (T : Int) R (bits .or .u64 v 1) W HR.out hRG.1)
          obtain ⟨rg, hrg⟩ : ∃ rg, srefI P (T : Int) R (bits .or .u64 v 1) = rg := ⟨_, rfl⟩
          rw [hrg] at hsr RFS
          obtain ⟨hru, -, hsr⟩ := hsr
          obtain ⟨hr0, hrf⟩ := hsr hRG.2
          have NS := Lib.hid (fun W => newshade_yes P (T : Int) R (t : Int) rg W hx.out hru hr0 hrf)
          unfold mapV at RFS
          rw [hcl2.out] at RFS
          replace hrf := Lib.hid hrf
          have DSIX := Lib.hid (fun W o D (h : KS w B a c p w.heap.size w6.heap.size (w6.heap.size + 1) (w6.heap.size + 2) (w6.heap.size + 3) (w6.heap.size + 4) P T R o D W) => (by have := h.dB.six.1; rw [hcl2.out] at this; exact this : W.cell? ⟨w6.heap.size, 0, none⟩ = some (.int .i64 P) ∧ W.cell? ⟨w6.heap.size, 1, none⟩ = some (.int .i64 (T : Int)) ∧ W.cell? ⟨w6.heap.size, 2, none⟩ = some (.int .i64 R) ∧ W.cell? ⟨w6.heap.size, 3, none⟩ = some (.int .i64 (baseI P (T : Int) R)) ∧ W.cell? ⟨w6.heap.size, 4, none⟩ = some (.int .i64 (tabI (T : Int) R)) ∧ W.cell? ⟨w6.heap.size, 5, none⟩ = some (.int .i64 (n : Int))))
          clear hRG hsr hrg hru hr0 hv
          replace hB1 := Lib.hid hB1
          by_cases h8 : D.st t ≤ 8
          · rw [((hB1.out.lp t htT).1 h8).1] at hlB
            have OV := Lib.hid (hS1.k.over htT' h8)
            replace hS1 := Lib.hid hS1
            cases hov : (kNx (D.st t) == 0) with
            | true =>
              rw [hov] at OV
              have hn9 : ¬ kHe (D.st t) := kNx_over h8 hov
              go_wp2_with fail
              refine OV.out.mono ?_; rintro e w2 ⟨rfl, hq2⟩
              have hS2 := hS1.out.quiet hq2
              clear hS1 hlB hq2 OV
              have hS3 := hS2.retire htT' hn9
              have hB3 : Hid ((∀ i : Nat, i < cellsN P (T : Int) R → ({ D with st := updS D.st t 9 } : KD).sn.getD i 0 = if ({ D with st := updS D.st t 9 } : KD).Sn (i : Int) then 1 else 0) ∧ (∀ i : Nat, i < cellsN P (T : Int) R → ({ D with st := updS D.st t 9 } : KD).tk.getD i 0 = if ({ D with st := updS D.st t 9 } : KD).Tk (i : Int) then 1 else 0) ∧ (∀ u, u < T → u ≠ t → (({ D with st := updS D.st t 9 } : KD).st u ≤ 8 → ({ D with st := updS D.st t 9 } : KD).lp u = some ⟨({ D with st := updS D.st t 9 } : KD).bs u, 0, none⟩ ∧ ({ D with st := updS D.st t 9 } : KD).rr u = ({ D with st := updS D.st t 9 } : KD).rf u) ∧ (({ D with st := updS D.st t 9 } : KD).st u = 9 → ({ D with st := updS D.st t 9 } : KD).lp u = none)) ∧ ({ D with st := updS D.st t 9 } : KD).st t = 9 ∧ ({ D with st := updS D.st t 9 } : KD).n ≤ 4 * i) := by
                refine Lib.hid ⟨hB1.out.sn, hB1.out.tk, fun u hu hne => ?_, updS_eq _ _ _, hn1⟩
                show (updS D.st t 9 u ≤ 8 → _) ∧ (updS D.st t 9 u = 9 → _)
                rw [updS_ne hne]
                exact hB1.out.lp u hu
              generalize ({ D with st := updS D.st t 9 } : KD) = D3 at *
              have hSd := hS3.drew
              replace hS3 := Lib.hid hS3
              clear hS2
              go_upto_region 33 with fail
              clear r0 r1 r2
              go_region_held3 (fun W => (W.cell? ⟨w6.heap.size, 0, none⟩ = some (.int .i64 P) ∧ W.cell? ⟨w6.heap.size, 1, none⟩ = some (.int .i64 (T : Int)) ∧ W.cell? ⟨w6.heap.size, 2, none⟩ = some (.int .i64 R) ∧ W.cell? ⟨w6.heap.size, 3, none⟩ = some (.int .i64 (baseI P (T : Int) R)) ∧ W.cell? ⟨w6.heap.size, 4, none⟩ = some (.int .i64 (tabI (T : Int) R)) ∧ W.cell? ⟨w6.heap.size, 5, none⟩ = some (.int .i64 (n : Int))) ∧ W.cell? ⟨b, off + i * 4 + 2, none⟩ = some (.int .u64 v)) (first | (with_reducible exact ⟨DSIX.out _ _ _ (by assumption), (RC.out _ (KS.bel (by assumption))).2.2⟩) | (exact ⟨DSIX.out _ _ _ (KS.refs (by assumption) _ _), (RC.out _ (KS.bel (KS.refs (by assumption) _ _))).2.2⟩)) (first | (go_at_call 14; refine (RFS.out _).mono ?_; rintro e w4 ⟨rfl, hb4⟩; have hS4 := KS.grew (by assumption) hb4; have cz := hS4.rB.val t (rowR_get htT); have fz := hS4.rB.frozen t))
              have hS5 := hS4.refs t rg
              have hB5 : Hid ((∀ i : Nat, i < cellsN P (T : Int) R → ({ D3 with rr := updI D3.rr t rg } : KD).sn.getD i 0 = if ({ D3 with rr := updI D3.rr t rg } : KD).Sn (i : Int) then 1 else 0) ∧ (∀ i : Nat, i < cellsN P (T : Int) R → ({ D3 with rr := updI D3.rr t rg } : KD).tk.getD i 0 = if ({ D3 with rr := updI D3.rr t rg } : KD).Tk (i : Int) then 1 else 0) ∧ (∀ u, u < T → u ≠ t → (({ D3 with rr := updI D3.rr t rg } : KD).st u ≤ 8 → ({ D3 with rr := updI D3.rr t rg } : KD).lp u = some ⟨({ D3 with rr := updI D3.rr t rg } : KD).bs u, 0, none⟩ ∧ ({ D3 with rr := updI D3.rr t rg } : KD).rr u = ({ D3 with rr := updI D3.rr t rg } : KD).rf u) ∧ (({ D3 with rr := updI D3.rr t rg } : KD).st u = 9 → ({ D3 with rr := updI D3.rr t rg } : KD).lp u = none)) ∧ ({ D3 with rr := updI D3.rr t rg } : KD).st t = 9 ∧ ({ D3 with rr := updI D3.rr t rg } : KD).n ≤ 4 * i) := by
                refine Lib.hid ⟨hB3.out.1, hB3.out.2.1, fun u hu hne => ?_, hB3.out.2.2.2.1, hB3.out.2.2.2.2⟩
                show (D3.st u ≤ 8 → D3.lp u = some ⟨D3.bs u, 0, none⟩ ∧ updI D3.rr t rg u = D3.rf u) ∧ (D3.st u = 9 → D3.lp u = none)
                rw [updI_ne hne]
                exact hB3.out.2.2.1 u hu hne
              have hrr5 : ({ D3 with rr := updI D3.rr t rg } : KD).rr t = rg := updI_eq _ _ _
              clear cz fz hSd hS3 hB3 hb4 hS4
              generalize ({ D3 with rr := updI D3.rr t rg } : KD) = D5 at *
              go_upto_region 34 with fail
              generalize World.setCell w4 _ _ = w5 at *
              have hSd5 := hS5.drew
              replace hS5 := Lib.hid hS5
              have K34 := Lib.hid (fun W o D (h : KS w B a c p w.heap.size w6.heap.size (w6.heap.size + 1) (w6.heap.size + 2) (w6.heap.size + 3) (w6.heap.size + 4) P T R o D W) (hr : D.rr = D5.rr) => (⟨h.qB.three.1, by have := h.rB.val t (rowR_get htT); rw [hr, hrr5] at this; exact this⟩ : (W.cell? ⟨w.heap.size, 0, none⟩ = some (.int .i64 P) ∧ W.cell? ⟨w.heap.size, 1, none⟩ = some (.int .i64 (T : Int)) ∧ W.cell? ⟨w.heap.size, 2, none⟩ = some (.int .i64 R)) ∧ W.cell? ⟨w6.heap.size + 4, t, none⟩ = some (.int .u64 rg)))
              have k5 := K34.out _ _ _ hSd5 rfl
              go_region_held3 (fun W => (W.cell? ⟨w.heap.size, 0, none⟩ = some (.int .i64 P) ∧ W.cell? ⟨w.heap.size, 1, none⟩ = some (.int .i64 (T : Int)) ∧ W.cell? ⟨w.heap.size, 2, none⟩ = some (.int .i64 R)) ∧ W.cell? ⟨w6.heap.size + 4, t, none⟩ = some (.int .u64 rg)) (with_reducible assumption) (first | (go_at_call 13; refine (splan_any _ _ _ _).mono ?_; rintro e w10 ⟨rfl, hb10⟩; have hS10 := KS.grew (by assumption) hb10; have k10 := K34.out _ _ _ hS10 rfl) | (go_at_call 12; refine (NS.out _).mono ?_; rintro e w11 ⟨s, mk, pu, rfl, hSs, hSm, hSu, l1, l2, l3, hb11⟩; have hS11 := KS.begin (by assumption) hb11 htT' hB5.out.2.2.2.1 hrf.out hSs hSm hSu l1 l2 l3; have cz := hS11.lB.val t (rowL_get htT); have fz := hS11.lB.frozen t; have k11 := K34.out _ _ _ hS11 rfl; have k12 := K34.out _ _ _ (hS11.list t (some ⟨s, 0, none⟩)) rfl))
              have hS12 := hS11.list t (some ⟨s, 0, none⟩)
              have hB12 : KB P T R { ({ D5 with st := updS D5.st t 0, rf := updI D5.rf t rg, bs := updS D5.bs t s, bm := updS D5.bm t mk, bu := updS D5.bu t pu, tl := updI D5.tl t 0, K := [s, mk, pu] ++ D5.K } : KD) with lp := updO D5.lp t (some ⟨s, 0, none⟩) } := by
                refine ⟨hB5.out.1, hB5.out.2.1, fun u hu => ?_⟩
                show (updS D5.st t 0 u ≤ 8 → updO D5.lp t (some ⟨s, 0, none⟩) u = some ⟨updS D5.bs t s u, 0, none⟩ ∧ D5.rr u = updI D5.rf t rg u) ∧ (updS D5.st t 0 u = 9 → updO D5.lp t (some ⟨s, 0, none⟩) u = none)
                by_cases e : u = t
                · subst e
                  rw [updS_eq, updO_eq, updS_eq, updI_eq]
                  exact ⟨fun _ => ⟨rfl, hrr5⟩, fun e => absurd e (by decide)⟩
                · rw [updS_ne e, updO_ne e, updS_ne e, updI_ne e]
                  exact hB5.out.2.2.1 u hu e
              have hK := Lib.hid (And.intro hS12 (And.intro hB12 (show D5.n ≤ 4 * (i + 1) by have := hB5.out.2.2.2.2; omega)))
              clear cz fz hS11 hS12 hB12 hS10 hb10 hb11 hSs hSm hSu l1 l2 l3 hSd5 hS5 hB5 K34
              go_upto_region 35 with fail
              generalize World.setCell w11 _ _ = w13 at *
              obtain ⟨q0, q1, q2⟩ := hK.out.1.qB.three.1
              have KPT := kept_yes hK.out.1 hK.out.2.1 (fun u hu => Int.ofNat_le.2 (Nat.le_trans (Nat.le_trans (hK.out.1.k.qs u hu) hK.out.2.2) (show 4 * (i + 1) ≤ 1000000 by omega)))
              rw [hn.out] at KPT
              replace KPT := Lib.hid KPT
              go_wp2_with fail
              refine KPT.out.mono ?_; rintro e w9 ⟨rfl, hb9⟩
              have hN := Lib.hid (And.intro (hK.out.1.grew hb9) hK.out.2)
              clear hK KPT hb9 q0 q1 q2
              go_wp2
              go_roundw
              case rel => first | exact ⟨i + 1, _, _, ⟨by omega, by omega⟩, by go_num, hN⟩ | ((repeat apply Exists.intro); exact ⟨⟨i + 1, _, _, ⟨by omega, by omega⟩, by go_num, hN⟩, rfl⟩)
              case measure => simp [intOf]; omega
            | false =>
              rw [hov] at OV
              have hst : D.st t = 0 ∨ kHe (D.st t) := kNx_on h8 hov
              obtain ⟨x, hxe, hxn, hx0⟩ := ref_lt (hS1.out.k.ll.ref t htT' h8)
              clear NS RFS DSIX
              go_wp2_with fail
              refine OV.out.mono ?_; rintro e w2 ⟨rfl, hq2⟩
              have hS2 := Lib.hid (hS1.out.quiet hq2)
              clear hS1 hlB hq2 OV
              go_wp2_with fail
              refine hS2.out.grant.mono ?_; rintro e w4 ⟨⟨u4, rfl⟩, hS4⟩
              have hlB4 := hS4.lB.val t (rowL_get htT)
              rw [((hB1.out.lp t htT).1 h8).1] at hlB4
              replace hS4 := Lib.hid hS4
              clear hS2
              go_wp2_with fail
              refine (hS4.out.step htT' hst (by omega)).mono ?_; rintro e w5 ⟨s', D', o', rfl, hs8, hst', hsm, hn', hSn', hS5⟩
              have hlB5 := hS5.lB.val t (rowL_get htT)
              rw [hsm.lp, ((hB1.out.lp t htT).1 h8).1] at hlB5
              have FR := hS5.k.fresh htT' (by rw [hst', updS_eq]; exact hs8)
              rw [hst', updS_eq, hsm.bs] at FR
              replace FR := Lib.hid FR
              replace hS5 := Lib.hid hS5
              have hlpN : ∀ u, u < T → (D'.st u ≤ 8 → D'.lp u = some ⟨D'.bs u, 0, none⟩ ∧ D'.rr u = D'.rf u) ∧ (D'.st u = 9 → D'.lp u = none) := by
                intro u hu
                rw [hst', hsm.lp, hsm.bs, hsm.rr, hsm.rf]
                by_cases e : u = t
                · subst e; rw [updS_eq]; exact ⟨fun _ => (hB1.out.lp u hu).1 h8, fun e => by omega⟩
                · rw [updS_ne e]; exact hB1.out.lp u hu
              replace hlpN := Lib.hid hlpN
              have hsl := hS5.out.sl
              replace hsm := Lib.hid hsm
              clear hS4 hlB4
              cases hfr : kMf s' with
              | true =>
                rw [hfr] at FR
                rw [hfr, if_pos rfl] at hSn'
                go_wp2_with fail
                refine FR.out.mono ?_; rintro e w6' ⟨rfl, hq6⟩
                have hS6 := hS5.out.quiet hq6
                have hrB := hS6.rB.val t (rowR_get htT)
                rw [hsm.out.rr, ((hB1.out.lp t htT).1 h8).2, hxe] at hrB
                have cs1 := hS6.sB.val x (rowI64_get (by rw [hsl.1]; exact hxn))
                have fz := hS6.sB.frozen x
                have hxN : x < n := by rw [← hn.out]; exact hxn
                have hxnJ : (x : Int) < (n : Int) := by omega
                have hx00 : (0 : Int) ≤ (x : Int) := by omega
                have hS7 := hS6.seen x 1
                have hB7 : KB P T R { D' with sn := D'.sn.set x 1 } := ⟨(by
                  show ∀ i : Nat, i < cellsN P (T : Int) R → (D'.sn.set x 1).getD i 0 = if D'.Sn (i : Int) then 1 else 0
                  rw [hSn', hxe]
                  exact getD_sn (by rw [hsm.out.sn]; exact hB1.out.sn) hsl.1), (by
                  show ∀ i : Nat, i < cellsN P (T : Int) R → D'.tk.getD i 0 = if D'.Tk (i : Int) then 1 else 0
                  rw [hsm.out.tk, hsm.out.Tk]; exact hB1.out.tk), hlpN.out⟩
                have hK := Lib.hid (And.intro hS7 (And.intro hB7 (show D'.n ≤ 4 * (i + 1) by omega)))
                clear hS5 hS6 hS7 hB7 hlB5 FR hq6 hx0 hxn hxe hSn'
                go_upto_region 35 with fail
                generalize World.setCell w6' _ _ = w7' at *
                clear cs1 fz hrB
                obtain ⟨q0, q1, q2⟩ := hK.out.1.qB.three.1
                have KPT := kept_yes hK.out.1 hK.out.2.1 (fun u hu => Int.ofNat_le.2 (Nat.le_trans (Nat.le_trans (hK.out.1.k.qs u hu) hK.out.2.2) (show 4 * (i + 1) ≤ 1000000 by omega)))
                rw [hn.out] at KPT
                replace KPT := Lib.hid KPT
                go_wp2_with fail
                refine KPT.out.mono ?_; rintro e w9 ⟨rfl, hb9⟩
                have hN := Lib.hid (And.intro (hK.out.1.grew hb9) hK.out.2)
                clear hK KPT hb9 q0 q1 q2
                go_wp2
                go_roundw
                case rel => first | exact ⟨i + 1, _, _, ⟨by omega, by omega⟩, by go_num, hN⟩ | ((repeat apply Exists.intro); exact ⟨⟨i + 1, _, _, ⟨by omega, by omega⟩, by go_num, hN⟩, rfl⟩)
                case measure => simp [intOf]; omega
              | false =>
                rw [hfr] at FR
                rw [hfr, if_neg (by decide)] at hSn'
                go_wp2_with fail
                refine FR.out.mono ?_; rintro e w6' ⟨rfl, hq6⟩
                have hS6 := hS5.out.quiet hq6
                have hB7 : KB P T R D' := ⟨by rw [hSn', hsm.out.sn]; exact hB1.out.sn, by rw [hsm.out.tk, hsm.out.Tk]; exact hB1.out.tk, hlpN.out⟩
                have hK := Lib.hid (And.intro hS6 (And.intro hB7 (show D'.n ≤ 4 * (i + 1) by omega)))
                clear hS5 hS6 hB7 hlB5 FR hq6 hx0 hxn hxe hSn'
                obtain ⟨q0, q1, q2⟩ := hK.out.1.qB.three.1
                have KPT := kept_yes hK.out.1 hK.out.2.1 (fun u hu => Int.ofNat_le.2 (Nat.le_trans (Nat.le_trans (hK.out.1.k.qs u hu) hK.out.2.2) (show 4 * (i + 1) ≤ 1000000 by omega)))
                rw [hn.out] at KPT
                replace KPT := Lib.hid KPT
                go_wp2_with fail
                refine KPT.out.mono ?_; rintro e w9 ⟨rfl, hb9⟩
                have hN := Lib.hid (And.intro (hK.out.1.grew hb9) hK.out.2)
                clear hK KPT hb9 q0 q1 q2
                go_wp2
                go_roundw
                case rel => first | exact ⟨i + 1, _, _, ⟨by omega, by omega⟩, by go_num, hN⟩ | ((repeat apply Exists.intro); exact ⟨⟨i + 1, _, _, ⟨by omega, by omega⟩, by go_num, hN⟩, rfl⟩)
                case measure => simp [intOf]; omega
          · have e9 : D.st t = 9 := by omega
            rw [(hB1.out.lp t htT).2 e9] at hlB
            have hn9 : ¬ kHe (D.st t) := by rw [e9]; unfold kHe; omega
            have hS2 := hS1
            clear hS1
            have hS3 := hS2.retire htT' hn9
            have hB3 : Hid ((∀ i : Nat, i < cellsN P (T : Int) R → ({ D with st := updS D.st t 9 } : KD).sn.getD i 0 = if ({ D with st := updS D.st t 9 } : KD).Sn (i : Int) then 1 else 0) ∧ (∀ i : Nat, i < cellsN P (T : Int) R → ({ D with st := updS D.st t 9 } : KD).tk.getD i 0 = if ({ D with st := updS D.st t 9 } : KD).Tk (i : Int) then 1 else 0) ∧ (∀ u, u < T → u ≠ t → (({ D with st := updS D.st t 9 } : KD).st u ≤ 8 → ({ D with st := updS D.st t 9 } : KD).lp u = some ⟨({ D with st := updS D.st t 9 } : KD).bs u, 0, none⟩ ∧ ({ D with st := updS D.st t 9 } : KD).rr u = ({ D with st := updS D.st t 9 } : KD).rf u) ∧ (({ D with st := updS D.st t 9 } : KD).st u = 9 → ({ D with st := updS D.st t 9 } : KD).lp u = none)) ∧ ({ D with st := updS D.st t 9 } : KD).st t = 9 ∧ ({ D with st := updS D.st t 9 } : KD).n ≤ 4 * i) := by
              refine Lib.hid ⟨hB1.out.sn, hB1.out.tk, fun u hu hne => ?_, updS_eq _ _ _, hn1⟩
              show (updS D.st t 9 u ≤ 8 → _) ∧ (updS D.st t 9 u = 9 → _)
              rw [updS_ne hne]
              exact hB1.out.lp u hu
            generalize ({ D with st := updS D.st t 9 } : KD) = D3 at *
            have hSd := hS3.drew
            replace hS3 := Lib.hid hS3
            clear hS2
            go_upto_region 33 with fail
            clear r0 r1 r2
            go_region_held3 (fun W => (W.cell? ⟨w6.heap.size, 0, none⟩ = some (.int .i64 P) ∧ W.cell? ⟨w6.heap.size, 1, none⟩ = some (.int .i64 (T : Int)) ∧ W.cell? ⟨w6.heap.size, 2, none⟩ = some (.int .i64 R) ∧ W.cell? ⟨w6.heap.size, 3, none⟩ = some (.int .i64 (baseI P (T : Int) R)) ∧ W.cell? ⟨w6.heap.size, 4, none⟩ = some (.int .i64 (tabI (T : Int) R)) ∧ W.cell? ⟨w6.heap.size, 5, none⟩ = some (.int .i64 (n : Int))) ∧ W.cell? ⟨b, off + i * 4 + 2, none⟩ = some (.int .u64 v)) (first | (with_reducible exact ⟨DSIX.out _ _ _ (by assumption), (RC.out _ (KS.bel (by assumption))).2.2⟩) | (exact ⟨DSIX.out _ _ _ (KS.refs (by assumption) _ _), (RC.out _ (KS.bel (KS.refs (by assumption) _ _))).2.2⟩)) (first | (go_at_call 14; refine (RFS.out _).mono ?_; rintro e w4 ⟨rfl, hb4⟩; have hS4 := KS.grew (by assumption) hb4; have cz := hS4.rB.val t (rowR_get htT); have fz := hS4.rB.frozen t))
            have hS5 := hS4.refs t rg
            have hB5 : Hid ((∀ i : Nat, i < cellsN P (T : Int) R → ({ D3 with rr := updI D3.rr t rg } : KD).sn.getD i 0 = if ({ D3 with rr := updI D3.rr t rg } : KD).Sn (i : Int) then 1 else 0) ∧ (∀ i : Nat, i < cellsN P (T : Int) R → ({ D3 with rr := updI D3.rr t rg } : KD).tk.getD i 0 = if ({ D3 with rr := updI D3.rr t rg } : KD).Tk (i : Int) then 1 else 0) ∧ (∀ u, u < T → u ≠ t → (({ D3 with rr := updI D3.rr t rg } : KD).st u ≤ 8 → ({ D3 with rr := updI D3.rr t rg } : KD).lp u = some ⟨({ D3 with rr := updI D3.rr t rg } : KD).bs u, 0, none⟩ ∧ ({ D3 with rr := updI D3.rr t rg } : KD).rr u = ({ D3 with rr := updI D3.rr t rg } : KD).rf u) ∧ (({ D3 with rr := updI D3.rr t rg } : KD).st u = 9 → ({ D3 with rr := updI D3.rr t rg } : KD).lp u = none)) ∧ ({ D3 with rr := updI D3.rr t rg } : KD).st t = 9 ∧ ({ D3 with rr := updI D3.rr t rg } : KD).n ≤ 4 * i) := by
              refine Lib.hid ⟨hB3.out.1, hB3.out.2.1, fun u hu hne => ?_, hB3.out.2.2.2.1, hB3.out.2.2.2.2⟩
              show (D3.st u ≤ 8 → D3.lp u = some ⟨D3.bs u, 0, none⟩ ∧ updI D3.rr t rg u = D3.rf u) ∧ (D3.st u = 9 → D3.lp u = none)
              rw [updI_ne hne]
              exact hB3.out.2.2.1 u hu hne
            have hrr5 : ({ D3 with rr := updI D3.rr t rg } : KD).rr t = rg := updI_eq _ _ _
            clear cz fz hSd hS3 hB3 hb4 hS4
            generalize ({ D3 with rr := updI D3.rr t rg } : KD) = D5 at *
            go_upto_region 34 with fail
            generalize World.setCell w4 _ _ = w5 at *
            have hSd5 := hS5.drew
            replace hS5 := Lib.hid hS5
            have K34 := Lib.hid (fun W o D (h : KS w B a c p w.heap.size w6.heap.size (w6.heap.size + 1) (w6.heap.size + 2) (w6.heap.size + 3) (w6.heap.size + 4) P T R o D W) (hr : D.rr = D5.rr) => (⟨h.qB.three.1, by have := h.rB.val t (rowR_get htT); rw [hr, hrr5] at this; exact this⟩ : (W.cell? ⟨w.heap.size, 0, none⟩ = some (.int .i64 P) ∧ W.cell? ⟨w.heap.size, 1, none⟩ = some (.int .i64 (T : Int)) ∧ W.cell? ⟨w.heap.size, 2, none⟩ = some (.int .i64 R)) ∧ W.cell? ⟨w6.heap.size + 4, t, none⟩ = some (.int .u64 rg)))
            have k5 := K34.out _ _ _ hSd5 rfl
            go_region_held3 (fun W => (W.cell? ⟨w.heap.size, 0, none⟩ = some (.int .i64 P) ∧ W.cell? ⟨w.heap.size, 1, none⟩ = some (.int .i64 (T : Int)) ∧ W.cell? ⟨w.heap.size, 2, none⟩ = some (.int .i64 R)) ∧ W.cell? ⟨w6.heap.size + 4, t, none⟩ = some (.int .u64 rg)) (with_reducible assumption) (first | (go_at_call 13; refine (splan_any _ _ _ _).mono ?_; rintro e w10 ⟨rfl, hb10⟩; have hS10 := KS.grew (by assumption) hb10; have k10 := K34.out _ _ _ hS10 rfl) | (go_at_call 12; refine (NS.out _).mono ?_; rintro e w11 ⟨s, mk, pu, rfl, hSs, hSm, hSu, l1, l2, l3, hb11⟩; have hS11 := KS.begin (by assumption) hb11 htT' hB5.out.2.2.2.1 hrf.out hSs hSm hSu l1 l2 l3; have cz := hS11.lB.val t (rowL_get htT); have fz := hS11.lB.frozen t; have k11 := K34.out _ _ _ hS11 rfl; have k12 := K34.out _ _ _ (hS11.list t (some ⟨s, 0, none⟩)) rfl))
            have hS12 := hS11.list t (some ⟨s, 0, none⟩)
            have hB12 : KB P T R { ({ D5 with st := updS D5.st t 0, rf := updI D5.rf t rg, bs := updS D5.bs t s, bm := updS D5.bm t mk, bu := updS D5.bu t pu, tl := updI D5.tl t 0, K := [s, mk, pu] ++ D5.K } : KD) with lp := updO D5.lp t (some ⟨s, 0, none⟩) } := by
              refine ⟨hB5.out.1, hB5.out.2.1, fun u hu => ?_⟩
              show (updS D5.st t 0 u ≤ 8 → updO D5.lp t (some ⟨s, 0, none⟩) u = some ⟨updS D5.bs t s u, 0, none⟩ ∧ D5.rr u = updI D5.rf t rg u) ∧ (updS D5.st t 0 u = 9 → updO D5.lp t (some ⟨s, 0, none⟩) u = none)
              by_cases e : u = t
              · subst e
                rw [updS_eq, updO_eq, updS_eq, updI_eq]
                exact ⟨fun _ => ⟨rfl, hrr5⟩, fun e => absurd e (by decide)⟩
              · rw [updS_ne e, updO_ne e, updS_ne e, updI_ne e]
                exact hB5.out.2.2.1 u hu e
            have hK := Lib.hid (And.intro hS12 (And.intro hB12 (show D5.n ≤ 4 * (i + 1) by have := hB5.out.2.2.2.2; omega)))
            clear cz fz hS11 hS12 hB12 hS10 hb10 hb11 hSs hSm hSu l1 l2 l3 hSd5 hS5 hB5 K34
            go_upto_region 35 with fail
            generalize World.setCell w11 _ _ = w13 at *
            obtain ⟨q0, q1, q2⟩ := hK.out.1.qB.three.1
            have KPT := kept_yes hK.out.1 hK.out.2.1 (fun u hu => Int.ofNat_le.2 (Nat.le_trans (Nat.le_trans (hK.out.1.k.qs u hu) hK.out.2.2) (show 4 * (i + 1) ≤ 1000000 by omega)))
            rw [hn.out] at KPT
            replace KPT := Lib.hid KPT
            go_wp2_with fail
            refine KPT.out.mono ?_; rintro e w9 ⟨rfl, hb9⟩
            have hN := Lib.hid (And.intro (hK.out.1.grew hb9) hK.out.2)
            clear hK KPT hb9 q0 q1 q2
            go_wp2
            go_roundw
            case rel => first | exact ⟨i + 1, _, _, ⟨by omega, by omega⟩, by go_num, hN⟩ | ((repeat apply Exists.intro); exact ⟨⟨i + 1, _, _, ⟨by omega, by omega⟩, by go_num, hN⟩, rfl⟩)
            case measure => simp [intOf]; omega
      · have hi6' : ¬ (i : Int) < 150 := by omega
        have hBf := Lib.hid hS.out.1.bel
        go_wp2
        go_ret
        exact ⟨rfl, hBf.out⟩
    · have hin' : ¬ (i : Int) < (n0 : Int) := by omega
      have hBf := Lib.hid hS.out.1.bel
      go_wp2
      go_ret
      exact ⟨rfl, hBf.out⟩
end Go.Proofs.Ytlhigibgjggidaa
