/- Texts of this seat, one behind the other: each says at its head what it holds. No condition of its own. -/
import Derived.Maps.OwnSet
import Derived.Maps.OwnOps
import Derived.StringKeys
import Derived.Lib.Hide
import Derived.Test.YtohmnjejchppkaaDoorGObjectsBack01
import Derived.Test.YtohmnjejchppkaaDoorGObjectsBack13
import Derived.Test.YtohmnjejchppkaaDoorGObjectsBack17
/- Package objects: holder: the page and the entry of a cell that is allocated. Conditions: the arena is there, with as many cells as the plan says; sizes' table lies as the start lays it. -/
namespace Go.Proofs.YtohmnjejchppkaaDoor
open Go.RowKit
set_option linter.unusedVariables false
/-- is a cell that begins there allocated? -/
def holdB (P T R : Int) (cs : List Int) (x : Int) : Bool :=
  decide (0 ≤ (placeI P T R x).1) && (edecOk (cs.getD (rowN P T R 0 (placeI P T R x).1) 0) &&
    (begB (cs.getD (rowN P T R 0 (placeI P T R x).1) 0 % 4) (cs.getD (rowN P T R 0 (placeI P T R x).1) 0 / 4 % 16) (placeI P T R x).2 &&
     bitB (cs.getD (rowN P T R 1 (placeI P T R x).1) 0) (placeI P T R x).2))
def entV (E : Int) : Value := .agg #[.int .i64 (E % 4), .int .i64 (E / 4 % 16), .int .i64 (E / 64 % 4), .int .i64 (E / 256 % 16), .int .i64 (E / 65536 % 4294967296)]
def zeroE : Value := .agg #[.int .i64 0, .int .i64 0, .int .i64 0, .int .i64 0, .int .i64 0]
/-- the boxes of holder, the arena -/
structure HoS (w : World) (P T R : Int) (B a c n : Nat) (cs : List Int) (K : List Nat) (W : World) : Prop where
  pl : Blk W w.heap.size #[.int .i64 P, .int .i64 T, .int .i64 R] 54
  res : Blk W (w.heap.size + 1) #[.int .i64 0, .int .i64 0, .int .i64 0, .int .i64 0, .int .i64 0] 109
  ary : Ary W B a c cs n K
  wid : Wid W
  bel : Below w.heap.size w W
section
variable {w W W' : World} {P T R : Int} {B a c n : Nat} {cs : List Int} {K : List Nat}
theorem HoS.grew (h : HoS w P T R B a c n cs K W) (hb : Below W.heap.size W W') : HoS w P T R B a c n cs K W' := ⟨h.pl.grew hb, h.res.grew hb, h.ary.grew hb, h.wid.grew hb, h.bel.trans (hb.mono h.bel.size)⟩
theorem HoS.new (h : Ary w B a c cs n K) (hW : Wid w) : HoS w P T R B a c n cs K ((w.alloc (.cells #[.int .i64 P, .int .i64 T, .int .i64 R] 54)).alloc (.cells #[.int .i64 0, .int .i64 0, .int .i64 0, .int .i64 0, .int .i64 0] 109)) :=
  have hb : Below w.heap.size w ((w.alloc (.cells #[.int .i64 P, .int .i64 T, .int .i64 R] 54)).alloc (.cells #[.int .i64 0, .int .i64 0, .int .i64 0, .int .i64 0, .int .i64 0] 109)) := ((Below.refl _ _).alloc (Nat.le_refl _) _).alloc (by simp) _
  ⟨(Blk.new _ _ _).alloc _, Blk.new' (by simp), h.grew hb, hW.grew hb, hb⟩
theorem HoS.three (h : HoS w P T R B a c n cs K W) : W.cell? ⟨w.heap.size, 0, none⟩ = some (.int .i64 P) ∧ W.cell? ⟨w.heap.size, 1, none⟩ = some (.int .i64 T) ∧ W.cell? ⟨w.heap.size, 2, none⟩ = some (.int .i64 R) := h.pl.three.1
theorem HoS.five (h : HoS w P T R B a c n cs K W) : (W.cell? ⟨w.heap.size + 1, 0, none⟩ = some (.int .i64 0) ∧ W.cell? ⟨w.heap.size + 1, 1, none⟩ = some (.int .i64 0) ∧ W.cell? ⟨w.heap.size + 1, 2, none⟩ = some (.int .i64 0) ∧ W.cell? ⟨w.heap.size + 1, 3, none⟩ = some (.int .i64 0) ∧ W.cell? ⟨w.heap.size + 1, 4, none⟩ = some (.int .i64 0)) ∧
    (W.frozen? ⟨w.heap.size + 1, 0, none⟩ = false ∧ W.frozen? ⟨w.heap.size + 1, 1, none⟩ = false ∧ W.frozen? ⟨w.heap.size + 1, 2, none⟩ = false ∧ W.frozen? ⟨w.heap.size + 1, 3, none⟩ = false ∧ W.frozen? ⟨w.heap.size + 1, 4, none⟩ = false) :=
  ⟨⟨h.res.val 0 rfl, h.res.val 1 rfl, h.res.val 2 rfl, h.res.val 3 rfl, h.res.val 4 rfl⟩, h.res.frozen 0, h.res.frozen 1, h.res.frozen 2, h.res.frozen 3, h.res.frozen 4⟩
theorem HoS.put (h : HoS w P T R B a c n cs K W) (u0 u1 u2 u3 u4 : Int) : Blk (((((W.setCell ⟨w.heap.size + 1, 0, none⟩ (.int .i64 u0)).setCell ⟨w.heap.size + 1, 1, none⟩ (.int .i64 u1)).setCell ⟨w.heap.size + 1, 2, none⟩ (.int .i64 u2)).setCell ⟨w.heap.size + 1, 3, none⟩ (.int .i64 u3)).setCell ⟨w.heap.size + 1, 4, none⟩ (.int .i64 u4)) (w.heap.size + 1) #[.int .i64 u0, .int .i64 u1, .int .i64 u2, .int .i64 u3, .int .i64 u4] 109 ∧ Below w.heap.size w (((((W.setCell ⟨w.heap.size + 1, 0, none⟩ (.int .i64 u0)).setCell ⟨w.heap.size + 1, 1, none⟩ (.int .i64 u1)).setCell ⟨w.heap.size + 1, 2, none⟩ (.int .i64 u2)).setCell ⟨w.heap.size + 1, 3, none⟩ (.int .i64 u3)).setCell ⟨w.heap.size + 1, 4, none⟩ (.int .i64 u4)) :=
  ⟨((((h.res.set 0 (.int .i64 u0)).set 1 (.int .i64 u1)).set 2 (.int .i64 u2)).set 3 (.int .i64 u3)).set 4 (.int .i64 u4),
   ((((h.bel.setCell (p := ⟨w.heap.size + 1, 0, none⟩) (by simp) _).setCell (p := ⟨w.heap.size + 1, 1, none⟩) (by simp) _).setCell (p := ⟨w.heap.size + 1, 2, none⟩) (by simp) _).setCell (p := ⟨w.heap.size + 1, 3, none⟩) (by simp) _).setCell (p := ⟨w.heap.size + 1, 4, none⟩) (by simp) _⟩
theorem HoS.drew (h : HoS w P T R B a c n cs K W) : HoS w P T R B a c n cs K W.drew := h.grew (Quiet.below ⟨1, rfl⟩)
theorem place_right {P T R x : Int} (h : 0 ≤ (placeI P T R x).1) : Right P T R := by
  unfold placeI at h
  cases hh : heapB P T R x with
  | false => rw [hh] at h; simp at h
  | true => unfold heapB at hh; rw [Bool.and_eq_true] at hh; exact right_of hh.1
theorem place_lt {P T R x : Int} (h : 0 ≤ (placeI P T R x).1) : (placeI P T R x).1 < P := by
  unfold placeI at h ⊢
  cases hh : heapB P T R x with
  | false => rw [hh] at h; simp at h
  | true =>
    unfold heapB at hh
    rw [Bool.and_eq_true] at hh
    have hi : baseI P T R ≤ x ∧ x ≤ baseI P T R + 64 * P - 1 := by simpa [inB] using hh.2
    simp only [if_true]
    omega
theorem place_wd {P T R x : Int} (h : 0 ≤ (placeI P T R x).1) : 0 ≤ (placeI P T R x).2 := by
  unfold placeI at h ⊢
  cases hh : heapB P T R x with
  | false => rw [hh] at h; simp at h
  | true => simp only [if_true]; omega
theorem five_at {w : World} {b : Nat} {v0 v1 v2 v3 v4 : Value} {t : TypeId} (h : Blk w b #[v0, v1, v2, v3, v4] t) : w.cell? ⟨b, 0, none⟩ = some v0 ∧ w.cell? ⟨b, 1, none⟩ = some v1 ∧ w.cell? ⟨b, 2, none⟩ = some v2 ∧ w.cell? ⟨b, 3, none⟩ = some v3 ∧ w.cell? ⟨b, 4, none⟩ = some v4 :=
  ⟨h.val 0 rfl, h.val 1 rfl, h.val 2 rfl, h.val 3 rfl, h.val 4 rfl⟩
set_option maxRecDepth 100000 in
set_option maxHeartbeats 4000000 in
theorem holder_none (P T R x : Int) (hA : Ary w B a c cs n K) (hW : Wid w) (h : (placeI P T R x).1 < 0) :
    Calls Tryd.prog 42 #[.pointer (some ⟨a, 0, none⟩), .agg #[.int .i64 P, .int .i64 T, .int .i64 R], .int .i64 x] w fun e w' => e = .returned (.tuple #[.int .i64 0, zeroE, .bool false]) ∧ Below w.heap.size w w' := by
  have PL := Lib.hid (fun W => place_any P T R x W)
  generalize (placeI P T R x).1 = pg at *
  generalize (placeI P T R x).2 = wd at *
  have hS := HoS.new (P := P) (T := T) (R := R) hA hW
  obtain ⟨a0, a1, a2⟩ := hS.three
  clear hA hW
  unfold zeroE
  go_enter Tryd.func42, Tryd.ntmps42
  go_wp2_with fail
  refine (PL.out _).mono ?_; rintro e w1 ⟨rfl, hb1⟩
  have hS1 := hS.grew hb1
  clear hS hb1 a0 a1 a2
  obtain ⟨⟨r0, r1, r2, r3, r4⟩, f0, f1, f2, f3, f4⟩ := hS1.five
  go_wp2
  have hZ := (hS1).put 0 0 0 0 0
  generalize World.setCell (World.setCell (World.setCell (World.setCell (World.setCell _ _ _) _ _) _ _) _ _) _ _ = W9 at *
  obtain ⟨hZ, hB9⟩ := hZ
  have z0 := hZ.val 0 rfl
  have z1 := hZ.val 1 rfl
  have z2 := hZ.val 2 rfl
  have z3 := hZ.val 3 rfl
  have z4 := hZ.val 4 rfl
  exact bodyPost_ret (v := .tuple #[.int .i64 0, .agg #[.int .i64 0, .int .i64 0, .int .i64 0, .int .i64 0, .int .i64 0], .bool false]) (by simp [results, Tryd.results42, go_sem, z0, z1, z2, z3, z4]) rfl ⟨rfl, hB9⟩
set_option maxRecDepth 100000 in
set_option maxHeartbeats 4000000 in
theorem holder_ent (P T R x : Int) (hA : Ary w B a c cs n K) (hW : Wid w) (h0 : 0 ≤ (placeI P T R x).1) (hl : cs.length = cellsN P T R) (hU : U64 (cs.getD (rowN P T R 0 (placeI P T R x).1) 0)) (h : edecOk (cs.getD (rowN P T R 0 (placeI P T R x).1) 0) = false) :
    Calls Tryd.prog 42 #[.pointer (some ⟨a, 0, none⟩), .agg #[.int .i64 P, .int .i64 T, .int .i64 R], .int .i64 x] w fun e w' => e = .returned (.tuple #[.int .i64 0, zeroE, .bool false]) ∧ Below w.heap.size w w' := by
  have PL := Lib.hid (fun W => place_any P T R x W)
  have hr : Right P T R := place_right h0
  have hpP := place_lt h0
  obtain ⟨e0, l0, _⟩ := rowN_val (P := P) (T := T) (R := R) 0 hr h0 hpP (by decide)
  obtain ⟨e1, l1, _⟩ := rowN_val (P := P) (T := T) (R := R) 1 hr h0 hpP (by decide)
  have hc := (cellsN_bd hr).2.2
  have EN := Lib.hid (fun W => entry_anyLayc P T R (placeI P T R x).1 W)
  have AN := Lib.hid (fun W => alloc_any P T R (placeI P T R x).1 W)
  rw [e0] at EN
  rw [e1] at AN
  have PE := Lib.hid (fun W (h : Ary W B a c cs n K) => apeek h (i := rowN P T R 0 (placeI P T R x).1) (by omega) (by omega))
  have PA := Lib.hid (fun W (h : Ary W B a c cs n K) => apeek h (i := rowN P T R 1 (placeI P T R x).1) (by omega) (by omega))
  have DE := Lib.hid (fun W => edec_no _ W hU h)
  clear hU h
  generalize rowN P T R 0 (placeI P T R x).1 = i0 at *
  generalize rowN P T R 1 (placeI P T R x).1 = i1 at *
  generalize cs.getD i0 0 = E at *
  generalize cs.getD i1 0 = A at *
  have wdb := place_bdO P T R x
  have wd0 := place_wd h0
  generalize (placeI P T R x).1 = pg at *
  generalize (placeI P T R x).2 = wd at *
  have h0' : ¬ pg < 0 := by omega
  clear hr hpP e0 l0 e1 l1 hc hl
  have hS := HoS.new (P := P) (T := T) (R := R) hA hW
  obtain ⟨a0, a1, a2⟩ := hS.three
  clear hA hW
  unfold zeroE
  go_enter Tryd.func42, Tryd.ntmps42
  go_wp2_with fail
  refine (PL.out _).mono ?_; rintro e w1 ⟨rfl, hb1⟩
  have hS1 := hS.grew hb1
  clear hS hb1 a0 a1 a2
  obtain ⟨a0, a1, a2⟩ := hS1.three
  go_wp2_with fail
  refine (EN.out _).mono ?_; rintro e w2 ⟨rfl, hb2⟩
  have hS2 := hS1.grew hb2
  clear hS1 hb2 a0 a1 a2
  go_wp2_with fail
  refine (PE.out _ hS2.ary).mono ?_; rintro e w3 ⟨rfl, hq3⟩
  have hS3 := hS2.grew hq3.below
  clear hS2 hq3
  go_wp2_with fail
  refine (DE.out _).mono ?_; rintro e w4 ⟨rfl, hb4⟩
  have hS4 := hS3.grew hb4
  clear hS3 hb4
  have hS5 := hS4.grew ((Below.refl w4.heap.size w4).alloc (Nat.le_refl _) (.cells #[.int .i64 0, .int .i64 0, .int .i64 0, .int .i64 0, .int .i64 0] 109))
  obtain ⟨⟨r0, r1, r2, r3, r4⟩, f0, f1, f2, f3, f4⟩ := hS5.five
  go_wp2
  have hZ := (hS5).put 0 0 0 0 0
  generalize World.setCell (World.setCell (World.setCell (World.setCell (World.setCell _ _ _) _ _) _ _) _ _) _ _ = W9 at *
  obtain ⟨hZ, hB9⟩ := hZ
  have z0 := hZ.val 0 rfl
  have z1 := hZ.val 1 rfl
  have z2 := hZ.val 2 rfl
  have z3 := hZ.val 3 rfl
  have z4 := hZ.val 4 rfl
  exact bodyPost_ret (v := .tuple #[.int .i64 0, .agg #[.int .i64 0, .int .i64 0, .int .i64 0, .int .i64 0, .int .i64 0], .bool false]) (by simp [results, Tryd.results42, go_sem, z0, z1, z2, z3, z4]) rfl ⟨rfl, hB9⟩
set_option maxRecDepth 100000 in
set_option maxHeartbeats 4000000 in
theorem holder_beg (P T R x : Int) (hA : Ary w B a c cs n K) (hW : Wid w) (h0 : 0 ≤ (placeI P T R x).1) (hl : cs.length = cellsN P T R) (hU : U64 (cs.getD (rowN P T R 0 (placeI P T R x).1) 0)) (h : edecOk (cs.getD (rowN P T R 0 (placeI P T R x).1) 0) = true)
    (hb : begB (cs.getD (rowN P T R 0 (placeI P T R x).1) 0 % 4) (cs.getD (rowN P T R 0 (placeI P T R x).1) 0 / 4 % 16) (placeI P T R x).2 = false) :
    Calls Tryd.prog 42 #[.pointer (some ⟨a, 0, none⟩), .agg #[.int .i64 P, .int .i64 T, .int .i64 R], .int .i64 x] w fun e w' => e = .returned (.tuple #[.int .i64 0, zeroE, .bool false]) ∧ Below w.heap.size w w' := by
  have PL := Lib.hid (fun W => place_any P T R x W)
  have hr : Right P T R := place_right h0
  have hpP := place_lt h0
  obtain ⟨e0, l0, _⟩ := rowN_val (P := P) (T := T) (R := R) 0 hr h0 hpP (by decide)
  obtain ⟨e1, l1, _⟩ := rowN_val (P := P) (T := T) (R := R) 1 hr h0 hpP (by decide)
  have hc := (cellsN_bd hr).2.2
  have EN := Lib.hid (fun W => entry_anyLayc P T R (placeI P T R x).1 W)
  have AN := Lib.hid (fun W => alloc_any P T R (placeI P T R x).1 W)
  rw [e0] at EN
  rw [e1] at AN
  have PE := Lib.hid (fun W (h : Ary W B a c cs n K) => apeek h (i := rowN P T R 0 (placeI P T R x).1) (by omega) (by omega))
  have PA := Lib.hid (fun W (h : Ary W B a c cs n K) => apeek h (i := rowN P T R 1 (placeI P T R x).1) (by omega) (by omega))
  have DE := Lib.hid (fun W => edec_yes _ W hU h)
  clear hU h
  generalize rowN P T R 0 (placeI P T R x).1 = i0 at *
  generalize rowN P T R 1 (placeI P T R x).1 = i1 at *
  generalize cs.getD i0 0 = E at *
  generalize cs.getD i1 0 = A at *
  have wdb := place_bdO P T R x
  have wd0 := place_wd h0
  generalize (placeI P T R x).1 = pg at *
  generalize (placeI P T R x).2 = wd at *
  have h0' : ¬ pg < 0 := by omega
  clear hr hpP e0 l0 e1 l1 hc hl
  have BG := Lib.hid (fun W (h : Wid W) => begins_anyO (E % 4) (E / 4 % 16) (E / 64 % 4) (E / 256 % 16) (E / 65536 % 4294967296) wd W h)
  rw [hb] at BG
  clear hb
  generalize E % 4 = q0 at *
  generalize E / 4 % 16 = q1 at *
  generalize E / 64 % 4 = q2 at *
  generalize E / 256 % 16 = q3 at *
  generalize E / 65536 % 4294967296 = q4 at *
  have hS := HoS.new (P := P) (T := T) (R := R) hA hW
  obtain ⟨a0, a1, a2⟩ := hS.three
  clear hA hW
  unfold zeroE
  go_enter Tryd.func42, Tryd.ntmps42
  go_wp2_with fail
  refine (PL.out _).mono ?_; rintro e w1 ⟨rfl, hb1⟩
  have hS1 := hS.grew hb1
  clear hS hb1 a0 a1 a2
  obtain ⟨a0, a1, a2⟩ := hS1.three
  go_wp2_with fail
  refine (EN.out _).mono ?_; rintro e w2 ⟨rfl, hb2⟩
  have hS2 := hS1.grew hb2
  clear hS1 hb2 a0 a1 a2
  go_wp2_with fail
  refine (PE.out _ hS2.ary).mono ?_; rintro e w3 ⟨rfl, hq3⟩
  have hS3 := hS2.grew hq3.below
  clear hS2 hq3
  go_wp2_with fail
  refine (DE.out _).mono ?_; rintro e w4 ⟨rfl, hb4⟩
  have hS4 := hS3.grew hb4
  clear hS3 hb4
  have hS5 := hS4.grew ((Below.refl w4.heap.size w4).alloc (Nat.le_refl _) (.cells #[.int .i64 q0, .int .i64 q1, .int .i64 q2, .int .i64 q3, .int .i64 q4] 109))
  have hE5 := entNew w4 q0 q1 q2 q3 q4 109
  generalize hx4 : w4.heap.size = x4 at *
  replace hx4 := Lib.hid hx4
  obtain ⟨y0, y1, y2, y3, y4⟩ := five_at hE5
  go_wp2_with fail
  refine (BG.out _ hS5.wid).mono ?_; rintro e w6 ⟨rfl, hb6⟩
  have hS6 := hS5.grew hb6
  obtain ⟨⟨r0, r1, r2, r3, r4⟩, f0, f1, f2, f3, f4⟩ := hS6.five
  go_wp2
  have hZ := (hS6).put 0 0 0 0 0
  generalize World.setCell (World.setCell (World.setCell (World.setCell (World.setCell _ _ _) _ _) _ _) _ _) _ _ = W9 at *
  obtain ⟨hZ, hB9⟩ := hZ
  have z0 := hZ.val 0 rfl
  have z1 := hZ.val 1 rfl
  have z2 := hZ.val 2 rfl
  have z3 := hZ.val 3 rfl
  have z4 := hZ.val 4 rfl
  exact bodyPost_ret (v := .tuple #[.int .i64 0, .agg #[.int .i64 0, .int .i64 0, .int .i64 0, .int .i64 0, .int .i64 0], .bool false]) (by simp [results, Tryd.results42, go_sem, z0, z1, z2, z3, z4]) rfl ⟨rfl, hB9⟩
set_option maxRecDepth 100000 in
set_option maxHeartbeats 4000000 in
theorem holder_bit (P T R x : Int) (hA : Ary w B a c cs n K) (hW : Wid w) (h0 : 0 ≤ (placeI P T R x).1) (hl : cs.length = cellsN P T R) (hU : U64 (cs.getD (rowN P T R 0 (placeI P T R x).1) 0)) (h : edecOk (cs.getD (rowN P T R 0 (placeI P T R x).1) 0) = true)
    (hb : begB (cs.getD (rowN P T R 0 (placeI P T R x).1) 0 % 4) (cs.getD (rowN P T R 0 (placeI P T R x).1) 0 / 4 % 16) (placeI P T R x).2 = true) (hv : bitB (cs.getD (rowN P T R 1 (placeI P T R x).1) 0) (placeI P T R x).2 = false) (hUA : U64 (cs.getD (rowN P T R 1 (placeI P T R x).1) 0)) :
    Calls Tryd.prog 42 #[.pointer (some ⟨a, 0, none⟩), .agg #[.int .i64 P, .int .i64 T, .int .i64 R], .int .i64 x] w fun e w' => e = .returned (.tuple #[.int .i64 0, zeroE, .bool false]) ∧ Below w.heap.size w w' := by
  have PL := Lib.hid (fun W => place_any P T R x W)
  have hr : Right P T R := place_right h0
  have hpP := place_lt h0
  obtain ⟨e0, l0, _⟩ := rowN_val (P := P) (T := T) (R := R) 0 hr h0 hpP (by decide)
  obtain ⟨e1, l1, _⟩ := rowN_val (P := P) (T := T) (R := R) 1 hr h0 hpP (by decide)
  have hc := (cellsN_bd hr).2.2
  have EN := Lib.hid (fun W => entry_anyLayc P T R (placeI P T R x).1 W)
  have AN := Lib.hid (fun W => alloc_any P T R (placeI P T R x).1 W)
  rw [e0] at EN
  rw [e1] at AN
  have PE := Lib.hid (fun W (h : Ary W B a c cs n K) => apeek h (i := rowN P T R 0 (placeI P T R x).1) (by omega) (by omega))
  have PA := Lib.hid (fun W (h : Ary W B a c cs n K) => apeek h (i := rowN P T R 1 (placeI P T R x).1) (by omega) (by omega))
  have DE := Lib.hid (fun W => edec_yes _ W hU h)
  clear hU h
  generalize rowN P T R 0 (placeI P T R x).1 = i0 at *
  generalize rowN P T R 1 (placeI P T R x).1 = i1 at *
  generalize cs.getD i0 0 = E at *
  generalize cs.getD i1 0 = A at *
  have wdb := place_bdO P T R x
  have wd0 := place_wd h0
  generalize (placeI P T R x).1 = pg at *
  generalize (placeI P T R x).2 = wd at *
  have h0' : ¬ pg < 0 := by omega
  clear hr hpP e0 l0 e1 l1 hc hl
  have hbt : (bits .and .u64 (A / 2 ^ wd.toNat) 1 == 0) = true := by simpa [bitB] using hv
  clear hv
  have BG := Lib.hid (fun W (h : Wid W) => begins_anyO (E % 4) (E / 4 % 16) (E / 64 % 4) (E / 256 % 16) (E / 65536 % 4294967296) wd W h)
  rw [hb] at BG
  clear hb
  generalize E % 4 = q0 at *
  generalize E / 4 % 16 = q1 at *
  generalize E / 64 % 4 = q2 at *
  generalize E / 256 % 16 = q3 at *
  generalize E / 65536 % 4294967296 = q4 at *
  have hS := HoS.new (P := P) (T := T) (R := R) hA hW
  obtain ⟨a0, a1, a2⟩ := hS.three
  clear hA hW
  unfold zeroE
  go_enter Tryd.func42, Tryd.ntmps42
  go_wp2_with fail
  refine (PL.out _).mono ?_; rintro e w1 ⟨rfl, hb1⟩
  have hS1 := hS.grew hb1
  clear hS hb1 a0 a1 a2
  obtain ⟨a0, a1, a2⟩ := hS1.three
  go_wp2_with fail
  refine (EN.out _).mono ?_; rintro e w2 ⟨rfl, hb2⟩
  have hS2 := hS1.grew hb2
  clear hS1 hb2 a0 a1 a2
  go_wp2_with fail
  refine (PE.out _ hS2.ary).mono ?_; rintro e w3 ⟨rfl, hq3⟩
  have hS3 := hS2.grew hq3.below
  clear hS2 hq3
  go_wp2_with fail
  refine (DE.out _).mono ?_; rintro e w4 ⟨rfl, hb4⟩
  have hS4 := hS3.grew hb4
  clear hS3 hb4
  have hS5 := hS4.grew ((Below.refl w4.heap.size w4).alloc (Nat.le_refl _) (.cells #[.int .i64 q0, .int .i64 q1, .int .i64 q2, .int .i64 q3, .int .i64 q4] 109))
  have hE5 := entNew w4 q0 q1 q2 q3 q4 109
  generalize hx4 : w4.heap.size = x4 at *
  replace hx4 := Lib.hid hx4
  obtain ⟨y0, y1, y2, y3, y4⟩ := five_at hE5
  go_wp2_with fail
  refine (BG.out _ hS5.wid).mono ?_; rintro e w6 ⟨rfl, hb6⟩
  have hS6 := hS5.grew hb6
  have hE6 := hE5.grew hb6
  clear y0 y1 y2 y3 y4 hS5 hb6
  obtain ⟨a0, a1, a2⟩ := hS6.three
  go_wp2_with fail
  refine (AN.out _).mono ?_; rintro e w7 ⟨rfl, hb7⟩
  have hS7 := hS6.grew hb7
  have hE7 := hE6.grew hb7
  clear hS6 hb7 a0 a1 a2
  go_wp2_with fail
  refine (PA.out _ hS7.ary).mono ?_; rintro e w8 ⟨rfl, hq8⟩
  have hS8 := hS7.grew hq8.below
  have hE8 := hE7.quiet hq8
  clear hS7 hq8
  obtain ⟨⟨r0, r1, r2, r3, r4⟩, f0, f1, f2, f3, f4⟩ := hS8.five
  go_wp2
  have hZ := (hS8).put 0 0 0 0 0
  generalize World.setCell (World.setCell (World.setCell (World.setCell (World.setCell _ _ _) _ _) _ _) _ _) _ _ = W9 at *
  obtain ⟨hZ, hB9⟩ := hZ
  have z0 := hZ.val 0 rfl
  have z1 := hZ.val 1 rfl
  have z2 := hZ.val 2 rfl
  have z3 := hZ.val 3 rfl
  have z4 := hZ.val 4 rfl
  exact bodyPost_ret (v := .tuple #[.int .i64 0, .agg #[.int .i64 0, .int .i64 0, .int .i64 0, .int .i64 0, .int .i64 0], .bool false]) (by simp [results, Tryd.results42, go_sem, z0, z1, z2, z3, z4]) rfl ⟨rfl, hB9⟩
set_option maxRecDepth 100000 in
set_option maxHeartbeats 4000000 in
theorem holder_yes (P T R x : Int) (hA : Ary w B a c cs n K) (hW : Wid w) (h0 : 0 ≤ (placeI P T R x).1) (hl : cs.length = cellsN P T R) (hU : U64 (cs.getD (rowN P T R 0 (placeI P T R x).1) 0)) (h : edecOk (cs.getD (rowN P T R 0 (placeI P T R x).1) 0) = true)
    (hb : begB (cs.getD (rowN P T R 0 (placeI P T R x).1) 0 % 4) (cs.getD (rowN P T R 0 (placeI P T R x).1) 0 / 4 % 16) (placeI P T R x).2 = true) (hv : bitB (cs.getD (rowN P T R 1 (placeI P T R x).1) 0) (placeI P T R x).2 = true) (hUA : U64 (cs.getD (rowN P T R 1 (placeI P T R x).1) 0)) :
    Calls Tryd.prog 42 #[.pointer (some ⟨a, 0, none⟩), .agg #[.int .i64 P, .int .i64 T, .int .i64 R], .int .i64 x] w fun e w' => e = .returned (.tuple #[.int .i64 (placeI P T R x).1, entV (cs.getD (rowN P T R 0 (placeI P T R x).1) 0), .bool true]) ∧ Below w.heap.size w w' := by
  have PL := Lib.hid (fun W => place_any P T R x W)
  have hr : Right P T R := place_right h0
  have hpP := place_lt h0
  obtain ⟨e0, l0, _⟩ := rowN_val (P := P) (T := T) (R := R) 0 hr h0 hpP (by decide)
  obtain ⟨e1, l1, _⟩ := rowN_val (P := P) (T := T) (R := R) 1 hr h0 hpP (by decide)
  have hc := (cellsN_bd hr).2.2
  have EN := Lib.hid (fun W => entry_anyLayc P T R (placeI P T R x).1 W)
  have AN := Lib.hid (fun W => alloc_any P T R (placeI P T R x).1 W)
  rw [e0] at EN
  rw [e1] at AN
  have PE := Lib.hid (fun W (h : Ary W B a c cs n K) => apeek h (i := rowN P T R 0 (placeI P T R x).1) (by omega) (by omega))
  have PA := Lib.hid (fun W (h : Ary W B a c cs n K) => apeek h (i := rowN P T R 1 (placeI P T R x).1) (by omega) (by omega))
  have DE := Lib.hid (fun W => edec_yes _ W hU h)
  clear hU h
  unfold entV
  generalize rowN P T R 0 (placeI P T R x).1 = i0 at *
  generalize rowN P T R 1 (placeI P T R x).1 = i1 at *
  generalize cs.getD i0 0 = E at *
  generalize cs.getD i1 0 = A at *
  have wdb := place_bdO P T R x
  have wd0 := place_wd h0
  generalize (placeI P T R x).1 = pg at *
  generalize (placeI P T R x).2 = wd at *
  have h0' : ¬ pg < 0 := by omega
  clear hr hpP e0 l0 e1 l1 hc hl
  have hbt : (bits .and .u64 (A / 2 ^ wd.toNat) 1 == 0) = false := by simpa [bitB] using hv
  clear hv
  have BG := Lib.hid (fun W (h : Wid W) => begins_anyO (E % 4) (E / 4 % 16) (E / 64 % 4) (E / 256 % 16) (E / 65536 % 4294967296) wd W h)
  rw [hb] at BG
  clear hb
  generalize E % 4 = q0 at *
  generalize E / 4 % 16 = q1 at *
  generalize E / 64 % 4 = q2 at *
  generalize E / 256 % 16 = q3 at *
  generalize E / 65536 % 4294967296 = q4 at *
  have hS := HoS.new (P := P) (T := T) (R := R) hA hW
  obtain ⟨a0, a1, a2⟩ := hS.three
  clear hA hW
  go_enter Tryd.func42, Tryd.ntmps42
  go_wp2_with fail
  refine (PL.out _).mono ?_; rintro e w1 ⟨rfl, hb1⟩
  have hS1 := hS.grew hb1
  clear hS hb1 a0 a1 a2
  obtain ⟨a0, a1, a2⟩ := hS1.three
  go_wp2_with fail
  refine (EN.out _).mono ?_; rintro e w2 ⟨rfl, hb2⟩
  have hS2 := hS1.grew hb2
  clear hS1 hb2 a0 a1 a2
  go_wp2_with fail
  refine (PE.out _ hS2.ary).mono ?_; rintro e w3 ⟨rfl, hq3⟩
  have hS3 := hS2.grew hq3.below
  clear hS2 hq3
  go_wp2_with fail
  refine (DE.out _).mono ?_; rintro e w4 ⟨rfl, hb4⟩
  have hS4 := hS3.grew hb4
  clear hS3 hb4
  have hS5 := hS4.grew ((Below.refl w4.heap.size w4).alloc (Nat.le_refl _) (.cells #[.int .i64 q0, .int .i64 q1, .int .i64 q2, .int .i64 q3, .int .i64 q4] 109))
  have hE5 := entNew w4 q0 q1 q2 q3 q4 109
  have hlt4 : w.heap.size + 1 < w4.heap.size := Blk.lt hS4.res
  obtain ⟨y0, y1, y2, y3, y4⟩ := five_at hE5
  go_wp2_with fail
  refine (BG.out _ hS5.wid).mono ?_; rintro e w6 ⟨rfl, hb6⟩
  have hS6 := hS5.grew hb6
  have hE6 := hE5.grew hb6
  clear y0 y1 y2 y3 y4 hS5 hb6
  obtain ⟨a0, a1, a2⟩ := hS6.three
  go_wp2_with fail
  refine (AN.out _).mono ?_; rintro e w7 ⟨rfl, hb7⟩
  have hS7 := hS6.grew hb7
  have hE7 := hE6.grew hb7
  clear hS6 hb7 a0 a1 a2
  go_wp2_with fail
  refine (PA.out _ hS7.ary).mono ?_; rintro e w8 ⟨rfl, hq8⟩
  have hS8 := hS7.grew hq8.below
  have hE8 := hE7.quiet hq8
  clear hS7 hq8
  obtain ⟨⟨r0, r1, r2, r3, r4⟩, f0, f1, f2, f3, f4⟩ := hS8.five
  have hne : w4.heap.size ≠ w.heap.size + 1 := by omega
  have hE9 := hE8.drew
  have hEA := ((((Blk.other hE8 ⟨w.heap.size + 1, 0, none⟩ (.int .i64 q0) hne).other ⟨w.heap.size + 1, 1, none⟩ (.int .i64 q1) hne).other ⟨w.heap.size + 1, 2, none⟩ (.int .i64 q2) hne).other ⟨w.heap.size + 1, 3, none⟩ (.int .i64 q3) hne).other ⟨w.heap.size + 1, 4, none⟩ (.int .i64 q4) hne
  have hEB := hEA.drew
  have hZ := hS8.put q0 q1 q2 q3 q4
  clear hS8 hne hlt4
  go_upto_region 13 with fail
  go_region_held3 (fun W => W.cell? ⟨w4.heap.size, 0, none⟩ = some (.int .i64 q0) ∧ W.cell? ⟨w4.heap.size, 1, none⟩ = some (.int .i64 q1) ∧ W.cell? ⟨w4.heap.size, 2, none⟩ = some (.int .i64 q2) ∧ W.cell? ⟨w4.heap.size, 3, none⟩ = some (.int .i64 q3) ∧ W.cell? ⟨w4.heap.size, 4, none⟩ = some (.int .i64 q4))
    (first | (with_reducible exact five_at hE9) | (with_reducible exact five_at hEB) | (with_reducible exact five_at hE8))
    (fail)
  clear hE8 hE9 hEA hEB
  generalize World.setCell (World.setCell (World.setCell (World.setCell (World.setCell _ _ _) _ _) _ _) _ _) _ _ = W9 at *
  obtain ⟨hZ, hB9⟩ := hZ
  have z0 := hZ.drew.val 0 rfl
  have z1 := hZ.drew.val 1 rfl
  have z2 := hZ.drew.val 2 rfl
  have z3 := hZ.drew.val 3 rfl
  have z4 := hZ.drew.val 4 rfl
  go_wp2
  exact bodyPost_ret (v := .tuple #[.int .i64 pg, .agg #[.int .i64 q0, .int .i64 q1, .int .i64 q2, .int .i64 q3, .int .i64 q4], .bool true]) (by simp [results, Tryd.results42, go_sem, z0, z1, z2, z3, z4]) rfl ⟨rfl, hB9.drew⟩
end
end Go.Proofs.YtohmnjejchppkaaDoor
/- Package objects: headAt, fits. Conditions: the arena is there; sizes' table lies as the start lays it. -/
namespace Go.Proofs.YtohmnjejchppkaaDoor
open Go.RowKit
set_option linter.unusedVariables false
structure HaS (w : World) (B a c n : Nat) (cs : List Int) (K : List Nat) (W : World) : Prop where
  res : Blk W w.heap.size #[.int .i64 0, .int .i64 0, .int .i64 0] 56
  ary : Ary W B a c cs n K
  bel : Below w.heap.size w W
section
variable {w W W' : World} {P T R : Int} {B a c n : Nat} {cs : List Int} {K : List Nat}
theorem HaS.grew (h : HaS w B a c n cs K W) (hb : Below W.heap.size W W') : HaS w B a c n cs K W' := ⟨h.res.grew hb, h.ary.grew hb, h.bel.trans (hb.mono h.bel.size)⟩
theorem HaS.new (h : Ary w B a c cs n K) : HaS w B a c n cs K (w.alloc (.cells #[.int .i64 0, .int .i64 0, .int .i64 0] 56)) :=
  have hb : Below w.heap.size w (w.alloc (.cells #[.int .i64 0, .int .i64 0, .int .i64 0] 56)) := (Below.refl _ _).alloc (Nat.le_refl _) _
  ⟨Blk.new _ _ _, h.grew hb, hb⟩
theorem HaS.put (h : HaS w B a c n cs K W) (u0 u1 u2 : Int) : Blk (((W.setCell ⟨w.heap.size, 0, none⟩ (.int .i64 u0)).setCell ⟨w.heap.size, 1, none⟩ (.int .i64 u1)).setCell ⟨w.heap.size, 2, none⟩ (.int .i64 u2)) w.heap.size #[.int .i64 u0, .int .i64 u1, .int .i64 u2] 56 ∧ Below w.heap.size w (((W.setCell ⟨w.heap.size, 0, none⟩ (.int .i64 u0)).setCell ⟨w.heap.size, 1, none⟩ (.int .i64 u1)).setCell ⟨w.heap.size, 2, none⟩ (.int .i64 u2)) :=
  ⟨((h.res.set 0 (.int .i64 u0)).set 1 (.int .i64 u1)).set 2 (.int .i64 u2),
   ((h.bel.setCell (p := ⟨w.heap.size, 0, none⟩) (by simp) _).setCell (p := ⟨w.heap.size, 1, none⟩) (by simp) _).setCell (p := ⟨w.heap.size, 2, none⟩) (by simp) _⟩
def hdC (x : Int) : Int := if decOk x then x / 256 % 256 else 0
def hdK (x : Int) : Int := if decOk x then x % 256 else 0
def hdN (x : Int) : Int := if decOk x then x / 65536 % 256 else 0
def hdE (x : Int) : Int := if decOk x then 0 else 4
theorem dec_anyO (x : Int) (w : World) (hx : U64 x) :
    Calls Tryd.prog 59 #[.int .u64 x] w fun e w' => e = .returned (.tuple #[.agg #[.int .i64 (hdC x), .int .i64 (hdK x), .int .i64 (hdN x)], .int .i64 (hdE x)]) ∧ Below w.heap.size w w' := by
  unfold hdC hdK hdN hdE
  cases h : decOk x with
  | true => exact dec_yes x w hx h
  | false => exact dec_no x w hx h
set_option maxRecDepth 100000 in
set_option maxHeartbeats 2000000 in
theorem headAt_any (i : Nat) (hA : Ary w B a c cs n K) (hi : i < cs.length) (hm : cs.length ≤ 1000000) (hU : U64 (cs.getD i 0)) :
    Calls Tryd.prog 43 #[.pointer (some ⟨a, 0, none⟩), .int .i64 (i : Int)] w fun e w' => e = .returned (.tuple #[.agg #[.int .i64 (hdC (cs.getD i 0)), .int .i64 (hdK (cs.getD i 0)), .int .i64 (hdN (cs.getD i 0))], .int .i64 (hdE (cs.getD i 0))]) ∧ Below w.heap.size w w' := by
  have PE := Lib.hid (fun W (h : Ary W B a c cs n K) => apeek h hi hm)
  have DE := Lib.hid (fun W => dec_anyO _ W hU)
  have hS := HaS.new hA
  clear hA hi hm hU
  generalize cs.getD i 0 = E at *
  generalize hdC E = q0 at *
  generalize hdK E = q1 at *
  generalize hdN E = q2 at *
  generalize hdE E = q3 at *
  go_enter Tryd.func43, Tryd.ntmps43
  go_wp2_with fail
  refine (PE.out _ hS.ary).mono ?_; rintro e w1 ⟨rfl, hq1⟩
  have hS1 := hS.grew hq1.below
  clear hS hq1
  go_wp2_with fail
  refine (DE.out _).mono ?_; rintro e w2 ⟨rfl, hb2⟩
  have hS2 := hS1.grew hb2
  obtain ⟨⟨r0, r1, r2⟩, f0, f1, f2⟩ := hS2.res.three
  go_wp2
  have hZ := hS2.put q0 q1 q2
  generalize World.setCell (World.setCell (World.setCell _ _ _) _ _) _ _ = W9 at *
  obtain ⟨hZ, hB9⟩ := hZ
  have z0 := hZ.val 0 rfl
  have z1 := hZ.val 1 rfl
  have z2 := hZ.val 2 rfl
  exact bodyPost_ret (v := .tuple #[.agg #[.int .i64 q0, .int .i64 q1, .int .i64 q2], .int .i64 q3]) (by simp [results, Tryd.results43, go_sem, z0, z1, z2]) rfl ⟨rfl, hB9⟩
end
/-- does an object of m words fit what its page's entry says? -/
def fitsB (P k c pg m : Int) : Bool := if k = 1 then decide (errI c = 0) && decide (m ≤ widI c) else decide (pgE m = 0) && (decide (pgV m = c) && decide (pg + pgV m ≤ P))
structure FtS (w : World) (P T R k c s o y : Int) (W : World) : Prop where
  pl : Blk W w.heap.size #[.int .i64 P, .int .i64 T, .int .i64 R] 54
  en : Blk W (w.heap.size + 1) #[.int .i64 k, .int .i64 c, .int .i64 s, .int .i64 o, .int .i64 y] 109
  wid : Wid W
  bel : Below w.heap.size w W
theorem FtS.new {w : World} (P T R k c s o y : Int) (h : Wid w) : FtS w P T R k c s o y ((w.alloc (.cells #[.int .i64 P, .int .i64 T, .int .i64 R] 54)).alloc (.cells #[.int .i64 k, .int .i64 c, .int .i64 s, .int .i64 o, .int .i64 y] 109)) :=
  have hb : Below w.heap.size w ((w.alloc (.cells #[.int .i64 P, .int .i64 T, .int .i64 R] 54)).alloc (.cells #[.int .i64 k, .int .i64 c, .int .i64 s, .int .i64 o, .int .i64 y] 109)) := ((Below.refl _ _).alloc (Nat.le_refl _) _).alloc (by simp) _
  ⟨(Blk.new _ _ _).alloc _, Blk.new' (by simp), h.grew hb, hb⟩
set_option maxRecDepth 100000 in
set_option maxHeartbeats 2000000 in
theorem fits_anyO (P T R pg k c s o y m : Int) (w : World) (hW : Wid w) (h0 : 0 ≤ pg) (h1 : pg ≤ 31) :
    Calls Tryd.prog 45 #[.agg #[.int .i64 P, .int .i64 T, .int .i64 R], .int .i64 pg, .agg #[.int .i64 k, .int .i64 c, .int .i64 s, .int .i64 o, .int .i64 y], .int .i64 m] w fun e w' => e = .returned (.bool (fitsB P k c pg m)) ∧ Below w.heap.size w w' := by
  have hS := FtS.new P T R k c s o y hW
  have e0 := hS.en.val 0 rfl
  have e1 := hS.en.val 1 rfl
  have p0 := hS.pl.val 0 rfl
  have hB := hS.bel
  have WD := Lib.hid (words_anySz c _ hS.wid)
  have PG := Lib.hid (fun W => pages_any m W)
  obtain ⟨q1, q2⟩ := pg_bdO m
  clear hS hW
  unfold fitsB
  generalize errI c = E at *
  generalize widI c = V at *
  generalize pgE m = F at *
  generalize pgV m = G at *
  by_cases hk : k = 1
  · subst hk
    rw [if_pos rfl]
    by_cases hE : E = 0
    · subst hE
      rw [decide_eq_true rfl, Bool.true_and]
      go_enter Tryd.func45, Tryd.ntmps45
      go_wp2_with fail
      refine WD.out.mono ?_; rintro e w2 ⟨rfl, hw2⟩
      subst hw2
      go_wp2
      go_ret
      exact ⟨rfl, hB⟩
    · have hEb : (E == 0) = false := by simpa using hE
      rw [decide_eq_false hE, Bool.false_and]
      go_enter Tryd.func45, Tryd.ntmps45
      go_wp2_with fail
      refine WD.out.mono ?_; rintro e w2 ⟨rfl, hw2⟩
      subst hw2
      go_wp2
      go_ret
      exact ⟨rfl, hB⟩
  · have hkb : (k == 1) = false := by simpa using hk
    rw [if_neg hk]
    by_cases hF : F = 0
    · subst hF
      rw [decide_eq_true rfl, Bool.true_and]
      by_cases hG : G = c
      · have hGb : (G == c) = true := by simpa using hG
        rw [decide_eq_true hG, Bool.true_and]
        replace hG := Lib.hid hG
        go_enter Tryd.func45, Tryd.ntmps45
        go_wp2_with fail
        refine (PG.out _).mono ?_; rintro e w2 ⟨rfl, rfl⟩
        go_wp2
        go_ret
        exact ⟨rfl, hB⟩
      · have hGb : (G == c) = false := by simpa using hG
        rw [decide_eq_false hG, Bool.false_and]
        replace hG := Lib.hid hG
        go_enter Tryd.func45, Tryd.ntmps45
        go_wp2_with fail
        refine (PG.out _).mono ?_; rintro e w2 ⟨rfl, rfl⟩
        go_wp2
        go_ret
        exact ⟨rfl, hB⟩
    · have hFb : (F == 0) = false := by simpa using hF
      rw [decide_eq_false hF, Bool.false_and]
      go_enter Tryd.func45, Tryd.ntmps45
      go_wp2_with fail
      refine (PG.out _).mono ?_; rintro e w2 ⟨rfl, rfl⟩
      go_wp2
      go_ret
      exact ⟨rfl, hB⟩
end Go.Proofs.YtohmnjejchppkaaDoor
/- Maps from names to their numbers. No condition. -/
namespace Go.Proofs.YtohmnjejchppkaaDoor
open Go.RowKit Go.Maps
set_option linter.unusedVariables false
abbrev Nm := List UInt8
/-- block b is a map that gives each of these names its place -/
def MapN (w : World) (b : Nat) (l : List Nm) : Prop :=
  ∃ D : DataW Unit, w.ownsMap Tryd.prog 9 (plainElem Tryd.prog 3) b l.length D ∧ Maps.size D = l.length ∧ (∀ s : Nm, Maps.has D (.string s) = decide (s ∈ l)) ∧ ∀ s ∈ l, D.atKey (.string s) (.lit (.int .i64 0)) = .lit (.int .i64 (l.idxOf s : Nat))
theorem MapN.lt {w : World} {b : Nat} {l : List Nm} (h : MapN w b l) : b < w.heap.size := by
  obtain ⟨D, h1, _⟩ := h
  exact h1.lt
theorem MapN.of {w w' : World} {b : Nat} {l : List Nm} (h : MapN w b l) (he : w'.heap[b]? = w.heap[b]?) : MapN w' b l := by
  obtain ⟨D, ⟨es, clock, hb, r⟩, h2⟩ := h
  exact ⟨D, ⟨es, clock, he.trans hb, r⟩, h2⟩
theorem MapN.grew {w w' : World} {b : Nat} {l : List Nm} (h : MapN w b l) (hb : Below w.heap.size w w') : MapN w' b l := h.of (hb.block b h.lt)
theorem MapN.touch {R : Nat → Prop} {w w' : World} {b : Nat} {l : List Nm} (h : MapN w b l) (hT : Touch R w w') (hr : ¬ R b) : MapN w' b l := h.of (hT.block b h.lt hr)
theorem MapN.grown {w w' : World} {b : Nat} {l : List Nm} {row : Option Nat} (h : MapN w b l) (hg : w.grownBy w' row) (hr : some b ≠ row) : MapN w' b l := h.of (hg.block b h.lt hr)
theorem MapN.made {w : World} {n : Nat} (hn : n = w.heap.size) : MapN (w.alloc (.map #[] 0)) n [] := by
  subst hn
  exact ⟨.map [], World.ownsMap_made _ _ _ _, rfl, fun s => by simp [has_eq], fun s h => by cases h⟩
theorem lawS : Keyed Tryd.prog 9 := Go.Maps.string_keyed Tryd.underlying9
theorem keyS {s : ByteArray} (h : s.size ≤ maxLen) : keyOf Tryd.prog 9 (.string s) = some (.string s.data.toList) := Go.WideMaps.keyOf_string_mk Tryd.underlying9 h
theorem idx_app {l : List Nm} {s k : Nm} (h : k ∈ l) : (l ++ [s]).idxOf k = l.idxOf k := by rw [List.idxOf_append, if_pos h]
theorem idx_new {l : List Nm} {s : Nm} (h : s ∉ l) : (l ++ [s]).idxOf s = l.length := by rw [List.idxOf_append, if_neg h]; simp
/-- what a store of the next number makes of it -/
theorem mapN_put {D : DataW Unit} {l : List Nm} {s : Nm} (hI : Maps.IsMap D) (hT : Maps.Tidy D) (h2 : Maps.size D = l.length) (h3 : ∀ k : Nm, Maps.has D (.string k) = decide (k ∈ l)) (h4 : ∀ k ∈ l, D.atKey (.string k) (.lit (.int .i64 0)) = .lit (.int .i64 (l.idxOf k : Nat))) (hs : s ∉ l) :
    Maps.size (D.put (.string s) (.lit (.int .i64 (l.length : Nat)))) = (l ++ [s]).length ∧ (∀ k : Nm, Maps.has (D.put (.string s) (.lit (.int .i64 (l.length : Nat)))) (.string k) = decide (k ∈ l ++ [s])) ∧ ∀ k ∈ l ++ [s], (D.put (.string s) (.lit (.int .i64 (l.length : Nat)))).atKey (.string k) (.lit (.int .i64 0)) = .lit (.int .i64 ((l ++ [s]).idxOf k : Nat)) := by
  have hk : WideAt.IsKeyLit (.string s) := trivial
  refine ⟨?_, fun k => ?_, fun k hm => ?_⟩
  · rw [size_put hT, h3, h2]
    simp [hs]
  · by_cases e : k = s
    · subst e
      rw [has_put_same hI hk]
      simp
    · rw [has_put_other (by simpa using e), h3]
      simp [e]
  · by_cases e : k = s
    · subst e
      rw [atKey_put_same hI hk, idx_new hs]
    · have hm' : k ∈ l := by simpa [e] using hm
      rw [atKey_put_other (by simpa using e), h4 k hm', idx_app hm']
end Go.Proofs.YtohmnjejchppkaaDoor
/- What classes may be, as plain functions. No condition. -/
namespace Go.Proofs.YtohmnjejchppkaaDoor
open Go.RowKit
set_option linter.unusedVariables false
def letrI (x : Int) : Bool := (decide (97 ≤ x) && decide (x ≤ 122)) || (decide (65 ≤ x) && decide (x ≤ 90))
def laterI (x : Int) : Bool := (decide (48 ≤ x) && decide (x ≤ 57)) || decide (x = 95)
/-- may this byte stand at this place of a name? -/
def chB (i : Nat) (x : UInt8) : Bool := letrI (x.toNat : Int) || (decide (0 < i) && laterI (x.toNat : Int))
def nameB (s : Nm) : Bool := decide (1 ≤ s.length) && (decide (s.length ≤ 16) && decide (∀ i (h : i < s.length), chB i s[i] = true))
abbrev nmB (s : ByteArray) : Nm := s.data.toList
def fldsE (seen : List Nm) : List FldD → Int
  | [] => 0
  | f :: r => if nameB (nmB f.name) = false then 20 else if nmB f.name ∈ seen then 41 else if f.ty ≠ 1 ∧ f.ty ≠ 2 then 32 else fldsE (seen ++ [nmB f.name]) r
def clsE (seen : List Nm) (c : ClsD) : Int := if nameB (nmB c.name) = false then 20 else if nmB c.name ∈ seen then 41 else if 15 < c.fields.length then 3 else fldsE [] c.fields
def newE (i : Nat) (seen : List Nm) : List ClsD → Nat × Int
  | [] => (0, 0)
  | c :: r => if clsE seen c = 0 then newE (i + 1) (seen ++ [nmB c.name]) r else (i, clsE seen c)
def tabE (l : List ClsD) : Nat × Int := if 16 < l.length then (0, 3) else newE 0 [] l
def fnames (l : List FldD) : List Nm := l.map fun f => nmB f.name
def cnames (l : List ClsD) : List Nm := l.map fun c => nmB c.name
theorem fldsE_app (r : List FldD) : ∀ (l : List FldD) (seen : List Nm), fldsE seen l = 0 → fldsE seen (l ++ r) = fldsE (seen ++ fnames l) r
  | [], seen, _ => by simp [fnames]
  | f :: l, seen, h => by
    rw [fldsE] at h
    rw [List.cons_append, fldsE]
    split at h
    · cases h
    · split at h
      · cases h
      · split at h
        · cases h
        · rw [if_neg (by assumption), if_neg (by assumption), if_neg (by assumption), fldsE_app r l _ h]
          simp [fnames]
theorem newE_app (r : List ClsD) : ∀ (l : List ClsD) (i : Nat) (seen : List Nm), (newE i seen l).2 = 0 → newE i seen (l ++ r) = newE (i + l.length) (seen ++ cnames l) r
  | [], i, seen, _ => by simp [cnames]
  | c :: l, i, seen, h => by
    rw [newE] at h
    rw [List.cons_append, newE]
    by_cases e : clsE seen c = 0
    · rw [if_pos e] at h ⊢
      rw [newE_app r l _ _ h, List.length_cons, show i + 1 + l.length = i + (l.length + 1) by omega]
      simp [cnames]
    · rw [if_neg e] at h
      exact absurd h e
theorem fldsE_bad {seen : List Nm} {l : List FldD} {k : Nat} (hk : k < l.length) (h0 : fldsE seen (l.take k) = 0) {x : Int} (hx : fldsE (seen ++ fnames (l.take k)) [l[k]] = x) (hne : x ≠ 0) : fldsE seen l = x := by
  have e : l = l.take k ++ (l[k] :: l.drop (k + 1)) := by rw [List.getElem_cons_drop, List.take_append_drop]
  rw [e, fldsE_app _ _ _ h0]
  rw [fldsE] at hx ⊢
  split at hx
  · rw [if_pos (by assumption)]; exact hx
  · rw [if_neg (by assumption)]
    split at hx
    · rw [if_pos (by assumption)]; exact hx
    · rw [if_neg (by assumption)]
      split at hx
      · rw [if_pos (by assumption)]; exact hx
      · rw [fldsE] at hx; exact absurd hx.symm hne
theorem fldsE_next {seen : List Nm} {l : List FldD} {k : Nat} (hk : k < l.length) (h0 : fldsE seen (l.take k) = 0) (h1 : nameB (nmB l[k].name) = true) (h2 : ¬ nmB l[k].name ∈ seen ++ fnames (l.take k)) (h3 : l[k].ty = 1 ∨ l[k].ty = 2) : fldsE seen (l.take (k + 1)) = 0 := by
  rw [List.take_add_one, List.getElem?_eq_getElem hk, fldsE_app _ _ _ h0]
  simp only [Option.toList_some]
  rw [fldsE, if_neg (by simp [h1]), if_neg h2, if_neg (by omega), fldsE]
theorem newE_bad {l : List ClsD} {k : Nat} (hk : k < l.length) (h0 : (newE 0 [] (l.take k)).2 = 0) {x : Int} (hx : clsE (cnames (l.take k)) l[k] = x) (hne : x ≠ 0) : newE 0 [] l = (k, x) := by
  have e : l = l.take k ++ (l[k] :: l.drop (k + 1)) := by rw [List.getElem_cons_drop, List.take_append_drop]
  have e2 := newE_app (l[k] :: l.drop (k + 1)) (l.take k) 0 [] h0
  rw [← e] at e2
  rw [e2, newE, List.nil_append, if_neg (by rw [hx]; exact hne), hx, List.length_take]
  simp; omega
theorem newE_next {l : List ClsD} {k : Nat} (hk : k < l.length) (h0 : (newE 0 [] (l.take k)).2 = 0) (hx : clsE (cnames (l.take k)) l[k] = 0) : (newE 0 [] (l.take (k + 1))).2 = 0 := by
  rw [List.take_add_one, List.getElem?_eq_getElem hk, newE_app _ _ _ _ h0]
  simp only [Option.toList_some]
  rw [newE, List.nil_append, if_pos hx, newE]
end Go.Proofs.YtohmnjejchppkaaDoor
/- IsName, enter. Condition: the map is there. -/
namespace Go.Proofs.YtohmnjejchppkaaDoor
open Go.RowKit
set_option linter.unusedVariables false
theorem ret_b {a b : Bool} (h : a = b) : Ending.returned (Value.bool b) = Ending.returned (Value.bool a) := by rw [h]
theorem isletter_any (x : Int) (w : World) :
    Calls Tryd.prog 81 #[.int .u8 x] w fun e w' => e = .returned (.bool (letrI x)) ∧ w' = w := by
  unfold letrI
  by_cases h1 : 97 ≤ x <;> by_cases h2 : x ≤ 122 <;> by_cases h3 : 65 ≤ x <;> by_cases h4 : x ≤ 90 <;> try omega
  all_goals
    go_enter Tryd.func81, Tryd.ntmps81
    go_wp2
    go_ret
    exact ⟨by simp [h1, h2, h3, h4], rfl⟩
theorem islater_any (x : Int) (w : World) :
    Calls Tryd.prog 82 #[.int .u8 x] w fun e w' => e = .returned (.bool (laterI x)) ∧ w' = w := by
  unfold laterI
  by_cases h1 : 48 ≤ x <;> by_cases h2 : x ≤ 57 <;> by_cases h3 : x = 95 <;> try omega
  all_goals
    go_enter Tryd.func82, Tryd.ntmps82
    go_wp2
    go_ret
    exact ⟨by first | (simp [h1, h2, h3]; done) | (rw [beq_eq_false_iff_ne.2 h3]; simp; omega), rfl⟩
set_option maxRecDepth 100000 in
set_option maxHeartbeats 2000000 in
theorem isname_any (s : ByteArray) (w : World) :
    Calls Tryd.prog 67 #[.string s] w fun e w' => e = .returned (.bool (nameB s.data.toList)) ∧ w' = w := by
  have hl : s.data.toList.length = s.size := by simp
  have hd : ∀ i (h : i < s.data.toList.length), s.data.toList[i] = s[i]'(by omega) := fun i h => by simp; rfl
  by_cases h1 : s.size < 1
  · have h1' : (s.size : Int) < 1 := by omega
    have HB : Hid (nameB s.data.toList = false) := by
      unfold Hid nameB
      rw [decide_eq_false (p := 1 ≤ s.data.toList.length) (by omega)]
      rfl
    clear hl hd
    go_enter Tryd.func67, Tryd.ntmps67
    go_wp2
    go_ret
    exact ⟨ret_b HB.out, rfl⟩
  have h1' : ¬ (s.size : Int) < 1 := by omega
  by_cases h2 : 16 < s.size
  · have h2' : (16 : Int) < (s.size : Int) := by omega
    have HB : Hid (nameB s.data.toList = false) := by
      unfold Hid nameB
      rw [decide_eq_true (p := 1 ≤ s.data.toList.length) (by omega), decide_eq_false (p := s.data.toList.length ≤ 16) (by omega)]
      rfl
    clear hl hd
    go_enter Tryd.func67, Tryd.ntmps67
    go_wp2
    go_ret
    exact ⟨ret_b HB.out, rfl⟩
  have h2' : ¬ (16 : Int) < (s.size : Int) := by omega
  have HB : Hid (nameB s.data.toList = decide (∀ i (h : i < s.size), chB i s[i] = true)) := by
    unfold Hid nameB
    rw [decide_eq_true (p := 1 ≤ s.data.toList.length) (by omega), decide_eq_true (p := s.data.toList.length ≤ 16) (by omega), Bool.true_and, Bool.true_and]
    refine decide_eq_decide.2 ?_
    exact ⟨fun q i h => by have := q i (by omega); rwa [hd] at this, fun q i h => by rw [hd]; exact q i (by omega)⟩
  clear hl hd
  go_enter Tryd.func67, Tryd.ntmps67
  go_wp2
  go_loop [14] (fun x => ∃ i : Nat, i ≤ s.size ∧ x = .int .i64 i ∧ ∀ j (h : j < s.size), j < i → chB j s[j] = true) (fun x => s.size - (intOf x).toNat)
  case atStart => exact ⟨0, by omega, rfl, fun j _ h => absurd h (by omega)⟩
  case round =>
    obtain ⟨i, hi, rfl, hj⟩ := hrel
    have HJ := Lib.hid hj
    clear hj
    by_cases hlt : i < s.size
    · have hlt' : (i : Int) < (s.size : Int) := by omega
      have i1 : (0 : Int) ≤ (i : Int) ∧ (i : Int) < (s.size : Int) := ⟨by omega, by omega⟩
      have HC : Hid (∀ (h : i < s.size), chB i s[i] = (letrI ((s[i]'hlt).toNat : Int) || (decide (0 < i) && laterI ((s[i]'hlt).toNat : Int)))) := fun _ => rfl
      have HT : Hid (chB i s[i] = true → ∀ j (h : j < s.size), j < i + 1 → chB j s[j] = true) := fun hc j h hj => by
        rcases Nat.lt_or_ge j i with q | q
        · exact HJ.out j h q
        · obtain rfl : j = i := by omega
          exact hc
      have HF : Hid (chB i s[i] = false → nameB s.data.toList = false) := fun hc => by
        rw [HB.out]
        simp only [decide_eq_false_iff_not]
        intro q
        have := q i hlt
        rw [hc] at this
        cases this
      have HE := Lib.hid (HC.out hlt)
      clear HC
      by_cases hb : letrI ((s[i]'hlt).toNat : Int) = true
      · have HX := Lib.hid (HT.out (by rw [HE.out, hb]; rfl))
        go_wp2_with (first | (go_at_call 81; refine (isletter_any _ _).mono ?_; rintro e w' ⟨rfl, rfl⟩) | (go_at_call 82; refine (islater_any _ _).mono ?_; rintro e w' ⟨rfl, rfl⟩))
        go_round
        case rel => exact ⟨i + 1, by omega, by go_num, HX.out⟩
        case measure => simp [intOf]; omega
      · have hb : letrI ((s[i]'hlt).toNat : Int) = false := by simpa using hb
        by_cases h0 : i = 0
        · have h0' : ((i : Int) == 0) = true := by simp [h0]
          have HX := Lib.hid (HF.out (by rw [HE.out, hb]; simp [h0]))
          clear h0
          go_wp2_with (first | (go_at_call 81; refine (isletter_any _ _).mono ?_; rintro e w' ⟨rfl, rfl⟩) | (go_at_call 82; refine (islater_any _ _).mono ?_; rintro e w' ⟨rfl, rfl⟩))
          go_ret
          exact ⟨ret_b HX.out, rfl⟩
        · have h0' : ((i : Int) == 0) = false := by simp [h0]
          by_cases hd : laterI ((s[i]'hlt).toNat : Int) = true
          · have HX := Lib.hid (HT.out (by rw [HE.out, hb, hd]; simp; omega))
            go_wp2_with (first | (go_at_call 81; refine (isletter_any _ _).mono ?_; rintro e w' ⟨rfl, rfl⟩) | (go_at_call 82; refine (islater_any _ _).mono ?_; rintro e w' ⟨rfl, rfl⟩))
            go_round
            case rel => exact ⟨i + 1, by omega, by go_num, HX.out⟩
            case measure => simp [intOf]; omega
          · have hd : laterI ((s[i]'hlt).toNat : Int) = false := by simpa using hd
            have HX := Lib.hid (HF.out (by rw [HE.out, hb, hd]; simp))
            clear h0
            go_wp2_with (first | (go_at_call 81; refine (isletter_any _ _).mono ?_; rintro e w' ⟨rfl, rfl⟩) | (go_at_call 82; refine (islater_any _ _).mono ?_; rintro e w' ⟨rfl, rfl⟩))
            go_ret
            exact ⟨ret_b HX.out, rfl⟩
    · have hlt' : ¬ (i : Int) < (s.size : Int) := by omega
      have HG : Hid (nameB s.data.toList = true) := by
        unfold Hid
        rw [HB.out]
        simp only [decide_eq_true_eq]
        exact fun j h => HJ.out j h (by omega)
      go_wp2
      go_ret
      exact ⟨ret_b HG.out, rfl⟩
set_option maxRecDepth 100000 in
set_option maxHeartbeats 2000000 in
/-- a name is given the next number, if it is one and has none -/
def entE (l : List Nm) (s : ByteArray) : Int := if nameB (nmB s) = false then 20 else if nmB s ∈ l then 41 else 0
theorem enter_bad (s : ByteArray) (mv : Value) (w : World) (h : nameB (nmB s) = false) :
    Calls Tryd.prog 53 #[mv, .string s] w fun e w' => e = .returned (.int .i64 20) ∧ w' = w := by
  go_enter Tryd.func53, Tryd.ntmps53
  go_wp2_with (go_at_call 67; refine (isname_any _ _).mono ?_; rintro e w' ⟨rfl, rfl⟩)
  go_ret
  exact ⟨rfl, rfl⟩
set_option maxRecDepth 100000 in
set_option maxHeartbeats 2000000 in
theorem enter_old (s : ByteArray) (b : Nat) (l : List Nm) (w : World) (hM : MapN w b l) (h : nameB (nmB s) = true) (hs : nmB s ∈ l) (hz : s.size ≤ maxLen) :
    Calls Tryd.prog 53 #[.map (some b), .string s] w fun e w' => e = .returned (.int .i64 41) ∧ w' = w := by
  obtain ⟨D, h1, h2, h3, h4⟩ := hM
  have hh : Maps.has D (.string s.data.toList) = true := by rw [h3]; simpa using hs
  have ZI := Lib.hid (fun W : World => (show (zeroValue 3).run Tryd.prog W = .ok (.int .i64 0) W from by kernel_rfl))
  have HM := Lib.hid h1
  clear h1 h2 h3 h4 hs
  go_enter Tryd.func53, Tryd.ntmps53
  go_wp2_with (first | (go_at_call 67; refine (isname_any _ _).mono ?_; rintro e w' ⟨rfl, rfl⟩) | (at_lookup; refine wpList_lookup_own_ok_int _ rfl _ _ 98 rfl 9 3 .i64 lawS Tryd.underlying98 Tryd.underlying3 (ZI.out _) b l.length D rfl HM.out _ _ rfl (keyS hz) ?_; intro c hat hwc; clear hat hwc))
  go_ret
  exact ⟨rfl, rfl⟩
set_option maxRecDepth 100000 in
set_option maxHeartbeats 2000000 in
theorem enter_new (s : ByteArray) (b : Nat) (l : List Nm) (w : World) (hM : MapN w b l) (h : nameB (nmB s) = true) (hs : ¬ nmB s ∈ l) (hz : s.size ≤ maxLen) (hl : l.length ≤ 1000) :
    Calls Tryd.prog 53 #[.map (some b), .string s] w fun e w' => e = .returned (.int .i64 0) ∧ MapN w' b (l ++ [nmB s]) ∧ w.grownBy w' (some b) := by
  obtain ⟨D, h1, h2, h3, h4⟩ := hM
  have hh : Maps.has D (.string s.data.toList) = false := by rw [h3]; simpa using hs
  have ZI := Lib.hid (fun W : World => (show (zeroValue 3).run Tryd.prog W = .ok (.int .i64 0) W from by kernel_rfl))
  have HP := Lib.hid (mapN_put h1.isMap (h1.tidy lawS) h2 h3 h4 hs)
  have HM := Lib.hid h1
  have HL := Lib.hid h2
  clear h1 h2 h3 h4 hs
  go_enter Tryd.func53, Tryd.ntmps53
  go_wp2_with (first | (go_at_call 67; refine (isname_any _ _).mono ?_; rintro e w' ⟨rfl, rfl⟩) | (at_lookup; refine wpList_lookup_own_ok_int _ rfl _ _ 98 rfl 9 3 .i64 lawS Tryd.underlying98 Tryd.underlying3 (ZI.out _) b l.length D rfl HM.out _ _ rfl (keyS hz) ?_; intro c hat hwc; clear hat hwc) | (at_len; refine wpList_len_own _ rfl _ 98 rfl 9 3 Tryd.underlying98 _ b l.length D rfl HM.out ?_) | (at_mapUpdate; refine wpList_mapUpdate_own _ rfl _ _ _ 98 rfl 9 3 lawS Tryd.underlying98 _ b l.length D rfl HM.out (by unfold maxLen; omega) _ _ (.string s.data.toList) rfl rfl (keyS hz) (.lit (.int .i64 (Maps.size D))) [] (plainElem_int Tryd.underlying3 (by rw [HL.out]; simp [Lit.wf, IntKind.min, IntKind.max, IntKind.signed, IntKind.bits]; omega)) ?_; intro w1 hown hgrow))
  go_ret
  rw [HL.out] at hown
  exact ⟨rfl, ⟨_, by simpa using hown, HP.out.1, HP.out.2.1, HP.out.2.2⟩, hgrow⟩
theorem name_len {s : ByteArray} (h : nameB (nmB s) = true) : s.size ≤ 16 := by
  unfold nameB at h
  simp only [Bool.and_eq_true, decide_eq_true_eq] at h
  have := h.2.1
  simpa using this
/-- what a name does to a map of names -/
def entL (l : List Nm) (s : ByteArray) : List Nm := if entE l s = 0 then l ++ [nmB s] else l
theorem enter_any (s : ByteArray) (b : Nat) (l : List Nm) (w : World) (hM : MapN w b l) (hl : l.length ≤ 1000) :
    Calls Tryd.prog 53 #[.map (some b), .string s] w fun e w' => e = .returned (.int .i64 (entE l s)) ∧ MapN w' b (entL l s) ∧ w.grownBy w' (some b) := by
  have hr : w.grownBy w (some b) := ⟨rfl, rfl, rfl, Nat.le_refl _, fun _ _ _ => rfl⟩
  unfold entL entE
  by_cases h1 : nameB (nmB s) = false
  · rw [if_pos h1, if_neg (by decide)]
    exact (enter_bad s _ w h1).mono fun e w' ⟨he, hw⟩ => ⟨he, hw ▸ hM, hw ▸ hr⟩
  · have h1' : nameB (nmB s) = true := by simpa using h1
    have hz : s.size ≤ maxLen := by have := name_len h1'; unfold maxLen; omega
    rw [if_neg h1]
    by_cases h2 : nmB s ∈ l
    · rw [if_pos h2, if_neg (by decide)]
      exact (enter_old s b l w hM h1' h2 hz).mono fun e w' ⟨he, hw⟩ => ⟨he, hw ▸ hM, hw ▸ hr⟩
    · rw [if_neg h2, if_pos rfl]
      exact enter_new s b l w hM h1' h2 hz hl
end Go.Proofs.YtohmnjejchppkaaDoor
