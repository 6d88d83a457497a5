/- Texts of this seat, one behind the other: each says at its head what it holds. No condition of its own. -/
import Derived.BigQuiet
import Derived.Deep.QuietTactic
import Derived.BigGuard
import Derived.Test.YtpoddnfooaddgaaGreatDoorGObjectsLooks01
import Derived.Test.YtpoddnfooaddgaaGreatDoorGObjectsLooks22
import Derived.Test.YtpoddnfooaddgaaGreatDoorGObjectsLooks23
import Derived.Test.YtpoddnfooaddgaaGreatDoorGObjectsLooks25
/- objects: the program's 'fits' and the document's 'room' are one, where the entry and the header are valid. -/
namespace Go.Proofs.YtpoddnfooaddgaaGreatDoor
open Go.RowKit
set_option linter.unusedVariables false
theorem fits_room {P k c pg m : Int} (hk : k = 1 ∨ k = 2) (he : k = 1 → errI c = 0) (hm : 1 ≤ m ∧ m ≤ 256) : fitsB P k c pg m = roomB P k c pg m := by
  unfold fitsB roomB
  rcases hk with rfl | rfl
  · rw [if_pos rfl, if_neg (by decide), he rfl]; rfl
  · have hp : pgE m = 0 := by unfold pgE; rw [if_neg (by omega), if_neg (by omega)]
    rw [if_neg (by decide), if_pos rfl, hp]
    have hb : (pgV m == c) = decide (pgV m = c) := by by_cases h : pgV m = c <;> simp [h]
    rw [hb]; simp
theorem head_words {x : Int} (hx : U64 x) (h : hdE x = 0) : 1 ≤ wordsV (hdC x) (hdK x) (hdN x) ∧ wordsV (hdC x) (hdK x) (hdN x) ≤ 256 := by
  have hd : decOk x = true := by
    unfold hdE at h
    cases e : decOk x with
    | true => rfl
    | false => rw [e] at h; simp at h
  unfold hdC hdK hdN wordsV
  rw [hd]
  simp only [if_true]
  have hh : headB (x / 256 % 256) (x % 256) (x / 65536 % 256) = true := by unfold decOk at hd; rw [Bool.and_eq_true] at hd; exact hd.1
  rw [if_pos hh]
  omega
theorem ent_err {E : Int} (h : edecOk E = true) (hk : E % 4 = 1) : errI (E / 4 % 16) = 0 := by
  unfold edecOk at h
  rw [Bool.and_eq_true] at h
  have h1 := h.1
  unfold entB at h1
  rw [hk] at h1
  simp [kindBEnt, inB] at h1
  unfold errI clsB
  rw [decide_eq_true (by omega)]
  rfl
theorem beg_kind {k c wd : Int} (h : begB k c wd = true) : k = 1 ∨ k = 2 := by
  unfold begB at h
  by_cases h1 : k = 1
  · exact .inl h1
  · by_cases h2 : k = 2
    · exact .inr h2
    · rw [if_neg h1, if_neg h2] at h; cases h
end Go.Proofs.YtpoddnfooaddgaaGreatDoor
/- Package objects: Look's errors. Conditions: the arena is there, with as many cells as the plan says; the table is there; sizes' table lies as the start lays it. -/
namespace Go.Proofs.YtpoddnfooaddgaaGreatDoor
open Go.RowKit
set_option linter.unusedVariables false
section
variable {w W W' : World} {P T R : Int} {B a c n : Nat} {cs : List Int} {K : List Nat} {lo t m : Nat} {tv : Value} {L : List (ClsD × Value × Nat)}
theorem holder_no (x : Int) (hA : Ary w B a c cs n K) (hW : Wid w) (hl : 0 ≤ (placeI P T R x).1 → cs.length = cellsN P T R) (hU : ∀ z ∈ cs, U64 z) (h : holdB P T R cs x = false) :
    Calls Tryz.prog 60 #[.pointer (some ⟨a, 0, none⟩), .agg #[.int .i64 P, .int .i64 T, .int .i64 R], .int .i64 x] w fun e w' => e = .returned (.tuple #[.int .i64 0, zeroE, .bool false]) ∧ Below w.heap.size w w' := by
  by_cases h0 : 0 ≤ (placeI P T R x).1
  · have hl := hl h0
    cases h1 : edecOk (cs.getD (rowN P T R 0 (placeI P T R x).1) 0) with
    | false => exact holder_ent P T R x hA hW h0 hl (getD_U hU _) h1
    | true =>
      cases h2 : begB (cs.getD (rowN P T R 0 (placeI P T R x).1) 0 % 4) (cs.getD (rowN P T R 0 (placeI P T R x).1) 0 / 4 % 16) (placeI P T R x).2 with
      | false => exact holder_beg P T R x hA hW h0 hl (getD_U hU _) h1 h2
      | true =>
        cases h3 : bitB (cs.getD (rowN P T R 1 (placeI P T R x).1) 0) (placeI P T R x).2 with
        | false => exact holder_bit P T R x hA hW h0 hl (getD_U hU _) h1 h2 h3 (getD_U hU _)
        | true =>
          unfold holdB at h
          rw [h1, h2, h3, decide_eq_true h0] at h
          cases h
  · exact holder_none P T R x hA hW (by omega)
def lkP (w : World) (W : World) (v0 v1 v2 v3 : Value) : World := (((W.setCell ⟨w.heap.size + 1, 0, none⟩ v0).setCell ⟨w.heap.size + 1, 1, none⟩ v1).setCell ⟨w.heap.size + 1, 2, none⟩ v2).setCell ⟨w.heap.size + 1, 3, none⟩ v3
theorem LkS.put (h : LkS w P T R B a c n cs K lo t m tv L W) (v0 v1 v2 v3 : Value) :
    Blk ((((W.setCell ⟨w.heap.size + 1, 0, none⟩ v0).setCell ⟨w.heap.size + 1, 1, none⟩ v1).setCell ⟨w.heap.size + 1, 2, none⟩ v2).setCell ⟨w.heap.size + 1, 3, none⟩ v3) (w.heap.size + 1) #[v0, v1, v2, v3] 80 ∧
    Below w.heap.size w ((((W.setCell ⟨w.heap.size + 1, 0, none⟩ v0).setCell ⟨w.heap.size + 1, 1, none⟩ v1).setCell ⟨w.heap.size + 1, 2, none⟩ v2).setCell ⟨w.heap.size + 1, 3, none⟩ v3) :=
  ⟨(((h.res.set 0 v0).set 1 v1).set 2 v2).set 3 v3, (((h.bel.setCell (p := ⟨w.heap.size + 1, 0, none⟩) (by simp) _).setCell (p := ⟨w.heap.size + 1, 1, none⟩) (by simp) _).setCell (p := ⟨w.heap.size + 1, 2, none⟩) (by simp) _).setCell (p := ⟨w.heap.size + 1, 3, none⟩) (by simp) _⟩
theorem LkS.rest (h : LkS w P T R B a c n cs K lo t m tv L W) : (W.cell? ⟨w.heap.size + 1, 0, none⟩ = some (.int .i64 0) ∧ W.cell? ⟨w.heap.size + 1, 1, none⟩ = some (.int .i64 0) ∧ W.cell? ⟨w.heap.size + 1, 2, none⟩ = some (.int .i64 0) ∧ W.cell? ⟨w.heap.size + 1, 3, none⟩ = some (.slice none 0 0)) ∧
    (W.frozen? ⟨w.heap.size + 1, 0, none⟩ = false ∧ W.frozen? ⟨w.heap.size + 1, 1, none⟩ = false ∧ W.frozen? ⟨w.heap.size + 1, 2, none⟩ = false ∧ W.frozen? ⟨w.heap.size + 1, 3, none⟩ = false) :=
  ⟨⟨h.res.val 0 rfl, h.res.val 1 rfl, h.res.val 2 rfl, h.res.val 3 rfl⟩, h.res.frozen 0, h.res.frozen 1, h.res.frozen 2, h.res.frozen 3⟩
def LkNo (n : Int) (w : World) (e : Ending) (w' : World) : Prop := e = .returned (.tuple #[.agg #[.int .i64 0, .int .i64 0, .int .i64 0, .slice none 0 0], .int .i64 n]) ∧ Below w.heap.size w w'
set_option maxRecDepth 100000 in
set_option maxHeartbeats 8000000 in
theorem look_addr (x : Int) (hA : Ary w B a c cs n K) (hW : Wid w) (hT : TabS w lo t tv m L) (hl : 0 ≤ (placeI P T R x).1 → cs.length = cellsN P T R) (hU : ∀ z ∈ cs, U64 z) (h : holdB P T R cs x = false) :
    Calls Tryz.prog 28 #[.pointer (some ⟨a, 0, none⟩), .agg #[.int .i64 P, .int .i64 T, .int .i64 R], .pointer (some ⟨t, 0, none⟩), .int .i64 x] w (LkNo 5 w) := by
  have HO := Lib.hid (fun W (hA : Ary W B a c cs n K) (hW : Wid W) => holder_no (P := P) (T := T) (R := R) x hA hW hl hU h)
  unfold zeroE at HO
  have hS := LkS.new (P := P) (T := T) (R := R) hA hW hT
  clear hA hW hT hl hU h
  unfold LkNo
  obtain ⟨a0, a1, a2⟩ := hS.pl.three.1
  go_enter Tryz.func28, Tryz.ntmps28
  go_wp2_with fail
  refine (HO.out _ hS.ary hS.wid).mono ?_; rintro e w1 ⟨rfl, hb1⟩
  have hS1 := hS.grew hb1
  clear hS hb1 a0 a1 a2 HO
  have hS2 := hS1.alloc (.cells #[.int .i64 0, .int .i64 0, .int .i64 0, .int .i64 0, .int .i64 0] 143)
  clear hS1
  go_upto_region 3 with fail
  generalize w1.alloc (.cells #[.int .i64 0, .int .i64 0, .int .i64 0, .int .i64 0, .int .i64 0] 143) = w2 at *
  obtain ⟨⟨r0, r1, r2, r3⟩, f0, f1, f2, f3⟩ := hS2.rest
  have HF := Lib.hid (hS2.put (.int .i64 0) (.int .i64 0) (.int .i64 0) (.slice none 0 0))
  go_wp2
  generalize World.setCell (World.setCell (World.setCell (World.setCell _ _ _) _ _) _ _) _ _ = W9 at *
  obtain ⟨hZ, hB9⟩ := HF.out
  have z0 := hZ.val 0 rfl
  have z1 := hZ.val 1 rfl
  have z2 := hZ.val 2 rfl
  have z3 := hZ.val 3 rfl
  exact bodyPost_ret (v := .tuple #[.agg #[.int .i64 0, .int .i64 0, .int .i64 0, .slice none 0 0], .int .i64 5]) (by simp [results, Tryz.results28, go_sem, z0, z1, z2, z3]) rfl ⟨rfl, hB9⟩
set_option maxRecDepth 100000 in
set_option maxHeartbeats 8000000 in
theorem look_head (x : Nat) (hA : Ary w B a c cs n K) (hW : Wid w) (hT : TabS w lo t tv m L) (hl : cs.length = cellsN P T R) (hU : ∀ z ∈ cs, U64 z) (hx : x < cs.length)
    (h1 : holdB P T R cs x = true) (h2 : hdE (cs.getD x 0) = 4) :
    Calls Tryz.prog 28 #[.pointer (some ⟨a, 0, none⟩), .agg #[.int .i64 P, .int .i64 T, .int .i64 R], .pointer (some ⟨t, 0, none⟩), .int .i64 (x : Int)] w (LkNo 4 w) := by
  obtain ⟨p0, p1, p2, p3⟩ := holdB_parts h1
  have hr := place_right p0
  have hcl := (cellsN_bd hr).2.2
  have hpb := place_bdO P T R x
  have HO := Lib.hid (fun W (hA : Ary W B a c cs n K) (hW : Wid W) => holder_yes P T R x hA hW p0 hl (getD_U hU _) p1 p2 p3 (getD_U hU _))
  have HA := Lib.hid (fun W (hA : Ary W B a c cs n K) => headAt_any x hA (by omega) (by omega) (getD_U hU _))
  have FT := Lib.hid (fun W (hT : TabS W lo t tv m L) => fits_any W lo t m tv L (hdC (cs.getD x 0)) (hdK (cs.getD x 0)) (hdN (cs.getD x 0)) hT)
  have WD := Lib.hid (fun W => words_anyRhead (hdC (cs.getD x 0)) (hdK (cs.getD x 0)) (hdN (cs.getD x 0)) W)
  have FS := Lib.hid (fun W (hW : Wid W) => fits_anyO P T R (placeI P T R x).1 (cs.getD (rowN P T R 0 (placeI P T R x).1) 0 % 4) (cs.getD (rowN P T R 0 (placeI P T R x).1) 0 / 4 % 16) (cs.getD (rowN P T R 0 (placeI P T R x).1) 0 / 64 % 4) (cs.getD (rowN P T R 0 (placeI P T R x).1) 0 / 256 % 16) (cs.getD (rowN P T R 0 (placeI P T R x).1) 0 / 65536 % 4294967296) (wordsV (hdC (cs.getD x 0)) (hdK (cs.getD x 0)) (hdN (cs.getD x 0))) W hW p0 hpb.2.1)
  unfold entV at HO
  rw [h2] at HA
  have hS := LkS.new (P := P) (T := T) (R := R) hA hW hT
  clear h1 h2 hA hW hT hU hl p0 p1 p2 p3 hr hcl
  unfold LkNo
  generalize wordsV (hdC (cs.getD x 0)) (hdK (cs.getD x 0)) (hdN (cs.getD x 0)) = M at *
  generalize hdC (cs.getD x 0) = hc at *
  generalize hdK (cs.getD x 0) = hk at *
  generalize hdN (cs.getD x 0) = hn at *
  generalize cs.getD (rowN P T R 0 (placeI P T R x).1) 0 % 4 = q0 at *
  generalize cs.getD (rowN P T R 0 (placeI P T R x).1) 0 / 4 % 16 = q1 at *
  generalize cs.getD (rowN P T R 0 (placeI P T R x).1) 0 / 64 % 4 = q2 at *
  generalize cs.getD (rowN P T R 0 (placeI P T R x).1) 0 / 256 % 16 = q3 at *
  generalize cs.getD (rowN P T R 0 (placeI P T R x).1) 0 / 65536 % 4294967296 = q4 at *
  generalize (placeI P T R x).1 = pg at *
  obtain ⟨a0, a1, a2⟩ := hS.pl.three.1
  go_enter Tryz.func28, Tryz.ntmps28
  go_wp2_with fail
  refine (HO.out _ hS.ary hS.wid).mono ?_; rintro e w1 ⟨rfl, hb1⟩
  have hS1 := hS.grew hb1
  clear hS hb1 a0 a1 a2 HO
  go_upto_region 4 with fail
  have hE := entNew w1 q0 q1 q2 q3 q4 143
  have hS2 := hS1.alloc (.cells #[.int .i64 q0, .int .i64 q1, .int .i64 q2, .int .i64 q3, .int .i64 q4] 143)
  clear hS1
  generalize hw2 : w1.alloc (.cells #[.int .i64 q0, .int .i64 q1, .int .i64 q2, .int .i64 q3, .int .i64 q4] 143) = w2 at *
  replace hw2 := Lib.hid hw2
  generalize w1.heap.size = be at *
  go_wp2_with fail
  refine (HA.out _ hS2.ary).mono ?_; rintro e w3 ⟨rfl, hb3⟩
  have hS3 := hS2.grew hb3
  have hE3 := hE.grew hb3
  clear hS2 hE hb3 HA
  go_upto_region 5 with fail
  have hH := Blk.new w3 #[.int .i64 hc, .int .i64 hk, .int .i64 hn] 44
  have hS4 := hS3.alloc (.cells #[.int .i64 hc, .int .i64 hk, .int .i64 hn] 44)
  have hE4 := hE3.alloc (.cells #[.int .i64 hc, .int .i64 hk, .int .i64 hn] 44)
  clear hS3 hE3
  generalize hw4 : w3.alloc (.cells #[.int .i64 hc, .int .i64 hk, .int .i64 hn] 44) = w4 at *
  replace hw4 := Lib.hid hw4
  generalize w3.heap.size = bh at *
  clear FT FS WD hE4
  go_quiet (fail)
  have hS7 := hS4.grew (show Below w4.heap.size w4 (w4.drewN nq) from Quiet.below ⟨nq, rfl⟩)
  clear hS4
  generalize w4.drewN nq = w7 at *
  obtain ⟨⟨r0, r1, r2, r3⟩, f0, f1, f2, f3⟩ := hS7.rest
  have HF := Lib.hid (hS7.put (.int .i64 0) (.int .i64 0) (.int .i64 0) (.slice none 0 0))
  clear hS7
  go_wp2
  generalize World.setCell (World.setCell (World.setCell (World.setCell _ _ _) _ _) _ _) _ _ = W9 at *
  obtain ⟨hZ, hB9⟩ := HF.out
  have z0 := hZ.val 0 rfl
  have z1 := hZ.val 1 rfl
  have z2 := hZ.val 2 rfl
  have z3 := hZ.val 3 rfl
  exact bodyPost_ret (v := .tuple #[.agg #[.int .i64 0, .int .i64 0, .int .i64 0, .slice none 0 0], .int .i64 4]) (by simp [results, Tryz.results28, go_sem, z0, z1, z2, z3]) rfl ⟨rfl, hB9⟩
end
end Go.Proofs.YtpoddnfooaddgaaGreatDoor
/- Package objects: Look's error: a header of no class. Conditions as in XObm. -/
namespace Go.Proofs.YtpoddnfooaddgaaGreatDoor
open Go.RowKit
set_option linter.unusedVariables false
section
variable {w W W' : World} {P T R : Int} {B a c n : Nat} {cs : List Int} {K : List Nat} {lo t m : Nat} {tv : Value} {L : List (ClsD × Value × Nat)}
set_option maxRecDepth 100000 in
set_option maxHeartbeats 8000000 in
theorem look_class (x : Nat) (hA : Ary w B a c cs n K) (hW : Wid w) (hT : TabS w lo t tv m L) (hl : cs.length = cellsN P T R) (hU : ∀ z ∈ cs, U64 z) (hx : x < cs.length)
    (h1 : holdB P T R cs x = true) (h2 : hdE (cs.getD x 0) = 0) (h3 : fitI (L.map (·.1)) (hdC (cs.getD x 0)) (hdK (cs.getD x 0)) (hdN (cs.getD x 0)) = false) :
    Calls Tryz.prog 28 #[.pointer (some ⟨a, 0, none⟩), .agg #[.int .i64 P, .int .i64 T, .int .i64 R], .pointer (some ⟨t, 0, none⟩), .int .i64 (x : Int)] w (LkNo 4 w) := by
  obtain ⟨p0, p1, p2, p3⟩ := holdB_parts h1
  have hr := place_right p0
  have hcl := (cellsN_bd hr).2.2
  have hpb := place_bdO P T R x
  have HO := Lib.hid (fun W (hA : Ary W B a c cs n K) (hW : Wid W) => holder_yes P T R x hA hW p0 hl (getD_U hU _) p1 p2 p3 (getD_U hU _))
  have HA := Lib.hid (fun W (hA : Ary W B a c cs n K) => headAt_any x hA (by omega) (by omega) (getD_U hU _))
  have FT := Lib.hid (fun W (hT : TabS W lo t tv m L) => fits_any W lo t m tv L (hdC (cs.getD x 0)) (hdK (cs.getD x 0)) (hdN (cs.getD x 0)) hT)
  have WD := Lib.hid (fun W => words_anyRhead (hdC (cs.getD x 0)) (hdK (cs.getD x 0)) (hdN (cs.getD x 0)) W)
  have FS := Lib.hid (fun W (hW : Wid W) => fits_anyO P T R (placeI P T R x).1 (cs.getD (rowN P T R 0 (placeI P T R x).1) 0 % 4) (cs.getD (rowN P T R 0 (placeI P T R x).1) 0 / 4 % 16) (cs.getD (rowN P T R 0 (placeI P T R x).1) 0 / 64 % 4) (cs.getD (rowN P T R 0 (placeI P T R x).1) 0 / 256 % 16) (cs.getD (rowN P T R 0 (placeI P T R x).1) 0 / 65536 % 4294967296) (wordsV (hdC (cs.getD x 0)) (hdK (cs.getD x 0)) (hdN (cs.getD x 0))) W hW p0 hpb.2.1)
  unfold entV at HO
  rw [h2] at HA
  rw [h3] at FT
  have hS := LkS.new (P := P) (T := T) (R := R) hA hW hT
  clear h1 h2 h3 hA hW hT hU hl p0 p1 p2 p3 hr hcl
  unfold LkNo
  generalize wordsV (hdC (cs.getD x 0)) (hdK (cs.getD x 0)) (hdN (cs.getD x 0)) = M at *
  generalize hdC (cs.getD x 0) = hc at *
  generalize hdK (cs.getD x 0) = hk at *
  generalize hdN (cs.getD x 0) = hn at *
  generalize cs.getD (rowN P T R 0 (placeI P T R x).1) 0 % 4 = q0 at *
  generalize cs.getD (rowN P T R 0 (placeI P T R x).1) 0 / 4 % 16 = q1 at *
  generalize cs.getD (rowN P T R 0 (placeI P T R x).1) 0 / 64 % 4 = q2 at *
  generalize cs.getD (rowN P T R 0 (placeI P T R x).1) 0 / 256 % 16 = q3 at *
  generalize cs.getD (rowN P T R 0 (placeI P T R x).1) 0 / 65536 % 4294967296 = q4 at *
  generalize (placeI P T R x).1 = pg at *
  obtain ⟨a0, a1, a2⟩ := hS.pl.three.1
  go_enter Tryz.func28, Tryz.ntmps28
  go_wp2_with fail
  refine (HO.out _ hS.ary hS.wid).mono ?_; rintro e w1 ⟨rfl, hb1⟩
  have hS1 := hS.grew hb1
  clear hS hb1 a0 a1 a2 HO
  go_upto_region 4 with fail
  have hE := entNew w1 q0 q1 q2 q3 q4 143
  have hS2 := hS1.alloc (.cells #[.int .i64 q0, .int .i64 q1, .int .i64 q2, .int .i64 q3, .int .i64 q4] 143)
  clear hS1
  generalize hw2 : w1.alloc (.cells #[.int .i64 q0, .int .i64 q1, .int .i64 q2, .int .i64 q3, .int .i64 q4] 143) = w2 at *
  replace hw2 := Lib.hid hw2
  generalize w1.heap.size = be at *
  go_wp2_with fail
  refine (HA.out _ hS2.ary).mono ?_; rintro e w3 ⟨rfl, hb3⟩
  have hS3 := hS2.grew hb3
  have hE3 := hE.grew hb3
  clear hS2 hE hb3 HA
  go_upto_region 5 with fail
  have hH := Blk.new w3 #[.int .i64 hc, .int .i64 hk, .int .i64 hn] 44
  have hS4 := hS3.alloc (.cells #[.int .i64 hc, .int .i64 hk, .int .i64 hn] 44)
  have hE4 := hE3.alloc (.cells #[.int .i64 hc, .int .i64 hk, .int .i64 hn] 44)
  clear hS3 hE3
  generalize hw4 : w3.alloc (.cells #[.int .i64 hc, .int .i64 hk, .int .i64 hn] 44) = w4 at *
  replace hw4 := Lib.hid hw4
  generalize w3.heap.size = bh at *
  have B4 : Below w4.heap.size w4 w4.drew := Quiet.below ⟨1, rfl⟩
  have HF := Lib.hid (fun W (hb : Below w4.heap.size w4 W) => FT.out W (hS4.grew hb).tab)
  have HC := Lib.hid (fun W (hb : Below w4.heap.size w4 W) => (hH.grew hb).three.1)
  have HS4 := Lib.hid hS4
  clear FT WD FS hE4 hS4 hH
  refine wp_region_held_drew (S := fun W => (W.cell? ⟨bh, 0, none⟩ = some (.int .i64 hc) ∧ W.cell? ⟨bh, 1, none⟩ = some (.int .i64 hk) ∧ W.cell? ⟨bh, 2, none⟩ = some (.int .i64 hn)) ∧ Below w4.heap.size w4 W) (by kernel_rfl) ⟨HC.out _ B4, B4⟩ (fun hHeld => ?_)
  refine wpAnyH_take (i := 0) (oi := _) (v := ?_) (op_at rfl) (by kernel_rfl) (by kernel_rfl) (by kernel_rfl) (fun _ _ _ h => h) (Or.inl ⟨by rfl, ?_⟩) hHeld ?_
  rotate_left 1
  focus (intro W hSw; (try dsimp only at hSw); go_simp; (try (with_reducible rfl)))
  (try simp only [Act.put, List.setIfInBounds_toArray, List.set_cons_zero, List.set_cons_succ])
  refine wpAnyH_take (i := 1) (oi := _) (v := ?_) (op_at rfl) (by kernel_rfl) (by kernel_rfl) (by kernel_rfl) (fun _ _ _ h => h) (Or.inl ⟨by rfl, ?_⟩) hHeld ?_
  rotate_left 1
  focus (intro W hSw; (try dsimp only at hSw); go_simp; (try (with_reducible rfl)))
  (try simp only [Act.put, List.setIfInBounds_toArray, List.set_cons_zero, List.set_cons_succ])
  refine wpAnyH_take (i := 2) (oi := _) (v := ?_) (op_at rfl) (by kernel_rfl) (by kernel_rfl) (by kernel_rfl) (fun _ _ _ h => h) (Or.inl ⟨by rfl, ?_⟩) hHeld ?_
  rotate_left 1
  focus (intro W hSw; (try dsimp only at hSw); go_simp; (try (with_reducible rfl)))
  (try simp only [Act.put, List.setIfInBounds_toArray, List.set_cons_zero, List.set_cons_succ])
  refine wpAnyH_take (i := 3) (oi := _) (v := ?_) (op_at rfl) (by kernel_rfl) (by kernel_rfl) (by kernel_rfl) (fun _ _ _ h => h) (Or.inl ⟨by rfl, ?_⟩) hHeld ?_
  rotate_left 1
  focus (intro W hSw; (try dsimp only at hSw); go_simp; (try (with_reducible rfl)))
  (try simp only [Act.put, List.setIfInBounds_toArray, List.set_cons_zero, List.set_cons_succ])
  refine wpAnyH_take (i := 4) (oi := _) (v := ?_) (op_at rfl) (by kernel_rfl) (by kernel_rfl) (by kernel_rfl) (fun _ _ _ h => h) (Or.inl ⟨by rfl, ?_⟩) hHeld ?_
  rotate_left 1
  focus (intro W hSw; (try dsimp only at hSw); go_simp; (try (with_reducible rfl)))
  (try simp only [Act.put, List.setIfInBounds_toArray, List.set_cons_zero, List.set_cons_succ])
  refine wpAnyH_ready (rs := [5]) (by kernel_rfl) (by simp) ?_
  refine AllReadyH.cons (o := _) (op_at rfl) (fun Kc hKc => ?_) AllReadyH.nil
  go_simp
  go_at_call 62
  (with_reducible refine (HF.out _ hHeld.2).mono ?_)
  rintro e w5 ⟨rfl, hb5⟩
  have hg5 := hHeld.2.trans (hb5.mono hHeld.2.size)
  go_wp2_with fail
  refine hKc.out _ _ ?_ (fun hHeld => ?_)
  focus exact ⟨HC.out _ hg5, hg5⟩
  clear hKc Kc
  (try simp only [Act.put, List.setIfInBounds_toArray, List.set_cons_zero, List.set_cons_succ])
  refine wpAnyH_take (i := 6) (oi := _) (v := ?_) (op_at rfl) (by kernel_rfl) (by kernel_rfl) (by kernel_rfl) (fun _ _ _ h => h) (Or.inl ⟨by rfl, ?_⟩) hHeld ?_
  rotate_left 1
  focus (intro W hSw; (try dsimp only at hSw); go_simp; (try (with_reducible rfl)))
  (try simp only [Act.put, List.setIfInBounds_toArray, List.set_cons_zero, List.set_cons_succ])
  refine wpAnyH_take (i := 7) (oi := _) (v := ?_) (op_at rfl) (by kernel_rfl) (by kernel_rfl) (by kernel_rfl) (fun _ _ _ h => h) (Or.inl ⟨by rfl, ?_⟩) hHeld ?_
  rotate_left 1
  focus (intro W hSw; (try dsimp only at hSw); go_simp; (try (with_reducible rfl)))
  (try simp only [Act.put, List.setIfInBounds_toArray, List.set_cons_zero, List.set_cons_succ])
  refine wpAnyH_take (i := 8) (oi := _) (v := ?_) (op_at rfl) (by kernel_rfl) (by kernel_rfl) (by kernel_rfl) (fun _ _ _ h => h) (Or.inl ⟨by rfl, ?_⟩) hHeld ?_
  rotate_left 1
  focus (intro W hSw; (try dsimp only at hSw); go_simp; (try (with_reducible rfl)))
  (try simp only [Act.put, List.setIfInBounds_toArray, List.set_cons_zero, List.set_cons_succ])
  refine wpAnyH_take (i := 9) (oi := _) (v := undef) (op_at rfl) (by kernel_rfl) (by kernel_rfl) (by kernel_rfl) (fun _ _ _ h => h) (Or.inr ⟨by rfl, rfl⟩) hHeld ?_
  (try simp only [Act.put, List.setIfInBounds_toArray, List.set_cons_zero, List.set_cons_succ])
  refine wpAnyH_take (i := 10) (oi := _) (v := undef) (op_at rfl) (by kernel_rfl) (by kernel_rfl) (by kernel_rfl) (fun _ _ _ h => h) (Or.inr ⟨by rfl, rfl⟩) hHeld ?_
  (try simp only [Act.put, List.setIfInBounds_toArray, List.set_cons_zero, List.set_cons_succ])
  refine wpAnyH_take (i := 11) (oi := _) (v := undef) (op_at rfl) (by kernel_rfl) (by kernel_rfl) (by kernel_rfl) (fun _ _ _ h => h) (Or.inr ⟨by rfl, rfl⟩) hHeld ?_
  (try simp only [Act.put, List.setIfInBounds_toArray, List.set_cons_zero, List.set_cons_succ])
  refine wpAnyH_take (i := 12) (oi := _) (v := undef) (op_at rfl) (by kernel_rfl) (by kernel_rfl) (by kernel_rfl) (fun _ _ _ h => h) (Or.inr ⟨by rfl, rfl⟩) hHeld ?_
  (try simp only [Act.put, List.setIfInBounds_toArray, List.set_cons_zero, List.set_cons_succ])
  refine wpAnyH_take (i := 13) (oi := _) (v := undef) (op_at rfl) (by kernel_rfl) (by kernel_rfl) (by kernel_rfl) (fun _ _ _ h => h) (Or.inr ⟨by rfl, rfl⟩) hHeld ?_
  (try simp only [Act.put, List.setIfInBounds_toArray, List.set_cons_zero, List.set_cons_succ])
  refine wpAnyH_take (i := 14) (oi := _) (v := undef) (op_at rfl) (by kernel_rfl) (by kernel_rfl) (by kernel_rfl) (fun _ _ _ h => h) (Or.inr ⟨by rfl, rfl⟩) hHeld ?_
  (try simp only [Act.put, List.setIfInBounds_toArray, List.set_cons_zero, List.set_cons_succ])
  refine wpAnyH_take (i := 15) (oi := _) (v := undef) (op_at rfl) (by kernel_rfl) (by kernel_rfl) (by kernel_rfl) (fun _ _ _ h => h) (Or.inr ⟨by rfl, rfl⟩) hHeld ?_
  (try simp only [Act.put, List.setIfInBounds_toArray, List.set_cons_zero, List.set_cons_succ])
  refine wpAnyH_take (i := 16) (oi := _) (v := ?_) (op_at rfl) (by kernel_rfl) (by kernel_rfl) (by kernel_rfl) (fun _ _ _ h => h) (Or.inl ⟨by rfl, ?_⟩) hHeld ?_
  rotate_left 1
  focus (intro W hSw; (try dsimp only at hSw); go_simp; (try (with_reducible rfl)))
  (try simp only [Act.put, List.setIfInBounds_toArray, List.set_cons_zero, List.set_cons_succ])
  refine wpAnyH_done (by kernel_rfl) ?_ _
  have hS7 := HS4.out.grew hHeld.2
  obtain ⟨⟨r0, r1, r2, r3⟩, f0, f1, f2, f3⟩ := hS7.rest
  have HF := Lib.hid (hS7.put (.int .i64 0) (.int .i64 0) (.int .i64 0) (.slice none 0 0))
  clear hS7
  go_wp2
  generalize World.setCell (World.setCell (World.setCell (World.setCell _ _ _) _ _) _ _) _ _ = W9 at *
  obtain ⟨hZ, hB9⟩ := HF.out
  have z0 := hZ.val 0 rfl
  have z1 := hZ.val 1 rfl
  have z2 := hZ.val 2 rfl
  have z3 := hZ.val 3 rfl
  exact bodyPost_ret (v := .tuple #[.agg #[.int .i64 0, .int .i64 0, .int .i64 0, .slice none 0 0], .int .i64 4]) (by simp [results, Tryz.results28, go_sem, z0, z1, z2, z3]) rfl ⟨rfl, hB9⟩
end
end Go.Proofs.YtpoddnfooaddgaaGreatDoor
/- Package objects: Look's errors: a header of no class, an object that finds no room. Conditions as in XObm. -/
namespace Go.Proofs.YtpoddnfooaddgaaGreatDoor
open Go.RowKit
set_option linter.unusedVariables false
section
variable {w W W' : World} {P T R : Int} {B a c n : Nat} {cs : List Int} {K : List Nat} {lo t m : Nat} {tv : Value} {L : List (ClsD × Value × Nat)}
set_option maxRecDepth 100000 in
set_option maxHeartbeats 8000000 in
theorem look_room (x : Nat) (hA : Ary w B a c cs n K) (hW : Wid w) (hT : TabS w lo t tv m L) (hl : cs.length = cellsN P T R) (hU : ∀ z ∈ cs, U64 z) (hx : x < cs.length)
    (h1 : holdB P T R cs x = true) (h2 : hdE (cs.getD x 0) = 0) (h3 : fitI (L.map (·.1)) (hdC (cs.getD x 0)) (hdK (cs.getD x 0)) (hdN (cs.getD x 0)) = true)
    (h4 : fitsB P (cs.getD (rowN P T R 0 (placeI P T R x).1) 0 % 4) (cs.getD (rowN P T R 0 (placeI P T R x).1) 0 / 4 % 16) (placeI P T R x).1 (wordsV (hdC (cs.getD x 0)) (hdK (cs.getD x 0)) (hdN (cs.getD x 0))) = false) :
    Calls Tryz.prog 28 #[.pointer (some ⟨a, 0, none⟩), .agg #[.int .i64 P, .int .i64 T, .int .i64 R], .pointer (some ⟨t, 0, none⟩), .int .i64 (x : Int)] w (LkNo 4 w) := by
  obtain ⟨p0, p1, p2, p3⟩ := holdB_parts h1
  have hr := place_right p0
  have hcl := (cellsN_bd hr).2.2
  have hpb := place_bdO P T R x
  have HO := Lib.hid (fun W (hA : Ary W B a c cs n K) (hW : Wid W) => holder_yes P T R x hA hW p0 hl (getD_U hU _) p1 p2 p3 (getD_U hU _))
  have HA := Lib.hid (fun W (hA : Ary W B a c cs n K) => headAt_any x hA (by omega) (by omega) (getD_U hU _))
  have FT := Lib.hid (fun W (hT : TabS W lo t tv m L) => fits_any W lo t m tv L (hdC (cs.getD x 0)) (hdK (cs.getD x 0)) (hdN (cs.getD x 0)) hT)
  have WD := Lib.hid (fun W => words_anyRhead (hdC (cs.getD x 0)) (hdK (cs.getD x 0)) (hdN (cs.getD x 0)) W)
  have FS := Lib.hid (fun W (hW : Wid W) => fits_anyO P T R (placeI P T R x).1 (cs.getD (rowN P T R 0 (placeI P T R x).1) 0 % 4) (cs.getD (rowN P T R 0 (placeI P T R x).1) 0 / 4 % 16) (cs.getD (rowN P T R 0 (placeI P T R x).1) 0 / 64 % 4) (cs.getD (rowN P T R 0 (placeI P T R x).1) 0 / 256 % 16) (cs.getD (rowN P T R 0 (placeI P T R x).1) 0 / 65536 % 4294967296) (wordsV (hdC (cs.getD x 0)) (hdK (cs.getD x 0)) (hdN (cs.getD x 0))) W hW p0 hpb.2.1)
  unfold entV at HO
  rw [h2] at HA
  rw [h3] at FT
  rw [h4] at FS
  have hS := LkS.new (P := P) (T := T) (R := R) hA hW hT
  clear h1 h2 h3 h4 hA hW hT hU hl p0 p1 p2 p3 hr hcl
  unfold LkNo
  generalize wordsV (hdC (cs.getD x 0)) (hdK (cs.getD x 0)) (hdN (cs.getD x 0)) = M at *
  generalize hdC (cs.getD x 0) = hc at *
  generalize hdK (cs.getD x 0) = hk at *
  generalize hdN (cs.getD x 0) = hn at *
  generalize cs.getD (rowN P T R 0 (placeI P T R x).1) 0 % 4 = q0 at *
  generalize cs.getD (rowN P T R 0 (placeI P T R x).1) 0 / 4 % 16 = q1 at *
  generalize cs.getD (rowN P T R 0 (placeI P T R x).1) 0 / 64 % 4 = q2 at *
  generalize cs.getD (rowN P T R 0 (placeI P T R x).1) 0 / 256 % 16 = q3 at *
  generalize cs.getD (rowN P T R 0 (placeI P T R x).1) 0 / 65536 % 4294967296 = q4 at *
  generalize (placeI P T R x).1 = pg at *
  obtain ⟨a0, a1, a2⟩ := hS.pl.three.1
  go_enter Tryz.func28, Tryz.ntmps28
  go_wp2_with fail
  refine (HO.out _ hS.ary hS.wid).mono ?_; rintro e w1 ⟨rfl, hb1⟩
  have hS1 := hS.grew hb1
  clear hS hb1 a0 a1 a2 HO
  go_upto_region 4 with fail
  have hE := entNew w1 q0 q1 q2 q3 q4 143
  have hS2 := hS1.alloc (.cells #[.int .i64 q0, .int .i64 q1, .int .i64 q2, .int .i64 q3, .int .i64 q4] 143)
  clear hS1
  generalize hw2 : w1.alloc (.cells #[.int .i64 q0, .int .i64 q1, .int .i64 q2, .int .i64 q3, .int .i64 q4] 143) = w2 at *
  replace hw2 := Lib.hid hw2
  generalize w1.heap.size = be at *
  go_wp2_with fail
  refine (HA.out _ hS2.ary).mono ?_; rintro e w3 ⟨rfl, hb3⟩
  have hS3 := hS2.grew hb3
  have hE3 := hE.grew hb3
  clear hS2 hE hb3 HA
  go_upto_region 5 with fail
  have hH := Blk.new w3 #[.int .i64 hc, .int .i64 hk, .int .i64 hn] 44
  have hS4 := hS3.alloc (.cells #[.int .i64 hc, .int .i64 hk, .int .i64 hn] 44)
  have hE4 := hE3.alloc (.cells #[.int .i64 hc, .int .i64 hk, .int .i64 hn] 44)
  clear hS3 hE3
  generalize hw4 : w3.alloc (.cells #[.int .i64 hc, .int .i64 hk, .int .i64 hn] 44) = w4 at *
  replace hw4 := Lib.hid hw4
  generalize w3.heap.size = bh at *
  have SQ := Lib.hid (fun W (hb : Below w4.heap.size w4 W) => show (W.cell? ⟨w.heap.size, 0, none⟩ = some (.int .i64 P) ∧ W.cell? ⟨w.heap.size, 1, none⟩ = some (.int .i64 T) ∧ W.cell? ⟨w.heap.size, 2, none⟩ = some (.int .i64 R)) ∧ (W.cell? ⟨be, 0, none⟩ = some (.int .i64 q0) ∧ W.cell? ⟨be, 1, none⟩ = some (.int .i64 q1) ∧ W.cell? ⟨be, 2, none⟩ = some (.int .i64 q2) ∧ W.cell? ⟨be, 3, none⟩ = some (.int .i64 q3) ∧ W.cell? ⟨be, 4, none⟩ = some (.int .i64 q4)) ∧ (W.cell? ⟨bh, 0, none⟩ = some (.int .i64 hc) ∧ W.cell? ⟨bh, 1, none⟩ = some (.int .i64 hk) ∧ W.cell? ⟨bh, 2, none⟩ = some (.int .i64 hn)) from
    ⟨(hS4.grew hb).pl.three.1, five_at (hE4.grew hb), (hH.grew hb).three.1⟩)
  have HF := Lib.hid (fun W (hb : Below w4.heap.size w4 W) => FT.out W (hS4.grew hb).tab)
  have HS := Lib.hid (fun W (hb : Below w4.heap.size w4 W) => FS.out W (hS4.grew hb).wid)
  have B4 : Below w4.heap.size w4 w4.drew := Quiet.below ⟨1, rfl⟩
  have KB := Lib.hid (fun (A C : World) (hb : Below A.heap.size A C) (h : Below w4.heap.size w4 A) => h.trans (hb.mono h.size))
  clear FT FS
  go_region_held3 (fun W => ((W.cell? ⟨w.heap.size, 0, none⟩ = some (.int .i64 P) ∧ W.cell? ⟨w.heap.size, 1, none⟩ = some (.int .i64 T) ∧ W.cell? ⟨w.heap.size, 2, none⟩ = some (.int .i64 R)) ∧ (W.cell? ⟨be, 0, none⟩ = some (.int .i64 q0) ∧ W.cell? ⟨be, 1, none⟩ = some (.int .i64 q1) ∧ W.cell? ⟨be, 2, none⟩ = some (.int .i64 q2) ∧ W.cell? ⟨be, 3, none⟩ = some (.int .i64 q3) ∧ W.cell? ⟨be, 4, none⟩ = some (.int .i64 q4)) ∧ (W.cell? ⟨bh, 0, none⟩ = some (.int .i64 hc) ∧ W.cell? ⟨bh, 1, none⟩ = some (.int .i64 hk) ∧ W.cell? ⟨bh, 2, none⟩ = some (.int .i64 hn))) ∧ Below w4.heap.size w4 W)
    (first | (with_reducible exact ⟨SQ.out _ B4, B4⟩) | (with_reducible exact ⟨SQ.out _ hg7, hg7⟩) | (have hg := KB.out _ _ (by assumption) (And.right (by assumption)); exact ⟨SQ.out _ hg, hg⟩))
    (first
      | (go_at_call 62; refine (HF.out _ (And.right (by assumption))).mono ?_; rintro e w5 ⟨rfl, hb5⟩)
      | (go_at_call 47; refine (WD.out _).mono ?_; rintro e w6 ⟨rfl, hb6⟩)
      | (go_at_call 63; refine (HS.out _ (And.right (by assumption))).mono ?_; rintro e w7 ⟨rfl, hb7⟩; have hg7 := KB.out _ _ hb7 (And.right (by assumption))))
  have hS7 := hS4.grew hg7
  clear hS4 hE4 hH SQ HF HS B4 KB WD
  obtain ⟨⟨r0, r1, r2, r3⟩, f0, f1, f2, f3⟩ := hS7.rest
  have HF := Lib.hid (hS7.put (.int .i64 0) (.int .i64 0) (.int .i64 0) (.slice none 0 0))
  clear hS7
  go_wp2
  generalize World.setCell (World.setCell (World.setCell (World.setCell _ _ _) _ _) _ _) _ _ = W9 at *
  obtain ⟨hZ, hB9⟩ := HF.out
  have z0 := hZ.val 0 rfl
  have z1 := hZ.val 1 rfl
  have z2 := hZ.val 2 rfl
  have z3 := hZ.val 3 rfl
  exact bodyPost_ret (v := .tuple #[.agg #[.int .i64 0, .int .i64 0, .int .i64 0, .slice none 0 0], .int .i64 4]) (by simp [results, Tryz.results28, go_sem, z0, z1, z2, z3]) rfl ⟨rfl, hB9⟩
end
end Go.Proofs.YtpoddnfooaddgaaGreatDoor
/- Package objects: Allocated. Conditions as in XObm. -/
namespace Go.Proofs.YtpoddnfooaddgaaGreatDoor
open Go.RowKit
set_option linter.unusedVariables false
section
variable {w W W' : World} {P T R : Int} {B a c n : Nat} {cs : List Int} {K : List Nat}
set_option maxHeartbeats 1000000 in
theorem allocated_any (x : Int) (hA : Ary w B a c cs n K) (hW : Wid w) (hl : 0 ≤ (placeI P T R x).1 → cs.length = cellsN P T R) (hU : ∀ z ∈ cs, U64 z) :
    Calls Tryz.prog 30 #[.pointer (some ⟨a, 0, none⟩), .agg #[.int .i64 P, .int .i64 T, .int .i64 R], .int .i64 x] w fun e w' => e = .returned (.bool (holdB P T R cs x)) ∧ Below w.heap.size w w' := by
  have hp := planNew w P T R 42
  have hb : Below w.heap.size w (w.alloc (.cells #[.int .i64 P, .int .i64 T, .int .i64 R] 42)) := (Below.refl _ _).alloc (Nat.le_refl _) _
  have hA1 := hA.grew hb
  have hW1 := hW.grew hb
  have hc := (Blk.new w #[.int .i64 P, .int .i64 T, .int .i64 R] 42).three.1
  obtain ⟨a0, a1, a2⟩ := hc
  cases hh : holdB P T R cs x with
  | false =>
    have HO := Lib.hid (holder_no (P := P) (T := T) (R := R) x hA1 hW1 hl hU hh)
    unfold zeroE at HO
    clear hA hW hA1 hW1 hl hU hp hh
    go_enter Tryz.func30, Tryz.ntmps30
    go_wp2_with fail
    refine HO.out.mono ?_; rintro e w1 ⟨rfl, hb1⟩
    have hB := hb.trans (hb1.mono hb.size)
    go_wp2
    go_ret
    exact ⟨rfl, hB.alloc hB.size _⟩
  | true =>
    obtain ⟨p0, p1, p2, p3⟩ := holdB_parts hh
    have HO := Lib.hid (holder_yes P T R x hA1 hW1 p0 (hl p0) (getD_U hU _) p1 p2 p3 (getD_U hU _))
    unfold entV at HO
    clear hA hW hA1 hW1 hl hU hp hh p0 p1 p2 p3
    generalize cs.getD (rowN P T R 0 (placeI P T R x).1) 0 = z at *
    generalize (placeI P T R x).1 = pg at *
    go_enter Tryz.func30, Tryz.ntmps30
    go_wp2_with fail
    refine HO.out.mono ?_; rintro e w1 ⟨rfl, hb1⟩
    have hB := hb.trans (hb1.mono hb.size)
    go_wp2
    go_ret
    exact ⟨rfl, hB.alloc hB.size _⟩
end
end Go.Proofs.YtpoddnfooaddgaaGreatDoor
/- objects: Look, and the document's Look, at any number, by one word. Conditions: the plan is a plan, the cells are as many as it has, the table is the classes'. -/
namespace Go.Proofs.YtpoddnfooaddgaaGreatDoor
open Go.RowKit
set_option linter.unusedVariables false
def entW (P T R : Int) (cs : List Int) (x : Int) : Int := cs.getD (rowN P T R 0 (placeI P T R x).1) 0
/-- what is at a number: an error, or class, kind and how many words -/
def lookE (P T R : Int) (cs : List Int) (cl : List ClsD) (x : Int) : Except Int (Int × Int × Nat) :=
  if holdB P T R cs x = false then .error 5
  else if hdE (cs.getD x.toNat 0) = 0 ∧ fitI cl (hdC (cs.getD x.toNat 0)) (hdK (cs.getD x.toNat 0)) (hdN (cs.getD x.toNat 0)) = true ∧
    roomB P (entW P T R cs x % 4) (entW P T R cs x / 4 % 16) (placeI P T R x).1 (wordsV (hdC (cs.getD x.toNat 0)) (hdK (cs.getD x.toNat 0)) (hdN (cs.getD x.toNat 0))) = true then .ok (hdC (cs.getD x.toNat 0), hdK (cs.getD x.toNat 0), (hdN (cs.getD x.toNat 0)).toNat)
  else .error 4
def LkAny (x : Int) (cs : List Int) (r : Except Int (Int × Int × Nat)) (w : World) (e : Ending) (w' : World) : Prop :=
  match r with
  | .ok q => LkPost x q.1 q.2.1 (lkL cs x.toNat q.2.2) w e w'
  | .error n => LkNo n w e w'
theorem cell_fit {c wd : Int} (hc : 0 ≤ c ∧ c ≤ 7) (hw : 0 ≤ wd ∧ wd ≤ 63) (h : cellI c wd = wd) : wd + widI c ≤ 64 := by
  have : ∀ (k : Fin 8) (i : Fin 64), cellI ((k.val : Nat) : Int) ((i.val : Nat) : Int) = ((i.val : Nat) : Int) → ((i.val : Nat) : Int) + widI ((k.val : Nat) : Int) ≤ 64 := by decide +kernel
  have h2 := this ⟨c.toNat, by omega⟩ ⟨wd.toNat, by omega⟩
  simp only [Int.toNat_of_nonneg hc.1, Int.toNat_of_nonneg hw.1] at h2
  exact h2 h
theorem place_in {P T R x : Int} (h : 0 ≤ (placeI P T R x).1) : baseI P T R ≤ x ∧ x ≤ baseI P T R + 64 * P - 1 ∧ (placeI P T R x).1 = (x - baseI P T R) / 64 ∧ (placeI P T R x).2 = (x - baseI P T R) % 64 := by
  unfold placeI at h ⊢
  cases hh : heapB P T R x with
  | false => rw [hh] at h; simp at h
  | true =>
    unfold heapB at hh
    rw [Bool.and_eq_true] at hh
    have := hh.2
    simp [inB] at this
    simp only [if_true]
    exact ⟨this.1, by omega, trivial, trivial⟩
theorem ent_cls {E : Int} (h : edecOk E = true) (hk : E % 4 = 1) : 0 ≤ E / 4 % 16 ∧ E / 4 % 16 ≤ 7 := by
  unfold edecOk at h
  rw [Bool.and_eq_true] at h
  have h1 := h.1
  unfold entB at h1
  rw [hk] at h1
  simp [kindBEnt, inB] at h1
  omega
theorem hd_bd {x : Int} (h : hdE x = 0) : ∃ Q : Nat, hdN x = (Q : Int) ∧ Q ≤ 255 ∧ wordsV (hdC x) (hdK x) (hdN x) = (Q : Int) + 1 := by
  have hd : decOk x = true := by
    unfold hdE at h
    cases e : decOk x with
    | true => rfl
    | false => rw [e] at h; simp at h
  unfold hdC hdK hdN wordsV
  rw [hd]
  simp only [if_true]
  have hh : headB (x / 256 % 256) (x % 256) (x / 65536 % 256) = true := by unfold decOk at hd; rw [Bool.and_eq_true] at hd; exact hd.1
  rw [if_pos hh]
  exact ⟨(x / 65536 % 256).toNat, by omega, by omega, by omega⟩
theorem look_len {P T R x : Int} {cs : List Int} (hr : Right P T R) (hl : cs.length = cellsN P T R) (h1 : holdB P T R cs x = true) {Q : Nat} (hQ : Q ≤ 255) (h4 : roomB P (entW P T R cs x % 4) (entW P T R cs x / 4 % 16) (placeI P T R x).1 ((Q : Int) + 1) = true) :
    ∃ n : Nat, x = (n : Int) ∧ n < cs.length ∧ n + 1 + Q ≤ cs.length := by
  obtain ⟨p0, p1, p2, p3⟩ := holdB_parts h1
  obtain ⟨q0, q1, q2, q3⟩ := place_in p0
  have hb := base_bd hr
  have hc := cellsN_bd hr
  have hP := place_lt p0
  change edecOk (entW P T R cs x) = true at p1
  change begB (entW P T R cs x % 4) (entW P T R cs x / 4 % 16) (placeI P T R x).2 = true at p2
  generalize entW P T R cs x = E at *
  refine ⟨x.toNat, by omega, by omega, ?_⟩
  rcases beg_kind p2 with hk | hk
  · have hcl := ent_cls p1 hk
    unfold begB at p2
    rw [if_pos hk] at p2
    have hf := cell_fit (wd := (placeI P T R x).2) hcl (by omega) (by simpa using p2)
    unfold roomB at h4
    rw [if_neg (by omega)] at h4
    have h5 : (Q : Int) + 1 ≤ widI (E / 4 % 16) := by simpa using h4
    omega
  · unfold begB at p2
    rw [if_neg (by omega), if_pos hk] at p2
    have ho : (placeI P T R x).2 = 0 := by simpa using p2
    unfold roomB at h4
    rw [if_pos hk] at h4
    have h5 : pgV ((Q : Int) + 1) = E / 4 % 16 ∧ (placeI P T R x).1 + pgV ((Q : Int) + 1) ≤ P := by simpa using h4
    have h6 : 1 ≤ E / 4 % 16 := by
      unfold edecOk at p1
      rw [Bool.and_eq_true] at p1
      have h7 := p1.1
      unfold entB at h7
      rw [hk] at h7
      simp [kindBEnt, inB] at h7
      omega
    have h8 : (Q : Int) + 1 ≤ 64 * pgV ((Q : Int) + 1) := by
      unfold pgV at h5 ⊢
      rw [if_neg (by omega), if_neg (by omega)] at h5 ⊢
      split at h5
      · omega
      · rw [if_neg (by assumption)]; omega
    omega
theorem look_in {P T R x : Int} {cs : List Int} (hr : Right P T R) (hl : cs.length = cellsN P T R) (h1 : holdB P T R cs x = true) : ∃ n : Nat, x = (n : Int) ∧ n < cs.length := by
  obtain ⟨p0, _⟩ := holdB_parts h1
  obtain ⟨q0, q1, _⟩ := place_in p0
  have hb := base_bd hr
  have hc := cellsN_bd hr
  exact ⟨x.toNat, by omega, by omega⟩
theorem hdE_cases (x : Int) : hdE x = 0 ∨ hdE x = 4 := by unfold hdE; split <;> simp
section
variable {w : World} {P T R : Int} {B a c n : Nat} {cs : List Int} {K : List Nat} {lo t m : Nat} {tv : Value} {L : List (ClsD × Value × Nat)} {d : Nat} {v : Value} {cl : List ClsD}
theorem fits_hold {x : Int} (h1 : holdB P T R cs x = true) (m : Int) (hm : 1 ≤ m ∧ m ≤ 256) : fitsB P (entW P T R cs x % 4) (entW P T R cs x / 4 % 16) (placeI P T R x).1 m = roomB P (entW P T R cs x % 4) (entW P T R cs x / 4 % 16) (placeI P T R x).1 m := by
  obtain ⟨p0, p1, p2, p3⟩ := holdB_parts h1
  exact fits_room (beg_kind p2) (fun hk => ent_err p1 hk) hm
theorem look_any (x : Int) (hr : Right P T R) (hA : Ary w B a c cs n K) (hW : Wid w) (hT : TabS w lo t tv m L) (hl : cs.length = cellsN P T R) (hU : ∀ z ∈ cs, U64 z) :
    Calls Tryz.prog 28 #[.pointer (some ⟨a, 0, none⟩), .agg #[.int .i64 P, .int .i64 T, .int .i64 R], .pointer (some ⟨t, 0, none⟩), .int .i64 x] w (LkAny x cs (lookE P T R cs (L.map (·.1)) x) w) := by
  unfold lookE
  cases h1 : holdB P T R cs x with
  | false => exact look_addr x hA hW hT (fun _ => hl) hU h1
  | true =>
    rw [if_neg (by simp)]
    obtain ⟨k, rfl, hk⟩ := look_in hr hl h1
    rw [Int.toNat_natCast]
    by_cases h2 : hdE (cs.getD k 0) = 0
    · obtain ⟨Q, h5, h6, h7⟩ := hd_bd h2
      have hf := fits_hold h1 (wordsV (hdC (cs.getD k 0)) (hdK (cs.getD k 0)) (hdN (cs.getD k 0))) (by rw [h7]; omega)
      cases h3 : fitI (L.map (·.1)) (hdC (cs.getD k 0)) (hdK (cs.getD k 0)) (hdN (cs.getD k 0)) with
      | false =>
        rw [if_neg (fun h => by simp at h)]
        exact look_class k hA hW hT hl hU hk h1 h2 h3
      | true =>
        cases h4 : roomB P (entW P T R cs k % 4) (entW P T R cs k / 4 % 16) (placeI P T R k).1 (wordsV (hdC (cs.getD k 0)) (hdK (cs.getD k 0)) (hdN (cs.getD k 0))) with
        | false =>
          rw [if_neg (fun h => by simp at h)]
          exact look_room k hA hW hT hl hU hk h1 h2 h3 (hf.trans h4)
        | true =>
          rw [if_pos ⟨h2, rfl, rfl⟩]
          have h8 := h4
          rw [h7] at h8
          obtain ⟨n', e, _, h9⟩ := look_len hr hl h1 h6 h8
          have e : n' = k := by omega
          subst e
          have := look_yes n' hA hW hT hl hU h1 h2 h3 (hf.trans h4) Q h5 h6 h9
          unfold LkAny
          rw [h5]
          exact this
    · have h2' : hdE (cs.getD k 0) = 4 := by rcases hdE_cases (cs.getD k 0) with h | h; exact absurd h h2; exact h
      rw [if_neg (fun h => h2 h.1)]
      exact look_head k hA hW hT hl hU hk h1 h2'
theorem rlook_any (x : Int) (hx : I64 x) (hr : Right P T R) (hd : Blk w d (cs.map (Value.int .u64)).toArray 57) (hl : cs.length = cellsN P T R) (hU : ∀ z ∈ cs, U64 z) (hc : RdRow 2 (ElC B) B w v cl) (hB : B ≤ w.heap.size) (hl6 : cl.length ≤ 16) (hf : ∀ d ∈ cl, d.fields.length ≤ 15) :
    Calls Tryz.prog 29 #[.slice (some ⟨d, 0, none⟩) (cellsN P T R) (cellsN P T R), mapV P T R, v, .int .i64 x] w (LkAny x cs (lookE P T R cs cl x) w) := by
  unfold lookE
  cases h1 : holdB P T R cs x with
  | false => exact rlook_addr x hr hx hd hl hU hc hB h1
  | true =>
    rw [if_neg (by simp)]
    obtain ⟨k, rfl, hk⟩ := look_in hr hl h1
    rw [Int.toNat_natCast]
    by_cases h2 : hdE (cs.getD k 0) = 0
    · obtain ⟨Q, h5, h6, h7⟩ := hd_bd h2
      cases h3 : fitI cl (hdC (cs.getD k 0)) (hdK (cs.getD k 0)) (hdN (cs.getD k 0)) with
      | false =>
        rw [if_neg (fun h => by simp at h)]
        exact rlook_class k hr hk hd hl hU hc hB hl6 hf h1 h2 h3
      | true =>
        cases h4 : roomB P (entW P T R cs k % 4) (entW P T R cs k / 4 % 16) (placeI P T R k).1 (wordsV (hdC (cs.getD k 0)) (hdK (cs.getD k 0)) (hdN (cs.getD k 0))) with
        | false =>
          rw [if_neg (fun h => by simp at h)]
          exact rlook_room k hr hk hd hl hU hc hB hl6 hf h1 h2 h3 h4
        | true =>
          rw [if_pos ⟨h2, rfl, rfl⟩]
          have h8 := h4
          rw [h7] at h8
          obtain ⟨n', e, _, h9⟩ := look_len hr hl h1 h6 h8
          have e : n' = k := by omega
          subst e
          have := rlook_yes n' hr hk hd hl hU hc hB hl6 hf h1 h2 h3 h4 Q h5 h6 h9
          unfold LkAny
          rw [h5]
          exact this
    · have h2' : hdE (cs.getD k 0) = 4 := by rcases hdE_cases (cs.getD k 0) with h | h; exact absurd h h2; exact h
      rw [if_neg (fun h => h2 h.1)]
      exact rlook_head k hr hk hd hl hU hc hB hl6 hf h1 h2'
end
end Go.Proofs.YtpoddnfooaddgaaGreatDoor
/- The document's SameCell, at two cells alike. Condition: both rows hold these words. -/
namespace Go.Proofs.YtpoddnfooaddgaaGreatDoor
open Go.RowKit
set_option linter.unusedVariables false
def lkZ (cs : List Int) (x N : Nat) : List Int := (List.range N).map (lkV cs x)
theorem lk_own {w : World} {base : Nat} {e : TypeId} {v : Value} {n : Nat} {cs : List Int} {x N : Nat} (h : w.ownsRow base e 1 v n (lkL cs x N)) : Lst .i64 w v (lkZ cs x N) := by
  have e : lkL cs x N = (lkZ cs x N).map (Value.int .i64) := by unfold lkL lkZ; rw [List.map_map]; rfl
  rw [e] at h
  exact lst_of_own h
theorem lst_shape {k : IntKind} {w : World} {v : Value} {zs : List Int} (h : Lst k w v zs) : ∃ a c, v = .slice a zs.length c := by
  rcases h with ⟨rfl, a, c, rfl⟩ | ⟨b, o, c, rfl, _⟩
  · exact ⟨a, c, rfl⟩
  · exact ⟨_, c, rfl⟩
set_option maxRecDepth 100000 in
set_option maxHeartbeats 2000000 in
theorem samecell_any (x c k : Int) (u1 u2 : Value) (zs : List Int) (w : World) (h1 : Lst .i64 w u1 zs) (h2 : Lst .i64 w u2 zs) :
    Calls Tryz.prog 32 #[.agg #[.int .i64 x, .int .i64 c, .int .i64 k, u1], .agg #[.int .i64 x, .int .i64 c, .int .i64 k, u2]] w fun e w' => e = .returned (.bool true) ∧ Below w.heap.size w w' := by
  obtain ⟨a1, c1, rfl⟩ := lst_shape h1
  obtain ⟨a2, c2, rfl⟩ := lst_shape h2
  have k1 : Blk ((w.alloc (.cells #[.int .i64 x, .int .i64 c, .int .i64 k, .slice a1 zs.length c1] 80)).alloc (.cells #[.int .i64 x, .int .i64 c, .int .i64 k, .slice a2 zs.length c2] 80)) w.heap.size #[.int .i64 x, .int .i64 c, .int .i64 k, .slice a1 zs.length c1] 80 := (Blk.new _ _ _).alloc _
  have k2 : Blk ((w.alloc (.cells #[.int .i64 x, .int .i64 c, .int .i64 k, .slice a1 zs.length c1] 80)).alloc (.cells #[.int .i64 x, .int .i64 c, .int .i64 k, .slice a2 zs.length c2] 80)) (w.heap.size + 1) #[.int .i64 x, .int .i64 c, .int .i64 k, .slice a2 zs.length c2] 80 := Blk.new' (by simp)
  have hB : Below w.heap.size w ((w.alloc (.cells #[.int .i64 x, .int .i64 c, .int .i64 k, .slice a1 zs.length c1] 80)).alloc (.cells #[.int .i64 x, .int .i64 c, .int .i64 k, .slice a2 zs.length c2] 80)) := ((Below.refl _ _).alloc (Nat.le_refl _) _).alloc (by simp) _
  have LG := Lib.hid (longs_any _ _ zs _ (h1.below hB) (h2.below hB))
  have HB := Lib.hid hB
  have x0 := k1.val 0 rfl
  have x1 := k1.val 1 rfl
  have x2 := k1.val 2 rfl
  have x3 := k1.val 3 rfl
  have y0 := k2.val 0 rfl
  have y1 := k2.val 1 rfl
  have y2 := k2.val 2 rfl
  have y3 := k2.val 3 rfl
  have ex : (x == x) = true := by simp
  have ec : (c == c) = true := by simp
  have ek : (k == k) = true := by simp
  clear h1 h2 hB k1 k2
  go_enter Tryz.func32, Tryz.ntmps32
  go_wp2_with fail
  refine LG.out.mono ?_; rintro e w1 ⟨rfl, hq⟩
  go_wp2
  go_ret
  exact ⟨rfl, HB.out.trans (hq.below.mono HB.out.size)⟩
/-- what Look answers, as numbers and a row -/
def lkX (r : Except Int (Int × Int × Nat)) (x : Int) : Int := match r with | .ok _ => x | .error _ => 0
def lkC (r : Except Int (Int × Int × Nat)) : Int := match r with | .ok q => q.1 | .error _ => 0
def lkK (r : Except Int (Int × Int × Nat)) : Int := match r with | .ok q => q.2.1 | .error _ => 0
def lkW (r : Except Int (Int × Int × Nat)) (cs : List Int) (x : Int) : List Int := match r with | .ok q => lkZ cs x.toNat q.2.2 | .error _ => []
def lkN (r : Except Int (Int × Int × Nat)) : Int := match r with | .ok _ => 0 | .error n => n
theorem LkAny.vals {x : Int} {cs : List Int} {r : Except Int (Int × Int × Nat)} {w : World} {e : Ending} {w' : World} (h : LkAny x cs r w e w') :
    ∃ a q, e = .returned (.tuple #[.agg #[.int .i64 (lkX r x), .int .i64 (lkC r), .int .i64 (lkK r), .slice a (lkW r cs x).length q], .int .i64 (lkN r)]) ∧ Lst .i64 w' (.slice a (lkW r cs x).length q) (lkW r cs x) ∧ Below w.heap.size w w' := by
  cases r with
  | ok q =>
    obtain ⟨u, rfl, ho, hb⟩ := h
    have hl := lk_own ho
    obtain ⟨a, c, rfl⟩ := lst_shape hl
    exact ⟨a, c, rfl, hl, hb⟩
  | error n =>
    obtain ⟨rfl, hb⟩ := h
    exact ⟨none, 0, rfl, .inl ⟨rfl, none, 0, rfl⟩, hb⟩
end Go.Proofs.YtpoddnfooaddgaaGreatDoor
