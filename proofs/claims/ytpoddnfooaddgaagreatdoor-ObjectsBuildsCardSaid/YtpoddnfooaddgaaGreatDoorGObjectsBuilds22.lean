/- Texts of this seat, one behind the other: each says at its head what it holds. No condition of its own. -/
import Derived.Deep.CutBlock
import Derived.Deep.DeepCutAuto
import Derived.BigQuiet
import Derived.Test.YtpoddnfooaddgaaGreatDoorGObjectsBuilds14
import Derived.Test.YtpoddnfooaddgaaGreatDoorGObjectsBuilds15
import Derived.Test.YtpoddnfooaddgaaGreatDoorGObjectsBuilds18
import Derived.Test.YtpoddnfooaddgaaGreatDoorGObjectsBuilds19
import Derived.Test.YtpoddnfooaddgaaGreatDoorGObjectsBuilds20
import Derived.Test.YtpoddnfooaddgaaGreatDoorGObjectsBuilds21
/- Package objects: Look at an object that is there. Conditions: the arena is there, with as many cells as the plan says; the table is there; sizes' table lies as the start lays it. -/
namespace Go.Proofs.YtpoddnfooaddgaaGreatDoor
open Go.RowKit
set_option linter.unusedVariables false
theorem holdB_parts {P T R : Int} {cs : List Int} {x : Int} (h : holdB P T R cs x = true) :
    0 ≤ (placeI P T R x).1 ∧ edecOk (cs.getD (rowN P T R 0 (placeI P T R x).1) 0) = true ∧ begB (cs.getD (rowN P T R 0 (placeI P T R x).1) 0 % 4) (cs.getD (rowN P T R 0 (placeI P T R x).1) 0 / 4 % 16) (placeI P T R x).2 = true ∧ bitB (cs.getD (rowN P T R 1 (placeI P T R x).1) 0) (placeI P T R x).2 = true := by
  unfold holdB at h
  rw [Bool.and_eq_true, Bool.and_eq_true, Bool.and_eq_true, decide_eq_true_eq] at h
  exact h
theorem getD_U {cs : List Int} (h : ∀ z ∈ cs, U64 z) (i : Nat) : U64 (cs.getD i 0) := by
  rw [List.getD_eq_getElem?_getD]
  cases e : cs[i]? with
  | none => exact ⟨by decide, by decide⟩
  | some z => exact h z (List.mem_of_getElem? e)
def lkV (cs : List Int) (x : Nat) (i : Nat) : Int := wrap64 (cs.getD (x + 1 + i) 0)
def lkL (cs : List Int) (x N : Nat) : List Value := (List.range N).map fun i => Value.int .i64 (lkV cs x i)
theorem lkL_succ (cs : List Int) (x N : Nat) : lkL cs x (N + 1) = lkL cs x N ++ [Value.int .i64 (lkV cs x N)] := by unfold lkL; rw [List.range_succ, List.map_append]; rfl
theorem lkL_len (cs : List Int) (x N : Nat) : (lkL cs x N).length = N := by unfold lkL; simp
structure LkS (w : World) (P T R : Int) (B a c n : Nat) (cs : List Int) (K : List Nat) (lo t m : Nat) (tv : Value) (L : List (ClsD × Value × Nat)) (W : World) : Prop where
  pl : Blk W w.heap.size #[.int .i64 P, .int .i64 T, .int .i64 R] 42
  res : Blk W (w.heap.size + 1) #[.int .i64 0, .int .i64 0, .int .i64 0, .slice none 0 0] 80
  ary : Ary W B a c cs n K
  wid : Wid W
  tab : TabS W lo t tv m L
  bel : Below w.heap.size w W
theorem info_i64 : (Tryz.prog.info? 2).map (fun i => (i.zero, i.size, i.bytes)) = some (some (.int .i64 0), 1, 8) := by kernel_rfl
def LkPost (x : Int) (c k : Int) (vs : List Value) (w : World) (e : Ending) (w' : World) : Prop :=
  ∃ u, e = .returned (.tuple #[.agg #[.int .i64 x, .int .i64 c, .int .i64 k, u], .int .i64 0]) ∧ w'.ownsRow w.heap.size 2 1 u vs.length vs ∧ Below w.heap.size w w'
section
variable {w W W' : World} {P T R : Int} {B a c n : Nat} {cs : List Int} {K : List Nat} {lo t m : Nat} {tv : Value} {L : List (ClsD × Value × Nat)}
theorem LkS.grew (h : LkS w P T R B a c n cs K lo t m tv L W) (hb : Below W.heap.size W W') : LkS w P T R B a c n cs K lo t m tv L W' := ⟨h.pl.grew hb, h.res.grew hb, h.ary.grew hb, h.wid.grew hb, h.tab.grew hb, h.bel.trans (hb.mono h.bel.size)⟩
theorem LkS.alloc (h : LkS w P T R B a c n cs K lo t m tv L W) (o : Obj) : LkS w P T R B a c n cs K lo t m tv L (W.alloc o) := h.grew ((Below.refl _ _).alloc (Nat.le_refl _) _)
theorem LkS.new (h : Ary w B a c cs n K) (hW : Wid w) (hT : TabS w lo t tv m L) : LkS w P T R B a c n cs K lo t m tv L ((w.alloc (.cells #[.int .i64 P, .int .i64 T, .int .i64 R] 42)).alloc (.cells #[.int .i64 0, .int .i64 0, .int .i64 0, .slice none 0 0] 80)) :=
  have hb : Below w.heap.size w ((w.alloc (.cells #[.int .i64 P, .int .i64 T, .int .i64 R] 42)).alloc (.cells #[.int .i64 0, .int .i64 0, .int .i64 0, .slice none 0 0] 80)) := ((Below.refl _ _).alloc (Nat.le_refl _) _).alloc (by simp) _
  ⟨(Blk.new _ _ _).alloc _, Blk.new' (by simp), h.grew hb, hW.grew hb, hT.grew hb, hb⟩
set_option maxRecDepth 100000 in
set_option maxHeartbeats 8000000 in
theorem look_yes (x : Nat) (hA : Ary w B a c cs n K) (hW : Wid w) (hT : TabS w lo t tv m L) (hl : cs.length = cellsN P T R) (hU : ∀ z ∈ cs, U64 z)
    (h1 : holdB P T R cs x = true) (h2 : hdE (cs.getD x 0) = 0) (h3 : fitI (L.map (·.1)) (hdC (cs.getD x 0)) (hdK (cs.getD x 0)) (hdN (cs.getD x 0)) = true)
    (h4 : fitsB P (cs.getD (rowN P T R 0 (placeI P T R x).1) 0 % 4) (cs.getD (rowN P T R 0 (placeI P T R x).1) 0 / 4 % 16) (placeI P T R x).1 (wordsV (hdC (cs.getD x 0)) (hdK (cs.getD x 0)) (hdN (cs.getD x 0))) = true)
    (N : Nat) (h5 : hdN (cs.getD x 0) = (N : Int)) (h6 : N ≤ 255) (h7 : x + 1 + N ≤ cs.length) :
    Calls Tryz.prog 28 #[.pointer (some ⟨a, 0, none⟩), .agg #[.int .i64 P, .int .i64 T, .int .i64 R], .pointer (some ⟨t, 0, none⟩), .int .i64 (x : Int)] w (LkPost x (hdC (cs.getD x 0)) (hdK (cs.getD x 0)) (lkL cs x N) w) := by
  obtain ⟨p0, p1, p2, p3⟩ := holdB_parts h1
  have hr := place_right p0
  have hcl := (cellsN_bd hr).2.2
  have hpb := place_bdO P T R x
  have HO := Lib.hid (fun W (hA : Ary W B a c cs n K) (hW : Wid W) => holder_yes P T R x hA hW p0 hl (getD_U hU _) p1 p2 p3 (getD_U hU _))
  have HA := Lib.hid (fun W (hA : Ary W B a c cs n K) => headAt_any x hA (by omega) (by omega) (getD_U hU _))
  have FT := Lib.hid (fun W (hT : TabS W lo t tv m L) => fits_any W lo t m tv L (hdC (cs.getD x 0)) (hdK (cs.getD x 0)) (hdN (cs.getD x 0)) hT)
  have WD := Lib.hid (fun W => words_anyRhead (hdC (cs.getD x 0)) (hdK (cs.getD x 0)) (hdN (cs.getD x 0)) W)
  have FS := Lib.hid (fun W (hW : Wid W) => fits_anyO P T R (placeI P T R x).1 (cs.getD (rowN P T R 0 (placeI P T R x).1) 0 % 4) (cs.getD (rowN P T R 0 (placeI P T R x).1) 0 / 4 % 16) (cs.getD (rowN P T R 0 (placeI P T R x).1) 0 / 64 % 4) (cs.getD (rowN P T R 0 (placeI P T R x).1) 0 / 256 % 16) (cs.getD (rowN P T R 0 (placeI P T R x).1) 0 / 65536 % 4294967296) (wordsV (hdC (cs.getD x 0)) (hdK (cs.getD x 0)) (hdN (cs.getD x 0))) W hW p0 hpb.2.1)
  unfold entV at HO
  rw [h2] at HA
  rw [h3] at FT
  rw [h4] at FS
  have PK := Lib.hid (fun W (i : Nat) (hi : i < N) (hA : Ary W B a c cs n K) => apeek hA (i := x + 1 + i) (by omega) (by omega))
  have FD := Lib.hid (fun W (i : Nat) (hi : i < N) => (by
    have := ofield_any (x : Int) (i : Int) W
    rw [show wrap64 (wrap64 ((x : Int) + 1) + (i : Int)) = ((x + 1 + i : Nat) : Int) by rw [IntWalk.wrap64_in ((x : Int) + 1) ⟨by omega, by omega⟩, IntWalk.wrap64_in _ ⟨by omega, by omega⟩]; omega] at this
    exact this : Calls Tryz.prog 53 #[.int .i64 (x : Int), .int .i64 (i : Int)] W fun e w' => e = .returned (.int .i64 ((x + 1 + i : Nat) : Int)) ∧ w' = W))
  have hS := LkS.new (P := P) (T := T) (R := R) hA hW hT
  rw [h5] at HA FT WD FS
  clear h1 h2 h3 h4 h5 h7 hA hW hT hU hl p0 p1 p2 p3 hr hcl
  unfold LkPost
  rw [lkL_len]
  generalize wordsV (hdC (cs.getD x 0)) (hdK (cs.getD x 0)) (N : Int) = M at *
  generalize hdC (cs.getD x 0) = hc at *
  generalize hdK (cs.getD x 0) = hk at *
  generalize cs.getD (rowN P T R 0 (placeI P T R x).1) 0 % 4 = q0 at *
  generalize cs.getD (rowN P T R 0 (placeI P T R x).1) 0 / 4 % 16 = q1 at *
  generalize cs.getD (rowN P T R 0 (placeI P T R x).1) 0 / 64 % 4 = q2 at *
  generalize cs.getD (rowN P T R 0 (placeI P T R x).1) 0 / 256 % 16 = q3 at *
  generalize cs.getD (rowN P T R 0 (placeI P T R x).1) 0 / 65536 % 4294967296 = q4 at *
  generalize (placeI P T R x).1 = pg at *
  obtain ⟨a0, a1, a2⟩ := hS.pl.three.1
  go_enter Tryz.func28, Tryz.ntmps28
  go_wp2_with fail
  refine (HO.out _ hS.ary hS.wid).mono ?_; rintro e w1 ⟨rfl, hb1⟩
  have hS1 := hS.grew hb1
  clear hS hb1 a0 a1 a2 HO
  go_upto_region 4 with fail
  have hE := entNew w1 q0 q1 q2 q3 q4 143
  have hS2 := hS1.alloc (.cells #[.int .i64 q0, .int .i64 q1, .int .i64 q2, .int .i64 q3, .int .i64 q4] 143)
  clear hS1
  generalize hw2 : w1.alloc (.cells #[.int .i64 q0, .int .i64 q1, .int .i64 q2, .int .i64 q3, .int .i64 q4] 143) = w2 at *
  replace hw2 := Lib.hid hw2
  generalize w1.heap.size = be at *
  go_wp2_with fail
  refine (HA.out _ hS2.ary).mono ?_; rintro e w3 ⟨rfl, hb3⟩
  have hS3 := hS2.grew hb3
  have hE3 := hE.grew hb3
  clear hS2 hE hb3 HA
  go_upto_region 5 with fail
  have hH := Blk.new w3 #[.int .i64 hc, .int .i64 hk, .int .i64 (N : Int)] 44
  have hS4 := hS3.alloc (.cells #[.int .i64 hc, .int .i64 hk, .int .i64 (N : Int)] 44)
  have hE4 := hE3.alloc (.cells #[.int .i64 hc, .int .i64 hk, .int .i64 (N : Int)] 44)
  clear hS3 hE3
  generalize hw4 : w3.alloc (.cells #[.int .i64 hc, .int .i64 hk, .int .i64 (N : Int)] 44) = w4 at *
  replace hw4 := Lib.hid hw4
  generalize w3.heap.size = bh at *
  have SQ := Lib.hid (fun W (hb : Below w4.heap.size w4 W) => show (W.cell? ⟨w.heap.size, 0, none⟩ = some (.int .i64 P) ∧ W.cell? ⟨w.heap.size, 1, none⟩ = some (.int .i64 T) ∧ W.cell? ⟨w.heap.size, 2, none⟩ = some (.int .i64 R)) ∧ (W.cell? ⟨be, 0, none⟩ = some (.int .i64 q0) ∧ W.cell? ⟨be, 1, none⟩ = some (.int .i64 q1) ∧ W.cell? ⟨be, 2, none⟩ = some (.int .i64 q2) ∧ W.cell? ⟨be, 3, none⟩ = some (.int .i64 q3) ∧ W.cell? ⟨be, 4, none⟩ = some (.int .i64 q4)) ∧ (W.cell? ⟨bh, 0, none⟩ = some (.int .i64 hc) ∧ W.cell? ⟨bh, 1, none⟩ = some (.int .i64 hk) ∧ W.cell? ⟨bh, 2, none⟩ = some (.int .i64 (N : Int))) from
    ⟨(hS4.grew hb).pl.three.1, five_at (hE4.grew hb), (hH.grew hb).three.1⟩)
  have HF := Lib.hid (fun W (hb : Below w4.heap.size w4 W) => FT.out W (hS4.grew hb).tab)
  have HS := Lib.hid (fun W (hb : Below w4.heap.size w4 W) => FS.out W (hS4.grew hb).wid)
  have B4 : Below w4.heap.size w4 w4.drew := Quiet.below ⟨1, rfl⟩
  have KB := Lib.hid (fun (A C : World) (hb : Below A.heap.size A C) (h : Below w4.heap.size w4 A) => h.trans (hb.mono h.size))
  clear FT FS
  go_region_held3 (fun W => ((W.cell? ⟨w.heap.size, 0, none⟩ = some (.int .i64 P) ∧ W.cell? ⟨w.heap.size, 1, none⟩ = some (.int .i64 T) ∧ W.cell? ⟨w.heap.size, 2, none⟩ = some (.int .i64 R)) ∧ (W.cell? ⟨be, 0, none⟩ = some (.int .i64 q0) ∧ W.cell? ⟨be, 1, none⟩ = some (.int .i64 q1) ∧ W.cell? ⟨be, 2, none⟩ = some (.int .i64 q2) ∧ W.cell? ⟨be, 3, none⟩ = some (.int .i64 q3) ∧ W.cell? ⟨be, 4, none⟩ = some (.int .i64 q4)) ∧ (W.cell? ⟨bh, 0, none⟩ = some (.int .i64 hc) ∧ W.cell? ⟨bh, 1, none⟩ = some (.int .i64 hk) ∧ W.cell? ⟨bh, 2, none⟩ = some (.int .i64 (N : Int)))) ∧ Below w4.heap.size w4 W)
    (first | (with_reducible exact ⟨SQ.out _ B4, B4⟩) | (with_reducible exact ⟨SQ.out _ hg7, hg7⟩) | (have hg := KB.out _ _ (by assumption) (And.right (by assumption)); exact ⟨SQ.out _ hg, hg⟩))
    (first
      | (go_at_call 62; refine (HF.out _ (And.right (by assumption))).mono ?_; rintro e w5 ⟨rfl, hb5⟩)
      | (go_at_call 47; refine (WD.out _).mono ?_; rintro e w6 ⟨rfl, hb6⟩)
      | (go_at_call 63; refine (HS.out _ (And.right (by assumption))).mono ?_; rintro e w7 ⟨rfl, hb7⟩; have hg7 := KB.out _ _ hb7 (And.right (by assumption))))
  have hS7 := hS4.grew hg7
  have hH7 := hH.grew hg7
  clear hS4 hE4 hH SQ HF HS B4 KB WD
  have hd := hH7.three.1
  obtain ⟨d0, d1, d2⟩ := hd
  have KS := Lib.hid (fun W (hb : Below w7.heap.size w7 W) => hS7.grew hb)
  have KH := Lib.hid (fun W (hb : Below w7.heap.size w7 W) => (hH7.grew hb).three.1)
  have hC : Blk (w7.alloc (.cells #[.int .i64 (x : Int), .int .i64 hc, .int .i64 hk, .slice none 0 0] 80)) w7.heap.size #[.int .i64 (x : Int), .int .i64 hc, .int .i64 hk, .slice none 0 0] 80 := Blk.new _ _ _
  have hB8 : Below w7.heap.size w7 (w7.alloc (.cells #[.int .i64 (x : Int), .int .i64 hc, .int .i64 hk, .slice none 0 0] 80)) := (Below.refl _ _).alloc (Nat.le_refl _) _
  obtain ⟨i0, Z⟩ := info_parts info_i64
  have Z := Lib.hid Z
  clear hS7 hH7 hg7
  go_upto_region 8 with fail
  clear d0 d1 d2
  obtain ⟨d0, d1, d2⟩ := KH.out _ hB8
  generalize hw8 : w7.alloc (.cells #[.int .i64 (x : Int), .int .i64 hc, .int .i64 hk, .slice none 0 0] 80) = wA at *
  replace hw8 := Lib.hid hw8
  have hbc2 : w.heap.size + 1 < w7.heap.size := Blk.lt (KS.out _ (Below.refl _ _)).res
  generalize hbc : w7.heap.size = bc at *
  replace hbc := Lib.hid hbc
  go_wp2_with fail
  clear d0 d1 d2
  go_loopw [62] (fun s wr => ∃ (j : Nat) (u : Value), j ≤ N ∧ s = .int .i64 j ∧ Below bc w7 wr ∧ Blk wr bc #[.int .i64 (x : Int), .int .i64 hc, .int .i64 hk, u] 80 ∧ wr.ownsRow (bc + 1) 2 1 u j (lkL cs x j)) (fun s _ => N - (intOf s).toNat)
  case atStart => exact ⟨0, _, Nat.zero_le _, rfl, hB8, hC, World.ownsRow_nil _ _ _ _⟩
  case round =>
    clear hC hB8
    obtain ⟨j, u, hj, rfl, hb, hC, ho⟩ := hrel
    obtain ⟨a5, k5, hu5⟩ : ∃ a c, u = .slice a j c := by
      rcases ho.2 with ⟨h1, h2⟩ | ⟨g, cap, cur, h1, _⟩
      · exact ⟨none, 0, by rw [h1, h2]⟩
      · exact ⟨_, cap, h1⟩
    subst hu5
    by_cases hlt : j < N
    · have hlt' : (j : Int) < (N : Int) := by omega
      have hS := KS.out _ hb
      go_wp2_with fail
      refine (FD.out _ j hlt).mono ?_; rintro e w8 ⟨rfl, rfl⟩
      go_wp2_with fail
      refine (PK.out _ j hlt hS.ary).mono ?_; rintro e w8 ⟨rfl, hq8⟩
      have hC8 := hC.quiet hq8
      have ho8 := Quiet.ownsRow hq8 ho
      have hb8 := hb.trans hq8.below
      clear hC ho hb hS hq8
      have hz := Lib.hid (lkL_succ cs x j)
      unfold lkV at hz
      generalize cs.getD (x + 1 + j) 0 = z at *
      have hbt := (Below.refl w8.heap.size w8).alloc (Nat.le_refl _) (.cells #[.int .i64 (wrap64 z)] 2)
      have HO9 := Lib.hid (own_grewG ho8 hbt)
      have HK9 := Lib.hid (Blk.new w8 #[.int .i64 (wrap64 z)] 2)
      have hC9 := hC8.grew hbt
      have HC9 := Lib.hid hC9
      have hsz8 : bc ≤ w8.heap.size := by have := hb8.size; have := hbc.out; omega
      have HB9 := Lib.hid (hb8.trans (hbt.mono hsz8))
      have HSZ := Lib.hid (Nat.le_trans (Nat.succ_le_of_lt hC8.lt) hbt.size)
      have c3 := hC8.val 3 rfl
      have hjm : j ≤ 255 := by omega
      have HJ := Lib.hid hjm
      have hbcz := Lib.hid (show w7.heap.size ≤ bc from Nat.le_of_eq hbc.out)
      clear hC8 ho8 hb8 hbt hC9 hjm hsz8
      go_wp2_with (at_builtin; refine wpList_append_own_at _ rfl _ _ 78 rfl (bc + 1) 2 i0 _ 1 8 Tryz.underlying78 Z.out.1 Z.out.2.1 Z.out.2.2.1 Z.out.2.2.2 rfl (by decide) (.slice a5 j k5) j (lkL cs x j) rfl HO9.out ⟨w8.heap.size, 0, none⟩ 1 1 [.int .i64 (wrap64 z)] rfl rfl (World.news_of_block HK9.out) (by simp [Value.oneCell']) (by have := HJ.out; unfold maxLen; omega) (by have := HJ.out; omega) HSZ.out ?_)
      intro u' w6 hown hgrow _ _
      obtain ⟨a6, k6, hu6⟩ : ∃ a c, u' = .slice a (j + 1) c := by
        rcases hown.2 with ⟨h1, h2⟩ | ⟨g, cap, cur, h1, _⟩
        · exact absurd h2 (by omega)
        · exact ⟨_, cap, h1⟩
      subst hu6
      have hC6 := HC9.out.of (hgrow.block _ HC9.out.lt (fun e => by have := (own_ltG HO9.out e.symm).1; omega))
      have c36 := hC6.val 3 rfl
      have f36 := hC6.frozen 3
      have hb6 := HB9.out.grown hgrow (Nat.le_of_succ_le HSZ.out) (fun q hq => by have := (own_ltG HO9.out hq).1; have := hbcz.out; omega)
      have hC7 : Blk (w6.setCell ⟨bc, 3, none⟩ (.slice a6 (j + 1) k6)) bc #[.int .i64 (x : Int), .int .i64 hc, .int .i64 hk, .slice a6 (j + 1) k6] 80 := hC6.set 3 (.slice a6 (j + 1) k6)
      have hb7 := hb6.setCell (p := ⟨bc, 3, none⟩) (by simp) (.slice a6 (j + 1) k6)
      have ho7 := own_touch hown (Touch.setCell (R := fun k => k = bc) (p := ⟨bc, 3, none⟩) (Touch.refl _ _) rfl (.slice a6 (j + 1) k6)) (fun g e h => by have := (own_ltG hown e).1; omega)
      have HF := Lib.hid (And.intro hb7 (And.intro hC7 ho7))
      clear hown hgrow hC6 hb6 hC7 hb7 ho7 c3
      go_wp2
      go_roundw
      case rel => exact ⟨j + 1, _, by omega, by go_num, HF.out.1, HF.out.2.1, by rw [hz.out]; exact HF.out.2.2⟩
      case measure => simp [intOf]; omega
    · obtain rfl : j = N := by omega
      have hlt' : ¬ (j : Int) < (j : Int) := by omega
      have hS := KS.out _ hb
      have c0 := hC.val 0 rfl
      have c1 := hC.val 1 rfl
      have c2 := hC.val 2 rfl
      have c3 := hC.val 3 rfl
      have r0 := hS.res.val 0 rfl
      have r1 := hS.res.val 1 rfl
      have r2 := hS.res.val 2 rfl
      have r3 := hS.res.val 3 rfl
      have f0 := hS.res.frozen 0
      have f1 := hS.res.frozen 1
      have f2 := hS.res.frozen 2
      have f3 := hS.res.frozen 3
      have hZ : Blk ((((wr.setCell ⟨w.heap.size + 1, 0, none⟩ (.int .i64 x)).setCell ⟨w.heap.size + 1, 1, none⟩ (.int .i64 hc)).setCell ⟨w.heap.size + 1, 2, none⟩ (.int .i64 hk)).setCell ⟨w.heap.size + 1, 3, none⟩ (.slice a5 j k5)) (w.heap.size + 1) #[.int .i64 x, .int .i64 hc, .int .i64 hk, .slice a5 j k5] 80 :=
        (((hS.res.set 0 (.int .i64 x)).set 1 (.int .i64 hc)).set 2 (.int .i64 hk)).set 3 (.slice a5 j k5)
      have hB9 : Below w.heap.size w ((((wr.setCell ⟨w.heap.size + 1, 0, none⟩ (.int .i64 x)).setCell ⟨w.heap.size + 1, 1, none⟩ (.int .i64 hc)).setCell ⟨w.heap.size + 1, 2, none⟩ (.int .i64 hk)).setCell ⟨w.heap.size + 1, 3, none⟩ (.slice a5 j k5)) :=
        (((hS.bel.setCell (p := ⟨w.heap.size + 1, 0, none⟩) (by simp) _).setCell (p := ⟨w.heap.size + 1, 1, none⟩) (by simp) _).setCell (p := ⟨w.heap.size + 1, 2, none⟩) (by simp) _).setCell (p := ⟨w.heap.size + 1, 3, none⟩) (by simp) _
      have hT9 : Touch (fun b => b = w.heap.size + 1) wr ((((wr.setCell ⟨w.heap.size + 1, 0, none⟩ (.int .i64 x)).setCell ⟨w.heap.size + 1, 1, none⟩ (.int .i64 hc)).setCell ⟨w.heap.size + 1, 2, none⟩ (.int .i64 hk)).setCell ⟨w.heap.size + 1, 3, none⟩ (.slice a5 j k5)) :=
        ((((Touch.refl (fun b => b = w.heap.size + 1) wr).setCell (p := ⟨w.heap.size + 1, 0, none⟩) rfl _).setCell (p := ⟨w.heap.size + 1, 1, none⟩) rfl _).setCell (p := ⟨w.heap.size + 1, 2, none⟩) rfl _).setCell (p := ⟨w.heap.size + 1, 3, none⟩) rfl _
      have ho9 := own_sub (own_touch ho hT9 (fun g e h => by have := (own_ltG ho e).1; omega)) (show w.heap.size ≤ bc + 1 by omega)
      have HF := Lib.hid (And.intro hZ (And.intro hB9 ho9))
      clear hZ hB9 ho9 hT9 ho hC hS hb
      go_wp2
      generalize World.setCell (World.setCell (World.setCell (World.setCell _ _ _) _ _) _ _) _ _ = W9 at *
      obtain ⟨hZ, hB9, ho9⟩ := HF.out
      have z0 := hZ.val 0 rfl
      have z1 := hZ.val 1 rfl
      have z2 := hZ.val 2 rfl
      have z3 := hZ.val 3 rfl
      exact bodyPost_ret (v := .tuple #[.agg #[.int .i64 x, .int .i64 hc, .int .i64 hk, .slice a5 j k5], .int .i64 0]) (by simp [results, Tryz.results28, go_sem, z0, z1, z2, z3]) rfl ⟨_, rfl, ho9, hB9⟩
end
end Go.Proofs.YtpoddnfooaddgaaGreatDoor
/- The law's 'lay': an arena and a row of the same words. Condition: the plan is right; the words are read in full. -/
namespace Go.Proofs.YtpoddnfooaddgaaGreatDoor
open Go.RowKit
set_option linter.unusedVariables false
def OLay (P T R : Int) (l : List (Int × Int)) (w : World) (e : Ending) (w' : World) : Prop :=
  ∃ a c d, e = .returned (.tuple #[.pointer (some ⟨a, 0, none⟩), .slice (some ⟨d, 0, none⟩) (cellsN P T R) (cellsN P T R), .bool true]) ∧ LyS w w.heap.size a c d (layL (cellsN P T R) (l.take 300)) w' ∧ w.heap.size ≤ d
set_option maxRecDepth 100000 in
set_option maxHeartbeats 2000000 in
theorem olay_yes (P T R : Int) (v : Value) (l : List (Int × Int)) (w : World) (h : Right P T R) (hl : RdRow 2 ElW w.heap.size w v l) :
    Calls Tryz.prog 7 #[.agg #[.int .i64 P, .int .i64 T, .int .i64 R], v] w (OLay P T R l w) := by
  obtain ⟨a1, q1, rfl, hx⟩ := hl
  have hl : RdRow 2 ElW w.heap.size w (.slice a1 l.length q1) l := ⟨a1, q1, rfl, hx⟩
  clear hx
  have RP := Lib.hid (fun W (hb : Below w.heap.size w W) => hl.keep hb fun _ _ _ e r => r.keep hb e)
  obtain ⟨hN, hN1, hN2⟩ := cellsN_bd h
  have CC := Lib.hid (fun W => rcells_yes P T R W h)
  rw [← hN] at CC
  clear hl h hN
  unfold OLay
  generalize cellsN P T R = N at *
  have NY := Lib.hid (fun W => new_yes N true W (by omega) (by omega))
  have hmk := fun W => run_mk W (N : Int) (by omega) (by omega)
  have KN := Lib.hid (fun x => layAt_val (N := N) (by omega) (by omega) x)
  have LN := Lib.hid (fun x => layAt_lt (N := N) (by omega) x)
  have LL := Lib.hid (fun x => layL_len N x)
  go_enter Tryz.func7, Tryz.ntmps7
  have c0 := (planNew w P T R 23)
  go_wp2_with fail
  refine (CC.out _).mono ?_; rintro e w1 ⟨rfl, hb1⟩
  have c1 := planKeep c0 hb1
  have hB1 := c1.2
  clear c0 hb1 c1
  go_wp2_with fail
  clear hmk
  have hd0 : Blk (w1.alloc (.cells (zeros N) 57)) w1.heap.size (zeros N) 57 := Blk.new _ _ _
  have hB2 := hB1.alloc hB1.size (.cells (zeros N) 57)
  have hs2 : (w1.alloc (.cells (zeros N) 57)).heap.size = w1.heap.size + 1 := by simp
  have hs1 := hB1.size
  generalize w1.alloc (.cells (zeros N) 57) = w2 at *
  refine (NY.out _).mono ?_; rintro e w3 ⟨a, c, rfl, hA3, ha, hc, hb3⟩
  have hS3 : LyS w w.heap.size a c w1.heap.size (layL N []) w3 := by
    refine ⟨⟨[], ⟨.slice none 0 0, ⟨hA3, World.ownsRow_nil _ _ _ _, by simp [Value.ownBlock], by simp [Value.ownBlock]⟩, fun g e => by simp [Value.ownBlock] at e⟩, by simp; omega, by simp; omega, fun b hb => by rw [List.mem_singleton.1 hb]; have := hb3.size; omega, by omega, by omega, Nat.le_trans hB2.size hb3.size⟩, hd0.grew hb3, hB2.trans (hb3.mono hB2.size)⟩
  clear hA3 hd0 hB1 hB2 hb3 NY ha hc
  replace hs1 := Lib.hid hs1
  go_wp2_with fail
  go_loopw [10] (fun i wr => ∃ k : Nat, k ≤ (l.take 300).length ∧ i = .int .i64 k ∧ LyS w w.heap.size a c w1.heap.size (layL N ((l.take 300).take k)) wr) (fun i _ => (l.take 300).length - (intOf i).toNat)
  case atStart => exact ⟨0, Nat.zero_le _, rfl, hS3⟩
  case round =>
    clear hS3
    obtain ⟨k, hk, rfl, hS⟩ := hrel
    have hl3 : (l.take 300).length = min 300 l.length := List.length_take ..
    by_cases hlt : k < (l.take 300).length
    · have hkl : k < l.length := by omega
      have hk1 : (k : Int) < (l.length : Int) := by omega
      have hk2 : (k : Int) < 300 := by omega
      obtain ⟨b, o, rfl, hbw, ex1, ex2, ex3⟩ := rd_at (RP.out _ hS.bel) hkl
      have hsn : Hid (layL N ((l.take 300).take (k + 1)) = (layL N ((l.take 300).take k)).set (layAt N l[k].1) l[k].2) := Lib.hid (by
        rw [← layL_snoc, List.take_add_one, List.getElem?_eq_getElem hlt, List.getElem_take]; rfl)
      have hcl : (layL N ((l.take 300).take k)).length = N := LL.out _
      generalize layL N ((l.take 300).take k) = cs at *
      generalize l[k] = x at *
      obtain ⟨x1, x2⟩ := x
      dsimp only at ex1 ex2 ex3 hsn
      have hat := LN.out x1
      have hav := KN.out x1
      generalize layAt N x1 = q at *
      have hqc : q < cs.length := by omega
      replace hav := Lib.hid hav
      clear hl3 hk
      go_upto_region 9 with fail
      first | rw [hav.out.1] | rw [hav.out.2]
      have hP := hS.put hs1.out q x2
      have r1 : wr.cell? ⟨w1.heap.size, q, none⟩ = some (.int .u64 (cs[q]'hqc)) := hS.row.val q (by simp [hqc])
      have r2 := hS.row.frozen q
      have hbd : b ≠ w1.heap.size := by have := hs1.out; omega
      have ey2 := (World.cell?_setCell_other wr ⟨w1.heap.size, q, none⟩ ⟨b, o + k * 2 + 1, none⟩ (.int .u64 x2) (by simp)).trans ex2
      have hq1 : (0 : Int) ≤ (q : Int) := by omega
      have hq2 : (q : Int) < (N : Int) := by omega
      generalize cs[q]'hqc = z at *
      go_upto_region 10 with fail
      obtain ⟨hA9, hR9, hB9⟩ := hP
      generalize wr.setCell ⟨w1.heap.size, q, none⟩ (.int .u64 x2) = W9 at *
      clear r1 r2 ex1 ex2 hS
      go_wp2_with fail
      refine (apoke x2 hA9 (by omega) (by omega)).mono ?_
      rintro e w10 ⟨rfl, hA10, hT10⟩
      have hc := hA9.cne
      have hS10 : LyS w w.heap.size a c w1.heap.size (cs.set q x2) w10 := ⟨hA10, hR9.touch hT10 (fun e => hc.1 (by simp [e])), hB9.trans (hT10.below hB9.size (fun b hb => by rw [hb]; exact hc.2.1))⟩
      clear hA10 hT10 hc hA9 hR9 hB9 ey2
      go_wp2
      go_roundw
      case rel => exact ⟨k + 1, by omega, by go_num, by rw [hsn.out]; exact hS10⟩
      case measure => simp [intOf]; omega
    · by_cases hkl : k < l.length
      · have hk1 : (k : Int) < (l.length : Int) := by omega
        have hk2 : ¬ (k : Int) < 300 := by omega
        have he : Hid ((l.take 300).take k = l.take 300) := Lib.hid (List.take_of_length_le (by omega))
        go_wp2
        go_ret3
        exact ⟨a, c, w1.heap.size, rfl, by rw [he.out] at hS; exact hS, hs1.out⟩
      · have hk1 : ¬ (k : Int) < (l.length : Int) := by omega
        have he : Hid ((l.take 300).take k = l.take 300) := Lib.hid (List.take_of_length_le (by omega))
        go_wp2
        go_ret3
        exact ⟨a, c, w1.heap.size, rfl, by rw [he.out] at hS; exact hS, hs1.out⟩
end Go.Proofs.YtpoddnfooaddgaaGreatDoor
/- What the document's functions on entries return. No condition but that each number fits its kind. -/
namespace Go.Proofs.YtpoddnfooaddgaaGreatDoor
open Go.RowKit
set_option linter.unusedVariables false
set_option linter.unusedSimpArgs false

set_option maxHeartbeats 2000000 in
theorem isEnt_0 (c s o y : Int) (w : World) :
    Calls Tryz.prog 79 #[.agg #[.int .i64 0, .int .i64 c, .int .i64 s, .int .i64 o, .int .i64 y]] w fun e w' => e = .returned (.bool (entB 0 c s o y)) ∧ Below w.heap.size w w' := by
  go_enter Tryz.func79, Tryz.ntmps79
  go_wp2
  all_goals
    go_ret
    refine ⟨ret_bool ?_, (Below.refl _ _).alloc (Nat.le_refl _) _⟩
    rw [Bool.eq_iff_iff]
    first | (simp [entB, statB, kindBEnt, inB, holdsB]; done) | (simp [entB, statB, kindBEnt, inB, holdsB]; omega) | (simp [entB, statB, kindBEnt, inB, holdsB, *]; done) | (simp [entB, statB, kindBEnt, inB, holdsB, *]; omega)
set_option maxHeartbeats 2000000 in
theorem isEnt_10 (c o y : Int) (w : World) :
    Calls Tryz.prog 79 #[.agg #[.int .i64 1, .int .i64 c, .int .i64 0, .int .i64 o, .int .i64 y]] w fun e w' => e = .returned (.bool (entB 1 c 0 o y)) ∧ Below w.heap.size w w' := by
  go_enter Tryz.func79, Tryz.ntmps79
  go_wp2
  all_goals
    go_ret
    refine ⟨ret_bool ?_, (Below.refl _ _).alloc (Nat.le_refl _) _⟩
    rw [Bool.eq_iff_iff]
    first | (simp [entB, statB, kindBEnt, inB, holdsB]; done) | (simp [entB, statB, kindBEnt, inB, holdsB]; omega) | (simp [entB, statB, kindBEnt, inB, holdsB, *]; done) | (simp [entB, statB, kindBEnt, inB, holdsB, *]; omega)
set_option maxHeartbeats 2000000 in
theorem isEnt_11 (c o y : Int) (w : World) :
    Calls Tryz.prog 79 #[.agg #[.int .i64 1, .int .i64 c, .int .i64 1, .int .i64 o, .int .i64 y]] w fun e w' => e = .returned (.bool (entB 1 c 1 o y)) ∧ Below w.heap.size w w' := by
  go_enter Tryz.func79, Tryz.ntmps79
  go_wp2
  all_goals
    go_ret
    refine ⟨ret_bool ?_, (Below.refl _ _).alloc (Nat.le_refl _) _⟩
    rw [Bool.eq_iff_iff]
    first | (simp [entB, statB, kindBEnt, inB, holdsB]; done) | (simp [entB, statB, kindBEnt, inB, holdsB]; omega) | (simp [entB, statB, kindBEnt, inB, holdsB, *]; done) | (simp [entB, statB, kindBEnt, inB, holdsB, *]; omega)
set_option maxHeartbeats 2000000 in
theorem isEnt_12 (c o y : Int) (w : World) :
    Calls Tryz.prog 79 #[.agg #[.int .i64 1, .int .i64 c, .int .i64 2, .int .i64 o, .int .i64 y]] w fun e w' => e = .returned (.bool (entB 1 c 2 o y)) ∧ Below w.heap.size w w' := by
  go_enter Tryz.func79, Tryz.ntmps79
  go_wp2
  all_goals
    go_ret
    refine ⟨ret_bool ?_, (Below.refl _ _).alloc (Nat.le_refl _) _⟩
    rw [Bool.eq_iff_iff]
    first | (simp [entB, statB, kindBEnt, inB, holdsB]; done) | (simp [entB, statB, kindBEnt, inB, holdsB]; omega) | (simp [entB, statB, kindBEnt, inB, holdsB, *]; done) | (simp [entB, statB, kindBEnt, inB, holdsB, *]; omega)
set_option maxHeartbeats 2000000 in
theorem isEnt_1x (c s o y : Int) (w : World) (s0 : ¬ s = 0) (s1 : ¬ s = 1) (s2 : ¬ s = 2) :
    Calls Tryz.prog 79 #[.agg #[.int .i64 1, .int .i64 c, .int .i64 s, .int .i64 o, .int .i64 y]] w fun e w' => e = .returned (.bool (entB 1 c s o y)) ∧ Below w.heap.size w w' := by
  have e0 : (s == 0) = false := beq_eq_false_iff_ne.2 s0
  have e1 : (s == 1) = false := beq_eq_false_iff_ne.2 s1
  have e2 : (s == 2) = false := beq_eq_false_iff_ne.2 s2
  go_enter Tryz.func79, Tryz.ntmps79
  go_wp2
  all_goals
    go_ret
    refine ⟨ret_bool ?_, (Below.refl _ _).alloc (Nat.le_refl _) _⟩
    rw [Bool.eq_iff_iff]
    first | (simp [entB, statB, kindBEnt, inB, holdsB]; done) | (simp [entB, statB, kindBEnt, inB, holdsB]; omega) | (simp [entB, statB, kindBEnt, inB, holdsB, *]; done) | (simp [entB, statB, kindBEnt, inB, holdsB, *]; omega)
end Go.Proofs.YtpoddnfooaddgaaGreatDoor
/- What the document's functions on entries return. No condition but that each number fits its kind. -/
namespace Go.Proofs.YtpoddnfooaddgaaGreatDoor
open Go.RowKit
set_option linter.unusedVariables false
set_option linter.unusedSimpArgs false

set_option maxHeartbeats 2000000 in
theorem isEnt_20 (c o y : Int) (w : World) :
    Calls Tryz.prog 79 #[.agg #[.int .i64 2, .int .i64 c, .int .i64 0, .int .i64 o, .int .i64 y]] w fun e w' => e = .returned (.bool (entB 2 c 0 o y)) ∧ Below w.heap.size w w' := by
  go_enter Tryz.func79, Tryz.ntmps79
  go_wp2
  all_goals
    go_ret
    refine ⟨ret_bool ?_, (Below.refl _ _).alloc (Nat.le_refl _) _⟩
    rw [Bool.eq_iff_iff]
    first | (simp [entB, statB, kindBEnt, inB, holdsB]; done) | (simp [entB, statB, kindBEnt, inB, holdsB]; omega) | (simp [entB, statB, kindBEnt, inB, holdsB, *]; done) | (simp [entB, statB, kindBEnt, inB, holdsB, *]; omega)
set_option maxHeartbeats 2000000 in
theorem isEnt_21 (c o y : Int) (w : World) :
    Calls Tryz.prog 79 #[.agg #[.int .i64 2, .int .i64 c, .int .i64 1, .int .i64 o, .int .i64 y]] w fun e w' => e = .returned (.bool (entB 2 c 1 o y)) ∧ Below w.heap.size w w' := by
  go_enter Tryz.func79, Tryz.ntmps79
  go_wp2
  all_goals
    go_ret
    refine ⟨ret_bool ?_, (Below.refl _ _).alloc (Nat.le_refl _) _⟩
    rw [Bool.eq_iff_iff]
    first | (simp [entB, statB, kindBEnt, inB, holdsB]; done) | (simp [entB, statB, kindBEnt, inB, holdsB]; omega) | (simp [entB, statB, kindBEnt, inB, holdsB, *]; done) | (simp [entB, statB, kindBEnt, inB, holdsB, *]; omega)
set_option maxHeartbeats 2000000 in
theorem isEnt_22 (c o y : Int) (w : World) :
    Calls Tryz.prog 79 #[.agg #[.int .i64 2, .int .i64 c, .int .i64 2, .int .i64 o, .int .i64 y]] w fun e w' => e = .returned (.bool (entB 2 c 2 o y)) ∧ Below w.heap.size w w' := by
  go_enter Tryz.func79, Tryz.ntmps79
  go_wp2
  all_goals
    go_ret
    refine ⟨ret_bool ?_, (Below.refl _ _).alloc (Nat.le_refl _) _⟩
    rw [Bool.eq_iff_iff]
    first | (simp [entB, statB, kindBEnt, inB, holdsB]; done) | (simp [entB, statB, kindBEnt, inB, holdsB]; omega) | (simp [entB, statB, kindBEnt, inB, holdsB, *]; done) | (simp [entB, statB, kindBEnt, inB, holdsB, *]; omega)
set_option maxHeartbeats 2000000 in
theorem isEnt_2x (c s o y : Int) (w : World) (s0 : ¬ s = 0) (s1 : ¬ s = 1) (s2 : ¬ s = 2) :
    Calls Tryz.prog 79 #[.agg #[.int .i64 2, .int .i64 c, .int .i64 s, .int .i64 o, .int .i64 y]] w fun e w' => e = .returned (.bool (entB 2 c s o y)) ∧ Below w.heap.size w w' := by
  have e0 : (s == 0) = false := beq_eq_false_iff_ne.2 s0
  have e1 : (s == 1) = false := beq_eq_false_iff_ne.2 s1
  have e2 : (s == 2) = false := beq_eq_false_iff_ne.2 s2
  go_enter Tryz.func79, Tryz.ntmps79
  go_wp2
  all_goals
    go_ret
    refine ⟨ret_bool ?_, (Below.refl _ _).alloc (Nat.le_refl _) _⟩
    rw [Bool.eq_iff_iff]
    first | (simp [entB, statB, kindBEnt, inB, holdsB]; done) | (simp [entB, statB, kindBEnt, inB, holdsB]; omega) | (simp [entB, statB, kindBEnt, inB, holdsB, *]; done) | (simp [entB, statB, kindBEnt, inB, holdsB, *]; omega)
set_option maxHeartbeats 2000000 in
theorem isEnt_3 (c s o y : Int) (w : World) :
    Calls Tryz.prog 79 #[.agg #[.int .i64 3, .int .i64 c, .int .i64 s, .int .i64 o, .int .i64 y]] w fun e w' => e = .returned (.bool (entB 3 c s o y)) ∧ Below w.heap.size w w' := by
  go_enter Tryz.func79, Tryz.ntmps79
  go_wp2
  all_goals
    go_ret
    refine ⟨ret_bool ?_, (Below.refl _ _).alloc (Nat.le_refl _) _⟩
    rw [Bool.eq_iff_iff]
    first | (simp [entB, statB, kindBEnt, inB, holdsB]; done) | (simp [entB, statB, kindBEnt, inB, holdsB]; omega) | (simp [entB, statB, kindBEnt, inB, holdsB, *]; done) | (simp [entB, statB, kindBEnt, inB, holdsB, *]; omega)
set_option maxHeartbeats 2000000 in
theorem isEnt_lo (k c s o y : Int) (w : World) (hk : k < 0) :
    Calls Tryz.prog 79 #[.agg #[.int .i64 k, .int .i64 c, .int .i64 s, .int .i64 o, .int .i64 y]] w fun e w' => e = .returned (.bool (entB k c s o y)) ∧ Below w.heap.size w w' := by
  have e0 : (k == 0) = false := beq_eq_false_iff_ne.2 (by omega)
  have e1 : (k == 1) = false := beq_eq_false_iff_ne.2 (by omega)
  have e2 : (k == 2) = false := beq_eq_false_iff_ne.2 (by omega)
  have e3 : (k == 3) = false := beq_eq_false_iff_ne.2 (by omega)
  have hf : entB k c s o y = false := by unfold entB kindBEnt; rw [if_neg (by omega), if_neg (by omega), if_neg (by omega), if_neg (by omega), Bool.and_false]
  rw [hf]
  go_enter Tryz.func79, Tryz.ntmps79
  go_wp2
  all_goals
    go_ret
    exact ⟨rfl, (Below.refl _ _).alloc (Nat.le_refl _) _⟩
set_option maxHeartbeats 2000000 in
theorem isEnt_hi (k c s o y : Int) (w : World) (hk : 3 < k) :
    Calls Tryz.prog 79 #[.agg #[.int .i64 k, .int .i64 c, .int .i64 s, .int .i64 o, .int .i64 y]] w fun e w' => e = .returned (.bool (entB k c s o y)) ∧ Below w.heap.size w w' := by
  have e0 : (k == 0) = false := beq_eq_false_iff_ne.2 (by omega)
  have e1 : (k == 1) = false := beq_eq_false_iff_ne.2 (by omega)
  have e2 : (k == 2) = false := beq_eq_false_iff_ne.2 (by omega)
  have e3 : (k == 3) = false := beq_eq_false_iff_ne.2 (by omega)
  have hf : entB k c s o y = false := by unfold entB kindBEnt; rw [if_neg (by omega), if_neg (by omega), if_neg (by omega), if_neg (by omega), Bool.and_false]
  rw [hf]
  go_enter Tryz.func79, Tryz.ntmps79
  go_wp2
  all_goals
    go_ret
    exact ⟨rfl, (Below.refl _ _).alloc (Nat.le_refl _) _⟩
end Go.Proofs.YtpoddnfooaddgaaGreatDoor
/- What the document's functions on entries return. No condition but that each number fits its kind. -/
namespace Go.Proofs.YtpoddnfooaddgaaGreatDoor
open Go.RowKit
set_option linter.unusedVariables false
set_option linter.unusedSimpArgs false

theorem isEnt_any (k c s o y : Int) (w : World) :
    Calls Tryz.prog 79 #[.agg #[.int .i64 k, .int .i64 c, .int .i64 s, .int .i64 o, .int .i64 y]] w fun e w' => e = .returned (.bool (entB k c s o y)) ∧ Below w.heap.size w w' := by
  by_cases k0 : k = 0
  · subst k0; exact isEnt_0 c s o y w
  by_cases k1 : k = 1
  · subst k1
    by_cases s0 : s = 0
    · subst s0; exact isEnt_10 c o y w
    by_cases s1 : s = 1
    · subst s1; exact isEnt_11 c o y w
    by_cases s2 : s = 2
    · subst s2; exact isEnt_12 c o y w
    exact isEnt_1x c s o y w s0 s1 s2
  by_cases k2 : k = 2
  · subst k2
    by_cases s0 : s = 0
    · subst s0; exact isEnt_20 c o y w
    by_cases s1 : s = 1
    · subst s1; exact isEnt_21 c o y w
    by_cases s2 : s = 2
    · subst s2; exact isEnt_22 c o y w
    exact isEnt_2x c s o y w s0 s1 s2
  by_cases k3 : k = 3
  · subst k3; exact isEnt_3 c s o y w
  by_cases hk : k < 0
  · exact isEnt_lo k c s o y w hk
  · exact isEnt_hi k c s o y w (by omega)
end Go.Proofs.YtpoddnfooaddgaaGreatDoor
/- What the document's functions on entries return: the word of an entry, the entry of a word. No condition but that each number fits its kind. -/
namespace Go.Proofs.YtpoddnfooaddgaaGreatDoor
open Go.RowKit
set_option linter.unusedVariables false

set_option maxHeartbeats 1000000 in
theorem reenc_yes (k c s o y : Int) (w : World) (h : entB k c s o y = true) :
    Calls Tryz.prog 39 #[.agg #[.int .i64 k, .int .i64 c, .int .i64 s, .int .i64 o, .int .i64 y]] w fun e w' => e = .returned (.tuple #[.int .u64 (encE k c s o y), .int .i64 0]) ∧ Below w.heap.size w w' := by
  have hbd := entB_bd h
  have wk : IntKind.u64.wrap k = k := IntWalk.u64_in k (by omega)
  have wc : IntKind.u64.wrap c = c := IntWalk.u64_in c (by omega)
  have ws : IntKind.u64.wrap s = s := IntWalk.u64_in s (by omega)
  have wo : IntKind.u64.wrap o = o := IntWalk.u64_in o (by omega)
  have wy : IntKind.u64.wrap y = y := IntWalk.u64_in y (by omega)
  obtain ⟨b1, b2, b3, b4, b5, b6⟩ := hbd
  go_enter Tryz.func39, Tryz.ntmps39
  go_wp2_with (go_at_call 79; refine (isEnt_any _ _ _ _ _ _).mono ?_; rintro e w1 ⟨rfl, hb⟩; obtain ⟨c0, c1, c2, c3, c4⟩ := (entAt_new w k c s o y 105).below hb)
  go_ret2
  exact ⟨ret_two rfl rfl, ((Below.refl _ _).alloc (Nat.le_refl _) _).trans (hb.mono (by simp))⟩
set_option maxHeartbeats 1000000 in
theorem reenc_no (k c s o y : Int) (w : World) (h : entB k c s o y = false) :
    Calls Tryz.prog 39 #[.agg #[.int .i64 k, .int .i64 c, .int .i64 s, .int .i64 o, .int .i64 y]] w fun e w' => e = .returned (.tuple #[.int .u64 0, .int .i64 4]) ∧ Below w.heap.size w w' := by
  go_enter Tryz.func39, Tryz.ntmps39
  go_wp2_with (go_at_call 79; refine (isEnt_any _ _ _ _ _ _).mono ?_; rintro e w1 ⟨rfl, hb⟩)
  go_ret2
  exact ⟨rfl, ((Below.refl _ _).alloc (Nat.le_refl _) _).trans (hb.mono (by simp))⟩
theorem reenc_any (k c s o y : Int) (w : World) :
    Calls Tryz.prog 39 #[.agg #[.int .i64 k, .int .i64 c, .int .i64 s, .int .i64 o, .int .i64 y]] w fun e w' => e = .returned (.tuple #[.int .u64 (eencV k c s o y), .int .i64 (eencF k c s o y)]) ∧ Below w.heap.size w w' := by
  unfold eencV eencF
  cases h : entB k c s o y with
  | true => exact reenc_yes k c s o y w h
  | false => exact reenc_no k c s o y w h
set_option maxHeartbeats 1000000 in
theorem redec_core (x A B C D Y : Int) (w : World) (x0 : 0 ≤ x) (x1 : x < 18446744073709551616) (eA : x % 4 = A) (eB : x / 4 % 16 = B) (eC : x / 64 % 4 = C) (eD : x / 256 % 16 = D) (eY : x / 65536 % 4294967296 = Y) (h : entB A B C D Y = true) (he : (encE A B C D Y != x) = false) :
    Calls Tryz.prog 96 #[.int .u64 x] w fun e w' => e = .returned (.tuple #[.agg #[.int .i64 A, .int .i64 B, .int .i64 C, .int .i64 D, .int .i64 Y], .int .i64 0]) ∧ Below w.heap.size w w' := by
  have hA : 0 ≤ A ∧ A ≤ 3 := by omega
  have hB : 0 ≤ B ∧ B ≤ 15 := by omega
  have hC : 0 ≤ C ∧ C ≤ 3 := by omega
  have hD : 0 ≤ D ∧ D ≤ 15 := by omega
  have hY : 0 ≤ Y ∧ Y ≤ 4294967295 := by omega
  have wA : IntKind.i64.wrap A = A := IntWalk.i64_in A (by omega)
  have wB : IntKind.i64.wrap B = B := IntWalk.i64_in B (by omega)
  have wC : IntKind.i64.wrap C = C := IntWalk.i64_in C (by omega)
  have wD : IntKind.i64.wrap D = D := IntWalk.i64_in D (by omega)
  have wY : IntKind.i64.wrap Y = Y := IntWalk.i64_in Y (by omega)
  go_enter Tryz.func96, Tryz.ntmps96
  go_wp2_with fail
  refine (reenc_yes A B C D Y _ h).mono ?_
  rintro e w5 ⟨rfl, hb5⟩
  have hN := (entAt_new (w.alloc (.cells #[.int .i64 0, .int .i64 0, .int .i64 0, .int .i64 0, .int .i64 0] 105)) A B C D Y 105).below hb5
  have hO := ((entAt_new w 0 0 0 0 0 105).alloc (.cells #[.int .i64 A, .int .i64 B, .int .i64 C, .int .i64 D, .int .i64 Y] 105)).below hb5
  have hO5 : Below (w.alloc (.cells #[.int .i64 0, .int .i64 0, .int .i64 0, .int .i64 0, .int .i64 0] 105)).heap.size (w.alloc (.cells #[.int .i64 0, .int .i64 0, .int .i64 0, .int .i64 0, .int .i64 0] 105)) w5 := ((Below.refl _ _).alloc (Nat.le_refl _) _).trans (hb5.mono (by simp))
  have hB5 : Below w.heap.size w w5 := ((Below.refl _ _).alloc (Nat.le_refl _) _).trans (hO5.mono (by simp))
  obtain ⟨f0, f1, f2, f3, f4⟩ := box5f hO5
  rw [World.size_alloc] at hN
  obtain ⟨n0, n1, n2, n3, n4⟩ := id hN
  obtain ⟨o0, o1, o2, o3, o4⟩ := id hO
  clear hb5 hO5 eA eB eC eD eY
  go_wp2
  refine bodyPost_ret (v := .tuple #[.agg #[.int .i64 A, .int .i64 B, .int .i64 C, .int .i64 D, .int .i64 Y], .int .i64 0]) (by simp [results, Tryz.results96, go_sem, o0, o1, o2, o3, o4]) rfl ⟨rfl, ?_⟩
  exact ((((hB5.setCell (Nat.le_refl _) _).setCell (Nat.le_refl _) _).setCell (Nat.le_refl _) _).setCell (Nat.le_refl _) _).setCell (Nat.le_refl _) _
set_option maxHeartbeats 1000000 in
theorem redec_part (x A B C D Y : Int) (w : World) (x0 : 0 ≤ x) (x1 : x < 18446744073709551616) (eA : x % 4 = A) (eB : x / 4 % 16 = B) (eC : x / 64 % 4 = C) (eD : x / 256 % 16 = D) (eY : x / 65536 % 4294967296 = Y) (h : entB A B C D Y = true) (he : (encE A B C D Y != x) = true) :
    Calls Tryz.prog 96 #[.int .u64 x] w fun e w' => e = .returned (.tuple #[.agg #[.int .i64 0, .int .i64 0, .int .i64 0, .int .i64 0, .int .i64 0], .int .i64 4]) ∧ Below w.heap.size w w' := by
  have hA : 0 ≤ A ∧ A ≤ 3 := by omega
  have hB : 0 ≤ B ∧ B ≤ 15 := by omega
  have hC : 0 ≤ C ∧ C ≤ 3 := by omega
  have hD : 0 ≤ D ∧ D ≤ 15 := by omega
  have hY : 0 ≤ Y ∧ Y ≤ 4294967295 := by omega
  have wA : IntKind.i64.wrap A = A := IntWalk.i64_in A (by omega)
  have wB : IntKind.i64.wrap B = B := IntWalk.i64_in B (by omega)
  have wC : IntKind.i64.wrap C = C := IntWalk.i64_in C (by omega)
  have wD : IntKind.i64.wrap D = D := IntWalk.i64_in D (by omega)
  have wY : IntKind.i64.wrap Y = Y := IntWalk.i64_in Y (by omega)
  go_enter Tryz.func96, Tryz.ntmps96
  go_wp2_with fail
  refine (reenc_yes A B C D Y _ h).mono ?_
  rintro e w5 ⟨rfl, hb5⟩
  have hN := (entAt_new (w.alloc (.cells #[.int .i64 0, .int .i64 0, .int .i64 0, .int .i64 0, .int .i64 0] 105)) A B C D Y 105).below hb5
  have hO := ((entAt_new w 0 0 0 0 0 105).alloc (.cells #[.int .i64 A, .int .i64 B, .int .i64 C, .int .i64 D, .int .i64 Y] 105)).below hb5
  have hO5 : Below (w.alloc (.cells #[.int .i64 0, .int .i64 0, .int .i64 0, .int .i64 0, .int .i64 0] 105)).heap.size (w.alloc (.cells #[.int .i64 0, .int .i64 0, .int .i64 0, .int .i64 0, .int .i64 0] 105)) w5 := ((Below.refl _ _).alloc (Nat.le_refl _) _).trans (hb5.mono (by simp))
  have hB5 : Below w.heap.size w w5 := ((Below.refl _ _).alloc (Nat.le_refl _) _).trans (hO5.mono (by simp))
  obtain ⟨f0, f1, f2, f3, f4⟩ := box5f hO5
  rw [World.size_alloc] at hN
  obtain ⟨n0, n1, n2, n3, n4⟩ := id hN
  obtain ⟨o0, o1, o2, o3, o4⟩ := id hO
  clear hb5 hO5 eA eB eC eD eY
  go_wp2
  refine bodyPost_ret (v := .tuple #[.agg #[.int .i64 0, .int .i64 0, .int .i64 0, .int .i64 0, .int .i64 0], .int .i64 4]) (by simp [results, Tryz.results96, go_sem, o0, o1, o2, o3, o4]) rfl ⟨rfl, ?_⟩
  exact ((((hB5.setCell (Nat.le_refl _) _).setCell (Nat.le_refl _) _).setCell (Nat.le_refl _) _).setCell (Nat.le_refl _) _).setCell (Nat.le_refl _) _
set_option maxHeartbeats 1000000 in
theorem redec_none (x A B C D Y : Int) (w : World) (x0 : 0 ≤ x) (x1 : x < 18446744073709551616) (eA : x % 4 = A) (eB : x / 4 % 16 = B) (eC : x / 64 % 4 = C) (eD : x / 256 % 16 = D) (eY : x / 65536 % 4294967296 = Y) (h : entB A B C D Y = false) :
    Calls Tryz.prog 96 #[.int .u64 x] w fun e w' => e = .returned (.tuple #[.agg #[.int .i64 0, .int .i64 0, .int .i64 0, .int .i64 0, .int .i64 0], .int .i64 4]) ∧ Below w.heap.size w w' := by
  have hA : 0 ≤ A ∧ A ≤ 3 := by omega
  have hB : 0 ≤ B ∧ B ≤ 15 := by omega
  have hC : 0 ≤ C ∧ C ≤ 3 := by omega
  have hD : 0 ≤ D ∧ D ≤ 15 := by omega
  have hY : 0 ≤ Y ∧ Y ≤ 4294967295 := by omega
  have wA : IntKind.i64.wrap A = A := IntWalk.i64_in A (by omega)
  have wB : IntKind.i64.wrap B = B := IntWalk.i64_in B (by omega)
  have wC : IntKind.i64.wrap C = C := IntWalk.i64_in C (by omega)
  have wD : IntKind.i64.wrap D = D := IntWalk.i64_in D (by omega)
  have wY : IntKind.i64.wrap Y = Y := IntWalk.i64_in Y (by omega)
  go_enter Tryz.func96, Tryz.ntmps96
  go_wp2_with fail
  refine (reenc_no A B C D Y _ h).mono ?_
  rintro e w5 ⟨rfl, hb5⟩
  have hN := (entAt_new (w.alloc (.cells #[.int .i64 0, .int .i64 0, .int .i64 0, .int .i64 0, .int .i64 0] 105)) A B C D Y 105).below hb5
  have hO := ((entAt_new w 0 0 0 0 0 105).alloc (.cells #[.int .i64 A, .int .i64 B, .int .i64 C, .int .i64 D, .int .i64 Y] 105)).below hb5
  have hO5 : Below (w.alloc (.cells #[.int .i64 0, .int .i64 0, .int .i64 0, .int .i64 0, .int .i64 0] 105)).heap.size (w.alloc (.cells #[.int .i64 0, .int .i64 0, .int .i64 0, .int .i64 0, .int .i64 0] 105)) w5 := ((Below.refl _ _).alloc (Nat.le_refl _) _).trans (hb5.mono (by simp))
  have hB5 : Below w.heap.size w w5 := ((Below.refl _ _).alloc (Nat.le_refl _) _).trans (hO5.mono (by simp))
  obtain ⟨f0, f1, f2, f3, f4⟩ := box5f hO5
  rw [World.size_alloc] at hN
  obtain ⟨n0, n1, n2, n3, n4⟩ := id hN
  obtain ⟨o0, o1, o2, o3, o4⟩ := id hO
  clear hb5 hO5 eA eB eC eD eY
  go_wp2
  refine bodyPost_ret (v := .tuple #[.agg #[.int .i64 0, .int .i64 0, .int .i64 0, .int .i64 0, .int .i64 0], .int .i64 4]) (by simp [results, Tryz.results96, go_sem, o0, o1, o2, o3, o4]) rfl ⟨rfl, ?_⟩
  exact ((((hB5.setCell (Nat.le_refl _) _).setCell (Nat.le_refl _) _).setCell (Nat.le_refl _) _).setCell (Nat.le_refl _) _).setCell (Nat.le_refl _) _
theorem redec_any (x : Int) (w : World) (hx : U64 x) :
    Calls Tryz.prog 96 #[.int .u64 x] w fun e w' => e = .returned (.tuple #[.agg #[.int .i64 (decD (edecOk x) (x % 4)), .int .i64 (decD (edecOk x) (x / 4 % 16)), .int .i64 (decD (edecOk x) (x / 64 % 4)), .int .i64 (decD (edecOk x) (x / 256 % 16)), .int .i64 (decD (edecOk x) (x / 65536 % 4294967296))], .int .i64 (decF (edecOk x))]) ∧ Below w.heap.size w w' := by
  unfold decD decF
  cases h : edecOk x with
  | true =>
    unfold edecOk at h
    rw [Bool.and_eq_true, beq_iff_eq] at h
    exact redec_core x (x % 4) (x / 4 % 16) (x / 64 % 4) (x / 256 % 16) (x / 65536 % 4294967296) w hx.1 hx.2 rfl rfl rfl rfl rfl h.1 (by rw [h.2]; simp)
  | false =>
    unfold edecOk at h
    cases hb : entB (x % 4) (x / 4 % 16) (x / 64 % 4) (x / 256 % 16) (x / 65536 % 4294967296) with
    | true =>
      rw [hb, Bool.true_and] at h
      exact redec_part x (x % 4) (x / 4 % 16) (x / 64 % 4) (x / 256 % 16) (x / 65536 % 4294967296) w hx.1 hx.2 rfl rfl rfl rfl rfl hb (by rw [bne, h]; rfl)
    | false => exact redec_none x (x % 4) (x / 4 % 16) (x / 64 % 4) (x / 256 % 16) (x / 65536 % 4294967296) w hx.1 hx.2 rfl rfl rfl rfl rfl hb
end Go.Proofs.YtpoddnfooaddgaaGreatDoor
/- The law's own example: a small object is built, and looked at. Condition: sizes' table lies as the start lays it. -/
namespace Go.Proofs.YtpoddnfooaddgaaGreatDoor
open Go.RowKit
set_option linter.unusedVariables false
theorem sixNew (w : World) (P T R x y z : Int) (t : TypeId) : Blk (w.alloc (.cells #[.int .i64 P, .int .i64 T, .int .i64 R, .int .i64 x, .int .i64 y, .int .i64 z] t)) w.heap.size #[.int .i64 P, .int .i64 T, .int .i64 R, .int .i64 x, .int .i64 y, .int .i64 z] t := Blk.new _ _ _
set_option maxHeartbeats 400000 in
theorem mpage_any (P T R x y z i : Int) (w : World) :
    Calls Tryz.prog 40 #[.agg #[.int .i64 P, .int .i64 T, .int .i64 R, .int .i64 x, .int .i64 y, .int .i64 z], .int .i64 i] w fun e w' => e = .returned (.int .i64 (wrap64 (y + i))) ∧ Below w.heap.size w w' := by
  have c4 := (sixNew w P T R x y z 36).val 4 rfl
  go_enter Tryz.func40, Tryz.ntmps40
  go_wp2
  go_ret
  exact ⟨rfl, (Below.refl _ _).alloc (Nat.le_refl _) _⟩
set_option maxHeartbeats 400000 in
theorem malloc_any (P T R x y z i : Int) (w : World) :
    Calls Tryz.prog 41 #[.agg #[.int .i64 P, .int .i64 T, .int .i64 R, .int .i64 x, .int .i64 y, .int .i64 z], .int .i64 i] w fun e w' => e = .returned (.int .i64 (wrap64 (wrap64 (y + P) + i))) ∧ Below w.heap.size w w' := by
  have c4 := (sixNew w P T R x y z 36).val 4 rfl
  have c0 := (sixNew w P T R x y z 36).val 0 rfl
  go_enter Tryz.func41, Tryz.ntmps41
  go_wp2
  go_ret
  exact ⟨rfl, (Below.refl _ _).alloc (Nat.le_refl _) _⟩
/-- the words that are laid, and what the cells hold then, and behind the build -/
def bW : List (Int × Int) := [(22, encE 1 0 1 0 0), (23, 4)]
def bC0 : List Int := layL 128 bW
def bC1 : List Int := bC0.set 67 0
def bC2 : List Int := bC1.set 66 (encH 0 2 1)
theorem bN : cellsN 1 1 1 = 128 := by kernel_rfl
theorem bW300 : bW.take 300 = bW := by kernel_rfl
theorem b_hold : holdB 1 1 1 bC2 66 = true := by kernel_rfl
theorem b_hdE : hdE (bC2.getD 66 0) = 0 := by kernel_rfl
theorem b_hdC : hdC (bC2.getD 66 0) = 0 := by kernel_rfl
theorem b_hdK : hdK (bC2.getD 66 0) = 2 := by kernel_rfl
theorem b_hdN : hdN (bC2.getD 66 0) = 1 := by kernel_rfl
theorem b_fit : fitI [] 0 2 1 = true := by kernel_rfl
theorem b_fits : fitsB 1 (bC2.getD (rowN 1 1 1 0 (placeI 1 1 1 66).1) 0 % 4) (bC2.getD (rowN 1 1 1 0 (placeI 1 1 1 66).1) 0 / 4 % 16) (placeI 1 1 1 66).1 (wordsV 0 2 1) = true := by kernel_rfl
theorem b_len : bC2.length = 128 := by kernel_rfl
theorem b_lk : lkL bC2 66 1 = [.int .i64 0] := by kernel_rfl
theorem b_U : ∀ z ∈ bC2, U64 z := by
  have : ∀ z ∈ bC2, decide (0 ≤ z ∧ z < 18446744073709551616) = true := by
    have h : (bC2.all fun z => decide (0 ≤ z ∧ z < 18446744073709551616)) = true := by kernel_rfl
    exact List.all_eq_true.1 h
  intro z hz
  have h := of_decide_eq_true (this z hz)
  exact ⟨h.1, by omega⟩
theorem b_head : headB 0 2 1 = true := by kernel_rfl
theorem b_allow : allowB 1 1 1 66 (1 + 1) = true := by kernel_rfl
theorem b_ent : entB 1 0 1 0 0 = true := by kernel_rfl
theorem b_base : baseI 1 1 1 = 64 := by kernel_rfl
theorem b_tab : tabI 1 1 = 22 := by kernel_rfl
theorem b_right : Right 1 1 1 := by unfold Right; omega
end Go.Proofs.YtpoddnfooaddgaaGreatDoor
/- The document's objects: a map's Heap. Condition: the plan is a plan. -/
namespace Go.Proofs.YtpoddnfooaddgaaGreatDoor
open Go.RowKit
set_option linter.unusedVariables false
theorem heapB_right {P T R x : Int} (h : Right P T R) : heapB P T R x = inB x (baseI P T R) (baseI P T R + 64 * P - 1) := by unfold heapB; rw [of_right h]; rfl
set_option maxHeartbeats 1000000 in
theorem rheap_any (P T R x : Int) (w : World) (h : Right P T R) (hx : I64 x) :
    Calls Tryz.prog 48 #[mapV P T R, .int .i64 x] w fun e w' => e = .returned (.tuple #[.int .i64 (placeI P T R x).1, .int .i64 (placeI P T R x).2]) ∧ Below w.heap.size w w' := by
  have hb := base_bd h
  have hp := h.1
  have hh := heapB_right (x := x) h
  obtain ⟨x1, x2⟩ := hx
  unfold mapV
  have hk := sixNew w P T R (baseI P T R) (tabI T R) (baseI P T R + 64 * P) 36
  have k3 := hk.val 3 rfl
  have k5 := hk.val 5 rfl
  by_cases h1 : x < baseI P T R
  · have e1 : placeI P T R x = (-1, -1) := by unfold placeI; rw [hh]; rw [show inB x (baseI P T R) (baseI P T R + 64 * P - 1) = false by simp [inB]; omega]; rfl
    rw [e1]
    clear hh e1
    generalize baseI P T R = bs at *
    have h0 : ¬ bs < 0 := by omega
    go_enter Tryz.func48, Tryz.ntmps48
    go_wp2
    go_ret2
    exact ⟨rfl, (Below.refl _ _).alloc (Nat.le_refl _) _⟩
  · by_cases h2 : x < baseI P T R + 64 * P
    · have e1 : placeI P T R x = ((x - baseI P T R) / 64, (x - baseI P T R) % 64) := by unfold placeI; rw [hh]; rw [show inB x (baseI P T R) (baseI P T R + 64 * P - 1) = true by simp [inB]; omega]; rfl
      rw [e1]
      clear hh e1
      generalize baseI P T R = bs at *
      have h0 : ¬ bs < 0 := by omega
      have h3 : ¬ bs + 64 * P ≤ x := by omega
      go_enter Tryz.func48, Tryz.ntmps48
      have hd0 : 0 ≤ x - bs := by omega
      have hd1 : x - bs < 2048 := by omega
      go_wp2_with fail
      go_quiet (fail)
      go_wp2
      go_ret2
      exact ⟨rfl, ((Below.refl _ _).alloc (Nat.le_refl _) _).trans (Quiet.below ⟨_, rfl⟩)⟩
    · have e1 : placeI P T R x = (-1, -1) := by unfold placeI; rw [hh]; rw [show inB x (baseI P T R) (baseI P T R + 64 * P - 1) = false by simp [inB]; omega]; rfl
      rw [e1]
      clear hh e1
      generalize baseI P T R = bs at *
      have h0 : ¬ bs < 0 := by omega
      have h3 : bs + 64 * P ≤ x := by omega
      go_enter Tryz.func48, Tryz.ntmps48
      go_wp2
      go_ret2
      exact ⟨rfl, (Below.refl _ _).alloc (Nat.le_refl _) _⟩
end Go.Proofs.YtpoddnfooaddgaaGreatDoor
