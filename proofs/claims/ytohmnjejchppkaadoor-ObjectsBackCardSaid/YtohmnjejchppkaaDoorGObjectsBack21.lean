/- Texts of this seat, one behind the other: each says at its head what it holds. No condition of its own. -/
import Derived.Deep.CutBlock
import Derived.Deep.DeepCutAuto
import Derived.BigQuiet
import Derived.Test.YtohmnjejchppkaaDoorGObjectsBack13
import Derived.Test.YtohmnjejchppkaaDoorGObjectsBack17
import Derived.Test.YtohmnjejchppkaaDoorGObjectsBack18
import Derived.Test.YtohmnjejchppkaaDoorGObjectsBack19
import Derived.Test.YtohmnjejchppkaaDoorGObjectsBack20
/- Package objects: Look at an object that is there. Conditions: the arena is there, with as many cells as the plan says; the table is there; sizes' table lies as the start lays it. -/
namespace Go.Proofs.YtohmnjejchppkaaDoor
open Go.RowKit
set_option linter.unusedVariables false
theorem holdB_parts {P T R : Int} {cs : List Int} {x : Int} (h : holdB P T R cs x = true) :
    0 ≤ (placeI P T R x).1 ∧ edecOk (cs.getD (rowN P T R 0 (placeI P T R x).1) 0) = true ∧ begB (cs.getD (rowN P T R 0 (placeI P T R x).1) 0 % 4) (cs.getD (rowN P T R 0 (placeI P T R x).1) 0 / 4 % 16) (placeI P T R x).2 = true ∧ bitB (cs.getD (rowN P T R 1 (placeI P T R x).1) 0) (placeI P T R x).2 = true := by
  unfold holdB at h
  rw [Bool.and_eq_true, Bool.and_eq_true, Bool.and_eq_true, decide_eq_true_eq] at h
  exact h
theorem getD_U {cs : List Int} (h : ∀ z ∈ cs, U64 z) (i : Nat) : U64 (cs.getD i 0) := by
  rw [List.getD_eq_getElem?_getD]
  cases e : cs[i]? with
  | none => exact ⟨by decide, by decide⟩
  | some z => exact h z (List.mem_of_getElem? e)
def lkV (cs : List Int) (x : Nat) (i : Nat) : Int := wrap64 (cs.getD (x + 1 + i) 0)
def lkL (cs : List Int) (x N : Nat) : List Value := (List.range N).map fun i => Value.int .i64 (lkV cs x i)
theorem lkL_succ (cs : List Int) (x N : Nat) : lkL cs x (N + 1) = lkL cs x N ++ [Value.int .i64 (lkV cs x N)] := by unfold lkL; rw [List.range_succ, List.map_append]; rfl
theorem lkL_len (cs : List Int) (x N : Nat) : (lkL cs x N).length = N := by unfold lkL; simp
structure LkS (w : World) (P T R : Int) (B a c n : Nat) (cs : List Int) (K : List Nat) (lo t m : Nat) (tv : Value) (L : List (ClsD × Value × Nat)) (W : World) : Prop where
  pl : Blk W w.heap.size #[.int .i64 P, .int .i64 T, .int .i64 R] 54
  res : Blk W (w.heap.size + 1) #[.int .i64 0, .int .i64 0, .int .i64 0, .slice none 0 0] 70
  ary : Ary W B a c cs n K
  wid : Wid W
  tab : TabS W lo t tv m L
  bel : Below w.heap.size w W
theorem info_i64 : (Tryd.prog.info? 2).map (fun i => (i.zero, i.size, i.bytes)) = some (some (.int .i64 0), 1, 8) := by kernel_rfl
def LkPost (x : Int) (c k : Int) (vs : List Value) (w : World) (e : Ending) (w' : World) : Prop :=
  ∃ u, e = .returned (.tuple #[.agg #[.int .i64 x, .int .i64 c, .int .i64 k, u], .int .i64 0]) ∧ w'.ownsRow w.heap.size 2 1 u vs.length vs ∧ Below w.heap.size w w'
section
variable {w W W' : World} {P T R : Int} {B a c n : Nat} {cs : List Int} {K : List Nat} {lo t m : Nat} {tv : Value} {L : List (ClsD × Value × Nat)}
theorem LkS.grew (h : LkS w P T R B a c n cs K lo t m tv L W) (hb : Below W.heap.size W W') : LkS w P T R B a c n cs K lo t m tv L W' := ⟨h.pl.grew hb, h.res.grew hb, h.ary.grew hb, h.wid.grew hb, h.tab.grew hb, h.bel.trans (hb.mono h.bel.size)⟩
theorem LkS.alloc (h : LkS w P T R B a c n cs K lo t m tv L W) (o : Obj) : LkS w P T R B a c n cs K lo t m tv L (W.alloc o) := h.grew ((Below.refl _ _).alloc (Nat.le_refl _) _)
theorem LkS.new (h : Ary w B a c cs n K) (hW : Wid w) (hT : TabS w lo t tv m L) : LkS w P T R B a c n cs K lo t m tv L ((w.alloc (.cells #[.int .i64 P, .int .i64 T, .int .i64 R] 54)).alloc (.cells #[.int .i64 0, .int .i64 0, .int .i64 0, .slice none 0 0] 70)) :=
  have hb : Below w.heap.size w ((w.alloc (.cells #[.int .i64 P, .int .i64 T, .int .i64 R] 54)).alloc (.cells #[.int .i64 0, .int .i64 0, .int .i64 0, .slice none 0 0] 70)) := ((Below.refl _ _).alloc (Nat.le_refl _) _).alloc (by simp) _
  ⟨(Blk.new _ _ _).alloc _, Blk.new' (by simp), h.grew hb, hW.grew hb, hT.grew hb, hb⟩
set_option maxRecDepth 100000 in
set_option maxHeartbeats 8000000 in
theorem look_yes (x : Nat) (hA : Ary w B a c cs n K) (hW : Wid w) (hT : TabS w lo t tv m L) (hl : cs.length = cellsN P T R) (hU : ∀ z ∈ cs, U64 z)
    (h1 : holdB P T R cs x = true) (h2 : hdE (cs.getD x 0) = 0) (h3 : fitI (L.map (·.1)) (hdC (cs.getD x 0)) (hdK (cs.getD x 0)) (hdN (cs.getD x 0)) = true)
    (h4 : fitsB P (cs.getD (rowN P T R 0 (placeI P T R x).1) 0 % 4) (cs.getD (rowN P T R 0 (placeI P T R x).1) 0 / 4 % 16) (placeI P T R x).1 (wordsV (hdC (cs.getD x 0)) (hdK (cs.getD x 0)) (hdN (cs.getD x 0))) = true)
    (N : Nat) (h5 : hdN (cs.getD x 0) = (N : Int)) (h6 : N ≤ 255) (h7 : x + 1 + N ≤ cs.length) :
    Calls Tryd.prog 24 #[.pointer (some ⟨a, 0, none⟩), .agg #[.int .i64 P, .int .i64 T, .int .i64 R], .pointer (some ⟨t, 0, none⟩), .int .i64 (x : Int)] w (LkPost x (hdC (cs.getD x 0)) (hdK (cs.getD x 0)) (lkL cs x N) w) := by
  obtain ⟨p0, p1, p2, p3⟩ := holdB_parts h1
  have hr := place_right p0
  have hcl := (cellsN_bd hr).2.2
  have hpb := place_bdO P T R x
  have HO := Lib.hid (fun W (hA : Ary W B a c cs n K) (hW : Wid W) => holder_yes P T R x hA hW p0 hl (getD_U hU _) p1 p2 p3 (getD_U hU _))
  have HA := Lib.hid (fun W (hA : Ary W B a c cs n K) => headAt_any x hA (by omega) (by omega) (getD_U hU _))
  have FT := Lib.hid (fun W (hT : TabS W lo t tv m L) => fits_any W lo t m tv L (hdC (cs.getD x 0)) (hdK (cs.getD x 0)) (hdN (cs.getD x 0)) hT)
  have WD := Lib.hid (fun W => words_anyRhead (hdC (cs.getD x 0)) (hdK (cs.getD x 0)) (hdN (cs.getD x 0)) W)
  have FS := Lib.hid (fun W (hW : Wid W) => fits_anyO P T R (placeI P T R x).1 (cs.getD (rowN P T R 0 (placeI P T R x).1) 0 % 4) (cs.getD (rowN P T R 0 (placeI P T R x).1) 0 / 4 % 16) (cs.getD (rowN P T R 0 (placeI P T R x).1) 0 / 64 % 4) (cs.getD (rowN P T R 0 (placeI P T R x).1) 0 / 256 % 16) (cs.getD (rowN P T R 0 (placeI P T R x).1) 0 / 65536 % 4294967296) (wordsV (hdC (cs.getD x 0)) (hdK (cs.getD x 0)) (hdN (cs.getD x 0))) W hW p0 hpb.2.1)
  unfold entV at HO
  rw [h2] at HA
  rw [h3] at FT
  rw [h4] at FS
  have PK := Lib.hid (fun W (i : Nat) (hi : i < N) (hA : Ary W B a c cs n K) => apeek hA (i := x + 1 + i) (by omega) (by omega))
  have FD := Lib.hid (fun W (i : Nat) (hi : i < N) => (by
    have := ofield_any (x : Int) (i : Int) W
    rw [show wrap64 (wrap64 ((x : Int) + 1) + (i : Int)) = ((x + 1 + i : Nat) : Int) by rw [IntWalk.wrap64_in ((x : Int) + 1) ⟨by omega, by omega⟩, IntWalk.wrap64_in _ ⟨by omega, by omega⟩]; omega] at this
    exact this : Calls Tryd.prog 39 #[.int .i64 (x : Int), .int .i64 (i : Int)] W fun e w' => e = .returned (.int .i64 ((x + 1 + i : Nat) : Int)) ∧ w' = W))
  have hS := LkS.new (P := P) (T := T) (R := R) hA hW hT
  rw [h5] at HA FT WD FS
  clear h1 h2 h3 h4 h5 h7 hA hW hT hU hl p0 p1 p2 p3 hr hcl
  unfold LkPost
  rw [lkL_len]
  generalize wordsV (hdC (cs.getD x 0)) (hdK (cs.getD x 0)) (N : Int) = M at *
  generalize hdC (cs.getD x 0) = hc at *
  generalize hdK (cs.getD x 0) = hk at *
  generalize cs.getD (rowN P T R 0 (placeI P T R x).1) 0 % 4 = q0 at *
  generalize cs.getD (rowN P T R 0 (placeI P T R x).1) 0 / 4 % 16 = q1 at *
  generalize cs.getD (rowN P T R 0 (placeI P T R x).1) 0 / 64 % 4 = q2 at *
  generalize cs.getD (rowN P T R 0 (placeI P T R x).1) 0 / 256 % 16 = q3 at *
  generalize cs.getD (rowN P T R 0 (placeI P T R x).1) 0 / 65536 % 4294967296 = q4 at *
  generalize (placeI P T R x).1 = pg at *
  obtain ⟨a0, a1, a2⟩ := hS.pl.three.1
  go_enter Tryd.func24, Tryd.ntmps24
  go_wp2_with fail
  refine (HO.out _ hS.ary hS.wid).mono ?_; rintro e w1 ⟨rfl, hb1⟩
  have hS1 := hS.grew hb1
  clear hS hb1 a0 a1 a2 HO
  go_upto_region 4 with fail
  have hE := entNew w1 q0 q1 q2 q3 q4 109
  have hS2 := hS1.alloc (.cells #[.int .i64 q0, .int .i64 q1, .int .i64 q2, .int .i64 q3, .int .i64 q4] 109)
  clear hS1
  generalize hw2 : w1.alloc (.cells #[.int .i64 q0, .int .i64 q1, .int .i64 q2, .int .i64 q3, .int .i64 q4] 109) = w2 at *
  replace hw2 := Lib.hid hw2
  generalize w1.heap.size = be at *
  go_wp2_with fail
  refine (HA.out _ hS2.ary).mono ?_; rintro e w3 ⟨rfl, hb3⟩
  have hS3 := hS2.grew hb3
  have hE3 := hE.grew hb3
  clear hS2 hE hb3 HA
  go_upto_region 5 with fail
  have hH := Blk.new w3 #[.int .i64 hc, .int .i64 hk, .int .i64 (N : Int)] 56
  have hS4 := hS3.alloc (.cells #[.int .i64 hc, .int .i64 hk, .int .i64 (N : Int)] 56)
  have hE4 := hE3.alloc (.cells #[.int .i64 hc, .int .i64 hk, .int .i64 (N : Int)] 56)
  clear hS3 hE3
  generalize hw4 : w3.alloc (.cells #[.int .i64 hc, .int .i64 hk, .int .i64 (N : Int)] 56) = w4 at *
  replace hw4 := Lib.hid hw4
  generalize w3.heap.size = bh at *
  have SQ := Lib.hid (fun W (hb : Below w4.heap.size w4 W) => show (W.cell? ⟨w.heap.size, 0, none⟩ = some (.int .i64 P) ∧ W.cell? ⟨w.heap.size, 1, none⟩ = some (.int .i64 T) ∧ W.cell? ⟨w.heap.size, 2, none⟩ = some (.int .i64 R)) ∧ (W.cell? ⟨be, 0, none⟩ = some (.int .i64 q0) ∧ W.cell? ⟨be, 1, none⟩ = some (.int .i64 q1) ∧ W.cell? ⟨be, 2, none⟩ = some (.int .i64 q2) ∧ W.cell? ⟨be, 3, none⟩ = some (.int .i64 q3) ∧ W.cell? ⟨be, 4, none⟩ = some (.int .i64 q4)) ∧ (W.cell? ⟨bh, 0, none⟩ = some (.int .i64 hc) ∧ W.cell? ⟨bh, 1, none⟩ = some (.int .i64 hk) ∧ W.cell? ⟨bh, 2, none⟩ = some (.int .i64 (N : Int))) from
    ⟨(hS4.grew hb).pl.three.1, five_at (hE4.grew hb), (hH.grew hb).three.1⟩)
  have HF := Lib.hid (fun W (hb : Below w4.heap.size w4 W) => FT.out W (hS4.grew hb).tab)
  have HS := Lib.hid (fun W (hb : Below w4.heap.size w4 W) => FS.out W (hS4.grew hb).wid)
  have B4 : Below w4.heap.size w4 w4.drew := Quiet.below ⟨1, rfl⟩
  have KB := Lib.hid (fun (A C : World) (hb : Below A.heap.size A C) (h : Below w4.heap.size w4 A) => h.trans (hb.mono h.size))
  clear FT FS
  go_region_held3 (fun W => ((W.cell? ⟨w.heap.size, 0, none⟩ = some (.int .i64 P) ∧ W.cell? ⟨w.heap.size, 1, none⟩ = some (.int .i64 T) ∧ W.cell? ⟨w.heap.size, 2, none⟩ = some (.int .i64 R)) ∧ (W.cell? ⟨be, 0, none⟩ = some (.int .i64 q0) ∧ W.cell? ⟨be, 1, none⟩ = some (.int .i64 q1) ∧ W.cell? ⟨be, 2, none⟩ = some (.int .i64 q2) ∧ W.cell? ⟨be, 3, none⟩ = some (.int .i64 q3) ∧ W.cell? ⟨be, 4, none⟩ = some (.int .i64 q4)) ∧ (W.cell? ⟨bh, 0, none⟩ = some (.int .i64 hc) ∧ W.cell? ⟨bh, 1, none⟩ = some (.int .i64 hk) ∧ W.cell? ⟨bh, 2, none⟩ = some (.int .i64 (N : Int)))) ∧ Below w4.heap.size w4 W)
    (first | (with_reducible exact ⟨SQ.out _ B4, B4⟩) | (with_reducible exact ⟨SQ.out _ hg7, hg7⟩) | (have hg := KB.out _ _ (by assumption) (And.right (by assumption)); exact ⟨SQ.out _ hg, hg⟩))
    (first
      | (go_at_call 44; refine (HF.out _ (And.right (by assumption))).mono ?_; rintro e w5 ⟨rfl, hb5⟩)
      | (go_at_call 36; refine (WD.out _).mono ?_; rintro e w6 ⟨rfl, hb6⟩)
      | (go_at_call 45; refine (HS.out _ (And.right (by assumption))).mono ?_; rintro e w7 ⟨rfl, hb7⟩; have hg7 := KB.out _ _ hb7 (And.right (by assumption))))
  have hS7 := hS4.grew hg7
  have hH7 := hH.grew hg7
  clear hS4 hE4 hH SQ HF HS B4 KB WD
  have hd := hH7.three.1
  obtain ⟨d0, d1, d2⟩ := hd
  have KS := Lib.hid (fun W (hb : Below w7.heap.size w7 W) => hS7.grew hb)
  have KH := Lib.hid (fun W (hb : Below w7.heap.size w7 W) => (hH7.grew hb).three.1)
  have hC : Blk (w7.alloc (.cells #[.int .i64 (x : Int), .int .i64 hc, .int .i64 hk, .slice none 0 0] 70)) w7.heap.size #[.int .i64 (x : Int), .int .i64 hc, .int .i64 hk, .slice none 0 0] 70 := Blk.new _ _ _
  have hB8 : Below w7.heap.size w7 (w7.alloc (.cells #[.int .i64 (x : Int), .int .i64 hc, .int .i64 hk, .slice none 0 0] 70)) := (Below.refl _ _).alloc (Nat.le_refl _) _
  obtain ⟨i0, Z⟩ := info_parts info_i64
  have Z := Lib.hid Z
  clear hS7 hH7 hg7
  go_upto_region 8 with fail
  clear d0 d1 d2
  obtain ⟨d0, d1, d2⟩ := KH.out _ hB8
  generalize hw8 : w7.alloc (.cells #[.int .i64 (x : Int), .int .i64 hc, .int .i64 hk, .slice none 0 0] 70) = wA at *
  replace hw8 := Lib.hid hw8
  have hbc2 : w.heap.size + 1 < w7.heap.size := Blk.lt (KS.out _ (Below.refl _ _)).res
  generalize hbc : w7.heap.size = bc at *
  replace hbc := Lib.hid hbc
  go_wp2_with fail
  clear d0 d1 d2
  go_loopw [62] (fun s wr => ∃ (j : Nat) (u : Value), j ≤ N ∧ s = .int .i64 j ∧ Below bc w7 wr ∧ Blk wr bc #[.int .i64 (x : Int), .int .i64 hc, .int .i64 hk, u] 70 ∧ wr.ownsRow (bc + 1) 2 1 u j (lkL cs x j)) (fun s _ => N - (intOf s).toNat)
  case atStart => exact ⟨0, _, Nat.zero_le _, rfl, hB8, hC, World.ownsRow_nil _ _ _ _⟩
  case round =>
    clear hC hB8
    obtain ⟨j, u, hj, rfl, hb, hC, ho⟩ := hrel
    obtain ⟨a5, k5, hu5⟩ : ∃ a c, u = .slice a j c := by
      rcases ho.2 with ⟨h1, h2⟩ | ⟨g, cap, cur, h1, _⟩
      · exact ⟨none, 0, by rw [h1, h2]⟩
      · exact ⟨_, cap, h1⟩
    subst hu5
    by_cases hlt : j < N
    · have hlt' : (j : Int) < (N : Int) := by omega
      have hS := KS.out _ hb
      go_wp2_with fail
      refine (FD.out _ j hlt).mono ?_; rintro e w8 ⟨rfl, rfl⟩
      go_wp2_with fail
      refine (PK.out _ j hlt hS.ary).mono ?_; rintro e w8 ⟨rfl, hq8⟩
      have hC8 := hC.quiet hq8
      have ho8 := Quiet.ownsRow hq8 ho
      have hb8 := hb.trans hq8.below
      clear hC ho hb hS hq8
      have hz := Lib.hid (lkL_succ cs x j)
      unfold lkV at hz
      generalize cs.getD (x + 1 + j) 0 = z at *
      have hbt := (Below.refl w8.heap.size w8).alloc (Nat.le_refl _) (.cells #[.int .i64 (wrap64 z)] 2)
      have HO9 := Lib.hid (own_grewG ho8 hbt)
      have HK9 := Lib.hid (Blk.new w8 #[.int .i64 (wrap64 z)] 2)
      have hC9 := hC8.grew hbt
      have HC9 := Lib.hid hC9
      have hsz8 : bc ≤ w8.heap.size := by have := hb8.size; have := hbc.out; omega
      have HB9 := Lib.hid (hb8.trans (hbt.mono hsz8))
      have HSZ := Lib.hid (Nat.le_trans (Nat.succ_le_of_lt hC8.lt) hbt.size)
      have c3 := hC8.val 3 rfl
      have hjm : j ≤ 255 := by omega
      have HJ := Lib.hid hjm
      have hbcz := Lib.hid (show w7.heap.size ≤ bc from Nat.le_of_eq hbc.out)
      clear hC8 ho8 hb8 hbt hC9 hjm hsz8
      go_wp2_with (at_builtin; refine wpList_append_own_at _ rfl _ _ 68 rfl (bc + 1) 2 i0 _ 1 8 Tryd.underlying68 Z.out.1 Z.out.2.1 Z.out.2.2.1 Z.out.2.2.2 rfl (by decide) (.slice a5 j k5) j (lkL cs x j) rfl HO9.out ⟨w8.heap.size, 0, none⟩ 1 1 [.int .i64 (wrap64 z)] rfl rfl (World.news_of_block HK9.out) (by simp [Value.oneCell']) (by have := HJ.out; unfold maxLen; omega) (by have := HJ.out; omega) HSZ.out ?_)
      intro u' w6 hown hgrow _ _
      obtain ⟨a6, k6, hu6⟩ : ∃ a c, u' = .slice a (j + 1) c := by
        rcases hown.2 with ⟨h1, h2⟩ | ⟨g, cap, cur, h1, _⟩
        · exact absurd h2 (by omega)
        · exact ⟨_, cap, h1⟩
      subst hu6
      have hC6 := HC9.out.of (hgrow.block _ HC9.out.lt (fun e => by have := (own_ltG HO9.out e.symm).1; omega))
      have c36 := hC6.val 3 rfl
      have f36 := hC6.frozen 3
      have hb6 := HB9.out.grown hgrow (Nat.le_of_succ_le HSZ.out) (fun q hq => by have := (own_ltG HO9.out hq).1; have := hbcz.out; omega)
      have hC7 : Blk (w6.setCell ⟨bc, 3, none⟩ (.slice a6 (j + 1) k6)) bc #[.int .i64 (x : Int), .int .i64 hc, .int .i64 hk, .slice a6 (j + 1) k6] 70 := hC6.set 3 (.slice a6 (j + 1) k6)
      have hb7 := hb6.setCell (p := ⟨bc, 3, none⟩) (by simp) (.slice a6 (j + 1) k6)
      have ho7 := own_touch hown (Touch.setCell (R := fun k => k = bc) (p := ⟨bc, 3, none⟩) (Touch.refl _ _) rfl (.slice a6 (j + 1) k6)) (fun g e h => by have := (own_ltG hown e).1; omega)
      have HF := Lib.hid (And.intro hb7 (And.intro hC7 ho7))
      clear hown hgrow hC6 hb6 hC7 hb7 ho7 c3
      go_wp2
      go_roundw
      case rel => exact ⟨j + 1, _, by omega, by go_num, HF.out.1, HF.out.2.1, by rw [hz.out]; exact HF.out.2.2⟩
      case measure => simp [intOf]; omega
    · obtain rfl : j = N := by omega
      have hlt' : ¬ (j : Int) < (j : Int) := by omega
      have hS := KS.out _ hb
      have c0 := hC.val 0 rfl
      have c1 := hC.val 1 rfl
      have c2 := hC.val 2 rfl
      have c3 := hC.val 3 rfl
      have r0 := hS.res.val 0 rfl
      have r1 := hS.res.val 1 rfl
      have r2 := hS.res.val 2 rfl
      have r3 := hS.res.val 3 rfl
      have f0 := hS.res.frozen 0
      have f1 := hS.res.frozen 1
      have f2 := hS.res.frozen 2
      have f3 := hS.res.frozen 3
      have hZ : Blk ((((wr.setCell ⟨w.heap.size + 1, 0, none⟩ (.int .i64 x)).setCell ⟨w.heap.size + 1, 1, none⟩ (.int .i64 hc)).setCell ⟨w.heap.size + 1, 2, none⟩ (.int .i64 hk)).setCell ⟨w.heap.size + 1, 3, none⟩ (.slice a5 j k5)) (w.heap.size + 1) #[.int .i64 x, .int .i64 hc, .int .i64 hk, .slice a5 j k5] 70 :=
        (((hS.res.set 0 (.int .i64 x)).set 1 (.int .i64 hc)).set 2 (.int .i64 hk)).set 3 (.slice a5 j k5)
      have hB9 : Below w.heap.size w ((((wr.setCell ⟨w.heap.size + 1, 0, none⟩ (.int .i64 x)).setCell ⟨w.heap.size + 1, 1, none⟩ (.int .i64 hc)).setCell ⟨w.heap.size + 1, 2, none⟩ (.int .i64 hk)).setCell ⟨w.heap.size + 1, 3, none⟩ (.slice a5 j k5)) :=
        (((hS.bel.setCell (p := ⟨w.heap.size + 1, 0, none⟩) (by simp) _).setCell (p := ⟨w.heap.size + 1, 1, none⟩) (by simp) _).setCell (p := ⟨w.heap.size + 1, 2, none⟩) (by simp) _).setCell (p := ⟨w.heap.size + 1, 3, none⟩) (by simp) _
      have hT9 : Touch (fun b => b = w.heap.size + 1) wr ((((wr.setCell ⟨w.heap.size + 1, 0, none⟩ (.int .i64 x)).setCell ⟨w.heap.size + 1, 1, none⟩ (.int .i64 hc)).setCell ⟨w.heap.size + 1, 2, none⟩ (.int .i64 hk)).setCell ⟨w.heap.size + 1, 3, none⟩ (.slice a5 j k5)) :=
        ((((Touch.refl (fun b => b = w.heap.size + 1) wr).setCell (p := ⟨w.heap.size + 1, 0, none⟩) rfl _).setCell (p := ⟨w.heap.size + 1, 1, none⟩) rfl _).setCell (p := ⟨w.heap.size + 1, 2, none⟩) rfl _).setCell (p := ⟨w.heap.size + 1, 3, none⟩) rfl _
      have ho9 := own_sub (own_touch ho hT9 (fun g e h => by have := (own_ltG ho e).1; omega)) (show w.heap.size ≤ bc + 1 by omega)
      have HF := Lib.hid (And.intro hZ (And.intro hB9 ho9))
      clear hZ hB9 ho9 hT9 ho hC hS hb
      go_wp2
      generalize World.setCell (World.setCell (World.setCell (World.setCell _ _ _) _ _) _ _) _ _ = W9 at *
      obtain ⟨hZ, hB9, ho9⟩ := HF.out
      have z0 := hZ.val 0 rfl
      have z1 := hZ.val 1 rfl
      have z2 := hZ.val 2 rfl
      have z3 := hZ.val 3 rfl
      exact bodyPost_ret (v := .tuple #[.agg #[.int .i64 x, .int .i64 hc, .int .i64 hk, .slice a5 j k5], .int .i64 0]) (by simp [results, Tryd.results24, go_sem, z0, z1, z2, z3]) rfl ⟨_, rfl, ho9, hB9⟩
end
end Go.Proofs.YtohmnjejchppkaaDoor
/- The law's 'lay': an arena and a row of the same words. Condition: the plan is right; the words are read in full. -/
namespace Go.Proofs.YtohmnjejchppkaaDoor
open Go.RowKit
set_option linter.unusedVariables false
def OLay (P T R : Int) (l : List (Int × Int)) (w : World) (e : Ending) (w' : World) : Prop :=
  ∃ a c d, e = .returned (.tuple #[.pointer (some ⟨a, 0, none⟩), .slice (some ⟨d, 0, none⟩) (cellsN P T R) (cellsN P T R), .bool true]) ∧ LyS w w.heap.size a c d (layL (cellsN P T R) (l.take 300)) w' ∧ w.heap.size ≤ d
set_option maxRecDepth 100000 in
set_option maxHeartbeats 2000000 in
theorem olay_yes (P T R : Int) (v : Value) (l : List (Int × Int)) (w : World) (h : Right P T R) (hl : RdRow 2 ElW w.heap.size w v l) :
    Calls Tryd.prog 10 #[.agg #[.int .i64 P, .int .i64 T, .int .i64 R], v] w (OLay P T R l w) := by
  obtain ⟨a1, q1, rfl, hx⟩ := hl
  have hl : RdRow 2 ElW w.heap.size w (.slice a1 l.length q1) l := ⟨a1, q1, rfl, hx⟩
  clear hx
  have RP := Lib.hid (fun W (hb : Below w.heap.size w W) => hl.keep hb fun _ _ _ e r => r.keep hb e)
  obtain ⟨hN, hN1, hN2⟩ := cellsN_bd h
  have CC := Lib.hid (fun W => rcells_yes P T R W h)
  rw [← hN] at CC
  clear hl h hN
  unfold OLay
  generalize cellsN P T R = N at *
  have NY := Lib.hid (fun W => new_yes N true W (by omega) (by omega))
  have hmk := fun W => run_mk W (N : Int) (by omega) (by omega)
  have KN := Lib.hid (fun x => layAt_val (N := N) (by omega) (by omega) x)
  have LN := Lib.hid (fun x => layAt_lt (N := N) (by omega) x)
  have LL := Lib.hid (fun x => layL_len N x)
  go_enter Tryd.func10, Tryd.ntmps10
  have c0 := (planNew w P T R 28)
  go_wp2_with fail
  refine (CC.out _).mono ?_; rintro e w1 ⟨rfl, hb1⟩
  have c1 := planKeep c0 hb1
  have hB1 := c1.2
  clear c0 hb1 c1
  go_wp2_with fail
  clear hmk
  have hd0 : Blk (w1.alloc (.cells (zeros N) 26)) w1.heap.size (zeros N) 26 := Blk.new _ _ _
  have hB2 := hB1.alloc hB1.size (.cells (zeros N) 26)
  have hs2 : (w1.alloc (.cells (zeros N) 26)).heap.size = w1.heap.size + 1 := by simp
  have hs1 := hB1.size
  generalize w1.alloc (.cells (zeros N) 26) = w2 at *
  refine (NY.out _).mono ?_; rintro e w3 ⟨a, c, rfl, hA3, ha, hc, hb3⟩
  have hS3 : LyS w w.heap.size a c w1.heap.size (layL N []) w3 := by
    refine ⟨⟨[], ⟨.slice none 0 0, ⟨hA3, World.ownsRow_nil _ _ _ _, by simp [Value.ownBlock], by simp [Value.ownBlock]⟩, fun g e => by simp [Value.ownBlock] at e⟩, by simp; omega, by simp; omega, fun b hb => by rw [List.mem_singleton.1 hb]; have := hb3.size; omega, by omega, by omega, Nat.le_trans hB2.size hb3.size⟩, hd0.grew hb3, hB2.trans (hb3.mono hB2.size)⟩
  clear hA3 hd0 hB1 hB2 hb3 NY ha hc
  replace hs1 := Lib.hid hs1
  go_wp2_with fail
  go_loopw [10] (fun i wr => ∃ k : Nat, k ≤ (l.take 300).length ∧ i = .int .i64 k ∧ LyS w w.heap.size a c w1.heap.size (layL N ((l.take 300).take k)) wr) (fun i _ => (l.take 300).length - (intOf i).toNat)
  case atStart => exact ⟨0, Nat.zero_le _, rfl, hS3⟩
  case round =>
    clear hS3
    obtain ⟨k, hk, rfl, hS⟩ := hrel
    have hl3 : (l.take 300).length = min 300 l.length := List.length_take ..
    by_cases hlt : k < (l.take 300).length
    · have hkl : k < l.length := by omega
      have hk1 : (k : Int) < (l.length : Int) := by omega
      have hk2 : (k : Int) < 300 := by omega
      obtain ⟨b, o, rfl, hbw, ex1, ex2, ex3⟩ := rd_at (RP.out _ hS.bel) hkl
      have hsn : Hid (layL N ((l.take 300).take (k + 1)) = (layL N ((l.take 300).take k)).set (layAt N l[k].1) l[k].2) := Lib.hid (by
        rw [← layL_snoc, List.take_add_one, List.getElem?_eq_getElem hlt, List.getElem_take]; rfl)
      have hcl : (layL N ((l.take 300).take k)).length = N := LL.out _
      generalize layL N ((l.take 300).take k) = cs at *
      generalize l[k] = x at *
      obtain ⟨x1, x2⟩ := x
      dsimp only at ex1 ex2 ex3 hsn
      have hat := LN.out x1
      have hav := KN.out x1
      generalize layAt N x1 = q at *
      have hqc : q < cs.length := by omega
      replace hav := Lib.hid hav
      clear hl3 hk
      go_upto_region 9 with fail
      first | rw [hav.out.1] | rw [hav.out.2]
      have hP := hS.put hs1.out q x2
      have r1 : wr.cell? ⟨w1.heap.size, q, none⟩ = some (.int .u64 (cs[q]'hqc)) := hS.row.val q (by simp [hqc])
      have r2 := hS.row.frozen q
      have hbd : b ≠ w1.heap.size := by have := hs1.out; omega
      have ey2 := (World.cell?_setCell_other wr ⟨w1.heap.size, q, none⟩ ⟨b, o + k * 2 + 1, none⟩ (.int .u64 x2) (by simp)).trans ex2
      have hq1 : (0 : Int) ≤ (q : Int) := by omega
      have hq2 : (q : Int) < (N : Int) := by omega
      generalize cs[q]'hqc = z at *
      go_upto_region 10 with fail
      obtain ⟨hA9, hR9, hB9⟩ := hP
      generalize wr.setCell ⟨w1.heap.size, q, none⟩ (.int .u64 x2) = W9 at *
      clear r1 r2 ex1 ex2 hS
      go_wp2_with fail
      refine (apoke x2 hA9 (by omega) (by omega)).mono ?_
      rintro e w10 ⟨rfl, hA10, hT10⟩
      have hc := hA9.cne
      have hS10 : LyS w w.heap.size a c w1.heap.size (cs.set q x2) w10 := ⟨hA10, hR9.touch hT10 (fun e => hc.1 (by simp [e])), hB9.trans (hT10.below hB9.size (fun b hb => by rw [hb]; exact hc.2.1))⟩
      clear hA10 hT10 hc hA9 hR9 hB9 ey2
      go_wp2
      go_roundw
      case rel => exact ⟨k + 1, by omega, by go_num, by rw [hsn.out]; exact hS10⟩
      case measure => simp [intOf]; omega
    · by_cases hkl : k < l.length
      · have hk1 : (k : Int) < (l.length : Int) := by omega
        have hk2 : ¬ (k : Int) < 300 := by omega
        have he : Hid ((l.take 300).take k = l.take 300) := Lib.hid (List.take_of_length_le (by omega))
        go_wp2
        go_ret3
        exact ⟨a, c, w1.heap.size, rfl, by rw [he.out] at hS; exact hS, hs1.out⟩
      · have hk1 : ¬ (k : Int) < (l.length : Int) := by omega
        have he : Hid ((l.take 300).take k = l.take 300) := Lib.hid (List.take_of_length_le (by omega))
        go_wp2
        go_ret3
        exact ⟨a, c, w1.heap.size, rfl, by rw [he.out] at hS; exact hS, hs1.out⟩
end Go.Proofs.YtohmnjejchppkaaDoor
/- What the document's functions on entries return. No condition but that each number fits its kind. -/
namespace Go.Proofs.YtohmnjejchppkaaDoor
open Go.RowKit
set_option linter.unusedVariables false
set_option linter.unusedSimpArgs false

set_option maxHeartbeats 2000000 in
theorem isEnt_0 (c s o y : Int) (w : World) :
    Calls Tryd.prog 31 #[.agg #[.int .i64 0, .int .i64 c, .int .i64 s, .int .i64 o, .int .i64 y]] w fun e w' => e = .returned (.bool (entB 0 c s o y)) ∧ Below w.heap.size w w' := by
  go_enter Tryd.func31, Tryd.ntmps31
  go_wp2
  all_goals
    go_ret
    refine ⟨ret_bool ?_, (Below.refl _ _).alloc (Nat.le_refl _) _⟩
    rw [Bool.eq_iff_iff]
    first | (simp [entB, statB, kindBEnt, inB, holdsB]; done) | (simp [entB, statB, kindBEnt, inB, holdsB]; omega) | (simp [entB, statB, kindBEnt, inB, holdsB, *]; done) | (simp [entB, statB, kindBEnt, inB, holdsB, *]; omega)
set_option maxHeartbeats 2000000 in
theorem isEnt_10 (c o y : Int) (w : World) :
    Calls Tryd.prog 31 #[.agg #[.int .i64 1, .int .i64 c, .int .i64 0, .int .i64 o, .int .i64 y]] w fun e w' => e = .returned (.bool (entB 1 c 0 o y)) ∧ Below w.heap.size w w' := by
  go_enter Tryd.func31, Tryd.ntmps31
  go_wp2
  all_goals
    go_ret
    refine ⟨ret_bool ?_, (Below.refl _ _).alloc (Nat.le_refl _) _⟩
    rw [Bool.eq_iff_iff]
    first | (simp [entB, statB, kindBEnt, inB, holdsB]; done) | (simp [entB, statB, kindBEnt, inB, holdsB]; omega) | (simp [entB, statB, kindBEnt, inB, holdsB, *]; done) | (simp [entB, statB, kindBEnt, inB, holdsB, *]; omega)
set_option maxHeartbeats 2000000 in
theorem isEnt_11 (c o y : Int) (w : World) :
    Calls Tryd.prog 31 #[.agg #[.int .i64 1, .int .i64 c, .int .i64 1, .int .i64 o, .int .i64 y]] w fun e w' => e = .returned (.bool (entB 1 c 1 o y)) ∧ Below w.heap.size w w' := by
  go_enter Tryd.func31, Tryd.ntmps31
  go_wp2
  all_goals
    go_ret
    refine ⟨ret_bool ?_, (Below.refl _ _).alloc (Nat.le_refl _) _⟩
    rw [Bool.eq_iff_iff]
    first | (simp [entB, statB, kindBEnt, inB, holdsB]; done) | (simp [entB, statB, kindBEnt, inB, holdsB]; omega) | (simp [entB, statB, kindBEnt, inB, holdsB, *]; done) | (simp [entB, statB, kindBEnt, inB, holdsB, *]; omega)
set_option maxHeartbeats 2000000 in
theorem isEnt_12 (c o y : Int) (w : World) :
    Calls Tryd.prog 31 #[.agg #[.int .i64 1, .int .i64 c, .int .i64 2, .int .i64 o, .int .i64 y]] w fun e w' => e = .returned (.bool (entB 1 c 2 o y)) ∧ Below w.heap.size w w' := by
  go_enter Tryd.func31, Tryd.ntmps31
  go_wp2
  all_goals
    go_ret
    refine ⟨ret_bool ?_, (Below.refl _ _).alloc (Nat.le_refl _) _⟩
    rw [Bool.eq_iff_iff]
    first | (simp [entB, statB, kindBEnt, inB, holdsB]; done) | (simp [entB, statB, kindBEnt, inB, holdsB]; omega) | (simp [entB, statB, kindBEnt, inB, holdsB, *]; done) | (simp [entB, statB, kindBEnt, inB, holdsB, *]; omega)
set_option maxHeartbeats 2000000 in
theorem isEnt_1x (c s o y : Int) (w : World) (s0 : ¬ s = 0) (s1 : ¬ s = 1) (s2 : ¬ s = 2) :
    Calls Tryd.prog 31 #[.agg #[.int .i64 1, .int .i64 c, .int .i64 s, .int .i64 o, .int .i64 y]] w fun e w' => e = .returned (.bool (entB 1 c s o y)) ∧ Below w.heap.size w w' := by
  have e0 : (s == 0) = false := beq_eq_false_iff_ne.2 s0
  have e1 : (s == 1) = false := beq_eq_false_iff_ne.2 s1
  have e2 : (s == 2) = false := beq_eq_false_iff_ne.2 s2
  go_enter Tryd.func31, Tryd.ntmps31
  go_wp2
  all_goals
    go_ret
    refine ⟨ret_bool ?_, (Below.refl _ _).alloc (Nat.le_refl _) _⟩
    rw [Bool.eq_iff_iff]
    first | (simp [entB, statB, kindBEnt, inB, holdsB]; done) | (simp [entB, statB, kindBEnt, inB, holdsB]; omega) | (simp [entB, statB, kindBEnt, inB, holdsB, *]; done) | (simp [entB, statB, kindBEnt, inB, holdsB, *]; omega)
end Go.Proofs.YtohmnjejchppkaaDoor
/- What the document's functions on entries return. No condition but that each number fits its kind. -/
namespace Go.Proofs.YtohmnjejchppkaaDoor
open Go.RowKit
set_option linter.unusedVariables false
set_option linter.unusedSimpArgs false

set_option maxHeartbeats 2000000 in
theorem isEnt_20 (c o y : Int) (w : World) :
    Calls Tryd.prog 31 #[.agg #[.int .i64 2, .int .i64 c, .int .i64 0, .int .i64 o, .int .i64 y]] w fun e w' => e = .returned (.bool (entB 2 c 0 o y)) ∧ Below w.heap.size w w' := by
  go_enter Tryd.func31, Tryd.ntmps31
  go_wp2
  all_goals
    go_ret
    refine ⟨ret_bool ?_, (Below.refl _ _).alloc (Nat.le_refl _) _⟩
    rw [Bool.eq_iff_iff]
    first | (simp [entB, statB, kindBEnt, inB, holdsB]; done) | (simp [entB, statB, kindBEnt, inB, holdsB]; omega) | (simp [entB, statB, kindBEnt, inB, holdsB, *]; done) | (simp [entB, statB, kindBEnt, inB, holdsB, *]; omega)
set_option maxHeartbeats 2000000 in
theorem isEnt_21 (c o y : Int) (w : World) :
    Calls Tryd.prog 31 #[.agg #[.int .i64 2, .int .i64 c, .int .i64 1, .int .i64 o, .int .i64 y]] w fun e w' => e = .returned (.bool (entB 2 c 1 o y)) ∧ Below w.heap.size w w' := by
  go_enter Tryd.func31, Tryd.ntmps31
  go_wp2
  all_goals
    go_ret
    refine ⟨ret_bool ?_, (Below.refl _ _).alloc (Nat.le_refl _) _⟩
    rw [Bool.eq_iff_iff]
    first | (simp [entB, statB, kindBEnt, inB, holdsB]; done) | (simp [entB, statB, kindBEnt, inB, holdsB]; omega) | (simp [entB, statB, kindBEnt, inB, holdsB, *]; done) | (simp [entB, statB, kindBEnt, inB, holdsB, *]; omega)
set_option maxHeartbeats 2000000 in
theorem isEnt_22 (c o y : Int) (w : World) :
    Calls Tryd.prog 31 #[.agg #[.int .i64 2, .int .i64 c, .int .i64 2, .int .i64 o, .int .i64 y]] w fun e w' => e = .returned (.bool (entB 2 c 2 o y)) ∧ Below w.heap.size w w' := by
  go_enter Tryd.func31, Tryd.ntmps31
  go_wp2
  all_goals
    go_ret
    refine ⟨ret_bool ?_, (Below.refl _ _).alloc (Nat.le_refl _) _⟩
    rw [Bool.eq_iff_iff]
    first | (simp [entB, statB, kindBEnt, inB, holdsB]; done) | (simp [entB, statB, kindBEnt, inB, holdsB]; omega) | (simp [entB, statB, kindBEnt, inB, holdsB, *]; done) | (simp [entB, statB, kindBEnt, inB, holdsB, *]; omega)
set_option maxHeartbeats 2000000 in
theorem isEnt_2x (c s o y : Int) (w : World) (s0 : ¬ s = 0) (s1 : ¬ s = 1) (s2 : ¬ s = 2) :
    Calls Tryd.prog 31 #[.agg #[.int .i64 2, .int .i64 c, .int .i64 s, .int .i64 o, .int .i64 y]] w fun e w' => e = .returned (.bool (entB 2 c s o y)) ∧ Below w.heap.size w w' := by
  have e0 : (s == 0) = false := beq_eq_false_iff_ne.2 s0
  have e1 : (s == 1) = false := beq_eq_false_iff_ne.2 s1
  have e2 : (s == 2) = false := beq_eq_false_iff_ne.2 s2
  go_enter Tryd.func31, Tryd.ntmps31
  go_wp2
  all_goals
    go_ret
    refine ⟨ret_bool ?_, (Below.refl _ _).alloc (Nat.le_refl _) _⟩
    rw [Bool.eq_iff_iff]
    first | (simp [entB, statB, kindBEnt, inB, holdsB]; done) | (simp [entB, statB, kindBEnt, inB, holdsB]; omega) | (simp [entB, statB, kindBEnt, inB, holdsB, *]; done) | (simp [entB, statB, kindBEnt, inB, holdsB, *]; omega)
set_option maxHeartbeats 2000000 in
theorem isEnt_3 (c s o y : Int) (w : World) :
    Calls Tryd.prog 31 #[.agg #[.int .i64 3, .int .i64 c, .int .i64 s, .int .i64 o, .int .i64 y]] w fun e w' => e = .returned (.bool (entB 3 c s o y)) ∧ Below w.heap.size w w' := by
  go_enter Tryd.func31, Tryd.ntmps31
  go_wp2
  all_goals
    go_ret
    refine ⟨ret_bool ?_, (Below.refl _ _).alloc (Nat.le_refl _) _⟩
    rw [Bool.eq_iff_iff]
    first | (simp [entB, statB, kindBEnt, inB, holdsB]; done) | (simp [entB, statB, kindBEnt, inB, holdsB]; omega) | (simp [entB, statB, kindBEnt, inB, holdsB, *]; done) | (simp [entB, statB, kindBEnt, inB, holdsB, *]; omega)
set_option maxHeartbeats 2000000 in
theorem isEnt_lo (k c s o y : Int) (w : World) (hk : k < 0) :
    Calls Tryd.prog 31 #[.agg #[.int .i64 k, .int .i64 c, .int .i64 s, .int .i64 o, .int .i64 y]] w fun e w' => e = .returned (.bool (entB k c s o y)) ∧ Below w.heap.size w w' := by
  have e0 : (k == 0) = false := beq_eq_false_iff_ne.2 (by omega)
  have e1 : (k == 1) = false := beq_eq_false_iff_ne.2 (by omega)
  have e2 : (k == 2) = false := beq_eq_false_iff_ne.2 (by omega)
  have e3 : (k == 3) = false := beq_eq_false_iff_ne.2 (by omega)
  have hf : entB k c s o y = false := by unfold entB kindBEnt; rw [if_neg (by omega), if_neg (by omega), if_neg (by omega), if_neg (by omega), Bool.and_false]
  rw [hf]
  go_enter Tryd.func31, Tryd.ntmps31
  go_wp2
  all_goals
    go_ret
    exact ⟨rfl, (Below.refl _ _).alloc (Nat.le_refl _) _⟩
set_option maxHeartbeats 2000000 in
theorem isEnt_hi (k c s o y : Int) (w : World) (hk : 3 < k) :
    Calls Tryd.prog 31 #[.agg #[.int .i64 k, .int .i64 c, .int .i64 s, .int .i64 o, .int .i64 y]] w fun e w' => e = .returned (.bool (entB k c s o y)) ∧ Below w.heap.size w w' := by
  have e0 : (k == 0) = false := beq_eq_false_iff_ne.2 (by omega)
  have e1 : (k == 1) = false := beq_eq_false_iff_ne.2 (by omega)
  have e2 : (k == 2) = false := beq_eq_false_iff_ne.2 (by omega)
  have e3 : (k == 3) = false := beq_eq_false_iff_ne.2 (by omega)
  have hf : entB k c s o y = false := by unfold entB kindBEnt; rw [if_neg (by omega), if_neg (by omega), if_neg (by omega), if_neg (by omega), Bool.and_false]
  rw [hf]
  go_enter Tryd.func31, Tryd.ntmps31
  go_wp2
  all_goals
    go_ret
    exact ⟨rfl, (Below.refl _ _).alloc (Nat.le_refl _) _⟩
end Go.Proofs.YtohmnjejchppkaaDoor
/- What the document's functions on entries return. No condition but that each number fits its kind. -/
namespace Go.Proofs.YtohmnjejchppkaaDoor
open Go.RowKit
set_option linter.unusedVariables false
set_option linter.unusedSimpArgs false

theorem isEnt_any (k c s o y : Int) (w : World) :
    Calls Tryd.prog 31 #[.agg #[.int .i64 k, .int .i64 c, .int .i64 s, .int .i64 o, .int .i64 y]] w fun e w' => e = .returned (.bool (entB k c s o y)) ∧ Below w.heap.size w w' := by
  by_cases k0 : k = 0
  · subst k0; exact isEnt_0 c s o y w
  by_cases k1 : k = 1
  · subst k1
    by_cases s0 : s = 0
    · subst s0; exact isEnt_10 c o y w
    by_cases s1 : s = 1
    · subst s1; exact isEnt_11 c o y w
    by_cases s2 : s = 2
    · subst s2; exact isEnt_12 c o y w
    exact isEnt_1x c s o y w s0 s1 s2
  by_cases k2 : k = 2
  · subst k2
    by_cases s0 : s = 0
    · subst s0; exact isEnt_20 c o y w
    by_cases s1 : s = 1
    · subst s1; exact isEnt_21 c o y w
    by_cases s2 : s = 2
    · subst s2; exact isEnt_22 c o y w
    exact isEnt_2x c s o y w s0 s1 s2
  by_cases k3 : k = 3
  · subst k3; exact isEnt_3 c s o y w
  by_cases hk : k < 0
  · exact isEnt_lo k c s o y w hk
  · exact isEnt_hi k c s o y w (by omega)
end Go.Proofs.YtohmnjejchppkaaDoor
/- What the document's functions on entries return: the word of an entry, the entry of a word. No condition but that each number fits its kind. -/
namespace Go.Proofs.YtohmnjejchppkaaDoor
open Go.RowKit
set_option linter.unusedVariables false

set_option maxHeartbeats 1000000 in
theorem reenc_yes (k c s o y : Int) (w : World) (h : entB k c s o y = true) :
    Calls Tryd.prog 9 #[.agg #[.int .i64 k, .int .i64 c, .int .i64 s, .int .i64 o, .int .i64 y]] w fun e w' => e = .returned (.tuple #[.int .u64 (encE k c s o y), .int .i64 0]) ∧ Below w.heap.size w w' := by
  have hbd := entB_bd h
  have wk : IntKind.u64.wrap k = k := IntWalk.u64_in k (by omega)
  have wc : IntKind.u64.wrap c = c := IntWalk.u64_in c (by omega)
  have ws : IntKind.u64.wrap s = s := IntWalk.u64_in s (by omega)
  have wo : IntKind.u64.wrap o = o := IntWalk.u64_in o (by omega)
  have wy : IntKind.u64.wrap y = y := IntWalk.u64_in y (by omega)
  obtain ⟨b1, b2, b3, b4, b5, b6⟩ := hbd
  go_enter Tryd.func9, Tryd.ntmps9
  go_wp2_with (go_at_call 31; refine (isEnt_any _ _ _ _ _ _).mono ?_; rintro e w1 ⟨rfl, hb⟩; obtain ⟨c0, c1, c2, c3, c4⟩ := (entAt_new w k c s o y 35).below hb)
  go_ret2
  exact ⟨ret_two rfl rfl, ((Below.refl _ _).alloc (Nat.le_refl _) _).trans (hb.mono (by simp))⟩
set_option maxHeartbeats 1000000 in
theorem reenc_no (k c s o y : Int) (w : World) (h : entB k c s o y = false) :
    Calls Tryd.prog 9 #[.agg #[.int .i64 k, .int .i64 c, .int .i64 s, .int .i64 o, .int .i64 y]] w fun e w' => e = .returned (.tuple #[.int .u64 0, .int .i64 4]) ∧ Below w.heap.size w w' := by
  go_enter Tryd.func9, Tryd.ntmps9
  go_wp2_with (go_at_call 31; refine (isEnt_any _ _ _ _ _ _).mono ?_; rintro e w1 ⟨rfl, hb⟩)
  go_ret2
  exact ⟨rfl, ((Below.refl _ _).alloc (Nat.le_refl _) _).trans (hb.mono (by simp))⟩
theorem reenc_any (k c s o y : Int) (w : World) :
    Calls Tryd.prog 9 #[.agg #[.int .i64 k, .int .i64 c, .int .i64 s, .int .i64 o, .int .i64 y]] w fun e w' => e = .returned (.tuple #[.int .u64 (eencV k c s o y), .int .i64 (eencF k c s o y)]) ∧ Below w.heap.size w w' := by
  unfold eencV eencF
  cases h : entB k c s o y with
  | true => exact reenc_yes k c s o y w h
  | false => exact reenc_no k c s o y w h
end Go.Proofs.YtohmnjejchppkaaDoor
/- The law's own example: a small object is built, and looked at. Condition: sizes' table lies as the start lays it. -/
namespace Go.Proofs.YtohmnjejchppkaaDoor
open Go.RowKit
set_option linter.unusedVariables false
theorem sixNew (w : World) (P T R x y z : Int) (t : TypeId) : Blk (w.alloc (.cells #[.int .i64 P, .int .i64 T, .int .i64 R, .int .i64 x, .int .i64 y, .int .i64 z] t)) w.heap.size #[.int .i64 P, .int .i64 T, .int .i64 R, .int .i64 x, .int .i64 y, .int .i64 z] t := Blk.new _ _ _
set_option maxHeartbeats 400000 in
theorem mpage_any (P T R x y z i : Int) (w : World) :
    Calls Tryd.prog 11 #[.agg #[.int .i64 P, .int .i64 T, .int .i64 R, .int .i64 x, .int .i64 y, .int .i64 z], .int .i64 i] w fun e w' => e = .returned (.int .i64 (wrap64 (y + i))) ∧ Below w.heap.size w w' := by
  have c4 := (sixNew w P T R x y z 32).val 4 rfl
  go_enter Tryd.func11, Tryd.ntmps11
  go_wp2
  go_ret
  exact ⟨rfl, (Below.refl _ _).alloc (Nat.le_refl _) _⟩
set_option maxHeartbeats 400000 in
theorem malloc_any (P T R x y z i : Int) (w : World) :
    Calls Tryd.prog 21 #[.agg #[.int .i64 P, .int .i64 T, .int .i64 R, .int .i64 x, .int .i64 y, .int .i64 z], .int .i64 i] w fun e w' => e = .returned (.int .i64 (wrap64 (wrap64 (y + P) + i))) ∧ Below w.heap.size w w' := by
  have c4 := (sixNew w P T R x y z 32).val 4 rfl
  have c0 := (sixNew w P T R x y z 32).val 0 rfl
  go_enter Tryd.func21, Tryd.ntmps21
  go_wp2
  go_ret
  exact ⟨rfl, (Below.refl _ _).alloc (Nat.le_refl _) _⟩
/-- the words that are laid, and what the cells hold then, and behind the build -/
def bW : List (Int × Int) := [(22, encE 1 0 1 0 0), (23, 4)]
def bC0 : List Int := layL 128 bW
def bC1 : List Int := bC0.set 67 0
def bC2 : List Int := bC1.set 66 (encH 0 2 1)
theorem bN : cellsN 1 1 1 = 128 := by kernel_rfl
theorem bW300 : bW.take 300 = bW := by kernel_rfl
theorem b_hold : holdB 1 1 1 bC2 66 = true := by kernel_rfl
theorem b_hdE : hdE (bC2.getD 66 0) = 0 := by kernel_rfl
theorem b_hdC : hdC (bC2.getD 66 0) = 0 := by kernel_rfl
theorem b_hdK : hdK (bC2.getD 66 0) = 2 := by kernel_rfl
theorem b_hdN : hdN (bC2.getD 66 0) = 1 := by kernel_rfl
theorem b_fit : fitI [] 0 2 1 = true := by kernel_rfl
theorem b_fits : fitsB 1 (bC2.getD (rowN 1 1 1 0 (placeI 1 1 1 66).1) 0 % 4) (bC2.getD (rowN 1 1 1 0 (placeI 1 1 1 66).1) 0 / 4 % 16) (placeI 1 1 1 66).1 (wordsV 0 2 1) = true := by kernel_rfl
theorem b_len : bC2.length = 128 := by kernel_rfl
theorem b_lk : lkL bC2 66 1 = [.int .i64 0] := by kernel_rfl
theorem b_U : ∀ z ∈ bC2, U64 z := by
  have : ∀ z ∈ bC2, decide (0 ≤ z ∧ z < 18446744073709551616) = true := by
    have h : (bC2.all fun z => decide (0 ≤ z ∧ z < 18446744073709551616)) = true := by kernel_rfl
    exact List.all_eq_true.1 h
  intro z hz
  have h := of_decide_eq_true (this z hz)
  exact ⟨h.1, by omega⟩
theorem b_head : headB 0 2 1 = true := by kernel_rfl
theorem b_allow : allowB 1 1 1 66 (1 + 1) = true := by kernel_rfl
theorem b_ent : entB 1 0 1 0 0 = true := by kernel_rfl
theorem b_base : baseI 1 1 1 = 64 := by kernel_rfl
theorem b_tab : tabI 1 1 = 22 := by kernel_rfl
theorem b_right : Right 1 1 1 := by unfold Right; omega
end Go.Proofs.YtohmnjejchppkaaDoor
/- The document's objects: a map's Heap. Condition: the plan is a plan. -/
namespace Go.Proofs.YtohmnjejchppkaaDoor
open Go.RowKit
set_option linter.unusedVariables false
theorem heapB_right {P T R x : Int} (h : Right P T R) : heapB P T R x = inB x (baseI P T R) (baseI P T R + 64 * P - 1) := by unfold heapB; rw [of_right h]; rfl
end Go.Proofs.YtohmnjejchppkaaDoor
/- The document's objects: a page's entry, read in the cells. Condition: the plan is a plan, the page is there, the cells are a row of their own. -/
namespace Go.Proofs.YtohmnjejchppkaaDoor
open Go.RowKit
set_option linter.unusedVariables false
structure ReS (w : World) (P T R bs tb z : Int) (d : Nat) (cs : List Int) (W : World) : Prop where
  mp : Blk W w.heap.size #[.int .i64 P, .int .i64 T, .int .i64 R, .int .i64 bs, .int .i64 tb, .int .i64 z] 32
  res : Blk W (w.heap.size + 1) #[.int .i64 0, .int .i64 0, .int .i64 0, .int .i64 0, .int .i64 0] 35
  row : Blk W d (cs.map (Value.int .u64)).toArray 26
  bel : Below w.heap.size w W
section
variable {w W W' : World} {P T R bs tb z : Int} {d : Nat} {cs : List Int}
theorem ReS.grew (h : ReS w P T R bs tb z d cs W) (hb : Below W.heap.size W W') : ReS w P T R bs tb z d cs W' := ⟨h.mp.grew hb, h.res.grew hb, h.row.grew hb, h.bel.trans (hb.mono h.bel.size)⟩
theorem ReS.new (P T R bs tb z : Int) (hd : Blk w d (cs.map (Value.int .u64)).toArray 26) : ReS w P T R bs tb z d cs ((w.alloc (.cells #[.int .i64 P, .int .i64 T, .int .i64 R, .int .i64 bs, .int .i64 tb, .int .i64 z] 32)).alloc (.cells #[.int .i64 0, .int .i64 0, .int .i64 0, .int .i64 0, .int .i64 0] 35)) :=
  ⟨(Blk.new _ _ _).alloc _, Blk.new' (by simp), (hd.alloc _).alloc _, ((Below.refl _ _).alloc (Nat.le_refl _) _).alloc (by simp) _⟩
theorem ReS.put (h : ReS w P T R bs tb z d cs W) (v0 v1 v2 v3 v4 : Value) :
    Blk (((((W.setCell ⟨w.heap.size + 1, 0, none⟩ v0).setCell ⟨w.heap.size + 1, 1, none⟩ v1).setCell ⟨w.heap.size + 1, 2, none⟩ v2).setCell ⟨w.heap.size + 1, 3, none⟩ v3).setCell ⟨w.heap.size + 1, 4, none⟩ v4) (w.heap.size + 1) #[v0, v1, v2, v3, v4] 35 ∧
    Below w.heap.size w (((((W.setCell ⟨w.heap.size + 1, 0, none⟩ v0).setCell ⟨w.heap.size + 1, 1, none⟩ v1).setCell ⟨w.heap.size + 1, 2, none⟩ v2).setCell ⟨w.heap.size + 1, 3, none⟩ v3).setCell ⟨w.heap.size + 1, 4, none⟩ v4) :=
  ⟨((((h.res.set 0 v0).set 1 v1).set 2 v2).set 3 v3).set 4 v4, ((((h.bel.setCell (p := ⟨w.heap.size + 1, 0, none⟩) (by simp) _).setCell (p := ⟨w.heap.size + 1, 1, none⟩) (by simp) _).setCell (p := ⟨w.heap.size + 1, 2, none⟩) (by simp) _).setCell (p := ⟨w.heap.size + 1, 3, none⟩) (by simp) _).setCell (p := ⟨w.heap.size + 1, 4, none⟩) (by simp) _⟩
theorem ReS.rest (h : ReS w P T R bs tb z d cs W) : (W.cell? ⟨w.heap.size + 1, 0, none⟩ = some (.int .i64 0) ∧ W.cell? ⟨w.heap.size + 1, 1, none⟩ = some (.int .i64 0) ∧ W.cell? ⟨w.heap.size + 1, 2, none⟩ = some (.int .i64 0) ∧ W.cell? ⟨w.heap.size + 1, 3, none⟩ = some (.int .i64 0) ∧ W.cell? ⟨w.heap.size + 1, 4, none⟩ = some (.int .i64 0)) ∧
    (W.frozen? ⟨w.heap.size + 1, 0, none⟩ = false ∧ W.frozen? ⟨w.heap.size + 1, 1, none⟩ = false ∧ W.frozen? ⟨w.heap.size + 1, 2, none⟩ = false ∧ W.frozen? ⟨w.heap.size + 1, 3, none⟩ = false ∧ W.frozen? ⟨w.heap.size + 1, 4, none⟩ = false) :=
  ⟨five_at h.res, h.res.frozen 0, h.res.frozen 1, h.res.frozen 2, h.res.frozen 3, h.res.frozen 4⟩
theorem row_get (h : Blk W d (cs.map (Value.int .u64)).toArray 26) {i : Nat} (hi : i < cs.length) : W.cell? ⟨d, i, none⟩ = some (.int .u64 (cs.getD i 0)) := by
  have := h.val i (v := .int .u64 (cs.getD i 0)) (by simp [List.getD_eq_getElem?_getD, hi])
  exact this
end
end Go.Proofs.YtohmnjejchppkaaDoor
/- Package sizes: what free, Cells, Room, Valid return; the document's Begins, Starts, Cell, Free. No condition but that the tables lie as the start lays them. -/
namespace Go.Proofs.YtohmnjejchppkaaDoor
open Go.RowKit
set_option linter.unusedVariables false

/-! numbers, by classes -/
theorem starts_plcs : ∀ j : Fin 8, plcs (stOr (widF j.val) (List.range (numF j.val))).toNat 64 = (List.range (numF j.val)).map fun i => ((i : Nat) : Int) * widF j.val := by decide +kernel
theorem starts_u64 : ∀ j : Fin 8, 0 ≤ stOr (widF j.val) (List.range (numF j.val)) ∧ stOr (widF j.val) (List.range (numF j.val)) < 18446744073709551616 := by decide +kernel
theorem starts_sum : ∀ j : Fin 8, ∀ k : Fin 32, k.val < numF j.val → IntKind.u64.wrap (stOr (widF j.val) (List.range k.val) + powI (((k.val : Nat) : Int) * widF j.val)) = stOr (widF j.val) (List.range (k.val + 1)) := by decide +kernel
theorem cells_bit : ∀ j : Fin 8, ∀ p : Fin 64, decide (cellI ((j.val : Nat) : Int) ((p.val : Nat) : Int) = ((p.val : Nat) : Int)) = (stOr (widF j.val) (List.range (numF j.val))).toNat.testBit p.val := by decide +kernel
theorem cls_nat (j : Nat) (h : j < 8) : clsB (j : Int) = true ∧ widI (j : Int) = widF j ∧ numN (j : Int) = numF j ∧ startsI (j : Int) = stOr (widF j) (List.range (numF j)) ∧ errI (j : Int) = 0 := by
  have hc : clsB (j : Int) = true := by unfold clsB; simp; omega
  refine ⟨hc, ?_, ?_, ?_, ?_⟩
  · unfold widI; rw [hc, if_pos rfl, Int.toNat_natCast]
  · unfold numN; rw [hc, if_pos rfl, Int.toNat_natCast]
  · unfold startsI; rw [hc, if_pos rfl, Int.toNat_natCast]
  · unfold errI; rw [hc, if_pos rfl]
theorem cls_none (c : Int) (hc : clsB c = false) : widI c = 0 ∧ numN c = 0 ∧ startsI c = 0 ∧ errI c = 1 ∧ cellL c = [] := by
  have h1 : numN c = 0 := by unfold numN; rw [hc]; rfl
  exact ⟨by unfold widI; rw [hc]; rfl, h1, by unfold startsI; rw [hc]; rfl, by unfold errI; rw [hc]; rfl, by unfold cellL; rw [h1]; rfl⟩
theorem startsI_plcs (c : Int) : plcs (startsI c).toNat 64 = cellL c := by
  cases hc : clsB c with
  | true =>
    obtain ⟨j, rfl, hj⟩ := clsB_yes hc
    obtain ⟨_, h2, h3, h4, _⟩ := cls_nat j hj
    unfold cellL
    rw [h2, h3, h4]
    exact starts_plcs ⟨j, hj⟩
  | false =>
    obtain ⟨_, _, h3, _, h5⟩ := cls_none c hc
    rw [h3, h5, show (0 : Int).toNat = 0 from rfl, plcs_nil]
theorem startsI_U64 (c : Int) : U64 (startsI c) := by
  cases hc : clsB c with
  | true =>
    obtain ⟨j, rfl, hj⟩ := clsB_yes hc
    rw [(cls_nat j hj).2.2.2.1]
    exact starts_u64 ⟨j, hj⟩
  | false => rw [(cls_none c hc).2.2.1]; exact ⟨by decide, by decide⟩

/-! bits taken away -/
theorem andNot_nat (x y : Int) (hx : U64 x) (hy : U64 y) : U64 (bits .andNot .u64 x y) ∧ (bits .andNot .u64 x y).toNat = x.toNat &&& (18446744073709551615 - y.toNat) := by
  obtain ⟨X, rfl⟩ := Int.eq_ofNat_of_zero_le hx.1
  obtain ⟨Y, rfl⟩ := Int.eq_ofNat_of_zero_le hy.1
  have hX : X < 2 ^ 64 := by have := hx.2; omega
  have hY : Y < 2 ^ 64 := by have := hy.2; omega
  rw [u64_andNot_nat _ _ (by omega) (by omega)]
  exact ⟨U64.nat _ (Nat.and_lt_two_pow _ (by omega)), by simp⟩
theorem plcs_diff (X Y : Nat) (hY : Y < 2 ^ 64) : ∀ n, n ≤ 64 → plcs (X &&& (18446744073709551615 - Y)) n = (plcs X n).filter fun z => !Y.testBit z.toNat
  | 0, _ => rfl
  | n + 1, h => by
    have ih := plcs_diff X Y hY n (by omega)
    have hb : (X &&& (18446744073709551615 - Y)).testBit n = (X.testBit n && !Y.testBit n) := by
      rw [Nat.testBit_and, testBit_not64 _ _ hY]
      simp [show n < 64 by omega]
    cases h1 : X.testBit n with
    | true =>
      rw [h1] at hb
      rw [plcs_one X n h1, List.filter_append]
      cases h2 : Y.testBit n with
      | true =>
        rw [h2] at hb
        rw [plcs_no _ n (by rw [hb]; rfl), ih]
        simp [h2]
      | false =>
        rw [h2] at hb
        rw [plcs_one _ n (by rw [hb]; rfl), ih]
        simp [h2]
    | false =>
      rw [h1] at hb
      rw [plcs_no X n h1, plcs_no _ n (by rw [hb]; rfl), ih]
theorem plcs_zero_of (X : Nat) (hX : X < 2 ^ 64) (h : plcs X 64 = []) : X = 0 := by
  rcases Nat.eq_zero_or_pos X with h0 | h0
  · exact h0
  · have := (plcs_low X hX (by omega)).1
    rw [h] at this
    exact absurd this (by simp)

/-- the cells that aren't allocated, as bits, as words -/
def freeI (c a : Int) : Int := bits .andNot .u64 (startsI c) a
def freeL (c a : Int) : List Int := (cellL c).filter fun z => !a.toNat.testBit z.toNat
theorem freeI_U64 (c a : Int) (ha : U64 a) : U64 (freeI c a) := (andNot_nat _ _ (startsI_U64 c) ha).1
theorem freeI_plcs (c a : Int) (ha : U64 a) : plcs (freeI c a).toNat 64 = freeL c a := by
  unfold freeI freeL
  rw [(andNot_nat _ _ (startsI_U64 c) ha).2, plcs_diff _ _ (by have := ha.2; have := ha.1; omega) 64 (by omega), startsI_plcs]
def validB (c a : Int) : Bool := clsB c && ((plcs a.toNat 64).all fun p => decide (cellI c p = p))
theorem valid_bits (c a : Int) (ha : U64 a) (hc : clsB c = true) : (bits .andNot .u64 a (startsI c) == 0) = validB c a := by
  obtain ⟨j, rfl, hj⟩ := clsB_yes hc
  have hs := startsI_U64 (j : Int)
  obtain ⟨h1, h2⟩ := andNot_nat a _ ha hs
  have hlt : (startsI (j : Int)).toNat < 2 ^ 64 := by have := hs.2; have := hs.1; omega
  have hp := plcs_diff a.toNat _ hlt 64 (by omega)
  rw [← h2] at hp
  have hall : ((plcs a.toNat 64).all fun p => decide (cellI (j : Int) p = p)) = ((plcs a.toNat 64).all fun p => (startsI (j : Int)).toNat.testBit p.toNat) := by
    rw [Bool.eq_iff_iff, List.all_eq_true, List.all_eq_true]
    have hpt : ∀ p ∈ plcs a.toNat 64, decide (cellI (j : Int) p = p) = (startsI (j : Int)).toNat.testBit p.toNat := by
      intro p hp
      obtain ⟨h3, h4, _⟩ := plcs_mem hp
      have := cells_bit ⟨j, hj⟩ ⟨p.toNat, by omega⟩
      simp only at this
      rw [show ((p.toNat : Nat) : Int) = p by omega] at this
      rw [(cls_nat j hj).2.2.2.1, this]
    exact ⟨fun h p hp => by rw [← hpt p hp]; exact h p hp, fun h p hp => by rw [hpt p hp]; exact h p hp⟩
  unfold validB
  rw [hc, Bool.true_and, hall, Bool.eq_iff_iff, List.all_eq_true, beq_iff_eq]
  constructor
  · intro h0 p hpm
    rw [h0, show (0 : Int).toNat = 0 from rfl, plcs_nil] at hp
    have := List.filter_eq_nil_iff.1 hp.symm p hpm
    simpa using this
  · intro h
    have h5 : plcs (bits .andNot .u64 a (startsI (j : Int))).toNat 64 = [] := by
      rw [hp]
      exact List.filter_eq_nil_iff.2 (fun p hpm => by simpa using h p hpm)
    have h6 := plcs_zero_of _ (by have := h1.2; have := h1.1; omega) h5
    have := h1.1
    omega

/-! the document's -/
set_option maxRecDepth 100000 in
set_option maxHeartbeats 1000000 in
theorem begins_any (c : Int) (w : World) :
    Calls Tryd.prog 8 #[.int .i64 c] w fun e w' => ∃ v, e = .returned v ∧ w'.ownsRow w.heap.size 3 1 v (cellL c).length ((cellL c).map (Value.int .i64)) ∧ Below w.heap.size w w' := by
  obtain ⟨i0, hi, hz0, hz1, hz2⟩ := info_parts info_int
  have P := Lib.hid (fun W => rwords_anySz c W)
  cases hc : clsB c with
  | false =>
    obtain ⟨h1, h2, h3, h4, h5⟩ := cls_none c hc
    rw [h1, h4] at P
    rw [h5]
    clear h1 h2 h3 h4 h5 hc
    go_enter Tryd.func8, Tryd.ntmps8
    go_wp2_with fail
    refine (P.out _).mono ?_
    rintro e w2 ⟨rfl, hb2⟩
    go_wp2
    go_ret
    exact ⟨_, rfl, World.ownsRow_nil _ _ _ _, hb2⟩
  | true =>
    obtain ⟨j, rfl, hj⟩ := clsB_yes hc
    obtain ⟨_, h2, h3, h4, h5⟩ := cls_nat j hj
    have hend := Lib.hid (num_over j hj)
    have hfit : Hid (∀ k, k < numF j → ((k : Nat) : Int) * widF j + widF j ≤ 64) := num_in j hj
    have hle := num_le j hj
    have hwd := widF_bd j hj
    have hL : cellL (j : Int) = (List.range (numF j)).map fun i => ((i : Nat) : Int) * widF j := by unfold cellL; rw [h2, h3]
    have hLN : ∀ N : Nat, ((List.range N).map fun i => ((i : Nat) : Int) * widF j).length = N := by intro N; simp
    rw [h2, h5] at P
    rw [hL, hLN]
    clear h2 h3 h4 h5 hc hL hLN
    generalize widF j = v at *
    generalize numF j = N at *
    go_enter Tryd.func8, Tryd.ntmps8
    go_wp2_with fail
    refine (P.out _).mono ?_
    rintro e w2 ⟨rfl, hb2⟩
    have hs2 := hb2.size
    go_wp2
    go_loopw [5, 6] (fun l p wr => ∃ (k : Nat) (E : Int), k ≤ N ∧ p = .int .i64 E ∧ Hid (E = ((k : Nat) : Int) * v) ∧ 0 ≤ E ∧ E ≤ 64 ∧
        wr.ownsRow w.heap.size 3 1 l k (((List.range k).map fun i => ((i : Nat) : Int) * v).map (Value.int .i64)) ∧ Below w.heap.size w wr) (fun _ p _ => 64 - (intOf p).toNat)
    case atStart => exact ⟨0, 0, by omega, rfl, by unfold Hid; simp, by omega, by omega, World.ownsRow_nil _ _ _ _, hb2⟩
    case round =>
      obtain ⟨k, E, hk, rfl, hE, hE0, hE1, hown, hb⟩ := hrel
      have hsz := hb.size
      by_cases hkN : k < N
      · have hf := hfit.out k hkN
        rw [← hE.out] at hf
        have HS : Hid (E + v = (((k + 1 : Nat) : Nat) : Int) * v) := by unfold Hid; rw [hE.out]; push_cast; rw [Int.add_mul, Int.one_mul]
        have HR : Hid (((List.range (k + 1)).map fun i => ((i : Nat) : Int) * v).map (Value.int .i64) = ((List.range k).map fun i => ((i : Nat) : Int) * v).map (Value.int .i64) ++ [.int .i64 E]) := by
          unfold Hid; rw [List.range_succ, List.map_append, List.map_append]; simp [hE.out]
        go_wp2_with (at_builtin; refine wpList_append_own _ rfl _ _ 38 rfl w.heap.size 3 i0 (.int .i64 0) 1 8 Tryd.underlying38 hi hz0 hz1 hz2 rfl (by decide) _ _ _ rfl (hown.alloc _) ⟨wr.heap.size, 0, none⟩ 1 1 [.int .i64 E] rfl rfl (cell_one_new _ _ _) ?c2 ?c3 ?c4 ?c5 ?_)
        case c2 => simp [Value.oneCell']
        case c3 => unfold maxLen; omega
        case c4 => omega
        case c5 => simp; omega
        intro v' w3 hown3 hgrow _
        have hb3 : Below w.heap.size w w3 := (hb.alloc hsz _).grown hgrow (by simp; omega) (fun j hj => (hown.lt j hj).1)
        have hown4 : w3.ownsRow w.heap.size 3 1 v' (k + 1) (((List.range (k + 1)).map fun i => ((i : Nat) : Int) * v).map (Value.int .i64)) := by rw [HR.out, List.map_map]; exact hown3
        clear hgrow hown hb HR hown3
        go_wp2
        go_roundw
        case rel => exact ⟨k + 1, E + v, by omega, rfl, HS, by omega, by omega, hown4, hb3⟩
        case measure => simp only [intOf]; omega
      · obtain rfl : k = N := by omega
        have he := hend.out
        rw [← hE.out] at he
        go_wp2
        go_ret
        exact ⟨_, rfl, hown, hb⟩
theorem begins_lst (c : Int) (w : World) :
    Calls Tryd.prog 8 #[.int .i64 c] w fun e w' => ∃ v, e = .returned v ∧ Lst .i64 w' v (cellL c) ∧ Below w.heap.size w w' :=
  (begins_any c w).mono fun _ _ ⟨v, he, hr, hb⟩ => ⟨v, he, lst_of_own hr, hb⟩
theorem begins_none (c : Int) (w : World) (hc : clsB c = false) : Calls Tryd.prog 8 #[.int .i64 c] w fun e w' => ∃ a k, e = .returned (.slice a 0 k) ∧ Below w.heap.size w w' :=
  (begins_lst c w).mono fun _ _ ⟨v, he, hl, hb⟩ => by
    rw [(cls_none c hc).2.2.2.2] at hl
    rcases hl with ⟨_, a, k, h1⟩ | ⟨_, _, _, _, h2, _⟩
    · exact ⟨a, k, by rw [he, h1], hb⟩
    · exact absurd h2 (by simp)
theorem cellL_at (j : Nat) (hj : j < 8) : (cellL (j : Int)).length = numF j ∧ ∀ k, k < numF j → (cellL (j : Int)).getD k 0 = ((k : Nat) : Int) * widF j := by
  obtain ⟨_, h2, h3, _, _⟩ := cls_nat j hj
  unfold cellL
  rw [h2, h3]
  refine ⟨by simp, fun k hk => ?_⟩
  rw [List.getD_eq_getElem?_getD, List.getElem?_map, List.getElem?_range hk]
  rfl
theorem begins_some (j : Nat) (hj : j < 8) (w : World) : Calls Tryd.prog 8 #[.int .i64 (j : Int)] w fun e w' => ∃ b o k, e = .returned (.slice (some ⟨b, o, none⟩) (numF j) k) ∧ (∀ i, i < numF j → w'.cell? ⟨b, o + i, none⟩ = some (.int .i64 (((i : Nat) : Int) * widF j))) ∧ Below w.heap.size w w' := by
  obtain ⟨h1, h2⟩ := cellL_at j hj
  refine (begins_lst (j : Int) w).mono fun _ _ ⟨v, he, hl, hb⟩ => ?_
  rcases hl with ⟨h3, _⟩ | ⟨b, o, k, h3, _, _, h4⟩
  · have h0 : ∀ j : Fin 8, 0 < numF j.val := by decide
    have h5 := h0 ⟨j, hj⟩
    change 0 < numF j at h5
    rw [h3] at h1
    simp at h1
    omega
  · rw [h1] at h3 h4
    exact ⟨b, o, k, by rw [he, h3], fun i hi => by rw [h4 i hi, h2 i hi], hb⟩
end Go.Proofs.YtohmnjejchppkaaDoor
/- The document's Starts, Cell, Free, First and Valid of layer 5. No condition but that each number fits its kind. -/
namespace Go.Proofs.YtohmnjejchppkaaDoor
open Go.RowKit
set_option linter.unusedVariables false

theorem filt_snoc (L : List Int) (p : Int → Bool) (k : Nat) (h : k < L.length) : (L.take (k + 1)).filter p = (L.take k).filter p ++ (if p (L.getD k 0) then [L.getD k 0] else []) := by
  rw [List.take_add_one, List.getElem?_eq_getElem h, List.filter_append, List.getD_eq_getElem?_getD, List.getElem?_eq_getElem h]
  simp only [Option.toList, Option.getD_some]
  cases hp : p L[k] <;> simp [hp]

end Go.Proofs.YtohmnjejchppkaaDoor
/- The document's objects: Allocated. Condition: the plan is a plan, the cells are a row of their own. -/
namespace Go.Proofs.YtohmnjejchppkaaDoor
open Go.RowKit
set_option linter.unusedVariables false
theorem and_one (y : Int) (h : U64 y) : bits .and .u64 y 1 = y % 2 := by
  obtain ⟨h1, h2⟩ := h
  obtain ⟨n, rfl⟩ := Int.eq_ofNat_of_zero_le h1
  unfold bits
  simp
  have e1 : n % 2 ^ IntKind.u64.bits = n := Nat.mod_eq_of_lt (by simp [IntKind.bits]; omega)
  have e2 : 1 % 2 ^ IntKind.u64.bits = 1 := by simp [IntKind.bits]
  rw [e1, e2, Nat.and_one_is_mod, IntWalk.u64_in _ ⟨by omega, by omega⟩]
  omega
theorem bitB_bitI (x i : Int) (hx : U64 x) : (bitI x i == 0) = !bitB x i := by
  unfold bitB
  have h2 : (0 : Int) < ((2 ^ i.toNat : Nat) : Int) := by exact_mod_cast Nat.two_pow_pos _
  have hp : (2 : Int) ^ i.toNat = ((2 ^ i.toNat : Nat) : Int) := by push_cast; rfl
  rw [hp, and_one _ ⟨Int.ediv_nonneg hx.1 (Int.le_of_lt h2), Int.lt_of_le_of_lt (Int.ediv_le_self _ hx.1) hx.2⟩, ← bitI_eq x i hx]
  unfold powI
  simp
end Go.Proofs.YtohmnjejchppkaaDoor
/- The document's objects: room. No condition but the page's bounds. -/
namespace Go.Proofs.YtohmnjejchppkaaDoor
open Go.RowKit
set_option linter.unusedVariables false
theorem pgV_bd (n : Int) : 0 ≤ pgV n ∧ pgV n ≤ 4 := by unfold pgV; split; omega; split; omega; split; omega; omega
def roomB (P k c pg n : Int) : Bool := if k = 2 then (pgV n == c) && decide (pg + pgV n ≤ P) else decide (n ≤ widI c)
end Go.Proofs.YtohmnjejchppkaaDoor
