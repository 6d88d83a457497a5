/- Texts of this seat, one behind the other: each says at its head what it holds. No condition of its own. -/
import Derived.Deep.CutBlock
import Derived.Deep.DeepCutAuto
import Derived.Test.YtichmgilglaglaaDoorGObjectsLast13
import Derived.Test.YtichmgilglaglaaDoorGObjectsLast17
import Derived.Test.YtichmgilglaglaaDoorGObjectsLast18
import Derived.Test.YtichmgilglaglaaDoorGObjectsLast19
import Derived.Test.YtichmgilglaglaaDoorGObjectsLast20
/- Package objects: Look at an object that is there. Conditions: the arena is there, with as many cells as the plan says; the table is there; sizes' table lies as the start lays it. -/
namespace Go.Proofs.YtichmgilglaglaaDoor
open Go.RowKit
set_option linter.unusedVariables false
theorem holdB_parts {P T R : Int} {cs : List Int} {x : Int} (h : holdB P T R cs x = true) :
    0 ≤ (placeI P T R x).1 ∧ edecOk (cs.getD (rowN P T R 0 (placeI P T R x).1) 0) = true ∧ begB (cs.getD (rowN P T R 0 (placeI P T R x).1) 0 % 4) (cs.getD (rowN P T R 0 (placeI P T R x).1) 0 / 4 % 16) (placeI P T R x).2 = true ∧ bitB (cs.getD (rowN P T R 1 (placeI P T R x).1) 0) (placeI P T R x).2 = true := by
  unfold holdB at h
  rw [Bool.and_eq_true, Bool.and_eq_true, Bool.and_eq_true, decide_eq_true_eq] at h
  exact h
theorem getD_U {cs : List Int} (h : ∀ z ∈ cs, U64 z) (i : Nat) : U64 (cs.getD i 0) := by
  rw [List.getD_eq_getElem?_getD]
  cases e : cs[i]? with
  | none => exact ⟨by decide, by decide⟩
  | some z => exact h z (List.mem_of_getElem? e)
def lkV (cs : List Int) (x : Nat) (i : Nat) : Int := wrap64 (cs.getD (x + 1 + i) 0)
def lkL (cs : List Int) (x N : Nat) : List Value := (List.range N).map fun i => Value.int .i64 (lkV cs x i)
theorem lkL_succ (cs : List Int) (x N : Nat) : lkL cs x (N + 1) = lkL cs x N ++ [Value.int .i64 (lkV cs x N)] := by unfold lkL; rw [List.range_succ, List.map_append]; rfl
theorem lkL_len (cs : List Int) (x N : Nat) : (lkL cs x N).length = N := by unfold lkL; simp
structure LkS (w : World) (P T R : Int) (B a c n : Nat) (cs : List Int) (K : List Nat) (lo t m : Nat) (tv : Value) (L : List (ClsD × Value × Nat)) (W : World) : Prop where
  pl : Blk W w.heap.size #[.int .i64 P, .int .i64 T, .int .i64 R] 54
  res : Blk W (w.heap.size + 1) #[.int .i64 0, .int .i64 0, .int .i64 0, .slice none 0 0] 70
  ary : Ary W B a c cs n K
  wid : Wid W
  tab : TabS W lo t tv m L
  bel : Below w.heap.size w W
theorem info_i64 : (Tryd.prog.info? 2).map (fun i => (i.zero, i.size, i.bytes)) = some (some (.int .i64 0), 1, 8) := by kernel_rfl
def LkPost (x : Int) (c k : Int) (vs : List Value) (w : World) (e : Ending) (w' : World) : Prop :=
  ∃ u, e = .returned (.tuple #[.agg #[.int .i64 x, .int .i64 c, .int .i64 k, u], .int .i64 0]) ∧ w'.ownsRow w.heap.size 2 1 u vs.length vs ∧ Below w.heap.size w w'
section
variable {w W W' : World} {P T R : Int} {B a c n : Nat} {cs : List Int} {K : List Nat} {lo t m : Nat} {tv : Value} {L : List (ClsD × Value × Nat)}
theorem LkS.grew (h : LkS w P T R B a c n cs K lo t m tv L W) (hb : Below W.heap.size W W') : LkS w P T R B a c n cs K lo t m tv L W' := ⟨h.pl.grew hb, h.res.grew hb, h.ary.grew hb, h.wid.grew hb, h.tab.grew hb, h.bel.trans (hb.mono h.bel.size)⟩
theorem LkS.alloc (h : LkS w P T R B a c n cs K lo t m tv L W) (o : Obj) : LkS w P T R B a c n cs K lo t m tv L (W.alloc o) := h.grew ((Below.refl _ _).alloc (Nat.le_refl _) _)
theorem LkS.new (h : Ary w B a c cs n K) (hW : Wid w) (hT : TabS w lo t tv m L) : LkS w P T R B a c n cs K lo t m tv L ((w.alloc (.cells #[.int .i64 P, .int .i64 T, .int .i64 R] 54)).alloc (.cells #[.int .i64 0, .int .i64 0, .int .i64 0, .slice none 0 0] 70)) :=
  have hb : Below w.heap.size w ((w.alloc (.cells #[.int .i64 P, .int .i64 T, .int .i64 R] 54)).alloc (.cells #[.int .i64 0, .int .i64 0, .int .i64 0, .slice none 0 0] 70)) := ((Below.refl _ _).alloc (Nat.le_refl _) _).alloc (by simp) _
  ⟨(Blk.new _ _ _).alloc _, Blk.new' (by simp), h.grew hb, hW.grew hb, hT.grew hb, hb⟩
set_option maxRecDepth 100000 in
set_option maxHeartbeats 8000000 in
theorem look_yes (x : Nat) (hA : Ary w B a c cs n K) (hW : Wid w) (hT : TabS w lo t tv m L) (hl : cs.length = cellsN P T R) (hU : ∀ z ∈ cs, U64 z)
    (h1 : holdB P T R cs x = true) (h2 : hdE (cs.getD x 0) = 0) (h3 : fitI (L.map (·.1)) (hdC (cs.getD x 0)) (hdK (cs.getD x 0)) (hdN (cs.getD x 0)) = true)
    (h4 : fitsB P (cs.getD (rowN P T R 0 (placeI P T R x).1) 0 % 4) (cs.getD (rowN P T R 0 (placeI P T R x).1) 0 / 4 % 16) (placeI P T R x).1 (wordsV (hdC (cs.getD x 0)) (hdK (cs.getD x 0)) (hdN (cs.getD x 0))) = true)
    (N : Nat) (h5 : hdN (cs.getD x 0) = (N : Int)) (h6 : N ≤ 255) (h7 : x + 1 + N ≤ cs.length) :
    Calls Tryd.prog 26 #[.pointer (some ⟨a, 0, none⟩), .agg #[.int .i64 P, .int .i64 T, .int .i64 R], .pointer (some ⟨t, 0, none⟩), .int .i64 (x : Int)] w (LkPost x (hdC (cs.getD x 0)) (hdK (cs.getD x 0)) (lkL cs x N) w) := by
  obtain ⟨p0, p1, p2, p3⟩ := holdB_parts h1
  have hr := place_right p0
  have hcl := (cellsN_bd hr).2.2
  have hpb := place_bdO P T R x
  have HO := Lib.hid (fun W (hA : Ary W B a c cs n K) (hW : Wid W) => holder_yes P T R x hA hW p0 hl (getD_U hU _) p1 p2 p3 (getD_U hU _))
  have HA := Lib.hid (fun W (hA : Ary W B a c cs n K) => headAt_any x hA (by omega) (by omega) (getD_U hU _))
  have FT := Lib.hid (fun W (hT : TabS W lo t tv m L) => fits_any W lo t m tv L (hdC (cs.getD x 0)) (hdK (cs.getD x 0)) (hdN (cs.getD x 0)) hT)
  have WD := Lib.hid (fun W => words_anyRhead (hdC (cs.getD x 0)) (hdK (cs.getD x 0)) (hdN (cs.getD x 0)) W)
  have FS := Lib.hid (fun W (hW : Wid W) => fits_anyO P T R (placeI P T R x).1 (cs.getD (rowN P T R 0 (placeI P T R x).1) 0 % 4) (cs.getD (rowN P T R 0 (placeI P T R x).1) 0 / 4 % 16) (cs.getD (rowN P T R 0 (placeI P T R x).1) 0 / 64 % 4) (cs.getD (rowN P T R 0 (placeI P T R x).1) 0 / 256 % 16) (cs.getD (rowN P T R 0 (placeI P T R x).1) 0 / 65536 % 4294967296) (wordsV (hdC (cs.getD x 0)) (hdK (cs.getD x 0)) (hdN (cs.getD x 0))) W hW p0 hpb.2.1)
  unfold entV at HO
  rw [h2] at HA
  rw [h3] at FT
  rw [h4] at FS
  have PK := Lib.hid (fun W (i : Nat) (hi : i < N) (hA : Ary W B a c cs n K) => apeek hA (i := x + 1 + i) (by omega) (by omega))
  have FD := Lib.hid (fun W (i : Nat) (hi : i < N) => (by
    have := ofield_any (x : Int) (i : Int) W
    rw [show wrap64 (wrap64 ((x : Int) + 1) + (i : Int)) = ((x + 1 + i : Nat) : Int) by rw [IntWalk.wrap64_in ((x : Int) + 1) ⟨by omega, by omega⟩, IntWalk.wrap64_in _ ⟨by omega, by omega⟩]; omega] at this
    exact this : Calls Tryd.prog 28 #[.int .i64 (x : Int), .int .i64 (i : Int)] W fun e w' => e = .returned (.int .i64 ((x + 1 + i : Nat) : Int)) ∧ w' = W))
  have hS := LkS.new (P := P) (T := T) (R := R) hA hW hT
  rw [h5] at HA FT WD FS
  clear h1 h2 h3 h4 h5 h7 hA hW hT hU hl p0 p1 p2 p3 hr hcl
  unfold LkPost
  rw [lkL_len]
  generalize wordsV (hdC (cs.getD x 0)) (hdK (cs.getD x 0)) (N : Int) = M at *
  generalize hdC (cs.getD x 0) = hc at *
  generalize hdK (cs.getD x 0) = hk at *
  generalize cs.getD (rowN P T R 0 (placeI P T R x).1) 0 % 4 = q0 at *
  generalize cs.getD (rowN P T R 0 (placeI P T R x).1) 0 / 4 % 16 = q1 at *
  generalize cs.getD (rowN P T R 0 (placeI P T R x).1) 0 / 64 % 4 = q2 at *
  generalize cs.getD (rowN P T R 0 (placeI P T R x).1) 0 / 256 % 16 = q3 at *
  generalize cs.getD (rowN P T R 0 (placeI P T R x).1) 0 / 65536 % 4294967296 = q4 at *
  generalize (placeI P T R x).1 = pg at *
  obtain ⟨a0, a1, a2⟩ := hS.pl.three.1
  go_enter Tryd.func26, Tryd.ntmps26
  go_wp2_with fail
  refine (HO.out _ hS.ary hS.wid).mono ?_; rintro e w1 ⟨rfl, hb1⟩
  have hS1 := hS.grew hb1
  clear hS hb1 a0 a1 a2 HO
  go_upto_region 4 with fail
  have hE := entNew w1 q0 q1 q2 q3 q4 111
  have hS2 := hS1.alloc (.cells #[.int .i64 q0, .int .i64 q1, .int .i64 q2, .int .i64 q3, .int .i64 q4] 111)
  clear hS1
  generalize hw2 : w1.alloc (.cells #[.int .i64 q0, .int .i64 q1, .int .i64 q2, .int .i64 q3, .int .i64 q4] 111) = w2 at *
  replace hw2 := Lib.hid hw2
  generalize w1.heap.size = be at *
  go_wp2_with fail
  refine (HA.out _ hS2.ary).mono ?_; rintro e w3 ⟨rfl, hb3⟩
  have hS3 := hS2.grew hb3
  have hE3 := hE.grew hb3
  clear hS2 hE hb3 HA
  go_upto_region 5 with fail
  have hH := Blk.new w3 #[.int .i64 hc, .int .i64 hk, .int .i64 (N : Int)] 56
  have hS4 := hS3.alloc (.cells #[.int .i64 hc, .int .i64 hk, .int .i64 (N : Int)] 56)
  have hE4 := hE3.alloc (.cells #[.int .i64 hc, .int .i64 hk, .int .i64 (N : Int)] 56)
  clear hS3 hE3
  generalize hw4 : w3.alloc (.cells #[.int .i64 hc, .int .i64 hk, .int .i64 (N : Int)] 56) = w4 at *
  replace hw4 := Lib.hid hw4
  generalize w3.heap.size = bh at *
  have SQ := Lib.hid (fun W (hb : Below w4.heap.size w4 W) => show (W.cell? ⟨w.heap.size, 0, none⟩ = some (.int .i64 P) ∧ W.cell? ⟨w.heap.size, 1, none⟩ = some (.int .i64 T) ∧ W.cell? ⟨w.heap.size, 2, none⟩ = some (.int .i64 R)) ∧ (W.cell? ⟨be, 0, none⟩ = some (.int .i64 q0) ∧ W.cell? ⟨be, 1, none⟩ = some (.int .i64 q1) ∧ W.cell? ⟨be, 2, none⟩ = some (.int .i64 q2) ∧ W.cell? ⟨be, 3, none⟩ = some (.int .i64 q3) ∧ W.cell? ⟨be, 4, none⟩ = some (.int .i64 q4)) ∧ (W.cell? ⟨bh, 0, none⟩ = some (.int .i64 hc) ∧ W.cell? ⟨bh, 1, none⟩ = some (.int .i64 hk) ∧ W.cell? ⟨bh, 2, none⟩ = some (.int .i64 (N : Int))) from
    ⟨(hS4.grew hb).pl.three.1, five_at (hE4.grew hb), (hH.grew hb).three.1⟩)
  have HF := Lib.hid (fun W (hb : Below w4.heap.size w4 W) => FT.out W (hS4.grew hb).tab)
  have HS := Lib.hid (fun W (hb : Below w4.heap.size w4 W) => FS.out W (hS4.grew hb).wid)
  have B4 : Below w4.heap.size w4 w4.drew := Quiet.below ⟨1, rfl⟩
  have KB := Lib.hid (fun (A C : World) (hb : Below A.heap.size A C) (h : Below w4.heap.size w4 A) => h.trans (hb.mono h.size))
  clear FT FS
  go_region_held3 (fun W => ((W.cell? ⟨w.heap.size, 0, none⟩ = some (.int .i64 P) ∧ W.cell? ⟨w.heap.size, 1, none⟩ = some (.int .i64 T) ∧ W.cell? ⟨w.heap.size, 2, none⟩ = some (.int .i64 R)) ∧ (W.cell? ⟨be, 0, none⟩ = some (.int .i64 q0) ∧ W.cell? ⟨be, 1, none⟩ = some (.int .i64 q1) ∧ W.cell? ⟨be, 2, none⟩ = some (.int .i64 q2) ∧ W.cell? ⟨be, 3, none⟩ = some (.int .i64 q3) ∧ W.cell? ⟨be, 4, none⟩ = some (.int .i64 q4)) ∧ (W.cell? ⟨bh, 0, none⟩ = some (.int .i64 hc) ∧ W.cell? ⟨bh, 1, none⟩ = some (.int .i64 hk) ∧ W.cell? ⟨bh, 2, none⟩ = some (.int .i64 (N : Int)))) ∧ Below w4.heap.size w4 W)
    (first | (with_reducible exact ⟨SQ.out _ B4, B4⟩) | (with_reducible exact ⟨SQ.out _ hg7, hg7⟩) | (have hg := KB.out _ _ (by assumption) (And.right (by assumption)); exact ⟨SQ.out _ hg, hg⟩))
    (first
      | (go_at_call 46; refine (HF.out _ (And.right (by assumption))).mono ?_; rintro e w5 ⟨rfl, hb5⟩)
      | (go_at_call 39; refine (WD.out _).mono ?_; rintro e w6 ⟨rfl, hb6⟩)
      | (go_at_call 47; refine (HS.out _ (And.right (by assumption))).mono ?_; rintro e w7 ⟨rfl, hb7⟩; have hg7 := KB.out _ _ hb7 (And.right (by assumption))))
  have hS7 := hS4.grew hg7
  have hH7 := hH.grew hg7
  clear hS4 hE4 hH SQ HF HS B4 KB WD
  have hd := hH7.three.1
  obtain ⟨d0, d1, d2⟩ := hd
  have KS := Lib.hid (fun W (hb : Below w7.heap.size w7 W) => hS7.grew hb)
  have KH := Lib.hid (fun W (hb : Below w7.heap.size w7 W) => (hH7.grew hb).three.1)
  have hC : Blk (w7.alloc (.cells #[.int .i64 (x : Int), .int .i64 hc, .int .i64 hk, .slice none 0 0] 70)) w7.heap.size #[.int .i64 (x : Int), .int .i64 hc, .int .i64 hk, .slice none 0 0] 70 := Blk.new _ _ _
  have hB8 : Below w7.heap.size w7 (w7.alloc (.cells #[.int .i64 (x : Int), .int .i64 hc, .int .i64 hk, .slice none 0 0] 70)) := (Below.refl _ _).alloc (Nat.le_refl _) _
  obtain ⟨i0, Z⟩ := info_parts info_i64
  have Z := Lib.hid Z
  clear hS7 hH7 hg7
  go_upto_region 8 with fail
  clear d0 d1 d2
  obtain ⟨d0, d1, d2⟩ := KH.out _ hB8
  generalize hw8 : w7.alloc (.cells #[.int .i64 (x : Int), .int .i64 hc, .int .i64 hk, .slice none 0 0] 70) = wA at *
  replace hw8 := Lib.hid hw8
  have hbc2 : w.heap.size + 1 < w7.heap.size := Blk.lt (KS.out _ (Below.refl _ _)).res
  generalize hbc : w7.heap.size = bc at *
  replace hbc := Lib.hid hbc
  go_wp2_with fail
  clear d0 d1 d2
  go_loopw [62] (fun s wr => ∃ (j : Nat) (u : Value), j ≤ N ∧ s = .int .i64 j ∧ Below bc w7 wr ∧ Blk wr bc #[.int .i64 (x : Int), .int .i64 hc, .int .i64 hk, u] 70 ∧ wr.ownsRow (bc + 1) 2 1 u j (lkL cs x j)) (fun s _ => N - (intOf s).toNat)
  case atStart => exact ⟨0, _, Nat.zero_le _, rfl, hB8, hC, World.ownsRow_nil _ _ _ _⟩
  case round =>
    clear hC hB8
    obtain ⟨j, u, hj, rfl, hb, hC, ho⟩ := hrel
    obtain ⟨a5, k5, hu5⟩ : ∃ a c, u = .slice a j c := by
      rcases ho.2 with ⟨h1, h2⟩ | ⟨g, cap, cur, h1, _⟩
      · exact ⟨none, 0, by rw [h1, h2]⟩
      · exact ⟨_, cap, h1⟩
    subst hu5
    by_cases hlt : j < N
    · have hlt' : (j : Int) < (N : Int) := by omega
      have hS := KS.out _ hb
      go_wp2_with fail
      refine (FD.out _ j hlt).mono ?_; rintro e w8 ⟨rfl, rfl⟩
      go_wp2_with fail
      refine (PK.out _ j hlt hS.ary).mono ?_; rintro e w8 ⟨rfl, hq8⟩
      have hC8 := hC.quiet hq8
      have ho8 := Quiet.ownsRow hq8 ho
      have hb8 := hb.trans hq8.below
      clear hC ho hb hS hq8
      have hz := Lib.hid (lkL_succ cs x j)
      unfold lkV at hz
      generalize cs.getD (x + 1 + j) 0 = z at *
      have hbt := (Below.refl w8.heap.size w8).alloc (Nat.le_refl _) (.cells #[.int .i64 (wrap64 z)] 2)
      have HO9 := Lib.hid (own_grewG ho8 hbt)
      have HK9 := Lib.hid (Blk.new w8 #[.int .i64 (wrap64 z)] 2)
      have hC9 := hC8.grew hbt
      have HC9 := Lib.hid hC9
      have hsz8 : bc ≤ w8.heap.size := by have := hb8.size; have := hbc.out; omega
      have HB9 := Lib.hid (hb8.trans (hbt.mono hsz8))
      have HSZ := Lib.hid (Nat.le_trans (Nat.succ_le_of_lt hC8.lt) hbt.size)
      have c3 := hC8.val 3 rfl
      have hjm : j ≤ 255 := by omega
      have HJ := Lib.hid hjm
      have hbcz := Lib.hid (show w7.heap.size ≤ bc from Nat.le_of_eq hbc.out)
      clear hC8 ho8 hb8 hbt hC9 hjm hsz8
      go_wp2_with (at_builtin; refine wpList_append_own_at _ rfl _ _ 68 rfl (bc + 1) 2 i0 _ 1 8 Tryd.underlying68 Z.out.1 Z.out.2.1 Z.out.2.2.1 Z.out.2.2.2 rfl (by decide) (.slice a5 j k5) j (lkL cs x j) rfl HO9.out ⟨w8.heap.size, 0, none⟩ 1 1 [.int .i64 (wrap64 z)] rfl rfl (World.news_of_block HK9.out) (by simp [Value.oneCell']) (by have := HJ.out; unfold maxLen; omega) (by have := HJ.out; omega) HSZ.out ?_)
      intro u' w6 hown hgrow _ _
      obtain ⟨a6, k6, hu6⟩ : ∃ a c, u' = .slice a (j + 1) c := by
        rcases hown.2 with ⟨h1, h2⟩ | ⟨g, cap, cur, h1, _⟩
        · exact absurd h2 (by omega)
        · exact ⟨_, cap, h1⟩
      subst hu6
      have hC6 := HC9.out.of (hgrow.block _ HC9.out.lt (fun e => by have := (own_ltG HO9.out e.symm).1; omega))
      have c36 := hC6.val 3 rfl
      have f36 := hC6.frozen 3
      have hb6 := HB9.out.grown hgrow (Nat.le_of_succ_le HSZ.out) (fun q hq => by have := (own_ltG HO9.out hq).1; have := hbcz.out; omega)
      have hC7 : Blk (w6.setCell ⟨bc, 3, none⟩ (.slice a6 (j + 1) k6)) bc #[.int .i64 (x : Int), .int .i64 hc, .int .i64 hk, .slice a6 (j + 1) k6] 70 := hC6.set 3 (.slice a6 (j + 1) k6)
      have hb7 := hb6.setCell (p := ⟨bc, 3, none⟩) (by simp) (.slice a6 (j + 1) k6)
      have ho7 := own_touch hown (Touch.setCell (R := fun k => k = bc) (p := ⟨bc, 3, none⟩) (Touch.refl _ _) rfl (.slice a6 (j + 1) k6)) (fun g e h => by have := (own_ltG hown e).1; omega)
      have HF := Lib.hid (And.intro hb7 (And.intro hC7 ho7))
      clear hown hgrow hC6 hb6 hC7 hb7 ho7 c3
      go_wp2
      go_roundw
      case rel => exact ⟨j + 1, _, by omega, by go_num, HF.out.1, HF.out.2.1, by rw [hz.out]; exact HF.out.2.2⟩
      case measure => simp [intOf]; omega
    · obtain rfl : j = N := by omega
      have hlt' : ¬ (j : Int) < (j : Int) := by omega
      have hS := KS.out _ hb
      have c0 := hC.val 0 rfl
      have c1 := hC.val 1 rfl
      have c2 := hC.val 2 rfl
      have c3 := hC.val 3 rfl
      have r0 := hS.res.val 0 rfl
      have r1 := hS.res.val 1 rfl
      have r2 := hS.res.val 2 rfl
      have r3 := hS.res.val 3 rfl
      have f0 := hS.res.frozen 0
      have f1 := hS.res.frozen 1
      have f2 := hS.res.frozen 2
      have f3 := hS.res.frozen 3
      have hZ : Blk ((((wr.setCell ⟨w.heap.size + 1, 0, none⟩ (.int .i64 x)).setCell ⟨w.heap.size + 1, 1, none⟩ (.int .i64 hc)).setCell ⟨w.heap.size + 1, 2, none⟩ (.int .i64 hk)).setCell ⟨w.heap.size + 1, 3, none⟩ (.slice a5 j k5)) (w.heap.size + 1) #[.int .i64 x, .int .i64 hc, .int .i64 hk, .slice a5 j k5] 70 :=
        (((hS.res.set 0 (.int .i64 x)).set 1 (.int .i64 hc)).set 2 (.int .i64 hk)).set 3 (.slice a5 j k5)
      have hB9 : Below w.heap.size w ((((wr.setCell ⟨w.heap.size + 1, 0, none⟩ (.int .i64 x)).setCell ⟨w.heap.size + 1, 1, none⟩ (.int .i64 hc)).setCell ⟨w.heap.size + 1, 2, none⟩ (.int .i64 hk)).setCell ⟨w.heap.size + 1, 3, none⟩ (.slice a5 j k5)) :=
        (((hS.bel.setCell (p := ⟨w.heap.size + 1, 0, none⟩) (by simp) _).setCell (p := ⟨w.heap.size + 1, 1, none⟩) (by simp) _).setCell (p := ⟨w.heap.size + 1, 2, none⟩) (by simp) _).setCell (p := ⟨w.heap.size + 1, 3, none⟩) (by simp) _
      have hT9 : Touch (fun b => b = w.heap.size + 1) wr ((((wr.setCell ⟨w.heap.size + 1, 0, none⟩ (.int .i64 x)).setCell ⟨w.heap.size + 1, 1, none⟩ (.int .i64 hc)).setCell ⟨w.heap.size + 1, 2, none⟩ (.int .i64 hk)).setCell ⟨w.heap.size + 1, 3, none⟩ (.slice a5 j k5)) :=
        ((((Touch.refl (fun b => b = w.heap.size + 1) wr).setCell (p := ⟨w.heap.size + 1, 0, none⟩) rfl _).setCell (p := ⟨w.heap.size + 1, 1, none⟩) rfl _).setCell (p := ⟨w.heap.size + 1, 2, none⟩) rfl _).setCell (p := ⟨w.heap.size + 1, 3, none⟩) rfl _
      have ho9 := own_sub (own_touch ho hT9 (fun g e h => by have := (own_ltG ho e).1; omega)) (show w.heap.size ≤ bc + 1 by omega)
      have HF := Lib.hid (And.intro hZ (And.intro hB9 ho9))
      clear hZ hB9 ho9 hT9 ho hC hS hb
      go_wp2
      generalize World.setCell (World.setCell (World.setCell (World.setCell _ _ _) _ _) _ _) _ _ = W9 at *
      obtain ⟨hZ, hB9, ho9⟩ := HF.out
      have z0 := hZ.val 0 rfl
      have z1 := hZ.val 1 rfl
      have z2 := hZ.val 2 rfl
      have z3 := hZ.val 3 rfl
      exact bodyPost_ret (v := .tuple #[.agg #[.int .i64 x, .int .i64 hc, .int .i64 hk, .slice a5 j k5], .int .i64 0]) (by simp [results, Tryd.results26, go_sem, z0, z1, z2, z3]) rfl ⟨_, rfl, ho9, hB9⟩
end
end Go.Proofs.YtichmgilglaglaaDoor
/- The law's 'lay': an arena and a row of the same words. Condition: the plan is right; the words are read in full. -/
namespace Go.Proofs.YtichmgilglaglaaDoor
open Go.RowKit
set_option linter.unusedVariables false
def OLay (P T R : Int) (l : List (Int × Int)) (w : World) (e : Ending) (w' : World) : Prop :=
  ∃ a c d, e = .returned (.tuple #[.pointer (some ⟨a, 0, none⟩), .slice (some ⟨d, 0, none⟩) (cellsN P T R) (cellsN P T R), .bool true]) ∧ LyS w w.heap.size a c d (layL (cellsN P T R) (l.take 300)) w' ∧ w.heap.size ≤ d
set_option maxRecDepth 100000 in
set_option maxHeartbeats 2000000 in
theorem olay_yes (P T R : Int) (v : Value) (l : List (Int × Int)) (w : World) (h : Right P T R) (hl : RdRow 2 ElW w.heap.size w v l) :
    Calls Tryd.prog 12 #[.agg #[.int .i64 P, .int .i64 T, .int .i64 R], v] w (OLay P T R l w) := by
  obtain ⟨a1, q1, rfl, hx⟩ := hl
  have hl : RdRow 2 ElW w.heap.size w (.slice a1 l.length q1) l := ⟨a1, q1, rfl, hx⟩
  clear hx
  have RP := Lib.hid (fun W (hb : Below w.heap.size w W) => hl.keep hb fun _ _ _ e r => r.keep hb e)
  obtain ⟨hN, hN1, hN2⟩ := cellsN_bd h
  have CC := Lib.hid (fun W => rcells_yes P T R W h)
  rw [← hN] at CC
  clear hl h hN
  unfold OLay
  generalize cellsN P T R = N at *
  have NY := Lib.hid (fun W => new_yes N true W (by omega) (by omega))
  have hmk := fun W => run_mk W (N : Int) (by omega) (by omega)
  have KN := Lib.hid (fun x => layAt_val (N := N) (by omega) (by omega) x)
  have LN := Lib.hid (fun x => layAt_lt (N := N) (by omega) x)
  have LL := Lib.hid (fun x => layL_len N x)
  go_enter Tryd.func12, Tryd.ntmps12
  have c0 := (planNew w P T R 28)
  go_wp2_with fail
  refine (CC.out _).mono ?_; rintro e w1 ⟨rfl, hb1⟩
  have c1 := planKeep c0 hb1
  have hB1 := c1.2
  clear c0 hb1 c1
  go_wp2_with fail
  clear hmk
  have hd0 : Blk (w1.alloc (.cells (zeros N) 26)) w1.heap.size (zeros N) 26 := Blk.new _ _ _
  have hB2 := hB1.alloc hB1.size (.cells (zeros N) 26)
  have hs2 : (w1.alloc (.cells (zeros N) 26)).heap.size = w1.heap.size + 1 := by simp
  have hs1 := hB1.size
  generalize w1.alloc (.cells (zeros N) 26) = w2 at *
  refine (NY.out _).mono ?_; rintro e w3 ⟨a, c, rfl, hA3, ha, hc, hb3⟩
  have hS3 : LyS w w.heap.size a c w1.heap.size (layL N []) w3 := by
    refine ⟨⟨[], ⟨.slice none 0 0, ⟨hA3, World.ownsRow_nil _ _ _ _, by simp [Value.ownBlock], by simp [Value.ownBlock]⟩, fun g e => by simp [Value.ownBlock] at e⟩, by simp; omega, by simp; omega, fun b hb => by rw [List.mem_singleton.1 hb]; have := hb3.size; omega, by omega, by omega, Nat.le_trans hB2.size hb3.size⟩, hd0.grew hb3, hB2.trans (hb3.mono hB2.size)⟩
  clear hA3 hd0 hB1 hB2 hb3 NY ha hc
  replace hs1 := Lib.hid hs1
  go_wp2_with fail
  go_loopw [10] (fun i wr => ∃ k : Nat, k ≤ (l.take 300).length ∧ i = .int .i64 k ∧ LyS w w.heap.size a c w1.heap.size (layL N ((l.take 300).take k)) wr) (fun i _ => (l.take 300).length - (intOf i).toNat)
  case atStart => exact ⟨0, Nat.zero_le _, rfl, hS3⟩
  case round =>
    clear hS3
    obtain ⟨k, hk, rfl, hS⟩ := hrel
    have hl3 : (l.take 300).length = min 300 l.length := List.length_take ..
    by_cases hlt : k < (l.take 300).length
    · have hkl : k < l.length := by omega
      have hk1 : (k : Int) < (l.length : Int) := by omega
      have hk2 : (k : Int) < 300 := by omega
      obtain ⟨b, o, rfl, hbw, ex1, ex2, ex3⟩ := rd_at (RP.out _ hS.bel) hkl
      have hsn : Hid (layL N ((l.take 300).take (k + 1)) = (layL N ((l.take 300).take k)).set (layAt N l[k].1) l[k].2) := Lib.hid (by
        rw [← layL_snoc, List.take_add_one, List.getElem?_eq_getElem hlt, List.getElem_take]; rfl)
      have hcl : (layL N ((l.take 300).take k)).length = N := LL.out _
      generalize layL N ((l.take 300).take k) = cs at *
      generalize l[k] = x at *
      obtain ⟨x1, x2⟩ := x
      dsimp only at ex1 ex2 ex3 hsn
      have hat := LN.out x1
      have hav := KN.out x1
      generalize layAt N x1 = q at *
      have hqc : q < cs.length := by omega
      replace hav := Lib.hid hav
      clear hl3 hk
      go_upto_region 9 with fail
      first | rw [hav.out.1] | rw [hav.out.2]
      have hP := hS.put hs1.out q x2
      have r1 : wr.cell? ⟨w1.heap.size, q, none⟩ = some (.int .u64 (cs[q]'hqc)) := hS.row.val q (by simp [hqc])
      have r2 := hS.row.frozen q
      have hbd : b ≠ w1.heap.size := by have := hs1.out; omega
      have ey2 := (World.cell?_setCell_other wr ⟨w1.heap.size, q, none⟩ ⟨b, o + k * 2 + 1, none⟩ (.int .u64 x2) (by simp)).trans ex2
      have hq1 : (0 : Int) ≤ (q : Int) := by omega
      have hq2 : (q : Int) < (N : Int) := by omega
      generalize cs[q]'hqc = z at *
      go_upto_region 10 with fail
      obtain ⟨hA9, hR9, hB9⟩ := hP
      generalize wr.setCell ⟨w1.heap.size, q, none⟩ (.int .u64 x2) = W9 at *
      clear r1 r2 ex1 ex2 hS
      go_wp2_with fail
      refine (apoke x2 hA9 (by omega) (by omega)).mono ?_
      rintro e w10 ⟨rfl, hA10, hT10⟩
      have hc := hA9.cne
      have hS10 : LyS w w.heap.size a c w1.heap.size (cs.set q x2) w10 := ⟨hA10, hR9.touch hT10 (fun e => hc.1 (by simp [e])), hB9.trans (hT10.below hB9.size (fun b hb => by rw [hb]; exact hc.2.1))⟩
      clear hA10 hT10 hc hA9 hR9 hB9 ey2
      go_wp2
      go_roundw
      case rel => exact ⟨k + 1, by omega, by go_num, by rw [hsn.out]; exact hS10⟩
      case measure => simp [intOf]; omega
    · by_cases hkl : k < l.length
      · have hk1 : (k : Int) < (l.length : Int) := by omega
        have hk2 : ¬ (k : Int) < 300 := by omega
        have he : Hid ((l.take 300).take k = l.take 300) := Lib.hid (List.take_of_length_le (by omega))
        go_wp2
        go_ret3
        exact ⟨a, c, w1.heap.size, rfl, by rw [he.out] at hS; exact hS, hs1.out⟩
      · have hk1 : ¬ (k : Int) < (l.length : Int) := by omega
        have he : Hid ((l.take 300).take k = l.take 300) := Lib.hid (List.take_of_length_le (by omega))
        go_wp2
        go_ret3
        exact ⟨a, c, w1.heap.size, rfl, by rw [he.out] at hS; exact hS, hs1.out⟩
end Go.Proofs.YtichmgilglaglaaDoor
/- What the document's functions on entries return. No condition but that each number fits its kind. -/
namespace Go.Proofs.YtichmgilglaglaaDoor
open Go.RowKit
set_option linter.unusedVariables false
set_option linter.unusedSimpArgs false

set_option maxHeartbeats 2000000 in
theorem isEnt_0 (c s o y : Int) (w : World) :
    Calls Tryd.prog 34 #[.agg #[.int .i64 0, .int .i64 c, .int .i64 s, .int .i64 o, .int .i64 y]] w fun e w' => e = .returned (.bool (entB 0 c s o y)) ∧ Below w.heap.size w w' := by
  go_enter Tryd.func34, Tryd.ntmps34
  go_wp2
  all_goals
    go_ret
    refine ⟨ret_bool ?_, (Below.refl _ _).alloc (Nat.le_refl _) _⟩
    rw [Bool.eq_iff_iff]
    first | (simp [entB, statB, kindBEnt, inB, holdsB]; done) | (simp [entB, statB, kindBEnt, inB, holdsB]; omega) | (simp [entB, statB, kindBEnt, inB, holdsB, *]; done) | (simp [entB, statB, kindBEnt, inB, holdsB, *]; omega)
set_option maxHeartbeats 2000000 in
theorem isEnt_10 (c o y : Int) (w : World) :
    Calls Tryd.prog 34 #[.agg #[.int .i64 1, .int .i64 c, .int .i64 0, .int .i64 o, .int .i64 y]] w fun e w' => e = .returned (.bool (entB 1 c 0 o y)) ∧ Below w.heap.size w w' := by
  go_enter Tryd.func34, Tryd.ntmps34
  go_wp2
  all_goals
    go_ret
    refine ⟨ret_bool ?_, (Below.refl _ _).alloc (Nat.le_refl _) _⟩
    rw [Bool.eq_iff_iff]
    first | (simp [entB, statB, kindBEnt, inB, holdsB]; done) | (simp [entB, statB, kindBEnt, inB, holdsB]; omega) | (simp [entB, statB, kindBEnt, inB, holdsB, *]; done) | (simp [entB, statB, kindBEnt, inB, holdsB, *]; omega)
set_option maxHeartbeats 2000000 in
theorem isEnt_11 (c o y : Int) (w : World) :
    Calls Tryd.prog 34 #[.agg #[.int .i64 1, .int .i64 c, .int .i64 1, .int .i64 o, .int .i64 y]] w fun e w' => e = .returned (.bool (entB 1 c 1 o y)) ∧ Below w.heap.size w w' := by
  go_enter Tryd.func34, Tryd.ntmps34
  go_wp2
  all_goals
    go_ret
    refine ⟨ret_bool ?_, (Below.refl _ _).alloc (Nat.le_refl _) _⟩
    rw [Bool.eq_iff_iff]
    first | (simp [entB, statB, kindBEnt, inB, holdsB]; done) | (simp [entB, statB, kindBEnt, inB, holdsB]; omega) | (simp [entB, statB, kindBEnt, inB, holdsB, *]; done) | (simp [entB, statB, kindBEnt, inB, holdsB, *]; omega)
set_option maxHeartbeats 2000000 in
theorem isEnt_12 (c o y : Int) (w : World) :
    Calls Tryd.prog 34 #[.agg #[.int .i64 1, .int .i64 c, .int .i64 2, .int .i64 o, .int .i64 y]] w fun e w' => e = .returned (.bool (entB 1 c 2 o y)) ∧ Below w.heap.size w w' := by
  go_enter Tryd.func34, Tryd.ntmps34
  go_wp2
  all_goals
    go_ret
    refine ⟨ret_bool ?_, (Below.refl _ _).alloc (Nat.le_refl _) _⟩
    rw [Bool.eq_iff_iff]
    first | (simp [entB, statB, kindBEnt, inB, holdsB]; done) | (simp [entB, statB, kindBEnt, inB, holdsB]; omega) | (simp [entB, statB, kindBEnt, inB, holdsB, *]; done) | (simp [entB, statB, kindBEnt, inB, holdsB, *]; omega)
set_option maxHeartbeats 2000000 in
theorem isEnt_1x (c s o y : Int) (w : World) (s0 : ¬ s = 0) (s1 : ¬ s = 1) (s2 : ¬ s = 2) :
    Calls Tryd.prog 34 #[.agg #[.int .i64 1, .int .i64 c, .int .i64 s, .int .i64 o, .int .i64 y]] w fun e w' => e = .returned (.bool (entB 1 c s o y)) ∧ Below w.heap.size w w' := by
  have e0 : (s == 0) = false := beq_eq_false_iff_ne.2 s0
  have e1 : (s == 1) = false := beq_eq_false_iff_ne.2 s1
  have e2 : (s == 2) = false := beq_eq_false_iff_ne.2 s2
  go_enter Tryd.func34, Tryd.ntmps34
  go_wp2
  all_goals
    go_ret
    refine ⟨ret_bool ?_, (Below.refl _ _).alloc (Nat.le_refl _) _⟩
    rw [Bool.eq_iff_iff]
    first | (simp [entB, statB, kindBEnt, inB, holdsB]; done) | (simp [entB, statB, kindBEnt, inB, holdsB]; omega) | (simp [entB, statB, kindBEnt, inB, holdsB, *]; done) | (simp [entB, statB, kindBEnt, inB, holdsB, *]; omega)
end Go.Proofs.YtichmgilglaglaaDoor
/- What the document's functions on entries return. No condition but that each number fits its kind. -/
namespace Go.Proofs.YtichmgilglaglaaDoor
open Go.RowKit
set_option linter.unusedVariables false
set_option linter.unusedSimpArgs false

set_option maxHeartbeats 2000000 in
theorem isEnt_20 (c o y : Int) (w : World) :
    Calls Tryd.prog 34 #[.agg #[.int .i64 2, .int .i64 c, .int .i64 0, .int .i64 o, .int .i64 y]] w fun e w' => e = .returned (.bool (entB 2 c 0 o y)) ∧ Below w.heap.size w w' := by
  go_enter Tryd.func34, Tryd.ntmps34
  go_wp2
  all_goals
    go_ret
    refine ⟨ret_bool ?_, (Below.refl _ _).alloc (Nat.le_refl _) _⟩
    rw [Bool.eq_iff_iff]
    first | (simp [entB, statB, kindBEnt, inB, holdsB]; done) | (simp [entB, statB, kindBEnt, inB, holdsB]; omega) | (simp [entB, statB, kindBEnt, inB, holdsB, *]; done) | (simp [entB, statB, kindBEnt, inB, holdsB, *]; omega)
set_option maxHeartbeats 2000000 in
theorem isEnt_21 (c o y : Int) (w : World) :
    Calls Tryd.prog 34 #[.agg #[.int .i64 2, .int .i64 c, .int .i64 1, .int .i64 o, .int .i64 y]] w fun e w' => e = .returned (.bool (entB 2 c 1 o y)) ∧ Below w.heap.size w w' := by
  go_enter Tryd.func34, Tryd.ntmps34
  go_wp2
  all_goals
    go_ret
    refine ⟨ret_bool ?_, (Below.refl _ _).alloc (Nat.le_refl _) _⟩
    rw [Bool.eq_iff_iff]
    first | (simp [entB, statB, kindBEnt, inB, holdsB]; done) | (simp [entB, statB, kindBEnt, inB, holdsB]; omega) | (simp [entB, statB, kindBEnt, inB, holdsB, *]; done) | (simp [entB, statB, kindBEnt, inB, holdsB, *]; omega)
set_option maxHeartbeats 2000000 in
theorem isEnt_22 (c o y : Int) (w : World) :
    Calls Tryd.prog 34 #[.agg #[.int .i64 2, .int .i64 c, .int .i64 2, .int .i64 o, .int .i64 y]] w fun e w' => e = .returned (.bool (entB 2 c 2 o y)) ∧ Below w.heap.size w w' := by
  go_enter Tryd.func34, Tryd.ntmps34
  go_wp2
  all_goals
    go_ret
    refine ⟨ret_bool ?_, (Below.refl _ _).alloc (Nat.le_refl _) _⟩
    rw [Bool.eq_iff_iff]
    first | (simp [entB, statB, kindBEnt, inB, holdsB]; done) | (simp [entB, statB, kindBEnt, inB, holdsB]; omega) | (simp [entB, statB, kindBEnt, inB, holdsB, *]; done) | (simp [entB, statB, kindBEnt, inB, holdsB, *]; omega)
set_option maxHeartbeats 2000000 in
theorem isEnt_2x (c s o y : Int) (w : World) (s0 : ¬ s = 0) (s1 : ¬ s = 1) (s2 : ¬ s = 2) :
    Calls Tryd.prog 34 #[.agg #[.int .i64 2, .int .i64 c, .int .i64 s, .int .i64 o, .int .i64 y]] w fun e w' => e = .returned (.bool (entB 2 c s o y)) ∧ Below w.heap.size w w' := by
  have e0 : (s == 0) = false := beq_eq_false_iff_ne.2 s0
  have e1 : (s == 1) = false := beq_eq_false_iff_ne.2 s1
  have e2 : (s == 2) = false := beq_eq_false_iff_ne.2 s2
  go_enter Tryd.func34, Tryd.ntmps34
  go_wp2
  all_goals
    go_ret
    refine ⟨ret_bool ?_, (Below.refl _ _).alloc (Nat.le_refl _) _⟩
    rw [Bool.eq_iff_iff]
    first | (simp [entB, statB, kindBEnt, inB, holdsB]; done) | (simp [entB, statB, kindBEnt, inB, holdsB]; omega) | (simp [entB, statB, kindBEnt, inB, holdsB, *]; done) | (simp [entB, statB, kindBEnt, inB, holdsB, *]; omega)
set_option maxHeartbeats 2000000 in
theorem isEnt_3 (c s o y : Int) (w : World) :
    Calls Tryd.prog 34 #[.agg #[.int .i64 3, .int .i64 c, .int .i64 s, .int .i64 o, .int .i64 y]] w fun e w' => e = .returned (.bool (entB 3 c s o y)) ∧ Below w.heap.size w w' := by
  go_enter Tryd.func34, Tryd.ntmps34
  go_wp2
  all_goals
    go_ret
    refine ⟨ret_bool ?_, (Below.refl _ _).alloc (Nat.le_refl _) _⟩
    rw [Bool.eq_iff_iff]
    first | (simp [entB, statB, kindBEnt, inB, holdsB]; done) | (simp [entB, statB, kindBEnt, inB, holdsB]; omega) | (simp [entB, statB, kindBEnt, inB, holdsB, *]; done) | (simp [entB, statB, kindBEnt, inB, holdsB, *]; omega)
set_option maxHeartbeats 2000000 in
theorem isEnt_lo (k c s o y : Int) (w : World) (hk : k < 0) :
    Calls Tryd.prog 34 #[.agg #[.int .i64 k, .int .i64 c, .int .i64 s, .int .i64 o, .int .i64 y]] w fun e w' => e = .returned (.bool (entB k c s o y)) ∧ Below w.heap.size w w' := by
  have e0 : (k == 0) = false := beq_eq_false_iff_ne.2 (by omega)
  have e1 : (k == 1) = false := beq_eq_false_iff_ne.2 (by omega)
  have e2 : (k == 2) = false := beq_eq_false_iff_ne.2 (by omega)
  have e3 : (k == 3) = false := beq_eq_false_iff_ne.2 (by omega)
  have hf : entB k c s o y = false := by unfold entB kindBEnt; rw [if_neg (by omega), if_neg (by omega), if_neg (by omega), if_neg (by omega), Bool.and_false]
  rw [hf]
  go_enter Tryd.func34, Tryd.ntmps34
  go_wp2
  all_goals
    go_ret
    exact ⟨rfl, (Below.refl _ _).alloc (Nat.le_refl _) _⟩
set_option maxHeartbeats 2000000 in
theorem isEnt_hi (k c s o y : Int) (w : World) (hk : 3 < k) :
    Calls Tryd.prog 34 #[.agg #[.int .i64 k, .int .i64 c, .int .i64 s, .int .i64 o, .int .i64 y]] w fun e w' => e = .returned (.bool (entB k c s o y)) ∧ Below w.heap.size w w' := by
  have e0 : (k == 0) = false := beq_eq_false_iff_ne.2 (by omega)
  have e1 : (k == 1) = false := beq_eq_false_iff_ne.2 (by omega)
  have e2 : (k == 2) = false := beq_eq_false_iff_ne.2 (by omega)
  have e3 : (k == 3) = false := beq_eq_false_iff_ne.2 (by omega)
  have hf : entB k c s o y = false := by unfold entB kindBEnt; rw [if_neg (by omega), if_neg (by omega), if_neg (by omega), if_neg (by omega), Bool.and_false]
  rw [hf]
  go_enter Tryd.func34, Tryd.ntmps34
  go_wp2
  all_goals
    go_ret
    exact ⟨rfl, (Below.refl _ _).alloc (Nat.le_refl _) _⟩
end Go.Proofs.YtichmgilglaglaaDoor
/- What the document's functions on entries return. No condition but that each number fits its kind. -/
namespace Go.Proofs.YtichmgilglaglaaDoor
open Go.RowKit
set_option linter.unusedVariables false
set_option linter.unusedSimpArgs false

theorem isEnt_any (k c s o y : Int) (w : World) :
    Calls Tryd.prog 34 #[.agg #[.int .i64 k, .int .i64 c, .int .i64 s, .int .i64 o, .int .i64 y]] w fun e w' => e = .returned (.bool (entB k c s o y)) ∧ Below w.heap.size w w' := by
  by_cases k0 : k = 0
  · subst k0; exact isEnt_0 c s o y w
  by_cases k1 : k = 1
  · subst k1
    by_cases s0 : s = 0
    · subst s0; exact isEnt_10 c o y w
    by_cases s1 : s = 1
    · subst s1; exact isEnt_11 c o y w
    by_cases s2 : s = 2
    · subst s2; exact isEnt_12 c o y w
    exact isEnt_1x c s o y w s0 s1 s2
  by_cases k2 : k = 2
  · subst k2
    by_cases s0 : s = 0
    · subst s0; exact isEnt_20 c o y w
    by_cases s1 : s = 1
    · subst s1; exact isEnt_21 c o y w
    by_cases s2 : s = 2
    · subst s2; exact isEnt_22 c o y w
    exact isEnt_2x c s o y w s0 s1 s2
  by_cases k3 : k = 3
  · subst k3; exact isEnt_3 c s o y w
  by_cases hk : k < 0
  · exact isEnt_lo k c s o y w hk
  · exact isEnt_hi k c s o y w (by omega)
end Go.Proofs.YtichmgilglaglaaDoor
/- What the document's functions on entries return: the word of an entry, the entry of a word. No condition but that each number fits its kind. -/
namespace Go.Proofs.YtichmgilglaglaaDoor
open Go.RowKit
set_option linter.unusedVariables false

set_option maxHeartbeats 1000000 in
theorem reenc_yes (k c s o y : Int) (w : World) (h : entB k c s o y = true) :
    Calls Tryd.prog 11 #[.agg #[.int .i64 k, .int .i64 c, .int .i64 s, .int .i64 o, .int .i64 y]] w fun e w' => e = .returned (.tuple #[.int .u64 (encE k c s o y), .int .i64 0]) ∧ Below w.heap.size w w' := by
  have hbd := entB_bd h
  have wk : IntKind.u64.wrap k = k := IntWalk.u64_in k (by omega)
  have wc : IntKind.u64.wrap c = c := IntWalk.u64_in c (by omega)
  have ws : IntKind.u64.wrap s = s := IntWalk.u64_in s (by omega)
  have wo : IntKind.u64.wrap o = o := IntWalk.u64_in o (by omega)
  have wy : IntKind.u64.wrap y = y := IntWalk.u64_in y (by omega)
  obtain ⟨b1, b2, b3, b4, b5, b6⟩ := hbd
  go_enter Tryd.func11, Tryd.ntmps11
  go_wp2_with (go_at_call 34; refine (isEnt_any _ _ _ _ _ _).mono ?_; rintro e w1 ⟨rfl, hb⟩; obtain ⟨c0, c1, c2, c3, c4⟩ := (entAt_new w k c s o y 35).below hb)
  go_ret2
  exact ⟨ret_two rfl rfl, ((Below.refl _ _).alloc (Nat.le_refl _) _).trans (hb.mono (by simp))⟩
set_option maxHeartbeats 1000000 in
theorem reenc_no (k c s o y : Int) (w : World) (h : entB k c s o y = false) :
    Calls Tryd.prog 11 #[.agg #[.int .i64 k, .int .i64 c, .int .i64 s, .int .i64 o, .int .i64 y]] w fun e w' => e = .returned (.tuple #[.int .u64 0, .int .i64 4]) ∧ Below w.heap.size w w' := by
  go_enter Tryd.func11, Tryd.ntmps11
  go_wp2_with (go_at_call 34; refine (isEnt_any _ _ _ _ _ _).mono ?_; rintro e w1 ⟨rfl, hb⟩)
  go_ret2
  exact ⟨rfl, ((Below.refl _ _).alloc (Nat.le_refl _) _).trans (hb.mono (by simp))⟩
theorem reenc_any (k c s o y : Int) (w : World) :
    Calls Tryd.prog 11 #[.agg #[.int .i64 k, .int .i64 c, .int .i64 s, .int .i64 o, .int .i64 y]] w fun e w' => e = .returned (.tuple #[.int .u64 (eencV k c s o y), .int .i64 (eencF k c s o y)]) ∧ Below w.heap.size w w' := by
  unfold eencV eencF
  cases h : entB k c s o y with
  | true => exact reenc_yes k c s o y w h
  | false => exact reenc_no k c s o y w h
end Go.Proofs.YtichmgilglaglaaDoor
/- The law's own example: a small object is built, and looked at. Condition: sizes' table lies as the start lays it. -/
namespace Go.Proofs.YtichmgilglaglaaDoor
open Go.RowKit
set_option linter.unusedVariables false
theorem sixNew (w : World) (P T R x y z : Int) (t : TypeId) : Blk (w.alloc (.cells #[.int .i64 P, .int .i64 T, .int .i64 R, .int .i64 x, .int .i64 y, .int .i64 z] t)) w.heap.size #[.int .i64 P, .int .i64 T, .int .i64 R, .int .i64 x, .int .i64 y, .int .i64 z] t := Blk.new _ _ _
set_option maxHeartbeats 400000 in
theorem mpage_any (P T R x y z i : Int) (w : World) :
    Calls Tryd.prog 13 #[.agg #[.int .i64 P, .int .i64 T, .int .i64 R, .int .i64 x, .int .i64 y, .int .i64 z], .int .i64 i] w fun e w' => e = .returned (.int .i64 (wrap64 (y + i))) ∧ Below w.heap.size w w' := by
  have c4 := (sixNew w P T R x y z 32).val 4 rfl
  go_enter Tryd.func13, Tryd.ntmps13
  go_wp2
  go_ret
  exact ⟨rfl, (Below.refl _ _).alloc (Nat.le_refl _) _⟩
set_option maxHeartbeats 400000 in
theorem malloc_any (P T R x y z i : Int) (w : World) :
    Calls Tryd.prog 23 #[.agg #[.int .i64 P, .int .i64 T, .int .i64 R, .int .i64 x, .int .i64 y, .int .i64 z], .int .i64 i] w fun e w' => e = .returned (.int .i64 (wrap64 (wrap64 (y + P) + i))) ∧ Below w.heap.size w w' := by
  have c4 := (sixNew w P T R x y z 32).val 4 rfl
  have c0 := (sixNew w P T R x y z 32).val 0 rfl
  go_enter Tryd.func23, Tryd.ntmps23
  go_wp2
  go_ret
  exact ⟨rfl, (Below.refl _ _).alloc (Nat.le_refl _) _⟩
/-- the words that are laid, and what the cells hold then, and behind the build -/
def bW : List (Int × Int) := [(22, encE 1 0 1 0 0), (23, 4)]
def bC0 : List Int := layL 128 bW
def bC1 : List Int := bC0.set 67 0
def bC2 : List Int := bC1.set 66 (encH 0 2 1)
theorem bN : cellsN 1 1 1 = 128 := by kernel_rfl
theorem bW300 : bW.take 300 = bW := by kernel_rfl
theorem b_hold : holdB 1 1 1 bC2 66 = true := by kernel_rfl
theorem b_hdE : hdE (bC2.getD 66 0) = 0 := by kernel_rfl
theorem b_hdC : hdC (bC2.getD 66 0) = 0 := by kernel_rfl
theorem b_hdK : hdK (bC2.getD 66 0) = 2 := by kernel_rfl
theorem b_hdN : hdN (bC2.getD 66 0) = 1 := by kernel_rfl
theorem b_fit : fitI [] 0 2 1 = true := by kernel_rfl
theorem b_fits : fitsB 1 (bC2.getD (rowN 1 1 1 0 (placeI 1 1 1 66).1) 0 % 4) (bC2.getD (rowN 1 1 1 0 (placeI 1 1 1 66).1) 0 / 4 % 16) (placeI 1 1 1 66).1 (wordsV 0 2 1) = true := by kernel_rfl
theorem b_len : bC2.length = 128 := by kernel_rfl
theorem b_lk : lkL bC2 66 1 = [.int .i64 0] := by kernel_rfl
theorem b_U : ∀ z ∈ bC2, U64 z := by
  have : ∀ z ∈ bC2, decide (0 ≤ z ∧ z < 18446744073709551616) = true := by
    have h : (bC2.all fun z => decide (0 ≤ z ∧ z < 18446744073709551616)) = true := by kernel_rfl
    exact List.all_eq_true.1 h
  intro z hz
  have h := of_decide_eq_true (this z hz)
  exact ⟨h.1, by omega⟩
theorem b_head : headB 0 2 1 = true := by kernel_rfl
theorem b_allow : allowB 1 1 1 66 (1 + 1) = true := by kernel_rfl
theorem b_ent : entB 1 0 1 0 0 = true := by kernel_rfl
theorem b_base : baseI 1 1 1 = 64 := by kernel_rfl
theorem b_tab : tabI 1 1 = 22 := by kernel_rfl
theorem b_right : Right 1 1 1 := by unfold Right; omega
end Go.Proofs.YtichmgilglaglaaDoor
/- The law's own example, its walk. Condition: sizes' table lies as the start lays it. -/
namespace Go.Proofs.YtichmgilglaglaaDoor
open Go.RowKit
set_option linter.unusedVariables false
/-- the plan's box, what is no longer written -/
structure BoS (w : World) (W : World) : Prop where
  pl : Blk W w.heap.size #[.int .i64 1, .int .i64 1, .int .i64 1] 28
  bel : Below w.heap.size w W
theorem BoS.grew {w W W' : World} (h : BoS w W) (hb : Below W.heap.size W W') : BoS w W' := ⟨h.pl.grew hb, h.bel.trans (hb.mono h.bel.size)⟩
theorem BoS.touch {R : Nat → Prop} {w W W' : World} (h : BoS w W) (hT : Touch R W W') (hR : ∀ b, R b → w.heap.size < b) : BoS w W' :=
  ⟨h.pl.touch hT (fun e => Nat.lt_irrefl _ (hR _ e)), h.bel.trans (hT.below h.bel.size (fun b hb => Nat.le_of_lt (hR b hb)))⟩
theorem BoS.three {w W : World} (h : BoS w W) : W.cell? ⟨w.heap.size, 0, none⟩ = some (.int .i64 1) ∧ W.cell? ⟨w.heap.size, 1, none⟩ = some (.int .i64 1) ∧ W.cell? ⟨w.heap.size, 2, none⟩ = some (.int .i64 1) := h.pl.three.1
theorem nil_classes (w : World) (B : Nat) : RdRow 2 (ElC B) B w (.slice none 0 0) [] := ⟨none, 0, rfl, by simp, fun i hi => absurd hi (by simp)⟩
theorem encE_U : U64 (encE 1 0 1 0 0) := ⟨by decide, by decide⟩
theorem b_rd (X : World) : RdRow 2 ElW (X.alloc (.cells #[.int .i64 22, .int .u64 (encE 1 0 1 0 0), .int .i64 23, .int .u64 4] 48)).heap.size (X.alloc (.cells #[.int .i64 22, .int .u64 (encE 1 0 1 0 0), .int .i64 23, .int .u64 4] 48)) (.slice (some ⟨X.heap.size, 0, none⟩) 2 2) bW := by
  have k1 := Blk.new X #[.int .i64 22, .int .u64 (encE 1 0 1 0 0), .int .i64 23, .int .u64 4] 48
  refine ⟨some ⟨X.heap.size, 0, none⟩, 2, rfl, by unfold maxLen; simp [bW], fun i hi => ⟨X.heap.size, 0, rfl, by simp, ?_⟩⟩
  match i, hi with
  | 0, _ => exact ⟨k1.val 0 rfl, k1.val 1 rfl, encE_U⟩
  | 1, _ => exact ⟨k1.val 2 rfl, k1.val 3 rfl, (show U64 (4 : Int) from ⟨by decide, by decide⟩)⟩
  | i + 2, h => exact absurd h (by simp [bW])
theorem Ary.addsO {w w' : World} {B a c : Nat} {cs : List Int} {n : Nat} {K L : List Nat} (h : Ary w B a c cs n K) (hb : Below w.heap.size w w') (hL : ∀ m ∈ L, w.heap.size ≤ m ∧ m < w'.heap.size) : Ary w' B a c cs n (L ++ K) := by
  obtain ⟨xs, ⟨lv, hL', hg⟩, h1, h2, h3, h4, h5, h6⟩ := h
  have la := hL'.at'.own.lt
  have lc := hL'.at'.row.lt
  have lg := fun g hg => (hL'.own.lt g hg).2
  refine ⟨xs, ⟨lv, hL'.grew hb, fun g e r => ?_⟩, fun r => ?_, fun r => ?_, fun b r => ?_, h4, h5, Nat.le_trans h6 hb.size⟩
  · rcases List.mem_append.1 r with r | r
    · have := hL g r; have := lg g e; omega
    · exact hg g e r
  · rcases List.mem_append.1 r with r | r
    · have := hL a r; omega
    · exact h1 r
  · rcases List.mem_append.1 r with r | r
    · have := hL c r; omega
    · exact h2 r
  · rcases List.mem_append.1 r with r | r
    · exact (hL b r).2
    · exact Nat.lt_of_lt_of_le (h3 b r) hb.size
/-- all blocks that came between two worlds -/
def between (m n : Nat) : List Nat := (List.range n).filter fun b => decide (m ≤ b)
theorem mem_between {m n b : Nat} : b ∈ between m n ↔ m ≤ b ∧ b < n := by unfold between; simp; omega
set_option maxRecDepth 100000 in
set_option maxHeartbeats 8000000 in
theorem built_any (w : World) (hW : Wid w) :
    Calls Tryd.prog 6 #[] w fun e w' => e = .returned (.bool true) ∧ Below w.heap.size w w' := by
  have WI := Lib.hid (fun W (hb : Below w.heap.size w W) => hW.below hb hW.lt)
  have EN := Lib.hid (fun W => reenc_yes 1 0 1 0 0 W b_ent)
  have DR := Lib.hid (fun W => draw_yes 1 1 1 W b_right)
  unfold mapV at DR
  rw [b_base, b_tab] at DR
  have LY := Lib.hid (fun W v (hl : RdRow 2 ElW W.heap.size W v bW) => olay_yes 1 1 1 v bW W b_right hl)
  unfold OLay at LY
  rw [bN, bW300, show layL 128 bW = bC0 from rfl] at LY
  have NB := Lib.hid (fun W => newbuild_yes 1 1 1 0 2 1 66 W b_head b_allow)
  unfold NbPost at NB
  have PE := Lib.hid (fun W => mpage_any 1 1 1 64 22 128 0 W)
  have PA := Lib.hid (fun W => malloc_any 1 1 1 64 22 128 0 W)
  rw [show wrap64 (22 + 0) = 22 by kernel_rfl] at PE
  rw [show wrap64 (wrap64 (22 + 1) + 0) = 23 by kernel_rfl] at PA
  have hS : BoS w (w.alloc (.cells #[.int .i64 1, .int .i64 1, .int .i64 1] 28)) := ⟨Blk.new _ _ _, (Below.refl _ _).alloc (Nat.le_refl _) _⟩
  clear hW
  go_enter Tryd.func6, Tryd.ntmps6
  go_wp2_with fail
  generalize hw0 : w.alloc (.cells #[.int .i64 1, .int .i64 1, .int .i64 1] 28) = w0 at *
  clear hw0
  refine (EN.out _).mono ?_; rintro e w1 ⟨rfl, hb1⟩
  have hS1 := hS.grew hb1
  obtain ⟨g0, g1, g2⟩ := hS1.three
  clear hS hb1 EN
  go_wp2_with fail
  refine (DR.out _).mono ?_; rintro e w2 ⟨rfl, hb2⟩
  have hS2 := hS1.grew hb2
  clear hS1 hb2 DR g0 g1 g2
  go_upto_region 4 with fail
  have hM := sixNew w2 1 1 1 64 22 128 32
  have hS3 := hS2.grew ((Below.refl _ _).alloc (Nat.le_refl _) (.cells #[.int .i64 1, .int .i64 1, .int .i64 1, .int .i64 64, .int .i64 22, .int .i64 128] 32))
  clear hS2
  generalize hw3 : w2.alloc (.cells #[.int .i64 1, .int .i64 1, .int .i64 1, .int .i64 64, .int .i64 22, .int .i64 128] 32) = w3 at *
  clear hw3
  generalize w2.heap.size = bm at *
  have SQ := Lib.hid (fun W (hb : Below w3.heap.size w3 W) => show (W.cell? ⟨w.heap.size, 0, none⟩ = some (.int .i64 1) ∧ W.cell? ⟨w.heap.size, 1, none⟩ = some (.int .i64 1) ∧ W.cell? ⟨w.heap.size, 2, none⟩ = some (.int .i64 1)) ∧ (W.cell? ⟨bm, 0, none⟩ = some (.int .i64 1) ∧ W.cell? ⟨bm, 1, none⟩ = some (.int .i64 1) ∧ W.cell? ⟨bm, 2, none⟩ = some (.int .i64 1) ∧ W.cell? ⟨bm, 3, none⟩ = some (.int .i64 64) ∧ W.cell? ⟨bm, 4, none⟩ = some (.int .i64 22) ∧ W.cell? ⟨bm, 5, none⟩ = some (.int .i64 128)) from
    ⟨(hS3.grew hb).three, (hM.grew hb).six.1⟩)
  have B3 : Below w3.heap.size w3 w3.drew := Quiet.below ⟨1, rfl⟩
  have KB := Lib.hid (fun (A C : World) (hb : Below A.heap.size A C) (h : Below w3.heap.size w3 A) => h.trans (hb.mono h.size))
  have KC := Lib.hid (fun (A C : World) (hb : Below A.heap.size A C) (h : Below w3.heap.size w3 A) => h.size)
  have hlt0 : w.heap.size < w3.heap.size := hS3.pl.lt
  have KA := Lib.hid (fun (A : World) (o : Obj) (h : Below w3.heap.size w3 A) => h.alloc h.size o)
  go_region_held3 (fun W => ((W.cell? ⟨w.heap.size, 0, none⟩ = some (.int .i64 1) ∧ W.cell? ⟨w.heap.size, 1, none⟩ = some (.int .i64 1) ∧ W.cell? ⟨w.heap.size, 2, none⟩ = some (.int .i64 1)) ∧ (W.cell? ⟨bm, 0, none⟩ = some (.int .i64 1) ∧ W.cell? ⟨bm, 1, none⟩ = some (.int .i64 1) ∧ W.cell? ⟨bm, 2, none⟩ = some (.int .i64 1) ∧ W.cell? ⟨bm, 3, none⟩ = some (.int .i64 64) ∧ W.cell? ⟨bm, 4, none⟩ = some (.int .i64 22) ∧ W.cell? ⟨bm, 5, none⟩ = some (.int .i64 128))) ∧ Below w3.heap.size w3 W)
    (first | (with_reducible exact ⟨SQ.out _ B3, B3⟩) | (with_reducible exact ⟨SQ.out _ hg7, hg7⟩) | (have hg := KB.out _ _ (by assumption) (And.right (by assumption)); exact ⟨SQ.out _ hg, hg⟩) | (exact ⟨SQ.out _ (KA.out _ _ (And.right (by assumption))), KA.out _ _ (And.right (by assumption))⟩))
    (first
      | (go_at_call 13; refine (PE.out _).mono ?_; rintro e w4 ⟨rfl, hb4⟩)
      | (go_at_call 23; refine (PA.out _).mono ?_; rintro e w5 ⟨rfl, hb5⟩)
      | (go_at_call 12; refine (LY.out _ _ (b_rd _)).mono ?_; rintro e w7 ⟨a, c, d, rfl, hL, hd⟩; have hg7 := KB.out _ _ hL.bel (And.right (by assumption)); have hg6 := KC.out _ _ hL.bel (And.right (by assumption))))
  have hS7 := hS3.grew hg7
  have hA7 := hL.ary
  clear hL SQ KB KA KC hM hS3 hg7 B3 PE PA LY
  generalize Array.size (World.heap (World.alloc _ _)) = B0 at *
  have hB0 : w.heap.size < B0 := by omega
  clear hg6 hlt0 hd
  go_wp2_with fail
  refine (port_yes a 0 _ (by decide) (by decide)).mono ?_; rintro e w8 ⟨p, rfl, hP8, hp, hb8⟩
  have hA8 := hA7.addsO (L := [p]) hb8 (by simp; exact ⟨hp, hP8.lt⟩)
  have hS8 := hS7.grew hb8
  have hp0 : B0 ≤ p := Nat.le_trans hA7.bw hp
  clear hA7 hS7 hb8 hp
  obtain ⟨g0, g1, g2⟩ := hS8.three
  go_wp2_with fail
  refine (oplan_any 1 1 1 _).mono ?_; rintro e w9 ⟨rfl, hb9⟩
  have hA9 := hA8.grew hb9
  have hP9 := Blk.grew hP8 hb9
  have hS9 := hS8.grew hb9
  clear hA8 hP8 hS8 hb9 g0 g1 g2
  go_wp2_with fail
  refine (NB.out _).mono ?_; rintro e w10 ⟨m, rfl, hM10, hm, hb10⟩
  have hpl : p < w9.heap.size := Blk.lt hP9
  have hA10 := hA9.addsO (L := [m]) hb10 (by simp; exact ⟨hm, Blk.lt hM10⟩)
  have hP10 := Blk.grew hP9 hb10
  have hS10 := hS9.grew hb10
  have hB9 := hA9.bw
  have hm0 : B0 ≤ m := Nat.le_trans hB9 hm
  have hmp : m ≠ p := by omega
  clear hA9 hP9 hS9 hb10 NB
  go_wp2_with fail
  refine (new_any w10 w10.heap.size _ [] (nil_classes _ _) (Nat.le_refl _)).mono ?_
  rintro e w11 ⟨hb11, hcase⟩
  rcases hcase with ⟨hne, _⟩ | ⟨_, tb, tv, tm, L, rfl, hT11, hL11⟩
  · exact absurd (by kernel_rfl) hne
  have hA11 := hA10.addsO (L := between w10.heap.size w11.heap.size) hb11 (fun b hb => mem_between.1 hb)
  have hP11 := Blk.grew hP10 hb11
  have hM11 := Blk.grew hM10 hb11
  have hS11 := hS10.grew hb11
  have hml : m < w10.heap.size := Blk.lt hM10
  have hlo : w10.heap.size ≤ w11.heap.size := hb11.size
  clear hA10 hP10 hM10 hS10 hb11
  obtain ⟨xs0, hX11⟩ := hA11
  have hU0 : BuS w11 B0 a c p m 66 (encH 0 2 1) (1 + 1) bC0 xs0 0 (between w10.heap.size w11.heap.size ++ ([m] ++ ([p] ++ [d]))) 0 false w11 := ⟨hM11, hX11, hP11, Touch.refl _ _⟩
  clear hX11 hM11 hP11
  have HT := Lib.hid hT11
  have HS := Lib.hid hS11
  have HL := Lib.hid hL11
  clear hT11 hS11 hL11
  have hmK : m ∈ between w10.heap.size w11.heap.size ++ ([m] ++ ([p] ++ [d])) := by simp
  have hpK : p ∈ between w10.heap.size w11.heap.size ++ ([m] ++ ([p] ++ [d])) := by simp
  have HK := Lib.hid (show ∀ b, w10.heap.size ≤ b → b < w11.heap.size → b ∈ between w10.heap.size w11.heap.size ++ ([m] ++ ([p] ++ [d])) from fun b h1 h2 => List.mem_append_left _ (mem_between.2 ⟨h1, h2⟩))
  generalize between w10.heap.size w11.heap.size ++ ([m] ++ ([p] ++ [d])) = K at *
  have G := Lib.hid (fun W left cs xs n o (h : BuS w11 B0 a c p m 66 (encH 0 2 1) left cs xs n K 0 o W) => h.grant hmp hpK)
  have lb0 : bC0.length = 128 := by kernel_rfl
  have lb1 : bC1.length = 128 := by kernel_rfl
  have S1 := Lib.hid (fun W xs (h : BuS w11 B0 a c p m 66 (encH 0 2 1) (1 + 1) bC0 xs 0 K 0 true W) => (bstep_more 1 h (by decide) (by decide) (by decide) hmp hmK hpK (by decide) (by rw [lb0]; decide)).mono (R' := fun e w' => e = .returned (.bool false) ∧ ∃ xs, BuS w11 B0 a c p m 66 (encH 0 2 1) 1 bC1 xs 1 K 0 false w') fun _ _ ⟨he, h⟩ => ⟨he, _, h⟩)
  have S2 := Lib.hid (fun W xs (h : BuS w11 B0 a c p m 66 (encH 0 2 1) 1 bC1 xs 1 K 0 true W) => (bstep_last h hmp hmK hpK (by decide) (by rw [lb1]; decide)).mono (R' := fun e w' => e = .returned (.bool true) ∧ ∃ xs, BuS w11 B0 a c p m 66 (encH 0 2 1) 0 bC2 xs 2 K 0 false w') fun _ _ ⟨he, h⟩ => ⟨he, _, h⟩)
  have LK := Lib.hid (fun W (hA : Ary W B0 a c bC2 2 K) (hW : Wid W) (hT : TabS W w10.heap.size tb tv tm L) => look_yes (P := 1) (T := 1) (R := 1) 66 hA hW hT (by rw [bN]; exact b_len) b_U b_hold b_hdE (by rw [HL.out, b_hdC, b_hdK, b_hdN]; exact b_fit) (by rw [b_hdC, b_hdK, b_hdN]; exact b_fits) 1 b_hdN (by decide) (by rw [b_len]; decide))
  rw [b_hdC, b_hdK, b_lk] at LK
  unfold LkPost at LK
  clear lb0 lb1 HL
  have hlt1 : p < w10.heap.size := by omega
  generalize encH 0 2 1 = H at *
  replace hB0 := Lib.hid hB0
  replace hmp := Lib.hid hmp
  go_wp2_with fail
  go_loopw [15] (fun i wr => ∃ k : Int, (k = 0 ∧ (∃ xs, BuS w11 B0 a c p m 66 H (1 + 1) bC0 xs 0 K 0 false wr) ∨ k = 1 ∧ (∃ xs, BuS w11 B0 a c p m 66 H 1 bC1 xs 1 K 0 false wr) ∨ k = 2 ∧ (∃ xs, BuS w11 B0 a c p m 66 H 0 bC2 xs 2 K 0 false wr)) ∧ i = .int .i64 k) (fun i _ => (2 - intOf i).toNat)
  case atStart => exact ⟨0, .inl ⟨rfl, _, hU0⟩, rfl⟩
  case round =>
    clear hU0
    obtain ⟨k, (⟨rfl, xs, hU⟩ | ⟨rfl, xs, hU⟩ | ⟨rfl, xs, hU⟩), rfl⟩ := hrel
    · go_wp2_with fail
      refine (G.out _ _ _ _ _ _ hU).mono ?_; rintro e wa ⟨⟨u1, rfl⟩, h2⟩
      go_wp2_with fail
      refine (S1.out _ _ h2).mono ?_; rintro e wb ⟨rfl, h3⟩
      go_wp2
      go_roundw
      case rel => exact ⟨1, .inr (.inl ⟨rfl, h3⟩), by go_num⟩
      case measure => simp [intOf]
    · go_wp2_with fail
      refine (G.out _ _ _ _ _ _ hU).mono ?_; rintro e wa ⟨⟨u1, rfl⟩, h2⟩
      go_wp2_with fail
      refine (S2.out _ _ h2).mono ?_; rintro e wb ⟨rfl, h3⟩
      go_wp2
      go_roundw
      case rel => exact ⟨2, .inr (.inr ⟨rfl, h3⟩), by go_num⟩
      case measure => simp [intOf]
    · have hT := HT.out.touch hU.touch (fun g h1 h2 h3 => by
        rcases h3 with rfl | rfl | ⟨_, h3⟩
        · omega
        · omega
        · exact h3 (HK.out g h1 h2))
      have hS := HS.out.touch hU.touch (fun b hb => by
        have := hB0.out
        rcases hb with rfl | rfl | ⟨hb, _⟩ <;> omega)
      have hA : Ary wr B0 a c bC2 2 K := ⟨_, hU.arx⟩
      have hM := hU.mach
      clear hU G S1 S2 HT HS
      obtain ⟨g0, g1, g2⟩ := hS.three
      go_wp2_with fail
      refine (oplan_any 1 1 1 _).mono ?_; rintro e wx ⟨rfl, hbx⟩
      have hTx := hT.grew hbx
      have hSx := hS.grew hbx
      have hAx := hA.grew hbx
      have hMx := Blk.grew hM hbx
      clear hT hS hA hM hbx g0 g1 g2
      go_wp2_with fail
      refine (LK.out _ hAx (WI.out _ hSx.bel) hTx).mono ?_
      rintro e wy ⟨u, rfl, hou, hby⟩
      have hSy := hSx.grew hby
      have hMy := Blk.grew hMx hby
      clear hTx hSx hAx hMx hby LK
      obtain ⟨g', cap, cur, rfl, hcell⟩ : ∃ g cap, ∃ cur : Unit, u = .slice (some ⟨g, 0, none⟩) 1 cap ∧ wy.cell? ⟨g, 0, none⟩ = some (.int .i64 0) := by
        rcases hou.2 with ⟨h1, h2⟩ | ⟨g, cap, cur, h1, _⟩
        · exact absurd h2 (by simp)
        · refine ⟨g, cap, (), h1, ?_⟩
          subst h1
          have := hou.cellAt 0 (by simp)
          exact this
      have hZ := Blk.new wy #[.int .i64 66, .int .i64 0, .int .i64 2, .slice (some ⟨g', 0, none⟩) 1 cap] 70
      have hbz : Below wy.heap.size wy (wy.alloc (.cells #[.int .i64 66, .int .i64 0, .int .i64 2, .slice (some ⟨g', 0, none⟩) 1 cap] 70)) := (Below.refl _ _).alloc (Nat.le_refl _) _
      have hSz := hSy.grew hbz
      have hMz := Blk.grew hMy hbz
      have z0 := hZ.val 0 rfl
      have z2 := hZ.val 2 rfl
      have z3 := hZ.val 3 rfl
      have zc := (hbz.cell (p := ⟨g', 0, none⟩) (World.block_lt_of_cell? wy _ hcell)).trans hcell
      clear hou hSy hMy hbz hcell hZ
      go_wp2_with fail
      refine (bover_any hMz).mono ?_; rintro e wf ⟨rfl, hqf⟩
      have y0 := (hqf.cell _).trans z0
      have y2 := (hqf.cell _).trans z2
      have y3 := (hqf.cell _).trans z3
      have yc := (hqf.cell _).trans zc
      have hBf := hSz.bel.trans hqf.below
      clear hSz hMz hqf z0 z2 z3 zc
      go_wp2
      go_ret
      exact ⟨rfl, hBf⟩
theorem ofield_law (x i : Int) (w : World) (w0 : (Lit.int .i64 x).wf = true) (w1 : (Lit.int .i64 i).wf = true) (hWid : Wid w) :
    Calls Tryd.prog 5 #[.int .i64 x, .int .i64 i] w fun e w' => e = .returned (.bool true) ∧ Below w.heap.size w w' := by
  have BA := Lib.hid (built_any w hWid)
  have FD := Lib.hid (fun W => ofield_any x i W)
  clear hWid
  go_enter Tryd.func5, Tryd.ntmps5
  go_wp2_with fail
  refine BA.out.mono ?_; rintro e w2 ⟨rfl, hb2⟩
  go_wp2_with fail
  refine (FD.out _).mono ?_; rintro e w3 ⟨rfl, rfl⟩
  go_wp2
  go_ret
  exact ⟨by simp, hb2⟩
end Go.Proofs.YtichmgilglaglaaDoor
