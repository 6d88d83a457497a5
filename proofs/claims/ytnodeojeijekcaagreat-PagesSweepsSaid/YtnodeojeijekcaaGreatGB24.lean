/- The laws' own 'lay', walked. Condition: the pages are read in full. -/
import Derived.Test.YtnodeojeijekcaaGreatGB23
namespace Go.Proofs.YtnodeojeijekcaaGreat
open Go.RowKit
set_option linter.unusedVariables false
/-- a field -/
structure FiS (w : World) (B f M d a c p : Nat) (P T : Int) (cs : List Int) (W : World) : Prop where
  fl : Blk W f (flV P T (some ⟨a, 0, none⟩) (some ⟨M, 0, none⟩) (some ⟨p, 0, none⟩)) 38
  doc : Blk W M #[.slice (some ⟨d, 0, none⟩) cs.length cs.length, .slice none 0 0, .int .i64 0] 65
  row : Blk W d (cs.map (Value.int .u64)).toArray 47
  ary : Ary W B a c cs 0 [p, d, M, f]
  port : PortAt W p a 15 false
  bel : Below B w W
  lo : B ≤ f ∧ B ≤ M ∧ B ≤ d ∧ B ≤ p
theorem fl_six {w : World} {b : Nat} {v0 v1 v2 v3 v4 v5 v6 v7 v8 v9 v10 v11 : Value} {t : TypeId} (h : Blk w b #[v0, v1, v2, v3, v4, v5, v6, v7, v8, v9, v10, v11] t) :
    (w.cell? ⟨b, 3, none⟩ = some v3 ∧ w.cell? ⟨b, 4, none⟩ = some v4 ∧ w.cell? ⟨b, 5, none⟩ = some v5 ∧ w.cell? ⟨b, 6, none⟩ = some v6 ∧ w.cell? ⟨b, 7, none⟩ = some v7 ∧ w.cell? ⟨b, 8, none⟩ = some v8) ∧
    (w.frozen? ⟨b, 3, none⟩ = false ∧ w.frozen? ⟨b, 4, none⟩ = false ∧ w.frozen? ⟨b, 5, none⟩ = false ∧ w.frozen? ⟨b, 6, none⟩ = false ∧ w.frozen? ⟨b, 7, none⟩ = false ∧ w.frozen? ⟨b, 8, none⟩ = false) :=
  ⟨⟨h.val 3 rfl, h.val 4 rfl, h.val 5 rfl, h.val 6 rfl, h.val 7 rfl, h.val 8 rfl⟩, h.frozen 3, h.frozen 4, h.frozen 5, h.frozen 6, h.frozen 7, h.frozen 8⟩
theorem poke_one (cs : List Int) (N q : Nat) (h : q < N) (hc : cs.length = N) : (cs.take q ++ List.replicate (N - q) 0).set q (cs.getD q 0) = cs.take (q + 1) ++ List.replicate (N - (q + 1)) 0 := by
  apply List.ext_getElem
  · simp; omega
  · intro i h1 h2
    simp only [List.getElem_set, List.getElem_append, List.length_take, List.getElem_take, List.getElem_replicate]
    by_cases e : q = i
    · subst e
      rw [if_pos rfl, dif_pos (by omega)]
      simp [List.getD_eq_getElem?_getD, hc, h]
    · rw [if_neg e]
      by_cases e2 : i < q
      · rw [dif_pos (by omega), dif_pos (by omega)]
      · rw [dif_neg (by omega), dif_neg (by omega)]
theorem FiS.of {w W W' : World} {B f M d a c p : Nat} {P T : Int} {cs : List Int} (h : LaS w B f M d a c P T cs cs W) (hP : PortAt W' p a 15 false) (hp : W.heap.size ≤ p) (hb : Below W.heap.size W W') : FiS w B f M d a c p P T cs (W'.setCell ⟨f, 11, none⟩ (.pointer (some ⟨p, 0, none⟩))) := by
  have g := h.grew hb
  have hpl := hP.lt
  have h1 := h.fl.lt
  have h2 := h.doc.lt
  have h3 := h.row.lt
  have m1 := blk_ne g.fl g.doc (by decide)
  have m2 := blk_ne g.fl g.row (by decide)
  have hA : Ary W' B a c cs 0 [p, d, M, f] := h.ary.add hb hp hpl
  refine ⟨g.fl.set 11 _, g.doc.other _ _ (Ne.symm m1), g.row.other _ _ (Ne.symm m2), hA.touch ((Touch.refl (fun b => b = f) W').setCell (p := ⟨f, 11, none⟩) rfl _) (fun b e => by rw [e]; simp), hP.other _ _ (by simp; omega), g.bel.setCell (p := ⟨f, 11, none⟩) h.lo.1 _, h.lo.1, h.lo.2.1, h.lo.2.2, ?_⟩
  have := h.bel.size
  have := h.ary.bw
  omega
theorem las_row {w W : World} {B f M d a c q : Nat} {P T : Int} {cs cs2 : List Int} (h : LaS w B f M d a c P T cs cs2 W) (hq : q < cs.length) : W.cell? ⟨d, q, none⟩ = some (.int .u64 (cs.getD q 0)) := by
  have := Blk.cell h.row q
  rw [this]
  simp [List.getD_eq_getElem?_getD, hq]
theorem pgS {w W : World} {B f M d a c b i N : Nat} {P T : Int} {cs cs2 : List Int} {x : PgD} (EL : ∀ W, Below B w W → ElPg W b i x) (h : LaS w B f M d a c P T cs cs2 W) (hc : cs.length = N) : ((W.cell? ⟨b, i + 6, none⟩ = some (.int .u64 x.al) ∧ W.cell? ⟨b, i + 7, none⟩ = some (.int .u64 x.ma)) ∧ ((W.cell? ⟨f, 3, none⟩ = some (.int .i64 P) ∧ W.cell? ⟨f, 4, none⟩ = some (.int .i64 T) ∧ W.cell? ⟨f, 5, none⟩ = some (.int .i64 1) ∧ W.cell? ⟨f, 6, none⟩ = some (.int .i64 (baseI P T 1)) ∧ W.cell? ⟨f, 7, none⟩ = some (.int .i64 (tabI T 1)) ∧ W.cell? ⟨f, 8, none⟩ = some (.int .i64 (baseI P T 1 + 64 * P))) ∧ W.cell? ⟨f, 10, none⟩ = some (.pointer (some ⟨M, 0, none⟩)) ∧ W.cell? ⟨M, 0, none⟩ = some (.slice (some ⟨d, 0, none⟩) N N) ∧ W.cell? ⟨f, 0, none⟩ = some (.int .i64 P))) := by
  have e := EL W h.bel
  have k := h.cells
  rw [hc] at k
  exact ⟨⟨e.2.1.2.1, e.2.1.2.2⟩, k⟩
def PLay (P T : Int) (l : List PgD) (w : World) (e : Ending) (w' : World) : Prop :=
  ∃ f M d a c p, e = .returned (.tuple #[.pointer (some ⟨f, 0, none⟩), .bool true]) ∧ FiS w w.heap.size f M d a c p P T (layK P T l (min l.length P.toNat)) w'
set_option maxRecDepth 100000 in
set_option maxHeartbeats 4000000 in
theorem play_any (P0 T0 R0 P T : Int) (v : Value) (l : List PgD) (w : World) (hP0 : psI P0 5 = P) (hT0 : psI T0 3 = T) (hP : 1 ≤ P ∧ P ≤ 5) (hT : 1 ≤ T ∧ T ≤ 3) (hl : RdRow 8 ElPg w.heap.size w v l) :
    Calls Tryz.prog 4 #[.agg #[.int .i64 P0, .int .i64 T0, .int .i64 R0], v] w (PLay P T l w) := by
  obtain ⟨a1, q1, rfl, hx⟩ := hl
  have hl : RdRow 8 ElPg w.heap.size w (.slice a1 l.length q1) l := ⟨a1, q1, rfl, hx⟩
  clear hx
  have RP := Lib.hid (fun W (hb : Below w.heap.size w W) => hl.keep hb fun _ _ _ e r => r.keep hb e)
  have hr := right_small hP hT
  obtain ⟨hN, hN1, hN2⟩ := cellsN_bd hr
  have SM := Lib.hid (fun W => psmall_any P0 T0 R0 W)
  rw [hP0, hT0] at SM
  have DR := Lib.hid (fun W => draw_yes P T 1 W hr)
  unfold mapV at DR
  have CC := Lib.hid (fun W => rcells_yes P T 1 W hr)
  rw [← hN] at CC
  have NY := Lib.hid (fun W => new_yes (cellsN P T 1) true W (by omega) (by omega))
  have hmk := fun W => run_mk W (cellsN P T 1 : Int) (by omega) (by omega)
  have PQ := Lib.hid (fun k => pq_at (k := k) hP hT)
  have LL := Lib.hid (fun k => layK_len P T l k)
  have hPn : ((P.toNat : Nat) : Int) = P := by omega
  unfold PLay
  clear hl hP0 hT0 hr
  replace hN := Lib.hid hN
  go_enter Tryz.func4, Tryz.ntmps4
  have c0 := (planNew w P0 T0 R0 23)
  go_wp2_with fail
  refine (SM.out _).mono ?_; rintro e w1 ⟨rfl, hb1⟩
  have c1 := planKeep c0 hb1
  have hB1 := c1.2
  clear c0 hb1 c1
  go_upto_region 2 with fail
  have hF2 : Blk (w1.alloc (.cells #[.int .i64 P, .int .i64 T, .int .i64 1, .int .i64 0, .int .i64 0, .int .i64 0, .int .i64 0, .int .i64 0, .int .i64 0, .pointer none, .pointer none, .pointer none] 38)) w1.heap.size #[.int .i64 P, .int .i64 T, .int .i64 1, .int .i64 0, .int .i64 0, .int .i64 0, .int .i64 0, .int .i64 0, .int .i64 0, .pointer none, .pointer none, .pointer none] 38 := Blk.new _ _ _
  have hB2 := hB1.alloc hB1.size (.cells #[.int .i64 P, .int .i64 T, .int .i64 1, .int .i64 0, .int .i64 0, .int .i64 0, .int .i64 0, .int .i64 0, .int .i64 0, .pointer none, .pointer none, .pointer none] 38)
  generalize w1.alloc (.cells #[.int .i64 P, .int .i64 T, .int .i64 1, .int .i64 0, .int .i64 0, .int .i64 0, .int .i64 0, .int .i64 0, .int .i64 0, .pointer none, .pointer none, .pointer none] 38) = w2 at *
  have hf0 := hB1.size
  generalize w1.heap.size = f at *
  have f0 : w2.cell? ⟨f, 0, none⟩ = some (.int .i64 P) := hF2.val 0 rfl
  have f1 : w2.cell? ⟨f, 1, none⟩ = some (.int .i64 T) := hF2.val 1 rfl
  have f2 : w2.cell? ⟨f, 2, none⟩ = some (.int .i64 1) := hF2.val 2 rfl
  clear hB1
  go_wp2_with fail
  refine (DR.out _).mono ?_; rintro e w3 ⟨rfl, hb3⟩
  have hF3 := hF2.grew hb3
  have hB3 := hB2.trans (hb3.mono hB2.size)
  clear f0 f1 f2 hF2 hB2 hb3 DR SM
  obtain ⟨⟨d3, d4, d5, d6, d7, d8⟩, g3, g4, g5, g6, g7, g8⟩ := fl_six hF3
  have hF4 := ((((((hF3.set 3 (.int .i64 P)).set 4 (.int .i64 T)).set 5 (.int .i64 1)).set 6 (.int .i64 (baseI P T 1))).set 7 (.int .i64 (tabI T 1))).set 8 (.int .i64 (baseI P T 1 + 64 * P)))
  have hB4 := ((((((hB3.setCell (p := ⟨f, 3, none⟩) hf0 (.int .i64 P)).setCell (p := ⟨f, 4, none⟩) hf0 (.int .i64 T)).setCell (p := ⟨f, 5, none⟩) hf0 (.int .i64 1)).setCell (p := ⟨f, 6, none⟩) hf0 (.int .i64 (baseI P T 1))).setCell (p := ⟨f, 7, none⟩) hf0 (.int .i64 (tabI T 1))).setCell (p := ⟨f, 8, none⟩) hf0 (.int .i64 (baseI P T 1 + 64 * P)))
  replace hF4 := Lib.hid hF4
  replace hB4 := Lib.hid hB4
  clear hF3 hB3
  go_upto_region 3 with fail
  generalize (((((w3.setCell ⟨f, 3, none⟩ (.int .i64 P)).setCell ⟨f, 4, none⟩ (.int .i64 T)).setCell ⟨f, 5, none⟩ (.int .i64 1)).setCell ⟨f, 6, none⟩ (.int .i64 (baseI P T 1))).setCell ⟨f, 7, none⟩ (.int .i64 (tabI T 1))).setCell ⟨f, 8, none⟩ (.int .i64 (baseI P T 1 + 64 * P)) = w4 at *
  have hF5 : Blk w4 f #[.int .i64 P, .int .i64 T, .int .i64 1, .int .i64 P, .int .i64 T, .int .i64 1, .int .i64 (baseI P T 1), .int .i64 (tabI T 1), .int .i64 (baseI P T 1 + 64 * P), .pointer none, .pointer none, .pointer none] 38 := hF4.out
  replace hB4 := hB4.out
  clear d3 d4 d5 d6 d7 d8 g3 g4 g5 g6 g7 g8 hF4
  have f0 : w4.cell? ⟨f, 0, none⟩ = some (.int .i64 P) := hF5.val 0 rfl
  have f1 : w4.cell? ⟨f, 1, none⟩ = some (.int .i64 T) := hF5.val 1 rfl
  have f2 : w4.cell? ⟨f, 2, none⟩ = some (.int .i64 1) := hF5.val 2 rfl
  go_wp2_with fail
  refine (CC.out _).mono ?_; rintro e w5 ⟨rfl, hb5⟩
  have hF6 := hF5.grew hb5
  have hB5 := hB4.trans (hb5.mono hB4.size)
  have hfl := hF6.lt
  clear f0 f1 f2 hF5 hB4 hb5 CC
  have hLK : Hid (layK P T l 0 = List.replicate (cellsN P T 1) 0) := Lib.hid rfl
  generalize hNN : cellsN P T 1 = N at *
  have n10 : w5.cell? ⟨f, 10, none⟩ = some (.pointer none) := hF6.val 10 rfl
  have g10 := hF6.frozen 10
  have hsz : (w5.setCell ⟨f, 10, none⟩ (.pointer (some ⟨w5.heap.size + 1, 0, none⟩))).heap.size = w5.heap.size := by simp
  have hF8 := Lib.hid (((hF6.set 10 (.pointer (some ⟨w5.heap.size + 1, 0, none⟩))).alloc (.cells (zeros N) 47)).alloc (.cells #[.slice (some ⟨w5.heap.size, 0, none⟩) N N, .slice none 0 0, .int .i64 0] 65))
  have hR6 : Blk ((w5.setCell ⟨f, 10, none⟩ (.pointer (some ⟨w5.heap.size + 1, 0, none⟩))).alloc (.cells (zeros N) 47)) w5.heap.size (zeros N) 47 := Blk.new' hsz.symm
  have hR8 := Lib.hid (hR6.alloc (.cells #[.slice (some ⟨w5.heap.size, 0, none⟩) N N, .slice none 0 0, .int .i64 0] 65))
  have hM8 : Hid (Blk (((w5.setCell ⟨f, 10, none⟩ (.pointer (some ⟨w5.heap.size + 1, 0, none⟩))).alloc (.cells (zeros N) 47)).alloc (.cells #[.slice (some ⟨w5.heap.size, 0, none⟩) N N, .slice none 0 0, .int .i64 0] 65)) (w5.heap.size + 1) #[.slice (some ⟨w5.heap.size, 0, none⟩) N N, .slice none 0 0, .int .i64 0] 65) := Lib.hid (Blk.new' (by simp))
  have hB8 := Lib.hid (((hB5.setCell (p := ⟨f, 10, none⟩) hf0 (.pointer (some ⟨w5.heap.size + 1, 0, none⟩))).alloc (by rw [hsz]; exact hB5.size) (.cells (zeros N) 47)).alloc (by have := hB5.size; simp; omega) (.cells #[.slice (some ⟨w5.heap.size, 0, none⟩) N N, .slice none 0 0, .int .i64 0] 65))
  have hs5 := hB5.size
  clear hF6 hR6 hB5 hsz
  go_upto_region 4 with fail
  generalize (((w5.setCell ⟨f, 10, none⟩ (.pointer (some ⟨w5.heap.size + 1, 0, none⟩))).alloc (.cells (zeros N) 47)).alloc (.cells #[.slice (some ⟨w5.heap.size, 0, none⟩) N N, .slice none 0 0, .int .i64 0] 65)) = w6 at *
  clear n10 g10 hmk
  replace hF8 : Blk w6 f #[.int .i64 P, .int .i64 T, .int .i64 1, .int .i64 P, .int .i64 T, .int .i64 1, .int .i64 (baseI P T 1), .int .i64 (tabI T 1), .int .i64 (baseI P T 1 + 64 * P), .pointer none, .pointer (some ⟨w5.heap.size + 1, 0, none⟩), .pointer none] 38 := hF8.out
  replace hR8 := hR8.out
  replace hM8 := hM8.out
  replace hB8 := hB8.out
  obtain ⟨M, hM⟩ : ∃ M, M = w5.heap.size + 1 := ⟨_, rfl⟩
  rw [← hM] at hF8 hM8
  replace hM := Lib.hid hM
  generalize w5.heap.size = d at *
  have m10 : w6.cell? ⟨f, 10, none⟩ = some (.pointer (some ⟨M, 0, none⟩)) := hF8.val 10 rfl
  have m0 : w6.cell? ⟨M, 0, none⟩ = some (.slice (some ⟨d, 0, none⟩) N N) := hM8.val 0 rfl
  go_wp2_with fail
  refine (NY.out _).mono ?_; rintro e w7 ⟨a, c, rfl, hA7, ha, hc, hb7⟩
  have hlR := hR8.lt
  have hlM := hM8.lt
  have hlF := hF8.lt
  have hF9 := hF8.grew hb7
  have hM9 := hM8.grew hb7
  have hR9 := hR8.grew hb7
  have hB9 := hB8.trans (hb7.mono hB8.size)
  have hA9 : Ary w7 w.heap.size a c (List.replicate N 0) 0 [d, M, f] := ⟨[], ⟨.slice none 0 0, ⟨hA7, World.ownsRow_nil _ _ _ _, by simp [Value.ownBlock], by simp [Value.ownBlock]⟩, fun g e => by simp [Value.ownBlock] at e⟩, by simp; omega, by simp; omega, fun b hb => by simp only [List.mem_cons, List.not_mem_nil, or_false] at hb; have := hb7.size; rcases hb with rfl | rfl | rfl <;> omega, by have := hB8.size; omega, by have := hB8.size; omega, hB9.size⟩
  clear hF8 hM8 hR8 hB8 hA7 hb7 m10 m0 NY
  have n9 : w7.cell? ⟨f, 9, none⟩ = some (.pointer none) := hF9.val 9 rfl
  have g9 := hF9.frozen 9
  have hM1 := hM.out
  have hS : LaS w w.heap.size f M d a c P T (List.replicate N 0) (List.replicate N 0) (w7.setCell ⟨f, 9, none⟩ (.pointer (some ⟨a, 0, none⟩))) := by
    refine ⟨hF9.set 9 _, ?_, ?_, hA9.touch ((Touch.refl (fun b => b = f) w7).setCell (p := ⟨f, 9, none⟩) rfl _) (fun b e => by rw [e]; simp), hB9.setCell (p := ⟨f, 9, none⟩) hf0 _, ⟨hf0, by omega, by omega⟩⟩
    · rw [List.length_replicate]; exact hM9.other _ _ (by simp; omega)
    · exact hR9.other _ _ (by simp; omega)
  rw [← hLK.out] at hS
  clear hF9 hM9 hR9 hB9 hA9 hlR hlM hlF hM1
  go_upto_region 8 with fail
  generalize w7.setCell ⟨f, 9, none⟩ (.pointer (some ⟨a, 0, none⟩)) = w8 at *
  clear n9 g9
  replace hNN := Lib.hid hNN
  go_wp2_with fail
  go_loopw [9] (fun i wr => ∃ k : Nat, k ≤ min l.length P.toNat ∧ i = .int .i64 k ∧ LaS w w.heap.size f M d a c P T (layK P T l k) (List.replicate N 0) wr) (fun i _ => min l.length P.toNat - (intOf i).toNat)
  case atStart => exact ⟨0, Nat.zero_le _, rfl, by rw [hLK.out] at hS ⊢; exact hS⟩
  case round =>
    clear hS
    obtain ⟨k, hk, rfl, hS⟩ := hrel
    by_cases hlt : k < min l.length P.toNat
    · have hkl : k < l.length := by omega
      have hk1 : (k : Int) < (l.length : Int) := by omega
      have hk2 : (k : Int) < P := by omega
      have hk5 : k < 5 := by omega
      obtain ⟨⟨q0, q0l⟩, ⟨q1, q1l⟩, q2, q2l⟩ := PQ.out k hk2
      obtain ⟨b, o, rfl, hbw, hel0⟩ := rd_at (RP.out _ (Below.refl _ _)) hkl
      have EL := Lib.hid (fun W (hb : Below w.heap.size w W) => ElPg.keep hb hbw hel0)
      have hel := EL.out _ hS.bel
      have hsn : Hid (layK P T l (k + 1) = stP P T (layK P T l k) k l[k]) := Lib.hid (by rw [layK]; congr 1; simp [hkl])
      have hcl := Lib.hid (LL.out k)
      clear hel0
      generalize layK P T l k = cs at *
      generalize l[k] = x at *
      have hclN := hcl.out
      obtain ⟨⟨e0, e1, e2, e3, e4⟩, ⟨e5, e6, e7⟩, u5, u6, u7⟩ := hel
      have c0 := hS.cells.2.2.2
      have EE := Lib.hid (fun W => reenc_any x.k x.c x.s x.o x.y W)
      have PG := Lib.hid (fun W => pmPage_any P T 1 (baseI P T 1) (tabI T 1) (baseI P T 1 + 64 * P) k W)
      have PL := Lib.hid (fun W => pmAlloc_any P T 1 (baseI P T 1) (tabI T 1) (baseI P T 1 + 64 * P) k W)
      have PM := Lib.hid (fun W => pmMark_any P T 1 (baseI P T 1) (tabI T 1) (baseI P T 1 + 64 * P) k W)
      rw [q0] at PG
      rw [q1] at PL
      rw [q2] at PM
      clear q0 q1 q2 hk
      go_wp2_with fail
      refine (EE.out _).mono ?_; rintro e w9 ⟨rfl, hb9⟩
      have hS9 := hS.grew hb9
      have hel9 := EL.out _ hS9.bel
      clear hS hb9 e0 e1 e2 e3 e4 e5 e6 e7 c0
      have e5 : w9.cell? ⟨b, o + k * 8 + 5, none⟩ = some (.int .u64 x.odd) := hel9.2.1.1
      obtain ⟨z, hz⟩ : ∃ z, z = pgW x := ⟨_, rfl⟩
      replace hsn : Hid (layK P T l (k + 1) = ((cs.set (pE T + k) z).set (pE T + P.toNat + k) x.al).set (pE T + 2 * P.toNat + k) x.ma) := Lib.hid (by rw [hsn.out, stP, hz])
      replace hz := Lib.hid hz
      generalize pE T + k = i0 at *
      generalize pE T + P.toNat + k = i1 at *
      generalize pE T + 2 * P.toNat + k = i2 at *
      have hc0 := hclN
      have hc1 : (cs.set (i0) z).length = N := by simp [hclN]
      have hc2 : ((cs.set (i0) z).set (i1) x.al).length = N := by simp [hclN]
      have hc3 : (((cs.set (i0) z).set (i1) x.al).set (i2) x.ma).length = N := by simp [hclN]
      have p0 : i0 < cs.length := by omega
      have p1 : i1 < (cs.set (i0) z).length := by omega
      have p2 : i2 < ((cs.set (i0) z).set (i1) x.al).length := by omega
      have y0 : (0 : Int) ≤ ((i0 : Nat) : Int) ∧ ((i0 : Nat) : Int) < (N : Int) := by omega
      have y1 : (0 : Int) ≤ ((i1 : Nat) : Int) ∧ ((i1 : Nat) : Int) < (N : Int) := by omega
      have y2 : (0 : Int) ≤ ((i2 : Nat) : Int) ∧ ((i2 : Nat) : Int) < (N : Int) := by omega
      obtain ⟨y00, y01⟩ := y0
      obtain ⟨y10, y11⟩ := y1
      obtain ⟨y20, y21⟩ := y2
      by_cases hodd : x.odd = 0
      · have hodd' : (x.odd != 0) = false := by simp [hodd]
        have hz' : eencV x.k x.c x.s x.o x.y = z := by rw [hz.out, pgW, if_pos hodd]
        rw [hz']
        clear hodd hz'
        go_upto_region 14 with fail
        clear hodd' e5
        have hS9d := hS9.drew
        go_wp2_with fail
        go_region_held3 (fun W' => ((W'.cell? ⟨b, o + k * 8 + 6, none⟩ = some (.int .u64 x.al) ∧ W'.cell? ⟨b, o + k * 8 + 7, none⟩ = some (.int .u64 x.ma)) ∧ ((W'.cell? ⟨f, 3, none⟩ = some (.int .i64 P) ∧ W'.cell? ⟨f, 4, none⟩ = some (.int .i64 T) ∧ W'.cell? ⟨f, 5, none⟩ = some (.int .i64 1) ∧ W'.cell? ⟨f, 6, none⟩ = some (.int .i64 (baseI P T 1)) ∧ W'.cell? ⟨f, 7, none⟩ = some (.int .i64 (tabI T 1)) ∧ W'.cell? ⟨f, 8, none⟩ = some (.int .i64 (baseI P T 1 + 64 * P))) ∧ W'.cell? ⟨f, 10, none⟩ = some (.pointer (some ⟨M, 0, none⟩)) ∧ W'.cell? ⟨M, 0, none⟩ = some (.slice (some ⟨d, 0, none⟩) N N) ∧ W'.cell? ⟨f, 0, none⟩ = some (.int .i64 P))))
          ((first | (with_reducible exact pgS EL.out (by assumption) hc0) | (with_reducible exact pgS EL.out (by assumption) hc1) | (with_reducible exact pgS EL.out (by assumption) hc2) | (with_reducible exact pgS EL.out (by assumption) hc3)))
          (first
            | (go_at_call 24; refine (PG.out _).mono ?_; rintro e w10 ⟨rfl, hb10⟩; have h10 := LaS.grew hS9d hb10; have r1 := las_row h10 p0; have r2 := h10.row.frozen (i0); have h11 := h10.put (i0) z))
        generalize w10.setCell ⟨d, i0, none⟩ (.int .u64 z) = hSaW at *
        have hSa := h11
        clear r1 r2 h10 h11 hb10 hS9d hS9
        have hSad := hSa.drew
        go_wp2_with fail
        go_region_held3 (fun W' => ((W'.cell? ⟨b, o + k * 8 + 6, none⟩ = some (.int .u64 x.al) ∧ W'.cell? ⟨b, o + k * 8 + 7, none⟩ = some (.int .u64 x.ma)) ∧ ((W'.cell? ⟨f, 3, none⟩ = some (.int .i64 P) ∧ W'.cell? ⟨f, 4, none⟩ = some (.int .i64 T) ∧ W'.cell? ⟨f, 5, none⟩ = some (.int .i64 1) ∧ W'.cell? ⟨f, 6, none⟩ = some (.int .i64 (baseI P T 1)) ∧ W'.cell? ⟨f, 7, none⟩ = some (.int .i64 (tabI T 1)) ∧ W'.cell? ⟨f, 8, none⟩ = some (.int .i64 (baseI P T 1 + 64 * P))) ∧ W'.cell? ⟨f, 10, none⟩ = some (.pointer (some ⟨M, 0, none⟩)) ∧ W'.cell? ⟨M, 0, none⟩ = some (.slice (some ⟨d, 0, none⟩) N N) ∧ W'.cell? ⟨f, 0, none⟩ = some (.int .i64 P))))
          ((first | (with_reducible exact pgS EL.out (by assumption) hc0) | (with_reducible exact pgS EL.out (by assumption) hc1) | (with_reducible exact pgS EL.out (by assumption) hc2) | (with_reducible exact pgS EL.out (by assumption) hc3)))
          (first
            | (go_at_call 25; refine (PL.out _).mono ?_; rintro e w10 ⟨rfl, hb10⟩; have h10 := LaS.grew hSad hb10; have r1 := las_row h10 p1; have r2 := h10.row.frozen (i1); have h11 := h10.put (i1) x.al))
        generalize w10.setCell ⟨d, i1, none⟩ (.int .u64 x.al) = hSbW at *
        have hSb := h11
        clear r1 r2 h10 h11 hb10 hSad hSa
        have hSbd := hSb.drew
        go_wp2_with fail
        go_region_held3 (fun W' => ((W'.cell? ⟨b, o + k * 8 + 6, none⟩ = some (.int .u64 x.al) ∧ W'.cell? ⟨b, o + k * 8 + 7, none⟩ = some (.int .u64 x.ma)) ∧ ((W'.cell? ⟨f, 3, none⟩ = some (.int .i64 P) ∧ W'.cell? ⟨f, 4, none⟩ = some (.int .i64 T) ∧ W'.cell? ⟨f, 5, none⟩ = some (.int .i64 1) ∧ W'.cell? ⟨f, 6, none⟩ = some (.int .i64 (baseI P T 1)) ∧ W'.cell? ⟨f, 7, none⟩ = some (.int .i64 (tabI T 1)) ∧ W'.cell? ⟨f, 8, none⟩ = some (.int .i64 (baseI P T 1 + 64 * P))) ∧ W'.cell? ⟨f, 10, none⟩ = some (.pointer (some ⟨M, 0, none⟩)) ∧ W'.cell? ⟨M, 0, none⟩ = some (.slice (some ⟨d, 0, none⟩) N N) ∧ W'.cell? ⟨f, 0, none⟩ = some (.int .i64 P))))
          ((first | (with_reducible exact pgS EL.out (by assumption) hc0) | (with_reducible exact pgS EL.out (by assumption) hc1) | (with_reducible exact pgS EL.out (by assumption) hc2) | (with_reducible exact pgS EL.out (by assumption) hc3)))
          (first
            | (go_at_call 26; refine (PM.out _).mono ?_; rintro e w10 ⟨rfl, hb10⟩; have h10 := LaS.grew hSbd hb10; have r1 := las_row h10 p2; have r2 := h10.row.frozen (i2); have h11 := h10.put (i2) x.ma))
        generalize w10.setCell ⟨d, i2, none⟩ (.int .u64 x.ma) = hScW at *
        have hSc := h11
        clear r1 r2 h10 h11 hb10 hSbd hSb
        go_wp2
        go_roundw
        case rel => exact ⟨k + 1, by omega, by go_num, by rw [hsn.out]; exact hSc⟩
        case measure => simp [intOf]; omega
      · have hodd' : (x.odd != 0) = true := by simp [hodd]
        have hz' : x.odd = z := by rw [hz.out, pgW, if_neg hodd]
        clear hodd
        rw [hz'] at hodd' e5
        go_upto_region 14 with fail
        clear hodd' e5
        have hS9d := hS9.drew
        go_wp2_with fail
        go_region_held3 (fun W' => ((W'.cell? ⟨b, o + k * 8 + 6, none⟩ = some (.int .u64 x.al) ∧ W'.cell? ⟨b, o + k * 8 + 7, none⟩ = some (.int .u64 x.ma)) ∧ ((W'.cell? ⟨f, 3, none⟩ = some (.int .i64 P) ∧ W'.cell? ⟨f, 4, none⟩ = some (.int .i64 T) ∧ W'.cell? ⟨f, 5, none⟩ = some (.int .i64 1) ∧ W'.cell? ⟨f, 6, none⟩ = some (.int .i64 (baseI P T 1)) ∧ W'.cell? ⟨f, 7, none⟩ = some (.int .i64 (tabI T 1)) ∧ W'.cell? ⟨f, 8, none⟩ = some (.int .i64 (baseI P T 1 + 64 * P))) ∧ W'.cell? ⟨f, 10, none⟩ = some (.pointer (some ⟨M, 0, none⟩)) ∧ W'.cell? ⟨M, 0, none⟩ = some (.slice (some ⟨d, 0, none⟩) N N) ∧ W'.cell? ⟨f, 0, none⟩ = some (.int .i64 P))))
          ((first | (with_reducible exact pgS EL.out (by assumption) hc0) | (with_reducible exact pgS EL.out (by assumption) hc1) | (with_reducible exact pgS EL.out (by assumption) hc2) | (with_reducible exact pgS EL.out (by assumption) hc3)))
          (first
            | (go_at_call 24; refine (PG.out _).mono ?_; rintro e w10 ⟨rfl, hb10⟩; have h10 := LaS.grew hS9d hb10; have r1 := las_row h10 p0; have r2 := h10.row.frozen (i0); have h11 := h10.put (i0) z))
        generalize w10.setCell ⟨d, i0, none⟩ (.int .u64 z) = hSaW at *
        have hSa := h11
        clear r1 r2 h10 h11 hb10 hS9d hS9
        have hSad := hSa.drew
        go_wp2_with fail
        go_region_held3 (fun W' => ((W'.cell? ⟨b, o + k * 8 + 6, none⟩ = some (.int .u64 x.al) ∧ W'.cell? ⟨b, o + k * 8 + 7, none⟩ = some (.int .u64 x.ma)) ∧ ((W'.cell? ⟨f, 3, none⟩ = some (.int .i64 P) ∧ W'.cell? ⟨f, 4, none⟩ = some (.int .i64 T) ∧ W'.cell? ⟨f, 5, none⟩ = some (.int .i64 1) ∧ W'.cell? ⟨f, 6, none⟩ = some (.int .i64 (baseI P T 1)) ∧ W'.cell? ⟨f, 7, none⟩ = some (.int .i64 (tabI T 1)) ∧ W'.cell? ⟨f, 8, none⟩ = some (.int .i64 (baseI P T 1 + 64 * P))) ∧ W'.cell? ⟨f, 10, none⟩ = some (.pointer (some ⟨M, 0, none⟩)) ∧ W'.cell? ⟨M, 0, none⟩ = some (.slice (some ⟨d, 0, none⟩) N N) ∧ W'.cell? ⟨f, 0, none⟩ = some (.int .i64 P))))
          ((first | (with_reducible exact pgS EL.out (by assumption) hc0) | (with_reducible exact pgS EL.out (by assumption) hc1) | (with_reducible exact pgS EL.out (by assumption) hc2) | (with_reducible exact pgS EL.out (by assumption) hc3)))
          (first
            | (go_at_call 25; refine (PL.out _).mono ?_; rintro e w10 ⟨rfl, hb10⟩; have h10 := LaS.grew hSad hb10; have r1 := las_row h10 p1; have r2 := h10.row.frozen (i1); have h11 := h10.put (i1) x.al))
        generalize w10.setCell ⟨d, i1, none⟩ (.int .u64 x.al) = hSbW at *
        have hSb := h11
        clear r1 r2 h10 h11 hb10 hSad hSa
        have hSbd := hSb.drew
        go_wp2_with fail
        go_region_held3 (fun W' => ((W'.cell? ⟨b, o + k * 8 + 6, none⟩ = some (.int .u64 x.al) ∧ W'.cell? ⟨b, o + k * 8 + 7, none⟩ = some (.int .u64 x.ma)) ∧ ((W'.cell? ⟨f, 3, none⟩ = some (.int .i64 P) ∧ W'.cell? ⟨f, 4, none⟩ = some (.int .i64 T) ∧ W'.cell? ⟨f, 5, none⟩ = some (.int .i64 1) ∧ W'.cell? ⟨f, 6, none⟩ = some (.int .i64 (baseI P T 1)) ∧ W'.cell? ⟨f, 7, none⟩ = some (.int .i64 (tabI T 1)) ∧ W'.cell? ⟨f, 8, none⟩ = some (.int .i64 (baseI P T 1 + 64 * P))) ∧ W'.cell? ⟨f, 10, none⟩ = some (.pointer (some ⟨M, 0, none⟩)) ∧ W'.cell? ⟨M, 0, none⟩ = some (.slice (some ⟨d, 0, none⟩) N N) ∧ W'.cell? ⟨f, 0, none⟩ = some (.int .i64 P))))
          ((first | (with_reducible exact pgS EL.out (by assumption) hc0) | (with_reducible exact pgS EL.out (by assumption) hc1) | (with_reducible exact pgS EL.out (by assumption) hc2) | (with_reducible exact pgS EL.out (by assumption) hc3)))
          (first
            | (go_at_call 26; refine (PM.out _).mono ?_; rintro e w10 ⟨rfl, hb10⟩; have h10 := LaS.grew hSbd hb10; have r1 := las_row h10 p2; have r2 := h10.row.frozen (i2); have h11 := h10.put (i2) x.ma))
        generalize w10.setCell ⟨d, i2, none⟩ (.int .u64 x.ma) = hScW at *
        have hSc := h11
        clear r1 r2 h10 h11 hb10 hSbd hSb
        go_wp2
        go_roundw
        case rel => exact ⟨k + 1, by omega, by go_num, by rw [hsn.out]; exact hSc⟩
        case measure => simp [intOf]; omega
    · have hke : k = min l.length P.toNat := by omega
      have hk9 : ¬ (k : Int) < (l.length : Int) ∨ ((k : Int) < (l.length : Int) ∧ ¬ (k : Int) < P) := by omega
      have c0 := hS.cells.2.2.2
      have hFI : Hid (∃ cs, cs = layK P T l (min l.length P.toNat) ∧ cs.length = N) := Lib.hid ⟨_, rfl, LL.out _⟩
      rw [hke] at hS
      replace hke := Lib.hid hke
      obtain ⟨cs, hcs, hcl⟩ := hFI.out
      rw [← hcs] at hS
      replace hcs := Lib.hid hcs
      clear hFI LL PQ hLK hlt
      rcases hk9 with hk9 | ⟨hk9, hk8⟩
      all_goals
        go_wp2_with fail
        clear c0
        generalize wr = wp at *
        go_loopw [12] (fun i wr => ∃ q : Nat, q ≤ N ∧ i = .int .i64 q ∧ LaS w w.heap.size f M d a c P T cs (cs.take q ++ List.replicate (N - q) 0) wr) (fun i _ => N - (intOf i).toNat)
        case atStart => exact ⟨0, Nat.zero_le _, rfl, by simpa using hS⟩
        case round =>
          clear hS
          obtain ⟨q, hq, rfl, hS⟩ := hrel
          have m10 := hS.cells.2.1
          have m0 := hS.cells.2.2.1
          rw [hcl] at m0
          by_cases hlt : q < N
          · have hq1 : (q : Int) < (N : Int) := by omega
            have hq0 : (0 : Int) ≤ (q : Int) := by omega
            have r1 := las_row hS (q := q) (by omega)
            have PK := Lib.hid (fun W (h : LaS w w.heap.size f M d a c P T cs (cs.take q ++ List.replicate (N - q) 0) W) => h.poke (cs.getD q 0) (i := q) (by simp; omega) (by simp; omega))
            rw [poke_one cs N q hlt hcl] at PK
            have H := Lib.hid hS
            clear hS
            generalize cs.getD q 0 = z at *
            go_wp2_with fail
            refine (PK.out _ H.out).mono ?_; rintro e w9 ⟨rfl, hS9⟩
            clear H m10 m0 r1
            replace hS9 := Lib.hid hS9
            go_wp2
            go_roundw
            case rel => exact ⟨q + 1, by omega, by go_num, hS9.out⟩
            case measure => simp [intOf]; omega
          · have hq1 : ¬ (q : Int) < (N : Int) := by omega
            have hqN : q = N := by omega
            subst hqN
            rw [show cs.take q ++ List.replicate (q - q) 0 = cs from by simp [← hcl]] at hS
            have n11 : wr.cell? ⟨f, 11, none⟩ = some (.pointer none) := hS.fl.val 11 rfl
            have g11 := hS.fl.frozen 11
            go_wp2_with fail
            refine (port_yes a 15 _ (by decide) (by decide)).mono ?_; rintro e w9 ⟨p, rfl, hP9, hp9, hb9⟩
            have n11 : w9.cell? ⟨f, 11, none⟩ = some (.pointer none) := (hS.fl.grew hb9).val 11 rfl
            have g11 := (hS.fl.grew hb9).frozen 11
            have HF := Lib.hid (FiS.of hS hP9 hp9 hb9)
            clear hS hP9
            go_wp2
            go_ret2
            exact ⟨f, M, d, a, c, p, rfl, by rw [← hcs.out]; exact HF.out⟩
end Go.Proofs.YtnodeojeijekcaaGreat
