/- What arena's perform does with an access that may be made, where a log is kept: kinds 4. Condition: the arena's blocks are there, its counts are small. -/
import Derived.Test.YtlhigibgjggidaaGB04
namespace Go.Proofs.Ytlhigibgjggidaa
open Go.RowKit
set_option maxRecDepth 100000 in
set_option maxHeartbeats 4000000 in
theorem perform_log4 (B a c : Nat) (cs : List Int) (lv : Value) (xs : List Value) (m : Nat) (f : Int) (who want put seen left : Int) (i : Nat) (w : World) (hL : ArenaL w B a c cs lv xs m f) (hB : B ≤ w.heap.size) (hn1 : m < 1000000)
    (hi : i < cs.length) :
    Calls Try.prog 98 #[.pointer (some ⟨a, 0, none⟩), .bool true, .agg #[.int .i64 who, .int .i64 4, .int .i64 i, .int .u64 want, .int .u64 put, .int .u64 seen, .int .u64 left]] w
      (PerlPost B a c cs lv xs m f i who 4 want put w) := by
  obtain ⟨i0, hi0, hz0, hz1, hz2⟩ := info_parts info_acc
  have Z := Lib.hid (And.intro hi0 (And.intro hz0 (And.intro hz1 hz2)))
  clear hi0 hz0 hz1 hz2
  have E := Lib.hid (fun W => effect_yes who 4 i want put seen left W (by decide))
  have I := Lib.hid (fun W => inside_yes (show insB cs.length i = true from decide_eq_true ⟨by omega, by omega⟩) (some ⟨c, 0, none⟩) cs.length W)
  have hi0 : (0 : Int) ≤ (i : Int) := by omega
  have hi1 : (i : Int) < (cs.length : Int) := by omega
  obtain ⟨hA, hown, hapa, hapc⟩ := hL
  have la := hA.lt
  have hlvlt : Hid (∀ g, lv.ownBlock = some g → g < w.heap.size) := fun g hg => (hown.lt g hg).2
  have hapa := Lib.hid hapa
  have hapc := Lib.hid hapc
  go_enter Try.func98, Try.ntmps98
  go_wp2_with fail
  refine (E.out _).mono ?_
  rintro e w1 ⟨bw, bp, rfl, hw, hp, hb⟩
  have hA1 := (hA.alloc (.cells #[.int .i64 who, .int .i64 4, .int .i64 i, .int .u64 want, .int .u64 put, .int .u64 seen, .int .u64 left] 57)).grew hb
  have hT := (new_touch (R := fun b => b = a ∨ b = c ∨ lv.ownBlock = some b) w (.cells #[.int .i64 who, .int .i64 4, .int .i64 i, .int .u64 want, .int .u64 put, .int .u64 seen, .int .u64 left] 57)).trans (Touch.of hb)
  have hX := (AccAt.new w who 4 i want put seen left).grew hb
  have hown1 := own_grew (hown.alloc (.cells #[.int .i64 who, .int .i64 4, .int .i64 i, .int .u64 want, .int .u64 put, .int .u64 seen, .int .u64 left] 57)) hb
  have hsz := hT.size
  have hsz2 := hb.size
  rw [World.size_alloc] at hsz2
  clear hb hA E hown
  have hne : ¬ (a = c) := hA1.apart
  have hne2 : ¬ (c = a) := fun h => hne h.symm
  have hne3 : ¬ (a = w.heap.size) := by omega
  have hne4 : ¬ (w.heap.size = a) := by omega
  have hne5 : ¬ (c = w.heap.size) := by omega
  have hne6 : ¬ (w.heap.size = c) := by omega
  have c0 := hA1.c0
  have cc := hA1.cell i hi
  have x2 := hX.c2
  generalize hz : cs.getD i 0 = z at *
  simp only [actF, Int.reduceEq, if_true, if_false]
  go_wp2
  go_quiet ((go_at_call 60; exact qcall (I.out _)))
  clear c0 cc x2
  generalize hv0 : w1.drewN _ = v0
  have hQ0 : Quiet w1 v0 := ⟨_, hv0.symm⟩
  have hA0 := hA1.quiet hQ0
  have hX0 : AccAt v0 w.heap.size who 4 i want put seen left := ⟨hX.blk.quiet hQ0⟩
  clear hv0
  have c0 := hA0.c0
  have cc := hA0.cell i hi
  have x2 := hX0.c2
  rw [hz] at cc
  have Hz := Lib.hid hz
  clear hz
  go_wp2
  go_quiet (fail)
  clear c0 cc x2 hA0 hX0
  generalize hv : v0.drewN _ = v1
  have hQ : Quiet w1 v1 := hQ0.trans ⟨_, hv.symm⟩
  have hA2 := hA1.quiet hQ
  have hX2 : AccAt v1 w.heap.size who 4 i want put seen left := ⟨hX.blk.quiet hQ⟩
  have hT2 := hT.trans (Touch.of (hQ.below))
  have hown2 := hQ.ownsRow hown1
  have hsz3 := (hQ.below (B := 0)).size
  have cw : v1.cell? ⟨bw, 0, none⟩ = some (.int .u64 want) := (hw.quiet hQ).val 0 rfl
  have cp : v1.cell? ⟨bp, 0, none⟩ = some (.int .u64 put) := (hp.quiet hQ).val 0 rfl
  clear hv hQ hA1 hX hT hown1 hw hp
  have c0 := hA2.c0
  have c1 := hA2.c1
  have c3 := hA2.c3
  have f3 := hA2.own.frozen 3
  have cc := hA2.cell i hi
  have fc := hA2.row.frozen i
  have x2 := hX2.c2
  have x5 := hX2.c5
  have x6 := hX2.c6
  have f5 := hX2.blk.frozen 5
  have f6 := hX2.blk.frozen 6
  rw [Hz.out] at cc
  have L := Lib.hid (fun W => left4 z want put bw bp W)
  generalize hy : leftI 4 z want put = y at *
  have Hy := Lib.hid hy
  clear hy
  go_wp2_with fail
  refine (L.out _ (by first | exact cw | (simp only [World.cell?_drewN, cw])) (by first | exact cp | (simp only [World.cell?_drewN, cp]))).mono ?_
  rintro e w2 ⟨rfl, rfl⟩
  go_wp2_with fail
  go_region
  go_wp2_with fail
  have hA3 := ((hA2.stored i y).counted ((m : Int) + 1))
  have hX3 : AccAt (((((v1).setCell ⟨c, i, none⟩ (.int .u64 y)).setCell ⟨a, 3, none⟩ (.int .i64 ((m : Int) + 1))).setCell ⟨w.heap.size, 5, none⟩ (.int .u64 z)).setCell ⟨w.heap.size, 6, none⟩ (.int .u64 y)).drew w.heap.size who 4 i want put z y :=
    ⟨((((hX2.blk.other _ _ hne6).other _ _ hne4).set 5 _).set 6 _).drew⟩
  have hA4 : ArenaAt (((((v1).setCell ⟨c, i, none⟩ (.int .u64 y)).setCell ⟨a, 3, none⟩ (.int .i64 ((m : Int) + 1))).setCell ⟨w.heap.size, 5, none⟩ (.int .u64 z)).setCell ⟨w.heap.size, 6, none⟩ (.int .u64 y)).drew a c (cs.set i y) true lv ((m : Int) + 1) f :=
    ⟨(hA3.own.other _ _ hne3).other _ _ hne3, (hA3.row.other _ _ hne5).other _ _ hne5, hne⟩
  have hT4 : Touch (fun b => b = a ∨ b = c ∨ lv.ownBlock = some b) w (((((v1).setCell ⟨c, i, none⟩ (.int .u64 y)).setCell ⟨a, 3, none⟩ (.int .i64 ((m : Int) + 1))).setCell ⟨w.heap.size, 5, none⟩ (.int .u64 z)).setCell ⟨w.heap.size, 6, none⟩ (.int .u64 y)).drew :=
    ((((hT2.setCell (.inr (.inl rfl)) _).setCell (.inl rfl) _).setNew (Nat.le_refl _) _).setNew (Nat.le_refl _) _).drew
  have hown4 : ((((((v1).setCell ⟨c, i, none⟩ (.int .u64 y)).setCell ⟨a, 3, none⟩ (.int .i64 ((m : Int) + 1))).setCell ⟨w.heap.size, 5, none⟩ (.int .u64 z)).setCell ⟨w.heap.size, 6, none⟩ (.int .u64 y)).drew).ownsRow B 57 7 lv m xs :=
    Quiet.ownsRow ⟨1, rfl⟩ (own_other (own_other (own_other (own_other (hown2) hapc.out) hapa.out) (fun e => Nat.lt_irrefl _ (hlvlt.out _ e))) (fun e => Nat.lt_irrefl _ (hlvlt.out _ e)))
  clear c0 c1 c3 f3 cc fc x2 x5 x6 f5 f6 cw cp L hA2 hX2 hT2 hown2 hA3
  generalize (((((v1).setCell ⟨c, i, none⟩ (.int .u64 y)).setCell ⟨a, 3, none⟩ (.int .i64 ((m : Int) + 1))).setCell ⟨w.heap.size, 5, none⟩ (.int .u64 z)).setCell ⟨w.heap.size, 6, none⟩ (.int .u64 y)).drew = v2 at *
  have hsz4 := hT4.size
  have c2 := hA4.c2
  have f2 := hA4.own.frozen 2
  have x0 := hX3.c0
  have x1 := hX3.c1
  have x2 := hX3.c2
  have x3 := hX3.c3
  have x4 := hX3.c4
  have x5 := hX3.c5
  have x6 := hX3.c6
  have la4 := hA4.lt
  have lx4 := hX3.blk.lt
  go_region_law ((refine step_append_lies _ (by rfl) _ _ _ (by rfl) B 57 i0 _ 7 56 Try.underlying34 Z.out.1 Z.out.2.1 Z.out.2.2.1 Z.out.2.2.2 rfl (by omega) lv m xs (by rfl) (Quiet.ownsRow ⟨1, rfl⟩ (hown4.alloc _)) ⟨v2.heap.size, 0, none⟩ 1 1 (accV who 4 i want put z y) (by rfl) (by rfl) (World.news_of_block (cs := #[.int .i64 who, .int .i64 4, .int .i64 i, .int .u64 want, .int .u64 put, .int .u64 z, .int .u64 y]) (t := 57) (fr := (0, 0)) (heap_alloc_new v2 _)) (by simp [accV, Value.oneCell']) (by omega) (by unfold maxLen; omega) (by omega) (by simp; omega) (v2.heap.size + 1) (by simp) ?_; intro g cap w5 hown5 hgrow hat hlt; have k2 := (hgrow.cell_far ⟨a, 2, none⟩ ((hA4.alloc _).drew).lt.1 (Ne.symm hapa.out)).trans ((hA4.alloc _).drew).c2; have kf := (hgrow.frozen_far ⟨a, 2, none⟩ ((hA4.alloc _).drew).lt.1 (Ne.symm hapa.out)).trans (((hA4.alloc _).drew).own.frozen 2)))
  all_goals
    go_wp2
    go_ret2
    have hT5 := ((hT4.alloc _).drew).grown hgrow (fun k hk => .inl (.inr (.inr hk)))
    have hA5 := ((hA4.alloc _).drew).grownBy hgrow hapa.out hapc.out
    have hga : (Value.slice (some ⟨g, 0, none⟩) (m + 1) cap).ownBlock ≠ some a := fun e => by
      have e1 : g = a := Option.some.inj e
      rcases hat with h | h
      · exact hapa.out (by rw [h, e1])
      · omega
    have hgc : (Value.slice (some ⟨g, 0, none⟩) (m + 1) cap).ownBlock ≠ some c := fun e => by
      have e1 : g = c := Option.some.inj e
      rcases hat with h | h
      · exact hapc.out (by rw [h, e1])
      · omega
    exact ⟨by rw [Hz.out]; rfl, .slice (some ⟨g, 0, none⟩) (m + 1) cap, by rw [Hz.out, Hy.out]; exact ⟨hA5.logged _, own_other hown5 hga, hga, hgc⟩, fun g' e => by
      have e1 : g = g' := Option.some.inj e
      rcases hat with h | h
      · exact .inl (by rw [h, e1])
      · exact .inr (by omega), hT5.setCell (.inl rfl) _⟩
end Go.Proofs.Ytlhigibgjggidaa
