/- The sweep of package pages: what take, compare, release and last leave of it. No condition but that the blocks are there. -/
import Derived.Deep.CutBlock
import Derived.Deep.DeepCutAuto
import Derived.Test.YtnodeojeijekcaaGreatGB20
namespace Go.Proofs.YtnodeojeijekcaaGreat
open Go.RowKit
set_option linter.unusedVariables false
section
variable {τ : TypeId} {w0 w w' : World} {B a c p m b : Nat} {V : Array Value} {σ : Sw} {cs : List Int} {xs : List Value} {n : Nat} {K : List Nat} {who : Int} {o : Bool}
/-- a block that came later is none of the arena's own -/
theorem MaS.addK (h : MaS τ w0 B a c p m V cs xs n K who o w) (hb : Below w.heap.size w w') (h1 : w.heap.size ≤ b) (h2 : b < w'.heap.size) : MaS τ w0 B a c p m V cs xs n (b :: K) who o w' := by
  have g := h.grew hb
  refine ⟨g.mach, h.arx.add hb h1 h2, g.port, g.touch.mono fun k hk e => ?_⟩
  have := h.touch.size
  rcases e with e | e | ⟨e, f⟩
  · exact .inl e
  · exact .inr (.inl e)
  · refine .inr (.inr ⟨e, ?_⟩)
    rw [List.mem_cons]
    rintro (r | r)
    · omega
    · exact f r
theorem MaS.subK (h : MaS τ w0 B a c p m V cs xs n (b :: K) who o w) : MaS τ w0 B a c p m V cs xs n K who o w := by
  refine ⟨h.mach, h.arx.sub (fun b hb => List.mem_cons_of_mem _ hb), h.port, h.touch.mono fun k hk e => ?_⟩
  rcases e with e | e | ⟨e, f⟩
  · exact .inl e
  · exact .inr (.inl e)
  · exact .inr (.inr ⟨e, fun r => f (List.mem_cons_of_mem _ r)⟩)
def relN (e : Bool) : Int := if e then 10 else 9
theorem MaR.cons (h : MaR p m K) (b : Nat) : MaR p m (b :: K) := ⟨h.mp, List.mem_cons_of_mem _ h.hm, List.mem_cons_of_mem _ h.hp⟩
set_option maxRecDepth 100000 in
set_option maxHeartbeats 1000000 in
theorem swRelease (h : SwS w0 B a c p m σ cs xs n K who o w) (hr : MaR p m K) (e : Bool) (he : (σ.kp == 0 && decide (0 < σ.tl)) = e) :
    Calls Tryz.prog 55 #[.pointer (some ⟨m, 0, none⟩)] w fun e' w' => (∃ v, e' = .returned v) ∧ SwS w0 B a c p m { σ with nx := relN e } cs xs n K who o w' := by
  obtain ⟨P, T, R, whoo, cyc, pg, nx, seen, k, c', s, oo, y, ma, al, kp, tl, sw, bl⟩ := σ
  dsimp only at *
  have n6 : w.cell? ⟨m, 6, none⟩ = some (.int .i64 nx) := h.mach.val 6 rfl
  have f6 := h.mach.frozen 6
  have h1 : SwS w0 B a c p m ⟨P, T, R, whoo, cyc, pg, 9, seen, k, c', s, oo, y, ma, al, kp, tl, sw, bl⟩ cs xs n K who o (w.setCell ⟨m, 6, none⟩ (.int .i64 9)) := h.set hr 6 _
  clear h
  cases h0 : (kp == 0) with
  | false =>
    rw [h0, Bool.false_and] at he
    subst he
    go_enter Tryz.func55, Tryz.ntmps55
    go_upto_region 1 with fail
    generalize w.setCell ⟨m, 6, none⟩ (.int .i64 9) = W1 at *
    have n15 : W1.cell? ⟨m, 15, none⟩ = some (.int .u64 kp) := h1.mach.val 15 rfl
    have H := Lib.hid h1
    clear h1 n6 f6
    go_wp2
    go_end0
    exact ⟨⟨_, rfl⟩, H.out⟩
  | true =>
    rw [h0, Bool.true_and] at he
    by_cases ht : 0 < tl
    · rw [decide_eq_true ht] at he
      subst he
      go_enter Tryz.func55, Tryz.ntmps55
      go_upto_region 1 with fail
      generalize w.setCell ⟨m, 6, none⟩ (.int .i64 9) = W1 at *
      have n15 : W1.cell? ⟨m, 15, none⟩ = some (.int .u64 kp) := h1.mach.val 15 rfl
      have n16 : W1.cell? ⟨m, 16, none⟩ = some (.int .i64 tl) := h1.mach.val 16 rfl
      have n6' : W1.cell? ⟨m, 6, none⟩ = some (.int .i64 9) := h1.mach.val 6 rfl
      have f6' := h1.mach.frozen 6
      have H := Lib.hid (h1.set hr 6 (.int .i64 10))
      clear h1 n6 f6
      go_wp2
      go_end0
      exact ⟨⟨_, rfl⟩, H.out⟩
    · rw [decide_eq_false ht] at he
      subst he
      go_enter Tryz.func55, Tryz.ntmps55
      go_upto_region 1 with fail
      generalize w.setCell ⟨m, 6, none⟩ (.int .i64 9) = W1 at *
      have n15 : W1.cell? ⟨m, 15, none⟩ = some (.int .u64 kp) := h1.mach.val 15 rfl
      have n16 : W1.cell? ⟨m, 16, none⟩ = some (.int .i64 tl) := h1.mach.val 16 rfl
      have H := Lib.hid h1
      clear h1 n6 f6
      go_wp2
      go_end0
      exact ⟨⟨_, rfl⟩, H.out⟩
set_option maxRecDepth 100000 in
set_option maxHeartbeats 1000000 in
theorem swCompare_small (h : SwS w0 B a c p m σ cs xs n K who o w) (hr : MaR p m K) (z : Int) (hk : (σ.k == 2) = false) :
    Calls Tryz.prog 52 #[.pointer (some ⟨m, 0, none⟩), .int .u64 z] w fun e' w' => (∃ v, e' = .returned v) ∧ SwS w0 B a c p m { σ with al := z, kp := bits .and .u64 z σ.ma, nx := 6 } cs xs n K who o w' := by
  obtain ⟨P, T, R, whoo, cyc, pg, nx, seen, k, c', s, oo, y, ma, al, kp, tl, sw, bl⟩ := σ
  dsimp only at *
  have n13 : w.cell? ⟨m, 13, none⟩ = some (.int .u64 ma) := h.mach.val 13 rfl
  have n14 : w.cell? ⟨m, 14, none⟩ = some (.int .u64 al) := h.mach.val 14 rfl
  have n15 : w.cell? ⟨m, 15, none⟩ = some (.int .u64 kp) := h.mach.val 15 rfl
  have f14 := h.mach.frozen 14
  have f15 := h.mach.frozen 15
  have h1 : SwS w0 B a c p m ⟨P, T, R, whoo, cyc, pg, nx, seen, k, c', s, oo, y, ma, z, bits .and .u64 z ma, tl, sw, bl⟩ cs xs n K who o ((w.setCell ⟨m, 14, none⟩ (.int .u64 z)).setCell ⟨m, 15, none⟩ (.int .u64 (bits .and .u64 z ma))) := (h.set hr 14 _).set hr 15 _
  clear h
  go_enter Tryz.func52, Tryz.ntmps52
  go_upto_region 1 with fail
  generalize (w.setCell ⟨m, 14, none⟩ (.int .u64 z)).setCell ⟨m, 15, none⟩ (.int .u64 (bits .and .u64 z ma)) = W1 at *
  have n8 : W1.cell? ⟨m, 8, none⟩ = some (.int .i64 k) := h1.mach.val 8 rfl
  have n6 : W1.cell? ⟨m, 6, none⟩ = some (.int .i64 nx) := h1.mach.val 6 rfl
  have f6 := h1.mach.frozen 6
  have H := Lib.hid (h1.set hr 6 (.int .i64 6))
  clear h1 n13 n14 n15 f14 f15
  go_wp2
  go_end0
  exact ⟨⟨_, rfl⟩, H.out⟩
set_option maxRecDepth 100000 in
set_option maxHeartbeats 1000000 in
theorem swCompare_large (h : SwS w0 B a c p m σ cs xs n K who o w) (hr : MaR p m K) (z : Int) (hk : σ.k = 2) (hc : 1 ≤ σ.c ∧ σ.c ≤ 15) :
    Calls Tryz.prog 52 #[.pointer (some ⟨m, 0, none⟩), .int .u64 z] w fun e' w' => (∃ v, e' = .returned v) ∧ SwS w0 B a c p m { σ with al := z, kp := bits .and .u64 (bits .and .u64 z σ.ma) 1, tl := σ.c - 1, nx := 6 } cs xs n K who o w' := by
  obtain ⟨P, T, R, whoo, cyc, pg, nx, seen, k, c', s, oo, y, ma, al, kp, tl, sw, bl⟩ := σ
  dsimp only at *
  subst hk
  have n13 : w.cell? ⟨m, 13, none⟩ = some (.int .u64 ma) := h.mach.val 13 rfl
  have n14 : w.cell? ⟨m, 14, none⟩ = some (.int .u64 al) := h.mach.val 14 rfl
  have n15 : w.cell? ⟨m, 15, none⟩ = some (.int .u64 kp) := h.mach.val 15 rfl
  have f14 := h.mach.frozen 14
  have f15 := h.mach.frozen 15
  have h1 : SwS w0 B a c p m ⟨P, T, R, whoo, cyc, pg, nx, seen, 2, c', s, oo, y, ma, z, bits .and .u64 z ma, tl, sw, bl⟩ cs xs n K who o ((w.setCell ⟨m, 14, none⟩ (.int .u64 z)).setCell ⟨m, 15, none⟩ (.int .u64 (bits .and .u64 z ma))) := (h.set hr 14 _).set hr 15 _
  clear h
  go_enter Tryz.func52, Tryz.ntmps52
  go_upto_region 1 with fail
  generalize (w.setCell ⟨m, 14, none⟩ (.int .u64 z)).setCell ⟨m, 15, none⟩ (.int .u64 (bits .and .u64 z ma)) = W1 at *
  have n8 : W1.cell? ⟨m, 8, none⟩ = some (.int .i64 2) := h1.mach.val 8 rfl
  have n15' : W1.cell? ⟨m, 15, none⟩ = some (.int .u64 (bits .and .u64 z ma)) := h1.mach.val 15 rfl
  have f15' := h1.mach.frozen 15
  have h2 := h1.set hr 15 (.int .u64 (bits .and .u64 (bits .and .u64 z ma) 1))
  clear h1 n13 n14 n15 f14 f15
  go_upto_region 3 with fail
  generalize W1.setCell ⟨m, 15, none⟩ (.int .u64 (bits .and .u64 (bits .and .u64 z ma) 1)) = W2 at *
  have n9 : W2.cell? ⟨m, 9, none⟩ = some (.int .i64 c') := h2.mach.val 9 rfl
  have n16 : W2.cell? ⟨m, 16, none⟩ = some (.int .i64 tl) := h2.mach.val 16 rfl
  have f16 := h2.mach.frozen 16
  have h3 := h2.set hr 16 (.int .i64 (c' - 1))
  have hw : wrap64 (c' - 1) = c' - 1 := IntWalk.wrap64_in _ (by omega)
  clear h2 n8 n15' f15'
  go_upto_region 4 with fail
  generalize W2.setCell ⟨m, 16, none⟩ (.int .i64 (c' - 1)) = W3 at *
  have n6 : W3.cell? ⟨m, 6, none⟩ = some (.int .i64 nx) := h3.mach.val 6 rfl
  have f6 := h3.mach.frozen 6
  have H := Lib.hid (h3.set hr 6 (.int .i64 6))
  clear h3
  go_wp2
  go_end0
  exact ⟨⟨_, rfl⟩, H.out⟩
theorem given_yes {k c s o y cy : Int} (w : World) (h : gvB k c s o y cy = true) :
    Calls Tryz.prog 80 #[.agg #[.int .i64 k, .int .i64 c, .int .i64 s, .int .i64 o, .int .i64 y], .int .i64 cy] w fun e w' => e = .returned (.tuple #[.agg #[.int .i64 k, .int .i64 c, .int .i64 0, .int .i64 0, .int .i64 cy], .int .i64 0]) ∧ Below w.heap.size w w' := by
  have := given_any k c s o y cy w
  rw [h] at this
  exact this
theorem given_no {k c s o y cy : Int} (w : World) (h : gvB k c s o y cy = false) :
    Calls Tryz.prog 80 #[.agg #[.int .i64 k, .int .i64 c, .int .i64 s, .int .i64 o, .int .i64 y], .int .i64 cy] w fun e w' => e = .returned (.tuple #[.agg #[.int .i64 0, .int .i64 0, .int .i64 0, .int .i64 0, .int .i64 0], .int .i64 4]) ∧ Below w.heap.size w w' := by
  have := given_any k c s o y cy w
  rw [h] at this
  exact this
theorem taken_yes {k c s o y st ow : Int} (w : World) (h : tkB k c s o y st ow = true) :
    Calls Tryz.prog 77 #[.agg #[.int .i64 k, .int .i64 c, .int .i64 s, .int .i64 o, .int .i64 y], .int .i64 st, .int .i64 ow] w fun e w' => e = .returned (.tuple #[.agg #[.int .i64 k, .int .i64 c, .int .i64 st, .int .i64 ow, .int .i64 y], .int .i64 0]) ∧ Below w.heap.size w w' := by
  have := taken_any k c s o y st ow w
  rw [h] at this
  exact this
theorem Blk.set5 {w : World} {b : Nat} {v0 v1 v2 v3 v4 : Value} {t : TypeId} {u0 u1 u2 u3 u4 : Value} (h : Blk w b #[v0, v1, v2, v3, v4] t) : Blk (((((w.setCell ⟨b, 0, none⟩ u0).setCell ⟨b, 1, none⟩ u1).setCell ⟨b, 2, none⟩ u2).setCell ⟨b, 3, none⟩ u3).setCell ⟨b, 4, none⟩ u4) b #[u0, u1, u2, u3, u4] t :=
  ((((h.set 0 u0).set 1 u1).set 2 u2).set 3 u3).set 4 u4
theorem bxA {w w3 : World} {vs : Array Value} {t : TypeId} (hb : Below (w.alloc (.cells vs t)).drew.heap.size (w.alloc (.cells vs t)).drew w3) : Blk w3 w.heap.size vs t ∧ Below w.heap.size w w3 ∧ ∀ m V τ, Blk w m V τ → Blk w3 m V τ := by
  have h0 : Below w.heap.size w (w.alloc (.cells vs t)).drew := ((Below.refl w.heap.size w).alloc (Nat.le_refl _) (.cells vs t)).drew
  exact ⟨Blk.grew (Blk.drew (Blk.new w vs t)) hb, h0.trans (hb.mono h0.size), fun m V τ h => Blk.grew (Blk.drew (Blk.alloc h _)) hb⟩
theorem bxB {w w3 : World} (hb : Below w.drew.heap.size w.drew w3) : Below w.heap.size w w3 ∧ ∀ m V τ, Blk w m V τ → Blk w3 m V τ :=
  ⟨((Below.refl w.heap.size w).drew).trans hb, fun m V τ h => Blk.grew (Blk.drew h) hb⟩
theorem swEC {w : World} {m : Nat} {σ : Sw} (h : Blk w m σ.V 85) : (w.cell? ⟨m, 8, none⟩ = some (.int .i64 σ.k) ∧ w.cell? ⟨m, 9, none⟩ = some (.int .i64 σ.c) ∧ w.cell? ⟨m, 10, none⟩ = some (.int .i64 σ.s) ∧ w.cell? ⟨m, 11, none⟩ = some (.int .i64 σ.o) ∧ w.cell? ⟨m, 12, none⟩ = some (.int .i64 σ.y)) ∧ w.cell? ⟨m, 4, none⟩ = some (.int .i64 σ.cyc) := ⟨Sw.ent h, h.val 4 rfl⟩
set_option maxRecDepth 100000 in
set_option maxHeartbeats 1000000 in
theorem swLast_zero (h : SwS w0 B a c p m σ cs xs n K who o w) (hk : σ.kp = 0) :
    Calls Tryz.prog 56 #[.pointer (some ⟨m, 0, none⟩)] w fun e' w' => e' = .returned (.int .u64 0) ∧ SwS w0 B a c p m σ cs xs n K who o w' := by
  have n15 : w.cell? ⟨m, 15, none⟩ = some (.int .u64 0) := by rw [← hk]; exact h.mach.val 15 rfl
  have H := Lib.hid h
  clear h hk
  go_enter Tryz.func56, Tryz.ntmps56
  go_wp2
  go_ret
  exact ⟨rfl, H.out⟩
set_option maxRecDepth 100000 in
set_option maxHeartbeats 2000000 in
theorem swLast_some (h : SwS w0 B a c p m σ cs xs n K who o w) (hk : (σ.kp == 0) = false) (hg : gvB σ.k σ.c σ.s σ.o σ.y σ.cyc = true) :
    Calls Tryz.prog 56 #[.pointer (some ⟨m, 0, none⟩)] w fun e' w' => e' = .returned (.int .u64 (encE σ.k σ.c 0 0 σ.cyc)) ∧ SwS w0 B a c p m σ cs xs n K who o w' := by
  have n15 : w.cell? ⟨m, 15, none⟩ = some (.int .u64 σ.kp) := h.mach.val 15 rfl
  have n4 : w.cell? ⟨m, 4, none⟩ = some (.int .i64 σ.cyc) := h.mach.val 4 rfl
  obtain ⟨x0, x1, x2, x3, x4⟩ := Sw.ent h.mach
  have G := Lib.hid (fun W => given_yes W hg)
  have hg2 : entB σ.k σ.c 0 0 σ.cyc = true := by
    unfold gvB at hg
    rw [Bool.and_eq_true, Bool.and_eq_true] at hg
    exact hg.2.2
  have WO := Lib.hid (fun W => wordOf_yes σ.k σ.c 0 0 σ.cyc W hg2)
  have HG := Lib.hid (fun W (hb : Below w.heap.size w W) => h.grew hb)
  have hm := h.mach
  have hml := hm.lt
  clear h hg hg2
  go_enter Tryz.func56, Tryz.ntmps56
  go_upto_region 3 with fail
  go_cut [3, 4] from 10 to 21 (fun s3 s4 wx => (∃ v, s4 = v) ∧ ∃ b, s3 = .pointer (some ⟨b, 0, none⟩) ∧ Blk wx b #[.int .i64 σ.k, .int .i64 σ.c, .int .i64 0, .int .i64 0, .int .i64 σ.cyc] 83 ∧ Below w.heap.size w wx)
  case first =>
    go_region_held3 (fun W' => ((W'.cell? ⟨m, 8, none⟩ = some (.int .i64 σ.k) ∧ W'.cell? ⟨m, 9, none⟩ = some (.int .i64 σ.c) ∧ W'.cell? ⟨m, 10, none⟩ = some (.int .i64 σ.s) ∧ W'.cell? ⟨m, 11, none⟩ = some (.int .i64 σ.o) ∧ W'.cell? ⟨m, 12, none⟩ = some (.int .i64 σ.y)) ∧ W'.cell? ⟨m, 4, none⟩ = some (.int .i64 σ.cyc)))
      ((refine swEC (σ := σ) ?_; repeat (first | (with_reducible exact hm) | (with_reducible exact hm3) | (with_reducible refine Blk.alloc ?_ _) | (with_reducible refine Blk.drew ?_) | (with_reducible refine Blk.other ?_ _ _ (by first | (simp; omega) | omega)))))
      (first | (go_at_call 80; refine (G.out _).mono ?_; rintro e w3 ⟨rfl, hb3⟩; first
        | (obtain ⟨hbx, hb9, hk9⟩ := bxA hb3; obtain ⟨b0, b1, b2, b3, b4⟩ := hbx.five; have c0 := hbx.frozen 0; have c1 := hbx.frozen 1; have c2 := hbx.frozen 2; have c3 := hbx.frozen 3; have c4 := hbx.frozen 4; have hm3 := hk9 m _ _ hm)
        | (obtain ⟨hb9, hk9⟩ := bxB hb3; have hm3 := hk9 m _ _ hm)))
    all_goals
      go_wp2
      go_meet
      case rel =>
        first
          | (with_reducible refine ⟨⟨_, rfl⟩, _, rfl, Blk.new' rfl, hb9.alloc hb9.size _⟩)
          | (with_reducible refine ⟨⟨_, rfl⟩, _, rfl, Blk.set5 hbx, below_store5 hb9 (Nat.le_refl _) _ _ _ _ _⟩)
  clear n15 n4 x0 x1 x2 x3 x4 G
  obtain ⟨_, b, rfl, hX, hbw⟩ := hcut
  obtain ⟨y0, y1, y2, y3, y4⟩ := hX.five
  go_wp2_with fail
  refine (WO.out _).mono ?_
  rintro e w5 ⟨rfl, hb5⟩
  go_wp2
  go_ret
  exact ⟨rfl, HG.out _ (hbw.trans (hb5.mono hbw.size))⟩
theorem swTC {w : World} {m : Nat} {σ : Sw} (h : Blk w m σ.V 85) : (w.cell? ⟨m, 8, none⟩ = some (.int .i64 σ.k) ∧ w.cell? ⟨m, 9, none⟩ = some (.int .i64 σ.c) ∧ w.cell? ⟨m, 10, none⟩ = some (.int .i64 σ.s) ∧ w.cell? ⟨m, 11, none⟩ = some (.int .i64 σ.o) ∧ w.cell? ⟨m, 12, none⟩ = some (.int .i64 σ.y)) ∧ w.cell? ⟨m, 3, none⟩ = some (.int .i64 σ.who) := ⟨Sw.ent h, h.val 3 rfl⟩
theorem swPC {w : World} {m : Nat} {σ : Sw} (h : Blk w m σ.V 85) : w.cell? ⟨m, 0, none⟩ = some (.int .i64 σ.P) ∧ w.cell? ⟨m, 1, none⟩ = some (.int .i64 σ.T) ∧ w.cell? ⟨m, 2, none⟩ = some (.int .i64 σ.R) ∧ w.cell? ⟨m, 5, none⟩ = some (.int .i64 σ.pg) ∧ w.cell? ⟨m, 7, none⟩ = some (.int .u64 σ.seen) := ⟨h.val 0 rfl, h.val 1 rfl, h.val 2 rfl, h.val 5 rfl, h.val 7 rfl⟩
/-- the machine, and the box of the entry that it takes the page with -/
structure TkS (w0 : World) (B a c p m b : Nat) (σ : Sw) (cs : List Int) (xs : List Value) (n : Nat) (K : List Nat) (who : Int) (o : Bool) (w : World) : Prop where
  ma : SwS w0 B a c p m σ cs xs n K who o w
  box : Blk w b #[.int .i64 σ.k, .int .i64 σ.c, .int .i64 2, .int .i64 σ.who, .int .i64 σ.y] 83
theorem TkS.grew (h : TkS w0 B a c p m b σ cs xs n K who o w) (hb : Below w.heap.size w w') : TkS w0 B a c p m b σ cs xs n K who o w' := ⟨h.ma.grew hb, h.box.grew hb⟩
theorem TkS.drew (h : TkS w0 B a c p m b σ cs xs n K who o w) : TkS w0 B a c p m b σ cs xs n K who o w.drew := ⟨h.ma.drew, h.box.drew⟩
theorem TkS.cells (h : TkS w0 B a c p m b σ cs xs n K who o w) : (w.cell? ⟨m, 0, none⟩ = some (.int .i64 σ.P) ∧ w.cell? ⟨m, 1, none⟩ = some (.int .i64 σ.T) ∧ w.cell? ⟨m, 2, none⟩ = some (.int .i64 σ.R) ∧ w.cell? ⟨m, 5, none⟩ = some (.int .i64 σ.pg) ∧ w.cell? ⟨m, 7, none⟩ = some (.int .u64 σ.seen)) ∧ (w.cell? ⟨b, 0, none⟩ = some (.int .i64 σ.k) ∧ w.cell? ⟨b, 1, none⟩ = some (.int .i64 σ.c) ∧ w.cell? ⟨b, 2, none⟩ = some (.int .i64 2) ∧ w.cell? ⟨b, 3, none⟩ = some (.int .i64 σ.who) ∧ w.cell? ⟨b, 4, none⟩ = some (.int .i64 σ.y)) := ⟨swPC h.ma.mach, h.box.five⟩
theorem TkS.cas {i : Nat} (x : Int) (h : TkS w0 B a c p m b σ cs xs n (b :: K) who true w) (hr : MaR p m (b :: K)) (hn : n < 1000000) (hi : i < cs.length) :
    Calls Tryz.prog 78 #[.pointer (some ⟨p, 0, none⟩), .int .i64 i, .int .u64 σ.seen, .int .u64 x] w fun e w' => (e = .returned (.bool (cs.getD i 0 == σ.seen))) ∧ TkS w0 B a c p m b σ (cs.set i (casI (cs.getD i 0) σ.seen x)) (xs ++ accV who 4 i σ.seen x (cs.getD i 0) (casI (cs.getD i 0) σ.seen x)) (n + 1) (b :: K) who false w' := by
  have hbp : b ≠ p := fun e => by
    have h1 := h.box
    have h2 := h.ma.port
    rw [e] at h1
    unfold PortAt at h2
    unfold Blk at h1 h2
    rw [h1] at h2
    injection h2 with h2
    injection h2 with h2 h3
    exact absurd h3 (by decide)
  refine (cas_x σ.seen x h.ma.arx h.ma.port hr.hp hn hi).mono fun e w' ⟨he, hs⟩ => ⟨he, ?_, ?_⟩
  · exact h.ma.stepped hr hs
  · exact h.box.touch hs.2.2 (fun r => r.elim hbp (fun r => r.2 List.mem_cons_self))
def takS (b : Bool) (σ : Sw) : Sw := if b then { σ with nx := 4 } else { σ with nx := 0, bl := true }
set_option maxRecDepth 100000 in
set_option maxHeartbeats 4000000 in
theorem swTake {i : Nat} (z z' E : Int) (bz : Bool) (hzi : cs.getD i 0 = z) (hE : encE σ.k σ.c 2 σ.who σ.y = E) (hz' : casI z σ.seen E = z') (hz : (z == σ.seen) = bz) (h : SwS w0 B a c p m σ cs xs n K who true w) (hr : MaR p m K) (hn : n < 1000000) (hi : rowI σ.P σ.T σ.R 0 σ.pg = (i : Int)) (hc : i < cs.length) (hg : tkB σ.k σ.c σ.s σ.o σ.y 2 σ.who = true) :
    Calls Tryz.prog 50 #[.pointer (some ⟨m, 0, none⟩), .pointer (some ⟨p, 0, none⟩)] w fun e' w' => (∃ v, e' = .returned v) ∧ SwS w0 B a c p m (takS bz σ) (cs.set i z') (xs ++ accV who 4 i σ.seen E z z') (n + 1) K who false w' := by
  obtain ⟨x0, x1, x2, x3, x4⟩ := Sw.ent h.mach
  have n3 : w.cell? ⟨m, 3, none⟩ = some (.int .i64 σ.who) := h.mach.val 3 rfl
  have G := Lib.hid (fun W => taken_yes W hg)
  have hg2 : entB σ.k σ.c 2 σ.who σ.y = true := by
    unfold tkB at hg
    rw [Bool.and_eq_true] at hg
    exact hg.2
  have WO := Lib.hid (fun W => wordOf_yes σ.k σ.c 2 σ.who σ.y W hg2)
  have EN := Lib.hid (fun W => entry_anyLayc σ.P σ.T σ.R σ.pg W)
  rw [hi] at EN
  have HG := Lib.hid (fun W (hb : Below w.heap.size w W) b (h1 : w.heap.size ≤ b) (h2 : b < W.heap.size) => h.addK hb h1 h2)
  have hm := h.mach
  have hml := hm.lt
  clear h hg hg2 hi
  go_enter Tryz.func50, Tryz.ntmps50
  go_upto_region 0 with fail
  go_cut [4, 5] from 6 to 17 (fun s4 s5 wx => (∃ v, s5 = v) ∧ ∃ b, s4 = .pointer (some ⟨b, 0, none⟩) ∧ Blk wx b #[.int .i64 σ.k, .int .i64 σ.c, .int .i64 2, .int .i64 σ.who, .int .i64 σ.y] 83 ∧ Below w.heap.size w wx ∧ w.heap.size ≤ b)
  case first =>
    go_region_held3 (fun W' => ((W'.cell? ⟨m, 8, none⟩ = some (.int .i64 σ.k) ∧ W'.cell? ⟨m, 9, none⟩ = some (.int .i64 σ.c) ∧ W'.cell? ⟨m, 10, none⟩ = some (.int .i64 σ.s) ∧ W'.cell? ⟨m, 11, none⟩ = some (.int .i64 σ.o) ∧ W'.cell? ⟨m, 12, none⟩ = some (.int .i64 σ.y)) ∧ W'.cell? ⟨m, 3, none⟩ = some (.int .i64 σ.who)))
      ((refine swTC (σ := σ) ?_; repeat (first | (with_reducible exact hm) | (with_reducible exact hm3) | (with_reducible refine Blk.alloc ?_ _) | (with_reducible refine Blk.drew ?_) | (with_reducible refine Blk.other ?_ _ _ (by first | (simp; omega) | omega)))))
      (first | (go_at_call 77; refine (G.out _).mono ?_; rintro e w3 ⟨rfl, hb3⟩; first
        | (obtain ⟨hbx, hb9, hk9⟩ := bxA hb3; obtain ⟨b0, b1, b2, b3, b4⟩ := hbx.five; have c0 := hbx.frozen 0; have c1 := hbx.frozen 1; have c2 := hbx.frozen 2; have c3 := hbx.frozen 3; have c4 := hbx.frozen 4; have hm3 := hk9 m _ _ hm)
        | (obtain ⟨hb9, hk9⟩ := bxB hb3; have hm3 := hk9 m _ _ hm)))
    all_goals
      go_wp2
      go_meet
      case rel =>
        first
          | (with_reducible refine ⟨⟨_, rfl⟩, _, rfl, Blk.new' rfl, hb9.alloc hb9.size _, hb9.size⟩)
          | (with_reducible refine ⟨⟨_, rfl⟩, _, rfl, Blk.set5 hbx, below_store5 hb9 (Nat.le_refl _) _ _ _ _ _, Nat.le_refl _⟩)
  clear n3 x0 x1 x2 x3 x4 G hm hml
  obtain ⟨_, b, rfl, hX, hbw, hbl⟩ := hcut
  have hS : TkS w0 B a c p m b σ cs xs n (b :: K) who true wc := ⟨HG.out _ hbw b hbl hX.lt, hX⟩
  have hS0 := hS.drew
  have hr' := hr.cons b
  have CA := Lib.hid (fun W (h : TkS w0 B a c p m b σ cs xs n (b :: K) who true W) => h.cas E hr' hn hc)
  rw [hzi, hz', hz] at CA
  rw [hE] at WO
  clear HG hbw hn hc hX
  clear hz hzi hz' hE
  cases bz with
  | true =>
    go_wp2_with fail
    go_region_held3 (fun W' => (W'.cell? ⟨m, 0, none⟩ = some (.int .i64 σ.P) ∧ W'.cell? ⟨m, 1, none⟩ = some (.int .i64 σ.T) ∧ W'.cell? ⟨m, 2, none⟩ = some (.int .i64 σ.R) ∧ W'.cell? ⟨m, 5, none⟩ = some (.int .i64 σ.pg) ∧ W'.cell? ⟨m, 7, none⟩ = some (.int .u64 σ.seen)) ∧ (W'.cell? ⟨b, 0, none⟩ = some (.int .i64 σ.k) ∧ W'.cell? ⟨b, 1, none⟩ = some (.int .i64 σ.c) ∧ W'.cell? ⟨b, 2, none⟩ = some (.int .i64 2) ∧ W'.cell? ⟨b, 3, none⟩ = some (.int .i64 σ.who) ∧ W'.cell? ⟨b, 4, none⟩ = some (.int .i64 σ.y)))
      ((with_reducible exact TkS.cells (by assumption)))
      (first
        | (go_at_call 49; refine (EN.out _).mono ?_; rintro e w5 ⟨rfl, hb5⟩; have hS5 := TkS.grew (by assumption) hb5)
        | (go_at_call 79; refine (WO.out _).mono ?_; rintro e w6 ⟨rfl, hb6⟩; have hS6 := TkS.grew (by assumption) hb6)
        | (go_at_call 78; refine (CA.out _ (by assumption)).mono ?_; rintro e w7 ⟨rfl, hS7⟩))
    all_goals
      have n6 : w7.cell? ⟨m, 6, none⟩ = some (.int .i64 σ.nx) := hS7.ma.mach.val 6 rfl
      have f6 := hS7.ma.mach.frozen 6
      have H := Lib.hid (hS7.ma.subK.set hr 6 (.int .i64 4))
      clear hS7
      go_wp2
      go_end0
      refine ⟨⟨_, rfl⟩, ?_⟩
      exact H.out
  | false =>
    go_wp2_with fail
    go_region_held3 (fun W' => (W'.cell? ⟨m, 0, none⟩ = some (.int .i64 σ.P) ∧ W'.cell? ⟨m, 1, none⟩ = some (.int .i64 σ.T) ∧ W'.cell? ⟨m, 2, none⟩ = some (.int .i64 σ.R) ∧ W'.cell? ⟨m, 5, none⟩ = some (.int .i64 σ.pg) ∧ W'.cell? ⟨m, 7, none⟩ = some (.int .u64 σ.seen)) ∧ (W'.cell? ⟨b, 0, none⟩ = some (.int .i64 σ.k) ∧ W'.cell? ⟨b, 1, none⟩ = some (.int .i64 σ.c) ∧ W'.cell? ⟨b, 2, none⟩ = some (.int .i64 2) ∧ W'.cell? ⟨b, 3, none⟩ = some (.int .i64 σ.who) ∧ W'.cell? ⟨b, 4, none⟩ = some (.int .i64 σ.y)))
      ((with_reducible exact TkS.cells (by assumption)))
      (first
        | (go_at_call 49; refine (EN.out _).mono ?_; rintro e w5 ⟨rfl, hb5⟩; have hS5 := TkS.grew (by assumption) hb5)
        | (go_at_call 79; refine (WO.out _).mono ?_; rintro e w6 ⟨rfl, hb6⟩; have hS6 := TkS.grew (by assumption) hb6)
        | (go_at_call 78; refine (CA.out _ (by assumption)).mono ?_; rintro e w7 ⟨rfl, hS7⟩))
    all_goals
      have n6 : w7.cell? ⟨m, 6, none⟩ = some (.int .i64 σ.nx) := hS7.ma.mach.val 6 rfl
      have f6 := hS7.ma.mach.frozen 6
      have n18 : w7.cell? ⟨m, 18, none⟩ = some (.bool σ.bl) := hS7.ma.mach.val 18 rfl
      have f18 := hS7.ma.mach.frozen 18
      have H := Lib.hid ((hS7.ma.subK.set hr 18 (.bool true)).set hr 6 (.int .i64 0))
      clear hS7
      go_wp2
      refine bodyPost_ret (results_none rfl _ _ _) rfl ?_
      refine ⟨⟨_, rfl⟩, ?_⟩
      exact H.out
end
end Go.Proofs.YtnodeojeijekcaaGreat
