/- The law PagesGives. No condition but that each number fits its kind. -/
import Derived.Test.YtnodeojeijekcaaGB28
namespace Go.Proofs.Ytnodeojeijekcaa
open Go.RowKit
set_option linter.unusedVariables false
/-- the field, the entry that is given, and a Give beside it -/
structure GdS (w : World) (B f M d a c p g q : Nat) (P T : Int) (gk gc gs go gy ce wd nx : Int) (cs : List Int) (n : Nat) (K : List Nat) (o : Bool) (W : World) : Prop where
  fl : Blk W f (flV P T (some ⟨a, 0, none⟩) (some ⟨M, 0, none⟩) (some ⟨p, 0, none⟩)) 49
  mach : GvAt W g ce wd nx
  gave : Blk W q #[.int .i64 gk, .int .i64 gc, .int .i64 gs, .int .i64 go, .int .i64 gy] 32
  ary : Ary W B a c cs n K
  port : PortAt W p a 15 o
  bel : Below w.heap.size w W
  lo : w.heap.size ≤ B ∧ w.heap.size ≤ g ∧ w.heap.size ≤ p
  inK : g ∈ K ∧ p ∈ K ∧ f ∈ K ∧ q ∈ K
section
variable {w W W' : World} {B f M d a c p g q : Nat} {P T : Int} {gk gc gs go gy ce wd nx nx' : Int} {cs cs' : List Int} {n n' : Nat} {K : List Nat} {o o' : Bool}
theorem GdS.grew (h : GdS w B f M d a c p g q P T gk gc gs go gy ce wd nx cs n K o W) (hb : Below W.heap.size W W') : GdS w B f M d a c p g q P T gk gc gs go gy ce wd nx cs n K o W' :=
  ⟨h.fl.grew hb, Blk.grew h.mach hb, h.gave.grew hb, h.ary.grew hb, h.port.grew hb, h.bel.trans (hb.mono h.bel.size), h.lo, h.inK⟩
theorem GdS.quiet (h : GdS w B f M d a c p g q P T gk gc gs go gy ce wd nx cs n K o W) (hq : Quiet W W') : GdS w B f M d a c p g q P T gk gc gs go gy ce wd nx cs n K o W' := h.grew hq.below
theorem GdS.drew (h : GdS w B f M d a c p g q P T gk gc gs go gy ce wd nx cs n K o W) : GdS w B f M d a c p g q P T gk gc gs go gy ce wd nx cs n K o W.drew := h.quiet ⟨1, rfl⟩
theorem GdS.mr' (h : GdS w B f M d a c p g q P T gk gc gs go gy ce wd nx cs n K o W) : MaR p g K := ⟨blk_ne h.mach h.port (by decide), h.inK.1, h.inK.2.1⟩
theorem GdS.moved {xs' : List Value} (h : GdS w B f M d a c p g q P T gk gc gs go gy ce wd nx cs n K o W) (hm : GiS W B a c p g ce wd nx' cs' xs' n' K 15 o' W') : GdS w B f M d a c p g q P T gk gc gs go gy ce wd nx' cs' n' K o' W' := by
  have h1 : f ≠ p := blk_ne h.fl h.port (by decide)
  have h2 : f ≠ g := blk_ne h.fl h.mach (by decide)
  have h3 : q ≠ p := blk_ne h.gave h.port (by decide)
  have h4 : q ≠ g := blk_ne h.gave h.mach (by decide)
  refine ⟨h.fl.touch hm.touch ?_, hm.mach, h.gave.touch hm.touch ?_, ⟨_, hm.arx⟩, hm.port, h.bel.trans (hm.touch.below h.bel.size ?_), h.lo, h.inK⟩
  · rintro (e | e | ⟨_, e⟩)
    · exact h1 e
    · exact h2 e
    · exact e h.inK.2.2.1
  · rintro (e | e | ⟨_, e⟩)
    · exact h3 e
    · exact h4 e
    · exact e h.inK.2.2.2
  · rintro b (e | e | ⟨e, _⟩)
    · rw [e]; exact h.lo.2.2
    · rw [e]; exact h.lo.2.1
    · exact Nat.le_trans h.lo.1 e
theorem GdS.start (h : GdS w B f M d a c p g q P T gk gc gs go gy ce wd nx cs n K o W) : ∃ xs, GiS W B a c p g ce wd nx cs xs n K 15 o W := by
  obtain ⟨xs, hX⟩ := h.ary
  exact ⟨xs, MaS.start h.mach hX h.port⟩
theorem GdS.over (h : GdS w B f M d a c p g q P T gk gc gs go gy ce wd nx cs n K o W) :
    Calls Try.prog 27 #[.pointer (some ⟨g, 0, none⟩)] W fun e w' => e = .returned (.bool (nx == 0)) ∧ GdS w B f M d a c p g q P T gk gc gs go gy ce wd nx cs n K o w' :=
  (gvOver h.mach).mono fun _ _ ⟨he, hq⟩ => ⟨he, h.quiet hq⟩
theorem GdS.grant (h : GdS w B f M d a c p g q P T gk gc gs go gy ce wd nx cs n K o W) :
    Calls Try.prog 11 #[.pointer (some ⟨p, 0, none⟩)] W fun e w' => (∃ v, e = .returned v) ∧ GdS w B f M d a c p g q P T gk gc gs go gy ce wd nx cs n K true w' := by
  obtain ⟨xs, hS⟩ := h.start
  exact (hS.grant h.mr').mono fun _ _ ⟨he, hm⟩ => ⟨he, h.moved hm⟩
theorem GdS.shut (h : GdS w B f M d a c p g q P T gk gc gs go gy ce wd 9 cs n K false W) :
    Calls Try.prog 28 #[.pointer (some ⟨g, 0, none⟩), .pointer (some ⟨p, 0, none⟩)] W fun e w' => e = .returned (.bool false) ∧ GdS w B f M d a c p g q P T gk gc gs go gy ce wd 9 cs n K false w' := by
  obtain ⟨xs, hS⟩ := h.start
  exact (gvStep_shut hS).mono fun _ _ ⟨he, hm⟩ => ⟨he, h.moved hm⟩
theorem GdS.done (h : GdS w B f M d a c p g q P T gk gc gs go gy ce wd 0 cs n K o W) :
    Calls Try.prog 28 #[.pointer (some ⟨g, 0, none⟩), .pointer (some ⟨p, 0, none⟩)] W fun e w' => e = .returned (.bool true) ∧ GdS w B f M d a c p g q P T gk gc gs go gy ce wd 0 cs n K o w' := by
  obtain ⟨xs, hS⟩ := h.start
  exact (gvStep_over hS).mono fun _ _ ⟨he, hm⟩ => ⟨he, h.moved hm⟩
theorem GdS.step {i : Nat} (h : GdS w B f M d a c p g q P T gk gc gs go gy (i : Int) wd 9 cs n K true W) (hn : n < 1000000) (hi : i < cs.length) :
    Calls Try.prog 28 #[.pointer (some ⟨g, 0, none⟩), .pointer (some ⟨p, 0, none⟩)] W fun e w' => e = .returned (.bool true) ∧ GdS w B f M d a c p g q P T gk gc gs go gy (i : Int) wd 0 (cs.set i wd) (n + 1) K false w' := by
  obtain ⟨xs, hS⟩ := h.start
  exact (gvStep hS h.mr' hn hi).mono fun _ _ ⟨he, hm⟩ => ⟨he, h.moved hm⟩
theorem GdS.peek {i : Nat} (h : GdS w B f M d a c p g q P T gk gc gs go gy ce wd nx cs n K o W) (hi : i < cs.length) (hm : cs.length ≤ 1000000) :
    Calls Try.prog 13 #[.pointer (some ⟨a, 0, none⟩), .int .i64 i] W fun e w' => e = .returned (.tuple #[.int .u64 (cs.getD i 0), .int .i64 0]) ∧ GdS w B f M d a c p g q P T gk gc gs go gy ce wd nx cs n K o w' := by
  obtain ⟨xs, hX⟩ := h.ary
  exact (peek_x hX hi hm).mono fun _ _ ⟨he, hq⟩ => ⟨he, h.quiet hq⟩
theorem GdS.count (h : GdS w B f M d a c p g q P T gk gc gs go gy ce wd nx cs n K o W) :
    Calls Try.prog 30 #[.pointer (some ⟨a, 0, none⟩)] W fun e w' => e = .returned (.int .i64 n) ∧ GdS w B f M d a c p g q P T gk gc gs go gy ce wd nx cs n K o w' :=
  h.ary.count.mono fun _ _ ⟨he, hq⟩ => ⟨he, h.quiet hq⟩
theorem GdS.faults (h : GdS w B f M d a c p g q P T gk gc gs go gy ce wd nx cs n K o W) :
    Calls Try.prog 31 #[.pointer (some ⟨a, 0, none⟩)] W fun e w' => e = .returned (.int .i64 0) ∧ GdS w B f M d a c p g q P T gk gc gs go gy ce wd nx cs n K o w' := by
  obtain ⟨xs, hX⟩ := h.ary
  obtain ⟨lv, hL, _⟩ := hX.ex
  exact (faults_at hL.at').mono fun _ _ ⟨he, hq⟩ => ⟨he, h.quiet hq⟩
theorem GdS.ptrs (h : GdS w B f M d a c p g q P T gk gc gs go gy ce wd nx cs n K o W) : W.cell? ⟨f, 11, none⟩ = some (.pointer (some ⟨p, 0, none⟩)) ∧ W.cell? ⟨f, 9, none⟩ = some (.pointer (some ⟨a, 0, none⟩)) ∧ (W.cell? ⟨f, 0, none⟩ = some (.int .i64 P) ∧ W.cell? ⟨f, 1, none⟩ = some (.int .i64 T) ∧ W.cell? ⟨f, 2, none⟩ = some (.int .i64 1)) ∧ (W.cell? ⟨f, 3, none⟩ = some (.int .i64 P) ∧ W.cell? ⟨f, 4, none⟩ = some (.int .i64 T) ∧ W.cell? ⟨f, 5, none⟩ = some (.int .i64 1) ∧ W.cell? ⟨f, 6, none⟩ = some (.int .i64 (baseI P T 1)) ∧ W.cell? ⟨f, 7, none⟩ = some (.int .i64 (tabI T 1)) ∧ W.cell? ⟨f, 8, none⟩ = some (.int .i64 (baseI P T 1 + 64 * P))) :=
  ⟨h.fl.val 11 rfl, h.fl.val 9 rfl, ⟨h.fl.val 0 rfl, h.fl.val 1 rfl, h.fl.val 2 rfl⟩, h.fl.val 3 rfl, h.fl.val 4 rfl, h.fl.val 5 rfl, h.fl.val 6 rfl, h.fl.val 7 rfl, h.fl.val 8 rfl⟩
end
/-- the field and the entry, ahead of NewGive -/
structure GeS (v w : World) (B f M d a c p P5 q : Nat) (P T k c' s o y gk gc gs go gy : Int) (cs : List Int) (W : World) : Prop where
  fi : FiS w B f M d a c p P T cs W
  en : Blk W P5 #[.int .i64 k, .int .i64 c', .int .i64 s, .int .i64 o, .int .i64 y] 32
  gave : Blk W q #[.int .i64 gk, .int .i64 gc, .int .i64 gs, .int .i64 go, .int .i64 gy] 32
  be : Below v.heap.size v W
  aq : Ary W B a c cs 0 [q, p, d, M, f]
theorem FiS.grew {w W W' : World} {B f M d a c p : Nat} {P T : Int} {cs : List Int} (h : FiS w B f M d a c p P T cs W) (hb : Below W.heap.size W W') : FiS w B f M d a c p P T cs W' :=
  ⟨h.fl.grew hb, h.doc.grew hb, h.row.grew hb, h.ary.grew hb, h.port.grew hb, h.bel.trans (hb.mono h.ary.bw), h.lo⟩
theorem GeS.grew {v w W W' : World} {B f M d a c p P5 q : Nat} {P T k c' s o y gk gc gs go gy : Int} {cs : List Int} (h : GeS v w B f M d a c p P5 q P T k c' s o y gk gc gs go gy cs W) (hb : Below W.heap.size W W') : GeS v w B f M d a c p P5 q P T k c' s o y gk gc gs go gy cs W' := ⟨h.fi.grew hb, h.en.grew hb, h.gave.grew hb, h.be.trans (hb.mono h.be.size), h.aq.grew hb⟩
theorem GeS.drew {v w W : World} {B f M d a c p P5 q : Nat} {P T k c' s o y gk gc gs go gy : Int} {cs : List Int} (h : GeS v w B f M d a c p P5 q P T k c' s o y gk gc gs go gy cs W) : GeS v w B f M d a c p P5 q P T k c' s o y gk gc gs go gy cs W.drew := h.grew (Quiet.below ⟨1, rfl⟩)
theorem GeS.cells {v w W : World} {B f M d a c p P5 q : Nat} {P T k c' s o y gk gc gs go gy : Int} {cs : List Int} (h : GeS v w B f M d a c p P5 q P T k c' s o y gk gc gs go gy cs W) : (W.cell? ⟨f, 0, none⟩ = some (.int .i64 P) ∧ W.cell? ⟨f, 1, none⟩ = some (.int .i64 T) ∧ W.cell? ⟨f, 2, none⟩ = some (.int .i64 1)) ∧ (W.cell? ⟨P5, 0, none⟩ = some (.int .i64 k) ∧ W.cell? ⟨P5, 1, none⟩ = some (.int .i64 c') ∧ W.cell? ⟨P5, 2, none⟩ = some (.int .i64 s) ∧ W.cell? ⟨P5, 3, none⟩ = some (.int .i64 o) ∧ W.cell? ⟨P5, 4, none⟩ = some (.int .i64 y)) :=
  ⟨⟨h.fi.fl.val 0 rfl, h.fi.fl.val 1 rfl, h.fi.fl.val 2 rfl⟩, h.en.five⟩
theorem nil_pages (w : World) (B : Nat) : RdRow 8 ElPg B w (.slice none 0 0) [] := ⟨none, 0, rfl, by simp, fun i hi => absurd hi (by simp)⟩
theorem ten_at {w : World} {b : Nat} {v0 v1 v2 v3 v4 v5 v6 v7 v8 v9 : Value} {t : TypeId} (h : Blk w b #[v0, v1, v2, v3, v4, v5, v6, v7, v8, v9] t) :
    w.cell? ⟨b, 0, none⟩ = some v0 ∧ w.cell? ⟨b, 1, none⟩ = some v1 ∧ w.cell? ⟨b, 2, none⟩ = some v2 ∧ w.cell? ⟨b, 3, none⟩ = some v3 ∧ w.cell? ⟨b, 4, none⟩ = some v4 ∧ w.cell? ⟨b, 5, none⟩ = some v5 ∧ w.cell? ⟨b, 6, none⟩ = some v6 ∧ w.cell? ⟨b, 7, none⟩ = some v7 ∧ w.cell? ⟨b, 8, none⟩ = some v8 ∧ w.cell? ⟨b, 9, none⟩ = some v9 :=
  ⟨h.val 0 rfl, h.val 1 rfl, h.val 2 rfl, h.val 3 rfl, h.val 4 rfl, h.val 5 rfl, h.val 6 rfl, h.val 7 rfl, h.val 8 rfl, h.val 9 rfl⟩
set_option maxRecDepth 100000 in
set_option maxHeartbeats 8000000 in
theorem pgives_walk (P0 T0 R0 pg k c s o y cy : Int) (w : World) :
    Calls Try.prog 4 #[.agg #[.int .i64 P0, .int .i64 T0, .int .i64 R0, .int .i64 pg, .int .i64 k, .int .i64 c, .int .i64 s, .int .i64 o, .int .i64 y, .int .i64 cy]] w fun e w' => e = .returned (.bool true) ∧ Below w.heap.size w w' := by
  obtain ⟨P, hP0⟩ : ∃ P, psI P0 5 = P := ⟨_, rfl⟩
  obtain ⟨T, hT0⟩ : ∃ T, psI T0 3 = T := ⟨_, rfl⟩
  have hP := osmall_bd P0 5 (by decide) (by decide)
  have hT := osmall_bd T0 3 (by decide) (by decide)
  rw [show wrap64 (1 + wrap64 ((IntKind.u64.wrap P0).tmod 5)) = P from hP0] at hP
  rw [show wrap64 (1 + wrap64 ((IntKind.u64.wrap T0).tmod 3)) = T from hT0] at hT
  have LA := Lib.hid (fun W => play_any P0 T0 R0 P T (.slice none 0 0) [] W hP0 hT0 hP hT (nil_pages W _))
  have hr := right_small hP hT
  clear hP0 hT0
  go_enter Try.func4, Try.ntmps4
  go_upto_region 1 with fail
  have hX : Blk (w.alloc (.cells #[.int .i64 P0, .int .i64 T0, .int .i64 R0, .int .i64 pg, .int .i64 k, .int .i64 c, .int .i64 s, .int .i64 o, .int .i64 y, .int .i64 cy] 62)) w.heap.size #[.int .i64 P0, .int .i64 T0, .int .i64 R0, .int .i64 pg, .int .i64 k, .int .i64 c, .int .i64 s, .int .i64 o, .int .i64 y, .int .i64 cy] 62 := Blk.new _ _ _
  have hB : Below w.heap.size w (w.alloc (.cells #[.int .i64 P0, .int .i64 T0, .int .i64 R0, .int .i64 pg, .int .i64 k, .int .i64 c, .int .i64 s, .int .i64 o, .int .i64 y, .int .i64 cy] 62)) := (Below.refl _ _).alloc (Nat.le_refl _) _
  generalize w.alloc (.cells #[.int .i64 P0, .int .i64 T0, .int .i64 R0, .int .i64 pg, .int .i64 k, .int .i64 c, .int .i64 s, .int .i64 o, .int .i64 y, .int .i64 cy] 62) = W at *
  have hlt := hX.lt
  go_cut [3, 4, 5, 6] from 17 to 24 (fun s3 s4 s5 s6 wx => s4 = .int .i64 pg ∧ s6 = .int .i64 cy ∧ ∃ P3 P5, s3 = .pointer (some ⟨P3, 0, none⟩) ∧ s5 = .pointer (some ⟨P5, 0, none⟩) ∧ Blk wx P3 #[.int .i64 P0, .int .i64 T0, .int .i64 R0] 30 ∧ Blk wx P5 #[.int .i64 k, .int .i64 c, .int .i64 s, .int .i64 o, .int .i64 y] 32 ∧ Below w.heap.size w wx)
  case first =>
    obtain ⟨x0, x1, x2, x3, x4, x5, x6, x7, x8, x9⟩ := ten_at hX
    go_region_held3 (fun w' => w'.cell? ⟨w.heap.size, 0, none⟩ = some (.int .i64 P0) ∧ w'.cell? ⟨w.heap.size, 1, none⟩ = some (.int .i64 T0) ∧ w'.cell? ⟨w.heap.size, 2, none⟩ = some (.int .i64 R0) ∧ w'.cell? ⟨w.heap.size, 3, none⟩ = some (.int .i64 pg) ∧ w'.cell? ⟨w.heap.size, 4, none⟩ = some (.int .i64 k) ∧ w'.cell? ⟨w.heap.size, 5, none⟩ = some (.int .i64 c) ∧ w'.cell? ⟨w.heap.size, 6, none⟩ = some (.int .i64 s) ∧ w'.cell? ⟨w.heap.size, 7, none⟩ = some (.int .i64 o) ∧ w'.cell? ⟨w.heap.size, 8, none⟩ = some (.int .i64 y) ∧ w'.cell? ⟨w.heap.size, 9, none⟩ = some (.int .i64 cy))
      (first | (with_reducible exact ⟨by assumption, by assumption, by assumption, by assumption, by assumption, by assumption, by assumption, by assumption, by assumption, by assumption⟩) | (refine ten_at (t := 62) ?_; repeat (first | (with_reducible exact hX) | (with_reducible refine Blk.alloc ?_ _) | (with_reducible refine Blk.drew ?_) | ((with_reducible refine Blk.other ?_ _ _ ?_); rotate_left 1; (simp; omega)))))
      (fail)
    all_goals
      go_wp2
      go_meet
      case rel =>
        refine ⟨rfl, rfl, _, _, rfl, rfl, ?_, ?_, ?_⟩
        all_goals repeat' (first | exact hB | (refine Blk.new' ?_; simp; done) | refine Blk.drew ?_ | refine Blk.alloc ?_ _ | refine Quiet.below' ?_ | refine Below.alloc ?_ ?_ _ | exact hB.size | (simp; done) | (simp; omega))
  clear hX hB hlt
  obtain ⟨rfl, rfl, P3, P5, rfl, rfl, hP3, hP5, hbc⟩ := hcut
  obtain ⟨x0, x1, x2⟩ := hP3.three.1
  go_wp2_with fail
  refine (LA.out _).mono ?_; rintro e w1 ⟨f, M, d, a, ca, p, rfl, hF'⟩
  have hF : FiS wc wc.heap.size f M d a ca p P T (List.replicate (cellsN P T 1) 0) w1 := by simpa [layK] using hF'
  have hE1 := Blk.below hP5 hF.bel hP5.lt
  have hw1 := hbc.trans (hF.bel.mono hbc.size)
  have hwc := hbc.size
  clear hF' x0 x1 x2 hP3 hP5 LA
  go_wp2_with fail
  refine (paged_any _).mono ?_; rintro e w2 ⟨rfl, hb2⟩
  have hF2 := hF.grew hb2
  have hE2 := hE1.grew hb2
  have hw2 := hw1.trans (hb2.mono hw1.size)
  obtain ⟨x0, x1, x2, x3, x4⟩ := hE2.five
  clear hF hE1 hw1 hb2
  have RG := Lib.hid (fun W => rgiven_any k c s o y cy W)
  have hG : ∃ gk gc gs gy gf, decD (gvB k c s o y cy) k = gk ∧ decD (gvB k c s o y cy) c = gc ∧ decD (gvB k c s o y cy) 0 = gs ∧ decD (gvB k c s o y cy) cy = gy ∧ decF (gvB k c s o y cy) = gf := ⟨_, _, _, _, _, rfl, rfl, rfl, rfl, rfl⟩
  obtain ⟨gk, gc, gs, gy, gf, e1, e2, e3, e4, e5⟩ := hG
  rw [e1, e2, e3, e4, e5] at RG
  replace e1 := Lib.hid e1
  replace e2 := Lib.hid e2
  replace e3 := Lib.hid e3
  replace e4 := Lib.hid e4
  replace e5 := Lib.hid e5
  go_wp2_with fail
  refine (RG.out _).mono ?_; rintro e w3 ⟨rfl, hb3⟩
  clear x0 x1 x2 x3 x4
  go_upto_region 6 with fail
  have h4 : GeS w wc wc.heap.size f M d a ca p P5 w3.heap.size P T k c s o y gk gc gs gs gy (List.replicate (cellsN P T 1) 0) (w3.alloc (.cells #[.int .i64 gk, .int .i64 gc, .int .i64 gs, .int .i64 gs, .int .i64 gy] 32)) := ⟨(hF2.grew hb3).grew ((Below.refl _ _).alloc (Nat.le_refl _) _), (hE2.grew hb3).alloc _, Blk.new _ _ _, (hw2.trans (hb3.mono hw2.size)).alloc (hw2.trans (hb3.mono hw2.size)).size _, (hF2.grew hb3).ary.add ((Below.refl _ _).alloc (Nat.le_refl _) _) (Nat.le_refl _) (by simp)⟩
  have hql : w2.heap.size ≤ w3.heap.size := hb3.size
  generalize w3.alloc (.cells #[.int .i64 gk, .int .i64 gc, .int .i64 gs, .int .i64 gs, .int .i64 gy] 32) = w4 at *
  generalize w3.heap.size = q at *
  clear hF2 hE2 hb3 hw2 hql
  have PLN := Lib.hid (fun W => pplan_any P T 1 W)
  have ENT := Lib.hid (fun W => pentry_any k c s o y W)
  have h4d := h4.drew
  have hpg : pgB P T 1 pg = (decide (0 ≤ pg) && decide (pg < P)) := by
    unfold pgB
    rw [of_right hr, Bool.true_and]
    unfold inB
    rw [← Bool.decide_and]
    congr 1
    exact propext ⟨fun h => ⟨h.1, by omega⟩, fun h => ⟨h.1, by omega⟩⟩
  by_cases hp1 : pg < 0
  · rw [decide_eq_false (by omega), Bool.false_and] at hpg
    have NG := Lib.hid (fun W => newgive_arg P T 1 pg k c s o y cy W hpg)
    clear hpg e1 e2 e3 e4 e5
    go_wp2_with fail
    go_region_held3 (fun W' => (W'.cell? ⟨f, 0, none⟩ = some (.int .i64 P) ∧ W'.cell? ⟨f, 1, none⟩ = some (.int .i64 T) ∧ W'.cell? ⟨f, 2, none⟩ = some (.int .i64 1)) ∧ (W'.cell? ⟨P5, 0, none⟩ = some (.int .i64 k) ∧ W'.cell? ⟨P5, 1, none⟩ = some (.int .i64 c) ∧ W'.cell? ⟨P5, 2, none⟩ = some (.int .i64 s) ∧ W'.cell? ⟨P5, 3, none⟩ = some (.int .i64 o) ∧ W'.cell? ⟨P5, 4, none⟩ = some (.int .i64 y)))
      ((with_reducible exact GeS.cells (by assumption)))
      (first
        | (go_at_call 9; refine (PLN.out _).mono ?_; rintro e w5 ⟨rfl, hb5⟩; have h5 := GeS.grew (by assumption) hb5)
        | (go_at_call 26; refine (ENT.out _).mono ?_; rintro e w6 ⟨rfl, hb6⟩; have h6 := GeS.grew (by assumption) hb6)
        | (go_at_call 25; refine (NG.out _).mono ?_; rintro e w7 ⟨rfl, hb7⟩; have h7 := GeS.grew (by assumption) hb7))
    all_goals
      go_wp2
      go_ret
      exact ⟨rfl, h7.be⟩
  · have hp0 : 0 ≤ pg := by omega
    by_cases hp2 : pg < P
    · rw [decide_eq_true hp0, decide_eq_true hp2] at hpg
      have hp3 : ¬ pg ≥ P := by omega
      cases hgv : gvB k c s o y cy with
      | false =>
        have hgf : gf = 4 := by rw [← e5.out, hgv]; rfl
        subst hgf
        have NG := Lib.hid (fun W => newgive_form P T 1 pg k c s o y cy W hpg hgv)
        clear hpg hgv e1 e2 e3 e4 e5 RG
        go_wp2_with fail
        go_region_held3 (fun W' => (W'.cell? ⟨f, 0, none⟩ = some (.int .i64 P) ∧ W'.cell? ⟨f, 1, none⟩ = some (.int .i64 T) ∧ W'.cell? ⟨f, 2, none⟩ = some (.int .i64 1)) ∧ (W'.cell? ⟨P5, 0, none⟩ = some (.int .i64 k) ∧ W'.cell? ⟨P5, 1, none⟩ = some (.int .i64 c) ∧ W'.cell? ⟨P5, 2, none⟩ = some (.int .i64 s) ∧ W'.cell? ⟨P5, 3, none⟩ = some (.int .i64 o) ∧ W'.cell? ⟨P5, 4, none⟩ = some (.int .i64 y)))
          ((with_reducible exact GeS.cells (by assumption)))
          (first
            | (go_at_call 9; refine (PLN.out _).mono ?_; rintro e w5 ⟨rfl, hb5⟩; have h5 := GeS.grew (by assumption) hb5)
            | (go_at_call 26; refine (ENT.out _).mono ?_; rintro e w6 ⟨rfl, hb6⟩; have h6 := GeS.grew (by assumption) hb6)
            | (go_at_call 25; refine (NG.out _).mono ?_; rintro e w7 ⟨rfl, hb7⟩; have h7 := GeS.grew (by assumption) hb7))
        all_goals
          go_wp2
          go_ret
          exact ⟨rfl, h7.be⟩
      | true =>
        have hgf : gf = 0 := by rw [← e5.out, hgv]; rfl
        have hk : gk = k := by rw [← e1.out, hgv]; rfl
        have hc : gc = c := by rw [← e2.out, hgv]; rfl
        have hs : gs = 0 := by rw [← e3.out, hgv]; rfl
        have hy : gy = cy := by rw [← e4.out, hgv]; rfl
        subst hgf hk hc hs hy
        obtain ⟨i, hi, hi1, hi2, hi3⟩ := row_yes 0 hpg (by decide)
        have NG := Lib.hid (fun W => newgive_yes P T 1 pg gk gc s o y gy (i : Int) W hpg hi hgv)
        have hE : eencV gk gc 0 0 gy = encE gk gc 0 0 gy := by
          unfold gvB at hgv
          rw [Bool.and_eq_true, Bool.and_eq_true] at hgv
          unfold eencV
          rw [hgv.2.2]
          rfl
        have EE := Lib.hid (fun W => reenc_any gk gc 0 0 gy W)
        rw [hE] at EE
        have htb := tab_bd hr
        have hiw : wrap64 (tabI T 1 + pg) = (i : Int) := by
          rw [IntWalk.wrap64_in _ (by have : tabI T 1 = 16 + T * (5 + 1) := rfl; omega)]
          omega
        have PE := Lib.hid (fun W => pmPage_any P T 1 (baseI P T 1) (tabI T 1) (baseI P T 1 + 64 * P) pg W)
        rw [hiw] at PE
        have hN := cellsN_bd hr
        have hcl : (List.replicate (cellsN P T 1) (0 : Int)).length = cellsN P T 1 := List.length_replicate
        obtain ⟨cs, hcs⟩ : ∃ cs, cs = List.replicate (cellsN P T 1) (0 : Int) := ⟨_, rfl⟩
        rw [← hcs] at h4 h4d hcl
        have hi4 := Lib.hid (show i < cs.length ∧ cs.length ≤ 1000000 by omega)
        generalize encE gk gc 0 0 gy = E at *
        clear hpg hgv e1 e2 e3 e4 e5 RG hi hi1 hi2 hi3 hE htb hiw hN hcl hcs hr
        go_wp2_with fail
        go_region_held3 (fun W' => (W'.cell? ⟨f, 0, none⟩ = some (.int .i64 P) ∧ W'.cell? ⟨f, 1, none⟩ = some (.int .i64 T) ∧ W'.cell? ⟨f, 2, none⟩ = some (.int .i64 1)) ∧ (W'.cell? ⟨P5, 0, none⟩ = some (.int .i64 gk) ∧ W'.cell? ⟨P5, 1, none⟩ = some (.int .i64 gc) ∧ W'.cell? ⟨P5, 2, none⟩ = some (.int .i64 s) ∧ W'.cell? ⟨P5, 3, none⟩ = some (.int .i64 o) ∧ W'.cell? ⟨P5, 4, none⟩ = some (.int .i64 y)))
          ((with_reducible exact GeS.cells (by assumption)))
          (first
            | (go_at_call 9; refine (PLN.out _).mono ?_; rintro e w5 ⟨rfl, hb5⟩; have h5 := GeS.grew (by assumption) hb5)
            | (go_at_call 26; refine (ENT.out _).mono ?_; rintro e w6 ⟨rfl, hb6⟩; have h6 := GeS.grew (by assumption) hb6)
            | (go_at_call 25; refine (NG.out _).mono ?_; rintro e w7 ⟨g, rfl, hg7, hgl, hb7⟩; have hA7 := Ary.add (GeS.aq (by assumption)) hb7 hgl (Blk.lt hg7); have hgl9 : w.heap.size ≤ g := Nat.le_trans (Below.size (GeS.be (v := w) (by assumption))) hgl; have h7 := GeS.grew (by assumption) hb7))
        all_goals
          have hD : GdS w wc.heap.size f M d a ca p g q P T gk gc 0 0 gy (i : Int) E 9 cs 0 [g, q, p, d, M, f] false w7 := ⟨h7.fi.fl, hg7, h7.gave, hA7, h7.fi.port, h7.be, ⟨hwc, hgl9, Nat.le_trans hwc h7.fi.lo.2.2.2⟩, by simp⟩
          clear h7 hg7 hA7 hb7
          go_wp2_with fail
          refine hD.over.mono ?_; rintro e w8 ⟨rfl, hD8⟩
          have p11 := hD8.ptrs.1
          go_wp2_with fail
          refine hD8.shut.mono ?_; rintro e w9 ⟨rfl, hD9⟩
          have p11' := hD9.ptrs.1
          clear p11
          go_wp2_with fail
          refine hD9.grant.mono ?_; rintro e w10 ⟨⟨v10, rfl⟩, hD10⟩
          obtain ⟨y0, y1, y2, y3, y4⟩ := hD10.gave.five
          clear p11'
          go_wp2_with fail
          refine (EE.out _).mono ?_; rintro e w11 ⟨rfl, hb11⟩
          have hD11 := hD10.grew hb11
          have p11'' := hD11.ptrs.1
          clear y0 y1 y2 y3 y4
          go_wp2_with fail
          refine (hD11.step (by decide) hi4.out.1).mono ?_; rintro e w12 ⟨rfl, hD12⟩
          clear p11''
          go_wp2_with fail
          refine hD12.over.mono ?_; rintro e w13 ⟨rfl, hD13⟩
          have p13 := hD13.ptrs.1
          go_wp2_with fail
          refine hD13.done.mono ?_; rintro e w14 ⟨rfl, hD14⟩
          clear p13
          have PK := Lib.hid (fun W (h : GdS w wc.heap.size f M d a ca p g q P T gk gc 0 0 gy (i : Int) E 0 (cs.set i E) (0 + 1) [g, q, p, d, M, f] false W) => h.peek (i := i) (by rw [List.length_set]; exact hi4.out.1) (by rw [List.length_set]; exact hi4.out.2))
          rw [getD_set_eq _ _ hi4.out.1] at PK
          have hD14d := hD14.drew
          go_wp2_with fail
          go_region_held3 (fun W' => W'.cell? ⟨f, 11, none⟩ = some (.pointer (some ⟨p, 0, none⟩)) ∧ W'.cell? ⟨f, 9, none⟩ = some (.pointer (some ⟨a, 0, none⟩)) ∧ (W'.cell? ⟨f, 0, none⟩ = some (.int .i64 P) ∧ W'.cell? ⟨f, 1, none⟩ = some (.int .i64 T) ∧ W'.cell? ⟨f, 2, none⟩ = some (.int .i64 1)) ∧ (W'.cell? ⟨f, 3, none⟩ = some (.int .i64 P) ∧ W'.cell? ⟨f, 4, none⟩ = some (.int .i64 T) ∧ W'.cell? ⟨f, 5, none⟩ = some (.int .i64 1) ∧ W'.cell? ⟨f, 6, none⟩ = some (.int .i64 (baseI P T 1)) ∧ W'.cell? ⟨f, 7, none⟩ = some (.int .i64 (tabI T 1)) ∧ W'.cell? ⟨f, 8, none⟩ = some (.int .i64 (baseI P T 1 + 64 * P))))
            ((with_reducible exact GdS.ptrs (by assumption)))
            (first
              | (go_at_call 16; refine (PE.out _).mono ?_; rintro e w15 ⟨rfl, hb15⟩; have hD15 := GdS.grew (by assumption) hb15)
              | (go_at_call 13; refine (PK.out _ (by assumption)).mono ?_; rintro e w16 ⟨rfl, hD16⟩))
          all_goals
            have p9 := hD16.ptrs.2.1
            go_wp2_with fail
            refine hD16.count.mono ?_; rintro e w17 ⟨rfl, hD17⟩
            have p9' := hD17.ptrs.2.1
            clear p9
            go_wp2_with fail
            refine hD17.faults.mono ?_; rintro e w18 ⟨rfl, hD18⟩
            go_wp2
            go_ret
            exact ⟨rfl, hD18.bel⟩
    · rw [decide_eq_false hp2, Bool.and_false] at hpg
      have hp3 : pg ≥ P := by omega
      have NG := Lib.hid (fun W => newgive_arg P T 1 pg k c s o y cy W hpg)
      clear hpg e1 e2 e3 e4 e5
      go_wp2_with fail
      go_region_held3 (fun W' => (W'.cell? ⟨f, 0, none⟩ = some (.int .i64 P) ∧ W'.cell? ⟨f, 1, none⟩ = some (.int .i64 T) ∧ W'.cell? ⟨f, 2, none⟩ = some (.int .i64 1)) ∧ (W'.cell? ⟨P5, 0, none⟩ = some (.int .i64 k) ∧ W'.cell? ⟨P5, 1, none⟩ = some (.int .i64 c) ∧ W'.cell? ⟨P5, 2, none⟩ = some (.int .i64 s) ∧ W'.cell? ⟨P5, 3, none⟩ = some (.int .i64 o) ∧ W'.cell? ⟨P5, 4, none⟩ = some (.int .i64 y)))
        ((with_reducible exact GeS.cells (by assumption)))
        (first
          | (go_at_call 9; refine (PLN.out _).mono ?_; rintro e w5 ⟨rfl, hb5⟩; have h5 := GeS.grew (by assumption) hb5)
          | (go_at_call 26; refine (ENT.out _).mono ?_; rintro e w6 ⟨rfl, hb6⟩; have h6 := GeS.grew (by assumption) hb6)
          | (go_at_call 25; refine (NG.out _).mono ?_; rintro e w7 ⟨rfl, hb7⟩; have h7 := GeS.grew (by assumption) hb7))
      all_goals
        go_wp2
        go_ret
        exact ⟨rfl, h7.be⟩
theorem list10 {α : Type} {l : List α} (h : l.length = 10) : ∃ a b c d e f g i j k, l = [a, b, c, d, e, f, g, i, j, k] := by
  match l, h with
  | [a, b, c, d, e, f, g, i, j, k], _ => exact ⟨a, b, c, d, e, f, g, i, j, k, rfl⟩
theorem pgives_law (P0 T0 R0 pg k c s o y cy : Int) (w : World) (_w0 : (Lit.int .i64 P0).wf = true) (_w1 : (Lit.int .i64 T0).wf = true) (_w2 : (Lit.int .i64 R0).wf = true) (_w3 : (Lit.int .i64 pg).wf = true) (_w4 : (Lit.int .i64 k).wf = true) (_w5 : (Lit.int .i64 c).wf = true) (_w6 : (Lit.int .i64 s).wf = true) (_w7 : (Lit.int .i64 o).wf = true) (_w8 : (Lit.int .i64 y).wf = true) (_w9 : (Lit.int .i64 cy).wf = true) :
    Calls Try.prog 4 #[.agg #[.int .i64 P0, .int .i64 T0, .int .i64 R0, .int .i64 pg, .int .i64 k, .int .i64 c, .int .i64 s, .int .i64 o, .int .i64 y, .int .i64 cy]] w fun e w' => e = .returned (.bool true) ∧ Below w.heap.size w w' :=
  pgives_walk P0 T0 R0 pg k c s o y cy w
end Go.Proofs.Ytnodeojeijekcaa
