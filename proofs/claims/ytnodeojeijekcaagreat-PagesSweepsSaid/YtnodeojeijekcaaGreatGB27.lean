/- Texts of this seat, one behind the other: each says at its head what it holds. No condition of its own. -/
import Derived.Deep.RegionHeld3
import Derived.StillTailTactics
import Derived.Test.YtnodeojeijekcaaGreatGB19
import Derived.Test.YtnodeojeijekcaaGreatGB22
import Derived.Test.YtnodeojeijekcaaGreatGB24
import Derived.Test.YtnodeojeijekcaaGreatGB26
/- Package pages: NewSweep, Freed, NewGive, Give. No condition but those that are written. -/
namespace Go.Proofs.YtnodeojeijekcaaGreat
open Go.RowKit
set_option linter.unusedVariables false
theorem pones_any (x : Int) (w : World) (hx : U64 x) :
    Calls Tryz.prog 57 #[.int .u64 x] w fun e w' => e = .returned (.int .i64 (onesI x)) ∧ Quiet w w' := by
  have C := Lib.hid (fun W => onesCount_any x W hx)
  clear hx
  go_enter Tryz.func57, Tryz.ntmps57
  go_wp2_with fail
  refine (C.out _).mono ?_; rintro e w1 ⟨rfl, hq⟩
  go_wp2
  go_ret
  exact ⟨rfl, hq⟩
theorem newsweep_no (P T R who cy pg : Int) (w : World) (h : (pgB P T R pg && (workB who && inB cy 0 4294967295)) = false) :
    Calls Tryz.prog 6 #[.agg #[.int .i64 P, .int .i64 T, .int .i64 R], .int .i64 who, .int .i64 cy, .int .i64 pg] w fun e w' => e = .returned (.tuple #[.pointer none, .int .i64 1]) ∧ Below w.heap.size w w' := by
  have HP := Lib.hid (fun W => hasPage_any P T R pg W)
  have HW := Lib.hid (fun W => isWorker_any who W)
  have HC := Lib.hid (fun W => isCycle_any cy W)
  cases h1 : pgB P T R pg with
  | false =>
    rw [h1] at HP
    clear h h1
    go_enter Tryz.func6, Tryz.ntmps6
    have c0 := (planNew w P T R 43)
    go_wp2_with fail
    refine (HP.out _).mono ?_; rintro e w1 ⟨rfl, hb1⟩
    have c1 := planKeep c0 hb1
    go_wp2
    go_ret2
    exact ⟨rfl, c1.2⟩
  | true =>
    rw [h1] at HP
    cases h2 : workB who with
    | false =>
      rw [h2] at HW
      clear h h1 h2
      go_enter Tryz.func6, Tryz.ntmps6
      have c0 := (planNew w P T R 43)
      go_wp2_with fail
      refine (HP.out _).mono ?_; rintro e w1 ⟨rfl, hb1⟩
      have c1 := planKeep c0 hb1
      go_wp2_with fail
      refine (HW.out _).mono ?_; rintro e w2 ⟨rfl, hq2⟩
      have c2 := planKeep c1 hq2.below
      go_wp2
      go_ret2
      exact ⟨rfl, c2.2⟩
    | true =>
      rw [h2] at HW
      rw [h1, h2, Bool.true_and, Bool.true_and] at h
      rw [h] at HC
      clear h h1 h2
      go_enter Tryz.func6, Tryz.ntmps6
      have c0 := (planNew w P T R 43)
      go_wp2_with fail
      refine (HP.out _).mono ?_; rintro e w1 ⟨rfl, hb1⟩
      have c1 := planKeep c0 hb1
      go_wp2_with fail
      refine (HW.out _).mono ?_; rintro e w2 ⟨rfl, hq2⟩
      have c2 := planKeep c1 hq2.below
      go_wp2_with fail
      refine (HC.out _).mono ?_; rintro e w3 ⟨rfl, hq3⟩
      have c3 := planKeep c2 hq3.below
      go_wp2
      go_ret2
      exact ⟨rfl, c3.2⟩
theorem newsweep_yes (P T R who cy pg : Int) (w : World) (h1 : pgB P T R pg = true) (h2 : workB who = true) (h3 : inB cy 0 4294967295 = true) :
    Calls Tryz.prog 6 #[.agg #[.int .i64 P, .int .i64 T, .int .i64 R], .int .i64 who, .int .i64 cy, .int .i64 pg] w fun e w' => ∃ s, e = .returned (.tuple #[.pointer (some ⟨s, 0, none⟩), .int .i64 0]) ∧ Blk w' s (sw0 P T R who cy pg).V 85 ∧ w.heap.size ≤ s ∧ Below w.heap.size w w' := by
  have HP := Lib.hid (fun W => hasPage_any P T R pg W)
  have HW := Lib.hid (fun W => isWorker_any who W)
  have HC := Lib.hid (fun W => isCycle_any cy W)
  rw [h1] at HP
  rw [h2] at HW
  rw [h3] at HC
  clear h1 h2 h3
  unfold sw0 Sw.V
  dsimp only
  go_enter Tryz.func6, Tryz.ntmps6
  have c0 := (planNew w P T R 43)
  go_wp2_with fail
  refine (HP.out _).mono ?_; rintro e w1 ⟨rfl, hb1⟩
  have c1 := planKeep c0 hb1
  go_wp2_with fail
  refine (HW.out _).mono ?_; rintro e w2 ⟨rfl, hq2⟩
  have c2 := planKeep c1 hq2.below
  go_wp2_with fail
  refine (HC.out _).mono ?_; rintro e w3 ⟨rfl, hq3⟩
  have c3 := planKeep c2 hq3.below
  obtain ⟨d30, d31, d32⟩ := c3.1
  go_wp2
  go_ret2
  exact ⟨_, rfl, Blk.new' rfl, c3.2.size, c3.2.alloc c3.2.size _⟩
section
variable {w w' : World} {m : Nat} {σ : Sw}
theorem swFreed_not (h : Blk w m σ.V 85) (h1 : σ.sw = false) :
    Calls Tryz.prog 16 #[.pointer (some ⟨m, 0, none⟩)] w fun e w' => e = .returned (.int .i64 0) ∧ Quiet w w' := by
  have C := Lib.hid (swSwept h)
  rw [h1] at C
  clear h h1
  go_enter Tryz.func16, Tryz.ntmps16
  go_wp2_with fail
  refine C.out.mono ?_; rintro e w1 ⟨rfl, hq⟩
  go_wp2
  go_ret
  exact ⟨rfl, hq⟩
set_option maxRecDepth 100000 in
set_option maxHeartbeats 1000000 in
theorem swFreed_yes (h : Blk w m σ.V 85) (h1 : σ.sw = true) (hU : U64 (bits .andNot .u64 σ.al σ.kp)) :
    Calls Tryz.prog 16 #[.pointer (some ⟨m, 0, none⟩)] w fun e w' => e = .returned (.int .i64 (onesI (bits .andNot .u64 σ.al σ.kp))) ∧ Quiet w w' := by
  have C := Lib.hid (swSwept h)
  rw [h1] at C
  have D := Lib.hid (fun W (hq : Quiet w W) => show W.cell? ⟨m, 14, none⟩ = some (.int .u64 σ.al) ∧ W.cell? ⟨m, 15, none⟩ = some (.int .u64 σ.kp) from ⟨(h.quiet hq).val 14 rfl, (h.quiet hq).val 15 rfl⟩)
  have O := Lib.hid (fun W => pones_any _ W hU)
  clear h h1 hU
  generalize σ.al = al at *
  generalize σ.kp = kp at *
  go_enter Tryz.func16, Tryz.ntmps16
  go_wp2_with fail
  refine C.out.mono ?_; rintro e w1 ⟨rfl, hq⟩
  obtain ⟨d1, d2⟩ := D.out _ hq
  go_upto_region 3 with fail
  go_wp2_with fail
  go_still_tail 9, (by kernel_rfl)
  clear d1 d2
  change wpList _ _ _ _ _ w1.drew
  have hq1 : Quiet w w1.drew := hq.trans ⟨1, rfl⟩
  generalize w1.drew = w2 at *
  go_wp2_with fail
  refine (O.out _).mono ?_; rintro e w3 ⟨rfl, hq3⟩
  go_wp2
  go_ret
  exact ⟨rfl, hq1.trans hq3⟩
end
/-- the boxes of NewGive -/
structure GvS (w : World) (P T R k c s o y : Int) (W : World) : Prop where
  pl : Blk W w.heap.size #[.int .i64 P, .int .i64 T, .int .i64 R] 43
  en : Blk W (w.heap.size + 1) #[.int .i64 k, .int .i64 c, .int .i64 s, .int .i64 o, .int .i64 y] 83
  bel : Below w.heap.size w W
theorem GvS.grew {w W W' : World} {P T R k c s o y : Int} (h : GvS w P T R k c s o y W) (hb : Below W.heap.size W W') : GvS w P T R k c s o y W' := ⟨h.pl.grew hb, h.en.grew hb, h.bel.trans (hb.mono h.bel.size)⟩
theorem GvS.new (w : World) (P T R k c s o y : Int) : GvS w P T R k c s o y ((w.alloc (.cells #[.int .i64 P, .int .i64 T, .int .i64 R] 43)).alloc (.cells #[.int .i64 k, .int .i64 c, .int .i64 s, .int .i64 o, .int .i64 y] 83)) :=
  ⟨(Blk.new _ _ _).alloc _, Blk.new' (by simp), ((Below.refl _ _).alloc (Nat.le_refl _) _).alloc (by simp) _⟩
structure GvT (w : World) (P T R k c cy : Int) (b : Nat) (W : World) : Prop where
  pl : Blk W w.heap.size #[.int .i64 P, .int .i64 T, .int .i64 R] 43
  gv : Blk W b #[.int .i64 k, .int .i64 c, .int .i64 0, .int .i64 0, .int .i64 cy] 83
  bel : Below w.heap.size w W
theorem GvT.grew {w W W' : World} {P T R k c cy : Int} {b : Nat} (h : GvT w P T R k c cy b W) (hb : Below W.heap.size W W') : GvT w P T R k c cy b W' := ⟨h.pl.grew hb, h.gv.grew hb, h.bel.trans (hb.mono h.bel.size)⟩
theorem GvT.drew {w W : World} {P T R k c cy : Int} {b : Nat} (h : GvT w P T R k c cy b W) : GvT w P T R k c cy b W.drew := h.grew (Quiet.below ⟨1, rfl⟩)
theorem GvT.alloc {w W : World} {P T R k c cy : Int} {b : Nat} (h : GvT w P T R k c cy b W) (ob : Obj) : GvT w P T R k c cy b (W.alloc ob) := h.grew ((Below.refl _ _).alloc (Nat.le_refl _) _)
theorem GvT.cells {w W : World} {P T R k c cy : Int} {b : Nat} (h : GvT w P T R k c cy b W) : (W.cell? ⟨w.heap.size, 0, none⟩ = some (.int .i64 P) ∧ W.cell? ⟨w.heap.size, 1, none⟩ = some (.int .i64 T) ∧ W.cell? ⟨w.heap.size, 2, none⟩ = some (.int .i64 R)) ∧ (W.cell? ⟨b, 0, none⟩ = some (.int .i64 k) ∧ W.cell? ⟨b, 1, none⟩ = some (.int .i64 c) ∧ W.cell? ⟨b, 2, none⟩ = some (.int .i64 0) ∧ W.cell? ⟨b, 3, none⟩ = some (.int .i64 0) ∧ W.cell? ⟨b, 4, none⟩ = some (.int .i64 cy)) := ⟨h.pl.three.1, h.gv.five⟩
section
variable {w0 w w' : World} {B a c p m : Nat} {ce wd nx : Int} {cs : List Int} {xs : List Value} {n : Nat} {K : List Nat} {who : Int} {o : Bool}
end
end Go.Proofs.YtnodeojeijekcaaGreat
/- A sweep of a page of small objects that is alone: its states, one behind the other; the field beside it as one fact. No condition but those that are written. -/
namespace Go.Proofs.YtnodeojeijekcaaGreat
open Go.RowKit
set_option linter.unusedVariables false
/-- the machine's states -/
def rnS (P T cl was al ma cy : Int) : Nat → Sw
  | 0 => sw0 P T 1 15 cy 0
  | 1 => { sw0 P T 1 15 cy 0 with nx := 2, bl := false, seen := encE 1 cl 0 0 was, k := 1, c := cl, s := 0, o := 0, y := was }
  | 2 => { sw0 P T 1 15 cy 0 with nx := 4, bl := false, seen := encE 1 cl 0 0 was, k := 1, c := cl, s := 0, o := 0, y := was }
  | 3 => { sw0 P T 1 15 cy 0 with nx := 5, bl := false, seen := encE 1 cl 0 0 was, k := 1, c := cl, s := 0, o := 0, y := was, ma := ma }
  | 4 => { sw0 P T 1 15 cy 0 with nx := 6, bl := false, seen := encE 1 cl 0 0 was, k := 1, c := cl, s := 0, o := 0, y := was, ma := ma, al := al, kp := bits .and .u64 al ma }
  | 5 => { sw0 P T 1 15 cy 0 with nx := 8, bl := false, seen := encE 1 cl 0 0 was, k := 1, c := cl, s := 0, o := 0, y := was, ma := ma, al := al, kp := bits .and .u64 al ma }
  | 6 => { sw0 P T 1 15 cy 0 with nx := 9, bl := false, seen := encE 1 cl 0 0 was, k := 1, c := cl, s := 0, o := 0, y := was, ma := ma, al := al, kp := bits .and .u64 al ma }
  | _ => { sw0 P T 1 15 cy 0 with nx := 0, sw := true, bl := false, seen := encE 1 cl 0 0 was, k := 1, c := cl, s := 0, o := 0, y := was, ma := ma, al := al, kp := bits .and .u64 al ma }
def lastI (cl al ma cy : Int) : Int := if bits .and .u64 al ma == 0 then 0 else encE 1 cl 0 0 cy
/-- the cells -/
def rnC (cs : List Int) (e a m : Nat) (cl was al ma cy : Int) : Nat → List Int
  | 0 => cs
  | 1 => cs
  | 2 => cs.set e (encE 1 cl 2 15 was)
  | 3 => cs.set e (encE 1 cl 2 15 was)
  | 4 => cs.set e (encE 1 cl 2 15 was)
  | 5 => (cs.set e (encE 1 cl 2 15 was)).set a (bits .and .u64 al ma)
  | 6 => ((cs.set e (encE 1 cl 2 15 was)).set a (bits .and .u64 al ma)).set m 0
  | _ => (((cs.set e (encE 1 cl 2 15 was)).set a (bits .and .u64 al ma)).set m 0).set e (lastI cl al ma cy)
theorem rn_over (P T cl was al ma cy : Int) : ∀ i, i ≤ 7 → ((rnS P T cl was al ma cy i).nx == 0) = decide (i = 7) := by
  intro i hi
  have : i = 0 ∨ i = 1 ∨ i = 2 ∨ i = 3 ∨ i = 4 ∨ i = 5 ∨ i = 6 ∨ i = 7 := by omega
  rcases this with rfl | rfl | rfl | rfl | rfl | rfl | rfl | rfl <;> rfl
theorem decE_of {k c s o y : Int} (h : entB k c s o y = true) : U64 (encE k c s o y) ∧ edecOk (encE k c s o y) = true ∧ encE k c s o y % 4 = k ∧ encE k c s o y / 4 % 16 = c ∧ encE k c s o y / 64 % 4 = s ∧ encE k c s o y / 256 % 16 = o ∧ encE k c s o y / 65536 % 4294967296 = y := by
  obtain ⟨h1, h2, h3, h4, h5, h6⟩ := entB_bd h
  have e : encE k c s o y = y * 65536 + o * 256 + s * 64 + c * 4 + k := rfl
  have r1 : encE k c s o y % 4 = k := by omega
  have r2 : encE k c s o y / 4 % 16 = c := by omega
  have r3 : encE k c s o y / 64 % 4 = s := by omega
  have r4 : encE k c s o y / 256 % 16 = o := by omega
  have r5 : encE k c s o y / 65536 % 4294967296 = y := by omega
  refine ⟨⟨by omega, by omega⟩, ?_, r1, r2, r3, r4, r5⟩
  unfold edecOk
  rw [r1, r2, r3, r4, r5, h]
  simp
/-- what the run wants of the page -/
structure RnOk (P T cl was al ma cy : Int) (cs : List Int) (e a m : Nat) : Prop where
  hp : pgB P T 1 0 = true
  hP : 1 ≤ P ∧ P ≤ 32
  ie : rowI P T 1 0 0 = (e : Int)
  ia : rowI P T 1 1 0 = (a : Int)
  im : rowI P T 1 2 0 = (m : Int)
  le : e < cs.length
  la : a < cs.length
  lm : m < cs.length
  ea : e ≠ a
  em : e ≠ m
  am : a ≠ m
  ent : entB 1 cl 0 0 was = true
  cyc : inB cy 0 4294967295 = true
  ze : cs.getD e 0 = encE 1 cl 0 0 was
  za : cs.getD a 0 = al
  zm : cs.getD m 0 = ma
theorem getD_set_ne (cs : List Int) {i j : Nat} (v : Int) (h : i ≠ j) : (cs.set i v).getD j 0 = cs.getD j 0 := by simp [List.getD_eq_getElem?_getD, h]
theorem getD_set_eq (cs : List Int) {i : Nat} (v : Int) (h : i < cs.length) : (cs.set i v).getD i 0 = v := by simp [List.getD_eq_getElem?_getD, h]
section
variable {w0 w w' : World} {B a c p m : Nat} {K : List Nat} {P T cl was al ma cy : Int} {cs : List Int} {e ia im : Nat}
theorem rn_dec (h : RnOk P T cl was al ma cy cs e ia im) (W : World) :
    Calls Tryz.prog 72 #[.int .u64 (encE 1 cl 0 0 was)] W fun e w' => e = .returned (.tuple #[.agg #[.int .i64 1, .int .i64 cl, .int .i64 0, .int .i64 0, .int .i64 was], .int .i64 0]) ∧ Below W.heap.size W w' := by
  obtain ⟨h1, h2, h3, h4, h5, h6, h7⟩ := decE_of h.ent
  have := edec_yes (encE 1 cl 0 0 was) W h1 h2
  rw [h3, h4, h5, h6, h7] at this
  exact this
theorem rn_step0 (h : RnOk P T cl was al ma cy cs e ia im) (hw : was < cy) {xs : List Value} (hS : SwS w0 B a c p m (rnS P T cl was al ma cy 0) cs xs 0 K 15 true w) (hr : MaR p m K) :
    Calls Tryz.prog 12 #[.pointer (some ⟨m, 0, none⟩), .pointer (some ⟨p, 0, none⟩)] w fun e' w' => (∃ v, e' = .returned v) ∧ ∃ xs', SwS w0 B a c p m (rnS P T cl was al ma cy 1) cs xs' 1 K 15 false w' := by
  have hb := entB_bd h.ent
  have hd : dueB 1 cl 0 0 was cy = true := by
    unfold dueB
    rw [h.ent, decide_eq_true hw]
    rfl
  refine (swStep_load (σ := rnS P T cl was al ma cy 0) (σ' := rnS P T cl was al ma cy 1) ⟨rfl, rfl, rfl, rfl⟩ (encE 1 cl 0 0 was) h.ze h.ie (fun W xs' hS => ?_) hS hr (by decide) rfl h.le).mono fun e' w' ⟨h1, h2⟩ => ⟨⟨_, h1⟩, _, h2⟩
  exact swEx_due (σ := rnS P T cl was al ma cy 0) hS hr (encE 1 cl 0 0 was) rfl (by omega) (show (0 : Int) ≤ 0 ∧ (0 : Int) ≤ 31 by omega) (rn_dec h) hd rfl
theorem rn_step0_late (h : RnOk P T cl was al ma cy cs e ia im) (hw : ¬ was < cy) {xs : List Value} (hS : SwS w0 B a c p m (rnS P T cl was al ma cy 0) cs xs 0 K 15 true w) (hr : MaR p m K) :
    Calls Tryz.prog 12 #[.pointer (some ⟨m, 0, none⟩), .pointer (some ⟨p, 0, none⟩)] w fun e' w' => (∃ v, e' = .returned v) ∧ ∃ xs', SwS w0 B a c p m { sw0 P T 1 15 cy 0 with nx := 0, bl := false } cs xs' 1 K 15 false w' := by
  have hd : dueB 1 cl 0 0 was cy = false := by
    unfold dueB
    rw [decide_eq_false hw, Bool.and_false, Bool.and_false, Bool.and_false]
  refine (swStep_load (σ := rnS P T cl was al ma cy 0) (σ' := { sw0 P T 1 15 cy 0 with nx := 0, bl := false }) ⟨rfl, rfl, rfl, rfl⟩ (encE 1 cl 0 0 was) h.ze h.ie (fun W xs' hS => ?_) hS hr (by decide) rfl h.le).mono fun e' w' ⟨h1, h2⟩ => ⟨⟨_, h1⟩, _, h2⟩
  exact swEx_late (σ := rnS P T cl was al ma cy 0) hS hr (encE 1 cl 0 0 was) rfl (rn_dec h) hd
theorem rn_step (h : RnOk P T cl was al ma cy cs e ia im) (hw : was < cy) {i : Nat} (hi : i < 7) {xs : List Value} (hS : SwS w0 B a c p m (rnS P T cl was al ma cy i) (rnC cs e ia im cl was al ma cy i) xs i K 15 true w) (hr : MaR p m K) :
    Calls Tryz.prog 12 #[.pointer (some ⟨m, 0, none⟩), .pointer (some ⟨p, 0, none⟩)] w fun e' w' => (∃ v, e' = .returned v) ∧ ∃ xs', SwS w0 B a c p m (rnS P T cl was al ma cy (i + 1)) (rnC cs e ia im cl was al ma cy (i + 1)) xs' (i + 1) K 15 false w' := by
  have hb := entB_bd h.ent
  have hin : inB was 0 4294967295 = true := by unfold inB; exact decide_eq_true (by omega)
  have hent2 : ∀ s o, (s = 0 ∧ o = 0 ∨ s = 2 ∧ o = 15) → ∀ y, inB y 0 4294967295 = true → entB 1 cl s o y = true := by
    intro s o hso y hy
    have h1 := h.ent
    unfold entB at h1 ⊢
    rw [Bool.and_eq_true, Bool.and_eq_true] at h1
    rw [hy]
    rcases hso with ⟨rfl, rfl⟩ | ⟨rfl, rfl⟩
    · rw [h1.1.2]; exact h1.2
    · exact h1.2
  have hc : i = 0 ∨ i = 1 ∨ i = 2 ∨ i = 3 ∨ i = 4 ∨ i = 5 ∨ i = 6 := by omega
  rcases hc with rfl | rfl | rfl | rfl | rfl | rfl | rfl
  · exact rn_step0 h hw hS hr
  · refine (swStep_take (σ := rnS P T cl was al ma cy 1) (encE 1 cl 0 0 was) (encE 1 cl 2 15 was) (encE 1 cl 2 15 was) true h.ze rfl (by unfold casI; exact if_pos rfl) (beq_self_eq_true _) h.ie ?_ hS hr (by decide) rfl h.le).mono fun e' w' ⟨h1, h2⟩ => ⟨⟨_, h1⟩, _, h2⟩
    show tkB 1 cl 0 0 was 2 15 = true
    unfold tkB
    rw [h.ent, hent2 2 15 (.inr ⟨rfl, rfl⟩) was hin]
    rfl
  · exact (swStep_mark (σ := rnS P T cl was al ma cy 2) (i := im) ma (by show (cs.set e _).getD im 0 = ma; rw [getD_set_ne _ _ h.em]; exact h.zm) h.im hS hr (by decide) rfl (by show im < (cs.set e _).length; rw [List.length_set]; exact h.lm)).mono fun e' w' ⟨h1, h2⟩ => ⟨⟨_, h1⟩, _, h2⟩
  · refine (swStep_alloc (σ := rnS P T cl was al ma cy 3) (σ' := rnS P T cl was al ma cy 4) (i := ia) ⟨rfl, rfl, rfl, rfl⟩ al (by show (cs.set e _).getD ia 0 = al; rw [getD_set_ne _ _ h.ea]; exact h.za) h.ia (fun W xs' hS => ?_) hS hr (by decide) rfl (by show ia < (cs.set e _).length; rw [List.length_set]; exact h.la)).mono fun e' w' ⟨h1, h2⟩ => ⟨⟨_, h1⟩, _, h2⟩
    exact swCompare_small (σ := rnS P T cl was al ma cy 3) hS hr al rfl
  · exact (swStep_store (σ := rnS P T cl was al ma cy 4) (i := ia) _ rfl h.ia hS hr (by decide) rfl (by show ia < (cs.set e _).length; rw [List.length_set]; exact h.la)).mono fun e' w' ⟨h1, h2⟩ => ⟨⟨_, h1⟩, _, h2⟩
  · refine (swStep_clear (σ := rnS P T cl was al ma cy 5) (i := im) _ rfl h.im false ?_ hS hr (by decide) rfl (by show im < ((cs.set e _).set ia _).length; rw [List.length_set, List.length_set]; exact h.lm)).mono fun e' w' ⟨h1, h2⟩ => ⟨⟨_, h1⟩, _, h2⟩
    show (_ && decide ((0 : Int) < 0)) = false
    rw [decide_eq_false (by omega), Bool.and_false]
  · refine (swStep_end (σ := rnS P T cl was al ma cy 6) (i := e) _ rfl h.ie (lastI cl al ma cy) (fun W hS => ?_) hS hr (by decide) rfl (by show e < (((cs.set e _).set ia _).set im _).length; rw [List.length_set, List.length_set, List.length_set]; exact h.le)).mono fun e' w' ⟨h1, h2⟩ => ⟨⟨_, h1⟩, _, h2⟩
    unfold lastI
    cases hk : (bits .and .u64 al ma == 0) with
    | true => exact swLast_zero hS (show bits .and .u64 al ma = 0 by simpa using hk)
    | false =>
      refine swLast_some hS hk ?_
      show gvB 1 cl 0 0 was cy = true
      unfold gvB
      rw [h.ent, hent2 0 0 (.inl ⟨rfl, rfl⟩) cy h.cyc]
      rfl
end
end Go.Proofs.YtnodeojeijekcaaGreat
