/- RingSteps: the walk. Condition: each number of the row fits its kind. -/
import Derived.Deep.CutBlock
import Derived.Deep.DeepCutAuto
import Derived.Test.YtamekeebgkdhcaaGRingSteps05
import Derived.Test.YtamekeebgkdhcaaGRingSteps10
import Derived.Test.YtamekeebgkdhcaaGRingSteps11
namespace Go.Proofs.Ytamekeebgkdhcaa
open Go.RowKit Go.Shelf
attribute [local go_sem] Oper.semAt_some
set_option linter.unusedVariables false
def side0 : Array Value := #[.pointer none, .pointer none, .pointer none, .pointer none, .int .u64 0]
theorem info_side : (Try.prog.info? 49).map (fun i => (i.zero, i.size, i.bytes)) = some (some (.agg side0), 5, 40) := by kernel_rfl
theorem run_mkS (W : World) (n : Nat) (h1 : n ≤ 4096) : (Instr.makeSlice 40 (.int .i64 (n : Int)) (.int .i64 (n : Int))).run Try.prog W = .ok (.slice (some ⟨W.heap.size, 0, none⟩) n n) (W.alloc (.cells (madeCells side0 (n * 5)) 49)) := by
  obtain ⟨i0, hi0, hz0, hz1, hz2⟩ := info_parts info_side
  rw [run_make W 40 49 i0 _ Try.underlying40 hi0 hz0 .i64 .i64 (n : Int) (n : Int) (by omega) (Int.le_refl _) (by rw [hz2]; omega) (by omega), hz1, Int.toNat_natCast]
  rfl
theorem side_made (T : Nat) : SideOk T (madeCells side0 (T * 5)) (fun _ => none) := by
  have hs : (madeCells side0 (T * 5)).size = T * 5 := by simp [madeCells]
  have ha : ∀ i, i < T * 5 → (madeCells side0 (T * 5))[i]? = some (side0.getD (i % 5) default) := by
    intro i hi
    simp [madeCells, hi, side0]
  refine ⟨by omega, fun t ht => .inl ⟨rfl, ?_⟩, fun t ht => .inl ⟨rfl, ?_⟩⟩
  · rw [ha _ (by omega), show 5 * t % 5 = 0 by omega]; rfl
  · rw [ha _ (by omega), show (5 * t + 1) % 5 = 1 by omega]; rfl
theorem Gs.box {w0 w : World} {Z : Nat → Prop} {B a c p sb M d : Nat} {P T R : Int} {sc : Array Value} {mk : Nat → Option Mc} {cs : List Int} {xs : List Value} {n : Nat} {lv lm : Value} (h : Gs w0 Z B a c p sb M d P T R sc mk cs xs n lv lm w) {b : Nat} {ds : Array Value} {t : TypeId} (hb : Blk w0 b ds t) (hz : Z b) : Blk w b ds t := hb.of (h.block b hz)
theorem Gs.below2 {v w0 w : World} {Z : Nat → Prop} {B a c p sb M d k : Nat} {P T R : Int} {sc : Array Value} {mk : Nat → Option Mc} {cs : List Int} {xs : List Value} {n : Nat} {lv lm : Value} (h : Gs w0 Z B a c p sb M d P T R sc mk cs xs n lv lm w) (hB : Below k v w0) (hz : ∀ b, b < k → Z b) : Below k v w :=
  ⟨h.os.trans hB.os, h.tape.trans hB.tape, h.output.trans hB.output, Nat.le_trans hB.size h.size, fun b hb => (h.block b (hz b hb)).trans (hB.block b hb)⟩
theorem Gs.start {w7 : World} {Bs a c p d N z0 T : Nat} {P R : Int} (mb : Array Value) (tb : TypeId) (hX : Arx w7 Bs a c (List.replicate N 0) [] 0 [p]) (hP : PortAt w7 p a 9 false) (hD : RefA w7 Bs (d + 1) d (List.replicate N 0) (.slice none 0 0) [] 0 0) (lX : a < d ∧ c < d ∧ p < d) (sB : d + 2 ≤ w7.heap.size) (hpl : Bs ≤ p) (lB : z0 ≤ Bs) (hN : cellsN P (T : Int) R = N) :
    ∃ lv, Gs ((w7.alloc (.cells mb tb)).alloc (.cells (madeCells side0 (T * 5)) 49)) (fun b => b < z0 ∨ b = w7.heap.size) Bs a c p (w7.heap.size + 1) (d + 1) d P (T : Int) R (madeCells side0 (T * 5)) (fun _ => none) (List.replicate N 0) [] 0 lv (.slice none 0 0) ((w7.alloc (.cells mb tb)).alloc (.cells (madeCells side0 (T * 5)) 49)) := by
  have hb : Below w7.heap.size w7 ((w7.alloc (.cells mb tb)).alloc (.cells (madeCells side0 (T * 5)) 49)) := ((Below.refl _ _).alloc (Nat.le_refl _) _).alloc (by simp) _
  have hsz : ((w7.alloc (.cells mb tb)).alloc (.cells (madeCells side0 (T * 5)) 49)).heap.size = w7.heap.size + 2 := by simp
  have hX2 := hX.grew hb
  obtain ⟨⟨lv, hL, hg⟩, na, nc, lt, ba, bc, bw⟩ := hX2
  have hL0 : ∀ g, lv.ownBlock = some g → Bs ≤ g := fun g e => (hL.own.lt g e).1
  have hac := hL.at'.apart
  have hD2 := hD.touchP (R := fun _ => False) (.of hb) (fun e => e) (fun e => e) (fun _ _ e => e)
  have nap : a ≠ p := fun e => na (by simp [e])
  have ncp : c ≠ p := fun e => nc (by simp [e])
  obtain ⟨⟨lv7, hL7, hg7⟩, _⟩ := id hX
  have hlv : lv7 = lv := by
    have e1 := hL7.at'.own.grew hb
    have e2 := hL.at'.own
    unfold Blk at e1 e2
    rw [e1] at e2
    injection e2 with e2
    injection e2 with e2
    have e3 := congrArg (fun q => q[2]?) e2
    simpa using e3
  subst hlv
  have l7 : ∀ g, lv7.ownBlock = some g → g < w7.heap.size := fun g e => (hL7.own.lt g e).2
  have ldd : ∀ g, lv7.ownBlock = some g → g ≠ d ∧ g ≠ d + 1 := by
    intro g e
    have q1 := own_neP hL7.own hD.row (by decide)
    have q2 := own_neP hL7.own hD.own (by decide)
    exact ⟨fun r => q1 (r ▸ e), fun r => q2 (r ▸ e)⟩
  refine ⟨lv7, hL, Blk.grew hP hb, Blk.new' (by simp), hD2, ba, bc, bw, ?_, ?_, ?_, ?_, ?_, ?_, ?_, ?_, rfl, rfl, rfl, Nat.le_refl _, fun _ _ => rfl, ?_, ?_⟩
  · simp only [List.nodup_cons, List.mem_cons, List.not_mem_nil, or_false, not_or, not_false_eq_true, List.nodup_nil, and_true]
    omega
  · intro g e
    refine ⟨?_, by simp [Value.ownBlock]⟩
    have h1 := l7 g e
    have h2 := ldd g e
    have h3 : g ≠ a := fun r => hL.apa (r ▸ e)
    have h4 : g ≠ c := fun r => hL.apc (r ▸ e)
    have h5 : g ≠ p := fun r => hg g e (by simp [r])
    simp only [List.mem_cons, List.not_mem_nil, or_false, not_or]
    exact ⟨h3, h4, h5, by omega, h2.2, h2.1⟩
  · intro g e; simp [Value.ownBlock] at e
  · intro j k hk; cases hk
  · intro j k hk; cases hk
  · intro i j ki kj _ hi; cases hi
  · intro j
    have : (List.replicate N (0 : Int)).getD j 0 = 0 := by
      rw [List.getD_eq_getElem?_getD, List.getElem?_replicate]; split <;> rfl
    rw [this]; exact ⟨by decide, by decide⟩
  · rw [List.length_replicate, hN]
  · intro b hb2
    rw [hsz]
    have h1 := lX
    omega
  · intro b hb2 hz
    have h1 := lX
    rcases hb2 with hb2 | hb2 | hb2 | ⟨j, k, hk, _⟩
    · simp only [List.mem_cons, List.not_mem_nil, or_false] at hb2
      omega
    · have h2 := hL0 b hb2
      have h3 := l7 b hb2
      omega
    · simp [Value.ownBlock] at hb2
    · cases hk
theorem mod_T (x : Int) (T : Nat) (h0 : 0 < T) (h1 : T ≤ 3) : ∃ t : Nat, wrap64 ((IntKind.u64.wrap x).tmod (T : Int)) = (t : Int) ∧ t < T := by
  have hw : 0 ≤ IntKind.u64.wrap x := by rw [IntKind.wrap_u64]; omega
  generalize IntKind.u64.wrap x = y at *
  have e : y.tmod T = y % T := by rw [Int.tmod_eq_emod_of_nonneg hw]
  have h2 : 0 ≤ y % (T : Int) := Int.emod_nonneg _ (by omega)
  have h3 : y % (T : Int) < T := Int.emod_lt_of_pos _ (by omega)
  rw [e]
  generalize y % (T : Int) = z at *
  rw [IntWalk.wrap64_in z ⟨by omega, by omega⟩]
  exact ⟨z.toNat, by omega, by omega⟩
theorem name_act {F : Fence} {n : Nat} {P : Program} {c : Code} {Q : Exit → Act → World → Prop} {a : Act} {w : World} (h : ∀ a0, a0 = a → c.wpIn F n P Q a0 w) : c.wpIn F n P Q a w := h a rfl
theorem Gs.ary {w0 w : World} {Z : Nat → Prop} {B a c p sb M d : Nat} {P T R : Int} {sc : Array Value} {mk : Nat → Option Mc} {cs : List Int} {xs : List Value} {n : Nat} {lv lm : Value} (h : Gs w0 Z B a c p sb M d P T R sc mk cs xs n lv lm w) : Ary w B a c cs n [] :=
  ⟨xs, ⟨lv, h.real, fun _ _ => by simp⟩, by simp, by simp, by simp, h.ba, h.bc, h.bw⟩
theorem Gs.touchNew {w0 wr W0 W : World} {Z : Nat → Prop} {B a c p sb M d b : Nat} {P T R : Int} {sc : Array Value} {mk : Nat → Option Mc} {cs : List Int} {xs : List Value} {n : Nat} {lv lm : Value} (h : Gs w0 Z B a c p sb M d P T R sc mk cs xs n lv lm wr) (h0 : Gs w0 Z B a c p sb M d P T R sc mk cs xs n lv lm W0) (ht : Touch (fun x => x = b) W0 W) (hb : wr.heap.size ≤ b) : Gs w0 Z B a c p sb M d P T R sc mk cs xs n lv lm W := by
  have s1 := h.real.at'.own.lt
  have s2 := h.real.at'.row.lt
  have s3 := Blk.lt h.port
  have s4 := h.side.lt
  have s5 := h.doc.own.lt
  have s6 := h.doc.row.lt
  have hs := h.size
  refine h0.touch ht (fun x hx => .inr ?_)
  subst hx
  refine ⟨fun hz => by have := h.zl x hz; omega, ?_, fun e => by have := (h.real.own.lt x e).2; omega, fun e => by have := (h.doc.log.lt x e).2; omega, fun j k hk ho => by have := h.ownLt hk x ho; omega⟩
  simp only [List.mem_cons, List.not_mem_nil, or_false]
  omega
theorem Gs.poke {w0 w : World} {Z : Nat → Prop} {B a c p sb M d : Nat} {P T R : Int} {sc : Array Value} {mk : Nat → Option Mc} {cs : List Int} {xs : List Value} {n : Nat} {lv lm : Value} (h : Gs w0 Z B a c p sb M d P T R sc mk cs xs n lv lm w) (i : Nat) (v : Int) (hi : i < cs.length) (hm : cs.length ≤ 1000000) :
    Calls Try.prog 15 #[.pointer (some ⟨a, 0, none⟩), .int .i64 (i : Int), .int .u64 v] w fun e w' => e = .returned (.int .i64 0) ∧ ArenaL w' B a c (cs.set i v) lv xs n 0 ∧ Touch (· = c) w w' :=
  (poke_yes i v h.real.at' hi hm).mono fun e w' ⟨he, hA', hT⟩ => ⟨he, ⟨hA', own_touch h.real.own hT (fun g e r => h.real.apc (e.trans (by rw [r]))), h.real.apa, h.real.apc⟩, hT⟩
theorem new_tape {w : World} (B : Nat) : Blk (w.alloc (.cells #[.slice none 0 0, .int .i64 0, .int .i64 0, .int .i64 0, .int .i64 0, .int .u64 0, .int .u64 0, .int .u64 0, .int .u64 0, .bool false] 58)) w.heap.size (tpCells (.slice none 0 0) ⟨[], 0, 0, 0, 0, 0, false⟩) 58 := Blk.new _ _ _
theorem wrap_at5 (a : Nat) (h : a ≤ 5000) (h2 : 19 ≤ a) : IntKind.i64.wrap (IntKind.i64.wrap (16 + ((a : Int) - 19) + 3) + IntKind.i64.wrap 0) = (a : Int) := by
  rw [wi (by omega : -1000000000000 ≤ 16 + ((a : Int) - 19) + 3 ∧ 16 + ((a : Int) - 19) + 3 ≤ 1000000000000), wi (by omega : (-1000000000000 : Int) ≤ 0 ∧ (0 : Int) ≤ 1000000000000), wi (by omega)]
  omega
theorem wrap_at6 (a : Nat) (h : a ≤ 5000) (h2 : 20 ≤ a) : IntKind.i64.wrap (IntKind.i64.wrap (16 + ((a : Int) - 20) + 3) + IntKind.i64.wrap 1) = (a : Int) := by
  rw [wi (by omega : -1000000000000 ≤ 16 + ((a : Int) - 20) + 3 ∧ 16 + ((a : Int) - 20) + 3 ≤ 1000000000000), wi (by omega : (-1000000000000 : Int) ≤ 1 ∧ (1 : Int) ≤ 1000000000000), wi (by omega)]
  omega
theorem Gs.faults {w0 w : World} {Z : Nat → Prop} {B a c p sb M d : Nat} {P T R : Int} {sc : Array Value} {mk : Nat → Option Mc} {cs : List Int} {xs : List Value} {n : Nat} {lv lm : Value} (h : Gs w0 Z B a c p sb M d P T R sc mk cs xs n lv lm w) :
    Calls Try.prog 16 #[.pointer (some ⟨a, 0, none⟩)] w fun e w' => e = .returned (.int .i64 0) ∧ Gs w0 Z B a c p sb M d P T R sc mk cs xs n lv lm w' :=
  (faults_at h.real.at').mono fun e w' ⟨he, hq⟩ => ⟨he, h.quiet hq⟩
set_option maxRecDepth 100000 in
set_option maxHeartbeats 32000000 in
theorem rsteps_walk (x1 x2 x3 : Int) (A : Option Addr) (len cap : Nat) (w : World) (HR : Hid (∀ i, i < len → ∃ b o kd th v ba, A = some ⟨b, o, none⟩ ∧ b < w.heap.size ∧ w.cell? ⟨b, o + i * 4, none⟩ = some (.int .i64 kd) ∧ w.cell? ⟨b, o + i * 4 + 1, none⟩ = some (.int .i64 th) ∧ w.cell? ⟨b, o + i * 4 + 2, none⟩ = some (.int .u64 v) ∧ w.cell? ⟨b, o + i * 4 + 3, none⟩ = some (.bool ba) ∧ U64 v)) :
    Calls Try.prog 3 #[.agg #[.int .i64 x1, .int .i64 x2, .int .i64 x3], .slice A len cap] w fun e w' => e = .returned (.bool true) ∧ Below w.heap.size w w' := by
  refine (callsIn_wide (n := 9)).1 ?_
  refine callsIn_of_wp_marks Try.func3 rfl trivial ?_ rfl
  simp only [Try.ntmps3, List.size_toArray, List.length_cons, List.length_nil, Nat.reduceAdd, Nat.reduceSub, Array.replicate_succ, Array.replicate_zero, List.push_toArray, List.append_toArray, List.nil_append, List.cons_append]
  refine wpIn_wide.2 ?_
  have hq0 : Blk ((w.alloc (.cells #[.int .i64 x1, .int .i64 x2, .int .i64 x3] 23)).alloc (.cells #[.bool false] 4)) w.heap.size #[.int .i64 x1, .int .i64 x2, .int .i64 x3] 23 := (Blk.new _ _ _).alloc _
  have hr0 : Blk ((w.alloc (.cells #[.int .i64 x1, .int .i64 x2, .int .i64 x3] 23)).alloc (.cells #[.bool false] 4)) (w.heap.size + 1) #[.bool false] 4 := Blk.new' (by simp)
  have hb0 : Below w.heap.size w ((w.alloc (.cells #[.int .i64 x1, .int .i64 x2, .int .i64 x3] 23)).alloc (.cells #[.bool false] 4)) := ((Below.refl _ _).alloc (Nat.le_refl _) _).alloc (by simp) _
  go_wp2_with fail
  refine (ringed_any _).mono ?_
  rintro e w1 ⟨rfl, hb1⟩
  have hq1 := hq0.grew hb1
  have hr1 := hr0.grew hb1
  have hb1 := hb0.trans (hb1.mono hb0.size)
  clear hq0 hr0 hb0
  have d0 := hq1.val 0 rfl
  have d1 := hq1.val 1 rfl
  have d2 := hq1.val 2 rfl
  go_wp2_with fail
  refine (small_any x1 x2 x3 _).mono ?_
  rintro e w2 ⟨P, TI, R, rfl, hP, hT, hR, hb2⟩
  obtain ⟨T, rfl⟩ := Int.eq_ofNat_of_zero_le (show 0 ≤ TI by omega)
  have hqz := hq1.grew hb2
  have hrz := hr1.grew hb2
  have hb2 := hb1.trans (hb2.mono hb1.size)
  have z0 := hqz.val 0 rfl
  have z1 := hqz.val 1 rfl
  have z2 := hqz.val 2 rfl
  have f0 := hqz.frozen 0
  have f1 := hqz.frozen 1
  have f2 := hqz.frozen 2
  have hq3 : Blk (((w2.setCell ⟨w.heap.size, 0, none⟩ (.int .i64 P)).setCell ⟨w.heap.size, 1, none⟩ (.int .i64 (T : Int))).setCell ⟨w.heap.size, 2, none⟩ (.int .i64 R)) w.heap.size #[.int .i64 P, .int .i64 (T : Int), .int .i64 R] 23 := ((hqz.set 0 (.int .i64 P)).set 1 (.int .i64 (T : Int))).set 2 (.int .i64 R)
  have hr3 := ((hrz.other ⟨w.heap.size, 0, none⟩ (.int .i64 P) (by simp)).other ⟨w.heap.size, 1, none⟩ (.int .i64 (T : Int)) (by simp)).other ⟨w.heap.size, 2, none⟩ (.int .i64 R) (by simp)
  have hb3 := (((hb2.setCell (p := ⟨w.heap.size, 0, none⟩) (Nat.le_refl _) (.int .i64 P)).setCell (p := ⟨w.heap.size, 1, none⟩) (Nat.le_refl _) (.int .i64 (T : Int))).setCell (p := ⟨w.heap.size, 2, none⟩) (Nat.le_refl _) (.int .i64 R))
  have g0 := hq3.val 0 rfl
  have g1 := hq3.val 1 rfl
  have g2 := hq3.val 2 rfl
  have hPl : Right P (T : Int) R := ⟨⟨by omega, by omega⟩, ⟨by omega, by omega⟩, ⟨by omega, by omega⟩⟩
  clear hq1 hr1 hb1 d0 d1 d2 hqz hrz hb2
  go_wp2_with fail
  clear z0 z1 z2 f0 f1 f2
  generalize World.setCell (World.setCell (World.setCell w2 _ _) _ _) _ _ = w3 at *
  refine (lay_yes P (T : Int) R 9 _ hPl (by decide) (by decide)).mono ?_
  rintro e w4 ⟨a, c, p, rfl, hX, hPt, hpl, hb4⟩
  have hq4 := hq3.grew hb4
  have hr4 := hr3.grew hb4
  have hs3 := hb3.size
  have lt3 := Blk.lt hr3
  have hB4 := hb3.trans (hb4.mono hb3.size)
  clear hq3 hr3 hb3 hb4 g0 g1 g2
  have g0 := hq4.val 0 rfl
  have g1 := hq4.val 1 rfl
  have g2 := hq4.val 2 rfl
  go_wp2_with fail
  refine (rcells_yes P (T : Int) R _ hPl).mono ?_
  rintro e w5 ⟨rfl, hb5⟩
  have hq5 := hq4.grew hb5
  have hr5 := hr4.grew hb5
  have hX5 := hX.grew hb5
  have hP5 := hPt.grew hb5
  have hB5 := hB4.trans (hb5.mono hB4.size)
  clear hq4 hr4 hX hPt hb5 hB4 g0 g1 g2
  have g0 := hq5.val 0 rfl
  have g1 := hq5.val 1 rfl
  have g2 := hq5.val 2 rfl
  obtain ⟨hN, hN1, hN2⟩ := cellsN_bd hPl
  rw [← hN]
  have HN := Lib.hid hN
  clear hN
  generalize hNN : cellsN P (T : Int) R = N at *
  have HNN := Lib.hid hNN
  clear hNN
  have hmk := fun W => run_mk W (N : Int) (by omega) (by omega)
  have lq5 := hq5.lt
  go_wp2_with fail
  clear hmk
  have hD6 : RefA ((w5.alloc (.cells (zeros N) 41)).alloc (.cells #[.slice (some ⟨w5.heap.size, 0, none⟩) N N, .slice none 0 0, .int .i64 0] 36)) w3.heap.size (w5.heap.size + 1) w5.heap.size (List.replicate N 0) (.slice none 0 0) [] 0 0 := by
    refine ⟨?_, ?_, World.ownsRow_nil _ _ _ _, by omega, by simp [Value.ownBlock], by simp [Value.ownBlock]⟩
    · rw [List.length_replicate]; exact Blk.new' (by simp)
    · exact Blk.alloc (Blk.new _ _ _) _
  have bA : Below w5.heap.size w5 ((w5.alloc (.cells (zeros N) 41)).alloc (.cells #[.slice (some ⟨w5.heap.size, 0, none⟩) N N, .slice none 0 0, .int .i64 0] 36)) := ((Below.refl _ _).alloc (Nat.le_refl _) _).alloc (by simp) _
  have sA : ((w5.alloc (.cells (zeros N) 41)).alloc (.cells #[.slice (some ⟨w5.heap.size, 0, none⟩) N N, .slice none 0 0, .int .i64 0] 36)).heap.size = w5.heap.size + 2 := by simp
  have hX6 := hX5.grew bA
  have hP6 := hP5.grew bA
  have hq6 := hq5.grew bA
  have hr6 := Blk.grew hr5 bA
  have hB6 := hB5.trans (bA.mono hB5.size)
  have lX : a < w5.heap.size ∧ c < w5.heap.size ∧ p < w5.heap.size := ⟨hX5.a_lt, hX5.c_lt, Blk.lt hP5⟩
  have lB : w.heap.size + 1 < w3.heap.size := lt3
  clear hX5 hP5 hq5 hr5 bA hB5 g0 g1 g2
  generalize World.alloc (World.alloc w5 _) _ = w6 at *
  generalize w5.heap.size = d at *
  generalize w3.heap.size = Bs at *
  refine (draw_yes P (T : Int) R _ hPl).mono ?_
  rintro e w7 ⟨rfl, hb7⟩
  unfold mapV
  have hX7 := hX6.grew hb7
  have hP7 := hP6.grew hb7
  have hq7 := hq6.grew hb7
  have hr7 := Blk.grew hr6 hb7
  have hD7 := hD6.touchP (R := fun _ => False) (.of hb7) (fun e => e) (fun e => e) (fun _ _ e => e)
  have hB7 := hB6.trans (hb7.mono hB6.size)
  have sB : d + 2 ≤ w7.heap.size := by have := hb7.size; omega
  clear hX6 hP6 hq6 hr6 hD6 hB6 hb7 sA
  have hmk := fun W => run_mkS W T (by omega)
  have g0 := hq7.val 0 rfl
  have g1 := hq7.val 1 rfl
  have g2 := hq7.val 2 rfl
  have lq7 := hq7.lt
  go_wp2_with fail
  clear hmk
  obtain ⟨lv0, hG0⟩ := Gs.start (T := T) #[.int .i64 P, .int .i64 (T : Int), .int .i64 R, .int .i64 (baseI P (T : Int) R), .int .i64 (tabI (T : Int) R), .int .i64 (baseI P (T : Int) R + 64 * P)] 38 hX7 hP7 hD7 lX sB hpl (z0 := w.heap.size + 2) (by omega) HNN.out
  have b9 : Below w7.heap.size w7 ((w7.alloc (.cells #[.int .i64 P, .int .i64 (T : Int), .int .i64 R, .int .i64 (baseI P (T : Int) R), .int .i64 (tabI (T : Int) R), .int .i64 (baseI P (T : Int) R + 64 * P)] 38)).alloc (.cells (madeCells side0 (T * 5)) 49)) := ((Below.refl _ _).alloc (Nat.le_refl _) _).alloc (by simp) _
  have hQ9 := hq7.grew b9
  have hR9 := Blk.grew hr7 b9
  have hM9 : Blk ((w7.alloc (.cells #[.int .i64 P, .int .i64 (T : Int), .int .i64 R, .int .i64 (baseI P (T : Int) R), .int .i64 (tabI (T : Int) R), .int .i64 (baseI P (T : Int) R + 64 * P)] 38)).alloc (.cells (madeCells side0 (T * 5)) 49)) w7.heap.size #[.int .i64 P, .int .i64 (T : Int), .int .i64 R, .int .i64 (baseI P (T : Int) R), .int .i64 (tabI (T : Int) R), .int .i64 (baseI P (T : Int) R + 64 * P)] 38 := (Blk.new _ _ _).alloc _
  have hB9 := hB7.trans (b9.mono hB7.size)
  have hS0 := side_made T
  have hx : ∀ t : Nat, t < T → exB P (T : Int) R (t : Int) = true := fun t ht => by
    unfold exB
    rw [of_right hPl]
    simp [inB]; omega
  have HX := Lib.hid hx
  have HPL := Lib.hid hPl
  have hN3 : N ≤ 4096 := by omega
  clear hX7 hP7 hD7 hq7 hr7 b9 hB7 g0 g1 g2 hx hPl HN HNN
  generalize hbm : w7.heap.size = bm at *
  clear hbm
  generalize World.alloc (World.alloc w7 _) _ = w9 at *
  generalize madeCells side0 (T * 5) = sc0 at *
  have HB := Lib.hid (And.intro hQ9 (And.intro hR9 (And.intro hM9 hB9)))
  have HG := Lib.hid (And.intro hG0 hS0)
  clear hQ9 hR9 hM9 hB9 hG0 hS0
  have hqb : w.heap.size < w.heap.size + 2 := by omega
  go_loopw [11, 12] (fun s11 s12 wr => ∃ (i : Nat) (bg : Bool) (sc : Array Value) (mk : Nat → Option Mc) (cs : List Int) (xs : List Value) (n : Nat) (lv lm : Value), i ≤ len ∧ i ≤ 120 ∧ s11 = .bool bg ∧ s12 = .int .i64 i ∧ Gs w9 (fun b => b < w.heap.size + 2 ∨ b = bm) Bs a c p (bm + 1) (d + 1) d P (T : Int) R sc mk cs xs n lv lm wr ∧ SideOk T sc mk ∧ GoodL xs n ∧ n ≤ i) (fun _ i _ => 120 - (intOf i).toNat)
  case atStart => exact ⟨0, _, _, _, _, _, _, _, _, by omega, by omega, rfl, rfl, HG.out.1, HG.out.2, ⟨fun _ _ => 0, rfl⟩, by omega⟩
  case round =>
    clear HG
    obtain ⟨i, bg, sc, mk, cs, xs, n, lv, lm, hil, hi120, rfl, rfl, hG, hSd, hGd, hni⟩ := hrel
    by_cases hlt : i < len ∧ i < 120
    · obtain ⟨hl1, hl2⟩ := hlt
      obtain ⟨b, o, kd, th, v, ba, rfl, hbw, r0, r1, r2, r3, hv⟩ := HR.out i hl1
      have bel := hG.below2 HB.out.2.2.2 (fun b h => .inl (by omega))
      have r0 := (bel.cell (p := ⟨b, o + i * 4, none⟩) hbw).trans r0
      have r1 := (bel.cell (p := ⟨b, o + i * 4 + 1, none⟩) hbw).trans r1
      have r2 := (bel.cell (p := ⟨b, o + i * 4 + 2, none⟩) hbw).trans r2
      have r3 := (bel.cell (p := ⟨b, o + i * 4 + 3, none⟩) hbw).trans r3
      have hQ := hG.box HB.out.1 (.inl hqb)
      have g1 := hQ.val 1 rfl
      have lq := hQ.lt
      have i1 : (i : Int) < (len : Int) := by omega
      have i2 : (i : Int) < 120 := by omega
      have i0 : (0 : Int) ≤ (i : Int) := by omega
      have hsz := hG.size
      obtain ⟨tt, HT, htT⟩ := mod_T th T (by omega) (by omega)
      have hsx := HX.out tt htT
      have hpu := hSd.pu tt htT
      have hpo := hSd.po tt htT
      rw [show 5 * tt = tt * 5 by omega] at hpu hpo
      have hO : Blk (wr.alloc (.cells #[.int .i64 kd, .int .i64 th, .int .u64 v, .bool ba] 43)) wr.heap.size #[.int .i64 kd, .int .i64 th, .int .u64 v, .bool ba] 43 := Blk.new _ _ _
      have hGa := hG.grew ((Below.refl _ _).alloc (Nat.le_refl _) (.cells #[.int .i64 kd, .int .i64 th, .int .u64 v, .bool ba] 43))
      have o0 := hO.val 0 rfl
      have o1 := hO.val 1 rfl
      have o2 := hO.val 2 rfl
      have o3 := hO.val 3 rfl
      have gM := (hGa.box HB.out.2.2.1 (.inr rfl))
      have m0 := gM.val 0 rfl
      have m1 := gM.val 1 rfl
      have m2 := gM.val 2 rfl
      have m3 := gM.val 3 rfl
      have m4 := gM.val 4 rfl
      have m5 := gM.val 5 rfl
      by_cases k3 : kd = 3
      · subst k3
        as_aux_lemma =>
        rcases hpu with ⟨hmk, hc0⟩ | ⟨k, hmk, hc0, hc2, hc4⟩
        · have s0 := hGa.side.val _ hc0
          go_wp2_with fail
          refine hGa.faults.mono ?_
          rintro e w20 ⟨rfl, hG20⟩
          go_wp2
          go_roundw
          case rel => exact ⟨i + 1, _, _, _, _, _, _, _, _, by omega, by omega, rfl, by go_num, hG20, hSd, hGd, by omega⟩
          case measure => simp [intOf]; omega
        · have s0 := hGa.side.val _ hc0
          have PS := Lib.hid (hGa.pushes tt k hmk (baseI P (T : Int) R) (tabI (T : Int) R) (baseI P (T : Int) R + 64 * P) (tt * 5) ba (Lib.hid ⟨hc0, hc2, hc4⟩) hsx (by omega))
          go_wp2_with fail
          refine PS.out.mono ?_
          rintro e w19 ⟨rfl, k', cs', xs', n', lv', lm', hG19, e1, e2, e3, gr⟩
          obtain ⟨hGd2, hn2⟩ := hGd.grown gr
          go_wp2_with fail
          refine hG19.faults.mono ?_
          rintro e w20 ⟨rfl, hG20⟩
          go_wp2
          go_roundw
          case rel => exact ⟨i + 1, _, _, _, _, _, _, _, _, by omega, by omega, rfl, by go_num, hG20, hSd.stepU hmk e1 e2 e3, hGd2, by omega⟩
          case measure => simp [intOf]; omega
      · have j3 : (kd == 3) = false := by simpa using k3
        by_cases k4 : kd = 4
        · subst k4
          as_aux_lemma =>
          rcases hpo with ⟨hmk, hc0⟩ | ⟨k, hmk, hc0, hc2⟩
          · have s0 := hGa.side.val _ hc0
            go_wp2_with fail
            refine hGa.faults.mono ?_
            rintro e w20 ⟨rfl, hG20⟩
            go_wp2
            go_roundw
            case rel => exact ⟨i + 1, _, _, _, _, _, _, _, _, by omega, by omega, rfl, by go_num, hG20, hSd, hGd, by omega⟩
            case measure => simp [intOf]; omega
          · have s0 := hGa.side.val _ hc0
            have PS := Lib.hid (hGa.pops tt k hmk (baseI P (T : Int) R) (tabI (T : Int) R) (baseI P (T : Int) R + 64 * P) (tt * 5) ba (Lib.hid ⟨hc0, hc2⟩) hsx (by omega))
            go_wp2_with fail
            refine PS.out.mono ?_
            rintro e w19 ⟨rfl, k', cs', xs', n', lv', lm', hG19, e1, e2, gr⟩
            obtain ⟨hGd2, hn2⟩ := hGd.grown gr
            go_wp2_with fail
            refine hG19.faults.mono ?_
            rintro e w20 ⟨rfl, hG20⟩
            go_wp2
            go_roundw
            case rel => exact ⟨i + 1, _, _, _, _, _, _, _, _, by omega, by omega, rfl, by go_num, hG20, hSd.stepO hmk e1 e2, hGd2, by omega⟩
            case measure => simp [intOf]; omega
        · have j4 : (kd == 4) = false := by simpa using k4
          by_cases k2 : kd = 2
          · subst k2
            as_aux_lemma =>
            have s1 : (wr.alloc (.cells #[.int .i64 2, .int .i64 th, .int .u64 v, .bool ba] 43)).cell? ⟨bm + 1, tt * 5 + 1, none⟩ ≠ none := by
              rcases hpo with ⟨_, hc⟩ | ⟨k, _, hc, _⟩ <;> (rw [hGa.side.val _ hc]; simp)
            have hQ := hGa.box HB.out.1 (.inl hqb)
            have g0 := hQ.val 0 rfl
            have g1 := hQ.val 1 rfl
            have g2 := hQ.val 2 rfl
            have PL := Lib.hid (fun W => rplan_any P (T : Int) R W)
            have NP := Lib.hid (fun W => newpop_yes P (T : Int) R (tt : Int) W hsx)
            go_wp2_with fail
            refine (PL.out _).mono ?_
            rintro e w10 ⟨rfl, hb10⟩
            have hG10 := hGa.grew hb10
            go_wp2_with fail
            refine (NP.out _).mono ?_
            rintro e w11 ⟨m, rfl, hM11, hml, hb11⟩
            have hG11 := hG10.grew hb11
            obtain ⟨cv1, hcv1⟩ : ∃ q, sc[tt * 5 + 1]? = some q := ⟨_, Array.getElem?_eq_getElem (show tt * 5 + 1 < sc.size by have := hSd.sz; omega)⟩
            obtain ⟨cv3, hcv3⟩ : ∃ q, sc[tt * 5 + 3]? = some q := ⟨_, Array.getElem?_eq_getElem (show tt * 5 + 3 < sc.size by have := hSd.sz; omega)⟩
            have e1 := hG11.side.val _ hcv1
            have e3 := hG11.side.val _ hcv3
            have f1 := hG11.side.frozen (tt * 5 + 1)
            have f3 := hG11.side.frozen (tt * 5 + 3)
            have ls := hG11.side.lt
            obtain ⟨c1, c2, c3⟩ := mc_pop P (T : Int) R tt ⟨m, w11.heap.size, .slice none 0 0, ⟨[], 0, 0, 0, 0, 0, false⟩, 0, 0, 2, false⟩
            have mlt := Blk.lt hM11
            have sz11 := hb11.size
            have hG12 := hG10.new (hb11.alloc sz11 (.cells #[.slice none 0 0, .int .i64 0, .int .i64 0, .int .i64 0, .int .i64 0, .int .u64 0, .int .u64 0, .int .u64 0, .int .u64 0, .bool false] 58)) (2 * tt + 1) ⟨m, w11.heap.size, .slice none 0 0, ⟨[], 0, 0, 0, 0, 0, false⟩, 0, 0, 2, false⟩ (by rw [c1, c2]; exact Blk.alloc hM11 _) ⟨new_tape Bs, World.ownsRow_nil _ _ _ _⟩ (by rw [c3]; exact .inl ⟨rfl, rfl, rfl, rfl⟩) (by simp) (by show m ≠ w11.heap.size; omega) (by simp [Value.ownBlock]) (by simp [Value.ownBlock]) (by
              rintro b (rfl | rfl | hb)
              · exact hml
              · exact sz11
              · simp [Value.ownBlock] at hb)
            have hG13 := (hG12.sided (tt * 5 + 1) (.pointer (some ⟨m, 0, none⟩))).sided (tt * 5 + 3) (.pointer (some ⟨w11.heap.size, 0, none⟩))
            rw [World.setCell_alloc_past _ _ _ _ ls, World.setCell_alloc_past _ _ _ _ (by simpa using ls)] at hG13
            have hSn := hSd.newO htT ⟨m, w11.heap.size, .slice none 0 0, ⟨[], 0, 0, 0, 0, 0, false⟩, 0, 0, 2, false⟩
            rw [show 5 * tt = tt * 5 by omega] at hSn
            have HH := Lib.hid (And.intro hG13 hSn)
            clear hG12 hG13 hSn c1 c2 c3 g0 g1 g2
            go_wp2_with fail
            refine HH.out.1.faults.mono ?_
            rintro e w20 ⟨rfl, hG20⟩
            go_wp2
            go_roundw
            case rel => exact ⟨i + 1, _, _, _, _, _, _, _, _, by omega, by omega, rfl, by go_num, hG20, HH.out.2, hGd, by omega⟩
            case measure => simp [intOf]; omega
          · have j2 : (kd == 2) = false := by simpa using k2
            by_cases k1 : kd = 1
            · subst k1
              have hQ := hGa.box HB.out.1 (.inl hqb)
              have QO := Lib.hid (fun W (hb : Below (wr.alloc (.cells #[.int .i64 1, .int .i64 th, .int .u64 v, .bool ba] 43)).heap.size (wr.alloc (.cells #[.int .i64 1, .int .i64 th, .int .u64 v, .bool ba] 43)) W) => show (W.cell? ⟨w.heap.size, 0, none⟩ = some (.int .i64 P) ∧ W.cell? ⟨w.heap.size, 1, none⟩ = some (.int .i64 (T : Int)) ∧ W.cell? ⟨w.heap.size, 2, none⟩ = some (.int .i64 R)) ∧ W.cell? ⟨wr.heap.size, 2, none⟩ = some (.int .u64 v) from
                have q := Blk.grew hQ hb
                ⟨⟨q.val 0 rfl, q.val 1 rfl, q.val 2 rfl⟩, (Blk.grew hO hb).val 2 rfl⟩)
              have hd : Below (wr.alloc (.cells #[.int .i64 1, .int .i64 th, .int .u64 v, .bool ba] 43)).heap.size (wr.alloc (.cells #[.int .i64 1, .int .i64 th, .int .u64 v, .bool ba] 43)) (wr.alloc (.cells #[.int .i64 1, .int .i64 th, .int .u64 v, .bool ba] 43)).drew := (Below.refl _ _).drew
              have PL := Lib.hid (fun W => rplan_any P (T : Int) R W)
              by_cases v0 : v = 0
              · subst v0
                have NP := Lib.hid (fun W => newpush_no P (T : Int) R (tt : Int) 0 W (.inr rfl))
                as_aux_lemma =>
                go_wp2_with fail
                go_region_held3 (fun W => (W.cell? ⟨w.heap.size, 0, none⟩ = some (.int .i64 P) ∧ W.cell? ⟨w.heap.size, 1, none⟩ = some (.int .i64 (T : Int)) ∧ W.cell? ⟨w.heap.size, 2, none⟩ = some (.int .i64 R)) ∧ W.cell? ⟨wr.heap.size, 2, none⟩ = some (.int .u64 0))
                  (first | (with_reducible exact QO.out _ (by assumption)))
                  (first | (go_at_call 10; refine (PL.out _).mono ?_; rintro e w10 ⟨rfl, hq10⟩; have h10 := hd.trans (hq10.mono hd.size)) | (go_at_call 9; refine (NP.out _).mono ?_; rintro e w11 ⟨rfl, hb11⟩; have h11 := h10.trans (hb11.mono h10.size)))
                have hG11 := hGa.grew h11
                have o2' := (Blk.grew hO h11).val 2 rfl
                go_wp2_with fail
                refine hG11.faults.mono ?_
                rintro e w20 ⟨rfl, hG20⟩
                go_wp2
                go_roundw
                case rel => exact ⟨i + 1, _, _, _, _, _, _, _, _, by omega, by omega, rfl, by go_num, hG20, hSd, hGd, by omega⟩
                case measure => simp [intOf]; omega
              · have NP := Lib.hid (fun W => newpush_yes P (T : Int) R (tt : Int) v W hsx v0)
                as_aux_lemma =>
                have v1 : (v != 0) = true := by simpa using v0
                go_wp2_with fail
                go_region_held3 (fun W => (W.cell? ⟨w.heap.size, 0, none⟩ = some (.int .i64 P) ∧ W.cell? ⟨w.heap.size, 1, none⟩ = some (.int .i64 (T : Int)) ∧ W.cell? ⟨w.heap.size, 2, none⟩ = some (.int .i64 R)) ∧ W.cell? ⟨wr.heap.size, 2, none⟩ = some (.int .u64 v))
                  (first | (with_reducible exact QO.out _ (by assumption)))
                  (first | (go_at_call 10; refine (PL.out _).mono ?_; rintro e w10 ⟨rfl, hq10⟩; have h10 := hd.trans (hq10.mono hd.size)) | (go_at_call 9; refine (NP.out _).mono ?_; rintro e w11 ⟨m, rfl, hM11, hml, hb11⟩; have h11 := h10.trans (hb11.mono h10.size)))
                have hG10 := hGa.grew h10
                have hG11 := hGa.grew h11
                have hO11 := Blk.grew hO h11
                have o2' := hO11.val 2 rfl
                have lO := hO11.lt
                obtain ⟨cv0, hcv0⟩ : ∃ q, sc[tt * 5]? = some q := ⟨_, Array.getElem?_eq_getElem (show tt * 5 < sc.size by have := hSd.sz; omega)⟩
                obtain ⟨cv2, hcv2⟩ : ∃ q, sc[tt * 5 + 2]? = some q := ⟨_, Array.getElem?_eq_getElem (show tt * 5 + 2 < sc.size by have := hSd.sz; omega)⟩
                obtain ⟨cv4, hcv4⟩ : ∃ q, sc[tt * 5 + 4]? = some q := ⟨_, Array.getElem?_eq_getElem (show tt * 5 + 4 < sc.size by have := hSd.sz; omega)⟩
                have e0 := hG11.side.val _ hcv0
                have e2 := hG11.side.val _ hcv2
                have e4 := hG11.side.val _ hcv4
                have f0 := hG11.side.frozen (tt * 5)
                have f2 := hG11.side.frozen (tt * 5 + 2)
                have f4 := hG11.side.frozen (tt * 5 + 4)
                have ls := hG11.side.lt
                have lw := hG.side.lt
                obtain ⟨c1, c2, c3⟩ := mc_push P (T : Int) R tt ⟨m, w11.heap.size, .slice none 0 0, ⟨[], 0, 0, 0, 0, 0, false⟩, v, 0, 1, false⟩
                have mlt := Blk.lt hM11
                have sz11 := hb11.size
                have hG12 := hG10.new (hb11.alloc sz11 (.cells #[.slice none 0 0, .int .i64 0, .int .i64 0, .int .i64 0, .int .i64 0, .int .u64 0, .int .u64 0, .int .u64 0, .int .u64 0, .bool false] 58)) (2 * tt) ⟨m, w11.heap.size, .slice none 0 0, ⟨[], 0, 0, 0, 0, 0, false⟩, v, 0, 1, false⟩ (by rw [c1, c2]; exact Blk.alloc hM11 _) ⟨new_tape Bs, World.ownsRow_nil _ _ _ _⟩ (by rw [c3]; exact ⟨.inl ⟨rfl, rfl, rfl⟩, hv⟩) (by simp) (by show m ≠ w11.heap.size; omega) (by simp [Value.ownBlock]) (by simp [Value.ownBlock]) (by
                  rintro b (rfl | rfl | hb)
                  · exact hml
                  · exact sz11
                  · simp [Value.ownBlock] at hb)
                have hG13 := ((hG12.sided (tt * 5) (.pointer (some ⟨m, 0, none⟩))).sided (tt * 5 + 2) (.pointer (some ⟨w11.heap.size, 0, none⟩))).sided (tt * 5 + 4) (.int .u64 v)
                rw [World.setCell_alloc_past _ _ _ _ ls, World.setCell_alloc_past _ _ _ _ (by simpa using ls), World.setCell_alloc_past _ _ _ _ (by simpa using ls)] at hG13
                have hSn := hSd.newU htT ⟨m, w11.heap.size, .slice none 0 0, ⟨[], 0, 0, 0, 0, 0, false⟩, v, 0, 1, false⟩
                rw [show 5 * tt = tt * 5 by omega] at hSn
                have HH := Lib.hid (And.intro hG13 hSn)
                have HM := Lib.hid hM11
                clear hG12 hG13 hSn c1 c2 c3 hG10 hM11 PL NP
                go_wp2_with fail
                go_region_held3 (fun W => W.cell? ⟨wr.heap.size, 2, none⟩ = some (.int .u64 v))
                  (repeat (first | exact o2' | (refine (World.cell?_setCell_other _ _ _ _ (by first | (simp; done) | (simp; omega))).trans ?_) | (refine (World.cell?_alloc_lt _ _ _ (by first | (simp; done) | (simp; omega))).trans ?_)))
                  (first | fail)
                all_goals
                  clear e0 e2 e4 f0 f2 f4 o2' hO11 hcv0 hcv2 hcv4
                  go_wp2_with fail
                  refine (HH.out.1.drew).faults.mono ?_
                  rintro e w20 ⟨rfl, hG20⟩
                  go_wp2
                  go_roundw
                  case rel => exact ⟨i + 1, _, _, _, _, _, _, _, _, by omega, by omega, rfl, by go_num, hG20, HH.out.2, hGd, by omega⟩
                  case measure => simp [intOf]; omega
            · have j1 : (kd == 1) = false := by simpa using k1
              by_cases k5 : kd = 5
              · skip
                subst k5
                have hR' : 1 ≤ R ∧ R ≤ 16 := by omega
                have ht' : (0 : Int) ≤ (tt : Int) ∧ (tt : Int) ≤ 5 := by omega
                have ST := Lib.hid (fun W => mstatus_any P (T : Int) R (baseI P (T : Int) R) (tabI (T : Int) R) (baseI P (T : Int) R + 64 * P) (tt : Int) W hR' ht')
                obtain ⟨at', hat, hatN⟩ : ∃ at' : Nat, 16 + (tt : Int) * (5 + R) + 3 = (at' : Int) ∧ at' < cs.length := by
                  have i3 := ownN_bd hsx 3 (by decide) (by omega)
                  refine ⟨ownN R (tt : Int) 3, ?_, by rw [hG.hl]; exact i3.2.1⟩
                  have e := (ring_own hsx 3 (by decide)).symm
                  rw [e]; rfl
                have hcl : cs.length ≤ 1000000 := by rw [hG.hl]; have := cellsN_bd HPL.out; omega
                obtain ⟨z, hz, hz1⟩ : ∃ z : Int, (tt : Int) * (5 + R) = z ∧ 0 ≤ z ∧ z ≤ 105 := ⟨_, rfl, Int.mul_nonneg (by omega) (by omega), by
                  calc (tt : Int) * (5 + R) ≤ 5 * (5 + R) := Int.mul_le_mul_of_nonneg_right (by omega) (by omega)
                    _ ≤ 105 := by omega⟩
                rw [hz] at ST hat
                clear hz
                have hat2 : z = (at' : Int) - 19 := by omega
                have SO := Lib.hid (fun W (hb : Below (wr.alloc (.cells #[.int .i64 5, .int .i64 th, .int .u64 v, .bool ba] 43)).heap.size (wr.alloc (.cells #[.int .i64 5, .int .i64 th, .int .u64 v, .bool ba] 43)) W) => show (W.cell? ⟨bm, 0, none⟩ = some (.int .i64 P) ∧ W.cell? ⟨bm, 1, none⟩ = some (.int .i64 (T : Int)) ∧ W.cell? ⟨bm, 2, none⟩ = some (.int .i64 R) ∧ W.cell? ⟨bm, 3, none⟩ = some (.int .i64 (baseI P (T : Int) R)) ∧ W.cell? ⟨bm, 4, none⟩ = some (.int .i64 (tabI (T : Int) R)) ∧ W.cell? ⟨bm, 5, none⟩ = some (.int .i64 (baseI P (T : Int) R + 64 * P))) ∧ W.cell? ⟨wr.heap.size, 0, none⟩ = some (.int .i64 5) from
                  have q := Blk.grew gM hb
                  ⟨⟨q.val 0 rfl, q.val 1 rfl, q.val 2 rfl, q.val 3 rfl, q.val 4 rfl, q.val 5 rfl⟩, (Blk.grew hO hb).val 0 rfl⟩)
                have hd : Below (wr.alloc (.cells #[.int .i64 5, .int .i64 th, .int .u64 v, .bool ba] 43)).heap.size (wr.alloc (.cells #[.int .i64 5, .int .i64 th, .int .u64 v, .bool ba] 43)) (wr.alloc (.cells #[.int .i64 5, .int .i64 th, .int .u64 v, .bool ba] 43)).drew := (Below.refl _ _).drew
                go_wp2_with fail
                go_region_held3 (fun W => (W.cell? ⟨bm, 0, none⟩ = some (.int .i64 P) ∧ W.cell? ⟨bm, 1, none⟩ = some (.int .i64 (T : Int)) ∧ W.cell? ⟨bm, 2, none⟩ = some (.int .i64 R) ∧ W.cell? ⟨bm, 3, none⟩ = some (.int .i64 (baseI P (T : Int) R)) ∧ W.cell? ⟨bm, 4, none⟩ = some (.int .i64 (tabI (T : Int) R)) ∧ W.cell? ⟨bm, 5, none⟩ = some (.int .i64 (baseI P (T : Int) R + 64 * P))) ∧ W.cell? ⟨wr.heap.size, 0, none⟩ = some (.int .i64 5))
                  (first | (with_reducible exact SO.out _ (by assumption)))
                  (first | (go_at_call 14; refine (ST.out _).mono ?_; rintro e w10 ⟨rfl, hb10⟩; have hb11 := hd.trans (hb10.mono hd.size)))
                have hG10 := hGa.grew hb11
                have hO10 := Blk.grew hO hb11
                have o2' := hO10.val 2 rfl
                have PK := Lib.hid (hG10.poke at' v hatN hcl)
                rw [wrap_at5 at' (by omega) (by omega)]
                as_aux_lemma =>
                cases bg with
                | true =>
                  go_wp2_with fail
                  refine hG10.faults.mono ?_
                  rintro e w20 ⟨rfl, hG20⟩
                  go_wp2
                  go_roundw
                  case rel => exact ⟨i + 1, _, _, _, _, _, _, _, _, by omega, by omega, rfl, by go_num, hG20, hSd, hGd, by omega⟩
                  case measure => simp [intOf]; omega
                | false =>
                  go_wp2_with fail
                  refine PK.out.mono ?_
                  rintro e w19 ⟨rfl, hL19, hT19⟩
                  have lc := hG.real.at'.row.lt
                  have hO19 := Blk.touch hO10 hT19 (by omega)
                  have hLd : ArenaL w19.drew Bs a c (cs.set at' v) lv xs n 0 := hL19.touch (R := fun _ => False) (.of (Quiet.below ⟨1, rfl⟩ : Below w19.heap.size w19 w19.drew)) (fun e => e) (fun e => e) (fun _ _ e => e)
                  have hGp := hG10.poked hv hLd hT19.drew
                  have hD19 := hG10.doc.touchP hT19 (by have nd := hG10.nd; intro e; simp [e] at nd) (by have nd := hG10.nd; intro e; simp [e] at nd) (fun g e r => hG10.gm g e (by simp [r]))
                  have s2 := hO19.val 2 rfl
                  have sM := hD19.own.val 0 rfl
                  have sd := hD19.cell at' hatN
                  have sf := hD19.row.frozen at'
                  have aN : (at' : Int) < (cs.length : Int) := by omega
                  have a0 : (0 : Int) ≤ (at' : Int) := by omega
                  have HH := Lib.hid hGp
                  clear hGp hLd hD19 hO19 hL19 hT19 hO10 hG10 PK
                  go_wp2_with fail
                  have ld : d < wr.heap.size := hG.doc.row.lt
                  go_region_held3 (fun W => W.cell? ⟨d + 1, 0, none⟩ = some (.slice (some ⟨d, 0, none⟩) cs.length cs.length) ∧ W.cell? ⟨wr.heap.size, 2, none⟩ = some (.int .u64 v))
                    (first | exact ⟨sM, s2⟩ | exact ⟨(World.cell?_setCell_other w19.drew ⟨d, at', none⟩ ⟨d + 1, 0, none⟩ _ (by simp)).trans sM, (World.cell?_setCell_other w19.drew ⟨d, at', none⟩ ⟨wr.heap.size, 2, none⟩ _ (by first | (simp; done) | (simp; omega))).trans s2⟩)
                    (first | fail)
                  clear sM s2 sd sf
                  go_wp2_with fail
                  refine HH.out.faults.mono ?_
                  rintro e w20 ⟨rfl, hG20⟩
                  go_wp2
                  go_roundw
                  case rel => exact ⟨i + 1, _, _, _, _, _, _, _, _, by omega, by omega, rfl, by go_num, hG20, hSd, hGd, by omega⟩
                  case measure => simp [intOf]; omega
              · have j5 : (kd == 5) = false := by simpa using k5
                by_cases k6 : kd = 6
                · skip
                  subst k6
                  have hR' : 1 ≤ R ∧ R ≤ 16 := by omega
                  have ht' : (0 : Int) ≤ (tt : Int) ∧ (tt : Int) ≤ 5 := by omega
                  have ST := Lib.hid (fun W => mstatus_any P (T : Int) R (baseI P (T : Int) R) (tabI (T : Int) R) (baseI P (T : Int) R + 64 * P) (tt : Int) W hR' ht')
                  obtain ⟨at', hat, hatN⟩ : ∃ at' : Nat, 16 + (tt : Int) * (5 + R) + 4 = (at' : Int) ∧ at' < cs.length := by
                    have i3 := ownN_bd hsx 4 (by decide) (by omega)
                    refine ⟨ownN R (tt : Int) 4, ?_, by rw [hG.hl]; exact i3.2.1⟩
                    have e := (ring_own hsx 4 (by decide)).symm
                    rw [e]; rfl
                  have hcl : cs.length ≤ 1000000 := by rw [hG.hl]; have := cellsN_bd HPL.out; omega
                  obtain ⟨z, hz, hz1⟩ : ∃ z : Int, (tt : Int) * (5 + R) = z ∧ 0 ≤ z ∧ z ≤ 105 := ⟨_, rfl, Int.mul_nonneg (by omega) (by omega), by
                    calc (tt : Int) * (5 + R) ≤ 5 * (5 + R) := Int.mul_le_mul_of_nonneg_right (by omega) (by omega)
                      _ ≤ 105 := by omega⟩
                  rw [hz] at ST hat
                  clear hz
                  have hat2 : z = (at' : Int) - 20 := by omega
                  have SO := Lib.hid (fun W (hb : Below (wr.alloc (.cells #[.int .i64 6, .int .i64 th, .int .u64 v, .bool ba] 43)).heap.size (wr.alloc (.cells #[.int .i64 6, .int .i64 th, .int .u64 v, .bool ba] 43)) W) => show (W.cell? ⟨bm, 0, none⟩ = some (.int .i64 P) ∧ W.cell? ⟨bm, 1, none⟩ = some (.int .i64 (T : Int)) ∧ W.cell? ⟨bm, 2, none⟩ = some (.int .i64 R) ∧ W.cell? ⟨bm, 3, none⟩ = some (.int .i64 (baseI P (T : Int) R)) ∧ W.cell? ⟨bm, 4, none⟩ = some (.int .i64 (tabI (T : Int) R)) ∧ W.cell? ⟨bm, 5, none⟩ = some (.int .i64 (baseI P (T : Int) R + 64 * P))) ∧ W.cell? ⟨wr.heap.size, 0, none⟩ = some (.int .i64 6) from
                    have q := Blk.grew gM hb
                    ⟨⟨q.val 0 rfl, q.val 1 rfl, q.val 2 rfl, q.val 3 rfl, q.val 4 rfl, q.val 5 rfl⟩, (Blk.grew hO hb).val 0 rfl⟩)
                  have hd : Below (wr.alloc (.cells #[.int .i64 6, .int .i64 th, .int .u64 v, .bool ba] 43)).heap.size (wr.alloc (.cells #[.int .i64 6, .int .i64 th, .int .u64 v, .bool ba] 43)) (wr.alloc (.cells #[.int .i64 6, .int .i64 th, .int .u64 v, .bool ba] 43)).drew := (Below.refl _ _).drew
                  go_wp2_with fail
                  go_region_held3 (fun W => (W.cell? ⟨bm, 0, none⟩ = some (.int .i64 P) ∧ W.cell? ⟨bm, 1, none⟩ = some (.int .i64 (T : Int)) ∧ W.cell? ⟨bm, 2, none⟩ = some (.int .i64 R) ∧ W.cell? ⟨bm, 3, none⟩ = some (.int .i64 (baseI P (T : Int) R)) ∧ W.cell? ⟨bm, 4, none⟩ = some (.int .i64 (tabI (T : Int) R)) ∧ W.cell? ⟨bm, 5, none⟩ = some (.int .i64 (baseI P (T : Int) R + 64 * P))) ∧ W.cell? ⟨wr.heap.size, 0, none⟩ = some (.int .i64 6))
                    (first | (with_reducible exact SO.out _ (by assumption)))
                    (first | (go_at_call 14; refine (ST.out _).mono ?_; rintro e w10 ⟨rfl, hb10⟩; have hb11 := hd.trans (hb10.mono hd.size)))
                  have hG10 := hGa.grew hb11
                  have hO10 := Blk.grew hO hb11
                  have o2' := hO10.val 2 rfl
                  have PK := Lib.hid (hG10.poke at' v hatN hcl)
                  rw [wrap_at6 at' (by omega) (by omega)]
                  as_aux_lemma =>
                  cases bg with
                  | true =>
                    go_wp2_with fail
                    refine hG10.faults.mono ?_
                    rintro e w20 ⟨rfl, hG20⟩
                    go_wp2
                    go_roundw
                    case rel => exact ⟨i + 1, _, _, _, _, _, _, _, _, by omega, by omega, rfl, by go_num, hG20, hSd, hGd, by omega⟩
                    case measure => simp [intOf]; omega
                  | false =>
                    go_wp2_with fail
                    refine PK.out.mono ?_
                    rintro e w19 ⟨rfl, hL19, hT19⟩
                    have lc := hG.real.at'.row.lt
                    have hO19 := Blk.touch hO10 hT19 (by omega)
                    have hLd : ArenaL w19.drew Bs a c (cs.set at' v) lv xs n 0 := hL19.touch (R := fun _ => False) (.of (Quiet.below ⟨1, rfl⟩ : Below w19.heap.size w19 w19.drew)) (fun e => e) (fun e => e) (fun _ _ e => e)
                    have hGp := hG10.poked hv hLd hT19.drew
                    have hD19 := hG10.doc.touchP hT19 (by have nd := hG10.nd; intro e; simp [e] at nd) (by have nd := hG10.nd; intro e; simp [e] at nd) (fun g e r => hG10.gm g e (by simp [r]))
                    have s2 := hO19.val 2 rfl
                    have sM := hD19.own.val 0 rfl
                    have sd := hD19.cell at' hatN
                    have sf := hD19.row.frozen at'
                    have aN : (at' : Int) < (cs.length : Int) := by omega
                    have a0 : (0 : Int) ≤ (at' : Int) := by omega
                    have HH := Lib.hid hGp
                    clear hGp hLd hD19 hO19 hL19 hT19 hO10 hG10 PK
                    go_wp2_with fail
                    have ld : d < wr.heap.size := hG.doc.row.lt
                    go_region_held3 (fun W => W.cell? ⟨d + 1, 0, none⟩ = some (.slice (some ⟨d, 0, none⟩) cs.length cs.length) ∧ W.cell? ⟨wr.heap.size, 2, none⟩ = some (.int .u64 v))
                      (first | exact ⟨sM, s2⟩ | exact ⟨(World.cell?_setCell_other w19.drew ⟨d, at', none⟩ ⟨d + 1, 0, none⟩ _ (by simp)).trans sM, (World.cell?_setCell_other w19.drew ⟨d, at', none⟩ ⟨wr.heap.size, 2, none⟩ _ (by first | (simp; done) | (simp; omega))).trans s2⟩)
                      (first | fail)
                    clear sM s2 sd sf
                    go_wp2_with fail
                    refine HH.out.faults.mono ?_
                    rintro e w20 ⟨rfl, hG20⟩
                    go_wp2
                    go_roundw
                    case rel => exact ⟨i + 1, _, _, _, _, _, _, _, _, by omega, by omega, rfl, by go_num, hG20, hSd, hGd, by omega⟩
                    case measure => simp [intOf]; omega
                · have j6 : (kd == 6) = false := by simpa using k6
                  go_wp2_with fail
                  refine hGa.faults.mono ?_
                  rintro e w20 ⟨rfl, hG20⟩
                  go_wp2
                  go_roundw
                  case rel => exact ⟨i + 1, _, _, _, _, _, _, _, _, by omega, by omega, rfl, by go_num, hG20, hSd, hGd, by omega⟩
                  case measure => simp [intOf]; omega
    · obtain ⟨F, hF⟩ := hGd
      subst hF
      obtain ⟨bp, cp, hlv⟩ := row_form hG.real.own
      subst hlv
      obtain ⟨lb, hlrow⟩ : ∃ lb, Hid (0 < n → bp = some ⟨lb, 0, none⟩ ∧ lb < wr.heap.size ∧ LogRow wr lb n F) := by
        by_cases h : 0 < n
        · obtain ⟨lb, hb⟩ := logrow hG.real.own h
          exact ⟨lb, fun _ => hb⟩
        · exact ⟨0, fun h' => absurd h' h⟩
      by_cases hA : i < len
      · have i1 : (i : Int) < (len : Int) := by omega
        have i2 : ¬ (i : Int) < 120 := by omega
        have hsz := hG.size
        have LG := Lib.hid (fun W (q : Gs w9 (fun b => b < w.heap.size + 2 ∨ b = bm) Bs a c p (bm + 1) (d + 1) d P (T : Int) R sc mk cs (flat F (List.range n)) n (.slice bp n cp) lm W) => log_any a c cs true bp n cp n 0 W q.real.at')
        go_wp2_with fail
        have hGb := hG.grew ((Below.refl wr.heap.size wr).alloc (Nat.le_refl _) (.cells #[.slice none 0 0] 34))
        have hb21 : Blk (wr.alloc (.cells #[.slice none 0 0] 34)) wr.heap.size #[.slice none 0 0] 34 := Blk.new _ _ _
        refine (LG.out _ hGb).mono ?_
        rintro e W0 ⟨rfl, b4, hbl, hsz0⟩
        have hrow : Hid (0 < n → bp = some ⟨lb, 0, none⟩ ∧ lb < wr.heap.size ∧ LogRow wr lb n F) := hlrow
        have hbel1 : Below wr.heap.size wr W0 := ((Below.refl _ _).alloc (Nat.le_refl _) _).trans (hbl.mono (by simp))
        have b21 : Boxed W0 wr.heap.size 34 (.slice none 0 0) := Blk.grew hb21 hbl
        have hG0 := hGb.grew hbl
        have hs0 : W0.heap.size = wr.heap.size + 2 := by simp at hsz0; omega
        rw [show (wr.alloc (.cells #[.slice none 0 0] 34)).heap.size = wr.heap.size + 1 by simp] at b4
        clear LG hGb hb21
        go_wp2_with fail
        refine (wpIn_wide (n := 9)).1 ?_
        refine name_act (fun a0 ha0 => ?_)
        obtain ⟨i0, hi, hz0, hz1, hz2⟩ := info_parts info_acc
        refine wpIn_rangeFunc_ownH rfl (by omega) (gf := 43) (lb := #[.pointer (some ⟨wr.heap.size + 1, 0, none⟩)]) (by rw [ha0]; rfl) trivial (enters_of Try.func43 (by kernel_rfl) rfl)
          (log_stops 8 (by omega) (wr.heap.size + 1) wr.heap.size lb n cp bp F W0 (by omega) (by omega) (fun h => by obtain ⟨h1, h2, h3⟩ := hrow.out h; exact ⟨h1, h2, h3.below hbel1 h2⟩) (by omega) b4.cell) belowK_t (belowK_b (by omega)) (Below.refl _ _) (fun _ => rfl)
          (fun pre W => (∃ v, Boxed W wr.heap.size 34 v ∧ W.ownsRow W0.heap.size 56 7 v pre.length (flat F pre) ∧ True) ∧ Touch (fun x => x = wr.heap.size) W0 W)
          (fun _ _ _ => False)
          (OwnFrom.and (Own.from (holdsRow_own W0.heap.size wr.heap.size 34 56 7 (fun pre : List Nat => pre.length) (fun pre : List Nat => flat F pre) (fun _ _ => True)) _) (ownFrom_touch (Nat.le_refl _)))
          (fun _ _ _ _ _ hs _ _ => hs)
          ⟨⟨_, b21, World.ownsRow_nil _ _ _ _, trivial⟩, Touch.refl _ _⟩
          (fun i a' W => ∃ xb, W0.heap.size ≤ xb ∧ a' = { tmps := ((a0.tmps.setIfInBounds 206 (.int .i64 ((i : Nat) : Int))).setIfInBounds 207 (.agg (accA F i))).setIfInBounds 23 (.pointer (some ⟨xb, 0, none⟩)), defers := [] } ∧ Blk W xb (accA F i) 56)
          (fun x a' => blk_own_from _ (fun xb => W0.heap.size ≤ xb) a' _ _) ?assign ?body ?done ?stop
        case assign =>
          rintro l pre i W K ⟨⟨v, hv, hr, _⟩, ht⟩ hK
          have hX : Blk (W.alloc (.cells (accA F i) 56)) W.heap.size (accA F i) 56 := Blk.new _ _ _
          have hK2 := fun a' ha => hK a' (W.alloc (.cells (accA F i) 56)) ((KeepsOthers.alloc W _).from _) ((Below.refl _ W).alloc (by have := ht.size; omega) _) ⟨⟨v, hv.alloc _, hr.alloc _, trivial⟩, ht.alloc _⟩ ⟨W.heap.size, ht.size, ha, hX⟩
          clear hK hX hv hr ht
          subst ha0
          gi_wp2
          try exact hK2 _ rfl
        case body =>
          rintro l pre i a' W _ _ ⟨⟨v, hv, hr, _⟩, ht⟩ ⟨xb, hxb, rfl, hX⟩ hltN
          subst ha0
          have hsW := ht.size
          have HF := Lib.hid (flat_snoc F pre i)
          have HL : Hid ((pre ++ [i]).length = pre.length + 1) := by unfold Hid; simp
          obtain ⟨a1, k1, hveq⟩ := row_form hr
          subst hveq
          have hc := hv.cell
          generalize hp : pre.length = pl at *
          have h200 : ¬ (200 : Int) < (pl : Int) := by omega
          dsimp only [accA] at hX
          generalize F i 0 = q0 at *
          generalize F i 1 = q1 at *
          generalize F i 2 = q2 at *
          generalize F i 3 = q3 at *
          generalize F i 4 = q4 at *
          generalize F i 5 = q5 at *
          generalize F i 6 = q6 at *
          have y0 := hX.val 0 rfl
          have y1 := hX.val 1 rfl
          have y2 := hX.val 2 rfl
          have y3 := hX.val 3 rfl
          have y4 := hX.val 4 rfl
          have y5 := hX.val 5 rfl
          have y6 := hX.val 6 rfl
          simp only [List.setIfInBounds_toArray, List.set_cons_zero, List.set_cons_succ]
          gi_wp2_with (gi_at_builtin; refine wpListIn_append_own _ rfl _ _ 34 rfl W0.heap.size 56 i0 _ 7 56 Try.underlying34 hi hz0 hz1 hz2 rfl (by decide) _ _ _ rfl (hr.alloc _) ⟨W.heap.size, 0, none⟩ 1 1 [.int .i64 q0, .int .i64 q1, .int .i64 q2, .int .u64 q3, .int .u64 q4, .int .u64 q5, .int .u64 q6] rfl rfl (new_cells _ [.int .i64 q0, .int .i64 q1, .int .i64 q2, .int .u64 q3, .int .u64 q4, .int .u64 q5, .int .u64 q6] _ _ rfl) (by simp [Value.oneCell']) (by unfold maxLen; omega) (by omega) (by simp; omega) ?_; intro v' w1 hown' hgrow _; obtain ⟨g', cap', rfl⟩ := ownsRow_succ hown'; obtain ⟨hv1, hv2, hr2, hk2, ht2, hbl2⟩ := appended_touch7 (R := fun x => x = wr.heap.size) rfl hv (by decide) hr hown' hgrow; have hc1 := hv1.cell; have hf1 := hv1.frozen)
          exact ⟨hk2.from _, hbl2 wr.heap.size (by omega) (by omega) (by omega), ⟨_, hv2, by rw [HL.out, HF.out]; first | exact hr2 | (rw [hs0] at hr2; exact hr2)⟩, ht2 W0 ht (Nat.le_refl _)⟩
        case stop =>
          rintro D c pre W _ _ h _
          exact h.elim
        case done =>
          rintro D ys W hD hys ⟨⟨v, hv, hr, _⟩, ht⟩ hDK
          subst ha0
          subst hys
          rw [List.length_range] at hr
          have hGW := hG.touchNew hG0 ht (Nat.le_refl _)
          obtain ⟨a1, k1, hveq⟩ := row_form hr
          subst hveq
          have hQ := hGW.box HB.out.1 (.inl hqb)
          have hRb := hGW.box HB.out.2.1 (.inl (by omega))
          have z0 := hQ.val 0 rfl
          have z1 := hQ.val 1 rfl
          have z2 := hQ.val 2 rfl
          have zM := hGW.doc.own.val 1 rfl
          have zl := hv.cell
          have zr := hRb.val 0 rfl
          have zf := hRb.frozen 0
          have SM := Lib.hid (fun W' (hb : Below W.heap.size W W') => same_own (own_grew hr hb) (hGW.grew hb).doc.log (by omega))
          have WS := Lib.hid (fun W' (hb : Below W.heap.size W W') => waits_any W' ((hGW.grew hb).ary) (hGW.grew hb).doc.own (hGW.grew hb).doc.row HPL.out hGW.hl (by omega))
          have SQ := Lib.hid (fun W' (hb : Below W.heap.size W W') => show (W'.cell? ⟨wr.heap.size, 0, none⟩ = some (.slice a1 n k1) ∧ W'.cell? ⟨d + 1, 1, none⟩ = some lm) ∧ (W'.cell? ⟨w.heap.size, 0, none⟩ = some (.int .i64 P) ∧ W'.cell? ⟨w.heap.size, 1, none⟩ = some (.int .i64 (T : Int)) ∧ W'.cell? ⟨w.heap.size, 2, none⟩ = some (.int .i64 R)) from
            ⟨⟨(Blk.grew hv hb).val 0 rfl, (Blk.grew hGW.doc.own hb).val 1 rfl⟩, ⟨(Blk.grew hQ hb).val 0 rfl, (Blk.grew hQ hb).val 1 rfl, (Blk.grew hQ hb).val 2 rfl⟩⟩)
          have RQ := Lib.hid (fun W' (hb : Below W.heap.size W W') => And.intro ((Blk.grew hRb hb).val 0 rfl) ((Blk.grew hRb hb).frozen 0))
          have HD9 := Lib.hid (fun W' (hb : Below W.heap.size W W') => show W'.heap[D]? = some (.deferred (some [])) from (hb.block D (Array.getElem?_eq_some_iff.1 hDK).1).trans hDK)
          have HW9 := Lib.hid (fun W' (hb : Below W.heap.size W W') => show Below w.heap.size w W' from ((hGW.grew hb).below2 HB.out.2.2.2 (fun b h => .inl (by omega))))
          have hne1 : wr.heap.size ≠ w.heap.size + 1 := by have := hRb.lt; have := hG.zl (w.heap.size + 1) (.inl (by omega)); have := hG.size; omega
          have hne2 : d + 1 ≠ w.heap.size + 1 := by
            intro e
            have := hG.lo (d + 1) (.inl (by simp))
            exact this (.inl (by omega))
          have hd : Below W.heap.size W W.drew := (Below.refl _ _).drew
          go_wp2_with fail
          go_region_held3 (fun W' => (W'.cell? ⟨wr.heap.size, 0, none⟩ = some (.slice a1 n k1) ∧ W'.cell? ⟨d + 1, 1, none⟩ = some lm) ∧ (W'.cell? ⟨w.heap.size, 0, none⟩ = some (.int .i64 P) ∧ W'.cell? ⟨w.heap.size, 1, none⟩ = some (.int .i64 (T : Int)) ∧ W'.cell? ⟨w.heap.size, 2, none⟩ = some (.int .i64 R)))
            (first | (with_reducible exact SQ.out _ (by assumption)) | (obtain ⟨⟨s1, s2⟩, s3, s4, s5⟩ := SQ.out _ h9; exact ⟨⟨(World.cell?_setCell_other w9' ⟨w.heap.size + 1, 0, none⟩ _ _ (by simp)).trans s1, (World.cell?_setCell_other w9' ⟨w.heap.size + 1, 0, none⟩ _ _ (by simp)).trans s2⟩, (World.cell?_setCell_other w9' ⟨w.heap.size + 1, 0, none⟩ _ _ (by simp)).trans s3, (World.cell?_setCell_other w9' ⟨w.heap.size + 1, 0, none⟩ _ _ (by simp)).trans s4, (World.cell?_setCell_other w9' ⟨w.heap.size + 1, 0, none⟩ _ _ (by simp)).trans s5⟩))
            (first | (go_at_call 18; refine (SM.out _ hd).mono ?_; rintro e w8 ⟨rfl, hq8⟩; have h8 := hd.trans hq8.below) | (go_at_call 19; refine (WS.out _ h8).mono ?_; rintro e w9' ⟨rfl, hb9⟩; have h9 := h8.trans (hb9.mono h8.size); have zr9 := (RQ.out _ h9).1; have zf9 := (RQ.out _ h9).2))
          have e0 : (w9'.setCell ⟨w.heap.size + 1, 0, none⟩ (.bool true)).cell? ⟨w.heap.size + 1, 0, none⟩ = some (.bool true) := (Blk.set (Blk.grew hRb h9) 0 (.bool true)).val 0 rfl
          have eD : (w9'.setCell ⟨w.heap.size + 1, 0, none⟩ (.bool true)).heap[D]? = some (.deferred (some [])) := (KeepsOthers.setCell w9' _ _).same D _ (HD9.out _ h9) rfl
          have eB : Below w.heap.size w (w9'.setCell ⟨w.heap.size + 1, 0, none⟩ (.bool true)) := (HW9.out _ h9).setCell (by simp) _
          generalize w9'.setCell ⟨w.heap.size + 1, 0, none⟩ (.bool true) = wz at *
          go_wp2
          have hDw : w.heap.size ≤ D := by have h1 := HB.out.2.2.2.size; have h2 := hG.size; omega
          refine ⟨by simp, .inl ⟨_, _, rfl, run_takeDeferred eD, ?_⟩⟩
          have e0' := cell_kept e0 (grownBy_putObj' _ D (.deferred none)) (fun r e => by cases e; exact ⟨_, eD, rfl⟩)
          refine ⟨.bool true, ?_, ⟨rfl, eB.trans (belowK_b (w := w) (Nat.le_refl _) _ D _ _ (by omega) eD rfl rfl)⟩⟩
          simp [results, Try.f3, go_sem, e0']
      · have i1 : ¬ (i : Int) < (len : Int) := by omega
        have hsz := hG.size
        have LG := Lib.hid (fun W (q : Gs w9 (fun b => b < w.heap.size + 2 ∨ b = bm) Bs a c p (bm + 1) (d + 1) d P (T : Int) R sc mk cs (flat F (List.range n)) n (.slice bp n cp) lm W) => log_any a c cs true bp n cp n 0 W q.real.at')
        go_wp2_with fail
        have hGb := hG.grew ((Below.refl wr.heap.size wr).alloc (Nat.le_refl _) (.cells #[.slice none 0 0] 34))
        have hb21 : Blk (wr.alloc (.cells #[.slice none 0 0] 34)) wr.heap.size #[.slice none 0 0] 34 := Blk.new _ _ _
        refine (LG.out _ hGb).mono ?_
        rintro e W0 ⟨rfl, b4, hbl, hsz0⟩
        have hrow : Hid (0 < n → bp = some ⟨lb, 0, none⟩ ∧ lb < wr.heap.size ∧ LogRow wr lb n F) := hlrow
        have hbel1 : Below wr.heap.size wr W0 := ((Below.refl _ _).alloc (Nat.le_refl _) _).trans (hbl.mono (by simp))
        have b21 : Boxed W0 wr.heap.size 34 (.slice none 0 0) := Blk.grew hb21 hbl
        have hG0 := hGb.grew hbl
        have hs0 : W0.heap.size = wr.heap.size + 2 := by simp at hsz0; omega
        rw [show (wr.alloc (.cells #[.slice none 0 0] 34)).heap.size = wr.heap.size + 1 by simp] at b4
        clear LG hGb hb21
        go_wp2_with fail
        refine (wpIn_wide (n := 9)).1 ?_
        refine name_act (fun a0 ha0 => ?_)
        obtain ⟨i0, hi, hz0, hz1, hz2⟩ := info_parts info_acc
        refine wpIn_rangeFunc_ownH rfl (by omega) (gf := 43) (lb := #[.pointer (some ⟨wr.heap.size + 1, 0, none⟩)]) (by rw [ha0]; rfl) trivial (enters_of Try.func43 (by kernel_rfl) rfl)
          (log_stops 8 (by omega) (wr.heap.size + 1) wr.heap.size lb n cp bp F W0 (by omega) (by omega) (fun h => by obtain ⟨h1, h2, h3⟩ := hrow.out h; exact ⟨h1, h2, h3.below hbel1 h2⟩) (by omega) b4.cell) belowK_t (belowK_b (by omega)) (Below.refl _ _) (fun _ => rfl)
          (fun pre W => (∃ v, Boxed W wr.heap.size 34 v ∧ W.ownsRow W0.heap.size 56 7 v pre.length (flat F pre) ∧ True) ∧ Touch (fun x => x = wr.heap.size) W0 W)
          (fun _ _ _ => False)
          (OwnFrom.and (Own.from (holdsRow_own W0.heap.size wr.heap.size 34 56 7 (fun pre : List Nat => pre.length) (fun pre : List Nat => flat F pre) (fun _ _ => True)) _) (ownFrom_touch (Nat.le_refl _)))
          (fun _ _ _ _ _ hs _ _ => hs)
          ⟨⟨_, b21, World.ownsRow_nil _ _ _ _, trivial⟩, Touch.refl _ _⟩
          (fun i a' W => ∃ xb, W0.heap.size ≤ xb ∧ a' = { tmps := ((a0.tmps.setIfInBounds 206 (.int .i64 ((i : Nat) : Int))).setIfInBounds 207 (.agg (accA F i))).setIfInBounds 23 (.pointer (some ⟨xb, 0, none⟩)), defers := [] } ∧ Blk W xb (accA F i) 56)
          (fun x a' => blk_own_from _ (fun xb => W0.heap.size ≤ xb) a' _ _) ?assign ?body ?done ?stop
        case assign =>
          rintro l pre i W K ⟨⟨v, hv, hr, _⟩, ht⟩ hK
          have hX : Blk (W.alloc (.cells (accA F i) 56)) W.heap.size (accA F i) 56 := Blk.new _ _ _
          have hK2 := fun a' ha => hK a' (W.alloc (.cells (accA F i) 56)) ((KeepsOthers.alloc W _).from _) ((Below.refl _ W).alloc (by have := ht.size; omega) _) ⟨⟨v, hv.alloc _, hr.alloc _, trivial⟩, ht.alloc _⟩ ⟨W.heap.size, ht.size, ha, hX⟩
          clear hK hX hv hr ht
          subst ha0
          gi_wp2
          try exact hK2 _ rfl
        case body =>
          rintro l pre i a' W _ _ ⟨⟨v, hv, hr, _⟩, ht⟩ ⟨xb, hxb, rfl, hX⟩ hltN
          subst ha0
          have hsW := ht.size
          have HF := Lib.hid (flat_snoc F pre i)
          have HL : Hid ((pre ++ [i]).length = pre.length + 1) := by unfold Hid; simp
          obtain ⟨a1, k1, hveq⟩ := row_form hr
          subst hveq
          have hc := hv.cell
          generalize hp : pre.length = pl at *
          have h200 : ¬ (200 : Int) < (pl : Int) := by omega
          dsimp only [accA] at hX
          generalize F i 0 = q0 at *
          generalize F i 1 = q1 at *
          generalize F i 2 = q2 at *
          generalize F i 3 = q3 at *
          generalize F i 4 = q4 at *
          generalize F i 5 = q5 at *
          generalize F i 6 = q6 at *
          have y0 := hX.val 0 rfl
          have y1 := hX.val 1 rfl
          have y2 := hX.val 2 rfl
          have y3 := hX.val 3 rfl
          have y4 := hX.val 4 rfl
          have y5 := hX.val 5 rfl
          have y6 := hX.val 6 rfl
          simp only [List.setIfInBounds_toArray, List.set_cons_zero, List.set_cons_succ]
          gi_wp2_with (gi_at_builtin; refine wpListIn_append_own _ rfl _ _ 34 rfl W0.heap.size 56 i0 _ 7 56 Try.underlying34 hi hz0 hz1 hz2 rfl (by decide) _ _ _ rfl (hr.alloc _) ⟨W.heap.size, 0, none⟩ 1 1 [.int .i64 q0, .int .i64 q1, .int .i64 q2, .int .u64 q3, .int .u64 q4, .int .u64 q5, .int .u64 q6] rfl rfl (new_cells _ [.int .i64 q0, .int .i64 q1, .int .i64 q2, .int .u64 q3, .int .u64 q4, .int .u64 q5, .int .u64 q6] _ _ rfl) (by simp [Value.oneCell']) (by unfold maxLen; omega) (by omega) (by simp; omega) ?_; intro v' w1 hown' hgrow _; obtain ⟨g', cap', rfl⟩ := ownsRow_succ hown'; obtain ⟨hv1, hv2, hr2, hk2, ht2, hbl2⟩ := appended_touch7 (R := fun x => x = wr.heap.size) rfl hv (by decide) hr hown' hgrow; have hc1 := hv1.cell; have hf1 := hv1.frozen)
          exact ⟨hk2.from _, hbl2 wr.heap.size (by omega) (by omega) (by omega), ⟨_, hv2, by rw [HL.out, HF.out]; first | exact hr2 | (rw [hs0] at hr2; exact hr2)⟩, ht2 W0 ht (Nat.le_refl _)⟩
        case stop =>
          rintro D c pre W _ _ h _
          exact h.elim
        case done =>
          rintro D ys W hD hys ⟨⟨v, hv, hr, _⟩, ht⟩ hDK
          subst ha0
          subst hys
          rw [List.length_range] at hr
          have hGW := hG.touchNew hG0 ht (Nat.le_refl _)
          obtain ⟨a1, k1, hveq⟩ := row_form hr
          subst hveq
          have hQ := hGW.box HB.out.1 (.inl hqb)
          have hRb := hGW.box HB.out.2.1 (.inl (by omega))
          have z0 := hQ.val 0 rfl
          have z1 := hQ.val 1 rfl
          have z2 := hQ.val 2 rfl
          have zM := hGW.doc.own.val 1 rfl
          have zl := hv.cell
          have zr := hRb.val 0 rfl
          have zf := hRb.frozen 0
          have SM := Lib.hid (fun W' (hb : Below W.heap.size W W') => same_own (own_grew hr hb) (hGW.grew hb).doc.log (by omega))
          have WS := Lib.hid (fun W' (hb : Below W.heap.size W W') => waits_any W' ((hGW.grew hb).ary) (hGW.grew hb).doc.own (hGW.grew hb).doc.row HPL.out hGW.hl (by omega))
          have SQ := Lib.hid (fun W' (hb : Below W.heap.size W W') => show (W'.cell? ⟨wr.heap.size, 0, none⟩ = some (.slice a1 n k1) ∧ W'.cell? ⟨d + 1, 1, none⟩ = some lm) ∧ (W'.cell? ⟨w.heap.size, 0, none⟩ = some (.int .i64 P) ∧ W'.cell? ⟨w.heap.size, 1, none⟩ = some (.int .i64 (T : Int)) ∧ W'.cell? ⟨w.heap.size, 2, none⟩ = some (.int .i64 R)) from
            ⟨⟨(Blk.grew hv hb).val 0 rfl, (Blk.grew hGW.doc.own hb).val 1 rfl⟩, ⟨(Blk.grew hQ hb).val 0 rfl, (Blk.grew hQ hb).val 1 rfl, (Blk.grew hQ hb).val 2 rfl⟩⟩)
          have RQ := Lib.hid (fun W' (hb : Below W.heap.size W W') => And.intro ((Blk.grew hRb hb).val 0 rfl) ((Blk.grew hRb hb).frozen 0))
          have HD9 := Lib.hid (fun W' (hb : Below W.heap.size W W') => show W'.heap[D]? = some (.deferred (some [])) from (hb.block D (Array.getElem?_eq_some_iff.1 hDK).1).trans hDK)
          have HW9 := Lib.hid (fun W' (hb : Below W.heap.size W W') => show Below w.heap.size w W' from ((hGW.grew hb).below2 HB.out.2.2.2 (fun b h => .inl (by omega))))
          have hne1 : wr.heap.size ≠ w.heap.size + 1 := by have := hRb.lt; have := hG.zl (w.heap.size + 1) (.inl (by omega)); have := hG.size; omega
          have hne2 : d + 1 ≠ w.heap.size + 1 := by
            intro e
            have := hG.lo (d + 1) (.inl (by simp))
            exact this (.inl (by omega))
          have hd : Below W.heap.size W W.drew := (Below.refl _ _).drew
          go_wp2_with fail
          go_region_held3 (fun W' => (W'.cell? ⟨wr.heap.size, 0, none⟩ = some (.slice a1 n k1) ∧ W'.cell? ⟨d + 1, 1, none⟩ = some lm) ∧ (W'.cell? ⟨w.heap.size, 0, none⟩ = some (.int .i64 P) ∧ W'.cell? ⟨w.heap.size, 1, none⟩ = some (.int .i64 (T : Int)) ∧ W'.cell? ⟨w.heap.size, 2, none⟩ = some (.int .i64 R)))
            (first | (with_reducible exact SQ.out _ (by assumption)) | (obtain ⟨⟨s1, s2⟩, s3, s4, s5⟩ := SQ.out _ h9; exact ⟨⟨(World.cell?_setCell_other w9' ⟨w.heap.size + 1, 0, none⟩ _ _ (by simp)).trans s1, (World.cell?_setCell_other w9' ⟨w.heap.size + 1, 0, none⟩ _ _ (by simp)).trans s2⟩, (World.cell?_setCell_other w9' ⟨w.heap.size + 1, 0, none⟩ _ _ (by simp)).trans s3, (World.cell?_setCell_other w9' ⟨w.heap.size + 1, 0, none⟩ _ _ (by simp)).trans s4, (World.cell?_setCell_other w9' ⟨w.heap.size + 1, 0, none⟩ _ _ (by simp)).trans s5⟩))
            (first | (go_at_call 18; refine (SM.out _ hd).mono ?_; rintro e w8 ⟨rfl, hq8⟩; have h8 := hd.trans hq8.below) | (go_at_call 19; refine (WS.out _ h8).mono ?_; rintro e w9' ⟨rfl, hb9⟩; have h9 := h8.trans (hb9.mono h8.size); have zr9 := (RQ.out _ h9).1; have zf9 := (RQ.out _ h9).2))
          have e0 : (w9'.setCell ⟨w.heap.size + 1, 0, none⟩ (.bool true)).cell? ⟨w.heap.size + 1, 0, none⟩ = some (.bool true) := (Blk.set (Blk.grew hRb h9) 0 (.bool true)).val 0 rfl
          have eD : (w9'.setCell ⟨w.heap.size + 1, 0, none⟩ (.bool true)).heap[D]? = some (.deferred (some [])) := (KeepsOthers.setCell w9' _ _).same D _ (HD9.out _ h9) rfl
          have eB : Below w.heap.size w (w9'.setCell ⟨w.heap.size + 1, 0, none⟩ (.bool true)) := (HW9.out _ h9).setCell (by simp) _
          generalize w9'.setCell ⟨w.heap.size + 1, 0, none⟩ (.bool true) = wz at *
          go_wp2
          have hDw : w.heap.size ≤ D := by have h1 := HB.out.2.2.2.size; have h2 := hG.size; omega
          refine ⟨by simp, .inl ⟨_, _, rfl, run_takeDeferred eD, ?_⟩⟩
          have e0' := cell_kept e0 (grownBy_putObj' _ D (.deferred none)) (fun r e => by cases e; exact ⟨_, eD, rfl⟩)
          refine ⟨.bool true, ?_, ⟨rfl, eB.trans (belowK_b (w := w) (Nat.le_refl _) _ D _ _ (by omega) eD rfl rfl)⟩⟩
          simp [results, Try.f3, go_sem, e0']
end Go.Proofs.Ytamekeebgkdhcaa
