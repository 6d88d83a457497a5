/- The law ObjectsBuilds. Conditions: the words are read in full; sizes' table lies as the start lays it. -/
import Derived.Deep.CutBlock
import Derived.Deep.DeepCutAuto
import Derived.Test.YtpoddnfooaddgaaGreatDoorGObjectsBuilds23
import Derived.Test.YtpoddnfooaddgaaGreatDoorGObjectsBuilds24
namespace Go.Proofs.YtpoddnfooaddgaaGreatDoor
open Go.RowKit Go.Shelf
attribute [local go_sem] Oper.semAt_some
set_option linter.unusedVariables false
theorem elW_Ub {B : Nat} {w : World} {v : Value} {l : List (Int × Int)} (h : RdRow 2 ElW B w v l) : ∀ x ∈ l, U64 x.2 := by
  obtain ⟨a, c, _, _, hel⟩ := h
  intro x hx
  obtain ⟨i, hi, rfl⟩ := List.getElem_of_mem hx
  obtain ⟨b, o, _, _, e⟩ := hel i hi
  exact e.2.2
theorem eight_at {w : World} {b : Nat} {v0 v1 v2 v3 v4 v5 v6 v7 : Value} {t : TypeId} (h : Blk w b #[v0, v1, v2, v3, v4, v5, v6, v7] t) :
    w.cell? ⟨b, 0, none⟩ = some v0 ∧ w.cell? ⟨b, 1, none⟩ = some v1 ∧ w.cell? ⟨b, 2, none⟩ = some v2 ∧ w.cell? ⟨b, 3, none⟩ = some v3 ∧ w.cell? ⟨b, 4, none⟩ = some v4 ∧ w.cell? ⟨b, 5, none⟩ = some v5 ∧ w.cell? ⟨b, 6, none⟩ = some v6 ∧ w.cell? ⟨b, 7, none⟩ = some v7 :=
  ⟨h.val 0 rfl, h.val 1 rfl, h.val 2 rfl, h.val 3 rfl, h.val 4 rfl, h.val 5 rfl, h.val 6 rfl, h.val 7 rfl⟩
theorem bstep_shutQ {w : World} {a p m : Nat} {x : Nat} {hd left : Int} {who : Int} (hM : BuildAt w m x hd (left + 1)) (hP : PortAt w p a who false) (hl : 0 ≤ left) :
    Calls Tryz.prog 16 #[.pointer (some ⟨m, 0, none⟩), .pointer (some ⟨p, 0, none⟩)] w fun e w' => e = .returned (.bool false) ∧ Quiet w w' := by
  have e0 : (left + 1 == 0) = false := by simp; omega
  have OV := Lib.hid (fun W (hq : Quiet w W) => bover_any (Blk.quiet hM hq))
  have OP := Lib.hid (fun W (hq : Quiet w W) => open_at p a who false W (Blk.quiet hP hq))
  clear hM hP hl
  go_enter Tryz.func16, Tryz.ntmps16
  go_wp2_with fail
  refine (OV.out _ (Quiet.refl _)).mono ?_; rintro e w1 ⟨rfl, h1⟩
  go_wp2_with fail
  refine (OP.out _ h1).mono ?_; rintro e w2 ⟨rfl, h2⟩
  go_wp2_with fail
  refine (OV.out _ (h1.trans h2)).mono ?_; rintro e w3 ⟨rfl, h3⟩
  go_wp2
  go_ret
  exact ⟨rfl, (h1.trans h2).trans h3⟩
/-- the plan's box, the header's, the result's -/
structure OxS (w : World) (rb P3 P5 : Nat) (P T R c k n : Int) (W : World) : Prop where
  pl : Blk W P3 #[.int .i64 P, .int .i64 T, .int .i64 R] 23
  hd : Blk W P5 #[.int .i64 c, .int .i64 k, .int .i64 n] 25
  res : Blk W rb #[.bool false] 4
  bel : Below w.heap.size w W
theorem OxS.grew {w W W' : World} {rb P3 P5 : Nat} {P T R c k n : Int} (h : OxS w rb P3 P5 P T R c k n W) (hb : Below W.heap.size W W') : OxS w rb P3 P5 P T R c k n W' := ⟨h.pl.grew hb, h.hd.grew hb, h.res.grew hb, h.bel.trans (hb.mono h.bel.size)⟩
theorem OxS.six {w W : World} {rb P3 P5 : Nat} {P T R c k n : Int} (h : OxS w rb P3 P5 P T R c k n W) : (W.cell? ⟨P3, 0, none⟩ = some (.int .i64 P) ∧ W.cell? ⟨P3, 1, none⟩ = some (.int .i64 T) ∧ W.cell? ⟨P3, 2, none⟩ = some (.int .i64 R)) ∧ (W.cell? ⟨P5, 0, none⟩ = some (.int .i64 c) ∧ W.cell? ⟨P5, 1, none⟩ = some (.int .i64 k) ∧ W.cell? ⟨P5, 2, none⟩ = some (.int .i64 n)) := ⟨h.pl.three.1, h.hd.three.1⟩
theorem allow_at {P T R x n : Int} (h : allowB P T R x n = true) : 0 ≤ (placeI P T R x).1 := by
  unfold allowB at h
  rw [Bool.and_eq_true] at h
  simpa using h.1
theorem Arx.addLow {w : World} {B a c b : Nat} {cs : List Int} {xs : List Value} {n : Nat} {K : List Nat} (h : Arx w B a c cs xs n K) (hb : b < B) : Arx w B a c cs xs n (b :: K) := by
  obtain ⟨⟨lv, hL, hg⟩, h1, h2, h3, h4, h5, h6⟩ := h
  refine ⟨⟨lv, hL, fun g e r => ?_⟩, fun r => ?_, fun r => ?_, fun q r => ?_, h4, h5, h6⟩
  · rcases List.mem_cons.1 r with r | r
    · have := (hL.own.lt g e).1; omega
    · exact hg g e r
  · rcases List.mem_cons.1 r with r | r
    · omega
    · exact h1 r
  · rcases List.mem_cons.1 r with r | r
    · omega
    · exact h2 r
  · rcases List.mem_cons.1 r with r | r
    · omega
    · exact h3 q r
theorem place_inB {P T R x : Int} (h : 0 ≤ (placeI P T R x).1) : baseI P T R ≤ x ∧ x ≤ baseI P T R + 64 * P - 1 ∧ (placeI P T R x).1 = (x - baseI P T R) / 64 ∧ (placeI P T R x).2 = (x - baseI P T R) % 64 := by
  unfold placeI at h ⊢
  cases hh : heapB P T R x with
  | false => rw [hh] at h; simp at h
  | true =>
    unfold heapB at hh
    rw [Bool.and_eq_true] at hh
    have := hh.2
    simp [inB] at this
    simp only [if_true]
    exact ⟨this.1, by omega, trivial, trivial⟩
theorem allow_len {P T R x : Int} {N L : Nat} (hr : Right P T R) (hl : L = cellsN P T R) (hN : N ≤ 255) (h : allowB P T R x ((N : Int) + 1) = true) : ∃ X : Nat, x = (X : Int) ∧ X + N < L ∧ X ≤ 100000 := by
  have p0 := allow_at h
  obtain ⟨q0, q1, q2, q3⟩ := place_inB p0
  have hb := base_bd hr
  have hc := cellsN_bd hr
  have hP := place_lt p0
  refine ⟨x.toNat, by omega, ?_, by omega⟩
  unfold allowB at h
  rw [decide_eq_true p0, Bool.true_and] at h
  by_cases h32 : (N : Int) + 1 ≤ 32
  · obtain ⟨e1, e2⟩ := pg_small ((N : Int) + 1) (by omega) h32
    rw [e2, e1, if_pos rfl, if_pos rfl] at h
    have : (placeI P T R x).2 + ((N : Int) + 1) ≤ 64 := by simpa using h
    omega
  · obtain ⟨e1, e2⟩ := pg_mid ((N : Int) + 1) (by omega) (by omega)
    rw [e2, if_pos rfl, e1, if_neg (by omega)] at h
    have : (placeI P T R x).2 = 0 ∧ (placeI P T R x).1 + ((N : Int) + 1 + 63) / 64 ≤ P := by simpa using h
    omega
def tp0 : Tp := ⟨[], 0, 0, 0, 0, 0, false⟩
def F0 : Nat → Nat → Int := fun _ _ => 0
theorem ou_start {w w8 W : World} {rb P3 P5 B a c d m p M X : Nat} {P' k1 k2 k3 H left : Int} {cs : List Int} (hA : Ary w8 B a c cs 0 [d]) (hD : Blk W d (cs.map (Value.int .u64)).toArray 57) (hS : OxS w rb P3 P5 P' 1 1 k1 k2 k3 W) (hM : BuildAt W m X H left) (hP : PortAt W p a 2 false) (hb : Below w8.heap.size w8 W)
    (hR : Blk W M #[.slice (some ⟨d, 0, none⟩) cs.length cs.length, .slice none 0 0, .int .i64 0] 55) (hT : Blk W (M + 1) (tpCells (.slice none 0 0) tp0) 61)
    (h : w.heap.size ≤ rb ∧ rb < P5 ∧ P5 < B ∧ B ≤ d ∧ d < w8.heap.size ∧ w8.heap.size ≤ m ∧ m < p ∧ p < M) :
    ∃ K, OuT w rb P5 B a c p m M d (M + 1) X H left k1 k2 k3 cs F0 0 cs F0 0 tp0 false K (.slice none 0 0) (.slice none 0 0) W := by
  obtain ⟨h0, h1, h2, h3, h4, h5, h6, h7⟩ := h
  have hA2 := hA.addsO (L := between w8.heap.size W.heap.size) hb (fun b hb => mem_between.1 hb)
  obtain ⟨xs, hX⟩ := hA2
  have hxs : xs = flat F0 (List.range 0) := by
    obtain ⟨⟨lv, hL, _⟩, _⟩ := hX
    exact List.eq_nil_of_length_eq_zero (by simpa using hL.own.1)
  rw [hxs] at hX
  have hX2 := (hX.addLow (b := P5) h2).addLow (b := rb) (by omega)
  have hTl := hT.lt
  have hMl := hR.lt
  have hml := Blk.lt hM
  have hpl := Blk.lt hP
  refine ⟨_, { mach := hM, arx := hX2, port := hP, doc := ⟨hR, hD, ⟨rfl, .inl ⟨rfl, rfl⟩⟩, by omega, by simp [Value.ownBlock], by simp [Value.ownBlock]⟩, tape := ⟨hT, ⟨rfl, .inl ⟨rfl, rfl⟩⟩⟩, res := hS.res, hd := hS.hd, bel := hS.bel, inK := ?_, lmK := fun g e => by simp [Value.ownBlock] at e, hvK := fun g e => by simp [Value.ownBlock] at e, nd := ?_, lmn := fun g e => by simp [Value.ownBlock] at e, hvn := fun g e => by simp [Value.ownBlock] at e, lo := ?_, lB := by omega }⟩
  · intro b hb2
    simp only [obL, List.mem_cons, List.not_mem_nil, or_false] at hb2
    have hbt : ∀ b, w8.heap.size ≤ b → b < W.heap.size → b ∈ rb :: P5 :: (between w8.heap.size W.heap.size ++ [d]) := fun b q1 q2 => List.mem_cons_of_mem _ (List.mem_cons_of_mem _ (List.mem_append_left _ (mem_between.2 ⟨q1, q2⟩)))
    rcases hb2 with rfl | rfl | rfl | rfl | rfl | rfl | rfl
    · exact List.mem_cons_self
    · exact List.mem_cons_of_mem _ List.mem_cons_self
    · exact hbt _ (by omega) hMl
    · simp
    · exact hbt _ (by omega) hTl
    · exact hbt _ (by omega) hml
    · exact hbt _ (by omega) hpl
  · simp only [obL, List.nodup_cons, List.mem_cons, List.not_mem_nil, or_false, not_or, not_false_eq_true, List.nodup_nil, and_true]
    omega
  · intro b hb2
    simp only [obL, List.mem_cons, List.not_mem_nil, or_false] at hb2
    omega
section
variable {w0 W W' : World} {rb P5 B a c p m M d xa x : Nat} {H left k1 k2 k3 : Int} {cs : List Int} {F : Nat → Nat → Int} {n : Nat} {cs2 : List Int} {F2 : Nat → Nat → Int} {n2 : Nat} {t : Tp} {o : Bool} {K : List Nat} {lm hv : Value}
theorem OuT.hdN (h : OuT w0 rb P5 B a c p m M d xa x H left k1 k2 k3 cs F n cs2 F2 n2 t o K lm hv W) : W.cell? ⟨P5, 2, none⟩ = some (.int .i64 k3) := h.hd.val 2 rfl
/-- a fresh box was written -/
theorem OuT.box (h : OuT w0 rb P5 B a c p m M d xa x H left k1 k2 k3 cs F n cs2 F2 n2 t o K lm hv W') {W0 : World} {q : Nat} (hq : q = W'.heap.size) (hb : Below W'.heap.size W' W0) (hlt : q < W0.heap.size) (ht : Touch (fun x => x = q) W0 W) :
    OuT w0 rb P5 B a c p m M d xa x H left k1 k2 k3 cs F n cs2 F2 n2 t o (q :: K) lm hv W := by
  subst hq
  have hl : ∀ b ∈ obL rb P5 M d xa m p, b ≠ W'.heap.size := fun b hb => by have := h.arx.lt b (h.inK b hb); omega
  have l1 : ∀ g, lm.ownBlock = some g → ¬ g = W'.heap.size := fun g e r => by have := (h.doc.log.lt g e).2; omega
  have l2 : ∀ g, hv.ownBlock = some g → ¬ g = W'.heap.size := fun g e r => by have := (h.tape.row.lt g e).2; omega
  have g := h.grew hb
  exact { g with
    mach := Blk.touch g.mach ht (hl m (by simp [obL])), arx := (h.arx.add hb (Nat.le_refl _) hlt).touch ht (fun b e => by rw [e]; exact List.mem_cons_self), port := g.port.touch ht (hl p (by simp [obL])),
    doc := g.doc.touchO ht (hl M (by simp [obL])) (hl d (by simp [obL])) l1, tape := g.tape.touch ht (hl xa (by simp [obL])) l2, res := g.res.touch ht (hl rb (by simp [obL])), hd := g.hd.touch ht (hl P5 (by simp [obL])),
    bel := g.bel.trans (ht.below g.bel.size (fun b e => by have := h.bel.size; omega)),
    inK := fun b hb => List.mem_cons_of_mem _ (h.inK b hb), lmK := fun g e => List.mem_cons_of_mem _ (h.lmK g e), hvK := fun g e => List.mem_cons_of_mem _ (h.hvK g e) }
end
theorem lst_row {w : World} {d : Nat} {cs : List Int} (h : Blk w d (cs.map (Value.int .u64)).toArray 57) (h0 : 0 < cs.length) (hm : cs.length ≤ 1000000) : Lst .u64 w (.slice (some ⟨d, 0, none⟩) cs.length cs.length) cs := by
  refine .inr ⟨d, 0, cs.length, rfl, h0, by unfold maxLen; omega, fun i hi => ?_⟩
  rw [Nat.zero_add]
  exact h.val i (by simp [List.getD_eq_getElem?_getD, hi])
theorem name_actO {F : Fence} {n : Nat} {P : Program} {c : Code} {Q : Exit → Act → World → Prop} {a : Act} {w : World} (h : ∀ a0, a0 = a → c.wpIn F n P Q a0 w) : c.wpIn F n P Q a w := h a rfl
set_option maxRecDepth 100000 in
set_option maxHeartbeats 16000000 in
theorem obuilds_law (P T R x c k n : Int) (v : Value) (l : List (Int × Int)) (w : World) (w0 : (Lit.int .i64 P).wf = true) (w1 : (Lit.int .i64 T).wf = true) (w2 : (Lit.int .i64 R).wf = true) (w3 : (Lit.int .i64 x).wf = true) (w4 : (Lit.int .i64 c).wf = true) (w5 : (Lit.int .i64 k).wf = true) (w6 : (Lit.int .i64 n).wf = true) (hv : RdRow 2 ElW w.heap.size w v l) (hWid : Wid w) :
    Calls Tryz.prog 3 #[.agg #[.int .i64 P, .int .i64 T, .int .i64 R, .int .i64 x, .int .i64 c, .int .i64 k, .int .i64 n, v]] w fun e w' => e = .returned (.bool true) ∧ Below w.heap.size w w' := by
  have hx : I64 x := wf_I64 w3
  have hUl := elW_Ub hv
  obtain ⟨av, qv, rfl⟩ := rd_shape hv
  have RW := Lib.hid (fun W (hb : Below w.heap.size w W) => (hv.keep hb fun _ _ _ e r => r.keep hb e).mono (el' := ElW) hb.size (fun _ _ _ e => e))
  have WI := Lib.hid (fun W (hb : Below w.heap.size w W) => hWid.below hb hWid.lt)
  clear w0 w1 w2 w3 w4 w5 w6 hv hWid
  refine (callsIn_wide (n := 9)).1 ?_
  refine callsIn_of_wp_marks Tryz.func3 rfl trivial ?_ rfl
  simp only [Tryz.ntmps3, List.size_toArray, List.length_cons, List.length_nil, Nat.reduceAdd, Nat.reduceSub, Array.replicate_succ, Array.replicate_zero, List.push_toArray, List.append_toArray, List.nil_append, List.cons_append]
  refine wpIn_wide.2 ?_
  go_upto_region 1 with fail
  have hX : Blk ((w.alloc (.cells #[.int .i64 P, .int .i64 T, .int .i64 R, .int .i64 x, .int .i64 c, .int .i64 k, .int .i64 n, .slice av l.length qv] 28)).alloc (.cells #[.bool false] 4)) w.heap.size #[.int .i64 P, .int .i64 T, .int .i64 R, .int .i64 x, .int .i64 c, .int .i64 k, .int .i64 n, .slice av l.length qv] 28 := (Blk.new _ _ _).alloc _
  have hR : Blk ((w.alloc (.cells #[.int .i64 P, .int .i64 T, .int .i64 R, .int .i64 x, .int .i64 c, .int .i64 k, .int .i64 n, .slice av l.length qv] 28)).alloc (.cells #[.bool false] 4)) (w.heap.size + 1) #[.bool false] 4 := Blk.new' (by simp)
  have hB : Below w.heap.size w ((w.alloc (.cells #[.int .i64 P, .int .i64 T, .int .i64 R, .int .i64 x, .int .i64 c, .int .i64 k, .int .i64 n, .slice av l.length qv] 28)).alloc (.cells #[.bool false] 4)) := ((Below.refl _ _).alloc (Nat.le_refl _) _).alloc (by simp) _
  generalize (w.alloc (.cells #[.int .i64 P, .int .i64 T, .int .i64 R, .int .i64 x, .int .i64 c, .int .i64 k, .int .i64 n, .slice av l.length qv] 28)).alloc (.cells #[.bool false] 4) = W at *
  obtain ⟨x0, x1, x2, x3, x4, x5, x6, x7⟩ := eight_at hX
  have hlt := hX.lt
  have hltR := hR.lt
  go_cut [3, 4, 5, 6] from 21 to 29 (fun s3 s4 s5 s6 wx => s4 = .int .i64 x ∧ s6 = .slice av l.length qv ∧ ∃ P3 P5, s3 = .pointer (some ⟨P3, 0, none⟩) ∧ s5 = .pointer (some ⟨P5, 0, none⟩) ∧ Blk wx P3 #[.int .i64 P, .int .i64 T, .int .i64 R] 23 ∧ Blk wx P5 #[.int .i64 c, .int .i64 k, .int .i64 n] 25 ∧ Blk wx (w.heap.size + 1) #[.bool false] 4 ∧ Below w.heap.size w wx ∧ W.heap.size ≤ P3 ∧ W.heap.size ≤ P5 ∧ P3 ≠ P5)
  case first =>
    go_region_held3 (fun w' => w'.cell? ⟨w.heap.size, 0, none⟩ = some (.int .i64 P) ∧ w'.cell? ⟨w.heap.size, 1, none⟩ = some (.int .i64 T) ∧ w'.cell? ⟨w.heap.size, 2, none⟩ = some (.int .i64 R) ∧ w'.cell? ⟨w.heap.size, 3, none⟩ = some (.int .i64 x) ∧ w'.cell? ⟨w.heap.size, 4, none⟩ = some (.int .i64 c) ∧ w'.cell? ⟨w.heap.size, 5, none⟩ = some (.int .i64 k) ∧ w'.cell? ⟨w.heap.size, 6, none⟩ = some (.int .i64 n) ∧ w'.cell? ⟨w.heap.size, 7, none⟩ = some (.slice av l.length qv))
      (first | (with_reducible exact ⟨by assumption, by assumption, by assumption, by assumption, by assumption, by assumption, by assumption, by assumption⟩) | (refine eight_at (t := 28) ?_; repeat (first | exact hX | refine Blk.alloc ?_ _ | refine Blk.drew ?_ | (refine Blk.other ?_ _ _ ?_; rotate_left 1; (simp; omega)))))
      (fail)
    all_goals
      go_wp2
      go_meet
      case rel =>
        refine ⟨rfl, rfl, _, _, rfl, rfl, ?_, ?_, ?_, ?_, ?_, ?_, ?_⟩
        all_goals repeat' (first | exact hB | exact hR | exact hB.size | (refine Blk.new' ?_; simp; done) | refine Blk.drew ?_ | refine Blk.alloc ?_ _ | refine Quiet.below' ?_ | refine Below.alloc ?_ ?_ _ | (simp; done) | (simp; omega))
  case rest =>
    clear hX hR hB x0 x1 x2 x3 x4 x5 x6 x7
    obtain ⟨rfl, rfl, P3, P5, rfl, rfl, h3, h5, hR, hB, l3, l5, h35⟩ := hcut
    have q3 := h3.lt
    have q5 := h5.lt
    obtain ⟨g0, g1, g2⟩ := h3.three.1
    go_wp2_with fail
    refine (osmall_any P T R _).mono ?_; rintro e w6 ⟨P', rfl, hp1, hp5, hb6⟩
    have hr : Right P' 1 1 := by unfold Right; omega
    have k3 := h3.grew hb6
    have k5 := h5.grew hb6
    have kR := hR.grew hb6
    have kB := hB.trans (hb6.mono hB.size)
    have q6 := hb6.size
    clear g0 g1 g2 h3 h5 hR hB hb6 hp1 hp5
    obtain ⟨⟨g0, g1, g2⟩, f0, f1, f2⟩ := k3.three
    have hS7 : Hid (OxS w (w.heap.size + 1) P3 P5 P' 1 1 c k n (((w6.setCell ⟨P3, 0, none⟩ (.int .i64 P')).setCell ⟨P3, 1, none⟩ (.int .i64 1)).setCell ⟨P3, 2, none⟩ (.int .i64 1))) := Lib.hid
      ⟨((k3.set 0 (.int .i64 P')).set 1 (.int .i64 1)).set 2 (.int .i64 1), ((k5.other _ _ (Ne.symm h35)).other _ _ (Ne.symm h35)).other _ _ (Ne.symm h35), ((kR.other _ _ (by simp; omega)).other _ _ (by simp; omega)).other _ _ (by simp; omega),
        ((kB.setCell (p := ⟨P3, 0, none⟩) (by simp; omega) (.int .i64 P')).setCell (p := ⟨P3, 1, none⟩) (by simp; omega) (.int .i64 1)).setCell (p := ⟨P3, 2, none⟩) (by simp; omega) (.int .i64 1)⟩
    have hs7 : (((w6.setCell ⟨P3, 0, none⟩ (.int .i64 P')).setCell ⟨P3, 1, none⟩ (.int .i64 1)).setCell ⟨P3, 2, none⟩ (.int .i64 1)).heap.size = w6.heap.size := by simp
    clear k3 k5 kR kB
    go_upto_region 3 with fail
    clear g0 g1 g2 f0 f1 f2
    generalize World.setCell (World.setCell (World.setCell _ _ _) _ _) _ _ = w7 at *
    obtain ⟨⟨g0, g1, g2⟩, _⟩ := hS7.out.six
    have LY := Lib.hid (olay_yes P' 1 1 _ l w7 hr (RW.out _ hS7.out.bel))
    go_wp2_with fail
    refine LY.out.mono ?_; rintro e w8 ⟨a, ca, d, rfl, hL, hd⟩
    have hA8 := hL.ary
    have hD8 := hL.row
    have hS8 := hS7.out.grew (hL.bel.mono (Nat.le_refl _))
    have hcs : (layL (cellsN P' 1 1) (l.take 300)).length = cellsN P' 1 1 := layL_len _ _
    have q8 := hL.bel.size
    have hdl := hL.row.lt
    clear hL hS7 LY RW hUl g0 g1 g2
    generalize layL (cellsN P' 1 1) (l.take 300) = cs at *
    have BA := Lib.hid (built_any w8 (WI.out _ hS8.bel))
    go_wp2_with fail
    refine BA.out.mono ?_; rintro e w9 ⟨rfl, hb9⟩
    have hS9 := hS8.grew hb9
    have hG9 := hb9
    clear hS8 hb9 BA WI
    have DR := Lib.hid (draw_yes P' 1 1 w9 hr)
    have MV : mapV P' 1 1 = .agg #[.int .i64 P', .int .i64 1, .int .i64 1, .int .i64 (baseI P' 1 1), .int .i64 (tabI 1 1), .int .i64 (baseI P' 1 1 + 64 * P')] := rfl
    have IH := Lib.hid (fun W => isHead_anyRhead c k n W)
    have LI := Lib.hid (fun W (h : headB c k n = true) => rlies_any P' 1 1 x c k n W hr hx h)
    rw [MV] at DR LI
    obtain ⟨⟨g0, g1, g2⟩, _⟩ := hS9.six
    go_wp2_with fail
    refine DR.out.mono ?_; rintro e w10 ⟨rfl, hb10⟩
    have hbm := hb10.alloc hb10.size (.cells #[.int .i64 P', .int .i64 1, .int .i64 1, .int .i64 (baseI P' 1 1), .int .i64 (tabI 1 1), .int .i64 (baseI P' 1 1 + 64 * P')] 36)
    have hM11 := Blk.new w10 #[.int .i64 P', .int .i64 1, .int .i64 1, .int .i64 (baseI P' 1 1), .int .i64 (tabI 1 1), .int .i64 (baseI P' 1 1 + 64 * P')] 36
    have hS11 := hS9.grew hbm
    have hG11 := hG9.trans (hbm.mono hG9.size)
    clear hS9 hb10 hbm DR g0 g1 g2 hG9
    go_upto_region 7 with fail
    generalize w10.alloc (.cells #[.int .i64 P', .int .i64 1, .int .i64 1, .int .i64 (baseI P' 1 1), .int .i64 (tabI 1 1), .int .i64 (baseI P' 1 1 + 64 * P')] 36) = w11 at *
    generalize w10.heap.size = bm at *
    have SQ := Lib.hid (fun W (hb : Below w11.heap.size w11 W) => (hS11.grew hb).six)
    have B3 : Below w11.heap.size w11 w11.drew := Quiet.below ⟨1, rfl⟩
    have KB := Lib.hid (fun (A C : World) (hb : Below A.heap.size A C) (h : Below w11.heap.size w11 A) => h.trans (hb.mono h.size))
    have KC := Lib.hid (fun (A C : World) (hb : Below A.heap.size A C) (h : Below w11.heap.size w11 A) => h.size)
    obtain ⟨⟨g0, g1, g2⟩, d0, d1, d2⟩ := hS11.six
    have HS := Lib.hid (And.intro hS11 (And.intro hM11 hG11))
    clear hS11 hM11 hG11
    cases hh : headB c k n with
    | false =>
      have NB := Lib.hid (fun W => newbuild_form P' 1 1 x c k n W hh)
      rw [hh] at IH
      go_region_held3 (fun W => ((W.cell? ⟨P3, 0, none⟩ = some (.int .i64 P') ∧ W.cell? ⟨P3, 1, none⟩ = some (.int .i64 1) ∧ W.cell? ⟨P3, 2, none⟩ = some (.int .i64 1)) ∧ (W.cell? ⟨P5, 0, none⟩ = some (.int .i64 c) ∧ W.cell? ⟨P5, 1, none⟩ = some (.int .i64 k) ∧ W.cell? ⟨P5, 2, none⟩ = some (.int .i64 n))) ∧ Below w11.heap.size w11 W)
        (first | (with_reducible exact ⟨SQ.out _ B3, B3⟩) | (with_reducible exact ⟨SQ.out _ hg9, hg9⟩) | (have hg := KB.out _ _ (by assumption) (And.right (by assumption)); exact ⟨SQ.out _ hg, hg⟩))
        (first
          | (go_at_call 11; refine (oplan_any P' 1 1 _).mono ?_; rintro e w12 ⟨rfl, hb12⟩)
          | (go_at_call 12; refine (ohead_any c k n _).mono ?_; rintro e w13 ⟨rfl, hb13⟩)
          | (go_at_call 10; refine (NB.out _).mono ?_; rintro e w14 ⟨rfl, hb14⟩; have hg9 := KB.out _ _ hb14 (And.right (by assumption))))
      have hS14 := HS.out.1.grew hg9
      clear HS SQ KB KC B3 NB hg9 g0 g1 g2 d0 d1 d2
      obtain ⟨_, d0, d1, d2⟩ := hS14.six
      go_wp2_with fail
      refine (IH.out _).mono ?_; rintro e w15 ⟨rfl, hb15⟩
      have hS15 := hS14.grew hb15
      clear hS14 hb15 d0 d1 d2 LI IH
      have r0 := hS15.res.val 0 rfl
      have f0 := hS15.res.frozen 0
      have e0 : (w15.setCell ⟨w.heap.size + 1, 0, none⟩ (.bool true)).cell? ⟨w.heap.size + 1, 0, none⟩ = some (.bool true) := (Blk.set hS15.res 0 (.bool true)).val 0 rfl
      have HB9 := Lib.hid (hS15.bel.setCell (p := ⟨w.heap.size + 1, 0, none⟩) (by simp) (.bool true))
      go_wp2
      refine ⟨.bool true, ?_, rfl, HB9.out⟩
      simp [results, Tryz.f3, go_sem, e0]
    | true =>
      cases ha : allowB P' 1 1 x (n + 1) with
      | false =>
        have NB := Lib.hid (fun W => newbuild_addr P' 1 1 x c k n W hh ha)
        have LI2 := Lib.hid (fun W => LI.out W hh)
        rw [hh] at IH
        rw [ha] at LI2
        go_region_held3 (fun W => ((W.cell? ⟨P3, 0, none⟩ = some (.int .i64 P') ∧ W.cell? ⟨P3, 1, none⟩ = some (.int .i64 1) ∧ W.cell? ⟨P3, 2, none⟩ = some (.int .i64 1)) ∧ (W.cell? ⟨P5, 0, none⟩ = some (.int .i64 c) ∧ W.cell? ⟨P5, 1, none⟩ = some (.int .i64 k) ∧ W.cell? ⟨P5, 2, none⟩ = some (.int .i64 n))) ∧ Below w11.heap.size w11 W)
          (first | (with_reducible exact ⟨SQ.out _ B3, B3⟩) | (with_reducible exact ⟨SQ.out _ hg9, hg9⟩) | (have hg := KB.out _ _ (by assumption) (And.right (by assumption)); exact ⟨SQ.out _ hg, hg⟩))
          (first
            | (go_at_call 11; refine (oplan_any P' 1 1 _).mono ?_; rintro e w12 ⟨rfl, hb12⟩)
            | (go_at_call 12; refine (ohead_any c k n _).mono ?_; rintro e w13 ⟨rfl, hb13⟩)
            | (go_at_call 10; refine (NB.out _).mono ?_; rintro e w14 ⟨rfl, hb14⟩; have hg9 := KB.out _ _ hb14 (And.right (by assumption))))
        have hS14 := HS.out.1.grew hg9
        have hM14 := HS.out.2.1.grew hg9
        clear HS SQ KB KC B3 NB hg9 g0 g1 g2 d0 d1 d2
        obtain ⟨_, d0, d1, d2⟩ := hS14.six
        go_wp2_with fail
        refine (IH.out _).mono ?_; rintro e w15 ⟨rfl, hb15⟩
        have hS15 := hS14.grew hb15
        have hM15 := hM14.grew hb15
        clear hS14 hM14 hb15 d0 d1 d2 IH
        obtain ⟨_, d0, d1, d2⟩ := hS15.six
        obtain ⟨⟨m0, m1, m2, m3, m4, m5⟩, _⟩ := hM15.six
        go_wp2_with fail
        refine (LI2.out _).mono ?_; rintro e w16 ⟨rfl, hb16⟩
        have hS16 := hS15.grew hb16
        clear hS15 hM15 hb16 d0 d1 d2 m0 m1 m2 m3 m4 m5 LI LI2
        have r0 := hS16.res.val 0 rfl
        have f0 := hS16.res.frozen 0
        have e0 : (w16.setCell ⟨w.heap.size + 1, 0, none⟩ (.bool true)).cell? ⟨w.heap.size + 1, 0, none⟩ = some (.bool true) := (Blk.set hS16.res 0 (.bool true)).val 0 rfl
        have HB9 := Lib.hid (hS16.bel.setCell (p := ⟨w.heap.size + 1, 0, none⟩) (by simp) (.bool true))
        go_wp2
        refine ⟨.bool true, ?_, rfl, HB9.out⟩
        simp [results, Tryz.f3, go_sem, e0]
      | true =>
        obtain ⟨_, _, _, _, hn0, hn1⟩ := headB_bd hh
        obtain ⟨N, rfl⟩ := Int.eq_ofNat_of_zero_le hn0
        have hN : N ≤ 255 := by omega
        clear hn0 hn1
        obtain ⟨X, rfl, hXN, hXb⟩ := allow_len hr hcs hN ha
        have NB := Lib.hid (fun W => newbuild_yes P' 1 1 c k (N : Int) X W hh ha)
        unfold NbPost at NB
        have LI2 := Lib.hid (fun W => LI.out W hh)
        rw [hh] at IH
        rw [ha] at LI2
        have BE := Lib.hid (fun B xa hv t W X' hT h0 h1 hH => @rbuild_any B xa hv t W X' N c k hT hh h0 h1 hH)
        generalize encH c k (N : Int) = H at *
        go_region_held3 (fun W => ((W.cell? ⟨P3, 0, none⟩ = some (.int .i64 P') ∧ W.cell? ⟨P3, 1, none⟩ = some (.int .i64 1) ∧ W.cell? ⟨P3, 2, none⟩ = some (.int .i64 1)) ∧ (W.cell? ⟨P5, 0, none⟩ = some (.int .i64 c) ∧ W.cell? ⟨P5, 1, none⟩ = some (.int .i64 k) ∧ W.cell? ⟨P5, 2, none⟩ = some (.int .i64 (N : Int)))) ∧ Below w11.heap.size w11 W)
          (first | (with_reducible exact ⟨SQ.out _ B3, B3⟩) | (with_reducible exact ⟨SQ.out _ hg9, hg9⟩) | (have hg := KB.out _ _ (by assumption) (And.right (by assumption)); exact ⟨SQ.out _ hg, hg⟩))
          (first
            | (go_at_call 11; refine (oplan_any P' 1 1 _).mono ?_; rintro e w12 ⟨rfl, hb12⟩)
            | (go_at_call 12; refine (ohead_any c k (N : Int) _).mono ?_; rintro e w13 ⟨rfl, hb13⟩)
            | (go_at_call 10; refine (NB.out _).mono ?_; rintro e w14 ⟨m, rfl, hM14, hm, hb14⟩; have hg9 := KB.out _ _ hb14 (And.right (by assumption)); have hg8 := KC.out _ _ hb14 (And.right (by assumption))))
        have hS14 := HS.out.1.grew hg9
        have hMp14 := HS.out.2.1.grew hg9
        have hG14 := HS.out.2.2.trans (hg9.mono HS.out.2.2.size)
        have hm0 : w8.heap.size ≤ m := Nat.le_trans HS.out.2.2.size (Nat.le_trans hg8 hm)
        have hml := Blk.lt hM14
        clear HS SQ KB KC B3 NB hg9 hg8 hm hb14 g0 g1 g2 d0 d1 d2
        obtain ⟨_, d0, d1, d2⟩ := hS14.six
        go_wp2_with fail
        refine (IH.out _).mono ?_; rintro e w15 ⟨rfl, hb15⟩
        have hS15 := hS14.grew hb15
        have hMp15 := hMp14.grew hb15
        have hM15 := Blk.grew hM14 hb15
        have hG15 := hG14.trans (hb15.mono hG14.size)
        have hs15 := hb15.size
        clear hS14 hMp14 hM14 hG14 hb15 d0 d1 d2 IH
        obtain ⟨_, d0, d1, d2⟩ := hS15.six
        obtain ⟨⟨m0, m1, m2, m3, m4, m5⟩, _⟩ := hMp15.six
        go_wp2_with fail
        refine (LI2.out _).mono ?_; rintro e w16 ⟨rfl, hb16⟩
        have hS16 := hS15.grew hb16
        have hM16 := Blk.grew hM15 hb16
        have hG16 := hG15.trans (hb16.mono hG15.size)
        have hs16 := hb16.size
        clear hS15 hMp15 hM15 hG15 hb16 d0 d1 d2 m0 m1 m2 m3 m4 m5 LI LI2
        go_wp2_with fail
        refine (port_yes a 2 _ (by decide) (by decide)).mono ?_; rintro e w17 ⟨p, rfl, hP17, hp, hb17⟩
        have hS17 := hS16.grew hb17
        have hM17 := Blk.grew hM16 hb17
        have hG17 := hG16.trans (hb17.mono hG16.size)
        have hpl := Blk.lt hP17
        clear hS16 hM16 hG16 hb17
        go_wp2_with fail
        refine (bstep_shutQ hM17 hP17 (by omega)).mono ?_; rintro e w18 ⟨rfl, hq18⟩
        have hS18 := hS17.grew hq18.below
        have hM18 := Blk.quiet hM17 hq18
        have hP18 := Blk.quiet hP17 hq18
        have hG18 := hG17.trans (hq18.below.mono hG17.size)
        have hs18 := (show Below w17.heap.size w17 w18 from hq18.below).size
        have ne0 : ((N : Int) + 1 == 0) = false := by simp; omega
        have OV := Lib.hid (bover_any hM18)
        rw [ne0] at OV
        clear hS17 hM17 hP17 hG17 hq18
        go_wp2_with fail
        refine OV.out.mono ?_; rintro e w19 ⟨rfl, hq19⟩
        have hS19 := hS18.grew hq19.below
        have hM19 := Blk.quiet hM18 hq19
        have hP19 := Blk.quiet hP18 hq19
        have hG19 := hG18.trans (hq19.below.mono hG18.size)
        have hs19 := (show Below w18.heap.size w18 w19 from hq19.below).size
        clear hS18 hM18 hP18 hG18 hq19 OV ne0
        go_upto_region 17 with fail
        have hNC : cellsN P' 1 1 = cs.length := hcs.symm
        rw [hNC]
        have hb20 : Below w19.heap.size w19 ((w19.alloc (.cells #[.slice (some ⟨d, 0, none⟩) cs.length cs.length, .slice none 0 0, .int .i64 0] 55)).alloc (.cells (tpCells (.slice none 0 0) tp0) 61)) := ((Below.refl _ _).alloc (Nat.le_refl _) _).alloc (by simp) _
        obtain ⟨K0, hO0⟩ := ou_start (M := w19.heap.size) hA8 ((hD8.grew hG19).grew hb20) (hS19.grew hb20) (Blk.grew hM19 hb20) (Blk.grew hP19 hb20) (hG19.trans (hb20.mono hG19.size)) ((Blk.new _ _ _).alloc _) (Blk.new' (by simp)) (by omega)
        have HXN := Lib.hid hXN
        have hxa : ∀ b, b = w19.heap.size + 1 → b = w19.heap.size + 1 := fun _ e => e
        have hn1 : w8.heap.size ≤ w19.heap.size := hG19.size
        have hcl1 : cs.length ≤ 1000000 := by have := (cellsN_bd hr).2.2; omega
        clear hA8 hD8 hS19 hM19 hP19 hG19 hb20 hcs hNC hx ha hr MV hh
        change ∀ _, _ at hxa
        generalize hw20 : (w19.alloc (.cells #[.slice (some ⟨d, 0, none⟩) cs.length cs.length, .slice none 0 0, .int .i64 0] 55)).alloc (.cells (tpCells (.slice none 0 0) tp0) 61) = w20 at *
        have hw20' : (w19.alloc (.cells #[.slice (some ⟨d, 0, none⟩) cs.length cs.length, .slice none 0 0, .int .i64 0] 55)).alloc (.cells #[.slice none 0 0, .int .i64 0, .int .i64 0, .int .i64 0, .int .i64 0, .int .u64 0, .int .u64 0, .int .u64 0, .int .u64 0, .bool false] 61) = w20 := hw20
        rw [hw20']
        clear hw20 hw20' hxa
        generalize w19.heap.size = M at *
        have hO0' : OuT w (w.heap.size + 1) P5 w7.heap.size a ca p m M d (M + 1) X H ((N + 1 - 0 : Nat) : Int) c k (N : Int) cs F0 0 cs F0 0 tp0 false K0 (.slice none 0 0) (.slice none 0 0) w20 := by
          rw [show ((N + 1 - 0 : Nat) : Int) = (N : Int) + 1 by omega]; exact hO0
        have hM8 : d < M ∧ w.heap.size + 1 < P5 ∧ P5 < d := by omega
        have HH := Lib.hid hM8
        obtain ⟨LL, hLL⟩ : ∃ LL, cs.length = LL := ⟨_, rfl⟩
        have hLen : Hid (cs.length = LL ∧ (tp0.H).length = 0) := Lib.hid ⟨hLL, rfl⟩
        replace HXN : Hid (X + N < LL) := Lib.hid (by have := HXN.out; omega)
        have HLe : Hid (LL ≤ 1000000) := Lib.hid (by omega)
        clear hO0 hM8 hLL
        generalize w7.heap.size = B0 at *
        go_wp2_with fail
        go_loopw [17] (fun s wr => ∃ i : Nat, i ≤ N + 1 ∧ s = .int .i64 (i : Int) ∧ ∃ (ds : List Int) (F : Nat → Nat → Int) (t : Tp) (K : List Nat) (lm hv : Value), Hid (ds.length = LL ∧ t.H.length = i) ∧ ∃ q : Int, q = ((N + 1 - i : Nat) : Int) ∧ OuT w (w.heap.size + 1) P5 B0 a ca p m M d (M + 1) X H q c k (N : Int) ds F i ds F i t false K lm hv wr) (fun s _ => N + 1 - (intOf s).toNat)
        case atStart => exact ⟨0, Nat.zero_le _, rfl, cs, F0, tp0, K0, _, _, hLen, _, rfl, hO0'⟩
        case round =>
          clear hO0' hLen
          obtain ⟨i, hi, rfl, ds, F, t, K, lm, hv, hL, q, hq, hO⟩ := hrel
          subst hq
          by_cases hlt : i ≤ N
          · have hlt' : (i : Int) ≤ (N : Int) := by omega
            have hc2 := hO.hdN
            go_wp2_with fail
            refine hO.again.mono ?_; rintro e w21 ⟨⟨u21, rfl⟩, h21⟩
            clear hO hc2
            obtain ⟨d0, d1, d2⟩ := h21.hd.three.1
            go_wp2_with fail
            refine (h21.build BE.out rfl rfl (by have := hL.out.2; show t.H.length ≤ N; omega) hXb).mono ?_; rintro e w22 ⟨rfl, h22⟩
            clear h21 d0 d1 d2
            go_wp2_with fail
            refine h22.grant.mono ?_; rintro e w23 ⟨⟨u23, rfl⟩, h23⟩
            clear h22
            go_wp2_with fail
            refine (h23.make (X + (N - i)) rfl (by show (((X + (N - t.H.length) : Nat)) : Int) = _; rw [hL.out.2]) (by have := hL.out.1; have := HXN.out; omega) (by omega) (by have := hL.out.2; show t.H.length < _; omega)).mono ?_; rintro e w24 ⟨⟨u24, rfl⟩, K', lm', hv', h24⟩
            clear h23
            have hL2 : Hid (((tpB t.again X N H).H ++ [ds.getD (X + (N - i)) 0]).length = i + 1) := by
              have := hL.out.2
              show (t.H ++ _).length = _
              rw [List.length_append, this]; rfl
            by_cases hin : i < N
            · have ep : (tpB t.again X N H).p = 0 := by
                show (if t.H.length = N then H else 0) = 0
                rw [hL.out.2, if_neg (by omega)]
              have ewn : (tpB t.again X N H).wn = 0 := rfl
              rw [ep, ewn, show ((N + 1 - i : Nat) : Int) = ((N - i : Nat) : Int) + 1 by omega] at h24
              have h25 := h24.quiet (⟨1, rfl⟩ : Quiet w24 w24.drew)
              have SP := Lib.hid (h25.stepN (j := N - i) (by omega) (by omega) hXb (by omega) (by have := hL.out.1; have := HXN.out; omega))
              have hc2 := h24.hdN
              have eN : ((i : Int) == (N : Int)) = false := by simp; omega
              have eO : (((N - i : Nat) : Int) == 0) = false := by simp; omega
              clear ep ewn h24
              go_upto_region 25 with fail
              go_region_held3 (fun W => W.cell? ⟨P5, 2, none⟩ = some (.int .i64 (N : Int)))
                (with_reducible exact OuT.hdN (by assumption))
                (first
                  | (go_at_call 16; refine SP.out.mono ?_; rintro e w26 ⟨rfl, h26⟩)
                  | (go_at_call 17; refine (OuT.over h26).mono ?_; rintro e w27 ⟨rfl, h27⟩))
              clear h25 h26 SP hc2
              go_wp2
              go_roundw
              case rel => exact ⟨i + 1, by omega, by go_num, _, _, _, _, _, _, Lib.hid ⟨by rw [List.length_set]; exact hL.out.1, hL2.out⟩, _, by omega, h27⟩
              case measure => simp [intOf]; omega
            · obtain rfl : i = N := by omega
              have ep : (tpB t.again X i H).p = H := by
                show (if t.H.length = i then H else 0) = H
                rw [hL.out.2, if_pos rfl]
              have ewn : (tpB t.again X i H).wn = 0 := rfl
              rw [ep, ewn, show ((i + 1 - i : Nat) : Int) = 1 by omega] at h24
              rw [show X + (i - i) = X by omega] at h24 hL2
              have h25 := h24.quiet (⟨1, rfl⟩ : Quiet w24 w24.drew)
              have SP := Lib.hid (h25.stepL (by omega) (by have := hL.out.1; have := HXN.out; omega))
              have hc2 := h24.hdN
              have eN : ((i : Int) == (i : Int)) = true := by simp
              have eO : ((0 : Int) == 0) = true := rfl
              clear ep ewn h24
              go_upto_region 25 with fail
              go_region_held3 (fun W => W.cell? ⟨P5, 2, none⟩ = some (.int .i64 (i : Int)))
                (with_reducible exact OuT.hdN (by assumption))
                (first
                  | (go_at_call 16; refine SP.out.mono ?_; rintro e w26 ⟨rfl, h26⟩)
                  | (go_at_call 17; refine (OuT.over h26).mono ?_; rintro e w27 ⟨rfl, h27⟩))
              clear h25 h26 SP hc2
              go_wp2
              go_roundw
              case rel => exact ⟨i + 1, by omega, by go_num, _, _, _, _, _, _, Lib.hid ⟨by rw [List.length_set]; exact hL.out.1, hL2.out⟩, _, by omega, h27⟩
              case measure => simp [intOf]; try omega
          · obtain rfl : i = N + 1 := by omega
            have hlt' : ¬ ((N + 1 : Nat) : Int) ≤ (N : Int) := by omega
            have hlt2 : ¬ (N : Int) + 1 ≤ (N : Int) := by omega
            have hc2 := hO.hdN
            obtain ⟨⟨lv, hLv, hgK⟩, _, _, _, _, _, _⟩ := id hO.arx
            obtain ⟨bp, cp, hlv⟩ := row_form hLv.own
            subst hlv
            obtain ⟨lb, hlrow⟩ : ∃ lb, Hid (0 < N + 1 → bp = some ⟨lb, 0, none⟩ ∧ lb < wr.heap.size ∧ LogRow wr lb (N + 1) F) := by
              obtain ⟨lb, hb⟩ := logrow hLv.own (by omega)
              exact ⟨lb, fun _ => hb⟩
            have LG := Lib.hid (fun W (q : ArenaAt W a ca ds true (.slice bp (N + 1) cp) ((N + 1 : Nat) : Int) 0) => log_any a ca ds true bp (N + 1) cp ((N + 1 : Nat) : Int) 0 W q)
            have hLW := Lib.hid (fun W (hb : Below wr.heap.size wr W) => hLv.grew hb)
            have hb0 : Below wr.heap.size wr (wr.alloc (.cells #[.slice none 0 0] 53)) := (Below.refl wr.heap.size wr).alloc (Nat.le_refl _) (.cells #[.slice none 0 0] 53)
            clear hLv
            go_wp2_with fail
            clear hc2
            have hb21 : Blk (wr.alloc (.cells #[.slice none 0 0] 53)) wr.heap.size #[.slice none 0 0] 53 := Blk.new _ _ _
            refine (LG.out _ (hLW.out _ hb0).at').mono ?_
            rintro e W0 ⟨rfl, b4, hbl, hsz0⟩
            have hbel1 : Below wr.heap.size wr W0 := hb0.trans (hbl.mono (by simp))
            have b21 : Boxed W0 wr.heap.size 53 (.slice none 0 0) := Blk.grew hb21 hbl
            have hs0 : W0.heap.size = wr.heap.size + 2 := by simp at hsz0; omega
            rw [show (wr.alloc (.cells #[.slice none 0 0] 53)).heap.size = wr.heap.size + 1 by simp] at b4
            clear LG hb0 hb21 hbl hsz0
            go_wp2_with fail
            refine (wpIn_wide (n := 9)).1 ?_
            refine name_actO (fun a0 ha0 => ?_)
            obtain ⟨i0, hi, hz0, hz1, hz2⟩ := info_parts info_acc
            refine wpIn_rangeFunc_ownH rfl (by omega) (gf := 57) (lb := #[.pointer (some ⟨wr.heap.size + 1, 0, none⟩)]) (by rw [ha0]; rfl) trivial (enters_of Tryz.func57 (by kernel_rfl) rfl)
              (log_stops 8 (by omega) (wr.heap.size + 1) wr.heap.size lb (N + 1) cp bp F W0 (by omega) (by omega) (fun h => by obtain ⟨h1, h2, h3⟩ := hlrow.out h; exact ⟨h1, h2, h3.below hbel1 h2⟩) (by omega) b4.cell) belowK_t (belowK_b (by omega)) (Below.refl _ _) (fun _ => rfl)
              (fun pre W => (∃ v, Boxed W wr.heap.size 53 v ∧ W.ownsRow W0.heap.size 59 7 v pre.length (flat F pre) ∧ True) ∧ Touch (fun x => x = wr.heap.size) W0 W)
              (fun _ _ _ => False)
              (OwnFrom.and (Own.from (holdsRow_own W0.heap.size wr.heap.size 53 59 7 (fun pre : List Nat => pre.length) (fun pre : List Nat => flat F pre) (fun _ _ => True)) _) (ownFrom_touchLogy (Nat.le_refl _)))
              (fun _ _ _ _ _ hs _ _ => hs)
              ⟨⟨_, b21, World.ownsRow_nil _ _ _ _, trivial⟩, Touch.refl _ _⟩
              (fun i a' W => ∃ xb, W0.heap.size ≤ xb ∧ a' = { tmps := ((a0.tmps.setIfInBounds 140 (.int .i64 ((i : Nat) : Int))).setIfInBounds 141 (.agg (accA F i))).setIfInBounds 20 (.pointer (some ⟨xb, 0, none⟩)), defers := [] } ∧ Blk W xb (accA F i) 59)
              (fun x a' => blk_own_from _ (fun xb => W0.heap.size ≤ xb) a' _ _) ?assign ?body ?done ?stop
            case assign =>
              rintro l pre i W K ⟨⟨v, hv, hr, _⟩, ht⟩ hK
              have hX : Blk (W.alloc (.cells (accA F i) 59)) W.heap.size (accA F i) 59 := Blk.new _ _ _
              have hK2 := fun a' ha => hK a' (W.alloc (.cells (accA F i) 59)) ((KeepsOthers.alloc W _).from _) ((Below.refl _ W).alloc (by have := ht.size; omega) _) ⟨⟨v, hv.alloc _, hr.alloc _, trivial⟩, ht.alloc _⟩ ⟨W.heap.size, ht.size, ha, hX⟩
              clear hK hX hv hr ht
              subst ha0
              gi_wp2
              try exact hK2 _ rfl
            case body =>
              rintro l pre i a' W _ _ ⟨⟨v, hv, hr, _⟩, ht⟩ ⟨xb, hxb, rfl, hX⟩ hltN
              subst ha0
              have hsW := ht.size
              have HF := Lib.hid (flat_snoc F pre i)
              have HL : Hid ((pre ++ [i]).length = pre.length + 1) := by unfold Hid; simp
              obtain ⟨a1, k1, hveq⟩ := row_form hr
              subst hveq
              have hc := hv.cell
              generalize hp : pre.length = pl at *
              have h300 : ¬ (300 : Int) < (pl : Int) := by omega
              dsimp only [accA] at hX
              generalize F i 0 = q0 at *
              generalize F i 1 = q1 at *
              generalize F i 2 = q2 at *
              generalize F i 3 = q3 at *
              generalize F i 4 = q4 at *
              generalize F i 5 = q5 at *
              generalize F i 6 = q6 at *
              have y0 := hX.val 0 rfl
              have y1 := hX.val 1 rfl
              have y2 := hX.val 2 rfl
              have y3 := hX.val 3 rfl
              have y4 := hX.val 4 rfl
              have y5 := hX.val 5 rfl
              have y6 := hX.val 6 rfl
              simp only [List.setIfInBounds_toArray, List.set_cons_zero, List.set_cons_succ]
              gi_wp2_with (gi_at_builtin; refine wpListIn_append_own _ rfl _ _ 53 rfl W0.heap.size 59 i0 _ 7 56 Tryz.underlying53 hi hz0 hz1 hz2 rfl (by decide) _ _ _ rfl (hr.alloc _) ⟨W.heap.size, 0, none⟩ 1 1 [.int .i64 q0, .int .i64 q1, .int .i64 q2, .int .u64 q3, .int .u64 q4, .int .u64 q5, .int .u64 q6] rfl rfl (new_cells _ [.int .i64 q0, .int .i64 q1, .int .i64 q2, .int .u64 q3, .int .u64 q4, .int .u64 q5, .int .u64 q6] _ _ rfl) (by simp [Value.oneCell']) (by unfold maxLen; omega) (by omega) (by simp; omega) ?_; intro v' w1 hown' hgrow _; obtain ⟨g', cap', rfl⟩ := ownsRow_succ hown'; obtain ⟨hv1, hv2, hr2, hk2, ht2, hbl2⟩ := appended_touch7 (R := fun x => x = wr.heap.size) rfl hv (by decide) hr hown' hgrow; have hc1 := hv1.cell; have hf1 := hv1.frozen)
              exact ⟨hk2.from _, hbl2 wr.heap.size (by omega) (by omega) (by omega), ⟨_, hv2, by rw [HL.out, HF.out]; first | exact hr2 | (rw [hs0] at hr2; exact hr2)⟩, ht2 W0 ht (Nat.le_refl _)⟩
            case stop =>
              rintro D c pre W _ _ h _
              exact h.elim
            case done =>
              rintro D ys W hD hys ⟨⟨v, hv', hr, _⟩, ht⟩ hDK
              subst ha0
              subst hys
              rw [List.length_range] at hr
              have hOW := hO.box rfl hbel1 (by omega) ht
              obtain ⟨lv', hLV⟩ : ∃ lv', ArenaL W B0 a ca ds lv' (flat F (List.range (N + 1))) (N + 1) 0 := by
                obtain ⟨⟨lv', h, _⟩, _⟩ := hOW.arx
                exact ⟨lv', h⟩
              obtain ⟨a1, k1, hveq⟩ := row_form hr
              subst hveq
              have hRb := hOW.res
              have hd0 : 0 < ds.length := by have := hL.out.1; have := HXN.out; omega
              have hd1 : ds.length ≤ 1000000 := by
                have := hL.out.1
                have := HLe.out
                omega
              have zl := hv'.cell
              have zM0 := hOW.doc.own.val 0 rfl
              have zM1 := hOW.doc.own.val 1 rfl
              have zr := hRb.val 0 rfl
              have zf := hRb.frozen 0
              have SM := Lib.hid (fun W' (hb : Below W.heap.size W W') => same_own (own_grew hr hb) (own_grew hOW.doc.log hb) (by omega))
              have IM := Lib.hid (fun W' (hb : Below W.heap.size W W') => image_at a ca ds true lv' ((N + 1 : Nat) : Int) 0 W' ((hLV.grew hb).at') hd0 hd1)
              have WD := Lib.hid (fun W' v (h1 : Lst .u64 W' v ds) (hb : Below W.heap.size W W') => words_anyWords v (.slice (some ⟨d, 0, none⟩) ds.length ds.length) ds W' h1 (lst_row (Blk.grew hOW.doc.row hb) hd0 hd1))
              have FA := Lib.hid (fun W' (hb : Below W.heap.size W W') => faults_at ((hLV.grew hb).at'))
              have SQ := Lib.hid (fun W' (hb : Below W.heap.size W W') => show W'.cell? ⟨wr.heap.size, 0, none⟩ = some (.slice a1 (N + 1) k1) ∧ W'.cell? ⟨M, 0, none⟩ = some (.slice (some ⟨d, 0, none⟩) ds.length ds.length) ∧ W'.cell? ⟨M, 1, none⟩ = some lm from
                ⟨(Blk.grew hv' hb).val 0 rfl, (Blk.grew hOW.doc.own hb).val 0 rfl, (Blk.grew hOW.doc.own hb).val 1 rfl⟩)
              have RQ := Lib.hid (fun W' (hb : Below W.heap.size W W') => And.intro ((Blk.grew hRb hb).val 0 rfl) ((Blk.grew hRb hb).frozen 0))
              have HD9 := Lib.hid (fun W' (hb : Below W.heap.size W W') => show W'.heap[D]? = some (.deferred (some [])) from (hb.block D (Array.getElem?_eq_some_iff.1 hDK).1).trans hDK)
              have HW9 := Lib.hid (fun W' (hb : Below W.heap.size W W') => show Below w.heap.size w W' from hOW.bel.trans (hb.mono hOW.bel.size))
              have hne1 : wr.heap.size ≠ w.heap.size + 1 := by have := hO.res.lt; omega
              have hne2 : M ≠ w.heap.size + 1 := by have := HH.out; omega
              have hDw : w.heap.size ≤ D := by have := hO.bel.size; omega
              have hd' : Below W.heap.size W W.drew := (Below.refl _ _).drew
              clear hO hOW hLV hLW hgK ht hbel1 b21 b4
              go_wp2_with fail
              go_region_held3 (fun W' => W'.cell? ⟨wr.heap.size, 0, none⟩ = some (.slice a1 (N + 1) k1) ∧ W'.cell? ⟨M, 0, none⟩ = some (.slice (some ⟨d, 0, none⟩) ds.length ds.length) ∧ W'.cell? ⟨M, 1, none⟩ = some lm)
                (first | (with_reducible exact SQ.out _ (by assumption)) | (obtain ⟨s1, s2, s3⟩ := SQ.out _ h11; exact ⟨(World.cell?_setCell_other w11 ⟨w.heap.size + 1, 0, none⟩ _ _ (by first | (simp; done) | (simp; omega))).trans s1, (World.cell?_setCell_other w11 ⟨w.heap.size + 1, 0, none⟩ _ _ (by first | (simp; done) | (simp; omega))).trans s2, (World.cell?_setCell_other w11 ⟨w.heap.size + 1, 0, none⟩ _ _ (by first | (simp; done) | (simp; omega))).trans s3⟩))
                (first
                  | (go_at_call 23; refine (SM.out _ hd').mono ?_; rintro e w8' ⟨rfl, hq8⟩; have h8 := hd'.trans hq8.below)
                  | (go_at_call 25; refine (IM.out _ h8).mono ?_; rintro e w9' ⟨vi, rfl, hi9, hb9⟩; have h9 := h8.trans (hb9.mono h8.size); have li := lst_of_own hi9)
                  | (go_at_call 24; refine (WD.out _ _ li h9).mono ?_; rintro e w10' ⟨rfl, hq10⟩; have h10 := h9.trans hq10.below)
                  | (go_at_call 26; refine (FA.out _ h10).mono ?_; rintro e w11 ⟨rfl, hq11⟩; have h11 := h10.trans hq11.below; have zr9 := (RQ.out _ h11).1; have zf9 := (RQ.out _ h11).2))
              have e0 : (w11.setCell ⟨w.heap.size + 1, 0, none⟩ (.bool true)).cell? ⟨w.heap.size + 1, 0, none⟩ = some (.bool true) := (Blk.set (Blk.grew hRb h11) 0 (.bool true)).val 0 rfl
              have eD : (w11.setCell ⟨w.heap.size + 1, 0, none⟩ (.bool true)).heap[D]? = some (.deferred (some [])) := (KeepsOthers.setCell w11 _ _).same D _ (HD9.out _ h11) rfl
              have eB : Below w.heap.size w (w11.setCell ⟨w.heap.size + 1, 0, none⟩ (.bool true)) := (HW9.out _ h11).setCell (by simp) _
              generalize w11.setCell ⟨w.heap.size + 1, 0, none⟩ (.bool true) = wz at *
              go_wp2
              refine ⟨by simp, .inl ⟨_, _, rfl, run_takeDeferred eD, ?_⟩⟩
              have e0' := cell_kept e0 (grownBy_putObj' _ D (.deferred none)) (fun r e => by cases e; exact ⟨_, eD, rfl⟩)
              refine ⟨.bool true, ?_, ⟨rfl, eB.trans (belowK_b (w := w) (Nat.le_refl _) _ D _ _ (by omega) eD rfl rfl)⟩⟩
              simp [results, Tryz.f3, go_sem, e0']
end Go.Proofs.YtpoddnfooaddgaaGreatDoor
