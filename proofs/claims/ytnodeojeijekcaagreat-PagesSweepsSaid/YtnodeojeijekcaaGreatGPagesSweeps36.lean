/- The law PagesSweeps. Conditions: the pages and the turns are read in full. -/
import Derived.Test.YtnodeojeijekcaaGreatGPagesSweeps35
namespace Go.Proofs.YtnodeojeijekcaaGreat
open Go.RowKit
set_option linter.unusedVariables false
theorem eight_pg {w : World} {b : Nat} {v0 v1 v2 v3 v4 v5 v6 v7 : Value} {t : TypeId} (h : Blk w b #[v0, v1, v2, v3, v4, v5, v6, v7] t) :
    w.cell? ⟨b, 0, none⟩ = some v0 ∧ w.cell? ⟨b, 1, none⟩ = some v1 ∧ w.cell? ⟨b, 2, none⟩ = some v2 ∧ w.cell? ⟨b, 3, none⟩ = some v3 ∧ w.cell? ⟨b, 4, none⟩ = some v4 ∧ w.cell? ⟨b, 5, none⟩ = some v5 ∧ w.cell? ⟨b, 6, none⟩ = some v6 ∧ w.cell? ⟨b, 7, none⟩ = some v7 :=
  ⟨h.val 0 rfl, h.val 1 rfl, h.val 2 rfl, h.val 3 rfl, h.val 4 rfl, h.val 5 rfl, h.val 6 rfl, h.val 7 rfl⟩
theorem pgW_U {x : PgD} (h : U64 x.odd) : U64 (pgW x) := by
  unfold pgW
  split
  · exact eencV_U _ _ _ _ _
  · exact h
theorem layK_U (P T : Int) {l : List PgD} (hl : ∀ x ∈ l, U64 x.odd ∧ U64 x.al ∧ U64 x.ma) : ∀ k, ∀ z ∈ layK P T l k, U64 z
  | 0 => by
    intro z hz
    rw [layK] at hz
    rw [(List.mem_replicate.1 hz).2]
    exact ⟨by decide, by decide⟩
  | k + 1 => by
    have hx : ∀ x, x = l.getD k ⟨0, 0, 0, 0, 0, 0, 0, 0⟩ → U64 x.odd ∧ U64 x.al ∧ U64 x.ma := by
      rintro x rfl
      by_cases h : k < l.length
      · rw [List.getD_eq_getElem?_getD, List.getElem?_eq_getElem h]
        exact hl _ (List.getElem_mem h)
      · rw [List.getD_eq_getElem?_getD, List.getElem?_eq_none (by omega)]
        exact ⟨⟨by decide, by decide⟩, ⟨by decide, by decide⟩, by decide, by decide⟩
    obtain ⟨h1, h2, h3⟩ := hx _ rfl
    rw [layK, stP]
    exact set_U (set_U (set_U (layK_U P T hl k) (pgW_U h1) _) h2 _) h3 _
theorem rd_U {B : Nat} {w : World} {v : Value} {l : List PgD} (h : RdRow 8 ElPg B w v l) : ∀ x ∈ l, U64 x.odd ∧ U64 x.al ∧ U64 x.ma := by
  intro x hx
  obtain ⟨i, hi, rfl⟩ := List.mem_iff_getElem.1 hx
  obtain ⟨_, _, _, _, hr⟩ := h
  obtain ⟨_, _, _, _, he⟩ := hr i hi
  exact he.2.2
theorem pk_of {P T who cy pg : Int} (hP : 1 ≤ P ∧ P ≤ 5) (hT : 1 ≤ T ∧ T ≤ 3) (h1 : pgB P T 1 pg = true) (h2 : workB who = true) (h3 : inB cy 0 4294967295 = true) : ∃ e a m : Nat, PgK P T who cy pg e a m := by
  have hp : 0 ≤ pg ∧ pg < P := by
    have := h1
    unfold pgB at this
    rw [Bool.and_eq_true] at this
    have := inB_true this.2
    omega
  obtain ⟨e, e1, e2, e3, e4⟩ := row_yes 0 h1 (by decide)
  obtain ⟨a, a1, a2, a3, a4⟩ := row_yes 1 h1 (by decide)
  obtain ⟨m, m1, m2, m3, m4⟩ := row_yes 2 h1 (by decide)
  have hN := (cellsN_bd (right_small hP hT)).2.2
  have htab : tabI T 1 = 16 + T * (5 + 1) := rfl
  have w1 : wrap64 (2 * P) = 2 * P := IntWalk.wrap64_in _ (by omega)
  have w2 : wrap64 (tabI T 1 + P) = tabI T 1 + P := IntWalk.wrap64_in _ (by omega)
  have w3 : wrap64 (tabI T 1 + 2 * P) = tabI T 1 + 2 * P := IntWalk.wrap64_in _ (by omega)
  refine ⟨e, a, m, hP, hT, hp, h2, h3, ?_, ?_, ?_, e1, a1, m1, e3, a3, m3⟩
  · rw [IntWalk.wrap64_in _ (by omega)]; omega
  · rw [w2, IntWalk.wrap64_in _ (by omega)]; omega
  · rw [w1, w3, IntWalk.wrap64_in _ (by omega)]; omega
theorem FiS.grown {w W W' : World} {B f M d a c p : Nat} {P T : Int} {cs : List Int} (h : FiS w B f M d a c p P T cs W) (hb : Below W.heap.size W W') : FiS w B f M d a c p P T cs W' :=
  ⟨h.fl.grew hb, h.doc.grew hb, h.row.grew hb, h.ary.grew hb, h.port.grew hb, h.bel.trans (hb.mono h.ary.bw), h.lo⟩
/-- the field, its sweep and a tape that is new -/
theorem PtS.new {w w1 W W' : World} {f M d a c p s : Nat} {P T : Int} {σ : Sw} {cs : List Int} {F : Nat → Nat → Int} (h : FiS w1 w1.heap.size f M d a c p P T cs W) (hw : Below w.heap.size w W) (hl : w.heap.size ≤ w1.heap.size) (hs : Blk W' s σ.V 85) (hsl : W.heap.size ≤ s) (hb : Below W.heap.size W W') :
    PtS w w1.heap.size f s M d W'.heap.size p a c P T σ cs F 0 cs F 0 ⟨[], 0, 0, 0, 0, 0, false⟩ false (W'.heap.size :: s :: [p, d, M, f]) (.slice none 0 0) (.slice none 0 0) (W'.alloc (.cells #[.slice none 0 0, .int .i64 0, .int .i64 0, .int .i64 0, .int .i64 0, .int .u64 0, .int .u64 0, .int .u64 0, .int .u64 0, .bool false] 51)) := by
  have hf := h.fl.grew hb
  have hM := h.doc.grew hb
  have hd := h.row.grew hb
  have hp := h.port.grew hb
  have lf := hf.lt
  have lM := hM.lt
  have ld := hd.lt
  have lp := hp.lt
  have lsl := hs.lt
  have e1 := blk_ne hf hs (by decide)
  have e2 := blk_ne hf hM (by decide)
  have e3 := blk_ne hf hd (by decide)
  have e4 := blk_ne hf hp (by decide)
  have e5 := blk_ne hs hM (by decide)
  have e6 := blk_ne hs hd (by decide)
  have e7 := blk_ne hs hp (by decide)
  have e8 := blk_ne hM hd (by decide)
  have e9 := blk_ne hM hp (by decide)
  have e10 := blk_ne hd hp (by decide)
  have hbw := hw.size
  have hbs := hb.size
  have hA := (h.ary.add hb hsl lsl).add ((Below.refl W'.heap.size W').alloc (Nat.le_refl _) (.cells #[.slice none 0 0, .int .i64 0, .int .i64 0, .int .i64 0, .int .i64 0, .int .u64 0, .int .u64 0, .int .u64 0, .int .u64 0, .bool false] 51)) (Nat.le_refl _) (by simp)
  obtain ⟨hlo1, hlo2, hlo3, hlo4⟩ := h.lo
  have hBW : Below w.heap.size w W' := hw.trans (hb.mono hbw)
  refine ⟨hf.alloc _, hs.alloc _, ?_, hp.alloc _, ⟨hM.alloc _, hd.alloc _, World.ownsRow_nil _ _ _ _, e8, by simp [Value.ownBlock], by simp [Value.ownBlock]⟩, ⟨Blk.new _ _ _, World.ownsRow_nil _ _ _ _⟩, hBW.alloc hBW.size _, ?_, by simp [Value.ownBlock], by simp [Value.ownBlock], ?_, by simp [Value.ownBlock], by simp [Value.ownBlock], ?_, hl⟩
  · obtain ⟨xs, hX⟩ := hA
    obtain ⟨⟨lv, hL, hg⟩, g2⟩ := id hX
    have : xs = [] := List.length_eq_zero_iff.1 (by have := hL.own.1; omega)
    subst this
    exact hX
  · intro b hb'
    unfold ptL at hb'
    simp only [List.mem_cons, List.not_mem_nil, or_false] at hb' ⊢
    omega
  · unfold ptL
    simp only [List.nodup_cons, List.mem_cons, List.not_mem_nil, or_false, not_or, not_false_eq_true, List.nodup_nil, and_true]
    omega
  · intro b hb'
    unfold ptL at hb'
    simp only [List.mem_cons, List.not_mem_nil, or_false] at hb'
    have : w.heap.size ≤ W'.heap.size := hBW.size
    omega
/-- and the answer's box -/
structure PtB (w0 : World) (B f s M d x p a c : Nat) (P T : Int) (σ : Sw) (cs : List Int) (F : Nat → Nat → Int) (n : Nat) (cs2 : List Int) (F2 : Nat → Nat → Int) (n2 : Nat) (t : Tp) (o : Bool) (K : List Nat) (lm hv : Value) (rb : Nat) (r : Swr) (W : World) : Prop where
  pt : PtS w0 B f s M d x p a c P T σ cs F n cs2 F2 n2 t o K lm hv W
  box : Blk W rb r.V 54
  inK : rb ∈ K
  lo : w0.heap.size ≤ rb
section
variable {w0 W W' : World} {B f s M d x p a c : Nat} {P T : Int} {σ : Sw} {cs : List Int} {F : Nat → Nat → Int} {n : Nat} {cs2 : List Int} {F2 : Nat → Nat → Int} {n2 : Nat} {t : Tp} {o : Bool} {K : List Nat} {lm hv : Value} {rb : Nat} {r : Swr}
theorem PtB.quiet (h : PtB w0 B f s M d x p a c P T σ cs F n cs2 F2 n2 t o K lm hv rb r W) (hq : Quiet W W') : PtB w0 B f s M d x p a c P T σ cs F n cs2 F2 n2 t o K lm hv rb r W' := ⟨h.pt.quiet hq, h.box.quiet hq, h.inK, h.lo⟩
theorem PtB.drew (h : PtB w0 B f s M d x p a c P T σ cs F n cs2 F2 n2 t o K lm hv rb r W) : PtB w0 B f s M d x p a c P T σ cs F n cs2 F2 n2 t o K lm hv rb r W.drew := h.quiet ⟨1, rfl⟩
theorem PtB.cells (h : PtB w0 B f s M d x p a c P T σ cs F n cs2 F2 n2 t o K lm hv rb r W) : (W.cell? ⟨rb, 0, none⟩ = some (.bool r.ov) ∧ W.cell? ⟨rb, 1, none⟩ = some (.bool r.sw) ∧ W.cell? ⟨rb, 2, none⟩ = some (.bool r.em) ∧ W.cell? ⟨rb, 3, none⟩ = some (.bool r.bl) ∧ W.cell? ⟨rb, 4, none⟩ = some (.int .i64 r.fr)) ∧ W.cell? ⟨f, 11, none⟩ = some (.pointer (some ⟨p, 0, none⟩)) :=
  ⟨⟨h.box.val 0 rfl, h.box.val 1 rfl, h.box.val 2 rfl, h.box.val 3 rfl, h.box.val 4 rfl⟩, h.pt.fl.val 11 rfl⟩
theorem PtB.step {σ' : Sw} {k wn pt : Int} {i : Nat} (h : PtB w0 B f s M d x p a c P T σ cs F n cs2 F2 n2 t true K lm hv rb r W) (hS : StpOk σ σ' k wn pt cs i) (hn : n < 1000000) (hF : Fl σ' r) :
    Calls Tryz.prog 12 #[.pointer (some ⟨s, 0, none⟩), .pointer (some ⟨p, 0, none⟩)] W fun e w' => e = .returned (.bool r.ov) ∧
      PtB w0 B f s M d x p a c P T σ' (cs.set i (leftI k (cs.getD i 0) wn pt)) (more F n 15 k i wn pt (cs.getD i 0) (leftI k (cs.getD i 0) wn pt)) (n + 1) cs2 F2 n2 t false K lm hv rb r w' := by
  have e1 := blk_ne h.box h.pt.port (by decide)
  have e2 := blk_ne h.box h.pt.mach (by decide)
  refine (hS W W B a c p s n K _ h.pt.sw h.pt.mr hn).mono fun _ _ ⟨he, hB⟩ => ⟨by rw [he, hF.1], h.pt.moved (by rw [flat_more]; exact hB), h.box.touch hB.touch ?_, h.inK, h.lo⟩
  rintro (e | e | ⟨_, e⟩)
  · exact e1 e
  · exact e2 e
  · exact e h.inK
theorem PtB.over (hF : Fl σ r) (h : PtB w0 B f s M d x p a c P T σ cs F n cs2 F2 n2 t o K lm hv rb r W) :
    Calls Tryz.prog 13 #[.pointer (some ⟨s, 0, none⟩)] W fun e w' => e = .returned (.bool r.ov) ∧ PtB w0 B f s M d x p a c P T σ cs F n cs2 F2 n2 t o K lm hv rb r w' :=
  (swOver h.pt.mach).mono fun _ _ ⟨he, hq⟩ => ⟨by rw [he, hF.1], h.quiet hq⟩
theorem PtB.swept (hF : Fl σ r) (h : PtB w0 B f s M d x p a c P T σ cs F n cs2 F2 n2 t o K lm hv rb r W) :
    Calls Tryz.prog 14 #[.pointer (some ⟨s, 0, none⟩)] W fun e w' => e = .returned (.bool r.sw) ∧ PtB w0 B f s M d x p a c P T σ cs F n cs2 F2 n2 t o K lm hv rb r w' :=
  (swSwept h.pt.mach).mono fun _ _ ⟨he, hq⟩ => ⟨by rw [he, hF.2.1], h.quiet hq⟩
theorem PtB.empty (hF : Fl σ r) (h : PtB w0 B f s M d x p a c P T σ cs F n cs2 F2 n2 t o K lm hv rb r W) :
    Calls Tryz.prog 15 #[.pointer (some ⟨s, 0, none⟩)] W fun e w' => e = .returned (.bool r.em) ∧ PtB w0 B f s M d x p a c P T σ cs F n cs2 F2 n2 t o K lm hv rb r w' :=
  (swEmpty h.pt.mach).mono fun _ _ ⟨he, hq⟩ => ⟨by rw [he, hF.2.2.1], h.quiet hq⟩
theorem PtB.blocked (hF : Fl σ r) (h : PtB w0 B f s M d x p a c P T σ cs F n cs2 F2 n2 t o K lm hv rb r W) :
    Calls Tryz.prog 17 #[.pointer (some ⟨s, 0, none⟩)] W fun e w' => e = .returned (.bool r.bl) ∧ PtB w0 B f s M d x p a c P T σ cs F n cs2 F2 n2 t o K lm hv rb r w' :=
  (swBlocked h.pt.mach).mono fun _ _ ⟨he, hq⟩ => ⟨by rw [he, hF.2.2.2.1], h.quiet hq⟩
theorem PtB.freed (hF : Fl σ r) (h : PtB w0 B f s M d x p a c P T σ cs F n cs2 F2 n2 t o K lm hv rb r W) :
    Calls Tryz.prog 16 #[.pointer (some ⟨s, 0, none⟩)] W fun e w' => e = .returned (.int .i64 r.fr) ∧ PtB w0 B f s M d x p a c P T σ cs F n cs2 F2 n2 t o K lm hv rb r w' := by
  obtain ⟨_, _, _, _, h1, h2⟩ := hF
  cases hs : σ.sw with
  | false =>
    rw [h1 hs]
    exact (swFreed_not h.pt.mach hs).mono fun _ _ ⟨he, hq⟩ => ⟨he, h.quiet hq⟩
  | true =>
    rw [(h2 hs).2]
    exact (swFreed_yes h.pt.mach hs (h2 hs).1).mono fun _ _ ⟨he, hq⟩ => ⟨he, h.quiet hq⟩
/-- the answer is stored anew -/
theorem PtB.put (h : PtB w0 B f s M d x p a c P T σ cs F n cs2 F2 n2 t o K lm hv rb r W) (r' : Swr) : PtB w0 B f s M d x p a c P T σ cs F n cs2 F2 n2 t o K lm hv rb r' (((((W.setCell ⟨rb, 0, none⟩ (.bool r'.ov)).setCell ⟨rb, 1, none⟩ (.bool r'.sw)).setCell ⟨rb, 2, none⟩ (.bool r'.em)).setCell ⟨rb, 3, none⟩ (.bool r'.bl)).setCell ⟨rb, 4, none⟩ (.int .i64 r'.fr)) := by
  have ht : Touch (· = rb) W (((((W.setCell ⟨rb, 0, none⟩ (.bool r'.ov)).setCell ⟨rb, 1, none⟩ (.bool r'.sw)).setCell ⟨rb, 2, none⟩ (.bool r'.em)).setCell ⟨rb, 3, none⟩ (.bool r'.bl)).setCell ⟨rb, 4, none⟩ (.int .i64 r'.fr)) :=
    Touch.setCell (R := (· = rb)) (p := ⟨rb, 4, none⟩) (Touch.setCell (R := (· = rb)) (p := ⟨rb, 3, none⟩) (Touch.setCell (R := (· = rb)) (p := ⟨rb, 2, none⟩) (Touch.setCell (R := (· = rb)) (p := ⟨rb, 1, none⟩) (Touch.setCell (R := (· = rb)) (p := ⟨rb, 0, none⟩) (Touch.refl _ _) rfl _) rfl _) rfl _) rfl _) rfl _
  refine ⟨h.pt.own h.inK ?_ (own_neP h.pt.doc.log h.box (by decide)) (own_neP h.pt.tape.row h.box (by decide)) h.lo ht, ((((h.box.set 0 _).set 1 _).set 2 _).set 3 _).set 4 _, h.inK, h.lo⟩
  unfold ptL
  simp only [List.mem_cons, List.not_mem_nil, or_false, not_or]
  exact ⟨blk_ne h.box h.pt.fl (by decide), blk_ne h.box h.pt.mach (by decide), blk_ne h.box h.pt.doc.own (by decide), blk_ne h.box h.pt.doc.row (by decide), blk_ne h.box h.pt.tape.own (by decide), blk_ne h.box h.pt.port (by decide)⟩
theorem PtB.grew (h : PtB w0 B f s M d x p a c P T σ cs F n cs2 F2 n2 t o K lm hv rb r W) (hb : Below W.heap.size W W') : PtB w0 B f s M d x p a c P T σ cs F n cs2 F2 n2 t o K lm hv rb r W' := ⟨h.pt.grew hb, h.box.grew hb, h.inK, h.lo⟩
theorem PtB.grant (h : PtB w0 B f s M d x p a c P T σ cs F n cs2 F2 n2 t o K lm hv rb r W) :
    Calls Tryz.prog 29 #[.pointer (some ⟨p, 0, none⟩)] W fun e w' => (∃ v, e = .returned v) ∧ PtB w0 B f s M d x p a c P T σ cs F n cs2 F2 n2 t true K lm hv rb r w' := by
  have e1 := blk_ne h.box h.pt.port (by decide)
  have e2 := blk_ne h.box h.pt.mach (by decide)
  refine (h.pt.sw.grant h.pt.mr).mono fun _ _ ⟨he, hB⟩ => ⟨he, h.pt.moved hB, h.box.touch hB.touch ?_, h.inK, h.lo⟩
  rintro (e | e | ⟨_, e⟩)
  · exact e1 e
  · exact e2 e
  · exact e h.inK
theorem PtB.again (h : PtB w0 B f s M d x p a c P T σ cs F n cs2 F2 n2 t o K lm hv rb r W) :
    Calls Tryz.prog 9 #[.pointer (some ⟨x, 0, none⟩)] W fun e w' => (∃ v, e = .returned v) ∧ PtB w0 B f s M d x p a c P T σ cs F n cs2 F2 n2 t.again o K lm hv rb r w' :=
  (again_at B x hv t W h.pt.tape).mono fun _ _ ⟨he, hT, ht⟩ => ⟨he, h.pt.ask hT ht, h.box.touch ht (blk_ne h.box h.pt.tape.own (by decide)), h.inK, h.lo⟩
theorem PtB.make (h : PtB w0 B f s M d x p a c P T σ cs F n cs2 F2 n2 t o K lm hv rb r W) (i : Nat) (hk : 1 ≤ t.k ∧ t.k ≤ 6) (ha : t.a = (i : Int)) (hi : i < cs2.length) (hn : n2 < 1000000) (hH : t.H.length < 1000000) :
    Calls Tryz.prog 45 #[.pointer (some ⟨M, 0, none⟩), .pointer (some ⟨x, 0, none⟩), .int .i64 15] W fun e w' => (∃ v, e = .returned v) ∧ ∃ K' lm' hv',
      PtB w0 B f s M d x p a c P T σ cs F n (cs2.set i (leftI t.k (cs2.getD i 0) t.wn t.p)) (more F2 n2 15 t.k i t.wn t.p (cs2.getD i 0) (leftI t.k (cs2.getD i 0) t.wn t.p)) (n2 + 1) { t with H := t.H ++ [cs2.getD i 0] } o K' lm' hv' rb r w' := by
  have h' := h.pt
  have nd := nd6 h'.nd
  refine (make_yes 15 i h'.doc h'.tape (by simp [nd]) (by simp [nd]) (fun e => h'.hvn M e (by simp [ptL])) (fun e => h'.hvn d e (by simp [ptL])) (fun e => (h'.lmn x e).1 (by simp [ptL])) (fun g e e2 => (h'.lmn g e2).2 e) h'.arx.bw h'.arx.bw hn hH (decide_eq_true hk) ha hi).mono ?_
  rintro e w' ⟨he, lm', hv', hD, hT, g1, g2, g3, ht⟩
  refine ⟨he, _, lm', hv', h'.made ?_ hT g1 g2 g3 ht, h.box.touch ht ?_, List.mem_append_right _ h.inK, h.lo⟩
  · rw [flat_more]
    exact hD
  · rintro (e | e | e | e | e)
    · exact blk_ne h.box h'.doc.own (by decide) e
    · exact blk_ne h.box h'.doc.row (by decide) e
    · exact own_neP h'.doc.log h.box (by decide) e
    · exact blk_ne h.box h'.tape.own (by decide) e
    · exact own_neP h'.tape.row h.box (by decide) e
theorem PtB.asked {who cy pg : Int} {H : List Int} {r' : Swr} {q : Option (Int × Int × Int × Int)} (h : PtB w0 B f s M d x p a c P T σ cs F n cs2 F2 n2 t o K lm hv rb r W) (hD : DocIs P T who cy pg H r' q) (hH : t.H = H) (hp : t.pos = 0) (hs : t.st = false) (hl : H.length ≤ 1000000) (hU : ∀ z ∈ H, U64 z) :
    Calls Tryz.prog 10 #[.pointer (some ⟨x, 0, none⟩), .agg #[.int .i64 P, .int .i64 T, .int .i64 1, .int .i64 (baseI P T 1), .int .i64 (tabI T 1), .int .i64 (baseI P T 1 + 64 * P)], .int .i64 who, .int .i64 cy, .int .i64 pg] W fun e w' => e = .returned (.agg #[.bool r'.ov, .bool r'.sw, .bool r'.em, .bool r'.bl, .int .i64 r'.fr]) ∧ ∃ t', t'.H = H ∧ PtB w0 B f s M d x p a c P T σ cs F n cs2 F2 n2 t' o K lm hv rb r w' :=
  (hD W B x hv t h.pt.tape (h.pt.arx.lt x (h.pt.inK x (by simp [ptL]))) (fun g e => h.pt.arx.lt g (h.pt.hvK g e)) hH hp hs hl hU).mono fun _ _ ⟨he, t', h1, h2, hT, ht⟩ => ⟨he, t', h1, h.pt.ask hT ht, h.box.touch ht (blk_ne h.box h.pt.tape.own (by decide)), h.inK, h.lo⟩
set_option maxRecDepth 100000 in
set_option maxHeartbeats 1000000 in
theorem PtB.madeF (i : Nat) (h : PtB w0 B f s M d x p a c P T σ cs F n cs2 F2 n2 t o K lm hv rb r W) (hk : 1 ≤ t.k ∧ t.k ≤ 6) (ha : t.a = (i : Int)) (hi : i < cs2.length) (hn : n2 < 1000000) (hH : t.H.length < 1000000) :
    Calls Tryz.prog 11 #[.pointer (some ⟨f, 0, none⟩), .pointer (some ⟨x, 0, none⟩)] W fun e w' => (∃ v, e = .returned v) ∧ ∃ K' lm' hv',
      PtB w0 B f s M d x p a c P T σ cs F n (cs2.set i (leftI t.k (cs2.getD i 0) t.wn t.p)) (more F2 n2 15 t.k i t.wn t.p (cs2.getD i 0) (leftI t.k (cs2.getD i 0) t.wn t.p)) (n2 + 1) ({ t with H := t.H ++ [cs2.getD i 0] } : Tp).again true K' lm' hv' rb r w' := by
  have G1 := Lib.hid h.grant
  have G2 := Lib.hid (fun W (h : PtB w0 B f s M d x p a c P T σ cs F n cs2 F2 n2 t true K lm hv rb r W) => h.make i hk ha hi hn hH)
  have f11 : W.cell? ⟨f, 11, none⟩ = some (.pointer (some ⟨p, 0, none⟩)) := h.pt.fl.val 11 rfl
  clear h hk ha hi hn hH
  go_enter Tryz.func11, Tryz.ntmps11
  go_wp2_with fail
  refine G1.out.mono ?_; rintro e w1 ⟨⟨v1, rfl⟩, h1⟩
  have f10 : w1.cell? ⟨f, 10, none⟩ = some (.pointer (some ⟨M, 0, none⟩)) := h1.pt.fl.val 10 rfl
  clear f11 G1
  go_wp2_with fail
  refine (G2.out _ h1).mono ?_; rintro e w2 ⟨⟨v2, rfl⟩, K', lm', hv', h2⟩
  have G3 := Lib.hid h2.again
  clear f10 h1 h2 G2
  go_wp2_with fail
  refine G3.out.mono ?_; rintro e w3 ⟨⟨v3, rfl⟩, h3⟩
  replace h3 := Lib.hid h3
  clear G3
  go_wp2
  go_end0
  exact ⟨⟨_, rfl⟩, K', lm', hv', h3.out⟩
end
theorem Ok.doc {P T who cy pg : Int} : ∀ {n : Nat} {σ : Sw} {H : List Int}, Ok P T who cy pg n σ H → ∃ r q, DocIs P T who cy pg H r q ∧ Fl σ r
  | 0, σ, H, ⟨r, _, h1, h2⟩ => ⟨r, none, h1, h2⟩
  | n + 1, σ, H, Or.inl ⟨r, _, h1, h2⟩ => ⟨r, none, h1, h2⟩
  | n + 1, σ, H, Or.inr ⟨k, wn, pt, i, _, _, _, h1, h2, _⟩ => ⟨rw0, _, h1, h2⟩
theorem Ok.more {P T who cy pg : Int} {n : Nat} {σ : Sw} {H : List Int} (h : Ok P T who cy pg n σ H) (hx : (σ.nx == 0) = false) : ∃ n', n = n' + 1 ∧ ∃ k wn pt, ∃ i : Nat, i < cellsN P T 1 ∧ (1 ≤ k ∧ k ≤ 4) ∧ (U64 wn ∧ U64 pt) ∧ DocIs P T who cy pg H rw0 (some (k, (i : Int), wn, pt)) ∧ Fl σ rw0 ∧
      ∀ cs, cs.length = cellsN P T 1 → (∀ z ∈ cs, U64 z) → ∃ σ', StpOk σ σ' k wn pt cs i ∧ Ok P T who cy pg n' σ' (H ++ [cs.getD i 0]) := by
  match n, h with
  | 0, ⟨r, h1, _, h2⟩ => rw [h2.1, h1] at hx; cases hx
  | n + 1, Or.inl ⟨r, h1, _, h2⟩ => rw [h2.1, h1] at hx; cases hx
  | n + 1, Or.inr h => exact ⟨n, rfl, h⟩
theorem leftI_U {k z wn pt : Int} (hz : U64 z) (hp : U64 pt) (hk : 1 ≤ k ∧ k ≤ 4) : U64 (leftI k z wn pt) := by
  have : k = 1 ∨ k = 2 ∨ k = 3 ∨ k = 4 := by omega
  rcases this with rfl | rfl | rfl | rfl
  · exact hz
  · exact hp
  · exact hp
  · rw [leftI_four]
    unfold casI
    split
    · exact hp
    · exact hz
end Go.Proofs.YtnodeojeijekcaaGreat
