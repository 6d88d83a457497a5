/- mask.All as an iterator: its walk. Conditions: the list is short, the table of math/bits lies as the start lays it. -/
import Derived.Test.YtbpgnhakphpobaaDoorMall
namespace Go.Proofs.YtbpgnhakphpobaaDoor
open Go.RowKit Go.Shelf
set_option linter.unusedVariables false
attribute [local go_sem] Oper.semAt_some

def AllPost (l : List Int) (w : World) (e : Ending) (w' : World) : Prop :=
  ∃ b a cap g, e = .returned (.func (.func 15) #[] #[.pointer (some ⟨b, 0, none⟩)]) ∧ Boxed w' b 22 (.slice a l.length cap) ∧ w.heap.size ≤ b ∧ w.heap.size ≤ g ∧
    (0 < l.length → a = some ⟨g, 0, none⟩ ∧ g < w'.heap.size ∧ ∀ i, i < l.length → w'.cell? ⟨g, i, none⟩ = some (.int .u64 (l.getD i 0))) ∧ Below w.heap.size w w'
set_option maxHeartbeats 400000 in
theorem all_any (v : Value) (l : List Int) (w : World) (h : Lst .u64 w v l) (hl : l.length ≤ 4096) :
    Calls Tryd.prog 5 #[v] w (AllPost l w) := by
  have C := Lib.hid (clone_any v l w h (by omega))
  clear h
  go_enter Tryd.func5, Tryd.ntmps5
  go_wp2_with fail
  refine C.out.mono ?_
  rintro e w1 ⟨u, rfl, hown, hb⟩
  obtain ⟨a, cap, rfl⟩ := own_slice hown
  clear C
  go_wp2
  go_ret
  have hb2 : Below w.heap.size w (w1.alloc (.cells #[.slice a l.length cap] 22)) := hb.alloc hb.size _
  rcases Nat.eq_zero_or_pos l.length with h0 | h0
  · exact ⟨w1.heap.size, a, cap, w.heap.size, rfl, Blk.new _ _ _, hb.size, Nat.le_refl _, fun h => by omega, hb2⟩
  · obtain ⟨g, cap', hv, hg, _⟩ := own_form hown h0
    simp only [Value.slice.injEq, true_and] at hv
    obtain ⟨rfl, rfl⟩ := hv
    refine ⟨w1.heap.size, _, cap, g, rfl, Blk.new _ _ _, hb.size, hg, fun _ => ⟨rfl, ?_, fun i hi => ?_⟩, hb2⟩
    · have := World.block_lt_of_cell? w1 _ (own_word hown 0 h0); simp at this ⊢; omega
    · have hc := own_word hown i hi
      rw [World.cell?_alloc_lt _ _ _ (World.block_lt_of_cell? w1 _ hc)]; exact hc
/-- what holds between two words -/
structure AllS (l : List Int) (X : Nat → Prop) (W : World) (lp : Nat) (J : List (Fin 65536) → (Nat → Prop) → World → Prop) (i : Nat) (pre : List (Fin 65536)) (Ds : List Nat) (Y : Nat → Prop) (wr : World) : Prop where
  le : i ≤ l.length
  num : nums pre = plR l i
  tab : Tab wr
  nt : ¬ Y 0
  we : Went X W Y wr
  bx : Boxed wr W.heap.size 43 (.func (.yield lp) #[] #[])
  nb : ¬ Y W.heap.size
  dn : Ds.Nodup
  dd : ∀ D ∈ Ds, wr.heap[D]? = some (.deferred (some [])) ∧ W.heap.size ≤ D ∧ ¬ Y D
  j : J pre Y wr
theorem all_done {l : List Int} {X : Nat → Prop} {W : World} {lp : Nat} {J Jx : List (Fin 65536) → (Nat → Prop) → World → Prop} {pre : List (Fin 65536)} {Ds : List Nat} {Y : Nat → Prop} {wr : World} (hJ : Foot J) {i : Nat} (h : AllS l X W lp J i pre Ds Y wr) (hi : i = l.length) {fn : Func} {tmps : Array Value} (v : Value) (hv : ∀ w, (results fn tmps).run Tryd.prog w = .ok v w) :
    LeavesInM Fence.wide 9 Tryd.prog fn tmps (fun e W' => (∃ v, e = .returned v) ∧ ∃ Y, Went X W Y W' ∧ ((∃ xs, nums xs = plL l ∧ J xs Y W') ∨ (∃ pre, nums pre <+: plL l ∧ Jx pre Y W'))) (Ds.map markD) .returning wr :=
  out_marks h.we h.dn h.dd (fun w' hk => .inl ⟨pre, by rw [h.num, hi]; rfl, hJ pre Y wr w' h.j h.we.lt hk⟩) v hv

theorem all_marks {Y Xin Yc Yj : Nat → Prop} {W wr w2 Wc : World} {Ds : List Nat} {D : Nat} {v : Value} (dn : Ds.Nodup) (dd : ∀ D ∈ Ds, wr.heap[D]? = some (.deferred (some [])) ∧ W.heap.size ≤ D ∧ ¬ Y D) (hW : W.heap.size ≤ wr.heap.size) (h2 : Touch (fun _ => False) wr w2) (h3 : Went Xin w2 Yc Wc) (hX : ∀ k, Xin k → Y k ∨ k = W.heap.size ∨ k = wr.heap.size) (hb : Boxed wr W.heap.size 43 v)
    (hY : ∀ k, Yj k → Yc k) (hD : w2.heap.size ≤ D) (hYD : ¬ Yc D) (hDk : Wc.heap[D]? = some (.deferred (some []))) : (D :: Ds).Nodup ∧ ∀ D' ∈ D :: Ds, Wc.heap[D']? = some (.deferred (some [])) ∧ W.heap.size ≤ D' ∧ ¬ Yj D' := by
  have hlt : ∀ D' ∈ Ds, D' < wr.heap.size := fun D' h => (Array.getElem?_eq_some_iff.1 (dd D' h).1).1
  refine ⟨List.nodup_cons.2 ⟨fun h => by have := hlt D h; have := h2.size; omega, dn⟩, fun D' h => ?_⟩
  rcases List.mem_cons.1 h with rfl | h
  · exact ⟨hDk, Nat.le_trans hW (Nat.le_trans h2.size hD), fun e => hYD (hY _ e)⟩
  · obtain ⟨k1, k2, k3⟩ := dd D' h
    have hl := hlt D' h
    have hnx : ¬ Xin D' := fun e => by
      rcases hX D' e with e | e | e
      · exact k3 e
      · subst e; rw [show wr.heap[W.heap.size]? = _ from hb] at k1; cases k1
      · omega
    have hl2 := Nat.lt_of_lt_of_le hl h2.size
    exact ⟨(h3.touch.block D' hl2 hnx).trans ((h2.block D' hl (fun e => e)).trans k1), k2, fun e => h3.not hl2 hnx (hY _ e)⟩

def AllR (l : List Int) (X : Nat → Prop) (W : World) (lp : Nat) (J : List (Fin 65536) → (Nat → Prop) → World → Prop) (b cap : Nat) (a : Option Addr) (a' : Act) (wr : World) : Prop := ∃ (i : Nat) (pre : List (Fin 65536)) (Ds : List Nat) (Y : Nat → Prop) (u3 u4 u5 u9 u10 u11 u12 u13 u14 u15 u16 u17 u18 u19 u20 u21 u22 u23 : Value), Hid (AllS l X W lp J i pre Ds Y wr) ∧
    a' = { tmps := #[.func (.yield lp) #[] #[], .pointer (some ⟨b, 0, none⟩), .pointer (some ⟨W.heap.size, 0, none⟩), u3, u4, u5, .slice a l.length cap, .int .i64 l.length, .int .i64 i, u9, u10, u11, u12, u13, u14, u15, u16, u17, u18, u19, u20, u21, u22, u23], defers := Ds.map markD }
set_option maxRecDepth 100000 in
set_option maxHeartbeats 2000000 in
theorem all_x (b g cap : Nat) (a : Option Addr) (l : List Int) (w : World) (hl : l.length ≤ 1024) (hU : ∀ z ∈ l, U64 z) (hT : Tab w) (hbx : Boxed w b 22 (.slice a l.length cap))
    (hrow : 0 < l.length → a = some ⟨g, 0, none⟩ ∧ g < w.heap.size ∧ ∀ i, i < l.length → w.cell? ⟨g, i, none⟩ = some (.int .u64 (l.getD i 0))) :
    SeqX Tryd.prog 15 #[.pointer (some ⟨b, 0, none⟩)] plEnc (fun k => k = 0 ∨ (0 < l.length ∧ k = g)) (fun xs => nums xs = plL l) (fun pre => nums pre <+: plL l) (plL l).length w :=
  fun lp J Jx X W hW hXl hZ hJ hJx hY h0 => by
  have hT1 : Tab W := hT.grew hW
  have hbx1 : Boxed W b 22 (.slice a l.length cap) := Blk.grew hbx hW
  have hrow1 : 0 < l.length → a = some ⟨g, 0, none⟩ ∧ g < W.heap.size ∧ ¬ X g ∧ ∀ i, i < l.length → W.cell? ⟨g, i, none⟩ = some (.int .u64 (l.getD i 0)) := fun h => by
    obtain ⟨h1, h2, h3⟩ := hrow h
    exact ⟨h1, Nat.lt_of_lt_of_le h2 hW.size, hZ g (.inr ⟨h, rfl⟩), fun i hi => (hW.cell (p := ⟨g, i, none⟩) h2).trans (h3 i hi)⟩
  have hg : ¬ X 0 := hZ _ (.inl rfl)
  have hcb := hbx1.cell
  have hblt := hbx1.lt
  refine callsIn_of_wp_marks Tryd.func15 rfl trivial ?_ rfl
  simp only [Tryd.ntmps15, List.size_toArray, List.length_cons, List.length_nil, Nat.reduceAdd, Nat.reduceSub, Array.replicate_succ, Array.replicate_zero, List.push_toArray, List.append_toArray, List.nil_append, List.cons_append]
  have hZ0 := Lib.hid hZ
  have hY0 := Lib.hid hY
  have hrow0 := Lib.hid hrow1
  clear hrow hrow1 hZ hY hbx
  gi_wp2_with fail
  have hS0 : AllS l X W lp J 0 [] [] X (W.alloc (.cells #[.func (.yield lp) #[] #[]] 43)) :=
    ⟨Nat.zero_le _, rfl, hT1.grew ((Below.refl _ _).alloc (Nat.le_refl _) _), hg, ⟨(Touch.refl _ _).alloc _, fun k hk => .inl hk, fun k hk => by have := hXl k hk; simp; omega⟩, Blk.new _ _ _, fun h => by have := hXl _ h; omega, List.nodup_nil, fun D hD => by simp at hD, hJ _ _ _ _ h0 hXl (Keep.of_touch (R := fun _ => False) ((Touch.refl _ _).alloc _) (fun _ _ h => h))⟩
  have HS0 := Lib.hid hS0
  have hJ0 := Lib.hid hJ
  clear hS0 hT1 hbx1 hg h0 hcb hblt hW hT hJ
  generalize W.alloc (.cells #[.func (.yield lp) #[] #[]] 43) = W0 at *
  refine wpIn_loop (AllR l X W lp J b cap a) (fun a' _ => l.length - (intOf (a'.tmps.getD 8 undef)).toNat) ?_ ?_
  · exact ⟨0, [], [], X, _, _, _, _, _, _, _, _, _, _, _, _, _, _, _, _, _, _, HS0, rfl⟩
  rintro _ wr ⟨i, pre, Ds, Y, u3, u4, u5, u9, u10, u11, u12, u13, u14, u15, u16, u17, u18, u19, u20, u21, u22, u23, hS, rfl⟩
  have hile := hS.out.le
  by_cases hi : i < l.length
  · have hi' : (i : Int) < (l.length : Int) := by omega
    have hi0 : (0 : Int) ≤ (i : Int) := by omega
    obtain ⟨ha, hgl, hgX, hcell⟩ := hrow0.out (by omega)
    have hc : wr.cell? ⟨g, i, none⟩ = some (.int .u64 (l.getD i 0)) := (World.cell?_of_block (hS.out.we.touch.block g hgl hgX)).trans (hcell i hi)
    subst ha
    have hx := hU (l.getD i 0) (by rw [getD_in l i hi]; exact List.getElem_mem hi)
    have hil : i < 1024 := by omega
    have HP := Lib.hid (plR_succ l i)
    have hPre := Lib.hid (plR_pre l (l.length - (i + 1)) (i + 1))
    rw [show i + 1 + (l.length - (i + 1)) = l.length by omega] at hPre
    generalize hz : l.getD i 0 = z at *
    have HZ := Lib.hid hz
    clear hz hcell hrow0 HS0
    gi_wp2_with fail
    refine ⟨trivial, ?_⟩
    refine (callsIn_wide.2 (bits_any z _)).mono ?_
    rintro e w2 ⟨rfl, hw2⟩
    have hS1 := hS.out
    have t2 : Touch (fun _ => False) wr w2 := by rw [hw2]; exact ((Touch.refl _ _).alloc _).alloc _
    have hsz : w2.heap.size = wr.heap.size + 2 := by rw [hw2]; simp
    have hib : Boxed w2 wr.heap.size 3 (.int .i64 i) := by rw [hw2]; exact (Blk.new _ _ _).alloc _
    have hzb : Boxed w2 (wr.heap.size + 1) 24 (.int .u64 z) := by rw [hw2]; exact Blk.new' (by simp)
    have hT2 : Tab w2 := hS1.tab.touch t2 (fun e => e)
    have hbx2 : Boxed w2 W.heap.size 43 (.func (.yield lp) #[] #[]) := Blk.touch hS1.bx t2 (fun e => e)
    have hWw := hS1.we.touch.size
    have hbl := Blk.lt hS1.bx
    have hzc := Boxed.cell hzb
    have hlt2 : ∀ k, Y k → k < wr.heap.size := hS1.we.lt
    have hgY : ¬ Y g := hS1.we.not hgl hgX
    have htl := hS1.tab.lt
    have hIn : Foot (Wth (fun k => k = W.heap.size ∨ k = wr.heap.size) (fun (q : List (Fin 64)) Y W => J (pre ++ q.map (upF i hil)) Y W) (fun Wc => Boxed Wc W.heap.size 43 (.func (.yield lp) #[] #[]) ∧ Boxed Wc wr.heap.size 3 (.int .i64 i))) :=
      foot_with (fun s X A B h hl hk => hJ0.out _ X A B h hl hk) (fun A B h hl hk => ⟨Blk.keep h.1 hk (.inl rfl), Blk.keep h.2 hk (.inr rfl)⟩)
    have hIx : ∀ c : Code, Foot (Wth (fun k => k = W.heap.size ∨ k = wr.heap.size) (fun (q : List (Fin 64)) Y W => c = .ret ∧ Jx (pre ++ q.map (upF i hil)) Y W) (fun _ => True)) := fun c =>
      foot_with (fun s X A B h hl hk => ⟨h.1, hJx _ X A B h.2 hl hk⟩) (fun _ _ _ _ _ => trivial)
    have HI := Lib.hid hIn
    have HIx := Lib.hid hIx
    have H0 : Hid (Wth (fun k => k = W.heap.size ∨ k = wr.heap.size) (fun (q : List (Fin 64)) Y W => J (pre ++ q.map (upF i hil)) Y W) (fun Wc => Boxed Wc W.heap.size 43 (.func (.yield lp) #[] #[]) ∧ Boxed Wc wr.heap.size 3 (.int .i64 i)) [] (fun k => Y k ∨ k = W.heap.size ∨ k = wr.heap.size) w2) :=
      ⟨Y, fun k => Iff.rfl, fun k hk hy => by
        rcases hk with e | e
        · subst e; exact hS1.nb hy
        · subst e; have := hlt2 _ hy; omega, by simpa using hJ0.out _ Y _ _ hS1.j hS1.we.lt (Keep.of_touch t2 (fun _ _ e => e)), hbx2, hib⟩
    have hBit := Lib.hid (bits_x (wr.heap.size + 1) z w2 hx hT2 (by omega) hzc)
    have hplen : pre.length = (plR l i).length := by rw [← hS1.num, nums_len]
    have HPl := Lib.hid hplen
    have hXin : ∀ k, (Y k ∨ k = W.heap.size ∨ k = wr.heap.size) → k < w2.heap.size := fun k hk => by
      rcases hk with e | e | e
      · have := hlt2 k e; omega
      · omega
      · omega
    have hZin : ∀ k, k = 0 → ¬ (Y k ∨ k = W.heap.size ∨ k = wr.heap.size) := fun k hk e => by
      subst hk
      rcases e with e | e | e
      · exact hS1.nt e
      · have h1 := hS1.tab 0 (by decide)
        have h2 := Boxed.cell hS1.bx
        rw [← e] at h2
        rw [h1] at h2
        simp at h2
      · omega
    have HXZ := Lib.hid (And.intro hXin (And.intro hZin (fun k (hk : k = 0) => show k < w2.heap.size by omega)))
    clear hS1 hw2 hib hzb hT2 hbx2 hzc hIn hIx hplen hXin hZin htl
    rw [show (wr.alloc (.cells #[.int .i64 i] 3)).heap.size = wr.heap.size + 1 by simp]
    gi_wp2_with fail
    refine range_X (gf := 24) (lb := #[.pointer (some ⟨wr.heap.size + 1, 0, none⟩)]) rfl (enters_of Tryd.func24 (by kernel_rfl) rfl) hBit.out (Below.refl _ _) (fun _ => rfl) _ _ _ HXZ.out.1 HXZ.out.2.1 HXZ.out.2.2 HI.out HIx.out H0.out
      (fun x => { tmps := #[.func (.yield lp) #[] #[], .pointer (some ⟨b, 0, none⟩), .pointer (some ⟨W.heap.size, 0, none⟩), .pointer (some ⟨wr.heap.size, 0, none⟩), .int .u64 z, .int .i64 ((x.val : Nat) : Int), .slice (some ⟨g, 0, none⟩) l.length cap, .int .i64 l.length, .int .i64 i, .bool true, .int .i64 i, .pointer (some ⟨g, i, none⟩), .int .u64 z, .int .u64 z, .func (.func 24) #[] #[.pointer (some ⟨wr.heap.size + 1, 0, none⟩)], .int .i64 ((x.val : Nat) : Int), u16, u17, u18, u19, u20, u21, u22, u23], defers := [] }) ?assign ?body ?done ?stop
    case assign =>
      intro l' x W' K hK
      gi_wp2
      exact hK
    case body =>
      rintro l' q x Yc Wc ⟨Yj, h1, h2, hj, hbx, hib⟩ hlt _ hqlen
      have hlen : (pre ++ q.map (upF i hil)).length < (plL l).length := by
        have e1 := HPl.out
        have e2 := (hPre.out).length_le
        rw [HP.out, List.length_append, List.length_map] at e2
        rw [List.length_append, List.length_map]
        unfold plL
        omega
      obtain ⟨fn, tmps, assign, body, hy, hRd⟩ := hY0.out (pre ++ q.map (upF i hil)) (upF i hil x) Yj Wc hj (fun k hk => hlt k ((h1 k).2 (.inl hk))) hlen
      have hE : ∀ k, (k = W.heap.size ∨ k = wr.heap.size) → k < Wc.heap.size := fun k hk => hlt k ((h1 k).2 (.inr hk))
      have e1 : (((upF i hil x).val : Nat) : Int) = 64 * (i : Int) + ((x.val : Nat) : Int) := by simp [upF]
      dsimp only [plEnc] at hy
      rw [e1] at hy
      have hx0 : (0 : Int) ≤ ((x.val : Nat) : Int) := by omega
      have hx1 : ((x.val : Nat) : Int) < 64 := by have := x.isLt; omega
      have hR0 := Lib.hid hRd
      have hfin : ∀ (Y3 : Nat → Prop) (W3 : World), Went Yj Wc Y3 W3 → (∀ k, (k = W.heap.size ∨ k = wr.heap.size) → ¬ Y3 k) ∧ Went Yc Wc (fun k => Y3 k ∨ (k = W.heap.size ∨ k = wr.heap.size)) W3 ∧ Boxed W3 W.heap.size 43 (.func (.yield lp) #[] #[]) ∧ Boxed W3 wr.heap.size 3 (.int .i64 i) := fun Y3 W3 hw =>
        ⟨fun k hk => hw.not (hE k hk) (h2 k hk), hw.with h1 hE, Blk.touch hbx hw.touch (h2 _ (.inl rfl)), Blk.touch hib hw.touch (h2 _ (.inr rfl))⟩
      have hF := Lib.hid hfin
      have hcb := Boxed.cell hbx
      have hci := Boxed.cell hib
      have eS : Hid ((pre ++ q.map (upF i hil)) ++ [upF i hil x] = pre ++ (q ++ [x]).map (upF i hil)) := by unfold Hid; simp
      generalize ((x.val : Nat) : Int) = p at *
      clear hfin hRd hbx hib hj h1 h2 hlt e1
      gi_wp2
      refine (round_in hR0.out).mono ?_
      rintro e W3 ⟨Y3, hW3, (⟨rfl, hJ3⟩ | ⟨rfl, hJ3⟩)⟩
      · have fin := Lib.hid (hF.out Y3 W3 hW3)
        rw [eS.out] at hJ3
        gi_wp2
        exact ⟨_, fin.out.2.1, Y3, fun _ => Iff.rfl, fin.out.1, hJ3, fin.out.2.2⟩
      · have fin := Lib.hid (hF.out Y3 W3 hW3)
        rw [eS.out] at hJ3
        gi_wp2
        exact ⟨_, fin.out.2.1, Y3, fun _ => Iff.rfl, fin.out.1, ⟨rfl, hJ3⟩, trivial⟩
    case done =>
      rintro D xs Yc Wc hD hYD hxs ⟨Yj, h1, h2, hj, hbx, hib⟩ hWe hDk
      have hS1 := hS.out
      have hYj : ∀ k, Yj k → Yc k := fun k hk => (h1 k).2 (.inl hk)
      obtain ⟨m1, m2⟩ := all_marks (Yj := Yj) hS1.dn hS1.dd hWw t2 hWe (fun k hk => hk) hS1.bx hYj hD hYD hDk
      have hwe := hS1.we.join t2 hWe (fun k hk => by rcases hk with e | e | e; exact .inl e; exact .inr (by omega); exact .inr (by omega)) hYj
      have htX := HXZ.out.2.1 _ rfl
      have hN : Hid (AllS l X W lp J (i + 1) (pre ++ xs.map (upF i hil)) (D :: Ds) Yj Wc) :=
        ⟨by omega, by rw [HP.out, ← hxs, ← nums_up i hil, ← hS1.num]; simp [nums], (hS1.tab.touch t2 (fun e => e)).touch hWe.touch htX, fun e => hWe.not (HXZ.out.2.2 _ rfl) htX (hYj _ e), hwe, hbx, h2 _ (.inl rfl), m1, m2, hj⟩
      have hi2 : (i : Int) < 1024 := by omega
      clear hS hj m1 m2 hwe hbx hib hWe hDk hxs
      gi_wp2
      rw [show (i : Int) + 1 = ((i + 1 : Nat) : Int) by omega]
      refine ⟨show AllR l X W lp J b cap (some ⟨g, 0, none⟩) _ _ from ⟨i + 1, _, D :: Ds, Yj, _, _, _, _, _, _, _, _, _, _, _, _, _, _, _, _, _, _, hN, rfl⟩, ?_⟩
      show l.length - ((i + 1 : Nat) : Int).toNat < l.length - (i : Int).toNat
      omega
    case stop =>
      rintro D c q Yc Wc hD hYD hq ⟨Yj, h1, h2, ⟨rfl, hj⟩, -⟩ hWe hDk
      have hS1 := hS.out
      have hYj : ∀ k, Yj k → Yc k := fun k hk => (h1 k).2 (.inl hk)
      obtain ⟨m1, m2⟩ := all_marks (Yj := Yj) hS1.dn hS1.dd hWw t2 hWe (fun k hk => hk) hS1.bx hYj hD hYD hDk
      have hwe := hS1.we.join t2 hWe (fun k hk => by rcases hk with e | e | e; exact .inl e; exact .inr (by omega); exact .inr (by omega)) hYj
      have hpf : nums (pre ++ q.map (upF i hil)) <+: plL l := by
        refine List.IsPrefix.trans ?_ hPre.out
        obtain ⟨t, ht⟩ := hq
        rw [HP.out, ← hS1.num]
        refine ⟨t.map fun p => 64 * (i : Int) + p, ?_⟩
        rw [← ht, List.map_append, ← nums_up i hil]
        simp [nums]
      gi_wp2
      exact out_marks (Ds := D :: Ds) hwe m1 m2 (fun w' hk => .inr ⟨_, hpf, hJx _ Yj Wc w' hj hwe.lt hk⟩) _ (fun w => results_none rfl _ _ _)
  · have hi' : ¬ (i : Int) < (l.length : Int) := by omega
    gi_wp2_with fail
    exact all_done hJ0.out hS.out (by omega) _ (fun w => results_none rfl _ _ _)
end Go.Proofs.YtbpgnhakphpobaaDoor
