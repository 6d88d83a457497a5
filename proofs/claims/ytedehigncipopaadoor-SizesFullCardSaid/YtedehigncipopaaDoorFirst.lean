/- Package sizes: what First, Rounds and Fills return, and the document's First, Valid, Rounds and Fills; the law's small check. No condition but that the tables lie as the start lays them. -/
import Derived.Test.YtedehigncipopaaDoorSizf
import Derived.Deep.RegionHeld3
namespace Go.Proofs.YtedehigncipopaaDoor
open Go.RowKit Go.Shelf
set_option linter.unusedVariables false
attribute [local go_sem] Oper.semAt_some

/-- the lowest cell from a word on that isn't allocated; -1: there is none -/
def firstI (c a f : Int) : Int := ((freeL c a).find? fun z => decide (f ≤ z)).getD (-1)
theorem first_hit (c a f : Int) (q : List Int) (y : Int) (h : (q ++ [y]) <+: freeL c a) (hq : ∀ z ∈ q, z < f) (hy : f ≤ y) : firstI c a f = y := by
  obtain ⟨r, hr⟩ := h
  unfold firstI
  rw [← hr, List.append_assoc, List.find?_append, List.find?_eq_none.2 (fun z hz => by have := hq z hz; simp; omega)]
  simp [hy]
theorem first_miss (c a f : Int) (h : ∀ z ∈ freeL c a, z < f) : firstI c a f = -1 := by
  unfold firstI
  rw [List.find?_eq_none.2 (fun z hz => by have := h z hz; simp; omega)]
  rfl

set_option maxRecDepth 100000 in
set_option maxHeartbeats 2000000 in
theorem first_any (c a f : Int) (w : World) (hT : Tbs w) (ha : U64 a) :
    Calls Tryd.prog 30 #[.int .i64 c, .int .u64 a, .int .i64 f] w fun e w' => e = .returned (.int .i64 (firstI c a f)) ∧ Below w.heap.size w w' := by
  have P := Lib.hid (fun W (h : Wid W) => free_any c a W h ha)
  have hM := Lib.hid (first_miss c a f)
  have hH := Lib.hid (first_hit c a f)
  have hU := Lib.hid (freeI_U64 c a ha)
  have hL := Lib.hid (freeI_plcs c a ha)
  refine (callsIn_wide (n := 9)).1 ?_
  refine callsIn_of_wp_marks Tryd.func30 rfl trivial ?_ rfl
  simp only [Tryd.ntmps30, List.size_toArray, List.length_cons, List.length_nil, Nat.reduceAdd, Nat.reduceSub, Array.replicate_succ, Array.replicate_zero, List.push_toArray, List.append_toArray, List.nil_append, List.cons_append]
  gi_wp2_with fail
  have b0 : Blk ((w.alloc (.cells #[.int .i64 f] 3)).alloc (.cells #[.int .i64 0] 3)) w.heap.size #[.int .i64 f] 3 := (Blk.new _ _ _).alloc _
  have b1 : Blk ((w.alloc (.cells #[.int .i64 f] 3)).alloc (.cells #[.int .i64 0] 3)) (w.heap.size + 1) #[.int .i64 0] 3 := Blk.new' (by simp)
  have hB0 : Below w.heap.size w ((w.alloc (.cells #[.int .i64 f] 3)).alloc (.cells #[.int .i64 0] 3)) := ((Below.refl _ w).alloc (Nat.le_refl _) _).alloc (by simp) _
  have hsz : ((w.alloc (.cells #[.int .i64 f] 3)).alloc (.cells #[.int .i64 0] 3)).heap.size = w.heap.size + 2 := by simp
  generalize ((w.alloc (.cells #[.int .i64 f] 3)).alloc (.cells #[.int .i64 0] 3)) = W0 at *
  refine ⟨trivial, ?_⟩
  refine (callsIn_wide.2 (P.out _ (hT.wid.grew hB0))).mono ?_
  rintro e W1 ⟨rfl, hb1⟩
  have hs1 := hb1.size
  have b0' := b0.grew hb1
  have b1' := b1.grew hb1
  have hB1 : Below w.heap.size w W1 := hB0.trans (hb1.mono (by omega))
  clear b0 b1 hb1 hB0
  gi_wp2_with fail
  refine ⟨trivial, ?_⟩
  refine (callsIn_wide.2 (bits_any _ _)).mono ?_
  rintro e w2 ⟨rfl, rfl⟩
  gi_wp2_with fail
  have b0 := b0'.alloc (.cells #[.int .u64 (freeI c a)] 27)
  have b1 := b1'.alloc (.cells #[.int .u64 (freeI c a)] 27)
  have b2 : Blk (W1.alloc (.cells #[.int .u64 (freeI c a)] 27)) W1.heap.size #[.int .u64 (freeI c a)] 27 := Blk.new _ _ _
  have hB2 : Below w.heap.size w (W1.alloc (.cells #[.int .u64 (freeI c a)] 27)) := hB1.alloc (by omega) _
  have hs2 : (W1.alloc (.cells #[.int .u64 (freeI c a)] 27)).heap.size = W1.heap.size + 1 := by simp
  generalize hX : freeI c a = X at *
  generalize W1.alloc (.cells #[.int .u64 X] 27) = W2 at *
  clear b0' b1' hB1 hX
  have c0 := b0.val 0 rfl
  have c1 := b1.val 0 rfl
  have f1 := b1.frozen 0
  have c2 := b2.val 0 rfl
  have hT2 := hT.grew hB2
  refine wpIn_rangeFunc_ownF rfl (by omega) (gf := 63) (lb := #[.pointer (some ⟨W1.heap.size, 0, none⟩)]) rfl trivial (enters_of Tryd.func63 (by kernel_rfl) rfl)
    (bits_stops 8 (by omega) W1.heap.size w.heap.size X W2 hU.out (by omega) hT.tab.lt hT2.tab (by omega) c2) belowK_t (belowK_b (by omega)) (Below.refl _ _) (fun _ => rfl)
    (fun pre W => (Hid (∀ z ∈ fins pre, z < f) ∧ W.cell? ⟨w.heap.size, 0, none⟩ = some (.int .i64 f) ∧ W.cell? ⟨w.heap.size + 1, 0, none⟩ = some (.int .i64 0) ∧ W.frozen? ⟨w.heap.size + 1, 0, none⟩ = false) ∧ Below w.heap.size w W)
    (fun cc pre W => (cc = .ret ∧ (∃ q y, Hid (fins pre = q ++ [y]) ∧ Hid (∀ z ∈ q, z < f) ∧ Hid (f ≤ y) ∧ W.cell? ⟨w.heap.size + 1, 0, none⟩ = some (.int .i64 y))) ∧ Below w.heap.size w W)
    (OwnFrom.and (Own.from (fun s A B row hs hg hr => ⟨hs.1, cell_kept hs.2.1 hg hr, cell_kept hs.2.2.1 hg hr, (frozen_kept hs.2.2.1 hg hr).trans hs.2.2.2⟩) _) (ownFrom_below (Nat.le_refl _) (by omega)))
    (fun cc => OwnFrom.and (Own.from (fun s A B row hs hg hr => by obtain ⟨h1, q, y, h2, h3, h4, h5⟩ := hs; exact ⟨h1, q, y, h2, h3, h4, cell_kept h5 hg hr⟩) _) (ownFrom_below (Nat.le_refl _) (by omega)))
    ⟨⟨by unfold Hid; simp [fins], c0, c1, f1⟩, hB2⟩
    (fun i => { tmps := #[.int .i64 c, .int .u64 a, .int .i64 f, undef, undef, .pointer (some ⟨w.heap.size, 0, none⟩), .pointer (some ⟨w.heap.size + 1, 0, none⟩), .int .i64 ((i.val : Nat) : Int), .int .i64 c, .int .u64 a, .int .u64 X,
      .func (.func 63) #[] #[.pointer (some ⟨W1.heap.size, 0, none⟩)], .int .i64 ((i.val : Nat) : Int), undef, undef, undef, undef], defers := [] }) ?assign ?body ?done ?stop
  case assign =>
    intro l i W K hK
    gi_wp2
    exact hK
  case body =>
    rintro l pre i W ⟨⟨hp, hcf, hcr, hfr⟩, hB⟩ _
    generalize hy : ((i.val : Nat) : Int) = y at *
    have HY := Lib.hid hy
    clear hy
    by_cases hf : f ≤ y
    · gi_wp2
      exact ⟨KeepsOthers.setCell _ _ _, ⟨rfl, fins pre, y, by unfold Hid; rw [fins_snoc, HY.out], hp, Lib.hid hf, World.cell?_setCell_same' _ _ _ (by rw [hcr]; rfl)⟩, hB.setCell (p := ⟨w.heap.size + 1, 0, none⟩) (by simp) _⟩
    · have hlt := Lib.hid (show y < f by omega)
      gi_wp2
      refine ⟨KeepsOthers.refl _, Below.refl _ _, ⟨?_, hcf, hcr, hfr⟩, hB⟩
      unfold Hid
      intro z hz
      rw [fins_snoc, HY.out] at hz
      rcases List.mem_append.1 hz with h | h
      · exact hp.out z h
      · rw [List.mem_singleton.1 h]; exact hlt.out
  case done =>
    rintro D ys W hD hys ⟨⟨hp, _, hcr, hfr⟩, hB⟩ hK
    have hs : firstI c a f = -1 := hM.out (by rw [← hL.out, ← hys]; exact hp.out)
    gi_wp2
    have hK' := (KeepsOthers.setCell W ⟨w.heap.size + 1, 0, none⟩ (.int .i64 (-1))).same D _ hK rfl
    refine ⟨by simp, .inl ⟨_, _, rfl, run_takeDeferred hK', ?_⟩⟩
    have hc5 := cell_kept (World.cell?_setCell_same' W ⟨w.heap.size + 1, 0, none⟩ (.int .i64 (-1)) (by rw [hcr]; rfl)) (grownBy_putObj' _ D (.deferred none)) (fun r e => by cases e; exact ⟨_, hK', rfl⟩)
    refine ⟨.int .i64 (-1), ?_, by rw [hs], (hB.setCell (p := ⟨w.heap.size + 1, 0, none⟩) (by simp) _).trans (belowK_b (w := w) (Nat.le_refl _) _ D _ _ (by omega) hK' rfl rfl)⟩
    simp [results, Tryd.f30, go_sem, hc5]
  case stop =>
    rintro D cc pre W hD hpre ⟨⟨rfl, q, y, h1, h2, h3, hcr⟩, hB⟩ hK
    have hs : firstI c a f = y := hH.out q y (by rw [← h1.out, ← hL.out]; exact hpre) h2.out h3.out
    gi_wp2
    refine ⟨by simp, .inl ⟨_, _, rfl, run_takeDeferred hK, ?_⟩⟩
    have hc5 := cell_kept hcr (grownBy_putObj' _ D (.deferred none)) (fun r e => by cases e; exact ⟨_, hK, rfl⟩)
    refine ⟨.int .i64 y, ?_, by rw [hs], hB.trans (belowK_b (w := w) (Nat.le_refl _) W D _ _ (by omega) hK rfl rfl)⟩
    simp [results, Tryd.f30, go_sem, hc5]

theorem take_prefix (L : List Int) (k : Nat) (h : k < L.length) : (L.take k ++ [L.getD k 0]) <+: L := by
  have : L.take k ++ [L.getD k 0] = L.take (k + 1) := by
    rw [List.take_add_one, List.getElem?_eq_getElem h, List.getD_eq_getElem?_getD, List.getElem?_eq_getElem h]; rfl
  rw [this]
  exact List.take_prefix _ _

set_option maxHeartbeats 1000000 in
theorem rfirst_any (c a f : Int) (w : World) (ha : U64 a) :
    Calls Tryd.prog 31 #[.int .i64 c, .int .u64 a, .int .i64 f] w fun e w' => e = .returned (.int .i64 (firstI c a f)) ∧ Below w.heap.size w w' := by
  have P := Lib.hid (fun W => rfree_any c a W ha)
  have hM := Lib.hid (first_miss c a f)
  have hH := Lib.hid (first_hit c a f)
  have hTP := Lib.hid (take_prefix (freeL c a))
  generalize firstI c a f = R at *
  generalize freeL c a = L at *
  go_enter Tryd.func31, Tryd.ntmps31
  go_wp2_with fail
  refine (P.out _).mono ?_
  rintro e w1 ⟨v, rfl, hl, h32, hb⟩
  rcases hl with ⟨rfl, a1, c1, rfl⟩ | ⟨b, o, c1, rfl, hp, hm, hcell⟩
  · have hr := Lib.hid (hM.out (by simp))
    go_wp2
    go_loopw [8] (fun i wr => i = .int .i64 0 ∧ wr = w1) (fun _ _ => 0)
    case atStart => exact ⟨rfl, rfl⟩
    case round =>
      obtain ⟨rfl, rfl⟩ := hrel
      go_wp2
      go_ret
      exact ⟨ret_int hr.out.symm, hb⟩
  · have HC := Lib.hid hcell
    clear hcell
    generalize hN : L.length = N at *
    have HN := Lib.hid hN
    clear hN
    go_wp2
    go_loopw [8] (fun i wr => ∃ (k : Nat), k ≤ N ∧ i = .int .i64 k ∧ Hid (∀ z ∈ L.take k, z < f) ∧ wr = w1) (fun i _ => N - (intOf i).toNat)
    case atStart => exact ⟨0, by omega, rfl, by unfold Hid; simp, rfl⟩
    case round =>
      obtain ⟨k, hk, rfl, hno, rfl⟩ := hrel
      by_cases hkN : k < N
      · have hcell := HC.out k hkN
        have htp := hTP.out k hkN
        by_cases hf : f ≤ L.getD k 0
        · have hR := Lib.hid (hH.out _ _ htp hno.out hf)
          clear htp
          generalize L.getD k 0 = E at *
          go_wp2
          go_ret
          exact ⟨ret_int hR.out.symm, hb⟩
        · have hno2 : Hid (∀ z ∈ L.take (k + 1), z < f) := by
            unfold Hid
            intro z hz
            rw [List.take_add_one, List.getElem?_eq_getElem (by rw [HN.out]; exact hkN)] at hz
            rcases List.mem_append.1 hz with h | h
            · exact hno.out z h
            · have : z = L.getD k 0 := by rw [List.getD_eq_getElem?_getD, List.getElem?_eq_getElem (by rw [HN.out]; exact hkN)]; simpa using h
              omega
          clear htp
          generalize L.getD k 0 = E at *
          go_wp2
          go_roundw
          case rel => exact ⟨k + 1, by omega, by go_num, hno2, by first | rfl | trivial⟩
          case measure => simp [intOf]; omega
      · obtain rfl : k = N := by omega
        have hr := Lib.hid (hM.out (by have := hno.out; rw [← HN.out, List.take_length] at this; exact this))
        go_wp2
        go_ret
        exact ⟨ret_int hr.out.symm, hb⟩

theorem keepCell {w3 W W' : World} {p : Addr} {x : Value} (h : W.cell? p = some x ∧ Below w3.heap.size w3 W) (hb : Below W.heap.size W W') : W'.cell? p = some x ∧ Below w3.heap.size w3 W' :=
  ⟨(hb.cell (World.block_lt_of_cell? W _ h.1)).trans h.1, h.2.trans (hb.mono h.2.size)⟩
set_option maxHeartbeats 1000000 in
theorem rvalid_some (j : Nat) (hj : j < 8) (a : Int) (w : World) (ha : U64 a) (h0 : a ≠ 0) :
    Calls Tryd.prog 33 #[.int .i64 (j : Int), .int .u64 a] w fun e w' => e = .returned (.bool (validB (j : Int) a)) ∧ Below w.heap.size w w' := by
  obtain ⟨hc, h2, h3, h4, h5⟩ := cls_nat j hj
  have P := Lib.hid (fun W => rwords_any (j : Int) W)
  rw [h5] at P
  have hp := (plcs_low a.toNat (by have := ha.2; omega) (by have := ha.1; omega)).1
  have hle := plcs_len_le a.toNat 64
  have Q := Lib.hid (fun W => places_some a W _ ha rfl hp)
  have CL := Lib.hid (fun p W => rcell_any (j : Int) p W)
  have hv : Hid (validB (j : Int) a = (plcs a.toNat 64).all fun p => decide (cellI (j : Int) p = p)) := by unfold Hid validB; rw [hc, Bool.true_and]
  have hmt : Tryd.prog.follows .mixedOrders = true := by kernel_rfl
  clear h2 h3 h4 h5 hc
  generalize validB (j : Int) a = V at *
  generalize widI (j : Int) = q at *
  generalize plcs a.toNat 64 = L at *
  generalize hN : L.length = N at *
  have HN := Lib.hid hN
  clear hN
  go_enter Tryd.func33, Tryd.ntmps33
  go_wp2_with fail
  refine (P.out _).mono ?_
  rintro e w2 ⟨rfl, hb2⟩
  go_wp2_with fail
  refine (Q.out _).mono ?_
  rintro e w3 ⟨b, o, k3, rfl, hcell, hb3⟩
  have hb := hb2.trans (hb3.mono hb2.size)
  have HC := Lib.hid hcell
  have hblt := World.block_lt_of_cell? w3 _ (hcell 0 hp)
  clear hcell hb2 hb3
  have hs3 := hb.size
  go_wp2
  go_loopw [8] (fun i wr => ∃ (k : Nat), k ≤ N ∧ i = .int .i64 k ∧ Hid (∀ z ∈ L.take k, cellI (j : Int) z = z) ∧ Below w3.heap.size w3 wr) (fun i _ => N - (intOf i).toNat)
  case atStart => exact ⟨0, by omega, rfl, by unfold Hid; simp, Below.refl _ _⟩
  case round =>
    obtain ⟨k, hk, rfl, hok, hbr⟩ := hrel
    have hszr := hbr.size
    by_cases hkN : k < N
    · have hcell := (hbr.cell (p := ⟨b, o + k, none⟩) hblt).trans (HC.out k hkN)
      have hget : Hid (L[k]? = some (L.getD k 0)) := by unfold Hid; rw [List.getD_eq_getElem?_getD, List.getElem?_eq_getElem (by rw [HN.out]; exact hkN)]; rfl
      have C1 := Lib.hid (fun W => CL.out (L.getD k 0) W)
      by_cases hE : cellI (j : Int) (L.getD k 0) = L.getD k 0
      · have hok2 : Hid (∀ z ∈ L.take (k + 1), cellI (j : Int) z = z) := by
          unfold Hid
          intro z hz
          rw [List.take_add_one, hget.out] at hz
          rcases List.mem_append.1 hz with h | h
          · exact hok.out z h
          · have : z = L.getD k 0 := by simpa using h
            rw [this]; exact hE
        rw [hE] at C1
        clear hE
        generalize L.getD k 0 = E at *
        go_wp2_with fail
        go_region_held3 (fun w' => w'.cell? ⟨b, o + k, none⟩ = some (.int .i64 E) ∧ Below w3.heap.size w3 w')
          (first | exact ⟨hcell, hbr⟩ | exact ⟨hcell, hbr.drew⟩ | exact keepCell (by assumption) hb4)
          (first | (go_at_call 27; refine (C1.out _).mono ?_; rintro e w4 ⟨rfl, hb4⟩))
        obtain ⟨_, hb5⟩ := (by assumption : w4.cell? ⟨b, o + k, none⟩ = some (.int .i64 E) ∧ Below w3.heap.size w3 w4)
        go_wp2
        go_roundw
        case rel => exact ⟨k + 1, by omega, by go_num, hok2, hb5⟩
        case measure => simp [intOf]; omega
      · have hr : V = false := by
          rw [hv.out, ← Bool.not_eq_true, List.all_eq_true]
          intro h
          have := h (L.getD k 0) (List.mem_of_getElem? hget.out)
          exact hE (by simpa using this)
        subst hr
        have hE2 := Lib.hid hE
        generalize hQ : cellI (j : Int) (L.getD k 0) = Q at *
        clear hE hQ hget
        generalize L.getD k 0 = E at *
        have hne : (Q != E) = true := by have := hE2.out; simp [this]
        clear hE2
        go_wp2_with fail
        go_region_held3 (fun w' => w'.cell? ⟨b, o + k, none⟩ = some (.int .i64 E) ∧ Below w3.heap.size w3 w')
          (first | exact ⟨hcell, hbr⟩ | exact ⟨hcell, hbr.drew⟩ | exact keepCell (by assumption) hb4)
          (first | (go_at_call 27; refine (C1.out _).mono ?_; rintro e w4 ⟨rfl, hb4⟩))
        obtain ⟨_, hb5⟩ := (by assumption : w4.cell? ⟨b, o + k, none⟩ = some (.int .i64 E) ∧ Below w3.heap.size w3 w4)
        go_wp2
        go_ret
        exact ⟨rfl, hb.trans (hb5.mono hs3)⟩
    · obtain rfl : k = N := by omega
      have hr : V = true := by
        rw [hv.out, List.all_eq_true]
        intro z hz
        have := hok.out z (by rw [← HN.out, List.take_length]; exact hz)
        simpa using this
      subst hr
      go_wp2
      go_ret
      exact ⟨rfl, hb.trans (hbr.mono hs3)⟩

set_option maxHeartbeats 400000 in
theorem rvalid_zero (j : Nat) (hj : j < 8) (w : World) :
    Calls Tryd.prog 33 #[.int .i64 (j : Int), .int .u64 0] w fun e w' => e = .returned (.bool (validB (j : Int) 0)) ∧ Below w.heap.size w w' := by
  obtain ⟨hc, h2, h3, h4, h5⟩ := cls_nat j hj
  have hv : validB (j : Int) 0 = true := by unfold validB; rw [hc, show (0 : Int).toNat = 0 from rfl, plcs_nil]; rfl
  have P := Lib.hid (fun W => rwords_any (j : Int) W)
  rw [h5] at P
  rw [hv]
  clear h2 h3 h4 h5 hc hv
  generalize widI (j : Int) = q at *
  go_enter Tryd.func33, Tryd.ntmps33
  go_wp2_with fail
  refine (P.out _).mono ?_
  rintro e w2 ⟨rfl, hb2⟩
  go_wp2_with fail
  refine (places_none _).mono ?_
  rintro e w3 ⟨a1, c1, rfl, hb3⟩
  have hb := hb2.trans (hb3.mono hb2.size)
  go_wp2
  go_loopw [8] (fun i wr => i = .int .i64 0 ∧ wr = w3) (fun _ _ => 0)
  case atStart => exact ⟨rfl, rfl⟩
  case round =>
    obtain ⟨rfl, rfl⟩ := hrel
    go_wp2
    go_ret
    exact ⟨rfl, hb⟩
set_option maxHeartbeats 400000 in
theorem rvalid_no (c a : Int) (w : World) (hc : clsB c = false) :
    Calls Tryd.prog 33 #[.int .i64 c, .int .u64 a] w fun e w' => e = .returned (.bool (validB c a)) ∧ Below w.heap.size w w' := by
  obtain ⟨h1, h2, h3, h4, h5⟩ := cls_none c hc
  have hv : validB c a = false := by unfold validB; rw [hc]; rfl
  have P := Lib.hid (fun W => rwords_any c W)
  rw [h1, h4] at P
  rw [hv]
  clear h1 h2 h3 h4 h5 hc hv
  go_enter Tryd.func33, Tryd.ntmps33
  go_wp2_with fail
  refine (P.out _).mono ?_
  rintro e w2 ⟨rfl, hb2⟩
  go_wp2
  go_ret
  exact ⟨rfl, hb2⟩
theorem rvalid_any (c a : Int) (w : World) (ha : U64 a) :
    Calls Tryd.prog 33 #[.int .i64 c, .int .u64 a] w fun e w' => e = .returned (.bool (validB c a)) ∧ Below w.heap.size w w' := by
  cases hc : clsB c with
  | false => exact rvalid_no c a w hc
  | true =>
    obtain ⟨j, rfl, hj⟩ := clsB_yes hc
    by_cases h0 : a = 0
    · subst h0; exact rvalid_zero j hj w
    · exact rvalid_some j hj a w ha h0

/-- how many words are taken for an object -/
def rdV (n : Int) : Int := if n < 1 then 0 else if 256 < n then 0 else if n ≤ 32 then widI (clV n) else (n + 63) / 64 * 64
/-- how many objects a heap of pages holds -/
def flV (n p : Int) : Int := if n < 1 then 0 else if 256 < n then 0 else if p < 0 ∨ 32 < p then 0 else if n ≤ 32 then p * ((numN (clV n) : Nat) : Int) else p / ((n + 63) / 64)
def flE (n p : Int) : Int := if n < 1 then 1 else if 256 < n then 3 else if p < 0 ∨ 32 < p then 1 else 0
theorem cl_in (n : Int) (h1 : 1 ≤ n) (h2 : n ≤ 32) : clE n = 0 ∧ clsB (clV n) = true ∧ errI (clV n) = 0 := by
  have hc : clsB (clV n) = true := by
    unfold clsB clV
    simp only [decide_eq_true_eq]
    constructor <;> (repeat' split) <;> omega
  refine ⟨?_, hc, ?_⟩
  · unfold clE; rw [if_neg (by omega), if_pos h2]
  · unfold errI; rw [hc]; rfl
theorem num_bd (c : Int) : 0 ≤ ((numN c : Nat) : Int) ∧ ((numN c : Nat) : Int) ≤ 32 := by
  unfold numN
  split
  · rename_i h
    obtain ⟨j, rfl, hj⟩ := clsB_yes h
    have := num_le j hj
    rw [Int.toNat_natCast]
    omega
  · omega

set_option maxHeartbeats 1000000 in
theorem rounds_any (n : Int) (w : World) (hW : Wid w) :
    Calls Tryd.prog 22 #[.int .i64 n] w fun e w' => e = .returned (.tuple #[.int .i64 (rdV n), .int .i64 (pgE n)]) ∧ w' = w := by
  have P := Lib.hid (fun W => pages_any n W)
  by_cases h1 : n < 1
  · obtain ⟨e1, e2⟩ := pg_low n h1
    have e3 : rdV n = 0 := by unfold rdV; rw [if_pos h1]
    rw [e1, e2] at P
    rw [e2, e3]; clear e1 e2 e3
    go_enter Tryd.func22, Tryd.ntmps22
    go_wp2_with fail
    refine (P.out _).mono ?_
    rintro e w2 ⟨rfl, rfl⟩
    go_wp2; go_ret2; exact ⟨rfl, rfl⟩
  · by_cases h2 : 256 < n
    · obtain ⟨e1, e2⟩ := pg_big n h2
      have e3 : rdV n = 0 := by unfold rdV; rw [if_neg h1, if_pos h2]
      rw [e1, e2] at P
      rw [e2, e3]; clear e1 e2 e3
      go_enter Tryd.func22, Tryd.ntmps22
      go_wp2_with fail
      refine (P.out _).mono ?_
      rintro e w2 ⟨rfl, rfl⟩
      go_wp2; go_ret2; exact ⟨rfl, rfl⟩
    · by_cases h3 : n ≤ 32
      · obtain ⟨e1, e2⟩ := pg_small n (by omega) h3
        have e3 : rdV n = widI (clV n) := by unfold rdV; rw [if_neg h1, if_neg h2, if_pos h3]
        obtain ⟨e4, e5, e6⟩ := cl_in n (by omega) h3
        have C := Lib.hid (fun W (h : Wid W) => class_any n W h)
        have V := Lib.hid (fun W (h : Wid W) => words_any (clV n) W h)
        rw [e1, e2] at P
        rw [e4] at C
        rw [e6] at V
        rw [e2, e3]; clear e1 e2 e3 e4 e5 e6
        generalize widI (clV n) = q at *
        generalize clV n = c at *
        go_enter Tryd.func22, Tryd.ntmps22
        go_wp2_with fail
        refine (P.out _).mono ?_
        rintro e w2 ⟨rfl, hw2⟩
        obtain rfl := hw2.symm
        go_wp2_with fail
        refine (C.out _ hW).mono ?_
        rintro e w3 ⟨rfl, hw3⟩
        obtain rfl := hw3.symm
        go_wp2_with fail
        refine (V.out _ hW).mono ?_
        rintro e w4 ⟨rfl, rfl⟩
        go_wp2; go_ret2; exact ⟨rfl, rfl⟩
      · obtain ⟨e1, e2⟩ := pg_mid n (by omega) (by omega)
        have e3 : rdV n = (n + 63) / 64 * 64 := by unfold rdV; rw [if_neg h1, if_neg h2, if_neg h3]
        rw [e1, e2] at P
        rw [e2, e3]; clear e1 e2 e3
        have q1 : 1 ≤ (n + 63) / 64 := by omega
        have q2 : (n + 63) / 64 ≤ 4 := by omega
        generalize (n + 63) / 64 = q at *
        go_enter Tryd.func22, Tryd.ntmps22
        go_wp2_with fail
        refine (P.out _).mono ?_
        rintro e w2 ⟨rfl, rfl⟩
        go_wp2; go_ret2; exact ⟨ret_two (by first | rfl | go_num) rfl, rfl⟩
set_option maxHeartbeats 1000000 in
theorem rrounds_any (n : Int) (w : World) :
    Calls Tryd.prog 23 #[.int .i64 n] w fun e w' => e = .returned (.tuple #[.int .i64 (rdV n), .int .i64 (pgE n)]) ∧ Below w.heap.size w w' := by
  have P := Lib.hid (fun W => rpages_any n W)
  by_cases h1 : n < 1
  · obtain ⟨e1, e2⟩ := pg_low n h1
    have e3 : rdV n = 0 := by unfold rdV; rw [if_pos h1]
    rw [e1, e2] at P
    rw [e2, e3]; clear e1 e2 e3
    go_enter Tryd.func23, Tryd.ntmps23
    go_wp2_with fail
    refine (P.out _).mono ?_
    rintro e w2 ⟨rfl, rfl⟩
    go_wp2; go_ret2; exact ⟨rfl, Below.refl _ _⟩
  · by_cases h2 : 256 < n
    · obtain ⟨e1, e2⟩ := pg_big n h2
      have e3 : rdV n = 0 := by unfold rdV; rw [if_neg h1, if_pos h2]
      rw [e1, e2] at P
      rw [e2, e3]; clear e1 e2 e3
      go_enter Tryd.func23, Tryd.ntmps23
      go_wp2_with fail
      refine (P.out _).mono ?_
      rintro e w2 ⟨rfl, rfl⟩
      go_wp2; go_ret2; exact ⟨rfl, Below.refl _ _⟩
    · by_cases h3 : n ≤ 32
      · obtain ⟨e1, e2⟩ := pg_small n (by omega) h3
        have e3 : rdV n = widI (clV n) := by unfold rdV; rw [if_neg h1, if_neg h2, if_pos h3]
        obtain ⟨e4, e5, e6⟩ := cl_in n (by omega) h3
        have C := Lib.hid (fun W => rclass_any n W)
        have V := Lib.hid (fun W => rwords_any (clV n) W)
        rw [e1, e2] at P
        rw [e4] at C
        rw [e6] at V
        rw [e2, e3]; clear e1 e2 e3 e4 e5 e6
        generalize widI (clV n) = q at *
        generalize clV n = c at *
        go_enter Tryd.func23, Tryd.ntmps23
        go_wp2_with fail
        refine (P.out _).mono ?_
        rintro e w2 ⟨rfl, hw2⟩
        obtain rfl := hw2.symm
        go_wp2_with fail
        refine (C.out _).mono ?_
        rintro e w3 ⟨rfl, hb3⟩
        go_wp2_with fail
        refine (V.out _).mono ?_
        rintro e w4 ⟨rfl, hb4⟩
        go_wp2; go_ret2; exact ⟨rfl, hb3.trans (hb4.mono hb3.size)⟩
      · obtain ⟨e1, e2⟩ := pg_mid n (by omega) (by omega)
        have e3 : rdV n = (n + 63) / 64 * 64 := by unfold rdV; rw [if_neg h1, if_neg h2, if_neg h3]
        rw [e1, e2] at P
        rw [e2, e3]; clear e1 e2 e3
        have q1 : 1 ≤ (n + 63) / 64 := by omega
        have q2 : (n + 63) / 64 ≤ 4 := by omega
        generalize (n + 63) / 64 = q at *
        go_enter Tryd.func23, Tryd.ntmps23
        go_wp2_with fail
        refine (P.out _).mono ?_
        rintro e w2 ⟨rfl, rfl⟩
        go_wp2; go_ret2; exact ⟨ret_two (by first | rfl | go_num) rfl, Below.refl _ _⟩
end Go.Proofs.YtedehigncipopaaDoor
