/- Texts of this seat, one behind the other: each says at its head what it holds. No condition of its own. -/
import Derived.RangeFuncFrom
import Derived.Deep.Slices
import Derived.Deep.Fields
import Derived.ChangeSame
import Derived.Deep.Strs
import Derived.Test.YtohmnjejchppkaaDoorGObjectsBack01
import Derived.Test.YtohmnjejchppkaaDoorGObjectsBack11
import Derived.Test.YtohmnjejchppkaaDoorGObjectsBack13
import Derived.Test.YtohmnjejchppkaaDoorGObjectsBack16
/- Package sizes: the iterator of a page's cells; what Starts, Cells and Cell return. No condition but that the tables lie as the start lays them. -/
namespace Go.Proofs.YtohmnjejchppkaaDoor
open Go.RowKit Go.Shelf
set_option linter.unusedVariables false
attribute [local go_sem] Oper.semAt_some

theorem Quiet.frozen {w w' : World} (h : Quiet w w') (a : Addr) : w'.frozen? a = w.frozen? a := by
  obtain ⟨n, rfl⟩ := h
  rfl
theorem Quiet.others {w w' : World} (h : Quiet w w') : KeepsOthers w w' := by
  obtain ⟨n, rfl⟩ := h
  exact ⟨Nat.le_refl _, fun _ _ h _ => h⟩

/-- how many cells a page has -/
def numF (j : Nat) : Nat := ([32, 21, 16, 10, 8, 5, 4, 2] : List Nat).getD j 0
def numN (c : Int) : Nat := if clsB c then numF c.toNat else 0
theorem num_fit : ∀ j : Fin 8, ∀ k : Fin 32, k.val < numF j.val → ((k.val : Nat) : Int) * widF j.val + widF j.val ≤ 64 := by decide +kernel
theorem num_end : ∀ j : Fin 8, 64 < ((numF j.val : Nat) : Int) * widF j.val + widF j.val ∧ numF j.val ≤ 32 := by decide +kernel
theorem num_le (j : Nat) (h : j < 8) : numF j ≤ 32 := (num_end ⟨j, h⟩).2
theorem num_over (j : Nat) (h : j < 8) : 64 < ((numF j : Nat) : Int) * widF j + widF j := (num_end ⟨j, h⟩).1
theorem num_in (j : Nat) (h : j < 8) (k : Nat) (hk : k < numF j) : ((k : Nat) : Int) * widF j + widF j ≤ 64 := num_fit ⟨j, h⟩ ⟨k, Nat.lt_of_lt_of_le hk (num_le j h)⟩ hk
/-- the words at which the cells begin -/
def cellL (c : Int) : List Int := (List.range (numN c)).map fun i => ((i : Nat) : Int) * widI c
abbrev cellEnc (c : Int) (i : Nat) : Array Value := #[.int .i64 (((i : Nat) : Int) * widI c), .int .i64 (((i : Nat) : Int) * widI c + widI c)]

set_option maxRecDepth 100000 in
set_option maxHeartbeats 400000 in
theorem cells_any (c : Int) (w : World) :
    Calls Tryd.prog 85 #[.int .i64 c] w fun e w' => e = .returned (.func (.func 95) #[] #[.pointer (some ⟨w.heap.size, 0, none⟩)]) ∧ w' = w.alloc (.cells #[.int .i64 c] 3) := by
  go_enter Tryd.func85, Tryd.ntmps85
  go_wp2
  go_ret
  exact ⟨rfl, rfl⟩

set_option maxRecDepth 100000 in
set_option maxHeartbeats 2000000 in
theorem cells_stops (n : Nat) (hn : 1 ≤ n) (B n₀ : Nat) (c : Int) (w : World) (hW : Wid w) (hlt : B < w.heap.size) (hB : w.cell? ⟨B, 0, none⟩ = some (.int .i64 c)) :
    SeqStopsK Fence.wide n Tryd.prog 95 #[.pointer (some ⟨B, 0, none⟩)] (cellEnc c) (Below n₀) (fun xs => xs = List.range (numN c)) (fun pre => pre <+: List.range (numN c)) (numN c) w :=
  fun l J Jx W hWW _ _ hY h0 => by
  have hW1 : Wid W := hW.grew hWW
  have hB1 := (hWW.cell (p := ⟨B, 0, none⟩) hlt).trans hB
  have P := Lib.hid (fun W' (h : Wid W') => words_anySz c W' h)
  cases hc : clsB c with
  | false =>
    have e1 : numN c = 0 := by unfold numN; rw [hc]; rfl
    have e2 : errI c = 1 := by unfold errI; rw [hc]; rfl
    have e3 : widI c = 0 := by unfold widI; rw [hc]; rfl
    rw [e2, e3] at P
    rw [e1]
    clear e1 e2 e3 hc
    refine callsIn_of_wp Tryd.func95 rfl trivial ?_ rfl
    simp only [Tryd.ntmps95, List.size_toArray, List.length_cons, List.length_nil, Nat.reduceAdd, Nat.reduceSub, Array.replicate_succ, Array.replicate_zero, List.push_toArray, List.append_toArray, List.nil_append, List.cons_append]
    gi_wp2_with fail
    refine ⟨trivial, ?_⟩
    refine (callsIn_wide.2 (P.out _ hW1)).mono ?_
    rintro e w' ⟨rfl, rfl⟩
    gi_wp2
    refine bodyPost_ret (results_none rfl _ _ _) rfl ?_
    exact ⟨⟨_, rfl⟩, .inl ⟨[], rfl, h0⟩⟩
  | true =>
    obtain ⟨j, hj, hj8⟩ := clsB_yes hc
    have e2 : errI c = 0 := by unfold errI; rw [hc]; rfl
    have e3 : widI c = widF j := by unfold widI; rw [hc, hj]; rfl
    have e4 : numN c = numF j := by unfold numN; rw [hc, hj]; rfl
    have hfit : Hid (∀ k, k < numF j → ((k : Nat) : Int) * widF j + widF j ≤ 64) := num_in j hj8
    have hend := num_over j hj8
    have hle := num_le j hj8
    have hb := widF_bd j hj8
    rw [e2] at P
    rw [e3] at P
    unfold cellEnc at hY
    rw [e3, e4] at hY
    rw [e4]
    clear e2 e3 e4 hc hj
    have HE := Lib.hid hend
    clear hend
    generalize widF j = v at *
    generalize numF j = N at *
    refine callsIn_of_wp Tryd.func95 rfl trivial ?_ rfl
    simp only [Tryd.ntmps95, List.size_toArray, List.length_cons, List.length_nil, Nat.reduceAdd, Nat.reduceSub, Array.replicate_succ, Array.replicate_zero, List.push_toArray, List.append_toArray, List.nil_append, List.cons_append]
    gi_wp2_with fail
    refine ⟨trivial, ?_⟩
    refine (callsIn_wide.2 (P.out _ hW1)).mono ?_
    rintro e w' ⟨rfl, rfl⟩
    gi_wp2
    gi_loopw [5] (fun p wr => ∃ (k : Nat) (E : Int), k ≤ N ∧ p = .int .i64 E ∧ Hid (E = ((k : Nat) : Int) * v) ∧ 0 ≤ E ∧ E ≤ 64 ∧ J (List.range k) wr) (fun p _ => 64 - (intOf p).toNat)
    case atStart => exact ⟨0, 0, by omega, rfl, by unfold Hid; simp, by omega, by omega, h0⟩
    case round =>
      obtain ⟨k, E, hk, rfl, hE, hE0, hE1, hJ⟩ := hrel
      by_cases hkN : k < N
      · have hf := hfit.out k hkN
        rw [← hE.out] at hf
        obtain ⟨fn, tmps, assign, body, hy, hRd⟩ := hY (List.range k) k wr hJ (by simpa using hkN)
        rw [← hE.out] at hy
        have HS : Hid (E + v = (((k + 1 : Nat) : Nat) : Int) * v) := by unfold Hid; rw [hE.out]; push_cast; rw [Int.add_mul, Int.one_mul]
        have HR := Lib.hid (List.range_succ (n := k))
        have hf2 : ¬ 64 < E + v := by omega
        rw [← HR.out] at hRd
        gi_wp2
        refine hRd.mono ?_
        rintro e W3 (⟨rfl, hJ3, hk3⟩ | ⟨rfl, hJx3⟩)
        · gi_wp2
          go_roundw
          case rel => exact ⟨k + 1, E + v, by omega, rfl, HS, by omega, by omega, hJ3⟩
          case measure => simp only [intOf]; omega
        · gi_wp2
          refine bodyPost_ret (results_none rfl _ _ _) rfl ?_
          exact ⟨⟨_, rfl⟩, .inr ⟨List.range (k + 1), range_prefix _ _ (by omega), hJx3⟩⟩
      · obtain rfl : k = N := by omega
        have hend := HE.out
        rw [← hE.out] at hend
        gi_wp2
        go_end0
        exact ⟨⟨_, rfl⟩, .inl ⟨_, rfl, hJ⟩⟩

/-- the words at which cells begin, as bits -/
def stOr (v : Int) (l : List Nat) : Int := l.foldl (fun s i => bits .or .u64 s (IntKind.u64.wrap (2 ^ min (((i : Nat) : Int) * v).toNat 64))) 0
theorem stOr_snoc (v : Int) (l : List Nat) (i : Nat) : stOr v (l ++ [i]) = bits .or .u64 (stOr v l) (IntKind.u64.wrap (2 ^ min (((i : Nat) : Int) * v).toNat 64)) := by simp [stOr]
def startsI (c : Int) : Int := if clsB c then stOr (widF c.toNat) (List.range (numF c.toNat)) else 0

/-- the cell in which a word lies; -1: in none -/
def inBCells (c at_ : Int) (i : Nat) : Bool := decide (((i : Nat) : Int) * widI c ≤ at_ ∧ at_ < ((i : Nat) : Int) * widI c + widI c)
def cellI (c at_ : Int) : Int := match (List.range (numN c)).find? (inBCells c at_) with
  | some i => ((i : Nat) : Int) * widI c
  | none => -1
theorem cell_hit (c at_ : Int) (q : List Nat) (i : Nat) (h : (q ++ [i]) <+: List.range (numN c)) (hq : ∀ y ∈ q, inBCells c at_ y = false) (hi : inBCells c at_ i = true) : cellI c at_ = ((i : Nat) : Int) * widI c := by
  obtain ⟨r, hr⟩ := h
  unfold cellI
  rw [← hr, List.append_assoc, List.find?_append, List.find?_eq_none.2 (fun y hy => by simp [hq y hy])]
  simp [hi]
theorem cell_miss (c at_ : Int) (h : ∀ y ∈ List.range (numN c), inBCells c at_ y = false) : cellI c at_ = -1 := by
  unfold cellI
  rw [List.find?_eq_none.2 (fun y hy => by simp [h y hy])]

set_option maxRecDepth 100000 in
set_option maxHeartbeats 2000000 in
theorem cell_any (c at_ : Int) (w : World) (hW : Wid w) :
    Calls Tryd.prog 72 #[.int .i64 c, .int .i64 at_] w fun e w' => e = .returned (.int .i64 (cellI c at_)) ∧ Below w.heap.size w w' := by
  have hM := Lib.hid (cell_miss c at_)
  have hH := Lib.hid (cell_hit c at_)
  refine (callsIn_wide (n := 9)).1 ?_
  refine callsIn_of_wp_marks Tryd.func72 rfl trivial ?_ rfl
  simp only [Tryd.ntmps72, List.size_toArray, List.length_cons, List.length_nil, Nat.reduceAdd, Nat.reduceSub, Array.replicate_succ, Array.replicate_zero, List.push_toArray, List.append_toArray, List.nil_append, List.cons_append]
  gi_wp2_with fail
  refine ⟨trivial, ?_⟩
  refine (callsIn_wide.2 (cells_any c _)).mono ?_
  rintro e w2 ⟨rfl, rfl⟩
  gi_wp2_with fail
  have b0 : Blk (((w.alloc (.cells #[.int .i64 at_] 3)).alloc (.cells #[.int .i64 0] 3)).alloc (.cells #[.int .i64 c] 3)) w.heap.size #[.int .i64 at_] 3 := ((Blk.new _ _ _).alloc _).alloc _
  have b1 : Blk (((w.alloc (.cells #[.int .i64 at_] 3)).alloc (.cells #[.int .i64 0] 3)).alloc (.cells #[.int .i64 c] 3)) (w.heap.size + 1) #[.int .i64 0] 3 := (Blk.new' (by simp)).alloc _
  have b2 : Blk (((w.alloc (.cells #[.int .i64 at_] 3)).alloc (.cells #[.int .i64 0] 3)).alloc (.cells #[.int .i64 c] 3)) (w.heap.size + 1 + 1) #[.int .i64 c] 3 := Blk.new' (by simp)
  have hB0 : Below w.heap.size w (((w.alloc (.cells #[.int .i64 at_] 3)).alloc (.cells #[.int .i64 0] 3)).alloc (.cells #[.int .i64 c] 3)) := (((Below.refl _ w).alloc (Nat.le_refl _) _).alloc (by simp) _).alloc (by simp; omega) _
  have hsz : (((w.alloc (.cells #[.int .i64 at_] 3)).alloc (.cells #[.int .i64 0] 3)).alloc (.cells #[.int .i64 c] 3)).heap.size = w.heap.size + 3 := by simp
  generalize (((w.alloc (.cells #[.int .i64 at_] 3)).alloc (.cells #[.int .i64 0] 3)).alloc (.cells #[.int .i64 c] 3)) = W0 at *
  have c0 := b0.val 0 rfl
  have c1 := b1.val 0 rfl
  have f1 := b1.frozen 0
  have c2 := b2.val 0 rfl
  have hW0 := hW.grew hB0
  refine wpIn_rangeFunc_ownF rfl (by omega) (gf := 95) (lb := #[.pointer (some ⟨w.heap.size + 1 + 1, 0, none⟩)]) rfl trivial (enters_of Tryd.func95 (by kernel_rfl) rfl)
    (cells_stops 8 (by omega) (w.heap.size + 1 + 1) w.heap.size c W0 hW0 (by omega) c2) belowK_t (belowK_b (by omega)) (Below.refl _ _) (fun _ => rfl)
    (fun pre W => (Hid (∀ y ∈ pre, inBCells c at_ y = false) ∧ W.cell? ⟨w.heap.size, 0, none⟩ = some (.int .i64 at_) ∧ W.cell? ⟨w.heap.size + 1, 0, none⟩ = some (.int .i64 0) ∧ W.frozen? ⟨w.heap.size + 1, 0, none⟩ = false) ∧ Below w.heap.size w W)
    (fun cc pre W => (cc = .ret ∧ (∃ q i, Hid (pre = q ++ [i]) ∧ Hid (∀ y ∈ q, inBCells c at_ y = false) ∧ Hid (inBCells c at_ i = true) ∧ W.cell? ⟨w.heap.size + 1, 0, none⟩ = some (.int .i64 (((i : Nat) : Int) * widI c)))) ∧ Below w.heap.size w W)
    (OwnFrom.and (Own.from (fun s A B row hs hg hr => ⟨hs.1, cell_kept hs.2.1 hg hr, cell_kept hs.2.2.1 hg hr, (frozen_kept hs.2.2.1 hg hr).trans hs.2.2.2⟩) _) (ownFrom_below (Nat.le_refl _) (by omega)))
    (fun cc => OwnFrom.and (Own.from (fun s A B row hs hg hr => by obtain ⟨h1, q, i, h2, h3, h4, h5⟩ := hs; exact ⟨h1, q, i, h2, h3, h4, cell_kept h5 hg hr⟩) _) (ownFrom_below (Nat.le_refl _) (by omega)))
    ⟨⟨by unfold Hid; simp, c0, c1, f1⟩, hB0⟩
    (fun i => { tmps := #[.int .i64 c, .int .i64 at_, undef, .pointer (some ⟨w.heap.size, 0, none⟩), .pointer (some ⟨w.heap.size + 1, 0, none⟩), .int .i64 (((i : Nat) : Int) * widI c), .int .i64 (((i : Nat) : Int) * widI c + widI c), .int .i64 c,
      .func (.func 95) #[] #[.pointer (some ⟨w.heap.size + 1 + 1, 0, none⟩)], .int .i64 (((i : Nat) : Int) * widI c), .int .i64 (((i : Nat) : Int) * widI c + widI c), undef, undef, undef, undef, undef, undef, undef, undef, undef], defers := [] }) ?assign ?body ?done ?stop
  case assign =>
    intro l i W K hK
    gi_wp2
    exact hK
  case body =>
    rintro l pre i W ⟨⟨hp, hca, hcr, hfr⟩, hB⟩ _
    cases hin : inBCells c at_ i with
    | true =>
      obtain ⟨h1, h2⟩ : ((i : Nat) : Int) * widI c ≤ at_ ∧ at_ < ((i : Nat) : Int) * widI c + widI c := by simpa [inBCells] using hin
      have HI := Lib.hid hin
      clear hin
      generalize hE : ((i : Nat) : Int) * widI c = E at *
      have HE := Lib.hid hE
      clear hE
      gi_wp2
      exact ⟨KeepsOthers.setCell _ _ _, ⟨rfl, pre, i, rfl, hp, HI, by rw [HE.out]; exact World.cell?_setCell_same' _ _ _ (by rw [hcr]; rfl)⟩, hB.setCell (p := ⟨w.heap.size + 1, 0, none⟩) (by simp) _⟩
    | false =>
      have hno : ¬ (((i : Nat) : Int) * widI c ≤ at_ ∧ at_ < ((i : Nat) : Int) * widI c + widI c) := by simpa [inBCells] using hin
      have hp2 : Hid (∀ y ∈ pre ++ [i], inBCells c at_ y = false) := by
        unfold Hid
        intro y hy
        rcases List.mem_append.1 hy with h | h
        · exact hp.out y h
        · rw [List.mem_singleton.1 h]; exact hin
      clear hin hp
      generalize ((i : Nat) : Int) * widI c = E at *
      by_cases h1 : E ≤ at_
      · have h2 : ¬ at_ < E + widI c := fun h => hno ⟨h1, h⟩
        clear hno
        gi_wp2
        exact ⟨KeepsOthers.refl _, Below.refl _ _, ⟨hp2, hca, hcr, hfr⟩, hB⟩
      · clear hno
        gi_wp2
        exact ⟨KeepsOthers.refl _, Below.refl _ _, ⟨hp2, hca, hcr, hfr⟩, hB⟩
  case done =>
    rintro D ys W hD hys ⟨⟨hp, _, hcr, hfr⟩, hB⟩ hK
    have hs : cellI c at_ = -1 := hM.out (by rw [← hys]; exact hp.out)
    gi_wp2
    have hK' := (KeepsOthers.setCell W ⟨w.heap.size + 1, 0, none⟩ (.int .i64 (-1))).same D _ hK rfl
    refine ⟨by simp, .inl ⟨_, _, rfl, run_takeDeferred hK', ?_⟩⟩
    have hc5 := cell_kept (World.cell?_setCell_same' W ⟨w.heap.size + 1, 0, none⟩ (.int .i64 (-1)) (by rw [hcr]; rfl)) (grownBy_putObj' _ D (.deferred none)) (fun r e => by cases e; exact ⟨_, hK', rfl⟩)
    refine ⟨.int .i64 (-1), ?_, by rw [hs], (hB.setCell (p := ⟨w.heap.size + 1, 0, none⟩) (by simp) _).trans (belowK_b (w := w) (Nat.le_refl _) _ D _ _ (by omega) hK' rfl rfl)⟩
    simp [results, Tryd.f72, go_sem, hc5]
  case stop =>
    rintro D cc pre W hD hpre ⟨⟨rfl, q, i, h1, h2, h3, hcr⟩, hB⟩ hK
    have hs : cellI c at_ = ((i : Nat) : Int) * widI c := hH.out q i (by rw [← h1.out]; exact hpre) h2.out h3.out
    gi_wp2
    refine ⟨by simp, .inl ⟨_, _, rfl, run_takeDeferred hK, ?_⟩⟩
    have hc5 := cell_kept hcr (grownBy_putObj' _ D (.deferred none)) (fun r e => by cases e; exact ⟨_, hK, rfl⟩)
    refine ⟨.int .i64 (((i : Nat) : Int) * widI c), ?_, by rw [hs], hB.trans (belowK_b (w := w) (Nat.le_refl _) W D _ _ (by omega) hK rfl rfl)⟩
    simp [results, Tryd.f72, go_sem, hc5]
end Go.Proofs.YtohmnjejchppkaaDoor
/- Slices of structs of integers, as arguments: what a walk is told of one; and Words of the document at two slices. No condition. -/
namespace Go.Proofs.YtohmnjejchppkaaDoor
open Go.ChangeShapes Go.WideShapes Go.ChangeAt Go.RowKit Go.Deep
section
variable {H : Type} {enc : TypeId × Value → H} {P : Program} {w : World} {base : Nat} {spare : Nat → Bool} {held : Bool}
theorem open_slice_fields {t e : TypeId} {fs : Array Field} {fuel : Nat} {cs : List Value} {x : DataW H × List MemPlace} (ht : P.underlying t = some (.slice e)) (he : P.underlying e = some (.struct fs))
    (hone : oneCellFields P fs = true) (hC : P.cellsOf e = fs.size) (h : DataW.trod enc P w base spare held fuel t cs = some x) :
    (cs = [.slice none 0 0]) ∨
    ∃ (a : Addr) (len cap m : Nat), cs = [.slice (some a) len cap] ∧ len ≤ cap ∧ cap ≤ maxLen ∧ m = (if spare a.block then cap else len) ∧
      ∀ i, i < m → ∃ n : Nat, ∀ (j : Nat) (f : Field), fs[j]? = some f → ∃ (v : Value) (y : DataW H × List MemPlace), w.cell? (a.add (i * fs.size + j)) = some v ∧ DataW.trod enc P w base spare held n f.type [v] = some y := by
  rcases open_slice ht h with h0 | ⟨a, len, cap, m, n, D, Pl, hcs, hb, hl, hm, hmm, hx, hi⟩
  · exact .inl h0.1
  · refine .inr ⟨a, len, cap, m, hcs, hl, hm, hmm, fun i him => ?_⟩
    obtain ⟨cs', hc, ht'⟩ := hi i him
    rw [hC] at hc
    obtain ⟨ys, n', hn', hy, hlen, hyl, hf⟩ := DataW.trod_struct he ht'
    obtain ⟨_, hcl, hat⟩ := World.cells?_some hc
    refine ⟨n', fun j f hj => ?_⟩
    obtain ⟨ho, hk⟩ := hone_of hone j f hj
    have hjl : j < fs.size := (Array.getElem?_eq_some_iff.1 hj).1
    have hcell := hat j hjl
    have hv : cs'[j]? = some (cs'[j]'(by omega)) := List.getElem?_eq_getElem (by omega)
    have h1 := hf j f hj
    rw [ho, hk] at h1
    have hone' : (cs'.drop j).take 1 = [cs'[j]'(by omega)] := by
      rw [List.drop_eq_getElem_cons (by omega)]
      rfl
    rw [hone'] at h1
    have hys : ys[j]? = some (ys[j]'(by omega)) := List.getElem?_eq_getElem (by omega)
    refine ⟨_, _, ?_, h1.trans hys⟩
    rw [← Go.Deep.add_add, hcell, hv]
end
/-- A slice of structs of nf integers, field j of kind kd j: nil, or the elements' numbers F i j. -/
def RowS (nf : Nat) (kd : Nat → IntKind) (w : World) (a : Option Addr) (len _cap : Nat) (F : Nat → Nat → Int) : Prop :=
  len ≤ maxLen ∧ (len = 0 ∨ (∃ b o, a = some ⟨b, o, none⟩ ∧ b < w.heap.size ∧ ∀ i, i < len → ∀ j, j < nf → w.cell? ⟨b, o + i * nf + j, none⟩ = some (.int (kd j) (F i j)) ∧ (Lit.int (kd j) (F i j)).wf = true))
theorem choose2 {p : Nat → Nat → Int → Prop} {m nf : Nat} (h : ∀ i, i < m → ∀ j, j < nf → ∃ n : Int, p i j n) : ∃ F : Nat → Nat → Int, ∀ i, i < m → ∀ j, j < nf → p i j (F i j) := by
  refine ⟨fun i j => if h' : i < m ∧ j < nf then Classical.choose (h i h'.1 j h'.2) else 0, fun i hi j hj => ?_⟩
  simp only [dif_pos (And.intro hi hj)]
  exact Classical.choose_spec (h i hi j hj)
theorem rowS_mk {H : Type} {enc : TypeId × Value → H} {P : Program} {w : World} {base : Nat} {spare : Nat → Bool} {held : Bool} {fs : Array Field} {nf : Nat} {kd : Nat → IntKind} {x : Addr} {len cap m : Nat} (hfs : fs.size = nf)
    (hk : ∀ j, j < nf → ∃ f, fs[j]? = some f ∧ P.underlying f.type = some (.int (kd j))) (hl : len ≤ m) (hmax : len ≤ maxLen) (hn : 0 < nf)
    (hi : ∀ i, i < m → ∃ n : Nat, ∀ (j : Nat) (f : Field), fs[j]? = some f → ∃ (v : Value) (y : DataW H × List MemPlace), w.cell? (x.add (i * fs.size + j)) = some v ∧ DataW.trod enc P w base spare held n f.type [v] = some y) :
    ∃ F, RowS nf kd w (some x) len cap F := by
  subst hfs
  rcases Nat.eq_zero_or_pos len with h0 | h0
  · exact ⟨fun _ _ => 0, hmax, .inl h0⟩
  · obtain ⟨F, hF⟩ := choose2 (p := fun i j n => w.cell? (x.add (i * fs.size + j)) = some (.int (kd j) n) ∧ (Lit.int (kd j) n).wf = true) (m := len) (nf := fs.size) (fun i hil j hj => by
      obtain ⟨n, hf⟩ := hi i (Nat.lt_of_lt_of_le hil hl)
      obtain ⟨f, hfj, hu⟩ := hk j hj
      obtain ⟨v, y, hc, ht⟩ := hf j f hfj
      obtain ⟨q, rfl, hw⟩ := leaf_int hu ht
      exact ⟨q, hc, hw⟩)
    obtain ⟨b, o, s⟩ := x
    have hs : s = none := by simpa [Addr.add] using World.cell?_spot (hF 0 h0 0 hn).1
    subst hs
    have e1 : ∀ k, (⟨b, o, none⟩ : Addr).add k = ⟨b, o + k, none⟩ := fun k => by unfold Addr.add; split <;> simp_all
    refine ⟨F, hmax, .inr ⟨b, o, rfl, World.block_lt_of_cell? w _ ((e1 _) ▸ (hF 0 h0 0 hn).1), fun i hil j hj => ?_⟩⟩
    have := hF i hil j hj
    rw [e1, ← Nat.add_assoc] at this
    exact this
end Go.Proofs.YtohmnjejchppkaaDoor
/- Programs (classes and functions) as arguments: their rows opened, cell by cell. No condition. -/
namespace Go.Proofs.YtohmnjejchppkaaDoor
open Go.ChangeShapes Go.WideShapes Go.ChangeAt Go.RowKit Go.Deep
set_option linter.unusedVariables false
structure FldD where
  name : ByteArray
  ty : Int
structure ClsD where
  name : ByteArray
  fields : List FldD
structure InsD where
  op : Int
  a : Int
  b : Int
structure FunD where
  name : ByteArray
  params : List Int
  result : Int
  locals : List Int
  code : List InsD
structure PrgD where
  classes : List ClsD
  funcs : List FunD
def I64 (x : Int) : Prop := -9223372036854775808 ≤ x ∧ x < 9223372036854775808
theorem wf_I64 {x : Int} (h : (Lit.int .i64 x).wf = true) : I64 x := by
  simp [Lit.wf, IntKind.min, IntKind.max, IntKind.signed, IntKind.bits] at h
  exact ⟨by omega, by omega⟩
/-- A slice whose elements take sz cells each, in blocks below B. -/
def RdRow {α : Type} (sz : Nat) (el : World → Nat → Nat → α → Prop) (B : Nat) (w : World) (v : Value) (l : List α) : Prop :=
  ∃ a c, v = .slice a l.length c ∧ l.length ≤ maxLen ∧ ∀ i, (h : i < l.length) → ∃ b o, a = some ⟨b, o, none⟩ ∧ b < B ∧ el w b (o + i * sz) l[i]
def ElI (w : World) (b k : Nat) (x : Int) : Prop := w.cell? ⟨b, k, none⟩ = some (.int .i64 x) ∧ I64 x
def ElF (w : World) (b k : Nat) (f : FldD) : Prop := w.cell? ⟨b, k, none⟩ = some (.string f.name) ∧ w.cell? ⟨b, k + 1, none⟩ = some (.int .i64 f.ty) ∧ I64 f.ty
def ElC (B : Nat) (w : World) (b k : Nat) (c : ClsD) : Prop := w.cell? ⟨b, k, none⟩ = some (.string c.name) ∧ ∃ v, w.cell? ⟨b, k + 1, none⟩ = some v ∧ RdRow 2 ElF B w v c.fields
def ElN (w : World) (b k : Nat) (x : InsD) : Prop := w.cell? ⟨b, k, none⟩ = some (.int .i64 x.op) ∧ w.cell? ⟨b, k + 1, none⟩ = some (.int .i64 x.a) ∧ w.cell? ⟨b, k + 2, none⟩ = some (.int .i64 x.b) ∧ I64 x.op ∧ I64 x.a ∧ I64 x.b
def ElU (B : Nat) (w : World) (b k : Nat) (f : FunD) : Prop := w.cell? ⟨b, k, none⟩ = some (.string f.name) ∧ (∃ v, w.cell? ⟨b, k + 1, none⟩ = some v ∧ RdRow 1 ElI B w v f.params) ∧ (w.cell? ⟨b, k + 2, none⟩ = some (.int .i64 f.result) ∧ I64 f.result) ∧
  (∃ v, w.cell? ⟨b, k + 3, none⟩ = some v ∧ RdRow 1 ElI B w v f.locals) ∧ ∃ v, w.cell? ⟨b, k + 4, none⟩ = some v ∧ RdRow 3 ElN B w v f.code
def RdPrg (B : Nat) (w : World) (v0 v1 : Value) (p : PrgD) : Prop := RdRow 2 (ElC B) B w v0 p.classes ∧ RdRow 5 (ElU B) B w v1 p.funcs

section
variable {α : Type} {sz B : Nat} {el : World → Nat → Nat → α → Prop} {w w' : World} {v : Value} {l : List α}
theorem RdRow.keep (h : RdRow sz el B w v l) (hb : Below B w w') (hk : ∀ b k x, b < B → el w b k x → el w' b k x) : RdRow sz el B w' v l := by
  obtain ⟨a, c, h1, h2, h3⟩ := h
  exact ⟨a, c, h1, h2, fun i hi => by obtain ⟨b, o, e1, e2, e3⟩ := h3 i hi; exact ⟨b, o, e1, e2, hk _ _ _ e2 e3⟩⟩
theorem ElI.keep {b k : Nat} {x : Int} (hb : Below B w w') (h0 : b < B) (h : ElI w b k x) : ElI w' b k x := ⟨(hb.cell (p := ⟨b, k, none⟩) h0).trans h.1, h.2⟩
theorem ElF.keep {b k : Nat} {x : FldD} (hb : Below B w w') (h0 : b < B) (h : ElF w b k x) : ElF w' b k x :=
  ⟨(hb.cell (p := ⟨b, k, none⟩) h0).trans h.1, (hb.cell (p := ⟨b, k + 1, none⟩) h0).trans h.2.1, h.2.2⟩
theorem ElN.keep {b k : Nat} {x : InsD} (hb : Below B w w') (h0 : b < B) (h : ElN w b k x) : ElN w' b k x :=
  ⟨(hb.cell (p := ⟨b, k, none⟩) h0).trans h.1, (hb.cell (p := ⟨b, k + 1, none⟩) h0).trans h.2.1, (hb.cell (p := ⟨b, k + 2, none⟩) h0).trans h.2.2.1, h.2.2.2⟩
theorem ElC.keep {b k : Nat} {x : ClsD} (hb : Below B w w') (h0 : b < B) (h : ElC B w b k x) : ElC B w' b k x := by
  obtain ⟨h1, v, h2, h3⟩ := h
  exact ⟨(hb.cell (p := ⟨b, k, none⟩) h0).trans h1, v, (hb.cell (p := ⟨b, k + 1, none⟩) h0).trans h2, h3.keep hb fun _ _ _ e r => r.keep hb e⟩
theorem ElU.keep {b k : Nat} {x : FunD} (hb : Below B w w') (h0 : b < B) (h : ElU B w b k x) : ElU B w' b k x := by
  obtain ⟨h1, ⟨v2, h2, h3⟩, ⟨h4, h5⟩, ⟨v6, h6, h7⟩, v8, h8, h9⟩ := h
  exact ⟨(hb.cell (p := ⟨b, k, none⟩) h0).trans h1, ⟨v2, (hb.cell (p := ⟨b, k + 1, none⟩) h0).trans h2, h3.keep hb fun _ _ _ e r => r.keep hb e⟩, ⟨(hb.cell (p := ⟨b, k + 2, none⟩) h0).trans h4, h5⟩,
    ⟨v6, (hb.cell (p := ⟨b, k + 3, none⟩) h0).trans h6, h7.keep hb fun _ _ _ e r => r.keep hb e⟩, v8, (hb.cell (p := ⟨b, k + 4, none⟩) h0).trans h8, h9.keep hb fun _ _ _ e r => r.keep hb e⟩
theorem RdPrg.keep {v0 v1 : Value} {p : PrgD} (h : RdPrg B w v0 v1 p) (hb : Below B w w') : RdPrg B w' v0 v1 p :=
  ⟨h.1.keep hb fun _ _ _ e r => r.keep hb e, h.2.keep hb fun _ _ _ e r => r.keep hb e⟩
end

theorem RdRow.mono {α : Type} {sz B B' : Nat} {el el' : World → Nat → Nat → α → Prop} {w : World} {v : Value} {l : List α} (h : RdRow sz el B w v l) (hB : B ≤ B') (hk : ∀ b k x, el w b k x → el' w b k x) : RdRow sz el' B' w v l := by
  obtain ⟨a, c, h1, h2, h3⟩ := h
  exact ⟨a, c, h1, h2, fun i hi => by obtain ⟨b, o, e1, e2, e3⟩ := h3 i hi; exact ⟨b, o, e1, Nat.lt_of_lt_of_le e2 hB, hk _ _ _ e3⟩⟩
theorem RdPrg.mono {B B' : Nat} {w : World} {v0 v1 : Value} {p : PrgD} (h : RdPrg B w v0 v1 p) (hB : B ≤ B') : RdPrg B' w v0 v1 p :=
  ⟨h.1.mono hB fun b k x ⟨e1, v, e2, e3⟩ => ⟨e1, v, e2, e3.mono hB fun _ _ _ q => q⟩,
   h.2.mono hB fun b k x ⟨e1, ⟨v2, e2, e3⟩, e4, ⟨v6, e6, e7⟩, v8, e8, e9⟩ => ⟨e1, ⟨v2, e2, e3.mono hB fun _ _ _ q => q⟩, e4, ⟨v6, e6, e7.mono hB fun _ _ _ q => q⟩, v8, e8, e9.mono hB fun _ _ _ q => q⟩⟩
section
variable {H : Type} {enc : TypeId × Value → H} {P : Program} {w : World} {base : Nat} {spare : Nat → Bool} {held : Bool}
theorem chooseL {α : Type} {p : Nat → α → Prop} {m : Nat} (h : ∀ i, i < m → ∃ x, p i x) : ∃ l : List α, l.length = m ∧ ∀ i, (hi : i < l.length) → p i l[i] := by
  induction m with
  | zero => exact ⟨[], rfl, fun i hi => absurd hi (by simp)⟩
  | succ m ih =>
    obtain ⟨l, hl, hp⟩ := ih fun i hi => h i (by omega)
    obtain ⟨x, hx⟩ := h m (by omega)
    refine ⟨l ++ [x], by simp [hl], fun i hi => ?_⟩
    by_cases e : i < l.length
    · rw [List.getElem_append_left e]; exact hp i e
    · simp at hi
      obtain rfl : i = m := by omega
      rw [List.getElem_append_right (by omega)]
      simpa using hx
theorem rdRow_mk {α : Type} {sz : Nat} {el : World → Nat → Nat → α → Prop} {fs : Array Field} {x : Addr} {len cap m : Nat} (hfs : fs.size = sz) (hl : len ≤ m) (hmax : len ≤ maxLen) {f0 : Field} (h0 : fs[0]? = some f0)
    (hi : ∀ i, i < m → ∃ n : Nat, ∀ (j : Nat) (f : Field), fs[j]? = some f → ∃ (v : Value) (y : DataW H × List MemPlace), w.cell? (x.add (i * fs.size + j)) = some v ∧ DataW.trod enc P w base spare held n f.type [v] = some y)
    (hel : ∀ b k n, (∀ (j : Nat) (f : Field), fs[j]? = some f → ∃ (v : Value) (y : DataW H × List MemPlace), w.cell? ⟨b, k + j, none⟩ = some v ∧ DataW.trod enc P w base spare held n f.type [v] = some y) → ∃ a, el w b k a) :
    ∃ l, l.length = len ∧ RdRow sz el w.heap.size w (.slice (some x) len cap) l := by
  subst hfs
  rcases Nat.eq_zero_or_pos len with e | hpos
  · subst e; exact ⟨[], rfl, _, _, rfl, by unfold maxLen; simp, fun i hi => absurd hi (by simp)⟩
  obtain ⟨b, o, s⟩ := x
  have hs : s = none := by
    obtain ⟨n, hf⟩ := hi 0 (by omega)
    obtain ⟨v, _, hc, _⟩ := hf 0 _ h0
    simpa [Addr.add] using World.cell?_spot hc
  subst hs
  have e1 : ∀ k, (⟨b, o, none⟩ : Addr).add k = ⟨b, o + k, none⟩ := fun k => by unfold Addr.add; split <;> simp_all
  obtain ⟨l, hl', hp⟩ := chooseL (p := fun i a => b < w.heap.size ∧ el w b (o + i * fs.size) a) (m := len) (fun i hil => by
    obtain ⟨n, hf⟩ := hi i (by omega)
    obtain ⟨v, _, hc, _⟩ := hf 0 _ h0
    rw [e1] at hc
    obtain ⟨a, ha⟩ := hel b (o + i * fs.size) n (fun j f hj => by
      obtain ⟨v, y, hc, ht⟩ := hf j f hj
      rw [e1, ← Nat.add_assoc] at hc
      exact ⟨v, y, hc, ht⟩)
    exact ⟨a, World.block_lt_of_cell? w _ hc, ha⟩)
  exact ⟨l, hl', some ⟨b, o, none⟩, cap, by rw [hl'], by omega, fun i hi => ⟨b, o, rfl, (hp i hi).1, (hp i hi).2⟩⟩
theorem leaf_string {t : TypeId} {fuel : Nat} {c : Value} {x : DataW H × List MemPlace} (ht : P.underlying t = some .string) (h : DataW.trod enc P w base spare held fuel t [c] = some x) : ∃ s, c = .string s := by
  obtain ⟨s, hs, _⟩ := DataW.trod_string ht h
  exact ⟨s, by simpa using hs⟩
/-- a field that is a slice of structs -/
theorem rdField {α : Type} {sz : Nat} {el : World → Nat → Nat → α → Prop} {t e : TypeId} {fs : Array Field} {fuel : Nat} {v : Value} {x : DataW H × List MemPlace} (ht : P.underlying t = some (.slice e)) (he : P.underlying e = some (.struct fs))
    (hone : oneCellFields P fs = true) (hC : P.cellsOf e = fs.size) (hfs : fs.size = sz) {f0 : Field} (h0 : fs[0]? = some f0) (h : DataW.trod enc P w base spare held fuel t [v] = some x)
    (hel : ∀ b k n, (∀ (j : Nat) (f : Field), fs[j]? = some f → ∃ (v : Value) (y : DataW H × List MemPlace), w.cell? ⟨b, k + j, none⟩ = some v ∧ DataW.trod enc P w base spare held n f.type [v] = some y) → ∃ a, el w b k a) :
    ∃ l, RdRow sz el w.heap.size w v l := by
  rcases open_slice_fields ht he hone hC h with hcs | ⟨x, len, c, m, hcs, hl, hm, hmm, hi⟩
  · obtain rfl : v = .slice none 0 0 := by simpa using hcs
    exact ⟨[], none, 0, rfl, by unfold maxLen; simp, fun i hi => absurd hi (by simp)⟩
  · obtain rfl : v = .slice (some x) len c := by simpa using hcs
    obtain ⟨l, _, hr⟩ := rdRow_mk (cap := c) (len := len) hfs (by split at hmm <;> omega) (by omega) h0 hi hel
    exact ⟨l, hr⟩
theorem rdInts {t e : TypeId} {fuel : Nat} {v : Value} {x : DataW H × List MemPlace} (ht : P.underlying t = some (.slice e)) (he : P.underlying e = some (.int .i64)) (hC : P.cellsOf e = 1) (h : DataW.trod enc P w base spare held fuel t [v] = some x) :
    ∃ l, RdRow 1 ElI w.heap.size w v l := by
  rcases open_ints ht he hC h with ⟨hcs, _⟩ | ⟨x, len, c, zs, hcs, _, hl, hm, hz, _, hcell, hwz⟩
  · obtain rfl : v = .slice none 0 0 := by simpa using hcs
    exact ⟨[], none, 0, rfl, by unfold maxLen; simp, fun i hi => absurd hi (by simp)⟩
  · obtain rfl : v = .slice (some x) len c := by simpa using hcs
    have hz' : len ≤ zs.length := by split at hz <;> omega
    rcases Nat.eq_zero_or_pos len with e0 | hpos
    · subst e0; exact ⟨[], _, _, rfl, by unfold maxLen; simp, fun i hi => absurd hi (by simp)⟩
    obtain ⟨b, o, s⟩ := x
    have hs : s = none := by simpa [Addr.add] using World.cell?_spot (hcell 0 (by omega))
    subst hs
    have e1 : ∀ k, (⟨b, o, none⟩ : Addr).add k = ⟨b, o + k, none⟩ := fun k => by unfold Addr.add; split <;> simp_all
    have hlen : (zs.take len).length = len := by rw [List.length_take]; omega
    refine ⟨zs.take len, some ⟨b, o, none⟩, c, by rw [hlen], by omega, fun i hi => ⟨b, o, rfl, ?_, ?_, ?_⟩⟩
    · have := hcell 0 (by omega)
      rw [e1] at this
      exact World.block_lt_of_cell? w _ this
    · have := hcell i (by omega)
      rw [e1] at this
      rw [Nat.mul_one, this, List.getElem_take, List.getD_eq_getElem?_getD, List.getElem?_eq_getElem (by omega)]
      rfl
    · exact wf_I64 (hwz _ (by rw [List.getElem_take]; exact List.getElem_mem _))
end
section
variable {H : Type} {enc : TypeId × Value → H} {w : World} {base : Nat} {spare : Nat → Bool} {held : Bool}
theorem open_fields {fuel : Nat} {v : Value} {x : DataW H × List MemPlace} (h : DataW.trod enc Tryd.prog w base spare held fuel 102 [v] = some x) : ∃ l, RdRow 2 ElF w.heap.size w v l :=
  rdField Tryd.underlying102 Tryd.underlying128 (by kernel_rfl) (by kernel_rfl) rfl rfl h fun b k n hf => by
    obtain ⟨v0, y0, c0, t0⟩ := hf 0 _ rfl
    obtain ⟨v1, y1, c1, t1⟩ := hf 1 _ rfl
    obtain ⟨s, rfl⟩ := leaf_string Tryd.underlying9 t0
    obtain ⟨q, rfl, hw⟩ := leaf_int Tryd.underlying3 t1
    exact ⟨⟨s, q⟩, c0, c1, wf_I64 hw⟩
theorem open_classes {fuel : Nat} {v : Value} {x : DataW H × List MemPlace} (h : DataW.trod enc Tryd.prog w base spare held fuel 97 [v] = some x) : ∃ l, RdRow 2 (ElC w.heap.size) w.heap.size w v l :=
  rdField Tryd.underlying97 Tryd.underlying104 (by kernel_rfl) (by kernel_rfl) rfl rfl h fun b k n hf => by
    obtain ⟨v0, y0, c0, t0⟩ := hf 0 _ rfl
    obtain ⟨v1, y1, c1, t1⟩ := hf 1 _ rfl
    obtain ⟨s, rfl⟩ := leaf_string Tryd.underlying9 t0
    obtain ⟨l, hl⟩ := open_fields t1
    exact ⟨⟨s, l⟩, c0, v1, c1, hl⟩
end
end Go.Proofs.YtohmnjejchppkaaDoor
/- The law's own small functions: a plan within a few, plans and headers handed on, an arena laid out of words. Condition: the plan is right; the words are read in full. -/
namespace Go.Proofs.YtohmnjejchppkaaDoor
open Go.RowKit
set_option linter.unusedVariables false
theorem osmall_bd (x k : Int) (h0 : 0 < k) (h1 : k ≤ 1000000) : 1 ≤ wrap64 (1 + wrap64 ((IntKind.u64.wrap x).tmod k)) ∧ wrap64 (1 + wrap64 ((IntKind.u64.wrap x).tmod k)) ≤ k := by
  have hw : 0 ≤ IntKind.u64.wrap x := by rw [IntKind.wrap_u64]; omega
  generalize IntKind.u64.wrap x = y at *
  have e : y.tmod k = y % k := by rw [Int.tmod_eq_emod_of_nonneg hw]
  have h2 : 0 ≤ y % k := Int.emod_nonneg _ (by omega)
  have h3 : y % k < k := Int.emod_lt_of_pos _ (by omega)
  rw [e]
  generalize y % k = z at *
  rw [IntWalk.wrap64_in z ⟨by omega, by omega⟩, IntWalk.wrap64_in (1 + z) ⟨by omega, by omega⟩]
  omega
def OSmall (w : World) (e : Ending) (w' : World) : Prop := ∃ P : Int, e = .returned (.agg #[.int .i64 P, .int .i64 1, .int .i64 1]) ∧ 1 ≤ P ∧ P ≤ 5 ∧ Below w.heap.size w w'
set_option maxHeartbeats 400000 in
theorem oplan_any (P T R : Int) (w : World) :
    Calls Tryd.prog 14 #[.agg #[.int .i64 P, .int .i64 T, .int .i64 R]] w fun e w' => e = .returned (.agg #[.int .i64 P, .int .i64 T, .int .i64 R]) ∧ Below w.heap.size w w' := by
  go_enter Tryd.func14, Tryd.ntmps14
  have c0 := (planNew w P T R 28)
  go_wp2
  refine bodyPost_ret (v := .agg #[.int .i64 P, .int .i64 T, .int .i64 R]) (by simp [results, Tryd.results14, go_sem, *]) rfl ⟨rfl, ?_⟩
  exact c0.2.trans ((Below.refl _ _).alloc (by simp) _)
set_option maxHeartbeats 400000 in
theorem ohead_any (c k n : Int) (w : World) :
    Calls Tryd.prog 15 #[.agg #[.int .i64 c, .int .i64 k, .int .i64 n]] w fun e w' => e = .returned (.agg #[.int .i64 c, .int .i64 k, .int .i64 n]) ∧ Below w.heap.size w w' := by
  go_enter Tryd.func15, Tryd.ntmps15
  have c0 := (planNew w c k n 30)
  go_wp2
  refine bodyPost_ret (v := .agg #[.int .i64 c, .int .i64 k, .int .i64 n]) (by simp [results, Tryd.results15, go_sem, *]) rfl ⟨rfl, ?_⟩
  exact c0.2.trans ((Below.refl _ _).alloc (by simp) _)
/-- a cell's word, as the law is given it -/
def ElW (w : World) (b k : Nat) (x : Int × Int) : Prop := w.cell? ⟨b, k, none⟩ = some (.int .i64 x.1) ∧ w.cell? ⟨b, k + 1, none⟩ = some (.int .u64 x.2) ∧ U64 x.2
theorem ElW.keep {B : Nat} {w w' : World} {b k : Nat} {x : Int × Int} (hb : Below B w w') (h0 : b < B) (h : ElW w b k x) : ElW w' b k x :=
  ⟨(hb.cell (p := ⟨b, k, none⟩) h0).trans h.1, (hb.cell (p := ⟨b, k + 1, none⟩) h0).trans h.2.1, h.2.2⟩
def layAt (N : Nat) (x : Int) : Nat := (IntKind.u64.wrap x % (N : Int)).toNat
def layL (N : Nat) (l : List (Int × Int)) : List Int := l.foldl (fun cs x => cs.set (layAt N x.1) x.2) (List.replicate N 0)
theorem layL_snoc (N : Nat) (l : List (Int × Int)) (x : Int × Int) : layL N (l ++ [x]) = (layL N l).set (layAt N x.1) x.2 := by unfold layL; rw [List.foldl_append]; rfl
theorem layL_len (N : Nat) : ∀ l, (layL N l).length = N := by
  intro l
  have : ∀ (l : List (Int × Int)) (cs : List Int), (l.foldl (fun cs x => cs.set (layAt N x.1) x.2) cs).length = cs.length := by
    intro l
    induction l with
    | nil => intro cs; rfl
    | cons x l ih => intro cs; rw [List.foldl_cons, ih, List.length_set]
  unfold layL
  rw [this, List.length_replicate]
theorem layL_U (N : Nat) : ∀ l : List (Int × Int), (∀ x ∈ l, U64 x.2) → ∀ z ∈ layL N l, U64 z := by
  intro l
  have : ∀ (l : List (Int × Int)) (cs : List Int), (∀ z ∈ cs, U64 z) → (∀ x ∈ l, U64 x.2) → ∀ z ∈ l.foldl (fun cs x => cs.set (layAt N x.1) x.2) cs, U64 z := by
    intro l
    induction l with
    | nil => intro cs h _; exact h
    | cons x l ih =>
      intro cs h hx
      rw [List.foldl_cons]
      refine ih _ (fun z hz => ?_) (fun y hy => hx y (List.mem_cons_of_mem _ hy))
      rcases List.mem_or_eq_of_mem_set hz with h1 | h1
      · exact h z h1
      · rw [h1]; exact hx x (by simp)
  exact this l _ (fun z hz => by rw [List.eq_of_mem_replicate hz]; exact ⟨by decide, by decide⟩)
theorem layAt_lt {N : Nat} (h : 0 < N) (x : Int) : layAt N x < N := by
  unfold layAt
  have h2 := Int.emod_nonneg (IntKind.u64.wrap x) (show (N : Int) ≠ 0 by omega)
  have h3 := Int.emod_lt_of_pos (IntKind.u64.wrap x) (show (0 : Int) < N by omega)
  omega
theorem layAt_val {N : Nat} (h : 0 < N) (h1 : N ≤ 4096) (x : Int) : wrap64 ((IntKind.u64.wrap x).tmod (N : Int)) = (layAt N x : Int) ∧ wrap64 (IntKind.u64.wrap x % (N : Int)) = (layAt N x : Int) := by
  have hw : 0 ≤ IntKind.u64.wrap x := by rw [IntKind.wrap_u64]; omega
  have h2 := Int.emod_nonneg (IntKind.u64.wrap x) (show (N : Int) ≠ 0 by omega)
  have h3 := Int.emod_lt_of_pos (IntKind.u64.wrap x) (show (0 : Int) < N by omega)
  have e : wrap64 (IntKind.u64.wrap x % (N : Int)) = (layAt N x : Int) := by
    unfold layAt
    rw [IntWalk.wrap64_in _ ⟨by omega, by omega⟩]; omega
  exact ⟨by rw [Int.tmod_eq_emod_of_nonneg hw]; exact e, e⟩
structure LyS (w : World) (B a c d : Nat) (cs : List Int) (W : World) : Prop where
  ary : Ary W B a c cs 0 [d]
  row : Blk W d (cs.map (Value.int .u64)).toArray 26
  bel : Below B w W
theorem LyS.grew {w W W' : World} {B a c d : Nat} {cs : List Int} (h : LyS w B a c d cs W) (hb : Below W.heap.size W W') : LyS w B a c d cs W' := ⟨h.ary.grew hb, h.row.grew hb, h.bel.trans (hb.mono (h.ary.bw))⟩
theorem LyS.put {w W : World} {B a c d : Nat} {cs : List Int} (h : LyS w B a c d cs W) (hd : B ≤ d) (i : Nat) (v : Int) :
    Ary (W.setCell ⟨d, i, none⟩ (.int .u64 v)) B a c cs 0 [d] ∧ Blk (W.setCell ⟨d, i, none⟩ (.int .u64 v)) d ((cs.set i v).map (Value.int .u64)).toArray 26 ∧ Below B w (W.setCell ⟨d, i, none⟩ (.int .u64 v)) := by
  refine ⟨h.ary.touch ((Touch.refl (fun b => b = d) W).setCell (p := ⟨d, i, none⟩) rfl _) (fun b e => by rw [e]; simp), ?_, h.bel.setCell (p := ⟨d, i, none⟩) hd _⟩
  have := h.row.set i (.int .u64 v)
  rw [List.map_set, ← List.setIfInBounds_toArray]
  exact this
theorem apoke {w : World} {B a c n i : Nat} {cs : List Int} {K : List Nat} (v : Int) (hA : Ary w B a c cs n K) (hi : i < cs.length) (hm : cs.length ≤ 1000000) :
    Calls Tryd.prog 22 #[.pointer (some ⟨a, 0, none⟩), .int .i64 i, .int .u64 v] w fun e w' => e = .returned (.int .i64 0) ∧ Ary w' B a c (cs.set i v) n K ∧ Touch (fun b => b = c) w w' := by
  obtain ⟨xs, h⟩ := hA
  exact (poke_x v h hi hm).mono fun e w' ⟨h1, h2, h3⟩ => ⟨h1, ⟨xs, h2⟩, h3⟩
theorem Ary.cne {w : World} {B a c n : Nat} {cs : List Int} {K : List Nat} (h : Ary w B a c cs n K) : c ∉ K ∧ B ≤ c ∧ B ≤ a ∧ a ∉ K ∧ ∀ b ∈ K, b < w.heap.size := by
  obtain ⟨xs, h⟩ := h; exact ⟨h.nc, h.bc, h.ba, h.na, h.lt⟩
end Go.Proofs.YtohmnjejchppkaaDoor
/- Package objects: begins, holder. Conditions: the arena is there, with as many cells as the plan says; sizes' table lies as the start lays it. -/
namespace Go.Proofs.YtohmnjejchppkaaDoor
open Go.RowKit
set_option linter.unusedVariables false
def begB (k c wd : Int) : Bool := if k = 1 then decide (cellI c wd = wd) else if k = 2 then decide (wd = 0) else false
theorem entNew (w : World) (k c s o y : Int) (t : TypeId) : Blk (w.alloc (.cells #[.int .i64 k, .int .i64 c, .int .i64 s, .int .i64 o, .int .i64 y] t)) w.heap.size #[.int .i64 k, .int .i64 c, .int .i64 s, .int .i64 o, .int .i64 y] t := Blk.new _ _ _
set_option maxHeartbeats 1000000 in
theorem begins_anyO (k c s o y wd : Int) (w : World) (hW : Wid w) :
    Calls Tryd.prog 57 #[.agg #[.int .i64 k, .int .i64 c, .int .i64 s, .int .i64 o, .int .i64 y], .int .i64 wd] w fun e w' => e = .returned (.bool (begB k c wd)) ∧ Below w.heap.size w w' := by
  have hb := entNew w k c s o y 109
  have hB : Below w.heap.size w (w.alloc (.cells #[.int .i64 k, .int .i64 c, .int .i64 s, .int .i64 o, .int .i64 y] 109)) := (Below.refl _ _).alloc (Nat.le_refl _) _
  have hW1 := hW.grew hB
  have e0 := hb.val 0 rfl
  have e1 := hb.val 1 rfl
  clear hb hW
  unfold begB
  by_cases hk : k = 1
  · subst hk
    rw [if_pos rfl]
    have CE := Lib.hid (cell_any c wd _ hW1)
    have hd : decide (cellI c wd = wd) = (cellI c wd == wd) := by rw [Bool.eq_iff_iff]; simp
    rw [hd]
    clear hW1 hd
    generalize cellI c wd = z at *
    go_enter Tryd.func57, Tryd.ntmps57
    go_wp2_with fail
    refine CE.out.mono ?_; rintro e w2 ⟨rfl, hb2⟩
    go_wp2
    go_ret
    exact ⟨rfl, hB.trans (hb2.mono hB.size)⟩
  · have hk1 : (k == 1) = false := by simpa using hk
    rw [if_neg hk]
    by_cases h2 : k = 2
    · subst h2
      rw [if_pos rfl]
      have hd : decide (wd = 0) = (wd == 0) := by rw [Bool.eq_iff_iff]; simp
      rw [hd]
      clear hW1 hd hk
      go_enter Tryd.func57, Tryd.ntmps57
      go_wp2
      go_ret
      exact ⟨rfl, hB⟩
    · have hk2 : (k == 2) = false := by simpa using h2
      rw [if_neg h2]
      clear hW1 hk h2
      go_enter Tryd.func57, Tryd.ntmps57
      go_wp2
      go_ret
      exact ⟨rfl, hB⟩
def bitB (A wd : Int) : Bool := !(bits .and .u64 (A / 2 ^ wd.toNat) 1 == 0)
theorem apeek {w : World} {B a c n i : Nat} {cs : List Int} {K : List Nat} (hA : Ary w B a c cs n K) (hi : i < cs.length) (hm : cs.length ≤ 1000000) :
    Calls Tryd.prog 20 #[.pointer (some ⟨a, 0, none⟩), .int .i64 i] w fun e w' => e = .returned (.tuple #[.int .u64 (cs.getD i 0), .int .i64 0]) ∧ Quiet w w' := by
  obtain ⟨xs, h⟩ := hA; exact peek_x h hi hm
def rowN (P T R k pg : Int) : Nat := (rowI P T R k pg).toNat
theorem rowN_val {P T R pg : Int} (k : Int) (h : Right P T R) (h0 : 0 ≤ pg) (h1 : pg < P) (hk : 0 ≤ k ∧ k ≤ 2) : rowI P T R k pg = (rowN P T R k pg : Int) ∧ rowN P T R k pg < cellsN P T R ∧ rowI P T R k pg = tabI T R + k * P + pg := by
  have hb := base_bd h
  have ht := tab_bd h
  have e : rowI P T R k pg = tabI T R + k * P + pg := by
    unfold rowI
    rw [of_right h, Bool.true_and, if_pos (show inB pg 0 (P - 1) = true from decide_eq_true ⟨by omega, by omega⟩)]
  have hk2 : k = 0 ∨ k = 1 ∨ k = 2 := by omega
  unfold rowN cellsN
  rw [e]
  unfold baseI at *
  rcases hk2 with rfl | rfl | rfl <;> omega
end Go.Proofs.YtohmnjejchppkaaDoor
