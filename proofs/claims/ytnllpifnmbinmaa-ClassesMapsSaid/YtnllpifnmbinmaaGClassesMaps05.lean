/- Texts of this seat, one behind the other: each says at its head what it holds. No condition of its own. -/
import Derived.Deep.QuietTactic
import Derived.BigQuiet
import Derived.Lib.Strings
import Derived.Laws.StructEq
import Derived.RangeFuncBox
import Derived.RangeFuncWrites
import Derived.Test.YtnllpifnmbinmaaGClassesMaps01
import Derived.Test.YtnllpifnmbinmaaGClassesMaps04
/- IsRef; the law's own example. Condition: the table is there. -/
namespace Go.Proofs.Ytnllpifnmbinmaa
open Go.RowKit Go.Shelf
set_option linter.unusedVariables false
attribute [local go_sem] Oper.semAt_some
def isrI (cl : List ClsD) (c k n i : Int) : Bool := decide (∃ j ∈ ptrL cl c k n, ((j : Nat) : Int) = i)
theorem isr_hit {cl : List ClsD} {c k n i : Int} {pre : List Nat} {x : Nat} (h : (pre ++ [x]) <+: ptrL cl c k n) (hx : ((x : Nat) : Int) = i) : isrI cl c k n i = true := by
  unfold isrI
  simp only [decide_eq_true_eq]
  exact ⟨x, h.subset (by simp), hx⟩
theorem isr_miss {cl : List ClsD} {c k n i : Int} (h : ∀ x ∈ ptrL cl c k n, ((x : Nat) : Int) ≠ i) : isrI cl c k n i = false := by
  unfold isrI
  simp only [decide_eq_false_iff_not]
  rintro ⟨j, hj, e⟩
  exact h j hj e
set_option maxRecDepth 100000 in
set_option maxHeartbeats 4000000 in
theorem isref_any (w : World) (lo t m : Nat) (v : Value) (L : List (ClsD × Value × Nat)) (c k q i : Int) (hT : TabS w lo t v m L) :
    Calls Try.prog 11 #[.pointer (some ⟨t, 0, none⟩), .agg #[.int .i64 c, .int .i64 k, .int .i64 q], .int .i64 i] w fun e w' => e = .returned (.bool (isrI (L.map (·.1)) c k q i)) ∧ Below w.heap.size w w' := by
  have hM : Hid ((∀ x ∈ ptrL (L.map (·.1)) c k q, ((x : Nat) : Int) ≠ i) → isrI (L.map (·.1)) c k q i = false) := fun h => isr_miss h
  have hH : Hid (∀ (pre : List Nat) (x : Nat), (pre ++ [x]) <+: ptrL (L.map (·.1)) c k q → ((x : Nat) : Int) = i → isrI (L.map (·.1)) c k q i = true) := fun _ _ h e => isr_hit h e
  have HT := Lib.hid (fun W (hb : Below w.heap.size w W) => hT.grew hb)
  clear hT
  refine (callsIn_wide (n := 9)).1 ?_
  refine callsIn_of_wp_marks Try.func11 rfl trivial ?_ rfl
  simp only [Try.ntmps11, List.size_toArray, List.length_cons, List.length_nil, Nat.reduceAdd, Nat.reduceSub, Array.replicate_succ, Array.replicate_zero, List.push_toArray, List.append_toArray, List.nil_append, List.cons_append]
  have b0 : Blk (((w.alloc (.cells #[.int .i64 c, .int .i64 k, .int .i64 q] 37)).alloc (.cells #[.int .i64 i] 3)).alloc (.cells #[.bool false] 4)) w.heap.size #[.int .i64 c, .int .i64 k, .int .i64 q] 37 := ((Blk.new _ _ _).alloc _).alloc _
  have b1 : Blk (((w.alloc (.cells #[.int .i64 c, .int .i64 k, .int .i64 q] 37)).alloc (.cells #[.int .i64 i] 3)).alloc (.cells #[.bool false] 4)) (w.heap.size + 1) #[.int .i64 i] 3 := (Blk.new' (by simp)).alloc _
  have b2 : Blk (((w.alloc (.cells #[.int .i64 c, .int .i64 k, .int .i64 q] 37)).alloc (.cells #[.int .i64 i] 3)).alloc (.cells #[.bool false] 4)) (w.heap.size + 2) #[.bool false] 4 := Blk.new' (by simp)
  have hB0 : Below w.heap.size w (((w.alloc (.cells #[.int .i64 c, .int .i64 k, .int .i64 q] 37)).alloc (.cells #[.int .i64 i] 3)).alloc (.cells #[.bool false] 4)) := (((Below.refl _ w).alloc (Nat.le_refl _) _).alloc (by simp) _).alloc (by simp; omega) _
  have hsz : (((w.alloc (.cells #[.int .i64 c, .int .i64 k, .int .i64 q] 37)).alloc (.cells #[.int .i64 i] 3)).alloc (.cells #[.bool false] 4)).heap.size = w.heap.size + 3 := by simp
  have y0 := b0.val 0 rfl
  have y1 := b0.val 1 rfl
  have y2 := b0.val 2 rfl
  have KA := Lib.hid (And.intro b0 (And.intro b1 (And.intro b2 (And.intro hB0 hsz))))
  clear b0 b1 b2 hB0 hsz
  gi_wp2_with fail
  obtain ⟨b0, b1, b2, hB0, hsz⟩ := KA.out
  clear KA y0 y1 y2
  generalize World.alloc _ _ = W0 at *
  refine ⟨trivial, ?_⟩
  refine (callsIn_wide.2 (pointers_any _ _ _ _ _)).mono ?_
  rintro e w2 ⟨rfl, rfl⟩
  gi_wp2_with fail
  have b0 := (b0.alloc (.cells #[.pointer (some ⟨t, 0, none⟩)] 27)).alloc (.cells #[.int .i64 c, .int .i64 k, .int .i64 q] 37)
  have b1 := (b1.alloc (.cells #[.pointer (some ⟨t, 0, none⟩)] 27)).alloc (.cells #[.int .i64 c, .int .i64 k, .int .i64 q] 37)
  have b2 := (b2.alloc (.cells #[.pointer (some ⟨t, 0, none⟩)] 27)).alloc (.cells #[.int .i64 c, .int .i64 k, .int .i64 q] 37)
  have b3 : Blk ((W0.alloc (.cells #[.pointer (some ⟨t, 0, none⟩)] 27)).alloc (.cells #[.int .i64 c, .int .i64 k, .int .i64 q] 37)) W0.heap.size #[.pointer (some ⟨t, 0, none⟩)] 27 := (Blk.new _ _ _).alloc _
  have b4 : Blk ((W0.alloc (.cells #[.pointer (some ⟨t, 0, none⟩)] 27)).alloc (.cells #[.int .i64 c, .int .i64 k, .int .i64 q] 37)) (W0.heap.size + 1) #[.int .i64 c, .int .i64 k, .int .i64 q] 37 := Blk.new' (by simp)
  have hB2 : Below w.heap.size w ((W0.alloc (.cells #[.pointer (some ⟨t, 0, none⟩)] 27)).alloc (.cells #[.int .i64 c, .int .i64 k, .int .i64 q] 37)) := (hB0.alloc (by omega) _).alloc (by simp; omega) _
  have hs2 : ((W0.alloc (.cells #[.pointer (some ⟨t, 0, none⟩)] 27)).alloc (.cells #[.int .i64 c, .int .i64 k, .int .i64 q] 37)).heap.size = w.heap.size + 5 := by simp; omega
  rw [hsz] at b3 b4
  generalize World.alloc (World.alloc _ _) _ = W2 at *
  have c1 := b1.val 0 rfl
  have c2 := b2.val 0 rfl
  have f2 := b2.frozen 0
  have HKK : ∀ W, Below W2.heap.size W2 W → TabS W lo t v m L ∧ W.cell? ⟨w.heap.size + 3, 0, none⟩ = some (.pointer (some ⟨t, 0, none⟩)) ∧ W.cell? ⟨w.heap.size + 3 + 1, 0, none⟩ = some (.int .i64 c) ∧ W.cell? ⟨w.heap.size + 3 + 1, 1, none⟩ = some (.int .i64 k) ∧ W.cell? ⟨w.heap.size + 3 + 1, 2, none⟩ = some (.int .i64 q) := fun W hb =>
    ⟨HT.out W (hB2.trans (hb.mono (by omega))), (b3.grew hb).val 0 rfl, (b4.grew hb).val 0 rfl, (b4.grew hb).val 1 rfl, (b4.grew hb).val 2 rfl⟩
  refine wpIn_rangeFunc_ownF rfl (by omega) (gf := 17) (lb := #[.pointer (some ⟨w.heap.size + 3, 0, none⟩), .pointer (some ⟨w.heap.size + 3 + 1, 0, none⟩)]) rfl trivial (enters_of Try.func17 (by kernel_rfl) rfl)
    (ptr_stops 8 (by omega) (w.heap.size + 3) (w.heap.size + 3 + 1) W2.heap.size lo t m v L c k q W2 (Nat.le_refl _) HKK) belowK_t (belowK_b (by omega)) (Below.refl _ _) (fun _ => rfl)
    (fun pre W => (Hid (∀ z ∈ pre, ((z : Nat) : Int) ≠ i) ∧ W.cell? ⟨w.heap.size + 1, 0, none⟩ = some (.int .i64 i) ∧ W.cell? ⟨w.heap.size + 2, 0, none⟩ = some (.bool false) ∧ W.frozen? ⟨w.heap.size + 2, 0, none⟩ = false) ∧ Below w.heap.size w W)
    (fun cc pre W => (cc = .ret ∧ (∃ q y, Hid (pre = q ++ [y]) ∧ Hid (((y : Nat) : Int) = i) ∧ W.cell? ⟨w.heap.size + 2, 0, none⟩ = some (.bool true))) ∧ Below w.heap.size w W)
    (OwnFrom.and (Own.from (fun s A B row hs hg hr => ⟨hs.1, cell_kept hs.2.1 hg hr, cell_kept hs.2.2.1 hg hr, (frozen_kept hs.2.2.1 hg hr).trans hs.2.2.2⟩) _) (ownFrom_below (Nat.le_refl _) (by omega)))
    (fun cc => OwnFrom.and (Own.from (fun s A B row hs hg hr => by obtain ⟨h1, q, y, h2, h3, h5⟩ := hs; exact ⟨h1, q, y, h2, h3, cell_kept h5 hg hr⟩) _) (ownFrom_below (Nat.le_refl _) (by omega)))
    ⟨⟨by unfold Hid; simp, c1, c2, f2⟩, hB2⟩
    (fun x => { tmps := #[.pointer (some ⟨t, 0, none⟩), .agg #[.int .i64 c, .int .i64 k, .int .i64 q], .int .i64 i, undef, .pointer (some ⟨w.heap.size, 0, none⟩), .pointer (some ⟨w.heap.size + 1, 0, none⟩), .pointer (some ⟨w.heap.size + 1 + 1, 0, none⟩), .int .i64 (x : Nat),
      .pointer (some ⟨t, 0, none⟩), .agg #[.int .i64 c, .int .i64 k, .int .i64 q], .func (.func 17) #[] #[.pointer (some ⟨w.heap.size + 3, 0, none⟩), .pointer (some ⟨w.heap.size + 3 + 1, 0, none⟩)], .int .i64 (x : Nat), undef, undef, undef], defers := [] }) ?assign ?body ?done ?stop
  case assign =>
    intro l i W K hK
    gi_wp2
    exact hK
  case body =>
    rintro l pre x W ⟨⟨hp, hc1, hc2, hf2⟩, hB⟩ _
    by_cases hx : ((x : Nat) : Int) = i
    · have e : (((x : Nat) : Int) == i) = true := by simpa using hx
      have HX := Lib.hid hx
      clear hx
      gi_wp2
      exact ⟨KeepsOthers.setCell _ _ _, ⟨rfl, pre, x, Lib.hid rfl, HX, World.cell?_setCell_same' _ _ _ (by rw [hc2]; rfl)⟩, hB.setCell (p := ⟨w.heap.size + 2, 0, none⟩) (by simp) _⟩
    · have e : (((x : Nat) : Int) == i) = false := by simpa using hx
      have HX := Lib.hid hx
      clear hx
      gi_wp2
      refine ⟨KeepsOthers.refl _, Below.refl _ _, ⟨?_, hc1, hc2, hf2⟩, hB⟩
      unfold Hid
      intro z hz
      rcases List.mem_append.1 hz with h | h
      · exact hp.out z h
      · rw [List.mem_singleton.1 h]; exact HX.out
  case done =>
    rintro D ys W hD hys ⟨⟨hp, _, hc2, hf2⟩, hB⟩ hK
    have hs := Lib.hid (hM.out (by rw [← hys]; exact hp.out))
    gi_wp2
    have hK' := (KeepsOthers.setCell W ⟨w.heap.size + 2, 0, none⟩ (.bool false)).same D _ hK rfl
    refine ⟨by simp, .inl ⟨_, _, rfl, run_takeDeferred hK', ?_⟩⟩
    have hc5 := cell_kept (World.cell?_setCell_same' W ⟨w.heap.size + 2, 0, none⟩ (.bool false) (by rw [hc2]; rfl)) (grownBy_putObj' _ D (.deferred none)) (fun r e => by cases e; exact ⟨_, hK', rfl⟩)
    refine ⟨.bool false, ?_, by rw [hs.out], (hB.setCell (p := ⟨w.heap.size + 2, 0, none⟩) (by simp) _).trans (belowK_b (w := w) (Nat.le_refl _) _ D _ _ (by omega) hK' rfl rfl)⟩
    simp [results, Try.f11, go_sem, hc5]
  case stop =>
    rintro D cc pre W hD hpre ⟨⟨rfl, q, y, h1, h3, hc2⟩, hB⟩ hK
    have hs := Lib.hid (hH.out q y (by rw [← h1.out]; exact hpre) h3.out)
    gi_wp2
    refine ⟨by simp, .inl ⟨_, _, rfl, run_takeDeferred hK, ?_⟩⟩
    have hc5 := cell_kept hc2 (grownBy_putObj' _ D (.deferred none)) (fun r e => by cases e; exact ⟨_, hK, rfl⟩)
    refine ⟨.bool true, ?_, by rw [hs.out], hB.trans (belowK_b (w := w) (Nat.le_refl _) W D _ _ (by omega) hK rfl rfl)⟩
    simp [results, Try.f11, go_sem, hc5]
end Go.Proofs.Ytnllpifnmbinmaa
/- The law's own example: a class's references are told. No condition. -/
namespace Go.Proofs.Ytnllpifnmbinmaa
open Go.RowKit
set_option linter.unusedVariables false
def fld0 : FldD := ⟨⟨#[110, 101, 120, 116]⟩, 2⟩
def fld1 : FldD := ⟨⟨#[110]⟩, 1⟩
def cls0 : ClsD := ⟨⟨#[110, 111, 100, 101]⟩, [fld0, fld1]⟩
theorem tab0 : tabE [cls0] = (0, 0) := by decide +kernel
theorem isr0 : isrI [cls0] 0 1 2 0 = true := by decide +kernel
theorem isr1 : isrI [cls0] 0 1 2 1 = false := by decide +kernel
theorem isr2 : isrI [cls0] 0 3 3 2 = true := by decide +kernel
theorem cls0_rd (w : World) : RdRow 2 (ElC (w.heap.size + 2)) (w.heap.size + 2) ((w.alloc (.cells #[.string ⟨#[110, 101, 120, 116]⟩, .int .i64 2, .string ⟨#[110]⟩, .int .i64 1] 58)).alloc (.cells #[.string ⟨#[110, 111, 100, 101]⟩, .slice (some ⟨w.heap.size, 0, none⟩) 2 2] 52)) (.slice (some ⟨w.heap.size + 1, 0, none⟩) 1 1) [cls0] := by
  have k1 : Blk ((w.alloc (.cells #[.string ⟨#[110, 101, 120, 116]⟩, .int .i64 2, .string ⟨#[110]⟩, .int .i64 1] 58)).alloc (.cells #[.string ⟨#[110, 111, 100, 101]⟩, .slice (some ⟨w.heap.size, 0, none⟩) 2 2] 52)) w.heap.size #[.string ⟨#[110, 101, 120, 116]⟩, .int .i64 2, .string ⟨#[110]⟩, .int .i64 1] 58 := (Blk.new _ _ _).alloc _
  have k2 : Blk ((w.alloc (.cells #[.string ⟨#[110, 101, 120, 116]⟩, .int .i64 2, .string ⟨#[110]⟩, .int .i64 1] 58)).alloc (.cells #[.string ⟨#[110, 111, 100, 101]⟩, .slice (some ⟨w.heap.size, 0, none⟩) 2 2] 52)) (w.heap.size + 1) #[.string ⟨#[110, 111, 100, 101]⟩, .slice (some ⟨w.heap.size, 0, none⟩) 2 2] 52 := Blk.new' (by simp)
  refine ⟨some ⟨w.heap.size + 1, 0, none⟩, 1, rfl, by unfold maxLen; simp, fun i hi => ⟨w.heap.size + 1, 0, rfl, by omega, ?_⟩⟩
  obtain rfl : i = 0 := by simpa using hi
  refine ⟨k2.val 0 rfl, _, k2.val 1 rfl, some ⟨w.heap.size, 0, none⟩, 2, rfl, by unfold maxLen; simp [cls0], fun j hj => ⟨w.heap.size, 0, rfl, by omega, ?_⟩⟩
  match j, hj with
  | 0, _ => exact ⟨k1.val 0 rfl, k1.val 1 rfl, (show I64 (2 : Int) from ⟨by omega, by omega⟩)⟩
  | 1, _ => exact ⟨k1.val 2 rfl, k1.val 3 rfl, (show I64 (1 : Int) from ⟨by omega, by omega⟩)⟩
  | j + 2, h => exact absurd h (by simp [cls0])
set_option maxRecDepth 100000 in
set_option maxHeartbeats 4000000 in
theorem classed_any (w : World) : Calls Try.prog 5 #[] w fun e w' => e = .returned (.bool true) ∧ Below w.heap.size w w' := by
  have hb0 : Below w.heap.size w ((w.alloc (.cells #[.string ⟨#[110, 101, 120, 116]⟩, .int .i64 2, .string ⟨#[110]⟩, .int .i64 1] 58)).alloc (.cells #[.string ⟨#[110, 111, 100, 101]⟩, .slice (some ⟨w.heap.size, 0, none⟩) 2 2] 52)) := ((Below.refl _ _).alloc (Nat.le_refl _) _).alloc (by simp) _
  have NW := Lib.hid (new_any _ _ _ _ (cls0_rd w) (by simp))
  have HB := Lib.hid hb0
  clear hb0
  go_enter Try.func5, Try.ntmps5
  go_wp2_with fail
  refine NW.out.mono ?_
  rintro e w1 ⟨hb1, hcase⟩
  rcases hcase with ⟨hne, _⟩ | ⟨_, t, v, m, L, rfl, hT, hL⟩
  · exact absurd (by rw [tab0]) hne
  have hlen : L.length = 1 := by have := congrArg List.length hL; simpa using this
  have B1 := Lib.hid (HB.out.trans (hb1.mono HB.out.size))
  have HD := Lib.hid (thead_yes w1 _ t m v L 0 hT (by omega))
  have hfl : (L[0]'(by omega)).1.fields.length = 2 := by
    have : (L[0]'(by omega)).1 = cls0 := by
      have h1 : (L.map (·.1))[0]? = some cls0 := by rw [hL]; rfl
      rw [List.getElem?_map, List.getElem?_eq_getElem (by omega)] at h1
      simpa using h1
    rw [this]; rfl
  rw [hfl] at HD
  have HT := Lib.hid (fun W (hb : Below w1.heap.size w1 W) => hT.grew hb)
  have HL := Lib.hid hL
  have HN := Lib.hid hlen
  clear hT hL hlen hfl hb1 NW
  go_wp2_with fail
  refine HD.out.mono ?_
  rintro e w2 ⟨rfl, hb2⟩
  have hb3 := (Below.refl w2.heap.size w2).alloc (Nat.le_refl _) (.cells #[.int .i64 0, .int .i64 1, .int .i64 2] 37)
  have k1 := Blk.new w2 #[.int .i64 0, .int .i64 1, .int .i64 2] 37
  have hb3' := hb2.trans (hb3.mono hb2.size)
  have I0 := Lib.hid (isref_any _ _ t m v L 0 1 2 0 (HT.out _ hb3'))
  rw [HL.out, isr0] at I0
  have HB3 := Lib.hid hb3'
  have K1 := Lib.hid k1
  have z0 := k1.val 0 rfl
  have z1 := k1.val 1 rfl
  have z2 := k1.val 2 rfl
  clear hb2 hb3 hb3' k1 HD
  go_wp2_with fail
  refine I0.out.mono ?_
  rintro e w4 ⟨rfl, hb4⟩
  have hb4' := HB3.out.trans (hb4.mono HB3.out.size)
  have I1 := Lib.hid (isref_any _ _ t m v L 0 1 2 1 (HT.out _ hb4'))
  rw [HL.out, isr1] at I1
  have k1 := K1.out.grew hb4
  clear z0 z1 z2
  have z0 := k1.val 0 rfl
  have z1 := k1.val 1 rfl
  have z2 := k1.val 2 rfl
  have HB4 := Lib.hid hb4'
  clear hb4 hb4' k1 I0
  go_wp2_with fail
  refine I1.out.mono ?_
  rintro e w5 ⟨rfl, hb5⟩
  have hb5' := HB4.out.trans (hb5.mono HB4.out.size)
  have CN := Lib.hid (count_any w5 _ t m v L (HT.out _ hb5'))
  rw [HN.out] at CN
  have I2 := Lib.hid (isref_any w5 _ t m v L 0 3 3 2 (HT.out _ hb5'))
  rw [HL.out, isr2] at I2
  have HB5 := Lib.hid hb5'
  clear hb5 hb5' I1 z0 z1 z2
  go_wp2_with fail
  refine CN.out.mono ?_
  rintro e w6 ⟨rfl, rfl⟩
  go_wp2_with fail
  refine I2.out.mono ?_
  rintro e w7 ⟨rfl, hb7⟩
  have HB7 := Lib.hid (B1.out.trans ((HB5.out.trans (hb7.mono HB5.out.size)).mono B1.out.size))
  clear hb7
  go_wp2
  go_ret
  exact ⟨rfl, HB7.out⟩
end Go.Proofs.Ytnllpifnmbinmaa
/- The document's Name; the law ClassesNames. No condition. -/
namespace Go.Proofs.Ytnllpifnmbinmaa
open Go.RowKit
set_option linter.unusedVariables false
end Go.Proofs.Ytnllpifnmbinmaa
/- The document's Check of classes. Condition: the classes are there. -/
namespace Go.Proofs.Ytnllpifnmbinmaa
open Go.RowKit
set_option linter.unusedVariables false
def fldsR (l : List FldD) : Int := if 15 < l.length then 3 else fldsE [] l
theorem nm_yes {a b : ByteArray} (h : nmB a = nmB b) : (a.toList == b.toList) = true := by rw [Lib.toList_data, Lib.toList_data]; simpa using h
theorem nm_no {a b : ByteArray} (h : nmB a ≠ nmB b) : (a.toList == b.toList) = false := by rw [Lib.toList_data, Lib.toList_data]; simpa using h
theorem fnames_mem {l : List FldD} {i : Nat} {s : Nm} : s ∈ fnames (l.take i) ↔ ∃ j, ∃ (h : j < l.length), j < i ∧ nmB l[j].name = s := by
  unfold fnames
  rw [List.mem_map]
  constructor
  · rintro ⟨f, hf, rfl⟩
    obtain ⟨j, hj, rfl⟩ := List.getElem_of_mem hf
    rw [List.length_take] at hj
    exact ⟨j, by omega, by omega, by rw [List.getElem_take]⟩
  · rintro ⟨j, h1, h2, rfl⟩
    exact ⟨l[j], List.mem_take_iff_getElem.2 ⟨j, by omega, rfl⟩, rfl⟩
end Go.Proofs.Ytnllpifnmbinmaa
/- The document's Check of classes, its walk. Condition: the classes are there. -/
namespace Go.Proofs.Ytnllpifnmbinmaa
open Go.RowKit
set_option linter.unusedVariables false
theorem cnames_mem {l : List ClsD} {i : Nat} {s : Nm} : s ∈ cnames (l.take i) ↔ ∃ j, ∃ (h : j < l.length), j < i ∧ nmB l[j].name = s := by
  unfold cnames
  rw [List.mem_map]
  constructor
  · rintro ⟨f, hf, rfl⟩
    obtain ⟨j, hj, rfl⟩ := List.getElem_of_mem hf
    rw [List.length_take] at hj
    exact ⟨j, by omega, by omega, by rw [List.getElem_take]⟩
  · rintro ⟨j, h1, h2, rfl⟩
    exact ⟨l[j], List.mem_take_iff_getElem.2 ⟨j, by omega, rfl⟩, rfl⟩
theorem newE_zero' : ∀ (l : List ClsD) (i : Nat) (seen : List Nm), (newE i seen l).2 = 0 → newE i seen l = (0, 0)
  | [], i, seen, _ => rfl
  | c :: r, i, seen, h => by
    rw [newE] at h ⊢
    by_cases e : clsE seen c = 0
    · rw [if_pos e] at h ⊢
      exact newE_zero' r _ _ h
    · rw [if_neg e] at h
      exact absurd h e
theorem newE_zero {l : List ClsD} (h : (newE 0 [] l).2 = 0) : newE 0 [] l = (0, 0) := newE_zero' l 0 [] h
end Go.Proofs.Ytnllpifnmbinmaa
/- The document's SameClass (where a seat has classes alone). No condition. -/
namespace Go.Proofs.Ytnllpifnmbinmaa
open Go.RowKit
set_option linter.unusedVariables false
theorem list_eq_of {α : Type} {l1 l2 : List α} (h : l1.length = l2.length) (he : ∀ i, (h1 : i < l1.length) → (h2 : i < l2.length) → l1[i] = l2[i]) : l1 = l2 := List.ext_getElem h he
theorem fields2 {l : List Field} {t u : TypeId} (h : l.map (fun f => (f.type, f.offset, f.name == "_")) = [(t, 0, false), (u, 1, false)]) :
    ∃ f g, l = [f, g] ∧ (f.type = t ∧ f.offset = 0 ∧ ¬ f.name = "_") ∧ (g.type = u ∧ g.offset = 1 ∧ ¬ g.name = "_") := by
  rcases l with _ | ⟨f0, _ | ⟨f1, _ | ⟨f2, l⟩⟩⟩ <;> simp only [List.map_cons, List.map_nil, List.cons.injEq, Prod.mk.injEq, beq_eq_false_iff_ne, ne_eq, and_true, reduceCtorEq, and_false] at h
  exact ⟨f0, f1, rfl, h.1, h.2⟩
theorem neq_fld (w : World) (a b : ByteArray) (x y : Int) :
    (binOp .neq 58 (.agg #[.string a, .int .i64 x]) (.agg #[.string b, .int .i64 y])).run Try.prog w = .ok (.bool (!(a.toList == b.toList && x == y))) w := by
  rw [run_neq_struct, run_equalIn_agg w 9999 _ _ _ (by kernel_rfl) (by kernel_rfl)]
  obtain ⟨f, g, hl, ⟨f1, f2, f3⟩, g1, g2, g3⟩ := fields2 (l := (Try.prog.fieldsOf 58).toList) (t := 9) (u := 3) (by kernel_rfl)
  rw [hl]
  have hi : Try.prog.underlying 3 = some (.int .i64) := by kernel_rfl
  have hs : Try.prog.underlying 9 = some .string := by kernel_rfl
  simp [Op.eqFields, f1, f2, f3, g1, g2, g3, go_sem, hi, hs]
  by_cases h1 : a.toList = b.toList <;> by_cases h2 : x = y <;> simp [h1, h2]
theorem guard_fld : Try.prog.eqGuardType Try.prog.depth 58 = false := by kernel_rfl
def fldP (f : FldD) : List UInt8 × Int := (f.name.toList, f.ty)
def clsP (c : ClsD) : List UInt8 × List (List UInt8 × Int) := (c.name.toList, c.fields.map fldP)
theorem map_eq_of {α β : Type} {f : α → β} {l1 l2 : List α} (h : l1.length = l2.length) (he : ∀ i, (h1 : i < l1.length) → (h2 : i < l2.length) → f l1[i] = f l2[i]) : l1.map f = l2.map f :=
  list_eq_of (by simpa using h) fun i h1 h2 => by simpa using he i (by simpa using h1) (by simpa using h2)
theorem map_ne_at {α β : Type} {f : α → β} {l1 l2 : List α} {i : Nat} (h1 : i < l1.length) (h2 : i < l2.length) (h : ¬ f l1[i] = f l2[i]) : ¬ l1.map f = l2.map f := fun e => h (by
  have q : (l1.map f)[i]? = (l2.map f)[i]? := by rw [e]
  simpa [List.getElem?_eq_getElem h1, List.getElem?_eq_getElem h2] using q)
theorem map_ne_len {α β : Type} {f : α → β} {l1 l2 : List α} (h : ¬ l1.length = l2.length) : ¬ l1.map f = l2.map f := fun e => h (by simpa using congrArg List.length e)
theorem fldP_eq {f g : FldD} : (f.name.toList == g.name.toList && f.ty == g.ty) = decide (fldP f = fldP g) := by
  unfold fldP
  by_cases h1 : f.name.toList = g.name.toList <;> by_cases h2 : f.ty = g.ty <;> simp [h1, h2]
theorem clsP_eq {f g : ClsD} : decide (clsP f = clsP g) = (decide (f.name.toList = g.name.toList) && decide (f.fields.map fldP = g.fields.map fldP)) := by
  unfold clsP
  by_cases h1 : f.name.toList = g.name.toList <;> by_cases h2 : f.fields.map fldP = g.fields.map fldP <;> simp [h1, h2]
end Go.Proofs.Ytnllpifnmbinmaa
/- Table.Class: a class, in memory of its own. Condition: the table is there. -/
namespace Go.Proofs.Ytnllpifnmbinmaa
open Go.RowKit
set_option linter.unusedVariables false
end Go.Proofs.Ytnllpifnmbinmaa
/- The law ClassesMakes. Condition: the argument reads as classes. -/
namespace Go.Proofs.Ytnllpifnmbinmaa
open Go.RowKit
set_option linter.unusedVariables false
theorem newE_all : ∀ (l : List ClsD) (i : Nat) (seen : List Nm), (newE i seen l).2 = 0 → ∀ c ∈ l, c.fields.length ≤ 15
  | [], _, _, _, c, hc => by cases hc
  | d :: r, i, seen, h, c, hc => by
    rw [newE] at h
    by_cases e : clsE seen d = 0
    · rw [if_pos e] at h
      rcases List.mem_cons.1 hc with q | q
      · subst q
        unfold clsE at e
        split at e
        · cases e
        · split at e
          · cases e
          · split at e
            · cases e
            · omega
      · exact newE_all r _ _ h c q
    · rw [if_neg e] at h
      exact absurd h e
theorem tabE_zero {l : List ClsD} (h : (tabE l).2 = 0) : tabE l = (0, 0) ∧ ∀ c ∈ l, c.fields.length ≤ 15 := by
  unfold tabE at h ⊢
  split at h
  · cases h
  · rename_i e
    rw [if_neg e]
    exact ⟨newE_zero h, newE_all l 0 [] h⟩
theorem rd_mem {α : Type} {sz B : Nat} {el : World → Nat → Nat → α → Prop} {w : World} {v : Value} {l : List α} (h : RdRow sz el B w v l) {x : α} (hx : x ∈ l) : ∃ b k, el w b k x := by
  obtain ⟨a, c, h1, h2, h3⟩ := h
  obtain ⟨i, hi, rfl⟩ := List.getElem_of_mem hx
  obtain ⟨b, o, _, _, e⟩ := h3 i hi
  exact ⟨b, _, e⟩
theorem okC_of {B : Nat} {w : World} {v : Value} {l : List ClsD} (h : RdRow 2 (ElC B) B w v l) : ∀ c ∈ l, ∀ f ∈ c.fields, I64 f.ty := fun c hc f hf => by
  obtain ⟨_, _, _, v, _, r⟩ := rd_mem h hc
  obtain ⟨_, _, _, _, q⟩ := rd_mem r hf
  exact q
end Go.Proofs.Ytnllpifnmbinmaa
/- Find, Field, and the document's Find, Field, Type. Condition: the table, the classes are there. -/
namespace Go.Proofs.Ytnllpifnmbinmaa
open Go.RowKit
set_option linter.unusedVariables false
theorem idxOf_first {s : Nm} : ∀ (l : List Nm) (k : Nat) (hk : k < l.length), l[k] = s → (∀ j (hj : j < l.length), j < k → l[j] ≠ s) → l.idxOf s = k
  | x :: r, 0, _, h, _ => by
    have h' : x = s := h
    subst h'
    simp
  | x :: r, k + 1, hk, h, hn => by
    have hx : x ≠ s := hn 0 (by simp) (by omega)
    have hr := idxOf_first r k (by simpa using hk) (by simpa using h) (fun j hj hjk => by
      have := hn (j + 1) (by simpa using hj) (by omega)
      simpa using this)
    rw [List.idxOf_cons, beq_eq_false_iff_ne.2 hx, hr]
    rfl
def seekI (l : List Nm) (s : Nm) (e : Int) : Int × Int := if s ∈ l then (((l.idxOf s : Nat) : Int), 0) else (0, e)
theorem seek_hit {l : List Nm} {s : Nm} {e : Int} {k : Nat} (hk : k < l.length) (h : l[k] = s) (hn : ∀ j (hj : j < l.length), j < k → l[j] ≠ s) : seekI l s e = ((k : Int), 0) := by
  unfold seekI
  rw [if_pos (h ▸ List.getElem_mem hk), idxOf_first l k hk h hn]
theorem seek_miss {l : List Nm} {s : Nm} {e : Int} (hn : ∀ j (hj : j < l.length), l[j] ≠ s) : seekI l s e = (0, e) := by
  unfold seekI
  rw [if_neg]
  intro hm
  obtain ⟨j, hj, h⟩ := List.getElem_of_mem hm
  exact hn j hj h
theorem cnames_at {l : List ClsD} {i : Nat} (hi : i < l.length) : (cnames l)[i]'(by unfold cnames; rw [List.length_map]; exact hi) = nmB l[i].name := by simp [cnames]
theorem fnames_at {l : List FldD} {i : Nat} (hi : i < l.length) : (fnames l)[i]'(by unfold fnames; rw [List.length_map]; exact hi) = nmB l[i].name := by simp [fnames]
def fieldI (cl : List ClsD) (c : Int) (s : Nm) : Int × Int := if atB cl.length c then (match cl[c.toNat]? with | some d => seekI (fnames d.fields) s 22 | none => (0, 21)) else (0, 21)
theorem fieldI_at {cl : List ClsD} {c : Nat} (hc : c < cl.length) (s : Nm) : fieldI cl c s = seekI (fnames cl[c].fields) s 22 := by
  unfold fieldI
  rw [if_pos (by unfold atB; simp; omega)]
  simp [hc]
theorem fieldI_no {cl : List ClsD} {c : Int} (hc : atB cl.length c = false) (s : Nm) : fieldI cl c s = (0, 21) := by
  unfold fieldI
  rw [if_neg (by rw [hc]; decide)]
end Go.Proofs.Ytnllpifnmbinmaa
/- The document's Find, Field, Type. Condition: the classes are there. -/
namespace Go.Proofs.Ytnllpifnmbinmaa
open Go.RowKit
set_option linter.unusedVariables false
theorem atB_neg {n : Nat} {i : Int} (h : atB n i = false) (h0 : ¬ i < 0) : (n : Int) ≤ i := by
  unfold atB at h
  simp at h
  exact h (by omega)
end Go.Proofs.Ytnllpifnmbinmaa
/- The reference's headers: what may be one, what fits, which words are references. Condition: the classes are there. -/
namespace Go.Proofs.Ytnllpifnmbinmaa
open Go.RowKit
set_option linter.unusedVariables false
theorem validI_eq1 (c l : Int) : validI c 1 l = decide (0 ≤ c ∧ c ≤ 15 ∧ 0 ≤ l ∧ l ≤ 15) := by
  unfold validI
  rw [if_pos rfl, ← Bool.decide_and, ← Bool.decide_and, ← Bool.decide_and]
  exact decide_eq_decide.2 (by omega)
theorem validI_eq23 (c k l : Int) (hk : k = 2 ∨ k = 3) : validI c k l = decide (c = 0 ∧ 0 ≤ l ∧ l ≤ 255) := by
  unfold validI
  rw [if_neg (by omega), if_pos hk, ← Bool.decide_and, ← Bool.decide_and]

set_option maxHeartbeats 1000000 in
theorem isHead_any (c k l : Int) (w : World) :
    Calls Try.prog 20 #[.agg #[.int .i64 c, .int .i64 k, .int .i64 l]] w fun e w' => e = .returned (.bool (validI c k l)) ∧ Below w.heap.size w w' := by
  by_cases k1 : k = 1
  · subst k1
    by_cases h1 : 0 ≤ c
    · by_cases h2 : c ≤ 15
      · by_cases h3 : 0 ≤ l
        · have hb : validI c 1 l = decide (l ≤ 15) := by rw [validI_eq1]; exact decide_eq_decide.2 (by omega)
          rw [hb]; clear hb
          go_enter Try.func20, Try.ntmps20
          go_wp2
          go_ret
          exact ⟨rfl, (Below.refl _ _).alloc (Nat.le_refl _) _⟩
        · have hb : validI c 1 l = false := by rw [validI_eq1]; exact decide_eq_false (by omega)
          rw [hb]; clear hb
          go_enter Try.func20, Try.ntmps20
          go_wp2
          go_ret
          exact ⟨rfl, (Below.refl _ _).alloc (Nat.le_refl _) _⟩
      · have hb : validI c 1 l = false := by rw [validI_eq1]; exact decide_eq_false (by omega)
        rw [hb]; clear hb
        go_enter Try.func20, Try.ntmps20
        go_wp2
        go_ret
        exact ⟨rfl, (Below.refl _ _).alloc (Nat.le_refl _) _⟩
    · have hb : validI c 1 l = false := by rw [validI_eq1]; exact decide_eq_false (by omega)
      rw [hb]; clear hb
      go_enter Try.func20, Try.ntmps20
      go_wp2
      go_ret
      exact ⟨rfl, (Below.refl _ _).alloc (Nat.le_refl _) _⟩
  · by_cases hk : k = 2 ∨ k = 3
    · by_cases h1 : c = 0
      · subst h1
        by_cases h3 : 0 ≤ l
        · have hb : validI 0 k l = decide (l ≤ 255) := by rw [validI_eq23 _ _ _ hk]; exact decide_eq_decide.2 (by omega)
          rw [hb]; clear hb
          rcases hk with rfl | rfl
          all_goals
            go_enter Try.func20, Try.ntmps20
            go_wp2
            go_ret
            exact ⟨rfl, (Below.refl _ _).alloc (Nat.le_refl _) _⟩
        · have hb : validI 0 k l = false := by rw [validI_eq23 _ _ _ hk]; exact decide_eq_false (by omega)
          rw [hb]; clear hb
          rcases hk with rfl | rfl
          all_goals
            go_enter Try.func20, Try.ntmps20
            go_wp2
            go_ret
            exact ⟨rfl, (Below.refl _ _).alloc (Nat.le_refl _) _⟩
      · have hb : validI c k l = false := by rw [validI_eq23 _ _ _ hk]; exact decide_eq_false (by omega)
        rw [hb]; clear hb
        have hc : (c == 0) = false := beq_eq_false_iff_ne.2 h1
        clear h1
        rcases hk with rfl | rfl
        all_goals
          go_enter Try.func20, Try.ntmps20
          go_wp2
          go_ret
          exact ⟨rfl, (Below.refl _ _).alloc (Nat.le_refl _) _⟩
    · rw [show validI c k l = false by unfold validI; rw [if_neg k1, if_neg hk]]
      have e1 : (k == 1) = false := beq_eq_false_iff_ne.2 k1
      have e2 : (k == 2) = false := beq_eq_false_iff_ne.2 (by omega)
      have e3 : (k == 3) = false := beq_eq_false_iff_ne.2 (by omega)
      clear k1 hk
      go_enter Try.func20, Try.ntmps20
      go_wp2
      go_ret
      exact ⟨rfl, (Below.refl _ _).alloc (Nat.le_refl _) _⟩


set_option maxRecDepth 100000 in
set_option maxHeartbeats 1000000 in
theorem head_any (c k n : Int) (w : World) :
    Calls Try.prog 7 #[.agg #[.int .i64 c, .int .i64 k, .int .i64 n]] w fun e w' => e = .returned (.agg #[.int .i64 c, .int .i64 k, .int .i64 n]) ∧ Below w.heap.size w w' := by
  have k1 : Blk ((w.alloc (.cells #[.int .i64 c, .int .i64 k, .int .i64 n] 24)).alloc (.cells #[.int .i64 0, .int .i64 0, .int .i64 0] 37)) w.heap.size #[.int .i64 c, .int .i64 k, .int .i64 n] 24 := (Blk.new _ _ _).alloc _
  have k2 : Blk ((w.alloc (.cells #[.int .i64 c, .int .i64 k, .int .i64 n] 24)).alloc (.cells #[.int .i64 0, .int .i64 0, .int .i64 0] 37)) (w.heap.size + 1) #[.int .i64 0, .int .i64 0, .int .i64 0] 37 := Blk.new' (by simp)
  have hb0 : Below w.heap.size w ((w.alloc (.cells #[.int .i64 c, .int .i64 k, .int .i64 n] 24)).alloc (.cells #[.int .i64 0, .int .i64 0, .int .i64 0] 37)) := ((Below.refl _ _).alloc (Nat.le_refl _) _).alloc (by simp) _
  have y0 := k1.val 0 rfl
  have y1 := k1.val 1 rfl
  have y2 := k1.val 2 rfl
  have z0 := k2.val 0 rfl
  have z1 := k2.val 1 rfl
  have z2 := k2.val 2 rfl
  have f0 := k2.frozen 0
  have f1 := k2.frozen 1
  have f2 := k2.frozen 2
  have k3 : Blk ((w.alloc (.cells #[.int .i64 c, .int .i64 k, .int .i64 n] 24)).alloc (.cells #[.int .i64 c, .int .i64 k, .int .i64 n] 37)) (w.heap.size + 1) #[.int .i64 c, .int .i64 k, .int .i64 n] 37 := Blk.new' (by simp)
  have hb3 : Below w.heap.size w ((w.alloc (.cells #[.int .i64 c, .int .i64 k, .int .i64 n] 24)).alloc (.cells #[.int .i64 c, .int .i64 k, .int .i64 n] 37)) := ((Below.refl _ _).alloc (Nat.le_refl _) _).alloc (by simp) _
  have HB := Lib.hid hb3
  have K3 := Lib.hid k3
  clear k1 k2 hb0 hb3 k3
  go_enter Try.func7, Try.ntmps7
  go_wp2
  clear y0 y1 y2 z0 z1 z2
  have z0 := K3.out.val 0 rfl
  have z1 := K3.out.val 1 rfl
  have z2 := K3.out.val 2 rfl
  refine bodyPost_ret (v := .agg #[.int .i64 c, .int .i64 k, .int .i64 n]) (by simp [results, Try.results7, go_sem, z0, z1, z2]) rfl ⟨rfl, HB.out⟩
set_option maxRecDepth 100000 in
set_option maxHeartbeats 1000000 in
theorem rfits_any (w : World) (B : Nat) (v : Value) (cl : List ClsD) (c k n : Int) (h : RdRow 2 (ElC B) B w v cl) (hB : B ≤ w.heap.size) (hl : cl.length ≤ 16) (hf : ∀ d ∈ cl, d.fields.length ≤ 15) :
    Calls Try.prog 10 #[v, .agg #[.int .i64 c, .int .i64 k, .int .i64 n]] w fun e w' => e = .returned (.bool (fitI cl c k n)) ∧ Below w.heap.size w w' := by
  obtain ⟨a, q, rfl⟩ := rd_shape h
  have hb := (Below.refl w.heap.size w).alloc (Nat.le_refl _) (.cells #[.int .i64 c, .int .i64 k, .int .i64 n] 24)
  have k1 := Blk.new w #[.int .i64 c, .int .i64 k, .int .i64 n] 24
  have HB := Lib.hid hb
  have K1 := Lib.hid k1
  have y0 := k1.val 0 rfl
  have y1 := k1.val 1 rfl
  have y2 := k1.val 2 rfl
  have HR := Lib.hid (fun W (hb : Below w.heap.size w W) => h.keep (hb.mono hB) fun _ _ _ e r => r.keep (hb.mono hB) e)
  have hFV : fitI cl c k n = true → validI c k n = true := fun q => by
    unfold fitI at q
    split at q
    next e =>
      split at q
      next d hd =>
        have hm := List.mem_of_getElem? hd
        have h1 := hf d hm
        have h2 := (List.getElem?_eq_some_iff.1 hd).1
        simp at q
        unfold validI
        rw [if_pos e]
        simp
        omega
      next => cases q
    next e => exact q
  have IH := Lib.hid (isHead_any c k n (w.alloc (.cells #[.int .i64 c, .int .i64 k, .int .i64 n] 24)))
  clear h hb k1
  cases hv : validI c k n with
  | false =>
    have HX : Hid (fitI cl c k n = false) := by
      cases e : fitI cl c k n with
      | false => rfl
      | true => rw [hFV e] at hv; cases hv
    rw [hv] at IH
    clear hFV
    go_enter Try.func10, Try.ntmps10
    go_wp2_with fail
    refine IH.out.mono ?_
    rintro e w2 ⟨rfl, hb2⟩
    have HB2 := Lib.hid (HB.out.trans (hb2.mono HB.out.size))
    clear hb2
    go_wp2
    go_ret
    exact ⟨by rw [HX.out]; rfl, HB2.out⟩
  | true =>
    rw [hv] at IH
    by_cases hk : k = 1
    · subst hk
      have hv' := hv
      unfold validI at hv'
      simp at hv'
      obtain ⟨ci, rfl⟩ : ∃ ci : Nat, c = (ci : Int) := ⟨c.toNat, by omega⟩
      by_cases hc : ci < cl.length
      · have hc' : (ci : Int) < (cl.length : Int) := by omega
        have hc2 : decide ((ci : Int) < (cl.length : Int)) = true := by simpa using hc
        have i1 : (0 : Int) ≤ (ci : Int) ∧ (ci : Int) < (cl.length : Int) := ⟨by omega, by omega⟩
        have i2 : 0 < cl.length := by omega
        have HX := Lib.hid (fitI_at hc n)
        have EL := Lib.hid (fun W (hb : Below w.heap.size w W) => rd_at (HR.out W hb) hc)
        clear hFV hv' hv
        go_enter Try.func10, Try.ntmps10
        go_wp2_with fail
        refine IH.out.mono ?_
        rintro e w2 ⟨rfl, hb2⟩
        have hbb := HB.out.trans (hb2.mono HB.out.size)
        obtain ⟨b, o, rfl, _, e1, vf, e2, e3⟩ := EL.out w2 hbb
        obtain ⟨fa, fc, hvf⟩ := rd_shape e3
        subst hvf
        have HB2 := Lib.hid hbb
        have k1 := K1.out.grew hb2
        clear y0 y1 y2
        have y0 := k1.val 0 rfl
        have y1 := k1.val 1 rfl
        have y2 := k1.val 2 rfl
        generalize cl[ci] = d at *
        clear hb2 hbb k1 e3
        go_wp2_with fail
        go_quiet (fail)
        go_wp2
        go_ret
        exact ⟨by rw [HX.out]; rfl, HB2.out.trans ((Quiet.below ⟨nq, rfl⟩).mono HB2.out.size)⟩
      · have hc2 : decide ((ci : Int) < (cl.length : Int)) = false := by simpa using hc
        have HX : Hid (fitI cl ci 1 n = false) := fitI_no (by unfold atB; simp; omega) n
        clear hFV hv' hv
        go_enter Try.func10, Try.ntmps10
        go_wp2_with fail
        refine IH.out.mono ?_
        rintro e w2 ⟨rfl, hb2⟩
        have HB2 := Lib.hid (HB.out.trans (hb2.mono HB.out.size))
        have k1 := K1.out.grew hb2
        clear y0 y1 y2
        have y0 := k1.val 0 rfl
        have y1 := k1.val 1 rfl
        have y2 := k1.val 2 rfl
        clear hb2 k1
        go_wp2_with fail
        go_quiet (fail)
        go_wp2
        go_ret
        exact ⟨by rw [HX.out]; rfl, HB2.out.trans ((Quiet.below ⟨nq, rfl⟩).mono HB2.out.size)⟩
    · have hk' : (k != 1) = true := by simpa using hk
      have HX : Hid (fitI cl c k n = true) := by unfold Hid fitI; rw [if_neg hk]; exact hv
      clear hFV hv
      go_enter Try.func10, Try.ntmps10
      go_wp2_with fail
      refine IH.out.mono ?_
      rintro e w2 ⟨rfl, hb2⟩
      have HB2 := Lib.hid (HB.out.trans (hb2.mono HB.out.size))
      have k1 := K1.out.grew hb2
      clear y0 y1 y2
      have y1 := k1.val 1 rfl
      clear hb2 k1
      go_wp2
      go_ret
      exact ⟨by rw [HX.out]; rfl, HB2.out⟩
theorem isrI_eq {cl : List ClsD} {c k n i : Int} : isrI cl c k n i = (fitI cl c k n && (decide (0 ≤ i) && decide (i < n)) && refI cl c k i) := by
  unfold isrI ptrL ptrs
  cases hf : fitI cl c k n with
  | false => simp
  | true =>
    by_cases h0 : 0 ≤ i
    · obtain ⟨j, rfl⟩ : ∃ j : Nat, i = (j : Int) := ⟨i.toNat, by omega⟩
      by_cases h1 : (j : Int) < n
      · have h2 : j < n.toNat := by omega
        cases hr : refI cl c k (j : Int) with
        | true =>
          simp [h1]
          exact ⟨j, ⟨h1, hr⟩, rfl⟩
        | false =>
          simp [h1]
          intro x _ hx e
          obtain rfl : x = j := by omega
          rw [hr] at hx
          cases hx
      · simp [h1]
        intro q
        omega
    · simp [h0]
      intro x _ _ e
      omega
set_option maxRecDepth 100000 in
set_option maxHeartbeats 8000000 in
theorem risref_any (w : World) (B : Nat) (v : Value) (cl : List ClsD) (c k n i : Int) (h : RdRow 2 (ElC B) B w v cl) (hB : B ≤ w.heap.size) (hl : cl.length ≤ 16) (hf : ∀ d ∈ cl, d.fields.length ≤ 15) :
    Calls Try.prog 12 #[v, .agg #[.int .i64 c, .int .i64 k, .int .i64 n], .int .i64 i] w fun e w' => e = .returned (.bool (isrI cl c k n i)) ∧ Below w.heap.size w w' := by
  obtain ⟨a, q, rfl⟩ := rd_shape h
  have hb := (Below.refl w.heap.size w).alloc (Nat.le_refl _) (.cells #[.int .i64 c, .int .i64 k, .int .i64 n] 24)
  have k1 := Blk.new w #[.int .i64 c, .int .i64 k, .int .i64 n] 24
  have HB := Lib.hid hb
  have K1 := Lib.hid k1
  have y0 := k1.val 0 rfl
  have y1 := k1.val 1 rfl
  have y2 := k1.val 2 rfl
  have HR := Lib.hid (fun W (hb : Below w.heap.size w W) => h.keep (hb.mono hB) fun _ _ _ e r => r.keep (hb.mono hB) e)
  have FT := Lib.hid (rfits_any _ B _ cl c k n (HR.out _ hb) (Nat.le_trans hB hb.size) hl hf)
  have HQ := Lib.hid (@isrI_eq cl c k n i)
  clear h hb k1
  cases hft : fitI cl c k n with
  | false =>
    rw [hft] at FT HQ
    go_enter Try.func12, Try.ntmps12
    go_wp2_with fail
    refine FT.out.mono ?_
    rintro e w2 ⟨rfl, hb2⟩
    have HB2 := Lib.hid (HB.out.trans (hb2.mono HB.out.size))
    clear hb2
    go_wp2
    go_ret
    exact ⟨by rw [HQ.out]; rfl, HB2.out⟩
  | true =>
    rw [hft] at FT HQ
    by_cases h0 : i < 0
    · have HX : Hid (isrI cl c k n i = false) := by rw [Hid, HQ.out]; simp; omega
      go_enter Try.func12, Try.ntmps12
      go_wp2_with fail
      refine FT.out.mono ?_
      rintro e w2 ⟨rfl, hb2⟩
      have HB2 := Lib.hid (HB.out.trans (hb2.mono HB.out.size))
      clear hb2
      go_wp2
      go_ret
      exact ⟨by rw [HX.out]; rfl, HB2.out⟩
    by_cases h1 : n ≤ i
    · have HX : Hid (isrI cl c k n i = false) := by rw [Hid, HQ.out]; simp; omega
      go_enter Try.func12, Try.ntmps12
      go_wp2_with fail
      refine FT.out.mono ?_
      rintro e w2 ⟨rfl, hb2⟩
      have HB2 := Lib.hid (HB.out.trans (hb2.mono HB.out.size))
      have k1 := K1.out.grew hb2
      clear y0 y1 y2
      have y2 := k1.val 2 rfl
      clear hb2 k1
      go_wp2
      go_ret
      exact ⟨by rw [HX.out]; rfl, HB2.out⟩
    obtain ⟨j, rfl⟩ : ∃ j : Nat, i = (j : Int) := ⟨i.toNat, by omega⟩
    have HX : Hid (isrI cl c k n j = refI cl c k j) := by
      rw [Hid, HQ.out, show decide ((0 : Int) ≤ (j : Int)) = true by simp, show decide ((j : Int) < n) = true by simp; omega]
      rfl
    by_cases hk : k = 1
    · subst hk
      have hk' : ((1 : Int) == 1) = true := rfl
      unfold fitI at hft
      rw [if_pos rfl] at hft
      split at hft
      next d hd =>
        simp at hft
        obtain ⟨ci, rfl⟩ : ∃ ci : Nat, c = (ci : Int) := ⟨c.toNat, by omega⟩
        have hc : ci < cl.length := (List.getElem?_eq_some_iff.1 hd).1
        have hdd : cl[ci] = d := (List.getElem?_eq_some_iff.1 hd).2
        subst hdd
        have hj : j < cl[ci].fields.length := by omega
        have HY : Hid (refI cl ci 1 j = (cl[ci].fields[j].ty == 2)) := by
          unfold Hid refI
          rw [if_pos rfl, typeI_in hc hj]
          simp
          rfl
        have i1 : (0 : Int) ≤ (ci : Int) ∧ (ci : Int) < (cl.length : Int) := ⟨by omega, by omega⟩
        have i2 : 0 < cl.length := by omega
        have EL := Lib.hid (fun W (hb : Below w.heap.size w W) => rd_at (HR.out W hb) hc)
        have j1 : (0 : Int) ≤ (j : Int) ∧ (j : Int) < (cl[ci].fields.length : Int) := ⟨by omega, by omega⟩
        have j2 : 0 < cl[ci].fields.length := by omega
        have HJ := Lib.hid hj
        obtain ⟨z, HYz, HZ⟩ : ∃ z : FldD, Hid (refI cl ci 1 j = (z.ty == 2)) ∧ Hid (∀ h : j < cl[ci].fields.length, cl[ci].fields[j]'h = z) := ⟨_, HY, fun _ => rfl⟩
        clear HY
        have HY := HYz
        clear HYz
        clear hd HR
        generalize cl[ci] = d at *
        clear hft hf hl hc hj
        go_enter Try.func12, Try.ntmps12
        go_wp2_with fail
        refine FT.out.mono ?_
        rintro e w2 ⟨rfl, hb2⟩
        have hbb := HB.out.trans (hb2.mono HB.out.size)
        obtain ⟨b, o, rfl, _, e1, vf, e2, e3⟩ := EL.out w2 hbb
        obtain ⟨fa, fc, hvf⟩ := rd_shape e3
        subst hvf
        obtain ⟨b2, o2, rfl, _, q0, q1, q9⟩ := rd_at e3 HJ.out
        have HB2 := Lib.hid hbb
        have k1 := K1.out.grew hb2
        clear y0 y1 y2
        have y0 := k1.val 0 rfl
        have y1 := k1.val 1 rfl
        have y2 := k1.val 2 rfl
        clear hb2 hbb k1 e3
        rw [HZ.out] at q0 q1
        clear q9
        clear HZ HJ EL
        generalize d.fields.length = m1 at *
        go_wp2
        go_ret
        exact ⟨by rw [HX.out, HY.out]; rfl, HB2.out⟩
      next => cases hft
    · have hk' : (k == 1) = false := by simpa using hk
      have HY : Hid (refI cl c k j = (k == 3)) := by
        unfold Hid refI
        rw [if_neg hk]
        rfl
      go_enter Try.func12, Try.ntmps12
      go_wp2_with fail
      refine FT.out.mono ?_
      rintro e w2 ⟨rfl, hb2⟩
      have HB2 := Lib.hid (HB.out.trans (hb2.mono HB.out.size))
      have k1 := K1.out.grew hb2
      clear y0 y1 y2
      have y1 := k1.val 1 rfl
      have y2 := k1.val 2 rfl
      clear hb2 k1
      go_wp2
      go_ret
      exact ⟨by rw [HX.out, HY.out]; rfl, HB2.out⟩
end Go.Proofs.Ytnllpifnmbinmaa
/- The reference's Pointers. Condition: the classes are there. -/
namespace Go.Proofs.Ytnllpifnmbinmaa
open Go.RowKit
set_option linter.unusedVariables false
theorem fit_valid {cl : List ClsD} {c k n : Int} (hl : cl.length ≤ 16) (hf : ∀ d ∈ cl, d.fields.length ≤ 15) (q : fitI cl c k n = true) : validI c k n = true := by
  unfold fitI at q
  split at q
  next e =>
    split at q
    next d hd =>
      have hm := List.mem_of_getElem? hd
      have h1 := hf d hm
      have h2 := (List.getElem?_eq_some_iff.1 hd).1
      simp at q
      unfold validI
      rw [if_pos e]
      simp
      omega
    next => cases q
  next e => exact q
def natC (l : List Nat) : List Value := l.map fun j : Nat => Value.int .i64 (j : Int)
theorem info_intR : (Try.prog.info? 3).map (fun i => (i.zero, i.size, i.bytes)) = some (some (.int .i64 0), 1, 8) := by kernel_rfl
theorem ptrs_len (cl : List ClsD) (c k : Int) (m : Nat) : (ptrs cl c k m).length ≤ m := by
  unfold ptrs
  have := List.length_filter_le (fun i : Nat => refI cl c k (i : Nat)) (List.range m)
  simpa using this
set_option maxRecDepth 100000 in
set_option maxHeartbeats 4000000 in
theorem rpointers_any (w : World) (B : Nat) (v : Value) (cl : List ClsD) (c k n : Int) (h : RdRow 2 (ElC B) B w v cl) (hB : B ≤ w.heap.size) (hl : cl.length ≤ 16) (hf : ∀ d ∈ cl, d.fields.length ≤ 15) :
    Calls Try.prog 8 #[v, .agg #[.int .i64 c, .int .i64 k, .int .i64 n]] w fun e w' => ∃ u, e = .returned u ∧ w'.ownsRow w.heap.size 3 1 u (ptrL cl c k n).length (natC (ptrL cl c k n)) ∧ Below w.heap.size w w' := by
  obtain ⟨a, q, rfl⟩ := rd_shape h
  have hb := (Below.refl w.heap.size w).alloc (Nat.le_refl _) (.cells #[.int .i64 c, .int .i64 k, .int .i64 n] 24)
  have k1 := Blk.new w #[.int .i64 c, .int .i64 k, .int .i64 n] 24
  have HB := Lib.hid hb
  have K1 := Lib.hid k1
  have y0 := k1.val 0 rfl
  have y1 := k1.val 1 rfl
  have y2 := k1.val 2 rfl
  have HR := Lib.hid (fun W (hb : Below w.heap.size w W) => h.keep (hb.mono hB) fun _ _ _ e r => r.keep (hb.mono hB) e)
  have FT := Lib.hid (rfits_any _ B _ cl c k n (HR.out _ hb) (Nat.le_trans hB hb.size) hl hf)
  have FV := Lib.hid (@fit_valid cl c k n hl hf)
  have HS := Lib.hid hB
  have HLF := Lib.hid (And.intro hl hf)
  clear h hb k1 hl hf hB
  cases hft : fitI cl c k n with
  | false =>
    have HP : Hid (ptrL cl c k n = []) := by unfold Hid ptrL; rw [hft]; rfl
    rw [hft] at FT
    clear hft
    go_enter Try.func8, Try.ntmps8
    go_wp2_with fail
    refine FT.out.mono ?_
    rintro e w2 ⟨rfl, hb2⟩
    have HB2 := Lib.hid (HB.out.trans (hb2.mono HB.out.size))
    clear hb2
    go_wp2
    go_ret
    exact ⟨_, rfl, by rw [HP.out]; exact World.ownsRow_nil _ _ _ _, HB2.out⟩
  | true =>
    have hv := valid_len (FV.out hft)
    obtain ⟨N, rfl⟩ : ∃ N : Nat, n = (N : Int) := ⟨n.toNat, by omega⟩
    have HP : Hid (ptrL cl c k N = ptrs cl c k N) := by unfold Hid ptrL; rw [hft]; simp
    have HI : Hid (∀ i : Nat, i < N → isrI cl c k N i = refI cl c k i) := fun i hi => by
      rw [isrI_eq, hft, show decide ((0 : Int) ≤ (i : Int)) = true by simp, show decide ((i : Int) < (N : Int)) = true by simp; omega]
      rfl
    have hN : N ≤ 255 := by omega
    rw [hft] at FT
    obtain ⟨i0, Z⟩ := info_parts info_intR
    have Z := Lib.hid Z
    clear hft hv FV
    go_enter Try.func8, Try.ntmps8
    go_wp2_with fail
    refine FT.out.mono ?_
    rintro e w2 ⟨rfl, hb2⟩
    have k2 := K1.out.grew hb2
    have hb := HB.out.trans (hb2.mono HB.out.size)
    clear hb2 y0 y1 y2 HB FT K1
    go_wp2
    go_loopw [5, 6] (fun x y wr => ∃ (i : Nat) (u : Value), i ≤ N ∧ y = .int .i64 i ∧ u = x ∧ wr.ownsRow (w.heap.size + 1) 3 1 u (ptrs cl c k i).length (natC (ptrs cl c k i)) ∧ Blk wr w.heap.size #[.int .i64 c, .int .i64 k, .int .i64 N] 24 ∧ Below w.heap.size w wr) (fun _ y _ => N - (intOf y).toNat)
    case atStart => exact ⟨0, _, Nat.zero_le _, rfl, rfl, World.ownsRow_nil _ _ _ _, k2, hb⟩
    case round =>
      clear k2 hb
      obtain ⟨i, u, hi, rfl, rfl, ho, k2, hb⟩ := hrel
      have y0 := k2.val 0 rfl
      have y1 := k2.val 1 rfl
      have y2 := k2.val 2 rfl
      by_cases hlt : i < N
      · have hlt' : (i : Int) < (N : Int) := by omega
        have IR := risref_any wr B _ cl c k N i (HR.out _ hb) (Nat.le_trans HS.out hb.size) HLF.out.1 HLF.out.2
        rw [HI.out i hlt] at IR
        have IR := Lib.hid IR
        have HO := Lib.hid ho
        have HK := Lib.hid k2
        have HBW := Lib.hid hb
        clear ho k2 hb
        go_wp2_with fail
        refine IR.out.mono ?_
        rintro e w4 ⟨rfl, hb4⟩
        have ho := own_grewG HO.out hb4
        have k2 := HK.out.grew hb4
        have hb := HBW.out.trans (hb4.mono HBW.out.size)
        clear IR HO HK HBW hb4 y0 y1 y2
        cases hr : refI cl c k (i : Nat) with
        | false =>
          have HPN := Lib.hid (ptrs_no hr)
          have HE := Lib.hid (And.intro ho (And.intro k2 hb))
          clear ho k2 hb hr
          go_wp2
          go_roundw
          case rel => exact ⟨i + 1, _, by omega, by go_num, rfl, by rw [HPN.out]; exact HE.out.1, HE.out.2.1, HE.out.2.2⟩
          case measure => simp [intOf]; omega
        | true =>
          have HPN := Lib.hid (ptrs_yes hr)
          have hpl := ptrs_len cl c k i
          have hb5 := (Below.refl w4.heap.size w4).alloc (Nat.le_refl _) (.cells #[.int .i64 (i : Int)] 3)
          have kS := Blk.new w4 #[.int .i64 (i : Int)] 3
          have HO := Lib.hid (own_grewG ho hb5)
          have HE := Lib.hid (And.intro (k2.grew hb5) (hb.trans (hb5.mono hb.size)))
          have HKS := Lib.hid kS
          have HLT := Lib.hid hpl
          have HSZ := Lib.hid (Nat.le_trans (Nat.succ_le_of_lt k2.lt) hb5.size)
          clear ho k2 hb hr hb5 kS hpl
          go_wp2_with (at_builtin; refine wpList_append_own_at _ rfl _ _ 32 rfl (w.heap.size + 1) 3 i0 _ 1 8 Try.underlying32 Z.out.1 Z.out.2.1 Z.out.2.2.1 Z.out.2.2.2 rfl (by decide) u (ptrs cl c k i).length (natC (ptrs cl c k i)) rfl HO.out ⟨w4.heap.size, 0, none⟩ 1 1 [.int .i64 (i : Int)] rfl rfl (World.news_of_block HKS.out) (by simp [Value.oneCell']) (by have := HLT.out; unfold maxLen; omega) (by have := HLT.out; omega) HSZ.out ?_)
          intro u' w6 hown hgrow _ _
          have k2 := HE.out.1.of (hgrow.block _ HE.out.1.lt (fun e => by have := (own_ltG HO.out e.symm).1; omega))
          have hb := HE.out.2.grown hgrow HE.out.2.size (fun q hq => by have := (own_ltG HO.out hq).1; omega)
          have HF := Lib.hid (And.intro hown (And.intro k2 hb))
          clear hown hgrow k2 hb HE HO
          go_wp2
          go_roundw
          case rel => exact ⟨i + 1, _, by omega, by go_num, rfl, by rw [HPN.out]; unfold natC; rw [List.map_append, List.length_append]; exact HF.out.1, HF.out.2.1, HF.out.2.2⟩
          case measure => simp [intOf]; omega
      · have hlt' : ¬ (i : Int) < (N : Int) := by omega
        have hiN : i = N := by omega
        have HE := Lib.hid (And.intro ho hb)
        clear ho k2 hb
        go_wp2
        go_ret
        exact ⟨_, rfl, by rw [HP.out, ← hiN]; exact own_sub HE.out.1 (by omega), HE.out.2⟩
end Go.Proofs.Ytnllpifnmbinmaa
/- What Ints of the document returns at two slices of the same words. No condition. -/
namespace Go.Proofs.Ytnllpifnmbinmaa
open Go.RowKit
set_option maxHeartbeats 1000000 in
theorem ints_rows (b1 o1 c1 b2 o2 c2 n : Nat) (zs : List Int) (w : World) (h0 : 0 < n) (hm : n ≤ maxLen)
    (hc1 : Hid (∀ i, i < n → w.cell? ⟨b1, o1 + i, none⟩ = some (.int .i64 (zs.getD i 0)))) (hc2 : Hid (∀ i, i < n → w.cell? ⟨b2, o2 + i, none⟩ = some (.int .i64 (zs.getD i 0)))) :
    Calls Try.prog 13 #[.slice (some ⟨b1, o1, none⟩) n c1, .slice (some ⟨b2, o2, none⟩) n c2] w fun e w' => e = .returned (.bool true) ∧ Quiet w w' := by
  unfold maxLen at hm
  have hne : ((n : Int) != (n : Int)) = false := by simp
  go_enter Try.func13, Try.ntmps13
  go_wp2
  go_loopw [5] (fun i wr => ∃ k : Nat, k ≤ n ∧ i = .int .i64 k ∧ Quiet w wr) (fun i _ => n - (intOf i).toNat)
  case atStart => exact ⟨0, Nat.zero_le _, rfl, Quiet.refl _⟩
  case round =>
    obtain ⟨k, hk, rfl, hq⟩ := hrel
    by_cases hlt : k < n
    · have e1 := (hq.cell ⟨b1, o1 + k, none⟩).trans (hc1.out k hlt)
      have e2 := (hq.cell ⟨b2, o2 + k, none⟩).trans (hc2.out k hlt)
      have hlt' : (k : Int) < (n : Int) := by omega
      have hge' : (0 : Int) ≤ (k : Int) := by omega
      generalize zs.getD k 0 = V at *
      have hv : (V != V) = false := by simp
      go_wp2
      go_quiet (fail)
      go_wp2
      go_roundw
      case rel => exact ⟨k + 1, by omega, by go_num, hq.trans Quiet.drew⟩
      case measure => simp [intOf]; omega
    · go_wp2
      go_ret
      exact ⟨rfl, hq⟩
set_option maxHeartbeats 400000 in
theorem ints_none (a1 a2 : Option Addr) (c1 c2 : Nat) (w : World) :
    Calls Try.prog 13 #[.slice a1 0 c1, .slice a2 0 c2] w fun e w' => e = .returned (.bool true) ∧ Quiet w w' := by
  go_enter Try.func13, Try.ntmps13
  go_wp2
  go_loopw [5] (fun i wr => i = .int .i64 0 ∧ Quiet w wr) (fun _ _ => 0)
  case atStart => exact ⟨rfl, Quiet.refl _⟩
  case round =>
    obtain ⟨rfl, hq⟩ := hrel
    go_wp2
    go_ret
    exact ⟨rfl, hq⟩
theorem ints_any (v1 v2 : Value) (zs : List Int) (w : World) (h1 : Lst .i64 w v1 zs) (h2 : Lst .i64 w v2 zs) :
    Calls Try.prog 13 #[v1, v2] w fun e w' => e = .returned (.bool true) ∧ Quiet w w' := by
  rcases h1 with ⟨rfl, a1, c1, rfl⟩ | ⟨b1, o1, c1, rfl, hp1, hm1, hc1⟩
  · rcases h2 with ⟨_, a2, c2, rfl⟩ | ⟨b2, o2, c2, rfl, hp2, _⟩
    · exact ints_none a1 a2 c1 c2 w
    · exact absurd hp2 (by simp)
  · rcases h2 with ⟨rfl, a2, c2, rfl⟩ | ⟨b2, o2, c2, rfl, _, _, hc2⟩
    · exact absurd hp1 (by simp)
    · exact ints_rows b1 o1 c1 b2 o2 c2 zs.length zs w hp1 hm1 hc1 hc2

end Go.Proofs.Ytnllpifnmbinmaa
/- Boxes and rows of numbers, for the walk of ClassesMaps (out of WordBits' walk). No condition. -/
namespace Go.Proofs.Ytnllpifnmbinmaa
open Go.RowKit Go.Shelf
set_option linter.unusedVariables false
attribute [local go_sem] Oper.semAt_some
theorem ownsRow_low {W : World} {base base' : Nat} {e : TypeId} {size : Nat} {v : Value} {k : Nat} {xs : List Value} (h : W.ownsRow base e size v k xs) (hb : base' ≤ base) : W.ownsRow base' e size v k xs := by
  refine ⟨h.1, ?_⟩
  rcases h.2 with h1 | ⟨g, cap, cur, h1, h2, h3⟩
  · exact .inl h1
  · exact .inr ⟨g, cap, cur, h1, Nat.le_trans hb h2, h3⟩
/-- an element more, the slice in its box -/
theorem appended_touch {W w1 : World} {base B : Nat} {t e : TypeId} {v v' : Value} {k m : Nat} {xs ys : List Value} {tmp : Obj} (hv : Boxed W B t v) (hte : t ≠ e) (hrow : W.ownsRow base e 1 v k xs) (hown' : w1.ownsRow base e 1 v' m ys) (hgrow : (W.alloc tmp).grownBy w1 v.ownBlock) :
    Boxed w1 B t v ∧ Boxed (w1.setCell ⟨B, 0, none⟩ v') B t v' ∧ (w1.setCell ⟨B, 0, none⟩ v').ownsRow base e 1 v' m ys ∧ KeepsOthers W (w1.setCell ⟨B, 0, none⟩ v') ∧
    (∀ W0, Touch (· = B) W0 W → W0.heap.size ≤ base → Touch (· = B) W0 (w1.setCell ⟨B, 0, none⟩ v')) ∧
    (∀ n, n ≤ base → n ≤ W.heap.size → n ≤ B → Below n W (w1.setCell ⟨B, 0, none⟩ v')) := by
  obtain ⟨h1, h2, h3, h4, h5⟩ := hv.appended hte (ownsRow_low hrow (Nat.zero_le _)) (Nat.zero_le _) (Nat.zero_le _) (ownsRow_low hown' (Nat.zero_le _)) hgrow
  refine ⟨h1, h2, hown'.kept (grownBy_setCell' w1 B v') (.inr (h1.not_row hte hown').symm), h4, fun W0 ht hb => ?_, fun n h1 h2 h3 => (hv.appended hte (ownsRow_low hrow h1) h2 h3 (ownsRow_low hown' h1) hgrow).2.2.2.2⟩
  have ht2 := (ht.alloc tmp).grown hgrow (fun k hk => .inr (Nat.le_trans hb (hrow.lt k hk).1))
  exact ht2.setCell rfl _
theorem ownsRow_form {W : World} {base : Nat} {e : TypeId} {v : Value} {k : Nat} {xs : List Value} (h : W.ownsRow base e 1 v k xs) : ∃ a c, v = .slice a k c := by
  rcases h.2 with ⟨h1, h2⟩ | ⟨g, cap, cur, h1, _⟩
  · exact ⟨none, 0, by rw [h1, h2]⟩
  · exact ⟨_, cap, h1⟩
theorem Touch.at_below {B n : Nat} {w w' : World} (h : Touch (· = B) w w') (hn : n ≤ w.heap.size) (hB : n ≤ B) : Below n w w' := h.below hn (fun k hk => by omega)
theorem Boxed.touched {B b : Nat} {w w' : World} {t : TypeId} {v : Value} (h : Boxed w b t v) (ht : Touch (· = B) w w') (hne : b ≠ B) : Boxed w' b t v := (ht.block b h.lt hne).trans h
/-- a row of numbers isn't the box of a value that is no number -/
theorem Lst.touched {k : IntKind} {w w' : World} {v u : Value} {zs : List Int} {B : Nat} {t : TypeId} (h : Lst k w v zs) (hb : Boxed w B t u) (ht : Touch (· = B) w w') (hu : ∀ i, u ≠ .int k i := by intro i e; cases e) : Lst k w' v zs := by
  rcases h with h | ⟨b, off, cap, h1, h2, h3, h4⟩
  · exact .inl h
  · refine .inr ⟨b, off, cap, h1, h2, h3, fun i hi => ?_⟩
    have hc := h4 i hi
    have hlt := World.block_lt_of_cell? w _ hc
    have hne : b ≠ B := by
      intro e
      subst e
      rw [Blk.cell (cs := #[u]) (t := t) hb] at hc
      rcases Nat.eq_zero_or_pos (off + i) with h0 | h0
      · rw [h0] at hc
        simp at hc
        exact hu _ hc
      · rw [Array.getElem?_eq_none (by simp; omega)] at hc
        cases hc
    have he := ht.block b hlt hne
    unfold World.cell? at hc ⊢
    rw [he]
    exact hc
theorem own_subL {w : World} {base : Nat} {e : TypeId} {v : Value} {n : Nat} {zs q : List Int} (h : w.ownsRow base e 1 v n (zs.map (Value.int .i64))) (hn : zs.length = n) (hq : q <+: zs) : ∃ a c, v = .slice a n c ∧ n ≤ c ∧ Lst .i64 w (.slice a q.length c) q := by
  have hle := hq.length_le
  rcases h.2 with ⟨h1, h2⟩ | ⟨g, cap, cur, h1, h2, h3, h4, h5, h6⟩
  · have hq0 : q = [] := List.eq_nil_of_length_eq_zero (by omega)
    exact ⟨none, 0, by rw [h1, h2], by omega, .inl ⟨hq0, none, 0, by rw [hq0]; rfl⟩⟩
  · refine ⟨_, cap, h1, by omega, ?_⟩
    rcases Nat.eq_zero_or_pos q.length with h0 | h0
    · exact .inl ⟨List.eq_nil_of_length_eq_zero h0, _, cap, by rw [h0]⟩
    · refine .inr ⟨g, 0, cap, rfl, h0, by omega, fun i hi => ?_⟩
      subst h1
      have hc := h.cellAt i (by omega)
      obtain ⟨r, rfl⟩ := hq
      rw [Nat.zero_add, hc]
      simp [List.getD_eq_getElem?_getD, List.getElem?_append_left, hi]
theorem cell_set_ne {W : World} {B : Nat} {v : Value} {p : Addr} (h : p.block ≠ B) : (W.setCell ⟨B, 0, none⟩ v).cell? p = W.cell? p := by
  unfold World.cell?
  rw [Below.heap_setCell _ _ _ _ h]
section
variable {B : Nat} {w3 W W' : World} {p r : Addr} {x y : Value} {t : TypeId}
theorem bkeep (h : (W.cell? p = some x ∧ W.cell? r = some y) ∧ Touch (· = B) w3 W ∧ ∃ u, Boxed W B t (.bool u)) (hq : Quiet W W') : (W'.cell? p = some x ∧ W'.cell? r = some y) ∧ Touch (· = B) w3 W' ∧ ∃ u, Boxed W' B t (.bool u) :=
  ⟨⟨(hq.cell _).trans h.1.1, (hq.cell _).trans h.1.2⟩, h.2.1.trans (.of hq.below), h.2.2.elim fun u hu => ⟨u, Blk.quiet hu hq⟩⟩
theorem bset (h : (W.cell? p = some x ∧ W.cell? r = some y) ∧ Touch (· = B) w3 W ∧ ∃ u, Boxed W B t (.bool u)) {u : Bool} (hp : p.block ≠ B) (hr : r.block ≠ B) : ((W.setCell ⟨B, 0, none⟩ (.bool u)).cell? p = some x ∧ (W.setCell ⟨B, 0, none⟩ (.bool u)).cell? r = some y) ∧ Touch (· = B) w3 (W.setCell ⟨B, 0, none⟩ (.bool u)) ∧ ∃ u', Boxed (W.setCell ⟨B, 0, none⟩ (.bool u)) B t (.bool u') :=
  ⟨⟨(cell_set_ne hp).trans h.1.1, (cell_set_ne hr).trans h.1.2⟩, h.2.1.setCell rfl _, h.2.2.elim fun _ hu => ⟨u, hu.set _⟩⟩
theorem blst {v : Value} {zs : List Int} {b0 : Bool} (h : (W.cell? p = some x ∧ W.cell? r = some y) ∧ Touch (· = B) w3 W ∧ ∃ u, Boxed W B t (.bool u)) (hl : Lst .i64 w3 v zs) (hb : Boxed w3 B t (.bool b0)) : Lst .i64 W v zs := hl.touched hb h.2.1
end
theorem ownFrom_touch {β : Type} {R : Nat → Prop} {B : Nat} {W0 : World} (hB : W0.heap.size ≤ B) : OwnFrom B (fun (_ : β) W => Touch R W0 W) :=
  fun s W W' row h hg hr => h.grown hg (fun k hk => .inr (Nat.le_trans hB (hr k hk).1))

end Go.Proofs.Ytnllpifnmbinmaa
