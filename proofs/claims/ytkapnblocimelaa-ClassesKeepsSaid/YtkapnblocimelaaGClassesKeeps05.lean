/- Texts of this seat, one behind the other: each says at its head what it holds. No condition of its own. -/
import Derived.Deep.QuietTactic
import Derived.BigQuiet
import Derived.Lib.Strings
import Derived.Laws.StructEq
import Derived.Test.YtkapnblocimelaaGClassesKeeps04
/- IsRef; the law's own example. Condition: the table is there. -/
namespace Go.Proofs.Ytkapnblocimelaa
open Go.RowKit Go.Shelf
set_option linter.unusedVariables false
attribute [local go_sem] Oper.semAt_some
def isrI (cl : List ClsD) (c k n i : Int) : Bool := decide (∃ j ∈ ptrL cl c k n, ((j : Nat) : Int) = i)
theorem isr_hit {cl : List ClsD} {c k n i : Int} {pre : List Nat} {x : Nat} (h : (pre ++ [x]) <+: ptrL cl c k n) (hx : ((x : Nat) : Int) = i) : isrI cl c k n i = true := by
  unfold isrI
  simp only [decide_eq_true_eq]
  exact ⟨x, h.subset (by simp), hx⟩
theorem isr_miss {cl : List ClsD} {c k n i : Int} (h : ∀ x ∈ ptrL cl c k n, ((x : Nat) : Int) ≠ i) : isrI cl c k n i = false := by
  unfold isrI
  simp only [decide_eq_false_iff_not]
  rintro ⟨j, hj, e⟩
  exact h j hj e
set_option maxRecDepth 100000 in
set_option maxHeartbeats 4000000 in
theorem isref_any (w : World) (lo t m : Nat) (v : Value) (L : List (ClsD × Value × Nat)) (c k q i : Int) (hT : TabS w lo t v m L) :
    Calls Try.prog 29 #[.pointer (some ⟨t, 0, none⟩), .agg #[.int .i64 c, .int .i64 k, .int .i64 q], .int .i64 i] w fun e w' => e = .returned (.bool (isrI (L.map (·.1)) c k q i)) ∧ Below w.heap.size w w' := by
  have hM : Hid ((∀ x ∈ ptrL (L.map (·.1)) c k q, ((x : Nat) : Int) ≠ i) → isrI (L.map (·.1)) c k q i = false) := fun h => isr_miss h
  have hH : Hid (∀ (pre : List Nat) (x : Nat), (pre ++ [x]) <+: ptrL (L.map (·.1)) c k q → ((x : Nat) : Int) = i → isrI (L.map (·.1)) c k q i = true) := fun _ _ h e => isr_hit h e
  have HT := Lib.hid (fun W (hb : Below w.heap.size w W) => hT.grew hb)
  clear hT
  refine (callsIn_wide (n := 9)).1 ?_
  refine callsIn_of_wp_marks Try.func29 rfl trivial ?_ rfl
  simp only [Try.ntmps29, List.size_toArray, List.length_cons, List.length_nil, Nat.reduceAdd, Nat.reduceSub, Array.replicate_succ, Array.replicate_zero, List.push_toArray, List.append_toArray, List.nil_append, List.cons_append]
  have b0 : Blk (((w.alloc (.cells #[.int .i64 c, .int .i64 k, .int .i64 q] 49)).alloc (.cells #[.int .i64 i] 3)).alloc (.cells #[.bool false] 4)) w.heap.size #[.int .i64 c, .int .i64 k, .int .i64 q] 49 := ((Blk.new _ _ _).alloc _).alloc _
  have b1 : Blk (((w.alloc (.cells #[.int .i64 c, .int .i64 k, .int .i64 q] 49)).alloc (.cells #[.int .i64 i] 3)).alloc (.cells #[.bool false] 4)) (w.heap.size + 1) #[.int .i64 i] 3 := (Blk.new' (by simp)).alloc _
  have b2 : Blk (((w.alloc (.cells #[.int .i64 c, .int .i64 k, .int .i64 q] 49)).alloc (.cells #[.int .i64 i] 3)).alloc (.cells #[.bool false] 4)) (w.heap.size + 2) #[.bool false] 4 := Blk.new' (by simp)
  have hB0 : Below w.heap.size w (((w.alloc (.cells #[.int .i64 c, .int .i64 k, .int .i64 q] 49)).alloc (.cells #[.int .i64 i] 3)).alloc (.cells #[.bool false] 4)) := (((Below.refl _ w).alloc (Nat.le_refl _) _).alloc (by simp) _).alloc (by simp; omega) _
  have hsz : (((w.alloc (.cells #[.int .i64 c, .int .i64 k, .int .i64 q] 49)).alloc (.cells #[.int .i64 i] 3)).alloc (.cells #[.bool false] 4)).heap.size = w.heap.size + 3 := by simp
  have y0 := b0.val 0 rfl
  have y1 := b0.val 1 rfl
  have y2 := b0.val 2 rfl
  have KA := Lib.hid (And.intro b0 (And.intro b1 (And.intro b2 (And.intro hB0 hsz))))
  clear b0 b1 b2 hB0 hsz
  gi_wp2_with fail
  obtain ⟨b0, b1, b2, hB0, hsz⟩ := KA.out
  clear KA y0 y1 y2
  generalize World.alloc _ _ = W0 at *
  refine ⟨trivial, ?_⟩
  refine (callsIn_wide.2 (pointers_any _ _ _ _ _)).mono ?_
  rintro e w2 ⟨rfl, rfl⟩
  gi_wp2_with fail
  have b0 := (b0.alloc (.cells #[.pointer (some ⟨t, 0, none⟩)] 25)).alloc (.cells #[.int .i64 c, .int .i64 k, .int .i64 q] 49)
  have b1 := (b1.alloc (.cells #[.pointer (some ⟨t, 0, none⟩)] 25)).alloc (.cells #[.int .i64 c, .int .i64 k, .int .i64 q] 49)
  have b2 := (b2.alloc (.cells #[.pointer (some ⟨t, 0, none⟩)] 25)).alloc (.cells #[.int .i64 c, .int .i64 k, .int .i64 q] 49)
  have b3 : Blk ((W0.alloc (.cells #[.pointer (some ⟨t, 0, none⟩)] 25)).alloc (.cells #[.int .i64 c, .int .i64 k, .int .i64 q] 49)) W0.heap.size #[.pointer (some ⟨t, 0, none⟩)] 25 := (Blk.new _ _ _).alloc _
  have b4 : Blk ((W0.alloc (.cells #[.pointer (some ⟨t, 0, none⟩)] 25)).alloc (.cells #[.int .i64 c, .int .i64 k, .int .i64 q] 49)) (W0.heap.size + 1) #[.int .i64 c, .int .i64 k, .int .i64 q] 49 := Blk.new' (by simp)
  have hB2 : Below w.heap.size w ((W0.alloc (.cells #[.pointer (some ⟨t, 0, none⟩)] 25)).alloc (.cells #[.int .i64 c, .int .i64 k, .int .i64 q] 49)) := (hB0.alloc (by omega) _).alloc (by simp; omega) _
  have hs2 : ((W0.alloc (.cells #[.pointer (some ⟨t, 0, none⟩)] 25)).alloc (.cells #[.int .i64 c, .int .i64 k, .int .i64 q] 49)).heap.size = w.heap.size + 5 := by simp; omega
  rw [hsz] at b3 b4
  generalize World.alloc (World.alloc _ _) _ = W2 at *
  have c1 := b1.val 0 rfl
  have c2 := b2.val 0 rfl
  have f2 := b2.frozen 0
  have HKK : ∀ W, Below W2.heap.size W2 W → TabS W lo t v m L ∧ W.cell? ⟨w.heap.size + 3, 0, none⟩ = some (.pointer (some ⟨t, 0, none⟩)) ∧ W.cell? ⟨w.heap.size + 3 + 1, 0, none⟩ = some (.int .i64 c) ∧ W.cell? ⟨w.heap.size + 3 + 1, 1, none⟩ = some (.int .i64 k) ∧ W.cell? ⟨w.heap.size + 3 + 1, 2, none⟩ = some (.int .i64 q) := fun W hb =>
    ⟨HT.out W (hB2.trans (hb.mono (by omega))), (b3.grew hb).val 0 rfl, (b4.grew hb).val 0 rfl, (b4.grew hb).val 1 rfl, (b4.grew hb).val 2 rfl⟩
  refine wpIn_rangeFunc_ownF rfl (by omega) (gf := 41) (lb := #[.pointer (some ⟨w.heap.size + 3, 0, none⟩), .pointer (some ⟨w.heap.size + 3 + 1, 0, none⟩)]) rfl trivial (enters_of Try.func41 (by kernel_rfl) rfl)
    (ptr_stops 8 (by omega) (w.heap.size + 3) (w.heap.size + 3 + 1) W2.heap.size lo t m v L c k q W2 (Nat.le_refl _) HKK) belowK_t (belowK_b (by omega)) (Below.refl _ _) (fun _ => rfl)
    (fun pre W => (Hid (∀ z ∈ pre, ((z : Nat) : Int) ≠ i) ∧ W.cell? ⟨w.heap.size + 1, 0, none⟩ = some (.int .i64 i) ∧ W.cell? ⟨w.heap.size + 2, 0, none⟩ = some (.bool false) ∧ W.frozen? ⟨w.heap.size + 2, 0, none⟩ = false) ∧ Below w.heap.size w W)
    (fun cc pre W => (cc = .ret ∧ (∃ q y, Hid (pre = q ++ [y]) ∧ Hid (((y : Nat) : Int) = i) ∧ W.cell? ⟨w.heap.size + 2, 0, none⟩ = some (.bool true))) ∧ Below w.heap.size w W)
    (OwnFrom.and (Own.from (fun s A B row hs hg hr => ⟨hs.1, cell_kept hs.2.1 hg hr, cell_kept hs.2.2.1 hg hr, (frozen_kept hs.2.2.1 hg hr).trans hs.2.2.2⟩) _) (ownFrom_below (Nat.le_refl _) (by omega)))
    (fun cc => OwnFrom.and (Own.from (fun s A B row hs hg hr => by obtain ⟨h1, q, y, h2, h3, h5⟩ := hs; exact ⟨h1, q, y, h2, h3, cell_kept h5 hg hr⟩) _) (ownFrom_below (Nat.le_refl _) (by omega)))
    ⟨⟨by unfold Hid; simp, c1, c2, f2⟩, hB2⟩
    (fun x => { tmps := #[.pointer (some ⟨t, 0, none⟩), .agg #[.int .i64 c, .int .i64 k, .int .i64 q], .int .i64 i, undef, .pointer (some ⟨w.heap.size, 0, none⟩), .pointer (some ⟨w.heap.size + 1, 0, none⟩), .pointer (some ⟨w.heap.size + 1 + 1, 0, none⟩), .int .i64 (x : Nat),
      .pointer (some ⟨t, 0, none⟩), .agg #[.int .i64 c, .int .i64 k, .int .i64 q], .func (.func 41) #[] #[.pointer (some ⟨w.heap.size + 3, 0, none⟩), .pointer (some ⟨w.heap.size + 3 + 1, 0, none⟩)], .int .i64 (x : Nat), undef, undef, undef], defers := [] }) ?assign ?body ?done ?stop
  case assign =>
    intro l i W K hK
    gi_wp2
    exact hK
  case body =>
    rintro l pre x W ⟨⟨hp, hc1, hc2, hf2⟩, hB⟩ _
    by_cases hx : ((x : Nat) : Int) = i
    · have e : (((x : Nat) : Int) == i) = true := by simpa using hx
      have HX := Lib.hid hx
      clear hx
      gi_wp2
      exact ⟨KeepsOthers.setCell _ _ _, ⟨rfl, pre, x, Lib.hid rfl, HX, World.cell?_setCell_same' _ _ _ (by rw [hc2]; rfl)⟩, hB.setCell (p := ⟨w.heap.size + 2, 0, none⟩) (by simp) _⟩
    · have e : (((x : Nat) : Int) == i) = false := by simpa using hx
      have HX := Lib.hid hx
      clear hx
      gi_wp2
      refine ⟨KeepsOthers.refl _, Below.refl _ _, ⟨?_, hc1, hc2, hf2⟩, hB⟩
      unfold Hid
      intro z hz
      rcases List.mem_append.1 hz with h | h
      · exact hp.out z h
      · rw [List.mem_singleton.1 h]; exact HX.out
  case done =>
    rintro D ys W hD hys ⟨⟨hp, _, hc2, hf2⟩, hB⟩ hK
    have hs := Lib.hid (hM.out (by rw [← hys]; exact hp.out))
    gi_wp2
    have hK' := (KeepsOthers.setCell W ⟨w.heap.size + 2, 0, none⟩ (.bool false)).same D _ hK rfl
    refine ⟨by simp, .inl ⟨_, _, rfl, run_takeDeferred hK', ?_⟩⟩
    have hc5 := cell_kept (World.cell?_setCell_same' W ⟨w.heap.size + 2, 0, none⟩ (.bool false) (by rw [hc2]; rfl)) (grownBy_putObj' _ D (.deferred none)) (fun r e => by cases e; exact ⟨_, hK', rfl⟩)
    refine ⟨.bool false, ?_, by rw [hs.out], (hB.setCell (p := ⟨w.heap.size + 2, 0, none⟩) (by simp) _).trans (belowK_b (w := w) (Nat.le_refl _) _ D _ _ (by omega) hK' rfl rfl)⟩
    simp [results, Try.f29, go_sem, hc5]
  case stop =>
    rintro D cc pre W hD hpre ⟨⟨rfl, q, y, h1, h3, hc2⟩, hB⟩ hK
    have hs := Lib.hid (hH.out q y (by rw [← h1.out]; exact hpre) h3.out)
    gi_wp2
    refine ⟨by simp, .inl ⟨_, _, rfl, run_takeDeferred hK, ?_⟩⟩
    have hc5 := cell_kept hc2 (grownBy_putObj' _ D (.deferred none)) (fun r e => by cases e; exact ⟨_, hK, rfl⟩)
    refine ⟨.bool true, ?_, by rw [hs.out], hB.trans (belowK_b (w := w) (Nat.le_refl _) W D _ _ (by omega) hK rfl rfl)⟩
    simp [results, Try.f29, go_sem, hc5]
end Go.Proofs.Ytkapnblocimelaa
/- The law's own example: a class's references are told. No condition. -/
namespace Go.Proofs.Ytkapnblocimelaa
open Go.RowKit
set_option linter.unusedVariables false
def fld0 : FldD := ⟨⟨#[110, 101, 120, 116]⟩, 2⟩
def fld1 : FldD := ⟨⟨#[110]⟩, 1⟩
def cls0 : ClsD := ⟨⟨#[110, 111, 100, 101]⟩, [fld0, fld1]⟩
theorem tab0 : tabE [cls0] = (0, 0) := by decide +kernel
theorem isr0 : isrI [cls0] 0 1 2 0 = true := by decide +kernel
theorem isr1 : isrI [cls0] 0 1 2 1 = false := by decide +kernel
theorem isr2 : isrI [cls0] 0 3 3 2 = true := by decide +kernel
theorem cls0_rd (w : World) : RdRow 2 (ElC (w.heap.size + 2)) (w.heap.size + 2) ((w.alloc (.cells #[.string ⟨#[110, 101, 120, 116]⟩, .int .i64 2, .string ⟨#[110]⟩, .int .i64 1] 72)).alloc (.cells #[.string ⟨#[110, 111, 100, 101]⟩, .slice (some ⟨w.heap.size, 0, none⟩) 2 2] 34)) (.slice (some ⟨w.heap.size + 1, 0, none⟩) 1 1) [cls0] := by
  have k1 : Blk ((w.alloc (.cells #[.string ⟨#[110, 101, 120, 116]⟩, .int .i64 2, .string ⟨#[110]⟩, .int .i64 1] 72)).alloc (.cells #[.string ⟨#[110, 111, 100, 101]⟩, .slice (some ⟨w.heap.size, 0, none⟩) 2 2] 34)) w.heap.size #[.string ⟨#[110, 101, 120, 116]⟩, .int .i64 2, .string ⟨#[110]⟩, .int .i64 1] 72 := (Blk.new _ _ _).alloc _
  have k2 : Blk ((w.alloc (.cells #[.string ⟨#[110, 101, 120, 116]⟩, .int .i64 2, .string ⟨#[110]⟩, .int .i64 1] 72)).alloc (.cells #[.string ⟨#[110, 111, 100, 101]⟩, .slice (some ⟨w.heap.size, 0, none⟩) 2 2] 34)) (w.heap.size + 1) #[.string ⟨#[110, 111, 100, 101]⟩, .slice (some ⟨w.heap.size, 0, none⟩) 2 2] 34 := Blk.new' (by simp)
  refine ⟨some ⟨w.heap.size + 1, 0, none⟩, 1, rfl, by unfold maxLen; simp, fun i hi => ⟨w.heap.size + 1, 0, rfl, by omega, ?_⟩⟩
  obtain rfl : i = 0 := by simpa using hi
  refine ⟨k2.val 0 rfl, _, k2.val 1 rfl, some ⟨w.heap.size, 0, none⟩, 2, rfl, by unfold maxLen; simp [cls0], fun j hj => ⟨w.heap.size, 0, rfl, by omega, ?_⟩⟩
  match j, hj with
  | 0, _ => exact ⟨k1.val 0 rfl, k1.val 1 rfl, (show I64 (2 : Int) from ⟨by omega, by omega⟩)⟩
  | 1, _ => exact ⟨k1.val 2 rfl, k1.val 3 rfl, (show I64 (1 : Int) from ⟨by omega, by omega⟩)⟩
  | j + 2, h => exact absurd h (by simp [cls0])
set_option maxRecDepth 100000 in
set_option maxHeartbeats 4000000 in
theorem classed_any (w : World) : Calls Try.prog 9 #[] w fun e w' => e = .returned (.bool true) ∧ Below w.heap.size w w' := by
  have hb0 : Below w.heap.size w ((w.alloc (.cells #[.string ⟨#[110, 101, 120, 116]⟩, .int .i64 2, .string ⟨#[110]⟩, .int .i64 1] 72)).alloc (.cells #[.string ⟨#[110, 111, 100, 101]⟩, .slice (some ⟨w.heap.size, 0, none⟩) 2 2] 34)) := ((Below.refl _ _).alloc (Nat.le_refl _) _).alloc (by simp) _
  have NW := Lib.hid (new_any _ _ _ _ (cls0_rd w) (by simp))
  have HB := Lib.hid hb0
  clear hb0
  go_enter Try.func9, Try.ntmps9
  go_wp2_with fail
  refine NW.out.mono ?_
  rintro e w1 ⟨hb1, hcase⟩
  rcases hcase with ⟨hne, _⟩ | ⟨_, t, v, m, L, rfl, hT, hL⟩
  · exact absurd (by rw [tab0]) hne
  have hlen : L.length = 1 := by have := congrArg List.length hL; simpa using this
  have B1 := Lib.hid (HB.out.trans (hb1.mono HB.out.size))
  have HD := Lib.hid (thead_yes w1 _ t m v L 0 hT (by omega))
  have hfl : (L[0]'(by omega)).1.fields.length = 2 := by
    have : (L[0]'(by omega)).1 = cls0 := by
      have h1 : (L.map (·.1))[0]? = some cls0 := by rw [hL]; rfl
      rw [List.getElem?_map, List.getElem?_eq_getElem (by omega)] at h1
      simpa using h1
    rw [this]; rfl
  rw [hfl] at HD
  have HT := Lib.hid (fun W (hb : Below w1.heap.size w1 W) => hT.grew hb)
  have HL := Lib.hid hL
  have HN := Lib.hid hlen
  clear hT hL hlen hfl hb1 NW
  go_wp2_with fail
  refine HD.out.mono ?_
  rintro e w2 ⟨rfl, hb2⟩
  have hb3 := (Below.refl w2.heap.size w2).alloc (Nat.le_refl _) (.cells #[.int .i64 0, .int .i64 1, .int .i64 2] 49)
  have k1 := Blk.new w2 #[.int .i64 0, .int .i64 1, .int .i64 2] 49
  have hb3' := hb2.trans (hb3.mono hb2.size)
  have I0 := Lib.hid (isref_any _ _ t m v L 0 1 2 0 (HT.out _ hb3'))
  rw [HL.out, isr0] at I0
  have HB3 := Lib.hid hb3'
  have K1 := Lib.hid k1
  have z0 := k1.val 0 rfl
  have z1 := k1.val 1 rfl
  have z2 := k1.val 2 rfl
  clear hb2 hb3 hb3' k1 HD
  go_wp2_with fail
  refine I0.out.mono ?_
  rintro e w4 ⟨rfl, hb4⟩
  have hb4' := HB3.out.trans (hb4.mono HB3.out.size)
  have I1 := Lib.hid (isref_any _ _ t m v L 0 1 2 1 (HT.out _ hb4'))
  rw [HL.out, isr1] at I1
  have k1 := K1.out.grew hb4
  clear z0 z1 z2
  have z0 := k1.val 0 rfl
  have z1 := k1.val 1 rfl
  have z2 := k1.val 2 rfl
  have HB4 := Lib.hid hb4'
  clear hb4 hb4' k1 I0
  go_wp2_with fail
  refine I1.out.mono ?_
  rintro e w5 ⟨rfl, hb5⟩
  have hb5' := HB4.out.trans (hb5.mono HB4.out.size)
  have CN := Lib.hid (count_any w5 _ t m v L (HT.out _ hb5'))
  rw [HN.out] at CN
  have I2 := Lib.hid (isref_any w5 _ t m v L 0 3 3 2 (HT.out _ hb5'))
  rw [HL.out, isr2] at I2
  have HB5 := Lib.hid hb5'
  clear hb5 hb5' I1 z0 z1 z2
  go_wp2_with fail
  refine CN.out.mono ?_
  rintro e w6 ⟨rfl, rfl⟩
  go_wp2_with fail
  refine I2.out.mono ?_
  rintro e w7 ⟨rfl, hb7⟩
  have HB7 := Lib.hid (B1.out.trans ((HB5.out.trans (hb7.mono HB5.out.size)).mono B1.out.size))
  clear hb7
  go_wp2
  go_ret
  exact ⟨rfl, HB7.out⟩
end Go.Proofs.Ytkapnblocimelaa
/- The document's Name; the law ClassesNames. No condition. -/
namespace Go.Proofs.Ytkapnblocimelaa
open Go.RowKit
set_option linter.unusedVariables false
set_option maxRecDepth 100000 in
set_option maxHeartbeats 2000000 in
theorem rname_any (s : ByteArray) (w : World) :
    Calls Try.prog 11 #[.string s] w fun e w' => e = .returned (.bool (nameB s.data.toList)) ∧ w' = w := by
  have hl : s.data.toList.length = s.size := by simp
  have hd : ∀ i (h : i < s.data.toList.length), s.data.toList[i] = s[i]'(by omega) := fun i h => by simp; rfl
  by_cases h1 : s.size < 1
  · have h1' : (s.size : Int) < 1 := by omega
    have HB : Hid (nameB s.data.toList = false) := by
      unfold Hid nameB
      rw [decide_eq_false (p := 1 ≤ s.data.toList.length) (by omega)]
      rfl
    clear hl hd
    go_enter Try.func11, Try.ntmps11
    go_wp2
    go_ret
    exact ⟨ret_b HB.out, rfl⟩
  have h1' : ¬ (s.size : Int) < 1 := by omega
  by_cases h2 : 16 < s.size
  · have h2' : (16 : Int) < (s.size : Int) := by omega
    have HB : Hid (nameB s.data.toList = false) := by
      unfold Hid nameB
      rw [decide_eq_true (p := 1 ≤ s.data.toList.length) (by omega), decide_eq_false (p := s.data.toList.length ≤ 16) (by omega)]
      rfl
    clear hl hd
    go_enter Try.func11, Try.ntmps11
    go_wp2
    go_ret
    exact ⟨ret_b HB.out, rfl⟩
  have h2' : ¬ (16 : Int) < (s.size : Int) := by omega
  have HB : Hid (nameB s.data.toList = decide (∀ i (h : i < s.size), chB i s[i] = true)) := by
    unfold Hid nameB
    rw [decide_eq_true (p := 1 ≤ s.data.toList.length) (by omega), decide_eq_true (p := s.data.toList.length ≤ 16) (by omega), Bool.true_and, Bool.true_and]
    refine decide_eq_decide.2 ?_
    exact ⟨fun q i h => by have := q i (by omega); rwa [hd] at this, fun q i h => by rw [hd]; exact q i (by omega)⟩
  clear hl hd
  go_enter Try.func11, Try.ntmps11
  go_wp2
  go_loop [3] (fun x => ∃ i : Nat, i ≤ s.size ∧ x = .int .i64 i ∧ ∀ j (h : j < s.size), j < i → chB j s[j] = true) (fun x => s.size - (intOf x).toNat)
  case atStart => exact ⟨0, by omega, rfl, fun j _ h => absurd h (by omega)⟩
  case round =>
    obtain ⟨i, hi, rfl, hj⟩ := hrel
    have HJ := Lib.hid hj
    clear hj
    by_cases hlt : i < s.size
    · have hlt' : (i : Int) < (s.size : Int) := by omega
      have i1 : (0 : Int) ≤ (i : Int) ∧ (i : Int) < (s.size : Int) := ⟨by omega, by omega⟩
      have HC : Hid (∀ (h : i < s.size), chB i s[i] = (letrI ((s[i]'hlt).toNat : Int) || (decide (0 < i) && laterI ((s[i]'hlt).toNat : Int)))) := fun _ => rfl
      have HT : Hid (chB i s[i] = true → ∀ j (h : j < s.size), j < i + 1 → chB j s[j] = true) := fun hc j h hj => by
        rcases Nat.lt_or_ge j i with q | q
        · exact HJ.out j h q
        · obtain rfl : j = i := by omega
          exact hc
      have HF : Hid (chB i s[i] = false → nameB s.data.toList = false) := fun hc => by
        rw [HB.out]
        simp only [decide_eq_false_iff_not]
        intro q
        have := q i hlt
        rw [hc] at this
        cases this
      have HE := Lib.hid (HC.out hlt)
      clear HC
      by_cases q0 : ((s[i]'hlt).toNat : Int) < 48
      · have hq := True.intro
        have h97 : ¬ (97 : Int) ≤ ((s[i]'hlt).toNat : Int) := by omega
        have h65 : ¬ (65 : Int) ≤ ((s[i]'hlt).toNat : Int) := by omega
        have h48 : ¬ (48 : Int) ≤ ((s[i]'hlt).toNat : Int) := by omega
        have h122 : ((s[i]'hlt).toNat : Int) ≤ (122 : Int) := by omega
        have h90 : ((s[i]'hlt).toNat : Int) ≤ (90 : Int) := by omega
        have h57 : ((s[i]'hlt).toNat : Int) ≤ (57 : Int) := by omega
        have e95 : (((s[i]'hlt).toNat : Int) == 95) = false := by simp; omega
        have hb : letrI ((s[i]'hlt).toNat : Int) = false := by unfold letrI; simp [h97, h122, h65, h90]; try omega
        have hd : laterI ((s[i]'hlt).toNat : Int) = false := by unfold laterI; simp [h48, h57]; try omega
        have HX := Lib.hid (HF.out (by rw [HE.out, hb, hd]; simp))
        clear hb hd hq
        go_wp2
        go_ret
        exact ⟨ret_b HX.out, rfl⟩
      by_cases q1 : ((s[i]'hlt).toNat : Int) ≤ 57
      · have hq := True.intro
        have h97 : ¬ (97 : Int) ≤ ((s[i]'hlt).toNat : Int) := by omega
        have h65 : ¬ (65 : Int) ≤ ((s[i]'hlt).toNat : Int) := by omega
        have h48 : (48 : Int) ≤ ((s[i]'hlt).toNat : Int) := by omega
        have h122 : ((s[i]'hlt).toNat : Int) ≤ (122 : Int) := by omega
        have h90 : ((s[i]'hlt).toNat : Int) ≤ (90 : Int) := by omega
        have h57 : ((s[i]'hlt).toNat : Int) ≤ (57 : Int) := by omega
        have e95 : (((s[i]'hlt).toNat : Int) == 95) = false := by simp; omega
        have hb : letrI ((s[i]'hlt).toNat : Int) = false := by unfold letrI; simp [h97, h122, h65, h90]; try omega
        have hd : laterI ((s[i]'hlt).toNat : Int) = true := by unfold laterI; simp [h48, h57]; try omega
        by_cases h0 : i = 0
        · have h0' : ((i : Int) == 0) = true := by simp [h0]
          have HX := Lib.hid (HF.out (by rw [HE.out, hb]; simp [h0]))
          clear hb hd h0 hq
          go_wp2
          go_ret
          exact ⟨ret_b HX.out, rfl⟩
        · have h0' : ((i : Int) == 0) = false := by simp [h0]
          have HX := Lib.hid (HT.out (by rw [HE.out, hb, hd]; simp; omega))
          clear hb hd h0 hq
          go_wp2
          go_round
          case rel => exact ⟨i + 1, by omega, by go_num, HX.out⟩
          case measure => simp [intOf]; omega
      by_cases q2 : ((s[i]'hlt).toNat : Int) < 65
      · have hq := True.intro
        have h97 : ¬ (97 : Int) ≤ ((s[i]'hlt).toNat : Int) := by omega
        have h65 : ¬ (65 : Int) ≤ ((s[i]'hlt).toNat : Int) := by omega
        have h48 : (48 : Int) ≤ ((s[i]'hlt).toNat : Int) := by omega
        have h122 : ((s[i]'hlt).toNat : Int) ≤ (122 : Int) := by omega
        have h90 : ((s[i]'hlt).toNat : Int) ≤ (90 : Int) := by omega
        have h57 : ¬ ((s[i]'hlt).toNat : Int) ≤ (57 : Int) := by omega
        have e95 : (((s[i]'hlt).toNat : Int) == 95) = false := by simp; omega
        have hb : letrI ((s[i]'hlt).toNat : Int) = false := by unfold letrI; simp [h97, h122, h65, h90]; try omega
        have hd : laterI ((s[i]'hlt).toNat : Int) = false := by unfold laterI; simp [h48, h57]; try omega
        have HX := Lib.hid (HF.out (by rw [HE.out, hb, hd]; simp))
        clear hb hd hq
        go_wp2
        go_ret
        exact ⟨ret_b HX.out, rfl⟩
      by_cases q3 : ((s[i]'hlt).toNat : Int) ≤ 90
      · have hq := True.intro
        have h97 : ¬ (97 : Int) ≤ ((s[i]'hlt).toNat : Int) := by omega
        have h65 : (65 : Int) ≤ ((s[i]'hlt).toNat : Int) := by omega
        have h48 : (48 : Int) ≤ ((s[i]'hlt).toNat : Int) := by omega
        have h122 : ((s[i]'hlt).toNat : Int) ≤ (122 : Int) := by omega
        have h90 : ((s[i]'hlt).toNat : Int) ≤ (90 : Int) := by omega
        have h57 : ¬ ((s[i]'hlt).toNat : Int) ≤ (57 : Int) := by omega
        have e95 : (((s[i]'hlt).toNat : Int) == 95) = false := by simp; omega
        have hb : letrI ((s[i]'hlt).toNat : Int) = true := by unfold letrI; simp [h97, h122, h65, h90]
        have hd : laterI ((s[i]'hlt).toNat : Int) = false := by unfold laterI; simp [h48, h57]; try omega
        have HX := Lib.hid (HT.out (by rw [HE.out, hb]; simp))
        clear hb hd hq
        go_wp2
        go_round
        case rel => exact ⟨i + 1, by omega, by go_num, HX.out⟩
        case measure => simp [intOf]; omega
      by_cases q4 : ((s[i]'hlt).toNat : Int) < 95
      · have hq := True.intro
        have h97 : ¬ (97 : Int) ≤ ((s[i]'hlt).toNat : Int) := by omega
        have h65 : (65 : Int) ≤ ((s[i]'hlt).toNat : Int) := by omega
        have h48 : (48 : Int) ≤ ((s[i]'hlt).toNat : Int) := by omega
        have h122 : ((s[i]'hlt).toNat : Int) ≤ (122 : Int) := by omega
        have h90 : ¬ ((s[i]'hlt).toNat : Int) ≤ (90 : Int) := by omega
        have h57 : ¬ ((s[i]'hlt).toNat : Int) ≤ (57 : Int) := by omega
        have e95 : (((s[i]'hlt).toNat : Int) == 95) = false := by simp; omega
        have hb : letrI ((s[i]'hlt).toNat : Int) = false := by unfold letrI; simp [h97, h122, h65, h90]; try omega
        have hd : laterI ((s[i]'hlt).toNat : Int) = false := by unfold laterI; simp [h48, h57]; try omega
        have HX := Lib.hid (HF.out (by rw [HE.out, hb, hd]; simp))
        clear hb hd hq
        go_wp2
        go_ret
        exact ⟨ret_b HX.out, rfl⟩
      by_cases q5 : ((s[i]'hlt).toNat : Int) = 95
      · have hq := True.intro
        have h97 : ¬ (97 : Int) ≤ ((s[i]'hlt).toNat : Int) := by omega
        have h65 : (65 : Int) ≤ ((s[i]'hlt).toNat : Int) := by omega
        have h48 : (48 : Int) ≤ ((s[i]'hlt).toNat : Int) := by omega
        have h122 : ((s[i]'hlt).toNat : Int) ≤ (122 : Int) := by omega
        have h90 : ¬ ((s[i]'hlt).toNat : Int) ≤ (90 : Int) := by omega
        have h57 : ¬ ((s[i]'hlt).toNat : Int) ≤ (57 : Int) := by omega
        have e95 : (((s[i]'hlt).toNat : Int) == 95) = true := by simp; omega
        have hb : letrI ((s[i]'hlt).toNat : Int) = false := by unfold letrI; simp [h97, h122, h65, h90]; try omega
        have hd : laterI ((s[i]'hlt).toNat : Int) = true := by unfold laterI; simp [h48, h57]; try omega
        by_cases h0 : i = 0
        · have h0' : ((i : Int) == 0) = true := by simp [h0]
          have HX := Lib.hid (HF.out (by rw [HE.out, hb]; simp [h0]))
          clear hb hd h0 hq
          go_wp2
          go_ret
          exact ⟨ret_b HX.out, rfl⟩
        · have h0' : ((i : Int) == 0) = false := by simp [h0]
          have HX := Lib.hid (HT.out (by rw [HE.out, hb, hd]; simp; omega))
          clear hb hd h0 hq
          go_wp2
          go_round
          case rel => exact ⟨i + 1, by omega, by go_num, HX.out⟩
          case measure => simp [intOf]; omega
      by_cases q6 : ((s[i]'hlt).toNat : Int) < 97
      · have hq := True.intro
        have h97 : ¬ (97 : Int) ≤ ((s[i]'hlt).toNat : Int) := by omega
        have h65 : (65 : Int) ≤ ((s[i]'hlt).toNat : Int) := by omega
        have h48 : (48 : Int) ≤ ((s[i]'hlt).toNat : Int) := by omega
        have h122 : ((s[i]'hlt).toNat : Int) ≤ (122 : Int) := by omega
        have h90 : ¬ ((s[i]'hlt).toNat : Int) ≤ (90 : Int) := by omega
        have h57 : ¬ ((s[i]'hlt).toNat : Int) ≤ (57 : Int) := by omega
        have e95 : (((s[i]'hlt).toNat : Int) == 95) = false := by simp; omega
        have hb : letrI ((s[i]'hlt).toNat : Int) = false := by unfold letrI; simp [h97, h122, h65, h90]; try omega
        have hd : laterI ((s[i]'hlt).toNat : Int) = false := by unfold laterI; simp [h48, h57]; try omega
        have HX := Lib.hid (HF.out (by rw [HE.out, hb, hd]; simp))
        clear hb hd hq
        go_wp2
        go_ret
        exact ⟨ret_b HX.out, rfl⟩
      by_cases q7 : ((s[i]'hlt).toNat : Int) ≤ 122
      · have hq := True.intro
        have h97 : (97 : Int) ≤ ((s[i]'hlt).toNat : Int) := by omega
        have h65 : (65 : Int) ≤ ((s[i]'hlt).toNat : Int) := by omega
        have h48 : (48 : Int) ≤ ((s[i]'hlt).toNat : Int) := by omega
        have h122 : ((s[i]'hlt).toNat : Int) ≤ (122 : Int) := by omega
        have h90 : ¬ ((s[i]'hlt).toNat : Int) ≤ (90 : Int) := by omega
        have h57 : ¬ ((s[i]'hlt).toNat : Int) ≤ (57 : Int) := by omega
        have e95 : (((s[i]'hlt).toNat : Int) == 95) = false := by simp; omega
        have hb : letrI ((s[i]'hlt).toNat : Int) = true := by unfold letrI; simp [h97, h122, h65, h90]
        have hd : laterI ((s[i]'hlt).toNat : Int) = false := by unfold laterI; simp [h48, h57]; try omega
        have HX := Lib.hid (HT.out (by rw [HE.out, hb]; simp))
        clear hb hd hq
        go_wp2
        go_round
        case rel => exact ⟨i + 1, by omega, by go_num, HX.out⟩
        case measure => simp [intOf]; omega
      have hq := True.intro
      have h97 : (97 : Int) ≤ ((s[i]'hlt).toNat : Int) := by omega
      have h65 : (65 : Int) ≤ ((s[i]'hlt).toNat : Int) := by omega
      have h48 : (48 : Int) ≤ ((s[i]'hlt).toNat : Int) := by omega
      have h122 : ¬ ((s[i]'hlt).toNat : Int) ≤ (122 : Int) := by omega
      have h90 : ¬ ((s[i]'hlt).toNat : Int) ≤ (90 : Int) := by omega
      have h57 : ¬ ((s[i]'hlt).toNat : Int) ≤ (57 : Int) := by omega
      have e95 : (((s[i]'hlt).toNat : Int) == 95) = false := by simp; omega
      have hb : letrI ((s[i]'hlt).toNat : Int) = false := by unfold letrI; simp [h97, h122, h65, h90]; try omega
      have hd : laterI ((s[i]'hlt).toNat : Int) = false := by unfold laterI; simp [h48, h57]; try omega
      have HX := Lib.hid (HF.out (by rw [HE.out, hb, hd]; simp))
      clear hb hd hq
      go_wp2
      go_ret
      exact ⟨ret_b HX.out, rfl⟩
    · have hlt' : ¬ (i : Int) < (s.size : Int) := by omega
      have HG : Hid (nameB s.data.toList = true) := by
        unfold Hid
        rw [HB.out]
        simp only [decide_eq_true_eq]
        exact fun j h => HJ.out j h (by omega)
      go_wp2
      go_ret
      exact ⟨ret_b HG.out, rfl⟩
set_option maxRecDepth 100000 in
set_option maxHeartbeats 1000000 in
theorem cnames_law (s : ByteArray) (w : World) :
    Calls Try.prog 3 #[.string s] w fun e w' => e = .returned (.bool true) ∧ Below w.heap.size w w' := by
  go_enter Try.func3, Try.ntmps3
  go_wp2_with fail
  refine (classed_any _).mono ?_
  rintro e w1 ⟨rfl, hb1⟩
  have HB := Lib.hid hb1
  clear hb1
  go_wp2_with (first | (go_at_call 10; refine (isname_any _ _).mono ?_; rintro e w' ⟨rfl, rfl⟩) | (go_at_call 11; refine (rname_any _ _).mono ?_; rintro e w' ⟨rfl, rfl⟩))
  go_ret
  exact ⟨ret_b (by simp), HB.out⟩
end Go.Proofs.Ytkapnblocimelaa
/- The document's Check of classes. Condition: the classes are there. -/
namespace Go.Proofs.Ytkapnblocimelaa
open Go.RowKit
set_option linter.unusedVariables false
def fldsR (l : List FldD) : Int := if 15 < l.length then 3 else fldsE [] l
theorem nm_yes {a b : ByteArray} (h : nmB a = nmB b) : (a.toList == b.toList) = true := by rw [Lib.toList_data, Lib.toList_data]; simpa using h
theorem nm_no {a b : ByteArray} (h : nmB a ≠ nmB b) : (a.toList == b.toList) = false := by rw [Lib.toList_data, Lib.toList_data]; simpa using h
theorem fnames_mem {l : List FldD} {i : Nat} {s : Nm} : s ∈ fnames (l.take i) ↔ ∃ j, ∃ (h : j < l.length), j < i ∧ nmB l[j].name = s := by
  unfold fnames
  rw [List.mem_map]
  constructor
  · rintro ⟨f, hf, rfl⟩
    obtain ⟨j, hj, rfl⟩ := List.getElem_of_mem hf
    rw [List.length_take] at hj
    exact ⟨j, by omega, by omega, by rw [List.getElem_take]⟩
  · rintro ⟨j, h1, h2, rfl⟩
    exact ⟨l[j], List.mem_take_iff_getElem.2 ⟨j, by omega, rfl⟩, rfl⟩
set_option maxRecDepth 100000 in
set_option maxHeartbeats 8000000 in
theorem rfields_any (w : World) (B : Nat) (v : Value) (l : List FldD) (h : RdRow 2 ElF B w v l) (hB : B ≤ w.heap.size) :
    Calls Try.prog 37 #[v] w fun e w' => e = .returned (.int .i64 (fldsR l)) ∧ Below w.heap.size w w' := by
  obtain ⟨a, q, rfl⟩ := rd_shape h
  by_cases h15 : 15 < l.length
  · have h15' : (15 : Int) < (l.length : Int) := by omega
    have HE : Hid (fldsR l = 3) := by unfold Hid fldsR; rw [if_pos h15]
    clear h
    go_enter Try.func37, Try.ntmps37
    go_wp2
    go_ret
    exact ⟨by rw [HE.out]; rfl, Below.refl _ _⟩
  have h15' : ¬ (15 : Int) < (l.length : Int) := by omega
  have HR : Hid (fldsR l = fldsE [] l) := by unfold Hid fldsR; rw [if_neg h15]
  have R1 := Lib.hid (fun W (hb : Below w.heap.size w W) i (hi : i < l.length) => rd_at (h.keep (hb.mono hB) fun _ _ _ e r => r.keep (hb.mono hB) e) hi)
  have hlen : l.length ≤ 15 := by omega
  clear h hB h15
  go_enter Try.func37, Try.ntmps37
  go_wp2
  go_loopw [3] (fun x wr => ∃ i : Nat, i ≤ l.length ∧ x = .int .i64 i ∧ fldsE [] (l.take i) = 0 ∧ Below w.heap.size w wr) (fun x _ => l.length - (intOf x).toNat)
  case atStart => exact ⟨0, Nat.zero_le _, rfl, rfl, Below.refl _ _⟩
  case round =>
    obtain ⟨i, hi, rfl, h0, hb⟩ := hrel
    by_cases hlt : i < l.length
    · have hlt' : (i : Int) < (l.length : Int) := by omega
      have i1 : (0 : Int) ≤ (i : Int) ∧ (i : Int) < (l.length : Int) := ⟨by omega, by omega⟩
      have i2 : 0 < l.length := by omega
      obtain ⟨b, o, rfl, _, e1, e2, _⟩ := R1.out wr hb i hlt
      have HN1 : Hid (∀ x, fldsE (fnames (l.take i)) [l[i]] = x → x ≠ 0 → fldsR l = x) := fun x hx hn => HR.out.trans (fldsE_bad' hlt h0 hx hn)
      have HN2 : Hid (fldsE (fnames (l.take i)) [l[i]] = 0 → fldsE [] (l.take (i + 1)) = 0) := fun hx => fldsE_next' hlt h0 hx
      cases hn : nameB (nmB (l[i]'hlt).name) with
      | false =>
        have HX := Lib.hid (HN1.out 20 (by rw [fldsE, if_pos hn]) (by decide))
        clear h0
        go_wp2_with (go_at_call 11; refine (rname_any _ _).mono ?_; rintro e w' ⟨rfl, rfl⟩)
        go_ret
        exact ⟨by rw [HX.out]; rfl, hb⟩
      | true =>
        clear h0
        have HNM := Lib.hid hn
        have HBW := Lib.hid hb
        go_wp2_with (go_at_call 11; refine (rname_any _ _).mono ?_; rintro e w' ⟨rfl, rfl⟩)
        go_loopw [4] (fun x wr2 => ∃ k : Nat, k ≤ i ∧ x = .int .i64 k ∧ (∀ j (hj : j < l.length), j < k → nmB l[j].name ≠ nmB (l[i]'hlt).name) ∧ Below w.heap.size w wr2) (fun x _ => i - (intOf x).toNat)
        case atStart => exact ⟨0, Nat.zero_le _, rfl, fun j _ h => absurd h (by omega), hb⟩
        case round =>
          clear hb e1 e2
          obtain ⟨k, hk, rfl, hne, hb⟩ := hrel
          obtain ⟨b', o', hbo, _, e1, e2, _⟩ := R1.out _ hb i hlt
          obtain ⟨rfl, rfl⟩ : b = b' ∧ o = o' := by simpa using hbo
          by_cases hkt : k < i
          · have hkt' : (k : Int) < (i : Int) := by omega
            have hkl : k < l.length := by omega
            have j1 : (0 : Int) ≤ (k : Int) ∧ (k : Int) < (l.length : Int) := ⟨by omega, by omega⟩
            obtain ⟨b', o', hbo, _, d1, d2, _⟩ := R1.out _ hb k hkl
            obtain ⟨rfl, rfl⟩ : b = b' ∧ o = o' := by simpa using hbo
            have hlb := World.block_lt_of_cell? _ _ d1
            have z1 : decide (0 < (l.length : Int)) = true := by simp; omega
            by_cases hnn : nmB (l[k]'hkl).name = nmB (l[i]'hlt).name
            · have hx := nm_yes hnn
              have HX := Lib.hid (HN1.out 41 (by rw [fldsE, if_neg (by rw [HNM.out]; decide), if_pos (fnames_mem.2 ⟨k, hkl, hkt, hnn⟩)]) (by decide))
              clear hnn hne
              go_wp2_with fail
              go_quiet (fail)
              go_wp2
              go_ret
              exact ⟨by rw [HX.out]; rfl, hb.trans ((Quiet.below ⟨_, rfl⟩).mono hb.size)⟩
            · have hx := nm_no hnn
              have HX : Hid (∀ j (hj : j < l.length), j < k + 1 → nmB l[j].name ≠ nmB (l[i]'hlt).name) := fun j hj hjk => by
                rcases Nat.lt_or_ge j k with h | h
                · exact hne j hj h
                · obtain rfl : j = k := by omega
                  exact hnn
              clear hnn hne
              go_wp2_with fail
              go_quiet (fail)
              go_wp2
              go_roundw
              case rel => exact ⟨k + 1, by omega, by go_num, HX.out, hb.trans ((Quiet.below ⟨_, rfl⟩).mono hb.size)⟩
              case measure => simp [intOf]; omega
          · have hkt' : ¬ (k : Int) < (i : Int) := by omega
            have hnot : ¬ nmB (l[i]'hlt).name ∈ fnames (l.take i) := by
              rw [fnames_mem]
              rintro ⟨j, h1, h2, h3⟩
              exact hne j h1 (by omega) h3
            have hty : fldsE (fnames (l.take i)) [l[i]'hlt] = (if (l[i]'hlt).ty ≠ 1 ∧ (l[i]'hlt).ty ≠ 2 then 32 else 0) := by
              rw [fldsE, if_neg (by rw [HNM.out]; decide), if_neg hnot, fldsE]
            clear hnot hne
            by_cases t1 : (l[i]'hlt).ty = 1
            · have t1' : ((l[i]'hlt).ty != 1) = false := by simp [t1]
              have HG := Lib.hid (HN2.out (by rw [hty, if_neg (by omega)]))
              clear t1 hty
              go_wp2
              go_roundw
              case rel => exact ⟨i + 1, by omega, by go_num, HG.out, hb⟩
              case measure => simp [intOf]; omega
            · have t1' : ((l[i]'hlt).ty != 1) = true := by simpa using t1
              by_cases t2 : (l[i]'hlt).ty = 2
              · have t2' : ((l[i]'hlt).ty != 2) = false := by simp [t2]
                have HG := Lib.hid (HN2.out (by rw [hty, if_neg (by omega)]))
                clear t1 t2 hty
                go_wp2
                go_roundw
                case rel => exact ⟨i + 1, by omega, by go_num, HG.out, hb⟩
                case measure => simp [intOf]; omega
              · have t2' : ((l[i]'hlt).ty != 2) = true := by simpa using t2
                have HX := Lib.hid (HN1.out 32 (by rw [hty, if_pos ⟨t1, t2⟩]) (by decide))
                clear t1 t2 hty
                go_wp2
                go_ret
                exact ⟨by rw [HX.out]; rfl, hb⟩
    · have hlt' : ¬ (i : Int) < (l.length : Int) := by omega
      have hi' : i = l.length := by omega
      rw [hi', List.take_length] at h0
      have HX := Lib.hid (HR.out.trans h0)
      clear h0
      go_wp2
      go_ret
      exact ⟨by rw [HX.out]; rfl, hb⟩
end Go.Proofs.Ytkapnblocimelaa
/- The document's Check of classes, its walk. Condition: the classes are there. -/
namespace Go.Proofs.Ytkapnblocimelaa
open Go.RowKit
set_option linter.unusedVariables false
theorem cnames_mem {l : List ClsD} {i : Nat} {s : Nm} : s ∈ cnames (l.take i) ↔ ∃ j, ∃ (h : j < l.length), j < i ∧ nmB l[j].name = s := by
  unfold cnames
  rw [List.mem_map]
  constructor
  · rintro ⟨f, hf, rfl⟩
    obtain ⟨j, hj, rfl⟩ := List.getElem_of_mem hf
    rw [List.length_take] at hj
    exact ⟨j, by omega, by omega, by rw [List.getElem_take]⟩
  · rintro ⟨j, h1, h2, rfl⟩
    exact ⟨l[j], List.mem_take_iff_getElem.2 ⟨j, by omega, rfl⟩, rfl⟩
theorem newE_zero' : ∀ (l : List ClsD) (i : Nat) (seen : List Nm), (newE i seen l).2 = 0 → newE i seen l = (0, 0)
  | [], i, seen, _ => rfl
  | c :: r, i, seen, h => by
    rw [newE] at h ⊢
    by_cases e : clsE seen c = 0
    · rw [if_pos e] at h ⊢
      exact newE_zero' r _ _ h
    · rw [if_neg e] at h
      exact absurd h e
theorem newE_zero {l : List ClsD} (h : (newE 0 [] l).2 = 0) : newE 0 [] l = (0, 0) := newE_zero' l 0 [] h
set_option maxRecDepth 100000 in
set_option maxHeartbeats 8000000 in
theorem rcheck_any (w : World) (B : Nat) (v : Value) (l : List ClsD) (h : RdRow 2 (ElC B) B w v l) (hB : B ≤ w.heap.size) :
    Calls Try.prog 13 #[v] w fun e w' => e = .returned (.tuple #[.int .i64 (tabE l).1, .int .i64 (tabE l).2]) ∧ Below w.heap.size w w' := by
  obtain ⟨a, q, rfl⟩ := rd_shape h
  by_cases h16 : 16 < l.length
  · have h16' : (16 : Int) < (l.length : Int) := by omega
    have HE : Hid (tabE l = (0, 3)) := by unfold Hid tabE; rw [if_pos h16]
    clear h
    go_enter Try.func13, Try.ntmps13
    go_wp2
    refine bodyPost_ret (v := .tuple #[.int .i64 0, .int .i64 3]) (by simp [results, Try.results13, go_sem]) rfl ⟨by rw [HE.out]; rfl, Below.refl _ _⟩
  have h16' : ¬ (16 : Int) < (l.length : Int) := by omega
  have HR : Hid (tabE l = newE 0 [] l) := by unfold Hid tabE; rw [if_neg h16]
  have R1 := Lib.hid (fun W (hb : Below w.heap.size w W) i (hi : i < l.length) => rd_at (h.keep (hb.mono hB) fun _ _ _ e r => r.keep (hb.mono hB) e) hi)
  have HB := Lib.hid hB
  have hlen : l.length ≤ 16 := by omega
  clear h hB h16
  go_enter Try.func13, Try.ntmps13
  go_wp2
  go_loopw [4] (fun x wr => ∃ i : Nat, i ≤ l.length ∧ x = .int .i64 i ∧ (newE 0 [] (l.take i)).2 = 0 ∧ Below w.heap.size w wr) (fun x _ => l.length - (intOf x).toNat)
  case atStart => exact ⟨0, Nat.zero_le _, rfl, rfl, Below.refl _ _⟩
  case round =>
    obtain ⟨i, hi, rfl, h0, hb⟩ := hrel
    by_cases hlt : i < l.length
    · have hlt' : (i : Int) < (l.length : Int) := by omega
      have i1 : (0 : Int) ≤ (i : Int) ∧ (i : Int) < (l.length : Int) := ⟨by omega, by omega⟩
      have i2 : 0 < l.length := by omega
      obtain ⟨b, o, rfl, _, e1, vf, e2, _⟩ := R1.out wr hb i hlt
      have HN1 : Hid (∀ x, clsE (cnames (l.take i)) l[i] = x → x ≠ 0 → tabE l = (i, x)) := fun x hx hn => HR.out.trans (newE_bad hlt h0 hx hn)
      have HN2 : Hid (clsE (cnames (l.take i)) l[i] = 0 → (newE 0 [] (l.take (i + 1))).2 = 0) := fun hx => newE_next hlt h0 hx
      cases hn : nameB (nmB (l[i]'hlt).name) with
      | false =>
        have HX := Lib.hid (HN1.out 20 (by unfold clsE; rw [if_pos hn]) (by decide))
        clear h0
        go_wp2_with (go_at_call 11; refine (rname_any _ _).mono ?_; rintro e w' ⟨rfl, rfl⟩)
        refine bodyPost_ret (v := .tuple #[.int .i64 i, .int .i64 20]) (by simp [results, Try.results13, go_sem]) rfl ⟨by rw [HX.out], hb⟩
      | true =>
        clear h0
        have HNM := Lib.hid hn
        go_wp2_with (go_at_call 11; refine (rname_any _ _).mono ?_; rintro e w' ⟨rfl, rfl⟩)
        go_loopw [5] (fun x wr2 => ∃ k : Nat, k ≤ i ∧ x = .int .i64 k ∧ (∀ j (hj : j < l.length), j < k → nmB l[j].name ≠ nmB (l[i]'hlt).name) ∧ Below w.heap.size w wr2) (fun x _ => i - (intOf x).toNat)
        case atStart => exact ⟨0, Nat.zero_le _, rfl, fun j _ h => absurd h (by omega), hb⟩
        case round =>
          clear hb e1 e2
          obtain ⟨k, hk, rfl, hne, hb⟩ := hrel
          obtain ⟨b', o', hbo, _, e1, vf2, e2, e3⟩ := R1.out _ hb i hlt
          obtain ⟨rfl, rfl⟩ : b = b' ∧ o = o' := by simpa using hbo
          by_cases hkt : k < i
          · have hkt' : (k : Int) < (i : Int) := by omega
            have hkl : k < l.length := by omega
            have j1 : (0 : Int) ≤ (k : Int) ∧ (k : Int) < (l.length : Int) := ⟨by omega, by omega⟩
            obtain ⟨b', o', hbo, _, d1, _, d2, _⟩ := R1.out _ hb k hkl
            obtain ⟨rfl, rfl⟩ : b = b' ∧ o = o' := by simpa using hbo
            have z1 : decide (0 < (l.length : Int)) = true := by simp; omega
            clear e3
            by_cases hnn : nmB (l[k]'hkl).name = nmB (l[i]'hlt).name
            · have hx := nm_yes hnn
              have HX := Lib.hid (HN1.out 41 (by unfold clsE; rw [if_neg (by rw [HNM.out]; decide), if_pos (cnames_mem.2 ⟨k, hkl, hkt, hnn⟩)]) (by decide))
              clear hnn hne
              go_wp2_with fail
              go_quiet (fail)
              go_wp2
              refine bodyPost_ret (v := .tuple #[.int .i64 i, .int .i64 41]) (by simp [results, Try.results13, go_sem]) rfl ⟨by rw [HX.out], hb.trans ((Quiet.below ⟨_, rfl⟩).mono hb.size)⟩
            · have hx := nm_no hnn
              have HX : Hid (∀ j (hj : j < l.length), j < k + 1 → nmB l[j].name ≠ nmB (l[i]'hlt).name) := fun j hj hjk => by
                rcases Nat.lt_or_ge j k with h | h
                · exact hne j hj h
                · obtain rfl : j = k := by omega
                  exact hnn
              clear hnn hne
              go_wp2_with fail
              go_quiet (fail)
              go_wp2
              go_roundw
              case rel => exact ⟨k + 1, by omega, by go_num, HX.out, hb.trans ((Quiet.below ⟨_, rfl⟩).mono hb.size)⟩
              case measure => simp [intOf]; omega
          · have hkt' : ¬ (k : Int) < (i : Int) := by omega
            have hnot : ¬ nmB (l[i]'hlt).name ∈ cnames (l.take i) := by
              rw [cnames_mem]
              rintro ⟨j, h1, h2, h3⟩
              exact hne j h1 (by omega) h3
            have HC : Hid (clsE (cnames (l.take i)) (l[i]'hlt) = fldsR (l[i]'hlt).fields) := by
              unfold Hid clsE fldsR
              rw [if_neg (by rw [HNM.out]; decide), if_neg hnot]
            have FC := Lib.hid (rfields_any _ B vf2 (l[i]'hlt).fields e3 (Nat.le_trans HB.out hb.size))
            have HBB := Lib.hid hb
            clear hnot hne e3 hb
            go_wp2_with fail
            refine FC.out.mono ?_
            rintro e w5 ⟨rfl, hb5⟩
            have hb := HBB.out.trans (hb5.mono HBB.out.size)
            clear hb5 FC e1 e2
            by_cases hz : fldsR (l[i]'hlt).fields = 0
            · have hz' : (fldsR (l[i]'hlt).fields != 0) = false := by simp [hz]
              have HG := Lib.hid (HN2.out (by rw [HC.out, hz]))
              clear hz
              go_wp2
              go_roundw
              case rel => exact ⟨i + 1, by omega, by go_num, HG.out, hb⟩
              case measure => simp [intOf]; omega
            · have hz' : (fldsR (l[i]'hlt).fields != 0) = true := by simpa using hz
              have HX := Lib.hid (HN1.out _ HC.out hz)
              clear hz
              go_wp2
              refine bodyPost_ret (v := .tuple #[.int .i64 i, .int .i64 (fldsR (l[i]'hlt).fields)]) (by simp [results, Try.results13, go_sem]) rfl ⟨by rw [HX.out], hb⟩
    · have hlt' : ¬ (i : Int) < (l.length : Int) := by omega
      have hi' : i = l.length := by omega
      rw [hi', List.take_length] at h0
      have HX : Hid (tabE l = (0, 0)) := HR.out.trans (newE_zero h0)
      clear h0
      go_wp2
      refine bodyPost_ret (v := .tuple #[.int .i64 0, .int .i64 0]) (by simp [results, Try.results13, go_sem]) rfl ⟨by rw [HX.out]; rfl, hb⟩
end Go.Proofs.Ytkapnblocimelaa
/- The document's SameClass (where a seat has classes alone). No condition. -/
namespace Go.Proofs.Ytkapnblocimelaa
open Go.RowKit
set_option linter.unusedVariables false
theorem list_eq_of {α : Type} {l1 l2 : List α} (h : l1.length = l2.length) (he : ∀ i, (h1 : i < l1.length) → (h2 : i < l2.length) → l1[i] = l2[i]) : l1 = l2 := List.ext_getElem h he
theorem fields2 {l : List Field} {t u : TypeId} (h : l.map (fun f => (f.type, f.offset, f.name == "_")) = [(t, 0, false), (u, 1, false)]) :
    ∃ f g, l = [f, g] ∧ (f.type = t ∧ f.offset = 0 ∧ ¬ f.name = "_") ∧ (g.type = u ∧ g.offset = 1 ∧ ¬ g.name = "_") := by
  rcases l with _ | ⟨f0, _ | ⟨f1, _ | ⟨f2, l⟩⟩⟩ <;> simp only [List.map_cons, List.map_nil, List.cons.injEq, Prod.mk.injEq, beq_eq_false_iff_ne, ne_eq, and_true, reduceCtorEq, and_false] at h
  exact ⟨f0, f1, rfl, h.1, h.2⟩
theorem neq_fld (w : World) (a b : ByteArray) (x y : Int) :
    (binOp .neq 72 (.agg #[.string a, .int .i64 x]) (.agg #[.string b, .int .i64 y])).run Try.prog w = .ok (.bool (!(a.toList == b.toList && x == y))) w := by
  rw [run_neq_struct, run_equalIn_agg w 9999 _ _ _ (by kernel_rfl) (by kernel_rfl)]
  obtain ⟨f, g, hl, ⟨f1, f2, f3⟩, g1, g2, g3⟩ := fields2 (l := (Try.prog.fieldsOf 72).toList) (t := 9) (u := 3) (by kernel_rfl)
  rw [hl]
  have hi : Try.prog.underlying 3 = some (.int .i64) := by kernel_rfl
  have hs : Try.prog.underlying 9 = some .string := by kernel_rfl
  simp [Op.eqFields, f1, f2, f3, g1, g2, g3, go_sem, hi, hs]
  by_cases h1 : a.toList = b.toList <;> by_cases h2 : x = y <;> simp [h1, h2]
theorem guard_fld : Try.prog.eqGuardType Try.prog.depth 72 = false := by kernel_rfl
def fldP (f : FldD) : List UInt8 × Int := (f.name.toList, f.ty)
def clsP (c : ClsD) : List UInt8 × List (List UInt8 × Int) := (c.name.toList, c.fields.map fldP)
theorem map_eq_of {α β : Type} {f : α → β} {l1 l2 : List α} (h : l1.length = l2.length) (he : ∀ i, (h1 : i < l1.length) → (h2 : i < l2.length) → f l1[i] = f l2[i]) : l1.map f = l2.map f :=
  list_eq_of (by simpa using h) fun i h1 h2 => by simpa using he i (by simpa using h1) (by simpa using h2)
theorem map_ne_at {α β : Type} {f : α → β} {l1 l2 : List α} {i : Nat} (h1 : i < l1.length) (h2 : i < l2.length) (h : ¬ f l1[i] = f l2[i]) : ¬ l1.map f = l2.map f := fun e => h (by
  have q : (l1.map f)[i]? = (l2.map f)[i]? := by rw [e]
  simpa [List.getElem?_eq_getElem h1, List.getElem?_eq_getElem h2] using q)
theorem map_ne_len {α β : Type} {f : α → β} {l1 l2 : List α} (h : ¬ l1.length = l2.length) : ¬ l1.map f = l2.map f := fun e => h (by simpa using congrArg List.length e)
theorem fldP_eq {f g : FldD} : (f.name.toList == g.name.toList && f.ty == g.ty) = decide (fldP f = fldP g) := by
  unfold fldP
  by_cases h1 : f.name.toList = g.name.toList <;> by_cases h2 : f.ty = g.ty <;> simp [h1, h2]
theorem clsP_eq {f g : ClsD} : decide (clsP f = clsP g) = (decide (f.name.toList = g.name.toList) && decide (f.fields.map fldP = g.fields.map fldP)) := by
  unfold clsP
  by_cases h1 : f.name.toList = g.name.toList <;> by_cases h2 : f.fields.map fldP = g.fields.map fldP <;> simp [h1, h2]
set_option maxRecDepth 100000 in
set_option maxHeartbeats 4000000 in
theorem rsclass_any (w : World) (B : Nat) (v1 v2 : Value) (c d : ClsD) (hB : B ≤ w.heap.size) (h1 : RdRow 2 ElF B w v1 c.fields) (h2 : RdRow 2 ElF B w v2 d.fields) :
    Calls Try.prog 16 #[.agg #[.string c.name, v1], .agg #[.string d.name, v2]] w fun e w' => e = .returned (.bool (decide (clsP c = clsP d))) ∧ Below w.heap.size w w' := by
  have h1' := h1
  have h2' := h2
  obtain ⟨a1, q1, rfl⟩ := rd_shape h1'
  obtain ⟨a2, q2, rfl⟩ := rd_shape h2'
  have M1 : c.fields.length ≤ maxLen := by obtain ⟨_, _, _, h, _⟩ := h1; exact h
  unfold maxLen at M1
  have k1 : Blk ((w.alloc (.cells #[.string c.name, .slice a1 c.fields.length q1] 34)).alloc (.cells #[.string d.name, .slice a2 d.fields.length q2] 34)) w.heap.size #[.string c.name, .slice a1 c.fields.length q1] 34 := (Blk.new _ _ _).alloc _
  have k2 : Blk ((w.alloc (.cells #[.string c.name, .slice a1 c.fields.length q1] 34)).alloc (.cells #[.string d.name, .slice a2 d.fields.length q2] 34)) (w.heap.size + 1) #[.string d.name, .slice a2 d.fields.length q2] 34 := Blk.new' (by simp)
  have hb0 : Below w.heap.size w ((w.alloc (.cells #[.string c.name, .slice a1 c.fields.length q1] 34)).alloc (.cells #[.string d.name, .slice a2 d.fields.length q2] 34)) := ((Below.refl _ _).alloc (Nat.le_refl _) _).alloc (by simp) _
  have g1 := h1.keep (hb0.mono hB) fun _ _ _ e r => r.keep (hb0.mono hB) e
  have g2 := h2.keep (hb0.mono hB) fun _ _ _ e r => r.keep (hb0.mono hB) e
  have R1 := Lib.hid (fun i (hi : i < c.fields.length) => rd_at g1 hi)
  have R2 := Lib.hid (fun i (hi : i < d.fields.length) => rd_at g2 hi)
  have hb := Lib.hid hb0
  have CP := Lib.hid (clsP_eq (f := c) (g := d))
  clear h1 h2 h1' h2' hb0 g1 g2
  have c0 := k1.val 0 rfl
  have c1 := k1.val 1 rfl
  have d0 := k2.val 0 rfl
  have d1 := k2.val 1 rfl
  have hG := guard_fld
  by_cases hx : c.name.toList = d.name.toList
  · have hx' : (c.name.toList == d.name.toList) = true := by simp [hx]
    have HX := Lib.hid hx
    clear hx
    by_cases hn : c.fields.length = d.fields.length
    · have hne : ((c.fields.length : Int) != (d.fields.length : Int)) = false := by simp [hn]
      have HN := Lib.hid hn
      clear hn
      go_enter Try.func16, Try.ntmps16
      go_wp2
      generalize World.alloc (World.alloc _ _) _ = W at *
      generalize hS : w.heap.size = S at *
      have HS := Lib.hid hS
      clear hS
      go_loopw [5] (fun i wr => ∃ k : Nat, k ≤ c.fields.length ∧ i = .int .i64 k ∧ Quiet W wr ∧ ∀ j, (j1 : j < c.fields.length) → (j2 : j < d.fields.length) → j < k → fldP c.fields[j] = fldP d.fields[j]) (fun i _ => c.fields.length - (intOf i).toNat)
      case atStart => exact ⟨0, Nat.zero_le _, rfl, Quiet.refl _, fun j _ _ h => absurd h (by omega)⟩
      case round =>
        obtain ⟨k, hk, rfl, hq, hj⟩ := hrel
        have HJ := Lib.hid hj
        clear hj
        have c1 := (hq.cell _).trans c1
        have d1 := (hq.cell _).trans d1
        by_cases hlt : k < c.fields.length
        · have hlt2 : k < d.fields.length := by have := HN.out; omega
          obtain ⟨b1, o1, rfl, _, p1, p1', _⟩ := R1.out k hlt
          obtain ⟨b2, o2, rfl, _, p2, p2', _⟩ := R2.out k hlt2
          have p1 := (hq.cell _).trans p1
          have p2 := (hq.cell _).trans p2
          have p1' := (hq.cell _).trans p1'
          have p2' := (hq.cell _).trans p2'
          have hlt' : (k : Int) < (c.fields.length : Int) := by omega
          have hlt2' : (k : Int) < (d.fields.length : Int) := by omega
          have hge' : (0 : Int) ≤ (k : Int) := by omega
          have FP := Lib.hid (@fldP_eq c.fields[k] d.fields[k])
          have hE := fun W => neq_fld W c.fields[k].name d.fields[k].name c.fields[k].ty d.fields[k].ty
          have HM : Hid (¬ fldP c.fields[k] = fldP d.fields[k] → ¬ c.fields.map fldP = d.fields.map fldP) := map_ne_at hlt hlt2
          have HE : Hid (∀ (j1 : k < c.fields.length) (j2 : k < d.fields.length), fldP (c.fields[k]'j1) = fldP (c.fields[k]'hlt) ∧ fldP (d.fields[k]'j2) = fldP (d.fields[k]'hlt2)) := fun _ _ => ⟨rfl, rfl⟩
          generalize c.fields[k] = z1 at *
          generalize d.fields[k] = z2 at *
          rcases z1 with ⟨zn, zt⟩
          rcases z2 with ⟨yn, yt⟩
          simp only at p1 p2 p1' p2' hE
          by_cases hy : fldP ⟨zn, zt⟩ = fldP ⟨yn, yt⟩
          · have hv : (zn.toList == yn.toList && zt == yt) = true := by rw [show (zn.toList == yn.toList && zt == yt) = decide (fldP ⟨zn, zt⟩ = fldP ⟨yn, yt⟩) from FP.out]; simpa using hy
            have HY := Lib.hid hy
            clear hy
            go_wp2
            go_quiet (fail)
            go_wp2
            go_roundw
            case rel => exact ⟨k + 1, by omega, by go_num, hq.trans ⟨_, rfl⟩, fun j j1 j2 j3 => by
              rcases Nat.lt_or_ge j k with h | h
              · exact HJ.out j j1 j2 h
              · obtain rfl : j = k := by omega
                exact (HE.out j1 j2).1.trans (HY.out.trans (HE.out j1 j2).2.symm)⟩
            case measure => simp [intOf]; omega
          · have hv : (zn.toList == yn.toList && zt == yt) = false := by rw [show (zn.toList == yn.toList && zt == yt) = decide (fldP ⟨zn, zt⟩ = fldP ⟨yn, yt⟩) from FP.out]; simpa using hy
            have HY := Lib.hid hy
            clear hy
            go_wp2
            go_quiet (fail)
            go_wp2
            go_ret
            exact ⟨ret_bool (by rw [CP.out]; simp [HM.out HY.out]), by first | (rw [HS.out]; exact hb.out.trans (Quiet.below (hq.trans ⟨_, rfl⟩))) | exact hb.out.trans (Quiet.below (hq.trans ⟨_, rfl⟩))⟩
        · have hlt' : ¬ (k : Int) < (c.fields.length : Int) := by omega
          go_wp2
          go_ret
          exact ⟨ret_bool (by rw [CP.out]; simp [HX.out, map_eq_of HN.out fun i i1 i2 => HJ.out i i1 i2 (by omega)]), by first | (rw [HS.out]; exact hb.out.trans (Quiet.below hq)) | exact hb.out.trans (Quiet.below hq)⟩
    · have hne : ((c.fields.length : Int) != (d.fields.length : Int)) = true := by simp; omega
      have HM := Lib.hid (map_ne_len (f := fldP) hn)
      go_enter Try.func16, Try.ntmps16
      go_wp2
      go_ret
      exact ⟨ret_bool (by rw [CP.out]; simp [HM.out]), hb.out⟩
  · have hx' : (c.name.toList == d.name.toList) = false := by simpa using hx
    have HX := Lib.hid hx
    clear hx
    go_enter Try.func16, Try.ntmps16
    go_wp2
    go_ret
    exact ⟨ret_bool (by rw [CP.out]; simp [HX.out]), hb.out⟩
end Go.Proofs.Ytkapnblocimelaa
