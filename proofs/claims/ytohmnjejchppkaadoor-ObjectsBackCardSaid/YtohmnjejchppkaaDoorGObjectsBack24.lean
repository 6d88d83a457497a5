/- Texts of this seat, one behind the other: each says at its head what it holds. No condition of its own. -/
import Derived.Test.YtohmnjejchppkaaDoorGObjectsBack16
import Derived.Test.YtohmnjejchppkaaDoorGObjectsBack20
import Derived.Test.YtohmnjejchppkaaDoorGObjectsBack23
/- Package objects: Head, Refs, Span, and the document's. Conditions: the table is there; the object's words are read in full. -/
namespace Go.Proofs.YtohmnjejchppkaaDoor
open Go.RowKit Go.Shelf
set_option linter.unusedVariables false
attribute [local go_sem] Oper.semAt_some
def ints64 (l : List Int) : List Value := l.map (Value.int .i64)
def refsF (zs : List Int) {N : Nat} (pre : List (Fin N)) : List Int := (pre.map fun i => zs.getD i.val 0).filter fun z => z != 0
def refsL (cl : List ClsD) (c k : Int) (zs : List Int) : List Int := ((ptrL cl c k zs.length).map fun i => zs.getD i 0).filter fun z => z != 0
theorem refsF_all (cl : List ClsD) (c k : Int) (zs : List Int) : refsF zs (ptrFL cl c k zs.length) = refsL cl c k zs := by
  unfold refsF refsL
  rw [← ptrFL_val, List.map_map]
  rfl
theorem refsF_no {zs : List Int} {N : Nat} {pre : List (Fin N)} {x : Fin N} (h : zs.getD x.val 0 = 0) : refsF zs (pre ++ [x]) = refsF zs pre := by
  unfold refsF
  rw [List.map_append, List.filter_append, List.map_cons, List.map_nil, h]
  simp
theorem refsF_yes {zs : List Int} {N : Nat} {pre : List (Fin N)} {x : Fin N} (h : zs.getD x.val 0 ≠ 0) : refsF zs (pre ++ [x]) = refsF zs pre ++ [zs.getD x.val 0] := by
  unfold refsF
  rw [List.map_append, List.filter_append, List.map_cons, List.map_nil]
  generalize zs.getD x.val 0 = z at *
  simp [h]
theorem refsF_len {zs : List Int} {N : Nat} (pre : List (Fin N)) : (refsF zs pre).length ≤ pre.length := by
  unfold refsF
  have := List.length_filter_le (fun z => z != 0) (pre.map fun i => zs.getD i.val 0)
  rw [List.length_map] at this
  exact this
theorem cellNew (w : World) (a c k : Int) (v : Value) (t : TypeId) : Blk (w.alloc (.cells #[.int .i64 a, .int .i64 c, .int .i64 k, v] t)) w.heap.size #[.int .i64 a, .int .i64 c, .int .i64 k, v] t := Blk.new _ _ _
set_option maxHeartbeats 1000000 in
theorem ochead_any (ad c k : Int) (a : Option Addr) (n q : Nat) (w : World) :
    Calls Tryd.prog 25 #[.agg #[.int .i64 ad, .int .i64 c, .int .i64 k, .slice a n q]] w fun e w' => e = .returned (.agg #[.int .i64 c, .int .i64 k, .int .i64 (n : Int)]) ∧ Below w.heap.size w w' := by
  have k1 := (cellNew w ad c k (.slice a n q) 70).alloc (.cells #[.int .i64 0, .int .i64 0, .int .i64 0] 56)
  have k2 : Blk ((w.alloc (.cells #[.int .i64 ad, .int .i64 c, .int .i64 k, .slice a n q] 70)).alloc (.cells #[.int .i64 c, .int .i64 k, .int .i64 (n : Int)] 56)) (w.heap.size + 1) #[.int .i64 c, .int .i64 k, .int .i64 (n : Int)] 56 := Blk.new' (by simp)
  have hb : Below w.heap.size w ((w.alloc (.cells #[.int .i64 ad, .int .i64 c, .int .i64 k, .slice a n q] 70)).alloc (.cells #[.int .i64 c, .int .i64 k, .int .i64 (n : Int)] 56)) := ((Below.refl _ _).alloc (Nat.le_refl _) _).alloc (by simp) _
  have y1 := k1.val 1 rfl
  have y2 := k1.val 2 rfl
  have y3 := k1.val 3 rfl
  have HB := Lib.hid hb
  have K2 := Lib.hid k2
  clear k1 k2 hb
  go_enter Tryd.func25, Tryd.ntmps25
  go_wp2
  have z0 := K2.out.val 0 rfl
  have z1 := K2.out.val 1 rfl
  have z2 := K2.out.val 2 rfl
  exact bodyPost_ret (v := .agg #[.int .i64 c, .int .i64 k, .int .i64 (n : Int)]) (by simp [results, Tryd.results25, go_sem, z0, z1, z2]) rfl ⟨rfl, HB.out⟩
/-- what an object's words are, in blocks that were there -/
structure WdS (w : World) (vw : Value) (zs : List Int) : Prop where
  rd : RdRow 1 ElI w.heap.size w vw zs
  len : zs.length ≤ 400
end Go.Proofs.YtohmnjejchppkaaDoor
/- ObjectsBack: the image of an arena; what Look finds where the object was built: numbers. -/
namespace Go.Proofs.YtohmnjejchppkaaDoor
open Go.RowKit
set_option linter.unusedVariables false
theorem image_ary {w : World} {B a c n : Nat} {cs : List Int} {K : List Nat} (hA : Ary w B a c cs n K) (h0 : 0 < cs.length) (hm : cs.length ≤ 1000000) :
    Calls Tryd.prog 12 #[.pointer (some ⟨a, 0, none⟩)] w (ImagePost cs w) := by
  obtain ⟨xs, hx⟩ := hA
  obtain ⟨lv, hl, _⟩ := hx.ex
  exact image_at a c cs true lv _ _ w hl.at' h0 hm
theorem bk_rows {P : Int} {pg : Nat} (hP : P = 4 ∨ P = 5) (hp : (pg : Int) < P) : rowN P 1 1 0 (pg : Int) = 22 + pg ∧ rowN P 1 1 1 (pg : Int) = (22 + P + (pg : Int)).toNat := by
  obtain ⟨b1, b2, b3, hr⟩ := bk_base hP
  obtain ⟨h1, _, h2⟩ := rowN_val (P := P) (T := 1) (R := 1) (pg := (pg : Int)) 0 hr (by omega) hp (by omega)
  obtain ⟨h3, _, h4⟩ := rowN_val (P := P) (T := 1) (R := 1) (pg := (pg : Int)) 1 hr (by omega) hp (by omega)
  rw [b2] at h2 h4
  exact ⟨by omega, by omega⟩
theorem bk_look {P k c s kd : Int} {N pg off : Nat} {cs : List Int} (hP : P = 4 ∨ P = 5) (hF : BkF P N pg off k c s) (hkd : kd = 2 ∨ kd = 3) (hN : N ≤ 255)
    (h1 : cs.getD (22 + pg) 0 = encE k c s 0 0) (h2 : bitB (cs.getD (22 + P + (pg : Int)).toNat 0) (off : Int) = true) (h3 : cs.getD (64 + 64 * (pg : Int) + (off : Int)).toNat 0 = encH 0 kd N) :
    lookE P 1 1 cs [] (64 + 64 * (pg : Int) + (off : Int)) = .ok (0, kd, N) := by
  obtain ⟨q1, q2, q3, q4, q5, q6, q7, q8⟩ := bk_head kd N hkd hN
  have hpl := bk_place' (pg := pg) (off := off) hP hF.hp hF.ho
  obtain ⟨r1, r2⟩ := bk_rows hP hF.hp
  obtain ⟨e1, e2, e3, e4⟩ := hF.eok
  have hh : holdB P 1 1 cs (64 + 64 * (pg : Int) + (off : Int)) = true := by
    unfold holdB
    rw [hpl]
    simp only
    rw [r1, r2, h1, h2, e1, e2, e3, hF.beg]
    simp
  unfold lookE entW
  rw [hh, if_neg (by simp), hpl]
  simp only
  rw [r1, h1, h3, q3, q4, q5, q6, q7, q8, e2, e3, hF.room, if_pos ⟨rfl, rfl, rfl⟩]
  simp
theorem bk_zero {cs : List Int} {X N : Nat} (h : ∀ i, i < N → cs.getD (X + 1 + i) 0 = 0) : lkL cs X N = List.replicate N (Value.int .i64 0) := by
  unfold lkL
  refine List.ext_getElem (by simp) fun i h1 h2 => ?_
  have hi : i < N := by simpa using h1
  have := h i hi
  simp only [List.getElem_map, List.getElem_range, List.getElem_replicate]
  unfold lkV
  rw [this, IntWalk.wrap64_in _ ⟨by omega, by omega⟩]
theorem touch_cellW {R : Nat → Prop} {w w' : World} (h : Touch R w w') {a : Addr} (hl : a.block < w.heap.size) (hr : ¬ R a.block) : w'.cell? a = w.cell? a := by
  unfold World.cell?
  rw [h.block a.block hl hr]
theorem i64_smallB (q : Int) (h : 0 ≤ q) (h2 : q ≤ 100000) : IntKind.i64.wrap q = q := by rw [IntKind.wrap_i64]; omega
theorem bit_setU (A : Int) (off : Nat) (hA : U64 A) (ho : off ≤ 63) : U64 (bits .or .u64 A ((2 ^ off : Nat) : Int)) := by
  obtain ⟨n, rfl⟩ := Int.eq_ofNat_of_zero_le hA.1
  have h2 : 2 ^ off < 2 ^ 64 := Nat.pow_lt_pow_right (by decide) (by omega)
  have hn : n < 2 ^ 64 := by have := hA.2; omega
  rw [bits_or_u64_nat _ _ (by omega) (by omega)]
  have := Nat.or_lt_two_pow hn h2
  exact ⟨by omega, by omega⟩
theorem pow_wrapB (off : Nat) (ho : off ≤ 63) : IntKind.u64.wrap ((2 : Int) ^ off) = ((2 ^ off : Nat) : Int) := by
  have h2 : 2 ^ off < 2 ^ 64 := Nat.pow_lt_pow_right (by decide) (by omega)
  rw [show (2 : Int) ^ off = ((2 ^ off : Nat) : Int) by push_cast; rfl, IntKind.wrap_u64]
  generalize 2 ^ off = q at *
  omega
theorem own_zero {w : World} {B : Nat} {e : TypeId} {u : Value} {N : Nat} (h : w.ownsRow B e 1 u N (List.replicate N (Value.int .i64 0))) : ∃ g a q, u = .slice a N q ∧ (0 < N → a = some ⟨g, 0, none⟩ ∧ g < w.heap.size) ∧ ∀ i, i < N → w.cell? ⟨g, i, none⟩ = some (.int .i64 0) := by
  rcases Nat.eq_zero_or_pos N with h0 | h0
  · subst h0
    obtain ⟨e1, e2⟩ := h
    rcases e2 with ⟨h3, _⟩ | ⟨g, cap, cur, a1, a2, a3, a4, a5, a6, a7⟩
    · exact ⟨0, none, 0, h3, fun h => absurd h (by omega), fun i hi => absurd hi (by omega)⟩
    · exact ⟨g, _, cap, a1, fun h => absurd h (by omega), fun i hi => absurd hi (by omega)⟩
  · obtain ⟨g, cap, h1, _, h2, _, _, h5⟩ := own_cellG h h0
    exact ⟨g, _, cap, h1, fun _ => ⟨rfl, h2⟩, fun i hi => h5 i _ (by simp [hi])⟩
theorem four_atB {w : World} {b : Nat} {v0 v1 v2 v3 : Value} {t : TypeId} (h : Blk w b #[v0, v1, v2, v3] t) :
    w.cell? ⟨b, 0, none⟩ = some v0 ∧ w.cell? ⟨b, 1, none⟩ = some v1 ∧ w.cell? ⟨b, 2, none⟩ = some v2 ∧ w.cell? ⟨b, 3, none⟩ = some v3 :=
  ⟨h.val 0 rfl, h.val 1 rfl, h.val 2 rfl, h.val 3 rfl⟩
theorem getD_set_ne' {l : List Int} {i j : Nat} {v : Int} (h : i ≠ j) : (l.set i v).getD j 0 = l.getD j 0 := by
  rw [List.getD_eq_getElem?_getD, List.getElem?_set_ne h, ← List.getD_eq_getElem?_getD]
theorem getD_set_eq' {l : List Int} {i : Nat} {v : Int} (h : i < l.length) : (l.set i v).getD i 0 = v := by
  rw [List.getD_eq_getElem?_getD, List.getElem?_set_self h]; rfl
/-- the cells while an object of N words is built at X: 'left' steps are left -/
structure CsK (C0 cs : List Int) (X N left : Nat) (H : Int) : Prop where
  len : cs.length = C0.length
  out : ∀ i, (i < X ∨ X + N < i) → cs.getD i 0 = C0.getD i 0
  zer : ∀ i, left ≤ i → 1 ≤ i → i ≤ N → cs.getD (X + i) 0 = 0
  hd : left = 0 → cs.getD X 0 = H
  U : ∀ z ∈ cs, U64 z
theorem CsK.start {C0 : List Int} {X N : Nat} {H : Int} (h : ∀ z ∈ C0, U64 z) : CsK C0 C0 X N (N + 1) H :=
  ⟨rfl, fun _ _ => rfl, fun i h1 _ h2 => absurd h1 (by omega), fun h => absurd h (by omega), h⟩
theorem CsK.more {C0 cs : List Int} {X N j : Nat} {H : Int} (h : CsK C0 cs X N (j + 1) H) (hj : 1 ≤ j) (hN : j ≤ N) (hl : X + N < C0.length) : CsK C0 (cs.set (X + j) 0) X N j H := by
  refine ⟨by rw [List.length_set]; exact h.len, fun i hi => ?_, fun i h1 h2 h3 => ?_, fun e => absurd e (by omega), fun z hz => ?_⟩
  · rw [getD_set_ne' (by omega)]; exact h.out i hi
  · by_cases e : i = j
    · subst e; exact getD_set_eq' (by rw [h.len]; omega)
    · rw [getD_set_ne' (by omega)]; exact h.zer i (by omega) h2 h3
  · rcases List.mem_or_eq_of_mem_set hz with hz | rfl
    · exact h.U z hz
    · exact ⟨by decide, by decide⟩
theorem CsK.last {C0 cs : List Int} {X N : Nat} {H : Int} (h : CsK C0 cs X N 1 H) (hH : U64 H) (hl : X + N < C0.length) : CsK C0 (cs.set X H) X N 0 H := by
  refine ⟨by rw [List.length_set]; exact h.len, fun i hi => ?_, fun i h1 h2 h3 => ?_, fun _ => getD_set_eq' (by rw [h.len]; omega), fun z hz => ?_⟩
  · rw [getD_set_ne' (by omega)]; exact h.out i hi
  · rw [getD_set_ne' (by omega)]; exact h.zer i h2 h2 h3
  · rcases List.mem_or_eq_of_mem_set hz with hz | rfl
    · exact h.U z hz
    · exact hH
end Go.Proofs.YtohmnjejchppkaaDoor
