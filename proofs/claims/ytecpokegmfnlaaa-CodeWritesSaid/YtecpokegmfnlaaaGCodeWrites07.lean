/- Texts of this seat, one behind the other: each says at its head what it holds. No condition of its own. -/
import Derived.StillTailTactics
import Derived.Test.YtecpokegmfnlaaaGCodeWrites06
/- The document's part: an instruction. Condition: the part's row is there; the numbers fit. -/
namespace Go.Proofs.Ytecpokegmfnlaaa
open Go.RowKit
set_option linter.unusedVariables false
set_option maxHeartbeats 1000000 in
theorem signed_any (a : Int) (w : World) (ha : I64 a) : Calls Try.prog 67 #[.int .i64 a] w fun e w' => e = .returned (.int .u64 (foldN a : Nat)) ∧ w = w' := by
  obtain ⟨h1, h2⟩ := ha
  by_cases h : a < 0
  · have h' : ¬ (0 : Int) ≤ a := by omega
    have e0 : IntKind.i64.wrap (-(a + 1)) = -(a + 1) := by rw [IntKind.wrap_i64]; omega
    have b1 : (0 : Int) ≤ -(a + 1) := by omega
    have b2 : -(a + 1) ≤ 9223372036854775807 := by omega
    have e1 : Hid (-(a + 1) * 2 + 1 = ((foldN a : Nat) : Int)) := by unfold Hid foldN; rw [if_pos h]; omega
    go_enter Try.func67, Try.ntmps67
    go_wp2
    go_ret
    exact ⟨ret_int (by first | exact e1.out | (rw [← e1.out]; omega)), rfl⟩
  · have h' : (0 : Int) ≤ a := by omega
    go_enter Try.func67, Try.ntmps67
    go_wp2
    go_ret
    exact ⟨ret_int (by unfold foldN; split <;> omega), rfl⟩
/-- boxes of a part, an instruction, and the result's cell -/
theorem ins_laid {f : Bool} {w : World} {B : Nat} {K : Nat → Prop} {a : Option Addr} {n c : Nat} {e : Int} {r : Res} (h : PartV f w B K (.agg #[.slice a n c, .int .i64 e]) r) (x y z : Int) {W : World} (hW : W = ((w.alloc (.cells #[.slice a n c, .int .i64 e] 66)).alloc (.cells #[.int .i64 x, .int .i64 y, .int .i64 z] 23)).alloc (.cells #[.slice none 0 0, .int .i64 0] 66)) :
    PartV f W B (fun q => q = w.heap.size + 1 + 1 ∨ (q = w.heap.size + 1 ∨ (q = w.heap.size ∨ K q))) (.agg #[.slice a n c, .int .i64 e]) r ∧ Blk W w.heap.size #[.slice a n c, .int .i64 e] 66 ∧ Blk W (w.heap.size + 1) #[.int .i64 x, .int .i64 y, .int .i64 z] 23 ∧ Blk W (w.heap.size + 1 + 1) #[.slice none 0 0, .int .i64 0] 66 ∧ Below w.heap.size w W := by
  subst hW
  have hb1 : Below w.heap.size w (w.alloc (.cells #[.slice a n c, .int .i64 e] 66)) := (Below.refl _ _).alloc (Nat.le_refl _) _
  exact ⟨((h.add hb1 (m := w.heap.size) (Nat.le_refl _) (by simp)).add ((Below.refl _ _).alloc (Nat.le_refl _) _) (m := w.heap.size + 1) (by simp) (by simp)).add ((Below.refl _ _).alloc (Nat.le_refl _) _) (m := w.heap.size + 1 + 1) (by simp) (by simp), ((Blk.new _ _ _).alloc _).alloc _, (Blk.new' (by simp)).alloc _, Blk.new' (by simp), (hb1.alloc (by simp) _).alloc (by simp; omega) _⟩
theorem own_grewC {w w' : World} {B n : Nat} {v : Value} {xs : List Value} (h : w.ownsRow B 5 1 v n xs) (hb : Below w.heap.size w w') : w'.ownsRow B 5 1 v n xs := by
  obtain ⟨e1, e2⟩ := h
  refine ⟨e1, ?_⟩
  rcases e2 with e2 | ⟨g, cap, cur, a1, a2, a3, a4⟩
  · exact .inl e2
  · exact .inr ⟨g, cap, cur, a1, a2, (hb.block g (Array.getElem?_eq_some_iff.1 a3).1).trans a3, a4⟩
theorem u8L_one (l : List UInt8) : ∀ u ∈ u8L l, u.oneCell' = true := by
  intro u hu
  simp [u8L] at hu
  obtain ⟨y, _, rfl⟩ := hu
  rfl
theorem rput_row (f : Bool) (w3 W : World) (B : Nat) (K : Nat → Prop) (vv : Value) (r : Res) (bs : List UInt8) (v : Value) (n : Nat) (h : PartV f w3 B K vv r) (hb : Below w3.heap.size w3 W) (ho : W.ownsRow w3.heap.size 5 1 v n (u8L bs)) (hn : n = bs.length) (h1 : 0 < bs.length) (h2 : bs.length ≤ 100) (hl : lenE r 300000000) :
    Calls Try.prog 65 #[vv, v, .int .i64 0] W fun e' w' => ∃ vv', e' = .returned vv' ∧ PartV false w' B K vv' (andE r (.ok bs)) ∧ WrT B K W w' := by
  subst hn
  obtain ⟨g, cap, rfl, _, hc⟩ := own_cells ho h1
  exact put_m f W B K vv r bs ⟨g, 0, none⟩ cap (h.grew hb) (bytes_at hc) (.inl h1) (lenE_mono hl (by decide)) (fun _ => by omega)
theorem ins_1 (y z : Int) : [UInt8.ofNat (1 : Int).toNat] ++ numB (foldN y) = insL ⟨1, y, z⟩ := by simp [insL, show opsI 1 = 1 from rfl]
theorem ins_0 {x : Int} (y z : Int) (h : x ≠ 1 ∧ opsI x = 0) : [UInt8.ofNat x.toNat] = insL ⟨x, y, z⟩ := by simp [insL, h.1, h.2]
theorem ins_s {x : Int} (an : Nat) (z : Int) (h : x ≠ 1 ∧ opsI x = 1) : [UInt8.ofNat x.toNat] ++ numB an = insL ⟨x, an, z⟩ := by simp [insL, h.1, h.2]
theorem ins_t {x : Int} (an cn : Nat) (h : x ≠ 1 ∧ opsI x = 2) : [UInt8.ofNat x.toNat] ++ numB an ++ numB cn = insL ⟨x, an, cn⟩ := by simp [insL, h.1, h.2]
set_option maxRecDepth 100000 in
set_option maxHeartbeats 4000000 in
theorem rins_bad (f : Bool) (w : World) (B : Nat) (K : Nat → Prop) (vv : Value) (r : Res) (x y z : Int) (h : PartV f w B K vv r) (hr : rightB ⟨x, y, z⟩ = false) :
    Calls Try.prog 34 #[vv, .agg #[.int .i64 x, .int .i64 y, .int .i64 z]] w fun e' w' => ∃ vv', e' = .returned vv' ∧ PartV false w' B K vv' (andE r (.error 30)) ∧ WrT B K w w' := by
  have hlt := h.lt
  have hbw := h.bw
  have h0 := h
  obtain ⟨⟨a, m, c, e, rfl, _⟩, _, _⟩ := h0
  obtain ⟨hP, k1, k3, k2, hb⟩ := ins_laid h x y z rfl
  have HK := Lib.hid (And.intro hbw hlt)
  have RA := Lib.hid (fun W => rright_any ⟨x, y, z⟩ W)
  rw [hr] at RA
  have d0 := k3.val 0 rfl
  have d1 := k3.val 1 rfl
  have d2 := k3.val 2 rfl
  have HP := Lib.hid hP
  have HT0 : Hid (WrT B K w _) := WrT.of hb
  clear hP h hb hbw hlt hr
  go_enter Try.func34, Try.ntmps34
  go_wp2_with fail
  refine (RA.out _).mono ?_
  rintro e1 w3 ⟨rfl, hb3⟩
  have j1 := k1.grew hb3
  have p2 := k2.grew hb3
  have g0 := j1.val 0 rfl
  have g1 := j1.val 1 rfl
  have PE := Lib.hid (put_e f _ B _ _ (.slice none 0 0) r 30 (HP.out.grew hb3) (by decide) ⟨_, _, _, rfl⟩)
  have HT5 := Lib.hid (HT0.out.trans (WrT.of hb3))
  clear d0 d1 d2 k1 k2 k3 hb3 HT0 HP
  go_wp2_with fail
  clear g0 g1
  refine PE.out.mono ?_
  rintro e9 w6 ⟨vv', rfl, hP6, hT6⟩
  have q2 := hT6.kept p2 (.inl rfl)
  have hP6' := Lib.hid hP6
  obtain ⟨⟨a2, n2, c2, x2, rfl, _⟩, _, _⟩ := hP6
  have g0 := q2.val 0 rfl
  have g1 := q2.val 1 rfl
  have f0 := q2.frozen 0
  have f1 := q2.frozen 1
  have HT6 := Lib.hid (HT5.out.trans (hT6.sub (K' := K) fun x hx => .inr (.inr (.inr hx))))
  clear hT6
  go_wp2
  obtain ⟨z1, z2, z3, z4⟩ := part_out (K := K) hP6'.out (.inl rfl) q2 rfl (fun x hx => .inr (.inr (.inr hx))) (fun r => by have := HK.out.2 _ r; omega) HT6.out (by have := HK.out.1; omega) rfl
  clear g0 g1 f0 f1
  generalize World.setCell _ _ _ = W at *
  refine bodyPost_ret (v := .agg #[.slice a2 n2 c2, .int .i64 x2]) (by simp [results, Try.results34, go_sem, z3, z4]) rfl ⟨_, rfl, z1, z2⟩
set_option maxRecDepth 100000 in
set_option maxHeartbeats 8000000 in
theorem rins_ok (f : Bool) (w : World) (B : Nat) (K : Nat → Prop) (vv : Value) (r : Res) (x y z : Int) (h : PartV f w B K vv r) (hr : rightB ⟨x, y, z⟩ = true) (hy : I64 y) (hz : I64 z) (hl : lenE r 300000000) :
    Calls Try.prog 34 #[vv, .agg #[.int .i64 x, .int .i64 y, .int .i64 z]] w fun e' w' => ∃ vv', e' = .returned vv' ∧ PartV false w' B K vv' (andE r (.ok (insL ⟨x, y, z⟩))) ∧ WrT B K w w' := by
  have hop := opB_of_right hr
  have HR : Hid (rightB ⟨x, y, z⟩ = true) := hr
  have hlt := h.lt
  have hbw := h.bw
  have h0 := h
  obtain ⟨⟨a, m, c, e, rfl, _⟩, _, _⟩ := h0
  obtain ⟨hP, k1, k3, k2, hb⟩ := ins_laid h x y z rfl
  have HK := Lib.hid (And.intro hbw hlt)
  have RA := Lib.hid (fun W => rright_any ⟨x, y, z⟩ W)
  rw [hr] at RA
  obtain ⟨i0, hi, hz0, hz1, hz2⟩ := info_parts info_u8
  have Z := Lib.hid (And.intro hi (And.intro hz0 (And.intro hz1 hz2)))
  have HU := Lib.hid (u8op x hop)
  have HU2 : Hid (x = (((UInt8.ofNat x.toNat).toNat : Nat) : Int)) := by
    obtain ⟨o1, o2⟩ := hop
    dsimp only at o1 o2
    unfold Hid; simp; omega
  have d0 := k3.val 0 rfl
  have d1 := k3.val 1 rfl
  have d2 := k3.val 2 rfl
  have HP := Lib.hid hP
  have HT0 : Hid (WrT B K w _) := WrT.of hb
  clear hP h hb hbw hlt hr hi hz0 hz1 hz2
  obtain ⟨o1, o2⟩ := hop
  go_enter Try.func34, Try.ntmps34
  go_wp2_with fail
  refine (RA.out _).mono ?_
  rintro e1 w3 ⟨rfl, hb3⟩
  have HT3 := Lib.hid (HT0.out.trans (WrT.of hb3))
  have j1 := k1.grew hb3
  have j3 := k3.grew hb3
  have j2 := k2.grew hb3
  have HP3 := Lib.hid (HP.out.grew hb3)
  clear d0 d1 d2 k1 k2 k3 hb3 HT0 HP RA
  have d0 := j3.val 0 rfl
  have l3 := j3.lt
  have OA := Lib.hid (fun W => roperands_any x W)
  have own3 : (w3.alloc (.cells #[Value.int .u8 x] 5)).ownsRow w3.heap.size 5 1 (.slice (some ⟨w3.heap.size, 0, none⟩) 1 1) 1 (u8L [UInt8.ofNat x.toNat]) :=
    ⟨rfl, .inr ⟨w3.heap.size, 1, #[Value.int .u8 x], rfl, Nat.le_refl _, heap_alloc_new _ _, Nat.le_refl _, by unfold maxLen; decide, rfl, by simp only [u8L, List.map_cons, List.map_nil]; rw [← HU2.out]; rfl⟩⟩
  have bel3 : Below w3.heap.size w3 (w3.alloc (.cells #[Value.int .u8 x] 5)) := (Below.refl _ _).alloc (Nat.le_refl _) _
  have HJ := Lib.hid (fun W (hb : Below w3.heap.size w3 W) => And.intro (j1.grew hb) (And.intro (j2.grew hb) (j3.grew hb)))
  have PT := Lib.hid (fun W (hb : Below w3.heap.size w3 W) bs v n (ho : W.ownsRow w3.heap.size 5 1 v n (u8L bs)) (hn : n = bs.length) (h1 : 0 < bs.length) (h2 : bs.length ≤ 100) => rput_row f w3 W B _ _ r bs v n HP3.out hb ho hn h1 h2 hl)
  clear j1 j2 j3 hl HP3
  rcases right_parts HR.out with ⟨p1, p2⟩ | ⟨p1, p2⟩ | ⟨p1, p2, p3, p4⟩ | ⟨p1, p2, p3, p4, p5, p6⟩
  · subst p1
    rw [p2] at OA
    go_wp2_with fail
    refine (OA.out _).mono ?_; rintro e4 w5 ⟨rfl, hb5⟩
    have own5 := own_grewC own3 hb5
    have bel5 := bel3.trans (hb5.mono bel3.size)
    obtain ⟨j1, j2, j3⟩ := HJ.out _ bel5
    have d0 := j3.val 0 rfl
    have d1 := j3.val 1 rfl
    have d2 := j3.val 2 rfl
    have g0 := j1.val 0 rfl
    have g1 := j1.val 1 rfl
    clear own3 hb5 bel3 j1 j2 j3 l3
    go_wp2_with fail
    refine (signed_any y _ hy).mono ?_; rintro e5 w5' ⟨rfl, rfl⟩
    go_wp2_with fail
    refine (rnumber_any (foldN y) _ (foldN_lt hy)).mono ?_; rintro e5 w7n ⟨v7, rfl, hO, hbn⟩
    obtain ⟨g7, cap7, rfl, hcp, hcell⟩ := own_cells hO (numB_pos _)
    have own7n := own_grewC own5 hbn
    have bel7n := bel5.trans (hbn.mono bel5.size)
    obtain ⟨j1, j2, j3⟩ := HJ.out _ bel7n
    have d0 := j3.val 0 rfl
    have d1 := j3.val 1 rfl
    have d2 := j3.val 2 rfl
    have HN7 := Lib.hid (numB_len10 (n := foldN y) (by exact foldN_lt hy))
    clear own5 bel5 hO hcp hbn j1 j2 j3
    go_wp2_with (at_builtin; refine wpList_append_own_at _ rfl _ _ 31 rfl w3.heap.size 5 i0 (.int .u8 0) 1 1 Try.underlying31 Z.out.1 Z.out.2.1 Z.out.2.2.1 Z.out.2.2.2 rfl (by decide) _ _ _ rfl own7n ⟨g7, 0, none⟩ _ cap7 (u8L (numB (foldN y))) rfl (by rw [u8L_len, Nat.mul_one]) (bytes_at hcell) (u8L_one _) (by have := HN7.out; simp; unfold maxLen; omega) (by have := HN7.out; simp; omega) bel7n.size ?_; intro v' w7 hown hgrow _ _; obtain ⟨ga, gc, rfl⟩ := row_shape hown; have bel7 := bel7n.grown hgrow bel7n.size (fun k hk => (own7n.lt k hk).1); obtain ⟨j1, j2, j3⟩ := HJ.out _ bel7; have d0 := j3.val 0 rfl; have d1 := j3.val 1 rfl; have d2 := j3.val 2 rfl; have g0 := j1.val 0 rfl; have g1 := j1.val 1 rfl; rw [← u8L_app] at hown; have own7 := hown; clear hown hgrow j1 j2 j3 hcell own7n bel7n)
    have PM := Lib.hid (PT.out _ bel7 ([UInt8.ofNat (1 : Int).toNat] ++ numB (foldN y)) _ _ own7 (by simp; try omega) (by simp) (by have := HN7.out; simp; omega))
    obtain ⟨j1, p2, j3⟩ := HJ.out _ bel7
    have HT5 := Lib.hid (HT3.out.trans (WrT.of bel7))
    clear own7 bel7 d0 d1 d2 j1 j3
    refine PM.out.mono ?_
    rintro e9 w6 ⟨vv', rfl, hP6, hT6⟩
    clear g0 g1
    have q2 := hT6.kept p2 (.inl rfl)
    have hP6' := Lib.hid hP6
    obtain ⟨⟨a2, n2, c2, x2, rfl, _⟩, _, _⟩ := hP6
    have g0 := q2.val 0 rfl
    have g1 := q2.val 1 rfl
    have f0 := q2.frozen 0
    have f1 := q2.frozen 1
    have HT6 := Lib.hid (HT5.out.trans (hT6.sub (K' := K) fun x hx => .inr (.inr (.inr hx))))
    clear hT6
    go_wp2
    obtain ⟨z1, z2, z3, z4⟩ := part_out (K := K) hP6'.out (.inl rfl) q2 rfl (fun x hx => .inr (.inr (.inr hx))) (fun r => by have := HK.out.2 _ r; omega) HT6.out (by have := HK.out.1; omega) rfl
    clear g0 g1 f0 f1
    generalize World.setCell _ _ _ = W at *
    refine bodyPost_ret (v := .agg #[.slice a2 n2 c2, .int .i64 x2]) (by simp [results, Try.results34, go_sem, z3, z4]) rfl ⟨_, rfl, (by rw [← ins_1 y z]; exact z1), z2⟩
  · have p1' : (x == 1) = false := by simpa using p1
    have HPP := Lib.hid (And.intro p1 p2)
    clear p1
    rw [p2] at OA
    go_wp2_with fail
    refine (OA.out _).mono ?_; rintro e4 w5 ⟨rfl, hb5⟩
    have own5 := own_grewC own3 hb5
    have bel5 := bel3.trans (hb5.mono bel3.size)
    obtain ⟨j1, j2, j3⟩ := HJ.out _ bel5
    have d0 := j3.val 0 rfl
    have d1 := j3.val 1 rfl
    have d2 := j3.val 2 rfl
    have g0 := j1.val 0 rfl
    have g1 := j1.val 1 rfl
    clear own3 hb5 bel3 j1 j2 j3 l3
    go_wp2_with fail
    have PM := Lib.hid (PT.out _ bel5 [UInt8.ofNat x.toNat] _ _ own5 (by simp; try omega) (by simp) (by simp))
    obtain ⟨j1, p2, j3⟩ := HJ.out _ bel5
    have HT5 := Lib.hid (HT3.out.trans (WrT.of bel5))
    clear own5 bel5 d0 d1 d2 j1 j3
    refine PM.out.mono ?_
    rintro e9 w6 ⟨vv', rfl, hP6, hT6⟩
    clear g0 g1
    have q2 := hT6.kept p2 (.inl rfl)
    have hP6' := Lib.hid hP6
    obtain ⟨⟨a2, n2, c2, x2, rfl, _⟩, _, _⟩ := hP6
    have g0 := q2.val 0 rfl
    have g1 := q2.val 1 rfl
    have f0 := q2.frozen 0
    have f1 := q2.frozen 1
    have HT6 := Lib.hid (HT5.out.trans (hT6.sub (K' := K) fun x hx => .inr (.inr (.inr hx))))
    clear hT6
    go_wp2
    obtain ⟨z1, z2, z3, z4⟩ := part_out (K := K) hP6'.out (.inl rfl) q2 rfl (fun x hx => .inr (.inr (.inr hx))) (fun r => by have := HK.out.2 _ r; omega) HT6.out (by have := HK.out.1; omega) rfl
    clear g0 g1 f0 f1
    generalize World.setCell _ _ _ = W at *
    refine bodyPost_ret (v := .agg #[.slice a2 n2 c2, .int .i64 x2]) (by simp [results, Try.results34, go_sem, z3, z4]) rfl ⟨_, rfl, (by rw [← ins_0 y z HPP.out]; exact z1), z2⟩
  · have p1' : (x == 1) = false := by simpa using p1
    have HPP := Lib.hid (And.intro p1 p2)
    clear p1
    obtain ⟨an, rfl⟩ := Int.eq_ofNat_of_zero_le p3
    rw [p2] at OA
    go_wp2_with fail
    refine (OA.out _).mono ?_; rintro e4 w5 ⟨rfl, hb5⟩
    have own5 := own_grewC own3 hb5
    have bel5 := bel3.trans (hb5.mono bel3.size)
    obtain ⟨j1, j2, j3⟩ := HJ.out _ bel5
    have d0 := j3.val 0 rfl
    have d1 := j3.val 1 rfl
    have d2 := j3.val 2 rfl
    have g0 := j1.val 0 rfl
    have g1 := j1.val 1 rfl
    clear own3 hb5 bel3 j1 j2 j3 l3
    go_wp2_with fail
    refine (rnumber_any an _ (by omega)).mono ?_; rintro e5 w7n ⟨v7, rfl, hO, hbn⟩
    obtain ⟨g7, cap7, rfl, hcp, hcell⟩ := own_cells hO (numB_pos _)
    have own7n := own_grewC own5 hbn
    have bel7n := bel5.trans (hbn.mono bel5.size)
    obtain ⟨j1, j2, j3⟩ := HJ.out _ bel7n
    have d0 := j3.val 0 rfl
    have d1 := j3.val 1 rfl
    have d2 := j3.val 2 rfl
    have HN7 := Lib.hid (numB_len10 (n := an) (by omega))
    clear own5 bel5 hO hcp hbn j1 j2 j3
    go_wp2_with (at_builtin; refine wpList_append_own_at _ rfl _ _ 31 rfl w3.heap.size 5 i0 (.int .u8 0) 1 1 Try.underlying31 Z.out.1 Z.out.2.1 Z.out.2.2.1 Z.out.2.2.2 rfl (by decide) _ _ _ rfl own7n ⟨g7, 0, none⟩ _ cap7 (u8L (numB (an))) rfl (by rw [u8L_len, Nat.mul_one]) (bytes_at hcell) (u8L_one _) (by have := HN7.out; simp; unfold maxLen; omega) (by have := HN7.out; simp; omega) bel7n.size ?_; intro v' w7 hown hgrow _ _; obtain ⟨ga, gc, rfl⟩ := row_shape hown; have bel7 := bel7n.grown hgrow bel7n.size (fun k hk => (own7n.lt k hk).1); obtain ⟨j1, j2, j3⟩ := HJ.out _ bel7; have d0 := j3.val 0 rfl; have d1 := j3.val 1 rfl; have d2 := j3.val 2 rfl; have g0 := j1.val 0 rfl; have g1 := j1.val 1 rfl; rw [← u8L_app] at hown; have own7 := hown; clear hown hgrow j1 j2 j3 hcell own7n bel7n)
    have PM := Lib.hid (PT.out _ bel7 ([UInt8.ofNat x.toNat] ++ numB an) _ _ own7 (by simp; try omega) (by simp) (by have := HN7.out; simp; omega))
    obtain ⟨j1, p2, j3⟩ := HJ.out _ bel7
    have HT5 := Lib.hid (HT3.out.trans (WrT.of bel7))
    clear own7 bel7 d0 d1 d2 j1 j3
    refine PM.out.mono ?_
    rintro e9 w6 ⟨vv', rfl, hP6, hT6⟩
    clear g0 g1
    have q2 := hT6.kept p2 (.inl rfl)
    have hP6' := Lib.hid hP6
    obtain ⟨⟨a2, n2, c2, x2, rfl, _⟩, _, _⟩ := hP6
    have g0 := q2.val 0 rfl
    have g1 := q2.val 1 rfl
    have f0 := q2.frozen 0
    have f1 := q2.frozen 1
    have HT6 := Lib.hid (HT5.out.trans (hT6.sub (K' := K) fun x hx => .inr (.inr (.inr hx))))
    clear hT6
    go_wp2
    obtain ⟨z1, z2, z3, z4⟩ := part_out (K := K) hP6'.out (.inl rfl) q2 rfl (fun x hx => .inr (.inr (.inr hx))) (fun r => by have := HK.out.2 _ r; omega) HT6.out (by have := HK.out.1; omega) rfl
    clear g0 g1 f0 f1
    generalize World.setCell _ _ _ = W at *
    refine bodyPost_ret (v := .agg #[.slice a2 n2 c2, .int .i64 x2]) (by simp [results, Try.results34, go_sem, z3, z4]) rfl ⟨_, rfl, (by rw [← ins_s an z HPP.out]; exact z1), z2⟩
  · have p1' : (x == 1) = false := by simpa using p1
    have HPP := Lib.hid (And.intro p1 p2)
    clear p1
    obtain ⟨an, rfl⟩ := Int.eq_ofNat_of_zero_le p3
    obtain ⟨cn, rfl⟩ := Int.eq_ofNat_of_zero_le p5
    rw [p2] at OA
    go_wp2_with fail
    refine (OA.out _).mono ?_; rintro e4 w5 ⟨rfl, hb5⟩
    have own5 := own_grewC own3 hb5
    have bel5 := bel3.trans (hb5.mono bel3.size)
    obtain ⟨j1, j2, j3⟩ := HJ.out _ bel5
    have d0 := j3.val 0 rfl
    have d1 := j3.val 1 rfl
    have d2 := j3.val 2 rfl
    have g0 := j1.val 0 rfl
    have g1 := j1.val 1 rfl
    clear own3 hb5 bel3 j1 j2 j3 l3
    go_wp2_with fail
    refine (rnumber_any an _ (by omega)).mono ?_; rintro e5 w7n ⟨v7, rfl, hO, hbn⟩
    obtain ⟨g7, cap7, rfl, hcp, hcell⟩ := own_cells hO (numB_pos _)
    have own7n := own_grewC own5 hbn
    have bel7n := bel5.trans (hbn.mono bel5.size)
    obtain ⟨j1, j2, j3⟩ := HJ.out _ bel7n
    have d0 := j3.val 0 rfl
    have d1 := j3.val 1 rfl
    have d2 := j3.val 2 rfl
    have HN7 := Lib.hid (numB_len10 (n := an) (by omega))
    clear own5 bel5 hO hcp hbn j1 j2 j3
    go_wp2_with (at_builtin; refine wpList_append_own_at _ rfl _ _ 31 rfl w3.heap.size 5 i0 (.int .u8 0) 1 1 Try.underlying31 Z.out.1 Z.out.2.1 Z.out.2.2.1 Z.out.2.2.2 rfl (by decide) _ _ _ rfl own7n ⟨g7, 0, none⟩ _ cap7 (u8L (numB (an))) rfl (by rw [u8L_len, Nat.mul_one]) (bytes_at hcell) (u8L_one _) (by have := HN7.out; simp; unfold maxLen; omega) (by have := HN7.out; simp; omega) bel7n.size ?_; intro v' w7 hown hgrow _ _; obtain ⟨ga, gc, rfl⟩ := row_shape hown; have bel7 := bel7n.grown hgrow bel7n.size (fun k hk => (own7n.lt k hk).1); obtain ⟨j1, j2, j3⟩ := HJ.out _ bel7; have d0 := j3.val 0 rfl; have d1 := j3.val 1 rfl; have d2 := j3.val 2 rfl; have g0 := j1.val 0 rfl; have g1 := j1.val 1 rfl; rw [← u8L_app] at hown; have own7 := hown; clear hown hgrow j1 j2 j3 hcell own7n bel7n)
    go_wp2_with fail
    refine (rnumber_any cn _ (by omega)).mono ?_; rintro e5 w8n ⟨v8, rfl, hO, hbn⟩
    obtain ⟨g8, cap8, rfl, hcp, hcell⟩ := own_cells hO (numB_pos _)
    have own8n := own_grewC own7 hbn
    have bel8n := bel7.trans (hbn.mono bel7.size)
    obtain ⟨j1, j2, j3⟩ := HJ.out _ bel8n
    have d0 := j3.val 0 rfl
    have d1 := j3.val 1 rfl
    have d2 := j3.val 2 rfl
    have HN8 := Lib.hid (numB_len10 (n := cn) (by omega))
    clear own7 bel7 hO hcp hbn j1 j2 j3
    go_wp2_with (at_builtin; refine wpList_append_own_at _ rfl _ _ 31 rfl w3.heap.size 5 i0 (.int .u8 0) 1 1 Try.underlying31 Z.out.1 Z.out.2.1 Z.out.2.2.1 Z.out.2.2.2 rfl (by decide) _ _ _ rfl own8n ⟨g8, 0, none⟩ _ cap8 (u8L (numB (cn))) rfl (by rw [u8L_len, Nat.mul_one]) (bytes_at hcell) (u8L_one _) (by have := HN7.out; have := HN8.out; simp; unfold maxLen; omega) (by have := HN7.out; have := HN8.out; simp; omega) bel8n.size ?_; intro v' w8 hown hgrow _ _; obtain ⟨ga, gc, rfl⟩ := row_shape hown; have bel8 := bel8n.grown hgrow bel8n.size (fun k hk => (own8n.lt k hk).1); obtain ⟨j1, j2, j3⟩ := HJ.out _ bel8; have d0 := j3.val 0 rfl; have d1 := j3.val 1 rfl; have d2 := j3.val 2 rfl; have g0 := j1.val 0 rfl; have g1 := j1.val 1 rfl; rw [← u8L_app] at hown; have own8 := hown; clear hown hgrow j1 j2 j3 hcell own8n bel8n)
    have PM := Lib.hid (PT.out _ bel8 ([UInt8.ofNat x.toNat] ++ numB an ++ numB cn) _ _ own8 (by simp; try omega) (by simp) (by have := HN7.out; have := HN8.out; simp; omega))
    obtain ⟨j1, p2, j3⟩ := HJ.out _ bel8
    have HT5 := Lib.hid (HT3.out.trans (WrT.of bel8))
    clear own8 bel8 d0 d1 d2 j1 j3
    refine PM.out.mono ?_
    rintro e9 w6 ⟨vv', rfl, hP6, hT6⟩
    clear g0 g1
    have q2 := hT6.kept p2 (.inl rfl)
    have hP6' := Lib.hid hP6
    obtain ⟨⟨a2, n2, c2, x2, rfl, _⟩, _, _⟩ := hP6
    have g0 := q2.val 0 rfl
    have g1 := q2.val 1 rfl
    have f0 := q2.frozen 0
    have f1 := q2.frozen 1
    have HT6 := Lib.hid (HT5.out.trans (hT6.sub (K' := K) fun x hx => .inr (.inr (.inr hx))))
    clear hT6
    go_wp2
    obtain ⟨z1, z2, z3, z4⟩ := part_out (K := K) hP6'.out (.inl rfl) q2 rfl (fun x hx => .inr (.inr (.inr hx))) (fun r => by have := HK.out.2 _ r; omega) HT6.out (by have := HK.out.1; omega) rfl
    clear g0 g1 f0 f1
    generalize World.setCell _ _ _ = W at *
    refine bodyPost_ret (v := .agg #[.slice a2 n2 c2, .int .i64 x2]) (by simp [results, Try.results34, go_sem, z3, z4]) rfl ⟨_, rfl, (by rw [← ins_t an cn HPP.out]; exact z1), z2⟩
theorem rins_any (f : Bool) (w : World) (B : Nat) (K : Nat → Prop) (vv : Value) (r : Res) (i : InsD) (h : PartV f w B K vv r) (hy : I64 i.a) (hz : I64 i.b) (hl : lenE r 300000000) :
    Calls Try.prog 34 #[vv, .agg #[.int .i64 i.op, .int .i64 i.a, .int .i64 i.b]] w fun e' w' => ∃ vv', e' = .returned vv' ∧ PartV false w' B K vv' (andE r (insE i)) ∧ WrT B K w w' := by
  by_cases hr : rightB i = true
  · rw [insE, if_pos hr]
    exact rins_ok f w B K vv r i.op i.a i.b h hr hy hz hl
  · rw [insE, if_neg hr]
    exact rins_bad f w B K vv r i.op i.a i.b h (by simpa using hr)
end Go.Proofs.Ytecpokegmfnlaaa
/- The document's part: types. Condition: the part's row is there; the types lie in blocks below its own. -/
namespace Go.Proofs.Ytecpokegmfnlaaa
open Go.RowKit
set_option linter.unusedVariables false
theorem andE_seq_err {r : Res} {f : Nat → Res} {i : Nat} {e : Int} (h : andE r (seqE f i) = .error e) : ∀ n, i ≤ n → andE r (seqE f n) = .error e := by
  intro n hn
  cases r with
  | error x => simpa [andE] using h
  | ok l =>
    cases hq : seqE f i with
    | error y =>
      rw [hq] at h
      rw [seqE_err hq n hn]
      simpa [andE] using h
    | ok y => rw [hq] at h; simp [andE] at h
/-- a part's error as the walk tests it -/
theorem PartV.cases {f : Bool} {w : World} {B : Nat} {K : Nat → Prop} {a : Option Addr} {n c : Nat} {e : Int} {r : Res} (h : PartV f w B K (.agg #[.slice a n c, .int .i64 e]) r) : ((e == 0) = true ∧ ∃ l, r = .ok l) ∨ ((e == 0) = false ∧ r = .error e) := by
  obtain ⟨⟨a', n', c', e', q1, q2⟩, _⟩ := h
  injection q1 with q1
  have he : e = e' := by
    have := congrArg (fun z => z[1]?) q1
    simpa using this
  subst he
  cases r with
  | ok l => exact .inl ⟨by simpa using q2.1, l, rfl⟩
  | error x => obtain ⟨rfl, q3⟩ := q2; exact .inr ⟨by simpa using q3, rfl⟩
/-- what a list's count has left: bytes only where there are not too many -/
def cntE (r : Res) (n most : Nat) : Res := andE r (if most < n then .error 3 else .ok (numB n))
theorem cntE_list (r : Res) (n most : Nat) (f : Nat → Res) : andE r (listE n most f) = andE (cntE r n most) (seqE f n) := by
  unfold cntE listE
  rw [andE_assoc]
  split <;> rfl
theorem cntE_ok {r : Res} {n most : Nat} (h : ∃ q, cntE r n most = .ok q) : n ≤ most := by
  obtain ⟨q, hq⟩ := h
  unfold cntE at hq
  by_cases h : most < n
  · rw [if_pos h] at hq
    cases r <;> simp [andE] at hq
  · omega
theorem lenE_cnt {r : Res} {n most M : Nat} (h : lenE r M) (hm : most ≤ 1000) : lenE (cntE r n most) (M + 10) := lenE_and h (by
  intro l e
  split at e
  · cases e
  · injection e with e; subst e; exact numB_len10 (by omega))
theorem lenE_at {r : Res} {n most M L : Nat} {f : Nat → Res} (h : lenE r M) (hm : most ≤ 1000) (hf : ∀ i, i < n → lenE (f i) L) (i : Nat) (hi : i ≤ n) : lenE (andE (cntE r n most) (seqE f i)) (M + 10 + most * L) := by
  cases hc : cntE r n most with
  | error x => intro l e; simp [andE] at e
  | ok q =>
    have hn := cntE_ok ⟨q, hc⟩
    have h1 := lenE_cnt (n := n) (most := most) h hm
    rw [hc] at h1
    exact lenE_mono (lenE_and h1 (lenE_seq fun j hj => hf j (by omega))) (Nat.add_le_add_left (Nat.mul_le_mul_right L (by omega)) _)
set_option maxRecDepth 100000 in
set_option maxHeartbeats 4000000 in
theorem rkinds_any (f : Bool) (w : World) (B : Nat) (K : Nat → Prop) (vv v : Value) (r : Res) (l : List Int) (most : Nat) (h : PartV f w B K vv r) (hv : RdRow 1 ElI B w v l) (hm : most ≤ 1000) (hl : lenE r 200000000) :
    Calls Try.prog 33 #[vv, v, .int .i64 most] w fun e' w' => ∃ vv', e' = .returned vv' ∧ PartV false w' B K vv' (andE r (kindsE l most)) ∧ WrT B K w w' := by
  have hlt := h.lt
  have hbw := h.bw
  have h0 := h
  obtain ⟨⟨a, m, c, e, rfl, _⟩, _, _⟩ := h0
  obtain ⟨hP, k1, k2, hb⟩ := part_laid h rfl
  have hbB := hb.mono hbw
  have RV := Lib.hid (fun W (hb' : Below B w W) => hv.keep hb' fun _ _ _ e r => r.keep hb' e)
  obtain ⟨va, vc, rfl⟩ := rd_shape hv
  have d0 := k1.val 0 rfl
  have d1 := k1.val 1 rfl
  have CN := Lib.hid (rcount_any f _ B _ _ r l.length most hP (by omega) (lenE_mono hl (by decide)))
  have HT0 : Hid (WrT B K w _) := WrT.of hb
  have HK := Lib.hid (And.intro hbw hlt)
  have HL := Lib.hid hl
  clear hP h hb hbw hlt hl hv hbB
  go_enter Try.func33, Try.ntmps33
  go_wp2_with fail
  refine CN.out.mono ?_
  rintro e' w3 ⟨vv', rfl, hP3, hT3⟩
  have q1 := hT3.kept k1 (.inr (.inl rfl))
  have q2 := hT3.kept k2 (.inl rfl)
  have hP3' := Lib.hid hP3
  obtain ⟨⟨a', n', c', x', rfl, _⟩, _, _⟩ := hP3
  have g0 := q1.val 0 rfl
  have g1 := q1.val 1 rfl
  have f0 := q1.frozen 0
  have f1 := q1.frozen 1
  have HT := Lib.hid (HT0.out.trans (hT3.sub (K' := K) fun x hx => .inr (.inr hx)))
  clear d0 d1 k1 k2 hT3 CN HT0
  go_wp2
  obtain ⟨hP4, p1, hT4⟩ := part_store hP3'.out (.inr (.inl rfl)) q1 rfl rfl
  have p2 := q2.touch hT4 (by simp)
  have HT4 : WrT B K w _ := HT.out.trans (hT4.mono (R' := fun x => B ≤ x ∧ ¬ K x) fun x _ e => by subst e; exact ⟨HK.out.1, fun r => by have := HK.out.2 _ r; omega⟩)
  clear g0 g1 f0 f1 q1 q2 hT4
  generalize World.setCell _ _ _ = W4 at *
  have hmx : l.length ≤ maxLen := by obtain ⟨_, _, _, q, _⟩ := RV.out w (Below.refl _ _); exact q
  unfold maxLen at hmx
  go_loopw [7] (fun x wr => ∃ (i : Nat) (a : Option Addr) (n c : Nat) (e : Int), i ≤ l.length ∧ x = .int .i64 i ∧ PartV false wr B (fun x => x = w.heap.size + 1 ∨ (x = w.heap.size ∨ K x)) (.agg #[.slice a n c, .int .i64 e]) (andE (cntE r l.length most) (seqE (fun i => kindE (l.getD i 0)) i)) ∧ Blk wr w.heap.size #[.slice a n c, .int .i64 e] 66 ∧ Blk wr (w.heap.size + 1) #[.slice none 0 0, .int .i64 0] 66 ∧ WrT B K w wr) (fun x _ => l.length - (intOf x).toNat)
  case atStart => exact ⟨0, _, _, _, _, by omega, rfl, by rw [seqE, andE_nil]; exact hP4, p1, p2, HT4⟩
  case round =>
    clear hP4 p1 p2 HT4
    obtain ⟨i, a4, n4, c4, e4, hi, rfl, hP5, k1, k2, hT5⟩ := hrel
    have d0 := k1.val 0 rfl
    have d1 := k1.val 1 rfl
    rcases hP5.cases with ⟨e0, q, hq⟩ | ⟨e0, hq⟩
    · by_cases hlt : i < l.length
      · have hlt' : (i : Int) < (l.length : Int) := by omega
        obtain ⟨_, _, hva, _, hel⟩ := RV.out wr (hT5.below HK.out.1)
        injection hva with hva1 hva2 hva3
        subst hva1 hva3
        obtain ⟨d, o, hdo, hdB, c1, _⟩ := hel i hlt
        subst hdo
        rw [Nat.mul_one] at c1
        have hg : l.getD i 0 = l[i] := by simp [List.getD_eq_getElem?_getD, hlt]
        have KN := Lib.hid (rkind_any false wr.drew B _ _ _ l[i] (hP5.grew (Below.refl _ _).drew) (lenE_mono (lenE_at (n := l.length) HL.out hm (fun j _ => lenE_kind (l.getD j 0)) i hi) (by omega)))
        have HE : Hid (andE (andE (cntE r l.length most) (seqE (fun i => kindE (l.getD i 0)) i)) (kindE l[i]) = andE (cntE r l.length most) (seqE (fun i => kindE (l.getD i 0)) (i + 1))) := by
          unfold Hid; rw [seqE, andE_assoc, hg]
        have k1d := k1.drew
        have k2d := k2.drew
        have HTd := Lib.hid (hT5.trans (WrT.of (Below.refl _ _).drew))
        have i1 : (0 : Int) ≤ (i : Int) ∧ (i : Int) < (l.length : Int) := ⟨by omega, by omega⟩
        have i2 : 0 < l.length := by omega
        clear hq hel hg hP5 k1 k2 hT5
        generalize l[i] = t at *
        go_wp2_with fail
        go_still_tail 5, (by kernel_rfl)
        change wpList _ _ _ _ _ wr.drew
        clear d0 d1 c1
        generalize wr.drew = w5 at *
        go_wp2_with fail
        refine KN.out.mono ?_
        rintro e9 w6 ⟨vv', rfl, hP6, hT6⟩
        have q1 := hT6.kept k1d (.inr (.inl rfl))
        have q2 := hT6.kept k2d (.inl rfl)
        have hP6' := Lib.hid hP6
        obtain ⟨⟨a6, n6, c6, x6, rfl, _⟩, _, _⟩ := hP6
        have g0 := q1.val 0 rfl
        have g1 := q1.val 1 rfl
        have f0 := q1.frozen 0
        have f1 := q1.frozen 1
        have HT6 := Lib.hid (HTd.out.trans (hT6.sub (K' := K) fun x hx => .inr (.inr hx)))
        clear hT6 KN k1d k2d
        go_wp2
        obtain ⟨hP7, p1, hT7⟩ := part_store hP6'.out (.inr (.inl rfl)) q1 rfl rfl
        have p2 := q2.touch hT7 (by simp)
        have HT7 : WrT B K w _ := HT6.out.trans (hT7.mono (R' := fun x => B ≤ x ∧ ¬ K x) fun x _ e => by subst e; exact ⟨HK.out.1, fun r => by have := HK.out.2 _ r; omega⟩)
        rw [HE.out] at hP7
        go_roundw
        case rel => exact ⟨i + 1, _, _, _, _, by omega, by go_num, hP7, p1, p2, HT7⟩
        case measure => simp [intOf]; omega
      · have hlt' : ¬ (i : Int) < (l.length : Int) := by omega
        obtain rfl : i = l.length := by omega
        have g0 := k2.val 0 rfl
        have g1 := k2.val 1 rfl
        have f0 := k2.frozen 0
        have f1 := k2.frozen 1
        have HP := Lib.hid hP5
        have HT5 := Lib.hid hT5
        clear hq hP5 hT5
        go_wp2
        obtain ⟨z1, z2, z3, z4⟩ := part_out (K := K) HP.out (.inl rfl) k2 rfl (fun x hx => .inr (.inr hx)) (fun r => by have := HK.out.2 _ r; omega) HT5.out (by have := HK.out.1; omega) rfl
        generalize World.setCell _ _ _ = W at *
        refine bodyPost_ret (v := .agg #[.slice a4 n4 c4, .int .i64 e4]) (by simp [results, Try.results33, go_sem, z3, z4]) rfl ⟨_, rfl, (by rw [kindsE, cntE_list]; exact z1), z2⟩
    · have g0 := k2.val 0 rfl
      have g1 := k2.val 1 rfl
      have f0 := k2.frozen 0
      have f1 := k2.frozen 1
      have HP := Lib.hid hP5
      have HT5 := Lib.hid hT5
      have HQ : Hid (andE r (kindsE l most) = .error e4) := by unfold Hid; rw [kindsE, cntE_list]; exact andE_seq_err hq _ hi
      have HQ2 := Lib.hid hq
      clear hq hP5 hT5
      by_cases hlt : i < l.length
      all_goals
        first | (have hlt' : (i : Int) < (l.length : Int) := by omega) | (have hlt' : ¬ (i : Int) < (l.length : Int) := by omega)
        go_wp2
        obtain ⟨z1, z2, z3, z4⟩ := part_out (K := K) HP.out (.inl rfl) k2 rfl (fun x hx => .inr (.inr hx)) (fun r => by have := HK.out.2 _ r; omega) HT5.out (by have := HK.out.1; omega) rfl
        generalize World.setCell _ _ _ = W at *
        refine bodyPost_ret (v := .agg #[.slice a4 n4 c4, .int .i64 e4]) (by simp [results, Try.results33, go_sem, z3, z4]) rfl ⟨_, rfl, (by rw [HQ.out, ← HQ2.out]; exact z1), z2⟩
end Go.Proofs.Ytecpokegmfnlaaa
