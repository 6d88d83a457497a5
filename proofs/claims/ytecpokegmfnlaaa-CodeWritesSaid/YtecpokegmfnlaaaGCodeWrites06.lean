/- Texts of this seat, one behind the other: each says at its head what it holds. No condition of its own. -/
import Derived.Deep.RegionHeld3
import Derived.Test.YtecpokegmfnlaaaGCodeWrites04
import Derived.Test.YtecpokegmfnlaaaGCodeWrites05
/- The document's part: count. Condition: the part's row is there. -/
namespace Go.Proofs.Ytecpokegmfnlaaa
open Go.RowKit
set_option linter.unusedVariables false
theorem op_at {l : List Oper} {i : Nat} {o : Oper} (h : l[i]? = some o) : l.toArray[i]? = some o := by simpa using h
theorem bytes_at {w : World} {g : Nat} {l : List UInt8} (h : ∀ j (hj : j < l.length), w.cell? ⟨g, j, none⟩ = some (.int .u8 (l[j].toNat : Int))) : ∀ j u, (u8L l)[j]? = some u → w.cell? ((⟨g, 0, none⟩ : Addr).add j) = some u := by
  intro j u hu
  have e : (⟨g, 0, none⟩ : Addr).add j = ⟨g, j, none⟩ := by unfold Addr.add; split <;> simp_all
  have hj : j < l.length := by
    have := (List.getElem?_eq_some_iff.1 hu).1
    simpa [u8L] using this
  rw [e, h j hj]
  simp [u8L, hj] at hu
  rw [hu]
theorem put_m (f : Bool) (w : World) (B : Nat) (K : Nat → Prop) (vv : Value) (r : Res) (m : List UInt8) (ad : Addr) (c2 : Nat) (h : PartV f w B K vv r) (hm : ∀ j u, (u8L m)[j]? = some u → w.cell? (ad.add j) = some u) (hpos : 0 < m.length ∨ f = false) (hl : lenE r 500000000) (hsz : (∃ l, r = .ok l) → m.length ≤ 500000000) :
    Calls Try.prog 65 #[vv, .slice (some ad) m.length c2, .int .i64 0] w fun e' w' => ∃ vv', e' = .returned vv' ∧ PartV false w' B K vv' (andE r (.ok m)) ∧ WrT B K w w' := by
  cases r with
  | ok l => exact put_ok f w B K vv l m ad c2 h hm hpos (by have := hl l rfl; have := hsz ⟨l, rfl⟩; omega)
  | error x => exact (put_old f w B K vv _ x 0 h ⟨_, _, _, rfl⟩).mono fun e' w' ⟨vv', he, hP, hb⟩ => ⟨vv', he, hP, WrT.of hb⟩
theorem put_e (f : Bool) (w : World) (B : Nat) (K : Nat → Prop) (vv v2 : Value) (r : Res) (e2 : Int) (h : PartV f w B K vv r) (he : e2 ≠ 0) (hv2 : ∃ a n c, v2 = .slice a n c) :
    Calls Try.prog 65 #[vv, v2, .int .i64 e2] w fun e' w' => ∃ vv', e' = .returned vv' ∧ PartV false w' B K vv' (andE r (.error e2)) ∧ WrT B K w w' := by
  cases r with
  | ok l => exact (put_new f w B K vv v2 l e2 h he hv2).mono fun e' w' ⟨vv', he, hP, hb⟩ => ⟨vv', he, hP, WrT.of hb⟩
  | error x => exact (put_old f w B K vv v2 x e2 h hv2).mono fun e' w' ⟨vv', he, hP, hb⟩ => ⟨vv', he, hP, WrT.of hb⟩
/-- the box of a part and the cell of the result, laid at a call's beginning -/
theorem part_laid {f : Bool} {w : World} {B : Nat} {K : Nat → Prop} {a : Option Addr} {n c : Nat} {e : Int} {r : Res} (h : PartV f w B K (.agg #[.slice a n c, .int .i64 e]) r) {W : World} (hW : W = (w.alloc (.cells #[.slice a n c, .int .i64 e] 66)).alloc (.cells #[.slice none 0 0, .int .i64 0] 66)) :
    PartV f W B (fun x => x = w.heap.size + 1 ∨ (x = w.heap.size ∨ K x)) (.agg #[.slice a n c, .int .i64 e]) r ∧ Blk W w.heap.size #[.slice a n c, .int .i64 e] 66 ∧ Blk W (w.heap.size + 1) #[.slice none 0 0, .int .i64 0] 66 ∧ Below w.heap.size w W := by
  subst hW
  have hb1 : Below w.heap.size w (w.alloc (.cells #[.slice a n c, .int .i64 e] 66)) := (Below.refl _ _).alloc (Nat.le_refl _) _
  exact ⟨(h.add hb1 (m := w.heap.size) (Nat.le_refl _) (by simp)).add ((Below.refl _ _).alloc (Nat.le_refl _) _) (m := w.heap.size + 1) (by simp) (by simp), (Blk.new _ _ _).alloc _, (two_new w _ _ _).1, (two_new w _ _ _).2⟩
/-- behind the last store into the result's cell -/
theorem part_out {f : Bool} {w w1 : World} {B S : Nat} {K K' : Nat → Prop} {a : Option Addr} {n c : Nat} {e : Int} {r : Res} {cs : Array Value} (h : PartV f w1 B K' (.agg #[.slice a n c, .int .i64 e]) r) (hS : K' S) (hk : Blk w1 S cs 66) (hcs : cs.size = 2) (hKK : ∀ x, K x → K' x) (hKS : ¬ K S) (hT : WrT B K w w1) (hB : B ≤ S) {W : World} (hW : W = (w1.setCell ⟨S, 0, none⟩ (.slice a n c)).setCell ⟨S, 1, none⟩ (.int .i64 e)) :
    PartV f W B K (.agg #[.slice a n c, .int .i64 e]) r ∧ WrT B K w W ∧ W.cell? ⟨S, 0, none⟩ = some (.slice a n c) ∧ W.cell? ⟨S, 1, none⟩ = some (.int .i64 e) := by
  subst hW
  have hT3 : Touch (fun x => x = S) w1 ((w1.setCell ⟨S, 0, none⟩ (.slice a n c)).setCell ⟨S, 1, none⟩ (.int .i64 e)) := ((Touch.refl (fun x => x = S) w1).setCell (p := ⟨S, 0, none⟩) rfl _).setCell (p := ⟨S, 1, none⟩) rfl _
  have k3 := (hk.set 0 (.slice a n c)).set 1 (.int .i64 e)
  refine ⟨(h.touch hT3 fun x e => e ▸ hS).sub hKK, WrT.trans hT (hT3.mono fun x _ e => by subst e; exact ⟨hB, hKS⟩), k3.val 0 (by simp [hcs]), k3.val 1 (by simp [hcs])⟩
set_option maxRecDepth 100000 in
set_option maxHeartbeats 2000000 in
theorem count_big (f : Bool) (w : World) (B : Nat) (K : Nat → Prop) (vv : Value) (r : Res) (n most : Nat) (h : PartV f w B K vv r) (hn : most < n) :
    Calls Try.prog 30 #[vv, .int .i64 n, .int .i64 most] w fun e' w' => ∃ vv', e' = .returned vv' ∧ PartV false w' B K vv' (andE r (.error 3)) ∧ WrT B K w w' := by
  have hlt := h.lt
  have hbw := h.bw
  have h0 := h
  obtain ⟨⟨a, m, c, e, rfl, _⟩, _, _⟩ := h0
  obtain ⟨hP, k1, k2, hb⟩ := part_laid h rfl
  have hn' : (most : Int) < (n : Int) := by omega
  have d0 := k1.val 0 rfl
  have d1 := k1.val 1 rfl
  have PE := Lib.hid (put_e f _ B _ _ (.slice none 0 0) r 3 hP (by decide) ⟨_, _, _, rfl⟩)
  have HT0 : Hid (WrT B K w _) := WrT.of hb
  have HK := Lib.hid (And.intro hbw hlt)
  clear hP h hb hbw hlt
  go_enter Try.func30, Try.ntmps30
  go_wp2_with fail
  refine PE.out.mono ?_
  rintro e' w3 ⟨vv', rfl, hP3, hT3⟩
  have q2 := hT3.kept k2 (.inl rfl)
  have hP3' := Lib.hid hP3
  obtain ⟨⟨a', n', c', x', rfl, _⟩, _, _⟩ := hP3
  have g0 := q2.val 0 rfl
  have g1 := q2.val 1 rfl
  have f0 := q2.frozen 0
  have f1 := q2.frozen 1
  have HT := Lib.hid (HT0.out.trans (hT3.sub (K' := K) fun x hx => .inr (.inr hx)))
  clear d0 d1 k1 k2 hT3
  go_wp2
  obtain ⟨z1, z2, z3, z4⟩ := part_out (K := K) hP3'.out (.inl rfl) q2 rfl (fun x hx => .inr (.inr hx)) (fun r => by have := HK.out.2 _ r; omega) HT.out (by have := HK.out.1; omega) rfl
  generalize World.setCell _ _ _ = W at *
  refine bodyPost_ret (v := .agg #[.slice a' n' c', .int .i64 x']) (by simp [results, Try.results30, go_sem, z3, z4]) rfl ⟨_, rfl, z1, z2⟩
set_option maxRecDepth 100000 in
set_option maxHeartbeats 4000000 in
theorem count_fit (f : Bool) (w : World) (B : Nat) (K : Nat → Prop) (vv : Value) (r : Res) (n most : Nat) (h : PartV f w B K vv r) (hn : n ≤ most) (hm : most ≤ 1000) (hl : lenE r 400000000) :
    Calls Try.prog 30 #[vv, .int .i64 n, .int .i64 most] w fun e' w' => ∃ vv', e' = .returned vv' ∧ PartV false w' B K vv' (andE r (.ok (numB n))) ∧ WrT B K w w' := by
  have hlt := h.lt
  have hbw := h.bw
  have h0 := h
  obtain ⟨⟨a, m, c, e, rfl, _⟩, _, _⟩ := h0
  have hn' : ¬ (most : Int) < (n : Int) := by omega
  have hn2 : (n : Int) ≤ 1000 := by omega
  go_enter Try.func30, Try.ntmps30
  go_wp2_with fail
  obtain ⟨hP, k1, k2, hb⟩ := part_laid h rfl
  generalize World.alloc _ _ = W0 at *
  have HT0 : Hid (WrT B K w W0) := WrT.of hb
  have HK := Lib.hid (And.intro hbw hlt)
  have SQ := Lib.hid (fun W (hb : Below W0.heap.size W0 W) => And.intro ((Blk.grew k1 hb).val 0 rfl) ((Blk.grew k1 hb).val 1 rfl))
  have hwr : IntKind.u64.wrap (n : Int) = (n : Int) := by rw [IntKind.wrap_u64]; omega
  have NU := Lib.hid (fun W => rnumber_any n W (by omega))
  rw [← hwr] at NU
  clear hwr
  have HPP := Lib.hid (fun W (hb : Below W0.heap.size W0 W) => And.intro (hP.grew hb) (Blk.grew k2 hb))
  have hd : Below W0.heap.size W0 W0.drew := (Below.refl _ _).drew
  have K1 := Lib.hid (fun W (hb : Below W0.heap.size W0 W) => Blk.grew k1 hb)
  have HNL := Lib.hid (And.intro (show 0 < (numB n).length from numB_pos n) (numB_len10 (n := n) (by omega)))
  have HL := Lib.hid hl
  clear h hb hbw hlt hP k1 k2 hl
  refine wp_region_held_drew (S := fun W => W.cell? ⟨w.heap.size, 0, none⟩ = some (.slice a m c) ∧ W.cell? ⟨w.heap.size, 1, none⟩ = some (.int .i64 e)) (by kernel_rfl) (SQ.out _ hd) (fun hHeld => ?_)
  refine wpAnyH_take (i := 0) (oi := _) (v := ?_) (op_at rfl) (by kernel_rfl) (by kernel_rfl) (by kernel_rfl) (fun _ _ _ h => h) (Or.inl ⟨by rfl, ?_⟩) hHeld ?_
  rotate_left 1
  focus (intro W hSw; (try dsimp only at hSw); go_simp; (try (with_reducible rfl)))
  (try simp only [Act.put, List.setIfInBounds_toArray, List.set_cons_zero, List.set_cons_succ])
  refine wpAnyH_take (i := 1) (oi := _) (v := ?_) (op_at rfl) (by kernel_rfl) (by kernel_rfl) (by kernel_rfl) (fun _ _ _ h => h) (Or.inl ⟨by rfl, ?_⟩) hHeld ?_
  rotate_left 1
  focus (intro W hSw; (try dsimp only at hSw); go_simp; (try (with_reducible rfl)))
  (try simp only [Act.put, List.setIfInBounds_toArray, List.set_cons_zero, List.set_cons_succ])
  refine wpAnyH_take (i := 2) (oi := _) (v := ?_) (op_at rfl) (by kernel_rfl) (by kernel_rfl) (by kernel_rfl) (fun _ _ _ h => h) (Or.inl ⟨by rfl, ?_⟩) hHeld ?_
  rotate_left 1
  focus (intro W hSw; (try dsimp only at hSw); go_simp; (try (with_reducible rfl)))
  (try simp only [Act.put, List.setIfInBounds_toArray, List.set_cons_zero, List.set_cons_succ])
  refine wpAnyH_ready (rs := [3]) (by kernel_rfl) (by simp) ?_
  refine AllReadyH.cons (o := _) (op_at rfl) (fun Kc hKc => ?_) AllReadyH.nil
  go_simp
  go_at_call 66
  (with_reducible refine (NU.out _).mono ?_)
  rintro e8 w8 ⟨v, rfl, hO, hb8⟩
  have h8 := hd.trans (hb8.mono hd.size)
  obtain ⟨g, cap, rfl, hcap, hcell⟩ := own_cells hO HNL.out.1
  obtain ⟨hP8, k8⟩ := HPP.out _ h8
  have j8 := K1.out _ h8
  have s8 := SQ.out _ h8
  have h8b := Lib.hid h8
  clear hO hcap hb8 h8 hd
  go_wp2_with fail
  refine hKc.out _ _ ?_ (fun hHeld => ?_)
  focus exact s8
  clear hKc Kc
  (try simp only [Act.put, List.setIfInBounds_toArray, List.set_cons_zero, List.set_cons_succ])
  refine wpAnyH_ready (rs := [4]) (by kernel_rfl) (by simp) ?_
  refine AllReadyH.cons (o := _) (op_at rfl) (fun Kc hKc => ?_) AllReadyH.nil
  go_simp
  go_at_call 65
  (with_reducible refine (put_m f _ B _ _ r (numB n) ⟨g, 0, none⟩ cap hP8 (bytes_at hcell) (.inl HNL.out.1) (lenE_mono HL.out (by decide)) (fun _ => Nat.le_trans HNL.out.2 (by decide))).mono ?_)
  rintro e9 w9 ⟨vv', rfl, hP9, hT9⟩
  have q2 := hT9.kept k8 (.inl rfl)
  have q1 := hT9.kept j8 (.inr (.inl rfl))
  have hP9' := Lib.hid hP9
  obtain ⟨⟨a', n', c', x', rfl, _⟩, _, _⟩ := hP9
  have g0 := q2.val 0 rfl
  have g1 := q2.val 1 rfl
  have f0 := q2.frozen 0
  have f1 := q2.frozen 1
  have HT := Lib.hid (HT0.out.trans (WrT.trans (WrT.of h8b.out) (hT9.sub (K' := K) fun x hx => .inr (.inr hx))))
  clear s8 hP8 hT9 k8 j8 hcell
  go_wp2_with fail
  refine hKc.out _ _ ?_ (fun hHeld => ?_)
  focus exact ⟨q1.val 0 rfl, q1.val 1 rfl⟩
  clear hKc Kc
  (try simp only [Act.put, List.setIfInBounds_toArray, List.set_cons_zero, List.set_cons_succ])
  refine wpAnyH_ready (rs := [5]) (by kernel_rfl) (by simp) ?_
  refine AllReadyH.cons (o := _) (op_at rfl) (fun Kc hKc => ?_) AllReadyH.nil
  go_simp
  refine hKc.out _ _ ?_ (fun hHeld => ?_)
  focus exact ⟨((q1.other ⟨w.heap.size + 1, 0, none⟩ _ (by simp)).other ⟨w.heap.size + 1, 1, none⟩ _ (by simp)).val 0 rfl, ((q1.other ⟨w.heap.size + 1, 0, none⟩ _ (by simp)).other ⟨w.heap.size + 1, 1, none⟩ _ (by simp)).val 1 rfl⟩
  clear hKc Kc
  (try simp only [Act.put, List.setIfInBounds_toArray, List.set_cons_zero, List.set_cons_succ])
  refine wpAnyH_done (by kernel_rfl) ?_ _
  obtain ⟨z1, z2, z3, z4⟩ := part_out (K := K) hP9'.out (.inl rfl) q2 rfl (fun x hx => .inr (.inr hx)) (fun r => by have := HK.out.2 _ r; omega) HT.out (by have := HK.out.1; omega) rfl
  clear g0 g1 f0 f1
  generalize World.setCell _ _ _ = W at *
  go_wp2
  refine bodyPost_ret (v := .agg #[.slice a' n' c', .int .i64 x']) (by simp [results, Try.results30, go_sem, z3, z4]) rfl ⟨_, rfl, z1, z2⟩
theorem rcount_any (f : Bool) (w : World) (B : Nat) (K : Nat → Prop) (vv : Value) (r : Res) (n most : Nat) (h : PartV f w B K vv r) (hm : most ≤ 1000) (hl : lenE r 400000000) :
    Calls Try.prog 30 #[vv, .int .i64 n, .int .i64 most] w fun e' w' => ∃ vv', e' = .returned vv' ∧ PartV false w' B K vv' (andE r (if most < n then .error 3 else .ok (numB n))) ∧ WrT B K w w' := by
  by_cases hn : most < n
  · rw [if_pos hn]; exact count_big f w B K vv r n most h hn
  · rw [if_neg hn]; exact count_fit f w B K vv r n most h (by omega) hm hl
end Go.Proofs.Ytecpokegmfnlaaa
/- The document's part: a name, a type. Condition: the part's row is there. -/
namespace Go.Proofs.Ytecpokegmfnlaaa
open Go.RowKit
set_option linter.unusedVariables false
/-- a part stored into a box that is none of its own -/
theorem part_store {f : Bool} {w1 : World} {B S : Nat} {K' : Nat → Prop} {a : Option Addr} {n c : Nat} {e : Int} {r : Res} {cs : Array Value} (h : PartV f w1 B K' (.agg #[.slice a n c, .int .i64 e]) r) (hS : K' S) (hk : Blk w1 S cs 66) (hcs : cs.size = 2) {W : World} (hW : W = (w1.setCell ⟨S, 0, none⟩ (.slice a n c)).setCell ⟨S, 1, none⟩ (.int .i64 e)) :
    PartV f W B K' (.agg #[.slice a n c, .int .i64 e]) r ∧ Blk W S #[.slice a n c, .int .i64 e] 66 ∧ Touch (fun x => x = S) w1 W := by
  subst hW
  have hT3 : Touch (fun x => x = S) w1 ((w1.setCell ⟨S, 0, none⟩ (.slice a n c)).setCell ⟨S, 1, none⟩ (.int .i64 e)) := ((Touch.refl (fun x => x = S) w1).setCell (p := ⟨S, 0, none⟩) rfl _).setCell (p := ⟨S, 1, none⟩) rfl _
  have k3 := (hk.set 0 (.slice a n c)).set 1 (.int .i64 e)
  refine ⟨h.touch hT3 fun x e => e ▸ hS, ?_, hT3⟩
  obtain ⟨l⟩ := cs
  obtain ⟨x, y, rfl⟩ : ∃ x y, l = [x, y] := by
    match l, hcs with
    | [x, y], _ => exact ⟨x, y, rfl⟩
  simpa using k3
theorem seqE_name (s : ByteArray) : ∀ k, k ≤ s.data.toList.length → seqE (nameF s) k = .ok (s.data.toList.take k)
  | 0, _ => rfl
  | k + 1, h => by
    have hk : k < s.data.toList.length := h
    rw [seqE, seqE_name s k (by omega), nameF, andE_ok, List.take_succ_eq_append_getElem hk, List.getD_eq_getElem?_getD, List.getElem?_eq_getElem hk]
    rfl
theorem nameE_eq (s : ByteArray) : nameE s = if 16 < s.size then .error 3 else andE (.ok (numB s.size)) (.ok s.data.toList) := by
  unfold nameE listE
  have e : s.size = s.data.toList.length := by simp
  split
  · rfl
  · rw [seqE_name s s.size (by omega), List.take_of_length_le (by omega)]
theorem bytes_new (w : World) (s : ByteArray) (cap : Nat) (t : TypeId) (fr : Nat × Nat) : ∀ j u, (u8L s.data.toList)[j]? = some u → (w.drew.alloc (.cells (bytesRow s cap) t fr)).cell? ((⟨w.heap.size, 0, none⟩ : Addr).add j) = some u := by
  intro j u hu
  have e : (⟨w.heap.size, 0, none⟩ : Addr).add j = ⟨w.heap.size, j, none⟩ := by unfold Addr.add; split <;> simp_all
  have hj : j < s.data.size := by
    have := (List.getElem?_eq_some_iff.1 hu).1
    simpa [u8L] using this
  have c := World.cell?_alloc_mark w.drew (bytesRow s cap) t fr j
  rw [bytesRow_at s cap j hj] at c
  rw [e]
  have c' : (w.drew.alloc (.cells (bytesRow s cap) t fr)).cell? ⟨w.heap.size, j, none⟩ = some (.int .u8 (s.data[j].toNat : Int)) := c
  rw [c']
  have hj' : j < s.data.toList.length := by simpa using hj
  rw [u8L, List.getElem?_map, List.getElem?_eq_getElem hj'] at hu
  simpa using hu
set_option maxRecDepth 100000 in
set_option maxHeartbeats 4000000 in
theorem rtext_any (f : Bool) (w : World) (B : Nat) (K : Nat → Prop) (vv : Value) (r : Res) (s : ByteArray) (h : PartV f w B K vv r) (hl : lenE r 300000000) :
    Calls Try.prog 31 #[vv, .string s] w fun e' w' => ∃ vv', e' = .returned vv' ∧ PartV false w' B K vv' (andE r (nameE s)) ∧ WrT B K w w' := by
  have hlt := h.lt
  have hbw := h.bw
  have h0 := h
  obtain ⟨⟨a, m, c, e, rfl, _⟩, _, _⟩ := h0
  obtain ⟨hP, k1, k2, hb⟩ := part_laid h rfl
  have d0 := k1.val 0 rfl
  have d1 := k1.val 1 rfl
  have CN := Lib.hid (rcount_any f _ B _ _ r s.size 16 hP (by decide) (lenE_mono hl (by decide)))
  have HT0 : Hid (WrT B K w _) := WrT.of hb
  have HK := Lib.hid (And.intro hbw hlt)
  have HC : lenE (if 16 < s.size then Except.error 3 else Except.ok (numB s.size)) 10 := by
    intro l e
    split at e
    · cases e
    · injection e with e; subst e; exact numB_len10 (by omega)
  have HL := Lib.hid (lenE_and hl HC)
  clear HC
  have HE : Hid (andE r (nameE s) = andE (andE r (if 16 < s.size then Except.error 3 else Except.ok (numB s.size))) (.ok s.data.toList)) := by
    unfold Hid
    rw [nameE_eq, andE_assoc]
    split <;> rfl
  have H16 : Hid ((∃ l, andE r (if 16 < s.size then Except.error 3 else Except.ok (numB s.size)) = .ok l) → s.data.toList.length ≤ 500000000) := by
    rintro ⟨l, hl⟩
    by_cases h : 16 < s.size
    · rw [if_pos h] at hl
      cases r <;> simp [andE] at hl
    · have e : s.data.toList.length = s.size := by simp
      omega
  generalize hr2 : andE r (if 16 < s.size then Except.error 3 else Except.ok (numB s.size)) = r2 at *
  clear hr2
  have hcv := fun (W : World) => run_bytes_of_string (P := Try.prog) W 9 31 5 s Try.underlying9 Try.underlying31 Try.underlying5
  clear hP h hb hbw hlt hl
  go_enter Try.func31, Try.ntmps31
  go_wp2_with fail
  refine CN.out.mono ?_
  rintro e' w3 ⟨vv', rfl, hP3, hT3⟩
  have q1 := hT3.kept k1 (.inr (.inl rfl))
  have q2 := hT3.kept k2 (.inl rfl)
  have hP3' := Lib.hid hP3
  obtain ⟨⟨a', n', c', x', rfl, _⟩, _, _⟩ := hP3
  have g0 := q1.val 0 rfl
  have g1 := q1.val 1 rfl
  have f0 := q1.frozen 0
  have f1 := q1.frozen 1
  have HT := Lib.hid (HT0.out.trans (hT3.sub (K' := K) fun x hx => .inr (.inr hx)))
  clear d0 d1 k1 k2 hT3 CN HT0
  go_wp2_with fail
  obtain ⟨hP4, p1, hT4⟩ := part_store hP3'.out (.inr (.inl rfl)) q1 rfl rfl
  have p2 := q2.touch hT4 (by simp)
  have HT4 := Lib.hid (HT.out.trans (hT4.mono (R' := fun x => B ≤ x ∧ ¬ K x) fun x _ e => by subst e; exact ⟨HK.out.1, fun r => by have := HK.out.2 _ r; omega⟩))
  have hsz4 : ((w3.setCell ⟨w.heap.size, 0, none⟩ (.slice a' n' c')).setCell ⟨w.heap.size, 1, none⟩ (.int .i64 x')).heap.size = w3.heap.size := by simp
  clear g0 g1 f0 f1 q1 q2 hT4
  generalize World.setCell _ _ _ = W4 at *
  have d0 := p1.val 0 rfl
  have d1 := p1.val 1 rfl
  have b5 : Below W4.heap.size W4 (W4.alloc (.cells (bytesRow s (grownCap W4 s.size 0 5)) 5 ((bytesRow s (grownCap W4 s.size 0 5)).size, (bytesRow s (grownCap W4 s.size 0 5)).size + 1))).drew := ((Below.refl W4.heap.size W4).alloc (Nat.le_refl _) _).drew
  have PM := put_m false _ B _ _ r2 s.data.toList ⟨w3.heap.size, 0, none⟩ (grownCap W4 s.size 0 5) (hP4.grew b5) (by rw [← hsz4]; exact bytes_new W4 s _ _ _) (.inr rfl) (lenE_mono HL.out (by decide))
  have p2 := p2.grew b5
  have HT5 := Lib.hid (HT4.out.trans (WrT.of b5))
  generalize hcap : grownCap W4 s.size 0 5 = cap at *
  clear hcap
  have PM := Lib.hid (PM H16.out)
  rw [show s.data.toList.length = s.size by simp] at PM
  clear hP4 b5 HT4
  go_wp2_with fail
  generalize World.drew _ = W5 at *
  (with_reducible refine PM.out.mono ?_)
  rintro e9 w6 ⟨vv', rfl, hP6, hT6⟩
  have q2 := hT6.kept p2 (.inl rfl)
  have hP6' := Lib.hid hP6
  obtain ⟨⟨a2, n2, c2, x2, rfl, _⟩, _, _⟩ := hP6
  have g0 := q2.val 0 rfl
  have g1 := q2.val 1 rfl
  have f0 := q2.frozen 0
  have f1 := q2.frozen 1
  have HT6 := Lib.hid (HT5.out.trans (hT6.sub (K' := K) fun x hx => .inr (.inr hx)))
  clear d0 d1 hT6 PM HT5
  go_wp2
  obtain ⟨z1, z2, z3, z4⟩ := part_out (K := K) hP6'.out (.inl rfl) q2 rfl (fun x hx => .inr (.inr hx)) (fun r => by have := HK.out.2 _ r; omega) HT6.out (by have := HK.out.1; omega) rfl
  generalize World.setCell _ _ _ = W at *
  refine bodyPost_ret (v := .agg #[.slice a2 n2 c2, .int .i64 x2]) (by simp [results, Try.results31, go_sem, z3, z4]) rfl ⟨_, rfl, HE.out ▸ z1, z2⟩
end Go.Proofs.Ytecpokegmfnlaaa
/- The document's part: a type; types. Condition: the part's row is there. -/
namespace Go.Proofs.Ytecpokegmfnlaaa
open Go.RowKit
set_option linter.unusedVariables false
set_option maxRecDepth 100000 in
set_option maxHeartbeats 4000000 in
theorem rkind_bad (f : Bool) (w : World) (B : Nat) (K : Nat → Prop) (vv : Value) (r : Res) (t : Int) (h : PartV f w B K vv r) (ht : t < 0 ∨ 2 < t) :
    Calls Try.prog 32 #[vv, .int .i64 t] w fun e' w' => ∃ vv', e' = .returned vv' ∧ PartV false w' B K vv' (andE r (.error 32)) ∧ WrT B K w w' := by
  have hlt := h.lt
  have hbw := h.bw
  have h0 := h
  obtain ⟨⟨a, m, c, e, rfl, _⟩, _, _⟩ := h0
  obtain ⟨hP, k1, k2, hb⟩ := part_laid h rfl
  have d0 := k1.val 0 rfl
  have d1 := k1.val 1 rfl
  have PE := Lib.hid (put_e f _ B _ _ (.slice none 0 0) r 32 hP (by decide) ⟨_, _, _, rfl⟩)
  have HT0 : Hid (WrT B K w _) := WrT.of hb
  have HK := Lib.hid (And.intro hbw hlt)
  clear hP h hb hbw hlt
  rcases ht with ht | ht
  · go_enter Try.func32, Try.ntmps32
    go_wp2_with fail
    refine PE.out.mono ?_
    rintro e' w3 ⟨vv', rfl, hP3, hT3⟩
    have q2 := hT3.kept k2 (.inl rfl)
    have hP3' := Lib.hid hP3
    obtain ⟨⟨a', n', c', x', rfl, _⟩, _, _⟩ := hP3
    have g0 := q2.val 0 rfl
    have g1 := q2.val 1 rfl
    have f0 := q2.frozen 0
    have f1 := q2.frozen 1
    have HT := Lib.hid (HT0.out.trans (hT3.sub (K' := K) fun x hx => .inr (.inr hx)))
    clear d0 d1 k1 k2 hT3
    go_wp2
    obtain ⟨z1, z2, z3, z4⟩ := part_out (K := K) hP3'.out (.inl rfl) q2 rfl (fun x hx => .inr (.inr hx)) (fun r => by have := HK.out.2 _ r; omega) HT.out (by have := HK.out.1; omega) rfl
    generalize World.setCell _ _ _ = W at *
    refine bodyPost_ret (v := .agg #[.slice a' n' c', .int .i64 x']) (by simp [results, Try.results32, go_sem, z3, z4]) rfl ⟨_, rfl, z1, z2⟩
  · have ht0 : 0 ≤ t := by omega
    go_enter Try.func32, Try.ntmps32
    go_wp2_with fail
    refine PE.out.mono ?_
    rintro e' w3 ⟨vv', rfl, hP3, hT3⟩
    have q2 := hT3.kept k2 (.inl rfl)
    have hP3' := Lib.hid hP3
    obtain ⟨⟨a', n', c', x', rfl, _⟩, _, _⟩ := hP3
    have g0 := q2.val 0 rfl
    have g1 := q2.val 1 rfl
    have f0 := q2.frozen 0
    have f1 := q2.frozen 1
    have HT := Lib.hid (HT0.out.trans (hT3.sub (K' := K) fun x hx => .inr (.inr hx)))
    clear d0 d1 k1 k2 hT3
    go_wp2
    obtain ⟨z1, z2, z3, z4⟩ := part_out (K := K) hP3'.out (.inl rfl) q2 rfl (fun x hx => .inr (.inr hx)) (fun r => by have := HK.out.2 _ r; omega) HT.out (by have := HK.out.1; omega) rfl
    generalize World.setCell _ _ _ = W at *
    refine bodyPost_ret (v := .agg #[.slice a' n' c', .int .i64 x']) (by simp [results, Try.results32, go_sem, z3, z4]) rfl ⟨_, rfl, z1, z2⟩
theorem bytes_one (w : World) (x : UInt8) (t : TypeId) : ∀ j u, (u8L [x])[j]? = some u → (w.alloc (.cells #[Value.int .u8 (x.toNat : Int)] t)).cell? ((⟨w.heap.size, 0, none⟩ : Addr).add j) = some u := one_new w _ t
set_option maxRecDepth 100000 in
set_option maxHeartbeats 4000000 in
theorem rkind_ok (f : Bool) (w : World) (B : Nat) (K : Nat → Prop) (vv : Value) (r : Res) (k : Nat) (h : PartV f w B K vv r) (hk : k ≤ 2) (hl : lenE r 400000000) :
    Calls Try.prog 32 #[vv, .int .i64 k] w fun e' w' => ∃ vv', e' = .returned vv' ∧ PartV false w' B K vv' (andE r (.ok [UInt8.ofNat k])) ∧ WrT B K w w' := by
  have hlt := h.lt
  have hbw := h.bw
  have h0 := h
  obtain ⟨⟨a, m, c, e, rfl, _⟩, _, _⟩ := h0
  obtain ⟨hP, k1, k2, hb⟩ := part_laid h rfl
  have t0 : ¬ (k : Int) < 0 := by omega
  have t1 : ¬ (2 : Int) < (k : Int) := by omega
  have t2 : (k : Int) ≤ 2 := by omega
  have HO := Lib.hid (lo8 k (by omega))
  go_enter Try.func32, Try.ntmps32
  have hsz : ((w.alloc (.cells #[.slice a m c, .int .i64 e] 66)).alloc (.cells #[.slice none 0 0, .int .i64 0] 66)).heap.size = w.heap.size + 1 + 1 := by simp
  have d0 := k1.val 0 rfl
  have d1 := k1.val 1 rfl
  have b5 := ((Below.refl ((w.alloc (.cells #[.slice a m c, .int .i64 e] 66)).alloc (.cells #[.slice none 0 0, .int .i64 0] 66)).heap.size _).alloc (Nat.le_refl _) (.cells #[Value.int .u8 (k : Int)] 5))
  have PM := Lib.hid (put_m f _ B _ _ r [UInt8.ofNat k] ⟨w.heap.size + 1 + 1, 0, none⟩ 1 (hP.grew b5) (by rw [← hsz, HO.out]; exact bytes_one _ _ _) (.inl (show 0 < 1 by decide)) (lenE_mono hl (by decide)) (fun _ => (show 1 ≤ 500000000 by decide)))
  have p2 := k2.grew b5
  have HT5 : Hid (WrT B K w _) := (WrT.of hb).trans (WrT.of b5)
  have HK := Lib.hid (And.intro hbw hlt)
  clear hP h hb hbw hlt b5 k1 k2 hsz
  go_wp2_with fail
  refine PM.out.mono ?_
  rintro e9 w6 ⟨vv', rfl, hP6, hT6⟩
  have q2 := hT6.kept p2 (.inl rfl)
  have hP6' := Lib.hid hP6
  obtain ⟨⟨a2, n2, c2, x2, rfl, _⟩, _, _⟩ := hP6
  have g0 := q2.val 0 rfl
  have g1 := q2.val 1 rfl
  have f0 := q2.frozen 0
  have f1 := q2.frozen 1
  have HT6 := Lib.hid (HT5.out.trans (hT6.sub (K' := K) fun x hx => .inr (.inr hx)))
  clear d0 d1 hT6 PM HT5
  go_wp2
  obtain ⟨z1, z2, z3, z4⟩ := part_out (K := K) hP6'.out (.inl rfl) q2 rfl (fun x hx => .inr (.inr hx)) (fun r => by have := HK.out.2 _ r; omega) HT6.out (by have := HK.out.1; omega) rfl
  generalize World.setCell _ _ _ = W at *
  refine bodyPost_ret (v := .agg #[.slice a2 n2 c2, .int .i64 x2]) (by simp [results, Try.results32, go_sem, z3, z4]) rfl ⟨_, rfl, z1, z2⟩
theorem rkind_any (f : Bool) (w : World) (B : Nat) (K : Nat → Prop) (vv : Value) (r : Res) (t : Int) (h : PartV f w B K vv r) (hl : lenE r 400000000) :
    Calls Try.prog 32 #[vv, .int .i64 t] w fun e' w' => ∃ vv', e' = .returned vv' ∧ PartV false w' B K vv' (andE r (kindE t)) ∧ WrT B K w w' := by
  by_cases ht : t = 0 ∨ t = 1 ∨ t = 2
  · rw [kindE, if_pos ht]
    obtain ⟨k, rfl⟩ := Int.eq_ofNat_of_zero_le (show 0 ≤ t by omega)
    exact rkind_ok f w B K vv r k h (by omega) hl
  · rw [kindE, if_neg ht]
    exact rkind_bad f w B K vv r t h (by omega)
end Go.Proofs.Ytecpokegmfnlaaa
/- The document's Operands and Right of an instruction. No condition. -/
namespace Go.Proofs.Ytecpokegmfnlaaa
open Go.RowKit
set_option linter.unusedVariables false
set_option maxRecDepth 100000 in
set_option maxHeartbeats 4000000 in
theorem roperands_any (op : Int) (w : World) : Calls Try.prog 24 #[.int .i64 op] w fun e w' => e = .returned (.int .i64 (opsI op)) ∧ Below w.heap.size w w' := by
  by_cases h1 : op < 1
  · go_enter Try.func24, Try.ntmps24
    go_wp2
    go_ret
    exact ⟨ret_int (by unfold opsI; rw [if_pos (.inl (by assumption))]), Below.refl _ _⟩
  by_cases h2 : 39 < op
  · go_enter Try.func24, Try.ntmps24
    go_wp2
    go_ret
    exact ⟨ret_int (by unfold opsI; rw [if_pos (.inr (by assumption))]), Below.refl _ _⟩
  have H12 : Hid (¬ (op < 1 ∨ 39 < op)) := fun h => h.elim h1 h2
  have k1 : Blk ((w.alloc (.cells #[.int .i64 25, .int .i64 26, .int .i64 27] 3)).alloc (.cells #[.int .i64 1, .int .i64 3, .int .i64 4, .int .i64 18, .int .i64 19, .int .i64 20, .int .i64 22, .int .i64 33, .int .i64 34, .int .i64 35] 3)) w.heap.size #[.int .i64 25, .int .i64 26, .int .i64 27] 3 := (Blk.new _ _ _).alloc _
  have k2 : Blk ((w.alloc (.cells #[.int .i64 25, .int .i64 26, .int .i64 27] 3)).alloc (.cells #[.int .i64 1, .int .i64 3, .int .i64 4, .int .i64 18, .int .i64 19, .int .i64 20, .int .i64 22, .int .i64 33, .int .i64 34, .int .i64 35] 3)) (w.heap.size + 1) #[.int .i64 1, .int .i64 3, .int .i64 4, .int .i64 18, .int .i64 19, .int .i64 20, .int .i64 22, .int .i64 33, .int .i64 34, .int .i64 35] 3 := Blk.new' (by simp)
  have hb : Hid (Below w.heap.size w ((w.alloc (.cells #[.int .i64 25, .int .i64 26, .int .i64 27] 3)).alloc (.cells #[.int .i64 1, .int .i64 3, .int .i64 4, .int .i64 18, .int .i64 19, .int .i64 20, .int .i64 22, .int .i64 33, .int .i64 34, .int .i64 35] 3))) := ((Below.refl _ _).alloc (Nat.le_refl _) _).alloc (by simp) _
  go_enter Try.func24, Try.ntmps24
  go_wp2
  generalize World.alloc _ _ = W at *
  generalize hS : w.heap.size = S at *
  have HS := Lib.hid hS
  clear hS
  go_loop [5] (fun i => ∃ k : Nat, k ≤ 3 ∧ i = .int .i64 k ∧ ∀ j, j < k → [25, 26, 27].getD j 0 ≠ op) (fun i => 3 - (intOf i).toNat)
  case atStart => exact ⟨0, by omega, rfl, fun j hj => absurd hj (by omega)⟩
  case round =>
    obtain ⟨k, hk, rfl, hno⟩ := hrel
    have HNO := Lib.hid hno
    clear hno
    rcases (show k = 0 ∨ k = 1 ∨ k = 2 ∨ k = 3 by omega) with rfl | rfl | rfl | rfl
    · by_cases he : (25 : Int) = op
      · subst he
        have c := k1.val 0 rfl
        go_wp2
        go_ret
        exact ⟨ret_int (by decide), by rw [HS.out]; exact hb.out⟩
      · have he' : ((25 : Int) == op) = false := by simpa using he
        have HE := Lib.hid he
        clear he
        have c := k1.val 0 rfl
        go_wp2
        go_round
        case rel => exact ⟨1, by omega, by go_num, fun j hj => by
          rcases Nat.lt_or_ge j 0 with h | h
          · exact HNO.out j h
          · obtain rfl : j = 0 := by omega
            exact HE.out⟩
        case measure => simp [intOf]
    · by_cases he : (26 : Int) = op
      · subst he
        have c := k1.val 1 rfl
        go_wp2
        go_ret
        exact ⟨ret_int (by decide), by rw [HS.out]; exact hb.out⟩
      · have he' : ((26 : Int) == op) = false := by simpa using he
        have HE := Lib.hid he
        clear he
        have c := k1.val 1 rfl
        go_wp2
        go_round
        case rel => exact ⟨2, by omega, by go_num, fun j hj => by
          rcases Nat.lt_or_ge j 1 with h | h
          · exact HNO.out j h
          · obtain rfl : j = 1 := by omega
            exact HE.out⟩
        case measure => simp [intOf]
    · by_cases he : (27 : Int) = op
      · subst he
        have c := k1.val 2 rfl
        go_wp2
        go_ret
        exact ⟨ret_int (by decide), by rw [HS.out]; exact hb.out⟩
      · have he' : ((27 : Int) == op) = false := by simpa using he
        have HE := Lib.hid he
        clear he
        have c := k1.val 2 rfl
        go_wp2
        go_round
        case rel => exact ⟨3, by omega, by go_num, fun j hj => by
          rcases Nat.lt_or_ge j 2 with h | h
          · exact HNO.out j h
          · obtain rfl : j = 2 := by omega
            exact HE.out⟩
        case measure => simp [intOf]
    · have hn : op ≠ 25 ∧ op ≠ 26 ∧ op ≠ 27 := ⟨fun e => HNO.out 0 (by decide) e.symm, fun e => HNO.out 1 (by decide) e.symm, fun e => HNO.out 2 (by decide) e.symm⟩
      have HN := Lib.hid hn
      clear hn
      go_wp2
      go_loop [6] (fun i => ∃ k : Nat, k ≤ 10 ∧ i = .int .i64 k ∧ ∀ j, j < k → [1, 3, 4, 18, 19, 20, 22, 33, 34, 35].getD j 0 ≠ op) (fun i => 10 - (intOf i).toNat)
      case atStart => exact ⟨0, by omega, rfl, fun j hj => absurd hj (by omega)⟩
      case round =>
        obtain ⟨k, hk, rfl, hno⟩ := hrel
        have HNO2 := Lib.hid hno
        clear hno
        rcases (show k = 0 ∨ k = 1 ∨ k = 2 ∨ k = 3 ∨ k = 4 ∨ k = 5 ∨ k = 6 ∨ k = 7 ∨ k = 8 ∨ k = 9 ∨ k = 10 by omega) with rfl | rfl | rfl | rfl | rfl | rfl | rfl | rfl | rfl | rfl | rfl
        · by_cases he : (1 : Int) = op
          · subst he
            have c := k2.val 0 rfl
            go_wp2
            go_ret
            exact ⟨ret_int (by decide), by rw [HS.out]; exact hb.out⟩
          · have he' : ((1 : Int) == op) = false := by simpa using he
            have HE := Lib.hid he
            clear he
            have c := k2.val 0 rfl
            go_wp2
            go_round
            case rel => exact ⟨1, by omega, by go_num, fun j hj => by
              rcases Nat.lt_or_ge j 0 with h | h
              · exact HNO2.out j h
              · obtain rfl : j = 0 := by omega
                exact HE.out⟩
            case measure => simp [intOf]
        · by_cases he : (3 : Int) = op
          · subst he
            have c := k2.val 1 rfl
            go_wp2
            go_ret
            exact ⟨ret_int (by decide), by rw [HS.out]; exact hb.out⟩
          · have he' : ((3 : Int) == op) = false := by simpa using he
            have HE := Lib.hid he
            clear he
            have c := k2.val 1 rfl
            go_wp2
            go_round
            case rel => exact ⟨2, by omega, by go_num, fun j hj => by
              rcases Nat.lt_or_ge j 1 with h | h
              · exact HNO2.out j h
              · obtain rfl : j = 1 := by omega
                exact HE.out⟩
            case measure => simp [intOf]
        · by_cases he : (4 : Int) = op
          · subst he
            have c := k2.val 2 rfl
            go_wp2
            go_ret
            exact ⟨ret_int (by decide), by rw [HS.out]; exact hb.out⟩
          · have he' : ((4 : Int) == op) = false := by simpa using he
            have HE := Lib.hid he
            clear he
            have c := k2.val 2 rfl
            go_wp2
            go_round
            case rel => exact ⟨3, by omega, by go_num, fun j hj => by
              rcases Nat.lt_or_ge j 2 with h | h
              · exact HNO2.out j h
              · obtain rfl : j = 2 := by omega
                exact HE.out⟩
            case measure => simp [intOf]
        · by_cases he : (18 : Int) = op
          · subst he
            have c := k2.val 3 rfl
            go_wp2
            go_ret
            exact ⟨ret_int (by decide), by rw [HS.out]; exact hb.out⟩
          · have he' : ((18 : Int) == op) = false := by simpa using he
            have HE := Lib.hid he
            clear he
            have c := k2.val 3 rfl
            go_wp2
            go_round
            case rel => exact ⟨4, by omega, by go_num, fun j hj => by
              rcases Nat.lt_or_ge j 3 with h | h
              · exact HNO2.out j h
              · obtain rfl : j = 3 := by omega
                exact HE.out⟩
            case measure => simp [intOf]
        · by_cases he : (19 : Int) = op
          · subst he
            have c := k2.val 4 rfl
            go_wp2
            go_ret
            exact ⟨ret_int (by decide), by rw [HS.out]; exact hb.out⟩
          · have he' : ((19 : Int) == op) = false := by simpa using he
            have HE := Lib.hid he
            clear he
            have c := k2.val 4 rfl
            go_wp2
            go_round
            case rel => exact ⟨5, by omega, by go_num, fun j hj => by
              rcases Nat.lt_or_ge j 4 with h | h
              · exact HNO2.out j h
              · obtain rfl : j = 4 := by omega
                exact HE.out⟩
            case measure => simp [intOf]
        · by_cases he : (20 : Int) = op
          · subst he
            have c := k2.val 5 rfl
            go_wp2
            go_ret
            exact ⟨ret_int (by decide), by rw [HS.out]; exact hb.out⟩
          · have he' : ((20 : Int) == op) = false := by simpa using he
            have HE := Lib.hid he
            clear he
            have c := k2.val 5 rfl
            go_wp2
            go_round
            case rel => exact ⟨6, by omega, by go_num, fun j hj => by
              rcases Nat.lt_or_ge j 5 with h | h
              · exact HNO2.out j h
              · obtain rfl : j = 5 := by omega
                exact HE.out⟩
            case measure => simp [intOf]
        · by_cases he : (22 : Int) = op
          · subst he
            have c := k2.val 6 rfl
            go_wp2
            go_ret
            exact ⟨ret_int (by decide), by rw [HS.out]; exact hb.out⟩
          · have he' : ((22 : Int) == op) = false := by simpa using he
            have HE := Lib.hid he
            clear he
            have c := k2.val 6 rfl
            go_wp2
            go_round
            case rel => exact ⟨7, by omega, by go_num, fun j hj => by
              rcases Nat.lt_or_ge j 6 with h | h
              · exact HNO2.out j h
              · obtain rfl : j = 6 := by omega
                exact HE.out⟩
            case measure => simp [intOf]
        · by_cases he : (33 : Int) = op
          · subst he
            have c := k2.val 7 rfl
            go_wp2
            go_ret
            exact ⟨ret_int (by decide), by rw [HS.out]; exact hb.out⟩
          · have he' : ((33 : Int) == op) = false := by simpa using he
            have HE := Lib.hid he
            clear he
            have c := k2.val 7 rfl
            go_wp2
            go_round
            case rel => exact ⟨8, by omega, by go_num, fun j hj => by
              rcases Nat.lt_or_ge j 7 with h | h
              · exact HNO2.out j h
              · obtain rfl : j = 7 := by omega
                exact HE.out⟩
            case measure => simp [intOf]
        · by_cases he : (34 : Int) = op
          · subst he
            have c := k2.val 8 rfl
            go_wp2
            go_ret
            exact ⟨ret_int (by decide), by rw [HS.out]; exact hb.out⟩
          · have he' : ((34 : Int) == op) = false := by simpa using he
            have HE := Lib.hid he
            clear he
            have c := k2.val 8 rfl
            go_wp2
            go_round
            case rel => exact ⟨9, by omega, by go_num, fun j hj => by
              rcases Nat.lt_or_ge j 8 with h | h
              · exact HNO2.out j h
              · obtain rfl : j = 8 := by omega
                exact HE.out⟩
            case measure => simp [intOf]
        · by_cases he : (35 : Int) = op
          · subst he
            have c := k2.val 9 rfl
            go_wp2
            go_ret
            exact ⟨ret_int (by decide), by rw [HS.out]; exact hb.out⟩
          · have he' : ((35 : Int) == op) = false := by simpa using he
            have HE := Lib.hid he
            clear he
            have c := k2.val 9 rfl
            go_wp2
            go_round
            case rel => exact ⟨10, by omega, by go_num, fun j hj => by
              rcases Nat.lt_or_ge j 9 with h | h
              · exact HNO2.out j h
              · obtain rfl : j = 9 := by omega
                exact HE.out⟩
            case measure => simp [intOf]
        · go_wp2
          go_ret
          have q : op ≠ 1 ∧ op ≠ 3 ∧ op ≠ 4 ∧ op ≠ 18 ∧ op ≠ 19 ∧ op ≠ 20 ∧ op ≠ 22 ∧ op ≠ 33 ∧ op ≠ 34 ∧ op ≠ 35 := ⟨fun e => HNO2.out 0 (by decide) e.symm, fun e => HNO2.out 1 (by decide) e.symm, fun e => HNO2.out 2 (by decide) e.symm, fun e => HNO2.out 3 (by decide) e.symm, fun e => HNO2.out 4 (by decide) e.symm, fun e => HNO2.out 5 (by decide) e.symm, fun e => HNO2.out 6 (by decide) e.symm, fun e => HNO2.out 7 (by decide) e.symm, fun e => HNO2.out 8 (by decide) e.symm, fun e => HNO2.out 9 (by decide) e.symm⟩
          have hn := HN.out
          exact ⟨ret_int (by unfold opsI; rw [if_neg H12.out, if_neg (by omega), if_neg (by omega)]), by rw [HS.out]; exact hb.out⟩
set_option maxRecDepth 100000 in
set_option maxHeartbeats 4000000 in
theorem rright_any (i : InsD) (w : World) : Calls Try.prog 11 #[.agg #[.int .i64 i.op, .int .i64 i.a, .int .i64 i.b]] w fun e w' => e = .returned (.bool (rightB i)) ∧ Below w.heap.size w w' := by
  obtain ⟨op, a, b⟩ := i
  have hB : Below w.heap.size w (w.alloc (.cells #[.int .i64 op, .int .i64 a, .int .i64 b] 23)) := (Below.refl _ _).alloc (Nat.le_refl _) _
  have hI : Blk (w.alloc (.cells #[.int .i64 op, .int .i64 a, .int .i64 b] 23)) w.heap.size #[.int .i64 op, .int .i64 a, .int .i64 b] 23 := Blk.new _ _ _
  have q0 := hI.val 0 rfl
  have HO := Lib.hid (fun W => roperands_any op W)
  have hc := opsI_cases op
  have h1 : op = 1 → opsI op = 1 := fun e => by subst e; rfl
  have HD : Hid (rightB ⟨op, a, b⟩ = if opsI op = 0 then decide (a = 0 ∧ b = 0) else if opsI op = 1 then decide ((op = 1 ∨ smallB a = true) ∧ b = 0) else if opsI op = 2 then smallB a && smallB b else false) := rfl
  generalize rightB ⟨op, a, b⟩ = rb at *
  generalize opsI op = k at *
  go_enter Try.func11, Try.ntmps11
  go_wp2_with fail
  refine (HO.out _).mono ?_; rintro e w1 ⟨rfl, hb1⟩
  have k1 := hI.grew hb1
  have hB1 := Lib.hid (hB.trans (hb1.mono hB.size))
  have q0 := k1.val 0 rfl
  have q1 := k1.val 1 rfl
  have q2 := k1.val 2 rfl
  have H1 := Lib.hid h1
  clear hb1 k1 hI hB h1
  rcases hc with rfl | rfl | rfl | rfl
  · go_wp2
    go_ret
    exact ⟨ret_bool (by rw [HD.out]; rfl), hB1.out⟩
  · have ho : (op == 1) = false := by
      have h := H1.out
      simp only [beq_eq_false_iff_ne, ne_eq]
      intro e
      have := h e
      omega
    by_cases hb : b = 0
    · subst hb
      by_cases ha : a = 0
      · subst ha
        go_wp2
        go_ret
        exact ⟨ret_bool (by rw [HD.out]; simp), hB1.out⟩
      · have ha2 : (a != 0) = true := by simpa using ha
        have HA := Lib.hid ha
        clear ha
        go_wp2
        go_ret
        exact ⟨ret_bool (by rw [HD.out]; simp [HA.out]), hB1.out⟩
    · have hb2 : (b != 0) = true := by simpa using hb
      have HA := Lib.hid hb
      clear hb
      go_wp2
      go_ret
      exact ⟨ret_bool (by rw [HD.out]; simp [HA.out]), hB1.out⟩
  · by_cases hb : b = 0
    · subst hb
      by_cases ho : op = 1
      · subst ho
        go_wp2
        go_ret
        exact ⟨ret_bool (by rw [HD.out]; simp), hB1.out⟩
      · have ho2 : (op == 1) = false := by simpa using ho
        have HO1 := Lib.hid ho
        clear ho
        by_cases a0 : 0 ≤ a
        · by_cases a1 : a ≤ 2147483647
          · have HA : Hid (smallB a = true) := by simp [Hid, smallB]; omega
            go_wp2
            go_ret
            exact ⟨ret_bool (by rw [HD.out, HA.out]; simp), hB1.out⟩
          · have HA : Hid (smallB a = false) := by simp [Hid, smallB]; omega
            go_wp2
            go_ret
            exact ⟨ret_bool (by rw [HD.out, HA.out]; simp [HO1.out]), hB1.out⟩
        · have HA : Hid (smallB a = false) := by simp [Hid, smallB]; omega
          go_wp2
          go_ret
          exact ⟨ret_bool (by rw [HD.out, HA.out]; simp [HO1.out]), hB1.out⟩
    · have hb2 : (b != 0) = true := by simpa using hb
      have HA := Lib.hid hb
      clear hb
      go_wp2
      go_ret
      exact ⟨ret_bool (by rw [HD.out]; simp [HA.out]), hB1.out⟩
  · have ho : (op == 1) = false := by
      have h := H1.out
      simp only [beq_eq_false_iff_ne, ne_eq]
      intro e
      have := h e
      omega
    by_cases a0 : 0 ≤ a
    · by_cases a1 : a ≤ 2147483647
      · have HA : Hid (smallB a = true) := by simp [Hid, smallB]; omega
        by_cases b0 : 0 ≤ b
        · by_cases b1 : b ≤ 2147483647
          · have HC : Hid (smallB b = true) := by simp [Hid, smallB]; omega
            go_wp2
            go_ret
            exact ⟨ret_bool (by rw [HD.out, HA.out, HC.out]; simp), hB1.out⟩
          · have HC : Hid (smallB b = false) := by simp [Hid, smallB]; omega
            go_wp2
            go_ret
            exact ⟨ret_bool (by rw [HD.out, HA.out, HC.out]; simp; assumption), hB1.out⟩
        · have HC : Hid (smallB b = false) := by simp [Hid, smallB]; omega
          go_wp2
          go_ret
          exact ⟨ret_bool (by rw [HD.out, HA.out, HC.out]; simp), hB1.out⟩
      · have HA : Hid (smallB a = false) := by simp [Hid, smallB]; omega
        go_wp2
        go_ret
        exact ⟨ret_bool (by rw [HD.out, HA.out]; simp), hB1.out⟩
    · have HA : Hid (smallB a = false) := by simp [Hid, smallB]; omega
      go_wp2
      go_ret
      exact ⟨ret_bool (by rw [HD.out, HA.out]; simp), hB1.out⟩

end Go.Proofs.Ytecpokegmfnlaaa
