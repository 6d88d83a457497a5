/- What the document's Joined of two sets returns: as the program's. Condition: the lists are short. -/
import Derived.Test.YtalhlbedgkhijaaDoorMrwo
namespace Go.Proofs.YtalhlbedgkhijaaDoor
open Go.RowKit
set_option linter.unusedVariables false
set_option linter.unusedSimpArgs false

theorem pf_mem {h : Nat → Bool} {p : Int} : ∀ (d i : Nat), p ∈ pf h d i → (i : Int) ≤ p ∧ p < ((i + d : Nat) : Int)
  | 0, i, hp => by cases hp
  | d + 1, i, hp => by
    unfold pf at hp
    split at hp
    · rcases List.mem_cons.1 hp with e | e
      · omega
      · have := pf_mem d (i + 1) e; omega
    · have := pf_mem d (i + 1) hp; omega
theorem pf_len (h : Nat → Bool) : ∀ d i, (pf h d i).length ≤ d
  | 0, i => by simp [pf]
  | d + 1, i => by
    have := pf_len h d (i + 1)
    unfold pf
    split
    · rw [List.length_cons]; omega
    · omega
theorem pf_tb (g : Nat → Bool) (W i k : Nat) (hk : k < 64) : tbI ((ofL0 (pf g (64 * W) 0) W).getD i 0) k = (decide (i < W) && g (64 * i + k)) := by
  have hW : ofW0 (pf g (64 * W) 0) W = W := ofW0_same _ _ (fun q hq => by have := pf_mem _ _ hq; omega)
  unfold ofL0
  rw [tb_fold _ _ (zeros_U _) (fun q hq => by rw [List.length_replicate, hW]; have := pf_mem _ _ hq; omega), zeros_tb, Bool.false_or, pf_any]
  cases hb : (decide (i < W) && g (64 * i + k)) with
  | true =>
    rw [Bool.and_eq_true, decide_eq_true_eq] at hb
    rw [List.any_eq_true]
    refine ⟨64 * i + k, by rw [List.mem_range]; omega, ?_⟩
    rw [Nat.zero_add, Int.toNat_natCast, show (64 * i + k) / 64 = i by omega, show (64 * i + k) % 64 = k by omega, hb.2]
    simp
  | false =>
    rw [Bool.eq_false_iff]
    intro hc
    obtain ⟨j, hj, hh⟩ := List.any_eq_true.1 hc
    rw [Nat.zero_add, Int.toNat_natCast] at hh
    rw [List.mem_range] at hj
    simp only [Bool.and_eq_true, decide_eq_true_eq] at hh
    obtain ⟨h1, h2, h3⟩ := hh
    have e : j = 64 * i + k := by omega
    subst e
    rw [h1, Bool.and_true, decide_eq_false_iff_not] at hb
    omega
theorem hasP_word (l : List Int) (i k : Nat) (hk : k < 64) : hasP l (64 * i + k) = tbI (l.getD i 0) k := by
  unfold hasP
  rw [show (64 * i + k) / 64 = i by omega, show (64 * i + k) % 64 = k by omega]
theorem out_tb {l : List Int} {i : Nat} (h : l.length ≤ i) (k : Nat) : tbI (l.getD i 0) k = false := by
  rw [show l.getD i 0 = 0 by simp [List.getD_eq_getElem?_getD, show ¬ i < l.length by omega], tb_zero]
theorem okAll_pf (g : Nat → Bool) (W : Nat) (hW : W ≤ 1024) : okAll (pf g (64 * W) 0) = true := by
  unfold okAll
  rw [List.all_eq_true]
  intro z hz
  have := pf_mem _ _ hz
  simp [okPl]; omega
theorem rowq {w w' : World} {base : Nat} {e : TypeId} {size : Nat} {v : Value} {n : Nat} {xs : List Value} (h : w.ownsRow base e size v n xs) (hq : Quiet w w') : w'.ownsRow base e size v n xs := by
  obtain ⟨n, rfl⟩ := hq; exact h
theorem union_num {a b : List Int} (ha : ∀ z ∈ a, U64 z) (hb : ∀ z ∈ b, U64 z) : ofL0 (pf (fun i => hasP a i || hasP b i) (64 * max a.length b.length) 0) (max a.length b.length) = unionV a b := by
  refine list_ext ?_ (ofL0_U _ _) (unionV_U ha hb) (fun i k hk => ?_)
  · rw [ofL0_len, unionV_len]; exact ofW0_same _ _ (fun q hq => by have := pf_mem _ _ hq; omega)
  · rw [pf_tb _ _ _ _ hk, unionV_tb ha hb, hasP_word a i k hk, hasP_word b i k hk]
    by_cases h : i < max a.length b.length
    · simp [h]
    · rw [out_tb (show a.length ≤ i by omega), out_tb (show b.length ≤ i by omega)]; simp [h]
set_option maxRecDepth 100000 in
set_option maxHeartbeats 4000000 in
theorem joined_union (a0 : Option Addr) (n0 c0 : Nat) (a1 : Option Addr) (n1 c1 : Nat) (a b : List Int) (w : World) (ha : Lst .u64 w (.slice a0 n0 c0) a) (hb : Lst .u64 w (.slice a1 n1 c1) b) (e0 : a.length = n0) (e1 : b.length = n1) (hU : ∀ z ∈ a, U64 z) (hV : ∀ z ∈ b, U64 z) (h0 : n0 ≤ 8) (h1 : n1 ≤ 8) :
    Calls Tryd.prog 40 #[.slice a0 n0 c0, .slice a1 n1 c1, .int .i64 0] w (RowPost (unionV a b) w) := by
  obtain ⟨i0, hi, hz0, hz1, hz2⟩ := info_parts info_int
  have Z := Lib.hid (And.intro hi (And.intro hz0 (And.intro hz1 hz2)))
  have HA := Lib.hid (fun p W (h : Below w.heap.size w W) (hp : p < 1000000) => rhas_any _ a p W (ha.below h) hU (by omega) hp)
  have HB := Lib.hid (fun p W (h : Below w.heap.size w W) (hp : p < 1000000) => rhas_any _ b p W (hb.below h) hV (by omega) hp)
  obtain ⟨M, hM⟩ : ∃ M, max n0 n1 = M := ⟨_, rfl⟩
  have hM8 : M ≤ 8 := by omega
  have HE : Hid (∀ (u : Value) W, Lst .i64 W u (pf (fun i => hasP a i || hasP b i) (64 * M) 0) → Calls Tryd.prog 32 #[u, .int .i64 M] W (BothE 0 (unionV a b) W)) := Lib.hid (fun u W hu => by
    have r := rof_both u _ M W hu (by have := pf_len (fun i => hasP a i || hasP b i) (64 * M) 0; omega) (by omega)
    rw [okAll_pf _ M (by omega)] at r
    simp only [if_true] at r
    have e := union_num hU hV
    rw [e0, e1, hM] at e
    rw [e] at r
    exact r)
  have HS := Lib.hid (fun d => pf_snoc (fun i => hasP a i || hasP b i) d 0)
  have HLn := Lib.hid (fun d => pf_len (fun i => hasP a i || hasP b i) d 0)
  generalize hG : (fun i => hasP a i || hasP b i) = G at *
  have HMx := Lib.hid (And.intro hM8 (And.intro h0 h1))
  clear hG hi hz0 hz1 hz2 ha hb e0 e1 hU hV
  by_cases hc : n0 < n1
  · have hc' : (n0 : Int) < (n1 : Int) := by omega
    obtain rfl : n1 = M := by omega
    have hmm : n1 ≤ 8 := h1
    clear hc hM h0 h1 hM8
    go_enter Tryd.func40, Tryd.ntmps40
    go_wp2
    go_loopw [8, 9] (fun o i wr => ∃ I : Nat, I ≤ 64 * n1 ∧ i = .int .i64 I ∧ wr.ownsRow w.heap.size 3 1 o (pf G I 0).length ((pf G I 0).map (Value.int .i64)) ∧ Below w.heap.size w wr) (fun _ i _ => 64 * n1 - (intOf i).toNat)
    case atStart => exact ⟨0, Nat.zero_le _, rfl, World.ownsRow_nil _ _ _ _, Below.refl _ _⟩
    case round =>
      obtain ⟨I, hI, rfl, hown, hB⟩ := hrel
      by_cases hlt : I < 64 * n1
      · have h2 : (I : Int) < 64 * (n1 : Int) := by omega
        have h3 : (I : Int) + 1 < 5000 := by have := HMx.out; omega
        have h3' : (0 : Int) ≤ (I : Int) := by omega
        have E := HS.out I
        have hgl := Lib.hid (HLn.out I)
        have hIl : Hid (I < 512) := Lib.hid (by have := HMx.out; omega)
        rw [Nat.zero_add] at E
        have C1 := Lib.hid (HA.out I wr hB (by have := hIl.out; omega))
        have C2 := Lib.hid (fun W h => HB.out I W h (by have := hIl.out; omega))
        generalize hasP a I = x at *
        generalize hasP b I = y at *
        have E := Lib.hid E
        generalize pf G I 0 = Fk at *
        go_wp2_with fail
        refine C1.out.mono ?_
        rintro e w1 ⟨rfl, q1⟩
        have hB1 := hB.trans q1.below
        have hown1 := rowq hown q1
        clear C1 hB hown q1
        go_wp2_with fail
        refine (C2.out w1 hB1).mono ?_
        rintro e w2 ⟨rfl, q2⟩
        have hB2 := hB1.trans q2.below
        have hown2 := rowq hown1 q2
        clear C2 hB1 hown1 q2
        cases x <;> cases y
        · have E2 := E.out
          simp only [Bool.or_true, Bool.or_false, Bool.true_or, Bool.false_or, Bool.and_true, Bool.and_false, Bool.true_and, Bool.false_and, Bool.not_true, Bool.not_false, Bool.false_eq_true, if_false, List.append_nil] at E2
          have E3 := Lib.hid E2
          clear E E2
          go_wp2
          go_roundw
          case rel => exact ⟨I + 1, by omega, by go_num, by rw [E3.out]; exact hown2, hB2⟩
          case measure => simp [intOf]; omega
        · have E2 := E.out
          simp only [Bool.or_true, Bool.or_false, Bool.true_or, Bool.false_or, Bool.and_true, Bool.and_false, Bool.true_and, Bool.false_and, Bool.not_true, Bool.not_false, if_true] at E2
          have E3 := Lib.hid E2
          clear E E2
          go_wp2_with (at_builtin; refine wpList_append_lies _ rfl _ _ 39 rfl w.heap.size 3 i0 (.int .i64 0) 1 8 Tryd.underlying39 Z.out.1 Z.out.2.1 Z.out.2.2.1 Z.out.2.2.2 rfl (by decide) _ _ _ rfl (hown2.alloc _) ⟨w2.heap.size, 0, none⟩ 1 1 [.int .i64 (I : Int)] rfl rfl (cell_one_new _ _ _) (by simp [Value.oneCell']) (by decide) (by have := hgl.out; have := hIl.out; unfold maxLen; omega) (by have := hgl.out; have := hIl.out; omega) (by have := hB2.size; simp; omega) (w2.heap.size + 1) (by simp) ?_; intro g cap3 w8 hown8 hgrow hat hlt8)
          have g8 : Below w.heap.size w w8 := (hB2.alloc hB2.size _).grown hgrow (hB2.alloc hB2.size _).size (fun k' e => (hown2.lt k' e).1)
          have hown9 : w8.ownsRow w.heap.size 3 1 (.slice (some ⟨g, 0, none⟩) (Fk.length + 1) cap3) (pf G (I + 1) 0).length ((pf G (I + 1) 0).map (Value.int .i64)) := by
            rw [E3.out, List.map_append, List.length_append]; exact hown8
          clear hown8 hgrow hat hown2
          go_wp2
          go_roundw
          case rel => exact ⟨I + 1, by omega, by go_num, hown9, g8⟩
          case measure => simp [intOf]; omega
        · have E2 := E.out
          simp only [Bool.or_true, Bool.or_false, Bool.true_or, Bool.false_or, Bool.and_true, Bool.and_false, Bool.true_and, Bool.false_and, Bool.not_true, Bool.not_false, if_true] at E2
          have E3 := Lib.hid E2
          clear E E2
          go_wp2_with (at_builtin; refine wpList_append_lies _ rfl _ _ 39 rfl w.heap.size 3 i0 (.int .i64 0) 1 8 Tryd.underlying39 Z.out.1 Z.out.2.1 Z.out.2.2.1 Z.out.2.2.2 rfl (by decide) _ _ _ rfl (hown2.alloc _) ⟨w2.heap.size, 0, none⟩ 1 1 [.int .i64 (I : Int)] rfl rfl (cell_one_new _ _ _) (by simp [Value.oneCell']) (by decide) (by have := hgl.out; have := hIl.out; unfold maxLen; omega) (by have := hgl.out; have := hIl.out; omega) (by have := hB2.size; simp; omega) (w2.heap.size + 1) (by simp) ?_; intro g cap3 w8 hown8 hgrow hat hlt8)
          have g8 : Below w.heap.size w w8 := (hB2.alloc hB2.size _).grown hgrow (hB2.alloc hB2.size _).size (fun k' e => (hown2.lt k' e).1)
          have hown9 : w8.ownsRow w.heap.size 3 1 (.slice (some ⟨g, 0, none⟩) (Fk.length + 1) cap3) (pf G (I + 1) 0).length ((pf G (I + 1) 0).map (Value.int .i64)) := by
            rw [E3.out, List.map_append, List.length_append]; exact hown8
          clear hown8 hgrow hat hown2
          go_wp2
          go_roundw
          case rel => exact ⟨I + 1, by omega, by go_num, hown9, g8⟩
          case measure => simp [intOf]; omega
        · have E2 := E.out
          simp only [Bool.or_true, Bool.or_false, Bool.true_or, Bool.false_or, Bool.and_true, Bool.and_false, Bool.true_and, Bool.false_and, Bool.not_true, Bool.not_false, if_true] at E2
          have E3 := Lib.hid E2
          clear E E2
          go_wp2_with (at_builtin; refine wpList_append_lies _ rfl _ _ 39 rfl w.heap.size 3 i0 (.int .i64 0) 1 8 Tryd.underlying39 Z.out.1 Z.out.2.1 Z.out.2.2.1 Z.out.2.2.2 rfl (by decide) _ _ _ rfl (hown2.alloc _) ⟨w2.heap.size, 0, none⟩ 1 1 [.int .i64 (I : Int)] rfl rfl (cell_one_new _ _ _) (by simp [Value.oneCell']) (by decide) (by have := hgl.out; have := hIl.out; unfold maxLen; omega) (by have := hgl.out; have := hIl.out; omega) (by have := hB2.size; simp; omega) (w2.heap.size + 1) (by simp) ?_; intro g cap3 w8 hown8 hgrow hat hlt8)
          have g8 : Below w.heap.size w w8 := (hB2.alloc hB2.size _).grown hgrow (hB2.alloc hB2.size _).size (fun k' e => (hown2.lt k' e).1)
          have hown9 : w8.ownsRow w.heap.size 3 1 (.slice (some ⟨g, 0, none⟩) (Fk.length + 1) cap3) (pf G (I + 1) 0).length ((pf G (I + 1) 0).map (Value.int .i64)) := by
            rw [E3.out, List.map_append, List.length_append]; exact hown8
          clear hown8 hgrow hat hown2
          go_wp2
          go_roundw
          case rel => exact ⟨I + 1, by omega, by go_num, hown9, g8⟩
          case measure => simp [intOf]; omega
      · obtain rfl : I = 64 * n1 := by omega
        have h2 : ¬ ((64 * n1 : Nat) : Int) < 64 * (n1 : Int) := by omega
        have RO := Lib.hid (HE.out u8 wr (lst_int hown))
        clear hown HE
        go_wp2_with fail
        refine RO.out.mono ?_
        rintro e w9 ⟨u9, rfl, k1, k2, k3⟩
        go_wp2
        go_ret
        exact ⟨u9, rfl, k1, fun b hb => Nat.le_trans hB.size (k2 b hb), hB.trans (k3.mono hB.size)⟩
  · have hc' : ¬ (n0 : Int) < (n1 : Int) := by omega
    obtain rfl : n0 = M := by omega
    have hmm : n0 ≤ 8 := h0
    clear hc hM h0 h1 hM8
    go_enter Tryd.func40, Tryd.ntmps40
    go_wp2
    go_loopw [8, 9] (fun o i wr => ∃ I : Nat, I ≤ 64 * n0 ∧ i = .int .i64 I ∧ wr.ownsRow w.heap.size 3 1 o (pf G I 0).length ((pf G I 0).map (Value.int .i64)) ∧ Below w.heap.size w wr) (fun _ i _ => 64 * n0 - (intOf i).toNat)
    case atStart => exact ⟨0, Nat.zero_le _, rfl, World.ownsRow_nil _ _ _ _, Below.refl _ _⟩
    case round =>
      obtain ⟨I, hI, rfl, hown, hB⟩ := hrel
      by_cases hlt : I < 64 * n0
      · have h2 : (I : Int) < 64 * (n0 : Int) := by omega
        have h3 : (I : Int) + 1 < 5000 := by have := HMx.out; omega
        have h3' : (0 : Int) ≤ (I : Int) := by omega
        have E := HS.out I
        have hgl := Lib.hid (HLn.out I)
        have hIl : Hid (I < 512) := Lib.hid (by have := HMx.out; omega)
        rw [Nat.zero_add] at E
        have C1 := Lib.hid (HA.out I wr hB (by have := hIl.out; omega))
        have C2 := Lib.hid (fun W h => HB.out I W h (by have := hIl.out; omega))
        generalize hasP a I = x at *
        generalize hasP b I = y at *
        have E := Lib.hid E
        generalize pf G I 0 = Fk at *
        go_wp2_with fail
        refine C1.out.mono ?_
        rintro e w1 ⟨rfl, q1⟩
        have hB1 := hB.trans q1.below
        have hown1 := rowq hown q1
        clear C1 hB hown q1
        go_wp2_with fail
        refine (C2.out w1 hB1).mono ?_
        rintro e w2 ⟨rfl, q2⟩
        have hB2 := hB1.trans q2.below
        have hown2 := rowq hown1 q2
        clear C2 hB1 hown1 q2
        cases x <;> cases y
        · have E2 := E.out
          simp only [Bool.or_true, Bool.or_false, Bool.true_or, Bool.false_or, Bool.and_true, Bool.and_false, Bool.true_and, Bool.false_and, Bool.not_true, Bool.not_false, Bool.false_eq_true, if_false, List.append_nil] at E2
          have E3 := Lib.hid E2
          clear E E2
          go_wp2
          go_roundw
          case rel => exact ⟨I + 1, by omega, by go_num, by rw [E3.out]; exact hown2, hB2⟩
          case measure => simp [intOf]; omega
        · have E2 := E.out
          simp only [Bool.or_true, Bool.or_false, Bool.true_or, Bool.false_or, Bool.and_true, Bool.and_false, Bool.true_and, Bool.false_and, Bool.not_true, Bool.not_false, if_true] at E2
          have E3 := Lib.hid E2
          clear E E2
          go_wp2_with (at_builtin; refine wpList_append_lies _ rfl _ _ 39 rfl w.heap.size 3 i0 (.int .i64 0) 1 8 Tryd.underlying39 Z.out.1 Z.out.2.1 Z.out.2.2.1 Z.out.2.2.2 rfl (by decide) _ _ _ rfl (hown2.alloc _) ⟨w2.heap.size, 0, none⟩ 1 1 [.int .i64 (I : Int)] rfl rfl (cell_one_new _ _ _) (by simp [Value.oneCell']) (by decide) (by have := hgl.out; have := hIl.out; unfold maxLen; omega) (by have := hgl.out; have := hIl.out; omega) (by have := hB2.size; simp; omega) (w2.heap.size + 1) (by simp) ?_; intro g cap3 w8 hown8 hgrow hat hlt8)
          have g8 : Below w.heap.size w w8 := (hB2.alloc hB2.size _).grown hgrow (hB2.alloc hB2.size _).size (fun k' e => (hown2.lt k' e).1)
          have hown9 : w8.ownsRow w.heap.size 3 1 (.slice (some ⟨g, 0, none⟩) (Fk.length + 1) cap3) (pf G (I + 1) 0).length ((pf G (I + 1) 0).map (Value.int .i64)) := by
            rw [E3.out, List.map_append, List.length_append]; exact hown8
          clear hown8 hgrow hat hown2
          go_wp2
          go_roundw
          case rel => exact ⟨I + 1, by omega, by go_num, hown9, g8⟩
          case measure => simp [intOf]; omega
        · have E2 := E.out
          simp only [Bool.or_true, Bool.or_false, Bool.true_or, Bool.false_or, Bool.and_true, Bool.and_false, Bool.true_and, Bool.false_and, Bool.not_true, Bool.not_false, if_true] at E2
          have E3 := Lib.hid E2
          clear E E2
          go_wp2_with (at_builtin; refine wpList_append_lies _ rfl _ _ 39 rfl w.heap.size 3 i0 (.int .i64 0) 1 8 Tryd.underlying39 Z.out.1 Z.out.2.1 Z.out.2.2.1 Z.out.2.2.2 rfl (by decide) _ _ _ rfl (hown2.alloc _) ⟨w2.heap.size, 0, none⟩ 1 1 [.int .i64 (I : Int)] rfl rfl (cell_one_new _ _ _) (by simp [Value.oneCell']) (by decide) (by have := hgl.out; have := hIl.out; unfold maxLen; omega) (by have := hgl.out; have := hIl.out; omega) (by have := hB2.size; simp; omega) (w2.heap.size + 1) (by simp) ?_; intro g cap3 w8 hown8 hgrow hat hlt8)
          have g8 : Below w.heap.size w w8 := (hB2.alloc hB2.size _).grown hgrow (hB2.alloc hB2.size _).size (fun k' e => (hown2.lt k' e).1)
          have hown9 : w8.ownsRow w.heap.size 3 1 (.slice (some ⟨g, 0, none⟩) (Fk.length + 1) cap3) (pf G (I + 1) 0).length ((pf G (I + 1) 0).map (Value.int .i64)) := by
            rw [E3.out, List.map_append, List.length_append]; exact hown8
          clear hown8 hgrow hat hown2
          go_wp2
          go_roundw
          case rel => exact ⟨I + 1, by omega, by go_num, hown9, g8⟩
          case measure => simp [intOf]; omega
        · have E2 := E.out
          simp only [Bool.or_true, Bool.or_false, Bool.true_or, Bool.false_or, Bool.and_true, Bool.and_false, Bool.true_and, Bool.false_and, Bool.not_true, Bool.not_false, if_true] at E2
          have E3 := Lib.hid E2
          clear E E2
          go_wp2_with (at_builtin; refine wpList_append_lies _ rfl _ _ 39 rfl w.heap.size 3 i0 (.int .i64 0) 1 8 Tryd.underlying39 Z.out.1 Z.out.2.1 Z.out.2.2.1 Z.out.2.2.2 rfl (by decide) _ _ _ rfl (hown2.alloc _) ⟨w2.heap.size, 0, none⟩ 1 1 [.int .i64 (I : Int)] rfl rfl (cell_one_new _ _ _) (by simp [Value.oneCell']) (by decide) (by have := hgl.out; have := hIl.out; unfold maxLen; omega) (by have := hgl.out; have := hIl.out; omega) (by have := hB2.size; simp; omega) (w2.heap.size + 1) (by simp) ?_; intro g cap3 w8 hown8 hgrow hat hlt8)
          have g8 : Below w.heap.size w w8 := (hB2.alloc hB2.size _).grown hgrow (hB2.alloc hB2.size _).size (fun k' e => (hown2.lt k' e).1)
          have hown9 : w8.ownsRow w.heap.size 3 1 (.slice (some ⟨g, 0, none⟩) (Fk.length + 1) cap3) (pf G (I + 1) 0).length ((pf G (I + 1) 0).map (Value.int .i64)) := by
            rw [E3.out, List.map_append, List.length_append]; exact hown8
          clear hown8 hgrow hat hown2
          go_wp2
          go_roundw
          case rel => exact ⟨I + 1, by omega, by go_num, hown9, g8⟩
          case measure => simp [intOf]; omega
      · obtain rfl : I = 64 * n0 := by omega
        have h2 : ¬ ((64 * n0 : Nat) : Int) < 64 * (n0 : Int) := by omega
        have RO := Lib.hid (HE.out u8 wr (lst_int hown))
        clear hown HE
        go_wp2_with fail
        refine RO.out.mono ?_
        rintro e w9 ⟨u9, rfl, k1, k2, k3⟩
        go_wp2
        go_ret
        exact ⟨u9, rfl, k1, fun b hb => Nat.le_trans hB.size (k2 b hb), hB.trans (k3.mono hB.size)⟩
theorem meet_num {a b : List Int} (ha : ∀ z ∈ a, U64 z) (hb : ∀ z ∈ b, U64 z) : ofL0 (pf (fun i => hasP a i && hasP b i) (64 * max a.length b.length) 0) (max a.length b.length) = meetV a b := by
  refine list_ext ?_ (ofL0_U _ _) (meetV_U ha hb) (fun i k hk => ?_)
  · rw [ofL0_len, meetV_len]; exact ofW0_same _ _ (fun q hq => by have := pf_mem _ _ hq; omega)
  · rw [pf_tb _ _ _ _ hk, meetV_tb ha hb, hasP_word a i k hk, hasP_word b i k hk]
    by_cases h : i < max a.length b.length
    · simp [h]
    · rw [out_tb (show a.length ≤ i by omega), out_tb (show b.length ≤ i by omega)]; simp [h]
set_option maxRecDepth 100000 in
set_option maxHeartbeats 4000000 in
theorem joined_meet (a0 : Option Addr) (n0 c0 : Nat) (a1 : Option Addr) (n1 c1 : Nat) (a b : List Int) (w : World) (ha : Lst .u64 w (.slice a0 n0 c0) a) (hb : Lst .u64 w (.slice a1 n1 c1) b) (e0 : a.length = n0) (e1 : b.length = n1) (hU : ∀ z ∈ a, U64 z) (hV : ∀ z ∈ b, U64 z) (h0 : n0 ≤ 8) (h1 : n1 ≤ 8) :
    Calls Tryd.prog 40 #[.slice a0 n0 c0, .slice a1 n1 c1, .int .i64 1] w (RowPost (meetV a b) w) := by
  obtain ⟨i0, hi, hz0, hz1, hz2⟩ := info_parts info_int
  have Z := Lib.hid (And.intro hi (And.intro hz0 (And.intro hz1 hz2)))
  have HA := Lib.hid (fun p W (h : Below w.heap.size w W) (hp : p < 1000000) => rhas_any _ a p W (ha.below h) hU (by omega) hp)
  have HB := Lib.hid (fun p W (h : Below w.heap.size w W) (hp : p < 1000000) => rhas_any _ b p W (hb.below h) hV (by omega) hp)
  obtain ⟨M, hM⟩ : ∃ M, max n0 n1 = M := ⟨_, rfl⟩
  have hM8 : M ≤ 8 := by omega
  have HE : Hid (∀ (u : Value) W, Lst .i64 W u (pf (fun i => hasP a i && hasP b i) (64 * M) 0) → Calls Tryd.prog 32 #[u, .int .i64 M] W (BothE 0 (meetV a b) W)) := Lib.hid (fun u W hu => by
    have r := rof_both u _ M W hu (by have := pf_len (fun i => hasP a i && hasP b i) (64 * M) 0; omega) (by omega)
    rw [okAll_pf _ M (by omega)] at r
    simp only [if_true] at r
    have e := meet_num hU hV
    rw [e0, e1, hM] at e
    rw [e] at r
    exact r)
  have HS := Lib.hid (fun d => pf_snoc (fun i => hasP a i && hasP b i) d 0)
  have HLn := Lib.hid (fun d => pf_len (fun i => hasP a i && hasP b i) d 0)
  generalize hG : (fun i => hasP a i && hasP b i) = G at *
  have HMx := Lib.hid (And.intro hM8 (And.intro h0 h1))
  clear hG hi hz0 hz1 hz2 ha hb e0 e1 hU hV
  by_cases hc : n0 < n1
  · have hc' : (n0 : Int) < (n1 : Int) := by omega
    obtain rfl : n1 = M := by omega
    have hmm : n1 ≤ 8 := h1
    clear hc hM h0 h1 hM8
    go_enter Tryd.func40, Tryd.ntmps40
    go_wp2
    go_loopw [8, 9] (fun o i wr => ∃ I : Nat, I ≤ 64 * n1 ∧ i = .int .i64 I ∧ wr.ownsRow w.heap.size 3 1 o (pf G I 0).length ((pf G I 0).map (Value.int .i64)) ∧ Below w.heap.size w wr) (fun _ i _ => 64 * n1 - (intOf i).toNat)
    case atStart => exact ⟨0, Nat.zero_le _, rfl, World.ownsRow_nil _ _ _ _, Below.refl _ _⟩
    case round =>
      obtain ⟨I, hI, rfl, hown, hB⟩ := hrel
      by_cases hlt : I < 64 * n1
      · have h2 : (I : Int) < 64 * (n1 : Int) := by omega
        have h3 : (I : Int) + 1 < 5000 := by have := HMx.out; omega
        have h3' : (0 : Int) ≤ (I : Int) := by omega
        have E := HS.out I
        have hgl := Lib.hid (HLn.out I)
        have hIl : Hid (I < 512) := Lib.hid (by have := HMx.out; omega)
        rw [Nat.zero_add] at E
        have C1 := Lib.hid (HA.out I wr hB (by have := hIl.out; omega))
        have C2 := Lib.hid (fun W h => HB.out I W h (by have := hIl.out; omega))
        generalize hasP a I = x at *
        generalize hasP b I = y at *
        have E := Lib.hid E
        generalize pf G I 0 = Fk at *
        go_wp2_with fail
        refine C1.out.mono ?_
        rintro e w1 ⟨rfl, q1⟩
        have hB1 := hB.trans q1.below
        have hown1 := rowq hown q1
        clear C1 hB hown q1
        go_wp2_with fail
        refine (C2.out w1 hB1).mono ?_
        rintro e w2 ⟨rfl, q2⟩
        have hB2 := hB1.trans q2.below
        have hown2 := rowq hown1 q2
        clear C2 hB1 hown1 q2
        cases x <;> cases y
        · have E2 := E.out
          simp only [Bool.or_true, Bool.or_false, Bool.true_or, Bool.false_or, Bool.and_true, Bool.and_false, Bool.true_and, Bool.false_and, Bool.not_true, Bool.not_false, Bool.false_eq_true, if_false, List.append_nil] at E2
          have E3 := Lib.hid E2
          clear E E2
          go_wp2
          go_roundw
          case rel => exact ⟨I + 1, by omega, by go_num, by rw [E3.out]; exact hown2, hB2⟩
          case measure => simp [intOf]; omega
        · have E2 := E.out
          simp only [Bool.or_true, Bool.or_false, Bool.true_or, Bool.false_or, Bool.and_true, Bool.and_false, Bool.true_and, Bool.false_and, Bool.not_true, Bool.not_false, Bool.false_eq_true, if_false, List.append_nil] at E2
          have E3 := Lib.hid E2
          clear E E2
          go_wp2
          go_roundw
          case rel => exact ⟨I + 1, by omega, by go_num, by rw [E3.out]; exact hown2, hB2⟩
          case measure => simp [intOf]; omega
        · have E2 := E.out
          simp only [Bool.or_true, Bool.or_false, Bool.true_or, Bool.false_or, Bool.and_true, Bool.and_false, Bool.true_and, Bool.false_and, Bool.not_true, Bool.not_false, Bool.false_eq_true, if_false, List.append_nil] at E2
          have E3 := Lib.hid E2
          clear E E2
          go_wp2
          go_roundw
          case rel => exact ⟨I + 1, by omega, by go_num, by rw [E3.out]; exact hown2, hB2⟩
          case measure => simp [intOf]; omega
        · have E2 := E.out
          simp only [Bool.or_true, Bool.or_false, Bool.true_or, Bool.false_or, Bool.and_true, Bool.and_false, Bool.true_and, Bool.false_and, Bool.not_true, Bool.not_false, if_true] at E2
          have E3 := Lib.hid E2
          clear E E2
          go_wp2_with (at_builtin; refine wpList_append_lies _ rfl _ _ 39 rfl w.heap.size 3 i0 (.int .i64 0) 1 8 Tryd.underlying39 Z.out.1 Z.out.2.1 Z.out.2.2.1 Z.out.2.2.2 rfl (by decide) _ _ _ rfl (hown2.alloc _) ⟨w2.heap.size, 0, none⟩ 1 1 [.int .i64 (I : Int)] rfl rfl (cell_one_new _ _ _) (by simp [Value.oneCell']) (by decide) (by have := hgl.out; have := hIl.out; unfold maxLen; omega) (by have := hgl.out; have := hIl.out; omega) (by have := hB2.size; simp; omega) (w2.heap.size + 1) (by simp) ?_; intro g cap3 w8 hown8 hgrow hat hlt8)
          have g8 : Below w.heap.size w w8 := (hB2.alloc hB2.size _).grown hgrow (hB2.alloc hB2.size _).size (fun k' e => (hown2.lt k' e).1)
          have hown9 : w8.ownsRow w.heap.size 3 1 (.slice (some ⟨g, 0, none⟩) (Fk.length + 1) cap3) (pf G (I + 1) 0).length ((pf G (I + 1) 0).map (Value.int .i64)) := by
            rw [E3.out, List.map_append, List.length_append]; exact hown8
          clear hown8 hgrow hat hown2
          go_wp2
          go_roundw
          case rel => exact ⟨I + 1, by omega, by go_num, hown9, g8⟩
          case measure => simp [intOf]; omega
      · obtain rfl : I = 64 * n1 := by omega
        have h2 : ¬ ((64 * n1 : Nat) : Int) < 64 * (n1 : Int) := by omega
        have RO := Lib.hid (HE.out u8 wr (lst_int hown))
        clear hown HE
        go_wp2_with fail
        refine RO.out.mono ?_
        rintro e w9 ⟨u9, rfl, k1, k2, k3⟩
        go_wp2
        go_ret
        exact ⟨u9, rfl, k1, fun b hb => Nat.le_trans hB.size (k2 b hb), hB.trans (k3.mono hB.size)⟩
  · have hc' : ¬ (n0 : Int) < (n1 : Int) := by omega
    obtain rfl : n0 = M := by omega
    have hmm : n0 ≤ 8 := h0
    clear hc hM h0 h1 hM8
    go_enter Tryd.func40, Tryd.ntmps40
    go_wp2
    go_loopw [8, 9] (fun o i wr => ∃ I : Nat, I ≤ 64 * n0 ∧ i = .int .i64 I ∧ wr.ownsRow w.heap.size 3 1 o (pf G I 0).length ((pf G I 0).map (Value.int .i64)) ∧ Below w.heap.size w wr) (fun _ i _ => 64 * n0 - (intOf i).toNat)
    case atStart => exact ⟨0, Nat.zero_le _, rfl, World.ownsRow_nil _ _ _ _, Below.refl _ _⟩
    case round =>
      obtain ⟨I, hI, rfl, hown, hB⟩ := hrel
      by_cases hlt : I < 64 * n0
      · have h2 : (I : Int) < 64 * (n0 : Int) := by omega
        have h3 : (I : Int) + 1 < 5000 := by have := HMx.out; omega
        have h3' : (0 : Int) ≤ (I : Int) := by omega
        have E := HS.out I
        have hgl := Lib.hid (HLn.out I)
        have hIl : Hid (I < 512) := Lib.hid (by have := HMx.out; omega)
        rw [Nat.zero_add] at E
        have C1 := Lib.hid (HA.out I wr hB (by have := hIl.out; omega))
        have C2 := Lib.hid (fun W h => HB.out I W h (by have := hIl.out; omega))
        generalize hasP a I = x at *
        generalize hasP b I = y at *
        have E := Lib.hid E
        generalize pf G I 0 = Fk at *
        go_wp2_with fail
        refine C1.out.mono ?_
        rintro e w1 ⟨rfl, q1⟩
        have hB1 := hB.trans q1.below
        have hown1 := rowq hown q1
        clear C1 hB hown q1
        go_wp2_with fail
        refine (C2.out w1 hB1).mono ?_
        rintro e w2 ⟨rfl, q2⟩
        have hB2 := hB1.trans q2.below
        have hown2 := rowq hown1 q2
        clear C2 hB1 hown1 q2
        cases x <;> cases y
        · have E2 := E.out
          simp only [Bool.or_true, Bool.or_false, Bool.true_or, Bool.false_or, Bool.and_true, Bool.and_false, Bool.true_and, Bool.false_and, Bool.not_true, Bool.not_false, Bool.false_eq_true, if_false, List.append_nil] at E2
          have E3 := Lib.hid E2
          clear E E2
          go_wp2
          go_roundw
          case rel => exact ⟨I + 1, by omega, by go_num, by rw [E3.out]; exact hown2, hB2⟩
          case measure => simp [intOf]; omega
        · have E2 := E.out
          simp only [Bool.or_true, Bool.or_false, Bool.true_or, Bool.false_or, Bool.and_true, Bool.and_false, Bool.true_and, Bool.false_and, Bool.not_true, Bool.not_false, Bool.false_eq_true, if_false, List.append_nil] at E2
          have E3 := Lib.hid E2
          clear E E2
          go_wp2
          go_roundw
          case rel => exact ⟨I + 1, by omega, by go_num, by rw [E3.out]; exact hown2, hB2⟩
          case measure => simp [intOf]; omega
        · have E2 := E.out
          simp only [Bool.or_true, Bool.or_false, Bool.true_or, Bool.false_or, Bool.and_true, Bool.and_false, Bool.true_and, Bool.false_and, Bool.not_true, Bool.not_false, Bool.false_eq_true, if_false, List.append_nil] at E2
          have E3 := Lib.hid E2
          clear E E2
          go_wp2
          go_roundw
          case rel => exact ⟨I + 1, by omega, by go_num, by rw [E3.out]; exact hown2, hB2⟩
          case measure => simp [intOf]; omega
        · have E2 := E.out
          simp only [Bool.or_true, Bool.or_false, Bool.true_or, Bool.false_or, Bool.and_true, Bool.and_false, Bool.true_and, Bool.false_and, Bool.not_true, Bool.not_false, if_true] at E2
          have E3 := Lib.hid E2
          clear E E2
          go_wp2_with (at_builtin; refine wpList_append_lies _ rfl _ _ 39 rfl w.heap.size 3 i0 (.int .i64 0) 1 8 Tryd.underlying39 Z.out.1 Z.out.2.1 Z.out.2.2.1 Z.out.2.2.2 rfl (by decide) _ _ _ rfl (hown2.alloc _) ⟨w2.heap.size, 0, none⟩ 1 1 [.int .i64 (I : Int)] rfl rfl (cell_one_new _ _ _) (by simp [Value.oneCell']) (by decide) (by have := hgl.out; have := hIl.out; unfold maxLen; omega) (by have := hgl.out; have := hIl.out; omega) (by have := hB2.size; simp; omega) (w2.heap.size + 1) (by simp) ?_; intro g cap3 w8 hown8 hgrow hat hlt8)
          have g8 : Below w.heap.size w w8 := (hB2.alloc hB2.size _).grown hgrow (hB2.alloc hB2.size _).size (fun k' e => (hown2.lt k' e).1)
          have hown9 : w8.ownsRow w.heap.size 3 1 (.slice (some ⟨g, 0, none⟩) (Fk.length + 1) cap3) (pf G (I + 1) 0).length ((pf G (I + 1) 0).map (Value.int .i64)) := by
            rw [E3.out, List.map_append, List.length_append]; exact hown8
          clear hown8 hgrow hat hown2
          go_wp2
          go_roundw
          case rel => exact ⟨I + 1, by omega, by go_num, hown9, g8⟩
          case measure => simp [intOf]; omega
      · obtain rfl : I = 64 * n0 := by omega
        have h2 : ¬ ((64 * n0 : Nat) : Int) < 64 * (n0 : Int) := by omega
        have RO := Lib.hid (HE.out u8 wr (lst_int hown))
        clear hown HE
        go_wp2_with fail
        refine RO.out.mono ?_
        rintro e w9 ⟨u9, rfl, k1, k2, k3⟩
        go_wp2
        go_ret
        exact ⟨u9, rfl, k1, fun b hb => Nat.le_trans hB.size (k2 b hb), hB.trans (k3.mono hB.size)⟩
theorem minus_num {a b : List Int} (ha : ∀ z ∈ a, U64 z) (hb : ∀ z ∈ b, U64 z) : ofL0 (pf (fun i => hasP a i && !hasP b i) (64 * max a.length b.length) 0) (max a.length b.length) = minusV a b := by
  refine list_ext ?_ (ofL0_U _ _) (minusV_U ha hb) (fun i k hk => ?_)
  · rw [ofL0_len, minusV_len]; exact ofW0_same _ _ (fun q hq => by have := pf_mem _ _ hq; omega)
  · rw [pf_tb _ _ _ _ hk, minusV_tb ha hb, hasP_word a i k hk, hasP_word b i k hk]
    by_cases h : i < max a.length b.length
    · simp [h]
    · rw [out_tb (show a.length ≤ i by omega), out_tb (show b.length ≤ i by omega)]; simp [h]
set_option maxRecDepth 100000 in
set_option maxHeartbeats 4000000 in
theorem joined_minus (a0 : Option Addr) (n0 c0 : Nat) (a1 : Option Addr) (n1 c1 : Nat) (a b : List Int) (w : World) (ha : Lst .u64 w (.slice a0 n0 c0) a) (hb : Lst .u64 w (.slice a1 n1 c1) b) (e0 : a.length = n0) (e1 : b.length = n1) (hU : ∀ z ∈ a, U64 z) (hV : ∀ z ∈ b, U64 z) (h0 : n0 ≤ 8) (h1 : n1 ≤ 8) :
    Calls Tryd.prog 40 #[.slice a0 n0 c0, .slice a1 n1 c1, .int .i64 2] w (RowPost (minusV a b) w) := by
  obtain ⟨i0, hi, hz0, hz1, hz2⟩ := info_parts info_int
  have Z := Lib.hid (And.intro hi (And.intro hz0 (And.intro hz1 hz2)))
  have HA := Lib.hid (fun p W (h : Below w.heap.size w W) (hp : p < 1000000) => rhas_any _ a p W (ha.below h) hU (by omega) hp)
  have HB := Lib.hid (fun p W (h : Below w.heap.size w W) (hp : p < 1000000) => rhas_any _ b p W (hb.below h) hV (by omega) hp)
  obtain ⟨M, hM⟩ : ∃ M, max n0 n1 = M := ⟨_, rfl⟩
  have hM8 : M ≤ 8 := by omega
  have HE : Hid (∀ (u : Value) W, Lst .i64 W u (pf (fun i => hasP a i && !hasP b i) (64 * M) 0) → Calls Tryd.prog 32 #[u, .int .i64 M] W (BothE 0 (minusV a b) W)) := Lib.hid (fun u W hu => by
    have r := rof_both u _ M W hu (by have := pf_len (fun i => hasP a i && !hasP b i) (64 * M) 0; omega) (by omega)
    rw [okAll_pf _ M (by omega)] at r
    simp only [if_true] at r
    have e := minus_num hU hV
    rw [e0, e1, hM] at e
    rw [e] at r
    exact r)
  have HS := Lib.hid (fun d => pf_snoc (fun i => hasP a i && !hasP b i) d 0)
  have HLn := Lib.hid (fun d => pf_len (fun i => hasP a i && !hasP b i) d 0)
  generalize hG : (fun i => hasP a i && !hasP b i) = G at *
  have HMx := Lib.hid (And.intro hM8 (And.intro h0 h1))
  clear hG hi hz0 hz1 hz2 ha hb e0 e1 hU hV
  by_cases hc : n0 < n1
  · have hc' : (n0 : Int) < (n1 : Int) := by omega
    obtain rfl : n1 = M := by omega
    have hmm : n1 ≤ 8 := h1
    clear hc hM h0 h1 hM8
    go_enter Tryd.func40, Tryd.ntmps40
    go_wp2
    go_loopw [8, 9] (fun o i wr => ∃ I : Nat, I ≤ 64 * n1 ∧ i = .int .i64 I ∧ wr.ownsRow w.heap.size 3 1 o (pf G I 0).length ((pf G I 0).map (Value.int .i64)) ∧ Below w.heap.size w wr) (fun _ i _ => 64 * n1 - (intOf i).toNat)
    case atStart => exact ⟨0, Nat.zero_le _, rfl, World.ownsRow_nil _ _ _ _, Below.refl _ _⟩
    case round =>
      obtain ⟨I, hI, rfl, hown, hB⟩ := hrel
      by_cases hlt : I < 64 * n1
      · have h2 : (I : Int) < 64 * (n1 : Int) := by omega
        have h3 : (I : Int) + 1 < 5000 := by have := HMx.out; omega
        have h3' : (0 : Int) ≤ (I : Int) := by omega
        have E := HS.out I
        have hgl := Lib.hid (HLn.out I)
        have hIl : Hid (I < 512) := Lib.hid (by have := HMx.out; omega)
        rw [Nat.zero_add] at E
        have C1 := Lib.hid (HA.out I wr hB (by have := hIl.out; omega))
        have C2 := Lib.hid (fun W h => HB.out I W h (by have := hIl.out; omega))
        generalize hasP a I = x at *
        generalize hasP b I = y at *
        have E := Lib.hid E
        generalize pf G I 0 = Fk at *
        go_wp2_with fail
        refine C1.out.mono ?_
        rintro e w1 ⟨rfl, q1⟩
        have hB1 := hB.trans q1.below
        have hown1 := rowq hown q1
        clear C1 hB hown q1
        go_wp2_with fail
        refine (C2.out w1 hB1).mono ?_
        rintro e w2 ⟨rfl, q2⟩
        have hB2 := hB1.trans q2.below
        have hown2 := rowq hown1 q2
        clear C2 hB1 hown1 q2
        cases x <;> cases y
        · have E2 := E.out
          simp only [Bool.or_true, Bool.or_false, Bool.true_or, Bool.false_or, Bool.and_true, Bool.and_false, Bool.true_and, Bool.false_and, Bool.not_true, Bool.not_false, Bool.false_eq_true, if_false, List.append_nil] at E2
          have E3 := Lib.hid E2
          clear E E2
          go_wp2
          go_roundw
          case rel => exact ⟨I + 1, by omega, by go_num, by rw [E3.out]; exact hown2, hB2⟩
          case measure => simp [intOf]; omega
        · have E2 := E.out
          simp only [Bool.or_true, Bool.or_false, Bool.true_or, Bool.false_or, Bool.and_true, Bool.and_false, Bool.true_and, Bool.false_and, Bool.not_true, Bool.not_false, Bool.false_eq_true, if_false, List.append_nil] at E2
          have E3 := Lib.hid E2
          clear E E2
          go_wp2
          go_roundw
          case rel => exact ⟨I + 1, by omega, by go_num, by rw [E3.out]; exact hown2, hB2⟩
          case measure => simp [intOf]; omega
        · have E2 := E.out
          simp only [Bool.or_true, Bool.or_false, Bool.true_or, Bool.false_or, Bool.and_true, Bool.and_false, Bool.true_and, Bool.false_and, Bool.not_true, Bool.not_false, if_true] at E2
          have E3 := Lib.hid E2
          clear E E2
          go_wp2_with (at_builtin; refine wpList_append_lies _ rfl _ _ 39 rfl w.heap.size 3 i0 (.int .i64 0) 1 8 Tryd.underlying39 Z.out.1 Z.out.2.1 Z.out.2.2.1 Z.out.2.2.2 rfl (by decide) _ _ _ rfl (hown2.alloc _) ⟨w2.heap.size, 0, none⟩ 1 1 [.int .i64 (I : Int)] rfl rfl (cell_one_new _ _ _) (by simp [Value.oneCell']) (by decide) (by have := hgl.out; have := hIl.out; unfold maxLen; omega) (by have := hgl.out; have := hIl.out; omega) (by have := hB2.size; simp; omega) (w2.heap.size + 1) (by simp) ?_; intro g cap3 w8 hown8 hgrow hat hlt8)
          have g8 : Below w.heap.size w w8 := (hB2.alloc hB2.size _).grown hgrow (hB2.alloc hB2.size _).size (fun k' e => (hown2.lt k' e).1)
          have hown9 : w8.ownsRow w.heap.size 3 1 (.slice (some ⟨g, 0, none⟩) (Fk.length + 1) cap3) (pf G (I + 1) 0).length ((pf G (I + 1) 0).map (Value.int .i64)) := by
            rw [E3.out, List.map_append, List.length_append]; exact hown8
          clear hown8 hgrow hat hown2
          go_wp2
          go_roundw
          case rel => exact ⟨I + 1, by omega, by go_num, hown9, g8⟩
          case measure => simp [intOf]; omega
        · have E2 := E.out
          simp only [Bool.or_true, Bool.or_false, Bool.true_or, Bool.false_or, Bool.and_true, Bool.and_false, Bool.true_and, Bool.false_and, Bool.not_true, Bool.not_false, Bool.false_eq_true, if_false, List.append_nil] at E2
          have E3 := Lib.hid E2
          clear E E2
          go_wp2
          go_roundw
          case rel => exact ⟨I + 1, by omega, by go_num, by rw [E3.out]; exact hown2, hB2⟩
          case measure => simp [intOf]; omega
      · obtain rfl : I = 64 * n1 := by omega
        have h2 : ¬ ((64 * n1 : Nat) : Int) < 64 * (n1 : Int) := by omega
        have RO := Lib.hid (HE.out u8 wr (lst_int hown))
        clear hown HE
        go_wp2_with fail
        refine RO.out.mono ?_
        rintro e w9 ⟨u9, rfl, k1, k2, k3⟩
        go_wp2
        go_ret
        exact ⟨u9, rfl, k1, fun b hb => Nat.le_trans hB.size (k2 b hb), hB.trans (k3.mono hB.size)⟩
  · have hc' : ¬ (n0 : Int) < (n1 : Int) := by omega
    obtain rfl : n0 = M := by omega
    have hmm : n0 ≤ 8 := h0
    clear hc hM h0 h1 hM8
    go_enter Tryd.func40, Tryd.ntmps40
    go_wp2
    go_loopw [8, 9] (fun o i wr => ∃ I : Nat, I ≤ 64 * n0 ∧ i = .int .i64 I ∧ wr.ownsRow w.heap.size 3 1 o (pf G I 0).length ((pf G I 0).map (Value.int .i64)) ∧ Below w.heap.size w wr) (fun _ i _ => 64 * n0 - (intOf i).toNat)
    case atStart => exact ⟨0, Nat.zero_le _, rfl, World.ownsRow_nil _ _ _ _, Below.refl _ _⟩
    case round =>
      obtain ⟨I, hI, rfl, hown, hB⟩ := hrel
      by_cases hlt : I < 64 * n0
      · have h2 : (I : Int) < 64 * (n0 : Int) := by omega
        have h3 : (I : Int) + 1 < 5000 := by have := HMx.out; omega
        have h3' : (0 : Int) ≤ (I : Int) := by omega
        have E := HS.out I
        have hgl := Lib.hid (HLn.out I)
        have hIl : Hid (I < 512) := Lib.hid (by have := HMx.out; omega)
        rw [Nat.zero_add] at E
        have C1 := Lib.hid (HA.out I wr hB (by have := hIl.out; omega))
        have C2 := Lib.hid (fun W h => HB.out I W h (by have := hIl.out; omega))
        generalize hasP a I = x at *
        generalize hasP b I = y at *
        have E := Lib.hid E
        generalize pf G I 0 = Fk at *
        go_wp2_with fail
        refine C1.out.mono ?_
        rintro e w1 ⟨rfl, q1⟩
        have hB1 := hB.trans q1.below
        have hown1 := rowq hown q1
        clear C1 hB hown q1
        go_wp2_with fail
        refine (C2.out w1 hB1).mono ?_
        rintro e w2 ⟨rfl, q2⟩
        have hB2 := hB1.trans q2.below
        have hown2 := rowq hown1 q2
        clear C2 hB1 hown1 q2
        cases x <;> cases y
        · have E2 := E.out
          simp only [Bool.or_true, Bool.or_false, Bool.true_or, Bool.false_or, Bool.and_true, Bool.and_false, Bool.true_and, Bool.false_and, Bool.not_true, Bool.not_false, Bool.false_eq_true, if_false, List.append_nil] at E2
          have E3 := Lib.hid E2
          clear E E2
          go_wp2
          go_roundw
          case rel => exact ⟨I + 1, by omega, by go_num, by rw [E3.out]; exact hown2, hB2⟩
          case measure => simp [intOf]; omega
        · have E2 := E.out
          simp only [Bool.or_true, Bool.or_false, Bool.true_or, Bool.false_or, Bool.and_true, Bool.and_false, Bool.true_and, Bool.false_and, Bool.not_true, Bool.not_false, Bool.false_eq_true, if_false, List.append_nil] at E2
          have E3 := Lib.hid E2
          clear E E2
          go_wp2
          go_roundw
          case rel => exact ⟨I + 1, by omega, by go_num, by rw [E3.out]; exact hown2, hB2⟩
          case measure => simp [intOf]; omega
        · have E2 := E.out
          simp only [Bool.or_true, Bool.or_false, Bool.true_or, Bool.false_or, Bool.and_true, Bool.and_false, Bool.true_and, Bool.false_and, Bool.not_true, Bool.not_false, if_true] at E2
          have E3 := Lib.hid E2
          clear E E2
          go_wp2_with (at_builtin; refine wpList_append_lies _ rfl _ _ 39 rfl w.heap.size 3 i0 (.int .i64 0) 1 8 Tryd.underlying39 Z.out.1 Z.out.2.1 Z.out.2.2.1 Z.out.2.2.2 rfl (by decide) _ _ _ rfl (hown2.alloc _) ⟨w2.heap.size, 0, none⟩ 1 1 [.int .i64 (I : Int)] rfl rfl (cell_one_new _ _ _) (by simp [Value.oneCell']) (by decide) (by have := hgl.out; have := hIl.out; unfold maxLen; omega) (by have := hgl.out; have := hIl.out; omega) (by have := hB2.size; simp; omega) (w2.heap.size + 1) (by simp) ?_; intro g cap3 w8 hown8 hgrow hat hlt8)
          have g8 : Below w.heap.size w w8 := (hB2.alloc hB2.size _).grown hgrow (hB2.alloc hB2.size _).size (fun k' e => (hown2.lt k' e).1)
          have hown9 : w8.ownsRow w.heap.size 3 1 (.slice (some ⟨g, 0, none⟩) (Fk.length + 1) cap3) (pf G (I + 1) 0).length ((pf G (I + 1) 0).map (Value.int .i64)) := by
            rw [E3.out, List.map_append, List.length_append]; exact hown8
          clear hown8 hgrow hat hown2
          go_wp2
          go_roundw
          case rel => exact ⟨I + 1, by omega, by go_num, hown9, g8⟩
          case measure => simp [intOf]; omega
        · have E2 := E.out
          simp only [Bool.or_true, Bool.or_false, Bool.true_or, Bool.false_or, Bool.and_true, Bool.and_false, Bool.true_and, Bool.false_and, Bool.not_true, Bool.not_false, Bool.false_eq_true, if_false, List.append_nil] at E2
          have E3 := Lib.hid E2
          clear E E2
          go_wp2
          go_roundw
          case rel => exact ⟨I + 1, by omega, by go_num, by rw [E3.out]; exact hown2, hB2⟩
          case measure => simp [intOf]; omega
      · obtain rfl : I = 64 * n0 := by omega
        have h2 : ¬ ((64 * n0 : Nat) : Int) < 64 * (n0 : Int) := by omega
        have RO := Lib.hid (HE.out u8 wr (lst_int hown))
        clear hown HE
        go_wp2_with fail
        refine RO.out.mono ?_
        rintro e w9 ⟨u9, rfl, k1, k2, k3⟩
        go_wp2
        go_ret
        exact ⟨u9, rfl, k1, fun b hb => Nat.le_trans hB.size (k2 b hb), hB.trans (k3.mono hB.size)⟩
end Go.Proofs.YtalhlbedgkhijaaDoor
