/- What the document's With and Without of a set return: as the program's. Condition: the list is short. -/
import Derived.Test.YtbpgnhakphpobaaDoorMrpl
namespace Go.Proofs.YtbpgnhakphpobaaDoor
open Go.RowKit
set_option linter.unusedVariables false

/-! numbers -/
theorem tb_fold : ∀ (ps L : List Int), (∀ z ∈ L, U64 z) → (∀ p ∈ ps, p.toNat / 64 < L.length) → ∀ i k, tbI ((ps.foldl ofStep L).getD i 0) k = (tbI (L.getD i 0) k || ps.any (fun p => decide (p.toNat / 64 = i) && decide (k = p.toNat % 64)))
  | [], L, _, _, i, k => by simp
  | p :: ps, L, hU, hp, i, k => by
    have h1 := hp p (by simp)
    rw [List.foldl_cons, tb_fold ps (ofStep L p) (ofStep_U hU p) (fun q hq => by rw [ofStep_len]; exact hp q (by simp [hq])) i k]
    have e : tbI ((ofStep L p).getD i 0) k = (tbI (L.getD i 0) k || (decide (p.toNat / 64 = i) && decide (k = p.toNat % 64))) := by
      unfold ofStep
      by_cases e : p.toNat / 64 = i
      · subst e
        rw [getD_set_eq _ _ _ h1, tb_or (getD_U64 hU _) (bitI_U64 _), tb_bit]; simp
      · rw [getD_set_ne _ _ _ _ e]; simp [e]
    rw [e, List.any_cons, Bool.or_assoc]
theorem pf_any (h : Nat → Bool) (g : Int → Bool) : ∀ (d i : Nat), (pf h d i).any g = (List.range d).any (fun j => h (i + j) && g ((i + j : Nat) : Int))
  | 0, i => rfl
  | d + 1, i => by
    have e : (if h (i + d) = true then [((i + d : Nat) : Int)] else []).any g = [d].any (fun j => h (i + j) && g ((i + j : Nat) : Int)) := by
      cases hh : h (i + d) <;> simp [hh]
    rw [pf_snoc, List.any_append, pf_any h g d i, List.range_succ, List.any_append, e]
theorem plL_any {l : List Int} (i k : Nat) (hk : k < 64) (q : Nat → Bool) : (plL l).any (fun p => (decide (p.toNat / 64 = i) && decide (k = p.toNat % 64)) && q p.toNat) = (tbI (l.getD i 0) k && q (64 * i + k)) := by
  rw [plL_pf, pf_any]
  cases hb : (tbI (l.getD i 0) k && q (64 * i + k)) with
  | true =>
    rw [Bool.and_eq_true] at hb
    rw [List.any_eq_true]
    have hi : i < l.length := by
      rcases Nat.lt_or_ge i l.length with e | e
      · exact e
      · have := hb.1
        rw [show l.getD i 0 = 0 by simp [List.getD_eq_getElem?_getD, show ¬ i < l.length by omega], tb_zero] at this; cases this
    refine ⟨64 * i + k, by rw [List.mem_range]; omega, ?_⟩
    rw [Nat.zero_add, Int.toNat_natCast, show (64 * i + k) / 64 = i by omega, show (64 * i + k) % 64 = k by omega]
    unfold hasP
    rw [show (64 * i + k) / 64 = i by omega, show (64 * i + k) % 64 = k by omega, hb.1, hb.2]
    simp
  | false =>
    rw [Bool.eq_false_iff]
    intro hc
    obtain ⟨j, hj, hh⟩ := List.any_eq_true.1 hc
    rw [Nat.zero_add, Int.toNat_natCast] at hh
    simp only [Bool.and_eq_true, decide_eq_true_eq] at hh
    obtain ⟨h1, ⟨h2, h3⟩, h4⟩ := hh
    have e : j = 64 * i + k := by omega
    subst e
    unfold hasP at h1
    rw [h2, ← h3] at h1
    rw [h1, h4] at hb
    cases hb
theorem list_ext {a b : List Int} (hl : a.length = b.length) (ha : ∀ z ∈ a, U64 z) (hb : ∀ z ∈ b, U64 z) (h : ∀ i k, k < 64 → tbI (a.getD i 0) k = tbI (b.getD i 0) k) : a = b := by
  apply List.ext_getElem hl
  intro i h1 h2
  have := tb_ext (getD_U64 ha i) (getD_U64 hb i) (fun k => by
    by_cases hk : k < 64
    · exact h i k hk
    · rw [tb_high (getD_U64 ha i) k (by omega), tb_high (getD_U64 hb i) k (by omega)])
  rwa [getD_in a i h1, getD_in b i h2] at this
theorem plL_mem {l : List Int} {p : Int} (h : p ∈ plL l) : 0 ≤ p ∧ p < 64 * (l.length : Int) := by
  rw [plL_pf] at h
  have : ∀ (d i : Nat), p ∈ pf (hasP l) d i → (i : Int) ≤ p ∧ p < ((i + d : Nat) : Int) := by
    intro d
    induction d with
    | zero => intro i h; cases h
    | succ d ih =>
      intro i h
      unfold pf at h
      split at h
      · rcases List.mem_cons.1 h with e | e
        · omega
        · have := ih _ e; omega
      · have := ih _ h; omega
  have := this _ _ h
  omega
theorem okAll_pl {l : List Int} (hl : l.length ≤ 1024) (ps : List Int) (h : ∀ p ∈ ps, p ∈ plL l) : okAll ps = true := by
  unfold okAll
  rw [List.all_eq_true]
  intro z hz
  have := plL_mem (h z hz)
  simp [okPl]; omega
theorem ofW0_same (ps : List Int) (m : Nat) (h : ∀ p ∈ ps, p.toNat / 64 + 1 ≤ m) : ofW0 ps m = m := by
  induction ps with
  | nil => rfl
  | cons p ps ih =>
    unfold ofW0
    rw [List.foldl_cons, show max m (p.toNat / 64 + 1) = m by have := h p (by simp); omega]
    exact ih (fun q hq => h q (by simp [hq]))
theorem ofL0_U (ps : List Int) (m : Nat) : ∀ z ∈ ofL0 ps m, U64 z := ofFold_U ps _ (zeros_U _)
theorem ofL0_len (ps : List Int) (m : Nat) : (ofL0 ps m).length = ofW0 ps m := by unfold ofL0; rw [ofFold_len, List.length_replicate]
theorem zeros_tb (n i k : Nat) : tbI ((List.replicate n (0 : Int)).getD i 0) k = false := by
  by_cases h : i < n
  · simp [List.getD_eq_getElem?_getD, h, tb_zero]
  · simp [List.getD_eq_getElem?_getD, h, tb_zero]
theorem with_num {l : List Int} (hU : ∀ z ∈ l, U64 z) (p : Nat) : ofL0 (plL l ++ [(p : Int)]) l.length = withL l p := by
  have hW : ofW0 (plL l ++ [(p : Int)]) l.length = max l.length (p / 64 + 1) := by
    unfold ofW0
    rw [List.foldl_append]
    have : (plL l).foldl (fun m p => max m (p.toNat / 64 + 1)) l.length = l.length := ofW0_same (plL l) l.length (fun q hq => by have := plL_mem hq; omega)
    rw [this]; rfl
  refine list_ext ?_ (ofL0_U _ _) (with_U64 hU p) (fun i k hk => ?_)
  · rw [ofL0_len, hW, withL_len]; split <;> omega
  · unfold ofL0
    rw [tb_fold _ _ (zeros_U _) (fun q hq => ?_), zeros_tb, List.any_append, Bool.false_or]
    · have e := plL_any (l := l) i k hk (fun _ => true)
      simp only [Bool.and_true] at e
      rw [e, withL_tb hU]
      simp [eq_comm]
    · rw [List.length_replicate, hW]
      rcases List.mem_append.1 hq with e | e
      · have := plL_mem e; omega
      · rw [List.mem_singleton.1 e, Int.toNat_natCast]; omega
theorem without_num {l : List Int} (hU : ∀ z ∈ l, U64 z) (p : Nat) : ofL0 ((plL l).filter (fun q => q != (p : Int))) l.length = withoutL l p := by
  have hW : ofW0 ((plL l).filter (fun q => q != (p : Int))) l.length = l.length := ofW0_same _ _ (fun q hq => by have := plL_mem ((List.mem_filter.1 hq).1); omega)
  refine list_ext ?_ (ofL0_U _ _) (without_U64 hU p) (fun i k hk => ?_)
  · rw [ofL0_len, hW]; unfold withoutL; rw [List.length_set]
  · unfold ofL0
    rw [tb_fold _ _ (zeros_U _) (fun q hq => by rw [List.length_replicate, hW]; have := plL_mem ((List.mem_filter.1 hq).1); omega), zeros_tb, Bool.false_or, List.any_filter]
    have e := plL_any (l := l) i k hk (fun q => q != p)
    rw [withoutL_tb hU]
    have e2 : (plL l).any (fun q => (q != (p : Int)) && (decide (q.toNat / 64 = i) && decide (k = q.toNat % 64))) = (plL l).any (fun q => (decide (q.toNat / 64 = i) && decide (k = q.toNat % 64)) && (q.toNat != p)) := by
      rw [Bool.eq_iff_iff, List.any_eq_true, List.any_eq_true]
      constructor
      · rintro ⟨q, hq, h⟩
        refine ⟨q, hq, ?_⟩
        have := (plL_mem hq).1
        rw [Bool.and_comm]
        simp only [Bool.and_eq_true, bne_iff_ne] at h ⊢
        exact ⟨fun e => h.1 (by omega), h.2⟩
      · rintro ⟨q, hq, h⟩
        refine ⟨q, hq, ?_⟩
        have := (plL_mem hq).1
        rw [Bool.and_comm] at h
        simp only [Bool.and_eq_true, bne_iff_ne] at h ⊢
        exact ⟨fun e => h.1 (by omega), h.2⟩
    rw [e2, e]
    congr 1
    by_cases ep : 64 * i + k = p
    · have h1 : i = p / 64 := by omega
      have h2 : k = p % 64 := by omega
      rw [← h1, ← h2]; simp [ep]
    · have : ¬ (i = p / 64 ∧ k = p % 64) := fun h => ep (by omega)
      have e3 : (decide (i = p / 64) && decide (k = p % 64)) = false := by simpa using this
      rw [e3]; simp [ep]

/-! the walks -/
def withE (p : Int) : Int := if okPl p then 0 else 1
def withW (l : List Int) (p : Int) : List Int := if okPl p then withL l p.toNat else []
def withoutW (l : List Int) (p : Int) : List Int := if okPl p then withoutL l p.toNat else []
theorem nil_both (L : List Int) (hL : L = []) (er : Int) (her : er = 1) {w w' : World} {e : Ending} (h : e = .returned (.tuple #[.slice none 0 0, .int .i64 1]) ∧ Quiet w w') : BothE er L w e w' := by
  subst hL her
  exact ⟨_, h.1, .inl ⟨rfl, none, 0, rfl⟩, fun b hb => by simp [setBlk] at hb, h.2.below⟩
theorem okAll_snoc {l : List Int} (hl : l.length ≤ 1024) (p : Int) : okAll (plL l ++ [p]) = okPl p := by
  have h1 := okAll_pl hl (plL l) (fun q hq => hq)
  unfold okAll at *
  rw [List.all_append, h1]; simp
theorem lst_int {w : World} {base : Nat} {v : Value} {n : Nat} {zs : List Int} (h : w.ownsRow base 3 1 v n (zs.map (Value.int .i64))) : Lst .i64 w v zs := lst_of_own h
end Go.Proofs.YtbpgnhakphpobaaDoor
