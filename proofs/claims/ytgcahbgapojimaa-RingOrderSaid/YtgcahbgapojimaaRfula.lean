/- Numbers and words for the law RingFull: the cells behind so many pushes; four steps of takes, and of puts. No condition. -/
import Derived.Test.YtgcahbgapojimaaRwaity
import Derived.Test.YtgcahbgapojimaaRsid
namespace Go.Proofs.Ytgcahbgapojimaa
open Go.RowKit
theorem own0 (R x : Int) : ownN R 0 x = (16 + x).toNat := by unfold ownN; simp
theorem slot0 (R n : Int) : slotN R 0 n = (21 + n % R).toNat := by unfold slotN; rw [own0]; congr 1; omega
/-- the cells behind k pushes of 1, 2, .. into an empty ring -/
structure FuC (R : Int) (N k : Nat) (cs : List Int) : Prop where
  len : cs.length = N
  tail : cs.getD (ownN R 0 4) 0 = k
  head : cs.getD (ownN R 0 3) 0 = 0
  slot : ∀ j : Nat, j < k → cs.getD (slotN R 0 j) 0 = j + 1
theorem FuC.zero (R : Int) (N : Nat) : FuC R N 0 (List.replicate N 0) := by
  have e : ∀ j, (List.replicate N (0 : Int)).getD j 0 = 0 := fun j => by
    simp only [List.getD_eq_getElem?_getD, List.getElem?_replicate]; split <;> rfl
  exact ⟨by simp, e _, e _, fun j hj => absurd hj (by omega)⟩
theorem FuC.push {P T R : Int} {k : Nat} {cs : List Int} (h : FuC R (cellsN P T R) k cs) (hx : exB P T R 0 = true) (hk : (k : Int) < R) : FuC R (cellsN P T R) (k + 1) (pushed R 0 cs ((k : Int) + 1)) := by
  obtain ⟨r1, r2⟩ := ring_bd hx
  have hs := slotN_bd hx (k : Int)
  have h4 := ownN_bd hx 4 (by decide) (by omega)
  have ek : (k : Int) % R = k := Int.emod_eq_of_lt (by omega) hk
  have hw : IntKind.u64.wrap ((k : Int) + 1) = ((k + 1 : Nat) : Int) := by rw [IntKind.wrap_u64]; omega
  have e4 : ownN R 0 4 = 20 := by rw [own0]; rfl
  have e3 : ownN R 0 3 = 19 := by rw [own0]; rfl
  have es : slotN R 0 (k : Int) = 21 + k := by rw [slot0, ek]; omega
  unfold pushed
  rw [h.tail, hw, e4, es]
  rw [e4] at h4
  rw [es] at hs
  refine ⟨by simp [h.len], ?_, ?_, fun j hj => ?_⟩
  · rw [e4, getD_set, if_pos ⟨rfl, by rw [List.length_set, h.len]; exact h4.2.1⟩]
  · rw [e3, getD_set, if_neg (by omega), getD_set, if_neg (by omega), ← e3]; exact h.head
  · have ej : (j : Int) % R = j := Int.emod_eq_of_lt (by omega) (by omega)
    have esj : slotN R 0 (j : Int) = 21 + j := by rw [slot0, ej]; omega
    rw [esj, getD_set, if_neg (by omega), getD_set]
    by_cases e : j = k
    · subst e
      rw [if_pos ⟨rfl, by rw [h.len]; exact hs.2.1⟩]
    · rw [if_neg (by omega), ← esj]; exact h.slot j (by omega)
/-- the cells when the first word was taken -/
def csT (R : Int) (cs : List Int) : List Int := cs.set (ownN R 0 3) (IntKind.u64.wrap (0 + 1))
/-- and when one more was put -/
def csP (R : Int) (cs : List Int) : List Int := ((csT R cs).set (slotN R 0 R) 77).set (ownN R 0 4) (IntKind.u64.wrap (R + 1))
theorem csT_facts {P T R : Int} {k : Nat} {cs : List Int} (h : FuC R (cellsN P T R) k cs) (hx : exB P T R 0 = true) (hk : (k : Int) = R) :
    (csT R cs).length = cellsN P T R ∧ (csT R cs).getD (ownN R 0 4) 0 = R ∧ (csT R cs).getD (ownN R 0 3) 0 = 1 := by
  obtain ⟨r1, r2⟩ := ring_bd hx
  have h3 := ownN_bd hx 3 (by decide) (by omega)
  have e4 : ownN R 0 4 = 20 := by rw [own0]; rfl
  have e3 : ownN R 0 3 = 19 := by rw [own0]; rfl
  unfold csT
  refine ⟨by simp [h.len], ?_, ?_⟩
  · rw [getD_set, if_neg (by omega), h.tail, hk]
  · rw [getD_set, if_pos ⟨rfl, by rw [h.len]; exact h3.2.1⟩]; decide
theorem csP_facts {P T R : Int} {k : Nat} {cs : List Int} (h : FuC R (cellsN P T R) k cs) (hx : exB P T R 0 = true) (hk : (k : Int) = R) :
    (csP R cs).length = cellsN P T R ∧ (csP R cs).getD (ownN R 0 4) 0 = R + 1 ∧ (csP R cs).getD (ownN R 0 3) 0 = 1 ∧ (waitL R 0 1 (csP R cs) k).getD (k - 1) 0 = 77 := by
  obtain ⟨r1, r2⟩ := ring_bd hx
  have hT := csT_facts h hx hk
  have hs := slotN_bd hx R
  have h4 := ownN_bd hx 4 (by decide) (by omega)
  have e4 : ownN R 0 4 = 20 := by rw [own0]; rfl
  have e3 : ownN R 0 3 = 19 := by rw [own0]; rfl
  have es : slotN R 0 R = 21 := by rw [slot0]; simp
  have hw : IntKind.u64.wrap (R + 1) = R + 1 := by rw [IntKind.wrap_u64]; omega
  have hL : (csP R cs).length = cellsN P T R := by unfold csP; simp [hT.1]
  refine ⟨hL, ?_, ?_, ?_⟩
  · unfold csP
    rw [getD_set, if_pos ⟨rfl, by rw [List.length_set, hT.1]; exact h4.2.1⟩, hw]
  · unfold csP
    rw [getD_set, if_neg (by omega), getD_set, if_neg (by omega)]; exact hT.2.2
  · have hk1 : k - 1 < k := by omega
    have hw1 : IntKind.u64.wrap (1 + ((k - 1 : Nat) : Int)) = R := by rw [IntKind.wrap_u64]; omega
    unfold waitL
    rw [List.getD_eq_getElem?_getD, List.getElem?_map, List.getElem?_range hk1]
    simp only [Option.map_some, Option.getD_some]
    rw [hw1]
    unfold csP
    rw [getD_set, if_neg (by omega), getD_set, if_pos ⟨rfl, by rw [hT.1]; exact hs.2.1⟩]
section
variable {w0 w w' : World} {B a c p x : Nat} {P T R : Int} {k : Nat} {cs : List Int}
/-- the queue behind z steps of takes -/
def TkS (w0 : World) (B a c p x : Nat) (P T R : Int) (cs : List Int) (z : Int) (w : World) : Prop :=
  (z = 0 ∧ ∃ n K, n ≤ 100 ∧ QS w0 B a c p p x none none 77 (.slice none 0 0) (.slice none 0 0) [] [] cs n K 0 0 w) ∨
  (z = 1 ∧ ∃ n K m, n ≤ 101 ∧ QK w0 B a c p p x m none P T R 77 0 0 1 (.slice none 0 0) (.slice none 0 0) [] [] cs n K 0 0 w) ∨
  (z = 2 ∧ ∃ n K m, n ≤ 102 ∧ QK w0 B a c p p x m none P T R 77 0 0 5 (.slice none 0 0) (.slice none 0 0) [] [] cs n K 0 0 w) ∨
  (z = 3 ∧ ∃ n K m, n ≤ 103 ∧ QK w0 B a c p p x m none P T R 77 1 0 6 (.slice none 0 0) (.slice none 0 0) [] [] cs n K 0 0 w) ∨
  (z = 4 ∧ ∃ n K g cap, n ≤ 104 ∧ QS w0 B a c p p x none none 77 (.slice none 0 0) (.slice (some ⟨g, 0, none⟩) 1 cap) [] [1] (csT R cs) n K 0 0 w)
theorem tk_step (z : Int) (h : TkS w0 B a c p x P T R cs z w) (hz : z < 4) (hF : FuC R (cellsN P T R) k cs) (hx : exB P T R 0 = true) (hk : (k : Int) = R) :
    Calls Try.prog 22 #[.pointer (some ⟨x, 0, none⟩), .agg #[.int .i64 P, .int .i64 T, .int .i64 R]] w fun e w' => (∃ u, e = .returned u) ∧ TkS w0 B a c p x P T R cs (z + 1) w' := by
  obtain ⟨r1, r2⟩ := ring_bd hx
  rcases h with ⟨rfl, n, K, hn, h⟩ | ⟨rfl, n, K, m, hn, h⟩ | ⟨rfl, n, K, m, hn, h⟩ | ⟨rfl, n, K, m, hn, h⟩ | ⟨rfl, _⟩
  · refine (takes_nil h hx hF.len (by omega)).mono fun e w' ⟨he, m, hK, _⟩ => ⟨he, .inr (.inl ⟨rfl, n + 1, m :: K, m, by omega, ?_⟩)⟩
    rw [hF.head] at hK
    exact hK
  · refine (takes_on P T R h hx hF.len (fun W W0 hW => hW.step2s (h.ready hx hF.len) (by omega) (by rw [hF.tail]; exact beq_eq_false_iff_ne.2 (by omega)))).mono fun e w' ⟨he, hK, _⟩ => ⟨he, .inr (.inr (.inl ⟨rfl, n + 1, _, m, by omega, hK⟩))⟩
  · refine (takes_on P T R h hx hF.len (fun W W0 hW => hW.step3 (h.ready hx hF.len) (by omega) ⟨by decide, by decide⟩)).mono fun e w' ⟨he, hK, _⟩ => ⟨he, .inr (.inr (.inr (.inl ⟨rfl, n + 1, K, m, by omega, ?_⟩)))⟩
    have := hF.slot 0 (by omega)
    rw [show ((0 : Nat) : Int) = 0 from rfl] at this
    rw [this] at hK
    exact hK
  · refine (takes_over P T R h hx hF.len (by decide) (fun W W0 hW => hW.step4 (h.ready hx hF.len) (by omega))).mono fun e w' ⟨he, g, cap, hK, _⟩ => ⟨he, .inr (.inr (.inr (.inr ⟨rfl, n + 1, _, g, cap, by omega, hK⟩)))⟩
  · omega
/-- the queue behind z steps of puts -/
def PtS (w0 : World) (B a c p x : Nat) (P T R : Int) (cs : List Int) (z : Int) (w : World) : Prop :=
  (z = 0 ∧ ∃ n K g cap, n ≤ 104 ∧ QS w0 B a c p p x none none 77 (.slice none 0 0) (.slice (some ⟨g, 0, none⟩) 1 cap) [] [1] (csT R cs) n K 0 0 w) ∨
  (z = 1 ∧ ∃ n K g cap m, n ≤ 105 ∧ QP w0 B a c p p x m none P T R 77 77 R 2 (.slice none 0 0) (.slice (some ⟨g, 0, none⟩) 1 cap) [] [1] (csT R cs) n K 0 0 w) ∨
  (z = 2 ∧ ∃ n K g cap m, n ≤ 106 ∧ QP w0 B a c p p x m none P T R 77 77 R 3 (.slice none 0 0) (.slice (some ⟨g, 0, none⟩) 1 cap) [] [1] (csT R cs) n K 0 0 w) ∨
  (z = 3 ∧ ∃ n K g cap m, n ≤ 107 ∧ QP w0 B a c p p x m none P T R 77 77 R 4 (.slice none 0 0) (.slice (some ⟨g, 0, none⟩) 1 cap) [] [1] ((csT R cs).set (slotN R 0 R) 77) n K 0 0 w) ∨
  (z = 4 ∧ ∃ n K g cap g' cap', n ≤ 108 ∧ QS w0 B a c p p x none none 78 (.slice (some ⟨g', 0, none⟩) 1 cap') (.slice (some ⟨g, 0, none⟩) 1 cap) [77] [1] (csP R cs) n K 0 0 w)
theorem pt_step (z : Int) (h : PtS w0 B a c p x P T R cs z w) (hz : z < 4) (hF : FuC R (cellsN P T R) k cs) (hx : exB P T R 0 = true) (hk : (k : Int) = R) :
    Calls Try.prog 21 #[.pointer (some ⟨x, 0, none⟩), .agg #[.int .i64 P, .int .i64 T, .int .i64 R]] w fun e w' => (∃ u, e = .returned u) ∧ PtS w0 B a c p x P T R cs (z + 1) w' := by
  obtain ⟨r1, r2⟩ := ring_bd hx
  have hT := csT_facts hF hx hk
  rcases h with ⟨rfl, n, K, g, cap, hn, h⟩ | ⟨rfl, n, K, g, cap, m, hn, h⟩ | ⟨rfl, n, K, g, cap, m, hn, h⟩ | ⟨rfl, n, K, g, cap, m, hn, h⟩ | ⟨rfl, _⟩
  · refine (puts_nil h hx hT.1 (by omega) (by decide)).mono fun e w' ⟨he, m, hK, _⟩ => ⟨he, .inr (.inl ⟨rfl, n + 1, m :: K, g, cap, m, by omega, ?_⟩)⟩
    rw [hT.2.1] at hK
    exact hK
  · refine (puts_on P T R h hx hT.1 (fun W W0 hW => hW.step2r (h.ready hx hT.1) (by omega) (by rw [hT.2.2]; unfold fullB; rw [IntKind.wrap_u64]; exact decide_eq_false (by omega)))).mono fun e w' ⟨he, hK, _⟩ => ⟨he, .inr (.inr (.inl ⟨rfl, n + 1, _, g, cap, m, by omega, hK⟩))⟩
  · refine (puts_on P T R h hx hT.1 (fun W W0 hW => hW.step3 (h.ready hx hT.1) (by omega) ⟨by omega, by omega⟩)).mono fun e w' ⟨he, hK, _⟩ => ⟨he, .inr (.inr (.inr (.inl ⟨rfl, n + 1, _, g, cap, m, by omega, hK⟩)))⟩
  · have hl : ((csT R cs).set (slotN R 0 R) 77).length = cellsN P T R := by rw [List.length_set]; exact hT.1
    refine (puts_over P T R h hx hl (by decide) (fun W W0 hW => hW.step4 (h.ready hx hl) (by omega))).mono fun e w' ⟨he, g', cap', hK, _⟩ => ⟨he, .inr (.inr (.inr (.inr ⟨rfl, n + 1, g' :: K, g, cap, g', cap', by omega, ?_⟩)))⟩
    rw [show IntKind.u64.wrap (77 + 1) = 78 from by decide] at hK
    exact hK
  · omega
end
end Go.Proofs.Ytgcahbgapojimaa
