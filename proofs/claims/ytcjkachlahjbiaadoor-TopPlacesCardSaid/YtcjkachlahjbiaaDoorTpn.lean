/- TopPlaces: what the numbers say: the cells of a page one by one, where the cells of a plan stand. No condition but that the plan may be. -/
import Derived.Test.YtcjkachlahjbiaaDoorSizo
import Derived.Test.YtcjkachlahjbiaaDoorKlayd
namespace Go.Proofs.YtcjkachlahjbiaaDoor
open Go.RowKit
set_option linter.unusedVariables false

theorem tp_first : ∀ j : Fin 8, ∀ i : Fin 32, i.val < numF j.val → firstI ((j.val : Nat) : Int) (stOr (widF j.val) (List.range i.val)) 0 = ((i.val : Nat) : Int) * widF j.val := by decide +kernel
theorem tp_u64 : ∀ j : Fin 8, ∀ i : Fin 33, 0 ≤ stOr (widF j.val) (List.range i.val) ∧ stOr (widF j.val) (List.range i.val) < 18446744073709551616 := by decide +kernel
theorem tp_room : ∀ j : Fin 8, (freeL ((j.val : Nat) : Int) (stOr (widF j.val) (List.range (numF j.val)))).length = 0 := by decide +kernel
theorem tp_cell : ∀ j : Fin 8, ∀ p : Fin 64, p.val / (widF j.val).toNat < numF j.val → cellI ((j.val : Nat) : Int) ((p.val : Nat) : Int) = ((p.val / (widF j.val).toNat * (widF j.val).toNat : Nat) : Int) := by decide +kernel
theorem tp_next : ∀ j : Fin 8, ∀ k : Fin 32, k.val < numF j.val → bits .or .u64 (stOr (widF j.val) (List.range k.val)) (IntKind.u64.wrap (2 ^ (k.val * (widF j.val).toNat))) = stOr (widF j.val) (List.range (k.val + 1)) := by decide +kernel
/-- a class, all of whose cells are taken one by one -/
theorem tp_cls (M : Nat) (hM : M < 8) : ∃ (V C : Nat) (al : Nat → Int), widF M = (V : Int) ∧ numF M = C ∧ 2 ≤ V ∧ V ≤ 32 ∧ C ≤ 32 ∧ al 0 = 0 ∧ (∀ i, i ≤ C → U64 (al i)) ∧ (∀ i, i < C → firstI (M : Int) (al i) 0 = ((i * V : Nat) : Int)) ∧
    (∀ i, i < C → bits .or .u64 (al i) (IntKind.u64.wrap (2 ^ (i * V))) = al (i + 1)) ∧ (∀ i k, i < C → k < V → cellI (M : Int) ((i * V + k : Nat) : Int) = ((i * V : Nat) : Int)) ∧ (freeL (M : Int) (al C)).length = 0 ∧ (∀ i, i < C → i * V + V ≤ 64) ∧ C * V ≤ 64 := by
  have hw := widF_bd M hM
  obtain ⟨V, hV⟩ : ∃ V : Nat, widF M = (V : Int) := ⟨(widF M).toNat, by omega⟩
  have hn := num_le M hM
  have hin : ∀ i, i < numF M → i * V + V ≤ 64 := fun i hi => by
    have h := num_in M hM i hi
    rw [hV] at h
    have e : ((i * V : Nat) : Int) = (i : Int) * (V : Int) := by simp
    omega
  refine ⟨V, numF M, fun i => stOr (widF M) (List.range i), hV, rfl, by omega, by omega, hn, rfl, fun i hi => ?_, fun i hi => ?_, fun i hi => ?_, fun i k hi hk => ?_, tp_room ⟨M, hM⟩, hin, ?_⟩
  · exact ⟨(tp_u64 ⟨M, hM⟩ ⟨i, by omega⟩).1, (tp_u64 ⟨M, hM⟩ ⟨i, by omega⟩).2⟩
  · have h := tp_first ⟨M, hM⟩ ⟨i, by omega⟩ hi
    simp only [hV] at h ⊢
    rw [h]
    simp
  · have h := tp_next ⟨M, hM⟩ ⟨i, by omega⟩ hi
    simp only [hV, Int.toNat_natCast] at h ⊢
    exact h
  · have h1 := hin i hi
    have hd : (i * V + k) / V = i := by
      rw [Nat.mul_comm, Nat.mul_add_div (by omega), Nat.div_eq_of_lt hk]; rfl
    have h := tp_cell ⟨M, hM⟩ ⟨i * V + k, by omega⟩ (by simp only [hV, Int.toNat_natCast, hd]; exact hi)
    simp only [hV, Int.toNat_natCast, hd] at h
    exact h
  · rcases Nat.eq_zero_or_pos (numF M) with h0 | h0
    · rw [h0]; omega
    · have h := hin (numF M - 1) (by omega)
      have e : numF M * V = (numF M - 1) * V + V := by
        obtain ⟨q, hq⟩ : ∃ q, numF M = q + 1 := ⟨numF M - 1, by omega⟩
        rw [hq, Nat.add_mul]; simp
      omega
/-- which cells hold 1 -/
def put1 (U : Int → Int) (a : Int) : Int → Int := fun x => if x = a then 1 else U x
theorem put1_ne {U : Int → Int} {a x : Int} (h : x ≠ a) : put1 U a x = U x := if_neg h
structure Frees (P T R : Int) (pg : Nat) (lo : Int) (U : Int → Int) : Prop where
  hp : ∀ x, lo ≤ x → x < baseI P T R + 64 * P → U x = 0
  tb : ∀ j i : Nat, j < 3 → pg ≤ i → (i : Int) < P → U (tabI T R + (j : Int) * P + (i : Int)) = 0
  ow : ∀ x, 16 ≤ x → x < tabI T R → U x = 0
theorem tab_in {P T R : Int} (h : Right P T R) {j i : Nat} (hj : j < 3) (hi : (i : Int) < P) : tabI T R ≤ tabI T R + (j : Int) * P + (i : Int) ∧ tabI T R + (j : Int) * P + (i : Int) < baseI P T R := by
  have hb := base_bd h
  have h1 := h.1
  rcases (show j = 0 ∨ j = 1 ∨ j = 2 by omega) with rfl | rfl | rfl
  · simp; omega
  · simp; omega
  · simp; omega
theorem Frees.cell {P T R : Int} {pg : Nat} {lo : Int} {U : Int → Int} (h : Frees P T R pg lo U) (hR : Right P T R) (hlo : baseI P T R ≤ lo) : Frees P T R pg (lo + 1) (put1 U lo) := by
  have hb := base_bd hR
  have h1 := hR.1
  refine ⟨fun x h1 h2 => ?_, fun j i h1 h2 h3 => ?_, fun x h1 h2 => ?_⟩
  · rw [put1_ne (by omega)]; exact h.hp x (by omega) h2
  · rw [put1_ne (by have := tab_in hR h1 h3; omega)]; exact h.tb j i h1 h2 h3
  · rw [put1_ne (by omega)]; exact h.ow x h1 h2
theorem Frees.mono {P T R : Int} {pg : Nat} {lo lo' : Int} {U : Int → Int} (h : Frees P T R pg lo U) (hl : lo ≤ lo') : Frees P T R pg lo' U := ⟨fun x h1 h2 => h.hp x (by omega) h2, h.tb, h.ow⟩
/-- in the midst of a page's three words -/
structure Freet (P T R : Int) (pg k : Nat) (lo : Int) (U : Int → Int) : Prop where
  hp : ∀ x, lo ≤ x → x < baseI P T R + 64 * P → U x = 0
  tb : ∀ j i : Nat, j < 3 → (pg < i ∨ i = pg ∧ k ≤ j) → (i : Int) < P → U (tabI T R + (j : Int) * P + (i : Int)) = 0
  ow : ∀ x, 16 ≤ x → x < tabI T R → U x = 0
theorem Freet.of {P T R : Int} {pg : Nat} {lo : Int} {U : Int → Int} (h : Frees P T R pg lo U) : Freet P T R pg 0 lo U := ⟨h.hp, fun j i h1 h2 h3 => h.tb j i h1 (by omega) h3, h.ow⟩
theorem Freet.to {P T R : Int} {pg : Nat} {lo : Int} {U : Int → Int} (h : Freet P T R pg 3 lo U) : Frees P T R (pg + 1) lo U := ⟨h.hp, fun j i h1 h2 h3 => h.tb j i h1 (by omega) h3, h.ow⟩
theorem Freet.next {P T R : Int} {pg k : Nat} {lo : Int} {U : Int → Int} (h : Freet P T R pg k lo U) (hR : Right P T R) (hlo : baseI P T R ≤ lo) (hk : k < 3) (hpg : (pg : Int) < P) :
    U (tabI T R + (k : Int) * P + (pg : Int)) = 0 ∧ Freet P T R pg (k + 1) lo (put1 U (tabI T R + (k : Int) * P + (pg : Int))) := by
  have hi := tab_in hR hk hpg
  have hb := base_bd hR
  have h1 := hR.1
  refine ⟨h.tb k pg hk (by omega) hpg, fun x h1 h2 => ?_, fun j i h1 h2 h3 => ?_, fun x h1 h2 => ?_⟩
  · rw [put1_ne (by omega)]; exact h.hp x h1 h2
  · have hne : tabI T R + (j : Int) * P + (i : Int) ≠ tabI T R + (k : Int) * P + (pg : Int) := by
      rcases (show j = 0 ∨ j = 1 ∨ j = 2 by omega) with rfl | rfl | rfl <;> rcases (show k = 0 ∨ k = 1 ∨ k = 2 by omega) with rfl | rfl | rfl <;> simp <;> omega
    rw [put1_ne hne]
    exact h.tb j i h1 (by omega) h3
  · rw [put1_ne (by omega)]; exact h.ow x h1 h2
theorem addr_at {P T R : Int} (hR : Right P T R) {pg a : Int} (h0 : 0 ≤ pg) (h1 : pg < P) (ha : 0 ≤ a) (hb : a < 64) : addrI P T R pg a = baseI P T R + 64 * pg + a := by
  unfold addrI
  rw [of_right hR]
  simp [inL, show pg ≤ P - 1 by omega, show a ≤ 63 by omega, h0, ha]
theorem heap_in {P T R x : Int} (hR : Right P T R) (h0 : baseI P T R ≤ x) (h1 : x < baseI P T R + 64 * P) : heapB P T R x = true := by
  unfold heapB
  rw [of_right hR]
  simp [inL]; omega
theorem heap_out {P T R x : Int} (h0 : x < baseI P T R) : heapB P T R x = false := by
  unfold heapB
  simp [inL]; omega
theorem place_at {P T R : Int} (hR : Right P T R) {pg a : Int} (h0 : 0 ≤ pg) (h1 : pg < P) (ha : 0 ≤ a) (hb : a < 64) : placeI P T R (baseI P T R + 64 * pg + a) = (pg, a) := by
  unfold placeI
  rw [heap_in hR (by omega) (by omega)]
  simp; omega
theorem row_at' {P T R : Int} (hR : Right P T R) {pg k : Int} (h0 : 0 ≤ pg) (h1 : pg < P) : rowI P T R k pg = tabI T R + k * P + pg := by
  unfold rowI
  rw [of_right hR]
  simp [inL, show pg ≤ P - 1 by omega, h0]
theorem own_at' {P T R : Int} (hR : Right P T R) {t n : Int} (h0 : 0 ≤ t) (h1 : t < T) : ownI P T R t n = 16 + t * (5 + R) + n := by
  unfold ownI
  rw [of_right hR]
  simp [inL, show t ≤ T - 1 by omega, h0]
theorem slot_at {P T R : Int} (hR : Right P T R) {t n : Int} (h0 : 0 ≤ t) (h1 : t < T) (hn : 0 ≤ n) (h2 : n < R) : slotI P T R t n = 16 + t * (5 + R) + (5 + n) := by
  unfold slotI
  rw [own_at' hR h0 h1, Int.emod_eq_of_lt hn h2]
theorem ths_in {P T R : Int} (hR : Right P T R) {t : Int} (h0 : 0 ≤ t) (h1 : t < T) : 0 ≤ t * (5 + R) ∧ t * (5 + R) + (5 + R) ≤ T * (5 + R) ∧ t * (5 + R) + (5 + R) = (t + 1) * (5 + R) ∧ tabI T R = 16 + T * (5 + R) := by
  have h2 := hR.2.2
  refine ⟨Int.mul_nonneg h0 (by omega), ?_, by rw [Int.add_mul]; omega, rfl⟩
  have h3 : (t + 1) * (5 + R) ≤ T * (5 + R) := Int.mul_le_mul_of_nonneg_right (by omega) (by omega)
  rw [Int.add_mul] at h3
  omega
/-- what of the threads' cells is free -/
def Thz (T R lo : Int) (U : Int → Int) : Prop := ∀ x, lo ≤ x → x < tabI T R → U x = 0
theorem Thz.next {T R : Int} {a k st : Nat} {U : Int → Int} (h : Thz T R ((st : Int) + (k : Int)) U) (ha : (a : Int) = (st : Int) + (k : Int)) (hi : (a : Int) < tabI T R) : U (a : Int) = 0 ∧ Thz T R ((st : Int) + ((k + 1 : Nat) : Int)) (put1 U (a : Int)) :=
  ⟨h _ (by omega) hi, fun x h1 h2 => by rw [put1_ne (by omega)]; exact h x (by omega) h2⟩
theorem tab_ex {P T R : Int} (hR : Right P T R) {N pg k : Nat} (hN : (N : Int) = baseI P T R + 64 * P) (hpg : (pg : Int) < P) (hk : k < 3) : ∃ a : Nat, tabI T R + (k : Int) * P + (pg : Int) = (a : Int) ∧ a < N ∧ refB P T R (a : Int) = false := by
  have hb := base_bd hR
  have h1 := hR.1
  have hi := tab_in hR hk hpg
  have ht := tab_bd hR
  refine ⟨(tabI T R + (k : Int) * P + (pg : Int)).toNat, by omega, by omega, ?_⟩
  unfold refB
  rw [heap_out (by omega)]
  simp
theorem st_ex {P T R : Int} (hR : Right P T R) {N t : Nat} (hN : (N : Int) = baseI P T R + 64 * P) (ht : (t : Int) < T) : ∃ st : Nat, 16 + (t : Int) * (5 + R) = (st : Int) ∧ 16 ≤ st ∧ (st : Int) + (5 + R) ≤ tabI T R ∧ 16 + ((t + 1 : Nat) : Int) * (5 + R) = (st : Int) + (5 + R) ∧ tabI T R < (N : Int) := by
  obtain ⟨q1, q2, q3, q4⟩ := ths_in hR (t := (t : Int)) (by omega) ht
  have hb := base_bd hR
  have h1 := hR.1
  refine ⟨(16 + (t : Int) * (5 + R)).toNat, by omega, by omega, by omega, ?_, by omega⟩
  rw [Int.natCast_add, show ((1 : Nat) : Int) = 1 from rfl, ← q3]
  omega
theorem wrap_u (a : Nat) (h : a < 4096) : IntKind.u64.wrap (a : Int) = (a : Int) := by rw [IntKind.wrap_u64]; omega
theorem wrap_sum (z k : Nat) (h : z + k < 4096) : wrap64 ((z : Int) + (k : Int)) = ((z + k : Nat) : Int) := by
  rw [IntWalk.wrap64_in _ ⟨by omega, by omega⟩]; simp
theorem spot_ex {P T R : Int} (hR : Right P T R) {N pg y : Nat} (hN : (N : Int) = baseI P T R + 64 * P) (hN4 : N ≤ 4096) (hpg : (pg : Int) < P) (hy : y < 64) : ∃ a : Nat, baseI P T R + 64 * (pg : Int) + (y : Int) = (a : Int) ∧ a < N ∧ addrI P T R pg y = (a : Int) ∧ placeI P T R (a : Int) = ((pg : Int), (y : Int)) ∧ refB P T R (a : Int) = true := by
  have hb := base_bd hR
  have e0 : (0 : Int) ≤ (pg : Int) := by omega
  have e1 : (0 : Int) ≤ (y : Int) := by omega
  have e2 : (y : Int) < 64 := by omega
  have e3 : baseI P T R + 64 * (pg : Int) + (y : Int) = ((baseI P T R + 64 * (pg : Int) + (y : Int)).toNat : Int) := by omega
  refine ⟨(baseI P T R + 64 * (pg : Int) + (y : Int)).toNat, e3, by omega, ?_, ?_, ?_⟩
  · rw [addr_at hR e0 hpg e1 e2, ← e3]
  · rw [← e3, place_at hR e0 hpg e1 e2]
  · rw [← e3]
    unfold refB
    rw [heap_in hR (by omega) (by omega)]
    simp; omega
theorem Frees.spot {P T R : Int} {pg a z k N : Nat} {U : Int → Int} (h : Frees P T R pg (baseI P T R + 64 * (pg : Int) + (z : Int) + (k : Int)) U) (hR : Right P T R) (hN : (N : Int) = baseI P T R + 64 * P) (ha : baseI P T R + 64 * (pg : Int) + ((z + k : Nat) : Int) = (a : Int)) (haN : a < N) :
    U (a : Int) = 0 ∧ Frees P T R pg (baseI P T R + 64 * (pg : Int) + (z : Int) + ((k + 1 : Nat) : Int)) (put1 U (a : Int)) := by
  have hb := base_bd hR
  have e : baseI P T R + 64 * (pg : Int) + (z : Int) + (k : Int) = (a : Int) := by omega
  rw [e] at h
  refine ⟨h.hp _ (by omega) (by omega), ?_⟩
  exact (h.cell hR (by omega)).mono (by omega)
end Go.Proofs.YtcjkachlahjbiaaDoor
