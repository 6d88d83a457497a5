/- Numbers and words for the law RingOrder: what the cells hold behind so many that were put and taken; the machines' states. No condition. -/
import Derived.Test.YtgcahbgapojimaaRfula
namespace Go.Proofs.Ytgcahbgapojimaa
open Go.RowKit
/-- 1, 2, .. k -/
def seqL (k : Nat) : List Int := (List.range k).map (fun (i : Nat) => (i : Int) + 1)
theorem seqL_succ (k : Nat) : seqL (k + 1) = seqL k ++ [(k : Int) + 1] := by simp [seqL, List.range_succ]
theorem seqL_len (k : Nat) : (seqL k).length = k := by simp [seqL]
theorem seqL_get (k i : Nat) (h : i < k) : (seqL k).getD i 0 = (i : Int) + 1 := by
  unfold seqL
  rw [List.getD_eq_getElem?_getD, List.getElem?_map, List.getElem?_range h]; rfl
theorem slot_ne {R f : Int} {i j : Nat} (hR : 0 < R) (h1 : (i : Int) < j) (h2 : (j : Int) - i < R) : slotN R 0 (f + i) ≠ slotN R 0 (f + j) := by
  rw [slot0, slot0]
  have a1 := Int.emod_nonneg (f + i) (show R ≠ 0 by omega)
  have a2 := Int.emod_nonneg (f + j) (show R ≠ 0 by omega)
  intro e
  have e1 : (f + j) % R = (f + i) % R := by omega
  have e2 := Int.emod_eq_emod_iff_emod_sub_eq_zero.1 e1
  rw [show f + (j : Int) - (f + i) = (j : Int) - i by omega, Int.emod_eq_of_lt (by omega) h2] at e2
  omega
/-- the cells behind np words that were put and nt that were taken, from the count f on -/
structure RoC (P T R f : Int) (np nt : Nat) (cs : List Int) : Prop where
  len : cs.length = cellsN P T R
  tail : cs.getD (ownN R 0 4) 0 = f + np
  head : cs.getD (ownN R 0 3) 0 = f + nt
  le : nt ≤ np
  room : (np : Int) - nt ≤ R
  slot : ∀ j : Nat, nt ≤ j → j < np → cs.getD (slotN R 0 (f + j)) 0 = (j : Int) + 1
theorem slot_far {P T R : Int} (hx : exB P T R 0 = true) (n : Int) : slotN R 0 n ≠ ownN R 0 3 ∧ slotN R 0 n ≠ ownN R 0 4 := by
  obtain ⟨r1, r2⟩ := ring_bd hx
  have a1 := Int.emod_nonneg n (show R ≠ 0 by omega)
  rw [slot0, own0, own0]
  omega
theorem RoC.store {P T R f : Int} {np nt : Nat} {cs : List Int} (h : RoC P T R f np nt cs) (hx : exB P T R 0 = true) (hr : (np : Int) - nt < R) :
    RoC P T R f np nt (cs.set (slotN R 0 (f + np)) ((np : Int) + 1)) ∧ (cs.set (slotN R 0 (f + np)) ((np : Int) + 1)).getD (slotN R 0 (f + np)) 0 = (np : Int) + 1 := by
  obtain ⟨r1, r2⟩ := ring_bd hx
  have hf := slot_far hx (f + np)
  have hs := slotN_bd hx (f + np)
  refine ⟨⟨by rw [List.length_set]; exact h.len, ?_, ?_, h.le, h.room, fun j h1 h2 => ?_⟩, ?_⟩
  · rw [getD_set, if_neg (fun e => hf.2 e.1)]; exact h.tail
  · rw [getD_set, if_neg (fun e => hf.1 e.1)]; exact h.head
  · rw [getD_set, if_neg (fun e => slot_ne (by omega) (by omega) (by omega) e.1.symm)]; exact h.slot j h1 h2
  · rw [getD_set, if_pos ⟨rfl, by rw [h.len]; exact hs.2.1⟩]
theorem RoC.put {P T R f : Int} {np nt : Nat} {cs : List Int} (h : RoC P T R f np nt cs) (hx : exB P T R 0 = true) (hr : (np : Int) - nt < R) (hs : cs.getD (slotN R 0 (f + np)) 0 = (np : Int) + 1) (hf0 : 0 ≤ f) (hf1 : f + np < 18446744073709551615) :
    RoC P T R f (np + 1) nt (cs.set (ownN R 0 4) (IntKind.u64.wrap (f + np + 1))) := by
  obtain ⟨r1, r2⟩ := ring_bd hx
  have h4 := ownN_bd hx 4 (by decide) (by omega)
  have e3 : ownN R 0 3 = 19 := by rw [own0]; rfl
  have e4 : ownN R 0 4 = 20 := by rw [own0]; rfl
  have hw : IntKind.u64.wrap (f + np + 1) = f + ((np + 1 : Nat) : Int) := by rw [IntKind.wrap_u64]; omega
  have hle := h.le
  refine ⟨by rw [List.length_set]; exact h.len, ?_, ?_, by omega, by omega, fun j h1 h2 => ?_⟩
  · rw [getD_set, if_pos ⟨rfl, by rw [h.len]; exact h4.2.1⟩, hw]
  · rw [getD_set, if_neg (by omega)]; exact h.head
  · rw [getD_set, if_neg (fun e => (slot_far hx (f + j)).2 e.1.symm)]
    by_cases e : j = np
    · subst e; exact hs
    · exact h.slot j h1 (by omega)
theorem RoC.take {P T R f : Int} {np nt : Nat} {cs : List Int} (h : RoC P T R f np nt cs) (hx : exB P T R 0 = true) (hr : nt < np) (hf0 : 0 ≤ f) (hf1 : f + nt < 18446744073709551615) :
    RoC P T R f np (nt + 1) (cs.set (ownN R 0 3) (IntKind.u64.wrap (f + nt + 1))) := by
  obtain ⟨r1, r2⟩ := ring_bd hx
  have h3 := ownN_bd hx 3 (by decide) (by omega)
  have e3 : ownN R 0 3 = 19 := by rw [own0]; rfl
  have e4 : ownN R 0 4 = 20 := by rw [own0]; rfl
  have hw : IntKind.u64.wrap (f + nt + 1) = f + ((nt + 1 : Nat) : Int) := by rw [IntKind.wrap_u64]; omega
  have hro := h.room
  refine ⟨by rw [List.length_set]; exact h.len, ?_, ?_, by omega, by omega, fun j h1 h2 => ?_⟩
  · rw [getD_set, if_neg (by omega)]; exact h.tail
  · rw [getD_set, if_pos ⟨rfl, by rw [h.len]; exact h3.2.1⟩, hw]
  · rw [getD_set, if_neg (fun e => (slot_far hx (f + j)).1 e.1.symm)]; exact h.slot j (by omega) h2
/-- the machine that pushes, by its state pn (0: there is none) -/
def PuSt (w : World) (P T R f : Int) (np nt : Nat) (K : List Nat) (pn : Int) (ptr : Option Addr) (cs : List Int) : Prop :=
  (pn = 0 ∧ ptr = none) ∨ ∃ m, ptr = some ⟨m, 0, none⟩ ∧ m ∈ K ∧ PushAt w m P T R 0 ((np : Int) + 1) (f + np) pn false ∧ (pn = 2 ∨ (pn = 3 ∧ (np : Int) - nt < R) ∨ (pn = 4 ∧ (np : Int) - nt < R ∧ cs.getD (slotN R 0 (f + np)) 0 = (np : Int) + 1))
/-- the machine that pops, by its state kn -/
def PoSt (w : World) (P T R f : Int) (np nt : Nat) (K : List Nat) (kn : Int) (ptr : Option Addr) : Prop :=
  (kn = 0 ∧ ptr = none) ∨ ∃ m v, ptr = some ⟨m, 0, none⟩ ∧ m ∈ K ∧ PopAt w m P T R 0 v (f + nt) kn false ∧ ((kn = 1 ∧ v = 0) ∨ (kn = 5 ∧ v = 0 ∧ nt < np) ∨ (kn = 6 ∧ v = (nt : Int) + 1 ∧ nt < np))
/-- the queue behind np words put and nt taken -/
def RoQ (w0 : World) (B a c p cp x : Nat) (P T R f : Int) (np nt : Nat) (pn kn : Int) (N : Nat) (w : World) : Prop :=
  ∃ pup pop vp vt cs n K, n ≤ N ∧ QS w0 B a c p cp x pup pop ((np : Int) + 1) vp vt (seqL np) (seqL nt) cs n K 0 15 w ∧ RoC P T R f np nt cs ∧ PuSt w P T R f np nt K pn pup cs ∧ PoSt w P T R f np nt K kn pop
end Go.Proofs.Ytgcahbgapojimaa
