/- Texts of this seat, one behind the other: each says at its head what it holds. No condition of its own. -/
import Derived.Test.YtlhigibgjggidaaGShadeKept17
/- Numbers for the law ShadeKept: machines that shade, rings with what waits in them, marks; what each access does to them. No condition. -/
namespace Go.Proofs.Ytlhigibgjggidaa
open Go.RowKit
set_option linter.unusedVariables false
/-- a machine's words by its state: 0 begun, 1 to 4 it pushes, 5 over and put, 6 over and not fresh, 7 it found the ring full, 8 over and lost; 9: there is none -/
def kNx (s : Nat) : Int := if s = 0 then 1 else if s ≤ 4 then 2 else if s = 7 then 3 else 0
def kMn (s : Nat) : Int := if s = 0 then 1 else 0
def kMf (s : Nat) : Bool := decide ((1 ≤ s ∧ s ≤ 5) ∨ s = 7 ∨ s = 8)
def kLo (s : Nat) : Bool := decide (s = 8)
def kFu (s : Nat) : Bool := decide (s = 7 ∨ s = 8)
def kPn (s : Nat) : Int := if s = 0 ∨ s = 6 then 1 else if s ≤ 4 then (s : Int) else 0
def kHe (s : Nat) : Prop := (1 ≤ s ∧ s ≤ 4) ∨ s = 7
def updI (f : Nat → Int) (k : Nat) (x : Int) : Nat → Int := fun j => if j = k then x else f j
theorem updI_eq (f : Nat → Int) (k : Nat) (x : Int) : updI f k x k = x := if_pos rfl
theorem updI_ne {f : Nat → Int} {k j : Nat} {x : Int} (h : j ≠ k) : updI f k x j = f j := if_neg h
def updW (W : Nat → Nat → Int) (t i : Nat) (x : Int) : Nat → Nat → Int := fun t' j => if t' = t ∧ j = i then x else W t' j
theorem updW_eq (W : Nat → Nat → Int) (t i : Nat) (x : Int) : updW W t i x t i = x := if_pos ⟨rfl, rfl⟩
theorem updW_ne {W : Nat → Nat → Int} {t i t' j : Nat} {x : Int} (h : ¬ (t' = t ∧ j = i)) : updW W t i x t' j = W t' j := if_neg h
def addS (S : Int → Bool) (x : Int) : Int → Bool := fun y => S y || decide (y = x)
theorem addS_true {S : Int → Bool} {x y : Int} : addS S x y = true ↔ S y = true ∨ y = x := by simp [addS]
theorem addS_self {S : Int → Bool} {x : Int} (h : S x = true) : addS S x = S := by
  funext y
  unfold addS
  by_cases e : y = x
  · subst e; simp [h]
  · simp [e]
/-- the cell of a page's mark -/
def mkN (P T R pg : Int) : Nat := (tabI T R + 2 * P + pg).toNat
theorem tab_ge {P T R : Int} (h : Right P T R) : 16 ≤ tabI T R := by
  unfold tabI
  have := h.2.1; have := h.2.2
  have := Int.mul_nonneg (show 0 ≤ T by omega) (show 0 ≤ 5 + R by omega)
  omega
/-- a cell of a thread's ring -/
theorem slot_own {R t : Int} (hR : 1 ≤ R) (n : Int) : ∃ k, slotN R t n = ownN R t k ∧ 5 ≤ k ∧ k < 5 + R := by
  have a0 := Int.emod_nonneg n (show R ≠ 0 by omega)
  have a1 := Int.emod_lt_of_pos n (show 0 < R by omega)
  exact ⟨5 + n % R, rfl, by omega, by omega⟩
theorem slot_ne' {R t n m : Int} (hR : 1 ≤ R) (h0 : 0 ≤ t) (h1 : n < m) (h2 : m - n < R) : slotN R t n ≠ slotN R t m := by
  have a1 := Int.emod_nonneg n (show R ≠ 0 by omega)
  have a2 := Int.emod_nonneg m (show R ≠ 0 by omega)
  unfold slotN
  refine own_same h0 hR (by omega) (by omega) ?_
  intro e
  have e1 : m % R = n % R := by omega
  have e2 := Int.emod_eq_emod_iff_emod_sub_eq_zero.1 e1
  rw [Int.emod_eq_of_lt (by omega) h2] at e2
  omega
/-- what the cells hold -/
structure CsK (P T R : Int) (h q st : Nat → Nat) (rf : Nat → Int) (W : Nat → Nat → Int) (Sn : Int → Bool) (ov : Bool) (cs : List Int) : Prop where
  len : cs.length = cellsN P T R
  ov4 : cs.getD 4 0 = if ov then 1 else 0
  hd : ∀ t : Nat, (t : Int) < T → cs.getD (ownN R t 3) 0 = (h t : Int)
  tl : ∀ t : Nat, (t : Int) < T → cs.getD (ownN R t 4) 0 = (q t : Int)
  hq : ∀ t : Nat, (t : Int) < T → h t ≤ q t ∧ (q t : Int) ≤ h t + R
  slot : ∀ t : Nat, (t : Int) < T → ∀ j : Nat, h t ≤ j → j < q t → cs.getD (slotN R t (j : Int)) 0 = W t j
  put : ∀ t : Nat, (t : Int) < T → st t = 4 → cs.getD (slotN R t (q t : Int)) 0 = rf t
  room : ∀ t : Nat, (t : Int) < T → st t = 3 ∨ st t = 4 → (q t : Int) < h t + R
  ma : ∀ pg : Nat, (pg : Int) < P → ∃ X : Nat, X < 2 ^ 64 ∧ cs.getD (mkN P T R pg) 0 = (X : Int) ∧ ∀ k, k < 64 → X.testBit k = Sn (baseI P T R + 64 * (pg : Int) + (k : Int))
section
variable {P T R : Int} {h q st : Nat → Nat} {rf : Nat → Int} {W : Nat → Nat → Int} {Sn : Int → Bool} {ov : Bool} {cs : List Int}
theorem own_lt' {t : Nat} {k : Int} (hR : Right P T R) (ht : (t : Int) < T) (h0 : 0 ≤ k) (h1 : k < 5 + R) : 16 ≤ ownN R t k ∧ ((ownN R t k : Nat) : Int) < tabI T R ∧ ownN R t k < cellsN P T R := by
  have := ownN_bd (exB_mk hR (Int.natCast_nonneg t) ht) k h0 h1
  exact ⟨this.2.2, own_tab hR.2.2.1 (Int.natCast_nonneg t) ht h0 h1, this.2.1⟩
/-- only the state changes -/
theorem CsK.same (c : CsK P T R h q st rf W Sn ov cs) {t s : Nat} (h3 : s ≠ 3) (h4 : s ≠ 4) : CsK P T R h q (updS st t s) rf W Sn ov cs := by
  refine ⟨c.len, c.ov4, c.hd, c.tl, c.hq, c.slot, fun u hu e => ?_, fun u hu e => ?_, c.ma⟩
  · by_cases e2 : u = t
    · subst e2; rw [updS_eq] at e; omega
    · rw [updS_ne e2] at e; exact c.put u hu e
  · by_cases e2 : u = t
    · subst e2; rw [updS_eq] at e; omega
    · rw [updS_ne e2] at e; exact c.room u hu e
theorem CsK.to3 (c : CsK P T R h q st rf W Sn ov cs) {t : Nat} (hr : (q t : Int) < h t + R) : CsK P T R h q (updS st t 3) rf W Sn ov cs := by
  refine ⟨c.len, c.ov4, c.hd, c.tl, c.hq, c.slot, fun u hu e => ?_, fun u hu e => ?_, c.ma⟩
  · by_cases e2 : u = t
    · subst e2; rw [updS_eq] at e; omega
    · rw [updS_ne e2] at e; exact c.put u hu e
  · by_cases e2 : u = t
    · subst e2; exact hr
    · rw [updS_ne e2] at e; exact c.room u hu e
/-- another reference for a machine that is begun -/
theorem CsK.new (c : CsK P T R h q st rf W Sn ov cs) (t : Nat) (x : Int) : CsK P T R h q (updS st t 0) (updI rf t x) W Sn ov cs := by
  have c' := c.same (t := t) (s := 0) (by decide) (by decide)
  refine ⟨c'.len, c'.ov4, c'.hd, c'.tl, c'.hq, c'.slot, fun u hu e => ?_, c'.room, c'.ma⟩
  by_cases e2 : u = t
  · subst e2; rw [updS_eq] at e; omega
  · rw [updI_ne e2]; exact c'.put u hu e
/-- a cell of a ring, or of those below, is set: what does not hang on it -/
theorem CsK.low (c : CsK P T R h q st rf W Sn ov cs) (hR : Right P T R) {i : Nat} (x : Int) (hi : (i : Int) < tabI T R) : ∀ pg : Nat, (pg : Int) < P → ∃ X : Nat, X < 2 ^ 64 ∧ (cs.set i x).getD (mkN P T R pg) 0 = (X : Int) ∧ ∀ k, k < 64 → X.testBit k = Sn (baseI P T R + 64 * (pg : Int) + (k : Int)) := by
  intro pg hp
  obtain ⟨X, h1, h2, h3⟩ := c.ma pg hp
  have hm : i ≠ mkN P T R pg := by
    unfold mkN
    have := hR.1
    have := tab_ge hR
    omega
  exact ⟨X, h1, by rw [getD_set, if_neg (fun e => hm e.1)]; exact h2, h3⟩
theorem CsK.to4 (c : CsK P T R h q st rf W Sn ov cs) (hR : Right P T R) {t : Nat} (ht : (t : Int) < T) (h3 : st t = 3) : CsK P T R h q (updS st t 4) rf W Sn ov (cs.set (slotN R t (q t : Int)) (rf t)) := by
  have r1 := hR.2.2.1
  obtain ⟨k0, e0, k1, k2⟩ := slot_own (t := (t : Int)) r1 (q t : Int)
  have b0 := own_lt' (P := P) hR ht (show 0 ≤ k0 by omega) k2
  have hrm := c.room t ht (.inl h3)
  have far3 : ∀ (u : Nat) (k : Int), 0 ≤ k → k < 5 → (u : Int) < T → slotN R t (q t : Int) ≠ ownN R u k := by
    intro u k k3 k4 hu
    rw [e0]
    by_cases e : u = t
    · subst e; exact own_same (by omega) r1 (by omega) k3 (by omega)
    · exact own_far r1 (by omega) (by omega) (by omega) k2 k3 (by omega) (by omega)
  have farS : ∀ (u : Nat) (n : Int), u ≠ t → (u : Int) < T → slotN R t (q t : Int) ≠ slotN R u n := by
    intro u n hne hu
    obtain ⟨k3, e3, k4, k5⟩ := slot_own (t := (u : Int)) r1 n
    rw [e0, e3]
    exact own_far r1 (by omega) (by omega) (by omega) k2 (by omega) k5 (by omega)
  refine ⟨by rw [List.length_set]; exact c.len, ?_, fun u hu => ?_, fun u hu => ?_, c.hq, fun u hu j j1 j2 => ?_, fun u hu e => ?_, fun u hu e => ?_, c.low hR _ (by rw [e0]; exact b0.2.1)⟩
  · rw [getD_set, if_neg (by omega)]; exact c.ov4
  · rw [getD_set, if_neg (fun e => far3 u 3 (by decide) (by decide) hu e.1)]; exact c.hd u hu
  · rw [getD_set, if_neg (fun e => far3 u 4 (by decide) (by decide) hu e.1)]; exact c.tl u hu
  · have : slotN R t (q t : Int) ≠ slotN R u (j : Int) := by
      by_cases e : u = t
      · subst e; exact (slot_ne' r1 (by omega) (by omega) (by omega)).symm
      · exact farS u _ e hu
    rw [getD_set, if_neg (fun e => this e.1)]; exact c.slot u hu j j1 j2
  · by_cases e2 : u = t
    · subst e2; rw [getD_set, if_pos ⟨rfl, by rw [c.len, e0]; exact b0.2.2⟩]
    · rw [updS_ne e2] at e
      rw [getD_set, if_neg (fun e3 => farS u _ e2 hu e3.1)]; exact c.put u hu e
  · by_cases e2 : u = t
    · subst e2; exact hrm
    · rw [updS_ne e2] at e; exact c.room u hu e
theorem CsK.to5 (c : CsK P T R h q st rf W Sn ov cs) (hR : Right P T R) {t : Nat} (ht : (t : Int) < T) (h4 : st t = 4) : CsK P T R h (updS q t (q t + 1)) (updS st t 5) rf (updW W t (q t) (rf t)) Sn ov (cs.set (ownN R t 4) ((q t + 1 : Nat) : Int)) := by
  have r1 := hR.2.2.1
  have b0 := own_lt' (P := P) hR ht (show (0 : Int) ≤ 4 by decide) (by omega)
  have hrm := c.room t ht (.inr h4)
  have hpt := c.put t ht h4
  have hqt := c.hq t ht
  have farS : ∀ (u : Nat) (n : Int), (u : Int) < T → ownN R t 4 ≠ slotN R u n := by
    intro u n hu
    obtain ⟨k3, e3, k4, k5⟩ := slot_own (t := (u : Int)) r1 n
    rw [e3]
    by_cases e : u = t
    · subst e; exact own_same (by omega) r1 (by decide) (by omega) (by omega)
    · exact own_far r1 (by omega) (by omega) (by decide) (by omega) (by omega) k5 (by omega)
  have far3 : ∀ (u : Nat), (u : Int) < T → ownN R t 4 ≠ ownN R u 3 := by
    intro u hu
    by_cases e : u = t
    · subst e; exact own_same (by omega) r1 (by decide) (by decide) (by decide)
    · exact own_far r1 (by omega) (by omega) (by decide) (by omega) (by decide) (by omega) (by omega)
  refine ⟨by rw [List.length_set]; exact c.len, ?_, fun u hu => ?_, fun u hu => ?_, fun u hu => ?_, fun u hu j j1 j2 => ?_, fun u hu e => ?_, fun u hu e => ?_, c.low hR _ b0.2.1⟩
  · rw [getD_set, if_neg (by omega)]; exact c.ov4
  · rw [getD_set, if_neg (fun e => far3 u hu e.1)]; exact c.hd u hu
  · by_cases e : u = t
    · subst e; rw [getD_set, if_pos ⟨rfl, by rw [c.len]; exact b0.2.2⟩, updS_eq]
    · have : ownN R t 4 ≠ ownN R u 4 := own_far r1 (by omega) (by omega) (by decide) (by omega) (by decide) (by omega) (by omega)
      rw [getD_set, if_neg (fun e => this e.1), updS_ne e]; exact c.tl u hu
  · by_cases e : u = t
    · subst e; rw [updS_eq]; omega
    · rw [updS_ne e]; exact c.hq u hu
  · rw [getD_set, if_neg (fun e => farS u _ hu e.1)]
    by_cases e : u = t
    · subst e
      rw [updS_eq] at j2
      by_cases e2 : j = q u
      · subst e2; rw [updW_eq]; exact hpt
      · rw [updW_ne (fun r => e2 r.2)]; exact c.slot u hu j j1 (by omega)
    · rw [updS_ne e] at j2
      rw [updW_ne (fun r => e r.1)]; exact c.slot u hu j j1 j2
  · by_cases e2 : u = t
    · subst e2; rw [updS_eq] at e; omega
    · rw [updS_ne e2] at e
      rw [updS_ne e2, getD_set, if_neg (fun e3 => farS u _ hu e3.1)]; exact c.put u hu e
  · by_cases e2 : u = t
    · subst e2; rw [updS_eq] at e; omega
    · rw [updS_ne e2] at e; rw [updS_ne e2]; exact c.room u hu e
theorem CsK.to8 (c : CsK P T R h q st rf W Sn ov cs) (hR : Right P T R) {t : Nat} : CsK P T R h q (updS st t 8) rf W Sn true (cs.set 4 1) := by
  have c' := c.same (t := t) (s := 8) (by decide) (by decide)
  have r1 := hR.2.2.1
  have hl := (cellsN_bd hR).1
  have hb := base_bd hR
  have hp := hR.1
  have far : ∀ (u : Nat) (k : Int), 0 ≤ k → k < 5 + R → (u : Int) < T → 4 ≠ ownN R u k := fun u k k0 k1 hu => by
    have := own_lt' (P := P) hR hu k0 k1; omega
  have farS : ∀ (u : Nat) (n : Int), (u : Int) < T → 4 ≠ slotN R u n := by
    intro u n hu
    obtain ⟨k3, e3, k4, k5⟩ := slot_own (t := (u : Int)) r1 n
    rw [e3]; exact far u k3 (by omega) k5 hu
  refine ⟨by rw [List.length_set]; exact c.len, ?_, fun u hu => ?_, fun u hu => ?_, c'.hq, fun u hu j j1 j2 => ?_, fun u hu e => ?_, c'.room, c'.low hR _ (by have := tab_ge hR; omega)⟩
  · rw [getD_set, if_pos ⟨rfl, by rw [c.len]; omega⟩]; rfl
  · rw [getD_set, if_neg (fun e => far u 3 (by decide) (by omega) hu e.1)]; exact c.hd u hu
  · rw [getD_set, if_neg (fun e => far u 4 (by decide) (by omega) hu e.1)]; exact c.tl u hu
  · rw [getD_set, if_neg (fun e => farS u _ hu e.1)]; exact c.slot u hu j j1 j2
  · rw [getD_set, if_neg (fun e3 => farS u _ hu e3.1)]; exact c'.put u hu e
/-- a word is taken out of a ring -/
theorem CsK.pop (c : CsK P T R h q st rf W Sn ov cs) (hR : Right P T R) {t : Nat} (ht : (t : Int) < T) (hl : h t < q t) : CsK P T R (updS h t (h t + 1)) q st rf W Sn ov (cs.set (ownN R t 3) ((h t + 1 : Nat) : Int)) := by
  have r1 := hR.2.2.1
  have b0 := own_lt' (P := P) hR ht (show (0 : Int) ≤ 3 by decide) (by omega)
  have hqt := c.hq t ht
  have farS : ∀ (u : Nat) (n : Int), (u : Int) < T → ownN R t 3 ≠ slotN R u n := by
    intro u n hu
    obtain ⟨k3, e3, k4, k5⟩ := slot_own (t := (u : Int)) r1 n
    rw [e3]
    by_cases e : u = t
    · subst e; exact own_same (by omega) r1 (by decide) (by omega) (by omega)
    · exact own_far r1 (by omega) (by omega) (by decide) (by omega) (by omega) k5 (by omega)
  have far4 : ∀ (u : Nat), (u : Int) < T → ownN R t 3 ≠ ownN R u 4 := by
    intro u hu
    by_cases e : u = t
    · subst e; exact own_same (by omega) r1 (by decide) (by decide) (by decide)
    · exact own_far r1 (by omega) (by omega) (by decide) (by omega) (by decide) (by omega) (by omega)
  refine ⟨by rw [List.length_set]; exact c.len, ?_, fun u hu => ?_, fun u hu => ?_, fun u hu => ?_, fun u hu j j1 j2 => ?_, fun u hu e => ?_, fun u hu e => ?_, c.low hR _ b0.2.1⟩
  · rw [getD_set, if_neg (by omega)]; exact c.ov4
  · by_cases e : u = t
    · subst e; rw [getD_set, if_pos ⟨rfl, by rw [c.len]; exact b0.2.2⟩, updS_eq]
    · have : ownN R t 3 ≠ ownN R u 3 := own_far r1 (by omega) (by omega) (by decide) (by omega) (by decide) (by omega) (by omega)
      rw [getD_set, if_neg (fun e => this e.1), updS_ne e]; exact c.hd u hu
  · rw [getD_set, if_neg (fun e => far4 u hu e.1)]; exact c.tl u hu
  · by_cases e : u = t
    · subst e; rw [updS_eq]; omega
    · rw [updS_ne e]; exact c.hq u hu
  · rw [getD_set, if_neg (fun e => farS u _ hu e.1)]
    refine c.slot u hu j ?_ j2
    by_cases e : u = t
    · subst e; rw [updS_eq] at j1; omega
    · rw [updS_ne e] at j1; exact j1
  · rw [getD_set, if_neg (fun e3 => farS u _ hu e3.1)]; exact c.put u hu e
  · have := c.room u hu e
    by_cases e2 : u = t
    · subst e2; rw [updS_eq]; omega
    · rw [updS_ne e2]; exact this
/-- the mark's word and bit of a reference -/
theorem ref_cell {x : Int} (hx : refB P T R x = true) : ∃ pg k : Nat, (pg : Int) < P ∧ k < 64 ∧ cellI P T R x = (mkN P T R pg : Int) ∧ bitI P T R x = ((2 ^ k : Nat) : Int) ∧ x = baseI P T R + 64 * (pg : Int) + (k : Int) ∧ tabI T R ≤ ((mkN P T R pg : Nat) : Int) ∧ mkN P T R pg < cellsN P T R := by
  obtain ⟨hR, x1, x2, x3⟩ := ref_bd hx
  have hb := base_bd hR
  have hp := hR.1
  have ht := tab_ge hR
  have px : 0 ≤ pgI P T R x ∧ pgI P T R x ≤ P - 1 := by unfold pgI; omega
  have wx : 0 ≤ wdI P T R x ∧ wdI P T R x < 64 := by unfold wdI; omega
  have hl := (cellsN_bd hR).1
  refine ⟨(pgI P T R x).toNat, (wdI P T R x).toNat, by omega, by omega, ?_, bit_nat wx, ?_, ?_, ?_⟩
  · unfold cellI rowI inB mkN
    rw [of_right hR, Bool.true_and, if_pos (decide_eq_true px)]
    omega
  · have : x = baseI P T R + 64 * pgI P T R x + wdI P T R x := by unfold pgI wdI; omega
    omega
  · unfold mkN; omega
  · unfold mkN; omega
/-- a mark is set: what was there, and what is -/
theorem CsK.mark (c : CsK P T R h q st rf W Sn ov cs) {x : Int} (hx : refB P T R x = true) {t s : Nat} (h3 : s ≠ 3) (h4 : s ≠ 4) :
    ∃ ce : Nat, cellI P T R x = (ce : Int) ∧ ce < cs.length ∧ (bits .and .u64 (cs.getD ce 0) (bitI P T R x) == 0) = !(Sn x) ∧ CsK P T R h q (updS st t s) rf W (addS Sn x) ov (cs.set ce (bits .or .u64 (cs.getD ce 0) (bitI P T R x))) := by
  obtain ⟨hR, _⟩ := ref_bd hx
  obtain ⟨pg, k, hp, hk, hce, hbi, hxe, hta, hlt⟩ := ref_cell hx
  have c' := c.same (t := t) (s := s) h3 h4
  have r1 := hR.2.2.1
  obtain ⟨X, hX, hXe, hXt⟩ := c.ma pg hp
  have h2k : 2 ^ k < 2 ^ 64 := Nat.pow_lt_pow_right (by decide) hk
  have tge := tab_ge hR
  have far : ∀ (u : Nat) (k : Int), 0 ≤ k → k < 5 + R → (u : Int) < T → mkN P T R pg ≠ ownN R u k := fun u k k0 k1 hu => by
    have := own_lt' (P := P) hR hu k0 k1; omega
  have farS : ∀ (u : Nat) (n : Int), (u : Int) < T → mkN P T R pg ≠ slotN R u n := by
    intro u n hu
    obtain ⟨k3, e3, k4, k5⟩ := slot_own (t := (u : Int)) r1 n
    rw [e3]; exact far u k3 (by omega) k5 hu
  refine ⟨mkN P T R pg, hce, by rw [c.len]; exact hlt, ?_, by rw [List.length_set]; exact c.len, ?_, fun u hu => ?_, fun u hu => ?_, c'.hq, fun u hu j j1 j2 => ?_, fun u hu e => ?_, c'.room, fun g hg => ?_⟩
  · rw [hXe, hbi, bits_and_u64_nat _ _ hX h2k]
    have hs := hXt k hk
    rw [← hxe] at hs
    rw [← hs]
    cases hb : X.testBit k with
    | true =>
      have : (X &&& 2 ^ k).testBit k = true := by rw [Nat.testBit_and, hb, Nat.testBit_two_pow_self]; rfl
      have hne : X &&& 2 ^ k ≠ 0 := fun e => by rw [e, Nat.zero_testBit] at this; cases this
      exact beq_eq_false_iff_ne.2 (by omega)
    | false =>
      have : X &&& 2 ^ k = 0 := by
        apply Nat.eq_of_testBit_eq
        intro j
        rw [Nat.testBit_and, Nat.testBit_two_pow, Nat.zero_testBit]
        by_cases e : k = j
        · subst e; simp [hb]
        · simp [e]
      rw [this]; rfl
  · rw [getD_set, if_neg (by omega)]; exact c.ov4
  · rw [getD_set, if_neg (fun e => far u 3 (by decide) (by omega) hu e.1)]; exact c.hd u hu
  · rw [getD_set, if_neg (fun e => far u 4 (by decide) (by omega) hu e.1)]; exact c.tl u hu
  · rw [getD_set, if_neg (fun e => farS u _ hu e.1)]; exact c.slot u hu j j1 j2
  · rw [getD_set, if_neg (fun e3 => farS u _ hu e3.1)]; exact c'.put u hu e
  · have inj : ∀ j : Nat, j < 64 → (addS Sn x (baseI P T R + 64 * (g : Int) + (j : Int)) = (Sn (baseI P T R + 64 * (g : Int) + (j : Int)) || (decide (g = pg) && decide (j = k)))) := by
      intro j hj
      unfold addS
      congr 1
      rw [hxe]
      by_cases e : g = pg ∧ j = k
      · obtain ⟨rfl, rfl⟩ := e; simp
      · have : ¬ (baseI P T R + 64 * (g : Int) + (j : Int) = baseI P T R + 64 * (pg : Int) + (k : Int)) := by omega
        rw [decide_eq_false this, ← Bool.decide_and]
        exact (decide_eq_false e).symm
    by_cases e : g = pg
    · subst e
      refine ⟨X ||| 2 ^ k, Nat.or_lt_two_pow hX h2k, ?_, fun j hj => ?_⟩
      · rw [getD_set, if_pos ⟨rfl, by rw [c.len]; exact hlt⟩, hXe, hbi, bits_or_u64_nat _ _ hX h2k]
      · rw [inj j hj, Nat.testBit_or, Nat.testBit_two_pow, hXt j hj]
        simp [eq_comm]
    · obtain ⟨Y, y1, y2, y3⟩ := c.ma g hg
      have hne : mkN P T R pg ≠ mkN P T R g := by unfold mkN; have := hR.1; omega
      refine ⟨Y, y1, by rw [getD_set, if_neg (fun r => hne r.1)]; exact y2, fun j hj => ?_⟩
      rw [inj j hj, y3 j hj]
      simp [e]
theorem CsK.start (P T R : Int) (hR : Right P T R) : CsK P T R (fun _ => 0) (fun _ => 0) (fun _ => 9) (fun _ => 0) (fun _ _ => 0) (fun _ => false) false (List.replicate (cellsN P T R) 0) := by
  have e : ∀ j, (List.replicate (cellsN P T R) (0 : Int)).getD j 0 = 0 := fun j => by
    simp only [List.getD_eq_getElem?_getD, List.getElem?_replicate]; split <;> rfl
  have r1 := hR.2.2.1
  exact ⟨by simp, e 4, fun t _ => e _, fun t _ => e _, fun t _ => ⟨Nat.le_refl _, by omega⟩, fun t _ j _ hj => absurd hj (Nat.not_lt_zero _), fun t _ h => by omega, fun t _ h => by omega, fun pg _ => ⟨0, by decide, e _, fun k _ => Nat.zero_testBit k⟩⟩
end
end Go.Proofs.Ytlhigibgjggidaa
/- ShadeKept: where each object that was shaded afresh is: held, in a ring, taken, or told as lost; what each access does to that. No condition. -/
namespace Go.Proofs.Ytlhigibgjggidaa
open Go.RowKit
set_option linter.unusedVariables false
structure Lg (P T R : Int) (h q st : Nat → Nat) (rf : Nat → Int) (W : Nat → Nat → Int) (Sn Tk : Int → Bool) (ov : Bool) : Prop where
  le : ∀ t : Nat, (t : Int) < T → st t ≤ 9
  ref : ∀ t : Nat, (t : Int) < T → st t ≤ 8 → refB P T R (rf t) = true
  wq : ∀ t : Nat, (t : Int) < T → ∀ j, j < q t → Sn (W t j) = true ∧ refB P T R (W t j) = true
  hs : ∀ t : Nat, (t : Int) < T → kHe (st t) → Sn (rf t) = true
  i1 : ∀ t t' : Nat, (t : Int) < T → (t' : Int) < T → ∀ j j', j < q t → j' < q t' → W t j = W t' j' → t = t' ∧ j = j'
  i2 : ∀ t t' : Nat, (t : Int) < T → (t' : Int) < T → kHe (st t) → ∀ j', j' < q t' → W t' j' ≠ rf t
  i3 : ∀ t t' : Nat, (t : Int) < T → (t' : Int) < T → kHe (st t) → kHe (st t') → rf t = rf t' → t = t'
  ev : ∀ x, Sn x = true → ov = true ∨ (∃ t : Nat, (t : Int) < T ∧ kHe (st t) ∧ rf t = x) ∨ (∃ t : Nat, (t : Int) < T ∧ ∃ j, j < q t ∧ W t j = x)
  tk : ∀ x, Tk x = true ↔ ∃ t : Nat, (t : Int) < T ∧ ∃ j, j < h t ∧ W t j = x
  hq : ∀ t : Nat, (t : Int) < T → h t ≤ q t
section
variable {P T R : Int} {h q st : Nat → Nat} {rf : Nat → Int} {W : Nat → Nat → Int} {Sn Tk : Int → Bool} {ov : Bool}
theorem Lg.start (P T R : Int) : Lg P T R (fun _ => 0) (fun _ => 0) (fun _ => 9) (fun _ => 0) (fun _ _ => 0) (fun _ => false) (fun _ => false) false := by
  have n9 : ¬ kHe 9 := by unfold kHe; omega
  refine ⟨fun _ _ => Nat.le_refl 9, fun _ _ h => absurd h (by decide), fun _ _ j hj => absurd hj (Nat.not_lt_zero _), fun _ _ h => absurd h n9, fun _ _ _ _ j _ hj => absurd hj (Nat.not_lt_zero _), fun _ _ _ _ h => absurd h n9, fun _ _ _ _ h => absurd h n9, (fun x h => by cases h), fun x => ⟨(fun h => by cases h), fun ⟨t, _, j, hj, _⟩ => absurd hj (Nat.not_lt_zero _)⟩, fun _ _ => Nat.le_refl 0⟩
theorem updHe {st : Nat → Nat} {t s u : Nat} (he : kHe s ↔ kHe (st t)) : kHe (updS st t s u) ↔ kHe (st u) := by
  by_cases e : u = t
  · subst e; rw [updS_eq]; exact he
  · rw [updS_ne e]
/-- a machine goes on, and holds as ahead of it -/
theorem Lg.go (l : Lg P T R h q st rf W Sn Tk ov) {t s : Nat} (ht : (t : Int) < T) (s9 : s ≤ 9) (h8 : s ≤ 8 → st t ≤ 8) (he : kHe s ↔ kHe (st t)) : Lg P T R h q (updS st t s) rf W Sn Tk ov := by
  refine ⟨fun u hu => ?_, fun u hu e => ?_, l.wq, fun u hu e => l.hs u hu ((updHe he).1 e), l.i1, fun u v hu hv e => l.i2 u v hu hv ((updHe he).1 e), fun u v hu hv e e2 => l.i3 u v hu hv ((updHe he).1 e) ((updHe he).1 e2), fun x hx => ?_, l.tk, l.hq⟩
  · by_cases e : u = t
    · subst e; rw [updS_eq]; omega
    · rw [updS_ne e]; exact l.le u hu
  · by_cases e2 : u = t
    · subst e2; rw [updS_eq] at e; exact l.ref u hu (h8 e)
    · rw [updS_ne e2] at e; exact l.ref u hu e
  · rcases l.ev x hx with r | ⟨u, hu, r1, r2⟩ | r
    · exact .inl r
    · exact .inr (.inl ⟨u, hu, (updHe he).2 r1, r2⟩)
    · exact .inr (.inr r)
/-- a machine is the first at its object -/
theorem Lg.first (l : Lg P T R h q st rf W Sn Tk ov) {t : Nat} (ht : (t : Int) < T) (h0 : st t = 0) (hn : Sn (rf t) = false) : Lg P T R h q (updS st t 1) rf W (addS Sn (rf t)) Tk ov := by
  have n0 : ¬ kHe (st t) := by unfold kHe; omega
  have y1 : kHe 1 := .inl ⟨by decide, by decide⟩
  refine ⟨fun u hu => ?_, fun u hu e => ?_, fun u hu j hj => ?_, fun u hu e => ?_, l.i1, fun u v hu hv e j' hj' => ?_, fun u v hu hv e e2 er => ?_, fun x hx => ?_, l.tk, l.hq⟩
  · by_cases e : u = t
    · subst e; rw [updS_eq]; omega
    · rw [updS_ne e]; exact l.le u hu
  · by_cases e2 : u = t
    · subst e2; exact l.ref u hu (by omega)
    · rw [updS_ne e2] at e; exact l.ref u hu e
  · exact ⟨addS_true.2 (.inl (l.wq u hu j hj).1), (l.wq u hu j hj).2⟩
  · by_cases e2 : u = t
    · subst e2; exact addS_true.2 (.inr rfl)
    · rw [updS_ne e2] at e; exact addS_true.2 (.inl (l.hs u hu e))
  · by_cases e2 : u = t
    · subst e2
      intro r
      have := (l.wq v hv j' hj').1
      rw [r, hn] at this; cases this
    · rw [updS_ne e2] at e; exact l.i2 u v hu hv e j' hj'
  · by_cases q1 : u = t
    · by_cases q2 : v = t
      · omega
      · subst q1
        rw [updS_ne q2] at e2
        have := l.hs v hv e2
        rw [← er, hn] at this; cases this
    · by_cases q2 : v = t
      · subst q2
        rw [updS_ne q1] at e
        have := l.hs u hu e
        rw [er, hn] at this; cases this
      · rw [updS_ne q1] at e; rw [updS_ne q2] at e2; exact l.i3 u v hu hv e e2 er
  · rcases addS_true.1 hx with hx | rfl
    · rcases l.ev x hx with r | ⟨u, hu, r1, r2⟩ | r
      · exact .inl r
      · refine .inr (.inl ⟨u, hu, ?_, r2⟩)
        have : u ≠ t := fun e => n0 (e ▸ r1)
        rw [updS_ne this]; exact r1
      · exact .inr (.inr r)
    · exact .inr (.inl ⟨t, ht, by rw [updS_eq]; exact y1, rfl⟩)
/-- a machine has put its object into the ring -/
theorem Lg.put (l : Lg P T R h q st rf W Sn Tk ov) {t : Nat} (ht : (t : Int) < T) (h4 : st t = 4) : Lg P T R h (updS q t (q t + 1)) (updS st t 5) rf (updW W t (q t) (rf t)) Sn Tk ov := by
  have y4 : kHe (st t) := by rw [h4]; exact .inl ⟨by decide, by decide⟩
  have n5 : ¬ kHe 5 := by unfold kHe; omega
  have old : ∀ (u j : Nat), (u : Int) < T → j < updS q t (q t + 1) u → (u = t ∧ j = q t ∧ updW W t (q t) (rf t) u j = rf t) ∨ (j < q u ∧ ¬ (u = t ∧ j = q t) ∧ updW W t (q t) (rf t) u j = W u j) := by
    intro u j hu hj
    by_cases e : u = t
    · subst e
      rw [updS_eq] at hj
      by_cases e2 : j = q u
      · subst e2; exact .inl ⟨rfl, rfl, updW_eq _ _ _ _⟩
      · exact .inr ⟨by omega, fun r => e2 r.2, updW_ne (fun r => e2 r.2)⟩
    · rw [updS_ne e] at hj
      exact .inr ⟨hj, fun r => e r.1, updW_ne (fun r => e r.1)⟩
  have new : ∀ (u j : Nat), j < q u → j < updS q t (q t + 1) u ∧ updW W t (q t) (rf t) u j = W u j := by
    intro u j hj
    by_cases e : u = t
    · subst e; rw [updS_eq]; exact ⟨by omega, updW_ne (fun r => by omega)⟩
    · rw [updS_ne e]; exact ⟨hj, updW_ne (fun r => e r.1)⟩
  refine ⟨fun u hu => ?_, fun u hu e => ?_, fun u hu j hj => ?_, fun u hu e => ?_, fun u v hu hv j j' hj hj' er => ?_, fun u v hu hv e j' hj' => ?_, fun u v hu hv e e2 er => ?_, fun x hx => ?_, fun x => ?_, fun u hu => ?_⟩
  · by_cases e : u = t
    · subst e; rw [updS_eq]; omega
    · rw [updS_ne e]; exact l.le u hu
  · by_cases e2 : u = t
    · subst e2; exact l.ref u hu (by omega)
    · rw [updS_ne e2] at e; exact l.ref u hu e
  · rcases old u j hu hj with ⟨rfl, rfl, e⟩ | ⟨h1, _, e⟩
    · rw [e]; exact ⟨l.hs u hu y4, l.ref u hu (by omega)⟩
    · rw [e]; exact l.wq u hu j h1
  · by_cases e2 : u = t
    · subst e2; rw [updS_eq] at e; exact absurd e n5
    · rw [updS_ne e2] at e; exact l.hs u hu e
  · rcases old u j hu hj with ⟨rfl, rfl, e⟩ | ⟨h1, _, e⟩
    · rcases old v j' hv hj' with ⟨rfl, rfl, e'⟩ | ⟨h1', _, e'⟩
      · exact ⟨rfl, rfl⟩
      · rw [e, e'] at er
        exact absurd er.symm (l.i2 u v hu hv y4 j' h1')
    · rcases old v j' hv hj' with ⟨rfl, rfl, e'⟩ | ⟨h1', _, e'⟩
      · rw [e, e'] at er
        exact absurd er (l.i2 v u hv hu y4 j h1)
      · rw [e, e'] at er; exact l.i1 u v hu hv j j' h1 h1' er
  · by_cases e2 : u = t
    · subst e2; rw [updS_eq] at e; exact absurd e n5
    · rw [updS_ne e2] at e
      rcases old v j' hv hj' with ⟨rfl, rfl, e'⟩ | ⟨h1', _, e'⟩
      · rw [e']
        intro r
        exact e2 (l.i3 u v hu hv e y4 r.symm)
      · rw [e']; exact l.i2 u v hu hv e j' h1'
  · by_cases q1 : u = t
    · subst q1; rw [updS_eq] at e; exact absurd e n5
    · by_cases q2 : v = t
      · subst q2; rw [updS_eq] at e2; exact absurd e2 n5
      · rw [updS_ne q1] at e; rw [updS_ne q2] at e2; exact l.i3 u v hu hv e e2 er
  · rcases l.ev x hx with r | ⟨u, hu, r1, r2⟩ | ⟨u, hu, j, hj, r⟩
    · exact .inl r
    · by_cases e : u = t
      · subst e
        exact .inr (.inr ⟨u, hu, q u, by rw [updS_eq]; omega, by rw [updW_eq]; exact r2⟩)
      · exact .inr (.inl ⟨u, hu, by rw [updS_ne e]; exact r1, r2⟩)
    · obtain ⟨n1, n2⟩ := new u j hj
      exact .inr (.inr ⟨u, hu, j, n1, n2.trans r⟩)
  · rw [l.tk x]
    constructor
    · rintro ⟨u, hu, j, hj, r⟩
      have := l.hq u hu
      exact ⟨u, hu, j, hj, ((new u j (by omega)).2).trans r⟩
    · rintro ⟨u, hu, j, hj, r⟩
      have := l.hq u hu
      exact ⟨u, hu, j, hj, ((new u j (by omega)).2).symm.trans r⟩
  · have := l.hq u hu
    by_cases e : u = t
    · subst e; rw [updS_eq]; omega
    · rw [updS_ne e]; exact this
/-- it is told as lost -/
theorem Lg.lost (l : Lg P T R h q st rf W Sn Tk ov) {t : Nat} (ht : (t : Int) < T) (h7 : st t = 7) : Lg P T R h q (updS st t 8) rf W Sn Tk true := by
  have n8 : ¬ kHe 8 := by unfold kHe; omega
  have he : ∀ u, kHe (updS st t 8 u) → kHe (st u) := by
    intro u e
    by_cases e2 : u = t
    · subst e2; rw [updS_eq] at e; exact absurd e n8
    · rw [updS_ne e2] at e; exact e
  refine ⟨fun u hu => ?_, fun u hu e => ?_, l.wq, fun u hu e => l.hs u hu (he u e), l.i1, fun u v hu hv e => l.i2 u v hu hv (he u e), fun u v hu hv e e2 => l.i3 u v hu hv (he u e) (he v e2), fun x hx => .inl rfl, l.tk, l.hq⟩
  · by_cases e : u = t
    · subst e; rw [updS_eq]; omega
    · rw [updS_ne e]; exact l.le u hu
  · by_cases e2 : u = t
    · subst e2; exact l.ref u hu (by omega)
    · rw [updS_ne e2] at e; exact l.ref u hu e
/-- a new machine in the place of one that holds nothing -/
theorem Lg.new (l : Lg P T R h q st rf W Sn Tk ov) {t : Nat} (ht : (t : Int) < T) (hn : ¬ kHe (st t)) {x : Int} (hx : refB P T R x = true) : Lg P T R h q (updS st t 0) (updI rf t x) W Sn Tk ov := by
  have n0 : ¬ kHe 0 := by unfold kHe; omega
  have he : ∀ u, kHe (updS st t 0 u) → u ≠ t ∧ kHe (st u) := by
    intro u e
    by_cases e2 : u = t
    · subst e2; rw [updS_eq] at e; exact absurd e n0
    · rw [updS_ne e2] at e; exact ⟨e2, e⟩
  refine ⟨fun u hu => ?_, fun u hu e => ?_, l.wq, fun u hu e => ?_, l.i1, fun u v hu hv e => ?_, fun u v hu hv e e2 => ?_, fun y hy => ?_, l.tk, l.hq⟩
  · by_cases e : u = t
    · subst e; rw [updS_eq]; omega
    · rw [updS_ne e]; exact l.le u hu
  · by_cases e2 : u = t
    · subst e2; rw [updI_eq]; exact hx
    · rw [updS_ne e2] at e; rw [updI_ne e2]; exact l.ref u hu e
  · obtain ⟨e1, e2⟩ := he u e
    rw [updI_ne e1]; exact l.hs u hu e2
  · obtain ⟨e1, e2⟩ := he u e
    rw [updI_ne e1]; exact l.i2 u v hu hv e2
  · obtain ⟨e1, e3⟩ := he u e
    obtain ⟨e4, e5⟩ := he v e2
    rw [updI_ne e1, updI_ne e4]; exact l.i3 u v hu hv e3 e5
  · rcases l.ev y hy with r | ⟨u, hu, r1, r2⟩ | r
    · exact .inl r
    · have : u ≠ t := fun e => hn (e ▸ r1)
      exact .inr (.inl ⟨u, hu, by rw [updS_ne this]; exact r1, by rw [updI_ne this]; exact r2⟩)
    · exact .inr (.inr r)
/-- a word is taken: it is one that was seen, and not taken yet -/
theorem Lg.pop (l : Lg P T R h q st rf W Sn Tk ov) {t : Nat} (ht : (t : Int) < T) (hl : h t < q t) :
    (Sn (W t (h t)) = true ∧ refB P T R (W t (h t)) = true ∧ Tk (W t (h t)) = false) ∧ Lg P T R (updS h t (h t + 1)) q st rf W Sn (addS Tk (W t (h t))) ov := by
  refine ⟨⟨(l.wq t ht _ hl).1, (l.wq t ht _ hl).2, ?_⟩, l.le, l.ref, l.wq, l.hs, l.i1, l.i2, l.i3, l.ev, fun x => ?_, fun u hu => ?_⟩
  · cases e : Tk (W t (h t)) with
    | false => rfl
    | true =>
      obtain ⟨u, hu, j, hj, r⟩ := (l.tk _).1 e
      have := l.hq u hu
      obtain ⟨rfl, rfl⟩ := l.i1 u t hu ht j (h t) (by omega) hl r
      omega
  · rw [addS_true, l.tk x]
    constructor
    · rintro (⟨u, hu, j, hj, r⟩ | r)
      · refine ⟨u, hu, j, ?_, r⟩
        by_cases e : u = t
        · subst e; rw [updS_eq]; omega
        · rw [updS_ne e]; exact hj
      · exact ⟨t, ht, h t, by rw [updS_eq]; omega, r.symm⟩
    · rintro ⟨u, hu, j, hj, r⟩
      by_cases e : u = t
      · subst e
        rw [updS_eq] at hj
        by_cases e2 : j = h u
        · subst e2; exact .inr r.symm
        · exact .inl ⟨u, hu, j, by omega, r⟩
      · rw [updS_ne e] at hj; exact .inl ⟨u, hu, j, hj, r⟩
  · have := l.hq u hu
    by_cases e : u = t
    · subst e; rw [updS_eq]; omega
    · rw [updS_ne e]; exact this
end
end Go.Proofs.Ytlhigibgjggidaa
/- ShadeKept: all machines, the rings and the arena as one fact; a step of a machine. Condition: the plan is right, the blocks lie apart. -/
namespace Go.Proofs.Ytlhigibgjggidaa
open Go.RowKit
set_option linter.unusedVariables false
/-- what is told of the machines, the rings and the lists -/
structure KD where
  st : Nat → Nat
  rf : Nat → Int
  h : Nat → Nat
  q : Nat → Nat
  W : Nat → Nat → Int
  Sn : Int → Bool
  Tk : Int → Bool
  ov : Bool
  K : List Nat
  bs : Nat → Nat
  bm : Nat → Nat
  bu : Nat → Nat
  tl : Nat → Int
  lp : Nat → Option Addr
  rr : Nat → Int
  cs : List Int
  sn : List Int
  tk : List Int
  n : Nat
def KD.own (D : KD) (t b : Nat) : Prop := b = D.bs t ∨ b = D.bm t ∨ b = D.bu t
/-- the machines, the arena and the port -/
structure KC (B a c p : Nat) (P T R : Int) (o : Bool) (D : KD) (w : World) : Prop where
  right : Right P T R
  ary : Ary w B a c D.cs D.n D.K
  port : PortAt w p a 1 o
  mch : ∀ t : Nat, (t : Int) < T → D.st t ≤ 8 → ShadeAt w (D.bs t) (D.rf t) (D.bm t) (some ⟨D.bu t, 0, none⟩) (kNx (D.st t)) (kLo (D.st t)) ∧ MarkAt w (D.bm t) (cellI P T R (D.rf t)) (bitI P T R (D.rf t)) (kMn (D.st t)) (kMf (D.st t)) ∧ PushAt w (D.bu t) P T R t (D.rf t) (D.tl t) (kPn (D.st t)) (kFu (D.st t))
  tlq : ∀ t : Nat, (t : Int) < T → D.st t = 2 ∨ D.st t = 3 ∨ D.st t = 4 → D.tl t = (D.q t : Int)
  own : ∀ t : Nat, (t : Int) < T → D.st t ≤ 8 → (p < D.bm t ∧ D.bm t < D.bu t ∧ D.bu t < D.bs t) ∧ D.bs t ∈ D.K ∧ D.bm t ∈ D.K ∧ D.bu t ∈ D.K
  far : ∀ t t' : Nat, (t : Int) < T → (t' : Int) < T → D.st t ≤ 8 → D.st t' ≤ 8 → t ≠ t' → ∀ b, D.own t b → ¬ D.own t' b
  hp : p ∈ D.K
  qs : ∀ t : Nat, (t : Int) < T → D.q t ≤ D.n
  cc : CsK P T R D.h D.q D.st D.rf D.W D.Sn D.ov D.cs
  ll : Lg P T R D.h D.q D.st D.rf D.W D.Sn D.Tk D.ov
section
variable {B a c p : Nat} {P T R : Int} {o : Bool} {D : KD} {w w' : World}
theorem KC.touch {X : Nat → Prop} (k : KC B a c p P T R o D w) (hT : Touch X w w') (hX : ∀ b, X b → b ∈ D.K ∧ b ≠ p ∧ ∀ t : Nat, (t : Int) < T → D.st t ≤ 8 → ¬ D.own t b) : KC B a c p P T R o D w' := by
  obtain ⟨xs, hA⟩ := k.ary
  refine ⟨k.right, ⟨xs, hA.touch hT (fun b hb => (hX b hb).1)⟩, Blk.touch k.port hT (fun r => (hX p r).2.1 rfl), fun t ht h8 => ?_, k.tlq, k.own, k.far, k.hp, k.qs, k.cc, k.ll⟩
  obtain ⟨h1, h2, h3⟩ := k.mch t ht h8
  exact ⟨Blk.touch h1 hT (fun r => (hX _ r).2.2 t ht h8 (.inl rfl)), Blk.touch h2 hT (fun r => (hX _ r).2.2 t ht h8 (.inr (.inl rfl))), Blk.touch h3 hT (fun r => (hX _ r).2.2 t ht h8 (.inr (.inr rfl)))⟩
theorem KC.grew (k : KC B a c p P T R o D w) (hb : Below w.heap.size w w') : KC B a c p P T R o D w' := k.touch (X := fun _ => False) (Touch.of hb) (fun _ r => r.elim)
theorem KC.quiet (k : KC B a c p P T R o D w) (hq : Quiet w w') : KC B a c p P T R o D w' := k.grew hq.below
theorem KC.grant (k : KC B a c p P T R o D w) :
    Calls Try.prog 24 #[.pointer (some ⟨p, 0, none⟩)] w fun e w' => (∃ v, e = .returned v) ∧ KC B a c p P T R true D w' ∧ Touch (fun b => b = p) w w' := by
  refine (grant_at p a 1 o w k.port).mono fun e w' ⟨he, hP, hT⟩ => ⟨he, ?_, hT⟩
  obtain ⟨xs, hA⟩ := k.ary
  refine ⟨k.right, ⟨xs, hA.touch hT (fun _ e => e ▸ k.hp)⟩, hP, fun t ht h8 => ?_, k.tlq, k.own, k.far, k.hp, k.qs, k.cc, k.ll⟩
  obtain ⟨h1, h2, h3⟩ := k.mch t ht h8
  have := (k.own t ht h8).1
  exact ⟨Blk.touch h1 hT (by omega), Blk.touch h2 hT (by omega), Blk.touch h3 hT (by omega)⟩
/-- what a step of thread t's machine may touch -/
def KD.foot (D : KD) (B p t : Nat) (b : Nat) : Prop := b = p ∨ D.own t b ∨ (B ≤ b ∧ b ∉ D.K)
/-- what a step leaves as it was -/
structure KD.Same (D D' : KD) : Prop where
  rf : D'.rf = D.rf
  bs : D'.bs = D.bs
  bm : D'.bm = D.bm
  bu : D'.bu = D.bu
  K : D'.K = D.K
  lp : D'.lp = D.lp
  rr : D'.rr = D.rr
  sn : D'.sn = D.sn
  tk : D'.tk = D.tk
  Tk : D'.Tk = D.Tk
  h : D'.h = D.h
theorem KC.part (k : KC B a c p P T R o D w) {t : Nat} (ht : (t : Int) < T) (h8 : D.st t ≤ 8) {ce : Nat} (hce : cellI P T R (D.rf t) = (ce : Int)) {s : Nat} (hs : D.st t = s) :
    ShE w B a c p (D.bs t) (D.bm t) (D.bu t) P T R t (D.rf t) ce (bitI P T R (D.rf t)) (kNx s) (kLo s) (kMn s) (kMf s) (D.tl t) (kPn s) (kFu s) D.cs D.n D.K 1 o w := by
  subst hs
  obtain ⟨h1, h2, h3⟩ := k.mch t ht h8
  rw [hce] at h2
  exact k.ary.sh h1 h2 h3 k.port
theorem KC.shr (k : KC B a c p P T R o D w) {t : Nat} (ht : (t : Int) < T) (h8 : D.st t ≤ 8) {ce : Nat} (hc : ce < D.cs.length) : ShR P T R t p (D.bs t) (D.bm t) (D.bu t) ce D.cs D.K := by
  obtain ⟨lk, i1, i2, i3⟩ := k.own t ht h8
  exact ⟨exB_mk k.right (by omega) ht, by omega, by omega, by omega, by omega, by omega, by omega, i1, i2, i3, k.hp, k.cc.len, hc⟩
theorem KC.after {o' : Bool} {cs' : List Int} {n' : Nat} {tl' : Int} {q' : Nat → Nat} {W' : Nat → Nat → Int} {Sn' : Int → Bool} {ov' : Bool} (k : KC B a c p P T R o D w) {t : Nat} (ht : (t : Int) < T) (h8 : D.st t ≤ 8) {ce : Nat} (hce : cellI P T R (D.rf t) = (ce : Int)) {s : Nat} (s8 : s ≤ 8)
    (he : ShE w B a c p (D.bs t) (D.bm t) (D.bu t) P T R t (D.rf t) ce (bitI P T R (D.rf t)) (kNx s) (kLo s) (kMn s) (kMf s) tl' (kPn s) (kFu s) cs' n' D.K 1 o' w')
    (htl : s = 2 ∨ s = 3 ∨ s = 4 → tl' = (q' t : Int)) (hqo : ∀ u : Nat, u ≠ t → q' u = D.q u) (hqs : ∀ u : Nat, (u : Int) < T → q' u ≤ n')
    (hc : CsK P T R D.h q' (updS D.st t s) D.rf W' Sn' ov' cs') (hl : Lg P T R D.h q' (updS D.st t s) D.rf W' Sn' D.Tk ov') :
    KC B a c p P T R o' { D with st := updS D.st t s, tl := updI D.tl t tl', q := q', W := W', Sn := Sn', ov := ov', cs := cs', n := n' } w' ∧ Touch (D.foot B p t) w w' := by
  obtain ⟨hS, hM, hU, hP, hT⟩ := he.parts
  have hT' : Touch (D.foot B p t) w w' := hT.mono fun b _ e => by
    rcases e with e | e | e | e | e
    · exact .inl e
    · exact .inr (.inl (.inl e))
    · exact .inr (.inl (.inr (.inl e)))
    · exact .inr (.inl (.inr (.inr e)))
    · exact .inr (.inr e)
  have far : ∀ j : Nat, (j : Int) < T → D.st j ≤ 8 → j ≠ t → ∀ b, D.own j b → ¬ D.foot B p t b := by
    intro j hj hj8 hne b hb hr
    obtain ⟨lj, j1, j2, j3⟩ := k.own j hj hj8
    rcases hr with r | r | r
    · unfold KD.own at hb; omega
    · exact k.far j t hj ht hj8 h8 hne b hb r
    · refine r.2 ?_
      rcases hb with rfl | rfl | rfl
      · exact j1
      · exact j2
      · exact j3
  have st8 : ∀ j, updS D.st t s j ≤ 8 → D.st j ≤ 8 := by
    intro j hj
    by_cases e : j = t
    · subst e; exact h8
    · rw [updS_ne e] at hj; exact hj
  refine ⟨⟨k.right, he.ary, hP, fun j hj hj8 => ?_, fun j hj e => ?_, fun j hj hj8 => k.own j hj (st8 j hj8), fun i j hi hj i8 j8 => k.far i j hi hj (st8 i i8) (st8 j j8), k.hp, hqs, hc, hl⟩, hT'⟩
  · by_cases e : j = t
    · subst e
      show ShadeAt w' _ _ _ _ (kNx (updS D.st j s j)) (kLo (updS D.st j s j)) ∧ MarkAt w' _ _ _ (kMn (updS D.st j s j)) (kMf (updS D.st j s j)) ∧ PushAt w' _ _ _ _ _ _ (updI D.tl j tl' j) (kPn (updS D.st j s j)) (kFu (updS D.st j s j))
      rw [updS_eq, updI_eq, hce]
      exact ⟨hS, hM, hU⟩
    · show ShadeAt w' _ _ _ _ (kNx (updS D.st t s j)) (kLo (updS D.st t s j)) ∧ MarkAt w' _ _ _ (kMn (updS D.st t s j)) (kMf (updS D.st t s j)) ∧ PushAt w' _ _ _ _ _ _ (updI D.tl t tl' j) (kPn (updS D.st t s j)) (kFu (updS D.st t s j))
      have hj8' := st8 j hj8
      rw [updS_ne e, updI_ne e]
      obtain ⟨h1, h2, h3⟩ := k.mch j hj hj8'
      exact ⟨Blk.touch h1 hT' (far j hj hj8' e _ (.inl rfl)), Blk.touch h2 hT' (far j hj hj8' e _ (.inr (.inl rfl))), Blk.touch h3 hT' (far j hj hj8' e _ (.inr (.inr rfl)))⟩
  · show updI D.tl t tl' j = (q' j : Int)
    replace e : updS D.st t s j = 2 ∨ updS D.st t s j = 3 ∨ updS D.st t s j = 4 := e
    by_cases e2 : j = t
    · subst e2; rw [updS_eq] at e; rw [updI_eq]; exact htl e
    · rw [updS_ne e2] at e; rw [updI_ne e2, hqo j e2]; exact k.tlq j hj e
/-- what is known behind a step of thread t's machine -/
def KStep (B a c p : Nat) (P T R : Int) (D : KD) (t : Nat) (w : World) (e : Ending) (w' : World) : Prop :=
  ∃ (s' : Nat) (D' : KD) (o' : Bool), e = .returned (.bool (kNx s' == 0)) ∧ s' ≤ 8 ∧ D'.st = updS D.st t s' ∧ D.Same D' ∧ D'.n ≤ D.n + 1 ∧ D'.Sn = (if kMf s' then addS D.Sn (D.rf t) else D.Sn) ∧ KC B a c p P T R o' D' w' ∧ Touch (D.foot B p t) w w'
theorem kstep_mk {D' : KD} {o' : Bool} {t s' : Nat} {e : Ending} (h1 : KC B a c p P T R o' D' w') (h2 : Touch (D.foot B p t) w w') (he : e = .returned (.bool (kNx s' == 0))) (hs : s' ≤ 8) (hst : D'.st = updS D.st t s') (hsm : D.Same D') (hn : D'.n ≤ D.n + 1) (hS : D'.Sn = (if kMf s' then addS D.Sn (D.rf t) else D.Sn)) : KStep B a c p P T R D t w e w' :=
  ⟨s', D', o', he, hs, hst, hsm, hn, hS, h1, h2⟩
theorem KC.step (k : KC B a c p P T R true D w) {t : Nat} (ht : (t : Int) < T) (hs : D.st t = 0 ∨ kHe (D.st t)) (hn : D.n < 999990) :
    Calls Try.prog 25 #[.pointer (some ⟨D.bs t, 0, none⟩), .pointer (some ⟨p, 0, none⟩)] w (KStep B a c p P T R D t w) := by
  have h8 : D.st t ≤ 8 := by unfold kHe at hs; omega
  have hrf := k.ll.ref t ht h8
  have hR := k.right
  have r1 := hR.2.2.1
  have hqt := k.cc.hq t ht
  have qn := k.qs
  have h4 := own_lt' (P := P) hR ht (show (0 : Int) ≤ 4 by decide) (by omega)
  have sn1 : kHe (D.st t) → D.Sn (D.rf t) = true := k.ll.hs t ht
  obtain ⟨s, hst⟩ : ∃ s, D.st t = s := ⟨_, rfl⟩
  have hs' : s = 0 ∨ s = 1 ∨ s = 2 ∨ s = 3 ∨ s = 4 ∨ s = 7 := by rw [hst] at hs; unfold kHe at hs; omega
  have hq1 : ∀ u : Nat, (u : Int) < T → D.q u ≤ D.n + 1 := fun u hu => by have := qn u hu; omega
  have he1 : ∀ x y, 1 ≤ x → x ≤ 4 → (1 ≤ y ∧ y ≤ 4 ∨ y = 7) → (kHe y ↔ kHe x) := fun x y h1 h2 h3 => ⟨fun _ => .inl ⟨h1, h2⟩, fun _ => h3⟩
  rcases hs' with rfl | rfl | rfl | rfl | rfl | rfl
  · cases hf : D.Sn (D.rf t) with
    | false =>
      obtain ⟨ce, hce, hcl, hz, hC⟩ := k.cc.mark hrf (t := t) (s := 1) (by decide) (by decide)
      have hr := k.shr ht h8 hcl
      rw [hf] at hz
      refine ((k.part ht h8 hce hst).s1f hr (by omega) hz).mono fun e w' ⟨he, hE⟩ => ?_
      obtain ⟨h1, h2⟩ := k.after ht h8 hce (s := 1) (q' := D.q) (by decide) hE (fun e => by omega) (fun _ _ => rfl) hq1 hC (k.ll.first ht hst hf)
      exact kstep_mk (s' := 1) h1 h2 he (by decide) rfl ⟨rfl, rfl, rfl, rfl, rfl, rfl, rfl, rfl, rfl, rfl, rfl⟩ (Nat.le_refl _) rfl
    | true =>
      obtain ⟨ce, hce, hcl, hz, hC⟩ := k.cc.mark hrf (t := t) (s := 6) (by decide) (by decide)
      have hr := k.shr ht h8 hcl
      rw [hf] at hz
      rw [addS_self hf] at hC
      refine ((k.part ht h8 hce hst).s1s hr (by omega) hz).mono fun e w' ⟨he, hE⟩ => ?_
      obtain ⟨h1, h2⟩ := k.after ht h8 hce (s := 6) (q' := D.q) (by decide) hE (fun e => by omega) (fun _ _ => rfl) hq1 hC (k.ll.go ht (by decide) (fun _ => h8) (by rw [hst]; unfold kHe; omega))
      exact kstep_mk (s' := 6) h1 h2 he (by decide) rfl ⟨rfl, rfl, rfl, rfl, rfl, rfl, rfl, rfl, rfl, rfl, rfl⟩ (Nat.le_refl _) rfl
  all_goals
    have sx := sn1 (by rw [hst]; unfold kHe; omega)
    obtain ⟨ce, hce, hcl, -, -⟩ := k.cc.mark hrf (t := t) (s := 0) (by decide) (by decide)
    have hr := k.shr ht h8 hcl
    have hP := k.part ht h8 hce hst
  · refine (hP.s2 hr (by omega)).mono fun e w' ⟨he, hE⟩ => ?_
    rw [k.cc.tl t ht] at hE
    obtain ⟨h1, h2⟩ := k.after ht h8 hce (s := 2) (q' := D.q) (by decide) hE (fun _ => rfl) (fun _ _ => rfl) hq1 (k.cc.same (by decide) (by decide)) (k.ll.go ht (by decide) (fun _ => h8) (by rw [hst]; exact he1 1 2 (by decide) (by decide) (by decide)))
    exact kstep_mk (s' := 2) h1 h2 he (by decide) rfl ⟨rfl, rfl, rfl, rfl, rfl, rfl, rfl, rfl, rfl, rfl, rfl⟩ (Nat.le_refl _) ((addS_self sx).symm)
  · have htl := k.tlq t ht (.inl hst)
    by_cases hfu : (D.q t : Int) < D.h t + R
    · have hf : fullB R (D.tl t) (D.cs.getD (ownN R t 3) 0) = false := by
        rw [k.cc.hd t ht, htl]
        unfold fullB
        exact decide_eq_false (by rw [IntKind.wrap_u64]; omega)
      refine (hP.s3r hr (by omega) hf).mono fun e w' ⟨he, hE⟩ => ?_
      obtain ⟨h1, h2⟩ := k.after ht h8 hce (s := 3) (q' := D.q) (by decide) hE (fun _ => htl) (fun _ _ => rfl) hq1 (k.cc.to3 hfu) (k.ll.go ht (by decide) (fun _ => h8) (by rw [hst]; exact he1 2 3 (by decide) (by decide) (by decide)))
      exact kstep_mk (s' := 3) h1 h2 he (by decide) rfl ⟨rfl, rfl, rfl, rfl, rfl, rfl, rfl, rfl, rfl, rfl, rfl⟩ (Nat.le_refl _) ((addS_self sx).symm)
    · have hf : fullB R (D.tl t) (D.cs.getD (ownN R t 3) 0) = true := by
        rw [k.cc.hd t ht, htl]
        unfold fullB
        have r2 := hR.2.2.2
        exact decide_eq_true (by rw [IntKind.wrap_u64]; omega)
      refine (hP.s3f hr (by omega) hf).mono fun e w' ⟨he, hE⟩ => ?_
      obtain ⟨h1, h2⟩ := k.after ht h8 hce (s := 7) (q' := D.q) (by decide) hE (fun e => by omega) (fun _ _ => rfl) hq1 (k.cc.same (by decide) (by decide)) (k.ll.go ht (by decide) (fun _ => h8) (by rw [hst]; exact he1 2 7 (by decide) (by decide) (by decide)))
      exact kstep_mk (s' := 7) h1 h2 he (by decide) rfl ⟨rfl, rfl, rfl, rfl, rfl, rfl, rfl, rfl, rfl, rfl, rfl⟩ (Nat.le_refl _) ((addS_self sx).symm)
  · have htl := k.tlq t ht (.inr (.inl hst))
    have qb := qn t ht
    refine (hP.s4 hr (by omega) (by rw [htl]; exact ⟨by omega, by omega⟩)).mono fun e w' ⟨he, hE⟩ => ?_
    rw [htl] at hE
    obtain ⟨h1, h2⟩ := k.after ht h8 hce (s := 4) (q' := D.q) (by decide) hE (fun _ => rfl) (fun _ _ => rfl) hq1 (k.cc.to4 hR ht hst) (k.ll.go ht (by decide) (fun _ => h8) (by rw [hst]; exact he1 3 4 (by decide) (by decide) (by decide)))
    exact kstep_mk (s' := 4) h1 h2 he (by decide) rfl ⟨rfl, rfl, rfl, rfl, rfl, rfl, rfl, rfl, rfl, rfl, rfl⟩ (Nat.le_refl _) ((addS_self sx).symm)
  · have htl := k.tlq t ht (.inr (.inr hst))
    have qb := qn t ht
    refine (hP.s5 hr (by omega)).mono fun e w' ⟨he, hE⟩ => ?_
    have hw : IntKind.u64.wrap (D.tl t + 1) = ((D.q t + 1 : Nat) : Int) := by rw [htl, IntKind.wrap_u64]; omega
    rw [hw] at hE
    obtain ⟨h1, h2⟩ := k.after ht h8 hce (s := 5) (q' := updS D.q t (D.q t + 1)) (by decide) hE (fun e => by omega) (fun u hu => updS_ne hu) (fun u hu => by
      by_cases e : u = t
      · subst e; rw [updS_eq]; omega
      · rw [updS_ne e]; exact hq1 u hu) (k.cc.to5 hR ht hst) (k.ll.put ht hst)
    exact kstep_mk (s' := 5) h1 h2 he (by decide) rfl ⟨rfl, rfl, rfl, rfl, rfl, rfl, rfl, rfl, rfl, rfl, rfl⟩ (Nat.le_refl _) ((addS_self sx).symm)
  · have hl4 : 4 < D.cs.length := by rw [k.cc.len]; omega
    refine (hP.s6 hr (by omega) hl4).mono fun e w' ⟨he, hE⟩ => ?_
    obtain ⟨h1, h2⟩ := k.after ht h8 hce (s := 8) (q' := D.q) (by decide) hE (fun e => by omega) (fun _ _ => rfl) hq1 (k.cc.to8 hR) (k.ll.lost ht hst)
    exact kstep_mk (s' := 8) h1 h2 he (by decide) rfl ⟨rfl, rfl, rfl, rfl, rfl, rfl, rfl, rfl, rfl, rfl, rfl⟩ (Nat.le_refl _) ((addS_self sx).symm)
end
end Go.Proofs.Ytlhigibgjggidaa
