/- Texts of this seat, one behind the other: each says at its head what it holds. No condition of its own. -/
import Derived.Deep.CutBlock
import Derived.Deep.DeepCutAuto
import Derived.Maps.AppendAt
import Derived.Deep.AppendLies
import Derived.RangeFuncBox
import Derived.RangeFuncWrites
import Derived.Deep.RegionHeld3
import Derived.Test.YtohmnjejchppkaaDoorGObjectsBack01
import Derived.Test.YtohmnjejchppkaaDoorGObjectsBack11
import Derived.Test.YtohmnjejchppkaaDoorGObjectsBack21
import Derived.Test.YtohmnjejchppkaaDoorGObjectsBack22
/- objects: Look, and the document's Look, at any number, by one word. Conditions: the plan is a plan, the cells are as many as it has, the table is the classes'. -/
namespace Go.Proofs.YtohmnjejchppkaaDoor
open Go.RowKit
set_option linter.unusedVariables false
def entW (P T R : Int) (cs : List Int) (x : Int) : Int := cs.getD (rowN P T R 0 (placeI P T R x).1) 0
/-- what is at a number: an error, or class, kind and how many words -/
def lookE (P T R : Int) (cs : List Int) (cl : List ClsD) (x : Int) : Except Int (Int × Int × Nat) :=
  if holdB P T R cs x = false then .error 5
  else if hdE (cs.getD x.toNat 0) = 0 ∧ fitI cl (hdC (cs.getD x.toNat 0)) (hdK (cs.getD x.toNat 0)) (hdN (cs.getD x.toNat 0)) = true ∧
    roomB P (entW P T R cs x % 4) (entW P T R cs x / 4 % 16) (placeI P T R x).1 (wordsV (hdC (cs.getD x.toNat 0)) (hdK (cs.getD x.toNat 0)) (hdN (cs.getD x.toNat 0))) = true then .ok (hdC (cs.getD x.toNat 0), hdK (cs.getD x.toNat 0), (hdN (cs.getD x.toNat 0)).toNat)
  else .error 4
def LkAny (x : Int) (cs : List Int) (r : Except Int (Int × Int × Nat)) (w : World) (e : Ending) (w' : World) : Prop :=
  match r with
  | .ok q => LkPost x q.1 q.2.1 (lkL cs x.toNat q.2.2) w e w'
  | .error n => LkNo n w e w'
theorem cell_fit {c wd : Int} (hc : 0 ≤ c ∧ c ≤ 7) (hw : 0 ≤ wd ∧ wd ≤ 63) (h : cellI c wd = wd) : wd + widI c ≤ 64 := by
  have : ∀ (k : Fin 8) (i : Fin 64), cellI ((k.val : Nat) : Int) ((i.val : Nat) : Int) = ((i.val : Nat) : Int) → ((i.val : Nat) : Int) + widI ((k.val : Nat) : Int) ≤ 64 := by decide +kernel
  have h2 := this ⟨c.toNat, by omega⟩ ⟨wd.toNat, by omega⟩
  simp only [Int.toNat_of_nonneg hc.1, Int.toNat_of_nonneg hw.1] at h2
  exact h2 h
theorem place_in {P T R x : Int} (h : 0 ≤ (placeI P T R x).1) : baseI P T R ≤ x ∧ x ≤ baseI P T R + 64 * P - 1 ∧ (placeI P T R x).1 = (x - baseI P T R) / 64 ∧ (placeI P T R x).2 = (x - baseI P T R) % 64 := by
  unfold placeI at h ⊢
  cases hh : heapB P T R x with
  | false => rw [hh] at h; simp at h
  | true =>
    unfold heapB at hh
    rw [Bool.and_eq_true] at hh
    have := hh.2
    simp [inB] at this
    simp only [if_true]
    exact ⟨this.1, by omega, trivial, trivial⟩
theorem ent_cls {E : Int} (h : edecOk E = true) (hk : E % 4 = 1) : 0 ≤ E / 4 % 16 ∧ E / 4 % 16 ≤ 7 := by
  unfold edecOk at h
  rw [Bool.and_eq_true] at h
  have h1 := h.1
  unfold entB at h1
  rw [hk] at h1
  simp [kindBEnt, inB] at h1
  omega
theorem hd_bd {x : Int} (h : hdE x = 0) : ∃ Q : Nat, hdN x = (Q : Int) ∧ Q ≤ 255 ∧ wordsV (hdC x) (hdK x) (hdN x) = (Q : Int) + 1 := by
  have hd : decOk x = true := by
    unfold hdE at h
    cases e : decOk x with
    | true => rfl
    | false => rw [e] at h; simp at h
  unfold hdC hdK hdN wordsV
  rw [hd]
  simp only [if_true]
  have hh : headB (x / 256 % 256) (x % 256) (x / 65536 % 256) = true := by unfold decOk at hd; rw [Bool.and_eq_true] at hd; exact hd.1
  rw [if_pos hh]
  exact ⟨(x / 65536 % 256).toNat, by omega, by omega, by omega⟩
theorem look_len {P T R x : Int} {cs : List Int} (hr : Right P T R) (hl : cs.length = cellsN P T R) (h1 : holdB P T R cs x = true) {Q : Nat} (hQ : Q ≤ 255) (h4 : roomB P (entW P T R cs x % 4) (entW P T R cs x / 4 % 16) (placeI P T R x).1 ((Q : Int) + 1) = true) :
    ∃ n : Nat, x = (n : Int) ∧ n < cs.length ∧ n + 1 + Q ≤ cs.length := by
  obtain ⟨p0, p1, p2, p3⟩ := holdB_parts h1
  obtain ⟨q0, q1, q2, q3⟩ := place_in p0
  have hb := base_bd hr
  have hc := cellsN_bd hr
  have hP := place_lt p0
  change edecOk (entW P T R cs x) = true at p1
  change begB (entW P T R cs x % 4) (entW P T R cs x / 4 % 16) (placeI P T R x).2 = true at p2
  generalize entW P T R cs x = E at *
  refine ⟨x.toNat, by omega, by omega, ?_⟩
  rcases beg_kind p2 with hk | hk
  · have hcl := ent_cls p1 hk
    unfold begB at p2
    rw [if_pos hk] at p2
    have hf := cell_fit (wd := (placeI P T R x).2) hcl (by omega) (by simpa using p2)
    unfold roomB at h4
    rw [if_neg (by omega)] at h4
    have h5 : (Q : Int) + 1 ≤ widI (E / 4 % 16) := by simpa using h4
    omega
  · unfold begB at p2
    rw [if_neg (by omega), if_pos hk] at p2
    have ho : (placeI P T R x).2 = 0 := by simpa using p2
    unfold roomB at h4
    rw [if_pos hk] at h4
    have h5 : pgV ((Q : Int) + 1) = E / 4 % 16 ∧ (placeI P T R x).1 + pgV ((Q : Int) + 1) ≤ P := by simpa using h4
    have h6 : 1 ≤ E / 4 % 16 := by
      unfold edecOk at p1
      rw [Bool.and_eq_true] at p1
      have h7 := p1.1
      unfold entB at h7
      rw [hk] at h7
      simp [kindBEnt, inB] at h7
      omega
    have h8 : (Q : Int) + 1 ≤ 64 * pgV ((Q : Int) + 1) := by
      unfold pgV at h5 ⊢
      rw [if_neg (by omega), if_neg (by omega)] at h5 ⊢
      split at h5
      · omega
      · rw [if_neg (by assumption)]; omega
    omega
theorem look_in {P T R x : Int} {cs : List Int} (hr : Right P T R) (hl : cs.length = cellsN P T R) (h1 : holdB P T R cs x = true) : ∃ n : Nat, x = (n : Int) ∧ n < cs.length := by
  obtain ⟨p0, _⟩ := holdB_parts h1
  obtain ⟨q0, q1, _⟩ := place_in p0
  have hb := base_bd hr
  have hc := cellsN_bd hr
  exact ⟨x.toNat, by omega, by omega⟩
theorem hdE_cases (x : Int) : hdE x = 0 ∨ hdE x = 4 := by unfold hdE; split <;> simp
section
variable {w : World} {P T R : Int} {B a c n : Nat} {cs : List Int} {K : List Nat} {lo t m : Nat} {tv : Value} {L : List (ClsD × Value × Nat)} {d : Nat} {v : Value} {cl : List ClsD}
theorem fits_hold {x : Int} (h1 : holdB P T R cs x = true) (m : Int) (hm : 1 ≤ m ∧ m ≤ 256) : fitsB P (entW P T R cs x % 4) (entW P T R cs x / 4 % 16) (placeI P T R x).1 m = roomB P (entW P T R cs x % 4) (entW P T R cs x / 4 % 16) (placeI P T R x).1 m := by
  obtain ⟨p0, p1, p2, p3⟩ := holdB_parts h1
  exact fits_room (beg_kind p2) (fun hk => ent_err p1 hk) hm
theorem look_any (x : Int) (hr : Right P T R) (hA : Ary w B a c cs n K) (hW : Wid w) (hT : TabS w lo t tv m L) (hl : cs.length = cellsN P T R) (hU : ∀ z ∈ cs, U64 z) :
    Calls Tryd.prog 24 #[.pointer (some ⟨a, 0, none⟩), .agg #[.int .i64 P, .int .i64 T, .int .i64 R], .pointer (some ⟨t, 0, none⟩), .int .i64 x] w (LkAny x cs (lookE P T R cs (L.map (·.1)) x) w) := by
  unfold lookE
  cases h1 : holdB P T R cs x with
  | false => exact look_addr x hA hW hT (fun _ => hl) hU h1
  | true =>
    rw [if_neg (by simp)]
    obtain ⟨k, rfl, hk⟩ := look_in hr hl h1
    rw [Int.toNat_natCast]
    by_cases h2 : hdE (cs.getD k 0) = 0
    · obtain ⟨Q, h5, h6, h7⟩ := hd_bd h2
      have hf := fits_hold h1 (wordsV (hdC (cs.getD k 0)) (hdK (cs.getD k 0)) (hdN (cs.getD k 0))) (by rw [h7]; omega)
      cases h3 : fitI (L.map (·.1)) (hdC (cs.getD k 0)) (hdK (cs.getD k 0)) (hdN (cs.getD k 0)) with
      | false =>
        rw [if_neg (fun h => by simp at h)]
        exact look_class k hA hW hT hl hU hk h1 h2 h3
      | true =>
        cases h4 : roomB P (entW P T R cs k % 4) (entW P T R cs k / 4 % 16) (placeI P T R k).1 (wordsV (hdC (cs.getD k 0)) (hdK (cs.getD k 0)) (hdN (cs.getD k 0))) with
        | false =>
          rw [if_neg (fun h => by simp at h)]
          exact look_room k hA hW hT hl hU hk h1 h2 h3 (hf.trans h4)
        | true =>
          rw [if_pos ⟨h2, rfl, rfl⟩]
          have h8 := h4
          rw [h7] at h8
          obtain ⟨n', e, _, h9⟩ := look_len hr hl h1 h6 h8
          have e : n' = k := by omega
          subst e
          have := look_yes n' hA hW hT hl hU h1 h2 h3 (hf.trans h4) Q h5 h6 h9
          unfold LkAny
          rw [h5]
          exact this
    · have h2' : hdE (cs.getD k 0) = 4 := by rcases hdE_cases (cs.getD k 0) with h | h; exact absurd h h2; exact h
      rw [if_neg (fun h => h2 h.1)]
      exact look_head k hA hW hT hl hU hk h1 h2'
end
end Go.Proofs.YtohmnjejchppkaaDoor
/- ObjectsBack: where an object is built, and why it is found there: numbers alone. -/
namespace Go.Proofs.YtohmnjejchppkaaDoor
open Go.RowKit
set_option linter.unusedVariables false
theorem bk_base {P : Int} (hP : P = 4 ∨ P = 5) : baseI P 1 1 = 64 ∧ tabI 1 1 = 22 ∧ ((cellsN P 1 1 : Nat) : Int) = 64 + 64 * P ∧ Right P 1 1 := by
  rcases hP with rfl | rfl
  · exact ⟨by kernel_rfl, by kernel_rfl, by kernel_rfl, by unfold Right; omega⟩
  · exact ⟨by kernel_rfl, by kernel_rfl, by kernel_rfl, by unfold Right; omega⟩
theorem bk_place {P : Int} {X : Int} (hP : P = 4 ∨ P = 5) (h1 : 64 ≤ X) (h2 : X < 64 + 64 * P) : placeI P 1 1 X = ((X - 64) / 64, (X - 64) % 64) := by
  obtain ⟨e1, e2, e3, e4⟩ := bk_base hP
  unfold placeI heapB
  rw [of_right e4, e1]
  have : inB X 64 (64 + 64 * P - 1) = true := by simp [inB]; omega
  rw [this]; rfl
/-- page, place in it, kind, class and state of the entry: an object of N words behind its header may lie there -/
structure BkF (P : Int) (N pg off : Nat) (k c s : Int) : Prop where
  hp : (pg : Int) < P
  ho : off ≤ 63
  ent : entB k c s 0 0 = true
  eok : edecOk (encE k c s 0 0) = true ∧ encE k c s 0 0 % 4 = k ∧ encE k c s 0 0 / 4 % 16 = c ∧ U64 (encE k c s 0 0)
  beg : begB k c off = true
  room : roomB P k c pg ((N : Int) + 1) = true
  allow : allowB P 1 1 (64 + 64 * (pg : Int) + (off : Int)) ((N : Int) + 1) = true
  fit : 64 + 64 * (pg : Int) + (off : Int) + 1 + (N : Int) ≤ 64 + 64 * P
theorem bk_place' {P : Int} {pg off : Nat} (hP : P = 4 ∨ P = 5) (hp : (pg : Int) < P) (ho : off ≤ 63) : placeI P 1 1 (64 + 64 * (pg : Int) + (off : Int)) = ((pg : Int), (off : Int)) := by
  rw [bk_place hP (by omega) (by omega)]
  exact Prod.ext (by show (_ : Int) / 64 = _; omega) (by show (_ : Int) % 64 = _; omega)
theorem bk_large {P : Int} {N pg : Nat} (hP : P = 4 ∨ P = 5) (hN : N ≤ 255) (h : 0 < pgV ((N : Int) + 1)) (hp : (pg : Int) + pgV ((N : Int) + 1) ≤ P) : BkF P N pg 0 2 (pgV ((N : Int) + 1)) 0 := by
  have hb := pgV_bd ((N : Int) + 1)
  have h32 : ¬ (N : Int) + 1 ≤ 32 := by
    intro h2
    rw [(pg_small _ (by omega) h2).1] at h; omega
  have e1 := pg_mid ((N : Int) + 1) (by omega) (by omega)
  have hpl := bk_place' (P := P) (pg := pg) (off := 0) hP (by omega) (by omega)
  have hc : 1 ≤ pgV ((N : Int) + 1) ∧ pgV ((N : Int) + 1) ≤ 4 := by omega
  have hn : (N : Int) + 1 ≤ 64 * pgV ((N : Int) + 1) := by rw [e1.1]; omega
  refine ⟨by omega, by omega, ?_, ?_, by unfold begB; simp, ?_, ?_, by omega⟩
  · generalize pgV ((N : Int) + 1) = q at *
    have : q = 1 ∨ q = 2 ∨ q = 3 ∨ q = 4 := by omega
    rcases this with rfl | rfl | rfl | rfl <;> decide
  · generalize pgV ((N : Int) + 1) = q at *
    have : q = 1 ∨ q = 2 ∨ q = 3 ∨ q = 4 := by omega
    rcases this with rfl | rfl | rfl | rfl <;> exact ⟨by decide +kernel, by decide, by decide, by decide, by decide⟩
  · unfold roomB
    rw [if_pos rfl]
    simp
    omega
  · unfold allowB
    rw [hpl]
    simp only
    rw [e1.2, if_pos rfl, if_neg (by omega)]
    simp
    omega
theorem cl_wid (N : Nat) (h : N ≤ 31) : ∃ j : Nat, clV ((N : Int) + 1) = (j : Int) ∧ j < 8 ∧ (N : Int) + 1 ≤ widF j := by
  have : ∀ i : Fin 32, ∃ j : Fin 8, clV ((i.val : Int) + 1) = (j.val : Int) ∧ (i.val : Int) + 1 ≤ widF j.val := by decide +kernel
  obtain ⟨j, h1, h2⟩ := this ⟨N, by omega⟩
  exact ⟨j.val, h1, j.isLt, h2⟩
theorem bk_small {P : Int} {N pg i j : Nat} (hP : P = 4 ∨ P = 5) (hN : N ≤ 31) (hp : (pg : Int) < P) (hc : clV ((N : Int) + 1) = (j : Int)) (hj : j < 8) (hw : (N : Int) + 1 ≤ widF j) (hi : i < numF j) :
    BkF P N pg (((i : Int) * widF j).toNat) 1 (j : Int) 1 := by
  have hf : (i : Int) * widF j + widF j ≤ 64 := num_fit ⟨j, hj⟩ ⟨i, by have := num_le j hj; omega⟩ hi
  have hwb := widF_bd j hj
  have h0 : 0 ≤ (i : Int) * widF j := Int.mul_nonneg (by omega) (by omega)
  have hbeg : ∀ (j : Fin 8) (i : Fin 32), i.val < numF j.val → cellI ((j.val : Nat) : Int) ((i.val : Int) * widF j.val) = (i.val : Int) * widF j.val := by decide +kernel
  have hbe := hbeg ⟨j, hj⟩ ⟨i, by have := num_le j hj; omega⟩ hi
  simp only at hbe
  have hwid : widI (j : Int) = widF j := by unfold widI; rw [show clsB (j : Int) = true by unfold clsB; simp; omega, if_pos rfl, Int.toNat_natCast]
  generalize ho : ((i : Int) * widF j).toNat = off
  have ho' : (off : Int) = (i : Int) * widF j := by omega
  rw [← ho'] at hbe hf
  have hpl := bk_place' (P := P) (pg := pg) (off := off) hP hp (by omega)
  refine ⟨hp, by omega, ?_, ?_, ?_, ?_, ?_, by omega⟩
  · have : ∀ j : Fin 8, entB 1 (j.val : Int) 1 0 0 = true := by decide +kernel
    exact this ⟨j, hj⟩
  · have : ∀ j : Fin 8, edecOk (encE 1 (j.val : Int) 1 0 0) = true ∧ encE 1 (j.val : Int) 1 0 0 % 4 = 1 ∧ encE 1 (j.val : Int) 1 0 0 / 4 % 16 = (j.val : Int) ∧ (0 ≤ encE 1 (j.val : Int) 1 0 0 ∧ encE 1 (j.val : Int) 1 0 0 < 18446744073709551616) := by decide +kernel
    exact this ⟨j, hj⟩
  · unfold begB
    rw [if_pos rfl]
    simpa using hbe
  · unfold roomB
    rw [if_neg (by decide), hwid]
    simpa using hw
  · unfold allowB
    obtain ⟨e1, e2⟩ := pg_small ((N : Int) + 1) (by omega) (by omega)
    rw [hpl, e2, e1]
    simp
    omega
theorem bk_head (k : Int) (N : Nat) (hk : k = 2 ∨ k = 3) (hN : N ≤ 255) : headB 0 k N = true ∧ U64 (encH 0 k N) ∧ hdE (encH 0 k N) = 0 ∧ hdC (encH 0 k N) = 0 ∧ hdK (encH 0 k N) = k ∧ hdN (encH 0 k N) = (N : Int) ∧ fitI [] 0 k N = true ∧ wordsV 0 k N = (N : Int) + 1 := by
  have hh : headB 0 k (N : Int) = true := by unfold headB; rcases hk with rfl | rfl <;> (simp [inB]; omega)
  have e1 : encH 0 k (N : Int) % 256 = k := by unfold encH; rcases hk with rfl | rfl <;> omega
  have e2 : encH 0 k (N : Int) / 256 % 256 = 0 := by unfold encH; rcases hk with rfl | rfl <;> omega
  have e3 : encH 0 k (N : Int) / 65536 % 256 = (N : Int) := by unfold encH; rcases hk with rfl | rfl <;> omega
  have hd : decOk (encH 0 k (N : Int)) = true := by unfold decOk; rw [e1, e2, e3, hh]; simp
  refine ⟨hh, ⟨by unfold encH; rcases hk with rfl | rfl <;> omega, by unfold encH; rcases hk with rfl | rfl <;> omega⟩, ?_, ?_, ?_, ?_, ?_, ?_⟩
  · unfold hdE; rw [hd]; rfl
  · unfold hdC; rw [hd, e2]; rfl
  · unfold hdK; rw [hd, e1]; rfl
  · unfold hdN; rw [hd, e3]; rfl
  · unfold fitI validI
    rcases hk with rfl | rfl <;> (simp; omega)
  · unfold wordsV; rw [hh]; rfl
theorem bit_set (A : Int) (off : Nat) (hA : U64 A) (ho : off ≤ 63) : bitB (bits .or .u64 A ((2 ^ off : Nat) : Int)) (off : Int) = true := by
  have hor : U64 (bits .or .u64 A ((2 ^ off : Nat) : Int)) := by
    obtain ⟨n, rfl⟩ := Int.eq_ofNat_of_zero_le hA.1
    have h2 : 2 ^ off < 2 ^ 64 := Nat.pow_lt_pow_right (by decide) (by omega)
    have hn : n < 2 ^ 64 := by have := hA.2; omega
    rw [bits_or_u64_nat _ _ (by omega) (by omega)]
    have := Nat.or_lt_two_pow hn h2
    exact ⟨by omega, by omega⟩
  obtain ⟨n, rfl⟩ := Int.eq_ofNat_of_zero_le hA.1
  have h2 : 2 ^ off < 2 ^ 64 := Nat.pow_lt_pow_right (by decide) (by omega)
  have hn : n < 2 ^ 64 := by have := hA.2; omega
  rw [bits_or_u64_nat _ _ (by omega) (by omega)] at hor ⊢
  have hbb : bitB (((n ||| 2 ^ off : Nat) : Nat) : Int) (off : Int) = !(bits .and .u64 (((n ||| 2 ^ off : Nat) : Int) / 2 ^ off) 1 == 0) := by unfold bitB; rw [Int.toNat_natCast]
  rw [hbb]
  have hp : (2 : Int) ^ off = ((2 ^ off : Nat) : Int) := by push_cast; rfl
  have hdl := Nat.div_le_self (n ||| 2 ^ off) (2 ^ off)
  have hU : U64 (((n ||| 2 ^ off) / 2 ^ off : Nat) : Int) := by
    generalize n ||| 2 ^ off = q at *
    generalize q / 2 ^ off = y at *
    have := hor.2
    exact ⟨by omega, by omega⟩
  rw [hp, ← Int.natCast_ediv, and_one _ hU]
  have ht : (n ||| 2 ^ off).testBit off = true := by rw [Nat.testBit_or, Nat.testBit_two_pow_self, Bool.or_true]
  rw [Nat.testBit_eq_decide_div_mod_eq] at ht
  have := of_decide_eq_true ht
  have e : (((n ||| 2 ^ off) / 2 ^ off : Nat) : Int) % 2 = 1 := by omega
  rw [e]; rfl
end Go.Proofs.YtohmnjejchppkaaDoor
/- The law's own example, its walk. Condition: sizes' table lies as the start lays it. -/
namespace Go.Proofs.YtohmnjejchppkaaDoor
open Go.RowKit
set_option linter.unusedVariables false
/-- the plan's box, what is no longer written -/
structure BoS (w : World) (W : World) : Prop where
  pl : Blk W w.heap.size #[.int .i64 1, .int .i64 1, .int .i64 1] 28
  bel : Below w.heap.size w W
theorem BoS.grew {w W W' : World} (h : BoS w W) (hb : Below W.heap.size W W') : BoS w W' := ⟨h.pl.grew hb, h.bel.trans (hb.mono h.bel.size)⟩
theorem BoS.touch {R : Nat → Prop} {w W W' : World} (h : BoS w W) (hT : Touch R W W') (hR : ∀ b, R b → w.heap.size < b) : BoS w W' :=
  ⟨h.pl.touch hT (fun e => Nat.lt_irrefl _ (hR _ e)), h.bel.trans (hT.below h.bel.size (fun b hb => Nat.le_of_lt (hR b hb)))⟩
theorem BoS.three {w W : World} (h : BoS w W) : W.cell? ⟨w.heap.size, 0, none⟩ = some (.int .i64 1) ∧ W.cell? ⟨w.heap.size, 1, none⟩ = some (.int .i64 1) ∧ W.cell? ⟨w.heap.size, 2, none⟩ = some (.int .i64 1) := h.pl.three.1
theorem nil_classes (w : World) (B : Nat) : RdRow 2 (ElC B) B w (.slice none 0 0) [] := ⟨none, 0, rfl, by simp, fun i hi => absurd hi (by simp)⟩
theorem encE_U : U64 (encE 1 0 1 0 0) := ⟨by decide, by decide⟩
theorem b_rd (X : World) : RdRow 2 ElW (X.alloc (.cells #[.int .i64 22, .int .u64 (encE 1 0 1 0 0), .int .i64 23, .int .u64 4] 48)).heap.size (X.alloc (.cells #[.int .i64 22, .int .u64 (encE 1 0 1 0 0), .int .i64 23, .int .u64 4] 48)) (.slice (some ⟨X.heap.size, 0, none⟩) 2 2) bW := by
  have k1 := Blk.new X #[.int .i64 22, .int .u64 (encE 1 0 1 0 0), .int .i64 23, .int .u64 4] 48
  refine ⟨some ⟨X.heap.size, 0, none⟩, 2, rfl, by unfold maxLen; simp [bW], fun i hi => ⟨X.heap.size, 0, rfl, by simp, ?_⟩⟩
  match i, hi with
  | 0, _ => exact ⟨k1.val 0 rfl, k1.val 1 rfl, encE_U⟩
  | 1, _ => exact ⟨k1.val 2 rfl, k1.val 3 rfl, (show U64 (4 : Int) from ⟨by decide, by decide⟩)⟩
  | i + 2, h => exact absurd h (by simp [bW])
theorem Ary.addsO {w w' : World} {B a c : Nat} {cs : List Int} {n : Nat} {K L : List Nat} (h : Ary w B a c cs n K) (hb : Below w.heap.size w w') (hL : ∀ m ∈ L, w.heap.size ≤ m ∧ m < w'.heap.size) : Ary w' B a c cs n (L ++ K) := by
  obtain ⟨xs, ⟨lv, hL', hg⟩, h1, h2, h3, h4, h5, h6⟩ := h
  have la := hL'.at'.own.lt
  have lc := hL'.at'.row.lt
  have lg := fun g hg => (hL'.own.lt g hg).2
  refine ⟨xs, ⟨lv, hL'.grew hb, fun g e r => ?_⟩, fun r => ?_, fun r => ?_, fun b r => ?_, h4, h5, Nat.le_trans h6 hb.size⟩
  · rcases List.mem_append.1 r with r | r
    · have := hL g r; have := lg g e; omega
    · exact hg g e r
  · rcases List.mem_append.1 r with r | r
    · have := hL a r; omega
    · exact h1 r
  · rcases List.mem_append.1 r with r | r
    · have := hL c r; omega
    · exact h2 r
  · rcases List.mem_append.1 r with r | r
    · exact (hL b r).2
    · exact Nat.lt_of_lt_of_le (h3 b r) hb.size
/-- all blocks that came between two worlds -/
def between (m n : Nat) : List Nat := (List.range n).filter fun b => decide (m ≤ b)
theorem mem_between {m n b : Nat} : b ∈ between m n ↔ m ≤ b ∧ b < n := by unfold between; simp; omega
set_option maxRecDepth 100000 in
set_option maxHeartbeats 8000000 in
theorem built_any (w : World) (hW : Wid w) :
    Calls Tryd.prog 4 #[] w fun e w' => e = .returned (.bool true) ∧ Below w.heap.size w w' := by
  have WI := Lib.hid (fun W (hb : Below w.heap.size w W) => hW.below hb hW.lt)
  have EN := Lib.hid (fun W => reenc_yes 1 0 1 0 0 W b_ent)
  have DR := Lib.hid (fun W => draw_yes 1 1 1 W b_right)
  unfold mapV at DR
  rw [b_base, b_tab] at DR
  have LY := Lib.hid (fun W v (hl : RdRow 2 ElW W.heap.size W v bW) => olay_yes 1 1 1 v bW W b_right hl)
  unfold OLay at LY
  rw [bN, bW300, show layL 128 bW = bC0 from rfl] at LY
  have NB := Lib.hid (fun W => newbuild_yes 1 1 1 0 2 1 66 W b_head b_allow)
  unfold NbPost at NB
  have PE := Lib.hid (fun W => mpage_any 1 1 1 64 22 128 0 W)
  have PA := Lib.hid (fun W => malloc_any 1 1 1 64 22 128 0 W)
  rw [show wrap64 (22 + 0) = 22 by kernel_rfl] at PE
  rw [show wrap64 (wrap64 (22 + 1) + 0) = 23 by kernel_rfl] at PA
  have hS : BoS w (w.alloc (.cells #[.int .i64 1, .int .i64 1, .int .i64 1] 28)) := ⟨Blk.new _ _ _, (Below.refl _ _).alloc (Nat.le_refl _) _⟩
  clear hW
  go_enter Tryd.func4, Tryd.ntmps4
  go_wp2_with fail
  generalize hw0 : w.alloc (.cells #[.int .i64 1, .int .i64 1, .int .i64 1] 28) = w0 at *
  clear hw0
  refine (EN.out _).mono ?_; rintro e w1 ⟨rfl, hb1⟩
  have hS1 := hS.grew hb1
  obtain ⟨g0, g1, g2⟩ := hS1.three
  clear hS hb1 EN
  go_wp2_with fail
  refine (DR.out _).mono ?_; rintro e w2 ⟨rfl, hb2⟩
  have hS2 := hS1.grew hb2
  clear hS1 hb2 DR g0 g1 g2
  go_upto_region 4 with fail
  have hM := sixNew w2 1 1 1 64 22 128 32
  have hS3 := hS2.grew ((Below.refl _ _).alloc (Nat.le_refl _) (.cells #[.int .i64 1, .int .i64 1, .int .i64 1, .int .i64 64, .int .i64 22, .int .i64 128] 32))
  clear hS2
  generalize hw3 : w2.alloc (.cells #[.int .i64 1, .int .i64 1, .int .i64 1, .int .i64 64, .int .i64 22, .int .i64 128] 32) = w3 at *
  clear hw3
  generalize w2.heap.size = bm at *
  have SQ := Lib.hid (fun W (hb : Below w3.heap.size w3 W) => show (W.cell? ⟨w.heap.size, 0, none⟩ = some (.int .i64 1) ∧ W.cell? ⟨w.heap.size, 1, none⟩ = some (.int .i64 1) ∧ W.cell? ⟨w.heap.size, 2, none⟩ = some (.int .i64 1)) ∧ (W.cell? ⟨bm, 0, none⟩ = some (.int .i64 1) ∧ W.cell? ⟨bm, 1, none⟩ = some (.int .i64 1) ∧ W.cell? ⟨bm, 2, none⟩ = some (.int .i64 1) ∧ W.cell? ⟨bm, 3, none⟩ = some (.int .i64 64) ∧ W.cell? ⟨bm, 4, none⟩ = some (.int .i64 22) ∧ W.cell? ⟨bm, 5, none⟩ = some (.int .i64 128)) from
    ⟨(hS3.grew hb).three, (hM.grew hb).six.1⟩)
  have B3 : Below w3.heap.size w3 w3.drew := Quiet.below ⟨1, rfl⟩
  have KB := Lib.hid (fun (A C : World) (hb : Below A.heap.size A C) (h : Below w3.heap.size w3 A) => h.trans (hb.mono h.size))
  have KC := Lib.hid (fun (A C : World) (hb : Below A.heap.size A C) (h : Below w3.heap.size w3 A) => h.size)
  have hlt0 : w.heap.size < w3.heap.size := hS3.pl.lt
  have KA := Lib.hid (fun (A : World) (o : Obj) (h : Below w3.heap.size w3 A) => h.alloc h.size o)
  go_region_held3 (fun W => ((W.cell? ⟨w.heap.size, 0, none⟩ = some (.int .i64 1) ∧ W.cell? ⟨w.heap.size, 1, none⟩ = some (.int .i64 1) ∧ W.cell? ⟨w.heap.size, 2, none⟩ = some (.int .i64 1)) ∧ (W.cell? ⟨bm, 0, none⟩ = some (.int .i64 1) ∧ W.cell? ⟨bm, 1, none⟩ = some (.int .i64 1) ∧ W.cell? ⟨bm, 2, none⟩ = some (.int .i64 1) ∧ W.cell? ⟨bm, 3, none⟩ = some (.int .i64 64) ∧ W.cell? ⟨bm, 4, none⟩ = some (.int .i64 22) ∧ W.cell? ⟨bm, 5, none⟩ = some (.int .i64 128))) ∧ Below w3.heap.size w3 W)
    (first | (with_reducible exact ⟨SQ.out _ B3, B3⟩) | (with_reducible exact ⟨SQ.out _ hg7, hg7⟩) | (have hg := KB.out _ _ (by assumption) (And.right (by assumption)); exact ⟨SQ.out _ hg, hg⟩) | (exact ⟨SQ.out _ (KA.out _ _ (And.right (by assumption))), KA.out _ _ (And.right (by assumption))⟩))
    (first
      | (go_at_call 11; refine (PE.out _).mono ?_; rintro e w4 ⟨rfl, hb4⟩)
      | (go_at_call 21; refine (PA.out _).mono ?_; rintro e w5 ⟨rfl, hb5⟩)
      | (go_at_call 10; refine (LY.out _ _ (b_rd _)).mono ?_; rintro e w7 ⟨a, c, d, rfl, hL, hd⟩; have hg7 := KB.out _ _ hL.bel (And.right (by assumption)); have hg6 := KC.out _ _ hL.bel (And.right (by assumption))))
  have hS7 := hS3.grew hg7
  have hA7 := hL.ary
  clear hL SQ KB KA KC hM hS3 hg7 B3 PE PA LY
  generalize Array.size (World.heap (World.alloc _ _)) = B0 at *
  have hB0 : w.heap.size < B0 := by omega
  clear hg6 hlt0 hd
  go_wp2_with fail
  refine (port_yes a 0 _ (by decide) (by decide)).mono ?_; rintro e w8 ⟨p, rfl, hP8, hp, hb8⟩
  have hA8 := hA7.addsO (L := [p]) hb8 (by simp; exact ⟨hp, hP8.lt⟩)
  have hS8 := hS7.grew hb8
  have hp0 : B0 ≤ p := Nat.le_trans hA7.bw hp
  clear hA7 hS7 hb8 hp
  obtain ⟨g0, g1, g2⟩ := hS8.three
  go_wp2_with fail
  refine (oplan_any 1 1 1 _).mono ?_; rintro e w9 ⟨rfl, hb9⟩
  have hA9 := hA8.grew hb9
  have hP9 := Blk.grew hP8 hb9
  have hS9 := hS8.grew hb9
  clear hA8 hP8 hS8 hb9 g0 g1 g2
  go_wp2_with fail
  refine (NB.out _).mono ?_; rintro e w10 ⟨m, rfl, hM10, hm, hb10⟩
  have hpl : p < w9.heap.size := Blk.lt hP9
  have hA10 := hA9.addsO (L := [m]) hb10 (by simp; exact ⟨hm, Blk.lt hM10⟩)
  have hP10 := Blk.grew hP9 hb10
  have hS10 := hS9.grew hb10
  have hB9 := hA9.bw
  have hm0 : B0 ≤ m := Nat.le_trans hB9 hm
  have hmp : m ≠ p := by omega
  clear hA9 hP9 hS9 hb10 NB
  go_wp2_with fail
  refine (new_any w10 w10.heap.size _ [] (nil_classes _ _) (Nat.le_refl _)).mono ?_
  rintro e w11 ⟨hb11, hcase⟩
  rcases hcase with ⟨hne, _⟩ | ⟨_, tb, tv, tm, L, rfl, hT11, hL11⟩
  · exact absurd (by kernel_rfl) hne
  have hA11 := hA10.addsO (L := between w10.heap.size w11.heap.size) hb11 (fun b hb => mem_between.1 hb)
  have hP11 := Blk.grew hP10 hb11
  have hM11 := Blk.grew hM10 hb11
  have hS11 := hS10.grew hb11
  have hml : m < w10.heap.size := Blk.lt hM10
  have hlo : w10.heap.size ≤ w11.heap.size := hb11.size
  clear hA10 hP10 hM10 hS10 hb11
  obtain ⟨xs0, hX11⟩ := hA11
  have hU0 : BuS w11 B0 a c p m 66 (encH 0 2 1) (1 + 1) bC0 xs0 0 (between w10.heap.size w11.heap.size ++ ([m] ++ ([p] ++ [d]))) 0 false w11 := ⟨hM11, hX11, hP11, Touch.refl _ _⟩
  clear hX11 hM11 hP11
  have HT := Lib.hid hT11
  have HS := Lib.hid hS11
  have HL := Lib.hid hL11
  clear hT11 hS11 hL11
  have hmK : m ∈ between w10.heap.size w11.heap.size ++ ([m] ++ ([p] ++ [d])) := by simp
  have hpK : p ∈ between w10.heap.size w11.heap.size ++ ([m] ++ ([p] ++ [d])) := by simp
  have HK := Lib.hid (show ∀ b, w10.heap.size ≤ b → b < w11.heap.size → b ∈ between w10.heap.size w11.heap.size ++ ([m] ++ ([p] ++ [d])) from fun b h1 h2 => List.mem_append_left _ (mem_between.2 ⟨h1, h2⟩))
  generalize between w10.heap.size w11.heap.size ++ ([m] ++ ([p] ++ [d])) = K at *
  have G := Lib.hid (fun W left cs xs n o (h : BuS w11 B0 a c p m 66 (encH 0 2 1) left cs xs n K 0 o W) => h.grant hmp hpK)
  have lb0 : bC0.length = 128 := by kernel_rfl
  have lb1 : bC1.length = 128 := by kernel_rfl
  have S1 := Lib.hid (fun W xs (h : BuS w11 B0 a c p m 66 (encH 0 2 1) (1 + 1) bC0 xs 0 K 0 true W) => (bstep_more 1 h (by decide) (by decide) (by decide) hmp hmK hpK (by decide) (by rw [lb0]; decide)).mono (R' := fun e w' => e = .returned (.bool false) ∧ ∃ xs, BuS w11 B0 a c p m 66 (encH 0 2 1) 1 bC1 xs 1 K 0 false w') fun _ _ ⟨he, h⟩ => ⟨he, _, h⟩)
  have S2 := Lib.hid (fun W xs (h : BuS w11 B0 a c p m 66 (encH 0 2 1) 1 bC1 xs 1 K 0 true W) => (bstep_last h hmp hmK hpK (by decide) (by rw [lb1]; decide)).mono (R' := fun e w' => e = .returned (.bool true) ∧ ∃ xs, BuS w11 B0 a c p m 66 (encH 0 2 1) 0 bC2 xs 2 K 0 false w') fun _ _ ⟨he, h⟩ => ⟨he, _, h⟩)
  have LK := Lib.hid (fun W (hA : Ary W B0 a c bC2 2 K) (hW : Wid W) (hT : TabS W w10.heap.size tb tv tm L) => look_yes (P := 1) (T := 1) (R := 1) 66 hA hW hT (by rw [bN]; exact b_len) b_U b_hold b_hdE (by rw [HL.out, b_hdC, b_hdK, b_hdN]; exact b_fit) (by rw [b_hdC, b_hdK, b_hdN]; exact b_fits) 1 b_hdN (by decide) (by rw [b_len]; decide))
  rw [b_hdC, b_hdK, b_lk] at LK
  unfold LkPost at LK
  clear lb0 lb1 HL
  have hlt1 : p < w10.heap.size := by omega
  generalize encH 0 2 1 = H at *
  replace hB0 := Lib.hid hB0
  replace hmp := Lib.hid hmp
  go_wp2_with fail
  go_loopw [15] (fun i wr => ∃ k : Int, (k = 0 ∧ (∃ xs, BuS w11 B0 a c p m 66 H (1 + 1) bC0 xs 0 K 0 false wr) ∨ k = 1 ∧ (∃ xs, BuS w11 B0 a c p m 66 H 1 bC1 xs 1 K 0 false wr) ∨ k = 2 ∧ (∃ xs, BuS w11 B0 a c p m 66 H 0 bC2 xs 2 K 0 false wr)) ∧ i = .int .i64 k) (fun i _ => (2 - intOf i).toNat)
  case atStart => exact ⟨0, .inl ⟨rfl, _, hU0⟩, rfl⟩
  case round =>
    clear hU0
    obtain ⟨k, (⟨rfl, xs, hU⟩ | ⟨rfl, xs, hU⟩ | ⟨rfl, xs, hU⟩), rfl⟩ := hrel
    · go_wp2_with fail
      refine (G.out _ _ _ _ _ _ hU).mono ?_; rintro e wa ⟨⟨u1, rfl⟩, h2⟩
      go_wp2_with fail
      refine (S1.out _ _ h2).mono ?_; rintro e wb ⟨rfl, h3⟩
      go_wp2
      go_roundw
      case rel => exact ⟨1, .inr (.inl ⟨rfl, h3⟩), by go_num⟩
      case measure => simp [intOf]
    · go_wp2_with fail
      refine (G.out _ _ _ _ _ _ hU).mono ?_; rintro e wa ⟨⟨u1, rfl⟩, h2⟩
      go_wp2_with fail
      refine (S2.out _ _ h2).mono ?_; rintro e wb ⟨rfl, h3⟩
      go_wp2
      go_roundw
      case rel => exact ⟨2, .inr (.inr ⟨rfl, h3⟩), by go_num⟩
      case measure => simp [intOf]
    · have hT := HT.out.touch hU.touch (fun g h1 h2 h3 => by
        rcases h3 with rfl | rfl | ⟨_, h3⟩
        · omega
        · omega
        · exact h3 (HK.out g h1 h2))
      have hS := HS.out.touch hU.touch (fun b hb => by
        have := hB0.out
        rcases hb with rfl | rfl | ⟨hb, _⟩ <;> omega)
      have hA : Ary wr B0 a c bC2 2 K := ⟨_, hU.arx⟩
      have hM := hU.mach
      clear hU G S1 S2 HT HS
      obtain ⟨g0, g1, g2⟩ := hS.three
      go_wp2_with fail
      refine (oplan_any 1 1 1 _).mono ?_; rintro e wx ⟨rfl, hbx⟩
      have hTx := hT.grew hbx
      have hSx := hS.grew hbx
      have hAx := hA.grew hbx
      have hMx := Blk.grew hM hbx
      clear hT hS hA hM hbx g0 g1 g2
      go_wp2_with fail
      refine (LK.out _ hAx (WI.out _ hSx.bel) hTx).mono ?_
      rintro e wy ⟨u, rfl, hou, hby⟩
      have hSy := hSx.grew hby
      have hMy := Blk.grew hMx hby
      clear hTx hSx hAx hMx hby LK
      obtain ⟨g', cap, cur, rfl, hcell⟩ : ∃ g cap, ∃ cur : Unit, u = .slice (some ⟨g, 0, none⟩) 1 cap ∧ wy.cell? ⟨g, 0, none⟩ = some (.int .i64 0) := by
        rcases hou.2 with ⟨h1, h2⟩ | ⟨g, cap, cur, h1, _⟩
        · exact absurd h2 (by simp)
        · refine ⟨g, cap, (), h1, ?_⟩
          subst h1
          have := hou.cellAt 0 (by simp)
          exact this
      have hZ := Blk.new wy #[.int .i64 66, .int .i64 0, .int .i64 2, .slice (some ⟨g', 0, none⟩) 1 cap] 70
      have hbz : Below wy.heap.size wy (wy.alloc (.cells #[.int .i64 66, .int .i64 0, .int .i64 2, .slice (some ⟨g', 0, none⟩) 1 cap] 70)) := (Below.refl _ _).alloc (Nat.le_refl _) _
      have hSz := hSy.grew hbz
      have hMz := Blk.grew hMy hbz
      have z0 := hZ.val 0 rfl
      have z2 := hZ.val 2 rfl
      have z3 := hZ.val 3 rfl
      have zc := (hbz.cell (p := ⟨g', 0, none⟩) (World.block_lt_of_cell? wy _ hcell)).trans hcell
      clear hou hSy hMy hbz hcell hZ
      go_wp2_with fail
      refine (bover_any hMz).mono ?_; rintro e wf ⟨rfl, hqf⟩
      have y0 := (hqf.cell _).trans z0
      have y2 := (hqf.cell _).trans z2
      have y3 := (hqf.cell _).trans z3
      have yc := (hqf.cell _).trans zc
      have hBf := hSz.bel.trans hqf.below
      clear hSz hMz hqf z0 z2 z3 zc
      go_wp2
      go_ret
      exact ⟨rfl, hBf⟩
end Go.Proofs.YtohmnjejchppkaaDoor
/- What slices.Clone returns at a slice of words, and Image of an arena. Condition: the cells are there. -/
namespace Go.Proofs.YtohmnjejchppkaaDoor
open Go.RowKit
def ClonePost (zs : List Int) (w : World) (e : Ending) (w' : World) : Prop :=
  ∃ v, e = .returned v ∧ w'.ownsRow w.heap.size 26 1 v zs.length (zs.map (Value.int .u64)) ∧ Below w.heap.size w w'
set_option maxRecDepth 100000 in
set_option maxHeartbeats 1000000 in
theorem clone_row (b o cap : Nat) (zs : List Int) (w : World) (h0 : 0 < zs.length) (hm : zs.length ≤ 1000000) (hc : Hid (∀ i, i < zs.length → w.cell? ⟨b, o + i, none⟩ = some (.int .u64 (zs.getD i 0)))) :
    Calls Tryd.prog 33 #[.slice (some ⟨b, o, none⟩) zs.length cap] w (ClonePost zs w) := by
  obtain ⟨i0, hi, hz0, hz1, hz2⟩ := info_parts info_u64
  have hn := fun W => Lib.run_eql_slice_nil (P := Tryd.prog) W 43 26 (some ⟨b, o, none⟩) zs.length cap 0 0 Tryd.underlying43
  go_enter Tryd.func33, Tryd.ntmps33
  go_wp2_with (at_builtin; refine wpList_append_own_at _ rfl _ _ 43 rfl w.heap.size 26 i0 (.int .u64 0) 1 8 Tryd.underlying43 hi hz0 hz1 hz2 rfl (by decide) _ _ _ rfl (World.ownsRow_made w #[] 0 (Nat.le_refl _) (by decide) rfl) ⟨b, o, none⟩ zs.length cap (zs.map (Value.int .u64)) rfl (by simp) ?c1 ?c2 ?c3 ?c4 ?c5 ?_)
  case c1 =>
    intro j u hu
    have hj : j < zs.length := by
      rcases Nat.lt_or_ge j zs.length with h | h
      · exact h
      · rw [List.getElem?_eq_none (by simpa using h)] at hu; cases hu
    have e1 : (⟨b, o, none⟩ : Addr).add j = ⟨b, o + j, none⟩ := by unfold Addr.add; split <;> simp_all
    have hu' : u = .int .u64 (zs.getD j 0) := by
      simp [hj] at hu
      simp [List.getD_eq_getElem?_getD, hj, hu]
    have hcj := hc.out j hj
    rw [e1, World.cell?_alloc_lt _ _ _ (World.block_lt_of_cell? w _ hcj), hcj, hu']
  case c2 =>
    intro u hu
    simp at hu
    obtain ⟨x, _, rfl⟩ := hu
    rfl
  case c3 => unfold maxLen; omega
  case c4 => omega
  case c5 => simp
  intro v' w2 hown2 hgrow _ _
  have hb : Below w.heap.size w w2 := ((Below.refl _ _).alloc (Nat.le_refl _) _).grown hgrow (by simp) (fun k hk => by have : w.heap.size = k := Option.some.inj hk; omega)
  clear hn
  go_wp2
  go_ret
  exact ⟨v', rfl, hown2, hb⟩
def ImagePost (cs : List Int) (w : World) (e : Ending) (w' : World) : Prop :=
  ∃ v, e = .returned v ∧ w'.ownsRow w.heap.size 26 1 v cs.length (cs.map (Value.int .u64)) ∧ Below w.heap.size w w'
set_option maxHeartbeats 400000 in
theorem image_nil (w : World) :
    Calls Tryd.prog 12 #[.pointer none] w fun e w' => e = .returned (.slice none 0 0) ∧ Quiet w w' := by
  go_enter Tryd.func12, Tryd.ntmps12
  go_wp2
  go_ret
  exact ⟨rfl, Quiet.refl _⟩
set_option maxHeartbeats 400000 in
theorem image_at (a c : Nat) (cs : List Int) (keep : Bool) (lv : Value) (n f : Int) (w : World) (hA : ArenaAt w a c cs keep lv n f) (h0 : 0 < cs.length) (hm : cs.length ≤ 1000000) :
    Calls Tryd.prog 12 #[.pointer (some ⟨a, 0, none⟩)] w (ImagePost cs w) := by
  have c0 := hA.c0
  have T := Lib.hid (clone_row c 0 cs.length cs w h0 hm (fun i hi => by rw [Nat.zero_add]; exact hA.cell i hi))
  clear hA
  go_enter Tryd.func12, Tryd.ntmps12
  go_wp2_with (go_at_call 33; refine T.out.mono ?_; rintro e w1 ⟨v, rfl, hown, hb⟩)
  go_ret
  exact ⟨v, rfl, hown, hb⟩
end Go.Proofs.YtohmnjejchppkaaDoor
/- ObjectsBack: rows of words: the argument's first ones, and one more. No condition. -/
namespace Go.Proofs.YtohmnjejchppkaaDoor
open Go.RowKit
set_option linter.unusedVariables false
def wdC (x : Int × Int) : List Value := [.int .i64 x.1, .int .u64 x.2]
theorem info_word : (Tryd.prog.info? 48).map (fun i => (i.zero, i.size, i.bytes)) = some (some (.agg #[.int .i64 0, .int .u64 0]), 2, 16) := by kernel_rfl
theorem RdRow.takeO {α : Type} {sz B : Nat} {el : World → Nat → Nat → α → Prop} {w : World} {a : Option Addr} {n c : Nat} {l : List α} (h : RdRow sz el B w (.slice a n c) l) (k : Nat) (hk : k ≤ n) : RdRow sz el B w (.slice a k c) (l.take k) ∧ (l.take k).length = k := by
  obtain ⟨a', c', hv, hm, hall⟩ := h
  injection hv with e1 e2 e3
  subst e1 e2 e3
  have hlen : (l.take k).length = k := by rw [List.length_take]; omega
  refine ⟨⟨a, c, by rw [hlen], by omega, fun i hi => ?_⟩, hlen⟩
  obtain ⟨b, o, h1, h2, h3⟩ := hall i (by omega)
  exact ⟨b, o, h1, h2, by rw [List.getElem_take]; exact h3⟩
theorem wd_el {w : World} {b k : Nat} {x : Int × Int} (h : ElW w b k x) : ∀ j u, (wdC x)[j]? = some u → w.cell? ⟨b, k + j, none⟩ = some u := by
  obtain ⟨h1, h2, _⟩ := h
  intro j u hu
  match j, hu with
  | 0, hu => simp [wdC] at hu; subst hu; exact h1
  | 1, hu => simp [wdC] at hu; subst hu; exact h2
  | j + 2, hu => simp [wdC] at hu
theorem wd_one : ∀ l : List (Int × Int), ∀ u ∈ l.flatMap wdC, u.oneCell' = true := by
  intro l u hu
  obtain ⟨x, _, hx⟩ := List.mem_flatMap.1 hu
  simp [wdC] at hx
  rcases hx with rfl | rfl <;> rfl
theorem own_words {w : World} {b B : Nat} {v : Value} {l : List (Int × Int)} (h : w.ownsRow b 48 2 v l.length (l.flatMap wdC)) (hB : w.heap.size ≤ B) (hU : ∀ x ∈ l, U64 x.2) : RdRow 2 ElW B w v l :=
  own_rd (f := wdC) (by decide) (fun _ => rfl) h hB fun g k x hx hc => ⟨by simpa using hc 0 _ rfl, hc 1 _ rfl, hU x hx⟩
theorem app_own0B {e t : TypeId} {sz bytes : Nat} {z : Value} {i0 : TypeInfo} (ht : Tryd.prog.underlying t = some (.slice e)) (hi : Tryd.prog.info? e = some i0) (hz : i0.zero = some z) (hs : i0.size = sz) (hb : i0.bytes = bytes) (hzs : z.cells.size = sz) (hsz : 0 < sz)
    (w : World) (ty : TypeId) (lo G : Nat) (hlo : lo ≤ w.heap.size) (hlG : lo ≤ G) (hown : w.ownsRow lo e sz (.slice (some ⟨G, 0, none⟩) 0 0) 0 []) (a : Option Addr) (n c : Nat) (news : List Value) (hl : news.length = n * sz) (h1 : ∀ u ∈ news, u.oneCell' = true) (hnews : ∀ j u, news[j]? = some u → ∃ ad, a = some ad ∧ w.cell? (ad.add j) = some u) (hn : n ≤ 1000) (hby : bytes ≤ 1000) :
    ∃ v' w', (Builtin.append_ #[t, t] ty #[.slice (some ⟨G, 0, none⟩) 0 0, .slice a n c]).run Tryd.prog w = .ok v' w' ∧ w'.ownsRow lo e sz v' n news ∧ Below lo w w' ∧ w.grownBy w' (some G) := by
  cases a with
  | none =>
    have hn0 : n = 0 := by
      rcases Nat.eq_zero_or_pos n with h | h
      · exact h
      · have h2 : 0 < news.length := by rw [hl]; exact Nat.mul_pos h hsz
        obtain ⟨ad, h3, _⟩ := hnews 0 _ (List.getElem?_eq_getElem h2)
        cases h3
    subst hn0
    have hnn : news = [] := List.eq_nil_of_length_eq_zero (by omega)
    subst hnn
    refine ⟨.slice (some ⟨G, 0, none⟩) 0 0, w, ?_, hown, Below.refl _ _, ⟨rfl, rfl, rfl, Nat.le_refl _, fun _ _ _ => rfl⟩⟩
    have ht' := run_underlying (P := Tryd.prog) (w := w) ht
    simp [Builtin.append_, ht', sizeOf, typeInfo, hi, Builtin.lenOf, Builtin.firstCells, storeCells]
  | some ad =>
    obtain ⟨v', w', hr, h2, h3, _⟩ := run_append_own_at (P := Tryd.prog) w lo t ty e i0 z sz bytes ht hi hz hs hb hzs hsz (.slice (some ⟨G, 0, none⟩) 0 0) 0 [] hown ad n c news hl (fun j u hu => by
      obtain ⟨ad', e1, e2⟩ := hnews j u hu
      obtain rfl := Option.some.inj e1
      exact e2) h1 (by unfold maxLen; omega) (by
        have : (0 + n) * bytes ≤ 1000 * 1000 := Nat.mul_le_mul (by omega) hby
        omega) hlo
    exact ⟨v', w', hr, by simpa using h2, (Below.refl _ _).grown h3 hlo (fun k hk => by have : G = k := Option.some.inj hk; omega), h3⟩
theorem step_appB {ops : Array Oper} {o : Oper} {a : Act} {w : World} {K : Act → World → Prop} {Q : Exit → Act → World → Prop} {E : Prop} {t : TypeId} {vs vin : Value} {R : Value → World → Prop} (hgd : o.guard = none) (s x : Operand)
    (ho : o.op = .call { callee := .builtin .append, args := #[s, x], argTypes := #[t, t] }) (hs : a.eval s = vs) (hx : a.eval x = vin)
    (hr : ∃ v' w', (Builtin.append_ #[t, t] o.type #[vs, vin]).run Tryd.prog w = .ok v' w' ∧ R v' w')
    (h : ∀ v' w', R v' w' → K (a.put o.dst v') w') : if Region.wanted o (yielded ops a.tmps) = true then Oper.wp Tryd.prog o a w K Q else E := by
  have hw : Region.wanted o (yielded ops a.tmps) = true := by simp [Region.wanted, hgd]
  rw [if_pos hw]
  obtain ⟨v', w', h1, h2⟩ := hr
  unfold Oper.wp execOp
  simp only [ho, resolve, invoke, builtin, Sem.run_bind, Sem.run_pure, Result.andThen_ok, List.map_toArray, List.map_cons, List.map_nil, hs, hx, h1]
  exact h v' w' h2
theorem layAt_in {N i : Nat} (h : i < N) (hN : N ≤ 1000000) : layAt N (i : Int) = i := by
  unfold layAt
  have e : IntKind.u64.wrap (i : Int) = i := by rw [IntKind.wrap_u64]; omega
  rw [e, Int.emod_eq_of_lt (by omega) (by omega)]
  omega
theorem lay_more {N i : Nat} {l : List (Int × Int)} {E : Int} (h : i < N) (hN : N ≤ 1000000) (hl : l.length ≤ 200) : layL N ((l ++ [((i : Int), E)]).take 300) = (layL N l).set i E := by
  rw [List.take_of_length_le (by rw [List.length_append, List.length_singleton]; omega), layL_snoc]
  show (layL N l).set (layAt N (i : Int)) E = _
  rw [layAt_in h hN]
end Go.Proofs.YtohmnjejchppkaaDoor
/- The iterator of a table's pointers, by their bound, for a caller whose memory lies ahead of the iterator's: whatever relation of worlds holds what it reads. No condition. -/
namespace Go.Proofs.YtohmnjejchppkaaDoor
open Go.RowKit
set_option linter.unusedVariables false
theorem ptrs_lt {cl : List ClsD} {c k : Int} {m j : Nat} (h : j ∈ ptrs cl c k m) : j < m := by
  unfold ptrs at h
  exact List.mem_range.1 (List.mem_filter.1 h).1
def ptrsF (cl : List ClsD) (c k : Int) (N m : Nat) : List (Fin N) := (ptrs cl c k m).filterMap fun j => if h : j < N then some ⟨j, h⟩ else none
def ptrFL (cl : List ClsD) (c k : Int) (N : Nat) : List (Fin N) := if fitI cl c k (N : Int) then ptrsF cl c k N N else []
abbrev ptrEncF {N : Nat} (i : Fin N) : Array Value := #[.int .i64 ((i.val : Nat) : Int)]
theorem ptrsF_yes {cl : List ClsD} {c k : Int} {N m : Nat} (hm : m < N) (h : refI cl c k (m : Nat) = true) : ptrsF cl c k N (m + 1) = ptrsF cl c k N m ++ [⟨m, hm⟩] := by
  unfold ptrsF; rw [ptrs_yes h, List.filterMap_append]; simp [hm]
theorem ptrsF_no {cl : List ClsD} {c k : Int} {N m : Nat} (h : refI cl c k (m : Nat) = false) : ptrsF cl c k N (m + 1) = ptrsF cl c k N m := by
  unfold ptrsF; rw [ptrs_no h]
theorem ptrsF_pre {N : Nat} (cl : List ClsD) (c k : Int) {m n : Nat} (h : m ≤ n) : ptrsF cl c k N m <+: ptrsF cl c k N n := by
  unfold ptrsF
  obtain ⟨r, hr⟩ := ptrs_pre cl c k h
  exact ⟨r.filterMap _, by rw [← hr, List.filterMap_append]⟩
theorem ptrsF_val {cl : List ClsD} {c k : Int} {N m : Nat} (h : m ≤ N) : (ptrsF cl c k N m).map (fun i => i.val) = ptrs cl c k m := by
  unfold ptrsF
  rw [List.map_filterMap]
  have : ∀ l : List Nat, (∀ j ∈ l, j < N) → l.filterMap (fun j => Option.map (fun i : Fin N => i.val) (if h : j < N then some ⟨j, h⟩ else none)) = l := by
    intro l
    induction l with
    | nil => intro _; rfl
    | cons a l ih =>
      intro hl
      have ha : a < N := hl a (by simp)
      rw [List.filterMap_cons]
      simp only [ha, dif_pos, Option.map_some]
      rw [ih (fun j hj => hl j (by simp [hj]))]
  exact this _ (fun j hj => Nat.lt_of_lt_of_le (ptrs_lt hj) h)
theorem ptrFL_val {cl : List ClsD} {c k : Int} {N : Nat} : (ptrFL cl c k N).map (fun i => i.val) = ptrL cl c k N := by
  unfold ptrFL ptrL
  cases fitI cl c k (N : Int) with
  | false => rfl
  | true => simp only [if_true, Int.toNat_natCast]; exact ptrsF_val (Nat.le_refl _)
end Go.Proofs.YtohmnjejchppkaaDoor
/- The reference's Pointers. Condition: the classes are there. -/
namespace Go.Proofs.YtohmnjejchppkaaDoor
open Go.RowKit
set_option linter.unusedVariables false
theorem fit_valid {cl : List ClsD} {c k n : Int} (hl : cl.length ≤ 16) (hf : ∀ d ∈ cl, d.fields.length ≤ 15) (q : fitI cl c k n = true) : validI c k n = true := by
  unfold fitI at q
  split at q
  next e =>
    split at q
    next d hd =>
      have hm := List.mem_of_getElem? hd
      have h1 := hf d hm
      have h2 := (List.getElem?_eq_some_iff.1 hd).1
      simp at q
      unfold validI
      rw [if_pos e]
      simp
      omega
    next => cases q
  next e => exact q
def natC (l : List Nat) : List Value := l.map fun j : Nat => Value.int .i64 (j : Int)
theorem info_intR : (Tryd.prog.info? 3).map (fun i => (i.zero, i.size, i.bytes)) = some (some (.int .i64 0), 1, 8) := by kernel_rfl
theorem ptrs_len (cl : List ClsD) (c k : Int) (m : Nat) : (ptrs cl c k m).length ≤ m := by
  unfold ptrs
  have := List.length_filter_le (fun i : Nat => refI cl c k (i : Nat)) (List.range m)
  simpa using this
end Go.Proofs.YtohmnjejchppkaaDoor
/- What Ints of the document returns at two slices of the same words. No condition. -/
namespace Go.Proofs.YtohmnjejchppkaaDoor
open Go.RowKit
end Go.Proofs.YtohmnjejchppkaaDoor
/- Boxes and rows of numbers, for the walk of ClassesMaps (out of WordBits' walk). No condition. -/
namespace Go.Proofs.YtohmnjejchppkaaDoor
open Go.RowKit Go.Shelf
set_option linter.unusedVariables false
attribute [local go_sem] Oper.semAt_some
theorem ownsRow_lowMapl {W : World} {base base' : Nat} {e : TypeId} {size : Nat} {v : Value} {k : Nat} {xs : List Value} (h : W.ownsRow base e size v k xs) (hb : base' ≤ base) : W.ownsRow base' e size v k xs := by
  refine ⟨h.1, ?_⟩
  rcases h.2 with h1 | ⟨g, cap, cur, h1, h2, h3⟩
  · exact .inl h1
  · exact .inr ⟨g, cap, cur, h1, Nat.le_trans hb h2, h3⟩
/-- an element more, the slice in its box -/
theorem appended_touch {W w1 : World} {base B : Nat} {t e : TypeId} {v v' : Value} {k m : Nat} {xs ys : List Value} {tmp : Obj} (hv : Boxed W B t v) (hte : t ≠ e) (hrow : W.ownsRow base e 1 v k xs) (hown' : w1.ownsRow base e 1 v' m ys) (hgrow : (W.alloc tmp).grownBy w1 v.ownBlock) :
    Boxed w1 B t v ∧ Boxed (w1.setCell ⟨B, 0, none⟩ v') B t v' ∧ (w1.setCell ⟨B, 0, none⟩ v').ownsRow base e 1 v' m ys ∧ KeepsOthers W (w1.setCell ⟨B, 0, none⟩ v') ∧
    (∀ W0, Touch (· = B) W0 W → W0.heap.size ≤ base → Touch (· = B) W0 (w1.setCell ⟨B, 0, none⟩ v')) ∧
    (∀ n, n ≤ base → n ≤ W.heap.size → n ≤ B → Below n W (w1.setCell ⟨B, 0, none⟩ v')) := by
  obtain ⟨h1, h2, h3, h4, h5⟩ := hv.appended hte (ownsRow_lowMapl hrow (Nat.zero_le _)) (Nat.zero_le _) (Nat.zero_le _) (ownsRow_lowMapl hown' (Nat.zero_le _)) hgrow
  refine ⟨h1, h2, hown'.kept (grownBy_setCell' w1 B v') (.inr (h1.not_row hte hown').symm), h4, fun W0 ht hb => ?_, fun n h1 h2 h3 => (hv.appended hte (ownsRow_lowMapl hrow h1) h2 h3 (ownsRow_lowMapl hown' h1) hgrow).2.2.2.2⟩
  have ht2 := (ht.alloc tmp).grown hgrow (fun k hk => .inr (Nat.le_trans hb (hrow.lt k hk).1))
  exact ht2.setCell rfl _
theorem ownsRow_form {W : World} {base : Nat} {e : TypeId} {v : Value} {k : Nat} {xs : List Value} (h : W.ownsRow base e 1 v k xs) : ∃ a c, v = .slice a k c := by
  rcases h.2 with ⟨h1, h2⟩ | ⟨g, cap, cur, h1, _⟩
  · exact ⟨none, 0, by rw [h1, h2]⟩
  · exact ⟨_, cap, h1⟩
theorem Touch.at_below {B n : Nat} {w w' : World} (h : Touch (· = B) w w') (hn : n ≤ w.heap.size) (hB : n ≤ B) : Below n w w' := h.below hn (fun k hk => by omega)
theorem Boxed.touched {B b : Nat} {w w' : World} {t : TypeId} {v : Value} (h : Boxed w b t v) (ht : Touch (· = B) w w') (hne : b ≠ B) : Boxed w' b t v := (ht.block b h.lt hne).trans h
/-- a row of numbers isn't the box of a value that is no number -/
theorem Lst.touched {k : IntKind} {w w' : World} {v u : Value} {zs : List Int} {B : Nat} {t : TypeId} (h : Lst k w v zs) (hb : Boxed w B t u) (ht : Touch (· = B) w w') (hu : ∀ i, u ≠ .int k i := by intro i e; cases e) : Lst k w' v zs := by
  rcases h with h | ⟨b, off, cap, h1, h2, h3, h4⟩
  · exact .inl h
  · refine .inr ⟨b, off, cap, h1, h2, h3, fun i hi => ?_⟩
    have hc := h4 i hi
    have hlt := World.block_lt_of_cell? w _ hc
    have hne : b ≠ B := by
      intro e
      subst e
      rw [Blk.cell (cs := #[u]) (t := t) hb] at hc
      rcases Nat.eq_zero_or_pos (off + i) with h0 | h0
      · rw [h0] at hc
        simp at hc
        exact hu _ hc
      · rw [Array.getElem?_eq_none (by simp; omega)] at hc
        cases hc
    have he := ht.block b hlt hne
    unfold World.cell? at hc ⊢
    rw [he]
    exact hc
theorem own_subL {w : World} {base : Nat} {e : TypeId} {v : Value} {n : Nat} {zs q : List Int} (h : w.ownsRow base e 1 v n (zs.map (Value.int .i64))) (hn : zs.length = n) (hq : q <+: zs) : ∃ a c, v = .slice a n c ∧ n ≤ c ∧ Lst .i64 w (.slice a q.length c) q := by
  have hle := hq.length_le
  rcases h.2 with ⟨h1, h2⟩ | ⟨g, cap, cur, h1, h2, h3, h4, h5, h6⟩
  · have hq0 : q = [] := List.eq_nil_of_length_eq_zero (by omega)
    exact ⟨none, 0, by rw [h1, h2], by omega, .inl ⟨hq0, none, 0, by rw [hq0]; rfl⟩⟩
  · refine ⟨_, cap, h1, by omega, ?_⟩
    rcases Nat.eq_zero_or_pos q.length with h0 | h0
    · exact .inl ⟨List.eq_nil_of_length_eq_zero h0, _, cap, by rw [h0]⟩
    · refine .inr ⟨g, 0, cap, rfl, h0, by omega, fun i hi => ?_⟩
      subst h1
      have hc := h.cellAt i (by omega)
      obtain ⟨r, rfl⟩ := hq
      rw [Nat.zero_add, hc]
      simp [List.getD_eq_getElem?_getD, List.getElem?_append_left, hi]
theorem cell_set_ne {W : World} {B : Nat} {v : Value} {p : Addr} (h : p.block ≠ B) : (W.setCell ⟨B, 0, none⟩ v).cell? p = W.cell? p := by
  unfold World.cell?
  rw [Below.heap_setCell _ _ _ _ h]
section
variable {B : Nat} {w3 W W' : World} {p r : Addr} {x y : Value} {t : TypeId}
theorem bkeep (h : (W.cell? p = some x ∧ W.cell? r = some y) ∧ Touch (· = B) w3 W ∧ ∃ u, Boxed W B t (.bool u)) (hq : Quiet W W') : (W'.cell? p = some x ∧ W'.cell? r = some y) ∧ Touch (· = B) w3 W' ∧ ∃ u, Boxed W' B t (.bool u) :=
  ⟨⟨(hq.cell _).trans h.1.1, (hq.cell _).trans h.1.2⟩, h.2.1.trans (.of hq.below), h.2.2.elim fun u hu => ⟨u, Blk.quiet hu hq⟩⟩
theorem bset (h : (W.cell? p = some x ∧ W.cell? r = some y) ∧ Touch (· = B) w3 W ∧ ∃ u, Boxed W B t (.bool u)) {u : Bool} (hp : p.block ≠ B) (hr : r.block ≠ B) : ((W.setCell ⟨B, 0, none⟩ (.bool u)).cell? p = some x ∧ (W.setCell ⟨B, 0, none⟩ (.bool u)).cell? r = some y) ∧ Touch (· = B) w3 (W.setCell ⟨B, 0, none⟩ (.bool u)) ∧ ∃ u', Boxed (W.setCell ⟨B, 0, none⟩ (.bool u)) B t (.bool u') :=
  ⟨⟨(cell_set_ne hp).trans h.1.1, (cell_set_ne hr).trans h.1.2⟩, h.2.1.setCell rfl _, h.2.2.elim fun _ hu => ⟨u, hu.set _⟩⟩
theorem blst {v : Value} {zs : List Int} {b0 : Bool} (h : (W.cell? p = some x ∧ W.cell? r = some y) ∧ Touch (· = B) w3 W ∧ ∃ u, Boxed W B t (.bool u)) (hl : Lst .i64 w3 v zs) (hb : Boxed w3 B t (.bool b0)) : Lst .i64 W v zs := hl.touched hb h.2.1
end
theorem ownFrom_touchMapl {β : Type} {R : Nat → Prop} {B : Nat} {W0 : World} (hB : W0.heap.size ≤ B) : OwnFrom B (fun (_ : β) W => Touch R W0 W) :=
  fun s W W' row h hg hr => h.grown hg (fun k hk => .inr (Nat.le_trans hB (hr k hk).1))

end Go.Proofs.YtohmnjejchppkaaDoor
/- The iterator of a table's pointers, for a caller whose memory lies ahead of the iterator's: whatever relation of worlds holds what it reads. No condition. -/
namespace Go.Proofs.YtohmnjejchppkaaDoor
open Go.RowKit
set_option linter.unusedVariables false
end Go.Proofs.YtohmnjejchppkaaDoor
/- ClassesMaps: words for its walk. No condition. -/
namespace Go.Proofs.YtohmnjejchppkaaDoor
open Go.RowKit
set_option linter.unusedVariables false
theorem mod_litC (x k : Int) (h0 : 0 < k) (h1 : k ≤ 1000000) : 0 ≤ wrap64 ((IntKind.u64.wrap x).tmod k) ∧ wrap64 ((IntKind.u64.wrap x).tmod k) < k := by
  have hw : 0 ≤ IntKind.u64.wrap x := by rw [IntKind.wrap_u64]; omega
  generalize IntKind.u64.wrap x = y at *
  have e : y.tmod k = y % k := by rw [Int.tmod_eq_emod_of_nonneg hw]
  have h2 := Int.emod_nonneg y (show k ≠ 0 by omega)
  have h3 := Int.emod_lt_of_pos y h0
  rw [e]
  generalize y % k = z at *
  rw [IntWalk.wrap64_in z ⟨by omega, by omega⟩]
  exact ⟨h2, h3⟩
theorem name_actC {F : Fence} {n : Nat} {P : Program} {c : Code} {Q : Exit → Act → World → Prop} {a : Act} {w : World} (h : ∀ a0, a0 = a → c.wpIn F n P Q a0 w) : c.wpIn F n P Q a w := h a rfl
def insL (l : List Nat) : List Int := l.map fun j : Nat => (j : Int)
theorem insL_snoc (l : List Nat) (x : Nat) : insL (l ++ [x]) = insL l ++ [(x : Int)] := by unfold insL; simp
theorem insL_len (l : List Nat) : (insL l).length = l.length := by unfold insL; simp
theorem natC_ins (l : List Nat) : natC l = (insL l).map (Value.int .i64) := by unfold natC insL; simp
theorem lst_ownC {w : World} {base : Nat} {e : TypeId} {v : Value} {n : Nat} {zs : List Int} (h : w.ownsRow base e 1 v n (zs.map (Value.int .i64))) : Lst .i64 w v zs := by
  have hn : zs.length = n := by have := h.1; simpa using this
  obtain ⟨a, c, hv, _, hl⟩ := own_subL h hn (List.prefix_refl zs)
  rw [hv, ← hn]; exact hl
/-- what a range's caller may write: its box, and what was made since -/
def KpB (P n : Nat) (A B : World) : Prop := Touch (fun b => b = P ∨ n ≤ b) A B
theorem KpB.tr {P n : Nat} {A B C : World} (h : KpB P n A B) (k : KpB P n B C) : KpB P n A C := Touch.trans h k
theorem KpB.grow {P n : Nat} {A B : World} (h : Below A.heap.size A B) : KpB P n A B := Touch.of h
theorem KpB.put {P n : Nat} {w : World} (hn : n ≤ w.heap.size) (W : World) (l : Nat) (o o' : Obj) (hl : w.heap.size ≤ l) (h : W.heap[l]? = some o) (_ : o.isCells = false) (_ : o.isWalk = false) : KpB P n W (W.putObj l o') :=
  (Touch.refl _ W).grown (grownBy_putObj' W l o') (fun k e => by cases e; exact .inl (.inr (by omega)))
theorem KpB.app {P n : Nat} {W w1 : World} {tmp : Obj} {v v' : Value} (hgrow : (W.alloc tmp).grownBy w1 v.ownBlock) (hv : ∀ k, v.ownBlock = some k → n ≤ k) : KpB P n W (w1.setCell ⟨P, 0, none⟩ v') :=
  (((Touch.refl _ W).alloc tmp).grown hgrow (fun k e => .inl (.inr (hv k e)))).setCell (.inl rfl) _
theorem Blk.neC {w : World} {b b' : Nat} {cs cs' : Array Value} {t t' : TypeId} (h : Blk w b cs t) (h' : Blk w b' cs' t') (ht : t ≠ t') : b ≠ b' := by
  intro e
  subst e
  unfold Blk at h h'
  rw [h] at h'
  simp only [Option.some.injEq, Obj.cells.injEq] at h'
  exact ht h'.2.1
theorem quiet_belowC {A B : World} (h : Quiet A B) : Below A.heap.size A B := h.below
theorem natC_snoc (l : List Nat) (x : Nat) : natC (l ++ [x]) = natC l ++ [Value.int .i64 (x : Int)] := by unfold natC; simp
theorem TabS.touchC {w w' : World} {lo t m : Nat} {v : Value} {L : List (ClsD × Value × Nat)} (h : TabS w lo t v m L) (hT : Touch (fun b => b < lo ∨ w.heap.size ≤ b) w w') : TabS w' lo t v m L :=
  h.touch hT (fun g h1 h2 => by omega)
theorem own_subC {w : World} {base : Nat} {e : TypeId} {v : Value} {n : Nat} {l q : List Nat} (h : w.ownsRow base e 1 v n (natC l)) (hn : l.length = n) (hq : q <+: l) : ∃ a c, v = .slice a n c ∧ n ≤ c ∧ Lst .i64 w (.slice a q.length c) (insL q) := by
  rw [natC_ins] at h
  obtain ⟨a, c, h1, h2, h3⟩ := own_subL h (by rw [insL_len]; exact hn) (q := insL q) (by unfold insL; exact hq.map _)
  rw [insL_len] at h3
  exact ⟨a, c, h1, h2, h3⟩
/-- what is read between the two ranges and the end -/
structure SixC (w : World) (P4 P6 Pa Ps : Nat) (c k n : Int) (S : Nat) (va vs : Value) (W : World) : Prop where
  h4 : Blk W P4 #[.int .i64 c, .int .i64 k, .int .i64 n] 30
  h6 : Blk W P6 #[.int .i64 S] 3
  ha : Boxed W Pa 38 va
  hs : Boxed W Ps 38 vs
theorem SixC.cells {w W : World} {P4 P6 Pa Ps : Nat} {c k n : Int} {S : Nat} {va vs : Value} (h : SixC w P4 P6 Pa Ps c k n S va vs W) :
    (W.cell? ⟨P4, 0, none⟩ = some (.int .i64 c) ∧ W.cell? ⟨P4, 1, none⟩ = some (.int .i64 k) ∧ W.cell? ⟨P4, 2, none⟩ = some (.int .i64 n)) ∧ W.cell? ⟨P6, 0, none⟩ = some (.int .i64 S) ∧ W.cell? ⟨Pa, 0, none⟩ = some va ∧ W.cell? ⟨Ps, 0, none⟩ = some vs :=
  ⟨⟨h.h4.val 0 rfl, h.h4.val 1 rfl, h.h4.val 2 rfl⟩, h.h6.val 0 rfl, h.ha.cell, h.hs.cell⟩
theorem SixC.touch {R : Nat → Prop} {w W W' : World} {P4 P6 Pa Ps : Nat} {c k n : Int} {S : Nat} {va vs : Value} (h : SixC w P4 P6 Pa Ps c k n S va vs W) (ht : Touch R W W') (h4 : ¬ R P4) (h6 : ¬ R P6) (ha : ¬ R Pa) (hs : ¬ R Ps) : SixC w P4 P6 Pa Ps c k n S va vs W' :=
  ⟨h.h4.touch ht h4, h.h6.touch ht h6, (ht.block _ h.ha.lt ha).trans h.ha, (ht.block _ h.hs.lt hs).trans h.hs⟩
end Go.Proofs.YtohmnjejchppkaaDoor
/- Package sizes: what First, Rounds and Fills return, and the document's First, Valid, Rounds and Fills; the law's small check. No condition but that the tables lie as the start lays them. -/
namespace Go.Proofs.YtohmnjejchppkaaDoor
open Go.RowKit Go.Shelf
set_option linter.unusedVariables false
attribute [local go_sem] Oper.semAt_some

/-- the lowest cell from a word on that isn't allocated; -1: there is none -/
def firstI (c a f : Int) : Int := ((freeL c a).find? fun z => decide (f ≤ z)).getD (-1)
theorem first_hit (c a f : Int) (q : List Int) (y : Int) (h : (q ++ [y]) <+: freeL c a) (hq : ∀ z ∈ q, z < f) (hy : f ≤ y) : firstI c a f = y := by
  obtain ⟨r, hr⟩ := h
  unfold firstI
  rw [← hr, List.append_assoc, List.find?_append, List.find?_eq_none.2 (fun z hz => by have := hq z hz; simp; omega)]
  simp [hy]
theorem first_miss (c a f : Int) (h : ∀ z ∈ freeL c a, z < f) : firstI c a f = -1 := by
  unfold firstI
  rw [List.find?_eq_none.2 (fun z hz => by have := h z hz; simp; omega)]
  rfl

theorem take_prefix (L : List Int) (k : Nat) (h : k < L.length) : (L.take k ++ [L.getD k 0]) <+: L := by
  have : L.take k ++ [L.getD k 0] = L.take (k + 1) := by
    rw [List.take_add_one, List.getElem?_eq_getElem h, List.getD_eq_getElem?_getD, List.getElem?_eq_getElem h]; rfl
  rw [this]
  exact List.take_prefix _ _

theorem keepCell {w3 W W' : World} {p : Addr} {x : Value} (h : W.cell? p = some x ∧ Below w3.heap.size w3 W) (hb : Below W.heap.size W W') : W'.cell? p = some x ∧ Below w3.heap.size w3 W' :=
  ⟨(hb.cell (World.block_lt_of_cell? W _ h.1)).trans h.1, h.2.trans (hb.mono h.2.size)⟩
/-- how many words are taken for an object -/
def rdV (n : Int) : Int := if n < 1 then 0 else if 256 < n then 0 else if n ≤ 32 then widI (clV n) else (n + 63) / 64 * 64
/-- how many objects a heap of pages holds -/
def flV (n p : Int) : Int := if n < 1 then 0 else if 256 < n then 0 else if p < 0 ∨ 32 < p then 0 else if n ≤ 32 then p * ((numN (clV n) : Nat) : Int) else p / ((n + 63) / 64)
def flE (n p : Int) : Int := if n < 1 then 1 else if 256 < n then 3 else if p < 0 ∨ 32 < p then 1 else 0
theorem cl_in (n : Int) (h1 : 1 ≤ n) (h2 : n ≤ 32) : clE n = 0 ∧ clsB (clV n) = true ∧ errI (clV n) = 0 := by
  have hc : clsB (clV n) = true := by
    unfold clsB clV
    simp only [decide_eq_true_eq]
    constructor <;> (repeat' split) <;> omega
  refine ⟨?_, hc, ?_⟩
  · unfold clE; rw [if_neg (by omega), if_pos h2]
  · unfold errI; rw [hc]; rfl
theorem num_bd (c : Int) : 0 ≤ ((numN c : Nat) : Int) ∧ ((numN c : Nat) : Int) ≤ 32 := by
  unfold numN
  split
  · rename_i h
    obtain ⟨j, rfl, hj⟩ := clsB_yes h
    have := num_le j hj
    rw [Int.toNat_natCast]
    omega
  · omega

end Go.Proofs.YtohmnjejchppkaaDoor
