/- Texts of this seat, one behind the other: each says at its head what it holds. No condition of its own. -/
import Derived.Laws.OwnMore
import Derived.Deep.RegionHeld3
import Derived.Maps.AppendAt
import Derived.Test.YtnodeojeijekcaaGreatGB01
import Derived.Test.YtnodeojeijekcaaGreatGB04
import Derived.Test.YtnodeojeijekcaaGreatGB10
import Derived.Test.YtnodeojeijekcaaGreatGB27
import Derived.Test.YtnodeojeijekcaaGreatGPagesSweeps29
import Derived.Test.YtnodeojeijekcaaGreatGPagesSweeps31
/- What the document's sweep returns and asks, answer by answer. Conditions: the page is the plan's. -/
namespace Go.Proofs.YtnodeojeijekcaaGreat
open Go.RowKit
set_option linter.unusedVariables false
/-- the plan, the page, the worker, the cycle; where the page's words stand -/
structure PgK (P T who cy pg : Int) (e a m : Nat) : Prop where
  hP : 1 ≤ P ∧ P ≤ 5
  hT : 1 ≤ T ∧ T ≤ 3
  hpg : 0 ≤ pg ∧ pg < P
  who : workB who = true
  cyc : inB cy 0 4294967295 = true
  de : wrap64 (tabI T 1 + pg) = (e : Int)
  da : wrap64 (wrap64 (tabI T 1 + P) + pg) = (a : Int)
  dm : wrap64 (wrap64 (tabI T 1 + wrap64 (2 * P)) + pg) = (m : Int)
  re : rowI P T 1 0 pg = (e : Int)
  ra : rowI P T 1 1 pg = (a : Int)
  rm : rowI P T 1 2 pg = (m : Int)
  le : e < cellsN P T 1
  la : a < cellsN P T 1
  lm : m < cellsN P T 1
/-- what the document's sweep returns at a row of answers, and what it asks -/
def DocIs (P T who cy pg : Int) (H : List Int) (r : Swr) (q : Option (Int × Int × Int × Int)) : Prop :=
  ∀ (w : World) (B x : Nat) (hv : Value) (t : Tp), TapeAt w B x hv t → x < w.heap.size → (∀ g, hv.ownBlock = some g → g < w.heap.size) → t.H = H → t.pos = 0 → t.st = false → H.length ≤ 1000000 → (∀ z ∈ H, U64 z) →
    Calls Tryz.prog 10 #[.pointer (some ⟨x, 0, none⟩), .agg #[.int .i64 P, .int .i64 T, .int .i64 1, .int .i64 (baseI P T 1), .int .i64 (tabI T 1), .int .i64 (baseI P T 1 + 64 * P)], .int .i64 who, .int .i64 cy, .int .i64 pg] w fun e w' =>
      e = .returned (.agg r.V) ∧ ∃ t', t'.H = H ∧ (∀ k a wn p, q = some (k, a, wn, p) → t'.k = k ∧ t'.a = a ∧ t'.wn = wn ∧ t'.p = p) ∧ TapeAt w' B x hv t' ∧ Touch (· = x) w w'
/-- an entry's word and its fields -/
structure EnV (z A C S D Y : Int) : Prop where
  ok : edecOk z = true
  hA : z % 4 = A
  hC : z / 4 % 16 = C
  hS : z / 64 % 4 = S
  hD : z / 256 % 16 = D
  hY : z / 65536 % 4294967296 = Y
theorem EnV.rdec {z A C S D Y : Int} (h : EnV z A C S D Y) (hU : U64 z) (W : World) :
    Calls Tryz.prog 36 #[.int .u64 z] W fun e w' => e = .returned (.tuple #[.agg #[.int .i64 A, .int .i64 C, .int .i64 S, .int .i64 D, .int .i64 Y], .int .i64 0]) ∧ Below W.heap.size W w' := by
  have := redec_any z W hU
  rw [h.ok, h.hA, h.hC, h.hS, h.hD, h.hY] at this
  exact this
theorem EnV.dec {z A C S D Y : Int} (h : EnV z A C S D Y) (hU : U64 z) (W : World) :
    Calls Tryz.prog 72 #[.int .u64 z] W fun e w' => e = .returned (.tuple #[.agg #[.int .i64 A, .int .i64 C, .int .i64 S, .int .i64 D, .int .i64 Y], .int .i64 0]) ∧ Below W.heap.size W w' := by
  have := edec_yes z W hU h.ok
  rw [h.hA, h.hC, h.hS, h.hD, h.hY] at this
  exact this
theorem EnV.bd {z A C S D Y : Int} (h : EnV z A C S D Y) : entB A C S D Y = true := by
  have := h.ok
  unfold edecOk at this
  rw [h.hA, h.hC, h.hS, h.hD, h.hY, Bool.and_eq_true] at this
  exact this.1
theorem rdec_form {z : Int} (hU : U64 z) (h : edecOk z = false) (W : World) :
    Calls Tryz.prog 36 #[.int .u64 z] W fun e w' => e = .returned (.tuple #[.agg #[.int .i64 0, .int .i64 0, .int .i64 0, .int .i64 0, .int .i64 0], .int .i64 4]) ∧ Below W.heap.size W w' := by
  have := redec_any z W hU
  rw [h] at this
  exact this
section
variable {P T who cy pg z A C S D Y : Int} {e a m : Nat}
theorem doc_0 (h : PgK P T who cy pg e a m) : DocIs P T who cy pg [] rw0 (some (1, e, 0, 0)) := by
  intro w B x hv t hT hx hB hH hp hs hm hU
  obtain ⟨H, pos, k0, a0, wn0, p0, st⟩ := t
  dsimp only at hH hp hs
  subst hH hp hs
  refine (rsw_stop1 (eI := (e : Int)) hT hx hB hm hU h.de rfl).mono ?_
  rintro e' w' ⟨he, hT', ht'⟩
  refine ⟨he, _, rfl, ?_, hT', ht'⟩
  rintro k a' wn p hq
  cases hq
  exact ⟨rfl, rfl, rfl, rfl⟩
theorem doc_form (h : PgK P T who cy pg e a m) (hz : edecOk z = false) : DocIs P T who cy pg [z] ⟨true, false, false, false, 0⟩ none := by
  intro w B x hv t hT hx hB hH hp hs hm hU
  obtain ⟨H, pos, k0, a0, wn0, p0, st⟩ := t
  dsimp only at hH hp hs
  subst hH hp hs
  refine (rsw_form (eI := (e : Int)) hT hx hB hm hU h.de rfl rfl (rdec_form (hU z (by simp)) hz)).mono ?_
  rintro e' w' ⟨he, hT', ht'⟩
  exact ⟨he, _, rfl, (fun _ _ _ _ hq => by cases hq), hT', ht'⟩
theorem doc_busy (h : PgK P T who cy pg e a m) (hv : EnV z A C S D Y) (hS : S = 2) (y' : Bool) (hy : decide (Y < cy) = y') (hd : dueB A C S D Y cy = false) : DocIs P T who cy pg [z] ⟨true, false, false, y', 0⟩ none := by
  intro w B x hvv t hT hx hB hH hp hs hm hU
  obtain ⟨H, pos, k0, a0, wn0, p0, st⟩ := t
  dsimp only at hH hp hs
  subst hH hp hs
  refine (rsw_busy (eI := (e : Int)) hT hx hB hm hU h.de rfl rfl (hv.rdec (hU z (by simp))) hS y' hy hd).mono ?_
  rintro e' w' ⟨he, hT', ht'⟩
  exact ⟨he, _, rfl, (fun _ _ _ _ hq => by cases hq), hT', ht'⟩
theorem doc_late (h : PgK P T who cy pg e a m) (hv : EnV z A C S D Y) (hS : (S == 2) = false) (hd : dueB A C S D Y cy = false) : DocIs P T who cy pg [z] ⟨true, false, false, false, 0⟩ none := by
  intro w B x hvv t hT hx hB hH hp hs hm hU
  obtain ⟨H, pos, k0, a0, wn0, p0, st⟩ := t
  dsimp only at hH hp hs
  subst hH hp hs
  refine (rsw_late (eI := (e : Int)) hT hx hB hm hU h.de rfl rfl (hv.rdec (hU z (by simp))) hS hd).mono ?_
  rintro e' w' ⟨he, hT', ht'⟩
  exact ⟨he, _, rfl, (fun _ _ _ _ hq => by cases hq), hT', ht'⟩
/-- a page that is due, and taken -/
structure DuV (P T who cy pg z A C S D Y E : Int) : Prop where
  env : EnV z A C S D Y
  due : dueB A C S D Y cy = true
  hS : (S == 2) = false
  tk : tkB A C S D Y 2 who = true
  gv : gvB A C S D Y cy = true
  hE : encE A C 2 who Y = E
theorem doc_bey (h : PgK P T who cy pg e a m) {E : Int} (hv : DuV P T who cy pg z A C S D Y E) (hA : A = 2) (hb : P < pg + C) : DocIs P T who cy pg [z] ⟨true, false, false, false, 0⟩ none := by
  intro w B x hvv t hT hx hB hH hp hs hm hU
  obtain ⟨H, pos, k0, a0, wn0, p0, st⟩ := t
  dsimp only at hH hp hs
  subst hH hp hs
  have hbd := entB_bd hv.env.bd
  have hpg := h.hpg
  have hP := h.hP
  refine (rsw_bey (eI := (e : Int)) hT hx hB hm hU h.de rfl rfl (hv.env.rdec (hU z (by simp))) hv.hS hA (IntWalk.wrap64_in _ (by omega)) hb hv.due).mono ?_
  rintro e' w' ⟨he, hT', ht'⟩
  exact ⟨he, _, rfl, (fun _ _ _ _ hq => by cases hq), hT', ht'⟩
theorem doc_1 (h : PgK P T who cy pg e a m) {E : Int} (hv : DuV P T who cy pg z A C S D Y E) (hb : beyB P pg A C = false) : DocIs P T who cy pg [z] rw0 (some (4, e, z, E)) := by
  intro w B x hvv t hT hx hB hH hp hs hm hU
  obtain ⟨H, pos, k0, a0, wn0, p0, st⟩ := t
  dsimp only at hH hp hs
  subst hH hp hs
  have hbd := entB_bd hv.env.bd
  have hpg := h.hpg
  have hP := h.hP
  have hw : wrap64 (pg + C) = pg + C := IntWalk.wrap64_in _ (by omega)
  have key : Calls Tryz.prog 10 #[.pointer (some ⟨x, 0, none⟩), .agg #[.int .i64 P, .int .i64 T, .int .i64 1, .int .i64 (baseI P T 1), .int .i64 (tabI T 1), .int .i64 (baseI P T 1 + 64 * P)], .int .i64 who, .int .i64 cy, .int .i64 pg] w (RsPost w B x hvv rw0 ((Tp.ask ⟨[z], 0, k0, a0, wn0, p0, false⟩ 1 e 0 0).2.ask 4 e z E).2) := by
    unfold beyB at hb
    cases hA : (A == 2) with
    | false => exact rsw_stop2s (eI := (e : Int)) hT hx hB hm hU h.de rfl rfl (hv.env.rdec (hU z (by simp))) hv.hS hA hv.due hv.tk E hv.hE rfl
    | true =>
      rw [hA, Bool.true_and] at hb
      exact rsw_stop2l (eI := (e : Int)) hT hx hB hm hU h.de rfl rfl (hv.env.rdec (hU z (by simp))) hv.hS (by simpa using hA) hw (by have := of_decide_eq_false hb; omega) hv.due hv.tk E hv.hE rfl
  refine key.mono ?_
  rintro e' w' ⟨he, hT', ht'⟩
  refine ⟨he, _, rfl, ?_, hT', ht'⟩
  rintro k a' wn p hq
  cases hq
  exact ⟨rfl, rfl, rfl, rfl⟩
theorem doc_lost (h : PgK P T who cy pg e a m) {E z2 : Int} (hv : DuV P T who cy pg z A C S D Y E) (hb : beyB P pg A C = false) (hz : (z2 == z) = false) : DocIs P T who cy pg [z, z2] ⟨true, false, false, true, 0⟩ none := by
  intro w B x hvv t hT hx hB hH hp hs hm hU
  obtain ⟨H, pos, k0, a0, wn0, p0, st⟩ := t
  dsimp only at hH hp hs
  subst hH hp hs
  have hbd := entB_bd hv.env.bd
  have hpg := h.hpg
  have hP := h.hP
  have hw : wrap64 (pg + C) = pg + C := IntWalk.wrap64_in _ (by omega)
  have key : Calls Tryz.prog 10 #[.pointer (some ⟨x, 0, none⟩), .agg #[.int .i64 P, .int .i64 T, .int .i64 1, .int .i64 (baseI P T 1), .int .i64 (tabI T 1), .int .i64 (baseI P T 1 + 64 * P)], .int .i64 who, .int .i64 cy, .int .i64 pg] w (RsPost w B x hvv ⟨true, false, false, true, 0⟩ ((Tp.ask ⟨[z, z2], 0, k0, a0, wn0, p0, false⟩ 1 e 0 0).2.ask 4 e z E).2) := by
    unfold beyB at hb
    cases hA : (A == 2) with
    | false => exact rsw_losts (eI := (e : Int)) hT hx hB hm hU h.de rfl rfl (hv.env.rdec (hU z (by simp))) hv.hS hA hv.due hv.tk E hv.hE rfl hz
    | true =>
      rw [hA, Bool.true_and] at hb
      exact rsw_lostl (eI := (e : Int)) hT hx hB hm hU h.de rfl rfl (hv.env.rdec (hU z (by simp))) hv.hS (by simpa using hA) hw (by have := of_decide_eq_false hb; omega) hv.due hv.tk E hv.hE rfl hz
  refine key.mono ?_
  rintro e' w' ⟨he, hT', ht'⟩
  exact ⟨he, _, rfl, (fun _ _ _ _ hq => by cases hq), hT', ht'⟩
end
end Go.Proofs.YtnodeojeijekcaaGreat
/- What the document's sweep asks behind its claim, and what it returns, at any row of answers. Conditions: the page is the plan's, due, and taken. -/
namespace Go.Proofs.YtnodeojeijekcaaGreat
open Go.RowKit
set_option linter.unusedVariables false
/-- one behind the other -/
def askL : List (Int × Int × Int × Int) → Tp → Tp
  | [], t => t
  | q :: Q, t => askL Q (t.ask q.1 q.2.1 q.2.2.1 q.2.2.2).2
theorem ask_go {t : Tp} (h : t.st = false) (hp : t.pos < t.H.length) (k a wn p : Int) : t.ask k a wn p = (t.H.getD t.pos 0, { t with pos := t.pos + 1 }) := by
  unfold Tp.ask
  rw [h, if_neg (by simp), if_pos hp]
theorem ask_end {t : Tp} (h : t.st = false) (hp : ¬ t.pos < t.H.length) (k a wn p : Int) : t.ask k a wn p = (0, { t with k := k, a := a, wn := wn, p := p, st := true }) := by
  unfold Tp.ask
  rw [h, if_neg (by simp), if_neg hp]
theorem ask_stop {t : Tp} (h : t.st = true) (k a wn p : Int) : t.ask k a wn p = (0, t) := by
  unfold Tp.ask
  rw [h, if_pos rfl]
theorem askL_app : ∀ Q R t, askL (Q ++ R) t = askL R (askL Q t)
  | [], _, _ => rfl
  | q :: Q, R, t => by rw [List.cons_append, askL, askL, askL_app Q R]
theorem askL_H : ∀ Q t, (askL Q t).H = t.H
  | [], _ => rfl
  | q :: Q, t => by rw [askL, askL_H Q, ask_H]
theorem askL_stop : ∀ Q t, t.st = true → askL Q t = t
  | [], _, _ => rfl
  | q :: Q, t, h => by rw [askL, ask_stop h, askL_stop Q t h]
theorem askL_yes : ∀ Q t, t.st = false → t.pos + Q.length ≤ t.H.length → (askL Q t).st = false
  | [], _, h, _ => h
  | q :: Q, t, h, hl => by
    rw [List.length_cons] at hl
    rw [askL, ask_go h (by omega)]
    exact askL_yes Q _ h (by show t.pos + 1 + Q.length ≤ t.H.length; omega)
theorem askL_no : ∀ Q t, t.st = false → t.pos ≤ t.H.length → t.H.length < t.pos + Q.length → (askL Q t).st = true ∧ ∃ q, Q[t.H.length - t.pos]? = some q ∧ (askL Q t).k = q.1 ∧ (askL Q t).a = q.2.1 ∧ (askL Q t).wn = q.2.2.1 ∧ (askL Q t).p = q.2.2.2
  | [], t, _, h1, h2 => by simp at h2; omega
  | q :: Q, t, h, h1, h2 => by
    rw [List.length_cons] at h2
    by_cases hp : t.pos < t.H.length
    · rw [askL, ask_go h hp]
      have := askL_no Q { t with pos := t.pos + 1 } h (by show t.pos + 1 ≤ t.H.length; omega) (by show t.H.length < t.pos + 1 + Q.length; omega)
      have e : t.H.length - t.pos = (t.H.length - (t.pos + 1)) + 1 := by omega
      rw [e, List.getElem?_cons_succ]
      exact this
    · rw [askL, ask_end h hp, askL_stop Q _ rfl]
      have e : t.H.length - t.pos = 0 := by omega
      rw [e]
      exact ⟨rfl, q, rfl, rfl, rfl, rfl, rfl⟩
def tailQ (tab pg : Int) : Nat → List (Int × Int × Int × Int)
  | 0 => []
  | j + 1 => (2, wrap64 (tab + (pg + ((j : Int) + 1))), 0, 0) :: tailQ tab pg j
theorem tailT_askL (tab pg : Int) : ∀ j t, tailT tab pg j t = askL (tailQ tab pg j) t
  | 0, _ => rfl
  | j + 1, t => by rw [tailT, tailQ, askL, tailT_askL tab pg j]
theorem tailQ_length (tab pg : Int) : ∀ j, (tailQ tab pg j).length = j
  | 0 => rfl
  | j + 1 => by rw [tailQ, List.length_cons, tailQ_length tab pg j]
/-- what stays -/
def lfI (A a m : Int) : Int := if A == 2 then Int.tmod (bits .and .u64 a m) 2 else bits .and .u64 a m
/-- the tails that are freed -/
def tlQ (T pg A C lf : Int) : List (Int × Int × Int × Int) := if lf == 0 && A == 2 then tailQ (tabI T 1) pg (C - 1).toNat else []
def endW (lf G : Int) : Int := if lf == 0 then 0 else G
/-- what is asked behind the claim -/
def finQ (e a m T pg A C lf G : Int) : List (Int × Int × Int × Int) := [(1, m, 0, 0), (1, a, 0, 0), (2, a, 0, lf), (2, m, 0, 0)] ++ (tlQ T pg A C lf ++ [(2, e, 0, endW lf G)])
section
variable {P T who cy pg z A C S D Y : Int} {e a m : Nat}
set_option maxHeartbeats 2000000 in
theorem doc_fin (h : PgK P T who cy pg e a m) {E G lf va vm : Int} (hv : DuV P T who cy pg z A C S D Y E) (hb : beyB P pg A C = false) (hC : (A == 2) = true → 1 ≤ C ∧ C ≤ 4) (hG : encE A C 0 0 cy = G) (R : List Int) (ha : R.getD 1 0 = va) (hm0 : R.getD 0 0 = vm) (hlf : lfI A va vm = lf) (Q : List (Int × Int × Int × Int)) (hQ : finQ e a m T pg A C lf G = Q) :
    DocIs P T who cy pg (z :: z :: R) (if R.length < Q.length then rw0 else ⟨true, true, lf == 0, false, ((plcs va.toNat 64).length : Int) - ((plcs lf.toNat 64).length : Int)⟩) Q[R.length]? := by
  intro w B x hvv t hT hx hB hH hp hs hm hU
  obtain ⟨H, pos, k0, a0, wn0, p0, st⟩ := t
  dsimp only at hH hp hs
  subst hH hp hs
  have hbd := entB_bd hv.env.bd
  have hpg := h.hpg
  have hP := h.hP
  have hw : wrap64 (pg + C) = pg + C := IntWalk.wrap64_in _ (by omega)
  have u1 : ((⟨z :: z :: R, 0, k0, a0, wn0, p0, false⟩ : Tp).ask 1 e 0 0) = (z, ⟨z :: z :: R, 1, k0, a0, wn0, p0, false⟩) := ask_go rfl (by simp) _ _ _ _
  have u2 : ((⟨z :: z :: R, 1, k0, a0, wn0, p0, false⟩ : Tp).ask 4 e z E) = (z, ⟨z :: z :: R, 2, k0, a0, wn0, p0, false⟩) := ask_go rfl (by simp) _ _ _ _
  have v0 : ((⟨z :: z :: R, 0, k0, a0, wn0, p0, false⟩ : Tp).ask 1 e 0 0).2 = ⟨z :: z :: R, 1, k0, a0, wn0, p0, false⟩ := by rw [u1]
  have g1 : ((⟨z :: z :: R, 0, k0, a0, wn0, p0, false⟩ : Tp).ask 1 e 0 0).2.st = false := by rw [u1]
  have g2 : ((⟨z :: z :: R, 0, k0, a0, wn0, p0, false⟩ : Tp).ask 1 e 0 0).1 = z := by rw [u1]
  have g3 : (((⟨z :: z :: R, 0, k0, a0, wn0, p0, false⟩ : Tp).ask 1 e 0 0).2.ask 4 e z E).2.st = false := by rw [v0, u2]
  have g4 : ((((⟨z :: z :: R, 0, k0, a0, wn0, p0, false⟩ : Tp).ask 1 e 0 0).2.ask 4 e z E).1 == z) = true := by rw [v0, u2]; simp
  have g5 : (((⟨z :: z :: R, 0, k0, a0, wn0, p0, false⟩ : Tp).ask 1 e 0 0).2.ask 4 e z E).2 = ⟨z :: z :: R, 2, k0, a0, wn0, p0, false⟩ := by rw [v0, u2]
  have x1 : ((⟨z :: z :: R, 2, k0, a0, wn0, p0, false⟩ : Tp).ask 1 m 0 0).1 = vm ∧ (((⟨z :: z :: R, 2, k0, a0, wn0, p0, false⟩ : Tp).ask 1 m 0 0).2.ask 1 a 0 0).1 = va := by
    match R with
    | [] => exact ⟨hm0, ha⟩
    | [y] =>
      rw [ask_go rfl (by simp)]
      exact ⟨hm0, by rw [ask_end rfl (by simp)]; exact ha⟩
    | y :: y' :: R' =>
      rw [ask_go rfl (by simp)]
      exact ⟨hm0, by rw [ask_go rfl (by simp)]; exact ha⟩
  clear u1 u2 v0
  generalize hM1 : (⟨z :: z :: R, 2, k0, a0, wn0, p0, false⟩ : Tp).ask 1 m 0 0 = m1 at x1
  generalize hA1 : m1.2.ask 1 a 0 0 = a1 at x1
  obtain ⟨rfl, rfl⟩ := x1
  have hq : askL Q ⟨z :: z :: R, 2, k0, a0, wn0, p0, false⟩ = ((askL (tlQ T pg A C lf) ((a1.2.ask 2 a 0 lf).2.ask 2 m 0 0).2).ask 2 e 0 (endW lf G)).2 := by
    rw [← hQ, finQ, askL_app, askL_app, ← hA1, ← hM1]
    rfl
  have key : ∀ b, (askL Q ⟨z :: z :: R, 2, k0, a0, wn0, p0, false⟩).st = b → Calls Tryz.prog 10 #[.pointer (some ⟨x, 0, none⟩), .agg #[.int .i64 P, .int .i64 T, .int .i64 1, .int .i64 (baseI P T 1), .int .i64 (tabI T 1), .int .i64 (baseI P T 1 + 64 * P)], .int .i64 who, .int .i64 cy, .int .i64 pg] w (RsPost w B x hvv (if b = true then rw0 else ⟨true, true, lf == 0, false, ((plcs a1.1.toNat 64).length : Int) - ((plcs lf.toNat 64).length : Int)⟩) (askL Q ⟨z :: z :: R, 2, k0, a0, wn0, p0, false⟩)) := by
    intro b hst
    rw [hq] at hst ⊢
    clear hq hQ Q
    unfold beyB at hb
    cases hA : (A == 2) with
    | false =>
      have e1 : bits .and .u64 a1.1 m1.1 = lf := by rw [← hlf, lfI, hA]; rfl
      have e2 : tlQ T pg A C lf = [] := by rw [tlQ, hA, Bool.and_false]; rfl
      rw [e2] at hst ⊢
      cases hl : (lf == 0) with
      | true =>
        have e3 : endW lf G = 0 := by rw [endW, hl]; rfl
        rw [e3] at hst ⊢
        cases b with
        | true => exact rsw_endszt (eI := (e : Int)) (aI := (a : Int)) (mI := (m : Int)) hT hx hB hm hU h.de g1 g2 (hv.env.rdec (hU z (by simp))) hv.hS hA hv.due hv.tk E hv.hE h.da h.dm g3 g4 _ g5 _ _ hM1 hA1 lf e1 _ _ _ _ rfl rfl rfl hl G hG hv.gv rfl hst
        | false => exact rsw_endszf (eI := (e : Int)) (aI := (a : Int)) (mI := (m : Int)) hT hx hB hm hU h.de g1 g2 (hv.env.rdec (hU z (by simp))) hv.hS hA hv.due hv.tk E hv.hE h.da h.dm g3 g4 _ g5 _ _ hM1 hA1 lf e1 _ _ _ _ rfl rfl rfl hl G hG hv.gv rfl hst
      | false =>
        have e3 : endW lf G = G := by rw [endW, hl]; rfl
        rw [e3] at hst ⊢
        cases b with
        | true => exact rsw_endsnt (eI := (e : Int)) (aI := (a : Int)) (mI := (m : Int)) hT hx hB hm hU h.de g1 g2 (hv.env.rdec (hU z (by simp))) hv.hS hA hv.due hv.tk E hv.hE h.da h.dm g3 g4 _ g5 _ _ hM1 hA1 lf e1 _ _ _ _ rfl rfl rfl hl G hG hv.gv rfl hst
        | false => exact rsw_endsnf (eI := (e : Int)) (aI := (a : Int)) (mI := (m : Int)) hT hx hB hm hU h.de g1 g2 (hv.env.rdec (hU z (by simp))) hv.hS hA hv.due hv.tk E hv.hE h.da h.dm g3 g4 _ g5 _ _ hM1 hA1 lf e1 _ _ _ _ rfl rfl rfl hl G hG hv.gv rfl hst
    | true =>
      have hC4 := hC hA
      have hAA : A = 2 := by simpa using hA
      rw [hA, Bool.true_and] at hb
      have hb' := of_decide_eq_false hb
      have e1 : Int.tmod (bits .and .u64 a1.1 m1.1) 2 = lf := by rw [← hlf, lfI, hA]; rfl
      cases hl : (lf == 0) with
      | true =>
        have e2 : tlQ T pg A C lf = tailQ (tabI T 1) pg (C - 1).toNat := by rw [tlQ, hA, hl]; rfl
        have e3 : endW lf G = 0 := by rw [endW, hl]; rfl
        rw [e2, e3, ← tailT_askL] at hst ⊢
        cases b with
        | true => exact rsw_endlzt (eI := (e : Int)) (aI := (a : Int)) (mI := (m : Int)) hT hx hB hm hU h.de g1 g2 (hv.env.rdec (hU z (by simp))) hv.hS hAA hw (by omega) hC4 (by omega) hv.due hv.tk E hv.hE h.da h.dm g3 g4 _ g5 _ _ hM1 hA1 lf _ rfl e1 _ _ _ _ rfl rfl rfl hl G hG hv.gv rfl hst
        | false => exact rsw_endlzf (eI := (e : Int)) (aI := (a : Int)) (mI := (m : Int)) hT hx hB hm hU h.de g1 g2 (hv.env.rdec (hU z (by simp))) hv.hS hAA hw (by omega) hC4 (by omega) hv.due hv.tk E hv.hE h.da h.dm g3 g4 _ g5 _ _ hM1 hA1 lf _ rfl e1 _ _ _ _ rfl rfl rfl hl G hG hv.gv rfl hst
      | false =>
        have e2 : tlQ T pg A C lf = [] := by rw [tlQ, hl, Bool.false_and]; rfl
        have e3 : endW lf G = G := by rw [endW, hl]; rfl
        rw [e2, e3] at hst ⊢
        cases b with
        | true => exact rsw_endlnt (eI := (e : Int)) (aI := (a : Int)) (mI := (m : Int)) hT hx hB hm hU h.de g1 g2 (hv.env.rdec (hU z (by simp))) hv.hS hAA hw (by omega) hC4 (by omega) hv.due hv.tk E hv.hE h.da h.dm g3 g4 _ g5 _ _ hM1 hA1 lf _ rfl e1 _ _ _ _ rfl rfl rfl hl G hG hv.gv rfl hst
        | false => exact rsw_endlnf (eI := (e : Int)) (aI := (a : Int)) (mI := (m : Int)) hT hx hB hm hU h.de g1 g2 (hv.env.rdec (hU z (by simp))) hv.hS hAA hw (by omega) hC4 (by omega) hv.due hv.tk E hv.hE h.da h.dm g3 g4 _ g5 _ _ hM1 hA1 lf _ rfl e1 _ _ _ _ rfl rfl rfl hl G hG hv.gv rfl hst
  have hl2 : (z :: z :: R).length - 2 = R.length := rfl
  by_cases hn : R.length < Q.length
  · rw [if_pos hn]
    obtain ⟨n1, q, n2, n3, n4, n5, n6⟩ := askL_no Q ⟨z :: z :: R, 2, k0, a0, wn0, p0, false⟩ rfl (by show 2 ≤ R.length + 1 + 1; omega) (by show R.length + 1 + 1 < 2 + Q.length; omega)
    refine (key true n1).mono ?_
    rintro e' w' ⟨he, hT', ht'⟩
    refine ⟨he, _, askL_H _ _, ?_, hT', ht'⟩
    rintro k a' wn p hq'
    have n2' : Q[R.length]? = some q := n2
    rw [n2'] at hq'
    cases hq'
    exact ⟨n3, n4, n5, n6⟩
  · rw [if_neg hn]
    have n1 := askL_yes Q ⟨z :: z :: R, 2, k0, a0, wn0, p0, false⟩ rfl (by show 2 + Q.length ≤ R.length + 1 + 1; omega)
    refine (key false n1).mono ?_
    rintro e' w' ⟨he, hT', ht'⟩
    refine ⟨he, _, askL_H _ _, ?_, hT', ht'⟩
    rintro k a' wn p hq'
    rw [List.getElem?_eq_none (by omega)] at hq'
    cases hq'
end
end Go.Proofs.YtnodeojeijekcaaGreat
/- The machine's state against the row of answers: from any state there is a way to the end, and on it the document says the same. Conditions: the page is the plan's; the cells are words. -/
namespace Go.Proofs.YtnodeojeijekcaaGreat
open Go.RowKit
set_option linter.unusedVariables false
/-- what stays, as the machine reckons it -/
def kpI (A a m : Int) : Int := if A == 2 then bits .and .u64 (bits .and .u64 a m) 1 else bits .and .u64 a m
theorem u1 : U64 1 := ⟨by decide, by decide⟩
theorem lf_kp {A a m : Int} (ha : U64 a) (hm : U64 m) : lfI A a m = kpI A a m := by
  unfold lfI kpI
  cases hA : (A == 2) with
  | false => rfl
  | true =>
    obtain ⟨h1, h2⟩ := and_natP a m ha hm
    obtain ⟨h3, h4⟩ := and_natP _ 1 h1 u1
    rw [if_pos rfl, if_pos rfl, Int.tmod_eq_emod_of_nonneg h1.1]
    have : (1 : Int).toNat = 1 := rfl
    rw [this, Nat.and_one_is_mod] at h4
    have g1 := h1.1
    have g3 := h3.1
    omega
theorem kp_and {A a m : Int} (ha : U64 a) (hm : U64 m) : ∃ m', U64 m' ∧ kpI A a m = bits .and .u64 a m' := by
  unfold kpI
  cases hA : (A == 2) with
  | false => exact ⟨m, hm, rfl⟩
  | true =>
    rw [if_pos rfl]
    obtain ⟨h1, h2⟩ := and_natP a m ha hm
    obtain ⟨h3, h4⟩ := and_natP _ 1 h1 u1
    obtain ⟨h5, h6⟩ := and_natP m 1 hm u1
    obtain ⟨h7, h8⟩ := and_natP a _ ha h5
    refine ⟨_, h5, ?_⟩
    rw [h2, Nat.and_assoc] at h4
    rw [h6, ← h4] at h8
    have g3 := h3.1
    have g7 := h7.1
    omega
theorem kp_U {A a m : Int} (ha : U64 a) (hm : U64 m) : U64 (kpI A a m) := by
  obtain ⟨m', h1, h2⟩ := kp_and (A := A) ha hm
  rw [h2]
  exact (and_natP a m' ha h1).1
theorem kp_freed {A a m : Int} (ha : U64 a) (hm : U64 m) : U64 (bits .andNot .u64 a (kpI A a m)) ∧ onesI (bits .andNot .u64 a (kpI A a m)) = ((plcs a.toNat 64).length : Int) - ((plcs (kpI A a m).toNat 64).length : Int) := by
  obtain ⟨m', h1, h2⟩ := kp_and (A := A) ha hm
  rw [h2]
  exact ones_left a m' ha h1
/-- what the machine says of itself is what the document says -/
def Fl (σ : Sw) (r : Swr) : Prop := (σ.nx == 0) = r.ov ∧ σ.sw = r.sw ∧ (σ.sw && σ.kp == 0) = r.em ∧ σ.bl = r.bl ∧ (σ.sw = false → r.fr = 0) ∧ (σ.sw = true → U64 (bits .andNot .u64 σ.al σ.kp) ∧ r.fr = onesI (bits .andNot .u64 σ.al σ.kp))
/-- a step: this access, of this kind, of this cell -/
def StpOk (σ σ' : Sw) (k wn pt : Int) (cs : List Int) (i : Nat) : Prop := ∀ (w0 w : World) (B a c p m n : Nat) (K : List Nat) (xs : List Value), SwS w0 B a c p m σ cs xs n K 15 true w → MaR p m K → n < 1000000 →
  Calls Tryz.prog 12 #[.pointer (some ⟨m, 0, none⟩), .pointer (some ⟨p, 0, none⟩)] w fun e' w' => e' = .returned (.bool (σ'.nx == 0)) ∧ SwS w0 B a c p m σ' (cs.set i (leftI k (cs.getD i 0) wn pt)) (xs ++ accV 15 k i wn pt (cs.getD i 0) (leftI k (cs.getD i 0) wn pt)) (n + 1) K 15 false w'
def Ok (P T who cy pg : Int) : Nat → Sw → List Int → Prop
  | 0, σ, H => ∃ r, r.ov = true ∧ DocIs P T who cy pg H r none ∧ Fl σ r
  | n + 1, σ, H => (∃ r, r.ov = true ∧ DocIs P T who cy pg H r none ∧ Fl σ r) ∨ ∃ k wn pt, ∃ i : Nat, i < cellsN P T 1 ∧ (1 ≤ k ∧ k ≤ 4) ∧ (U64 wn ∧ U64 pt) ∧ DocIs P T who cy pg H rw0 (some (k, (i : Int), wn, pt)) ∧ Fl σ rw0 ∧
      ∀ cs, cs.length = cellsN P T 1 → (∀ z ∈ cs, U64 z) → ∃ σ', StpOk σ σ' k wn pt cs i ∧ Ok P T who cy pg n σ' (H ++ [cs.getD i 0])
section
variable {P T who cy pg z A C S D Y : Int} {e a m : Nat}
theorem Ok.up {n : Nat} {σ : Sw} {H : List Int} (h : Ok P T who cy pg n σ H) : Ok P T who cy pg (n + 1) σ H := by
  induction n generalizing σ H with
  | zero => exact Or.inl h
  | succ n ih =>
    rcases h with h | ⟨k, wn, pt, i, h1, h2, h3, h4, h5, h6⟩
    · exact Or.inl h
    · refine Or.inr ⟨k, wn, pt, i, h1, h2, h3, h4, h5, fun cs hc hu => ?_⟩
      obtain ⟨σ', g1, g2⟩ := h6 cs hc hu
      exact ⟨σ', g1, ih g2⟩
theorem Ok.mono {n n' : Nat} {σ : Sw} {H : List Int} (h : Ok P T who cy pg n σ H) (hn : n ≤ n') : Ok P T who cy pg n' σ H := by
  induction hn with
  | refl => exact h
  | step _ ih => exact ih.up
theorem fl_on {σ : Sw} (h1 : (σ.nx == 0) = false) (h2 : σ.sw = false) (h3 : σ.bl = false) : Fl σ rw0 :=
  ⟨h1, h2, by rw [h2]; rfl, h3, fun _ => rfl, fun h => by rw [h2] at h; cases h⟩
theorem fl_off {σ : Sw} {b : Bool} (h1 : σ.nx = 0) (h2 : σ.sw = false) (h3 : σ.bl = b) : Fl σ ⟨true, false, false, b, 0⟩ :=
  ⟨by rw [h1]; rfl, h2, by rw [h2]; rfl, h3, fun _ => rfl, fun h => by rw [h2] at h; cases h⟩
/-- the machine behind its claim -/
def fnS (P T who cy pg z A C S D Y ma al kp tl nx : Int) : Sw := ⟨P, T, 1, who, cy, pg, nx, z, A, C, S, D, Y, ma, al, kp, tl, false, false⟩
/-- all that stays fixed behind the claim -/
structure FnK (P T who cy pg z A C S D Y E G : Int) (e a m : Nat) : Prop where
  pk : PgK P T who cy pg e a m
  dv : DuV P T who cy pg z A C S D Y E
  hb : beyB P pg A C = false
  hC : (A == 2) = true → 1 ≤ C ∧ C ≤ 4
  hG : encE A C 0 0 cy = G
  UG : U64 G
/-- the answers, and what was read -/
structure FnA (A C pg T va vm lf G : Int) (e a m : Nat) (R : List Int) (Q : List (Int × Int × Int × Int)) : Prop where
  ha : R.getD 1 0 = va
  hm : R.getD 0 0 = vm
  hlf : lfI A va vm = lf
  hQ : finQ e a m T pg A C lf G = Q
variable {E G va vm lf : Int} {R : List Int} {Q : List (Int × Int × Int × Int)}
theorem fn_doc (h : FnK P T who cy pg z A C S D Y E G e a m) (hA : FnA A C pg T va vm lf G e a m R Q) (hl : R.length < Q.length) {q : Int × Int × Int × Int} (hq : Q[R.length]? = some q) : DocIs P T who cy pg (z :: z :: R) rw0 (some q) := by
  have := doc_fin h.pk h.dv h.hb h.hC h.hG R hA.ha hA.hm hA.hlf Q hA.hQ
  rw [if_pos hl, hq] at this
  exact this
theorem fn_over (h : FnK P T who cy pg z A C S D Y E G e a m) (hA : FnA A C pg T va vm lf G e a m R Q) (hl : R.length = Q.length) (Ua : U64 va) (Um : U64 vm) (ma tl : Int) :
    Ok P T who cy pg 0 { fnS P T who cy pg z A C S D Y ma va (kpI A va vm) tl 0 with sw := true } (z :: z :: R) := by
  have := doc_fin h.pk h.dv h.hb h.hC h.hG R hA.ha hA.hm hA.hlf Q hA.hQ
  rw [if_neg (by omega), List.getElem?_eq_none (by omega)] at this
  refine ⟨_, ?_, this, ?_⟩
  · rfl
  · have hk := kp_freed (A := A) Ua Um
    have hf := hA.hlf
    rw [lf_kp Ua Um] at hf
    subst hf
    exact ⟨rfl, rfl, rfl, rfl, fun h => (by cases h), fun _ => ⟨hk.1, hk.2.symm⟩⟩
theorem getD_app {R : List Int} (x : Int) (j : Nat) (h : j < R.length) : (R ++ [x]).getD j 0 = R.getD j 0 := by
  rw [List.getD_eq_getElem?_getD, List.getD_eq_getElem?_getD, List.getElem?_append_left h]
theorem FnA.app (hA : FnA A C pg T va vm lf G e a m R Q) (h : 2 ≤ R.length) (x : Int) : FnA A C pg T va vm lf G e a m (R ++ [x]) Q :=
  ⟨by rw [getD_app _ _ (by omega)]; exact hA.ha, by rw [getD_app _ _ (by omega)]; exact hA.hm, hA.hlf, hA.hQ⟩
theorem finQ_length : (finQ e a m T pg A C lf G).length = 5 + (tlQ T pg A C lf).length := by
  simp [finQ]
  omega
theorem leftI_two (z v : Int) : leftI 2 z 0 v = v := rfl
theorem leftI_one (z : Int) : leftI 1 z 0 0 = z := rfl
/-- the last access -/
theorem fn_last (h : FnK P T who cy pg z A C S D Y E G e a m) (hA : FnA A C pg T va vm lf G e a m R Q) (hl : R.length + 1 = Q.length) (Ua : U64 va) (Um : U64 vm) (h2 : 2 ≤ R.length) (ma tl : Int) :
    Ok P T who cy pg 1 (fnS P T who cy pg z A C S D Y ma va (kpI A va vm) tl 9) (z :: z :: R) := by
  have hf := hA.hlf
  rw [lf_kp Ua Um] at hf
  have hlast : Q[R.length]? = some (2, (e : Int), 0, endW lf G) := by
    have e1 : Q = ([(1, (m : Int), 0, 0), (1, (a : Int), 0, 0), (2, (a : Int), 0, lf), (2, (m : Int), 0, 0)] ++ tlQ T pg A C lf) ++ [(2, (e : Int), 0, endW lf G)] := by
      rw [← hA.hQ, finQ, List.append_assoc]
    rw [e1] at hl ⊢
    rw [List.length_append (bs := [_])] at hl
    have hl' : R.length = (([(1, (m : Int), 0, 0), (1, (a : Int), 0, 0), (2, (a : Int), 0, lf), (2, (m : Int), 0, 0)] ++ tlQ T pg A C lf) : List (Int × Int × Int × Int)).length := by
      have : ([(2, (e : Int), 0, endW lf G)] : List (Int × Int × Int × Int)).length = 1 := rfl
      omega
    rw [hl', List.getElem?_append_right (Nat.le_refl _), Nat.sub_self]
    rfl
  have hU : U64 (endW lf G) := by
    unfold endW
    split
    · exact ⟨by decide, by decide⟩
    · exact h.UG
  refine Or.inr ⟨2, 0, endW lf G, e, h.pk.le, ⟨by decide, by decide⟩, ⟨⟨by decide, by decide⟩, hU⟩, fn_doc h hA (by omega) hlast, fl_on rfl rfl rfl, fun cs hc hu => ?_⟩
  refine ⟨{ fnS P T who cy pg z A C S D Y ma va (kpI A va vm) tl 0 with sw := true }, ?_, ?_⟩
  · intro w0 w B a' c p s n K xs hS hr hn
    have hv : endW lf G = if lf == 0 then 0 else G := rfl
    have := swStep_end (cs.getD e 0) rfl h.pk.re (endW lf G) (fun W hW => by
      rw [← hf] at hv
      cases hk : (kpI A va vm == 0) with
      | true =>
        rw [← hf, hv, hk]
        exact swLast_zero hW (show kpI A va vm = 0 by simpa using hk)
      | false =>
        rw [← hf, hv, hk]
        have := swLast_some hW hk h.dv.gv
        have hG : encE A C 0 0 cy = G := h.hG
        rw [if_neg (by simp), ← hG]
        exact this) hS hr hn rfl (by rw [hc]; exact h.pk.le)
    rw [leftI_two]
    exact this
  · have := fn_over h (hA.app h2 (cs.getD e 0)) (by rw [List.length_append]; exact hl) Ua Um ma tl
    exact this
theorem tailQ_get (tab pg : Int) : ∀ N j, j < N → (tailQ tab pg N)[N - 1 - j]? = some (2, wrap64 (tab + (pg + ((j : Int) + 1))), 0, 0)
  | 0, j, h => by omega
  | N + 1, j, h => by
    by_cases hj : j = N
    · subst hj
      rw [show j + 1 - 1 - j = 0 by omega, tailQ]
      rfl
    · rw [show N + 1 - 1 - j = (N - 1 - j) + 1 by omega, tailQ, List.getElem?_cons_succ]
      exact tailQ_get tab pg N j (by omega)
theorem finQ_tail {N j : Nat} (ht : tlQ T pg A C lf = tailQ (tabI T 1) pg N) (h : j < N) (hQ : finQ e a m T pg A C lf G = Q) : Q[4 + (N - 1 - j)]? = some (2, wrap64 (tabI T 1 + (pg + ((j : Int) + 1))), 0, 0) := by
  have h4 : ([(1, (m : Int), 0, 0), (1, (a : Int), 0, 0), (2, (a : Int), 0, lf), (2, (m : Int), 0, 0)] : List (Int × Int × Int × Int)).length = 4 := rfl
  rw [← hQ, finQ, List.getElem?_append_right (by rw [h4]; omega), h4, Nat.add_sub_cancel_left, ht, List.getElem?_append_left (by rw [tailQ_length]; omega)]
  exact tailQ_get _ _ N j h
theorem relN_t : relN true = 10 := rfl
theorem relN_f : relN false = 9 := rfl
theorem pg_of (h : PgK P T who cy pg e a m) {j : Int} (hj : 0 ≤ j ∧ pg + j < P) : ∃ i : Nat, rowI P T 1 0 (pg + j) = (i : Int) ∧ wrap64 (tabI T 1 + (pg + j)) = (i : Int) ∧ i < cellsN P T 1 := by
  have hP := h.hP
  have hT := h.hT
  have hp := h.hpg
  have hg : pgB P T 1 (pg + j) = true := by
    unfold pgB rightB inB
    simp only [Bool.and_eq_true, decide_eq_true_eq]
    omega
  obtain ⟨i, h1, h2, h3, h4⟩ := row_yes 0 hg ⟨by omega, by omega⟩
  have hb : (i : Int) = tabI T 1 + (pg + j) := by omega
  have hc : i ≤ 2304 := by
    have := cellsN_bd (P := P) (T := T) (R := 1) (right_of (by unfold rightB inB; simp only [Bool.and_eq_true, decide_eq_true_eq]; omega))
    omega
  exact ⟨i, h1, by rw [← hb]; exact IntWalk.wrap64_in _ (by omega), h3⟩
/-- the tails, one by one: j of them are left -/
theorem fn_tail (h : FnK P T who cy pg z A C S D Y E G e a m) (Ua : U64 va) (Um : U64 vm) (hA2 : (A == 2) = true) (hz : (lf == 0) = true) (ma : Int) : ∀ (j : Nat) (R : List Int), FnA A C pg T va vm lf G e a m R Q → (j : Int) ≤ C - 1 → R.length + j + 1 = Q.length →
    Ok P T who cy pg (j + 1) (fnS P T who cy pg z A C S D Y ma va (kpI A va vm) j (relN (decide (0 < (j : Int))))) (z :: z :: R)
  | 0, R, hA, hj, hl => by
    have hq : Q.length = 5 + (tlQ T pg A C lf).length := by rw [← hA.hQ]; exact finQ_length
    exact fn_last h hA (by omega) Ua Um (by omega) ma 0
  | j + 1, R, hA, hj, hl => by
    have hC := h.hC hA2
    have hb := h.hb
    unfold beyB at hb
    rw [hA2, Bool.true_and] at hb
    have hb := of_decide_eq_false hb
    have ht : tlQ T pg A C lf = tailQ (tabI T 1) pg (C - 1).toNat := by rw [tlQ, hA2, hz]; rfl
    have hq : Q.length = 5 + (C - 1).toNat := by rw [← hA.hQ, finQ_length, ht, tailQ_length]
    have hf := hA.hlf
    rw [lf_kp Ua Um] at hf
    have hP := h.pk.hP
    have hpg := h.pk.hpg
    obtain ⟨i, i1, i2, i3⟩ := pg_of h.pk (j := ((j : Int) + 1)) (by omega)
    have hget := finQ_tail (j := j) ht (by omega) hA.hQ
    rw [show 4 + ((C - 1).toNat - 1 - j) = R.length by omega, i2] at hget
    have e1 : decide (0 < ((j + 1 : Nat) : Int)) = true := decide_eq_true (by omega)
    rw [e1, relN_t]
    refine Or.inr ⟨2, 0, 0, i, i3, ⟨by decide, by decide⟩, ⟨⟨by decide, by decide⟩, ⟨by decide, by decide⟩⟩, fn_doc h hA (by omega) hget, fl_on rfl rfl rfl, fun cs hc hu => ?_⟩
    refine ⟨fnS P T who cy pg z A C S D Y ma va (kpI A va vm) j (relN (decide (0 < (j : Int)))), ?_, ?_⟩
    · intro w0 w B a' c p s n K xs hS hr hn
      have ek : (kpI A va vm == 0) = true := by rw [hf]; exact hz
      have et : ((j + 1 : Nat) : Int) = (j : Int) + 1 := by omega
      rw [et] at hS
      have es : (j : Int) + 1 - 1 = j := by omega
      have hw : wrap64 (pg + ((j : Int) + 1)) = pg + ((j : Int) + 1) := IntWalk.wrap64_in _ (by omega)
      have hw2 : wrap64 ((j : Int) + 1 - 1) = (j : Int) + 1 - 1 := IntWalk.wrap64_in _ (by omega)
      have := swStep_tail (σ := fnS P T who cy pg z A C S D Y ma va (kpI A va vm) ((j : Int) + 1) 10) (cs.getD i 0) rfl i1 hw (IntWalk.i64_in _ (by show _ ≤ pg + ((j : Int) + 1) ∧ pg + ((j : Int) + 1) ≤ _; omega)) hw2 (decide (0 < (j : Int))) (by
        show (kpI A va vm == 0 && decide (0 < (j : Int) + 1 - 1)) = _
        rw [ek, es, Bool.true_and]) hS hr hn rfl (by rw [hc]; exact i3)
      rw [leftI_two]
      refine this.mono ?_
      rintro e' w' ⟨he, hS'⟩
      have ef : ({ fnS P T who cy pg z A C S D Y ma va (kpI A va vm) ((j : Int) + 1) 10 with tl := (j : Int) + 1 - 1, nx := relN (decide (0 < (j : Int))) } : Sw) = fnS P T who cy pg z A C S D Y ma va (kpI A va vm) j (relN (decide (0 < (j : Int)))) := by rw [es]; rfl
      have hS2 := ef ▸ hS'
      refine ⟨?_, hS2⟩
      rw [he]
      cases decide (0 < (j : Int)) <;> rfl
    · have := fn_tail h Ua Um hA2 hz ma j (R ++ [cs.getD i 0]) (hA.app (by omega) _) (by omega) (by rw [List.length_append]; show R.length + 1 + j + 1 = Q.length; omega)
      exact this
/-- the marks are cleared -/
theorem fn_clear (h : FnK P T who cy pg z A C S D Y E G e a m) (hA : FnA A C pg T va vm lf G e a m R Q) (hl : R.length = 3) (Ua : U64 va) (Um : U64 vm) (ma : Int) :
    Ok P T who cy pg 6 (fnS P T who cy pg z A C S D Y ma va (kpI A va vm) (if A == 2 then C - 1 else 0) 8) (z :: z :: R) := by
  have hf := hA.hlf
  rw [lf_kp Ua Um] at hf
  have hq : Q.length = 5 + (tlQ T pg A C lf).length := by rw [← hA.hQ]; exact finQ_length
  have hget : Q[R.length]? = some (2, (m : Int), 0, 0) := by rw [hl, ← hA.hQ]; rfl
  refine Or.inr ⟨2, 0, 0, m, h.pk.lm, ⟨by decide, by decide⟩, ⟨⟨by decide, by decide⟩, ⟨by decide, by decide⟩⟩, fn_doc h hA (by omega) hget, fl_on rfl rfl rfl, fun cs hc hu => ?_⟩
  refine ⟨fnS P T who cy pg z A C S D Y ma va (kpI A va vm) (if A == 2 then C - 1 else 0) (relN (kpI A va vm == 0 && decide (0 < (if A == 2 then C - 1 else 0)))), ?_, ?_⟩
  · intro w0 w B a' c p s n K xs hS hr hn
    have := swStep_clear (σ := fnS P T who cy pg z A C S D Y ma va (kpI A va vm) (if A == 2 then C - 1 else 0) 8) (cs.getD m 0) rfl h.pk.rm (kpI A va vm == 0 && decide (0 < (if A == 2 then C - 1 else 0))) rfl hS hr hn rfl (by rw [hc]; exact h.pk.lm)
    rw [leftI_two]
    refine this.mono ?_
    rintro e' w' ⟨he, hS'⟩
    refine ⟨?_, hS'⟩
    rw [he]
    generalize (kpI A va vm == 0 && decide (0 < (if A == 2 then C - 1 else 0))) = b
    cases b <;> rfl
  · have hA' := hA.app (by omega) (cs.getD m 0)
    have hl' : (R ++ [cs.getD m 0]).length = 4 := by rw [List.length_append, hl]; rfl
    show Ok P T who cy pg 5 _ (z :: z :: (R ++ [cs.getD m 0]))
    cases hA2 : (A == 2) with
    | false =>
      have e2 : tlQ T pg A C lf = [] := by rw [tlQ, hA2, Bool.and_false]; rfl
      rw [e2] at hq
      have := fn_last h hA' (by rw [hl', hq]; rfl) Ua Um (by omega) ma 0
      have e3 : (kpI A va vm == 0 && decide (0 < (if false = true then C - 1 else (0 : Int)))) = false := by
        rw [show decide (0 < (if false = true then C - 1 else (0 : Int))) = false from rfl, Bool.and_false]
      rw [e3]
      exact this.mono (by omega)
    | true =>
      have hC := h.hC hA2
      show Ok P T who cy pg 5 (fnS P T who cy pg z A C S D Y ma va (kpI A va vm) (C - 1) (relN (kpI A va vm == 0 && decide (0 < C - 1)))) _
      cases hz : (lf == 0) with
      | true =>
        have e2 : tlQ T pg A C lf = tailQ (tabI T 1) pg (C - 1).toNat := by rw [tlQ, hA2, hz]; rfl
        rw [e2, tailQ_length] at hq
        have := fn_tail h Ua Um hA2 hz ma (C - 1).toNat _ hA' (by omega) (by rw [hl', hq]; omega)
        have e4 : ((C - 1).toNat : Int) = C - 1 := by omega
        rw [e4] at this
        rw [hf, hz, Bool.true_and]
        rw [hf] at this
        exact this.mono (by omega)
      | false =>
        have e2 : tlQ T pg A C lf = [] := by rw [tlQ, hz, Bool.false_and]; rfl
        rw [e2] at hq
        have := fn_last h hA' (by rw [hl', hq]; rfl) Ua Um (by omega) ma (C - 1)
        rw [hf, hz, Bool.false_and]
        rw [hf] at this
        exact this.mono (by omega)
/-- what stays is stored -/
theorem fn_store (h : FnK P T who cy pg z A C S D Y E G e a m) (hA : FnA A C pg T va vm lf G e a m R Q) (hl : R.length = 2) (Ua : U64 va) (Um : U64 vm) (ma : Int) :
    Ok P T who cy pg 7 (fnS P T who cy pg z A C S D Y ma va (kpI A va vm) (if A == 2 then C - 1 else 0) 6) (z :: z :: R) := by
  have hf := hA.hlf
  rw [lf_kp Ua Um] at hf
  have hq : Q.length = 5 + (tlQ T pg A C lf).length := by rw [← hA.hQ]; exact finQ_length
  have hget : Q[R.length]? = some (2, (a : Int), 0, lf) := by rw [hl, ← hA.hQ]; rfl
  have hU : U64 lf := by rw [← hf]; exact kp_U Ua Um
  refine Or.inr ⟨2, 0, lf, a, h.pk.la, ⟨by decide, by decide⟩, ⟨⟨by decide, by decide⟩, hU⟩, fn_doc h hA (by omega) hget, fl_on rfl rfl rfl, fun cs hc hu => ?_⟩
  refine ⟨fnS P T who cy pg z A C S D Y ma va (kpI A va vm) (if A == 2 then C - 1 else 0) 8, ?_, ?_⟩
  · intro w0 w B a' c p s n K xs hS hr hn
    have := swStep_store (σ := fnS P T who cy pg z A C S D Y ma va (kpI A va vm) (if A == 2 then C - 1 else 0) 6) (cs.getD a 0) rfl h.pk.ra hS hr hn rfl (by rw [hc]; exact h.pk.la)
    rw [leftI_two, ← hf]
    exact this
  · exact fn_clear h (hA.app (by omega) (cs.getD a 0)) (by rw [List.length_append, hl]; rfl) Ua Um ma
theorem getD_U {cs : List Int} (hu : ∀ z ∈ cs, U64 z) {i : Nat} (hi : i < cs.length) : U64 (cs.getD i 0) := by
  rw [List.getD_eq_getElem?_getD, List.getElem?_eq_getElem hi]
  exact hu _ (List.getElem_mem hi)
/-- Alloc is loaded -/
theorem fn_alloc (h : FnK P T who cy pg z A C S D Y E G e a m) (Um : U64 vm) :
    Ok P T who cy pg 8 (fnS P T who cy pg z A C S D Y vm 0 0 0 5) (z :: z :: [vm]) := by
  have hA : FnA A C pg T 0 vm (lfI A 0 vm) G e a m [vm] (finQ e a m T pg A C (lfI A 0 vm) G) := ⟨rfl, rfl, rfl, rfl⟩
  refine Or.inr ⟨1, 0, 0, a, h.pk.la, ⟨by decide, by decide⟩, ⟨⟨by decide, by decide⟩, ⟨by decide, by decide⟩⟩, fn_doc h hA (by rw [finQ_length]; show 1 < _; omega) rfl, fl_on rfl rfl rfl, fun cs hc hu => ?_⟩
  have Ua : U64 (cs.getD a 0) := getD_U hu (by rw [hc]; exact h.pk.la)
  refine ⟨fnS P T who cy pg z A C S D Y vm (cs.getD a 0) (kpI A (cs.getD a 0) vm) (if A == 2 then C - 1 else 0) 6, ?_, ?_⟩
  · intro w0 w B a' c p s n K xs hS hr hn
    rw [leftI_one, set_sameP]
    refine swStep_alloc (σ := fnS P T who cy pg z A C S D Y vm 0 0 0 5) (σ' := fnS P T who cy pg z A C S D Y vm (cs.getD a 0) (kpI A (cs.getD a 0) vm) (if A == 2 then C - 1 else 0) 6) ⟨rfl, rfl, rfl, rfl⟩ (cs.getD a 0) rfl h.pk.ra (fun W xs' hW => ?_) hS hr hn rfl (by rw [hc]; exact h.pk.la)
    cases hA2 : (A == 2) with
    | false =>
      have := swCompare_small hW hr (cs.getD a 0) hA2
      rw [kpI, hA2]
      exact this
    | true =>
      have hC := h.hC hA2
      have := swCompare_large hW hr (cs.getD a 0) (show A = 2 by simpa using hA2) (show 1 ≤ C ∧ C ≤ 15 by omega)
      rw [kpI, hA2]
      exact this
  · exact fn_store h (R := [vm, cs.getD a 0]) (Q := finQ e a m T pg A C (lfI A (cs.getD a 0) vm) G) ⟨rfl, rfl, rfl, rfl⟩ rfl Ua Um vm
/-- Mark is loaded -/
theorem fn_mark (h : FnK P T who cy pg z A C S D Y E G e a m) :
    Ok P T who cy pg 9 (fnS P T who cy pg z A C S D Y 0 0 0 0 4) (z :: z :: []) := by
  have hA : FnA A C pg T 0 0 (lfI A 0 0) G e a m [] (finQ e a m T pg A C (lfI A 0 0) G) := ⟨rfl, rfl, rfl, rfl⟩
  refine Or.inr ⟨1, 0, 0, m, h.pk.lm, ⟨by decide, by decide⟩, ⟨⟨by decide, by decide⟩, ⟨by decide, by decide⟩⟩, fn_doc h hA (by rw [finQ_length]; show 0 < _; omega) rfl, fl_on rfl rfl rfl, fun cs hc hu => ?_⟩
  have Um : U64 (cs.getD m 0) := getD_U hu (by rw [hc]; exact h.pk.lm)
  refine ⟨fnS P T who cy pg z A C S D Y (cs.getD m 0) 0 0 0 5, ?_, fn_alloc h Um⟩
  intro w0 w B a' c p s n K xs hS hr hn
  rw [leftI_one, set_sameP]
  exact swStep_mark (σ := fnS P T who cy pg z A C S D Y 0 0 0 0 4) (cs.getD m 0) rfl h.pk.rm hS hr hn rfl (by rw [hc]; exact h.pk.lm)
end
end Go.Proofs.YtnodeojeijekcaaGreat
/- A sweep, from its first access to its end, against the document's. Conditions: the page is the plan's, the worker and the cycle are right. -/
namespace Go.Proofs.YtnodeojeijekcaaGreat
open Go.RowKit
set_option linter.unusedVariables false
theorem inB_mk {n a b : Int} (h : a ≤ n ∧ n ≤ b) : inB n a b = true := decide_eq_true h
/-- a page that is due holds something, and is nobody's -/
theorem due_parts {k c s o y cy : Int} (h : dueB k c s o y cy = true) : entB k c s o y = true ∧ (k = 1 ∨ k = 2) ∧ s = 0 ∧ y < cy := by
  unfold dueB at h
  simp only [Bool.and_eq_true, decide_eq_true_eq, beq_iff_eq] at h
  obtain ⟨h1, h2, h3, h4⟩ := h
  refine ⟨h1, ?_, h3, h4⟩
  unfold holdsB at h2
  simpa using h2
theorem kind_parts {k c s o y : Int} (h : entB k c s o y = true) (hk : k = 1 ∨ k = 2) : inB y 0 4294967295 = true ∧ (∀ s' o' y', inB y' 0 4294967295 = true → statB k s' o' = true → entB k c s' o' y' = true) ∧ (k = 2 → 1 ≤ c ∧ c ≤ 4) := by
  unfold entB at h ⊢
  simp only [Bool.and_eq_true] at h ⊢
  obtain ⟨⟨h1, h2⟩, h3⟩ := h
  rcases hk with rfl | rfl
  · exact ⟨h1, fun _ _ _ a b => ⟨⟨a, b⟩, h3⟩, fun h => by omega⟩
  · exact ⟨h1, fun _ _ _ a b => ⟨⟨a, b⟩, h3⟩, fun _ => inB_true h3⟩
theorem holds_of {k : Int} (hk : k = 1 ∨ k = 2) : holdsB k = true := by
  rcases hk with rfl | rfl <;> rfl
section
variable {P T who cy pg z A C S D Y E G : Int} {e a m : Nat}
theorem dv_of (h : PgK P T who cy pg e a m) (hv : EnV z A C S D Y) (hd : dueB A C S D Y cy = true) : DuV P T who cy pg z A C S D Y (encE A C 2 who Y) ∧ ((A == 2) = true → 1 ≤ C ∧ C ≤ 4) ∧ U64 (encE A C 2 who Y) ∧ U64 (encE A C 0 0 cy) := by
  obtain ⟨h1, h2, h3, h4⟩ := due_parts hd
  obtain ⟨g1, g2, g3⟩ := kind_parts h1 h2
  have hh := holds_of h2
  have ew : entB A C 2 who Y = true := g2 _ _ _ g1 (by
    unfold statB
    have hw := h.who
    unfold workB at hw
    rw [hh, hw]
    rfl)
  have eg : entB A C 0 0 cy = true := g2 _ _ _ h.cyc rfl
  refine ⟨⟨hv, hd, by rw [h3]; rfl, ?_, ?_, rfl⟩, fun hA => g3 (by simpa using hA), (decE_of ew).1, (decE_of eg).1⟩
  · unfold tkB
    rw [h1, ew]
    rfl
  · unfold gvB
    rw [hh, h1, eg]
    rfl
theorem leftI_four (z wn pt : Int) : leftI 4 z wn pt = casI z wn pt := rfl
/-- the claim -/
theorem ok_claim (h : FnK P T who cy pg z A C S D Y E G e a m) (Uz : U64 z) (UE : U64 E) :
    Ok P T who cy pg 10 (fnS P T who cy pg z A C S D Y 0 0 0 0 2) [z] := by
  refine Or.inr ⟨4, z, E, e, h.pk.le, ⟨by decide, by decide⟩, ⟨Uz, UE⟩, doc_1 h.pk h.dv h.hb, fl_on rfl rfl rfl, fun cs hc hu => ?_⟩
  refine ⟨takS (cs.getD e 0 == z) (fnS P T who cy pg z A C S D Y 0 0 0 0 2), ?_, ?_⟩
  · intro w0 w B a' c p s n K xs hS hr hn
    rw [leftI_four]
    exact swStep_take (σ := fnS P T who cy pg z A C S D Y 0 0 0 0 2) (cs.getD e 0) _ E _ rfl h.dv.hE rfl rfl h.pk.re h.dv.tk hS hr hn rfl (by rw [hc]; exact h.pk.le)
  · cases hz : (cs.getD e 0 == z) with
    | true =>
      have hz' : cs.getD e 0 = z := by simpa using hz
      rw [hz']
      exact fn_mark h
    | false =>
      have : Ok P T who cy pg 0 (takS false (fnS P T who cy pg z A C S D Y 0 0 0 0 2)) [z, cs.getD e 0] :=
        ⟨⟨true, false, false, true, 0⟩, rfl, doc_lost h.pk h.dv h.hb hz, fl_off rfl rfl rfl⟩
      exact this.mono (by omega)
/-- the whole -/
theorem ok_start (h : PgK P T who cy pg e a m) : Ok P T who cy pg 11 (sw0 P T 1 who cy pg) [] := by
  refine Or.inr ⟨1, 0, 0, e, h.le, ⟨by decide, by decide⟩, ⟨⟨by decide, by decide⟩, ⟨by decide, by decide⟩⟩, doc_0 h, fl_on rfl rfl rfl, fun cs hc hu => ?_⟩
  have he : e < cs.length := by rw [hc]; exact h.le
  have Uz : U64 (cs.getD e 0) := getD_U hu he
  show ∃ σ', StpOk _ σ' 1 0 0 cs e ∧ Ok P T who cy pg 10 σ' [cs.getD e 0]
  have hpg := h.hpg
  have hP := h.hP
  -- the step, once it is known what the machine makes of the word
  have step : ∀ σ' : Sw, (σ'.P = P ∧ σ'.T = T ∧ σ'.R = 1 ∧ σ'.pg = pg) → (∀ (w0 W : World) (B a c p m n : Nat) (K : List Nat) (xs : List Value), SwS w0 B a c p m (sw0 P T 1 who cy pg) cs xs n K 15 false W → MaR p m K → Calls Tryz.prog 47 #[.pointer (some ⟨m, 0, none⟩), .int .u64 (cs.getD e 0)] W fun e w' => (∃ v, e = .returned v) ∧ SwS w0 B a c p m σ' cs xs n K 15 false w') → StpOk (sw0 P T 1 who cy pg) σ' 1 0 0 cs e := by
    intro σ' hf EX w0 w B a' c p s n K xs hS hr hn
    rw [leftI_one, set_sameP]
    exact swStep_load (σ := sw0 P T 1 who cy pg) (σ' := σ') hf (cs.getD e 0) rfl h.re (fun W xs' hW => EX w0 W B a' c p s (n + 1) K xs' hW hr) hS hr hn rfl he
  cases hz : edecOk (cs.getD e 0) with
  | false =>
    refine ⟨{ sw0 P T 1 who cy pg with nx := 0 }, step _ ⟨rfl, rfl, rfl, rfl⟩ (fun w0 W B a c p m n K xs hW hr => swEx_none hW hr _ Uz hz), ?_⟩
    have : Ok P T who cy pg 0 { sw0 P T 1 who cy pg with nx := 0 } [cs.getD e 0] := ⟨_, rfl, doc_form h hz, fl_off rfl rfl rfl⟩
    exact this.mono (by omega)
  | true =>
    have hv : EnV (cs.getD e 0) (cs.getD e 0 % 4) (cs.getD e 0 / 4 % 16) (cs.getD e 0 / 64 % 4) (cs.getD e 0 / 256 % 16) (cs.getD e 0 / 65536 % 4294967296) := ⟨hz, rfl, rfl, rfl, rfl, rfl⟩
    generalize cs.getD e 0 = z at *
    generalize z % 4 = A at *
    generalize z / 4 % 16 = C at *
    generalize z / 64 % 4 = S at *
    generalize z / 256 % 16 = D at *
    generalize z / 65536 % 4294967296 = Y at *
    have hbd := entB_bd hv.bd
    have hD := fun W => hv.dec Uz W
    cases hd : dueB A C S D Y cy with
    | false =>
      cases hS : (S == 2) with
      | true =>
        have hS2 : S = 2 := by simpa using hS
        refine ⟨{ sw0 P T 1 who cy pg with nx := 0, bl := decide (Y < cy) }, step _ ⟨rfl, rfl, rfl, rfl⟩ (fun w0 W B a c p m n K xs hW hr => swEx_busy hW hr z _ hS2 (by rw [hS2] at hD; exact hD) rfl hd), ?_⟩
        have : Ok P T who cy pg 0 { sw0 P T 1 who cy pg with nx := 0, bl := decide (Y < cy) } [z] := ⟨_, rfl, doc_busy h hv hS2 _ rfl hd, fl_off rfl rfl rfl⟩
        exact this.mono (by omega)
      | false =>
        refine ⟨{ sw0 P T 1 who cy pg with nx := 0, bl := false }, step _ ⟨rfl, rfl, rfl, rfl⟩ (fun w0 W B a c p m n K xs hW hr => swEx_late hW hr z hS hD hd), ?_⟩
        have : Ok P T who cy pg 0 { sw0 P T 1 who cy pg with nx := 0, bl := false } [z] := ⟨_, rfl, doc_late h hv hS hd, fl_off rfl rfl rfl⟩
        exact this.mono (by omega)
    | true =>
      obtain ⟨dv, hC, UE, UG⟩ := dv_of h hv hd
      cases hb : beyB P pg A C with
      | true =>
        have hb' := hb
        unfold beyB at hb'
        rw [Bool.and_eq_true] at hb'
        refine ⟨{ sw0 P T 1 who cy pg with nx := 0, bl := false }, step _ ⟨rfl, rfl, rfl, rfl⟩ (fun w0 W B a c p m n K xs hW hr => swEx_bey hW hr z dv.hS (by omega) (show 0 ≤ pg ∧ pg ≤ 31 by omega) hD hd hb), ?_⟩
        have : Ok P T who cy pg 0 { sw0 P T 1 who cy pg with nx := 0, bl := false } [z] := ⟨_, rfl, doc_bey h dv (by simpa using hb'.1) (of_decide_eq_true hb'.2), fl_off rfl rfl rfl⟩
        exact this.mono (by omega)
      | false =>
        refine ⟨fnS P T who cy pg z A C S D Y 0 0 0 0 2, step _ ⟨rfl, rfl, rfl, rfl⟩ (fun w0 W B a c p m n K xs hW hr => swEx_due hW hr z dv.hS (by omega) (show 0 ≤ pg ∧ pg ≤ 31 by omega) hD hd hb), ?_⟩
        exact ok_claim ⟨h, dv, hb, hC, rfl, UG⟩ Uz UE
end
end Go.Proofs.YtnodeojeijekcaaGreat
/- What arena.repeat returns and writes, and the document's Left. No condition but that the numbers fit their kinds and the cells are there. -/
namespace Go.Proofs.YtnodeojeijekcaaGreat
open Go.RowKit
set_option linter.unusedVariables false
set_option linter.unusedSimpArgs false

/-- a slice of words of one's own: where it lies, what it holds -/
structure Rw (w : World) (B g n c : Nat) (cs : List Int) : Prop where
  own : w.ownsRow B 47 1 (.slice (some ⟨g, 0, none⟩) n c) n (cs.map (Value.int .u64))
theorem Rw.len {w : World} {B g n c : Nat} {cs : List Int} (h : Rw w B g n c cs) : cs.length = n := by have := h.own.1; simpa using this
theorem Rw.cell {w : World} {B g n c : Nat} {cs : List Int} (h : Rw w B g n c cs) (i : Nat) (hi : i < n) : w.cell? ⟨g, i, none⟩ = some (.int .u64 (cs.getD i 0)) := by
  have hl := h.len
  rw [h.own.cellAt i (by omega)]
  simp [List.getD_eq_getElem?_getD, List.getElem?_eq_getElem (show i < cs.length by omega)]
theorem Rw.frozen {w : World} {B g n c : Nat} {cs : List Int} (h : Rw w B g n c cs) (i : Nat) : w.frozen? ⟨g, i, none⟩ = false := h.own.frozenAt i
theorem Rw.lt {w : World} {B g n c : Nat} {cs : List Int} (h : Rw w B g n c cs) : B ≤ g ∧ g < w.heap.size := h.own.lt g rfl
theorem Rw.of {w w' : World} {B g n c : Nat} {cs : List Int} (h : Rw w B g n c cs) (he : w'.heap[g]? = w.heap[g]?) : Rw w' B g n c cs := by
  obtain ⟨h0⟩ := h
  refine ⟨h0.1, ?_⟩
  rcases h0.2 with ⟨h1, _⟩ | ⟨g', cap', cur, h1, h2, h3, h4⟩
  · simp at h1
  · simp only [Value.slice.injEq, Option.some.injEq, Addr.mk.injEq, and_true, true_and] at h1
    obtain ⟨rfl, rfl⟩ := h1
    exact .inr ⟨g, c, cur, rfl, h2, he.trans h3, h4⟩
theorem Rw.grew {w w' : World} {B g n c : Nat} {cs : List Int} (h : Rw w B g n c cs) (hb : Below w.heap.size w w') : Rw w' B g n c cs := h.of (hb.block g h.lt.2)
theorem Rw.touch {R : Nat → Prop} {w w' : World} {B g n c : Nat} {cs : List Int} (h : Rw w B g n c cs) (ht : Touch R w w') (hn : ¬ R g) : Rw w' B g n c cs := h.of (ht.block g h.lt.2 hn)
theorem Rw.alloc {w : World} {B g n c : Nat} {cs : List Int} (h : Rw w B g n c cs) (o : Obj) : Rw (w.alloc o) B g n c cs := ⟨h.own.alloc o⟩
theorem Rw.set {w : World} {B g n c : Nat} {cs : List Int} (h : Rw w B g n c cs) (i : Nat) (v : Int) : Rw (w.setCell ⟨g, i, none⟩ (.int .u64 v)) B g n c (cs.set i v) := ⟨by
  have := (h.own.stored i (.int .u64 v)).1
  rw [List.map_set]
  exact this⟩

theorem qleft {P : Program} {f : FuncId} {args : Array Value} {w : World} {n : Nat} {v : Value} (h : Calls P f args (w.drewN n) fun e w' => e = .returned v ∧ w.drewN n = w') :
    Calls P f args (w.drewN n) fun e w'' => e = .returned v ∧ ∃ m, w'' = w.drewN m := h.mono fun _ _ ⟨he, hw⟩ => ⟨he, n, hw.symm⟩
/-! the document's Left -/
set_option maxHeartbeats 400000 in
theorem rleft_yes (k seen want put : Int) (w : World) (hk : kindBEffe k = true) :
    Calls Tryz.prog 83 #[.int .i64 k, .int .u64 seen, .int .u64 want, .int .u64 put] w fun e w' => e = .returned (.tuple #[.int .u64 (leftI k seen want put), .bool true]) ∧ w' = w := by
  by_cases hs : seen = want
  · have h2 : (seen == want) = true := by simp [hs]
    rcases kind_cases hk with rfl | rfl | rfl | rfl | rfl | rfl
    all_goals
      clear hk
      go_enter Tryz.func83, Tryz.ntmps83
      go_wp2
      go_ret2
      refine ⟨?_, rfl⟩
      simp [leftI, hs]
  · have h2 : (seen == want) = false := by simp [hs]
    rcases kind_cases hk with rfl | rfl | rfl | rfl | rfl | rfl
    all_goals
      clear hk
      go_enter Tryz.func83, Tryz.ntmps83
      go_wp2
      go_ret2
      refine ⟨?_, rfl⟩
      simp [leftI, hs]
set_option maxHeartbeats 400000 in
theorem rleft_no (k seen want put : Int) (w : World) (hk : kindBEffe k = false) :
    Calls Tryz.prog 83 #[.int .i64 k, .int .u64 seen, .int .u64 want, .int .u64 put] w fun e w' => e = .returned (.tuple #[.int .u64 0, .bool false]) ∧ w' = w := by
  have hk' := of_decide_eq_false hk
  have e1 : (k == 1) = false := beq_eq_false_iff_ne.2 (by omega)
  have e2 : (k == 2) = false := beq_eq_false_iff_ne.2 (by omega)
  have e3 : (k == 3) = false := beq_eq_false_iff_ne.2 (by omega)
  have e4 : (k == 4) = false := beq_eq_false_iff_ne.2 (by omega)
  have e5 : (k == 5) = false := beq_eq_false_iff_ne.2 (by omega)
  have e6 : (k == 6) = false := beq_eq_false_iff_ne.2 (by omega)
  clear hk hk'
  go_enter Tryz.func83, Tryz.ntmps83
  go_wp2
  go_ret2
  exact ⟨rfl, rfl⟩

/-! repeat -/
section
variable (who k at' want put seen left : Int)
end
end Go.Proofs.YtnodeojeijekcaaGreat
/- What slices.Clone returns at a slice of words, and Image of an arena. Condition: the cells are there. -/
namespace Go.Proofs.YtnodeojeijekcaaGreat
open Go.RowKit
def ClonePost (zs : List Int) (w : World) (e : Ending) (w' : World) : Prop :=
  ∃ v, e = .returned v ∧ w'.ownsRow w.heap.size 47 1 v zs.length (zs.map (Value.int .u64)) ∧ Below w.heap.size w w'
def ImagePost (cs : List Int) (w : World) (e : Ending) (w' : World) : Prop :=
  ∃ v, e = .returned v ∧ w'.ownsRow w.heap.size 47 1 v cs.length (cs.map (Value.int .u64)) ∧ Below w.heap.size w w'
end Go.Proofs.YtnodeojeijekcaaGreat
/- What arena.Replay and the document's Replay return. Condition: the lists are there, at most 500 long. -/
namespace Go.Proofs.YtnodeojeijekcaaGreat
open Go.RowKit
set_option linter.unusedVariables false

/-- what comes of one access: the number of an error, or nothing -/
def stepE (cs : List Int) (at' k want put seen left : Int) : Int :=
  if insB cs.length at' = false then 5 else if kindBEffe k = true ∧ seen = cs.getD at'.toNat 0 ∧ left = leftI k seen want put then 0 else 4
/-- the cells behind accesses, from the i-th on; where it stopped; the error's number -/
def repl (F : Nat → Nat → Int) : Nat → Nat → List Int → Option (List Int) × Nat × Int
  | 0, _, cs => (some cs, 0, 0)
  | m + 1, i, cs => if stepE cs (F i 2) (F i 1) (F i 3) (F i 4) (F i 5) (F i 6) = 0 then repl F m (i + 1) (cs.set (F i 2).toNat (F i 6)) else (none, i, stepE cs (F i 2) (F i 1) (F i 3) (F i 4) (F i 5) (F i 6))
theorem repl_len (F : Nat → Nat → Int) : ∀ m i cs l, (repl F m i cs).1 = some l → l.length = cs.length
  | 0, _, cs, l, h => by simp only [repl, Option.some.injEq] at h; rw [h]
  | m + 1, i, cs, l, h => by
    unfold repl at h
    split at h
    · have := repl_len F m _ _ l h; simpa using this
    · cases h
def ReplayPost (r : Option (List Int) × Nat × Int) (w : World) (e : Ending) (w' : World) : Prop :=
  ∃ v, e = .returned (.tuple #[v, .int .i64 ((r.2.1 : Nat) : Int), .int .i64 r.2.2]) ∧ w'.ownsRow w.heap.size 47 1 v (r.1.getD []).length ((r.1.getD []).map (Value.int .u64)) ∧ Below w.heap.size w w'
abbrev accK (j : Nat) : IntKind := ([.i64, .i64, .i64, .u64, .u64, .u64, .u64] : List IntKind).getD j .i64

/-- the slice that holds the cells, whatever its length -/
def Held (w : World) (B : Nat) (a : Option Addr) (n c : Nat) (cs : List Int) : Prop := w.ownsRow B 47 1 (.slice a n c) n (cs.map (Value.int .u64))
theorem Held.len {w : World} {B n c : Nat} {a : Option Addr} {cs : List Int} (h : Held w B a n c cs) : cs.length = n := by have := h.1; simpa using this
theorem Held.rw {w : World} {B n c : Nat} {a : Option Addr} {cs : List Int} (h : Held w B a n c cs) (h0 : 0 < n) : ∃ g, a = some ⟨g, 0, none⟩ ∧ Rw w B g n c cs := by
  rcases h.2 with ⟨h1, h2⟩ | ⟨g, cap, cur, h1, _⟩
  · omega
  · simp only [Value.slice.injEq, true_and] at h1
    obtain ⟨rfl, rfl⟩ := h1
    exact ⟨g, rfl, ⟨h⟩⟩
theorem Held.grew {w w' : World} {B n c : Nat} {a : Option Addr} {cs : List Int} (h : Held w B a n c cs) (hb : Below w.heap.size w w') : Held w' B a n c cs := by
  refine ⟨h.1, ?_⟩
  rcases h.2 with h1 | ⟨g, cap, cur, h1, h2, h3, h4⟩
  · exact .inl h1
  · exact .inr ⟨g, cap, cur, h1, h2, (hb.block g (Array.getElem?_eq_some_iff.1 h3).1).trans h3, h4⟩

theorem repl_more (F : Nat → Nat → Int) (m k : Nat) (cs : List Int) (hk : k < m) (h : stepE cs (F k 2) (F k 1) (F k 3) (F k 4) (F k 5) (F k 6) = 0) :
    repl F (m - k) k cs = repl F (m - (k + 1)) (k + 1) (cs.set (F k 2).toNat (F k 6)) := by
  rw [show m - k = (m - (k + 1)) + 1 by omega, repl, if_pos h]
theorem repl_stop (F : Nat → Nat → Int) (m k : Nat) (cs : List Int) (hk : k < m) (h : ¬ stepE cs (F k 2) (F k 1) (F k 3) (F k 4) (F k 5) (F k 6) = 0) :
    repl F (m - k) k cs = (none, k, stepE cs (F k 2) (F k 1) (F k 3) (F k 4) (F k 5) (F k 6)) := by
  rw [show m - k = (m - (k + 1)) + 1 by omega, repl, if_neg h]

end Go.Proofs.YtnodeojeijekcaaGreat
