/- Texts of this seat, one behind the other: each says at its head what it holds. No condition of its own. -/
import Derived.Test.YtamekeebgkdhcaaGRingSteps08
/- Pushes and pops beside the document's, whatever the machine's state: what ties a machine to its tape, and that each step keeps it. Condition: the plan is right, the thread is there, the counts are small. -/
namespace Go.Proofs.Ytamekeebgkdhcaa
open Go.RowKit
set_option linter.unusedVariables false
theorem ring_own {P T R t : Int} (h : exB P T R t = true) (k : Int) (hk : 0 ≤ k) : ringC R t k = ((ownN R t k : Nat) : Int) := by
  obtain ⟨hR, ht⟩ := exB_of h
  obtain ⟨h2, h3, h4, h5⟩ := own_bd hR ht
  unfold ringC ownN
  omega
theorem ring_slot {P T R t : Int} (h : exB P T R t = true) (n : Int) : ringC R t (5 + n % R) = ((slotN R t n : Nat) : Int) := by
  have hR := (exB_of h).1.2.2
  have := Int.emod_nonneg n (show R ≠ 0 by omega)
  unfold slotN
  exact ring_own h _ (by omega)
theorem ex_bd {P T R t : Int} (h : exB P T R t = true) : (1 ≤ R ∧ R ≤ 16) ∧ (0 ≤ t ∧ t ≤ 5) := by
  obtain ⟨hR, ht⟩ := exB_of h
  obtain ⟨h2, h3, h4, h5⟩ := own_bd hR ht
  exact ⟨hR.2.2, h2, h3⟩
theorem fullB_yes {R tl hd : Int} (h : fullB R tl hd = true) : R ≤ IntKind.u64.wrap (tl - hd) := of_decide_eq_true h
theorem fullB_no {R tl hd : Int} (h : fullB R tl hd = false) : ¬ R ≤ IntKind.u64.wrap (tl - hd) := of_decide_eq_false h
theorem set_U64 {cs : List Int} (h : ∀ j, U64 (cs.getD j 0)) (i : Nat) {x : Int} (hx : U64 x) : ∀ j, U64 ((cs.set i x).getD j 0) := by
  intro j
  by_cases e : i = j
  · subst e
    by_cases hi : i < cs.length
    · simpa [List.getD_eq_getElem?_getD, hi] using hx
    · simp [List.getD_eq_getElem?_getD, hi]; exact ⟨by decide, by decide⟩
  · have := h j
    simpa [List.getD_eq_getElem?_getD, List.getElem?_set_ne e] using this
theorem wrap_U64 (x : Int) : U64 (IntKind.u64.wrap x) := by
  rw [IntKind.wrap_u64]
  exact ⟨Int.emod_nonneg _ (by decide), Int.emod_lt_of_pos _ (by decide)⟩
/-- a push and what it was answered -/
def PuTie (R tl nx : Int) (fu : Bool) (H : List Int) : Prop :=
  (nx = 1 ∧ H = [] ∧ fu = false) ∨ (nx = 2 ∧ H = [tl] ∧ fu = false) ∨ (∃ hd, nx = 3 ∧ H = [tl, hd] ∧ fu = false ∧ fullB R tl hd = false) ∨ (∃ hd s0, nx = 4 ∧ H = [tl, hd, s0] ∧ fu = false ∧ fullB R tl hd = false) ∨
  (∃ hd, nx = 0 ∧ H = [tl, hd] ∧ fu = true ∧ fullB R tl hd = true) ∨ (∃ hd s0 s1, nx = 0 ∧ H = [tl, hd, s0, s1] ∧ fu = false ∧ fullB R tl hd = false)
/-- a pop and what it was answered -/
def PoTie (hd nx : Int) (em : Bool) (v : Int) (H : List Int) : Prop :=
  (nx = 2 ∧ H = [] ∧ em = false ∧ v = 0) ∨ (nx = 1 ∧ H = [hd] ∧ em = false ∧ v = 0) ∨ (∃ tl, nx = 5 ∧ H = [hd, tl] ∧ em = false ∧ ¬ hd = tl) ∨ (∃ tl, nx = 6 ∧ H = [hd, tl, v] ∧ em = false ∧ ¬ hd = tl) ∨
  (∃ tl, nx = 0 ∧ H = [hd, tl] ∧ em = true ∧ v = 0 ∧ hd = tl) ∨ (∃ tl s, nx = 0 ∧ H = [hd, tl, v, s] ∧ em = false ∧ ¬ hd = tl)
/-- both sides are alike -/
structure Alike (cs : List Int) (n : Nat) (len n0 : Nat) (H : List Int) : Prop where
  hc : ∀ j, U64 (cs.getD j 0)
  hl : cs.length = len
  hn : n ≤ n0
  hu : ∀ z ∈ H, U64 z
/-- the log grew by an access at most -/
def Grown (xs0 xs : List Value) (n0 n : Nat) (who : Int) : Prop := (xs = xs0 ∧ n = n0) ∨ (n = n0 + 1 ∧ ∃ k i wn q s l, xs = xs0 ++ accV who k i wn q s l)
def PuEnd (xs0 : List Value) (w0 : World) (R0 : Nat → Prop) (B a c p m sb M d xa : Nat) (who : Int) (sc : Array Value) (P T R t v : Int) (len n0 : Nat) (w' : World) : Prop :=
  ∃ tl nx fu cs xs n tp lv lm hv, Pq w0 R0 B a c p m sb M d xa who 85 49 sc (puCells P T R t v tl nx fu) false cs xs n cs xs n tp lv lm hv w' ∧ PuTie R tl nx fu tp.H ∧ Grown xs0 xs n0 n who ∧ Alike cs n len (n0 + 1) tp.H
def PoEnd (xs0 : List Value) (w0 : World) (R0 : Nat → Prop) (B a c p m sb M d xa : Nat) (who : Int) (sc : Array Value) (P T R t : Int) (len n0 : Nat) (w' : World) : Prop :=
  ∃ v hd nx em cs xs n tp lv lm hv, Pq w0 R0 B a c p m sb M d xa who 87 49 sc (poCells P T R t v hd nx em) false cs xs n cs xs n tp lv lm hv w' ∧ PoTie hd nx em v tp.H ∧ Grown xs0 xs n0 n who ∧ Alike cs n len (n0 + 1) tp.H
set_option maxHeartbeats 1000000 in
theorem pushes_any {w0 w : World} {R0 : Nat → Prop} {B a c p m sb M d xa : Nat} {who : Int} {sc : Array Value} {cs : List Int} {xs : List Value} {n : Nat} {tp : Tp} {lv lm hv : Value} {P T R t v tl nx : Int} {fu : Bool} (b1 b2 b3 : Int) (off : Nat) (bare : Bool)
    (h : Pq w0 R0 B a c p m sb M d xa who 85 49 sc (puCells P T R t v tl nx fu) false cs xs n cs xs n tp lv lm hv w)
    (hs : Hid (sc[off]? = some (.pointer (some ⟨m, 0, none⟩)) ∧ sc[off + 2]? = some (.pointer (some ⟨xa, 0, none⟩)) ∧ sc[off + 4]? = some (.int .u64 v)))
    (hx : exB P T R t = true) (tie : PuTie R tl nx fu tp.H) (hu : ∀ z ∈ tp.H, U64 z) (hc : ∀ j, U64 (cs.getD j 0)) (hl : cs.length = cellsN P T R) (hn : n < 1000000) (hv' : U64 v) :
    Calls Try.prog 12 #[.pointer (some ⟨sb, off, none⟩), .pointer (some ⟨p, 0, none⟩), .pointer (some ⟨M, 0, none⟩), .agg #[.int .i64 P, .int .i64 T, .int .i64 R, .int .i64 b1, .int .i64 b2, .int .i64 b3], .int .i64 t, .bool bare] w fun e w' => e = .returned (.bool true) ∧ PuEnd xs w0 R0 B a c p m sb M d xa who sc P T R t v cs.length n w' := by
  obtain ⟨hR, ht⟩ := ex_bd hx
  have ag : tp.again = tpH tp.H tp := rfl
  have i3 := ownN_bd hx 3 (by decide) (by omega)
  have i4 := ownN_bd hx 4 (by decide) (by omega)
  have r3 := ring_own hx 3 (by decide)
  have r4 := ring_own hx 4 (by decide)
  have tie0 := tie
  rcases tie with ⟨rfl, hH, rfl⟩ | ⟨rfl, hH, rfl⟩ | ⟨hd, rfl, hH, rfl, hf⟩ | ⟨hd, s0, rfl, hH, rfl, hf⟩ | ⟨hd, rfl, hH, rfl, hf⟩ | ⟨hd, s0, s1, rfl, hH, rfl, hf⟩
  · cases bare with
    | true =>
      refine (pushes_still b1 b2 b3 off true h hs hR ht (by rw [hH]; simp) hu false (asks [] 1 (ringC R t 4) 0 0) (by rw [ag, hH]; exact push_0 R t v tp) rfl rfl (fun hq => (push_shut hq.pu rfl).mono fun e W' ⟨he, hS⟩ => ⟨he, hq.pushed hS⟩)).mono ?_
      rintro e w' ⟨he, lv', lm', hv2, hq⟩
      exact ⟨he, _, _, _, _, _, _, _, _, _, _, hq, (show (asks [] 1 (ringC R t 4) 0 0).H = tp.H from hH.symm) ▸ tie0, .inl ⟨rfl, rfl⟩, hc, rfl, by omega, (show (asks [] 1 (ringC R t 4) 0 0).H = tp.H from hH.symm) ▸ hu⟩
    | false =>
      have hz := hc (ownN R t 4)
      refine (pushes_go b1 b2 b3 off h hs hR ht (by rw [hH]; simp) hu (asks [] 1 (ringC R t 4) 0 0) (by rw [ag, hH]; exact push_0 R t v tp) hH.symm rfl (ownN R t 4) r4 (by rw [hl]; exact i4.2.1) hn hz false false (asks [cs.getD (ownN R t 4) 0] 1 (ringC R t 3) 0 0) (push_1 R t v (asks [] 1 (ringC R t 4) 0 0) (cs.getD (ownN R t 4) 0)) (cs.getD (ownN R t 4) 0) 2 (cs) (xs ++ accV who 1 (ownN R t 4) 0 0 (cs.getD (ownN R t 4) 0) (cs.getD (ownN R t 4) 0)) (n + 1) rfl (fun hq => (push_step1 hq.pu hx hq.inK.1 hq.inK.2.1 hq.inK.2.2 hn hl).mono fun e W' ⟨he, hS⟩ => ⟨he, hq.pushed hS⟩)).mono ?_
      rintro e w' ⟨he, lv', lm', hv2, hq⟩
      refine ⟨he, cs.getD (ownN R t 4) 0, 2, false, cs, xs ++ accV who 1 (ownN R t 4) 0 0 (cs.getD (ownN R t 4) 0) (cs.getD (ownN R t 4) 0), n + 1, asks [cs.getD (ownN R t 4) 0] 1 (ringC R t 3) 0 0, lv', lm', hv2, ?_, .inr (.inl ⟨rfl, rfl, rfl⟩), .inr ⟨rfl, _, _, _, _, _, _, rfl⟩, hc, rfl, Nat.le_refl _, ?_⟩
      · first | exact hq | (have hq2 := hq; rw [show cs.set (ownN R t 4) (leftI (asks [] 1 (ringC R t 4) 0 0).k (cs.getD (ownN R t 4) 0) (asks [] 1 (ringC R t 4) 0 0).wn (asks [] 1 (ringC R t 4) 0 0).p) = cs from set_same cs _] at hq2; exact hq2)
      · intro z hz2
        have hz3 : z ∈ tp.H ++ [cs.getD (ownN R t 4) 0] := by rw [hH]; exact hz2
        rcases List.mem_append.1 hz3 with hz4 | hz4
        · exact hu z hz4
        · obtain rfl := List.mem_singleton.1 hz4
          exact hz
  · cases bare with
    | true =>
      refine (pushes_still b1 b2 b3 off true h hs hR ht (by rw [hH]; simp) hu false (asks [tl] 1 (ringC R t 3) 0 0) (by rw [ag, hH]; exact push_1 R t v tp tl) rfl rfl (fun hq => (push_shut hq.pu rfl).mono fun e W' ⟨he, hS⟩ => ⟨he, hq.pushed hS⟩)).mono ?_
      rintro e w' ⟨he, lv', lm', hv2, hq⟩
      exact ⟨he, _, _, _, _, _, _, _, _, _, _, hq, (show (asks [tl] 1 (ringC R t 3) 0 0).H = tp.H from hH.symm) ▸ tie0, .inl ⟨rfl, rfl⟩, hc, rfl, by omega, (show (asks [tl] 1 (ringC R t 3) 0 0).H = tp.H from hH.symm) ▸ hu⟩
    | false =>
      cases hf : fullB R tl (cs.getD (ownN R t 3) 0) with
      | true =>
        have hz := hc (ownN R t 3)
        refine (pushes_go b1 b2 b3 off h hs hR ht (by rw [hH]; simp) hu (asks [tl] 1 (ringC R t 3) 0 0) (by rw [ag, hH]; exact push_1 R t v tp tl) hH.symm rfl (ownN R t 3) r3 (by rw [hl]; exact i3.2.1) hn hz true true (tpEnd [tl, cs.getD (ownN R t 3) 0] (asks [tl] 1 (ringC R t 3) 0 0)) (push_2f R t v (asks [tl] 1 (ringC R t 3) 0 0) tl (cs.getD (ownN R t 3) 0) (fullB_yes hf)) (tl) 0 (cs) (xs ++ accV who 1 (ownN R t 3) 0 0 (cs.getD (ownN R t 3) 0) (cs.getD (ownN R t 3) 0)) (n + 1) rfl (fun hq => (push_step2_full hq.pu hx hq.inK.1 hq.inK.2.1 hq.inK.2.2 hn hl hf).mono fun e W' ⟨he, hS⟩ => ⟨he, hq.pushed hS⟩)).mono ?_
        rintro e w' ⟨he, lv', lm', hv2, hq⟩
        refine ⟨he, tl, 0, true, cs, xs ++ accV who 1 (ownN R t 3) 0 0 (cs.getD (ownN R t 3) 0) (cs.getD (ownN R t 3) 0), n + 1, tpEnd [tl, cs.getD (ownN R t 3) 0] (asks [tl] 1 (ringC R t 3) 0 0), lv', lm', hv2, ?_, .inr (.inr (.inr (.inr (.inl ⟨_, rfl, rfl, rfl, hf⟩)))), .inr ⟨rfl, _, _, _, _, _, _, rfl⟩, hc, rfl, Nat.le_refl _, ?_⟩
        · first | exact hq | (have hq2 := hq; rw [show cs.set (ownN R t 3) (leftI (asks [tl] 1 (ringC R t 3) 0 0).k (cs.getD (ownN R t 3) 0) (asks [tl] 1 (ringC R t 3) 0 0).wn (asks [tl] 1 (ringC R t 3) 0 0).p) = cs from set_same cs _] at hq2; exact hq2)
        · intro z hz2
          have hz3 : z ∈ tp.H ++ [cs.getD (ownN R t 3) 0] := by rw [hH]; exact hz2
          rcases List.mem_append.1 hz3 with hz4 | hz4
          · exact hu z hz4
          · obtain rfl := List.mem_singleton.1 hz4
            exact hz
      | false =>
        have hz := hc (ownN R t 3)
        refine (pushes_go b1 b2 b3 off h hs hR ht (by rw [hH]; simp) hu (asks [tl] 1 (ringC R t 3) 0 0) (by rw [ag, hH]; exact push_1 R t v tp tl) hH.symm rfl (ownN R t 3) r3 (by rw [hl]; exact i3.2.1) hn hz false false (asks [tl, cs.getD (ownN R t 3) 0] 2 (ringC R t (5 + tl % R)) 0 v) (push_2r R t v (asks [tl] 1 (ringC R t 3) 0 0) tl (cs.getD (ownN R t 3) 0) (fullB_no hf)) (tl) 3 (cs) (xs ++ accV who 1 (ownN R t 3) 0 0 (cs.getD (ownN R t 3) 0) (cs.getD (ownN R t 3) 0)) (n + 1) rfl (fun hq => (push_step2_room hq.pu hx hq.inK.1 hq.inK.2.1 hq.inK.2.2 hn hl hf).mono fun e W' ⟨he, hS⟩ => ⟨he, hq.pushed hS⟩)).mono ?_
        rintro e w' ⟨he, lv', lm', hv2, hq⟩
        refine ⟨he, tl, 3, false, cs, xs ++ accV who 1 (ownN R t 3) 0 0 (cs.getD (ownN R t 3) 0) (cs.getD (ownN R t 3) 0), n + 1, asks [tl, cs.getD (ownN R t 3) 0] 2 (ringC R t (5 + tl % R)) 0 v, lv', lm', hv2, ?_, .inr (.inr (.inl ⟨_, rfl, rfl, rfl, hf⟩)), .inr ⟨rfl, _, _, _, _, _, _, rfl⟩, hc, rfl, Nat.le_refl _, ?_⟩
        · first | exact hq | (have hq2 := hq; rw [show cs.set (ownN R t 3) (leftI (asks [tl] 1 (ringC R t 3) 0 0).k (cs.getD (ownN R t 3) 0) (asks [tl] 1 (ringC R t 3) 0 0).wn (asks [tl] 1 (ringC R t 3) 0 0).p) = cs from set_same cs _] at hq2; exact hq2)
        · intro z hz2
          have hz3 : z ∈ tp.H ++ [cs.getD (ownN R t 3) 0] := by rw [hH]; exact hz2
          rcases List.mem_append.1 hz3 with hz4 | hz4
          · exact hu z hz4
          · obtain rfl := List.mem_singleton.1 hz4
            exact hz
  · cases bare with
    | true =>
      refine (pushes_still b1 b2 b3 off true h hs hR ht (by rw [hH]; simp) hu false (asks [tl, hd] 2 (ringC R t (5 + tl % R)) 0 v) (by rw [ag, hH]; exact push_2r R t v tp tl hd (fullB_no hf)) rfl rfl (fun hq => (push_shut hq.pu rfl).mono fun e W' ⟨he, hS⟩ => ⟨he, hq.pushed hS⟩)).mono ?_
      rintro e w' ⟨he, lv', lm', hv2, hq⟩
      exact ⟨he, _, _, _, _, _, _, _, _, _, _, hq, (show (asks [tl, hd] 2 (ringC R t (5 + tl % R)) 0 v).H = tp.H from hH.symm) ▸ tie0, .inl ⟨rfl, rfl⟩, hc, rfl, by omega, (show (asks [tl, hd] 2 (ringC R t (5 + tl % R)) 0 v).H = tp.H from hH.symm) ▸ hu⟩
    | false =>
      have hut : U64 tl := hu tl (by rw [hH]; simp)
      have isl := slotN_bd hx tl
      have hz := hc (slotN R t tl)
      refine (pushes_go b1 b2 b3 off h hs hR ht (by rw [hH]; simp) hu (asks [tl, hd] 2 (ringC R t (5 + tl % R)) 0 v) (by rw [ag, hH]; exact push_2r R t v tp tl hd (fullB_no hf)) hH.symm rfl (slotN R t tl) (ring_slot hx tl) (by rw [hl]; exact isl.2.1) hn hz false false (asks [tl, hd, cs.getD (slotN R t tl) 0] 2 (ringC R t 4) 0 (IntKind.u64.wrap (tl + 1))) (push_3 R t v (asks [tl, hd] 2 (ringC R t (5 + tl % R)) 0 v) tl hd (cs.getD (slotN R t tl) 0) (fullB_no hf)) (tl) 4 (cs.set (slotN R t tl) v) (xs ++ accV who 2 (slotN R t tl) 0 (v) (cs.getD (slotN R t tl) 0) (v)) (n + 1) rfl (fun hq => (push_step3 hq.pu hx hq.inK.1 hq.inK.2.1 hq.inK.2.2 hn hl hut).mono fun e W' ⟨he, hS⟩ => ⟨he, hq.pushed hS⟩)).mono ?_
      rintro e w' ⟨he, lv', lm', hv2, hq⟩
      refine ⟨he, tl, 4, false, cs.set (slotN R t tl) v, xs ++ accV who 2 (slotN R t tl) 0 (v) (cs.getD (slotN R t tl) 0) (v), n + 1, asks [tl, hd, cs.getD (slotN R t tl) 0] 2 (ringC R t 4) 0 (IntKind.u64.wrap (tl + 1)), lv', lm', hv2, ?_, .inr (.inr (.inr (.inl ⟨_, _, rfl, rfl, rfl, hf⟩))), .inr ⟨rfl, _, _, _, _, _, _, rfl⟩, set_U64 hc _ hv', List.length_set .., Nat.le_refl _, ?_⟩
      · first | exact hq | (have hq2 := hq; rw [show cs.set (slotN R t tl) (leftI (asks [tl, hd] 2 (ringC R t (5 + tl % R)) 0 v).k (cs.getD (slotN R t tl) 0) (asks [tl, hd] 2 (ringC R t (5 + tl % R)) 0 v).wn (asks [tl, hd] 2 (ringC R t (5 + tl % R)) 0 v).p) = cs from set_same cs _] at hq2; exact hq2)
      · intro z hz2
        have hz3 : z ∈ tp.H ++ [cs.getD (slotN R t tl) 0] := by rw [hH]; exact hz2
        rcases List.mem_append.1 hz3 with hz4 | hz4
        · exact hu z hz4
        · obtain rfl := List.mem_singleton.1 hz4
          exact hz
  · cases bare with
    | true =>
      refine (pushes_still b1 b2 b3 off true h hs hR ht (by rw [hH]; simp) hu false (asks [tl, hd, s0] 2 (ringC R t 4) 0 (IntKind.u64.wrap (tl + 1))) (by rw [ag, hH]; exact push_3 R t v tp tl hd s0 (fullB_no hf)) rfl rfl (fun hq => (push_shut hq.pu rfl).mono fun e W' ⟨he, hS⟩ => ⟨he, hq.pushed hS⟩)).mono ?_
      rintro e w' ⟨he, lv', lm', hv2, hq⟩
      exact ⟨he, _, _, _, _, _, _, _, _, _, _, hq, (show (asks [tl, hd, s0] 2 (ringC R t 4) 0 (IntKind.u64.wrap (tl + 1))).H = tp.H from hH.symm) ▸ tie0, .inl ⟨rfl, rfl⟩, hc, rfl, by omega, (show (asks [tl, hd, s0] 2 (ringC R t 4) 0 (IntKind.u64.wrap (tl + 1))).H = tp.H from hH.symm) ▸ hu⟩
    | false =>
      have hz := hc (ownN R t 4)
      refine (pushes_go b1 b2 b3 off h hs hR ht (by rw [hH]; simp) hu (asks [tl, hd, s0] 2 (ringC R t 4) 0 (IntKind.u64.wrap (tl + 1))) (by rw [ag, hH]; exact push_3 R t v tp tl hd s0 (fullB_no hf)) hH.symm rfl (ownN R t 4) r4 (by rw [hl]; exact i4.2.1) hn hz true false (tpEnd [tl, hd, s0, cs.getD (ownN R t 4) 0] (asks [tl, hd, s0] 2 (ringC R t 4) 0 (IntKind.u64.wrap (tl + 1)))) (push_4 R t v (asks [tl, hd, s0] 2 (ringC R t 4) 0 (IntKind.u64.wrap (tl + 1))) tl hd s0 (cs.getD (ownN R t 4) 0) (fullB_no hf)) (tl) 0 (cs.set (ownN R t 4) (IntKind.u64.wrap (tl + 1))) (xs ++ accV who 2 (ownN R t 4) 0 (IntKind.u64.wrap (tl + 1)) (cs.getD (ownN R t 4) 0) (IntKind.u64.wrap (tl + 1))) (n + 1) rfl (fun hq => (push_step4 hq.pu hx hq.inK.1 hq.inK.2.1 hq.inK.2.2 hn hl).mono fun e W' ⟨he, hS⟩ => ⟨he, hq.pushed hS⟩)).mono ?_
      rintro e w' ⟨he, lv', lm', hv2, hq⟩
      refine ⟨he, tl, 0, false, cs.set (ownN R t 4) (IntKind.u64.wrap (tl + 1)), xs ++ accV who 2 (ownN R t 4) 0 (IntKind.u64.wrap (tl + 1)) (cs.getD (ownN R t 4) 0) (IntKind.u64.wrap (tl + 1)), n + 1, tpEnd [tl, hd, s0, cs.getD (ownN R t 4) 0] (asks [tl, hd, s0] 2 (ringC R t 4) 0 (IntKind.u64.wrap (tl + 1))), lv', lm', hv2, ?_, .inr (.inr (.inr (.inr (.inr ⟨_, _, _, rfl, rfl, rfl, hf⟩)))), .inr ⟨rfl, _, _, _, _, _, _, rfl⟩, set_U64 hc _ (wrap_U64 _), List.length_set .., Nat.le_refl _, ?_⟩
      · first | exact hq | (have hq2 := hq; rw [show cs.set (ownN R t 4) (leftI (asks [tl, hd, s0] 2 (ringC R t 4) 0 (IntKind.u64.wrap (tl + 1))).k (cs.getD (ownN R t 4) 0) (asks [tl, hd, s0] 2 (ringC R t 4) 0 (IntKind.u64.wrap (tl + 1))).wn (asks [tl, hd, s0] 2 (ringC R t 4) 0 (IntKind.u64.wrap (tl + 1))).p) = cs from set_same cs _] at hq2; exact hq2)
      · intro z hz2
        have hz3 : z ∈ tp.H ++ [cs.getD (ownN R t 4) 0] := by rw [hH]; exact hz2
        rcases List.mem_append.1 hz3 with hz4 | hz4
        · exact hu z hz4
        · obtain rfl := List.mem_singleton.1 hz4
          exact hz
  · refine (pushes_still b1 b2 b3 off bare h hs hR ht (by rw [hH]; simp) hu true (tpEnd [tl, hd] tp) (by rw [ag, hH]; exact push_2f R t v tp tl hd (fullB_yes hf)) rfl (by cases bare <;> rfl) (fun hq => (push_over hq.pu).mono fun e W' ⟨he, hS⟩ => ⟨he, hq.pushed hS⟩)).mono ?_
    rintro e w' ⟨he, lv', lm', hv2, hq⟩
    exact ⟨he, _, _, _, _, _, _, _, _, _, _, hq, (show (tpEnd [tl, hd] tp).H = tp.H from hH.symm) ▸ tie0, .inl ⟨rfl, rfl⟩, hc, rfl, by omega, (show (tpEnd [tl, hd] tp).H = tp.H from hH.symm) ▸ hu⟩
  · refine (pushes_still b1 b2 b3 off bare h hs hR ht (by rw [hH]; simp) hu true (tpEnd [tl, hd, s0, s1] tp) (by rw [ag, hH]; exact push_4 R t v tp tl hd s0 s1 (fullB_no hf)) rfl (by cases bare <;> rfl) (fun hq => (push_over hq.pu).mono fun e W' ⟨he, hS⟩ => ⟨he, hq.pushed hS⟩)).mono ?_
    rintro e w' ⟨he, lv', lm', hv2, hq⟩
    exact ⟨he, _, _, _, _, _, _, _, _, _, _, hq, (show (tpEnd [tl, hd, s0, s1] tp).H = tp.H from hH.symm) ▸ tie0, .inl ⟨rfl, rfl⟩, hc, rfl, by omega, (show (tpEnd [tl, hd, s0, s1] tp).H = tp.H from hH.symm) ▸ hu⟩
end Go.Proofs.Ytamekeebgkdhcaa
/- Pops beside the document's, whatever the machine's state. Condition: the plan is right, the thread is there, the counts are small. -/
namespace Go.Proofs.Ytamekeebgkdhcaa
open Go.RowKit
set_option linter.unusedVariables false
set_option maxHeartbeats 1000000 in
theorem pops_any {w0 w : World} {R0 : Nat → Prop} {B a c p m sb M d xa : Nat} {who : Int} {sc : Array Value} {cs : List Int} {xs : List Value} {n : Nat} {tp : Tp} {lv lm hv : Value} {P T R t v hd nx : Int} {em : Bool} (b1 b2 b3 : Int) (off : Nat) (bare : Bool)
    (h : Pq w0 R0 B a c p m sb M d xa who 87 49 sc (poCells P T R t v hd nx em) false cs xs n cs xs n tp lv lm hv w)
    (hs : Hid (sc[off + 1]? = some (.pointer (some ⟨m, 0, none⟩)) ∧ sc[off + 3]? = some (.pointer (some ⟨xa, 0, none⟩))))
    (hx : exB P T R t = true) (tie : PoTie hd nx em v tp.H) (hu : ∀ z ∈ tp.H, U64 z) (hc : ∀ j, U64 (cs.getD j 0)) (hl : cs.length = cellsN P T R) (hn : n < 1000000) :
    Calls Try.prog 13 #[.pointer (some ⟨sb, off, none⟩), .pointer (some ⟨p, 0, none⟩), .pointer (some ⟨M, 0, none⟩), .agg #[.int .i64 P, .int .i64 T, .int .i64 R, .int .i64 b1, .int .i64 b2, .int .i64 b3], .int .i64 t, .bool bare] w fun e w' => e = .returned (.bool true) ∧ PoEnd xs w0 R0 B a c p m sb M d xa who sc P T R t cs.length n w' := by
  obtain ⟨hR, ht⟩ := ex_bd hx
  have ag : tp.again = tpH tp.H tp := rfl
  have i3 := ownN_bd hx 3 (by decide) (by omega)
  have i4 := ownN_bd hx 4 (by decide) (by omega)
  have r3 := ring_own hx 3 (by decide)
  have r4 := ring_own hx 4 (by decide)
  have tie0 := tie
  rcases tie with ⟨rfl, hH, rfl, rfl⟩ | ⟨rfl, hH, rfl, rfl⟩ | ⟨tl, rfl, hH, rfl, hf⟩ | ⟨tl, rfl, hH, rfl, hf⟩ | ⟨tl, rfl, hH, rfl, rfl, hf⟩ | ⟨tl, s, rfl, hH, rfl, hf⟩
  · cases bare with
    | true =>
      refine (pops_still b1 b2 b3 off true h hs hR ht (by rw [hH]; simp) hu false 0 (asks [] 1 (ringC R t 3) 0 0) (by rw [ag, hH]; exact pop_0 R t tp) rfl rfl (fun hq => value_not hq rfl) (fun hq => (pop_shut hq.po rfl).mono fun e W' ⟨he, hS⟩ => ⟨he, hq.popped hS⟩)).mono ?_
      rintro e w' ⟨he, lv', lm', hv2, hq⟩
      exact ⟨he, _, _, _, _, _, _, _, _, _, _, _, hq, (show (asks [] 1 (ringC R t 3) 0 0).H = tp.H from hH.symm) ▸ tie0, .inl ⟨rfl, rfl⟩, hc, rfl, by omega, (show (asks [] 1 (ringC R t 3) 0 0).H = tp.H from hH.symm) ▸ hu⟩
    | false =>
      have hz := hc (ownN R t 3)
      refine (pops_go b1 b2 b3 off h hs hR ht (by rw [hH]; simp) hu (asks [] 1 (ringC R t 3) 0 0) (by rw [ag, hH]; exact pop_0 R t tp) hH.symm rfl (ownN R t 3) r3 (by rw [hl]; exact i3.2.1) hn hz false false (0) (asks [cs.getD (ownN R t 3) 0] 1 (ringC R t 4) 0 0) (pop_1 R t (asks [] 1 (ringC R t 3) 0 0) (cs.getD (ownN R t 3) 0)) (0) (cs.getD (ownN R t 3) 0) 1 (cs) (xs ++ accV who 1 (ownN R t 3) 0 0 (cs.getD (ownN R t 3) 0) (cs.getD (ownN R t 3) 0)) (n + 1) rfl (fun hq => value_not hq rfl) (fun hq => (pop_step1 hq.po hx hq.inK.1 hq.inK.2.1 hq.inK.2.2 hn hl).mono fun e W' ⟨he, hS⟩ => ⟨he, hq.popped hS⟩)).mono ?_
      rintro e w' ⟨he, lv', lm', hv2, hq⟩
      refine ⟨he, 0, cs.getD (ownN R t 3) 0, 1, false, cs, xs ++ accV who 1 (ownN R t 3) 0 0 (cs.getD (ownN R t 3) 0) (cs.getD (ownN R t 3) 0), n + 1, asks [cs.getD (ownN R t 3) 0] 1 (ringC R t 4) 0 0, lv', lm', hv2, ?_, .inr (.inl ⟨rfl, rfl, rfl, rfl⟩), .inr ⟨rfl, _, _, _, _, _, _, rfl⟩, hc, rfl, Nat.le_refl _, ?_⟩
      · first | exact hq | (have hq2 := hq; rw [show cs.set (ownN R t 3) (leftI (asks [] 1 (ringC R t 3) 0 0).k (cs.getD (ownN R t 3) 0) (asks [] 1 (ringC R t 3) 0 0).wn (asks [] 1 (ringC R t 3) 0 0).p) = cs from set_same cs _] at hq2; exact hq2)
      · intro z hz2
        have hz3 : z ∈ tp.H ++ [cs.getD (ownN R t 3) 0] := by rw [hH]; exact hz2
        rcases List.mem_append.1 hz3 with hz4 | hz4
        · exact hu z hz4
        · obtain rfl := List.mem_singleton.1 hz4
          exact hz
  · cases bare with
    | true =>
      refine (pops_still b1 b2 b3 off true h hs hR ht (by rw [hH]; simp) hu false 0 (asks [hd] 1 (ringC R t 4) 0 0) (by rw [ag, hH]; exact pop_1 R t tp hd) rfl rfl (fun hq => value_not hq rfl) (fun hq => (pop_shut hq.po rfl).mono fun e W' ⟨he, hS⟩ => ⟨he, hq.popped hS⟩)).mono ?_
      rintro e w' ⟨he, lv', lm', hv2, hq⟩
      exact ⟨he, _, _, _, _, _, _, _, _, _, _, _, hq, (show (asks [hd] 1 (ringC R t 4) 0 0).H = tp.H from hH.symm) ▸ tie0, .inl ⟨rfl, rfl⟩, hc, rfl, by omega, (show (asks [hd] 1 (ringC R t 4) 0 0).H = tp.H from hH.symm) ▸ hu⟩
    | false =>
      cases hf : (cs.getD (ownN R t 4) 0 == hd) with
      | true =>
        have hf2 : hd = cs.getD (ownN R t 4) 0 := (beq_iff_eq.1 hf).symm
        have hz := hc (ownN R t 4)
        refine (pops_go b1 b2 b3 off h hs hR ht (by rw [hH]; simp) hu (asks [hd] 1 (ringC R t 4) 0 0) (by rw [ag, hH]; exact pop_1 R t tp hd) hH.symm rfl (ownN R t 4) r4 (by rw [hl]; exact i4.2.1) hn hz true true (0) (tpEnd [hd, cs.getD (ownN R t 4) 0] (asks [hd] 1 (ringC R t 4) 0 0)) (pop_2e R t (asks [hd] 1 (ringC R t 4) 0 0) hd (cs.getD (ownN R t 4) 0) hf2) (0) (hd) 0 (cs) (xs ++ accV who 1 (ownN R t 4) 0 0 (cs.getD (ownN R t 4) 0) (cs.getD (ownN R t 4) 0)) (n + 1) rfl (fun hq => value_pop hq) (fun hq => (pop_step2_empty hq.po hx hq.inK.1 hq.inK.2.1 hq.inK.2.2 hn hl hf).mono fun e W' ⟨he, hS⟩ => ⟨he, hq.popped hS⟩)).mono ?_
        rintro e w' ⟨he, lv', lm', hv2, hq⟩
        refine ⟨he, 0, hd, 0, true, cs, xs ++ accV who 1 (ownN R t 4) 0 0 (cs.getD (ownN R t 4) 0) (cs.getD (ownN R t 4) 0), n + 1, tpEnd [hd, cs.getD (ownN R t 4) 0] (asks [hd] 1 (ringC R t 4) 0 0), lv', lm', hv2, ?_, .inr (.inr (.inr (.inr (.inl ⟨_, rfl, rfl, rfl, rfl, hf2⟩)))), .inr ⟨rfl, _, _, _, _, _, _, rfl⟩, hc, rfl, Nat.le_refl _, ?_⟩
        · first | exact hq | (have hq2 := hq; rw [show cs.set (ownN R t 4) (leftI (asks [hd] 1 (ringC R t 4) 0 0).k (cs.getD (ownN R t 4) 0) (asks [hd] 1 (ringC R t 4) 0 0).wn (asks [hd] 1 (ringC R t 4) 0 0).p) = cs from set_same cs _] at hq2; exact hq2)
        · intro z hz2
          have hz3 : z ∈ tp.H ++ [cs.getD (ownN R t 4) 0] := by rw [hH]; exact hz2
          rcases List.mem_append.1 hz3 with hz4 | hz4
          · exact hu z hz4
          · obtain rfl := List.mem_singleton.1 hz4
            exact hz
      | false =>
        have hf2 : ¬ hd = cs.getD (ownN R t 4) 0 := fun e => by rw [← e] at hf; simp at hf
        have hz := hc (ownN R t 4)
        refine (pops_go b1 b2 b3 off h hs hR ht (by rw [hH]; simp) hu (asks [hd] 1 (ringC R t 4) 0 0) (by rw [ag, hH]; exact pop_1 R t tp hd) hH.symm rfl (ownN R t 4) r4 (by rw [hl]; exact i4.2.1) hn hz false false (0) (asks [hd, cs.getD (ownN R t 4) 0] 1 (ringC R t (5 + hd % R)) 0 0) (pop_2s R t (asks [hd] 1 (ringC R t 4) 0 0) hd (cs.getD (ownN R t 4) 0) hf2) (0) (hd) 5 (cs) (xs ++ accV who 1 (ownN R t 4) 0 0 (cs.getD (ownN R t 4) 0) (cs.getD (ownN R t 4) 0)) (n + 1) rfl (fun hq => value_not hq rfl) (fun hq => (pop_step2_some hq.po hx hq.inK.1 hq.inK.2.1 hq.inK.2.2 hn hl hf).mono fun e W' ⟨he, hS⟩ => ⟨he, hq.popped hS⟩)).mono ?_
        rintro e w' ⟨he, lv', lm', hv2, hq⟩
        refine ⟨he, 0, hd, 5, false, cs, xs ++ accV who 1 (ownN R t 4) 0 0 (cs.getD (ownN R t 4) 0) (cs.getD (ownN R t 4) 0), n + 1, asks [hd, cs.getD (ownN R t 4) 0] 1 (ringC R t (5 + hd % R)) 0 0, lv', lm', hv2, ?_, .inr (.inr (.inl ⟨_, rfl, rfl, rfl, hf2⟩)), .inr ⟨rfl, _, _, _, _, _, _, rfl⟩, hc, rfl, Nat.le_refl _, ?_⟩
        · first | exact hq | (have hq2 := hq; rw [show cs.set (ownN R t 4) (leftI (asks [hd] 1 (ringC R t 4) 0 0).k (cs.getD (ownN R t 4) 0) (asks [hd] 1 (ringC R t 4) 0 0).wn (asks [hd] 1 (ringC R t 4) 0 0).p) = cs from set_same cs _] at hq2; exact hq2)
        · intro z hz2
          have hz3 : z ∈ tp.H ++ [cs.getD (ownN R t 4) 0] := by rw [hH]; exact hz2
          rcases List.mem_append.1 hz3 with hz4 | hz4
          · exact hu z hz4
          · obtain rfl := List.mem_singleton.1 hz4
            exact hz
  · cases bare with
    | true =>
      refine (pops_still b1 b2 b3 off true h hs hR ht (by rw [hH]; simp) hu false 0 (asks [hd, tl] 1 (ringC R t (5 + hd % R)) 0 0) (by rw [ag, hH]; exact pop_2s R t tp hd tl hf) rfl rfl (fun hq => value_not hq rfl) (fun hq => (pop_shut hq.po rfl).mono fun e W' ⟨he, hS⟩ => ⟨he, hq.popped hS⟩)).mono ?_
      rintro e w' ⟨he, lv', lm', hv2, hq⟩
      exact ⟨he, _, _, _, _, _, _, _, _, _, _, _, hq, (show (asks [hd, tl] 1 (ringC R t (5 + hd % R)) 0 0).H = tp.H from hH.symm) ▸ tie0, .inl ⟨rfl, rfl⟩, hc, rfl, by omega, (show (asks [hd, tl] 1 (ringC R t (5 + hd % R)) 0 0).H = tp.H from hH.symm) ▸ hu⟩
    | false =>
      have hut : U64 hd := hu hd (by rw [hH]; simp)
      have isl := slotN_bd hx hd
      have hz := hc (slotN R t hd)
      refine (pops_go b1 b2 b3 off h hs hR ht (by rw [hH]; simp) hu (asks [hd, tl] 1 (ringC R t (5 + hd % R)) 0 0) (by rw [ag, hH]; exact pop_2s R t tp hd tl hf) hH.symm rfl (slotN R t hd) (ring_slot hx hd) (by rw [hl]; exact isl.2.1) hn hz false false (0) (asks [hd, tl, cs.getD (slotN R t hd) 0] 2 (ringC R t 3) 0 (IntKind.u64.wrap (hd + 1))) (pop_3 R t (asks [hd, tl] 1 (ringC R t (5 + hd % R)) 0 0) hd tl (cs.getD (slotN R t hd) 0) hf) (cs.getD (slotN R t hd) 0) (hd) 6 (cs) (xs ++ accV who 1 (slotN R t hd) 0 0 (cs.getD (slotN R t hd) 0) (cs.getD (slotN R t hd) 0)) (n + 1) rfl (fun hq => value_not hq rfl) (fun hq => (pop_step3 hq.po hx hq.inK.1 hq.inK.2.1 hq.inK.2.2 hn hl hut).mono fun e W' ⟨he, hS⟩ => ⟨he, hq.popped hS⟩)).mono ?_
      rintro e w' ⟨he, lv', lm', hv2, hq⟩
      refine ⟨he, cs.getD (slotN R t hd) 0, hd, 6, false, cs, xs ++ accV who 1 (slotN R t hd) 0 0 (cs.getD (slotN R t hd) 0) (cs.getD (slotN R t hd) 0), n + 1, asks [hd, tl, cs.getD (slotN R t hd) 0] 2 (ringC R t 3) 0 (IntKind.u64.wrap (hd + 1)), lv', lm', hv2, ?_, .inr (.inr (.inr (.inl ⟨_, rfl, rfl, rfl, hf⟩))), .inr ⟨rfl, _, _, _, _, _, _, rfl⟩, hc, rfl, Nat.le_refl _, ?_⟩
      · first | exact hq | (have hq2 := hq; rw [show cs.set (slotN R t hd) (leftI (asks [hd, tl] 1 (ringC R t (5 + hd % R)) 0 0).k (cs.getD (slotN R t hd) 0) (asks [hd, tl] 1 (ringC R t (5 + hd % R)) 0 0).wn (asks [hd, tl] 1 (ringC R t (5 + hd % R)) 0 0).p) = cs from set_same cs _] at hq2; exact hq2)
      · intro z hz2
        have hz3 : z ∈ tp.H ++ [cs.getD (slotN R t hd) 0] := by rw [hH]; exact hz2
        rcases List.mem_append.1 hz3 with hz4 | hz4
        · exact hu z hz4
        · obtain rfl := List.mem_singleton.1 hz4
          exact hz
  · cases bare with
    | true =>
      refine (pops_still b1 b2 b3 off true h hs hR ht (by rw [hH]; simp) hu false 0 (asks [hd, tl, v] 2 (ringC R t 3) 0 (IntKind.u64.wrap (hd + 1))) (by rw [ag, hH]; exact pop_3 R t tp hd tl v hf) rfl rfl (fun hq => value_not hq rfl) (fun hq => (pop_shut hq.po rfl).mono fun e W' ⟨he, hS⟩ => ⟨he, hq.popped hS⟩)).mono ?_
      rintro e w' ⟨he, lv', lm', hv2, hq⟩
      exact ⟨he, _, _, _, _, _, _, _, _, _, _, _, hq, (show (asks [hd, tl, v] 2 (ringC R t 3) 0 (IntKind.u64.wrap (hd + 1))).H = tp.H from hH.symm) ▸ tie0, .inl ⟨rfl, rfl⟩, hc, rfl, by omega, (show (asks [hd, tl, v] 2 (ringC R t 3) 0 (IntKind.u64.wrap (hd + 1))).H = tp.H from hH.symm) ▸ hu⟩
    | false =>
      have hz := hc (ownN R t 3)
      refine (pops_go b1 b2 b3 off h hs hR ht (by rw [hH]; simp) hu (asks [hd, tl, v] 2 (ringC R t 3) 0 (IntKind.u64.wrap (hd + 1))) (by rw [ag, hH]; exact pop_3 R t tp hd tl v hf) hH.symm rfl (ownN R t 3) r3 (by rw [hl]; exact i3.2.1) hn hz true false (v) (tpEnd [hd, tl, v, cs.getD (ownN R t 3) 0] (asks [hd, tl, v] 2 (ringC R t 3) 0 (IntKind.u64.wrap (hd + 1)))) (pop_4 R t (asks [hd, tl, v] 2 (ringC R t 3) 0 (IntKind.u64.wrap (hd + 1))) hd tl v (cs.getD (ownN R t 3) 0) hf) (v) (hd) 0 (cs.set (ownN R t 3) (IntKind.u64.wrap (hd + 1))) (xs ++ accV who 2 (ownN R t 3) 0 (IntKind.u64.wrap (hd + 1)) (cs.getD (ownN R t 3) 0) (IntKind.u64.wrap (hd + 1))) (n + 1) rfl (fun hq => value_pop hq) (fun hq => (pop_step4 hq.po hx hq.inK.1 hq.inK.2.1 hq.inK.2.2 hn hl).mono fun e W' ⟨he, hS⟩ => ⟨he, hq.popped hS⟩)).mono ?_
      rintro e w' ⟨he, lv', lm', hv2, hq⟩
      refine ⟨he, v, hd, 0, false, cs.set (ownN R t 3) (IntKind.u64.wrap (hd + 1)), xs ++ accV who 2 (ownN R t 3) 0 (IntKind.u64.wrap (hd + 1)) (cs.getD (ownN R t 3) 0) (IntKind.u64.wrap (hd + 1)), n + 1, tpEnd [hd, tl, v, cs.getD (ownN R t 3) 0] (asks [hd, tl, v] 2 (ringC R t 3) 0 (IntKind.u64.wrap (hd + 1))), lv', lm', hv2, ?_, .inr (.inr (.inr (.inr (.inr ⟨_, _, rfl, rfl, rfl, hf⟩)))), .inr ⟨rfl, _, _, _, _, _, _, rfl⟩, set_U64 hc _ (wrap_U64 _), List.length_set .., Nat.le_refl _, ?_⟩
      · first | exact hq | (have hq2 := hq; rw [show cs.set (ownN R t 3) (leftI (asks [hd, tl, v] 2 (ringC R t 3) 0 (IntKind.u64.wrap (hd + 1))).k (cs.getD (ownN R t 3) 0) (asks [hd, tl, v] 2 (ringC R t 3) 0 (IntKind.u64.wrap (hd + 1))).wn (asks [hd, tl, v] 2 (ringC R t 3) 0 (IntKind.u64.wrap (hd + 1))).p) = cs from set_same cs _] at hq2; exact hq2)
      · intro z hz2
        have hz3 : z ∈ tp.H ++ [cs.getD (ownN R t 3) 0] := by rw [hH]; exact hz2
        rcases List.mem_append.1 hz3 with hz4 | hz4
        · exact hu z hz4
        · obtain rfl := List.mem_singleton.1 hz4
          exact hz
  · refine (pops_still b1 b2 b3 off bare h hs hR ht (by rw [hH]; simp) hu true (0) (tpEnd [hd, tl] tp) (by rw [ag, hH]; exact pop_2e R t tp hd tl hf) rfl (by cases bare <;> rfl) (fun hq => value_pop hq) (fun hq => (pop_over hq.po).mono fun e W' ⟨he, hS⟩ => ⟨he, hq.popped hS⟩)).mono ?_
    rintro e w' ⟨he, lv', lm', hv2, hq⟩
    exact ⟨he, _, _, _, _, _, _, _, _, _, _, _, hq, (show (tpEnd [hd, tl] tp).H = tp.H from hH.symm) ▸ tie0, .inl ⟨rfl, rfl⟩, hc, rfl, by omega, (show (tpEnd [hd, tl] tp).H = tp.H from hH.symm) ▸ hu⟩
  · refine (pops_still b1 b2 b3 off bare h hs hR ht (by rw [hH]; simp) hu true (v) (tpEnd [hd, tl, v, s] tp) (by rw [ag, hH]; exact pop_4 R t tp hd tl v s hf) rfl (by cases bare <;> rfl) (fun hq => value_pop hq) (fun hq => (pop_over hq.po).mono fun e W' ⟨he, hS⟩ => ⟨he, hq.popped hS⟩)).mono ?_
    rintro e w' ⟨he, lv', lm', hv2, hq⟩
    exact ⟨he, _, _, _, _, _, _, _, _, _, _, _, hq, (show (tpEnd [hd, tl, v, s] tp).H = tp.H from hH.symm) ▸ tie0, .inl ⟨rfl, rfl⟩, hc, rfl, by omega, (show (tpEnd [hd, tl, v, s] tp).H = tp.H from hH.symm) ▸ hu⟩
end Go.Proofs.Ytamekeebgkdhcaa
/- All of a plan's machines beside the document's tapes, as one fact. No condition. -/
namespace Go.Proofs.Ytamekeebgkdhcaa
open Go.RowKit
set_option linter.unusedVariables false

/-- a machine: its block, its tape, the tape's answers; its value, its own word, what is next, full or empty -/
structure Mc where
  m : Nat
  xa : Nat
  hv : Value
  tp : Tp
  v : Int
  x : Int
  nx : Int
  fl : Bool
def Mc.own (k : Mc) (b : Nat) : Prop := b = k.m ∨ b = k.xa ∨ k.hv.ownBlock = some b
def mcCells (P T R : Int) (j : Nat) (k : Mc) : Array Value := if j % 2 = 0 then puCells P T R ((j / 2 : Nat) : Int) k.v k.x k.nx k.fl else poCells P T R ((j / 2 : Nat) : Int) k.v k.x k.nx k.fl
def mcType (j : Nat) : TypeId := if j % 2 = 0 then 85 else 87
def mcTie (R : Int) (j : Nat) (k : Mc) : Prop := if j % 2 = 0 then PuTie R k.x k.nx k.fl k.tp.H ∧ U64 k.v else PoTie k.x k.nx k.fl k.v k.tp.H
structure Gs (w0 : World) (Z : Nat → Prop) (B a c p sb M d : Nat) (P T R : Int) (sc : Array Value) (mk : Nat → Option Mc) (cs : List Int) (xs : List Value) (n : Nat) (lv lm : Value) (w : World) : Prop where
  real : ArenaL w B a c cs lv xs n 0
  port : PortAt w p a 9 false
  side : Blk w sb sc 49
  doc : RefA w B M d cs lm xs n 0
  ba : B ≤ a
  bc : B ≤ c
  bw : B ≤ w.heap.size
  nd : [a, c, p, sb, M, d].Nodup
  gl : ∀ g, lv.ownBlock = some g → g ∉ [a, c, p, sb, M, d] ∧ lm.ownBlock ≠ some g
  gm : ∀ g, lm.ownBlock = some g → g ∉ [a, c, p, sb, M, d]
  at' : ∀ j k, mk j = some k → Blk w k.m (mcCells P T R j k) (mcType j) ∧ TapeAt w B k.xa k.hv k.tp ∧ mcTie R j k ∧ ∀ z ∈ k.tp.H, U64 z
  in' : ∀ j k, mk j = some k → k.m ≠ k.xa ∧ k.hv.ownBlock ≠ some k.m ∧ k.hv.ownBlock ≠ some k.xa ∧ ∀ b, k.own b → b ∉ [a, c, p, sb, M, d] ∧ lv.ownBlock ≠ some b ∧ lm.ownBlock ≠ some b
  ap : ∀ i j ki kj, i ≠ j → mk i = some ki → mk j = some kj → ∀ b, ki.own b → ¬ kj.own b
  hc : ∀ j, U64 (cs.getD j 0)
  hl : cs.length = cellsN P T R
  os : w.os = w0.os
  tape : w.tape = w0.tape
  output : w.output = w0.output
  size : w0.heap.size ≤ w.heap.size
  block : ∀ b, Z b → w.heap[b]? = w0.heap[b]?
  zl : ∀ b, Z b → b < w0.heap.size
  lo : ∀ b, (b ∈ [a, c, p, sb, M, d] ∨ lv.ownBlock = some b ∨ lm.ownBlock = some b ∨ ∃ j k, mk j = some k ∧ k.own b) → ¬ Z b
section
variable {w0 w w' : World} {Z : Nat → Prop} {B a c p sb M d : Nat} {P T R : Int} {sc : Array Value} {mk : Nat → Option Mc} {cs : List Int} {xs : List Value} {n : Nat} {lv lm : Value}
theorem Gs.ownLt (h : Gs w0 Z B a c p sb M d P T R sc mk cs xs n lv lm w) {j : Nat} {k : Mc} (hk : mk j = some k) (b : Nat) (hb : k.own b) : b < w.heap.size := by
  obtain ⟨h1, h2, _⟩ := h.at' j k hk
  rcases hb with rfl | rfl | hb
  · exact h1.lt
  · exact h2.own.lt
  · exact (h2.row.lt b hb).2
theorem Gs.pn (h : Gs w0 Z B a c p sb M d P T R sc mk cs xs n lv lm w) {j : Nat} {k : Mc} (hk : mk j = some k) : Pn a c p k.m sb M d k.xa lv lm k.hv := by
  obtain ⟨i1, i2, i3, i4⟩ := h.in' j k hk
  have nd := h.nd
  have q1 := (i4 k.m (.inl rfl))
  have q2 := (i4 k.xa (.inr (.inl rfl)))
  simp only [List.nodup_cons, List.mem_cons, List.not_mem_nil, or_false, not_or, not_false_eq_true, List.nodup_nil, and_true] at nd q1 q2
  obtain ⟨⟨h1, h2, h3, h4, h5⟩, ⟨h6, h7, h8, h9⟩, ⟨h10, h11, h12⟩, ⟨h13, h14⟩, h15⟩ := nd
  obtain ⟨⟨m1, m2, m3, m4, m5, m6⟩, m7, m8⟩ := q1
  obtain ⟨⟨x1, x2, x3, x4, x5, x6⟩, x7, x8⟩ := q2
  have up : ∀ g, g ∉ [a, c, p, sb, M, d] → g ≠ k.m → g ≠ k.xa → g ∉ [a, c, p, k.m, sb, M, d, k.xa] := by
    intro g hg e1 e2
    simp only [List.mem_cons, List.not_mem_nil, or_false, not_or] at hg ⊢
    exact ⟨hg.1, hg.2.1, hg.2.2.1, e1, hg.2.2.2.1, hg.2.2.2.2.1, hg.2.2.2.2.2, e2⟩
  refine ⟨?_, fun g e => ?_, fun g e => ?_, fun g e => ?_⟩
  · simp only [List.nodup_cons, List.mem_cons, List.not_mem_nil, or_false, not_or, not_false_eq_true, List.nodup_nil, and_true]
    exact ⟨⟨h1, h2, Ne.symm m1, h3, h4, h5, Ne.symm x1⟩, ⟨h6, Ne.symm m2, h7, h8, h9, Ne.symm x2⟩, ⟨Ne.symm m3, h10, h11, h12, Ne.symm x3⟩, ⟨m4, m5, m6, i1⟩, ⟨h13, h14, Ne.symm x4⟩, ⟨h15, Ne.symm x5⟩, Ne.symm x6⟩
  · obtain ⟨g1, g2⟩ := h.gl g e
    exact ⟨up g g1 (fun r => m7 (r ▸ e)) (fun r => x7 (r ▸ e)), g2, fun r => (i4 g (.inr (.inr r))).2.1 e⟩
  · exact ⟨up g (h.gm g e) (fun r => m8 (r ▸ e)) (fun r => x8 (r ▸ e)), fun r => (i4 g (.inr (.inr r))).2.2 e⟩
  · exact up g (i4 g (.inr (.inr e))).1 (fun r => i2 (r ▸ e)) (fun r => i3 (r ▸ e))
theorem Gs.pq (h : Gs w0 Z B a c p sb M d P T R sc mk cs xs n lv lm w) {j : Nat} {k : Mc} (hk : mk j = some k) :
    Pq w (foot a c p k.m M d k.xa lv lm k.hv) B a c p k.m sb M d k.xa 9 (mcType j) 49 sc (mcCells P T R j k) false cs xs n cs xs n k.tp lv lm k.hv w :=
  ⟨h.real, h.port, (h.at' j k hk).1, h.side, h.doc, (h.at' j k hk).2.1, h.pn hk, h.ba, h.bc, h.bw, Touch.refl _ _, fun b hb => .inl hb, fun g e => .inl (.inr (.inl e)), fun g e => .inl (.inr (.inr (.inl e))), fun g e => .inl (.inr (.inr (.inr e)))⟩
def updM (mk : Nat → Option Mc) (j : Nat) (k : Mc) : Nat → Option Mc := fun i => if i = j then some k else mk i
theorem updM_cases {mk : Nat → Option Mc} {j : Nat} {k : Mc} {i : Nat} {ki : Mc} (h : updM mk j k i = some ki) : (i = j ∧ ki = k) ∨ (i ≠ j ∧ mk i = some ki) := by
  unfold updM at h
  by_cases e : i = j
  · rw [if_pos e] at h; exact .inl ⟨e, (Option.some.inj h).symm⟩
  · rw [if_neg e] at h; exact .inr ⟨e, h⟩
theorem Gs.after (h : Gs w0 Z B a c p sb M d P T R sc mk cs xs n lv lm w) {j : Nat} {k : Mc} (hk : mk j = some k) {k' : Mc} {cs' : List Int} {xs' : List Value} {n' : Nat} {lv' lm' : Value} (hm : k'.m = k.m) (hxa : k'.xa = k.xa)
    (hq : Pq w (foot a c p k.m M d k.xa lv lm k.hv) B a c p k.m sb M d k.xa 9 (mcType j) 49 sc (mcCells P T R j k') false cs' xs' n' cs' xs' n' k'.tp lv' lm' k'.hv w')
    (tie : mcTie R j k') (hu : ∀ z ∈ k'.tp.H, U64 z) (hc : ∀ j, U64 (cs'.getD j 0)) (hl : cs'.length = cellsN P T R) :
    Gs w0 Z B a c p sb M d P T R sc (updM mk j k') cs' xs' n' lv' lm' w' := by
  have hpn := hq.pn
  -- the others
  have nf : ∀ i ki, i ≠ j → mk i = some ki → ∀ b, ki.own b → ¬ foot a c p k.m M d k.xa lv lm k.hv b := by
    intro i ki hij hi b hb hf
    obtain ⟨_, _, _, i4⟩ := h.in' i ki hi
    have q := i4 b hb
    have na := h.ap i j ki k hij hi hk b hb
    rcases hf with hf | hf | hf | hf
    · simp only [List.mem_cons, List.not_mem_nil, or_false, not_or] at hf q
      rcases hf with r | r | r | r | r | r | r
      · exact q.1.1 r
      · exact q.1.2.1 r
      · exact q.1.2.2.1 r
      · exact na (.inl r)
      · exact q.1.2.2.2.2.1 r
      · exact q.1.2.2.2.2.2 r
      · exact na (.inr (.inl r))
    · exact q.2.1 hf
    · exact q.2.2 hf
    · exact na (.inr (.inr hf))
  have six : ∀ g, g ∉ [a, c, p, k.m, sb, M, d, k.xa] → g ∉ [a, c, p, sb, M, d] := by
    intro g hg
    simp only [List.mem_cons, List.not_mem_nil, or_false, not_or] at hg ⊢
    exact ⟨hg.1, hg.2.1, hg.2.2.1, hg.2.2.2.2.1, hg.2.2.2.2.2.1, hg.2.2.2.2.2.2.1⟩
  have hz := hq.tch.size
  have low : ∀ b, foot a c p k.m M d k.xa lv lm k.hv b → ¬ Z b := by
    intro b hf
    refine h.lo b ?_
    rcases hf with hf | hf | hf | hf
    · simp only [List.mem_cons, List.not_mem_nil, or_false] at hf ⊢
      rcases hf with r | r | r | r | r | r | r
      · exact .inl (.inl r)
      · exact .inl (.inr (.inl r))
      · exact .inl (.inr (.inr (.inl r)))
      · exact .inr (.inr (.inr ⟨j, k, hk, .inl r⟩))
      · exact .inl (.inr (.inr (.inr (.inr (.inl r)))))
      · exact .inl (.inr (.inr (.inr (.inr (.inr r)))))
      · exact .inr (.inr (.inr ⟨j, k, hk, .inr (.inl r)⟩))
    · exact .inr (.inl hf)
    · exact .inr (.inr (.inl hf))
    · exact .inr (.inr (.inr ⟨j, k, hk, .inr (.inr hf)⟩))
  have low2 : ∀ g, foot a c p k.m M d k.xa lv lm k.hv g ∨ w.heap.size ≤ g → ¬ Z g := fun g r => r.elim (low g) (fun r hz => by have := h.zl g hz; have := h.size; omega)
  refine ⟨hq.real, hq.port, hq.side, hq.doc, h.ba, h.bc, Nat.le_trans h.bw hz, h.nd, fun g e => ⟨six g (hpn.gl g e).1, (hpn.gl g e).2.1⟩, fun g e => six g (hpn.gm g e).1, ?_, ?_, ?_, hc, hl, hq.tch.os.trans h.os, hq.tch.tape.trans h.tape, hq.tch.output.trans h.output, Nat.le_trans h.size hz, ?_, h.zl, ?_⟩
  · intro i ki hi
    rcases updM_cases hi with ⟨rfl, rfl⟩ | ⟨hij, hi⟩
    · exact ⟨hm ▸ hq.mach, hxa ▸ hq.tape, tie, hu⟩
    · obtain ⟨q1, q2, q3, q4⟩ := h.at' i ki hi
      have nfi := nf i ki hij hi
      exact ⟨Blk.touch q1 hq.tch (nfi _ (.inl rfl)), q2.touch hq.tch (nfi _ (.inr (.inl rfl))) (fun g e => nfi g (.inr (.inr e))), q3, q4⟩
  · intro i ki hi
    rcases updM_cases hi with ⟨hj, rfl⟩ | ⟨hij, hi⟩
    · have nd := nd8 hpn.nd
      have mm : k.m ∈ [a, c, p, k.m, sb, M, d, k.xa] := by simp
      have mx : k.xa ∈ [a, c, p, k.m, sb, M, d, k.xa] := by simp
      refine ⟨by rw [hm, hxa]; simp [nd], fun e => hpn.gh _ e (by rw [hm]; exact mm), fun e => hpn.gh _ e (by rw [hxa]; exact mx), fun b hb => ?_⟩
      rcases hb with rfl | rfl | hb
      · rw [hm]
        exact ⟨(h.in' j k hk).2.2.2 k.m (.inl rfl) |>.1, fun e => (hpn.gl _ e).1 mm, fun e => (hpn.gm _ e).1 mm⟩
      · rw [hxa]
        exact ⟨(h.in' j k hk).2.2.2 k.xa (.inr (.inl rfl)) |>.1, fun e => (hpn.gl _ e).1 mx, fun e => (hpn.gm _ e).1 mx⟩
      · exact ⟨six b (hpn.gh b hb), fun e => (hpn.gl b e).2.2 hb, fun e => (hpn.gm b e).2 hb⟩
    · obtain ⟨i1, i2, i3, i4⟩ := h.in' i ki hi
      refine ⟨i1, i2, i3, fun b hb => ⟨(i4 b hb).1, fun e => ?_, fun e => ?_⟩⟩
      · rcases hq.rl b e with r | r
        · exact nf i ki hij hi b hb r
        · have := h.ownLt hi b hb; omega
      · rcases hq.rm b e with r | r
        · exact nf i ki hij hi b hb r
        · have := h.ownLt hi b hb; omega
  · have key : ∀ i ki, i ≠ j → mk i = some ki → ∀ b, ki.own b → ¬ k'.own b := by
      intro i ki hij hi b hb hb2
      rcases hb2 with r | r | r
      · exact nf i ki hij hi b hb (.inl (by rw [r, hm]; simp))
      · exact nf i ki hij hi b hb (.inl (by rw [r, hxa]; simp))
      · rcases hq.rh b r with r | r
        · exact nf i ki hij hi b hb r
        · have := h.ownLt hi b hb; omega
    intro i1 i2 k1 k2 hne h1 h2 b hb
    rcases updM_cases h1 with ⟨e1, e2⟩ | ⟨hij, g1⟩
    · rcases updM_cases h2 with ⟨e3, e4⟩ | ⟨hij2, g2⟩
      · exact absurd (e1.trans e3.symm) hne
      · rw [e2] at hb
        exact fun r => key i2 k2 hij2 g2 b r hb
    · rcases updM_cases h2 with ⟨e3, e4⟩ | ⟨hij2, g2⟩
      · rw [e4]; exact key i1 k1 hij g1 b hb
      · exact h.ap i1 i2 k1 k2 hne g1 g2 b hb
  · intro b hb
    exact (hq.tch.block b (Nat.lt_of_lt_of_le (h.zl b hb) h.size) (fun r => low b r hb)).trans (h.block b hb)
  · intro b hb
    rcases hb with hb | hb | hb | ⟨i, ki, hi, hb⟩
    · exact h.lo b (.inl hb)
    · exact low2 b (hq.rl b hb)
    · exact low2 b (hq.rm b hb)
    · rcases updM_cases hi with ⟨rfl, rfl⟩ | ⟨hij, hi⟩
      · rcases hb with r | r | r
        · exact low b (.inl (by rw [r, hm]; simp))
        · exact low b (.inl (by rw [r, hxa]; simp))
        · exact low2 b (hq.rh b r)
      · exact h.lo b (.inr (.inr (.inr ⟨i, ki, hi, hb⟩)))
end
end Go.Proofs.Ytamekeebgkdhcaa
/- What else is done to that fact: other calls, a store into the sides, a new machine, a cell set on both sides. No condition. -/
namespace Go.Proofs.Ytamekeebgkdhcaa
open Go.RowKit
set_option linter.unusedVariables false
section
variable {w0 w w' : World} {Z : Nat → Prop} {B a c p sb M d : Nat} {P T R : Int} {sc : Array Value} {mk : Nat → Option Mc} {cs : List Int} {xs : List Value} {n : Nat} {lv lm : Value}
/-- what leaves all blocks of it -/
theorem Gs.touch {X : Nat → Prop} (h : Gs w0 Z B a c p sb M d P T R sc mk cs xs n lv lm w) (ht : Touch X w w') (hX : ∀ b, X b → w.heap.size ≤ b ∨ (¬ Z b ∧ b ∉ [a, c, p, sb, M, d] ∧ lv.ownBlock ≠ some b ∧ lm.ownBlock ≠ some b ∧ ∀ j k, mk j = some k → ¬ k.own b)) :
    Gs w0 Z B a c p sb M d P T R sc mk cs xs n lv lm w' := by
  have s1 := h.real.at'.own.lt
  have s2 := h.real.at'.row.lt
  have s3 := Blk.lt h.port
  have s4 := h.side.lt
  have s5 := h.doc.own.lt
  have s6 := h.doc.row.lt
  have no : ∀ b ∈ [a, c, p, sb, M, d], ¬ X b := by
    intro b hb hx
    have hlt : b < w.heap.size := by
      simp only [List.mem_cons, List.not_mem_nil, or_false] at hb
      rcases hb with rfl | rfl | rfl | rfl | rfl | rfl <;> assumption
    rcases hX b hx with r | r
    · omega
    · exact r.2.1 hb
  have nl : ∀ g, lv.ownBlock = some g → ¬ X g := fun g e hx => by
    have := (h.real.own.lt g e).2
    rcases hX g hx with r | r
    · omega
    · exact r.2.2.1 e
  have nm : ∀ g, lm.ownBlock = some g → ¬ X g := fun g e hx => by
    have := (h.doc.log.lt g e).2
    rcases hX g hx with r | r
    · omega
    · exact r.2.2.2.1 e
  have nk : ∀ j k, mk j = some k → ∀ b, k.own b → ¬ X b := fun j k hk b hb hx => by
    have := h.ownLt hk b hb
    rcases hX b hx with r | r
    · omega
    · exact r.2.2.2.2 j k hk hb
  refine ⟨h.real.touch ht (no a (by simp)) (no c (by simp)) nl, Blk.touch h.port ht (no p (by simp)), Blk.touch h.side ht (no sb (by simp)), h.doc.touchP ht (no M (by simp)) (no d (by simp)) nm, h.ba, h.bc, Nat.le_trans h.bw ht.size, h.nd, h.gl, h.gm, ?_, h.in', h.ap, h.hc, h.hl, ht.os.trans h.os, ht.tape.trans h.tape, ht.output.trans h.output, Nat.le_trans h.size ht.size, ?_, h.zl, h.lo⟩
  · intro j k hk
    obtain ⟨q1, q2, q3, q4⟩ := h.at' j k hk
    exact ⟨Blk.touch q1 ht (nk j k hk _ (.inl rfl)), q2.touch ht (nk j k hk _ (.inr (.inl rfl))) (fun g e => nk j k hk g (.inr (.inr e))), q3, q4⟩
  · intro b hb
    refine (ht.block b (Nat.lt_of_lt_of_le (h.zl b hb) h.size) (fun r => ?_)).trans (h.block b hb)
    have := h.size
    have := h.zl b hb
    rcases hX b r with r | r
    · omega
    · exact r.1 hb
theorem Gs.grew (h : Gs w0 Z B a c p sb M d P T R sc mk cs xs n lv lm w) (hb : Below w.heap.size w w') : Gs w0 Z B a c p sb M d P T R sc mk cs xs n lv lm w' := h.touch (X := fun _ => False) (.of hb) (fun _ r => r.elim)
theorem Gs.quiet (h : Gs w0 Z B a c p sb M d P T R sc mk cs xs n lv lm w) (hq : Quiet w w') : Gs w0 Z B a c p sb M d P T R sc mk cs xs n lv lm w' := h.grew hq.below
theorem Gs.drew (h : Gs w0 Z B a c p sb M d P T R sc mk cs xs n lv lm w) : Gs w0 Z B a c p sb M d P T R sc mk cs xs n lv lm w.drew := h.quiet ⟨1, rfl⟩
/-- a store into the sides -/
theorem Gs.sided (h : Gs w0 Z B a c p sb M d P T R sc mk cs xs n lv lm w) (i : Nat) (v : Value) : Gs w0 Z B a c p sb M d P T R (sc.setIfInBounds i v) mk cs xs n lv lm (w.setCell ⟨sb, i, none⟩ v) := by
  have ht : Touch (· = sb) w (w.setCell ⟨sb, i, none⟩ v) := Touch.setCell (R := (· = sb)) (Touch.refl _ _) rfl _
  have nd := h.nd
  simp only [List.nodup_cons, List.mem_cons, List.not_mem_nil, or_false, not_or, not_false_eq_true, List.nodup_nil, and_true] at nd
  obtain ⟨⟨h1, h2, h3, h4, h5⟩, ⟨h6, h7, h8, h9⟩, ⟨h10, h11, h12⟩, ⟨h13, h14⟩, h15⟩ := nd
  have hlo := h.lo sb (.inl (by simp))
  refine ⟨h.real.touch ht h3 h7 (fun g e r => (h.gl g e).1 (by simp [r])), Blk.touch h.port ht h10, h.side.set i v, h.doc.touchP ht (Ne.symm h13) (Ne.symm h14) (fun g e r => h.gm g e (by simp [r])), h.ba, h.bc, Nat.le_trans h.bw ht.size, h.nd, h.gl, h.gm, ?_, h.in', h.ap, h.hc, h.hl, ht.os.trans h.os, ht.tape.trans h.tape, ht.output.trans h.output, Nat.le_trans h.size ht.size, fun b hb => (ht.block b (Nat.lt_of_lt_of_le (h.zl b hb) h.size) (fun r => hlo (r ▸ hb))).trans (h.block b hb), h.zl, h.lo⟩
  intro j k hk
  obtain ⟨q1, q2, q3, q4⟩ := h.at' j k hk
  have no : ∀ b, k.own b → ¬ b = sb := fun b hb r => ((h.in' j k hk).2.2.2 b hb).1 (by simp [r])
  exact ⟨Blk.touch q1 ht (no _ (.inl rfl)), q2.touch ht (no _ (.inr (.inl rfl))) (fun g e => no g (.inr (.inr e))), q3, q4⟩
/-- a cell that is set on both sides -/
theorem Gs.poked (h : Gs w0 Z B a c p sb M d P T R sc mk cs xs n lv lm w) {i : Nat} {v : Int} (hv : U64 v) (hL : ArenaL w' B a c (cs.set i v) lv xs n 0) (ht : Touch (· = c) w w') :
    Gs w0 Z B a c p sb M d P T R sc mk (cs.set i v) xs n lv lm (w'.setCell ⟨d, i, none⟩ (.int .u64 v)) := by
  have nd := h.nd
  simp only [List.nodup_cons, List.mem_cons, List.not_mem_nil, or_false, not_or, not_false_eq_true, List.nodup_nil, and_true] at nd
  obtain ⟨⟨h1, h2, h3, h4, h5⟩, ⟨h6, h7, h8, h9⟩, ⟨h10, h11, h12⟩, ⟨h13, h14⟩, h15⟩ := nd
  have loc := h.lo c (.inl (by simp))
  have lod := h.lo d (.inl (by simp))
  have ht2 : Touch (· = d) w' (w'.setCell ⟨d, i, none⟩ (.int .u64 v)) := Touch.setCell (R := (· = d)) (Touch.refl _ _) rfl _
  have hD := h.doc.touchP ht (Ne.symm h8) (Ne.symm h9) (fun g e r => h.gm g e (by simp [r]))
  have hD2 : RefA (w'.setCell ⟨d, i, none⟩ (.int .u64 v)) B M d (cs.set i v) lm xs n 0 := by
    refine ⟨?_, ?_, own_touchP hD.log ht2 (fun g e r => hD.ld (r ▸ e)), hD.md, hD.lM, hD.ld⟩
    · rw [List.length_set]; exact Blk.touch hD.own ht2 hD.md
    · have := Blk.set hD.row i (.int .u64 v)
      rw [show ((cs.set i v).map (Value.int .u64)).toArray = (cs.map (Value.int .u64)).toArray.setIfInBounds i (.int .u64 v) by simp [List.map_set]]
      exact this
  refine ⟨hL.touch ht2 h5 h9 (fun g e r => (h.gl g e).1 (by simp [r])), Blk.touch (Blk.touch h.port ht (Ne.symm h6)) ht2 h12, Blk.touch (Blk.touch h.side ht (Ne.symm h7)) ht2 h14, hD2, h.ba, h.bc, Nat.le_trans h.bw (Nat.le_trans ht.size ht2.size), h.nd, h.gl, h.gm, ?_, h.in', h.ap, set_U64 h.hc i hv, by rw [List.length_set]; exact h.hl, ht2.os.trans (ht.os.trans h.os), ht2.tape.trans (ht.tape.trans h.tape), ht2.output.trans (ht.output.trans h.output), Nat.le_trans h.size (Nat.le_trans ht.size ht2.size), fun b hb => (ht2.block b (Nat.lt_of_lt_of_le (Nat.lt_of_lt_of_le (h.zl b hb) h.size) ht.size) (fun r => lod (r ▸ hb))).trans ((ht.block b (Nat.lt_of_lt_of_le (h.zl b hb) h.size) (fun r => loc (r ▸ hb))).trans (h.block b hb)), h.zl, h.lo⟩
  intro j k hk
  obtain ⟨q1, q2, q3, q4⟩ := h.at' j k hk
  have nc : ∀ b, k.own b → ¬ b = c := fun b hb r => ((h.in' j k hk).2.2.2 b hb).1 (by simp [r])
  have nd' : ∀ b, k.own b → ¬ b = d := fun b hb r => ((h.in' j k hk).2.2.2 b hb).1 (by simp [r])
  exact ⟨Blk.touch (Blk.touch q1 ht (nc _ (.inl rfl))) ht2 (nd' _ (.inl rfl)), (q2.touch ht (nc _ (.inr (.inl rfl))) (fun g e => nc g (.inr (.inr e)))).touch ht2 (nd' _ (.inr (.inl rfl))) (fun g e => nd' g (.inr (.inr e))), q3, q4⟩
/-- a new machine -/
theorem Gs.new (h : Gs w0 Z B a c p sb M d P T R sc mk cs xs n lv lm w) (hb : Below w.heap.size w w') (j : Nat) (k : Mc) (hM : Blk w' k.m (mcCells P T R j k) (mcType j)) (hT : TapeAt w' B k.xa k.hv k.tp) (tie : mcTie R j k) (hu : ∀ z ∈ k.tp.H, U64 z)
    (e1 : k.m ≠ k.xa) (e2 : k.hv.ownBlock ≠ some k.m) (e3 : k.hv.ownBlock ≠ some k.xa) (fr : ∀ b, k.own b → w.heap.size ≤ b) : Gs w0 Z B a c p sb M d P T R sc (updM mk j k) cs xs n lv lm w' := by
  have g := h.grew hb
  have s1 := h.real.at'.own.lt
  have s2 := h.real.at'.row.lt
  have s3 := Blk.lt h.port
  have s4 := h.side.lt
  have s5 := h.doc.own.lt
  have s6 := h.doc.row.lt
  refine ⟨g.real, g.port, g.side, g.doc, g.ba, g.bc, g.bw, g.nd, g.gl, g.gm, ?_, ?_, ?_, g.hc, g.hl, g.os, g.tape, g.output, g.size, g.block, g.zl, ?_⟩
  · intro i ki hi
    rcases updM_cases hi with ⟨rfl, rfl⟩ | ⟨hij, hi⟩
    · exact ⟨hM, hT, tie, hu⟩
    · exact g.at' i ki hi
  · intro i ki hi
    rcases updM_cases hi with ⟨hj, rfl⟩ | ⟨hij, hi⟩
    · refine ⟨e1, e2, e3, fun b hb => ?_⟩
      have f := fr b hb
      refine ⟨?_, fun e => by have := (h.real.own.lt b e).2; omega, fun e => by have := (h.doc.log.lt b e).2; omega⟩
      simp only [List.mem_cons, List.not_mem_nil, or_false]
      omega
    · exact g.in' i ki hi
  · intro i1 i2 k1 k2 hne h1 h2 b hb
    rcases updM_cases h1 with ⟨q1, q2⟩ | ⟨hij, g1⟩
    · rcases updM_cases h2 with ⟨q3, q4⟩ | ⟨hij2, g2⟩
      · exact absurd (q1.trans q3.symm) hne
      · intro r
        rw [q2] at hb
        have := fr b hb
        have := h.ownLt g2 b r
        omega
    · rcases updM_cases h2 with ⟨q3, q4⟩ | ⟨hij2, g2⟩
      · intro r
        rw [q4] at r
        have := fr b r
        have := h.ownLt g1 b hb
        omega
      · exact g.ap i1 i2 k1 k2 hne g1 g2 b hb
  · intro b hb
    rcases hb with hb | hb | hb | ⟨i, ki, hi, hb⟩
    · exact g.lo b (.inl hb)
    · exact g.lo b (.inr (.inl hb))
    · exact g.lo b (.inr (.inr (.inl hb)))
    · rcases updM_cases hi with ⟨hj, rfl⟩ | ⟨hij, hi⟩
      · intro hz2; have := fr b hb; have := h.size; have := h.zl b hz2; omega
      · exact g.lo b (.inr (.inr (.inr ⟨i, ki, hi, hb⟩)))
end
end Go.Proofs.Ytamekeebgkdhcaa
