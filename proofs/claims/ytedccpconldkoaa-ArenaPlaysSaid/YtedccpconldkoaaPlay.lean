/- ArenaPlays: the arena's side and the document's side, each as one fact; each call turns both by the same numbers. No condition but that few calls are made. -/
import Derived.Test.YtedccpconldkoaaDo
import Derived.Test.YtedccpconldkoaaSera
namespace Go.Proofs.Ytedccpconldkoaa
open Go.RowKit
set_option linter.unusedVariables false

/-- cells, log, how many were made, how many were none -/
structure St where
  cs : List Int
  xs : List Value
  m : Nat
  f : Int
/-- may it be made? -/
def mayB (s : St) (g : Bool) (at' : Int) : Bool := g && insB s.cs.length at'
def seenS (s : St) (g : Bool) (at' : Int) : Int := if mayB s g at' then s.cs.getD at'.toNat 0 else 0
def nextS (s : St) (g : Bool) (who k at' want put : Int) : St :=
  if mayB s g at' then ⟨s.cs.set at'.toNat (leftI k (s.cs.getD at'.toNat 0) want put), s.xs ++ accV who k at' want put (s.cs.getD at'.toNat 0) (leftI k (s.cs.getD at'.toNat 0) want put), s.m + 1, s.f⟩ else { s with f := s.f + 1 }
/-- the arena's side: its log lies there if it keeps one -/
structure RealS (w : World) (B a c p : Nat) (who : Int) (g keep : Bool) (lv : Value) (s : St) : Prop where
  at' : ArenaAt w a c s.cs keep lv s.m s.f
  log : keep = true → ArenaL w B a c s.cs lv s.xs s.m s.f
  nil : keep = false → lv = .slice none 0 0
  port : PortAt w p a who g
  pa : p ≠ a
  pc : p ≠ c
  pl : lv.ownBlock ≠ some p
/-- what a call of the arena's side writes -/
def realR (a c p : Nat) (lv : Value) : Nat → Prop := fun b => b = a ∨ b = c ∨ b = p ∨ lv.ownBlock = some b
/-- what comes of a call on the arena's side -/
def RealTo (B a c p : Nat) (who : Int) (keep : Bool) (lv : Value) (s : St) (w w' : World) : Prop := ∃ lv', RealS w' B a c p who false keep lv' s ∧ (∀ g, lv'.ownBlock = some g → lv.ownBlock = some g ∨ w.heap.size ≤ g) ∧ Touch (realR a c p lv) w w'
variable {B a c p : Nat} {who : Int} {g keep : Bool} {lv : Value} {s : St} {w w' : World}
theorem real_fault (h : RealS w B a c p who g keep lv s) (hs : FaultStep a c p s.cs keep lv s.m s.f who w w') : RealTo B a c p who keep lv { s with f := s.f + 1 } w w' := by
  obtain ⟨hA, hP, hT⟩ := hs
  have hT' : Touch (realR a c p lv) w w' := hT.mono (fun b _ e => by rcases e with e | e; exact .inl e; exact .inr (.inr (.inl e)))
  refine ⟨lv, ⟨hA, fun hk => ?_, h.nil, hP, h.pa, h.pc, h.pl⟩, fun g' e => .inl e, hT'⟩
  have hl := h.log hk
  subst hk
  refine ⟨hA, ⟨hl.own.1, ?_⟩, hl.apa, hl.apc⟩
  rcases hl.own.2 with hn | ⟨g', cap, cur, h1, h2, h3, rest⟩
  · exact .inl hn
  · have hg : lv.ownBlock = some g' := by rw [h1]; rfl
    exact .inr ⟨g', cap, cur, h1, h2, (hT.block g' (Array.getElem?_eq_some_iff.1 h3).1 (fun e => by rcases e with e | e; exact hl.apa (e ▸ hg); exact h.pl (e ▸ hg))).trans h3, rest⟩
theorem real_log (h : RealS w B a c p who true true lv s) {k want put : Int} {i : Nat} (hs : LogStep B a c p s.cs lv s.xs s.m s.f i who k want put w w') :
    RealTo B a c p who true lv ⟨s.cs.set i (leftI k (s.cs.getD i 0) want put), s.xs ++ accV who k i want put (s.cs.getD i 0) (leftI k (s.cs.getD i 0) want put), s.m + 1, s.f⟩ w w' := by
  obtain ⟨lv', hL, hP, hg, hT⟩ := hs
  have lp := Blk.lt h.port
  refine ⟨lv', ⟨by simpa using hL.at', fun _ => hL, fun e => (by cases e), hP, h.pa, h.pc, fun e => ?_⟩, hg, hT⟩
  rcases hg p e with e | e
  · exact h.pl e
  · omega
theorem real_put (h : RealS w B a c p who true false lv s) {k want put : Int} {i : Nat} (hs : PutStep a c p s.cs lv s.m s.f i who k want put w w') :
    RealTo B a c p who false lv ⟨s.cs.set i (leftI k (s.cs.getD i 0) want put), s.xs ++ accV who k i want put (s.cs.getD i 0) (leftI k (s.cs.getD i 0) want put), s.m + 1, s.f⟩ w w' := by
  obtain ⟨hA, hP, hT⟩ := hs
  have hT' : Touch (realR a c p lv) w w' := hT.mono (fun b _ e => by rcases e with e | e | e; exact .inl e; exact .inr (.inl e); exact .inr (.inr (.inl e)))
  exact ⟨lv, ⟨by simpa using hA, fun e => (by cases e), h.nil, hP, h.pa, h.pc, h.pl⟩, fun g' e => .inl e, hT'⟩
theorem real_load (h : RealS w B a c p who g keep lv s) (hB : B ≤ w.heap.size) (hm : s.m < 1000000) (hf0 : 0 ≤ s.f) (hf : s.f < 1000000) (hz : s.cs.length ≤ 1000000) (at' : Int) :
    Calls Try.prog 18 #[.pointer (some ⟨p, 0, none⟩), .int .i64 at'] w fun e w' => e = .returned (.int .u64 (seenS s g at')) ∧ RealTo B a c p who keep lv (nextS s g who 1 at' 0 0) w w' := by
  by_cases hi : g = true ∧ insB s.cs.length at' = true
  · obtain ⟨rfl, hi⟩ := hi
    have hi' := of_decide_eq_true hi
    obtain ⟨i, rfl⟩ := Int.eq_ofNat_of_zero_le hi'.1
    have hin : i < s.cs.length := by omega
    have hnx : nextS s true who 1 i 0 0 = ⟨s.cs.set i (leftI 1 (s.cs.getD i 0) 0 0), s.xs ++ accV who 1 i 0 0 (s.cs.getD i 0) (leftI 1 (s.cs.getD i 0) 0 0), s.m + 1, s.f⟩ := by
      unfold nextS; rw [if_pos (by simp [mayB, hi])]; rfl
    rw [hnx]
    cases keep with
    | true =>
      refine (load_log B a c p s.cs lv s.xs s.m s.f who i w (h.log rfl) h.port h.pa h.pc h.pl hB hm hin).mono ?_
      rintro e w' ⟨he, hs⟩
      exact ⟨by rw [he]; simp [mayB, seenS, hi], real_log h hs⟩
    | false =>
      refine (load_put a c p s.cs lv s.m s.f who i w h.at' h.port h.pa h.pc (by omega) (by omega) hin hz).mono ?_
      rintro e w' ⟨he, hs⟩
      exact ⟨by rw [he]; simp [mayB, seenS, hi], real_put h hs⟩
  · have hno : g = false ∨ insB s.cs.length at' = false := by
      cases g with
      | false => exact .inl rfl
      | true => exact .inr (by simpa using hi)
    have hmay : mayB s g at' = false := by rcases hno with e | e <;> simp [mayB, e]
    have hnx : nextS s g who 1 at' 0 0 = { s with f := s.f + 1 } := by unfold nextS; rw [hmay]; rfl
    rw [hnx]
    refine (load_fault a c p s.cs keep lv s.m s.f g who at' w h.at' h.port h.pa h.pc hf0 hf hno).mono ?_
    rintro e w' ⟨he, hs⟩
    exact ⟨by rw [he]; simp [seenS, hmay], real_fault h hs⟩
theorem real_store (h : RealS w B a c p who g keep lv s) (hB : B ≤ w.heap.size) (hm : s.m < 1000000) (hf0 : 0 ≤ s.f) (hf : s.f < 1000000) (hz : s.cs.length ≤ 1000000) (at' : Int) (v : Int) :
    Calls Try.prog 20 #[.pointer (some ⟨p, 0, none⟩), .int .i64 at', .int .u64 v] w fun e w' => (∃ v, e = .returned v) ∧ RealTo B a c p who keep lv (nextS s g who 2 at' 0 v) w w' := by
  by_cases hi : g = true ∧ insB s.cs.length at' = true
  · obtain ⟨rfl, hi⟩ := hi
    have hi' := of_decide_eq_true hi
    obtain ⟨i, rfl⟩ := Int.eq_ofNat_of_zero_le hi'.1
    have hin : i < s.cs.length := by omega
    have hnx : nextS s true who 2 i 0 v = ⟨s.cs.set i (leftI 2 (s.cs.getD i 0) 0 v), s.xs ++ accV who 2 i 0 v (s.cs.getD i 0) (leftI 2 (s.cs.getD i 0) 0 v), s.m + 1, s.f⟩ := by
      unfold nextS; rw [if_pos (by simp [mayB, hi])]; rfl
    rw [hnx]
    cases keep with
    | true =>
      refine (store_log B a c p s.cs lv s.xs s.m s.f who i v w (h.log rfl) h.port h.pa h.pc h.pl hB hm hin).mono ?_
      rintro e w' ⟨he, hs⟩
      exact ⟨by exact he, real_log h hs⟩
    | false =>
      refine (store_put a c p s.cs lv s.m s.f who i v w h.at' h.port h.pa h.pc (by omega) (by omega) hin hz).mono ?_
      rintro e w' ⟨he, hs⟩
      exact ⟨by exact he, real_put h hs⟩
  · have hno : g = false ∨ insB s.cs.length at' = false := by
      cases g with
      | false => exact .inl rfl
      | true => exact .inr (by simpa using hi)
    have hmay : mayB s g at' = false := by rcases hno with e | e <;> simp [mayB, e]
    have hnx : nextS s g who 2 at' 0 v = { s with f := s.f + 1 } := by unfold nextS; rw [hmay]; rfl
    rw [hnx]
    refine (store_fault a c p s.cs keep lv s.m s.f g who at' v w h.at' h.port h.pa h.pc hf0 hf hno).mono ?_
    rintro e w' ⟨he, hs⟩
    exact ⟨by exact he, real_fault h hs⟩
theorem real_swap (h : RealS w B a c p who g keep lv s) (hB : B ≤ w.heap.size) (hm : s.m < 1000000) (hf0 : 0 ≤ s.f) (hf : s.f < 1000000) (hz : s.cs.length ≤ 1000000) (at' : Int) (v : Int) :
    Calls Try.prog 21 #[.pointer (some ⟨p, 0, none⟩), .int .i64 at', .int .u64 v] w fun e w' => e = .returned (.int .u64 (seenS s g at')) ∧ RealTo B a c p who keep lv (nextS s g who 3 at' 0 v) w w' := by
  by_cases hi : g = true ∧ insB s.cs.length at' = true
  · obtain ⟨rfl, hi⟩ := hi
    have hi' := of_decide_eq_true hi
    obtain ⟨i, rfl⟩ := Int.eq_ofNat_of_zero_le hi'.1
    have hin : i < s.cs.length := by omega
    have hnx : nextS s true who 3 i 0 v = ⟨s.cs.set i (leftI 3 (s.cs.getD i 0) 0 v), s.xs ++ accV who 3 i 0 v (s.cs.getD i 0) (leftI 3 (s.cs.getD i 0) 0 v), s.m + 1, s.f⟩ := by
      unfold nextS; rw [if_pos (by simp [mayB, hi])]; rfl
    rw [hnx]
    cases keep with
    | true =>
      refine (swap_log B a c p s.cs lv s.xs s.m s.f who i v w (h.log rfl) h.port h.pa h.pc h.pl hB hm hin).mono ?_
      rintro e w' ⟨he, hs⟩
      exact ⟨by rw [he]; simp [mayB, seenS, hi], real_log h hs⟩
    | false =>
      refine (swap_put a c p s.cs lv s.m s.f who i v w h.at' h.port h.pa h.pc (by omega) (by omega) hin hz).mono ?_
      rintro e w' ⟨he, hs⟩
      exact ⟨by rw [he]; simp [mayB, seenS, hi], real_put h hs⟩
  · have hno : g = false ∨ insB s.cs.length at' = false := by
      cases g with
      | false => exact .inl rfl
      | true => exact .inr (by simpa using hi)
    have hmay : mayB s g at' = false := by rcases hno with e | e <;> simp [mayB, e]
    have hnx : nextS s g who 3 at' 0 v = { s with f := s.f + 1 } := by unfold nextS; rw [hmay]; rfl
    rw [hnx]
    refine (swap_fault a c p s.cs keep lv s.m s.f g who at' v w h.at' h.port h.pa h.pc hf0 hf hno).mono ?_
    rintro e w' ⟨he, hs⟩
    exact ⟨by rw [he]; simp [seenS, hmay], real_fault h hs⟩
theorem real_cas (h : RealS w B a c p who g keep lv s) (hB : B ≤ w.heap.size) (hm : s.m < 1000000) (hf0 : 0 ≤ s.f) (hf : s.f < 1000000) (hz : s.cs.length ≤ 1000000) (at' : Int) (want v : Int) :
    Calls Try.prog 22 #[.pointer (some ⟨p, 0, none⟩), .int .i64 at', .int .u64 want, .int .u64 v] w fun e w' => e = .returned (.bool (mayB s g at' && (seenS s g at' == want))) ∧ RealTo B a c p who keep lv (nextS s g who 4 at' want v) w w' := by
  by_cases hi : g = true ∧ insB s.cs.length at' = true
  · obtain ⟨rfl, hi⟩ := hi
    have hi' := of_decide_eq_true hi
    obtain ⟨i, rfl⟩ := Int.eq_ofNat_of_zero_le hi'.1
    have hin : i < s.cs.length := by omega
    have hnx : nextS s true who 4 i want v = ⟨s.cs.set i (leftI 4 (s.cs.getD i 0) want v), s.xs ++ accV who 4 i want v (s.cs.getD i 0) (leftI 4 (s.cs.getD i 0) want v), s.m + 1, s.f⟩ := by
      unfold nextS; rw [if_pos (by simp [mayB, hi])]; rfl
    rw [hnx]
    cases keep with
    | true =>
      refine (cas_log B a c p s.cs lv s.xs s.m s.f who i want v w (h.log rfl) h.port h.pa h.pc h.pl hB hm hin).mono ?_
      rintro e w' ⟨he, hs⟩
      exact ⟨by rw [he]; simp [mayB, seenS, hi], real_log h hs⟩
    | false =>
      refine (cas_put a c p s.cs lv s.m s.f who i want v w h.at' h.port h.pa h.pc (by omega) (by omega) hin hz).mono ?_
      rintro e w' ⟨he, hs⟩
      exact ⟨by rw [he]; simp [mayB, seenS, hi], real_put h hs⟩
  · have hno : g = false ∨ insB s.cs.length at' = false := by
      cases g with
      | false => exact .inl rfl
      | true => exact .inr (by simpa using hi)
    have hmay : mayB s g at' = false := by rcases hno with e | e <;> simp [mayB, e]
    have hnx : nextS s g who 4 at' want v = { s with f := s.f + 1 } := by unfold nextS; rw [hmay]; rfl
    rw [hnx]
    refine (cas_fault a c p s.cs keep lv s.m s.f g who at' want v w h.at' h.port h.pa h.pc hf0 hf hno).mono ?_
    rintro e w' ⟨he, hs⟩
    exact ⟨by rw [he]; simp [seenS, hmay], real_fault h hs⟩
theorem real_or (h : RealS w B a c p who g keep lv s) (hB : B ≤ w.heap.size) (hm : s.m < 1000000) (hf0 : 0 ≤ s.f) (hf : s.f < 1000000) (hz : s.cs.length ≤ 1000000) (at' : Int) (v : Int) :
    Calls Try.prog 16 #[.pointer (some ⟨p, 0, none⟩), .int .i64 at', .int .u64 v] w fun e w' => e = .returned (.int .u64 (seenS s g at')) ∧ RealTo B a c p who keep lv (nextS s g who 5 at' 0 v) w w' := by
  by_cases hi : g = true ∧ insB s.cs.length at' = true
  · obtain ⟨rfl, hi⟩ := hi
    have hi' := of_decide_eq_true hi
    obtain ⟨i, rfl⟩ := Int.eq_ofNat_of_zero_le hi'.1
    have hin : i < s.cs.length := by omega
    have hnx : nextS s true who 5 i 0 v = ⟨s.cs.set i (leftI 5 (s.cs.getD i 0) 0 v), s.xs ++ accV who 5 i 0 v (s.cs.getD i 0) (leftI 5 (s.cs.getD i 0) 0 v), s.m + 1, s.f⟩ := by
      unfold nextS; rw [if_pos (by simp [mayB, hi])]; rfl
    rw [hnx]
    cases keep with
    | true =>
      refine (or_log B a c p s.cs lv s.xs s.m s.f who i v w (h.log rfl) h.port h.pa h.pc h.pl hB hm hin).mono ?_
      rintro e w' ⟨he, hs⟩
      exact ⟨by rw [he]; simp [mayB, seenS, hi], real_log h hs⟩
    | false =>
      refine (or_put a c p s.cs lv s.m s.f who i v w h.at' h.port h.pa h.pc (by omega) (by omega) hin hz).mono ?_
      rintro e w' ⟨he, hs⟩
      exact ⟨by rw [he]; simp [mayB, seenS, hi], real_put h hs⟩
  · have hno : g = false ∨ insB s.cs.length at' = false := by
      cases g with
      | false => exact .inl rfl
      | true => exact .inr (by simpa using hi)
    have hmay : mayB s g at' = false := by rcases hno with e | e <;> simp [mayB, e]
    have hnx : nextS s g who 5 at' 0 v = { s with f := s.f + 1 } := by unfold nextS; rw [hmay]; rfl
    rw [hnx]
    refine (or_fault a c p s.cs keep lv s.m s.f g who at' v w h.at' h.port h.pa h.pc hf0 hf hno).mono ?_
    rintro e w' ⟨he, hs⟩
    exact ⟨by rw [he]; simp [seenS, hmay], real_fault h hs⟩
theorem real_and (h : RealS w B a c p who g keep lv s) (hB : B ≤ w.heap.size) (hm : s.m < 1000000) (hf0 : 0 ≤ s.f) (hf : s.f < 1000000) (hz : s.cs.length ≤ 1000000) (at' : Int) (v : Int) :
    Calls Try.prog 23 #[.pointer (some ⟨p, 0, none⟩), .int .i64 at', .int .u64 v] w fun e w' => e = .returned (.int .u64 (seenS s g at')) ∧ RealTo B a c p who keep lv (nextS s g who 6 at' 0 v) w w' := by
  by_cases hi : g = true ∧ insB s.cs.length at' = true
  · obtain ⟨rfl, hi⟩ := hi
    have hi' := of_decide_eq_true hi
    obtain ⟨i, rfl⟩ := Int.eq_ofNat_of_zero_le hi'.1
    have hin : i < s.cs.length := by omega
    have hnx : nextS s true who 6 i 0 v = ⟨s.cs.set i (leftI 6 (s.cs.getD i 0) 0 v), s.xs ++ accV who 6 i 0 v (s.cs.getD i 0) (leftI 6 (s.cs.getD i 0) 0 v), s.m + 1, s.f⟩ := by
      unfold nextS; rw [if_pos (by simp [mayB, hi])]; rfl
    rw [hnx]
    cases keep with
    | true =>
      refine (and_log B a c p s.cs lv s.xs s.m s.f who i v w (h.log rfl) h.port h.pa h.pc h.pl hB hm hin).mono ?_
      rintro e w' ⟨he, hs⟩
      exact ⟨by rw [he]; simp [mayB, seenS, hi], real_log h hs⟩
    | false =>
      refine (and_put a c p s.cs lv s.m s.f who i v w h.at' h.port h.pa h.pc (by omega) (by omega) hin hz).mono ?_
      rintro e w' ⟨he, hs⟩
      exact ⟨by rw [he]; simp [mayB, seenS, hi], real_put h hs⟩
  · have hno : g = false ∨ insB s.cs.length at' = false := by
      cases g with
      | false => exact .inl rfl
      | true => exact .inr (by simpa using hi)
    have hmay : mayB s g at' = false := by rcases hno with e | e <;> simp [mayB, e]
    have hnx : nextS s g who 6 at' 0 v = { s with f := s.f + 1 } := by unfold nextS; rw [hmay]; rfl
    rw [hnx]
    refine (and_fault a c p s.cs keep lv s.m s.f g who at' v w h.at' h.port h.pa h.pc hf0 hf hno).mono ?_
    rintro e w' ⟨he, hs⟩
    exact ⟨by rw [he]; simp [seenS, hmay], real_fault h hs⟩
end Go.Proofs.Ytedccpconldkoaa
