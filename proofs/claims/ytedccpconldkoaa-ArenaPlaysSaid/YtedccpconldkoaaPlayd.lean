/- ArenaPlays: the document's side as one fact, and its Do. No condition but that few calls are made. -/
import Derived.Test.YtedccpconldkoaaPlay
namespace Go.Proofs.Ytedccpconldkoaa
open Go.RowKit
set_option linter.unusedVariables false

structure ModS (w : World) (B M d q : Nat) (who : Int) (g : Bool) (lv : Value) (s : St) : Prop where
  ar : RefA w B M d s.cs lv s.xs s.m s.f
  port : RefP w q who g
  qM : q ≠ M
  qd : q ≠ d
  ql : lv.ownBlock ≠ some q
def modR (M d q : Nat) (lv : Value) : Nat → Prop := fun b => b = M ∨ b = d ∨ b = q ∨ lv.ownBlock = some b
def ModTo (B M d q : Nat) (who : Int) (lv : Value) (s : St) (w w' : World) : Prop := ∃ lv', ModS w' B M d q who false lv' s ∧ (∀ g, lv'.ownBlock = some g → lv.ownBlock = some g ∨ w.heap.size ≤ g) ∧ Touch (modR M d q lv) w w'
theorem do_any {B M d q : Nat} {who : Int} {g : Bool} {lv : Value} {s : St} {w : World} (h : ModS w B M d q who g lv s) (hB : B ≤ w.heap.size) (hm : s.m < 1000000) (hf0 : 0 ≤ s.f) (hf : s.f < 1000000) (k at' want put : Int) (hk : kindB k = true) :
    Calls Try.prog 19 #[.pointer (some ⟨M, 0, none⟩), .pointer (some ⟨q, 0, none⟩), .int .i64 k, .int .i64 at', .int .u64 want, .int .u64 put] w fun e w' =>
      e = .returned (.int .u64 (seenS s g at')) ∧ ModTo B M d q who lv (nextS s g who k at' want put) w w' := by
  by_cases hi : g = true ∧ insB s.cs.length at' = true
  · obtain ⟨rfl, hi⟩ := hi
    have hi' := of_decide_eq_true hi
    obtain ⟨i, rfl⟩ := Int.eq_ofNat_of_zero_le hi'.1
    have hin : i < s.cs.length := by omega
    have hnx : nextS s true who k i want put = ⟨s.cs.set i (leftI k (s.cs.getD i 0) want put), s.xs ++ accV who k i want put (s.cs.getD i 0) (leftI k (s.cs.getD i 0) want put), s.m + 1, s.f⟩ := by
      unfold nextS; rw [if_pos (by simp [mayB, hi])]; rfl
    rw [hnx]
    refine (do_yes B M d q s.cs lv s.xs s.m s.f who k want put i w h.ar h.port h.qM h.qd h.ql hB hm hk hin).mono ?_
    rintro e w' ⟨he, lv', hA, hP, hg, hT⟩
    have lq := Blk.lt h.port
    refine ⟨by rw [he]; simp [mayB, seenS, hi], lv', ⟨hA, hP, h.qM, h.qd, fun e => ?_⟩, hg, hT⟩
    rcases hg q e with e | e
    · exact h.ql e
    · omega
  · have hno : g = false ∨ insB s.cs.length at' = false := by
      cases g with
      | false => exact .inl rfl
      | true => exact .inr (by simpa using hi)
    have hmay : mayB s g at' = false := by rcases hno with e | e <;> simp [mayB, e]
    have hnx : nextS s g who k at' want put = { s with f := s.f + 1 } := by unfold nextS; rw [hmay]; rfl
    rw [hnx]
    refine (do_fault B M d q s.cs lv s.xs s.m s.f g who k at' want put w h.ar h.port h.qM h.qd h.ql hf0 hf hno).mono ?_
    rintro e w' ⟨he, hA, hP, hT⟩
    exact ⟨by rw [he]; simp [seenS, hmay], lv, ⟨hA, hP, h.qM, h.qd, h.ql⟩, fun g' e => .inl e, hT.mono (fun b _ e => by rcases e with e | e; exact .inl e; exact .inr (.inr (.inl e)))⟩
end Go.Proofs.Ytedccpconldkoaa
