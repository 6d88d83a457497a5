/- ArenaPlays: the calls on either side, as steps of the two side by side. No condition but that few calls are made. -/
import Derived.Test.YtedccpconldkoaaDuo
import Derived.Test.YtedccpconldkoaaSerm
namespace Go.Proofs.Ytedccpconldkoaa
open Go.RowKit
set_option linter.unusedVariables false

def Bd (s : St) : Prop := s.m < 1000000 ∧ 0 ≤ s.f ∧ s.f < 1000000 ∧ s.cs.length ≤ 1000000
def Good (s : St) : Prop := ∃ F, s.xs = flat F (List.range s.m)
def Step (s s' : St) : Prop := s'.m ≤ s.m + 1 ∧ 0 ≤ s'.f ∧ s'.f ≤ s.f + 1 ∧ s'.cs.length = s.cs.length ∧ (Good s → Good s')
theorem Step.refl (s : St) (h : 0 ≤ s.f) : Step s s := ⟨by omega, h, by omega, rfl, fun h => h⟩
theorem Step.next (s : St) (h : 0 ≤ s.f) (g : Bool) (who k at' want put : Int) : Step s (nextS s g who k at' want put) := by
  unfold nextS
  by_cases hm : mayB s g at' = true
  · rw [if_pos hm]
    refine ⟨Nat.le_refl _, h, (by show s.f ≤ s.f + 1; omega), by simp, fun ⟨F, hF⟩ => ⟨more F s.m who k at'.toNat want put (s.cs.getD at'.toNat 0) (leftI k (s.cs.getD at'.toNat 0) want put), ?_⟩⟩
    have h0 : ((at'.toNat : Nat) : Int) = at' := by
      unfold mayB insB at hm
      simp at hm
      omega
    show s.xs ++ _ = _
    rw [flat_more, hF, h0]
  · rw [if_neg hm]
    exact ⟨by simp, by simp; omega, by simp, rfl, fun h => h⟩
theorem Step.poke (s : St) (h : 0 ≤ s.f) (cs : List Int) (hl : cs.length = s.cs.length) : Step s { s with cs := cs } := ⟨Nat.le_succ _, h, (by show s.f ≤ s.f + 1; omega), hl, fun h => h⟩
section
variable {X : Nat → Prop} {w0 w w' : World} {B a c M d : Nat} {P Q : Nat → Nat} {wh : Nat → Int} {keep : Bool} {gp gq : Nat → Bool} {lv lm : Value} {s t : St} {k : Nat}
theorem duo_load (h : Duo X w0 w B a c M d P Q wh keep gp gq lv lm s t) (hk : k < 3) (hb : Bd s) (at' : Int) :
    Calls Try.prog 18 #[.pointer (some ⟨P k, 0, none⟩), .int .i64 at'] w fun e w' => e = .returned (.int .u64 (seenS s (gp k) at')) ∧ ∃ lv', Duo X w0 w' B a c M d P Q wh keep (upd gp k false) gq lv' lm (nextS s (gp k) (wh k) 1 at' 0 0) t :=
  (real_load (h.realS hk) h.bw hb.1 hb.2.1 hb.2.2.1 hb.2.2.2 at').mono (fun e w' h' => ⟨h'.1, h.realTo hk h'.2⟩)
theorem duo_store (h : Duo X w0 w B a c M d P Q wh keep gp gq lv lm s t) (hk : k < 3) (hb : Bd s) (at' v : Int) :
    Calls Try.prog 20 #[.pointer (some ⟨P k, 0, none⟩), .int .i64 at', .int .u64 v] w fun e w' => (∃ v, e = .returned v) ∧ ∃ lv', Duo X w0 w' B a c M d P Q wh keep (upd gp k false) gq lv' lm (nextS s (gp k) (wh k) 2 at' 0 v) t :=
  (real_store (h.realS hk) h.bw hb.1 hb.2.1 hb.2.2.1 hb.2.2.2 at' v).mono (fun e w' h' => ⟨h'.1, h.realTo hk h'.2⟩)
theorem duo_swap (h : Duo X w0 w B a c M d P Q wh keep gp gq lv lm s t) (hk : k < 3) (hb : Bd s) (at' v : Int) :
    Calls Try.prog 21 #[.pointer (some ⟨P k, 0, none⟩), .int .i64 at', .int .u64 v] w fun e w' => e = .returned (.int .u64 (seenS s (gp k) at')) ∧ ∃ lv', Duo X w0 w' B a c M d P Q wh keep (upd gp k false) gq lv' lm (nextS s (gp k) (wh k) 3 at' 0 v) t :=
  (real_swap (h.realS hk) h.bw hb.1 hb.2.1 hb.2.2.1 hb.2.2.2 at' v).mono (fun e w' h' => ⟨h'.1, h.realTo hk h'.2⟩)
theorem duo_cas (h : Duo X w0 w B a c M d P Q wh keep gp gq lv lm s t) (hk : k < 3) (hb : Bd s) (at' want v : Int) :
    Calls Try.prog 22 #[.pointer (some ⟨P k, 0, none⟩), .int .i64 at', .int .u64 want, .int .u64 v] w fun e w' => e = .returned (.bool (mayB s (gp k) at' && (seenS s (gp k) at' == want))) ∧ ∃ lv', Duo X w0 w' B a c M d P Q wh keep (upd gp k false) gq lv' lm (nextS s (gp k) (wh k) 4 at' want v) t :=
  (real_cas (h.realS hk) h.bw hb.1 hb.2.1 hb.2.2.1 hb.2.2.2 at' want v).mono (fun e w' h' => ⟨h'.1, h.realTo hk h'.2⟩)
theorem duo_or (h : Duo X w0 w B a c M d P Q wh keep gp gq lv lm s t) (hk : k < 3) (hb : Bd s) (at' v : Int) :
    Calls Try.prog 16 #[.pointer (some ⟨P k, 0, none⟩), .int .i64 at', .int .u64 v] w fun e w' => e = .returned (.int .u64 (seenS s (gp k) at')) ∧ ∃ lv', Duo X w0 w' B a c M d P Q wh keep (upd gp k false) gq lv' lm (nextS s (gp k) (wh k) 5 at' 0 v) t :=
  (real_or (h.realS hk) h.bw hb.1 hb.2.1 hb.2.2.1 hb.2.2.2 at' v).mono (fun e w' h' => ⟨h'.1, h.realTo hk h'.2⟩)
theorem duo_and (h : Duo X w0 w B a c M d P Q wh keep gp gq lv lm s t) (hk : k < 3) (hb : Bd s) (at' v : Int) :
    Calls Try.prog 23 #[.pointer (some ⟨P k, 0, none⟩), .int .i64 at', .int .u64 v] w fun e w' => e = .returned (.int .u64 (seenS s (gp k) at')) ∧ ∃ lv', Duo X w0 w' B a c M d P Q wh keep (upd gp k false) gq lv' lm (nextS s (gp k) (wh k) 6 at' 0 v) t :=
  (real_and (h.realS hk) h.bw hb.1 hb.2.1 hb.2.2.1 hb.2.2.2 at' v).mono (fun e w' h' => ⟨h'.1, h.realTo hk h'.2⟩)
theorem duo_do (h : Duo X w0 w B a c M d P Q wh keep gp gq lv lm s t) (hk : k < 3) (hb : Bd t) (kk at' want put : Int) (hkk : kindB kk = true) :
    Calls Try.prog 19 #[.pointer (some ⟨M, 0, none⟩), .pointer (some ⟨Q k, 0, none⟩), .int .i64 kk, .int .i64 at', .int .u64 want, .int .u64 put] w fun e w' =>
      e = .returned (.int .u64 (seenS t (gq k) at')) ∧ ∃ lm', Duo X w0 w' B a c M d P Q wh keep gp (upd gq k false) lv lm' s (nextS t (gq k) (wh k) kk at' want put) :=
  (do_any (h.modS hk) h.bw hb.1 hb.2.1 hb.2.2.1 kk at' want put hkk).mono (fun e w' h' => ⟨h'.1, h.modTo hk h'.2⟩)
theorem duo_grant (h : Duo X w0 w B a c M d P Q wh keep gp gq lv lm s t) (hk : k < 3) :
    Calls Try.prog 15 #[.pointer (some ⟨P k, 0, none⟩)] w fun e w' => (∃ v, e = .returned v) ∧ Duo X w0 w' B a c M d P Q wh keep (upd gp k true) gq lv lm s t :=
  (grant_at (P k) a (wh k) (gp k) w (h.port k hk)).mono (fun e w' h' => by
    obtain ⟨he, hP, hT⟩ := h'
    have nk : ∀ b, b ≠ P k → ¬ (fun x => x = P k) b := fun b hb e => hb e
    have hl : ∀ g, lv.ownBlock = some g → ¬ g = P k := fun g e e2 => by have := (h.lvB g e).1; have := (h.fx.lp k hk).1; omega
    refine ⟨he, h.real (h.at'.touch hT (h.fx.pq k hk).1.1.symm (h.fx.pq k hk).1.2.1.symm) (fun hq => (h.log hq).touchD hT (h.fx.pq k hk).1.1.symm (h.fx.pq k hk).1.2.1.symm hl) h.nil (fun i hi => ?_) (fun g e => .inl e) (hT.mono (fun b _ e => .inr (.inr (.inl ⟨k, hk, e⟩))))⟩
    unfold upd
    by_cases e : i = k
    · subst e; rw [if_pos rfl]; exact hP
    · rw [if_neg e]
      exact Blk.touch (h.port i hi) hT ((h.fx.pp i k hi hk).1 e).1)
/-- the document's grant: a store -/
theorem Duo.granted (h : Duo X w0 w B a c M d P Q wh keep gp gq lv lm s t) (hk : k < 3) : Duo X w0 (w.setCell ⟨Q k, 1, none⟩ (.bool true)) B a c M d P Q wh keep gp (upd gq k true) lv lm s t := by
  have hT : Touch (fun b => b = Q k) w (w.setCell ⟨Q k, 1, none⟩ (.bool true)) := Touch.setCell (R := fun b => b = Q k) (Touch.refl _ _) rfl _
  have hl : ∀ g, lm.ownBlock = some g → ¬ g = Q k := fun g e e2 => by have := (h.lmB g e).1; have := (h.fx.lp k hk).2; omega
  refine h.mod (h.ar.touch hT (h.fx.pq k hk).2.2.2.1.symm (h.fx.pq k hk).2.2.2.2.symm hl) (fun i hi => ?_) (fun g e => .inl e) (hT.mono (fun b _ e => .inr (.inr (.inl ⟨k, hk, e⟩))))
  unfold upd
  by_cases e : i = k
  · subst e
    rw [if_pos rfl]
    exact (h.prt i hi).set 1 (.bool true)
  · rw [if_neg e]
    exact Blk.touch (h.prt i hi) hT ((h.fx.pp i k hi hk).1 e).2
/-- the document's poke: a store -/
theorem Duo.poked (h : Duo X w0 w B a c M d P Q wh keep gp gq lv lm s t) (i : Nat) (v : Int) : Duo X w0 (w.setCell ⟨d, i, none⟩ (.int .u64 v)) B a c M d P Q wh keep gp gq lv lm s { t with cs := t.cs.set i v } := by
  have hT : Touch (fun b => b = d) w (w.setCell ⟨d, i, none⟩ (.int .u64 v)) := Touch.setCell (R := fun b => b = d) (Touch.refl _ _) rfl _
  have hl : ∀ g, lm.ownBlock = some g → ¬ g = d := fun g e e2 => by have := (h.lmB g e).1; have := h.fx.lo.2.2.2; omega
  refine h.mod ⟨by simpa using Blk.touch h.ar.own hT h.fx.ne.2.2.2.2.2, ?_, own_touchR h.ar.log hT hl, h.ar.md, h.ar.lM, h.ar.ld⟩ (fun i hi => Blk.touch (h.prt i hi) hT (h.fx.pq i hi).2.2.2.2) (fun g e => .inl e) (hT.mono (fun b _ e => .inr (.inl e)))
  have := h.ar.row.set i (.int .u64 v)
  rw [show ((t.cs.set i v).map (Value.int .u64)).toArray = ((t.cs.map (Value.int .u64)).toArray).setIfInBounds i (.int .u64 v) by simp [List.map_set]]
  exact this
theorem duo_poke (h : Duo X w0 w B a c M d P Q wh keep gp gq lv lm s t) (hb : Bd s) (i : Nat) (v : Int) (hi : i < s.cs.length) :
    Calls Try.prog 24 #[.pointer (some ⟨a, 0, none⟩), .int .i64 i, .int .u64 v] w fun e w' => e = .returned (.int .i64 0) ∧ Duo X w0 w' B a c M d P Q wh keep gp gq lv lm { s with cs := s.cs.set i v } t :=
  (poke_yes i v h.at' hi hb.2.2.2).mono (fun e w' h' => by
    obtain ⟨he, hA, hT⟩ := h'
    have hl : ∀ g, lv.ownBlock = some g → ¬ g = c := fun g e e2 => by have := (h.lvB g e).1; have := h.fx.lo.2.1; omega
    exact ⟨he, h.real hA (fun hq => ⟨by subst hq; exact hA, own_touchR (h.log hq).own hT hl, (h.log hq).apa, (h.log hq).apc⟩) h.nil (fun j hj => Blk.touch (h.port j hj) hT (h.fx.pq j hj).1.2.1) (fun g e => .inl e) (hT.mono (fun b _ e => .inr (.inl e)))⟩)
theorem Duo.five {ob : Nat} {v0 v1 v2 v3 v4 : Value} {ty : TypeId} (h : Duo X w0 w B a c M d P Q wh keep gp gq lv lm s t) (hb : Blk w0 ob #[v0, v1, v2, v3, v4] ty) (hx : X ob) :
    w.cell? ⟨ob, 0, none⟩ = some v0 ∧ w.cell? ⟨ob, 1, none⟩ = some v1 ∧ w.cell? ⟨ob, 2, none⟩ = some v2 ∧ w.cell? ⟨ob, 3, none⟩ = some v3 ∧ w.cell? ⟨ob, 4, none⟩ = some v4 := by
  have hk : Blk w ob #[v0, v1, v2, v3, v4] ty := hb.of (h.kp.block ob hx (h.xl ob hx))
  exact ⟨hk.val 0 rfl, hk.val 1 rfl, hk.val 2 rfl, hk.val 3 rfl, hk.val 4 rfl⟩
end
end Go.Proofs.Ytedccpconldkoaa
