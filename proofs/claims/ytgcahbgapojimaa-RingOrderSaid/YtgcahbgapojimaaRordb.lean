/- One step of puts, one step of takes, in the midst of the law RingOrder. Condition: the queue is there, the ring's plan is right. -/
import Derived.Test.YtgcahbgapojimaaRorda
namespace Go.Proofs.Ytgcahbgapojimaa
open Go.RowKit
section
variable {w0 w w' : World} {B a c p cp x m : Nat} {pu po : Option Addr} {P T R f nx pn kn : Int} {vp vt : Value} {ps ts cs cs' : List Int} {n np nt N : Nat} {K K' : List Nat} {wh wh2 : Int}
theorem PoSt.keep (h : PoSt w P T R f np nt K kn po) (hQ : QS w0 B a c p cp x pu po nx vp vt ps ts cs n K wh wh2 w) (hm : w.heap.size ≤ m ∨ ∃ ms, Blk w m ms 144) (hT : Touch (PtR B p m x K vp) w w') (hK : ∀ b ∈ K, b ∈ K') {np' : Nat} (hnp : np ≤ np') : PoSt w' P T R f np' nt K' kn po := by
  rcases h with h | ⟨q, v, h1, h2, h3, h4⟩
  · exact .inl h
  · refine .inr ⟨q, v, h1, hK q h2, h3.touch hT (fun r => ?_), ?_⟩
    · rcases r with r | r | r | r | r
      · exact h3.ne hQ.q (by decide) r
      · exact h3.ne hQ.port (by decide) r
      · rcases hm with hm | ⟨ms, hm⟩
        · have := h3.lt; omega
        · exact h3.ne hm (by decide) r
      · exact r.2 h2
      · exact own_ne hQ.own1 r h3 (by decide) rfl
    · rcases h4 with h4 | h4 | h4
      · exact .inl h4
      · exact .inr (.inl ⟨h4.1, h4.2.1, by omega⟩)
      · exact .inr (.inr ⟨h4.1, h4.2.1, by omega⟩)
theorem PuSt.keep (h : PuSt w P T R f np nt K pn pu cs) (hQ : QS w0 B a c p cp x pu po nx vp vt ps ts cs n K wh wh2 w) (hm : w.heap.size ≤ m ∨ ∃ ms, Blk w m ms 149) (hT : Touch (PtR B cp m x K vt) w w') (hK : ∀ b ∈ K, b ∈ K') {nt' : Nat} (hnt : nt ≤ nt') (hcs : cs'.getD (slotN R 0 (f + np)) 0 = cs.getD (slotN R 0 (f + np)) 0) : PuSt w' P T R f np nt' K' pn pu cs' := by
  rcases h with h | ⟨q, h1, h2, h3, h4⟩
  · exact .inl h
  · refine .inr ⟨q, h1, hK q h2, h3.touch hT (fun r => ?_), ?_⟩
    · rcases r with r | r | r | r | r
      · exact h3.ne hQ.q (by decide) r
      · exact h3.ne hQ.cport (by decide) r
      · rcases hm with hm | ⟨ms, hm⟩
        · have := h3.lt; omega
        · exact h3.ne hm (by decide) r
      · exact r.2 h2
      · exact own_ne hQ.own2 r h3 (by decide) rfl
    · rcases h4 with h4 | h4 | h4
      · exact .inl h4
      · exact .inr (.inl ⟨h4.1, by omega⟩)
      · exact .inr (.inr ⟨h4.1, by omega, by rw [hcs]; exact h4.2.2⟩)
/-- how far a step of puts comes -/
def PutGo (np : Nat) (pn : Int) (np' : Nat) (pn' : Int) : Prop := (pn = 0 ∧ np' = np ∧ pn' = 2) ∨ (pn = 2 ∧ np' = np ∧ (pn' = 3 ∨ pn' = 0)) ∨ (pn = 3 ∧ np' = np ∧ pn' = 4) ∨ (pn = 4 ∧ np' = np + 1 ∧ pn' = 0)
theorem ro_put (h : RoQ w0 B a c p cp x P T R f np nt pn kn N w) (hx : exB P T R 0 = true) (hf0 : 0 ≤ f) (hf1 : f < 4611686018427387904) (hnp : np ≤ 1000000) (hN : N < 999990) :
    Calls Try.prog 21 #[.pointer (some ⟨x, 0, none⟩), .agg #[.int .i64 P, .int .i64 T, .int .i64 R]] w fun e w' => (∃ u, e = .returned u) ∧ ∃ np' pn', RoQ w0 B a c p cp x P T R f np' nt pn' kn (N + 1) w' ∧ PutGo np pn np' pn' := by
  obtain ⟨r1, r2⟩ := ring_bd hx
  obtain ⟨pup, pop, vp, vt, cs, n, K, hn, hQ, hC, hU, hO⟩ := h
  have hle := hC.le
  have hro := hC.room
  rcases hU with ⟨rfl, rfl⟩ | ⟨m, rfl, hm, hM, h4⟩
  · refine (puts_nil hQ hx hC.len (by omega) (by omega)).mono fun e w' ⟨he, m, hP, hwm, hT⟩ => ⟨he, np, 2, ⟨_, pop, vp, vt, cs, n + 1, m :: K, by omega, hP.qs, hC, .inr ⟨m, rfl, hP.hm, ?_, .inl rfl⟩, hO.keep hQ (.inl hwm) hT (fun b hb => List.mem_cons_of_mem _ hb) (Nat.le_refl _)⟩, .inl ⟨rfl, rfl, rfl⟩⟩
    have := hP.mach
    rw [hC.tail] at this
    exact this
  · have hP : QP w0 B a c p cp x m pop P T R ((np : Int) + 1) ((np : Int) + 1) (f + np) pn vp vt (seqL np) (seqL nt) cs n K 0 15 w := ⟨hQ, hM, hm⟩
    have hw : IntKind.u64.wrap (f + (np : Int) - (f + nt)) = (np : Int) - nt := by rw [IntKind.wrap_u64]; omega
    rcases h4 with rfl | ⟨rfl, h5⟩ | ⟨rfl, h5, h6⟩
    · by_cases hfu : R ≤ (np : Int) - nt
      · refine (puts_full P T R hP hx hC.len (fun W W0 hW => hW.step2f (hP.ready hx hC.len) (by omega) (by rw [hC.head]; unfold fullB; rw [hw]; exact decide_eq_true hfu))).mono fun e w' ⟨he, hP', hT⟩ => ⟨he, np, 0, ⟨none, pop, vp, vt, cs, n + 1, K, by omega, hP', hC, .inl ⟨rfl, rfl⟩, hO.keep hQ (.inr ⟨_, hM⟩) hT (fun b hb => hb) (Nat.le_refl _)⟩, .inr (.inl ⟨rfl, rfl, .inr rfl⟩)⟩
      · refine (puts_on P T R hP hx hC.len (fun W W0 hW => hW.step2r (hP.ready hx hC.len) (by omega) (by rw [hC.head]; unfold fullB; rw [hw]; exact decide_eq_false hfu))).mono fun e w' ⟨he, hP', hT⟩ => ⟨he, np, 3, ⟨_, pop, vp, vt, cs, n + 1, K, by omega, hP'.qs, hC, .inr ⟨m, rfl, hP'.hm, hP'.mach, .inr (.inl ⟨rfl, by omega⟩)⟩, hO.keep hQ (.inr ⟨_, hM⟩) hT (fun b hb => hb) (Nat.le_refl _)⟩, .inr (.inl ⟨rfl, rfl, .inl rfl⟩)⟩
    · have hS := hC.store hx h5
      refine (puts_on P T R hP hx hC.len (fun W W0 hW => hW.step3 (hP.ready hx hC.len) (by omega) ⟨by omega, by omega⟩)).mono fun e w' ⟨he, hP', hT⟩ => ⟨he, np, 4, ⟨_, pop, vp, vt, _, n + 1, K, by omega, hP'.qs, hS.1, .inr ⟨m, rfl, hP'.hm, hP'.mach, .inr (.inr ⟨rfl, h5, hS.2⟩)⟩, hO.keep hQ (.inr ⟨_, hM⟩) hT (fun b hb => hb) (Nat.le_refl _)⟩, .inr (.inr (.inl ⟨rfl, rfl, rfl⟩))⟩
    · have hS := hC.put hx h5 h6 hf0 (by omega)
      refine (puts_over P T R hP hx hC.len (by rw [seqL_len]; exact hnp) (fun W W0 hW => hW.step4 (hP.ready hx hC.len) (by omega))).mono fun e w' ⟨he, g, cap, hP', hT⟩ => ⟨he, np + 1, 0, ⟨none, pop, .slice (some ⟨g, 0, none⟩) ((seqL np).length + 1) cap, vt, _, n + 1, g :: K, by omega, ?_, hS, .inl ⟨rfl, rfl⟩, hO.keep hQ (.inr ⟨_, hM⟩) hT (fun b hb => List.mem_cons_of_mem _ hb) (Nat.le_succ _)⟩, .inr (.inr (.inr ⟨rfl, rfl, rfl⟩))⟩
      rw [← seqL_succ, show IntKind.u64.wrap ((np : Int) + 1 + 1) = ((np + 1 : Nat) : Int) + 1 by rw [IntKind.wrap_u64]; omega] at hP'
      exact hP'
/-- how far a step of takes comes -/
def TakeGo (np nt : Nat) (kn : Int) (nt' : Nat) (kn' : Int) : Prop := (kn = 0 ∧ nt' = nt ∧ kn' = 1) ∨ (kn = 1 ∧ nt' = nt ∧ (nt < np ∧ kn' = 5 ∨ nt = np ∧ kn' = 0)) ∨ (kn = 5 ∧ nt' = nt ∧ kn' = 6) ∨ (kn = 6 ∧ nt' = nt + 1 ∧ kn' = 0 ∧ nt < np)
theorem ro_take (h : RoQ w0 B a c p cp x P T R f np nt pn kn N w) (hx : exB P T R 0 = true) (hf0 : 0 ≤ f) (hf1 : f < 4611686018427387904) (hnp : np ≤ 1000000) (hN : N < 999990) :
    Calls Try.prog 22 #[.pointer (some ⟨x, 0, none⟩), .agg #[.int .i64 P, .int .i64 T, .int .i64 R]] w fun e w' => (∃ u, e = .returned u) ∧ ∃ nt' kn', RoQ w0 B a c p cp x P T R f np nt' pn kn' (N + 1) w' ∧ TakeGo np nt kn nt' kn' := by
  obtain ⟨r1, r2⟩ := ring_bd hx
  obtain ⟨pup, pop, vp, vt, cs, n, K, hn, hQ, hC, hU, hO⟩ := h
  have hle := hC.le
  have hro := hC.room
  rcases hO with ⟨rfl, rfl⟩ | ⟨m, v, rfl, hm, hM, h4⟩
  · refine (takes_nil hQ hx hC.len (by omega)).mono fun e w' ⟨he, m, hP, hwm, hT⟩ => ⟨he, nt, 1, ⟨pup, _, vp, vt, cs, n + 1, m :: K, by omega, hP.qs, hC, hU.keep hQ (.inl hwm) hT (fun b hb => List.mem_cons_of_mem _ hb) (Nat.le_refl _) rfl, .inr ⟨m, 0, rfl, hP.hm, ?_, .inl ⟨rfl, rfl⟩⟩⟩, .inl ⟨rfl, rfl, rfl⟩⟩
    have := hP.mach
    rw [hC.head] at this
    exact this
  · have hP : QK w0 B a c p cp x m pup P T R ((np : Int) + 1) v (f + nt) kn vp vt (seqL np) (seqL nt) cs n K 0 15 w := ⟨hQ, hM, hm⟩
    rcases h4 with ⟨rfl, rfl⟩ | ⟨rfl, rfl, h5⟩ | ⟨rfl, rfl, h5⟩
    · by_cases hfu : nt = np
      · refine (takes_empty P T R hP hx hC.len (fun W W0 hW => hW.step2e (hP.ready hx hC.len) (by omega) (by rw [hC.tail, hfu]; simp))).mono fun e w' ⟨he, hP', hT⟩ => ⟨he, nt, 0, ⟨pup, none, vp, vt, cs, n + 1, K, by omega, hP', hC, hU.keep hQ (.inr ⟨_, hM⟩) hT (fun b hb => hb) (Nat.le_refl _) rfl, .inl ⟨rfl, rfl⟩⟩, .inr (.inl ⟨rfl, rfl, .inr ⟨hfu, rfl⟩⟩)⟩
      · refine (takes_on P T R hP hx hC.len (fun W W0 hW => hW.step2s (hP.ready hx hC.len) (by omega) (by rw [hC.tail]; exact beq_eq_false_iff_ne.2 (by omega)))).mono fun e w' ⟨he, hP', hT⟩ => ⟨he, nt, 5, ⟨pup, _, vp, vt, cs, n + 1, K, by omega, hP'.qs, hC, hU.keep hQ (.inr ⟨_, hM⟩) hT (fun b hb => hb) (Nat.le_refl _) rfl, .inr ⟨m, 0, rfl, hP'.hm, hP'.mach, .inr (.inl ⟨rfl, rfl, by omega⟩)⟩⟩, .inr (.inl ⟨rfl, rfl, .inl ⟨by omega, rfl⟩⟩)⟩
    · have hs := hC.slot nt (Nat.le_refl _) h5
      refine (takes_on P T R hP hx hC.len (fun W W0 hW => hW.step3 (hP.ready hx hC.len) (by omega) ⟨by omega, by omega⟩)).mono fun e w' ⟨he, hP', hT⟩ => ⟨he, nt, 6, ⟨pup, _, vp, vt, cs, n + 1, K, by omega, hP'.qs, hC, hU.keep hQ (.inr ⟨_, hM⟩) hT (fun b hb => hb) (Nat.le_refl _) rfl, .inr ⟨m, _, rfl, hP'.hm, hP'.mach, .inr (.inr ⟨rfl, hs, h5⟩)⟩⟩, .inr (.inr (.inl ⟨rfl, rfl, rfl⟩))⟩
    · have hS := hC.take hx h5 hf0 (by omega)
      refine (takes_over P T R hP hx hC.len (by rw [seqL_len]; omega) (fun W W0 hW => hW.step4 (hP.ready hx hC.len) (by omega))).mono fun e w' ⟨he, g, cap, hP', hT⟩ => ⟨he, nt + 1, 0, ⟨pup, none, vp, .slice (some ⟨g, 0, none⟩) ((seqL nt).length + 1) cap, _, n + 1, g :: K, by omega, ?_, hS, hU.keep hQ (.inr ⟨_, hM⟩) hT (fun b hb => List.mem_cons_of_mem _ hb) (Nat.le_succ _) (by rw [getD_set, if_neg (fun e => (slot_far hx (f + np)).1 e.1.symm)]), .inl ⟨rfl, rfl⟩⟩, .inr (.inr (.inr ⟨rfl, rfl, rfl, h5⟩))⟩
      rw [← seqL_succ] at hP'
      exact hP'
end
end Go.Proofs.Ytgcahbgapojimaa
