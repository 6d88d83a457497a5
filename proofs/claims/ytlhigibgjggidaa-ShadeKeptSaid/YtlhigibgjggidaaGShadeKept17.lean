/- Texts of this seat, one behind the other: each says at its head what it holds. No condition of its own. -/
import Derived.Deep.AppendLies
import Derived.Deep.RegionLaw
import Derived.Test.YtlhigibgjggidaaGB13
import Derived.Test.YtlhigibgjggidaaGB14
import Derived.Test.YtlhigibgjggidaaGShadeKept16
/- ShadeOne: the machines while they are made; the list of them; what is counted, and what is marked at the end. Condition: the plan is right. -/
namespace Go.Proofs.Ytlhigibgjggidaa
open Go.RowKit
set_option linter.unusedVariables false
theorem sown_neT {w : World} {B E size n b : Nat} {v : Value} {xs : List Value} {cs : Array Value} {t : TypeId} (h : w.ownsRow B E size v n xs) (hb : Blk w b cs t) (ht : E ≠ t) : v.ownBlock ≠ some b := by
  intro hg
  rcases h.2 with ⟨hv, _⟩ | ⟨g', cap, cur, hv, _, hh, _⟩
  · rw [hv] at hg; cases hg
  · rw [hv] at hg
    obtain rfl : g' = b := Option.some.inj hg
    unfold Blk at hb
    rw [hh] at hb
    injection hb with hb
    injection hb with _ h2
    exact ht h2
def rowS (P : Nat → Nat) (k : Nat) : List Value := (List.range k).map fun j => Value.pointer (some ⟨P j, 0, none⟩)
theorem rowS_succ (ps : Nat → Nat) (k p : Nat) : rowS (updS ps k p) (k + 1) = rowS ps k ++ [Value.pointer (some ⟨p, 0, none⟩)] := by
  unfold rowS
  rw [List.range_succ, List.map_append]
  congr 1
  · refine List.map_congr_left fun j hj => ?_
    have h1 := List.mem_range.1 hj
    rw [updS_ne (by omega)]
  · simp [updS_eq]
theorem rowS_get (P : Nat → Nat) (k j : Nat) (h : j < k) : (rowS P k)[j]? = some (Value.pointer (some ⟨P j, 0, none⟩)) := by
  unfold rowS; simp [h]
theorem rowS_len (P : Nat → Nat) (k : Nat) : (rowS P k).length = k := by unfold rowS; simp
theorem info_ps : (Try.prog.info? 45).map (fun i => (i.zero, i.size, i.bytes)) = some (some (.pointer none), 1, 8) := by kernel_rfl
/-- while the machines are made: k of them -/
structure MkM (w1 : World) (P T R rf : Int) (ce : Nat) (bi : Int) (k : Nat) (bs bm bu : Nat → Nat) (u : Value) (w : World) : Prop where
  bel : Below w1.heap.size w1 w
  sh : ∀ j, j < k → ShadeAt w (bs j) rf (bm j) (some ⟨bu j, 0, none⟩) 1 false
  ma : ∀ j, j < k → MarkAt w (bm j) ce bi 1 false
  pu : ∀ j, j < k → PushAt w (bu j) P T R (j : Int) rf 0 1 false
  row : w.ownsRow w1.heap.size 45 1 u k (rowS bs k)
  loc : ∀ j, j < k → w1.heap.size ≤ bm j ∧ bm j < bu j ∧ bu j < bs j ∧ bs j < w.heap.size
  ord : ∀ i j, i < j → j < k → bs i < bm j
section
variable {w1 w w' : World} {P T R rf : Int} {ce : Nat} {bi : Int} {k : Nat} {bs bm bu : Nat → Nat} {u : Value}
theorem MkM.start (w1 : World) (P T R rf : Int) (ce : Nat) (bi : Int) : MkM w1 P T R rf ce bi 0 (fun _ => 0) (fun _ => 0) (fun _ => 0) (.slice none 0 0) w1 :=
  ⟨Below.refl _ _, fun j hj => absurd hj (Nat.not_lt_zero _), fun j hj => absurd hj (Nat.not_lt_zero _), fun j hj => absurd hj (Nat.not_lt_zero _), World.ownsRow_nil _ _ _ _, fun j hj => absurd hj (Nat.not_lt_zero _), fun i j _ hj => absurd hj (Nat.not_lt_zero _)⟩
theorem MkM.grew (h : MkM w1 P T R rf ce bi k bs bm bu u w) (hb : Below w.heap.size w w') : MkM w1 P T R rf ce bi k bs bm bu u w' :=
  ⟨h.bel.trans (hb.mono h.bel.size), fun j hj => Blk.grew (h.sh j hj) hb, fun j hj => Blk.grew (h.ma j hj) hb, fun j hj => Blk.grew (h.pu j hj) hb, own_grew h.row hb, fun j hj => by have := h.loc j hj; have := hb.size; omega, h.ord⟩
/-- one more -/
theorem MkM.more {s mk pu : Nat} {u' : Value} {wm : World} (h : MkM w1 P T R rf ce bi k bs bm bu u w) (hb : Below w.heap.size w wm) (hS : ShadeAt wm s rf mk (some ⟨pu, 0, none⟩) 1 false) (hM : MarkAt wm mk ce bi 1 false) (hU : PushAt wm pu P T R (k : Int) rf 0 1 false) (l1 : w.heap.size ≤ mk) (l2 : mk < pu) (l3 : pu < s)
    (hg : wm.grownBy w' u.ownBlock) (ho : w'.ownsRow w1.heap.size 45 1 u' (k + 1) (rowS bs k ++ [Value.pointer (some ⟨s, 0, none⟩)])) :
    MkM w1 P T R rf ce bi (k + 1) (updS bs k s) (updS bm k mk) (updS bu k pu) u' w' := by
  have hG := h.grew hb
  have T5 : Touch (fun b => u.ownBlock = some b) wm w' := (Touch.refl _ _).grown hg (fun k hk => .inl hk)
  have hsz := h.bel.size
  refine ⟨hG.bel.trans (T5.below hG.bel.size (fun b e => (h.row.lt b e).1)), fun j hj => ?_, fun j hj => ?_, fun j hj => ?_, by rw [rowS_succ]; exact ho, fun j hj => ?_, fun i j hij hj => ?_⟩
  · by_cases e : j = k
    · subst e; rw [updS_eq, updS_eq, updS_eq]; exact Blk.touch hS T5 (sown_neT hG.row hS (by decide))
    · rw [updS_ne e, updS_ne e, updS_ne e]; exact Blk.touch (hG.sh j (by omega)) T5 (sown_neT hG.row (hG.sh j (by omega)) (by decide))
  · by_cases e : j = k
    · subst e; rw [updS_eq]; exact Blk.touch hM T5 (sown_neT hG.row hM (by decide))
    · rw [updS_ne e]; exact Blk.touch (hG.ma j (by omega)) T5 (sown_neT hG.row (hG.ma j (by omega)) (by decide))
  · by_cases e : j = k
    · subst e; rw [updS_eq]; exact Blk.touch hU T5 (sown_neT hG.row hU (by decide))
    · rw [updS_ne e]; exact Blk.touch (hG.pu j (by omega)) T5 (sown_neT hG.row (hG.pu j (by omega)) (by decide))
  · have hs := hS.lt
    have ht := T5.size
    by_cases e : j = k
    · subst e; rw [updS_eq, updS_eq, updS_eq]; omega
    · rw [updS_ne e, updS_ne e, updS_ne e]; have := hG.loc j (by omega); omega
  · have e2 : i ≠ k := by omega
    rw [updS_ne e2]
    by_cases e : j = k
    · subst e; rw [updS_eq]; have := h.loc i hij; omega
    · rw [updS_ne e]; exact h.ord i j hij (by omega)
end
theorem own_formS {w : World} {B E n : Nat} {v : Value} {xs : List Value} (h : w.ownsRow B E 1 v n xs) (h0 : 0 < n) : ∃ g cap, v = .slice (some ⟨g, 0, none⟩) n cap ∧ B ≤ g ∧ g < w.heap.size ∧ v.ownBlock = some g := by
  rcases h.2 with ⟨_, h2⟩ | ⟨g, cap, cur, h1, h2, _⟩
  · omega
  · exact ⟨g, cap, h1, h2, (h.lt g (by rw [h1]; rfl)).2, by rw [h1]; rfl⟩
/-- all blocks of the machines -/
def allM (bs bm bu : Nat → Nat) : Nat → List Nat
  | 0 => []
  | k + 1 => bs k :: bm k :: bu k :: allM bs bm bu k
theorem mem_allM {bs bm bu : Nat → Nat} {b : Nat} : ∀ k, b ∈ allM bs bm bu k ↔ ∃ j, j < k ∧ (b = bs j ∨ b = bm j ∨ b = bu j)
  | 0 => by simp [allM]
  | k + 1 => by
    have ih := mem_allM (bs := bs) (bm := bm) (bu := bu) (b := b) k
    simp only [allM, List.mem_cons, ih]
    constructor
    · rintro (r | r | r | ⟨j, hj, r⟩)
      · exact ⟨k, by omega, .inl r⟩
      · exact ⟨k, by omega, .inr (.inl r)⟩
      · exact ⟨k, by omega, .inr (.inr r)⟩
      · exact ⟨j, by omega, r⟩
    · rintro ⟨j, hj, r⟩
      by_cases e : j = k
      · subst e
        rcases r with r | r | r
        · exact .inl r
        · exact .inr (.inl r)
        · exact .inr (.inr (.inl r))
      · exact .inr (.inr (.inr ⟨j, by omega, r⟩))
/-- how many are fresh among the first t -/
def cntF (st : Nat → Nat) : Nat → Nat
  | 0 => 0
  | t + 1 => cntF st t + (if st t = 5 then 1 else 0)
theorem cntF_upd (st : Nat → Nat) (k s : Nat) : ∀ t, t ≤ k → cntF (updS st k s) t = cntF st t
  | 0, _ => rfl
  | t + 1, h => by
    unfold cntF
    rw [cntF_upd st k s t (by omega), updS_ne (by omega)]
theorem cntF_le (st : Nat → Nat) : ∀ t, cntF st t ≤ t
  | 0 => Nat.le_refl 0
  | t + 1 => by unfold cntF; have := cntF_le st t; split <;> omega
theorem OneF.count {set M : Bool} {T : Int} {st : Nat → Nat} {f : Nat} (h : OneF set T M st f) : ∀ t : Nat, (t : Int) ≤ T → (∀ j, j < t → st j = 5 ∨ st j = 6) → cntF st t = if f < t then 1 else 0
  | 0, _, _ => by simp [cntF]
  | t + 1, ht, hd => by
    have ih := h.count t (by omega) (fun j hj => hd j (by omega))
    have h1 := h.fr t (by omega)
    have h2 := hd t (by omega)
    unfold cntF
    rw [ih]
    by_cases e : f = t
    · have := h1.2 e.symm
      rw [if_neg (by omega), if_pos (by omega), if_pos (by omega)]
    · have : ¬ (1 ≤ st t ∧ st t ≤ 5) := fun q => e (h1.1 q).symm
      rw [if_neg (show ¬ st t = 5 by omega)]
      by_cases e2 : f < t
      · rw [if_pos e2, if_pos (by omega)]
      · rw [if_neg e2, if_neg (by omega)]
theorem OneF.last {set M : Bool} {T : Int} {st : Nat → Nat} {f t : Nat} (h : OneF set T M st f) (h0 : 0 < t) (ht : (t : Int) = T) (hd : ∀ j, j < t → st j = 5 ∨ st j = 6) : M = true ∧ cntF st t = (if set then 0 else 1) := by
  have hM : M = true := by
    cases M with
    | true => rfl
    | false =>
      have := h.m0 rfl 0 (by omega)
      have := hd 0 h0
      omega
  refine ⟨hM, ?_⟩
  rw [h.count t (by omega) hd]
  cases set with
  | true =>
    have := (h.m1 rfl).2
    rw [if_neg (by omega)]; rfl
  | false =>
    have := (h.m2 rfl).1 hM
    rw [if_pos (by omega)]; rfl
/-- the cells at the end: which marks are set -/
theorem CsO.marked {P T R rf : Int} {ce : Nat} {st : Nat → Nat} {cs : List Int} (h : CsO P T R ce (bitI P T R rf) true st cs) (hr : refB P T R rf = true) (hce : cellI P T R rf = (ce : Int)) (hc : tabI T R ≤ (ce : Int)) {x : Int} (hx : refB P T R x = true) :
    ∃ i : Nat, cellI P T R x = (i : Int) ∧ i < cs.length ∧ (bits .and .u64 (cs.getD i 0) (bitI P T R x) != 0) = (x == rf) := by
  obtain ⟨hR, x1, x2, x3⟩ := ref_bd hx
  obtain ⟨_, r1, r2, r3⟩ := ref_bd hr
  have hb := base_bd hR
  have hp := hR.1
  have cells : ∀ y, refB P T R y = true → cellI P T R y = tabI T R + 2 * P + pgI P T R y := by
    intro y hy
    obtain ⟨_, y1, y2, y3⟩ := ref_bd hy
    unfold cellI rowI inB
    have : 0 ≤ pgI P T R y ∧ pgI P T R y ≤ P - 1 := by unfold pgI; omega
    rw [of_right hR, Bool.true_and, if_pos (decide_eq_true this)]
  have hy : 16 ≤ tabI T R := by unfold tabI; have := hR.2.1; have := hR.2.2; have := Int.mul_nonneg (show 0 ≤ T by omega) (show 0 ≤ 5 + R by omega); omega
  have ex := cells x hx
  have er := cells rf hr
  have px : 0 ≤ pgI P T R x ∧ pgI P T R x ≤ P - 1 := by unfold pgI; omega
  have hlen := (cellsN_bd hR).1
  refine ⟨(cellI P T R x).toNat, by omega, by rw [h.len]; omega, ?_⟩
  obtain ⟨X, eX, hX0, hX1⟩ := (BitO.of hx).ex
  have wx : 0 ≤ wdI P T R x ∧ wdI P T R x < 64 := by unfold wdI; omega
  have wr : 0 ≤ wdI P T R rf ∧ wdI P T R rf < 64 := by unfold wdI; omega
  by_cases e : (cellI P T R x).toNat = ce
  · rw [e, h.ma]
    have epg : pgI P T R x = pgI P T R rf := by omega
    rw [if_pos rfl, bit_nat wx, bit_nat wr]
    rw [bits_and_u64_nat _ _ (Nat.pow_lt_pow_right (show 1 < 2 by decide) (show (wdI P T R rf).toNat < 64 by omega)) (Nat.pow_lt_pow_right (show 1 < 2 by decide) (show (wdI P T R x).toNat < 64 by omega))]
    by_cases e2 : x = rf
    · subst e2
      rw [Nat.and_self]
      have h2 : 0 < 2 ^ (wdI P T R x).toNat := Nat.pow_pos (by decide)
      have h3 : (((2 ^ (wdI P T R x).toNat : Nat) : Int) != 0) = true := bne_iff_ne.2 (by omega)
      rw [h3]
      simp
    · have hne : (wdI P T R rf).toNat ≠ (wdI P T R x).toNat := by
        intro q
        apply e2
        unfold pgI at epg
        unfold wdI at q wx wr
        omega
      have hz : 2 ^ (wdI P T R rf).toNat &&& 2 ^ (wdI P T R x).toNat = 0 := by
        apply Nat.eq_of_testBit_eq
        intro j
        rw [Nat.testBit_and, Nat.testBit_two_pow, Nat.testBit_two_pow, Nat.zero_testBit]
        by_cases q1 : (wdI P T R rf).toNat = j
        · have : ¬ (wdI P T R x).toNat = j := by omega
          simp [this]
        · simp [q1]
      rw [hz]
      have : (x == rf) = false := beq_eq_false_iff_ne.2 e2
      rw [this]
      rfl
  · rw [h.far _ (by omega) e, eX]
    have hn : x ≠ rf := by
      intro q
      subst q
      omega
    have : (x == rf) = false := beq_eq_false_iff_ne.2 hn
    rw [this, and_zero_nat hX1]
    rfl
theorem CsO.zero {P T R : Int} (ce : Nat) (bi : Int) : CsO P T R ce bi false (fun _ => 0) (List.replicate (cellsN P T R) 0) := by
  have e : ∀ j, (List.replicate (cellsN P T R) (0 : Int)).getD j 0 = 0 := fun j => by
    simp only [List.getD_eq_getElem?_getD, List.getElem?_replicate]; split <;> rfl
  exact ⟨by simp, fun i _ _ => e i, e ce, fun k _ => e _, fun k _ => e _⟩
theorem CsO.poked {P T R : Int} {ce : Nat} {bi : Int} (h : CsO P T R ce bi false (fun _ => 0) (List.replicate (cellsN P T R) 0)) (hr : 1 ≤ R) (hc : tabI T R ≤ (ce : Int)) (hl : ce < cellsN P T R) : CsO P T R ce bi true (fun _ => 0) ((List.replicate (cellsN P T R) 0).set ce bi) := by
  have := h.mark hr hc (by rw [h.len]; exact hl) (k := 0) (s := 0) (by decide) (by decide)
  rw [updS_self rfl] at this
  exact this
section
variable {w0 w w' : World} {B a c p : Nat} {P T R rf : Int} {ce : Nat} {bi : Int} {K : List Nat} {bs bm bu : Nat → Nat} {set : Bool} {st : Nat → Nat} {N : Nat} {o : Bool}
theorem SmX.blk (h : SmX w0 B a c p P T R rf ce bi K bs bm bu set st N o w) {b : Nat} (hlt : b < w0.heap.size) (h1 : b ≠ p) (h2 : ∀ k : Nat, (k : Int) < T → b ≠ bs k ∧ b ≠ bm k ∧ b ≠ bu k) (h3 : b < B ∨ b ∈ K) : w.heap[b]? = w0.heap[b]? := by
  refine h.tch.block b hlt ?_
  rintro (r | ⟨k, hk, r⟩ | ⟨r1, r2⟩)
  · exact h1 r
  · have := h2 k hk
    rcases r with r | r | r
    · exact this.1 r
    · exact this.2.1 r
    · exact this.2.2 r
  · rcases h3 with h3 | h3
    · omega
    · exact r2 h3
end
/-- the machines are made: all of them as one fact -/
theorem MkM.done {wc w : World} {B a c p db g cap k : Nat} {P T R rf : Int} {ce : Nat} {bi : Int} {bs bm bu : Nat → Nat} {set : Bool} {cs : List Int} (h : MkM wc P T R rf ce bi k bs bm bu (.slice (some ⟨g, 0, none⟩) k cap) w) (hk : (k : Int) = T) (hr : Right P T R) (hY : Ary wc B a c cs 0 [db, p]) (hP : PortAt wc p a 1 false) (hC : CsO P T R ce bi set (fun _ => 0) cs) (hc : tabI T R ≤ (ce : Int)) (hl : ce < cellsN P T R) :
    ∃ K, SmD P T R p ce K bs bm bu ∧ SmX w B a c p P T R rf ce bi K bs bm bu set (fun _ => 0) 0 false w ∧ g ∈ K ∧ db ∈ K ∧ (∀ j : Nat, (j : Int) < T → g ≠ bs j ∧ g ≠ bm j ∧ g ≠ bu j) ∧ wc.heap.size ≤ g ∧ g < w.heap.size ∧ (∀ j : Nat, (j : Int) < T → w.cell? ⟨g, j, none⟩ = some (.pointer (some ⟨bs j, 0, none⟩)) ∧ wc.heap.size ≤ bm j ∧ wc.heap.size ≤ bu j ∧ wc.heap.size ≤ bs j) := by
  have hT : ∀ j : Nat, (j : Int) < T → j < k := fun j hj => by omega
  have hg := h.row.lt g rfl
  have hp := Blk.lt hP
  have hA := hY.adds (L := g :: allM bs bm bu k) h.bel (by
    intro m hm
    rcases List.mem_cons.1 hm with rfl | hm
    · exact hg
    · obtain ⟨j, hj, r⟩ := (mem_allM k).1 hm
      have := h.loc j hj
      rcases r with rfl | rfl | rfl <;> omega)
  have hin : ∀ j, j < k → bs j ∈ (g :: allM bs bm bu k) ++ [db, p] ∧ bm j ∈ (g :: allM bs bm bu k) ++ [db, p] ∧ bu j ∈ (g :: allM bs bm bu k) ++ [db, p] := fun j hj =>
    ⟨List.mem_append_left _ (List.mem_cons_of_mem _ ((mem_allM k).2 ⟨j, hj, .inl rfl⟩)), List.mem_append_left _ (List.mem_cons_of_mem _ ((mem_allM k).2 ⟨j, hj, .inr (.inl rfl)⟩)), List.mem_append_left _ (List.mem_cons_of_mem _ ((mem_allM k).2 ⟨j, hj, .inr (.inr rfl)⟩))⟩
  refine ⟨(g :: allM bs bm bu k) ++ [db, p], ⟨hr, fun i j hij hj => h.ord i j hij (hT j hj), fun j hj => by have := h.loc j (hT j hj); omega, fun j hj => hin j (hT j hj), by simp, hc, hl⟩,
    ⟨cs, 0, set, T.toNat, Nat.le_refl 0, ⟨hA, Blk.grew hP h.bel, fun j hj => h.sh j (hT j hj), fun j hj => h.ma j (hT j hj), fun j hj => h.pu j (hT j hj), Touch.refl _ _⟩, hC, OneF.start set (by omega)⟩, by simp, by simp, fun j hj => ?_, hg.1, hg.2, fun j hj => ⟨?_, ?_⟩⟩
  · have hj' := hT j hj
    have e1 := sown_neT h.row (h.sh j hj') (by decide)
    have e2 := sown_neT h.row (h.ma j hj') (by decide)
    have e3 := sown_neT h.row (h.pu j hj') (by decide)
    exact ⟨fun r => e1 (r ▸ rfl), fun r => e2 (r ▸ rfl), fun r => e3 (r ▸ rfl)⟩
  · rw [h.row.cellAt j (by have := hT j hj; omega)]
    exact rowS_get bs k j (hT j hj)
  · have := h.loc j (hT j hj); omega
theorem smod_T (x : Int) (T : Nat) (h0 : 0 < T) (h1 : T ≤ 6) : ∃ t : Nat, wrap64 ((IntKind.u64.wrap x).tmod (T : Int)) = (t : Int) ∧ t < T := by
  have hw : 0 ≤ IntKind.u64.wrap x := by rw [IntKind.wrap_u64]; omega
  generalize IntKind.u64.wrap x = y at *
  have e : y.tmod T = y % T := by rw [Int.tmod_eq_emod_of_nonneg hw]
  have h2 : 0 ≤ y % (T : Int) := Int.emod_nonneg _ (by omega)
  have h3 : y % (T : Int) < T := Int.emod_lt_of_pos _ (by omega)
  rw [e]
  generalize y % (T : Int) = z at *
  rw [IntWalk.wrap64_in z ⟨by omega, by omega⟩]
  exact ⟨z.toNat, by omega, by omega⟩
/-- the plan's and the map's boxes, the arena and its port: B where the arena begins -/
structure OnS (w : World) (B a c p qb db : Nat) (P T R : Int) (cs : List Int) (W : World) : Prop where
  q : Blk W qb #[.int .i64 P, .int .i64 T, .int .i64 R] 23
  d : Blk W db #[.int .i64 P, .int .i64 T, .int .i64 R, .int .i64 (baseI P T R), .int .i64 (tabI T R), .int .i64 (baseI P T R + 64 * P)] 38
  arx : Arx W B a c cs [] 0 [db, p]
  port : PortAt W p a 1 false
  bel : Below w.heap.size w W
  lq : qb < B
  lw : w.heap.size ≤ B
  lp : B ≤ p
theorem OnS.grew {w W W' : World} {B a c p qb db : Nat} {P T R : Int} {cs : List Int} (h : OnS w B a c p qb db P T R cs W) (hb : Below W.heap.size W W') : OnS w B a c p qb db P T R cs W' :=
  ⟨Blk.grew h.q hb, Blk.grew h.d hb, h.arx.grew hb, Blk.grew h.port hb, h.bel.trans (hb.mono h.bel.size), h.lq, h.lw, h.lp⟩
theorem OnS.quiet {w W W' : World} {B a c p qb db : Nat} {P T R : Int} {cs : List Int} (h : OnS w B a c p qb db P T R cs W) (hq : Quiet W W') : OnS w B a c p qb db P T R cs W' := h.grew hq.below
theorem OnS.drew {w W : World} {B a c p qb db : Nat} {P T R : Int} {cs : List Int} (h : OnS w B a c p qb db P T R cs W) : OnS w B a c p qb db P T R cs W.drew := h.quiet ⟨1, rfl⟩
theorem OnS.six {w W : World} {B a c p qb db : Nat} {P T R : Int} {cs : List Int} (h : OnS w B a c p qb db P T R cs W) : W.cell? ⟨db, 0, none⟩ = some (.int .i64 P) ∧ W.cell? ⟨db, 1, none⟩ = some (.int .i64 T) ∧ W.cell? ⟨db, 2, none⟩ = some (.int .i64 R) ∧ W.cell? ⟨db, 3, none⟩ = some (.int .i64 (baseI P T R)) ∧ W.cell? ⟨db, 4, none⟩ = some (.int .i64 (tabI T R)) ∧ W.cell? ⟨db, 5, none⟩ = some (.int .i64 (baseI P T R + 64 * P)) := h.d.six.1
theorem OnS.poke {w W : World} {B a c p qb db : Nat} {P T R : Int} {cs : List Int} (h : OnS w B a c p qb db P T R cs W) (i : Nat) (v : Int) (hi : i < cs.length) (hm : cs.length ≤ 1000000) :
    Calls Try.prog 22 #[.pointer (some ⟨a, 0, none⟩), .int .i64 i, .int .u64 v] W fun e W' => e = .returned (.int .i64 0) ∧ OnS w B a c p qb db P T R (cs.set i v) W' := by
  refine (poke_x v h.arx hi hm).mono fun e W' ⟨he, hA, hT⟩ => ⟨he, ?_⟩
  have lc := h.arx.bc
  have nd : db ≠ c := fun e => h.arx.nc (e ▸ by simp)
  have np : p ≠ c := fun e => h.arx.nc (e ▸ by simp)
  have lq := h.lq
  exact ⟨Blk.touch h.q hT (by omega), Blk.touch h.d hT nd, hA, Blk.touch h.port hT np, h.bel.trans (hT.below h.bel.size (fun b e => by have := h.lw; omega)), h.lq, h.lw, h.lp⟩
/-- what is kept while the machines step: the boxes, the list of the machines -/
structure OnK (w : World) (qb db g : Nat) (P T R : Int) (bs : Nat → Nat) (W : World) : Prop where
  q : Blk W qb #[.int .i64 P, .int .i64 T, .int .i64 R] 23
  d : Blk W db #[.int .i64 P, .int .i64 T, .int .i64 R, .int .i64 (baseI P T R), .int .i64 (tabI T R), .int .i64 (baseI P T R + 64 * P)] 38
  row : ∀ j : Nat, (j : Int) < T → W.cell? ⟨g, j, none⟩ = some (.pointer (some ⟨bs j, 0, none⟩))
  bel : Below w.heap.size w W
theorem OnK.grew {w W W' : World} {qb db g : Nat} {P T R : Int} {bs : Nat → Nat} (h : OnK w qb db g P T R bs W) (hb : Below W.heap.size W W') : OnK w qb db g P T R bs W' :=
  ⟨Blk.grew h.q hb, Blk.grew h.d hb, fun j hj => by rw [hb.cell (p := ⟨g, j, none⟩) (World.block_lt_of_cell? W _ (h.row j hj))]; exact h.row j hj, h.bel.trans (hb.mono h.bel.size)⟩
theorem SmX.keeps {w wc WL W : World} {B a c p qb db g : Nat} {P T R rf : Int} {ce : Nat} {bi : Int} {K : List Nat} {bs bm bu : Nat → Nat} {set : Bool} {st : Nat → Nat} {N : Nat} {o : Bool} {cs : List Int} (hX : SmX WL B a c p P T R rf ce bi K bs bm bu set st N o W)
    (hO : OnS w B a c p qb db P T R cs wc) (hb : Below wc.heap.size wc WL) (hg : g ∈ K) (hd : db ∈ K) (hgn : ∀ j : Nat, (j : Int) < T → g ≠ bs j ∧ g ≠ bm j ∧ g ≠ bu j) (hg3 : wc.heap.size ≤ g) (hg4 : g < WL.heap.size)
    (hrow : ∀ j : Nat, (j : Int) < T → WL.cell? ⟨g, j, none⟩ = some (.pointer (some ⟨bs j, 0, none⟩)) ∧ wc.heap.size ≤ bm j ∧ wc.heap.size ≤ bu j ∧ wc.heap.size ≤ bs j) : OnK w qb db g P T R bs W := by
  have lp := Blk.lt hO.port
  have ld := hO.d.lt
  have lq := hO.q.lt
  have lB := hO.lp
  have lw := hO.lw
  have lqB := hO.lq
  have hs := hb.size
  have nd : db ≠ p := by
    intro e
    have h1 := hO.d
    have h2 := hO.port
    unfold PortAt at h2
    unfold Blk at h1 h2
    rw [e, h2] at h1
    injection h1 with h1
    injection h1 with _ h1
    exact absurd h1 (by decide)
  have kq := hX.blk (b := qb) (by omega) (by omega) (fun j hj => by have := hrow j hj; omega) (.inl lqB)
  have kd := hX.blk (b := db) (by omega) nd (fun j hj => by have := hrow j hj; omega) (.inr hd)
  have kg := hX.blk (b := g) hg4 (by omega) hgn (.inr hg)
  refine ⟨(Blk.grew hO.q hb).of kq, (Blk.grew hO.d hb).of kd, fun j hj => ?_, ?_⟩
  · rw [World.cell?_of_block (a := ⟨g, j, none⟩) kg]; exact (hrow j hj).1
  · refine (hO.bel.trans (hb.mono hO.bel.size)).trans (hX.tch.below (Nat.le_trans hO.bel.size hs) (fun b e => ?_))
    rcases e with e | ⟨j, hj, e⟩ | ⟨e, _⟩
    · omega
    · have := hrow j hj
      have := hO.bel.size
      rcases e with e | e | e <;> omega
    · omega
theorem SmX.mono {w0 w : World} {B a c p : Nat} {P T R rf : Int} {ce : Nat} {bi : Int} {K : List Nat} {bs bm bu : Nat → Nat} {set : Bool} {st : Nat → Nat} {N N' : Nat} {o : Bool} (h : SmX w0 B a c p P T R rf ce bi K bs bm bu set st N o w) (hN : N ≤ N') : SmX w0 B a c p P T R rf ce bi K bs bm bu set st N' o w := by
  obtain ⟨cs, n, M, f, h1, h2⟩ := h
  exact ⟨cs, n, M, f, by omega, h2⟩
/-- at the end: what is marked, and how many were fresh -/
theorem SmX.over {w0 w : World} {B a c p : Nat} {P T R rf : Int} {ce : Nat} {K : List Nat} {bs bm bu : Nat → Nat} {set : Bool} {st : Nat → Nat} {N : Nat} {o : Bool} {t : Nat} (h : SmX w0 B a c p P T R rf ce (bitI P T R rf) K bs bm bu set st N o w) (ht : (t : Int) = T) (h0 : 0 < t) (hd : ∀ j, j < t → st j = 5 ∨ st j = 6)
    (hr : refB P T R rf = true) (hce : cellI P T R rf = (ce : Int)) (hc : tabI T R ≤ (ce : Int)) :
    cntF st t = (if set then 0 else 1) ∧ ∀ x W, refB P T R x = true → U64 x → Below w.heap.size w W → Calls Try.prog 28 #[.pointer (some ⟨a, 0, none⟩), .agg #[.int .i64 P, .int .i64 T, .int .i64 R], .int .u64 x] W fun e W' => e = .returned (.bool (x == rf)) ∧ Below W.heap.size W W' := by
  obtain ⟨cs, n, M, f, h1, h2, h3, h4⟩ := h
  obtain ⟨rfl, hcn⟩ := h4.last h0 ht hd
  refine ⟨hcn, fun x W hx hu hb => ?_⟩
  obtain ⟨i, hi, hl, he⟩ := h3.marked hr hce hc hx
  have hlen := (cellsN_bd (ref_bd hr).1).2.2
  have := marked_yes P T R x W hu hx (h2.ary.grew hb) hi hl (by rw [h3.len]; omega)
  rw [he] at this
  exact this
end Go.Proofs.Ytlhigibgjggidaa
/- Words for the queue of the laws of package ring: its block, its two rows of words, its machines. No condition. -/
namespace Go.Proofs.Ytlhigibgjggidaa
open Go.RowKit
theorem PoE.mach {w0 w : World} {B a c p m : Nat} {P T R t v tl nx : Int} {fu : Bool} {cs : List Int} {n : Nat} {K : List Nat} {who : Int} {o : Bool} (h : PoE w0 B a c p m P T R t v tl nx fu cs n K who o w) : PopAt w m P T R t v tl nx fu := by
  obtain ⟨xs, h⟩ := h; exact h.mach
theorem PoE.port {w0 w : World} {B a c p m : Nat} {P T R t v tl nx : Int} {fu : Bool} {cs : List Int} {n : Nat} {K : List Nat} {who : Int} {o : Bool} (h : PoE w0 B a c p m P T R t v tl nx fu cs n K who o w) : PortAt w p a who o := by
  obtain ⟨xs, h⟩ := h; exact h.port
theorem PoE.touch {w0 w : World} {B a c p m : Nat} {P T R t v tl nx : Int} {fu : Bool} {cs : List Int} {n : Nat} {K : List Nat} {who : Int} {o : Bool} (h : PoE w0 B a c p m P T R t v tl nx fu cs n K who o w) : Touch (fun b => b = p ∨ b = m ∨ (B ≤ b ∧ b ∉ K)) w0 w := by
  obtain ⟨xs, h⟩ := h; exact h.touch
theorem PoE.ary {w0 w : World} {B a c p m : Nat} {P T R t v tl nx : Int} {fu : Bool} {cs : List Int} {n : Nat} {K : List Nat} {who : Int} {o : Bool} (h : PoE w0 B a c p m P T R t v tl nx fu cs n K who o w) : Ary w B a c cs n K := by
  obtain ⟨xs, h⟩ := h; exact ⟨xs, h.arx⟩
theorem PoE.grant {w0 w : World} {B a c p m : Nat} {P T R t v tl nx : Int} {fu : Bool} {cs : List Int} {n : Nat} {K : List Nat} {who : Int} {o : Bool} (h : PoE w0 B a c p m P T R t v tl nx fu cs n K who o w) (hr : Ready P T R t p m cs K) :
    Calls Try.prog 24 #[.pointer (some ⟨p, 0, none⟩)] w fun e w' => (∃ v, e = .returned v) ∧ PoE w0 B a c p m P T R t v tl nx fu cs n K who true w' := by
  obtain ⟨xs, h⟩ := h
  exact (grant_at p a who o w h.port).mono fun _ _ ⟨he, hP, hT⟩ => ⟨he, xs, h.mach.touch hT hr.ne, h.arx.touch hT (fun _ e => e ▸ hr.hp), hP, h.touch.trans (hT.mono fun _ _ e => .inl e)⟩
theorem Blk.ne {w : World} {b b' : Nat} {cs cs' : Array Value} {t t' : TypeId} (h : Blk w b cs t) (h' : Blk w b' cs' t') (ht : t ≠ t') : b ≠ b' := by
  intro e
  subst e
  unfold Blk at h h'
  rw [h] at h'
  injection h' with h'
  injection h' with _ h2
  exact ht h2
theorem own_ne {w : World} {B E size n b g : Nat} {v : Value} {xs : List Value} {cs : Array Value} {t : TypeId} (h : w.ownsRow B E size v n xs) (hg : v.ownBlock = some g) (hb : Blk w b cs t) (ht : E ≠ t) : g ≠ b := by
  intro e
  subst e
  rcases h.2 with ⟨hv, _⟩ | ⟨g', cap, cur, hv, _, hh, _⟩
  · rw [hv] at hg; cases hg
  · rw [hv] at hg
    injection hg with hg
    subst hg
    unfold Blk at hb
    rw [hb] at hh
    injection hh with hh
    injection hh with _ h2
    exact ht h2.symm
section
variable {w0 w w' : World} {B a c p cp x m : Nat} {pu po : Option Addr} {nx : Int} {vp vt : Value} {ps ts cs : List Int} {n : Nat} {K : List Nat} {wh wh2 : Int}
end
end Go.Proofs.Ytlhigibgjggidaa
/- What puts of the queue does, by the state of its machine. Condition: the queue, its arena, its port are there; the ring's plan is right. -/
namespace Go.Proofs.Ytlhigibgjggidaa
open Go.RowKit
section
variable {w0 w w' : World} {B a c p cp x m : Nat} {pu po : Option Addr} {P T R nx v tl pn tl' pn' : Int} {vp vt : Value} {ps ts cs cs' : List Int} {n n' : Nat} {K : List Nat} {wh wh2 : Int}
theorem Ary.touchs {R : Nat → Prop} {L : List Nat} (h : Ary w B a c cs n K) (ht : Touch R w w') (hR : ∀ b, R b → b ∈ K) (hL : ∀ m ∈ L, w.heap.size ≤ m ∧ m < w'.heap.size) : Ary w' B a c cs n (L ++ K) := by
  obtain ⟨xs, ⟨lv, hL', hg⟩, h1, h2, h3, h4, h5, h6⟩ := h
  have la := hL'.at'.own.lt
  have lc := hL'.at'.row.lt
  have lg := fun g hg => (hL'.own.lt g hg).2
  refine ⟨xs, ⟨lv, hL'.touch ht (fun r => h1 (hR _ r)) (fun r => h2 (hR _ r)) (fun g e r => hg g e (hR _ r)), fun g e r => ?_⟩, fun r => ?_, fun r => ?_, fun b r => ?_, h4, h5, Nat.le_trans h6 ht.size⟩
  · rcases List.mem_append.1 r with r | r
    · have := hL g r; have := lg g e; omega
    · exact hg g e r
  · rcases List.mem_append.1 r with r | r
    · have := hL a r; omega
    · exact h1 r
  · rcases List.mem_append.1 r with r | r
    · have := hL c r; omega
    · exact h2 r
  · rcases List.mem_append.1 r with r | r
    · exact (hL b r).2
    · exact Nat.lt_of_lt_of_le (h3 b r) ht.size
theorem own_lt {B E size n g : Nat} {v : Value} {xs : List Value} (h : w.ownsRow B E size v n xs) (hg : v.ownBlock = some g) : g < w.heap.size := (h.lt g hg).2
theorem cell_other5 (W : World) (v : Value) : (W.setCell ⟨x, 5, none⟩ v).cell? ⟨x, 4, none⟩ = W.cell? ⟨x, 4, none⟩ := World.cell?_setCell_other _ _ _ _ (by simp)
/-- the blocks that a call of puts, or takes, may write: the queue's, the port's, the machine's, the arena's, the row's -/
def PtR (B p m x : Nat) (K : List Nat) (v : Value) (b : Nat) : Prop := b = x ∨ b = p ∨ b = m ∨ (B ≤ b ∧ b ∉ K) ∨ v.ownBlock = some b
theorem ptR_of {B p m x : Nat} {K : List Nat} {v : Value} {b : Nat} (h : b = p ∨ b = m ∨ (B ≤ b ∧ b ∉ K)) : PtR B p m x K v b := by
  rcases h with h | h | h
  · exact .inr (.inl h)
  · exact .inr (.inr (.inl h))
  · exact .inr (.inr (.inr (.inl h)))
theorem ptR_of' {B p m x : Nat} {K : List Nat} {v : Value} {b : Nat} (h : b = p ∨ b = m ∨ (B ≤ b ∧ b ∉ m :: K)) : PtR B p m x K v b := by
  rcases h with h | h | h
  · exact .inr (.inl h)
  · exact .inr (.inr (.inl h))
  · exact .inr (.inr (.inr (.inl ⟨h.1, fun r => h.2 (List.mem_cons_of_mem _ r)⟩)))
end
end Go.Proofs.Ytlhigibgjggidaa
/- What takes of the queue does, by the state of its machine. Condition: the queue, its arena, its port are there; the ring's plan is right. -/
namespace Go.Proofs.Ytlhigibgjggidaa
open Go.RowKit
section
variable {w0 w w' : World} {B a c p cp x m : Nat} {pu po : Option Addr} {P T R nx v v' tl pn tl' pn' : Int} {vp vt : Value} {ps ts cs cs' : List Int} {n n' : Nat} {K : List Nat} {wh wh2 : Int} {fu : Bool} {who : Int} {t : Int}

theorem PoE.step1 (h : PoE w0 B a c p m P T R t v tl 2 fu cs n K who true w) (hr : Ready P T R t p m cs K) (hn : n < 1000000) :
    Calls Try.prog 30 #[.pointer (some ⟨m, 0, none⟩), .pointer (some ⟨p, 0, none⟩)] w fun e w' => e = .returned (.bool false) ∧ PoE w0 B a c p m P T R t v (cs.getD (ownN R t 3) 0) 1 fu cs (n + 1) K who false w' := by
  obtain ⟨xs, h⟩ := h
  exact (pop_step1 h hr.ex hr.ne hr.hm hr.hp hn hr.len).mono fun _ _ ⟨he, h⟩ => ⟨he, _, h⟩

theorem PoE.step2e (h : PoE w0 B a c p m P T R t v tl 1 fu cs n K who true w) (hr : Ready P T R t p m cs K) (hn : n < 1000000) (hf : (cs.getD (ownN R t 4) 0 == tl) = true) :
    Calls Try.prog 30 #[.pointer (some ⟨m, 0, none⟩), .pointer (some ⟨p, 0, none⟩)] w fun e w' => e = .returned (.bool true) ∧ PoE w0 B a c p m P T R t v tl 0 true cs (n + 1) K who false w' := by
  obtain ⟨xs, h⟩ := h
  exact (pop_step2_empty h hr.ex hr.ne hr.hm hr.hp hn hr.len hf).mono fun _ _ ⟨he, h⟩ => ⟨he, _, h⟩

theorem PoE.step2s (h : PoE w0 B a c p m P T R t v tl 1 fu cs n K who true w) (hr : Ready P T R t p m cs K) (hn : n < 1000000) (hf : (cs.getD (ownN R t 4) 0 == tl) = false) :
    Calls Try.prog 30 #[.pointer (some ⟨m, 0, none⟩), .pointer (some ⟨p, 0, none⟩)] w fun e w' => e = .returned (.bool false) ∧ PoE w0 B a c p m P T R t v tl 5 fu cs (n + 1) K who false w' := by
  obtain ⟨xs, h⟩ := h
  exact (pop_step2_some h hr.ex hr.ne hr.hm hr.hp hn hr.len hf).mono fun _ _ ⟨he, h⟩ => ⟨he, _, h⟩

theorem PoE.step3 (h : PoE w0 B a c p m P T R t v tl 5 fu cs n K who true w) (hr : Ready P T R t p m cs K) (hn : n < 1000000) (hu : U64 tl) :
    Calls Try.prog 30 #[.pointer (some ⟨m, 0, none⟩), .pointer (some ⟨p, 0, none⟩)] w fun e w' => e = .returned (.bool false) ∧ PoE w0 B a c p m P T R t (cs.getD (slotN R t tl) 0) tl 6 fu cs (n + 1) K who false w' := by
  obtain ⟨xs, h⟩ := h
  exact (pop_step3 h hr.ex hr.ne hr.hm hr.hp hn hr.len hu).mono fun _ _ ⟨he, h⟩ => ⟨he, _, h⟩

theorem PoE.step4 (h : PoE w0 B a c p m P T R t v tl 6 fu cs n K who true w) (hr : Ready P T R t p m cs K) (hn : n < 1000000) :
    Calls Try.prog 30 #[.pointer (some ⟨m, 0, none⟩), .pointer (some ⟨p, 0, none⟩)] w fun e w' => e = .returned (.bool true) ∧ PoE w0 B a c p m P T R t v tl 0 fu (cs.set (ownN R t 3) (IntKind.u64.wrap (tl + 1))) (n + 1) K who false w' := by
  obtain ⟨xs, h⟩ := h
  exact (pop_step4 h hr.ex hr.ne hr.hm hr.hp hn hr.len).mono fun _ _ ⟨he, h⟩ => ⟨he, _, h⟩

theorem cell_other6 (W : World) (v : Value) : (W.setCell ⟨x, 6, none⟩ v).cell? ⟨x, 3, none⟩ = W.cell? ⟨x, 3, none⟩ := World.cell?_setCell_other _ _ _ _ (by simp)

end
end Go.Proofs.Ytlhigibgjggidaa
/- What ring's Waiting returns where there is no such thread, or the arena is too small. Condition: the arena is there. -/
namespace Go.Proofs.Ytlhigibgjggidaa
open Go.RowKit
set_option maxHeartbeats 1000000 in
theorem waiting_no (x : Option Addr) (P T R t : Int) (w : World) (h : exB P T R t = false) :
    Calls Try.prog 71 #[.pointer x, .agg #[.int .i64 P, .int .i64 T, .int .i64 R], .int .i64 t] w fun e w' => e = .returned (.tuple #[.slice none 0 0, .int .i64 1]) ∧ Below w.heap.size w w' := by
  have H := Lib.hid (fun W => exists_any P T R t W)
  rw [h] at H
  clear h
  go_enter Try.func71, Try.ntmps71
  have c0 := (planNew w P T R 53)
  go_wp2_with fail
  refine (H.out _).mono ?_; rintro e w1 ⟨rfl, hb1⟩
  have c1 := planKeep c0 hb1
  go_wp2
  go_ret2
  exact ⟨rfl, c1.2⟩
set_option maxHeartbeats 1000000 in
theorem waiting_addr (a c : Nat) (cs : List Int) (keep : Bool) (lv : Value) (n f : Int) (P T R t : Int) (w : World) (hA : ArenaAt w a c cs keep lv n f) (h : exB P T R t = true) (hi : insB cs.length (ownI P T R t 3) = false) :
    Calls Try.prog 71 #[.pointer (some ⟨a, 0, none⟩), .agg #[.int .i64 P, .int .i64 T, .int .i64 R], .int .i64 t] w fun e w' => e = .returned (.tuple #[.slice none 0 0, .int .i64 5]) ∧ Below w.heap.size w w' := by
  have H := Lib.hid (fun W => exists_any P T R t W)
  rw [h] at H
  have HH := Lib.hid (fun W => head_any P T R t W)
  have PK := Lib.hid (fun W (h : ArenaAt W a c cs keep lv n f) => peek_no (ownI P T R t 3) h hi)
  clear h hi
  generalize ownI P T R t 3 = i at *
  go_enter Try.func71, Try.ntmps71
  have c0 := (planNew w P T R 53)
  have hA0 := hA.alloc (.cells #[.int .i64 P, .int .i64 T, .int .i64 R] 53)
  go_wp2_with fail
  refine (H.out _).mono ?_; rintro e w1 ⟨rfl, hb1⟩
  have c1 := planKeep c0 hb1
  obtain ⟨d10, d11, d12⟩ := c1.1
  have hA1 := hA0.grew hb1
  go_wp2_with fail
  refine (HH.out _).mono ?_; rintro e w2 ⟨rfl, hb2⟩
  have c2 := planKeep c1 hb2
  have hA2 := hA1.grew hb2
  go_wp2_with fail
  refine (PK.out _ hA2).mono ?_; rintro e w3 ⟨rfl, hq3⟩
  have hB3 := c2.2.trans hq3.below
  go_wp2
  go_ret2
  exact ⟨rfl, hB3⟩
end Go.Proofs.Ytlhigibgjggidaa
/- What ring's Waiting returns where the thread is there and its ring's counts are right. Condition: the arena is there, as great as the plan. -/
namespace Go.Proofs.Ytlhigibgjggidaa
open Go.RowKit
/-- the words that wait: k from the count hd on -/
def waitL (R t hd : Int) (cs : List Int) (k : Nat) : List Int := (List.range k).map (fun (i : Nat) => cs.getD (slotN R t (IntKind.u64.wrap (hd + i))) 0)
theorem waitL_succ (R t hd : Int) (cs : List Int) (k : Nat) : waitL R t hd cs (k + 1) = waitL R t hd cs k ++ [cs.getD (slotN R t (IntKind.u64.wrap (hd + k))) 0] := by simp [waitL, List.range_succ]
theorem waitL_len (R t hd : Int) (cs : List Int) (k : Nat) : (waitL R t hd cs k).length = k := by simp [waitL]
def WaitPost (R t hd : Int) (cs : List Int) (k : Nat) (w : World) (e : Ending) (w' : World) : Prop :=
  ∃ v, e = .returned (.tuple #[v, .int .i64 0]) ∧ w'.ownsRow w.heap.size 41 1 v k ((waitL R t hd cs k).map (Value.int .u64)) ∧ Below w.heap.size w w'
theorem own_base {w : World} {base base' E size n : Nat} {v : Value} {xs : List Value} (h : w.ownsRow base E size v n xs) (hb : base' ≤ base) : w.ownsRow base' E size v n xs := by
  refine ⟨h.1, ?_⟩
  rcases h.2 with hn | ⟨g, cap, cur, h1, h2, rest⟩
  · exact .inl hn
  · exact .inr ⟨g, cap, cur, h1, Nat.le_trans hb h2, rest⟩
theorem Ary.peek {w : World} {B a c n i : Nat} {cs : List Int} {K : List Nat} (h : Ary w B a c cs n K) (hi : i < cs.length) (hm : cs.length ≤ 1000000) :
    Calls Try.prog 40 #[.pointer (some ⟨a, 0, none⟩), .int .i64 i] w fun e w' => e = .returned (.tuple #[.int .u64 (cs.getD i 0), .int .i64 0]) ∧ Quiet w w' := by
  obtain ⟨xs, h⟩ := h; exact peek_x h hi hm
set_option maxRecDepth 100000 in
set_option maxHeartbeats 1000000 in
theorem waiting_yes {B a c n : Nat} {cs : List Int} {K : List Nat} (P T R t hd tl : Int) (k : Nat) (w : World) (hA : Ary w B a c cs n K) (hx : exB P T R t = true) (hl : cs.length = cellsN P T R) (h1 : cs.getD (ownN R t 3) 0 = hd) (h2 : cs.getD (ownN R t 4) 0 = tl) (h3 : IntKind.u64.wrap (tl - hd) = k) (h4 : (k : Int) ≤ R) :
    Calls Try.prog 71 #[.pointer (some ⟨a, 0, none⟩), .agg #[.int .i64 P, .int .i64 T, .int .i64 R], .int .i64 t] w (WaitPost R t hd cs k w) := by
  obtain ⟨hN, hN1, hN2⟩ := cellsN_bd (exB_of hx).1
  have hm : cs.length ≤ 1000000 := by omega
  obtain ⟨r1, r2⟩ := ring_bd hx
  have i3 := ownN_bd hx 3 (by decide) (by omega)
  have i4 := ownN_bd hx 4 (by decide) (by omega)
  have EX := Lib.hid (fun W => exists_any P T R t W)
  rw [hx] at EX
  have HH := Lib.hid (fun W => head_any P T R t W)
  rw [i3.1] at HH
  have TT := Lib.hid (fun W => tail_any P T R t W)
  rw [i4.1] at TT
  have PH := Lib.hid (fun W (h : Ary W B a c cs n K) => h.peek (i := ownN R t 3) (by rw [hl]; exact i3.2.1) hm)
  rw [h1] at PH
  have PT := Lib.hid (fun W (h : Ary W B a c cs n K) => h.peek (i := ownN R t 4) (by rw [hl]; exact i4.2.1) hm)
  rw [h2] at PT
  have SL := Lib.hid (fun (j : Nat) W => (show Calls Try.prog 70 #[.agg #[.int .i64 P, .int .i64 T, .int .i64 R], .int .i64 t, .int .u64 (IntKind.u64.wrap (hd + j))] W fun e w' => e = .returned (.int .i64 (slotN R t (IntKind.u64.wrap (hd + j)))) ∧ Below W.heap.size W w' by
    have := slot_any P T R t (IntKind.u64.wrap (hd + j)) W (by rw [IntKind.wrap_u64]; exact ⟨by omega, by omega⟩)
    rw [(slotN_bd hx _).1] at this; exact this))
  have PS := Lib.hid (fun (j : Nat) W (h : Ary W B a c cs n K) => h.peek (i := slotN R t (IntKind.u64.wrap (hd + j))) (by rw [hl]; exact (slotN_bd hx _).2.1) hm)
  have hwR : IntKind.u64.wrap R = R := by rw [IntKind.wrap_u64]; omega
  have hgt : decide (R < (k : Int)) = false := decide_eq_false (by omega)
  obtain ⟨i0, hi0, hz0, hz1, hz2⟩ := info_parts info_u64
  have Z := Lib.hid (And.intro hi0 (And.intro hz0 (And.intro hz1 hz2)))
  clear hi0 hz0 hz1 hz2
  have hk16 : k ≤ 16 := by omega
  clear hN hN1 hN2 i3 i4 h1 h2 hl hm hx
  generalize ownN R t 3 = i3 at *
  generalize ownN R t 4 = i4 at *
  have hA0 := hA.grew ((Below.refl _ _).alloc (Nat.le_refl _) (.cells #[.int .i64 P, .int .i64 T, .int .i64 R] 53))
  have hBx := Blk.new w #[.int .i64 P, .int .i64 T, .int .i64 R] 53
  have hB0 : Below w.heap.size w (w.alloc (.cells #[.int .i64 P, .int .i64 T, .int .i64 R] 53)) := (Below.refl _ _).alloc (Nat.le_refl _) _
  clear hA
  have b0 := hBx.three.1
  go_enter Try.func71, Try.ntmps71
  go_wp2_with fail
  generalize w.alloc (.cells #[.int .i64 P, .int .i64 T, .int .i64 R] 53) = w0 at *
  have hsz0 := hB0.size
  generalize hbq : w.heap.size = bq at *
  refine (EX.out _).mono ?_; rintro e w1 ⟨rfl, hb1⟩
  have hA1 := hA0.grew hb1
  have b1 := (hBx.grew hb1).three.1
  have g1 := hb1
  clear hb1 b0
  go_wp2_with fail
  refine (HH.out _).mono ?_; rintro e w2 ⟨rfl, hb2⟩
  have hA2 := hA1.grew hb2
  have g2 := g1.trans (hb2.mono g1.size)
  clear hb2 b1 hA1 g1
  go_wp2_with fail
  refine (PH.out _ hA2).mono ?_; rintro e w3 ⟨rfl, hq3⟩
  have hA3 := hA2.quiet hq3
  have g3 := g2.trans hq3.below
  have b3 := (hBx.grew g3).three.1
  clear hq3 hA2 g2
  go_wp2_with fail
  refine (TT.out _).mono ?_; rintro e w4 ⟨rfl, hb4⟩
  have hA4 := hA3.grew hb4
  have g4 := g3.trans (hb4.mono g3.size)
  clear hb4 b3 hA3 g3
  go_wp2_with fail
  refine (PT.out _ hA4).mono ?_; rintro e w5 ⟨rfl, hq5⟩
  have g5 := g4.trans hq5.below
  have b5 := (hBx.grew g5).three.1
  clear hq5 hA4 g4
  as_aux_lemma =>
    go_wp2_with fail
    go_loopw [11, 51] (fun v i wr => ∃ j : Nat, j ≤ k ∧ i = .int .u64 j ∧ wr.ownsRow w0.heap.size 41 1 v j ((waitL R t hd cs j).map (Value.int .u64)) ∧ Below w0.heap.size w0 wr) (fun _ i _ => k - (intOf i).toNat)
    case atStart => exact ⟨0, Nat.zero_le _, rfl, World.ownsRow_nil _ _ _ _, g5⟩
    case round =>
      obtain ⟨j, hj, rfl, hown, hg⟩ := hrel
      by_cases hlt : j < k
      · have hAj := hA0.grew hg
        have bj := (hBx.grew hg).three.1
        have hsu := Lib.hid (waitL_succ R t hd cs j)
        have SLj := Lib.hid (SL.out j)
        have PSj := Lib.hid (PS.out j)
        have hj1 : IntKind.u64.wrap ((j : Int) + 1) = ((j + 1 : Nat) : Int) := by rw [IntKind.wrap_u64]; omega
        clear SL PS PH PT HH TT EX b5
        generalize slotN R t (IntKind.u64.wrap (hd + (j : Int))) = si at *
        generalize cs.getD si 0 = z at *
        go_wp2_with fail
        refine (SLj.out _).mono ?_; rintro e w6 ⟨rfl, hb6⟩
        have g6 := hg.trans (hb6.mono hg.size)
        have hown6 := own_grew hown hb6
        have hA6 := hAj.grew hb6
        clear hb6 hAj bj hown hg
        go_wp2_with fail
        refine (PSj.out _ hA6).mono ?_; rintro e w7 ⟨rfl, hq7⟩
        have g7 := g6.trans hq7.below
        have hown7 := own_grew hown6 (hq7.below : Below w6.heap.size w6 w7)
        clear hq7 hA6 hown6 g6 SLj PSj
        as_aux_lemma =>
          have hs7 := g7.size
          go_wp2_with (at_builtin; refine wpList_append_lies _ rfl _ _ 32 rfl w0.heap.size 41 i0 (.int .u64 0) 1 8 Try.underlying32 Z.out.1 Z.out.2.1 Z.out.2.2.1 Z.out.2.2.2 rfl (by decide) _ _ _ rfl (hown7.alloc _) ⟨w7.heap.size, 0, none⟩ 1 1 [.int .u64 z] rfl rfl (cell_one_new _ _ _) (by simp [Value.oneCell']) (by decide) (by unfold maxLen; omega) (by omega) (by simp; omega) (w7.heap.size + 1) (by simp) ?_; intro g cap w8 hown8 hgrow hat hlt8)
          have g8 : Below w0.heap.size w0 w8 := (g7.alloc g7.size _).grown hgrow (g7.alloc g7.size _).size (fun k' e => (hown7.lt k' e).1)
          go_wp2
          go_roundw
          case rel => exact ⟨j + 1, by omega, by first | rfl | rw [hj1], by rw [hsu.out, List.map_append]; exact hown8, g8⟩
          case measure => simp [intOf]; omega
      · obtain rfl : j = k := by omega
        clear SL PS PH PT HH TT EX b5
        have hB := hB0.trans (hg.mono hsz0)
        go_wp2
        go_ret2
        subst hbq
        exact ⟨_, rfl, own_base hown hsz0, hB⟩
end Go.Proofs.Ytlhigibgjggidaa
