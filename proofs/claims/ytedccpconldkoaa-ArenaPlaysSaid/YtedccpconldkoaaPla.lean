/- ArenaPlays: the walk of the whole. Conditions: the numbers fit their kinds. -/
import Derived.Test.YtedccpconldkoaaOne
import Derived.Test.YtedccpconldkoaaSame
import Derived.Test.YtedccpconldkoaaCell
import Derived.Test.YtedccpconldkoaaClon
import Derived.Test.YtedccpconldkoaaWords
import Derived.Test.YtedccpconldkoaaRowS
import Derived.Deep.AppendLies
import Derived.Deep.RegionHeld3
namespace Go.Proofs.Ytedccpconldkoaa
open Go.RowKit
set_option linter.unusedVariables false

theorem own_neT {w : World} {B E size n b : Nat} {v : Value} {xs : List Value} {cs : Array Value} {t : TypeId} (h : w.ownsRow B E size v n xs) (hb : Blk w b cs t) (ht : E ≠ t) : v.ownBlock ≠ some b := by
  intro hg
  rcases h.2 with ⟨hv, _⟩ | ⟨g', cap, cur, hv, _, hh, _⟩
  · rw [hv] at hg; cases hg
  · rw [hv] at hg
    obtain rfl : g' = b := Option.some.inj hg
    unfold Blk at hb
    rw [hh] at hb
    injection hb with hb
    injection hb with _ h2
    exact ht h2
def rowP (P : Nat → Nat) (k : Nat) : List Value := (List.range k).map fun j => Value.pointer (some ⟨P j, 0, none⟩)
theorem rowP_succ (ps : Nat → Nat) (k p : Nat) : rowP (fun j => if j = k then p else ps j) (k + 1) = rowP ps k ++ [Value.pointer (some ⟨p, 0, none⟩)] := by
  unfold rowP
  rw [List.range_succ, List.map_append]
  congr 1
  · refine List.map_congr_left fun j hj => ?_
    have h1 := List.mem_range.1 hj
    have h2 : ¬ j = k := by omega
    simp only [if_neg h2]
  · simp
theorem rowP_get (P : Nat → Nat) (k j : Nat) (h : j < k) : (rowP P k)[j]? = some (Value.pointer (some ⟨P j, 0, none⟩)) := by
  unfold rowP; simp [h]
def whF (j : Nat) : Int := if j = 0 then 0 else if j = 1 then 15 else 7
theorem whF_lim (j : Nat) : 0 ≤ whF j ∧ whF j ≤ 15 := by
  unfold whF
  by_cases h : j = 0
  · rw [if_pos h]; omega
  · rw [if_neg h]
    by_cases h2 : j = 1
    · rw [if_pos h2]; omega
    · rw [if_neg h2]; omega
/-- while the ports are made: k of them lie there -/
structure PlS (w : World) (L a c M d hb n : Nat) (keep : Bool) (k : Nat) (P Q : Nat → Nat) (u10 u11 : Value) (wr : World) : Prop where
  at' : ArenaAt wr a c (List.replicate n 0) keep (.slice none 0 0) 0 0
  ar : Blk wr M #[.slice (some ⟨d, 0, none⟩) n n, .slice none 0 0, .int .i64 0] 33
  dr : Blk wr d ((List.replicate n (0 : Int)).map (Value.int .u64)).toArray 43
  wo : Blk wr hb #[.int .i64 0, .int .i64 15, .int .i64 7] 3
  pt : ∀ j, j < k → PortAt wr (P j) a (whF j) false
  qt : ∀ j, j < k → RefP wr (Q j) (whF j) false
  r10 : wr.ownsRow L 37 1 u10 k (rowP P k)
  r11 : wr.ownsRow L 40 1 u11 k (rowP Q k)
  od : ∀ j, j < k → L ≤ P j ∧ P j < Q j ∧ Q j < wr.heap.size
  od2 : ∀ i j, i < j → j < k → Q i < P j
  bl : Below w.heap.size w wr
  lL : L ≤ wr.heap.size
  lw : w.heap.size ≤ L
theorem own_two {w : World} {B B' E E' size size' n n' : Nat} {v v' : Value} {xs xs' : List Value} (h : w.ownsRow B E size v n xs) (h' : w.ownsRow B' E' size' v' n' xs') (ht : E ≠ E') : ∀ g, v.ownBlock = some g → v'.ownBlock ≠ some g := by
  intro g hg hg'
  rcases h.2 with ⟨hv, _⟩ | ⟨g1, cap, cur, hv, _, hh, _⟩
  · rw [hv] at hg; cases hg
  · rcases h'.2 with ⟨hv', _⟩ | ⟨g2, cap', cur', hv', _, hh', _⟩
    · rw [hv'] at hg'; cases hg'
    · rw [hv] at hg
      rw [hv'] at hg'
      obtain rfl : g1 = g := Option.some.inj hg
      obtain rfl : g2 = g1 := Option.some.inj hg'
      rw [hh] at hh'
      injection hh' with hh'
      injection hh' with _ h2
      exact ht h2
theorem PlS.below {w wr w' : World} {L a c M d hb n k : Nat} {keep : Bool} {P Q : Nat → Nat} {u10 u11 : Value} (h : PlS w L a c M d hb n keep k P Q u10 u11 wr) (hb' : Below wr.heap.size wr w') : PlS w L a c M d hb n keep k P Q u10 u11 w' :=
  ⟨h.at'.grew hb', Blk.grew h.ar hb', Blk.grew h.dr hb', Blk.grew h.wo hb', fun j hj => Blk.grew (h.pt j hj) hb', fun j hj => Blk.grew (h.qt j hj) hb', own_grew h.r10 hb', own_grew h.r11 hb', fun j hj => by have := h.od j hj; have := hb'.size; exact ⟨by omega, by omega, by omega⟩, h.od2, h.bl.trans (hb'.mono h.bl.size), Nat.le_trans h.lL hb'.size, h.lw⟩
/-- the second slice is written alone, or the first -/
theorem PlS.touch {w wr w' : World} {L a c M d hb n k : Nat} {keep : Bool} {P Q : Nat → Nat} {u10 u11 u10' u11' : Value} (h : PlS w L a c M d hb n keep k P Q u10 u11 wr) {R : Nat → Prop} (hT : Touch R wr w') (hR : ∀ b, R b → u10.ownBlock = some b ∨ u11.ownBlock = some b) (k' : Nat)
    {P' Q' : Nat → Nat} (hk : k ≤ k') (hP : ∀ j, j < k → P' j = P j ∧ Q' j = Q j) (hpt : ∀ j, k ≤ j → j < k' → PortAt w' (P' j) a (whF j) false ∧ RefP w' (Q' j) (whF j) false) (h10 : w'.ownsRow L 37 1 u10' k' (rowP P' k')) (h11 : w'.ownsRow L 40 1 u11' k' (rowP Q' k'))
    (hod : ∀ j, k ≤ j → j < k' → wr.heap.size ≤ P' j ∧ P' j < Q' j ∧ Q' j < w'.heap.size) (hod2 : k' ≤ k + 1) : PlS w L a c M d hb n keep k' P' Q' u10' u11' w' := by
  have nb : ∀ b (cs : Array Value) (t : TypeId), Blk wr b cs t → 37 ≠ t → 40 ≠ t → ¬ R b := fun b cs t hb h1 h2 e => by
    rcases hR b e with e | e
    · exact own_neT h.r10 hb h1 e
    · exact own_neT h.r11 hb h2 e
  refine ⟨h.at'.touch hT (nb _ _ _ h.at'.own (by decide) (by decide)) (nb _ _ _ h.at'.row (by decide) (by decide)), Blk.touch h.ar hT (nb _ _ _ h.ar (by decide) (by decide)), Blk.touch h.dr hT (nb _ _ _ h.dr (by decide) (by decide)), Blk.touch h.wo hT (nb _ _ _ h.wo (by decide) (by decide)), fun j hj => ?_, fun j hj => ?_, h10, h11, fun j hj => ?_, fun i j hij hj => ?_, h.bl.trans (hT.below h.bl.size (fun b e => ?_)), Nat.le_trans h.lL hT.size, h.lw⟩
  · by_cases e : j < k
    · rw [(hP j e).1]; exact Blk.touch (h.pt j e) hT (nb _ _ _ (h.pt j e) (by decide) (by decide))
    · exact (hpt j (by omega) hj).1
  · by_cases e : j < k
    · rw [(hP j e).2]; exact Blk.touch (h.qt j e) hT (nb _ _ _ (h.qt j e) (by decide) (by decide))
    · exact (hpt j (by omega) hj).2
  · by_cases e : j < k
    · have := h.od j e; have := hT.size; rw [(hP j e).1, (hP j e).2]; exact ⟨by omega, by omega, by omega⟩
    · have := hod j (by omega) hj; have := h.lL; exact ⟨by omega, by omega, by omega⟩
  · by_cases e : j < k
    · rw [(hP j e).1, (hP i (by omega)).2]; exact h.od2 i j hij e
    · rw [(hP i (by omega)).2]
      have := (h.od i (by omega)).2.2
      have := (hod j (by omega) hj).1
      omega
  · have := h.lw
    rcases hR b e with e | e
    · have := (h.r10.lt b e).1; omega
    · have := (h.r11.lt b e).1; omega
theorem cell_one_newN (w : World) (x : Value) (t : TypeId) (n : Nat) (hn : w.heap.size = n) : ∀ j u, [x][j]? = some u → (w.alloc (.cells #[x] t)).cell? ((⟨n, 0, none⟩ : Addr).add j) = some u := by
  subst hn
  exact cell_one_new w x t
theorem mod_small3 (x : Int) (n : Nat) (h0 : 0 < n) (h1 : n ≤ 1000000) : ∃ j : Nat, j < n ∧ wrap64 ((IntKind.u64.wrap x).tmod n) = j := by
  have hw : 0 ≤ IntKind.u64.wrap x := by rw [IntKind.wrap_u64]; omega
  generalize IntKind.u64.wrap x = y at *
  have e : y.tmod n = y % n := by rw [Int.tmod_eq_emod_of_nonneg hw]
  have h2 : 0 ≤ y % (n : Int) := Int.emod_nonneg _ (by omega)
  have h3 : y % (n : Int) < n := Int.emod_lt_of_pos _ (by omega)
  refine ⟨(y % (n : Int)).toNat, by omega, ?_⟩
  rw [e]
  unfold wrap64
  omega
theorem wpAnyH_mono {Pr : Program} {md : Region.Mode} {ops : Array Oper} {Qx : Exit → Act → World → Prop} {S S' : World → Prop} (hS : ∀ W, S' W → S W) : ∀ {fuel : Nat} {listed : Array Bool} {a : Act} {w : World}, wpAnyH Pr md ops Qx S' fuel listed a w → wpAnyH Pr md ops Qx S fuel listed a w
  | 0, _, _, _, h => h
  | fuel + 1, _, _, _, h => ⟨h.1, fun i hi => wpOp_mono (fun a' w' h' => ⟨hS _ h'.1, wpAnyH_mono hS h'.2⟩) (h.2 i hi)⟩
theorem info_pp : (Try.prog.info? 37).map (fun i => (i.zero, i.size, i.bytes)) = some (some (.pointer none), 1, 8) := by kernel_rfl
theorem info_pq : (Try.prog.info? 40).map (fun i => (i.zero, i.size, i.bytes)) = some (some (.pointer none), 1, 8) := by kernel_rfl
/-- what the law keeps while it plays: all that was there ahead of it, and the two lists of ports -/
def KeepX (w : World) (g10 g11 : Nat) : Nat → Prop := fun b => b < w.heap.size ∨ b = g10 ∨ b = g11
theorem own_form3 {w : World} {B E n : Nat} {v : Value} {xs : List Value} (h : w.ownsRow B E 1 v n xs) (h0 : 0 < n) : ∃ g cap, v = .slice (some ⟨g, 0, none⟩) n cap ∧ B ≤ g ∧ g < w.heap.size ∧ v.ownBlock = some g := by
  rcases h.2 with ⟨_, h2⟩ | ⟨g, cap, cur, h1, h2, _⟩
  · omega
  · exact ⟨g, cap, h1, h2, (h.lt g (by rw [h1]; rfl)).2, by rw [h1]; rfl⟩
theorem PlS.duo {w wr : World} {L a c M d hb n : Nat} {keep : Bool} {P Q : Nat → Nat} {g10 g11 c10 c11 : Nat} (h : PlS w L a c M d hb n keep 3 P Q (.slice (some ⟨g10, 0, none⟩) 3 c10) (.slice (some ⟨g11, 0, none⟩) 3 c11) wr)
    (ha : w.heap.size ≤ a) (hcc : w.heap.size ≤ c) (hac : a ≠ c) (hl : a < d ∧ c < d ∧ d < M ∧ M < L) : Duo (KeepX w g10 g11) wr wr wr.heap.size a c M d P Q whF keep (fun _ => false) (fun _ => false) (.slice none 0 0) (.slice none 0 0) ⟨List.replicate n 0, [], 0, 0⟩ ⟨List.replicate n 0, [], 0, 0⟩ := by
  have lL := h.lL
  have lw := h.lw
  have hg10 := h.r10.lt g10 rfl
  have hg11 := h.r11.lt g11 rfl
  have nn : ∀ k, (Value.slice none 0 0).ownBlock ≠ some k := fun k e => by simp [Value.ownBlock] at e
  refine ⟨⟨⟨by omega, by omega, by omega, by omega⟩, fun i hi => ?_, ⟨hac, by omega, by omega, by omega, by omega, by omega⟩, fun i hi => ?_, fun i j hi hj => ?_⟩, Nat.le_refl _, h.at', fun hk => ⟨by subst hk; exact h.at', World.ownsRow_nil _ _ _ _, nn _, nn _⟩, fun _ => rfl, fun i hi => h.pt i hi, ⟨by simpa using h.ar, h.dr, World.ownsRow_nil _ _ _ _, by omega, nn _, nn _⟩, fun i hi => h.qt i hi, fun g e => absurd e (nn g), ⟨rfl, rfl, rfl, Nat.le_refl _, fun _ _ _ => rfl⟩, fun k hk => ?_, fun k hk => ?_, fun k hk i hi => ?_⟩
  · have := h.od i hi; omega
  · have := h.od i hi
    exact ⟨⟨by omega, by omega, by omega, by omega⟩, by omega, by omega, by omega, by omega⟩
  · have oi := h.od i hi
    have oj := h.od j hj
    rcases Nat.lt_trichotomy i j with e | e | e
    · have := h.od2 i j e hj; exact ⟨fun _ => ⟨by omega, by omega⟩, by omega⟩
    · subst e; exact ⟨fun e => absurd rfl e, by omega⟩
    · have := h.od2 j i e hi; exact ⟨fun _ => ⟨by omega, by omega⟩, by omega⟩
  · rcases hk with hk | hk | hk <;> omega
  · rcases hk with hk | hk | hk
    · exact ⟨by omega, by omega, by omega, by omega, nn _, nn _⟩
    · subst hk; exact ⟨fun e => own_neT h.r10 h.at'.own (by decide) (e ▸ rfl), fun e => own_neT h.r10 h.at'.row (by decide) (e ▸ rfl), fun e => own_neT h.r10 h.ar (by decide) (e ▸ rfl), fun e => own_neT h.r10 h.dr (by decide) (e ▸ rfl), nn _, nn _⟩
    · subst hk; exact ⟨fun e => own_neT h.r11 h.at'.own (by decide) (e ▸ rfl), fun e => own_neT h.r11 h.at'.row (by decide) (e ▸ rfl), fun e => own_neT h.r11 h.ar (by decide) (e ▸ rfl), fun e => own_neT h.r11 h.dr (by decide) (e ▸ rfl), nn _, nn _⟩
  · rcases hk with hk | hk | hk
    · have := h.od i hi; exact ⟨by omega, by omega⟩
    · subst hk; exact ⟨fun e => own_neT h.r10 (h.pt i hi) (by decide) (e ▸ rfl), fun e => own_neT h.r10 (h.qt i hi) (by decide) (e ▸ rfl)⟩
    · subst hk; exact ⟨fun e => own_neT h.r11 (h.pt i hi) (by decide) (e ▸ rfl), fun e => own_neT h.r11 (h.qt i hi) (by decide) (e ▸ rfl)⟩
theorem Duo.kcell {X : Nat → Prop} {w0 w : World} {B a c M d : Nat} {P Q : Nat → Nat} {wh : Nat → Int} {keep : Bool} {gp gq : Nat → Bool} {lv lm : Value} {s t : St} (h : Duo X w0 w B a c M d P Q wh keep gp gq lv lm s t) {p : Addr} (hp : X p.block) {v : Value} (hc : w0.cell? p = some v) : w.cell? p = some v :=
  (World.cell?_of_block (h.kp.block p.block hp (h.xl _ hp))).trans hc
theorem Duo.low {w1 : World} {g10 g11 : Nat} {w0 w : World} {B a c M d : Nat} {P Q : Nat → Nat} {wh : Nat → Int} {keep : Bool} {gp gq : Nat → Bool} {lv lm : Value} {s t : St} (h : Duo (KeepX w1 g10 g11) w0 w B a c M d P Q wh keep gp gq lv lm s t) (hb : Below w1.heap.size w1 w0) : Below w1.heap.size w1 w :=
  ⟨h.kp.os.trans hb.os, h.kp.tape.trans hb.tape, h.kp.output.trans hb.output, Nat.le_trans hb.size h.kp.size, fun k hk => (h.kp.block k (.inl hk) (Nat.lt_of_lt_of_le hk hb.size)).trans (hb.block k hk)⟩
theorem Duo.grew {X : Nat → Prop} {w0 w w' : World} {B a c M d : Nat} {P Q : Nat → Nat} {wh : Nat → Int} {keep : Bool} {gp gq : Nat → Bool} {lv lm : Value} {s t : St} (h : Duo X w0 w B a c M d P Q wh keep gp gq lv lm s t) (hb : Below w.heap.size w w') : Duo X w0 w' B a c M d P Q wh keep gp gq lv lm s t :=
  h.real (h.at'.grew hb) (fun hk => (h.log hk).touchD (R := fun _ => False) (.of hb) (fun e => e) (fun e => e) (fun _ _ e => e)) h.nil (fun i hi => Blk.grew (h.port i hi) hb) (fun g e => .inl e) (.of hb)
theorem RefA.lst {w : World} {B M d : Nat} {cs : List Int} {lv : Value} {xs : List Value} {m : Nat} {f : Int} (h : RefA w B M d cs lv xs m f) (h0 : 0 < cs.length) (h1 : cs.length ≤ 100000) : Lst .u64 w (.slice (some ⟨d, 0, none⟩) cs.length cs.length) cs :=
  .inr ⟨d, 0, cs.length, rfl, h0, by unfold maxLen; omega, fun i hi => by rw [Nat.zero_add]; exact h.cell i hi⟩
end Go.Proofs.Ytedccpconldkoaa
