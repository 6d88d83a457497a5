/- The law's own example: a page of which nothing is marked is swept. No condition. -/
import Derived.Test.YtnodeojeijekcaaGreatGB27
namespace Go.Proofs.YtnodeojeijekcaaGreat
open Go.RowKit
set_option linter.unusedVariables false
/-- the field and a sweep beside it -/
structure PdS (w : World) (B f M d a c p s : Nat) (P T : Int) (σ : Sw) (cs : List Int) (n : Nat) (o : Bool) (W : World) : Prop where
  fl : Blk W f (flV P T (some ⟨a, 0, none⟩) (some ⟨M, 0, none⟩) (some ⟨p, 0, none⟩)) 38
  mach : Blk W s σ.V 85
  ary : Ary W B a c cs n [s, p, d, M, f]
  port : PortAt W p a 15 o
  bel : Below w.heap.size w W
  lo : w.heap.size ≤ B ∧ w.heap.size ≤ s ∧ w.heap.size ≤ p
section
variable {w W W' : World} {B f M d a c p s : Nat} {P T : Int} {σ σ' : Sw} {cs cs' : List Int} {n n' : Nat} {o o' : Bool}
theorem PdS.of {w1 : World} (h : FiS w1 B f M d a c p P T cs W) (hB : w.heap.size ≤ B) (hs : Blk W' s σ.V 85) (hl : W.heap.size ≤ s) (hb : Below W.heap.size W W') (hw : Below w.heap.size w W) : PdS w B f M d a c p s P T σ cs 0 false W' :=
  ⟨h.fl.grew hb, hs, h.ary.add hb hl hs.lt, h.port.grew hb, hw.trans (hb.mono hw.size), hB, Nat.le_trans hw.size hl, Nat.le_trans hB h.lo.2.2.2⟩
theorem PdS.grew (h : PdS w B f M d a c p s P T σ cs n o W) (hb : Below W.heap.size W W') : PdS w B f M d a c p s P T σ cs n o W' :=
  ⟨h.fl.grew hb, h.mach.grew hb, h.ary.grew hb, h.port.grew hb, h.bel.trans (hb.mono h.bel.size), h.lo⟩
theorem PdS.quiet (h : PdS w B f M d a c p s P T σ cs n o W) (hq : Quiet W W') : PdS w B f M d a c p s P T σ cs n o W' := h.grew hq.below
theorem PdS.drew (h : PdS w B f M d a c p s P T σ cs n o W) : PdS w B f M d a c p s P T σ cs n o W.drew := h.quiet ⟨1, rfl⟩
theorem PdS.mr (h : PdS w B f M d a c p s P T σ cs n o W) : MaR s p [s, p, d, M, f] ∧ MaR p s [s, p, d, M, f] := by
  have h1 : s ≠ p := blk_ne h.mach h.port (by decide)
  exact ⟨⟨Ne.symm h1, by simp, by simp⟩, ⟨h1, by simp, by simp⟩⟩
theorem PdS.moved {xs' : List Value} (h : PdS w B f M d a c p s P T σ cs n o W) (hm : SwS W B a c p s σ' cs' xs' n' [s, p, d, M, f] 15 o' W') : PdS w B f M d a c p s P T σ' cs' n' o' W' := by
  have h1 : f ≠ p := blk_ne h.fl h.port (by decide)
  have h2 : f ≠ s := blk_ne h.fl h.mach (by decide)
  refine ⟨h.fl.touch hm.touch ?_, hm.mach, ⟨_, hm.arx⟩, hm.port, h.bel.trans (hm.touch.below h.bel.size ?_), h.lo⟩
  · rintro (e | e | ⟨_, e⟩)
    · exact h1 e
    · exact h2 e
    · exact e (by simp)
  · rintro b (e | e | ⟨e, _⟩)
    · rw [e]; exact h.lo.2.2
    · rw [e]; exact h.lo.2.1
    · exact Nat.le_trans h.lo.1 e
theorem PdS.start (h : PdS w B f M d a c p s P T σ cs n o W) : ∃ xs, SwS W B a c p s σ cs xs n [s, p, d, M, f] 15 o W := by
  obtain ⟨xs, hX⟩ := h.ary
  exact ⟨xs, MaS.start h.mach hX h.port⟩
theorem PdS.over (h : PdS w B f M d a c p s P T σ cs n o W) :
    Calls Tryz.prog 13 #[.pointer (some ⟨s, 0, none⟩)] W fun e w' => e = .returned (.bool (σ.nx == 0)) ∧ PdS w B f M d a c p s P T σ cs n o w' :=
  (swOver h.mach).mono fun _ _ ⟨he, hq⟩ => ⟨he, h.quiet hq⟩
theorem PdS.grant (h : PdS w B f M d a c p s P T σ cs n o W) :
    Calls Tryz.prog 29 #[.pointer (some ⟨p, 0, none⟩)] W fun e w' => (∃ v, e = .returned v) ∧ PdS w B f M d a c p s P T σ cs n true w' := by
  obtain ⟨xs, hS⟩ := h.start
  exact (hS.grant h.mr.2).mono fun _ _ ⟨he, hm⟩ => ⟨he, h.moved hm⟩
theorem PdS.peek {i : Nat} (h : PdS w B f M d a c p s P T σ cs n o W) (hi : i < cs.length) (hm : cs.length ≤ 1000000) :
    Calls Tryz.prog 30 #[.pointer (some ⟨a, 0, none⟩), .int .i64 i] W fun e w' => e = .returned (.tuple #[.int .u64 (cs.getD i 0), .int .i64 0]) ∧ PdS w B f M d a c p s P T σ cs n o w' := by
  obtain ⟨xs, hX⟩ := h.ary
  exact (peek_x hX hi hm).mono fun _ _ ⟨he, hq⟩ => ⟨he, h.quiet hq⟩
theorem PdS.ptrs (h : PdS w B f M d a c p s P T σ cs n o W) : W.cell? ⟨f, 11, none⟩ = some (.pointer (some ⟨p, 0, none⟩)) ∧ W.cell? ⟨f, 9, none⟩ = some (.pointer (some ⟨a, 0, none⟩)) ∧ (W.cell? ⟨f, 0, none⟩ = some (.int .i64 P) ∧ W.cell? ⟨f, 1, none⟩ = some (.int .i64 T) ∧ W.cell? ⟨f, 2, none⟩ = some (.int .i64 1)) ∧ (W.cell? ⟨f, 3, none⟩ = some (.int .i64 P) ∧ W.cell? ⟨f, 4, none⟩ = some (.int .i64 T) ∧ W.cell? ⟨f, 5, none⟩ = some (.int .i64 1) ∧ W.cell? ⟨f, 6, none⟩ = some (.int .i64 (baseI P T 1)) ∧ W.cell? ⟨f, 7, none⟩ = some (.int .i64 (tabI T 1)) ∧ W.cell? ⟨f, 8, none⟩ = some (.int .i64 (baseI P T 1 + 64 * P))) :=
  ⟨h.fl.val 11 rfl, h.fl.val 9 rfl, ⟨h.fl.val 0 rfl, h.fl.val 1 rfl, h.fl.val 2 rfl⟩, h.fl.val 3 rfl, h.fl.val 4 rfl, h.fl.val 5 rfl, h.fl.val 6 rfl, h.fl.val 7 rfl, h.fl.val 8 rfl⟩
theorem PdS.rnstep {cl was al ma cy : Int} {cs : List Int} {e ia im i : Nat} (hk : RnOk P T cl was al ma cy cs e ia im) (hw : was < cy) (hi : i < 7) (h : PdS w B f M d a c p s P T (rnS P T cl was al ma cy i) (rnC cs e ia im cl was al ma cy i) i true W) :
    Calls Tryz.prog 12 #[.pointer (some ⟨s, 0, none⟩), .pointer (some ⟨p, 0, none⟩)] W fun e' w' => (∃ v, e' = .returned v) ∧ PdS w B f M d a c p s P T (rnS P T cl was al ma cy (i + 1)) (rnC cs e ia im cl was al ma cy (i + 1)) (i + 1) false w' := by
  obtain ⟨xs, hS⟩ := h.start
  exact (rn_step hk hw hi hS h.mr.2).mono fun _ _ ⟨he, xs', hm⟩ => ⟨he, h.moved hm⟩
end
/-- the example's page -/
def pgX : PgD := ⟨1, 2, 0, 0, 1, 0, 17, 0⟩
theorem pgd_rok : RnOk 1 1 2 1 17 0 2 (layK 1 1 [pgX] 1) 22 23 24 := by
  refine ⟨by kernel_rfl, by omega, by kernel_rfl, by kernel_rfl, by kernel_rfl, ?_, ?_, ?_, by decide, by decide, by decide, by kernel_rfl, by kernel_rfl, by kernel_rfl, by kernel_rfl, by kernel_rfl⟩
  all_goals rw [layK_len]; decide +kernel
theorem pgd_freed : onesI (bits .andNot .u64 17 (bits .and .u64 17 0)) = 2 := by kernel_rfl
theorem pgd_U : U64 (bits .andNot .u64 17 (bits .and .u64 17 0)) := by
  have : bits .andNot .u64 17 (bits .and .u64 17 0) = 17 := by kernel_rfl
  rw [this]; exact ⟨by decide, by decide⟩
theorem pgd_page : psI 0 5 = 1 ∧ psI 0 3 = 1 := ⟨by kernel_rfl, by kernel_rfl⟩
theorem pg_rd (X : World) : RdRow 8 ElPg (X.alloc (.cells #[.int .i64 1, .int .i64 2, .int .i64 0, .int .i64 0, .int .i64 1, .int .u64 0, .int .u64 17, .int .u64 0] 73)).heap.size (X.alloc (.cells #[.int .i64 1, .int .i64 2, .int .i64 0, .int .i64 0, .int .i64 1, .int .u64 0, .int .u64 17, .int .u64 0] 73)) (.slice (some ⟨X.heap.size, 0, none⟩) 1 1) [pgX] := by
  have h : Blk (X.alloc (.cells #[.int .i64 1, .int .i64 2, .int .i64 0, .int .i64 0, .int .i64 1, .int .u64 0, .int .u64 17, .int .u64 0] 73)) X.heap.size #[.int .i64 1, .int .i64 2, .int .i64 0, .int .i64 0, .int .i64 1, .int .u64 0, .int .u64 17, .int .u64 0] 73 := Blk.new _ _ _
  refine ⟨_, _, rfl, by unfold maxLen; decide, fun i hi => ?_⟩
  have hi0 : i = 0 := by simp at hi; omega
  subst hi0
  refine ⟨_, _, rfl, by simp, ?_⟩
  exact ⟨⟨h.val 0 rfl, h.val 1 rfl, h.val 2 rfl, h.val 3 rfl, h.val 4 rfl⟩, ⟨h.val 5 rfl, h.val 6 rfl, h.val 7 rfl⟩, show U64 0 ∧ U64 17 ∧ U64 0 from ⟨⟨by decide, by decide⟩, ⟨by decide, by decide⟩, by decide, by decide⟩⟩
theorem rnC_len (cs : List Int) (e a m : Nat) (cl was al ma cy : Int) (i : Nat) : (rnC cs e a m cl was al ma cy i).length = cs.length := by
  unfold rnC
  split <;> simp
set_option maxRecDepth 100000 in
set_option maxHeartbeats 4000000 in
theorem paged_any (w : World) :
    Calls Tryz.prog 5 #[] w fun e w' => e = .returned (.bool true) ∧ Below w.heap.size w w' := by
  have LA := Lib.hid (fun W v (hl : RdRow 8 ElPg W.heap.size W v [pgX]) => play_any 0 0 0 1 1 v [pgX] W pgd_page.1 pgd_page.2 (by omega) (by omega) hl)
  have PLN := Lib.hid (fun W => pplan_any 1 1 1 W)
  have NS := Lib.hid (fun W => newsweep_yes 1 1 1 15 2 0 W (by kernel_rfl) (by kernel_rfl) (by kernel_rfl))
  go_enter Tryz.func5, Tryz.ntmps5
  have hB0 : Below w.heap.size w (w.alloc (.cells #[.int .i64 1, .int .i64 2, .int .i64 0, .int .i64 0, .int .i64 1, .int .u64 0, .int .u64 17, .int .u64 0] 73)) := (Below.refl _ _).alloc (Nat.le_refl _) _
  have hR := pg_rd w
  go_wp2_with fail
  generalize w.alloc (.cells #[.int .i64 1, .int .i64 2, .int .i64 0, .int .i64 0, .int .i64 1, .int .u64 0, .int .u64 17, .int .u64 0] 73) = W0 at *
  refine (LA.out _ _ hR).mono ?_; rintro e w1 ⟨f, M, d, a, c, p, rfl, hF'⟩
  have hF : FiS W0 W0.heap.size f M d a c p 1 1 (layK 1 1 [pgX] 1) w1 := hF'
  clear hF' hR LA
  have x0 : w1.cell? ⟨f, 0, none⟩ = some (.int .i64 1) := hF.fl.val 0 rfl
  have x1 : w1.cell? ⟨f, 1, none⟩ = some (.int .i64 1) := hF.fl.val 1 rfl
  have x2 : w1.cell? ⟨f, 2, none⟩ = some (.int .i64 1) := hF.fl.val 2 rfl
  go_wp2_with fail
  refine (PLN.out _).mono ?_; rintro e w2 ⟨rfl, hb2⟩
  clear x0 x1 x2
  go_wp2_with fail
  refine (NS.out _).mono ?_; rintro e w3 ⟨s, rfl, hs3, hsl, hb3⟩
  have hb13 := hb2.trans (hb3.mono hb2.size)
  have hP : PdS w W0.heap.size f M d a c p s 1 1 (rnS 1 1 2 1 17 0 2 0) (rnC (layK 1 1 [pgX] 1) 22 23 24 2 1 17 0 2 0) 0 false w3 :=
    PdS.of hF hB0.size hs3 (Nat.le_trans hb2.size hsl) hb13 (hB0.trans (hF.bel.mono hB0.size))
  clear hF hb2 hb3 hb13 hs3 hsl PLN NS hB0
  have RK := Lib.hid pgd_rok
  have HN := Lib.hid (rn_over 1 1 2 1 17 0 2)
  have hcl : Hid (∀ i, (rnC (layK 1 1 [pgX] 1) 22 23 24 2 1 17 0 2 i).length = 128) := Lib.hid (fun i => by rw [rnC_len, layK_len]; decide +kernel)
  have hRes : Hid ((rnC (layK 1 1 [pgX] 1) 22 23 24 2 1 17 0 2 7).getD 22 0 = 0) := Lib.hid (by kernel_rfl)
  go_wp2_with fail
  go_loopw [5] (fun i wr => ∃ k : Nat, k ≤ 7 ∧ i = .int .i64 k ∧ ∃ o, PdS w W0.heap.size f M d a c p s 1 1 (rnS 1 1 2 1 17 0 2 k) (rnC (layK 1 1 [pgX] 1) 22 23 24 2 1 17 0 2 k) k o wr) (fun i _ => 7 - (intOf i).toNat)
  case atStart => exact ⟨0, by omega, rfl, false, hP⟩
  case round =>
    clear hP
    obtain ⟨k, hk, rfl, o, hP⟩ := hrel
    have hk8 : (k : Int) < 8 := by omega
    have hov := HN.out k hk
    by_cases hlt : k < 7
    · rw [decide_eq_false (by omega)] at hov
      have OV := Lib.hid hP.over
      rw [hov] at OV
      have ST := Lib.hid (fun W (h : PdS w W0.heap.size f M d a c p s 1 1 (rnS 1 1 2 1 17 0 2 k) (rnC (layK 1 1 [pgX] 1) 22 23 24 2 1 17 0 2 k) k true W) => PdS.rnstep RK.out (by omega) hlt h)
      clear hP hov
      go_wp2_with fail
      refine OV.out.mono ?_; rintro e w4 ⟨rfl, hP4⟩
      have p11 := hP4.ptrs.1
      clear OV
      go_wp2_with fail
      refine hP4.grant.mono ?_; rintro e w5 ⟨⟨v5, rfl⟩, hP5⟩
      have p11' := hP5.ptrs.1
      clear p11 hP4
      go_wp2_with fail
      refine (ST.out _ hP5).mono ?_; rintro e w6 ⟨⟨v6, rfl⟩, hP6⟩
      clear p11' hP5 ST
      replace hP6 := Lib.hid hP6
      go_wp2
      go_roundw
      case rel => exact ⟨k + 1, by omega, by go_num, false, hP6.out⟩
      case measure => simp [intOf]; omega
    · have hk7 : k = 7 := by omega
      subst hk7
      have OV := Lib.hid hP.over
      rw [hov] at OV
      have hcl7 := hcl.out 7
      have PE := Lib.hid (fun W => pmPage_any 1 1 1 (baseI 1 1 1) (tabI 1 1) (baseI 1 1 1 + 64 * 1) 0 W)
      rw [show wrap64 (tabI 1 1 + 0) = ((22 : Nat) : Int) from by kernel_rfl] at PE
      have PK := Lib.hid (fun W o (h : PdS w W0.heap.size f M d a c p s 1 1 (rnS 1 1 2 1 17 0 2 7) (rnC (layK 1 1 [pgX] 1) 22 23 24 2 1 17 0 2 7) 7 o W) => h.peek (i := 22) (by rw [hcl7]; decide) (by rw [hcl7]; decide))
      rw [hRes.out] at PK
      have SWP := Lib.hid (fun W (h : Blk W s (rnS 1 1 2 1 17 0 2 7).V 85) => swSwept h)
      rw [show (rnS 1 1 2 1 17 0 2 7).sw = true from rfl] at SWP
      have EMP := Lib.hid (fun W (h : Blk W s (rnS 1 1 2 1 17 0 2 7).V 85) => swEmpty h)
      rw [show ((rnS 1 1 2 1 17 0 2 7).sw && (rnS 1 1 2 1 17 0 2 7).kp == 0) = true from by kernel_rfl] at EMP
      have FRE := Lib.hid (fun W (h : Blk W s (rnS 1 1 2 1 17 0 2 7).V 85) => swFreed_yes h rfl pgd_U)
      rw [show onesI (bits .andNot .u64 (rnS 1 1 2 1 17 0 2 7).al (rnS 1 1 2 1 17 0 2 7).kp) = 2 from pgd_freed] at FRE
      clear hP hov HN hcl hRes hcl7 RK hlt
      go_wp2_with fail
      refine OV.out.mono ?_; rintro e w4 ⟨rfl, hP4⟩
      have hP4d := hP4.drew
      clear OV
      go_wp2_with fail
      go_region_held3 (fun W' => W'.cell? ⟨f, 11, none⟩ = some (.pointer (some ⟨p, 0, none⟩)) ∧ W'.cell? ⟨f, 9, none⟩ = some (.pointer (some ⟨a, 0, none⟩)) ∧ (W'.cell? ⟨f, 0, none⟩ = some (.int .i64 1) ∧ W'.cell? ⟨f, 1, none⟩ = some (.int .i64 1) ∧ W'.cell? ⟨f, 2, none⟩ = some (.int .i64 1)) ∧ (W'.cell? ⟨f, 3, none⟩ = some (.int .i64 1) ∧ W'.cell? ⟨f, 4, none⟩ = some (.int .i64 1) ∧ W'.cell? ⟨f, 5, none⟩ = some (.int .i64 1) ∧ W'.cell? ⟨f, 6, none⟩ = some (.int .i64 (baseI 1 1 1)) ∧ W'.cell? ⟨f, 7, none⟩ = some (.int .i64 (tabI 1 1)) ∧ W'.cell? ⟨f, 8, none⟩ = some (.int .i64 (baseI 1 1 1 + 64 * 1))))
        ((with_reducible exact PdS.ptrs (by assumption)))
        (first
          | (go_at_call 24; refine (PE.out _).mono ?_; rintro e w5 ⟨rfl, hb5⟩; have hP5 := PdS.grew (by assumption) hb5)
          | (go_at_call 30; refine (PK.out _ _ (by assumption)).mono ?_; rintro e w6 ⟨rfl, hP6⟩))
      all_goals
        go_wp2_with fail
        refine (SWP.out _ hP6.mach).mono ?_; rintro e w7 ⟨rfl, hq7⟩
        have hP7 := hP6.quiet hq7
        go_wp2_with fail
        refine (EMP.out _ hP7.mach).mono ?_; rintro e w8 ⟨rfl, hq8⟩
        have hP8 := hP7.quiet hq8
        go_wp2_with fail
        refine (FRE.out _ hP8.mach).mono ?_; rintro e w9 ⟨rfl, hq9⟩
        have hP9 := hP8.quiet hq9
        go_wp2
        go_ret
        exact ⟨rfl, hP9.bel⟩
end Go.Proofs.YtnodeojeijekcaaGreat
