/- What the document's Replay returns. Condition: the lists are there, at most 500 long. -/
import Derived.Test.YtcfanmhihbfjbaaAppl
import Derived.Test.YtcfanmhihbfjbaaReplay
namespace Go.Proofs.Ytcfanmhihbfjbaa
open Go.RowKit
set_option linter.unusedVariables false

theorem rleft_any (k seen want put : Int) (w : World) :
    Calls Try.prog 17 #[.int .i64 k, .int .u64 seen, .int .u64 want, .int .u64 put] w fun e w' => e = .returned (.tuple #[.int .u64 (if kindB k = true then leftI k seen want put else 0), .bool (kindB k)]) ∧ w = w' := by
  by_cases hk : kindB k = true
  · rw [if_pos hk, hk]
    exact (rleft_yes k seen want put w hk).mono fun _ _ ⟨a, b⟩ => ⟨a, b.symm⟩
  · rw [if_neg hk, show kindB k = false by simpa using hk]
    exact (rleft_no k seen want put w (by simpa using hk)).mono fun _ _ ⟨a, b⟩ => ⟨a, b.symm⟩
theorem rleft_any' (k seen want put : Int) {n : Nat} (w : World) :
    Calls Try.prog 17 #[.int .i64 k, .int .u64 seen, .int .u64 want, .int .u64 put] (w.drewN n) fun e w' => e = .returned (.tuple #[.int .u64 (if kindB k = true then leftI k seen want put else 0), .bool (kindB k)]) ∧ w.drewN n = w' := rleft_any k seen want put _
theorem stepE_out {cs : List Int} {n : Nat} {q1 q2 q3 q4 q5 q6 : Int} (hn : cs.length = n) (h : insB n q2 = false) : stepE cs q2 q1 q3 q4 q5 q6 = 5 := by
  unfold stepE; rw [hn, if_pos h]
theorem stepE_in {cs : List Int} {n i : Nat} {q1 q3 q4 q5 q6 : Int} (hn : cs.length = n) (h : i < n) : stepE cs (i : Int) q1 q3 q4 q5 q6 = if kindB q1 = true ∧ q5 = cs.getD i 0 ∧ q6 = leftI q1 q5 q3 q4 then 0 else 4 := by
  unfold stepE; rw [hn, if_neg (by rw [show insB n (i : Int) = true from decide_eq_true ⟨by omega, by omega⟩]; decide)]; rfl

set_option maxHeartbeats 2000000 in
theorem rreplay_walk (b o cap2 m : Nat) (F : Nat → Nat → Int) (vin : Value) (zs : List Int) (w : World) (hm : m ≤ 500) (hz : zs.length ≤ 500) (hin : Lst .u64 w vin zs) (hlt : 0 < m → b < w.heap.size)
    (hc : Hid (∀ i, i < m → ∀ j, j < 7 → w.cell? ⟨b, o + i * 7 + j, none⟩ = some (.int (accK j) (F i j)))) (bp : Option Addr) (hbp : 0 < m → bp = some ⟨b, o, none⟩) :
    Calls Try.prog 6 #[vin, .slice bp m cap2] w (ReplayPost (repl F m 0 zs) w) := by
  go_enter Try.func6, Try.ntmps6
  go_wp2_with (at_builtin; refine wp_app rfl _ _ rfl w.heap.size vin zs hin (by omega) _ rfl (World.ownsRow_nil _ _ _ _) rfl (by simp) ?_)
  intro v w1 hown hgrow
  have hb1 : Below w.heap.size w w1 := (Below.refl _ _).grown hgrow (by simp) (fun k hk => by simp [Value.ownBlock] at hk)
  obtain ⟨a, c, hv⟩ : ∃ a c, v = .slice a zs.length c := by
    rcases hown.2 with ⟨h1, h2⟩ | ⟨g, cap, cur, h1, _⟩
    · exact ⟨none, 0, by rw [h1, h2]⟩
    · exact ⟨_, cap, h1⟩
  subst hv
  have hH : Held w1 w.heap.size a zs.length c zs := hown
  clear hown hgrow hin
  generalize hnz : zs.length = n at *
  have HN := Lib.hid hnz
  clear hnz
  go_wp2_with fail
  go_loopw [8] (fun i wr => ∃ (k : Nat) (cs : List Int), k ≤ m ∧ i = .int .i64 k ∧ Hid (repl F m 0 zs = repl F (m - k) k cs) ∧ Hid (Held wr w.heap.size a n c cs) ∧ Below w.heap.size w wr) (fun i _ => m - (intOf i).toNat)
  case atStart => exact ⟨0, zs, Nat.zero_le _, rfl, Lib.hid rfl, Lib.hid hH, hb1⟩
  case round =>
    obtain ⟨k, cs, hk, rfl, hE, hHr, hB⟩ := hrel
    clear hH hb1
    have hsz := hB.size
    by_cases hl : k < m
    · have hlt0 := hlt (by omega)
      have hbp0 := hbp (by omega)
      subst hbp0
      have r0 : wr.cell? ⟨b, o + k * 7, none⟩ = some (.int .i64 (F k 0)) := (hB.cell (p := ⟨b, o + k * 7, none⟩) hlt0).trans (hc.out k hl 0 (by decide))
      have r1 : wr.cell? ⟨b, o + k * 7 + 1, none⟩ = some (.int .i64 (F k 1)) := (hB.cell (p := ⟨b, o + k * 7 + 1, none⟩) hlt0).trans (hc.out k hl 1 (by decide))
      have r2 : wr.cell? ⟨b, o + k * 7 + 2, none⟩ = some (.int .i64 (F k 2)) := (hB.cell (p := ⟨b, o + k * 7 + 2, none⟩) hlt0).trans (hc.out k hl 2 (by decide))
      have r3 : wr.cell? ⟨b, o + k * 7 + 3, none⟩ = some (.int .u64 (F k 3)) := (hB.cell (p := ⟨b, o + k * 7 + 3, none⟩) hlt0).trans (hc.out k hl 3 (by decide))
      have r4 : wr.cell? ⟨b, o + k * 7 + 4, none⟩ = some (.int .u64 (F k 4)) := (hB.cell (p := ⟨b, o + k * 7 + 4, none⟩) hlt0).trans (hc.out k hl 4 (by decide))
      have r5 : wr.cell? ⟨b, o + k * 7 + 5, none⟩ = some (.int .u64 (F k 5)) := (hB.cell (p := ⟨b, o + k * 7 + 5, none⟩) hlt0).trans (hc.out k hl 5 (by decide))
      have r6 : wr.cell? ⟨b, o + k * 7 + 6, none⟩ = some (.int .u64 (F k 6)) := (hB.cell (p := ⟨b, o + k * 7 + 6, none⟩) hlt0).trans (hc.out k hl 6 (by decide))
      have M := Lib.hid (repl_more F m k cs hl)
      have S := Lib.hid (repl_stop F m k cs hl)
      generalize F k 0 = q0 at *
      generalize F k 1 = q1 at *
      generalize F k 2 = q2 at *
      generalize F k 3 = q3 at *
      generalize F k 4 = q4 at *
      generalize F k 5 = q5 at *
      generalize F k 6 = q6 at *
      have hal := (Below.refl wr.heap.size wr).alloc (Nat.le_refl _) (.cells #[.int .i64 q0, .int .i64 q1, .int .i64 q2, .int .u64 q3, .int .u64 q4, .int .u64 q5, .int .u64 q6] 45)
      have hX := AccAt.new wr q0 q1 q2 q3 q4 q5 q6
      have hH1 := hHr.out.grew hal
      have hB1 := hB.trans (hal.mono hsz)
      have hn := hHr.out.len
      have hkd := Lib.hid hc
      clear hal hc hkd
      by_cases h1 : insB n q2 = true
      · have hi := of_decide_eq_true h1
        obtain ⟨i, rfl⟩ := Int.eq_ofNat_of_zero_le hi.1
        have hin : i < n := by omega
        obtain ⟨g, rfl, hR1⟩ := hH1.rw (by omega)
        have hSE := Lib.hid (stepE_in (q1 := q1) (q3 := q3) (q4 := q4) (q5 := q5) (q6 := q6) hn hin)
        have hn := Lib.hid hn
        have x1 := hX.c1
        have x2 := hX.c2
        have x3 := hX.c3
        have x4 := hX.c4
        have x5 := hX.c5
        have x6 := hX.c6
        have cc := hR1.cell i hin
        have fc := hR1.frozen i
        have hz0 : ¬ ((i : Int) < 0) := by omega
        have hz1 : (i : Int) < (n : Int) := by omega
        have hz2 : (0 : Int) ≤ (i : Int) := by omega
        clear h1 hi
        have hH1 := Lib.hid hH1
        go_wp2_with fail
        clear r0 r1 r2 r3 r4 r5 r6
        generalize wr.alloc (.cells #[.int .i64 q0, .int .i64 q1, .int .i64 i, .int .u64 q3, .int .u64 q4, .int .u64 q5, .int .u64 q6] 45) = w0 at *
        generalize hz9 : cs.getD i 0 = z at *
        clear hz9
        have L := Lib.hid (fun mm => qleft (rleft_any' q1 z q3 q4 (n := mm) w0))
        generalize hkb : kindB q1 = kb at L
        have HKB := Lib.hid hkb
        clear hkb
        generalize hlf : (if kb = true then leftI q1 z q3 q4 else 0) = lf at L
        have HLF := Lib.hid hlf
        clear hlf
        have hz4 := Lib.hid (show stepE cs (i : Int) q1 q3 q4 q5 q6 = if kb = true ∧ q5 = z ∧ q6 = lf then 0 else 4 by
          rw [hSE.out, ← HLF.out, HKB.out]
          cases kb
          · simp
          · by_cases h5 : q5 = z
            · subst h5; simp
            · simp [h5])
        clear HLF HKB hSE
        cases kb with
        | false =>
          have S := Lib.hid (S.out (by rw [hz4.out, if_neg (fun h => by cases h.1)]; decide))
          clear M
          go_quiet ((go_at_call 17; with_reducible exact L.out _))
          go_wp2_with fail
          go_quiet (fail)
          go_wp2
          go_ret3
          rw [hE.out, S.out, hz4.out, if_neg (fun h => by cases h.1)]
          exact ⟨_, rfl, World.ownsRow_nil _ _ _ _, below_drewN (below_drewN hB1 _) _⟩
        | true =>
          by_cases h5 : q5 = z
          · by_cases h6 : q6 = lf
            · have hs1 := bne_eq_false_iff_eq.2 h5
              have hs2 := bne_eq_false_iff_eq.2 h6
              have M2 := Lib.hid (M.out (by rw [hz4.out, if_pos ⟨rfl, h5, h6⟩]))
              have h66 := Lib.hid h6
              clear M S h5 h6 hz4
              go_quiet ((go_at_call 17; with_reducible exact L.out _))
              go_wp2_with fail
              go_quiet (fail)
              go_wp2
              go_roundw
              case rel =>
                have h66 := h66.out
                subst h66
                exact ⟨k + 1, cs.set i q6, by omega, by go_num, Lib.hid (hE.out.trans (by simpa using M2.out)), Lib.hid ((hR1.touch (Touch.of (below_drewN (Below.refl _ _) _)) (R := fun _ => False) (fun h => h)).set i q6).own, (Touch.setCell (R := (· = g)) (Touch.of (below_drewN hB1 _)) rfl _).below (Nat.le_refl _) (fun x hx => hx ▸ hR1.lt.1)⟩
              case measure => simp [intOf]; omega
            · have hs1 := bne_eq_false_iff_eq.2 h5
              have hs2 := bne_iff_ne.2 h6
              have h44 := Lib.hid (show stepE cs (i : Int) q1 q3 q4 q5 q6 = 4 by rw [hz4.out, if_neg (fun h => h6 h.2.2)])
              have S := Lib.hid (S.out (by rw [h44.out]; decide))
              clear M h5 h6 hz4
              go_quiet ((go_at_call 17; with_reducible exact L.out _))
              go_wp2_with fail
              go_quiet (fail)
              go_wp2
              go_ret3
              rw [hE.out, S.out, h44.out]
              exact ⟨_, rfl, World.ownsRow_nil _ _ _ _, below_drewN (below_drewN hB1 _) _⟩
          · have hs1 := bne_iff_ne.2 h5
            have h44 := Lib.hid (show stepE cs (i : Int) q1 q3 q4 q5 q6 = 4 by rw [hz4.out, if_neg (fun h => h5 h.2.1)])
            have S := Lib.hid (S.out (by rw [h44.out]; decide))
            clear M h5 hz4
            go_quiet ((go_at_call 17; with_reducible exact L.out _))
            go_wp2_with fail
            go_quiet (fail)
            go_wp2
            go_ret3
            rw [hE.out, S.out, h44.out]
            exact ⟨_, rfl, World.ownsRow_nil _ _ _ _, below_drewN (below_drewN hB1 _) _⟩
      · have h1 : insB n q2 = false := by simpa using h1
        have hSE := Lib.hid (stepE_out (q1 := q1) (q3 := q3) (q4 := q4) (q5 := q5) (q6 := q6) hn h1)
        have hn := Lib.hid hn
        have x2 := hX.c2
        have hf := of_decide_eq_false h1
        have S := Lib.hid (S.out (by rw [hSE.out]; decide))
        clear M h1
        by_cases h0 : q2 < 0
        · clear hf
          go_wp2
          go_ret3
          rw [hE.out, S.out, hSE.out]
          exact ⟨_, rfl, World.ownsRow_nil _ _ _ _, hB1⟩
        · have h2 : (n : Int) ≤ q2 := by omega
          clear hf
          go_wp2
          go_ret3
          rw [hE.out, S.out, hSE.out]
          exact ⟨_, rfl, World.ownsRow_nil _ _ _ _, hB1⟩
    · have hkm : k = m := by omega
      subst hkm
      have hE := hE
      go_wp2
      go_ret3
      rw [hE.out, Nat.sub_self]
      refine ⟨_, rfl, ?_, hB⟩
      have hl := hHr.out.len
      show World.ownsRow _ _ _ _ (.slice a n c) cs.length (cs.map (Value.int .u64))
      rw [hl]
      exact hHr.out
end Go.Proofs.Ytcfanmhihbfjbaa
