/- The law ClassesKeeps. Condition: the argument reads as classes and a number. -/
import Derived.Test.YtkapnblocimelaaGClassesKeeps06
namespace Go.Proofs.Ytkapnblocimelaa
open Go.RowKit
set_option linter.unusedVariables false
set_option maxRecDepth 100000 in
set_option maxHeartbeats 16000000 in
theorem ckeeps_law (v : Value) (cl : List ClsD) (n : Int) (w : World) (h : RdRow 2 (ElC w.heap.size) w.heap.size w v cl) (hn : (Lit.int .i64 n).wf = true) :
    Calls Try.prog 8 #[v, .int .i64 n] w fun e w' => e = .returned (.bool true) ∧ Below w.heap.size w w' := by
  obtain ⟨a, q, rfl⟩ := rd_shape h
  have RP := Lib.hid (fun W (hb : Below w.heap.size w W) => h.keep hb fun _ _ _ e r => r.keep hb e)
  have OK := Lib.hid (okC_of h)
  have HN := Lib.hid hn
  clear h hn
  by_cases h20 : 20 < cl.length
  · have h20' : (20 : Int) < (cl.length : Int) := by omega
    go_enter Try.func8, Try.ntmps8
    go_wp2_with fail
    refine (classed_any _).mono ?_
    rintro e w1 ⟨rfl, hb1⟩
    have B1 := Lib.hid hb1
    clear hb1
    go_wp2_with fail
    refine (classed_any _).mono ?_
    rintro e w2 ⟨rfl, hb2⟩
    have B2 := Lib.hid (B1.out.trans (hb2.mono B1.out.size))
    clear hb2
    go_wp2
    go_ret
    exact ⟨rfl, B2.out⟩
  have h20' : ¬ (20 : Int) < (cl.length : Int) := by omega
  go_enter Try.func8, Try.ntmps8
  go_wp2_with fail
  refine (classed_any _).mono ?_
  rintro e w1 ⟨rfl, hb1⟩
  have B1 := Lib.hid hb1
  clear hb1
  go_wp2
  go_loopw [5, 6] (fun x y wr => ∃ (i : Nat) (l : List (ClsD × Value)) (v : Value), i ≤ cl.length ∧ y = .int .i64 i ∧ v = x ∧ l.map (·.1) = cl.take i ∧ COwn wr w.heap.size v l ∧ Below w.heap.size w wr ∧ ∀ c ∈ cl.take i, c.fields.length ≤ 20) (fun _ y _ => cl.length - (intOf y).toNat)
  case atStart => exact ⟨0, [], _, Nat.zero_le _, rfl, rfl, rfl, COwn.nil _ _, B1.out, fun c hc => by cases hc⟩
  case round =>
    obtain ⟨i, l, v, hi, rfl, rfl, hm, hO, hbw, hF⟩ := hrel
    by_cases hlt : i < cl.length
    · have hlt' : (i : Int) < (cl.length : Int) := by omega
      have i1 : (0 : Int) ≤ (i : Int) ∧ (i : Int) < (cl.length : Int) := ⟨by omega, by omega⟩
      have i2 : 0 < cl.length := by omega
      obtain ⟨b, o, rfl, hbB, e1, vf, e2, e3⟩ := rd_at (RP.out wr hbw) hlt
      obtain ⟨fa, fc, hvf⟩ := rd_shape e3
      subst hvf
      have HTK : Hid (cl.take (i + 1) = cl.take i ++ [cl[i]]) := by unfold Hid; rw [List.take_add_one, List.getElem?_eq_getElem hlt]; rfl
      have HLI : Hid (l.length = i) := by
        have := congrArg List.length hm
        rw [List.length_map, List.length_take] at this
        unfold Hid
        omega
      generalize cl[i] = c at *
      by_cases hf : 20 < c.fields.length
      · have hf' : (20 : Int) < (c.fields.length : Int) := by omega
        have HB := Lib.hid hbw
        clear hO hbw hm hF e3
        go_wp2
        go_ret
        exact ⟨rfl, HB.out⟩
      · have hf' : ¬ (20 : Int) < (c.fields.length : Int) := by omega
        obtain ⟨i0, Z⟩ := info_parts info_fld
        have Z := Lib.hid Z
        obtain ⟨j0, Y⟩ := info_parts info_cls
        have Y := Lib.hid Y
        have hbw0 := Lib.hid hbw.size
        go_wp2_with fail
        refine wp_region_held_drew (S := (fun W' => W'.cell? ⟨b, o + i * 2, none⟩ = some (.string c.name) ∧ W'.cell? ⟨b, o + i * 2 + 1, none⟩ = some (.slice fa c.fields.length fc))) (by kernel_rfl) ⟨e1, e2⟩ (fun hHeld => ?_)
        clear e1 e2
        have hb := (Below.refl wr.heap.size wr).drew
        have hO := hO.grew hb
        have hbw := hbw.trans (hb.mono hbw.size)
        have e3 := e3.keep (hb.mono hbw0.out) fun _ _ _ e r => r.keep (hb.mono hbw0.out) e
        clear hb
        generalize wr.drew = w5 at *
        refine wpAnyH_take (i := 0) (oi := _) (v := ?_) (op_atC rfl) (by kernel_rfl) (by kernel_rfl) (by kernel_rfl) (fun _ _ _ h => h) (Or.inl ⟨by rfl, ?_⟩) hHeld ?_
        rotate_left 1
        focus (intro W hSw; (try dsimp only at hSw); go_simp; (try (with_reducible rfl)))
        (try simp only [Act.put, List.setIfInBounds_toArray, List.set_cons_zero, List.set_cons_succ])
        refine wpAnyH_take (i := 1) (oi := _) (v := ?_) (op_atC rfl) (by kernel_rfl) (by kernel_rfl) (by kernel_rfl) (fun _ _ _ h => h) (Or.inl ⟨by rfl, ?_⟩) hHeld ?_
        rotate_left 1
        focus (intro W hSw; (try dsimp only at hSw); go_simp; (try (with_reducible rfl)))
        (try simp only [Act.put, List.setIfInBounds_toArray, List.set_cons_zero, List.set_cons_succ])
        refine wpAnyH_take (i := 2) (oi := _) (v := ?_) (op_atC rfl) (by kernel_rfl) (by kernel_rfl) (by kernel_rfl) (fun _ _ _ h => h) (Or.inl ⟨by rfl, ?_⟩) hHeld ?_
        rotate_left 1
        focus (intro W hSw; (try dsimp only at hSw); go_simp; (try (with_reducible rfl)))
        (try simp only [Act.put, List.setIfInBounds_toArray, List.set_cons_zero, List.set_cons_succ])
        refine wpAnyH_take (i := 3) (oi := _) (v := ?_) (op_atC rfl) (by kernel_rfl) (by kernel_rfl) (by kernel_rfl) (fun _ _ _ h => h) (Or.inl ⟨by rfl, ?_⟩) hHeld ?_
        rotate_left 1
        focus (intro W hSw; (try dsimp only at hSw); go_simp; (try (with_reducible rfl)))
        (try simp only [Act.put, List.setIfInBounds_toArray, List.set_cons_zero, List.set_cons_succ])
        refine wpAnyH_take (i := 4) (oi := _) (v := ?_) (op_atC rfl) (by kernel_rfl) (by kernel_rfl) (by kernel_rfl) (fun _ _ _ h => h) (Or.inl ⟨by rfl, ?_⟩) hHeld ?_
        rotate_left 1
        focus (intro W hSw; (try dsimp only at hSw); go_simp; (try (with_reducible rfl)))
        (try simp only [Act.put, List.setIfInBounds_toArray, List.set_cons_zero, List.set_cons_succ])
        refine wpAnyH_take (i := 5) (oi := _) (v := ?_) (op_atC rfl) (by kernel_rfl) (by kernel_rfl) (by kernel_rfl) (fun _ _ _ h => h) (Or.inl ⟨by rfl, ?_⟩) hHeld ?_
        rotate_left 1
        focus (intro W hSw; (try dsimp only at hSw); go_simp; (try (with_reducible rfl)))
        (try simp only [Act.put, List.setIfInBounds_toArray, List.set_cons_zero, List.set_cons_succ])
        refine wpAnyH_take (i := 7) (oi := _) (v := ?_) (op_atC rfl) (by kernel_rfl) (by kernel_rfl) (by kernel_rfl) (fun _ _ _ h => h) (Or.inl ⟨by rfl, ?_⟩) hHeld ?_
        rotate_left 1
        focus (intro W hSw; (try dsimp only at hSw); go_simp; (try (with_reducible rfl)))
        (try simp only [Act.put, List.setIfInBounds_toArray, List.set_cons_zero, List.set_cons_succ])
        refine wpAnyH_take (i := 8) (oi := _) (v := ?_) (op_atC rfl) (by kernel_rfl) (by kernel_rfl) (by kernel_rfl) (fun _ _ _ h => h) (Or.inl ⟨by rfl, ?_⟩) hHeld ?_
        rotate_left 1
        focus (intro W hSw; (try dsimp only at hSw); go_simp; (try (with_reducible rfl)))
        (try simp only [Act.put, List.setIfInBounds_toArray, List.set_cons_zero, List.set_cons_succ])
        refine wpAnyH_take (i := 9) (oi := _) (v := ?_) (op_atC rfl) (by kernel_rfl) (by kernel_rfl) (by kernel_rfl) (fun _ _ _ h => h) (Or.inl ⟨by rfl, ?_⟩) hHeld ?_
        rotate_left 1
        focus (intro W hSw; (try dsimp only at hSw); go_simp; (try (with_reducible rfl)))
        (try simp only [Act.put, List.setIfInBounds_toArray, List.set_cons_zero, List.set_cons_succ])
        refine wpAnyH_take (i := 10) (oi := _) (v := ?_) (op_atC rfl) (by kernel_rfl) (by kernel_rfl) (by kernel_rfl) (fun _ _ _ h => h) (Or.inl ⟨by rfl, ?_⟩) hHeld ?_
        rotate_left 1
        focus (intro W hSw; (try dsimp only at hSw); go_simp; (try (with_reducible rfl)))
        (try simp only [Act.put, List.setIfInBounds_toArray, List.set_cons_zero, List.set_cons_succ])
        refine wpAnyH_take (i := 11) (oi := _) (v := ?_) (op_atC rfl) (by kernel_rfl) (by kernel_rfl) (by kernel_rfl) (fun _ _ _ h => h) (Or.inl ⟨by rfl, ?_⟩) hHeld ?_
        rotate_left 1
        focus (intro W hSw; (try dsimp only at hSw); go_simp; (try (with_reducible rfl)))
        (try simp only [Act.put, List.setIfInBounds_toArray, List.set_cons_zero, List.set_cons_succ])
        refine wpAnyH_ready (rs := [6]) (by kernel_rfl) (by simp) ?_
        refine AllReadyH.cons (o := _) (op_atC rfl) (fun Kc hKc => ?_) AllReadyH.nil
        go_simp
        refine hKc.out _ _ ?_ (fun hHeld' => ?_)
        focus exact ⟨((Below.refl _ _).alloc (Nat.le_refl _) _).cell (World.block_lt_of_cell? _ _ hHeld.1) |>.trans hHeld.1, ((Below.refl _ _).alloc (Nat.le_refl _) _).cell (World.block_lt_of_cell? _ _ hHeld.2) |>.trans hHeld.2⟩
        clear hHeld
        have hHeld := hHeld'
        clear hHeld'
        have hb := (Below.refl w5.heap.size w5).alloc (Nat.le_refl _) (.cells #[] 72)
        have hM0 := World.ownsRow_made (e := 72) (size := 2) w5 #[] 0 (Nat.le_refl _) (by decide) rfl
        have e3 := e3.keep (hb.mono hbw.size) fun _ _ _ e r => r.keep (hb.mono hbw.size) e
        have HO5 := Lib.hid hO
        have HS5 := Lib.hid hbw.size
        have HB5 := Lib.hid hb
        have hsz6 : w5.heap.size ≤ (w5.alloc (.cells #[] 72)).heap.size := hb.size
        clear hO hb
        generalize hW6 : w5.alloc _ = w6 at *
        clear hW6
        clear hKc Kc
        (try simp only [Act.put, List.setIfInBounds_toArray, List.set_cons_zero, List.set_cons_succ])
        refine wpAnyH_ready (rs := [12]) (by kernel_rfl) (by simp) ?_
        refine AllReadyH.cons (o := _) (op_atC rfl) (fun Kc hKc => ?_) AllReadyH.nil
        refine step_app_own (by rfl) _ _ (by rfl) (by rfl) (by rfl) (app_own0 Try.underlying32 Z.out.1 Z.out.2.1 Z.out.2.2.1 Z.out.2.2.2 rfl (by decide) w6 _ w5.heap.size w5.heap.size hsz6 (Nat.le_refl _) hM0 fa c.fields.length fc _ (flat_len fldC 2 (fun _ => rfl) _) (flat_in (by simp [fldC, Value.oneCell'])) (rd_news (f := fldC) (by decide) (fun _ => rfl) elF_at e3) (by omega) (by decide)) ?_
        rintro u w7 ⟨ho, hb⟩
        refine hKc.out _ _ ?_ (fun hHeld' => ?_)
        focus exact ⟨(hb.cell (show b < w5.heap.size by have := HS5.out; omega)).trans hHeld.1, (hb.cell (show b < w5.heap.size by have := HS5.out; omega)).trans hHeld.2⟩
        clear hHeld
        have hHeld := hHeld'
        clear hHeld'
        have hb := HB5.out.trans hb
        have hO := HO5.out.grew hb
        have HRG : Hid (∀ g, v.ownBlock = some g → g < w5.heap.size) := fun g hg => (own_ltG HO5.out.row hg).2
        have hbw := hbw.trans (hb.mono hbw.size)
        obtain ⟨ua, uc, rfl⟩ := row_shape ho
        clear hM0 e3 hsz6 HB5 hb
        clear hKc Kc
        (try simp only [Act.put, List.setIfInBounds_toArray, List.set_cons_zero, List.set_cons_succ])
        refine wpAnyH_take (i := 13) (oi := _) (v := ?_) (op_atC rfl) (by kernel_rfl) (by kernel_rfl) (by kernel_rfl) (fun _ _ _ h => h) (Or.inl ⟨by rfl, ?_⟩) hHeld ?_
        rotate_left 1
        focus (intro W hSw; (try dsimp only at hSw); go_simp; (try (with_reducible rfl)))
        (try simp only [Act.put, List.setIfInBounds_toArray, List.set_cons_zero, List.set_cons_succ])
        refine wpAnyH_ready (rs := [14]) (by kernel_rfl) (by simp) ?_
        refine AllReadyH.cons (o := _) (op_atC rfl) (fun Kc hKc => ?_) AllReadyH.nil
        go_simp
        refine hKc.out _ _ ?_ (fun hHeld' => ?_)
        focus exact ⟨((Below.refl _ _).alloc (Nat.le_refl _) _).cell (World.block_lt_of_cell? _ _ hHeld.1) |>.trans hHeld.1, ((Below.refl _ _).alloc (Nat.le_refl _) _).cell (World.block_lt_of_cell? _ _ hHeld.2) |>.trans hHeld.2⟩
        clear hHeld
        have hHeld := hHeld'
        clear hHeld'
        have hb := (Below.refl w7.heap.size w7).alloc (Nat.le_refl _) (.cells #[.string c.name, .slice ua c.fields.length uc] 34)
        have kS := Blk.new w7 #[.string c.name, .slice ua c.fields.length uc] 34
        have hO := hO.grew hb
        have ho := own_grewG ho hb
        have hbw := hbw.trans (hb.mono hbw.size)
        clear hb
        generalize w7.alloc _ = w8 at *
        generalize w7.heap.size = G at *
        clear hKc Kc
        (try simp only [Act.put, List.setIfInBounds_toArray, List.set_cons_zero, List.set_cons_succ])
        refine wpAnyH_ready (rs := [15]) (by kernel_rfl) (by simp) ?_
        refine AllReadyH.cons (o := _) (op_atC rfl) (fun Kc hKc => ?_) AllReadyH.nil
        refine step_append_lies _ (by rfl) _ _ _ (by rfl) w.heap.size 34 j0 _ 2 40 Try.underlying24 Y.out.1 Y.out.2.1 Y.out.2.2.1 Y.out.2.2.2 rfl (by decide) v l.length (l.flatMap clsC) (by rfl) hO.row ⟨G, 0, none⟩ 1 1 [.string c.name, .slice ua c.fields.length uc] (by rfl) (by rfl) (World.news_of_block kS) (by simp [Value.oneCell']) (by decide) (by have h1 := HLI.out; unfold maxLen; omega) (by have h1 := HLI.out; omega) hbw.size _ rfl ?_
        intro g cap w9 hown hgrow hat hlt2
        refine hKc.out _ _ ?_ (fun hHeld' => ?_)
        focus exact ⟨hgrow.cell hHeld.1 (fun q => absurd (own_ltG hO.row q.symm).1 (show ¬ w.heap.size ≤ b by omega)), hgrow.cell hHeld.2 (fun q => absurd (own_ltG hO.row q.symm).1 (show ¬ w.heap.size ≤ b by omega))⟩
        clear hHeld
        have hHeld := hHeld'
        clear hHeld'
        have hbw := hbw.grown hgrow hbw.size (fun q hq => (own_ltG hO.row hq).1)
        have hO := hO.app (x := (c, .slice ua c.fields.length uc)) (own_sub ho HS5.out) (fun g hg e => by have h1 := (own_ltG ho hg).1; have h2 := HRG.out g e; omega) hgrow hown rfl hat
        clear hown hgrow hat hlt2 kS ho
        clear hKc Kc
        (try simp only [Act.put, List.setIfInBounds_toArray, List.set_cons_zero, List.set_cons_succ])
        refine wpAnyH_take (i := 16) (oi := _) (v := ?_) (op_atC rfl) (by kernel_rfl) (by kernel_rfl) (by kernel_rfl) (fun _ _ _ h => h) (Or.inl ⟨by rfl, ?_⟩) hHeld ?_
        rotate_left 1
        focus (intro W hSw; (try dsimp only at hSw); go_simp; (try (with_reducible rfl)))
        (try simp only [Act.put, List.setIfInBounds_toArray, List.set_cons_zero, List.set_cons_succ])
        refine wpAnyH_done (by kernel_rfl) ?_ _
        have HE := Lib.hid (And.intro hO hbw)
        clear hO hbw hHeld
        go_wp2
        go_roundw
        case rel => exact ⟨i + 1, l ++ [(c, .slice ua c.fields.length uc)], _, by omega, by go_num, rfl, by rw [List.map_append, hm, HTK.out]; rfl, HE.out.1, HE.out.2, fun d hd => by rw [HTK.out] at hd; rcases List.mem_append.1 hd with hd | hd; exact hF d hd; have hdc : d = c := (by simpa using hd); subst hdc; omega⟩
        case measure => simp [intOf]; omega
    · have hlt' : ¬ (i : Int) < (cl.length : Int) := by omega
      have hic : i = cl.length := by omega
      rw [hic, List.take_length] at hm hF
      have RD := cls_own hO hm OK.out
      obtain ⟨va, vc, hv⟩ := row_shape hO.row
      subst hv
      have NW := Lib.hid (new_any wr wr.heap.size _ cl RD (Nat.le_refl _))
      have HLL : Hid (l.length = cl.length) := by have := congrArg List.length hm; unfold Hid; simpa using this
      have HO := Lib.hid hO
      have HB := Lib.hid hbw
      have HF := Lib.hid hF
      have HM := Lib.hid hm
      clear hO hbw hF hm RD
      go_wp2_with fail
      refine NW.out.mono ?_
      rintro e w2 ⟨hb2, hcase⟩
      have C2 := Lib.hid hb2
      have B2 := Lib.hid (HB.out.trans (hb2.mono HB.out.size))
      clear NW hb2
      rcases hcase with ⟨hne, rfl⟩ | ⟨hz, t, tv, m, L, rfl, hT, hL⟩
      · have hne' : ((tabE cl).2 != 0) = true := by simpa using hne
        generalize (tabE cl).1 = n1 at *
        generalize (tabE cl).2 = n2 at *
        clear hne
        go_wp2
        go_ret
        exact ⟨rfl, B2.out⟩
      by_cases h0 : cl.length = 0
      · have h0' : ((cl.length : Int) == 0) = true := by simp [h0]
        clear hT hL
        go_wp2
        go_ret
        exact ⟨rfl, B2.out⟩
      have h0' : ((cl.length : Int) == 0) = false := by rw [beq_eq_false_iff_ne]; omega
      have HT := Lib.hid hT
      have HL := Lib.hid hL
      have HQ0 := Lib.hid ((qc_of HO.out).grew C2.out)
      obtain ⟨j, hj, hje⟩ := idx_of n cl.length (by omega) (by omega)
      have hl20 : l.length ≤ 20 := by have := HLL.out; omega
      have hgv := own_cellG HO.out.row (by have := HLL.out; omega)
      obtain ⟨g, cap0, hgv, hg1, hg2, _, _, _⟩ := hgv
      have HVA : Hid (Value.slice va l.length vc = .slice (some ⟨g, 0, none⟩) l.length cap0) := hgv
      injection hgv with hva _ _
      subst hva
      have HGB : Hid ((Value.slice (some ⟨g, 0, none⟩) l.length vc).ownBlock = some g) := rfl
      generalize hB1 : wr.heap.size = Bw at *
      clear hT hL hz hlt hlt' hi
      go_wp2
      rw [hje]
      clear hje
      go_loopw [10] (fun x W => ∃ k : Nat, k ≤ l.length ∧ x = .int .i64 k ∧ QC W w.heap.size Bw (.slice (some ⟨g, 0, none⟩) l.length vc) l k ∧ Touch (fun b => w.heap.size ≤ b ∧ b < Bw) w2 W) (fun x _ => l.length - (intOf x).toNat)
      case atStart => exact ⟨0, Nat.zero_le _, rfl, HQ0.out, Touch.refl _ _⟩
      case round =>
        obtain ⟨k, hk, rfl, hQ, hTc⟩ := hrel
        by_cases hkl : k < l.length
        · have hkl' : (k : Int) < (l.length : Int) := by omega
          have k1 : (0 : Int) ≤ (k : Int) ∧ (k : Int) < (l.length : Int) := ⟨by omega, by omega⟩
          have k2 : 0 < l.length := by omega
          have hin := HO.out.inner _ (List.getElem_mem hkl)
          obtain ⟨ua, uc, hu⟩ := row_shape hin
          have HH : Hid (∀ W, QC W w.heap.size Bw (.slice (some ⟨g, 0, none⟩) l.length vc) l k → W.cell? ⟨g, k * 2 + 1, none⟩ = some (.slice ua l[k].1.fields.length uc)) := fun W h => ((h.r0 g rfl).2.2.cell (by rw [if_pos (by omega)]; exact hdC_at hkl)).trans (congrArg some hu)
          have HI : Hid (∀ W, QC W w.heap.size Bw (.slice (some ⟨g, 0, none⟩) l.length vc) l k → InB W w.heap.size Bw (.slice (some ⟨g, 0, none⟩) l.length vc) (.slice ua l[k].1.fields.length uc) 72 (l[k].1.fields.length * 2)) := fun W h => hu ▸ h.i0 k hkl
          have HC : Hid (0 < l[k].1.fields.length → ∃ b, ua = some ⟨b, 0, none⟩) := fun h => by
            obtain ⟨b, cap, e, _⟩ := own_cellG hin h
            rw [hu] at e
            injection e with e1 _ _
            exact ⟨b, e1⟩
          have HFL : Hid (l[k].1.fields.length ≤ 20) := HF.out _ (by rw [← HM.out]; exact List.mem_map.2 ⟨_, List.getElem_mem hkl, rfl⟩)
          generalize l[k].1.fields.length = m1 at *
          clear hin hu
          have hd := HH.out _ hQ
          have HQ := Lib.hid hQ
          have HTc := Lib.hid hTc
          clear hQ hTc
          go_wp2
          clear hd
          go_loopw [11] (fun x W => ∃ p : Nat, p ≤ m1 ∧ x = .int .i64 p ∧ QC W w.heap.size Bw (.slice (some ⟨g, 0, none⟩) l.length vc) l k ∧ Touch (fun b => w.heap.size ≤ b ∧ b < Bw) w2 W) (fun x _ => m1 - (intOf x).toNat)
          case atStart => exact ⟨0, Nat.zero_le _, rfl, HQ.out, HTc.out⟩
          case round =>
            obtain ⟨p, hp, rfl, hQ2, hT2⟩ := hrel
            have hd := HH.out _ hQ2
            have HQ2 := Lib.hid hQ2
            have HT2 := Lib.hid hT2
            have hFm := HFL.out
            by_cases hpm : p < m1
            · have hpm' : (p : Int) < (m1 : Int) := by omega
              have p1 : (0 : Int) ≤ (p : Int) ∧ (p : Int) < (m1 : Int) := ⟨by omega, by omega⟩
              have p2 : 0 < m1 := by omega
              obtain ⟨b, hbu⟩ := HC.out p2
              subst hbu
              have ib := HI.out _ hQ2 b rfl
              obtain ⟨z0, hz0⟩ := ib.2.2.2.room (j := p * 2) (by omega)
              obtain ⟨z1, hz1⟩ := ib.2.2.2.room (j := p * 2 + 1) (by omega)
              have f0 := ib.2.2.2.frozen (p * 2)
              have f1 := ib.2.2.2.frozen (p * 2 + 1)
              have IB := Lib.hid (And.intro ib.1 (And.intro ib.2.1 ib.2.2.1))
              clear ib hQ2 hT2
              go_wp2
              go_roundw
              case rel => exact ⟨p + 1, by omega, by go_num, (HQ2.out.set b (p * 2) (.string ⟨#[122, 122]⟩) IB.out.2.2).set b (p * 2 + 1) (.int .i64 7) IB.out.2.2, (HT2.out.setCell (p := ⟨b, p * 2, none⟩) ⟨IB.out.1, IB.out.2.1⟩ (.string ⟨#[122, 122]⟩)).setCell (p := ⟨b, p * 2 + 1, none⟩) ⟨IB.out.1, IB.out.2.1⟩ (.int .i64 7)⟩
              case measure => simp [intOf]; omega
            · have hpm' : ¬ (p : Int) < (m1 : Int) := by omega
              have hr0 := hQ2.r0 g rfl
              obtain ⟨z0, hz0⟩ := hr0.2.2.room (j := k * 2) (by omega)
              obtain ⟨z1, hz1⟩ := hr0.2.2.room (j := k * 2 + 1) (by omega)
              have f0 := hr0.2.2.frozen (k * 2)
              have f1 := hr0.2.2.frozen (k * 2 + 1)
              have IB := Lib.hid (And.intro hr0.1 hr0.2.1)
              clear hr0 hQ2 hT2
              go_wp2
              go_roundw
              case rel => exact ⟨k + 1, by omega, by go_num, (HQ2.out.next.head g (k * 2) (.string ⟨#[]⟩) (by omega)).head g (k * 2 + 1) (.slice none 0 0) (by omega), (HT2.out.setCell (p := ⟨g, k * 2, none⟩) IB.out (.string ⟨#[]⟩)).setCell (p := ⟨g, k * 2 + 1, none⟩) IB.out (.slice none 0 0)⟩
              case measure => simp [intOf]; omega
        · have hkl' : ¬ (k : Int) < (l.length : Int) := by omega
          obtain ⟨W, hWW⟩ : ∃ W, W = wr := ⟨_, rfl⟩
          subst hWW
          have HT3 := Lib.hid (HT.out.touch hTc (fun g h1 _ h2 => by omega))
          have B3 := Lib.hid (B2.out.trans (hTc.below (B := w.heap.size) B2.out.size (fun q hq => hq.1)))
          have hlen : L.length = cl.length := by have := congrArg List.length HL.out; simpa using this
          have hjL : j < L.length := by omega
          have hat : (L[j]'hjL).1 = cl[j]'hj := by
            have h1 : (L.map (·.1))[j]? = cl[j]? := by rw [HL.out]
            rw [List.getElem?_map, List.getElem?_eq_getElem hjL, List.getElem?_eq_getElem hj] at h1
            simpa using h1
          have hmem := List.getElem_mem hj
          have TC := fun W2 (hb : Below W.heap.size W W2) => tclass_yes W2 _ t m tv L j (HT3.out.grew hb) hjL (by rw [hat]; exact OK.out _ hmem) (by rw [hat]; have := HF.out _ hmem; omega)
          simp only [hat] at TC
          have TC := Lib.hid TC
          have HI := Lib.hid (OK.out _ hmem)
          have HFC := Lib.hid (HF.out _ hmem)
          have EL : Hid (∀ W (hb : Below w.heap.size w W), ∃ b o, a = some ⟨b, o, none⟩ ∧ b < w.heap.size ∧ ElC w.heap.size W b (o + j * 2) (cl[j]'hj)) := fun W hb => rd_at (RP.out W hb) hj
          clear hQ hTc hat hmem hlen
          generalize cl[j] = c at *
          go_wp2_with fail
          refine (TC.out W (Below.refl _ _)).mono ?_
          rintro e w5 ⟨fv, rfl, ho, hb5⟩
          obtain ⟨ga, gc, hfv⟩ := row_shape ho
          subst hfv
          have hb6 := (Below.refl w5.heap.size w5).alloc (Nat.le_refl _) (.cells #[.string c.name, .slice ga c.fields.length gc] 34)
          have k6 := Blk.new w5 #[.string c.name, .slice ga c.fields.length gc] 34
          have HX := Lib.hid hb5.size
          have HSH : Hid (0 < c.fields.length → ∃ gg, ga = some ⟨gg, 0, none⟩ ∧ W.heap.size ≤ gg ∧ gg < w5.heap.size) := fun h => by
            obtain ⟨gg, cap, e, h1, h2, _⟩ := own_cellG ho h
            injection e with e1 _ _
            exact ⟨gg, e1, h1, h2⟩
          have hF0 : ∀ gg, (Value.slice ga c.fields.length gc).ownBlock = some gg → HdB (w5.alloc (.cells #[.string c.name, .slice ga c.fields.length gc] 34)) gg 72 (c.fields.length * 2) (fun j => if 0 * 2 ≤ j then (c.fields.flatMap fldC)[j]? else none) := fun gg hg => (hdb_of ho hg fun j u hu => by simpa using hu).grew hb6
          have KA := Lib.hid (And.intro k6 (And.intro hF0 (hb5.trans (hb6.mono hb5.size))))
          clear ho hb5 hb6 k6 hF0
          go_wp2
          obtain ⟨k6, hF0, hb6⟩ := KA.out
          clear KA
          generalize w5.alloc _ = w6 at *
          generalize w5.heap.size = X at *
          go_loopw [13] (fun x wr => ∃ k : Nat, k ≤ c.fields.length ∧ x = .int .i64 k ∧ Blk wr X #[.string c.name, .slice ga c.fields.length gc] 34 ∧ (∀ gg, (Value.slice ga c.fields.length gc).ownBlock = some gg → HdB wr gg 72 (c.fields.length * 2) (fun j => if k * 2 ≤ j then (c.fields.flatMap fldC)[j]? else none)) ∧ Below W.heap.size W wr) (fun x _ => c.fields.length - (intOf x).toNat)
          case atStart => exact ⟨0, Nat.zero_le _, rfl, k6, hF0, hb6⟩
          case round =>
            clear k6 hF0 hb6
            obtain ⟨s, hs, rfl, k6, hF4, hb4⟩ := hrel
            have hs20 := HFC.out
            by_cases hsn : s < c.fields.length
            · have hsn' : (s : Int) < (c.fields.length : Int) := by omega
              have s1 : (0 : Int) ≤ (s : Int) ∧ (s : Int) < (c.fields.length : Int) := ⟨by omega, by omega⟩
              have s2 : 0 < c.fields.length := by omega
              have j1 : (0 : Int) ≤ (j : Int) ∧ (j : Int) < (cl.length : Int) := ⟨by omega, by omega⟩
              have j2 : 0 < cl.length := by omega
              obtain ⟨gg, hga, hg1, hg2⟩ := HSH.out s2
              subst hga
              have hd := hF4 gg rfl
              have hbW := B3.out.trans (hb4.mono B3.out.size)
              obtain ⟨b, o, rfl, _, e1, vf, e2, e3⟩ := EL.out wr hbW
              obtain ⟨fa, fc, hvf⟩ := rd_shape e3
              subst hvf
              obtain ⟨b2, o2, rfl, _, q0, q1, _⟩ := rd_at e3 hsn
              have p0 : wr.cell? ⟨gg, s * 2, none⟩ = some (.string c.fields[s].name) := hd.cell (by rw [if_pos (by omega)]; have := flat_at fldC 2 (fun _ => rfl) c.fields s 0 hsn (by decide); simpa [fldC] using this)
              have p1 : wr.cell? ⟨gg, s * 2 + 1, none⟩ = some (.int .i64 c.fields[s].ty) := hd.cell (by rw [if_pos (by omega)]; have := flat_at fldC 2 (fun _ => rfl) c.fields s 1 hsn (by decide); simpa [fldC] using this)
              have hE := fun W => neq_fld W c.fields[s].name c.fields[s].name c.fields[s].ty c.fields[s].ty
              have HHD := Lib.hid hd
              have HK6 := Lib.hid k6
              have HB4 := Lib.hid hb4
              generalize c.fields[s] = z at *
              rcases z with ⟨zn, zt⟩
              simp only at p0 p1 q0 q1 hE
              have hv : (zn.toList == zn.toList && zt == zt) = true := by simp
              have y1 := k6.val 1 rfl
              clear hd k6 hF4 hb4 hbW e3
              go_wp2
              go_quiet (fail)
              have hqb : Below wr.heap.size wr (wr.drewN nq) := Quiet.below ⟨nq, rfl⟩
              have k6 := HK6.out.grew hqb
              have hd := HHD.out.grew hqb
              have hb4 := HB4.out.trans (hqb.mono HB4.out.size)
              clear p0 p1 q0 q1 y1 hE hqb HK6 HHD HB4 e1 e2
              generalize wr.drewN nq = W5 at *
              have y1 := k6.val 1 rfl
              obtain ⟨z0, hz0⟩ := hd.room (j := s * 2) (by omega)
              obtain ⟨z1, hz1⟩ := hd.room (j := s * 2 + 1) (by omega)
              have f0 := hd.frozen (s * 2)
              have f1 := hd.frozen (s * 2 + 1)
              have HD := Lib.hid hd
              have HK6 := Lib.hid k6
              have HB4 := Lib.hid hb4
              clear hd k6 hb4
              go_wp2
              go_roundw
              case rel =>
                have hTs := ((Touch.refl (fun b => b = gg) W5).setCell (p := ⟨gg, s * 2, none⟩) rfl (.string ⟨#[]⟩)).setCell (p := ⟨gg, s * 2 + 1, none⟩) rfl (.int .i64 0)
                refine ⟨s + 1, by omega, by go_num, HK6.out.touch hTs (by omega), fun g' hg' => ?_, HB4.out.trans (hTs.below (B := W.heap.size) HB4.out.size (fun q hq => by omega))⟩
                have hgg : gg = g' := Option.some.inj hg'
                subst hgg
                refine (HdB.set (HdB.set (HD.out.less fun j v hv => ?_) gg (s * 2) _ (fun _ => if_neg (by omega))) gg (s * 2 + 1) _ (fun _ => if_neg (by omega)))
                split at hv
                next e => rw [if_pos (by omega)]; exact hv
                next _ => cases hv
              case measure => simp [intOf]; omega
            · have hsn' : ¬ (s : Int) < (c.fields.length : Int) := by omega
              have y1 := k6.val 1 rfl
              have TC2 := Lib.hid (TC.out wr hb4)
              have HB4 := Lib.hid (B3.out.trans (hb4.mono B3.out.size))
              clear k6 hF4 hb4
              go_wp2_with fail
              refine TC2.out.mono ?_
              rintro e w7 ⟨fv2, rfl, ho, hb7⟩
              obtain ⟨gb, gd, hfv2⟩ := row_shape ho
              subst hfv2
              have hb8 := (Below.refl w7.heap.size w7).alloc (Nat.le_refl _) (.cells #[.string c.name, .slice gb c.fields.length gd] 34)
              have k8 := Blk.new w7 #[.string c.name, .slice gb c.fields.length gd] 34
              have ho8 := own_grewG ho hb8
              have hb7' := HB4.out.trans (hb7.mono HB4.out.size)
              have KA := Lib.hid (And.intro k8 (And.intro ho8 (hb7'.trans (hb8.mono hb7'.size))))
              clear ho hb7 hb8 k8 ho8 hb7' y1
              have j1 : (0 : Int) ≤ (j : Int) ∧ (j : Int) < (cl.length : Int) := ⟨by omega, by omega⟩
              have j2 : 0 < cl.length := by omega
              go_wp2_with fail
              obtain ⟨k8, ho8, hb8⟩ := KA.out
              clear KA
              generalize w7.alloc _ = w8 at *
              generalize w7.heap.size = X8 at *
              obtain ⟨b, o, rfl, _, e1, vf, e2, e3⟩ := EL.out w8 hb8
              obtain ⟨fa, fc, hvf⟩ := rd_shape e3
              subst hvf
              have y0 := k8.val 0 rfl
              have y1 := k8.val 1 rfl
              have hdr := (Below.refl w8.heap.size w8).drew
              have SC := Lib.hid (rsclass_any w8.drew w8.heap.size (.slice gb c.fields.length gd) (.slice fa c.fields.length fc) c c (Nat.le_refl _)
                (own_rd (f := fldC) (by decide) (fun _ => rfl) (own_drew ho8) (Nat.le_refl _) fun g k y hy hq => ⟨hq 0 _ rfl, hq 1 _ rfl, HI.out y hy⟩)
                ((e3.keep (hdr.mono hb8.size) fun _ _ _ e r => r.keep (hdr.mono hb8.size) e).mono hb8.size fun _ _ _ q => q))
              rw [show decide (clsP c = clsP c) = true by simp] at SC
              have HB8 := Lib.hid (hb8.trans (hdr.mono hb8.size))
              clear k8 ho8 hb8 e3 EL hdr
              go_wp2_with fail
              go_still_tail 12, (by kernel_rfl)
              change wpList _ _ _ _ _ w8.drew
              clear y0 y1 e1 e2
              generalize w8.drew = w9 at *
              go_wp2_with fail
              refine SC.out.mono ?_
              rintro e w10 ⟨rfl, hb10⟩
              have HB10 := Lib.hid (HB8.out.trans (hb10.mono HB8.out.size))
              clear hb10 SC
              go_wp2
              go_ret
              exact ⟨rfl, HB10.out⟩
end Go.Proofs.Ytkapnblocimelaa
