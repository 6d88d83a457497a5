/- Texts of this seat, one behind the other: each says at its head what it holds. No condition of its own. -/
import Derived.Test.YtkapnblocimelaaGClassesKeeps05
/- Table.Class: a class, in memory of its own. Condition: the table is there. -/
namespace Go.Proofs.Ytkapnblocimelaa
open Go.RowKit
set_option linter.unusedVariables false
set_option maxRecDepth 100000 in
set_option maxHeartbeats 1000000 in
theorem tclass_no (w : World) (lo t m : Nat) (v : Value) (l : List (ClsD × Value × Nat)) (i : Int) (h : TabS w lo t v m l) (hi : atB l.length i = false) :
    Calls Try.prog 15 #[.pointer (some ⟨t, 0, none⟩), .int .i64 i] w fun e w' => e = .returned (.tuple #[.agg #[.string ⟨#[]⟩, .slice none 0 0], .int .i64 21]) ∧ Below w.heap.size w w' := by
  have hb := (Below.refl w.heap.size w).alloc (Nat.le_refl _) (.cells #[.string ⟨#[]⟩, .slice none 0 0] 34)
  have k1 := Blk.new w #[.string ⟨#[]⟩, .slice none 0 0] 34
  have AT := Lib.hid (at_no _ lo t m v l i (h.grew hb) hi)
  have HB := Lib.hid hb
  have K1 := Lib.hid k1
  clear h hb hi k1
  go_enter Try.func15, Try.ntmps15
  go_wp2_with fail
  refine AT.out.mono ?_
  rintro e w2 ⟨rfl, hb2⟩
  have k1 := K1.out.grew hb2
  have hb := (HB.out.trans (hb2.mono HB.out.size))
  have z0 := k1.val 0 rfl
  have z1 := k1.val 1 rfl
  have f0 := k1.frozen 0
  have f1 := k1.frozen 1
  have hl := k1.lt
  have hT := ((Touch.refl (fun x => x = w.heap.size) w2).setCell (p := ⟨w.heap.size, 0, none⟩) rfl (.string ⟨#[]⟩)).setCell (p := ⟨w.heap.size, 1, none⟩) rfl (.slice none 0 0)
  have K3 := Lib.hid (((k1.set 0 (.string ⟨#[]⟩)).set 1 (.slice none 0 0)).alloc (.cells #[.string ⟨#[]⟩, .slice none 0 0, .map none] 80))
  have HE0 := Lib.hid (hb.trans (hT.below (B := w.heap.size) hb.size (fun q hq => by omega)))
  have HE := Lib.hid (HE0.out.alloc HE0.out.size (.cells #[.string ⟨#[]⟩, .slice none 0 0, .map none] 80))
  clear k1 hb hb2 hT
  go_wp2
  clear z0 z1
  have z0 := K3.out.val 0 rfl
  have z1 := K3.out.val 1 rfl
  refine bodyPost_ret (v := .tuple #[.agg #[.string ⟨#[]⟩, .slice none 0 0], .int .i64 21]) (by simp [results, Try.results15, go_sem, z0, z1]) rfl ⟨rfl, HE.out⟩
set_option maxRecDepth 100000 in
set_option maxHeartbeats 4000000 in
theorem tclass_yes (w : World) (lo t m : Nat) (v : Value) (l : List (ClsD × Value × Nat)) (i : Nat) (h : TabS w lo t v m l) (hi : i < l.length) (hI : ∀ f ∈ l[i].1.fields, I64 f.ty) (hn : l[i].1.fields.length ≤ 1000) :
    Calls Try.prog 15 #[.pointer (some ⟨t, 0, none⟩), .int .i64 i] w fun e w' => ∃ fv, e = .returned (.tuple #[.agg #[.string l[i].1.name, fv], .int .i64 0]) ∧ w'.ownsRow w.heap.size 72 2 fv l[i].1.fields.length (l[i].1.fields.flatMap fldC) ∧ Below w.heap.size w w' := by
  have hb := (Below.refl w.heap.size w).alloc (Nat.le_refl _) (.cells #[.string ⟨#[]⟩, .slice none 0 0] 34)
  have k1 := Blk.new w #[.string ⟨#[]⟩, .slice none 0 0] 34
  have AT := Lib.hid (at_yes _ lo t m v l i (h.grew hb) hi)
  obtain ⟨g, cap, hv, c0, c1, c2, fa, fc, hfv⟩ := rows_at h.rows hi
  have hin := (h.rows.inner _ (List.getElem_mem hi)).1
  rw [hfv] at AT hin
  generalize l[i].1 = d at *
  generalize l[i].2.2 = mi at *
  have hrd : RdRow 2 ElF w.heap.size w (.slice fa d.fields.length fc) d.fields := own_rd (f := fldC) (by decide) (fun _ => rfl) hin (Nat.le_refl _) fun g k y hy hq => ⟨hq 0 _ rfl, hq 1 _ rfl, hI y hy⟩
  have RF := Lib.hid (fun W (hb : Below w.heap.size w W) => hrd.keep hb fun _ _ _ e r => r.keep hb e)
  have HB := Lib.hid hb
  have K1 := Lib.hid k1
  clear h hb hfv hi k1 hv c0 c1 c2 hin hrd hI
  go_enter Try.func15, Try.ntmps15
  go_wp2_with fail
  refine AT.out.mono ?_
  rintro e w2 ⟨rfl, hb2⟩
  have hb := (HB.out.trans (hb2.mono HB.out.size))
  have hb3 := (Below.refl w2.heap.size w2).alloc (Nat.le_refl _) (.cells #[.string d.name, .slice fa d.fields.length fc, .map (some mi)] 80)
  have k2 := (K1.out.grew hb2).grew hb3
  have k4 := Blk.new w2 #[.string d.name, .slice fa d.fields.length fc, .map (some mi)] 80
  have KA := Lib.hid (And.intro k2 (And.intro k4 (hb.trans (hb3.mono hb.size))))
  have lX := (K1.out.grew hb2).lt
  clear hb hb2 hb3 k2 k4 AT HB K1
  go_wp2_with fail
  obtain ⟨k2, k4, hb⟩ := KA.out
  clear KA
  generalize w2.alloc _ = w4 at *
  generalize w2.heap.size = X at *
  refine wp_region_held_drew (S := (fun W' => W'.cell? ⟨X, 0, none⟩ = some (.string d.name) ∧ W'.cell? ⟨X, 1, none⟩ = some (.slice fa d.fields.length fc))) (by kernel_rfl) ⟨k4.drew.val 0 rfl, k4.drew.val 1 rfl⟩ (fun hHeld => ?_)
  have k2 := k2.drew
  have hb := hb.drew
  clear k4
  generalize w4.drew = w8 at *
  refine wpAnyH_take (i := 0) (oi := _) (v := ?_) (op_atC rfl) (by kernel_rfl) (by kernel_rfl) (by kernel_rfl) (fun _ _ _ h => h) (Or.inl ⟨by rfl, ?_⟩) hHeld ?_
  rotate_left 1
  focus (intro W hSw; (try dsimp only at hSw); go_simp; (try (with_reducible rfl)))
  (try simp only [Act.put, List.setIfInBounds_toArray, List.set_cons_zero, List.set_cons_succ])
  refine wpAnyH_take (i := 1) (oi := _) (v := ?_) (op_atC rfl) (by kernel_rfl) (by kernel_rfl) (by kernel_rfl) (fun _ _ _ h => h) (Or.inl ⟨by rfl, ?_⟩) hHeld ?_
  rotate_left 1
  focus (intro W hSw; (try dsimp only at hSw); go_simp; (try (with_reducible rfl)))
  (try simp only [Act.put, List.setIfInBounds_toArray, List.set_cons_zero, List.set_cons_succ])
  refine wpAnyH_take (i := 2) (oi := _) (v := ?_) (op_atC rfl) (by kernel_rfl) (by kernel_rfl) (by kernel_rfl) (fun _ _ _ h => h) (Or.inl ⟨by rfl, ?_⟩) hHeld ?_
  rotate_left 1
  focus (intro W hSw; (try dsimp only at hSw); go_simp; (try (with_reducible rfl)))
  (try simp only [Act.put, List.setIfInBounds_toArray, List.set_cons_zero, List.set_cons_succ])
  refine wpAnyH_take (i := 3) (oi := _) (v := ?_) (op_atC rfl) (by kernel_rfl) (by kernel_rfl) (by kernel_rfl) (fun _ _ _ h => h) (Or.inl ⟨by rfl, ?_⟩) hHeld ?_
  rotate_left 1
  focus (intro W hSw; (try dsimp only at hSw); go_simp; (try (with_reducible rfl)))
  (try simp only [Act.put, List.setIfInBounds_toArray, List.set_cons_zero, List.set_cons_succ])
  refine wpAnyH_ready (rs := [4]) (by kernel_rfl) (by simp) ?_
  refine AllReadyH.cons (o := _) (op_atC rfl) (fun Kc hKc => ?_) AllReadyH.nil
  go_simp
  go_at_call 40
  (with_reducible refine (fclone_any w8 w.heap.size _ d.fields (RF.out _ hb) hb.size hn).mono ?_)
  rintro e9 w9 ⟨fv, rfl, ho, hb9⟩
  have lk2 := k2.lt
  have k2 := k2.grew hb9
  have hlo : ∀ g, fv.ownBlock = some g → g ≠ w.heap.size := fun g hg e => by have := (own_ltG ho hg).1; omega
  have ho := own_sub ho hb.size
  have hb := hb.trans (hb9.mono hb.size)
  obtain ⟨ga, gc, hgv⟩ := row_shape ho
  subst hgv
  go_wp2_with fail
  refine hKc.out _ _ ?_ (fun hHeld' => ?_)
  focus exact ⟨(hb9.cell (World.block_lt_of_cell? _ _ hHeld.1)).trans hHeld.1, (hb9.cell (World.block_lt_of_cell? _ _ hHeld.2)).trans hHeld.2⟩
  clear hHeld hb9
  have hHeld := hHeld'
  clear hHeld'
  clear hKc Kc
  (try simp only [Act.put, List.setIfInBounds_toArray, List.set_cons_zero, List.set_cons_succ])
  refine wpAnyH_take (i := 5) (oi := _) (v := ?_) (op_atC rfl) (by kernel_rfl) (by kernel_rfl) (by kernel_rfl) (fun _ _ _ h => h) (Or.inl ⟨by rfl, ?_⟩) hHeld ?_
  rotate_left 1
  focus (intro W hSw; (try dsimp only at hSw); go_simp; (try (with_reducible rfl)))
  (try simp only [Act.put, List.setIfInBounds_toArray, List.set_cons_zero, List.set_cons_succ])
  refine wpAnyH_ready (rs := [6]) (by kernel_rfl) (by simp) ?_
  refine AllReadyH.cons (o := _) (op_atC rfl) (fun Kc hKc => ?_) AllReadyH.nil
  have f0 := k2.frozen 0
  have f1 := k2.frozen 1
  have z0 := k2.val 0 rfl
  have z1 := k2.val 1 rfl
  go_simp
  have hTs := ((Touch.refl (fun x => x = w.heap.size) w9).setCell (p := ⟨w.heap.size, 0, none⟩) rfl (.string d.name)).setCell (p := ⟨w.heap.size, 1, none⟩) rfl (.slice ga d.fields.length gc)
  have K2 := Lib.hid ((k2.set 0 (.string d.name)).set 1 (.slice ga d.fields.length gc))
  have hne : w.heap.size ≠ X := by omega
  refine hKc.out _ _ ?_ (fun hHeld' => ?_)
  focus exact ⟨(World.cell?_setCell_far _ _ _ _ hne).trans ((World.cell?_setCell_far _ _ _ _ hne).trans hHeld.1), (World.cell?_setCell_far _ _ _ _ hne).trans ((World.cell?_setCell_far _ _ _ _ hne).trans hHeld.2)⟩
  have HR := Lib.hid (And.intro (own_touch ho hTs (fun g hg => hlo g hg)) (hb.trans (hTs.below (B := w.heap.size) hb.size (fun q hq => by omega))))
  clear hHeld hTs ho hb k2 z0 z1 f0 f1
  have hHeld := hHeld'
  clear hHeld'
  generalize World.setCell _ _ _ = w10 at *
  clear hKc Kc
  (try simp only [Act.put, List.setIfInBounds_toArray, List.set_cons_zero, List.set_cons_succ])
  refine wpAnyH_ready (rs := [7]) (by kernel_rfl) (by simp) ?_
  refine AllReadyH.cons (o := _) (op_atC rfl) (fun Kc hKc => ?_) AllReadyH.nil
  go_simp
  refine hKc.out _ _ ?_ (fun hHeld' => ?_)
  focus exact hHeld
  clear hKc Kc
  (try simp only [Act.put, List.setIfInBounds_toArray, List.set_cons_zero, List.set_cons_succ])
  refine wpAnyH_done (by kernel_rfl) ?_ _
  clear hHeld hHeld'
  go_wp2
  have z0 := K2.out.val 0 rfl
  have z1 := K2.out.val 1 rfl
  refine bodyPost_ret (v := .tuple #[.agg #[.string d.name, .slice ga d.fields.length gc], .int .i64 0]) (by simp [results, Try.results15, go_sem, z0, z1]) rfl ⟨_, rfl, HR.out.1, HR.out.2⟩
end Go.Proofs.Ytkapnblocimelaa
/- The law ClassesMakes. Condition: the argument reads as classes. -/
namespace Go.Proofs.Ytkapnblocimelaa
open Go.RowKit
set_option linter.unusedVariables false
theorem newE_all : ∀ (l : List ClsD) (i : Nat) (seen : List Nm), (newE i seen l).2 = 0 → ∀ c ∈ l, c.fields.length ≤ 15
  | [], _, _, _, c, hc => by cases hc
  | d :: r, i, seen, h, c, hc => by
    rw [newE] at h
    by_cases e : clsE seen d = 0
    · rw [if_pos e] at h
      rcases List.mem_cons.1 hc with q | q
      · subst q
        unfold clsE at e
        split at e
        · cases e
        · split at e
          · cases e
          · split at e
            · cases e
            · omega
      · exact newE_all r _ _ h c q
    · rw [if_neg e] at h
      exact absurd h e
theorem tabE_zero {l : List ClsD} (h : (tabE l).2 = 0) : tabE l = (0, 0) ∧ ∀ c ∈ l, c.fields.length ≤ 15 := by
  unfold tabE at h ⊢
  split at h
  · cases h
  · rename_i e
    rw [if_neg e]
    exact ⟨newE_zero h, newE_all l 0 [] h⟩
theorem rd_mem {α : Type} {sz B : Nat} {el : World → Nat → Nat → α → Prop} {w : World} {v : Value} {l : List α} (h : RdRow sz el B w v l) {x : α} (hx : x ∈ l) : ∃ b k, el w b k x := by
  obtain ⟨a, c, h1, h2, h3⟩ := h
  obtain ⟨i, hi, rfl⟩ := List.getElem_of_mem hx
  obtain ⟨b, o, _, _, e⟩ := h3 i hi
  exact ⟨b, _, e⟩
theorem okC_of {B : Nat} {w : World} {v : Value} {l : List ClsD} (h : RdRow 2 (ElC B) B w v l) : ∀ c ∈ l, ∀ f ∈ c.fields, I64 f.ty := fun c hc f hf => by
  obtain ⟨_, _, _, v, _, r⟩ := rd_mem h hc
  obtain ⟨_, _, _, _, q⟩ := rd_mem r hf
  exact q
set_option maxRecDepth 100000 in
set_option maxHeartbeats 8000000 in
theorem cmakes_law (v : Value) (cl : List ClsD) (w : World) (h : RdRow 2 (ElC w.heap.size) w.heap.size w v cl) :
    Calls Try.prog 4 #[v] w fun e w' => e = .returned (.bool true) ∧ Below w.heap.size w w' := by
  obtain ⟨a, q, rfl⟩ := rd_shape h
  have hmx : cl.length ≤ maxLen := by obtain ⟨_, _, _, q, _⟩ := h; exact q
  unfold maxLen at hmx
  have RP := Lib.hid (fun W (hb : Below w.heap.size w W) => h.keep hb fun _ _ _ e r => r.keep hb e)
  have OK := Lib.hid (okC_of h)
  have NW := Lib.hid (new_any w w.heap.size _ cl h (Nat.le_refl _))
  clear h
  go_enter Try.func4, Try.ntmps4
  go_wp2_with fail
  refine NW.out.mono ?_
  rintro e w1 ⟨hb1, hcase⟩
  have RC := Lib.hid (rcheck_any w1 w.heap.size _ cl (RP.out w1 hb1) hb1.size)
  have B1 := Lib.hid hb1
  clear hb1 NW
  rcases hcase with ⟨hne, rfl⟩ | ⟨hz, t, tv, m, L, rfl, hT, hL⟩
  · have hne' : ((tabE cl).2 != 0) = true := by simpa using hne
    generalize (tabE cl).1 = n1 at *
    generalize (tabE cl).2 = n2 at *
    clear hne
    go_wp2_with fail
    refine RC.out.mono ?_
    rintro e w2 ⟨rfl, hb2⟩
    have B2 := Lib.hid (B1.out.trans (hb2.mono B1.out.size))
    clear hb2 RC
    go_wp2_with fail
    refine (classed_any _).mono ?_
    rintro e w3 ⟨rfl, hb3⟩
    have B3 := Lib.hid (B2.out.trans (hb3.mono B2.out.size))
    clear hb3
    go_wp2
    go_ret
    exact ⟨by simp, B3.out⟩
  · obtain ⟨hz2, hfl⟩ := tabE_zero hz
    have HFL := Lib.hid hfl
    have hlen : L.length = cl.length := by have := congrArg List.length hL; simpa using this
    have HAT : Hid (∀ i (h : i < L.length) (h2 : i < cl.length), (L[i]'h).1 = cl[i]'h2) := fun i h h2 => by
      have h1 : (L.map (·.1))[i]? = cl[i]? := by rw [hL]
      rw [List.getElem?_map, List.getElem?_eq_getElem h, List.getElem?_eq_getElem h2] at h1
      simpa using h1
    have HT := Lib.hid (fun W (hb : Below w1.heap.size w1 W) => hT.grew hb)
    have HLN := Lib.hid hlen
    rw [hz2] at RC
    clear hz hz2 hfl hlen hT hL
    go_wp2_with fail
    refine RC.out.mono ?_
    rintro e w2 ⟨rfl, hb2⟩
    go_wp2_with fail
    refine (classed_any _).mono ?_
    rintro e w3 ⟨rfl, hb3⟩
    have hb3' := hb2.trans (hb3.mono hb2.size)
    have CN := Lib.hid (count_any w3 _ t m tv L (HT.out _ hb3'))
    rw [HLN.out] at CN
    have B3 := Lib.hid hb3'
    clear hb2 hb3 hb3' RC
    go_wp2_with fail
    refine CN.out.mono ?_
    rintro e w4 ⟨rfl, hw4⟩
    subst hw4
    clear CN
    go_wp2
    go_loopw [8] (fun x wr => ∃ i : Nat, i ≤ cl.length ∧ x = .int .i64 i ∧ Below w1.heap.size w1 wr) (fun x _ => cl.length - (intOf x).toNat)
    case atStart => exact ⟨0, Nat.zero_le _, rfl, B3.out⟩
    case round =>
      obtain ⟨i, hi, rfl, hb⟩ := hrel
      by_cases hlt : i < cl.length
      · have hlt' : (i : Int) < (cl.length : Int) := by omega
        have i1 : (0 : Int) ≤ (i : Int) ∧ (i : Int) < (cl.length : Int) := ⟨by omega, by omega⟩
        have i2 : 0 < cl.length := by omega
        have hiL : i < L.length := by rw [HLN.out]; exact hlt
        have hat := HAT.out i hiL hlt
        have hmem := List.getElem_mem hlt
        have TC := tclass_yes wr _ t m tv L i (HT.out wr hb) hiL (by rw [hat]; exact OK.out _ hmem) (by rw [hat]; have := HFL.out _ hmem; omega)
        rw [hat] at TC
        have HI := Lib.hid (OK.out _ hmem)
        have EL : Hid (∀ W (hb : Below w.heap.size w W), ∃ b o, a = some ⟨b, o, none⟩ ∧ b < w.heap.size ∧ ElC w.heap.size W b (o + i * 2) (cl[i]'hlt)) := fun W hb => rd_at (RP.out W hb) hlt
        have TC := Lib.hid TC
        clear hat hmem hiL
        generalize cl[i] = d at *
        have HBW := Lib.hid hb
        clear hb
        go_wp2_with fail
        refine TC.out.mono ?_
        rintro e w5 ⟨fv, rfl, ho, hb5⟩
        obtain ⟨ga, gc, hfv⟩ := row_shape ho
        subst hfv
        have hb5' := HBW.out.trans (hb5.mono HBW.out.size)
        have hb6 := (Below.refl w5.heap.size w5).alloc (Nat.le_refl _) (.cells #[.string d.name, .slice ga d.fields.length gc] 34)
        have k6 := Blk.new w5 #[.string d.name, .slice ga d.fields.length gc] 34
        have ho6 := own_grewG ho hb6
        have hb6' := hb5'.trans (hb6.mono hb5'.size)
        have KA := Lib.hid (And.intro k6 (And.intro ho6 hb6'))
        clear TC ho hb5 hb5' hb6 k6 ho6 hb6'
        go_wp2_with fail
        obtain ⟨k6, ho6, hb6⟩ := KA.out
        clear KA
        generalize w5.alloc _ = w6 at *
        generalize w5.heap.size = X at *
        have hbw6 := B1.out.trans (hb6.mono B1.out.size)
        obtain ⟨b, o, rfl, _, e1, vf, e2, e3⟩ := EL.out w6 hbw6
        obtain ⟨fa, fc, hvf⟩ := rd_shape e3
        subst hvf
        have y0 := k6.val 0 rfl
        have y1 := k6.val 1 rfl
        have z1 : decide (0 < (cl.length : Int)) = true := by simp; omega
        have hdr := (Below.refl w6.heap.size w6).drew
        have SC := Lib.hid (rsclass_any w6.drew w6.heap.size (.slice ga d.fields.length gc) (.slice fa d.fields.length fc) d d (Nat.le_refl _)
          (own_rd (f := fldC) (by decide) (fun _ => rfl) (own_drew ho6) (Nat.le_refl _) fun g k y hy hq => ⟨hq 0 _ rfl, hq 1 _ rfl, HI.out y hy⟩)
          ((e3.keep (hdr.mono hbw6.size) fun _ _ _ e r => r.keep (hdr.mono hbw6.size) e).mono hbw6.size fun _ _ _ q => q))
        rw [show decide (clsP d = clsP d) = true by simp] at SC
        have HB6 := Lib.hid (hb6.trans (hdr.mono hb6.size))
        have hsz6 := Lib.hid hdr.size
        clear k6 ho6 hb6 hbw6 e3 EL hdr
        go_wp2_with fail
        go_still_tail 8, (by kernel_rfl)
        change wpList _ _ _ _ _ w6.drew
        clear y0 y1 e1 e2
        generalize w6.drew = w7 at *
        go_wp2_with fail
        refine SC.out.mono ?_
        rintro e w8 ⟨rfl, hb8⟩
        have HB8 := Lib.hid (HB6.out.trans (hb8.mono HB6.out.size))
        clear hb8 SC
        go_wp2
        go_roundw
        case rel => exact ⟨i + 1, by omega, by go_num, HB8.out⟩
        case measure => simp [intOf]; omega
      · have hlt' : ¬ (i : Int) < (cl.length : Int) := by omega
        have T1 := Lib.hid (tclass_no wr _ t m tv L cl.length (HT.out wr hb) (by unfold atB; rw [HLN.out]; simp))
        have HBW := Lib.hid hb
        clear hb
        go_wp2_with fail
        refine T1.out.mono ?_
        rintro e w5 ⟨rfl, hb5⟩
        have hb5' := HBW.out.trans (hb5.mono HBW.out.size)
        have T2 := Lib.hid (tclass_no w5 _ t m tv L (-1) (HT.out w5 hb5') (by unfold atB; simp))
        have HB5 := Lib.hid hb5'
        clear hb5 hb5' T1
        go_wp2_with fail
        refine T2.out.mono ?_
        rintro e w6 ⟨rfl, hb6⟩
        have hb6' := HB5.out.trans (hb6.mono HB5.out.size)
        have HE := Lib.hid ((B1.out.trans (hb6'.mono B1.out.size)).alloc (B1.out.trans (hb6'.mono B1.out.size)).size (.cells #[.string ⟨#[]⟩, .slice none 0 0] 34))
        clear hb6 hb6' T2
        go_wp2
        go_ret
        exact ⟨rfl, HE.out⟩
end Go.Proofs.Ytkapnblocimelaa
/- Classes in rows of one's own, and what stays of them when they are written over; append of a foreign row to an empty one of one's own. No condition. -/
namespace Go.Proofs.Ytkapnblocimelaa
open Go.RowKit
set_option linter.unusedVariables false
structure COwn (w : World) (lo : Nat) (v : Value) (l : List (ClsD × Value)) : Prop where
  row : w.ownsRow lo 34 2 v l.length (l.flatMap clsC)
  inner : ∀ x ∈ l, w.ownsRow lo 72 2 x.2 x.1.fields.length (x.1.fields.flatMap fldC)
  apart : ∀ x ∈ l, ∀ g, x.2.ownBlock = some g → v.ownBlock ≠ some g
section
variable {w w' : World} {lo : Nat} {v v' : Value}
theorem COwn.nil (w : World) (lo : Nat) : COwn w lo (.slice none 0 0) [] := ⟨⟨by simp, .inl ⟨rfl, rfl⟩⟩, fun x hx => (by cases hx), fun x hx => (by cases hx)⟩
theorem COwn.grew {l : List (ClsD × Value)} (h : COwn w lo v l) (hb : Below w.heap.size w w') : COwn w' lo v l := ⟨own_grewG h.row hb, fun x hx => own_grewG (h.inner x hx) hb, h.apart⟩
theorem COwn.touch {R : Nat → Prop} {l : List (ClsD × Value)} (h : COwn w lo v l) (hT : Touch R w w') (hr : ∀ g, lo ≤ g → g < w.heap.size → ¬ R g) : COwn w' lo v l :=
  ⟨own_touch h.row hT (fun g hg => hr g (own_ltG h.row hg).1 (own_ltG h.row hg).2), fun x hx => own_touch (h.inner x hx) hT (fun g hg => hr g (own_ltG (h.inner x hx) hg).1 (own_ltG (h.inner x hx) hg).2), h.apart⟩
theorem COwn.sub {lo' : Nat} {l : List (ClsD × Value)} (h : COwn w lo v l) (hl : lo' ≤ lo) : COwn w lo' v l := ⟨own_sub h.row hl, fun x hx => own_sub (h.inner x hx) hl, h.apart⟩
theorem apart_new {b : Nat} {e : TypeId} {size : Nat} {u : Value} {n : Nat} {xs : List Value} {q : Nat} (h : w.ownsRow b e size u n xs) (hv : v'.ownBlock = some q) (hat : v.ownBlock = some q ∨ q = w.heap.size) (hne : ∀ g, u.ownBlock = some g → v.ownBlock ≠ some g) : ∀ g, u.ownBlock = some g → v'.ownBlock ≠ some g := by
  intro g hg e
  rcases hat with h1 | h1
  · rw [hv] at e; exact hne g hg (h1.trans e)
  · rw [hv] at e
    have := (own_ltG h hg).2
    have := Option.some.inj e
    omega
theorem COwn.app {l : List (ClsD × Value)} {x : ClsD × Value} {q : Nat} (h : COwn w lo v l) (hx : w.ownsRow lo 72 2 x.2 x.1.fields.length (x.1.fields.flatMap fldC)) (hap : ∀ g, x.2.ownBlock = some g → v.ownBlock ≠ some g)
    (hg : w.grownBy w' v.ownBlock) (hown : w'.ownsRow lo 34 2 v' (l.length + 1) (l.flatMap clsC ++ clsC x)) (hv : v'.ownBlock = some q) (hat : v.ownBlock = some q ∨ q = w.heap.size) : COwn w' lo v' (l ++ [x]) := by
  have hi : ∀ y ∈ l ++ [x], w.ownsRow lo 72 2 y.2 y.1.fields.length (y.1.fields.flatMap fldC) ∧ ∀ g, y.2.ownBlock = some g → v.ownBlock ≠ some g := by
    intro y hy
    rcases List.mem_append.1 hy with h1 | h1
    · exact ⟨h.inner y h1, h.apart y h1⟩
    · obtain rfl : y = x := by simpa using h1
      exact ⟨hx, hap⟩
  exact ⟨by rw [List.flatMap_append, List.length_append]; simpa using hown, fun y hy => own_kept (hi y hy).1 hg (hi y hy).2, fun y hy => apart_new (hi y hy).1 hv hat (hi y hy).2⟩
end
/-- block g holds at least N cells that may be written, and those of H -/
def HdB (w : World) (g : Nat) (T : TypeId) (N : Nat) (H : Nat → Option Value) : Prop := ∃ cur, Blk w g cur T ∧ N ≤ cur.size ∧ ∀ j v, H j = some v → cur[j]? = some v
theorem HdB.set {w : World} {g : Nat} {T : TypeId} {N : Nat} {H : Nat → Option Value} (h : HdB w g T N H) (b j : Nat) (x : Value) (hj : b = g → H j = none) : HdB (w.setCell ⟨b, j, none⟩ x) g T N H := by
  obtain ⟨cur, h1, h2, h3⟩ := h
  by_cases e : b = g
  · subst e
    refine ⟨cur.setIfInBounds j x, h1.set j x, by simpa using h2, fun i v hv => ?_⟩
    have hne : j ≠ i := by
      rintro rfl
      rw [hj rfl] at hv
      cases hv
    rw [Array.getElem?_setIfInBounds_ne hne]
    exact h3 i v hv
  · exact ⟨cur, h1.other _ x (fun q => e q.symm), h2, h3⟩
theorem HdB.cell {w : World} {g : Nat} {T : TypeId} {N : Nat} {H : Nat → Option Value} (h : HdB w g T N H) {j : Nat} {v : Value} (hv : H j = some v) : w.cell? ⟨g, j, none⟩ = some v := by
  obtain ⟨cur, h1, h2, h3⟩ := h
  exact h1.val j (h3 j v hv)
theorem HdB.room {w : World} {g : Nat} {T : TypeId} {N : Nat} {H : Nat → Option Value} (h : HdB w g T N H) {j : Nat} (hj : j < N) : ∃ v, w.cell? ⟨g, j, none⟩ = some v := by
  obtain ⟨cur, h1, h2, h3⟩ := h
  exact ⟨cur[j]'(by omega), h1.val j (Array.getElem?_eq_getElem (by omega))⟩
theorem HdB.frozen {w : World} {g : Nat} {T : TypeId} {N : Nat} {H : Nat → Option Value} (h : HdB w g T N H) (j : Nat) : w.frozen? ⟨g, j, none⟩ = false := by
  obtain ⟨cur, h1, h2, h3⟩ := h
  exact h1.frozen j
theorem HdB.touch {R : Nat → Prop} {w w' : World} {g : Nat} {T : TypeId} {N : Nat} {H : Nat → Option Value} (h : HdB w g T N H) (hT : Touch R w w') (hr : ¬ R g) : HdB w' g T N H := by
  obtain ⟨cur, h1, h2, h3⟩ := h
  exact ⟨cur, h1.touch hT hr, h2, h3⟩
theorem hdb_of {w : World} {lo : Nat} {T : TypeId} {sz : Nat} {v : Value} {n : Nat} {xs : List Value} {g : Nat} (h : w.ownsRow lo T sz v n xs) (hg : v.ownBlock = some g) {H : Nat → Option Value} (hH : ∀ j u, H j = some u → xs[j]? = some u) : HdB w g T (n * sz) H := by
  rcases h.2 with ⟨h1, _⟩ | ⟨q, cap, cur, a1, a2, a3, a4, a5, a6, a7⟩
  · rw [h1] at hg; cases hg
  · rw [a1] at hg
    obtain rfl : q = g := Option.some.inj hg
    refine ⟨cur, a3, ?_, fun j u hu => ?_⟩
    · rw [a6]; exact Nat.mul_le_mul_right sz a4
    · have h1 := hH j u hu
      have h5 := (List.getElem?_eq_some_iff.1 h1).1
      rw [← a7, List.length_take] at h5
      rw [← a7, List.getElem?_take, if_pos (by omega)] at h1
      simpa using h1
def hdC (l : List (ClsD × Value)) (j : Nat) : Option Value := if j % 2 = 1 then (l[j / 2]?).map (·.2) else none
theorem hdC_in {l : List (ClsD × Value)} {j : Nat} {u : Value} (h : hdC l j = some u) : (l.flatMap clsC)[j]? = some u := by
  unfold hdC at h
  split at h
  next e =>
    cases hq : l[j / 2]? with
    | none => rw [hq] at h; cases h
    | some x =>
      rw [hq] at h
      obtain ⟨hi, hx⟩ := List.getElem?_eq_some_iff.1 hq
      have := flat_at clsC 2 (fun _ => rfl) l (j / 2) 1 hi (by decide)
      rw [show j / 2 * 2 + 1 = j by omega, hx] at this
      rw [this]
      simpa [clsC] using h
  next e => cases h
theorem hdC_at {l : List (ClsD × Value)} {i : Nat} (hi : i < l.length) : hdC l (i * 2 + 1) = some (l[i].2) := by
  unfold hdC
  rw [if_pos (by omega), show (i * 2 + 1) / 2 = i by omega, List.getElem?_eq_getElem hi]
  rfl
theorem hdC_no {l : List (ClsD × Value)} {i : Nat} : hdC l (i * 2) = none := by unfold hdC; rw [if_neg (by omega)]
/-- an inner row: its block is not the one that holds the headers, and may be written -/
def InB (w : World) (lo hi : Nat) (q0 u : Value) (T : TypeId) (N : Nat) : Prop := ∀ g, u.ownBlock = some g → lo ≤ g ∧ g < hi ∧ q0.ownBlock ≠ some g ∧ HdB w g T N (fun _ => none)
theorem InB.set {w : World} {lo hi : Nat} {q0 u : Value} {T : TypeId} {N : Nat} (h : InB w lo hi q0 u T N) (b j : Nat) (x : Value) : InB (w.setCell ⟨b, j, none⟩ x) lo hi q0 u T N :=
  fun g hg => ⟨(h g hg).1, (h g hg).2.1, (h g hg).2.2.1, (h g hg).2.2.2.set b j x fun _ => rfl⟩
theorem InB.touch {R : Nat → Prop} {w w' : World} {lo hi : Nat} {q0 u : Value} {T : TypeId} {N : Nat} (h : InB w lo hi q0 u T N) (hT : Touch R w w') (hr : ∀ g, lo ≤ g → g < hi → ¬ R g) : InB w' lo hi q0 u T N :=
  fun g hg => ⟨(h g hg).1, (h g hg).2.1, (h g hg).2.2.1, (h g hg).2.2.2.touch hT (hr g (h g hg).1 (h g hg).2.1)⟩
/-- the rows that are written over, class by class: from class n on the headers are as they were -/
structure QC (w : World) (lo hi : Nat) (q0 : Value) (lc : List (ClsD × Value)) (n : Nat) : Prop where
  r0 : ∀ g, q0.ownBlock = some g → lo ≤ g ∧ g < hi ∧ HdB w g 34 (lc.length * 2) (fun j => if n * 2 ≤ j then hdC lc j else none)
  i0 : ∀ i (h : i < lc.length), InB w lo hi q0 lc[i].2 72 (lc[i].1.fields.length * 2)
theorem QC.set {w : World} {lo hi n : Nat} {q0 : Value} {lc : List (ClsD × Value)} (h : QC w lo hi q0 lc n) (b j : Nat) (x : Value) (h0 : q0.ownBlock ≠ some b) : QC (w.setCell ⟨b, j, none⟩ x) lo hi q0 lc n :=
  ⟨fun g hg => ⟨(h.r0 g hg).1, (h.r0 g hg).2.1, (h.r0 g hg).2.2.set b j x fun e => absurd (e ▸ hg) h0⟩, fun i hi => (h.i0 i hi).set b j x⟩
theorem HdB.less {w : World} {g : Nat} {T : TypeId} {N : Nat} {H H' : Nat → Option Value} (h : HdB w g T N H) (hl : ∀ j v, H' j = some v → H j = some v) : HdB w g T N H' := by
  obtain ⟨cur, h1, h2, h3⟩ := h
  exact ⟨cur, h1, h2, fun j v hv => h3 j v (hl j v hv)⟩
theorem QC.next {w : World} {lo hi n : Nat} {q0 : Value} {lc : List (ClsD × Value)} (h : QC w lo hi q0 lc n) : QC w lo hi q0 lc (n + 1) :=
  ⟨fun g hg => ⟨(h.r0 g hg).1, (h.r0 g hg).2.1, (h.r0 g hg).2.2.less fun j v hv => by
    split at hv
    next e => rw [if_pos (by omega)]; exact hv
    next _ => cases hv⟩, h.i0⟩
theorem QC.head {w : World} {lo hi n : Nat} {q0 : Value} {lc : List (ClsD × Value)} (h : QC w lo hi q0 lc (n + 1)) (b j : Nat) (x : Value) (hj : j < (n + 1) * 2) : QC (w.setCell ⟨b, j, none⟩ x) lo hi q0 lc (n + 1) :=
  ⟨fun g hg => ⟨(h.r0 g hg).1, (h.r0 g hg).2.1, (h.r0 g hg).2.2.set b j x fun _ => if_neg (by omega)⟩, fun i hi => (h.i0 i hi).set b j x⟩
theorem QC.touch {R : Nat → Prop} {w w' : World} {lo hi n : Nat} {q0 : Value} {lc : List (ClsD × Value)} (h : QC w lo hi q0 lc n) (hT : Touch R w w') (hr : ∀ g, lo ≤ g → g < hi → ¬ R g) : QC w' lo hi q0 lc n :=
  ⟨fun g hg => ⟨(h.r0 g hg).1, (h.r0 g hg).2.1, (h.r0 g hg).2.2.touch hT (hr g (h.r0 g hg).1 (h.r0 g hg).2.1)⟩, fun i hi => (h.i0 i hi).touch hT hr⟩
theorem qc_of {w : World} {lo : Nat} {q0 : Value} {lc : List (ClsD × Value)} (hC : COwn w lo q0 lc) : QC w lo w.heap.size q0 lc 0 := by
  refine ⟨fun g hg => ⟨(own_ltG hC.row hg).1, (own_ltG hC.row hg).2, hdb_of hC.row hg fun j u hu => hdC_in (by simpa using hu)⟩, fun i hi g hg => ?_⟩
  have hm := List.getElem_mem hi
  have hq := own_ltG (hC.inner _ hm) hg
  exact ⟨hq.1, hq.2, hC.apart _ hm g hg, hdb_of (hC.inner _ hm) hg fun j u hu => by cases hu⟩
theorem HdB.grew {w w' : World} {g : Nat} {T : TypeId} {N : Nat} {H : Nat → Option Value} (h : HdB w g T N H) (hb : Below w.heap.size w w') : HdB w' g T N H := by
  obtain ⟨cur, h1, h2, h3⟩ := h
  exact ⟨cur, h1.grew hb, h2, h3⟩
theorem QC.grew {w w' : World} {lo hi n : Nat} {q0 : Value} {lc : List (ClsD × Value)} (h : QC w lo hi q0 lc n) (hb : Below w.heap.size w w') : QC w' lo hi q0 lc n :=
  ⟨fun g hg => ⟨(h.r0 g hg).1, (h.r0 g hg).2.1, (h.r0 g hg).2.2.grew hb⟩, fun i hi g hg => ⟨(h.i0 i hi g hg).1, (h.i0 i hi g hg).2.1, (h.i0 i hi g hg).2.2.1, (h.i0 i hi g hg).2.2.2.grew hb⟩⟩
theorem idx_of (n : Int) (m : Nat) (h0 : 0 < m) (h : m ≤ 1000) : ∃ j : Nat, j < m ∧ wrap64 ((IntKind.u64.wrap n).tmod (m : Int)) = (j : Int) := by
  have h1 : 0 ≤ IntKind.u64.wrap n := wrap_u64_nonneg n
  generalize IntKind.u64.wrap n = x at *
  rw [Int.tmod_eq_emod_of_nonneg h1]
  have h2 := Int.emod_nonneg x (show (m : Int) ≠ 0 by omega)
  have h3 := Int.emod_lt_of_pos x (show 0 < (m : Int) by omega)
  generalize x % (m : Int) = y at *
  refine ⟨y.toNat, by omega, ?_⟩
  show Go.RowKit.wrap64 y = _
  unfold Go.RowKit.wrap64
  omega
theorem RdRow.mapK {α β : Type} {sz B : Nat} {el : World → Nat → Nat → β → Prop} {f : α → β} {w : World} {v : Value} {l : List α} (h : RdRow sz (fun w b k x => el w b k (f x)) B w v l) : RdRow sz el B w v (l.map f) := by
  obtain ⟨a, c, h1, h2, h3⟩ := h
  refine ⟨a, c, by rw [List.length_map]; exact h1, by rw [List.length_map]; exact h2, fun i hi => ?_⟩
  obtain ⟨b, o, e1, e2, e3⟩ := h3 i (by simpa using hi)
  exact ⟨b, o, e1, e2, by simpa using e3⟩
theorem cls_own {w : World} {lo : Nat} {u0 : Value} {lc : List (ClsD × Value)} {cl : List ClsD} (hC : COwn w lo u0 lc) (hc : lc.map (·.1) = cl) (hI : ∀ c ∈ cl, ∀ f ∈ c.fields, I64 f.ty) : RdRow 2 (ElC w.heap.size) w.heap.size w u0 cl := by
  rw [← hc]
  refine RdRow.mapK (own_rd (f := clsC) (by decide) (fun _ => rfl) hC.row (Nat.le_refl _) fun g k x hx hj => ?_)
  have hx' : x.1 ∈ cl := by rw [← hc]; exact List.mem_map.2 ⟨x, hx, rfl⟩
  exact ⟨hj 0 _ rfl, x.2, hj 1 _ rfl, own_rd (f := fldC) (by decide) (fun _ => rfl) (hC.inner x hx) (Nat.le_refl _) fun g k y hy hq => ⟨hq 0 _ rfl, hq 1 _ rfl, hI _ hx' y hy⟩⟩
/-- append of a slice of somebody else's to an empty one of one's own -/
theorem app_own0 {e t : TypeId} {sz bytes : Nat} {z : Value} {i0 : TypeInfo} (ht : Try.prog.underlying t = some (.slice e)) (hi : Try.prog.info? e = some i0) (hz : i0.zero = some z) (hs : i0.size = sz) (hb : i0.bytes = bytes) (hzs : z.cells.size = sz) (hsz : 0 < sz)
    (w : World) (ty : TypeId) (lo G : Nat) (hlo : lo ≤ w.heap.size) (hlG : lo ≤ G) (hown : w.ownsRow lo e sz (.slice (some ⟨G, 0, none⟩) 0 0) 0 []) (a : Option Addr) (n c : Nat) (news : List Value) (hl : news.length = n * sz) (h1 : ∀ u ∈ news, u.oneCell' = true) (hnews : ∀ j u, news[j]? = some u → ∃ ad, a = some ad ∧ w.cell? (ad.add j) = some u) (hn : n ≤ 1000) (hby : bytes ≤ 1000) :
    ∃ v' w', (Builtin.append_ #[t, t] ty #[.slice (some ⟨G, 0, none⟩) 0 0, .slice a n c]).run Try.prog w = .ok v' w' ∧ w'.ownsRow lo e sz v' n news ∧ Below lo w w' := by
  cases a with
  | none =>
    have hn0 : n = 0 := by
      rcases Nat.eq_zero_or_pos n with h | h
      · exact h
      · have h2 : 0 < news.length := by rw [hl]; exact Nat.mul_pos h hsz
        obtain ⟨ad, h3, _⟩ := hnews 0 _ (List.getElem?_eq_getElem h2)
        cases h3
    subst hn0
    have hnn : news = [] := List.eq_nil_of_length_eq_zero (by omega)
    subst hnn
    refine ⟨.slice (some ⟨G, 0, none⟩) 0 0, w, ?_, hown, Below.refl _ _⟩
    have ht' := run_underlying (P := Try.prog) (w := w) ht
    simp [Builtin.append_, ht', sizeOf, typeInfo, hi, Builtin.lenOf, Builtin.firstCells, storeCells]
  | some ad =>
    obtain ⟨v', w', hr, h2, h3, _⟩ := run_append_own_at (P := Try.prog) w lo t ty e i0 z sz bytes ht hi hz hs hb hzs hsz (.slice (some ⟨G, 0, none⟩) 0 0) 0 [] hown ad n c news hl (fun j u hu => by
      obtain ⟨ad', e1, e2⟩ := hnews j u hu
      obtain rfl := Option.some.inj e1
      exact e2) h1 (by unfold maxLen; omega) (by
        have : (0 + n) * bytes ≤ 1000 * 1000 := Nat.mul_le_mul (by omega) hby
        omega) hlo
    exact ⟨v', w', hr, by simpa using h2, (Below.refl _ _).grown h3 hlo (fun k hk => by have : G = k := Option.some.inj hk; omega)⟩
theorem step_app_own {ops : Array Oper} {o : Oper} {a : Act} {w : World} {K : Act → World → Prop} {Q : Exit → Act → World → Prop} {E : Prop} {t : TypeId} {vs vin : Value} {R : Value → World → Prop} (hgd : o.guard = none) (s x : Operand)
    (ho : o.op = .call { callee := .builtin .append, args := #[s, x], argTypes := #[t, t] }) (hs : a.eval s = vs) (hx : a.eval x = vin)
    (hr : ∃ v' w', (Builtin.append_ #[t, t] o.type #[vs, vin]).run Try.prog w = .ok v' w' ∧ R v' w')
    (h : ∀ v' w', R v' w' → K (a.put o.dst v') w') : if Region.wanted o (yielded ops a.tmps) = true then Oper.wp Try.prog o a w K Q else E := by
  have hw : Region.wanted o (yielded ops a.tmps) = true := by simp [Region.wanted, hgd]
  rw [if_pos hw]
  obtain ⟨v', w', h1, h2⟩ := hr
  unfold Oper.wp execOp
  simp only [ho, resolve, invoke, builtin, Sem.run_bind, Sem.run_pure, Result.andThen_ok, List.map_toArray, List.map_cons, List.map_nil, hs, hx, h1]
  exact h v' w' h2
end Go.Proofs.Ytkapnblocimelaa
