/- Texts of this seat, one behind the other: each says at its head what it holds. No condition of its own. -/
import Derived.Test.YtkapnblocimelaaGClassesSame05
/- Table.Class: a class, in memory of its own. Condition: the table is there. -/
namespace Go.Proofs.Ytkapnblocimelaa
open Go.RowKit
set_option linter.unusedVariables false
set_option maxRecDepth 100000 in
set_option maxHeartbeats 1000000 in
theorem tclass_no (w : World) (lo t m : Nat) (v : Value) (l : List (ClsD × Value × Nat)) (i : Int) (h : TabS w lo t v m l) (hi : atB l.length i = false) :
    Calls Try.prog 15 #[.pointer (some ⟨t, 0, none⟩), .int .i64 i] w fun e w' => e = .returned (.tuple #[.agg #[.string ⟨#[]⟩, .slice none 0 0], .int .i64 21]) ∧ Below w.heap.size w w' := by
  have hb := (Below.refl w.heap.size w).alloc (Nat.le_refl _) (.cells #[.string ⟨#[]⟩, .slice none 0 0] 34)
  have k1 := Blk.new w #[.string ⟨#[]⟩, .slice none 0 0] 34
  have AT := Lib.hid (at_no _ lo t m v l i (h.grew hb) hi)
  have HB := Lib.hid hb
  have K1 := Lib.hid k1
  clear h hb hi k1
  go_enter Try.func15, Try.ntmps15
  go_wp2_with fail
  refine AT.out.mono ?_
  rintro e w2 ⟨rfl, hb2⟩
  have k1 := K1.out.grew hb2
  have hb := (HB.out.trans (hb2.mono HB.out.size))
  have z0 := k1.val 0 rfl
  have z1 := k1.val 1 rfl
  have f0 := k1.frozen 0
  have f1 := k1.frozen 1
  have hl := k1.lt
  have hT := ((Touch.refl (fun x => x = w.heap.size) w2).setCell (p := ⟨w.heap.size, 0, none⟩) rfl (.string ⟨#[]⟩)).setCell (p := ⟨w.heap.size, 1, none⟩) rfl (.slice none 0 0)
  have K3 := Lib.hid (((k1.set 0 (.string ⟨#[]⟩)).set 1 (.slice none 0 0)).alloc (.cells #[.string ⟨#[]⟩, .slice none 0 0, .map none] 80))
  have HE0 := Lib.hid (hb.trans (hT.below (B := w.heap.size) hb.size (fun q hq => by omega)))
  have HE := Lib.hid (HE0.out.alloc HE0.out.size (.cells #[.string ⟨#[]⟩, .slice none 0 0, .map none] 80))
  clear k1 hb hb2 hT
  go_wp2
  clear z0 z1
  have z0 := K3.out.val 0 rfl
  have z1 := K3.out.val 1 rfl
  refine bodyPost_ret (v := .tuple #[.agg #[.string ⟨#[]⟩, .slice none 0 0], .int .i64 21]) (by simp [results, Try.results15, go_sem, z0, z1]) rfl ⟨rfl, HE.out⟩
set_option maxRecDepth 100000 in
set_option maxHeartbeats 4000000 in
theorem tclass_yes (w : World) (lo t m : Nat) (v : Value) (l : List (ClsD × Value × Nat)) (i : Nat) (h : TabS w lo t v m l) (hi : i < l.length) (hI : ∀ f ∈ l[i].1.fields, I64 f.ty) (hn : l[i].1.fields.length ≤ 1000) :
    Calls Try.prog 15 #[.pointer (some ⟨t, 0, none⟩), .int .i64 i] w fun e w' => ∃ fv, e = .returned (.tuple #[.agg #[.string l[i].1.name, fv], .int .i64 0]) ∧ w'.ownsRow w.heap.size 72 2 fv l[i].1.fields.length (l[i].1.fields.flatMap fldC) ∧ Below w.heap.size w w' := by
  have hb := (Below.refl w.heap.size w).alloc (Nat.le_refl _) (.cells #[.string ⟨#[]⟩, .slice none 0 0] 34)
  have k1 := Blk.new w #[.string ⟨#[]⟩, .slice none 0 0] 34
  have AT := Lib.hid (at_yes _ lo t m v l i (h.grew hb) hi)
  obtain ⟨g, cap, hv, c0, c1, c2, fa, fc, hfv⟩ := rows_at h.rows hi
  have hin := (h.rows.inner _ (List.getElem_mem hi)).1
  rw [hfv] at AT hin
  generalize l[i].1 = d at *
  generalize l[i].2.2 = mi at *
  have hrd : RdRow 2 ElF w.heap.size w (.slice fa d.fields.length fc) d.fields := own_rd (f := fldC) (by decide) (fun _ => rfl) hin (Nat.le_refl _) fun g k y hy hq => ⟨hq 0 _ rfl, hq 1 _ rfl, hI y hy⟩
  have RF := Lib.hid (fun W (hb : Below w.heap.size w W) => hrd.keep hb fun _ _ _ e r => r.keep hb e)
  have HB := Lib.hid hb
  have K1 := Lib.hid k1
  clear h hb hfv hi k1 hv c0 c1 c2 hin hrd hI
  go_enter Try.func15, Try.ntmps15
  go_wp2_with fail
  refine AT.out.mono ?_
  rintro e w2 ⟨rfl, hb2⟩
  have hb := (HB.out.trans (hb2.mono HB.out.size))
  have hb3 := (Below.refl w2.heap.size w2).alloc (Nat.le_refl _) (.cells #[.string d.name, .slice fa d.fields.length fc, .map (some mi)] 80)
  have k2 := (K1.out.grew hb2).grew hb3
  have k4 := Blk.new w2 #[.string d.name, .slice fa d.fields.length fc, .map (some mi)] 80
  have KA := Lib.hid (And.intro k2 (And.intro k4 (hb.trans (hb3.mono hb.size))))
  have lX := (K1.out.grew hb2).lt
  clear hb hb2 hb3 k2 k4 AT HB K1
  go_wp2_with fail
  obtain ⟨k2, k4, hb⟩ := KA.out
  clear KA
  generalize w2.alloc _ = w4 at *
  generalize w2.heap.size = X at *
  refine wp_region_held_drew (S := (fun W' => W'.cell? ⟨X, 0, none⟩ = some (.string d.name) ∧ W'.cell? ⟨X, 1, none⟩ = some (.slice fa d.fields.length fc))) (by kernel_rfl) ⟨k4.drew.val 0 rfl, k4.drew.val 1 rfl⟩ (fun hHeld => ?_)
  have k2 := k2.drew
  have hb := hb.drew
  clear k4
  generalize w4.drew = w8 at *
  refine wpAnyH_take (i := 0) (oi := _) (v := ?_) (op_atC rfl) (by kernel_rfl) (by kernel_rfl) (by kernel_rfl) (fun _ _ _ h => h) (Or.inl ⟨by rfl, ?_⟩) hHeld ?_
  rotate_left 1
  focus (intro W hSw; (try dsimp only at hSw); go_simp; (try (with_reducible rfl)))
  (try simp only [Act.put, List.setIfInBounds_toArray, List.set_cons_zero, List.set_cons_succ])
  refine wpAnyH_take (i := 1) (oi := _) (v := ?_) (op_atC rfl) (by kernel_rfl) (by kernel_rfl) (by kernel_rfl) (fun _ _ _ h => h) (Or.inl ⟨by rfl, ?_⟩) hHeld ?_
  rotate_left 1
  focus (intro W hSw; (try dsimp only at hSw); go_simp; (try (with_reducible rfl)))
  (try simp only [Act.put, List.setIfInBounds_toArray, List.set_cons_zero, List.set_cons_succ])
  refine wpAnyH_take (i := 2) (oi := _) (v := ?_) (op_atC rfl) (by kernel_rfl) (by kernel_rfl) (by kernel_rfl) (fun _ _ _ h => h) (Or.inl ⟨by rfl, ?_⟩) hHeld ?_
  rotate_left 1
  focus (intro W hSw; (try dsimp only at hSw); go_simp; (try (with_reducible rfl)))
  (try simp only [Act.put, List.setIfInBounds_toArray, List.set_cons_zero, List.set_cons_succ])
  refine wpAnyH_take (i := 3) (oi := _) (v := ?_) (op_atC rfl) (by kernel_rfl) (by kernel_rfl) (by kernel_rfl) (fun _ _ _ h => h) (Or.inl ⟨by rfl, ?_⟩) hHeld ?_
  rotate_left 1
  focus (intro W hSw; (try dsimp only at hSw); go_simp; (try (with_reducible rfl)))
  (try simp only [Act.put, List.setIfInBounds_toArray, List.set_cons_zero, List.set_cons_succ])
  refine wpAnyH_ready (rs := [4]) (by kernel_rfl) (by simp) ?_
  refine AllReadyH.cons (o := _) (op_atC rfl) (fun Kc hKc => ?_) AllReadyH.nil
  go_simp
  go_at_call 40
  (with_reducible refine (fclone_any w8 w.heap.size _ d.fields (RF.out _ hb) hb.size hn).mono ?_)
  rintro e9 w9 ⟨fv, rfl, ho, hb9⟩
  have lk2 := k2.lt
  have k2 := k2.grew hb9
  have hlo : ∀ g, fv.ownBlock = some g → g ≠ w.heap.size := fun g hg e => by have := (own_ltG ho hg).1; omega
  have ho := own_sub ho hb.size
  have hb := hb.trans (hb9.mono hb.size)
  obtain ⟨ga, gc, hgv⟩ := row_shape ho
  subst hgv
  go_wp2_with fail
  refine hKc.out _ _ ?_ (fun hHeld' => ?_)
  focus exact ⟨(hb9.cell (World.block_lt_of_cell? _ _ hHeld.1)).trans hHeld.1, (hb9.cell (World.block_lt_of_cell? _ _ hHeld.2)).trans hHeld.2⟩
  clear hHeld hb9
  have hHeld := hHeld'
  clear hHeld'
  clear hKc Kc
  (try simp only [Act.put, List.setIfInBounds_toArray, List.set_cons_zero, List.set_cons_succ])
  refine wpAnyH_take (i := 5) (oi := _) (v := ?_) (op_atC rfl) (by kernel_rfl) (by kernel_rfl) (by kernel_rfl) (fun _ _ _ h => h) (Or.inl ⟨by rfl, ?_⟩) hHeld ?_
  rotate_left 1
  focus (intro W hSw; (try dsimp only at hSw); go_simp; (try (with_reducible rfl)))
  (try simp only [Act.put, List.setIfInBounds_toArray, List.set_cons_zero, List.set_cons_succ])
  refine wpAnyH_ready (rs := [6]) (by kernel_rfl) (by simp) ?_
  refine AllReadyH.cons (o := _) (op_atC rfl) (fun Kc hKc => ?_) AllReadyH.nil
  have f0 := k2.frozen 0
  have f1 := k2.frozen 1
  have z0 := k2.val 0 rfl
  have z1 := k2.val 1 rfl
  go_simp
  have hTs := ((Touch.refl (fun x => x = w.heap.size) w9).setCell (p := ⟨w.heap.size, 0, none⟩) rfl (.string d.name)).setCell (p := ⟨w.heap.size, 1, none⟩) rfl (.slice ga d.fields.length gc)
  have K2 := Lib.hid ((k2.set 0 (.string d.name)).set 1 (.slice ga d.fields.length gc))
  have hne : w.heap.size ≠ X := by omega
  refine hKc.out _ _ ?_ (fun hHeld' => ?_)
  focus exact ⟨(World.cell?_setCell_far _ _ _ _ hne).trans ((World.cell?_setCell_far _ _ _ _ hne).trans hHeld.1), (World.cell?_setCell_far _ _ _ _ hne).trans ((World.cell?_setCell_far _ _ _ _ hne).trans hHeld.2)⟩
  have HR := Lib.hid (And.intro (own_touch ho hTs (fun g hg => hlo g hg)) (hb.trans (hTs.below (B := w.heap.size) hb.size (fun q hq => by omega))))
  clear hHeld hTs ho hb k2 z0 z1 f0 f1
  have hHeld := hHeld'
  clear hHeld'
  generalize World.setCell _ _ _ = w10 at *
  clear hKc Kc
  (try simp only [Act.put, List.setIfInBounds_toArray, List.set_cons_zero, List.set_cons_succ])
  refine wpAnyH_ready (rs := [7]) (by kernel_rfl) (by simp) ?_
  refine AllReadyH.cons (o := _) (op_atC rfl) (fun Kc hKc => ?_) AllReadyH.nil
  go_simp
  refine hKc.out _ _ ?_ (fun hHeld' => ?_)
  focus exact hHeld
  clear hKc Kc
  (try simp only [Act.put, List.setIfInBounds_toArray, List.set_cons_zero, List.set_cons_succ])
  refine wpAnyH_done (by kernel_rfl) ?_ _
  clear hHeld hHeld'
  go_wp2
  have z0 := K2.out.val 0 rfl
  have z1 := K2.out.val 1 rfl
  refine bodyPost_ret (v := .tuple #[.agg #[.string d.name, .slice ga d.fields.length gc], .int .i64 0]) (by simp [results, Try.results15, go_sem, z0, z1]) rfl ⟨_, rfl, HR.out.1, HR.out.2⟩
end Go.Proofs.Ytkapnblocimelaa
/- The law ClassesMakes. Condition: the argument reads as classes. -/
namespace Go.Proofs.Ytkapnblocimelaa
open Go.RowKit
set_option linter.unusedVariables false
theorem newE_all : ∀ (l : List ClsD) (i : Nat) (seen : List Nm), (newE i seen l).2 = 0 → ∀ c ∈ l, c.fields.length ≤ 15
  | [], _, _, _, c, hc => by cases hc
  | d :: r, i, seen, h, c, hc => by
    rw [newE] at h
    by_cases e : clsE seen d = 0
    · rw [if_pos e] at h
      rcases List.mem_cons.1 hc with q | q
      · subst q
        unfold clsE at e
        split at e
        · cases e
        · split at e
          · cases e
          · split at e
            · cases e
            · omega
      · exact newE_all r _ _ h c q
    · rw [if_neg e] at h
      exact absurd h e
theorem tabE_zero {l : List ClsD} (h : (tabE l).2 = 0) : tabE l = (0, 0) ∧ ∀ c ∈ l, c.fields.length ≤ 15 := by
  unfold tabE at h ⊢
  split at h
  · cases h
  · rename_i e
    rw [if_neg e]
    exact ⟨newE_zero h, newE_all l 0 [] h⟩
theorem rd_mem {α : Type} {sz B : Nat} {el : World → Nat → Nat → α → Prop} {w : World} {v : Value} {l : List α} (h : RdRow sz el B w v l) {x : α} (hx : x ∈ l) : ∃ b k, el w b k x := by
  obtain ⟨a, c, h1, h2, h3⟩ := h
  obtain ⟨i, hi, rfl⟩ := List.getElem_of_mem hx
  obtain ⟨b, o, _, _, e⟩ := h3 i hi
  exact ⟨b, _, e⟩
theorem okC_of {B : Nat} {w : World} {v : Value} {l : List ClsD} (h : RdRow 2 (ElC B) B w v l) : ∀ c ∈ l, ∀ f ∈ c.fields, I64 f.ty := fun c hc f hf => by
  obtain ⟨_, _, _, v, _, r⟩ := rd_mem h hc
  obtain ⟨_, _, _, _, q⟩ := rd_mem r hf
  exact q
set_option maxRecDepth 100000 in
set_option maxHeartbeats 8000000 in
theorem cmakes_law (v : Value) (cl : List ClsD) (w : World) (h : RdRow 2 (ElC w.heap.size) w.heap.size w v cl) :
    Calls Try.prog 4 #[v] w fun e w' => e = .returned (.bool true) ∧ Below w.heap.size w w' := by
  obtain ⟨a, q, rfl⟩ := rd_shape h
  have hmx : cl.length ≤ maxLen := by obtain ⟨_, _, _, q, _⟩ := h; exact q
  unfold maxLen at hmx
  have RP := Lib.hid (fun W (hb : Below w.heap.size w W) => h.keep hb fun _ _ _ e r => r.keep hb e)
  have OK := Lib.hid (okC_of h)
  have NW := Lib.hid (new_any w w.heap.size _ cl h (Nat.le_refl _))
  clear h
  go_enter Try.func4, Try.ntmps4
  go_wp2_with fail
  refine NW.out.mono ?_
  rintro e w1 ⟨hb1, hcase⟩
  have RC := Lib.hid (rcheck_any w1 w.heap.size _ cl (RP.out w1 hb1) hb1.size)
  have B1 := Lib.hid hb1
  clear hb1 NW
  rcases hcase with ⟨hne, rfl⟩ | ⟨hz, t, tv, m, L, rfl, hT, hL⟩
  · have hne' : ((tabE cl).2 != 0) = true := by simpa using hne
    generalize (tabE cl).1 = n1 at *
    generalize (tabE cl).2 = n2 at *
    clear hne
    go_wp2_with fail
    refine RC.out.mono ?_
    rintro e w2 ⟨rfl, hb2⟩
    have B2 := Lib.hid (B1.out.trans (hb2.mono B1.out.size))
    clear hb2 RC
    go_wp2_with fail
    refine (classed_any _).mono ?_
    rintro e w3 ⟨rfl, hb3⟩
    have B3 := Lib.hid (B2.out.trans (hb3.mono B2.out.size))
    clear hb3
    go_wp2
    go_ret
    exact ⟨by simp, B3.out⟩
  · obtain ⟨hz2, hfl⟩ := tabE_zero hz
    have HFL := Lib.hid hfl
    have hlen : L.length = cl.length := by have := congrArg List.length hL; simpa using this
    have HAT : Hid (∀ i (h : i < L.length) (h2 : i < cl.length), (L[i]'h).1 = cl[i]'h2) := fun i h h2 => by
      have h1 : (L.map (·.1))[i]? = cl[i]? := by rw [hL]
      rw [List.getElem?_map, List.getElem?_eq_getElem h, List.getElem?_eq_getElem h2] at h1
      simpa using h1
    have HT := Lib.hid (fun W (hb : Below w1.heap.size w1 W) => hT.grew hb)
    have HLN := Lib.hid hlen
    rw [hz2] at RC
    clear hz hz2 hfl hlen hT hL
    go_wp2_with fail
    refine RC.out.mono ?_
    rintro e w2 ⟨rfl, hb2⟩
    go_wp2_with fail
    refine (classed_any _).mono ?_
    rintro e w3 ⟨rfl, hb3⟩
    have hb3' := hb2.trans (hb3.mono hb2.size)
    have CN := Lib.hid (count_any w3 _ t m tv L (HT.out _ hb3'))
    rw [HLN.out] at CN
    have B3 := Lib.hid hb3'
    clear hb2 hb3 hb3' RC
    go_wp2_with fail
    refine CN.out.mono ?_
    rintro e w4 ⟨rfl, hw4⟩
    subst hw4
    clear CN
    go_wp2
    go_loopw [8] (fun x wr => ∃ i : Nat, i ≤ cl.length ∧ x = .int .i64 i ∧ Below w1.heap.size w1 wr) (fun x _ => cl.length - (intOf x).toNat)
    case atStart => exact ⟨0, Nat.zero_le _, rfl, B3.out⟩
    case round =>
      obtain ⟨i, hi, rfl, hb⟩ := hrel
      by_cases hlt : i < cl.length
      · have hlt' : (i : Int) < (cl.length : Int) := by omega
        have i1 : (0 : Int) ≤ (i : Int) ∧ (i : Int) < (cl.length : Int) := ⟨by omega, by omega⟩
        have i2 : 0 < cl.length := by omega
        have hiL : i < L.length := by rw [HLN.out]; exact hlt
        have hat := HAT.out i hiL hlt
        have hmem := List.getElem_mem hlt
        have TC := tclass_yes wr _ t m tv L i (HT.out wr hb) hiL (by rw [hat]; exact OK.out _ hmem) (by rw [hat]; have := HFL.out _ hmem; omega)
        rw [hat] at TC
        have HI := Lib.hid (OK.out _ hmem)
        have EL : Hid (∀ W (hb : Below w.heap.size w W), ∃ b o, a = some ⟨b, o, none⟩ ∧ b < w.heap.size ∧ ElC w.heap.size W b (o + i * 2) (cl[i]'hlt)) := fun W hb => rd_at (RP.out W hb) hlt
        have TC := Lib.hid TC
        clear hat hmem hiL
        generalize cl[i] = d at *
        have HBW := Lib.hid hb
        clear hb
        go_wp2_with fail
        refine TC.out.mono ?_
        rintro e w5 ⟨fv, rfl, ho, hb5⟩
        obtain ⟨ga, gc, hfv⟩ := row_shape ho
        subst hfv
        have hb5' := HBW.out.trans (hb5.mono HBW.out.size)
        have hb6 := (Below.refl w5.heap.size w5).alloc (Nat.le_refl _) (.cells #[.string d.name, .slice ga d.fields.length gc] 34)
        have k6 := Blk.new w5 #[.string d.name, .slice ga d.fields.length gc] 34
        have ho6 := own_grewG ho hb6
        have hb6' := hb5'.trans (hb6.mono hb5'.size)
        have KA := Lib.hid (And.intro k6 (And.intro ho6 hb6'))
        clear TC ho hb5 hb5' hb6 k6 ho6 hb6'
        go_wp2_with fail
        obtain ⟨k6, ho6, hb6⟩ := KA.out
        clear KA
        generalize w5.alloc _ = w6 at *
        generalize w5.heap.size = X at *
        have hbw6 := B1.out.trans (hb6.mono B1.out.size)
        obtain ⟨b, o, rfl, _, e1, vf, e2, e3⟩ := EL.out w6 hbw6
        obtain ⟨fa, fc, hvf⟩ := rd_shape e3
        subst hvf
        have y0 := k6.val 0 rfl
        have y1 := k6.val 1 rfl
        have z1 : decide (0 < (cl.length : Int)) = true := by simp; omega
        have hdr := (Below.refl w6.heap.size w6).drew
        have SC := Lib.hid (rsclass_any w6.drew w6.heap.size (.slice ga d.fields.length gc) (.slice fa d.fields.length fc) d d (Nat.le_refl _)
          (own_rd (f := fldC) (by decide) (fun _ => rfl) (own_drew ho6) (Nat.le_refl _) fun g k y hy hq => ⟨hq 0 _ rfl, hq 1 _ rfl, HI.out y hy⟩)
          ((e3.keep (hdr.mono hbw6.size) fun _ _ _ e r => r.keep (hdr.mono hbw6.size) e).mono hbw6.size fun _ _ _ q => q))
        rw [show decide (clsP d = clsP d) = true by simp] at SC
        have HB6 := Lib.hid (hb6.trans (hdr.mono hb6.size))
        have hsz6 := Lib.hid hdr.size
        clear k6 ho6 hb6 hbw6 e3 EL hdr
        go_wp2_with fail
        go_still_tail 8, (by kernel_rfl)
        change wpList _ _ _ _ _ w6.drew
        clear y0 y1 e1 e2
        generalize w6.drew = w7 at *
        go_wp2_with fail
        refine SC.out.mono ?_
        rintro e w8 ⟨rfl, hb8⟩
        have HB8 := Lib.hid (HB6.out.trans (hb8.mono HB6.out.size))
        clear hb8 SC
        go_wp2
        go_roundw
        case rel => exact ⟨i + 1, by omega, by go_num, HB8.out⟩
        case measure => simp [intOf]; omega
      · have hlt' : ¬ (i : Int) < (cl.length : Int) := by omega
        have T1 := Lib.hid (tclass_no wr _ t m tv L cl.length (HT.out wr hb) (by unfold atB; rw [HLN.out]; simp))
        have HBW := Lib.hid hb
        clear hb
        go_wp2_with fail
        refine T1.out.mono ?_
        rintro e w5 ⟨rfl, hb5⟩
        have hb5' := HBW.out.trans (hb5.mono HBW.out.size)
        have T2 := Lib.hid (tclass_no w5 _ t m tv L (-1) (HT.out w5 hb5') (by unfold atB; simp))
        have HB5 := Lib.hid hb5'
        clear hb5 hb5' T1
        go_wp2_with fail
        refine T2.out.mono ?_
        rintro e w6 ⟨rfl, hb6⟩
        have hb6' := HB5.out.trans (hb6.mono HB5.out.size)
        have HE := Lib.hid ((B1.out.trans (hb6'.mono B1.out.size)).alloc (B1.out.trans (hb6'.mono B1.out.size)).size (.cells #[.string ⟨#[]⟩, .slice none 0 0] 34))
        clear hb6 hb6' T2
        go_wp2
        go_ret
        exact ⟨rfl, HE.out⟩
end Go.Proofs.Ytkapnblocimelaa
/- Find, Field, and the document's Find, Field, Type. Condition: the table, the classes are there. -/
namespace Go.Proofs.Ytkapnblocimelaa
open Go.RowKit
set_option linter.unusedVariables false
theorem idxOf_first {s : Nm} : ∀ (l : List Nm) (k : Nat) (hk : k < l.length), l[k] = s → (∀ j (hj : j < l.length), j < k → l[j] ≠ s) → l.idxOf s = k
  | x :: r, 0, _, h, _ => by
    have h' : x = s := h
    subst h'
    simp
  | x :: r, k + 1, hk, h, hn => by
    have hx : x ≠ s := hn 0 (by simp) (by omega)
    have hr := idxOf_first r k (by simpa using hk) (by simpa using h) (fun j hj hjk => by
      have := hn (j + 1) (by simpa using hj) (by omega)
      simpa using this)
    rw [List.idxOf_cons, beq_eq_false_iff_ne.2 hx, hr]
    rfl
def seekI (l : List Nm) (s : Nm) (e : Int) : Int × Int := if s ∈ l then (((l.idxOf s : Nat) : Int), 0) else (0, e)
theorem seek_hit {l : List Nm} {s : Nm} {e : Int} {k : Nat} (hk : k < l.length) (h : l[k] = s) (hn : ∀ j (hj : j < l.length), j < k → l[j] ≠ s) : seekI l s e = ((k : Int), 0) := by
  unfold seekI
  rw [if_pos (h ▸ List.getElem_mem hk), idxOf_first l k hk h hn]
theorem seek_miss {l : List Nm} {s : Nm} {e : Int} (hn : ∀ j (hj : j < l.length), l[j] ≠ s) : seekI l s e = (0, e) := by
  unfold seekI
  rw [if_neg]
  intro hm
  obtain ⟨j, hj, h⟩ := List.getElem_of_mem hm
  exact hn j hj h
theorem cnames_at {l : List ClsD} {i : Nat} (hi : i < l.length) : (cnames l)[i]'(by unfold cnames; rw [List.length_map]; exact hi) = nmB l[i].name := by simp [cnames]
theorem fnames_at {l : List FldD} {i : Nat} (hi : i < l.length) : (fnames l)[i]'(by unfold fnames; rw [List.length_map]; exact hi) = nmB l[i].name := by simp [fnames]
set_option maxRecDepth 100000 in
set_option maxHeartbeats 2000000 in
theorem tfind_any (w : World) (lo t m : Nat) (v : Value) (l : List (ClsD × Value × Nat)) (s : ByteArray) (h : TabS w lo t v m l) (hz : s.size ≤ maxLen) :
    Calls Try.prog 17 #[.pointer (some ⟨t, 0, none⟩), .string s] w fun e w' => e = .returned (.tuple #[.int .i64 (seekI (cnames (l.map (·.1))) (nmB s) 21).1, .int .i64 (seekI (cnames (l.map (·.1))) (nmB s) 21).2]) ∧ w' = w := by
  have c1 := h.blk.val 1 rfl
  obtain ⟨D, h1, h2, h3, h4⟩ := h.map
  have ZI := Lib.hid (fun W : World => (show (zeroValue 3).run Try.prog W = .ok (.int .i64 0) W from by kernel_rfl))
  have HM := Lib.hid h1
  generalize cnames (l.map (·.1)) = ns at *
  by_cases hs : nmB s ∈ ns
  · have hh : Maps.has D (.string s.data.toList) = true := by rw [h3]; simpa using hs
    have HE : Hid (seekI ns (nmB s) 21 = (((ns.idxOf (nmB s) : Nat) : Int), 0)) := by unfold Hid seekI; rw [if_pos hs]
    have H4 := Lib.hid (h4 _ hs)
    clear h h1 h2 h3 h4 hs
    go_enter Try.func17, Try.ntmps17
    go_wp2_with (at_lookup; refine wpList_lookup_own_ok_int _ rfl _ _ 75 rfl 9 3 .i64 lawS Try.underlying75 Try.underlying3 (ZI.out _) m ns.length D rfl HM.out _ _ rfl (keyS hz) ?_; intro c hat hwc; obtain rfl : c = ((ns.idxOf (nmB s) : Nat) : Int) := (by have := hat.symm.trans H4.out; injection this with this; injection this); clear hat hwc)
    refine bodyPost_ret (v := .tuple #[.int .i64 ((ns.idxOf (nmB s) : Nat) : Int), .int .i64 0]) (by simp [results, Try.results17, go_sem]) rfl ⟨by rw [HE.out], rfl⟩
  · have hh : Maps.has D (.string s.data.toList) = false := by rw [h3]; simpa using hs
    have HE : Hid (seekI ns (nmB s) 21 = (0, 21)) := by unfold Hid seekI; rw [if_neg hs]
    clear h h1 h2 h3 h4 hs
    go_enter Try.func17, Try.ntmps17
    go_wp2_with (at_lookup; refine wpList_lookup_own_ok_int _ rfl _ _ 75 rfl 9 3 .i64 lawS Try.underlying75 Try.underlying3 (ZI.out _) m ns.length D rfl HM.out _ _ rfl (keyS hz) ?_; intro c hat hwc; clear hat hwc)
    refine bodyPost_ret (v := .tuple #[.int .i64 0, .int .i64 21]) (by simp [results, Try.results17, go_sem]) rfl ⟨by rw [HE.out], rfl⟩
def fieldI (cl : List ClsD) (c : Int) (s : Nm) : Int × Int := if atB cl.length c then (match cl[c.toNat]? with | some d => seekI (fnames d.fields) s 22 | none => (0, 21)) else (0, 21)
theorem fieldI_at {cl : List ClsD} {c : Nat} (hc : c < cl.length) (s : Nm) : fieldI cl c s = seekI (fnames cl[c].fields) s 22 := by
  unfold fieldI
  rw [if_pos (by unfold atB; simp; omega)]
  simp [hc]
theorem fieldI_no {cl : List ClsD} {c : Int} (hc : atB cl.length c = false) (s : Nm) : fieldI cl c s = (0, 21) := by
  unfold fieldI
  rw [if_neg (by rw [hc]; decide)]
set_option maxRecDepth 100000 in
set_option maxHeartbeats 2000000 in
theorem tfield_any (w : World) (lo t m : Nat) (v : Value) (l : List (ClsD × Value × Nat)) (c : Int) (s : ByteArray) (h : TabS w lo t v m l) (hz : s.size ≤ maxLen) :
    Calls Try.prog 19 #[.pointer (some ⟨t, 0, none⟩), .int .i64 c, .string s] w fun e w' => e = .returned (.tuple #[.int .i64 (fieldI (l.map (·.1)) c (nmB s)).1, .int .i64 (fieldI (l.map (·.1)) c (nmB s)).2]) ∧ Below w.heap.size w w' := by
  cases hc : atB l.length c with
  | false =>
    have HT : Hid (fieldI (l.map (·.1)) c (nmB s) = (0, 21)) := fieldI_no (by rw [List.length_map]; exact hc) _
    have AT := Lib.hid (at_no _ lo t m v l c h hc)
    clear h hc
    go_enter Try.func19, Try.ntmps19
    go_wp2_with fail
    refine AT.out.mono ?_
    rintro e w2 ⟨rfl, hb2⟩
    have HB := Lib.hid (hb2.alloc hb2.size (.cells #[.string ⟨#[]⟩, .slice none 0 0, .map none] 80))
    clear hb2
    go_wp2
    refine bodyPost_ret (v := .tuple #[.int .i64 0, .int .i64 21]) (by simp [results, Try.results19, go_sem]) rfl ⟨by rw [HT.out], HB.out⟩
  | true =>
    obtain ⟨i, rfl, hi⟩ := atB_yes hc
    obtain ⟨g, cap, hv, c0, c1, c2, fa, fc, hfv⟩ := rows_at h.rows hi
    have hMp := (h.rows.inner _ (List.getElem_mem hi)).2.2
    have hge : (l.map (·.1))[i]'(by rw [List.length_map]; exact hi) = l[i].1 := by simp
    have HF : Hid (fieldI (l.map (·.1)) i (nmB s) = seekI (fnames l[i].1.fields) (nmB s) 22) := by
      have := fieldI_at (cl := l.map (·.1)) (c := i) (by rw [List.length_map]; exact hi) (nmB s)
      rw [hge] at this
      exact this
    have AT := Lib.hid (at_yes _ lo t m v l i h hi)
    rw [hfv] at AT
    clear h hc hfv c0 c1 c2 hv hge
    generalize l[i].1 = d at *
    generalize l[i].2.2 = mi at *
    have HMg := Lib.hid (fun W (hb : Below w.heap.size w W) => hMp.grew hb)
    have ZI := Lib.hid (fun W : World => (show (zeroValue 3).run Try.prog W = .ok (.int .i64 0) W from by kernel_rfl))
    clear hMp hi
    go_enter Try.func19, Try.ntmps19
    go_wp2_with fail
    refine AT.out.mono ?_
    rintro e w2 ⟨rfl, hb2⟩
    have hb3 := hb2.alloc hb2.size (.cells #[.string d.name, .slice fa d.fields.length fc, .map (some mi)] 80)
    obtain ⟨D, h1, h2, h3, h4⟩ := HMg.out _ hb3
    have HB := Lib.hid hb3
    have HM := Lib.hid h1
    clear hb2 hb3 AT
    generalize fnames d.fields = ns at *
    by_cases hs : nmB s ∈ ns
    · have hh : Maps.has D (.string s.data.toList) = true := by rw [h3]; simpa using hs
      have HE : Hid (fieldI (l.map (·.1)) i (nmB s) = (((ns.idxOf (nmB s) : Nat) : Int), 0)) := by unfold Hid; rw [HF.out]; unfold seekI; rw [if_pos hs]
      have H4 := Lib.hid (h4 _ hs)
      clear h1 h2 h3 h4 hs
      go_wp2_with (at_lookup; refine wpList_lookup_own_ok_int _ rfl _ _ 75 rfl 9 3 .i64 lawS Try.underlying75 Try.underlying3 (ZI.out _) mi ns.length D rfl HM.out _ _ rfl (keyS hz) ?_; intro c hat hwc; obtain rfl : c = ((ns.idxOf (nmB s) : Nat) : Int) := (by have := hat.symm.trans H4.out; injection this with this; injection this); clear hat hwc)
      refine bodyPost_ret (v := .tuple #[.int .i64 ((ns.idxOf (nmB s) : Nat) : Int), .int .i64 0]) (by simp [results, Try.results19, go_sem]) rfl ⟨by rw [HE.out], HB.out⟩
    · have hh : Maps.has D (.string s.data.toList) = false := by rw [h3]; simpa using hs
      have HE : Hid (fieldI (l.map (·.1)) i (nmB s) = (0, 22)) := by unfold Hid; rw [HF.out]; unfold seekI; rw [if_neg hs]
      clear h1 h2 h3 h4 hs
      go_wp2_with (at_lookup; refine wpList_lookup_own_ok_int _ rfl _ _ 75 rfl 9 3 .i64 lawS Try.underlying75 Try.underlying3 (ZI.out _) mi ns.length D rfl HM.out _ _ rfl (keyS hz) ?_; intro c hat hwc; clear hat hwc)
      refine bodyPost_ret (v := .tuple #[.int .i64 0, .int .i64 22]) (by simp [results, Try.results19, go_sem]) rfl ⟨by rw [HE.out], HB.out⟩
end Go.Proofs.Ytkapnblocimelaa
/- The document's Find, Field, Type. Condition: the classes are there. -/
namespace Go.Proofs.Ytkapnblocimelaa
open Go.RowKit
set_option linter.unusedVariables false
set_option maxRecDepth 100000 in
set_option maxHeartbeats 2000000 in
theorem rfind_any (w : World) (B : Nat) (v : Value) (cl : List ClsD) (s : ByteArray) (h : RdRow 2 (ElC B) B w v cl) :
    Calls Try.prog 18 #[v, .string s] w fun e w' => e = .returned (.tuple #[.int .i64 (seekI (cnames cl) (nmB s) 21).1, .int .i64 (seekI (cnames cl) (nmB s) 21).2]) ∧ w' = w := by
  obtain ⟨a, q, rfl⟩ := rd_shape h
  have hmx : cl.length ≤ maxLen := by obtain ⟨_, _, _, q, _⟩ := h; exact q
  unfold maxLen at hmx
  have R1 := Lib.hid (fun i (hi : i < cl.length) => rd_at h hi)
  have HL : Hid ((cnames cl).length = cl.length) := by unfold Hid cnames; rw [List.length_map]
  clear h
  go_enter Try.func18, Try.ntmps18
  go_wp2
  go_loop [6] (fun x => ∃ i : Nat, i ≤ cl.length ∧ x = .int .i64 i ∧ ∀ j (hj : j < (cnames cl).length), j < i → (cnames cl)[j] ≠ nmB s) (fun x => cl.length - (intOf x).toNat)
  case atStart => exact ⟨0, Nat.zero_le _, rfl, fun j _ h => absurd h (by omega)⟩
  case round =>
    obtain ⟨i, hi, rfl, hn⟩ := hrel
    by_cases hlt : i < cl.length
    · have hlt' : (i : Int) < (cl.length : Int) := by omega
      have i1 : (0 : Int) ≤ (i : Int) ∧ (i : Int) < (cl.length : Int) := ⟨by omega, by omega⟩
      have i2 : 0 < cl.length := by omega
      obtain ⟨b, o, rfl, _, e1, vf, e2, _⟩ := R1.out i hlt
      have hca := cnames_at hlt
      by_cases hnn : nmB (cl[i]'hlt).name = nmB s
      · have hx := nm_yes hnn
        have HX := Lib.hid (seek_hit (e := 21) (by rw [HL.out]; exact hlt) (hca.trans hnn) hn)
        clear hnn hn hca
        go_wp2
        refine bodyPost_ret (v := .tuple #[.int .i64 i, .int .i64 0]) (by simp [results, Try.results18, go_sem]) rfl ⟨by rw [HX.out], rfl⟩
      · have hx := nm_no hnn
        have HX : Hid (∀ j (hj : j < (cnames cl).length), j < i + 1 → (cnames cl)[j] ≠ nmB s) := fun j hj hjk => by
          rcases Nat.lt_or_ge j i with h | h
          · exact hn j hj h
          · obtain rfl : j = i := by omega
            rw [hca]; exact hnn
        clear hnn hn hca
        go_wp2
        go_round
        case rel => exact ⟨i + 1, by omega, by go_num, HX.out⟩
        case measure => simp [intOf]; omega
    · have hlt' : ¬ (i : Int) < (cl.length : Int) := by omega
      have HX := Lib.hid (seek_miss (e := 21) (fun j hj => hn j hj (by rw [HL.out] at hj; omega)))
      clear hn
      go_wp2
      refine bodyPost_ret (v := .tuple #[.int .i64 0, .int .i64 21]) (by simp [results, Try.results18, go_sem]) rfl ⟨by rw [HX.out], rfl⟩
theorem atB_neg {n : Nat} {i : Int} (h : atB n i = false) (h0 : ¬ i < 0) : (n : Int) ≤ i := by
  unfold atB at h
  simp at h
  exact h (by omega)
set_option maxRecDepth 100000 in
set_option maxHeartbeats 2000000 in
theorem rfield_any (w : World) (B : Nat) (v : Value) (cl : List ClsD) (c : Int) (s : ByteArray) (h : RdRow 2 (ElC B) B w v cl) :
    Calls Try.prog 20 #[v, .int .i64 c, .string s] w fun e w' => e = .returned (.tuple #[.int .i64 (fieldI cl c (nmB s)).1, .int .i64 (fieldI cl c (nmB s)).2]) ∧ w' = w := by
  obtain ⟨a, q, rfl⟩ := rd_shape h
  cases hc : atB cl.length c with
  | false =>
    have HX := Lib.hid (fieldI_no hc (nmB s))
    have HC := Lib.hid hc
    clear h hc
    by_cases h0 : c < 0
    · go_enter Try.func20, Try.ntmps20
      go_wp2
      refine bodyPost_ret (v := .tuple #[.int .i64 0, .int .i64 21]) (by simp [results, Try.results20, go_sem]) rfl ⟨by rw [HX.out], rfl⟩
    · have h1 := atB_neg HC.out h0
      go_enter Try.func20, Try.ntmps20
      go_wp2
      refine bodyPost_ret (v := .tuple #[.int .i64 0, .int .i64 21]) (by simp [results, Try.results20, go_sem]) rfl ⟨by rw [HX.out], rfl⟩
  | true =>
    obtain ⟨i, rfl, hi⟩ := atB_yes hc
    have HX0 := Lib.hid (fieldI_at hi (nmB s))
    obtain ⟨b, o, rfl, _, e1, vf, e2, e3⟩ := rd_at h hi
    obtain ⟨fa, fc, rfl⟩ := rd_shape e3
    have hmx : (cl[i]'hi).fields.length ≤ maxLen := by obtain ⟨_, _, _, q, _⟩ := e3; exact q
    unfold maxLen at hmx
    have R1 := Lib.hid (fun j (hj : j < (cl[i]'hi).fields.length) => rd_at e3 hj)
    have i1 : (0 : Int) ≤ (i : Int) ∧ (i : Int) < (cl.length : Int) := ⟨by omega, by omega⟩
    have i2 : 0 < cl.length := by omega
    have n1 : ¬ (i : Int) < 0 := by omega
    have n2 : ¬ (cl.length : Int) ≤ (i : Int) := by omega
    have HL : Hid ((fnames (cl[i]'hi).fields).length = (cl[i]'hi).fields.length) := by unfold Hid fnames; rw [List.length_map]
    clear h hc e3 e1
    generalize (cl[i]'hi).fields = fl at *
    clear hi
    go_enter Try.func20, Try.ntmps20
    go_wp2
    go_loop [9] (fun x => ∃ k : Nat, k ≤ fl.length ∧ x = .int .i64 k ∧ ∀ j (hj : j < (fnames fl).length), j < k → (fnames fl)[j] ≠ nmB s) (fun x => fl.length - (intOf x).toNat)
    case atStart => exact ⟨0, Nat.zero_le _, rfl, fun j _ h => absurd h (by omega)⟩
    case round =>
      obtain ⟨k, hk, rfl, hn⟩ := hrel
      by_cases hlt : k < fl.length
      · have hlt' : (k : Int) < (fl.length : Int) := by omega
        have k1 : (0 : Int) ≤ (k : Int) ∧ (k : Int) < (fl.length : Int) := ⟨by omega, by omega⟩
        have k2 : 0 < fl.length := by omega
        obtain ⟨b', o', rfl, _, d1, d2, _⟩ := R1.out k hlt
        have hca := fnames_at hlt
        by_cases hnn : nmB (fl[k]'hlt).name = nmB s
        · have hx := nm_yes hnn
          have HX := Lib.hid (HX0.out.trans (seek_hit (e := 22) (by rw [HL.out]; exact hlt) (hca.trans hnn) hn))
          clear hnn hn hca
          go_wp2
          refine bodyPost_ret (v := .tuple #[.int .i64 k, .int .i64 0]) (by simp [results, Try.results20, go_sem]) rfl ⟨by rw [HX.out], rfl⟩
        · have hx := nm_no hnn
          have HX : Hid (∀ j (hj : j < (fnames fl).length), j < k + 1 → (fnames fl)[j] ≠ nmB s) := fun j hj hjk => by
            rcases Nat.lt_or_ge j k with h | h
            · exact hn j hj h
            · obtain rfl : j = k := by omega
              rw [hca]; exact hnn
          clear hnn hn hca
          go_wp2
          go_round
          case rel => exact ⟨k + 1, by omega, by go_num, HX.out⟩
          case measure => simp [intOf]; omega
      · have hlt' : ¬ (k : Int) < (fl.length : Int) := by omega
        have HX := Lib.hid (HX0.out.trans (seek_miss (e := 22) (fun j hj => hn j hj (by rw [HL.out] at hj; omega))))
        clear hn
        go_wp2
        refine bodyPost_ret (v := .tuple #[.int .i64 0, .int .i64 22]) (by simp [results, Try.results20, go_sem]) rfl ⟨by rw [HX.out], rfl⟩
set_option maxRecDepth 100000 in
set_option maxHeartbeats 2000000 in
theorem rtype_any (w : World) (B : Nat) (v : Value) (cl : List ClsD) (c f : Int) (h : RdRow 2 (ElC B) B w v cl) :
    Calls Try.prog 22 #[v, .int .i64 c, .int .i64 f] w fun e w' => e = .returned (.tuple #[.int .i64 (typeI cl c f).1, .int .i64 (typeI cl c f).2]) ∧ w' = w := by
  obtain ⟨a, q, rfl⟩ := rd_shape h
  cases hc : atB cl.length c with
  | false =>
    have HX : Hid (typeI cl c f = (0, 21)) := typeI_no hc
    have HC := Lib.hid hc
    clear h hc
    by_cases h0 : c < 0
    · go_enter Try.func22, Try.ntmps22
      go_wp2
      refine bodyPost_ret (v := .tuple #[.int .i64 0, .int .i64 21]) (by simp [results, Try.results22, go_sem]) rfl ⟨by rw [HX.out], rfl⟩
    · have h1 := atB_neg HC.out h0
      go_enter Try.func22, Try.ntmps22
      go_wp2
      refine bodyPost_ret (v := .tuple #[.int .i64 0, .int .i64 21]) (by simp [results, Try.results22, go_sem]) rfl ⟨by rw [HX.out], rfl⟩
  | true =>
    obtain ⟨i, rfl, hi⟩ := atB_yes hc
    obtain ⟨b, o, rfl, _, e1, vf, e2, e3⟩ := rd_at h hi
    obtain ⟨fa, fc, rfl⟩ := rd_shape e3
    have i1 : (0 : Int) ≤ (i : Int) ∧ (i : Int) < (cl.length : Int) := ⟨by omega, by omega⟩
    have i2 : 0 < cl.length := by omega
    have n1 : ¬ (i : Int) < 0 := by omega
    have n2 : ¬ (cl.length : Int) ≤ (i : Int) := by omega
    cases hf : atB (cl[i]'hi).fields.length f with
    | false =>
      have HX : Hid (typeI cl i f = (0, 22)) := typeI_out hi hf
      have HC := Lib.hid hf
      clear h hc e3 e1 hf
      generalize (cl[i]'hi).fields = fl at *
      clear hi
      by_cases h0 : f < 0
      · go_enter Try.func22, Try.ntmps22
        go_wp2
        refine bodyPost_ret (v := .tuple #[.int .i64 0, .int .i64 22]) (by simp [results, Try.results22, go_sem]) rfl ⟨by rw [HX.out], rfl⟩
      · have h1 := atB_neg HC.out h0
        go_enter Try.func22, Try.ntmps22
        go_wp2
        refine bodyPost_ret (v := .tuple #[.int .i64 0, .int .i64 22]) (by simp [results, Try.results22, go_sem]) rfl ⟨by rw [HX.out], rfl⟩
    | true =>
      obtain ⟨k, rfl, hk⟩ := atB_yes hf
      have HX := Lib.hid (typeI_in hi hk)
      obtain ⟨b', o', rfl, _, d1, d2, _⟩ := rd_at e3 hk
      have k1 : (0 : Int) ≤ (k : Int) ∧ (k : Int) < ((cl[i]'hi).fields.length : Int) := ⟨by omega, by omega⟩
      have k2 : 0 < (cl[i]'hi).fields.length := by omega
      have m1 : ¬ (k : Int) < 0 := by omega
      have m2 : ¬ ((cl[i]'hi).fields.length : Int) ≤ (k : Int) := by omega
      clear h hc e3 e1 hf d1
      generalize ((cl[i]'hi).fields[k]'hk).ty = ty at *
      clear hk
      generalize (cl[i]'hi).fields = fl at *
      clear hi
      go_enter Try.func22, Try.ntmps22
      go_wp2
      refine bodyPost_ret (v := .tuple #[.int .i64 ty, .int .i64 0]) (by simp [results, Try.results22, go_sem]) rfl ⟨by rw [HX.out], rfl⟩
end Go.Proofs.Ytkapnblocimelaa
