/- Texts of this seat, one behind the other: each says at its head what it holds. No condition of its own. -/
import Derived.Laws.StructEq
import Derived.Test.YtohmnjejchppkaaDoorGObjectsBack19
/- New: the table of classes, or which one may not be. Condition: the classes are there. -/
namespace Go.Proofs.YtohmnjejchppkaaDoor
open Go.RowKit
set_option linter.unusedVariables false
def NewPostCnew (w : World) (l : List ClsD) (e : Ending) (w' : World) : Prop :=
  Below w.heap.size w w' ∧ (((tabE l).2 ≠ 0 ∧ e = .returned (.tuple #[.pointer none, .int .i64 (tabE l).1, .int .i64 (tabE l).2])) ∨
    ((tabE l).2 = 0 ∧ ∃ t v m L, e = .returned (.tuple #[.pointer (some ⟨t, 0, none⟩), .int .i64 0, .int .i64 0]) ∧ TabS w' w.heap.size t v m L ∧ L.map (·.1) = l))
theorem cnames_next {l : List ClsD} {k : Nat} (hk : k < l.length) : cnames (l.take (k + 1)) = cnames (l.take k) ++ [nmB l[k].name] := by
  unfold cnames
  rw [List.take_add_one, List.getElem?_eq_getElem hk, List.map_append]
  rfl
theorem RowsS.sub {w : World} {lo lo' : Nat} {v : Value} {l : List (ClsD × Value × Nat)} (h : RowsS w lo v l) (hl : lo' ≤ lo) : RowsS w lo' v l :=
  ⟨own_sub h.row hl, fun x hx => ⟨own_sub (h.inner x hx).1 hl, Nat.le_trans hl (h.inner x hx).2.1, (h.inner x hx).2.2⟩⟩
theorem info_row : (Tryd.prog.info? 106).map (fun i => (i.zero, i.size, i.bytes)) = some (some (.agg #[.string ⟨#[]⟩, .slice none 0 0, .map none]), 3, 48) := by kernel_rfl
set_option maxRecDepth 100000 in
set_option maxHeartbeats 8000000 in
theorem new_any (w : World) (B : Nat) (v : Value) (cl : List ClsD) (h : RdRow 2 (ElC B) B w v cl) (hB : B ≤ w.heap.size) :
    Calls Tryd.prog 23 #[v] w (NewPostCnew w cl) := by
  obtain ⟨a, q, rfl⟩ := rd_shape h
  by_cases h16 : 16 < cl.length
  · have h16' : (16 : Int) < (cl.length : Int) := by omega
    have HE : Hid (tabE cl = (0, 3)) := by unfold Hid tabE; rw [if_pos h16]
    clear h
    go_enter Tryd.func23, Tryd.ntmps23
    go_wp2
    refine bodyPost_ret (v := .tuple #[.pointer none, .int .i64 0, .int .i64 3]) (by simp [results, Tryd.results23, go_sem]) rfl ⟨Below.refl _ _, .inl ⟨by rw [HE.out]; decide, by rw [HE.out]; rfl⟩⟩
  have h16' : ¬ (16 : Int) < (cl.length : Int) := by omega
  have HTE : Hid (tabE cl = newE 0 [] cl) := by unfold Hid tabE; rw [if_neg h16]
  have hmk : ∀ W : World, (Instr.makeMap 98 none).run Tryd.prog W = .ok (.map (some W.heap.size)) (W.alloc (.map #[] 0)) := fun W => rfl
  have R1 := Lib.hid (fun W (hb : Below B w W) i (hi : i < cl.length) => rd_at (h.keep hb fun _ _ _ e r => r.keep hb e) hi)
  have HB := Lib.hid hB
  have hbm : Below w.heap.size w (w.alloc (.map #[] 0)) := (Below.refl _ _).alloc (Nat.le_refl _) _
  have hM0 : MapN (w.alloc (.map #[] 0)) w.heap.size [] := MapN.made rfl
  have hb2 : Below (w.alloc (.map #[] 0)).heap.size (w.alloc (.map #[] 0)) ((w.alloc (.map #[] 0)).alloc (.cells #[.slice none 0 0, .map (some w.heap.size)] 101)) := (Below.refl _ _).alloc (Nat.le_refl _) _
  have k1 : Blk ((w.alloc (.map #[] 0)).alloc (.cells #[.slice none 0 0, .map (some w.heap.size)] 101)) (w.heap.size + 1) #[.slice none 0 0, .map (some w.heap.size)] 101 := Blk.new' (by simp)
  have KA := Lib.hid (And.intro k1 (And.intro (hM0.grew hb2) (hbm.trans (hb2.mono hbm.size))))
  clear h hB k1 hM0 hbm hb2
  go_enter Tryd.func23, Tryd.ntmps23
  go_wp2
  clear hmk
  obtain ⟨k1, hM, hbw⟩ := KA.out
  clear KA
  generalize World.alloc _ _ = w3 at *
  generalize hLd : w.heap.size + 1 = L at *
  go_loopw [18] (fun x wr => ∃ (k : Nat) (l : List (ClsD × Value × Nat)) (v : Value), k ≤ cl.length ∧ x = .int .i64 k ∧ l.map (·.1) = cl.take k ∧ (newE 0 [] (cl.take k)).2 = 0 ∧ Blk wr L #[v, .map (some w.heap.size)] 101 ∧ MapN wr w.heap.size (cnames (cl.take k)) ∧ RowsS wr (L + 1) v l ∧ Below w.heap.size w wr) (fun x _ => cl.length - (intOf x).toNat)
  case atStart => exact ⟨0, [], _, Nat.zero_le _, rfl, rfl, rfl, k1, hM, RowsS.nil _ _, hbw⟩
  case round =>
    clear k1 hM hbw
    obtain ⟨k, l, v, hk, rfl, hm, h0, k1, hM, hR, hbw⟩ := hrel
    have HLK : Hid (l.length = k) := by
      have := congrArg List.length hm
      rw [List.length_map, List.length_take] at this
      unfold Hid
      omega
    by_cases hlt : k < cl.length
    · have hlt' : (k : Int) < (cl.length : Int) := by omega
      have i1 : (0 : Int) ≤ (k : Int) ∧ (k : Int) < (cl.length : Int) := ⟨by omega, by omega⟩
      have i2 : 0 < cl.length := by omega
      obtain ⟨b, o, rfl, _, e1, vf, e2, e3⟩ := R1.out wr (hbw.mono HB.out) k hlt
      obtain ⟨fa, fc, hvf⟩ := rd_shape e3
      subst hvf
      have HN1 : Hid (∀ x, clsE (cnames (cl.take k)) cl[k] = x → x ≠ 0 → newE 0 [] cl = (k, x)) := fun x hx hn => newE_bad hlt h0 hx hn
      have HN2 : Hid (clsE (cnames (cl.take k)) cl[k] = 0 → (newE 0 [] (cl.take (k + 1))).2 = 0) := fun hx => newE_next hlt h0 hx
      have HN3 := Lib.hid (cnames_next hlt)
      have HTK : Hid (cl.take (k + 1) = cl.take k ++ [cl[k]]) := by unfold Hid; rw [List.take_add_one, List.getElem?_eq_getElem hlt]; rfl
      have hcl : (cnames (cl.take k)).length ≤ 1000 := by unfold cnames; rw [List.length_map, List.length_take]; omega
      generalize cl[k] = c at *
      have hb4 := (Below.refl wr.heap.size wr).alloc (Nat.le_refl _) (.cells #[.string c.name, .slice fa c.fields.length fc] 104)
      have hL := k1.lt
      have hBw := Nat.le_trans HB.out hbw.size
      have CC := Lib.hid (inspect_any _ B L w.heap.size v (cnames (cl.take k)) c (.slice fa c.fields.length fc) (e3.keep (hb4.mono hBw) fun _ _ _ e r => r.keep (hb4.mono hBw) e) (Nat.le_trans hBw hb4.size) (k1.grew hb4) (hM.grew hb4) HB.out hcl)
      have k4 := Blk.new wr #[.string c.name, .slice fa c.fields.length fc] 104
      have KA := Lib.hid (And.intro k4 (And.intro (k1.grew hb4) (And.intro (hM.grew hb4) (And.intro (hR.grew hb4) (hbw.trans (hb4.mono hbw.size))))))
      have y0 := k4.val 0 rfl
      have y1 := k4.val 1 rfl
      clear k4 k1 hM hR hbw hb4 e3 h0
      go_wp2_with fail
      obtain ⟨k4, k1, hM, hR, hbw⟩ := KA.out
      clear KA e1 e2 y0 y1
      generalize wr.alloc _ = w8 at *
      generalize wr.heap.size = X0 at *
      refine CC.out.mono ?_
      rintro e w9 ⟨hT, hcase⟩
      have k1 := k1.touch hT (by omega)
      have hR := hR.touch hT (fun g h1 _ _ e => by omega) (fun x hx e => by have := (hR.inner x hx).2.1; omega)
      have hbw9 := hbw.trans (hT.below (B := w.heap.size) hbw.size (fun q hq => by omega))
      have hL8 : L + 1 ≤ w8.heap.size := by have := k4.lt; omega
      clear CC
      rcases hcase with ⟨hne, rfl⟩ | ⟨heq, fv, mi, rfl, hxo, hmi, hxm, hM9⟩
      · have hne' : (clsE (cnames (cl.take k)) c != 0) = true := by simpa using hne
        have HE := Lib.hid (HTE.out.trans (HN1.out _ rfl hne))
        have HZ := Lib.hid hne
        have HBo := Lib.hid (hbw9.trans (((Below.refl w9.heap.size w9).alloc (Nat.le_refl _) (.cells #[.string ⟨#[]⟩, .slice none 0 0, .map none] 106)).mono hbw9.size))
        generalize clsE (cnames (cl.take k)) c = ee at *
        clear k1 hR hbw hbw9 hT hM k4 hne
        go_wp2
        refine bodyPost_ret (v := .tuple #[.pointer none, .int .i64 k, .int .i64 ee]) (by simp [results, Tryd.results23, go_sem]) rfl ⟨HBo.out, .inl ⟨by rw [HE.out]; exact HZ.out, by rw [HE.out]⟩⟩
      · obtain ⟨ga, gc, hfv⟩ := row_shape hxo
        subst hfv
        have hxo := own_sub hxo hL8
        have hmi := Nat.le_trans hL8 hmi
        have HG := Lib.hid (HN2.out heq)
        have hb5 := (Below.refl w9.heap.size w9).alloc (Nat.le_refl _) (.cells #[.string c.name, .slice ga c.fields.length gc, .map (some mi)] 106)
        have k5 := Blk.new w9 #[.string c.name, .slice ga c.fields.length gc, .map (some mi)] 106
        have HX : Hid (∀ g, v.ownBlock = some g → w9.heap.size = g → False) := fun g hg e => by have := (own_ltG hR.row hg).2; omega
        have hLX0 := k1.lt
        have KA := Lib.hid (And.intro k5 (And.intro (k1.grew hb5) (And.intro (hM9.grew hb5) (And.intro (hR.grew hb5) (And.intro (own_grewG hxo hb5) (And.intro (hxm.grew hb5) (And.intro (hbw9.trans (hb5.mono hbw9.size)) k5.lt)))))))
        obtain ⟨i0, Z⟩ := info_parts info_row
        have Z := Lib.hid Z
        clear k4 k5 k1 hM hM9 hR hxo hxm hbw hbw9 hT hb5 heq
        go_wp2_with fail
        obtain ⟨k4, k1, hM, hR, hxo, hxm, hbw, hsz⟩ := KA.out
        clear KA
        generalize w9.alloc _ = w4 at *
        generalize w9.heap.size = X at *
        refine wp_region_held_drew (S := (fun W' => W'.cell? ⟨X, 0, none⟩ = some (.string c.name) ∧ W'.cell? ⟨X, 1, none⟩ = some (.slice ga c.fields.length gc) ∧ W'.cell? ⟨X, 2, none⟩ = some (.map (some mi)))) (by kernel_rfl) ⟨k4.drew.val 0 rfl, k4.drew.val 1 rfl, k4.drew.val 2 rfl⟩ (fun hHeld => ?_)
        have hb := (Below.refl w4.heap.size w4).drew
        have k1 := k1.grew hb
        have k4 := k4.grew hb
        have hM := hM.grew hb
        have hR := hR.grew hb
        have hxo := own_grewG hxo hb
        have hxm := hxm.grew hb
        have hbw := hbw.trans (hb.mono hbw.size)
        have hsz : X < w4.drew.heap.size := hsz
        clear hb
        generalize w4.drew = w5 at *
        refine wpAnyH_take (i := 0) (oi := _) (v := ?_) (op_atC rfl) (by kernel_rfl) (by kernel_rfl) (by kernel_rfl) (fun _ _ _ h => h) (Or.inl ⟨by rfl, ?_⟩) hHeld ?_
        rotate_left 1
        focus (intro W hSw; (try dsimp only at hSw); go_simp; (try (with_reducible rfl)))
        (try simp only [Act.put, List.setIfInBounds_toArray, List.set_cons_zero, List.set_cons_succ])
        refine wpAnyH_take (i := 1) (oi := _) (v := ?_) (op_atC rfl) (by kernel_rfl) (by kernel_rfl) (by kernel_rfl) (fun _ _ _ h => h) (Or.inl ⟨by rfl, ?_⟩) hHeld ?_
        rotate_left 1
        focus (intro W hSw; (try dsimp only at hSw); go_simp; (try (with_reducible rfl)))
        (try simp only [Act.put, List.setIfInBounds_toArray, List.set_cons_zero, List.set_cons_succ])
        refine wpAnyH_take (i := 2) (oi := _) (v := ?_) (op_atC rfl) (by kernel_rfl) (by kernel_rfl) (by kernel_rfl) (fun _ _ _ h => h) (Or.inl ⟨by rfl, ?_⟩) hHeld ?_
        rotate_left 1
        focus (intro W hSw; (try dsimp only at hSw); go_simp; (try (with_reducible rfl)))
        (try simp only [Act.put, List.setIfInBounds_toArray, List.set_cons_zero, List.set_cons_succ])
        refine wpAnyH_take (i := 3) (oi := _) (v := ?_) (op_atC rfl) (by kernel_rfl) (by kernel_rfl) (by kernel_rfl) (fun _ _ _ h => h) (Or.inl ⟨by rfl, ?_⟩) hHeld ?_
        rotate_left 1
        focus (intro W hSw; (try dsimp only at hSw); go_simp; (try (with_reducible rfl)))
        (try simp only [Act.put, List.setIfInBounds_toArray, List.set_cons_zero, List.set_cons_succ])
        refine wpAnyH_take (i := 5) (oi := _) (v := ?_) (op_atC rfl) (by kernel_rfl) (by kernel_rfl) (by kernel_rfl) (fun _ _ _ h => h) (Or.inl ⟨by rfl, ?_⟩) hHeld ?_
        rotate_left 1
        focus (intro W hSw; (try dsimp only at hSw); go_simp; (try (with_reducible rfl)))
        (try simp only [Act.put, List.setIfInBounds_toArray, List.set_cons_zero, List.set_cons_succ])
        refine wpAnyH_ready (rs := [4, 6]) (by kernel_rfl) (by simp) ?_
        refine AllReadyH.cons (o := _) (op_atC rfl) (fun Kc hKc => ?_) ?_
        focus
          have y1 := k1.val 0 rfl
          go_simp
          clear y1
          refine hKc.out _ _ ?_ (fun hHeld' => ?_)
          focus exact hHeld
          clear hHeld'
          clear hKc Kc
          (try simp only [Act.put, List.setIfInBounds_toArray, List.set_cons_zero, List.set_cons_succ])
          refine wpAnyH_ready (rs := [6]) (by kernel_rfl) (by simp) ?_
          refine AllReadyH.cons (o := _) (op_atC rfl) (fun Kc hKc => ?_) AllReadyH.nil
          go_simp
          refine hKc.out _ _ ?_ (fun hHeld' => ?_)
          focus exact ⟨((Below.refl _ _).alloc (Nat.le_refl _) _).cell (World.block_lt_of_cell? _ _ hHeld.1) |>.trans hHeld.1, ((Below.refl _ _).alloc (Nat.le_refl _) _).cell (World.block_lt_of_cell? _ _ hHeld.2.1) |>.trans hHeld.2.1, ((Below.refl _ _).alloc (Nat.le_refl _) _).cell (World.block_lt_of_cell? _ _ hHeld.2.2) |>.trans hHeld.2.2⟩
          clear hHeld
          have hHeld := hHeld'
          clear hHeld'
          have hb := (Below.refl w5.heap.size w5).alloc (Nat.le_refl _) (.cells #[.string c.name, .slice ga c.fields.length gc, .map (some mi)] 106)
          have kS := Blk.new w5 #[.string c.name, .slice ga c.fields.length gc, .map (some mi)] 106
          have k1 := k1.grew hb
          have k4 := k4.grew hb
          have hM := hM.grew hb
          have hR := hR.grew hb
          have hxo := own_grewG hxo hb
          have hxm := hxm.grew hb
          have hbw := hbw.trans (hb.mono hbw.size)
          have hsz := Nat.lt_of_lt_of_le hsz hb.size
          clear hb
          generalize w5.alloc _ = w6 at *
          generalize w5.heap.size = G at *
          clear hKc Kc
          (try simp only [Act.put, List.setIfInBounds_toArray, List.set_cons_zero, List.set_cons_succ])
          refine wpAnyH_ready (rs := [7]) (by kernel_rfl) (by simp) ?_
          refine AllReadyH.cons (o := _) (op_atC rfl) (fun Kc hKc => ?_) AllReadyH.nil
          have hr1 : some L ≠ v.ownBlock := fun e => own_notblk hR.row k1 (by decide) e.symm
          have hMr : some w.heap.size ≠ v.ownBlock := fun e => own_notmap hR.row hM e.symm
          have hXr : some X ≠ v.ownBlock := fun q => HX.out _ q.symm rfl
          refine step_append_lies _ (by rfl) _ _ _ (by rfl) (L + 1) 106 i0 _ 3 48 Tryd.underlying99 Z.out.1 Z.out.2.1 Z.out.2.2.1 Z.out.2.2.2 rfl (by decide) v l.length (l.flatMap rowC) (by rfl) hR.row ⟨G, 0, none⟩ 1 1 [.string c.name, .slice ga c.fields.length gc, .map (some mi)] (by rfl) (by rfl) (World.news_of_block kS) (by simp [Value.oneCell']) (by decide) (by have h1 := HLK.out; unfold maxLen; omega) (by have h1 := HLK.out; omega) (by have := k1.lt; omega) _ rfl ?_
          intro g cap w7 hown hgrow hat hlt2
          refine hKc.out _ _ ?_ (fun hHeld' => ?_)
          focus exact ⟨hgrow.cell hHeld.1 hXr, hgrow.cell hHeld.2.1 hXr, hgrow.cell hHeld.2.2 hXr⟩
          clear hHeld
          have hHeld := hHeld'
          clear hHeld'
          have k1 := k1.of (hgrow.block _ k1.lt hr1)
          have k4 := k4.of (hgrow.block _ k4.lt hXr)
          have hM := hM.grown hgrow hMr
          have hbw := hbw.grown hgrow hbw.size (fun q hq => by have := (own_ltG hR.row hq).1; omega)
          have hR := hR.app (x := (c, .slice ga c.fields.length gc, mi)) ⟨hxo, hmi, hxm⟩ hgrow hown
          clear hgrow hat hlt2 kS hown hxo hxm
          clear hKc Kc
          (try simp only [Act.put, List.setIfInBounds_toArray, List.set_cons_zero, List.set_cons_succ])
          refine wpAnyH_take (i := 8) (oi := _) (v := ?_) (op_atC rfl) (by kernel_rfl) (by kernel_rfl) (by kernel_rfl) (fun _ _ _ h => h) (Or.inl ⟨by rfl, ?_⟩) hHeld ?_
          rotate_left 1
          focus (intro W hSw; (try dsimp only at hSw); go_simp; (try (with_reducible rfl)))
          (try simp only [Act.put, List.setIfInBounds_toArray, List.set_cons_zero, List.set_cons_succ])
          refine wpAnyH_take (i := 9) (oi := _) (v := ?_) (op_atC rfl) (by kernel_rfl) (by kernel_rfl) (by kernel_rfl) (fun _ _ _ h => h) (Or.inl ⟨by rfl, ?_⟩) hHeld ?_
          rotate_left 1
          focus (intro W hSw; (try dsimp only at hSw); go_simp; (try (with_reducible rfl)))
          (try simp only [Act.put, List.setIfInBounds_toArray, List.set_cons_zero, List.set_cons_succ])
          refine wpAnyH_ready (rs := [10]) (by kernel_rfl) (by simp) ?_
          refine AllReadyH.cons (o := _) (op_atC rfl) (fun Kc hKc => ?_) AllReadyH.nil
          have hLX : L ≠ X := by omega
          have y1 := k1.val 0 rfl
          have f1 := k1.frozen 0
          go_simp
          refine hKc.out _ _ ?_ (fun hHeld' => ?_)
          focus exact ⟨(World.cell?_setCell_far _ _ _ _ hLX).trans hHeld.1, (World.cell?_setCell_far _ _ _ _ hLX).trans hHeld.2.1, (World.cell?_setCell_far _ _ _ _ hLX).trans hHeld.2.2⟩
          clear hHeld hHeld' y1 f1
          have hT := (Touch.refl (fun x => x = L) w7).setCell (p := ⟨L, 0, none⟩) rfl (Value.slice (some ⟨g, 0, none⟩) (l.length + 1) cap)
          have k1 := k1.set 0 (Value.slice (some ⟨g, 0, none⟩) (l.length + 1) cap)
          have hM := hM.touch hT (by omega)
          have hR := hR.touch hT (fun g h1 _ _ e => by omega) (fun x hx e => by have := (hR.inner x hx).2.1; omega)
          have hbw := hbw.trans (hT.below (B := w.heap.size) hbw.size (fun q hq => by omega))
          clear hT
          generalize World.setCell _ _ _ = w8 at *
          clear hKc Kc
          (try simp only [Act.put, List.setIfInBounds_toArray, List.set_cons_zero, List.set_cons_succ])
          refine wpAnyH_done (by kernel_rfl) ?_ _
          clear k4 hsz
          go_wp2
          go_roundw
          case rel => exact ⟨k + 1, l ++ [(c, .slice ga c.fields.length gc, mi)], _, by omega, by go_num, by rw [List.map_append, hm, HTK.out]; rfl, HG.out, k1, HN3.out ▸ hM, hR, hbw⟩
          case measure => simp [intOf]; omega
        refine AllReadyH.cons (o := _) (op_atC rfl) (fun Kc hKc => ?_) AllReadyH.nil
        go_simp
        refine hKc.out _ _ ?_ (fun hHeld' => ?_)
        focus exact ⟨((Below.refl _ _).alloc (Nat.le_refl _) _).cell (World.block_lt_of_cell? _ _ hHeld.1) |>.trans hHeld.1, ((Below.refl _ _).alloc (Nat.le_refl _) _).cell (World.block_lt_of_cell? _ _ hHeld.2.1) |>.trans hHeld.2.1, ((Below.refl _ _).alloc (Nat.le_refl _) _).cell (World.block_lt_of_cell? _ _ hHeld.2.2) |>.trans hHeld.2.2⟩
        clear hHeld
        have hHeld := hHeld'
        clear hHeld'
        have hb := (Below.refl w5.heap.size w5).alloc (Nat.le_refl _) (.cells #[.string c.name, .slice ga c.fields.length gc, .map (some mi)] 106)
        have kS := Blk.new w5 #[.string c.name, .slice ga c.fields.length gc, .map (some mi)] 106
        have k1 := k1.grew hb
        have k4 := k4.grew hb
        have hM := hM.grew hb
        have hR := hR.grew hb
        have hxo := own_grewG hxo hb
        have hxm := hxm.grew hb
        have hbw := hbw.trans (hb.mono hbw.size)
        have hsz := Nat.lt_of_lt_of_le hsz hb.size
        clear hb
        generalize w5.alloc _ = w9 at *
        generalize w5.heap.size = G at *
        clear hKc Kc
        (try simp only [Act.put, List.setIfInBounds_toArray, List.set_cons_zero, List.set_cons_succ])
        refine wpAnyH_ready (rs := [4]) (by kernel_rfl) (by simp) ?_
        refine AllReadyH.cons (o := _) (op_atC rfl) (fun Kc hKc => ?_) AllReadyH.nil
        have y1 := k1.val 0 rfl
        go_simp
        clear y1
        refine hKc.out _ _ ?_ (fun hHeld' => ?_)
        focus exact hHeld
        clear hHeld'
        clear hKc Kc
        (try simp only [Act.put, List.setIfInBounds_toArray, List.set_cons_zero, List.set_cons_succ])
        refine wpAnyH_ready (rs := [7]) (by kernel_rfl) (by simp) ?_
        refine AllReadyH.cons (o := _) (op_atC rfl) (fun Kc hKc => ?_) AllReadyH.nil
        have hr1 : some L ≠ v.ownBlock := fun e => own_notblk hR.row k1 (by decide) e.symm
        have hMr : some w.heap.size ≠ v.ownBlock := fun e => own_notmap hR.row hM e.symm
        have hXr : some X ≠ v.ownBlock := fun q => HX.out _ q.symm rfl
        refine step_append_lies _ (by rfl) _ _ _ (by rfl) (L + 1) 106 i0 _ 3 48 Tryd.underlying99 Z.out.1 Z.out.2.1 Z.out.2.2.1 Z.out.2.2.2 rfl (by decide) v l.length (l.flatMap rowC) (by rfl) hR.row ⟨G, 0, none⟩ 1 1 [.string c.name, .slice ga c.fields.length gc, .map (some mi)] (by rfl) (by rfl) (World.news_of_block kS) (by simp [Value.oneCell']) (by decide) (by have h1 := HLK.out; unfold maxLen; omega) (by have h1 := HLK.out; omega) (by have := k1.lt; omega) _ rfl ?_
        intro g cap w10 hown hgrow hat hlt2
        refine hKc.out _ _ ?_ (fun hHeld' => ?_)
        focus exact ⟨hgrow.cell hHeld.1 hXr, hgrow.cell hHeld.2.1 hXr, hgrow.cell hHeld.2.2 hXr⟩
        clear hHeld
        have hHeld := hHeld'
        clear hHeld'
        have k1 := k1.of (hgrow.block _ k1.lt hr1)
        have k4 := k4.of (hgrow.block _ k4.lt hXr)
        have hM := hM.grown hgrow hMr
        have hbw := hbw.grown hgrow hbw.size (fun q hq => by have := (own_ltG hR.row hq).1; omega)
        have hR := hR.app (x := (c, .slice ga c.fields.length gc, mi)) ⟨hxo, hmi, hxm⟩ hgrow hown
        clear hgrow hat hlt2 kS hown hxo hxm
        clear hKc Kc
        (try simp only [Act.put, List.setIfInBounds_toArray, List.set_cons_zero, List.set_cons_succ])
        refine wpAnyH_take (i := 8) (oi := _) (v := ?_) (op_atC rfl) (by kernel_rfl) (by kernel_rfl) (by kernel_rfl) (fun _ _ _ h => h) (Or.inl ⟨by rfl, ?_⟩) hHeld ?_
        rotate_left 1
        focus (intro W hSw; (try dsimp only at hSw); go_simp; (try (with_reducible rfl)))
        (try simp only [Act.put, List.setIfInBounds_toArray, List.set_cons_zero, List.set_cons_succ])
        refine wpAnyH_take (i := 9) (oi := _) (v := ?_) (op_atC rfl) (by kernel_rfl) (by kernel_rfl) (by kernel_rfl) (fun _ _ _ h => h) (Or.inl ⟨by rfl, ?_⟩) hHeld ?_
        rotate_left 1
        focus (intro W hSw; (try dsimp only at hSw); go_simp; (try (with_reducible rfl)))
        (try simp only [Act.put, List.setIfInBounds_toArray, List.set_cons_zero, List.set_cons_succ])
        refine wpAnyH_ready (rs := [10]) (by kernel_rfl) (by simp) ?_
        refine AllReadyH.cons (o := _) (op_atC rfl) (fun Kc hKc => ?_) AllReadyH.nil
        have hLX : L ≠ X := by omega
        have y1 := k1.val 0 rfl
        have f1 := k1.frozen 0
        go_simp
        refine hKc.out _ _ ?_ (fun hHeld' => ?_)
        focus exact ⟨(World.cell?_setCell_far _ _ _ _ hLX).trans hHeld.1, (World.cell?_setCell_far _ _ _ _ hLX).trans hHeld.2.1, (World.cell?_setCell_far _ _ _ _ hLX).trans hHeld.2.2⟩
        clear hHeld hHeld' y1 f1
        have hT := (Touch.refl (fun x => x = L) w10).setCell (p := ⟨L, 0, none⟩) rfl (Value.slice (some ⟨g, 0, none⟩) (l.length + 1) cap)
        have k1 := k1.set 0 (Value.slice (some ⟨g, 0, none⟩) (l.length + 1) cap)
        have hM := hM.touch hT (by omega)
        have hR := hR.touch hT (fun g h1 _ _ e => by omega) (fun x hx e => by have := (hR.inner x hx).2.1; omega)
        have hbw := hbw.trans (hT.below (B := w.heap.size) hbw.size (fun q hq => by omega))
        clear hT
        generalize World.setCell _ _ _ = w11 at *
        clear hKc Kc
        (try simp only [Act.put, List.setIfInBounds_toArray, List.set_cons_zero, List.set_cons_succ])
        refine wpAnyH_done (by kernel_rfl) ?_ _
        clear k4 hsz
        go_wp2
        go_roundw
        case rel => exact ⟨k + 1, l ++ [(c, .slice ga c.fields.length gc, mi)], _, by omega, by go_num, by rw [List.map_append, hm, HTK.out]; rfl, HG.out, k1, HN3.out ▸ hM, hR, hbw⟩
        case measure => simp [intOf]; omega
    · have hlt' : ¬ (k : Int) < (cl.length : Int) := by omega
      have hk' : k = cl.length := by omega
      rw [hk', List.take_length] at hm h0 hM
      have HF := Lib.hid (And.intro hm (And.intro h0 (And.intro k1 (And.intro hM (And.intro hR hbw)))))
      clear hm h0 k1 hM hR hbw
      go_wp2
      obtain ⟨hm, h0, k1, hM, hR, hbw⟩ := HF.out
      refine bodyPost_ret (v := .tuple #[.pointer (some ⟨L, 0, none⟩), .int .i64 0, .int .i64 0]) (by simp [results, Tryd.results23, go_sem]) rfl ⟨hbw, .inr ⟨by rw [HTE.out]; exact h0, L, v, w.heap.size, l, rfl, ⟨k1, by rw [hm]; exact hM, hR.sub (by omega), by omega, Nat.le_refl _⟩, hm⟩⟩
end Go.Proofs.YtohmnjejchppkaaDoor
/- The table's methods: all, at, Count, Head, Type, refers, Fits; a header's words. Condition: the table is there. -/
namespace Go.Proofs.YtohmnjejchppkaaDoor
open Go.RowKit
set_option linter.unusedVariables false
theorem rows_at {w : World} {lo : Nat} {v : Value} {l : List (ClsD × Value × Nat)} (h : RowsS w lo v l) {i : Nat} (hi : i < l.length) : ∃ g cap, v = .slice (some ⟨g, 0, none⟩) l.length cap ∧ w.cell? ⟨g, i * 3, none⟩ = some (.string l[i].1.name) ∧ w.cell? ⟨g, i * 3 + 1, none⟩ = some l[i].2.1 ∧ w.cell? ⟨g, i * 3 + 2, none⟩ = some (.map (some l[i].2.2)) ∧ ∃ a c, l[i].2.1 = .slice a l[i].1.fields.length c := by
  obtain ⟨g, cap, hv, _, _, _, _, hc⟩ := own_cellG h.row (by omega)
  have hf := fun j hj => flat_at rowC 3 (fun _ => rfl) l i j hi hj
  refine ⟨g, cap, hv, hc (i * 3 + 0) _ (by rw [hf 0 (by decide)]; rfl), hc (i * 3 + 1) _ (by rw [hf 1 (by decide)]; rfl), hc (i * 3 + 2) _ (by rw [hf 2 (by decide)]; rfl), row_shape (h.inner _ (List.getElem_mem hi)).1⟩
theorem all_any (w : World) (lo t m : Nat) (v : Value) (l : List (ClsD × Value × Nat)) (h : TabS w lo t v m l) :
    Calls Tryd.prog 86 #[.pointer (some ⟨t, 0, none⟩)] w fun e w' => e = .returned v ∧ w' = w := by
  have c0 := h.blk.val 0 rfl
  clear h
  go_enter Tryd.func86, Tryd.ntmps86
  go_wp2
  go_ret
  exact ⟨rfl, rfl⟩
/-- is there a class with this number? -/
def atB (n : Nat) (i : Int) : Bool := decide (0 ≤ i) && decide (i < (n : Int))
set_option maxRecDepth 100000 in
set_option maxHeartbeats 1000000 in
theorem at_no (w : World) (lo t m : Nat) (v : Value) (l : List (ClsD × Value × Nat)) (i : Int) (h : TabS w lo t v m l) (hi : atB l.length i = false) :
    Calls Tryd.prog 73 #[.pointer (some ⟨t, 0, none⟩), .int .i64 i] w fun e w' => e = .returned (.tuple #[.agg #[.string ⟨#[]⟩, .slice none 0 0, .map none], .bool false]) ∧ Below w.heap.size w w' := by
  obtain ⟨a, c, rfl⟩ := row_shape h.rows.row
  have hb : Below w.heap.size w (w.alloc (.cells #[.string ⟨#[]⟩, .slice none 0 0, .map none] 106)) := (Below.refl _ _).alloc (Nat.le_refl _) _
  have AL := Lib.hid (all_any _ lo t m _ l (h.grew hb))
  have HB := Lib.hid hb
  clear h hb
  by_cases h1 : i < 0
  · clear hi
    go_enter Tryd.func73, Tryd.ntmps73
    go_wp2_with (go_at_call 86; refine AL.out.mono ?_; rintro e w' ⟨rfl, rfl⟩)
    refine bodyPost_ret (v := .tuple #[.agg #[.string ⟨#[]⟩, .slice none 0 0, .map none], .bool false]) (by simp [results, Tryd.results73, go_sem]) rfl ⟨rfl, HB.out⟩
  · have h2 : (l.length : Int) ≤ i := by
      unfold atB at hi
      simp at hi
      exact hi (by omega)
    clear hi
    go_enter Tryd.func73, Tryd.ntmps73
    go_wp2_with (go_at_call 86; refine AL.out.mono ?_; rintro e w' ⟨rfl, rfl⟩)
    refine bodyPost_ret (v := .tuple #[.agg #[.string ⟨#[]⟩, .slice none 0 0, .map none], .bool false]) (by simp [results, Tryd.results73, go_sem]) rfl ⟨rfl, HB.out⟩
set_option maxRecDepth 100000 in
set_option maxHeartbeats 1000000 in
theorem at_yes (w : World) (lo t m : Nat) (v : Value) (l : List (ClsD × Value × Nat)) (i : Nat) (h : TabS w lo t v m l) (hi : i < l.length) :
    Calls Tryd.prog 73 #[.pointer (some ⟨t, 0, none⟩), .int .i64 i] w fun e w' => e = .returned (.tuple #[.agg #[.string l[i].1.name, l[i].2.1, .map (some l[i].2.2)], .bool true]) ∧ Below w.heap.size w w' := by
  have hb : Below w.heap.size w (w.alloc (.cells #[.string ⟨#[]⟩, .slice none 0 0, .map none] 106)) := (Below.refl _ _).alloc (Nat.le_refl _) _
  obtain ⟨g, cap, rfl, c0, c1, c2, fa, fc, hfv⟩ := rows_at (h.grew hb).rows hi
  have AL := Lib.hid (all_any _ lo t m _ l (h.grew hb))
  have HB := Lib.hid hb
  have hg : g < w.heap.size := (own_ltG h.rows.row rfl).2
  rw [hfv] at c1 ⊢
  generalize l[i].1.name = nm at *
  generalize l[i].2.2 = mi at *
  generalize l[i].1.fields.length = fn at *
  have i1 : (0 : Int) ≤ (i : Int) ∧ (i : Int) < (l.length : Int) := ⟨by omega, by omega⟩
  have i2 : 0 < l.length := by omega
  have n1 : ¬ (i : Int) < 0 := by omega
  have n2 : ¬ (l.length : Int) ≤ (i : Int) := by omega
  clear h hb hfv hi
  go_enter Tryd.func73, Tryd.ntmps73
  go_wp2_with (go_at_call 86; refine AL.out.mono ?_; rintro e w' ⟨rfl, rfl⟩)
  refine bodyPost_ret (v := .tuple #[.agg #[.string nm, .slice fa fn fc, .map (some mi)], .bool true]) (by simp [results, Tryd.results73, go_sem]) rfl ⟨rfl, (Below.refl _ _).alloc (Nat.le_refl _) _⟩
theorem atB_yes {n : Nat} {i : Int} (h : atB n i = true) : ∃ j : Nat, i = (j : Int) ∧ j < n := by
  unfold atB at h
  simp at h
  exact ⟨i.toNat, by omega, by omega⟩
/-! Head -/
set_option maxRecDepth 100000 in
set_option maxHeartbeats 1000000 in
theorem thead_no (w : World) (lo t m : Nat) (v : Value) (l : List (ClsD × Value × Nat)) (i : Int) (h : TabS w lo t v m l) (hi : atB l.length i = false) :
    Calls Tryd.prog 60 #[.pointer (some ⟨t, 0, none⟩), .int .i64 i] w fun e w' => e = .returned (.tuple #[.agg #[.int .i64 0, .int .i64 0, .int .i64 0], .int .i64 21]) ∧ Below w.heap.size w w' := by
  have hb : Below w.heap.size w (w.alloc (.cells #[.int .i64 0, .int .i64 0, .int .i64 0] 56)) := (Below.refl _ _).alloc (Nat.le_refl _) _
  have k1 := Blk.new w #[.int .i64 0, .int .i64 0, .int .i64 0] 56
  have AT := Lib.hid (at_no _ lo t m v l i (h.grew hb) hi)
  have HB := Lib.hid hb
  have K1 := Lib.hid k1
  clear h hb hi k1
  go_enter Tryd.func60, Tryd.ntmps60
  go_wp2_with fail
  refine AT.out.mono ?_
  rintro e w2 ⟨rfl, hb2⟩
  have k1 := K1.out.grew hb2
  have hb := (HB.out.trans (hb2.mono HB.out.size))
  have z0 := k1.val 0 rfl
  have z1 := k1.val 1 rfl
  have z2 := k1.val 2 rfl
  have f0 := k1.frozen 0
  have f1 := k1.frozen 1
  have f2 := k1.frozen 2
  have hl := k1.lt
  have hT := (((Touch.refl (fun x => x = w.heap.size) w2).setCell (p := ⟨w.heap.size, 0, none⟩) rfl (.int .i64 0)).setCell (p := ⟨w.heap.size, 1, none⟩) rfl (.int .i64 0)).setCell (p := ⟨w.heap.size, 2, none⟩) rfl (.int .i64 0)
  have K3 := Lib.hid ((((k1.set 0 (.int .i64 0)).set 1 (.int .i64 0)).set 2 (.int .i64 0)).alloc (.cells #[.string ⟨#[]⟩, .slice none 0 0, .map none] 106))
  have HE0 := Lib.hid (hb.trans (hT.below (B := w.heap.size) hb.size (fun q hq => by omega)))
  have HE := Lib.hid (HE0.out.alloc HE0.out.size (.cells #[.string ⟨#[]⟩, .slice none 0 0, .map none] 106))
  clear k1 hb hb2 hT
  go_wp2
  clear z0 z1 z2
  have z0 := K3.out.val 0 rfl
  have z1 := K3.out.val 1 rfl
  have z2 := K3.out.val 2 rfl
  refine bodyPost_ret (v := .tuple #[.agg #[.int .i64 0, .int .i64 0, .int .i64 0], .int .i64 21]) (by simp [results, Tryd.results60, go_sem, z0, z1, z2]) rfl ⟨rfl, HE.out⟩
set_option maxRecDepth 100000 in
set_option maxHeartbeats 1000000 in
theorem thead_yes (w : World) (lo t m : Nat) (v : Value) (l : List (ClsD × Value × Nat)) (i : Nat) (h : TabS w lo t v m l) (hi : i < l.length) :
    Calls Tryd.prog 60 #[.pointer (some ⟨t, 0, none⟩), .int .i64 i] w fun e w' => e = .returned (.tuple #[.agg #[.int .i64 i, .int .i64 1, .int .i64 l[i].1.fields.length], .int .i64 0]) ∧ Below w.heap.size w w' := by
  have hb : Below w.heap.size w (w.alloc (.cells #[.int .i64 0, .int .i64 0, .int .i64 0] 56)) := (Below.refl _ _).alloc (Nat.le_refl _) _
  have k1 := Blk.new w #[.int .i64 0, .int .i64 0, .int .i64 0] 56
  have AT := Lib.hid (at_yes _ lo t m v l i (h.grew hb) hi)
  obtain ⟨g, cap, hv, c0, c1, c2, fa, fc, hfv⟩ := rows_at h.rows hi
  clear hv c0 c1 c2
  rw [hfv] at AT
  have HB := Lib.hid hb
  have K1 := Lib.hid k1
  generalize l[i].1.name = nm at *
  generalize l[i].2.2 = mi at *
  generalize l[i].1.fields.length = fn at *
  clear h hb hfv hi k1
  go_enter Tryd.func60, Tryd.ntmps60
  go_wp2_with fail
  refine AT.out.mono ?_
  rintro e w2 ⟨rfl, hb2⟩
  have k1 := K1.out.grew hb2
  have hb := (HB.out.trans (hb2.mono HB.out.size))
  have z0 := k1.val 0 rfl
  have z1 := k1.val 1 rfl
  have z2 := k1.val 2 rfl
  have f0 := k1.frozen 0
  have f1 := k1.frozen 1
  have f2 := k1.frozen 2
  have hl := k1.lt
  have hT := (((Touch.refl (fun x => x = w.heap.size) w2).setCell (p := ⟨w.heap.size, 0, none⟩) rfl (.int .i64 i)).setCell (p := ⟨w.heap.size, 1, none⟩) rfl (.int .i64 1)).setCell (p := ⟨w.heap.size, 2, none⟩) rfl (.int .i64 fn)
  have K3 := Lib.hid ((((k1.set 0 (.int .i64 i)).set 1 (.int .i64 1)).set 2 (.int .i64 fn)).alloc (.cells #[.string nm, .slice fa fn fc, .map (some mi)] 106))
  have HE0 := Lib.hid (hb.trans (hT.below (B := w.heap.size) hb.size (fun q hq => by omega)))
  have HE := Lib.hid (HE0.out.alloc HE0.out.size (.cells #[.string nm, .slice fa fn fc, .map (some mi)] 106))
  clear k1 hb hb2 hT
  go_wp2
  clear z0 z1 z2
  have z0 := K3.out.val 0 rfl
  have z1 := K3.out.val 1 rfl
  have z2 := K3.out.val 2 rfl
  refine bodyPost_ret (v := .tuple #[.agg #[.int .i64 i, .int .i64 1, .int .i64 fn], .int .i64 0]) (by simp [results, Tryd.results60, go_sem, z0, z1, z2]) rfl ⟨rfl, HE.out⟩
end Go.Proofs.YtohmnjejchppkaaDoor
/- A header's words; a field's type; which words are references; what fits. Condition: the table is there. -/
namespace Go.Proofs.YtohmnjejchppkaaDoor
open Go.RowKit
set_option linter.unusedVariables false
theorem within_anyTabn (n a b : Int) (w : World) :
    Calls Tryd.prog 62 #[.int .i64 n, .int .i64 a, .int .i64 b] w fun e w' => e = .returned (.bool (decide (a ≤ n) && decide (n ≤ b))) ∧ w' = w := by
  by_cases h1 : a ≤ n <;> by_cases h2 : n ≤ b
  all_goals
    go_enter Tryd.func62, Tryd.ntmps62
    go_wp2
    go_ret
    exact ⟨by simp [h1, h2], rfl⟩
/-- may there be an object with this header? -/
def validI (c k n : Int) : Bool := if k = 1 then (decide (0 ≤ c) && decide (c ≤ 15)) && (decide (0 ≤ n) && decide (n ≤ 15)) else if k = 2 ∨ k = 3 then decide (c = 0) && (decide (0 ≤ n) && decide (n ≤ 255)) else false
set_option maxRecDepth 100000 in
set_option maxHeartbeats 1000000 in
theorem valid_anyTabn (c k n : Int) (w : World) :
    Calls Tryd.prog 47 #[.agg #[.int .i64 c, .int .i64 k, .int .i64 n]] w fun e w' => e = .returned (.bool (validI c k n)) ∧ Below w.heap.size w w' := by
  have HB : Hid (Below w.heap.size w (w.alloc (.cells #[.int .i64 c, .int .i64 k, .int .i64 n] 56))) := (Below.refl _ _).alloc (Nat.le_refl _) _
  by_cases h1 : k = 1
  · have HV : Hid (validI c k n = ((decide (0 ≤ c) && decide (c ≤ 15)) && (decide (0 ≤ n) && decide (n ≤ 15)))) := by unfold Hid validI; rw [if_pos h1]
    have e1 : (k == 1) = true := by simpa using h1
    clear h1
    by_cases h2 : (decide (0 ≤ c) && decide (c ≤ 15)) = true
    · go_enter Tryd.func47, Tryd.ntmps47
      go_wp2_with (go_at_call 62; refine (within_anyTabn _ _ _ _).mono ?_; rintro e w' ⟨rfl, rfl⟩)
      go_ret
      exact ⟨by rw [HV.out, h2]; rfl, HB.out⟩
    · have h2 : (decide (0 ≤ c) && decide (c ≤ 15)) = false := by simpa using h2
      go_enter Tryd.func47, Tryd.ntmps47
      go_wp2_with (go_at_call 62; refine (within_anyTabn _ _ _ _).mono ?_; rintro e w' ⟨rfl, rfl⟩)
      go_ret
      exact ⟨by rw [HV.out, h2]; rfl, HB.out⟩
  have e1 : (k == 1) = false := by simpa using h1
  by_cases h3 : k = 2 ∨ k = 3
  · have HV : Hid (validI c k n = (decide (c = 0) && (decide (0 ≤ n) && decide (n ≤ 255)))) := by unfold Hid validI; rw [if_neg h1, if_pos h3]
    by_cases h2 : c = 0
    · have hc : (c == 0) = true := by simpa using h2
      have hd : decide (c = 0) = true := by simpa using h2
      rcases h3 with h3 | h3
      all_goals
        first | (have e2 : (k == 2) = true := by simpa using h3) | (have e2 : (k == 2) = false := by simp; omega)
        first | (have e3 : (k == 3) = true := by simpa using h3) | (have e3 : (k == 3) = false := by simp; omega)
        clear h1 h2 h3
        go_enter Tryd.func47, Tryd.ntmps47
        go_wp2_with (go_at_call 62; refine (within_anyTabn _ _ _ _).mono ?_; rintro e w' ⟨rfl, rfl⟩)
        go_ret
        exact ⟨by rw [HV.out, hd]; rfl, HB.out⟩
    · have hc : (c == 0) = false := by simpa using h2
      have hd : decide (c = 0) = false := by simpa using h2
      rcases h3 with h3 | h3
      all_goals
        first | (have e2 : (k == 2) = true := by simpa using h3) | (have e2 : (k == 2) = false := by simp; omega)
        first | (have e3 : (k == 3) = true := by simpa using h3) | (have e3 : (k == 3) = false := by simp; omega)
        clear h1 h2 h3
        go_enter Tryd.func47, Tryd.ntmps47
        go_wp2_with (go_at_call 62; refine (within_anyTabn _ _ _ _).mono ?_; rintro e w' ⟨rfl, rfl⟩)
        go_ret
        exact ⟨by rw [HV.out, hd]; rfl, HB.out⟩
  · have HV : Hid (validI c k n = false) := by unfold Hid validI; rw [if_neg h1, if_neg h3]
    have e2 : (k == 2) = false := by simp; omega
    have e3 : (k == 3) = false := by simp; omega
    clear h1 h3
    go_enter Tryd.func47, Tryd.ntmps47
    go_wp2
    go_ret
    exact ⟨by rw [HV.out]; rfl, HB.out⟩
theorem valid_len {c k n : Int} (h : validI c k n = true) : 0 ≤ n ∧ n ≤ 255 := by
  unfold validI at h
  split at h
  · simp at h; omega
  · split at h
    · simp at h; omega
    · cases h
def wordsI (c k n : Int) : Int := if validI c k n then 1 + n else 0
set_option maxRecDepth 100000 in
set_option maxHeartbeats 1000000 in
theorem words_anyTabn (c k n : Int) (w : World) :
    Calls Tryd.prog 36 #[.agg #[.int .i64 c, .int .i64 k, .int .i64 n]] w fun e w' => e = .returned (.int .i64 (wordsI c k n)) ∧ Below w.heap.size w w' := by
  have hb := (Below.refl w.heap.size w).alloc (Nat.le_refl _) (.cells #[.int .i64 c, .int .i64 k, .int .i64 n] 56)
  have k1 := Blk.new w #[.int .i64 c, .int .i64 k, .int .i64 n] 56
  have K1 := Lib.hid k1
  have HB := Lib.hid hb
  clear k1 hb
  go_enter Tryd.func36, Tryd.ntmps36
  go_wp2_with fail
  refine (valid_anyTabn _ _ _ _).mono ?_
  rintro e w2 ⟨rfl, hb2⟩
  have z2 := (K1.out.grew hb2).val 2 rfl
  have HB2 := Lib.hid (HB.out.trans (hb2.mono HB.out.size))
  clear hb2
  have HQ : Hid (∀ b, validI c k n = b → wordsI c k n = if b then 1 + n else 0) := fun b h => by unfold wordsI; rw [h]
  cases hv : validI c k n with
  | false =>
    have HW := Lib.hid (HQ.out false hv)
    clear HQ
    go_wp2
    go_ret
    exact ⟨by rw [HW.out]; rfl, HB2.out⟩
  | true =>
    have hn := valid_len hv
    have HW := Lib.hid (HQ.out true hv)
    clear HQ
    go_wp2
    go_ret
    exact ⟨by rw [HW.out]; rfl, HB2.out⟩
/-! a field's type -/
def typeI (cl : List ClsD) (c f : Int) : Int × Int :=
  if atB cl.length c then (match cl[c.toNat]? with | some d => if atB d.fields.length f then (match d.fields[f.toNat]? with | some x => (x.ty, 0) | none => (0, 22)) else (0, 22) | none => (0, 21)) else (0, 21)
theorem typeI_at {cl : List ClsD} {c : Nat} (hc : c < cl.length) (f : Int) : typeI cl c f = (if atB cl[c].fields.length f then (match cl[c].fields[f.toNat]? with | some x => (x.ty, (0 : Int)) | none => ((0 : Int), (22 : Int))) else ((0 : Int), (22 : Int))) := by
  unfold typeI
  rw [if_pos (by unfold atB; simp; omega)]
  simp [hc]
theorem typeI_in {cl : List ClsD} {c f : Nat} (hc : c < cl.length) (hf : f < cl[c].fields.length) : typeI cl c f = (cl[c].fields[f].ty, 0) := by
  rw [typeI_at hc, if_pos (by unfold atB; simp; omega)]
  simp [hf]
theorem typeI_out {cl : List ClsD} {c : Nat} {f : Int} (hc : c < cl.length) (hf : atB cl[c].fields.length f = false) : typeI cl c f = (0, 22) := by
  rw [typeI_at hc, if_neg (by rw [hf]; decide)]
theorem typeI_no {cl : List ClsD} {c f : Int} (hc : atB cl.length c = false) : typeI cl c f = (0, 21) := by
  unfold typeI
  rw [if_neg (by rw [hc]; decide)]
end Go.Proofs.YtohmnjejchppkaaDoor
/- What refers, what fits. Condition: the table is there. -/
namespace Go.Proofs.YtohmnjejchppkaaDoor
open Go.RowKit
set_option linter.unusedVariables false
theorem fieldsH {l : List Field} {t : TypeId} (h : l.map (fun f => (f.type, f.offset, f.name == "_")) = [(t, 0, false), (t, 1, false), (t, 2, false)]) :
    ∃ f g k, l = [f, g, k] ∧ (f.type = t ∧ f.offset = 0 ∧ ¬ f.name = "_") ∧ (g.type = t ∧ g.offset = 1 ∧ ¬ g.name = "_") ∧ (k.type = t ∧ k.offset = 2 ∧ ¬ k.name = "_") := by
  rcases l with _ | ⟨f0, _ | ⟨f1, _ | ⟨f2, _ | ⟨f3, l⟩⟩⟩⟩ <;> simp only [List.map_cons, List.map_nil, List.cons.injEq, Prod.mk.injEq, beq_eq_false_iff_ne, ne_eq, and_true, reduceCtorEq, and_false] at h
  exact ⟨f0, f1, f2, rfl, h.1, h.2⟩
theorem eq_head (w : World) (a b c x y z : Int) :
    (binOp .eql 56 (.agg #[.int .i64 a, .int .i64 b, .int .i64 c]) (.agg #[.int .i64 x, .int .i64 y, .int .i64 z])).run Tryd.prog w = .ok (.bool (a == x && (b == y && c == z))) w := by
  rw [run_eql_struct, run_equalIn_agg w 9999 _ _ _ (by kernel_rfl) (by kernel_rfl)]
  obtain ⟨f, g, k, hl, ⟨f1, f2, f3⟩, ⟨g1, g2, g3⟩, k1, k2, k3⟩ := fieldsH (l := (Tryd.prog.fieldsOf 56).toList) (t := 3) (by kernel_rfl)
  rw [hl]
  have hi : Tryd.prog.underlying 3 = some (.int .i64) := by kernel_rfl
  simp [Op.eqFields, f1, f2, f3, g1, g2, g3, k1, k2, k3, go_sem, hi]
  by_cases h1 : a = x <;> by_cases h2 : b = y <;> by_cases h3 : c = z <;> simp [h1, h2, h3]
def refI (cl : List ClsD) (c k i : Int) : Bool := if k = 1 then (decide ((typeI cl c i).2 = 0) && decide ((typeI cl c i).1 = 2)) else decide (k = 3)
/-- can an object with this header be? -/
def fitI (cl : List ClsD) (c k n : Int) : Bool := if k = 1 then (match cl[c.toNat]? with | some d => decide (0 ≤ c) && decide (n = (d.fields.length : Int)) | none => false) else validI c k n
theorem fitI_at {cl : List ClsD} {c : Nat} (hc : c < cl.length) (n : Int) : fitI cl c 1 n = decide (n = (cl[c].fields.length : Int)) := by
  unfold fitI
  rw [if_pos rfl]
  simp [hc]
theorem fitI_no {cl : List ClsD} {c : Int} (hc : atB cl.length c = false) (n : Int) : fitI cl c 1 n = false := by
  unfold fitI
  rw [if_pos rfl]
  unfold atB at hc
  by_cases h0 : 0 ≤ c
  · have : ¬ c.toNat < cl.length := by
      simp at hc
      have := hc h0
      omega
    simp [this]
  · split <;> simp [h0]
theorem words_pos {c k n : Int} : decide (0 < wordsI c k n) = validI c k n := by
  unfold wordsI
  cases h : validI c k n with
  | true => have := valid_len h; simp; omega
  | false => simp
set_option maxRecDepth 100000 in
set_option maxHeartbeats 1000000 in
theorem fits_any (w : World) (lo t m : Nat) (v : Value) (l : List (ClsD × Value × Nat)) (c k n : Int) (h : TabS w lo t v m l) :
    Calls Tryd.prog 44 #[.pointer (some ⟨t, 0, none⟩), .agg #[.int .i64 c, .int .i64 k, .int .i64 n]] w fun e w' => e = .returned (.bool (fitI (l.map (·.1)) c k n)) ∧ Below w.heap.size w w' := by
  have hb := (Below.refl w.heap.size w).alloc (Nat.le_refl _) (.cells #[.int .i64 c, .int .i64 k, .int .i64 n] 56)
  have k1 := Blk.new w #[.int .i64 c, .int .i64 k, .int .i64 n] 56
  have HB := Lib.hid hb
  have K1 := Lib.hid k1
  have HT := Lib.hid (h.grew hb)
  clear h hb k1
  by_cases h1 : k = 1
  · subst h1
    cases ha : atB l.length c with
    | false =>
      have HQ : Hid (fitI (l.map (·.1)) c 1 n = false) := fitI_no (by rw [List.length_map]; exact ha) n
      have HD := Lib.hid (thead_no _ lo t m v l c HT.out ha)
      clear ha HT
      go_enter Tryd.func44, Tryd.ntmps44
      go_wp2_with fail
      refine HD.out.mono ?_
      rintro e w2 ⟨rfl, hb2⟩
      have hb := HB.out.trans (hb2.mono HB.out.size)
      have HB2 := Lib.hid (hb.alloc hb.size (.cells #[.int .i64 0, .int .i64 0, .int .i64 0] 56))
      clear hb hb2
      go_wp2
      go_ret
      exact ⟨by rw [HQ.out]; rfl, HB2.out⟩
    | true =>
      obtain ⟨i, rfl, hi⟩ := atB_yes ha
      have hge : (l.map (·.1))[i]'(by rw [List.length_map]; exact hi) = l[i].1 := by simp
      have HQ : Hid (fitI (l.map (·.1)) i 1 n = decide (n = (l[i].1.fields.length : Int))) := by
        have := fitI_at (cl := l.map (·.1)) (c := i) (by rw [List.length_map]; exact hi) n
        rw [hge] at this
        exact this
      have HD := Lib.hid (thead_yes _ lo t m v l i HT.out hi)
      have HE := Lib.hid (fun W => eq_head W i 1 n i 1 (l[i].1.fields.length : Int))
      clear ha HT hge
      generalize l[i].1.fields.length = fn at *
      clear hi
      go_enter Tryd.func44, Tryd.ntmps44
      go_wp2_with fail
      refine HD.out.mono ?_
      rintro e w2 ⟨rfl, hb2⟩
      have hb := HB.out.trans (hb2.mono HB.out.size)
      have hb3 := (Below.refl w2.heap.size w2).alloc (Nat.le_refl _) (.cells #[.int .i64 i, .int .i64 1, .int .i64 fn] 56)
      have k1 := (K1.out.grew hb2).grew hb3
      have HB2 := Lib.hid (hb.trans (hb3.mono hb.size))
      have z0 := k1.val 0 rfl
      have z1 := k1.val 1 rfl
      have z2 := k1.val 2 rfl
      have he := HE.out
      clear hb hb2 hb3 k1
      go_wp2
      go_ret
      exact ⟨by rw [HQ.out]; simp; rfl, HB2.out⟩
  · have e1 : (k != 1) = true := by simpa using h1
    have HQ : Hid (fitI (l.map (·.1)) c k n = decide (0 < wordsI c k n)) := by unfold Hid; rw [words_pos]; unfold fitI; rw [if_neg h1]
    clear h1 HT
    go_enter Tryd.func44, Tryd.ntmps44
    go_wp2_with fail
    refine (words_anyTabn _ _ _ _).mono ?_
    rintro e w2 ⟨rfl, hb2⟩
    have HB2 := Lib.hid (HB.out.trans (hb2.mono HB.out.size))
    clear hb2
    go_wp2
    go_ret
    exact ⟨by rw [HQ.out]; rfl, HB2.out⟩
end Go.Proofs.YtohmnjejchppkaaDoor
