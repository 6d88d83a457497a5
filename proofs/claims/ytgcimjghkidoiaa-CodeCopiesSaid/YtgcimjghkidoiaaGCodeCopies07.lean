/- Texts of this seat, one behind the other: each says at its head what it holds. No condition of its own. -/
import Derived.Test.YtgcimjghkidoiaaGCodeCopies06
/- copyClass: a class of one's own. Condition: the class is there, its texts are not too long. -/
namespace Go.Proofs.Ytgcimjghkidoiaa
open Go.RowKit
set_option linter.unusedVariables false
set_option maxRecDepth 100000 in
set_option maxHeartbeats 8000000 in
theorem cclass_any (w : World) (B : Nat) (c : ClsD) (v : Value) (h : RdRow 2 ElF B w v c.fields) (hB : B ≤ w.heap.size) (hT : Tx c.name ∧ ∀ f ∈ c.fields, Tx f.name) (hn : c.fields.length ≤ 1000) :
    Calls Try.prog 39 #[.agg #[.string c.name, v]] w fun e w' => ∃ v', e = .returned (.agg #[.string c.name, v']) ∧ w'.ownsRow w.heap.size 45 2 v' c.fields.length (c.fields.flatMap fldC) ∧ Below w.heap.size w w' := by
  obtain ⟨a, q, rfl⟩ := rd_shape h
  obtain ⟨i0, hi, hz0, hz1, hz2⟩ := info_parts info_fld
  have Z := Lib.hid (And.intro hi (And.intro hz0 (And.intro hz1 hz2)))
  have R1 := Lib.hid (fun W (hb : Below B w W) i (hi : i < c.fields.length) => rd_at (h.keep hb fun _ _ _ e r => r.keep hb e) hi)
  have HT := Lib.hid hT
  have HN := Lib.hid hn
  have HB := Lib.hid hB
  have k1 : Blk ((w.alloc (.cells #[.string c.name, .slice a c.fields.length q] 43)).alloc (.cells #[.string ⟨#[]⟩, .slice none 0 0] 43)) w.heap.size #[.string c.name, .slice a c.fields.length q] 43 := (Blk.new _ _ _).alloc _
  have k2 : Blk ((w.alloc (.cells #[.string c.name, .slice a c.fields.length q] 43)).alloc (.cells #[.string ⟨#[]⟩, .slice none 0 0] 43)) (w.heap.size + 1) #[.string ⟨#[]⟩, .slice none 0 0] 43 := Blk.new' (by simp)
  have hb0 : Below w.heap.size w ((w.alloc (.cells #[.string c.name, .slice a c.fields.length q] 43)).alloc (.cells #[.string ⟨#[]⟩, .slice none 0 0] 43)) := ((Below.refl _ _).alloc (Nat.le_refl _) _).alloc (by simp) _
  have y0 := k1.val 0 rfl
  have y1 := k1.val 1 rfl
  have K1 := Lib.hid k1
  have K2 := Lib.hid k2
  have HB0 := Lib.hid hb0
  clear h hT hn hB k1 k2 hb0 hi hz0 hz1 hz2
  go_enter Try.func39, Try.ntmps39
  go_wp2_with fail
  refine (sclone_any _ _ HT.out.1).mono ?_
  rintro e w2 ⟨rfl, hb2⟩
  have k1 := K1.out.grew hb2
  have k2 := K2.out.grew hb2
  have HB2 := Lib.hid (HB0.out.trans (hb2.mono HB0.out.size))
  clear hb2 HB0 y0 y1 K1 K2
  have y0 := k1.val 0 rfl
  have y1 := k1.val 1 rfl
  have l1 := k1.lt
  have l2 := k2.lt
  have K1 := Lib.hid k1
  have K2 := Lib.hid k2
  clear k1 k2
  go_wp2
  have k3 := Blk.new w2 #[.string c.name, .slice none 0 0] 43
  have hb3 : Below w2.heap.size w2 (w2.alloc (.cells #[.string c.name, .slice none 0 0] 43)) := (Below.refl _ _).alloc (Nat.le_refl _) _
  have k1 := K1.out.alloc (.cells #[.string c.name, .slice none 0 0] 43)
  have k2 := K2.out.alloc (.cells #[.string c.name, .slice none 0 0] 43)
  have hsz3 : (w2.alloc (.cells #[.string c.name, .slice none 0 0] 43)).heap.size = w2.heap.size + 1 := by simp
  have HB3 := HB2.out.trans (hb3.mono HB2.out.size)
  clear hb3 y0 y1 K1 K2
  generalize w2.alloc _ = w3 at *
  generalize w2.heap.size = L at *
  go_loopw [13] (fun x wr => ∃ (k : Nat) (v : Value), k ≤ c.fields.length ∧ x = .int .i64 k ∧ Blk wr w.heap.size #[.string c.name, .slice a c.fields.length q] 43 ∧ Blk wr (w.heap.size + 1) #[.string ⟨#[]⟩, .slice none 0 0] 43 ∧ Blk wr L #[.string c.name, v] 43 ∧ wr.ownsRow (L + 1) 45 2 v k ((c.fields.take k).flatMap fldC) ∧ Below w.heap.size w wr) (fun x _ => c.fields.length - (intOf x).toNat)
  case atStart => exact ⟨0, _, Nat.zero_le _, rfl, k1, k2, k3, ⟨by simp, .inl ⟨rfl, rfl⟩⟩, HB3⟩
  case round =>
    clear k1 k2 k3 HB2 HB3 hsz3
    obtain ⟨k, v, hk, rfl, k1, k2, k3, ho, hbw⟩ := hrel
    have hn1 := HN.out
    by_cases hlt : k < c.fields.length
    · have hlt' : (k : Int) < (c.fields.length : Int) := by omega
      have i1 : (0 : Int) ≤ (k : Int) ∧ (k : Int) < (c.fields.length : Int) := ⟨by omega, by omega⟩
      have i2 : 0 < c.fields.length := by omega
      obtain ⟨b, o, rfl, _, e1, e2, e3⟩ := R1.out wr (hbw.mono HB.out) k hlt
      have HF : (c.fields[k]).name.size ≤ 140737488351232 := HT.out.2 _ (List.getElem_mem hlt)
      have HTK : Hid (c.fields.take (k + 1) = c.fields.take k ++ [c.fields[k]]) := by unfold Hid; rw [List.take_add_one, List.getElem?_eq_getElem hlt]; rfl
      generalize c.fields[k] = f at *
      have hb4 := (Below.refl wr.heap.size wr).alloc (Nat.le_refl _) (.cells #[.string f.name, .int .i64 f.ty] 45)
      have k4 := Blk.new wr #[.string f.name, .int .i64 f.ty] 45
      have HX : Hid (∀ g, v.ownBlock = some g → wr.heap.size = g → False) := fun g hg e => by have := (own_ltG ho hg).2; omega
      have hL := k3.lt
      have KA := Lib.hid (And.intro k4 (And.intro (k1.grew hb4) (And.intro (k2.grew hb4) (And.intro (k3.grew hb4) (And.intro (own_grewG ho hb4) (And.intro (hbw.trans (hb4.mono hbw.size)) k4.lt))))))
      clear k1 k2 k3 k4 ho hbw hb4
      go_wp2_with fail
      obtain ⟨k4, k1, k2, k3, ho, hbw, hsz⟩ := KA.out
      clear KA e1 e2
      generalize wr.alloc _ = w4 at *
      generalize wr.heap.size = X at *
      refine wp_region_held_drew (S := (fun W' => W'.cell? ⟨X, 0, none⟩ = some (.string f.name) ∧ W'.cell? ⟨X, 1, none⟩ = some (.int .i64 f.ty))) (by kernel_rfl) ⟨k4.drew.val 0 rfl, k4.drew.val 1 rfl⟩ (fun hHeld => ?_)
      have k1 := k1.drew
      have k2 := k2.drew
      have k3 := k3.drew
      have k4 := k4.drew
      have ho := own_drew ho
      have hbw := hbw.drew
      have hsz : X < w4.drew.heap.size := hsz
      generalize w4.drew = w5 at *
      refine wpAnyH_take (i := 0) (oi := _) (v := ?_) (op_atC rfl) (by kernel_rfl) (by kernel_rfl) (by kernel_rfl) (fun _ _ _ h => h) (Or.inl ⟨by rfl, ?_⟩) hHeld ?_
      rotate_left 1
      focus (intro W hSw; (try dsimp only at hSw); go_simp; (try (with_reducible rfl)))
      (try simp only [Act.put, List.setIfInBounds_toArray, List.set_cons_zero, List.set_cons_succ])
      refine wpAnyH_take (i := 2) (oi := _) (v := ?_) (op_atC rfl) (by kernel_rfl) (by kernel_rfl) (by kernel_rfl) (fun _ _ _ h => h) (Or.inl ⟨by rfl, ?_⟩) hHeld ?_
      rotate_left 1
      focus (intro W hSw; (try dsimp only at hSw); go_simp; (try (with_reducible rfl)))
      (try simp only [Act.put, List.setIfInBounds_toArray, List.set_cons_zero, List.set_cons_succ])
      refine wpAnyH_take (i := 3) (oi := _) (v := ?_) (op_atC rfl) (by kernel_rfl) (by kernel_rfl) (by kernel_rfl) (fun _ _ _ h => h) (Or.inl ⟨by rfl, ?_⟩) hHeld ?_
      rotate_left 1
      focus (intro W hSw; (try dsimp only at hSw); go_simp; (try (with_reducible rfl)))
      (try simp only [Act.put, List.setIfInBounds_toArray, List.set_cons_zero, List.set_cons_succ])
      refine wpAnyH_take (i := 5) (oi := _) (v := ?_) (op_atC rfl) (by kernel_rfl) (by kernel_rfl) (by kernel_rfl) (fun _ _ _ h => h) (Or.inl ⟨by rfl, ?_⟩) hHeld ?_
      rotate_left 1
      focus (intro W hSw; (try dsimp only at hSw); go_simp; (try (with_reducible rfl)))
      (try simp only [Act.put, List.setIfInBounds_toArray, List.set_cons_zero, List.set_cons_succ])
      refine wpAnyH_take (i := 6) (oi := _) (v := ?_) (op_atC rfl) (by kernel_rfl) (by kernel_rfl) (by kernel_rfl) (fun _ _ _ h => h) (Or.inl ⟨by rfl, ?_⟩) hHeld ?_
      rotate_left 1
      focus (intro W hSw; (try dsimp only at hSw); go_simp; (try (with_reducible rfl)))
      (try simp only [Act.put, List.setIfInBounds_toArray, List.set_cons_zero, List.set_cons_succ])
      refine wpAnyH_ready (rs := [1, 4]) (by kernel_rfl) (by simp) ?_
      refine AllReadyH.cons (o := _) (op_atC rfl) (fun Kc hKc => ?_) ?_
      focus
        have y1 := k3.val 1 rfl
        go_simp
        clear y1
        refine hKc.out _ _ ?_ (fun hHeld' => ?_)
        focus exact hHeld
        clear hHeld'
        clear hKc Kc
        (try simp only [Act.put, List.setIfInBounds_toArray, List.set_cons_zero, List.set_cons_succ])
        refine wpAnyH_ready (rs := [4]) (by kernel_rfl) (by simp) ?_
        refine AllReadyH.cons (o := _) (op_atC rfl) (fun Kc hKc => ?_) AllReadyH.nil
        go_simp
        go_at_call 64
        (with_reducible refine (sclone_any _ _ HF).mono ?_)
        rintro e9 w6 ⟨rfl, hb⟩
        have k1 := k1.grew hb
        have k2 := k2.grew hb
        have k3 := k3.grew hb
        have k4 := k4.grew hb
        have ho := own_grewG ho hb
        have hbw := hbw.trans (hb.mono hbw.size)
        have hsz := Nat.lt_of_lt_of_le hsz hb.size
        go_wp2_with fail
        refine hKc.out _ _ ?_ (fun hHeld' => ?_)
        focus exact ⟨(hb.cell (World.block_lt_of_cell? _ _ hHeld.1)).trans hHeld.1, (hb.cell (World.block_lt_of_cell? _ _ hHeld.2)).trans hHeld.2⟩
        clear hHeld hb
        have hHeld := hHeld'
        clear hHeld'
        clear hKc Kc
        (try simp only [Act.put, List.setIfInBounds_toArray, List.set_cons_zero, List.set_cons_succ])
        refine wpAnyH_take (i := 7) (oi := _) (v := ?_) (op_atC rfl) (by kernel_rfl) (by kernel_rfl) (by kernel_rfl) (fun _ _ _ h => h) (Or.inl ⟨by rfl, ?_⟩) hHeld ?_
        rotate_left 1
        focus (intro W hSw; (try dsimp only at hSw); go_simp; (try (with_reducible rfl)))
        (try simp only [Act.put, List.setIfInBounds_toArray, List.set_cons_zero, List.set_cons_succ])
        refine wpAnyH_ready (rs := [8]) (by kernel_rfl) (by simp) ?_
        refine AllReadyH.cons (o := _) (op_atC rfl) (fun Kc hKc => ?_) AllReadyH.nil
        go_simp
        refine hKc.out _ _ ?_ (fun hHeld' => ?_)
        focus exact ⟨((Below.refl _ _).alloc (Nat.le_refl _) _).cell (World.block_lt_of_cell? _ _ hHeld.1) |>.trans hHeld.1, ((Below.refl _ _).alloc (Nat.le_refl _) _).cell (World.block_lt_of_cell? _ _ hHeld.2) |>.trans hHeld.2⟩
        clear hHeld
        have hHeld := hHeld'
        clear hHeld'
        have hb := (Below.refl w6.heap.size w6).alloc (Nat.le_refl _) (.cells #[.string f.name, .int .i64 f.ty] 45)
        have kS := Blk.new w6 #[.string f.name, .int .i64 f.ty] 45
        have k1 := k1.grew hb
        have k2 := k2.grew hb
        have k3 := k3.grew hb
        have k4 := k4.grew hb
        have ho := own_grewG ho hb
        have hbw := hbw.trans (hb.mono hbw.size)
        have hsz := Nat.lt_of_lt_of_le hsz hb.size
        clear hb
        generalize w6.alloc _ = w7 at *
        generalize w6.heap.size = G at *
        clear hKc Kc
        (try simp only [Act.put, List.setIfInBounds_toArray, List.set_cons_zero, List.set_cons_succ])
        refine wpAnyH_ready (rs := [9]) (by kernel_rfl) (by simp) ?_
        refine AllReadyH.cons (o := _) (op_atC rfl) (fun Kc hKc => ?_) AllReadyH.nil
        have hr1 : some w.heap.size ≠ v.ownBlock := fun q => by have := (own_ltG ho q.symm).1; omega
        have hr2 : some (w.heap.size + 1) ≠ v.ownBlock := fun q => by have := (own_ltG ho q.symm).1; omega
        have hr3 : some L ≠ v.ownBlock := fun q => by have := (own_ltG ho q.symm).1; omega
        have hXr : some X ≠ v.ownBlock := fun q => HX.out _ q.symm rfl
        refine step_append_lies _ (by rfl) _ _ _ (by rfl) (L + 1) 45 i0 _ 2 24 Try.underlying41 Z.out.1 Z.out.2.1 Z.out.2.2.1 Z.out.2.2.2 rfl (by decide) v k ((c.fields.take k).flatMap fldC) (by rfl) ho ⟨G, 0, none⟩ 1 1 [.string f.name, .int .i64 f.ty] (by rfl) (by rfl) (World.news_of_block kS) (by simp [Value.oneCell']) (by decide) (by have := HN.out; unfold maxLen; omega) (by have := HN.out; omega) (by have := k3.lt; omega) _ rfl ?_
        intro g cap w8 hown hgrow hat hlt
        refine hKc.out _ _ ?_ (fun hHeld' => ?_)
        focus exact ⟨hgrow.cell hHeld.1 hXr, hgrow.cell hHeld.2 hXr⟩
        clear hHeld
        have hHeld := hHeld'
        clear hHeld'
        have k1 := k1.of (hgrow.block _ k1.lt hr1)
        have k2 := k2.of (hgrow.block _ k2.lt hr2)
        have k3 := k3.of (hgrow.block _ k3.lt hr3)
        have k4 := k4.of (hgrow.block _ k4.lt hXr)
        have hbw := hbw.grown hgrow hbw.size (fun q hq => by have := (own_ltG ho hq).1; omega)
        clear hgrow hat hlt kS
        clear hKc Kc
        (try simp only [Act.put, List.setIfInBounds_toArray, List.set_cons_zero, List.set_cons_succ])
        refine wpAnyH_take (i := 10) (oi := _) (v := ?_) (op_atC rfl) (by kernel_rfl) (by kernel_rfl) (by kernel_rfl) (fun _ _ _ h => h) (Or.inl ⟨by rfl, ?_⟩) hHeld ?_
        rotate_left 1
        focus (intro W hSw; (try dsimp only at hSw); go_simp; (try (with_reducible rfl)))
        (try simp only [Act.put, List.setIfInBounds_toArray, List.set_cons_zero, List.set_cons_succ])
        refine wpAnyH_ready (rs := [11]) (by kernel_rfl) (by simp) ?_
        refine AllReadyH.cons (o := _) (op_atC rfl) (fun Kc hKc => ?_) AllReadyH.nil
        have hLX : L ≠ X := by omega
        have y1 := k3.val 1 rfl
        have f1 := k3.frozen 1
        go_simp
        refine hKc.out _ _ ?_ (fun hHeld' => ?_)
        focus exact ⟨(World.cell?_setCell_far _ _ _ _ hLX).trans hHeld.1, (World.cell?_setCell_far _ _ _ _ hLX).trans hHeld.2⟩
        clear hHeld hHeld' y1 f1
        have hT := (Touch.refl (fun x => x = L) w8).setCell (p := ⟨L, 1, none⟩) rfl (Value.slice (some ⟨g, 0, none⟩) (k + 1) cap)
        have k1 := k1.touch hT (by omega)
        have k2 := k2.touch hT (by omega)
        have k3 := k3.set 1 (Value.slice (some ⟨g, 0, none⟩) (k + 1) cap)
        have ho := own_touch hown hT (fun q hq => by have := (own_ltG hown hq).1; omega)
        have hbw := hbw.trans (hT.below (B := w.heap.size) hbw.size (fun q hq => by omega))
        clear hT hown
        generalize World.setCell _ _ _ = w9 at *
        clear hKc Kc
        (try simp only [Act.put, List.setIfInBounds_toArray, List.set_cons_zero, List.set_cons_succ])
        refine wpAnyH_done (by kernel_rfl) ?_ _
        clear k4 hsz
        go_wp2
        go_roundw
        case rel => exact ⟨k + 1, _, by omega, by go_num, k1, k2, k3, by rw [HTK.out, List.flatMap_append]; exact ho, hbw⟩
        case measure => simp [intOf]; omega
      refine AllReadyH.cons (o := _) (op_atC rfl) (fun Kc hKc => ?_) AllReadyH.nil
      go_simp
      go_at_call 64
      (with_reducible refine (sclone_any _ _ HF).mono ?_)
      rintro e9 w10 ⟨rfl, hb⟩
      have k1 := k1.grew hb
      have k2 := k2.grew hb
      have k3 := k3.grew hb
      have k4 := k4.grew hb
      have ho := own_grewG ho hb
      have hbw := hbw.trans (hb.mono hbw.size)
      have hsz := Nat.lt_of_lt_of_le hsz hb.size
      go_wp2_with fail
      refine hKc.out _ _ ?_ (fun hHeld' => ?_)
      focus exact ⟨(hb.cell (World.block_lt_of_cell? _ _ hHeld.1)).trans hHeld.1, (hb.cell (World.block_lt_of_cell? _ _ hHeld.2)).trans hHeld.2⟩
      clear hHeld hb
      have hHeld := hHeld'
      clear hHeld'
      clear hKc Kc
      (try simp only [Act.put, List.setIfInBounds_toArray, List.set_cons_zero, List.set_cons_succ])
      refine wpAnyH_take (i := 7) (oi := _) (v := ?_) (op_atC rfl) (by kernel_rfl) (by kernel_rfl) (by kernel_rfl) (fun _ _ _ h => h) (Or.inl ⟨by rfl, ?_⟩) hHeld ?_
      rotate_left 1
      focus (intro W hSw; (try dsimp only at hSw); go_simp; (try (with_reducible rfl)))
      (try simp only [Act.put, List.setIfInBounds_toArray, List.set_cons_zero, List.set_cons_succ])
      refine wpAnyH_ready (rs := [1, 8]) (by kernel_rfl) (by simp) ?_
      refine AllReadyH.cons (o := _) (op_atC rfl) (fun Kc hKc => ?_) ?_
      focus
        have y1 := k3.val 1 rfl
        go_simp
        clear y1
        refine hKc.out _ _ ?_ (fun hHeld' => ?_)
        focus exact hHeld
        clear hHeld'
        clear hKc Kc
        (try simp only [Act.put, List.setIfInBounds_toArray, List.set_cons_zero, List.set_cons_succ])
        refine wpAnyH_ready (rs := [8]) (by kernel_rfl) (by simp) ?_
        refine AllReadyH.cons (o := _) (op_atC rfl) (fun Kc hKc => ?_) AllReadyH.nil
        go_simp
        refine hKc.out _ _ ?_ (fun hHeld' => ?_)
        focus exact ⟨((Below.refl _ _).alloc (Nat.le_refl _) _).cell (World.block_lt_of_cell? _ _ hHeld.1) |>.trans hHeld.1, ((Below.refl _ _).alloc (Nat.le_refl _) _).cell (World.block_lt_of_cell? _ _ hHeld.2) |>.trans hHeld.2⟩
        clear hHeld
        have hHeld := hHeld'
        clear hHeld'
        have hb := (Below.refl w10.heap.size w10).alloc (Nat.le_refl _) (.cells #[.string f.name, .int .i64 f.ty] 45)
        have kS := Blk.new w10 #[.string f.name, .int .i64 f.ty] 45
        have k1 := k1.grew hb
        have k2 := k2.grew hb
        have k3 := k3.grew hb
        have k4 := k4.grew hb
        have ho := own_grewG ho hb
        have hbw := hbw.trans (hb.mono hbw.size)
        have hsz := Nat.lt_of_lt_of_le hsz hb.size
        clear hb
        generalize w10.alloc _ = w11 at *
        generalize w10.heap.size = G at *
        clear hKc Kc
        (try simp only [Act.put, List.setIfInBounds_toArray, List.set_cons_zero, List.set_cons_succ])
        refine wpAnyH_ready (rs := [9]) (by kernel_rfl) (by simp) ?_
        refine AllReadyH.cons (o := _) (op_atC rfl) (fun Kc hKc => ?_) AllReadyH.nil
        have hr1 : some w.heap.size ≠ v.ownBlock := fun q => by have := (own_ltG ho q.symm).1; omega
        have hr2 : some (w.heap.size + 1) ≠ v.ownBlock := fun q => by have := (own_ltG ho q.symm).1; omega
        have hr3 : some L ≠ v.ownBlock := fun q => by have := (own_ltG ho q.symm).1; omega
        have hXr : some X ≠ v.ownBlock := fun q => HX.out _ q.symm rfl
        refine step_append_lies _ (by rfl) _ _ _ (by rfl) (L + 1) 45 i0 _ 2 24 Try.underlying41 Z.out.1 Z.out.2.1 Z.out.2.2.1 Z.out.2.2.2 rfl (by decide) v k ((c.fields.take k).flatMap fldC) (by rfl) ho ⟨G, 0, none⟩ 1 1 [.string f.name, .int .i64 f.ty] (by rfl) (by rfl) (World.news_of_block kS) (by simp [Value.oneCell']) (by decide) (by have := HN.out; unfold maxLen; omega) (by have := HN.out; omega) (by have := k3.lt; omega) _ rfl ?_
        intro g cap w12 hown hgrow hat hlt
        refine hKc.out _ _ ?_ (fun hHeld' => ?_)
        focus exact ⟨hgrow.cell hHeld.1 hXr, hgrow.cell hHeld.2 hXr⟩
        clear hHeld
        have hHeld := hHeld'
        clear hHeld'
        have k1 := k1.of (hgrow.block _ k1.lt hr1)
        have k2 := k2.of (hgrow.block _ k2.lt hr2)
        have k3 := k3.of (hgrow.block _ k3.lt hr3)
        have k4 := k4.of (hgrow.block _ k4.lt hXr)
        have hbw := hbw.grown hgrow hbw.size (fun q hq => by have := (own_ltG ho hq).1; omega)
        clear hgrow hat hlt kS
        clear hKc Kc
        (try simp only [Act.put, List.setIfInBounds_toArray, List.set_cons_zero, List.set_cons_succ])
        refine wpAnyH_take (i := 10) (oi := _) (v := ?_) (op_atC rfl) (by kernel_rfl) (by kernel_rfl) (by kernel_rfl) (fun _ _ _ h => h) (Or.inl ⟨by rfl, ?_⟩) hHeld ?_
        rotate_left 1
        focus (intro W hSw; (try dsimp only at hSw); go_simp; (try (with_reducible rfl)))
        (try simp only [Act.put, List.setIfInBounds_toArray, List.set_cons_zero, List.set_cons_succ])
        refine wpAnyH_ready (rs := [11]) (by kernel_rfl) (by simp) ?_
        refine AllReadyH.cons (o := _) (op_atC rfl) (fun Kc hKc => ?_) AllReadyH.nil
        have hLX : L ≠ X := by omega
        have y1 := k3.val 1 rfl
        have f1 := k3.frozen 1
        go_simp
        refine hKc.out _ _ ?_ (fun hHeld' => ?_)
        focus exact ⟨(World.cell?_setCell_far _ _ _ _ hLX).trans hHeld.1, (World.cell?_setCell_far _ _ _ _ hLX).trans hHeld.2⟩
        clear hHeld hHeld' y1 f1
        have hT := (Touch.refl (fun x => x = L) w12).setCell (p := ⟨L, 1, none⟩) rfl (Value.slice (some ⟨g, 0, none⟩) (k + 1) cap)
        have k1 := k1.touch hT (by omega)
        have k2 := k2.touch hT (by omega)
        have k3 := k3.set 1 (Value.slice (some ⟨g, 0, none⟩) (k + 1) cap)
        have ho := own_touch hown hT (fun q hq => by have := (own_ltG hown hq).1; omega)
        have hbw := hbw.trans (hT.below (B := w.heap.size) hbw.size (fun q hq => by omega))
        clear hT hown
        generalize World.setCell _ _ _ = w13 at *
        clear hKc Kc
        (try simp only [Act.put, List.setIfInBounds_toArray, List.set_cons_zero, List.set_cons_succ])
        refine wpAnyH_done (by kernel_rfl) ?_ _
        clear k4 hsz
        go_wp2
        go_roundw
        case rel => exact ⟨k + 1, _, by omega, by go_num, k1, k2, k3, by rw [HTK.out, List.flatMap_append]; exact ho, hbw⟩
        case measure => simp [intOf]; omega
      refine AllReadyH.cons (o := _) (op_atC rfl) (fun Kc hKc => ?_) AllReadyH.nil
      go_simp
      refine hKc.out _ _ ?_ (fun hHeld' => ?_)
      focus exact ⟨((Below.refl _ _).alloc (Nat.le_refl _) _).cell (World.block_lt_of_cell? _ _ hHeld.1) |>.trans hHeld.1, ((Below.refl _ _).alloc (Nat.le_refl _) _).cell (World.block_lt_of_cell? _ _ hHeld.2) |>.trans hHeld.2⟩
      clear hHeld
      have hHeld := hHeld'
      clear hHeld'
      have hb := (Below.refl w10.heap.size w10).alloc (Nat.le_refl _) (.cells #[.string f.name, .int .i64 f.ty] 45)
      have kS := Blk.new w10 #[.string f.name, .int .i64 f.ty] 45
      have k1 := k1.grew hb
      have k2 := k2.grew hb
      have k3 := k3.grew hb
      have k4 := k4.grew hb
      have ho := own_grewG ho hb
      have hbw := hbw.trans (hb.mono hbw.size)
      have hsz := Nat.lt_of_lt_of_le hsz hb.size
      clear hb
      generalize w10.alloc _ = w14 at *
      generalize w10.heap.size = G at *
      clear hKc Kc
      (try simp only [Act.put, List.setIfInBounds_toArray, List.set_cons_zero, List.set_cons_succ])
      refine wpAnyH_ready (rs := [1]) (by kernel_rfl) (by simp) ?_
      refine AllReadyH.cons (o := _) (op_atC rfl) (fun Kc hKc => ?_) AllReadyH.nil
      have y1 := k3.val 1 rfl
      go_simp
      clear y1
      refine hKc.out _ _ ?_ (fun hHeld' => ?_)
      focus exact hHeld
      clear hHeld'
      clear hKc Kc
      (try simp only [Act.put, List.setIfInBounds_toArray, List.set_cons_zero, List.set_cons_succ])
      refine wpAnyH_ready (rs := [9]) (by kernel_rfl) (by simp) ?_
      refine AllReadyH.cons (o := _) (op_atC rfl) (fun Kc hKc => ?_) AllReadyH.nil
      have hr1 : some w.heap.size ≠ v.ownBlock := fun q => by have := (own_ltG ho q.symm).1; omega
      have hr2 : some (w.heap.size + 1) ≠ v.ownBlock := fun q => by have := (own_ltG ho q.symm).1; omega
      have hr3 : some L ≠ v.ownBlock := fun q => by have := (own_ltG ho q.symm).1; omega
      have hXr : some X ≠ v.ownBlock := fun q => HX.out _ q.symm rfl
      refine step_append_lies _ (by rfl) _ _ _ (by rfl) (L + 1) 45 i0 _ 2 24 Try.underlying41 Z.out.1 Z.out.2.1 Z.out.2.2.1 Z.out.2.2.2 rfl (by decide) v k ((c.fields.take k).flatMap fldC) (by rfl) ho ⟨G, 0, none⟩ 1 1 [.string f.name, .int .i64 f.ty] (by rfl) (by rfl) (World.news_of_block kS) (by simp [Value.oneCell']) (by decide) (by have := HN.out; unfold maxLen; omega) (by have := HN.out; omega) (by have := k3.lt; omega) _ rfl ?_
      intro g cap w15 hown hgrow hat hlt
      refine hKc.out _ _ ?_ (fun hHeld' => ?_)
      focus exact ⟨hgrow.cell hHeld.1 hXr, hgrow.cell hHeld.2 hXr⟩
      clear hHeld
      have hHeld := hHeld'
      clear hHeld'
      have k1 := k1.of (hgrow.block _ k1.lt hr1)
      have k2 := k2.of (hgrow.block _ k2.lt hr2)
      have k3 := k3.of (hgrow.block _ k3.lt hr3)
      have k4 := k4.of (hgrow.block _ k4.lt hXr)
      have hbw := hbw.grown hgrow hbw.size (fun q hq => by have := (own_ltG ho hq).1; omega)
      clear hgrow hat hlt kS
      clear hKc Kc
      (try simp only [Act.put, List.setIfInBounds_toArray, List.set_cons_zero, List.set_cons_succ])
      refine wpAnyH_take (i := 10) (oi := _) (v := ?_) (op_atC rfl) (by kernel_rfl) (by kernel_rfl) (by kernel_rfl) (fun _ _ _ h => h) (Or.inl ⟨by rfl, ?_⟩) hHeld ?_
      rotate_left 1
      focus (intro W hSw; (try dsimp only at hSw); go_simp; (try (with_reducible rfl)))
      (try simp only [Act.put, List.setIfInBounds_toArray, List.set_cons_zero, List.set_cons_succ])
      refine wpAnyH_ready (rs := [11]) (by kernel_rfl) (by simp) ?_
      refine AllReadyH.cons (o := _) (op_atC rfl) (fun Kc hKc => ?_) AllReadyH.nil
      have hLX : L ≠ X := by omega
      have y1 := k3.val 1 rfl
      have f1 := k3.frozen 1
      go_simp
      refine hKc.out _ _ ?_ (fun hHeld' => ?_)
      focus exact ⟨(World.cell?_setCell_far _ _ _ _ hLX).trans hHeld.1, (World.cell?_setCell_far _ _ _ _ hLX).trans hHeld.2⟩
      clear hHeld hHeld' y1 f1
      have hT := (Touch.refl (fun x => x = L) w15).setCell (p := ⟨L, 1, none⟩) rfl (Value.slice (some ⟨g, 0, none⟩) (k + 1) cap)
      have k1 := k1.touch hT (by omega)
      have k2 := k2.touch hT (by omega)
      have k3 := k3.set 1 (Value.slice (some ⟨g, 0, none⟩) (k + 1) cap)
      have ho := own_touch hown hT (fun q hq => by have := (own_ltG hown hq).1; omega)
      have hbw := hbw.trans (hT.below (B := w.heap.size) hbw.size (fun q hq => by omega))
      clear hT hown
      generalize World.setCell _ _ _ = w16 at *
      clear hKc Kc
      (try simp only [Act.put, List.setIfInBounds_toArray, List.set_cons_zero, List.set_cons_succ])
      refine wpAnyH_done (by kernel_rfl) ?_ _
      clear k4 hsz
      go_wp2
      go_roundw
      case rel => exact ⟨k + 1, _, by omega, by go_num, k1, k2, k3, by rw [HTK.out, List.flatMap_append]; exact ho, hbw⟩
      case measure => simp [intOf]; omega
    · have hlt' : ¬ (k : Int) < (c.fields.length : Int) := by omega
      obtain ⟨va, vc, hv⟩ := row_shape ho
      subst hv
      have y0 := k3.val 0 rfl
      have y1 := k3.val 1 rfl
      have z0 := k2.val 0 rfl
      have z1 := k2.val 1 rfl
      have f0 := k2.frozen 0
      have f1 := k2.frozen 1
      have hk' : k = c.fields.length := by omega
      have HO : Hid (wr.ownsRow (L + 1) 45 2 (.slice va k vc) c.fields.length (c.fields.flatMap fldC)) := by
        unfold Hid
        rw [show c.fields.take k = c.fields by rw [hk', List.take_length]] at ho
        rw [← hk']
        exact ho
      have hT := ((Touch.refl (fun x => x = w.heap.size + 1) wr).setCell (p := ⟨w.heap.size + 1, 0, none⟩) rfl (.string c.name)).setCell (p := ⟨w.heap.size + 1, 1, none⟩) rfl (.slice va k vc)
      have HE := Lib.hid (And.intro (own_touch HO.out hT (fun q hq => by have := (own_ltG HO.out hq).1; omega)) (hbw.trans (hT.below (B := w.heap.size) hbw.size (fun q hq => by omega))))
      have K2 := Lib.hid ((k2.set 0 (.string c.name)).set 1 (.slice va k vc))
      clear hT k1 k2 k3 ho hbw hk' HO
      go_wp2
      have z0 := K2.out.val 0 rfl
      have z1 := K2.out.val 1 rfl
      refine bodyPost_ret (v := .agg #[.string c.name, .slice va k vc]) (by simp [results, Try.results39, go_sem, z0, z1]) rfl ⟨_, rfl, own_sub HE.out.1 (by omega), HE.out.2⟩
end Go.Proofs.Ytgcimjghkidoiaa
/- copyFunc: a function of one's own. Condition: the function is there, its name is not too long. -/
namespace Go.Proofs.Ytgcimjghkidoiaa
open Go.RowKit
set_option linter.unusedVariables false
theorem Touch.cellC {R : Nat → Prop} {w w' : World} (h : Touch R w w') {a : Addr} (hl : a.block < w.heap.size) (hr : ¬ R a.block) : w'.cell? a = w.cell? a := by
  unfold World.cell?
  rw [h.block a.block hl hr]
theorem step_app_nil {ops : Array Oper} {o : Oper} {a : Act} {w : World} {K : Act → World → Prop} {Q : Exit → Act → World → Prop} {E : Prop} {t : TypeId} {vin : Value} {R : Value → World → Prop} (hgd : o.guard = none) (s x : Operand)
    (ho : o.op = .call { callee := .builtin .append, args := #[s, x], argTypes := #[t, t] }) (hs : a.eval s = .slice none 0 0) (hx : a.eval x = vin)
    (hr : ∃ v' w', (Builtin.append_ #[t, t] o.type #[.slice none 0 0, vin]).run Try.prog w = .ok v' w' ∧ R v' w')
    (h : ∀ v' w', R v' w' → K (a.put o.dst v') w') : if Region.wanted o (yielded ops a.tmps) = true then Oper.wp Try.prog o a w K Q else E := by
  have hw : Region.wanted o (yielded ops a.tmps) = true := by simp [Region.wanted, hgd]
  rw [if_pos hw]
  obtain ⟨v', w', h1, h2⟩ := hr
  unfold Oper.wp execOp
  simp only [ho, resolve, invoke, builtin, Sem.run_bind, Sem.run_pure, Result.andThen_ok, List.map_toArray, List.map_cons, List.map_nil, hs, hx, h1]
  exact h v' w' h2
theorem elI_at {w : World} (b k : Nat) (x : Int) (h : ElI w b k x) : ∀ j u, (intC x)[j]? = some u → w.cell? ⟨b, k + j, none⟩ = some u := by
  intro j u hu
  match j with
  | 0 => simp [intC] at hu; subst hu; exact h.1
  | j + 1 => simp [intC] at hu
theorem elN_at {w : World} (b k : Nat) (x : InsD) (h : ElN w b k x) : ∀ j u, (insC x)[j]? = some u → w.cell? ⟨b, k + j, none⟩ = some u := by
  intro j u hu
  match j with
  | 0 => simp [insC] at hu; subst hu; exact h.1
  | 1 => simp [insC] at hu; subst hu; exact h.2.1
  | 2 => simp [insC] at hu; subst hu; exact h.2.2.1
  | j + 3 => simp [insC] at hu
set_option maxRecDepth 100000 in
set_option maxHeartbeats 8000000 in
theorem cfun_any (w : World) (B : Nat) (f : FunD) (v1 v3 v4 : Value) (h1 : RdRow 1 ElI B w v1 f.params) (h3 : RdRow 1 ElI B w v3 f.locals) (h4 : RdRow 3 ElN B w v4 f.code) (hB : B ≤ w.heap.size) (hT : f.name.size ≤ 140737488351232) (hn : f.params.length ≤ 1000 ∧ f.locals.length ≤ 1000 ∧ f.code.length ≤ 1000) :
    Calls Try.prog 40 #[.agg #[.string f.name, v1, .int .i64 f.result, v3, v4]] w fun e w' => ∃ u1 u3 u4, e = .returned (.agg #[.string f.name, u1, .int .i64 f.result, u3, u4]) ∧ w'.ownsRow w.heap.size 3 1 u1 f.params.length (f.params.flatMap intC) ∧ w'.ownsRow w.heap.size 3 1 u3 f.locals.length (f.locals.flatMap intC) ∧ w'.ownsRow w.heap.size 51 3 u4 f.code.length (f.code.flatMap insC) ∧ Below w.heap.size w w' := by
  obtain ⟨a1, c1, rfl⟩ := rd_shape h1
  obtain ⟨a3, c3, rfl⟩ := rd_shape h3
  obtain ⟨a4, c4, rfl⟩ := rd_shape h4
  obtain ⟨i0, hi, hz0, hz1, hz2⟩ := info_parts info_intC
  obtain ⟨i1, hj, hy0, hy1, hy2⟩ := info_parts info_ins
  have A1 : Hid (∀ W (hb : Below w.heap.size w W) ty, ∃ v' w', (Builtin.append_ #[46, 46] ty #[.slice none 0 0, .slice a1 f.params.length c1]).run Try.prog W = .ok v' w' ∧ w'.ownsRow W.heap.size 3 1 v' f.params.length (f.params.flatMap intC) ∧ Below W.heap.size W w') := fun W hb ty =>
    app_nil Try.underlying46 hi hz0 hz1 hz2 rfl (by decide) W ty a1 _ c1 _ (flat_len intC 1 (fun _ => rfl) _) (flat_in (by simp [intC, Value.oneCell'])) (rd_news (by decide) (fun _ => rfl) elI_at (h1.keep (hb.mono hB) fun _ _ _ e r => r.keep (hb.mono hB) e)) hn.1 (by decide)
  have A3 : Hid (∀ W (hb : Below w.heap.size w W) ty, ∃ v' w', (Builtin.append_ #[46, 46] ty #[.slice none 0 0, .slice a3 f.locals.length c3]).run Try.prog W = .ok v' w' ∧ w'.ownsRow W.heap.size 3 1 v' f.locals.length (f.locals.flatMap intC) ∧ Below W.heap.size W w') := fun W hb ty =>
    app_nil Try.underlying46 hi hz0 hz1 hz2 rfl (by decide) W ty a3 _ c3 _ (flat_len intC 1 (fun _ => rfl) _) (flat_in (by simp [intC, Value.oneCell'])) (rd_news (by decide) (fun _ => rfl) elI_at (h3.keep (hb.mono hB) fun _ _ _ e r => r.keep (hb.mono hB) e)) hn.2.1 (by decide)
  have A4 : Hid (∀ W (hb : Below w.heap.size w W) ty, ∃ v' w', (Builtin.append_ #[47, 47] ty #[.slice none 0 0, .slice a4 f.code.length c4]).run Try.prog W = .ok v' w' ∧ w'.ownsRow W.heap.size 51 3 v' f.code.length (f.code.flatMap insC) ∧ Below W.heap.size W w') := fun W hb ty =>
    app_nil Try.underlying47 hj hy0 hy1 hy2 rfl (by decide) W ty a4 _ c4 _ (flat_len insC 3 (fun _ => rfl) _) (flat_in (by simp [insC, Value.oneCell'])) (rd_news (by decide) (fun _ => rfl) elN_at (h4.keep (hb.mono hB) fun _ _ _ e r => r.keep (hb.mono hB) e)) hn.2.2 (by decide)
  have k1 : Blk ((w.alloc (.cells #[.string f.name, .slice a1 f.params.length c1, .int .i64 f.result, .slice a3 f.locals.length c3, .slice a4 f.code.length c4] 49)).alloc (.cells #[.string ⟨#[]⟩, .slice none 0 0, .int .i64 0, .slice none 0 0, .slice none 0 0] 49)) w.heap.size #[.string f.name, .slice a1 f.params.length c1, .int .i64 f.result, .slice a3 f.locals.length c3, .slice a4 f.code.length c4] 49 := (Blk.new _ _ _).alloc _
  have k2 : Blk ((w.alloc (.cells #[.string f.name, .slice a1 f.params.length c1, .int .i64 f.result, .slice a3 f.locals.length c3, .slice a4 f.code.length c4] 49)).alloc (.cells #[.string ⟨#[]⟩, .slice none 0 0, .int .i64 0, .slice none 0 0, .slice none 0 0] 49)) (w.heap.size + 1) #[.string ⟨#[]⟩, .slice none 0 0, .int .i64 0, .slice none 0 0, .slice none 0 0] 49 := Blk.new' (by simp)
  have hb0 : Below w.heap.size w ((w.alloc (.cells #[.string f.name, .slice a1 f.params.length c1, .int .i64 f.result, .slice a3 f.locals.length c3, .slice a4 f.code.length c4] 49)).alloc (.cells #[.string ⟨#[]⟩, .slice none 0 0, .int .i64 0, .slice none 0 0, .slice none 0 0] 49)) := ((Below.refl _ _).alloc (Nat.le_refl _) _).alloc (by simp) _
  have K1 := Lib.hid k1
  have K2 := Lib.hid k2
  have HB0 := Lib.hid hb0
  clear h1 h3 h4 hB hn hi hz0 hz1 hz2 hj hy0 hy1 hy2 k1 k2 hb0
  go_enter Try.func40, Try.ntmps40
  go_wp2_with fail
  refine wp_region_held_drew (S := (fun W' => W'.cell? ⟨w.heap.size, 0, none⟩ = some (.string f.name) ∧ W'.cell? ⟨w.heap.size, 1, none⟩ = some (.slice a1 f.params.length c1) ∧ W'.cell? ⟨w.heap.size, 2, none⟩ = some (.int .i64 f.result) ∧ W'.cell? ⟨w.heap.size, 3, none⟩ = some (.slice a3 f.locals.length c3) ∧ W'.cell? ⟨w.heap.size, 4, none⟩ = some (.slice a4 f.code.length c4))) (by kernel_rfl) ⟨K1.out.drew.val 0 rfl, K1.out.drew.val 1 rfl, K1.out.drew.val 2 rfl, K1.out.drew.val 3 rfl, K1.out.drew.val 4 rfl⟩ (fun hHeld => ?_)
  have k2 := K2.out.drew
  have hbw := HB0.out.drew
  clear K1 K2 HB0
  generalize World.drew _ = w5 at *
  refine wpAnyH_take (i := 0) (oi := _) (v := ?_) (op_atC rfl) (by kernel_rfl) (by kernel_rfl) (by kernel_rfl) (fun _ _ _ h => h) (Or.inl ⟨by rfl, ?_⟩) hHeld ?_
  rotate_left 1
  focus (intro W hSw; (try dsimp only at hSw); go_simp; (try (with_reducible rfl)))
  (try simp only [Act.put, List.setIfInBounds_toArray, List.set_cons_zero, List.set_cons_succ])
  refine wpAnyH_take (i := 1) (oi := _) (v := ?_) (op_atC rfl) (by kernel_rfl) (by kernel_rfl) (by kernel_rfl) (fun _ _ _ h => h) (Or.inl ⟨by rfl, ?_⟩) hHeld ?_
  rotate_left 1
  focus (intro W hSw; (try dsimp only at hSw); go_simp; (try (with_reducible rfl)))
  (try simp only [Act.put, List.setIfInBounds_toArray, List.set_cons_zero, List.set_cons_succ])
  refine wpAnyH_take (i := 3) (oi := _) (v := ?_) (op_atC rfl) (by kernel_rfl) (by kernel_rfl) (by kernel_rfl) (fun _ _ _ h => h) (Or.inl ⟨by rfl, ?_⟩) hHeld ?_
  rotate_left 1
  focus (intro W hSw; (try dsimp only at hSw); go_simp; (try (with_reducible rfl)))
  (try simp only [Act.put, List.setIfInBounds_toArray, List.set_cons_zero, List.set_cons_succ])
  refine wpAnyH_take (i := 4) (oi := _) (v := ?_) (op_atC rfl) (by kernel_rfl) (by kernel_rfl) (by kernel_rfl) (fun _ _ _ h => h) (Or.inl ⟨by rfl, ?_⟩) hHeld ?_
  rotate_left 1
  focus (intro W hSw; (try dsimp only at hSw); go_simp; (try (with_reducible rfl)))
  (try simp only [Act.put, List.setIfInBounds_toArray, List.set_cons_zero, List.set_cons_succ])
  refine wpAnyH_take (i := 6) (oi := _) (v := ?_) (op_atC rfl) (by kernel_rfl) (by kernel_rfl) (by kernel_rfl) (fun _ _ _ h => h) (Or.inl ⟨by rfl, ?_⟩) hHeld ?_
  rotate_left 1
  focus (intro W hSw; (try dsimp only at hSw); go_simp; (try (with_reducible rfl)))
  (try simp only [Act.put, List.setIfInBounds_toArray, List.set_cons_zero, List.set_cons_succ])
  refine wpAnyH_take (i := 7) (oi := _) (v := ?_) (op_atC rfl) (by kernel_rfl) (by kernel_rfl) (by kernel_rfl) (fun _ _ _ h => h) (Or.inl ⟨by rfl, ?_⟩) hHeld ?_
  rotate_left 1
  focus (intro W hSw; (try dsimp only at hSw); go_simp; (try (with_reducible rfl)))
  (try simp only [Act.put, List.setIfInBounds_toArray, List.set_cons_zero, List.set_cons_succ])
  refine wpAnyH_take (i := 8) (oi := _) (v := ?_) (op_atC rfl) (by kernel_rfl) (by kernel_rfl) (by kernel_rfl) (fun _ _ _ h => h) (Or.inl ⟨by rfl, ?_⟩) hHeld ?_
  rotate_left 1
  focus (intro W hSw; (try dsimp only at hSw); go_simp; (try (with_reducible rfl)))
  (try simp only [Act.put, List.setIfInBounds_toArray, List.set_cons_zero, List.set_cons_succ])
  refine wpAnyH_take (i := 9) (oi := _) (v := ?_) (op_atC rfl) (by kernel_rfl) (by kernel_rfl) (by kernel_rfl) (fun _ _ _ h => h) (Or.inl ⟨by rfl, ?_⟩) hHeld ?_
  rotate_left 1
  focus (intro W hSw; (try dsimp only at hSw); go_simp; (try (with_reducible rfl)))
  (try simp only [Act.put, List.setIfInBounds_toArray, List.set_cons_zero, List.set_cons_succ])
  refine wpAnyH_take (i := 11) (oi := _) (v := ?_) (op_atC rfl) (by kernel_rfl) (by kernel_rfl) (by kernel_rfl) (fun _ _ _ h => h) (Or.inl ⟨by rfl, ?_⟩) hHeld ?_
  rotate_left 1
  focus (intro W hSw; (try dsimp only at hSw); go_simp; (try (with_reducible rfl)))
  (try simp only [Act.put, List.setIfInBounds_toArray, List.set_cons_zero, List.set_cons_succ])
  refine wpAnyH_take (i := 12) (oi := _) (v := ?_) (op_atC rfl) (by kernel_rfl) (by kernel_rfl) (by kernel_rfl) (fun _ _ _ h => h) (Or.inl ⟨by rfl, ?_⟩) hHeld ?_
  rotate_left 1
  focus (intro W hSw; (try dsimp only at hSw); go_simp; (try (with_reducible rfl)))
  (try simp only [Act.put, List.setIfInBounds_toArray, List.set_cons_zero, List.set_cons_succ])
  refine wpAnyH_ready (rs := [2]) (by kernel_rfl) (by simp) ?_
  refine AllReadyH.cons (o := _) (op_atC rfl) (fun Kc hKc => ?_) AllReadyH.nil
  go_simp
  go_at_call 64
  (with_reducible refine (sclone_any _ _ hT).mono ?_)
  rintro e9 w6 ⟨rfl, hb⟩
  have k2 := k2.grew hb
  have hbw := hbw.trans (hb.mono hbw.size)
  go_wp2_with fail
  refine hKc.out _ _ ?_ (fun hHeld' => ?_)
  focus exact ⟨(hb.cell (World.block_lt_of_cell? _ _ hHeld.1)).trans hHeld.1, (hb.cell (World.block_lt_of_cell? _ _ hHeld.2.1)).trans hHeld.2.1, (hb.cell (World.block_lt_of_cell? _ _ hHeld.2.2.1)).trans hHeld.2.2.1, (hb.cell (World.block_lt_of_cell? _ _ hHeld.2.2.2.1)).trans hHeld.2.2.2.1, (hb.cell (World.block_lt_of_cell? _ _ hHeld.2.2.2.2)).trans hHeld.2.2.2.2⟩
  clear hHeld
  have hHeld := hHeld'
  clear hHeld'
  clear hb
  clear hKc Kc
  (try simp only [Act.put, List.setIfInBounds_toArray, List.set_cons_zero, List.set_cons_succ])
  refine wpAnyH_ready (rs := [5]) (by kernel_rfl) (by simp) ?_
  refine AllReadyH.cons (o := _) (op_atC rfl) (fun Kc hKc => ?_) AllReadyH.nil
  have lw1 := k2.lt
  have lv1 := hbw.size
  refine step_app_nil (by rfl) _ _ (by rfl) (by rfl) (by rfl) (A1.out w6 hbw _) ?_
  rintro u1 w7 ⟨o1, hb⟩
  have k2 := k2.grew hb
  have hbw := hbw.trans (hb.mono hbw.size)
  refine hKc.out _ _ ?_ (fun hHeld' => ?_)
  focus exact ⟨(hb.cell (World.block_lt_of_cell? _ _ hHeld.1)).trans hHeld.1, (hb.cell (World.block_lt_of_cell? _ _ hHeld.2.1)).trans hHeld.2.1, (hb.cell (World.block_lt_of_cell? _ _ hHeld.2.2.1)).trans hHeld.2.2.1, (hb.cell (World.block_lt_of_cell? _ _ hHeld.2.2.2.1)).trans hHeld.2.2.2.1, (hb.cell (World.block_lt_of_cell? _ _ hHeld.2.2.2.2)).trans hHeld.2.2.2.2⟩
  clear hHeld
  have hHeld := hHeld'
  clear hHeld'
  clear hb
  clear hKc Kc
  (try simp only [Act.put, List.setIfInBounds_toArray, List.set_cons_zero, List.set_cons_succ])
  refine wpAnyH_ready (rs := [10]) (by kernel_rfl) (by simp) ?_
  refine AllReadyH.cons (o := _) (op_atC rfl) (fun Kc hKc => ?_) AllReadyH.nil
  have lw3 := k2.lt
  have lv3 := hbw.size
  refine step_app_nil (by rfl) _ _ (by rfl) (by rfl) (by rfl) (A3.out w7 hbw _) ?_
  rintro u3 w8 ⟨o3, hb⟩
  have k2 := k2.grew hb
  have o1 := own_grewG o1 hb
  have hbw := hbw.trans (hb.mono hbw.size)
  refine hKc.out _ _ ?_ (fun hHeld' => ?_)
  focus exact ⟨(hb.cell (World.block_lt_of_cell? _ _ hHeld.1)).trans hHeld.1, (hb.cell (World.block_lt_of_cell? _ _ hHeld.2.1)).trans hHeld.2.1, (hb.cell (World.block_lt_of_cell? _ _ hHeld.2.2.1)).trans hHeld.2.2.1, (hb.cell (World.block_lt_of_cell? _ _ hHeld.2.2.2.1)).trans hHeld.2.2.2.1, (hb.cell (World.block_lt_of_cell? _ _ hHeld.2.2.2.2)).trans hHeld.2.2.2.2⟩
  clear hHeld
  have hHeld := hHeld'
  clear hHeld'
  clear hb
  clear hKc Kc
  (try simp only [Act.put, List.setIfInBounds_toArray, List.set_cons_zero, List.set_cons_succ])
  refine wpAnyH_ready (rs := [13]) (by kernel_rfl) (by simp) ?_
  refine AllReadyH.cons (o := _) (op_atC rfl) (fun Kc hKc => ?_) AllReadyH.nil
  have lw4 := k2.lt
  have lv4 := hbw.size
  refine step_app_nil (by rfl) _ _ (by rfl) (by rfl) (by rfl) (A4.out w8 hbw _) ?_
  rintro u4 w9 ⟨o4, hb⟩
  have k2 := k2.grew hb
  have o1 := own_grewG o1 hb
  have o3 := own_grewG o3 hb
  have hbw := hbw.trans (hb.mono hbw.size)
  refine hKc.out _ _ ?_ (fun hHeld' => ?_)
  focus exact ⟨(hb.cell (World.block_lt_of_cell? _ _ hHeld.1)).trans hHeld.1, (hb.cell (World.block_lt_of_cell? _ _ hHeld.2.1)).trans hHeld.2.1, (hb.cell (World.block_lt_of_cell? _ _ hHeld.2.2.1)).trans hHeld.2.2.1, (hb.cell (World.block_lt_of_cell? _ _ hHeld.2.2.2.1)).trans hHeld.2.2.2.1, (hb.cell (World.block_lt_of_cell? _ _ hHeld.2.2.2.2)).trans hHeld.2.2.2.2⟩
  clear hHeld
  have hHeld := hHeld'
  clear hHeld'
  clear hb
  clear hKc Kc
  (try simp only [Act.put, List.setIfInBounds_toArray, List.set_cons_zero, List.set_cons_succ])
  obtain ⟨b1, q1, hu1⟩ := row_shape o1
  obtain ⟨b3, q3, hu3⟩ := row_shape o3
  obtain ⟨b4, q4, hu4⟩ := row_shape o4
  subst hu1 hu3 hu4
  refine wpAnyH_take (i := 14) (oi := _) (v := ?_) (op_atC rfl) (by kernel_rfl) (by kernel_rfl) (by kernel_rfl) (fun _ _ _ h => h) (Or.inl ⟨by rfl, ?_⟩) hHeld ?_
  rotate_left 1
  focus (intro W hSw; (try dsimp only at hSw); go_simp; (try (with_reducible rfl)))
  (try simp only [Act.put, List.setIfInBounds_toArray, List.set_cons_zero, List.set_cons_succ])
  refine wpAnyH_ready (rs := [15]) (by kernel_rfl) (by simp) ?_
  refine AllReadyH.cons (o := _) (op_atC rfl) (fun Kc hKc => ?_) AllReadyH.nil
  have z0 := k2.val 0 rfl
  have f0 := k2.frozen 0
  have z1 := k2.val 1 rfl
  have f1 := k2.frozen 1
  have z2 := k2.val 2 rfl
  have f2 := k2.frozen 2
  have z3 := k2.val 3 rfl
  have f3 := k2.frozen 3
  have z4 := k2.val 4 rfl
  have f4 := k2.frozen 4
  go_simp
  have hT := ((((((Touch.refl (fun x => x = w.heap.size + 1) w9).setCell (p := ⟨w.heap.size + 1, 0, none⟩) rfl (.string f.name)).setCell (p := ⟨w.heap.size + 1, 1, none⟩) rfl (.slice b1 f.params.length q1)).setCell (p := ⟨w.heap.size + 1, 2, none⟩) rfl (.int .i64 f.result)).setCell (p := ⟨w.heap.size + 1, 3, none⟩) rfl (.slice b3 f.locals.length q3)).setCell (p := ⟨w.heap.size + 1, 4, none⟩) rfl (.slice b4 f.code.length q4))
  have k2 := (((((k2.set 0 (.string f.name)).set 1 (.slice b1 f.params.length q1)).set 2 (.int .i64 f.result)).set 3 (.slice b3 f.locals.length q3)).set 4 (.slice b4 f.code.length q4))
  refine hKc.out _ _ ?_ (fun hHeld' => ?_)
  focus exact ⟨(hT.cellC (World.block_lt_of_cell? _ _ hHeld.1) (by simp)).trans hHeld.1, (hT.cellC (World.block_lt_of_cell? _ _ hHeld.2.1) (by simp)).trans hHeld.2.1, (hT.cellC (World.block_lt_of_cell? _ _ hHeld.2.2.1) (by simp)).trans hHeld.2.2.1, (hT.cellC (World.block_lt_of_cell? _ _ hHeld.2.2.2.1) (by simp)).trans hHeld.2.2.2.1, (hT.cellC (World.block_lt_of_cell? _ _ hHeld.2.2.2.2) (by simp)).trans hHeld.2.2.2.2⟩
  clear hHeld hHeld' z0 z1 z2 z3 z4 f0 f1 f2 f3 f4
  have o1 := own_sub (own_touch o1 hT (fun q hq => by have := (own_ltG o1 hq).1; omega)) lv1
  have o3 := own_sub (own_touch o3 hT (fun q hq => by have := (own_ltG o3 hq).1; omega)) lv3
  have o4 := own_sub (own_touch o4 hT (fun q hq => by have := (own_ltG o4 hq).1; omega)) lv4
  have hbw := hbw.trans (hT.below (B := w.heap.size) hbw.size (fun q hq => by omega))
  clear hT
  generalize World.setCell _ _ _ = w10 at *
  clear hKc Kc
  (try simp only [Act.put, List.setIfInBounds_toArray, List.set_cons_zero, List.set_cons_succ])
  refine wpAnyH_done (by kernel_rfl) ?_ _
  have HE := Lib.hid (And.intro o1 (And.intro o3 (And.intro o4 hbw)))
  clear o1 o3 o4 hbw
  go_wp2
  have z0 := k2.val 0 rfl
  have z1 := k2.val 1 rfl
  have z2 := k2.val 2 rfl
  have z3 := k2.val 3 rfl
  have z4 := k2.val 4 rfl
  refine bodyPost_ret (v := .agg #[.string f.name, .slice b1 f.params.length q1, .int .i64 f.result, .slice b3 f.locals.length q3, .slice b4 f.code.length q4]) (by simp [results, Try.results40, go_sem, z0, z1, z2, z3, z4]) rfl ⟨_, _, _, rfl, HE.out.1, HE.out.2.1, HE.out.2.2.1, HE.out.2.2.2⟩
end Go.Proofs.Ytgcimjghkidoiaa
/- slices.Equal at numbers, fields and instructions. No condition. -/
namespace Go.Proofs.Ytgcimjghkidoiaa
open Go.RowKit
set_option linter.unusedVariables false
set_option maxRecDepth 100000 in
set_option maxHeartbeats 4000000 in
theorem eqints_any (w : World) (B : Nat) (v1 v2 : Value) (l1 l2 : List Int) (h1 : RdRow 1 ElI B w v1 l1) (h2 : RdRow 1 ElI B w v2 l2) :
    Calls Try.prog 62 #[v1, v2] w fun e w' => e = .returned (.bool (decide (l1 = l2))) ∧ Quiet w w' := by
  have h1' := h1
  have h2' := h2
  obtain ⟨a1, c1, rfl⟩ := rd_shape h1'
  obtain ⟨a2, c2, rfl⟩ := rd_shape h2'
  have M1 : l1.length ≤ maxLen := by obtain ⟨_, _, _, h, _⟩ := h1; exact h
  unfold maxLen at M1
  have R1 := Lib.hid (fun i (hi : i < l1.length) => rd_at h1 hi)
  have R2 := Lib.hid (fun i (hi : i < l2.length) => rd_at h2 hi)
  clear h1 h2 h1' h2'
  by_cases hn : l1.length = l2.length
  · have hne : ((l1.length : Int) != (l2.length : Int)) = false := by simp [hn]
    have HNN := Lib.hid hn
    clear hn
    go_enter Try.func62, Try.ntmps62
    go_wp2
    go_loopw [13] (fun i wr => ∃ k : Nat, k ≤ l1.length ∧ i = .int .i64 k ∧ Quiet w wr ∧ ∀ j, (j1 : j < l1.length) → (j2 : j < l2.length) → j < k → l1[j] = l2[j]) (fun i _ => l1.length - (intOf i).toNat)
    case atStart => exact ⟨0, Nat.zero_le _, rfl, Quiet.refl _, fun j _ _ h => absurd h (by omega)⟩
    case round =>
      obtain ⟨k, hk, rfl, hq, hj⟩ := hrel
      have HJ := Lib.hid hj
      clear hj
      by_cases hlt : k < l1.length
      · have hlt2 : k < l2.length := by have := HNN.out; omega
        obtain ⟨b1, o1, rfl, _, p1, _⟩ := R1.out k hlt
        obtain ⟨b2, o2, rfl, _, p2, _⟩ := R2.out k hlt2
        rw [Nat.mul_one] at p1 p2
        have p1 := (hq.cell _).trans p1
        have p2 := (hq.cell _).trans p2
        have hlt' : (k : Int) < (l1.length : Int) := by omega
        have hlt2' : (k : Int) < (l2.length : Int) := by omega
        have hge' : (0 : Int) ≤ (k : Int) := by omega
        by_cases hx : l1[k] = l2[k]
        · have hx' : (l1[k] != l2[k]) = false := by simp [hx]
          have HX : Hid (∀ (j1 : k < l1.length) (j2 : k < l2.length), l1[k]'j1 = l2[k]'j2) := fun _ _ => hx
          clear hx
          generalize l1[k] = z1 at *
          generalize l2[k] = z2 at *
          go_wp2
          go_quiet (fail)
          go_wp2
          go_roundw
          case rel => exact ⟨k + 1, by omega, by go_num, hq.trans ⟨_, rfl⟩, fun j j1 j2 j3 => by
            rcases Nat.lt_or_ge j k with h | h
            · exact HJ.out j j1 j2 h
            · obtain rfl : j = k := by omega
              exact HX.out j1 j2⟩
          case measure => simp [intOf]; omega
        · have hx' : (l1[k] != l2[k]) = true := by simp [hx]
          have HX : Hid (¬ l1 = l2) := fun h => hx (by subst h; rfl)
          clear hx
          generalize l1[k] = z1 at *
          generalize l2[k] = z2 at *
          go_wp2
          go_quiet (fail)
          go_wp2
          go_ret
          exact ⟨ret_bool (by simp [HX.out]), hq.trans ⟨_, rfl⟩⟩
      · have hlt' : ¬ (k : Int) < (l1.length : Int) := by omega
        go_wp2
        go_ret
        exact ⟨ret_bool (by simp [list_eq_of HNN.out fun i i1 i2 => HJ.out i i1 i2 (by omega)]), hq⟩
  · have hne : ((l1.length : Int) != (l2.length : Int)) = true := by simp; omega
    have HX : Hid (¬ l1 = l2) := fun h => hn (by rw [h])
    go_enter Try.func62, Try.ntmps62
    go_wp2
    go_ret
    exact ⟨ret_bool (by simp [HX.out]), Quiet.refl _⟩
set_option maxRecDepth 100000 in
set_option maxHeartbeats 4000000 in
theorem eqflds_any (w : World) (B : Nat) (v1 v2 : Value) (l1 l2 : List FldD) (h1 : RdRow 2 ElF B w v1 l1) (h2 : RdRow 2 ElF B w v2 l2) :
    Calls Try.prog 61 #[v1, v2] w fun e w' => e = .returned (.bool (decide (l1.map fldP = l2.map fldP))) ∧ Quiet w w' := by
  have h1' := h1
  have h2' := h2
  obtain ⟨a1, c1, rfl⟩ := rd_shape h1'
  obtain ⟨a2, c2, rfl⟩ := rd_shape h2'
  have M1 : l1.length ≤ maxLen := by obtain ⟨_, _, _, h, _⟩ := h1; exact h
  unfold maxLen at M1
  have R1 := Lib.hid (fun i (hi : i < l1.length) => rd_at h1 hi)
  have R2 := Lib.hid (fun i (hi : i < l2.length) => rd_at h2 hi)
  clear h1 h2 h1' h2'
  have hG := guard_fld
  by_cases hn : l1.length = l2.length
  · have hne : ((l1.length : Int) != (l2.length : Int)) = false := by simp [hn]
    have HN := Lib.hid hn
    clear hn
    go_enter Try.func61, Try.ntmps61
    go_wp2
    go_loopw [13] (fun i wr => ∃ k : Nat, k ≤ l1.length ∧ i = .int .i64 k ∧ Quiet w wr ∧ ∀ j, (j1 : j < l1.length) → (j2 : j < l2.length) → j < k → fldP l1[j] = fldP l2[j]) (fun i _ => l1.length - (intOf i).toNat)
    case atStart => exact ⟨0, Nat.zero_le _, rfl, Quiet.refl _, fun j _ _ h => absurd h (by omega)⟩
    case round =>
      obtain ⟨k, hk, rfl, hq, hj⟩ := hrel
      have HJ := Lib.hid hj
      clear hj
      by_cases hlt : k < l1.length
      · have hlt2 : k < l2.length := by have := HN.out; omega
        obtain ⟨b1, o1, rfl, _, p0, p1, _⟩ := R1.out k hlt
        obtain ⟨b2, o2, rfl, _, q0, q1, _⟩ := R2.out k hlt2
        replace p0 := (hq.cell _).trans p0
        replace q0 := (hq.cell _).trans q0
        replace p1 := (hq.cell _).trans p1
        replace q1 := (hq.cell _).trans q1
        have hlt' : (k : Int) < (l1.length : Int) := by omega
        have hlt2' : (k : Int) < (l2.length : Int) := by omega
        have hge' : (0 : Int) ≤ (k : Int) := by omega
        have FP := Lib.hid (@fldP_eq l1[k] l2[k])
        have HM : Hid (¬ fldP l1[k] = fldP l2[k] → ¬ l1.map fldP = l2.map fldP) := map_ne_at hlt hlt2
        have HE : Hid (∀ (j1 : k < l1.length) (j2 : k < l2.length), fldP (l1[k]'j1) = fldP (l1[k]'hlt) ∧ fldP (l2[k]'j2) = fldP (l2[k]'hlt2)) := fun _ _ => ⟨rfl, rfl⟩
        generalize l1[k] = z1 at *
        generalize l2[k] = z2 at *
        rcases z1 with ⟨x0, x1⟩
        rcases z2 with ⟨y0, y1⟩
        have hE := fun W => neq_fld W x0 y0 x1 y1
        have FQ : (x0.toList == y0.toList && x1 == y1) = decide (fldP ⟨x0, x1⟩ = fldP ⟨y0, y1⟩) := FP.out
        simp only at p0 q0 p1 q1
        by_cases hy : fldP ⟨x0, x1⟩ = fldP ⟨y0, y1⟩
        · have hv : (x0.toList == y0.toList && x1 == y1) = true := by rw [FQ]; simpa using hy
          have HY := Lib.hid hy
          clear hy FQ
          go_wp2
          go_quiet (fail)
          go_wp2
          go_roundw
          case rel => exact ⟨k + 1, by omega, by go_num, hq.trans ⟨_, rfl⟩, fun j j1 j2 j3 => by
            rcases Nat.lt_or_ge j k with h | h
            · exact HJ.out j j1 j2 h
            · obtain rfl : j = k := by omega
              exact (HE.out j1 j2).1.trans (HY.out.trans (HE.out j1 j2).2.symm)⟩
          case measure => simp [intOf]; omega
        · have hv : (x0.toList == y0.toList && x1 == y1) = false := by rw [FQ]; simpa using hy
          have HY := Lib.hid hy
          clear hy FQ
          go_wp2
          go_quiet (fail)
          go_wp2
          go_ret
          exact ⟨ret_bool (by simp [HM.out HY.out]), hq.trans ⟨_, rfl⟩⟩
      · have hlt' : ¬ (k : Int) < (l1.length : Int) := by omega
        go_wp2
        go_ret
        exact ⟨ret_bool (by simp [map_eq_of HN.out fun i i1 i2 => HJ.out i i1 i2 (by omega)]), hq⟩
  · have hne : ((l1.length : Int) != (l2.length : Int)) = true := by simp; omega
    have HM := Lib.hid (map_ne_len (f := fldP) hn)
    clear hn
    go_enter Try.func61, Try.ntmps61
    go_wp2
    go_ret
    exact ⟨ret_bool (by simp [HM.out]), Quiet.refl _⟩
set_option maxRecDepth 100000 in
set_option maxHeartbeats 4000000 in
theorem eqinss_any (w : World) (B : Nat) (v1 v2 : Value) (l1 l2 : List InsD) (h1 : RdRow 3 ElN B w v1 l1) (h2 : RdRow 3 ElN B w v2 l2) :
    Calls Try.prog 63 #[v1, v2] w fun e w' => e = .returned (.bool (decide (l1.map insP = l2.map insP))) ∧ Quiet w w' := by
  have h1' := h1
  have h2' := h2
  obtain ⟨a1, c1, rfl⟩ := rd_shape h1'
  obtain ⟨a2, c2, rfl⟩ := rd_shape h2'
  have M1 : l1.length ≤ maxLen := by obtain ⟨_, _, _, h, _⟩ := h1; exact h
  unfold maxLen at M1
  have R1 := Lib.hid (fun i (hi : i < l1.length) => rd_at h1 hi)
  have R2 := Lib.hid (fun i (hi : i < l2.length) => rd_at h2 hi)
  clear h1 h2 h1' h2'
  have hG := guard_ins
  by_cases hn : l1.length = l2.length
  · have hne : ((l1.length : Int) != (l2.length : Int)) = false := by simp [hn]
    have HN := Lib.hid hn
    clear hn
    go_enter Try.func63, Try.ntmps63
    go_wp2
    go_loopw [13] (fun i wr => ∃ k : Nat, k ≤ l1.length ∧ i = .int .i64 k ∧ Quiet w wr ∧ ∀ j, (j1 : j < l1.length) → (j2 : j < l2.length) → j < k → insP l1[j] = insP l2[j]) (fun i _ => l1.length - (intOf i).toNat)
    case atStart => exact ⟨0, Nat.zero_le _, rfl, Quiet.refl _, fun j _ _ h => absurd h (by omega)⟩
    case round =>
      obtain ⟨k, hk, rfl, hq, hj⟩ := hrel
      have HJ := Lib.hid hj
      clear hj
      by_cases hlt : k < l1.length
      · have hlt2 : k < l2.length := by have := HN.out; omega
        obtain ⟨b1, o1, rfl, _, p0, p1, p2, _⟩ := R1.out k hlt
        obtain ⟨b2, o2, rfl, _, q0, q1, q2, _⟩ := R2.out k hlt2
        replace p0 := (hq.cell _).trans p0
        replace q0 := (hq.cell _).trans q0
        replace p1 := (hq.cell _).trans p1
        replace q1 := (hq.cell _).trans q1
        replace p2 := (hq.cell _).trans p2
        replace q2 := (hq.cell _).trans q2
        have hlt' : (k : Int) < (l1.length : Int) := by omega
        have hlt2' : (k : Int) < (l2.length : Int) := by omega
        have hge' : (0 : Int) ≤ (k : Int) := by omega
        have FP := Lib.hid (@insP_eq l1[k] l2[k])
        have HM : Hid (¬ insP l1[k] = insP l2[k] → ¬ l1.map insP = l2.map insP) := map_ne_at hlt hlt2
        have HE : Hid (∀ (j1 : k < l1.length) (j2 : k < l2.length), insP (l1[k]'j1) = insP (l1[k]'hlt) ∧ insP (l2[k]'j2) = insP (l2[k]'hlt2)) := fun _ _ => ⟨rfl, rfl⟩
        generalize l1[k] = z1 at *
        generalize l2[k] = z2 at *
        rcases z1 with ⟨x0, x1, x2⟩
        rcases z2 with ⟨y0, y1, y2⟩
        have hE := fun W => neq_ins W x0 x1 x2 y0 y1 y2
        have FQ : (x0 == y0 && (x1 == y1 && x2 == y2)) = decide (insP ⟨x0, x1, x2⟩ = insP ⟨y0, y1, y2⟩) := FP.out
        simp only at p0 q0 p1 q1 p2 q2
        by_cases hy : insP ⟨x0, x1, x2⟩ = insP ⟨y0, y1, y2⟩
        · have hv : (x0 == y0 && (x1 == y1 && x2 == y2)) = true := by rw [FQ]; simpa using hy
          have HY := Lib.hid hy
          clear hy FQ
          go_wp2
          go_quiet (fail)
          go_wp2
          go_roundw
          case rel => exact ⟨k + 1, by omega, by go_num, hq.trans ⟨_, rfl⟩, fun j j1 j2 j3 => by
            rcases Nat.lt_or_ge j k with h | h
            · exact HJ.out j j1 j2 h
            · obtain rfl : j = k := by omega
              exact (HE.out j1 j2).1.trans (HY.out.trans (HE.out j1 j2).2.symm)⟩
          case measure => simp [intOf]; omega
        · have hv : (x0 == y0 && (x1 == y1 && x2 == y2)) = false := by rw [FQ]; simpa using hy
          have HY := Lib.hid hy
          clear hy FQ
          go_wp2
          go_quiet (fail)
          go_wp2
          go_ret
          exact ⟨ret_bool (by simp [HM.out HY.out]), hq.trans ⟨_, rfl⟩⟩
      · have hlt' : ¬ (k : Int) < (l1.length : Int) := by omega
        go_wp2
        go_ret
        exact ⟨ret_bool (by simp [map_eq_of HN.out fun i i1 i2 => HJ.out i i1 i2 (by omega)]), hq⟩
  · have hne : ((l1.length : Int) != (l2.length : Int)) = true := by simp; omega
    have HM := Lib.hid (map_ne_len (f := insP) hn)
    clear hn
    go_enter Try.func63, Try.ntmps63
    go_wp2
    go_ret
    exact ⟨ret_bool (by simp [HM.out]), Quiet.refl _⟩
end Go.Proofs.Ytgcimjghkidoiaa
