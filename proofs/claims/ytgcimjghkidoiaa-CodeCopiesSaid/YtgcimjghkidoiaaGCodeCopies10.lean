/- Copy: a program of one's own. Condition: the program is there, of few parts, its texts are not too long. -/
import Derived.Test.YtgcimjghkidoiaaGCodeCopies09
namespace Go.Proofs.Ytgcimjghkidoiaa
open Go.RowKit
set_option linter.unusedVariables false
def CopyPost (w : World) (p : PrgD) (e : Ending) (w' : World) : Prop :=
  ∃ u0 u1 lc lf s1, e = .returned (.agg #[u0, u1]) ∧ COwn w' w.heap.size u0 lc ∧ lc.map (·.1) = p.classes ∧ UOwn w' s1 u1 lf ∧ lf.map (·.1) = p.funcs ∧ w.heap.size ≤ s1 ∧ (∀ g, u0.ownBlock = some g → g < s1) ∧ (∀ x ∈ lc, ∀ g, x.2.ownBlock = some g → g < s1) ∧ Below w.heap.size w w'
set_option maxRecDepth 100000 in
set_option maxHeartbeats 16000000 in
theorem copy_any (w : World) (B : Nat) (p : PrgD) (v0 v1 : Value) (h : RdPrg B w v0 v1 p) (hB : B ≤ w.heap.size) (hS : SzPrg p) (hL : LtP p) :
    Calls Try.prog 14 #[.agg #[v0, v1]] w (CopyPost w p) := by
  obtain ⟨a0, c0, rfl⟩ := rd_shape h.1
  obtain ⟨a1, c1, rfl⟩ := rd_shape h.2
  have R0 := Lib.hid (fun W (hb : Below B w W) i (hi : i < p.classes.length) => rd_at ((h.keep hb).1) hi)
  have R1 := Lib.hid (fun W (hb : Below B w W) i (hi : i < p.funcs.length) => rd_at ((h.keep hb).2) hi)
  have ZC := Lib.hid (info_parts info_cls)
  have ZU := Lib.hid (info_parts info_fun)
  have HS := Lib.hid hS
  have HN := Lib.hid hL
  have HB := Lib.hid hB
  have k1 : Blk ((w.alloc (.cells #[.slice a0 p.classes.length c0, .slice a1 p.funcs.length c1] 27)).alloc (.cells #[.slice none 0 0, .slice none 0 0] 27)) w.heap.size #[.slice a0 p.classes.length c0, .slice a1 p.funcs.length c1] 27 := (Blk.new _ _ _).alloc _
  have k2 : Blk ((w.alloc (.cells #[.slice a0 p.classes.length c0, .slice a1 p.funcs.length c1] 27)).alloc (.cells #[.slice none 0 0, .slice none 0 0] 27)) (w.heap.size + 1) #[.slice none 0 0, .slice none 0 0] 27 := Blk.new' (by simp)
  have hb0 : Below w.heap.size w ((w.alloc (.cells #[.slice a0 p.classes.length c0, .slice a1 p.funcs.length c1] 27)).alloc (.cells #[.slice none 0 0, .slice none 0 0] 27)) := ((Below.refl _ _).alloc (Nat.le_refl _) _).alloc (by simp) _
  have k3 := Blk.new ((w.alloc (.cells #[.slice a0 p.classes.length c0, .slice a1 p.funcs.length c1] 27)).alloc (.cells #[.slice none 0 0, .slice none 0 0] 27)) #[.slice none 0 0, .slice none 0 0] 27
  have hbK := (Below.refl _ ((w.alloc (.cells #[.slice a0 p.classes.length c0, .slice a1 p.funcs.length c1] 27)).alloc (.cells #[.slice none 0 0, .slice none 0 0] 27))).alloc (Nat.le_refl _) (.cells #[.slice none 0 0, .slice none 0 0] 27)
  have hLe : ((w.alloc (.cells #[.slice a0 p.classes.length c0, .slice a1 p.funcs.length c1] 27)).alloc (.cells #[.slice none 0 0, .slice none 0 0] 27)).heap.size = w.heap.size + 2 := by simp
  have KA := Lib.hid (And.intro (k1.grew hbK) (And.intro (k2.grew hbK) (And.intro k3 (hb0.trans (hbK.mono hb0.size)))))
  have y0 := (k1.grew hbK).val 0 rfl
  have y1 := (k1.grew hbK).val 1 rfl
  rw [hLe] at KA
  clear h hB hS hL k1 k2 k3 hb0 hbK
  go_enter Try.func14, Try.ntmps14
  go_wp2
  clear hLe y0 y1
  obtain ⟨k1, k2, k3, hbw⟩ := KA.out
  clear KA
  generalize World.alloc _ _ = w3 at *
  generalize hLd : w.heap.size + 2 = L at *
  go_loopw [11] (fun x wr => ∃ (k : Nat) (l : List (ClsD × Value)) (v : Value), k ≤ p.classes.length ∧ x = .int .i64 k ∧ Blk wr w.heap.size #[.slice a0 p.classes.length c0, .slice a1 p.funcs.length c1] 27 ∧ Blk wr (w.heap.size + 1) #[.slice none 0 0, .slice none 0 0] 27 ∧ Blk wr L #[v, .slice none 0 0] 27 ∧ COwn wr (L + 1) v l ∧ l.map (·.1) = p.classes.take k ∧ Below w.heap.size w wr) (fun x _ => p.classes.length - (intOf x).toNat)
  case atStart => exact ⟨0, [], _, Nat.zero_le _, rfl, k1, k2, k3, COwn.nil _ _, rfl, hbw⟩
  case round =>
    clear k1 k2 k3 hbw
    obtain ⟨k, l, v, hk, rfl, k1, k2, k3, hC, hm, hbw⟩ := hrel
    have hn1 := HN.out.1
    have hlk : l.length = k := by
      have := congrArg List.length hm
      rw [List.length_map, List.length_take] at this
      omega
    have HLK := Lib.hid hlk
    clear hlk
    by_cases hlt : k < p.classes.length
    · have hlt' : (k : Int) < (p.classes.length : Int) := by omega
      have i1 : (0 : Int) ≤ (k : Int) ∧ (k : Int) < (p.classes.length : Int) := ⟨by omega, by omega⟩
      have i2 : 0 < p.classes.length := by omega
      obtain ⟨b, o, rfl, _, e1, vf, e2, e3⟩ := R0.out wr (hbw.mono HB.out) k hlt
      obtain ⟨fa, fc, hvf⟩ := rd_shape e3
      subst hvf
      obtain ⟨hs1, hs2⟩ := HS.out.1 _ (List.getElem_mem hlt)
      have hs3 := HN.out.2.2.1 _ (List.getElem_mem hlt)
      have HTK : Hid (p.classes.take (k + 1) = p.classes.take k ++ [p.classes[k]]) := by unfold Hid; rw [List.take_add_one, List.getElem?_eq_getElem hlt]; rfl
      generalize p.classes[k] = c at *
      obtain ⟨i0, Z⟩ := ZC.out
      have Z := Lib.hid Z
      have hb4 := (Below.refl wr.heap.size wr).alloc (Nat.le_refl _) (.cells #[.string c.name, .slice fa c.fields.length fc] 43)
      have k4 := Blk.new wr #[.string c.name, .slice fa c.fields.length fc] 43
      have HX : Hid (∀ g, v.ownBlock = some g → wr.heap.size = g → False) := fun g hg e => by have := (own_ltG hC.row hg).2; omega
      have hL := k3.lt
      have hbd := hb4.drew
      have CC := Lib.hid (cclass_any _ B c (.slice fa c.fields.length fc) (e3.keep (hbd.mono (Nat.le_trans HB.out hbw.size)) fun _ _ _ e r => r.keep (hbd.mono (Nat.le_trans HB.out hbw.size)) e) (Nat.le_trans (Nat.le_trans HB.out hbw.size) hbd.size) ⟨hs1, hs2⟩ (by omega))
      have KA := Lib.hid (And.intro k4 (And.intro (k1.grew hb4) (And.intro (k2.grew hb4) (And.intro (k3.grew hb4) (And.intro (hC.grew hb4) (And.intro (hbw.trans (hb4.mono hbw.size)) k4.lt))))))
      clear k1 k2 k3 k4 hC hbw hb4 hbd hs1 hs2 e3
      go_wp2_with fail
      obtain ⟨k4, k1, k2, k3, hC, hbw, hsz⟩ := KA.out
      clear KA e1 e2
      generalize wr.alloc _ = w4 at *
      generalize wr.heap.size = X at *
      refine wp_region_held_drew (S := (fun W' => W'.cell? ⟨X, 0, none⟩ = some (.string c.name) ∧ W'.cell? ⟨X, 1, none⟩ = some (.slice fa c.fields.length fc))) (by kernel_rfl) ⟨k4.drew.val 0 rfl, k4.drew.val 1 rfl⟩ (fun hHeld => ?_)
      have hb := (Below.refl w4.heap.size w4).drew
      have k1 := k1.grew hb
      have k2 := k2.grew hb
      have k3 := k3.grew hb
      have k4 := k4.grew hb
      have hC := hC.grew hb
      have hbw := hbw.trans (hb.mono hbw.size)
      have hsz : X < w4.drew.heap.size := hsz
      clear hb
      generalize w4.drew = w5 at *
      refine wpAnyH_take (i := 0) (oi := _) (v := ?_) (op_atC rfl) (by kernel_rfl) (by kernel_rfl) (by kernel_rfl) (fun _ _ _ h => h) (Or.inl ⟨by rfl, ?_⟩) hHeld ?_
      rotate_left 1
      focus (intro W hSw; (try dsimp only at hSw); go_simp; (try (with_reducible rfl)))
      (try simp only [Act.put, List.setIfInBounds_toArray, List.set_cons_zero, List.set_cons_succ])
      refine wpAnyH_take (i := 2) (oi := _) (v := ?_) (op_atC rfl) (by kernel_rfl) (by kernel_rfl) (by kernel_rfl) (fun _ _ _ h => h) (Or.inl ⟨by rfl, ?_⟩) hHeld ?_
      rotate_left 1
      focus (intro W hSw; (try dsimp only at hSw); go_simp; (try (with_reducible rfl)))
      (try simp only [Act.put, List.setIfInBounds_toArray, List.set_cons_zero, List.set_cons_succ])
      refine wpAnyH_ready (rs := [1, 3]) (by kernel_rfl) (by simp) ?_
      refine AllReadyH.cons (o := _) (op_atC rfl) (fun Kc hKc => ?_) ?_
      focus
        have y1 := k3.val 0 rfl
        go_simp
        clear y1
        refine hKc.out _ _ ?_ (fun hHeld' => ?_)
        focus exact hHeld
        clear hHeld'
        clear hKc Kc
        (try simp only [Act.put, List.setIfInBounds_toArray, List.set_cons_zero, List.set_cons_succ])
        refine wpAnyH_ready (rs := [3]) (by kernel_rfl) (by simp) ?_
        refine AllReadyH.cons (o := _) (op_atC rfl) (fun Kc hKc => ?_) AllReadyH.nil
        go_simp
        go_at_call 39
        (with_reducible refine (CC.out).mono ?_)
        rintro e9 w6 ⟨vi, rfl, hoi, hb⟩
        have hap : ∀ q, vi.ownBlock = some q → v.ownBlock ≠ some q := fun q h1 h2 => by have a1 := (own_ltG hoi h1).1; have a2 := (own_ltG hC.row h2).2; omega
        have hoi := own_sub hoi (show L + 1 ≤ w5.heap.size by have := k3.lt; omega)
        obtain ⟨bi, qi, hui⟩ := row_shape hoi
        subst hui
        have k1 := k1.grew hb
        have k2 := k2.grew hb
        have k3 := k3.grew hb
        have k4 := k4.grew hb
        have hC := hC.grew hb
        have hbw := hbw.trans (hb.mono hbw.size)
        have hsz := Nat.lt_of_lt_of_le hsz hb.size
        go_wp2_with fail
        refine hKc.out _ _ ?_ (fun hHeld' => ?_)
        focus exact ⟨(hb.cell (World.block_lt_of_cell? _ _ hHeld.1)).trans hHeld.1, (hb.cell (World.block_lt_of_cell? _ _ hHeld.2)).trans hHeld.2⟩
        clear hHeld hb
        have hHeld := hHeld'
        clear hHeld'
        clear hKc Kc
        (try simp only [Act.put, List.setIfInBounds_toArray, List.set_cons_zero, List.set_cons_succ])
        refine wpAnyH_ready (rs := [4]) (by kernel_rfl) (by simp) ?_
        refine AllReadyH.cons (o := _) (op_atC rfl) (fun Kc hKc => ?_) AllReadyH.nil
        go_simp
        refine hKc.out _ _ ?_ (fun hHeld' => ?_)
        focus exact ⟨((Below.refl _ _).alloc (Nat.le_refl _) _).cell (World.block_lt_of_cell? _ _ hHeld.1) |>.trans hHeld.1, ((Below.refl _ _).alloc (Nat.le_refl _) _).cell (World.block_lt_of_cell? _ _ hHeld.2) |>.trans hHeld.2⟩
        clear hHeld
        have hHeld := hHeld'
        clear hHeld'
        have hb := (Below.refl w6.heap.size w6).alloc (Nat.le_refl _) (.cells #[.string c.name, .slice bi c.fields.length qi] 43)
        have kS := Blk.new w6 #[.string c.name, .slice bi c.fields.length qi] 43
        have k1 := k1.grew hb
        have k2 := k2.grew hb
        have k3 := k3.grew hb
        have k4 := k4.grew hb
        have hC := hC.grew hb
        have hbw := hbw.trans (hb.mono hbw.size)
        have hsz := Nat.lt_of_lt_of_le hsz hb.size
        have hoi := own_grewG hoi hb
        clear hb
        generalize w6.alloc _ = w7 at *
        generalize w6.heap.size = G at *
        clear hKc Kc
        (try simp only [Act.put, List.setIfInBounds_toArray, List.set_cons_zero, List.set_cons_succ])
        refine wpAnyH_ready (rs := [5]) (by kernel_rfl) (by simp) ?_
        refine AllReadyH.cons (o := _) (op_atC rfl) (fun Kc hKc => ?_) AllReadyH.nil
        have hr1 : some w.heap.size ≠ v.ownBlock := fun q => by have := (own_ltG hC.row q.symm).1; omega
        have hr2 : some (w.heap.size + 1) ≠ v.ownBlock := fun q => by have := (own_ltG hC.row q.symm).1; omega
        have hr3 : some L ≠ v.ownBlock := fun q => by have := (own_ltG hC.row q.symm).1; omega
        have hXr : some X ≠ v.ownBlock := fun q => HX.out _ q.symm rfl
        refine step_append_lies _ (by rfl) _ _ _ (by rfl) (L + 1) 43 i0 _ 2 40 Try.underlying24 Z.out.1 Z.out.2.1 Z.out.2.2.1 Z.out.2.2.2 rfl (by decide) v l.length (l.flatMap clsC) (by rfl) hC.row ⟨G, 0, none⟩ 1 1 [.string c.name, .slice bi c.fields.length qi] (by rfl) (by rfl) (World.news_of_block kS) (by simp [Value.oneCell']) (by decide) (by have h1 := HLK.out; have h2 := HN.out.1; unfold maxLen; omega) (by have h1 := HLK.out; have h2 := HN.out.1; omega) (by have := k3.lt; omega) _ rfl ?_
        intro g cap w8 hown hgrow hat hlt
        refine hKc.out _ _ ?_ (fun hHeld' => ?_)
        focus exact ⟨hgrow.cell hHeld.1 hXr, hgrow.cell hHeld.2 hXr⟩
        clear hHeld
        have hHeld := hHeld'
        clear hHeld'
        have k1 := k1.of (hgrow.block _ k1.lt hr1)
        have k2 := k2.of (hgrow.block _ k2.lt hr2)
        have k3 := k3.of (hgrow.block _ k3.lt hr3)
        have k4 := k4.of (hgrow.block _ k4.lt hXr)
        have hbw := hbw.grown hgrow hbw.size (fun q hq => by have := (own_ltG hC.row hq).1; omega)
        have hC := hC.app (x := (c, .slice bi c.fields.length qi)) hoi hap hgrow hown rfl hat
        clear hgrow hat hlt kS hown hoi hap
        clear hKc Kc
        (try simp only [Act.put, List.setIfInBounds_toArray, List.set_cons_zero, List.set_cons_succ])
        refine wpAnyH_take (i := 6) (oi := _) (v := ?_) (op_atC rfl) (by kernel_rfl) (by kernel_rfl) (by kernel_rfl) (fun _ _ _ h => h) (Or.inl ⟨by rfl, ?_⟩) hHeld ?_
        rotate_left 1
        focus (intro W hSw; (try dsimp only at hSw); go_simp; (try (with_reducible rfl)))
        (try simp only [Act.put, List.setIfInBounds_toArray, List.set_cons_zero, List.set_cons_succ])
        refine wpAnyH_ready (rs := [7]) (by kernel_rfl) (by simp) ?_
        refine AllReadyH.cons (o := _) (op_atC rfl) (fun Kc hKc => ?_) AllReadyH.nil
        have hLX : L ≠ X := by omega
        have y1 := k3.val 0 rfl
        have f1 := k3.frozen 0
        go_simp
        refine hKc.out _ _ ?_ (fun hHeld' => ?_)
        focus exact ⟨(World.cell?_setCell_far _ _ _ _ hLX).trans hHeld.1, (World.cell?_setCell_far _ _ _ _ hLX).trans hHeld.2⟩
        clear hHeld hHeld' y1 f1
        have hT := (Touch.refl (fun x => x = L) w8).setCell (p := ⟨L, 0, none⟩) rfl (Value.slice (some ⟨g, 0, none⟩) (l.length + 1) cap)
        have k1 := k1.touch hT (by omega)
        have k2 := k2.touch hT (by omega)
        have k3 := k3.set 0 (Value.slice (some ⟨g, 0, none⟩) (l.length + 1) cap)
        have hC := hC.touch hT (fun q h1 _ => by omega)
        have hbw := hbw.trans (hT.below (B := w.heap.size) hbw.size (fun q hq => by omega))
        clear hT
        generalize World.setCell _ _ _ = w9 at *
        clear hKc Kc
        (try simp only [Act.put, List.setIfInBounds_toArray, List.set_cons_zero, List.set_cons_succ])
        refine wpAnyH_done (by kernel_rfl) ?_ _
        clear k4 hsz
        go_wp2
        go_roundw
        case rel => exact ⟨k + 1, l ++ [(c, .slice bi c.fields.length qi)], _, by omega, by go_num, k1, k2, k3, hC, by rw [List.map_append, hm, HTK.out]; rfl, hbw⟩
        case measure => simp [intOf]; omega
      refine AllReadyH.cons (o := _) (op_atC rfl) (fun Kc hKc => ?_) AllReadyH.nil
      go_simp
      go_at_call 39
      (with_reducible refine (CC.out).mono ?_)
      rintro e9 w10 ⟨vi, rfl, hoi, hb⟩
      have hap : ∀ q, vi.ownBlock = some q → v.ownBlock ≠ some q := fun q h1 h2 => by have a1 := (own_ltG hoi h1).1; have a2 := (own_ltG hC.row h2).2; omega
      have hoi := own_sub hoi (show L + 1 ≤ w5.heap.size by have := k3.lt; omega)
      obtain ⟨bi, qi, hui⟩ := row_shape hoi
      subst hui
      have k1 := k1.grew hb
      have k2 := k2.grew hb
      have k3 := k3.grew hb
      have k4 := k4.grew hb
      have hC := hC.grew hb
      have hbw := hbw.trans (hb.mono hbw.size)
      have hsz := Nat.lt_of_lt_of_le hsz hb.size
      go_wp2_with fail
      refine hKc.out _ _ ?_ (fun hHeld' => ?_)
      focus exact ⟨(hb.cell (World.block_lt_of_cell? _ _ hHeld.1)).trans hHeld.1, (hb.cell (World.block_lt_of_cell? _ _ hHeld.2)).trans hHeld.2⟩
      clear hHeld hb
      have hHeld := hHeld'
      clear hHeld'
      clear hKc Kc
      (try simp only [Act.put, List.setIfInBounds_toArray, List.set_cons_zero, List.set_cons_succ])
      refine wpAnyH_ready (rs := [1, 4]) (by kernel_rfl) (by simp) ?_
      refine AllReadyH.cons (o := _) (op_atC rfl) (fun Kc hKc => ?_) ?_
      focus
        have y1 := k3.val 0 rfl
        go_simp
        clear y1
        refine hKc.out _ _ ?_ (fun hHeld' => ?_)
        focus exact hHeld
        clear hHeld'
        clear hKc Kc
        (try simp only [Act.put, List.setIfInBounds_toArray, List.set_cons_zero, List.set_cons_succ])
        refine wpAnyH_ready (rs := [4]) (by kernel_rfl) (by simp) ?_
        refine AllReadyH.cons (o := _) (op_atC rfl) (fun Kc hKc => ?_) AllReadyH.nil
        go_simp
        refine hKc.out _ _ ?_ (fun hHeld' => ?_)
        focus exact ⟨((Below.refl _ _).alloc (Nat.le_refl _) _).cell (World.block_lt_of_cell? _ _ hHeld.1) |>.trans hHeld.1, ((Below.refl _ _).alloc (Nat.le_refl _) _).cell (World.block_lt_of_cell? _ _ hHeld.2) |>.trans hHeld.2⟩
        clear hHeld
        have hHeld := hHeld'
        clear hHeld'
        have hb := (Below.refl w10.heap.size w10).alloc (Nat.le_refl _) (.cells #[.string c.name, .slice bi c.fields.length qi] 43)
        have kS := Blk.new w10 #[.string c.name, .slice bi c.fields.length qi] 43
        have k1 := k1.grew hb
        have k2 := k2.grew hb
        have k3 := k3.grew hb
        have k4 := k4.grew hb
        have hC := hC.grew hb
        have hbw := hbw.trans (hb.mono hbw.size)
        have hsz := Nat.lt_of_lt_of_le hsz hb.size
        have hoi := own_grewG hoi hb
        clear hb
        generalize w10.alloc _ = w11 at *
        generalize w10.heap.size = G at *
        clear hKc Kc
        (try simp only [Act.put, List.setIfInBounds_toArray, List.set_cons_zero, List.set_cons_succ])
        refine wpAnyH_ready (rs := [5]) (by kernel_rfl) (by simp) ?_
        refine AllReadyH.cons (o := _) (op_atC rfl) (fun Kc hKc => ?_) AllReadyH.nil
        have hr1 : some w.heap.size ≠ v.ownBlock := fun q => by have := (own_ltG hC.row q.symm).1; omega
        have hr2 : some (w.heap.size + 1) ≠ v.ownBlock := fun q => by have := (own_ltG hC.row q.symm).1; omega
        have hr3 : some L ≠ v.ownBlock := fun q => by have := (own_ltG hC.row q.symm).1; omega
        have hXr : some X ≠ v.ownBlock := fun q => HX.out _ q.symm rfl
        refine step_append_lies _ (by rfl) _ _ _ (by rfl) (L + 1) 43 i0 _ 2 40 Try.underlying24 Z.out.1 Z.out.2.1 Z.out.2.2.1 Z.out.2.2.2 rfl (by decide) v l.length (l.flatMap clsC) (by rfl) hC.row ⟨G, 0, none⟩ 1 1 [.string c.name, .slice bi c.fields.length qi] (by rfl) (by rfl) (World.news_of_block kS) (by simp [Value.oneCell']) (by decide) (by have h1 := HLK.out; have h2 := HN.out.1; unfold maxLen; omega) (by have h1 := HLK.out; have h2 := HN.out.1; omega) (by have := k3.lt; omega) _ rfl ?_
        intro g cap w12 hown hgrow hat hlt
        refine hKc.out _ _ ?_ (fun hHeld' => ?_)
        focus exact ⟨hgrow.cell hHeld.1 hXr, hgrow.cell hHeld.2 hXr⟩
        clear hHeld
        have hHeld := hHeld'
        clear hHeld'
        have k1 := k1.of (hgrow.block _ k1.lt hr1)
        have k2 := k2.of (hgrow.block _ k2.lt hr2)
        have k3 := k3.of (hgrow.block _ k3.lt hr3)
        have k4 := k4.of (hgrow.block _ k4.lt hXr)
        have hbw := hbw.grown hgrow hbw.size (fun q hq => by have := (own_ltG hC.row hq).1; omega)
        have hC := hC.app (x := (c, .slice bi c.fields.length qi)) hoi hap hgrow hown rfl hat
        clear hgrow hat hlt kS hown hoi hap
        clear hKc Kc
        (try simp only [Act.put, List.setIfInBounds_toArray, List.set_cons_zero, List.set_cons_succ])
        refine wpAnyH_take (i := 6) (oi := _) (v := ?_) (op_atC rfl) (by kernel_rfl) (by kernel_rfl) (by kernel_rfl) (fun _ _ _ h => h) (Or.inl ⟨by rfl, ?_⟩) hHeld ?_
        rotate_left 1
        focus (intro W hSw; (try dsimp only at hSw); go_simp; (try (with_reducible rfl)))
        (try simp only [Act.put, List.setIfInBounds_toArray, List.set_cons_zero, List.set_cons_succ])
        refine wpAnyH_ready (rs := [7]) (by kernel_rfl) (by simp) ?_
        refine AllReadyH.cons (o := _) (op_atC rfl) (fun Kc hKc => ?_) AllReadyH.nil
        have hLX : L ≠ X := by omega
        have y1 := k3.val 0 rfl
        have f1 := k3.frozen 0
        go_simp
        refine hKc.out _ _ ?_ (fun hHeld' => ?_)
        focus exact ⟨(World.cell?_setCell_far _ _ _ _ hLX).trans hHeld.1, (World.cell?_setCell_far _ _ _ _ hLX).trans hHeld.2⟩
        clear hHeld hHeld' y1 f1
        have hT := (Touch.refl (fun x => x = L) w12).setCell (p := ⟨L, 0, none⟩) rfl (Value.slice (some ⟨g, 0, none⟩) (l.length + 1) cap)
        have k1 := k1.touch hT (by omega)
        have k2 := k2.touch hT (by omega)
        have k3 := k3.set 0 (Value.slice (some ⟨g, 0, none⟩) (l.length + 1) cap)
        have hC := hC.touch hT (fun q h1 _ => by omega)
        have hbw := hbw.trans (hT.below (B := w.heap.size) hbw.size (fun q hq => by omega))
        clear hT
        generalize World.setCell _ _ _ = w13 at *
        clear hKc Kc
        (try simp only [Act.put, List.setIfInBounds_toArray, List.set_cons_zero, List.set_cons_succ])
        refine wpAnyH_done (by kernel_rfl) ?_ _
        clear k4 hsz
        go_wp2
        go_roundw
        case rel => exact ⟨k + 1, l ++ [(c, .slice bi c.fields.length qi)], _, by omega, by go_num, k1, k2, k3, hC, by rw [List.map_append, hm, HTK.out]; rfl, hbw⟩
        case measure => simp [intOf]; omega
      refine AllReadyH.cons (o := _) (op_atC rfl) (fun Kc hKc => ?_) AllReadyH.nil
      go_simp
      refine hKc.out _ _ ?_ (fun hHeld' => ?_)
      focus exact ⟨((Below.refl _ _).alloc (Nat.le_refl _) _).cell (World.block_lt_of_cell? _ _ hHeld.1) |>.trans hHeld.1, ((Below.refl _ _).alloc (Nat.le_refl _) _).cell (World.block_lt_of_cell? _ _ hHeld.2) |>.trans hHeld.2⟩
      clear hHeld
      have hHeld := hHeld'
      clear hHeld'
      have hb := (Below.refl w10.heap.size w10).alloc (Nat.le_refl _) (.cells #[.string c.name, .slice bi c.fields.length qi] 43)
      have kS := Blk.new w10 #[.string c.name, .slice bi c.fields.length qi] 43
      have k1 := k1.grew hb
      have k2 := k2.grew hb
      have k3 := k3.grew hb
      have k4 := k4.grew hb
      have hC := hC.grew hb
      have hbw := hbw.trans (hb.mono hbw.size)
      have hsz := Nat.lt_of_lt_of_le hsz hb.size
      have hoi := own_grewG hoi hb
      clear hb
      generalize w10.alloc _ = w14 at *
      generalize w10.heap.size = G at *
      clear hKc Kc
      (try simp only [Act.put, List.setIfInBounds_toArray, List.set_cons_zero, List.set_cons_succ])
      refine wpAnyH_ready (rs := [1]) (by kernel_rfl) (by simp) ?_
      refine AllReadyH.cons (o := _) (op_atC rfl) (fun Kc hKc => ?_) AllReadyH.nil
      have y1 := k3.val 0 rfl
      go_simp
      clear y1
      refine hKc.out _ _ ?_ (fun hHeld' => ?_)
      focus exact hHeld
      clear hHeld'
      clear hKc Kc
      (try simp only [Act.put, List.setIfInBounds_toArray, List.set_cons_zero, List.set_cons_succ])
      refine wpAnyH_ready (rs := [5]) (by kernel_rfl) (by simp) ?_
      refine AllReadyH.cons (o := _) (op_atC rfl) (fun Kc hKc => ?_) AllReadyH.nil
      have hr1 : some w.heap.size ≠ v.ownBlock := fun q => by have := (own_ltG hC.row q.symm).1; omega
      have hr2 : some (w.heap.size + 1) ≠ v.ownBlock := fun q => by have := (own_ltG hC.row q.symm).1; omega
      have hr3 : some L ≠ v.ownBlock := fun q => by have := (own_ltG hC.row q.symm).1; omega
      have hXr : some X ≠ v.ownBlock := fun q => HX.out _ q.symm rfl
      refine step_append_lies _ (by rfl) _ _ _ (by rfl) (L + 1) 43 i0 _ 2 40 Try.underlying24 Z.out.1 Z.out.2.1 Z.out.2.2.1 Z.out.2.2.2 rfl (by decide) v l.length (l.flatMap clsC) (by rfl) hC.row ⟨G, 0, none⟩ 1 1 [.string c.name, .slice bi c.fields.length qi] (by rfl) (by rfl) (World.news_of_block kS) (by simp [Value.oneCell']) (by decide) (by have h1 := HLK.out; have h2 := HN.out.1; unfold maxLen; omega) (by have h1 := HLK.out; have h2 := HN.out.1; omega) (by have := k3.lt; omega) _ rfl ?_
      intro g cap w15 hown hgrow hat hlt
      refine hKc.out _ _ ?_ (fun hHeld' => ?_)
      focus exact ⟨hgrow.cell hHeld.1 hXr, hgrow.cell hHeld.2 hXr⟩
      clear hHeld
      have hHeld := hHeld'
      clear hHeld'
      have k1 := k1.of (hgrow.block _ k1.lt hr1)
      have k2 := k2.of (hgrow.block _ k2.lt hr2)
      have k3 := k3.of (hgrow.block _ k3.lt hr3)
      have k4 := k4.of (hgrow.block _ k4.lt hXr)
      have hbw := hbw.grown hgrow hbw.size (fun q hq => by have := (own_ltG hC.row hq).1; omega)
      have hC := hC.app (x := (c, .slice bi c.fields.length qi)) hoi hap hgrow hown rfl hat
      clear hgrow hat hlt kS hown hoi hap
      clear hKc Kc
      (try simp only [Act.put, List.setIfInBounds_toArray, List.set_cons_zero, List.set_cons_succ])
      refine wpAnyH_take (i := 6) (oi := _) (v := ?_) (op_atC rfl) (by kernel_rfl) (by kernel_rfl) (by kernel_rfl) (fun _ _ _ h => h) (Or.inl ⟨by rfl, ?_⟩) hHeld ?_
      rotate_left 1
      focus (intro W hSw; (try dsimp only at hSw); go_simp; (try (with_reducible rfl)))
      (try simp only [Act.put, List.setIfInBounds_toArray, List.set_cons_zero, List.set_cons_succ])
      refine wpAnyH_ready (rs := [7]) (by kernel_rfl) (by simp) ?_
      refine AllReadyH.cons (o := _) (op_atC rfl) (fun Kc hKc => ?_) AllReadyH.nil
      have hLX : L ≠ X := by omega
      have y1 := k3.val 0 rfl
      have f1 := k3.frozen 0
      go_simp
      refine hKc.out _ _ ?_ (fun hHeld' => ?_)
      focus exact ⟨(World.cell?_setCell_far _ _ _ _ hLX).trans hHeld.1, (World.cell?_setCell_far _ _ _ _ hLX).trans hHeld.2⟩
      clear hHeld hHeld' y1 f1
      have hT := (Touch.refl (fun x => x = L) w15).setCell (p := ⟨L, 0, none⟩) rfl (Value.slice (some ⟨g, 0, none⟩) (l.length + 1) cap)
      have k1 := k1.touch hT (by omega)
      have k2 := k2.touch hT (by omega)
      have k3 := k3.set 0 (Value.slice (some ⟨g, 0, none⟩) (l.length + 1) cap)
      have hC := hC.touch hT (fun q h1 _ => by omega)
      have hbw := hbw.trans (hT.below (B := w.heap.size) hbw.size (fun q hq => by omega))
      clear hT
      generalize World.setCell _ _ _ = w16 at *
      clear hKc Kc
      (try simp only [Act.put, List.setIfInBounds_toArray, List.set_cons_zero, List.set_cons_succ])
      refine wpAnyH_done (by kernel_rfl) ?_ _
      clear k4 hsz
      go_wp2
      go_roundw
      case rel => exact ⟨k + 1, l ++ [(c, .slice bi c.fields.length qi)], _, by omega, by go_num, k1, k2, k3, hC, by rw [List.map_append, hm, HTK.out]; rfl, hbw⟩
      case measure => simp [intOf]; omega
    · have hlt' : ¬ (k : Int) < (p.classes.length : Int) := by omega
      have hk' : k = p.classes.length := by omega
      have hm1 : l.map (·.1) = p.classes := by rw [hm, hk', List.take_length]
      have y0 := k1.val 0 rfl
      have y1 := k1.val 1 rfl
      clear hm hk'
      go_wp2
      clear y0 y1 ZC
      have hL1 := k3.lt
      have HV : Hid (∀ g, v.ownBlock = some g → g < wr.heap.size) := fun g hg => (own_ltG hC.row hg).2
      have HC := Lib.hid hC
      have HM := Lib.hid hm1
      clear hC hm1
      generalize wr = w1 at *
      go_loopw [26] (fun x wr2 => ∃ (k : Nat) (l2 : List (FunD × Value × Value × Value)) (v2 : Value), k ≤ p.funcs.length ∧ x = .int .i64 k ∧ Blk wr2 w.heap.size #[.slice a0 p.classes.length c0, .slice a1 p.funcs.length c1] 27 ∧ Blk wr2 (w.heap.size + 1) #[.slice none 0 0, .slice none 0 0] 27 ∧ Blk wr2 L #[v, v2] 27 ∧ UOwn wr2 w1.heap.size v2 l2 ∧ l2.map (·.1) = p.funcs.take k ∧ Touch (fun x => x = L) w1 wr2 ∧ Below w.heap.size w wr2) (fun x _ => p.funcs.length - (intOf x).toNat)
      case atStart => exact ⟨0, [], _, Nat.zero_le _, rfl, k1, k2, k3, UOwn.nil _ _, rfl, Touch.refl _ _, hbw⟩
      case round =>
        clear k1 k2 k3 hbw hlt hlt' hn1 HLK hk
        obtain ⟨k, l2, v2, hk, rfl, k1, k2, k3, hU, hm, hT1, hbw⟩ := hrel
        have hn1 := HN.out.2.1
        have HLK : Hid (l2.length = k) := by
          have := congrArg List.length hm
          rw [List.length_map, List.length_take] at this
          unfold Hid
          omega
        by_cases hlt : k < p.funcs.length
        · have hlt' : (k : Int) < (p.funcs.length : Int) := by omega
          have i1 : (0 : Int) ≤ (k : Int) ∧ (k : Int) < (p.funcs.length : Int) := ⟨by omega, by omega⟩
          have i2 : 0 < p.funcs.length := by omega
          obtain ⟨b, o, rfl, _, e1, ⟨t1, e2, g2⟩, ⟨e3, _⟩, ⟨t3, e4, g4⟩, t4, e5, g5⟩ := R1.out wr (hbw.mono HB.out) k hlt
          obtain ⟨fa1, fc1, ht1⟩ := rd_shape g2
          obtain ⟨fa3, fc3, ht3⟩ := rd_shape g4
          obtain ⟨fa4, fc4, ht4⟩ := rd_shape g5
          subst ht1 ht3 ht4
          have hs1 := HS.out.2 _ (List.getElem_mem hlt)
          have hs3 := HN.out.2.2.2 _ (List.getElem_mem hlt)
          have HTK : Hid (p.funcs.take (k + 1) = p.funcs.take k ++ [p.funcs[k]]) := by unfold Hid; rw [List.take_add_one, List.getElem?_eq_getElem hlt]; rfl
          generalize p.funcs[k] = f at *
          obtain ⟨i0, Z⟩ := ZU.out
          have Z := Lib.hid Z
          have hb4 := (Below.refl wr.heap.size wr).alloc (Nat.le_refl _) (.cells #[.string f.name, .slice fa1 f.params.length fc1, .int .i64 f.result, .slice fa3 f.locals.length fc3, .slice fa4 f.code.length fc4] 49)
          have k4 := Blk.new wr #[.string f.name, .slice fa1 f.params.length fc1, .int .i64 f.result, .slice fa3 f.locals.length fc3, .slice fa4 f.code.length fc4] 49
          have HX : Hid (∀ g, v2.ownBlock = some g → wr.heap.size = g → False) := fun g hg e => by have := (own_ltG hU.row hg).2; omega
          have hL := k3.lt
          have hbd := hb4.drew
          have hbd' := hbd.mono (Nat.le_trans HB.out hbw.size)
          have CC := Lib.hid (cfun_any _ B f (.slice fa1 f.params.length fc1) (.slice fa3 f.locals.length fc3) (.slice fa4 f.code.length fc4) (g2.keep hbd' fun _ _ _ e r => r.keep hbd' e) (g4.keep hbd' fun _ _ _ e r => r.keep hbd' e) (g5.keep hbd' fun _ _ _ e r => r.keep hbd' e) (Nat.le_trans (Nat.le_trans HB.out hbw.size) hbd.size) hs1 ⟨by omega, by omega, by omega⟩)
          have KA := Lib.hid (And.intro k4 (And.intro (k1.grew hb4) (And.intro (k2.grew hb4) (And.intro (k3.grew hb4) (And.intro (hU.grew hb4) (And.intro (hbw.trans (hb4.mono hbw.size)) (And.intro k4.lt (hT1.trans (Touch.of hb4)))))))))
          have lk1 := k1.lt
          have lk2 := k2.lt
          clear k1 k2 k3 k4 hU hbw hb4 hbd hbd' hs1 hs3 g2 g4 g5 hT1
          go_wp2_with fail
          obtain ⟨k4, k1, k2, k3, hU, hbw, hsz, hT1⟩ := KA.out
          clear KA e1 e2 e3 e4 e5
          generalize wr.alloc _ = w4 at *
          generalize wr.heap.size = X at *
          refine wp_region_held_drew (S := (fun W' => W'.cell? ⟨X, 0, none⟩ = some (.string f.name) ∧ W'.cell? ⟨X, 1, none⟩ = some (.slice fa1 f.params.length fc1) ∧ W'.cell? ⟨X, 2, none⟩ = some (.int .i64 f.result) ∧ W'.cell? ⟨X, 3, none⟩ = some (.slice fa3 f.locals.length fc3) ∧ W'.cell? ⟨X, 4, none⟩ = some (.slice fa4 f.code.length fc4))) (by kernel_rfl) ⟨k4.drew.val 0 rfl, k4.drew.val 1 rfl, k4.drew.val 2 rfl, k4.drew.val 3 rfl, k4.drew.val 4 rfl⟩ (fun hHeld => ?_)
          have hb := (Below.refl w4.heap.size w4).drew
          have k1 := k1.grew hb
          have k2 := k2.grew hb
          have k3 := k3.grew hb
          have k4 := k4.grew hb
          have hU := hU.grew hb
          have hT1 := hT1.trans (Touch.of hb)
          have hbw := hbw.trans (hb.mono hbw.size)
          have hsz : X < w4.drew.heap.size := hsz
          clear hb
          generalize w4.drew = w5 at *
          refine wpAnyH_take (i := 0) (oi := _) (v := ?_) (op_atC rfl) (by kernel_rfl) (by kernel_rfl) (by kernel_rfl) (fun _ _ _ h => h) (Or.inl ⟨by rfl, ?_⟩) hHeld ?_
          rotate_left 1
          focus (intro W hSw; (try dsimp only at hSw); go_simp; (try (with_reducible rfl)))
          (try simp only [Act.put, List.setIfInBounds_toArray, List.set_cons_zero, List.set_cons_succ])
          refine wpAnyH_take (i := 2) (oi := _) (v := ?_) (op_atC rfl) (by kernel_rfl) (by kernel_rfl) (by kernel_rfl) (fun _ _ _ h => h) (Or.inl ⟨by rfl, ?_⟩) hHeld ?_
          rotate_left 1
          focus (intro W hSw; (try dsimp only at hSw); go_simp; (try (with_reducible rfl)))
          (try simp only [Act.put, List.setIfInBounds_toArray, List.set_cons_zero, List.set_cons_succ])
          refine wpAnyH_ready (rs := [1, 3]) (by kernel_rfl) (by simp) ?_
          refine AllReadyH.cons (o := _) (op_atC rfl) (fun Kc hKc => ?_) ?_
          focus
            have y1 := k3.val 1 rfl
            go_simp
            clear y1
            refine hKc.out _ _ ?_ (fun hHeld' => ?_)
            focus exact hHeld
            clear hHeld'
            clear hKc Kc
            (try simp only [Act.put, List.setIfInBounds_toArray, List.set_cons_zero, List.set_cons_succ])
            refine wpAnyH_ready (rs := [3]) (by kernel_rfl) (by simp) ?_
            refine AllReadyH.cons (o := _) (op_atC rfl) (fun Kc hKc => ?_) AllReadyH.nil
            go_simp
            go_at_call 40
            (with_reducible refine (CC.out).mono ?_)
            rintro e9 w6 ⟨y1, y3, y4, rfl, o1, o3, o4, hb⟩
            have ha1 : ∀ q, y1.ownBlock = some q → v2.ownBlock ≠ some q := fun q h1 h2 => by have a1 := (own_ltG o1 h1).1; have a2 := (own_ltG hU.row h2).2; omega
            have o1 := own_sub o1 (show w1.heap.size ≤ w5.heap.size from hT1.size)
            obtain ⟨b1, q1, hu1⟩ := row_shape o1
            subst hu1
            have ha3 : ∀ q, y3.ownBlock = some q → v2.ownBlock ≠ some q := fun q h1 h2 => by have a1 := (own_ltG o3 h1).1; have a2 := (own_ltG hU.row h2).2; omega
            have o3 := own_sub o3 (show w1.heap.size ≤ w5.heap.size from hT1.size)
            obtain ⟨b3, q3, hu3⟩ := row_shape o3
            subst hu3
            have ha4 : ∀ q, y4.ownBlock = some q → v2.ownBlock ≠ some q := fun q h1 h2 => by have a1 := (own_ltG o4 h1).1; have a2 := (own_ltG hU.row h2).2; omega
            have o4 := own_sub o4 (show w1.heap.size ≤ w5.heap.size from hT1.size)
            obtain ⟨b4, q4, hu4⟩ := row_shape o4
            subst hu4
            have k1 := k1.grew hb
            have k2 := k2.grew hb
            have k3 := k3.grew hb
            have k4 := k4.grew hb
            have hU := hU.grew hb
            have hT1 := hT1.trans (Touch.of hb)
            have hbw := hbw.trans (hb.mono hbw.size)
            have hsz := Nat.lt_of_lt_of_le hsz hb.size
            go_wp2_with fail
            refine hKc.out _ _ ?_ (fun hHeld' => ?_)
            focus exact ⟨(hb.cell (World.block_lt_of_cell? _ _ hHeld.1)).trans hHeld.1, (hb.cell (World.block_lt_of_cell? _ _ hHeld.2.1)).trans hHeld.2.1, (hb.cell (World.block_lt_of_cell? _ _ hHeld.2.2.1)).trans hHeld.2.2.1, (hb.cell (World.block_lt_of_cell? _ _ hHeld.2.2.2.1)).trans hHeld.2.2.2.1, (hb.cell (World.block_lt_of_cell? _ _ hHeld.2.2.2.2)).trans hHeld.2.2.2.2⟩
            clear hHeld hb
            have hHeld := hHeld'
            clear hHeld'
            clear hKc Kc
            (try simp only [Act.put, List.setIfInBounds_toArray, List.set_cons_zero, List.set_cons_succ])
            refine wpAnyH_ready (rs := [4]) (by kernel_rfl) (by simp) ?_
            refine AllReadyH.cons (o := _) (op_atC rfl) (fun Kc hKc => ?_) AllReadyH.nil
            go_simp
            refine hKc.out _ _ ?_ (fun hHeld' => ?_)
            focus exact ⟨((Below.refl _ _).alloc (Nat.le_refl _) _).cell (World.block_lt_of_cell? _ _ hHeld.1) |>.trans hHeld.1, ((Below.refl _ _).alloc (Nat.le_refl _) _).cell (World.block_lt_of_cell? _ _ hHeld.2.1) |>.trans hHeld.2.1, ((Below.refl _ _).alloc (Nat.le_refl _) _).cell (World.block_lt_of_cell? _ _ hHeld.2.2.1) |>.trans hHeld.2.2.1, ((Below.refl _ _).alloc (Nat.le_refl _) _).cell (World.block_lt_of_cell? _ _ hHeld.2.2.2.1) |>.trans hHeld.2.2.2.1, ((Below.refl _ _).alloc (Nat.le_refl _) _).cell (World.block_lt_of_cell? _ _ hHeld.2.2.2.2) |>.trans hHeld.2.2.2.2⟩
            clear hHeld
            have hHeld := hHeld'
            clear hHeld'
            have hb := (Below.refl w6.heap.size w6).alloc (Nat.le_refl _) (.cells #[.string f.name, .slice b1 f.params.length q1, .int .i64 f.result, .slice b3 f.locals.length q3, .slice b4 f.code.length q4] 49)
            have kS := Blk.new w6 #[.string f.name, .slice b1 f.params.length q1, .int .i64 f.result, .slice b3 f.locals.length q3, .slice b4 f.code.length q4] 49
            have k1 := k1.grew hb
            have k2 := k2.grew hb
            have k3 := k3.grew hb
            have k4 := k4.grew hb
            have hU := hU.grew hb
            have hT1 := hT1.trans (Touch.of hb)
            have hbw := hbw.trans (hb.mono hbw.size)
            have hsz := Nat.lt_of_lt_of_le hsz hb.size
            have o1 := own_grewG o1 hb
            have o3 := own_grewG o3 hb
            have o4 := own_grewG o4 hb
            clear hb
            generalize w6.alloc _ = w7 at *
            generalize w6.heap.size = G at *
            clear hKc Kc
            (try simp only [Act.put, List.setIfInBounds_toArray, List.set_cons_zero, List.set_cons_succ])
            refine wpAnyH_ready (rs := [5]) (by kernel_rfl) (by simp) ?_
            refine AllReadyH.cons (o := _) (op_atC rfl) (fun Kc hKc => ?_) AllReadyH.nil
            have hr1 : some w.heap.size ≠ v2.ownBlock := fun q => by have := (own_ltG hU.row q.symm).1; omega
            have hr2 : some (w.heap.size + 1) ≠ v2.ownBlock := fun q => by have := (own_ltG hU.row q.symm).1; omega
            have hr3 : some L ≠ v2.ownBlock := fun q => by have := (own_ltG hU.row q.symm).1; omega
            have hXr : some X ≠ v2.ownBlock := fun q => HX.out _ q.symm rfl
            refine step_append_lies _ (by rfl) _ _ _ (by rfl) w1.heap.size 49 i0 _ 5 96 Try.underlying25 Z.out.1 Z.out.2.1 Z.out.2.2.1 Z.out.2.2.2 rfl (by decide) v2 l2.length (l2.flatMap funC) (by rfl) hU.row ⟨G, 0, none⟩ 1 1 [.string f.name, .slice b1 f.params.length q1, .int .i64 f.result, .slice b3 f.locals.length q3, .slice b4 f.code.length q4] (by rfl) (by rfl) (World.news_of_block kS) (by simp [Value.oneCell']) (by decide) (by have h1 := HLK.out; have h2 := HN.out.2.1; unfold maxLen; omega) (by have h1 := HLK.out; have h2 := HN.out.2.1; omega) (by exact hT1.size) _ rfl ?_
            intro g cap w8 hown hgrow hat hlt
            refine hKc.out _ _ ?_ (fun hHeld' => ?_)
            focus exact ⟨hgrow.cell hHeld.1 hXr, hgrow.cell hHeld.2.1 hXr, hgrow.cell hHeld.2.2.1 hXr, hgrow.cell hHeld.2.2.2.1 hXr, hgrow.cell hHeld.2.2.2.2 hXr⟩
            clear hHeld
            have hHeld := hHeld'
            clear hHeld'
            have k1 := k1.of (hgrow.block _ k1.lt hr1)
            have k2 := k2.of (hgrow.block _ k2.lt hr2)
            have k3 := k3.of (hgrow.block _ k3.lt hr3)
            have k4 := k4.of (hgrow.block _ k4.lt hXr)
            have hT1 := hT1.grown hgrow (fun q hq => .inr (own_ltG hU.row hq).1)
            have hbw := hbw.grown hgrow hbw.size (fun q hq => by have := (own_ltG hU.row hq).1; omega)
            have hU := hU.app (x := (f, .slice b1 f.params.length q1, .slice b3 f.locals.length q3, .slice b4 f.code.length q4)) o1 o3 o4 ha1 ha3 ha4 hgrow hown rfl hat
            clear hgrow hat hlt kS hown o1 o3 o4 ha1 ha3 ha4
            clear hKc Kc
            (try simp only [Act.put, List.setIfInBounds_toArray, List.set_cons_zero, List.set_cons_succ])
            refine wpAnyH_take (i := 6) (oi := _) (v := ?_) (op_atC rfl) (by kernel_rfl) (by kernel_rfl) (by kernel_rfl) (fun _ _ _ h => h) (Or.inl ⟨by rfl, ?_⟩) hHeld ?_
            rotate_left 1
            focus (intro W hSw; (try dsimp only at hSw); go_simp; (try (with_reducible rfl)))
            (try simp only [Act.put, List.setIfInBounds_toArray, List.set_cons_zero, List.set_cons_succ])
            refine wpAnyH_ready (rs := [7]) (by kernel_rfl) (by simp) ?_
            refine AllReadyH.cons (o := _) (op_atC rfl) (fun Kc hKc => ?_) AllReadyH.nil
            have hLX : L ≠ X := by omega
            have y1 := k3.val 1 rfl
            have f1 := k3.frozen 1
            go_simp
            refine hKc.out _ _ ?_ (fun hHeld' => ?_)
            focus exact ⟨(World.cell?_setCell_far _ _ _ _ hLX).trans hHeld.1, (World.cell?_setCell_far _ _ _ _ hLX).trans hHeld.2.1, (World.cell?_setCell_far _ _ _ _ hLX).trans hHeld.2.2.1, (World.cell?_setCell_far _ _ _ _ hLX).trans hHeld.2.2.2.1, (World.cell?_setCell_far _ _ _ _ hLX).trans hHeld.2.2.2.2⟩
            clear hHeld hHeld' y1 f1
            have hT := (Touch.refl (fun x => x = L) w8).setCell (p := ⟨L, 1, none⟩) rfl (Value.slice (some ⟨g, 0, none⟩) (l2.length + 1) cap)
            have k1 := k1.touch hT (by omega)
            have k2 := k2.touch hT (by omega)
            have k3 := k3.set 1 (Value.slice (some ⟨g, 0, none⟩) (l2.length + 1) cap)
            have hU := hU.touch hT (fun q h1 _ => by omega)
            have hT1 := hT1.trans hT
            have hbw := hbw.trans (hT.below (B := w.heap.size) hbw.size (fun q hq => by omega))
            clear hT
            generalize World.setCell _ _ _ = w9 at *
            clear hKc Kc
            (try simp only [Act.put, List.setIfInBounds_toArray, List.set_cons_zero, List.set_cons_succ])
            refine wpAnyH_done (by kernel_rfl) ?_ _
            clear k4 hsz
            go_wp2
            go_roundw
            case rel => exact ⟨k + 1, l2 ++ [(f, .slice b1 f.params.length q1, .slice b3 f.locals.length q3, .slice b4 f.code.length q4)], _, by omega, by go_num, k1, k2, k3, hU, by rw [List.map_append, hm, HTK.out]; rfl, hT1, hbw⟩
            case measure => simp [intOf]; omega
          refine AllReadyH.cons (o := _) (op_atC rfl) (fun Kc hKc => ?_) AllReadyH.nil
          go_simp
          go_at_call 40
          (with_reducible refine (CC.out).mono ?_)
          rintro e9 w10 ⟨y1, y3, y4, rfl, o1, o3, o4, hb⟩
          have ha1 : ∀ q, y1.ownBlock = some q → v2.ownBlock ≠ some q := fun q h1 h2 => by have a1 := (own_ltG o1 h1).1; have a2 := (own_ltG hU.row h2).2; omega
          have o1 := own_sub o1 (show w1.heap.size ≤ w5.heap.size from hT1.size)
          obtain ⟨b1, q1, hu1⟩ := row_shape o1
          subst hu1
          have ha3 : ∀ q, y3.ownBlock = some q → v2.ownBlock ≠ some q := fun q h1 h2 => by have a1 := (own_ltG o3 h1).1; have a2 := (own_ltG hU.row h2).2; omega
          have o3 := own_sub o3 (show w1.heap.size ≤ w5.heap.size from hT1.size)
          obtain ⟨b3, q3, hu3⟩ := row_shape o3
          subst hu3
          have ha4 : ∀ q, y4.ownBlock = some q → v2.ownBlock ≠ some q := fun q h1 h2 => by have a1 := (own_ltG o4 h1).1; have a2 := (own_ltG hU.row h2).2; omega
          have o4 := own_sub o4 (show w1.heap.size ≤ w5.heap.size from hT1.size)
          obtain ⟨b4, q4, hu4⟩ := row_shape o4
          subst hu4
          have k1 := k1.grew hb
          have k2 := k2.grew hb
          have k3 := k3.grew hb
          have k4 := k4.grew hb
          have hU := hU.grew hb
          have hT1 := hT1.trans (Touch.of hb)
          have hbw := hbw.trans (hb.mono hbw.size)
          have hsz := Nat.lt_of_lt_of_le hsz hb.size
          go_wp2_with fail
          refine hKc.out _ _ ?_ (fun hHeld' => ?_)
          focus exact ⟨(hb.cell (World.block_lt_of_cell? _ _ hHeld.1)).trans hHeld.1, (hb.cell (World.block_lt_of_cell? _ _ hHeld.2.1)).trans hHeld.2.1, (hb.cell (World.block_lt_of_cell? _ _ hHeld.2.2.1)).trans hHeld.2.2.1, (hb.cell (World.block_lt_of_cell? _ _ hHeld.2.2.2.1)).trans hHeld.2.2.2.1, (hb.cell (World.block_lt_of_cell? _ _ hHeld.2.2.2.2)).trans hHeld.2.2.2.2⟩
          clear hHeld hb
          have hHeld := hHeld'
          clear hHeld'
          clear hKc Kc
          (try simp only [Act.put, List.setIfInBounds_toArray, List.set_cons_zero, List.set_cons_succ])
          refine wpAnyH_ready (rs := [1, 4]) (by kernel_rfl) (by simp) ?_
          refine AllReadyH.cons (o := _) (op_atC rfl) (fun Kc hKc => ?_) ?_
          focus
            have y1 := k3.val 1 rfl
            go_simp
            clear y1
            refine hKc.out _ _ ?_ (fun hHeld' => ?_)
            focus exact hHeld
            clear hHeld'
            clear hKc Kc
            (try simp only [Act.put, List.setIfInBounds_toArray, List.set_cons_zero, List.set_cons_succ])
            refine wpAnyH_ready (rs := [4]) (by kernel_rfl) (by simp) ?_
            refine AllReadyH.cons (o := _) (op_atC rfl) (fun Kc hKc => ?_) AllReadyH.nil
            go_simp
            refine hKc.out _ _ ?_ (fun hHeld' => ?_)
            focus exact ⟨((Below.refl _ _).alloc (Nat.le_refl _) _).cell (World.block_lt_of_cell? _ _ hHeld.1) |>.trans hHeld.1, ((Below.refl _ _).alloc (Nat.le_refl _) _).cell (World.block_lt_of_cell? _ _ hHeld.2.1) |>.trans hHeld.2.1, ((Below.refl _ _).alloc (Nat.le_refl _) _).cell (World.block_lt_of_cell? _ _ hHeld.2.2.1) |>.trans hHeld.2.2.1, ((Below.refl _ _).alloc (Nat.le_refl _) _).cell (World.block_lt_of_cell? _ _ hHeld.2.2.2.1) |>.trans hHeld.2.2.2.1, ((Below.refl _ _).alloc (Nat.le_refl _) _).cell (World.block_lt_of_cell? _ _ hHeld.2.2.2.2) |>.trans hHeld.2.2.2.2⟩
            clear hHeld
            have hHeld := hHeld'
            clear hHeld'
            have hb := (Below.refl w10.heap.size w10).alloc (Nat.le_refl _) (.cells #[.string f.name, .slice b1 f.params.length q1, .int .i64 f.result, .slice b3 f.locals.length q3, .slice b4 f.code.length q4] 49)
            have kS := Blk.new w10 #[.string f.name, .slice b1 f.params.length q1, .int .i64 f.result, .slice b3 f.locals.length q3, .slice b4 f.code.length q4] 49
            have k1 := k1.grew hb
            have k2 := k2.grew hb
            have k3 := k3.grew hb
            have k4 := k4.grew hb
            have hU := hU.grew hb
            have hT1 := hT1.trans (Touch.of hb)
            have hbw := hbw.trans (hb.mono hbw.size)
            have hsz := Nat.lt_of_lt_of_le hsz hb.size
            have o1 := own_grewG o1 hb
            have o3 := own_grewG o3 hb
            have o4 := own_grewG o4 hb
            clear hb
            generalize w10.alloc _ = w11 at *
            generalize w10.heap.size = G at *
            clear hKc Kc
            (try simp only [Act.put, List.setIfInBounds_toArray, List.set_cons_zero, List.set_cons_succ])
            refine wpAnyH_ready (rs := [5]) (by kernel_rfl) (by simp) ?_
            refine AllReadyH.cons (o := _) (op_atC rfl) (fun Kc hKc => ?_) AllReadyH.nil
            have hr1 : some w.heap.size ≠ v2.ownBlock := fun q => by have := (own_ltG hU.row q.symm).1; omega
            have hr2 : some (w.heap.size + 1) ≠ v2.ownBlock := fun q => by have := (own_ltG hU.row q.symm).1; omega
            have hr3 : some L ≠ v2.ownBlock := fun q => by have := (own_ltG hU.row q.symm).1; omega
            have hXr : some X ≠ v2.ownBlock := fun q => HX.out _ q.symm rfl
            refine step_append_lies _ (by rfl) _ _ _ (by rfl) w1.heap.size 49 i0 _ 5 96 Try.underlying25 Z.out.1 Z.out.2.1 Z.out.2.2.1 Z.out.2.2.2 rfl (by decide) v2 l2.length (l2.flatMap funC) (by rfl) hU.row ⟨G, 0, none⟩ 1 1 [.string f.name, .slice b1 f.params.length q1, .int .i64 f.result, .slice b3 f.locals.length q3, .slice b4 f.code.length q4] (by rfl) (by rfl) (World.news_of_block kS) (by simp [Value.oneCell']) (by decide) (by have h1 := HLK.out; have h2 := HN.out.2.1; unfold maxLen; omega) (by have h1 := HLK.out; have h2 := HN.out.2.1; omega) (by exact hT1.size) _ rfl ?_
            intro g cap w12 hown hgrow hat hlt
            refine hKc.out _ _ ?_ (fun hHeld' => ?_)
            focus exact ⟨hgrow.cell hHeld.1 hXr, hgrow.cell hHeld.2.1 hXr, hgrow.cell hHeld.2.2.1 hXr, hgrow.cell hHeld.2.2.2.1 hXr, hgrow.cell hHeld.2.2.2.2 hXr⟩
            clear hHeld
            have hHeld := hHeld'
            clear hHeld'
            have k1 := k1.of (hgrow.block _ k1.lt hr1)
            have k2 := k2.of (hgrow.block _ k2.lt hr2)
            have k3 := k3.of (hgrow.block _ k3.lt hr3)
            have k4 := k4.of (hgrow.block _ k4.lt hXr)
            have hT1 := hT1.grown hgrow (fun q hq => .inr (own_ltG hU.row hq).1)
            have hbw := hbw.grown hgrow hbw.size (fun q hq => by have := (own_ltG hU.row hq).1; omega)
            have hU := hU.app (x := (f, .slice b1 f.params.length q1, .slice b3 f.locals.length q3, .slice b4 f.code.length q4)) o1 o3 o4 ha1 ha3 ha4 hgrow hown rfl hat
            clear hgrow hat hlt kS hown o1 o3 o4 ha1 ha3 ha4
            clear hKc Kc
            (try simp only [Act.put, List.setIfInBounds_toArray, List.set_cons_zero, List.set_cons_succ])
            refine wpAnyH_take (i := 6) (oi := _) (v := ?_) (op_atC rfl) (by kernel_rfl) (by kernel_rfl) (by kernel_rfl) (fun _ _ _ h => h) (Or.inl ⟨by rfl, ?_⟩) hHeld ?_
            rotate_left 1
            focus (intro W hSw; (try dsimp only at hSw); go_simp; (try (with_reducible rfl)))
            (try simp only [Act.put, List.setIfInBounds_toArray, List.set_cons_zero, List.set_cons_succ])
            refine wpAnyH_ready (rs := [7]) (by kernel_rfl) (by simp) ?_
            refine AllReadyH.cons (o := _) (op_atC rfl) (fun Kc hKc => ?_) AllReadyH.nil
            have hLX : L ≠ X := by omega
            have y1 := k3.val 1 rfl
            have f1 := k3.frozen 1
            go_simp
            refine hKc.out _ _ ?_ (fun hHeld' => ?_)
            focus exact ⟨(World.cell?_setCell_far _ _ _ _ hLX).trans hHeld.1, (World.cell?_setCell_far _ _ _ _ hLX).trans hHeld.2.1, (World.cell?_setCell_far _ _ _ _ hLX).trans hHeld.2.2.1, (World.cell?_setCell_far _ _ _ _ hLX).trans hHeld.2.2.2.1, (World.cell?_setCell_far _ _ _ _ hLX).trans hHeld.2.2.2.2⟩
            clear hHeld hHeld' y1 f1
            have hT := (Touch.refl (fun x => x = L) w12).setCell (p := ⟨L, 1, none⟩) rfl (Value.slice (some ⟨g, 0, none⟩) (l2.length + 1) cap)
            have k1 := k1.touch hT (by omega)
            have k2 := k2.touch hT (by omega)
            have k3 := k3.set 1 (Value.slice (some ⟨g, 0, none⟩) (l2.length + 1) cap)
            have hU := hU.touch hT (fun q h1 _ => by omega)
            have hT1 := hT1.trans hT
            have hbw := hbw.trans (hT.below (B := w.heap.size) hbw.size (fun q hq => by omega))
            clear hT
            generalize World.setCell _ _ _ = w13 at *
            clear hKc Kc
            (try simp only [Act.put, List.setIfInBounds_toArray, List.set_cons_zero, List.set_cons_succ])
            refine wpAnyH_done (by kernel_rfl) ?_ _
            clear k4 hsz
            go_wp2
            go_roundw
            case rel => exact ⟨k + 1, l2 ++ [(f, .slice b1 f.params.length q1, .slice b3 f.locals.length q3, .slice b4 f.code.length q4)], _, by omega, by go_num, k1, k2, k3, hU, by rw [List.map_append, hm, HTK.out]; rfl, hT1, hbw⟩
            case measure => simp [intOf]; omega
          refine AllReadyH.cons (o := _) (op_atC rfl) (fun Kc hKc => ?_) AllReadyH.nil
          go_simp
          refine hKc.out _ _ ?_ (fun hHeld' => ?_)
          focus exact ⟨((Below.refl _ _).alloc (Nat.le_refl _) _).cell (World.block_lt_of_cell? _ _ hHeld.1) |>.trans hHeld.1, ((Below.refl _ _).alloc (Nat.le_refl _) _).cell (World.block_lt_of_cell? _ _ hHeld.2.1) |>.trans hHeld.2.1, ((Below.refl _ _).alloc (Nat.le_refl _) _).cell (World.block_lt_of_cell? _ _ hHeld.2.2.1) |>.trans hHeld.2.2.1, ((Below.refl _ _).alloc (Nat.le_refl _) _).cell (World.block_lt_of_cell? _ _ hHeld.2.2.2.1) |>.trans hHeld.2.2.2.1, ((Below.refl _ _).alloc (Nat.le_refl _) _).cell (World.block_lt_of_cell? _ _ hHeld.2.2.2.2) |>.trans hHeld.2.2.2.2⟩
          clear hHeld
          have hHeld := hHeld'
          clear hHeld'
          have hb := (Below.refl w10.heap.size w10).alloc (Nat.le_refl _) (.cells #[.string f.name, .slice b1 f.params.length q1, .int .i64 f.result, .slice b3 f.locals.length q3, .slice b4 f.code.length q4] 49)
          have kS := Blk.new w10 #[.string f.name, .slice b1 f.params.length q1, .int .i64 f.result, .slice b3 f.locals.length q3, .slice b4 f.code.length q4] 49
          have k1 := k1.grew hb
          have k2 := k2.grew hb
          have k3 := k3.grew hb
          have k4 := k4.grew hb
          have hU := hU.grew hb
          have hT1 := hT1.trans (Touch.of hb)
          have hbw := hbw.trans (hb.mono hbw.size)
          have hsz := Nat.lt_of_lt_of_le hsz hb.size
          have o1 := own_grewG o1 hb
          have o3 := own_grewG o3 hb
          have o4 := own_grewG o4 hb
          clear hb
          generalize w10.alloc _ = w14 at *
          generalize w10.heap.size = G at *
          clear hKc Kc
          (try simp only [Act.put, List.setIfInBounds_toArray, List.set_cons_zero, List.set_cons_succ])
          refine wpAnyH_ready (rs := [1]) (by kernel_rfl) (by simp) ?_
          refine AllReadyH.cons (o := _) (op_atC rfl) (fun Kc hKc => ?_) AllReadyH.nil
          have y1 := k3.val 1 rfl
          go_simp
          clear y1
          refine hKc.out _ _ ?_ (fun hHeld' => ?_)
          focus exact hHeld
          clear hHeld'
          clear hKc Kc
          (try simp only [Act.put, List.setIfInBounds_toArray, List.set_cons_zero, List.set_cons_succ])
          refine wpAnyH_ready (rs := [5]) (by kernel_rfl) (by simp) ?_
          refine AllReadyH.cons (o := _) (op_atC rfl) (fun Kc hKc => ?_) AllReadyH.nil
          have hr1 : some w.heap.size ≠ v2.ownBlock := fun q => by have := (own_ltG hU.row q.symm).1; omega
          have hr2 : some (w.heap.size + 1) ≠ v2.ownBlock := fun q => by have := (own_ltG hU.row q.symm).1; omega
          have hr3 : some L ≠ v2.ownBlock := fun q => by have := (own_ltG hU.row q.symm).1; omega
          have hXr : some X ≠ v2.ownBlock := fun q => HX.out _ q.symm rfl
          refine step_append_lies _ (by rfl) _ _ _ (by rfl) w1.heap.size 49 i0 _ 5 96 Try.underlying25 Z.out.1 Z.out.2.1 Z.out.2.2.1 Z.out.2.2.2 rfl (by decide) v2 l2.length (l2.flatMap funC) (by rfl) hU.row ⟨G, 0, none⟩ 1 1 [.string f.name, .slice b1 f.params.length q1, .int .i64 f.result, .slice b3 f.locals.length q3, .slice b4 f.code.length q4] (by rfl) (by rfl) (World.news_of_block kS) (by simp [Value.oneCell']) (by decide) (by have h1 := HLK.out; have h2 := HN.out.2.1; unfold maxLen; omega) (by have h1 := HLK.out; have h2 := HN.out.2.1; omega) (by exact hT1.size) _ rfl ?_
          intro g cap w15 hown hgrow hat hlt
          refine hKc.out _ _ ?_ (fun hHeld' => ?_)
          focus exact ⟨hgrow.cell hHeld.1 hXr, hgrow.cell hHeld.2.1 hXr, hgrow.cell hHeld.2.2.1 hXr, hgrow.cell hHeld.2.2.2.1 hXr, hgrow.cell hHeld.2.2.2.2 hXr⟩
          clear hHeld
          have hHeld := hHeld'
          clear hHeld'
          have k1 := k1.of (hgrow.block _ k1.lt hr1)
          have k2 := k2.of (hgrow.block _ k2.lt hr2)
          have k3 := k3.of (hgrow.block _ k3.lt hr3)
          have k4 := k4.of (hgrow.block _ k4.lt hXr)
          have hT1 := hT1.grown hgrow (fun q hq => .inr (own_ltG hU.row hq).1)
          have hbw := hbw.grown hgrow hbw.size (fun q hq => by have := (own_ltG hU.row hq).1; omega)
          have hU := hU.app (x := (f, .slice b1 f.params.length q1, .slice b3 f.locals.length q3, .slice b4 f.code.length q4)) o1 o3 o4 ha1 ha3 ha4 hgrow hown rfl hat
          clear hgrow hat hlt kS hown o1 o3 o4 ha1 ha3 ha4
          clear hKc Kc
          (try simp only [Act.put, List.setIfInBounds_toArray, List.set_cons_zero, List.set_cons_succ])
          refine wpAnyH_take (i := 6) (oi := _) (v := ?_) (op_atC rfl) (by kernel_rfl) (by kernel_rfl) (by kernel_rfl) (fun _ _ _ h => h) (Or.inl ⟨by rfl, ?_⟩) hHeld ?_
          rotate_left 1
          focus (intro W hSw; (try dsimp only at hSw); go_simp; (try (with_reducible rfl)))
          (try simp only [Act.put, List.setIfInBounds_toArray, List.set_cons_zero, List.set_cons_succ])
          refine wpAnyH_ready (rs := [7]) (by kernel_rfl) (by simp) ?_
          refine AllReadyH.cons (o := _) (op_atC rfl) (fun Kc hKc => ?_) AllReadyH.nil
          have hLX : L ≠ X := by omega
          have y1 := k3.val 1 rfl
          have f1 := k3.frozen 1
          go_simp
          refine hKc.out _ _ ?_ (fun hHeld' => ?_)
          focus exact ⟨(World.cell?_setCell_far _ _ _ _ hLX).trans hHeld.1, (World.cell?_setCell_far _ _ _ _ hLX).trans hHeld.2.1, (World.cell?_setCell_far _ _ _ _ hLX).trans hHeld.2.2.1, (World.cell?_setCell_far _ _ _ _ hLX).trans hHeld.2.2.2.1, (World.cell?_setCell_far _ _ _ _ hLX).trans hHeld.2.2.2.2⟩
          clear hHeld hHeld' y1 f1
          have hT := (Touch.refl (fun x => x = L) w15).setCell (p := ⟨L, 1, none⟩) rfl (Value.slice (some ⟨g, 0, none⟩) (l2.length + 1) cap)
          have k1 := k1.touch hT (by omega)
          have k2 := k2.touch hT (by omega)
          have k3 := k3.set 1 (Value.slice (some ⟨g, 0, none⟩) (l2.length + 1) cap)
          have hU := hU.touch hT (fun q h1 _ => by omega)
          have hT1 := hT1.trans hT
          have hbw := hbw.trans (hT.below (B := w.heap.size) hbw.size (fun q hq => by omega))
          clear hT
          generalize World.setCell _ _ _ = w16 at *
          clear hKc Kc
          (try simp only [Act.put, List.setIfInBounds_toArray, List.set_cons_zero, List.set_cons_succ])
          refine wpAnyH_done (by kernel_rfl) ?_ _
          clear k4 hsz
          go_wp2
          go_roundw
          case rel => exact ⟨k + 1, l2 ++ [(f, .slice b1 f.params.length q1, .slice b3 f.locals.length q3, .slice b4 f.code.length q4)], _, by omega, by go_num, k1, k2, k3, hU, by rw [List.map_append, hm, HTK.out]; rfl, hT1, hbw⟩
          case measure => simp [intOf]; omega
        · have hlt' : ¬ (k : Int) < (p.funcs.length : Int) := by omega
          have hk' : k = p.funcs.length := by omega
          have hm2 : l2.map (·.1) = p.funcs := by rw [hm, hk', List.take_length]
          obtain ⟨ua, uc, hu⟩ := row_shape HC.out.row
          obtain ⟨ta, tc, ht⟩ := row_shape hU.row
          subst hu ht
          have y0 := k3.val 0 rfl
          have y1 := k3.val 1 rfl
          have z0 := k2.val 0 rfl
          have z1 := k2.val 1 rfl
          have f0 := k2.frozen 0
          have f1 := k2.frozen 1
          have hT := ((Touch.refl (fun x => x = w.heap.size + 1) wr).setCell (p := ⟨w.heap.size + 1, 0, none⟩) rfl (.slice ua l.length uc)).setCell (p := ⟨w.heap.size + 1, 1, none⟩) rfl (.slice ta l2.length tc)
          have hTT := (hT1.mono (R' := fun x => x = L ∨ x = w.heap.size + 1) fun x _ e => .inl e).trans (hT.mono (R' := fun x => x = L ∨ x = w.heap.size + 1) fun x _ e => .inr e)
          have HE := Lib.hid (And.intro (HC.out.touch hTT (fun q h1 _ h2 => by omega)) (And.intro (hU.touch hT (fun q h1 _ => by omega)) (hbw.trans (hT.below (B := w.heap.size) hbw.size (fun q hq => by omega)))))
          have K2 := Lib.hid ((k2.set 0 (.slice ua l.length uc)).set 1 (.slice ta l2.length tc))
          have HM2 := Lib.hid hm2
          have HW := Lib.hid (show w.heap.size ≤ w1.heap.size by omega)
          clear hT hTT hT1 k1 k2 k3 hU hbw hm hm2 hk'
          go_wp2
          clear z0 z1
          have z0 := K2.out.val 0 rfl
          have z1 := K2.out.val 1 rfl
          refine bodyPost_ret (v := .agg #[.slice ua l.length uc, .slice ta l2.length tc]) (by simp [results, Try.results14, go_sem, z0, z1]) rfl ⟨_, _, l, l2, w1.heap.size, rfl, HE.out.1.sub (by omega), HM.out, HE.out.2.1, HM2.out, HW.out, HV.out, fun x hx g hg => (own_ltG (HC.out.inner x hx) hg).2, HE.out.2.2⟩
end Go.Proofs.Ytgcimjghkidoiaa
