/- The document's objects: Look's success. Conditions: the plan is a plan, the cells are a row of their own, the classes are read. -/
import Derived.Deep.AppendLies
import Derived.Test.YtpoddnfooaddgaaGreatDoorGObjectsLooks22
import Derived.Test.YtpoddnfooaddgaaGreatDoorGObjectsLooks24
namespace Go.Proofs.YtpoddnfooaddgaaGreatDoor
open Go.RowKit
set_option linter.unusedVariables false
section
variable {w W W' : World} {P T R bs tb z : Int} {d : Nat} {cs : List Int} {B : Nat} {v : Value} {cl : List ClsD}
set_option maxRecDepth 100000 in
set_option maxHeartbeats 8000000 in
theorem rlook_yes (x : Nat) (h : Right P T R) (hx : x < cs.length) (hd : Blk w d (cs.map (Value.int .u64)).toArray 57) (hl : cs.length = cellsN P T R) (hU : ∀ z ∈ cs, U64 z) (hc : RdRow 2 (ElC B) B w v cl) (hB : B ≤ w.heap.size) (hl6 : cl.length ≤ 16) (hf : ∀ d ∈ cl, d.fields.length ≤ 15) (hh : holdB P T R cs x = true)
    (h2 : hdE (cs.getD x 0) = 0) (h3 : fitI cl (hdC (cs.getD x 0)) (hdK (cs.getD x 0)) (hdN (cs.getD x 0)) = true)
    (h4 : roomB P (cs.getD (rowN P T R 0 (placeI P T R x).1) 0 % 4) (cs.getD (rowN P T R 0 (placeI P T R x).1) 0 / 4 % 16) (placeI P T R x).1 (wordsV (hdC (cs.getD x 0)) (hdK (cs.getD x 0)) (hdN (cs.getD x 0))) = true)
    (Q : Nat) (h5 : hdN (cs.getD x 0) = (Q : Int)) (h6 : Q ≤ 255) (h7 : x + 1 + Q ≤ cs.length) :
    Calls Tryz.prog 29 #[.slice (some ⟨d, 0, none⟩) (cellsN P T R) (cellsN P T R), mapV P T R, v, .int .i64 (x : Int)] w (LkPost x (hdC (cs.getD x 0)) (hdK (cs.getD x 0)) (lkL cs x Q) w) := by
  obtain ⟨p0, p1, p2, p3⟩ := holdB_parts hh
  have hpP := place_lt p0
  have hpb := place_bdO P T R x
  have hcl := (cellsN_bd h).2.2
  have hx6 : I64 (x : Int) := ⟨by omega, by omega⟩
  have AL := Lib.hid (fun W (hd : Blk W d (cs.map (Value.int .u64)).toArray 57) => rallocated_any P T R x d cs W h hx6 hd hl hU)
  rw [hh] at AL
  have HP := Lib.hid (fun W => rheap_any P T R x W h hx6)
  have DH : Hid (∀ W : World, Calls Tryz.prog 65 #[.int .u64 (cs.getD x 0)] W fun e w' => e = .returned (.tuple #[.agg #[.int .i64 (hdC (cs.getD x 0)), .int .i64 (hdK (cs.getD x 0)), .int .i64 (hdN (cs.getD x 0))], .int .i64 (hdE (cs.getD x 0))]) ∧ Below W.heap.size W w') := Lib.hid (fun W => rdec_any (cs.getD x 0) W (getD_U hU _))
  rw [h2] at DH
  have RE := Lib.hid (fun W (hd : Blk W d (cs.map (Value.int .u64)).toArray 57) => rentry_any P T R (placeI P T R x).1 d cs W h p0 hpP hd hl hU)
  unfold decD at RE
  rw [p1] at RE
  simp only [if_true] at RE
  have FT := Lib.hid (fun W (h : RdRow 2 (ElC B) B W v cl) (hB : B ≤ W.heap.size) => rfits_any W B v cl (hdC (cs.getD x 0)) (hdK (cs.getD x 0)) (hdN (cs.getD x 0)) h hB hl6 hf)
  have RM := Lib.hid (fun W => room_any P T R (baseI P T R) (tabI T R) (baseI P T R + 64 * P) (cs.getD (rowN P T R 0 (placeI P T R x).1) 0 % 4) (cs.getD (rowN P T R 0 (placeI P T R x).1) 0 / 4 % 16) (cs.getD (rowN P T R 0 (placeI P T R x).1) 0 / 64 % 4) (cs.getD (rowN P T R 0 (placeI P T R x).1) 0 / 256 % 16) (cs.getD (rowN P T R 0 (placeI P T R x).1) 0 / 65536 % 4294967296) (placeI P T R x).1 (placeI P T R x).2 (hdC (cs.getD x 0)) (hdK (cs.getD x 0)) (hdN (cs.getD x 0)) W p0 hpb.2.1)
  rw [h3] at FT
  rw [h4] at RM
  have GR := Lib.hid (fun W (hr : Blk W d (cs.map (Value.int .u64)).toArray 57) (i : Nat) (hi : i < Q) => row_get hr (i := x + 1 + i) (by omega))
  have GX := Lib.hid (fun W (hr : Blk W d (cs.map (Value.int .u64)).toArray 57) => row_get hr hx)
  have hS := RkS.new P T R (baseI P T R) (tabI T R) (baseI P T R + 64 * P) hd hc hB
  obtain ⟨av, qv, rfl⟩ := rd_shape hc
  have hxN : (x : Int) < (cellsN P T R : Int) := by omega
  have hxQ : x + 1 + Q ≤ cellsN P T R ∧ cellsN P T R ≤ 1000000 := by omega
  clear hd hU hc hh h hx6 p0 p1 p2 p3 hpP hpb hcl h2 hl6 hf hx hl h3 h4 h7
  unfold LkPost
  rw [lkL_len]
  unfold mapV at AL HP RE ⊢
  generalize cs.getD x 0 = xw at *
  generalize hdC xw = hc at *
  generalize hdK xw = hk at *
  generalize hdN xw = hn at *
  subst h5
  generalize cs.getD (rowN P T R 0 (placeI P T R x).1) 0 % 4 = q0 at *
  generalize cs.getD (rowN P T R 0 (placeI P T R x).1) 0 / 4 % 16 = q1 at *
  generalize cs.getD (rowN P T R 0 (placeI P T R x).1) 0 / 64 % 4 = q2 at *
  generalize cs.getD (rowN P T R 0 (placeI P T R x).1) 0 / 256 % 16 = q3 at *
  generalize cs.getD (rowN P T R 0 (placeI P T R x).1) 0 / 65536 % 4294967296 = q4 at *
  generalize (placeI P T R x).1 = pg at *
  generalize (placeI P T R x).2 = off at *
  generalize baseI P T R = bs at *
  generalize tabI T R = tb at *
  generalize bs + 64 * P = z at *
  generalize cellsN P T R = NC at *
  obtain ⟨⟨a0, a1, a2, a3, a4, a5⟩, _⟩ := hS.mp.six
  go_enter Tryz.func29, Tryz.ntmps29
  go_wp2_with fail
  refine (AL.out _ hS.row).mono ?_; rintro e w1 ⟨rfl, hb1⟩
  have hS1 := hS.grew hb1
  clear hS hb1 a0 a1 a2 a3 a4 a5 AL
  have cx := GX.out _ hS1.row
  go_wp2_with fail
  refine (DH.out _).mono ?_; rintro e w2 ⟨rfl, hb2⟩
  have hb2a := hb2.alloc hb2.size (.cells #[.int .i64 hc, .int .i64 hk, .int .i64 (Q : Int)] 25)
  have hH := Blk.new w2 #[.int .i64 hc, .int .i64 hk, .int .i64 (Q : Int)] 25
  have hS2 := hS1.grew hb2a
  clear hS1 hb2 hb2a cx DH
  go_upto_region 4 with fail
  generalize w2.alloc (.cells #[.int .i64 hc, .int .i64 hk, .int .i64 (Q : Int)] 25) = w3 at *
  generalize w2.heap.size = bh at *
  obtain ⟨⟨a0, a1, a2, a3, a4, a5⟩, _⟩ := hS2.mp.six
  go_wp2_with fail
  refine (HP.out _).mono ?_; rintro e w4 ⟨rfl, hb4⟩
  have hS4 := hS2.grew hb4
  have hH4 := hH.grew hb4
  clear hS2 hH hb4 a0 a1 a2 a3 a4 a5 HP
  obtain ⟨⟨a0, a1, a2, a3, a4, a5⟩, _⟩ := hS4.mp.six
  go_wp2_with fail
  refine (RE.out _ hS4.row).mono ?_; rintro e w5 ⟨rfl, hb5⟩
  have hb5a := hb5.alloc hb5.size (.cells #[.int .i64 q0, .int .i64 q1, .int .i64 q2, .int .i64 q3, .int .i64 q4] 105)
  have hE := Blk.new w5 #[.int .i64 q0, .int .i64 q1, .int .i64 q2, .int .i64 q3, .int .i64 q4] 105
  have hS6 := hS4.grew hb5a
  have hH6 := hH4.grew hb5a
  clear hS4 hH4 hb5 hb5a a0 a1 a2 a3 a4 a5 RE
  go_upto_region 6 with fail
  generalize w5.alloc (.cells #[.int .i64 q0, .int .i64 q1, .int .i64 q2, .int .i64 q3, .int .i64 q4] 105) = w6 at *
  generalize w5.heap.size = be at *
  obtain ⟨d0, d1, d2⟩ := hH6.three.1
  go_wp2_with fail
  refine (FT.out _ hS6.cls (Nat.le_trans hS6.bw hS6.bel.size)).mono ?_; rintro e w7 ⟨rfl, hb7⟩
  have hS7 := hS6.grew hb7
  obtain ⟨⟨a0, a1, a2, a3, a4, a5⟩, _⟩ := hS7.mp.six
  obtain ⟨b0, b1, b2, b3, b4⟩ := five_at (hE.grew hb7)
  have hd7 := (hH6.grew hb7).three.1
  clear d0 d1 d2
  obtain ⟨d0, d1, d2⟩ := hd7
  go_wp2_with fail
  refine (RM.out _).mono ?_; rintro e w8 ⟨rfl, hb8⟩
  have hS8 := hS7.grew hb8
  have hH8 := (hH6.grew hb7).grew hb8
  clear hS6 hS7 hH6 hE hb7 hb8 a0 a1 a2 a3 a4 a5 b0 b1 b2 b3 b4 d0 d1 d2 FT RM GX
  have KS := Lib.hid (fun W (hb : Below w8.heap.size w8 W) => hS8.grew hb)
  have KH := Lib.hid (fun W (hb : Below w8.heap.size w8 W) => (hH8.grew hb).three.1)
  have hC : Blk (w8.alloc (.cells #[.int .i64 (x : Int), .int .i64 hc, .int .i64 hk, .slice none 0 0] 80)) w8.heap.size #[.int .i64 (x : Int), .int .i64 hc, .int .i64 hk, .slice none 0 0] 80 := Blk.new _ _ _
  have hB9 : Below w8.heap.size w8 (w8.alloc (.cells #[.int .i64 (x : Int), .int .i64 hc, .int .i64 hk, .slice none 0 0] 80)) := (Below.refl _ _).alloc (Nat.le_refl _) _
  obtain ⟨i0, Z⟩ := info_parts info_i64
  have Z := Lib.hid Z
  have hdlt : d < w8.heap.size := hS8.row.lt
  obtain ⟨d0, d1, d2⟩ := KH.out _ (Below.refl _ _)
  clear hS8 hH8
  go_upto_region 9 with fail
  clear d0 d1 d2
  obtain ⟨d0, d1, d2⟩ := KH.out _ hB9
  generalize hw9 : w8.alloc (.cells #[.int .i64 (x : Int), .int .i64 hc, .int .i64 hk, .slice none 0 0] 80) = wA at *
  replace hw9 := Lib.hid hw9
  have hbc2 : w.heap.size + 1 < w8.heap.size := Blk.lt (KS.out _ (Below.refl _ _)).res
  generalize hbc : w8.heap.size = bc at *
  replace hbc := Lib.hid hbc
  go_wp2_with fail
  clear d0 d1 d2
  go_loopw [17] (fun s wr => ∃ (j : Nat) (u : Value), j ≤ Q ∧ s = .int .i64 ((j + 1 : Nat) : Int) ∧ Below bc w8 wr ∧ Blk wr bc #[.int .i64 (x : Int), .int .i64 hc, .int .i64 hk, u] 80 ∧ wr.ownsRow (bc + 1) 2 1 u j (lkL cs x j)) (fun s _ => Q + 1 - (intOf s).toNat)
  case atStart => exact ⟨0, _, Nat.zero_le _, rfl, hB9, hC, World.ownsRow_nil _ _ _ _⟩
  case round =>
    clear hC hB9
    obtain ⟨j, u, hj, rfl, hb, hC, ho⟩ := hrel
    obtain ⟨a5, k5, hu5⟩ : ∃ a c, u = .slice a j c := by
      rcases ho.2 with ⟨h1, h2⟩ | ⟨g, cap, cur, h1, _⟩
      · exact ⟨none, 0, by rw [h1, h2]⟩
      · exact ⟨_, cap, h1⟩
    subst hu5
    obtain ⟨d0, d1, d2⟩ := KH.out _ hb
    by_cases hlt : j < Q
    · have hlt' : ((j + 1 : Nat) : Int) ≤ (Q : Int) := by omega
      have hlt2 : (j : Int) + 1 ≤ (Q : Int) := by omega
      have hD := (KS.out _ hb).row
      go_upto_region 12 with fail
      have hz := Lib.hid (lkL_succ cs x j)
      unfold lkV at hz
      have hcl := GR.out _ hD j hlt
      have GC := Lib.hid (fun W hr => GR.out W hr j hlt)
      have nt : (((x + 1 + j : Nat) : Int)).toNat = x + 1 + j := by omega
      have nb : (0 : Int) ≤ ((x + 1 + j : Nat) : Int) ∧ ((x + 1 + j : Nat) : Int) < (NC : Int) := by omega
      have nw : Go.RowKit.wrap64 ((x : Int) + ((j : Int) + 1)) = ((x + 1 + j : Nat) : Int) ∧ IntKind.i64.wrap ((x : Int) + ((j : Int) + 1)) = ((x + 1 + j : Nat) : Int) := ⟨by rw [IntWalk.wrap64_in _ ⟨by omega, by omega⟩]; omega, by rw [IntWalk.i64_in _ ⟨by omega, by omega⟩]; omega⟩
      generalize hzz : cs.getD (x + 1 + j) 0 = zz at *
      replace hzz := Lib.hid hzz
      replace nw := Lib.hid nw
      have HJ := Lib.hid (show j ≤ 255 by omega)
      have hbz : w8.heap.size ≤ bc := Nat.le_of_eq hbc.out
      have hsz8 : bc + 1 ≤ wr.heap.size := Nat.succ_le_of_lt hC.lt
      have hne : ¬ bc = d := by omega
      generalize x + 1 + j = q at *
      refine wp_region_held_drew (S := fun W => W.cell? ⟨d, q, none⟩ = some (.int .u64 zz)) (by kernel_rfl) hcl (fun hHeld => ?_)
      have hb9 := hb.trans ((Quiet.below ⟨1, rfl⟩ : Below wr.heap.size wr wr.drew).mono (Nat.le_of_lt hsz8))
      have hC9 := hC.drew
      have hD9 := hD.drew
      have ho9 := Quiet.ownsRow (⟨1, rfl⟩ : Quiet wr wr.drew) ho
      have hs9 : bc + 1 ≤ wr.drew.heap.size := hsz8
      clear hb hC hD ho hcl hsz8 d0 d1 d2
      generalize wr.drew = w9 at *
      refine wpAnyH_take (i := 0) (oi := _) (v := ?_) (op_at rfl) (by kernel_rfl) (by kernel_rfl) (by kernel_rfl) (fun _ _ _ h => h) (Or.inl ⟨by rfl, ?_⟩) hHeld ?_
      rotate_left 1
      focus (intro W hSw; (try dsimp only at hSw); go_simp; (try (with_reducible rfl)))
      (try simp only [Act.put, List.setIfInBounds_toArray, List.set_cons_zero, List.set_cons_succ])
      refine wpAnyH_take (i := 2) (oi := _) (v := ?_) (op_at rfl) (by kernel_rfl) (by kernel_rfl) (by kernel_rfl) (fun _ _ _ h => h) (Or.inl ⟨by rfl, ?_⟩) hHeld ?_
      rotate_left 1
      focus (intro W hSw; (try dsimp only at hSw); go_simp; (try (with_reducible rfl)))
      (try simp only [Act.put, List.setIfInBounds_toArray, List.set_cons_zero, List.set_cons_succ])
      refine wpAnyH_take (i := 3) (oi := _) (v := ?_) (op_at rfl) (by kernel_rfl) (by kernel_rfl) (by kernel_rfl) (fun _ _ _ h => h) (Or.inl ⟨by rfl, ?_⟩) hHeld ?_
      rotate_left 1
      focus (intro W hSw; (try dsimp only at hSw); go_simp; (try (with_reducible rfl)))
      (try simp only [Act.put, List.setIfInBounds_toArray, List.set_cons_zero, List.set_cons_succ])
      refine wpAnyH_take (i := 4) (oi := _) (v := ?_) (op_at rfl) (by kernel_rfl) (by kernel_rfl) (by kernel_rfl) (fun _ _ _ h => h) (Or.inl ⟨by rfl, ?_⟩) hHeld ?_
      rotate_left 1
      focus (intro W hSw; (try dsimp only at hSw); go_simp; (try (with_reducible rfl)))
      (try simp only [Act.put, List.setIfInBounds_toArray, List.set_cons_zero, List.set_cons_succ])
      refine wpAnyH_take (i := 5) (oi := _) (v := ?_) (op_at rfl) (by kernel_rfl) (by kernel_rfl) (by kernel_rfl) (fun _ _ _ h => h) (Or.inl ⟨by rfl, ?_⟩) hHeld ?_
      rotate_left 1
      focus (intro W hSw; (try dsimp only at hSw); go_simp; (try (with_reducible rfl)))
      (try simp only [Act.put, List.setIfInBounds_toArray, List.set_cons_zero, List.set_cons_succ])
      first | rw [nw.out.1] | rw [nw.out.2]
      refine wpAnyH_take (i := 6) (oi := _) (v := ?_) (op_at rfl) (by kernel_rfl) (by kernel_rfl) (by kernel_rfl) (fun _ _ _ h => h) (Or.inl ⟨by rfl, ?_⟩) hHeld ?_
      rotate_left 1
      focus (intro W hSw; (try dsimp only at hSw); go_simp; (try (with_reducible rfl)))
      (try simp only [Act.put, List.setIfInBounds_toArray, List.set_cons_zero, List.set_cons_succ])
      refine wpAnyH_take (i := 7) (oi := _) (v := ?_) (op_at rfl) (by kernel_rfl) (by kernel_rfl) (by kernel_rfl) (fun _ _ _ h => h) (Or.inl ⟨by rfl, ?_⟩) hHeld ?_
      rotate_left 1
      focus (intro W hSw; (try dsimp only at hSw); go_simp; (try (with_reducible rfl)))
      (try simp only [Act.put, List.setIfInBounds_toArray, List.set_cons_zero, List.set_cons_succ])
      refine wpAnyH_take (i := 8) (oi := _) (v := ?_) (op_at rfl) (by kernel_rfl) (by kernel_rfl) (by kernel_rfl) (fun _ _ _ h => h) (Or.inl ⟨by rfl, ?_⟩) hHeld ?_
      rotate_left 1
      focus (intro W hSw; (try dsimp only at hSw); go_simp; (try (with_reducible rfl)))
      (try simp only [Act.put, List.setIfInBounds_toArray, List.set_cons_zero, List.set_cons_succ])
      refine wpAnyH_ready (rs := [1, 9]) (by kernel_rfl) (by simp) ?_
      refine AllReadyH.cons (o := _) (op_at rfl) (fun K hK => ?_) (AllReadyH.cons (o := _) (op_at rfl) (fun K hK => ?_) AllReadyH.nil)
      · as_aux_lemma =>
          have y3 := hC9.val 3 rfl
          go_simp
          clear y3
          refine hK.out _ _ hHeld (fun hHeld' => ?_)
          clear hHeld hK K
          have hHeld := hHeld'
          clear hHeld'
          (try simp only [Act.put, List.setIfInBounds_toArray, List.set_cons_zero, List.set_cons_succ])
          refine wpAnyH_ready (rs := [9]) (by kernel_rfl) (by simp) ?_
          refine AllReadyH.cons (o := _) (op_at rfl) (fun K hK => ?_) AllReadyH.nil
          go_simp
          refine hK.out _ _ ((((Below.refl _ _).alloc (Nat.le_refl _) _).cell (World.block_lt_of_cell? _ _ hHeld)).trans hHeld) (fun hHeld' => ?_)
          clear hHeld hK K
          have hHeld := hHeld'
          clear hHeld'
          (try simp only [Act.put, List.setIfInBounds_toArray, List.set_cons_zero, List.set_cons_succ])
          have hbt := (Below.refl w9.heap.size w9).alloc (Nat.le_refl _) (.cells #[.int .i64 (IntKind.i64.wrap zz)] 2)
          have kS := Blk.new w9 #[.int .i64 (IntKind.i64.wrap zz)] 2
          have hCA := hC9.grew hbt
          have hDA := hD9.grew hbt
          have hoA := own_grewG ho9 hbt
          have hbA := hb9.trans (hbt.mono (Nat.le_of_lt hs9))
          have hsA := Nat.le_trans hs9 hbt.size
          clear hbt hC9 hD9 ho9 hb9 hs9
          generalize w9.alloc (.cells #[.int .i64 (IntKind.i64.wrap zz)] 2) = wB at *
          generalize w9.heap.size = G at *
          refine wpAnyH_ready (rs := [10]) (by kernel_rfl) (by simp) ?_
          refine AllReadyH.cons (o := _) (op_at rfl) (fun K hK => ?_) AllReadyH.nil
          refine step_append_lies _ (by rfl) _ _ _ (by rfl) (bc + 1) 2 i0 _ 1 8 Tryz.underlying78 Z.out.1 Z.out.2.1 Z.out.2.2.1 Z.out.2.2.2 rfl (by decide) (.slice a5 j k5) j (lkL cs x j) (by rfl) hoA ⟨G, 0, none⟩ 1 1 [.int .i64 (IntKind.i64.wrap zz)] (by rfl) (by rfl) (World.news_of_block kS) (by simp [Value.oneCell']) (by decide) (by have := HJ.out; unfold maxLen; omega) (by have := HJ.out; omega) hsA _ rfl ?_
          intro X cap w10 hown hgrow hat hlX
          have hC10 := hCA.of (hgrow.block _ hCA.lt (fun e => by have := (own_ltG hoA e.symm).1; omega))
          have hD10 := hDA.of (hgrow.block _ hDA.lt (fun e => by have := (own_ltG hoA e.symm).1; omega))
          have hb10 := hbA.grown hgrow (Nat.le_of_succ_le hsA) (fun k hk => by have := (own_ltG hoA hk).1; omega)
          refine hK.out _ _ (GC.out _ hD10) (fun hHeld' => ?_)
          clear hHeld hK K
          have hHeld := hHeld'
          clear hHeld'
          (try simp only [Act.put, List.setIfInBounds_toArray, List.set_cons_zero, List.set_cons_succ])
          clear hoA hgrow hat hCA hDA hbA hsA kS
          refine wpAnyH_take (i := 11) (oi := _) (v := ?_) (op_at rfl) (by kernel_rfl) (by kernel_rfl) (by kernel_rfl) (fun _ _ _ h => h) (Or.inl ⟨by rfl, ?_⟩) hHeld ?_
          rotate_left 1
          focus (intro W hSw; (try dsimp only at hSw); go_simp; (try (with_reducible rfl)))
          (try simp only [Act.put, List.setIfInBounds_toArray, List.set_cons_zero, List.set_cons_succ])
          refine wpAnyH_ready (rs := [12]) (by kernel_rfl) (by simp) ?_
          refine AllReadyH.cons (o := _) (op_at rfl) (fun K hK => ?_) AllReadyH.nil
          have y3 := hC10.val 3 rfl
          have f3 := hC10.frozen 3
          go_simp
          clear y3 f3
          refine hK.out _ _ ((World.cell?_setCell_far _ _ _ _ hne).trans hHeld) (fun hHeld' => ?_)
          clear hHeld hK K
          have hHeld := hHeld'
          clear hHeld'
          (try simp only [Act.put, List.setIfInBounds_toArray, List.set_cons_zero, List.set_cons_succ])
          refine wpAnyH_done (by kernel_rfl) ?_ _
          have hC11 : Blk (w10.setCell ⟨bc, 3, none⟩ (.slice (some ⟨X, 0, none⟩) (j + 1) cap)) bc #[.int .i64 (x : Int), .int .i64 hc, .int .i64 hk, .slice (some ⟨X, 0, none⟩) (j + 1) cap] 80 := hC10.set 3 _
          have hb11 := hb10.setCell (p := ⟨bc, 3, none⟩) (Nat.le_refl _) (.slice (some ⟨X, 0, none⟩) (j + 1) cap)
          have ho11 := own_touch hown (Touch.setCell (R := fun k => k = bc) (p := ⟨bc, 3, none⟩) (Touch.refl _ _) rfl (.slice (some ⟨X, 0, none⟩) (j + 1) cap)) (fun g e h => by have := (own_ltG hown e).1; omega)
          have HF := Lib.hid (And.intro hb11 (And.intro hC11 ho11))
          clear hC11 hb11 ho11 hown hC10 hD10 hb10 hHeld
          go_wp2
          go_roundw
          case rel => exact ⟨j + 1, _, by omega, by go_num, HF.out.1, HF.out.2.1, by rw [hz.out, ← IntWalk.i64_left]; exact HF.out.2.2⟩
          case measure => simp [intOf]; omega
      · as_aux_lemma =>
          go_simp
          refine hK.out _ _ ((((Below.refl _ _).alloc (Nat.le_refl _) _).cell (World.block_lt_of_cell? _ _ hHeld)).trans hHeld) (fun hHeld' => ?_)
          clear hHeld hK K
          have hHeld := hHeld'
          clear hHeld'
          (try simp only [Act.put, List.setIfInBounds_toArray, List.set_cons_zero, List.set_cons_succ])
          have hbt := (Below.refl w9.heap.size w9).alloc (Nat.le_refl _) (.cells #[.int .i64 (IntKind.i64.wrap zz)] 2)
          have kS := Blk.new w9 #[.int .i64 (IntKind.i64.wrap zz)] 2
          have hCA := hC9.grew hbt
          have hDA := hD9.grew hbt
          have hoA := own_grewG ho9 hbt
          have hbA := hb9.trans (hbt.mono (Nat.le_of_lt hs9))
          have hsA := Nat.le_trans hs9 hbt.size
          clear hbt hC9 hD9 ho9 hb9 hs9
          generalize w9.alloc (.cells #[.int .i64 (IntKind.i64.wrap zz)] 2) = wB at *
          generalize w9.heap.size = G at *
          refine wpAnyH_ready (rs := [1]) (by kernel_rfl) (by simp) ?_
          refine AllReadyH.cons (o := _) (op_at rfl) (fun K hK => ?_) AllReadyH.nil
          have y3 := hCA.val 3 rfl
          go_simp
          clear y3
          refine hK.out _ _ hHeld (fun hHeld' => ?_)
          clear hHeld hK K
          have hHeld := hHeld'
          clear hHeld'
          (try simp only [Act.put, List.setIfInBounds_toArray, List.set_cons_zero, List.set_cons_succ])
          refine wpAnyH_ready (rs := [10]) (by kernel_rfl) (by simp) ?_
          refine AllReadyH.cons (o := _) (op_at rfl) (fun K hK => ?_) AllReadyH.nil
          refine step_append_lies _ (by rfl) _ _ _ (by rfl) (bc + 1) 2 i0 _ 1 8 Tryz.underlying78 Z.out.1 Z.out.2.1 Z.out.2.2.1 Z.out.2.2.2 rfl (by decide) (.slice a5 j k5) j (lkL cs x j) (by rfl) hoA ⟨G, 0, none⟩ 1 1 [.int .i64 (IntKind.i64.wrap zz)] (by rfl) (by rfl) (World.news_of_block kS) (by simp [Value.oneCell']) (by decide) (by have := HJ.out; unfold maxLen; omega) (by have := HJ.out; omega) hsA _ rfl ?_
          intro X cap w10 hown hgrow hat hlX
          have hC10 := hCA.of (hgrow.block _ hCA.lt (fun e => by have := (own_ltG hoA e.symm).1; omega))
          have hD10 := hDA.of (hgrow.block _ hDA.lt (fun e => by have := (own_ltG hoA e.symm).1; omega))
          have hb10 := hbA.grown hgrow (Nat.le_of_succ_le hsA) (fun k hk => by have := (own_ltG hoA hk).1; omega)
          refine hK.out _ _ (GC.out _ hD10) (fun hHeld' => ?_)
          clear hHeld hK K
          have hHeld := hHeld'
          clear hHeld'
          (try simp only [Act.put, List.setIfInBounds_toArray, List.set_cons_zero, List.set_cons_succ])
          clear hoA hgrow hat hCA hDA hbA hsA kS
          refine wpAnyH_take (i := 11) (oi := _) (v := ?_) (op_at rfl) (by kernel_rfl) (by kernel_rfl) (by kernel_rfl) (fun _ _ _ h => h) (Or.inl ⟨by rfl, ?_⟩) hHeld ?_
          rotate_left 1
          focus (intro W hSw; (try dsimp only at hSw); go_simp; (try (with_reducible rfl)))
          (try simp only [Act.put, List.setIfInBounds_toArray, List.set_cons_zero, List.set_cons_succ])
          refine wpAnyH_ready (rs := [12]) (by kernel_rfl) (by simp) ?_
          refine AllReadyH.cons (o := _) (op_at rfl) (fun K hK => ?_) AllReadyH.nil
          have y3 := hC10.val 3 rfl
          have f3 := hC10.frozen 3
          go_simp
          clear y3 f3
          refine hK.out _ _ ((World.cell?_setCell_far _ _ _ _ hne).trans hHeld) (fun hHeld' => ?_)
          clear hHeld hK K
          have hHeld := hHeld'
          clear hHeld'
          (try simp only [Act.put, List.setIfInBounds_toArray, List.set_cons_zero, List.set_cons_succ])
          refine wpAnyH_done (by kernel_rfl) ?_ _
          have hC11 : Blk (w10.setCell ⟨bc, 3, none⟩ (.slice (some ⟨X, 0, none⟩) (j + 1) cap)) bc #[.int .i64 (x : Int), .int .i64 hc, .int .i64 hk, .slice (some ⟨X, 0, none⟩) (j + 1) cap] 80 := hC10.set 3 _
          have hb11 := hb10.setCell (p := ⟨bc, 3, none⟩) (Nat.le_refl _) (.slice (some ⟨X, 0, none⟩) (j + 1) cap)
          have ho11 := own_touch hown (Touch.setCell (R := fun k => k = bc) (p := ⟨bc, 3, none⟩) (Touch.refl _ _) rfl (.slice (some ⟨X, 0, none⟩) (j + 1) cap)) (fun g e h => by have := (own_ltG hown e).1; omega)
          have HF := Lib.hid (And.intro hb11 (And.intro hC11 ho11))
          clear hC11 hb11 ho11 hown hC10 hD10 hb10 hHeld
          go_wp2
          go_roundw
          case rel => exact ⟨j + 1, _, by omega, by go_num, HF.out.1, HF.out.2.1, by rw [hz.out, ← IntWalk.i64_left]; exact HF.out.2.2⟩
          case measure => simp [intOf]; omega
    · obtain rfl : j = Q := by omega
      have hlt' : ¬ ((j + 1 : Nat) : Int) ≤ (j : Int) := by omega
      have hlt2 : ¬ (j : Int) + 1 ≤ (j : Int) := by omega
      have hS := KS.out _ hb
      have c0 := hC.val 0 rfl
      have c1 := hC.val 1 rfl
      have c2 := hC.val 2 rfl
      have c3 := hC.val 3 rfl
      obtain ⟨⟨r0, r1, r2, r3⟩, f0, f1, f2, f3⟩ := hS.rest
      have hP := hS.put (.int .i64 x) (.int .i64 hc) (.int .i64 hk) (.slice a5 j k5)
      have hT9 : Touch (fun b => b = w.heap.size + 1) wr ((((wr.setCell ⟨w.heap.size + 1, 0, none⟩ (.int .i64 x)).setCell ⟨w.heap.size + 1, 1, none⟩ (.int .i64 hc)).setCell ⟨w.heap.size + 1, 2, none⟩ (.int .i64 hk)).setCell ⟨w.heap.size + 1, 3, none⟩ (.slice a5 j k5)) :=
        ((((Touch.refl (fun b => b = w.heap.size + 1) wr).setCell (p := ⟨w.heap.size + 1, 0, none⟩) rfl _).setCell (p := ⟨w.heap.size + 1, 1, none⟩) rfl _).setCell (p := ⟨w.heap.size + 1, 2, none⟩) rfl _).setCell (p := ⟨w.heap.size + 1, 3, none⟩) rfl _
      have ho9 := own_sub (own_touch ho hT9 (fun g e h => by have := (own_ltG ho e).1; omega)) (show w.heap.size ≤ bc + 1 by omega)
      have HF := Lib.hid (And.intro hP ho9)
      clear hP ho9 hT9 ho hC hS hb
      go_wp2
      generalize World.setCell (World.setCell (World.setCell (World.setCell _ _ _) _ _) _ _) _ _ = W9 at *
      obtain ⟨⟨hZ, hB9⟩, ho9⟩ := HF.out
      have z0 := hZ.val 0 rfl
      have z1 := hZ.val 1 rfl
      have z2 := hZ.val 2 rfl
      have z3 := hZ.val 3 rfl
      exact bodyPost_ret (v := .tuple #[.agg #[.int .i64 x, .int .i64 hc, .int .i64 hk, .slice a5 j k5], .int .i64 0]) (by simp [results, Tryz.results29, go_sem, z0, z1, z2, z3]) rfl ⟨_, rfl, ho9, hB9⟩
end
end Go.Proofs.YtpoddnfooaddgaaGreatDoor
