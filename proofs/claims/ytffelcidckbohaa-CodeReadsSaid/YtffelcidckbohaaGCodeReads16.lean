/- The document's Decode. Condition: the bytes are there. -/
import Derived.Test.YtffelcidckbohaaGCodeReads14
import Derived.Test.YtffelcidckbohaaGCodeReads15
namespace Go.Proofs.Ytffelcidckbohaa
open Go.RowKit
set_option linter.unusedVariables false
/-- b and p alone were touched -/
abbrev RdP (b p : Nat) (w w' : World) : Prop := Touch (fun x => x = b ∨ x = p) w w'
theorem RdT.p {b p : Nat} {w w' : World} (h : RdT b w w') : RdP b p w w' := h.mono fun _ _ e => .inl e
theorem own_lo {w w' : World} {lo b : Nat} {e : TypeId} {sz n : Nat} {v : Value} {xs : List Value} (h : w.ownsRow lo e sz v n xs) (hT : RdT b w w') (hb : b < lo) : w'.ownsRow lo e sz v n xs := own_touch h hT (fun g hg e => by have := (own_ltG h hg).1; omega)
/-- behind an append to a row of one's own, and the store of the longer row into a cell of a block that is one's own, too -/
theorem put_kept {t : TypeId} {W2 W3 : World} {B b k lo j : Nat} {bs : List UInt8} {s : St} {T : TypeId} {sz n n' : Nat} {v v' : Value} {xs xs' : List Value} {o : Obj} {cs : Array Value} {tk : TypeId} (h : RdS t W2 B b bs s) (hk : Blk W2 k cs tk) (hlo : k < lo) (hb : b < lo) (hbk : b ≠ k) (hBk : B ≤ k) (hO : W2.ownsRow lo T sz v n xs) (hlw : lo ≤ W2.heap.size) (hg : (W2.alloc o).grownBy W3 v.ownBlock) (hown : W3.ownsRow lo T sz v' n' xs') :
    Blk W3 k cs tk ∧ RdS t (W3.setCell ⟨k, j, none⟩ v') B b bs s ∧ Blk (W3.setCell ⟨k, j, none⟩ v') k (cs.setIfInBounds j v') tk ∧ (W3.setCell ⟨k, j, none⟩ v').ownsRow lo T sz v' n' xs' ∧ Touch (fun x => x = k ∨ v.ownBlock = some x) W2 (W3.setCell ⟨k, j, none⟩ v') := by
  have hT1 : Touch (fun x => v.ownBlock = some x) W2 W3 := ((Touch.refl _ W2).alloc o).grown hg (fun q hq => .inl hq)
  have hT2 : Touch (fun x => x = k) W3 (W3.setCell ⟨k, j, none⟩ v') := (Touch.refl (fun x => x = k) W3).setCell (p := ⟨k, j, none⟩) rfl _
  have hB := h.bb
  have hk3 : Blk W3 k cs tk := hk.touch hT1 (fun e => by have := (own_ltG hO e).1; omega)
  refine ⟨hk3, ?_, hk3.set j v', own_touch hown hT2 (fun g hg e => by have := (own_ltG hown hg).1; omega), (hT1.mono fun x _ e => .inr e).trans (hT2.mono fun x _ e => .inl e)⟩
  have h3 := h.touch hT1 (fun x hx => ⟨by have := (own_ltG hO hx).1; omega, by have := (own_ltG hO hx).1; omega⟩)
  exact h3.touch hT2 (fun x hx => ⟨by omega, by omega⟩)
theorem COwnP.touchG {R : Nat → Prop} {w w' : World} {lo : Nat} {v : Value} {l : List (ClsD × Value)} (h : COwnP w lo v l) (hT : Touch R w w') (hr : ∀ g, lo ≤ g → ¬ R g) : COwnP w' lo v l := ⟨h.1.touch hT (fun g h1 _ => hr g h1), h.2⟩
theorem UOwnP.touchG {R : Nat → Prop} {w w' : World} {lo : Nat} {v : Value} {l : List (FunD × Value × Value × Value)} (h : UOwnP w lo v l) (hT : Touch R w w') (hr : ∀ g, lo ≤ g → ¬ R g) : UOwnP w' lo v l := ⟨h.1.touch hT (fun g h1 _ => hr g h1), h.2⟩
set_option maxRecDepth 100000 in
set_option maxHeartbeats 16000000 in
theorem rdecode_any' (w : World) (B : Nat) (v : Value) (bs : List UInt8) (h : RdBy B w v bs) (hB : B ≤ w.heap.size) :
    Calls Try.prog 7 #[v] w (DecPost (decD bs) w) := by
  have hmx : bs.length ≤ maxLen := by obtain ⟨⟨_, _, _, q, _⟩, _⟩ := h; exact q
  unfold maxLen at hmx
  obtain ⟨a, c, rfl⟩ := rd_shape h.1
  have hb0 := (Below.refl w.heap.size w).alloc (Nat.le_refl _) (.cells #[.slice none 0 0, .slice none 0 0] 27)
  have k0 := Blk.new w #[.slice none 0 0, .slice none 0 0] 27
  by_cases hl : 65536 < bs.length
  · have hl' : (65536 : Int) < (bs.length : Int) := by omega
    have HD : Hid (decD bs = .error (3, 0)) := by unfold Hid decD; rw [if_pos hl]
    have HE := Lib.hid hb0
    have HZ := Lib.hid k0
    clear h hB k0 hb0 hl
    go_enter Try.func7, Try.ntmps7
    go_wp2
    have z0 := HZ.out.val 0 rfl
    have z1 := HZ.out.val 1 rfl
    refine bodyPost_ret (v := .tuple #[.agg #[.slice none 0 0, .slice none 0 0], .int .i64 0, .int .i64 3]) (by simp [results, Try.results7, go_sem, z0, z1]) rfl ?_
    unfold DecPost
    rw [HD.out]
    exact ⟨⟨by decide, rfl⟩, HE.out⟩
  · have hl' : ¬ (65536 : Int) < (bs.length : Int) := by omega
    obtain ⟨i0, hi0, hz0, hz1, hz2⟩ := info_parts info_fld
    have Z0 := Lib.hid (And.intro hi0 (And.intro hz0 (And.intro hz1 hz2)))
    clear hi0 hz0 hz1 hz2
    obtain ⟨i1, hi1, hz0, hz1, hz2⟩ := info_parts info_cls
    have Z1 := Lib.hid (And.intro hi1 (And.intro hz0 (And.intro hz1 hz2)))
    clear hi1 hz0 hz1 hz2
    obtain ⟨i2, hi2, hz0, hz1, hz2⟩ := info_parts info_fun
    have Z2 := Lib.hid (And.intro hi2 (And.intro hz0 (And.intro hz1 hz2)))
    clear hi2 hz0 hz1 hz2
    obtain ⟨i3, hi3, hz0, hz1, hz2⟩ := info_parts info_ins
    have Z3 := Lib.hid (And.intro hi3 (And.intro hz0 (And.intro hz1 hz2)))
    clear hi3 hz0 hz1 hz2
    have hb1 := hb0.alloc hb0.size (.cells #[.slice a bs.length c, .int .i64 0, .int .i64 0, .int .i64 0] 59)
    have hS0 : RdS 59 ((w.alloc (.cells #[.slice none 0 0, .slice none 0 0] 27)).alloc (.cells #[.slice a bs.length c, .int .i64 0, .int .i64 0, .int .i64 0] 59)) B (w.heap.size + 1) bs (.ok 0) :=
      ⟨⟨0, ⟨_, Blk.new' (by simp), h.keep (hb1.mono hB)⟩, by omega, by omega⟩, by omega⟩
    have hsz : ((w.alloc (.cells #[.slice none 0 0, .slice none 0 0] 27)).alloc (.cells #[.slice a bs.length c, .int .i64 0, .int .i64 0, .int .i64 0] 59)).heap.size = w.heap.size + 2 := by simp
    have HS0 := Lib.hid hS0
    have K0 := Lib.hid (k0.alloc (.cells #[.slice a bs.length c, .int .i64 0, .int .i64 0, .int .i64 0] 59))
    have HB1 := Lib.hid hb1
    clear h hB k0 hb0 hb1 hS0
    go_enter Try.func7, Try.ntmps7
    go_wp2
    generalize (w.alloc (.cells #[.slice none 0 0, .slice none 0 0] 27)).alloc (.cells #[.slice a bs.length c, .int .i64 0, .int .i64 0, .int .i64 0] 59) = w0 at *
    generalize hbd : w.heap.size + 1 = b at *
    go_loopw [7] (fun x wr => ∃ (i : Nat) (s : St), x = .int .i64 i ∧ i ≤ 4 ∧ Gets (magD bs i) () s ∧ RdS 59 wr B b bs s ∧ RdT b w0 wr) (fun x _ => 4 - (intOf x).toNat)
    case atStart => exact ⟨0, .ok 0, rfl, by omega, .inl ⟨0, rfl, rfl⟩, HS0.out, Touch.refl _ _⟩
    case round =>
      obtain ⟨i, s, rfl, hi, hG, hS, hT⟩ := hrel
      have HG := Lib.hid hG
      have HT := Lib.hid hT
      have HS := Lib.hid hS
      clear hG hT hS
      by_cases hlt : i < 4
      · have N := Lib.hid (rone_any 59 wr B b bs s HS.out)
        have HX := Lib.hid (fun (x : UInt8) (s1 : St) (hx : x ≠ magB.getD i 0) (hG1 : Gets (after s (nextD bs)) x s1) (h0 : ∀ y, s1 = .error y → x = 0) => gets_mag_bad hlt HG.out hG1 h0 hx)
        have HY := Lib.hid (fun (x : UInt8) (s1 : St) (hx : x = magB.getD i 0) (hG1 : Gets (after s (nextD bs)) x s1) (h0 : ∀ y, s1 = .error y → x = 0) => gets_mag_ok hlt HG.out hG1 h0 hx)
        clear HG HS
        generalize hq : i = q at *
        by_cases h0 : q = 0
        · obtain rfl : q = 0 := by omega
          go_wp2_with fail
          refine N.out.mono ?_
          rintro e' w2 ⟨x, s1, rfl, hG1, h0, hS2, hT2⟩
          have HT2 := Lib.hid (HT.out.trans hT2)
          have HS2 := Lib.hid hS2
          clear hS2 hT2 N
          cases s1 with
          | error y =>
            obtain rfl := h0 y rfl
            have HA : Hid (Gets (magD bs (0 + 1)) () (.error y)) := HX.out 0 (.error y) (by decide) hG1 h0
            obtain ⟨c2, c2a, c2b, _⟩ := HS2.out.errC
            clear hG1 h0
            go_wp2
            go_roundw
            case rel => exact ⟨1, .error y, rfl, by omega, HA.out, HS2.out, HT2.out⟩
            case measure => simp [intOf]
          | ok q1 =>
            obtain ⟨c2, _⟩ := HS2.out.okC
            have HM : ((x.toNat : Int) != wrap64 ((({ data := #[87, 68, 82, 49] } : ByteArray)[0]'(by decide)).toNat : Int)) = decide (x ≠ 87) := (congrArg (fun z : Int => ((x.toNat : Int) != z)) (by unfold RowKit.wrap64; decide : wrap64 ((({ data := #[87, 68, 82, 49] } : ByteArray)[0]'(by decide)).toNat : Int) = ((87 : Nat) : Int))).trans (mag_byte x 87 87 rfl)
            by_cases hx : x = 87
            · have HA := Lib.hid (HY.out x _ hx hG1 h0)
              replace HM := HM.trans (decide_eq_false (fun h => h hx))
              clear hG1 h0 hx
              go_wp2
              go_roundw
              case rel => exact ⟨1, .ok q1, rfl, by omega, HA.out, HS2.out, HT2.out⟩
              case measure => simp [intOf]
            · have HA := Lib.hid (HX.out x _ hx hG1 h0)
              replace HM := HM.trans (decide_eq_true hx)
              clear hG1 h0 hx
              go_wp2_with fail
              refine (HS2.out.rfailed (0 : Int) 12 (by decide)).mono ?_
              rintro e' w3 ⟨⟨u, rfl⟩, hS3, hT3⟩
              have H3 := Lib.hid (And.intro hS3 hT3)
              clear hS3 hT3
              go_wp2
              go_roundw
              case rel => exact ⟨1, _, rfl, by omega, HA.out, H3.out.1, HT2.out.trans H3.out.2⟩
              case measure => simp [intOf]
        by_cases h1 : q = 1
        · obtain rfl : q = 1 := by omega
          go_wp2_with fail
          refine N.out.mono ?_
          rintro e' w2 ⟨x, s1, rfl, hG1, h0, hS2, hT2⟩
          have HT2 := Lib.hid (HT.out.trans hT2)
          have HS2 := Lib.hid hS2
          clear hS2 hT2 N
          cases s1 with
          | error y =>
            obtain rfl := h0 y rfl
            have HA : Hid (Gets (magD bs (1 + 1)) () (.error y)) := HX.out 0 (.error y) (by decide) hG1 h0
            obtain ⟨c2, c2a, c2b, _⟩ := HS2.out.errC
            clear hG1 h0
            go_wp2
            go_roundw
            case rel => exact ⟨2, .error y, rfl, by omega, HA.out, HS2.out, HT2.out⟩
            case measure => simp [intOf]
          | ok q1 =>
            obtain ⟨c2, _⟩ := HS2.out.okC
            have HM : ((x.toNat : Int) != wrap64 ((({ data := #[87, 68, 82, 49] } : ByteArray)[1]'(by decide)).toNat : Int)) = decide (x ≠ 68) := (congrArg (fun z : Int => ((x.toNat : Int) != z)) (by unfold RowKit.wrap64; decide : wrap64 ((({ data := #[87, 68, 82, 49] } : ByteArray)[1]'(by decide)).toNat : Int) = ((68 : Nat) : Int))).trans (mag_byte x 68 68 rfl)
            by_cases hx : x = 68
            · have HA := Lib.hid (HY.out x _ hx hG1 h0)
              replace HM := HM.trans (decide_eq_false (fun h => h hx))
              clear hG1 h0 hx
              go_wp2
              go_roundw
              case rel => exact ⟨2, .ok q1, rfl, by omega, HA.out, HS2.out, HT2.out⟩
              case measure => simp [intOf]
            · have HA := Lib.hid (HX.out x _ hx hG1 h0)
              replace HM := HM.trans (decide_eq_true hx)
              clear hG1 h0 hx
              go_wp2_with fail
              refine (HS2.out.rfailed (1 : Int) 12 (by decide)).mono ?_
              rintro e' w3 ⟨⟨u, rfl⟩, hS3, hT3⟩
              have H3 := Lib.hid (And.intro hS3 hT3)
              clear hS3 hT3
              go_wp2
              go_roundw
              case rel => exact ⟨2, _, rfl, by omega, HA.out, H3.out.1, HT2.out.trans H3.out.2⟩
              case measure => simp [intOf]
        by_cases h2 : q = 2
        · obtain rfl : q = 2 := by omega
          go_wp2_with fail
          refine N.out.mono ?_
          rintro e' w2 ⟨x, s1, rfl, hG1, h0, hS2, hT2⟩
          have HT2 := Lib.hid (HT.out.trans hT2)
          have HS2 := Lib.hid hS2
          clear hS2 hT2 N
          cases s1 with
          | error y =>
            obtain rfl := h0 y rfl
            have HA : Hid (Gets (magD bs (2 + 1)) () (.error y)) := HX.out 0 (.error y) (by decide) hG1 h0
            obtain ⟨c2, c2a, c2b, _⟩ := HS2.out.errC
            clear hG1 h0
            go_wp2
            go_roundw
            case rel => exact ⟨3, .error y, rfl, by omega, HA.out, HS2.out, HT2.out⟩
            case measure => simp [intOf]
          | ok q1 =>
            obtain ⟨c2, _⟩ := HS2.out.okC
            have HM : ((x.toNat : Int) != wrap64 ((({ data := #[87, 68, 82, 49] } : ByteArray)[2]'(by decide)).toNat : Int)) = decide (x ≠ 82) := (congrArg (fun z : Int => ((x.toNat : Int) != z)) (by unfold RowKit.wrap64; decide : wrap64 ((({ data := #[87, 68, 82, 49] } : ByteArray)[2]'(by decide)).toNat : Int) = ((82 : Nat) : Int))).trans (mag_byte x 82 82 rfl)
            by_cases hx : x = 82
            · have HA := Lib.hid (HY.out x _ hx hG1 h0)
              replace HM := HM.trans (decide_eq_false (fun h => h hx))
              clear hG1 h0 hx
              go_wp2
              go_roundw
              case rel => exact ⟨3, .ok q1, rfl, by omega, HA.out, HS2.out, HT2.out⟩
              case measure => simp [intOf]
            · have HA := Lib.hid (HX.out x _ hx hG1 h0)
              replace HM := HM.trans (decide_eq_true hx)
              clear hG1 h0 hx
              go_wp2_with fail
              refine (HS2.out.rfailed (2 : Int) 12 (by decide)).mono ?_
              rintro e' w3 ⟨⟨u, rfl⟩, hS3, hT3⟩
              have H3 := Lib.hid (And.intro hS3 hT3)
              clear hS3 hT3
              go_wp2
              go_roundw
              case rel => exact ⟨3, _, rfl, by omega, HA.out, H3.out.1, HT2.out.trans H3.out.2⟩
              case measure => simp [intOf]
        · obtain rfl : q = 3 := by omega
          go_wp2_with fail
          refine N.out.mono ?_
          rintro e' w2 ⟨x, s1, rfl, hG1, h0, hS2, hT2⟩
          have HT2 := Lib.hid (HT.out.trans hT2)
          have HS2 := Lib.hid hS2
          clear hS2 hT2 N
          cases s1 with
          | error y =>
            obtain rfl := h0 y rfl
            have HA : Hid (Gets (magD bs (3 + 1)) () (.error y)) := HX.out 0 (.error y) (by decide) hG1 h0
            obtain ⟨c2, c2a, c2b, _⟩ := HS2.out.errC
            clear hG1 h0
            go_wp2
            go_roundw
            case rel => exact ⟨4, .error y, rfl, by omega, HA.out, HS2.out, HT2.out⟩
            case measure => simp [intOf]
          | ok q1 =>
            obtain ⟨c2, _⟩ := HS2.out.okC
            have HM : ((x.toNat : Int) != wrap64 ((({ data := #[87, 68, 82, 49] } : ByteArray)[3]'(by decide)).toNat : Int)) = decide (x ≠ 49) := (congrArg (fun z : Int => ((x.toNat : Int) != z)) (by unfold RowKit.wrap64; decide : wrap64 ((({ data := #[87, 68, 82, 49] } : ByteArray)[3]'(by decide)).toNat : Int) = ((49 : Nat) : Int))).trans (mag_byte x 49 49 rfl)
            by_cases hx : x = 49
            · have HA := Lib.hid (HY.out x _ hx hG1 h0)
              replace HM := HM.trans (decide_eq_false (fun h => h hx))
              clear hG1 h0 hx
              go_wp2
              go_roundw
              case rel => exact ⟨4, .ok q1, rfl, by omega, HA.out, HS2.out, HT2.out⟩
              case measure => simp [intOf]
            · have HA := Lib.hid (HX.out x _ hx hG1 h0)
              replace HM := HM.trans (decide_eq_true hx)
              clear hG1 h0 hx
              go_wp2_with fail
              refine (HS2.out.rfailed (3 : Int) 12 (by decide)).mono ?_
              rintro e' w3 ⟨⟨u, rfl⟩, hS3, hT3⟩
              have H3 := Lib.hid (And.intro hS3 hT3)
              clear hS3 hT3
              go_wp2
              go_roundw
              case rel => exact ⟨4, _, rfl, by omega, HA.out, H3.out.1, HT2.out.trans H3.out.2⟩
              case measure => simp [intOf]
      · obtain rfl : i = 4 := by omega
        have HB2 := Lib.hid (HB1.out.trans (HT.out.below (B := w.heap.size) (by omega) (fun k hk => by omega)))
        have K1 := Lib.hid (K0.out.touch HT.out (by omega))
        have hsz1 := HT.out.size
        clear HT K0 HB1 HS0 hlt hi
        have HSp := Lib.hid (HS.out.grew ((Below.refl _ _).alloc (Nat.le_refl _) (.cells #[.slice none 0 0, .slice none 0 0] 27)))
        have N := Lib.hid (rnumber_any' 59 _ B b bs s 16 HSp.out (by decide))
        clear HS
        have KP := Lib.hid (Blk.new wr #[.slice none 0 0, .slice none 0 0] 27)
        have K1 := Lib.hid (K1.out.alloc (.cells #[.slice none 0 0, .slice none 0 0] 27))
        have HB2 := Lib.hid (HB2.out.alloc (by omega) (.cells #[.slice none 0 0, .slice none 0 0] 27))
        have hszp : (wr.alloc (.cells #[.slice none 0 0, .slice none 0 0] 27)).heap.size = wr.heap.size + 1 := by simp
        go_wp2_with fail
        generalize wr.alloc (.cells #[.slice none 0 0, .slice none 0 0] 27) = wp at *
        generalize hpd : wr.heap.size = p at *
        refine N.out.mono ?_
        rintro e' w2 ⟨n, s1, rfl, hG1, h0, hS1, hT1⟩
        have hn := num_le hG1 h0
        have HG1 := Lib.hid hG1
        have K2 := Lib.hid (K1.out.touch hT1 (by omega))
        have KP2 := Lib.hid (KP.out.touch hT1 (by omega))
        have HB3 := Lib.hid (HB2.out.trans (hT1.below (B := w.heap.size) (by omega) (fun k hk => by omega)))
        have hsz2 := hT1.size
        have HS1 := Lib.hid hS1
        clear hG1 h0 hS1 hT1 N K1 KP HB2 HSp
        go_wp2_with fail
        have hbp : b < p := by omega
        have hBb := HS1.out.bb
        have hp2 : p + 1 ≤ w2.heap.size := by omega
        go_loopw [11] (fun x wr => ∃ (k : Nat) (lc : List (ClsD × Value)) (u0 : Value) (s2 : St), x = .int .i64 k ∧ k ≤ n ∧ Hid (lc.length = k) ∧ Blk wr p #[u0, .slice none 0 0] 27 ∧ COwnP wr w2.heap.size u0 lc ∧ Gets (after s1 (seqD (clsD bs) k)) (lc.map fun x => x.1) s2 ∧ RdS 59 wr B b bs s2 ∧ RdP b p w2 wr) (fun x _ => n - (intOf x).toNat)
        case atStart => exact ⟨0, [], _, s1, rfl, Nat.zero_le _, rfl, KP2.out, COwnP.nil _ _, gets_none _ _, HS1.out, Touch.refl _ _⟩
        case round =>
          obtain ⟨k, lc, u0, s2, rfl, hkn, hlc, hKp, hCl, hGk, hS2, hT1⟩ := hrel
          obtain ⟨a0, c0, rfl⟩ := row_shape hCl.1.row
          have HGk := Lib.hid hGk
          have HT1 := Lib.hid hT1
          have HKp := Lib.hid hKp
          have HCl := Lib.hid hCl
          have hszr := hT1.size
          have hlcl := hlc.out
          have hpr : p < wr.heap.size := hKp.lt
          clear hGk hT1 hKp hCl hlcl
          by_cases hgo : k < n ∧ ∃ q, s2 = .ok q
          · obtain ⟨hlt, q, rfl⟩ := hgo
            have hlt' : (k : Int) < (n : Int) := by omega
            obtain ⟨c2, _⟩ := hS2.okC
            have TX := Lib.hid (rtext_any' 59 wr B b bs _ hS2)
            clear hS2
            obtain ⟨W1, hWW⟩ : ∃ W, W = wr := ⟨_, rfl⟩
            subst hWW
            go_wp2_with fail
            refine TX.out.mono ?_
            rintro e' w3 ⟨l, s3, rfl, hG3, _, hS3, hT3⟩
            have HG3 := Lib.hid hG3
            have hsz3 := hT3.size
            have hT4 := hT3.alloc (.cells #[.string (bytA l), .slice none 0 0] 52)
            have hK4 := Blk.new w3 #[.string (bytA l), .slice none 0 0] 52
            have N := Lib.hid (rnumber_any' 59 _ B b bs s3 15 (hS3.grew ((Below.refl _ _).alloc (Nat.le_refl _) (.cells #[.string (bytA l), .slice none 0 0] 52))) (by decide))
            have HT4 := Lib.hid hT4
            have HK4 := Lib.hid hK4
            have hsz4 : (w3.alloc (.cells #[.string (bytA l), .slice none 0 0] 52)).heap.size = w3.heap.size + 1 := by simp
            clear hG3 hS3 hT3 hT4 hK4 TX c2
            go_wp2_with fail
            generalize w3.alloc (.cells #[.string (bytA l), .slice none 0 0] 52) = w4 at *
            generalize w3.heap.size = kc at *
            refine N.out.mono ?_
            rintro e' w5 ⟨m, s4, rfl, hG4, h04, hS4, hT5⟩
            have hm := num_le hG4 h04
            have HG4 := Lib.hid hG4
            have hsz5 := hT5.size
            have HT5 := Lib.hid (HT4.out.trans hT5)
            have HK5 := Lib.hid (HK4.out.touch hT5 (by omega))
            have HS4 := Lib.hid hS4
            clear hG4 h04 hS4 hT5 N HT4 HK4
            go_wp2_with fail
            go_loopw [14] (fun y W => ∃ (kk : Nat) (fs : List FldD) (vf : Value) (s5 : St), y = .int .i64 kk ∧ kk ≤ m ∧ Hid (fs.length = kk) ∧ Blk W kc #[.string (bytA l), vf] 52 ∧ W.ownsRow (kc + 1) 66 2 vf fs.length (fs.flatMap fldC) ∧ Gets (after s4 (seqD (fldD bs) kk)) fs s5 ∧ RdS 59 W B b bs s5 ∧ RdT b W1 W ∧ kc < W.heap.size) (fun y _ => m - (intOf y).toNat)
            case atStart => exact ⟨0, [], _, s4, rfl, Nat.zero_le _, rfl, HK5.out, ⟨by simp, .inl ⟨rfl, rfl⟩⟩, gets_none _ _, HS4.out, HT5.out, by omega⟩
            case round =>
              obtain ⟨kk, fs, vf, s5, rfl, hkm, hf3, hK3, hO3, hG5, hS3, hR1, hkc⟩ := hrel
              have HR1 := Lib.hid hR1
              have hszw := hR1.size
              clear hR1
              by_cases hgo3 : kk < m ∧ ∃ q, s5 = .ok q
              · obtain ⟨hlt3, q5, rfl⟩ := hgo3
                have hlt3' : (kk : Int) < (m : Int) := by omega
                obtain ⟨c2, _⟩ := hS3.okC
                have TX := Lib.hid (rtext_any' 59 wr B b bs _ hS3)
                have HK3 := Lib.hid hK3
                have HO3 := Lib.hid hO3
                have HG5 := Lib.hid hG5
                clear hS3 hK3 hO3 hG5
                go_wp2_with fail
                refine TX.out.mono ?_
                rintro e' w6 ⟨l2, s6, rfl, hG6, _, hS6, hT6⟩
                have HG6 := Lib.hid hG6
                have hsz6 := hT6.size
                have hb7 := (Below.refl w6.heap.size w6).alloc (Nat.le_refl _) (.cells #[.string (bytA l2), .int .i64 0] 66)
                have KD := Lib.hid (rkindD_any 59 _ B b bs s6 (hS6.grew hb7))
                have HT7 := Lib.hid (hT6.trans (Touch.of hb7))
                have HF7 := Lib.hid (Blk.new w6 #[.string (bytA l2), .int .i64 0] 66)
                have hsz7 : (w6.alloc (.cells #[.string (bytA l2), .int .i64 0] 66)).heap.size = w6.heap.size + 1 := by simp
                clear hG6 hS6 hT6 hb7 TX c2
                go_wp2_with fail
                generalize w6.alloc (.cells #[.string (bytA l2), .int .i64 0] 66) = w7 at *
                generalize w6.heap.size = kf at *
                refine KD.out.mono ?_
                rintro e' w8 ⟨ty, s8, rfl, hG8, _, hS8, hT8⟩
                have hsz8 := hT8.size
                have hF8 := HF7.out.touch hT8 (by omega)
                have hT8' := HT7.out.trans hT8
                have hK8 := HK3.out.touch hT8' (by omega)
                have hO8 := own_lo HO3.out hT8' (by omega)
                have HG8 := Lib.hid (gets_one HG5.out (gets_fld HG6.out hG8))
                have f1 := hF8.frozen 1
                have g1 := hF8.val 1 rfl
                have hT9 := (Touch.refl (fun x => x = kf) w8).setCell (p := ⟨kf, 1, none⟩) rfl (.int .i64 ty)
                have HF9 := Lib.hid (hF8.set 1 (.int .i64 ty))
                have HK9 := Lib.hid (hK8.touch hT9 (by omega))
                have HO9 := Lib.hid (own_touch hO8 hT9 (fun g hg e => by have := (own_ltG HO3.out hg).2; omega))
                have HS9 := Lib.hid (hS8.touch hT9 (fun x hx => ⟨by omega, by omega⟩))
                have HT9 := Lib.hid (new_kept hS8 (show b < W1.heap.size by omega) (HR1.out.trans hT8') (hT9.mono fun x _ e => by omega)).2
                have hsz9 := hT9.size
                clear hG8 hS8 hT8 hF8 hT8' hK8 hO8 hT9 KD HK3 HO3 HG5 HG6 HF7 HT7
                go_upto_region 23 with fail
                clear f1 g1
                generalize w8.setCell ⟨kf, 1, none⟩ (.int .i64 ty) = w9 at *
                have x0 := HF9.out.val 0 rfl
                have x1 := HF9.out.val 1 rfl
                have p1 := HK9.out.val 1 rfl
                have hrow := HO9.out
                have hkk : fs.length ≤ 15 := by have := hf3.out; omega
                obtain ⟨vfa, vfc, rfl⟩ := row_shape hrow
                go_wp2_with (at_builtin; refine wpList_append_own_at _ rfl _ _ 50 rfl _ 66 i0 _ 2 24 Try.underlying50 Z0.out.1 Z0.out.2.1 Z0.out.2.2.1 Z0.out.2.2.2 rfl (by decide) (.slice vfa fs.length vfc) fs.length (fs.flatMap fldC) rfl (own_grewG hrow ((Below.refl _ _).alloc (Nat.le_refl _) _)) ⟨w9.heap.size, 0, none⟩ 1 1 ([.string (bytA l2), .int .i64 ty]) rfl rfl (World.news_of_block (Blk.new _ _ _)) (by simp [Value.oneCell']) (by unfold maxLen; omega) (by omega) (by simp; omega) ?_; intro v' w3x hown' hgrow _ hat; obtain ⟨ga, gc, rfl⟩ := row_shape hown'; have P := put_kept (j := 1) HS9.out HK9.out (show kc < kc + 1 by omega) (show b < kc + 1 by omega) (show b ≠ kc by omega) (show B ≤ kc by omega) hrow (show kc + 1 ≤ w9.heap.size by omega) hgrow hown'; have fk := P.1.frozen 1; have gk := P.1.val 1 rfl; have HP := Lib.hid P.2; clear P hgrow hat p1 x0 x1)
                go_roundw
                case rel =>
                  refine ⟨kk + 1, fs ++ [⟨bytA l2, ty⟩], .slice ga (fs.length + 1) gc, s8, by go_num, by omega, by unfold Hid; rw [List.length_append, hf3.out]; rfl, HP.out.2.1, by rw [List.flatMap_append, List.length_append]; exact HP.out.2.2.1, HG8.out, HP.out.1, ?_, by have := HP.out.2.2.2.size; omega⟩
                  exact Touch.mono (R := fun x => x = b ∨ x = kc ∨ (Value.slice vfa fs.length vfc).ownBlock = some x) ((HT9.out.mono fun x _ e => .inl e).trans (HP.out.2.2.2.mono fun x _ e => .inr e)) fun x hx e => by
                    rcases e with e | e | e
                    · exact e
                    · omega
                    · have := (own_ltG hrow e).1; omega
                case measure => simp [intOf]; omega
              · have hfin : Gets (after s4 (seqD (fldD bs) m)) fs s5 := by
                  cases s5 with
                  | error y => exact gets_late hG5 hkm
                  | ok q => 
                    by_cases e : kk < m
                    · exact absurd ⟨e, q, rfl⟩ hgo3
                    · obtain rfl : kk = m := by omega
                      exact hG5
                by_cases hlt3 : kk < m
                · have hlt3' : (kk : Int) < (m : Int) := by omega
                  obtain ⟨y, rfl⟩ : ∃ y, s5 = .error y := by
                    cases s5 with
                    | error y => exact ⟨y, rfl⟩
                    | ok q => exact absurd ⟨hlt3, q, rfl⟩ hgo3
                  obtain ⟨c2, c2a, c2b, _⟩ := hS3.errC
                  go_upto_region 24 with fail
                  clear c2 c2a c2b hlt3 hlt3' hgo3 hG5
                  generalize (Except.error y : St) = s5 at *
                  generalize wr = wX at *
                  have hR1 := HR1.out
                  have hcl := HCl.out.touch hR1 (by omega)
                  have hKp := HKp.out.touch hR1 (by omega)
                  obtain ⟨vfa, vfc, hvf⟩ := row_shape hO3
                  have x0 := hK3.val 0 rfl
                  have x1 := hK3.val 1 rfl
                  have p0 := hKp.val 0 rfl
                  have hin : InnC wX w2.heap.size (⟨bytA l, fs⟩, vf) := ⟨own_sub hO3 (by omega), by show fs.length ≤ 15; have := hf3.out; omega⟩
                  have hap : ∀ g, vf.ownBlock = some g → (Value.slice a0 lc.length c0).ownBlock ≠ some g := fun g h1 h2 => by
                    have q1 := (own_ltG hO3 h1).1
                    have q2 := (own_ltG HCl.out.1.row h2).2
                    omega
                  have hrow := hcl.1.row
                  have HCP := Lib.hid (And.intro hcl (And.intro hin hap))
                  have hlcl : lc.length ≤ 16 := by have := hlc.out; omega
                  have HGC := Lib.hid (gets_one HGk.out (gets_cls HG3.out (gets_list HG4.out hfin)))
                  subst hvf
                  have hszX := hR1.size
                  clear hcl hin hap hfin HGk HG3 HG4 HCl HKp hO3
                  go_wp2_with (at_builtin; refine wpList_append_own_at _ rfl _ _ 24 rfl _ 52 i1 _ 2 40 Try.underlying24 Z1.out.1 Z1.out.2.1 Z1.out.2.2.1 Z1.out.2.2.2 rfl (by decide) (.slice a0 lc.length c0) lc.length (lc.flatMap clsC) rfl (own_grewG hrow ((Below.refl _ _).alloc (Nat.le_refl _) _)) ⟨wX.heap.size, 0, none⟩ 1 1 ([.string (bytA l), .slice vfa fs.length vfc]) rfl rfl (World.news_of_block (Blk.new _ _ _)) (by simp [Value.oneCell']) (by unfold maxLen; omega) (by omega) (by simp; omega) ?_; intro v' w3x hown' hgrow _ hat; obtain ⟨ga, gc, rfl⟩ := row_shape hown'; have P := put_kept (j := 0) hS3 hKp (show p < w2.heap.size by omega) (show b < w2.heap.size by omega) (show b ≠ p by omega) (show B ≤ p by omega) hrow (show w2.heap.size ≤ wX.heap.size by omega) hgrow hown'; have fk := P.1.frozen 0; have gk := P.1.val 0 rfl; have HA := Lib.hid (COwnP.app HCP.out.1 HCP.out.2.1 HCP.out.2.2 hgrow hown' hat); have HP := Lib.hid P.2; clear P hgrow hown' hat HCP p0 x0 x1)
                  go_roundw
                  case rel =>
                    refine ⟨k + 1, lc ++ [(⟨bytA l, fs⟩, .slice vfa fs.length vfc)], .slice ga (lc.length + 1) gc, s5, by go_num, by omega, by unfold Hid; rw [List.length_append, hlc.out]; rfl, HP.out.2.1, HA.out.touchG ((Touch.refl (fun x => x = p) w3x).setCell (p := ⟨p, 0, none⟩) rfl _) (fun g h1 e => by omega), by rw [List.map_append]; exact HGC.out, HP.out.1, ?_⟩
                    exact Touch.mono (R := fun x => x = b ∨ x = p ∨ (Value.slice a0 lc.length c0).ownBlock = some x) ((HT1.out.mono fun x _ e => e.elim .inl fun q => .inr (.inl q)).trans ((HR1.out.mono fun x _ e => .inl e).trans (HP.out.2.2.2.mono fun x _ e => .inr e))) fun x hx e => by
                      rcases e with e | e | e
                      · exact .inl e
                      · exact .inr e
                      · have := (own_ltG hrow e).1; omega
                  case measure => simp [intOf]; omega
                · have hlt3' : ¬ (kk : Int) < (m : Int) := by omega
                  go_upto_region 24 with fail
                  clear hlt3 hlt3' hgo3 hG5
                  generalize wr = wX at *
                  have hR1 := HR1.out
                  have hcl := HCl.out.touch hR1 (by omega)
                  have hKp := HKp.out.touch hR1 (by omega)
                  obtain ⟨vfa, vfc, hvf⟩ := row_shape hO3
                  have x0 := hK3.val 0 rfl
                  have x1 := hK3.val 1 rfl
                  have p0 := hKp.val 0 rfl
                  have hin : InnC wX w2.heap.size (⟨bytA l, fs⟩, vf) := ⟨own_sub hO3 (by omega), by show fs.length ≤ 15; have := hf3.out; omega⟩
                  have hap : ∀ g, vf.ownBlock = some g → (Value.slice a0 lc.length c0).ownBlock ≠ some g := fun g h1 h2 => by
                    have q1 := (own_ltG hO3 h1).1
                    have q2 := (own_ltG HCl.out.1.row h2).2
                    omega
                  have hrow := hcl.1.row
                  have HCP := Lib.hid (And.intro hcl (And.intro hin hap))
                  have hlcl : lc.length ≤ 16 := by have := hlc.out; omega
                  have HGC := Lib.hid (gets_one HGk.out (gets_cls HG3.out (gets_list HG4.out hfin)))
                  subst hvf
                  have hszX := hR1.size
                  clear hcl hin hap hfin HGk HG3 HG4 HCl HKp hO3
                  go_wp2_with (at_builtin; refine wpList_append_own_at _ rfl _ _ 24 rfl _ 52 i1 _ 2 40 Try.underlying24 Z1.out.1 Z1.out.2.1 Z1.out.2.2.1 Z1.out.2.2.2 rfl (by decide) (.slice a0 lc.length c0) lc.length (lc.flatMap clsC) rfl (own_grewG hrow ((Below.refl _ _).alloc (Nat.le_refl _) _)) ⟨wX.heap.size, 0, none⟩ 1 1 ([.string (bytA l), .slice vfa fs.length vfc]) rfl rfl (World.news_of_block (Blk.new _ _ _)) (by simp [Value.oneCell']) (by unfold maxLen; omega) (by omega) (by simp; omega) ?_; intro v' w3x hown' hgrow _ hat; obtain ⟨ga, gc, rfl⟩ := row_shape hown'; have P := put_kept (j := 0) hS3 hKp (show p < w2.heap.size by omega) (show b < w2.heap.size by omega) (show b ≠ p by omega) (show B ≤ p by omega) hrow (show w2.heap.size ≤ wX.heap.size by omega) hgrow hown'; have fk := P.1.frozen 0; have gk := P.1.val 0 rfl; have HA := Lib.hid (COwnP.app HCP.out.1 HCP.out.2.1 HCP.out.2.2 hgrow hown' hat); have HP := Lib.hid P.2; clear P hgrow hown' hat HCP p0 x0 x1)
                  go_roundw
                  case rel =>
                    refine ⟨k + 1, lc ++ [(⟨bytA l, fs⟩, .slice vfa fs.length vfc)], .slice ga (lc.length + 1) gc, s5, by go_num, by omega, by unfold Hid; rw [List.length_append, hlc.out]; rfl, HP.out.2.1, HA.out.touchG ((Touch.refl (fun x => x = p) w3x).setCell (p := ⟨p, 0, none⟩) rfl _) (fun g h1 e => by omega), by rw [List.map_append]; exact HGC.out, HP.out.1, ?_⟩
                    exact Touch.mono (R := fun x => x = b ∨ x = p ∨ (Value.slice a0 lc.length c0).ownBlock = some x) ((HT1.out.mono fun x _ e => e.elim .inl fun q => .inr (.inl q)).trans ((HR1.out.mono fun x _ e => .inl e).trans (HP.out.2.2.2.mono fun x _ e => .inr e))) fun x hx e => by
                      rcases e with e | e | e
                      · exact .inl e
                      · exact .inr e
                      · have := (own_ltG hrow e).1; omega
                  case measure => simp [intOf]; omega
          · have hfin2 : Gets (after s1 (seqD (clsD bs) n)) (lc.map fun x => x.1) s2 := by
              cases s2 with
              | error y => exact gets_late HGk.out hkn
              | ok q =>
                by_cases e : k < n
                · exact absurd ⟨e, q, rfl⟩ hgo
                · obtain rfl : k = n := by omega
                  exact HGk.out
            by_cases hlt : k < n
            · have hlt' : (k : Int) < (n : Int) := by omega
              obtain ⟨y, rfl⟩ : ∃ y, s2 = .error y := by
                cases s2 with
                | error y => exact ⟨y, rfl⟩
                | ok q => exact absurd ⟨hlt, q, rfl⟩ hgo
              obtain ⟨c2, c2a, c2b, _⟩ := hS2.errC
              go_upto_region 25 with fail
              clear c2 c2a c2b hlt hlt' hgo
              generalize (Except.error y : St) = s2 at *
              generalize wr = wY at *
              have HC1 := Lib.hid (gets_list HG1.out hfin2)
              have N := Lib.hid (rnumber_any' 59 wY B b bs s2 16 hS2 (by decide))
              clear hfin2 hS2 HGk
              go_wp2_with fail
              refine N.out.mono ?_
              rintro e' w5 ⟨n2, sB, rfl, hGn, h0n, hSB, hTn⟩
              have hn2 := num_le hGn h0n
              have HGn := Lib.hid hGn
              have HSB := Lib.hid hSB
              have hsz5 := hTn.size
              have HT5 := Lib.hid (HT1.out.trans hTn.p)
              have HKp5 := Lib.hid (HKp.out.touch hTn (by omega))
              have HCl5 := Lib.hid (HCl.out.touch hTn (by omega))
              have HK5 := Lib.hid (K2.out.touch HT5.out (by omega))
              have HB5 := Lib.hid (HB3.out.trans (HT5.out.below (B := w.heap.size) (by omega) (fun k hk => by omega)))
              clear hGn h0n hSB hTn N HT1 HKp HCl K2 HB3 HT5
              go_wp2_with fail
              go_loopw [16] (fun x wr => ∃ (k : Nat) (lf : List (FunD × Value × Value × Value)) (u1 : Value) (s4 : St), x = .int .i64 k ∧ k ≤ n2 ∧ Hid (lf.length = k) ∧ Blk wr p #[.slice a0 lc.length c0, u1] 27 ∧ UOwnP wr w5.heap.size u1 lf ∧ Gets (after sB (seqD (funD bs) k)) (lf.map fun x => x.1) s4 ∧ RdS 59 wr B b bs s4 ∧ RdP b p w5 wr) (fun x _ => n2 - (intOf x).toNat)
              case atStart => exact ⟨0, [], _, sB, rfl, Nat.zero_le _, rfl, HKp5.out, UOwnP.nil _ _, gets_none _ _, HSB.out, Touch.refl _ _⟩
              case round =>
                obtain ⟨k, lf, u1, s4, rfl, hkn, hlf, hKp, hUl, hGk, hS4, hT4⟩ := hrel
                obtain ⟨au, cu, rfl⟩ := row_shape hUl.1.row
                have HGk4 := Lib.hid hGk
                have HT4 := Lib.hid hT4
                have HKp := Lib.hid hKp
                have HUl := Lib.hid hUl
                have hszr := hT4.size
                clear hGk hT4 hKp hUl
                by_cases hgo4 : k < n2 ∧ ∃ q, s4 = .ok q
                · clear HCl5 HK5 HB5 HC1 HGn HKp5 HSB
                  obtain ⟨hlt, q, rfl⟩ := hgo4
                  have hlt' : (k : Int) < (n2 : Int) := by omega
                  obtain ⟨c2, _⟩ := hS4.okC
                  have TX := Lib.hid (rtext_any' 59 wr B b bs _ hS4)
                  clear hS4
                  obtain ⟨W1, hWW⟩ : ∃ W, W = wr := ⟨_, rfl⟩
                  subst hWW
                  go_wp2_with fail
                  refine TX.out.mono ?_
                  rintro e' w6 ⟨l, s6, rfl, hGt, _, hS6, hT6⟩
                  have HGt := Lib.hid hGt
                  have hsz6 := hT6.size
                  have hb7 := (Below.refl w6.heap.size w6).alloc (Nat.le_refl _) (.cells #[.string (bytA l), .slice none 0 0, .int .i64 0, .slice none 0 0, .slice none 0 0] 45)
                  have HT7 := Lib.hid (hT6.trans (Touch.of hb7))
                  have HF7 := Lib.hid (Blk.new w6 #[.string (bytA l), .slice none 0 0, .int .i64 0, .slice none 0 0, .slice none 0 0] 45)
                  have KS := Lib.hid (rkinds_any 59 _ B b bs s6 6 (hS6.grew hb7) (by decide))
                  have hsz7 : (w6.alloc (.cells #[.string (bytA l), .slice none 0 0, .int .i64 0, .slice none 0 0, .slice none 0 0] 45)).heap.size = w6.heap.size + 1 := by simp
                  clear hGt hS6 hT6 hb7 TX c2
                  go_wp2_with fail
                  generalize w6.alloc (.cells #[.string (bytA l), .slice none 0 0, .int .i64 0, .slice none 0 0, .slice none 0 0] 45) = w7 at *
                  generalize w6.heap.size = kf at *
                  refine KS.out.mono ?_
                  rintro e' w8 ⟨v1, ps, s8, rfl, hGp, hps, hV1, hS8, hT8⟩
                  rw [map_id'] at hGp
                  unfold OwnR at hV1
                  have hsz8 := hT8.size
                  have HGp := Lib.hid hGp
                  have hF8 := HF7.out.touch hT8 (by omega)
                  have f1 := hF8.frozen 1
                  have g1 := hF8.val 1 rfl
                  have HF9 := Lib.hid (hF8.set 1 v1)
                  have hst := (Touch.refl (fun y => y = kf) w8).setCell (p := ⟨kf, 1, none⟩) rfl v1
                  have HV1 := Lib.hid (own_touch hV1 hst (fun g hg e => by have := (own_ltG hV1 hg).1; omega))
                  have hn9 := new_kept hS8 (show b < W1.heap.size by omega) (HT7.out.trans hT8) (hst.mono fun x _ e => by omega)
                  have HT9 := Lib.hid hn9.2
                  have KD := Lib.hid (rkindD_any 59 _ B b bs s8 hn9.1)
                  have hsz9 := hst.size
                  obtain ⟨av1, cv1, ev1⟩ := row_shape hV1
                  clear hGp hS8 hT8 hF8 hV1 hst hn9 KS HF7 HT7
                  subst ev1
                  go_wp2_with fail
                  clear f1 g1
                  generalize w8.setCell ⟨kf, 1, none⟩ _ = w9 at *
                  refine KD.out.mono ?_
                  rintro e' w10 ⟨rt, s10, rfl, hGr, _, hS10, hT10⟩
                  have hsz10 := hT10.size
                  have HGr := Lib.hid hGr
                  have hF10 := HF9.out.touch hT10 (by omega)
                  have f1 := hF10.frozen 2
                  have g1 := hF10.val 2 rfl
                  have HF11 := Lib.hid (hF10.set 2 (.int .i64 rt))
                  have hst := (Touch.refl (fun y => y = kf) w10).setCell (p := ⟨kf, 2, none⟩) rfl (.int .i64 rt)
                  have hV1 := own_lo HV1.out hT10 (by omega)
                  have HV1 := Lib.hid (own_touch hV1 hst (fun g hg e => by have := (own_ltG hV1 hg).1; omega))
                  have hn9 := new_kept hS10 (show b < W1.heap.size by omega) (HT9.out.trans hT10) (hst.mono fun x _ e => by omega)
                  have HT11 := Lib.hid hn9.2
                  have KS := Lib.hid (rkinds_any 59 _ B b bs s10 16 hn9.1 (by decide))
                  have hsz11 := hst.size
                  clear hGr hS10 hT10 hF10 hV1 hst hn9 KD HF9 HT9
                  go_wp2_with fail
                  clear f1 g1
                  generalize w10.setCell ⟨kf, 2, none⟩ _ = w11 at *
                  refine KS.out.mono ?_
                  rintro e' w12 ⟨v3, ls, s12, rfl, hGl, hls, hV3, hS12, hT12⟩
                  rw [map_id'] at hGl
                  unfold OwnR at hV3
                  have hsz12 := hT12.size
                  have HGl := Lib.hid hGl
                  have hF12 := HF11.out.touch hT12 (by omega)
                  have f1 := hF12.frozen 3
                  have g1 := hF12.val 3 rfl
                  have HF13 := Lib.hid (hF12.set 3 v3)
                  have hst := (Touch.refl (fun y => y = kf) w12).setCell (p := ⟨kf, 3, none⟩) rfl v3
                  have hV1 := own_lo HV1.out hT12 (by omega)
                  have HV1 := Lib.hid (own_touch hV1 hst (fun g hg e => by have := (own_ltG hV1 hg).1; omega))
                  have HV3 := Lib.hid (own_touch hV3 hst (fun g hg e => by have := (own_ltG hV3 hg).1; omega))
                  have hn9 := new_kept hS12 (show b < W1.heap.size by omega) (HT11.out.trans hT12) (hst.mono fun x _ e => by omega)
                  have HT13 := Lib.hid hn9.2
                  have N := Lib.hid (rnumber_any' 59 _ B b bs s12 256 hn9.1 (by decide))
                  have hsz13 := hst.size
                  obtain ⟨av3, cv3, ev3⟩ := row_shape hV3
                  clear hGl hS12 hT12 hF12 hV1 hV3 hst hn9 KS HF11 HT11
                  subst ev3
                  go_wp2_with fail
                  clear f1 g1
                  generalize w12.setCell ⟨kf, 3, none⟩ _ = w13 at *
                  refine N.out.mono ?_
                  rintro e' w14 ⟨m, s14, rfl, hGm, h0m, hS14, hT14⟩
                  have hm := num_le hGm h0m
                  have hsz14 := hT14.size
                  have HGm := Lib.hid hGm
                  have HF14 := Lib.hid (HF13.out.touch hT14 (by omega))
                  have HV1 := Lib.hid (own_lo HV1.out hT14 (by omega))
                  have HV3 := Lib.hid (own_lo HV3.out hT14 (by omega))
                  have HT14 := Lib.hid (HT13.out.trans hT14)
                  have HS14 := Lib.hid hS14
                  clear hGm h0m hS14 hT14 N HF13 HT13
                  go_wp2_with fail
                  go_loopw [19] (fun y W => ∃ (kk : Nat) (is : List InsD) (v4 : Value) (s9 : St), y = .int .i64 kk ∧ kk ≤ m ∧ Hid (is.length = kk) ∧ Blk W kf #[.string (bytA l), .slice av1 ps.length cv1, .int .i64 rt, .slice av3 ls.length cv3, v4] 45 ∧ W.ownsRow w14.heap.size 41 3 v4 is.length (is.flatMap insC) ∧ Gets (after s14 (seqD (insD bs) kk)) is s9 ∧ RdS 59 W B b bs s9 ∧ RdP b kf w14 W) (fun y _ => m - (intOf y).toNat)
                  case atStart => exact ⟨0, [], _, s14, rfl, Nat.zero_le _, rfl, HF14.out, ⟨by simp, .inl ⟨rfl, rfl⟩⟩, gets_none _ _, HS14.out, Touch.refl _ _⟩
                  case round =>
                    obtain ⟨kk, is, v4, s9, rfl, hkm, hi5, hKf, hO5, hG9, hS9, hR5⟩ := hrel
                    have HR5 := Lib.hid hR5
                    have hszw := hR5.size
                    clear hR5
                    by_cases hgo5 : kk < m ∧ ∃ q, s9 = .ok q
                    · obtain ⟨hlt5, q5, rfl⟩ := hgo5
                      have hlt5' : (kk : Int) < (m : Int) := by omega
                      have hisl : is.length ≤ 256 := by have := hi5.out; omega
                      obtain ⟨a4, c4, rfl⟩ := row_shape hO5
                      have HKf := Lib.hid hKf
                      have HO5 := Lib.hid hO5
                      have HG9 := Lib.hid hG9
                      obtain ⟨c2, _⟩ := hS9.okC
                      have HS9 := Lib.hid hS9
                      clear hS9 hKf hO5 hG9
                      go_upto_region 37 with fail
                      clear c2
                      refine wp_region_held_drew (S := fun _ => True) (by kernel_rfl) trivial (fun hHeld => ?_)
                      have kF3 := HKf.out.drew
                      have hO3 := own_drew HO5.out
                      have IN := Lib.hid (rinsD_any 59 wr.drew B b bs _ (HS9.out.quiet ⟨1, rfl⟩))
                      have hszd : wr.drew.heap.size = wr.heap.size := rfl
                      refine wpAnyH_take (i := 0) (oi := _) (v := ?_) (op_atC rfl) (by kernel_rfl) (by kernel_rfl) (by kernel_rfl) (fun _ _ _ h => h) (Or.inl ⟨by rfl, ?_⟩) hHeld ?_
                      rotate_left 1
                      focus (intro W hSw; (try dsimp only at hSw); go_simp; (try (with_reducible rfl)))
                      (try simp only [Act.put, List.setIfInBounds_toArray, List.set_cons_zero, List.set_cons_succ])
                      refine wpAnyH_take (i := 2) (oi := _) (v := ?_) (op_atC rfl) (by kernel_rfl) (by kernel_rfl) (by kernel_rfl) (fun _ _ _ h => h) (Or.inl ⟨by rfl, ?_⟩) hHeld ?_
                      rotate_left 1
                      focus (intro W hSw; (try dsimp only at hSw); go_simp; (try (with_reducible rfl)))
                      (try simp only [Act.put, List.setIfInBounds_toArray, List.set_cons_zero, List.set_cons_succ])
                      refine wpAnyH_ready (rs := [1, 3]) (by kernel_rfl) (by simp) ?_
                      refine AllReadyH.cons (o := _) (op_atC rfl) (fun Kc hKc => ?_) ?_
                      focus
                        have y4 := kF3.val 4 rfl
                        go_simp
                        clear y4
                        refine hKc.out _ _ trivial (fun hHeld9 => ?_)
                        clear hHeld9 hKc Kc
                        (try simp only [Act.put, List.setIfInBounds_toArray, List.set_cons_zero, List.set_cons_succ])
                        refine wpAnyH_ready (rs := [3]) (by kernel_rfl) (by simp) ?_
                        refine AllReadyH.cons (o := _) (op_atC rfl) (fun Kc hKc => ?_) AllReadyH.nil
                        go_simp
                        go_at_call 25
                        (with_reducible refine (IN.out).mono ?_)
                        rintro e' wc ⟨i, s10, rfl, hG10, _, hS10, hTc⟩
                        have hszc := hTc.size
                        have kF4 := kF3.touch hTc (by omega)
                        have hO4 := own_lo hO3 hTc (by omega)
                        have HG10 := Lib.hid (gets_one HG9.out hG10)
                        have HTc := Lib.hid (HR5.out.trans (RdT.p ((RdT.quiet ⟨1, rfl⟩ : RdT b wr wr.drew).trans hTc)))
                        clear hG10 hTc IN
                        go_wp2_with fail
                        refine hKc.out _ _ trivial (fun hHeld9 => ?_)
                        clear hHeld9 hKc Kc
                        (try simp only [Act.put, List.setIfInBounds_toArray, List.set_cons_zero, List.set_cons_succ])
                        refine wpAnyH_ready (rs := [4]) (by kernel_rfl) (by simp) ?_
                        refine AllReadyH.cons (o := _) (op_atC rfl) (fun Kc hKc => ?_) AllReadyH.nil
                        go_simp
                        refine hKc.out _ _ trivial (fun hHeld9 => ?_)
                        clear hHeld9 hKc Kc
                        (try simp only [Act.put, List.setIfInBounds_toArray, List.set_cons_zero, List.set_cons_succ])
                        refine wpAnyH_ready (rs := [5]) (by kernel_rfl) (by simp) ?_
                        refine AllReadyH.cons (o := _) (op_atC rfl) (fun Kc hKc => ?_) AllReadyH.nil
                        refine step_append_lies _ (by rfl) _ _ _ (by rfl) w14.heap.size 41 i3 _ 3 24 Try.underlying42 Z3.out.1 Z3.out.2.1 Z3.out.2.2.1 Z3.out.2.2.2 rfl (by decide) (.slice a4 is.length c4) is.length (is.flatMap insC) (by rfl) (own_grewG hO4 ((Below.refl _ _).alloc (Nat.le_refl _) _)) ⟨wc.heap.size, 0, none⟩ 1 1 (insC i) (by rfl) (by rfl) (World.news_of_block (Blk.new _ _ _)) (by simp [Value.oneCell', insC]) (by decide) (by unfold maxLen; omega) (by omega) (by simp; omega) _ rfl ?_
                        intro ga gc wd hown hgrow hat hltg
                        refine hKc.out _ _ trivial (fun hHeld9 => ?_)
                        clear hHeld9 hKc Kc
                        have P := put_kept (j := 4) hS10 kF4 (show kf < w14.heap.size by omega) (show b < w14.heap.size by omega) (show b ≠ kf by omega) (show B ≤ kf by omega) hO4 (show w14.heap.size ≤ wc.heap.size by omega) hgrow hown
                        have HP := Lib.hid P
                        clear P hgrow hat hltg kF4 hS10 hown
                        (try simp only [Act.put, List.setIfInBounds_toArray, List.set_cons_zero, List.set_cons_succ])
                        refine wpAnyH_take (i := 6) (oi := _) (v := ?_) (op_atC rfl) (by kernel_rfl) (by kernel_rfl) (by kernel_rfl) (fun _ _ _ h => h) (Or.inl ⟨by rfl, ?_⟩) hHeld ?_
                        rotate_left 1
                        focus (intro W hSw; (try dsimp only at hSw); go_simp; (try (with_reducible rfl)))
                        (try simp only [Act.put, List.setIfInBounds_toArray, List.set_cons_zero, List.set_cons_succ])
                        refine wpAnyH_ready (rs := [7]) (by kernel_rfl) (by simp) ?_
                        refine AllReadyH.cons (o := _) (op_atC rfl) (fun Kc hKc => ?_) AllReadyH.nil
                        have y4 := HP.out.1.val 4 rfl
                        have f4 := HP.out.1.frozen 4
                        go_simp
                        refine hKc.out _ _ trivial (fun hHeld9 => ?_)
                        clear hHeld9 hKc Kc y4 f4
                        (try simp only [Act.put, List.setIfInBounds_toArray, List.set_cons_zero, List.set_cons_succ])
                        refine wpAnyH_done (by kernel_rfl) ?_ _
                        go_wp2
                        go_roundw
                        case rel =>
                          refine ⟨kk + 1, is ++ [i], .slice (some ⟨ga, 0, none⟩) (is.length + 1) gc, s10, by go_num, by omega, by unfold Hid; rw [List.length_append, hi5.out]; rfl, HP.out.2.2.1, by rw [List.flatMap_append, List.length_append]; exact HP.out.2.2.2.1, HG10.out, HP.out.2.1, ?_⟩
                          exact Touch.mono (R := fun x => x = b ∨ x = kf ∨ (Value.slice a4 is.length c4).ownBlock = some x) ((HTc.out.mono fun x _ e => e.elim .inl fun q => .inr (.inl q)).trans (HP.out.2.2.2.2.mono fun x _ e => .inr e)) fun x hx e => by
                            rcases e with e | e | e
                            · exact .inl e
                            · exact .inr e
                            · have := (own_ltG hO4 e).1; omega
                        case measure => simp [intOf]; omega
                      refine AllReadyH.cons (o := _) (op_atC rfl) (fun Kc hKc => ?_) AllReadyH.nil
                      go_simp
                      go_at_call 25
                      (with_reducible refine (IN.out).mono ?_)
                      rintro e' wc ⟨i, s10, rfl, hG10, _, hS10, hTc⟩
                      have hszc := hTc.size
                      have kF4 := kF3.touch hTc (by omega)
                      have hO4 := own_lo hO3 hTc (by omega)
                      have HG10 := Lib.hid (gets_one HG9.out hG10)
                      have HTc := Lib.hid (HR5.out.trans (RdT.p ((RdT.quiet ⟨1, rfl⟩ : RdT b wr wr.drew).trans hTc)))
                      clear hG10 hTc IN
                      go_wp2_with fail
                      refine hKc.out _ _ trivial (fun hHeld9 => ?_)
                      clear hHeld9 hKc Kc
                      (try simp only [Act.put, List.setIfInBounds_toArray, List.set_cons_zero, List.set_cons_succ])
                      refine wpAnyH_ready (rs := [1, 4]) (by kernel_rfl) (by simp) ?_
                      refine AllReadyH.cons (o := _) (op_atC rfl) (fun Kc hKc => ?_) ?_
                      focus
                        have y4 := kF4.val 4 rfl
                        go_simp
                        clear y4
                        refine hKc.out _ _ trivial (fun hHeld9 => ?_)
                        clear hHeld9 hKc Kc
                        (try simp only [Act.put, List.setIfInBounds_toArray, List.set_cons_zero, List.set_cons_succ])
                        refine wpAnyH_ready (rs := [4]) (by kernel_rfl) (by simp) ?_
                        refine AllReadyH.cons (o := _) (op_atC rfl) (fun Kc hKc => ?_) AllReadyH.nil
                        go_simp
                        refine hKc.out _ _ trivial (fun hHeld9 => ?_)
                        clear hHeld9 hKc Kc
                        (try simp only [Act.put, List.setIfInBounds_toArray, List.set_cons_zero, List.set_cons_succ])
                        refine wpAnyH_ready (rs := [5]) (by kernel_rfl) (by simp) ?_
                        refine AllReadyH.cons (o := _) (op_atC rfl) (fun Kc hKc => ?_) AllReadyH.nil
                        refine step_append_lies _ (by rfl) _ _ _ (by rfl) w14.heap.size 41 i3 _ 3 24 Try.underlying42 Z3.out.1 Z3.out.2.1 Z3.out.2.2.1 Z3.out.2.2.2 rfl (by decide) (.slice a4 is.length c4) is.length (is.flatMap insC) (by rfl) (own_grewG hO4 ((Below.refl _ _).alloc (Nat.le_refl _) _)) ⟨wc.heap.size, 0, none⟩ 1 1 (insC i) (by rfl) (by rfl) (World.news_of_block (Blk.new _ _ _)) (by simp [Value.oneCell', insC]) (by decide) (by unfold maxLen; omega) (by omega) (by simp; omega) _ rfl ?_
                        intro ga gc wd hown hgrow hat hltg
                        refine hKc.out _ _ trivial (fun hHeld9 => ?_)
                        clear hHeld9 hKc Kc
                        have P := put_kept (j := 4) hS10 kF4 (show kf < w14.heap.size by omega) (show b < w14.heap.size by omega) (show b ≠ kf by omega) (show B ≤ kf by omega) hO4 (show w14.heap.size ≤ wc.heap.size by omega) hgrow hown
                        have HP := Lib.hid P
                        clear P hgrow hat hltg kF4 hS10 hown
                        (try simp only [Act.put, List.setIfInBounds_toArray, List.set_cons_zero, List.set_cons_succ])
                        refine wpAnyH_take (i := 6) (oi := _) (v := ?_) (op_atC rfl) (by kernel_rfl) (by kernel_rfl) (by kernel_rfl) (fun _ _ _ h => h) (Or.inl ⟨by rfl, ?_⟩) hHeld ?_
                        rotate_left 1
                        focus (intro W hSw; (try dsimp only at hSw); go_simp; (try (with_reducible rfl)))
                        (try simp only [Act.put, List.setIfInBounds_toArray, List.set_cons_zero, List.set_cons_succ])
                        refine wpAnyH_ready (rs := [7]) (by kernel_rfl) (by simp) ?_
                        refine AllReadyH.cons (o := _) (op_atC rfl) (fun Kc hKc => ?_) AllReadyH.nil
                        have y4 := HP.out.1.val 4 rfl
                        have f4 := HP.out.1.frozen 4
                        go_simp
                        refine hKc.out _ _ trivial (fun hHeld9 => ?_)
                        clear hHeld9 hKc Kc y4 f4
                        (try simp only [Act.put, List.setIfInBounds_toArray, List.set_cons_zero, List.set_cons_succ])
                        refine wpAnyH_done (by kernel_rfl) ?_ _
                        go_wp2
                        go_roundw
                        case rel =>
                          refine ⟨kk + 1, is ++ [i], .slice (some ⟨ga, 0, none⟩) (is.length + 1) gc, s10, by go_num, by omega, by unfold Hid; rw [List.length_append, hi5.out]; rfl, HP.out.2.2.1, by rw [List.flatMap_append, List.length_append]; exact HP.out.2.2.2.1, HG10.out, HP.out.2.1, ?_⟩
                          exact Touch.mono (R := fun x => x = b ∨ x = kf ∨ (Value.slice a4 is.length c4).ownBlock = some x) ((HTc.out.mono fun x _ e => e.elim .inl fun q => .inr (.inl q)).trans (HP.out.2.2.2.2.mono fun x _ e => .inr e)) fun x hx e => by
                            rcases e with e | e | e
                            · exact .inl e
                            · exact .inr e
                            · have := (own_ltG hO4 e).1; omega
                        case measure => simp [intOf]; omega
                      refine AllReadyH.cons (o := _) (op_atC rfl) (fun Kc hKc => ?_) AllReadyH.nil
                      go_simp
                      refine hKc.out _ _ trivial (fun hHeld9 => ?_)
                      clear hHeld9 hKc Kc
                      (try simp only [Act.put, List.setIfInBounds_toArray, List.set_cons_zero, List.set_cons_succ])
                      refine wpAnyH_ready (rs := [1]) (by kernel_rfl) (by simp) ?_
                      refine AllReadyH.cons (o := _) (op_atC rfl) (fun Kc hKc => ?_) AllReadyH.nil
                      have y4 := (kF4.alloc (.cells #[.int .i64 i.op, .int .i64 i.a, .int .i64 i.b] 41)).val 4 rfl
                      go_simp
                      clear y4
                      refine hKc.out _ _ trivial (fun hHeld9 => ?_)
                      clear hHeld9 hKc Kc
                      (try simp only [Act.put, List.setIfInBounds_toArray, List.set_cons_zero, List.set_cons_succ])
                      refine wpAnyH_ready (rs := [5]) (by kernel_rfl) (by simp) ?_
                      refine AllReadyH.cons (o := _) (op_atC rfl) (fun Kc hKc => ?_) AllReadyH.nil
                      refine step_append_lies _ (by rfl) _ _ _ (by rfl) w14.heap.size 41 i3 _ 3 24 Try.underlying42 Z3.out.1 Z3.out.2.1 Z3.out.2.2.1 Z3.out.2.2.2 rfl (by decide) (.slice a4 is.length c4) is.length (is.flatMap insC) (by rfl) (own_grewG hO4 ((Below.refl _ _).alloc (Nat.le_refl _) _)) ⟨wc.heap.size, 0, none⟩ 1 1 (insC i) (by rfl) (by rfl) (World.news_of_block (Blk.new _ _ _)) (by simp [Value.oneCell', insC]) (by decide) (by unfold maxLen; omega) (by omega) (by simp; omega) _ rfl ?_
                      intro ga gc wd hown hgrow hat hltg
                      refine hKc.out _ _ trivial (fun hHeld9 => ?_)
                      clear hHeld9 hKc Kc
                      have P := put_kept (j := 4) hS10 kF4 (show kf < w14.heap.size by omega) (show b < w14.heap.size by omega) (show b ≠ kf by omega) (show B ≤ kf by omega) hO4 (show w14.heap.size ≤ wc.heap.size by omega) hgrow hown
                      have HP := Lib.hid P
                      clear P hgrow hat hltg kF4 hS10 hown
                      (try simp only [Act.put, List.setIfInBounds_toArray, List.set_cons_zero, List.set_cons_succ])
                      refine wpAnyH_take (i := 6) (oi := _) (v := ?_) (op_atC rfl) (by kernel_rfl) (by kernel_rfl) (by kernel_rfl) (fun _ _ _ h => h) (Or.inl ⟨by rfl, ?_⟩) hHeld ?_
                      rotate_left 1
                      focus (intro W hSw; (try dsimp only at hSw); go_simp; (try (with_reducible rfl)))
                      (try simp only [Act.put, List.setIfInBounds_toArray, List.set_cons_zero, List.set_cons_succ])
                      refine wpAnyH_ready (rs := [7]) (by kernel_rfl) (by simp) ?_
                      refine AllReadyH.cons (o := _) (op_atC rfl) (fun Kc hKc => ?_) AllReadyH.nil
                      have y4 := HP.out.1.val 4 rfl
                      have f4 := HP.out.1.frozen 4
                      go_simp
                      refine hKc.out _ _ trivial (fun hHeld9 => ?_)
                      clear hHeld9 hKc Kc y4 f4
                      (try simp only [Act.put, List.setIfInBounds_toArray, List.set_cons_zero, List.set_cons_succ])
                      refine wpAnyH_done (by kernel_rfl) ?_ _
                      go_wp2
                      go_roundw
                      case rel =>
                        refine ⟨kk + 1, is ++ [i], .slice (some ⟨ga, 0, none⟩) (is.length + 1) gc, s10, by go_num, by omega, by unfold Hid; rw [List.length_append, hi5.out]; rfl, HP.out.2.2.1, by rw [List.flatMap_append, List.length_append]; exact HP.out.2.2.2.1, HG10.out, HP.out.2.1, ?_⟩
                        exact Touch.mono (R := fun x => x = b ∨ x = kf ∨ (Value.slice a4 is.length c4).ownBlock = some x) ((HTc.out.mono fun x _ e => e.elim .inl fun q => .inr (.inl q)).trans (HP.out.2.2.2.2.mono fun x _ e => .inr e)) fun x hx e => by
                          rcases e with e | e | e
                          · exact .inl e
                          · exact .inr e
                          · have := (own_ltG hO4 e).1; omega
                      case measure => simp [intOf]; omega

                    · have hfin : Gets (after s14 (seqD (insD bs) m)) is s9 := by
                        cases s9 with
                        | error y => exact gets_late hG9 hkm
                        | ok q =>
                          by_cases e : kk < m
                          · exact absurd ⟨e, q, rfl⟩ hgo5
                          · obtain rfl : kk = m := by omega
                            exact hG9
                      by_cases hlt5 : kk < m
                      · have hlt5' : (kk : Int) < (m : Int) := by omega
                        obtain ⟨y, rfl⟩ : ∃ y, s9 = .error y := by
                          cases s9 with
                          | error y => exact ⟨y, rfl⟩
                          | ok q => exact absurd ⟨hlt5, q, rfl⟩ hgo5
                        obtain ⟨c2, c2a, c2b, _⟩ := hS9.errC
                        go_upto_region 38 with fail
                        clear c2 c2a c2b hlt5 hlt5' hgo5 hG9
                        generalize (Except.error y : St) = s9 at *
                        generalize wr = wX at *
                        have hR5 := HR5.out
                        have hszX := hR5.size
                        have hTX : RdT b W1 wX := Touch.mono (R := fun x => x = b ∨ x = kf) ((HT14.out.mono fun x _ e => .inl e).trans hR5) fun x hx e => e.elim id fun q => by omega
                        have hcl := HUl.out.touch hTX (by omega)
                        have hKp := HKp.out.touch hTX (by omega)
                        have q1 := own_touch HV1.out hR5 (fun g hg e => by have := (own_ltG HV1.out hg).1; omega)
                        have q3 := own_touch HV3.out hR5 (fun g hg e => by have := (own_ltG HV3.out hg).1; omega)
                        obtain ⟨a4, c4, e4⟩ := row_shape hO5
                        subst e4
                        have x0 := hKf.val 0 rfl
                        have x1 := hKf.val 1 rfl
                        have x2 := hKf.val 2 rfl
                        have x3 := hKf.val 3 rfl
                        have x4 := hKf.val 4 rfl
                        have p0 := hKp.val 1 rfl
                        have hin : InnU wX w5.heap.size (⟨bytA l, ps, rt, ls, is⟩, .slice av1 ps.length cv1, .slice av3 ls.length cv3, .slice a4 is.length c4) := ⟨⟨own_sub q1 (by omega), own_sub q3 (by omega), own_sub hO5 (by omega)⟩, hps, hls, by show is.length ≤ 256; have := hi5.out; omega⟩
                        have hap : ApU (⟨bytA l, ps, rt, ls, is⟩, .slice av1 ps.length cv1, .slice av3 ls.length cv3, .slice a4 is.length c4) (.slice au lf.length cu) := by
                          refine ⟨fun g h1 h2 => ?_, fun g h1 h2 => ?_, fun g h1 h2 => ?_⟩
                          · have r1 := (own_ltG q1 h1).1
                            have r2 := (own_ltG HUl.out.1.row h2).2
                            omega
                          · have r1 := (own_ltG q3 h1).1
                            have r2 := (own_ltG HUl.out.1.row h2).2
                            omega
                          · have r1 := (own_ltG hO5 h1).1
                            have r2 := (own_ltG HUl.out.1.row h2).2
                            omega
                        have hrow := hcl.1.row
                        have HCP := Lib.hid (And.intro hcl (And.intro hin hap))
                        have hlcl : lf.length ≤ 16 := by have := hlf.out; omega
                        have HGC := Lib.hid (gets_one HGk4.out (gets_fun HGt.out HGp.out HGr.out HGl.out (gets_list HGm.out hfin)))
                        clear hcl hin hap hfin HGk4 HGt HGp HGr HGl HGm HUl HKp hO5 q1 q3
                        go_wp2_with (at_builtin; refine wpList_append_own_at _ rfl _ _ 25 rfl _ 45 i2 _ 5 96 Try.underlying25 Z2.out.1 Z2.out.2.1 Z2.out.2.2.1 Z2.out.2.2.2 rfl (by decide) (.slice au lf.length cu) lf.length (lf.flatMap funC) rfl (own_grewG hrow ((Below.refl _ _).alloc (Nat.le_refl _) _)) ⟨wX.heap.size, 0, none⟩ 1 1 ([.string (bytA l), .slice av1 ps.length cv1, .int .i64 rt, .slice av3 ls.length cv3, .slice a4 is.length c4]) rfl rfl (World.news_of_block (Blk.new _ _ _)) (by simp [Value.oneCell']) (by unfold maxLen; omega) (by omega) (by simp; omega) ?_; intro v' w3x hown' hgrow _ hat; obtain ⟨ga, gc, rfl⟩ := row_shape hown'; have P := put_kept (j := 1) hS9 hKp (show p < w5.heap.size by omega) (show b < w5.heap.size by omega) (show b ≠ p by omega) (show B ≤ p by omega) hrow (show w5.heap.size ≤ wX.heap.size by omega) hgrow hown'; have fk := P.1.frozen 1; have gk := P.1.val 1 rfl; have HA := Lib.hid (UOwnP.app HCP.out.1 HCP.out.2.1 HCP.out.2.2 hgrow hown' hat); have HP := Lib.hid P.2; clear P hgrow hown' hat HCP p0 x0 x1 x2 x3 x4)
                        go_roundw
                        case rel =>
                          refine ⟨k + 1, lf ++ [(⟨bytA l, ps, rt, ls, is⟩, .slice av1 ps.length cv1, .slice av3 ls.length cv3, .slice a4 is.length c4)], .slice ga (lf.length + 1) gc, s9, by go_num, by omega, by unfold Hid; rw [List.length_append, hlf.out]; rfl, HP.out.2.1, HA.out.touchG ((Touch.refl (fun x => x = p) w3x).setCell (p := ⟨p, 1, none⟩) rfl _) (fun g h1 e => by omega), by rw [List.map_append]; exact HGC.out, HP.out.1, ?_⟩
                          exact Touch.mono (R := fun x => x = b ∨ x = p ∨ (Value.slice au lf.length cu).ownBlock = some x) ((HT4.out.mono fun x _ e => e.elim .inl fun q => .inr (.inl q)).trans ((hTX.mono fun x _ e => .inl e).trans (HP.out.2.2.2.mono fun x _ e => .inr e))) fun x hx e => by
                            rcases e with e | e | e
                            · exact .inl e
                            · exact .inr e
                            · have := (own_ltG hrow e).1; omega
                        case measure => simp [intOf]; omega
                      · have hlt5' : ¬ (kk : Int) < (m : Int) := by omega
                        go_upto_region 38 with fail
                        clear hlt5 hlt5' hgo5 hG9
                        generalize wr = wX at *
                        have hR5 := HR5.out
                        have hszX := hR5.size
                        have hTX : RdT b W1 wX := Touch.mono (R := fun x => x = b ∨ x = kf) ((HT14.out.mono fun x _ e => .inl e).trans hR5) fun x hx e => e.elim id fun q => by omega
                        have hcl := HUl.out.touch hTX (by omega)
                        have hKp := HKp.out.touch hTX (by omega)
                        have q1 := own_touch HV1.out hR5 (fun g hg e => by have := (own_ltG HV1.out hg).1; omega)
                        have q3 := own_touch HV3.out hR5 (fun g hg e => by have := (own_ltG HV3.out hg).1; omega)
                        obtain ⟨a4, c4, e4⟩ := row_shape hO5
                        subst e4
                        have x0 := hKf.val 0 rfl
                        have x1 := hKf.val 1 rfl
                        have x2 := hKf.val 2 rfl
                        have x3 := hKf.val 3 rfl
                        have x4 := hKf.val 4 rfl
                        have p0 := hKp.val 1 rfl
                        have hin : InnU wX w5.heap.size (⟨bytA l, ps, rt, ls, is⟩, .slice av1 ps.length cv1, .slice av3 ls.length cv3, .slice a4 is.length c4) := ⟨⟨own_sub q1 (by omega), own_sub q3 (by omega), own_sub hO5 (by omega)⟩, hps, hls, by show is.length ≤ 256; have := hi5.out; omega⟩
                        have hap : ApU (⟨bytA l, ps, rt, ls, is⟩, .slice av1 ps.length cv1, .slice av3 ls.length cv3, .slice a4 is.length c4) (.slice au lf.length cu) := by
                          refine ⟨fun g h1 h2 => ?_, fun g h1 h2 => ?_, fun g h1 h2 => ?_⟩
                          · have r1 := (own_ltG q1 h1).1
                            have r2 := (own_ltG HUl.out.1.row h2).2
                            omega
                          · have r1 := (own_ltG q3 h1).1
                            have r2 := (own_ltG HUl.out.1.row h2).2
                            omega
                          · have r1 := (own_ltG hO5 h1).1
                            have r2 := (own_ltG HUl.out.1.row h2).2
                            omega
                        have hrow := hcl.1.row
                        have HCP := Lib.hid (And.intro hcl (And.intro hin hap))
                        have hlcl : lf.length ≤ 16 := by have := hlf.out; omega
                        have HGC := Lib.hid (gets_one HGk4.out (gets_fun HGt.out HGp.out HGr.out HGl.out (gets_list HGm.out hfin)))
                        clear hcl hin hap hfin HGk4 HGt HGp HGr HGl HGm HUl HKp hO5 q1 q3
                        go_wp2_with (at_builtin; refine wpList_append_own_at _ rfl _ _ 25 rfl _ 45 i2 _ 5 96 Try.underlying25 Z2.out.1 Z2.out.2.1 Z2.out.2.2.1 Z2.out.2.2.2 rfl (by decide) (.slice au lf.length cu) lf.length (lf.flatMap funC) rfl (own_grewG hrow ((Below.refl _ _).alloc (Nat.le_refl _) _)) ⟨wX.heap.size, 0, none⟩ 1 1 ([.string (bytA l), .slice av1 ps.length cv1, .int .i64 rt, .slice av3 ls.length cv3, .slice a4 is.length c4]) rfl rfl (World.news_of_block (Blk.new _ _ _)) (by simp [Value.oneCell']) (by unfold maxLen; omega) (by omega) (by simp; omega) ?_; intro v' w3x hown' hgrow _ hat; obtain ⟨ga, gc, rfl⟩ := row_shape hown'; have P := put_kept (j := 1) hS9 hKp (show p < w5.heap.size by omega) (show b < w5.heap.size by omega) (show b ≠ p by omega) (show B ≤ p by omega) hrow (show w5.heap.size ≤ wX.heap.size by omega) hgrow hown'; have fk := P.1.frozen 1; have gk := P.1.val 1 rfl; have HA := Lib.hid (UOwnP.app HCP.out.1 HCP.out.2.1 HCP.out.2.2 hgrow hown' hat); have HP := Lib.hid P.2; clear P hgrow hown' hat HCP p0 x0 x1 x2 x3 x4)
                        go_roundw
                        case rel =>
                          refine ⟨k + 1, lf ++ [(⟨bytA l, ps, rt, ls, is⟩, .slice av1 ps.length cv1, .slice av3 ls.length cv3, .slice a4 is.length c4)], .slice ga (lf.length + 1) gc, s9, by go_num, by omega, by unfold Hid; rw [List.length_append, hlf.out]; rfl, HP.out.2.1, HA.out.touchG ((Touch.refl (fun x => x = p) w3x).setCell (p := ⟨p, 1, none⟩) rfl _) (fun g h1 e => by omega), by rw [List.map_append]; exact HGC.out, HP.out.1, ?_⟩
                          exact Touch.mono (R := fun x => x = b ∨ x = p ∨ (Value.slice au lf.length cu).ownBlock = some x) ((HT4.out.mono fun x _ e => e.elim .inl fun q => .inr (.inl q)).trans ((hTX.mono fun x _ e => .inl e).trans (HP.out.2.2.2.mono fun x _ e => .inr e))) fun x hx e => by
                            rcases e with e | e | e
                            · exact .inl e
                            · exact .inr e
                            · have := (own_ltG hrow e).1; omega
                        case measure => simp [intOf]; omega
                · have hfin4 : Gets (after sB (seqD (funD bs) n2)) (lf.map fun x => x.1) s4 := by
                    cases s4 with
                    | error y => exact gets_late HGk4.out hkn
                    | ok q =>
                      by_cases e : k < n2
                      · exact absurd ⟨e, q, rfl⟩ hgo4
                      · obtain rfl : k = n2 := by omega
                        exact HGk4.out
                  have HF := Lib.hid (gets_dec HG.out HC1.out (gets_list HGn.out hfin4))
                  have HBz := HB5.out.trans (HT4.out.below (B := w.heap.size) (by omega) (fun k hk => by omega))
                  have Kz := HK5.out.touch HT4.out (by omega)
                  have CL := HCl5.out.touchG HT4.out (fun g h1 e => by omega)
                  have UL := HUl.out
                  have KP := HKp.out
                  have hSz := hS4
                  clear HB5 HK5 HT4 HCl5 HUl HKp hS4 hfin4 HGk4 HC1 HGn
                  by_cases hlt4 : k < n2
                  · have hlt4' : (k : Int) < (n2 : Int) := by omega
                    obtain ⟨y, rfl⟩ : ∃ y, s4 = .error y := by
                      cases s4 with
                      | error y => exact ⟨y, rfl⟩
                      | ok q => exact absurd ⟨hlt4, q, rfl⟩ hgo4
                    obtain ⟨d2x, d2a, d2b, _⟩ := hSz.errC
                    go_upto_region 39 with fail
                    clear d2x d2a d2b hlt4 hlt4' hgo4
                    generalize (Except.error y : St) = s4 at *
                    generalize wr = wz at *
                    cases s4 with
                    | error x =>
                      have HX := Lib.hid (dec_of_err hl HF.out.err)
                      obtain ⟨c2, c2a, c2b, _⟩ := hSz.errC
                      clear HF CL UL KP
                      obtain ⟨pq, _, hA5⟩ := (show ∃ pq : Nat, pq ≤ bs.length ∧ RdAt 59 wz B (b) bs (pq : Int) x.1 x.2 from hSz.2)
                      obtain ⟨v5, kA, _⟩ := hA5.ex
                      have HNE : Hid (x.1 ≠ (0 : Int)) := hSz.1
                      have ne5 : (x.1 != (0 : Int)) = true := bne_iff_ne.2 hSz.1
                      have d2 := kA.val 2 rfl
                      have d3 := kA.val 3 rfl
                      have r0 := Kz.val 0 rfl
                      have r1 := Kz.val 1 rfl
                      have f0 := Kz.frozen 0
                      have f1 := Kz.frozen 1
                      have hT6 := ((Touch.refl (fun y => w.heap.size ≤ y) wz).setCell (p := ⟨w.heap.size, 0, none⟩) (Nat.le_refl _) (.slice none 0 0)).setCell (p := ⟨w.heap.size, 1, none⟩) (Nat.le_refl _) (.slice none 0 0)
                      have HE := Lib.hid (HBz.trans (hT6.below HBz.size (fun k hk => hk))).drew
                      have HZ := Lib.hid ((Kz.set 0 (.slice none 0 0)).set 1 (.slice none 0 0)).drew
                      have HSq : Hid (wz.drew.cell? ⟨b, 2, none⟩ = some (.int .i64 x.1) ∧ wz.drew.cell? ⟨b, 3, none⟩ = some (.int .i64 x.2)) := ⟨d2, d3⟩
                      clear hSz hA5 kA Kz HBz hT6
                      go_upto_region 42 with fail
                      refine wp_region_held_drew (S := (fun W' => W'.cell? ⟨b, 2, none⟩ = some (.int .i64 x.1) ∧ W'.cell? ⟨b, 3, none⟩ = some (.int .i64 x.2))) (by kernel_rfl) HSq.out (fun hHeld => ?_)
                      refine wpAnyH_take (i := 0) (oi := _) (v := ?_) (op_atC rfl) (by kernel_rfl) (by kernel_rfl) (by kernel_rfl) (fun _ _ _ h => h) (Or.inl ⟨by rfl, ?_⟩) hHeld ?_
                      rotate_left 1
                      focus (intro W hSw; (try dsimp only at hSw); go_simp; (try (with_reducible rfl)))
                      (try simp only [Act.put, List.setIfInBounds_toArray, List.set_cons_zero, List.set_cons_succ])
                      refine wpAnyH_take (i := 1) (oi := _) (v := ?_) (op_atC rfl) (by kernel_rfl) (by kernel_rfl) (by kernel_rfl) (fun _ _ _ h => h) (Or.inl ⟨by rfl, ?_⟩) hHeld ?_
                      rotate_left 1
                      focus (intro W hSw; (try dsimp only at hSw); go_simp; (try (with_reducible rfl)))
                      (try simp only [Act.put, List.setIfInBounds_toArray, List.set_cons_zero, List.set_cons_succ])
                      refine wpAnyH_take (i := 2) (oi := _) (v := ?_) (op_atC rfl) (by kernel_rfl) (by kernel_rfl) (by kernel_rfl) (fun _ _ _ h => h) (Or.inl ⟨by rfl, ?_⟩) hHeld ?_
                      rotate_left 1
                      focus (intro W hSw; (try dsimp only at hSw); go_simp; (try (with_reducible rfl)))
                      (try simp only [Act.put, List.setIfInBounds_toArray, List.set_cons_zero, List.set_cons_succ])
                      refine wpAnyH_take (i := 3) (oi := _) (v := ?_) (op_atC rfl) (by kernel_rfl) (by kernel_rfl) (by kernel_rfl) (fun _ _ _ h => h) (Or.inl ⟨by rfl, ?_⟩) hHeld ?_
                      rotate_left 1
                      focus (intro W hSw; (try dsimp only at hSw); go_simp; (try (with_reducible rfl)))
                      (try simp only [Act.put, List.setIfInBounds_toArray, List.set_cons_zero, List.set_cons_succ])
                      refine wpAnyH_take (i := 4) (oi := _) (v := ?_) (op_atC rfl) (by kernel_rfl) (by kernel_rfl) (by kernel_rfl) (fun _ _ _ h => h) (Or.inl ⟨by rfl, ?_⟩) hHeld ?_
                      rotate_left 1
                      focus (intro W hSw; (try dsimp only at hSw); go_simp; (try (with_reducible rfl)))
                      (try simp only [Act.put, List.setIfInBounds_toArray, List.set_cons_zero, List.set_cons_succ])
                      refine wpAnyH_take (i := 5) (oi := _) (v := ?_) (op_atC rfl) (by kernel_rfl) (by kernel_rfl) (by kernel_rfl) (fun _ _ _ h => h) (Or.inl ⟨by rfl, ?_⟩) hHeld ?_
                      rotate_left 1
                      focus (intro W hSw; (try dsimp only at hSw); go_simp; (try (with_reducible rfl)))
                      (try simp only [Act.put, List.setIfInBounds_toArray, List.set_cons_zero, List.set_cons_succ])
                      refine wpAnyH_take (i := 6) (oi := _) (v := ?_) (op_atC rfl) (by kernel_rfl) (by kernel_rfl) (by kernel_rfl) (fun _ _ _ h => h) (Or.inl ⟨by rfl, ?_⟩) hHeld ?_
                      rotate_left 1
                      focus (intro W hSw; (try dsimp only at hSw); go_simp; (try (with_reducible rfl)))
                      (try simp only [Act.put, List.setIfInBounds_toArray, List.set_cons_zero, List.set_cons_succ])
                      refine wpAnyH_take (i := 7) (oi := _) (v := ?_) (op_atC rfl) (by kernel_rfl) (by kernel_rfl) (by kernel_rfl) (fun _ _ _ h => h) (Or.inl ⟨by rfl, ?_⟩) hHeld ?_
                      rotate_left 1
                      focus (intro W hSw; (try dsimp only at hSw); go_simp; (try (with_reducible rfl)))
                      (try simp only [Act.put, List.setIfInBounds_toArray, List.set_cons_zero, List.set_cons_succ])
                      refine wpAnyH_take (i := 8) (oi := _) (v := ?_) (op_atC rfl) (by kernel_rfl) (by kernel_rfl) (by kernel_rfl) (fun _ _ _ h => h) (Or.inl ⟨by rfl, ?_⟩) hHeld ?_
                      rotate_left 1
                      focus (intro W hSw; (try dsimp only at hSw); go_simp; (try (with_reducible rfl)))
                      (try simp only [Act.put, List.setIfInBounds_toArray, List.set_cons_zero, List.set_cons_succ])
                      refine wpAnyH_ready (rs := [9]) (by kernel_rfl) (by simp) ?_
                      refine AllReadyH.cons (o := _) (op_atC rfl) (fun Kc hKc => ?_) AllReadyH.nil
                      go_simp
                      refine hKc.out _ _ ?_ (fun hHeld' => ?_)
                      focus exact ⟨(World.cell?_setCell_far _ _ _ _ (show w.heap.size ≠ b by omega)).trans ((World.cell?_setCell_far _ _ _ _ (show w.heap.size ≠ b by omega)).trans hHeld.1), (World.cell?_setCell_far _ _ _ _ (show w.heap.size ≠ b by omega)).trans ((World.cell?_setCell_far _ _ _ _ (show w.heap.size ≠ b by omega)).trans hHeld.2)⟩
                      clear hHeld
                      have hHeld := hHeld'
                      clear hHeld' hKc Kc
                      (try simp only [Act.put, List.setIfInBounds_toArray, List.set_cons_zero, List.set_cons_succ])
                      refine wpAnyH_take (i := 10) (oi := _) (v := ?_) (op_atC rfl) (by kernel_rfl) (by kernel_rfl) (by kernel_rfl) (fun _ _ _ h => h) (Or.inl ⟨by rfl, ?_⟩) hHeld ?_
                      rotate_left 1
                      focus (intro W hSw; (try dsimp only at hSw); go_simp; (try (with_reducible rfl)))
                      (try simp only [Act.put, List.setIfInBounds_toArray, List.set_cons_zero, List.set_cons_succ])
                      refine wpAnyH_take (i := 11) (oi := _) (v := ?_) (op_atC rfl) (by kernel_rfl) (by kernel_rfl) (by kernel_rfl) (fun _ _ _ h => h) (Or.inl ⟨by rfl, ?_⟩) hHeld ?_
                      rotate_left 1
                      focus (intro W hSw; (try dsimp only at hSw); go_simp; (try (with_reducible rfl)))
                      (try simp only [Act.put, List.setIfInBounds_toArray, List.set_cons_zero, List.set_cons_succ])
                      refine wpAnyH_done (by kernel_rfl) ?_ _
                      clear hHeld
                      go_wp2
                      generalize World.drew (World.setCell (World.setCell _ _ _) _ _) = W9 at *
                      have z0 := HZ.out.val 0 rfl
                      have z1 := HZ.out.val 1 rfl
                      refine bodyPost_ret (v := .tuple #[.agg #[.slice none 0 0, .slice none 0 0], .int .i64 x.2, .int .i64 x.1]) (by simp [results, Try.results7, go_sem, z0, z1]) rfl ?_
                      unfold DecPost
                      rw [HX.out]
                      exact ⟨⟨HNE.out, rfl⟩, HE.out⟩
                    | ok q =>
                      have HOK := HF.out.ok
                      have HX := Lib.hid (dec_of_ok hl HOK)
                      obtain ⟨c2, cc1, hq6⟩ := hSz.okC
                      by_cases hq : q < bs.length
                      · have hq' : (q : Int) < (bs.length : Int) := by omega
                        replace HX : Hid (decD bs = .error (11, (q : Int))) := HX.out.trans (if_pos hq)
                        have HS4 := Lib.hid hSz
                        clear hSz KP HF CL UL HOK
                        go_wp2_with fail
                        refine (HS4.out.rfailed (q : Int) 11 (by decide)).mono ?_
                        rintro e' wz2 ⟨⟨u5, rfl⟩, hS5, hT5z⟩
                        have hSz : RdS 59 wz2 B b bs (.error (11, (q : Int))) := hS5
                        have Kz := Kz.touch hT5z (by omega)
                        have HBz := HBz.trans (hT5z.below (B := w.heap.size) (by omega) (fun k hk => by omega))
                        clear HS4 c2 cc1 hT5z hS5
                        generalize wz2 = wz at *
                        obtain ⟨pq, _, hA5⟩ := (show ∃ pq : Nat, pq ≤ bs.length ∧ RdAt 59 wz B (b) bs (pq : Int) (11 : Int) (q : Int) from hSz.2)
                        obtain ⟨v5, kA, _⟩ := hA5.ex
                        have HNE : Hid ((11 : Int) ≠ (0 : Int)) := hSz.1
                        have ne5 : ((11 : Int) != (0 : Int)) = true := bne_iff_ne.2 hSz.1
                        have d2 := kA.val 2 rfl
                        have d3 := kA.val 3 rfl
                        have r0 := Kz.val 0 rfl
                        have r1 := Kz.val 1 rfl
                        have f0 := Kz.frozen 0
                        have f1 := Kz.frozen 1
                        have hT6 := ((Touch.refl (fun y => w.heap.size ≤ y) wz).setCell (p := ⟨w.heap.size, 0, none⟩) (Nat.le_refl _) (.slice none 0 0)).setCell (p := ⟨w.heap.size, 1, none⟩) (Nat.le_refl _) (.slice none 0 0)
                        have HE := Lib.hid (HBz.trans (hT6.below HBz.size (fun k hk => hk))).drew
                        have HZ := Lib.hid ((Kz.set 0 (.slice none 0 0)).set 1 (.slice none 0 0)).drew
                        have HSq : Hid (wz.drew.cell? ⟨b, 2, none⟩ = some (.int .i64 (11 : Int)) ∧ wz.drew.cell? ⟨b, 3, none⟩ = some (.int .i64 (q : Int))) := ⟨d2, d3⟩
                        clear hSz hA5 kA Kz HBz hT6
                        go_upto_region 42 with fail
                        refine wp_region_held_drew (S := (fun W' => W'.cell? ⟨b, 2, none⟩ = some (.int .i64 (11 : Int)) ∧ W'.cell? ⟨b, 3, none⟩ = some (.int .i64 (q : Int)))) (by kernel_rfl) HSq.out (fun hHeld => ?_)
                        refine wpAnyH_take (i := 0) (oi := _) (v := ?_) (op_atC rfl) (by kernel_rfl) (by kernel_rfl) (by kernel_rfl) (fun _ _ _ h => h) (Or.inl ⟨by rfl, ?_⟩) hHeld ?_
                        rotate_left 1
                        focus (intro W hSw; (try dsimp only at hSw); go_simp; (try (with_reducible rfl)))
                        (try simp only [Act.put, List.setIfInBounds_toArray, List.set_cons_zero, List.set_cons_succ])
                        refine wpAnyH_take (i := 1) (oi := _) (v := ?_) (op_atC rfl) (by kernel_rfl) (by kernel_rfl) (by kernel_rfl) (fun _ _ _ h => h) (Or.inl ⟨by rfl, ?_⟩) hHeld ?_
                        rotate_left 1
                        focus (intro W hSw; (try dsimp only at hSw); go_simp; (try (with_reducible rfl)))
                        (try simp only [Act.put, List.setIfInBounds_toArray, List.set_cons_zero, List.set_cons_succ])
                        refine wpAnyH_take (i := 2) (oi := _) (v := ?_) (op_atC rfl) (by kernel_rfl) (by kernel_rfl) (by kernel_rfl) (fun _ _ _ h => h) (Or.inl ⟨by rfl, ?_⟩) hHeld ?_
                        rotate_left 1
                        focus (intro W hSw; (try dsimp only at hSw); go_simp; (try (with_reducible rfl)))
                        (try simp only [Act.put, List.setIfInBounds_toArray, List.set_cons_zero, List.set_cons_succ])
                        refine wpAnyH_take (i := 3) (oi := _) (v := ?_) (op_atC rfl) (by kernel_rfl) (by kernel_rfl) (by kernel_rfl) (fun _ _ _ h => h) (Or.inl ⟨by rfl, ?_⟩) hHeld ?_
                        rotate_left 1
                        focus (intro W hSw; (try dsimp only at hSw); go_simp; (try (with_reducible rfl)))
                        (try simp only [Act.put, List.setIfInBounds_toArray, List.set_cons_zero, List.set_cons_succ])
                        refine wpAnyH_take (i := 4) (oi := _) (v := ?_) (op_atC rfl) (by kernel_rfl) (by kernel_rfl) (by kernel_rfl) (fun _ _ _ h => h) (Or.inl ⟨by rfl, ?_⟩) hHeld ?_
                        rotate_left 1
                        focus (intro W hSw; (try dsimp only at hSw); go_simp; (try (with_reducible rfl)))
                        (try simp only [Act.put, List.setIfInBounds_toArray, List.set_cons_zero, List.set_cons_succ])
                        refine wpAnyH_take (i := 5) (oi := _) (v := ?_) (op_atC rfl) (by kernel_rfl) (by kernel_rfl) (by kernel_rfl) (fun _ _ _ h => h) (Or.inl ⟨by rfl, ?_⟩) hHeld ?_
                        rotate_left 1
                        focus (intro W hSw; (try dsimp only at hSw); go_simp; (try (with_reducible rfl)))
                        (try simp only [Act.put, List.setIfInBounds_toArray, List.set_cons_zero, List.set_cons_succ])
                        refine wpAnyH_take (i := 6) (oi := _) (v := ?_) (op_atC rfl) (by kernel_rfl) (by kernel_rfl) (by kernel_rfl) (fun _ _ _ h => h) (Or.inl ⟨by rfl, ?_⟩) hHeld ?_
                        rotate_left 1
                        focus (intro W hSw; (try dsimp only at hSw); go_simp; (try (with_reducible rfl)))
                        (try simp only [Act.put, List.setIfInBounds_toArray, List.set_cons_zero, List.set_cons_succ])
                        refine wpAnyH_take (i := 7) (oi := _) (v := ?_) (op_atC rfl) (by kernel_rfl) (by kernel_rfl) (by kernel_rfl) (fun _ _ _ h => h) (Or.inl ⟨by rfl, ?_⟩) hHeld ?_
                        rotate_left 1
                        focus (intro W hSw; (try dsimp only at hSw); go_simp; (try (with_reducible rfl)))
                        (try simp only [Act.put, List.setIfInBounds_toArray, List.set_cons_zero, List.set_cons_succ])
                        refine wpAnyH_take (i := 8) (oi := _) (v := ?_) (op_atC rfl) (by kernel_rfl) (by kernel_rfl) (by kernel_rfl) (fun _ _ _ h => h) (Or.inl ⟨by rfl, ?_⟩) hHeld ?_
                        rotate_left 1
                        focus (intro W hSw; (try dsimp only at hSw); go_simp; (try (with_reducible rfl)))
                        (try simp only [Act.put, List.setIfInBounds_toArray, List.set_cons_zero, List.set_cons_succ])
                        refine wpAnyH_ready (rs := [9]) (by kernel_rfl) (by simp) ?_
                        refine AllReadyH.cons (o := _) (op_atC rfl) (fun Kc hKc => ?_) AllReadyH.nil
                        go_simp
                        refine hKc.out _ _ ?_ (fun hHeld' => ?_)
                        focus exact ⟨(World.cell?_setCell_far _ _ _ _ (show w.heap.size ≠ b by omega)).trans ((World.cell?_setCell_far _ _ _ _ (show w.heap.size ≠ b by omega)).trans hHeld.1), (World.cell?_setCell_far _ _ _ _ (show w.heap.size ≠ b by omega)).trans ((World.cell?_setCell_far _ _ _ _ (show w.heap.size ≠ b by omega)).trans hHeld.2)⟩
                        clear hHeld
                        have hHeld := hHeld'
                        clear hHeld' hKc Kc
                        (try simp only [Act.put, List.setIfInBounds_toArray, List.set_cons_zero, List.set_cons_succ])
                        refine wpAnyH_take (i := 10) (oi := _) (v := ?_) (op_atC rfl) (by kernel_rfl) (by kernel_rfl) (by kernel_rfl) (fun _ _ _ h => h) (Or.inl ⟨by rfl, ?_⟩) hHeld ?_
                        rotate_left 1
                        focus (intro W hSw; (try dsimp only at hSw); go_simp; (try (with_reducible rfl)))
                        (try simp only [Act.put, List.setIfInBounds_toArray, List.set_cons_zero, List.set_cons_succ])
                        refine wpAnyH_take (i := 11) (oi := _) (v := ?_) (op_atC rfl) (by kernel_rfl) (by kernel_rfl) (by kernel_rfl) (fun _ _ _ h => h) (Or.inl ⟨by rfl, ?_⟩) hHeld ?_
                        rotate_left 1
                        focus (intro W hSw; (try dsimp only at hSw); go_simp; (try (with_reducible rfl)))
                        (try simp only [Act.put, List.setIfInBounds_toArray, List.set_cons_zero, List.set_cons_succ])
                        refine wpAnyH_done (by kernel_rfl) ?_ _
                        clear hHeld
                        go_wp2
                        generalize World.drew (World.setCell (World.setCell _ _ _) _ _) = W9 at *
                        have z0 := HZ.out.val 0 rfl
                        have z1 := HZ.out.val 1 rfl
                        refine bodyPost_ret (v := .tuple #[.agg #[.slice none 0 0, .slice none 0 0], .int .i64 (q : Int), .int .i64 (11 : Int)]) (by simp [results, Try.results7, go_sem, z0, z1]) rfl ?_
                        unfold DecPost
                        rw [HX.out]
                        exact ⟨⟨HNE.out, rfl⟩, HE.out⟩
                      · have hq' : ¬ (q : Int) < (bs.length : Int) := by omega
                        replace HX : Hid (decD bs = .ok (PrgD.mk (lc.map fun x => x.1) (lf.map fun x => x.1))) := HX.out.trans (if_neg hq)
                        have y0 := KP.val 0 rfl
                        have y1 := KP.val 1 rfl
                        have r0 := Kz.val 0 rfl
                        have r1 := Kz.val 1 rfl
                        have f0 := Kz.frozen 0
                        have f1 := Kz.frozen 1
                        have hT6 := ((Touch.refl (fun y => y = w.heap.size) wz).setCell (p := ⟨w.heap.size, 0, none⟩) rfl (.slice a0 lc.length c0)).setCell (p := ⟨w.heap.size, 1, none⟩) rfl (.slice au lf.length cu)
                        have HZ := Lib.hid ((Kz.set 0 (.slice a0 lc.length c0)).set 1 (.slice au lf.length cu))
                        have HB6 := Lib.hid (HBz.trans (hT6.below (B := w.heap.size) (by omega) (fun k hk => by omega)))
                        have HP := Lib.hid (prg_own (p := ⟨lc.map fun x => x.1, lf.map fun x => x.1⟩) (CL.1.touch hT6 (fun g h1 _ e => by omega)) (UL.1.touch hT6 (fun g h1 _ e => by omega)) rfl rfl (decI_ok HOK).1)
                        clear hSz KP HF CL UL HOK hT6 Kz HBz
                        go_wp2
                        generalize World.setCell (World.setCell _ _ _) _ _ = W9 at *
                        have z0 := HZ.out.val 0 rfl
                        have z1 := HZ.out.val 1 rfl
                        refine bodyPost_ret (v := .tuple #[.agg #[.slice a0 lc.length c0, .slice au lf.length cu], .int .i64 0, .int .i64 0]) (by simp [results, Try.results7, go_sem, z0, z1]) rfl ?_
                        unfold DecPost
                        rw [HX.out]
                        exact ⟨⟨_, _, rfl, HP.out⟩, HB6.out⟩
                  · have hlt4' : ¬ (k : Int) < (n2 : Int) := by omega
                    go_upto_region 39 with fail
                    clear hlt4 hlt4' hgo4
                    generalize wr = wz at *
                    cases s4 with
                    | error x =>
                      have HX := Lib.hid (dec_of_err hl HF.out.err)
                      obtain ⟨c2, c2a, c2b, _⟩ := hSz.errC
                      clear HF CL UL KP
                      obtain ⟨pq, _, hA5⟩ := (show ∃ pq : Nat, pq ≤ bs.length ∧ RdAt 59 wz B (b) bs (pq : Int) x.1 x.2 from hSz.2)
                      obtain ⟨v5, kA, _⟩ := hA5.ex
                      have HNE : Hid (x.1 ≠ (0 : Int)) := hSz.1
                      have ne5 : (x.1 != (0 : Int)) = true := bne_iff_ne.2 hSz.1
                      have d2 := kA.val 2 rfl
                      have d3 := kA.val 3 rfl
                      have r0 := Kz.val 0 rfl
                      have r1 := Kz.val 1 rfl
                      have f0 := Kz.frozen 0
                      have f1 := Kz.frozen 1
                      have hT6 := ((Touch.refl (fun y => w.heap.size ≤ y) wz).setCell (p := ⟨w.heap.size, 0, none⟩) (Nat.le_refl _) (.slice none 0 0)).setCell (p := ⟨w.heap.size, 1, none⟩) (Nat.le_refl _) (.slice none 0 0)
                      have HE := Lib.hid (HBz.trans (hT6.below HBz.size (fun k hk => hk))).drew
                      have HZ := Lib.hid ((Kz.set 0 (.slice none 0 0)).set 1 (.slice none 0 0)).drew
                      have HSq : Hid (wz.drew.cell? ⟨b, 2, none⟩ = some (.int .i64 x.1) ∧ wz.drew.cell? ⟨b, 3, none⟩ = some (.int .i64 x.2)) := ⟨d2, d3⟩
                      clear hSz hA5 kA Kz HBz hT6
                      go_upto_region 42 with fail
                      refine wp_region_held_drew (S := (fun W' => W'.cell? ⟨b, 2, none⟩ = some (.int .i64 x.1) ∧ W'.cell? ⟨b, 3, none⟩ = some (.int .i64 x.2))) (by kernel_rfl) HSq.out (fun hHeld => ?_)
                      refine wpAnyH_take (i := 0) (oi := _) (v := ?_) (op_atC rfl) (by kernel_rfl) (by kernel_rfl) (by kernel_rfl) (fun _ _ _ h => h) (Or.inl ⟨by rfl, ?_⟩) hHeld ?_
                      rotate_left 1
                      focus (intro W hSw; (try dsimp only at hSw); go_simp; (try (with_reducible rfl)))
                      (try simp only [Act.put, List.setIfInBounds_toArray, List.set_cons_zero, List.set_cons_succ])
                      refine wpAnyH_take (i := 1) (oi := _) (v := ?_) (op_atC rfl) (by kernel_rfl) (by kernel_rfl) (by kernel_rfl) (fun _ _ _ h => h) (Or.inl ⟨by rfl, ?_⟩) hHeld ?_
                      rotate_left 1
                      focus (intro W hSw; (try dsimp only at hSw); go_simp; (try (with_reducible rfl)))
                      (try simp only [Act.put, List.setIfInBounds_toArray, List.set_cons_zero, List.set_cons_succ])
                      refine wpAnyH_take (i := 2) (oi := _) (v := ?_) (op_atC rfl) (by kernel_rfl) (by kernel_rfl) (by kernel_rfl) (fun _ _ _ h => h) (Or.inl ⟨by rfl, ?_⟩) hHeld ?_
                      rotate_left 1
                      focus (intro W hSw; (try dsimp only at hSw); go_simp; (try (with_reducible rfl)))
                      (try simp only [Act.put, List.setIfInBounds_toArray, List.set_cons_zero, List.set_cons_succ])
                      refine wpAnyH_take (i := 3) (oi := _) (v := ?_) (op_atC rfl) (by kernel_rfl) (by kernel_rfl) (by kernel_rfl) (fun _ _ _ h => h) (Or.inl ⟨by rfl, ?_⟩) hHeld ?_
                      rotate_left 1
                      focus (intro W hSw; (try dsimp only at hSw); go_simp; (try (with_reducible rfl)))
                      (try simp only [Act.put, List.setIfInBounds_toArray, List.set_cons_zero, List.set_cons_succ])
                      refine wpAnyH_take (i := 4) (oi := _) (v := ?_) (op_atC rfl) (by kernel_rfl) (by kernel_rfl) (by kernel_rfl) (fun _ _ _ h => h) (Or.inl ⟨by rfl, ?_⟩) hHeld ?_
                      rotate_left 1
                      focus (intro W hSw; (try dsimp only at hSw); go_simp; (try (with_reducible rfl)))
                      (try simp only [Act.put, List.setIfInBounds_toArray, List.set_cons_zero, List.set_cons_succ])
                      refine wpAnyH_take (i := 5) (oi := _) (v := ?_) (op_atC rfl) (by kernel_rfl) (by kernel_rfl) (by kernel_rfl) (fun _ _ _ h => h) (Or.inl ⟨by rfl, ?_⟩) hHeld ?_
                      rotate_left 1
                      focus (intro W hSw; (try dsimp only at hSw); go_simp; (try (with_reducible rfl)))
                      (try simp only [Act.put, List.setIfInBounds_toArray, List.set_cons_zero, List.set_cons_succ])
                      refine wpAnyH_take (i := 6) (oi := _) (v := ?_) (op_atC rfl) (by kernel_rfl) (by kernel_rfl) (by kernel_rfl) (fun _ _ _ h => h) (Or.inl ⟨by rfl, ?_⟩) hHeld ?_
                      rotate_left 1
                      focus (intro W hSw; (try dsimp only at hSw); go_simp; (try (with_reducible rfl)))
                      (try simp only [Act.put, List.setIfInBounds_toArray, List.set_cons_zero, List.set_cons_succ])
                      refine wpAnyH_take (i := 7) (oi := _) (v := ?_) (op_atC rfl) (by kernel_rfl) (by kernel_rfl) (by kernel_rfl) (fun _ _ _ h => h) (Or.inl ⟨by rfl, ?_⟩) hHeld ?_
                      rotate_left 1
                      focus (intro W hSw; (try dsimp only at hSw); go_simp; (try (with_reducible rfl)))
                      (try simp only [Act.put, List.setIfInBounds_toArray, List.set_cons_zero, List.set_cons_succ])
                      refine wpAnyH_take (i := 8) (oi := _) (v := ?_) (op_atC rfl) (by kernel_rfl) (by kernel_rfl) (by kernel_rfl) (fun _ _ _ h => h) (Or.inl ⟨by rfl, ?_⟩) hHeld ?_
                      rotate_left 1
                      focus (intro W hSw; (try dsimp only at hSw); go_simp; (try (with_reducible rfl)))
                      (try simp only [Act.put, List.setIfInBounds_toArray, List.set_cons_zero, List.set_cons_succ])
                      refine wpAnyH_ready (rs := [9]) (by kernel_rfl) (by simp) ?_
                      refine AllReadyH.cons (o := _) (op_atC rfl) (fun Kc hKc => ?_) AllReadyH.nil
                      go_simp
                      refine hKc.out _ _ ?_ (fun hHeld' => ?_)
                      focus exact ⟨(World.cell?_setCell_far _ _ _ _ (show w.heap.size ≠ b by omega)).trans ((World.cell?_setCell_far _ _ _ _ (show w.heap.size ≠ b by omega)).trans hHeld.1), (World.cell?_setCell_far _ _ _ _ (show w.heap.size ≠ b by omega)).trans ((World.cell?_setCell_far _ _ _ _ (show w.heap.size ≠ b by omega)).trans hHeld.2)⟩
                      clear hHeld
                      have hHeld := hHeld'
                      clear hHeld' hKc Kc
                      (try simp only [Act.put, List.setIfInBounds_toArray, List.set_cons_zero, List.set_cons_succ])
                      refine wpAnyH_take (i := 10) (oi := _) (v := ?_) (op_atC rfl) (by kernel_rfl) (by kernel_rfl) (by kernel_rfl) (fun _ _ _ h => h) (Or.inl ⟨by rfl, ?_⟩) hHeld ?_
                      rotate_left 1
                      focus (intro W hSw; (try dsimp only at hSw); go_simp; (try (with_reducible rfl)))
                      (try simp only [Act.put, List.setIfInBounds_toArray, List.set_cons_zero, List.set_cons_succ])
                      refine wpAnyH_take (i := 11) (oi := _) (v := ?_) (op_atC rfl) (by kernel_rfl) (by kernel_rfl) (by kernel_rfl) (fun _ _ _ h => h) (Or.inl ⟨by rfl, ?_⟩) hHeld ?_
                      rotate_left 1
                      focus (intro W hSw; (try dsimp only at hSw); go_simp; (try (with_reducible rfl)))
                      (try simp only [Act.put, List.setIfInBounds_toArray, List.set_cons_zero, List.set_cons_succ])
                      refine wpAnyH_done (by kernel_rfl) ?_ _
                      clear hHeld
                      go_wp2
                      generalize World.drew (World.setCell (World.setCell _ _ _) _ _) = W9 at *
                      have z0 := HZ.out.val 0 rfl
                      have z1 := HZ.out.val 1 rfl
                      refine bodyPost_ret (v := .tuple #[.agg #[.slice none 0 0, .slice none 0 0], .int .i64 x.2, .int .i64 x.1]) (by simp [results, Try.results7, go_sem, z0, z1]) rfl ?_
                      unfold DecPost
                      rw [HX.out]
                      exact ⟨⟨HNE.out, rfl⟩, HE.out⟩
                    | ok q =>
                      have HOK := HF.out.ok
                      have HX := Lib.hid (dec_of_ok hl HOK)
                      obtain ⟨c2, cc1, hq6⟩ := hSz.okC
                      by_cases hq : q < bs.length
                      · have hq' : (q : Int) < (bs.length : Int) := by omega
                        replace HX : Hid (decD bs = .error (11, (q : Int))) := HX.out.trans (if_pos hq)
                        have HS4 := Lib.hid hSz
                        clear hSz KP HF CL UL HOK
                        go_wp2_with fail
                        refine (HS4.out.rfailed (q : Int) 11 (by decide)).mono ?_
                        rintro e' wz2 ⟨⟨u5, rfl⟩, hS5, hT5z⟩
                        have hSz : RdS 59 wz2 B b bs (.error (11, (q : Int))) := hS5
                        have Kz := Kz.touch hT5z (by omega)
                        have HBz := HBz.trans (hT5z.below (B := w.heap.size) (by omega) (fun k hk => by omega))
                        clear HS4 c2 cc1 hT5z hS5
                        generalize wz2 = wz at *
                        obtain ⟨pq, _, hA5⟩ := (show ∃ pq : Nat, pq ≤ bs.length ∧ RdAt 59 wz B (b) bs (pq : Int) (11 : Int) (q : Int) from hSz.2)
                        obtain ⟨v5, kA, _⟩ := hA5.ex
                        have HNE : Hid ((11 : Int) ≠ (0 : Int)) := hSz.1
                        have ne5 : ((11 : Int) != (0 : Int)) = true := bne_iff_ne.2 hSz.1
                        have d2 := kA.val 2 rfl
                        have d3 := kA.val 3 rfl
                        have r0 := Kz.val 0 rfl
                        have r1 := Kz.val 1 rfl
                        have f0 := Kz.frozen 0
                        have f1 := Kz.frozen 1
                        have hT6 := ((Touch.refl (fun y => w.heap.size ≤ y) wz).setCell (p := ⟨w.heap.size, 0, none⟩) (Nat.le_refl _) (.slice none 0 0)).setCell (p := ⟨w.heap.size, 1, none⟩) (Nat.le_refl _) (.slice none 0 0)
                        have HE := Lib.hid (HBz.trans (hT6.below HBz.size (fun k hk => hk))).drew
                        have HZ := Lib.hid ((Kz.set 0 (.slice none 0 0)).set 1 (.slice none 0 0)).drew
                        have HSq : Hid (wz.drew.cell? ⟨b, 2, none⟩ = some (.int .i64 (11 : Int)) ∧ wz.drew.cell? ⟨b, 3, none⟩ = some (.int .i64 (q : Int))) := ⟨d2, d3⟩
                        clear hSz hA5 kA Kz HBz hT6
                        go_upto_region 42 with fail
                        refine wp_region_held_drew (S := (fun W' => W'.cell? ⟨b, 2, none⟩ = some (.int .i64 (11 : Int)) ∧ W'.cell? ⟨b, 3, none⟩ = some (.int .i64 (q : Int)))) (by kernel_rfl) HSq.out (fun hHeld => ?_)
                        refine wpAnyH_take (i := 0) (oi := _) (v := ?_) (op_atC rfl) (by kernel_rfl) (by kernel_rfl) (by kernel_rfl) (fun _ _ _ h => h) (Or.inl ⟨by rfl, ?_⟩) hHeld ?_
                        rotate_left 1
                        focus (intro W hSw; (try dsimp only at hSw); go_simp; (try (with_reducible rfl)))
                        (try simp only [Act.put, List.setIfInBounds_toArray, List.set_cons_zero, List.set_cons_succ])
                        refine wpAnyH_take (i := 1) (oi := _) (v := ?_) (op_atC rfl) (by kernel_rfl) (by kernel_rfl) (by kernel_rfl) (fun _ _ _ h => h) (Or.inl ⟨by rfl, ?_⟩) hHeld ?_
                        rotate_left 1
                        focus (intro W hSw; (try dsimp only at hSw); go_simp; (try (with_reducible rfl)))
                        (try simp only [Act.put, List.setIfInBounds_toArray, List.set_cons_zero, List.set_cons_succ])
                        refine wpAnyH_take (i := 2) (oi := _) (v := ?_) (op_atC rfl) (by kernel_rfl) (by kernel_rfl) (by kernel_rfl) (fun _ _ _ h => h) (Or.inl ⟨by rfl, ?_⟩) hHeld ?_
                        rotate_left 1
                        focus (intro W hSw; (try dsimp only at hSw); go_simp; (try (with_reducible rfl)))
                        (try simp only [Act.put, List.setIfInBounds_toArray, List.set_cons_zero, List.set_cons_succ])
                        refine wpAnyH_take (i := 3) (oi := _) (v := ?_) (op_atC rfl) (by kernel_rfl) (by kernel_rfl) (by kernel_rfl) (fun _ _ _ h => h) (Or.inl ⟨by rfl, ?_⟩) hHeld ?_
                        rotate_left 1
                        focus (intro W hSw; (try dsimp only at hSw); go_simp; (try (with_reducible rfl)))
                        (try simp only [Act.put, List.setIfInBounds_toArray, List.set_cons_zero, List.set_cons_succ])
                        refine wpAnyH_take (i := 4) (oi := _) (v := ?_) (op_atC rfl) (by kernel_rfl) (by kernel_rfl) (by kernel_rfl) (fun _ _ _ h => h) (Or.inl ⟨by rfl, ?_⟩) hHeld ?_
                        rotate_left 1
                        focus (intro W hSw; (try dsimp only at hSw); go_simp; (try (with_reducible rfl)))
                        (try simp only [Act.put, List.setIfInBounds_toArray, List.set_cons_zero, List.set_cons_succ])
                        refine wpAnyH_take (i := 5) (oi := _) (v := ?_) (op_atC rfl) (by kernel_rfl) (by kernel_rfl) (by kernel_rfl) (fun _ _ _ h => h) (Or.inl ⟨by rfl, ?_⟩) hHeld ?_
                        rotate_left 1
                        focus (intro W hSw; (try dsimp only at hSw); go_simp; (try (with_reducible rfl)))
                        (try simp only [Act.put, List.setIfInBounds_toArray, List.set_cons_zero, List.set_cons_succ])
                        refine wpAnyH_take (i := 6) (oi := _) (v := ?_) (op_atC rfl) (by kernel_rfl) (by kernel_rfl) (by kernel_rfl) (fun _ _ _ h => h) (Or.inl ⟨by rfl, ?_⟩) hHeld ?_
                        rotate_left 1
                        focus (intro W hSw; (try dsimp only at hSw); go_simp; (try (with_reducible rfl)))
                        (try simp only [Act.put, List.setIfInBounds_toArray, List.set_cons_zero, List.set_cons_succ])
                        refine wpAnyH_take (i := 7) (oi := _) (v := ?_) (op_atC rfl) (by kernel_rfl) (by kernel_rfl) (by kernel_rfl) (fun _ _ _ h => h) (Or.inl ⟨by rfl, ?_⟩) hHeld ?_
                        rotate_left 1
                        focus (intro W hSw; (try dsimp only at hSw); go_simp; (try (with_reducible rfl)))
                        (try simp only [Act.put, List.setIfInBounds_toArray, List.set_cons_zero, List.set_cons_succ])
                        refine wpAnyH_take (i := 8) (oi := _) (v := ?_) (op_atC rfl) (by kernel_rfl) (by kernel_rfl) (by kernel_rfl) (fun _ _ _ h => h) (Or.inl ⟨by rfl, ?_⟩) hHeld ?_
                        rotate_left 1
                        focus (intro W hSw; (try dsimp only at hSw); go_simp; (try (with_reducible rfl)))
                        (try simp only [Act.put, List.setIfInBounds_toArray, List.set_cons_zero, List.set_cons_succ])
                        refine wpAnyH_ready (rs := [9]) (by kernel_rfl) (by simp) ?_
                        refine AllReadyH.cons (o := _) (op_atC rfl) (fun Kc hKc => ?_) AllReadyH.nil
                        go_simp
                        refine hKc.out _ _ ?_ (fun hHeld' => ?_)
                        focus exact ⟨(World.cell?_setCell_far _ _ _ _ (show w.heap.size ≠ b by omega)).trans ((World.cell?_setCell_far _ _ _ _ (show w.heap.size ≠ b by omega)).trans hHeld.1), (World.cell?_setCell_far _ _ _ _ (show w.heap.size ≠ b by omega)).trans ((World.cell?_setCell_far _ _ _ _ (show w.heap.size ≠ b by omega)).trans hHeld.2)⟩
                        clear hHeld
                        have hHeld := hHeld'
                        clear hHeld' hKc Kc
                        (try simp only [Act.put, List.setIfInBounds_toArray, List.set_cons_zero, List.set_cons_succ])
                        refine wpAnyH_take (i := 10) (oi := _) (v := ?_) (op_atC rfl) (by kernel_rfl) (by kernel_rfl) (by kernel_rfl) (fun _ _ _ h => h) (Or.inl ⟨by rfl, ?_⟩) hHeld ?_
                        rotate_left 1
                        focus (intro W hSw; (try dsimp only at hSw); go_simp; (try (with_reducible rfl)))
                        (try simp only [Act.put, List.setIfInBounds_toArray, List.set_cons_zero, List.set_cons_succ])
                        refine wpAnyH_take (i := 11) (oi := _) (v := ?_) (op_atC rfl) (by kernel_rfl) (by kernel_rfl) (by kernel_rfl) (fun _ _ _ h => h) (Or.inl ⟨by rfl, ?_⟩) hHeld ?_
                        rotate_left 1
                        focus (intro W hSw; (try dsimp only at hSw); go_simp; (try (with_reducible rfl)))
                        (try simp only [Act.put, List.setIfInBounds_toArray, List.set_cons_zero, List.set_cons_succ])
                        refine wpAnyH_done (by kernel_rfl) ?_ _
                        clear hHeld
                        go_wp2
                        generalize World.drew (World.setCell (World.setCell _ _ _) _ _) = W9 at *
                        have z0 := HZ.out.val 0 rfl
                        have z1 := HZ.out.val 1 rfl
                        refine bodyPost_ret (v := .tuple #[.agg #[.slice none 0 0, .slice none 0 0], .int .i64 (q : Int), .int .i64 (11 : Int)]) (by simp [results, Try.results7, go_sem, z0, z1]) rfl ?_
                        unfold DecPost
                        rw [HX.out]
                        exact ⟨⟨HNE.out, rfl⟩, HE.out⟩
                      · have hq' : ¬ (q : Int) < (bs.length : Int) := by omega
                        replace HX : Hid (decD bs = .ok (PrgD.mk (lc.map fun x => x.1) (lf.map fun x => x.1))) := HX.out.trans (if_neg hq)
                        have y0 := KP.val 0 rfl
                        have y1 := KP.val 1 rfl
                        have r0 := Kz.val 0 rfl
                        have r1 := Kz.val 1 rfl
                        have f0 := Kz.frozen 0
                        have f1 := Kz.frozen 1
                        have hT6 := ((Touch.refl (fun y => y = w.heap.size) wz).setCell (p := ⟨w.heap.size, 0, none⟩) rfl (.slice a0 lc.length c0)).setCell (p := ⟨w.heap.size, 1, none⟩) rfl (.slice au lf.length cu)
                        have HZ := Lib.hid ((Kz.set 0 (.slice a0 lc.length c0)).set 1 (.slice au lf.length cu))
                        have HB6 := Lib.hid (HBz.trans (hT6.below (B := w.heap.size) (by omega) (fun k hk => by omega)))
                        have HP := Lib.hid (prg_own (p := ⟨lc.map fun x => x.1, lf.map fun x => x.1⟩) (CL.1.touch hT6 (fun g h1 _ e => by omega)) (UL.1.touch hT6 (fun g h1 _ e => by omega)) rfl rfl (decI_ok HOK).1)
                        clear hSz KP HF CL UL HOK hT6 Kz HBz
                        go_wp2
                        generalize World.setCell (World.setCell _ _ _) _ _ = W9 at *
                        have z0 := HZ.out.val 0 rfl
                        have z1 := HZ.out.val 1 rfl
                        refine bodyPost_ret (v := .tuple #[.agg #[.slice a0 lc.length c0, .slice au lf.length cu], .int .i64 0, .int .i64 0]) (by simp [results, Try.results7, go_sem, z0, z1]) rfl ?_
                        unfold DecPost
                        rw [HX.out]
                        exact ⟨⟨_, _, rfl, HP.out⟩, HB6.out⟩
            · have hlt' : ¬ (k : Int) < (n : Int) := by omega
              go_upto_region 25 with fail
              clear hlt hlt' hgo
              generalize wr = wY at *
              have HC1 := Lib.hid (gets_list HG1.out hfin2)
              have N := Lib.hid (rnumber_any' 59 wY B b bs s2 16 hS2 (by decide))
              clear hfin2 hS2 HGk
              go_wp2_with fail
              refine N.out.mono ?_
              rintro e' w5 ⟨n2, sB, rfl, hGn, h0n, hSB, hTn⟩
              have hn2 := num_le hGn h0n
              have HGn := Lib.hid hGn
              have HSB := Lib.hid hSB
              have hsz5 := hTn.size
              have HT5 := Lib.hid (HT1.out.trans hTn.p)
              have HKp5 := Lib.hid (HKp.out.touch hTn (by omega))
              have HCl5 := Lib.hid (HCl.out.touch hTn (by omega))
              have HK5 := Lib.hid (K2.out.touch HT5.out (by omega))
              have HB5 := Lib.hid (HB3.out.trans (HT5.out.below (B := w.heap.size) (by omega) (fun k hk => by omega)))
              clear hGn h0n hSB hTn N HT1 HKp HCl K2 HB3 HT5
              go_wp2_with fail
              go_loopw [16] (fun x wr => ∃ (k : Nat) (lf : List (FunD × Value × Value × Value)) (u1 : Value) (s4 : St), x = .int .i64 k ∧ k ≤ n2 ∧ Hid (lf.length = k) ∧ Blk wr p #[.slice a0 lc.length c0, u1] 27 ∧ UOwnP wr w5.heap.size u1 lf ∧ Gets (after sB (seqD (funD bs) k)) (lf.map fun x => x.1) s4 ∧ RdS 59 wr B b bs s4 ∧ RdP b p w5 wr) (fun x _ => n2 - (intOf x).toNat)
              case atStart => exact ⟨0, [], _, sB, rfl, Nat.zero_le _, rfl, HKp5.out, UOwnP.nil _ _, gets_none _ _, HSB.out, Touch.refl _ _⟩
              case round =>
                obtain ⟨k, lf, u1, s4, rfl, hkn, hlf, hKp, hUl, hGk, hS4, hT4⟩ := hrel
                obtain ⟨au, cu, rfl⟩ := row_shape hUl.1.row
                have HGk4 := Lib.hid hGk
                have HT4 := Lib.hid hT4
                have HKp := Lib.hid hKp
                have HUl := Lib.hid hUl
                have hszr := hT4.size
                clear hGk hT4 hKp hUl
                by_cases hgo4 : k < n2 ∧ ∃ q, s4 = .ok q
                · clear HCl5 HK5 HB5 HC1 HGn HKp5 HSB
                  obtain ⟨hlt, q, rfl⟩ := hgo4
                  have hlt' : (k : Int) < (n2 : Int) := by omega
                  obtain ⟨c2, _⟩ := hS4.okC
                  have TX := Lib.hid (rtext_any' 59 wr B b bs _ hS4)
                  clear hS4
                  obtain ⟨W1, hWW⟩ : ∃ W, W = wr := ⟨_, rfl⟩
                  subst hWW
                  go_wp2_with fail
                  refine TX.out.mono ?_
                  rintro e' w6 ⟨l, s6, rfl, hGt, _, hS6, hT6⟩
                  have HGt := Lib.hid hGt
                  have hsz6 := hT6.size
                  have hb7 := (Below.refl w6.heap.size w6).alloc (Nat.le_refl _) (.cells #[.string (bytA l), .slice none 0 0, .int .i64 0, .slice none 0 0, .slice none 0 0] 45)
                  have HT7 := Lib.hid (hT6.trans (Touch.of hb7))
                  have HF7 := Lib.hid (Blk.new w6 #[.string (bytA l), .slice none 0 0, .int .i64 0, .slice none 0 0, .slice none 0 0] 45)
                  have KS := Lib.hid (rkinds_any 59 _ B b bs s6 6 (hS6.grew hb7) (by decide))
                  have hsz7 : (w6.alloc (.cells #[.string (bytA l), .slice none 0 0, .int .i64 0, .slice none 0 0, .slice none 0 0] 45)).heap.size = w6.heap.size + 1 := by simp
                  clear hGt hS6 hT6 hb7 TX c2
                  go_wp2_with fail
                  generalize w6.alloc (.cells #[.string (bytA l), .slice none 0 0, .int .i64 0, .slice none 0 0, .slice none 0 0] 45) = w7 at *
                  generalize w6.heap.size = kf at *
                  refine KS.out.mono ?_
                  rintro e' w8 ⟨v1, ps, s8, rfl, hGp, hps, hV1, hS8, hT8⟩
                  rw [map_id'] at hGp
                  unfold OwnR at hV1
                  have hsz8 := hT8.size
                  have HGp := Lib.hid hGp
                  have hF8 := HF7.out.touch hT8 (by omega)
                  have f1 := hF8.frozen 1
                  have g1 := hF8.val 1 rfl
                  have HF9 := Lib.hid (hF8.set 1 v1)
                  have hst := (Touch.refl (fun y => y = kf) w8).setCell (p := ⟨kf, 1, none⟩) rfl v1
                  have HV1 := Lib.hid (own_touch hV1 hst (fun g hg e => by have := (own_ltG hV1 hg).1; omega))
                  have hn9 := new_kept hS8 (show b < W1.heap.size by omega) (HT7.out.trans hT8) (hst.mono fun x _ e => by omega)
                  have HT9 := Lib.hid hn9.2
                  have KD := Lib.hid (rkindD_any 59 _ B b bs s8 hn9.1)
                  have hsz9 := hst.size
                  obtain ⟨av1, cv1, ev1⟩ := row_shape hV1
                  clear hGp hS8 hT8 hF8 hV1 hst hn9 KS HF7 HT7
                  subst ev1
                  go_wp2_with fail
                  clear f1 g1
                  generalize w8.setCell ⟨kf, 1, none⟩ _ = w9 at *
                  refine KD.out.mono ?_
                  rintro e' w10 ⟨rt, s10, rfl, hGr, _, hS10, hT10⟩
                  have hsz10 := hT10.size
                  have HGr := Lib.hid hGr
                  have hF10 := HF9.out.touch hT10 (by omega)
                  have f1 := hF10.frozen 2
                  have g1 := hF10.val 2 rfl
                  have HF11 := Lib.hid (hF10.set 2 (.int .i64 rt))
                  have hst := (Touch.refl (fun y => y = kf) w10).setCell (p := ⟨kf, 2, none⟩) rfl (.int .i64 rt)
                  have hV1 := own_lo HV1.out hT10 (by omega)
                  have HV1 := Lib.hid (own_touch hV1 hst (fun g hg e => by have := (own_ltG hV1 hg).1; omega))
                  have hn9 := new_kept hS10 (show b < W1.heap.size by omega) (HT9.out.trans hT10) (hst.mono fun x _ e => by omega)
                  have HT11 := Lib.hid hn9.2
                  have KS := Lib.hid (rkinds_any 59 _ B b bs s10 16 hn9.1 (by decide))
                  have hsz11 := hst.size
                  clear hGr hS10 hT10 hF10 hV1 hst hn9 KD HF9 HT9
                  go_wp2_with fail
                  clear f1 g1
                  generalize w10.setCell ⟨kf, 2, none⟩ _ = w11 at *
                  refine KS.out.mono ?_
                  rintro e' w12 ⟨v3, ls, s12, rfl, hGl, hls, hV3, hS12, hT12⟩
                  rw [map_id'] at hGl
                  unfold OwnR at hV3
                  have hsz12 := hT12.size
                  have HGl := Lib.hid hGl
                  have hF12 := HF11.out.touch hT12 (by omega)
                  have f1 := hF12.frozen 3
                  have g1 := hF12.val 3 rfl
                  have HF13 := Lib.hid (hF12.set 3 v3)
                  have hst := (Touch.refl (fun y => y = kf) w12).setCell (p := ⟨kf, 3, none⟩) rfl v3
                  have hV1 := own_lo HV1.out hT12 (by omega)
                  have HV1 := Lib.hid (own_touch hV1 hst (fun g hg e => by have := (own_ltG hV1 hg).1; omega))
                  have HV3 := Lib.hid (own_touch hV3 hst (fun g hg e => by have := (own_ltG hV3 hg).1; omega))
                  have hn9 := new_kept hS12 (show b < W1.heap.size by omega) (HT11.out.trans hT12) (hst.mono fun x _ e => by omega)
                  have HT13 := Lib.hid hn9.2
                  have N := Lib.hid (rnumber_any' 59 _ B b bs s12 256 hn9.1 (by decide))
                  have hsz13 := hst.size
                  obtain ⟨av3, cv3, ev3⟩ := row_shape hV3
                  clear hGl hS12 hT12 hF12 hV1 hV3 hst hn9 KS HF11 HT11
                  subst ev3
                  go_wp2_with fail
                  clear f1 g1
                  generalize w12.setCell ⟨kf, 3, none⟩ _ = w13 at *
                  refine N.out.mono ?_
                  rintro e' w14 ⟨m, s14, rfl, hGm, h0m, hS14, hT14⟩
                  have hm := num_le hGm h0m
                  have hsz14 := hT14.size
                  have HGm := Lib.hid hGm
                  have HF14 := Lib.hid (HF13.out.touch hT14 (by omega))
                  have HV1 := Lib.hid (own_lo HV1.out hT14 (by omega))
                  have HV3 := Lib.hid (own_lo HV3.out hT14 (by omega))
                  have HT14 := Lib.hid (HT13.out.trans hT14)
                  have HS14 := Lib.hid hS14
                  clear hGm h0m hS14 hT14 N HF13 HT13
                  go_wp2_with fail
                  go_loopw [19] (fun y W => ∃ (kk : Nat) (is : List InsD) (v4 : Value) (s9 : St), y = .int .i64 kk ∧ kk ≤ m ∧ Hid (is.length = kk) ∧ Blk W kf #[.string (bytA l), .slice av1 ps.length cv1, .int .i64 rt, .slice av3 ls.length cv3, v4] 45 ∧ W.ownsRow w14.heap.size 41 3 v4 is.length (is.flatMap insC) ∧ Gets (after s14 (seqD (insD bs) kk)) is s9 ∧ RdS 59 W B b bs s9 ∧ RdP b kf w14 W) (fun y _ => m - (intOf y).toNat)
                  case atStart => exact ⟨0, [], _, s14, rfl, Nat.zero_le _, rfl, HF14.out, ⟨by simp, .inl ⟨rfl, rfl⟩⟩, gets_none _ _, HS14.out, Touch.refl _ _⟩
                  case round =>
                    obtain ⟨kk, is, v4, s9, rfl, hkm, hi5, hKf, hO5, hG9, hS9, hR5⟩ := hrel
                    have HR5 := Lib.hid hR5
                    have hszw := hR5.size
                    clear hR5
                    by_cases hgo5 : kk < m ∧ ∃ q, s9 = .ok q
                    · obtain ⟨hlt5, q5, rfl⟩ := hgo5
                      have hlt5' : (kk : Int) < (m : Int) := by omega
                      have hisl : is.length ≤ 256 := by have := hi5.out; omega
                      obtain ⟨a4, c4, rfl⟩ := row_shape hO5
                      have HKf := Lib.hid hKf
                      have HO5 := Lib.hid hO5
                      have HG9 := Lib.hid hG9
                      obtain ⟨c2, _⟩ := hS9.okC
                      have HS9 := Lib.hid hS9
                      clear hS9 hKf hO5 hG9
                      go_upto_region 37 with fail
                      clear c2
                      refine wp_region_held_drew (S := fun _ => True) (by kernel_rfl) trivial (fun hHeld => ?_)
                      have kF3 := HKf.out.drew
                      have hO3 := own_drew HO5.out
                      have IN := Lib.hid (rinsD_any 59 wr.drew B b bs _ (HS9.out.quiet ⟨1, rfl⟩))
                      have hszd : wr.drew.heap.size = wr.heap.size := rfl
                      refine wpAnyH_take (i := 0) (oi := _) (v := ?_) (op_atC rfl) (by kernel_rfl) (by kernel_rfl) (by kernel_rfl) (fun _ _ _ h => h) (Or.inl ⟨by rfl, ?_⟩) hHeld ?_
                      rotate_left 1
                      focus (intro W hSw; (try dsimp only at hSw); go_simp; (try (with_reducible rfl)))
                      (try simp only [Act.put, List.setIfInBounds_toArray, List.set_cons_zero, List.set_cons_succ])
                      refine wpAnyH_take (i := 2) (oi := _) (v := ?_) (op_atC rfl) (by kernel_rfl) (by kernel_rfl) (by kernel_rfl) (fun _ _ _ h => h) (Or.inl ⟨by rfl, ?_⟩) hHeld ?_
                      rotate_left 1
                      focus (intro W hSw; (try dsimp only at hSw); go_simp; (try (with_reducible rfl)))
                      (try simp only [Act.put, List.setIfInBounds_toArray, List.set_cons_zero, List.set_cons_succ])
                      refine wpAnyH_ready (rs := [1, 3]) (by kernel_rfl) (by simp) ?_
                      refine AllReadyH.cons (o := _) (op_atC rfl) (fun Kc hKc => ?_) ?_
                      focus
                        have y4 := kF3.val 4 rfl
                        go_simp
                        clear y4
                        refine hKc.out _ _ trivial (fun hHeld9 => ?_)
                        clear hHeld9 hKc Kc
                        (try simp only [Act.put, List.setIfInBounds_toArray, List.set_cons_zero, List.set_cons_succ])
                        refine wpAnyH_ready (rs := [3]) (by kernel_rfl) (by simp) ?_
                        refine AllReadyH.cons (o := _) (op_atC rfl) (fun Kc hKc => ?_) AllReadyH.nil
                        go_simp
                        go_at_call 25
                        (with_reducible refine (IN.out).mono ?_)
                        rintro e' wc ⟨i, s10, rfl, hG10, _, hS10, hTc⟩
                        have hszc := hTc.size
                        have kF4 := kF3.touch hTc (by omega)
                        have hO4 := own_lo hO3 hTc (by omega)
                        have HG10 := Lib.hid (gets_one HG9.out hG10)
                        have HTc := Lib.hid (HR5.out.trans (RdT.p ((RdT.quiet ⟨1, rfl⟩ : RdT b wr wr.drew).trans hTc)))
                        clear hG10 hTc IN
                        go_wp2_with fail
                        refine hKc.out _ _ trivial (fun hHeld9 => ?_)
                        clear hHeld9 hKc Kc
                        (try simp only [Act.put, List.setIfInBounds_toArray, List.set_cons_zero, List.set_cons_succ])
                        refine wpAnyH_ready (rs := [4]) (by kernel_rfl) (by simp) ?_
                        refine AllReadyH.cons (o := _) (op_atC rfl) (fun Kc hKc => ?_) AllReadyH.nil
                        go_simp
                        refine hKc.out _ _ trivial (fun hHeld9 => ?_)
                        clear hHeld9 hKc Kc
                        (try simp only [Act.put, List.setIfInBounds_toArray, List.set_cons_zero, List.set_cons_succ])
                        refine wpAnyH_ready (rs := [5]) (by kernel_rfl) (by simp) ?_
                        refine AllReadyH.cons (o := _) (op_atC rfl) (fun Kc hKc => ?_) AllReadyH.nil
                        refine step_append_lies _ (by rfl) _ _ _ (by rfl) w14.heap.size 41 i3 _ 3 24 Try.underlying42 Z3.out.1 Z3.out.2.1 Z3.out.2.2.1 Z3.out.2.2.2 rfl (by decide) (.slice a4 is.length c4) is.length (is.flatMap insC) (by rfl) (own_grewG hO4 ((Below.refl _ _).alloc (Nat.le_refl _) _)) ⟨wc.heap.size, 0, none⟩ 1 1 (insC i) (by rfl) (by rfl) (World.news_of_block (Blk.new _ _ _)) (by simp [Value.oneCell', insC]) (by decide) (by unfold maxLen; omega) (by omega) (by simp; omega) _ rfl ?_
                        intro ga gc wd hown hgrow hat hltg
                        refine hKc.out _ _ trivial (fun hHeld9 => ?_)
                        clear hHeld9 hKc Kc
                        have P := put_kept (j := 4) hS10 kF4 (show kf < w14.heap.size by omega) (show b < w14.heap.size by omega) (show b ≠ kf by omega) (show B ≤ kf by omega) hO4 (show w14.heap.size ≤ wc.heap.size by omega) hgrow hown
                        have HP := Lib.hid P
                        clear P hgrow hat hltg kF4 hS10 hown
                        (try simp only [Act.put, List.setIfInBounds_toArray, List.set_cons_zero, List.set_cons_succ])
                        refine wpAnyH_take (i := 6) (oi := _) (v := ?_) (op_atC rfl) (by kernel_rfl) (by kernel_rfl) (by kernel_rfl) (fun _ _ _ h => h) (Or.inl ⟨by rfl, ?_⟩) hHeld ?_
                        rotate_left 1
                        focus (intro W hSw; (try dsimp only at hSw); go_simp; (try (with_reducible rfl)))
                        (try simp only [Act.put, List.setIfInBounds_toArray, List.set_cons_zero, List.set_cons_succ])
                        refine wpAnyH_ready (rs := [7]) (by kernel_rfl) (by simp) ?_
                        refine AllReadyH.cons (o := _) (op_atC rfl) (fun Kc hKc => ?_) AllReadyH.nil
                        have y4 := HP.out.1.val 4 rfl
                        have f4 := HP.out.1.frozen 4
                        go_simp
                        refine hKc.out _ _ trivial (fun hHeld9 => ?_)
                        clear hHeld9 hKc Kc y4 f4
                        (try simp only [Act.put, List.setIfInBounds_toArray, List.set_cons_zero, List.set_cons_succ])
                        refine wpAnyH_done (by kernel_rfl) ?_ _
                        go_wp2
                        go_roundw
                        case rel =>
                          refine ⟨kk + 1, is ++ [i], .slice (some ⟨ga, 0, none⟩) (is.length + 1) gc, s10, by go_num, by omega, by unfold Hid; rw [List.length_append, hi5.out]; rfl, HP.out.2.2.1, by rw [List.flatMap_append, List.length_append]; exact HP.out.2.2.2.1, HG10.out, HP.out.2.1, ?_⟩
                          exact Touch.mono (R := fun x => x = b ∨ x = kf ∨ (Value.slice a4 is.length c4).ownBlock = some x) ((HTc.out.mono fun x _ e => e.elim .inl fun q => .inr (.inl q)).trans (HP.out.2.2.2.2.mono fun x _ e => .inr e)) fun x hx e => by
                            rcases e with e | e | e
                            · exact .inl e
                            · exact .inr e
                            · have := (own_ltG hO4 e).1; omega
                        case measure => simp [intOf]; omega
                      refine AllReadyH.cons (o := _) (op_atC rfl) (fun Kc hKc => ?_) AllReadyH.nil
                      go_simp
                      go_at_call 25
                      (with_reducible refine (IN.out).mono ?_)
                      rintro e' wc ⟨i, s10, rfl, hG10, _, hS10, hTc⟩
                      have hszc := hTc.size
                      have kF4 := kF3.touch hTc (by omega)
                      have hO4 := own_lo hO3 hTc (by omega)
                      have HG10 := Lib.hid (gets_one HG9.out hG10)
                      have HTc := Lib.hid (HR5.out.trans (RdT.p ((RdT.quiet ⟨1, rfl⟩ : RdT b wr wr.drew).trans hTc)))
                      clear hG10 hTc IN
                      go_wp2_with fail
                      refine hKc.out _ _ trivial (fun hHeld9 => ?_)
                      clear hHeld9 hKc Kc
                      (try simp only [Act.put, List.setIfInBounds_toArray, List.set_cons_zero, List.set_cons_succ])
                      refine wpAnyH_ready (rs := [1, 4]) (by kernel_rfl) (by simp) ?_
                      refine AllReadyH.cons (o := _) (op_atC rfl) (fun Kc hKc => ?_) ?_
                      focus
                        have y4 := kF4.val 4 rfl
                        go_simp
                        clear y4
                        refine hKc.out _ _ trivial (fun hHeld9 => ?_)
                        clear hHeld9 hKc Kc
                        (try simp only [Act.put, List.setIfInBounds_toArray, List.set_cons_zero, List.set_cons_succ])
                        refine wpAnyH_ready (rs := [4]) (by kernel_rfl) (by simp) ?_
                        refine AllReadyH.cons (o := _) (op_atC rfl) (fun Kc hKc => ?_) AllReadyH.nil
                        go_simp
                        refine hKc.out _ _ trivial (fun hHeld9 => ?_)
                        clear hHeld9 hKc Kc
                        (try simp only [Act.put, List.setIfInBounds_toArray, List.set_cons_zero, List.set_cons_succ])
                        refine wpAnyH_ready (rs := [5]) (by kernel_rfl) (by simp) ?_
                        refine AllReadyH.cons (o := _) (op_atC rfl) (fun Kc hKc => ?_) AllReadyH.nil
                        refine step_append_lies _ (by rfl) _ _ _ (by rfl) w14.heap.size 41 i3 _ 3 24 Try.underlying42 Z3.out.1 Z3.out.2.1 Z3.out.2.2.1 Z3.out.2.2.2 rfl (by decide) (.slice a4 is.length c4) is.length (is.flatMap insC) (by rfl) (own_grewG hO4 ((Below.refl _ _).alloc (Nat.le_refl _) _)) ⟨wc.heap.size, 0, none⟩ 1 1 (insC i) (by rfl) (by rfl) (World.news_of_block (Blk.new _ _ _)) (by simp [Value.oneCell', insC]) (by decide) (by unfold maxLen; omega) (by omega) (by simp; omega) _ rfl ?_
                        intro ga gc wd hown hgrow hat hltg
                        refine hKc.out _ _ trivial (fun hHeld9 => ?_)
                        clear hHeld9 hKc Kc
                        have P := put_kept (j := 4) hS10 kF4 (show kf < w14.heap.size by omega) (show b < w14.heap.size by omega) (show b ≠ kf by omega) (show B ≤ kf by omega) hO4 (show w14.heap.size ≤ wc.heap.size by omega) hgrow hown
                        have HP := Lib.hid P
                        clear P hgrow hat hltg kF4 hS10 hown
                        (try simp only [Act.put, List.setIfInBounds_toArray, List.set_cons_zero, List.set_cons_succ])
                        refine wpAnyH_take (i := 6) (oi := _) (v := ?_) (op_atC rfl) (by kernel_rfl) (by kernel_rfl) (by kernel_rfl) (fun _ _ _ h => h) (Or.inl ⟨by rfl, ?_⟩) hHeld ?_
                        rotate_left 1
                        focus (intro W hSw; (try dsimp only at hSw); go_simp; (try (with_reducible rfl)))
                        (try simp only [Act.put, List.setIfInBounds_toArray, List.set_cons_zero, List.set_cons_succ])
                        refine wpAnyH_ready (rs := [7]) (by kernel_rfl) (by simp) ?_
                        refine AllReadyH.cons (o := _) (op_atC rfl) (fun Kc hKc => ?_) AllReadyH.nil
                        have y4 := HP.out.1.val 4 rfl
                        have f4 := HP.out.1.frozen 4
                        go_simp
                        refine hKc.out _ _ trivial (fun hHeld9 => ?_)
                        clear hHeld9 hKc Kc y4 f4
                        (try simp only [Act.put, List.setIfInBounds_toArray, List.set_cons_zero, List.set_cons_succ])
                        refine wpAnyH_done (by kernel_rfl) ?_ _
                        go_wp2
                        go_roundw
                        case rel =>
                          refine ⟨kk + 1, is ++ [i], .slice (some ⟨ga, 0, none⟩) (is.length + 1) gc, s10, by go_num, by omega, by unfold Hid; rw [List.length_append, hi5.out]; rfl, HP.out.2.2.1, by rw [List.flatMap_append, List.length_append]; exact HP.out.2.2.2.1, HG10.out, HP.out.2.1, ?_⟩
                          exact Touch.mono (R := fun x => x = b ∨ x = kf ∨ (Value.slice a4 is.length c4).ownBlock = some x) ((HTc.out.mono fun x _ e => e.elim .inl fun q => .inr (.inl q)).trans (HP.out.2.2.2.2.mono fun x _ e => .inr e)) fun x hx e => by
                            rcases e with e | e | e
                            · exact .inl e
                            · exact .inr e
                            · have := (own_ltG hO4 e).1; omega
                        case measure => simp [intOf]; omega
                      refine AllReadyH.cons (o := _) (op_atC rfl) (fun Kc hKc => ?_) AllReadyH.nil
                      go_simp
                      refine hKc.out _ _ trivial (fun hHeld9 => ?_)
                      clear hHeld9 hKc Kc
                      (try simp only [Act.put, List.setIfInBounds_toArray, List.set_cons_zero, List.set_cons_succ])
                      refine wpAnyH_ready (rs := [1]) (by kernel_rfl) (by simp) ?_
                      refine AllReadyH.cons (o := _) (op_atC rfl) (fun Kc hKc => ?_) AllReadyH.nil
                      have y4 := (kF4.alloc (.cells #[.int .i64 i.op, .int .i64 i.a, .int .i64 i.b] 41)).val 4 rfl
                      go_simp
                      clear y4
                      refine hKc.out _ _ trivial (fun hHeld9 => ?_)
                      clear hHeld9 hKc Kc
                      (try simp only [Act.put, List.setIfInBounds_toArray, List.set_cons_zero, List.set_cons_succ])
                      refine wpAnyH_ready (rs := [5]) (by kernel_rfl) (by simp) ?_
                      refine AllReadyH.cons (o := _) (op_atC rfl) (fun Kc hKc => ?_) AllReadyH.nil
                      refine step_append_lies _ (by rfl) _ _ _ (by rfl) w14.heap.size 41 i3 _ 3 24 Try.underlying42 Z3.out.1 Z3.out.2.1 Z3.out.2.2.1 Z3.out.2.2.2 rfl (by decide) (.slice a4 is.length c4) is.length (is.flatMap insC) (by rfl) (own_grewG hO4 ((Below.refl _ _).alloc (Nat.le_refl _) _)) ⟨wc.heap.size, 0, none⟩ 1 1 (insC i) (by rfl) (by rfl) (World.news_of_block (Blk.new _ _ _)) (by simp [Value.oneCell', insC]) (by decide) (by unfold maxLen; omega) (by omega) (by simp; omega) _ rfl ?_
                      intro ga gc wd hown hgrow hat hltg
                      refine hKc.out _ _ trivial (fun hHeld9 => ?_)
                      clear hHeld9 hKc Kc
                      have P := put_kept (j := 4) hS10 kF4 (show kf < w14.heap.size by omega) (show b < w14.heap.size by omega) (show b ≠ kf by omega) (show B ≤ kf by omega) hO4 (show w14.heap.size ≤ wc.heap.size by omega) hgrow hown
                      have HP := Lib.hid P
                      clear P hgrow hat hltg kF4 hS10 hown
                      (try simp only [Act.put, List.setIfInBounds_toArray, List.set_cons_zero, List.set_cons_succ])
                      refine wpAnyH_take (i := 6) (oi := _) (v := ?_) (op_atC rfl) (by kernel_rfl) (by kernel_rfl) (by kernel_rfl) (fun _ _ _ h => h) (Or.inl ⟨by rfl, ?_⟩) hHeld ?_
                      rotate_left 1
                      focus (intro W hSw; (try dsimp only at hSw); go_simp; (try (with_reducible rfl)))
                      (try simp only [Act.put, List.setIfInBounds_toArray, List.set_cons_zero, List.set_cons_succ])
                      refine wpAnyH_ready (rs := [7]) (by kernel_rfl) (by simp) ?_
                      refine AllReadyH.cons (o := _) (op_atC rfl) (fun Kc hKc => ?_) AllReadyH.nil
                      have y4 := HP.out.1.val 4 rfl
                      have f4 := HP.out.1.frozen 4
                      go_simp
                      refine hKc.out _ _ trivial (fun hHeld9 => ?_)
                      clear hHeld9 hKc Kc y4 f4
                      (try simp only [Act.put, List.setIfInBounds_toArray, List.set_cons_zero, List.set_cons_succ])
                      refine wpAnyH_done (by kernel_rfl) ?_ _
                      go_wp2
                      go_roundw
                      case rel =>
                        refine ⟨kk + 1, is ++ [i], .slice (some ⟨ga, 0, none⟩) (is.length + 1) gc, s10, by go_num, by omega, by unfold Hid; rw [List.length_append, hi5.out]; rfl, HP.out.2.2.1, by rw [List.flatMap_append, List.length_append]; exact HP.out.2.2.2.1, HG10.out, HP.out.2.1, ?_⟩
                        exact Touch.mono (R := fun x => x = b ∨ x = kf ∨ (Value.slice a4 is.length c4).ownBlock = some x) ((HTc.out.mono fun x _ e => e.elim .inl fun q => .inr (.inl q)).trans (HP.out.2.2.2.2.mono fun x _ e => .inr e)) fun x hx e => by
                          rcases e with e | e | e
                          · exact .inl e
                          · exact .inr e
                          · have := (own_ltG hO4 e).1; omega
                      case measure => simp [intOf]; omega

                    · have hfin : Gets (after s14 (seqD (insD bs) m)) is s9 := by
                        cases s9 with
                        | error y => exact gets_late hG9 hkm
                        | ok q =>
                          by_cases e : kk < m
                          · exact absurd ⟨e, q, rfl⟩ hgo5
                          · obtain rfl : kk = m := by omega
                            exact hG9
                      by_cases hlt5 : kk < m
                      · have hlt5' : (kk : Int) < (m : Int) := by omega
                        obtain ⟨y, rfl⟩ : ∃ y, s9 = .error y := by
                          cases s9 with
                          | error y => exact ⟨y, rfl⟩
                          | ok q => exact absurd ⟨hlt5, q, rfl⟩ hgo5
                        obtain ⟨c2, c2a, c2b, _⟩ := hS9.errC
                        go_upto_region 38 with fail
                        clear c2 c2a c2b hlt5 hlt5' hgo5 hG9
                        generalize (Except.error y : St) = s9 at *
                        generalize wr = wX at *
                        have hR5 := HR5.out
                        have hszX := hR5.size
                        have hTX : RdT b W1 wX := Touch.mono (R := fun x => x = b ∨ x = kf) ((HT14.out.mono fun x _ e => .inl e).trans hR5) fun x hx e => e.elim id fun q => by omega
                        have hcl := HUl.out.touch hTX (by omega)
                        have hKp := HKp.out.touch hTX (by omega)
                        have q1 := own_touch HV1.out hR5 (fun g hg e => by have := (own_ltG HV1.out hg).1; omega)
                        have q3 := own_touch HV3.out hR5 (fun g hg e => by have := (own_ltG HV3.out hg).1; omega)
                        obtain ⟨a4, c4, e4⟩ := row_shape hO5
                        subst e4
                        have x0 := hKf.val 0 rfl
                        have x1 := hKf.val 1 rfl
                        have x2 := hKf.val 2 rfl
                        have x3 := hKf.val 3 rfl
                        have x4 := hKf.val 4 rfl
                        have p0 := hKp.val 1 rfl
                        have hin : InnU wX w5.heap.size (⟨bytA l, ps, rt, ls, is⟩, .slice av1 ps.length cv1, .slice av3 ls.length cv3, .slice a4 is.length c4) := ⟨⟨own_sub q1 (by omega), own_sub q3 (by omega), own_sub hO5 (by omega)⟩, hps, hls, by show is.length ≤ 256; have := hi5.out; omega⟩
                        have hap : ApU (⟨bytA l, ps, rt, ls, is⟩, .slice av1 ps.length cv1, .slice av3 ls.length cv3, .slice a4 is.length c4) (.slice au lf.length cu) := by
                          refine ⟨fun g h1 h2 => ?_, fun g h1 h2 => ?_, fun g h1 h2 => ?_⟩
                          · have r1 := (own_ltG q1 h1).1
                            have r2 := (own_ltG HUl.out.1.row h2).2
                            omega
                          · have r1 := (own_ltG q3 h1).1
                            have r2 := (own_ltG HUl.out.1.row h2).2
                            omega
                          · have r1 := (own_ltG hO5 h1).1
                            have r2 := (own_ltG HUl.out.1.row h2).2
                            omega
                        have hrow := hcl.1.row
                        have HCP := Lib.hid (And.intro hcl (And.intro hin hap))
                        have hlcl : lf.length ≤ 16 := by have := hlf.out; omega
                        have HGC := Lib.hid (gets_one HGk4.out (gets_fun HGt.out HGp.out HGr.out HGl.out (gets_list HGm.out hfin)))
                        clear hcl hin hap hfin HGk4 HGt HGp HGr HGl HGm HUl HKp hO5 q1 q3
                        go_wp2_with (at_builtin; refine wpList_append_own_at _ rfl _ _ 25 rfl _ 45 i2 _ 5 96 Try.underlying25 Z2.out.1 Z2.out.2.1 Z2.out.2.2.1 Z2.out.2.2.2 rfl (by decide) (.slice au lf.length cu) lf.length (lf.flatMap funC) rfl (own_grewG hrow ((Below.refl _ _).alloc (Nat.le_refl _) _)) ⟨wX.heap.size, 0, none⟩ 1 1 ([.string (bytA l), .slice av1 ps.length cv1, .int .i64 rt, .slice av3 ls.length cv3, .slice a4 is.length c4]) rfl rfl (World.news_of_block (Blk.new _ _ _)) (by simp [Value.oneCell']) (by unfold maxLen; omega) (by omega) (by simp; omega) ?_; intro v' w3x hown' hgrow _ hat; obtain ⟨ga, gc, rfl⟩ := row_shape hown'; have P := put_kept (j := 1) hS9 hKp (show p < w5.heap.size by omega) (show b < w5.heap.size by omega) (show b ≠ p by omega) (show B ≤ p by omega) hrow (show w5.heap.size ≤ wX.heap.size by omega) hgrow hown'; have fk := P.1.frozen 1; have gk := P.1.val 1 rfl; have HA := Lib.hid (UOwnP.app HCP.out.1 HCP.out.2.1 HCP.out.2.2 hgrow hown' hat); have HP := Lib.hid P.2; clear P hgrow hown' hat HCP p0 x0 x1 x2 x3 x4)
                        go_roundw
                        case rel =>
                          refine ⟨k + 1, lf ++ [(⟨bytA l, ps, rt, ls, is⟩, .slice av1 ps.length cv1, .slice av3 ls.length cv3, .slice a4 is.length c4)], .slice ga (lf.length + 1) gc, s9, by go_num, by omega, by unfold Hid; rw [List.length_append, hlf.out]; rfl, HP.out.2.1, HA.out.touchG ((Touch.refl (fun x => x = p) w3x).setCell (p := ⟨p, 1, none⟩) rfl _) (fun g h1 e => by omega), by rw [List.map_append]; exact HGC.out, HP.out.1, ?_⟩
                          exact Touch.mono (R := fun x => x = b ∨ x = p ∨ (Value.slice au lf.length cu).ownBlock = some x) ((HT4.out.mono fun x _ e => e.elim .inl fun q => .inr (.inl q)).trans ((hTX.mono fun x _ e => .inl e).trans (HP.out.2.2.2.mono fun x _ e => .inr e))) fun x hx e => by
                            rcases e with e | e | e
                            · exact .inl e
                            · exact .inr e
                            · have := (own_ltG hrow e).1; omega
                        case measure => simp [intOf]; omega
                      · have hlt5' : ¬ (kk : Int) < (m : Int) := by omega
                        go_upto_region 38 with fail
                        clear hlt5 hlt5' hgo5 hG9
                        generalize wr = wX at *
                        have hR5 := HR5.out
                        have hszX := hR5.size
                        have hTX : RdT b W1 wX := Touch.mono (R := fun x => x = b ∨ x = kf) ((HT14.out.mono fun x _ e => .inl e).trans hR5) fun x hx e => e.elim id fun q => by omega
                        have hcl := HUl.out.touch hTX (by omega)
                        have hKp := HKp.out.touch hTX (by omega)
                        have q1 := own_touch HV1.out hR5 (fun g hg e => by have := (own_ltG HV1.out hg).1; omega)
                        have q3 := own_touch HV3.out hR5 (fun g hg e => by have := (own_ltG HV3.out hg).1; omega)
                        obtain ⟨a4, c4, e4⟩ := row_shape hO5
                        subst e4
                        have x0 := hKf.val 0 rfl
                        have x1 := hKf.val 1 rfl
                        have x2 := hKf.val 2 rfl
                        have x3 := hKf.val 3 rfl
                        have x4 := hKf.val 4 rfl
                        have p0 := hKp.val 1 rfl
                        have hin : InnU wX w5.heap.size (⟨bytA l, ps, rt, ls, is⟩, .slice av1 ps.length cv1, .slice av3 ls.length cv3, .slice a4 is.length c4) := ⟨⟨own_sub q1 (by omega), own_sub q3 (by omega), own_sub hO5 (by omega)⟩, hps, hls, by show is.length ≤ 256; have := hi5.out; omega⟩
                        have hap : ApU (⟨bytA l, ps, rt, ls, is⟩, .slice av1 ps.length cv1, .slice av3 ls.length cv3, .slice a4 is.length c4) (.slice au lf.length cu) := by
                          refine ⟨fun g h1 h2 => ?_, fun g h1 h2 => ?_, fun g h1 h2 => ?_⟩
                          · have r1 := (own_ltG q1 h1).1
                            have r2 := (own_ltG HUl.out.1.row h2).2
                            omega
                          · have r1 := (own_ltG q3 h1).1
                            have r2 := (own_ltG HUl.out.1.row h2).2
                            omega
                          · have r1 := (own_ltG hO5 h1).1
                            have r2 := (own_ltG HUl.out.1.row h2).2
                            omega
                        have hrow := hcl.1.row
                        have HCP := Lib.hid (And.intro hcl (And.intro hin hap))
                        have hlcl : lf.length ≤ 16 := by have := hlf.out; omega
                        have HGC := Lib.hid (gets_one HGk4.out (gets_fun HGt.out HGp.out HGr.out HGl.out (gets_list HGm.out hfin)))
                        clear hcl hin hap hfin HGk4 HGt HGp HGr HGl HGm HUl HKp hO5 q1 q3
                        go_wp2_with (at_builtin; refine wpList_append_own_at _ rfl _ _ 25 rfl _ 45 i2 _ 5 96 Try.underlying25 Z2.out.1 Z2.out.2.1 Z2.out.2.2.1 Z2.out.2.2.2 rfl (by decide) (.slice au lf.length cu) lf.length (lf.flatMap funC) rfl (own_grewG hrow ((Below.refl _ _).alloc (Nat.le_refl _) _)) ⟨wX.heap.size, 0, none⟩ 1 1 ([.string (bytA l), .slice av1 ps.length cv1, .int .i64 rt, .slice av3 ls.length cv3, .slice a4 is.length c4]) rfl rfl (World.news_of_block (Blk.new _ _ _)) (by simp [Value.oneCell']) (by unfold maxLen; omega) (by omega) (by simp; omega) ?_; intro v' w3x hown' hgrow _ hat; obtain ⟨ga, gc, rfl⟩ := row_shape hown'; have P := put_kept (j := 1) hS9 hKp (show p < w5.heap.size by omega) (show b < w5.heap.size by omega) (show b ≠ p by omega) (show B ≤ p by omega) hrow (show w5.heap.size ≤ wX.heap.size by omega) hgrow hown'; have fk := P.1.frozen 1; have gk := P.1.val 1 rfl; have HA := Lib.hid (UOwnP.app HCP.out.1 HCP.out.2.1 HCP.out.2.2 hgrow hown' hat); have HP := Lib.hid P.2; clear P hgrow hown' hat HCP p0 x0 x1 x2 x3 x4)
                        go_roundw
                        case rel =>
                          refine ⟨k + 1, lf ++ [(⟨bytA l, ps, rt, ls, is⟩, .slice av1 ps.length cv1, .slice av3 ls.length cv3, .slice a4 is.length c4)], .slice ga (lf.length + 1) gc, s9, by go_num, by omega, by unfold Hid; rw [List.length_append, hlf.out]; rfl, HP.out.2.1, HA.out.touchG ((Touch.refl (fun x => x = p) w3x).setCell (p := ⟨p, 1, none⟩) rfl _) (fun g h1 e => by omega), by rw [List.map_append]; exact HGC.out, HP.out.1, ?_⟩
                          exact Touch.mono (R := fun x => x = b ∨ x = p ∨ (Value.slice au lf.length cu).ownBlock = some x) ((HT4.out.mono fun x _ e => e.elim .inl fun q => .inr (.inl q)).trans ((hTX.mono fun x _ e => .inl e).trans (HP.out.2.2.2.mono fun x _ e => .inr e))) fun x hx e => by
                            rcases e with e | e | e
                            · exact .inl e
                            · exact .inr e
                            · have := (own_ltG hrow e).1; omega
                        case measure => simp [intOf]; omega
                · have hfin4 : Gets (after sB (seqD (funD bs) n2)) (lf.map fun x => x.1) s4 := by
                    cases s4 with
                    | error y => exact gets_late HGk4.out hkn
                    | ok q =>
                      by_cases e : k < n2
                      · exact absurd ⟨e, q, rfl⟩ hgo4
                      · obtain rfl : k = n2 := by omega
                        exact HGk4.out
                  have HF := Lib.hid (gets_dec HG.out HC1.out (gets_list HGn.out hfin4))
                  have HBz := HB5.out.trans (HT4.out.below (B := w.heap.size) (by omega) (fun k hk => by omega))
                  have Kz := HK5.out.touch HT4.out (by omega)
                  have CL := HCl5.out.touchG HT4.out (fun g h1 e => by omega)
                  have UL := HUl.out
                  have KP := HKp.out
                  have hSz := hS4
                  clear HB5 HK5 HT4 HCl5 HUl HKp hS4 hfin4 HGk4 HC1 HGn
                  by_cases hlt4 : k < n2
                  · have hlt4' : (k : Int) < (n2 : Int) := by omega
                    obtain ⟨y, rfl⟩ : ∃ y, s4 = .error y := by
                      cases s4 with
                      | error y => exact ⟨y, rfl⟩
                      | ok q => exact absurd ⟨hlt4, q, rfl⟩ hgo4
                    obtain ⟨d2x, d2a, d2b, _⟩ := hSz.errC
                    go_upto_region 39 with fail
                    clear d2x d2a d2b hlt4 hlt4' hgo4
                    generalize (Except.error y : St) = s4 at *
                    generalize wr = wz at *
                    cases s4 with
                    | error x =>
                      have HX := Lib.hid (dec_of_err hl HF.out.err)
                      obtain ⟨c2, c2a, c2b, _⟩ := hSz.errC
                      clear HF CL UL KP
                      obtain ⟨pq, _, hA5⟩ := (show ∃ pq : Nat, pq ≤ bs.length ∧ RdAt 59 wz B (b) bs (pq : Int) x.1 x.2 from hSz.2)
                      obtain ⟨v5, kA, _⟩ := hA5.ex
                      have HNE : Hid (x.1 ≠ (0 : Int)) := hSz.1
                      have ne5 : (x.1 != (0 : Int)) = true := bne_iff_ne.2 hSz.1
                      have d2 := kA.val 2 rfl
                      have d3 := kA.val 3 rfl
                      have r0 := Kz.val 0 rfl
                      have r1 := Kz.val 1 rfl
                      have f0 := Kz.frozen 0
                      have f1 := Kz.frozen 1
                      have hT6 := ((Touch.refl (fun y => w.heap.size ≤ y) wz).setCell (p := ⟨w.heap.size, 0, none⟩) (Nat.le_refl _) (.slice none 0 0)).setCell (p := ⟨w.heap.size, 1, none⟩) (Nat.le_refl _) (.slice none 0 0)
                      have HE := Lib.hid (HBz.trans (hT6.below HBz.size (fun k hk => hk))).drew
                      have HZ := Lib.hid ((Kz.set 0 (.slice none 0 0)).set 1 (.slice none 0 0)).drew
                      have HSq : Hid (wz.drew.cell? ⟨b, 2, none⟩ = some (.int .i64 x.1) ∧ wz.drew.cell? ⟨b, 3, none⟩ = some (.int .i64 x.2)) := ⟨d2, d3⟩
                      clear hSz hA5 kA Kz HBz hT6
                      go_upto_region 42 with fail
                      refine wp_region_held_drew (S := (fun W' => W'.cell? ⟨b, 2, none⟩ = some (.int .i64 x.1) ∧ W'.cell? ⟨b, 3, none⟩ = some (.int .i64 x.2))) (by kernel_rfl) HSq.out (fun hHeld => ?_)
                      refine wpAnyH_take (i := 0) (oi := _) (v := ?_) (op_atC rfl) (by kernel_rfl) (by kernel_rfl) (by kernel_rfl) (fun _ _ _ h => h) (Or.inl ⟨by rfl, ?_⟩) hHeld ?_
                      rotate_left 1
                      focus (intro W hSw; (try dsimp only at hSw); go_simp; (try (with_reducible rfl)))
                      (try simp only [Act.put, List.setIfInBounds_toArray, List.set_cons_zero, List.set_cons_succ])
                      refine wpAnyH_take (i := 1) (oi := _) (v := ?_) (op_atC rfl) (by kernel_rfl) (by kernel_rfl) (by kernel_rfl) (fun _ _ _ h => h) (Or.inl ⟨by rfl, ?_⟩) hHeld ?_
                      rotate_left 1
                      focus (intro W hSw; (try dsimp only at hSw); go_simp; (try (with_reducible rfl)))
                      (try simp only [Act.put, List.setIfInBounds_toArray, List.set_cons_zero, List.set_cons_succ])
                      refine wpAnyH_take (i := 2) (oi := _) (v := ?_) (op_atC rfl) (by kernel_rfl) (by kernel_rfl) (by kernel_rfl) (fun _ _ _ h => h) (Or.inl ⟨by rfl, ?_⟩) hHeld ?_
                      rotate_left 1
                      focus (intro W hSw; (try dsimp only at hSw); go_simp; (try (with_reducible rfl)))
                      (try simp only [Act.put, List.setIfInBounds_toArray, List.set_cons_zero, List.set_cons_succ])
                      refine wpAnyH_take (i := 3) (oi := _) (v := ?_) (op_atC rfl) (by kernel_rfl) (by kernel_rfl) (by kernel_rfl) (fun _ _ _ h => h) (Or.inl ⟨by rfl, ?_⟩) hHeld ?_
                      rotate_left 1
                      focus (intro W hSw; (try dsimp only at hSw); go_simp; (try (with_reducible rfl)))
                      (try simp only [Act.put, List.setIfInBounds_toArray, List.set_cons_zero, List.set_cons_succ])
                      refine wpAnyH_take (i := 4) (oi := _) (v := ?_) (op_atC rfl) (by kernel_rfl) (by kernel_rfl) (by kernel_rfl) (fun _ _ _ h => h) (Or.inl ⟨by rfl, ?_⟩) hHeld ?_
                      rotate_left 1
                      focus (intro W hSw; (try dsimp only at hSw); go_simp; (try (with_reducible rfl)))
                      (try simp only [Act.put, List.setIfInBounds_toArray, List.set_cons_zero, List.set_cons_succ])
                      refine wpAnyH_take (i := 5) (oi := _) (v := ?_) (op_atC rfl) (by kernel_rfl) (by kernel_rfl) (by kernel_rfl) (fun _ _ _ h => h) (Or.inl ⟨by rfl, ?_⟩) hHeld ?_
                      rotate_left 1
                      focus (intro W hSw; (try dsimp only at hSw); go_simp; (try (with_reducible rfl)))
                      (try simp only [Act.put, List.setIfInBounds_toArray, List.set_cons_zero, List.set_cons_succ])
                      refine wpAnyH_take (i := 6) (oi := _) (v := ?_) (op_atC rfl) (by kernel_rfl) (by kernel_rfl) (by kernel_rfl) (fun _ _ _ h => h) (Or.inl ⟨by rfl, ?_⟩) hHeld ?_
                      rotate_left 1
                      focus (intro W hSw; (try dsimp only at hSw); go_simp; (try (with_reducible rfl)))
                      (try simp only [Act.put, List.setIfInBounds_toArray, List.set_cons_zero, List.set_cons_succ])
                      refine wpAnyH_take (i := 7) (oi := _) (v := ?_) (op_atC rfl) (by kernel_rfl) (by kernel_rfl) (by kernel_rfl) (fun _ _ _ h => h) (Or.inl ⟨by rfl, ?_⟩) hHeld ?_
                      rotate_left 1
                      focus (intro W hSw; (try dsimp only at hSw); go_simp; (try (with_reducible rfl)))
                      (try simp only [Act.put, List.setIfInBounds_toArray, List.set_cons_zero, List.set_cons_succ])
                      refine wpAnyH_take (i := 8) (oi := _) (v := ?_) (op_atC rfl) (by kernel_rfl) (by kernel_rfl) (by kernel_rfl) (fun _ _ _ h => h) (Or.inl ⟨by rfl, ?_⟩) hHeld ?_
                      rotate_left 1
                      focus (intro W hSw; (try dsimp only at hSw); go_simp; (try (with_reducible rfl)))
                      (try simp only [Act.put, List.setIfInBounds_toArray, List.set_cons_zero, List.set_cons_succ])
                      refine wpAnyH_ready (rs := [9]) (by kernel_rfl) (by simp) ?_
                      refine AllReadyH.cons (o := _) (op_atC rfl) (fun Kc hKc => ?_) AllReadyH.nil
                      go_simp
                      refine hKc.out _ _ ?_ (fun hHeld' => ?_)
                      focus exact ⟨(World.cell?_setCell_far _ _ _ _ (show w.heap.size ≠ b by omega)).trans ((World.cell?_setCell_far _ _ _ _ (show w.heap.size ≠ b by omega)).trans hHeld.1), (World.cell?_setCell_far _ _ _ _ (show w.heap.size ≠ b by omega)).trans ((World.cell?_setCell_far _ _ _ _ (show w.heap.size ≠ b by omega)).trans hHeld.2)⟩
                      clear hHeld
                      have hHeld := hHeld'
                      clear hHeld' hKc Kc
                      (try simp only [Act.put, List.setIfInBounds_toArray, List.set_cons_zero, List.set_cons_succ])
                      refine wpAnyH_take (i := 10) (oi := _) (v := ?_) (op_atC rfl) (by kernel_rfl) (by kernel_rfl) (by kernel_rfl) (fun _ _ _ h => h) (Or.inl ⟨by rfl, ?_⟩) hHeld ?_
                      rotate_left 1
                      focus (intro W hSw; (try dsimp only at hSw); go_simp; (try (with_reducible rfl)))
                      (try simp only [Act.put, List.setIfInBounds_toArray, List.set_cons_zero, List.set_cons_succ])
                      refine wpAnyH_take (i := 11) (oi := _) (v := ?_) (op_atC rfl) (by kernel_rfl) (by kernel_rfl) (by kernel_rfl) (fun _ _ _ h => h) (Or.inl ⟨by rfl, ?_⟩) hHeld ?_
                      rotate_left 1
                      focus (intro W hSw; (try dsimp only at hSw); go_simp; (try (with_reducible rfl)))
                      (try simp only [Act.put, List.setIfInBounds_toArray, List.set_cons_zero, List.set_cons_succ])
                      refine wpAnyH_done (by kernel_rfl) ?_ _
                      clear hHeld
                      go_wp2
                      generalize World.drew (World.setCell (World.setCell _ _ _) _ _) = W9 at *
                      have z0 := HZ.out.val 0 rfl
                      have z1 := HZ.out.val 1 rfl
                      refine bodyPost_ret (v := .tuple #[.agg #[.slice none 0 0, .slice none 0 0], .int .i64 x.2, .int .i64 x.1]) (by simp [results, Try.results7, go_sem, z0, z1]) rfl ?_
                      unfold DecPost
                      rw [HX.out]
                      exact ⟨⟨HNE.out, rfl⟩, HE.out⟩
                    | ok q =>
                      have HOK := HF.out.ok
                      have HX := Lib.hid (dec_of_ok hl HOK)
                      obtain ⟨c2, cc1, hq6⟩ := hSz.okC
                      by_cases hq : q < bs.length
                      · have hq' : (q : Int) < (bs.length : Int) := by omega
                        replace HX : Hid (decD bs = .error (11, (q : Int))) := HX.out.trans (if_pos hq)
                        have HS4 := Lib.hid hSz
                        clear hSz KP HF CL UL HOK
                        go_wp2_with fail
                        refine (HS4.out.rfailed (q : Int) 11 (by decide)).mono ?_
                        rintro e' wz2 ⟨⟨u5, rfl⟩, hS5, hT5z⟩
                        have hSz : RdS 59 wz2 B b bs (.error (11, (q : Int))) := hS5
                        have Kz := Kz.touch hT5z (by omega)
                        have HBz := HBz.trans (hT5z.below (B := w.heap.size) (by omega) (fun k hk => by omega))
                        clear HS4 c2 cc1 hT5z hS5
                        generalize wz2 = wz at *
                        obtain ⟨pq, _, hA5⟩ := (show ∃ pq : Nat, pq ≤ bs.length ∧ RdAt 59 wz B (b) bs (pq : Int) (11 : Int) (q : Int) from hSz.2)
                        obtain ⟨v5, kA, _⟩ := hA5.ex
                        have HNE : Hid ((11 : Int) ≠ (0 : Int)) := hSz.1
                        have ne5 : ((11 : Int) != (0 : Int)) = true := bne_iff_ne.2 hSz.1
                        have d2 := kA.val 2 rfl
                        have d3 := kA.val 3 rfl
                        have r0 := Kz.val 0 rfl
                        have r1 := Kz.val 1 rfl
                        have f0 := Kz.frozen 0
                        have f1 := Kz.frozen 1
                        have hT6 := ((Touch.refl (fun y => w.heap.size ≤ y) wz).setCell (p := ⟨w.heap.size, 0, none⟩) (Nat.le_refl _) (.slice none 0 0)).setCell (p := ⟨w.heap.size, 1, none⟩) (Nat.le_refl _) (.slice none 0 0)
                        have HE := Lib.hid (HBz.trans (hT6.below HBz.size (fun k hk => hk))).drew
                        have HZ := Lib.hid ((Kz.set 0 (.slice none 0 0)).set 1 (.slice none 0 0)).drew
                        have HSq : Hid (wz.drew.cell? ⟨b, 2, none⟩ = some (.int .i64 (11 : Int)) ∧ wz.drew.cell? ⟨b, 3, none⟩ = some (.int .i64 (q : Int))) := ⟨d2, d3⟩
                        clear hSz hA5 kA Kz HBz hT6
                        go_upto_region 42 with fail
                        refine wp_region_held_drew (S := (fun W' => W'.cell? ⟨b, 2, none⟩ = some (.int .i64 (11 : Int)) ∧ W'.cell? ⟨b, 3, none⟩ = some (.int .i64 (q : Int)))) (by kernel_rfl) HSq.out (fun hHeld => ?_)
                        refine wpAnyH_take (i := 0) (oi := _) (v := ?_) (op_atC rfl) (by kernel_rfl) (by kernel_rfl) (by kernel_rfl) (fun _ _ _ h => h) (Or.inl ⟨by rfl, ?_⟩) hHeld ?_
                        rotate_left 1
                        focus (intro W hSw; (try dsimp only at hSw); go_simp; (try (with_reducible rfl)))
                        (try simp only [Act.put, List.setIfInBounds_toArray, List.set_cons_zero, List.set_cons_succ])
                        refine wpAnyH_take (i := 1) (oi := _) (v := ?_) (op_atC rfl) (by kernel_rfl) (by kernel_rfl) (by kernel_rfl) (fun _ _ _ h => h) (Or.inl ⟨by rfl, ?_⟩) hHeld ?_
                        rotate_left 1
                        focus (intro W hSw; (try dsimp only at hSw); go_simp; (try (with_reducible rfl)))
                        (try simp only [Act.put, List.setIfInBounds_toArray, List.set_cons_zero, List.set_cons_succ])
                        refine wpAnyH_take (i := 2) (oi := _) (v := ?_) (op_atC rfl) (by kernel_rfl) (by kernel_rfl) (by kernel_rfl) (fun _ _ _ h => h) (Or.inl ⟨by rfl, ?_⟩) hHeld ?_
                        rotate_left 1
                        focus (intro W hSw; (try dsimp only at hSw); go_simp; (try (with_reducible rfl)))
                        (try simp only [Act.put, List.setIfInBounds_toArray, List.set_cons_zero, List.set_cons_succ])
                        refine wpAnyH_take (i := 3) (oi := _) (v := ?_) (op_atC rfl) (by kernel_rfl) (by kernel_rfl) (by kernel_rfl) (fun _ _ _ h => h) (Or.inl ⟨by rfl, ?_⟩) hHeld ?_
                        rotate_left 1
                        focus (intro W hSw; (try dsimp only at hSw); go_simp; (try (with_reducible rfl)))
                        (try simp only [Act.put, List.setIfInBounds_toArray, List.set_cons_zero, List.set_cons_succ])
                        refine wpAnyH_take (i := 4) (oi := _) (v := ?_) (op_atC rfl) (by kernel_rfl) (by kernel_rfl) (by kernel_rfl) (fun _ _ _ h => h) (Or.inl ⟨by rfl, ?_⟩) hHeld ?_
                        rotate_left 1
                        focus (intro W hSw; (try dsimp only at hSw); go_simp; (try (with_reducible rfl)))
                        (try simp only [Act.put, List.setIfInBounds_toArray, List.set_cons_zero, List.set_cons_succ])
                        refine wpAnyH_take (i := 5) (oi := _) (v := ?_) (op_atC rfl) (by kernel_rfl) (by kernel_rfl) (by kernel_rfl) (fun _ _ _ h => h) (Or.inl ⟨by rfl, ?_⟩) hHeld ?_
                        rotate_left 1
                        focus (intro W hSw; (try dsimp only at hSw); go_simp; (try (with_reducible rfl)))
                        (try simp only [Act.put, List.setIfInBounds_toArray, List.set_cons_zero, List.set_cons_succ])
                        refine wpAnyH_take (i := 6) (oi := _) (v := ?_) (op_atC rfl) (by kernel_rfl) (by kernel_rfl) (by kernel_rfl) (fun _ _ _ h => h) (Or.inl ⟨by rfl, ?_⟩) hHeld ?_
                        rotate_left 1
                        focus (intro W hSw; (try dsimp only at hSw); go_simp; (try (with_reducible rfl)))
                        (try simp only [Act.put, List.setIfInBounds_toArray, List.set_cons_zero, List.set_cons_succ])
                        refine wpAnyH_take (i := 7) (oi := _) (v := ?_) (op_atC rfl) (by kernel_rfl) (by kernel_rfl) (by kernel_rfl) (fun _ _ _ h => h) (Or.inl ⟨by rfl, ?_⟩) hHeld ?_
                        rotate_left 1
                        focus (intro W hSw; (try dsimp only at hSw); go_simp; (try (with_reducible rfl)))
                        (try simp only [Act.put, List.setIfInBounds_toArray, List.set_cons_zero, List.set_cons_succ])
                        refine wpAnyH_take (i := 8) (oi := _) (v := ?_) (op_atC rfl) (by kernel_rfl) (by kernel_rfl) (by kernel_rfl) (fun _ _ _ h => h) (Or.inl ⟨by rfl, ?_⟩) hHeld ?_
                        rotate_left 1
                        focus (intro W hSw; (try dsimp only at hSw); go_simp; (try (with_reducible rfl)))
                        (try simp only [Act.put, List.setIfInBounds_toArray, List.set_cons_zero, List.set_cons_succ])
                        refine wpAnyH_ready (rs := [9]) (by kernel_rfl) (by simp) ?_
                        refine AllReadyH.cons (o := _) (op_atC rfl) (fun Kc hKc => ?_) AllReadyH.nil
                        go_simp
                        refine hKc.out _ _ ?_ (fun hHeld' => ?_)
                        focus exact ⟨(World.cell?_setCell_far _ _ _ _ (show w.heap.size ≠ b by omega)).trans ((World.cell?_setCell_far _ _ _ _ (show w.heap.size ≠ b by omega)).trans hHeld.1), (World.cell?_setCell_far _ _ _ _ (show w.heap.size ≠ b by omega)).trans ((World.cell?_setCell_far _ _ _ _ (show w.heap.size ≠ b by omega)).trans hHeld.2)⟩
                        clear hHeld
                        have hHeld := hHeld'
                        clear hHeld' hKc Kc
                        (try simp only [Act.put, List.setIfInBounds_toArray, List.set_cons_zero, List.set_cons_succ])
                        refine wpAnyH_take (i := 10) (oi := _) (v := ?_) (op_atC rfl) (by kernel_rfl) (by kernel_rfl) (by kernel_rfl) (fun _ _ _ h => h) (Or.inl ⟨by rfl, ?_⟩) hHeld ?_
                        rotate_left 1
                        focus (intro W hSw; (try dsimp only at hSw); go_simp; (try (with_reducible rfl)))
                        (try simp only [Act.put, List.setIfInBounds_toArray, List.set_cons_zero, List.set_cons_succ])
                        refine wpAnyH_take (i := 11) (oi := _) (v := ?_) (op_atC rfl) (by kernel_rfl) (by kernel_rfl) (by kernel_rfl) (fun _ _ _ h => h) (Or.inl ⟨by rfl, ?_⟩) hHeld ?_
                        rotate_left 1
                        focus (intro W hSw; (try dsimp only at hSw); go_simp; (try (with_reducible rfl)))
                        (try simp only [Act.put, List.setIfInBounds_toArray, List.set_cons_zero, List.set_cons_succ])
                        refine wpAnyH_done (by kernel_rfl) ?_ _
                        clear hHeld
                        go_wp2
                        generalize World.drew (World.setCell (World.setCell _ _ _) _ _) = W9 at *
                        have z0 := HZ.out.val 0 rfl
                        have z1 := HZ.out.val 1 rfl
                        refine bodyPost_ret (v := .tuple #[.agg #[.slice none 0 0, .slice none 0 0], .int .i64 (q : Int), .int .i64 (11 : Int)]) (by simp [results, Try.results7, go_sem, z0, z1]) rfl ?_
                        unfold DecPost
                        rw [HX.out]
                        exact ⟨⟨HNE.out, rfl⟩, HE.out⟩
                      · have hq' : ¬ (q : Int) < (bs.length : Int) := by omega
                        replace HX : Hid (decD bs = .ok (PrgD.mk (lc.map fun x => x.1) (lf.map fun x => x.1))) := HX.out.trans (if_neg hq)
                        have y0 := KP.val 0 rfl
                        have y1 := KP.val 1 rfl
                        have r0 := Kz.val 0 rfl
                        have r1 := Kz.val 1 rfl
                        have f0 := Kz.frozen 0
                        have f1 := Kz.frozen 1
                        have hT6 := ((Touch.refl (fun y => y = w.heap.size) wz).setCell (p := ⟨w.heap.size, 0, none⟩) rfl (.slice a0 lc.length c0)).setCell (p := ⟨w.heap.size, 1, none⟩) rfl (.slice au lf.length cu)
                        have HZ := Lib.hid ((Kz.set 0 (.slice a0 lc.length c0)).set 1 (.slice au lf.length cu))
                        have HB6 := Lib.hid (HBz.trans (hT6.below (B := w.heap.size) (by omega) (fun k hk => by omega)))
                        have HP := Lib.hid (prg_own (p := ⟨lc.map fun x => x.1, lf.map fun x => x.1⟩) (CL.1.touch hT6 (fun g h1 _ e => by omega)) (UL.1.touch hT6 (fun g h1 _ e => by omega)) rfl rfl (decI_ok HOK).1)
                        clear hSz KP HF CL UL HOK hT6 Kz HBz
                        go_wp2
                        generalize World.setCell (World.setCell _ _ _) _ _ = W9 at *
                        have z0 := HZ.out.val 0 rfl
                        have z1 := HZ.out.val 1 rfl
                        refine bodyPost_ret (v := .tuple #[.agg #[.slice a0 lc.length c0, .slice au lf.length cu], .int .i64 0, .int .i64 0]) (by simp [results, Try.results7, go_sem, z0, z1]) rfl ?_
                        unfold DecPost
                        rw [HX.out]
                        exact ⟨⟨_, _, rfl, HP.out⟩, HB6.out⟩
                  · have hlt4' : ¬ (k : Int) < (n2 : Int) := by omega
                    go_upto_region 39 with fail
                    clear hlt4 hlt4' hgo4
                    generalize wr = wz at *
                    cases s4 with
                    | error x =>
                      have HX := Lib.hid (dec_of_err hl HF.out.err)
                      obtain ⟨c2, c2a, c2b, _⟩ := hSz.errC
                      clear HF CL UL KP
                      obtain ⟨pq, _, hA5⟩ := (show ∃ pq : Nat, pq ≤ bs.length ∧ RdAt 59 wz B (b) bs (pq : Int) x.1 x.2 from hSz.2)
                      obtain ⟨v5, kA, _⟩ := hA5.ex
                      have HNE : Hid (x.1 ≠ (0 : Int)) := hSz.1
                      have ne5 : (x.1 != (0 : Int)) = true := bne_iff_ne.2 hSz.1
                      have d2 := kA.val 2 rfl
                      have d3 := kA.val 3 rfl
                      have r0 := Kz.val 0 rfl
                      have r1 := Kz.val 1 rfl
                      have f0 := Kz.frozen 0
                      have f1 := Kz.frozen 1
                      have hT6 := ((Touch.refl (fun y => w.heap.size ≤ y) wz).setCell (p := ⟨w.heap.size, 0, none⟩) (Nat.le_refl _) (.slice none 0 0)).setCell (p := ⟨w.heap.size, 1, none⟩) (Nat.le_refl _) (.slice none 0 0)
                      have HE := Lib.hid (HBz.trans (hT6.below HBz.size (fun k hk => hk))).drew
                      have HZ := Lib.hid ((Kz.set 0 (.slice none 0 0)).set 1 (.slice none 0 0)).drew
                      have HSq : Hid (wz.drew.cell? ⟨b, 2, none⟩ = some (.int .i64 x.1) ∧ wz.drew.cell? ⟨b, 3, none⟩ = some (.int .i64 x.2)) := ⟨d2, d3⟩
                      clear hSz hA5 kA Kz HBz hT6
                      go_upto_region 42 with fail
                      refine wp_region_held_drew (S := (fun W' => W'.cell? ⟨b, 2, none⟩ = some (.int .i64 x.1) ∧ W'.cell? ⟨b, 3, none⟩ = some (.int .i64 x.2))) (by kernel_rfl) HSq.out (fun hHeld => ?_)
                      refine wpAnyH_take (i := 0) (oi := _) (v := ?_) (op_atC rfl) (by kernel_rfl) (by kernel_rfl) (by kernel_rfl) (fun _ _ _ h => h) (Or.inl ⟨by rfl, ?_⟩) hHeld ?_
                      rotate_left 1
                      focus (intro W hSw; (try dsimp only at hSw); go_simp; (try (with_reducible rfl)))
                      (try simp only [Act.put, List.setIfInBounds_toArray, List.set_cons_zero, List.set_cons_succ])
                      refine wpAnyH_take (i := 1) (oi := _) (v := ?_) (op_atC rfl) (by kernel_rfl) (by kernel_rfl) (by kernel_rfl) (fun _ _ _ h => h) (Or.inl ⟨by rfl, ?_⟩) hHeld ?_
                      rotate_left 1
                      focus (intro W hSw; (try dsimp only at hSw); go_simp; (try (with_reducible rfl)))
                      (try simp only [Act.put, List.setIfInBounds_toArray, List.set_cons_zero, List.set_cons_succ])
                      refine wpAnyH_take (i := 2) (oi := _) (v := ?_) (op_atC rfl) (by kernel_rfl) (by kernel_rfl) (by kernel_rfl) (fun _ _ _ h => h) (Or.inl ⟨by rfl, ?_⟩) hHeld ?_
                      rotate_left 1
                      focus (intro W hSw; (try dsimp only at hSw); go_simp; (try (with_reducible rfl)))
                      (try simp only [Act.put, List.setIfInBounds_toArray, List.set_cons_zero, List.set_cons_succ])
                      refine wpAnyH_take (i := 3) (oi := _) (v := ?_) (op_atC rfl) (by kernel_rfl) (by kernel_rfl) (by kernel_rfl) (fun _ _ _ h => h) (Or.inl ⟨by rfl, ?_⟩) hHeld ?_
                      rotate_left 1
                      focus (intro W hSw; (try dsimp only at hSw); go_simp; (try (with_reducible rfl)))
                      (try simp only [Act.put, List.setIfInBounds_toArray, List.set_cons_zero, List.set_cons_succ])
                      refine wpAnyH_take (i := 4) (oi := _) (v := ?_) (op_atC rfl) (by kernel_rfl) (by kernel_rfl) (by kernel_rfl) (fun _ _ _ h => h) (Or.inl ⟨by rfl, ?_⟩) hHeld ?_
                      rotate_left 1
                      focus (intro W hSw; (try dsimp only at hSw); go_simp; (try (with_reducible rfl)))
                      (try simp only [Act.put, List.setIfInBounds_toArray, List.set_cons_zero, List.set_cons_succ])
                      refine wpAnyH_take (i := 5) (oi := _) (v := ?_) (op_atC rfl) (by kernel_rfl) (by kernel_rfl) (by kernel_rfl) (fun _ _ _ h => h) (Or.inl ⟨by rfl, ?_⟩) hHeld ?_
                      rotate_left 1
                      focus (intro W hSw; (try dsimp only at hSw); go_simp; (try (with_reducible rfl)))
                      (try simp only [Act.put, List.setIfInBounds_toArray, List.set_cons_zero, List.set_cons_succ])
                      refine wpAnyH_take (i := 6) (oi := _) (v := ?_) (op_atC rfl) (by kernel_rfl) (by kernel_rfl) (by kernel_rfl) (fun _ _ _ h => h) (Or.inl ⟨by rfl, ?_⟩) hHeld ?_
                      rotate_left 1
                      focus (intro W hSw; (try dsimp only at hSw); go_simp; (try (with_reducible rfl)))
                      (try simp only [Act.put, List.setIfInBounds_toArray, List.set_cons_zero, List.set_cons_succ])
                      refine wpAnyH_take (i := 7) (oi := _) (v := ?_) (op_atC rfl) (by kernel_rfl) (by kernel_rfl) (by kernel_rfl) (fun _ _ _ h => h) (Or.inl ⟨by rfl, ?_⟩) hHeld ?_
                      rotate_left 1
                      focus (intro W hSw; (try dsimp only at hSw); go_simp; (try (with_reducible rfl)))
                      (try simp only [Act.put, List.setIfInBounds_toArray, List.set_cons_zero, List.set_cons_succ])
                      refine wpAnyH_take (i := 8) (oi := _) (v := ?_) (op_atC rfl) (by kernel_rfl) (by kernel_rfl) (by kernel_rfl) (fun _ _ _ h => h) (Or.inl ⟨by rfl, ?_⟩) hHeld ?_
                      rotate_left 1
                      focus (intro W hSw; (try dsimp only at hSw); go_simp; (try (with_reducible rfl)))
                      (try simp only [Act.put, List.setIfInBounds_toArray, List.set_cons_zero, List.set_cons_succ])
                      refine wpAnyH_ready (rs := [9]) (by kernel_rfl) (by simp) ?_
                      refine AllReadyH.cons (o := _) (op_atC rfl) (fun Kc hKc => ?_) AllReadyH.nil
                      go_simp
                      refine hKc.out _ _ ?_ (fun hHeld' => ?_)
                      focus exact ⟨(World.cell?_setCell_far _ _ _ _ (show w.heap.size ≠ b by omega)).trans ((World.cell?_setCell_far _ _ _ _ (show w.heap.size ≠ b by omega)).trans hHeld.1), (World.cell?_setCell_far _ _ _ _ (show w.heap.size ≠ b by omega)).trans ((World.cell?_setCell_far _ _ _ _ (show w.heap.size ≠ b by omega)).trans hHeld.2)⟩
                      clear hHeld
                      have hHeld := hHeld'
                      clear hHeld' hKc Kc
                      (try simp only [Act.put, List.setIfInBounds_toArray, List.set_cons_zero, List.set_cons_succ])
                      refine wpAnyH_take (i := 10) (oi := _) (v := ?_) (op_atC rfl) (by kernel_rfl) (by kernel_rfl) (by kernel_rfl) (fun _ _ _ h => h) (Or.inl ⟨by rfl, ?_⟩) hHeld ?_
                      rotate_left 1
                      focus (intro W hSw; (try dsimp only at hSw); go_simp; (try (with_reducible rfl)))
                      (try simp only [Act.put, List.setIfInBounds_toArray, List.set_cons_zero, List.set_cons_succ])
                      refine wpAnyH_take (i := 11) (oi := _) (v := ?_) (op_atC rfl) (by kernel_rfl) (by kernel_rfl) (by kernel_rfl) (fun _ _ _ h => h) (Or.inl ⟨by rfl, ?_⟩) hHeld ?_
                      rotate_left 1
                      focus (intro W hSw; (try dsimp only at hSw); go_simp; (try (with_reducible rfl)))
                      (try simp only [Act.put, List.setIfInBounds_toArray, List.set_cons_zero, List.set_cons_succ])
                      refine wpAnyH_done (by kernel_rfl) ?_ _
                      clear hHeld
                      go_wp2
                      generalize World.drew (World.setCell (World.setCell _ _ _) _ _) = W9 at *
                      have z0 := HZ.out.val 0 rfl
                      have z1 := HZ.out.val 1 rfl
                      refine bodyPost_ret (v := .tuple #[.agg #[.slice none 0 0, .slice none 0 0], .int .i64 x.2, .int .i64 x.1]) (by simp [results, Try.results7, go_sem, z0, z1]) rfl ?_
                      unfold DecPost
                      rw [HX.out]
                      exact ⟨⟨HNE.out, rfl⟩, HE.out⟩
                    | ok q =>
                      have HOK := HF.out.ok
                      have HX := Lib.hid (dec_of_ok hl HOK)
                      obtain ⟨c2, cc1, hq6⟩ := hSz.okC
                      by_cases hq : q < bs.length
                      · have hq' : (q : Int) < (bs.length : Int) := by omega
                        replace HX : Hid (decD bs = .error (11, (q : Int))) := HX.out.trans (if_pos hq)
                        have HS4 := Lib.hid hSz
                        clear hSz KP HF CL UL HOK
                        go_wp2_with fail
                        refine (HS4.out.rfailed (q : Int) 11 (by decide)).mono ?_
                        rintro e' wz2 ⟨⟨u5, rfl⟩, hS5, hT5z⟩
                        have hSz : RdS 59 wz2 B b bs (.error (11, (q : Int))) := hS5
                        have Kz := Kz.touch hT5z (by omega)
                        have HBz := HBz.trans (hT5z.below (B := w.heap.size) (by omega) (fun k hk => by omega))
                        clear HS4 c2 cc1 hT5z hS5
                        generalize wz2 = wz at *
                        obtain ⟨pq, _, hA5⟩ := (show ∃ pq : Nat, pq ≤ bs.length ∧ RdAt 59 wz B (b) bs (pq : Int) (11 : Int) (q : Int) from hSz.2)
                        obtain ⟨v5, kA, _⟩ := hA5.ex
                        have HNE : Hid ((11 : Int) ≠ (0 : Int)) := hSz.1
                        have ne5 : ((11 : Int) != (0 : Int)) = true := bne_iff_ne.2 hSz.1
                        have d2 := kA.val 2 rfl
                        have d3 := kA.val 3 rfl
                        have r0 := Kz.val 0 rfl
                        have r1 := Kz.val 1 rfl
                        have f0 := Kz.frozen 0
                        have f1 := Kz.frozen 1
                        have hT6 := ((Touch.refl (fun y => w.heap.size ≤ y) wz).setCell (p := ⟨w.heap.size, 0, none⟩) (Nat.le_refl _) (.slice none 0 0)).setCell (p := ⟨w.heap.size, 1, none⟩) (Nat.le_refl _) (.slice none 0 0)
                        have HE := Lib.hid (HBz.trans (hT6.below HBz.size (fun k hk => hk))).drew
                        have HZ := Lib.hid ((Kz.set 0 (.slice none 0 0)).set 1 (.slice none 0 0)).drew
                        have HSq : Hid (wz.drew.cell? ⟨b, 2, none⟩ = some (.int .i64 (11 : Int)) ∧ wz.drew.cell? ⟨b, 3, none⟩ = some (.int .i64 (q : Int))) := ⟨d2, d3⟩
                        clear hSz hA5 kA Kz HBz hT6
                        go_upto_region 42 with fail
                        refine wp_region_held_drew (S := (fun W' => W'.cell? ⟨b, 2, none⟩ = some (.int .i64 (11 : Int)) ∧ W'.cell? ⟨b, 3, none⟩ = some (.int .i64 (q : Int)))) (by kernel_rfl) HSq.out (fun hHeld => ?_)
                        refine wpAnyH_take (i := 0) (oi := _) (v := ?_) (op_atC rfl) (by kernel_rfl) (by kernel_rfl) (by kernel_rfl) (fun _ _ _ h => h) (Or.inl ⟨by rfl, ?_⟩) hHeld ?_
                        rotate_left 1
                        focus (intro W hSw; (try dsimp only at hSw); go_simp; (try (with_reducible rfl)))
                        (try simp only [Act.put, List.setIfInBounds_toArray, List.set_cons_zero, List.set_cons_succ])
                        refine wpAnyH_take (i := 1) (oi := _) (v := ?_) (op_atC rfl) (by kernel_rfl) (by kernel_rfl) (by kernel_rfl) (fun _ _ _ h => h) (Or.inl ⟨by rfl, ?_⟩) hHeld ?_
                        rotate_left 1
                        focus (intro W hSw; (try dsimp only at hSw); go_simp; (try (with_reducible rfl)))
                        (try simp only [Act.put, List.setIfInBounds_toArray, List.set_cons_zero, List.set_cons_succ])
                        refine wpAnyH_take (i := 2) (oi := _) (v := ?_) (op_atC rfl) (by kernel_rfl) (by kernel_rfl) (by kernel_rfl) (fun _ _ _ h => h) (Or.inl ⟨by rfl, ?_⟩) hHeld ?_
                        rotate_left 1
                        focus (intro W hSw; (try dsimp only at hSw); go_simp; (try (with_reducible rfl)))
                        (try simp only [Act.put, List.setIfInBounds_toArray, List.set_cons_zero, List.set_cons_succ])
                        refine wpAnyH_take (i := 3) (oi := _) (v := ?_) (op_atC rfl) (by kernel_rfl) (by kernel_rfl) (by kernel_rfl) (fun _ _ _ h => h) (Or.inl ⟨by rfl, ?_⟩) hHeld ?_
                        rotate_left 1
                        focus (intro W hSw; (try dsimp only at hSw); go_simp; (try (with_reducible rfl)))
                        (try simp only [Act.put, List.setIfInBounds_toArray, List.set_cons_zero, List.set_cons_succ])
                        refine wpAnyH_take (i := 4) (oi := _) (v := ?_) (op_atC rfl) (by kernel_rfl) (by kernel_rfl) (by kernel_rfl) (fun _ _ _ h => h) (Or.inl ⟨by rfl, ?_⟩) hHeld ?_
                        rotate_left 1
                        focus (intro W hSw; (try dsimp only at hSw); go_simp; (try (with_reducible rfl)))
                        (try simp only [Act.put, List.setIfInBounds_toArray, List.set_cons_zero, List.set_cons_succ])
                        refine wpAnyH_take (i := 5) (oi := _) (v := ?_) (op_atC rfl) (by kernel_rfl) (by kernel_rfl) (by kernel_rfl) (fun _ _ _ h => h) (Or.inl ⟨by rfl, ?_⟩) hHeld ?_
                        rotate_left 1
                        focus (intro W hSw; (try dsimp only at hSw); go_simp; (try (with_reducible rfl)))
                        (try simp only [Act.put, List.setIfInBounds_toArray, List.set_cons_zero, List.set_cons_succ])
                        refine wpAnyH_take (i := 6) (oi := _) (v := ?_) (op_atC rfl) (by kernel_rfl) (by kernel_rfl) (by kernel_rfl) (fun _ _ _ h => h) (Or.inl ⟨by rfl, ?_⟩) hHeld ?_
                        rotate_left 1
                        focus (intro W hSw; (try dsimp only at hSw); go_simp; (try (with_reducible rfl)))
                        (try simp only [Act.put, List.setIfInBounds_toArray, List.set_cons_zero, List.set_cons_succ])
                        refine wpAnyH_take (i := 7) (oi := _) (v := ?_) (op_atC rfl) (by kernel_rfl) (by kernel_rfl) (by kernel_rfl) (fun _ _ _ h => h) (Or.inl ⟨by rfl, ?_⟩) hHeld ?_
                        rotate_left 1
                        focus (intro W hSw; (try dsimp only at hSw); go_simp; (try (with_reducible rfl)))
                        (try simp only [Act.put, List.setIfInBounds_toArray, List.set_cons_zero, List.set_cons_succ])
                        refine wpAnyH_take (i := 8) (oi := _) (v := ?_) (op_atC rfl) (by kernel_rfl) (by kernel_rfl) (by kernel_rfl) (fun _ _ _ h => h) (Or.inl ⟨by rfl, ?_⟩) hHeld ?_
                        rotate_left 1
                        focus (intro W hSw; (try dsimp only at hSw); go_simp; (try (with_reducible rfl)))
                        (try simp only [Act.put, List.setIfInBounds_toArray, List.set_cons_zero, List.set_cons_succ])
                        refine wpAnyH_ready (rs := [9]) (by kernel_rfl) (by simp) ?_
                        refine AllReadyH.cons (o := _) (op_atC rfl) (fun Kc hKc => ?_) AllReadyH.nil
                        go_simp
                        refine hKc.out _ _ ?_ (fun hHeld' => ?_)
                        focus exact ⟨(World.cell?_setCell_far _ _ _ _ (show w.heap.size ≠ b by omega)).trans ((World.cell?_setCell_far _ _ _ _ (show w.heap.size ≠ b by omega)).trans hHeld.1), (World.cell?_setCell_far _ _ _ _ (show w.heap.size ≠ b by omega)).trans ((World.cell?_setCell_far _ _ _ _ (show w.heap.size ≠ b by omega)).trans hHeld.2)⟩
                        clear hHeld
                        have hHeld := hHeld'
                        clear hHeld' hKc Kc
                        (try simp only [Act.put, List.setIfInBounds_toArray, List.set_cons_zero, List.set_cons_succ])
                        refine wpAnyH_take (i := 10) (oi := _) (v := ?_) (op_atC rfl) (by kernel_rfl) (by kernel_rfl) (by kernel_rfl) (fun _ _ _ h => h) (Or.inl ⟨by rfl, ?_⟩) hHeld ?_
                        rotate_left 1
                        focus (intro W hSw; (try dsimp only at hSw); go_simp; (try (with_reducible rfl)))
                        (try simp only [Act.put, List.setIfInBounds_toArray, List.set_cons_zero, List.set_cons_succ])
                        refine wpAnyH_take (i := 11) (oi := _) (v := ?_) (op_atC rfl) (by kernel_rfl) (by kernel_rfl) (by kernel_rfl) (fun _ _ _ h => h) (Or.inl ⟨by rfl, ?_⟩) hHeld ?_
                        rotate_left 1
                        focus (intro W hSw; (try dsimp only at hSw); go_simp; (try (with_reducible rfl)))
                        (try simp only [Act.put, List.setIfInBounds_toArray, List.set_cons_zero, List.set_cons_succ])
                        refine wpAnyH_done (by kernel_rfl) ?_ _
                        clear hHeld
                        go_wp2
                        generalize World.drew (World.setCell (World.setCell _ _ _) _ _) = W9 at *
                        have z0 := HZ.out.val 0 rfl
                        have z1 := HZ.out.val 1 rfl
                        refine bodyPost_ret (v := .tuple #[.agg #[.slice none 0 0, .slice none 0 0], .int .i64 (q : Int), .int .i64 (11 : Int)]) (by simp [results, Try.results7, go_sem, z0, z1]) rfl ?_
                        unfold DecPost
                        rw [HX.out]
                        exact ⟨⟨HNE.out, rfl⟩, HE.out⟩
                      · have hq' : ¬ (q : Int) < (bs.length : Int) := by omega
                        replace HX : Hid (decD bs = .ok (PrgD.mk (lc.map fun x => x.1) (lf.map fun x => x.1))) := HX.out.trans (if_neg hq)
                        have y0 := KP.val 0 rfl
                        have y1 := KP.val 1 rfl
                        have r0 := Kz.val 0 rfl
                        have r1 := Kz.val 1 rfl
                        have f0 := Kz.frozen 0
                        have f1 := Kz.frozen 1
                        have hT6 := ((Touch.refl (fun y => y = w.heap.size) wz).setCell (p := ⟨w.heap.size, 0, none⟩) rfl (.slice a0 lc.length c0)).setCell (p := ⟨w.heap.size, 1, none⟩) rfl (.slice au lf.length cu)
                        have HZ := Lib.hid ((Kz.set 0 (.slice a0 lc.length c0)).set 1 (.slice au lf.length cu))
                        have HB6 := Lib.hid (HBz.trans (hT6.below (B := w.heap.size) (by omega) (fun k hk => by omega)))
                        have HP := Lib.hid (prg_own (p := ⟨lc.map fun x => x.1, lf.map fun x => x.1⟩) (CL.1.touch hT6 (fun g h1 _ e => by omega)) (UL.1.touch hT6 (fun g h1 _ e => by omega)) rfl rfl (decI_ok HOK).1)
                        clear hSz KP HF CL UL HOK hT6 Kz HBz
                        go_wp2
                        generalize World.setCell (World.setCell _ _ _) _ _ = W9 at *
                        have z0 := HZ.out.val 0 rfl
                        have z1 := HZ.out.val 1 rfl
                        refine bodyPost_ret (v := .tuple #[.agg #[.slice a0 lc.length c0, .slice au lf.length cu], .int .i64 0, .int .i64 0]) (by simp [results, Try.results7, go_sem, z0, z1]) rfl ?_
                        unfold DecPost
                        rw [HX.out]
                        exact ⟨⟨_, _, rfl, HP.out⟩, HB6.out⟩

end Go.Proofs.Ytffelcidckbohaa
