/- code's reader: number, whole. Condition: the reader is there. -/
import Derived.Test.YtffelcidckbohaaGCodeReads05
namespace Go.Proofs.Ytffelcidckbohaa
open Go.RowKit
set_option linter.unusedVariables false
theorem gath_step {bs : List UInt8} {p j : Nat} {l : List UInt8} {x : UInt8} (h : gathD bs 10 p = (gathD bs (10 - j) (p + j)).map (l ++ ·)) (hj : j < 10) (hb : bs[p + j]? = some x) :
    (128 ≤ x.toNat → gathD bs 10 p = (gathD bs (10 - (j + 1)) (p + (j + 1))).map ((l ++ [x]) ++ ·)) ∧ (x.toNat < 128 → gathD bs 10 p = some (l ++ [x])) := by
  generalize gathD bs 10 p = G at *
  rw [show 10 - j = (10 - (j + 1)) + 1 by omega, gathD, hb] at h
  simp only at h
  constructor
  · intro hx
    rw [if_pos hx] at h
    rw [h, Option.map_map]
    congr 1
    funext m
    simp
  · intro hx
    rw [if_neg (by omega)] at h
    rw [h]; rfl
theorem gath_none {bs : List UInt8} {p j : Nat} {l : List UInt8} (h : gathD bs 10 p = (gathD bs (10 - j) (p + j)).map (l ++ ·)) (hj : j < 10) (hb : bs[p + j]? = none) : gathD bs 10 p = none := by
  generalize gathD bs 10 p = G at *
  rw [show 10 - j = (10 - (j + 1)) + 1 by omega, gathD, hb] at h
  exact h
theorem gath_end {bs : List UInt8} {p : Nat} {l : List UInt8} (h : gathD bs 10 p = (gathD bs (10 - 10) (p + 10)).map (l ++ ·)) : gathD bs 10 p = some l := by
  rw [h, Nat.sub_self, gathD]; simp
/-- what the rounds of number know -/
def NumI (t : TypeId) (W : World) (B b : Nat) (bs : List UInt8) (p N y j : Nat) : Prop :=
  (∃ l : List UInt8, l.length = j ∧ N = valD l % 18446744073709551616 ∧ (j = 0 → y = 128) ∧ (0 < j → y = (lastD l).toNat) ∧ RdS t W B b bs (.ok (p + j)) ∧
    (128 ≤ y → gathD bs 10 p = (gathD bs (10 - j) (p + j)).map (l ++ ·)) ∧ (y < 128 → gathD bs 10 p = some l)) ∨
  (y = 0 ∧ N < 18446744073709551616 ∧ gathD bs 10 p = none ∧ RdS t W B b bs (.error (10, bs.length)))
theorem NumI.start {t : TypeId} {W : World} {B b : Nat} {bs : List UInt8} {p : Nat} (h : RdS t W B b bs (.ok p)) : NumI t W B b bs p 0 128 0 :=
  .inl ⟨[], rfl, by simp [valD], fun _ => rfl, fun h => absurd h (by omega), h, fun _ => by simp, fun h => absurd h (by omega)⟩
theorem NumI.lt {t : TypeId} {W : World} {B b : Nat} {bs : List UInt8} {p N y j : Nat} (h : NumI t W B b bs p N y j) : N < 18446744073709551616 := by
  rcases h with ⟨l, _, h, _⟩ | ⟨_, h, _⟩
  · rw [h]; exact Nat.mod_lt _ (by decide)
  · exact h
theorem NumI.y256 {t : TypeId} {W : World} {B b : Nat} {bs : List UInt8} {p N y j : Nat} (h : NumI t W B b bs p N y j) : y < 256 := by
  rcases h with ⟨l, _, _, h1, h2, _⟩ | ⟨h, _⟩
  · rcases Nat.eq_zero_or_pos j with e | e
    · rw [h1 e]; decide
    · rw [h2 e]; exact (lastD l).toNat_lt
  · rw [h]; decide
/-- a round: what came of next, and the number with a group more -/
theorem NumI.next {t : TypeId} {W' : World} {B b : Nat} {bs : List UInt8} {p N j : Nat} {x : UInt8} {st' : St} {l : List UInt8} (hl : l.length = j) (hN : N = valD l % 18446744073709551616) (hy : gathD bs 10 p = (gathD bs (10 - j) (p + j)).map (l ++ ·)) (hj : j < 10)
    (hG : Gets (after (.ok (p + j)) (nextD bs)) x st') (h0 : ∀ e, st' = .error e → x = 0) (hS : RdS t W' B b bs st') : NumI t W' B b bs p (valD (l ++ [x]) % 18446744073709551616) x.toNat (j + 1) := by
  rw [after_ok, nextD] at hG
  cases hb : bs[p + j]? with
  | none =>
    rw [hb] at hG
    rcases hG with ⟨q, h1, h2⟩ | ⟨e, h1, h2⟩
    · cases h1
    · injection h1 with h1
      subst h1 h2
      rw [h0 _ rfl]
      exact .inr ⟨rfl, Nat.mod_lt _ (by decide), gath_none hy hj hb, hS⟩
  | some c =>
    rw [hb] at hG
    rcases hG with ⟨q, h1, h2⟩ | ⟨e, h1, h2⟩
    · injection h1 with h1
      injection h1 with h1 h3
      subst h1 h2 h3
      obtain ⟨g1, g2⟩ := gath_step hy hj hb
      exact .inl ⟨l ++ [c], by simp [hl], rfl, fun h => absurd h (by omega), fun _ => by simp [lastD], hS, g1, g2⟩
    · cases h1
theorem num_none {bs : List UInt8} {p most : Nat} (h : gathD bs 10 p = none) : numD bs most p = .error (10, bs.length) := by rw [numD, h]
theorem num_some {bs : List UInt8} {p most : Nat} {l : List UInt8} (h : gathD bs 10 p = some l) : numD bs most p = if l.length = 10 ∧ 1 < (lastD l).toNat then .error (3, p) else if 1 < l.length ∧ (lastD l).toNat = 0 then .error (13, p) else if most < valD l then .error (3, p) else .ok (valD l, p + l.length) := by rw [numD, h]
/-- no number of ten bytes is too great, unless the last byte is -/
theorem val_fit {l : List UInt8} (h : l.length ≤ 10) (h1 : ¬ (l.length = 10 ∧ 1 < (lastD l).toNat)) : valD l < 18446744073709551616 := by
  have h2 := valD_lt l
  by_cases e : l.length = 10
  · have hne : l ≠ [] := by intro q; subst q; simp at e
    have h3 := List.dropLast_concat_getLast hne
    have h4 : lastD l = l.getLast hne := by unfold lastD; rw [List.getLastD_eq_getLast?, List.getLast?_eq_some_getLast hne]; rfl
    rw [← h3, valD_app, List.length_dropLast, e, ← h4]
    have h5 := valD_lt l.dropLast
    rw [List.length_dropLast, e, pow128] at h5
    rw [pow128]
    have h6 : (lastD l).toNat ≤ 1 := by
      by_cases q : 1 < (lastD l).toNat
      · exact absurd ⟨e, q⟩ h1
      · omega
    rw [Nat.mod_eq_of_lt (by omega)]
    have h7 : (2 : Nat) ^ (7 * (10 - 1)) = 9223372036854775808 := by decide
    rw [h7] at h5 ⊢
    have : (lastD l).toNat * 9223372036854775808 ≤ 1 * 9223372036854775808 := Nat.mul_le_mul_right _ h6
    omega
  · rw [pow128] at h2
    have : (2 : Nat) ^ (7 * l.length) ≤ 2 ^ 63 := Nat.pow_le_pow_right (by decide) (by omega)
    omega
/-- the error's cell -/
theorem RdS.errC {t : TypeId} {w : World} {B b : Nat} {bs : List UInt8} {x : DErr} (h : RdS t w B b bs (.error x)) : w.cell? ⟨b, 2, none⟩ = some (.int .i64 x.1) ∧ (x.1 != 0) = true ∧ (x.1 == 0) = false ∧ ∃ q : Nat, q ≤ 65536 ∧ w.cell? ⟨b, 1, none⟩ = some (.int .i64 (q : Int)) := by
  obtain ⟨h0, q, h1, ⟨v, h2, _⟩, _, h4⟩ := h
  exact ⟨h2.val 2 rfl, by simpa using h0, by simpa using h0, q, by omega, h2.val 1 rfl⟩
theorem RdS.okC {t : TypeId} {w : World} {B b : Nat} {bs : List UInt8} {p : Nat} (h : RdS t w B b bs (.ok p)) : w.cell? ⟨b, 2, none⟩ = some (.int .i64 0) ∧ w.cell? ⟨b, 1, none⟩ = some (.int .i64 (p : Int)) ∧ p ≤ 65536 := by
  obtain ⟨⟨bad, ⟨v, h2, _⟩, _, h4⟩, h3⟩ := h
  exact ⟨h2.val 2 rfl, h2.val 1 rfl, by omega⟩
theorem val_step2 (l : List UInt8) (b : UInt8) (j : Nat) (hl : l.length = j) (hk : j ≤ 9) : bits .or .u64 ((valD l : Int) % 18446744073709551616) (IntKind.u64.wrap (IntKind.u64.wrap (bits .and .u8 (b.toNat : Int) 127) * 2 ^ (7 * j))) = ((valD (l ++ [b]) % 18446744073709551616 : Nat) : Int) := by
  subst hl
  have h1 := valD_lt l
  rw [pow128] at h1
  have h2 : (2 : Nat) ^ (7 * l.length) ≤ 2 ^ 63 := Nat.pow_le_pow_right (by decide) (by omega)
  rw [← val_step l b hk, and127, show (valD l : Int) % 18446744073709551616 = (valD l : Int) by omega, show IntKind.u64.wrap ((b.toNat : Int) % 128) = (b.toNat : Int) % 128 by rw [IntKind.wrap_u64]; omega]
theorem st_no {p : Nat} {y : DErr} {P : Prop} (h : (Except.ok p : St) = .error y) : P := by cases h
/-- a number was read, or is 0 in error -/
def ReadsN (t : TypeId) (B b : Nat) (bs : List UInt8) (r : Rd Nat) (w : World) (e' : Ending) (w' : World) : Prop :=
  ∃ (x : Nat) (st' : St), e' = .returned (.int .u64 x) ∧ Gets r x st' ∧ (∀ y, st' = .error y → x = 0) ∧ RdS t w' B b bs st' ∧ RdT b w w'
set_option maxRecDepth 100000 in
set_option maxHeartbeats 2000000 in
theorem number_ok (t : TypeId) (w : World) (B b : Nat) (bs : List UInt8) (p most : Nat) (h : RdS t w B b bs (.ok p)) (hm : most < 18446744073709551616) :
    Calls Try.prog 38 #[.pointer (some ⟨b, 0, none⟩), .int .u64 most] w (ReadsN t B b bs (numD bs most p) w) := by
  obtain ⟨c2, c1, hp⟩ := h.okC
  have HS := Lib.hid h
  clear h
  go_enter Try.func38, Try.ntmps38
  go_wp2
  go_loopw [6, 7, 8] (fun n y k wr => ∃ (N Y j : Nat), n = .int .u64 N ∧ y = .int .u8 Y ∧ k = .int .i64 j ∧ j ≤ 10 ∧ NumI t wr B b bs p N Y j ∧ RdT b w wr) (fun _ _ k _ => 10 - (intOf k).toNat)
  case atStart => exact ⟨0, 128, 0, rfl, rfl, rfl, by omega, NumI.start HS.out, Touch.refl _ _⟩
  case round =>
    obtain ⟨N, Y, j, rfl, rfl, rfl, hj, hI, hT⟩ := hrel
    have hY := hI.y256
    have hN := hI.lt
    by_cases hc : j < 10 ∧ 128 ≤ Y
    · obtain ⟨hj2, hy2⟩ := hc
      have hj2' : (j : Int) < 10 := by omega
      have hy2' : (128 : Int) ≤ (Y : Int) := by omega
      rcases hI with ⟨l, hl, hNl, _, _, hS, hg, _⟩ | ⟨e0, _⟩
      · have NX := Lib.hid (next_any t wr B b bs _ hS)
        have HG := Lib.hid (hg hy2)
        clear hg hS hY hN
        go_wp2_with fail
        refine NX.out.mono ?_
        rintro e' w2 ⟨x, st', rfl, hG, h0, hS2, hT2⟩
        have HX := Lib.hid (And.intro hG (And.intro h0 (And.intro hS2 hT2)))
        clear hG h0 hS2 hT2
        go_wp2
        go_roundw
        case rel => exact ⟨valD (l ++ [x]) % 18446744073709551616, x.toNat, j + 1, by rw [val_step2 l x j hl (by omega)], rfl, by go_num, by omega, NumI.next hl hNl HG.out hj2 HX.out.1 HX.out.2.1 HX.out.2.2.1, hT.trans HX.out.2.2.2⟩
        case measure => simp [intOf]; omega
      · omega
    · -- the way out
      rcases hI with ⟨l, hl, hNl, hy0, hy1, hS, hg, hg2⟩ | ⟨e0, hN0, hg, hS⟩
      · have hj1 : 0 < j := by
          rcases Nat.eq_zero_or_pos j with e | e
          · exact absurd ⟨by omega, by rw [hy0 e]; omega⟩ hc
          · exact e
        have hG : gathD bs 10 p = some l := by
          by_cases h10 : j = 10
          · subst h10
            by_cases h128 : 128 ≤ Y
            · exact gath_end (hg h128)
            · exact hg2 (by omega)
          · exact hg2 (by omega)
        have hYl := hy1 hj1
        have ND := num_some (most := most) hG
        rw [← hYl, hl] at ND
        have FT : ¬ (j = 10 ∧ 1 < Y) → N = valD l := fun h => by rw [hNl]; exact Nat.mod_eq_of_lt (val_fit (by omega) (by rw [hl, ← hYl]; exact h))
        obtain ⟨c2w, c1w, hpj⟩ := hS.okC
        have HS2 := Lib.hid hS
        have HND := Lib.hid ND
        have HFT := Lib.hid FT
        have hpj2 : ((p + j : Nat) : Int) = (p : Int) + (j : Int) := by omega
        rw [hpj2] at c1w
        clear hS hy0 hy1 hg hg2 hG hYl ND FT hNl hl c1 c2 hpj2
        have hjj : (p : Int) + (j : Int) - (p : Int) = (j : Int) := by omega
        have HC : Hid (j < 10 → Y < 128) := fun h => by omega
        clear hc
        by_cases h10 : j = 10
        · have h10' : ¬ (j : Int) < 10 := by omega
          have l10 : ((j : Int) == 10) = true := by simp; omega
          have l1 : (1 : Int) < (j : Int) := by omega
          by_cases hA : 1 < Y
          · have hA' : (1 : Int) < (Y : Int) := by omega
            have hY0 : ((Y : Int) == 0) = false := by simp; omega
            have HE : Hid (numD bs most p = .error (3, (p : Int))) := HND.out.trans (if_pos ⟨h10, hA⟩)
            clear HND HFT HC
            go_wp2_with fail
            refine (HS2.out.failed (p : Int) 3 (by decide)).mono ?_
            rintro e' w3 ⟨⟨u3, rfl⟩, hS3, hT3⟩
            change RdS t w3 B b bs (.error (3, (p : Int))) at hS3
            obtain ⟨c23, e13, e23, _⟩ := hS3.errC
            have H3 := Lib.hid hS3
            have hT3 := hT.trans hT3
            clear hS3
            by_cases hq : most < N
            · have hq' : (most : Int) < (N : Int) := by omega
              go_wp2_with fail
              refine (H3.out.failed (p : Int) 3 (by decide)).mono ?_
              rintro e' w4 ⟨⟨u4, rfl⟩, hS4, hT4⟩
              change RdS t w4 B b bs (.error (3, (p : Int))) at hS4
              obtain ⟨c24, e14, e24, _⟩ := hS4.errC
              have H4 := Lib.hid (And.intro hS4 hT4)
              clear hS4 hT4
              go_wp2
              go_ret
              exact ⟨0, .error (3, (p : Int)), rfl, .inr ⟨_, HE.out, rfl⟩, fun _ _ => rfl, H4.out.1, hT3.trans H4.out.2⟩
            · have hq' : ¬ (most : Int) < (N : Int) := by omega
              obtain ⟨c24, e14, e24, _⟩ := H3.out.errC
              go_wp2
              go_ret
              exact ⟨0, .error (3, (p : Int)), rfl, .inr ⟨_, HE.out, rfl⟩, fun _ _ => rfl, H3.out, hT3⟩
          · have hA' : ¬ (1 : Int) < (Y : Int) := by omega
            have hNA : ¬ (j = 10 ∧ 1 < Y) := fun h => hA h.2
            have hNv := HFT.out hNA
            have HND2 := Lib.hid (HND.out.trans (if_neg hNA))
            by_cases hB : Y = 0
            · have hY0 : ((Y : Int) == 0) = true := by simp; omega
              have HE : Hid (numD bs most p = .error (13, (p : Int))) := HND2.out.trans (if_pos ⟨by omega, hB⟩)
              clear HND HND2 HFT HC hNv
              go_wp2_with fail
              refine (HS2.out.failed (p : Int) 13 (by decide)).mono ?_
              rintro e' w3 ⟨⟨u3, rfl⟩, hS3, hT3⟩
              change RdS t w3 B b bs (.error (13, (p : Int))) at hS3
              obtain ⟨c23, e13, e23, _⟩ := hS3.errC
              have H3 := Lib.hid hS3
              have hT3 := hT.trans hT3
              clear hS3
              by_cases hq : most < N
              · have hq' : (most : Int) < (N : Int) := by omega
                go_wp2_with fail
                refine (H3.out.failed (p : Int) 3 (by decide)).mono ?_
                rintro e' w4 ⟨⟨u4, rfl⟩, hS4, hT4⟩
                change RdS t w4 B b bs (.error (13, (p : Int))) at hS4
                obtain ⟨c24, e14, e24, _⟩ := hS4.errC
                have H4 := Lib.hid (And.intro hS4 hT4)
                clear hS4 hT4
                go_wp2
                go_ret
                exact ⟨0, .error (13, (p : Int)), rfl, .inr ⟨_, HE.out, rfl⟩, fun _ _ => rfl, H4.out.1, hT3.trans H4.out.2⟩
              · have hq' : ¬ (most : Int) < (N : Int) := by omega
                obtain ⟨c24, e14, e24, _⟩ := H3.out.errC
                go_wp2
                go_ret
                exact ⟨0, .error (13, (p : Int)), rfl, .inr ⟨_, HE.out, rfl⟩, fun _ _ => rfl, H3.out, hT3⟩
            · have hY0 : ((Y : Int) == 0) = false := by simp; omega
              have HND3 := Lib.hid (HND2.out.trans (if_neg fun h => hB h.2))
              clear HND HND2 HFT HC
              rw [← hNv] at HND3
              clear hNv
              by_cases hq : most < N
              · have hq' : (most : Int) < (N : Int) := by omega
                have HE : Hid (numD bs most p = .error (3, (p : Int))) := HND3.out.trans (if_pos hq)
                clear HND3
                go_wp2_with fail
                refine (HS2.out.failed (p : Int) 3 (by decide)).mono ?_
                rintro e' w4 ⟨⟨u4, rfl⟩, hS4, hT4⟩
                change RdS t w4 B b bs (.error (3, (p : Int))) at hS4
                obtain ⟨c24, e14, e24, _⟩ := hS4.errC
                have H4 := Lib.hid (And.intro hS4 hT4)
                clear hS4 hT4
                go_wp2
                go_ret
                exact ⟨0, _, rfl, .inr ⟨_, HE.out, rfl⟩, fun _ _ => rfl, H4.out.1, hT.trans H4.out.2⟩
              · have hq' : ¬ (most : Int) < (N : Int) := by omega
                go_wp2
                go_ret
                exact ⟨N, .ok (p + j), rfl, .inl ⟨_, HND3.out.trans (if_neg hq), rfl⟩, fun _ h => st_no h, HS2.out, hT⟩
        · have h10' : (j : Int) < 10 := by omega
          have hY' : ¬ (128 : Int) ≤ (Y : Int) := by have := HC.out (by omega); omega
          have l10 : ((j : Int) == 10) = false := by simp; omega
          have hNA : ¬ (j = 10 ∧ 1 < Y) := fun h => h10 h.1
          have hNv := HFT.out hNA
          have HND2 := Lib.hid (HND.out.trans (if_neg hNA))
          by_cases hB : 1 < j ∧ Y = 0
          · have l1 : (1 : Int) < (j : Int) := by omega
            have hY0 : ((Y : Int) == 0) = true := by simp; omega
            have HE : Hid (numD bs most p = .error (13, (p : Int))) := HND2.out.trans (if_pos hB)
            clear HND HND2 HFT HC hNv
            go_wp2_with fail
            refine (HS2.out.failed (p : Int) 13 (by decide)).mono ?_
            rintro e' w3 ⟨⟨u3, rfl⟩, hS3, hT3⟩
            change RdS t w3 B b bs (.error (13, (p : Int))) at hS3
            obtain ⟨c23, e13, e23, _⟩ := hS3.errC
            have H3 := Lib.hid hS3
            have hT3 := hT.trans hT3
            clear hS3
            by_cases hq : most < N
            · have hq' : (most : Int) < (N : Int) := by omega
              go_wp2_with fail
              refine (H3.out.failed (p : Int) 3 (by decide)).mono ?_
              rintro e' w4 ⟨⟨u4, rfl⟩, hS4, hT4⟩
              change RdS t w4 B b bs (.error (13, (p : Int))) at hS4
              obtain ⟨c24, e14, e24, _⟩ := hS4.errC
              have H4 := Lib.hid (And.intro hS4 hT4)
              clear hS4 hT4
              go_wp2
              go_ret
              exact ⟨0, .error (13, (p : Int)), rfl, .inr ⟨_, HE.out, rfl⟩, fun _ _ => rfl, H4.out.1, hT3.trans H4.out.2⟩
            · have hq' : ¬ (most : Int) < (N : Int) := by omega
              obtain ⟨c24, e14, e24, _⟩ := H3.out.errC
              go_wp2
              go_ret
              exact ⟨0, .error (13, (p : Int)), rfl, .inr ⟨_, HE.out, rfl⟩, fun _ _ => rfl, H3.out, hT3⟩
          · have HND3 := Lib.hid (HND2.out.trans (if_neg hB))
            clear HND HND2 HFT HC
            rw [← hNv] at HND3
            clear hNv
            by_cases l1 : 1 < j
            · have l1' : (1 : Int) < (j : Int) := by omega
              have hY0 : ((Y : Int) == 0) = false := by simp; omega
              by_cases hq : most < N
              · have hq' : (most : Int) < (N : Int) := by omega
                have HE : Hid (numD bs most p = .error (3, (p : Int))) := HND3.out.trans (if_pos hq)
                clear HND3
                go_wp2_with fail
                refine (HS2.out.failed (p : Int) 3 (by decide)).mono ?_
                rintro e' w4 ⟨⟨u4, rfl⟩, hS4, hT4⟩
                change RdS t w4 B b bs (.error (3, (p : Int))) at hS4
                obtain ⟨c24, e14, e24, _⟩ := hS4.errC
                have H4 := Lib.hid (And.intro hS4 hT4)
                clear hS4 hT4
                go_wp2
                go_ret
                exact ⟨0, _, rfl, .inr ⟨_, HE.out, rfl⟩, fun _ _ => rfl, H4.out.1, hT.trans H4.out.2⟩
              · have hq' : ¬ (most : Int) < (N : Int) := by omega
                go_wp2
                go_ret
                exact ⟨N, .ok (p + j), rfl, .inl ⟨_, HND3.out.trans (if_neg hq), rfl⟩, fun _ h => st_no h, HS2.out, hT⟩
            · have l1' : ¬ (1 : Int) < (j : Int) := by omega
              by_cases hq : most < N
              · have hq' : (most : Int) < (N : Int) := by omega
                have HE : Hid (numD bs most p = .error (3, (p : Int))) := HND3.out.trans (if_pos hq)
                clear HND3
                go_wp2_with fail
                refine (HS2.out.failed (p : Int) 3 (by decide)).mono ?_
                rintro e' w4 ⟨⟨u4, rfl⟩, hS4, hT4⟩
                change RdS t w4 B b bs (.error (3, (p : Int))) at hS4
                obtain ⟨c24, e14, e24, _⟩ := hS4.errC
                have H4 := Lib.hid (And.intro hS4 hT4)
                clear hS4 hT4
                go_wp2
                go_ret
                exact ⟨0, _, rfl, .inr ⟨_, HE.out, rfl⟩, fun _ _ => rfl, H4.out.1, hT.trans H4.out.2⟩
              · have hq' : ¬ (most : Int) < (N : Int) := by omega
                go_wp2
                go_ret
                exact ⟨N, .ok (p + j), rfl, .inl ⟨_, HND3.out.trans (if_neg hq), rfl⟩, fun _ h => st_no h, HS2.out, hT⟩
      · subst e0
        have HE := Lib.hid (num_none (most := most) hg)
        obtain ⟨c2w, e1w, e2w, q, hq6, c1w⟩ := hS.errC
        have H3 := Lib.hid hS
        clear hS hg hY hc c1 c2
        have hlb : -70000 ≤ (q : Int) - (p : Int) ∧ (q : Int) - (p : Int) ≤ 70000 := by omega
        by_cases hj10 : j < 10
        all_goals (first | (have hj10' : (j : Int) < 10 := (by omega)) | (have hj10' : ¬ (j : Int) < 10 := (by omega)))
        all_goals go_upto_region 9 with fail
        all_goals clear hj10 hj10' c1w c2w
        all_goals generalize (q : Int) - (p : Int) = len at *
        · by_cases l10 : len = 10
          · have l1 : 1 < len := by omega
            have l10' : (len == 10) = true := by simp; omega
            go_wp2_with fail
            refine (H3.out.failed (p : Int) 13 (by decide)).mono ?_
            rintro e' w3 ⟨⟨u3, rfl⟩, hS3, hT3⟩
            change RdS t w3 B b bs (.error (10, (bs.length : Int))) at hS3
            obtain ⟨c23, e13, e23, _⟩ := hS3.errC
            have H4 := Lib.hid hS3
            have hT3 := hT.trans hT3
            clear hS3
            by_cases hq : most < N
            · have hq' : (most : Int) < (N : Int) := by omega
              go_wp2_with fail
              refine (H4.out.failed (p : Int) 3 (by decide)).mono ?_
              rintro e' w4 ⟨⟨u4, rfl⟩, hS4, hT4⟩
              change RdS t w4 B b bs (.error (10, (bs.length : Int))) at hS4
              obtain ⟨c24, e14, e24, _⟩ := hS4.errC
              have H5 := Lib.hid (And.intro hS4 hT4)
              clear hS4 hT4
              go_wp2
              go_ret
              exact ⟨0, .error (10, (bs.length : Int)), rfl, .inr ⟨_, HE.out, rfl⟩, fun _ _ => rfl, H5.out.1, hT3.trans H5.out.2⟩
            · have hq' : ¬ (most : Int) < (N : Int) := by omega
              obtain ⟨c24, e14, e24, _⟩ := H4.out.errC
              go_wp2
              go_ret
              exact ⟨0, .error (10, (bs.length : Int)), rfl, .inr ⟨_, HE.out, rfl⟩, fun _ _ => rfl, H4.out, hT3⟩
          · have l10' : (len == 10) = false := by simp; omega
            by_cases l1 : 1 < len
            · skip
              go_wp2_with fail
              refine (H3.out.failed (p : Int) 13 (by decide)).mono ?_
              rintro e' w3 ⟨⟨u3, rfl⟩, hS3, hT3⟩
              change RdS t w3 B b bs (.error (10, (bs.length : Int))) at hS3
              obtain ⟨c23, e13, e23, _⟩ := hS3.errC
              have H4 := Lib.hid hS3
              have hT3 := hT.trans hT3
              clear hS3
              by_cases hq : most < N
              · have hq' : (most : Int) < (N : Int) := by omega
                go_wp2_with fail
                refine (H4.out.failed (p : Int) 3 (by decide)).mono ?_
                rintro e' w4 ⟨⟨u4, rfl⟩, hS4, hT4⟩
                change RdS t w4 B b bs (.error (10, (bs.length : Int))) at hS4
                obtain ⟨c24, e14, e24, _⟩ := hS4.errC
                have H5 := Lib.hid (And.intro hS4 hT4)
                clear hS4 hT4
                go_wp2
                go_ret
                exact ⟨0, .error (10, (bs.length : Int)), rfl, .inr ⟨_, HE.out, rfl⟩, fun _ _ => rfl, H5.out.1, hT3.trans H5.out.2⟩
              · have hq' : ¬ (most : Int) < (N : Int) := by omega
                obtain ⟨c24, e14, e24, _⟩ := H4.out.errC
                go_wp2
                go_ret
                exact ⟨0, .error (10, (bs.length : Int)), rfl, .inr ⟨_, HE.out, rfl⟩, fun _ _ => rfl, H4.out, hT3⟩
            · skip
              by_cases hq : most < N
              · have hq' : (most : Int) < (N : Int) := by omega
                go_wp2_with fail
                refine (H3.out.failed (p : Int) 3 (by decide)).mono ?_
                rintro e' w4 ⟨⟨u4, rfl⟩, hS4, hT4⟩
                change RdS t w4 B b bs (.error (10, (bs.length : Int))) at hS4
                obtain ⟨c24, e14, e24, _⟩ := hS4.errC
                have H4 := Lib.hid (And.intro hS4 hT4)
                clear hS4 hT4
                go_wp2
                go_ret
                exact ⟨0, .error (10, (bs.length : Int)), rfl, .inr ⟨_, HE.out, rfl⟩, fun _ _ => rfl, H4.out.1, hT.trans H4.out.2⟩
              · have hq' : ¬ (most : Int) < (N : Int) := by omega
                obtain ⟨c24, e14, e24, _⟩ := H3.out.errC
                go_wp2
                go_ret
                exact ⟨0, .error (10, (bs.length : Int)), rfl, .inr ⟨_, HE.out, rfl⟩, fun _ _ => rfl, H3.out, hT⟩
        · by_cases l10 : len = 10
          · have l1 : 1 < len := by omega
            have l10' : (len == 10) = true := by simp; omega
            go_wp2_with fail
            refine (H3.out.failed (p : Int) 13 (by decide)).mono ?_
            rintro e' w3 ⟨⟨u3, rfl⟩, hS3, hT3⟩
            change RdS t w3 B b bs (.error (10, (bs.length : Int))) at hS3
            obtain ⟨c23, e13, e23, _⟩ := hS3.errC
            have H4 := Lib.hid hS3
            have hT3 := hT.trans hT3
            clear hS3
            by_cases hq : most < N
            · have hq' : (most : Int) < (N : Int) := by omega
              go_wp2_with fail
              refine (H4.out.failed (p : Int) 3 (by decide)).mono ?_
              rintro e' w4 ⟨⟨u4, rfl⟩, hS4, hT4⟩
              change RdS t w4 B b bs (.error (10, (bs.length : Int))) at hS4
              obtain ⟨c24, e14, e24, _⟩ := hS4.errC
              have H5 := Lib.hid (And.intro hS4 hT4)
              clear hS4 hT4
              go_wp2
              go_ret
              exact ⟨0, .error (10, (bs.length : Int)), rfl, .inr ⟨_, HE.out, rfl⟩, fun _ _ => rfl, H5.out.1, hT3.trans H5.out.2⟩
            · have hq' : ¬ (most : Int) < (N : Int) := by omega
              obtain ⟨c24, e14, e24, _⟩ := H4.out.errC
              go_wp2
              go_ret
              exact ⟨0, .error (10, (bs.length : Int)), rfl, .inr ⟨_, HE.out, rfl⟩, fun _ _ => rfl, H4.out, hT3⟩
          · have l10' : (len == 10) = false := by simp; omega
            by_cases l1 : 1 < len
            · skip
              go_wp2_with fail
              refine (H3.out.failed (p : Int) 13 (by decide)).mono ?_
              rintro e' w3 ⟨⟨u3, rfl⟩, hS3, hT3⟩
              change RdS t w3 B b bs (.error (10, (bs.length : Int))) at hS3
              obtain ⟨c23, e13, e23, _⟩ := hS3.errC
              have H4 := Lib.hid hS3
              have hT3 := hT.trans hT3
              clear hS3
              by_cases hq : most < N
              · have hq' : (most : Int) < (N : Int) := by omega
                go_wp2_with fail
                refine (H4.out.failed (p : Int) 3 (by decide)).mono ?_
                rintro e' w4 ⟨⟨u4, rfl⟩, hS4, hT4⟩
                change RdS t w4 B b bs (.error (10, (bs.length : Int))) at hS4
                obtain ⟨c24, e14, e24, _⟩ := hS4.errC
                have H5 := Lib.hid (And.intro hS4 hT4)
                clear hS4 hT4
                go_wp2
                go_ret
                exact ⟨0, .error (10, (bs.length : Int)), rfl, .inr ⟨_, HE.out, rfl⟩, fun _ _ => rfl, H5.out.1, hT3.trans H5.out.2⟩
              · have hq' : ¬ (most : Int) < (N : Int) := by omega
                obtain ⟨c24, e14, e24, _⟩ := H4.out.errC
                go_wp2
                go_ret
                exact ⟨0, .error (10, (bs.length : Int)), rfl, .inr ⟨_, HE.out, rfl⟩, fun _ _ => rfl, H4.out, hT3⟩
            · skip
              by_cases hq : most < N
              · have hq' : (most : Int) < (N : Int) := by omega
                go_wp2_with fail
                refine (H3.out.failed (p : Int) 3 (by decide)).mono ?_
                rintro e' w4 ⟨⟨u4, rfl⟩, hS4, hT4⟩
                change RdS t w4 B b bs (.error (10, (bs.length : Int))) at hS4
                obtain ⟨c24, e14, e24, _⟩ := hS4.errC
                have H4 := Lib.hid (And.intro hS4 hT4)
                clear hS4 hT4
                go_wp2
                go_ret
                exact ⟨0, .error (10, (bs.length : Int)), rfl, .inr ⟨_, HE.out, rfl⟩, fun _ _ => rfl, H4.out.1, hT.trans H4.out.2⟩
              · have hq' : ¬ (most : Int) < (N : Int) := by omega
                obtain ⟨c24, e14, e24, _⟩ := H3.out.errC
                go_wp2
                go_ret
                exact ⟨0, .error (10, (bs.length : Int)), rfl, .inr ⟨_, HE.out, rfl⟩, fun _ _ => rfl, H3.out, hT⟩
set_option maxRecDepth 100000 in
set_option maxHeartbeats 2000000 in
theorem number_er (t : TypeId) (w : World) (B b : Nat) (bs : List UInt8) (ex : DErr) (D : Rd Nat) (hD : D = .error ex) (most : Nat) (h : RdS t w B b bs (.error ex)) (hm : most < 18446744073709551616) :
    Calls Try.prog 38 #[.pointer (some ⟨b, 0, none⟩), .int .u64 most] w (ReadsN t B b bs D w) := by
  obtain ⟨c2, _, _, p, hp, c1⟩ := h.errC
  have HS := Lib.hid h
  have HE := Lib.hid hD
  clear h hD
  go_enter Try.func38, Try.ntmps38
  go_wp2
  go_loopw [6, 7, 8] (fun n y k wr => ∃ (Y j : Nat), n = .int .u64 0 ∧ y = .int .u8 Y ∧ k = .int .i64 j ∧ (Y = 128 ∧ j = 0 ∨ Y = 0 ∧ j = 1) ∧ RdS t wr B b bs (.error ex) ∧ RdT b w wr) (fun _ _ k _ => 10 - (intOf k).toNat)
  case atStart => exact ⟨128, 0, rfl, rfl, rfl, .inl ⟨rfl, rfl⟩, HS.out, Touch.refl _ _⟩
  case round =>
    obtain ⟨Y, j, rfl, rfl, rfl, hYj, hS, hT⟩ := hrel
    rcases hYj with ⟨e1, e2⟩ | ⟨e1, e2⟩
    · subst e1 e2
      have NX := Lib.hid (next_any t wr B b bs _ hS)
      clear hS c1 c2
      go_wp2_with fail
      refine NX.out.mono ?_
      rintro e' w2 ⟨x, st', rfl, hG, h0, hS2, hT2⟩
      obtain ⟨rfl, rfl⟩ : st' = .error ex ∧ x = 0 := by
        rcases hG with ⟨q, h1, h2⟩ | ⟨y, h1, h2⟩
        · cases h1
        · injection h1 with h1
          subst h1
          exact ⟨h2, h0 _ h2⟩
      have HX := Lib.hid (And.intro hS2 hT2)
      clear hG h0 hS2 hT2
      go_wp2
      go_roundw
      case rel => exact ⟨0, 1, rfl, rfl, rfl, .inr ⟨rfl, rfl⟩, HX.out.1, hT.trans HX.out.2⟩
      case measure => simp [intOf]
    · subst e1 e2
      obtain ⟨c2w, e1w, e2w, q, hq6, c1w⟩ := hS.errC
      have H3 := Lib.hid hS
      clear hS c1 c2
      obtain ⟨N, hN⟩ : ∃ N : Nat, N = 0 := ⟨0, rfl⟩
      have hlb : -70000 ≤ (q : Int) - (p : Int) ∧ (q : Int) - (p : Int) ≤ 70000 := by omega
      go_upto_region 9 with fail
      all_goals clear c1w c2w
      all_goals generalize (q : Int) - (p : Int) = len at *
      · by_cases l10 : len = 10
        · have l1 : 1 < len := by omega
          have l10' : (len == 10) = true := by simp; omega
          go_wp2_with fail
          refine (H3.out.failed (p : Int) 13 (by decide)).mono ?_
          rintro e' w3 ⟨⟨u3, rfl⟩, hS3, hT3⟩
          change RdS t w3 B b bs (.error ex) at hS3
          obtain ⟨c23, e13, e23, _⟩ := hS3.errC
          have H4 := Lib.hid hS3
          have hT3 := hT.trans hT3
          clear hS3
          have hq' : ¬ (most : Int) < 0 := by omega
          obtain ⟨c24, e14, e24, _⟩ := H4.out.errC
          go_wp2
          go_ret
          exact ⟨0, .error ex, rfl, .inr ⟨_, HE.out, rfl⟩, fun _ _ => rfl, H4.out, hT3⟩
        · have l10' : (len == 10) = false := by simp; omega
          by_cases l1 : 1 < len
          · skip
            go_wp2_with fail
            refine (H3.out.failed (p : Int) 13 (by decide)).mono ?_
            rintro e' w3 ⟨⟨u3, rfl⟩, hS3, hT3⟩
            change RdS t w3 B b bs (.error ex) at hS3
            obtain ⟨c23, e13, e23, _⟩ := hS3.errC
            have H4 := Lib.hid hS3
            have hT3 := hT.trans hT3
            clear hS3
            have hq' : ¬ (most : Int) < 0 := by omega
            obtain ⟨c24, e14, e24, _⟩ := H4.out.errC
            go_wp2
            go_ret
            exact ⟨0, .error ex, rfl, .inr ⟨_, HE.out, rfl⟩, fun _ _ => rfl, H4.out, hT3⟩
          · skip
            have hq' : ¬ (most : Int) < 0 := by omega
            obtain ⟨c24, e14, e24, _⟩ := H3.out.errC
            go_wp2
            go_ret
            exact ⟨0, .error ex, rfl, .inr ⟨_, HE.out, rfl⟩, fun _ _ => rfl, H3.out, hT⟩
/-- number, from any state -/
theorem numr_any (t : TypeId) (w : World) (B b : Nat) (bs : List UInt8) (st : St) (most : Nat) (h : RdS t w B b bs st) (hm : most < 18446744073709551616) :
    Calls Try.prog 38 #[.pointer (some ⟨b, 0, none⟩), .int .u64 most] w (ReadsN t B b bs (after st (numD bs most)) w) := by
  cases st with
  | ok p => exact number_ok t w B b bs p most h hm
  | error x => exact number_er t w B b bs x _ rfl most h hm
end Go.Proofs.Ytffelcidckbohaa
