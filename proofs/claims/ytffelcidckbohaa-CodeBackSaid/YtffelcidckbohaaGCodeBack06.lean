/- Texts of this seat, one behind the other: each says at its head what it holds. No condition of its own. -/
import Derived.Test.YtffelcidckbohaaProg
import Derived.Shelf.Strconv.Clone
import Derived.WalkKit
import Derived.Below
import Derived.SizedLaws
import Derived.Test.YtffelcidckbohaaGCodeBack01
import Derived.Test.YtffelcidckbohaaGCodeBack05
/- code's reader: number, whole. Condition: the reader is there. -/
namespace Go.Proofs.Ytffelcidckbohaa
open Go.RowKit
set_option linter.unusedVariables false
theorem gath_step {bs : List UInt8} {p j : Nat} {l : List UInt8} {x : UInt8} (h : gathD bs 10 p = (gathD bs (10 - j) (p + j)).map (l ++ ·)) (hj : j < 10) (hb : bs[p + j]? = some x) :
    (128 ≤ x.toNat → gathD bs 10 p = (gathD bs (10 - (j + 1)) (p + (j + 1))).map ((l ++ [x]) ++ ·)) ∧ (x.toNat < 128 → gathD bs 10 p = some (l ++ [x])) := by
  generalize gathD bs 10 p = G at *
  rw [show 10 - j = (10 - (j + 1)) + 1 by omega, gathD, hb] at h
  simp only at h
  constructor
  · intro hx
    rw [if_pos hx] at h
    rw [h, Option.map_map]
    congr 1
    funext m
    simp
  · intro hx
    rw [if_neg (by omega)] at h
    rw [h]; rfl
theorem gath_none {bs : List UInt8} {p j : Nat} {l : List UInt8} (h : gathD bs 10 p = (gathD bs (10 - j) (p + j)).map (l ++ ·)) (hj : j < 10) (hb : bs[p + j]? = none) : gathD bs 10 p = none := by
  generalize gathD bs 10 p = G at *
  rw [show 10 - j = (10 - (j + 1)) + 1 by omega, gathD, hb] at h
  exact h
theorem gath_end {bs : List UInt8} {p : Nat} {l : List UInt8} (h : gathD bs 10 p = (gathD bs (10 - 10) (p + 10)).map (l ++ ·)) : gathD bs 10 p = some l := by
  rw [h, Nat.sub_self, gathD]; simp
/-- what the rounds of number know -/
def NumI (t : TypeId) (W : World) (B b : Nat) (bs : List UInt8) (p N y j : Nat) : Prop :=
  (∃ l : List UInt8, l.length = j ∧ N = valD l % 18446744073709551616 ∧ (j = 0 → y = 128) ∧ (0 < j → y = (lastD l).toNat) ∧ RdS t W B b bs (.ok (p + j)) ∧
    (128 ≤ y → gathD bs 10 p = (gathD bs (10 - j) (p + j)).map (l ++ ·)) ∧ (y < 128 → gathD bs 10 p = some l)) ∨
  (y = 0 ∧ N < 18446744073709551616 ∧ gathD bs 10 p = none ∧ RdS t W B b bs (.error (10, bs.length)))
theorem NumI.start {t : TypeId} {W : World} {B b : Nat} {bs : List UInt8} {p : Nat} (h : RdS t W B b bs (.ok p)) : NumI t W B b bs p 0 128 0 :=
  .inl ⟨[], rfl, by simp [valD], fun _ => rfl, fun h => absurd h (by omega), h, fun _ => by simp, fun h => absurd h (by omega)⟩
theorem NumI.lt {t : TypeId} {W : World} {B b : Nat} {bs : List UInt8} {p N y j : Nat} (h : NumI t W B b bs p N y j) : N < 18446744073709551616 := by
  rcases h with ⟨l, _, h, _⟩ | ⟨_, h, _⟩
  · rw [h]; exact Nat.mod_lt _ (by decide)
  · exact h
theorem NumI.y256 {t : TypeId} {W : World} {B b : Nat} {bs : List UInt8} {p N y j : Nat} (h : NumI t W B b bs p N y j) : y < 256 := by
  rcases h with ⟨l, _, _, h1, h2, _⟩ | ⟨h, _⟩
  · rcases Nat.eq_zero_or_pos j with e | e
    · rw [h1 e]; decide
    · rw [h2 e]; exact (lastD l).toNat_lt
  · rw [h]; decide
/-- a round: what came of next, and the number with a group more -/
theorem NumI.next {t : TypeId} {W' : World} {B b : Nat} {bs : List UInt8} {p N j : Nat} {x : UInt8} {st' : St} {l : List UInt8} (hl : l.length = j) (hN : N = valD l % 18446744073709551616) (hy : gathD bs 10 p = (gathD bs (10 - j) (p + j)).map (l ++ ·)) (hj : j < 10)
    (hG : Gets (after (.ok (p + j)) (nextD bs)) x st') (h0 : ∀ e, st' = .error e → x = 0) (hS : RdS t W' B b bs st') : NumI t W' B b bs p (valD (l ++ [x]) % 18446744073709551616) x.toNat (j + 1) := by
  rw [after_ok, nextD] at hG
  cases hb : bs[p + j]? with
  | none =>
    rw [hb] at hG
    rcases hG with ⟨q, h1, h2⟩ | ⟨e, h1, h2⟩
    · cases h1
    · injection h1 with h1
      subst h1 h2
      rw [h0 _ rfl]
      exact .inr ⟨rfl, Nat.mod_lt _ (by decide), gath_none hy hj hb, hS⟩
  | some c =>
    rw [hb] at hG
    rcases hG with ⟨q, h1, h2⟩ | ⟨e, h1, h2⟩
    · injection h1 with h1
      injection h1 with h1 h3
      subst h1 h2 h3
      obtain ⟨g1, g2⟩ := gath_step hy hj hb
      exact .inl ⟨l ++ [c], by simp [hl], rfl, fun h => absurd h (by omega), fun _ => by simp [lastD], hS, g1, g2⟩
    · cases h1
theorem num_none {bs : List UInt8} {p most : Nat} (h : gathD bs 10 p = none) : numD bs most p = .error (10, bs.length) := by rw [numD, h]
theorem num_some {bs : List UInt8} {p most : Nat} {l : List UInt8} (h : gathD bs 10 p = some l) : numD bs most p = if l.length = 10 ∧ 1 < (lastD l).toNat then .error (3, p) else if 1 < l.length ∧ (lastD l).toNat = 0 then .error (13, p) else if most < valD l then .error (3, p) else .ok (valD l, p + l.length) := by rw [numD, h]
/-- no number of ten bytes is too great, unless the last byte is -/
theorem val_fit {l : List UInt8} (h : l.length ≤ 10) (h1 : ¬ (l.length = 10 ∧ 1 < (lastD l).toNat)) : valD l < 18446744073709551616 := by
  have h2 := valD_lt l
  by_cases e : l.length = 10
  · have hne : l ≠ [] := by intro q; subst q; simp at e
    have h3 := List.dropLast_concat_getLast hne
    have h4 : lastD l = l.getLast hne := by unfold lastD; rw [List.getLastD_eq_getLast?, List.getLast?_eq_some_getLast hne]; rfl
    rw [← h3, valD_app, List.length_dropLast, e, ← h4]
    have h5 := valD_lt l.dropLast
    rw [List.length_dropLast, e, pow128] at h5
    rw [pow128]
    have h6 : (lastD l).toNat ≤ 1 := by
      by_cases q : 1 < (lastD l).toNat
      · exact absurd ⟨e, q⟩ h1
      · omega
    rw [Nat.mod_eq_of_lt (by omega)]
    have h7 : (2 : Nat) ^ (7 * (10 - 1)) = 9223372036854775808 := by decide
    rw [h7] at h5 ⊢
    have : (lastD l).toNat * 9223372036854775808 ≤ 1 * 9223372036854775808 := Nat.mul_le_mul_right _ h6
    omega
  · rw [pow128] at h2
    have : (2 : Nat) ^ (7 * l.length) ≤ 2 ^ 63 := Nat.pow_le_pow_right (by decide) (by omega)
    omega
/-- the error's cell -/
theorem RdS.errC {t : TypeId} {w : World} {B b : Nat} {bs : List UInt8} {x : DErr} (h : RdS t w B b bs (.error x)) : w.cell? ⟨b, 2, none⟩ = some (.int .i64 x.1) ∧ (x.1 != 0) = true ∧ (x.1 == 0) = false ∧ ∃ q : Nat, q ≤ 65536 ∧ w.cell? ⟨b, 1, none⟩ = some (.int .i64 (q : Int)) := by
  obtain ⟨h0, q, h1, ⟨v, h2, _⟩, _, h4⟩ := h
  exact ⟨h2.val 2 rfl, by simpa using h0, by simpa using h0, q, by omega, h2.val 1 rfl⟩
theorem RdS.okC {t : TypeId} {w : World} {B b : Nat} {bs : List UInt8} {p : Nat} (h : RdS t w B b bs (.ok p)) : w.cell? ⟨b, 2, none⟩ = some (.int .i64 0) ∧ w.cell? ⟨b, 1, none⟩ = some (.int .i64 (p : Int)) ∧ p ≤ 65536 := by
  obtain ⟨⟨bad, ⟨v, h2, _⟩, _, h4⟩, h3⟩ := h
  exact ⟨h2.val 2 rfl, h2.val 1 rfl, by omega⟩
theorem val_step2 (l : List UInt8) (b : UInt8) (j : Nat) (hl : l.length = j) (hk : j ≤ 9) : bits .or .u64 ((valD l : Int) % 18446744073709551616) (IntKind.u64.wrap (IntKind.u64.wrap (bits .and .u8 (b.toNat : Int) 127) * 2 ^ (7 * j))) = ((valD (l ++ [b]) % 18446744073709551616 : Nat) : Int) := by
  subst hl
  have h1 := valD_lt l
  rw [pow128] at h1
  have h2 : (2 : Nat) ^ (7 * l.length) ≤ 2 ^ 63 := Nat.pow_le_pow_right (by decide) (by omega)
  rw [← val_step l b hk, and127, show (valD l : Int) % 18446744073709551616 = (valD l : Int) by omega, show IntKind.u64.wrap ((b.toNat : Int) % 128) = (b.toNat : Int) % 128 by rw [IntKind.wrap_u64]; omega]
theorem st_no {p : Nat} {y : DErr} {P : Prop} (h : (Except.ok p : St) = .error y) : P := by cases h
/-- a number was read, or is 0 in error -/
def ReadsN (t : TypeId) (B b : Nat) (bs : List UInt8) (r : Rd Nat) (w : World) (e' : Ending) (w' : World) : Prop :=
  ∃ (x : Nat) (st' : St), e' = .returned (.int .u64 x) ∧ Gets r x st' ∧ (∀ y, st' = .error y → x = 0) ∧ RdS t w' B b bs st' ∧ RdT b w w'
set_option maxRecDepth 100000 in
set_option maxHeartbeats 2000000 in
theorem number_ok (t : TypeId) (w : World) (B b : Nat) (bs : List UInt8) (p most : Nat) (h : RdS t w B b bs (.ok p)) (hm : most < 18446744073709551616) :
    Calls Try.prog 38 #[.pointer (some ⟨b, 0, none⟩), .int .u64 most] w (ReadsN t B b bs (numD bs most p) w) := by
  obtain ⟨c2, c1, hp⟩ := h.okC
  have HS := Lib.hid h
  clear h
  go_enter Try.func38, Try.ntmps38
  go_wp2
  go_loopw [6, 7, 8] (fun n y k wr => ∃ (N Y j : Nat), n = .int .u64 N ∧ y = .int .u8 Y ∧ k = .int .i64 j ∧ j ≤ 10 ∧ NumI t wr B b bs p N Y j ∧ RdT b w wr) (fun _ _ k _ => 10 - (intOf k).toNat)
  case atStart => exact ⟨0, 128, 0, rfl, rfl, rfl, by omega, NumI.start HS.out, Touch.refl _ _⟩
  case round =>
    obtain ⟨N, Y, j, rfl, rfl, rfl, hj, hI, hT⟩ := hrel
    have hY := hI.y256
    have hN := hI.lt
    by_cases hc : j < 10 ∧ 128 ≤ Y
    · obtain ⟨hj2, hy2⟩ := hc
      have hj2' : (j : Int) < 10 := by omega
      have hy2' : (128 : Int) ≤ (Y : Int) := by omega
      rcases hI with ⟨l, hl, hNl, _, _, hS, hg, _⟩ | ⟨e0, _⟩
      · have NX := Lib.hid (next_any t wr B b bs _ hS)
        have HG := Lib.hid (hg hy2)
        clear hg hS hY hN
        go_wp2_with fail
        refine NX.out.mono ?_
        rintro e' w2 ⟨x, st', rfl, hG, h0, hS2, hT2⟩
        have HX := Lib.hid (And.intro hG (And.intro h0 (And.intro hS2 hT2)))
        clear hG h0 hS2 hT2
        go_wp2
        go_roundw
        case rel => exact ⟨valD (l ++ [x]) % 18446744073709551616, x.toNat, j + 1, by rw [val_step2 l x j hl (by omega)], rfl, by go_num, by omega, NumI.next hl hNl HG.out hj2 HX.out.1 HX.out.2.1 HX.out.2.2.1, hT.trans HX.out.2.2.2⟩
        case measure => simp [intOf]; omega
      · omega
    · -- the way out
      rcases hI with ⟨l, hl, hNl, hy0, hy1, hS, hg, hg2⟩ | ⟨e0, hN0, hg, hS⟩
      · have hj1 : 0 < j := by
          rcases Nat.eq_zero_or_pos j with e | e
          · exact absurd ⟨by omega, by rw [hy0 e]; omega⟩ hc
          · exact e
        have hG : gathD bs 10 p = some l := by
          by_cases h10 : j = 10
          · subst h10
            by_cases h128 : 128 ≤ Y
            · exact gath_end (hg h128)
            · exact hg2 (by omega)
          · exact hg2 (by omega)
        have hYl := hy1 hj1
        have ND := num_some (most := most) hG
        rw [← hYl, hl] at ND
        have FT : ¬ (j = 10 ∧ 1 < Y) → N = valD l := fun h => by rw [hNl]; exact Nat.mod_eq_of_lt (val_fit (by omega) (by rw [hl, ← hYl]; exact h))
        obtain ⟨c2w, c1w, hpj⟩ := hS.okC
        have HS2 := Lib.hid hS
        have HND := Lib.hid ND
        have HFT := Lib.hid FT
        have hpj2 : ((p + j : Nat) : Int) = (p : Int) + (j : Int) := by omega
        rw [hpj2] at c1w
        clear hS hy0 hy1 hg hg2 hG hYl ND FT hNl hl c1 c2 hpj2
        have hjj : (p : Int) + (j : Int) - (p : Int) = (j : Int) := by omega
        have HC : Hid (j < 10 → Y < 128) := fun h => by omega
        clear hc
        by_cases h10 : j = 10
        · have h10' : ¬ (j : Int) < 10 := by omega
          have l10 : ((j : Int) == 10) = true := by simp; omega
          have l1 : (1 : Int) < (j : Int) := by omega
          by_cases hA : 1 < Y
          · have hA' : (1 : Int) < (Y : Int) := by omega
            have hY0 : ((Y : Int) == 0) = false := by simp; omega
            have HE : Hid (numD bs most p = .error (3, (p : Int))) := HND.out.trans (if_pos ⟨h10, hA⟩)
            clear HND HFT HC
            go_wp2_with fail
            refine (HS2.out.failed (p : Int) 3 (by decide)).mono ?_
            rintro e' w3 ⟨⟨u3, rfl⟩, hS3, hT3⟩
            change RdS t w3 B b bs (.error (3, (p : Int))) at hS3
            obtain ⟨c23, e13, e23, _⟩ := hS3.errC
            have H3 := Lib.hid hS3
            have hT3 := hT.trans hT3
            clear hS3
            by_cases hq : most < N
            · have hq' : (most : Int) < (N : Int) := by omega
              go_wp2_with fail
              refine (H3.out.failed (p : Int) 3 (by decide)).mono ?_
              rintro e' w4 ⟨⟨u4, rfl⟩, hS4, hT4⟩
              change RdS t w4 B b bs (.error (3, (p : Int))) at hS4
              obtain ⟨c24, e14, e24, _⟩ := hS4.errC
              have H4 := Lib.hid (And.intro hS4 hT4)
              clear hS4 hT4
              go_wp2
              go_ret
              exact ⟨0, .error (3, (p : Int)), rfl, .inr ⟨_, HE.out, rfl⟩, fun _ _ => rfl, H4.out.1, hT3.trans H4.out.2⟩
            · have hq' : ¬ (most : Int) < (N : Int) := by omega
              obtain ⟨c24, e14, e24, _⟩ := H3.out.errC
              go_wp2
              go_ret
              exact ⟨0, .error (3, (p : Int)), rfl, .inr ⟨_, HE.out, rfl⟩, fun _ _ => rfl, H3.out, hT3⟩
          · have hA' : ¬ (1 : Int) < (Y : Int) := by omega
            have hNA : ¬ (j = 10 ∧ 1 < Y) := fun h => hA h.2
            have hNv := HFT.out hNA
            have HND2 := Lib.hid (HND.out.trans (if_neg hNA))
            by_cases hB : Y = 0
            · have hY0 : ((Y : Int) == 0) = true := by simp; omega
              have HE : Hid (numD bs most p = .error (13, (p : Int))) := HND2.out.trans (if_pos ⟨by omega, hB⟩)
              clear HND HND2 HFT HC hNv
              go_wp2_with fail
              refine (HS2.out.failed (p : Int) 13 (by decide)).mono ?_
              rintro e' w3 ⟨⟨u3, rfl⟩, hS3, hT3⟩
              change RdS t w3 B b bs (.error (13, (p : Int))) at hS3
              obtain ⟨c23, e13, e23, _⟩ := hS3.errC
              have H3 := Lib.hid hS3
              have hT3 := hT.trans hT3
              clear hS3
              by_cases hq : most < N
              · have hq' : (most : Int) < (N : Int) := by omega
                go_wp2_with fail
                refine (H3.out.failed (p : Int) 3 (by decide)).mono ?_
                rintro e' w4 ⟨⟨u4, rfl⟩, hS4, hT4⟩
                change RdS t w4 B b bs (.error (13, (p : Int))) at hS4
                obtain ⟨c24, e14, e24, _⟩ := hS4.errC
                have H4 := Lib.hid (And.intro hS4 hT4)
                clear hS4 hT4
                go_wp2
                go_ret
                exact ⟨0, .error (13, (p : Int)), rfl, .inr ⟨_, HE.out, rfl⟩, fun _ _ => rfl, H4.out.1, hT3.trans H4.out.2⟩
              · have hq' : ¬ (most : Int) < (N : Int) := by omega
                obtain ⟨c24, e14, e24, _⟩ := H3.out.errC
                go_wp2
                go_ret
                exact ⟨0, .error (13, (p : Int)), rfl, .inr ⟨_, HE.out, rfl⟩, fun _ _ => rfl, H3.out, hT3⟩
            · have hY0 : ((Y : Int) == 0) = false := by simp; omega
              have HND3 := Lib.hid (HND2.out.trans (if_neg fun h => hB h.2))
              clear HND HND2 HFT HC
              rw [← hNv] at HND3
              clear hNv
              by_cases hq : most < N
              · have hq' : (most : Int) < (N : Int) := by omega
                have HE : Hid (numD bs most p = .error (3, (p : Int))) := HND3.out.trans (if_pos hq)
                clear HND3
                go_wp2_with fail
                refine (HS2.out.failed (p : Int) 3 (by decide)).mono ?_
                rintro e' w4 ⟨⟨u4, rfl⟩, hS4, hT4⟩
                change RdS t w4 B b bs (.error (3, (p : Int))) at hS4
                obtain ⟨c24, e14, e24, _⟩ := hS4.errC
                have H4 := Lib.hid (And.intro hS4 hT4)
                clear hS4 hT4
                go_wp2
                go_ret
                exact ⟨0, _, rfl, .inr ⟨_, HE.out, rfl⟩, fun _ _ => rfl, H4.out.1, hT.trans H4.out.2⟩
              · have hq' : ¬ (most : Int) < (N : Int) := by omega
                go_wp2
                go_ret
                exact ⟨N, .ok (p + j), rfl, .inl ⟨_, HND3.out.trans (if_neg hq), rfl⟩, fun _ h => st_no h, HS2.out, hT⟩
        · have h10' : (j : Int) < 10 := by omega
          have hY' : ¬ (128 : Int) ≤ (Y : Int) := by have := HC.out (by omega); omega
          have l10 : ((j : Int) == 10) = false := by simp; omega
          have hNA : ¬ (j = 10 ∧ 1 < Y) := fun h => h10 h.1
          have hNv := HFT.out hNA
          have HND2 := Lib.hid (HND.out.trans (if_neg hNA))
          by_cases hB : 1 < j ∧ Y = 0
          · have l1 : (1 : Int) < (j : Int) := by omega
            have hY0 : ((Y : Int) == 0) = true := by simp; omega
            have HE : Hid (numD bs most p = .error (13, (p : Int))) := HND2.out.trans (if_pos hB)
            clear HND HND2 HFT HC hNv
            go_wp2_with fail
            refine (HS2.out.failed (p : Int) 13 (by decide)).mono ?_
            rintro e' w3 ⟨⟨u3, rfl⟩, hS3, hT3⟩
            change RdS t w3 B b bs (.error (13, (p : Int))) at hS3
            obtain ⟨c23, e13, e23, _⟩ := hS3.errC
            have H3 := Lib.hid hS3
            have hT3 := hT.trans hT3
            clear hS3
            by_cases hq : most < N
            · have hq' : (most : Int) < (N : Int) := by omega
              go_wp2_with fail
              refine (H3.out.failed (p : Int) 3 (by decide)).mono ?_
              rintro e' w4 ⟨⟨u4, rfl⟩, hS4, hT4⟩
              change RdS t w4 B b bs (.error (13, (p : Int))) at hS4
              obtain ⟨c24, e14, e24, _⟩ := hS4.errC
              have H4 := Lib.hid (And.intro hS4 hT4)
              clear hS4 hT4
              go_wp2
              go_ret
              exact ⟨0, .error (13, (p : Int)), rfl, .inr ⟨_, HE.out, rfl⟩, fun _ _ => rfl, H4.out.1, hT3.trans H4.out.2⟩
            · have hq' : ¬ (most : Int) < (N : Int) := by omega
              obtain ⟨c24, e14, e24, _⟩ := H3.out.errC
              go_wp2
              go_ret
              exact ⟨0, .error (13, (p : Int)), rfl, .inr ⟨_, HE.out, rfl⟩, fun _ _ => rfl, H3.out, hT3⟩
          · have HND3 := Lib.hid (HND2.out.trans (if_neg hB))
            clear HND HND2 HFT HC
            rw [← hNv] at HND3
            clear hNv
            by_cases l1 : 1 < j
            · have l1' : (1 : Int) < (j : Int) := by omega
              have hY0 : ((Y : Int) == 0) = false := by simp; omega
              by_cases hq : most < N
              · have hq' : (most : Int) < (N : Int) := by omega
                have HE : Hid (numD bs most p = .error (3, (p : Int))) := HND3.out.trans (if_pos hq)
                clear HND3
                go_wp2_with fail
                refine (HS2.out.failed (p : Int) 3 (by decide)).mono ?_
                rintro e' w4 ⟨⟨u4, rfl⟩, hS4, hT4⟩
                change RdS t w4 B b bs (.error (3, (p : Int))) at hS4
                obtain ⟨c24, e14, e24, _⟩ := hS4.errC
                have H4 := Lib.hid (And.intro hS4 hT4)
                clear hS4 hT4
                go_wp2
                go_ret
                exact ⟨0, _, rfl, .inr ⟨_, HE.out, rfl⟩, fun _ _ => rfl, H4.out.1, hT.trans H4.out.2⟩
              · have hq' : ¬ (most : Int) < (N : Int) := by omega
                go_wp2
                go_ret
                exact ⟨N, .ok (p + j), rfl, .inl ⟨_, HND3.out.trans (if_neg hq), rfl⟩, fun _ h => st_no h, HS2.out, hT⟩
            · have l1' : ¬ (1 : Int) < (j : Int) := by omega
              by_cases hq : most < N
              · have hq' : (most : Int) < (N : Int) := by omega
                have HE : Hid (numD bs most p = .error (3, (p : Int))) := HND3.out.trans (if_pos hq)
                clear HND3
                go_wp2_with fail
                refine (HS2.out.failed (p : Int) 3 (by decide)).mono ?_
                rintro e' w4 ⟨⟨u4, rfl⟩, hS4, hT4⟩
                change RdS t w4 B b bs (.error (3, (p : Int))) at hS4
                obtain ⟨c24, e14, e24, _⟩ := hS4.errC
                have H4 := Lib.hid (And.intro hS4 hT4)
                clear hS4 hT4
                go_wp2
                go_ret
                exact ⟨0, _, rfl, .inr ⟨_, HE.out, rfl⟩, fun _ _ => rfl, H4.out.1, hT.trans H4.out.2⟩
              · have hq' : ¬ (most : Int) < (N : Int) := by omega
                go_wp2
                go_ret
                exact ⟨N, .ok (p + j), rfl, .inl ⟨_, HND3.out.trans (if_neg hq), rfl⟩, fun _ h => st_no h, HS2.out, hT⟩
      · subst e0
        have HE := Lib.hid (num_none (most := most) hg)
        obtain ⟨c2w, e1w, e2w, q, hq6, c1w⟩ := hS.errC
        have H3 := Lib.hid hS
        clear hS hg hY hc c1 c2
        have hlb : -70000 ≤ (q : Int) - (p : Int) ∧ (q : Int) - (p : Int) ≤ 70000 := by omega
        by_cases hj10 : j < 10
        all_goals (first | (have hj10' : (j : Int) < 10 := (by omega)) | (have hj10' : ¬ (j : Int) < 10 := (by omega)))
        all_goals go_upto_region 9 with fail
        all_goals clear hj10 hj10' c1w c2w
        all_goals generalize (q : Int) - (p : Int) = len at *
        · by_cases l10 : len = 10
          · have l1 : 1 < len := by omega
            have l10' : (len == 10) = true := by simp; omega
            go_wp2_with fail
            refine (H3.out.failed (p : Int) 13 (by decide)).mono ?_
            rintro e' w3 ⟨⟨u3, rfl⟩, hS3, hT3⟩
            change RdS t w3 B b bs (.error (10, (bs.length : Int))) at hS3
            obtain ⟨c23, e13, e23, _⟩ := hS3.errC
            have H4 := Lib.hid hS3
            have hT3 := hT.trans hT3
            clear hS3
            by_cases hq : most < N
            · have hq' : (most : Int) < (N : Int) := by omega
              go_wp2_with fail
              refine (H4.out.failed (p : Int) 3 (by decide)).mono ?_
              rintro e' w4 ⟨⟨u4, rfl⟩, hS4, hT4⟩
              change RdS t w4 B b bs (.error (10, (bs.length : Int))) at hS4
              obtain ⟨c24, e14, e24, _⟩ := hS4.errC
              have H5 := Lib.hid (And.intro hS4 hT4)
              clear hS4 hT4
              go_wp2
              go_ret
              exact ⟨0, .error (10, (bs.length : Int)), rfl, .inr ⟨_, HE.out, rfl⟩, fun _ _ => rfl, H5.out.1, hT3.trans H5.out.2⟩
            · have hq' : ¬ (most : Int) < (N : Int) := by omega
              obtain ⟨c24, e14, e24, _⟩ := H4.out.errC
              go_wp2
              go_ret
              exact ⟨0, .error (10, (bs.length : Int)), rfl, .inr ⟨_, HE.out, rfl⟩, fun _ _ => rfl, H4.out, hT3⟩
          · have l10' : (len == 10) = false := by simp; omega
            by_cases l1 : 1 < len
            · skip
              go_wp2_with fail
              refine (H3.out.failed (p : Int) 13 (by decide)).mono ?_
              rintro e' w3 ⟨⟨u3, rfl⟩, hS3, hT3⟩
              change RdS t w3 B b bs (.error (10, (bs.length : Int))) at hS3
              obtain ⟨c23, e13, e23, _⟩ := hS3.errC
              have H4 := Lib.hid hS3
              have hT3 := hT.trans hT3
              clear hS3
              by_cases hq : most < N
              · have hq' : (most : Int) < (N : Int) := by omega
                go_wp2_with fail
                refine (H4.out.failed (p : Int) 3 (by decide)).mono ?_
                rintro e' w4 ⟨⟨u4, rfl⟩, hS4, hT4⟩
                change RdS t w4 B b bs (.error (10, (bs.length : Int))) at hS4
                obtain ⟨c24, e14, e24, _⟩ := hS4.errC
                have H5 := Lib.hid (And.intro hS4 hT4)
                clear hS4 hT4
                go_wp2
                go_ret
                exact ⟨0, .error (10, (bs.length : Int)), rfl, .inr ⟨_, HE.out, rfl⟩, fun _ _ => rfl, H5.out.1, hT3.trans H5.out.2⟩
              · have hq' : ¬ (most : Int) < (N : Int) := by omega
                obtain ⟨c24, e14, e24, _⟩ := H4.out.errC
                go_wp2
                go_ret
                exact ⟨0, .error (10, (bs.length : Int)), rfl, .inr ⟨_, HE.out, rfl⟩, fun _ _ => rfl, H4.out, hT3⟩
            · skip
              by_cases hq : most < N
              · have hq' : (most : Int) < (N : Int) := by omega
                go_wp2_with fail
                refine (H3.out.failed (p : Int) 3 (by decide)).mono ?_
                rintro e' w4 ⟨⟨u4, rfl⟩, hS4, hT4⟩
                change RdS t w4 B b bs (.error (10, (bs.length : Int))) at hS4
                obtain ⟨c24, e14, e24, _⟩ := hS4.errC
                have H4 := Lib.hid (And.intro hS4 hT4)
                clear hS4 hT4
                go_wp2
                go_ret
                exact ⟨0, .error (10, (bs.length : Int)), rfl, .inr ⟨_, HE.out, rfl⟩, fun _ _ => rfl, H4.out.1, hT.trans H4.out.2⟩
              · have hq' : ¬ (most : Int) < (N : Int) := by omega
                obtain ⟨c24, e14, e24, _⟩ := H3.out.errC
                go_wp2
                go_ret
                exact ⟨0, .error (10, (bs.length : Int)), rfl, .inr ⟨_, HE.out, rfl⟩, fun _ _ => rfl, H3.out, hT⟩
        · by_cases l10 : len = 10
          · have l1 : 1 < len := by omega
            have l10' : (len == 10) = true := by simp; omega
            go_wp2_with fail
            refine (H3.out.failed (p : Int) 13 (by decide)).mono ?_
            rintro e' w3 ⟨⟨u3, rfl⟩, hS3, hT3⟩
            change RdS t w3 B b bs (.error (10, (bs.length : Int))) at hS3
            obtain ⟨c23, e13, e23, _⟩ := hS3.errC
            have H4 := Lib.hid hS3
            have hT3 := hT.trans hT3
            clear hS3
            by_cases hq : most < N
            · have hq' : (most : Int) < (N : Int) := by omega
              go_wp2_with fail
              refine (H4.out.failed (p : Int) 3 (by decide)).mono ?_
              rintro e' w4 ⟨⟨u4, rfl⟩, hS4, hT4⟩
              change RdS t w4 B b bs (.error (10, (bs.length : Int))) at hS4
              obtain ⟨c24, e14, e24, _⟩ := hS4.errC
              have H5 := Lib.hid (And.intro hS4 hT4)
              clear hS4 hT4
              go_wp2
              go_ret
              exact ⟨0, .error (10, (bs.length : Int)), rfl, .inr ⟨_, HE.out, rfl⟩, fun _ _ => rfl, H5.out.1, hT3.trans H5.out.2⟩
            · have hq' : ¬ (most : Int) < (N : Int) := by omega
              obtain ⟨c24, e14, e24, _⟩ := H4.out.errC
              go_wp2
              go_ret
              exact ⟨0, .error (10, (bs.length : Int)), rfl, .inr ⟨_, HE.out, rfl⟩, fun _ _ => rfl, H4.out, hT3⟩
          · have l10' : (len == 10) = false := by simp; omega
            by_cases l1 : 1 < len
            · skip
              go_wp2_with fail
              refine (H3.out.failed (p : Int) 13 (by decide)).mono ?_
              rintro e' w3 ⟨⟨u3, rfl⟩, hS3, hT3⟩
              change RdS t w3 B b bs (.error (10, (bs.length : Int))) at hS3
              obtain ⟨c23, e13, e23, _⟩ := hS3.errC
              have H4 := Lib.hid hS3
              have hT3 := hT.trans hT3
              clear hS3
              by_cases hq : most < N
              · have hq' : (most : Int) < (N : Int) := by omega
                go_wp2_with fail
                refine (H4.out.failed (p : Int) 3 (by decide)).mono ?_
                rintro e' w4 ⟨⟨u4, rfl⟩, hS4, hT4⟩
                change RdS t w4 B b bs (.error (10, (bs.length : Int))) at hS4
                obtain ⟨c24, e14, e24, _⟩ := hS4.errC
                have H5 := Lib.hid (And.intro hS4 hT4)
                clear hS4 hT4
                go_wp2
                go_ret
                exact ⟨0, .error (10, (bs.length : Int)), rfl, .inr ⟨_, HE.out, rfl⟩, fun _ _ => rfl, H5.out.1, hT3.trans H5.out.2⟩
              · have hq' : ¬ (most : Int) < (N : Int) := by omega
                obtain ⟨c24, e14, e24, _⟩ := H4.out.errC
                go_wp2
                go_ret
                exact ⟨0, .error (10, (bs.length : Int)), rfl, .inr ⟨_, HE.out, rfl⟩, fun _ _ => rfl, H4.out, hT3⟩
            · skip
              by_cases hq : most < N
              · have hq' : (most : Int) < (N : Int) := by omega
                go_wp2_with fail
                refine (H3.out.failed (p : Int) 3 (by decide)).mono ?_
                rintro e' w4 ⟨⟨u4, rfl⟩, hS4, hT4⟩
                change RdS t w4 B b bs (.error (10, (bs.length : Int))) at hS4
                obtain ⟨c24, e14, e24, _⟩ := hS4.errC
                have H4 := Lib.hid (And.intro hS4 hT4)
                clear hS4 hT4
                go_wp2
                go_ret
                exact ⟨0, .error (10, (bs.length : Int)), rfl, .inr ⟨_, HE.out, rfl⟩, fun _ _ => rfl, H4.out.1, hT.trans H4.out.2⟩
              · have hq' : ¬ (most : Int) < (N : Int) := by omega
                obtain ⟨c24, e14, e24, _⟩ := H3.out.errC
                go_wp2
                go_ret
                exact ⟨0, .error (10, (bs.length : Int)), rfl, .inr ⟨_, HE.out, rfl⟩, fun _ _ => rfl, H3.out, hT⟩
set_option maxRecDepth 100000 in
set_option maxHeartbeats 2000000 in
theorem number_er (t : TypeId) (w : World) (B b : Nat) (bs : List UInt8) (ex : DErr) (D : Rd Nat) (hD : D = .error ex) (most : Nat) (h : RdS t w B b bs (.error ex)) (hm : most < 18446744073709551616) :
    Calls Try.prog 38 #[.pointer (some ⟨b, 0, none⟩), .int .u64 most] w (ReadsN t B b bs D w) := by
  obtain ⟨c2, _, _, p, hp, c1⟩ := h.errC
  have HS := Lib.hid h
  have HE := Lib.hid hD
  clear h hD
  go_enter Try.func38, Try.ntmps38
  go_wp2
  go_loopw [6, 7, 8] (fun n y k wr => ∃ (Y j : Nat), n = .int .u64 0 ∧ y = .int .u8 Y ∧ k = .int .i64 j ∧ (Y = 128 ∧ j = 0 ∨ Y = 0 ∧ j = 1) ∧ RdS t wr B b bs (.error ex) ∧ RdT b w wr) (fun _ _ k _ => 10 - (intOf k).toNat)
  case atStart => exact ⟨128, 0, rfl, rfl, rfl, .inl ⟨rfl, rfl⟩, HS.out, Touch.refl _ _⟩
  case round =>
    obtain ⟨Y, j, rfl, rfl, rfl, hYj, hS, hT⟩ := hrel
    rcases hYj with ⟨e1, e2⟩ | ⟨e1, e2⟩
    · subst e1 e2
      have NX := Lib.hid (next_any t wr B b bs _ hS)
      clear hS c1 c2
      go_wp2_with fail
      refine NX.out.mono ?_
      rintro e' w2 ⟨x, st', rfl, hG, h0, hS2, hT2⟩
      obtain ⟨rfl, rfl⟩ : st' = .error ex ∧ x = 0 := by
        rcases hG with ⟨q, h1, h2⟩ | ⟨y, h1, h2⟩
        · cases h1
        · injection h1 with h1
          subst h1
          exact ⟨h2, h0 _ h2⟩
      have HX := Lib.hid (And.intro hS2 hT2)
      clear hG h0 hS2 hT2
      go_wp2
      go_roundw
      case rel => exact ⟨0, 1, rfl, rfl, rfl, .inr ⟨rfl, rfl⟩, HX.out.1, hT.trans HX.out.2⟩
      case measure => simp [intOf]
    · subst e1 e2
      obtain ⟨c2w, e1w, e2w, q, hq6, c1w⟩ := hS.errC
      have H3 := Lib.hid hS
      clear hS c1 c2
      obtain ⟨N, hN⟩ : ∃ N : Nat, N = 0 := ⟨0, rfl⟩
      have hlb : -70000 ≤ (q : Int) - (p : Int) ∧ (q : Int) - (p : Int) ≤ 70000 := by omega
      go_upto_region 9 with fail
      all_goals clear c1w c2w
      all_goals generalize (q : Int) - (p : Int) = len at *
      · by_cases l10 : len = 10
        · have l1 : 1 < len := by omega
          have l10' : (len == 10) = true := by simp; omega
          go_wp2_with fail
          refine (H3.out.failed (p : Int) 13 (by decide)).mono ?_
          rintro e' w3 ⟨⟨u3, rfl⟩, hS3, hT3⟩
          change RdS t w3 B b bs (.error ex) at hS3
          obtain ⟨c23, e13, e23, _⟩ := hS3.errC
          have H4 := Lib.hid hS3
          have hT3 := hT.trans hT3
          clear hS3
          have hq' : ¬ (most : Int) < 0 := by omega
          obtain ⟨c24, e14, e24, _⟩ := H4.out.errC
          go_wp2
          go_ret
          exact ⟨0, .error ex, rfl, .inr ⟨_, HE.out, rfl⟩, fun _ _ => rfl, H4.out, hT3⟩
        · have l10' : (len == 10) = false := by simp; omega
          by_cases l1 : 1 < len
          · skip
            go_wp2_with fail
            refine (H3.out.failed (p : Int) 13 (by decide)).mono ?_
            rintro e' w3 ⟨⟨u3, rfl⟩, hS3, hT3⟩
            change RdS t w3 B b bs (.error ex) at hS3
            obtain ⟨c23, e13, e23, _⟩ := hS3.errC
            have H4 := Lib.hid hS3
            have hT3 := hT.trans hT3
            clear hS3
            have hq' : ¬ (most : Int) < 0 := by omega
            obtain ⟨c24, e14, e24, _⟩ := H4.out.errC
            go_wp2
            go_ret
            exact ⟨0, .error ex, rfl, .inr ⟨_, HE.out, rfl⟩, fun _ _ => rfl, H4.out, hT3⟩
          · skip
            have hq' : ¬ (most : Int) < 0 := by omega
            obtain ⟨c24, e14, e24, _⟩ := H3.out.errC
            go_wp2
            go_ret
            exact ⟨0, .error ex, rfl, .inr ⟨_, HE.out, rfl⟩, fun _ _ => rfl, H3.out, hT⟩
/-- number, from any state -/
theorem numr_any (t : TypeId) (w : World) (B b : Nat) (bs : List UInt8) (st : St) (most : Nat) (h : RdS t w B b bs st) (hm : most < 18446744073709551616) :
    Calls Try.prog 38 #[.pointer (some ⟨b, 0, none⟩), .int .u64 most] w (ReadsN t B b bs (after st (numD bs most)) w) := by
  cases st with
  | ok p => exact number_ok t w B b bs p most h hm
  | error x => exact number_er t w B b bs x _ rfl most h hm
end Go.Proofs.Ytffelcidckbohaa
/- strings.Clone: the same text. Condition: it is not too long for a row of bytes. -/
namespace Go.Proofs.Ytffelcidckbohaa
open Go.RowKit Go.Shelf
set_option linter.unusedVariables false
end Go.Proofs.Ytffelcidckbohaa
/- Programs as arguments, with the reach of their texts: no text of theirs is longer than the form lets in. No condition. -/
namespace Go.Proofs.Ytffelcidckbohaa
open Go.ChangeShapes Go.WideShapes Go.ChangeAt Go.RowKit Go.Deep
set_option linter.unusedVariables false
def Rch {H : Type} (P : Program) (t : TypeId) (d : DataW H) : Prop := ∀ n ∈ d.weights P t, n ≤ reachBytes
section
variable {H : Type} {enc : TypeId × Value → H} {P : Program} {w : World} {base : Nat} {spare : Nat → Bool} {held : Bool}
theorem Rch.arg {ts : List TypeId} {ds : List (DataW H)} (h : (DataW.weightsEach P ts ds).all (· ≤ reachBytes) = true) {j : Nat} {t : TypeId} {d : DataW H} (ht : ts[j]? = some t) (hd : ds[j]? = some d) : Rch P t d := fun n hn => by
  have := List.all_eq_true.1 h _ (DataW.weights_mem_each ht hd n hn)
  simpa using this
theorem wts_in {e : TypeId} {d : DataW H} : ∀ {l : List (DataW H)}, d ∈ l → ∀ n ∈ d.weights P e, n ∈ DataW.weightsAll P e l
  | x :: r, hd, n, hn => by
    simp only [DataW.weightsAll, List.mem_append]
    rcases List.mem_cons.1 hd with h | h
    · subst h; exact .inl hn
    · exact .inr (wts_in h n hn)
theorem Rch.elem {t e : TypeId} {a b : List (DataW H)} {d : DataW H} (hu : P.underlying t = some (.slice e)) (h : Rch P t (.slice a b)) (hd : d ∈ a ∨ d ∈ b) : Rch P e d := fun n hn => by
  refine h n ?_
  simp only [DataW.weights, hu, List.mem_cons, List.mem_append]
  rcases hd with hd | hd
  · exact .inr (.inl (wts_in hd n hn))
  · exact .inr (.inr (wts_in hd n hn))
theorem Rch.part {t : TypeId} {fs : Array Field} {ps : List (DataW H)} {j : Nat} {f : Field} {d : DataW H} (hu : P.underlying t = some (.struct fs)) (h : Rch P t (.agg ps)) (hf : fs[j]? = some f) (hd : ps[j]? = some d) : Rch P f.type d := fun n hn => by
  refine h n ?_
  simp only [DataW.weights, hu]
  refine DataW.weights_mem_each (j := j) ?_ hd n hn
  simp [hf]
theorem Rch.text {t : TypeId} {l : List UInt8} (h : Rch (H := H) P t (.lit (.string l))) : l.length ≤ reachBytes := h _ (by simp [DataW.weights])
theorem open_slice_fieldsR {t e : TypeId} {fs : Array Field} {fuel : Nat} {cs : List Value} {x : DataW H × List MemPlace} (ht : P.underlying t = some (.slice e)) (he : P.underlying e = some (.struct fs))
    (hone : oneCellFields P fs = true) (hC : P.cellsOf e = fs.size) (h : DataW.trod enc P w base spare held fuel t cs = some x) (hr : Rch P t x.1) :
    (cs = [.slice none 0 0]) ∨
    ∃ (a : Addr) (len cap m : Nat), cs = [.slice (some a) len cap] ∧ len ≤ cap ∧ cap ≤ maxLen ∧ m = (if spare a.block then cap else len) ∧
      ∀ i, i < m → ∃ n : Nat, ∀ (j : Nat) (f : Field), fs[j]? = some f → ∃ (v : Value), w.cell? (a.add (i * fs.size + j)) = some v ∧ ∃ y : DataW H × List MemPlace, DataW.trod enc P w base spare held n f.type [v] = some y ∧ Rch P f.type y.1 := by
  rcases open_slice ht h with h0 | ⟨a, len, cap, m, n, D, Pl, hcs, hb, hl, hm, hmm, hx, hi⟩
  · exact .inl h0.1
  · refine .inr ⟨a, len, cap, m, hcs, hl, hm, hmm, fun i him => ?_⟩
    obtain ⟨cs', hc, ht'⟩ := hi i him
    rw [hC] at hc
    have hD : Rch P e (D i) := by
      subst hx
      refine Rch.elem ht hr ?_
      by_cases hil : i < len
      · exact .inl (List.mem_map.2 ⟨i, List.mem_range.2 hil, rfl⟩)
      · exact .inr (List.mem_map.2 ⟨i - len, List.mem_range.2 (by omega), by rw [show len + (i - len) = i by omega]⟩)
    obtain ⟨ys, n', hn', hy, hlen, hyl, hf⟩ := DataW.trod_struct he ht'
    obtain ⟨_, hcl, hat⟩ := World.cells?_some hc
    refine ⟨n', fun j f hj => ?_⟩
    obtain ⟨ho, hk⟩ := hone_of hone j f hj
    have hjl : j < fs.size := (Array.getElem?_eq_some_iff.1 hj).1
    have hcell := hat j hjl
    have hv : cs'[j]? = some (cs'[j]'(by omega)) := List.getElem?_eq_getElem (by omega)
    have h1 := hf j f hj
    rw [ho, hk] at h1
    have hone' : (cs'.drop j).take 1 = [cs'[j]'(by omega)] := by
      rw [List.drop_eq_getElem_cons (by omega)]
      rfl
    rw [hone'] at h1
    have hys : ys[j]? = some (ys[j]'(by omega)) := List.getElem?_eq_getElem (by omega)
    refine ⟨_, ?_, _, h1.trans hys, ?_⟩
    · rw [← Go.Deep.add_add, hcell, hv]
    · have hDi : D i = .agg (ys.map (·.1)) := congrArg Prod.fst hy
      rw [hDi] at hD
      exact Rch.part he hD hj (by simp [hys])
theorem rdRow_mkG {α : Type} {sz : Nat} {el : World → Nat → Nat → α → Prop} {fs : Array Field} {Z : Nat → Value → Field → Prop} {x : Addr} {len cap m : Nat} (hfs : fs.size = sz) (hl : len ≤ m) (hmax : len ≤ maxLen) {f0 : Field} (h0 : fs[0]? = some f0)
    (hi : ∀ i, i < m → ∃ n : Nat, ∀ (j : Nat) (f : Field), fs[j]? = some f → ∃ (v : Value), w.cell? (x.add (i * fs.size + j)) = some v ∧ Z n v f)
    (hel : ∀ b k n, (∀ (j : Nat) (f : Field), fs[j]? = some f → ∃ (v : Value), w.cell? ⟨b, k + j, none⟩ = some v ∧ Z n v f) → ∃ a, el w b k a) :
    ∃ l, l.length = len ∧ RdRow sz el w.heap.size w (.slice (some x) len cap) l := by
  subst hfs
  rcases Nat.eq_zero_or_pos len with e | hpos
  · subst e; exact ⟨[], rfl, _, _, rfl, by unfold maxLen; simp, fun i hi => absurd hi (by simp)⟩
  obtain ⟨b, o, s⟩ := x
  have hs : s = none := by
    obtain ⟨n, hf⟩ := hi 0 (by omega)
    obtain ⟨v, hc, _⟩ := hf 0 _ h0
    simpa [Addr.add] using World.cell?_spot hc
  subst hs
  have e1 : ∀ k, (⟨b, o, none⟩ : Addr).add k = ⟨b, o + k, none⟩ := fun k => by unfold Addr.add; split <;> simp_all
  obtain ⟨l, hl', hp⟩ := chooseL (p := fun i a => b < w.heap.size ∧ el w b (o + i * fs.size) a) (m := len) (fun i hil => by
    obtain ⟨n, hf⟩ := hi i (by omega)
    obtain ⟨v, hc, _⟩ := hf 0 _ h0
    rw [e1] at hc
    obtain ⟨a, ha⟩ := hel b (o + i * fs.size) n (fun j f hj => by
      obtain ⟨v, hc, ht⟩ := hf j f hj
      rw [e1, ← Nat.add_assoc] at hc
      exact ⟨v, hc, ht⟩)
    exact ⟨a, World.block_lt_of_cell? w _ hc, ha⟩)
  exact ⟨l, hl', some ⟨b, o, none⟩, cap, by rw [hl'], by omega, fun i hi => ⟨b, o, rfl, (hp i hi).1, (hp i hi).2⟩⟩
theorem rdFieldR {α : Type} {sz : Nat} {el : World → Nat → Nat → α → Prop} {t e : TypeId} {fs : Array Field} {fuel : Nat} {v : Value} {x : DataW H × List MemPlace} (ht : P.underlying t = some (.slice e)) (he : P.underlying e = some (.struct fs))
    (hone : oneCellFields P fs = true) (hC : P.cellsOf e = fs.size) (hfs : fs.size = sz) {f0 : Field} (h0 : fs[0]? = some f0) (h : DataW.trod enc P w base spare held fuel t [v] = some x) (hr : Rch P t x.1)
    (hel : ∀ b k n, (∀ (j : Nat) (f : Field), fs[j]? = some f → ∃ (v : Value), w.cell? ⟨b, k + j, none⟩ = some v ∧ ∃ y : DataW H × List MemPlace, DataW.trod enc P w base spare held n f.type [v] = some y ∧ Rch P f.type y.1) → ∃ a, el w b k a) :
    ∃ l, RdRow sz el w.heap.size w v l := by
  rcases open_slice_fieldsR ht he hone hC h hr with hcs | ⟨x, len, c, m, hcs, hl, hm, hmm, hi⟩
  · obtain rfl : v = .slice none 0 0 := by simpa using hcs
    exact ⟨[], none, 0, rfl, by unfold maxLen; simp, fun i hi => absurd hi (by simp)⟩
  · obtain rfl : v = .slice (some x) len c := by simpa using hcs
    obtain ⟨l, _, hr⟩ := rdRow_mkG (cap := c) (len := len) (Z := fun n v f => ∃ y : DataW H × List MemPlace, DataW.trod enc P w base spare held n f.type [v] = some y ∧ Rch P f.type y.1) hfs (by split at hmm <;> omega) (by omega) h0 hi hel
    exact ⟨l, hr⟩
theorem leaf_text {t : TypeId} {fuel : Nat} {c : Value} {x : DataW H × List MemPlace} (ht : P.underlying t = some .string) (h : DataW.trod enc P w base spare held fuel t [c] = some x) (hr : Rch P t x.1) : ∃ s, c = .string s ∧ s.size ≤ 140737488351232 := by
  obtain ⟨s, hs, hx, _⟩ := DataW.trod_string ht h
  refine ⟨s, by simpa using hs, ?_⟩
  subst hx
  have h2 := hr.text
  rw [Array.length_toList] at h2
  exact h2
end
/-- a text that a copy can be made of -/
def Tx (s : ByteArray) : Prop := s.size ≤ 140737488351232
def SzPrg (p : PrgD) : Prop := (∀ c ∈ p.classes, Tx c.name ∧ ∀ f ∈ c.fields, Tx f.name) ∧ ∀ f ∈ p.funcs, Tx f.name
theorem RdRow.all {α : Type} {sz B : Nat} {el : World → Nat → Nat → α → Prop} {p : α → Prop} {w : World} {v : Value} {l : List α} (h : RdRow sz (fun w b k x => el w b k x ∧ p x) B w v l) : RdRow sz el B w v l ∧ ∀ x ∈ l, p x := by
  obtain ⟨a, c, h1, h2, h3⟩ := h
  refine ⟨⟨a, c, h1, h2, fun i hi => ?_⟩, fun x hx => ?_⟩
  · obtain ⟨b, o, e1, e2, e3⟩ := h3 i hi
    exact ⟨b, o, e1, e2, e3.1⟩
  · obtain ⟨i, hi, rfl⟩ := List.getElem_of_mem hx
    obtain ⟨b, o, e1, e2, e3⟩ := h3 i hi
    exact e3.2
section
variable {H : Type} {enc : TypeId × Value → H} {w : World} {base : Nat} {spare : Nat → Bool} {held : Bool}
theorem open_fieldsR {fuel : Nat} {v : Value} {x : DataW H × List MemPlace} (h : DataW.trod enc Try.prog w base spare held fuel 50 [v] = some x) (hr : Rch Try.prog 50 x.1) : ∃ l, RdRow 2 ElF w.heap.size w v l ∧ ∀ f ∈ l, Tx f.name := by
  obtain ⟨l, hl⟩ := rdFieldR (el := fun w b k f => ElF w b k f ∧ Tx f.name) Try.underlying50 Try.underlying66 (by kernel_rfl) (by kernel_rfl) rfl rfl h hr fun b k n hf => by
    obtain ⟨v0, c0, y0, t0, r0⟩ := hf 0 _ rfl
    obtain ⟨v1, c1, y1, t1, r1⟩ := hf 1 _ rfl
    obtain ⟨s, rfl, hs⟩ := leaf_text Try.underlying9 t0 r0
    obtain ⟨q, rfl, hw⟩ := leaf_int Try.underlying3 t1
    exact ⟨⟨s, q⟩, ⟨c0, c1, wf_I64 hw⟩, hs⟩
  exact ⟨l, hl.all⟩
theorem open_classesR {fuel : Nat} {v : Value} {x : DataW H × List MemPlace} (h : DataW.trod enc Try.prog w base spare held fuel 24 [v] = some x) (hr : Rch Try.prog 24 x.1) :
    ∃ l, RdRow 2 (ElC w.heap.size) w.heap.size w v l ∧ ∀ c ∈ l, Tx c.name ∧ ∀ f ∈ c.fields, Tx f.name := by
  obtain ⟨l, hl⟩ := rdFieldR (el := fun w b k c => ElC w.heap.size w b k c ∧ (Tx c.name ∧ ∀ f ∈ c.fields, Tx f.name)) Try.underlying24 Try.underlying52 (by kernel_rfl) (by kernel_rfl) rfl rfl h hr fun b k n hf => by
    obtain ⟨v0, c0, y0, t0, r0⟩ := hf 0 _ rfl
    obtain ⟨v1, c1, y1, t1, r1⟩ := hf 1 _ rfl
    obtain ⟨s, rfl, hs⟩ := leaf_text Try.underlying9 t0 r0
    obtain ⟨l, hl, ha⟩ := open_fieldsR t1 r1
    exact ⟨⟨s, l⟩, ⟨c0, v1, c1, hl⟩, hs, ha⟩
  exact ⟨l, RdRow.all (el := fun w' b k c => ElC w.heap.size w' b k c) (by
    obtain ⟨a, c, h1, h2, h3⟩ := hl
    exact ⟨a, c, h1, h2, h3⟩)⟩
theorem open_funcsR {fuel : Nat} {v : Value} {x : DataW H × List MemPlace} (h : DataW.trod enc Try.prog w base spare held fuel 25 [v] = some x) (hr : Rch Try.prog 25 x.1) :
    ∃ l, RdRow 5 (ElU w.heap.size) w.heap.size w v l ∧ ∀ f ∈ l, Tx f.name := by
  obtain ⟨l, hl⟩ := rdFieldR (el := fun w b k c => ElU w.heap.size w b k c ∧ Tx c.name) Try.underlying25 Try.underlying45 (by kernel_rfl) (by kernel_rfl) rfl rfl h hr fun b k n hf => by
    obtain ⟨v0, c0, y0, t0, r0⟩ := hf 0 _ rfl
    obtain ⟨v1, c1, y1, t1, _⟩ := hf 1 _ rfl
    obtain ⟨v2, c2, y2, t2, _⟩ := hf 2 _ rfl
    obtain ⟨v3, c3, y3, t3, _⟩ := hf 3 _ rfl
    obtain ⟨v4, c4, y4, t4, _⟩ := hf 4 _ rfl
    obtain ⟨s, rfl, hs⟩ := leaf_text Try.underlying9 t0 r0
    obtain ⟨l1, h1⟩ := rdInts Try.underlying43 Try.underlying3 (by kernel_rfl) t1
    obtain ⟨q2, rfl, w2⟩ := leaf_int Try.underlying3 t2
    obtain ⟨l3, h3⟩ := rdInts Try.underlying43 Try.underlying3 (by kernel_rfl) t3
    obtain ⟨l4, h4⟩ := open_code t4
    exact ⟨⟨s, l1, q2, l3, l4⟩, ⟨c0, ⟨v1, c1, h1⟩, ⟨c2, wf_I64 w2⟩, ⟨v3, c3, h3⟩, v4, c4, h4⟩, hs⟩
  exact ⟨l, RdRow.all (el := fun w' b k c => ElU w.heap.size w' b k c) (by
    obtain ⟨a, c, h1, h2, h3⟩ := hl
    exact ⟨a, c, h1, h2, h3⟩)⟩
end
end Go.Proofs.Ytffelcidckbohaa
/- Fields and instructions compared. No condition. -/
namespace Go.Proofs.Ytffelcidckbohaa
open Go.RowKit
set_option linter.unusedVariables false
theorem fields2 {l : List Field} {t u : TypeId} (h : l.map (fun f => (f.type, f.offset, f.name == "_")) = [(t, 0, false), (u, 1, false)]) :
    ∃ f g, l = [f, g] ∧ (f.type = t ∧ f.offset = 0 ∧ ¬ f.name = "_") ∧ (g.type = u ∧ g.offset = 1 ∧ ¬ g.name = "_") := by
  rcases l with _ | ⟨f0, _ | ⟨f1, _ | ⟨f2, l⟩⟩⟩ <;> simp only [List.map_cons, List.map_nil, List.cons.injEq, Prod.mk.injEq, beq_eq_false_iff_ne, ne_eq, and_true, reduceCtorEq, and_false] at h
  exact ⟨f0, f1, rfl, h.1, h.2⟩
theorem fields3 {l : List Field} {t u : TypeId} (h : l.map (fun f => (f.type, f.offset, f.name == "_")) = [(t, 0, false), (u, 1, false), (u, 2, false)]) :
    ∃ f g k, l = [f, g, k] ∧ (f.type = t ∧ f.offset = 0 ∧ ¬ f.name = "_") ∧ (g.type = u ∧ g.offset = 1 ∧ ¬ g.name = "_") ∧ (k.type = u ∧ k.offset = 2 ∧ ¬ k.name = "_") := by
  rcases l with _ | ⟨f0, _ | ⟨f1, _ | ⟨f2, _ | ⟨f3, l⟩⟩⟩⟩ <;> simp only [List.map_cons, List.map_nil, List.cons.injEq, Prod.mk.injEq, beq_eq_false_iff_ne, ne_eq, and_true, reduceCtorEq, and_false] at h
  exact ⟨f0, f1, f2, rfl, h.1, h.2⟩
theorem neq_fld (w : World) (a b : ByteArray) (x y : Int) :
    (binOp .neq 66 (.agg #[.string a, .int .i64 x]) (.agg #[.string b, .int .i64 y])).run Try.prog w = .ok (.bool (!(a.toList == b.toList && x == y))) w := by
  rw [run_neq_struct, run_equalIn_agg w 9999 _ _ _ (by kernel_rfl) (by kernel_rfl)]
  obtain ⟨f, g, hl, ⟨f1, f2, f3⟩, g1, g2, g3⟩ := fields2 (l := (Try.prog.fieldsOf 66).toList) (t := 9) (u := 3) (by kernel_rfl)
  rw [hl]
  have hi : Try.prog.underlying 3 = some (.int .i64) := by kernel_rfl
  have hs : Try.prog.underlying 9 = some .string := by kernel_rfl
  simp [Op.eqFields, f1, f2, f3, g1, g2, g3, go_sem, hi, hs]
  by_cases h1 : a.toList = b.toList <;> by_cases h2 : x = y <;> simp [h1, h2]
theorem guard_fld : Try.prog.eqGuardType Try.prog.depth 66 = false := by kernel_rfl
theorem neq_ins (w : World) (a b c x y z : Int) :
    (binOp .neq 41 (.agg #[.int .i64 a, .int .i64 b, .int .i64 c]) (.agg #[.int .i64 x, .int .i64 y, .int .i64 z])).run Try.prog w = .ok (.bool (!(a == x && (b == y && c == z)))) w := by
  rw [run_neq_struct, run_equalIn_agg w 9999 _ _ _ (by kernel_rfl) (by kernel_rfl)]
  obtain ⟨f, g, k, hl, ⟨f1, f2, f3⟩, ⟨g1, g2, g3⟩, k1, k2, k3⟩ := fields3 (l := (Try.prog.fieldsOf 41).toList) (t := 3) (u := 2) (by kernel_rfl)
  rw [hl]
  have hi : Try.prog.underlying 3 = some (.int .i64) := by kernel_rfl
  have hj : Try.prog.underlying 2 = some (.int .i64) := by kernel_rfl
  simp [Op.eqFields, f1, f2, f3, g1, g2, g3, k1, k2, k3, go_sem, hi, hj]
  by_cases h1 : a = x <;> by_cases h2 : b = y <;> by_cases h3 : c = z <;> simp [h1, h2, h3]
theorem guard_ins : Try.prog.eqGuardType Try.prog.depth 41 = false := by kernel_rfl
/-! what of a program is compared -/
def fldP (f : FldD) : List UInt8 × Int := (f.name.toList, f.ty)
def clsP (c : ClsD) : List UInt8 × List (List UInt8 × Int) := (c.name.toList, c.fields.map fldP)
def insP (i : InsD) : Int × Int × Int := (i.op, i.a, i.b)
def funP (f : FunD) : List UInt8 × List Int × Int × List Int × List (Int × Int × Int) := (f.name.toList, f.params, f.result, f.locals, f.code.map insP)
def prgP (p : PrgD) : List (List UInt8 × List (List UInt8 × Int)) × List (List UInt8 × List Int × Int × List Int × List (Int × Int × Int)) := (p.classes.map clsP, p.funcs.map funP)
theorem map_eq_of {α β : Type} {f : α → β} {l1 l2 : List α} (h : l1.length = l2.length) (he : ∀ i, (h1 : i < l1.length) → (h2 : i < l2.length) → f l1[i] = f l2[i]) : l1.map f = l2.map f :=
  list_eq_of (by simpa using h) fun i h1 h2 => by simpa using he i (by simpa using h1) (by simpa using h2)
theorem map_ne_at {α β : Type} {f : α → β} {l1 l2 : List α} {i : Nat} (h1 : i < l1.length) (h2 : i < l2.length) (h : ¬ f l1[i] = f l2[i]) : ¬ l1.map f = l2.map f := fun e => h (by
  have q : (l1.map f)[i]? = (l2.map f)[i]? := by rw [e]
  simpa [List.getElem?_eq_getElem h1, List.getElem?_eq_getElem h2] using q)
theorem map_ne_len {α β : Type} {f : α → β} {l1 l2 : List α} (h : ¬ l1.length = l2.length) : ¬ l1.map f = l2.map f := fun e => h (by simpa using congrArg List.length e)
end Go.Proofs.Ytffelcidckbohaa
/- The document's SameClass and Same of classes. No condition. -/
namespace Go.Proofs.Ytffelcidckbohaa
open Go.RowKit
set_option linter.unusedVariables false
theorem fldP_eq {f g : FldD} : (f.name.toList == g.name.toList && f.ty == g.ty) = decide (fldP f = fldP g) := by
  unfold fldP
  by_cases h1 : f.name.toList = g.name.toList <;> by_cases h2 : f.ty = g.ty <;> simp [h1, h2]
theorem clsP_eq {f g : ClsD} : decide (clsP f = clsP g) = (decide (f.name.toList = g.name.toList) && decide (f.fields.map fldP = g.fields.map fldP)) := by
  unfold clsP
  by_cases h1 : f.name.toList = g.name.toList <;> by_cases h2 : f.fields.map fldP = g.fields.map fldP <;> simp [h1, h2]
set_option maxRecDepth 100000 in
set_option maxHeartbeats 4000000 in
theorem rsclass_any (w : World) (B : Nat) (v1 v2 : Value) (c d : ClsD) (hB : B ≤ w.heap.size) (h1 : RdRow 2 ElF B w v1 c.fields) (h2 : RdRow 2 ElF B w v2 d.fields) :
    Calls Try.prog 48 #[.agg #[.string c.name, v1], .agg #[.string d.name, v2]] w fun e w' => e = .returned (.bool (decide (clsP c = clsP d))) ∧ Below w.heap.size w w' := by
  have h1' := h1
  have h2' := h2
  obtain ⟨a1, q1, rfl⟩ := rd_shape h1'
  obtain ⟨a2, q2, rfl⟩ := rd_shape h2'
  have M1 : c.fields.length ≤ maxLen := by obtain ⟨_, _, _, h, _⟩ := h1; exact h
  unfold maxLen at M1
  have k1 : Blk ((w.alloc (.cells #[.string c.name, .slice a1 c.fields.length q1] 52)).alloc (.cells #[.string d.name, .slice a2 d.fields.length q2] 52)) w.heap.size #[.string c.name, .slice a1 c.fields.length q1] 52 := (Blk.new _ _ _).alloc _
  have k2 : Blk ((w.alloc (.cells #[.string c.name, .slice a1 c.fields.length q1] 52)).alloc (.cells #[.string d.name, .slice a2 d.fields.length q2] 52)) (w.heap.size + 1) #[.string d.name, .slice a2 d.fields.length q2] 52 := Blk.new' (by simp)
  have hb0 : Below w.heap.size w ((w.alloc (.cells #[.string c.name, .slice a1 c.fields.length q1] 52)).alloc (.cells #[.string d.name, .slice a2 d.fields.length q2] 52)) := ((Below.refl _ _).alloc (Nat.le_refl _) _).alloc (by simp) _
  have g1 := h1.keep (hb0.mono hB) fun _ _ _ e r => r.keep (hb0.mono hB) e
  have g2 := h2.keep (hb0.mono hB) fun _ _ _ e r => r.keep (hb0.mono hB) e
  have R1 := Lib.hid (fun i (hi : i < c.fields.length) => rd_at g1 hi)
  have R2 := Lib.hid (fun i (hi : i < d.fields.length) => rd_at g2 hi)
  have hb := Lib.hid hb0
  have CP := Lib.hid (clsP_eq (f := c) (g := d))
  clear h1 h2 h1' h2' hb0 g1 g2
  have c0 := k1.val 0 rfl
  have c1 := k1.val 1 rfl
  have d0 := k2.val 0 rfl
  have d1 := k2.val 1 rfl
  have hG := guard_fld
  by_cases hx : c.name.toList = d.name.toList
  · have hx' : (c.name.toList == d.name.toList) = true := by simp [hx]
    have HX := Lib.hid hx
    clear hx
    by_cases hn : c.fields.length = d.fields.length
    · have hne : ((c.fields.length : Int) != (d.fields.length : Int)) = false := by simp [hn]
      have HN := Lib.hid hn
      clear hn
      go_enter Try.func48, Try.ntmps48
      go_wp2
      generalize World.alloc (World.alloc _ _) _ = W at *
      generalize hS : w.heap.size = S at *
      have HS := Lib.hid hS
      clear hS
      go_loopw [5] (fun i wr => ∃ k : Nat, k ≤ c.fields.length ∧ i = .int .i64 k ∧ Quiet W wr ∧ ∀ j, (j1 : j < c.fields.length) → (j2 : j < d.fields.length) → j < k → fldP c.fields[j] = fldP d.fields[j]) (fun i _ => c.fields.length - (intOf i).toNat)
      case atStart => exact ⟨0, Nat.zero_le _, rfl, Quiet.refl _, fun j _ _ h => absurd h (by omega)⟩
      case round =>
        obtain ⟨k, hk, rfl, hq, hj⟩ := hrel
        have HJ := Lib.hid hj
        clear hj
        have c1 := (hq.cell _).trans c1
        have d1 := (hq.cell _).trans d1
        by_cases hlt : k < c.fields.length
        · have hlt2 : k < d.fields.length := by have := HN.out; omega
          obtain ⟨b1, o1, rfl, _, p1, p1', _⟩ := R1.out k hlt
          obtain ⟨b2, o2, rfl, _, p2, p2', _⟩ := R2.out k hlt2
          have p1 := (hq.cell _).trans p1
          have p2 := (hq.cell _).trans p2
          have p1' := (hq.cell _).trans p1'
          have p2' := (hq.cell _).trans p2'
          have hlt' : (k : Int) < (c.fields.length : Int) := by omega
          have hlt2' : (k : Int) < (d.fields.length : Int) := by omega
          have hge' : (0 : Int) ≤ (k : Int) := by omega
          have FP := Lib.hid (@fldP_eq c.fields[k] d.fields[k])
          have hE := fun W => neq_fld W c.fields[k].name d.fields[k].name c.fields[k].ty d.fields[k].ty
          have HM : Hid (¬ fldP c.fields[k] = fldP d.fields[k] → ¬ c.fields.map fldP = d.fields.map fldP) := map_ne_at hlt hlt2
          have HE : Hid (∀ (j1 : k < c.fields.length) (j2 : k < d.fields.length), fldP (c.fields[k]'j1) = fldP (c.fields[k]'hlt) ∧ fldP (d.fields[k]'j2) = fldP (d.fields[k]'hlt2)) := fun _ _ => ⟨rfl, rfl⟩
          generalize c.fields[k] = z1 at *
          generalize d.fields[k] = z2 at *
          rcases z1 with ⟨zn, zt⟩
          rcases z2 with ⟨yn, yt⟩
          simp only at p1 p2 p1' p2' hE
          by_cases hy : fldP ⟨zn, zt⟩ = fldP ⟨yn, yt⟩
          · have hv : (zn.toList == yn.toList && zt == yt) = true := by rw [show (zn.toList == yn.toList && zt == yt) = decide (fldP ⟨zn, zt⟩ = fldP ⟨yn, yt⟩) from FP.out]; simpa using hy
            have HY := Lib.hid hy
            clear hy
            go_wp2
            go_quiet (fail)
            go_wp2
            go_roundw
            case rel => exact ⟨k + 1, by omega, by go_num, hq.trans ⟨_, rfl⟩, fun j j1 j2 j3 => by
              rcases Nat.lt_or_ge j k with h | h
              · exact HJ.out j j1 j2 h
              · obtain rfl : j = k := by omega
                exact (HE.out j1 j2).1.trans (HY.out.trans (HE.out j1 j2).2.symm)⟩
            case measure => simp [intOf]; omega
          · have hv : (zn.toList == yn.toList && zt == yt) = false := by rw [show (zn.toList == yn.toList && zt == yt) = decide (fldP ⟨zn, zt⟩ = fldP ⟨yn, yt⟩) from FP.out]; simpa using hy
            have HY := Lib.hid hy
            clear hy
            go_wp2
            go_quiet (fail)
            go_wp2
            go_ret
            exact ⟨ret_bool (by rw [CP.out]; simp [HM.out HY.out]), by first | (rw [HS.out]; exact hb.out.trans (Quiet.below (hq.trans ⟨_, rfl⟩))) | exact hb.out.trans (Quiet.below (hq.trans ⟨_, rfl⟩))⟩
        · have hlt' : ¬ (k : Int) < (c.fields.length : Int) := by omega
          go_wp2
          go_ret
          exact ⟨ret_bool (by rw [CP.out]; simp [HX.out, map_eq_of HN.out fun i i1 i2 => HJ.out i i1 i2 (by omega)]), by first | (rw [HS.out]; exact hb.out.trans (Quiet.below hq)) | exact hb.out.trans (Quiet.below hq)⟩
    · have hne : ((c.fields.length : Int) != (d.fields.length : Int)) = true := by simp; omega
      have HM := Lib.hid (map_ne_len (f := fldP) hn)
      go_enter Try.func48, Try.ntmps48
      go_wp2
      go_ret
      exact ⟨ret_bool (by rw [CP.out]; simp [HM.out]), hb.out⟩
  · have hx' : (c.name.toList == d.name.toList) = false := by simpa using hx
    have HX := Lib.hid hx
    clear hx
    go_enter Try.func48, Try.ntmps48
    go_wp2
    go_ret
    exact ⟨ret_bool (by rw [CP.out]; simp [HX.out]), hb.out⟩
end Go.Proofs.Ytffelcidckbohaa
