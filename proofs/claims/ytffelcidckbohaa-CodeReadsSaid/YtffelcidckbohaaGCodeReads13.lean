/- The document's reader: number, whole. Condition: the reader is there. -/
import Derived.Test.YtffelcidckbohaaGCodeReads12
namespace Go.Proofs.Ytffelcidckbohaa
open Go.RowKit
set_option linter.unusedVariables false
/-- what is known ahead of the reckoning -/
def KNum (D : Rd Nat) (most q0 : Nat) (L : List UInt8) (s : St) : Prop :=
  (∃ ex, s = .error ex ∧ D = .error ex) ∨ (∃ q, s = .ok q ∧ (D = if most < valD L then .error (3, (q0 : Int)) else .ok (valD L, q)) ∧ valD L < 18446744073709551616)
theorem bytI_at {w : World} {lo : Nat} {va : Option Addr} {vc : Nat} {L : List UInt8} (h : w.ownsRow lo 3 1 (.slice va L.length vc) L.length (L.flatMap bytI)) (i : Nat) (hi : i < L.length) : ∃ g, va = some ⟨g, 0, none⟩ ∧ w.cell? ⟨g, i, none⟩ = some (.int .i64 ((L[i]).toNat : Int)) := by
  obtain ⟨g, cap, e1, _, _, _, _, hc⟩ := own_cellG h (by omega)
  injection e1 with e1 _ _
  refine ⟨g, e1, ?_⟩
  have := flat_at bytI 1 (fun _ => rfl) L i 0 hi (by decide)
  rw [Nat.mul_one, Nat.add_zero] at this
  exact hc i _ this
set_option maxRecDepth 100000 in
set_option maxHeartbeats 4000000 in
theorem rnumber_any' (t : TypeId) (w : World) (B b : Nat) (bs : List UInt8) (st : St) (most : Nat) (h : RdS t w B b bs st) (hm : most < 18446744073709551616) :
    Calls Try.prog 21 #[.pointer (some ⟨b, 0, none⟩), .int .u64 most] w (ReadsN t B b bs (after st (numD bs most)) w) := by
  obtain ⟨i0, hi, hz0, hz1, hz2⟩ := info_parts info_intC
  have Z := Lib.hid (And.intro hi (And.intro hz0 (And.intro hz1 hz2)))
  obtain ⟨q0, hq6, c1, hq⟩ := h.atC
  have hbl := h.lt
  have HS := Lib.hid h
  have HQ := Lib.hid hq
  clear h hi hz0 hz1 hz2 hq
  go_enter Try.func21, Try.ntmps21
  go_wp2
  go_loopw [6, 7] (fun l c wr => ∃ (L : List UInt8) (C : Nat) (s : St), c = .int .i64 C ∧ wr.ownsRow w.heap.size 3 1 l L.length (L.flatMap bytI) ∧ RNum t wr B b bs st (after st (numD bs most)) L C s ∧ RdT b w wr) (fun l _ _ => 10 - sLen l)
  case atStart => exact ⟨[], 128, st, rfl, ⟨by simp, .inl ⟨rfl, rfl⟩⟩, RNum.start HS.out, Touch.refl _ _⟩
  case round =>
    obtain ⟨L, C, s, rfl, hO, hR, hT⟩ := hrel
    obtain ⟨va, vc, rfl⟩ := row_shape hO
    have hC := hR.2.2.1
    have hL := hR.2.1
    have HR := Lib.hid hR
    have HT := Lib.hid hT
    clear hR hT c1
    by_cases hgo : 128 ≤ C ∧ ∃ p', s = .ok p'
    · obtain ⟨hc, p', hs⟩ := hgo
      subst hs
      obtain ⟨p, rfl, rfl⟩ : ∃ p, st = .ok p ∧ p' = p + L.length := by
        rcases HR.out.2.2.2 with ⟨p, e1, e2, _⟩ | ⟨ex, e1, _⟩
        · exact ⟨p, e1, by injection e2⟩
        · cases e1
      obtain rfl := HQ.out _ rfl
      have hl9 : L.length < 10 := by
        rcases HR.out.2.2.2 with ⟨p, e1, e2, _, _, h3, _⟩ | ⟨ex, e1, _⟩
        · by_cases e : L.length = 10
          · exact absurd ⟨e, by omega⟩ h3
          · omega
        · cases e1
      have hc' : (128 : Int) ≤ (C : Int) := by omega
      obtain ⟨c2, _⟩ := HR.out.1.okC
      have N := Lib.hid (rone_any t wr B b bs _ HR.out.1)
      go_wp2_with fail
      refine N.out.mono ?_
      rintro e' w2 ⟨x, s1, rfl, hG, h0, hS, hT2⟩
      have hx := x.toNat_lt
      have hO2 := own_touch hO hT2 (fun g hg e => by have := (own_ltG hO hg).1; omega)
      have HG := Lib.hid hG
      have H0 := Lib.hid h0
      have HT2 := Lib.hid (HT.out.trans hT2)
      have HS2 := Lib.hid hS
      clear hO hG h0 hT2 N c2 hS
      cases s1 with
      | error ex =>
        go_wp2_with (at_builtin; refine wpList_append_own_at _ rfl _ _ 43 rfl w.heap.size 3 i0 _ 1 8 Try.underlying43 Z.out.1 Z.out.2.1 Z.out.2.2.1 Z.out.2.2.2 rfl (by decide) _ L.length (L.flatMap bytI) rfl (own_grewG hO2 ((Below.refl _ _).alloc (Nat.le_refl _) _)) ⟨w2.heap.size, 0, none⟩ 1 1 (bytI x) rfl rfl (World.news_of_block (Blk.new _ _ _)) (by simp [Value.oneCell', bytI]) (by unfold maxLen; omega) (by omega) (by simp; have := HT2.out.size; omega) ?_; intro v' w3 hown' hgrow _ hat; obtain ⟨ga, gc, rfl⟩ := row_shape hown'; have HA := Lib.hid (list_kept HS2.out hbl hO2 hgrow HT2.out); clear hgrow hat hO2; obtain ⟨c2, c2a, c2b, _⟩ := HA.out.1.errC)
        go_roundw
        case rel => exact ⟨L ++ [x], x.toNat, .error ex, rfl, by rw [List.length_append, List.flatMap_append]; exact hown', RNum.next HR.out hc HG.out H0.out HA.out.1 (fun q e => by cases e), HA.out.2⟩
        case measure => simp [sLen]; omega
      | ok q =>
        by_cases h10 : L.length + 1 = 10
        · have l10 : ((L.length : Int) + 1 == 10) = true := by simp; omega
          have H10 := Lib.hid h10
          clear h10
          by_cases hx1 : 1 < x.toNat
          · have hx1' : (1 : Int) < (x.toNat : Int) := by omega
            have HD := Lib.hid (RNum.big HR.out hc HG.out ⟨H10.out, hx1⟩)
            go_wp2_with (at_builtin; refine wpList_append_own_at _ rfl _ _ 43 rfl w.heap.size 3 i0 _ 1 8 Try.underlying43 Z.out.1 Z.out.2.1 Z.out.2.2.1 Z.out.2.2.2 rfl (by decide) _ L.length (L.flatMap bytI) rfl (own_grewG hO2 ((Below.refl _ _).alloc (Nat.le_refl _) _)) ⟨w2.heap.size, 0, none⟩ 1 1 (bytI x) rfl rfl (World.news_of_block (Blk.new _ _ _)) (by simp [Value.oneCell', bytI]) (by unfold maxLen; omega) (by omega) (by simp; have := HT2.out.size; omega) ?_; intro v' w3 hown' hgrow _ hat; obtain ⟨ga, gc, rfl⟩ := row_shape hown'; have HA := Lib.hid (list_kept HS2.out hbl hO2 hgrow HT2.out); clear hgrow hat hO2; obtain ⟨c2, _⟩ := HA.out.1.okC)
            refine (HA.out.1.rfailed (q0 : Int) 3 (by decide)).mono ?_
            rintro e' w4 ⟨⟨u, rfl⟩, hS4, hT4⟩
            have hO4 := own_touch hown' hT4 (fun g hg e => by have := (own_ltG hown' hg).1; omega)
            have H4 := Lib.hid (And.intro hS4 (HA.out.2.trans hT4))
            clear hS4 hT4 hown' c2
            go_wp2
            go_roundw
            case rel => exact ⟨L ++ [x], x.toNat, .error (3, (q0 : Int)), rfl, by rw [List.length_append, List.flatMap_append]; exact hO4, ⟨H4.out.1, by simp; omega, by omega, .inr ⟨_, rfl, HD.out⟩⟩, H4.out.2⟩
            case measure => simp [sLen]; omega
          · have hx1' : ¬ (1 : Int) < (x.toNat : Int) := by omega
            go_wp2_with (at_builtin; refine wpList_append_own_at _ rfl _ _ 43 rfl w.heap.size 3 i0 _ 1 8 Try.underlying43 Z.out.1 Z.out.2.1 Z.out.2.2.1 Z.out.2.2.2 rfl (by decide) _ L.length (L.flatMap bytI) rfl (own_grewG hO2 ((Below.refl _ _).alloc (Nat.le_refl _) _)) ⟨w2.heap.size, 0, none⟩ 1 1 (bytI x) rfl rfl (World.news_of_block (Blk.new _ _ _)) (by simp [Value.oneCell', bytI]) (by unfold maxLen; omega) (by omega) (by simp; have := HT2.out.size; omega) ?_; intro v' w3 hown' hgrow _ hat; obtain ⟨ga, gc, rfl⟩ := row_shape hown'; have HA := Lib.hid (list_kept HS2.out hbl hO2 hgrow HT2.out); clear hgrow hat hO2; obtain ⟨c2, _⟩ := HA.out.1.okC)
            go_roundw
            case rel => exact ⟨L ++ [x], x.toNat, .ok q, rfl, by rw [List.length_append, List.flatMap_append]; exact hown', RNum.next HR.out hc HG.out H0.out HA.out.1 (fun q e h => hx1 h.2), HA.out.2⟩
            case measure => simp [sLen]; omega
        · have l10 : ((L.length : Int) + 1 == 10) = false := by simp; omega
          go_wp2_with (at_builtin; refine wpList_append_own_at _ rfl _ _ 43 rfl w.heap.size 3 i0 _ 1 8 Try.underlying43 Z.out.1 Z.out.2.1 Z.out.2.2.1 Z.out.2.2.2 rfl (by decide) _ L.length (L.flatMap bytI) rfl (own_grewG hO2 ((Below.refl _ _).alloc (Nat.le_refl _) _)) ⟨w2.heap.size, 0, none⟩ 1 1 (bytI x) rfl rfl (World.news_of_block (Blk.new _ _ _)) (by simp [Value.oneCell', bytI]) (by unfold maxLen; omega) (by omega) (by simp; have := HT2.out.size; omega) ?_; intro v' w3 hown' hgrow _ hat; obtain ⟨ga, gc, rfl⟩ := row_shape hown'; have HA := Lib.hid (list_kept HS2.out hbl hO2 hgrow HT2.out); clear hgrow hat hO2; obtain ⟨c2, _⟩ := HA.out.1.okC)
          go_roundw
          case rel => exact ⟨L ++ [x], x.toNat, .ok q, rfl, by rw [List.length_append, List.flatMap_append]; exact hown', RNum.next HR.out hc HG.out H0.out HA.out.1 (fun q e h => h10 h.1), HA.out.2⟩
          case measure => simp [sLen]; omega
    · cases s with
      | error ex =>
        have HK : Hid (KNum (after st (numD bs most)) most q0 L (.error ex)) := by
          rcases HR.out.2.2.2 with ⟨p, _, e2, _⟩ | ⟨ey, e1, e2⟩
          · cases e2
          · injection e1 with e1; subst e1; exact .inl ⟨_, rfl, e2⟩
        obtain ⟨c2, c2a, c2b, _⟩ := HR.out.1.errC
        have HS5 := Lib.hid HR.out.1
        have HT5 := HT
        clear HR HT hgo
        generalize wr = w5 at *
        by_cases hc : 128 ≤ C
        all_goals (first | (have hc' : (128 : Int) ≤ (C : Int) := (by omega)) | (have hc' : ¬ (128 : Int) ≤ (C : Int) := (by omega)))
        all_goals go_upto_region 11 with fail
        all_goals clear hc hc' c2 c2a c2b
        all_goals generalize hs5 : (Except.error ex : St) = s5 at *
        all_goals clear hs5
        all_goals
          go_wp2
          go_loop [8, 9] (fun nn i => ∃ (m : Nat) (z : Int), m ≤ L.length ∧ i = .int .i64 z ∧ z = (m : Int) - 1 ∧ ∃ N : Nat, nn = .int .u64 N ∧ (N : Int) < 18446744073709551616 ∧ Hid (N = valD (L.drop m) % 18446744073709551616)) (fun _ i => (intOf i + 1).toNat)
          case atStart => exact ⟨L.length, _, Nat.le_refl _, rfl, by omega, 0, rfl, by omega, by unfold Hid; rw [List.drop_length]; rfl⟩
          case round =>
            obtain ⟨m, z, hm1, rfl, hz, N, rfl, hN, HN⟩ := hrel
            by_cases hz0 : 0 ≤ z
            · obtain ⟨k, rfl⟩ : ∃ k, m = k + 1 := ⟨m - 1, by omega⟩
              obtain rfl : z = (k : Int) := by omega
              clear hz
              obtain ⟨g, rfl, ck⟩ := bytI_at hO k (by omega)
              have HV := Lib.hid (valD_drop L k (by omega))
              have hx := (L[k]'(by omega)).toNat_lt
              have i1 : (0 : Int) ≤ (k : Int) ∧ (k : Int) < (L.length : Int) := ⟨by omega, by omega⟩
              have i2 : 0 < L.length := by omega
              generalize (L[k]'(by omega)).toNat = x at *
              have HN2 := Lib.hid (Nat.mod_lt (valD (L.drop k)) (show 0 < 18446744073709551616 by decide))
              generalize valD (L.drop (k + 1)) = V at *
              obtain ⟨V2, hV2⟩ : ∃ V2, V2 = valD (L.drop k) := ⟨_, rfl⟩
              rw [← hV2] at HV HN2
              have HV2 := Lib.hid hV2
              clear hV2
              go_wp2
              go_round
              case rel => exact ⟨k, (k : Int) - 1, by omega, by go_num, rfl, V2 % 18446744073709551616, by have := HV.out; have := HN.out; rw [IntKind.wrap_u64, IntKind.wrap_u64]; congr 1; omega, by have := HN2.out; omega, by unfold Hid; rw [HV2.out]⟩
              case measure => first | (simp [intOf]; done) | (simp [intOf]; omega)
            · obtain rfl : m = 0 := by omega
              obtain rfl : z = -1 := by omega
              clear hz hm1 hz0
              rw [List.drop_zero] at *
              rcases HK.out with ⟨ex, e1, e2⟩ | ⟨q, e1, e2, e3⟩
              · subst e1
                obtain ⟨c2, c2a, c2b, _⟩ := HS5.out.errC
                have HE := Lib.hid e2
                clear e2
                go_wp2
                go_ret
                exact ⟨0, .error ex, rfl, .inr ⟨ex, HE.out, rfl⟩, fun _ _ => rfl, HS5.out, HT5.out⟩
              · subst e1
                have hNV : N = valD L := HN.out.trans (Nat.mod_eq_of_lt e3)
                subst hNV
                obtain ⟨c2, _⟩ := HS5.out.okC
                have HE := Lib.hid e2
                clear e2
                generalize valD L = V at *
                by_cases hq : most < V
                · have hq' : (most : Int) < (V : Int) := by omega
                  go_wp2_with fail
                  refine (HS5.out.rfailed (q0 : Int) 3 (by decide)).mono ?_
                  rintro e' w6 ⟨⟨u6, rfl⟩, hS6, hT6⟩
                  change RdS t w6 B b bs (.error (3, (q0 : Int))) at hS6
                  obtain ⟨d2, d2a, d2b, _⟩ := hS6.errC
                  have H6 := Lib.hid (And.intro hS6 hT6)
                  clear hS6 hT6 c2
                  go_wp2
                  go_ret
                  exact ⟨0, .error (3, (q0 : Int)), rfl, .inr ⟨_, HE.out.trans (if_pos hq), rfl⟩, fun _ _ => rfl, H6.out.1, HT5.out.trans H6.out.2⟩
                · have hq' : ¬ (most : Int) < (V : Int) := by omega
                  go_wp2
                  go_ret
                  exact ⟨V, .ok q, rfl, .inl ⟨q, HE.out.trans (if_neg hq), rfl⟩, fun _ h => st_no h, HS5.out, HT5.out⟩
      | ok q =>
        have hc : C < 128 := by
          by_cases h : 128 ≤ C
          · exact absurd ⟨h, q, rfl⟩ hgo
          · omega
        obtain ⟨p, rfl, rfl, hpos, hl10, hcl, HD, hv⟩ := HR.out.fine hc
        have HHD := Lib.hid HD
        obtain rfl := HQ.out _ rfl
        have hc' : ¬ (128 : Int) ≤ (C : Int) := by omega
        obtain ⟨c2, _⟩ := HR.out.1.okC
        have HS4 := Lib.hid HR.out.1
        clear HR hgo HD hcl
        by_cases hC0 : C = 0
        · subst hC0
          by_cases h1 : 1 < L.length
          · have h1' : (1 : Int) < (L.length : Int) := by omega
            go_wp2_with fail
            refine (HS4.out.rfailed (q0 : Int) 13 (by decide)).mono ?_
            rintro e' w5 ⟨⟨u, rfl⟩, hS5, hT5⟩
            have hO := own_touch hO hT5 (fun g hg e => by have := (own_ltG hO hg).1; omega)
            have HS5 : Hid (RdS t w5 B b bs (.error (13, (q0 : Int)))) := hS5
            have HT5 := Lib.hid (HT.out.trans hT5)
            have HK : Hid (KNum (after (.ok q0) (numD bs most)) most q0 L (.error (13, (q0 : Int)))) := .inl ⟨_, rfl, HHD.out.trans (if_pos ⟨h1, by first | trivial | rfl⟩)⟩
            clear hS5 hT5 HT HS4 c2
            go_upto_region 11 with fail
            generalize hs5 : (Except.error (13, (q0 : Int)) : St) = s5 at *
            clear hs5
            go_wp2
            go_loop [8, 9] (fun nn i => ∃ (m : Nat) (z : Int), m ≤ L.length ∧ i = .int .i64 z ∧ z = (m : Int) - 1 ∧ ∃ N : Nat, nn = .int .u64 N ∧ (N : Int) < 18446744073709551616 ∧ Hid (N = valD (L.drop m) % 18446744073709551616)) (fun _ i => (intOf i + 1).toNat)
            case atStart => exact ⟨L.length, _, Nat.le_refl _, rfl, by omega, 0, rfl, by omega, by unfold Hid; rw [List.drop_length]; rfl⟩
            case round =>
              obtain ⟨m, z, hm1, rfl, hz, N, rfl, hN, HN⟩ := hrel
              by_cases hz0 : 0 ≤ z
              · obtain ⟨k, rfl⟩ : ∃ k, m = k + 1 := ⟨m - 1, by omega⟩
                obtain rfl : z = (k : Int) := by omega
                clear hz
                obtain ⟨g, rfl, ck⟩ := bytI_at hO k (by omega)
                have HV := Lib.hid (valD_drop L k (by omega))
                have hx := (L[k]'(by omega)).toNat_lt
                have i1 : (0 : Int) ≤ (k : Int) ∧ (k : Int) < (L.length : Int) := ⟨by omega, by omega⟩
                have i2 : 0 < L.length := by omega
                generalize (L[k]'(by omega)).toNat = x at *
                have HN2 := Lib.hid (Nat.mod_lt (valD (L.drop k)) (show 0 < 18446744073709551616 by decide))
                generalize valD (L.drop (k + 1)) = V at *
                obtain ⟨V2, hV2⟩ : ∃ V2, V2 = valD (L.drop k) := ⟨_, rfl⟩
                rw [← hV2] at HV HN2
                have HV2 := Lib.hid hV2
                clear hV2
                go_wp2
                go_round
                case rel => exact ⟨k, (k : Int) - 1, by omega, by go_num, rfl, V2 % 18446744073709551616, by have := HV.out; have := HN.out; rw [IntKind.wrap_u64, IntKind.wrap_u64]; congr 1; omega, by have := HN2.out; omega, by unfold Hid; rw [HV2.out]⟩
                case measure => first | (simp [intOf]; done) | (simp [intOf]; omega)
              · obtain rfl : m = 0 := by omega
                obtain rfl : z = -1 := by omega
                clear hz hm1 hz0
                rw [List.drop_zero] at *
                rcases HK.out with ⟨ex, e1, e2⟩ | ⟨q, e1, e2, e3⟩
                · subst e1
                  obtain ⟨c2, c2a, c2b, _⟩ := HS5.out.errC
                  have HE := Lib.hid e2
                  clear e2
                  go_wp2
                  go_ret
                  exact ⟨0, .error ex, rfl, .inr ⟨ex, HE.out, rfl⟩, fun _ _ => rfl, HS5.out, HT5.out⟩
                · subst e1
                  have hNV : N = valD L := HN.out.trans (Nat.mod_eq_of_lt e3)
                  subst hNV
                  obtain ⟨c2, _⟩ := HS5.out.okC
                  have HE := Lib.hid e2
                  clear e2
                  generalize valD L = V at *
                  by_cases hq : most < V
                  · have hq' : (most : Int) < (V : Int) := by omega
                    go_wp2_with fail
                    refine (HS5.out.rfailed (q0 : Int) 3 (by decide)).mono ?_
                    rintro e' w6 ⟨⟨u6, rfl⟩, hS6, hT6⟩
                    change RdS t w6 B b bs (.error (3, (q0 : Int))) at hS6
                    obtain ⟨d2, d2a, d2b, _⟩ := hS6.errC
                    have H6 := Lib.hid (And.intro hS6 hT6)
                    clear hS6 hT6 c2
                    go_wp2
                    go_ret
                    exact ⟨0, .error (3, (q0 : Int)), rfl, .inr ⟨_, HE.out.trans (if_pos hq), rfl⟩, fun _ _ => rfl, H6.out.1, HT5.out.trans H6.out.2⟩
                  · have hq' : ¬ (most : Int) < (V : Int) := by omega
                    go_wp2
                    go_ret
                    exact ⟨V, .ok q, rfl, .inl ⟨q, HE.out.trans (if_neg hq), rfl⟩, fun _ h => st_no h, HS5.out, HT5.out⟩
          · have h1' : ¬ (1 : Int) < (L.length : Int) := by omega
            have HK : Hid (KNum (after (.ok q0) (numD bs most)) most q0 L (.ok (q0 + L.length))) := .inr ⟨_, rfl, HHD.out.trans (if_neg fun h => h1 h.1), hv⟩
            have HS5 := HS4
            have HT5 := HT
            clear HS4 HT
            go_upto_region 11 with fail
            clear c2
            generalize wr = w5 at *
            generalize hs5 : (Except.ok (q0 + L.length) : St) = s5 at *
            clear hs5
            go_wp2
            go_loop [8, 9] (fun nn i => ∃ (m : Nat) (z : Int), m ≤ L.length ∧ i = .int .i64 z ∧ z = (m : Int) - 1 ∧ ∃ N : Nat, nn = .int .u64 N ∧ (N : Int) < 18446744073709551616 ∧ Hid (N = valD (L.drop m) % 18446744073709551616)) (fun _ i => (intOf i + 1).toNat)
            case atStart => exact ⟨L.length, _, Nat.le_refl _, rfl, by omega, 0, rfl, by omega, by unfold Hid; rw [List.drop_length]; rfl⟩
            case round =>
              obtain ⟨m, z, hm1, rfl, hz, N, rfl, hN, HN⟩ := hrel
              by_cases hz0 : 0 ≤ z
              · obtain ⟨k, rfl⟩ : ∃ k, m = k + 1 := ⟨m - 1, by omega⟩
                obtain rfl : z = (k : Int) := by omega
                clear hz
                obtain ⟨g, rfl, ck⟩ := bytI_at hO k (by omega)
                have HV := Lib.hid (valD_drop L k (by omega))
                have hx := (L[k]'(by omega)).toNat_lt
                have i1 : (0 : Int) ≤ (k : Int) ∧ (k : Int) < (L.length : Int) := ⟨by omega, by omega⟩
                have i2 : 0 < L.length := by omega
                generalize (L[k]'(by omega)).toNat = x at *
                have HN2 := Lib.hid (Nat.mod_lt (valD (L.drop k)) (show 0 < 18446744073709551616 by decide))
                generalize valD (L.drop (k + 1)) = V at *
                obtain ⟨V2, hV2⟩ : ∃ V2, V2 = valD (L.drop k) := ⟨_, rfl⟩
                rw [← hV2] at HV HN2
                have HV2 := Lib.hid hV2
                clear hV2
                go_wp2
                go_round
                case rel => exact ⟨k, (k : Int) - 1, by omega, by go_num, rfl, V2 % 18446744073709551616, by have := HV.out; have := HN.out; rw [IntKind.wrap_u64, IntKind.wrap_u64]; congr 1; omega, by have := HN2.out; omega, by unfold Hid; rw [HV2.out]⟩
                case measure => first | (simp [intOf]; done) | (simp [intOf]; omega)
              · obtain rfl : m = 0 := by omega
                obtain rfl : z = -1 := by omega
                clear hz hm1 hz0
                rw [List.drop_zero] at *
                rcases HK.out with ⟨ex, e1, e2⟩ | ⟨q, e1, e2, e3⟩
                · subst e1
                  obtain ⟨c2, c2a, c2b, _⟩ := HS5.out.errC
                  have HE := Lib.hid e2
                  clear e2
                  go_wp2
                  go_ret
                  exact ⟨0, .error ex, rfl, .inr ⟨ex, HE.out, rfl⟩, fun _ _ => rfl, HS5.out, HT5.out⟩
                · subst e1
                  have hNV : N = valD L := HN.out.trans (Nat.mod_eq_of_lt e3)
                  subst hNV
                  obtain ⟨c2, _⟩ := HS5.out.okC
                  have HE := Lib.hid e2
                  clear e2
                  generalize valD L = V at *
                  by_cases hq : most < V
                  · have hq' : (most : Int) < (V : Int) := by omega
                    go_wp2_with fail
                    refine (HS5.out.rfailed (q0 : Int) 3 (by decide)).mono ?_
                    rintro e' w6 ⟨⟨u6, rfl⟩, hS6, hT6⟩
                    change RdS t w6 B b bs (.error (3, (q0 : Int))) at hS6
                    obtain ⟨d2, d2a, d2b, _⟩ := hS6.errC
                    have H6 := Lib.hid (And.intro hS6 hT6)
                    clear hS6 hT6 c2
                    go_wp2
                    go_ret
                    exact ⟨0, .error (3, (q0 : Int)), rfl, .inr ⟨_, HE.out.trans (if_pos hq), rfl⟩, fun _ _ => rfl, H6.out.1, HT5.out.trans H6.out.2⟩
                  · have hq' : ¬ (most : Int) < (V : Int) := by omega
                    go_wp2
                    go_ret
                    exact ⟨V, .ok q, rfl, .inl ⟨q, HE.out.trans (if_neg hq), rfl⟩, fun _ h => st_no h, HS5.out, HT5.out⟩
        · have hC0' : ((C : Int) == 0) = false := by simp; omega
          have HK : Hid (KNum (after (.ok q0) (numD bs most)) most q0 L (.ok (q0 + L.length))) := .inr ⟨_, rfl, HHD.out.trans (if_neg fun h => hC0 h.2), hv⟩
          have HS5 := HS4
          have HT5 := HT
          clear HS4 HT
          go_upto_region 11 with fail
          clear c2
          generalize wr = w5 at *
          generalize hs5 : (Except.ok (q0 + L.length) : St) = s5 at *
          clear hs5
          go_wp2
          go_loop [8, 9] (fun nn i => ∃ (m : Nat) (z : Int), m ≤ L.length ∧ i = .int .i64 z ∧ z = (m : Int) - 1 ∧ ∃ N : Nat, nn = .int .u64 N ∧ (N : Int) < 18446744073709551616 ∧ Hid (N = valD (L.drop m) % 18446744073709551616)) (fun _ i => (intOf i + 1).toNat)
          case atStart => exact ⟨L.length, _, Nat.le_refl _, rfl, by omega, 0, rfl, by omega, by unfold Hid; rw [List.drop_length]; rfl⟩
          case round =>
            obtain ⟨m, z, hm1, rfl, hz, N, rfl, hN, HN⟩ := hrel
            by_cases hz0 : 0 ≤ z
            · obtain ⟨k, rfl⟩ : ∃ k, m = k + 1 := ⟨m - 1, by omega⟩
              obtain rfl : z = (k : Int) := by omega
              clear hz
              obtain ⟨g, rfl, ck⟩ := bytI_at hO k (by omega)
              have HV := Lib.hid (valD_drop L k (by omega))
              have hx := (L[k]'(by omega)).toNat_lt
              have i1 : (0 : Int) ≤ (k : Int) ∧ (k : Int) < (L.length : Int) := ⟨by omega, by omega⟩
              have i2 : 0 < L.length := by omega
              generalize (L[k]'(by omega)).toNat = x at *
              have HN2 := Lib.hid (Nat.mod_lt (valD (L.drop k)) (show 0 < 18446744073709551616 by decide))
              generalize valD (L.drop (k + 1)) = V at *
              obtain ⟨V2, hV2⟩ : ∃ V2, V2 = valD (L.drop k) := ⟨_, rfl⟩
              rw [← hV2] at HV HN2
              have HV2 := Lib.hid hV2
              clear hV2
              go_wp2
              go_round
              case rel => exact ⟨k, (k : Int) - 1, by omega, by go_num, rfl, V2 % 18446744073709551616, by have := HV.out; have := HN.out; rw [IntKind.wrap_u64, IntKind.wrap_u64]; congr 1; omega, by have := HN2.out; omega, by unfold Hid; rw [HV2.out]⟩
              case measure => first | (simp [intOf]; done) | (simp [intOf]; omega)
            · obtain rfl : m = 0 := by omega
              obtain rfl : z = -1 := by omega
              clear hz hm1 hz0
              rw [List.drop_zero] at *
              rcases HK.out with ⟨ex, e1, e2⟩ | ⟨q, e1, e2, e3⟩
              · subst e1
                obtain ⟨c2, c2a, c2b, _⟩ := HS5.out.errC
                have HE := Lib.hid e2
                clear e2
                go_wp2
                go_ret
                exact ⟨0, .error ex, rfl, .inr ⟨ex, HE.out, rfl⟩, fun _ _ => rfl, HS5.out, HT5.out⟩
              · subst e1
                have hNV : N = valD L := HN.out.trans (Nat.mod_eq_of_lt e3)
                subst hNV
                obtain ⟨c2, _⟩ := HS5.out.okC
                have HE := Lib.hid e2
                clear e2
                generalize valD L = V at *
                by_cases hq : most < V
                · have hq' : (most : Int) < (V : Int) := by omega
                  go_wp2_with fail
                  refine (HS5.out.rfailed (q0 : Int) 3 (by decide)).mono ?_
                  rintro e' w6 ⟨⟨u6, rfl⟩, hS6, hT6⟩
                  change RdS t w6 B b bs (.error (3, (q0 : Int))) at hS6
                  obtain ⟨d2, d2a, d2b, _⟩ := hS6.errC
                  have H6 := Lib.hid (And.intro hS6 hT6)
                  clear hS6 hT6 c2
                  go_wp2
                  go_ret
                  exact ⟨0, .error (3, (q0 : Int)), rfl, .inr ⟨_, HE.out.trans (if_pos hq), rfl⟩, fun _ _ => rfl, H6.out.1, HT5.out.trans H6.out.2⟩
                · have hq' : ¬ (most : Int) < (V : Int) := by omega
                  go_wp2
                  go_ret
                  exact ⟨V, .ok q, rfl, .inl ⟨q, HE.out.trans (if_neg hq), rfl⟩, fun _ h => st_no h, HS5.out, HT5.out⟩
end Go.Proofs.Ytffelcidckbohaa
