/- The law CodeEqual. Condition: the arguments read as programs. -/
import Derived.Test.YtecpokegmfnlaaaGCodeEqual07
namespace Go.Proofs.Ytecpokegmfnlaaa
open Go.RowKit
set_option linter.unusedVariables false
theorem own_grewE {w w' : World} {B n : Nat} {v : Value} {xs : List Value} (h : w.ownsRow B 5 1 v n xs) (hb : Below w.heap.size w w') : w'.ownsRow B 5 1 v n xs := by
  obtain ⟨e1, e2⟩ := h
  refine ⟨e1, ?_⟩
  rcases e2 with e2 | ⟨g, cap, cur, a1, a2, a3, a4⟩
  · exact .inl e2
  · exact .inr ⟨g, cap, cur, a1, a2, (hb.block g (Array.getElem?_eq_some_iff.1 a3).1).trans a3, a4⟩
set_option maxRecDepth 100000 in
set_option maxHeartbeats 8000000 in
theorem cequal_law (p : PrgD) (u0 u1 : Value) (q : PrgD) (t0 t1 : Value) (w : World) (h1 : RdPrg w.heap.size w u0 u1 p) (h2 : RdPrg w.heap.size w t0 t1 q) :
    Calls Try.prog 7 #[.agg #[u0, u1], .agg #[t0, t1]] w fun e w' => e = .returned (.bool true) ∧ Below w.heap.size w w' := by
  obtain ⟨a0, c0, rfl⟩ := rd_shape h1.1
  obtain ⟨a1, c1, rfl⟩ := rd_shape h1.2
  obtain ⟨d0, e0, rfl⟩ := rd_shape h2.1
  obtain ⟨d1, e1, rfl⟩ := rd_shape h2.2
  have k1_0 : Blk ((w.alloc (.cells #[.slice a0 p.classes.length c0, .slice a1 p.funcs.length c1] 29)).alloc (.cells #[.slice d0 q.classes.length e0, .slice d1 q.funcs.length e1] 29)) w.heap.size #[.slice a0 p.classes.length c0, .slice a1 p.funcs.length c1] 29 := (Blk.new _ _ _).alloc _
  have k2_0 : Blk ((w.alloc (.cells #[.slice a0 p.classes.length c0, .slice a1 p.funcs.length c1] 29)).alloc (.cells #[.slice d0 q.classes.length e0, .slice d1 q.funcs.length e1] 29)) (w.heap.size + 1) #[.slice d0 q.classes.length e0, .slice d1 q.funcs.length e1] 29 := Blk.new' (by simp)
  have hb0 : Below w.heap.size w ((w.alloc (.cells #[.slice a0 p.classes.length c0, .slice a1 p.funcs.length c1] 29)).alloc (.cells #[.slice d0 q.classes.length e0, .slice d1 q.funcs.length e1] 29)) := ((Below.refl _ _).alloc (Nat.le_refl _) _).alloc (by simp) _
  have RP := Lib.hid (fun W (hb : Below w.heap.size w W) => h1.keep hb)
  have RQ := Lib.hid (fun W (hb : Below w.heap.size w W) => h2.keep hb)
  have B0 := Lib.hid hb0
  have K1_0 := Lib.hid k1_0
  have K2_0 := Lib.hid k2_0
  clear h1 h2 hb0 k1_0 k2_0
  go_enter Try.func7, Try.ntmps7
  go_wp2_with fail
  refine (coded_any _).mono ?_
  rintro e w1 ⟨rfl, hb1⟩
  have B1 := Lib.hid (B0.out.trans (hb1.mono B0.out.size))
  have K1_1 := Lib.hid (K1_0.out.grew hb1)
  have K2_1 := Lib.hid (K2_0.out.grew hb1)
  have HBB1 := Lib.hid hb1
  clear hb1
  have x0 := K1_1.out.val 0 rfl
  have x1 := K1_1.out.val 1 rfl
  have y0 := K2_1.out.val 0 rfl
  have y1 := K2_1.out.val 1 rfl
  go_wp2_with fail
  refine (light_any p _ _ _ w.heap.size B1.out.size (RP.out _ B1.out)).mono ?_
  rintro e w2 ⟨lp, rfl, hb2⟩
  have B2 := Lib.hid (B1.out.trans (hb2.mono B1.out.size))
  have K1_2 := Lib.hid (K1_1.out.grew hb2)
  have K2_2 := Lib.hid (K2_1.out.grew hb2)
  have HBB2 := Lib.hid hb2
  clear hb2 x0 x1 y0 y1
  have x0 := K1_2.out.val 0 rfl
  have x1 := K1_2.out.val 1 rfl
  have y0 := K2_2.out.val 0 rfl
  have y1 := K2_2.out.val 1 rfl
  cases lp with
  | false =>
    go_wp2_with fail
    refine (coded_any _).mono ?_
    rintro e w3 ⟨rfl, hb3⟩
    have B3 := Lib.hid (B2.out.trans (hb3.mono B2.out.size))
    have K1_3 := Lib.hid (K1_2.out.grew hb3)
    have K2_3 := Lib.hid (K2_2.out.grew hb3)
    have HBB3 := Lib.hid hb3
    clear hb3 x0 x1 y0 y1
    have x0 := K1_3.out.val 0 rfl
    have x1 := K1_3.out.val 1 rfl
    have y0 := K2_3.out.val 0 rfl
    have y1 := K2_3.out.val 1 rfl
    go_wp2
    go_ret
    exact ⟨rfl, B3.out⟩
  | true =>
    go_wp2_with fail
    refine (light_any q _ _ _ w.heap.size B2.out.size (RQ.out _ B2.out)).mono ?_
    rintro e w3 ⟨lq, rfl, hb3⟩
    have B3 := Lib.hid (B2.out.trans (hb3.mono B2.out.size))
    have K1_3 := Lib.hid (K1_2.out.grew hb3)
    have K2_3 := Lib.hid (K2_2.out.grew hb3)
    have HBB3 := Lib.hid hb3
    clear hb3 x0 x1 y0 y1
    have x0 := K1_3.out.val 0 rfl
    have x1 := K1_3.out.val 1 rfl
    have y0 := K2_3.out.val 0 rfl
    have y1 := K2_3.out.val 1 rfl
    cases lq with
    | false =>
      go_wp2_with fail
      refine (coded_any _).mono ?_
      rintro e w4 ⟨rfl, hb4⟩
      have B4 := Lib.hid (B3.out.trans (hb4.mono B3.out.size))
      have K1_4 := Lib.hid (K1_3.out.grew hb4)
      have K2_4 := Lib.hid (K2_3.out.grew hb4)
      have HBB4 := Lib.hid hb4
      clear hb4 x0 x1 y0 y1
      have x0 := K1_4.out.val 0 rfl
      have x1 := K1_4.out.val 1 rfl
      have y0 := K2_4.out.val 0 rfl
      have y1 := K2_4.out.val 1 rfl
      go_wp2
      go_ret
      exact ⟨rfl, B4.out⟩
    | true =>
      go_wp2_with fail
      refine (rsame_any _ w.heap.size _ _ _ _ p q B3.out.size (RP.out _ B3.out) (RQ.out _ B3.out)).mono ?_
      rintro e w4 ⟨rfl, hb4⟩
      have B4 := Lib.hid (B3.out.trans (hb4.mono B3.out.size))
      have K1_4 := Lib.hid (K1_3.out.grew hb4)
      have K2_4 := Lib.hid (K2_3.out.grew hb4)
      have HBB4 := Lib.hid hb4
      clear hb4 x0 x1 y0 y1
      have x0 := K1_4.out.val 0 rfl
      have x1 := K1_4.out.val 1 rfl
      have y0 := K2_4.out.val 0 rfl
      have y1 := K2_4.out.val 1 rfl
      have ES := Lib.hid (fun x y => @enc_same p q x y)
      have PP : decide (prgP p = prgP p) = true := by simp
      have QE := Lib.hid (fun W (hb : Below w.heap.size w W) => equal_any W w.heap.size _ _ _ _ p q hb.size (RP.out _ hb) (RQ.out _ hb))
      have QP := Lib.hid (fun W (hb : Below w.heap.size w W) => equal_any W w.heap.size _ _ _ _ p p hb.size (RP.out _ hb) (RP.out _ hb))
      have EP := Lib.hid (fun W (hb : Below w.heap.size w W) => encode_any p _ _ W w.heap.size hb.size (RP.out _ hb))
      have EQ := Lib.hid (fun W (hb : Below w.heap.size w W) => encode_any q _ _ W w.heap.size hb.size (RQ.out _ hb))
      generalize hS : decide (prgP p = prgP q) = sb at *
      generalize hT : decide (prgP p = prgP p) = tb at *
      subst PP
      clear hS hT RP RQ
      generalize encE p = rp at *
      generalize encE q = rq at *
      go_wp2_with fail
      refine (EP.out _ B4.out).mono ?_
      rintro e w5 ⟨hr5, hb5⟩
      have B5 := Lib.hid (B4.out.trans (hb5.mono B4.out.size))
      have K1_5 := Lib.hid (K1_4.out.grew hb5)
      have K2_5 := Lib.hid (K2_4.out.grew hb5)
      have HBB5 := Lib.hid hb5
      clear hb5 x0 x1 y0 y1
      have x0 := K1_5.out.val 0 rfl
      have x1 := K1_5.out.val 1 rfl
      have y0 := K2_5.out.val 0 rfl
      have y1 := K2_5.out.val 1 rfl
      cases rp with
      | error x =>
        obtain ⟨hx, rfl⟩ := hr5
        have hx' : (x != 0) = true := by simpa using hx
        clear hx
        go_wp2_with fail
        refine (EQ.out _ B5.out).mono ?_
        rintro e w6 ⟨hr6, hb6⟩
        have B6 := Lib.hid (B5.out.trans (hb6.mono B5.out.size))
        have K1_6 := Lib.hid (K1_5.out.grew hb6)
        have K2_6 := Lib.hid (K2_5.out.grew hb6)
        have HBB6 := Lib.hid hb6
        clear hb6 x0 x1 y0 y1
        have x0 := K1_6.out.val 0 rfl
        have x1 := K1_6.out.val 1 rfl
        have y0 := K2_6.out.val 0 rfl
        have y1 := K2_6.out.val 1 rfl
        cases rq with
        | error y =>
          obtain ⟨hy, rfl⟩ := hr6
          clear hy
          cases sb with
          | false =>
            go_wp2_with fail
            refine (QE.out _ B6.out).mono ?_
            rintro e w7 ⟨rfl, hb7⟩
            have B7 := Lib.hid (B6.out.trans (hb7.mono B6.out.size))
            have K1_7 := Lib.hid (K1_6.out.grew hb7)
            have K2_7 := Lib.hid (K2_6.out.grew hb7)
            have HBB7 := Lib.hid hb7
            clear hb7 x0 x1 y0 y1
            have x0 := K1_7.out.val 0 rfl
            have x1 := K1_7.out.val 1 rfl
            have y0 := K2_7.out.val 0 rfl
            have y1 := K2_7.out.val 1 rfl
            go_wp2_with fail
            refine (QP.out _ B7.out).mono ?_
            rintro e w8 ⟨rfl, hb8⟩
            have B8 := Lib.hid (B7.out.trans (hb8.mono B7.out.size))
            have K1_8 := Lib.hid (K1_7.out.grew hb8)
            have K2_8 := Lib.hid (K2_7.out.grew hb8)
            have HBB8 := Lib.hid hb8
            clear hb8 x0 x1 y0 y1
            have x0 := K1_8.out.val 0 rfl
            have x1 := K1_8.out.val 1 rfl
            have y0 := K2_8.out.val 0 rfl
            have y1 := K2_8.out.val 1 rfl
            go_wp2
            go_ret
            exact ⟨rfl, B8.out⟩
          | true =>
            go_wp2_with fail
            refine (QE.out _ B6.out).mono ?_
            rintro e w7 ⟨rfl, hb7⟩
            have B7 := Lib.hid (B6.out.trans (hb7.mono B6.out.size))
            have K1_7 := Lib.hid (K1_6.out.grew hb7)
            have K2_7 := Lib.hid (K2_6.out.grew hb7)
            have HBB7 := Lib.hid hb7
            clear hb7 x0 x1 y0 y1
            have x0 := K1_7.out.val 0 rfl
            have x1 := K1_7.out.val 1 rfl
            have y0 := K2_7.out.val 0 rfl
            have y1 := K2_7.out.val 1 rfl
            go_wp2_with fail
            refine (QP.out _ B7.out).mono ?_
            rintro e w8 ⟨rfl, hb8⟩
            have B8 := Lib.hid (B7.out.trans (hb8.mono B7.out.size))
            have K1_8 := Lib.hid (K1_7.out.grew hb8)
            have K2_8 := Lib.hid (K2_7.out.grew hb8)
            have HBB8 := Lib.hid hb8
            clear hb8 x0 x1 y0 y1
            have x0 := K1_8.out.val 0 rfl
            have x1 := K1_8.out.val 1 rfl
            have y0 := K2_8.out.val 0 rfl
            have y1 := K2_8.out.val 1 rfl
            go_wp2
            go_ret
            exact ⟨rfl, B8.out⟩
        | ok y =>
          obtain ⟨vq, rfl, ho6⟩ := hr6
          clear ho6
          cases sb with
          | false =>
            go_wp2_with fail
            refine (QE.out _ B6.out).mono ?_
            rintro e w7 ⟨rfl, hb7⟩
            have B7 := Lib.hid (B6.out.trans (hb7.mono B6.out.size))
            have K1_7 := Lib.hid (K1_6.out.grew hb7)
            have K2_7 := Lib.hid (K2_6.out.grew hb7)
            have HBB7 := Lib.hid hb7
            clear hb7 x0 x1 y0 y1
            have x0 := K1_7.out.val 0 rfl
            have x1 := K1_7.out.val 1 rfl
            have y0 := K2_7.out.val 0 rfl
            have y1 := K2_7.out.val 1 rfl
            go_wp2_with fail
            refine (QP.out _ B7.out).mono ?_
            rintro e w8 ⟨rfl, hb8⟩
            have B8 := Lib.hid (B7.out.trans (hb8.mono B7.out.size))
            have K1_8 := Lib.hid (K1_7.out.grew hb8)
            have K2_8 := Lib.hid (K2_7.out.grew hb8)
            have HBB8 := Lib.hid hb8
            clear hb8 x0 x1 y0 y1
            have x0 := K1_8.out.val 0 rfl
            have x1 := K1_8.out.val 1 rfl
            have y0 := K2_8.out.val 0 rfl
            have y1 := K2_8.out.val 1 rfl
            go_wp2
            go_ret
            exact ⟨rfl, B8.out⟩
          | true =>
            go_wp2_with fail
            refine (QE.out _ B6.out).mono ?_
            rintro e w7 ⟨rfl, hb7⟩
            have B7 := Lib.hid (B6.out.trans (hb7.mono B6.out.size))
            have K1_7 := Lib.hid (K1_6.out.grew hb7)
            have K2_7 := Lib.hid (K2_6.out.grew hb7)
            have HBB7 := Lib.hid hb7
            clear hb7 x0 x1 y0 y1
            have x0 := K1_7.out.val 0 rfl
            have x1 := K1_7.out.val 1 rfl
            have y0 := K2_7.out.val 0 rfl
            have y1 := K2_7.out.val 1 rfl
            go_wp2_with fail
            refine (QP.out _ B7.out).mono ?_
            rintro e w8 ⟨rfl, hb8⟩
            have B8 := Lib.hid (B7.out.trans (hb8.mono B7.out.size))
            have K1_8 := Lib.hid (K1_7.out.grew hb8)
            have K2_8 := Lib.hid (K2_7.out.grew hb8)
            have HBB8 := Lib.hid hb8
            clear hb8 x0 x1 y0 y1
            have x0 := K1_8.out.val 0 rfl
            have x1 := K1_8.out.val 1 rfl
            have y0 := K2_8.out.val 0 rfl
            have y1 := K2_8.out.val 1 rfl
            go_wp2
            go_ret
            exact ⟨rfl, B8.out⟩
      | ok l =>
        obtain ⟨vp, rfl, ho5⟩ := hr5
        have HO := Lib.hid ho5
        clear ho5
        go_wp2_with fail
        refine (EQ.out _ B5.out).mono ?_
        rintro e w6 ⟨hr6, hb6⟩
        have B6 := Lib.hid (B5.out.trans (hb6.mono B5.out.size))
        have K1_6 := Lib.hid (K1_5.out.grew hb6)
        have K2_6 := Lib.hid (K2_5.out.grew hb6)
        have HBB6 := Lib.hid hb6
        clear hb6 x0 x1 y0 y1
        have x0 := K1_6.out.val 0 rfl
        have x1 := K1_6.out.val 1 rfl
        have y0 := K2_6.out.val 0 rfl
        have y1 := K2_6.out.val 1 rfl
        cases rq with
        | error y =>
          obtain ⟨hy, rfl⟩ := hr6
          have hy' : (y != 0) = true := by simpa using hy
          clear hy
          cases sb with
          | false =>
            go_wp2_with fail
            refine (QE.out _ B6.out).mono ?_
            rintro e w7 ⟨rfl, hb7⟩
            have B7 := Lib.hid (B6.out.trans (hb7.mono B6.out.size))
            have K1_7 := Lib.hid (K1_6.out.grew hb7)
            have K2_7 := Lib.hid (K2_6.out.grew hb7)
            have HBB7 := Lib.hid hb7
            clear hb7 x0 x1 y0 y1
            have x0 := K1_7.out.val 0 rfl
            have x1 := K1_7.out.val 1 rfl
            have y0 := K2_7.out.val 0 rfl
            have y1 := K2_7.out.val 1 rfl
            go_wp2_with fail
            refine (QP.out _ B7.out).mono ?_
            rintro e w8 ⟨rfl, hb8⟩
            have B8 := Lib.hid (B7.out.trans (hb8.mono B7.out.size))
            have K1_8 := Lib.hid (K1_7.out.grew hb8)
            have K2_8 := Lib.hid (K2_7.out.grew hb8)
            have HBB8 := Lib.hid hb8
            clear hb8 x0 x1 y0 y1
            have x0 := K1_8.out.val 0 rfl
            have x1 := K1_8.out.val 1 rfl
            have y0 := K2_8.out.val 0 rfl
            have y1 := K2_8.out.val 1 rfl
            go_wp2
            go_ret
            exact ⟨rfl, B8.out⟩
          | true =>
            go_wp2_with fail
            refine (QE.out _ B6.out).mono ?_
            rintro e w7 ⟨rfl, hb7⟩
            have B7 := Lib.hid (B6.out.trans (hb7.mono B6.out.size))
            have K1_7 := Lib.hid (K1_6.out.grew hb7)
            have K2_7 := Lib.hid (K2_6.out.grew hb7)
            have HBB7 := Lib.hid hb7
            clear hb7 x0 x1 y0 y1
            have x0 := K1_7.out.val 0 rfl
            have x1 := K1_7.out.val 1 rfl
            have y0 := K2_7.out.val 0 rfl
            have y1 := K2_7.out.val 1 rfl
            go_wp2_with fail
            refine (QP.out _ B7.out).mono ?_
            rintro e w8 ⟨rfl, hb8⟩
            have B8 := Lib.hid (B7.out.trans (hb8.mono B7.out.size))
            have K1_8 := Lib.hid (K1_7.out.grew hb8)
            have K2_8 := Lib.hid (K2_7.out.grew hb8)
            have HBB8 := Lib.hid hb8
            clear hb8 x0 x1 y0 y1
            have x0 := K1_8.out.val 0 rfl
            have x1 := K1_8.out.val 1 rfl
            have y0 := K2_8.out.val 0 rfl
            have y1 := K2_8.out.val 1 rfl
            go_wp2
            go_ret
            exact ⟨rfl, B8.out⟩
        | ok m =>
          obtain ⟨vq, rfl, ho6⟩ := hr6
          have HO6 := Lib.hid ho6
          clear ho6
          have HS := Lib.hid (ES.out l m rfl rfl)
          cases sb with
          | false =>
            go_wp2_with fail
            refine (QE.out _ B6.out).mono ?_
            rintro e w7 ⟨rfl, hb7⟩
            have B7 := Lib.hid (B6.out.trans (hb7.mono B6.out.size))
            have K1_7 := Lib.hid (K1_6.out.grew hb7)
            have K2_7 := Lib.hid (K2_6.out.grew hb7)
            have HBB7 := Lib.hid hb7
            clear hb7 x0 x1 y0 y1
            have x0 := K1_7.out.val 0 rfl
            have x1 := K1_7.out.val 1 rfl
            have y0 := K2_7.out.val 0 rfl
            have y1 := K2_7.out.val 1 rfl
            have e1 := conv_row (own_grewE (own_grewE HO.out HBB6.out) HBB7.out)
            have e2 := conv_row (own_grewE HO6.out HBB7.out)
            have bs := bytes_two w7 _ _ _ _ e1 e2
            have hv : ((⟨l.toArray⟩ : ByteArray).toList == (⟨m.toArray⟩ : ByteArray).toList) = false := by rw [show (⟨l.toArray⟩ : ByteArray).toList = l from ByteArray.toList_mk l, show (⟨m.toArray⟩ : ByteArray).toList = m from ByteArray.toList_mk m]; exact HS.out
            rw [hv] at bs
            have BS := Lib.hid bs
            clear e1 e2 bs hv
            go_wp2_with fail
            refine BS.out.mono ?_
            rintro e w8 ⟨rfl, hz8⟩
            have hb8 : Below w7.heap.size w7 w8 := hz8 ▸ Below.refl _ _
            clear hz8
            have B8 := Lib.hid (B7.out.trans (hb8.mono B7.out.size))
            have K1_8 := Lib.hid (K1_7.out.grew hb8)
            have K2_8 := Lib.hid (K2_7.out.grew hb8)
            have HBB8 := Lib.hid hb8
            clear hb8 x0 x1 y0 y1
            have x0 := K1_8.out.val 0 rfl
            have x1 := K1_8.out.val 1 rfl
            have y0 := K2_8.out.val 0 rfl
            have y1 := K2_8.out.val 1 rfl
            go_wp2_with fail
            refine (QP.out _ B8.out).mono ?_
            rintro e w9 ⟨rfl, hb9⟩
            have B9 := Lib.hid (B8.out.trans (hb9.mono B8.out.size))
            have K1_9 := Lib.hid (K1_8.out.grew hb9)
            have K2_9 := Lib.hid (K2_8.out.grew hb9)
            have HBB9 := Lib.hid hb9
            clear hb9 x0 x1 y0 y1
            have x0 := K1_9.out.val 0 rfl
            have x1 := K1_9.out.val 1 rfl
            have y0 := K2_9.out.val 0 rfl
            have y1 := K2_9.out.val 1 rfl
            go_wp2
            go_ret
            exact ⟨rfl, B9.out⟩
          | true =>
            go_wp2_with fail
            refine (QE.out _ B6.out).mono ?_
            rintro e w7 ⟨rfl, hb7⟩
            have B7 := Lib.hid (B6.out.trans (hb7.mono B6.out.size))
            have K1_7 := Lib.hid (K1_6.out.grew hb7)
            have K2_7 := Lib.hid (K2_6.out.grew hb7)
            have HBB7 := Lib.hid hb7
            clear hb7 x0 x1 y0 y1
            have x0 := K1_7.out.val 0 rfl
            have x1 := K1_7.out.val 1 rfl
            have y0 := K2_7.out.val 0 rfl
            have y1 := K2_7.out.val 1 rfl
            have e1 := conv_row (own_grewE (own_grewE HO.out HBB6.out) HBB7.out)
            have e2 := conv_row (own_grewE HO6.out HBB7.out)
            have bs := bytes_two w7 _ _ _ _ e1 e2
            have hv : ((⟨l.toArray⟩ : ByteArray).toList == (⟨m.toArray⟩ : ByteArray).toList) = true := by rw [show (⟨l.toArray⟩ : ByteArray).toList = l from ByteArray.toList_mk l, show (⟨m.toArray⟩ : ByteArray).toList = m from ByteArray.toList_mk m]; exact HS.out
            rw [hv] at bs
            have BS := Lib.hid bs
            clear e1 e2 bs hv
            go_wp2_with fail
            refine BS.out.mono ?_
            rintro e w8 ⟨rfl, hz8⟩
            have hb8 : Below w7.heap.size w7 w8 := hz8 ▸ Below.refl _ _
            clear hz8
            have B8 := Lib.hid (B7.out.trans (hb8.mono B7.out.size))
            have K1_8 := Lib.hid (K1_7.out.grew hb8)
            have K2_8 := Lib.hid (K2_7.out.grew hb8)
            have HBB8 := Lib.hid hb8
            clear hb8 x0 x1 y0 y1
            have x0 := K1_8.out.val 0 rfl
            have x1 := K1_8.out.val 1 rfl
            have y0 := K2_8.out.val 0 rfl
            have y1 := K2_8.out.val 1 rfl
            go_wp2_with fail
            refine (QP.out _ B8.out).mono ?_
            rintro e w9 ⟨rfl, hb9⟩
            have B9 := Lib.hid (B8.out.trans (hb9.mono B8.out.size))
            have K1_9 := Lib.hid (K1_8.out.grew hb9)
            have K2_9 := Lib.hid (K2_8.out.grew hb9)
            have HBB9 := Lib.hid hb9
            clear hb9 x0 x1 y0 y1
            have x0 := K1_9.out.val 0 rfl
            have x1 := K1_9.out.val 1 rfl
            have y0 := K2_9.out.val 0 rfl
            have y1 := K2_9.out.val 1 rfl
            go_wp2
            go_ret
            exact ⟨rfl, B9.out⟩
end Go.Proofs.Ytecpokegmfnlaaa
