/- MaskJoins: the walk of the whole. Conditions: the arguments are lists of words, the table of math/bits lies as the start lays it. -/
import Derived.Test.YtalhlbedgkhijaaDoorMjoin
import Derived.Test.YtalhlbedgkhijaaDoorMplac
namespace Go.Proofs.YtalhlbedgkhijaaDoor
open Go.RowKit
set_option linter.unusedVariables false

set_option maxRecDepth 100000 in
set_option maxHeartbeats 4000000 in
theorem joins_walk (na ca nb cb : Nat) (aa ab : Option Addr) (a b : List Int) (w : World) (ha : LstAll w (.slice aa na ca) a) (hb : LstAll w (.slice ab nb cb) b) (ea : a.length = na) (eb : b.length = nb) (h1 : na ≤ 8) (h2 : nb ≤ 8) (hT : Tab w) :
    Calls Tryd.prog 12 #[.slice aa na ca, .slice ab nb cb] w fun e w' => e = .returned (.bool true) ∧ Below w.heap.size w w' := by
  have h1' : ¬ (8 : Int) < (na : Int) := by omega
  have h2' : ¬ (8 : Int) < (nb : Int) := by omega
  have la4 : a.length ≤ 4096 := by omega
  have lb4 : b.length ≤ 4096 := by omega
  have J0 := Lib.hid (fun W (h : Below w.heap.size w W) => joined_union aa na ca ab nb cb a b W (ha.grew h).1 (hb.grew h).1 ea eb ha.2.1 hb.2.1 h1 h2)
  have J1 := Lib.hid (fun W (h : Below w.heap.size w W) => joined_meet aa na ca ab nb cb a b W (ha.grew h).1 (hb.grew h).1 ea eb ha.2.1 hb.2.1 h1 h2)
  have J2 := Lib.hid (fun W (h : Below w.heap.size w W) => joined_minus aa na ca ab nb cb a b W (ha.grew h).1 (hb.grew h).1 ea eb ha.2.1 hb.2.1 h1 h2)
  have J3 := Lib.hid (fun W (h : Below w.heap.size w W) => joined_minus ab nb cb aa na ca b a W (hb.grew h).1 (ha.grew h).1 eb ea hb.2.1 ha.2.1 h2 h1)
  have U0 := Lib.hid (fun W (h : Below w.heap.size w W) => union_row _ _ a b W (ha.grew h).1 (hb.grew h).1 la4 lb4)
  have U1 := Lib.hid (fun W (h : Below w.heap.size w W) => meet_row _ _ a b W (ha.grew h).1 (hb.grew h).1 la4 lb4)
  have U2 := Lib.hid (fun W (h : Below w.heap.size w W) => minus_row _ _ a b W (ha.grew h).1 (hb.grew h).1 la4 lb4)
  have WI := Lib.hid (fun W (h : Below w.heap.size w W) => within_any _ _ a b W (ha.grew h).1 (hb.grew h).1 la4 lb4 ha.2.1 hb.2.1)
  have SA := Lib.hid (fun W (h : Below w.heap.size w W) => same_any _ _ a b W (ha.grew h).1 (hb.grew h).1 la4 lb4 ha.2.1 hb.2.1)
  have R1 := Lib.hid (fun (v : Value) W (h : Lst .u64 W v (minusV a b)) => rplaces_any v (minusV a b) W h (minusV_U ha.2.1 hb.2.1) (by rw [minusV_len]; omega))
  have R2 := Lib.hid (fun (v : Value) W (h : Lst .u64 W v (minusV b a)) => rplaces_any v (minusV b a) W h (minusV_U hb.2.1 ha.2.1) (by rw [minusV_len]; omega))
  have MY := Lib.hid (fun W (h : Below w.heap.size w W) => masked_yes W (hT.grew h))
  have n1 := count_places (minusV a b)
  have n2 := count_places (minusV b a)
  have N := Lib.hid (And.intro n1 n2)
  clear n1 n2 ha hb ea eb h1 h2 la4 lb4 hT
  generalize cntL (minusV a b) = k1 at *
  generalize cntL (minusV b a) = k2 at *
  generalize plL (minusV a b) = P1 at *
  generalize plL (minusV b a) = P2 at *
  generalize minusV a b = L2 at *
  generalize minusV b a = L3 at *
  generalize unionV a b = L0 at *
  generalize meetV a b = L1 at *
  go_enter Tryd.func12, Tryd.ntmps12
  go_wp2_with fail
  refine (J2.out w (Below.refl _ _)).mono ?_
  rintro e w1 ⟨v1, rfl, l1, -, b1⟩
  have R1' := Lib.hid (R1.out v1 w1 l1)
  go_wp2_with fail
  refine R1'.out.mono ?_
  rintro e w2 ⟨u2, rfl, o2, c2⟩
  obtain ⟨p2, q2, rfl⟩ := own_slice o2
  have b2 := b1.trans (c2.mono b1.size)
  clear l1 o2 c2 R1 R1'
  go_wp2_with fail
  refine (J3.out w2 b2).mono ?_
  rintro e w3 ⟨v3, rfl, l3, -, c3⟩
  have b3 := b2.trans (c3.mono b2.size)
  have R2' := Lib.hid (R2.out v3 w3 l3)
  go_wp2_with fail
  refine R2'.out.mono ?_
  rintro e w4 ⟨u4, rfl, o4, c4⟩
  obtain ⟨p4, q4, rfl⟩ := own_slice o4
  have b4 := b3.trans (c4.mono b3.size)
  clear l3 o4 c3 c4 R2 R2' J3
  go_wp2_with fail
  refine (MY.out w4 b4).mono ?_
  rintro e w5 ⟨rfl, c5⟩
  have b5 := b4.trans (c5.mono b4.size)
  clear c5 MY b1 b2 b3 b4
  go_wp2_with fail
  refine (U0.out w5 b5).mono ?_
  rintro e w6 ⟨v6, rfl, l6, -, c6⟩
  have b6 := b5.trans (c6.mono b5.size)
  go_wp2_with fail
  refine (J0.out w6 b6).mono ?_
  rintro e w7 ⟨v7, rfl, l7, -, c7⟩
  have b7 := b6.trans (c7.mono b6.size)
  have l6' := l6.below c7
  go_wp2_with fail
  refine (words_any v6 v7 L0 w7 l6' l7).mono ?_
  rintro e w8 ⟨rfl, q8⟩
  have b8 := b7.trans q8.below
  clear l6 l6' l7 c6 c7 q8 U0 J0 b5 b6 b7
  go_wp2_with fail
  refine (U1.out w8 b8).mono ?_
  rintro e w9 ⟨v9, rfl, l9, -, c9⟩
  have b9 := b8.trans (c9.mono b8.size)
  go_wp2_with fail
  refine (J1.out w9 b9).mono ?_
  rintro e wa ⟨va, rfl, la, -, ca'⟩
  have ba := b9.trans (ca'.mono b9.size)
  have l9' := l9.below ca'
  go_wp2_with fail
  refine (words_any v9 va L1 wa l9' la).mono ?_
  rintro e wb ⟨rfl, qb⟩
  have bb := ba.trans qb.below
  clear l9 l9' la c9 ca' qb U1 J1 b8 b9 ba
  go_wp2_with fail
  refine (U2.out wb bb).mono ?_
  rintro e wc ⟨vc, rfl, lc, -, cc⟩
  have bc := bb.trans (cc.mono bb.size)
  go_wp2_with fail
  refine (J2.out wc bc).mono ?_
  rintro e wd ⟨vd, rfl, ld, -, cd⟩
  have bd := bc.trans (cd.mono bc.size)
  have lc' := lc.below cd
  go_wp2_with fail
  refine (words_any vc vd L2 wd lc' ld).mono ?_
  rintro e we ⟨rfl, qe⟩
  have be := bd.trans qe.below
  clear lc lc' ld cc cd qe U2 J2 bb bc bd
  go_wp2_with fail
  refine (WI.out we be).mono ?_
  rintro e wf ⟨rfl, cf⟩
  have bf := be.trans (cf.mono be.size)
  clear cf be WI
  have e1 := N.out.1
  have e2 := N.out.2
  generalize P1.length = m1 at *
  generalize P2.length = m2 at *
  by_cases z1 : k1 = 0
  · have y1 : (k1 == 0) = true := by simp [z1]
    have y1' : ((m1 : Int) == 0) = true := by rw [e1]; exact y1
    rw [y1] at SA
    rw [y1]
    by_cases z2 : k2 = 0
    · have y2 : (k2 == 0) = true := by simp [z2]
      have y2' : ((m2 : Int) == 0) = true := by rw [e2]; exact y2
      rw [y2] at SA
      clear z1 z2 y1 y2 e1 e2
      go_wp2_with fail
      refine (SA.out wf bf).mono ?_
      rintro e wg ⟨rfl, cg⟩
      go_wp2
      go_ret
      exact ⟨by simp, bf.trans (cg.mono bf.size)⟩
    · have y2 : (k2 == 0) = false := by simp [z2]
      have y2' : ((m2 : Int) == 0) = false := by rw [e2]; exact y2
      rw [y2] at SA
      clear z1 z2 y1 y2 e1 e2
      go_wp2_with fail
      refine (SA.out wf bf).mono ?_
      rintro e wg ⟨rfl, cg⟩
      go_wp2
      go_ret
      exact ⟨by simp, bf.trans (cg.mono bf.size)⟩
  · have y1 : (k1 == 0) = false := by simp [z1]
    have y1' : ((m1 : Int) == 0) = false := by rw [e1]; exact y1
    rw [y1] at SA
    rw [y1]
    clear z1 y1 e1 e2
    go_wp2_with fail
    refine (SA.out wf bf).mono ?_
    rintro e wg ⟨rfl, cg⟩
    go_wp2
    go_ret
    exact ⟨by simp, bf.trans (cg.mono bf.size)⟩
set_option maxRecDepth 100000 in
set_option maxHeartbeats 1000000 in
theorem joins_law (a0 : Option Addr) (n0 c0 : Nat) (z0 : List Int) (a1 : Option Addr) (n1 c1 : Nat) (z1 : List Int) (w : World) (h0 : IsRow .u64 w a0 n0 c0 z0) (h1 : IsRow .u64 w a1 n1 c1 z1) (hT : Tab w) :
    Calls Tryd.prog 12 #[.slice a0 n0 c0, .slice a1 n1 c1] w fun e w' => e = .returned (.bool true) ∧ Below w.heap.size w w' := by
  by_cases k0 : n0 ≤ 8
  · by_cases k1 : n1 ≤ 8
    · exact joins_walk n0 c0 n1 c1 a0 a1 _ _ w (row_all h0 k0).1 (row_all h1 k1).1 (row_all h0 k0).2 (row_all h1 k1).2 k0 k1 hT
    · have k0' : ¬ (8 : Int) < (n0 : Int) := by omega
      have k1' : (8 : Int) < (n1 : Int) := by omega
      have MY := Lib.hid (masked_yes w hT)
      clear h0 h1 hT k0 k1
      go_enter Tryd.func12, Tryd.ntmps12
      go_wp2_with fail
      refine MY.out.mono ?_
      rintro e w0 ⟨rfl, b0⟩
      go_wp2
      go_ret
      exact ⟨rfl, b0⟩
  · have k0' : (8 : Int) < (n0 : Int) := by omega
    have MY := Lib.hid (masked_yes w hT)
    clear h0 h1 hT k0
    go_enter Tryd.func12, Tryd.ntmps12
    go_wp2_with fail
    refine MY.out.mono ?_
    rintro e w0 ⟨rfl, b0⟩
    go_wp2
    go_ret
    exact ⟨rfl, b0⟩
end Go.Proofs.YtalhlbedgkhijaaDoor
