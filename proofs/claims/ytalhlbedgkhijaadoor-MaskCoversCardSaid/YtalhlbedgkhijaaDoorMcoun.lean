/- MaskCounts: the walk of the whole. Conditions: the arguments are lists of words, the table of math/bits lies as the start lays it. -/
import Derived.Test.YtalhlbedgkhijaaDoorMnum
import Derived.Test.YtalhlbedgkhijaaDoorMasked
namespace Go.Proofs.YtalhlbedgkhijaaDoor
open Go.RowKit
set_option linter.unusedVariables false

/-- a list that lies there, whatever is done beside it -/
def LstAll (w : World) (v : Value) (l : List Int) : Prop := Lst .u64 w v l ∧ (∀ z ∈ l, U64 z) ∧ l.length ≤ 1024
theorem LstAll.grew {w w' : World} {v : Value} {l : List Int} (h : LstAll w v l) (hb : Below w.heap.size w w') : LstAll w' v l := ⟨h.1.below hb, h.2⟩
theorem row_all {w : World} {a : Option Addr} {len cap : Nat} {zs : List Int} (h : IsRow .u64 w a len cap zs) (hm : len ≤ 8) : LstAll w (.slice a len cap) (zs.take len) ∧ (zs.take len).length = len := by
  obtain ⟨h1, h2, h3, h4⟩ := h.lst
  have e : (zs.take len).length = len := h4
  exact ⟨⟨h1, fun z hz => wf_U64 (h2 z hz), by rw [e]; omega⟩, e⟩
set_option maxRecDepth 100000 in
set_option maxHeartbeats 4000000 in
theorem mcounts_walk (na ca nb cb : Nat) (aa ab : Option Addr) (a b : List Int) (w : World) (ha : LstAll w (.slice aa na ca) a) (hb : LstAll w (.slice ab nb cb) b) (h1 : na ≤ 8) (h2 : nb ≤ 8) (hT : Tab w) :
    Calls Tryd.prog 4 #[.slice aa na ca, .slice ab nb cb] w fun e w' => e = .returned (.bool true) ∧ Below w.heap.size w w' := by
  have h1' : ¬ (8 : Int) < (na : Int) := by omega
  have h2' : ¬ (8 : Int) < (nb : Int) := by omega
  obtain ⟨n1, n2, n3, n4, n5, n6⟩ := counts_num ha.2.1 hb.2.1
  have N := Lib.hid (And.intro n1 (And.intro n2 (And.intro n3 (And.intro n4 (And.intro n5 n6)))))
  have LA := Lib.hid (fun W (h : Below w.heap.size w W) => ha.grew h)
  have LB := Lib.hid (fun W (h : Below w.heap.size w W) => hb.grew h)
  have bU : (unionV a b).length ≤ 2048 ∧ (meetV a b).length ≤ 2048 ∧ (minusV a b).length ≤ 2048 ∧ (minusV b a).length ≤ 2048 := by
    rw [unionV_len, meetV_len, minusV_len, minusV_len]
    have := ha.2.2; have := hb.2.2
    omega
  have BU := Lib.hid bU
  have UA := Lib.hid (And.intro ha.2 hb.2)
  clear n1 n2 n3 n4 n5 n6 ha hb bU h1 h2
  go_enter Tryd.func4, Tryd.ntmps4
  go_wp2_with fail
  refine (masked_yes w hT).mono ?_
  rintro e w0 ⟨rfl, b0⟩
  -- Count(Union(a, b))
  go_wp2_with fail
  refine (union_row _ _ a b _ (LA.out _ b0).1 (LB.out _ b0).1 (by have := UA.out.1.2; omega) (by have := UA.out.2.2; omega)).mono ?_
  rintro e w1 ⟨v1, rfl, l1, -, c1⟩
  have b1 := b0.trans (c1.mono b0.size)
  go_wp2_with fail
  refine (count_lst v1 _ _ l1 (unionV_U UA.out.1.1 UA.out.2.1) (by have := BU.out.1; omega)).mono ?_
  rintro e w2 ⟨rfl, q2⟩
  have b2 := b1.trans q2.below
  clear l1 c1
  go_wp2_with fail
  refine (count_lst _ a _ (LA.out _ b2).1 UA.out.1.1 (by have := UA.out.1.2; omega)).mono ?_
  rintro e w3 ⟨rfl, q3⟩
  have b3 := b2.trans q3.below
  go_wp2_with fail
  refine (minus_row _ _ b a _ (LB.out _ b3).1 (LA.out _ b3).1 (by have := UA.out.2.2; omega) (by have := UA.out.1.2; omega)).mono ?_
  rintro e w4 ⟨v4, rfl, l4, -, c4⟩
  have b4 := b3.trans (c4.mono b3.size)
  go_wp2_with fail
  refine (count_lst v4 _ _ l4 (minusV_U UA.out.2.1 UA.out.1.1) (by have := BU.out.2.2.2; omega)).mono ?_
  rintro e w5 ⟨rfl, q5⟩
  have b5 := b4.trans q5.below
  clear l4 c4 b0 b1 b2 b3 b4 q2 q3 q5
  have t1 : (cntL (unionV a b) == cntL a + cntL (minusV b a)) = true := by rw [N.out.1]; simp
  have t2 : IntKind.i64.wrap (cntL a + cntL (minusV b a)) = cntL a + cntL (minusV b a) := by
    have q1 := cntL_bd a
    have q2 := cntL_bd (minusV b a)
    have q3 := UA.out.1.2
    have q4 := BU.out.2.2.2
    rw [IntKind.wrap_i64]; omega
  go_wp2_with fail
  refine (meet_row _ _ a b _ (LA.out _ b5).1 (LB.out _ b5).1 (by have := UA.out.1.2; omega) (by have := UA.out.2.2; omega)).mono ?_
  rintro e w6 ⟨v6, rfl, l6, -, c6⟩
  have b6 := b5.trans (c6.mono b5.size)
  go_wp2_with fail
  refine (minus_row _ _ a b _ (LA.out _ b6).1 (LB.out _ b6).1 (by have := UA.out.1.2; omega) (by have := UA.out.2.2; omega)).mono ?_
  rintro e w7 ⟨v7, rfl, l7, -, c7⟩
  have b7 := b6.trans (c7.mono b6.size)
  have l6' := l6.below c7
  have hmU := meetV_U UA.out.1.1 UA.out.2.1
  have hnU := minusV_U UA.out.1.1 UA.out.2.1
  have HU := Lib.hid (And.intro hmU hnU)
  clear l6 c6 c7 hmU hnU
  go_wp2_with fail
  refine (union_row v6 v7 _ _ _ l6' l7 (by have := BU.out.2.1; omega) (by have := BU.out.2.2.1; omega)).mono ?_
  rintro e w8 ⟨v8, rfl, l8, -, c8⟩
  have b8 := b7.trans (c8.mono b7.size)
  clear l6' l7 c8
  go_wp2_with fail
  refine (same_any v8 _ _ a _ l8 (LA.out _ b8).1 (by rw [unionV_len]; have := BU.out.2.1; have := BU.out.2.2.1; omega) (by have := UA.out.1.2; omega) (unionV_U HU.out.1 HU.out.2) UA.out.1.1).mono ?_
  rintro e w9 ⟨rfl, c9⟩
  have b9 := b8.trans (c9.mono b8.size)
  rw [N.out.2.1, N.out.2.2.1]
  clear l8 c9 b5 b6 b7 b8
  -- Within(Meet(a, b), b)
  go_wp2_with fail
  refine (meet_row _ _ a b _ (LA.out _ b9).1 (LB.out _ b9).1 (by have := UA.out.1.2; omega) (by have := UA.out.2.2; omega)).mono ?_
  rintro e wa ⟨va, rfl, la, -, ca⟩
  have ba := b9.trans (ca.mono b9.size)
  go_wp2_with fail
  refine (within_any va _ _ b _ la (LB.out _ ba).1 (by have := BU.out.2.1; omega) (by have := UA.out.2.2; omega) HU.out.1 UA.out.2.1).mono ?_
  rintro e wb ⟨rfl, cb⟩
  have bb := ba.trans (cb.mono ba.size)
  rw [N.out.2.2.2.1]
  clear la cb b9 ba
  -- Within(a, Union(a, b))
  go_wp2_with fail
  refine (union_row _ _ a b _ (LA.out _ bb).1 (LB.out _ bb).1 (by have := UA.out.1.2; omega) (by have := UA.out.2.2; omega)).mono ?_
  rintro e wc ⟨vc, rfl, lc, -, cc⟩
  have bc := bb.trans (cc.mono bb.size)
  go_wp2_with fail
  refine (within_any _ vc a _ _ (LA.out _ bc).1 lc (by have := UA.out.1.2; omega) (by have := BU.out.1; omega) UA.out.1.1 (unionV_U UA.out.1.1 UA.out.2.1)).mono ?_
  rintro e wd ⟨rfl, cd⟩
  have bd := bc.trans (cd.mono bc.size)
  rw [N.out.2.2.2.2.1]
  clear lc cd bb bc
  -- Count(Meet(Minus(a, b), b)) == 0
  go_wp2_with fail
  refine (minus_row _ _ a b _ (LA.out _ bd).1 (LB.out _ bd).1 (by have := UA.out.1.2; omega) (by have := UA.out.2.2; omega)).mono ?_
  rintro e we ⟨ve, rfl, le, -, ce⟩
  have be := bd.trans (ce.mono bd.size)
  go_wp2_with fail
  refine (meet_row ve _ _ b _ le (LB.out _ be).1 (by have := BU.out.2.2.1; omega) (by have := UA.out.2.2; omega)).mono ?_
  rintro e wf ⟨vf, rfl, lf, -, cf⟩
  have bf := be.trans (cf.mono be.size)
  go_wp2_with fail
  refine (count_lst vf _ _ lf (meetV_U HU.out.2 UA.out.2.1) (by rw [meetV_len]; have := BU.out.2.2.1; have := UA.out.2.2; omega)).mono ?_
  rintro e wg ⟨rfl, qg⟩
  rw [N.out.2.2.2.2.2]
  have bg := bf.trans qg.below
  clear le ce lf cf qg bd be bf
  go_wp2
  go_ret
  exact ⟨by simp, bg⟩
set_option maxRecDepth 100000 in
set_option maxHeartbeats 1000000 in
theorem mcounts_law (a0 : Option Addr) (n0 c0 : Nat) (z0 : List Int) (a1 : Option Addr) (n1 c1 : Nat) (z1 : List Int) (w : World) (h0 : IsRow .u64 w a0 n0 c0 z0) (h1 : IsRow .u64 w a1 n1 c1 z1) (hT : Tab w) :
    Calls Tryd.prog 4 #[.slice a0 n0 c0, .slice a1 n1 c1] w fun e w' => e = .returned (.bool true) ∧ Below w.heap.size w w' := by
  by_cases k0 : n0 ≤ 8
  · by_cases k1 : n1 ≤ 8
    · exact mcounts_walk n0 c0 n1 c1 a0 a1 _ _ w (row_all h0 k0).1 (row_all h1 k1).1 k0 k1 hT
    · have k0' : ¬ (8 : Int) < (n0 : Int) := by omega
      have k1' : (8 : Int) < (n1 : Int) := by omega
      have MY := Lib.hid (fun W (h : Below w.heap.size w W) => masked_yes W (hT.grew h))
      clear h0 h1 hT k0 k1
      go_enter Tryd.func4, Tryd.ntmps4
      go_wp2_with fail
      refine (MY.out w (Below.refl _ _)).mono ?_
      rintro e w0 ⟨rfl, b0⟩
      go_wp2_with fail
      refine (MY.out w0 b0).mono ?_
      rintro e w1 ⟨rfl, b1⟩
      go_wp2
      go_ret
      exact ⟨rfl, b0.trans (b1.mono b0.size)⟩
  · have k0' : (8 : Int) < (n0 : Int) := by omega
    have MY := Lib.hid (fun W (h : Below w.heap.size w W) => masked_yes W (hT.grew h))
    clear h0 h1 hT k0
    go_enter Tryd.func4, Tryd.ntmps4
    go_wp2_with fail
    refine (MY.out w (Below.refl _ _)).mono ?_
    rintro e w0 ⟨rfl, b0⟩
    go_wp2_with fail
    refine (MY.out w0 b0).mono ?_
    rintro e w1 ⟨rfl, b1⟩
    go_wp2
    go_ret
    exact ⟨rfl, b0.trans (b1.mono b0.size)⟩
end Go.Proofs.YtalhlbedgkhijaaDoor
