/- The law CodeWrites: light, bytes, and the law. Condition: the argument reads as a program. -/
import Derived.Test.YtecpokegmfnlaaaGCodeWrites08
namespace Go.Proofs.Ytecpokegmfnlaaa
open Go.RowKit
set_option linter.unusedVariables false
def SomeB (w : World) (e : Ending) (w' : World) : Prop := ∃ b, e = .returned (.bool b) ∧ Below w.heap.size w w'
set_option maxRecDepth 100000 in
set_option maxHeartbeats 4000000 in
theorem light_any (p : PrgD) (v1 v2 : Value) (w : World) (B0 : Nat) (hB0 : B0 ≤ w.heap.size) (h : RdPrg B0 w v1 v2 p) :
    Calls Try.prog 12 #[.agg #[v1, v2]] w (SomeB w) := by
  obtain ⟨a1, p1, s1⟩ := rd_shape h.1
  obtain ⟨a2, p2, s2⟩ := rd_shape h.2
  subst s1 s2
  have hb : Below w.heap.size w (w.alloc (.cells #[.slice a1 p.classes.length p1, .slice a2 p.funcs.length p2] 29)) := (Below.refl _ _).alloc (Nat.le_refl _) _
  have hr := (h.mono hB0).keep hb
  have k0 : Blk (w.alloc (.cells #[.slice a1 p.classes.length p1, .slice a2 p.funcs.length p2] 29)) w.heap.size #[.slice a1 p.classes.length p1, .slice a2 p.funcs.length p2] 29 := Blk.new _ _ _
  have y0 := k0.val 0 rfl
  have y1 := k0.val 1 rfl
  have hmx1 : p.classes.length ≤ maxLen := by obtain ⟨_, _, _, q, _⟩ := hr.1; exact q
  have hmx2 : p.funcs.length ≤ maxLen := by obtain ⟨_, _, _, q, _⟩ := hr.2; exact q
  unfold maxLen at hmx1 hmx2
  have HR := Lib.hid hr
  have HB := Lib.hid hb
  clear h hB0 hr hb k0
  go_enter Try.func12, Try.ntmps12
  by_cases c1 : 40 < p.classes.length
  · have c1' : (40 : Int) < (p.classes.length : Int) := by omega
    go_wp2
    go_ret
    exact ⟨_, rfl, HB.out⟩
  have c1' : ¬ (40 : Int) < (p.classes.length : Int) := by omega
  by_cases c2 : 40 < p.funcs.length
  · have c2' : (40 : Int) < (p.funcs.length : Int) := by omega
    go_wp2
    go_ret
    exact ⟨_, rfl, HB.out⟩
  have c2' : ¬ (40 : Int) < (p.funcs.length : Int) := by omega
  go_wp2
  go_loop [3] (fun x => ∃ i : Nat, i ≤ p.classes.length ∧ x = .int .i64 i) (fun x => p.classes.length - (intOf x).toNat)
  case atStart => exact ⟨0, by omega, rfl⟩
  case round =>
    obtain ⟨i, hi, rfl⟩ := hrel
    by_cases hlt : i < p.classes.length
    · have hlt' : (i : Int) < (p.classes.length : Int) := by omega
      obtain ⟨_, _, hva, _, hel⟩ := HR.out.1
      injection hva with hva1 hva2 hva3
      subst hva1 hva3
      obtain ⟨d, o, hdo, hdB, t1, vf, t2, hvf⟩ := hel i hlt
      subst hdo
      obtain ⟨fa, fc, hfs⟩ := rd_shape hvf
      subst hfs
      have i1 : (0 : Int) ≤ (i : Int) ∧ (i : Int) < (p.classes.length : Int) := ⟨by omega, by omega⟩
      have i2 : 0 < p.classes.length := by omega
      clear hel hvf
      generalize p.classes[i].fields.length = m at *
      by_cases c3 : 40 < m
      · have c3' : (40 : Int) < (m : Int) := by omega
        go_wp2
        go_ret
        exact ⟨_, rfl, HB.out⟩
      · have c3' : ¬ (40 : Int) < (m : Int) := by omega
        go_wp2
        go_round
        case rel => exact ⟨i + 1, by omega, by go_num⟩
        case measure => simp [intOf]; omega
    · have hlt' : ¬ (i : Int) < (p.classes.length : Int) := by omega
      go_wp2
      go_loop [4] (fun x => ∃ i : Nat, i ≤ p.funcs.length ∧ x = .int .i64 i) (fun x => p.funcs.length - (intOf x).toNat)
      case atStart => exact ⟨0, by omega, rfl⟩
      case round =>
        obtain ⟨j, hj, rfl⟩ := hrel
        by_cases hltj : j < p.funcs.length
        · have hlt' : (j : Int) < (p.funcs.length : Int) := by omega
          obtain ⟨_, _, hva, _, hel⟩ := HR.out.2
          injection hva with hva1 hva2 hva3
          subst hva1 hva3
          obtain ⟨d, o, hdo, hdB, t1, ⟨u1, t2, r1⟩, ⟨t3, _⟩, ⟨u3, t4, r3⟩, u4, t5, r4⟩ := hel j hltj
          subst hdo
          obtain ⟨fa1, fc1, hf1⟩ := rd_shape r1
          obtain ⟨fa3, fc3, hf3⟩ := rd_shape r3
          obtain ⟨fa4, fc4, hf4⟩ := rd_shape r4
          subst hf1 hf3 hf4
          have i1 : (0 : Int) ≤ (j : Int) ∧ (j : Int) < (p.funcs.length : Int) := ⟨by omega, by omega⟩
          have i2 : 0 < p.funcs.length := by omega
          clear hel r1 r3 r4
          generalize p.funcs[j].params.length = m1 at *
          generalize p.funcs[j].locals.length = m2 at *
          generalize p.funcs[j].code.length = m3 at *
          by_cases c3 : 400 < m3
          · have c3' : (400 : Int) < (m3 : Int) := by omega
            go_wp2
            go_ret
            exact ⟨_, rfl, HB.out⟩
          have c3' : ¬ (400 : Int) < (m3 : Int) := by omega
          by_cases c4 : 40 < m1
          · have c4' : (40 : Int) < (m1 : Int) := by omega
            go_wp2
            go_ret
            exact ⟨_, rfl, HB.out⟩
          have c4' : ¬ (40 : Int) < (m1 : Int) := by omega
          by_cases c5 : 40 < m2
          · have c5' : (40 : Int) < (m2 : Int) := by omega
            go_wp2
            go_ret
            exact ⟨_, rfl, HB.out⟩
          have c5' : ¬ (40 : Int) < (m2 : Int) := by omega
          go_wp2
          go_round
          case rel => exact ⟨j + 1, by omega, by go_num⟩
          case measure => simp [intOf]; omega
        · have hlt' : ¬ (j : Int) < (p.funcs.length : Int) := by omega
          go_wp2
          go_ret
          exact ⟨_, rfl, HB.out⟩
/-- bytes of a row as a text -/
theorem conv_row {w : World} {B : Nat} {v : Value} {l : List UInt8} (h : w.ownsRow B 5 1 v l.length (u8L l)) : (convert 31 9 v).run Try.prog w = .ok (.string ⟨l.toArray⟩) w := by
  rcases Nat.eq_zero_or_pos l.length with h0 | h0
  · obtain rfl : l = [] := List.eq_nil_of_length_eq_zero h0
    obtain ⟨a, c, rfl⟩ := row_shape h
    cases a with
    | none => exact run_convert_bytes_string w 31 9 5 none 0 c Try.underlying31 Try.underlying5 Try.underlying9
    | some ad => exact run_convert_bytes_back w 31 9 5 ad c [] Try.underlying31 Try.underlying5 Try.underlying9 (fun j hj => absurd hj (by simp))
  · obtain ⟨g, cap, rfl, _, hc⟩ := own_cells h h0
    exact run_convert_bytes_back w 31 9 5 ⟨g, 0, none⟩ cap l Try.underlying31 Try.underlying5 Try.underlying9 (fun j hj => by
      have e : (⟨g, 0, none⟩ : Addr).add j = ⟨g, j, none⟩ := by unfold Addr.add; split <;> simp_all
      rw [e]; exact hc j hj)
set_option maxHeartbeats 1000000 in
theorem bytes_same (w : World) (va vb : Value) (s : ByteArray) (h1 : (convert 31 9 va).run Try.prog w = .ok (.string s) w) (h2 : (convert 31 9 vb).run Try.prog w = .ok (.string s) w) :
    Calls Try.prog 15 #[va, vb] w fun e w' => e = .returned (.bool true) ∧ w = w' := by
  have hs : (s.toList == s.toList) = true := by simp
  go_enter Try.func15, Try.ntmps15
  go_wp2
  go_ret
  exact ⟨rfl, rfl⟩
set_option maxRecDepth 100000 in
set_option maxHeartbeats 4000000 in
theorem cwrites_law (p : PrgD) (v1 v2 : Value) (w : World) (h : RdPrg w.heap.size w v1 v2 p) :
    Calls Try.prog 4 #[.agg #[v1, v2]] w fun e w' => e = .returned (.bool true) ∧ Below w.heap.size w w' := by
  obtain ⟨a1, p1, s1⟩ := rd_shape h.1
  obtain ⟨a2, p2, s2⟩ := rd_shape h.2
  subst s1 s2
  have hb : Below w.heap.size w (w.alloc (.cells #[.slice a1 p.classes.length p1, .slice a2 p.funcs.length p2] 29)) := (Below.refl _ _).alloc (Nat.le_refl _) _
  have k0 : Blk (w.alloc (.cells #[.slice a1 p.classes.length p1, .slice a2 p.funcs.length p2] 29)) w.heap.size #[.slice a1 p.classes.length p1, .slice a2 p.funcs.length p2] 29 := Blk.new _ _ _
  have RP := Lib.hid (fun W (hb : Below w.heap.size w W) => h.keep hb)
  have y0 := k0.val 0 rfl
  have y1 := k0.val 1 rfl
  clear h
  go_enter Try.func4, Try.ntmps4
  go_wp2_with fail
  refine (light_any p _ _ _ w.heap.size (by simp) (RP.out _ hb)).mono ?_
  rintro e1 w1 ⟨lb, rfl, hb1⟩
  have k1 := k0.grew hb1
  have b1 := hb.trans (hb1.mono hb.size)
  clear y0 y1 k0 hb hb1
  have y0 := k1.val 0 rfl
  have y1 := k1.val 1 rfl
  cases lb with
  | false =>
    go_wp2_with fail
    refine (coded_any _).mono ?_
    rintro e2 w2 ⟨rfl, hb2⟩
    go_wp2
    go_ret
    exact ⟨rfl, b1.trans (hb2.mono b1.size)⟩
  | true =>
    go_wp2_with fail
    refine (encode_any p _ _ _ w.heap.size b1.size (RP.out _ b1)).mono ?_
    rintro e2 w2 ⟨hr2, hb2⟩
    have k2 := k1.grew hb2
    have b2 := b1.trans (hb2.mono b1.size)
    have RE := Lib.hid (rencode_any p _ _ _ w.heap.size b2.size (RP.out _ b2))
    clear y0 y1 k1 hb2 b1
    have y0 := k2.val 0 rfl
    have y1 := k2.val 1 rfl
    have HB2 := Lib.hid b2
    clear b2
    generalize encE p = r at *
    cases r with
    | ok l =>
      obtain ⟨v, rfl, ho⟩ := hr2
      obtain ⟨va, vc, rfl⟩ := row_shape ho
      have HO := Lib.hid ho
      clear ho
      go_wp2_with fail
      refine RE.out.mono ?_
      rintro e3 w3 ⟨hr3, hb3⟩
      obtain ⟨v', rfl, ho3⟩ := hr3
      obtain ⟨vb, vd, rfl⟩ := row_shape ho3
      have o2 := own_grewC HO.out hb3
      have b3 := HB2.out.trans (hb3.mono HB2.out.size)
      clear y0 y1 k2 hb3 RE HO
      have HQ := Lib.hid (And.intro o2 (And.intro ho3 b3))
      clear o2 ho3 b3
      go_wp2_with fail
      refine (coded_any _).mono ?_
      rintro e4 w4 ⟨rfl, hb4⟩
      have BS := Lib.hid (bytes_same w4 _ _ _ (conv_row (own_grewC HQ.out.1 hb4)) (conv_row (own_grewC HQ.out.2.1 hb4)))
      have HB4 := Lib.hid (HQ.out.2.2.trans (hb4.mono HQ.out.2.2.size))
      clear hb4 HQ
      go_wp2_with fail
      refine BS.out.mono ?_
      rintro e5 w5 ⟨rfl, rfl⟩
      go_wp2
      go_ret
      exact ⟨rfl, HB4.out⟩
    | error x =>
      obtain ⟨hx, rfl⟩ := hr2
      have HX := Lib.hid hx
      clear hx
      go_wp2_with fail
      refine RE.out.mono ?_
      rintro e3 w3 ⟨hr3, hb3⟩
      obtain ⟨_, rfl⟩ := hr3
      have b3 := Lib.hid (HB2.out.trans (hb3.mono HB2.out.size))
      clear y0 y1 k2 hb3 RE HB2
      go_wp2_with fail
      refine (coded_any _).mono ?_
      rintro e4 w4 ⟨rfl, hb4⟩
      have BS := Lib.hid (bytes_same w4 _ _ _ (conv_row (B := 0) (l := []) (World.ownsRow_nil w4 0 5 1)) (conv_row (B := 0) (l := []) (World.ownsRow_nil w4 0 5 1)))
      have HB4 := Lib.hid (b3.out.trans (hb4.mono b3.out.size))
      clear hb4 b3
      have hxx : (x == x) = true := by simp
      go_wp2_with fail
      refine BS.out.mono ?_
      rintro e5 w5 ⟨rfl, rfl⟩
      go_wp2
      go_ret
      exact ⟨rfl, HB4.out⟩
end Go.Proofs.Ytecpokegmfnlaaa
