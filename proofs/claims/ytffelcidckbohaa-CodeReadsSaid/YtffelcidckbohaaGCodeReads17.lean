/- CodeReads: all bytes are the program's that the chapter says, or wrong where it says. Condition: the bytes are there. -/
import Derived.Test.YtffelcidckbohaaGCodeReads01
import Derived.Test.YtffelcidckbohaaGCodeReads10
import Derived.Test.YtffelcidckbohaaGCodeReads16
namespace Go.Proofs.Ytffelcidckbohaa
open Go.RowKit
set_option linter.unusedVariables false
def byL (zs : List Int) : List UInt8 := zs.map fun z => UInt8.ofNat z.toNat
theorem isrow_by {w : World} {a : Option Addr} {len cap : Nat} {zs : List Int} (h : IsRow .u8 w a len cap zs) : RdBy w.heap.size w (.slice a len cap) (byL (zs.take len)) ∧ (byL (zs.take len)).length = len := by
  rcases h with ⟨rfl, rfl, rfl, rfl⟩ | ⟨x, rfl, hl, hm, hz, hc, hw⟩
  · exact ⟨⟨⟨none, 0, rfl, by unfold maxLen; simp [byL], fun i hi => absurd hi (by simp [byL])⟩, none, 0, 0, rfl, Nat.le_refl _⟩, rfl⟩
  · have hlen : (byL (zs.take len)).length = len := by unfold byL; rw [List.length_map, List.length_take]; omega
    refine ⟨⟨⟨some x, cap, by rw [hlen], by omega, fun i hi => ?_⟩, some x, len, cap, rfl, hl⟩, hlen⟩
    rw [hlen] at hi
    obtain ⟨b, o, s⟩ := x
    have hs : s = none := by simpa [Addr.add] using World.cell?_spot (hc 0 (by omega))
    subst hs
    have h1 := hc i (by omega)
    rw [add_at] at h1
    refine ⟨b, o, rfl, World.block_lt_of_cell? w _ h1, ?_⟩
    have hwf := hw (zs[i]'(by omega)) (List.getElem_mem _)
    simp [Lit.wf, IntKind.min, IntKind.max, IntKind.signed, IntKind.bits] at hwf
    unfold ElB
    rw [Nat.mul_one, h1]
    have e : ((byL (zs.take len))[i]'(by rw [hlen]; exact hi)) = UInt8.ofNat (zs[i]'(by omega)).toNat := by
      unfold byL
      rw [List.getElem_map, List.getElem_take]
    rw [e, List.getD_eq_getElem?_getD, List.getElem?_eq_getElem (by omega)]
    simp
    omega
def decP (r : Except DErr PrgD) : PrgD := match r with | .ok p => p | .error _ => ⟨[], []⟩
def decA (r : Except DErr PrgD) : Int := match r with | .ok _ => 0 | .error x => x.2
def decE (r : Except DErr PrgD) : Int := match r with | .ok _ => 0 | .error x => x.1
theorem DecPost.vals {r : Except DErr PrgD} {w : World} {e : Ending} {w' : World} (h : DecPost r w e w') : ∃ a0 c0 a1 c1, e = .returned (.tuple #[.agg #[.slice a0 (decP r).classes.length c0, .slice a1 (decP r).funcs.length c1], .int .i64 (decA r), .int .i64 (decE r)]) ∧ RdPrg w'.heap.size w' (.slice a0 (decP r).classes.length c0) (.slice a1 (decP r).funcs.length c1) (decP r) ∧ Below w.heap.size w w' := by
  obtain ⟨h1, h2⟩ := h
  cases r with
  | ok p =>
    obtain ⟨u0, u1, h3, h4⟩ := h1
    obtain ⟨a0, c0, rfl⟩ := rd_shape h4.1
    obtain ⟨a1, c1, rfl⟩ := rd_shape h4.2
    exact ⟨a0, c0, a1, c1, h3, h4, h2⟩
  | error x => exact ⟨none, 0, none, 0, h1.2, ⟨rd_nil _ _ _ _, rd_nil _ _ _ _⟩, h2⟩
set_option maxRecDepth 100000 in
set_option maxHeartbeats 4000000 in
theorem creads_law (a : Option Addr) (len cap : Nat) (zs : List Int) (w : World) (h : IsRow .u8 w a len cap zs) :
    Calls Try.prog 3 #[.slice a len cap] w fun e w' => e = .returned (.bool true) ∧ Below w.heap.size w w' := by
  obtain ⟨hR, hlen⟩ := isrow_by h
  generalize byL (zs.take len) = bs at *
  have hmx : len ≤ maxLen := by obtain ⟨⟨_, _, _, q, _⟩, _⟩ := hR; omega
  unfold maxLen at hmx
  have HR := Lib.hid hR
  clear h hR hlen
  by_cases hl : 20000 < len
  · have hl' : (20000 : Int) < (len : Int) := by omega
    go_enter Try.func3, Try.ntmps3
    go_wp2_with fail
    refine (coded_any _).mono ?_
    rintro e w1 ⟨rfl, hb⟩
    go_wp2
    go_ret
    exact ⟨rfl, hb⟩
  · have hl' : ¬ (20000 : Int) < (len : Int) := by omega
    have D1 := Lib.hid (decode_any w w.heap.size _ bs HR.out (Nat.le_refl _))
    have D2 := Lib.hid (fun W (hb : Below w.heap.size w W) => rdecode_any' W w.heap.size _ bs (HR.out.keep hb) hb.size)
    clear HR
    generalize hd : decD bs = r at *
    go_enter Try.func3, Try.ntmps3
    go_wp2_with fail
    refine D1.out.mono ?_
    intro e w1 hp1
    obtain ⟨a0, c0, a1, c1, rfl, hP, hb1⟩ := hp1.vals
    have hbk := (Below.refl w1.heap.size w1).alloc (Nat.le_refl _) (.cells #[.slice a0 (decP r).classes.length c0, .slice a1 (decP r).funcs.length c1] 27)
    have K1 := Lib.hid (Blk.new w1 #[.slice a0 (decP r).classes.length c0, .slice a1 (decP r).funcs.length c1] 27)
    have HP := Lib.hid (And.intro (hP.keep hbk) hb1.size)
    have HB := Lib.hid (hb1.trans (hbk.mono hb1.size))
    have hs1 : w1.heap.size < (w1.alloc (.cells #[.slice a0 (decP r).classes.length c0, .slice a1 (decP r).funcs.length c1] 27)).heap.size := by simp
    have D2 := Lib.hid (D2.out _ HB.out)
    clear hp1 hP hb1 hbk D1
    go_wp2_with fail
    generalize w1.alloc (.cells #[.slice a0 (decP r).classes.length c0, .slice a1 (decP r).funcs.length c1] 27) = w2 at *
    generalize w1.heap.size = k1 at *
    refine D2.out.mono ?_
    intro e w3 hp3
    obtain ⟨d0, e0, d1, e1, rfl, hP3, hb3⟩ := hp3.vals
    have hbk := (Below.refl w3.heap.size w3).alloc (Nat.le_refl _) (.cells #[.slice d0 (decP r).classes.length e0, .slice d1 (decP r).funcs.length e1] 27)
    have K3 := Lib.hid (Blk.new w3 #[.slice d0 (decP r).classes.length e0, .slice d1 (decP r).funcs.length e1] 27)
    have K2 := Lib.hid (K1.out.grew (hb3.trans (hbk.mono hb3.size)))
    have HQ := Lib.hid (And.intro ((HP.out.1.mono (Nat.le_of_lt hs1)).keep (hb3.trans (hbk.mono hb3.size))) (hP3.keep hbk))
    have HB4 := Lib.hid (HB.out.trans ((hb3.trans (hbk.mono hb3.size)).mono HB.out.size))
    have hs3 := hb3.size
    have hs4 : w3.heap.size < (w3.alloc (.cells #[.slice d0 (decP r).classes.length e0, .slice d1 (decP r).funcs.length e1] 27)).heap.size := by simp
    clear hp3 hP3 hb3 hbk D2 HP K1 HB
    go_wp2_with fail
    generalize w3.alloc (.cells #[.slice d0 (decP r).classes.length e0, .slice d1 (decP r).funcs.length e1] 27) = w4 at *
    generalize w3.heap.size = k3 at *
    refine (coded_any _).mono ?_
    rintro e w5 ⟨rfl, hb5⟩
    have K5 := K2.out.grew hb5
    have K6 := K3.out.grew hb5
    have y0 := K5.val 0 rfl
    have y1 := K5.val 1 rfl
    have z0 := K6.val 0 rfl
    have z1 := K6.val 1 rfl
    have HB5 := Lib.hid (HB4.out.trans (hb5.mono HB4.out.size))
    have hs5 := hb5.size
    have SM := Lib.hid (rsame_any w5 w5.heap.size _ _ _ _ (decP r) (decP r) (Nat.le_refl _) ((HQ.out.1.keep (hb5.mono (by omega))).mono (by omega)) ((HQ.out.2.keep (hb5.mono (by omega))).mono (by omega)))
    rw [decide_eq_true rfl] at SM
    clear hb5 K2 K3 K5 K6 HQ HB4
    go_wp2_with fail
    refine SM.out.mono ?_
    rintro e w6 ⟨rfl, hb6⟩
    have HB6 := Lib.hid (HB5.out.trans (hb6.mono HB5.out.size))
    clear hb6 HB5 y0 y1 z0 z1 SM
    go_wp2
    go_ret
    exact ⟨rfl, HB6.out⟩
end Go.Proofs.Ytffelcidckbohaa
