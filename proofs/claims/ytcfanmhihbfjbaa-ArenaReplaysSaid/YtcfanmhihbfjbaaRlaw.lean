/- The walk of the law ArenaReplays. No condition but that the lists are there. -/
import Derived.Test.YtcfanmhihbfjbaaRrep
import Derived.Test.YtcfanmhihbfjbaaWords
import Derived.Test.YtcfanmhihbfjbaaCell
namespace Go.Proofs.Ytcfanmhihbfjbaa
open Go.RowKit
set_option linter.unusedVariables false

theorem Held.touch {R : Nat → Prop} {w w' : World} {B n c : Nat} {a : Option Addr} {cs : List Int} (h : Held w B a n c cs) (ht : Touch R w w') (hn : ∀ g, a = some ⟨g, 0, none⟩ → B ≤ g → ¬ R g) : Held w' B a n c cs := by
  refine ⟨h.1, ?_⟩
  rcases h.2 with h1 | ⟨g, cap, cur, h1, h2, h3, h4⟩
  · exact .inl h1
  · have ha : a = some ⟨g, 0, none⟩ := by simp only [Value.slice.injEq] at h1; exact h1.1
    exact .inr ⟨g, cap, cur, h1, h2, (ht.block g (Array.getElem?_eq_some_iff.1 h3).1 (hn g ha h2)).trans h3, h4⟩

theorem own_form {w : World} {B n : Nat} {e : TypeId} {v : Value} {xs : List Value} (h : w.ownsRow B e 1 v n xs) : ∃ a c, v = .slice a n c := by
  rcases h.2 with ⟨h1, h2⟩ | ⟨g, cap, cur, h1, _⟩
  · exact ⟨none, 0, by rw [h1, h2]⟩
  · exact ⟨_, cap, h1⟩
theorem repl_le (F : Nat → Nat → Int) (m : Nat) (zs : List Int) : ((repl F m 0 zs).1.getD []).length ≤ zs.length := by
  cases h : (repl F m 0 zs).1 with
  | none => simp
  | some l => have := repl_len F m 0 zs l h; simp [this]
/-- the first k words, one more each -/
def incAt (cs : List Int) : Nat → List Int
  | 0 => cs
  | k + 1 => (incAt cs k).set k (IntKind.u64.wrap ((incAt cs k).getD k 0 + 1))

set_option maxRecDepth 100000 in
set_option maxHeartbeats 4000000 in
theorem replays_walk (b o cap2 m : Nat) (F : Nat → Nat → Int) (vin : Value) (zs : List Int) (w : World) (hmx : m ≤ maxLen) (hin : Lst .u64 w vin zs) (hlt : 0 < m → b < w.heap.size)
    (hc : Hid (∀ i, i < m → ∀ j, j < 7 → w.cell? ⟨b, o + i * 7 + j, none⟩ = some (.int (accK j) (F i j)))) (bp : Option Addr) (hbp : 0 < m → bp = some ⟨b, o, none⟩) :
    Calls Try.prog 3 #[vin, .slice bp m cap2] w fun e w' => e = .returned (.bool true) ∧ Below w.heap.size w w' := by
  obtain ⟨va, vc, hva⟩ : ∃ va vc, vin = .slice va zs.length vc := by
    rcases hin with ⟨rfl, a1, c1, rfl⟩ | ⟨b1, o1, c1, rfl, _⟩
    · exact ⟨_, _, rfl⟩
    · exact ⟨_, _, rfl⟩
  unfold maxLen at hmx
  by_cases hz : zs.length ≤ 500
  · by_cases hm : m ≤ 500
    · have CA := Lib.hid (fun W v hW hl hq => replay_walk b o cap2 m F v zs W hm hz hW hl hq bp hbp (fun W' h => clone_any v zs W' h (by omega)))
      have CB := Lib.hid (fun W hW hl hq => rreplay_walk b o cap2 m F vin zs W hm hz hW hl hq bp hbp)
      have hc := Lib.hid hc
      have hin2 := Lib.hid hin
      subst hva
      clear hin
      generalize hnz : zs.length = n at *
      go_enter Try.func3, Try.ntmps3
      go_wp2_with (at_builtin; refine wp_app rfl _ _ rfl w.heap.size (.slice va n vc) zs ?cI (by omega) _ rfl (World.ownsRow_made w #[] 0 (Nat.le_refl _) (by decide) rfl) rfl (by simp) ?_)
      case cI => exact hin2.out.alloc _
      intro v w1 hown hgrow
      have hb1 : Below w.heap.size w w1 := ((Below.refl _ _).alloc (Nat.le_refl _) _).grown hgrow (by simp) (fun k hk => by have : w.heap.size = k := Option.some.inj hk; omega)
      have hv := Lib.hid (lst_of_own hown)
      have hi1 := Lib.hid (hin2.out.below hb1)
      have hs1 := hb1.size
      obtain ⟨a5, c5, hv5⟩ := own_form hown
      subst hv5
      clear hown hgrow hin2
      have hrl := repl_le F m zs
      rw [hnz] at hrl
      generalize repl F m 0 zs = r at *
      go_wp2_with fail
      refine (CA.out w1 _ hv.out (fun h => by have := hlt h; omega) (Lib.hid (fun i hi j hj => (hb1.cell (p := ⟨b, o + i * 7 + j, none⟩) (hlt (by omega))).trans (hc.out.out i hi j hj)))).mono ?_
      rintro e w2 ⟨vA, rfl, hownA, hb2⟩
      obtain ⟨a2, c2, hvA⟩ := own_form hownA
      subst hvA
      have HA : Held w2 w1.heap.size a2 (r.1.getD []).length c2 (r.1.getD []) := hownA
      clear hownA CA
      have hb12 := hb1.trans (hb2.mono hs1)
      have hs2 := hb2.size
      go_wp2_with fail
      refine (CB.out w2 (hi1.out.below hb2) (fun h => by have := hlt h; omega) (Lib.hid (fun i hi j hj => (hb12.cell (p := ⟨b, o + i * 7 + j, none⟩) (hlt (by omega))).trans (hc.out.out i hi j hj)))).mono ?_
      rintro e w3 ⟨vB, rfl, hownB, hb3⟩
      obtain ⟨a3, c3, hvB⟩ := own_form hownB
      subst hvB
      have HB : Held w3 w2.heap.size a3 (r.1.getD []).length c3 (r.1.getD []) := hownB
      clear hownB CB
      have hAl : 0 < (r.1.getD []).length → ∃ g, a2 = some ⟨g, 0, none⟩ ∧ w1.heap.size ≤ g ∧ g < w2.heap.size := fun h => by
        obtain ⟨g, h1, h2⟩ := HA.rw h
        exact ⟨g, h1, h2.lt⟩
      have HA3 := HA.grew hb3
      have hB3 : Below w1.heap.size w1 w3 := hb2.trans (hb3.mono hs2)
      clear HA hb2 hb3
      generalize r.1.getD [] = cs at *
      generalize hL : cs.length = L at *
      have hL := Lib.hid hL
      have hnz := Lib.hid hnz
      have hAl := Lib.hid hAl
      go_wp2_with fail
      go_loopw [12] (fun i wr => ∃ (k : Nat), k ≤ L ∧ i = .int .i64 k ∧ Hid (Held wr w1.heap.size a2 L c2 (incAt cs k)) ∧ Hid (Held wr w2.heap.size a3 L c3 cs) ∧ Below w1.heap.size w1 wr) (fun i _ => L - (intOf i).toNat)
      case atStart => exact ⟨0, Nat.zero_le _, rfl, Lib.hid HA3, Lib.hid HB, hB3⟩
      case round =>
        obtain ⟨k, hk, rfl, hA, hBr, hB⟩ := hrel
        clear HA3 HB hB3
        by_cases hl : k < L
        · obtain ⟨g, rfl, hg1, hg2⟩ := hAl.out (by omega)
          obtain ⟨g', hgg, hR⟩ := hA.out.rw (by omega)
          obtain rfl : g = g' := by simpa using hgg
          clear hgg
          have cc := hR.cell k hl
          have fc := hR.frozen k
          have hR := Lib.hid hR
          generalize hz9 : (incAt cs k).getD k 0 = z at *
          have hz9 := Lib.hid hz9
          have hi0 : (0 : Int) ≤ (k : Int) := by omega
          have hi1 : (k : Int) < (L : Int) := by omega
          go_wp2_with fail
          go_roundw
          case rel =>
            have hT : Touch (· = g) wr (wr.setCell ⟨g, k, none⟩ (.int .u64 (IntKind.u64.wrap (z + 1)))) := Touch.setCell (R := (· = g)) (Touch.of (Below.refl _ _)) rfl _
            refine ⟨k + 1, by omega, by go_num, Lib.hid ?_, Lib.hid (hBr.out.touch hT (fun x _ hx h => by omega)), hB.trans (hT.below hB.size (fun x hx => hx ▸ hg1))⟩
            show Held _ _ _ _ _ ((incAt cs k).set k (IntKind.u64.wrap ((incAt cs k).getD k 0 + 1)))
            rw [hz9.out]
            exact (hR.out.set k _).own
          case measure => simp [intOf]; omega
        · have hkL : k = L := by omega
          subst hkL
          have hsz := hB.size
          go_wp2_with fail
          go_loopw [13] (fun i wx => ∃ (j : Nat), j ≤ k ∧ i = .int .i64 j ∧ Hid (Held wx w1.heap.size a2 k c2 (incAt cs k)) ∧ Hid (Held wx w2.heap.size a3 k c3 (incAt cs j)) ∧ Below w1.heap.size w1 wx) (fun i _ => k - (intOf i).toNat)
          case atStart => exact ⟨0, Nat.zero_le _, rfl, hA, hBr, hB⟩
          case round =>
            obtain ⟨j, hj, rfl, hA2, hB2, hBx⟩ := hrel
            by_cases hl2 : j < k
            · obtain ⟨ga, rfl, hg1, hg2⟩ := hAl.out (by omega)
              obtain ⟨g, rfl, hR⟩ := hB2.out.rw (by omega)
              have hg3 := hR.lt.1
              have cc := hR.cell j hl2
              have fc := hR.frozen j
              have hR := Lib.hid hR
              generalize hz9 : (incAt cs j).getD j 0 = z at *
              have hz9 := Lib.hid hz9
              have hi0 : (0 : Int) ≤ (j : Int) := by omega
              have hi1 : (j : Int) < (k : Int) := by omega
              go_wp2_with fail
              go_roundw
              case rel =>
                have hT : Touch (· = g) wr (wr.setCell ⟨g, j, none⟩ (.int .u64 (IntKind.u64.wrap (z + 1)))) := Touch.setCell (R := (· = g)) (Touch.of (Below.refl _ _)) rfl _
                refine ⟨j + 1, by omega, by go_num, Lib.hid (hA2.out.touch hT (fun x hxe _ h => ?_)), Lib.hid ?_, hBx.trans (hT.below hBx.size (fun x hx => ?_))⟩
                · injection hxe with h9
                  injection h9 with h10
                  omega
                · show Held _ _ _ _ _ ((incAt cs j).set j (IntKind.u64.wrap ((incAt cs j).getD j 0 + 1)))
                  rw [hz9.out]
                  exact (hR.out.set j _).own
                · omega
              case measure => simp [intOf]; omega
            · have hjk : j = k := by omega
              subst hjk
              have hVA := Lib.hid (lst_of_own hA2.out)
              have hVB := Lib.hid (lst_of_own hB2.out)
              have hVC := Lib.hid (hv.out.below hBx)
              have hVD := Lib.hid (hi1.out.below hBx)
              have hBw := hb1.trans (hBx.mono hs1)
              have hsx := hBx.size
              go_wp2_with fail
              refine (celled_any _).mono ?_
              rintro e w4 ⟨rfl, hb4⟩
              have hB4 := hBw.trans (hb4.mono hBw.size)
              go_wp2_with fail
              refine (words_any _ _ _ _ (hVA.out.below hb4) (hVB.out.below hb4)).mono ?_
              rintro e w5 ⟨rfl, hq5⟩
              go_wp2_with fail
              refine (words_any _ _ _ _ ((hVC.out.below hb4).quiet hq5) ((hVD.out.below hb4).quiet hq5)).mono ?_
              rintro e w6 ⟨rfl, hq6⟩
              go_wp2
              go_ret
              exact ⟨by simp, (hB4.trans hq5.below).trans hq6.below⟩
    · subst hva
      have hm0 : (500 : Int) < (m : Int) := by omega
      go_enter Try.func3, Try.ntmps3
      go_wp2_with fail
      refine (celled_any _).mono ?_
      rintro e w1 ⟨rfl, hb1⟩
      go_wp2
      go_ret
      exact ⟨rfl, hb1⟩
  · subst hva
    have hm0 : (500 : Int) < (zs.length : Int) := by omega
    go_enter Try.func3, Try.ntmps3
    go_wp2_with fail
    refine (celled_any _).mono ?_
    rintro e w1 ⟨rfl, hb1⟩
    go_wp2
    go_ret
    exact ⟨rfl, hb1⟩
theorem replays_law (x : Option Addr) (n cap : Nat) (z : List Int) (a : Option Addr) (len cap2 : Nat) (F : Nat → Nat → Int) (w : World) (h1 : IsRow .u64 w x n cap z) (h : RowS 7 (fun j => ([.i64, .i64, .i64, .u64, .u64, .u64, .u64] : List IntKind).getD j .i64) w a len cap2 F) :
    Calls Try.prog 3 #[.slice x n cap, .slice a len cap2] w fun e w' => e = .returned (.bool true) ∧ Below w.heap.size w w' := by
  have hL := h1.lst.1
  obtain ⟨hm, rfl | ⟨b, o, rfl, hlt, hc⟩⟩ := h
  · exact replays_walk 0 0 cap2 0 F _ (z.take n) w hm hL (fun h => absurd h (by decide)) (Lib.hid (fun i hi => absurd hi (by omega))) a (fun h => absurd h (by decide))
  · exact replays_walk b o cap2 len F _ (z.take n) w hm hL (fun _ => hlt) (Lib.hid (fun i hi j hj => (hc i hi j hj).1)) _ (fun _ => rfl)
end Go.Proofs.Ytcfanmhihbfjbaa
