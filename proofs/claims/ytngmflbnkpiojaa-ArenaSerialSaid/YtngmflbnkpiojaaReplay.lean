/- What arena.Replay and the document's Replay return. Condition: the lists are there, at most 500 long. -/
import Derived.Test.YtngmflbnkpiojaaRepeat
import Derived.Test.YtngmflbnkpiojaaClon
import Derived.Test.YtngmflbnkpiojaaRowS
namespace Go.Proofs.Ytngmflbnkpiojaa
open Go.RowKit
set_option linter.unusedVariables false

/-- what comes of one access: the number of an error, or nothing -/
def stepE (cs : List Int) (at' k want put seen left : Int) : Int :=
  if insB cs.length at' = false then 5 else if kindB k = true ∧ seen = cs.getD at'.toNat 0 ∧ left = leftI k seen want put then 0 else 4
/-- the cells behind accesses, from the i-th on; where it stopped; the error's number -/
def repl (F : Nat → Nat → Int) : Nat → Nat → List Int → Option (List Int) × Nat × Int
  | 0, _, cs => (some cs, 0, 0)
  | m + 1, i, cs => if stepE cs (F i 2) (F i 1) (F i 3) (F i 4) (F i 5) (F i 6) = 0 then repl F m (i + 1) (cs.set (F i 2).toNat (F i 6)) else (none, i, stepE cs (F i 2) (F i 1) (F i 3) (F i 4) (F i 5) (F i 6))
theorem repl_len (F : Nat → Nat → Int) : ∀ m i cs l, (repl F m i cs).1 = some l → l.length = cs.length
  | 0, _, cs, l, h => by simp only [repl, Option.some.injEq] at h; rw [h]
  | m + 1, i, cs, l, h => by
    unfold repl at h
    split at h
    · have := repl_len F m _ _ l h; simpa using this
    · cases h
def ReplayPost (r : Option (List Int) × Nat × Int) (w : World) (e : Ending) (w' : World) : Prop :=
  ∃ v, e = .returned (.tuple #[v, .int .i64 ((r.2.1 : Nat) : Int), .int .i64 r.2.2]) ∧ w'.ownsRow w.heap.size 30 1 v (r.1.getD []).length ((r.1.getD []).map (Value.int .u64)) ∧ Below w.heap.size w w'
abbrev accK (j : Nat) : IntKind := ([.i64, .i64, .i64, .u64, .u64, .u64, .u64] : List IntKind).getD j .i64

/-- the slice that holds the cells, whatever its length -/
def Held (w : World) (B : Nat) (a : Option Addr) (n c : Nat) (cs : List Int) : Prop := w.ownsRow B 30 1 (.slice a n c) n (cs.map (Value.int .u64))
theorem Held.len {w : World} {B n c : Nat} {a : Option Addr} {cs : List Int} (h : Held w B a n c cs) : cs.length = n := by have := h.1; simpa using this
theorem Held.rw {w : World} {B n c : Nat} {a : Option Addr} {cs : List Int} (h : Held w B a n c cs) (h0 : 0 < n) : ∃ g, a = some ⟨g, 0, none⟩ ∧ Rw w B g n c cs := by
  rcases h.2 with ⟨h1, h2⟩ | ⟨g, cap, cur, h1, _⟩
  · omega
  · simp only [Value.slice.injEq, true_and] at h1
    obtain ⟨rfl, rfl⟩ := h1
    exact ⟨g, rfl, ⟨h⟩⟩
theorem Held.grew {w w' : World} {B n c : Nat} {a : Option Addr} {cs : List Int} (h : Held w B a n c cs) (hb : Below w.heap.size w w') : Held w' B a n c cs := by
  refine ⟨h.1, ?_⟩
  rcases h.2 with h1 | ⟨g, cap, cur, h1, h2, h3, h4⟩
  · exact .inl h1
  · exact .inr ⟨g, cap, cur, h1, h2, (hb.block g (Array.getElem?_eq_some_iff.1 h3).1).trans h3, h4⟩

theorem repeat_any (who k at' want put seen left : Int) (B : Nat) (a : Option Addr) (n c : Nat) (cs : List Int) (w : World) (hH : Held w B a n c cs) (hB : B ≤ w.heap.size) :
    Calls Try.prog 30 #[.slice a n c, .agg #[.int .i64 who, .int .i64 k, .int .i64 at', .int .u64 want, .int .u64 put, .int .u64 seen, .int .u64 left]] w fun e w' =>
      e = .returned (.int .i64 (stepE cs at' k want put seen left)) ∧ Held w' B a n c (if stepE cs at' k want put seen left = 0 then cs.set at'.toNat left else cs) ∧ Below B w w' := by
  have hn := hH.len
  unfold stepE
  rw [hn]
  by_cases h1 : insB n at' = true
  · have hi := of_decide_eq_true h1
    obtain ⟨i, rfl⟩ := Int.eq_ofNat_of_zero_le hi.1
    have hin : i < n := by omega
    obtain ⟨g, rfl, hR⟩ := hH.rw (by omega)
    have hgB := hR.lt.1
    rw [if_neg (by rw [h1]; decide)]
    by_cases hk : kindB k = true
    · by_cases hs : seen = cs.getD i 0
      · by_cases hl : left = leftI k seen want put
        · rw [if_pos ⟨hk, by simpa using hs, hl⟩, if_pos rfl]
          refine (repeat_ok who k want put seen left B g n c cs i w hR hin hk hs hl).mono ?_
          rintro e w' ⟨he, hw, ht⟩
          exact ⟨he, hw.own, ht.below hB (fun x hx => hx ▸ hgB)⟩
        · rw [if_neg (fun h => hl h.2.2), if_neg (by decide)]
          refine (repeat_left who k want put seen left B g n c cs i w hR hin hk hs hl).mono ?_
          rintro e w' ⟨he, hb⟩
          exact ⟨he, hH.grew hb, hb.mono hB⟩
      · rw [if_neg (fun h => hs (by simpa using h.2.1)), if_neg (by decide)]
        refine (repeat_seen who k want put seen left B g n c cs i w hR hin hk hs).mono ?_
        rintro e w' ⟨he, hb⟩
        exact ⟨he, hH.grew hb, hb.mono hB⟩
    · rw [if_neg (fun h => hk h.1), if_neg (by decide)]
      refine (repeat_kind who k want put seen left B g n c cs i w hR hin (by simpa using hk)).mono ?_
      rintro e w' ⟨he, hb⟩
      exact ⟨he, hH.grew hb, hb.mono hB⟩
  · have h1 : insB n at' = false := by simpa using h1
    rw [if_pos h1, if_neg (by decide)]
    refine (repeat_out who k at' want put seen left a n c w h1).mono ?_
    rintro e w' ⟨he, hb⟩
    exact ⟨he, hH.grew hb, hb.mono hB⟩
theorem repl_more (F : Nat → Nat → Int) (m k : Nat) (cs : List Int) (hk : k < m) (h : stepE cs (F k 2) (F k 1) (F k 3) (F k 4) (F k 5) (F k 6) = 0) :
    repl F (m - k) k cs = repl F (m - (k + 1)) (k + 1) (cs.set (F k 2).toNat (F k 6)) := by
  rw [show m - k = (m - (k + 1)) + 1 by omega, repl, if_pos h]
theorem repl_stop (F : Nat → Nat → Int) (m k : Nat) (cs : List Int) (hk : k < m) (h : ¬ stepE cs (F k 2) (F k 1) (F k 3) (F k 4) (F k 5) (F k 6) = 0) :
    repl F (m - k) k cs = (none, k, stepE cs (F k 2) (F k 1) (F k 3) (F k 4) (F k 5) (F k 6)) := by
  rw [show m - k = (m - (k + 1)) + 1 by omega, repl, if_neg h]

set_option maxHeartbeats 1000000 in
theorem replay_walk (b o cap2 m : Nat) (F : Nat → Nat → Int) (vin : Value) (zs : List Int) (w : World) (hm : m ≤ 500) (hz : zs.length ≤ 500) (hin : Lst .u64 w vin zs) (hlt : 0 < m → b < w.heap.size)
    (hc : Hid (∀ i, i < m → ∀ j, j < 7 → w.cell? ⟨b, o + i * 7 + j, none⟩ = some (.int (accK j) (F i j)))) (bp : Option Addr) (hbp : 0 < m → bp = some ⟨b, o, none⟩)
    (hcl : ∀ W, Lst .u64 W vin zs → Calls Try.prog 29 #[vin] W (ClonePost zs W)) :
    Calls Try.prog 17 #[vin, .slice bp m cap2] w (ReplayPost (repl F m 0 zs) w) := by
  have HR : Hid (∃ r, r = repl F m 0 zs) := ⟨_, rfl⟩
  have CL := Lib.hid hcl
  clear hcl
  go_enter Try.func17, Try.ntmps17
  go_wp2_with fail
  refine (CL.out _ hin).mono ?_
  rintro e w1 ⟨v, rfl, hown, hb1⟩
  obtain ⟨a, c, hv⟩ : ∃ a c, v = .slice a zs.length c := by
    rcases hown.2 with ⟨h1, h2⟩ | ⟨g, cap, cur, h1, _⟩
    · exact ⟨none, 0, by rw [h1, h2]⟩
    · exact ⟨_, cap, h1⟩
  subst hv
  have hH : Held w1 w.heap.size a zs.length c zs := hown
  have hs1 := hb1.size
  clear hown CL
  generalize hnz : zs.length = n at *
  have HN := Lib.hid hnz
  clear hnz
  go_wp2_with fail
  go_loopw [15] (fun i wr => ∃ (k : Nat) (cs : List Int), k ≤ m ∧ i = .int .i64 k ∧ Hid (repl F m 0 zs = repl F (m - k) k cs) ∧ Hid (Held wr w.heap.size a n c cs) ∧ Below w.heap.size w wr) (fun i _ => m - (intOf i).toNat)
  case atStart => exact ⟨0, zs, Nat.zero_le _, rfl, Lib.hid rfl, Lib.hid hH, hb1⟩
  case round =>
    obtain ⟨k, cs, hk, rfl, hE, hHr, hB⟩ := hrel
    clear hH hb1 hs1
    have hsz := hB.size
    by_cases hl : k < m
    · have hlt0 := hlt (by omega)
      have hbp0 := hbp (by omega)
      subst hbp0
      have r0 : wr.cell? ⟨b, o + k * 7, none⟩ = some (.int .i64 (F k 0)) := (hB.cell (p := ⟨b, o + k * 7, none⟩) hlt0).trans (hc.out k hl 0 (by decide))
      have r1 : wr.cell? ⟨b, o + k * 7 + 1, none⟩ = some (.int .i64 (F k 1)) := (hB.cell (p := ⟨b, o + k * 7 + 1, none⟩) hlt0).trans (hc.out k hl 1 (by decide))
      have r2 : wr.cell? ⟨b, o + k * 7 + 2, none⟩ = some (.int .i64 (F k 2)) := (hB.cell (p := ⟨b, o + k * 7 + 2, none⟩) hlt0).trans (hc.out k hl 2 (by decide))
      have r3 : wr.cell? ⟨b, o + k * 7 + 3, none⟩ = some (.int .u64 (F k 3)) := (hB.cell (p := ⟨b, o + k * 7 + 3, none⟩) hlt0).trans (hc.out k hl 3 (by decide))
      have r4 : wr.cell? ⟨b, o + k * 7 + 4, none⟩ = some (.int .u64 (F k 4)) := (hB.cell (p := ⟨b, o + k * 7 + 4, none⟩) hlt0).trans (hc.out k hl 4 (by decide))
      have r5 : wr.cell? ⟨b, o + k * 7 + 5, none⟩ = some (.int .u64 (F k 5)) := (hB.cell (p := ⟨b, o + k * 7 + 5, none⟩) hlt0).trans (hc.out k hl 5 (by decide))
      have r6 : wr.cell? ⟨b, o + k * 7 + 6, none⟩ = some (.int .u64 (F k 6)) := (hB.cell (p := ⟨b, o + k * 7 + 6, none⟩) hlt0).trans (hc.out k hl 6 (by decide))
      have M := Lib.hid (repl_more F m k cs hl)
      have S := Lib.hid (repl_stop F m k cs hl)
      have T := Lib.hid (fun W (hW : Held W w.heap.size a n c cs) (hb : w.heap.size ≤ W.heap.size) => repeat_any (F k 0) (F k 1) (F k 2) (F k 3) (F k 4) (F k 5) (F k 6) w.heap.size a n c cs W hW hb)
      generalize F k 0 = q0 at *
      generalize F k 1 = q1 at *
      generalize F k 2 = q2 at *
      generalize F k 3 = q3 at *
      generalize F k 4 = q4 at *
      generalize F k 5 = q5 at *
      generalize F k 6 = q6 at *
      go_wp2_with fail
      have hal := (Below.refl wr.heap.size wr).alloc (Nat.le_refl _) (.cells #[.int .i64 q0, .int .i64 q1, .int .i64 q2, .int .u64 q3, .int .u64 q4, .int .u64 q5, .int .u64 q6] 71)
      have hH1 := hHr.out.grew hal
      have hB1 := hB.trans (hal.mono hsz)
      refine (T.out _ hH1 hB1.size).mono ?_
      generalize stepE cs q2 q1 q3 q4 q5 q6 = E at *
      rintro e w2 ⟨rfl, hH2, hb2⟩
      have hB2 := hB1.trans hb2
      by_cases h0 : E = 0
      · subst h0
        rw [if_pos rfl] at hH2
        have hH2 := Lib.hid hH2
        have M2 := Lib.hid (M.out rfl)
        clear M
        go_wp2
        go_roundw
        case rel => exact ⟨k + 1, cs.set q2.toNat q6, by omega, by go_num, Lib.hid (hE.out.trans M2.out), hH2, hB2⟩
        case measure => simp [intOf]; omega
      · have S := Lib.hid (S.out h0)
        have hE0 : (E != 0) = true := by simp [h0]
        clear M hH2
        go_wp2
        go_ret3
        rw [hE.out, S.out]
        exact ⟨_, rfl, World.ownsRow_nil _ _ _ _, hB2⟩
    · have hkm : k = m := by omega
      subst hkm
      have hE := hE
      go_wp2
      go_ret3
      rw [hE.out, Nat.sub_self]
      refine ⟨_, rfl, ?_, hB⟩
      have hl := hHr.out.len
      show World.ownsRow _ _ _ _ (.slice a n c) cs.length (cs.map (Value.int .u64))
      rw [hl]
      exact hHr.out
end Go.Proofs.Ytngmflbnkpiojaa
