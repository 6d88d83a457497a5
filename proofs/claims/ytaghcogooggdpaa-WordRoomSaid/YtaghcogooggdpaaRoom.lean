/- The walk of the law WordRoom: it returns true, whatever it is given. No condition but that each number fits its kind. -/
import Derived.Test.YtaghcogooggdpaaKept
import Derived.Test.YtaghcogooggdpaaPack
import Derived.Test.YtaghcogooggdpaaUnpack
namespace Go.Proofs.Ytaghcogooggdpaa
open Go.RowKit

/-- what was packed is unpacked -/
theorem room_math : ∀ (vs ds : List Int) (x a : Int), (∀ v ∈ vs, U64 v) → U64 x → 0 ≤ a → vs.length = ds.length → (packL vs ds x a).2 = 0 → U64 (packL vs ds x a).1 ∧ unpackL ds (packL vs ds x a).1 a = some vs ∧
    ∀ i : Nat, (i : Int) < a → (packL vs ds x a).1.toNat.testBit i = x.toNat.testBit i := by
  intro vs
  induction vs with
  | nil =>
    intro ds x a _ hx _ hl _
    have hd : ds = [] := List.eq_nil_of_length_eq_zero hl.symm
    subst hd
    exact ⟨hx, by simp [unpackL], fun _ _ => rfl⟩
  | cons v vs ih =>
    intro ds x a hv hx ha hl he
    cases ds with
    | nil => simp at hl
    | cons d ds =>
      rw [packL] at he ⊢
      cases hf : fldB a d with
      | false => rw [hf] at he; simp at he
      | true =>
        rw [hf, if_pos rfl] at he
        rw [if_pos rfl]
        by_cases hm : v ≤ maskI d
        · rw [if_pos hm] at he
          rw [if_pos hm]
          have hv0 := hv v (by simp)
          obtain ⟨f1, f2, f3, f4⟩ := fldB_true hf
          have hU := putI_U64 x a d v hx hv0.1 hf hm
          obtain ⟨i1, i2, i3⟩ := ih ds (putI x a d v) (a + d) (fun u hu => hv u (by simp [hu])) hU (by omega) (by simpa using hl) he
          have hvd := (le_maskI v d f3 (by omega) hv0.1).1 hm
          have hxn : x.toNat < 2 ^ 64 := by have := hx.2; omega
          refine ⟨i1, ?_, ?_⟩
          · rw [unpackL, hf, if_pos rfl, i2]
            have e : getI (packL vs ds (putI x a d v) (a + d)).1 a d = v := by
              unfold getI
              have e2 : getN (packL vs ds (putI x a d v) (a + d)).1.toNat a.toNat d.toNat = getN (putN x.toNat a.toNat d.toNat v.toNat) a.toNat d.toNat := by
                apply Nat.eq_of_testBit_eq
                intro i
                rw [testBit_getN, testBit_getN]
                by_cases hi : i < d.toNat
                · rw [i3 (a.toNat + i) (by omega)]
                  unfold putI
                  rw [Int.toNat_natCast]
                · simp [hi]
              rw [e2, get_put _ _ _ _ (by omega) hxn hvd]
              exact Int.toNat_of_nonneg hv0.1
            rw [e]
            rfl
          · intro i hi
            rw [i3 i (by omega)]
            unfold putI
            rw [Int.toNat_natCast, testBit_putN _ _ _ _ _ (by omega) hxn hvd, if_neg (by omega)]
        · rw [if_neg hm] at he; simp at he

theorem packI_err {vs ds : List Int} (h : (packI vs ds).2 ≠ 0) : (packI vs ds).1 = 0 := by
  unfold packI at h ⊢
  split at h
  · rename_i hl
    rw [if_pos hl]
    clear hl
    have key : ∀ (vs ds : List Int) (x a : Int), (packL vs ds x a).2 ≠ 0 → (packL vs ds x a).1 = 0 := by
      intro vs
      induction vs with
      | nil => intro ds x a h; cases ds <;> exact absurd rfl h
      | cons v vs ih =>
        intro ds x a h
        cases ds with
        | nil => exact absurd rfl h
        | cons d ds =>
          rw [packL] at h ⊢
          split
          · rename_i h1
            rw [if_pos h1] at h
            split
            · rename_i h2
              rw [if_pos h2] at h
              exact ih _ _ _ h
            · rfl
          · rfl
    exact key _ _ _ _ h
  · rename_i hl
    rw [if_neg hl]
theorem packI_ok {vs ds : List Int} (hv : ∀ v ∈ vs, U64 v) (h : (packI vs ds).2 = 0) : U64 (packI vs ds).1 ∧ unpackL ds (packI vs ds).1 0 = some vs := by
  unfold packI at h ⊢
  split at h
  · rename_i hl
    rw [if_pos hl]
    obtain ⟨h1, h2, _⟩ := room_math vs ds 0 0 hv ⟨by decide, by decide⟩ (by decide) hl h
    exact ⟨h1, h2⟩
  · simp at h

set_option maxRecDepth 100000 in
set_option maxHeartbeats 1000000 in
theorem room_walk (a1 a2 : Option Addr) (n1 c1 n2 c2 : Nat) (vs ds : List Int) (w : World) (hl1 : Lst .u64 w (.slice a1 n1 c1) vs) (hl2 : Lst .i64 w (.slice a2 n2 c2) ds) (hv : ∀ v ∈ vs, U64 v) (hn : vs.length = n1) (hm : n1 ≤ maxLen) :
    Calls Try.prog 6 #[.slice a1 n1 c1, .slice a2 n2 c2] w fun e w' => e = .returned (.bool true) ∧ Below w.heap.size w w' := by
  unfold maxLen at hm
  have P := Lib.hid (fun W h1 h2 => pack_any (.slice a1 n1 c1) (.slice a2 n2 c2) vs ds W h1 h2 hv)
  have HN := Lib.hid hn
  clear hn
  by_cases h200 : 200 < n1
  · go_enter Try.func6, Try.ntmps6
    go_wp2_with (first | (go_at_call 11; (with_reducible refine (worded_any w).mono ?_); rintro e w1 ⟨rfl, hq1⟩) | (go_at_call 11; refine (worded_any _).mono ?_; rintro e w2 ⟨rfl, hq2⟩))
    go_ret
    exact ⟨rfl, (hq1.trans hq2).below⟩
  · cases he : (packI vs ds).2 == 0 with
    | false =>
      have h0 := packI_err (by simpa using he)
      go_enter Try.func6, Try.ntmps6
      go_wp2_with (first | (go_at_call 11; refine (worded_any _).mono ?_; rintro e w1 ⟨rfl, hq1⟩) | (go_at_call 17; refine (P.out _ (hl1.quiet hq1) (hl2.quiet hq1)).mono ?_; rintro e w2 ⟨rfl, hq2⟩))
      go_ret
      exact ⟨rfl, (hq1.trans hq2).below⟩
    | true =>
      obtain ⟨hU, hu⟩ := packI_ok hv (by simpa using he)
      by_cases h0 : n1 = 0
      · subst h0
        have hvs : vs = [] := List.eq_nil_of_length_eq_zero HN.out
        have U := Lib.hid (fun W h => unpack_empty (packI vs ds).1 (.slice a2 n2 c2) ds W hU h (by rw [hu, hvs]))
        clear hu hvs
        go_enter Try.func6, Try.ntmps6
        go_wp2_with (first | (go_at_call 11; refine (worded_any _).mono ?_; rintro e w1 ⟨rfl, hq1⟩) | (go_at_call 17; refine (P.out _ (hl1.quiet hq1) (hl2.quiet hq1)).mono ?_; rintro e w2 ⟨rfl, hq2⟩) | (go_at_call 18; refine (U.out _ (hl2.quiet (hq1.trans hq2))).mono ?_; rintro e w3 ⟨a3, c3, rfl, hb3⟩))
        have hB : Below w.heap.size w w3 := (hq1.trans hq2).below.trans (hb3.mono ((hq1.trans hq2).below (B := w.heap.size)).size)
        go_loopw [8] (fun i wr => i = .int .i64 0 ∧ Below w.heap.size w wr) (fun _ _ => 0)
        case atStart => exact ⟨rfl, hB⟩
        case round =>
          obtain ⟨rfl, hb⟩ := hrel
          go_wp2
          go_ret
          exact ⟨rfl, hb⟩
      · have U := Lib.hid (fun W h => unpack_row (packI vs ds).1 (.slice a2 n2 c2) ds vs n1 W hU h hu HN.out (by omega))
        rcases id hl1 with ⟨h1, _⟩ | ⟨b1, o1, c1', hs1, _, _, hc1⟩
        · exact absurd (by rw [← HN.out, h1]; rfl) h0
        · obtain ⟨rfl, rfl⟩ : a1 = some ⟨b1, o1, none⟩ ∧ c1 = c1' := by simpa [HN.out] using hs1
          have HC1 := Lib.hid hc1
          have hbl : b1 < w.heap.size := World.block_lt_of_cell? w _ (hc1 0 (by rw [HN.out]; omega))
          clear hc1 hs1 hu
          go_enter Try.func6, Try.ntmps6
          go_wp2_with (first | (go_at_call 11; refine (worded_any _).mono ?_; rintro e w1 ⟨rfl, hq1⟩) | (go_at_call 17; refine (P.out _ (hl1.quiet hq1) (hl2.quiet hq1)).mono ?_; rintro e w2 ⟨rfl, hq2⟩) | (go_at_call 18; refine (U.out _ (hl2.quiet (hq1.trans hq2))).mono ?_; rintro e w3 ⟨b3, o3, c3, rfl, hc3, _, hb3⟩))
          have hQ := hq1.trans hq2
          have hB : Below w.heap.size w w3 := hQ.below.trans (hb3.mono (hQ.below (B := w.heap.size)).size)
          have HC3 := Lib.hid hc3
          clear hc3 hb3 hQ hq1 hq2
          go_loopw [8] (fun i wr => ∃ k : Nat, k ≤ n1 ∧ i = .int .i64 k ∧ Quiet w3 wr) (fun i _ => n1 - (intOf i).toNat)
          case atStart => exact ⟨0, Nat.zero_le _, rfl, Quiet.refl _⟩
          case round =>
            obtain ⟨k, hk, rfl, hq⟩ := hrel
            by_cases hlt : k < n1
            · have e1 := (hq.cell ⟨b3, o3 + k, none⟩).trans (HC3.out k hlt)
              have e2 := ((hq.cell ⟨b1, o1 + k, none⟩).trans (hB.cell (p := ⟨b1, o1 + k, none⟩) hbl)).trans (HC1.out k (by rw [HN.out]; exact hlt))
              have hlt' : (k : Int) < (n1 : Int) := by omega
              have hge' : (0 : Int) ≤ (k : Int) := by omega
              generalize vs.getD k 0 = V at *
              have hne : (V != V) = false := by simp
              go_wp2
              go_quiet (fail)
              go_wp2
              go_roundw
              case rel => exact ⟨k + 1, by omega, by go_num, hq.trans Quiet.drew⟩
              case measure => simp [intOf]; omega
            · go_wp2
              go_ret
              exact ⟨rfl, hB.trans hq.below⟩
theorem room_law (a1 : Option Addr) (n1 c1 : Nat) (z1 : List Int) (a2 : Option Addr) (n2 c2 : Nat) (z2 : List Int) (w : World) (h1 : IsRow .u64 w a1 n1 c1 z1) (h2 : IsRow .i64 w a2 n2 c2 z2) :
    Calls Try.prog 6 #[.slice a1 n1 c1, .slice a2 n2 c2] w fun e w' => e = .returned (.bool true) ∧ Below w.heap.size w w' :=
  room_walk a1 a2 n1 c1 n2 c2 (z1.take n1) (z2.take n2) w h1.lst.1 h2.lst.1 (fun v hv => wf_U64 (h1.lst.2.1 v hv)) h1.lst.2.2.2 h1.lst.2.2.1
end Go.Proofs.Ytaghcogooggdpaa
