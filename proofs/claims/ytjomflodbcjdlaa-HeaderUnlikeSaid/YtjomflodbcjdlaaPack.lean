/- What word.Pack returns, for all lists. No condition. -/
import Derived.Test.YtjomflodbcjdlaaWord
import Derived.Test.YtjomflodbcjdlaaRow
namespace Go.Proofs.Ytjomflodbcjdlaa
open Go.RowKit

def packL : List Int → List Int → Int → Int → Int × Int
  | v :: vs, d :: ds, x, a => if fldB a d then if v ≤ maskI d then packL vs ds (putI x a d v) (a + d) else (0, 3) else (0, 1)
  | _, _, x, _ => (x, 0)
def packI (vs ds : List Int) : Int × Int := if vs.length = ds.length then packL vs ds 0 0 else (0, 1)

theorem packL_step (vs ds : List Int) (k : Nat) (x a : Int) (h1 : k < vs.length) (h2 : k < ds.length) :
    packL (vs.drop k) (ds.drop k) x a = if fldB a (ds.getD k 0) then if vs.getD k 0 ≤ maskI (ds.getD k 0) then packL (vs.drop (k + 1)) (ds.drop (k + 1)) (putI x a (ds.getD k 0) (vs.getD k 0)) (a + ds.getD k 0) else (0, 3) else (0, 1) := by
  rw [List.drop_eq_getElem_cons h1, List.drop_eq_getElem_cons h2, packL]
  simp [List.getD_eq_getElem?_getD, h1, h2]

set_option maxHeartbeats 1000000 in
theorem pack_rows (b1 o1 c1 b2 o2 c2 n : Nat) (vs ds : List Int) (w : World) (hn1 : Hid (vs.length = n)) (hn2 : Hid (ds.length = n)) (hp : 0 < n) (hm : n ≤ maxLen)
    (hc1 : Hid (∀ i, i < n → w.cell? ⟨b1, o1 + i, none⟩ = some (.int .u64 (vs.getD i 0)))) (hc2 : Hid (∀ i, i < n → w.cell? ⟨b2, o2 + i, none⟩ = some (.int .i64 (ds.getD i 0))))
    (hu : Hid (∀ i, i < n → U64 (vs.getD i 0))) :
    Calls Try.prog 35 #[.slice (some ⟨b1, o1, none⟩) n c1, .slice (some ⟨b2, o2, none⟩) n c2] w fun e w' => e = .returned (.tuple #[.int .u64 (packL vs ds 0 0).1, .int .i64 (packL vs ds 0 0).2]) ∧ Quiet w w' := by
  unfold maxLen at hm
  have hne : ((n : Int) != (n : Int)) = false := by simp
  go_enter Try.func35, Try.ntmps35
  go_wp2
  go_loopw [6, 7, 19] (fun x a i wr => ∃ (k : Nat) (X B : Int), k ≤ n ∧ i = .int .i64 k ∧ x = .int .u64 X ∧ a = .int .i64 B ∧ U64 X ∧ 0 ≤ B ∧ B ≤ 64 ∧ Hid (packL vs ds 0 0 = packL (vs.drop k) (ds.drop k) X B) ∧ Quiet w wr)
    (fun _ _ i _ => n - (intOf i).toNat)
  case atStart => exact ⟨0, 0, 0, Nat.zero_le _, rfl, rfl, rfl, ⟨by decide, by decide⟩, by omega, by omega, rfl, Quiet.refl _⟩
  case round =>
    obtain ⟨k, X, B, hk, rfl, rfl, rfl, hX, hB0, hB1, hr, hq⟩ := hrel
    by_cases hlt : k < n
    · have e1 := (hq.cell _).trans (hc1.out k hlt)
      have e2 := (hq.cell _).trans (hc2.out k hlt)
      have hV := hu.out k hlt
      have hst := packL_step vs ds k X B (by rw [hn1.out]; exact hlt) (by rw [hn2.out]; exact hlt)
      rw [← hr.out] at hst
      generalize vs.getD k 0 = V at *
      generalize ds.getD k 0 = E at *
      cases hf : fldB B E with
      | false =>
        rw [hf, if_neg (by simp)] at hst
        have HS := Lib.hid hst
        clear hst hr
        go_wp2_with (go_at_call 32; refine (put_no _ _ _ _ _ hf).mono ?_; rintro e w2 ⟨rfl, hq2⟩)
        go_ret2
        exact ⟨by rw [HS.out]; rfl, hq.trans hq2⟩
      | true =>
        have hf' := fldB_true hf
        rw [hf, if_pos rfl] at hst
        by_cases hmm : V ≤ maskI E
        · rw [if_pos hmm] at hst
          have HS := Lib.hid hst
          have hy := putI_U64 X B E V hX hV.1 hf hmm
          have P := Lib.hid (fun W => put_yes X B E V W hX hV.1 hf hmm)
          clear hst hr hmm
          generalize putI X B E V = Y at *
          go_wp2_with (go_at_call 32; refine (P.out _).mono ?_; rintro e w2 ⟨rfl, hq2⟩; have e3 := (hq2.cell _).trans e2)
          go_roundw
          case rel => exact ⟨k + 1, Y, B + E, by omega, by go_num, rfl, rfl, hy, by omega, by omega, HS, hq.trans hq2⟩
          case measure => simp [intOf]; omega
        · rw [if_neg hmm] at hst
          have HS := Lib.hid hst
          have hmm' : maskI E < V := by omega
          clear hst hr hmm
          go_wp2_with (go_at_call 32; refine (put_big _ _ _ _ _ hf hmm').mono ?_; rintro e w2 ⟨rfl, hq2⟩)
          go_ret2
          exact ⟨by rw [HS.out]; rfl, hq.trans hq2⟩
    · go_wp2
      go_ret2
      refine ⟨?_, hq⟩
      rw [hr.out, List.drop_eq_nil_of_le (by rw [hn1.out]; omega), packL]
      · rfl
      · simp

set_option maxHeartbeats 400000 in
theorem pack_none (a1 a2 : Option Addr) (c1 c2 : Nat) (w : World) :
    Calls Try.prog 35 #[.slice a1 0 c1, .slice a2 0 c2] w fun e w' => e = .returned (.tuple #[.int .u64 0, .int .i64 0]) ∧ Quiet w w' := by
  go_enter Try.func35, Try.ntmps35
  go_wp2
  go_loopw [6, 19] (fun x i wr => x = .int .u64 0 ∧ i = .int .i64 0 ∧ Quiet w wr) (fun _ _ _ => 0)
  case atStart => exact ⟨rfl, rfl, Quiet.refl _⟩
  case round =>
    obtain ⟨rfl, rfl, hq⟩ := hrel
    go_wp2
    go_ret2
    exact ⟨rfl, hq⟩

set_option maxHeartbeats 400000 in
theorem pack_odd (a1 a2 : Option Addr) (n1 n2 c1 c2 : Nat) (w : World) (h : ((n1 : Int) != (n2 : Int)) = true) :
    Calls Try.prog 35 #[.slice a1 n1 c1, .slice a2 n2 c2] w fun e w' => e = .returned (.tuple #[.int .u64 0, .int .i64 1]) ∧ Quiet w w' := by
  go_enter Try.func35, Try.ntmps35
  go_wp2
  go_ret2
  exact ⟨rfl, Quiet.refl _⟩

theorem Lst.form {k : IntKind} {w : World} {v : Value} {zs : List Int} (h : Lst k w v zs) : ∃ a c, v = .slice a zs.length c := by
  rcases h with ⟨rfl, a, c, rfl⟩ | ⟨b, o, c, rfl, _⟩
  · exact ⟨a, c, rfl⟩
  · exact ⟨_, c, rfl⟩

theorem pack_any (v1 v2 : Value) (vs ds : List Int) (w : World) (h1 : Lst .u64 w v1 vs) (h2 : Lst .i64 w v2 ds) (hu : ∀ x ∈ vs, U64 x) :
    Calls Try.prog 35 #[v1, v2] w fun e w' => e = .returned (.tuple #[.int .u64 (packI vs ds).1, .int .i64 (packI vs ds).2]) ∧ Quiet w w' := by
  by_cases hlen : vs.length = ds.length
  · have hp : packI vs ds = packL vs ds 0 0 := by unfold packI; rw [if_pos hlen]
    rw [hp]
    rcases h1 with ⟨rfl, a1, c1, rfl⟩ | ⟨b1, o1, c1, rfl, hp1, hm1, hc1⟩
    · rcases h2 with ⟨rfl, a2, c2, rfl⟩ | ⟨b2, o2, c2, rfl, hp2, hm2, hc2⟩
      · exact pack_none a1 a2 c1 c2 w
      · rw [← hlen] at hp2
        exact absurd hp2 (by simp)
    · rcases h2 with ⟨rfl, a2, c2, rfl⟩ | ⟨b2, o2, c2, rfl, hp2, hm2, hc2⟩
      · rw [hlen] at hp1
        exact absurd hp1 (by simp)
      · rw [← hlen] at hc2 ⊢
        refine pack_rows b1 o1 c1 b2 o2 c2 vs.length vs ds w rfl hlen.symm hp1 hm1 hc1 hc2 fun i hi => ?_
        have e : vs.getD i 0 = vs[i] := by simp [List.getD_eq_getElem?_getD, hi]
        rw [e]
        exact hu _ (List.getElem_mem hi)
  · have hp : packI vs ds = (0, 1) := by unfold packI; rw [if_neg hlen]
    rw [hp]
    obtain ⟨a1, c1, rfl⟩ := h1.form
    obtain ⟨a2, c2, rfl⟩ := h2.form
    exact pack_odd a1 a2 _ _ c1 c2 w (by rw [bne_iff_ne]; omega)
end Go.Proofs.Ytjomflodbcjdlaa
