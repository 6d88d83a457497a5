/- What the document's Unpack returns, for all lists. No condition. -/
import Derived.Test.YtaghcogooggdpaaUnpack
import Derived.Test.YtaghcogooggdpaaRput
namespace Go.Proofs.Ytaghcogooggdpaa
open Go.RowKit
set_option linter.unusedVariables false

set_option maxHeartbeats 1000000 in
theorem runpack_rows (x : Int) (b1 o1 c1 n : Nat) (ds : List Int) (w : World) (hx : U64 x) (hn1 : Hid (ds.length = n)) (hp : 0 < n) (hm : n ≤ maxLen)
    (hc1 : Hid (∀ i, i < n → w.cell? ⟨b1, o1 + i, none⟩ = some (.int .i64 (ds.getD i 0)))) (hlt1 : b1 < w.heap.size) :
    Calls Try.prog 24 #[.int .u64 x, .slice (some ⟨b1, o1, none⟩) n c1] w (UnpackPost (unpackL ds x 0) w) := by
  unfold maxLen at hm
  obtain ⟨i0, hi, hz0, hz1, hz2⟩ := info_parts info_u64
  go_enter Try.func24, Try.ntmps24
  go_wp2
  go_loopw [6, 7, 8] (fun v a i wr => ∃ (k : Nat) (acc : List Int) (B : Int), k ≤ n ∧ i = .int .i64 k ∧ a = .int .i64 B ∧ 0 ≤ B ∧ (k : Int) ≤ B ∧ B ≤ 64 ∧ Hid (acc.length = k) ∧ Hid (unpackL ds x 0 = (unpackL (ds.drop k) x B).map (acc ++ ·)) ∧
      wr.ownsRow w.heap.size 22 1 v k (acc.map (Value.int .u64)) ∧ Below w.heap.size w wr)
    (fun _ _ i _ => n - (intOf i).toNat)
  case atStart => exact ⟨0, [], 0, Nat.zero_le _, rfl, rfl, by omega, by omega, by omega, rfl, by simp [Hid], World.ownsRow_nil _ _ _ _, Below.refl _ _⟩
  case round =>
    obtain ⟨k, acc, B, hk, rfl, rfl, hB0, hkB, hB1, hacc, hr, hown, hb⟩ := hrel
    by_cases hlt : k < n
    · have e1 := (hb.cell (p := ⟨b1, o1 + k, none⟩) hlt1).trans (hc1.out k hlt)
      have E0 := Lib.hid (hc1.out k hlt)
      have hst := unpackL_step ds k x B (by rw [hn1.out]; exact hlt)
      have hrr := hr.out
      rw [hst] at hrr
      generalize ds.getD k 0 = E at *
      cases hf : fldB B E with
      | false =>
        rw [hf, if_neg (by simp)] at hrr
        have HS := Lib.hid hrr
        clear hst hr hrr
        go_wp2_with (go_at_call 19; refine (rget_no _ _ _ _ hf).mono ?_; rintro e w2 ⟨rfl, hq2⟩)
        go_ret2
        exact ⟨_, by rw [HS.out]; rfl, by rw [HS.out]; exact .inl ⟨rfl, none, 0, rfl⟩, hb.trans hq2.below⟩
      | true =>
        have hf' := fldB_true hf
        rw [hf, if_pos rfl, unpack_snoc] at hrr
        have HS := Lib.hid hrr
        have P := Lib.hid (fun W => rget_yes x B E W hx hf)
        have hy := getI_wf x B E hx hf
        clear hst hr hrr
        generalize getI x B E = Y at *
        have hsz := hb.size
        go_wp2_with (first | (go_at_call 19; refine (P.out _).mono ?_; rintro e w2 ⟨rfl, hq2⟩; have hown2 := hq2.ownsRow hown; have hb2 := hb.trans (hq2.below (B := w.heap.size)); have hsz2 := hb2.size) | (at_builtin; refine wpList_append_own _ rfl _ _ 36 rfl w.heap.size 22 i0 (.int .u64 0) 1 8 Try.underlying36 hi hz0 hz1 hz2 rfl (by decide) _ _ _ rfl (hown2.alloc _) ⟨w2.heap.size, 0, none⟩ 1 1 [.int .u64 Y] rfl rfl (cell_one_new _ _ _) ?c2 ?c3 ?c4 ?c5 ?_))
        case c2 => simp [Value.oneCell']
        case c3 => unfold maxLen; omega
        case c4 => omega
        case c5 => simp; omega
        intro v' w3 hown3 hgrow _
        have hb3 : Below w.heap.size w w3 := (hb2.alloc hsz2 _).grown hgrow (by simp; omega) (fun j hj => (hown2.lt j hj).1)
        have hown4 : w3.ownsRow w.heap.size 22 1 v' (k + 1) ((acc ++ [Y]).map (Value.int .u64)) := by rw [List.map_append]; exact hown3
        have e9 := (hb3.cell (p := ⟨b1, o1 + k, none⟩) hlt1).trans E0.out
        clear hown3 hgrow hown2 hown hb2 hb e1
        go_wp2
        go_roundw
        case rel => exact ⟨k + 1, acc ++ [Y], B + E, by omega, by go_num, rfl, by omega, by omega, by omega, by rw [Hid, List.length_append, hacc.out]; rfl, HS, hown4, hb3⟩
        case measure => simp [intOf]; omega
    · go_wp2
      go_ret2
      have hacc' : unpackL ds x 0 = some acc := by rw [hr.out, List.drop_eq_nil_of_le (by rw [hn1.out]; omega), unpackL]; simp
      exact ⟨_, by rw [hacc']; rfl, by rw [hacc']; exact lst_of_own hown, hb⟩

set_option maxHeartbeats 400000 in
theorem runpack_none (x : Int) (a1 : Option Addr) (c1 : Nat) (w : World) :
    Calls Try.prog 24 #[.int .u64 x, .slice a1 0 c1] w (UnpackPost (some []) w) := by
  go_enter Try.func24, Try.ntmps24
  go_wp2
  go_loopw [6, 8] (fun v i wr => v = .slice none 0 0 ∧ i = .int .i64 0 ∧ Below w.heap.size w wr) (fun _ _ _ => 0)
  case atStart => exact ⟨rfl, rfl, Below.refl _ _⟩
  case round =>
    obtain ⟨rfl, rfl, hq⟩ := hrel
    go_wp2
    go_ret2
    exact ⟨_, rfl, .inl ⟨rfl, none, 0, rfl⟩, hq⟩

theorem runpack_any (x : Int) (v : Value) (ds : List Int) (w : World) (hx : U64 x) (h : Lst .i64 w v ds) :
    Calls Try.prog 24 #[.int .u64 x, v] w (UnpackPost (unpackL ds x 0) w) := by
  rcases h with ⟨rfl, a1, c1, rfl⟩ | ⟨b1, o1, c1, rfl, hp1, hm1, hc1⟩
  · exact runpack_none x a1 c1 w
  · exact runpack_rows x b1 o1 c1 ds.length ds w hx rfl hp1 hm1 hc1 (World.block_lt_of_cell? w _ (hc1 0 hp1))
end Go.Proofs.Ytaghcogooggdpaa
