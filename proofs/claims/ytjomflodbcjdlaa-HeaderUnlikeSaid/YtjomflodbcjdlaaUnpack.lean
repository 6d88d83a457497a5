/- What word.Unpack returns, for all lists of widths: new memory that holds the numbers, or none. No condition. -/
import Derived.Test.YtjomflodbcjdlaaWord
import Derived.Test.YtjomflodbcjdlaaRow
import Derived.Maps.AppendAt
namespace Go.Proofs.Ytjomflodbcjdlaa
open Go.RowKit

/-- the numbers, if every width finds its field -/
def unpackL : List Int → Int → Int → Option (List Int)
  | [], _, _ => some []
  | d :: ds, x, a => if fldB a d then (unpackL ds x (a + d)).map (getI x a d :: ·) else none
theorem unpackL_step (ds : List Int) (k : Nat) (x a : Int) (h : k < ds.length) :
    unpackL (ds.drop k) x a = if fldB a (ds.getD k 0) then (unpackL (ds.drop (k + 1)) x (a + ds.getD k 0)).map (getI x a (ds.getD k 0) :: ·) else none := by
  rw [List.drop_eq_getElem_cons h, unpackL]
  simp [List.getD_eq_getElem?_getD, h]
theorem unpack_snoc (o : Option (List Int)) (acc : List Int) (g : Int) : ((o.map (g :: ·)).map (acc ++ ·)) = o.map ((acc ++ [g]) ++ ·) := by
  cases o <;> simp
theorem Quiet.ownsRow {w w' : World} {base : Nat} {e : TypeId} {size : Nat} {v : Value} {n : Nat} {xs : List Value} (hq : Quiet w w') (h : w.ownsRow base e size v n xs) : w'.ownsRow base e size v n xs := by
  obtain ⟨n, rfl⟩ := hq
  exact h
theorem getI_wf (x a d : Int) (hx : U64 x) (_h : fldB a d = true) : U64 (getI x a d) := by
  obtain ⟨hx0, hx1⟩ := hx
  refine U64.nat _ (Nat.lt_of_le_of_lt (Nat.mod_le _ _) ?_)
  rw [Nat.shiftRight_eq_div_pow]
  exact Nat.lt_of_le_of_lt (Nat.div_le_self _ _) (by omega)
theorem info_u64 : (Try.prog.info? 24).map (fun i => (i.zero, i.size, i.bytes)) = some (some (.int .u64 0), 1, 8) := by kernel_rfl
/-- What becomes of a call that hands back a slice of numbers of its own and an error's number: a list where there is one, else nil. -/
def UnpackPost (r : Option (List Int)) (w : World) (e : Ending) (w' : World) : Prop :=
  ∃ v, e = .returned (.tuple #[v, .int .i64 (if r.isSome then 0 else 1)]) ∧ Lst .u64 w' v (r.getD []) ∧ Below w.heap.size w w'
theorem lst_of_own {w : World} {base : Nat} {e : TypeId} {v : Value} {n : Nat} {zs : List Int} (h : w.ownsRow base e 1 v n (zs.map (Value.int .u64))) : Lst .u64 w v zs := by
  have hn : zs.length = n := by have := h.1; simpa using this
  rcases h.2 with ⟨h1, h2⟩ | ⟨g, cap, cur, h1, _, _, h4, h5, _⟩
  · exact .inl ⟨List.eq_nil_of_length_eq_zero (by omega), none, 0, h1⟩
  · rcases Nat.eq_zero_or_pos n with h0 | h0
    · exact .inl ⟨List.eq_nil_of_length_eq_zero (by omega), _, cap, by rw [h1, h0]⟩
    · refine .inr ⟨g, 0, cap, by rw [hn]; exact h1, by omega, by omega, fun i hi => ?_⟩
      subst h1
      have := h.cellAt i (by omega)
      rw [Nat.zero_add, this]
      simp [List.getD_eq_getElem?_getD, hi]

set_option maxHeartbeats 1000000 in
theorem unpack_rows (x : Int) (b1 o1 c1 n : Nat) (ds : List Int) (w : World) (hx : U64 x) (hn1 : Hid (ds.length = n)) (hp : 0 < n) (hm : n ≤ maxLen)
    (hc1 : Hid (∀ i, i < n → w.cell? ⟨b1, o1 + i, none⟩ = some (.int .i64 (ds.getD i 0)))) (hlt1 : b1 < w.heap.size) :
    Calls Try.prog 33 #[.int .u64 x, .slice (some ⟨b1, o1, none⟩) n c1] w (UnpackPost (unpackL ds x 0) w) := by
  unfold maxLen at hm
  obtain ⟨i0, hi, hz0, hz1, hz2⟩ := info_parts info_u64
  go_enter Try.func33, Try.ntmps33
  go_wp2
  go_loopw [6, 7, 14] (fun v a i wr => ∃ (k : Nat) (acc : List Int) (B : Int), k ≤ n ∧ i = .int .i64 k ∧ a = .int .i64 B ∧ 0 ≤ B ∧ (k : Int) ≤ B ∧ B ≤ 64 ∧ Hid (acc.length = k) ∧ Hid (unpackL ds x 0 = (unpackL (ds.drop k) x B).map (acc ++ ·)) ∧
      wr.ownsRow w.heap.size 24 1 v k (acc.map (Value.int .u64)) ∧ Below w.heap.size w wr)
    (fun _ _ i _ => n - (intOf i).toNat)
  case atStart => exact ⟨0, [], 0, Nat.zero_le _, rfl, rfl, by omega, by omega, by omega, rfl, by simp [Hid], World.ownsRow_nil _ _ _ _, Below.refl _ _⟩
  case round =>
    obtain ⟨k, acc, B, hk, rfl, rfl, hB0, hkB, hB1, hacc, hr, hown, hb⟩ := hrel
    by_cases hlt : k < n
    · have e1 := (hb.cell (p := ⟨b1, o1 + k, none⟩) hlt1).trans (hc1.out k hlt)
      have hst := unpackL_step ds k x B (by rw [hn1.out]; exact hlt)
      have hrr := hr.out
      rw [hst] at hrr
      generalize ds.getD k 0 = E at *
      cases hf : fldB B E with
      | false =>
        rw [hf, if_neg (by simp)] at hrr
        have HS := Lib.hid hrr
        clear hst hr hrr
        go_wp2_with (go_at_call 31; refine (get_no _ _ _ _ hf).mono ?_; rintro e w2 ⟨rfl, hq2⟩)
        go_ret2
        exact ⟨_, by rw [HS.out]; rfl, by rw [HS.out]; exact .inl ⟨rfl, none, 0, rfl⟩, hb.trans hq2.below⟩
      | true =>
        have hf' := fldB_true hf
        rw [hf, if_pos rfl, unpack_snoc] at hrr
        have HS := Lib.hid hrr
        have P := Lib.hid (fun W => get_yes x B E W hx hf)
        have hy := getI_wf x B E hx hf
        clear hst hr hrr
        generalize getI x B E = Y at *
        have hsz := hb.size
        go_wp2_with (first | (go_at_call 31; refine (P.out _).mono ?_; rintro e w2 ⟨rfl, hq2⟩; have hown2 := hq2.ownsRow hown; have hb2 := hb.trans (hq2.below (B := w.heap.size)); have hsz2 := hb2.size) | (at_builtin; refine wpList_append_own _ rfl _ _ 71 rfl w.heap.size 24 i0 (.int .u64 0) 1 8 Try.underlying71 hi hz0 hz1 hz2 rfl (by decide) _ _ _ rfl (hown2.alloc _) ⟨w2.heap.size, 0, none⟩ 1 1 [.int .u64 Y] rfl rfl (cell_one_new _ _ _) ?c2 ?c3 ?c4 ?c5 ?_))
        case c2 => simp [Value.oneCell']
        case c3 => unfold maxLen; omega
        case c4 => omega
        case c5 => simp; omega
        intro v' w3 hown3 hgrow _
        have hb3 : Below w.heap.size w w3 := (hb2.alloc hsz2 _).grown hgrow (by simp; omega) (fun j hj => (hown2.lt j hj).1)
        have hown4 : w3.ownsRow w.heap.size 24 1 v' (k + 1) ((acc ++ [Y]).map (Value.int .u64)) := by rw [List.map_append]; exact hown3
        clear hown3 hgrow hown2 hown hb2 hb e1
        go_wp2
        go_roundw
        case rel => exact ⟨k + 1, acc ++ [Y], B + E, by omega, by go_num, rfl, by omega, by omega, by omega, by rw [Hid, List.length_append, hacc.out]; rfl, HS, hown4, hb3⟩
        case measure => simp [intOf]; omega
    · go_wp2
      go_ret2
      have hacc' : unpackL ds x 0 = some acc := by rw [hr.out, List.drop_eq_nil_of_le (by rw [hn1.out]; omega), unpackL]; simp
      exact ⟨_, by rw [hacc']; rfl, by rw [hacc']; exact lst_of_own hown, hb⟩

set_option maxHeartbeats 400000 in
theorem unpack_none (x : Int) (a1 : Option Addr) (c1 : Nat) (w : World) :
    Calls Try.prog 33 #[.int .u64 x, .slice a1 0 c1] w (UnpackPost (some []) w) := by
  go_enter Try.func33, Try.ntmps33
  go_wp2
  go_loopw [6, 14] (fun v i wr => v = .slice none 0 0 ∧ i = .int .i64 0 ∧ Below w.heap.size w wr) (fun _ _ _ => 0)
  case atStart => exact ⟨rfl, rfl, Below.refl _ _⟩
  case round =>
    obtain ⟨rfl, rfl, hq⟩ := hrel
    go_wp2
    go_ret2
    exact ⟨_, rfl, .inl ⟨rfl, none, 0, rfl⟩, hq⟩

theorem unpack_any (x : Int) (v : Value) (ds : List Int) (w : World) (hx : U64 x) (h : Lst .i64 w v ds) :
    Calls Try.prog 33 #[.int .u64 x, v] w (UnpackPost (unpackL ds x 0) w) := by
  rcases h with ⟨rfl, a1, c1, rfl⟩ | ⟨b1, o1, c1, rfl, hp1, hm1, hc1⟩
  · exact unpack_none x a1 c1 w
  · exact unpack_rows x b1 o1 c1 ds.length ds w hx rfl hp1 hm1 hc1 (World.block_lt_of_cell? w _ (hc1 0 hp1))
/-- .. where every width finds its field, and there is one. -/
theorem unpack_row (x : Int) (v : Value) (ds zs : List Int) (n : Nat) (w : World) (hx : U64 x) (h : Lst .i64 w v ds) (hu : unpackL ds x 0 = some zs) (hn : zs.length = n) (h0 : 0 < n) :
    Calls Try.prog 33 #[.int .u64 x, v] w fun e w' => ∃ b o c, e = .returned (.tuple #[.slice (some ⟨b, o, none⟩) n c, .int .i64 0]) ∧ (∀ i, i < n → w'.cell? ⟨b, o + i, none⟩ = some (.int .u64 (zs.getD i 0))) ∧ n ≤ maxLen ∧ Below w.heap.size w w' := by
  subst hn
  refine (unpack_any x v ds w hx h).mono ?_
  rintro e w' ⟨v2, he, hl, hb⟩
  rw [hu] at he hl
  rcases hl with ⟨h1, _⟩ | ⟨b, o, c, h1, _, h3, h4⟩
  · rw [show (some zs).getD [] = zs from rfl] at h1
    rw [h1] at h0
    exact absurd h0 (by simp)
  · exact ⟨b, o, c, by rw [he, h1]; rfl, h4, h3, hb⟩
theorem unpack_empty (x : Int) (v : Value) (ds : List Int) (w : World) (hx : U64 x) (h : Lst .i64 w v ds) (hu : unpackL ds x 0 = some []) :
    Calls Try.prog 33 #[.int .u64 x, v] w fun e w' => ∃ a c, e = .returned (.tuple #[.slice a 0 c, .int .i64 0]) ∧ Below w.heap.size w w' := by
  refine (unpack_any x v ds w hx h).mono ?_
  rintro e w' ⟨v2, he, hl, hb⟩
  rw [hu] at he hl
  rcases hl with ⟨_, a, c, h1⟩ | ⟨b, o, c, h1, h2, _⟩
  · exact ⟨a, c, by rw [he, h1]; rfl, hb⟩
  · exact absurd h2 (by simp)
end Go.Proofs.Ytjomflodbcjdlaa
