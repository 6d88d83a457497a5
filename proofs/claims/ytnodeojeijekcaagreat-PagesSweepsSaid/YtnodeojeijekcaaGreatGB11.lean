/- Texts of this seat, one behind the other: each says at its head what it holds. No condition of its own. -/
import Derived.Maps.AppendAt
import Derived.Test.YtnodeojeijekcaaGreatGB01
import Derived.Test.YtnodeojeijekcaaGreatGB10
/- What word.Pack returns, for all lists. No condition. -/
namespace Go.Proofs.YtnodeojeijekcaaGreat
open Go.RowKit

def packL : List Int → List Int → Int → Int → Int × Int
  | v :: vs, d :: ds, x, a => if fldB a d then if v ≤ maskI d then packL vs ds (putI x a d v) (a + d) else (0, 3) else (0, 1)
  | _, _, x, _ => (x, 0)
def packI (vs ds : List Int) : Int × Int := if vs.length = ds.length then packL vs ds 0 0 else (0, 1)

theorem packL_step (vs ds : List Int) (k : Nat) (x a : Int) (h1 : k < vs.length) (h2 : k < ds.length) :
    packL (vs.drop k) (ds.drop k) x a = if fldB a (ds.getD k 0) then if vs.getD k 0 ≤ maskI (ds.getD k 0) then packL (vs.drop (k + 1)) (ds.drop (k + 1)) (putI x a (ds.getD k 0) (vs.getD k 0)) (a + ds.getD k 0) else (0, 3) else (0, 1) := by
  rw [List.drop_eq_getElem_cons h1, List.drop_eq_getElem_cons h2, packL]
  simp [List.getD_eq_getElem?_getD, h1, h2]

set_option maxHeartbeats 1000000 in
theorem pack_rows (b1 o1 c1 b2 o2 c2 n : Nat) (vs ds : List Int) (w : World) (hn1 : Hid (vs.length = n)) (hn2 : Hid (ds.length = n)) (hp : 0 < n) (hm : n ≤ maxLen)
    (hc1 : Hid (∀ i, i < n → w.cell? ⟨b1, o1 + i, none⟩ = some (.int .u64 (vs.getD i 0)))) (hc2 : Hid (∀ i, i < n → w.cell? ⟨b2, o2 + i, none⟩ = some (.int .i64 (ds.getD i 0))))
    (hu : Hid (∀ i, i < n → U64 (vs.getD i 0))) :
    Calls Tryz.prog 94 #[.slice (some ⟨b1, o1, none⟩) n c1, .slice (some ⟨b2, o2, none⟩) n c2] w fun e w' => e = .returned (.tuple #[.int .u64 (packL vs ds 0 0).1, .int .i64 (packL vs ds 0 0).2]) ∧ Quiet w w' := by
  unfold maxLen at hm
  have hne : ((n : Int) != (n : Int)) = false := by simp
  go_enter Tryz.func94, Tryz.ntmps94
  go_wp2
  go_loopw [6, 7, 19] (fun x a i wr => ∃ (k : Nat) (X B : Int), k ≤ n ∧ i = .int .i64 k ∧ x = .int .u64 X ∧ a = .int .i64 B ∧ U64 X ∧ 0 ≤ B ∧ B ≤ 64 ∧ Hid (packL vs ds 0 0 = packL (vs.drop k) (ds.drop k) X B) ∧ Quiet w wr)
    (fun _ _ i _ => n - (intOf i).toNat)
  case atStart => exact ⟨0, 0, 0, Nat.zero_le _, rfl, rfl, rfl, ⟨by decide, by decide⟩, by omega, by omega, rfl, Quiet.refl _⟩
  case round =>
    obtain ⟨k, X, B, hk, rfl, rfl, rfl, hX, hB0, hB1, hr, hq⟩ := hrel
    by_cases hlt : k < n
    · have e1 := (hq.cell _).trans (hc1.out k hlt)
      have e2 := (hq.cell _).trans (hc2.out k hlt)
      have hV := hu.out k hlt
      have hst := packL_step vs ds k X B (by rw [hn1.out]; exact hlt) (by rw [hn2.out]; exact hlt)
      rw [← hr.out] at hst
      generalize vs.getD k 0 = V at *
      generalize ds.getD k 0 = E at *
      cases hf : fldB B E with
      | false =>
        rw [hf, if_neg (by simp)] at hst
        have HS := Lib.hid hst
        clear hst hr
        go_wp2_with (go_at_call 101; refine (put_no _ _ _ _ _ hf).mono ?_; rintro e w2 ⟨rfl, hq2⟩)
        go_ret2
        exact ⟨by rw [HS.out]; rfl, hq.trans hq2⟩
      | true =>
        have hf' := fldB_true hf
        rw [hf, if_pos rfl] at hst
        by_cases hmm : V ≤ maskI E
        · rw [if_pos hmm] at hst
          have HS := Lib.hid hst
          have hy := putI_U64 X B E V hX hV.1 hf hmm
          have P := Lib.hid (fun W => put_yes X B E V W hX hV.1 hf hmm)
          clear hst hr hmm
          generalize putI X B E V = Y at *
          go_wp2_with (go_at_call 101; refine (P.out _).mono ?_; rintro e w2 ⟨rfl, hq2⟩; have e3 := (hq2.cell _).trans e2)
          go_roundw
          case rel => exact ⟨k + 1, Y, B + E, by omega, by go_num, rfl, rfl, hy, by omega, by omega, HS, hq.trans hq2⟩
          case measure => simp [intOf]; omega
        · rw [if_neg hmm] at hst
          have HS := Lib.hid hst
          have hmm' : maskI E < V := by omega
          clear hst hr hmm
          go_wp2_with (go_at_call 101; refine (put_big _ _ _ _ _ hf hmm').mono ?_; rintro e w2 ⟨rfl, hq2⟩)
          go_ret2
          exact ⟨by rw [HS.out]; rfl, hq.trans hq2⟩
    · go_wp2
      go_ret2
      refine ⟨?_, hq⟩
      rw [hr.out, List.drop_eq_nil_of_le (by rw [hn1.out]; omega), packL]
      · rfl
      · simp

set_option maxHeartbeats 400000 in
theorem pack_none (a1 a2 : Option Addr) (c1 c2 : Nat) (w : World) :
    Calls Tryz.prog 94 #[.slice a1 0 c1, .slice a2 0 c2] w fun e w' => e = .returned (.tuple #[.int .u64 0, .int .i64 0]) ∧ Quiet w w' := by
  go_enter Tryz.func94, Tryz.ntmps94
  go_wp2
  go_loopw [6, 19] (fun x i wr => x = .int .u64 0 ∧ i = .int .i64 0 ∧ Quiet w wr) (fun _ _ _ => 0)
  case atStart => exact ⟨rfl, rfl, Quiet.refl _⟩
  case round =>
    obtain ⟨rfl, rfl, hq⟩ := hrel
    go_wp2
    go_ret2
    exact ⟨rfl, hq⟩

set_option maxHeartbeats 400000 in
theorem pack_odd (a1 a2 : Option Addr) (n1 n2 c1 c2 : Nat) (w : World) (h : ((n1 : Int) != (n2 : Int)) = true) :
    Calls Tryz.prog 94 #[.slice a1 n1 c1, .slice a2 n2 c2] w fun e w' => e = .returned (.tuple #[.int .u64 0, .int .i64 1]) ∧ Quiet w w' := by
  go_enter Tryz.func94, Tryz.ntmps94
  go_wp2
  go_ret2
  exact ⟨rfl, Quiet.refl _⟩

theorem Lst.form {k : IntKind} {w : World} {v : Value} {zs : List Int} (h : Lst k w v zs) : ∃ a c, v = .slice a zs.length c := by
  rcases h with ⟨rfl, a, c, rfl⟩ | ⟨b, o, c, rfl, _⟩
  · exact ⟨a, c, rfl⟩
  · exact ⟨_, c, rfl⟩

theorem pack_any (v1 v2 : Value) (vs ds : List Int) (w : World) (h1 : Lst .u64 w v1 vs) (h2 : Lst .i64 w v2 ds) (hu : ∀ x ∈ vs, U64 x) :
    Calls Tryz.prog 94 #[v1, v2] w fun e w' => e = .returned (.tuple #[.int .u64 (packI vs ds).1, .int .i64 (packI vs ds).2]) ∧ Quiet w w' := by
  by_cases hlen : vs.length = ds.length
  · have hp : packI vs ds = packL vs ds 0 0 := by unfold packI; rw [if_pos hlen]
    rw [hp]
    rcases h1 with ⟨rfl, a1, c1, rfl⟩ | ⟨b1, o1, c1, rfl, hp1, hm1, hc1⟩
    · rcases h2 with ⟨rfl, a2, c2, rfl⟩ | ⟨b2, o2, c2, rfl, hp2, hm2, hc2⟩
      · exact pack_none a1 a2 c1 c2 w
      · rw [← hlen] at hp2
        exact absurd hp2 (by simp)
    · rcases h2 with ⟨rfl, a2, c2, rfl⟩ | ⟨b2, o2, c2, rfl, hp2, hm2, hc2⟩
      · rw [hlen] at hp1
        exact absurd hp1 (by simp)
      · rw [← hlen] at hc2 ⊢
        refine pack_rows b1 o1 c1 b2 o2 c2 vs.length vs ds w rfl hlen.symm hp1 hm1 hc1 hc2 fun i hi => ?_
        have e : vs.getD i 0 = vs[i] := by simp [List.getD_eq_getElem?_getD, hi]
        rw [e]
        exact hu _ (List.getElem_mem hi)
  · have hp : packI vs ds = (0, 1) := by unfold packI; rw [if_neg hlen]
    rw [hp]
    obtain ⟨a1, c1, rfl⟩ := h1.form
    obtain ⟨a2, c2, rfl⟩ := h2.form
    exact pack_odd a1 a2 _ _ c1 c2 w (by rw [bne_iff_ne]; omega)
end Go.Proofs.YtnodeojeijekcaaGreat
/- What word.Unpack returns, for all lists of widths: new memory that holds the numbers, or none. No condition. -/
namespace Go.Proofs.YtnodeojeijekcaaGreat
open Go.RowKit

/-- the numbers, if every width finds its field -/
def unpackL : List Int → Int → Int → Option (List Int)
  | [], _, _ => some []
  | d :: ds, x, a => if fldB a d then (unpackL ds x (a + d)).map (getI x a d :: ·) else none
theorem unpackL_step (ds : List Int) (k : Nat) (x a : Int) (h : k < ds.length) :
    unpackL (ds.drop k) x a = if fldB a (ds.getD k 0) then (unpackL (ds.drop (k + 1)) x (a + ds.getD k 0)).map (getI x a (ds.getD k 0) :: ·) else none := by
  rw [List.drop_eq_getElem_cons h, unpackL]
  simp [List.getD_eq_getElem?_getD, h]
theorem unpack_snoc (o : Option (List Int)) (acc : List Int) (g : Int) : ((o.map (g :: ·)).map (acc ++ ·)) = o.map ((acc ++ [g]) ++ ·) := by
  cases o <;> simp
theorem getI_wf (x a d : Int) (hx : U64 x) (_h : fldB a d = true) : U64 (getI x a d) := by
  obtain ⟨hx0, hx1⟩ := hx
  refine U64.nat _ (Nat.lt_of_le_of_lt (Nat.mod_le _ _) ?_)
  rw [Nat.shiftRight_eq_div_pow]
  exact Nat.lt_of_le_of_lt (Nat.div_le_self _ _) (by omega)
/-- What becomes of a call that hands back a slice of numbers of its own and an error's number: a list where there is one, else nil. -/
def UnpackPost (r : Option (List Int)) (w : World) (e : Ending) (w' : World) : Prop :=
  ∃ v, e = .returned (.tuple #[v, .int .i64 (if r.isSome then 0 else 1)]) ∧ Lst .u64 w' v (r.getD []) ∧ Below w.heap.size w w'
set_option maxHeartbeats 1000000 in
theorem unpack_rows (x : Int) (b1 o1 c1 n : Nat) (ds : List Int) (w : World) (hx : U64 x) (hn1 : Hid (ds.length = n)) (hp : 0 < n) (hm : n ≤ maxLen)
    (hc1 : Hid (∀ i, i < n → w.cell? ⟨b1, o1 + i, none⟩ = some (.int .i64 (ds.getD i 0)))) (hlt1 : b1 < w.heap.size) :
    Calls Tryz.prog 84 #[.int .u64 x, .slice (some ⟨b1, o1, none⟩) n c1] w (UnpackPost (unpackL ds x 0) w) := by
  unfold maxLen at hm
  obtain ⟨i0, hi, hz0, hz1, hz2⟩ := info_parts info_u64
  go_enter Tryz.func84, Tryz.ntmps84
  go_wp2
  go_loopw [6, 7, 14] (fun v a i wr => ∃ (k : Nat) (acc : List Int) (B : Int), k ≤ n ∧ i = .int .i64 k ∧ a = .int .i64 B ∧ 0 ≤ B ∧ (k : Int) ≤ B ∧ B ≤ 64 ∧ Hid (acc.length = k) ∧ Hid (unpackL ds x 0 = (unpackL (ds.drop k) x B).map (acc ++ ·)) ∧
      wr.ownsRow w.heap.size 47 1 v k (acc.map (Value.int .u64)) ∧ Below w.heap.size w wr)
    (fun _ _ i _ => n - (intOf i).toNat)
  case atStart => exact ⟨0, [], 0, Nat.zero_le _, rfl, rfl, by omega, by omega, by omega, rfl, by simp [Hid], World.ownsRow_nil _ _ _ _, Below.refl _ _⟩
  case round =>
    obtain ⟨k, acc, B, hk, rfl, rfl, hB0, hkB, hB1, hacc, hr, hown, hb⟩ := hrel
    by_cases hlt : k < n
    · have e1 := (hb.cell (p := ⟨b1, o1 + k, none⟩) hlt1).trans (hc1.out k hlt)
      have hst := unpackL_step ds k x B (by rw [hn1.out]; exact hlt)
      have hrr := hr.out
      rw [hst] at hrr
      generalize ds.getD k 0 = E at *
      cases hf : fldB B E with
      | false =>
        rw [hf, if_neg (by simp)] at hrr
        have HS := Lib.hid hrr
        clear hst hr hrr
        go_wp2_with (go_at_call 93; refine (get_no _ _ _ _ hf).mono ?_; rintro e w2 ⟨rfl, hq2⟩)
        go_ret2
        exact ⟨_, by rw [HS.out]; rfl, by rw [HS.out]; exact .inl ⟨rfl, none, 0, rfl⟩, hb.trans hq2.below⟩
      | true =>
        have hf' := fldB_true hf
        rw [hf, if_pos rfl, unpack_snoc] at hrr
        have HS := Lib.hid hrr
        have P := Lib.hid (fun W => get_yes x B E W hx hf)
        have hy := getI_wf x B E hx hf
        clear hst hr hrr
        generalize getI x B E = Y at *
        have hsz := hb.size
        go_wp2_with (first | (go_at_call 93; refine (P.out _).mono ?_; rintro e w2 ⟨rfl, hq2⟩; have hown2 := hq2.ownsRow hown; have hb2 := hb.trans (hq2.below (B := w.heap.size)); have hsz2 := hb2.size) | (at_builtin; refine wpList_append_own _ rfl _ _ 46 rfl w.heap.size 47 i0 (.int .u64 0) 1 8 Tryz.underlying46 hi hz0 hz1 hz2 rfl (by decide) _ _ _ rfl (hown2.alloc _) ⟨w2.heap.size, 0, none⟩ 1 1 [.int .u64 Y] rfl rfl (cell_one_new _ _ _) ?c2 ?c3 ?c4 ?c5 ?_))
        case c2 => simp [Value.oneCell']
        case c3 => unfold maxLen; omega
        case c4 => omega
        case c5 => simp; omega
        intro v' w3 hown3 hgrow _
        have hb3 : Below w.heap.size w w3 := (hb2.alloc hsz2 _).grown hgrow (by simp; omega) (fun j hj => (hown2.lt j hj).1)
        have hown4 : w3.ownsRow w.heap.size 47 1 v' (k + 1) ((acc ++ [Y]).map (Value.int .u64)) := by rw [List.map_append]; exact hown3
        clear hown3 hgrow hown2 hown hb2 hb e1
        go_wp2
        go_roundw
        case rel => exact ⟨k + 1, acc ++ [Y], B + E, by omega, by go_num, rfl, by omega, by omega, by omega, by rw [Hid, List.length_append, hacc.out]; rfl, HS, hown4, hb3⟩
        case measure => simp [intOf]; omega
    · go_wp2
      go_ret2
      have hacc' : unpackL ds x 0 = some acc := by rw [hr.out, List.drop_eq_nil_of_le (by rw [hn1.out]; omega), unpackL]; simp
      exact ⟨_, by rw [hacc']; rfl, by rw [hacc']; exact lst_of_own hown, hb⟩

set_option maxHeartbeats 400000 in
theorem unpack_none (x : Int) (a1 : Option Addr) (c1 : Nat) (w : World) :
    Calls Tryz.prog 84 #[.int .u64 x, .slice a1 0 c1] w (UnpackPost (some []) w) := by
  go_enter Tryz.func84, Tryz.ntmps84
  go_wp2
  go_loopw [6, 14] (fun v i wr => v = .slice none 0 0 ∧ i = .int .i64 0 ∧ Below w.heap.size w wr) (fun _ _ _ => 0)
  case atStart => exact ⟨rfl, rfl, Below.refl _ _⟩
  case round =>
    obtain ⟨rfl, rfl, hq⟩ := hrel
    go_wp2
    go_ret2
    exact ⟨_, rfl, .inl ⟨rfl, none, 0, rfl⟩, hq⟩

theorem unpack_any (x : Int) (v : Value) (ds : List Int) (w : World) (hx : U64 x) (h : Lst .i64 w v ds) :
    Calls Tryz.prog 84 #[.int .u64 x, v] w (UnpackPost (unpackL ds x 0) w) := by
  rcases h with ⟨rfl, a1, c1, rfl⟩ | ⟨b1, o1, c1, rfl, hp1, hm1, hc1⟩
  · exact unpack_none x a1 c1 w
  · exact unpack_rows x b1 o1 c1 ds.length ds w hx rfl hp1 hm1 hc1 (World.block_lt_of_cell? w _ (hc1 0 hp1))
/-- .. where every width finds its field, and there is one. -/
theorem unpack_row (x : Int) (v : Value) (ds zs : List Int) (n : Nat) (w : World) (hx : U64 x) (h : Lst .i64 w v ds) (hu : unpackL ds x 0 = some zs) (hn : zs.length = n) (h0 : 0 < n) :
    Calls Tryz.prog 84 #[.int .u64 x, v] w fun e w' => ∃ b o c, e = .returned (.tuple #[.slice (some ⟨b, o, none⟩) n c, .int .i64 0]) ∧ (∀ i, i < n → w'.cell? ⟨b, o + i, none⟩ = some (.int .u64 (zs.getD i 0))) ∧ n ≤ maxLen ∧ Below w.heap.size w w' := by
  subst hn
  refine (unpack_any x v ds w hx h).mono ?_
  rintro e w' ⟨v2, he, hl, hb⟩
  rw [hu] at he hl
  rcases hl with ⟨h1, _⟩ | ⟨b, o, c, h1, _, h3, h4⟩
  · rw [show (some zs).getD [] = zs from rfl] at h1
    rw [h1] at h0
    exact absurd h0 (by simp)
  · exact ⟨b, o, c, by rw [he, h1]; rfl, h4, h3, hb⟩
theorem unpack_empty (x : Int) (v : Value) (ds : List Int) (w : World) (hx : U64 x) (h : Lst .i64 w v ds) (hu : unpackL ds x 0 = some []) :
    Calls Tryz.prog 84 #[.int .u64 x, v] w fun e w' => ∃ a c, e = .returned (.tuple #[.slice a 0 c, .int .i64 0]) ∧ Below w.heap.size w w' := by
  refine (unpack_any x v ds w hx h).mono ?_
  rintro e w' ⟨v2, he, hl, hb⟩
  rw [hu] at he hl
  rcases hl with ⟨_, a, c, h1⟩ | ⟨b, o, c, h1, h2, _⟩
  · exact ⟨a, c, by rw [he, h1]; rfl, hb⟩
  · exact absurd h2 (by simp)
end Go.Proofs.YtnodeojeijekcaaGreat
