/- What mask.With and Without return: new lists. No condition but that the lists are short and the place fits. -/
import Derived.Test.YtalhlbedgkhijaaDoorCopied
import Derived.Deep.RegionWith
namespace Go.Proofs.YtalhlbedgkhijaaDoor
open Go.RowKit
set_option linter.unusedVariables false
def withL (l : List Int) (at' : Nat) : List Int := (padL l (if l.length < at' / 64 + 1 then at' / 64 + 1 else l.length)).set (at' / 64) (bits .or .u64 (l.getD (at' / 64) 0) (mbitI at'))
theorem withL_len (l : List Int) (at' : Nat) : (withL l at').length = if l.length < at' / 64 + 1 then at' / 64 + 1 else l.length := by
  unfold withL
  rw [List.length_set, padL_len]
  split <;> omega
def NewRow2 (w0 : World) (L : List Int) (e : Ending) (w' : World) : Prop :=
  ∃ g, e = .returned (.tuple #[.slice (some ⟨g, 0, none⟩) L.length L.length, .int .i64 0]) ∧ Blk w' g (L.map (Value.int .u64)).toArray 33 ∧ w0.heap.size ≤ g ∧ Below w0.heap.size w0 w'
theorem blk_word {w : World} {g : Nat} {L : List Int} (h : Blk w g (L.map (Value.int .u64)).toArray 33) (i : Nat) (hi : i < L.length) : w.cell? ⟨g, i, none⟩ = some (.int .u64 (L.getD i 0)) := by
  refine h.val i ?_
  simp [List.getD_eq_getElem?_getD, hi]
theorem blk_set {w : World} {g : Nat} {L : List Int} (h : Blk w g (L.map (Value.int .u64)).toArray 33) (i : Nat) (v : Int) : Blk (w.setCell ⟨g, i, none⟩ (.int .u64 v)) g ((L.set i v).map (Value.int .u64)).toArray 33 := by
  have := h.set i (.int .u64 v)
  rw [List.map_set]
  simpa using this
theorem blk_lst {w : World} {g : Nat} {L : List Int} (h : Blk w g (L.map (Value.int .u64)).toArray 33) (hm : L.length ≤ maxLen) : Lst .u64 w (.slice (some ⟨g, 0, none⟩) L.length L.length) L := by
  rcases Nat.eq_zero_or_pos L.length with h0 | h0
  · exact .inl ⟨List.eq_nil_of_length_eq_zero h0, _, _, by rw [h0]⟩
  · exact .inr ⟨g, 0, _, rfl, h0, hm, fun i hi => by rw [Nat.zero_add]; exact blk_word h i hi⟩
set_option maxRecDepth 100000 in
set_option maxHeartbeats 1000000 in
theorem with_any (v : Value) (l : List Int) (at' : Nat) (w : World) (h : Lst .u64 w v l) (ha : at' < 65536) (hl : l.length ≤ 1024) :
    Calls Tryd.prog 24 #[v, .int .i64 at'] w (NewRow2 w (withL l at')) := by
  have C := Lib.hid (fun W (hq : Quiet w W) => copied_any v l (at' / 64 + 1) W (h.quiet hq) (by omega) (by omega))
  have F := Lib.hid (fun W => fits_yes at' W ha)
  have B := Lib.hid (fun W => mbit_any at' W (by omega))
  have h0 : (0 : Int) ≤ (at' : Int) := by omega
  have h1 : (at' : Int) < 100000 := by omega
  have HL := Lib.hid (withL_len l at')
  have hp : at' / 64 < (padL l (if l.length < at' / 64 + 1 then at' / 64 + 1 else l.length)).length := by rw [padL_len] <;> split <;> omega
  have hg := padL_get l (if l.length < at' / 64 + 1 then at' / 64 + 1 else l.length) (at' / 64)
  have hW : withL l at' = (padL l (if l.length < at' / 64 + 1 then at' / 64 + 1 else l.length)).set (at' / 64) (bits .or .u64 (l.getD (at' / 64) 0) (mbitI at')) := rfl
  generalize padL l (if l.length < at' / 64 + 1 then at' / 64 + 1 else l.length) = P at *
  have hlen : P.length ≤ 1024 := by
    have := HL.out
    rw [hW, List.length_set] at this
    rw [this]; split <;> omega
  generalize l.getD (at' / 64) 0 = z at *
  generalize mbitI at' = y at *
  generalize hq : at' / 64 = q at *
  have hqi : (at' : Int) / 64 = (q : Int) := by omega
  have hq1 : (q : Int) < 2000 := by omega
  have hq0 : (0 : Int) ≤ (q : Int) := by omega
  have Hg := Lib.hid hg
  have HW := Lib.hid hW
  have Hp := Lib.hid hp
  clear hg hW hp h HL ha hq h1
  go_enter Tryd.func24, Tryd.ntmps24
  go_wp2_with fail
  refine (F.out _).mono ?_
  rintro e w1 ⟨rfl, hQ1⟩
  go_wp2_with fail
  rw [show (q : Int) + 1 = ((q + 1 : Nat) : Int) from rfl]
  refine (C.out _ hQ1).mono ?_
  rintro e w2 ⟨g, rfl, hB2, hgl, hb2⟩
  have hc := blk_word hB2 _ Hp.out
  rw [Hg.out] at hc
  have hf := hB2.frozen q
  have hp0 : (0 : Int) ≤ (q : Int) := by omega
  have hp1 : (q : Int) < (P.length : Int) := by have := Hp.out; omega
  have hr : IntKind.i64.wrap (q : Int) = (q : Int) := IntWalk.i64_in _ (by omega)
  have hsz := hQ1.below (B := w.heap.size)
  go_wp2_with fail
  go_region_with (go_at_call 43; refine (B.out _).mono ?_; rintro e w3 ⟨rfl, n3, rfl⟩)
  all_goals
    go_wp2
    go_ret2
    rw [HW.out]
    have hB := hsz.trans (hb2.mono hsz.size)
    have hgw : w.heap.size ≤ g := Nat.le_trans hsz.size hgl
    refine ⟨g, by rw [List.length_set]; rfl, ?_, hgw, ?_⟩
    · repeat (first | exact blk_set hB2 _ _ | exact blk_set (Blk.drewN hB2 _) _ _ | exact blk_set (Blk.drew hB2) _ _ | refine Blk.drew ?_ | refine Blk.drewN ?_ _)
    · repeat (first | exact hB | refine Below.setCell ?_ hgw _ | refine Below.drew ?_ | refine below_drewN ?_ _)
end Go.Proofs.YtalhlbedgkhijaaDoor
