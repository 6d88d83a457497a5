/- The document's own arena: what its Do returns and leaves. Condition: its blocks lie there. -/
import Derived.Test.YtedccpconldkoaaSerm
import Derived.Deep.RegionLaw
import Derived.Deep.AppendLies
namespace Go.Proofs.Ytedccpconldkoaa
open Go.RowKit
set_option linter.unusedVariables false

def RefP (w : World) (q : Nat) (who : Int) (g : Bool) : Prop := Blk w q #[.int .i64 who, .bool g] 42
structure RefA (w : World) (B M d : Nat) (cs : List Int) (lv : Value) (xs : List Value) (m : Nat) (f : Int) : Prop where
  own : Blk w M #[.slice (some ⟨d, 0, none⟩) cs.length cs.length, lv, .int .i64 f] 33
  row : Blk w d (cs.map (Value.int .u64)).toArray 43
  log : w.ownsRow B 69 7 lv m xs
  md : M ≠ d
  lM : lv.ownBlock ≠ some M
  ld : lv.ownBlock ≠ some d
theorem RefA.cell {w : World} {B M d : Nat} {cs : List Int} {lv : Value} {xs : List Value} {m : Nat} {f : Int} (h : RefA w B M d cs lv xs m f) (i : Nat) (hi : i < cs.length) : w.cell? ⟨d, i, none⟩ = some (.int .u64 (cs.getD i 0)) := by
  have := Blk.cell (cs := (cs.map (Value.int .u64)).toArray) (t := 43) h.row (i := i)
  rw [this]
  simp [List.getD_eq_getElem?_getD, hi]

set_option maxHeartbeats 1000000 in
theorem do_fault (B M d q : Nat) (cs : List Int) (lv : Value) (xs : List Value) (m : Nat) (f : Int) (g : Bool) (who k at' want put : Int) (w : World) (hA : RefA w B M d cs lv xs m f) (hP : RefP w q who g) (hqM : q ≠ M) (hqd : q ≠ d) (hql : lv.ownBlock ≠ some q) (hf0 : 0 ≤ f) (hf1 : f < 1000000) (hg : g = false ∨ insB cs.length at' = false) :
    Calls Try.prog 19 #[.pointer (some ⟨M, 0, none⟩), .pointer (some ⟨q, 0, none⟩), .int .i64 k, .int .i64 at', .int .u64 want, .int .u64 put] w fun e w' =>
      e = .returned (.int .u64 0) ∧ RefA w' B M d cs lv xs m (f + 1) ∧ RefP w' q who false ∧ Touch (fun b => b = M ∨ b = q) w w' := by
  have c0 : w.cell? ⟨M, 0, none⟩ = some (.slice (some ⟨d, 0, none⟩) cs.length cs.length) := hA.own.val 0 rfl
  have c2 : w.cell? ⟨M, 2, none⟩ = some (.int .i64 f) := hA.own.val 2 rfl
  have p1 : w.cell? ⟨q, 1, none⟩ = some (.bool g) := hP.val 1 rfl
  have fp := hP.frozen 1
  have fM := hA.own.frozen 2
  have hMq : M ≠ q := Ne.symm hqM
  have H : Hid (RefA ((w.setCell ⟨q, 1, none⟩ (.bool false)).setCell ⟨M, 2, none⟩ (.int .i64 (f + 1))) B M d cs lv xs m (f + 1) ∧ RefP ((w.setCell ⟨q, 1, none⟩ (.bool false)).setCell ⟨M, 2, none⟩ (.int .i64 (f + 1))) q who false ∧ Touch (fun b => b = M ∨ b = q) w ((w.setCell ⟨q, 1, none⟩ (.bool false)).setCell ⟨M, 2, none⟩ (.int .i64 (f + 1)))) :=
    ⟨⟨(hA.own.other _ _ hMq).set 2 _, (hA.row.other _ _ (Ne.symm hqd)).other _ _ (Ne.symm hA.md), own_other (own_other hA.log hql) hA.lM, hA.md, hA.lM, hA.ld⟩, (hP.set 1 (.bool false)).other _ _ hqM, ((Touch.refl _ _).setCell (.inr rfl) _).setCell (.inl rfl) _⟩
  have hcM := hA.md
  clear hA hP
  rcases hg with rfl | hi
  · go_enter Try.func19, Try.ntmps19
    go_wp2
    go_ret
    exact ⟨rfl, H.out⟩
  · have hi := of_decide_eq_false hi
    cases g with
    | false =>
      clear hi
      go_enter Try.func19, Try.ntmps19
      go_wp2
      go_ret
      exact ⟨rfl, H.out⟩
    | true =>
      by_cases h0 : 0 ≤ at'
      · have h1 : ¬ at' < (cs.length : Int) := by omega
        clear hi
        go_enter Try.func19, Try.ntmps19
        go_wp2
        go_ret
        exact ⟨rfl, H.out⟩
      · clear hi
        go_enter Try.func19, Try.ntmps19
        go_wp2
        go_ret
        exact ⟨rfl, H.out⟩
theorem RefA.alloc {w : World} {B M d : Nat} {cs : List Int} {lv : Value} {xs : List Value} {m : Nat} {f : Int} (h : RefA w B M d cs lv xs m f) (o : Obj) : RefA (w.alloc o) B M d cs lv xs m f := ⟨h.own.alloc o, h.row.alloc o, h.log.alloc o, h.md, h.lM, h.ld⟩
theorem RefA.quiet {w w' : World} {B M d : Nat} {cs : List Int} {lv : Value} {xs : List Value} {m : Nat} {f : Int} (h : RefA w B M d cs lv xs m f) (hq : Quiet w w') : RefA w' B M d cs lv xs m f := ⟨h.own.quiet hq, h.row.quiet hq, hq.ownsRow h.log, h.md, h.lM, h.ld⟩

def DoPost (B M d q : Nat) (cs : List Int) (lv : Value) (xs : List Value) (m : Nat) (f : Int) (who k want put : Int) (i : Nat) (w : World) (e : Ending) (w' : World) : Prop :=
  e = .returned (.int .u64 (cs.getD i 0)) ∧ ∃ lv', RefA w' B M d (cs.set i (leftI k (cs.getD i 0) want put)) lv' (xs ++ accV who k i want put (cs.getD i 0) (leftI k (cs.getD i 0) want put)) (m + 1) f ∧ RefP w' q who false ∧
    (∀ g, lv'.ownBlock = some g → lv.ownBlock = some g ∨ w.heap.size ≤ g) ∧ Touch (fun b => b = M ∨ b = d ∨ b = q ∨ lv.ownBlock = some b) w w'
set_option maxRecDepth 100000 in
set_option maxHeartbeats 4000000 in
theorem do_yes (B M d q : Nat) (cs : List Int) (lv : Value) (xs : List Value) (m : Nat) (f : Int) (who k want put : Int) (i : Nat) (w : World) (hA : RefA w B M d cs lv xs m f) (hP : RefP w q who true) (hqM : q ≠ M) (hqd : q ≠ d) (hql : lv.ownBlock ≠ some q) (hB : B ≤ w.heap.size) (hn1 : m < 1000000) (hk : kindB k = true) (hi : i < cs.length) :
    Calls Try.prog 19 #[.pointer (some ⟨M, 0, none⟩), .pointer (some ⟨q, 0, none⟩), .int .i64 k, .int .i64 i, .int .u64 want, .int .u64 put] w (DoPost B M d q cs lv xs m f who k want put i w) := by
  obtain ⟨i0, hi0, hz0, hz1, hz2⟩ := info_parts info_acc
  have Z := Lib.hid (And.intro hi0 (And.intro hz0 (And.intro hz1 hz2)))
  clear hi0 hz0 hz1 hz2
  have c0 : w.cell? ⟨M, 0, none⟩ = some (.slice (some ⟨d, 0, none⟩) cs.length cs.length) := hA.own.val 0 rfl
  have p1 : w.cell? ⟨q, 1, none⟩ = some (.bool true) := hP.val 1 rfl
  have fp := hP.frozen 1
  have cc := hA.cell i hi
  have fd := hA.row.frozen i
  have hMq : ¬ M = q := Ne.symm hqM
  have hdq : ¬ d = q := Ne.symm hqd
  have hn0 : (0 : Int) ≤ (i : Int) := by omega
  have hn2 : (i : Int) < (cs.length : Int) := by omega
  have L := Lib.hid (fun z W => rleft_yes k z want put W hk)
  have lM := Blk.lt hA.own
  unfold DoPost
  generalize hz : cs.getD i 0 = z at *
  have Hz := Lib.hid hz
  clear hz
  generalize hy : leftI k z want put = y at *
  have Hy := Lib.hid hy
  clear hy
  have H : Hid (RefA ((w.setCell ⟨q, 1, none⟩ (.bool false)).setCell ⟨d, i, none⟩ (.int .u64 y)) B M d (cs.set i y) lv xs m f ∧ RefP ((w.setCell ⟨q, 1, none⟩ (.bool false)).setCell ⟨d, i, none⟩ (.int .u64 y)) q who false ∧ Touch (fun b => b = M ∨ b = d ∨ b = q ∨ lv.ownBlock = some b) w ((w.setCell ⟨q, 1, none⟩ (.bool false)).setCell ⟨d, i, none⟩ (.int .u64 y))) :=
    ⟨⟨by rw [List.length_set]; exact (hA.own.other _ _ hMq).other _ _ hA.md, by have h := (hA.row.other (a := ⟨q, 1, none⟩) (v := .bool false) hdq).set i (.int .u64 y); rw [List.map_set]; simpa using h, own_other (own_other hA.log hql) hA.ld, hA.md, hA.lM, hA.ld⟩, (hP.set 1 (.bool false)).other _ _ hqd, ((Touch.refl _ _).setCell (.inr (.inr (.inl rfl))) _).setCell (.inr (.inl rfl)) _⟩
  have hlM := Lib.hid hA.lM
  have hld := Lib.hid hA.ld
  have hMd := hA.md
  have hdM : ¬ d = M := Ne.symm hA.md
  clear hA hP
  go_enter Try.func19, Try.ntmps19
  go_wp2_with fail
  refine (L.out z _).mono ?_
  rintro e w1 ⟨rfl, hw1⟩
  obtain rfl := hw1
  rw [Hy.out]
  go_wp2_with fail
  clear c0 p1 fp cc fd L
  generalize (w.setCell ⟨q, 1, none⟩ (.bool false)).setCell ⟨d, i, none⟩ (.int .u64 y) = v2 at *
  obtain ⟨hA2, hP2, hT2⟩ := H.out
  clear H
  have hsz := hT2.size
  have c1 : v2.cell? ⟨M, 1, none⟩ = some lv := hA2.own.val 1 rfl
  have f1 := hA2.own.frozen 1
  have p0 : v2.cell? ⟨q, 0, none⟩ = some (.int .i64 who) := hP2.val 0 rfl
  have lM2 := Blk.lt hA2.own
  go_region_law ((refine step_append_lies _ (by rfl) _ _ _ (by rfl) B 69 i0 _ 7 56 Try.underlying31 Z.out.1 Z.out.2.1 Z.out.2.2.1 Z.out.2.2.2 rfl (by omega) lv m xs (by rfl) (Quiet.ownsRow ⟨1, rfl⟩ (hA2.log.alloc _)) ⟨v2.heap.size, 0, none⟩ 1 1 (accV who k i want put z y) (by rfl) (by rfl) (World.news_of_block (cs := #[.int .i64 who, .int .i64 k, .int .i64 i, .int .u64 want, .int .u64 put, .int .u64 z, .int .u64 y]) (t := 69) (fr := (0, 0)) (heap_alloc_new v2 _)) (by simp [accV, Value.oneCell']) (by omega) (by unfold maxLen; omega) (by omega) (by simp; omega) (v2.heap.size + 1) (by simp) ?_; intro g cap w5 hown5 hgrow hat hlt; have k2 := (hgrow.cell_far ⟨M, 1, none⟩ (by simp; omega) (Ne.symm hlM.out)).trans (((hA2.alloc _).quiet ⟨1, rfl⟩).own.val 1 rfl); have kf := (hgrow.frozen_far ⟨M, 1, none⟩ (by simp; omega) (Ne.symm hlM.out)).trans (((hA2.alloc _).quiet ⟨1, rfl⟩).own.frozen 1)))
  all_goals
    go_wp2
    go_ret
    have hT5 := ((hT2.alloc _).drew).grown hgrow (fun k hk => .inl (.inr (.inr (.inr hk))))
    have ne (x : Nat) (hx : lv.ownBlock ≠ some x) (hlt : x < v2.heap.size) : (Value.slice (some ⟨g, 0, none⟩) (m + 1) cap).ownBlock ≠ some x := fun e => by
      have e1 : g = x := Option.some.inj e
      rcases hat with h | h
      · exact hx (by rw [h, e1])
      · omega
    have hA3 := (hA2.alloc (.cells #[.int .i64 who, .int .i64 k, .int .i64 i, .int .u64 want, .int .u64 put, .int .u64 z, .int .u64 y] 69)).quiet (w' := (v2.alloc (.cells #[.int .i64 who, .int .i64 k, .int .i64 i, .int .u64 want, .int .u64 put, .int .u64 z, .int .u64 y] 69)).drew) ⟨1, rfl⟩
    have hP3 : RefP (v2.alloc (.cells #[.int .i64 who, .int .i64 k, .int .i64 i, .int .u64 want, .int .u64 put, .int .u64 z, .int .u64 y] 69)).drew q who false := Blk.quiet (Blk.alloc hP2 _) ⟨1, rfl⟩
    have o5 := (hA3.own.of (hgrow.block M hA3.own.lt (Ne.symm hlM.out))).set 1 (.slice (some ⟨g, 0, none⟩) (m + 1) cap)
    have r5 := (hA3.row.of (hgrow.block d hA3.row.lt (Ne.symm hld.out))).other (a := ⟨M, 1, none⟩) (v := .slice (some ⟨g, 0, none⟩) (m + 1) cap) hdM
    have p5 : RefP (w5.setCell ⟨M, 1, none⟩ (.slice (some ⟨g, 0, none⟩) (m + 1) cap)) q who false := (Blk.of hP3 (hgrow.block q (Blk.lt hP3) (Ne.symm hql))).other _ _ hqM
    exact ⟨rfl, .slice (some ⟨g, 0, none⟩) (m + 1) cap, ⟨o5, r5, own_other hown5 (ne M hlM.out (Blk.lt hA2.own)), hMd, ne M hlM.out (Blk.lt hA2.own), ne d hld.out (Blk.lt hA2.row)⟩, p5, fun g' e => by
      have e1 : g = g' := Option.some.inj e
      rcases hat with h | h
      · exact .inl (by rw [h, e1])
      · exact .inr (by omega), hT5.setCell (.inl rfl) _⟩
end Go.Proofs.Ytedccpconldkoaa
