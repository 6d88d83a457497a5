/- Texts of this seat, one behind the other: each says at its head what it holds. No condition of its own. -/
import Derived.Deep.RegionHeld3
import Derived.Deep.QuietTactic
import Derived.BigQuiet
import Derived.Deep.Cut
import Derived.Deep.CutBlock
import Derived.Deep.DeepCutAuto
import Derived.Laws.OwnMore
import Derived.Maps.AppendAt
import Derived.RangeFuncNested
import Derived.RangeFuncBound
import Derived.RangeFuncCalls
import Derived.RangeFuncLeaves
import Derived.RangeFuncFrom
import Derived.RangeFuncBox
import Derived.RangeFuncWrites
import Derived.Shelf.Abstract
import Derived.Shelf.RegionOpen
import Derived.WalkKit
import Derived.OwnWalkIn
import Derived.TacticsInMore
import Derived.LoopNIn
import Derived.LoopIn
import Derived.Test.YtpoddnfooaddgaaGreatDoorGObjectsBuilds01
import Derived.Test.YtpoddnfooaddgaaGreatDoorGObjectsBuilds05
import Derived.Test.YtpoddnfooaddgaaGreatDoorGObjectsBuilds12
import Derived.Test.YtpoddnfooaddgaaGreatDoorGObjectsBuilds17
import Derived.Test.YtpoddnfooaddgaaGreatDoorGObjectsBuilds18
import Derived.Test.YtpoddnfooaddgaaGreatDoorGObjectsBuilds22
/- The document's tape: what it was answered, and what it asks next. No condition but that its blocks lie there. -/
namespace Go.Proofs.YtpoddnfooaddgaaGreatDoor
open Go.RowKit
set_option linter.unusedVariables false

/-- answers, the next one, what is asked (kind, cell, want, put), does it stand? -/
structure Tp where
  H : List Int
  pos : Nat
  k : Int
  a : Int
  wn : Int
  p : Int
  st : Bool
def Tp.ask (t : Tp) (k a wn p : Int) : Int × Tp := if t.st then (0, t) else if t.pos < t.H.length then (t.H.getD t.pos 0, { t with pos := t.pos + 1 }) else (0, { t with k := k, a := a, wn := wn, p := p, st := true })
def Tp.again (t : Tp) : Tp := { t with pos := 0, st := false }
abbrev tpCells (hv : Value) (t : Tp) : Array Value := #[hv, .int .i64 t.pos, .int .i64 0, .int .i64 t.k, .int .i64 t.a, .int .u64 t.wn, .int .u64 t.p, .int .u64 0, .int .u64 0, .bool t.st]
structure TapeAt (w : World) (B x : Nat) (hv : Value) (t : Tp) : Prop where
  own : Blk w x (tpCells hv t) 61
  row : w.ownsRow B 57 1 hv t.H.length (t.H.map (Value.int .u64))
theorem own_neP {w : World} {B E size n b : Nat} {v : Value} {xs : List Value} {cs : Array Value} {t : TypeId} (h : w.ownsRow B E size v n xs) (hb : Blk w b cs t) (ht : E ≠ t) : v.ownBlock ≠ some b := by
  intro hg
  rcases h.2 with ⟨hv, _⟩ | ⟨g', cap, cur, hv, _, hh, _⟩
  · rw [hv] at hg; cases hg
  · rw [hv] at hg
    obtain rfl : g' = b := Option.some.inj hg
    unfold Blk at hb
    rw [hh] at hb
    injection hb with hb
    injection hb with _ h2
    exact ht h2
theorem own_touchP {R : Nat → Prop} {w w' : World} {base n size : Nat} {e : TypeId} {v : Value} {xs : List Value} (h : w.ownsRow base e size v n xs) (hk : Touch R w w') (hx : ∀ k, v.ownBlock = some k → ¬ R k) : w'.ownsRow base e size v n xs := by
  refine ⟨h.1, ?_⟩
  rcases h.2 with hn | ⟨g, cap, cur, h1, h2, h3, h4⟩
  · exact .inl hn
  · exact .inr ⟨g, cap, cur, h1, h2, (hk.block g (Array.getElem?_eq_some_iff.1 h3).1 (hx g (by rw [h1]; rfl))).trans h3, h4⟩
theorem TapeAt.touch {w w' : World} {B x : Nat} {hv : Value} {t : Tp} {R : Nat → Prop} (h : TapeAt w B x hv t) (hT : Touch R w w') (hx : ¬ R x) (hr : ∀ g, hv.ownBlock = some g → ¬ R g) : TapeAt w' B x hv t :=
  ⟨Blk.touch h.own hT hx, own_touchP h.row hT hr⟩
theorem TapeAt.set {w : World} {B x : Nat} {hv : Value} {t t' : Tp} (h : TapeAt w B x hv t) {w' : World} (hT : Touch (· = x) w w') (hb : Blk w' x (tpCells hv t') 61) (hH : t'.H = t.H) : TapeAt w' B x hv t' :=
  ⟨hb, by rw [hH]; exact own_touchP h.row hT (fun g e e2 => own_neP h.row h.own (by decide) (by rw [← e2]; exact e))⟩
set_option maxHeartbeats 1000000 in
theorem again_at (B x : Nat) (hv : Value) (t : Tp) (w : World) (h : TapeAt w B x hv t) :
    Calls Tryz.prog 18 #[.pointer (some ⟨x, 0, none⟩)] w fun e w' => (∃ v, e = .returned v) ∧ TapeAt w' B x hv t.again ∧ Touch (· = x) w w' := by
  have c1 := h.own.val 1 rfl
  have c9 := h.own.val 9 rfl
  have f1 := h.own.frozen 1
  have f9 := h.own.frozen 9
  have hT : Touch (· = x) w ((w.setCell ⟨x, 1, none⟩ (.int .i64 0)).setCell ⟨x, 9, none⟩ (.bool false)) := Touch.setCell (R := (· = x)) (Touch.setCell (R := (· = x)) (Touch.refl _ _) rfl _) rfl _
  have hB : Blk ((w.setCell ⟨x, 1, none⟩ (.int .i64 0)).setCell ⟨x, 9, none⟩ (.bool false)) x (tpCells hv t.again) 61 := (h.own.set 1 (.int .i64 0)).set 9 (.bool false)
  have H := Lib.hid (And.intro (h.set hT hB rfl) hT)
  clear h hT hB
  go_enter Tryz.func18, Tryz.ntmps18
  go_wp2
  go_end0
  exact ⟨⟨_, rfl⟩, H.out⟩
set_option maxHeartbeats 2000000 in
theorem ask_any (B x : Nat) (hv : Value) (t : Tp) (w : World) (h : TapeAt w B x hv t) (hm : t.H.length ≤ 1000000) (k a wn p : Int) :
    Calls Tryz.prog 86 #[.pointer (some ⟨x, 0, none⟩), .int .i64 k, .int .i64 a, .int .u64 wn, .int .u64 p] w fun e w' => e = .returned (.int .u64 (t.ask k a wn p).1) ∧ TapeAt w' B x hv (t.ask k a wn p).2 ∧ Touch (· = x) w w' := by
  obtain ⟨H, pos, k0, a0, wn0, p0, st⟩ := t
  have c0 := h.own.val 0 rfl
  have c1 := h.own.val 1 rfl
  have c9 := h.own.val 9 rfl
  have f1 := h.own.frozen 1
  have f9 := h.own.frozen 9
  cases st with
  | true =>
    have HH := Lib.hid h
    clear h
    go_enter Tryz.func86, Tryz.ntmps86
    go_wp2
    go_ret
    exact ⟨rfl, HH.out, Touch.refl _ _⟩
  | false =>
    obtain ⟨ha, hc, rfl⟩ : ∃ a c, hv = .slice a H.length c := by
      rcases h.row.2 with ⟨h1, h2⟩ | ⟨g, cap, cur, h1, _⟩
      · exact ⟨none, 0, by rw [h1]; have : H.length = 0 := h2; rw [this]⟩
      · exact ⟨_, cap, h1⟩
    by_cases hp : pos < H.length
    · have hk : Tp.ask ⟨H, pos, k0, a0, wn0, p0, false⟩ k a wn p = (H.getD pos 0, ⟨H, pos + 1, k0, a0, wn0, p0, false⟩) := by simp [Tp.ask, hp]
      rw [hk]
      obtain ⟨g, rfl, hcell⟩ : ∃ g, ha = some ⟨g, 0, none⟩ ∧ w.cell? ⟨g, pos, none⟩ = some (.int .u64 (H.getD pos 0)) := by
        rcases h.row.2 with ⟨_, h2⟩ | ⟨g, cap, cur, h1, _⟩
        · have : H.length = 0 := h2; omega
        · simp only [Value.slice.injEq] at h1
          refine ⟨g, h1.1, ?_⟩
          have hr := h.row
          rw [h1.1] at hr
          rw [hr.cellAt pos (by omega)]
          simp [List.getD_eq_getElem?_getD, hp]
      have hgx : g ≠ x := fun e => own_neP h.row h.own (by decide) (by rw [e]; rfl)
      have hT : Touch (· = x) w (w.setCell ⟨x, 1, none⟩ (.int .i64 ((pos : Int) + 1))) := Touch.setCell (R := (· = x)) (Touch.refl _ _) rfl _
      have hB : Blk (w.setCell ⟨x, 1, none⟩ (.int .i64 ((pos : Int) + 1))) x (tpCells (.slice (some ⟨g, 0, none⟩) H.length hc) ⟨H, pos + 1, k0, a0, wn0, p0, false⟩) 61 := h.own.set 1 (.int .i64 ((pos : Int) + 1))
      have HH := Lib.hid (And.intro (h.set hT hB rfl) hT)
      have h1 : (pos : Int) < (H.length : Int) := by omega
      have h2 : (0 : Int) ≤ (pos : Int) := by omega
      have h3 : (H.length : Int) ≤ 1000000 := by have := hm; simp at this; omega
      have hcell2 := (World.cell?_setCell_other w ⟨x, 1, none⟩ ⟨g, pos, none⟩ (.int .i64 ((pos : Int) + 1)) (fun e => hgx (by cases e; rfl))).trans hcell
      have HO := Lib.hid h
      clear h hT hB hm hk
      generalize H.getD pos 0 = z at *
      go_enter Tryz.func86, Tryz.ntmps86
      go_upto_region 3 with fail
      go_quiet (fail)
      have hB2 : Blk ((w.drewN nq).setCell ⟨x, 1, none⟩ (.int .i64 ((pos : Int) + 1))) x (tpCells (.slice (some ⟨g, 0, none⟩) H.length hc) ⟨H, pos + 1, k0, a0, wn0, p0, false⟩) 61 := (HO.out.own.drewN nq).set 1 (.int .i64 ((pos : Int) + 1))
      have hT2 : Touch (· = x) w ((w.drewN nq).setCell ⟨x, 1, none⟩ (.int .i64 ((pos : Int) + 1))) := Touch.setCell (R := (· = x)) ((Touch.refl _ _).drewN nq) rfl _
      have hA2 := HO.out.set hT2 hB2 rfl
      have hc2 : ((w.drewN nq).setCell ⟨x, 1, none⟩ (.int .i64 ((pos : Int) + 1))).cell? ⟨g, pos, none⟩ = some (.int .u64 z) := (World.cell?_setCell_other (w.drewN nq) ⟨x, 1, none⟩ ⟨g, pos, none⟩ (.int .i64 ((pos : Int) + 1)) (fun e => hgx (by cases e; rfl))).trans hcell
      go_upto_region 5 with fail
      generalize (w.drewN nq).setCell ⟨x, 1, none⟩ (.int .i64 ((pos : Int) + 1)) = W at *
      have d0 := hB2.val 0 rfl
      have d1 := hB2.val 1 rfl
      have HF := Lib.hid (And.intro hA2 hT2)
      have hL0 : 0 < H.length := by omega
      clear hA2 hT2 hB2
      go_quiet (fail)
      go_wp2
      go_ret
      exact ⟨rfl, HF.out.1.touch (R := fun _ => False) ((Touch.refl _ _).drewN _) (fun e => e) (fun _ _ e => e), HF.out.2.drewN _⟩
    · have hk : Tp.ask ⟨H, pos, k0, a0, wn0, p0, false⟩ k a wn p = (0, ⟨H, pos, k, a, wn, p, true⟩) := by simp [Tp.ask, hp]
      rw [hk]
      have h1 : ¬ (pos : Int) < (H.length : Int) := by omega
      have q2 := h.own.val 2 rfl
      have q3 := h.own.val 3 rfl
      have q4 := h.own.val 4 rfl
      have q5 := h.own.val 5 rfl
      have q6 := h.own.val 6 rfl
      have q7 := h.own.val 7 rfl
      have q8 := h.own.val 8 rfl
      have g2 := h.own.frozen 2
      have g3 := h.own.frozen 3
      have g4 := h.own.frozen 4
      have g5 := h.own.frozen 5
      have g6 := h.own.frozen 6
      have g7 := h.own.frozen 7
      have g8 := h.own.frozen 8
      have HH := Lib.hid h
      clear h hm hk
      go_enter Tryz.func86, Tryz.ntmps86
      go_upto_region 3 with fail
      go_quiet (fail)
      go_wp2
      have hB := ((((((((HH.out.own.drewN nq).set 2 (.int .i64 0)).set 3 (.int .i64 k)).set 4 (.int .i64 a)).set 5 (.int .u64 wn)).set 6 (.int .u64 p)).set 7 (.int .u64 0)).set 8 (.int .u64 0)).set 9 (.bool true)
      have hT := Touch.setCell (R := (· = x)) (p := ⟨x, 9, none⟩) (Touch.setCell (R := (· = x)) (p := ⟨x, 8, none⟩) (Touch.setCell (R := (· = x)) (p := ⟨x, 7, none⟩) (Touch.setCell (R := (· = x)) (p := ⟨x, 6, none⟩) (Touch.setCell (R := (· = x)) (p := ⟨x, 5, none⟩) (Touch.setCell (R := (· = x)) (p := ⟨x, 4, none⟩) (Touch.setCell (R := (· = x)) (p := ⟨x, 3, none⟩) (Touch.setCell (R := (· = x)) (p := ⟨x, 2, none⟩) ((Touch.refl (· = x) w).drewN nq) rfl (.int .i64 0)) rfl (.int .i64 k)) rfl (.int .i64 a)) rfl (.int .u64 wn)) rfl (.int .u64 p)) rfl (.int .u64 0)) rfl (.int .u64 0)) rfl (.bool true)
      go_ret
      simp only [List.setIfInBounds_toArray, List.set_cons_zero, List.set_cons_succ] at hB
      have hR := HH.out.set (t' := ⟨H, pos, k, a, wn, p, true⟩) hT hB rfl
      exact ⟨rfl, hR, hT⟩
end Go.Proofs.YtpoddnfooaddgaaGreatDoor
/- The document's tape: its accesses. No condition but that its blocks lie there. -/
namespace Go.Proofs.YtpoddnfooaddgaaGreatDoor
open Go.RowKit
set_option linter.unusedVariables false
variable {B x : Nat} {hv : Value} {t : Tp} {w : World}
set_option maxHeartbeats 400000 in
theorem tstore_any (h : TapeAt w B x hv t) (hm : t.H.length ≤ 1000000) (a v : Int) :
    Calls Tryz.prog 54 #[.pointer (some ⟨x, 0, none⟩), .int .i64 a, .int .u64 v] w fun e w' => (∃ u, e = .returned u) ∧ TapeAt w' B x hv (t.ask 2 a 0 v).2 ∧ Touch (· = x) w w' := by
  have C := Lib.hid (ask_any B x hv t w h hm 2 a 0 v)
  clear h
  generalize t.ask 2 a 0 v = r at *
  go_enter Tryz.func54, Tryz.ntmps54
  go_wp2_with fail
  refine C.out.mono ?_
  rintro e w' ⟨rfl, h1, h2⟩
  go_wp2
  go_end0
  exact ⟨⟨_, rfl⟩, h1, h2⟩
end Go.Proofs.YtpoddnfooaddgaaGreatDoor
/- The document's objects: Lies and Build. Conditions: the tape lies there; the header is one. -/
namespace Go.Proofs.YtpoddnfooaddgaaGreatDoor
open Go.RowKit
set_option linter.unusedVariables false
theorem lies_pure {P T R x c k l : Int} (h : headB c k l = true) (hr : Right P T R) :
    allowB P T R x (l + 1) = (decide (0 ≤ (placeI P T R x).1) && (if l + 1 ≤ 32 then decide ((placeI P T R x).2 + (l + 1) ≤ 64) else decide ((placeI P T R x).2 = 0) && decide ((placeI P T R x).1 + pgV (l + 1) ≤ P))) := by
  obtain ⟨_, _, _, _, h1, h2⟩ := headB_bd h
  unfold allowB
  by_cases h3 : l + 1 ≤ 32
  · obtain ⟨e1, e2⟩ := pg_small (l + 1) (by omega) h3
    rw [e1, e2, if_pos rfl, if_pos rfl, if_pos h3]
  · obtain ⟨e1, e2⟩ := pg_mid (l + 1) (by omega) (by omega)
    rw [e2, if_pos rfl, if_neg (by omega), if_neg h3]
structure LiS (w : World) (P T R bs tb z c k l : Int) (W : World) : Prop where
  mp : Blk W w.heap.size #[.int .i64 P, .int .i64 T, .int .i64 R, .int .i64 bs, .int .i64 tb, .int .i64 z] 36
  hd : Blk W (w.heap.size + 1) #[.int .i64 c, .int .i64 k, .int .i64 l] 25
  bel : Below w.heap.size w W
theorem LiS.grew {w W W' : World} {P T R bs tb z c k l : Int} (h : LiS w P T R bs tb z c k l W) (hb : Below W.heap.size W W') : LiS w P T R bs tb z c k l W' := ⟨h.mp.grew hb, h.hd.grew hb, h.bel.trans (hb.mono h.bel.size)⟩
set_option maxRecDepth 100000 in
set_option maxHeartbeats 2000000 in
theorem rlies_any (P T R x c k l : Int) (w : World) (hr : Right P T R) (hx : I64 x) (h : headB c k l = true) :
    Calls Tryz.prog 14 #[mapV P T R, .int .i64 x, .agg #[.int .i64 c, .int .i64 k, .int .i64 l]] w fun e w' => e = .returned (.bool (allowB P T R x (l + 1))) ∧ Below w.heap.size w w' := by
  have HP := Lib.hid (fun W => rheap_any P T R x W hr hx)
  have WD := Lib.hid (fun W => rwords_anyRhead c k l W)
  have hw : wordsV c k l = l + 1 := by unfold wordsV; rw [h]; rfl
  rw [hw] at WD
  have PG := Lib.hid (fun W => rpages_any (l + 1) W)
  have hS : LiS w P T R (baseI P T R) (tabI T R) (baseI P T R + 64 * P) c k l ((w.alloc (.cells #[.int .i64 P, .int .i64 T, .int .i64 R, .int .i64 (baseI P T R), .int .i64 (tabI T R), .int .i64 (baseI P T R + 64 * P)] 36)).alloc (.cells #[.int .i64 c, .int .i64 k, .int .i64 l] 25)) :=
    ⟨(Blk.new _ _ _).alloc _, Blk.new' (by simp), ((Below.refl _ _).alloc (Nat.le_refl _) _).alloc (by simp) _⟩
  rw [lies_pure h hr]
  obtain ⟨_, _, _, _, h1, h2⟩ := headB_bd h
  have hpb := place_bdO P T R x
  have hpv : 0 ≤ pgV (l + 1) ∧ pgV (l + 1) ≤ 4 := by unfold pgV; split; omega; split; omega; split; omega; omega
  have hPR := hr.1
  clear h hw hr hx
  unfold mapV at HP ⊢
  generalize baseI P T R = bs at *
  generalize tabI T R = tb at *
  generalize bs + 64 * P = z at *
  generalize (placeI P T R x).1 = pg at *
  generalize (placeI P T R x).2 = off at *
  generalize pgV (l + 1) = pv at *
  generalize pgE (l + 1) = pe at *
  generalize hn : l + 1 = n at *
  have n1 : 1 ≤ n := by omega
  have n2 : n ≤ 256 := by omega
  have n0 : (n == 0) = false := by simp; omega
  clear hn h1 h2
  obtain ⟨⟨a0, a1, a2, a3, a4, a5⟩, _⟩ := hS.mp.six
  go_enter Tryz.func14, Tryz.ntmps14
  go_wp2_with fail
  refine (HP.out _).mono ?_; rintro e w1 ⟨rfl, hb1⟩
  have hS1 := hS.grew hb1
  clear hS hb1 a0 a1 a2 a3 a4 a5
  obtain ⟨d0, d1, d2⟩ := hS1.hd.three.1
  go_wp2_with fail
  refine (WD.out _).mono ?_; rintro e w2 ⟨rfl, hb2⟩
  have hS2 := hS1.grew hb2
  clear hS1 hb2 d0 d1 d2
  by_cases h0 : 0 ≤ pg
  · have h0' : ¬ pg < 0 := by omega
    by_cases h32 : n ≤ 32
    · have HB := Lib.hid hS2.bel
      have e1 : decide (0 ≤ pg) = true := by simpa using h0
      clear hS2
      go_wp2
      go_ret
      exact ⟨by first | rfl | (rw [if_pos h32]; first | rfl | simp), HB.out⟩
    · go_wp2_with fail
      refine (PG.out _).mono ?_; rintro e w3 ⟨rfl, rfl⟩
      obtain ⟨⟨a0, a1, a2, a3, a4, a5⟩, _⟩ := hS2.mp.six
      have HB := Lib.hid hS2.bel
      have e1 : decide (0 ≤ pg) = true := by simpa using h0
      have hs : wrap64 (pg + pv) = pg + pv := IntWalk.wrap64_in _ ⟨by omega, by omega⟩
      have hs2 : IntKind.i64.wrap (pg + pv) = pg + pv := IntWalk.i64_in _ ⟨by omega, by omega⟩
      clear hS2
      by_cases ho : off = 0
      · subst ho
        go_wp2
        go_ret
        exact ⟨by first | rfl | simp | (rw [if_neg h32]; first | rfl | simp), HB.out⟩
      · have ho' : (off == 0) = false := by simpa using ho
        go_wp2
        go_ret
        exact ⟨by first | rfl | simp [ho] | (rw [if_neg h32]; simp [ho]), HB.out⟩
  · obtain rfl : pg = -1 := by omega
    have HB := Lib.hid hS2.bel
    clear hS2 h0 hpb
    by_cases h32 : n ≤ 32
    all_goals
      go_wp2
      go_ret
      exact ⟨by first | rfl | simp, HB.out⟩
/-- the tape behind j of the stores of noughts -/
def tpJ (t : Tp) (x L j : Nat) : Tp := if j ≤ t.H.length then { t with pos := j, st := false } else { t with pos := t.H.length, k := 2, a := ((x + (L - t.H.length) : Nat) : Int), wn := 0, p := 0, st := true }
theorem tpJ_next (t : Tp) (x L j : Nat) (hj : j < L) : ((tpJ t x L j).ask 2 ((x + (L - j) : Nat) : Int) 0 0).2 = tpJ t x L (j + 1) := by
  unfold tpJ
  by_cases h : j ≤ t.H.length
  · rw [if_pos h]
    unfold Tp.ask
    by_cases h2 : j < t.H.length
    · rw [if_pos (show j + 1 ≤ t.H.length by omega)]
      simp [h2]
    · have e : j = t.H.length := by omega
      subst e
      rw [if_neg (show ¬ t.H.length + 1 ≤ t.H.length by omega)]
      simp
  · rw [if_neg h, if_neg (show ¬ j + 1 ≤ t.H.length by omega)]
    unfold Tp.ask
    simp
/-- the tape behind a Build -/
def tpB (t : Tp) (x L : Nat) (h : Int) : Tp := { t with pos := t.H.length, k := 2, a := ((x + (L - t.H.length) : Nat) : Int), wn := 0, p := if t.H.length = L then h else 0, st := true }
theorem tpJ_last (t : Tp) (x L : Nat) (h : Int) (hH : t.H.length ≤ L) : ((tpJ t x L L).ask 2 (x : Int) 0 h).2 = tpB t x L h := by
  unfold tpJ tpB
  by_cases e : t.H.length = L
  · rw [if_pos (by omega), if_pos e]
    unfold Tp.ask
    simp [e]
  · rw [if_neg (by omega), if_neg e]
    unfold Tp.ask
    simp
theorem tpJ_H (t : Tp) (x L j : Nat) : (tpJ t x L j).H = t.H := by unfold tpJ; split <;> rfl
section
variable {B xa : Nat} {hv : Value} {t : Tp} {w : World}
set_option maxRecDepth 100000 in
set_option maxHeartbeats 2000000 in
theorem rbuild_any (x L : Nat) (c k : Int) (hT : TapeAt w B xa hv t) (h : headB c k (L : Int) = true) (h0 : t.pos = 0) (h1 : t.st = false) (hH : t.H.length ≤ L) (hx : x ≤ 100000) :
    Calls Tryz.prog 19 #[.pointer (some ⟨xa, 0, none⟩), .int .i64 (x : Int), .agg #[.int .i64 c, .int .i64 k, .int .i64 (L : Int)]] w fun e w' => e = .returned (.bool false) ∧ TapeAt w' B xa hv (tpB t x L (encH c k L)) ∧ Touch (· = xa) w w' := by
  obtain ⟨_, _, _, _, _, hL⟩ := headB_bd h
  have hL2 : L ≤ 255 := by omega
  have EN := Lib.hid (fun W => renc_yes c k (L : Int) W h)
  have ST := Lib.hid (fun W (j : Nat) (hj : j < L) (h : TapeAt W B xa hv (tpJ t x L j)) => by
    have := tstore_any h (by rw [tpJ_H]; omega) ((x + (L - j) : Nat) : Int) 0
    rw [tpJ_next t x L j hj, show ((x + (L - j) : Nat) : Int) = (x : Int) + ((L - j : Nat) : Int) by omega] at this
    exact this)
  have LS := Lib.hid (fun W (h : TapeAt W B xa hv (tpJ t x L L)) => by
    have := tstore_any h (by rw [tpJ_H]; omega) (x : Int) (encH c k L)
    rw [tpJ_last t x L _ hH] at this
    exact this)
  have hT0 : TapeAt w B xa hv (tpJ t x L 0) := by
    have e : tpJ t x L 0 = t := by unfold tpJ; rw [if_pos (Nat.zero_le _)]; cases t; simp_all
    rw [e]; exact hT
  have hT1 := hT0.touch (Touch.refl (fun _ => False) w |>.alloc (.cells #[.int .i64 c, .int .i64 k, .int .i64 (L : Int)] 25)) (fun e => e) (fun _ _ e => e)
  have hk1 := Blk.new w #[.int .i64 c, .int .i64 k, .int .i64 (L : Int)] 25
  have hTo : Touch (· = xa) w (w.alloc (.cells #[.int .i64 c, .int .i64 k, .int .i64 (L : Int)] 25)) := (Touch.refl _ _).alloc _
  have hxl : xa < w.heap.size := hT.own.lt
  have hBS : Hid (TapeAt w B xa hv t) := Lib.hid hT
  clear hT hT0 h h0 h1 hL
  go_enter Tryz.func19, Tryz.ntmps19
  go_upto_region 1 with fail
  generalize w.alloc (.cells #[.int .i64 c, .int .i64 k, .int .i64 (L : Int)] 25) = w1 at *
  obtain ⟨d0, d1, d2⟩ := hk1.three.1
  go_upto_region 2 with fail
  clear d0 d1 d2
  go_loopw [7] (fun s wr => ∃ j : Nat, j ≤ L ∧ s = .int .i64 ((L - j : Nat) : Int) ∧ TapeAt wr B xa hv (tpJ t x L j) ∧ Blk wr w.heap.size #[.int .i64 c, .int .i64 k, .int .i64 (L : Int)] 25 ∧ Touch (· = xa) w wr) (fun s _ => (intOf s).toNat)
  case atStart => exact ⟨0, Nat.zero_le _, by simp, hT1, hk1, hTo⟩
  case round =>
    clear hT1 hk1 hTo
    obtain ⟨j, hj, rfl, hT, hk, hTo⟩ := hrel
    by_cases hlt : j < L
    · have g1 : (1 : Int) ≤ ((L - j : Nat) : Int) := by omega
      have SJ := Lib.hid (ST.out _ j hlt hT)
      have HQ := Lib.hid (show ((L - (j + 1) : Nat) : Int) = ((L - j : Nat) : Int) - 1 by omega)
      have hq1 : ((L - j : Nat) : Int) ≤ 255 := by omega
      generalize ((L - j : Nat) : Int) = q at *
      go_wp2_with fail
      refine SJ.out.mono ?_; rintro e w2 ⟨⟨u, rfl⟩, hT2, t2⟩
      have hk2 := hk.touch t2 (fun e => by omega)
      have ht2 := hTo.trans t2
      clear hT hk hTo SJ
      go_wp2
      go_roundw
      case rel => exact ⟨j + 1, by omega, by rw [HQ.out], hT2, hk2, ht2⟩
      case measure => simp [intOf]; omega
    · obtain rfl : j = L := by omega
      have g1 : ¬ (1 : Int) ≤ ((j - j : Nat) : Int) := by omega
      obtain ⟨d0, d1, d2⟩ := hk.three.1
      go_wp2_with fail
      refine (EN.out _).mono ?_; rintro e w2 ⟨rfl, hb2⟩
      have hT2 := hT.touch (R := fun _ => False) (Touch.of hb2) (fun e => e) (fun _ _ e => e)
      have ht2 := hTo.trans (Touch.of hb2)
      clear hT hTo hb2 d0 d1 d2
      go_wp2_with fail
      refine (LS.out _ hT2).mono ?_; rintro e w3 ⟨⟨u, rfl⟩, hT3, t3⟩
      have ht3 := ht2.trans t3
      have c9 : w3.cell? ⟨xa, 9, none⟩ = some (.bool true) := hT3.own.val 9 rfl
      have HF := Lib.hid (And.intro hT3 ht3)
      clear hT2 hT3 t3 ht3
      go_wp2
      go_ret
      exact ⟨rfl, HF.out⟩
end
end Go.Proofs.YtpoddnfooaddgaaGreatDoor
/- The law's own example, its walk. Condition: sizes' table lies as the start lays it. -/
namespace Go.Proofs.YtpoddnfooaddgaaGreatDoor
open Go.RowKit
set_option linter.unusedVariables false
/-- the plan's box, what is no longer written -/
structure BoS (w : World) (W : World) : Prop where
  pl : Blk W w.heap.size #[.int .i64 1, .int .i64 1, .int .i64 1] 23
  bel : Below w.heap.size w W
theorem BoS.grew {w W W' : World} (h : BoS w W) (hb : Below W.heap.size W W') : BoS w W' := ⟨h.pl.grew hb, h.bel.trans (hb.mono h.bel.size)⟩
theorem BoS.touch {R : Nat → Prop} {w W W' : World} (h : BoS w W) (hT : Touch R W W') (hR : ∀ b, R b → w.heap.size < b) : BoS w W' :=
  ⟨h.pl.touch hT (fun e => Nat.lt_irrefl _ (hR _ e)), h.bel.trans (hT.below h.bel.size (fun b hb => Nat.le_of_lt (hR b hb)))⟩
theorem BoS.three {w W : World} (h : BoS w W) : W.cell? ⟨w.heap.size, 0, none⟩ = some (.int .i64 1) ∧ W.cell? ⟨w.heap.size, 1, none⟩ = some (.int .i64 1) ∧ W.cell? ⟨w.heap.size, 2, none⟩ = some (.int .i64 1) := h.pl.three.1
theorem nil_classes (w : World) (B : Nat) : RdRow 2 (ElC B) B w (.slice none 0 0) [] := ⟨none, 0, rfl, by simp, fun i hi => absurd hi (by simp)⟩
theorem encE_U : U64 (encE 1 0 1 0 0) := ⟨by decide, by decide⟩
theorem b_rd (X : World) : RdRow 2 ElW (X.alloc (.cells #[.int .i64 22, .int .u64 (encE 1 0 1 0 0), .int .i64 23, .int .u64 4] 100)).heap.size (X.alloc (.cells #[.int .i64 22, .int .u64 (encE 1 0 1 0 0), .int .i64 23, .int .u64 4] 100)) (.slice (some ⟨X.heap.size, 0, none⟩) 2 2) bW := by
  have k1 := Blk.new X #[.int .i64 22, .int .u64 (encE 1 0 1 0 0), .int .i64 23, .int .u64 4] 100
  refine ⟨some ⟨X.heap.size, 0, none⟩, 2, rfl, by unfold maxLen; simp [bW], fun i hi => ⟨X.heap.size, 0, rfl, by simp, ?_⟩⟩
  match i, hi with
  | 0, _ => exact ⟨k1.val 0 rfl, k1.val 1 rfl, encE_U⟩
  | 1, _ => exact ⟨k1.val 2 rfl, k1.val 3 rfl, (show U64 (4 : Int) from ⟨by decide, by decide⟩)⟩
  | i + 2, h => exact absurd h (by simp [bW])
theorem Ary.addsO {w w' : World} {B a c : Nat} {cs : List Int} {n : Nat} {K L : List Nat} (h : Ary w B a c cs n K) (hb : Below w.heap.size w w') (hL : ∀ m ∈ L, w.heap.size ≤ m ∧ m < w'.heap.size) : Ary w' B a c cs n (L ++ K) := by
  obtain ⟨xs, ⟨lv, hL', hg⟩, h1, h2, h3, h4, h5, h6⟩ := h
  have la := hL'.at'.own.lt
  have lc := hL'.at'.row.lt
  have lg := fun g hg => (hL'.own.lt g hg).2
  refine ⟨xs, ⟨lv, hL'.grew hb, fun g e r => ?_⟩, fun r => ?_, fun r => ?_, fun b r => ?_, h4, h5, Nat.le_trans h6 hb.size⟩
  · rcases List.mem_append.1 r with r | r
    · have := hL g r; have := lg g e; omega
    · exact hg g e r
  · rcases List.mem_append.1 r with r | r
    · have := hL a r; omega
    · exact h1 r
  · rcases List.mem_append.1 r with r | r
    · have := hL c r; omega
    · exact h2 r
  · rcases List.mem_append.1 r with r | r
    · exact (hL b r).2
    · exact Nat.lt_of_lt_of_le (h3 b r) hb.size
/-- all blocks that came between two worlds -/
def between (m n : Nat) : List Nat := (List.range n).filter fun b => decide (m ≤ b)
theorem mem_between {m n b : Nat} : b ∈ between m n ↔ m ≤ b ∧ b < n := by unfold between; simp; omega
set_option maxRecDepth 100000 in
set_option maxHeartbeats 8000000 in
theorem built_any (w : World) (hW : Wid w) :
    Calls Tryz.prog 8 #[] w fun e w' => e = .returned (.bool true) ∧ Below w.heap.size w w' := by
  have WI := Lib.hid (fun W (hb : Below w.heap.size w W) => hW.below hb hW.lt)
  have EN := Lib.hid (fun W => reenc_yes 1 0 1 0 0 W b_ent)
  have DR := Lib.hid (fun W => draw_yes 1 1 1 W b_right)
  unfold mapV at DR
  rw [b_base, b_tab] at DR
  have LY := Lib.hid (fun W v (hl : RdRow 2 ElW W.heap.size W v bW) => olay_yes 1 1 1 v bW W b_right hl)
  unfold OLay at LY
  rw [bN, bW300, show layL 128 bW = bC0 from rfl] at LY
  have NB := Lib.hid (fun W => newbuild_yes 1 1 1 0 2 1 66 W b_head b_allow)
  unfold NbPost at NB
  have PE := Lib.hid (fun W => mpage_any 1 1 1 64 22 128 0 W)
  have PA := Lib.hid (fun W => malloc_any 1 1 1 64 22 128 0 W)
  rw [show wrap64 (22 + 0) = 22 by kernel_rfl] at PE
  rw [show wrap64 (wrap64 (22 + 1) + 0) = 23 by kernel_rfl] at PA
  have hS : BoS w (w.alloc (.cells #[.int .i64 1, .int .i64 1, .int .i64 1] 23)) := ⟨Blk.new _ _ _, (Below.refl _ _).alloc (Nat.le_refl _) _⟩
  clear hW
  go_enter Tryz.func8, Tryz.ntmps8
  go_wp2_with fail
  generalize hw0 : w.alloc (.cells #[.int .i64 1, .int .i64 1, .int .i64 1] 23) = w0 at *
  clear hw0
  refine (EN.out _).mono ?_; rintro e w1 ⟨rfl, hb1⟩
  have hS1 := hS.grew hb1
  obtain ⟨g0, g1, g2⟩ := hS1.three
  clear hS hb1 EN
  go_wp2_with fail
  refine (DR.out _).mono ?_; rintro e w2 ⟨rfl, hb2⟩
  have hS2 := hS1.grew hb2
  clear hS1 hb2 DR g0 g1 g2
  go_upto_region 4 with fail
  have hM := sixNew w2 1 1 1 64 22 128 36
  have hS3 := hS2.grew ((Below.refl _ _).alloc (Nat.le_refl _) (.cells #[.int .i64 1, .int .i64 1, .int .i64 1, .int .i64 64, .int .i64 22, .int .i64 128] 36))
  clear hS2
  generalize hw3 : w2.alloc (.cells #[.int .i64 1, .int .i64 1, .int .i64 1, .int .i64 64, .int .i64 22, .int .i64 128] 36) = w3 at *
  clear hw3
  generalize w2.heap.size = bm at *
  have SQ := Lib.hid (fun W (hb : Below w3.heap.size w3 W) => show (W.cell? ⟨w.heap.size, 0, none⟩ = some (.int .i64 1) ∧ W.cell? ⟨w.heap.size, 1, none⟩ = some (.int .i64 1) ∧ W.cell? ⟨w.heap.size, 2, none⟩ = some (.int .i64 1)) ∧ (W.cell? ⟨bm, 0, none⟩ = some (.int .i64 1) ∧ W.cell? ⟨bm, 1, none⟩ = some (.int .i64 1) ∧ W.cell? ⟨bm, 2, none⟩ = some (.int .i64 1) ∧ W.cell? ⟨bm, 3, none⟩ = some (.int .i64 64) ∧ W.cell? ⟨bm, 4, none⟩ = some (.int .i64 22) ∧ W.cell? ⟨bm, 5, none⟩ = some (.int .i64 128)) from
    ⟨(hS3.grew hb).three, (hM.grew hb).six.1⟩)
  have B3 : Below w3.heap.size w3 w3.drew := Quiet.below ⟨1, rfl⟩
  have KB := Lib.hid (fun (A C : World) (hb : Below A.heap.size A C) (h : Below w3.heap.size w3 A) => h.trans (hb.mono h.size))
  have KC := Lib.hid (fun (A C : World) (hb : Below A.heap.size A C) (h : Below w3.heap.size w3 A) => h.size)
  have hlt0 : w.heap.size < w3.heap.size := hS3.pl.lt
  have KA := Lib.hid (fun (A : World) (o : Obj) (h : Below w3.heap.size w3 A) => h.alloc h.size o)
  go_region_held3 (fun W => ((W.cell? ⟨w.heap.size, 0, none⟩ = some (.int .i64 1) ∧ W.cell? ⟨w.heap.size, 1, none⟩ = some (.int .i64 1) ∧ W.cell? ⟨w.heap.size, 2, none⟩ = some (.int .i64 1)) ∧ (W.cell? ⟨bm, 0, none⟩ = some (.int .i64 1) ∧ W.cell? ⟨bm, 1, none⟩ = some (.int .i64 1) ∧ W.cell? ⟨bm, 2, none⟩ = some (.int .i64 1) ∧ W.cell? ⟨bm, 3, none⟩ = some (.int .i64 64) ∧ W.cell? ⟨bm, 4, none⟩ = some (.int .i64 22) ∧ W.cell? ⟨bm, 5, none⟩ = some (.int .i64 128))) ∧ Below w3.heap.size w3 W)
    (first | (with_reducible exact ⟨SQ.out _ B3, B3⟩) | (with_reducible exact ⟨SQ.out _ hg7, hg7⟩) | (have hg := KB.out _ _ (by assumption) (And.right (by assumption)); exact ⟨SQ.out _ hg, hg⟩) | (exact ⟨SQ.out _ (KA.out _ _ (And.right (by assumption))), KA.out _ _ (And.right (by assumption))⟩))
    (first
      | (go_at_call 40; refine (PE.out _).mono ?_; rintro e w4 ⟨rfl, hb4⟩)
      | (go_at_call 41; refine (PA.out _).mono ?_; rintro e w5 ⟨rfl, hb5⟩)
      | (go_at_call 7; refine (LY.out _ _ (b_rd _)).mono ?_; rintro e w7 ⟨a, c, d, rfl, hL, hd⟩; have hg7 := KB.out _ _ hL.bel (And.right (by assumption)); have hg6 := KC.out _ _ hL.bel (And.right (by assumption))))
  have hS7 := hS3.grew hg7
  have hA7 := hL.ary
  clear hL SQ KB KA KC hM hS3 hg7 B3 PE PA LY
  generalize Array.size (World.heap (World.alloc _ _)) = B0 at *
  have hB0 : w.heap.size < B0 := by omega
  clear hg6 hlt0 hd
  go_wp2_with fail
  refine (port_yes a 0 _ (by decide) (by decide)).mono ?_; rintro e w8 ⟨p, rfl, hP8, hp, hb8⟩
  have hA8 := hA7.addsO (L := [p]) hb8 (by simp; exact ⟨hp, hP8.lt⟩)
  have hS8 := hS7.grew hb8
  have hp0 : B0 ≤ p := Nat.le_trans hA7.bw hp
  clear hA7 hS7 hb8 hp
  obtain ⟨g0, g1, g2⟩ := hS8.three
  go_wp2_with fail
  refine (oplan_any 1 1 1 _).mono ?_; rintro e w9 ⟨rfl, hb9⟩
  have hA9 := hA8.grew hb9
  have hP9 := Blk.grew hP8 hb9
  have hS9 := hS8.grew hb9
  clear hA8 hP8 hS8 hb9 g0 g1 g2
  go_wp2_with fail
  refine (NB.out _).mono ?_; rintro e w10 ⟨m, rfl, hM10, hm, hb10⟩
  have hpl : p < w9.heap.size := Blk.lt hP9
  have hA10 := hA9.addsO (L := [m]) hb10 (by simp; exact ⟨hm, Blk.lt hM10⟩)
  have hP10 := Blk.grew hP9 hb10
  have hS10 := hS9.grew hb10
  have hB9 := hA9.bw
  have hm0 : B0 ≤ m := Nat.le_trans hB9 hm
  have hmp : m ≠ p := by omega
  clear hA9 hP9 hS9 hb10 NB
  go_wp2_with fail
  refine (new_any w10 w10.heap.size _ [] (nil_classes _ _) (Nat.le_refl _)).mono ?_
  rintro e w11 ⟨hb11, hcase⟩
  rcases hcase with ⟨hne, _⟩ | ⟨_, tb, tv, tm, L, rfl, hT11, hL11⟩
  · exact absurd (by kernel_rfl) hne
  have hA11 := hA10.addsO (L := between w10.heap.size w11.heap.size) hb11 (fun b hb => mem_between.1 hb)
  have hP11 := Blk.grew hP10 hb11
  have hM11 := Blk.grew hM10 hb11
  have hS11 := hS10.grew hb11
  have hml : m < w10.heap.size := Blk.lt hM10
  have hlo : w10.heap.size ≤ w11.heap.size := hb11.size
  clear hA10 hP10 hM10 hS10 hb11
  obtain ⟨xs0, hX11⟩ := hA11
  have hU0 : BuS w11 B0 a c p m 66 (encH 0 2 1) (1 + 1) bC0 xs0 0 (between w10.heap.size w11.heap.size ++ ([m] ++ ([p] ++ [d]))) 0 false w11 := ⟨hM11, hX11, hP11, Touch.refl _ _⟩
  clear hX11 hM11 hP11
  have HT := Lib.hid hT11
  have HS := Lib.hid hS11
  have HL := Lib.hid hL11
  clear hT11 hS11 hL11
  have hmK : m ∈ between w10.heap.size w11.heap.size ++ ([m] ++ ([p] ++ [d])) := by simp
  have hpK : p ∈ between w10.heap.size w11.heap.size ++ ([m] ++ ([p] ++ [d])) := by simp
  have HK := Lib.hid (show ∀ b, w10.heap.size ≤ b → b < w11.heap.size → b ∈ between w10.heap.size w11.heap.size ++ ([m] ++ ([p] ++ [d])) from fun b h1 h2 => List.mem_append_left _ (mem_between.2 ⟨h1, h2⟩))
  generalize between w10.heap.size w11.heap.size ++ ([m] ++ ([p] ++ [d])) = K at *
  have G := Lib.hid (fun W left cs xs n o (h : BuS w11 B0 a c p m 66 (encH 0 2 1) left cs xs n K 0 o W) => h.grant hmp hpK)
  have lb0 : bC0.length = 128 := by kernel_rfl
  have lb1 : bC1.length = 128 := by kernel_rfl
  have S1 := Lib.hid (fun W xs (h : BuS w11 B0 a c p m 66 (encH 0 2 1) (1 + 1) bC0 xs 0 K 0 true W) => (bstep_more 1 h (by decide) (by decide) (by decide) hmp hmK hpK (by decide) (by rw [lb0]; decide)).mono (R' := fun e w' => e = .returned (.bool false) ∧ ∃ xs, BuS w11 B0 a c p m 66 (encH 0 2 1) 1 bC1 xs 1 K 0 false w') fun _ _ ⟨he, h⟩ => ⟨he, _, h⟩)
  have S2 := Lib.hid (fun W xs (h : BuS w11 B0 a c p m 66 (encH 0 2 1) 1 bC1 xs 1 K 0 true W) => (bstep_last h hmp hmK hpK (by decide) (by rw [lb1]; decide)).mono (R' := fun e w' => e = .returned (.bool true) ∧ ∃ xs, BuS w11 B0 a c p m 66 (encH 0 2 1) 0 bC2 xs 2 K 0 false w') fun _ _ ⟨he, h⟩ => ⟨he, _, h⟩)
  have LK := Lib.hid (fun W (hA : Ary W B0 a c bC2 2 K) (hW : Wid W) (hT : TabS W w10.heap.size tb tv tm L) => look_yes (P := 1) (T := 1) (R := 1) 66 hA hW hT (by rw [bN]; exact b_len) b_U b_hold b_hdE (by rw [HL.out, b_hdC, b_hdK, b_hdN]; exact b_fit) (by rw [b_hdC, b_hdK, b_hdN]; exact b_fits) 1 b_hdN (by decide) (by rw [b_len]; decide))
  rw [b_hdC, b_hdK, b_lk] at LK
  unfold LkPost at LK
  clear lb0 lb1 HL
  have hlt1 : p < w10.heap.size := by omega
  generalize encH 0 2 1 = H at *
  replace hB0 := Lib.hid hB0
  replace hmp := Lib.hid hmp
  go_wp2_with fail
  go_loopw [15] (fun i wr => ∃ k : Int, (k = 0 ∧ (∃ xs, BuS w11 B0 a c p m 66 H (1 + 1) bC0 xs 0 K 0 false wr) ∨ k = 1 ∧ (∃ xs, BuS w11 B0 a c p m 66 H 1 bC1 xs 1 K 0 false wr) ∨ k = 2 ∧ (∃ xs, BuS w11 B0 a c p m 66 H 0 bC2 xs 2 K 0 false wr)) ∧ i = .int .i64 k) (fun i _ => (2 - intOf i).toNat)
  case atStart => exact ⟨0, .inl ⟨rfl, _, hU0⟩, rfl⟩
  case round =>
    clear hU0
    obtain ⟨k, (⟨rfl, xs, hU⟩ | ⟨rfl, xs, hU⟩ | ⟨rfl, xs, hU⟩), rfl⟩ := hrel
    · go_wp2_with fail
      refine (G.out _ _ _ _ _ _ hU).mono ?_; rintro e wa ⟨⟨u1, rfl⟩, h2⟩
      go_wp2_with fail
      refine (S1.out _ _ h2).mono ?_; rintro e wb ⟨rfl, h3⟩
      go_wp2
      go_roundw
      case rel => exact ⟨1, .inr (.inl ⟨rfl, h3⟩), by go_num⟩
      case measure => simp [intOf]
    · go_wp2_with fail
      refine (G.out _ _ _ _ _ _ hU).mono ?_; rintro e wa ⟨⟨u1, rfl⟩, h2⟩
      go_wp2_with fail
      refine (S2.out _ _ h2).mono ?_; rintro e wb ⟨rfl, h3⟩
      go_wp2
      go_roundw
      case rel => exact ⟨2, .inr (.inr ⟨rfl, h3⟩), by go_num⟩
      case measure => simp [intOf]
    · have hT := HT.out.touch hU.touch (fun g h1 h2 h3 => by
        rcases h3 with rfl | rfl | ⟨_, h3⟩
        · omega
        · omega
        · exact h3 (HK.out g h1 h2))
      have hS := HS.out.touch hU.touch (fun b hb => by
        have := hB0.out
        rcases hb with rfl | rfl | ⟨hb, _⟩ <;> omega)
      have hA : Ary wr B0 a c bC2 2 K := ⟨_, hU.arx⟩
      have hM := hU.mach
      clear hU G S1 S2 HT HS
      obtain ⟨g0, g1, g2⟩ := hS.three
      go_wp2_with fail
      refine (oplan_any 1 1 1 _).mono ?_; rintro e wx ⟨rfl, hbx⟩
      have hTx := hT.grew hbx
      have hSx := hS.grew hbx
      have hAx := hA.grew hbx
      have hMx := Blk.grew hM hbx
      clear hT hS hA hM hbx g0 g1 g2
      go_wp2_with fail
      refine (LK.out _ hAx (WI.out _ hSx.bel) hTx).mono ?_
      rintro e wy ⟨u, rfl, hou, hby⟩
      have hSy := hSx.grew hby
      have hMy := Blk.grew hMx hby
      clear hTx hSx hAx hMx hby LK
      obtain ⟨g', cap, cur, rfl, hcell⟩ : ∃ g cap, ∃ cur : Unit, u = .slice (some ⟨g, 0, none⟩) 1 cap ∧ wy.cell? ⟨g, 0, none⟩ = some (.int .i64 0) := by
        rcases hou.2 with ⟨h1, h2⟩ | ⟨g, cap, cur, h1, _⟩
        · exact absurd h2 (by simp)
        · refine ⟨g, cap, (), h1, ?_⟩
          subst h1
          have := hou.cellAt 0 (by simp)
          exact this
      have hZ := Blk.new wy #[.int .i64 66, .int .i64 0, .int .i64 2, .slice (some ⟨g', 0, none⟩) 1 cap] 80
      have hbz : Below wy.heap.size wy (wy.alloc (.cells #[.int .i64 66, .int .i64 0, .int .i64 2, .slice (some ⟨g', 0, none⟩) 1 cap] 80)) := (Below.refl _ _).alloc (Nat.le_refl _) _
      have hSz := hSy.grew hbz
      have hMz := Blk.grew hMy hbz
      have z0 := hZ.val 0 rfl
      have z2 := hZ.val 2 rfl
      have z3 := hZ.val 3 rfl
      have zc := (hbz.cell (p := ⟨g', 0, none⟩) (World.block_lt_of_cell? wy _ hcell)).trans hcell
      clear hou hSy hMy hbz hcell hZ
      go_wp2_with fail
      refine (bover_any hMz).mono ?_; rintro e wf ⟨rfl, hqf⟩
      have y0 := (hqf.cell _).trans z0
      have y2 := (hqf.cell _).trans z2
      have y3 := (hqf.cell _).trans z3
      have yc := (hqf.cell _).trans zc
      have hBf := hSz.bel.trans hqf.below
      clear hSz hMz hqf z0 z2 z3 zc
      go_wp2
      go_ret
      exact ⟨rfl, hBf⟩
end Go.Proofs.YtpoddnfooaddgaaGreatDoor
/- What arena.repeat returns and writes, and the document's Left. No condition but that the numbers fit their kinds and the cells are there. -/
namespace Go.Proofs.YtpoddnfooaddgaaGreatDoor
open Go.RowKit
set_option linter.unusedVariables false
set_option linter.unusedSimpArgs false

/-- a slice of words of one's own: where it lies, what it holds -/
structure Rw (w : World) (B g n c : Nat) (cs : List Int) : Prop where
  own : w.ownsRow B 57 1 (.slice (some ⟨g, 0, none⟩) n c) n (cs.map (Value.int .u64))
theorem Rw.len {w : World} {B g n c : Nat} {cs : List Int} (h : Rw w B g n c cs) : cs.length = n := by have := h.own.1; simpa using this
theorem Rw.cell {w : World} {B g n c : Nat} {cs : List Int} (h : Rw w B g n c cs) (i : Nat) (hi : i < n) : w.cell? ⟨g, i, none⟩ = some (.int .u64 (cs.getD i 0)) := by
  have hl := h.len
  rw [h.own.cellAt i (by omega)]
  simp [List.getD_eq_getElem?_getD, List.getElem?_eq_getElem (show i < cs.length by omega)]
theorem Rw.frozen {w : World} {B g n c : Nat} {cs : List Int} (h : Rw w B g n c cs) (i : Nat) : w.frozen? ⟨g, i, none⟩ = false := h.own.frozenAt i
theorem Rw.lt {w : World} {B g n c : Nat} {cs : List Int} (h : Rw w B g n c cs) : B ≤ g ∧ g < w.heap.size := h.own.lt g rfl
theorem Rw.of {w w' : World} {B g n c : Nat} {cs : List Int} (h : Rw w B g n c cs) (he : w'.heap[g]? = w.heap[g]?) : Rw w' B g n c cs := by
  obtain ⟨h0⟩ := h
  refine ⟨h0.1, ?_⟩
  rcases h0.2 with ⟨h1, _⟩ | ⟨g', cap', cur, h1, h2, h3, h4⟩
  · simp at h1
  · simp only [Value.slice.injEq, Option.some.injEq, Addr.mk.injEq, and_true, true_and] at h1
    obtain ⟨rfl, rfl⟩ := h1
    exact .inr ⟨g, c, cur, rfl, h2, he.trans h3, h4⟩
theorem Rw.grew {w w' : World} {B g n c : Nat} {cs : List Int} (h : Rw w B g n c cs) (hb : Below w.heap.size w w') : Rw w' B g n c cs := h.of (hb.block g h.lt.2)
theorem Rw.touch {R : Nat → Prop} {w w' : World} {B g n c : Nat} {cs : List Int} (h : Rw w B g n c cs) (ht : Touch R w w') (hn : ¬ R g) : Rw w' B g n c cs := h.of (ht.block g h.lt.2 hn)
theorem Rw.alloc {w : World} {B g n c : Nat} {cs : List Int} (h : Rw w B g n c cs) (o : Obj) : Rw (w.alloc o) B g n c cs := ⟨h.own.alloc o⟩
theorem Rw.set {w : World} {B g n c : Nat} {cs : List Int} (h : Rw w B g n c cs) (i : Nat) (v : Int) : Rw (w.setCell ⟨g, i, none⟩ (.int .u64 v)) B g n c (cs.set i v) := ⟨by
  have := (h.own.stored i (.int .u64 v)).1
  rw [List.map_set]
  exact this⟩

theorem qleft {P : Program} {f : FuncId} {args : Array Value} {w : World} {n : Nat} {v : Value} (h : Calls P f args (w.drewN n) fun e w' => e = .returned v ∧ w.drewN n = w') :
    Calls P f args (w.drewN n) fun e w'' => e = .returned v ∧ ∃ m, w'' = w.drewN m := h.mono fun _ _ ⟨he, hw⟩ => ⟨he, n, hw.symm⟩
/-! the document's Left -/
set_option maxHeartbeats 400000 in
theorem rleft_yes (k seen want put : Int) (w : World) (hk : kindBEffe k = true) :
    Calls Tryz.prog 87 #[.int .i64 k, .int .u64 seen, .int .u64 want, .int .u64 put] w fun e w' => e = .returned (.tuple #[.int .u64 (leftI k seen want put), .bool true]) ∧ w' = w := by
  by_cases hs : seen = want
  · have h2 : (seen == want) = true := by simp [hs]
    rcases kind_cases hk with rfl | rfl | rfl | rfl | rfl | rfl
    all_goals
      clear hk
      go_enter Tryz.func87, Tryz.ntmps87
      go_wp2
      go_ret2
      refine ⟨?_, rfl⟩
      simp [leftI, hs]
  · have h2 : (seen == want) = false := by simp [hs]
    rcases kind_cases hk with rfl | rfl | rfl | rfl | rfl | rfl
    all_goals
      clear hk
      go_enter Tryz.func87, Tryz.ntmps87
      go_wp2
      go_ret2
      refine ⟨?_, rfl⟩
      simp [leftI, hs]
set_option maxHeartbeats 400000 in
theorem rleft_no (k seen want put : Int) (w : World) (hk : kindBEffe k = false) :
    Calls Tryz.prog 87 #[.int .i64 k, .int .u64 seen, .int .u64 want, .int .u64 put] w fun e w' => e = .returned (.tuple #[.int .u64 0, .bool false]) ∧ w' = w := by
  have hk' := of_decide_eq_false hk
  have e1 : (k == 1) = false := beq_eq_false_iff_ne.2 (by omega)
  have e2 : (k == 2) = false := beq_eq_false_iff_ne.2 (by omega)
  have e3 : (k == 3) = false := beq_eq_false_iff_ne.2 (by omega)
  have e4 : (k == 4) = false := beq_eq_false_iff_ne.2 (by omega)
  have e5 : (k == 5) = false := beq_eq_false_iff_ne.2 (by omega)
  have e6 : (k == 6) = false := beq_eq_false_iff_ne.2 (by omega)
  clear hk hk'
  go_enter Tryz.func87, Tryz.ntmps87
  go_wp2
  go_ret2
  exact ⟨rfl, rfl⟩

/-! repeat -/
section
variable (who k at' want put seen left : Int)
end
end Go.Proofs.YtpoddnfooaddgaaGreatDoor
/- What slices.Clone returns at a slice of words, and Image of an arena. Condition: the cells are there. -/
namespace Go.Proofs.YtpoddnfooaddgaaGreatDoor
open Go.RowKit
def ClonePost (zs : List Int) (w : World) (e : Ending) (w' : World) : Prop :=
  ∃ v, e = .returned v ∧ w'.ownsRow w.heap.size 57 1 v zs.length (zs.map (Value.int .u64)) ∧ Below w.heap.size w w'
set_option maxRecDepth 100000 in
set_option maxHeartbeats 1000000 in
theorem clone_row (b o cap : Nat) (zs : List Int) (w : World) (h0 : 0 < zs.length) (hm : zs.length ≤ 1000000) (hc : Hid (∀ i, i < zs.length → w.cell? ⟨b, o + i, none⟩ = some (.int .u64 (zs.getD i 0)))) :
    Calls Tryz.prog 58 #[.slice (some ⟨b, o, none⟩) zs.length cap] w (ClonePost zs w) := by
  obtain ⟨i0, hi, hz0, hz1, hz2⟩ := info_parts info_u64
  have hn := fun W => Lib.run_eql_slice_nil (P := Tryz.prog) W 31 57 (some ⟨b, o, none⟩) zs.length cap 0 0 Tryz.underlying31
  go_enter Tryz.func58, Tryz.ntmps58
  go_wp2_with (at_builtin; refine wpList_append_own_at _ rfl _ _ 31 rfl w.heap.size 57 i0 (.int .u64 0) 1 8 Tryz.underlying31 hi hz0 hz1 hz2 rfl (by decide) _ _ _ rfl (World.ownsRow_made w #[] 0 (Nat.le_refl _) (by decide) rfl) ⟨b, o, none⟩ zs.length cap (zs.map (Value.int .u64)) rfl (by simp) ?c1 ?c2 ?c3 ?c4 ?c5 ?_)
  case c1 =>
    intro j u hu
    have hj : j < zs.length := by
      rcases Nat.lt_or_ge j zs.length with h | h
      · exact h
      · rw [List.getElem?_eq_none (by simpa using h)] at hu; cases hu
    have e1 : (⟨b, o, none⟩ : Addr).add j = ⟨b, o + j, none⟩ := by unfold Addr.add; split <;> simp_all
    have hu' : u = .int .u64 (zs.getD j 0) := by
      simp [hj] at hu
      simp [List.getD_eq_getElem?_getD, hj, hu]
    have hcj := hc.out j hj
    rw [e1, World.cell?_alloc_lt _ _ _ (World.block_lt_of_cell? w _ hcj), hcj, hu']
  case c2 =>
    intro u hu
    simp at hu
    obtain ⟨x, _, rfl⟩ := hu
    rfl
  case c3 => unfold maxLen; omega
  case c4 => omega
  case c5 => simp
  intro v' w2 hown2 hgrow _ _
  have hb : Below w.heap.size w w2 := ((Below.refl _ _).alloc (Nat.le_refl _) _).grown hgrow (by simp) (fun k hk => by have : w.heap.size = k := Option.some.inj hk; omega)
  clear hn
  go_wp2
  go_ret
  exact ⟨v', rfl, hown2, hb⟩
def ImagePost (cs : List Int) (w : World) (e : Ending) (w' : World) : Prop :=
  ∃ v, e = .returned v ∧ w'.ownsRow w.heap.size 57 1 v cs.length (cs.map (Value.int .u64)) ∧ Below w.heap.size w w'
set_option maxHeartbeats 400000 in
theorem image_nil (w : World) :
    Calls Tryz.prog 25 #[.pointer none] w fun e w' => e = .returned (.slice none 0 0) ∧ Quiet w w' := by
  go_enter Tryz.func25, Tryz.ntmps25
  go_wp2
  go_ret
  exact ⟨rfl, Quiet.refl _⟩
set_option maxHeartbeats 400000 in
theorem image_at (a c : Nat) (cs : List Int) (keep : Bool) (lv : Value) (n f : Int) (w : World) (hA : ArenaAt w a c cs keep lv n f) (h0 : 0 < cs.length) (hm : cs.length ≤ 1000000) :
    Calls Tryz.prog 25 #[.pointer (some ⟨a, 0, none⟩)] w (ImagePost cs w) := by
  have c0 := hA.c0
  have T := Lib.hid (clone_row c 0 cs.length cs w h0 hm (fun i hi => by rw [Nat.zero_add]; exact hA.cell i hi))
  clear hA
  go_enter Tryz.func25, Tryz.ntmps25
  go_wp2_with (go_at_call 58; refine T.out.mono ?_; rintro e w1 ⟨v, rfl, hown, hb⟩)
  go_ret
  exact ⟨v, rfl, hown, hb⟩
end Go.Proofs.YtpoddnfooaddgaaGreatDoor
/- What arena.Replay and the document's Replay return. Condition: the lists are there, at most 500 long. -/
namespace Go.Proofs.YtpoddnfooaddgaaGreatDoor
open Go.RowKit
set_option linter.unusedVariables false

/-- what comes of one access: the number of an error, or nothing -/
def stepE (cs : List Int) (at' k want put seen left : Int) : Int :=
  if insB cs.length at' = false then 5 else if kindBEffe k = true ∧ seen = cs.getD at'.toNat 0 ∧ left = leftI k seen want put then 0 else 4
/-- the cells behind accesses, from the i-th on; where it stopped; the error's number -/
def repl (F : Nat → Nat → Int) : Nat → Nat → List Int → Option (List Int) × Nat × Int
  | 0, _, cs => (some cs, 0, 0)
  | m + 1, i, cs => if stepE cs (F i 2) (F i 1) (F i 3) (F i 4) (F i 5) (F i 6) = 0 then repl F m (i + 1) (cs.set (F i 2).toNat (F i 6)) else (none, i, stepE cs (F i 2) (F i 1) (F i 3) (F i 4) (F i 5) (F i 6))
theorem repl_len (F : Nat → Nat → Int) : ∀ m i cs l, (repl F m i cs).1 = some l → l.length = cs.length
  | 0, _, cs, l, h => by simp only [repl, Option.some.injEq] at h; rw [h]
  | m + 1, i, cs, l, h => by
    unfold repl at h
    split at h
    · have := repl_len F m _ _ l h; simpa using this
    · cases h
def ReplayPost (r : Option (List Int) × Nat × Int) (w : World) (e : Ending) (w' : World) : Prop :=
  ∃ v, e = .returned (.tuple #[v, .int .i64 ((r.2.1 : Nat) : Int), .int .i64 r.2.2]) ∧ w'.ownsRow w.heap.size 57 1 v (r.1.getD []).length ((r.1.getD []).map (Value.int .u64)) ∧ Below w.heap.size w w'
abbrev accK (j : Nat) : IntKind := ([.i64, .i64, .i64, .u64, .u64, .u64, .u64] : List IntKind).getD j .i64

/-- the slice that holds the cells, whatever its length -/
def Held (w : World) (B : Nat) (a : Option Addr) (n c : Nat) (cs : List Int) : Prop := w.ownsRow B 57 1 (.slice a n c) n (cs.map (Value.int .u64))
theorem Held.len {w : World} {B n c : Nat} {a : Option Addr} {cs : List Int} (h : Held w B a n c cs) : cs.length = n := by have := h.1; simpa using this
theorem Held.rw {w : World} {B n c : Nat} {a : Option Addr} {cs : List Int} (h : Held w B a n c cs) (h0 : 0 < n) : ∃ g, a = some ⟨g, 0, none⟩ ∧ Rw w B g n c cs := by
  rcases h.2 with ⟨h1, h2⟩ | ⟨g, cap, cur, h1, _⟩
  · omega
  · simp only [Value.slice.injEq, true_and] at h1
    obtain ⟨rfl, rfl⟩ := h1
    exact ⟨g, rfl, ⟨h⟩⟩
theorem Held.grew {w w' : World} {B n c : Nat} {a : Option Addr} {cs : List Int} (h : Held w B a n c cs) (hb : Below w.heap.size w w') : Held w' B a n c cs := by
  refine ⟨h.1, ?_⟩
  rcases h.2 with h1 | ⟨g, cap, cur, h1, h2, h3, h4⟩
  · exact .inl h1
  · exact .inr ⟨g, cap, cur, h1, h2, (hb.block g (Array.getElem?_eq_some_iff.1 h3).1).trans h3, h4⟩

theorem repl_more (F : Nat → Nat → Int) (m k : Nat) (cs : List Int) (hk : k < m) (h : stepE cs (F k 2) (F k 1) (F k 3) (F k 4) (F k 5) (F k 6) = 0) :
    repl F (m - k) k cs = repl F (m - (k + 1)) (k + 1) (cs.set (F k 2).toNat (F k 6)) := by
  rw [show m - k = (m - (k + 1)) + 1 by omega, repl, if_pos h]
theorem repl_stop (F : Nat → Nat → Int) (m k : Nat) (cs : List Int) (hk : k < m) (h : ¬ stepE cs (F k 2) (F k 1) (F k 3) (F k 4) (F k 5) (F k 6) = 0) :
    repl F (m - k) k cs = (none, k, stepE cs (F k 2) (F k 1) (F k 3) (F k 4) (F k 5) (F k 6)) := by
  rw [show m - k = (m - (k + 1)) + 1 by omega, repl, if_neg h]

end Go.Proofs.YtpoddnfooaddgaaGreatDoor
/- arena.Log: the iterator over the accesses that were kept: its contract. No condition but that the log lies there. -/
namespace Go.Proofs.YtpoddnfooaddgaaGreatDoor
open Go.RowKit Go.Shelf
set_option linter.unusedVariables false
attribute [local go_sem] Oper.semAt_some

/-- an access as a value -/
abbrev accA (F : Nat → Nat → Int) (i : Nat) : Array Value := #[.int .i64 (F i 0), .int .i64 (F i 1), .int .i64 (F i 2), .int .u64 (F i 3), .int .u64 (F i 4), .int .u64 (F i 5), .int .u64 (F i 6)]
abbrev logEnc (F : Nat → Nat → Int) (i : Nat) : Array Value := #[.int .i64 i, .agg (accA F i)]
/-- the kept accesses, m of them, lie from ⟨b, 0⟩ on -/
structure LogRow (w : World) (b m : Nat) (F : Nat → Nat → Int) : Prop where
  cell : ∀ i, i < m → w.cell? ⟨b, i * 7, none⟩ = some (.int .i64 (F i 0)) ∧ w.cell? ⟨b, i * 7 + 1, none⟩ = some (.int .i64 (F i 1)) ∧ w.cell? ⟨b, i * 7 + 2, none⟩ = some (.int .i64 (F i 2)) ∧
    w.cell? ⟨b, i * 7 + 3, none⟩ = some (.int .u64 (F i 3)) ∧ w.cell? ⟨b, i * 7 + 4, none⟩ = some (.int .u64 (F i 4)) ∧ w.cell? ⟨b, i * 7 + 5, none⟩ = some (.int .u64 (F i 5)) ∧ w.cell? ⟨b, i * 7 + 6, none⟩ = some (.int .u64 (F i 6))
theorem LogRow.below {w w' : World} {b m n₀ : Nat} {F : Nat → Nat → Int} (h : LogRow w b m F) (hb : Below n₀ w w') (hlt : b < n₀) : LogRow w' b m F := ⟨fun i hi => by
  obtain ⟨h0, h1, h2, h3, h4, h5, h6⟩ := h.cell i hi
  exact ⟨(hb.cell (p := ⟨b, _, none⟩) hlt).trans h0, (hb.cell (p := ⟨b, _, none⟩) hlt).trans h1, (hb.cell (p := ⟨b, _, none⟩) hlt).trans h2, (hb.cell (p := ⟨b, _, none⟩) hlt).trans h3, (hb.cell (p := ⟨b, _, none⟩) hlt).trans h4, (hb.cell (p := ⟨b, _, none⟩) hlt).trans h5, (hb.cell (p := ⟨b, _, none⟩) hlt).trans h6⟩⟩

set_option maxRecDepth 100000 in
set_option maxHeartbeats 2000000 in
theorem log_stops (n : Nat) (hn : 1 ≤ n) (B n₀ b m c : Nat) (bp : Option Addr) (F : Nat → Nat → Int) (w : World) (hn₀ : n₀ ≤ w.heap.size) (hm : m ≤ 1000000) (hbp : 0 < m → bp = some ⟨b, 0, none⟩ ∧ b < n₀ ∧ LogRow w b m F) (hlt : B < w.heap.size) (hB : w.cell? ⟨B, 0, none⟩ = some (.slice bp m c)) :
    SeqStopsK Fence.wide n Tryz.prog 57 #[.pointer (some ⟨B, 0, none⟩)] (logEnc F) (Below n₀) (fun xs => xs = List.range m) (fun pre => pre <+: List.range m) m w :=
  fun l J Jx W hWW hAJ _ hY h0 => by
  have hB1 := (hWW.cell (p := ⟨B, 0, none⟩) hlt).trans hB
  have hsW := hWW.size
  have hL1 : 0 < m → bp = some ⟨b, 0, none⟩ ∧ b < n₀ ∧ LogRow W b m F := fun h => by
    obtain ⟨h1, h2, h3⟩ := hbp h
    exact ⟨h1, h2, h3.below hWW (by omega)⟩
  have hL := Lib.hid hL1
  clear hL1 hbp
  refine callsIn_of_wp Tryz.func57 rfl trivial ?_ rfl
  simp only [Tryz.ntmps57, List.size_toArray, List.length_cons, List.length_nil, Nat.reduceAdd, Nat.reduceSub, Array.replicate_succ, Array.replicate_zero, List.push_toArray, List.append_toArray, List.nil_append, List.cons_append]
  gi_wp2
  gi_loopw [7] (fun p wr => ∃ (k : Nat), k ≤ m ∧ p = .int .i64 k ∧ Hid (0 < m → bp = some ⟨b, 0, none⟩ ∧ b < n₀ ∧ LogRow wr b m F) ∧ Hid (n₀ ≤ wr.heap.size) ∧ Hid (W.heap.size ≤ wr.heap.size) ∧ J (List.range k) wr) (fun p _ => m - (intOf p).toNat)
  case atStart => exact ⟨0, by omega, rfl, hL, Lib.hid (by omega), Lib.hid (Nat.le_refl _), h0⟩
  case round =>
    obtain ⟨k, hk, rfl, hLr, hnr, hWr, hJ⟩ := hrel
    by_cases hkm : k < m
    · obtain ⟨rfl, hb, hrow⟩ := hLr.out (by omega)
      obtain ⟨r0, r1, r2, r3, r4, r5, r6⟩ := hrow.cell k hkm
      have hal := Below.alloc (Below.refl wr.heap.size wr) (Nat.le_refl _) (.cells (accA F k) 59)
      have hJ2 : J (List.range k) (wr.alloc (.cells (accA F k) 59)) := hAJ (List.range k) wr _ none hJ (World.grownBy_alloc wr _ none) (fun r e => by cases e)
      obtain ⟨fn, tmps, assign, body, hy, hRd⟩ := hY (List.range k) k _ hJ2 (by simpa using hkm)
      have HR := Lib.hid (List.range_succ (n := k))
      rw [← HR.out] at hRd
      dsimp only [logEnc, accA] at hy hRd hal
      have HL2 := Lib.hid (hrow.below hal (by have := hnr.out; omega))
      have hsz := Lib.hid hal.size
      clear hal
      clear hJ hJ2 hrow
      generalize F k 0 = q0 at *
      generalize F k 1 = q1 at *
      generalize F k 2 = q2 at *
      generalize F k 3 = q3 at *
      generalize F k 4 = q4 at *
      generalize F k 5 = q5 at *
      generalize F k 6 = q6 at *
      gi_wp2
      refine hRd.mono ?_
      rintro e W3 (⟨rfl, hJ3, hk3⟩ | ⟨rfl, hJx3⟩)
      · gi_wp2
        go_roundw
        case rel => exact ⟨k + 1, by omega, by go_num, Lib.hid (fun _ => ⟨by simp, hb, HL2.out.below hk3 hb⟩), Lib.hid (by have := hnr.out; have := hsz.out; have := hk3.size; omega), Lib.hid (by have := hWr.out; have := hsz.out; have := hk3.size; omega), hJ3⟩
        case measure => simp only [intOf]; omega
      · gi_wp2
        refine bodyPost_ret (results_none rfl _ _ _) rfl ?_
        exact ⟨⟨_, rfl⟩, .inr ⟨List.range (k + 1), range_prefix _ _ (by omega), hJx3⟩⟩
    · obtain rfl : k = m := by omega
      gi_wp2
      go_end0
      exact ⟨⟨_, rfl⟩, .inl ⟨_, rfl, hJ⟩⟩
end Go.Proofs.YtpoddnfooaddgaaGreatDoor
