/- ShadeKept: what kept returns: true, wherever each object is where it ought to be. Condition: the lists tell what was seen and taken. -/
import Derived.Deep.CutRange
import Derived.Test.YtlhigibgjggidaaGShadeKept19
namespace Go.Proofs.Ytlhigibgjggidaa
open Go.RowKit
set_option linter.unusedVariables false
theorem madeJ (n : Nat) : madeCells #[Value.int .i64 0] (n * 1) = rowI64 (List.replicate n 0) := by
  unfold madeCells rowI64
  apply Array.ext
  · simp
  · intro i h1 h2
    simp [show i % 1 = 0 by omega]
theorem info_intJ : (Try.prog.info? 3).map (fun i => (i.zero, i.size, i.bytes)) = some (some (.int .i64 0), 1, 8) := by kernel_rfl
theorem run_mkJ (W : World) (n : Nat) (h1 : n ≤ 4096) : (Instr.makeSlice 70 (.int .i64 (n : Int)) (.int .i64 (n : Int))).run Try.prog W = .ok (.slice (some ⟨W.heap.size, 0, none⟩) n n) (W.alloc (.cells (rowI64 (List.replicate n 0)) 3)) := by
  obtain ⟨i0, hi0, hz0, hz1, hz2⟩ := info_parts info_intJ
  rw [run_make W 70 3 i0 _ Try.underlying70 hi0 hz0 .i64 .i64 (n : Int) (n : Int) (by omega) (Int.le_refl _) (by rw [hz2]; omega) (by omega), hz1, Int.toNat_natCast, ← madeJ]
  rfl
theorem set1_ne {l : List Int} {i k : Nat} (h : l.getD k 0 ≠ 0) : (l.set i 1).getD k 0 ≠ 0 := by
  rw [getD_set]
  split
  · decide
  · exact h
theorem set1_at {l : List Int} {i : Nat} (h : i < l.length) : (l.set i 1).getD i 0 ≠ 0 := by
  rw [getD_set, if_pos ⟨rfl, h⟩]; decide
/-- what is there behind t threads -/
def ThS (D : KD) (t : Nat) (th : List Int) : Prop := ∀ u, u < t → (kHe (D.st u) → th.getD (D.rf u).toNat 0 ≠ 0) ∧ ∀ j, D.h u ≤ j → j < D.q u → th.getD (D.W u j).toNat 0 ≠ 0
theorem ThS.set {D : KD} {t : Nat} {th : List Int} (h : ThS D t th) (i : Nat) : ThS D t (th.set i 1) := fun u hu => ⟨fun e => set1_ne ((h u hu).1 e), fun j j1 j2 => set1_ne ((h u hu).2 j j1 j2)⟩
theorem ref_lt {P T R x : Int} (h : refB P T R x = true) : ∃ i : Nat, x = (i : Int) ∧ i < cellsN P T R ∧ 0 < i := by
  obtain ⟨hR, x1, x2, x3⟩ := ref_bd h
  have hb := base_bd hR
  have hl := (cellsN_bd hR).1
  exact ⟨x.toNat, by omega, by omega, by omega⟩
/-- what the lists tell -/
structure KB (P : Int) (T : Nat) (R : Int) (D : KD) : Prop where
  sn : ∀ i : Nat, i < cellsN P (T : Int) R → D.sn.getD i 0 = if D.Sn (i : Int) then 1 else 0
  tk : ∀ i : Nat, i < cellsN P (T : Int) R → D.tk.getD i 0 = if D.Tk (i : Int) then 1 else 0
  lp : ∀ t, t < T → (D.st t ≤ 8 → D.lp t = some ⟨D.bs t, 0, none⟩ ∧ D.rr t = D.rf t) ∧ (D.st t = 9 → D.lp t = none)
/-- the list that is made, in the midst -/
structure ThB (W0 : World) (gq g n : Nat) (P T R : Int) (D : KD) (t : Nat) (th : List Int) (w : World) : Prop where
  len : th.length = n
  blk : Blk w g (rowI64 th) 3
  box : Blk w gq #[.int .i64 P, .int .i64 T, .int .i64 R] 23
  th : ThS D t th
  bel : Below W0.heap.size W0 w
  lg : W0.heap.size ≤ gq ∧ gq < g
theorem ThB.grew {W0 w w' : World} {gq g n : Nat} {P T R : Int} {D : KD} {t : Nat} {th : List Int} (h : ThB W0 gq g n P T R D t th w) (hb : Below w.heap.size w w') : ThB W0 gq g n P T R D t th w' :=
  ⟨h.len, Blk.grew h.blk hb, Blk.grew h.box hb, h.th, h.bel.trans (hb.mono h.bel.size), h.lg⟩
theorem ThB.store {W0 w : World} {gq g n : Nat} {P T R : Int} {D : KD} {t : Nat} {th : List Int} (h : ThB W0 gq g n P T R D t th w) (i : Nat) : ThB W0 gq g n P T R D t (th.set i 1) (w.setCell ⟨g, i, none⟩ (.int .i64 1)) := by
  have lg := h.lg
  exact ⟨by rw [List.length_set]; exact h.len, by rw [rowI64_set]; exact Blk.set h.blk i _, Blk.other h.box _ _ (by show gq ≠ g; omega), h.th.set i, h.bel.setCell (p := ⟨g, i, none⟩) (by show W0.heap.size ≤ g; omega) _, h.lg⟩
theorem own_formV {w : World} {B E size n : Nat} {v : Value} {xs : List Value} (h : w.ownsRow B E size v n xs) : ∃ A cap, v = .slice A n cap := by
  rcases h.2 with ⟨h1, h2⟩ | ⟨g, cap, cur, h1, _⟩
  · exact ⟨none, 0, by rw [h1, h2]⟩
  · exact ⟨_, cap, h1⟩
set_option maxRecDepth 100000 in
set_option maxHeartbeats 16000000 in
theorem kept_yes {w W : World} {B a c p qb db lb sb tb rb : Nat} {P : Int} {T : Nat} {R : Int} {o : Bool} {D : KD} (hS : KS w B a c p qb db lb sb tb rb P T R o D W) (hB : KB P T R D) (hQN : ∀ t : Nat, (t : Int) < (T : Int) → (D.q t : Int) ≤ 1000000) :
    Calls Try.prog 33 #[.pointer (some ⟨a, 0, none⟩), .agg #[.int .i64 P, .int .i64 (T : Int), .int .i64 R], .slice (some ⟨lb, 0, none⟩) T T, .slice (some ⟨sb, 0, none⟩) (cellsN P (T : Int) R) (cellsN P (T : Int) R), .slice (some ⟨tb, 0, none⟩) (cellsN P (T : Int) R) (cellsN P (T : Int) R)] W fun e w' => e = .returned (.bool true) ∧ Below W.heap.size W w' := by
  have hR := hS.k.right
  have hlen := cellsN_bd hR
  have hcl : 4 < D.cs.length ∧ D.cs.length ≤ 1000000 := by rw [hS.k.cc.len]; have := hR.1; have := base_bd hR; omega
  have PK := Lib.hid (fun W' (hb : Below W.heap.size W W') => (hS.k.ary.grew hb).peek (i := 4) hcl.1 hcl.2)
  have hov := hS.k.cc.ov4
  have SS := Lib.hid (fun W' (hb : Below W.heap.size W W') => hS.grew hb)
  have hRt : R ≤ 16 := hR.2.2.2
  have hT6 : T ≤ 6 := by have := hR.2.1; omega
  have hl := Lib.hid hS.k.ll
  have hqq := Lib.hid hS.k.cc.hq
  have WT := Lib.hid (fun (t : Nat) (ht : t < T) W' (hb : Below W.heap.size W W') => waiting_yes P (T : Int) R (t : Int) (D.h t : Int) (D.q t : Int) (D.q t - D.h t) W' (hS.k.ary.grew hb) (exB_mk hR (by omega) (by omega)) hS.k.cc.len (hS.k.cc.hd t (by omega)) (hS.k.cc.tl t (by omega)) (by have := hS.k.cc.hq t (by omega); have := hR.2.2; rw [IntKind.wrap_u64]; omega) (by have := hS.k.cc.hq t (by omega); omega))
  have WG := Lib.hid (fun (t : Nat) (ht : t < T) (j : Nat) (hj : j < D.q t - D.h t) => (show (waitL R (t : Int) (D.h t : Int) D.cs (D.q t - D.h t)).getD j 0 = D.W t (D.h t + j) ∧ refB P (T : Int) R (D.W t (D.h t + j)) = true by
    have qn := hS.k.cc.hq t (by omega)
    have e : (waitL R (t : Int) (D.h t : Int) D.cs (D.q t - D.h t)).getD j 0 = D.cs.getD (slotN R t (IntKind.u64.wrap ((D.h t : Int) + (j : Int)))) 0 := by
      unfold waitL
      rw [List.getD_eq_getElem?_getD, List.getElem?_map, List.getElem?_range hj]; rfl
    have hqn : (D.q t : Int) ≤ 1000000 := hQN t (by omega)
    have e2 : IntKind.u64.wrap ((D.h t : Int) + (j : Int)) = ((D.h t + j : Nat) : Int) := by rw [IntKind.wrap_u64]; omega
    rw [e, e2]
    exact ⟨hS.k.cc.slot t (by omega) _ (by omega) (by omega), (hS.k.ll.wq t (by omega) _ (by omega)).2⟩))
  generalize D.cs.getD 4 0 = c4 at *
  obtain ⟨n, hn⟩ : ∃ n, cellsN P (T : Int) R = n := ⟨_, rfl⟩
  have hRL := Lib.hid (fun x (h : refB P (T : Int) R x = true) => ref_lt h)
  have hsl := hS.sl
  have hBs := hB.sn
  have hBt := hB.tk
  rw [hn] at hlen hRL hsl hBs hBt ⊢
  have hsn := Lib.hid hBs
  have htk := Lib.hid hBt
  have hsl := Lib.hid hsl
  have hlp := Lib.hid hB.lp
  have hn2 : n ≤ 2304 := hlen.2.2
  have hmk := Lib.hid (fun W => run_mkJ W n (by omega))
  clear hlen hcl hBs hBt hB hn hS
  go_enter Try.func33, Try.ntmps33
  go_wp2_with fail
  have hQ0 : Blk (W.alloc (.cells #[.int .i64 P, .int .i64 (T : Int), .int .i64 R] 23)) W.heap.size #[.int .i64 P, .int .i64 (T : Int), .int .i64 R] 23 := Blk.new _ _ _
  have hB0 : Below W.heap.size W (W.alloc (.cells #[.int .i64 P, .int .i64 (T : Int), .int .i64 R] 23)) := (Below.refl _ _).alloc (Nat.le_refl _) _
  refine (PK.out _ hB0).mono ?_; rintro e w1 ⟨rfl, hq1⟩
  have hQ1 := Blk.quiet hQ0 hq1
  have hB1 := hB0.trans hq1.below
  clear hQ0 hB0 hq1 PK
  cases hovb : D.ov with
  | true =>
    rw [hovb, if_pos rfl] at hov
    subst hov
    go_wp2
    go_ret
    exact ⟨rfl, hB1⟩
  | false =>
    rw [hovb, if_neg (by decide)] at hov
    subst hov
    have hov := Lib.hid hovb
    clear hovb
    have hmk1 := fun W => hmk.out W
    have hs1 := hB1.size
    have hl1 := hQ1.lt
    go_upto_region 5 with fail
    clear hmk1
    have hTB : ThB W W.heap.size w1.heap.size n P (T : Int) R D 0 (List.replicate n 0) (w1.alloc (.cells (rowI64 (List.replicate n 0)) 3)) := ⟨by simp, Blk.new _ _ _, Blk.alloc hQ1 _, fun u hu => absurd hu (Nat.not_lt_zero _), hB1.alloc hs1 _, Nat.le_refl _, hl1⟩
    replace hTB := Lib.hid hTB
    clear hQ1 hB1
    generalize w1.alloc (.cells (rowI64 (List.replicate n 0)) 3) = W1 at *
    generalize w1.heap.size = g at *
    go_wp2_with fail
    go_loopw [14] (fun i wr => ∃ (t : Nat) (th : List Int), t ≤ T ∧ i = .int .i64 (t : Int) ∧ Hid (ThB W W.heap.size g n P (T : Int) R D t th wr)) (fun i _ => T - (intOf i).toNat)
    case atStart => exact ⟨0, _, Nat.zero_le _, rfl, hTB⟩
    case round =>
      obtain ⟨t, th, ht, rfl, hTh⟩ := hrel
      clear hTB
      obtain ⟨w0, hw0⟩ : ∃ W, W = wr := ⟨_, rfl⟩
      subst hw0
      have ht0 : (0 : Int) ≤ (t : Int) := by omega
      have ht9 : (t : Int) < 1000 := by omega
      by_cases htT : t < T
      · have htT' : (t : Int) < (T : Int) := by omega
        have hSr := SS.out _ hTh.out.bel
        have hlB := hSr.lB.val t (rowL_get htT)
        have l9 := hl.out.le t htT'
        by_cases h8 : D.st t ≤ 8
        · rw [((hlp.out t htT).1 h8).1] at hlB
          have HD := Lib.hid (fun W' (hb : Below W.heap.size W W') => (SS.out _ hb).k.held htT' h8)
          by_cases hH : kHe (D.st t)
          · obtain ⟨x, hx, hxn, hx0⟩ := hRL.out _ (hl.out.ref t htT' h8)
            rw [if_pos hH, hx] at HD
            have hxz : ((x : Int) == 0) = false := beq_eq_false_iff_ne.2 (by omega)
            have hxnI : (x : Int) < (n : Int) := by omega
            have hx00 : (0 : Int) ≤ (x : Int) := by omega
            have HHe := Lib.hid (And.intro hx (And.intro hxn hH))
            clear hxn hx0 hH
            go_wp2_with fail
            refine (HD.out _ hTh.out.bel).mono ?_; rintro e w2 ⟨rfl, hq2⟩
            have hT2 := hTh.out.grew hq2.below
            have hlB2 := (SS.out _ hT2.bel).lB.val t (rowL_get htT)
            rw [((hlp.out t htT).1 h8).1] at hlB2
            go_wp2_with fail
            refine (HD.out _ hT2.bel).mono ?_; rintro e w3 ⟨rfl, hq3⟩
            have hT3 := hT2.grew hq3.below
            have hfz := hT3.blk.frozen x
            have hcx := hT3.blk.val x (rowI64_get (by rw [hT3.len]; exact HHe.out.2.1))
            have hT4 := hT3.store x
            have hQ4 := hT4.box.three.1
            have hth4 : kHe (D.st t) → (th.set x 1).getD (D.rf t).toNat 0 ≠ 0 := fun _ => by rw [HHe.out.1, Int.toNat_natCast]; exact set1_at (by rw [hT3.len]; exact HHe.out.2.1)
            replace hth4 := Lib.hid hth4
            replace hT4 := Lib.hid hT4
            clear hTh hT2 hT3 hlB hlB2 hSr HD hq2 hq3
            obtain ⟨y0, y1, y2⟩ := hQ4
            go_wp2_with fail
            generalize World.setCell w3 _ _ = w4 at *
            generalize th.set x 1 = th4 at *
            clear hfz hcx
            refine (splan_any _ _ _ _).mono ?_; rintro e w5 ⟨rfl, hb5⟩
            have hT5 := hT4.out.grew hb5
            go_wp2_with fail
            refine (WT.out t htT _ hT5.bel).mono ?_; rintro e w6 ⟨v, rfl, hrow, hb6⟩
            have hT6' := hT5.grew hb6
            have hz5 := hT5.bel.size
            obtain ⟨kk, hkk⟩ : ∃ kk, D.q t - D.h t = kk := ⟨_, rfl⟩
            have hrl := World.ownsRow.lt hrow
            have hrg : ∀ g', v.ownBlock = some g' → g' ≠ g := fun g' e r => sown_neT hrow hT6'.blk (by decide) (r ▸ e)
            have WG1 := Lib.hid (WG.out t htT)
            rw [hkk] at hrow WG1
            obtain ⟨A, cap, rfl⟩ := own_formV hrow
            generalize waitL R (t : Int) (D.h t : Int) D.cs kk = wl at *
            have hT6 := Lib.hid hT6'
            have hrow0 := Lib.hid hrow
            have hkk2 := hqq.out t htT'
            have hkb : (kk : Int) ≤ 16 := by have := hRt; omega
            have hkk' := Lib.hid hkk
            have hrg' := Lib.hid hrg
            clear hT4 hT5 hT6' hb5 hb6 y0 y1 y2 hrow hrl hrg hkk hkk2
            go_wp2_with fail
            go_loopw [17] (fun i wr => ∃ (j : Nat) (th2 : List Int), j ≤ kk ∧ i = .int .i64 (j : Int) ∧ Hid (ThB W W.heap.size g n P (T : Int) R D t th2 wr ∧ (kHe (D.st t) → th2.getD (D.rf t).toNat 0 ≠ 0) ∧ (∀ i, i < j → th2.getD (D.W t (D.h t + i)).toNat 0 ≠ 0) ∧ ∀ b, (Value.slice A kk cap).ownBlock = some b → wr.heap[b]? = w6.heap[b]?)) (fun i _ => kk - (intOf i).toNat)
            case atStart => exact ⟨0, _, Nat.zero_le _, rfl, Lib.hid ⟨hT6.out, hth4.out, fun i hi => absurd hi (Nat.not_lt_zero _), fun _ _ => rfl⟩⟩
            case round =>
              obtain ⟨j, th2, hj, rfl, hJ⟩ := hrel
              have hj0 : (0 : Int) ≤ (j : Int) := by omega
              have hj9 : (j : Int) < 1000 := by omega
              by_cases hjk : j < kk
              · have hjk' : (j : Int) < (kk : Int) := by omega
                obtain ⟨gw, cap', hAe, hg1, hg2, hg3⟩ := own_formS hrow0.out (by omega)
                obtain ⟨rfl, -, rfl⟩ := Value.slice.inj hAe
                have hcl := hrow0.out.cellAt j (by rw [← hrow0.out.1]; simp only [List.length_map] at *; have := hrow0.out.1; simp at this; omega)
                have hcl2 := (World.cell?_of_block (a := ⟨gw, j, none⟩) (hJ.out.2.2.2 gw rfl)).trans hcl
                obtain ⟨e1, e2⟩ := WG1.out j hjk
                obtain ⟨x, hx, hxn, hx0⟩ := hRL.out _ e2
                have hwl : (wl.map (Value.int .u64))[j]? = some (.int .u64 (x : Int)) := by
                  have hlw : j < wl.length := by have := hrow0.out.1; simp at this; omega
                  rw [List.getElem?_map, List.getElem?_eq_getElem hlw]
                  rw [List.getD_eq_getElem?_getD, List.getElem?_eq_getElem hlw] at e1
                  simp only [Option.getD_some] at e1
                  rw [e1, hx]; rfl
                rw [hwl] at hcl2
                have hxnI : ¬ (n : Int) ≤ (x : Int) := by omega
                have hxnJ : (x : Int) < (n : Int) := by omega
                have hx00 : (0 : Int) ≤ (x : Int) := by omega
                have hnw : IntKind.u64.wrap (n : Int) = (n : Int) := by rw [IntKind.wrap_u64]; omega
                have hfz := hJ.out.1.blk.frozen x
                have hcx := hJ.out.1.blk.val x (rowI64_get (by rw [hJ.out.1.len]; exact hxn))
                have hN : Hid (ThB W W.heap.size g n P (T : Int) R D t (th2.set x 1) (wr.setCell ⟨g, x, none⟩ (.int .i64 1)) ∧ (kHe (D.st t) → (th2.set x 1).getD (D.rf t).toNat 0 ≠ 0) ∧ (∀ i, i < j + 1 → (th2.set x 1).getD (D.W t (D.h t + i)).toNat 0 ≠ 0) ∧ ∀ b, (Value.slice (some ⟨gw, 0, none⟩) kk cap).ownBlock = some b → (wr.setCell ⟨g, x, none⟩ (.int .i64 1)).heap[b]? = w6.heap[b]?) := by
                  refine Lib.hid ⟨hJ.out.1.store x, fun e => set1_ne (hJ.out.2.1 e), fun i hi => ?_, fun b hb => ?_⟩
                  · by_cases e : i = j
                    · subst e; rw [hx, Int.toNat_natCast]; exact set1_at (by rw [hJ.out.1.len]; exact hxn)
                    · exact set1_ne (hJ.out.2.2.1 i (by omega))
                  · rw [← hJ.out.2.2.2 b hb]
                    exact Below.heap_setCell _ _ _ _ (hrg'.out b hb)
                clear hJ hcl hwl e1 e2 hxn hx0 hAe hx
                go_wp2
                go_roundw
                case rel => exact ⟨j + 1, _, by omega, by go_num, hN⟩
                case measure => simp [intOf]; omega
              · obtain rfl : j = kk := by omega
                have hjj : ¬ (j : Int) < (j : Int) := by omega
                have hN : Hid (ThB W W.heap.size g n P (T : Int) R D (t + 1) th2 wr) := by
                  obtain ⟨q1, q2, q3, q4⟩ := hJ.out
                  refine Lib.hid ⟨q1.len, q1.blk, q1.box, fun u hu => ?_, q1.bel, q1.lg⟩
                  by_cases e : u = t
                  · subst e
                    refine ⟨q2, fun i i1 i2 => ?_⟩
                    have := q3 (i - D.h u) (by have := hkk'.out; omega)
                    rw [show D.h u + (i - D.h u) = i by omega] at this
                    exact this
                  · exact q1.th u (by omega)
                clear hJ
                go_wp2
                go_roundw
                case rel => exact ⟨t + 1, _, by omega, by go_num, hN⟩
                case measure => simp [intOf]; omega
          · rw [if_neg hH] at HD
            go_wp2_with fail
            refine (HD.out _ hTh.out.bel).mono ?_; rintro e w4 ⟨rfl, hq2⟩
            have hT4 := Lib.hid (hTh.out.grew hq2.below)
            have hth4 := Lib.hid (fun (e : kHe (D.st t)) => (absurd e hH : th.getD (D.rf t).toNat 0 ≠ 0))
            obtain ⟨y0, y1, y2⟩ := hT4.out.box.three.1
            clear hTh hlB hSr HD hq2
            go_wp2_with fail
            obtain ⟨th4, hth⟩ : ∃ l, l = th := ⟨_, rfl⟩
            subst hth
            refine (splan_any _ _ _ _).mono ?_; rintro e w5 ⟨rfl, hb5⟩
            have hT5 := hT4.out.grew hb5
            go_wp2_with fail
            refine (WT.out t htT _ hT5.bel).mono ?_; rintro e w6 ⟨v, rfl, hrow, hb6⟩
            have hT6' := hT5.grew hb6
            have hz5 := hT5.bel.size
            obtain ⟨kk, hkk⟩ : ∃ kk, D.q t - D.h t = kk := ⟨_, rfl⟩
            have hrl := World.ownsRow.lt hrow
            have hrg : ∀ g', v.ownBlock = some g' → g' ≠ g := fun g' e r => sown_neT hrow hT6'.blk (by decide) (r ▸ e)
            have WG1 := Lib.hid (WG.out t htT)
            rw [hkk] at hrow WG1
            obtain ⟨A, cap, rfl⟩ := own_formV hrow
            generalize waitL R (t : Int) (D.h t : Int) D.cs kk = wl at *
            have hT6 := Lib.hid hT6'
            have hrow0 := Lib.hid hrow
            have hkk2 := hqq.out t htT'
            have hkb : (kk : Int) ≤ 16 := by have := hRt; omega
            have hkk' := Lib.hid hkk
            have hrg' := Lib.hid hrg
            clear hT4 hT5 hT6' hb5 hb6 y0 y1 y2 hrow hrl hrg hkk hkk2
            go_wp2_with fail
            go_loopw [17] (fun i wr => ∃ (j : Nat) (th2 : List Int), j ≤ kk ∧ i = .int .i64 (j : Int) ∧ Hid (ThB W W.heap.size g n P (T : Int) R D t th2 wr ∧ (kHe (D.st t) → th2.getD (D.rf t).toNat 0 ≠ 0) ∧ (∀ i, i < j → th2.getD (D.W t (D.h t + i)).toNat 0 ≠ 0) ∧ ∀ b, (Value.slice A kk cap).ownBlock = some b → wr.heap[b]? = w6.heap[b]?)) (fun i _ => kk - (intOf i).toNat)
            case atStart => exact ⟨0, _, Nat.zero_le _, rfl, Lib.hid ⟨hT6.out, hth4.out, fun i hi => absurd hi (Nat.not_lt_zero _), fun _ _ => rfl⟩⟩
            case round =>
              obtain ⟨j, th2, hj, rfl, hJ⟩ := hrel
              have hj0 : (0 : Int) ≤ (j : Int) := by omega
              have hj9 : (j : Int) < 1000 := by omega
              by_cases hjk : j < kk
              · have hjk' : (j : Int) < (kk : Int) := by omega
                obtain ⟨gw, cap', hAe, hg1, hg2, hg3⟩ := own_formS hrow0.out (by omega)
                obtain ⟨rfl, -, rfl⟩ := Value.slice.inj hAe
                have hcl := hrow0.out.cellAt j (by rw [← hrow0.out.1]; simp only [List.length_map] at *; have := hrow0.out.1; simp at this; omega)
                have hcl2 := (World.cell?_of_block (a := ⟨gw, j, none⟩) (hJ.out.2.2.2 gw rfl)).trans hcl
                obtain ⟨e1, e2⟩ := WG1.out j hjk
                obtain ⟨x, hx, hxn, hx0⟩ := hRL.out _ e2
                have hwl : (wl.map (Value.int .u64))[j]? = some (.int .u64 (x : Int)) := by
                  have hlw : j < wl.length := by have := hrow0.out.1; simp at this; omega
                  rw [List.getElem?_map, List.getElem?_eq_getElem hlw]
                  rw [List.getD_eq_getElem?_getD, List.getElem?_eq_getElem hlw] at e1
                  simp only [Option.getD_some] at e1
                  rw [e1, hx]; rfl
                rw [hwl] at hcl2
                have hxnI : ¬ (n : Int) ≤ (x : Int) := by omega
                have hxnJ : (x : Int) < (n : Int) := by omega
                have hx00 : (0 : Int) ≤ (x : Int) := by omega
                have hnw : IntKind.u64.wrap (n : Int) = (n : Int) := by rw [IntKind.wrap_u64]; omega
                have hfz := hJ.out.1.blk.frozen x
                have hcx := hJ.out.1.blk.val x (rowI64_get (by rw [hJ.out.1.len]; exact hxn))
                have hN : Hid (ThB W W.heap.size g n P (T : Int) R D t (th2.set x 1) (wr.setCell ⟨g, x, none⟩ (.int .i64 1)) ∧ (kHe (D.st t) → (th2.set x 1).getD (D.rf t).toNat 0 ≠ 0) ∧ (∀ i, i < j + 1 → (th2.set x 1).getD (D.W t (D.h t + i)).toNat 0 ≠ 0) ∧ ∀ b, (Value.slice (some ⟨gw, 0, none⟩) kk cap).ownBlock = some b → (wr.setCell ⟨g, x, none⟩ (.int .i64 1)).heap[b]? = w6.heap[b]?) := by
                  refine Lib.hid ⟨hJ.out.1.store x, fun e => set1_ne (hJ.out.2.1 e), fun i hi => ?_, fun b hb => ?_⟩
                  · by_cases e : i = j
                    · subst e; rw [hx, Int.toNat_natCast]; exact set1_at (by rw [hJ.out.1.len]; exact hxn)
                    · exact set1_ne (hJ.out.2.2.1 i (by omega))
                  · rw [← hJ.out.2.2.2 b hb]
                    exact Below.heap_setCell _ _ _ _ (hrg'.out b hb)
                clear hJ hcl hwl e1 e2 hxn hx0 hAe hx
                go_wp2
                go_roundw
                case rel => exact ⟨j + 1, _, by omega, by go_num, hN⟩
                case measure => simp [intOf]; omega
              · obtain rfl : j = kk := by omega
                have hjj : ¬ (j : Int) < (j : Int) := by omega
                have hN : Hid (ThB W W.heap.size g n P (T : Int) R D (t + 1) th2 wr) := by
                  obtain ⟨q1, q2, q3, q4⟩ := hJ.out
                  refine Lib.hid ⟨q1.len, q1.blk, q1.box, fun u hu => ?_, q1.bel, q1.lg⟩
                  by_cases e : u = t
                  · subst e
                    refine ⟨q2, fun i i1 i2 => ?_⟩
                    have := q3 (i - D.h u) (by have := hkk'.out; omega)
                    rw [show D.h u + (i - D.h u) = i by omega] at this
                    exact this
                  · exact q1.th u (by omega)
                clear hJ
                go_wp2
                go_roundw
                case rel => exact ⟨t + 1, _, by omega, by go_num, hN⟩
                case measure => simp [intOf]; omega
        · rw [(hlp.out t htT).2 (by omega)] at hlB
          have hT4 := hTh
          have hth4 := Lib.hid (fun (e : kHe (D.st t)) => (absurd e (by unfold kHe; omega) : th.getD (D.rf t).toNat 0 ≠ 0))
          obtain ⟨y0, y1, y2⟩ := hT4.out.box.three.1
          clear hTh
          go_wp2_with fail
          obtain ⟨th4, hth⟩ : ∃ l, l = th := ⟨_, rfl⟩
          subst hth
          obtain ⟨w4, hw4⟩ : ∃ W, W = w0 := ⟨_, rfl⟩
          subst hw4
          clear hlB hSr
          refine (splan_any _ _ _ _).mono ?_; rintro e w5 ⟨rfl, hb5⟩
          have hT5 := hT4.out.grew hb5
          go_wp2_with fail
          refine (WT.out t htT _ hT5.bel).mono ?_; rintro e w6 ⟨v, rfl, hrow, hb6⟩
          have hT6' := hT5.grew hb6
          have hz5 := hT5.bel.size
          obtain ⟨kk, hkk⟩ : ∃ kk, D.q t - D.h t = kk := ⟨_, rfl⟩
          have hrl := World.ownsRow.lt hrow
          have hrg : ∀ g', v.ownBlock = some g' → g' ≠ g := fun g' e r => sown_neT hrow hT6'.blk (by decide) (r ▸ e)
          have WG1 := Lib.hid (WG.out t htT)
          rw [hkk] at hrow WG1
          obtain ⟨A, cap, rfl⟩ := own_formV hrow
          generalize waitL R (t : Int) (D.h t : Int) D.cs kk = wl at *
          have hT6 := Lib.hid hT6'
          have hrow0 := Lib.hid hrow
          have hkk2 := hqq.out t htT'
          have hkb : (kk : Int) ≤ 16 := by have := hRt; omega
          have hkk' := Lib.hid hkk
          have hrg' := Lib.hid hrg
          clear hT4 hT5 hT6' hb5 hb6 y0 y1 y2 hrow hrl hrg hkk hkk2
          go_wp2_with fail
          go_loopw [17] (fun i wr => ∃ (j : Nat) (th2 : List Int), j ≤ kk ∧ i = .int .i64 (j : Int) ∧ Hid (ThB W W.heap.size g n P (T : Int) R D t th2 wr ∧ (kHe (D.st t) → th2.getD (D.rf t).toNat 0 ≠ 0) ∧ (∀ i, i < j → th2.getD (D.W t (D.h t + i)).toNat 0 ≠ 0) ∧ ∀ b, (Value.slice A kk cap).ownBlock = some b → wr.heap[b]? = w6.heap[b]?)) (fun i _ => kk - (intOf i).toNat)
          case atStart => exact ⟨0, _, Nat.zero_le _, rfl, Lib.hid ⟨hT6.out, hth4.out, fun i hi => absurd hi (Nat.not_lt_zero _), fun _ _ => rfl⟩⟩
          case round =>
            obtain ⟨j, th2, hj, rfl, hJ⟩ := hrel
            have hj0 : (0 : Int) ≤ (j : Int) := by omega
            have hj9 : (j : Int) < 1000 := by omega
            by_cases hjk : j < kk
            · have hjk' : (j : Int) < (kk : Int) := by omega
              obtain ⟨gw, cap', hAe, hg1, hg2, hg3⟩ := own_formS hrow0.out (by omega)
              obtain ⟨rfl, -, rfl⟩ := Value.slice.inj hAe
              have hcl := hrow0.out.cellAt j (by rw [← hrow0.out.1]; simp only [List.length_map] at *; have := hrow0.out.1; simp at this; omega)
              have hcl2 := (World.cell?_of_block (a := ⟨gw, j, none⟩) (hJ.out.2.2.2 gw rfl)).trans hcl
              obtain ⟨e1, e2⟩ := WG1.out j hjk
              obtain ⟨x, hx, hxn, hx0⟩ := hRL.out _ e2
              have hwl : (wl.map (Value.int .u64))[j]? = some (.int .u64 (x : Int)) := by
                have hlw : j < wl.length := by have := hrow0.out.1; simp at this; omega
                rw [List.getElem?_map, List.getElem?_eq_getElem hlw]
                rw [List.getD_eq_getElem?_getD, List.getElem?_eq_getElem hlw] at e1
                simp only [Option.getD_some] at e1
                rw [e1, hx]; rfl
              rw [hwl] at hcl2
              have hxnI : ¬ (n : Int) ≤ (x : Int) := by omega
              have hxnJ : (x : Int) < (n : Int) := by omega
              have hx00 : (0 : Int) ≤ (x : Int) := by omega
              have hnw : IntKind.u64.wrap (n : Int) = (n : Int) := by rw [IntKind.wrap_u64]; omega
              have hfz := hJ.out.1.blk.frozen x
              have hcx := hJ.out.1.blk.val x (rowI64_get (by rw [hJ.out.1.len]; exact hxn))
              have hN : Hid (ThB W W.heap.size g n P (T : Int) R D t (th2.set x 1) (wr.setCell ⟨g, x, none⟩ (.int .i64 1)) ∧ (kHe (D.st t) → (th2.set x 1).getD (D.rf t).toNat 0 ≠ 0) ∧ (∀ i, i < j + 1 → (th2.set x 1).getD (D.W t (D.h t + i)).toNat 0 ≠ 0) ∧ ∀ b, (Value.slice (some ⟨gw, 0, none⟩) kk cap).ownBlock = some b → (wr.setCell ⟨g, x, none⟩ (.int .i64 1)).heap[b]? = w6.heap[b]?) := by
                refine Lib.hid ⟨hJ.out.1.store x, fun e => set1_ne (hJ.out.2.1 e), fun i hi => ?_, fun b hb => ?_⟩
                · by_cases e : i = j
                  · subst e; rw [hx, Int.toNat_natCast]; exact set1_at (by rw [hJ.out.1.len]; exact hxn)
                  · exact set1_ne (hJ.out.2.2.1 i (by omega))
                · rw [← hJ.out.2.2.2 b hb]
                  exact Below.heap_setCell _ _ _ _ (hrg'.out b hb)
              clear hJ hcl hwl e1 e2 hxn hx0 hAe hx
              go_wp2
              go_roundw
              case rel => exact ⟨j + 1, _, by omega, by go_num, hN⟩
              case measure => simp [intOf]; omega
            · obtain rfl : j = kk := by omega
              have hjj : ¬ (j : Int) < (j : Int) := by omega
              have hN : Hid (ThB W W.heap.size g n P (T : Int) R D (t + 1) th2 wr) := by
                obtain ⟨q1, q2, q3, q4⟩ := hJ.out
                refine Lib.hid ⟨q1.len, q1.blk, q1.box, fun u hu => ?_, q1.bel, q1.lg⟩
                by_cases e : u = t
                · subst e
                  refine ⟨q2, fun i i1 i2 => ?_⟩
                  have := q3 (i - D.h u) (by have := hkk'.out; omega)
                  rw [show D.h u + (i - D.h u) = i by omega] at this
                  exact this
                · exact q1.th u (by omega)
              clear hJ
              go_wp2
              go_roundw
              case rel => exact ⟨t + 1, _, by omega, by go_num, hN⟩
              case measure => simp [intOf]; omega
      · obtain rfl : t = T := by omega
        have htt : ¬ (t : Int) < (t : Int) := by omega
        go_wp2_with fail
        clear htt
        have hTw := Lib.hid hTh.out
        go_loopw [18] (fun i wr => ∃ (j : Nat), j ≤ n ∧ i = .int .i64 (j : Int) ∧ wr = w0) (fun i _ => n - (intOf i).toNat)
        case atStart => exact ⟨0, Nat.zero_le _, rfl, rfl⟩
        case round =>
          obtain ⟨j, hj, rfl, rfl⟩ := hrel
          have hj0 : (0 : Int) ≤ (j : Int) := by omega
          have hj9 : (j : Int) < 100000 := by omega
          by_cases hjn : j < n
          · have hjn' : (j : Int) < (n : Int) := by omega
            have hSr := SS.out _ hTw.out.bel
            have cs1 := hSr.sB.val j (rowI64_get (by rw [hsl.out.1]; exact hjn))
            have ct1 := hSr.tB.val j (rowI64_get (by rw [hsl.out.2]; exact hjn))
            have cth := hTw.out.blk.val j (rowI64_get (by rw [hTw.out.len]; exact hjn))
            rw [hsn.out j hjn] at cs1
            rw [htk.out j hjn] at ct1
            cases hSj : D.Sn (j : Int) with
            | false =>
              rw [hSj, if_neg (by decide)] at cs1
              clear ct1 cth hSr
              go_wp2
              go_roundw
              case rel => exact ⟨j + 1, by omega, by go_num, by first | trivial | rfl⟩
              case measure => simp [intOf]; omega
            | true =>
              rw [hSj, if_pos rfl] at cs1
              cases hTj : D.Tk (j : Int) with
              | true =>
                rw [hTj, if_pos rfl] at ct1
                clear cth hSr
                go_wp2
                go_roundw
                case rel => exact ⟨j + 1, by omega, by go_num, by first | trivial | rfl⟩
                case measure => simp [intOf]; omega
              | false =>
                rw [hTj, if_neg (by decide)] at ct1
                have hne : th.getD j 0 ≠ 0 := by
                  rcases hl.out.ev _ hSj with r | ⟨u, hu, r1, r2⟩ | ⟨u, hu, i, hi, r⟩
                  · rw [hov.out] at r; cases r
                  · have := (hTw.out.th u (by omega)).1 r1
                    rw [r2, Int.toNat_natCast] at this
                    exact this
                  · by_cases hih : i < D.h u
                    · have := (hl.out.tk (j : Int)).2 ⟨u, hu, i, hih, r⟩
                      rw [hTj] at this; cases this
                    · have := (hTw.out.th u (by omega)).2 i (by omega) hi
                      rw [r, Int.toNat_natCast] at this
                      exact this
                have hnz : (th.getD j 0 == 0) = false := beq_eq_false_iff_ne.2 hne
                generalize th.getD j 0 = z at *
                clear hSr hne
                go_wp2
                go_roundw
                case rel => exact ⟨j + 1, by omega, by go_num, by first | trivial | rfl⟩
                case measure => simp [intOf]; omega
          · obtain rfl : j = n := by omega
            have hjj : ¬ (j : Int) < (j : Int) := by omega
            have hBf := Lib.hid hTw.out.bel
            go_wp2
            go_ret
            exact ⟨rfl, hBf.out⟩
end Go.Proofs.Ytlhigibgjggidaa
