/- Texts of this seat, one behind the other: each says at its head what it holds. No condition of its own. -/
import Derived.Deep.QuietTactic
import Derived.BigQuiet
import Derived.Deep.AppendLies
import Derived.RegionTactic
import Derived.Test.YtichmgilglaglaaGreatDoorGObjectsRefs28
/- The document's Refs and Span; Span. Conditions: the classes and the object's words are read in full. -/
namespace Go.Proofs.YtichmgilglaglaaGreatDoor
open Go.RowKit Go.Shelf
set_option linter.unusedVariables false
def refsN (zs : List Int) (l : List Nat) : List Int := (l.map fun i => zs.getD i 0).filter fun z => z != 0
theorem refsN_no {zs : List Int} {l : List Nat} {x : Nat} (h : zs.getD x 0 = 0) : refsN zs (l ++ [x]) = refsN zs l := by
  unfold refsN
  rw [List.map_append, List.filter_append, List.map_cons, List.map_nil, h]
  simp
theorem refsN_yes {zs : List Int} {l : List Nat} {x : Nat} (h : zs.getD x 0 ≠ 0) : refsN zs (l ++ [x]) = refsN zs l ++ [zs.getD x 0] := by
  unfold refsN
  rw [List.map_append, List.filter_append, List.map_cons, List.map_nil]
  generalize zs.getD x 0 = z at *
  simp [h]
theorem refsN_len {zs : List Int} (l : List Nat) : (refsN zs l).length ≤ l.length := by
  unfold refsN
  have := List.length_filter_le (fun z => z != 0) (l.map fun i => zs.getD i 0)
  rw [List.length_map] at this
  exact this
theorem own_drewO {w : World} {b : Nat} {e : TypeId} {size : Nat} {v : Value} {n : Nat} {xs : List Value} (h : w.ownsRow b e size v n xs) : w.drew.ownsRow b e size v n xs := own_grewG h (Quiet.below ⟨1, rfl⟩)
theorem ptrL_lt {cl : List ClsD} {c k : Int} {N j : Nat} (h : j ∈ ptrL cl c k (N : Int)) : j < N := by
  unfold ptrL at h
  split at h
  · rw [Int.toNat_natCast] at h; exact ptrs_lt h
  · simp at h
theorem ptrL_len {cl : List ClsD} {c k : Int} {N : Nat} : (ptrL cl c k (N : Int)).length ≤ N := by
  unfold ptrL
  split
  · rw [Int.toNat_natCast]; exact ptrs_len _ _ _ _
  · simp
set_option maxRecDepth 100000 in
set_option maxHeartbeats 8000000 in
theorem rrefs_any (w : World) (B : Nat) (v : Value) (cl : List ClsD) (ad c k : Int) (vw : Value) (zs : List Int) (h : RdRow 2 (ElC B) B w v cl) (hB : B ≤ w.heap.size) (hl : cl.length ≤ 16) (hf : ∀ d ∈ cl, d.fields.length ≤ 15) (hw : RdRow 1 ElI w.heap.size w vw zs) (hn : zs.length ≤ 400) :
    Calls Tryz.prog 41 #[v, .agg #[.int .i64 ad, .int .i64 c, .int .i64 k, vw]] w fun e w' => ∃ u, e = .returned u ∧ w'.ownsRow w.heap.size 2 1 u (refsL cl c k zs).length (ints64 (refsL cl c k zs)) ∧ Below w.heap.size w w' := by
  obtain ⟨a1, q1, rfl⟩ := rd_shape hw
  obtain ⟨av, qv, rfl⟩ := rd_shape h
  have RW := Lib.hid (fun W (hb : Below w.heap.size w W) => hw.keep hb fun _ _ _ e r => r.keep hb e)
  have RP := Lib.hid (fun W (hb : Below w.heap.size w W) => rpointers_any W B _ cl c k (zs.length : Int) (h.keep (hb.mono hB) fun _ _ _ e r => r.keep (hb.mono hB) e) (Nat.le_trans hB hb.size) hl hf)
  have HF := Lib.hid (show refsN zs (ptrL cl c k zs.length) = refsL cl c k zs from rfl)
  have HZ := Lib.hid (fun (i : Nat) (hi : i < zs.length) => show zs[i] = zs.getD i 0 by rw [List.getD_eq_getElem?_getD, List.getElem?_eq_getElem hi]; rfl)
  have HL := Lib.hid (fun (j : Nat) (hj : j ∈ ptrL cl c k (zs.length : Int)) => ptrL_lt hj)
  have HLN := Lib.hid (ptrL_len (cl := cl) (c := c) (k := k) (N := zs.length))
  clear h hw hl hf hB
  have hC := cellNew w ad c k (.slice a1 zs.length q1) 80
  have hBw : Below w.heap.size w (w.alloc (.cells #[.int .i64 ad, .int .i64 c, .int .i64 k, .slice a1 zs.length q1] 80)) := (Below.refl _ _).alloc (Nat.le_refl _) _
  have c0 := hC.val 0 rfl
  have c1 := hC.val 1 rfl
  have c2 := hC.val 2 rfl
  have c3 := hC.val 3 rfl
  go_enter Tryz.func41, Tryz.ntmps41
  go_wp2_with fail
  refine (rchead_any _ _ _ _ _ _ _).mono ?_
  rintro e w1 ⟨rfl, hb1⟩
  have hC1 := hC.grew hb1
  have hB1 := hBw.trans (hb1.mono hBw.size)
  clear hC hBw hb1 c0 c1 c2 c3
  go_wp2_with fail
  refine (RP.out _ hB1).mono ?_
  rintro e w2 ⟨p, rfl, hp, hb2⟩
  have hC2 := hC1.grew hb2
  have hB2 := hB1.trans (hb2.mono hB1.size)
  obtain ⟨ap, kp, hpv⟩ : ∃ a c', p = .slice a (ptrL cl c k (zs.length : Int)).length c' := by
    rcases hp.2 with ⟨h1, h2⟩ | ⟨g, cap, cur, h1, _⟩
    · exact ⟨none, 0, by rw [h1, h2]⟩
    · exact ⟨_, cap, h1⟩
  subst hpv
  generalize hPP : ptrL cl c k (zs.length : Int) = P at *
  replace hPP := Lib.hid hPP
  have KC := Lib.hid (fun W (hb : Below w2.heap.size w2 W) => (hC2.grew hb).val 3 rfl)
  have KP := Lib.hid (fun W (hb : Below w2.heap.size w2 W) => own_grewG hp hb)
  have KW := Lib.hid (fun W (hb : Below w2.heap.size w2 W) => RW.out W (hB2.trans (hb.mono hB2.size)))
  have HB2 := Lib.hid hB2
  have HLEN := Lib.hid (show P.length ≤ 400 by have := HLN.out; omega)
  obtain ⟨i0, Z⟩ := info_parts info_i64
  have Z := Lib.hid Z
  clear hC1 hB1 hb2 hC2 hB2 hp RP RW
  go_wp2_with fail
  go_loopw [5, 7] (fun x y wr => ∃ (i : Nat) (u : Value), i ≤ P.length ∧ y = .int .i64 i ∧ u = x ∧ wr.ownsRow w2.heap.size 2 1 u (refsN zs (P.take i)).length (ints64 (refsN zs (P.take i))) ∧ Below w2.heap.size w2 wr) (fun _ y _ => P.length - (intOf y).toNat)
  case atStart => exact ⟨0, _, Nat.zero_le _, rfl, rfl, World.ownsRow_nil _ _ _ _, Below.refl _ _⟩
  case round =>
    obtain ⟨i, u, hi, rfl, rfl, ho, hb⟩ := hrel
    by_cases hlt : i < P.length
    · have hlt' : (i : Int) < (P.length : Int) := by omega
      have hPl : P.length ≤ 400 := HLEN.out
      obtain ⟨j, hj⟩ : ∃ j, P[i] = j := ⟨_, rfl⟩
      have hjm : j ∈ P := by rw [← hj]; exact List.getElem_mem hlt
      have hjl := HL.out j hjm
      have hsn : Hid (P.take (i + 1) = P.take i ++ [j]) := Lib.hid (by rw [List.take_add_one, List.getElem?_eq_getElem hlt, hj]; rfl)
      have hp := KP.out wr hb
      obtain ⟨gp, hap⟩ : ∃ g, ap = some ⟨g, 0, none⟩ := by
        rcases hp.2 with ⟨h1, h2⟩ | ⟨g, cap, cur, h1, _⟩
        · omega
        · injection h1 with h1 _ _; exact ⟨g, h1⟩
      subst hap
      have pc := hp.cellAt i (by omega)
      have hpc : wr.cell? ⟨gp, i, none⟩ = some (.int .i64 (j : Int)) := by
        rw [pc]
        unfold natC
        rw [List.getElem?_map, List.getElem?_eq_getElem hlt, hj]
        rfl
      obtain ⟨b, o, rfl, hbw, ex1, ex2⟩ := rd_at (KW.out wr hb) hjl
      rw [HZ.out j hjl, Nat.mul_one] at ex1
      have hcc := KC.out wr hb
      have hj1 : (j : Int) < (zs.length : Int) := by omega
      have hj0 : (0 : Int) ≤ (j : Int) := by omega
      have hi0' : (0 : Int) ≤ (i : Int) := by omega
      have hR := Lib.hid (refsN_no (zs := zs) (l := P.take i) (x := j))
      have hY := Lib.hid (refsN_yes (zs := zs) (l := P.take i) (x := j))
      have hrl := Lib.hid (show (refsN zs (P.take i)).length ≤ 400 by have := refsN_len (zs := zs) (P.take i); rw [List.length_take] at this; have := HLEN.out; omega)
      clear pc hp hj hjm
      generalize zs.getD j 0 = z at *
      by_cases hz : z = 0
      · have hzb : (z != 0) = false := by simpa using hz
        have hE := Lib.hid (hR.out hz)
        have HH := Lib.hid (And.intro ho hb)
        replace hz := Lib.hid hz
        clear ho hb hR hY
        go_wp2
        go_quiet (fail)
        go_wp2
        go_roundw
        case rel => exact ⟨i + 1, _, by omega, by go_num, rfl, by rw [hsn.out, hE.out]; exact own_grewG HH.out.1 (Quiet.below ⟨_, rfl⟩), HH.out.2.trans (Quiet.below ⟨_, rfl⟩)⟩
        case measure => simp [intOf]; omega
      · have hzb : (z != 0) = true := by simpa using hz
        have hE := Lib.hid (hY.out hz)
        have HH := Lib.hid (And.intro ho hb)
        replace hz := Lib.hid hz
        clear ho hb hR hY
        go_wp2
        go_quiet (fail)
        generalize hW5 : wr.drewN _ = W5 at *
        have hq5 : Quiet wr W5 := ⟨_, hW5.symm⟩
        replace hW5 := Lib.hid hW5
        have p1 := (hq5.cell _).trans hpc
        have p2 := (hq5.cell _).trans ex1
        have p3 := (hq5.cell _).trans hcc
        generalize refsN zs (P.take i) = rp at *
        have HO5 := Lib.hid (own_grewG HH.out.1 hq5.below)
        have HB5 := Lib.hid (HH.out.2.trans hq5.below)
        have hsz5 : w2.heap.size ≤ W5.heap.size := HB5.out.size
        clear hpc ex1 hcc hq5
        go_wp2
        go_region_law ((refine step_append_lies _ (by rfl) _ _ _ (by rfl) w2.heap.size 2 i0 _ 1 8 Tryz.underlying78 Z.out.1 Z.out.2.1 Z.out.2.2.1 Z.out.2.2.2 rfl (by omega) u rp.length (ints64 rp) (by rfl) (own_drewO (HO5.out.alloc _)) ⟨W5.heap.size, 0, none⟩ 1 1 [.int .i64 z] (by rfl) (by rfl) (World.news_of_block (cs := #[.int .i64 z]) (t := 2) (fr := (0, 0)) (World.alloc_heap_new W5 _)) (by simp [Value.oneCell']) (by omega) (by have := hrl.out; unfold maxLen; omega) (by have := hrl.out; omega) (by simp; omega) (W5.heap.size + 1) (by simp) ?_; intro g cap w6 hown hgrow hat hlt9))
        all_goals
          have hb7 := (HB5.out.alloc hsz5 (.cells #[.int .i64 z] 2)).drew.grown hgrow (by simp [World.drew]; omega) (fun q hq => (own_ltG HO5.out hq).1)
          have HF7 := Lib.hid (And.intro hown hb7)
          clear hown hgrow hb7 hat hlt9
          go_wp2
          go_roundw
          case rel => exact ⟨i + 1, _, by omega, by go_num, rfl, by rw [hsn.out, hE.out]; unfold ints64; rw [List.map_append, List.length_append]; exact HF7.out.1, HF7.out.2⟩
          case measure => simp [intOf]; omega
    · obtain rfl : i = P.length := by omega
      rw [List.take_length, HF.out] at ho
      have hlt' : ¬ (P.length : Int) < (P.length : Int) := by omega
      have HH := Lib.hid (And.intro ho hb)
      clear ho hb
      go_wp2
      go_ret
      exact ⟨_, rfl, own_sub HH.out.1 HB2.out.size, HB2.out.trans (HH.out.2.mono HB2.out.size)⟩
set_option maxHeartbeats 1000000 in
theorem ospan_any (ad c k : Int) (a : Option Addr) (n q : Nat) (w : World) (hW : Wid w) :
    Calls Tryz.prog 42 #[.agg #[.int .i64 ad, .int .i64 c, .int .i64 k, .slice a n q]] w fun e w' => e = .returned (.int .i64 (rdV (wordsV c k (n : Int)))) ∧ Below w.heap.size w w' := by
  have hC := cellNew w ad c k (.slice a n q) 80
  have hB : Below w.heap.size w (w.alloc (.cells #[.int .i64 ad, .int .i64 c, .int .i64 k, .slice a n q] 80)) := (Below.refl _ _).alloc (Nat.le_refl _) _
  have c0 := hC.val 0 rfl
  have c1 := hC.val 1 rfl
  have c2 := hC.val 2 rfl
  have c3 := hC.val 3 rfl
  have WI := Lib.hid (fun W (hb : Below w.heap.size w W) => hW.grew hb)
  have HB := Lib.hid hB
  have WD := Lib.hid (fun W => words_anyRhead c k (n : Int) W)
  have RD := Lib.hid (fun W (h : Wid W) => rounds_any (wordsV c k (n : Int)) W h)
  clear hC hB hW
  generalize wordsV c k (n : Int) = M at *
  generalize rdV M = V at *
  go_enter Tryz.func42, Tryz.ntmps42
  go_wp2_with fail
  refine (ochead_any _ _ _ _ _ _ _).mono ?_; rintro e w1 ⟨rfl, hb1⟩
  have hB1 := HB.out.trans (hb1.mono HB.out.size)
  clear hb1 c0 c1 c2 c3
  go_wp2_with fail
  refine (WD.out _).mono ?_; rintro e w2 ⟨rfl, hb2⟩
  have hB2 := hB1.trans (hb2.mono hB1.size)
  clear hb2 hB1
  go_wp2_with fail
  refine (RD.out _ (WI.out _ hB2)).mono ?_; rintro e w3 ⟨rfl, hw3⟩
  subst hw3
  go_wp2
  go_ret
  exact ⟨rfl, hB2⟩
set_option maxHeartbeats 1000000 in
theorem rspan_any (ad c k : Int) (a : Option Addr) (n q : Nat) (w : World) :
    Calls Tryz.prog 43 #[.agg #[.int .i64 ad, .int .i64 c, .int .i64 k, .slice a n q]] w fun e w' => e = .returned (.int .i64 (rdV (wordsV c k (n : Int)))) ∧ Below w.heap.size w w' := by
  have hC := cellNew w ad c k (.slice a n q) 80
  have hB : Below w.heap.size w (w.alloc (.cells #[.int .i64 ad, .int .i64 c, .int .i64 k, .slice a n q] 80)) := (Below.refl _ _).alloc (Nat.le_refl _) _
  have c0 := hC.val 0 rfl
  have c1 := hC.val 1 rfl
  have c2 := hC.val 2 rfl
  have c3 := hC.val 3 rfl
  have HB := Lib.hid hB
  have WD := Lib.hid (fun W => rwords_anyRhead c k (n : Int) W)
  have RD := Lib.hid (fun W => rrounds_any (wordsV c k (n : Int)) W)
  clear hC hB
  generalize wordsV c k (n : Int) = M at *
  generalize rdV M = V at *
  go_enter Tryz.func43, Tryz.ntmps43
  go_wp2_with fail
  refine (rchead_any _ _ _ _ _ _ _).mono ?_; rintro e w1 ⟨rfl, hb1⟩
  have hB1 := HB.out.trans (hb1.mono HB.out.size)
  clear hb1 c0 c1 c2 c3
  go_wp2_with fail
  refine (WD.out _).mono ?_; rintro e w2 ⟨rfl, hb2⟩
  have hB2 := hB1.trans (hb2.mono hB1.size)
  clear hb2 hB1
  go_wp2_with fail
  refine (RD.out _).mono ?_; rintro e w3 ⟨rfl, hb3⟩
  have hB3 := hB2.trans (hb3.mono hB2.size)
  go_wp2
  go_ret
  exact ⟨rfl, hB3⟩
end Go.Proofs.YtichmgilglaglaaGreatDoor
/- The law ObjectsRefs. Conditions: the classes and the object's words are read in full; sizes' table lies as the start lays it. -/
namespace Go.Proofs.YtichmgilglaglaaGreatDoor
open Go.RowKit Go.Shelf
set_option linter.unusedVariables false
theorem lst_i64 {w : World} {base : Nat} {e : TypeId} {v : Value} {n : Nat} {zs : List Int} (h : w.ownsRow base e 1 v n (ints64 zs)) : Lst .i64 w v zs := lst_ownC h
set_option maxRecDepth 100000 in
set_option maxHeartbeats 8000000 in
theorem orefs_walk (v : Value) (cl : List ClsD) (ad c k : Int) (a1 : Option Addr) (q1 : Nat) (zs : List Int) (w : World) (h : RdRow 2 (ElC w.heap.size) w.heap.size w v cl) (hw : RdRow 1 ElI w.heap.size w (.slice a1 zs.length q1) zs) (hWid : Wid w) :
    Calls Tryz.prog 6 #[v, .agg #[.int .i64 ad, .int .i64 c, .int .i64 k, .slice a1 zs.length q1]] w fun e w' => e = .returned (.bool true) ∧ Below w.heap.size w w' := by
  obtain ⟨av, qv, rfl⟩ := rd_shape h
  have RP := Lib.hid (fun W (hb : Below w.heap.size w W) => h.keep hb fun _ _ _ e r => r.keep hb e)
  have RW := Lib.hid (fun W (hb : Below w.heap.size w W) => (hw.keep hb fun _ _ _ e r => r.keep hb e).mono (el' := ElI) hb.size (fun _ _ _ e => e))
  have WI := Lib.hid (fun W (hb : Below w.heap.size w W) => hWid.below hb hWid.lt)
  have hC := cellNew w ad c k (.slice a1 zs.length q1) 80
  have hB : Below w.heap.size w (w.alloc (.cells #[.int .i64 ad, .int .i64 c, .int .i64 k, .slice a1 zs.length q1] 80)) := (Below.refl _ _).alloc (Nat.le_refl _) _
  have NW := Lib.hid (new_any _ w.heap.size _ cl (RP.out _ hB) hB.size)
  clear h hw hWid
  go_enter Tryz.func6, Tryz.ntmps6
  go_wp2_with fail
  refine NW.out.mono ?_
  rintro e w1 ⟨hb1, hcase⟩
  have hC1 := hC.grew hb1
  have hB1 := hB.trans (hb1.mono hB.size)
  clear NW hC hB hb1
  rcases hcase with ⟨hne, rfl⟩ | ⟨hz, t, tv, m, L, rfl, hT, hL⟩
  · have hne' : ((tabE cl).2 != 0) = true := by simpa using hne
    generalize (tabE cl).1 = n1 at *
    generalize (tabE cl).2 = n2 at *
    clear hne
    have BA := Lib.hid (built_any w1 (WI.out _ hB1))
    go_wp2_with fail
    refine BA.out.mono ?_; rintro e w2 ⟨rfl, hb2⟩
    go_wp2
    go_ret
    exact ⟨rfl, hB1.trans (hb2.mono hB1.size)⟩
  · have h16 : cl.length ≤ 16 := Nat.le_of_not_lt fun hl => by unfold tabE at hz; rw [if_pos hl] at hz; cases hz
    have h15 : Hid (∀ d ∈ cl, d.fields.length ≤ 15) := Lib.hid (tabE_zero hz).2
    have c3 := hC1.val 3 rfl
    by_cases hn : zs.length ≤ 400
    · have hn1 : ¬ (400 : Int) < (zs.length : Int) := by omega
      have SQ := Lib.hid (fun W (hb : Below w1.heap.size w1 W) => show W.cell? ⟨w.heap.size, 0, none⟩ = some (.int .i64 ad) ∧ W.cell? ⟨w.heap.size, 1, none⟩ = some (.int .i64 c) ∧ W.cell? ⟨w.heap.size, 2, none⟩ = some (.int .i64 k) ∧ W.cell? ⟨w.heap.size, 3, none⟩ = some (.slice a1 zs.length q1) from
        ⟨(hC1.grew hb).val 0 rfl, (hC1.grew hb).val 1 rfl, (hC1.grew hb).val 2 rfl, (hC1.grew hb).val 3 rfl⟩)
      have LF := Lib.hid hL
      have BA := Lib.hid (fun W (hb : Below w1.heap.size w1 W) => built_any W (WI.out _ (hB1.trans (hb.mono hB1.size))))
      have R1 := Lib.hid (fun W (hb : Below w1.heap.size w1 W) => orefs_any W _ t m tv L ad c k _ zs (hT.grew hb) (RW.out _ (hB1.trans (hb.mono hB1.size))) hn)
      have R2 := Lib.hid (fun W (hb : Below w1.heap.size w1 W) => rrefs_any W w.heap.size _ cl ad c k _ zs (RP.out _ (hB1.trans (hb.mono hB1.size))) (Nat.le_trans hB1.size hb.size) h16 h15.out (RW.out _ (hB1.trans (hb.mono hB1.size))) hn)
      have SP := Lib.hid (fun W (hb : Below w1.heap.size w1 W) => ospan_any ad c k a1 zs.length q1 W (WI.out _ (hB1.trans (hb.mono hB1.size))))
      have RSP := Lib.hid (fun W => rspan_any ad c k a1 zs.length q1 W)
      rw [hL] at R1
      generalize rdV (wordsV c k (zs.length : Int)) = V at *
      have B3 : Below w1.heap.size w1 w1.drew := Quiet.below ⟨1, rfl⟩
      have KB := Lib.hid (fun (A C : World) (hb : Below A.heap.size A C) (h : Below w1.heap.size w1 A) => h.trans (hb.mono h.size))
      have HB1 := Lib.hid hB1
      have he : ∀ W, (binOp .eql 44 (.agg #[.int .i64 c, .int .i64 k, .int .i64 (zs.length : Int)]) (.agg #[.int .i64 c, .int .i64 k, .int .i64 (zs.length : Int)])).run Tryz.prog W = .ok (.bool true) W := fun W => by rw [eq_head W c k zs.length c k zs.length]; simp
      clear hL hz hC1 hB1 hT
      go_wp2_with fail
      go_region_held3 (fun W => (W.cell? ⟨w.heap.size, 0, none⟩ = some (.int .i64 ad) ∧ W.cell? ⟨w.heap.size, 1, none⟩ = some (.int .i64 c) ∧ W.cell? ⟨w.heap.size, 2, none⟩ = some (.int .i64 k) ∧ W.cell? ⟨w.heap.size, 3, none⟩ = some (.slice a1 zs.length q1)) ∧ Below w1.heap.size w1 W)
        (first | (with_reducible exact ⟨SQ.out _ B3, B3⟩) | (have hg := KB.out _ _ (by assumption) (And.right (by assumption)); exact ⟨SQ.out _ hg, hg⟩))
        (first
          | (go_at_call 9; refine (BA.out _ (And.right (by assumption))).mono ?_; rintro e w4 ⟨rfl, hb4⟩)
          | (go_at_call 37; refine (ochead_any _ _ _ _ _ _ _).mono ?_; rintro e w5 ⟨rfl, hb5⟩)
          | (go_at_call 38; refine (rchead_any _ _ _ _ _ _ _).mono ?_; rintro e w6 ⟨rfl, hb6⟩)
          | (go_at_call 13; refine (ohead_any _ _ _ _).mono ?_; rintro e w7 ⟨rfl, hb7⟩)
          | (go_at_call 40; refine (R1.out _ (And.right (by assumption))).mono ?_; rintro e w8 ⟨u8, rfl, ho8, hb8⟩)
          | (go_at_call 41; refine (R2.out _ (And.right (by assumption))).mono ?_; rintro e w9 ⟨u9, rfl, ho9, hb9⟩)
          | (go_at_call 39; first | (refine (longs_any _ _ _ _ (lst_i64 (own_grewG ho8 hb9)) (lst_i64 ho9)).mono ?_; rintro e w10 ⟨rfl, hq10⟩; have hb10 := quiet_belowC hq10) | (refine (longs_any _ _ _ _ (lst_i64 ho8) (lst_i64 (own_grewG ho9 hb8))).mono ?_; rintro e w10 ⟨rfl, hq10⟩; have hb10 := quiet_belowC hq10))
          | (go_at_call 42; refine (SP.out _ (And.right (by assumption))).mono ?_; rintro e w11 ⟨rfl, hb11⟩)
          | (go_at_call 43; refine (RSP.out _).mono ?_; rintro e w12 ⟨rfl, hb12⟩))
      clear he
      go_wp2
      go_ret
      exact ⟨by first | rfl | simp, HB1.out.trans (Below.mono (And.right (by assumption)) HB1.out.size)⟩
    · have hn1 : (400 : Int) < (zs.length : Int) := by omega
      have BA := Lib.hid (built_any w1 (WI.out _ hB1))
      clear hz hL hT
      go_wp2_with fail
      refine BA.out.mono ?_; rintro e w2 ⟨rfl, hb2⟩
      go_wp2
      go_ret
      exact ⟨rfl, hB1.trans (hb2.mono hB1.size)⟩
theorem row_rd {w : World} {a : Option Addr} {len q : Nat} {zs : List Int} (h : IsRow .i64 w a len q zs) : RdRow 1 ElI w.heap.size w (.slice a (zs.take len).length q) (zs.take len) ∧ (zs.take len).length = len := by
  obtain ⟨h1, h2, h3, h4⟩ := h.lst
  refine ⟨?_, h4⟩
  rcases h1 with ⟨h0, _⟩ | ⟨b, off, cap, e1, e2, e3, e4⟩
  · exact ⟨a, q, rfl, by rw [h0]; simp, fun i hi => absurd hi (by rw [h0]; simp)⟩
  · injection e1 with e5 e6 e7
    refine ⟨a, q, rfl, by rw [h4]; exact h3, fun i hi => ⟨b, off, e5, World.block_lt_of_cell? w _ (e4 0 e2), ?_, ?_⟩⟩
    · rw [Nat.mul_one, e4 i hi, List.getD_eq_getElem?_getD, List.getElem?_eq_getElem hi]; rfl
    · exact wf_I64 (h2 _ (List.getElem_mem hi))
theorem orefs_law (v : Value) (cl : List ClsD) (ad c k : Int) (a1 : Option Addr) (len q1 : Nat) (zs : List Int) (w : World) (h : RdRow 2 (ElC w.heap.size) w.heap.size w v cl) (w0 : (Lit.int .i64 ad).wf = true) (w1 : (Lit.int .i64 c).wf = true) (w2 : (Lit.int .i64 k).wf = true) (hw : IsRow .i64 w a1 len q1 zs) (hWid : Wid w) :
    Calls Tryz.prog 6 #[v, .agg #[.int .i64 ad, .int .i64 c, .int .i64 k, .slice a1 len q1]] w fun e w' => e = .returned (.bool true) ∧ Below w.heap.size w w' := by
  obtain ⟨h1, h2⟩ := row_rd hw
  have := orefs_walk v cl ad c k a1 q1 (zs.take len) w h h1 hWid
  rw [h2] at this
  exact this
end Go.Proofs.YtichmgilglaglaaGreatDoor
