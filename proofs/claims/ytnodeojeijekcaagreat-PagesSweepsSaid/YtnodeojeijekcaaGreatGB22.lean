/- A step of the sweep of package pages, access by access. No condition but that the blocks are there, and what is written. -/
import Derived.Test.YtnodeojeijekcaaGreatGB21
namespace Go.Proofs.YtnodeojeijekcaaGreat
open Go.RowKit
set_option linter.unusedVariables false
section
variable {w0 w w' : World} {B a c p m b : Nat} {σ σ' : Sw} {cs : List Int} {xs : List Value} {n : Nat} {K : List Nat} {who : Int} {o : Bool}
theorem sOver (h : SwS w0 B a c p m σ cs xs n K who o w) :
    Calls Tryz.prog 13 #[.pointer (some ⟨m, 0, none⟩)] w fun e w' => e = .returned (.bool (σ.nx == 0)) ∧ SwS w0 B a c p m σ cs xs n K who o w' :=
  (swOver h.mach).mono fun _ _ ⟨he, hq⟩ => ⟨he, h.quiet hq⟩
theorem swBC {w : World} {m : Nat} {σ : Sw} (h : Blk w m σ.V 85) : (w.cell? ⟨m, 0, none⟩ = some (.int .i64 σ.P) ∧ w.cell? ⟨m, 1, none⟩ = some (.int .i64 σ.T) ∧ w.cell? ⟨m, 2, none⟩ = some (.int .i64 σ.R)) ∧ w.cell? ⟨m, 5, none⟩ = some (.int .i64 σ.pg) := ⟨⟨h.val 0 rfl, h.val 1 rfl, h.val 2 rfl⟩, h.val 5 rfl⟩
theorem swBC' {w : World} {m : Nat} {σ σ' : Sw} (e : σ'.P = σ.P ∧ σ'.T = σ.T ∧ σ'.R = σ.R ∧ σ'.pg = σ.pg) (h : Blk w m σ'.V 85) : (w.cell? ⟨m, 0, none⟩ = some (.int .i64 σ.P) ∧ w.cell? ⟨m, 1, none⟩ = some (.int .i64 σ.T) ∧ w.cell? ⟨m, 2, none⟩ = some (.int .i64 σ.R)) ∧ w.cell? ⟨m, 5, none⟩ = some (.int .i64 σ.pg) := by
  rw [← e.1, ← e.2.1, ← e.2.2.1, ← e.2.2.2]; exact swBC h
theorem swAC {w : World} {m : Nat} {σ : Sw} (h : Blk w m σ.V 85) : (w.cell? ⟨m, 0, none⟩ = some (.int .i64 σ.P) ∧ w.cell? ⟨m, 1, none⟩ = some (.int .i64 σ.T) ∧ w.cell? ⟨m, 2, none⟩ = some (.int .i64 σ.R)) ∧ w.cell? ⟨m, 5, none⟩ = some (.int .i64 σ.pg) ∧ w.cell? ⟨m, 15, none⟩ = some (.int .u64 σ.kp) ∧ w.cell? ⟨m, 16, none⟩ = some (.int .i64 σ.tl) := ⟨⟨h.val 0 rfl, h.val 1 rfl, h.val 2 rfl⟩, h.val 5 rfl, h.val 15 rfl, h.val 16 rfl⟩
/-- a step that may not be made, or of a machine that is over -/
theorem swStep_over (q : Option Addr) (h : SwS w0 B a c p m σ cs xs n K who o w) (h1 : σ.nx = 0) :
    Calls Tryz.prog 12 #[.pointer (some ⟨m, 0, none⟩), .pointer q] w fun e w' => e = .returned (.bool true) ∧ SwS w0 B a c p m σ cs xs n K who o w' := by
  have OV := Lib.hid (fun W (h : SwS w0 B a c p m σ cs xs n K who o W) => sOver h)
  rw [h1] at OV
  clear h1
  go_enter Tryz.func12, Tryz.ntmps12
  go_wp2_with fail
  refine (OV.out _ h).mono ?_; rintro e w1 ⟨rfl, h1⟩
  go_wp2_with fail
  refine (OV.out _ h1).mono ?_; rintro e w2 ⟨rfl, h2⟩
  go_wp2
  go_ret
  exact ⟨rfl, h2⟩
theorem swStep_shut (h : SwS w0 B a c p m σ cs xs n K who false w) (h1 : (σ.nx == 0) = false) :
    Calls Tryz.prog 12 #[.pointer (some ⟨m, 0, none⟩), .pointer (some ⟨p, 0, none⟩)] w fun e w' => e = .returned (.bool false) ∧ SwS w0 B a c p m σ cs xs n K who false w' := by
  have OV := Lib.hid (fun W (h : SwS w0 B a c p m σ cs xs n K who false W) => sOver h)
  rw [h1] at OV
  clear h1
  go_enter Tryz.func12, Tryz.ntmps12
  go_wp2_with fail
  refine (OV.out _ h).mono ?_; rintro e w1 ⟨rfl, h1⟩
  go_wp2_with fail
  refine h1.open'.mono ?_; rintro e w2 ⟨rfl, h2⟩
  go_wp2_with fail
  refine (OV.out _ h2).mono ?_; rintro e w3 ⟨rfl, h3⟩
  go_wp2
  go_ret
  exact ⟨rfl, h3⟩
set_option maxRecDepth 100000 in
set_option maxHeartbeats 4000000 in
theorem swStep_load {i : Nat} (hfix : σ'.P = σ.P ∧ σ'.T = σ.T ∧ σ'.R = σ.R ∧ σ'.pg = σ.pg) (z : Int) (hzi : cs.getD i 0 = z) (hi : rowI σ.P σ.T σ.R 0 σ.pg = (i : Int)) (EX : ∀ W xs', SwS w0 B a c p m σ cs xs' (n + 1) K who false W → Calls Tryz.prog 47 #[.pointer (some ⟨m, 0, none⟩), .int .u64 z] W fun e w' => (∃ v, e = .returned v) ∧ SwS w0 B a c p m σ' cs xs' (n + 1) K who false w') (h : SwS w0 B a c p m σ cs xs n K who true w) (hr : MaR p m K) (hn : n < 1000000) (h1 : σ.nx = 1) (hc : i < cs.length) :
    Calls Tryz.prog 12 #[.pointer (some ⟨m, 0, none⟩), .pointer (some ⟨p, 0, none⟩)] w fun e' w' => e' = .returned (.bool (σ'.nx == 0)) ∧ SwS w0 B a c p m σ' cs (xs ++ accV who 1 i 0 0 z z) (n + 1) K who false w' := by
  have OV := Lib.hid (fun W (h : SwS w0 B a c p m σ cs xs n K who true W) => sOver h)
  have OW := Lib.hid (fun W cs xs (h : SwS w0 B a c p m σ' cs xs (n + 1) K who false W) => sOver h)
  rw [h1] at OV
  (try dsimp only at OW)
  have EN := Lib.hid (fun W => entry_anyLayc σ.P σ.T σ.R σ.pg W)
  rw [hi] at EN
  have LD := Lib.hid (fun W (h : SwS w0 B a c p m σ cs xs n K who true W) => h.load hr hn hc)
  rw [hzi] at LD
  have EX' := Lib.hid EX
  clear EX hzi hi hn hc
  replace hfix := Lib.hid hfix
  go_enter Tryz.func12, Tryz.ntmps12
  go_wp2_with fail
  refine (OV.out _ h).mono ?_; rintro e w1 ⟨rfl, h1'⟩
  go_wp2_with fail
  refine h1'.open'.mono ?_; rintro e w2 ⟨rfl, h2⟩
  have d6 : w2.cell? ⟨m, 6, none⟩ = some (.int .i64 1) := by rw [← h1]; exact h2.mach.val 6 rfl
  obtain ⟨⟨d0, d1, d2⟩, d5, d15, d16⟩ := swAC h2.mach
  clear h h1' h1 OV
  have h3 := h2.drew
  clear d0 d1 d2 d5 d15 d16
  go_wp2_with fail
  go_region_held3 (fun W' => (W'.cell? ⟨m, 0, none⟩ = some (.int .i64 σ.P) ∧ W'.cell? ⟨m, 1, none⟩ = some (.int .i64 σ.T) ∧ W'.cell? ⟨m, 2, none⟩ = some (.int .i64 σ.R)) ∧ W'.cell? ⟨m, 5, none⟩ = some (.int .i64 σ.pg))
    ((first | (with_reducible exact swBC (MaS.mach (by assumption))) | (with_reducible exact (swBC' hfix.out (MaS.mach HX)))))
    (first
      | (go_at_call 49; refine (EN.out _).mono ?_; rintro e w4 ⟨rfl, hb4⟩; have h4 := MaS.grew (by assumption) hb4)
      | (go_at_call 48; refine (LD.out _ (by assumption)).mono ?_; rintro e w5 ⟨rfl, h5⟩)
      | (go_at_call 47; refine (EX'.out _ _ (by assumption)).mono ?_; rintro e w6 ⟨⟨v, rfl⟩, HX⟩))
  all_goals
    clear d6
    go_wp2_with fail
    refine (OW.out _ _ _ HX).mono ?_; rintro e w9 ⟨rfl, h9⟩
    go_wp2
    go_ret
    exact ⟨rfl, h9⟩
set_option maxRecDepth 100000 in
set_option maxHeartbeats 4000000 in
theorem swStep_alloc {i : Nat} (hfix : σ'.P = σ.P ∧ σ'.T = σ.T ∧ σ'.R = σ.R ∧ σ'.pg = σ.pg) (z : Int) (hzi : cs.getD i 0 = z) (hi : rowI σ.P σ.T σ.R 1 σ.pg = (i : Int)) (EX : ∀ W xs', SwS w0 B a c p m σ cs xs' (n + 1) K who false W → Calls Tryz.prog 52 #[.pointer (some ⟨m, 0, none⟩), .int .u64 z] W fun e w' => (∃ v, e = .returned v) ∧ SwS w0 B a c p m σ' cs xs' (n + 1) K who false w') (h : SwS w0 B a c p m σ cs xs n K who true w) (hr : MaR p m K) (hn : n < 1000000) (h1 : σ.nx = 5) (hc : i < cs.length) :
    Calls Tryz.prog 12 #[.pointer (some ⟨m, 0, none⟩), .pointer (some ⟨p, 0, none⟩)] w fun e' w' => e' = .returned (.bool (σ'.nx == 0)) ∧ SwS w0 B a c p m σ' cs (xs ++ accV who 1 i 0 0 z z) (n + 1) K who false w' := by
  have OV := Lib.hid (fun W (h : SwS w0 B a c p m σ cs xs n K who true W) => sOver h)
  have OW := Lib.hid (fun W cs xs (h : SwS w0 B a c p m σ' cs xs (n + 1) K who false W) => sOver h)
  rw [h1] at OV
  (try dsimp only at OW)
  have EN := Lib.hid (fun W => alloc_any σ.P σ.T σ.R σ.pg W)
  rw [hi] at EN
  have LD := Lib.hid (fun W (h : SwS w0 B a c p m σ cs xs n K who true W) => h.load hr hn hc)
  rw [hzi] at LD
  have EX' := Lib.hid EX
  clear EX hzi hi hn hc
  replace hfix := Lib.hid hfix
  go_enter Tryz.func12, Tryz.ntmps12
  go_wp2_with fail
  refine (OV.out _ h).mono ?_; rintro e w1 ⟨rfl, h1'⟩
  go_wp2_with fail
  refine h1'.open'.mono ?_; rintro e w2 ⟨rfl, h2⟩
  have d6 : w2.cell? ⟨m, 6, none⟩ = some (.int .i64 5) := by rw [← h1]; exact h2.mach.val 6 rfl
  obtain ⟨⟨d0, d1, d2⟩, d5, d15, d16⟩ := swAC h2.mach
  clear h h1' h1 OV
  have h3 := h2.drew
  clear d0 d1 d2 d5 d15 d16
  go_wp2_with fail
  go_region_held3 (fun W' => (W'.cell? ⟨m, 0, none⟩ = some (.int .i64 σ.P) ∧ W'.cell? ⟨m, 1, none⟩ = some (.int .i64 σ.T) ∧ W'.cell? ⟨m, 2, none⟩ = some (.int .i64 σ.R)) ∧ W'.cell? ⟨m, 5, none⟩ = some (.int .i64 σ.pg))
    ((first | (with_reducible exact swBC (MaS.mach (by assumption))) | (with_reducible exact (swBC' hfix.out (MaS.mach HX)))))
    (first
      | (go_at_call 53; refine (EN.out _).mono ?_; rintro e w4 ⟨rfl, hb4⟩; have h4 := MaS.grew (by assumption) hb4)
      | (go_at_call 48; refine (LD.out _ (by assumption)).mono ?_; rintro e w5 ⟨rfl, h5⟩)
      | (go_at_call 52; refine (EX'.out _ _ (by assumption)).mono ?_; rintro e w6 ⟨⟨v, rfl⟩, HX⟩))
  all_goals
    clear d6
    go_wp2_with fail
    refine (OW.out _ _ _ HX).mono ?_; rintro e w9 ⟨rfl, h9⟩
    go_wp2
    go_ret
    exact ⟨rfl, h9⟩
set_option maxRecDepth 100000 in
set_option maxHeartbeats 4000000 in
theorem swStep_take {i : Nat} (z z' E : Int) (bz : Bool) (hzi : cs.getD i 0 = z) (hE : encE σ.k σ.c 2 σ.who σ.y = E) (hz' : casI z σ.seen E = z') (hz : (z == σ.seen) = bz) (hi : rowI σ.P σ.T σ.R 0 σ.pg = (i : Int)) (hg : tkB σ.k σ.c σ.s σ.o σ.y 2 σ.who = true) (h : SwS w0 B a c p m σ cs xs n K who true w) (hr : MaR p m K) (hn : n < 1000000) (h1 : σ.nx = 2) (hc : i < cs.length) :
    Calls Tryz.prog 12 #[.pointer (some ⟨m, 0, none⟩), .pointer (some ⟨p, 0, none⟩)] w fun e' w' => e' = .returned (.bool ((takS bz σ).nx == 0)) ∧ SwS w0 B a c p m (takS bz σ) (cs.set i z') (xs ++ accV who 4 i σ.seen E z z') (n + 1) K who false w' := by
  have OV := Lib.hid (fun W (h : SwS w0 B a c p m σ cs xs n K who true W) => sOver h)
  have OW := Lib.hid (fun W cs xs (h : SwS w0 B a c p m (takS bz σ) cs xs (n + 1) K who false W) => sOver h)
  rw [h1] at OV
  (try dsimp only at OW)
  have TK := Lib.hid (fun W (h : SwS w0 B a c p m σ cs xs n K who true W) => swTake z z' E bz hzi hE hz' hz h hr hn hi hc hg)
  clear hzi hE hz' hz hi hg
  go_enter Tryz.func12, Tryz.ntmps12
  go_wp2_with fail
  refine (OV.out _ h).mono ?_; rintro e w1 ⟨rfl, h1'⟩
  go_wp2_with fail
  refine h1'.open'.mono ?_; rintro e w2 ⟨rfl, h2⟩
  have d6 : w2.cell? ⟨m, 6, none⟩ = some (.int .i64 2) := by rw [← h1]; exact h2.mach.val 6 rfl
  obtain ⟨⟨d0, d1, d2⟩, d5, d15, d16⟩ := swAC h2.mach
  clear h h1' h1 OV
  have H2 := Lib.hid h2
  clear h2 d0 d1 d2 d5 d15 d16
  go_wp2_with fail
  refine (TK.out _ H2.out).mono ?_; rintro e w6 ⟨⟨v, rfl⟩, HX⟩
  go_wp2_with fail
  refine (OW.out _ _ _ HX).mono ?_; rintro e w9 ⟨rfl, h9⟩
  go_wp2
  go_ret
  exact ⟨rfl, h9⟩
set_option maxRecDepth 100000 in
set_option maxHeartbeats 4000000 in
theorem swStep_mark {i : Nat} (z : Int) (hzi : cs.getD i 0 = z) (hi : rowI σ.P σ.T σ.R 2 σ.pg = (i : Int)) (h : SwS w0 B a c p m σ cs xs n K who true w) (hr : MaR p m K) (hn : n < 1000000) (h1 : σ.nx = 4) (hc : i < cs.length) :
    Calls Tryz.prog 12 #[.pointer (some ⟨m, 0, none⟩), .pointer (some ⟨p, 0, none⟩)] w fun e' w' => e' = .returned (.bool false) ∧ SwS w0 B a c p m { σ with ma := z, nx := 5 } cs (xs ++ accV who 1 i 0 0 z z) (n + 1) K who false w' := by
  have OV := Lib.hid (fun W (h : SwS w0 B a c p m σ cs xs n K who true W) => sOver h)
  have OW := Lib.hid (fun W cs xs (h : SwS w0 B a c p m { σ with ma := z, nx := 5 } cs xs (n + 1) K who false W) => sOver h)
  rw [h1] at OV
  (try dsimp only at OW)
  have EN := Lib.hid (fun W => mark_any σ.P σ.T σ.R σ.pg W)
  rw [hi] at EN
  have LD := Lib.hid (fun W (h : SwS w0 B a c p m σ cs xs n K who true W) => h.load hr hn hc)
  rw [hzi] at LD
  clear hzi hi hn hc
  go_enter Tryz.func12, Tryz.ntmps12
  go_wp2_with fail
  refine (OV.out _ h).mono ?_; rintro e w1 ⟨rfl, h1'⟩
  go_wp2_with fail
  refine h1'.open'.mono ?_; rintro e w2 ⟨rfl, h2⟩
  have d6 : w2.cell? ⟨m, 6, none⟩ = some (.int .i64 4) := by rw [← h1]; exact h2.mach.val 6 rfl
  obtain ⟨⟨d0, d1, d2⟩, d5, d15, d16⟩ := swAC h2.mach
  clear h h1' h1 OV
  have h3 := h2.drew
  clear d0 d1 d2 d5 d15 d16
  go_wp2_with fail
  go_region_held3 (fun W' => (W'.cell? ⟨m, 0, none⟩ = some (.int .i64 σ.P) ∧ W'.cell? ⟨m, 1, none⟩ = some (.int .i64 σ.T) ∧ W'.cell? ⟨m, 2, none⟩ = some (.int .i64 σ.R)) ∧ W'.cell? ⟨m, 5, none⟩ = some (.int .i64 σ.pg) ∧ W'.cell? ⟨m, 15, none⟩ = some (.int .u64 σ.kp) ∧ W'.cell? ⟨m, 16, none⟩ = some (.int .i64 σ.tl))
    ((first | (with_reducible exact swAC (MaS.mach (by assumption))) | (with_reducible assumption)))
    (first
      | (go_at_call 51; refine (EN.out _).mono ?_; rintro e w4 ⟨rfl, hb4⟩; have h4 := MaS.grew (by assumption) hb4)
      | (go_at_call 48; refine (LD.out _ (by assumption)).mono ?_; rintro e w5 ⟨rfl, h5⟩; have n13 : w5.cell? ⟨m, 13, none⟩ = some (.int .u64 σ.ma) := h5.mach.val 13 rfl; have f13 := h5.mach.frozen 13; have h6 : SwS w0 B a c p m { σ with ma := z } cs (xs ++ accV who 1 i 0 0 z z) (n + 1) K who false (w5.setCell ⟨m, 13, none⟩ (.int .u64 z)) := h5.set hr 13 (.int .u64 z); have q6 : ((w5.setCell ⟨m, 13, none⟩ (.int .u64 z)).cell? ⟨m, 0, none⟩ = some (.int .i64 σ.P) ∧ (w5.setCell ⟨m, 13, none⟩ (.int .u64 z)).cell? ⟨m, 1, none⟩ = some (.int .i64 σ.T) ∧ (w5.setCell ⟨m, 13, none⟩ (.int .u64 z)).cell? ⟨m, 2, none⟩ = some (.int .i64 σ.R)) ∧ (w5.setCell ⟨m, 13, none⟩ (.int .u64 z)).cell? ⟨m, 5, none⟩ = some (.int .i64 σ.pg) ∧ (w5.setCell ⟨m, 13, none⟩ (.int .u64 z)).cell? ⟨m, 15, none⟩ = some (.int .u64 σ.kp) ∧ (w5.setCell ⟨m, 13, none⟩ (.int .u64 z)).cell? ⟨m, 16, none⟩ = some (.int .i64 σ.tl) := swAC (σ := { σ with ma := z }) h6.mach))
  all_goals
    clear d6 n13 f13 q6
    have n6 : (w5.setCell ⟨m, 13, none⟩ (.int .u64 z)).cell? ⟨m, 6, none⟩ = some (.int .i64 σ.nx) := h6.mach.val 6 rfl
    have f6 := h6.mach.frozen 6
    have HX : SwS w0 B a c p m { σ with ma := z, nx := 5 } cs (xs ++ accV who 1 i 0 0 z z) (n + 1) K who false ((w5.setCell ⟨m, 13, none⟩ (.int .u64 z)).setCell ⟨m, 6, none⟩ (.int .i64 5)) := h6.set hr 6 (.int .i64 5)
    replace HX := Lib.hid HX
    clear h5 h6
    go_wp2_with fail
    refine (OW.out _ _ _ HX.out).mono ?_; rintro e w9 ⟨rfl, h9⟩
    go_wp2
    go_ret
    exact ⟨rfl, h9⟩
set_option maxRecDepth 100000 in
set_option maxHeartbeats 4000000 in
theorem swStep_store {i : Nat} (z : Int) (hzi : cs.getD i 0 = z) (hi : rowI σ.P σ.T σ.R 1 σ.pg = (i : Int))  (h : SwS w0 B a c p m σ cs xs n K who true w) (hr : MaR p m K) (hn : n < 1000000) (h1 : σ.nx = 6) (hc : i < cs.length) :
    Calls Tryz.prog 12 #[.pointer (some ⟨m, 0, none⟩), .pointer (some ⟨p, 0, none⟩)] w fun e' w' => e' = .returned (.bool false) ∧ SwS w0 B a c p m { σ with nx := 8 } (cs.set i σ.kp) (xs ++ accV who 2 i 0 σ.kp z σ.kp) (n + 1) K who false w' := by
  have OV := Lib.hid (fun W (h : SwS w0 B a c p m σ cs xs n K who true W) => sOver h)
  have OW := Lib.hid (fun W cs xs (h : SwS w0 B a c p m { σ with nx := 8 } cs xs (n + 1) K who false W) => sOver h)
  rw [h1] at OV
  (try dsimp only at OW)
  have EN := Lib.hid (fun W => alloc_any σ.P σ.T σ.R σ.pg W)
  rw [hi] at EN
  have ST := Lib.hid (fun W (h : SwS w0 B a c p m σ cs xs n K who true W) => h.store σ.kp hr hn hc)
  rw [hzi] at ST
  clear hzi hi hn hc
  go_enter Tryz.func12, Tryz.ntmps12
  go_wp2_with fail
  refine (OV.out _ h).mono ?_; rintro e w1 ⟨rfl, h1'⟩
  go_wp2_with fail
  refine h1'.open'.mono ?_; rintro e w2 ⟨rfl, h2⟩
  have d6 : w2.cell? ⟨m, 6, none⟩ = some (.int .i64 6) := by rw [← h1]; exact h2.mach.val 6 rfl
  obtain ⟨⟨d0, d1, d2⟩, d5, d15, d16⟩ := swAC h2.mach
  clear h h1' h1 OV
  have h3 := h2.drew
  clear d0 d1 d2 d5 d15 d16
  go_wp2_with fail
  go_region_held3 (fun W' => (W'.cell? ⟨m, 0, none⟩ = some (.int .i64 σ.P) ∧ W'.cell? ⟨m, 1, none⟩ = some (.int .i64 σ.T) ∧ W'.cell? ⟨m, 2, none⟩ = some (.int .i64 σ.R)) ∧ W'.cell? ⟨m, 5, none⟩ = some (.int .i64 σ.pg) ∧ W'.cell? ⟨m, 15, none⟩ = some (.int .u64 σ.kp) ∧ W'.cell? ⟨m, 16, none⟩ = some (.int .i64 σ.tl))
    ((with_reducible exact swAC (MaS.mach (by assumption))))
    (first
      | (go_at_call 53; refine (EN.out _).mono ?_; rintro e w4 ⟨rfl, hb4⟩; have h4 := MaS.grew (by assumption) hb4)
      | (go_at_call 54; refine (ST.out _ (by assumption)).mono ?_; rintro e w5 ⟨⟨u5, rfl⟩, h5⟩))
  all_goals
    clear d6
    have n6 : w5.cell? ⟨m, 6, none⟩ = some (.int .i64 σ.nx) := h5.mach.val 6 rfl
    have f6 := h5.mach.frozen 6
    have HX : SwS w0 B a c p m { σ with nx := 8 } (cs.set i σ.kp) (xs ++ accV who 2 i 0 σ.kp z σ.kp) (n + 1) K who false (w5.setCell ⟨m, 6, none⟩ (.int .i64 8)) := h5.set hr 6 (.int .i64 8)
    replace HX := Lib.hid HX
    clear h5
    go_wp2_with fail
    refine (OW.out _ _ _ HX.out).mono ?_; rintro e w9 ⟨rfl, h9⟩
    go_wp2
    go_ret
    exact ⟨rfl, h9⟩
set_option maxRecDepth 100000 in
set_option maxHeartbeats 4000000 in
theorem swStep_clear {i : Nat} (z : Int) (hzi : cs.getD i 0 = z) (hi : rowI σ.P σ.T σ.R 2 σ.pg = (i : Int)) (e0 : Bool) (he : (σ.kp == 0 && decide (0 < σ.tl)) = e0) (h : SwS w0 B a c p m σ cs xs n K who true w) (hr : MaR p m K) (hn : n < 1000000) (h1 : σ.nx = 8) (hc : i < cs.length) :
    Calls Tryz.prog 12 #[.pointer (some ⟨m, 0, none⟩), .pointer (some ⟨p, 0, none⟩)] w fun e' w' => e' = .returned (.bool false) ∧ SwS w0 B a c p m { σ with nx := relN e0 } (cs.set i 0) (xs ++ accV who 2 i 0 0 z 0) (n + 1) K who false w' := by
  have OV := Lib.hid (fun W (h : SwS w0 B a c p m σ cs xs n K who true W) => sOver h)
  have OW := Lib.hid (fun W cs xs (h : SwS w0 B a c p m { σ with nx := relN e0 } cs xs (n + 1) K who false W) => sOver h)
  rw [h1] at OV
  (try dsimp only at OW)
  have EN := Lib.hid (fun W => mark_any σ.P σ.T σ.R σ.pg W)
  rw [hi] at EN
  have ST := Lib.hid (fun W (h : SwS w0 B a c p m σ cs xs n K who true W) => h.store 0 hr hn hc)
  rw [hzi] at ST
  rw [show (relN e0 == 0) = false from by cases e0 <;> rfl] at OW
  clear hzi hi hn hc
  go_enter Tryz.func12, Tryz.ntmps12
  go_wp2_with fail
  refine (OV.out _ h).mono ?_; rintro e w1 ⟨rfl, h1'⟩
  go_wp2_with fail
  refine h1'.open'.mono ?_; rintro e w2 ⟨rfl, h2⟩
  have d6 : w2.cell? ⟨m, 6, none⟩ = some (.int .i64 8) := by rw [← h1]; exact h2.mach.val 6 rfl
  obtain ⟨⟨d0, d1, d2⟩, d5, d15, d16⟩ := swAC h2.mach
  clear h h1' h1 OV
  have h3 := h2.drew
  clear d0 d1 d2 d5 d15 d16
  go_wp2_with fail
  go_region_held3 (fun W' => (W'.cell? ⟨m, 0, none⟩ = some (.int .i64 σ.P) ∧ W'.cell? ⟨m, 1, none⟩ = some (.int .i64 σ.T) ∧ W'.cell? ⟨m, 2, none⟩ = some (.int .i64 σ.R)) ∧ W'.cell? ⟨m, 5, none⟩ = some (.int .i64 σ.pg) ∧ W'.cell? ⟨m, 15, none⟩ = some (.int .u64 σ.kp) ∧ W'.cell? ⟨m, 16, none⟩ = some (.int .i64 σ.tl))
    ((with_reducible exact swAC (MaS.mach (by assumption))))
    (first
      | (go_at_call 51; refine (EN.out _).mono ?_; rintro e w4 ⟨rfl, hb4⟩; have h4 := MaS.grew (by assumption) hb4)
      | (go_at_call 54; refine (ST.out _ (by assumption)).mono ?_; rintro e w5 ⟨⟨u5, rfl⟩, h5⟩))
  all_goals
    clear d6
    have HR := Lib.hid (swRelease h5 hr e0 he)
    go_wp2_with fail
    refine HR.out.mono ?_; rintro e w6 ⟨⟨v6, rfl⟩, HX⟩
    go_wp2_with fail
    refine (OW.out _ _ _ HX).mono ?_; rintro e w9 ⟨rfl, h9⟩
    go_wp2
    go_ret
    exact ⟨rfl, h9⟩
set_option maxRecDepth 100000 in
set_option maxHeartbeats 4000000 in
theorem swStep_tail {i : Nat} (z : Int) (hzi : cs.getD i 0 = z) (hi : rowI σ.P σ.T σ.R 0 (σ.pg + σ.tl) = (i : Int)) (hw : wrap64 (σ.pg + σ.tl) = σ.pg + σ.tl) (hw' : IntKind.i64.wrap (σ.pg + σ.tl) = σ.pg + σ.tl) (hw2 : wrap64 (σ.tl - 1) = σ.tl - 1) (e0 : Bool) (he : (σ.kp == 0 && decide (0 < σ.tl - 1)) = e0) (h : SwS w0 B a c p m σ cs xs n K who true w) (hr : MaR p m K) (hn : n < 1000000) (h1 : σ.nx = 10) (hc : i < cs.length) :
    Calls Tryz.prog 12 #[.pointer (some ⟨m, 0, none⟩), .pointer (some ⟨p, 0, none⟩)] w fun e' w' => e' = .returned (.bool false) ∧ SwS w0 B a c p m { σ with tl := σ.tl - 1, nx := relN e0 } (cs.set i 0) (xs ++ accV who 2 i 0 0 z 0) (n + 1) K who false w' := by
  have OV := Lib.hid (fun W (h : SwS w0 B a c p m σ cs xs n K who true W) => sOver h)
  have OW := Lib.hid (fun W cs xs (h : SwS w0 B a c p m { σ with tl := σ.tl - 1, nx := relN e0 } cs xs (n + 1) K who false W) => sOver h)
  rw [h1] at OV
  (try dsimp only at OW)
  have EN := Lib.hid (fun W => entry_anyLayc σ.P σ.T σ.R (σ.pg + σ.tl) W)
  rw [hi] at EN
  have ST := Lib.hid (fun W (h : SwS w0 B a c p m σ cs xs n K who true W) => h.store 0 hr hn hc)
  rw [hzi] at ST
  rw [show (relN e0 == 0) = false from by cases e0 <;> rfl] at OW
  clear hzi hi hn hc
  go_enter Tryz.func12, Tryz.ntmps12
  go_wp2_with fail
  refine (OV.out _ h).mono ?_; rintro e w1 ⟨rfl, h1'⟩
  go_wp2_with fail
  refine h1'.open'.mono ?_; rintro e w2 ⟨rfl, h2⟩
  have d6 : w2.cell? ⟨m, 6, none⟩ = some (.int .i64 10) := by rw [← h1]; exact h2.mach.val 6 rfl
  obtain ⟨⟨d0, d1, d2⟩, d5, d15, d16⟩ := swAC h2.mach
  clear h h1' h1 OV
  have h3 := h2.drew
  clear d0 d1 d2 d5 d15 d16
  go_wp2_with fail
  go_region_held3 (fun W' => (W'.cell? ⟨m, 0, none⟩ = some (.int .i64 σ.P) ∧ W'.cell? ⟨m, 1, none⟩ = some (.int .i64 σ.T) ∧ W'.cell? ⟨m, 2, none⟩ = some (.int .i64 σ.R)) ∧ W'.cell? ⟨m, 5, none⟩ = some (.int .i64 σ.pg) ∧ W'.cell? ⟨m, 15, none⟩ = some (.int .u64 σ.kp) ∧ W'.cell? ⟨m, 16, none⟩ = some (.int .i64 σ.tl))
    ((with_reducible exact swAC (MaS.mach (by assumption))))
    (first
      | (go_at_call 49; refine (EN.out _).mono ?_; rintro e w4 ⟨rfl, hb4⟩; have h4 := MaS.grew (by assumption) hb4)
      | (go_at_call 54; refine (ST.out _ (by assumption)).mono ?_; rintro e w5 ⟨⟨u5, rfl⟩, h5⟩))
  all_goals
    clear d6
    have n16 : w5.cell? ⟨m, 16, none⟩ = some (.int .i64 σ.tl) := h5.mach.val 16 rfl
    have f16 := h5.mach.frozen 16
    have h6 : SwS w0 B a c p m { σ with tl := σ.tl - 1 } (cs.set i 0) (xs ++ accV who 2 i 0 0 z 0) (n + 1) K who false (w5.setCell ⟨m, 16, none⟩ (.int .i64 (σ.tl - 1))) := h5.set hr 16 (.int .i64 (σ.tl - 1))
    have HR := Lib.hid (swRelease h6 hr e0 he)
    go_wp2_with fail
    refine HR.out.mono ?_; rintro e w6 ⟨⟨v6, rfl⟩, HX⟩
    go_wp2_with fail
    refine (OW.out _ _ _ HX).mono ?_; rintro e w9 ⟨rfl, h9⟩
    go_wp2
    go_ret
    exact ⟨rfl, h9⟩
set_option maxRecDepth 100000 in
set_option maxHeartbeats 4000000 in
theorem swStep_end {i : Nat} (z : Int) (hzi : cs.getD i 0 = z) (hi : rowI σ.P σ.T σ.R 0 σ.pg = (i : Int)) (v : Int) (LA : ∀ W, SwS w0 B a c p m σ cs xs n K who true W → Calls Tryz.prog 56 #[.pointer (some ⟨m, 0, none⟩)] W fun e' w' => e' = .returned (.int .u64 v) ∧ SwS w0 B a c p m σ cs xs n K who true w') (h : SwS w0 B a c p m σ cs xs n K who true w) (hr : MaR p m K) (hn : n < 1000000) (h1 : σ.nx = 9) (hc : i < cs.length) :
    Calls Tryz.prog 12 #[.pointer (some ⟨m, 0, none⟩), .pointer (some ⟨p, 0, none⟩)] w fun e' w' => e' = .returned (.bool true) ∧ SwS w0 B a c p m { σ with sw := true, nx := 0 } (cs.set i v) (xs ++ accV who 2 i 0 v z v) (n + 1) K who false w' := by
  have OV := Lib.hid (fun W (h : SwS w0 B a c p m σ cs xs n K who true W) => sOver h)
  have OW := Lib.hid (fun W cs xs (h : SwS w0 B a c p m { σ with sw := true, nx := 0 } cs xs (n + 1) K who false W) => sOver h)
  rw [h1] at OV
  (try dsimp only at OW)
  have EN := Lib.hid (fun W => entry_anyLayc σ.P σ.T σ.R σ.pg W)
  rw [hi] at EN
  have ST := Lib.hid (fun W (h : SwS w0 B a c p m σ cs xs n K who true W) => h.store v hr hn hc)
  rw [hzi] at ST
  have LA' := Lib.hid LA
  clear LA
  clear hzi hi hn hc
  go_enter Tryz.func12, Tryz.ntmps12
  go_wp2_with fail
  refine (OV.out _ h).mono ?_; rintro e w1 ⟨rfl, h1'⟩
  go_wp2_with fail
  refine h1'.open'.mono ?_; rintro e w2 ⟨rfl, h2⟩
  have d6 : w2.cell? ⟨m, 6, none⟩ = some (.int .i64 9) := by rw [← h1]; exact h2.mach.val 6 rfl
  obtain ⟨⟨d0, d1, d2⟩, d5, d15, d16⟩ := swAC h2.mach
  clear h h1' h1 OV
  have h3 := h2.drew
  clear d0 d1 d2 d5 d15 d16
  go_wp2_with fail
  go_region_held3 (fun W' => (W'.cell? ⟨m, 0, none⟩ = some (.int .i64 σ.P) ∧ W'.cell? ⟨m, 1, none⟩ = some (.int .i64 σ.T) ∧ W'.cell? ⟨m, 2, none⟩ = some (.int .i64 σ.R)) ∧ W'.cell? ⟨m, 5, none⟩ = some (.int .i64 σ.pg) ∧ W'.cell? ⟨m, 15, none⟩ = some (.int .u64 σ.kp) ∧ W'.cell? ⟨m, 16, none⟩ = some (.int .i64 σ.tl))
    ((with_reducible exact swAC (MaS.mach (by assumption))))
    (first
      | (go_at_call 49; refine (EN.out _).mono ?_; rintro e w4 ⟨rfl, hb4⟩; have h4 := MaS.grew (by assumption) hb4)
      | (go_at_call 56; refine (LA'.out _ (by assumption)).mono ?_; rintro e w7 ⟨rfl, h7⟩)
      | (go_at_call 54; refine (ST.out _ (by assumption)).mono ?_; rintro e w5 ⟨⟨u5, rfl⟩, h5⟩))
  all_goals
    clear d6
    have n17 : w5.cell? ⟨m, 17, none⟩ = some (.bool σ.sw) := h5.mach.val 17 rfl
    have f17 := h5.mach.frozen 17
    have n6 : w5.cell? ⟨m, 6, none⟩ = some (.int .i64 σ.nx) := h5.mach.val 6 rfl
    have f6 := h5.mach.frozen 6
    have HX : SwS w0 B a c p m { σ with sw := true, nx := 0 } (cs.set i v) (xs ++ accV who 2 i 0 v z v) (n + 1) K who false ((w5.setCell ⟨m, 17, none⟩ (.bool true)).setCell ⟨m, 6, none⟩ (.int .i64 0)) := (h5.set hr 17 (.bool true)).set hr 6 (.int .i64 0)
    replace HX := Lib.hid HX
    clear h5
    go_wp2_with fail
    refine (OW.out _ _ _ HX.out).mono ?_; rintro e w9 ⟨rfl, h9⟩
    go_wp2
    go_ret
    exact ⟨rfl, h9⟩
end
end Go.Proofs.YtnodeojeijekcaaGreat
