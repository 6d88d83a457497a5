/- TopPlaces: the plan's box and the row of what is used, as one fact. No condition. -/
import Derived.Test.YtcjkachlahjbiaaDoorTpn
namespace Go.Proofs.YtcjkachlahjbiaaDoor
open Go.RowKit
set_option linter.unusedVariables false

def rowOf (N : Nat) (U : Int → Int) : Array Value := ((List.range N).map fun i => Value.int .i64 (U ((i : Nat) : Int))).toArray
theorem rowOf_at (N : Nat) (U : Int → Int) (i : Nat) (h : i < N) : (rowOf N U)[i]? = some (.int .i64 (U (i : Int))) := by
  simp [rowOf, h]
theorem rowOf_put (N : Nat) (U : Int → Int) (a : Nat) : (rowOf N U).setIfInBounds a (.int .i64 1) = rowOf N (put1 U (a : Int)) := by
  apply Array.ext
  · simp [rowOf]
  · intro i h1 h2
    have hN : i < N := by simpa [rowOf] using h2
    simp only [rowOf, put1, Array.getElem_setIfInBounds, List.getElem_toArray, List.getElem_map, List.getElem_range]
    by_cases e : a = i
    · subst e; simp
    · simp [e, show ¬ (i : Int) = (a : Int) by omega]
structure UsS (w0 : World) (b g : Nat) (P T R : Int) (N : Nat) (U : Int → Int) (W : World) : Prop where
  plan : Blk W b #[.int .i64 P, .int .i64 T, .int .i64 R] 26
  row : Blk W g (rowOf N U) 3
  bel : Below w0.heap.size w0 W
  gg : w0.heap.size ≤ g
  ne : b ≠ g
theorem UsS.grew {w0 W W' : World} {b g : Nat} {P T R : Int} {N : Nat} {U : Int → Int} (h : UsS w0 b g P T R N U W) (hb : Below W.heap.size W W') : UsS w0 b g P T R N U W' :=
  ⟨h.plan.grew hb, h.row.grew hb, h.bel.trans (hb.mono h.bel.size), h.gg, h.ne⟩
theorem UsS.drew {w0 W : World} {b g : Nat} {P T R : Int} {N : Nat} {U : Int → Int} (h : UsS w0 b g P T R N U W) : UsS w0 b g P T R N U W.drew := ⟨h.plan.drew, h.row.drew, h.bel.drew, h.gg, h.ne⟩
theorem UsS.at {w0 W : World} {b g : Nat} {P T R : Int} {N : Nat} {U : Int → Int} (h : UsS w0 b g P T R N U W) (a : Nat) (ha : a < N) : W.cell? ⟨g, a, none⟩ = some (.int .i64 (U (a : Int))) := h.row.val a (rowOf_at N U a ha)
theorem UsS.put {w0 W : World} {b g : Nat} {P T R : Int} {N : Nat} {U : Int → Int} (h : UsS w0 b g P T R N U W) (a : Nat) : UsS w0 b g P T R N (put1 U (a : Int)) (W.setCell ⟨g, a, none⟩ (.int .i64 1)) :=
  ⟨h.plan.other _ _ h.ne, by rw [← rowOf_put]; exact h.row.set a _, h.bel.setCell h.gg _, h.gg, h.ne⟩
theorem UsS.three {w0 W : World} {b g : Nat} {P T R : Int} {N : Nat} {U : Int → Int} (h : UsS w0 b g P T R N U W) : W.cell? ⟨b, 0, none⟩ = some (.int .i64 P) ∧ W.cell? ⟨b, 1, none⟩ = some (.int .i64 T) ∧ W.cell? ⟨b, 2, none⟩ = some (.int .i64 R) := ⟨h.plan.val 0 rfl, h.plan.val 1 rfl, h.plan.val 2 rfl⟩
theorem UsS.alloc {w0 W : World} {b g : Nat} {P T R : Int} {N : Nat} {U : Int → Int} (h : UsS w0 b g P T R N U W) (o : Obj) : UsS w0 b g P T R N U (W.alloc o) := ⟨h.plan.alloc o, h.row.alloc o, h.bel.alloc h.bel.size o, h.gg, h.ne⟩
theorem UsS.grown {w0 W W1 : World} {b g base : Nat} {P T R : Int} {N : Nat} {U : Int → Int} {row : Option Nat} (h : UsS w0 b g P T R N U W) (hg : W.grownBy W1 row) (hr : ∀ k, row = some k → base ≤ k) (hb : b < base) (hgb : g < base) (h0 : w0.heap.size ≤ base) : UsS w0 b g P T R N U W1 :=
  ⟨h.plan.of (hg.block b h.plan.lt (fun e => by have := hr b e.symm; omega)), h.row.of (hg.block g h.row.lt (fun e => by have := hr g e.symm; omega)), h.bel.grown hg h.bel.size (fun k e => by have := hr k e; omega), h.gg, h.ne⟩
/-- a list of places beside it -/
structure TbS (w0 : World) (b g h : Nat) (P T R : Int) (N : Nat) (U : Int → Int) (cs : Array Value) (W : World) : Prop where
  us : UsS w0 b g P T R N U W
  tab : Blk W h cs 3
  hg : h ≠ g
theorem TbS.grew {w0 W W' : World} {b g h : Nat} {P T R : Int} {N : Nat} {U : Int → Int} {cs : Array Value} (s : TbS w0 b g h P T R N U cs W) (hb : Below W.heap.size W W') : TbS w0 b g h P T R N U cs W' := ⟨s.us.grew hb, s.tab.grew hb, s.hg⟩
theorem TbS.drew {w0 W : World} {b g h : Nat} {P T R : Int} {N : Nat} {U : Int → Int} {cs : Array Value} (s : TbS w0 b g h P T R N U cs W) : TbS w0 b g h P T R N U cs W.drew := ⟨s.us.drew, s.tab.drew, s.hg⟩
theorem TbS.put {w0 W : World} {b g h : Nat} {P T R : Int} {N : Nat} {U : Int → Int} {cs : Array Value} (s : TbS w0 b g h P T R N U cs W) (a : Nat) : TbS w0 b g h P T R N (put1 U (a : Int)) cs (W.setCell ⟨g, a, none⟩ (.int .i64 1)) := ⟨s.us.put a, s.tab.other _ _ s.hg, s.hg⟩
theorem TbS.five {w0 W : World} {b g h : Nat} {P T R : Int} {N : Nat} {U : Int → Int} {cs : Array Value} {k a : Nat} (s : TbS w0 b g h P T R N U cs W) (hk : cs[k]? = some (.int .i64 (a : Int))) (ha : a < N) (hu : U (a : Int) = 0) :
    (W.cell? ⟨b, 0, none⟩ = some (.int .i64 P) ∧ W.cell? ⟨b, 1, none⟩ = some (.int .i64 T) ∧ W.cell? ⟨b, 2, none⟩ = some (.int .i64 R)) ∧ W.cell? ⟨h, k, none⟩ = some (.int .i64 (a : Int)) ∧ W.cell? ⟨g, a, none⟩ = some (.int .i64 0) :=
  ⟨s.us.three, s.tab.val k hk, by rw [← hu]; exact s.us.at a ha⟩
theorem madeInts (n : Nat) : madeCells #[Value.int .i64 0] (n * 1) = rowOf n (fun _ => 0) := by
  unfold madeCells rowOf
  apply Array.ext
  · simp
  · intro i h1 h2
    simp [show i % 1 = 0 by omega]
theorem info_ints : (Tryd.prog.info? 3).map (fun i => (i.zero, i.size, i.bytes)) = some (some (.int .i64 0), 1, 8) := by kernel_rfl
theorem run_mkI (W : World) (n : Nat) (h1 : n ≤ 4096) : (Instr.makeSlice 22 (.int .i64 (n : Int)) (.int .i64 (n : Int))).run Tryd.prog W = .ok (.slice (some ⟨W.heap.size, 0, none⟩) n n) (W.alloc (.cells (rowOf n (fun _ => 0)) 3)) := by
  obtain ⟨i0, hi0, hz0, hz1, hz2⟩ := info_parts info_ints
  rw [run_make W 22 3 i0 _ Tryd.underlying22 hi0 hz0 .i64 .i64 (n : Int) (n : Int) (by omega) (Int.le_refl _) (by rw [hz2]; omega) (by omega), hz1, Int.toNat_natCast, ← madeInts]
  rfl
end Go.Proofs.YtcjkachlahjbiaaDoor
