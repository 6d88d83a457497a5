/- What Spots of the document's layer 6 returns: new memory that tells of each cell what it is for. Condition: the plan's numbers are in their bounds (else: none). -/
import Derived.Test.YtgcahbgapojimaaRright
namespace Go.Proofs.Ytgcahbgapojimaa
open Go.RowKit
set_option linter.unusedVariables false
set_option linter.unusedSimpArgs false
theorem info_spot : (Try.prog.info? 136).map (fun i => (i.zero, i.size, i.bytes)) = some (some (.agg #[.int .i64 0, .int .i64 0, .int .i64 0]), 3, 24) := by kernel_rfl
theorem cell_three_new (w : World) (x y z : Value) (t : TypeId) : ∀ j u, [x, y, z][j]? = some u → (w.alloc (.cells #[x, y, z] t)).cell? ((⟨w.heap.size, 0, none⟩ : Addr).add j) = some u := by
  intro j u hj
  match j, hj with
  | 0, hj => simp at hj; subst hj; simp [Addr.add]
  | 1, hj => simp at hj; subst hj; simp [Addr.add]
  | 2, hj => simp at hj; subst hj; simp [Addr.add]
/-- the cells of the first n numbers, one behind the other -/
def spotsL (P T R : Int) (n : Nat) : List Value := (List.range n).flatMap fun (k : Nat) => [.int .i64 (findK P T R k), .int .i64 (findA P T R k), .int .i64 (findB P T R k)]
theorem spotsL_succ (P T R : Int) (n : Nat) : spotsL P T R (n + 1) = spotsL P T R n ++ [.int .i64 (findK P T R n), .int .i64 (findA P T R n), .int .i64 (findB P T R n)] := by
  unfold spotsL; rw [List.range_succ, List.flatMap_append]; simp
/-- The list so far: the first n numbers; the plan's box; all that was there below. -/
structure SpotsAt (w W : World) (P T R : Int) (v : Value) (n : Nat) : Prop where
  box : Blk W w.heap.size #[.int .i64 P, .int .i64 T, .int .i64 R] 26
  own : W.ownsRow (w.heap.size + 1) 136 3 v n (spotsL P T R n)
  bel : Below w.heap.size w W
theorem Blk.grownBy {w w' : World} {b : Nat} {cs : Array Value} {t : TypeId} {row : Option Nat} (h : Blk w b cs t) (hg : w.grownBy w' row) (hr : ∀ k, row = some k → k ≠ b) : Blk w' b cs t :=
  h.of (hg.block b h.lt (fun e => hr b e.symm rfl))
theorem spots_step {w W W' : World} {P T R : Int} {v v' : Value} {n : Nat} {k a b : Int} {o : Obj} (h : SpotsAt w W P T R v n)
    (hown : W'.ownsRow (w.heap.size + 1) 136 3 v' (n + 1) (spotsL P T R n ++ [.int .i64 k, .int .i64 a, .int .i64 b])) (hg : (W.alloc o).grownBy W' v.ownBlock)
    (hf : findK P T R n = k ∧ findA P T R n = a ∧ findB P T R n = b) : SpotsAt w W' P T R v' (n + 1) := by
  obtain ⟨rfl, rfl, rfl⟩ := hf
  refine ⟨(h.box.alloc o).grownBy hg (fun g hk => ?_), ?_, (h.bel.alloc h.bel.size o).grown hg (by have := h.bel.size; simp; omega) (fun g hk => ?_)⟩
  · have := (h.own.lt g hk).1; omega
  · rw [spotsL_succ]; exact hown
  · have := (h.own.lt g hk).1; omega
theorem SpotsAt.quiet {w W W' : World} {P T R : Int} {v : Value} {n : Nat} (h : SpotsAt w W P T R v n) (hq : Quiet W W') : SpotsAt w W' P T R v n :=
  ⟨h.box.quiet hq, by obtain ⟨m, rfl⟩ := hq; exact h.own, h.bel.trans hq.below⟩
theorem SpotsAt.cast {w W : World} {P T R : Int} {v : Value} {n m : Nat} (h : SpotsAt w W P T R v n) (e : n = m) : SpotsAt w W P T R v m := e ▸ h
def lenV : Value → Nat
  | .slice _ n _ => n
  | _ => 0
theorem SpotsAt.len {w W : World} {P T R : Int} {v : Value} {n : Nat} (h : SpotsAt w W P T R v n) (h0 : 0 < n) : ∃ g c, v = .slice (some ⟨g, 0, none⟩) n c := by
  rcases h.own.2 with ⟨_, h2⟩ | ⟨g, c, _, h1, _⟩
  · omega
  · exact ⟨g, c, h1⟩
theorem find_t3 {P T R t m : Nat} (hm : m < 5) (ht : t < T) : findK P T R ((16 + t * (5 + R) + m : Nat) : Int) = 3 ∧ findA P T R ((16 + t * (5 + R) + m : Nat) : Int) = t ∧ findB P T R ((16 + t * (5 + R) + m : Nat) : Int) = m := by
  have hmul : (t + 1) * (5 + R) ≤ T * (5 + R) := Nat.mul_le_mul_right _ ht
  have hmul1 : (t + 1) * (5 + R) = t * (5 + R) + (5 + R) := Nat.succ_mul _ _
  have ht0 : tabI T R = ((16 + T * (5 + R) : Nat) : Int) := by unfold tabI; push_cast; rfl
  obtain ⟨e1, e2, e3⟩ := find_3 (P := (P : Int)) (T := T) (R := R) (a := ((16 + t * (5 + R) + m : Nat) : Int)) (by omega) (by omega)
  have hd := div_mul_add (i := t) (m := ((5 + R : Nat) : Int)) (j := m) (by omega) (by omega) (by omega)
  have hx : ((16 + t * (5 + R) + m : Nat) : Int) - 16 = (t : Int) * ((5 + R : Nat) : Int) + m := by push_cast; omega
  have hy : (5 + (R : Int)) = ((5 + R : Nat) : Int) := by push_cast; rfl
  rw [hx, hy, hd.1] at e2
  rw [hx, hy, hd.2, if_pos (by omega)] at e1 e3
  exact ⟨e1, e2, e3⟩
theorem find_t4 {P T R t m : Nat} (hm : m < R) (ht : t < T) : findK P T R ((16 + t * (5 + R) + 5 + m : Nat) : Int) = 4 ∧ findA P T R ((16 + t * (5 + R) + 5 + m : Nat) : Int) = t ∧ findB P T R ((16 + t * (5 + R) + 5 + m : Nat) : Int) = m := by
  have hmul : (t + 1) * (5 + R) ≤ T * (5 + R) := Nat.mul_le_mul_right _ ht
  have hmul1 : (t + 1) * (5 + R) = t * (5 + R) + (5 + R) := Nat.succ_mul _ _
  have ht0 : tabI T R = ((16 + T * (5 + R) : Nat) : Int) := by unfold tabI; push_cast; rfl
  obtain ⟨e1, e2, e3⟩ := find_3 (P := (P : Int)) (T := T) (R := R) (a := ((16 + t * (5 + R) + 5 + m : Nat) : Int)) (by omega) (by omega)
  have hd := div_mul_add (i := t) (m := ((5 + R : Nat) : Int)) (j := ((5 + m : Nat) : Int)) (by omega) (by omega) (by omega)
  have hx : ((16 + t * (5 + R) + 5 + m : Nat) : Int) - 16 = (t : Int) * ((5 + R : Nat) : Int) + ((5 + m : Nat) : Int) := by push_cast; omega
  have hy : (5 + (R : Int)) = ((5 + R : Nat) : Int) := by push_cast; rfl
  rw [hx, hy, hd.1] at e2
  rw [hx, hy, hd.2, if_neg (by omega)] at e1 e3
  exact ⟨e1, e2, by omega⟩
theorem find_p {P T R y q m : Nat} (hy : 16 ≤ y) (hp : 0 < P) (ht : tabI T R = y) (hb : tabI T R + 3 * P ≤ baseI P T R) (hq : q ≤ 2) (hm : m < P) (_ : y < 1000) : findK P T R ((y + q * P + m : Nat) : Int) = 5 + q ∧ findA P T R ((y + q * P + m : Nat) : Int) = m ∧ findB P T R ((y + q * P + m : Nat) : Int) = 0 := by
  have hmq : q * P ≤ 2 * P := Nat.mul_le_mul_right _ hq
  obtain ⟨e1, e2, e3⟩ := find_5 (P := (P : Int)) (T := T) (R := R) (a := ((y + q * P + m : Nat) : Int)) (by omega) (by omega) (by omega)
  have hd := div_mul_add (i := q) (m := (P : Int)) (j := m) (by omega) (by omega) (by omega)
  have hx : ((y + q * P + m : Nat) : Int) - tabI T R = (q : Int) * (P : Int) + m := by rw [ht]; push_cast; omega
  rw [hx, hd.1, if_neg (by omega)] at e1
  rw [hx, hd.1, hd.2, if_neg (by omega)] at e2
  exact ⟨e1, e2, e3⟩
theorem find_g0 {P T R y n : Nat} (ht : tabI T R = y) (hy : 16 ≤ y) (hn : y + 3 * P ≤ n) (hb : (n : Int) < baseI P T R) (hp : 0 < P) : findK P T R (n : Int) = 0 ∧ findA P T R (n : Int) = 0 ∧ findB P T R (n : Int) = 0 := by
  obtain ⟨e1, e2, e3⟩ := find_5 (P := (P : Int)) (T := T) (R := R) (a := (n : Int)) (by omega) (by omega) (by omega)
  have h3 : 3 ≤ ((n : Int) - tabI T R) / P := (Int.le_ediv_iff_mul_le (by omega)).2 (by omega)
  rw [if_pos h3] at e1 e2
  exact ⟨e1, e2, e3⟩
theorem find_h8 {P T R y Z m u : Nat} (ht : tabI T R = y) (hZ : baseI P T R = Z) (hy : 16 ≤ y) (hn : y ≤ Z) (hu : u < 64) : findK P T R ((Z + 64 * m + u : Nat) : Int) = 8 ∧ findA P T R ((Z + 64 * m + u : Nat) : Int) = m ∧ findB P T R ((Z + 64 * m + u : Nat) : Int) = u := by
  obtain ⟨e1, e2, e3⟩ := find_8 (P := (P : Int)) (T := T) (R := R) (a := ((Z + 64 * m + u : Nat) : Int)) (by omega) (by omega) (by omega)
  rw [hZ] at e2 e3
  exact ⟨e1, by omega, by omega⟩
set_option maxRecDepth 100000 in
set_option maxHeartbeats 4000000 in
theorem spots_walk (P T R : Nat) (w : World) (hR : Right P T R) :
    Calls Try.prog 84 #[.agg #[.int .i64 P, .int .i64 T, .int .i64 R]] w fun e w' => ∃ (v : Value) (n : Nat), e = .returned v ∧ (n : Int) = baseI P T R + 64 * P ∧ SpotsAt w w' P T R v n := by
  have V := Lib.hid (fun W => rright_any P T R W)
  rw [of_right hR] at V
  have ht := tab_bd hR
  have hb := base_bd hR
  have hRh := Lib.hid hR
  obtain ⟨⟨p1, p2⟩, ⟨t1, t2⟩, r1, r2⟩ := hR
  have ht0 : tabI T R = ((16 + T * (5 + R) : Nat) : Int) := by unfold tabI; push_cast; rfl
  obtain ⟨i0, hi, hz0, hz1, hz2⟩ := info_parts info_spot
  go_enter Try.func84, Try.ntmps84
  go_wp2_with fail
  refine (V.out _).mono ?_; rintro e w1 ⟨rfl, hb1⟩
  have X1 := (Blk.new w #[.int .i64 P, .int .i64 T, .int .i64 R] 26).grew hb1
  have B1 : Below w.heap.size w w1 := ((Below.refl _ _).alloc (Nat.le_refl _) _).trans (hb1.mono (by simp))
  have S0 : SpotsAt w w1 P T R (.slice none 0 0) 0 := ⟨X1, by rw [show spotsL (P : Int) T R 0 = [] from rfl]; exact World.ownsRow_nil _ _ _ _, B1⟩
  clear X1 B1 hb1
  have hsz := S0.bel.size
  go_wp2_with (at_builtin; refine wpList_append_own _ rfl _ _ 146 rfl (w.heap.size + 1) 136 i0 (.agg #[.int .i64 0, .int .i64 0, .int .i64 0]) 3 24 Try.underlying146 hi hz0 hz1 hz2 rfl (by decide) _ _ _ rfl (S0.own.alloc _) ⟨w1.heap.size, 0, none⟩ 1 1 [.int .i64 0, .int .i64 0, .int .i64 0] rfl rfl (cell_three_new _ _ _ _ _) ?c2x1 ?c3x1 ?c4x1 ?c5x1 ?_)
  try (case c2x1 => (simp [Value.oneCell']))
  try (case c3x1 => (unfold maxLen; omega))
  try (case c4x1 => (omega))
  try (case c5x1 => (have := S0.box.lt; simp; omega))
  intro v3 w3 hown3 hgrow _
  have S1 := spots_step S0 hown3 hgrow (by exact ⟨rfl, rfl, rfl⟩)
  clear hown3 hgrow
  clear S0
  go_wp2
  go_loopw [3, 4] (fun v x wr => ∃ m : Nat, 1 ≤ m ∧ m ≤ 7 ∧ x = .int .i64 m ∧ SpotsAt w wr P T R v m)
    (fun _ x _ => 8 - (intOf x).toNat)
  case atStart => exact ⟨1, by omega, by omega, rfl, S1⟩
  case round =>
    obtain ⟨m, hm1, hm2, rfl, hS⟩ := hrel
    by_cases hlt : (m : Int) ≤ 6
    ·
      have hsz := hS.bel.size
      go_wp2_with (at_builtin; refine wpList_append_own _ rfl _ _ 146 rfl (w.heap.size + 1) 136 i0 (.agg #[.int .i64 0, .int .i64 0, .int .i64 0]) 3 24 Try.underlying146 hi hz0 hz1 hz2 rfl (by decide) _ _ _ rfl (hS.own.alloc _) ⟨wr.heap.size, 0, none⟩ 1 1 [.int .i64 1, .int .i64 m, .int .i64 0] rfl rfl (cell_three_new _ _ _ _ _) ?c2x2 ?c3x2 ?c4x2 ?c5x2 ?_)
      try (case c2x2 => (simp [Value.oneCell']))
      try (case c3x2 => (unfold maxLen; omega))
      try (case c4x2 => (omega))
      try (case c5x2 => (have := hS.box.lt; simp; omega))
      intro v3 w3 hown3 hgrow _
      have S2 := spots_step hS hown3 hgrow (find_1 (by omega) (by omega))
      clear hown3 hgrow
      go_wp2
      go_roundw
      case rel => exact ⟨m + 1, by omega, by omega, by go_num, S2⟩
      case measure => simp [intOf]; omega
    ·
      have S2 := hS.cast (show m = 7 by omega)
      clear S1 hS
      have hsz := S2.bel.size
      go_wp2_with (at_builtin; refine wpList_append_own _ rfl _ _ 146 rfl (w.heap.size + 1) 136 i0 (.agg #[.int .i64 0, .int .i64 0, .int .i64 0]) 3 24 Try.underlying146 hi hz0 hz1 hz2 rfl (by decide) _ _ _ rfl (S2.own.alloc _) ⟨wr.heap.size, 0, none⟩ 1 1 [.int .i64 0, .int .i64 0, .int .i64 0] rfl rfl (cell_three_new _ _ _ _ _) ?c2x3 ?c3x3 ?c4x3 ?c5x3 ?_)
      try (case c2x3 => (simp [Value.oneCell']))
      try (case c3x3 => (unfold maxLen; omega))
      try (case c4x3 => (omega))
      try (case c5x3 => (have := S2.box.lt; simp; omega))
      intro v3 w3 hown3 hgrow _
      have S3 := spots_step S2 hown3 hgrow (by exact ⟨rfl, rfl, rfl⟩)
      clear hown3 hgrow
      clear S2 hlt
      go_wp2
      go_loopw [3, 5] (fun v x wr => ∃ m : Nat, m ≤ 8 ∧ x = .int .i64 m ∧ SpotsAt w wr P T R v (8 + m))
        (fun _ x _ => 8 - (intOf x).toNat)
      case atStart => exact ⟨0, by omega, rfl, S3⟩
      case round =>
        obtain ⟨m, hm2, rfl, hS⟩ := hrel
        by_cases hlt : (m : Int) < 8
        ·
          have hsz := hS.bel.size
          go_wp2_with (at_builtin; refine wpList_append_own _ rfl _ _ 146 rfl (w.heap.size + 1) 136 i0 (.agg #[.int .i64 0, .int .i64 0, .int .i64 0]) 3 24 Try.underlying146 hi hz0 hz1 hz2 rfl (by decide) _ _ _ rfl (hS.own.alloc _) ⟨wr.heap.size, 0, none⟩ 1 1 [.int .i64 2, .int .i64 m, .int .i64 0] rfl rfl (cell_three_new _ _ _ _ _) ?c2x4 ?c3x4 ?c4x4 ?c5x4 ?_)
          try (case c2x4 => (simp [Value.oneCell']))
          try (case c3x4 => (unfold maxLen; omega))
          try (case c4x4 => (omega))
          try (case c5x4 => (have := hS.box.lt; simp; omega))
          intro v3 w3 hown3 hgrow _
          have S2 := spots_step hS hown3 hgrow (by obtain ⟨e1, e2, e3⟩ := find_2 (P := (P : Int)) (T := T) (R := R) (a := ((8 + m : Nat) : Int)) (by omega) (by omega); exact ⟨e1, by omega, e3⟩)
          clear hown3 hgrow
          go_wp2
          go_roundw
          case rel => exact ⟨m + 1, by omega, by go_num, S2⟩
          case measure => simp [intOf]; omega
        ·
          have S4 := hS.cast (show 8 + m = 16 + 0 * (5 + R) by omega)
          clear S3 hS
          go_wp2
          go_loopw [3, 6] (fun v x wr => ∃ t : Nat, t ≤ T ∧ x = .int .i64 t ∧ SpotsAt w wr P T R v (16 + t * (5 + R)))
            (fun _ x _ => T - (intOf x).toNat)
          case atStart => exact ⟨0, by omega, rfl, S4⟩
          case round =>
            obtain ⟨t, ht2, rfl, hS⟩ := hrel
            have q1 := hS.box.val 1 rfl
            by_cases hlt : t < T
            ·
              have hmul : (t + 1) * (5 + R) ≤ T * (5 + R) := Nat.mul_le_mul_right _ hlt
              have hmul1 : (t + 1) * (5 + R) = t * (5 + R) + (5 + R) := Nat.succ_mul _ _
              have hm126 : T * (5 + R) ≤ 126 := by have := Nat.mul_le_mul (show T ≤ 6 by omega) (show 5 + R ≤ 21 by omega); omega
              have hS5 := hS.cast (show 16 + t * (5 + R) = 16 + t * (5 + R) + 0 by omega)
              clear S4 hS
              go_wp2
              go_loopw [3, 7] (fun v x wr => ∃ m : Nat, m ≤ 5 ∧ x = .int .i64 m ∧ SpotsAt w wr P T R v (16 + t * (5 + R) + m))
                (fun _ x _ => 5 - (intOf x).toNat)
              case atStart => exact ⟨0, by omega, rfl, hS5⟩
              case round =>
                obtain ⟨m, hm2, rfl, hS⟩ := hrel
                by_cases hl5 : (m : Int) < 5
                ·
                  have hsz := hS.bel.size
                  go_wp2_with (at_builtin; refine wpList_append_own _ rfl _ _ 146 rfl (w.heap.size + 1) 136 i0 (.agg #[.int .i64 0, .int .i64 0, .int .i64 0]) 3 24 Try.underlying146 hi hz0 hz1 hz2 rfl (by decide) _ _ _ rfl (hS.own.alloc _) ⟨wr.heap.size, 0, none⟩ 1 1 [.int .i64 3, .int .i64 t, .int .i64 m] rfl rfl (cell_three_new _ _ _ _ _) ?c2x5 ?c3x5 ?c4x5 ?c5x5 ?_)
                  try (case c2x5 => (simp [Value.oneCell']))
                  try (case c3x5 => (unfold maxLen; omega))
                  try (case c4x5 => (omega))
                  try (case c5x5 => (have := hS.box.lt; simp; omega))
                  intro v3 w3 hown3 hgrow _
                  have S2 := spots_step hS hown3 hgrow (find_t3 (by omega) hlt)
                  clear hown3 hgrow
                  go_wp2
                  go_roundw
                  case rel => exact ⟨m + 1, by omega, by go_num, S2⟩
                  case measure => simp [intOf]; omega
                ·
                  have S5 := hS.cast (show 16 + t * (5 + R) + m = 16 + t * (5 + R) + 5 + 0 by omega)
                  clear hS hS5
                  go_wp2
                  go_loopw [3, 8] (fun v x wr => ∃ m : Nat, m ≤ R ∧ x = .int .i64 m ∧ SpotsAt w wr P T R v (16 + t * (5 + R) + 5 + m))
                    (fun _ x _ => R - (intOf x).toNat)
                  case atStart => exact ⟨0, by omega, rfl, S5⟩
                  case round =>
                    obtain ⟨m, hm2, rfl, hS⟩ := hrel
                    have q2 := hS.box.val 2 rfl
                    by_cases hl5 : m < R
                    ·
                      have hsz := hS.bel.size
                      go_wp2_with (at_builtin; refine wpList_append_own _ rfl _ _ 146 rfl (w.heap.size + 1) 136 i0 (.agg #[.int .i64 0, .int .i64 0, .int .i64 0]) 3 24 Try.underlying146 hi hz0 hz1 hz2 rfl (by decide) _ _ _ rfl (hS.own.alloc _) ⟨wr.heap.size, 0, none⟩ 1 1 [.int .i64 4, .int .i64 t, .int .i64 m] rfl rfl (cell_three_new _ _ _ _ _) ?c2x6 ?c3x6 ?c4x6 ?c5x6 ?_)
                      try (case c2x6 => (simp [Value.oneCell']))
                      try (case c3x6 => (unfold maxLen; omega))
                      try (case c4x6 => (omega))
                      try (case c5x6 => (have := hS.box.lt; simp; omega))
                      intro v3 w3 hown3 hgrow _
                      have S2 := spots_step hS hown3 hgrow (find_t4 (by omega) hlt)
                      clear hown3 hgrow
                      go_wp2
                      go_roundw
                      case rel => exact ⟨m + 1, by omega, by go_num, S2⟩
                      case measure => simp [intOf]; omega
                    ·
                      have S6 := hS.cast (show 16 + t * (5 + R) + 5 + m = 16 + (t + 1) * (5 + R) by omega)
                      clear hS S5
                      go_wp2
                      go_roundw
                      case rel => exact ⟨t + 1, by omega, by go_num, S6⟩
                      case measure => simp [intOf]; omega
            ·
              have htT : t = T := by omega
              subst htT
              have hm126 : t * (5 + R) ≤ 126 := by have := Nat.mul_le_mul (show t ≤ 6 by omega) (show 5 + R ≤ 21 by omega); omega
              have hy : ∃ y : Nat, y = 16 + t * (5 + R) := ⟨_, rfl⟩
              obtain ⟨y, hy⟩ := hy
              have ht1 : tabI t R = y := by rw [ht0, hy]
              have S7 := hS.cast (show 16 + t * (5 + R) = y + 0 * P by omega)
              clear S4 hS hlt ht2 hy ht0
              go_wp2
              go_loopw [3, 9] (fun v x wr => ∃ q : Nat, q ≤ 3 ∧ x = .int .i64 (5 + q) ∧ SpotsAt w wr P t R v (y + q * P))
                (fun _ x _ => 8 - (intOf x).toNat)
              case atStart => exact ⟨0, by omega, rfl, S7⟩
              case round =>
                obtain ⟨q, hq2, rfl, hS⟩ := hrel
                by_cases hlt : (5 + q : Int) ≤ 7
                ·
                  have hmq : q * P ≤ 2 * P := Nat.mul_le_mul_right _ (by omega)
                  have hmq1 : (q + 1) * P = q * P + P := Nat.succ_mul _ _
                  have hS5 := hS.cast (show y + q * P = y + q * P + 0 by omega)
                  clear S7 hS
                  go_wp2
                  go_loopw [3, 10] (fun v x wr => ∃ m : Nat, m ≤ P ∧ x = .int .i64 m ∧ SpotsAt w wr P t R v (y + q * P + m))
                    (fun _ x _ => P - (intOf x).toNat)
                  case atStart => exact ⟨0, by omega, rfl, hS5⟩
                  case round =>
                    obtain ⟨m, hm2, rfl, hS⟩ := hrel
                    have q0 := hS.box.val 0 rfl
                    by_cases hl5 : m < P
                    ·
                      have hsz := hS.bel.size
                      go_wp2_with (at_builtin; refine wpList_append_own _ rfl _ _ 146 rfl (w.heap.size + 1) 136 i0 (.agg #[.int .i64 0, .int .i64 0, .int .i64 0]) 3 24 Try.underlying146 hi hz0 hz1 hz2 rfl (by decide) _ _ _ rfl (hS.own.alloc _) ⟨wr.heap.size, 0, none⟩ 1 1 [.int .i64 (5 + q), .int .i64 m, .int .i64 0] rfl rfl (cell_three_new _ _ _ _ _) ?c2x7 ?c3x7 ?c4x7 ?c5x7 ?_)
                      try (case c2x7 => (simp [Value.oneCell']))
                      try (case c3x7 => (unfold maxLen; omega))
                      try (case c4x7 => (omega))
                      try (case c5x7 => (have := hS.box.lt; simp; omega))
                      intro v3 w3 hown3 hgrow _
                      have S2 := spots_step hS hown3 hgrow (find_p (by omega) (by omega) ht1 (by omega) (by omega) hl5 (by omega))
                      clear hown3 hgrow
                      go_wp2
                      go_roundw
                      case rel => exact ⟨m + 1, by omega, by go_num, S2⟩
                      case measure => simp [intOf]; omega
                    ·
                      have S6 := hS.cast (show y + q * P + m = y + (q + 1) * P by omega)
                      clear hS hS5
                      have hgq : IntKind.i64.wrap (5 + (q : Int) + 1) = 5 + (q : Int) + 1 := wi (by omega)
                      go_wp2
                      go_roundw
                      case rel => exact ⟨q + 1, by omega, by first | go_num | (simp; omega), S6⟩
                      case measure => simp [intOf]; omega
                ·
                  have hq3 : q = 3 := by omega
                  subst hq3
                  obtain ⟨Z, hZ⟩ : ∃ Z : Nat, baseI P t R = Z := ⟨(baseI P t R).toNat, by omega⟩
                  have S8 := hS
                  clear S7 hS hlt
                  go_wp2
                  rw [show ((5 : Int) + ((3 : Nat) : Int)) = 8 from rfl]

                  go_loopw [3] (fun v wr => ∃ n : Nat, y + 3 * P ≤ n ∧ n ≤ Z ∧ SpotsAt w wr P t R v n)
                    (fun v _ => 1000 - lenV v)
                  case atStart => exact ⟨_, by omega, by omega, S8⟩
                  case round =>
                    obtain ⟨n, hn1, hn2, hS⟩ := hrel
                    obtain ⟨g, c, rfl⟩ := hS.len (by omega)
                    by_cases hlt : n % 64 = 0
                    rotate_left 1
                    ·
                      have hn64 : ((n : Int) % 64 == 0) = false := by simp; omega
                      have hsz := hS.bel.size
                      go_wp2_with (at_builtin; refine wpList_append_own _ rfl _ _ 146 rfl (w.heap.size + 1) 136 i0 (.agg #[.int .i64 0, .int .i64 0, .int .i64 0]) 3 24 Try.underlying146 hi hz0 hz1 hz2 rfl (by decide) _ _ _ rfl (hS.own.alloc _) ⟨wr.heap.size, 0, none⟩ 1 1 [.int .i64 0, .int .i64 0, .int .i64 0] rfl rfl (cell_three_new _ _ _ _ _) ?c2x8 ?c3x8 ?c4x8 ?c5x8 ?_)
                      try (case c2x8 => (simp [Value.oneCell']))
                      try (case c3x8 => (unfold maxLen; omega))
                      try (case c4x8 => (omega))
                      try (case c5x8 => (have := hS.box.lt; simp; omega))
                      intro v3 w3 hown3 hgrow _
                      have S2 := spots_step hS hown3 hgrow (find_g0 ht1 (by omega) (by omega) (by omega) (by omega))
                      clear hown3 hgrow
                      obtain ⟨g2, c2, rfl⟩ := S2.len (by omega)
                      go_wp2
                      go_roundw
                      case rel => exact ⟨n + 1, by omega, by omega, S2⟩
                      case measure => simp [lenV]; omega
                    ·
                      have hn64 : ((n : Int) % 64 == 0) = true := by simp; omega
                      have hnZ : n = Z := by omega
                      subst hnZ
                      have S9 := hS.cast (show n = n + 64 * 0 by omega)
                      clear S8 hS hlt
                      go_wp2
                      rw [show ((n : Int) % 64 != 0) = false from by simp; omega]
                      clear hn64

                      go_loopw [3, 11] (fun v x wr => ∃ m : Nat, m ≤ P ∧ x = .int .i64 m ∧ SpotsAt w wr P t R v (n + 64 * m))
                        (fun _ x _ => P - (intOf x).toNat)
                      case atStart => exact ⟨0, by omega, rfl, S9⟩
                      case round =>
                        obtain ⟨m, hm2, rfl, hS⟩ := hrel
                        have q0 := hS.box.val 0 rfl
                        by_cases hlt : m < P
                        ·
                          have hS5 := hS.cast (show n + 64 * m = n + 64 * m + 0 by omega)
                          clear S9 hS
                          go_wp2
                          go_loopw [3, 12] (fun v x wr => ∃ u : Nat, u ≤ 64 ∧ x = .int .i64 u ∧ SpotsAt w wr P t R v (n + 64 * m + u))
                            (fun _ x _ => 64 - (intOf x).toNat)
                          case atStart => exact ⟨0, by omega, rfl, hS5⟩
                          case round =>
                            obtain ⟨u, hu2, rfl, hS⟩ := hrel
                            by_cases hl5 : (u : Int) < 64
                            ·
                              have hsz := hS.bel.size
                              go_wp2_with (at_builtin; refine wpList_append_own _ rfl _ _ 146 rfl (w.heap.size + 1) 136 i0 (.agg #[.int .i64 0, .int .i64 0, .int .i64 0]) 3 24 Try.underlying146 hi hz0 hz1 hz2 rfl (by decide) _ _ _ rfl (hS.own.alloc _) ⟨wr.heap.size, 0, none⟩ 1 1 [.int .i64 8, .int .i64 m, .int .i64 u] rfl rfl (cell_three_new _ _ _ _ _) ?c2x9 ?c3x9 ?c4x9 ?c5x9 ?_)
                              try (case c2x9 => (simp [Value.oneCell']))
                              try (case c3x9 => (unfold maxLen; omega))
                              try (case c4x9 => (omega))
                              try (case c5x9 => (have := hS.box.lt; simp; omega))
                              intro v3 w3 hown3 hgrow _
                              have S2 := spots_step hS hown3 hgrow (find_h8 ht1 hZ (by omega) (by omega) (by omega))
                              clear hown3 hgrow
                              go_wp2
                              go_roundw
                              case rel => exact ⟨u + 1, by omega, by go_num, S2⟩
                              case measure => simp [intOf]; omega
                            ·
                              have S6 := hS.cast (show n + 64 * m + u = n + 64 * (m + 1) by omega)
                              clear hS hS5
                              go_wp2
                              go_roundw
                              case rel => exact ⟨m + 1, by omega, by go_num, S6⟩
                              case measure => simp [intOf]; omega
                        ·
                          have S6 := hS.cast (show n + 64 * m = n + 64 * P by omega)
                          clear hS S9
                          go_wp2
                          go_ret
                          exact ⟨_, _, rfl, by omega, S6⟩
end Go.Proofs.Ytgcahbgapojimaa
