/- The walk of the law RingSides: it returns true, whatever is given. No condition but that each number fits its kind. -/
import Derived.Test.YtgcahbgapojimaaRsid
namespace Go.Proofs.Ytgcahbgapojimaa
open Go.RowKit
theorem cell_of_own {w : World} {B g n cap : Nat} {cs : List Int} {E : TypeId} (h : w.ownsRow B E 1 (.slice (some ⟨g, 0, none⟩) n cap) n (cs.map (Value.int .u64))) (q : Nat) (hq : q < n) : w.cell? ⟨g, q, none⟩ = some (.int .u64 (cs.getD q 0)) := by
  have hn : cs.length = n := by have := h.1; simpa using this
  rw [h.cellAt q (by omega)]
  simp [List.getD_eq_getElem?_getD, show q < cs.length by omega]
theorem cell_keep {w w' : World} {b o : Nat} {v : Value} (h : w.cell? ⟨b, o, none⟩ = some v) (hb : Below w.heap.size w w') : w'.cell? ⟨b, o, none⟩ = some v := (hb.cell (p := ⟨b, o, none⟩) (World.block_lt_of_cell? w _ h)).trans h
/-- the cells that the last loop reads -/
theorem sd_keep {w w' : World} {g q g2 d qb : Nat} {z P T R x y u : Int} (h : (w.cell? ⟨g, q, none⟩ = some (.int .u64 0) ∧ w.cell? ⟨g2, q, none⟩ = some (.int .u64 z) ∧ w.cell? ⟨qb, 2, none⟩ = some (.int .i64 R)) ∧ w.cell? ⟨d, 0, none⟩ = some (.int .i64 P) ∧ w.cell? ⟨d, 1, none⟩ = some (.int .i64 T) ∧ w.cell? ⟨d, 2, none⟩ = some (.int .i64 R) ∧ w.cell? ⟨d, 3, none⟩ = some (.int .i64 x) ∧ w.cell? ⟨d, 4, none⟩ = some (.int .i64 y) ∧ w.cell? ⟨d, 5, none⟩ = some (.int .i64 u)) (hb : Below w.heap.size w w') :
    (w'.cell? ⟨g, q, none⟩ = some (.int .u64 0) ∧ w'.cell? ⟨g2, q, none⟩ = some (.int .u64 z) ∧ w'.cell? ⟨qb, 2, none⟩ = some (.int .i64 R)) ∧ w'.cell? ⟨d, 0, none⟩ = some (.int .i64 P) ∧ w'.cell? ⟨d, 1, none⟩ = some (.int .i64 T) ∧ w'.cell? ⟨d, 2, none⟩ = some (.int .i64 R) ∧ w'.cell? ⟨d, 3, none⟩ = some (.int .i64 x) ∧ w'.cell? ⟨d, 4, none⟩ = some (.int .i64 y) ∧ w'.cell? ⟨d, 5, none⟩ = some (.int .i64 u) := by
  obtain ⟨⟨h1, h2, h3⟩, h4, h5, h6, h7, h8, h9⟩ := h
  exact ⟨⟨cell_keep h1 hb, cell_keep h2 hb, cell_keep h3 hb⟩, cell_keep h4 hb, cell_keep h5 hb, cell_keep h6 hb, cell_keep h7 hb, cell_keep h8 hb, cell_keep h9 hb⟩
theorem sd_keep2 {w9 w w' : World} {g q g2 d qb : Nat} {z P T R x y u : Int} (h : ((w.cell? ⟨g, q, none⟩ = some (.int .u64 0) ∧ w.cell? ⟨g2, q, none⟩ = some (.int .u64 z) ∧ w.cell? ⟨qb, 2, none⟩ = some (.int .i64 R)) ∧ w.cell? ⟨d, 0, none⟩ = some (.int .i64 P) ∧ w.cell? ⟨d, 1, none⟩ = some (.int .i64 T) ∧ w.cell? ⟨d, 2, none⟩ = some (.int .i64 R) ∧ w.cell? ⟨d, 3, none⟩ = some (.int .i64 x) ∧ w.cell? ⟨d, 4, none⟩ = some (.int .i64 y) ∧ w.cell? ⟨d, 5, none⟩ = some (.int .i64 u)) ∧ Below w9.heap.size w9 w) (hb : Below w.heap.size w w') :
    ((w'.cell? ⟨g, q, none⟩ = some (.int .u64 0) ∧ w'.cell? ⟨g2, q, none⟩ = some (.int .u64 z) ∧ w'.cell? ⟨qb, 2, none⟩ = some (.int .i64 R)) ∧ w'.cell? ⟨d, 0, none⟩ = some (.int .i64 P) ∧ w'.cell? ⟨d, 1, none⟩ = some (.int .i64 T) ∧ w'.cell? ⟨d, 2, none⟩ = some (.int .i64 R) ∧ w'.cell? ⟨d, 3, none⟩ = some (.int .i64 x) ∧ w'.cell? ⟨d, 4, none⟩ = some (.int .i64 y) ∧ w'.cell? ⟨d, 5, none⟩ = some (.int .i64 u)) ∧ Below w9.heap.size w9 w' := ⟨sd_keep h.1 hb, h.2.trans (hb.mono h.2.size)⟩
theorem sd_bel {w9 w : World} {g q g2 d qb : Nat} {z P T R x y u : Int} (h : ((w.cell? ⟨g, q, none⟩ = some (.int .u64 0) ∧ w.cell? ⟨g2, q, none⟩ = some (.int .u64 z) ∧ w.cell? ⟨qb, 2, none⟩ = some (.int .i64 R)) ∧ w.cell? ⟨d, 0, none⟩ = some (.int .i64 P) ∧ w.cell? ⟨d, 1, none⟩ = some (.int .i64 T) ∧ w.cell? ⟨d, 2, none⟩ = some (.int .i64 R) ∧ w.cell? ⟨d, 3, none⟩ = some (.int .i64 x) ∧ w.cell? ⟨d, 4, none⟩ = some (.int .i64 y) ∧ w.cell? ⟨d, 5, none⟩ = some (.int .i64 u)) ∧ Below w9.heap.size w9 w) : Below w9.heap.size w9 w := h.2
set_option maxRecDepth 100000 in
set_option maxHeartbeats 4000000 in
theorem rsides_walk (P0 T0 R0 mine v times : Int) (w : World) (hv : U64 v) :
    Calls Try.prog 5 #[.agg #[.int .i64 P0, .int .i64 T0, .int .i64 R0, .int .i64 mine, .int .u64 v, .int .i64 times]] w fun e w' => e = .returned (.bool true) ∧ Below w.heap.size w w' := by
  have hv1 := Lib.hid (or_one v hv)
  clear hv
  go_enter Try.func5, Try.ntmps5
  go_wp2_with fail
  generalize hW : w.alloc _ = w0
  have hG : Blk w0 w.heap.size #[.int .i64 P0, .int .i64 T0, .int .i64 R0, .int .i64 mine, .int .u64 v, .int .i64 times] 58 := by rw [← hW]; exact Blk.new' rfl
  have hs0 : w0.heap.size = w.heap.size + 1 := by rw [← hW]; simp
  have hB0 : Below w.heap.size w w0 := by rw [← hW]; exact (Below.refl _ _).alloc (Nat.le_refl _) _
  clear hW
  obtain ⟨⟨g0, g1, g2, g3, g4, g5⟩, _⟩ := hG.six
  go_region
  have hQ1 : Blk (w0.alloc (.cells #[.int .i64 P0, .int .i64 T0, .int .i64 R0] 26)).drew (w.heap.size + 1) #[.int .i64 P0, .int .i64 T0, .int .i64 R0] 26 := (Blk.new' hs0.symm).drew
  have hB1 := (hB0.alloc hB0.size (.cells #[.int .i64 P0, .int .i64 T0, .int .i64 R0] 26)).drew
  generalize (w0.alloc (.cells #[.int .i64 P0, .int .i64 T0, .int .i64 R0] 26)).drew = w1 at *
  clear g0 g1 g2 g3 g4 g5 hG hs0 hB0
  as_aux_lemma =>
    generalize hqb : w.heap.size + 1 = qb at *
    have hqb1 : w.heap.size ≤ qb := by omega
    clear hqb
    go_wp2_with fail
    refine (ringed_any _).mono ?_; rintro e w2 ⟨rfl, hb2⟩
    have hQ2 := hQ1.grew hb2
    have hB2 := hB1.trans (hb2.mono hB1.size)
    have q2 := hQ2.three.1
    clear hQ1 hB1 hb2
    go_wp2_with fail
    refine (small_any _ _ _ _).mono ?_; rintro e w3 ⟨P, T, R, rfl, hP, hT, hR, hb3⟩
    have hQ3 := hQ2.grew hb3
    have hB3 := hB2.trans (hb3.mono hB2.size)
    have q3 := hQ3.three
    have hQ4 : Blk (((w3.setCell ⟨qb, 0, none⟩ (.int .i64 P)).setCell ⟨qb, 1, none⟩ (.int .i64 T)).setCell ⟨qb, 2, none⟩ (.int .i64 R)) qb #[.int .i64 P, .int .i64 T, .int .i64 R] 26 := ((hQ3.set 0 (.int .i64 P)).set 1 (.int .i64 T)).set 2 (.int .i64 R)
    have hB4 : Below w.heap.size w (((w3.setCell ⟨qb, 0, none⟩ (.int .i64 P)).setCell ⟨qb, 1, none⟩ (.int .i64 T)).setCell ⟨qb, 2, none⟩ (.int .i64 R)) := ((hB3.setCell (p := ⟨qb, 0, none⟩) hqb1 _).setCell (p := ⟨qb, 1, none⟩) hqb1 _).setCell (p := ⟨qb, 2, none⟩) hqb1 _
    have hRt : Right P T R := ⟨by omega, by omega, by omega⟩
    have L := Lib.hid (fun W => lay_yes P T R 3 W hRt (by decide) (by decide))
    have hwT : IntKind.u64.wrap T = T := by rw [IntKind.wrap_u64]; omega
    clear hQ2 hB2 hb3 q2
    go_wp2_with fail
    generalize World.setCell (World.setCell (World.setCell w3 _ _) _ _) _ _ = w4 at *
    clear hQ3 hB3 q3
    refine (L.out _).mono ?_; rintro e w5 ⟨a, c, p, rfl, hX5, hP5, hp, hb5⟩
    have hQ5 := hQ4.grew hb5
    have hB5 := hB4.trans (hb5.mono hB4.size)
    have q5 := hQ5.three.1
    have lq4 := hQ4.lt
    have lw4 := hB4.size
    have hmi := mod_lit mine T (by omega) (by omega)
    obtain ⟨hN, hN1, hN2⟩ := cellsN_bd hRt
    obtain ⟨lv5, hL5, _⟩ := hX5.ex
    have IM := Lib.hid (image_at a c _ true _ _ _ w5 hL5.at' (by rw [List.length_replicate]; exact hN1) (by rw [List.length_replicate]; omega))
    as_aux_lemma =>
      clear hb5 hQ4 hB4 L hL5
      go_wp2_with fail
      generalize wrap64 ((IntKind.u64.wrap mine).tmod T) = t at *
      clear hwT
      refine IM.out.mono ?_; rintro e w6 ⟨vg, rfl, hown6, hb6⟩
      rw [List.length_replicate] at hown6
      obtain ⟨g, gcap, rfl, hg, hgl⟩ := hown6.form hN1
      have hx : exB P T R t = true := by
        unfold exB
        rw [of_right hRt, Bool.true_and]
        exact decide_eq_true (by omega)
      have hI6 : SidI w w4.heap.size a c p g qb P T R t (cellsN P T R) 0 w6 := by
        refine ⟨⟨_, _, ⟨_, (hX5.add hb6 hg hgl)⟩, SidC.zero R t _, by omega⟩, hP5.grew hb6, hQ5.grew hb6, fun i hi => ?_, hB5.trans (hb6.mono hB5.size), ⟨hqb1, lw4, lq4, hp, Nat.le_trans hX5.bw hg⟩, ?_, hgl⟩
        · rw [cell_of_own hown6 i hi]
          congr 2
          simp only [List.getD_eq_getElem?_getD, List.getElem?_replicate]; split <;> rfl
        · have := hP5.lt
          omega
      as_aux_lemma =>
        clear hX5 hP5 hQ5 hB5 q5 hown6 hb6 IM
        go_wp2_with fail
        obtain ⟨M, hM⟩ : ∃ M : Nat, wrap64 ((IntKind.u64.wrap times).tmod 8) = (M : Int) := ⟨(wrap64 ((IntKind.u64.wrap times).tmod 8)).toNat, by have := mod_lit times 8 (by decide) (by decide); omega⟩
        have hM8 : M < 8 := by have := mod_lit times 8 (by decide) (by decide); omega
        have NP := Lib.hid (fun W => newpush_yes P T R t (bits .or .u64 v 1) W hx hv1.out.1)
        have DR := Lib.hid (fun W => draw_yes P T R W hRt)
        unfold mapV at DR
        generalize baseI P T R + 64 * P = zc at DR
        generalize baseI P T R = zb at DR
        generalize tabI T R = ze at DR
        have hst := status_bd hx
        have MS := Lib.hid (fun W => mstatus_any P T R zb ze zc t W (by omega) (by omega))
        generalize hNN : cellsN P T R = N at *
        have HX := Lib.hid hx
        have HN := Lib.hid hNN
        clear hN hNN hx hRt
        go_loopw [11] (fun i wr => ∃ k : Nat, k ≤ M ∧ i = .int .i64 k ∧ SidI w w4.heap.size a c p g qb P T R t N k wr) (fun i _ => M - (intOf i).toNat)
        case atStart => exact ⟨0, Nat.zero_le _, rfl, hI6⟩
        case round =>
          obtain ⟨k, hk, rfl, hI⟩ := hrel
          by_cases hlt : k < M
          · have q1 := hI.plan.three.1
            go_wp2_with fail
            refine (rplan_any P T R _).mono ?_; rintro e w7 ⟨rfl, hb7⟩
            have hI7 := hI.grew hb7
            as_aux_lemma =>
              clear q1 hb7 hI
              go_wp2_with fail
              refine (NP.out _).mono ?_; rintro e w8 ⟨m, rfl, hM8', hm8, hb8⟩
              obtain ⟨cs, n, hY, hC, hn⟩ := hI7.ex
              have hY8 := hY.add hb8 hm8 hM8'.lt
              have hpl := hI7.port.lt
              have hR8 : Ready P T R t p m cs [m, g, p] := ⟨HX.out, by omega, by simp, by simp, by rw [HN.out]; exact hC.len⟩
              have hE8 := hY8.pu hM8' (hI7.port.grew hb8)
              as_aux_lemma =>
                clear hY hY8 hM8'
                by_cases hf : fullB R (cs.getD (ownN R t 4) 0) (cs.getD (ownN R t 3) 0) = true
                · have F := Lib.hid (finish_full hE8 hR8 (by omega) hf)
                  as_aux_lemma =>
                    clear hE8 hR8 hf
                    go_wp2_with fail
                    refine F.out.mono ?_; rintro e w9 ⟨rfl, h9⟩
                    have hI9 := SidI.done hI7 hm8 w8 hb8 h9 hC (by omega)
                    clear F h9 hI7 hb8
                    go_wp2
                    go_roundw
                    case rel => exact ⟨k + 1, by omega, by go_num, hI9⟩
                    case measure => simp [intOf]; omega
                · have F := Lib.hid (finish_room hE8 hR8 (by omega) (Bool.not_eq_true _ |>.mp hf) (hC.num _))
                  as_aux_lemma =>
                    clear hE8 hR8 hf
                    go_wp2_with fail
                    refine F.out.mono ?_; rintro e w9 ⟨rfl, h9⟩
                    have hI9 := SidI.done hI7 hm8 w8 hb8 h9 (hC.pushed HX.out hv1.out.2) (by omega)
                    clear F h9 hI7 hb8
                    go_wp2
                    go_roundw
                    case rel => exact ⟨k + 1, by omega, by go_num, hI9⟩
                    case measure => simp [intOf]; omega
          · clear hI6 NP hv1
            have q1 := hI.plan.three.1
            go_wp2_with fail
            refine (DR.out _).mono ?_; rintro e w7 ⟨rfl, hb7⟩
            have hI7 := hI.grew hb7
            as_aux_lemma =>
              clear q1 hb7 hI
              go_wp2_with fail
              have hI8 := hI7.grew ((Below.refl _ _).alloc (Nat.le_refl _) (.cells #[.int .i64 P, .int .i64 T, .int .i64 R, .int .i64 zb, .int .i64 ze, .int .i64 zc] 36))
              have hD8 : Blk (w7.alloc (.cells #[.int .i64 P, .int .i64 T, .int .i64 R, .int .i64 zb, .int .i64 ze, .int .i64 zc] 36)) w7.heap.size #[.int .i64 P, .int .i64 T, .int .i64 R, .int .i64 zb, .int .i64 ze, .int .i64 zc] 36 := Blk.new' rfl
              generalize w7.alloc (.cells #[.int .i64 P, .int .i64 T, .int .i64 R, .int .i64 zb, .int .i64 ze, .int .i64 zc] 36) = w8 at *
              generalize w7.heap.size = db at *
              obtain ⟨cs, n, ⟨xs, hX8⟩, hC, hn⟩ := hI8.ex
              obtain ⟨lv8, hL8, _⟩ := hX8.ex
              refine (image_at a c cs true _ _ _ _ hL8.at' (by rw [hC.len]; exact hN1) (by rw [hC.len]; omega)).mono ?_
              rintro e w9 ⟨vn, rfl, hown9, hb9⟩
              rw [hC.len] at hown9
              obtain ⟨g2, gcap2, rfl, hg2, hgl2⟩ := hown9.form hN1
              have hI9 := hI8.grew hb9
              have hD9 := (hD8.grew hb9).six.1
              have hS9 := Lib.hid (fun q (hq : q < N) => (And.intro (And.intro (hI9.was q hq) (And.intro (cell_of_own hown9 q hq) (hI9.plan.val 2 rfl))) hD9))
              have hB9 := hI9.bel
              have hCo := Lib.hid (fun q => hC.out q)
              clear hI7 hI8 hI9 hD8 hD9 hX8 hL8 hown9 hb9 hC hg2 hgl2 DR
              as_aux_lemma =>
                unfold ownN at hCo
                generalize t * (5 + R) = s at *
                go_wp2_with fail
                go_loopw [16] (fun i wr => ∃ q : Nat, q ≤ N ∧ i = .int .i64 q ∧ Below w9.heap.size w9 wr) (fun i _ => N - (intOf i).toNat)
                case atStart => exact ⟨0, Nat.zero_le _, rfl, Below.refl _ _⟩
                case round =>
                  obtain ⟨q, hq, rfl, hbq⟩ := hrel
                  by_cases hlq : q < N
                  · have hSq := sd_keep (hS9.out q hlq) hbq
                    have i0 : (0 : Int) ≤ (q : Int) := by omega
                    have i1 : (q : Int) < (N : Int) := by omega
                    by_cases hz : cs.getD q 0 = 0
                    · rw [hz] at hSq
                      as_aux_lemma =>
                        clear hz hS9 hCo
                        go_wp2_with fail
                        go_quiet (fail)
                        rename_i nq
                        have hbn := hbq.trans (Quiet.below ⟨nq, rfl⟩)
                        go_wp2
                        go_roundw
                        case rel => exact ⟨q + 1, by omega, by go_num, hbn⟩
                        case measure => simp [intOf]; omega
                    · have ho := hCo.out q hz
                      have hne : (cs.getD q 0 != 0) = true := by simpa using hz
                      as_aux_lemma =>
                        clear hz hS9 hCo
                        generalize cs.getD q 0 = z at *
                        have r1 : IntKind.i64.wrap (16 + s + 4) = 16 + s + 4 := IntWalk.i64_in _ (by omega)
                        have r2 : IntKind.i64.wrap (16 + s + 5) = 16 + s + 5 := IntWalk.i64_in _ (by omega)
                        have r3 : IntKind.i64.wrap (16 + s + 5 + R) = 16 + s + 5 + R := IntWalk.i64_in _ (by omega)
                        have t1 : decide ((q : Int) < 16 + s + 4) = false := decide_eq_false (by omega)
                        have t2 : decide (16 + s + 5 + R ≤ (q : Int)) = false := decide_eq_false (by omega)
                        clear ho
                        go_wp2_with fail
                        go_region_held3 (fun W => ((W.cell? ⟨g, q, none⟩ = some (.int .u64 0) ∧ W.cell? ⟨g2, q, none⟩ = some (.int .u64 z) ∧ W.cell? ⟨qb, 2, none⟩ = some (.int .i64 R)) ∧ W.cell? ⟨db, 0, none⟩ = some (.int .i64 P) ∧ W.cell? ⟨db, 1, none⟩ = some (.int .i64 T) ∧ W.cell? ⟨db, 2, none⟩ = some (.int .i64 R) ∧ W.cell? ⟨db, 3, none⟩ = some (.int .i64 zb) ∧ W.cell? ⟨db, 4, none⟩ = some (.int .i64 ze) ∧ W.cell? ⟨db, 5, none⟩ = some (.int .i64 zc)) ∧ Below w9.heap.size w9 W)
                          (first | exact ⟨hSq, hbq.drew⟩ | (with_reducible exact sd_keep2 (by assumption) hbk))
                          (first | (go_at_call 30; refine (MS.out _).mono ?_; rintro e w10 ⟨rfl, hbk⟩))
                        have hbn := sd_bel (by assumption)
                        go_wp2
                        go_roundw
                        case rel => exact ⟨q + 1, by omega, by go_num, hbn⟩
                        case measure => simp [intOf]; omega
                  · clear hS9 hCo MS
                    go_wp2
                    go_ret
                    exact ⟨rfl, hB9.trans (hbq.mono hB9.size)⟩
theorem rsides_law (P0 T0 R0 mine v times : Int) (w : World) (_h1 : (Lit.int .i64 P0).wf = true) (_h2 : (Lit.int .i64 T0).wf = true) (_h3 : (Lit.int .i64 R0).wf = true) (_h4 : (Lit.int .i64 mine).wf = true) (h5 : (Lit.int .u64 v).wf = true) (_h6 : (Lit.int .i64 times).wf = true) :
    Calls Try.prog 5 #[.agg #[.int .i64 P0, .int .i64 T0, .int .i64 R0, .int .i64 mine, .int .u64 v, .int .i64 times]] w fun e w' => e = .returned (.bool true) ∧ Below w.heap.size w w' :=
  rsides_walk P0 T0 R0 mine v times w (wf_U64 h5)
end Go.Proofs.Ytgcahbgapojimaa
