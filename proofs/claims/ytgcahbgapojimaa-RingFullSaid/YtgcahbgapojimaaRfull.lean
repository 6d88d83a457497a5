/- The walk of the law RingFull: it returns true, whatever is given. No condition but that each number fits its kind. -/
import Derived.Test.YtgcahbgapojimaaRfula
namespace Go.Proofs.Ytgcahbgapojimaa
open Go.RowKit
/-- all that the first loop keeps -/
structure FuI (w4 : World) (a c p : Nat) (P T R : Int) (k : Nat) (W : World) : Prop where
  ex : ∃ cs n, Ary W w4.heap.size a c cs n [p] ∧ FuC R (cellsN P T R) (min k R.toNat) cs ∧ n ≤ 4 * k
  port : PortAt W p a 0 false
  bel : Below w4.heap.size w4 W
  lp : w4.heap.size ≤ p
theorem FuI.grew {w4 W W' : World} {a c p : Nat} {P T R : Int} {k : Nat} (h : FuI w4 a c p P T R k W) (hb : Below W.heap.size W W') : FuI w4 a c p P T R k W' := by
  obtain ⟨cs, n, h1, h2, h3⟩ := h.ex
  exact ⟨⟨cs, n, h1.grew hb, h2, h3⟩, h.port.grew hb, h.bel.trans (hb.mono h.bel.size), h.lp⟩
theorem FuI.done {w4 W W' w1 : World} {a c p m : Nat} {P T R v tl : Int} {fu : Bool} {k n' : Nat} {cs' : List Int} (h : FuI w4 a c p P T R k W) (hm : W.heap.size ≤ m) (hb : Below W.heap.size W w1)
    (hE : PuE w1 w4.heap.size a c p m P T R 0 v tl 0 fu cs' n' [m, p] 0 false W') (hc : FuC R (cellsN P T R) (min (k + 1) R.toNat) cs') (hn : n' ≤ 4 * (k + 1)) : FuI w4 a c p P T R (k + 1) W' := by
  have hT := hE.touch
  have h1 := h.grew hb
  have hs := h.bel.size
  refine ⟨⟨cs', n', hE.ary.sub (fun b hb => List.mem_cons_of_mem _ hb), hc, hn⟩, hE.port, h1.bel.trans (hT.below h1.bel.size fun x hx => ?_), h.lp⟩
  have := h.lp
  rcases hx with rfl | rfl | hx <;> omega
theorem cell_of_own2 {w : World} {B g n cap : Nat} {cs : List Int} {E : TypeId} (h : w.ownsRow B E 1 (.slice (some ⟨g, 0, none⟩) n cap) n (cs.map (Value.int .u64))) (q : Nat) (hq : q < n) : w.cell? ⟨g, q, none⟩ = some (.int .u64 (cs.getD q 0)) := by
  have hn : cs.length = n := by have := h.1; simpa using this
  rw [h.cellAt q (by omega)]
  simp [List.getD_eq_getElem?_getD, show q < cs.length by omega]
theorem TkS.bel {w0 w : World} {B a c p x : Nat} {P T R z : Int} {cs : List Int} (h : TkS w0 B a c p x P T R cs z w) : Below w0.heap.size w0 w := by
  rcases h with ⟨rfl, n, K, hn, h⟩ | ⟨rfl, n, K, m, hn, h⟩ | ⟨rfl, n, K, m, hn, h⟩ | ⟨rfl, n, K, m, hn, h⟩ | ⟨rfl, n, K, g, cap, hn, h⟩
  · exact h.bel
  · exact h.qs.bel
  · exact h.qs.bel
  · exact h.qs.bel
  · exact h.bel
theorem TkS.four {w0 w : World} {B a c p x : Nat} {P T R z : Int} {cs : List Int} (h : TkS w0 B a c p x P T R cs z w) (hz : z = 4) : ∃ n K g cap, n ≤ 104 ∧ QS w0 B a c p p x none none 77 (.slice none 0 0) (.slice (some ⟨g, 0, none⟩) 1 cap) [] [1] (csT R cs) n K 0 0 w := by
  rcases h with ⟨rfl, _⟩ | ⟨rfl, _⟩ | ⟨rfl, _⟩ | ⟨rfl, _⟩ | ⟨_, h⟩
  · exact absurd hz (by decide)
  · exact absurd hz (by decide)
  · exact absurd hz (by decide)
  · exact absurd hz (by decide)
  · exact h
theorem PtS.bel {w0 w : World} {B a c p x : Nat} {P T R z : Int} {cs : List Int} (h : PtS w0 B a c p x P T R cs z w) : Below w0.heap.size w0 w := by
  rcases h with ⟨rfl, n, K, g, cap, hn, h⟩ | ⟨rfl, n, K, g, cap, m, hn, h⟩ | ⟨rfl, n, K, g, cap, m, hn, h⟩ | ⟨rfl, n, K, g, cap, m, hn, h⟩ | ⟨rfl, n, K, g, cap, g', cap', hn, h⟩
  · exact h.bel
  · exact h.qs.bel
  · exact h.qs.bel
  · exact h.qs.bel
  · exact h.bel
theorem PtS.four {w0 w : World} {B a c p x : Nat} {P T R z : Int} {cs : List Int} (h : PtS w0 B a c p x P T R cs z w) (hz : z = 4) : ∃ n K g cap g' cap', n ≤ 108 ∧ QS w0 B a c p p x none none 78 (.slice (some ⟨g', 0, none⟩) 1 cap') (.slice (some ⟨g, 0, none⟩) 1 cap) [77] [1] (csP R cs) n K 0 0 w := by
  rcases h with ⟨rfl, _⟩ | ⟨rfl, _⟩ | ⟨rfl, _⟩ | ⟨rfl, _⟩ | ⟨_, h⟩
  · exact absurd hz (by decide)
  · exact absurd hz (by decide)
  · exact absurd hz (by decide)
  · exact absurd hz (by decide)
  · exact h
set_option maxRecDepth 100000 in
set_option maxHeartbeats 4000000 in
theorem rfull_walk (size more : Int) (w : World) :
    Calls Try.prog 4 #[.int .i64 size, .int .i64 more] w fun e w' => e = .returned (.bool true) ∧ Below w.heap.size w w' := by
  go_enter Try.func4, Try.ntmps4
  go_wp2_with fail
  refine (ringed_any _).mono ?_; rintro e w1 ⟨rfl, hB1⟩
  go_wp2_with fail
  refine (small_any _ _ _ _).mono ?_; rintro e w2 ⟨P, T, R, rfl, hP, hT, hR, hb2⟩
  have hB2 := hB1.trans (hb2.mono hB1.size)
  have hRt : Right P T R := ⟨by omega, by omega, by omega⟩
  have L := Lib.hid (fun W => lay_yes P T R 0 W hRt (by decide) (by decide))
  clear hB1 hb2
  go_wp2_with fail
  have hQ4 := (Blk.new w2 #[.int .i64 P, .int .i64 T, .int .i64 R] 26)
  have hB4 := hB2.alloc hB2.size (.cells #[.int .i64 P, .int .i64 T, .int .i64 R] 26)
  generalize w2.alloc (.cells #[.int .i64 P, .int .i64 T, .int .i64 R] 26) = w4 at *
  generalize w2.heap.size = qb at *
  clear hB2
  refine (L.out _).mono ?_; rintro e w5 ⟨a, c, p, rfl, hX5, hP5, hp, hb5⟩
  obtain ⟨M, hM⟩ : ∃ M : Nat, wrap64 ((IntKind.u64.wrap more).tmod 6) = (M : Int) := ⟨(wrap64 ((IntKind.u64.wrap more).tmod 6)).toNat, by have := mod_lit more 6 (by decide) (by decide); omega⟩
  have hM6 : M < 6 := by have := mod_lit more 6 (by decide) (by decide); omega
  have hx : exB P T R 0 = true := by
    unfold exB
    rw [of_right hRt, Bool.true_and]
    exact decide_eq_true (by omega)
  have hI5 : FuI w4 a c p P T R 0 w5 := ⟨⟨_, 0, ⟨_, hX5⟩, by rw [Nat.zero_min]; exact FuC.zero R _, by omega⟩, hP5, hb5, hp⟩
  clear hX5 hP5 hb5 L hp
  go_wp2_with fail
  rw [hM]
  clear hM
  have HX := Lib.hid hx
  obtain ⟨r1, r2⟩ := hR
  obtain ⟨hN, hN1, hN2⟩ := cellsN_bd hRt
  clear hx hRt hN hP hT
  as_aux_lemma =>
    go_loopw [9] (fun i wr => ∃ k : Nat, (k : Int) ≤ R + M ∧ i = .int .i64 k ∧ FuI w4 a c p P T R k wr) (fun i _ => (R + M - intOf i).toNat)
    case atStart => exact ⟨0, by omega, rfl, hI5⟩
    case round =>
      obtain ⟨k, hk, rfl, hI⟩ := hrel
      by_cases hlt : (k : Int) < R + M
      · have q1 := (hQ4.grew hI.bel).three.1
        have hd : decide ((k : Int) < R + M) = true := decide_eq_true hlt
        have hkw : IntKind.u64.wrap ((k : Int) + 1) = (k : Int) + 1 := by rw [IntKind.wrap_u64]; omega
        have NP := Lib.hid (fun W => newpush_yes P T R 0 ((k : Int) + 1) W HX.out (by omega))
        clear hI5
        go_wp2_with fail
        refine (rplan_any P T R _).mono ?_; rintro e w7 ⟨rfl, hb7⟩
        have hI7 := hI.grew hb7
        clear q1 hb7 hI
        go_wp2_with fail
        refine (NP.out _).mono ?_; rintro e w8 ⟨m, rfl, hM8, hm8, hb8⟩
        obtain ⟨cs, n, hY, hC, hn⟩ := hI7.ex
        have hY8 := hY.add hb8 hm8 hM8.lt
        have hpl := hI7.port.lt
        have hR8 : Ready P T R 0 p m cs [m, p] := ⟨HX.out, by omega, by simp, by simp, hC.len⟩
        have hE8 := hY8.pu hM8 (hI7.port.grew hb8)
        clear hY hY8 hM8 NP hkw
        as_aux_lemma =>
          by_cases hkR : (k : Int) < R
          · have e1 : min k R.toNat = k := by omega
            have e2 : min (k + 1) R.toNat = k + 1 := by omega
            rw [e1] at hC
            have F := Lib.hid (finish_room hE8 hR8 (by omega) (by rw [hC.tail, hC.head]; unfold fullB; rw [IntKind.wrap_u64]; exact decide_eq_false (by omega)) (by rw [hC.tail]; exact ⟨by omega, by omega⟩))
            have hC2 := hC.push HX.out hkR
            rw [← e2] at hC2
            clear hE8 hR8 e1 e2
            go_wp2_with fail
            refine F.out.mono ?_; rintro e w9 ⟨rfl, h9⟩
            have hI9 := FuI.done hI7 hm8 hb8 h9 hC2 (by omega)
            have hM9 := h9.mach
            have q9 := (hQ4.grew hI9.bel).three.1
            clear F h9 hI7 hb8 hC hC2
            go_wp2_with fail
            refine (full_push hM9).mono ?_; rintro e w10 ⟨rfl, hq10⟩
            have hI10 := hI9.grew hq10.below
            have q10 := (hQ4.grew hI10.bel).three.1
            clear hM9 q9 hI9 hq10
            go_wp2
            go_roundw
            case rel => exact ⟨k + 1, by omega, by go_num, hI10⟩
            case measure => simp [intOf]; omega
          · have e1 : min k R.toNat = R.toNat := by omega
            have e2 : min (k + 1) R.toNat = R.toNat := by omega
            have e3 : ((R.toNat : Nat) : Int) = R := by omega
            rw [e1] at hC
            have F := Lib.hid (finish_full hE8 hR8 (by omega) (by rw [hC.tail, hC.head, e3]; unfold fullB; rw [IntKind.wrap_u64]; exact decide_eq_true (by omega)))
            rw [← e2] at hC
            clear hE8 hR8 e1 e2 e3
            go_wp2_with fail
            refine F.out.mono ?_; rintro e w9 ⟨rfl, h9⟩
            have hI9 := FuI.done hI7 hm8 hb8 h9 hC (by omega)
            have hM9 := h9.mach
            have q9 := (hQ4.grew hI9.bel).three.1
            clear F h9 hI7 hb8 hC
            go_wp2_with fail
            refine (full_push hM9).mono ?_; rintro e w10 ⟨rfl, hq10⟩
            have hI10 := hI9.grew hq10.below
            have q10 := (hQ4.grew hI10.bel).three.1
            clear hM9 q9 hI9 hq10
            go_wp2
            go_roundw
            case rel => exact ⟨k + 1, by omega, by go_num, hI10⟩
            case measure => simp [intOf]; omega
      · have q1 := (hQ4.grew hI.bel).three.1
        have hd : decide ((k : Int) < R + M) = false := decide_eq_false hlt
        clear hI5
        obtain ⟨cs, n, hY, hC, hn⟩ := hI.ex
        rw [show min k R.toNat = R.toNat from by omega] at hC
        have e3 : ((R.toNat : Nat) : Int) = R := by omega
        have hpl := hI.port.lt
        have hQ0 : QS w4 w4.heap.size a c p p wr.heap.size none none 77 (.slice none 0 0) (.slice none 0 0) [] [] cs n [wr.heap.size, p] 0 0 (wr.alloc (.cells #[.pointer (some ⟨p, 0, none⟩), .pointer (some ⟨p, 0, none⟩), .pointer none, .pointer none, .int .u64 77, .slice none 0 0, .slice none 0 0, .bool true] 45)) :=
          ⟨hY.add ((Below.refl _ _).alloc (Nat.le_refl _) _) (Nat.le_refl _) (by simp), hI.port.alloc _, hI.port.alloc _, Blk.new _ _ _, World.ownsRow_nil _ _ _ _, World.ownsRow_nil _ _ _ _, fun g e => by simp [Value.ownBlock] at e, fun g e => by simp [Value.ownBlock] at e, fun g e => by simp [Value.ownBlock] at e, by simp, by simp, by simp, hI.bel.alloc hI.bel.size _, by
            have := hI.bel.size
            have := hI.lp
            intro b hb
            simp at hb
            omega, Nat.le_refl _⟩
        have hn2 : n ≤ 100 := by omega
        clear hY hI hpl
        go_wp2_with fail
        generalize wr.alloc (.cells #[.pointer (some ⟨p, 0, none⟩), .pointer (some ⟨p, 0, none⟩), .pointer none, .pointer none, .int .u64 77, .slice none 0 0, .slice none 0 0, .bool true] 45) = w6 at *
        generalize wr.heap.size = x at *
        have hqK := Lib.hid (fun W (h : Below w4.heap.size w4 W) => (hQ4.grew h).three.1)
        have hI0 : TkS w4 w4.heap.size a c p x P T R cs 0 w6 := .inl ⟨rfl, n, _, hn2, hQ0⟩
        clear hQ0 q1 hd
        as_aux_lemma =>
          go_loopw [14] (fun i wr => ∃ z : Int, 0 ≤ z ∧ z ≤ 4 ∧ i = .int .i64 z ∧ TkS w4 w4.heap.size a c p x P T R cs z wr) (fun i _ => (4 - intOf i).toNat)
          case atStart => exact ⟨0, by decide, by decide, rfl, hI0⟩
          case round =>
            obtain ⟨z, hz0, hz4, rfl, hS⟩ := hrel
            have q1 := hqK.out _ (TkS.bel hS)
            by_cases hlz : z < 4
            · go_wp2_with fail
              refine (tk_step z hS hlz hC HX.out e3).mono ?_; rintro e w7 ⟨⟨u7, rfl⟩, h7⟩
              clear hS q1
              go_wp2
              go_roundw
              case rel => exact ⟨z + 1, by omega, by omega, by go_num, h7⟩
              case measure => simp [intOf]; omega
            · have hS4 := TkS.four hS (by omega)
              have hJ0 : PtS w4 w4.heap.size a c p x P T R cs 0 wr := .inl ⟨rfl, hS4⟩
              clear hS hS4 hI0
              go_wp2_with fail
              as_aux_lemma =>
                go_loopw [15] (fun i wr => ∃ z : Int, 0 ≤ z ∧ z ≤ 4 ∧ i = .int .i64 z ∧ PtS w4 w4.heap.size a c p x P T R cs z wr) (fun i _ => (4 - intOf i).toNat)
                case atStart => exact ⟨0, by decide, by decide, rfl, hJ0⟩
                case round =>
                  obtain ⟨y, hy0, hy4, rfl, hY⟩ := hrel
                  have q2 := hqK.out _ (PtS.bel hY)
                  by_cases hly : y < 4
                  · go_wp2_with fail
                    refine (pt_step y hY hly hC HX.out e3).mono ?_; rintro e w7 ⟨⟨u7, rfl⟩, h7⟩
                    clear hY q2
                    go_wp2
                    go_roundw
                    case rel => exact ⟨y + 1, by omega, by omega, by go_num, h7⟩
                    case measure => simp [intOf]; omega
                  · obtain ⟨n8, K8, g, cap, g', cap', hn8, h8⟩ := PtS.four hY (by omega)
                    clear hY hJ0 q1
                    go_wp2_with fail
                    refine (rplan_any P T R _).mono ?_; rintro e w9 ⟨rfl, hb9⟩
                    have h9 := h8.grew hb9
                    clear h8 hb9 q2
                    have hF := csP_facts hC HX.out e3
                    have WT := Lib.hid (waiting_yes P T R 0 1 (R + 1) R.toNat _ h9.ary HX.out hF.1 hF.2.2.1 hF.2.1 (by rw [IntKind.wrap_u64]; omega) (by omega))
                    go_wp2_with fail
                    refine WT.out.mono ?_; rintro e w10 ⟨vl, rfl, hown, hb10⟩
                    have h10 := h9.grew hb10
                    have hRn : 0 < R.toNat := by omega
                    obtain ⟨gl, capl, rfl, hgl, hgl2⟩ := hown.form hRn
                    have eL : w10.cell? ⟨gl, R.toNat - 1, none⟩ = some (.int .u64 77) := by rw [cell_of_own2 hown (R.toNat - 1) (by omega), hF.2.2.2]
                    have eT : w10.cell? ⟨g, 0, none⟩ = some (.int .u64 1) := cell_of_own2 (n := 1) (cs := [1]) h10.own2 0 (by decide)
                    have x5 := h10.q.val 5 rfl
                    have x6 := h10.q.val 6 rfl
                    have hBf := hB4.trans (h10.bel.mono hB4.size)
                    have q10 := hqK.out _ h10.bel
                    have hw1 : wrap64 (((R.toNat : Nat) : Int) - 1) = ((R.toNat : Nat) : Int) - 1 := IntWalk.wrap64_in _ ⟨by omega, by omega⟩
                    have ht : (((R.toNat : Nat) : Int) - 1).toNat = R.toNat - 1 := by omega
                    have hRe : (((R.toNat : Nat) : Int) == R) = true := by rw [e3]; simp
                    clear hown hF WT h9 h10 hC hb10 hgl hgl2 e3 hn8 hqK
                    generalize R.toNat = Rn at *
                    have l1 : (0 : Int) ≤ (Rn : Int) - 1 := by omega
                    have l2 : (1 : Int) ≤ (Rn : Int) := by omega
                    have l3 : (Rn : Int) - 1 < (Rn : Int) := by omega
                    as_aux_lemma =>
                      go_wp2
                      go_ret
                      exact ⟨rfl, hBf⟩
theorem rfull_law (size more : Int) (w : World) (_h1 : (Lit.int .i64 size).wf = true) (_h2 : (Lit.int .i64 more).wf = true) :
    Calls Try.prog 4 #[.int .i64 size, .int .i64 more] w fun e w' => e = .returned (.bool true) ∧ Below w.heap.size w w' := rfull_walk size more w
end Go.Proofs.Ytgcahbgapojimaa
