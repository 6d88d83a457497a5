/- The walk of the law RingOrder. No condition but that each number fits its kind. -/
import Derived.Test.YtgcahbgapojimaaRorde
import Derived.Deep.Grids
namespace Go.Proofs.Ytgcahbgapojimaa
open Go.RowKit
def BoolsR (w : World) (a : Option Addr) (len _cap : Nat) (B : Nat → Bool) : Prop :=
  (a = none ∧ len = 0) ∨ ∃ x, a = some x ∧ ∀ i, i < len → w.cell? (x.add i) = some (.bool (B i))
theorem bools_at {a : Option Addr} {len cap : Nat} {B : Nat → Bool} {w : World} (h : BoolsR w a len cap B) : Hid (∀ i, i < len → ∃ b o z, a = some ⟨b, o, none⟩ ∧ b < w.heap.size ∧ w.cell? ⟨b, o + i, none⟩ = some (.bool z)) := by
  refine Lib.hid ?_
  intro i hi
  rcases h with ⟨_, rfl⟩ | ⟨x, rfl, hc⟩
  · omega
  · obtain ⟨b, off, s⟩ := x
    have hs : s = none := by simpa [Addr.add] using World.cell?_spot (hc 0 (by omega))
    subst hs
    have e1 : (⟨b, off, none⟩ : Addr).add i = ⟨b, off + i, none⟩ := by unfold Addr.add; split <;> simp_all
    have h1 := hc i hi
    rw [e1] at h1
    exact ⟨b, off, _, rfl, World.block_lt_of_cell? w _ h1, h1⟩
/-- the queue in the midst of the first loop -/
def RoL (w0 : World) (B a c p cp x : Nat) (P T R f : Int) (k : Nat) (w : World) : Prop := ∃ np nt pn kn, np ≤ k ∧ RoQ w0 B a c p cp x P T R f np nt pn kn k w
theorem RoQ.bel {w0 w : World} {B a c p cp x : Nat} {P T R f pn kn : Int} {np nt N : Nat} (h : RoQ w0 B a c p cp x P T R f np nt pn kn N w) : Below w0.heap.size w0 w := by
  obtain ⟨pup, pop, vp, vt, cs, n, K, hn, hQ, _⟩ := h; exact hQ.bel
theorem RoL.bel {w0 w : World} {B a c p cp x : Nat} {P T R f : Int} {k : Nat} (h : RoL w0 B a c p cp x P T R f k w) : Below w0.heap.size w0 w := by
  obtain ⟨np, nt, pn, kn, _, h⟩ := h; exact h.bel
theorem RoL.quiet {w0 w w' : World} {B a c p cp x : Nat} {P T R f : Int} {k : Nat} (h : RoL w0 B a c p cp x P T R f k w) (hq : Quiet w w') : RoL w0 B a c p cp x P T R f k w' := by
  obtain ⟨np, nt, pn, kn, h1, h⟩ := h; exact ⟨np, nt, pn, kn, h1, h.grew hq.below⟩
/-- so many steps of puts are left at most -/
def PuM (pn y : Int) : Prop := (pn = 0 ∧ y ≤ 3) ∨ (pn = 4 ∧ y ≤ 2) ∨ (pn = 3 ∧ y ≤ 1) ∨ (pn = 2 ∧ y ≤ 0)
theorem PuM.le {pn y : Int} (h : PuM pn y) : y ≤ 3 := by rcases h with h | h | h | h <;> omega
theorem PuM.go {np np' : Nat} {pn pn' y : Int} (h : PuM pn y) (hg : PutGo np pn np' pn') (hp : pn ≠ 0) : PuM pn' (y + 1) := by
  unfold PuM
  rcases h with h | h | h | h <;> rcases hg with g | g | g | g <;> omega
theorem RoQ.pnCases {w0 w : World} {B a c p cp x : Nat} {P T R f pn kn : Int} {np nt N : Nat} (h : RoQ w0 B a c p cp x P T R f np nt pn kn N w) : PuM pn 0 := by
  obtain ⟨pup, pop, vp, vt, cs, n, K, hn, hQ, hC, hU, hO⟩ := h
  unfold PuM
  rcases hU with h | ⟨m, _, _, _, h | h | h⟩ <;> omega
theorem RoQ.knCases {w0 w : World} {B a c p cp x : Nat} {P T R f pn kn : Int} {np nt N : Nat} (h : RoQ w0 B a c p cp x P T R f np nt pn kn N w) : TkM R np nt kn 0 := by
  obtain ⟨pup, pop, vp, vt, cs, n, K, hn, hQ, hC, hU, hO⟩ := h
  have := hC.room
  unfold TkM
  rcases hO with h | ⟨m, v, _, _, _, h | h | h⟩ <;> omega
theorem TkM.go {R kn kn' u : Int} {np nt nt' : Nat} (h : TkM R np nt kn u) (hg : TakeGo np nt kn nt' kn') : TkM R np nt' kn' (u + 1) := by
  unfold TkM at *
  unfold TakeGo at hg
  omega
theorem TkM.fin {R kn u : Int} {np nt : Nat} (h : TkM R np nt kn u) (hle : nt ≤ np) (hu : 4 * (R + 3) ≤ u) : nt = np := by
  unfold TkM at h
  omega
theorem RoQ.faults {w0 w : World} {B a c p cp x : Nat} {P T R f pn kn : Int} {np nt N : Nat} (h : RoQ w0 B a c p cp x P T R f np nt pn kn N w) :
    Calls Try.prog 25 #[.pointer (some ⟨a, 0, none⟩)] w fun e w' => e = .returned (.int .i64 0) ∧ Quiet w w' := by
  obtain ⟨pup, pop, vp, vt, cs, n, K, hn, hQ, hC, hU, hO⟩ := h
  obtain ⟨xs, hA⟩ := hQ.ary
  obtain ⟨lv, hL, _⟩ := hA.ex
  exact faults_at hL.at'
theorem putGo_le {np np' : Nat} {pn pn' : Int} (h : PutGo np pn np' pn') : np' ≤ np + 1 := by
  rcases h with ⟨_, h, _⟩ | ⟨_, h, _⟩ | ⟨_, h, _⟩ | ⟨_, h, _⟩ <;> omega
set_option maxRecDepth 100000 in
set_option maxHeartbeats 4000000 in
theorem rorder_law (size fr : Int) (A : Option Addr) (len cap : Nat) (z : Nat → Bool) (w : World) (_h1 : (Lit.int .i64 size).wf = true) (h2 : (Lit.int .u64 fr).wf = true) (h3 : BoolsR w A len cap z) :
    Calls Try.prog 3 #[.int .i64 size, .int .u64 fr, .slice A len cap] w fun e w' => e = .returned (.bool true) ∧ Below w.heap.size w w' := by
  have hb := bools_at h3
  have hu := wf_U64 h2
  have hfm : 0 ≤ fr.tmod 4611686018427387904 ∧ fr.tmod 4611686018427387904 < 4611686018427387904 := by
    rw [Int.tmod_eq_emod_of_nonneg hu.1]
    omega
  clear h2 h3 hu
  go_enter Try.func3, Try.ntmps3
  go_wp2_with fail
  refine (ringed_any _).mono ?_; rintro e w1 ⟨rfl, hB1⟩
  go_wp2_with fail
  refine (small_any _ _ _ _).mono ?_; rintro e w2 ⟨P, T, R, rfl, hP, hT, hR, hb2⟩
  have hB2 := hB1.trans (hb2.mono hB1.size)
  have hRt : Right P T R := ⟨by omega, by omega, by omega⟩
  have L := Lib.hid (fun W => lay_yes P T R 0 W hRt (by decide) (by decide))
  clear hB1 hb2
  go_wp2_with fail
  have hQ4 := (Blk.new w2 #[.int .i64 P, .int .i64 T, .int .i64 R] 26)
  have hB4 := hB2.alloc hB2.size (.cells #[.int .i64 P, .int .i64 T, .int .i64 R] 26)
  generalize w2.alloc (.cells #[.int .i64 P, .int .i64 T, .int .i64 R] 26) = w4 at *
  generalize w2.heap.size = qb at *
  clear hB2
  refine (L.out _).mono ?_; rintro e w5 ⟨a, c, p, rfl, hX5, hP5, hp, hb5⟩
  have hx : exB P T R 0 = true := by
    unfold exB
    rw [of_right hRt, Bool.true_and]
    exact decide_eq_true (by omega)
  have hY5 : Ary w5 w4.heap.size a c (List.replicate (cellsN P T R) 0) 0 [p] := ⟨_, hX5⟩
  clear hX5 L
  as_aux_lemma =>
    go_wp2_with fail
    refine (port_yes a 15 _ (by decide) (by decide)).mono ?_; rintro e w6 ⟨cp, rfl, hP6, hcp, hb6⟩
    have hY6 := hY5.add hb6 hcp hP6.lt
    have hPp := Blk.grew hP5 hb6
    have hB6 := hb5.trans (hb6.mono hb5.size)
    have q6 := (hQ4.grew hB6).three.1
    have lp5 := hP5.lt
    have lb5 := hb5.size
    have DR := Lib.hid (fun W => draw_yes P T R W hRt)
    unfold mapV at DR
    generalize baseI P T R + 64 * P = zc at DR
    generalize baseI P T R = zb at DR
    generalize tabI T R = ze at DR
    have MH := Lib.hid (fun W => mhead_0 P T R zb ze zc W (by omega))
    have MT := Lib.hid (fun W => mtail_0 P T R zb ze zc W (by omega))
    clear hY5 hP5 hb5 hb6
    go_wp2_with fail
    refine (DR.out _).mono ?_; rintro e w7 ⟨rfl, hb7⟩
    have hY7 := hY6.grew hb7
    have hPp7 := Blk.grew hPp hb7
    have hPc7 := Blk.grew hP6 hb7
    have hB7 := hB6.trans (hb7.mono hB6.size)
    clear hY6 hPp hP6 hB6 q6 hb7 DR
    as_aux_lemma =>
      go_wp2_with fail
      have hD8 := Blk.new w7 #[.int .i64 P, .int .i64 T, .int .i64 R, .int .i64 zb, .int .i64 ze, .int .i64 zc] 36
      have hal := ((Below.refl w7.heap.size w7).alloc (Nat.le_refl _) (.cells #[.int .i64 P, .int .i64 T, .int .i64 R, .int .i64 zb, .int .i64 ze, .int .i64 zc] 36))
      have hD8' := hal.size
      have lp7 := hPp7.lt
      have lc7 := hPc7.lt
      have hY8 := hY7.add hal (Nat.le_refl _) (by simp)
      have hPp8 := Blk.grew hPp7 hal
      have hPc8 := Blk.grew hPc7 hal
      have hB8 := hB7.trans (hal.mono hB7.size)
      clear hY7 hPp7 hPc7 hB7 hal
      generalize w7.alloc (.cells #[.int .i64 P, .int .i64 T, .int .i64 R, .int .i64 zb, .int .i64 ze, .int .i64 zc] 36) = w8 at *
      generalize w7.heap.size = db at *
      obtain ⟨hN, hN1, hN2⟩ := cellsN_bd hRt
      have hlen : (List.replicate (cellsN P T R) (0 : Int)).length = cellsN P T R := by simp
      have i3 := ownN_bd hx 3 (by decide) (by omega)
      have i4 := ownN_bd hx 4 (by decide) (by omega)
      rw [show ownN R 0 3 = 19 by rw [own0]; rfl] at i3
      rw [show ownN R 0 4 = 20 by rw [own0]; rfl] at i4
      have hC0 := RoC.start (f := fr.tmod 4611686018427387904) hx
      generalize fr.tmod 4611686018427387904 = f at *
      refine (MH.out _).mono ?_; rintro e w9 ⟨rfl, hb9⟩
      have hY9 := hY8.grew hb9
      have hD9 := hD8.grew hb9
      have hPp9 := Blk.grew hPp8 hb9
      have hPc9 := Blk.grew hPc8 hb9
      have hB9 := hB8.trans (hb9.mono hB8.size)
      clear hY8 hD8 hPp8 hPc8 hB8 hb9
      go_wp2_with fail
      refine (hY9.poke f (i := 19) (by rw [hlen]; exact i3.2.1) (by rw [hlen]; omega)).mono ?_; rintro e w10 ⟨rfl, hY10, hT10⟩
      have hcn := hY9.ac
      simp only [List.mem_cons, List.not_mem_nil, or_false, not_or] at hcn
      have hD10 := hD9.touch hT10 (fun e => hcn.1.1 e.symm)
      have hPp10 := Blk.touch hPp9 hT10 (fun e => hcn.1.2.2 e.symm)
      have hPc10 := Blk.touch hPc9 hT10 (fun e => hcn.1.2.1 e.symm)
      have hB10 := hB9.trans (hT10.below hB9.size (fun b e => e ▸ hcn.2))
      have d10 := hD10.six.1
      clear hY9 hD9 hPp9 hPc9 hB9 hT10
      as_aux_lemma =>
        go_wp2_with fail
        refine (MT.out _).mono ?_; rintro e w11 ⟨rfl, hb11⟩
        have hY11 := hY10.grew hb11
        have hPp11 := Blk.grew hPp10 hb11
        have hPc11 := Blk.grew hPc10 hb11
        have hB11 := hB10.trans (hb11.mono hB10.size)
        clear hY10 hD10 hPp10 hPc10 hB10 hb11 d10
        go_wp2_with fail
        refine (hY11.poke f (i := 20) (by rw [List.length_set, hlen]; exact i4.2.1) (by rw [List.length_set, hlen]; omega)).mono ?_; rintro e w12 ⟨rfl, hY12, hT12⟩
        have hPp12 := Blk.touch hPp11 hT12 (fun e => hcn.1.2.2 e.symm)
        have hPc12 := Blk.touch hPc11 hT12 (fun e => hcn.1.2.1 e.symm)
        have hB12 := hB11.trans (hT12.below hB11.size (fun b e => e ▸ hcn.2))
        clear hY11 hPp11 hPc11 hB11 hT12
        have hY13 := hY12.sub (K' := [cp, p]) (fun b hb => List.mem_cons_of_mem _ hb)
        have hQ0 : RoQ w4 w4.heap.size a c p cp w12.heap.size P T R f 0 0 0 0 0 (w12.alloc (.cells #[.pointer (some ⟨p, 0, none⟩), .pointer (some ⟨cp, 0, none⟩), .pointer none, .pointer none, .int .u64 1, .slice none 0 0, .slice none 0 0, .bool true] 45)) :=
          ⟨none, none, .slice none 0 0, .slice none 0 0, _, 0, [w12.heap.size, cp, p], Nat.le_refl _, ⟨hY13.add ((Below.refl _ _).alloc (Nat.le_refl _) _) (Nat.le_refl _) (by simp), hPp12.alloc _, hPc12.alloc _, Blk.new _ _ _, World.ownsRow_nil _ _ _ _, World.ownsRow_nil _ _ _ _, fun g e => by simp [Value.ownBlock] at e, fun g e => by simp [Value.ownBlock] at e, fun g e => by simp [Value.ownBlock] at e, by simp, by simp, by simp, hB12.alloc hB12.size _, by
            have := hB12.size
            intro b hb
            simp at hb
            omega, Nat.le_refl _⟩, hC0, .inl ⟨rfl, rfl⟩, .inl ⟨rfl, rfl⟩⟩
        have q12 := (hQ4.grew hB12).three.1
        clear hY12 hY13 hPp12 hPc12 hC0 MH MT hlen hcn i3 i4 hN hN1 hN2
        have HX := Lib.hid hx
        have hlen64 : len ≤ len := Nat.le_refl _
        obtain ⟨hf0, hf1⟩ := hfm
        obtain ⟨r1, r2⟩ := hR
        clear hx hP hT hRt
        go_wp2_with fail
        generalize w12.alloc (.cells #[.pointer (some ⟨p, 0, none⟩), .pointer (some ⟨cp, 0, none⟩), .pointer none, .pointer none, .int .u64 1, .slice none 0 0, .slice none 0 0, .bool true] 45) = w13 at *
        generalize w12.heap.size = x at *
        as_aux_lemma =>
          go_loopw [15] (fun i wr => ∃ k : Nat, k ≤ len ∧ k ≤ 300 ∧ i = .int .i64 k ∧ RoL w4 w4.heap.size a c p cp x P T R f k wr) (fun i _ => len - (intOf i).toNat)
          case atStart => exact ⟨0, Nat.zero_le _, by decide, rfl, ⟨0, 0, 0, 0, Nat.le_refl _, hQ0⟩⟩
          case round =>
            obtain ⟨k, hk1, hk2, rfl, hL⟩ := hrel
            have q1 := (hQ4.grew hL.bel).three.1
            by_cases hlt : k < len ∧ k < 300
            · obtain ⟨np, nt, pn, kn, hnp, hRQ⟩ := hL
              obtain ⟨hl1, hl2⟩ := hlt
              have hl3 : (k : Int) < 300 := by omega
              have hl4 : (0 : Int) ≤ (k : Int) := by omega
              have hl5 : (k : Int) < (len : Int) := by omega
              obtain ⟨b, o, zz, rfl, hbl, hcz⟩ := hb.out k hl1
              have ez : wr.cell? ⟨b, o + k, none⟩ = some (.bool zz) := ((hRQ.bel).cell (p := ⟨b, o + k, none⟩) (Nat.lt_of_lt_of_le hbl hB4.size)).trans ((hB4.cell (p := ⟨b, o + k, none⟩) hbl).trans hcz)
              clear hb hQ0 hcz
              cases zz
              · as_aux_lemma =>
                  go_wp2_with fail
                  (with_reducible refine (ro_take hRQ HX.out hf0 hf1 (by omega) (by omega)).mono ?_); rintro e w14 ⟨⟨u14, rfl⟩, nt2, kn2, hR14, _⟩
                  have q14 := (hQ4.grew hR14.bel).three.1
                  clear hRQ q1
                  go_wp2_with fail
                  refine (rplan_any P T R _).mono ?_; rintro e w15 ⟨rfl, hb15⟩
                  have hR15 := hR14.grew hb15
                  clear hR14 q14 hb15
                  go_wp2_with fail
                  refine (hR15.wait HX.out (by omega)).mono ?_; rintro e w16 ⟨vl, Ll, rfl, hown16, hb16⟩
                  have hR16 := hR15.grew hb16
                  obtain ⟨Al, cl, rfl⟩ := own_form hown16
                  obtain ⟨⟨hle, hro⟩, pup, A1, c1, A2, c2, _, _, x2, x5, x6, x7, _, _⟩ := hR16.look
                  have q16 := (hQ4.grew hR16.bel).three.1
                  clear hR15 hown16 hb16
                  have s1 : IntKind.i64.wrap ((np : Int) + 1) = (np : Int) + 1 := IntWalk.i64_in _ (by omega)
                  have s2 : IntKind.i64.wrap ((nt2 : Int) + R) = (nt2 : Int) + R := IntWalk.i64_in _ (by omega)
                  have s3 : IntKind.i64.wrap ((nt2 : Int) + R + 1) = (nt2 : Int) + R + 1 := IntWalk.i64_in _ (by omega)
                  have t1 : decide (R < ((np - nt2 : Nat) : Int)) = false := decide_eq_false (by omega)
                  have t2 : decide ((np : Int) + 1 < (nt2 : Int)) = false := decide_eq_false (by omega)
                  have t3 : decide ((nt2 : Int) + R + 1 < (np : Int)) = false := decide_eq_false (by omega)
                  have hL16 : RoL w4 w4.heap.size a c p cp x P T R f (k + 1) w16 := ⟨_, _, _, _, by omega, hR16⟩
                  clear hle hro hR16
                  as_aux_lemma =>
                    go_wp2_with fail
                    go_quiet (fail)
                    rename_i nq
                    have hL17 := hL16.quiet (⟨nq, rfl⟩ : Quiet w16 (w16.drewN nq))
                    go_wp2
                    go_roundw
                    case rel => exact ⟨k + 1, by omega, by omega, by go_num, hL17⟩
                    case measure => simp [intOf]; omega
              · as_aux_lemma =>
                  go_wp2_with fail
                  (with_reducible refine (ro_put hRQ HX.out hf0 hf1 (by omega) (by omega)).mono ?_); rintro e w14 ⟨⟨u14, rfl⟩, np2, pn2, hR14, hgo⟩; have hgo := putGo_le hgo
                  have q14 := (hQ4.grew hR14.bel).three.1
                  clear hRQ q1
                  go_wp2_with fail
                  refine (rplan_any P T R _).mono ?_; rintro e w15 ⟨rfl, hb15⟩
                  have hR15 := hR14.grew hb15
                  clear hR14 q14 hb15
                  go_wp2_with fail
                  refine (hR15.wait HX.out (by omega)).mono ?_; rintro e w16 ⟨vl, Ll, rfl, hown16, hb16⟩
                  have hR16 := hR15.grew hb16
                  obtain ⟨Al, cl, rfl⟩ := own_form hown16
                  obtain ⟨⟨hle, hro⟩, pup, A1, c1, A2, c2, _, _, x2, x5, x6, x7, _, _⟩ := hR16.look
                  have q16 := (hQ4.grew hR16.bel).three.1
                  clear hR15 hown16 hb16
                  have s1 : IntKind.i64.wrap ((np2 : Int) + 1) = (np2 : Int) + 1 := IntWalk.i64_in _ (by omega)
                  have s2 : IntKind.i64.wrap ((nt : Int) + R) = (nt : Int) + R := IntWalk.i64_in _ (by omega)
                  have s3 : IntKind.i64.wrap ((nt : Int) + R + 1) = (nt : Int) + R + 1 := IntWalk.i64_in _ (by omega)
                  have t1 : decide (R < ((np2 - nt : Nat) : Int)) = false := decide_eq_false (by omega)
                  have t2 : decide ((np2 : Int) + 1 < (nt : Int)) = false := decide_eq_false (by omega)
                  have t3 : decide ((nt : Int) + R + 1 < (np2 : Int)) = false := decide_eq_false (by omega)
                  have hL16 : RoL w4 w4.heap.size a c p cp x P T R f (k + 1) w16 := ⟨_, _, _, _, by omega, hR16⟩
                  clear hle hro hR16
                  as_aux_lemma =>
                    go_wp2_with fail
                    go_quiet (fail)
                    rename_i nq
                    have hL17 := hL16.quiet (⟨nq, rfl⟩ : Quiet w16 (w16.drewN nq))
                    go_wp2
                    go_roundw
                    case rel => exact ⟨k + 1, by omega, by omega, by go_num, hL17⟩
                    case measure => simp [intOf]; omega
            · have hk300 : k ≤ 300 := hk2
              obtain ⟨np, nt, pn, kn, hnp, hRQ⟩ := hL
              clear hQ0 hb
              by_cases hkl : k < len
              · have hk3 : ¬ (k : Int) < 300 := by omega
                clear hlt
                have hpn0 := RoQ.pnCases hRQ
                as_aux_lemma =>
                  go_wp2_with fail
                  go_loopw [18] (fun i wr => ∃ (y : Int) (np : Nat) (pn : Int) (N : Nat), i = .int .i64 y ∧ 0 ≤ y ∧ (np : Int) ≤ 300 + y ∧ (N : Int) ≤ 300 + y ∧ RoQ w4 w4.heap.size a c p cp x P T R f np nt pn kn N wr ∧ PuM pn y) (fun i _ => (5 - intOf i).toNat)
                  case atStart => exact ⟨0, np, pn, k, rfl, by decide, by omega, by omega, hRQ, hpn0⟩
                  case round =>
                    obtain ⟨y, np, pn, N, rfl, hy, hnp, hN, hR2, hPM⟩ := hrel
                    have hy3 := hPM.le
                    have q2 := (hQ4.grew hR2.bel).three.1
                    obtain ⟨_, pup, _, _, _, _, hp0, hp1, x2, _⟩ := hR2.look
                    by_cases hpn : pn = 0
                    · obtain rfl := hp0 hpn
                      subst hpn
                      clear hp1 hPM
                      as_aux_lemma =>
                        go_wp2_with fail
                        have hkn := RoQ.knCases hR2
                        have w1 : wrap64 (R + 3) = R + 3 := IntWalk.wrap64_in _ ⟨by omega, by omega⟩
                        have w2 : wrap64 (4 * (R + 3)) = 4 * (R + 3) := IntWalk.wrap64_in _ ⟨by omega, by omega⟩
                        clear q2 x2
                        go_loopw [19] (fun i wr => ∃ (u : Int) (nt : Nat) (kn : Int) (N : Nat), i = .int .i64 u ∧ 0 ≤ u ∧ u ≤ 4 * (R + 3) ∧ (N : Int) ≤ 310 + u ∧ RoQ w4 w4.heap.size a c p cp x P T R f np nt 0 kn N wr ∧ TkM R np nt kn u) (fun i _ => (4 * (R + 3) - intOf i).toNat)
                        case atStart => exact ⟨0, nt, kn, N, rfl, by decide, by omega, by omega, hR2, hkn⟩
                        case round =>
                          obtain ⟨u, nt, kn, N, rfl, hu0, hu1, hN, hR3, hTM⟩ := hrel
                          have q3 := (hQ4.grew hR3.bel).three.1
                          by_cases hlu : u < 4 * (R + 3)
                          · as_aux_lemma =>
                              go_wp2_with fail
                              (with_reducible refine (ro_take hR3 HX.out hf0 hf1 (by omega) (by omega)).mono ?_); rintro e w14 ⟨⟨u14, rfl⟩, nt2, kn2, hR14, hgo⟩
                              have hTM2 := TkM.go hTM hgo
                              clear hR3 q3 hTM hgo
                              go_wp2
                              go_roundw
                              case rel => exact ⟨u + 1, nt2, kn2, N + 1, by go_num, by omega, by omega, by omega, hR14, hTM2⟩
                              case measure => simp [intOf]; omega
                          · obtain ⟨⟨hle, hro⟩, pup3, A1, c1, A2, c2, hp3, _, x2, x5, x6, x7, rows1, rows2⟩ := hR3.look
                            obtain rfl := hp3 rfl
                            obtain rfl : nt = np := TkM.fin hTM hle (by omega)
                            have FA := Lib.hid (fun n => RoQ.faults (hR3.grew (Quiet.below ⟨n, rfl⟩)))
                            have hBf := hB4.trans (hR3.bel.mono hB4.size)
                            have rows1 := Lib.hid rows1
                            have rows2 := Lib.hid rows2
                            clear hp3 hTM hR3 hR2 hkn hle hro
                            rename_i wr3
                            as_aux_lemma =>
                              go_wp2_with fail
                              go_quiet ((go_at_call 25; exact qcall (FA.out _)))
                              rename_i nq
                              clear FA
                              go_wp2_with fail
                              generalize hW20 : World.drewN _ nq = w20
                              have hq20 : Quiet _ w20 := ⟨nq, hW20.symm⟩
                              have y5 := (hq20.cell _).trans x5
                              have y6 := (hq20.cell _).trans x6
                              have hB20 := hBf.trans hq20.below
                              have rows1' := Lib.hid (fun i hi => (rows1.out i hi).imp fun g h => And.intro h.1 ((hq20.cell _).trans h.2))
                              have rows2' := Lib.hid (fun i hi => (rows2.out i hi).imp fun g h => And.intro h.1 ((hq20.cell _).trans h.2))
                              clear rows1 rows2 x2 x5 x6 x7 q3 hBf hq20 hW20
                              go_loopw [20] (fun i wr => ∃ j : Nat, j ≤ nt ∧ i = .int .i64 j ∧ Quiet w20 wr) (fun i _ => nt - (intOf i).toNat)
                              case atStart => exact ⟨0, Nat.zero_le _, rfl, Quiet.refl _⟩
                              case round =>
                                obtain ⟨j, hj, rfl, hqj⟩ := hrel
                                have z5 := (hqj.cell _).trans y5
                                have z6 := (hqj.cell _).trans y6
                                by_cases hlj : j < nt
                                · obtain ⟨g1, rfl, e1⟩ := rows1'.out j hlj
                                  obtain ⟨g2, rfl, e2⟩ := rows2'.out j hlj
                                  have e1 := (hqj.cell _).trans e1
                                  have e2 := (hqj.cell _).trans e2
                                  have j0 : (0 : Int) ≤ (j : Int) := by omega
                                  have j1 : (j : Int) < (nt : Int) := by omega
                                  have v1 : IntKind.i64.wrap ((j : Int) + 1) = (j : Int) + 1 := IntWalk.i64_in _ (by omega)
                                  have v2 : IntKind.u64.wrap ((j : Int) + 1) = (j : Int) + 1 := by rw [IntKind.wrap_u64]; omega
                                  clear y5 y6 rows1' rows2'
                                  as_aux_lemma =>
                                    go_wp2_with fail
                                    go_wp2
                                    go_roundw
                                    case rel => exact ⟨j + 1, by omega, by go_num, hqj⟩
                                    case measure => simp [intOf]; omega
                                · clear rows1' rows2' y5 y6
                                  go_wp2
                                  go_ret
                                  exact ⟨rfl, hB20.trans hqj.below⟩
                    · obtain ⟨m, rfl⟩ := hp1 hpn
                      clear hp0
                      have hy5 : y < 5 := by omega
                      as_aux_lemma =>
                        go_wp2_with fail
                        (with_reducible refine (ro_put hR2 HX.out hf0 hf1 (by omega) (by omega)).mono ?_); rintro e w14 ⟨⟨u14, rfl⟩, np2, pn2, hR14, hgo⟩
                        have hle := putGo_le hgo
                        have hPM2 := hPM.go hgo hpn
                        clear hR2 q2 x2 hPM hgo
                        go_wp2
                        go_roundw
                        case rel => exact ⟨y + 1, np2, pn2, N + 1, by go_num, by omega, by omega, by omega, hR14, hPM2⟩
                        case measure => simp [intOf]; omega
              · clear hlt
                have hpn0 := RoQ.pnCases hRQ
                as_aux_lemma =>
                  go_wp2_with fail
                  go_loopw [18] (fun i wr => ∃ (y : Int) (np : Nat) (pn : Int) (N : Nat), i = .int .i64 y ∧ 0 ≤ y ∧ (np : Int) ≤ 300 + y ∧ (N : Int) ≤ 300 + y ∧ RoQ w4 w4.heap.size a c p cp x P T R f np nt pn kn N wr ∧ PuM pn y) (fun i _ => (5 - intOf i).toNat)
                  case atStart => exact ⟨0, np, pn, k, rfl, by decide, by omega, by omega, hRQ, hpn0⟩
                  case round =>
                    obtain ⟨y, np, pn, N, rfl, hy, hnp, hN, hR2, hPM⟩ := hrel
                    have hy3 := hPM.le
                    have q2 := (hQ4.grew hR2.bel).three.1
                    obtain ⟨_, pup, _, _, _, _, hp0, hp1, x2, _⟩ := hR2.look
                    by_cases hpn : pn = 0
                    · obtain rfl := hp0 hpn
                      subst hpn
                      clear hp1 hPM
                      as_aux_lemma =>
                        go_wp2_with fail
                        have hkn := RoQ.knCases hR2
                        have w1 : wrap64 (R + 3) = R + 3 := IntWalk.wrap64_in _ ⟨by omega, by omega⟩
                        have w2 : wrap64 (4 * (R + 3)) = 4 * (R + 3) := IntWalk.wrap64_in _ ⟨by omega, by omega⟩
                        clear q2 x2
                        go_loopw [19] (fun i wr => ∃ (u : Int) (nt : Nat) (kn : Int) (N : Nat), i = .int .i64 u ∧ 0 ≤ u ∧ u ≤ 4 * (R + 3) ∧ (N : Int) ≤ 310 + u ∧ RoQ w4 w4.heap.size a c p cp x P T R f np nt 0 kn N wr ∧ TkM R np nt kn u) (fun i _ => (4 * (R + 3) - intOf i).toNat)
                        case atStart => exact ⟨0, nt, kn, N, rfl, by decide, by omega, by omega, hR2, hkn⟩
                        case round =>
                          obtain ⟨u, nt, kn, N, rfl, hu0, hu1, hN, hR3, hTM⟩ := hrel
                          have q3 := (hQ4.grew hR3.bel).three.1
                          by_cases hlu : u < 4 * (R + 3)
                          · as_aux_lemma =>
                              go_wp2_with fail
                              (with_reducible refine (ro_take hR3 HX.out hf0 hf1 (by omega) (by omega)).mono ?_); rintro e w14 ⟨⟨u14, rfl⟩, nt2, kn2, hR14, hgo⟩
                              have hTM2 := TkM.go hTM hgo
                              clear hR3 q3 hTM hgo
                              go_wp2
                              go_roundw
                              case rel => exact ⟨u + 1, nt2, kn2, N + 1, by go_num, by omega, by omega, by omega, hR14, hTM2⟩
                              case measure => simp [intOf]; omega
                          · obtain ⟨⟨hle, hro⟩, pup3, A1, c1, A2, c2, hp3, _, x2, x5, x6, x7, rows1, rows2⟩ := hR3.look
                            obtain rfl := hp3 rfl
                            obtain rfl : nt = np := TkM.fin hTM hle (by omega)
                            have FA := Lib.hid (fun n => RoQ.faults (hR3.grew (Quiet.below ⟨n, rfl⟩)))
                            have hBf := hB4.trans (hR3.bel.mono hB4.size)
                            have rows1 := Lib.hid rows1
                            have rows2 := Lib.hid rows2
                            clear hp3 hTM hR3 hR2 hkn hle hro
                            rename_i wr3
                            as_aux_lemma =>
                              go_wp2_with fail
                              go_quiet ((go_at_call 25; exact qcall (FA.out _)))
                              rename_i nq
                              clear FA
                              go_wp2_with fail
                              generalize hW20 : World.drewN _ nq = w20
                              have hq20 : Quiet _ w20 := ⟨nq, hW20.symm⟩
                              have y5 := (hq20.cell _).trans x5
                              have y6 := (hq20.cell _).trans x6
                              have hB20 := hBf.trans hq20.below
                              have rows1' := Lib.hid (fun i hi => (rows1.out i hi).imp fun g h => And.intro h.1 ((hq20.cell _).trans h.2))
                              have rows2' := Lib.hid (fun i hi => (rows2.out i hi).imp fun g h => And.intro h.1 ((hq20.cell _).trans h.2))
                              clear rows1 rows2 x2 x5 x6 x7 q3 hBf hq20 hW20
                              go_loopw [20] (fun i wr => ∃ j : Nat, j ≤ nt ∧ i = .int .i64 j ∧ Quiet w20 wr) (fun i _ => nt - (intOf i).toNat)
                              case atStart => exact ⟨0, Nat.zero_le _, rfl, Quiet.refl _⟩
                              case round =>
                                obtain ⟨j, hj, rfl, hqj⟩ := hrel
                                have z5 := (hqj.cell _).trans y5
                                have z6 := (hqj.cell _).trans y6
                                by_cases hlj : j < nt
                                · obtain ⟨g1, rfl, e1⟩ := rows1'.out j hlj
                                  obtain ⟨g2, rfl, e2⟩ := rows2'.out j hlj
                                  have e1 := (hqj.cell _).trans e1
                                  have e2 := (hqj.cell _).trans e2
                                  have j0 : (0 : Int) ≤ (j : Int) := by omega
                                  have j1 : (j : Int) < (nt : Int) := by omega
                                  have v1 : IntKind.i64.wrap ((j : Int) + 1) = (j : Int) + 1 := IntWalk.i64_in _ (by omega)
                                  have v2 : IntKind.u64.wrap ((j : Int) + 1) = (j : Int) + 1 := by rw [IntKind.wrap_u64]; omega
                                  clear y5 y6 rows1' rows2'
                                  as_aux_lemma =>
                                    go_wp2_with fail
                                    go_wp2
                                    go_roundw
                                    case rel => exact ⟨j + 1, by omega, by go_num, hqj⟩
                                    case measure => simp [intOf]; omega
                                · clear rows1' rows2' y5 y6
                                  go_wp2
                                  go_ret
                                  exact ⟨rfl, hB20.trans hqj.below⟩
                    · obtain ⟨m, rfl⟩ := hp1 hpn
                      clear hp0
                      have hy5 : y < 5 := by omega
                      as_aux_lemma =>
                        go_wp2_with fail
                        (with_reducible refine (ro_put hR2 HX.out hf0 hf1 (by omega) (by omega)).mono ?_); rintro e w14 ⟨⟨u14, rfl⟩, np2, pn2, hR14, hgo⟩
                        have hle := putGo_le hgo
                        have hPM2 := hPM.go hgo hpn
                        clear hR2 q2 x2 hPM hgo
                        go_wp2
                        go_roundw
                        case rel => exact ⟨y + 1, np2, pn2, N + 1, by go_num, by omega, by omega, by omega, hR14, hPM2⟩
                        case measure => simp [intOf]; omega
end Go.Proofs.Ytgcahbgapojimaa
