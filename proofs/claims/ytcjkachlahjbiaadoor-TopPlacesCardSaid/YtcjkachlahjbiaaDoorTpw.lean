/- TopPlaces: the walk. Conditions: the argument is a list of ints, the tables lie as the start lays them. -/
import Derived.Test.YtcjkachlahjbiaaDoorTps
import Derived.Deep.QuietTactic
import Derived.BigQuiet
import Derived.Deep.RegionHeld3
import Derived.Deep.CutBlock
import Derived.Deep.DeepCutAuto
import Derived.Laws.OwnMore
namespace Go.Proofs.YtcjkachlahjbiaaDoor
open Go.RowKit
set_option linter.unusedVariables false

def tlL (st m : Nat) : List Int := (List.range m).map fun j : Nat => (st : Int) + (j : Int)
theorem tlL_more (st m : Nat) : tlL st (m + 1) = tlL st m ++ [(st : Int) + (m : Int)] := by simp [tlL, List.range_succ]
theorem tlL_five (st : Nat) : (tlL st 5).map (Value.int .i64) = [.int .i64 (st : Int), .int .i64 ((st : Int) + 1), .int .i64 ((st : Int) + 2), .int .i64 ((st : Int) + 3), .int .i64 ((st : Int) + 4)] := by simp [tlL, List.range_succ]
theorem tlL_len (st m : Nat) : ((tlL st m).map (Value.int .i64)).length = m := by simp [tlL]
theorem own_below {w w' : World} {base : Nat} {e : TypeId} {size : Nat} {v : Value} {n : Nat} {xs : List Value} (h : w.ownsRow base e size v n xs) (hb : Below w.heap.size w w') : w'.ownsRow base e size v n xs := by
  refine ⟨h.1, ?_⟩
  rcases h.2 with h1 | ⟨g, cap, cur, h1, h2, h3, h4⟩
  · exact .inl h1
  · exact .inr ⟨g, cap, cur, h1, h2, (hb.block g (Array.getElem?_eq_some_iff.1 h3).1).trans h3, h4⟩
theorem own_tab {w : World} {base m st : Nat} {v : Value} (h : w.ownsRow base 3 1 v m ((tlL st m).map (Value.int .i64))) (h0 : 0 < m) : ∃ (a cap : Nat) (cs : Array Value), v = .slice (some ⟨a, 0, none⟩) m cap ∧ base ≤ a ∧ Blk w a cs 3 ∧ ∀ k, k < m → cs[k]? = some (.int .i64 ((st : Int) + (k : Int))) := by
  rcases h.2 with ⟨_, h1⟩ | ⟨a, cap, cur, h1, h2, h3, h4, h5, h6, h7⟩
  · omega
  · refine ⟨a, cap, cur, h1, h2, h3, fun k hk => ?_⟩
    have e := congrArg (fun l => l[k]?) h7
    simp only [Nat.mul_one] at e
    rw [List.getElem?_take_of_lt hk] at e
    simpa [tlL, hk] using e
theorem cls_mod (x : Int) : ∃ M : Nat, wrap64 ((IntKind.u64.wrap x).tmod 8) = (M : Int) ∧ M < 8 := by
  obtain ⟨q1, q2⟩ := mod_lit x 8 (by decide) (by decide)
  exact ⟨(wrap64 ((IntKind.u64.wrap x).tmod 8)).toNat, by omega, by omega⟩
theorem lst_at {w : World} {A : Option Addr} {n cap : Nat} {zs : List Int} (hw : Lst .i64 w (.slice A n cap) zs) (hn : zs.length = n) : Hid (∀ i, i < n → ∃ b o z, A = some ⟨b, o, none⟩ ∧ b < w.heap.size ∧ w.cell? ⟨b, o + i, none⟩ = some (.int .i64 z)) := by
  refine Lib.hid ?_
  intro i hi
  rcases hw with ⟨h0, _⟩ | ⟨b, o, c, he, hp, _, hc⟩
  · rw [h0] at hn
    have h1 : 0 = n := hn
    omega
  · rw [hn] at he hp hc
    cases he
    exact ⟨b, o, _, rfl, World.block_lt_of_cell? w _ (hc i hi), hc i hi⟩
theorem lim_mod (x k : Int) (h0 : 0 < k) (h1 : k ≤ 1000000) : ∃ M : Nat, wrap64 (1 + wrap64 ((IntKind.u64.wrap x).tmod k)) = (M : Int) ∧ 1 ≤ M ∧ (M : Int) ≤ k := by
  obtain ⟨q1, q2⟩ := mod_lit x k h0 h1
  generalize wrap64 ((IntKind.u64.wrap x).tmod k) = y at *
  have e : wrap64 (1 + y) = 1 + y := IntWalk.wrap64_in _ ⟨by omega, by omega⟩
  exact ⟨(1 + y).toNat, by rw [e]; omega, by omega, by omega⟩
set_option maxRecDepth 100000 in
set_option maxHeartbeats 16000000 in
theorem places_walk (x1 x2 x3 : Int) (A : Option Addr) (n cap : Nat) (zs : List Int) (w : World) (hw : Lst .i64 w (.slice A n cap) zs) (hn : zs.length = n) (hTab : Tab w) (hWid : Wid w) :
    Calls Tryd.prog 3 #[.agg #[.int .i64 x1, .int .i64 x2, .int .i64 x3, .slice A n cap]] w fun e w' => e = .returned (.bool true) ∧ Below w.heap.size w w' := by
  have hT : Tbs w := ⟨hTab, hWid⟩
  obtain ⟨P, hP, p1, p2⟩ := lim_mod x1 32 (by decide) (by decide)
  obtain ⟨T, hTT, t1, t2⟩ := lim_mod x2 6 (by decide) (by decide)
  obtain ⟨R, hR, r1, r2⟩ := lim_mod x3 16 (by decide) (by decide)
  have hPl : Right (P : Int) (T : Int) (R : Int) := ⟨⟨by omega, p2⟩, ⟨by omega, t2⟩, ⟨by omega, r2⟩⟩
  have HPL := Lib.hid hPl
  have NW := Lib.hid (fun W => plan_yes (P : Int) (T : Int) (R : Int) W hPl)
  have CL := Lib.hid (fun W => cells_yes (P : Int) (T : Int) (R : Int) W hPl)
  clear hPl
  go_enter Tryd.func3, Tryd.ntmps3
  have hG : Blk (w.alloc (.cells #[.int .i64 x1, .int .i64 x2, .int .i64 x3, .slice A n cap] 24)) w.heap.size #[.int .i64 x1, .int .i64 x2, .int .i64 x3, .slice A n cap] 24 := Blk.new _ _ _
  have g0 := hG.val 0 rfl
  have g1 := hG.val 1 rfl
  have g2 := hG.val 2 rfl
  have g3 := hG.val 3 rfl
  have hb1 : Below w.heap.size w (w.alloc (.cells #[.int .i64 x1, .int .i64 x2, .int .i64 x3, .slice A n cap] 24)) := (Below.refl _ _).alloc (Nat.le_refl _) _
  go_wp2_with fail
  go_quiet (fail)
  have hb2 : Below w.heap.size w ((w.alloc (.cells #[.int .i64 x1, .int .i64 x2, .int .i64 x3, .slice A n cap] 24)).drewN nq) := ⟨hb1.os, hb1.tape, hb1.output, hb1.size, hb1.block⟩
  clear hG g0 g1 g2 g3 hb1
  generalize World.drewN _ nq = wq at *
  go_wp2_with fail
  refine (NW.out _).mono ?_
  rintro e w1 ⟨rfl, hb3⟩
  have hb3 := hb2.trans (hb3.mono hb2.size)
  go_wp2_with fail
  have hp0 := Blk.new w1 #[.int .i64 (P : Int), .int .i64 (T : Int), .int .i64 (R : Int)] 26
  have hb4 := hb3.alloc hb3.size (.cells #[.int .i64 (P : Int), .int .i64 (T : Int), .int .i64 (R : Int)] 26)
  have hz1 := hb3.size
  generalize World.alloc w1 _ = wp at *
  generalize w1.heap.size = b at *
  clear hb3 hb2
  refine (CL.out _).mono ?_
  rintro e w2 ⟨rfl, hb5⟩
  have hp2 := hp0.grew hb5
  have hb5 := hb4.trans (hb5.mono hb4.size)
  obtain ⟨N, hN, n1, n2, n3⟩ : ∃ N : Nat, baseI (P : Int) T R + 64 * (P : Int) = (N : Int) ∧ 128 ≤ N ∧ N ≤ 4096 ∧ (N : Int) = baseI (P : Int) T R + 64 * (P : Int) := by
    have hbd := base_bd HPL.out
    exact ⟨(baseI (P : Int) T R + 64 * (P : Int)).toNat, by omega, by omega, by omega, by omega⟩
  have HN := Lib.hid n3
  rw [hN]
  clear hp0 hb4 NW CL n3 hN
  have hmk := fun W => run_mkI W N n2
  have HA := lst_at hw hn
  clear hw hn
  go_wp2
  have hU0 : UsS w b w2.heap.size P T R N (fun _ => 0) (w2.alloc (.cells (rowOf N (fun _ => 0)) 3)) := ⟨hp2.alloc _, Blk.new _ _ _, hb5.alloc hb5.size _, hb5.size, by have := hp2.lt; omega⟩
  have hF0 : Frees P T R 0 (baseI (P : Int) T R + 64 * ((0 : Nat) : Int)) (fun _ => 0) := ⟨fun _ _ _ => rfl, fun _ _ _ _ _ => rfl, fun _ _ _ => rfl⟩
  have HF0 := Lib.hid hF0
  clear hp2 hb5 hmk hF0 hP hTT hR
  generalize w2.heap.size = g at *
  generalize w2.alloc _ = wu at *
  go_loopw [11] (fun i wr => ∃ (pg : Nat) (U : Int → Int), pg ≤ P ∧ i = .int .i64 pg ∧ Hid (Frees P T R pg (baseI (P : Int) T R + 64 * (pg : Int)) U) ∧ UsS w b g P T R N U wr) (fun i _ => P - (intOf i).toNat)
  case atStart => exact ⟨0, _, by omega, rfl, HF0, hU0⟩
  case round =>
    clear hU0 HF0
    obtain ⟨pg, U, hpg, rfl, hF, hU⟩ := hrel
    obtain ⟨d0, d1, d2⟩ := hU.three
    by_cases hlt : pg < P
    · have h1 : (pg : Int) < (P : Int) := by omega
      have h0 : (0 : Int) ≤ (pg : Int) := by omega
      have h0' : ¬ (pg : Int) < 0 := by omega
      go_upto_if 80 with fail
      go_cut [12] from 71 to 241 (fun s wx => (∃ M : Nat, M < 8 ∧ s = .int .i64 M) ∧ wx = wr)
      case first =>
        by_cases hp : pg < n
        · obtain ⟨b1, o1, z1, rfl, hb1, q1⟩ := HA.out pg hp
          have q1 := (hU.bel.cell (p := ⟨b1, o1 + pg, none⟩) hb1).trans q1
          obtain ⟨M, HM, hM8⟩ := cls_mod z1
          have hp' : (pg : Int) < (n : Int) := by omega
          go_wp2
          go_meet
          case rel => exact ⟨⟨M, hM8, rfl⟩, rfl⟩
        · have hp' : ¬ (pg : Int) < (n : Int) := by omega
          go_wp2
          go_meet
          case rel => exact ⟨⟨0, by decide, rfl⟩, rfl⟩
      case rest =>
        obtain ⟨⟨M, hM, rfl⟩, rfl⟩ := hcut
        obtain ⟨hc, k2, k3, k4, k5⟩ := cls_nat M hM
        have WD := Lib.hid (fun W (h : Wid W) => words_any ((M : Nat) : Int) W h)
        have CN := Lib.hid (fun W (h : Wid W) => cnum_any ((M : Nat) : Int) W h)
        have RM := Lib.hid (fun A W (h : Wid W) (hA : U64 A) => room_any ((M : Nat) : Int) A W h hA)
        have FR := Lib.hid (fun A W (h : Tbs W) (hA : U64 A) => first_any ((M : Nat) : Int) A 0 W h hA)
        have CE := Lib.hid (fun y W (h : Wid W) => cell_any ((M : Nat) : Int) y W h)
        rw [k2, k5] at WD
        rw [k3, k5] at CN
        obtain ⟨V, C, al, hV, hC, v1, v2, c1, a0, aU, aF, aN, aC, aR, aI, aS⟩ := tp_cls M hM
        rw [hV] at WD
        rw [hC] at CN
        have AU := Lib.hid aU
        have AF := Lib.hid aF
        have AN := Lib.hid aN
        have AC := Lib.hid aC
        have AR := Lib.hid aR
        have AI := Lib.hid aI
        have A0 := Lib.hid a0
        clear k2 k3 k4 k5 hV hC hc aU aF aN aC aR aI a0
        go_wp2_with fail
        refine (WD.out _ (hT.grew hU.bel).wid).mono ?_
        rintro e w6 ⟨rfl, hw6⟩
        obtain rfl := hw6.symm
        go_wp2_with fail
        refine (CN.out _ (hT.grew hU.bel).wid).mono ?_
        rintro e w7 ⟨rfl, hb7⟩
        have hU7 := hU.grew hb7
        clear hU d0 d1 d2 hw6 WD CN HA hb7
        have hv0 : ¬ (V : Int) < 1 := by omega
        go_wp2_with fail
        have hF0 : Hid (Frees P T R pg (baseI (P : Int) T R + 64 * (pg : Int) + ((0 * V : Nat) : Int)) U) := Lib.hid (hF.out.mono (by simp))
        clear hF
        go_loopw [17, 18] (fun s17 s18 wr => ∃ (i : Nat) (U : Int → Int), i ≤ C ∧ s17 = .int .u64 (al i) ∧ s18 = .int .i64 i ∧ Hid (Frees P T R pg (baseI (P : Int) T R + 64 * (pg : Int) + ((i * V : Nat) : Int)) U) ∧ UsS w b g P T R N U wr) (fun _ i _ => C - (intOf i).toNat)
        case atStart => exact ⟨0, _, by omega, by rw [A0.out], rfl, hF0, hU7⟩
        case round =>
          clear hU7 hF0
          obtain ⟨i, U, hi, rfl, rfl, hF, hU⟩ := hrel
          by_cases hlt2 : i < C
          · have h2 : (i : Int) < (C : Int) := by omega
            have F1 := Lib.hid (fun W (h : Tbs W) => FR.out (al i) W h (AU.out i hi))
            rw [AF.out i hlt2] at F1
            have N1 := AN.out i hlt2
            have I1 := AI.out i hlt2
            have C1 := Lib.hid (fun k (h : k < V) => AC.out i k hlt2 h)
            have E1 : (i + 1) * V = i * V + V := by rw [Nat.add_mul, Nat.one_mul]
            generalize i * V = z at *
            have z1 : ¬ (z : Int) < 0 := by omega
            have z2 : ¬ 63 < (z : Int) := by omega
            have zmin : min z 64 = z := by omega
            go_wp2_with fail
            refine (F1.out _ (hT.grew hU.bel)).mono ?_
            rintro e w8 ⟨rfl, hb8⟩
            have hU8 := hU.grew hb8
            clear hU hb8 F1 FR
            go_wp2_with fail
            have E1 := Lib.hid E1
            clear N1 zmin
            have hF0 : Hid (Frees P T R pg (baseI (P : Int) T R + 64 * (pg : Int) + (z : Int) + ((0 : Nat) : Int)) U) := Lib.hid (hF.out.mono (by simp))
            clear hF
            go_loopw [20] (fun s20 wr => ∃ (k : Nat) (U : Int → Int), k ≤ V ∧ s20 = .int .i64 k ∧ Hid (Frees P T R pg (baseI (P : Int) T R + 64 * (pg : Int) + (z : Int) + (k : Int)) U) ∧ UsS w b g P T R N U wr) (fun k _ => V - (intOf k).toNat)
            case atStart => exact ⟨0, _, by omega, rfl, hF0, hU8⟩
            case round =>
              clear hU8 hF0
              obtain ⟨k, U, hk, rfl, hF, hU⟩ := hrel
              by_cases hlt3 : k < V
              · have h3 : (k : Int) < (V : Int) := by omega
                have CL := Lib.hid (fun W (h : Wid W) => CE.out ((z + k : Nat) : Int) W h)
                rw [C1.out k hlt3] at CL
                have hy : z + k < 64 := by omega
                have SP := spot_ex HPL.out HN.out n2 h1 hy
                obtain ⟨a, ha, ha2, q1, q2, q3⟩ := SP
                have ha4 : a < 4096 := by omega
                obtain ⟨hu0, hF1⟩ := hF.out.spot HPL.out HN.out ha ha2
                have HF1 := Lib.hid hF1
                have AD := Lib.hid (fun W => addr_any (P : Int) T R (pg : Int) ((z + k : Nat) : Int) W)
                rw [q1] at AD
                have PL := Lib.hid (fun W => place_any (P : Int) T R (a : Int) W)
                rw [q2] at PL
                have RF := Lib.hid (fun W => ref_any (P : Int) T R (a : Int) W ⟨by omega, by omega⟩)
                rw [q3] at RF
                have y1 : ¬ (a : Int) < 0 := by omega
                have y2 : ¬ (N : Int) ≤ (a : Int) := by omega
                have y3 : (a : Int) < (N : Int) := by omega
                have y4 : (0 : Int) ≤ (a : Int) := by omega
                clear hF hF1 q1 q2 q3 ha h3
                have k63 : (k : Int) < 32 := by omega
                have zk : (z : Int) + (k : Int) < 64 := by omega
                have a4 : (a : Int) < 4096 := by omega
                rw [Int.natCast_add] at AD PL CL
                have HU0 := Lib.hid hu0
                clear hu0 hy ha4
                obtain ⟨d0, d1, d2⟩ := hU.three
                go_wp2_with fail
                refine (AD.out _).mono ?_
                rintro e w9 ⟨rfl, hb9⟩
                have hU9 := hU.grew hb9
                clear hU hb9 d0 d1 d2 AD
                obtain ⟨d0, d1, d2⟩ := hU9.three
                go_wp2_with fail
                refine (PL.out _).mono ?_
                rintro e w10 ⟨rfl, hb10⟩
                have hU10 := hU9.grew hb10
                clear hU9 hb10 d0 d1 d2 PL
                have u1 := hU10.at a ha2
                rw [HU0.out] at u1
                go_wp2_with fail
                refine (CL.out _ (hT.grew hU10.bel).wid).mono ?_
                rintro e w11 ⟨rfl, hb11⟩
                have hU11 := hU10.grew hb11
                clear hU10 hb11 CL u1
                obtain ⟨d0, d1, d2⟩ := hU11.three
                go_wp2_with fail
                refine (RF.out _).mono ?_
                rintro e w12 ⟨rfl, hb12⟩
                have hU12 := hU11.grew hb12
                clear hU11 hb12 d0 d1 d2 RF
                have u1 := hU12.at a ha2
                have u2 := hU12.row.frozen a
                go_wp2
                go_roundw
                case rel => exact ⟨k + 1, _, by omega, by go_num, HF1, hU12.put a⟩
                case measure => simp [intOf]; omega
              · have hkV : k = V := by omega
                have hF1 : Hid (Frees P T R pg (baseI (P : Int) T R + 64 * (pg : Int) + (((i + 1) * V : Nat) : Int)) U) := by
                  rw [E1.out]
                  exact Lib.hid (hF.out.mono (by omega))
                clear hF
                go_wp2
                go_roundw
                case rel => exact ⟨i + 1, _, by omega, rfl, by go_num, hF1, hU⟩
                case measure => simp [intOf]; omega
          · obtain rfl : i = C := by omega
            have hF1 : Hid (Freet P T R pg 0 (baseI (P : Int) T R + 64 * (((pg + 1 : Nat) : Nat) : Int)) U) := Lib.hid (Freet.of (hF.out.mono (by omega)))
            have RM1 := Lib.hid (fun W (h : Wid W) => RM.out (al i) W h (AU.out i (Nat.le_refl _)))
            rw [AR.out] at RM1
            have EN := Lib.hid (fun W => entry_any (P : Int) T R (pg : Int) W)
            have LC := Lib.hid (fun W => alloc_any (P : Int) T R (pg : Int) W)
            have MK := Lib.hid (fun W => mark_any (P : Int) T R (pg : Int) W)
            rw [row_at' HPL.out h0 h1] at EN LC MK
            clear hF RM AU AF AN AC AR AI A0 CE FR aS
            generalize al i = ac at *
            go_wp2_with fail
            go_region_held3 (fun W => (W.cell? ⟨b, 0, none⟩ = some (.int .i64 (P : Int)) ∧ W.cell? ⟨b, 1, none⟩ = some (.int .i64 (T : Int)) ∧ W.cell? ⟨b, 2, none⟩ = some (.int .i64 (R : Int))))
              (first | (with_reducible exact UsS.three (by assumption)) | exact UsS.three (UsS.drew hU) | (with_reducible exact UsS.three (UsS.alloc (by assumption) _)))
              (first | (go_at_call 13; refine (EN.out _).mono ?_; rintro e w13 ⟨rfl, hb13⟩; have hS13 := UsS.grew (by first | assumption | exact UsS.drew hU) hb13) | (go_at_call 14; refine (LC.out _).mono ?_; rintro e w13 ⟨rfl, hb13⟩; have hS13 := UsS.grew (by first | assumption | exact UsS.drew hU) hb13) | (go_at_call 15; refine (MK.out _).mono ?_; rintro e w13 ⟨rfl, hb13⟩; have hS13 := UsS.grew (by first | assumption | exact UsS.drew hU) hb13))
            clear hU EN LC MK
            have hS13 : UsS w b g P T R N U w13 := by assumption
            have hTb : TbS w b g w13.heap.size P T R N U #[.int .i64 (tabI (T : Int) R + (pg : Int)), .int .i64 (tabI (T : Int) R + (P : Int) + (pg : Int)), .int .i64 (tabI (T : Int) R + 2 * (P : Int) + (pg : Int))] (w13.alloc (.cells #[.int .i64 (tabI (T : Int) R + (pg : Int)), .int .i64 (tabI (T : Int) R + (P : Int) + (pg : Int)), .int .i64 (tabI (T : Int) R + 2 * (P : Int) + (pg : Int))] 3)) := ⟨hS13.alloc _, Blk.new _ _ _, by have := hS13.row.lt; omega⟩
            have HTB := Lib.hid hTb
            have hEL : Hid (∀ k : Nat, k < 3 → (#[.int .i64 (tabI (T : Int) R + (pg : Int)), .int .i64 (tabI (T : Int) R + (P : Int) + (pg : Int)), .int .i64 (tabI (T : Int) R + 2 * (P : Int) + (pg : Int))] : Array Value)[k]? = some (.int .i64 (tabI (T : Int) R + (k : Int) * (P : Int) + (pg : Int)))) := by
              refine Lib.hid (fun k hk => ?_)
              rcases (show k = 0 ∨ k = 1 ∨ k = 2 by omega) with rfl | rfl | rfl <;> simp
            clear hTb hS13
            generalize w13.heap.size = h at *
            go_wp2_with fail
            generalize World.alloc w13 _ = wt at *
            generalize (#[.int .i64 (tabI (T : Int) R + (pg : Int)), .int .i64 (tabI (T : Int) R + (P : Int) + (pg : Int)), .int .i64 (tabI (T : Int) R + 2 * (P : Int) + (pg : Int))] : Array Value) = cs at HTB hEL
            go_loopw [25] (fun s25 wr => ∃ (k : Nat) (U : Int → Int), k ≤ 3 ∧ s25 = .int .i64 k ∧ Hid (Freet P T R pg k (baseI (P : Int) T R + 64 * ((pg + 1 : Nat) : Int)) U) ∧ TbS w b g h P T R N U cs wr) (fun k _ => 3 - (intOf k).toNat)
            case atStart => exact ⟨0, _, by omega, rfl, hF1, HTB.out⟩
            case round =>
              clear HTB hF1
              obtain ⟨k, U, hk, rfl, hF, hS⟩ := hrel
              by_cases hlt4 : k < 3
              · have h4 : (k : Int) < 3 := by omega
                have h40 : (0 : Int) ≤ (k : Int) := by omega
                obtain ⟨a, ha, ha2, q3⟩ := tab_ex HPL.out HN.out h1 hlt4
                obtain ⟨hu0, hF1⟩ := hF.out.next HPL.out (by have := base_bd HPL.out; omega) hlt4 h1
                have e1 := hEL.out k hlt4
                rw [ha] at hu0 hF1 e1
                have HF1 := Lib.hid hF1
                have RF := Lib.hid (fun W => ref_any (P : Int) T R (a : Int) W ⟨by omega, by omega⟩)
                rw [q3] at RF
                have E5 := Lib.hid (fun W (q : TbS w b g h P T R N U cs W) => q.five e1 ha2 hu0)
                have y1 : ¬ (a : Int) < 0 := by omega
                have y2 : ¬ (N : Int) ≤ (a : Int) := by omega
                have y3 : (a : Int) < (N : Int) := by omega
                have y4 : (0 : Int) ≤ (a : Int) := by omega
                have a4 : (a : Int) < 4096 := by omega
                have RF2 : Hid (∀ W, Calls Tryd.prog 12 #[.agg #[.int .i64 (P : Int), .int .i64 (T : Int), .int .i64 (R : Int)], .int .u64 (IntKind.u64.wrap (a : Int))] W fun e w' => e = .returned (.bool false) ∧ Below W.heap.size W w') := Lib.hid (fun W => by rw [wrap_u a (by omega)]; exact RF.out W)
                clear hF hF1 q3 ha e1 hu0
                have y5 : decide (N ≤ a) = false := decide_eq_false (by omega)
                have y6 : decide ((N : Int) ≤ (a : Int)) = false := decide_eq_false y2
                have hd := hS.drew
                have d5 := E5.out _ hS
                obtain ⟨⟨d0, d1, d2⟩, d3, d4⟩ := d5
                go_wp2_with fail
                have h5d := E5.out _ hd
                refine wp_region_held_drew (S := fun W => (W.cell? ⟨b, 0, none⟩ = some (.int .i64 (P : Int)) ∧ W.cell? ⟨b, 1, none⟩ = some (.int .i64 (T : Int)) ∧ W.cell? ⟨b, 2, none⟩ = some (.int .i64 (R : Int))) ∧ W.cell? ⟨h, k, none⟩ = some (.int .i64 (a : Int)) ∧ W.cell? ⟨g, a, none⟩ = some (.int .i64 0)) (by kernel_rfl) h5d (fun hHeld => ?_)
                refine wpAnyH_take (i := 0) (oi := _) (v := ?_) (op_at rfl) (by kernel_rfl) (by kernel_rfl) (by kernel_rfl) (fun _ _ _ h => h) (Or.inl ⟨by rfl, ?_⟩) hHeld ?_
                rotate_left 1
                focus (intro W hSw; (try dsimp only at hSw); go_simp; (try (with_reducible rfl)))
                (try simp only [Act.put, List.setIfInBounds_toArray, List.set_cons_zero, List.set_cons_succ])
                refine wpAnyH_take (i := 1) (oi := _) (v := ?_) (op_at rfl) (by kernel_rfl) (by kernel_rfl) (by kernel_rfl) (fun _ _ _ h => h) (Or.inl ⟨by rfl, ?_⟩) hHeld ?_
                rotate_left 1
                focus (intro W hSw; (try dsimp only at hSw); go_simp; (try (with_reducible rfl)))
                (try simp only [Act.put, List.setIfInBounds_toArray, List.set_cons_zero, List.set_cons_succ])
                refine wpAnyH_take (i := 2) (oi := _) (v := ?_) (op_at rfl) (by kernel_rfl) (by kernel_rfl) (by kernel_rfl) (fun _ _ _ h => h) (Or.inl ⟨by rfl, ?_⟩) hHeld ?_
                rotate_left 1
                focus (intro W hSw; (try dsimp only at hSw); go_simp; (try (with_reducible rfl)))
                (try simp only [Act.put, List.setIfInBounds_toArray, List.set_cons_zero, List.set_cons_succ])
                refine wpAnyH_take (i := 3) (oi := _) (v := ?_) (op_at rfl) (by kernel_rfl) (by kernel_rfl) (by kernel_rfl) (fun _ _ _ h => h) (Or.inl ⟨by rfl, ?_⟩) hHeld ?_
                rotate_left 1
                focus (intro W hSw; (try dsimp only at hSw); go_simp; (try (with_reducible rfl)))
                (try simp only [Act.put, List.setIfInBounds_toArray, List.set_cons_zero, List.set_cons_succ])
                refine wpAnyH_take (i := 4) (oi := _) (v := ?_) (op_at rfl) (by kernel_rfl) (by kernel_rfl) (by kernel_rfl) (fun _ _ _ h => h) (Or.inl ⟨by rfl, ?_⟩) hHeld ?_
                rotate_left 1
                focus (intro W hSw; (try dsimp only at hSw); go_simp; (try (with_reducible rfl)))
                (try simp only [Act.put, List.setIfInBounds_toArray, List.set_cons_zero, List.set_cons_succ])
                refine wpAnyH_take (i := 5) (oi := _) (v := ?_) (op_at rfl) (by kernel_rfl) (by kernel_rfl) (by kernel_rfl) (fun _ _ _ h => h) (Or.inl ⟨by rfl, ?_⟩) hHeld ?_
                rotate_left 1
                focus (intro W hSw; (try dsimp only at hSw); go_simp; (try (with_reducible rfl)))
                (try simp only [Act.put, List.setIfInBounds_toArray, List.set_cons_zero, List.set_cons_succ])
                refine wpAnyH_take (i := 6) (oi := _) (v := ?_) (op_at rfl) (by kernel_rfl) (by kernel_rfl) (by kernel_rfl) (fun _ _ _ h => h) (Or.inl ⟨by rfl, ?_⟩) hHeld ?_
                rotate_left 1
                focus (intro W hSw; (try dsimp only at hSw); go_simp; (try (with_reducible rfl)))
                (try simp only [Act.put, List.setIfInBounds_toArray, List.set_cons_zero, List.set_cons_succ])
                refine wpAnyH_take (i := 7) (oi := _) (v := ?_) (op_at rfl) (by kernel_rfl) (by kernel_rfl) (by kernel_rfl) (fun _ _ _ h => h) (Or.inl ⟨by rfl, ?_⟩) hHeld ?_
                rotate_left 1
                focus (intro W hSw; (try dsimp only at hSw); go_simp; (try (with_reducible rfl)))
                (try simp only [Act.put, List.setIfInBounds_toArray, List.set_cons_zero, List.set_cons_succ])
                refine wpAnyH_take (i := 8) (oi := _) (v := ?_) (op_at rfl) (by kernel_rfl) (by kernel_rfl) (by kernel_rfl) (fun _ _ _ h => h) (Or.inl ⟨by rfl, ?_⟩) hHeld ?_
                rotate_left 1
                focus (intro W hSw; (try dsimp only at hSw); go_simp; (try (with_reducible rfl)))
                (try simp only [Act.put, List.setIfInBounds_toArray, List.set_cons_zero, List.set_cons_succ])
                refine wpAnyH_take (i := 9) (oi := _) (v := ?_) (op_at rfl) (by kernel_rfl) (by kernel_rfl) (by kernel_rfl) (fun _ _ _ h => h) (Or.inl ⟨by rfl, ?_⟩) hHeld ?_
                rotate_left 1
                focus (intro W hSw; (try dsimp only at hSw); go_simp; (try (with_reducible rfl)))
                (try simp only [Act.put, List.setIfInBounds_toArray, List.set_cons_zero, List.set_cons_succ])
                refine wpAnyH_take (i := 10) (oi := _) (v := ?_) (op_at rfl) (by kernel_rfl) (by kernel_rfl) (by kernel_rfl) (fun _ _ _ h => h) (Or.inl ⟨by rfl, ?_⟩) hHeld ?_
                rotate_left 1
                focus (intro W hSw; (try dsimp only at hSw); go_simp; (try (with_reducible rfl)))
                (try simp only [Act.put, List.setIfInBounds_toArray, List.set_cons_zero, List.set_cons_succ])
                refine wpAnyH_take (i := 11) (oi := _) (v := ?_) (op_at rfl) (by kernel_rfl) (by kernel_rfl) (by kernel_rfl) (fun _ _ _ h => h) (Or.inl ⟨by rfl, ?_⟩) hHeld ?_
                rotate_left 1
                focus (intro W hSw; (try dsimp only at hSw); go_simp; (try (with_reducible rfl)))
                (try simp only [Act.put, List.setIfInBounds_toArray, List.set_cons_zero, List.set_cons_succ])
                refine wpAnyH_take (i := 12) (oi := _) (v := ?_) (op_at rfl) (by kernel_rfl) (by kernel_rfl) (by kernel_rfl) (fun _ _ _ h => h) (Or.inl ⟨by rfl, ?_⟩) hHeld ?_
                rotate_left 1
                focus (intro W hSw; (try dsimp only at hSw); go_simp; (try (with_reducible rfl)))
                (try simp only [Act.put, List.setIfInBounds_toArray, List.set_cons_zero, List.set_cons_succ])
                refine wpAnyH_take (i := 13) (oi := _) (v := ?_) (op_at rfl) (by kernel_rfl) (by kernel_rfl) (by kernel_rfl) (fun _ _ _ h => h) (Or.inl ⟨by rfl, ?_⟩) hHeld ?_
                rotate_left 1
                focus (intro W hSw; (try dsimp only at hSw); go_simp; (try (with_reducible rfl)))
                (try simp only [Act.put, List.setIfInBounds_toArray, List.set_cons_zero, List.set_cons_succ])
                refine wpAnyH_take (i := 14) (oi := _) (v := ?_) (op_at rfl) (by kernel_rfl) (by kernel_rfl) (by kernel_rfl) (fun _ _ _ h => h) (Or.inl ⟨by rfl, ?_⟩) hHeld ?_
                rotate_left 1
                focus (intro W hSw; (try dsimp only at hSw); go_simp; (try (with_reducible rfl)))
                (try simp only [Act.put, List.setIfInBounds_toArray, List.set_cons_zero, List.set_cons_succ])
                refine wpAnyH_take (i := 15) (oi := _) (v := ?_) (op_at rfl) (by kernel_rfl) (by kernel_rfl) (by kernel_rfl) (fun _ _ _ h => h) (Or.inl ⟨by rfl, ?_⟩) hHeld ?_
                rotate_left 1
                focus (intro W hSw; (try dsimp only at hSw); go_simp; (try (with_reducible rfl)))
                (try simp only [Act.put, List.setIfInBounds_toArray, List.set_cons_zero, List.set_cons_succ])
                refine wpAnyH_take (i := 16) (oi := _) (v := ?_) (op_at rfl) (by kernel_rfl) (by kernel_rfl) (by kernel_rfl) (fun _ _ _ h => h) (Or.inl ⟨by rfl, ?_⟩) hHeld ?_
                rotate_left 1
                focus (intro W hSw; (try dsimp only at hSw); go_simp; (try (with_reducible rfl)))
                (try simp only [Act.put, List.setIfInBounds_toArray, List.set_cons_zero, List.set_cons_succ])
                refine wpAnyH_take (i := 17) (oi := _) (v := ?_) (op_at rfl) (by kernel_rfl) (by kernel_rfl) (by kernel_rfl) (fun _ _ _ h => h) (Or.inl ⟨by rfl, ?_⟩) hHeld ?_
                rotate_left 1
                focus (intro W hSw; (try dsimp only at hSw); go_simp; (try (with_reducible rfl)))
                (try simp only [Act.put, List.setIfInBounds_toArray, List.set_cons_zero, List.set_cons_succ])
                refine wpAnyH_take (i := 18) (oi := _) (v := ?_) (op_at rfl) (by kernel_rfl) (by kernel_rfl) (by kernel_rfl) (fun _ _ _ h => h) (Or.inl ⟨by rfl, ?_⟩) hHeld ?_
                rotate_left 1
                focus (intro W hSw; (try dsimp only at hSw); go_simp; (try (with_reducible rfl)))
                (try simp only [Act.put, List.setIfInBounds_toArray, List.set_cons_zero, List.set_cons_succ])
                refine wpAnyH_take (i := 19) (oi := _) (v := ?_) (op_at rfl) (by kernel_rfl) (by kernel_rfl) (by kernel_rfl) (fun _ _ _ h => h) (Or.inl ⟨by rfl, ?_⟩) hHeld ?_
                rotate_left 1
                focus (intro W hSw; (try dsimp only at hSw); go_simp; (try (with_reducible rfl)))
                (try simp only [Act.put, List.setIfInBounds_toArray, List.set_cons_zero, List.set_cons_succ])
                refine wpAnyH_take (i := 20) (oi := _) (v := ?_) (op_at rfl) (by kernel_rfl) (by kernel_rfl) (by kernel_rfl) (fun _ _ _ h => h) (Or.inl ⟨by rfl, ?_⟩) hHeld ?_
                rotate_left 1
                focus (intro W hSw; (try dsimp only at hSw); go_simp; (try (with_reducible rfl)))
                (try simp only [Act.put, List.setIfInBounds_toArray, List.set_cons_zero, List.set_cons_succ])
                refine wpAnyH_take (i := 21) (oi := _) (v := ?_) (op_at rfl) (by kernel_rfl) (by kernel_rfl) (by kernel_rfl) (fun _ _ _ h => h) (Or.inl ⟨by rfl, ?_⟩) hHeld ?_
                rotate_left 1
                focus (intro W hSw; (try dsimp only at hSw); go_simp; (try (with_reducible rfl)))
                (try simp only [Act.put, List.setIfInBounds_toArray, List.set_cons_zero, List.set_cons_succ])
                refine wpAnyH_take (i := 22) (oi := _) (v := ?_) (op_at rfl) (by kernel_rfl) (by kernel_rfl) (by kernel_rfl) (fun _ _ _ h => h) (Or.inl ⟨by rfl, ?_⟩) hHeld ?_
                rotate_left 1
                focus (intro W hSw; (try dsimp only at hSw); go_simp; (try (with_reducible rfl)))
                (try simp only [Act.put, List.setIfInBounds_toArray, List.set_cons_zero, List.set_cons_succ])
                refine wpAnyH_take (i := 23) (oi := _) (v := ?_) (op_at rfl) (by kernel_rfl) (by kernel_rfl) (by kernel_rfl) (fun _ _ _ h => h) (Or.inl ⟨by rfl, ?_⟩) hHeld ?_
                rotate_left 1
                focus (intro W hSw; (try dsimp only at hSw); go_simp; (try (with_reducible rfl)))
                (try simp only [Act.put, List.setIfInBounds_toArray, List.set_cons_zero, List.set_cons_succ])
                refine wpAnyH_take (i := 24) (oi := _) (v := ?_) (op_at rfl) (by kernel_rfl) (by kernel_rfl) (by kernel_rfl) (fun _ _ _ h => h) (Or.inl ⟨by rfl, ?_⟩) hHeld ?_
                rotate_left 1
                focus (intro W hSw; (try dsimp only at hSw); go_simp; (try (with_reducible rfl)))
                (try simp only [Act.put, List.setIfInBounds_toArray, List.set_cons_zero, List.set_cons_succ])
                refine wpAnyH_take (i := 25) (oi := _) (v := ?_) (op_at rfl) (by kernel_rfl) (by kernel_rfl) (by kernel_rfl) (fun _ _ _ h => h) (Or.inl ⟨by rfl, ?_⟩) hHeld ?_
                rotate_left 1
                focus (intro W hSw; (try dsimp only at hSw); go_simp; (try (with_reducible rfl)))
                (try simp only [Act.put, List.setIfInBounds_toArray, List.set_cons_zero, List.set_cons_succ])
                refine wpAnyH_take (i := 26) (oi := _) (v := ?_) (op_at rfl) (by kernel_rfl) (by kernel_rfl) (by kernel_rfl) (fun _ _ _ h => h) (Or.inl ⟨by rfl, ?_⟩) hHeld ?_
                rotate_left 1
                focus (intro W hSw; (try dsimp only at hSw); go_simp; (try (with_reducible rfl)))
                (try simp only [Act.put, List.setIfInBounds_toArray, List.set_cons_zero, List.set_cons_succ])
                refine wpAnyH_take (i := 27) (oi := _) (v := ?_) (op_at rfl) (by kernel_rfl) (by kernel_rfl) (by kernel_rfl) (fun _ _ _ h => h) (Or.inl ⟨by rfl, ?_⟩) hHeld ?_
                rotate_left 1
                focus (intro W hSw; (try dsimp only at hSw); go_simp; (try (with_reducible rfl)))
                (try simp only [Act.put, List.setIfInBounds_toArray, List.set_cons_zero, List.set_cons_succ])
                refine wpAnyH_take (i := 28) (oi := _) (v := ?_) (op_at rfl) (by kernel_rfl) (by kernel_rfl) (by kernel_rfl) (fun _ _ _ h => h) (Or.inl ⟨by rfl, ?_⟩) hHeld ?_
                rotate_left 1
                focus (intro W hSw; (try dsimp only at hSw); go_simp; (try (with_reducible rfl)))
                (try simp only [Act.put, List.setIfInBounds_toArray, List.set_cons_zero, List.set_cons_succ])
                refine wpAnyH_take (i := 29) (oi := _) (v := ?_) (op_at rfl) (by kernel_rfl) (by kernel_rfl) (by kernel_rfl) (fun _ _ _ h => h) (Or.inl ⟨by rfl, ?_⟩) hHeld ?_
                rotate_left 1
                focus (intro W hSw; (try dsimp only at hSw); go_simp; (try (with_reducible rfl)))
                (try simp only [Act.put, List.setIfInBounds_toArray, List.set_cons_zero, List.set_cons_succ])
                refine wpAnyH_ready (rs := [30]) (by kernel_rfl) (by simp) ?_
                refine AllReadyH.cons (o := _) (op_at rfl) (fun K hK => ?_) AllReadyH.nil
                go_simp
                go_at_call 12
                with_reducible refine (RF2.out _).mono ?_
                rintro e w14 ⟨rfl, hb14⟩
                have hS14 := TbS.grew hd hb14
                go_wp2_with fail
                refine hK.out _ _ ?_ (fun hHeld => ?_)
                focus exact E5.out _ hS14
                clear hK K
                (try simp only [Act.put, List.setIfInBounds_toArray, List.set_cons_zero, List.set_cons_succ])
                refine wpAnyH_take (i := 31) (oi := _) (v := ?_) (op_at rfl) (by kernel_rfl) (by kernel_rfl) (by kernel_rfl) (fun _ _ _ h => h) (Or.inl ⟨by rfl, ?_⟩) hHeld ?_
                rotate_left 1
                focus (intro W hSw; (try dsimp only at hSw); go_simp; (try (with_reducible rfl)))
                (try simp only [Act.put, List.setIfInBounds_toArray, List.set_cons_zero, List.set_cons_succ])
                refine wpAnyH_done (by kernel_rfl) ?_ _
                obtain ⟨d3, d4⟩ := (E5.out _ hS14).2
                have u2 := hS14.us.row.frozen a
                clear h5d hd hS hHeld RF RF2
                go_wp2
                go_roundw
                case rel => exact ⟨k + 1, _, by omega, by go_num, HF1, hS14.put a⟩
                case measure => simp [intOf]; omega
              · obtain rfl : k = 3 := by omega
                have hF1 := Lib.hid (hF.out.to)
                have hU := hS.us
                clear hF hS
                go_wp2_with fail
                refine (RM1.out _ (hT.grew hU.bel).wid).mono ?_
                rintro e w15 ⟨rfl, hb15⟩
                have hU := hU.grew hb15
                go_wp2
                go_roundw
                case rel => exact ⟨pg + 1, _, by omega, by go_num, hF1, hU⟩
                case measure => simp [intOf]; omega
    · have hF1 : Hid (Thz (T : Int) R (16 + ((0 : Nat) : Int) * (5 + (R : Int))) U) := Lib.hid (fun x h1 h2 => hF.out.ow x (by simpa using h1) h2)
      as_aux_lemma =>
      clear hF HA
      go_wp2_with fail
      go_loopw [26] (fun s26 wr => ∃ (t : Nat) (U : Int → Int), t ≤ T ∧ s26 = .int .i64 t ∧ Hid (Thz (T : Int) R (16 + (t : Int) * (5 + (R : Int))) U) ∧ UsS w b g P T R N U wr) (fun t _ => T - (intOf t).toNat)
      case atStart => exact ⟨0, _, by omega, rfl, hF1, hU⟩
      case round =>
        clear hU hF1 d0 d1 d2
        obtain ⟨t, U, ht, rfl, hF, hU⟩ := hrel
        obtain ⟨d0, d1, d2⟩ := hU.three
        by_cases hlt5 : t < T
        · have h5 : (t : Int) < (T : Int) := by omega
          have h50 : (0 : Int) ≤ (t : Int) := by omega
          obtain ⟨st, hst, st16, stt, stn, tbN⟩ := st_ex HPL.out HN.out h5
          have S0 := Lib.hid (fun W => status_any (P : Int) T R (t : Int) W)
          have S1 := Lib.hid (fun W => ack_any (P : Int) T R (t : Int) W)
          have S2 := Lib.hid (fun W => result_any (P : Int) T R (t : Int) W)
          have S3 := Lib.hid (fun W => head_any (P : Int) T R (t : Int) W)
          have S4 := Lib.hid (fun W => tail_any (P : Int) T R (t : Int) W)
          have SL := Lib.hid (fun (i : Nat) (hi : (i : Int) < (R : Int)) W => slot_any (P : Int) T R (t : Int) (i : Int) W ⟨by omega, by omega⟩)
          rw [own_at' HPL.out h50 h5, hst] at S0 S1 S2 S3 S4
          have SLR := Lib.hid (fun (i : Nat) (hi : (i : Int) < (R : Int)) => (slot_at HPL.out h50 h5 (show (0 : Int) ≤ (i : Int) by omega) hi).trans (by rw [hst]))
          rw [hst] at hF
          have ST := Lib.hid (And.intro stt (And.intro stn tbN))
          have st4 : (st : Int) + (5 + (R : Int)) < 4096 := by omega
          clear hst stt stn tbN
          go_wp2_with fail
          go_region_held3 (fun W => (W.cell? ⟨b, 0, none⟩ = some (.int .i64 (P : Int)) ∧ W.cell? ⟨b, 1, none⟩ = some (.int .i64 (T : Int)) ∧ W.cell? ⟨b, 2, none⟩ = some (.int .i64 (R : Int))))
            (first | (with_reducible exact UsS.three (by assumption)) | exact UsS.three (UsS.drew hU) | (with_reducible exact UsS.three (UsS.alloc (by assumption) _)))
            (first | (go_at_call 17; refine (S0.out _).mono ?_; rintro e w13 ⟨rfl, hb13⟩; have hS13 := UsS.grew (by first | assumption | exact UsS.drew hU) hb13) | (go_at_call 18; refine (S1.out _).mono ?_; rintro e w13 ⟨rfl, hb13⟩; have hS13 := UsS.grew (by first | assumption | exact UsS.drew hU) hb13) | (go_at_call 19; refine (S2.out _).mono ?_; rintro e w13 ⟨rfl, hb13⟩; have hS13 := UsS.grew (by first | assumption | exact UsS.drew hU) hb13) | (go_at_call 20; refine (S3.out _).mono ?_; rintro e w13 ⟨rfl, hb13⟩; have hS13 := UsS.grew (by first | assumption | exact UsS.drew hU) hb13) | (go_at_call 21; refine (S4.out _).mono ?_; rintro e w13 ⟨rfl, hb13⟩; have hS13 := UsS.grew (by first | assumption | exact UsS.drew hU) hb13))
          have hS13 : UsS w b g P T R N U w13 := by assumption
          clear hU S0 S1 S2 S3 S4 d0 d1 d2
          have hown0 := World.ownsRow_lit (base := w13.heap.size) (e := 3) (size := 1) w13 #[.int .i64 (st : Int), .int .i64 ((st : Int) + 1), .int .i64 ((st : Int) + 2), .int .i64 ((st : Int) + 3), .int .i64 ((st : Int) + 4)] 5 (Nat.le_refl _) (by unfold maxLen; omega) rfl
          have hown : (w13.alloc (.cells #[.int .i64 (st : Int), .int .i64 ((st : Int) + 1), .int .i64 ((st : Int) + 2), .int .i64 ((st : Int) + 3), .int .i64 ((st : Int) + 4)] 3)).ownsRow w13.heap.size 3 1 (.slice (some ⟨w13.heap.size, 0, none⟩) 5 5) (5 + 0) ((tlL st (5 + 0)).map (Value.int .i64)) := by rw [show 5 + 0 = 5 from rfl, tlL_five]; exact hown0
          have hOW := Lib.hid hown
          have hU := hS13.alloc (.cells #[.int .i64 (st : Int), .int .i64 ((st : Int) + 1), .int .i64 ((st : Int) + 2), .int .i64 ((st : Int) + 3), .int .i64 ((st : Int) + 4)] 3)
          have bl := hS13.plan.lt
          have gl := hS13.row.lt
          have wl := hS13.bel.size
          have hbsw : w13.heap.size ≤ (w13.alloc (.cells #[.int .i64 (st : Int), .int .i64 ((st : Int) + 1), .int .i64 ((st : Int) + 2), .int .i64 ((st : Int) + 3), .int .i64 ((st : Int) + 4)] 3)).heap.size := by simp
          clear hown0 hown hS13
          generalize w13.heap.size = bs at *
          go_wp2_with fail
          generalize World.alloc w13 _ = wt at *
          obtain ⟨i0, hi, hz0, hz1, hz2⟩ := info_parts info_ints
          have Z := Lib.hid (And.intro hi (And.intro hz0 (And.intro hz1 hz2)))
          clear hi hz0 hz1 hz2
          go_loopw [27, 28] (fun l s28 wr => ∃ i : Nat, i ≤ R ∧ s28 = .int .i64 i ∧ wr.ownsRow bs 3 1 l (5 + i) ((tlL st (5 + i)).map (Value.int .i64)) ∧ UsS w b g P T R N U wr ∧ bs ≤ wr.heap.size) (fun _ i _ => R - (intOf i).toNat)
          case atStart => exact ⟨0, by omega, rfl, hOW.out, hU, hbsw⟩
          case round =>
            clear hOW hU hbsw
            obtain ⟨i, hi, rfl, hown, hU, hbsw⟩ := hrel
            by_cases hlt6 : i < R
            · have h6 : (i : Int) < (R : Int) := by omega
              have h60 : (0 : Int) ≤ (i : Int) := by omega
              have SL1 := Lib.hid (fun W => SL.out i h6 W)
              rw [SLR.out i h6] at SL1
              have e5 : (st : Int) + (5 + (i : Int)) = (st : Int) + ((5 + i : Nat) : Int) := by omega
              obtain ⟨d0, d1, d2⟩ := hU.three
              clear SL SLR
              go_wp2_with fail
              refine (SL1.out _).mono ?_
              rintro e w16 ⟨rfl, hb16⟩
              have hU16 := hU.grew hb16
              have hown4 := own_below hown hb16
              have E5 := Lib.hid e5
              have hz16 := hU16.bel.size
              have bs16 : bs ≤ w16.heap.size := by have := hb16.size; omega
              clear hU hown d0 d1 d2 e5
              go_wp2_with (at_builtin; refine wpList_append_own _ rfl _ _ 22 rfl bs 3 i0 (.int .i64 0) 1 8 Tryd.underlying22 Z.out.1 Z.out.2.1 Z.out.2.2.1 Z.out.2.2.2 rfl (by decide) _ _ _ rfl (hown4.alloc _) ⟨w16.heap.size, 0, none⟩ 1 1 [.int .i64 ((st : Int) + (5 + (i : Int)))] rfl rfl (cell_one_new _ _ _) ?c2 ?c3 ?c4 ?c5 ?_)
              case c2 => simp [Value.oneCell']
              case c3 => unfold maxLen; omega
              case c4 => omega
              case c5 => simp; omega
              intro v' w17 hown5 hgrow _
              have hU17 := (hU16.alloc _).grown hgrow (fun k e => (hown4.lt k e).1) bl gl wl
              have hbs17 := hgrow.size
              have hown6 : w17.ownsRow bs 3 1 v' (5 + (i + 1)) ((tlL st (5 + (i + 1))).map (Value.int .i64)) := by
                rw [show 5 + (i + 1) = 5 + i + 1 by omega, tlL_more, List.map_append, ← E5.out]
                exact hown5
              clear hown5 hgrow hown4 hU16 hb16 E5 SL1
              have hbs18 : bs ≤ w17.heap.size := by simp at hbs17; omega
              clear hbs17
              go_wp2
              go_roundw
              case rel => exact ⟨i + 1, by omega, by go_num, hown6, hU17, hbs18⟩
              case measure => simp [intOf]; omega
            · obtain rfl : i = R := by omega
              obtain ⟨d0, d1, d2⟩ := hU.three
              obtain ⟨h, lc, cs, rfl, hbh, htab, hel⟩ := own_tab hown (by omega)
              have hS : TbS w b g h P T i N U cs wr := ⟨hU, htab, by omega⟩
              have HS := Lib.hid hS
              have hF1 : Hid (Thz (T : Int) i ((st : Int) + ((0 : Nat) : Int)) U) := Lib.hid (by simpa using hF.out)
              have HEL := Lib.hid hel
              have hm : ((5 + i : Nat) : Int) = 5 + (i : Int) := by omega
              have HM := Lib.hid hm
              have hm21 : 5 + i ≤ 21 := by omega
              clear hown hU hS hF hel htab hm SL SLR
              generalize 5 + i = m at *
              go_wp2_with fail
              clear d0 d1 d2
              go_loopw [29] (fun s29 wr => ∃ (k : Nat) (U : Int → Int), k ≤ m ∧ s29 = .int .i64 k ∧ Hid (Thz (T : Int) i ((st : Int) + (k : Int)) U) ∧ TbS w b g h P T i N U cs wr) (fun k _ => m - (intOf k).toNat)
              case atStart => exact ⟨0, _, by omega, rfl, hF1, HS.out⟩
              case round =>
                clear HS hF1
                obtain ⟨k, U, hk, rfl, hF, hS⟩ := hrel
                by_cases hlt7 : k < m
                · have h7 : (k : Int) < (m : Int) := by omega
                  have h70 : (0 : Int) ≤ (k : Int) := by omega
                  obtain ⟨a, ha⟩ : ∃ a : Nat, (a : Int) = (st : Int) + (k : Int) := ⟨st + k, by omega⟩
                  have hai : (a : Int) < tabI (T : Int) i ∧ (a : Int) < (N : Int) ∧ 16 ≤ (a : Int) := by
                    have h1 := ST.out.1
                    have h2 := ST.out.2.2
                    have h3 := HM.out
                    omega
                  obtain ⟨hu0, hF1⟩ := hF.out.next ha hai.1
                  have HF1 := Lib.hid hF1
                  have e1 := HEL.out k hlt7
                  rw [← ha] at e1
                  obtain ⟨_, d3, d4⟩ := hS.five e1 (show a < N by omega) hu0
                  have u2 := hS.us.row.frozen a
                  obtain ⟨_, y3, y1⟩ := hai
                  have y1 : ¬ (a : Int) < 16 := by omega
                  have y2 : ¬ (N : Int) ≤ (a : Int) := by omega
                  have y4 : (0 : Int) ≤ (a : Int) := by omega
                  clear hF hF1 e1 hu0 ha
                  go_wp2
                  go_roundw
                  case rel => exact ⟨k + 1, _, by omega, by go_num, HF1, hS.put a⟩
                  case measure => simp [intOf]; omega
                · obtain rfl : k = m := by omega
                  have hF1 : Hid (Thz (T : Int) i (16 + ((t + 1 : Nat) : Int) * (5 + (i : Int))) U) := by
                    rw [ST.out.2.1, ← HM.out]
                    exact hF
                  have hU := hS.us
                  clear hF hS
                  go_wp2
                  go_roundw
                  case rel => exact ⟨t + 1, _, by omega, by go_num, hF1, hU⟩
                  case measure => simp [intOf]; omega
        · go_wp2
          go_ret
          exact ⟨rfl, hU.bel⟩
end Go.Proofs.YtcjkachlahjbiaaDoor
