/- What the document's Of returns at every list of places: the set, or the error. Conditions: the list is not long, so many words at least are not many. -/
import Derived.Test.YtalhlbedgkhijaaDoorMrhas
import Derived.Test.YtalhlbedgkhijaaDoorMbit
import Derived.Deep.RegionWith
namespace Go.Proofs.YtalhlbedgkhijaaDoor
open Go.RowKit
set_option linter.unusedVariables false

def ofW0 (ps : List Int) (m : Nat) : Nat := ps.foldl (fun m p => max m (p.toNat / 64 + 1)) m
def ofL0 (ps : List Int) (m : Nat) : List Int := ps.foldl ofStep (List.replicate (ofW0 ps m) 0)
theorem ofW0_le (ps : List Int) (m : Nat) : ∀ k, k ≤ ps.length → (∀ j, j < k → okPl (ps.getD j 0) = true) → ofW0 (ps.take k) m ≤ max m 1024 ∧ ofW0 (ps.take k) m ≤ ofW0 ps m ∧ ∀ j, j < k → (ps.getD j 0).toNat / 64 < ofW0 (ps.take k) m := by
  intro k
  have mono : ∀ (qs : List Int) (m : Nat), m ≤ qs.foldl (fun m p => max m (p.toNat / 64 + 1)) m := by
    intro qs
    induction qs with
    | nil => exact fun m => Nat.le_refl _
    | cons p qs ih => exact fun m => Nat.le_trans (Nat.le_max_left _ _) (ih _)
  induction k with
  | zero => exact fun _ _ => ⟨by simp [ofW0]; omega, by simpa [ofW0] using mono ps m, fun j hj => by omega⟩
  | succ k ih =>
    intro hk h
    obtain ⟨h1, h2, h3⟩ := ih (by omega) (fun j hj => h j (by omega))
    have e : ofW0 (ps.take (k + 1)) m = max (ofW0 (ps.take k) m) ((ps.getD k 0).toNat / 64 + 1) := take_step _ _ ps k (by omega)
    have ho := of_decide_eq_true (h k (by omega))
    refine ⟨by rw [e]; omega, ?_, fun j hj => ?_⟩
    · have := mono (ps.drop (k + 1)) (ofW0 (ps.take (k + 1)) m)
      have e2 : ofW0 ps m = (ps.drop (k + 1)).foldl (fun m p => max m (p.toNat / 64 + 1)) (ofW0 (ps.take (k + 1)) m) := by
        unfold ofW0
        rw [← List.foldl_append, List.take_append_drop]
      rw [e2]; exact this
    · rw [e]
      by_cases hjk : j = k
      · subst hjk; omega
      · have := h3 j (by omega); omega
theorem lowmod (X r : Nat) (h : X.testBit r = false) : X % 2 ^ (r + 1) < 2 ^ r := by
  apply Nat.lt_pow_two_of_testBit
  intro i hi
  rw [Nat.testBit_mod_two_pow]
  by_cases e : i = r
  · subst e; rw [h]; simp
  · simp [show ¬ i < r + 1 by omega]
theorem add_bit (X r : Nat) (h : X.testBit r = false) : X + 2 ^ r = X ||| 2 ^ r := by
  have h1 := Nat.div_add_mod X (2 ^ (r + 1))
  have h2 := lowmod X r h
  generalize X / 2 ^ (r + 1) = q at *
  generalize X % 2 ^ (r + 1) = m at *
  have hp : 2 ^ (r + 1) = 2 ^ r * 2 := Nat.pow_succ ..
  have e : X + 2 ^ r = 2 ^ (r + 1) * q + (2 ^ r * 1 + m) := by omega
  rw [e]
  apply Nat.eq_of_testBit_eq
  intro j
  rw [← h1, Nat.testBit_or, Nat.testBit_two_pow, Nat.testBit_two_pow_mul_add _ (show m < 2 ^ (r + 1) by omega), Nat.testBit_two_pow_mul_add _ (show 2 ^ r * 1 + m < 2 ^ (r + 1) by omega)]
  by_cases hj : j < r + 1
  · simp only [hj, if_true]
    rw [Nat.testBit_two_pow_mul_add _ h2]
    by_cases hr : j < r
    · simp [hr, show ¬ r = j by omega]
    · obtain rfl : j = r := by omega
      simp
  · simp [hj, show ¬ r = j by omega]
theorem or_one {x : Int} (hx : U64 x) (p : Nat) (h : tbI x (p % 64) = true) : bits .or .u64 x (mbitI p) = x :=
  tb_ext (or_U64 hx (bitI_U64 p)) hx (fun k => by
    rw [tb_or hx (bitI_U64 p), tb_bit]
    by_cases e : k = p % 64
    · subst e; rw [h]; rfl
    · simp [e])
theorem or_no {x : Int} (hx : U64 x) (p : Nat) (h : tbI x (p % 64) = false) : IntKind.u64.wrap (x + powI ((p % 64 : Nat) : Int)) = bits .or .u64 x (mbitI p) := by
  have hu := or_U64 hx (bitI_U64 p)
  obtain ⟨X, rfl⟩ := Int.eq_ofNat_of_zero_le hx.1
  have hX : X < 2 ^ 64 := by have := hx.2; omega
  have hb : 2 ^ (p % 64) < 2 ^ 64 := Nat.pow_lt_pow_right (by decide) (Nat.mod_lt _ (by decide))
  have e : bits .or .u64 (X : Int) (mbitI p) = ((X + 2 ^ (p % 64) : Nat) : Int) := by
    unfold mbitI
    rw [bits_or_u64_nat _ _ hX hb, add_bit X (p % 64) (by simpa [tbI] using h)]
  have e2 : (X : Int) + powI ((p % 64 : Nat) : Int) = ((X + 2 ^ (p % 64) : Nat) : Int) := by
    unfold powI; rw [Int.toNat_natCast]; omega
  rw [e] at hu ⊢
  rw [e2]
  generalize X + 2 ^ (p % 64) = Y at *
  rw [IntKind.wrap_u64]
  have h1 := hu.1; have h2 := hu.2
  omega
theorem ofStep_U {L : List Int} (h : ∀ z ∈ L, U64 z) (p : Int) : ∀ z ∈ ofStep L p, U64 z := set_U64 h _ (or_U64 (getD_U64 h _) (bitI_U64 _))
theorem ofFold_U (ps : List Int) : ∀ L : List Int, (∀ z ∈ L, U64 z) → ∀ z ∈ ps.foldl ofStep L, U64 z := by
  induction ps with
  | nil => exact fun L h => h
  | cons p ps ih => exact fun L h => ih _ (ofStep_U h p)
theorem zeros_U (n : Nat) : ∀ z ∈ List.replicate n (0 : Int), U64 z := fun z hz => by rw [List.eq_of_mem_replicate hz]; exact ⟨by decide, by decide⟩
theorem set_same (L : List Int) (q : Nat) (h : q < L.length) : L.set q (L.getD q 0) = L := by
  apply List.ext_getElem
  · simp
  · intro i h1 h2
    rw [List.getElem_set]
    by_cases e : q = i
    · subst e; simp [List.getD_eq_getElem?_getD, h]
    · simp [e]
def ROfPost (ps : List Int) (m : Nat) (w : World) (e : Ending) (w' : World) : Prop :=
  ((∀ k, k < ps.length → okPl (ps.getD k 0) = true) ∧ ∃ g, e = .returned (.tuple #[.slice (some ⟨g, 0, none⟩) (ofW0 ps m) (ofW0 ps m), .int .i64 0]) ∧ Blk w' g ((ofL0 ps m).map (Value.int .u64)).toArray 33 ∧ w.heap.size ≤ g ∧ Below w.heap.size w w') ∨
  ((∃ k, k < ps.length ∧ okPl (ps.getD k 0) = false) ∧ e = .returned (.tuple #[.slice none 0 0, .int .i64 1]) ∧ Below w.heap.size w w')
set_option maxRecDepth 100000 in
set_option maxHeartbeats 4000000 in
theorem rof_any (v : Value) (ps : List Int) (m0 : Nat) (w : World) (h : Lst .i64 w v ps) (hm : ps.length ≤ 1000000) (hm0 : m0 ≤ 1024) :
    Calls Tryd.prog 32 #[v, .int .i64 m0] w (ROfPost ps m0 w) := by
  obtain ⟨a, cap, rfl, hcell⟩ := lst_form h
  have HC := Lib.hid hcell
  have PO := Lib.hid (fun (i : Int) W (h : i ≤ 63) => power_any i W h)
  have BT := Lib.hid (fun (x : Int) (i : Int) W (h : U64 x) (h2 : i ≤ 63) => bit_any x i W h h2)
  have MK := Lib.hid (fun W (n : Nat) (h : n ≤ 4096) => run_mk W n (by omega) (by omega))
  generalize hn : ps.length = n at *
  have HN := Lib.hid hn
  clear hcell h hn
  go_enter Tryd.func32, Tryd.ntmps32
  go_wp2
  go_loopw [1, 6] (fun m i wr => ∃ k : Nat, k ≤ n ∧ i = .int .i64 k ∧ m = .int .i64 (ofW0 (ps.take k) m0) ∧ Hid (∀ j, j < k → okPl (ps.getD j 0) = true) ∧ Quiet w wr) (fun _ i _ => n - (intOf i).toNat)
  case atStart => exact ⟨0, Nat.zero_le _, rfl, rfl, Lib.hid (fun j hj => by omega), Quiet.refl _⟩
  case round =>
    obtain ⟨k, hk, rfl, rfl, hok, hQ⟩ := hrel
    by_cases hlt : k < n
    · have h1 : (k : Int) < (n : Int) := by omega
      have h0 : (0 : Int) ≤ (k : Int) := by omega
      have hkb : (k : Int) + 1 < 2000000 := by omega
      obtain ⟨b, o, rfl, hc⟩ := HC.out (by omega)
      have hck := (hQ.cell _).trans (hc k (by omega))
      have HT := Lib.hid (take_step (fun m p => max m (p.toNat / 64 + 1)) m0 ps k (by rw [HN.out]; exact hlt))
      cases hz : okPl (ps.getD k 0) with
      | false =>
        have HB : Hid (∃ k, k < ps.length ∧ okPl (ps.getD k 0) = false) := Lib.hid ⟨k, by rw [HN.out]; exact hlt, hz⟩
        have hz := of_decide_eq_false hz
        generalize ps.getD k 0 = z at *
        by_cases hneg : z < 0
        · clear hc hz HC HT
          go_wp2
          go_ret2
          exact .inr ⟨HB.out, rfl, hQ.below⟩
        · have hbig : 65536 ≤ z := by omega
          clear hc hz HC HT
          go_wp2
          go_ret2
          exact .inr ⟨HB.out, rfl, hQ.below⟩
      | true =>
        have ho := of_decide_eq_true hz
        have HO : Hid (∀ j, j < k + 1 → okPl (ps.getD j 0) = true) := Lib.hid (fun j hj => by
          by_cases e : j = k
          · subst e; exact hz
          · exact hok.out j (by omega))
        obtain ⟨p, hp⟩ := Int.eq_ofNat_of_zero_le ho.1
        rw [hp] at hck ho
        have hp1 : (p : Int) < 65536 := ho.2
        have hp0 : (0 : Int) ≤ (p : Int) := ho.1
        have hpn : ¬ (p : Int) < 0 := by omega
        have hpb : ¬ 65536 ≤ (p : Int) := by omega
        have e2 : ofW0 (ps.take (k + 1)) m0 = max (ofW0 (ps.take k) m0) (p / 64 + 1) := by
          have := HT.out
          rw [hp] at this
          exact this
        have E2 := Lib.hid e2
        have hwl := (ofW0_le ps m0 k (by rw [HN.out]; exact hk) hok.out).1
        generalize ofW0 (ps.take k) m0 = M at *
        have hq : (p : Int) / 64 = ((p / 64 : Nat) : Int) := by omega
        have hq1 : ((p / 64 : Nat) : Int) < 2000 := by omega
        have hq0 : (0 : Int) ≤ ((p / 64 : Nat) : Int) := by omega
        by_cases hg : M < p / 64 + 1
        · have hg' : (M : Int) < ((p / 64 : Nat) : Int) + 1 := by omega
          have hmx : max M (p / 64 + 1) = p / 64 + 1 := by omega
          rw [hmx] at E2
          generalize p / 64 = q at *
          clear hc hz HC e2 ho HT hmx
          go_wp2
          go_roundw
          case rel => exact ⟨k + 1, by omega, by go_num, by rw [E2.out]; go_num, HO, hQ⟩
          case measure => simp [intOf]; omega
        · have hg' : ¬ (M : Int) < ((p / 64 : Nat) : Int) + 1 := by omega
          have hmx : max M (p / 64 + 1) = M := by omega
          rw [hmx] at E2
          generalize p / 64 = q at *
          clear hc hz HC e2 ho HT hmx
          go_wp2
          go_roundw
          case rel => exact ⟨k + 1, by omega, by go_num, by rw [E2.out], HO, hQ⟩
          case measure => simp [intOf]; omega
    · obtain rfl : k = n := by omega
      generalize wr = wx at *
      have hall : ∀ j, j < ps.length → okPl (ps.getD j 0) = true := fun j hj => hok.out j (by rw [← HN.out]; exact hj)
      obtain ⟨g1, g2, g3⟩ := ofW0_le ps m0 k (by rw [HN.out]; exact Nat.le_refl _) hok.out
      have htk : ps.take k = ps := List.take_of_length_le (by rw [HN.out]; exact Nat.le_refl _)
      rw [htk] at g1 g3 ⊢
      have HG := Lib.hid (And.intro hall g3)
      clear hok htk g2 g3 hall
      have HFl := Lib.hid (fun j (hj : j < ps.length) => take_step ofStep (List.replicate (ofW0 ps m0) 0) ps j hj)
      have HFn : Hid ((ps.take k).foldl ofStep (List.replicate (ofW0 ps m0) 0) = ofL0 ps m0) := Lib.hid (by unfold ofL0; rw [List.take_of_length_le (by rw [HN.out]; exact Nat.le_refl _)])
      have HFlen := Lib.hid (fun j => (ofFold_len (ps.take j) (List.replicate (ofW0 ps m0) 0)).trans (List.length_replicate))
      have HFU := Lib.hid (fun j => ofFold_U (ps.take j) (List.replicate (ofW0 ps m0) 0) (zeros_U _))
      have HF0 : Hid ((ps.take 0).foldl ofStep (List.replicate (ofW0 ps m0) 0) = List.replicate (ofW0 ps m0) 0) := Lib.hid rfl
      have HOl : Hid ((ofL0 ps m0).length = ofW0 ps m0) := Lib.hid (by unfold ofL0; rw [ofFold_len, List.length_replicate])
      generalize hL : (fun j => (ps.take j).foldl ofStep (List.replicate (ofW0 ps m0) 0)) = LF at *
      have hLj : ∀ j, (ps.take j).foldl ofStep (List.replicate (ofW0 ps m0) 0) = LF j := fun j => by rw [← hL]
      simp only [hLj] at HFl HFn HFlen HFU HF0
      clear hL hLj
      generalize hOLe : ofL0 ps m0 = OL at *
      have HOLe := Lib.hid hOLe
      clear hOLe
      generalize hMe : ofW0 ps m0 = M at *
      have HMe := Lib.hid hMe
      clear hMe
      have hmk := fun W => MK.out W M (by omega)
      have hM0 : (0 : Int) ≤ (M : Int) := by omega
      go_wp2
      clear hmk MK
      have hG0 : Blk (wx.alloc (.cells (zeros M) 33)) wx.heap.size ((LF 0).map (Value.int .u64)).toArray 33 := by rw [HF0.out]; exact Blk.new _ _ _
      go_loopw [8] (fun i wq => ∃ j : Nat, j ≤ k ∧ i = .int .i64 j ∧ Blk wq wx.heap.size ((LF j).map (Value.int .u64)).toArray 33 ∧ Below wx.heap.size wx wq) (fun i _ => k - (intOf i).toNat)
      case atStart => exact ⟨0, Nat.zero_le _, rfl, hG0, (Below.refl _ _).alloc (Nat.le_refl _) _⟩
      case round =>
        obtain ⟨j, hj, rfl, hB, hb⟩ := hrel
        clear hG0
        by_cases hlt : j < k
        · have h1 : (j : Int) < (k : Int) := by omega
          have h0 : (0 : Int) ≤ (j : Int) := by omega
          have hjb : (j : Int) + 1 < 2000000 := by omega
          obtain ⟨b, o, rfl, hc⟩ := HC.out (by omega)
          have hck := (hb.cell (p := ⟨b, o + j, none⟩) (World.block_lt_of_cell? wx _ ((hQ.cell _).trans (hc j hlt)))).trans ((hQ.cell _).trans (hc j hlt))
          have ho := of_decide_eq_true (HG.out.1 j (by rw [HN.out]; exact hlt))
          have hqM := HG.out.2 j hlt
          have HT := HFl.out j (by rw [HN.out]; exact hlt)
          obtain ⟨p, hp⟩ := Int.eq_ofNat_of_zero_le ho.1
          rw [hp] at hck ho hqM HT
          have hp0 : (0 : Int) ≤ (p : Int) := ho.1
          have hp1 : (p : Int) < 65536 := ho.2
          have hlen := HFlen.out j
          have hqM : p / 64 < M := by simpa using hqM
          have e3 : LF (j + 1) = (LF j).set (p / 64) (bits .or .u64 ((LF j).getD (p / 64) 0) (mbitI p)) := HT
          have hcw := blk_word hB (p / 64) (by rw [hlen]; exact hqM)
          have hf := hB.frozen (p / 64)
          have hzU := getD_U64 (HFU.out j) (p / 64)
          have hrr : (p : Int) % 64 = ((p % 64 : Nat) : Int) := by omega
          have hrt : (p : Int).tmod 64 = ((p % 64 : Nat) : Int) := by rw [Int.tmod_eq_emod_of_nonneg (by omega)]; exact hrr
          have hr63 : ((p % 64 : Nat) : Int) ≤ 63 := by omega
          have BQ := Lib.hid (fun W => BT.out ((LF j).getD (p / 64) 0) ((p % 64 : Nat) : Int) W hzU hr63)
          have PQ := Lib.hid (fun W => PO.out ((p % 64 : Nat) : Int) W hr63)
          have hq : (p : Int) / 64 = ((p / 64 : Nat) : Int) := by omega
          have hqM' : ((p / 64 : Nat) : Int) < (M : Int) := by omega
          have hq0 : (0 : Int) ≤ ((p / 64 : Nat) : Int) := by omega
          have hqi : IntKind.i64.wrap ((p / 64 : Nat) : Int) = ((p / 64 : Nat) : Int) := IntWalk.i64_in _ (by omega)
          have hqw : wrap64 ((p / 64 : Nat) : Int) = ((p / 64 : Nat) : Int) := by unfold wrap64; omega
          cases hbit : tbI ((LF j).getD (p / 64) 0) (p % 64) with
          | true =>
            have e4 : LF (j + 1) = LF j := by rw [e3, or_one hzU p hbit, set_same _ _ (by rw [hlen]; exact hqM)]
            have E4 := Lib.hid e4
            have hbi : bitI ((LF j).getD (p / 64) 0) ((p % 64 : Nat) : Int) = 1 := by unfold bitI; rw [Int.toNat_natCast, show ((LF j).getD (p / 64) 0).toNat.testBit (p % 64) = true from hbit]; rfl
            rw [hbi] at BQ
            generalize (LF j).getD (p / 64) 0 = z at *
            generalize p / 64 = q at *
            generalize p % 64 = r at *
            clear e3 e4 HT ho hc HC HFl hbit hbi hzU PQ
            go_wp2_with fail
            refine (BQ.out _).mono ?_
            rintro e w2 ⟨rfl, q2⟩
            have hB2 := hB.quiet q2
            have hb2 := hb.trans q2.below
            go_wp2
            go_roundw
            case rel => exact ⟨j + 1, by omega, by go_num, by rw [E4.out]; exact hB2, hb2⟩
            case measure => simp [intOf]; omega
          | false =>
            have HT3 := Lib.hid e3
            have hbi : bitI ((LF j).getD (p / 64) 0) ((p % 64 : Nat) : Int) = 0 := by unfold bitI; rw [Int.toNat_natCast, show ((LF j).getD (p / 64) 0).toNat.testBit (p % 64) = false from hbit]; rfl
            rw [hbi] at BQ
            have hpw := or_no hzU p hbit
            generalize bits .or .u64 ((LF j).getD (p / 64) 0) (mbitI p) = y at *
            generalize (LF j).getD (p / 64) 0 = z at *
            generalize powI ((p % 64 : Nat) : Int) = pw at *
            generalize p / 64 = q at *
            generalize p % 64 = r at *
            clear e3 HT ho hc HC HFl hbit hbi hzU
            go_wp2_with fail
            refine (BQ.out _).mono ?_
            rintro e w2 ⟨rfl, q2⟩
            have hB2 := hB.quiet q2
            have hb2 := hb.trans q2.below
            have hcw2 := (q2.cell _).trans hcw
            have hf2 := hB2.frozen q
            clear hB hb hcw hf q2
            go_wp2_with fail
            have qz := fun (n3 : Nat) => (show (w2.drewN n3).cell? ⟨wx.heap.size, q, none⟩ = some (.int .u64 z) from hcw2)
            have fz := fun (n3 : Nat) => (show (w2.drewN n3).frozen? ⟨wx.heap.size, q, none⟩ = false from hf2)
            go_region_law (go_simp; go_at_call 58; refine (PQ.out _).mono ?_; rintro e w3 ⟨rfl, n3, rfl⟩)
            all_goals
              go_wp2
              go_roundw
              case rel =>
                refine ⟨j + 1, by omega, by go_num, ?_, ?_⟩
                · rw [HT3.out]
                  repeat (first | exact blk_set hB2 _ _ | exact blk_set (Blk.drewN hB2 _) _ _ | exact blk_set (Blk.drew hB2) _ _ | refine Blk.drew ?_ | refine Blk.drewN ?_ _)
                · repeat (first | exact hb2 | refine Below.setCell (p := ⟨wx.heap.size, q, none⟩) ?_ (Nat.le_refl wx.heap.size) _ | refine Below.drew ?_ | refine below_drewN ?_ _)
              case measure => simp [intOf]; omega
        · obtain rfl : j = k := by omega
          have hlenn := HOl.out
          rw [HFn.out] at hB
          clear HC HFl
          go_wp2
          go_ret2
          exact .inl ⟨HG.out.1, wx.heap.size, by rw [HMe.out]; rfl, by rw [HOLe.out]; exact hB, hQ.below (B := 0) |>.size, (hQ.below.trans (hb.mono (hQ.below (B := 0)).size))⟩
end Go.Proofs.YtalhlbedgkhijaaDoor
