/- What mask.Of returns at every list of places: the set, or the error. Condition: the list is not long. -/
import Derived.Test.YtbpgnhakphpobaaDoorBitm
import Derived.Deep.RegionWith
namespace Go.Proofs.YtbpgnhakphpobaaDoor
open Go.RowKit
set_option linter.unusedVariables false

def okPl (p : Int) : Bool := decide (0 ≤ p ∧ p < 65536)
def ofStep (L : List Int) (p : Int) : List Int := L.set (p.toNat / 64) (bits .or .u64 (L.getD (p.toNat / 64) 0) (mbitI p.toNat))
def ofW (ps : List Int) : Nat := ps.foldl (fun m p => max m (p.toNat / 64 + 1)) 0
def ofL (ps : List Int) : List Int := ps.foldl ofStep (List.replicate (ofW ps) 0)
theorem take_step {β : Type} (f : β → Int → β) (b : β) (ps : List Int) (k : Nat) (h : k < ps.length) : (ps.take (k + 1)).foldl f b = f ((ps.take k).foldl f b) (ps.getD k 0) := by
  rw [List.take_succ_eq_append_getElem h, List.foldl_append]
  simp [List.getD_eq_getElem?_getD, h]
theorem ofStep_len (L : List Int) (p : Int) : (ofStep L p).length = L.length := by simp [ofStep]
theorem ofFold_len (ps : List Int) : ∀ L : List Int, (ps.foldl ofStep L).length = L.length := by
  induction ps with
  | nil => exact fun L => rfl
  | cons p ps ih => exact fun L => by rw [List.foldl_cons, ih, ofStep_len]
theorem ofW_le (ps : List Int) : ∀ k, k ≤ ps.length → (∀ j, j < k → okPl (ps.getD j 0) = true) → ofW (ps.take k) ≤ 1024 ∧ ofW (ps.take k) ≤ ofW ps ∧ ∀ j, j < k → (ps.getD j 0).toNat / 64 < ofW (ps.take k) := by
  intro k
  have mono : ∀ (qs : List Int) (m : Nat), m ≤ qs.foldl (fun m p => max m (p.toNat / 64 + 1)) m := by
    intro qs
    induction qs with
    | nil => exact fun m => Nat.le_refl _
    | cons p qs ih => exact fun m => Nat.le_trans (Nat.le_max_left _ _) (ih _)
  induction k with
  | zero => exact fun _ _ => ⟨by simp [ofW], by simp [ofW], fun j hj => by omega⟩
  | succ k ih =>
    intro hk h
    obtain ⟨h1, h2, h3⟩ := ih (by omega) (fun j hj => h j (by omega))
    have e : ofW (ps.take (k + 1)) = max (ofW (ps.take k)) ((ps.getD k 0).toNat / 64 + 1) := take_step _ _ ps k (by omega)
    have ho := of_decide_eq_true (h k (by omega))
    refine ⟨by rw [e]; omega, ?_, fun j hj => ?_⟩
    · have := mono (ps.drop (k + 1)) (ofW (ps.take (k + 1)))
      have e2 : ofW ps = (ps.drop (k + 1)).foldl (fun m p => max m (p.toNat / 64 + 1)) (ofW (ps.take (k + 1))) := by
        unfold ofW
        rw [← List.foldl_append, List.take_append_drop]
      rw [e2]; exact this
    · rw [e]
      by_cases hjk : j = k
      · subst hjk; omega
      · have := h3 j (by omega); omega
theorem lst_form {kk : IntKind} {w : World} {v : Value} {l : List Int} (h : Lst kk w v l) : ∃ a cap, v = .slice a l.length cap ∧ (0 < l.length → ∃ b o, a = some ⟨b, o, none⟩ ∧ ∀ i, i < l.length → w.cell? ⟨b, o + i, none⟩ = some (.int kk (l.getD i 0))) := by
  rcases h with ⟨rfl, a, cap, rfl⟩ | ⟨b, o, cap, rfl, h1, h2, h3⟩
  · exact ⟨a, cap, rfl, fun h => absurd h (by simp)⟩
  · exact ⟨_, cap, rfl, fun _ => ⟨b, o, rfl, h3⟩⟩
set_option maxHeartbeats 400000 in
theorem fits_no (p : Int) (w : World) (h : okPl p = false) :
    Calls Tryd.prog 19 #[.int .i64 p] w fun e w' => e = .returned (.bool false) ∧ Quiet w w' := by
  have h := of_decide_eq_false h
  by_cases h0 : 0 ≤ p
  · have h1 : ¬ p < 65536 := by omega
    clear h
    go_enter Tryd.func19, Tryd.ntmps19
    go_wp2
    go_ret
    exact ⟨rfl, Quiet.refl _⟩
  · clear h
    go_enter Tryd.func19, Tryd.ntmps19
    go_wp2
    go_ret
    exact ⟨rfl, Quiet.refl _⟩
def OfPost (ps : List Int) (w : World) (e : Ending) (w' : World) : Prop :=
  ((∀ k, k < ps.length → okPl (ps.getD k 0) = true) ∧ ∃ g, e = .returned (.tuple #[.slice (some ⟨g, 0, none⟩) (ofW ps) (ofW ps), .int .i64 0]) ∧ Blk w' g ((ofL ps).map (Value.int .u64)).toArray 24 ∧ w.heap.size ≤ g ∧ Below w.heap.size w w') ∨
  ((∃ k, k < ps.length ∧ okPl (ps.getD k 0) = false) ∧ e = .returned (.tuple #[.slice none 0 0, .int .i64 1]) ∧ Below w.heap.size w w')
set_option maxRecDepth 100000 in
set_option maxHeartbeats 2000000 in
theorem of_any (v : Value) (ps : List Int) (w : World) (h : Lst .i64 w v ps) (hm : ps.length ≤ 1000000) :
    Calls Tryd.prog 10 #[v] w (OfPost ps w) := by
  obtain ⟨a, cap, rfl, hcell⟩ := lst_form h
  have HC := Lib.hid hcell
  have FY := Lib.hid (fun (p : Nat) W (h : p < 65536) => fits_yes p W h)
  have FN := Lib.hid (fun (p : Int) W h => fits_no p W h)
  have BB := Lib.hid (fun (p : Nat) W (h : p < 1000000) => mbit_any p W h)
  have MK := Lib.hid (fun W (n : Nat) (h : n ≤ 4096) => run_mk W n (by omega) (by omega))
  generalize hn : ps.length = n at *
  have HN := Lib.hid hn
  clear hcell h hn
  go_enter Tryd.func10, Tryd.ntmps10
  go_wp2
  go_loopw [4, 12] (fun m i wr => ∃ k : Nat, k ≤ n ∧ i = .int .i64 k ∧ m = .int .i64 (ofW (ps.take k)) ∧ Hid (∀ j, j < k → okPl (ps.getD j 0) = true) ∧ Quiet w wr) (fun _ i _ => n - (intOf i).toNat)
  case atStart => exact ⟨0, Nat.zero_le _, rfl, rfl, Lib.hid (fun j hj => by omega), Quiet.refl _⟩
  case round =>
    obtain ⟨k, hk, rfl, rfl, hok, hQ⟩ := hrel
    by_cases hlt : k < n
    · have h1 : (k : Int) < (n : Int) := by omega
      have h0 : (0 : Int) ≤ (k : Int) := by omega
      obtain ⟨b, o, rfl, hc⟩ := HC.out (by omega)
      have hck := (hQ.cell _).trans (hc k (by omega))
      have HT := Lib.hid (take_step (fun m p => max m (p.toNat / 64 + 1)) 0 ps k (by rw [HN.out]; exact hlt))
      cases hz : okPl (ps.getD k 0) with
      | false =>
        have HZ := Lib.hid hz
        have HB : Hid (∃ k, k < ps.length ∧ okPl (ps.getD k 0) = false) := Lib.hid ⟨k, by rw [HN.out]; exact hlt, hz⟩
        generalize ps.getD k 0 = z at *
        clear hc hz HC
        go_wp2_with fail
        refine (FN.out z _ HZ.out).mono ?_
        rintro e w1 ⟨rfl, hQ1⟩
        go_wp2
        go_ret2
        exact .inr ⟨HB.out, rfl, (hQ.trans hQ1).below⟩
      | true =>
        have ho := of_decide_eq_true hz
        have HO : Hid (∀ j, j < k + 1 → okPl (ps.getD j 0) = true) := Lib.hid (fun j hj => by
          by_cases e : j = k
          · subst e; exact hz
          · exact hok.out j (by omega))
        obtain ⟨p, hp⟩ := Int.eq_ofNat_of_zero_le ho.1
        rw [hp] at hck ho
        have hp1 : (p : Int) < 65536 := ho.2
        have hp0 : (0 : Int) ≤ (p : Int) := ho.1
        have e2 : ofW (ps.take (k + 1)) = max (ofW (ps.take k)) (p / 64 + 1) := by
          have := HT.out
          rw [hp] at this
          exact this
        have E2 := Lib.hid e2
        have hwl := (ofW_le ps k (by rw [HN.out]; exact hk) hok.out).1
        generalize ofW (ps.take k) = M at *
        have hq : (p : Int) / 64 = ((p / 64 : Nat) : Int) := by omega
        have hmx : max (M : Int) (((p / 64 : Nat) : Int) + 1) = ((max M (p / 64 + 1) : Nat) : Int) := by omega
        have hq1 : ((p / 64 : Nat) : Int) < 2000 := by omega
        have hq0 : (0 : Int) ≤ ((p / 64 : Nat) : Int) := by omega
        generalize p / 64 = q at *
        clear hc hz HC e2 ho HT
        go_wp2_with fail
        refine (FY.out p _ (by omega)).mono ?_
        rintro e w1 ⟨rfl, hQ1⟩
        go_wp2
        go_roundw
        case rel => exact ⟨k + 1, by omega, by go_num, by rw [E2.out], HO, hQ.trans hQ1⟩
        case measure => simp [intOf]; omega
    · obtain rfl : k = n := by omega
      generalize wr = wx at *
      have hall : ∀ j, j < ps.length → okPl (ps.getD j 0) = true := fun j hj => hok.out j (by rw [← HN.out]; exact hj)
      obtain ⟨g1, g2, g3⟩ := ofW_le ps k (by rw [HN.out]; exact Nat.le_refl _) hok.out
      have htk : ps.take k = ps := List.take_of_length_le (by rw [HN.out]; exact Nat.le_refl _)
      rw [htk] at g1 g3 ⊢
      have HG := Lib.hid (And.intro hall g3)
      clear hok htk g2 g3 hall
      have HFl := Lib.hid (fun j (hj : j < ps.length) => take_step ofStep (List.replicate (ofW ps) 0) ps j hj)
      have HFn : Hid ((ps.take k).foldl ofStep (List.replicate (ofW ps) 0) = ofL ps) := Lib.hid (by unfold ofL; rw [List.take_of_length_le (by rw [HN.out]; exact Nat.le_refl _)])
      have HFlen := Lib.hid (fun j => (ofFold_len (ps.take j) (List.replicate (ofW ps) 0)).trans (List.length_replicate))
      have HF0 : Hid ((ps.take 0).foldl ofStep (List.replicate (ofW ps) 0) = List.replicate (ofW ps) 0) := Lib.hid rfl
      have HOl : Hid ((ofL ps).length = ofW ps) := Lib.hid (by unfold ofL; rw [ofFold_len, List.length_replicate])
      generalize hL : (fun j => (ps.take j).foldl ofStep (List.replicate (ofW ps) 0)) = LF at *
      have hLj : ∀ j, (ps.take j).foldl ofStep (List.replicate (ofW ps) 0) = LF j := fun j => by rw [← hL]
      simp only [hLj] at HFl HFn HFlen HF0
      clear hL hLj
      generalize hOLe : ofL ps = OL at *
      have HOLe := Lib.hid hOLe
      clear hOLe
      generalize hMe : ofW ps = M at *
      have HMe := Lib.hid hMe
      clear hMe
      have hmk := fun W => MK.out W M (by omega)
      have hM0 : (0 : Int) ≤ (M : Int) := by omega
      go_wp2
      clear hmk MK
      have hG0 : Blk (wx.alloc (.cells (zeros M) 24)) wx.heap.size ((LF 0).map (Value.int .u64)).toArray 24 := by rw [HF0.out]; exact Blk.new _ _ _
      go_loopw [29] (fun i wq => ∃ j : Nat, j ≤ k ∧ i = .int .i64 j ∧ Blk wq wx.heap.size ((LF j).map (Value.int .u64)).toArray 24 ∧ Below wx.heap.size wx wq) (fun i _ => k - (intOf i).toNat)
      case atStart => exact ⟨0, Nat.zero_le _, rfl, hG0, (Below.refl _ _).alloc (Nat.le_refl _) _⟩
      case round =>
        obtain ⟨j, hj, rfl, hB, hb⟩ := hrel
        clear hG0
        by_cases hlt : j < k
        · have h1 : (j : Int) < (k : Int) := by omega
          have h0 : (0 : Int) ≤ (j : Int) := by omega
          obtain ⟨b, o, rfl, hc⟩ := HC.out (by omega)
          have hck := (hb.cell (p := ⟨b, o + j, none⟩) (World.block_lt_of_cell? wx _ ((hQ.cell _).trans (hc j hlt)))).trans ((hQ.cell _).trans (hc j hlt))
          have ho := of_decide_eq_true (HG.out.1 j (by rw [HN.out]; exact hlt))
          have hqM := HG.out.2 j hlt
          have HT := HFl.out j (by rw [HN.out]; exact hlt)
          obtain ⟨p, hp⟩ := Int.eq_ofNat_of_zero_le ho.1
          rw [hp] at hck ho hqM HT
          have hp0 : (0 : Int) ≤ (p : Int) := ho.1
          have hp1 : (p : Int) < 65536 := ho.2
          have hlen := HFlen.out j
          have e3 : LF (j + 1) = (LF j).set (p / 64) (bits .or .u64 ((LF j).getD (p / 64) 0) (mbitI p)) := HT
          have HT3 := Lib.hid e3
          have hqM : p / 64 < M := by simpa using hqM
          have hcw := blk_word hB (p / 64) (by rw [hlen]; exact hqM)
          have hf := hB.frozen (p / 64)
          have BQ := Lib.hid (fun W => BB.out p W (by omega))
          generalize (LF j).getD (p / 64) 0 = z at *
          generalize mbitI p = y at *
          have hq : (p : Int) / 64 = ((p / 64 : Nat) : Int) := by omega
          have hqM' : ((p / 64 : Nat) : Int) < (M : Int) := by omega
          have hq0 : (0 : Int) ≤ ((p / 64 : Nat) : Int) := by omega
          have hqi : IntKind.i64.wrap ((p / 64 : Nat) : Int) = ((p / 64 : Nat) : Int) := IntWalk.i64_in _ (by omega)
          generalize p / 64 = q at *
          clear e3 HT ho hc HC HFl
          go_wp2_with fail
          go_region_with (go_at_call 20; refine (BQ.out _).mono ?_; rintro e w3 ⟨rfl, n3, rfl⟩)
          all_goals
            go_wp2
            go_roundw
            case rel =>
              refine ⟨j + 1, by omega, by go_num, ?_, ?_⟩
              · rw [HT3.out]
                repeat (first | exact blk_set hB _ _ | exact blk_set (Blk.drewN hB _) _ _ | exact blk_set (Blk.drew hB) _ _ | refine Blk.drew ?_ | refine Blk.drewN ?_ _)
              · repeat (first | exact hb | refine Below.setCell (p := ⟨wx.heap.size, q, none⟩) ?_ (Nat.le_refl wx.heap.size) _ | refine Below.drew ?_ | refine below_drewN ?_ _)
            case measure => simp [intOf]; omega
        · obtain rfl : j = k := by omega
          have hlenn := HOl.out
          rw [HFn.out] at hB
          clear HC HFl
          go_wp2
          go_ret2
          exact .inl ⟨HG.out.1, wx.heap.size, by rw [HMe.out]; rfl, by rw [HOLe.out]; exact hB, hQ.below (B := 0) |>.size, (hQ.below.trans (hb.mono (hQ.below (B := 0)).size))⟩
end Go.Proofs.YtbpgnhakphpobaaDoor
