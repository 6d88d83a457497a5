/- Texts of this seat, one behind the other: each says at its head what it holds. No condition of its own. -/
import Derived.Test.YtecpokegmfnlaaaDoorGCodeNames04
import Derived.Test.YtecpokegmfnlaaaDoorGCodeNames05
/- The instructions' names: the table as the start lays it; Name and Find of the program and the document. Condition: the table lies so. -/
namespace Go.Proofs.YtecpokegmfnlaaaDoor
open Go.RowKit
set_option linter.unusedVariables false
def nmL : List (List UInt8) := [[], [99, 111, 110, 115, 116], [110, 117, 108, 108], [108, 111, 97, 100], [115, 116, 111, 114, 101], [100, 117, 112], [100, 114, 111, 112], [115, 119, 97, 112], [97, 100, 100], [115, 117, 98], [109, 117, 108], [100, 105, 118], [114, 101, 109], [110, 101, 103], [101, 113], [108, 101, 115, 115], [115, 97, 109, 101], [105, 115, 110, 117, 108, 108], [106, 117, 109, 112], [106, 117, 109, 112, 105, 102], [99, 97, 108, 108], [114, 101, 116, 117, 114, 110], [110, 101, 119], [110, 101, 119, 105, 110, 116, 115], [110, 101, 119, 114, 101, 102, 115], [103, 101, 116], [112, 117, 116], [99, 97, 115], [108, 101, 110], [105, 110, 116, 97, 116], [115, 101, 116, 105, 110, 116], [114, 101, 102, 97, 116], [115, 101, 116, 114, 101, 102], [103, 108, 111, 98, 97, 108], [115, 101, 116, 103, 108, 111, 98, 97, 108], [115, 112, 97, 119, 110], [106, 111, 105, 110], [111, 117, 116], [112, 111, 108, 108], [99, 111, 108, 108, 101, 99, 116]]
def nmB (k : Nat) : ByteArray := ⟨(nmL.getD k []).toArray⟩
def Nms (w : World) : Prop := ∀ j, j < 40 → w.cell? ⟨0, j, none⟩ = some (.string (nmB j))
theorem Nms.lt {w : World} (h : Nms w) : 0 < w.heap.size := World.block_lt_of_cell? w _ (h 0 (by decide))
theorem Nms.grew {w w' : World} (h : Nms w) (hb : Below w.heap.size w w') : Nms w' := fun j hj => (hb.cell (p := ⟨0, j, none⟩) h.lt).trans (h j hj)
def nameI (op : Int) : ByteArray := if 1 ≤ op ∧ op ≤ 39 then nmB op.toNat else ⟨#[]⟩
/-- the first one with this name, from the k-th on -/
def fndL (t : List UInt8) : Nat → Nat → Nat
  | 0, _ => 0
  | f + 1, k => if (nmL.getD k [] == t) = true then k else fndL t f (k + 1)
def findI (s : ByteArray) : Int := fndL s.toList 39 1
theorem nmB_toList (k : Nat) : (nmB k).toList = nmL.getD k [] := ByteArray.toList_mk _
theorem fnd_all : ∀ k : Fin 40, fndL (nmL.getD k.val []) 39 1 = k.val := by decide +kernel
theorem find_name (op : Int) : findI (nameI op) = (max 0 (min op 40)) % 40 := by
  unfold findI nameI
  by_cases h : 1 ≤ op ∧ op ≤ 39
  · rw [if_pos h, nmB_toList, fnd_all ⟨op.toNat, by omega⟩]
    simp only
    omega
  · rw [if_neg h]
    have e : (⟨#[]⟩ : ByteArray).toList = nmL.getD 0 [] := ByteArray.toList_mk []
    rw [e, fnd_all ⟨0, by omega⟩]
    simp only
    omega
set_option maxRecDepth 100000 in
set_option maxHeartbeats 1000000 in
theorem cname_any (op : Int) (w : World) (hN : Nms w) : Calls Tryd.prog 5 #[.int .i64 op] w fun e w' => e = .returned (.string (nameI op)) ∧ w = w' := by
  by_cases h : 1 ≤ op ∧ op ≤ 39
  · obtain ⟨k, rfl⟩ := Int.eq_ofNat_of_zero_le (show 0 ≤ op by omega)
    have hc := hN k (by omega)
    have HB : Hid (opB (k : Int) = true) := by simp [Hid, opB]; omega
    have HE : Hid (nameI (k : Int) = nmB k) := by unfold Hid nameI; rw [if_pos h]; rfl
    have i1 : (0 : Int) ≤ (k : Int) ∧ (k : Int) < 40 := ⟨by omega, by omega⟩
    have i2 : k < 40 := by omega
    clear h hN
    generalize nmB k = s at *
    rw [HE.out]
    go_enter Tryd.func5, Tryd.ntmps5
    go_wp2_with fail
    refine (isop_any _ _).mono ?_; rintro e w1 ⟨rfl, rfl⟩
    rw [HB.out]
    go_wp2
    go_ret
    exact ⟨rfl, rfl⟩
  · have HB : Hid (opB op = false) := by simp [Hid, opB]; omega
    have HE : Hid (nameI op = ⟨#[]⟩) := by unfold Hid nameI; rw [if_neg h]
    clear h hN
    rw [HE.out]
    go_enter Tryd.func5, Tryd.ntmps5
    go_wp2_with fail
    refine (isop_any _ _).mono ?_; rintro e w1 ⟨rfl, rfl⟩
    rw [HB.out]
    go_wp2
    go_ret
    exact ⟨rfl, rfl⟩
set_option maxRecDepth 100000 in
set_option maxHeartbeats 1000000 in
theorem cfind_any (s : ByteArray) (w : World) (hN : Nms w) : Calls Tryd.prog 7 #[.string s] w fun e w' => e = .returned (.int .i64 (findI s)) ∧ w = w' := by
  have HN := Lib.hid hN
  clear hN
  go_enter Tryd.func7, Tryd.ntmps7
  go_wp2
  go_loop [3] (fun x => ∃ k : Nat, 1 ≤ k ∧ k ≤ 40 ∧ x = .int .i64 k ∧ fndL s.toList (40 - k) k = fndL s.toList 39 1) (fun x => 40 - (intOf x).toNat)
  case atStart => exact ⟨1, by omega, by omega, rfl, rfl⟩
  case round =>
    obtain ⟨k, hk1, hk2, rfl, heq⟩ := hrel
    have HE := Lib.hid heq
    clear heq
    by_cases h : k < 40
    · have hc := HN.out k h
      have h' : (k : Int) ≤ 39 := by omega
      have i1 : (0 : Int) ≤ (k : Int) ∧ (k : Int) < 40 := ⟨by omega, by omega⟩
      have HS : Hid (fndL s.toList (40 - k) k = if ((nmB k).toList == s.toList) = true then k else fndL s.toList (40 - (k + 1)) (k + 1)) := by
        unfold Hid
        rw [show 40 - k = (40 - (k + 1)) + 1 by omega, nmB_toList]; rfl
      generalize nmB k = x at *
      by_cases hx : (x.toList == s.toList) = true
      · have HX := Lib.hid hx
        go_wp2
        go_ret
        exact ⟨ret_int (by rw [findI, ← HE.out, HS.out, if_pos HX.out]), rfl⟩
      · have hx' : (x.toList == s.toList) = false := by simpa using hx
        have HX := Lib.hid hx
        clear hx
        go_wp2
        go_round
        case rel => exact ⟨k + 1, by omega, by omega, by go_num, by rw [← HE.out, HS.out, if_neg HX.out]⟩
        case measure => simp [intOf]; omega
    · have h' : ¬ (k : Int) ≤ 39 := by omega
      obtain rfl : k = 40 := by omega
      go_wp2
      go_ret
      exact ⟨ret_int (by rw [findI, ← HE.out]; rfl), rfl⟩
/-! the document's -/
set_option maxRecDepth 100000 in
set_option maxHeartbeats 1000000 in
theorem rnames_any (w : World) : Calls Tryd.prog 13 #[] w fun e w' => e = .returned (.slice (some ⟨w.heap.size, 0, none⟩) 40 40) ∧ (∀ j, j < 40 → w'.cell? ⟨w.heap.size, j, none⟩ = some (.string (nmB j))) ∧ Below w.heap.size w w' := by
  have hn : ∀ j, j < 40 → (w.alloc (.cells #[.string ⟨#[]⟩, .string ⟨#[99, 111, 110, 115, 116]⟩, .string ⟨#[110, 117, 108, 108]⟩, .string ⟨#[108, 111, 97, 100]⟩, .string ⟨#[115, 116, 111, 114, 101]⟩, .string ⟨#[100, 117, 112]⟩, .string ⟨#[100, 114, 111, 112]⟩, .string ⟨#[115, 119, 97, 112]⟩, .string ⟨#[97, 100, 100]⟩, .string ⟨#[115, 117, 98]⟩, .string ⟨#[109, 117, 108]⟩, .string ⟨#[100, 105, 118]⟩, .string ⟨#[114, 101, 109]⟩, .string ⟨#[110, 101, 103]⟩, .string ⟨#[101, 113]⟩, .string ⟨#[108, 101, 115, 115]⟩, .string ⟨#[115, 97, 109, 101]⟩, .string ⟨#[105, 115, 110, 117, 108, 108]⟩, .string ⟨#[106, 117, 109, 112]⟩, .string ⟨#[106, 117, 109, 112, 105, 102]⟩, .string ⟨#[99, 97, 108, 108]⟩, .string ⟨#[114, 101, 116, 117, 114, 110]⟩, .string ⟨#[110, 101, 119]⟩, .string ⟨#[110, 101, 119, 105, 110, 116, 115]⟩, .string ⟨#[110, 101, 119, 114, 101, 102, 115]⟩, .string ⟨#[103, 101, 116]⟩, .string ⟨#[112, 117, 116]⟩, .string ⟨#[99, 97, 115]⟩, .string ⟨#[108, 101, 110]⟩, .string ⟨#[105, 110, 116, 97, 116]⟩, .string ⟨#[115, 101, 116, 105, 110, 116]⟩, .string ⟨#[114, 101, 102, 97, 116]⟩, .string ⟨#[115, 101, 116, 114, 101, 102]⟩, .string ⟨#[103, 108, 111, 98, 97, 108]⟩, .string ⟨#[115, 101, 116, 103, 108, 111, 98, 97, 108]⟩, .string ⟨#[115, 112, 97, 119, 110]⟩, .string ⟨#[106, 111, 105, 110]⟩, .string ⟨#[111, 117, 116]⟩, .string ⟨#[112, 111, 108, 108]⟩, .string ⟨#[99, 111, 108, 108, 101, 99, 116]⟩] 9)).cell? ⟨w.heap.size, j, none⟩ = some (.string (nmB j)) := by
    intro j hj
    rw [World.cell?_alloc_new]
    have e : (#[.string ⟨#[]⟩, .string ⟨#[99, 111, 110, 115, 116]⟩, .string ⟨#[110, 117, 108, 108]⟩, .string ⟨#[108, 111, 97, 100]⟩, .string ⟨#[115, 116, 111, 114, 101]⟩, .string ⟨#[100, 117, 112]⟩, .string ⟨#[100, 114, 111, 112]⟩, .string ⟨#[115, 119, 97, 112]⟩, .string ⟨#[97, 100, 100]⟩, .string ⟨#[115, 117, 98]⟩, .string ⟨#[109, 117, 108]⟩, .string ⟨#[100, 105, 118]⟩, .string ⟨#[114, 101, 109]⟩, .string ⟨#[110, 101, 103]⟩, .string ⟨#[101, 113]⟩, .string ⟨#[108, 101, 115, 115]⟩, .string ⟨#[115, 97, 109, 101]⟩, .string ⟨#[105, 115, 110, 117, 108, 108]⟩, .string ⟨#[106, 117, 109, 112]⟩, .string ⟨#[106, 117, 109, 112, 105, 102]⟩, .string ⟨#[99, 97, 108, 108]⟩, .string ⟨#[114, 101, 116, 117, 114, 110]⟩, .string ⟨#[110, 101, 119]⟩, .string ⟨#[110, 101, 119, 105, 110, 116, 115]⟩, .string ⟨#[110, 101, 119, 114, 101, 102, 115]⟩, .string ⟨#[103, 101, 116]⟩, .string ⟨#[112, 117, 116]⟩, .string ⟨#[99, 97, 115]⟩, .string ⟨#[108, 101, 110]⟩, .string ⟨#[105, 110, 116, 97, 116]⟩, .string ⟨#[115, 101, 116, 105, 110, 116]⟩, .string ⟨#[114, 101, 102, 97, 116]⟩, .string ⟨#[115, 101, 116, 114, 101, 102]⟩, .string ⟨#[103, 108, 111, 98, 97, 108]⟩, .string ⟨#[115, 101, 116, 103, 108, 111, 98, 97, 108]⟩, .string ⟨#[115, 112, 97, 119, 110]⟩, .string ⟨#[106, 111, 105, 110]⟩, .string ⟨#[111, 117, 116]⟩, .string ⟨#[112, 111, 108, 108]⟩, .string ⟨#[99, 111, 108, 108, 101, 99, 116]⟩] : Array Value) = (nmL.map fun l => Value.string ⟨l.toArray⟩).toArray := rfl
    rw [e]
    have hl : j < nmL.length := hj
    simp [nmB, hl]
  have HN := Lib.hid hn
  clear hn
  go_enter Tryd.func13, Tryd.ntmps13
  go_wp2
  go_ret
  exact ⟨rfl, HN.out, (Below.refl _ _).alloc (Nat.le_refl _) _⟩
set_option maxRecDepth 100000 in
set_option maxHeartbeats 1000000 in
theorem rname_any (op : Int) (w : World) : Calls Tryd.prog 6 #[.int .i64 op] w fun e w' => e = .returned (.string (nameI op)) ∧ Below w.heap.size w w' := by
  go_enter Tryd.func6, Tryd.ntmps6
  go_wp2_with fail
  refine (rnames_any _).mono ?_; rintro e w1 ⟨rfl, hc, hb⟩
  have HB := Lib.hid hb
  have HC := Lib.hid hc
  clear hb hc
  by_cases h0 : op < 0
  · go_wp2
    go_ret
    exact ⟨by rw [nameI, if_neg (by omega)]; rfl, HB.out⟩
  · obtain ⟨k, rfl⟩ := Int.eq_ofNat_of_zero_le (show 0 ≤ op by omega)
    by_cases h1 : k < 40
    · have c := HC.out k h1
      have i0 : ¬ (40 : Int) ≤ (k : Int) := by omega
      have i1 : (0 : Int) ≤ (k : Int) ∧ (k : Int) < 40 := ⟨by omega, by omega⟩
      have HE : Hid (nameI (k : Int) = nmB k) := by
        unfold Hid nameI
        split
        · rfl
        · obtain rfl : k = 0 := by omega
          rfl
      generalize nmB k = s at *
      go_wp2
      go_ret
      exact ⟨by rw [HE.out]; rfl, HB.out⟩
    · have i0 : (40 : Int) ≤ (k : Int) := by omega
      go_wp2
      go_ret
      exact ⟨by rw [nameI, if_neg (by omega)]; rfl, HB.out⟩
set_option maxRecDepth 100000 in
set_option maxHeartbeats 1000000 in
theorem rfind_any (s : ByteArray) (w : World) : Calls Tryd.prog 8 #[.string s] w fun e w' => e = .returned (.int .i64 (findI s)) ∧ Below w.heap.size w w' := by
  go_enter Tryd.func8, Tryd.ntmps8
  go_wp2_with fail
  refine (rnames_any _).mono ?_; rintro e w1 ⟨rfl, hc, hb⟩
  have HB := Lib.hid hb
  have HC := Lib.hid hc
  clear hb hc
  go_wp2
  generalize hS : w.heap.size = S at *
  have HSZ := Lib.hid hS
  clear hS
  go_loop [4] (fun x => ∃ k : Nat, 1 ≤ k ∧ k ≤ 40 ∧ x = .int .i64 k ∧ fndL s.toList (40 - k) k = fndL s.toList 39 1) (fun x => 40 - (intOf x).toNat)
  case atStart => exact ⟨1, by omega, by omega, rfl, rfl⟩
  case round =>
    obtain ⟨k, hk1, hk2, rfl, heq⟩ := hrel
    have HE := Lib.hid heq
    clear heq
    by_cases h : k < 40
    · have hc := HC.out k h
      have h' : (k : Int) < 40 := by omega
      have i1 : (0 : Int) ≤ (k : Int) ∧ (k : Int) < 40 := ⟨by omega, by omega⟩
      have HS : Hid (fndL s.toList (40 - k) k = if ((nmB k).toList == s.toList) = true then k else fndL s.toList (40 - (k + 1)) (k + 1)) := by
        unfold Hid
        rw [show 40 - k = (40 - (k + 1)) + 1 by omega, nmB_toList]; rfl
      generalize nmB k = x at *
      by_cases hx : (x.toList == s.toList) = true
      · have HX := Lib.hid hx
        go_wp2
        go_ret
        exact ⟨ret_int (by rw [findI, ← HE.out, HS.out, if_pos HX.out]), by rw [HSZ.out]; exact HB.out⟩
      · have hx' : (x.toList == s.toList) = false := by simpa using hx
        have HX := Lib.hid hx
        clear hx
        go_wp2
        go_round
        case rel => exact ⟨k + 1, by omega, by omega, by go_num, by rw [← HE.out, HS.out, if_neg HX.out]⟩
        case measure => simp [intOf]; omega
    · have h' : ¬ (k : Int) < 40 := by omega
      obtain rfl : k = 40 := by omega
      go_wp2
      go_ret
      exact ⟨ret_int (by rw [findI, ← HE.out]; rfl), by rw [HSZ.out]; exact HB.out⟩
end Go.Proofs.YtecpokegmfnlaaaDoor
/- The law CodeNames. Condition: the table of names lies as the start lays it. -/
namespace Go.Proofs.YtecpokegmfnlaaaDoor
open Go.RowKit
set_option linter.unusedVariables false
set_option maxRecDepth 100000 in
set_option maxHeartbeats 4000000 in
theorem cnames_law (op : Int) (s : ByteArray) (w : World) (w0 : (Lit.int .i64 op).wf = true) (hN : Nms w) :
    Calls Tryd.prog 3 #[.int .i64 op, .string s] w fun e w' => e = .returned (.bool true) ∧ Below w.heap.size w w' := by
  have HI := wf_I64 w0
  have HF := Lib.hid (find_name op)
  have e1 : ((nameI op).toList == (nameI op).toList) = true := by simp
  have e2 : (findI s == findI s) = true := by simp
  have e3 : (opsI op == opsI op) = true := by simp
  obtain ⟨h1, h2⟩ := HI
  generalize hn : nameI op = nm at *
  have HNM := Lib.hid hn
  clear hn
  generalize hs : findI s = fs at *
  have HFS := Lib.hid hs
  clear hs
  generalize ho : opsI op = oo at *
  have HOO := Lib.hid ho
  clear ho
  have C1 := Lib.hid (fun W (h : Nms W) => cname_any op W h)
  have C2 := Lib.hid (fun W => rname_any op W)
  have C3 := Lib.hid (fun W (h : Nms W) => cfind_any s W h)
  have C4 := Lib.hid (fun W => rfind_any s W)
  have C5 := Lib.hid (fun W => operands_any op W)
  have C6 := Lib.hid (fun W => roperands_any op W)
  have C7 := Lib.hid (fun W (h : Nms W) => cfind_any nm W h)
  rw [HNM.out] at C1 C2
  rw [HFS.out] at C3 C4
  rw [HOO.out] at C5 C6
  rw [HF.out] at C7
  have H1 := Lib.hid w0
  clear w0
  go_enter Tryd.func3, Tryd.ntmps3
  go_wp2_with fail
  refine (coded_any _).mono ?_; rintro e w1 ⟨rfl, hb1⟩
  have n1 := hN.grew hb1
  go_wp2_with fail
  refine (C1.out _ n1).mono ?_; rintro e w1' ⟨rfl, rfl⟩
  go_wp2_with fail
  refine (C2.out _).mono ?_; rintro e w2 ⟨rfl, hb2⟩
  have n2 := n1.grew hb2
  have hb2 := hb1.trans (hb2.mono hb1.size)
  go_wp2_with fail
  refine (C3.out _ n2).mono ?_; rintro e w2' ⟨rfl, rfl⟩
  go_wp2_with fail
  refine (C4.out _).mono ?_; rintro e w3 ⟨rfl, hb3⟩
  have n3 := n2.grew hb3
  have hb3 := hb2.trans (hb3.mono hb2.size)
  go_wp2_with fail
  refine (C5.out _).mono ?_; rintro e w3' ⟨rfl, rfl⟩
  go_wp2_with fail
  refine (C6.out _).mono ?_; rintro e w4 ⟨rfl, hb4⟩
  have n4 := n3.grew hb4
  have hb4 := hb3.trans (hb4.mono hb3.size)
  go_wp2_with fail
  refine (C1.out _ n4).mono ?_; rintro e w4' ⟨rfl, rfl⟩
  go_wp2_with fail
  refine (C7.out _ n4).mono ?_; rintro e w4' ⟨rfl, rfl⟩
  go_wp2
  all_goals
    go_ret
    exact ⟨ret_bool (by rw [beq_iff_eq, Int.max_def, Int.min_def]; split <;> split <;> omega), hb4⟩
end Go.Proofs.YtecpokegmfnlaaaDoor
