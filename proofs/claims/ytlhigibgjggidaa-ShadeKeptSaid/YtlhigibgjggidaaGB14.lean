/- Texts of this seat, one behind the other: each says at its head what it holds. No condition of its own. -/
import Derived.Deep.RegionHeld3
import Derived.Test.YtlhigibgjggidaaGB10
import Derived.Test.YtlhigibgjggidaaGB12
import Derived.Test.YtlhigibgjggidaaGB13
/- Words for the laws of package shade: an arena is laid, a shade is stepped to its end, an object's mark is looked at; an object is fresh once. Condition: the plan is right. -/
namespace Go.Proofs.Ytlhigibgjggidaa
open Go.RowKit

set_option maxHeartbeats 400000 in
theorem splan_any (P T R : Int) (w : World) :
    Calls Try.prog 13 #[.agg #[.int .i64 P, .int .i64 T, .int .i64 R]] w fun e w' => e = .returned (.agg #[.int .i64 P, .int .i64 T, .int .i64 R]) ∧ Below w.heap.size w w' := by
  go_enter Try.func13, Try.ntmps13
  have c0 := (planNew w P T R 23)
  go_wp2
  refine bodyPost_ret (v := .agg #[.int .i64 P, .int .i64 T, .int .i64 R]) (by simp [results, Try.results13, go_sem, *]) rfl ⟨rfl, ?_⟩
  exact c0.2.trans ((Below.refl _ _).alloc (by simp) _)
set_option maxHeartbeats 1000000 in
theorem slay_yes (P T R who : Int) (w : World) (h : Right P T R) (h0 : 0 ≤ who) (h1 : who ≤ 15) :
    Calls Try.prog 9 #[.agg #[.int .i64 P, .int .i64 T, .int .i64 R], .int .i64 who] w (LayPost P T R who w) := by
  obtain ⟨hc, hc1, hc2⟩ := cellsN_bd h
  have C := Lib.hid (fun W => rcells_yes P T R W h)
  rw [← hc] at C
  have N := Lib.hid (fun W => new_yes (cellsN P T R) true W hc1 (by omega))
  clear hc hc1 hc2 h
  go_enter Try.func9, Try.ntmps9
  have c0 := (planNew w P T R 23)
  go_wp2_with fail
  refine (C.out _).mono ?_; rintro e w1 ⟨rfl, hb1⟩
  have c1 := planKeep c0 hb1
  have hB1 := c1.2
  clear c0 hb1 c1
  go_wp2_with fail
  refine (N.out _).mono ?_; rintro e w2 ⟨a, c, rfl, hA2, ha, hc, hb2⟩
  have hB2 := hB1.trans (hb2.mono hB1.size)
  have hX2 : Arx w2 w.heap.size a c (List.replicate (cellsN P T R) 0) [] 0 [] := hA2.arx (Nat.le_trans hB1.size ha) (Nat.le_trans hB1.size hc) hB2.size
  clear hA2 hb2 hB1
  go_wp2_with fail
  refine (port_yes a who _ h0 h1).mono ?_; rintro e w3 ⟨p, rfl, hP3, hp, hb3⟩
  have hX3 := hX2.add hb3 hp hP3.lt
  have hB3 := hB2.trans (hb3.mono hB2.size)
  have hp' := Nat.le_trans hB2.size hp
  clear hX2 hb3 hB2
  go_wp2
  go_ret3
  exact ⟨a, c, p, rfl, hX3, hP3, hp', hB3⟩

/-- the three machines, the arena and the port, whatever the log tells -/
def ShE (w0 : World) (B a c p s mk pu : Nat) (P T R t rf : Int) (ce : Nat) (bi nx : Int) (lo : Bool) (mn : Int) (mf : Bool) (tl pn : Int) (fu : Bool) (cs : List Int) (n : Nat) (K : List Nat) (who : Int) (o : Bool) (w : World) : Prop :=
  ∃ xs, ShS w0 B a c p s mk pu P T R t rf ce bi nx lo mn mf tl pn fu cs xs n K who o w
section
variable {w0 w w' : World} {B a c p s mk pu ce : Nat} {P T R t rf bi nx mn tl pn : Int} {lo mf fu : Bool} {cs : List Int} {n : Nat} {K : List Nat} {who : Int} {o : Bool}
theorem ShE.grant (h : ShE w0 B a c p s mk pu P T R t rf ce bi nx lo mn mf tl pn fu cs n K who o w) (hr : ShR P T R t p s mk pu ce cs K) :
    Calls Try.prog 24 #[.pointer (some ⟨p, 0, none⟩)] w fun e w' => (∃ v, e = .returned v) ∧ ShE w0 B a c p s mk pu P T R t rf ce bi nx lo mn mf tl pn fu cs n K who true w' := by
  obtain ⟨xs, h⟩ := h
  exact (h.grant hr).mono fun _ _ ⟨he, h⟩ => ⟨he, _, h⟩

theorem ShE.s1f (h : ShE w0 B a c p s mk pu P T R t rf ce bi 1 lo 1 mf tl pn fu cs n K who true w) (hr : ShR P T R t p s mk pu ce cs K) (hn : n < 1000000) (hf : (bits .and .u64 (cs.getD ce 0) bi == 0) = true) :
    Calls Try.prog 25 #[.pointer (some ⟨s, 0, none⟩), .pointer (some ⟨p, 0, none⟩)] w fun e w' => e = .returned (.bool false) ∧ ShE w0 B a c p s mk pu P T R t rf ce bi 2 lo 0 true tl pn fu (cs.set ce (bits .or .u64 (cs.getD ce 0) bi)) (n + 1) K who false w' := by
  obtain ⟨xs, h⟩ := h
  exact (shade_step1_fresh h hr hn hf).mono fun _ _ ⟨he, h⟩ => ⟨he, _, h⟩

theorem ShE.s1s (h : ShE w0 B a c p s mk pu P T R t rf ce bi 1 lo 1 mf tl pn fu cs n K who true w) (hr : ShR P T R t p s mk pu ce cs K) (hn : n < 1000000) (hf : (bits .and .u64 (cs.getD ce 0) bi == 0) = false) :
    Calls Try.prog 25 #[.pointer (some ⟨s, 0, none⟩), .pointer (some ⟨p, 0, none⟩)] w fun e w' => e = .returned (.bool true) ∧ ShE w0 B a c p s mk pu P T R t rf ce bi 0 lo 0 false tl pn fu (cs.set ce (bits .or .u64 (cs.getD ce 0) bi)) (n + 1) K who false w' := by
  obtain ⟨xs, h⟩ := h
  exact (shade_step1_seen h hr hn hf).mono fun _ _ ⟨he, h⟩ => ⟨he, _, h⟩

theorem ShE.s2 (h : ShE w0 B a c p s mk pu P T R t rf ce bi 2 lo mn mf tl 1 false cs n K who true w) (hr : ShR P T R t p s mk pu ce cs K) (hn : n < 1000000) :
    Calls Try.prog 25 #[.pointer (some ⟨s, 0, none⟩), .pointer (some ⟨p, 0, none⟩)] w fun e w' => e = .returned (.bool false) ∧ ShE w0 B a c p s mk pu P T R t rf ce bi 2 lo mn mf (cs.getD (ownN R t 4) 0) 2 false cs (n + 1) K who false w' := by
  obtain ⟨xs, h⟩ := h
  exact (shade_step2_on h hr hr (fun W hW => push_step1 hW hr.ex hr.up hr.hu hr.hp hn hr.len)).mono fun _ _ ⟨he, h⟩ => ⟨he, _, h⟩

theorem ShE.s3r (h : ShE w0 B a c p s mk pu P T R t rf ce bi 2 lo mn mf tl 2 false cs n K who true w) (hr : ShR P T R t p s mk pu ce cs K) (hn : n < 1000000) (hf : fullB R tl (cs.getD (ownN R t 3) 0) = false) :
    Calls Try.prog 25 #[.pointer (some ⟨s, 0, none⟩), .pointer (some ⟨p, 0, none⟩)] w fun e w' => e = .returned (.bool false) ∧ ShE w0 B a c p s mk pu P T R t rf ce bi 2 lo mn mf tl 3 false cs (n + 1) K who false w' := by
  obtain ⟨xs, h⟩ := h
  exact (shade_step2_on h hr hr (fun W hW => push_step2_room hW hr.ex hr.up hr.hu hr.hp hn hr.len hf)).mono fun _ _ ⟨he, h⟩ => ⟨he, _, h⟩

theorem ShE.s3f (h : ShE w0 B a c p s mk pu P T R t rf ce bi 2 lo mn mf tl 2 false cs n K who true w) (hr : ShR P T R t p s mk pu ce cs K) (hn : n < 1000000) (hf : fullB R tl (cs.getD (ownN R t 3) 0) = true) :
    Calls Try.prog 25 #[.pointer (some ⟨s, 0, none⟩), .pointer (some ⟨p, 0, none⟩)] w fun e w' => e = .returned (.bool false) ∧ ShE w0 B a c p s mk pu P T R t rf ce bi 3 lo mn mf tl 0 true cs (n + 1) K who false w' := by
  obtain ⟨xs, h⟩ := h
  exact (shade_step2_full h hr hr (fun W hW => push_step2_full hW hr.ex hr.up hr.hu hr.hp hn hr.len hf)).mono fun _ _ ⟨he, h⟩ => ⟨he, _, h⟩

theorem ShE.s4 (h : ShE w0 B a c p s mk pu P T R t rf ce bi 2 lo mn mf tl 3 false cs n K who true w) (hr : ShR P T R t p s mk pu ce cs K) (hn : n < 1000000) (hu : U64 tl) :
    Calls Try.prog 25 #[.pointer (some ⟨s, 0, none⟩), .pointer (some ⟨p, 0, none⟩)] w fun e w' => e = .returned (.bool false) ∧ ShE w0 B a c p s mk pu P T R t rf ce bi 2 lo mn mf tl 4 false (cs.set (slotN R t tl) rf) (n + 1) K who false w' := by
  obtain ⟨xs, h⟩ := h
  exact (shade_step2_on h hr (hr.set _ _) (fun W hW => push_step3 hW hr.ex hr.up hr.hu hr.hp hn hr.len hu)).mono fun _ _ ⟨he, h⟩ => ⟨he, _, h⟩

theorem ShE.s5 (h : ShE w0 B a c p s mk pu P T R t rf ce bi 2 lo mn mf tl 4 false cs n K who true w) (hr : ShR P T R t p s mk pu ce cs K) (hn : n < 1000000) :
    Calls Try.prog 25 #[.pointer (some ⟨s, 0, none⟩), .pointer (some ⟨p, 0, none⟩)] w fun e w' => e = .returned (.bool true) ∧ ShE w0 B a c p s mk pu P T R t rf ce bi 0 lo mn mf tl 0 false (cs.set (ownN R t 4) (IntKind.u64.wrap (tl + 1))) (n + 1) K who false w' := by
  obtain ⟨xs, h⟩ := h
  exact (shade_step2_over h hr (hr.set _ _) (fun W hW => push_step4 hW hr.ex hr.up hr.hu hr.hp hn hr.len)).mono fun _ _ ⟨he, h⟩ => ⟨he, _, h⟩

theorem ShE.s6 (h : ShE w0 B a c p s mk pu P T R t rf ce bi 3 lo mn mf tl pn fu cs n K who true w) (hr : ShR P T R t p s mk pu ce cs K) (hn : n < 1000000) (h4 : 4 < cs.length) :
    Calls Try.prog 25 #[.pointer (some ⟨s, 0, none⟩), .pointer (some ⟨p, 0, none⟩)] w fun e w' => e = .returned (.bool true) ∧ ShE w0 B a c p s mk pu P T R t rf ce bi 0 true mn mf tl pn fu (cs.set 4 1) (n + 1) K who false w' := by
  obtain ⟨xs, h⟩ := h
  exact (shade_step3 h hr hn h4).mono fun _ _ ⟨he, h⟩ => ⟨he, _, h⟩

theorem sfinish_seen (h : ShE w0 B a c p s mk pu P T R t rf ce bi 1 lo 1 mf tl 1 false cs n K who o w) (hr : ShR P T R t p s mk pu ce cs K) (hn : n < 999990) (hf : (bits .and .u64 (cs.getD ce 0) bi == 0) = false) :
    Calls Try.prog 26 #[.pointer (some ⟨p, 0, none⟩), .pointer (some ⟨s, 0, none⟩)] w fun e w' => e = .returned (.int .i64 1) ∧ ShE w0 B a c p s mk pu P T R t rf ce bi 0 lo 0 false tl 1 false (cs.set ce (bits .or .u64 (cs.getD ce 0) bi)) (n + 1) K who false w' := by
  have G1 := Lib.hid (fun W o (h : ShE w0 B a c p s mk pu P T R t rf ce bi 1 lo 1 mf tl 1 false cs n K who o W) => h.grant hr)
  have S1 := Lib.hid (fun W (h : ShE w0 B a c p s mk pu P T R t rf ce bi 1 lo 1 mf tl 1 false cs n K who true W) => h.s1s hr (by omega) hf)
  clear hf
  generalize bits .or .u64 (cs.getD ce 0) bi = y at *
  go_enter Try.func26, Try.ntmps26
  go_wp2
  go_loopw [5] (fun i wr => i = .int .i64 1 ∧ ShE w0 B a c p s mk pu P T R t rf ce bi 1 lo 1 mf tl 1 false cs n K who o wr) (fun _ _ => 0)
  case atStart => exact ⟨rfl, h⟩
  case round =>
    obtain ⟨rfl, h1⟩ := hrel
    go_wp2_with fail
    refine (G1.out _ _ h1).mono ?_; rintro e w1 ⟨⟨u1, rfl⟩, h2⟩
    go_wp2_with fail
    refine (S1.out _ h2).mono ?_; rintro e w2 ⟨rfl, h3⟩
    go_wp2
    go_ret
    exact ⟨rfl, h3⟩

set_option maxHeartbeats 1000000 in
theorem sfinish_fresh (cs1 cs2 cs3 : List Int) (z : Int) (h : ShE w0 B a c p s mk pu P T R t rf ce bi 1 lo 1 mf tl 1 false cs n K who o w) (hr : ShR P T R t p s mk pu ce cs K) (hn : n < 999990) (hf : (bits .and .u64 (cs.getD ce 0) bi == 0) = true)
    (h1 : cs.set ce (bits .or .u64 (cs.getD ce 0) bi) = cs1) (hz : cs1.getD (ownN R t 4) 0 = z) (hro : fullB R z (cs1.getD (ownN R t 3) 0) = false) (hu : U64 z) (h2 : cs1.set (slotN R t z) rf = cs2) (h3 : cs2.set (ownN R t 4) (IntKind.u64.wrap (z + 1)) = cs3) :
    Calls Try.prog 26 #[.pointer (some ⟨p, 0, none⟩), .pointer (some ⟨s, 0, none⟩)] w fun e w' => e = .returned (.int .i64 5) ∧ ShE w0 B a c p s mk pu P T R t rf ce bi 0 lo 0 true z 0 false cs3 (n + 5) K who false w' := by
  have hr1 : ShR P T R t p s mk pu ce cs1 K := by rw [← h1]; exact hr.set _ _
  have hr2 : ShR P T R t p s mk pu ce cs2 K := by rw [← h2]; exact hr1.set _ _
  have G1 := Lib.hid (fun W o (h : ShE w0 B a c p s mk pu P T R t rf ce bi 1 lo 1 mf tl 1 false cs n K who o W) => h.grant hr)
  have S1 := Lib.hid (fun W (h : ShE w0 B a c p s mk pu P T R t rf ce bi 1 lo 1 mf tl 1 false cs n K who true W) => (h.s1f hr (by omega) hf).mono (R' := fun e w' => e = .returned (.bool false) ∧ ShE w0 B a c p s mk pu P T R t rf ce bi 2 lo 0 true tl 1 false cs1 (n + 1) K who false w') fun _ _ ⟨he, hk⟩ => ⟨he, by rw [← h1]; exact hk⟩)
  have G2 := Lib.hid (fun W (h : ShE w0 B a c p s mk pu P T R t rf ce bi 2 lo 0 true tl 1 false cs1 (n + 1) K who false W) => h.grant hr1)
  have S2 := Lib.hid (fun W (h : ShE w0 B a c p s mk pu P T R t rf ce bi 2 lo 0 true tl 1 false cs1 (n + 1) K who true W) => (h.s2 hr1 (by omega)).mono (R' := fun e w' => e = .returned (.bool false) ∧ ShE w0 B a c p s mk pu P T R t rf ce bi 2 lo 0 true z 2 false cs1 (n + 2) K who false w') fun _ _ ⟨he, hk⟩ => ⟨he, by rw [← hz]; exact hk⟩)
  have G3 := Lib.hid (fun W (h : ShE w0 B a c p s mk pu P T R t rf ce bi 2 lo 0 true z 2 false cs1 (n + 2) K who false W) => h.grant hr1)
  have S3 := Lib.hid (fun W (h : ShE w0 B a c p s mk pu P T R t rf ce bi 2 lo 0 true z 2 false cs1 (n + 2) K who true W) => (h.s3r hr1 (by omega) hro).mono (R' := fun e w' => e = .returned (.bool false) ∧ ShE w0 B a c p s mk pu P T R t rf ce bi 2 lo 0 true z 3 false cs1 (n + 3) K who false w') fun _ _ ⟨he, hk⟩ => ⟨he, by exact hk⟩)
  have G4 := Lib.hid (fun W (h : ShE w0 B a c p s mk pu P T R t rf ce bi 2 lo 0 true z 3 false cs1 (n + 3) K who false W) => h.grant hr1)
  have S4 := Lib.hid (fun W (h : ShE w0 B a c p s mk pu P T R t rf ce bi 2 lo 0 true z 3 false cs1 (n + 3) K who true W) => (h.s4 hr1 (by omega) hu).mono (R' := fun e w' => e = .returned (.bool false) ∧ ShE w0 B a c p s mk pu P T R t rf ce bi 2 lo 0 true z 4 false cs2 (n + 4) K who false w') fun _ _ ⟨he, hk⟩ => ⟨he, by rw [← h2]; exact hk⟩)
  have G5 := Lib.hid (fun W (h : ShE w0 B a c p s mk pu P T R t rf ce bi 2 lo 0 true z 4 false cs2 (n + 4) K who false W) => h.grant hr2)
  have S5 := Lib.hid (fun W (h : ShE w0 B a c p s mk pu P T R t rf ce bi 2 lo 0 true z 4 false cs2 (n + 4) K who true W) => (h.s5 hr2 (by omega)).mono (R' := fun e w' => e = .returned (.bool true) ∧ ShE w0 B a c p s mk pu P T R t rf ce bi 0 lo 0 true z 0 false cs3 (n + 5) K who false w') fun _ _ ⟨he, hk⟩ => ⟨he, by rw [← h3]; exact hk⟩)
  clear hf hz hro hu h1 h2 h3
  go_enter Try.func26, Try.ntmps26
  go_wp2
  go_loopw [5] (fun i wr => ∃ k : Int, (k = 1 ∧ ShE w0 B a c p s mk pu P T R t rf ce bi 1 lo 1 mf tl 1 false cs n K who o wr ∨ k = 2 ∧ ShE w0 B a c p s mk pu P T R t rf ce bi 2 lo 0 true tl 1 false cs1 (n + 1) K who false wr ∨ k = 3 ∧ ShE w0 B a c p s mk pu P T R t rf ce bi 2 lo 0 true z 2 false cs1 (n + 2) K who false wr ∨ k = 4 ∧ ShE w0 B a c p s mk pu P T R t rf ce bi 2 lo 0 true z 3 false cs1 (n + 3) K who false wr ∨ k = 5 ∧ ShE w0 B a c p s mk pu P T R t rf ce bi 2 lo 0 true z 4 false cs2 (n + 4) K who false wr) ∧ i = .int .i64 k) (fun i _ => (6 - intOf i).toNat)
  case atStart => exact ⟨1, .inl ⟨rfl, h⟩, rfl⟩
  case round =>
    obtain ⟨k, (⟨rfl, h1⟩ | ⟨rfl, h1⟩ | ⟨rfl, h1⟩ | ⟨rfl, h1⟩ | ⟨rfl, h1⟩), rfl⟩ := hrel
    · go_wp2_with fail
      refine (G1.out _ _ h1).mono ?_; rintro e w1 ⟨⟨u1, rfl⟩, h2⟩
      go_wp2_with fail
      refine (S1.out _ h2).mono ?_; rintro e w2 ⟨rfl, h3⟩
      go_wp2
      go_roundw
      case rel => exact ⟨2, .inr (.inl ⟨rfl, h3⟩), by go_num⟩
      case measure => simp [intOf]
    · go_wp2_with fail
      refine (G2.out _ h1).mono ?_; rintro e w1 ⟨⟨u1, rfl⟩, h2⟩
      go_wp2_with fail
      refine (S2.out _ h2).mono ?_; rintro e w2 ⟨rfl, h3⟩
      go_wp2
      go_roundw
      case rel => exact ⟨3, .inr (.inr (.inl ⟨rfl, h3⟩)), by go_num⟩
      case measure => simp [intOf]
    · go_wp2_with fail
      refine (G3.out _ h1).mono ?_; rintro e w1 ⟨⟨u1, rfl⟩, h2⟩
      go_wp2_with fail
      refine (S3.out _ h2).mono ?_; rintro e w2 ⟨rfl, h3⟩
      go_wp2
      go_roundw
      case rel => exact ⟨4, .inr (.inr (.inr (.inl ⟨rfl, h3⟩))), by go_num⟩
      case measure => simp [intOf]
    · go_wp2_with fail
      refine (G4.out _ h1).mono ?_; rintro e w1 ⟨⟨u1, rfl⟩, h2⟩
      go_wp2_with fail
      refine (S4.out _ h2).mono ?_; rintro e w2 ⟨rfl, h3⟩
      go_wp2
      go_roundw
      case rel => exact ⟨5, .inr (.inr (.inr (.inr (⟨rfl, h3⟩)))), by go_num⟩
      case measure => simp [intOf]
    · go_wp2_with fail
      refine (G5.out _ h1).mono ?_; rintro e w1 ⟨⟨u1, rfl⟩, h2⟩
      go_wp2_with fail
      refine (S5.out _ h2).mono ?_; rintro e w2 ⟨rfl, h3⟩
      go_wp2
      go_ret
      exact ⟨rfl, h3⟩
end
end Go.Proofs.Ytlhigibgjggidaa
/- What Draw and Status of the document's layer 6 return. Condition: the plan is right. -/
namespace Go.Proofs.Ytlhigibgjggidaa
open Go.RowKit
set_option linter.unusedVariables false
theorem dwhere_8 {P T R : Int} (h : Right P T R) : whereI P T R 8 0 0 = baseI P T R := by
  have hp := h.1
  unfold whereI
  rw [of_right h, decide_eq_true (show okI P T R 8 0 0 by unfold okI; omega)]
  show posI P T R 8 0 0 = _
  rw [pos_8]; omega
theorem dwhere_5 {P T R : Int} (h : Right P T R) : whereI P T R 5 0 0 = tabI T R := by
  have hp := h.1
  unfold whereI
  rw [of_right h, decide_eq_true (show okI P T R 5 0 0 by unfold okI; omega)]
  show posI P T R 5 0 0 = _
  unfold posI; simp
set_option maxHeartbeats 400000 in
theorem dbase_yes (P T R : Int) (w : World) (h : Right P T R) :
    Calls Try.prog 43 #[.agg #[.int .i64 P, .int .i64 T, .int .i64 R]] w fun e w' => e = .returned (.int .i64 (baseI P T R)) ∧ Below w.heap.size w w' := by
  have V := Lib.hid (fun W => where_yes P T R 8 0 0 W h)
  rw [dwhere_8 h] at V
  go_enter Try.func43, Try.ntmps43
  go_wp2_with fail
  refine (V.out _).mono ?_; rintro e w1 ⟨rfl, hb1⟩
  go_wp2
  go_ret
  exact ⟨rfl, ((Below.refl _ _).alloc (Nat.le_refl _) _).trans (hb1.mono (by simp))⟩
theorem Blk.six {w : World} {b : Nat} {v0 v1 v2 v3 v4 v5 : Value} {t : TypeId} (h : Blk w b #[v0, v1, v2, v3, v4, v5] t) :
    (w.cell? ⟨b, 0, none⟩ = some v0 ∧ w.cell? ⟨b, 1, none⟩ = some v1 ∧ w.cell? ⟨b, 2, none⟩ = some v2 ∧ w.cell? ⟨b, 3, none⟩ = some v3 ∧ w.cell? ⟨b, 4, none⟩ = some v4 ∧ w.cell? ⟨b, 5, none⟩ = some v5) ∧
    (w.frozen? ⟨b, 0, none⟩ = false ∧ w.frozen? ⟨b, 1, none⟩ = false ∧ w.frozen? ⟨b, 2, none⟩ = false ∧ w.frozen? ⟨b, 3, none⟩ = false ∧ w.frozen? ⟨b, 4, none⟩ = false ∧ w.frozen? ⟨b, 5, none⟩ = false) :=
  ⟨⟨h.val 0 rfl, h.val 1 rfl, h.val 2 rfl, h.val 3 rfl, h.val 4 rfl, h.val 5 rfl⟩, h.frozen 0, h.frozen 1, h.frozen 2, h.frozen 3, h.frozen 4, h.frozen 5⟩
theorem Blk.three {w : World} {b : Nat} {v0 v1 v2 : Value} {t : TypeId} (h : Blk w b #[v0, v1, v2] t) :
    (w.cell? ⟨b, 0, none⟩ = some v0 ∧ w.cell? ⟨b, 1, none⟩ = some v1 ∧ w.cell? ⟨b, 2, none⟩ = some v2) ∧ (w.frozen? ⟨b, 0, none⟩ = false ∧ w.frozen? ⟨b, 1, none⟩ = false ∧ w.frozen? ⟨b, 2, none⟩ = false) :=
  ⟨⟨h.val 0 rfl, h.val 1 rfl, h.val 2 rfl⟩, h.frozen 0, h.frozen 1, h.frozen 2⟩
/-- the map of a plan -/
def mapV (P T R : Int) : Value := .agg #[.int .i64 P, .int .i64 T, .int .i64 R, .int .i64 (baseI P T R), .int .i64 (tabI T R), .int .i64 (baseI P T R + 64 * P)]
structure DrS (w : World) (P T R : Int) (b0 b1 : Nat) (W : World) : Prop where
  plan : Blk W b0 #[.int .i64 P, .int .i64 T, .int .i64 R] 23
  res : Blk W b1 #[.int .i64 0, .int .i64 0, .int .i64 0, .int .i64 0, .int .i64 0, .int .i64 0] 38
  bel : Below w.heap.size w W
theorem DrS.grew {w W W' : World} {P T R : Int} {b0 b1 : Nat} (h : DrS w P T R b0 b1 W) (hb : Below W.heap.size W W') : DrS w P T R b0 b1 W' := ⟨h.plan.grew hb, h.res.grew hb, h.bel.trans (hb.mono h.bel.size)⟩
set_option maxRecDepth 100000 in
set_option maxHeartbeats 600000 in
theorem draw_yes (P T R : Int) (w : World) (h : Right P T R) :
    Calls Try.prog 11 #[.agg #[.int .i64 P, .int .i64 T, .int .i64 R]] w fun e w' => e = .returned (mapV P T R) ∧ Below w.heap.size w w' := by
  have V := Lib.hid (fun W => rright_any P T R W)
  rw [of_right h] at V
  have BB := Lib.hid (fun W => dbase_yes P T R W h)
  have WW := Lib.hid (fun W => where_yes P T R 5 0 0 W h)
  rw [dwhere_5 h] at WW
  have CC := Lib.hid (fun W => rcells_yes P T R W h)
  clear h
  unfold mapV
  generalize baseI P T R + 64 * P = x at *
  generalize baseI P T R = y at *
  generalize tabI T R = z at *
  go_enter Try.func11, Try.ntmps11
  go_wp2_with fail
  refine (V.out _).mono ?_; rintro e w1 ⟨rfl, hb1⟩
  have hS1 : DrS w P T R w.heap.size (w.heap.size + 1) w1 := DrS.grew ⟨(Blk.new' rfl).alloc _, Blk.new' (by simp), ((Below.refl _ _).alloc (Nat.le_refl _) _).alloc (by simp) _⟩ hb1
  have p1 := hS1.plan.three.1
  clear hb1
  go_wp2_with fail
  have hS2 := hS1.grew (Quiet.below ⟨1, rfl⟩ : Below w1.heap.size w1 w1.drew)
  go_region_held3 (fun W => (W.cell? ⟨w.heap.size, 0, none⟩ = some (.int .i64 P) ∧ W.cell? ⟨w.heap.size, 1, none⟩ = some (.int .i64 T) ∧ W.cell? ⟨w.heap.size, 2, none⟩ = some (.int .i64 R)))
    (((with_reducible refine (Blk.three (t := 23) ?_).1); repeat (first | (with_reducible exact DrS.plan (by assumption)) | (with_reducible refine Blk.other ?_ _ _ (by simp)))))
    (first | (go_at_call 43; refine (BB.out _).mono ?_; rintro e w3 ⟨rfl, hb3⟩; have hS3 := DrS.grew (by assumption) hb3) | (go_at_call 44; refine (WW.out _).mono ?_; rintro e w3 ⟨rfl, hb3⟩; have hS3 := DrS.grew (by assumption) hb3) | (go_at_call 10; refine (CC.out _).mono ?_; rintro e w3 ⟨rfl, hb3⟩; have hS3 := DrS.grew (by assumption) hb3; have z3 := hS3.res.six))
  have hZ := ((((((hS3.res.set 0 (.int .i64 P)).set 1 (.int .i64 T)).set 2 (.int .i64 R)).set 3 (.int .i64 y)).set 4 (.int .i64 z)).set 5 (.int .i64 x))
  have hB := ((((((hS3.bel.setCell (p := ⟨w.heap.size + 1, 0, none⟩) (by simp) (.int .i64 P)).setCell (p := ⟨w.heap.size + 1, 1, none⟩) (by simp) (.int .i64 T)).setCell (p := ⟨w.heap.size + 1, 2, none⟩) (by simp) (.int .i64 R)).setCell (p := ⟨w.heap.size + 1, 3, none⟩) (by simp) (.int .i64 y)).setCell (p := ⟨w.heap.size + 1, 4, none⟩) (by simp) (.int .i64 z)).setCell (p := ⟨w.heap.size + 1, 5, none⟩) (by simp) (.int .i64 x))
  generalize World.setCell (World.setCell (World.setCell (World.setCell (World.setCell (World.setCell w3 _ _) _ _) _ _) _ _) _ _) _ _ = w9 at *
  have hY : Blk w9 (w.heap.size + 1) #[.int .i64 P, .int .i64 T, .int .i64 R, .int .i64 y, .int .i64 z, .int .i64 x] 38 := hZ
  obtain ⟨y0, y1, y2, y3, y4, y5⟩ := hY.six.1
  clear hZ hY z3 hS1 hS2 hS3
  go_wp2
  refine bodyPost_ret (v := .agg #[.int .i64 P, .int .i64 T, .int .i64 R, .int .i64 y, .int .i64 z, .int .i64 x]) (by simp [results, Try.results11, go_sem, y0, y1, y2, y3, y4, y5]) rfl ⟨rfl, hB⟩
theorem exB_of' {P T R t : Int} (h : exB P T R t = true) : Right P T R ∧ inB t 0 (T - 1) = true := by
  unfold exB at h
  rw [Bool.and_eq_true] at h
  exact ⟨right_of h.1, h.2⟩
theorem status_bd {P T R t : Int} (h : exB P T R t = true) : 0 ≤ t * (5 + R) ∧ t * (5 + R) ≤ 105 := by
  obtain ⟨hR, ht⟩ := exB_of' h
  obtain ⟨h2, h3, h4, h5⟩ := own_bd hR ht
  exact ⟨h4, h5⟩
set_option maxHeartbeats 400000 in
theorem mstatus_any (P T R x y z t : Int) (w : World) (hR : 1 ≤ R ∧ R ≤ 16) (ht : 0 ≤ t ∧ t ≤ 5) :
    Calls Try.prog 99 #[.agg #[.int .i64 P, .int .i64 T, .int .i64 R, .int .i64 x, .int .i64 y, .int .i64 z], .int .i64 t] w fun e w' => e = .returned (.int .i64 (16 + t * (5 + R))) ∧ Below w.heap.size w w' := by
  have hr1 : wrap64 (5 + R) = 5 + R := IntWalk.wrap64_in _ ⟨by omega, by omega⟩
  have hm : 0 ≤ t * (5 + R) ∧ t * (5 + R) ≤ 105 := by
    constructor
    · exact Int.mul_nonneg (by omega) (by omega)
    · calc t * (5 + R) ≤ 5 * (5 + R) := Int.mul_le_mul_of_nonneg_right (by omega) (by omega)
        _ ≤ 105 := by omega
  have hr2 : wrap64 (t * (5 + R)) = t * (5 + R) := IntWalk.wrap64_in _ ⟨by omega, by omega⟩
  have hr3 : wrap64 (16 + t * (5 + R)) = 16 + t * (5 + R) := IntWalk.wrap64_in _ ⟨by omega, by omega⟩
  obtain ⟨r1, r2⟩ := hR
  clear hm ht
  go_enter Try.func99, Try.ntmps99
  have hZ : Blk (w.alloc (.cells #[.int .i64 P, .int .i64 T, .int .i64 R, .int .i64 x, .int .i64 y, .int .i64 z] 38)) w.heap.size #[.int .i64 P, .int .i64 T, .int .i64 R, .int .i64 x, .int .i64 y, .int .i64 z] 38 := Blk.new' rfl
  have y2 := hZ.six.1.2.2.1
  clear hZ
  go_wp2
  go_ret
  exact ⟨ret_int (by first | rfl | simp only [hr3]), (Below.refl _ _).alloc (Nat.le_refl _) _⟩
end Go.Proofs.Ytlhigibgjggidaa
/- What Marked returns; what shaded of the laws of package shade returns: an object is fresh once, and no more. No condition but that the arena is there. -/
namespace Go.Proofs.Ytlhigibgjggidaa
open Go.RowKit
theorem ShE.ary {w0 w : World} {B a c p s mk pu ce : Nat} {P T R t rf bi nx mn tl pn : Int} {lo mf fu : Bool} {cs : List Int} {n : Nat} {K : List Nat} {who : Int} {o : Bool} (h : ShE w0 B a c p s mk pu P T R t rf ce bi nx lo mn mf tl pn fu cs n K who o w) : Ary w B a c cs n K := by
  obtain ⟨xs, h⟩ := h; exact ⟨xs, h.arx⟩
theorem ShE.parts {w0 w : World} {B a c p s mk pu ce : Nat} {P T R t rf bi nx mn tl pn : Int} {lo mf fu : Bool} {cs : List Int} {n : Nat} {K : List Nat} {who : Int} {o : Bool} (h : ShE w0 B a c p s mk pu P T R t rf ce bi nx lo mn mf tl pn fu cs n K who o w) :
    ShadeAt w s rf mk (some ⟨pu, 0, none⟩) nx lo ∧ MarkAt w mk ce bi mn mf ∧ PushAt w pu P T R t rf tl pn fu ∧ PortAt w p a who o ∧ Touch (fun b => b = p ∨ b = s ∨ b = mk ∨ b = pu ∨ (B ≤ b ∧ b ∉ K)) w0 w := by
  obtain ⟨xs, h⟩ := h; exact ⟨h.shade, h.mark, h.push, h.port, h.touch⟩
theorem Ary.sh {w : World} {B a c p s mk pu ce : Nat} {P T R t rf bi nx mn tl pn : Int} {lo mf fu : Bool} {cs : List Int} {n : Nat} {K : List Nat} {who : Int} {o : Bool} (h : Ary w B a c cs n K) (h1 : ShadeAt w s rf mk (some ⟨pu, 0, none⟩) nx lo) (h2 : MarkAt w mk ce bi mn mf) (h3 : PushAt w pu P T R t rf tl pn fu) (h4 : PortAt w p a who o) :
    ShE w B a c p s mk pu P T R t rf ce bi nx lo mn mf tl pn fu cs n K who o w := by
  obtain ⟨xs, h⟩ := h; exact ⟨xs, h1, h2, h3, h, h4, Touch.refl _ _⟩
/-- blocks that came later are none of its own -/
theorem Ary.adds {w w' : World} {B a c : Nat} {cs : List Int} {n : Nat} {K L : List Nat} (h : Ary w B a c cs n K) (hb : Below w.heap.size w w') (hL : ∀ m ∈ L, w.heap.size ≤ m ∧ m < w'.heap.size) : Ary w' B a c cs n (L ++ K) := by
  obtain ⟨xs, ⟨lv, hL', hg⟩, h1, h2, h3, h4, h5, h6⟩ := h
  have la := hL'.at'.own.lt
  have lc := hL'.at'.row.lt
  have lg := fun g hg => (hL'.own.lt g hg).2
  refine ⟨xs, ⟨lv, hL'.grew hb, fun g e r => ?_⟩, fun r => ?_, fun r => ?_, fun b r => ?_, h4, h5, Nat.le_trans h6 hb.size⟩
  · rcases List.mem_append.1 r with r | r
    · have := hL g r; have := lg g e; omega
    · exact hg g e r
  · rcases List.mem_append.1 r with r | r
    · have := hL a r; omega
    · exact h1 r
  · rcases List.mem_append.1 r with r | r
    · have := hL c r; omega
    · exact h2 r
  · rcases List.mem_append.1 r with r | r
    · exact (hL b r).2
    · exact Nat.lt_of_lt_of_le (h3 b r) hb.size
theorem marked_no (x : Option Addr) (P T R rf : Int) (w : World) (hu : U64 rf) (h : refB P T R rf = false) :
    Calls Try.prog 28 #[.pointer x, .agg #[.int .i64 P, .int .i64 T, .int .i64 R], .int .u64 rf] w fun e w' => e = .returned (.bool false) ∧ Below w.heap.size w w' := by
  have PL := Lib.hid (fun W => splace_no P T R rf W hu h)
  clear hu h
  go_enter Try.func28, Try.ntmps28
  have c0 := (planNew w P T R 53)
  go_wp2_with fail
  refine (PL.out _).mono ?_; rintro e w1 ⟨rfl, hb1⟩
  have c1 := planKeep c0 hb1
  go_wp2
  go_ret
  exact ⟨rfl, c1.2⟩
theorem marked_nil (P T R rf : Int) (w : World) (hu : U64 rf) :
    Calls Try.prog 28 #[.pointer none, .agg #[.int .i64 P, .int .i64 T, .int .i64 R], .int .u64 rf] w fun e w' => e = .returned (.bool false) ∧ Below w.heap.size w w' := by
  by_cases h : refB P T R rf = true
  · have PL := Lib.hid (fun W => splace_yes P T R rf W hu h)
    clear hu h
    go_enter Try.func28, Try.ntmps28
    have c0 := (planNew w P T R 53)
    go_wp2_with fail
    refine (PL.out _).mono ?_; rintro e w1 ⟨rfl, hb1⟩
    have c1 := planKeep c0 hb1
    go_wp2_with fail
    refine (peek_nil _ _).mono ?_; rintro e w2 ⟨rfl, hq2⟩
    have hB := c1.2.trans hq2.below
    go_wp2
    go_ret
    exact ⟨rfl, hB⟩
  · exact marked_no none P T R rf w hu (Bool.not_eq_true _ |>.mp h)
theorem marked_yes {B a c n i : Nat} {cs : List Int} {K : List Nat} (P T R rf : Int) (w : World) (hu : U64 rf) (h : refB P T R rf = true) (hA : Ary w B a c cs n K) (hi : cellI P T R rf = (i : Int)) (hl : i < cs.length) (hm : cs.length ≤ 1000000) :
    Calls Try.prog 28 #[.pointer (some ⟨a, 0, none⟩), .agg #[.int .i64 P, .int .i64 T, .int .i64 R], .int .u64 rf] w fun e w' => e = .returned (.bool (bits .and .u64 (cs.getD i 0) (bitI P T R rf) != 0)) ∧ Below w.heap.size w w' := by
  have PL := Lib.hid (fun W => splace_yes P T R rf W hu h)
  rw [hi] at PL
  have PK := Lib.hid (fun W (h : Ary W B a c cs n K) => (show Calls Try.prog 40 #[.pointer (some ⟨a, 0, none⟩), .int .i64 i] W fun e w' => e = .returned (.tuple #[.int .u64 (cs.getD i 0), .int .i64 0]) ∧ Quiet W w' by obtain ⟨xs, h⟩ := h; exact peek_x h hl hm))
  have hA0 := hA.grew ((Below.refl _ _).alloc (Nat.le_refl _) (.cells #[.int .i64 P, .int .i64 T, .int .i64 R] 53))
  clear hu h hi hl hm hA
  generalize cs.getD i 0 = z at *
  go_enter Try.func28, Try.ntmps28
  have c0 := (planNew w P T R 53)
  go_wp2_with fail
  refine (PL.out _).mono ?_; rintro e w1 ⟨rfl, hb1⟩
  have c1 := planKeep c0 hb1
  have hA1 := hA0.grew hb1
  go_wp2_with fail
  refine (PK.out _ hA1).mono ?_; rintro e w2 ⟨rfl, hq2⟩
  have hB := c1.2.trans hq2.below
  go_wp2
  go_ret
  exact ⟨rfl, hB⟩
set_option maxRecDepth 100000 in
set_option maxHeartbeats 4000000 in
theorem shaded_any (w : World) :
    Calls Try.prog 7 #[] w fun e w' => e = .returned (.bool true) ∧ Below w.heap.size w w' := by
  have hx : exB 1 1 1 0 = true := by kernel_rfl
  have hu : U64 66 := ⟨by decide, by decide⟩
  have hu7 : U64 67 := ⟨by decide, by decide⟩
  have hr : refB 1 1 1 66 = true := by kernel_rfl
  have hr7 : refB 1 1 1 67 = true := by kernel_rfl
  have hce : cellI 1 1 1 66 = ((24 : Nat) : Int) := by kernel_rfl
  have hce7 : cellI 1 1 1 67 = ((24 : Nat) : Int) := by kernel_rfl
  obtain ⟨cs0, h0⟩ : ∃ cs0, List.replicate (cellsN 1 1 1) (0 : Int) = cs0 := ⟨_, rfl⟩
  obtain ⟨cs1, h1⟩ : ∃ cs1, cs0.set 24 (bits .or .u64 (cs0.getD 24 0) (bitI 1 1 1 66)) = cs1 := ⟨_, rfl⟩
  obtain ⟨cs2, h2⟩ : ∃ cs2, cs1.set (slotN 1 0 0) 66 = cs2 := ⟨_, rfl⟩
  obtain ⟨cs3, h3⟩ : ∃ cs3, cs2.set (ownN 1 0 4) (IntKind.u64.wrap (0 + 1)) = cs3 := ⟨_, rfl⟩
  obtain ⟨cs4, h4⟩ : ∃ cs4, cs3.set 24 (bits .or .u64 (cs3.getD 24 0) (bitI 1 1 1 66)) = cs4 := ⟨_, rfl⟩
  have l0 : cs0.length = cellsN 1 1 1 := by rw [← h0]; simp
  have l3 : cs3.length = cellsN 1 1 1 := by rw [← h3, ← h2, ← h1]; simp [l0]
  have l4 : cs4.length = cellsN 1 1 1 := by rw [← h4]; simp [l3]
  have hN : cellsN 1 1 1 = 128 := by kernel_rfl
  have f1 : (bits .and .u64 (cs0.getD 24 0) (bitI 1 1 1 66) == 0) = true := by rw [← h0]; kernel_rfl
  have hz : cs1.getD (ownN 1 0 4) 0 = 0 := by rw [← h1, ← h0]; kernel_rfl
  have hro : fullB 1 0 (cs1.getD (ownN 1 0 3) 0) = false := by rw [← h1, ← h0]; kernel_rfl
  have f2 : (bits .and .u64 (cs3.getD 24 0) (bitI 1 1 1 66) == 0) = false := by rw [← h3, ← h2, ← h1, ← h0]; kernel_rfl
  have f6 : (bits .and .u64 (cs4.getD 24 0) (bitI 1 1 1 66) != 0) = true := by rw [← h4, ← h3, ← h2, ← h1, ← h0]; kernel_rfl
  have f7 : (bits .and .u64 (cs4.getD 24 0) (bitI 1 1 1 67) != 0) = false := by rw [← h4, ← h3, ← h2, ← h1, ← h0]; kernel_rfl
  have L := Lib.hid (fun W => slay_yes 1 1 1 0 W (right_of (by kernel_rfl)) (by decide) (by decide))
  unfold LayPost at L
  rw [h0] at L
  have NS := Lib.hid (fun W => newshade_yes 1 1 1 0 66 W hx hu (by decide) hr)
  unfold NewShadePost at NS
  rw [hce] at NS
  have R1 := Lib.hid (fun (p s mk pu : Nat) (K : List Nat) (a1 : s ≠ p) (a2 : s ≠ mk) (a3 : s ≠ pu) (a4 : mk ≠ p) (a5 : mk ≠ pu) (a6 : pu ≠ p) (b1 : s ∈ K) (b2 : mk ∈ K) (b3 : pu ∈ K) (b4 : p ∈ K) => (ShR.mk hx a1 a2 a3 a4 a5 a6 b1 b2 b3 b4 l0 (by rw [l0, hN]; decide) : ShR 1 1 1 0 p s mk pu 24 cs0 K))
  have R2 := Lib.hid (fun (p s mk pu : Nat) (K : List Nat) (a1 : s ≠ p) (a2 : s ≠ mk) (a3 : s ≠ pu) (a4 : mk ≠ p) (a5 : mk ≠ pu) (a6 : pu ≠ p) (b1 : s ∈ K) (b2 : mk ∈ K) (b3 : pu ∈ K) (b4 : p ∈ K) => (ShR.mk hx a1 a2 a3 a4 a5 a6 b1 b2 b3 b4 l3 (by rw [l3, hN]; decide) : ShR 1 1 1 0 p s mk pu 24 cs3 K))
  have M6 := Lib.hid (fun W B a c n K (h : Ary W B a c cs4 n K) => marked_yes 1 1 1 66 W hu hr h hce (by rw [l4, hN]; decide) (by rw [l4, hN]; decide))
  have M7 := Lib.hid (fun W B a c n K (h : Ary W B a c cs4 n K) => marked_yes 1 1 1 67 W hu7 hr7 h hce7 (by rw [l4, hN]; decide) (by rw [l4, hN]; decide))
  rw [f6] at M6
  rw [f7] at M7
  have FF := Lib.hid (fun W p s mk pu B a c n K who (hr : ShR 1 1 1 0 p s mk pu 24 cs0 K) (hn : n < 999990) (h : ShE W B a c p s mk pu 1 1 1 0 66 24 (bitI 1 1 1 66) 1 false 1 false 0 1 false cs0 n K who false W) => sfinish_fresh cs1 cs2 cs3 0 h hr hn f1 h1 hz hro ⟨by decide, by decide⟩ h2 h3)
  have FS := Lib.hid (fun W p s mk pu B a c n K who (hr : ShR 1 1 1 0 p s mk pu 24 cs3 K) (hn : n < 999990) (h : ShE W B a c p s mk pu 1 1 1 0 66 24 (bitI 1 1 1 66) 1 false 1 false 0 1 false cs3 n K who false W) => sfinish_seen h hr hn f2)
  rw [h4] at FS
  clear hx hu hu7 hr hr7 hce hce7 h0 h1 h2 h3 h4 l0 l3 l4 hN f1 hz hro f2 f6 f7
  generalize bitI 1 1 1 66 = bi at *
  go_enter Try.func7, Try.ntmps7
  have hQ0 := (Blk.new w #[.int .i64 1, .int .i64 1, .int .i64 1] 23)
  have hB0 : Below w.heap.size w (w.alloc (.cells #[.int .i64 1, .int .i64 1, .int .i64 1] 23)) := (Below.refl _ _).alloc (Nat.le_refl _) _
  go_wp2_with fail
  generalize w.alloc (.cells #[.int .i64 1, .int .i64 1, .int .i64 1] 23) = w0 at *
  have lq := hQ0.lt
  refine (L.out _).mono ?_; rintro e w1 ⟨a, c, p, rfl, hX1, hP1, hp, hb1⟩
  have hY1 : Ary w1 w0.heap.size a c cs0 0 [p] := ⟨_, hX1⟩
  have hQ1 := hQ0.grew hb1
  have hB1 := hB0.trans (hb1.mono hB0.size)
  have q1 := hQ1.three.1
  clear hX1 hb1 hQ0 hB0 L
  go_wp2_with fail
  refine (splan_any 1 1 1 _).mono ?_; rintro e w2 ⟨rfl, hb2⟩
  have hY2 := hY1.grew hb2
  have hP2 := Blk.grew hP1 hb2
  have hQ2 := hQ1.grew hb2
  have hB2 := hB1.trans (hb2.mono hB1.size)
  clear hY1 hP1 hb2 hB1 hQ1 q1
  as_aux_lemma =>
    go_wp2_with fail
    refine (NS.out _).mono ?_; rintro e w3 ⟨s1, k1, u1, rfl, hS3, hM3, hU3, hk3, hku3, hus3, hb3⟩
    have lS3 := hS3.lt
    have hY3 := hY2.adds (L := [s1, k1, u1]) hb3 (by simp; omega)
    have hP3 := Blk.grew hP2 hb3
    have hQ3 := hQ2.grew hb3
    have hB3 := hB2.trans (hb3.mono hB2.size)
    have q3 := hQ3.three.1
    have lp2 := hP2.lt
    have lw2 := hB2.size
    clear hY2 hP2 hb3 hB2 hQ2
    as_aux_lemma =>
      go_wp2_with fail
      refine (splan_any 1 1 1 _).mono ?_; rintro e w4 ⟨rfl, hb4⟩
      have hY4 := hY3.grew hb4
      have hP4 := Blk.grew hP3 hb4
      have hQ4 := hQ3.grew hb4
      have hS4 := Blk.grew hS3 hb4
      have hM4 := Blk.grew hM3 hb4
      have hU4 := Blk.grew hU3 hb4
      have hB4 := hB3.trans (hb4.mono hB3.size)
      have ls4 := hb4.size
      clear hY3 hP3 hb4 hB3 hQ3 q3 hS3 hM3 hU3
      go_wp2_with fail
      refine (NS.out _).mono ?_; rintro e w5 ⟨s2, k2, u2, rfl, hS5, hM5, hU5, hk5, hku5, hus5, hb5⟩
      have lS5 := hS5.lt
      have hY5 := hY4.adds (L := [s2, k2, u2]) hb5 (by simp; omega)
      have hP5 := Blk.grew hP4 hb5
      have hQ5 := hQ4.grew hb5
      have hB5 := hB4.trans (hb5.mono hB4.size)
      have hS1 := Blk.grew hS4 hb5
      have hM1 := Blk.grew hM4 hb5
      have hU1 := Blk.grew hU4 hb5
      clear hY4 hP4 hb5 hB4 hQ4 hS4 hM4 hU4
      as_aux_lemma =>
        go_wp2_with fail
        refine (FF.out _ p s1 k1 u1 _ a c 0 _ 0 (R1.out p s1 k1 u1 _ (by omega) (by omega) (by omega) (by omega) (by omega) (by omega) (by simp) (by simp) (by simp) (by simp)) (by decide) (hY5.sh hS1 hM1 hU1 hP5)).mono ?_; rintro e w6 ⟨rfl, h6⟩
        obtain ⟨hS6, hM6, hU6, hP6, hT6⟩ := h6.parts
        have hY6 := h6.ary
        have hS7 := Blk.touch hS5 hT6 (by simp; omega)
        have hM7 := Blk.touch hM5 hT6 (by simp; omega)
        have hU7 := Blk.touch hU5 hT6 (by simp; omega)
        have hQ6 := hQ5.touch hT6 (by simp; omega)
        have hB6 := hB5.trans (hT6.below hB5.size (fun x hx => by rcases hx with rfl | rfl | rfl | rfl | hx <;> omega))
        clear hY5 hP5 hB5 hQ5 hS1 hM1 hU1 hS5 hM5 hU5 h6 hT6 FF
        as_aux_lemma =>
          go_wp2_with fail
          refine (FS.out _ p s2 k2 u2 _ a c _ _ 0 (R2.out p s2 k2 u2 _ (by omega) (by omega) (by omega) (by omega) (by omega) (by omega) (by simp) (by simp) (by simp) (by simp)) (by decide) (hY6.sh hS7 hM7 hU7 hP6)).mono ?_; rintro e w7 ⟨rfl, h7⟩
          obtain ⟨hS8, hM8, hU8, hP8, hT7⟩ := h7.parts
          have hY7 := h7.ary
          have hS9 := Blk.touch hS6 hT7 (by simp; omega)
          have hM9 := Blk.touch hM6 hT7 (by simp; omega)
          have hQ7 := hQ6.touch hT7 (by simp; omega)
          have hB7 := hB6.trans (hT7.below hB6.size (fun x hx => by rcases hx with rfl | rfl | rfl | rfl | hx <;> omega))
          clear hY6 hP6 hB6 hQ6 hS6 hM6 hU6 hS7 hM7 hU7 h7 hT7 FS
          as_aux_lemma =>
            go_wp2_with fail
            refine (fresh_shade hS9 hM9).mono ?_; rintro e w8 ⟨rfl, hq8⟩
            have hSA := Blk.quiet hS8 hq8
            have hMA := Blk.quiet hM8 hq8
            have hQ8 := hQ7.quiet hq8
            have hY8 := hY7.quiet hq8
            have hB8 := hB7.trans hq8.below
            clear hS9 hM9 hS8 hM8 hQ7 hY7 hB7 hq8
            go_wp2_with fail
            refine (fresh_shade hSA hMA).mono ?_; rintro e w9 ⟨rfl, hq9⟩
            have hQ9 := hQ8.quiet hq9
            have hY9 := hY8.quiet hq9
            have hB9 := hB8.trans hq9.below
            have q9 := hQ9.three.1
            clear hSA hMA hQ8 hY8 hB8 hq9
            go_wp2_with fail
            refine (splan_any 1 1 1 _).mono ?_; rintro e w10 ⟨rfl, hb10⟩
            have hQ10 := hQ9.grew hb10
            have hY10 := hY9.grew hb10
            have hB10 := hB9.trans (hb10.mono hB9.size)
            clear hQ9 hY9 hB9 q9 hb10
            as_aux_lemma =>
              go_wp2_with fail
              refine (M6.out _ _ _ _ _ _ hY10).mono ?_; rintro e w11 ⟨rfl, hb11⟩
              have hQ11 := hQ10.grew hb11
              have hY11 := hY10.grew hb11
              have hB11 := hB10.trans (hb11.mono hB10.size)
              have q11 := hQ11.three.1
              clear hQ10 hY10 hB10 hb11
              go_wp2_with fail
              refine (splan_any 1 1 1 _).mono ?_; rintro e w12 ⟨rfl, hb12⟩
              have hY12 := hY11.grew hb12
              have hB12 := hB11.trans (hb12.mono hB11.size)
              clear hQ11 hY11 hB11 q11 hb12
              go_wp2_with fail
              refine (M7.out _ _ _ _ _ _ hY12).mono ?_; rintro e w13 ⟨rfl, hb13⟩
              have hB13 := hB12.trans (hb13.mono hB12.size)
              go_wp2
              go_ret
              exact ⟨rfl, hB13⟩
end Go.Proofs.Ytlhigibgjggidaa
/- What small of the laws of package ring returns: a plan within a few. No condition. -/
namespace Go.Proofs.Ytlhigibgjggidaa
open Go.RowKit
def SmallPost (w : World) (e : Ending) (w' : World) : Prop :=
  ∃ P T R : Int, e = .returned (.agg #[.int .i64 P, .int .i64 T, .int .i64 R]) ∧ (1 ≤ P ∧ P ≤ 4) ∧ (1 ≤ T ∧ T ≤ 3) ∧ (1 ≤ R ∧ R ≤ 5) ∧ Below w.heap.size w w'
theorem small_bd (x k : Int) (h0 : 0 < k) (h1 : k ≤ 1000000) : 1 ≤ wrap64 (1 + wrap64 ((IntKind.u64.wrap x).tmod k)) ∧ wrap64 (1 + wrap64 ((IntKind.u64.wrap x).tmod k)) ≤ k := by
  have hw : 0 ≤ IntKind.u64.wrap x := by rw [IntKind.wrap_u64]; omega
  generalize IntKind.u64.wrap x = y at *
  have e : y.tmod k = y % k := by rw [Int.tmod_eq_emod_of_nonneg hw]
  have h2 : 0 ≤ y % k := Int.emod_nonneg _ (by omega)
  have h3 : y % k < k := Int.emod_lt_of_pos _ (by omega)
  rw [e]
  generalize y % k = z at *
  rw [IntWalk.wrap64_in z ⟨by omega, by omega⟩, IntWalk.wrap64_in (1 + z) ⟨by omega, by omega⟩]
  omega
end Go.Proofs.Ytlhigibgjggidaa
/- The cells of a thread's ring, by the document's map. Condition: the thread's number and the ring's places are small. -/
namespace Go.Proofs.Ytlhigibgjggidaa
open Go.RowKit
set_option linter.unusedVariables false
def ringC (R t k : Int) : Int := 16 + t * (5 + R) + k
theorem ringC_bd {R t k : Int} (hR : 1 ≤ R ∧ R ≤ 16) (ht : 0 ≤ t ∧ t ≤ 5) (hk : 0 ≤ k ∧ k ≤ 100) : 16 ≤ ringC R t k ∧ ringC R t k ≤ 1000 := by
  have h1 : 0 ≤ t * (5 + R) := Int.mul_nonneg ht.1 (by omega)
  have h2 : t * (5 + R) ≤ 5 * 21 := Int.mul_le_mul ht.2 (by omega) (by omega) (by omega)
  unfold ringC; omega
set_option maxHeartbeats 400000 in
theorem mhead_any (P T R x y z t : Int) (w : World) (hR : 1 ≤ R ∧ R ≤ 16) (ht : 0 ≤ t ∧ t ≤ 5) :
    Calls Try.prog 94 #[.agg #[.int .i64 P, .int .i64 T, .int .i64 R, .int .i64 x, .int .i64 y, .int .i64 z], .int .i64 t] w fun e w' => e = .returned (.int .i64 (ringC R t 3)) ∧ Below w.heap.size w w' := by
  have S := Lib.hid (fun W => mstatus_any P T R x y z t W hR (by omega))
  have hb := ringC_bd hR ht (k := 0) (by decide)
  unfold ringC at hb ⊢
  clear hR ht
  go_enter Try.func94, Try.ntmps94
  have hZ := (Blk.new w #[.int .i64 P, .int .i64 T, .int .i64 R, .int .i64 x, .int .i64 y, .int .i64 z] 38).six.1
  have hB0 : Below w.heap.size w (w.alloc (.cells #[.int .i64 P, .int .i64 T, .int .i64 R, .int .i64 x, .int .i64 y, .int .i64 z] 38)) := (Below.refl _ _).alloc (Nat.le_refl _) _
  go_wp2_with fail
  refine (S.out _).mono ?_
  rintro e w1 ⟨rfl, hb1⟩
  have hB1 := hB0.trans (hb1.mono hB0.size)
  have hq : 0 ≤ 16 + t * (5 + R) := by omega
  have hq2 : 16 + t * (5 + R) ≤ 1000 := by omega
  go_wp2
  go_ret
  exact ⟨ret_int (by first | rfl | simp | (simp; omega)), hB1⟩
set_option maxHeartbeats 400000 in
theorem mtail_any (P T R x y z t : Int) (w : World) (hR : 1 ≤ R ∧ R ≤ 16) (ht : 0 ≤ t ∧ t ≤ 5) :
    Calls Try.prog 93 #[.agg #[.int .i64 P, .int .i64 T, .int .i64 R, .int .i64 x, .int .i64 y, .int .i64 z], .int .i64 t] w fun e w' => e = .returned (.int .i64 (ringC R t 4)) ∧ Below w.heap.size w w' := by
  have S := Lib.hid (fun W => mstatus_any P T R x y z t W hR (by omega))
  have hb := ringC_bd hR ht (k := 0) (by decide)
  unfold ringC at hb ⊢
  clear hR ht
  go_enter Try.func93, Try.ntmps93
  have hZ := (Blk.new w #[.int .i64 P, .int .i64 T, .int .i64 R, .int .i64 x, .int .i64 y, .int .i64 z] 38).six.1
  have hB0 : Below w.heap.size w (w.alloc (.cells #[.int .i64 P, .int .i64 T, .int .i64 R, .int .i64 x, .int .i64 y, .int .i64 z] 38)) := (Below.refl _ _).alloc (Nat.le_refl _) _
  go_wp2_with fail
  refine (S.out _).mono ?_
  rintro e w1 ⟨rfl, hb1⟩
  have hB1 := hB0.trans (hb1.mono hB0.size)
  have hq : 0 ≤ 16 + t * (5 + R) := by omega
  have hq2 : 16 + t * (5 + R) ≤ 1000 := by omega
  go_wp2
  go_ret
  exact ⟨ret_int (by first | rfl | simp | (simp; omega)), hB1⟩
set_option maxHeartbeats 400000 in
theorem mslot_any (P T R x y z t n : Int) (w : World) (hn : U64 n) (hR : 1 ≤ R ∧ R ≤ 16) (ht : 0 ≤ t ∧ t ≤ 5) :
    Calls Try.prog 95 #[.agg #[.int .i64 P, .int .i64 T, .int .i64 R, .int .i64 x, .int .i64 y, .int .i64 z], .int .i64 t, .int .u64 n] w fun e w' => e = .returned (.int .i64 (ringC R t (5 + n % R))) ∧ Below w.heap.size w w' := by
  have S := Lib.hid (fun W => mstatus_any P T R x y z t W hR (by omega))
  have hb := ringC_bd hR ht (k := 0) (by decide)
  have hR0 : 0 < R := by omega
  have hm0 : 0 ≤ n % R := Int.emod_nonneg _ (by omega)
  have hm1 : n % R < 16 := by have := Int.emod_lt_of_pos n hR0; omega
  have hw : IntKind.u64.wrap R = R := by rw [IntKind.wrap_u64]; omega
  have htm : n.tmod R = n % R := by rw [Int.tmod_eq_emod_of_nonneg hn.1]
  have hRz : ¬ R = 0 := by omega
  have hr0 : (0 : Int) ≤ R := by omega
  have hr1 : R ≤ 16 := hR.2
  unfold ringC at hb ⊢
  clear hR ht
  go_enter Try.func95, Try.ntmps95
  have hZ := (Blk.new w #[.int .i64 P, .int .i64 T, .int .i64 R, .int .i64 x, .int .i64 y, .int .i64 z] 38).six.1
  have hB0 : Below w.heap.size w (w.alloc (.cells #[.int .i64 P, .int .i64 T, .int .i64 R, .int .i64 x, .int .i64 y, .int .i64 z] 38)) := (Below.refl _ _).alloc (Nat.le_refl _) _
  have hO : Blk (w.alloc (.cells #[.int .i64 P, .int .i64 T, .int .i64 R, .int .i64 x, .int .i64 y, .int .i64 z] 38)) w.heap.size #[.int .i64 P, .int .i64 T, .int .i64 R, .int .i64 x, .int .i64 y, .int .i64 z] 38 := Blk.new _ _ _
  go_wp2_with fail
  clear hZ
  generalize w.alloc (.cells #[.int .i64 P, .int .i64 T, .int .i64 R, .int .i64 x, .int .i64 y, .int .i64 z] 38) = wa at *
  have C6 := Lib.hid (fun W (h : Blk W w.heap.size #[.int .i64 P, .int .i64 T, .int .i64 R, .int .i64 x, .int .i64 y, .int .i64 z] 38) => (⟨h.val 0 rfl, h.val 1 rfl, h.val 2 rfl, h.val 3 rfl, h.val 4 rfl, h.val 5 rfl⟩ : (W.cell? ⟨w.heap.size, 0, none⟩ = some (.int .i64 P) ∧ W.cell? ⟨w.heap.size, 1, none⟩ = some (.int .i64 T) ∧ W.cell? ⟨w.heap.size, 2, none⟩ = some (.int .i64 R) ∧ W.cell? ⟨w.heap.size, 3, none⟩ = some (.int .i64 x) ∧ W.cell? ⟨w.heap.size, 4, none⟩ = some (.int .i64 y) ∧ W.cell? ⟨w.heap.size, 5, none⟩ = some (.int .i64 z))))
  have hS0 := C6.out _ hO
  have hq : 0 ≤ 16 + t * (5 + R) := by omega
  have hq2 : 16 + t * (5 + R) ≤ 1000 := by omega
  have hOd : Blk wa.drew w.heap.size #[.int .i64 P, .int .i64 T, .int .i64 R, .int .i64 x, .int .i64 y, .int .i64 z] 38 := hO.drew
  have hS0d := C6.out _ hOd
  have hBd : Below w.heap.size w wa.drew := hB0.trans (Quiet.below (B := w.heap.size) (show Quiet wa wa.drew from ⟨1, rfl⟩))
  go_region_held3 (fun W => (W.cell? ⟨w.heap.size, 0, none⟩ = some (.int .i64 P) ∧ W.cell? ⟨w.heap.size, 1, none⟩ = some (.int .i64 T) ∧ W.cell? ⟨w.heap.size, 2, none⟩ = some (.int .i64 R) ∧ W.cell? ⟨w.heap.size, 3, none⟩ = some (.int .i64 x) ∧ W.cell? ⟨w.heap.size, 4, none⟩ = some (.int .i64 y) ∧ W.cell? ⟨w.heap.size, 5, none⟩ = some (.int .i64 z)))
    (first | with_reducible assumption | with_reducible exact hS0 | with_reducible exact hS0d | with_reducible exact C6.out _ hOB.1)
    (first | (go_at_call 99; refine (S.out _).mono ?_; rintro e w1 ⟨rfl, hb1⟩; have hOB : Blk w1 w.heap.size #[.int .i64 P, .int .i64 T, .int .i64 R, .int .i64 x, .int .i64 y, .int .i64 z] 38 ∧ Below w.heap.size w w1 := (by first | exact ⟨Blk.grew hO hb1, hB0.trans (hb1.mono hB0.size)⟩ | exact ⟨Blk.grew hOd hb1, hBd.trans (hb1.mono hBd.size)⟩)))
  all_goals
    go_wp2
    go_ret
    exact ⟨ret_int (by rw [IntKind.wrap_i64, IntKind.wrap_i64, IntKind.wrap_i64]; omega), hOB.2⟩
end Go.Proofs.Ytlhigibgjggidaa
