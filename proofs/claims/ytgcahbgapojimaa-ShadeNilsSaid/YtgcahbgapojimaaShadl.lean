/- Words for the laws of package shade: an arena is laid, a shade is stepped to its end, an object's mark is looked at; an object is fresh once. Condition: the plan is right. -/
import Derived.Test.YtgcahbgapojimaaShadb
namespace Go.Proofs.Ytgcahbgapojimaa
open Go.RowKit

set_option maxHeartbeats 400000 in
theorem splan_any (P T R : Int) (w : World) :
    Calls Try.prog 50 #[.agg #[.int .i64 P, .int .i64 T, .int .i64 R]] w fun e w' => e = .returned (.agg #[.int .i64 P, .int .i64 T, .int .i64 R]) ∧ Below w.heap.size w w' := by
  go_enter Try.func50, Try.ntmps50
  have c0 := (planNew w P T R 26)
  go_wp2
  refine bodyPost_ret (v := .agg #[.int .i64 P, .int .i64 T, .int .i64 R]) (by simp [results, Try.results50, go_sem, *]) rfl ⟨rfl, ?_⟩
  exact c0.2.trans ((Below.refl _ _).alloc (by simp) _)
set_option maxHeartbeats 1000000 in
theorem slay_yes (P T R who : Int) (w : World) (h : Right P T R) (h0 : 0 ≤ who) (h1 : who ≤ 15) :
    Calls Try.prog 48 #[.agg #[.int .i64 P, .int .i64 T, .int .i64 R], .int .i64 who] w (LayPost P T R who w) := by
  obtain ⟨hc, hc1, hc2⟩ := cellsN_bd h
  have C := Lib.hid (fun W => rcells_yes P T R W h)
  rw [← hc] at C
  have N := Lib.hid (fun W => new_yes (cellsN P T R) true W hc1 (by omega))
  clear hc hc1 hc2 h
  go_enter Try.func48, Try.ntmps48
  have c0 := (planNew w P T R 26)
  go_wp2_with fail
  refine (C.out _).mono ?_; rintro e w1 ⟨rfl, hb1⟩
  have c1 := planKeep c0 hb1
  have hB1 := c1.2
  clear c0 hb1 c1
  go_wp2_with fail
  refine (N.out _).mono ?_; rintro e w2 ⟨a, c, rfl, hA2, ha, hc, hb2⟩
  have hB2 := hB1.trans (hb2.mono hB1.size)
  have hX2 : Arx w2 w.heap.size a c (List.replicate (cellsN P T R) 0) [] 0 [] := hA2.arx (Nat.le_trans hB1.size ha) (Nat.le_trans hB1.size hc) hB2.size
  clear hA2 hb2 hB1
  go_wp2_with fail
  refine (port_yes a who _ h0 h1).mono ?_; rintro e w3 ⟨p, rfl, hP3, hp, hb3⟩
  have hX3 := hX2.add hb3 hp hP3.lt
  have hB3 := hB2.trans (hb3.mono hB2.size)
  have hp' := Nat.le_trans hB2.size hp
  clear hX2 hb3 hB2
  go_wp2
  go_ret3
  exact ⟨a, c, p, rfl, hX3, hP3, hp', hB3⟩

/-- the three machines, the arena and the port, whatever the log tells -/
def ShE (w0 : World) (B a c p s mk pu : Nat) (P T R t rf : Int) (ce : Nat) (bi nx : Int) (lo : Bool) (mn : Int) (mf : Bool) (tl pn : Int) (fu : Bool) (cs : List Int) (n : Nat) (K : List Nat) (who : Int) (o : Bool) (w : World) : Prop :=
  ∃ xs, ShS w0 B a c p s mk pu P T R t rf ce bi nx lo mn mf tl pn fu cs xs n K who o w
section
variable {w0 w w' : World} {B a c p s mk pu ce : Nat} {P T R t rf bi nx mn tl pn : Int} {lo mf fu : Bool} {cs : List Int} {n : Nat} {K : List Nat} {who : Int} {o : Bool}
theorem ShE.grant (h : ShE w0 B a c p s mk pu P T R t rf ce bi nx lo mn mf tl pn fu cs n K who o w) (hr : ShR P T R t p s mk pu ce cs K) :
    Calls Try.prog 67 #[.pointer (some ⟨p, 0, none⟩)] w fun e w' => (∃ v, e = .returned v) ∧ ShE w0 B a c p s mk pu P T R t rf ce bi nx lo mn mf tl pn fu cs n K who true w' := by
  obtain ⟨xs, h⟩ := h
  exact (h.grant hr).mono fun _ _ ⟨he, h⟩ => ⟨he, _, h⟩

theorem ShE.s1f (h : ShE w0 B a c p s mk pu P T R t rf ce bi 1 lo 1 mf tl pn fu cs n K who true w) (hr : ShR P T R t p s mk pu ce cs K) (hn : n < 1000000) (hf : (bits .and .u64 (cs.getD ce 0) bi == 0) = true) :
    Calls Try.prog 59 #[.pointer (some ⟨s, 0, none⟩), .pointer (some ⟨p, 0, none⟩)] w fun e w' => e = .returned (.bool false) ∧ ShE w0 B a c p s mk pu P T R t rf ce bi 2 lo 0 true tl pn fu (cs.set ce (bits .or .u64 (cs.getD ce 0) bi)) (n + 1) K who false w' := by
  obtain ⟨xs, h⟩ := h
  exact (shade_step1_fresh h hr hn hf).mono fun _ _ ⟨he, h⟩ => ⟨he, _, h⟩

theorem ShE.s1s (h : ShE w0 B a c p s mk pu P T R t rf ce bi 1 lo 1 mf tl pn fu cs n K who true w) (hr : ShR P T R t p s mk pu ce cs K) (hn : n < 1000000) (hf : (bits .and .u64 (cs.getD ce 0) bi == 0) = false) :
    Calls Try.prog 59 #[.pointer (some ⟨s, 0, none⟩), .pointer (some ⟨p, 0, none⟩)] w fun e w' => e = .returned (.bool true) ∧ ShE w0 B a c p s mk pu P T R t rf ce bi 0 lo 0 false tl pn fu (cs.set ce (bits .or .u64 (cs.getD ce 0) bi)) (n + 1) K who false w' := by
  obtain ⟨xs, h⟩ := h
  exact (shade_step1_seen h hr hn hf).mono fun _ _ ⟨he, h⟩ => ⟨he, _, h⟩

theorem ShE.s2 (h : ShE w0 B a c p s mk pu P T R t rf ce bi 2 lo mn mf tl 1 false cs n K who true w) (hr : ShR P T R t p s mk pu ce cs K) (hn : n < 1000000) :
    Calls Try.prog 59 #[.pointer (some ⟨s, 0, none⟩), .pointer (some ⟨p, 0, none⟩)] w fun e w' => e = .returned (.bool false) ∧ ShE w0 B a c p s mk pu P T R t rf ce bi 2 lo mn mf (cs.getD (ownN R t 4) 0) 2 false cs (n + 1) K who false w' := by
  obtain ⟨xs, h⟩ := h
  exact (shade_step2_on h hr hr (fun W hW => push_step1 hW hr.ex hr.up hr.hu hr.hp hn hr.len)).mono fun _ _ ⟨he, h⟩ => ⟨he, _, h⟩

theorem ShE.s3r (h : ShE w0 B a c p s mk pu P T R t rf ce bi 2 lo mn mf tl 2 false cs n K who true w) (hr : ShR P T R t p s mk pu ce cs K) (hn : n < 1000000) (hf : fullB R tl (cs.getD (ownN R t 3) 0) = false) :
    Calls Try.prog 59 #[.pointer (some ⟨s, 0, none⟩), .pointer (some ⟨p, 0, none⟩)] w fun e w' => e = .returned (.bool false) ∧ ShE w0 B a c p s mk pu P T R t rf ce bi 2 lo mn mf tl 3 false cs (n + 1) K who false w' := by
  obtain ⟨xs, h⟩ := h
  exact (shade_step2_on h hr hr (fun W hW => push_step2_room hW hr.ex hr.up hr.hu hr.hp hn hr.len hf)).mono fun _ _ ⟨he, h⟩ => ⟨he, _, h⟩

theorem ShE.s3f (h : ShE w0 B a c p s mk pu P T R t rf ce bi 2 lo mn mf tl 2 false cs n K who true w) (hr : ShR P T R t p s mk pu ce cs K) (hn : n < 1000000) (hf : fullB R tl (cs.getD (ownN R t 3) 0) = true) :
    Calls Try.prog 59 #[.pointer (some ⟨s, 0, none⟩), .pointer (some ⟨p, 0, none⟩)] w fun e w' => e = .returned (.bool false) ∧ ShE w0 B a c p s mk pu P T R t rf ce bi 3 lo mn mf tl 0 true cs (n + 1) K who false w' := by
  obtain ⟨xs, h⟩ := h
  exact (shade_step2_full h hr hr (fun W hW => push_step2_full hW hr.ex hr.up hr.hu hr.hp hn hr.len hf)).mono fun _ _ ⟨he, h⟩ => ⟨he, _, h⟩

theorem ShE.s4 (h : ShE w0 B a c p s mk pu P T R t rf ce bi 2 lo mn mf tl 3 false cs n K who true w) (hr : ShR P T R t p s mk pu ce cs K) (hn : n < 1000000) (hu : U64 tl) :
    Calls Try.prog 59 #[.pointer (some ⟨s, 0, none⟩), .pointer (some ⟨p, 0, none⟩)] w fun e w' => e = .returned (.bool false) ∧ ShE w0 B a c p s mk pu P T R t rf ce bi 2 lo mn mf tl 4 false (cs.set (slotN R t tl) rf) (n + 1) K who false w' := by
  obtain ⟨xs, h⟩ := h
  exact (shade_step2_on h hr (hr.set _ _) (fun W hW => push_step3 hW hr.ex hr.up hr.hu hr.hp hn hr.len hu)).mono fun _ _ ⟨he, h⟩ => ⟨he, _, h⟩

theorem ShE.s5 (h : ShE w0 B a c p s mk pu P T R t rf ce bi 2 lo mn mf tl 4 false cs n K who true w) (hr : ShR P T R t p s mk pu ce cs K) (hn : n < 1000000) :
    Calls Try.prog 59 #[.pointer (some ⟨s, 0, none⟩), .pointer (some ⟨p, 0, none⟩)] w fun e w' => e = .returned (.bool true) ∧ ShE w0 B a c p s mk pu P T R t rf ce bi 0 lo mn mf tl 0 false (cs.set (ownN R t 4) (IntKind.u64.wrap (tl + 1))) (n + 1) K who false w' := by
  obtain ⟨xs, h⟩ := h
  exact (shade_step2_over h hr (hr.set _ _) (fun W hW => push_step4 hW hr.ex hr.up hr.hu hr.hp hn hr.len)).mono fun _ _ ⟨he, h⟩ => ⟨he, _, h⟩

theorem ShE.s6 (h : ShE w0 B a c p s mk pu P T R t rf ce bi 3 lo mn mf tl pn fu cs n K who true w) (hr : ShR P T R t p s mk pu ce cs K) (hn : n < 1000000) (h4 : 4 < cs.length) :
    Calls Try.prog 59 #[.pointer (some ⟨s, 0, none⟩), .pointer (some ⟨p, 0, none⟩)] w fun e w' => e = .returned (.bool true) ∧ ShE w0 B a c p s mk pu P T R t rf ce bi 0 true mn mf tl pn fu (cs.set 4 1) (n + 1) K who false w' := by
  obtain ⟨xs, h⟩ := h
  exact (shade_step3 h hr hn h4).mono fun _ _ ⟨he, h⟩ => ⟨he, _, h⟩

theorem sfinish_seen (h : ShE w0 B a c p s mk pu P T R t rf ce bi 1 lo 1 mf tl 1 false cs n K who o w) (hr : ShR P T R t p s mk pu ce cs K) (hn : n < 999990) (hf : (bits .and .u64 (cs.getD ce 0) bi == 0) = false) :
    Calls Try.prog 68 #[.pointer (some ⟨p, 0, none⟩), .pointer (some ⟨s, 0, none⟩)] w fun e w' => e = .returned (.int .i64 1) ∧ ShE w0 B a c p s mk pu P T R t rf ce bi 0 lo 0 false tl 1 false (cs.set ce (bits .or .u64 (cs.getD ce 0) bi)) (n + 1) K who false w' := by
  have G1 := Lib.hid (fun W o (h : ShE w0 B a c p s mk pu P T R t rf ce bi 1 lo 1 mf tl 1 false cs n K who o W) => h.grant hr)
  have S1 := Lib.hid (fun W (h : ShE w0 B a c p s mk pu P T R t rf ce bi 1 lo 1 mf tl 1 false cs n K who true W) => h.s1s hr (by omega) hf)
  clear hf
  generalize bits .or .u64 (cs.getD ce 0) bi = y at *
  go_enter Try.func68, Try.ntmps68
  go_wp2
  go_loopw [5] (fun i wr => i = .int .i64 1 ∧ ShE w0 B a c p s mk pu P T R t rf ce bi 1 lo 1 mf tl 1 false cs n K who o wr) (fun _ _ => 0)
  case atStart => exact ⟨rfl, h⟩
  case round =>
    obtain ⟨rfl, h1⟩ := hrel
    go_wp2_with fail
    refine (G1.out _ _ h1).mono ?_; rintro e w1 ⟨⟨u1, rfl⟩, h2⟩
    go_wp2_with fail
    refine (S1.out _ h2).mono ?_; rintro e w2 ⟨rfl, h3⟩
    go_wp2
    go_ret
    exact ⟨rfl, h3⟩

set_option maxHeartbeats 1000000 in
theorem sfinish_fresh (cs1 cs2 cs3 : List Int) (z : Int) (h : ShE w0 B a c p s mk pu P T R t rf ce bi 1 lo 1 mf tl 1 false cs n K who o w) (hr : ShR P T R t p s mk pu ce cs K) (hn : n < 999990) (hf : (bits .and .u64 (cs.getD ce 0) bi == 0) = true)
    (h1 : cs.set ce (bits .or .u64 (cs.getD ce 0) bi) = cs1) (hz : cs1.getD (ownN R t 4) 0 = z) (hro : fullB R z (cs1.getD (ownN R t 3) 0) = false) (hu : U64 z) (h2 : cs1.set (slotN R t z) rf = cs2) (h3 : cs2.set (ownN R t 4) (IntKind.u64.wrap (z + 1)) = cs3) :
    Calls Try.prog 68 #[.pointer (some ⟨p, 0, none⟩), .pointer (some ⟨s, 0, none⟩)] w fun e w' => e = .returned (.int .i64 5) ∧ ShE w0 B a c p s mk pu P T R t rf ce bi 0 lo 0 true z 0 false cs3 (n + 5) K who false w' := by
  have hr1 : ShR P T R t p s mk pu ce cs1 K := by rw [← h1]; exact hr.set _ _
  have hr2 : ShR P T R t p s mk pu ce cs2 K := by rw [← h2]; exact hr1.set _ _
  have G1 := Lib.hid (fun W o (h : ShE w0 B a c p s mk pu P T R t rf ce bi 1 lo 1 mf tl 1 false cs n K who o W) => h.grant hr)
  have S1 := Lib.hid (fun W (h : ShE w0 B a c p s mk pu P T R t rf ce bi 1 lo 1 mf tl 1 false cs n K who true W) => (h.s1f hr (by omega) hf).mono (R' := fun e w' => e = .returned (.bool false) ∧ ShE w0 B a c p s mk pu P T R t rf ce bi 2 lo 0 true tl 1 false cs1 (n + 1) K who false w') fun _ _ ⟨he, hk⟩ => ⟨he, by rw [← h1]; exact hk⟩)
  have G2 := Lib.hid (fun W (h : ShE w0 B a c p s mk pu P T R t rf ce bi 2 lo 0 true tl 1 false cs1 (n + 1) K who false W) => h.grant hr1)
  have S2 := Lib.hid (fun W (h : ShE w0 B a c p s mk pu P T R t rf ce bi 2 lo 0 true tl 1 false cs1 (n + 1) K who true W) => (h.s2 hr1 (by omega)).mono (R' := fun e w' => e = .returned (.bool false) ∧ ShE w0 B a c p s mk pu P T R t rf ce bi 2 lo 0 true z 2 false cs1 (n + 2) K who false w') fun _ _ ⟨he, hk⟩ => ⟨he, by rw [← hz]; exact hk⟩)
  have G3 := Lib.hid (fun W (h : ShE w0 B a c p s mk pu P T R t rf ce bi 2 lo 0 true z 2 false cs1 (n + 2) K who false W) => h.grant hr1)
  have S3 := Lib.hid (fun W (h : ShE w0 B a c p s mk pu P T R t rf ce bi 2 lo 0 true z 2 false cs1 (n + 2) K who true W) => (h.s3r hr1 (by omega) hro).mono (R' := fun e w' => e = .returned (.bool false) ∧ ShE w0 B a c p s mk pu P T R t rf ce bi 2 lo 0 true z 3 false cs1 (n + 3) K who false w') fun _ _ ⟨he, hk⟩ => ⟨he, by exact hk⟩)
  have G4 := Lib.hid (fun W (h : ShE w0 B a c p s mk pu P T R t rf ce bi 2 lo 0 true z 3 false cs1 (n + 3) K who false W) => h.grant hr1)
  have S4 := Lib.hid (fun W (h : ShE w0 B a c p s mk pu P T R t rf ce bi 2 lo 0 true z 3 false cs1 (n + 3) K who true W) => (h.s4 hr1 (by omega) hu).mono (R' := fun e w' => e = .returned (.bool false) ∧ ShE w0 B a c p s mk pu P T R t rf ce bi 2 lo 0 true z 4 false cs2 (n + 4) K who false w') fun _ _ ⟨he, hk⟩ => ⟨he, by rw [← h2]; exact hk⟩)
  have G5 := Lib.hid (fun W (h : ShE w0 B a c p s mk pu P T R t rf ce bi 2 lo 0 true z 4 false cs2 (n + 4) K who false W) => h.grant hr2)
  have S5 := Lib.hid (fun W (h : ShE w0 B a c p s mk pu P T R t rf ce bi 2 lo 0 true z 4 false cs2 (n + 4) K who true W) => (h.s5 hr2 (by omega)).mono (R' := fun e w' => e = .returned (.bool true) ∧ ShE w0 B a c p s mk pu P T R t rf ce bi 0 lo 0 true z 0 false cs3 (n + 5) K who false w') fun _ _ ⟨he, hk⟩ => ⟨he, by rw [← h3]; exact hk⟩)
  clear hf hz hro hu h1 h2 h3
  go_enter Try.func68, Try.ntmps68
  go_wp2
  go_loopw [5] (fun i wr => ∃ k : Int, (k = 1 ∧ ShE w0 B a c p s mk pu P T R t rf ce bi 1 lo 1 mf tl 1 false cs n K who o wr ∨ k = 2 ∧ ShE w0 B a c p s mk pu P T R t rf ce bi 2 lo 0 true tl 1 false cs1 (n + 1) K who false wr ∨ k = 3 ∧ ShE w0 B a c p s mk pu P T R t rf ce bi 2 lo 0 true z 2 false cs1 (n + 2) K who false wr ∨ k = 4 ∧ ShE w0 B a c p s mk pu P T R t rf ce bi 2 lo 0 true z 3 false cs1 (n + 3) K who false wr ∨ k = 5 ∧ ShE w0 B a c p s mk pu P T R t rf ce bi 2 lo 0 true z 4 false cs2 (n + 4) K who false wr) ∧ i = .int .i64 k) (fun i _ => (6 - intOf i).toNat)
  case atStart => exact ⟨1, .inl ⟨rfl, h⟩, rfl⟩
  case round =>
    obtain ⟨k, (⟨rfl, h1⟩ | ⟨rfl, h1⟩ | ⟨rfl, h1⟩ | ⟨rfl, h1⟩ | ⟨rfl, h1⟩), rfl⟩ := hrel
    · go_wp2_with fail
      refine (G1.out _ _ h1).mono ?_; rintro e w1 ⟨⟨u1, rfl⟩, h2⟩
      go_wp2_with fail
      refine (S1.out _ h2).mono ?_; rintro e w2 ⟨rfl, h3⟩
      go_wp2
      go_roundw
      case rel => exact ⟨2, .inr (.inl ⟨rfl, h3⟩), by go_num⟩
      case measure => simp [intOf]
    · go_wp2_with fail
      refine (G2.out _ h1).mono ?_; rintro e w1 ⟨⟨u1, rfl⟩, h2⟩
      go_wp2_with fail
      refine (S2.out _ h2).mono ?_; rintro e w2 ⟨rfl, h3⟩
      go_wp2
      go_roundw
      case rel => exact ⟨3, .inr (.inr (.inl ⟨rfl, h3⟩)), by go_num⟩
      case measure => simp [intOf]
    · go_wp2_with fail
      refine (G3.out _ h1).mono ?_; rintro e w1 ⟨⟨u1, rfl⟩, h2⟩
      go_wp2_with fail
      refine (S3.out _ h2).mono ?_; rintro e w2 ⟨rfl, h3⟩
      go_wp2
      go_roundw
      case rel => exact ⟨4, .inr (.inr (.inr (.inl ⟨rfl, h3⟩))), by go_num⟩
      case measure => simp [intOf]
    · go_wp2_with fail
      refine (G4.out _ h1).mono ?_; rintro e w1 ⟨⟨u1, rfl⟩, h2⟩
      go_wp2_with fail
      refine (S4.out _ h2).mono ?_; rintro e w2 ⟨rfl, h3⟩
      go_wp2
      go_roundw
      case rel => exact ⟨5, .inr (.inr (.inr (.inr (⟨rfl, h3⟩)))), by go_num⟩
      case measure => simp [intOf]
    · go_wp2_with fail
      refine (G5.out _ h1).mono ?_; rintro e w1 ⟨⟨u1, rfl⟩, h2⟩
      go_wp2_with fail
      refine (S5.out _ h2).mono ?_; rintro e w2 ⟨rfl, h3⟩
      go_wp2
      go_ret
      exact ⟨rfl, h3⟩
end
end Go.Proofs.Ytgcahbgapojimaa
