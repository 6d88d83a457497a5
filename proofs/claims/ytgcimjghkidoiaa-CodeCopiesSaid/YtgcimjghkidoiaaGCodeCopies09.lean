/- Texts of this seat, one behind the other: each says at its head what it holds. No condition of its own. -/
import Derived.Test.YtgcimjghkidoiaaGCodeCopies07
import Derived.Test.YtgcimjghkidoiaaGCodeCopies08
/- The law's own example: an instruction has its bytes. No condition. -/
namespace Go.Proofs.Ytgcimjghkidoiaa
open Go.RowKit
set_option linter.unusedVariables false
def i0D : InsD := ⟨25, 1, 300⟩
def p0D : PrgD := ⟨[], [⟨⟨#[102]⟩, [], 0, [], [i0D]⟩]⟩
theorem ins0_eq : insE i0D = .ok [25, 1, 172, 2] := by
  have h1 : rightB i0D = true := by decide
  rw [insE, if_pos h1]
  simp [insL, i0D, opsI, numB_lo, numB_hi]
theorem enc0_eq : encE p0D = .ok [87, 68, 82, 49, 0, 1, 1, 102, 0, 0, 0, 1, 25, 1, 172, 2] := by
  have n0 : numB 0 = [0] := numB_lo (by decide)
  have n1 : numB 1 = [1] := numB_lo (by decide)
  have nm : nameE ⟨#[102]⟩ = .ok [1, 102] := by
    show listE 1 16 _ = _
    simp [listE, seqE, n1, andE, nameF]
  have kd : ∀ m, kindsE [] m = .ok [0] := fun m => by simp [kindsE, listE, seqE, n0, andE]
  have cd : codeE [i0D] = .ok [1, 25, 1, 172, 2] := by simp [codeE, listE, seqE, n1, andE, ins0_eq]
  have fn : funE ⟨⟨#[102]⟩, [], 0, [], [i0D]⟩ = .ok [1, 102, 0, 0, 0, 1, 25, 1, 172, 2] := by
    simp [funE, nm, kd, cd, kindE, andE]
  simp [encE, p0D, clssE, funsE, listE, seqE, n0, n1, fn, andE, magicL]
theorem rd_nil {α : Type} (sz : Nat) (el : World → Nat → Nat → α → Prop) (B : Nat) (w : World) : RdRow sz el B w (.slice none 0 0) [] := ⟨none, 0, rfl, by unfold maxLen; simp, fun i hi => absurd hi (by simp)⟩
theorem coded_prg (w : World) : RdPrg (w.heap.size + 2) ((w.alloc (.cells #[.int .i64 25, .int .i64 1, .int .i64 300] 51)).alloc (.cells #[.string ⟨#[102]⟩, .slice none 0 0, .int .i64 0, .slice none 0 0, .slice (some ⟨w.heap.size, 0, none⟩) 1 1] 49)) (.slice none 0 0) (.slice (some ⟨w.heap.size + 1, 0, none⟩) 1 1) p0D := by
  have h1 : Blk ((w.alloc (.cells #[.int .i64 25, .int .i64 1, .int .i64 300] 51)).alloc (.cells #[.string ⟨#[102]⟩, .slice none 0 0, .int .i64 0, .slice none 0 0, .slice (some ⟨w.heap.size, 0, none⟩) 1 1] 49)) w.heap.size #[.int .i64 25, .int .i64 1, .int .i64 300] 51 := (Blk.new _ _ _).alloc _
  have h2 : Blk ((w.alloc (.cells #[.int .i64 25, .int .i64 1, .int .i64 300] 51)).alloc (.cells #[.string ⟨#[102]⟩, .slice none 0 0, .int .i64 0, .slice none 0 0, .slice (some ⟨w.heap.size, 0, none⟩) 1 1] 49)) (w.heap.size + 1) #[.string ⟨#[102]⟩, .slice none 0 0, .int .i64 0, .slice none 0 0, .slice (some ⟨w.heap.size, 0, none⟩) 1 1] 49 := Blk.new' (by simp)
  refine ⟨rd_nil _ _ _ _, some ⟨w.heap.size + 1, 0, none⟩, 1, rfl, by unfold maxLen; decide, fun i hi => ?_⟩
  obtain rfl : i = 0 := by simpa [p0D] using hi
  refine ⟨w.heap.size + 1, 0, rfl, by omega, h2.val 0 rfl, ⟨_, h2.val 1 rfl, rd_nil _ _ _ _⟩, ⟨h2.val 2 rfl, (⟨by decide, by decide⟩ : I64 0)⟩, ⟨_, h2.val 3 rfl, rd_nil _ _ _ _⟩, _, h2.val 4 rfl, ?_⟩
  refine ⟨some ⟨w.heap.size, 0, none⟩, 1, rfl, (by unfold maxLen; decide : 1 ≤ maxLen), fun i hi => ?_⟩
  obtain rfl : i = 0 := by simpa [p0D] using hi
  exact ⟨w.heap.size, 0, rfl, by omega, h1.val 0 rfl, h1.val 1 rfl, h1.val 2 rfl, (⟨by decide, by decide⟩ : I64 25), (⟨by decide, by decide⟩ : I64 1), (⟨by decide, by decide⟩ : I64 300)⟩
theorem own_cells {w : World} {B : Nat} {v : Value} {l : List UInt8} (h : w.ownsRow B 5 1 v l.length (u8L l)) (hl : 0 < l.length) : ∃ g cap, v = .slice (some ⟨g, 0, none⟩) l.length cap ∧ l.length ≤ cap ∧ ∀ j (hj : j < l.length), w.cell? ⟨g, j, none⟩ = some (.int .u8 (l[j].toNat : Int)) := by
  have hc := fun g (hg : v.ownBlock = some g) => h.cells hg
  rcases h.2 with ⟨e1, e2⟩ | ⟨g, cap, cur, e1, e2, e3, e4, _⟩
  · omega
  · refine ⟨g, cap, e1, e4, fun j hj => ?_⟩
    have := hc g (by rw [e1]; rfl) j (.int .u8 (l[j].toNat : Int)) (by simp [u8L, hj])
    have e : (⟨g, 0, none⟩ : Addr).add j = ⟨g, j, none⟩ := by unfold Addr.add; split <;> simp_all
    rw [e] at this
    exact this
set_option maxRecDepth 100000 in
set_option maxHeartbeats 2000000 in
theorem coded_any (w : World) : Calls Try.prog 6 #[] w fun e w' => e = .returned (.bool true) ∧ Below w.heap.size w w' := by
  have EN := Lib.hid (encode_any p0D _ _ _ (w.heap.size + 2) (by simp) (coded_prg w))
  have hb0 : Below w.heap.size w ((w.alloc (.cells #[.int .i64 25, .int .i64 1, .int .i64 300] 51)).alloc (.cells #[.string ⟨#[102]⟩, .slice none 0 0, .int .i64 0, .slice none 0 0, .slice (some ⟨w.heap.size, 0, none⟩) 1 1] 49)) := ((Below.refl _ _).alloc (Nat.le_refl _) _).alloc (by simp) _
  have HB := Lib.hid hb0
  clear hb0
  go_enter Try.func6, Try.ntmps6
  go_wp2_with fail
  refine EN.out.mono ?_
  rintro e w1 ⟨h1, h2⟩
  rw [enc0_eq] at h1
  obtain ⟨v, rfl, ho⟩ := h1
  obtain ⟨g, cap, rfl, hcap, hcell⟩ := own_cells ho (by decide)
  have hb1 := Lib.hid (HB.out.trans (h2.mono HB.out.size))
  have hcap' : (16 : Int) ≤ (cap : Int) := by simp at hcap; omega
  have hcv : (convert 22 9 (.slice (some ⟨g, 12, none⟩) 4 (cap - 12))).run Try.prog w1 = .ok (.string ⟨#[25, 1, 172, 2]⟩) w1 := run_convert_bytes_back (P := Try.prog) w1 22 9 5 ⟨g, 12, none⟩ (cap - 12) [25, 1, 172, 2] Try.underlying22 Try.underlying5 Try.underlying9 (fun j hj => by
    have e : (⟨g, 12, none⟩ : Addr).add j = ⟨g, 12 + j, none⟩ := by unfold Addr.add; split <;> simp_all
    rw [e, hcell (12 + j) (by simp at hj; simp; omega)]
    match j, hj with
    | 0, _ => rfl
    | 1, _ => rfl
    | 2, _ => rfl
    | 3, _ => rfl)
  clear hcell ho h2 hcap
  go_wp2
  go_ret
  exact ⟨rfl, hb1.out⟩
end Go.Proofs.Ytgcimjghkidoiaa
/- light; bytes of two rows. Condition: the argument reads as a program. -/
namespace Go.Proofs.Ytgcimjghkidoiaa
open Go.RowKit
set_option linter.unusedVariables false
def SomeB (w : World) (e : Ending) (w' : World) : Prop := ∃ b, e = .returned (.bool b) ∧ Below w.heap.size w w'
set_option maxRecDepth 100000 in
set_option maxHeartbeats 4000000 in
theorem light_any (p : PrgD) (v1 v2 : Value) (w : World) (B0 : Nat) (hB0 : B0 ≤ w.heap.size) (h : RdPrg B0 w v1 v2 p) :
    Calls Try.prog 10 #[.agg #[v1, v2]] w (SomeB w) := by
  obtain ⟨a1, p1, s1⟩ := rd_shape h.1
  obtain ⟨a2, p2, s2⟩ := rd_shape h.2
  subst s1 s2
  have hb : Below w.heap.size w (w.alloc (.cells #[.slice a1 p.classes.length p1, .slice a2 p.funcs.length p2] 27)) := (Below.refl _ _).alloc (Nat.le_refl _) _
  have hr := (h.mono hB0).keep hb
  have k0 : Blk (w.alloc (.cells #[.slice a1 p.classes.length p1, .slice a2 p.funcs.length p2] 27)) w.heap.size #[.slice a1 p.classes.length p1, .slice a2 p.funcs.length p2] 27 := Blk.new _ _ _
  have y0 := k0.val 0 rfl
  have y1 := k0.val 1 rfl
  have hmx1 : p.classes.length ≤ maxLen := by obtain ⟨_, _, _, q, _⟩ := hr.1; exact q
  have hmx2 : p.funcs.length ≤ maxLen := by obtain ⟨_, _, _, q, _⟩ := hr.2; exact q
  unfold maxLen at hmx1 hmx2
  have HR := Lib.hid hr
  have HB := Lib.hid hb
  clear h hB0 hr hb k0
  go_enter Try.func10, Try.ntmps10
  by_cases c1 : 40 < p.classes.length
  · have c1' : (40 : Int) < (p.classes.length : Int) := by omega
    go_wp2
    go_ret
    exact ⟨_, rfl, HB.out⟩
  have c1' : ¬ (40 : Int) < (p.classes.length : Int) := by omega
  by_cases c2 : 40 < p.funcs.length
  · have c2' : (40 : Int) < (p.funcs.length : Int) := by omega
    go_wp2
    go_ret
    exact ⟨_, rfl, HB.out⟩
  have c2' : ¬ (40 : Int) < (p.funcs.length : Int) := by omega
  go_wp2
  go_loop [3] (fun x => ∃ i : Nat, i ≤ p.classes.length ∧ x = .int .i64 i) (fun x => p.classes.length - (intOf x).toNat)
  case atStart => exact ⟨0, by omega, rfl⟩
  case round =>
    obtain ⟨i, hi, rfl⟩ := hrel
    by_cases hlt : i < p.classes.length
    · have hlt' : (i : Int) < (p.classes.length : Int) := by omega
      obtain ⟨_, _, hva, _, hel⟩ := HR.out.1
      injection hva with hva1 hva2 hva3
      subst hva1 hva3
      obtain ⟨d, o, hdo, hdB, t1, vf, t2, hvf⟩ := hel i hlt
      subst hdo
      obtain ⟨fa, fc, hfs⟩ := rd_shape hvf
      subst hfs
      have i1 : (0 : Int) ≤ (i : Int) ∧ (i : Int) < (p.classes.length : Int) := ⟨by omega, by omega⟩
      have i2 : 0 < p.classes.length := by omega
      clear hel hvf
      generalize p.classes[i].fields.length = m at *
      by_cases c3 : 40 < m
      · have c3' : (40 : Int) < (m : Int) := by omega
        go_wp2
        go_ret
        exact ⟨_, rfl, HB.out⟩
      · have c3' : ¬ (40 : Int) < (m : Int) := by omega
        go_wp2
        go_round
        case rel => exact ⟨i + 1, by omega, by go_num⟩
        case measure => simp [intOf]; omega
    · have hlt' : ¬ (i : Int) < (p.classes.length : Int) := by omega
      go_wp2
      go_loop [4] (fun x => ∃ i : Nat, i ≤ p.funcs.length ∧ x = .int .i64 i) (fun x => p.funcs.length - (intOf x).toNat)
      case atStart => exact ⟨0, by omega, rfl⟩
      case round =>
        obtain ⟨j, hj, rfl⟩ := hrel
        by_cases hltj : j < p.funcs.length
        · have hlt' : (j : Int) < (p.funcs.length : Int) := by omega
          obtain ⟨_, _, hva, _, hel⟩ := HR.out.2
          injection hva with hva1 hva2 hva3
          subst hva1 hva3
          obtain ⟨d, o, hdo, hdB, t1, ⟨u1, t2, r1⟩, ⟨t3, _⟩, ⟨u3, t4, r3⟩, u4, t5, r4⟩ := hel j hltj
          subst hdo
          obtain ⟨fa1, fc1, hf1⟩ := rd_shape r1
          obtain ⟨fa3, fc3, hf3⟩ := rd_shape r3
          obtain ⟨fa4, fc4, hf4⟩ := rd_shape r4
          subst hf1 hf3 hf4
          have i1 : (0 : Int) ≤ (j : Int) ∧ (j : Int) < (p.funcs.length : Int) := ⟨by omega, by omega⟩
          have i2 : 0 < p.funcs.length := by omega
          clear hel r1 r3 r4
          generalize p.funcs[j].params.length = m1 at *
          generalize p.funcs[j].locals.length = m2 at *
          generalize p.funcs[j].code.length = m3 at *
          by_cases c3 : 400 < m3
          · have c3' : (400 : Int) < (m3 : Int) := by omega
            go_wp2
            go_ret
            exact ⟨_, rfl, HB.out⟩
          have c3' : ¬ (400 : Int) < (m3 : Int) := by omega
          by_cases c4 : 40 < m1
          · have c4' : (40 : Int) < (m1 : Int) := by omega
            go_wp2
            go_ret
            exact ⟨_, rfl, HB.out⟩
          have c4' : ¬ (40 : Int) < (m1 : Int) := by omega
          by_cases c5 : 40 < m2
          · have c5' : (40 : Int) < (m2 : Int) := by omega
            go_wp2
            go_ret
            exact ⟨_, rfl, HB.out⟩
          have c5' : ¬ (40 : Int) < (m2 : Int) := by omega
          go_wp2
          go_round
          case rel => exact ⟨j + 1, by omega, by go_num⟩
          case measure => simp [intOf]; omega
        · have hlt' : ¬ (j : Int) < (p.funcs.length : Int) := by omega
          go_wp2
          go_ret
          exact ⟨_, rfl, HB.out⟩
/-- bytes of a row as a text -/
theorem conv_row {w : World} {B : Nat} {v : Value} {l : List UInt8} (h : w.ownsRow B 5 1 v l.length (u8L l)) : (convert 22 9 v).run Try.prog w = .ok (.string ⟨l.toArray⟩) w := by
  rcases Nat.eq_zero_or_pos l.length with h0 | h0
  · obtain rfl : l = [] := List.eq_nil_of_length_eq_zero h0
    obtain ⟨a, c, rfl⟩ := row_shape h
    cases a with
    | none => exact run_convert_bytes_string w 22 9 5 none 0 c Try.underlying22 Try.underlying5 Try.underlying9
    | some ad => exact run_convert_bytes_back w 22 9 5 ad c [] Try.underlying22 Try.underlying5 Try.underlying9 (fun j hj => absurd hj (by simp))
  · obtain ⟨g, cap, rfl, _, hc⟩ := own_cells h h0
    exact run_convert_bytes_back w 22 9 5 ⟨g, 0, none⟩ cap l Try.underlying22 Try.underlying5 Try.underlying9 (fun j hj => by
      have e : (⟨g, 0, none⟩ : Addr).add j = ⟨g, j, none⟩ := by unfold Addr.add; split <;> simp_all
      rw [e]; exact hc j hj)
set_option maxHeartbeats 1000000 in
theorem bytes_same (w : World) (va vb : Value) (s : ByteArray) (h1 : (convert 22 9 va).run Try.prog w = .ok (.string s) w) (h2 : (convert 22 9 vb).run Try.prog w = .ok (.string s) w) :
    Calls Try.prog 13 #[va, vb] w fun e w' => e = .returned (.bool true) ∧ w = w' := by
  have hs : (s.toList == s.toList) = true := by simp
  go_enter Try.func13, Try.ntmps13
  go_wp2
  go_ret
  exact ⟨rfl, rfl⟩
set_option maxHeartbeats 1000000 in
theorem bytes_two (w : World) (va vb : Value) (s t : ByteArray) (h1 : (convert 22 9 va).run Try.prog w = .ok (.string s) w) (h2 : (convert 22 9 vb).run Try.prog w = .ok (.string t) w) :
    Calls Try.prog 13 #[va, vb] w fun e w' => e = .returned (.bool (s.toList == t.toList)) ∧ w = w' := by
  go_enter Try.func13, Try.ntmps13
  go_wp2
  go_ret
  exact ⟨rfl, rfl⟩
end Go.Proofs.Ytgcimjghkidoiaa
/- light, with what it tells. Condition: the argument reads as a program. -/
namespace Go.Proofs.Ytgcimjghkidoiaa
open Go.RowKit
set_option linter.unusedVariables false
/-- a program of few parts -/
def LtP (p : PrgD) : Prop := p.classes.length ≤ 40 ∧ p.funcs.length ≤ 40 ∧ (∀ c ∈ p.classes, c.fields.length ≤ 40) ∧ ∀ f ∈ p.funcs, f.params.length ≤ 40 ∧ f.locals.length ≤ 40 ∧ f.code.length ≤ 400
def SomeL (p : PrgD) (w : World) (e : Ending) (w' : World) : Prop := ∃ b, e = .returned (.bool b) ∧ Below w.heap.size w w' ∧ (b = true → LtP p)
theorem all_at {α : Type} {p : α → Prop} {l : List α} (h : ∀ q (hq : q < l.length), p l[q]) : ∀ x ∈ l, p x := by
  intro x hx
  obtain ⟨i, hi, rfl⟩ := List.getElem_of_mem hx
  exact h i hi
set_option maxRecDepth 100000 in
set_option maxHeartbeats 4000000 in
theorem lightp_any (p : PrgD) (v1 v2 : Value) (w : World) (B0 : Nat) (hB0 : B0 ≤ w.heap.size) (h : RdPrg B0 w v1 v2 p) :
    Calls Try.prog 10 #[.agg #[v1, v2]] w (SomeL p w) := by
  obtain ⟨a1, p1, s1⟩ := rd_shape h.1
  obtain ⟨a2, p2, s2⟩ := rd_shape h.2
  subst s1 s2
  have hb : Below w.heap.size w (w.alloc (.cells #[.slice a1 p.classes.length p1, .slice a2 p.funcs.length p2] 27)) := (Below.refl _ _).alloc (Nat.le_refl _) _
  have hr := (h.mono hB0).keep hb
  have k0 : Blk (w.alloc (.cells #[.slice a1 p.classes.length p1, .slice a2 p.funcs.length p2] 27)) w.heap.size #[.slice a1 p.classes.length p1, .slice a2 p.funcs.length p2] 27 := Blk.new _ _ _
  have y0 := k0.val 0 rfl
  have y1 := k0.val 1 rfl
  have hmx1 : p.classes.length ≤ maxLen := by obtain ⟨_, _, _, q, _⟩ := hr.1; exact q
  have hmx2 : p.funcs.length ≤ maxLen := by obtain ⟨_, _, _, q, _⟩ := hr.2; exact q
  unfold maxLen at hmx1 hmx2
  have HR := Lib.hid hr
  have HB := Lib.hid hb
  clear h hB0 hr hb k0
  go_enter Try.func10, Try.ntmps10
  by_cases c1 : 40 < p.classes.length
  · have c1' : (40 : Int) < (p.classes.length : Int) := by omega
    go_wp2
    go_ret
    exact ⟨_, rfl, HB.out, fun h => by simp at h⟩
  have c1' : ¬ (40 : Int) < (p.classes.length : Int) := by omega
  by_cases c2 : 40 < p.funcs.length
  · have c2' : (40 : Int) < (p.funcs.length : Int) := by omega
    go_wp2
    go_ret
    exact ⟨_, rfl, HB.out, fun h => by simp at h⟩
  have c2' : ¬ (40 : Int) < (p.funcs.length : Int) := by omega
  go_wp2
  go_loop [3] (fun x => ∃ i : Nat, i ≤ p.classes.length ∧ x = .int .i64 i ∧ ∀ q (hq : q < p.classes.length), q < i → p.classes[q].fields.length ≤ 40) (fun x => p.classes.length - (intOf x).toNat)
  case atStart => exact ⟨0, by omega, rfl, fun q _ h => absurd h (by omega)⟩
  case round =>
    obtain ⟨i, hi, rfl, hc⟩ := hrel
    have HC := Lib.hid hc
    clear hc
    by_cases hlt : i < p.classes.length
    · have hlt' : (i : Int) < (p.classes.length : Int) := by omega
      obtain ⟨_, _, hva, _, hel⟩ := HR.out.1
      injection hva with hva1 hva2 hva3
      subst hva1 hva3
      obtain ⟨d, o, hdo, hdB, t1, vf, t2, hvf⟩ := hel i hlt
      subst hdo
      obtain ⟨fa, fc, hfs⟩ := rd_shape hvf
      subst hfs
      have i1 : (0 : Int) ≤ (i : Int) ∧ (i : Int) < (p.classes.length : Int) := ⟨by omega, by omega⟩
      have i2 : 0 < p.classes.length := by omega
      clear hel hvf
      obtain ⟨m, hm⟩ : ∃ m, m = (p.classes[i]'hlt).fields.length := ⟨_, rfl⟩
      have HE := Lib.hid hm
      rw [← hm] at t2
      clear hm
      by_cases c3 : 40 < m
      · have c3' : (40 : Int) < (m : Int) := by omega
        go_wp2
        go_ret
        exact ⟨_, rfl, HB.out, fun h => by simp at h⟩
      · have c3' : ¬ (40 : Int) < (m : Int) := by omega
        go_wp2
        go_round
        case rel => exact ⟨i + 1, by omega, by go_num, fun q hq h => by
          rcases Nat.lt_or_ge q i with h1 | h1
          · exact HC.out q hq h1
          · obtain rfl : q = i := by omega
            have := HE.out
            omega⟩
        case measure => simp [intOf]; omega
    · have hlt' : ¬ (i : Int) < (p.classes.length : Int) := by omega
      go_wp2
      go_loop [4] (fun x => ∃ i : Nat, i ≤ p.funcs.length ∧ x = .int .i64 i ∧ ∀ q (hq : q < p.funcs.length), q < i → (p.funcs[q].params.length ≤ 40 ∧ p.funcs[q].locals.length ≤ 40 ∧ p.funcs[q].code.length ≤ 400)) (fun x => p.funcs.length - (intOf x).toNat)
      case atStart => exact ⟨0, by omega, rfl, fun q _ h => absurd h (by omega)⟩
      case round =>
        obtain ⟨j, hj, rfl, hjj⟩ := hrel
        have HJ := Lib.hid hjj
        clear hjj
        by_cases hltj : j < p.funcs.length
        · have hlt' : (j : Int) < (p.funcs.length : Int) := by omega
          obtain ⟨_, _, hva, _, hel⟩ := HR.out.2
          injection hva with hva1 hva2 hva3
          subst hva1 hva3
          obtain ⟨d, o, hdo, hdB, t1, ⟨u1, t2, r1⟩, ⟨t3, _⟩, ⟨u3, t4, r3⟩, u4, t5, r4⟩ := hel j hltj
          subst hdo
          obtain ⟨fa1, fc1, hf1⟩ := rd_shape r1
          obtain ⟨fa3, fc3, hf3⟩ := rd_shape r3
          obtain ⟨fa4, fc4, hf4⟩ := rd_shape r4
          subst hf1 hf3 hf4
          have i1 : (0 : Int) ≤ (j : Int) ∧ (j : Int) < (p.funcs.length : Int) := ⟨by omega, by omega⟩
          have i2 : 0 < p.funcs.length := by omega
          clear hel r1 r3 r4
          obtain ⟨m1, hm1⟩ : ∃ m, m = (p.funcs[j]'hltj).params.length := ⟨_, rfl⟩
          obtain ⟨m2, hm2⟩ : ∃ m, m = (p.funcs[j]'hltj).locals.length := ⟨_, rfl⟩
          obtain ⟨m3, hm3⟩ : ∃ m, m = (p.funcs[j]'hltj).code.length := ⟨_, rfl⟩
          have HE := Lib.hid (And.intro hm1 (And.intro hm2 hm3))
          rw [← hm1] at t2
          rw [← hm2] at t4
          rw [← hm3] at t5
          clear hm1 hm2 hm3
          by_cases c3 : 400 < m3
          · have c3' : (400 : Int) < (m3 : Int) := by omega
            go_wp2
            go_ret
            exact ⟨_, rfl, HB.out, fun h => by simp at h⟩
          have c3' : ¬ (400 : Int) < (m3 : Int) := by omega
          by_cases c4 : 40 < m1
          · have c4' : (40 : Int) < (m1 : Int) := by omega
            go_wp2
            go_ret
            exact ⟨_, rfl, HB.out, fun h => by simp at h⟩
          have c4' : ¬ (40 : Int) < (m1 : Int) := by omega
          by_cases c5 : 40 < m2
          · have c5' : (40 : Int) < (m2 : Int) := by omega
            go_wp2
            go_ret
            exact ⟨_, rfl, HB.out, fun h => by simp at h⟩
          have c5' : ¬ (40 : Int) < (m2 : Int) := by omega
          go_wp2
          go_round
          case rel => exact ⟨j + 1, by omega, by go_num, fun q hq h => by
            rcases Nat.lt_or_ge q j with h1 | h1
            · exact HJ.out q hq h1
            · obtain rfl : q = j := by omega
              have := HE.out
              omega⟩
          case measure => simp [intOf]; omega
        · have hlt' : ¬ (j : Int) < (p.funcs.length : Int) := by omega
          go_wp2
          go_ret
          exact ⟨_, rfl, HB.out, fun _ => ⟨by omega, by omega, all_at fun q hq => HC.out q hq (by omega), all_at fun q hq => HJ.out q hq (by omega)⟩⟩
end Go.Proofs.Ytgcimjghkidoiaa
/- Classes and functions in rows of one's own. No condition. -/
namespace Go.Proofs.Ytgcimjghkidoiaa
open Go.RowKit
set_option linter.unusedVariables false
structure COwn (w : World) (lo : Nat) (v : Value) (l : List (ClsD × Value)) : Prop where
  row : w.ownsRow lo 43 2 v l.length (l.flatMap clsC)
  inner : ∀ x ∈ l, w.ownsRow lo 45 2 x.2 x.1.fields.length (x.1.fields.flatMap fldC)
  apart : ∀ x ∈ l, ∀ g, x.2.ownBlock = some g → v.ownBlock ≠ some g
structure UOwn (w : World) (lo : Nat) (v : Value) (l : List (FunD × Value × Value × Value)) : Prop where
  row : w.ownsRow lo 49 5 v l.length (l.flatMap funC)
  inner1 : ∀ x ∈ l, w.ownsRow lo 3 1 x.2.1 x.1.params.length (x.1.params.flatMap intC)
  inner3 : ∀ x ∈ l, w.ownsRow lo 3 1 x.2.2.1 x.1.locals.length (x.1.locals.flatMap intC)
  inner4 : ∀ x ∈ l, w.ownsRow lo 51 3 x.2.2.2 x.1.code.length (x.1.code.flatMap insC)
  apart1 : ∀ x ∈ l, ∀ g, x.2.1.ownBlock = some g → v.ownBlock ≠ some g
  apart3 : ∀ x ∈ l, ∀ g, x.2.2.1.ownBlock = some g → v.ownBlock ≠ some g
  apart4 : ∀ x ∈ l, ∀ g, x.2.2.2.ownBlock = some g → v.ownBlock ≠ some g
section
variable {w w' : World} {lo : Nat} {v v' : Value}
theorem COwn.nil (w : World) (lo : Nat) : COwn w lo (.slice none 0 0) [] := ⟨⟨by simp, .inl ⟨rfl, rfl⟩⟩, fun x hx => (by cases hx), fun x hx => (by cases hx)⟩
theorem UOwn.nil (w : World) (lo : Nat) : UOwn w lo (.slice none 0 0) [] := ⟨⟨by simp, .inl ⟨rfl, rfl⟩⟩, fun x hx => (by cases hx), fun x hx => (by cases hx), fun x hx => (by cases hx), fun x hx => (by cases hx), fun x hx => (by cases hx), fun x hx => (by cases hx)⟩
theorem COwn.grew {l : List (ClsD × Value)} (h : COwn w lo v l) (hb : Below w.heap.size w w') : COwn w' lo v l := ⟨own_grewG h.row hb, fun x hx => own_grewG (h.inner x hx) hb, h.apart⟩
theorem UOwn.grew {l : List (FunD × Value × Value × Value)} (h : UOwn w lo v l) (hb : Below w.heap.size w w') : UOwn w' lo v l :=
  ⟨own_grewG h.row hb, fun x hx => own_grewG (h.inner1 x hx) hb, fun x hx => own_grewG (h.inner3 x hx) hb, fun x hx => own_grewG (h.inner4 x hx) hb, h.apart1, h.apart3, h.apart4⟩
theorem COwn.touch {R : Nat → Prop} {l : List (ClsD × Value)} (h : COwn w lo v l) (hT : Touch R w w') (hr : ∀ g, lo ≤ g → g < w.heap.size → ¬ R g) : COwn w' lo v l :=
  ⟨own_touch h.row hT (fun g hg => hr g (own_ltG h.row hg).1 (own_ltG h.row hg).2), fun x hx => own_touch (h.inner x hx) hT (fun g hg => hr g (own_ltG (h.inner x hx) hg).1 (own_ltG (h.inner x hx) hg).2), h.apart⟩
theorem UOwn.touch {R : Nat → Prop} {l : List (FunD × Value × Value × Value)} (h : UOwn w lo v l) (hT : Touch R w w') (hr : ∀ g, lo ≤ g → g < w.heap.size → ¬ R g) : UOwn w' lo v l :=
  ⟨own_touch h.row hT (fun g hg => hr g (own_ltG h.row hg).1 (own_ltG h.row hg).2), fun x hx => own_touch (h.inner1 x hx) hT (fun g hg => hr g (own_ltG (h.inner1 x hx) hg).1 (own_ltG (h.inner1 x hx) hg).2),
    fun x hx => own_touch (h.inner3 x hx) hT (fun g hg => hr g (own_ltG (h.inner3 x hx) hg).1 (own_ltG (h.inner3 x hx) hg).2), fun x hx => own_touch (h.inner4 x hx) hT (fun g hg => hr g (own_ltG (h.inner4 x hx) hg).1 (own_ltG (h.inner4 x hx) hg).2), h.apart1, h.apart3, h.apart4⟩
theorem COwn.sub {lo' : Nat} {l : List (ClsD × Value)} (h : COwn w lo v l) (hl : lo' ≤ lo) : COwn w lo' v l := ⟨own_sub h.row hl, fun x hx => own_sub (h.inner x hx) hl, h.apart⟩
theorem own_kept {b : Nat} {e : TypeId} {size : Nat} {u : Value} {n : Nat} {xs : List Value} (h : w.ownsRow b e size u n xs) (hg : w.grownBy w' v.ownBlock) (hne : ∀ g, u.ownBlock = some g → v.ownBlock ≠ some g) : w'.ownsRow b e size u n xs :=
  h.kept hg (by
    cases hu : u.ownBlock with
    | none => exact .inl rfl
    | some g => exact .inr fun e => hne g hu e.symm)
theorem apart_new {b : Nat} {e : TypeId} {size : Nat} {u : Value} {n : Nat} {xs : List Value} {q : Nat} (h : w.ownsRow b e size u n xs) (hv : v'.ownBlock = some q) (hat : v.ownBlock = some q ∨ q = w.heap.size) (hne : ∀ g, u.ownBlock = some g → v.ownBlock ≠ some g) : ∀ g, u.ownBlock = some g → v'.ownBlock ≠ some g := by
  intro g hg e
  rcases hat with h1 | h1
  · rw [hv] at e; exact hne g hg (h1.trans e)
  · rw [hv] at e
    have := (own_ltG h hg).2
    have := Option.some.inj e
    omega
theorem COwn.app {l : List (ClsD × Value)} {x : ClsD × Value} {q : Nat} (h : COwn w lo v l) (hx : w.ownsRow lo 45 2 x.2 x.1.fields.length (x.1.fields.flatMap fldC)) (hap : ∀ g, x.2.ownBlock = some g → v.ownBlock ≠ some g)
    (hg : w.grownBy w' v.ownBlock) (hown : w'.ownsRow lo 43 2 v' (l.length + 1) (l.flatMap clsC ++ clsC x)) (hv : v'.ownBlock = some q) (hat : v.ownBlock = some q ∨ q = w.heap.size) : COwn w' lo v' (l ++ [x]) := by
  have hi : ∀ y ∈ l ++ [x], w.ownsRow lo 45 2 y.2 y.1.fields.length (y.1.fields.flatMap fldC) ∧ ∀ g, y.2.ownBlock = some g → v.ownBlock ≠ some g := by
    intro y hy
    rcases List.mem_append.1 hy with h1 | h1
    · exact ⟨h.inner y h1, h.apart y h1⟩
    · obtain rfl : y = x := by simpa using h1
      exact ⟨hx, hap⟩
  exact ⟨by rw [List.flatMap_append, List.length_append]; simpa using hown, fun y hy => own_kept (hi y hy).1 hg (hi y hy).2, fun y hy => apart_new (hi y hy).1 hv hat (hi y hy).2⟩
theorem UOwn.app {l : List (FunD × Value × Value × Value)} {x : FunD × Value × Value × Value} {q : Nat} (h : UOwn w lo v l) (h1 : w.ownsRow lo 3 1 x.2.1 x.1.params.length (x.1.params.flatMap intC)) (h3 : w.ownsRow lo 3 1 x.2.2.1 x.1.locals.length (x.1.locals.flatMap intC))
    (h4 : w.ownsRow lo 51 3 x.2.2.2 x.1.code.length (x.1.code.flatMap insC)) (a1 : ∀ g, x.2.1.ownBlock = some g → v.ownBlock ≠ some g) (a3 : ∀ g, x.2.2.1.ownBlock = some g → v.ownBlock ≠ some g) (a4 : ∀ g, x.2.2.2.ownBlock = some g → v.ownBlock ≠ some g)
    (hg : w.grownBy w' v.ownBlock) (hown : w'.ownsRow lo 49 5 v' (l.length + 1) (l.flatMap funC ++ funC x)) (hv : v'.ownBlock = some q) (hat : v.ownBlock = some q ∨ q = w.heap.size) : UOwn w' lo v' (l ++ [x]) := by
  have i1 : ∀ y ∈ l ++ [x], w.ownsRow lo 3 1 y.2.1 y.1.params.length (y.1.params.flatMap intC) ∧ ∀ g, y.2.1.ownBlock = some g → v.ownBlock ≠ some g := by
    intro y hy
    rcases List.mem_append.1 hy with r | r
    · exact ⟨h.inner1 y r, h.apart1 y r⟩
    · obtain rfl : y = x := by simpa using r
      exact ⟨h1, a1⟩
  have i3 : ∀ y ∈ l ++ [x], w.ownsRow lo 3 1 y.2.2.1 y.1.locals.length (y.1.locals.flatMap intC) ∧ ∀ g, y.2.2.1.ownBlock = some g → v.ownBlock ≠ some g := by
    intro y hy
    rcases List.mem_append.1 hy with r | r
    · exact ⟨h.inner3 y r, h.apart3 y r⟩
    · obtain rfl : y = x := by simpa using r
      exact ⟨h3, a3⟩
  have i4 : ∀ y ∈ l ++ [x], w.ownsRow lo 51 3 y.2.2.2 y.1.code.length (y.1.code.flatMap insC) ∧ ∀ g, y.2.2.2.ownBlock = some g → v.ownBlock ≠ some g := by
    intro y hy
    rcases List.mem_append.1 hy with r | r
    · exact ⟨h.inner4 y r, h.apart4 y r⟩
    · obtain rfl : y = x := by simpa using r
      exact ⟨h4, a4⟩
  exact ⟨by rw [List.flatMap_append, List.length_append]; simpa using hown, fun y hy => own_kept (i1 y hy).1 hg (i1 y hy).2, fun y hy => own_kept (i3 y hy).1 hg (i3 y hy).2, fun y hy => own_kept (i4 y hy).1 hg (i4 y hy).2,
    fun y hy => apart_new (i1 y hy).1 hv hat (i1 y hy).2, fun y hy => apart_new (i3 y hy).1 hv hat (i3 y hy).2, fun y hy => apart_new (i4 y hy).1 hv hat (i4 y hy).2⟩
end
end Go.Proofs.Ytgcimjghkidoiaa
