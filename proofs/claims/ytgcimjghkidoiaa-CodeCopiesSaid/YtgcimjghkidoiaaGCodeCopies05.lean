/- Texts of this seat, one behind the other: each says at its head what it holds. No condition of its own. -/
import Derived.StillTailTactics
import Derived.Laws.StructEq
import Derived.Deep.QuietTactic
import Derived.BigQuiet
import Derived.Test.YtgcimjghkidoiaaGCodeCopies01
import Derived.Test.YtgcimjghkidoiaaGCodeCopies02
import Derived.Test.YtgcimjghkidoiaaGCodeCopies03
import Derived.Test.YtgcimjghkidoiaaGCodeCopies04
/- code's writer: a name, a class. Condition: its blocks are there; what is written lies in blocks below its own. -/
namespace Go.Proofs.Ytgcimjghkidoiaa
open Go.RowKit
set_option linter.unusedVariables false
theorem two_boxes {w : World} {B b : Nat} {r : Res} {K : Nat → Prop} (h : WrP w B b r K) (o1 o2 : Obj) :
    WrP ((w.alloc o1).alloc o2) B b r (fun x => x = w.heap.size + 1 ∨ (x = w.heap.size ∨ K x)) ∧ Below w.heap.size w ((w.alloc o1).alloc o2) := by
  have b1 : Below w.heap.size w (w.alloc o1) := (Below.refl _ _).alloc (Nat.le_refl _) _
  have b2 : Below (w.alloc o1).heap.size (w.alloc o1) ((w.alloc o1).alloc o2) := (Below.refl _ _).alloc (Nat.le_refl _) _
  exact ⟨(h.add b1 (Nat.le_refl _) (by simp)).add b2 (by simp) (by simp), b1.trans (b2.mono b1.size)⟩
set_option maxRecDepth 100000 in
set_option maxHeartbeats 2000000 in
theorem name_any (B b : Nat) (r : Res) (K : Nat → Prop) (s : ByteArray) (w : World) (h : WrP w B b r K) (hl : lenE r 50000000) :
    Calls Try.prog 54 #[.pointer (some ⟨b, 0, none⟩), .string s] w fun e' w' => (∃ u, e' = .returned u) ∧ WrP w' B b (andE r (nameE s)) K ∧ WrT B K w w' := by
  obtain ⟨hP, hb⟩ := two_boxes h (.cells #[.pointer (some ⟨b, 0, none⟩)] 72) (.cells #[.string s] 9)
  have k1 : Blk ((w.alloc (.cells #[.pointer (some ⟨b, 0, none⟩)] 72)).alloc (.cells #[.string s] 9)) w.heap.size #[.pointer (some ⟨b, 0, none⟩)] 72 := (Blk.new _ _ _).alloc _
  have k2 : Blk ((w.alloc (.cells #[.pointer (some ⟨b, 0, none⟩)] 72)).alloc (.cells #[.string s] 9)) (w.heap.size + 1) #[.string s] 9 := Blk.new' (by simp)
  have c1 := k1.val 0 rfl
  have c2 := k2.val 0 rfl
  have ST := Lib.hid (list_anyNam1 B b w.heap.size (w.heap.size + 1) r _ s.size 16 50000000 1 (nameF s) _ hP (by decide) hl (by decide) (fun _ _ => lenE_one _) (fun i l W hi hn hX hT hl => nam1_any B b _ _ i l s _ W hX (hT.kept k1 (.inr (.inl rfl))) (hT.kept k2 (.inl rfl)) (.inr (.inl rfl)) hi (by omega)))
  have hb := Lib.hid hb
  clear hP k1 k2 h
  go_enter Try.func54, Try.ntmps54
  go_wp2_with fail
  refine ST.out.mono ?_
  rintro e w3 ⟨⟨u, rfl⟩, hP3, hT3⟩
  go_wp2
  go_end0
  exact ⟨⟨_, rfl⟩, hP3.sub fun x hx => .inr (.inr hx), (WrT.of hb.out).trans (hT3.sub fun x hx => .inr (.inr hx))⟩
/-! a class -/
def fldE (f : FldD) : Res := andE (nameE f.name) (kindE f.ty)
def clsE (c : ClsD) : Res := andE (nameE c.name) (listE c.fields.length 15 (fun i => fldE (c.fields.getD i ⟨.empty, 0⟩)))
theorem lenE_fld (f : FldD) : lenE (fldE f) 27 := lenE_and (lenE_name _) (lenE_kind _)
theorem lenE_cls (c : ClsD) : lenE (clsE c) 441 := lenE_and (lenE_name _) (lenE_list (by decide) fun _ _ => lenE_fld _)
set_option maxRecDepth 100000 in
set_option maxHeartbeats 2000000 in
theorem cls1_any (B b c1 c2 i : Nat) (l : List UInt8) (c : ClsD) (v : Value) (K : Nat → Prop) (w : World) (h : WrX w B b l 0 K) (hc1 : Blk w c1 #[.pointer (some ⟨b, 0, none⟩)] 72) (hc2 : Blk w c2 #[.string c.name, v] 43) (k1 : K c1) (k2 : K c2) (hv : RdRow 2 ElF B w v c.fields) (hi : i < c.fields.length) (hl : l.length ≤ 10000000) :
    Calls Try.prog 55 #[.int .i64 i, .pointer (some ⟨c1, 0, none⟩), .pointer (some ⟨c2, 0, none⟩)] w fun e' w' => (∃ u, e' = .returned u) ∧ WrP w' B b (andE (.ok l) (fldE (c.fields.getD i ⟨.empty, 0⟩))) K ∧ WrT B K w w' := by
  have hg : c.fields.getD i ⟨.empty, 0⟩ = c.fields[i] := by simp [List.getD_eq_getElem?_getD, hi]
  rw [hg]
  obtain ⟨a, cap, rfl, hmx, hel⟩ := hv
  obtain ⟨d, o, rfl, hd, e1, e2, _⟩ := hel i hi
  clear hel hg
  generalize c.fields[i] = f at *
  have hbw := h.bw
  have i1 : (0 : Int) ≤ (i : Int) ∧ (i : Int) < (c.fields.length : Int) := ⟨by omega, by omega⟩
  have i2 : 0 < c.fields.length := by omega
  generalize c.fields.length = n at *
  have d1 := hc1.val 0 rfl
  have d2 := hc2.val 1 rfl
  have HL : Hid (lenE (.ok l) 50000000) := fun q e => by injection e with e; subst e; omega
  have q1 := hc1.drew
  have q2 := hc2.drew
  have QB : Below B w w.drew := (Below.refl _ _).drew
  have e1' := (QB.cell (p := ⟨d, o + i * 2, none⟩) hd).trans e1
  have e2' := (QB.cell (p := ⟨d, o + i * 2 + 1, none⟩) hd).trans e2
  have HX : Hid (WrP w.drew B b (.ok l) K) := h.quiet ⟨1, rfl⟩
  have HB : Hid (B ≤ w.drew.heap.size) := hbw
  have T0 : Hid (WrT B K w w.drew) := WrT.of (Below.refl _ _).drew
  clear h hbw
  go_enter Try.func55, Try.ntmps55
  go_wp2_with fail
  go_still_tail 7, (by kernel_rfl)
  change wpList _ _ _ _ _ w.drew
  clear d1 d2 e1 e2 QB
  generalize w.drew = w2 at *
  go_wp2_with fail
  refine (name_any B b _ K f.name _ HX.out HL.out).mono ?_
  rintro e w3 ⟨⟨u, rfl⟩, hP3, hT3⟩
  have r1 := hT3.kept q1 k1
  have r2 := hT3.kept q2 k2
  have QB := hT3.below HB.out
  have d1 := r1.val 0 rfl
  have d2 := r2.val 1 rfl
  have e2 := (QB.cell (p := ⟨d, o + i * 2 + 1, none⟩) hd).trans e2'
  have e1 := (QB.cell (p := ⟨d, o + i * 2, none⟩) hd).trans e1'
  have HT := Lib.hid (T0.out.trans hT3)
  have HX3 : Hid (WrP w3.drew B b (andE (.ok l) (nameE f.name)) K) := hP3.grew (Below.refl _ _).drew
  have T3 : Hid (WrT B K w3 w3.drew) := WrT.of (Below.refl _ _).drew
  clear q1 q2 e1' e2' hP3 hT3 QB
  go_wp2_with fail
  go_still_tail 7, (by kernel_rfl)
  change wpList _ _ _ _ _ w3.drew
  generalize w3.drew = w4 at *
  go_wp2_with fail
  refine (kind_any B b _ K f.ty _ HX3.out (lenE_mono (lenE_and (fun q e => by injection e with e; subst e; exact hl) (lenE_name _)) (by decide))).mono ?_
  rintro e w5 ⟨⟨u, rfl⟩, hP5, hT5⟩
  go_wp2
  go_end0
  exact ⟨⟨_, rfl⟩, by rw [fldE, ← andE_assoc]; exact hP5, (HT.out.trans T3.out).trans hT5⟩
set_option maxRecDepth 100000 in
set_option maxHeartbeats 2000000 in
theorem cls_any (B b : Nat) (r : Res) (c : ClsD) (v : Value) (K : Nat → Prop) (w : World) (h : WrP w B b r K) (hv : RdRow 2 ElF B w v c.fields) (hl : lenE r 5000000) :
    Calls Try.prog 32 #[.pointer (some ⟨b, 0, none⟩), .agg #[.string c.name, v]] w fun e' w' => (∃ u, e' = .returned u) ∧ WrP w' B b (andE r (clsE c)) K ∧ WrT B K w w' := by
  have hbw : B ≤ w.heap.size := h.bw
  obtain ⟨hP, hb⟩ := two_boxes h (.cells #[.pointer (some ⟨b, 0, none⟩)] 72) (.cells #[.string c.name, v] 43)
  have k1 : Blk ((w.alloc (.cells #[.pointer (some ⟨b, 0, none⟩)] 72)).alloc (.cells #[.string c.name, v] 43)) w.heap.size #[.pointer (some ⟨b, 0, none⟩)] 72 := (Blk.new _ _ _).alloc _
  have k2 : Blk ((w.alloc (.cells #[.pointer (some ⟨b, 0, none⟩)] 72)).alloc (.cells #[.string c.name, v] 43)) (w.heap.size + 1) #[.string c.name, v] 43 := Blk.new' (by simp)
  have hv2 := hv.keep (hb.mono hbw) fun _ _ _ e r => r.keep (hb.mono hbw) e
  have c1 := k1.val 0 rfl
  have c2 := k2.val 0 rfl
  have c3 := k2.val 1 rfl
  obtain ⟨a, cap, hva, hmx, hel⟩ := hv
  have NM := Lib.hid (name_any B b r _ c.name _ hP (lenE_mono hl (by decide)))
  have hb := Lib.hid hb
  have HV := Lib.hid hva
  have HB : Hid (B ≤ ((w.alloc (.cells #[.pointer (some ⟨b, 0, none⟩)] 72)).alloc (.cells #[.string c.name, v] 43)).heap.size) := by unfold Hid; simp; omega
  clear hP h hel hva
  go_enter Try.func32, Try.ntmps32
  go_wp2_with fail
  refine NM.out.mono ?_
  rintro e w3 ⟨⟨u, rfl⟩, hP3, hT3⟩
  have r1 := hT3.kept k1 (.inr (.inl rfl))
  have r2 := hT3.kept k2 (.inl rfl)
  have QB := hT3.below HB.out
  have hv3 := hv2.keep QB fun _ _ _ e r => r.keep QB e
  have d1 := r1.val 0 rfl
  have d2 := r2.val 1 rfl
  rw [HV.out] at d2
  have ST := Lib.hid (list_anyCls1 B b w.heap.size (w.heap.size + 1) (andE r (nameE c.name)) _ c.fields.length 15 5000026 27 (fun i => fldE (c.fields.getD i ⟨.empty, 0⟩)) _ hP3 (by decide) (lenE_and hl (lenE_name _)) (by decide) (fun _ _ => lenE_fld _) (fun i l W hi hn hX hT hl => cls1_any B b _ _ i l c v _ W hX (hT.kept r1 (.inr (.inl rfl))) (hT.kept r2 (.inl rfl)) (.inr (.inl rfl)) (.inl rfl) (hv3.keep (hT.below (Nat.le_trans HB.out hT3.size)) fun _ _ _ e r => r.keep (hT.below (Nat.le_trans HB.out hT3.size)) e) hi (by omega)))
  have HT := Lib.hid ((WrT.of (B := B) (K := K) hb.out).trans (hT3.sub fun x hx => .inr (.inr hx)))
  clear hP3 hT3 QB hv3 hv2 k1 k2 c1 c2 c3
  go_wp2_with fail
  refine ST.out.mono ?_
  rintro e w4 ⟨⟨u, rfl⟩, hP4, hT4⟩
  go_wp2
  go_end0
  exact ⟨⟨_, rfl⟩, by rw [clsE, ← andE_assoc]; exact hP4.sub fun x hx => .inr (.inr hx), HT.out.trans (hT4.sub fun x hx => .inr (.inr hx))⟩
end Go.Proofs.Ytgcimjghkidoiaa
/- code's Operands, Right and fold. No condition. -/
namespace Go.Proofs.Ytgcimjghkidoiaa
open Go.RowKit
set_option linter.unusedVariables false
def opsI (op : Int) : Int := if op < 1 ∨ 39 < op then -1 else if op = 25 ∨ op = 26 ∨ op = 27 then 2 else if op = 1 ∨ op = 3 ∨ op = 4 ∨ op = 18 ∨ op = 19 ∨ op = 20 ∨ op = 22 ∨ op = 33 ∨ op = 34 ∨ op = 35 then 1 else 0
def opB (op : Int) : Bool := decide (1 ≤ op ∧ op ≤ 39)
def smallB (a : Int) : Bool := decide (0 ≤ a ∧ a ≤ 2147483647)
def rightB (i : InsD) : Bool := if opsI i.op = 0 then decide (i.a = 0 ∧ i.b = 0) else if opsI i.op = 1 then decide ((i.op = 1 ∨ smallB i.a = true) ∧ i.b = 0) else if opsI i.op = 2 then smallB i.a && smallB i.b else false
def foldN (a : Int) : Nat := if a < 0 then (2 * (-a - 1) + 1).toNat else (2 * a).toNat
set_option maxHeartbeats 1000000 in
theorem isop_any (op : Int) (w : World) : Calls Try.prog 72 #[.int .i64 op] w fun e w' => e = .returned (.bool (opB op)) ∧ w = w' := by
  by_cases h1 : 1 ≤ op
  · by_cases h2 : op ≤ 39
    · go_enter Try.func72, Try.ntmps72
      go_wp2
      go_ret
      exact ⟨ret_bool (by simp [opB, h1, h2]), rfl⟩
    · go_enter Try.func72, Try.ntmps72
      go_wp2
      go_ret
      exact ⟨ret_bool (by simp [opB, h1, h2]), rfl⟩
  · go_enter Try.func72, Try.ntmps72
    go_wp2
    go_ret
    exact ⟨ret_bool (by simp [opB]; omega), rfl⟩
set_option maxHeartbeats 1000000 in
theorem isoperand_any (a : Int) (w : World) : Calls Try.prog 73 #[.int .i64 a] w fun e w' => e = .returned (.bool (smallB a)) ∧ w = w' := by
  by_cases h1 : 0 ≤ a
  · by_cases h2 : a ≤ 2147483647
    · go_enter Try.func73, Try.ntmps73
      go_wp2
      go_ret
      exact ⟨ret_bool (by simp [smallB, h1, h2]), rfl⟩
    · go_enter Try.func73, Try.ntmps73
      go_wp2
      go_ret
      exact ⟨ret_bool (by simp [smallB, h1, h2]), rfl⟩
  · go_enter Try.func73, Try.ntmps73
    go_wp2
    go_ret
    exact ⟨ret_bool (by simp [smallB]; omega), rfl⟩
set_option maxRecDepth 100000 in
set_option maxHeartbeats 4000000 in
theorem operands_any (op : Int) (w : World) : Calls Try.prog 66 #[.int .i64 op] w fun e w' => e = .returned (.int .i64 (opsI op)) ∧ w = w' := by
  by_cases h1 : opB op = true
  · have h1' : 1 ≤ op ∧ op ≤ 39 := by simpa [opB] using h1
    have HB := Lib.hid h1
    have HV : Hid (∀ x : Int, (opsI op = x) → opsI op = x) := fun _ h => h
    go_enter Try.func66, Try.ntmps66
    go_wp2_with fail
    refine (isop_any op _).mono ?_; rintro e w1 ⟨rfl, rfl⟩
    rw [HB.out]
    go_wp2
    all_goals
      go_ret
      refine ⟨ret_int ?_, rfl⟩
      simp only [beq_iff_eq, beq_eq_false_iff_ne, ne_eq] at *
      unfold opsI
      omega
  · have h1' : op < 1 ∨ 39 < op := by simp [opB] at h1; omega
    have HB : Hid (opB op = false) := by unfold Hid; simpa using h1
    clear h1
    go_enter Try.func66, Try.ntmps66
    go_wp2_with fail
    refine (isop_any op _).mono ?_; rintro e w1 ⟨rfl, rfl⟩
    rw [HB.out]
    go_wp2
    go_ret
    exact ⟨ret_int (by rw [opsI, if_pos h1']), rfl⟩
theorem or1 (y : Nat) (h : y < 9223372036854775808) : bits .or .u64 ((2 * y : Nat) : Int) 1 = ((2 * y + 1 : Nat) : Int) := by
  rw [show (1 : Int) = ((1 : Nat) : Int) from rfl, bits_or_u64_nat _ _ (by omega) (by decide)]
  congr 1
  apply Nat.eq_of_testBit_eq
  intro i
  cases i with
  | zero => simp
  | succ i =>
    rw [Nat.testBit_or, Nat.testBit_succ, Nat.testBit_succ, Nat.testBit_succ, show 2 * y / 2 = y by omega, show (2 * y + 1) / 2 = y by omega]
    simp
theorem not_neg (a : Int) (h1 : -9223372036854775808 ≤ a) (h2 : a < 0) : bits .xor .i64 (-1) a = -a - 1 := by
  show IntKind.i64.wrap ((BitVec.ofInt 64 (-1) ^^^ BitVec.ofInt 64 a).toNat : Int) = _
  have e1 : BitVec.ofInt 64 (-1) = BitVec.allOnes 64 := by decide
  have e2 : (BitVec.ofInt 64 a).toNat = (a + 18446744073709551616).toNat := by
    rw [BitVec.toNat_ofInt]; congr 1; omega
  rw [e1, BitVec.allOnes_xor, BitVec.toNat_not, e2, IntKind.wrap_i64]
  omega
theorem fold_bits (a : Int) (h1 : -9223372036854775808 ≤ a) (h2 : a < 0) : bits .or .u64 (IntKind.u64.wrap (IntKind.u64.wrap (bits .xor .i64 (-1) a) * 2)) 1 = ((foldN a : Nat) : Int) := by
  rw [not_neg a h1 h2]
  have e : IntKind.u64.wrap (IntKind.u64.wrap (-a - 1) * 2) = ((2 * (-a - 1).toNat : Nat) : Int) := by
    rw [IntKind.wrap_u64, IntKind.wrap_u64]; omega
  rw [e, or1 _ (by omega), foldN, if_pos h2]
  omega
theorem foldN_lt {a : Int} (h : I64 a) : foldN a < 18446744073709551616 := by
  obtain ⟨h1, h2⟩ := h
  unfold foldN; split <;> omega
set_option maxHeartbeats 1000000 in
theorem fold_any (a : Int) (w : World) (ha : I64 a) : Calls Try.prog 70 #[.int .i64 a] w fun e w' => e = .returned (.int .u64 (foldN a : Nat)) ∧ w = w' := by
  obtain ⟨h1, h2⟩ := ha
  by_cases h : a < 0
  · have HA := Lib.hid h
    go_enter Try.func70, Try.ntmps70
    go_wp2
    go_ret
    exact ⟨ret_int (fold_bits a h1 HA.out), rfl⟩
  · go_enter Try.func70, Try.ntmps70
    go_wp2
    go_ret
    exact ⟨ret_int (by unfold foldN; split <;> omega), rfl⟩
theorem beqd (b : Int) : (b == 0) = decide (b = 0) := by by_cases h : b = 0 <;> simp [h]
theorem opsI_cases (op : Int) : opsI op = -1 ∨ opsI op = 0 ∨ opsI op = 1 ∨ opsI op = 2 := by unfold opsI; split <;> (try split) <;> (try split) <;> simp
set_option maxRecDepth 100000 in
set_option maxHeartbeats 4000000 in
theorem right_any (i : InsD) (w : World) : Calls Try.prog 69 #[.agg #[.int .i64 i.op, .int .i64 i.a, .int .i64 i.b]] w fun e w' => e = .returned (.bool (rightB i)) ∧ Below w.heap.size w w' := by
  obtain ⟨op, a, b⟩ := i
  have hB : Below w.heap.size w (w.alloc (.cells #[.int .i64 op, .int .i64 a, .int .i64 b] 51)) := (Below.refl _ _).alloc (Nat.le_refl _) _
  have HR : Hid (∀ x, rightB ⟨op, a, b⟩ = x → rightB ⟨op, a, b⟩ = x) := fun _ h => h
  have HO := Lib.hid (fun W => operands_any op W)
  have hc := opsI_cases op
  have HD : Hid (rightB ⟨op, a, b⟩ = if opsI op = 0 then decide (a = 0 ∧ b = 0) else if opsI op = 1 then decide ((op = 1 ∨ smallB a = true) ∧ b = 0) else if opsI op = 2 then smallB a && smallB b else false) := rfl
  generalize rightB ⟨op, a, b⟩ = rb at *
  generalize opsI op = k at *
  rcases hc with rfl | rfl | rfl | rfl
  · go_enter Try.func69, Try.ntmps69
    go_wp2_with fail
    refine (HO.out _).mono ?_; rintro e w1 ⟨rfl, rfl⟩
    go_wp2
    go_ret
    exact ⟨ret_bool (by rw [HD.out]; rfl), hB⟩
  · by_cases ha : a = 0
    · subst ha
      go_enter Try.func69, Try.ntmps69
      go_wp2_with fail
      refine (HO.out _).mono ?_; rintro e w1 ⟨rfl, rfl⟩
      go_wp2
      go_ret
      exact ⟨ret_bool (by rw [HD.out]; simp [beqd]), hB⟩
    · have ha' : (a == 0) = false := by simpa using ha
      go_enter Try.func69, Try.ntmps69
      go_wp2_with fail
      refine (HO.out _).mono ?_; rintro e w1 ⟨rfl, rfl⟩
      go_wp2
      go_ret
      exact ⟨ret_bool (by rw [HD.out]; simp [ha]), hB⟩
  · by_cases ho : op = 1
    · subst ho
      go_enter Try.func69, Try.ntmps69
      go_wp2_with fail
      refine (HO.out _).mono ?_; rintro e w1 ⟨rfl, rfl⟩
      go_wp2
      go_ret
      exact ⟨ret_bool (by rw [HD.out]; simp [beqd]), hB⟩
    · have ho' : (op == 1) = false := by simpa using ho
      by_cases hs : smallB a = true
      · have HS := Lib.hid hs
        go_enter Try.func69, Try.ntmps69
        go_wp2_with fail
        refine (HO.out _).mono ?_; rintro e w1 ⟨rfl, rfl⟩
        go_wp2_with fail
        refine (isoperand_any a _).mono ?_; rintro e w1 ⟨rfl, rfl⟩
        rw [HS.out]
        go_wp2
        go_ret
        exact ⟨ret_bool (by rw [HD.out]; simp [beqd, ho, HS.out]), hB⟩
      · have HS : Hid (smallB a = false) := by unfold Hid; simpa using hs
        clear hs
        go_enter Try.func69, Try.ntmps69
        go_wp2_with fail
        refine (HO.out _).mono ?_; rintro e w1 ⟨rfl, rfl⟩
        go_wp2_with fail
        refine (isoperand_any a _).mono ?_; rintro e w1 ⟨rfl, rfl⟩
        rw [HS.out]
        go_wp2
        go_ret
        exact ⟨ret_bool (by rw [HD.out]; simp [ho, HS.out]), hB⟩
  · by_cases hs : smallB a = true
    · have HS := Lib.hid hs
      clear hs
      go_enter Try.func69, Try.ntmps69
      go_wp2_with fail
      refine (HO.out _).mono ?_; rintro e w1 ⟨rfl, rfl⟩
      go_wp2_with fail
      refine (isoperand_any a _).mono ?_; rintro e w1 ⟨rfl, rfl⟩
      rw [HS.out]
      go_wp2_with fail
      refine (isoperand_any b _).mono ?_; rintro e w1 ⟨rfl, rfl⟩
      go_wp2
      go_ret
      exact ⟨ret_bool (by rw [HD.out, HS.out]; simp), hB⟩
    · have HS : Hid (smallB a = false) := by unfold Hid; simpa using hs
      clear hs
      go_enter Try.func69, Try.ntmps69
      go_wp2_with fail
      refine (HO.out _).mono ?_; rintro e w1 ⟨rfl, rfl⟩
      go_wp2_with fail
      refine (isoperand_any a _).mono ?_; rintro e w1 ⟨rfl, rfl⟩
      rw [HS.out]
      go_wp2
      go_ret
      exact ⟨ret_bool (by rw [HD.out, HS.out]; simp), hB⟩
end Go.Proofs.Ytgcimjghkidoiaa
/- code's writer: an instruction. Condition: its blocks are there, its numbers fit their kinds. -/
namespace Go.Proofs.Ytgcimjghkidoiaa
open Go.RowKit
set_option linter.unusedVariables false
def insL (i : InsD) : List UInt8 := UInt8.ofNat i.op.toNat :: ((if i.op = 1 then numB (foldN i.a) else if 1 ≤ opsI i.op then numB i.a.toNat else []) ++ (if opsI i.op = 2 then numB i.b.toNat else []))
def insE (i : InsD) : Res := if rightB i = true then .ok (insL i) else .error 30
theorem opB_of_right {i : InsD} (h : rightB i = true) : 1 ≤ i.op ∧ i.op ≤ 39 := by
  unfold rightB opsI at h
  by_cases e : i.op < 1 ∨ 39 < i.op
  · rw [if_pos e] at h; simp at h
  · omega
theorem u8op (op : Int) (h : 1 ≤ op ∧ op ≤ 39) : IntKind.u8.wrap op = (((UInt8.ofNat op.toNat).toNat : Nat) : Int) := by
  rw [IntKind.wrap_u8]; simp; omega
theorem right_parts {op a c : Int} (h : rightB ⟨op, a, c⟩ = true) : (op = 1 ∧ opsI op = 1) ∨ (op ≠ 1 ∧ opsI op = 0) ∨ (op ≠ 1 ∧ opsI op = 1 ∧ 0 ≤ a ∧ a ≤ 2147483647) ∨ (op ≠ 1 ∧ opsI op = 2 ∧ 0 ≤ a ∧ a ≤ 2147483647 ∧ 0 ≤ c ∧ c ≤ 2147483647) := by
  by_cases e : op = 1
  · exact .inl ⟨e, by subst e; rfl⟩
  · refine .inr ?_
    rcases opsI_cases op with k | k | k | k
    · simp [rightB, k] at h
    · exact .inl ⟨e, k⟩
    · simp [rightB, k, e, smallB] at h
      exact .inr (.inl ⟨e, k, h.1.1, h.1.2⟩)
    · simp [rightB, k, smallB] at h
      exact .inr (.inr ⟨e, k, h.1.1, h.1.2, h.2.1, h.2.2⟩)
set_option maxRecDepth 100000 in
set_option maxHeartbeats 1000000 in
theorem ins_bad (B b : Nat) (l : List UInt8) (K : Nat → Prop) (i : InsD) (w : World) (h : WrX w B b l 0 K) (hr : rightB i = false) :
    Calls Try.prog 60 #[.pointer (some ⟨b, 0, none⟩), .agg #[.int .i64 i.op, .int .i64 i.a, .int .i64 i.b]] w fun e' w' => (∃ u, e' = .returned u) ∧ WrX w' B b l 30 K ∧ WrT B K w w' := by
  have RA := Lib.hid (fun W => right_any i W)
  rw [hr] at RA
  clear hr
  obtain ⟨op, a, c⟩ := i
  have b0 : Below w.heap.size w (w.alloc (.cells #[.int .i64 op, .int .i64 a, .int .i64 c] 51)) := (Below.refl _ _).alloc (Nat.le_refl _) _
  have hI : Blk (w.alloc (.cells #[.int .i64 op, .int .i64 a, .int .i64 c] 51)) w.heap.size #[.int .i64 op, .int .i64 a, .int .i64 c] 51 := Blk.new _ _ _
  have q0 := hI.val 0 rfl
  have q1 := hI.val 1 rfl
  have q2 := hI.val 2 rfl
  go_enter Try.func60, Try.ntmps60
  go_wp2_with fail
  refine (RA.out _).mono ?_
  rintro e w1 ⟨rfl, hb1⟩
  have hb2 := b0.trans (hb1.mono b0.size)
  have hX := h.grew hb2
  have c1 := hX.errCell
  have H := Lib.hid (hX.fail 30)
  clear hX hb1 b0 hI q0 q1 q2
  go_wp2
  refine bodyPost_ret (results_none rfl _ _ _) rfl ?_
  exact ⟨⟨_, rfl⟩, H.out.1, (WrT.of hb2).trans H.out.2⟩
set_option maxRecDepth 100000 in
set_option maxHeartbeats 4000000 in
theorem ins_ok (B b : Nat) (l : List UInt8) (K : Nat → Prop) (op a c : Int) (w : World) (h : WrX w B b l 0 K) (hr : rightB ⟨op, a, c⟩ = true) (ha : I64 a) (hc : I64 c) (hl : l.length ≤ 100000000) :
    Calls Try.prog 60 #[.pointer (some ⟨b, 0, none⟩), .agg #[.int .i64 op, .int .i64 a, .int .i64 c]] w fun e' w' => (∃ u, e' = .returned u) ∧ WrX w' B b (l ++ insL ⟨op, a, c⟩) 0 K ∧ WrT B K w w' := by
  obtain ⟨i0, hi, hz0, hz1, hz2⟩ := info_parts info_u8
  have RA := Lib.hid (fun W => right_any ⟨op, a, c⟩ W)
  have hop := opB_of_right hr
  have HR : Hid (rightB ⟨op, a, c⟩ = true) := hr
  rw [hr] at RA
  clear hr
  have b0 : Below w.heap.size w (w.alloc (.cells #[.int .i64 op, .int .i64 a, .int .i64 c] 51)) := (Below.refl _ _).alloc (Nat.le_refl _) _
  have hI : Blk (w.alloc (.cells #[.int .i64 op, .int .i64 a, .int .i64 c] 51)) w.heap.size #[.int .i64 op, .int .i64 a, .int .i64 c] 51 := Blk.new _ _ _
  have q0 := hI.val 0 rfl
  have q1 := hI.val 1 rfl
  have q2 := hI.val 2 rfl
  have Z := Lib.hid (And.intro hi (And.intro hz0 (And.intro hz1 hz2)))
  have HU := Lib.hid (u8op op hop)
  clear hi hz0 hz1 hz2
  go_enter Try.func60, Try.ntmps60
  go_wp2_with fail
  refine (RA.out _).mono ?_
  rintro e w1 ⟨rfl, hb1⟩
  have hI1 := hI.grew hb1
  have hX := h.add (b0.trans (hb1.mono b0.size)) (m := w.heap.size) (Nat.le_refl _) hI1.lt
  have hT0 : WrT B K w w1 := WrT.of (b0.trans (hb1.mono b0.size))
  clear q0 q1 q2 hb1 hI b0 h
  generalize hS : w.heap.size = S at *
  clear hS
  obtain ⟨⟨v, h1, h2, h3⟩, h4, h5, h6, h7⟩ := hX
  have c0 := h1.val 0 rfl
  have f0 := h1.frozen 0
  have lb := h1.lt
  have lI := hI1.lt
  have q0 := hI1.val 0 rfl
  go_wp2_with fail
  go_region_law ((refine step_append_lies _ (by rfl) _ _ _ (by rfl) B 5 i0 _ 1 1 Try.underlying22 Z.out.1 Z.out.2.1 Z.out.2.2.1 Z.out.2.2.2 rfl (by omega) v l.length (u8L l) (by rfl) (own_drew (h2.alloc _)) ⟨w1.heap.size, 0, none⟩ 1 1 [Value.int .u8 ((UInt8.ofNat op.toNat).toNat : Int)] (by rfl) (by rfl) (by rw [← HU.out]; exact World.news_of_block (cs := #[Value.int .u8 (IntKind.u8.wrap op)]) (t := 5) (fr := (0, 0)) (heap_alloc_new w1 _)) (by simp [Value.oneCell']) (by omega) (by unfold maxLen; omega) (by omega) (by simp; omega) (w1.heap.size + 1) (by simp) ?_; intro g cap w5 hown5 hgrow hat hlt; obtain ⟨hb1, hX1, hT1, hK5⟩ := Wr_app_d h1 h2 h3 h4 h5 h6 h7 hown5 hgrow hat; have k2 := hb1.val 0 rfl; have kf := hb1.frozen 0))
  all_goals
    clear hown5 hgrow hat hK5 hb1 k2 kf h1 h2 h3 h4 h5 h6 h7 c0 f0 lb lI q0
    have hI6 := hT1.kept hI1 (.inl rfl)
    have hTT := WrT.trans hT0 (hT1.sub (K' := K) fun x hx => .inr hx)
    generalize w5.setCell _ _ = w6 at *
    clear hlt
    have q0 := hI6.val 0 rfl
    have q1 := hI6.val 1 rfl
    have q2 := hI6.val 2 rfl
    have HX := Lib.hid hX1
    have HT := Lib.hid hTT
    clear hX1 hTT hT1 hI1
    have OA := Lib.hid (fun W => operands_any op W)
    rcases right_parts HR.out with ⟨p1, p2⟩ | ⟨p1, p2⟩ | ⟨p1, p2, p3, p4⟩ | ⟨p1, p2, p3, p4, p5, p6⟩
    · subst p1
      rw [p2] at OA
      clear p2
      have FO := Lib.hid (fun W => fold_any a W ha)
      have NU := Lib.hid (fun W (X : WrX W B b (l ++ [UInt8.ofNat (1 : Int).toNat]) 0 (fun x => x = S ∨ K x)) => number_any B b _ 0 _ (foldN a) W X (foldN_lt ha) (by simp; omega))
      go_wp2_with fail
      refine (OA.out _).mono ?_; rintro e w7 ⟨rfl, rfl⟩
      go_wp2_with fail
      refine (FO.out _).mono ?_; rintro e w7 ⟨rfl, rfl⟩
      go_wp2_with fail
      refine (NU.out _ HX.out).mono ?_; rintro e w7 ⟨⟨u, rfl⟩, hX7, hT7⟩
      go_wp2
      go_end0
      refine ⟨⟨_, rfl⟩, ?_, HT.out.trans (hT7.sub fun x hx => .inr hx)⟩
      have e : l ++ insL ⟨1, a, c⟩ = l ++ [UInt8.ofNat (1 : Int).toNat] ++ numB (foldN a) := by simp [insL, show opsI 1 = 1 from rfl]
      rw [e]
      exact hX7.sub fun x hx => .inr hx
    · have p1' : (op == 1) = false := by simpa using p1
      have HP := Lib.hid (And.intro p1 p2)
      rw [p2] at OA
      clear p2 p1
      go_wp2_with fail
      refine (OA.out _).mono ?_; rintro e w7 ⟨rfl, rfl⟩
      go_wp2
      go_end0
      refine ⟨⟨_, rfl⟩, ?_, HT.out⟩
      have e : l ++ insL ⟨op, a, c⟩ = l ++ [UInt8.ofNat op.toNat] := by simp [insL, HP.out.1, HP.out.2]
      rw [e]
      exact HX.out.sub fun x hx => .inr hx
    · have p1' : (op == 1) = false := by simpa using p1
      have HP := Lib.hid (And.intro p1 p2)
      rw [p2] at OA
      clear p2 p1
      obtain ⟨an, rfl⟩ := Int.eq_ofNat_of_zero_le p3
      have NU := Lib.hid (fun W (X : WrX W B b (l ++ [UInt8.ofNat op.toNat]) 0 (fun x => x = S ∨ K x)) => number_any B b _ 0 _ an W X (by omega) (by simp; omega))
      go_wp2_with fail
      refine (OA.out _).mono ?_; rintro e w7 ⟨rfl, rfl⟩
      go_wp2_with fail
      refine (NU.out _ HX.out).mono ?_; rintro e w7 ⟨⟨u, rfl⟩, hX7, hT7⟩
      go_wp2
      go_end0
      refine ⟨⟨_, rfl⟩, ?_, HT.out.trans (hT7.sub fun x hx => .inr hx)⟩
      have e : l ++ insL ⟨op, an, c⟩ = l ++ [UInt8.ofNat op.toNat] ++ numB an := by simp [insL, HP.out.1, HP.out.2]
      rw [e]
      exact hX7.sub fun x hx => .inr hx
    · have p1' : (op == 1) = false := by simpa using p1
      have HP := Lib.hid (And.intro p1 p2)
      rw [p2] at OA
      clear p2 p1
      obtain ⟨an, rfl⟩ := Int.eq_ofNat_of_zero_le p3
      obtain ⟨cn, rfl⟩ := Int.eq_ofNat_of_zero_le p5
      have NU := Lib.hid (fun W (X : WrX W B b (l ++ [UInt8.ofNat op.toNat]) 0 (fun x => x = S ∨ K x)) => number_any B b _ 0 _ an W X (by omega) (by simp; omega))
      have hln : (numB an).length ≤ 10 := numB_len10 (by omega)
      have NV := Lib.hid (fun W (X : WrX W B b (l ++ [UInt8.ofNat op.toNat] ++ numB an) 0 (fun x => x = S ∨ K x)) => number_any B b _ 0 _ cn W X (by omega) (by simp; omega))
      clear hln
      go_wp2_with fail
      refine (OA.out _).mono ?_; rintro e w7 ⟨rfl, rfl⟩
      go_wp2_with fail
      refine (NU.out _ HX.out).mono ?_; rintro e w7 ⟨⟨u, rfl⟩, hX7, hT7⟩
      have hI7 := hT7.kept hI6 (.inl rfl)
      have r2 := hI7.val 2 rfl
      go_wp2_with fail
      refine (NV.out _ hX7).mono ?_; rintro e w8 ⟨⟨u, rfl⟩, hX8, hT8⟩
      go_wp2
      go_end0
      refine ⟨⟨_, rfl⟩, ?_, HT.out.trans ((hT7.trans hT8).sub fun x hx => .inr hx)⟩
      have e : l ++ insL ⟨op, an, cn⟩ = l ++ [UInt8.ofNat op.toNat] ++ numB an ++ numB cn := by simp [insL, HP.out.1, HP.out.2]
      rw [e]
      exact hX8.sub fun x hx => .inr hx
theorem lenE_ins (i : InsD) (ha : I64 i.a) : lenE (insE i) 21 := by
  intro l h
  unfold insE at h
  split at h
  · rename_i hr
    injection h with h
    subst h
    rcases right_parts (op := i.op) (a := i.a) (c := i.b) hr with ⟨p1, p2⟩ | ⟨p1, p2⟩ | ⟨p1, p2, p3, p4⟩ | ⟨p1, p2, p3, p4, p5, p6⟩
    · have := numB_len10 (foldN_lt ha)
      simp [insL, p1, show opsI 1 = 1 from rfl]; omega
    · simp [insL, p1, p2]
    · have := numB_len10 (n := i.a.toNat) (by omega)
      simp [insL, p1, p2]; omega
    · have := numB_len10 (n := i.a.toNat) (by omega)
      have := numB_len10 (n := i.b.toNat) (by omega)
      simp [insL, p1, p2]; omega
  · simp at h
theorem ins_any (B b : Nat) (l : List UInt8) (K : Nat → Prop) (i : InsD) (w : World) (h : WrX w B b l 0 K) (ha : I64 i.a) (hc : I64 i.b) (hl : l.length ≤ 100000000) :
    Calls Try.prog 60 #[.pointer (some ⟨b, 0, none⟩), .agg #[.int .i64 i.op, .int .i64 i.a, .int .i64 i.b]] w fun e' w' => (∃ u, e' = .returned u) ∧ WrP w' B b (andE (.ok l) (insE i)) K ∧ WrT B K w w' := by
  by_cases hr : rightB i = true
  · rw [insE, if_pos hr]
    exact ins_ok B b l K i.op i.a i.b w h hr ha hc hl
  · refine (ins_bad B b l K i w h (by simpa using hr)).mono fun e' w' ⟨hu, hX, hT⟩ => ⟨hu, ?_, hT⟩
    rw [insE, if_neg hr]
    exact ⟨by decide, hX.e⟩
end Go.Proofs.Ytgcimjghkidoiaa
/- code's writer: a function, and all: Encode. Condition: what is written lies in blocks below its own. -/
namespace Go.Proofs.Ytgcimjghkidoiaa
open Go.RowKit
set_option linter.unusedVariables false
def kindsE (l : List Int) (most : Nat) : Res := listE l.length most (fun i => kindE (l.getD i 0))
def ins0 : InsD := ⟨0, 0, 0⟩
def codeE (l : List InsD) : Res := listE l.length 256 (fun i => insE (l.getD i ins0))
def funE (f : FunD) : Res := andE (andE (andE (andE (nameE f.name) (kindsE f.params 6)) (kindE f.result)) (kindsE f.locals 16)) (codeE f.code)
theorem lenE_kinds (l : List Int) (most : Nat) (h : most < 1000000) : lenE (kindsE l most) (10 + most * 1) := lenE_list h fun _ _ => lenE_kind _
def codeOk (l : List InsD) : Prop := ∀ i, i < l.length → I64 (l.getD i ins0).a
theorem lenE_code (l : List InsD) (h : codeOk l) : lenE (codeE l) 5386 := lenE_list (by decide) fun i hi => lenE_ins _ (h i hi)
theorem lenE_fun (f : FunD) (h : codeOk f.code) : lenE (funE f) 5600 :=
  lenE_mono (lenE_and (lenE_and (lenE_and (lenE_and (lenE_name _) (lenE_kinds _ _ (by decide))) (lenE_kind _)) (lenE_kinds _ _ (by decide))) (lenE_code _ h)) (by decide)
def funV (f : FunD) (v1 v3 v4 : Value) : Array Value := #[.string f.name, v1, .int .i64 f.result, v3, v4]
set_option maxRecDepth 100000 in
set_option maxHeartbeats 2000000 in
theorem fun1_any (B b c1 c2 i : Nat) (l : List UInt8) (f : FunD) (v1 v3 v4 : Value) (K : Nat → Prop) (w : World) (h : WrX w B b l 0 K) (hc1 : Blk w c1 #[.pointer (some ⟨b, 0, none⟩)] 72) (hc2 : Blk w c2 #[.string f.name, v1, .int .i64 f.result, v3, v4] 49) (hv : RdRow 1 ElI B w v1 f.params) (hi : i < f.params.length) (hl : l.length ≤ 10000000) :
    Calls Try.prog 57 #[.int .i64 i, .pointer (some ⟨c1, 0, none⟩), .pointer (some ⟨c2, 0, none⟩)] w fun e' w' => (∃ u, e' = .returned u) ∧ WrP w' B b (andE (.ok l) (kindE (f.params.getD i 0))) K ∧ WrT B K w w' := by
  have hg : f.params.getD i 0 = f.params[i] := by simp [List.getD_eq_getElem?_getD, hi]
  rw [hg]
  obtain ⟨a, cap, rfl, hmx, hel⟩ := hv
  obtain ⟨d, o, rfl, hd, e1, _⟩ := hel i hi
  rw [Nat.mul_one] at e1
  clear hel hg
  generalize f.params[i] = t at *
  have hbw := h.bw
  have i1 : (0 : Int) ≤ (i : Int) ∧ (i : Int) < (f.params.length : Int) := ⟨by omega, by omega⟩
  have i2 : 0 < f.params.length := by omega
  generalize f.params.length = n at *
  have d1 := hc1.val 0 rfl
  have d2 := hc2.val 1 rfl
  have HL : Hid (lenE (.ok l) 1000000000) := fun q e => by injection e with e; subst e; omega
  have HX : Hid (WrP w.drew B b (.ok l) K) := h.quiet ⟨1, rfl⟩
  have T0 : Hid (WrT B K w w.drew) := WrT.of (Below.refl _ _).drew
  clear h hbw hc1 hc2
  go_enter Try.func57, Try.ntmps57
  go_wp2_with fail
  go_still_tail 6, (by kernel_rfl)
  change wpList _ _ _ _ _ w.drew
  generalize w.drew = w2 at *
  go_wp2_with fail
  refine (kind_any B b _ K t _ HX.out HL.out).mono ?_
  rintro e w3 ⟨⟨u, rfl⟩, hP3, hT3⟩
  go_wp2
  go_end0
  exact ⟨⟨_, rfl⟩, hP3, T0.out.trans hT3⟩
set_option maxRecDepth 100000 in
set_option maxHeartbeats 2000000 in
theorem fun2_any (B b c1 c2 i : Nat) (l : List UInt8) (f : FunD) (v1 v3 v4 : Value) (K : Nat → Prop) (w : World) (h : WrX w B b l 0 K) (hc1 : Blk w c1 #[.pointer (some ⟨b, 0, none⟩)] 72) (hc2 : Blk w c2 #[.string f.name, v1, .int .i64 f.result, v3, v4] 49) (hv : RdRow 1 ElI B w v3 f.locals) (hi : i < f.locals.length) (hl : l.length ≤ 10000000) :
    Calls Try.prog 58 #[.int .i64 i, .pointer (some ⟨c1, 0, none⟩), .pointer (some ⟨c2, 0, none⟩)] w fun e' w' => (∃ u, e' = .returned u) ∧ WrP w' B b (andE (.ok l) (kindE (f.locals.getD i 0))) K ∧ WrT B K w w' := by
  have hg : f.locals.getD i 0 = f.locals[i] := by simp [List.getD_eq_getElem?_getD, hi]
  rw [hg]
  obtain ⟨a, cap, rfl, hmx, hel⟩ := hv
  obtain ⟨d, o, rfl, hd, e1, _⟩ := hel i hi
  rw [Nat.mul_one] at e1
  clear hel hg
  generalize f.locals[i] = t at *
  have hbw := h.bw
  have i1 : (0 : Int) ≤ (i : Int) ∧ (i : Int) < (f.locals.length : Int) := ⟨by omega, by omega⟩
  have i2 : 0 < f.locals.length := by omega
  generalize f.locals.length = n at *
  have d1 := hc1.val 0 rfl
  have d2 := hc2.val 3 rfl
  have HL : Hid (lenE (.ok l) 1000000000) := fun q e => by injection e with e; subst e; omega
  have HX : Hid (WrP w.drew B b (.ok l) K) := h.quiet ⟨1, rfl⟩
  have T0 : Hid (WrT B K w w.drew) := WrT.of (Below.refl _ _).drew
  clear h hbw hc1 hc2
  go_enter Try.func58, Try.ntmps58
  go_wp2_with fail
  go_still_tail 6, (by kernel_rfl)
  change wpList _ _ _ _ _ w.drew
  generalize w.drew = w2 at *
  go_wp2_with fail
  refine (kind_any B b _ K t _ HX.out HL.out).mono ?_
  rintro e w3 ⟨⟨u, rfl⟩, hP3, hT3⟩
  go_wp2
  go_end0
  exact ⟨⟨_, rfl⟩, hP3, T0.out.trans hT3⟩
set_option maxRecDepth 100000 in
set_option maxHeartbeats 2000000 in
theorem fun3_any (B b c1 c2 i : Nat) (l : List UInt8) (f : FunD) (v1 v3 v4 : Value) (K : Nat → Prop) (w : World) (h : WrX w B b l 0 K) (hc1 : Blk w c1 #[.pointer (some ⟨b, 0, none⟩)] 72) (hc2 : Blk w c2 #[.string f.name, v1, .int .i64 f.result, v3, v4] 49) (hv : RdRow 3 ElN B w v4 f.code) (hi : i < f.code.length) (hl : l.length ≤ 10000000) :
    Calls Try.prog 59 #[.int .i64 i, .pointer (some ⟨c1, 0, none⟩), .pointer (some ⟨c2, 0, none⟩)] w fun e' w' => (∃ u, e' = .returned u) ∧ WrP w' B b (andE (.ok l) (insE (f.code.getD i ins0))) K ∧ WrT B K w w' := by
  have hg : f.code.getD i ins0 = f.code[i] := by simp [List.getD_eq_getElem?_getD, hi]
  rw [hg]
  obtain ⟨a, cap, rfl, hmx, hel⟩ := hv
  obtain ⟨d, o, rfl, hd, e1, e2, e3, j1, j2, j3⟩ := hel i hi
  clear hel hg
  generalize f.code[i] = t at *
  have hbw := h.bw
  have i1 : (0 : Int) ≤ (i : Int) ∧ (i : Int) < (f.code.length : Int) := ⟨by omega, by omega⟩
  have i2 : 0 < f.code.length := by omega
  generalize f.code.length = n at *
  have d1 := hc1.val 0 rfl
  have d2 := hc2.val 4 rfl
  have IN := Lib.hid (fun W (X : WrX W B b l 0 K) => ins_any B b l K t W X j2 j3 (by omega))
  have HX : Hid (WrX w.drew B b l 0 K) := h.quiet ⟨1, rfl⟩
  have T0 : Hid (WrT B K w w.drew) := WrT.of (Below.refl _ _).drew
  clear h hbw hc1 hc2 j1 j2 j3
  obtain ⟨op, a, c⟩ := t
  go_enter Try.func59, Try.ntmps59
  go_wp2_with fail
  go_still_tail 6, (by kernel_rfl)
  change wpList _ _ _ _ _ w.drew
  generalize w.drew = w2 at *
  go_wp2_with fail
  refine (IN.out _ HX.out).mono ?_
  rintro e w3 ⟨⟨u, rfl⟩, hP3, hT3⟩
  go_wp2
  go_end0
  exact ⟨⟨_, rfl⟩, hP3, T0.out.trans hT3⟩
theorem rd_shape {α : Type} {sz B : Nat} {el : World → Nat → Nat → α → Prop} {w : World} {v : Value} {l : List α} (h : RdRow sz el B w v l) : ∃ a c, v = .slice a l.length c := by
  obtain ⟨a, c, e, _⟩ := h; exact ⟨a, c, e⟩
theorem codeOk_of {B : Nat} {w : World} {v : Value} {l : List InsD} (h : RdRow 3 ElN B w v l) : codeOk l := by
  obtain ⟨a, c, _, _, hel⟩ := h
  intro i hi
  obtain ⟨d, o, _, _, e⟩ := hel i hi
  have hg : l.getD i ins0 = l[i] := by simp [List.getD_eq_getElem?_getD, hi]
  rw [hg]; exact e.2.2.2.2.1
set_option maxRecDepth 100000 in
set_option maxHeartbeats 4000000 in
theorem fun_any (B b : Nat) (r : Res) (f : FunD) (v1 v3 v4 : Value) (K : Nat → Prop) (w : World) (h : WrP w B b r K) (g1 : RdRow 1 ElI B w v1 f.params) (g3 : RdRow 1 ElI B w v3 f.locals) (g4 : RdRow 3 ElN B w v4 f.code) (hl : lenE r 5000000) :
    Calls Try.prog 34 #[.pointer (some ⟨b, 0, none⟩), .agg #[.string f.name, v1, .int .i64 f.result, v3, v4]] w fun e' w' => (∃ u, e' = .returned u) ∧ WrP w' B b (andE r (funE f)) K ∧ WrT B K w w' := by
  have hbw : B ≤ w.heap.size := h.bw
  have hck := codeOk_of g4
  obtain ⟨hP, hb⟩ := two_boxes h (.cells #[.pointer (some ⟨b, 0, none⟩)] 72) (.cells #[.string f.name, v1, .int .i64 f.result, v3, v4] 49)
  have k1 : Blk ((w.alloc (.cells #[.pointer (some ⟨b, 0, none⟩)] 72)).alloc (.cells #[.string f.name, v1, .int .i64 f.result, v3, v4] 49)) w.heap.size #[.pointer (some ⟨b, 0, none⟩)] 72 := (Blk.new _ _ _).alloc _
  have k2 : Blk ((w.alloc (.cells #[.pointer (some ⟨b, 0, none⟩)] 72)).alloc (.cells #[.string f.name, v1, .int .i64 f.result, v3, v4] 49)) (w.heap.size + 1) #[.string f.name, v1, .int .i64 f.result, v3, v4] 49 := Blk.new' (by simp)
  have R1 := Lib.hid (fun W (hb' : Below B w W) => g1.keep hb' fun _ _ _ e r => r.keep hb' e)
  have R3 := Lib.hid (fun W (hb' : Below B w W) => g3.keep hb' fun _ _ _ e r => r.keep hb' e)
  have R4 := Lib.hid (fun W (hb' : Below B w W) => g4.keep hb' fun _ _ _ e r => r.keep hb' e)
  have bw2 := hb.mono hbw
  have c1 := k1.val 0 rfl
  have c2 := k2.val 0 rfl
  obtain ⟨a1, p1, s1⟩ := rd_shape g1
  obtain ⟨a3, p3, s3⟩ := rd_shape g3
  obtain ⟨a4, p4, s4⟩ := rd_shape g4
  have NM := Lib.hid (name_any B b r _ f.name _ hP (lenE_mono hl (by decide)))
  have HV := Lib.hid (And.intro s1 (And.intro s3 s4))
  have HB : Hid (B ≤ ((w.alloc (.cells #[.pointer (some ⟨b, 0, none⟩)] 72)).alloc (.cells #[.string f.name, v1, .int .i64 f.result, v3, v4] 49)).heap.size) := by unfold Hid; simp; omega
  have HT0 : Hid (WrT B K w ((w.alloc (.cells #[.pointer (some ⟨b, 0, none⟩)] 72)).alloc (.cells #[.string f.name, v1, .int .i64 f.result, v3, v4] 49))) := WrT.of hb
  clear hP h g1 g3 g4 s1 s3 s4 hb
  go_enter Try.func34, Try.ntmps34
  go_wp2_with fail
  clear c1 c2
  generalize (w.alloc (.cells #[.pointer (some ⟨b, 0, none⟩)] 72)).alloc (.cells #[.string f.name, v1, .int .i64 f.result, v3, v4] 49) = w2 at *
  refine NM.out.mono ?_
  rintro e w3 ⟨⟨u, rfl⟩, hP3, hT3⟩
  have r1 := hT3.kept k1 (.inr (.inl rfl))
  have r2 := hT3.kept k2 (.inl rfl)
  have B3 := bw2.trans (hT3.below HB.out)
  have hs3 := Nat.le_trans HB.out hT3.size
  have d1 := r1.val 0 rfl
  have d2 := r2.val 1 rfl
  rw [HV.out.1] at d2
  have l3 := lenE_and hl (lenE_name f.name)
  have ST := Lib.hid (list_anyFun1 B b w.heap.size (w.heap.size + 1) _ _ f.params.length 6 5000026 1 (fun i => kindE (f.params.getD i 0)) _ hP3 (by decide) l3 (by decide) (fun _ _ => lenE_kind _) (fun i l W hi hn hX hT hl => fun1_any B b _ _ i l f v1 v3 v4 _ W hX (hT.kept r1 (.inr (.inl rfl))) (hT.kept r2 (.inl rfl)) (R1.out W (B3.trans (hT.below hs3))) hi (by omega)))
  have HT := Lib.hid (HT0.out.trans (hT3.sub fun x hx => .inr (.inr hx)))
  have L3 := Lib.hid l3
  have HB3 := Lib.hid hs3
  have HB3' := Lib.hid B3
  clear hP3 hT3 k1 k2 l3 hs3 B3 bw2 HB NM HT0
  go_wp2_with fail
  refine ST.out.mono ?_
  rintro e w4 ⟨⟨u, rfl⟩, hP4, hT4⟩
  have k1 := hT4.kept r1 (.inr (.inl rfl))
  have k2 := hT4.kept r2 (.inl rfl)
  have B4 := HB3'.out.trans (hT4.below HB3.out)
  have hs4 := Nat.le_trans HB3.out hT4.size
  have d1 := k1.val 0 rfl
  have d2 := k2.val 2 rfl
  have l4 := lenE_and L3.out (lenE_kinds f.params 6 (by decide))
  have KD := Lib.hid (kind_any B b _ _ f.result _ hP4 (lenE_mono l4 (by decide)))
  have HT4 := Lib.hid (HT.out.trans (hT4.sub fun x hx => .inr (.inr hx)))
  have L4 := Lib.hid l4
  have HB4 := Lib.hid hs4
  have HB4' := Lib.hid B4
  clear hP4 hT4 r1 r2 l4 hs4 B4 ST HT L3 HB3 HB3'
  go_wp2_with fail
  refine KD.out.mono ?_
  rintro e w5 ⟨⟨u, rfl⟩, hP5, hT5⟩
  have r1 := hT5.kept k1 (.inr (.inl rfl))
  have r2 := hT5.kept k2 (.inl rfl)
  have B5 := HB4'.out.trans (hT5.below HB4.out)
  have hs5 := Nat.le_trans HB4.out hT5.size
  have d1 := r1.val 0 rfl
  have d2 := r2.val 3 rfl
  rw [HV.out.2.1] at d2
  have l5 := lenE_and L4.out (lenE_kind f.result)
  have ST := Lib.hid (list_anyFun2 B b w.heap.size (w.heap.size + 1) _ _ f.locals.length 16 _ 1 (fun i => kindE (f.locals.getD i 0)) _ hP5 (by decide) l5 (by decide) (fun _ _ => lenE_kind _) (fun i l W hi hn hX hT hl => fun2_any B b _ _ i l f v1 v3 v4 _ W hX (hT.kept r1 (.inr (.inl rfl))) (hT.kept r2 (.inl rfl)) (R3.out W (B5.trans (hT.below hs5))) hi (by omega)))
  have HT5 := Lib.hid (HT4.out.trans (hT5.sub fun x hx => .inr (.inr hx)))
  have L5 := Lib.hid l5
  have HB5 := Lib.hid hs5
  have HB5' := Lib.hid B5
  clear hP5 hT5 k1 k2 l5 hs5 B5 KD HT4 L4 HB4 HB4'
  go_wp2_with fail
  refine ST.out.mono ?_
  rintro e w6 ⟨⟨u, rfl⟩, hP6, hT6⟩
  have k1 := hT6.kept r1 (.inr (.inl rfl))
  have k2 := hT6.kept r2 (.inl rfl)
  have B6 := HB5'.out.trans (hT6.below HB5.out)
  have hs6 := Nat.le_trans HB5.out hT6.size
  have d1 := k1.val 0 rfl
  have d2 := k2.val 4 rfl
  rw [HV.out.2.2] at d2
  have l6 := lenE_and L5.out (lenE_kinds f.locals 16 (by decide))
  have ST2 := Lib.hid (list_anyFun3 B b w.heap.size (w.heap.size + 1) _ _ f.code.length 256 _ 21 (fun i => insE (f.code.getD i ins0)) _ hP6 (by decide) l6 (by decide) (fun i hi => lenE_ins _ (hck i hi)) (fun i l W hi hn hX hT hl => fun3_any B b _ _ i l f v1 v3 v4 _ W hX (hT.kept k1 (.inr (.inl rfl))) (hT.kept k2 (.inl rfl)) (R4.out W (B6.trans (hT.below hs6))) hi (by omega)))
  have HT6 := Lib.hid (HT5.out.trans (hT6.sub fun x hx => .inr (.inr hx)))
  clear hP6 hT6 r1 r2 l6 hs6 B6 ST HT5 L5 HB5 HB5'
  go_wp2_with fail
  refine ST2.out.mono ?_
  rintro e w7 ⟨⟨u, rfl⟩, hP7, hT7⟩
  go_wp2
  go_end0
  refine ⟨⟨_, rfl⟩, ?_, HT6.out.trans (hT7.sub fun x hx => .inr (.inr hx))⟩
  have e : andE r (funE f) = andE (andE (andE (andE (andE r (nameE f.name)) (kindsE f.params 6)) (kindE f.result)) (kindsE f.locals 16)) (codeE f.code) := by simp only [funE, andE_assoc]
  rw [e]
  exact hP7.sub fun x hx => .inr (.inr hx)
end Go.Proofs.Ytgcimjghkidoiaa
/- The document's sameInts of two rows of numbers. No condition. -/
namespace Go.Proofs.Ytgcimjghkidoiaa
open Go.RowKit
set_option linter.unusedVariables false
theorem list_eq_of {α : Type} {l1 l2 : List α} (h : l1.length = l2.length) (he : ∀ i, (h1 : i < l1.length) → (h2 : i < l2.length) → l1[i] = l2[i]) : l1 = l2 := List.ext_getElem h he
theorem rd_at {α : Type} {sz B : Nat} {el : World → Nat → Nat → α → Prop} {w : World} {a : Option Addr} {n c i : Nat} {l : List α} (h : RdRow sz el B w (.slice a n c) l) (hi : i < l.length) : ∃ b o, a = some ⟨b, o, none⟩ ∧ b < B ∧ el w b (o + i * sz) l[i] := by
  obtain ⟨a', c', q, _, h3⟩ := h
  injection q with q1 q2 q3
  subst q1
  exact h3 i hi
set_option maxRecDepth 100000 in
set_option maxHeartbeats 4000000 in
theorem rsints_any (w : World) (B : Nat) (v1 v2 : Value) (l1 l2 : List Int) (h1 : RdRow 1 ElI B w v1 l1) (h2 : RdRow 1 ElI B w v2 l2) :
    Calls Try.prog 29 #[v1, v2] w fun e w' => e = .returned (.bool (decide (l1 = l2))) ∧ Quiet w w' := by
  have h1' := h1
  have h2' := h2
  obtain ⟨a1, c1, rfl⟩ := rd_shape h1'
  obtain ⟨a2, c2, rfl⟩ := rd_shape h2'
  have M1 : l1.length ≤ maxLen := by obtain ⟨_, _, _, h, _⟩ := h1; exact h
  unfold maxLen at M1
  have R1 := Lib.hid (fun i (hi : i < l1.length) => rd_at h1 hi)
  have R2 := Lib.hid (fun i (hi : i < l2.length) => rd_at h2 hi)
  clear h1 h2 h1' h2'
  by_cases hn : l1.length = l2.length
  · have hne : ((l1.length : Int) != (l2.length : Int)) = false := by simp [hn]
    go_enter Try.func29, Try.ntmps29
    go_wp2
    go_loopw [5] (fun i wr => ∃ k : Nat, k ≤ l1.length ∧ i = .int .i64 k ∧ Quiet w wr ∧ ∀ j, (j1 : j < l1.length) → (j2 : j < l2.length) → j < k → l1[j] = l2[j]) (fun i _ => l1.length - (intOf i).toNat)
    case atStart => exact ⟨0, Nat.zero_le _, rfl, Quiet.refl _, fun j _ _ h => absurd h (by omega)⟩
    case round =>
      obtain ⟨k, hk, rfl, hq, hj⟩ := hrel
      have HJ := Lib.hid hj
      clear hj
      by_cases hlt : k < l1.length
      · have hlt2 : k < l2.length := by omega
        obtain ⟨b1, o1, rfl, _, p1, _⟩ := R1.out k hlt
        obtain ⟨b2, o2, rfl, _, p2, _⟩ := R2.out k hlt2
        rw [Nat.mul_one] at p1 p2
        have p1 := (hq.cell _).trans p1
        have p2 := (hq.cell _).trans p2
        have hlt' : (k : Int) < (l1.length : Int) := by omega
        have hlt2' : (k : Int) < (l2.length : Int) := by omega
        have hge' : (0 : Int) ≤ (k : Int) := by omega
        have hne2 := Lib.hid hn
        by_cases hx : l1[k] = l2[k]
        · have hx' : (l1[k] != l2[k]) = false := by simp [hx]
          have HX : Hid (∀ (j1 : k < l1.length) (j2 : k < l2.length), l1[k]'j1 = l2[k]'j2) := fun _ _ => hx
          clear hx
          generalize l1[k] = z1 at *
          generalize l2[k] = z2 at *
          go_wp2
          go_quiet (fail)
          go_wp2
          go_roundw
          case rel => exact ⟨k + 1, by omega, by go_num, hq.trans ⟨_, rfl⟩, fun j j1 j2 j3 => by
            rcases Nat.lt_or_ge j k with h | h
            · exact HJ.out j j1 j2 h
            · obtain rfl : j = k := by omega
              exact HX.out j1 j2⟩
          case measure => simp [intOf]; omega
        · have hx' : (l1[k] != l2[k]) = true := by simp [hx]
          have HX : Hid (¬ l1 = l2) := fun h => hx (by subst h; rfl)
          clear hx
          generalize l1[k] = z1 at *
          generalize l2[k] = z2 at *
          go_wp2
          go_quiet (fail)
          go_wp2
          go_ret
          exact ⟨ret_bool (by simp [HX.out]), hq.trans ⟨_, rfl⟩⟩
      · have hlt' : ¬ (k : Int) < (l1.length : Int) := by omega
        go_wp2
        go_ret
        exact ⟨ret_bool (by simp [list_eq_of hn fun i i1 i2 => HJ.out i i1 i2 (by omega)]), hq⟩
  · have hne : ((l1.length : Int) != (l2.length : Int)) = true := by simp; omega
    have HX : Hid (¬ l1 = l2) := fun h => hn (by rw [h])
    go_enter Try.func29, Try.ntmps29
    go_wp2
    go_ret
    exact ⟨ret_bool (by simp [HX.out]), Quiet.refl _⟩
end Go.Proofs.Ytgcimjghkidoiaa
/- Fields and instructions compared. No condition. -/
namespace Go.Proofs.Ytgcimjghkidoiaa
open Go.RowKit
set_option linter.unusedVariables false
theorem fields2 {l : List Field} {t u : TypeId} (h : l.map (fun f => (f.type, f.offset, f.name == "_")) = [(t, 0, false), (u, 1, false)]) :
    ∃ f g, l = [f, g] ∧ (f.type = t ∧ f.offset = 0 ∧ ¬ f.name = "_") ∧ (g.type = u ∧ g.offset = 1 ∧ ¬ g.name = "_") := by
  rcases l with _ | ⟨f0, _ | ⟨f1, _ | ⟨f2, l⟩⟩⟩ <;> simp only [List.map_cons, List.map_nil, List.cons.injEq, Prod.mk.injEq, beq_eq_false_iff_ne, ne_eq, and_true, reduceCtorEq, and_false] at h
  exact ⟨f0, f1, rfl, h.1, h.2⟩
theorem fields3 {l : List Field} {t u : TypeId} (h : l.map (fun f => (f.type, f.offset, f.name == "_")) = [(t, 0, false), (u, 1, false), (u, 2, false)]) :
    ∃ f g k, l = [f, g, k] ∧ (f.type = t ∧ f.offset = 0 ∧ ¬ f.name = "_") ∧ (g.type = u ∧ g.offset = 1 ∧ ¬ g.name = "_") ∧ (k.type = u ∧ k.offset = 2 ∧ ¬ k.name = "_") := by
  rcases l with _ | ⟨f0, _ | ⟨f1, _ | ⟨f2, _ | ⟨f3, l⟩⟩⟩⟩ <;> simp only [List.map_cons, List.map_nil, List.cons.injEq, Prod.mk.injEq, beq_eq_false_iff_ne, ne_eq, and_true, reduceCtorEq, and_false] at h
  exact ⟨f0, f1, f2, rfl, h.1, h.2⟩
theorem neq_fld (w : World) (a b : ByteArray) (x y : Int) :
    (binOp .neq 45 (.agg #[.string a, .int .i64 x]) (.agg #[.string b, .int .i64 y])).run Try.prog w = .ok (.bool (!(a.toList == b.toList && x == y))) w := by
  rw [run_neq_struct, run_equalIn_agg w 9999 _ _ _ (by kernel_rfl) (by kernel_rfl)]
  obtain ⟨f, g, hl, ⟨f1, f2, f3⟩, g1, g2, g3⟩ := fields2 (l := (Try.prog.fieldsOf 45).toList) (t := 9) (u := 3) (by kernel_rfl)
  rw [hl]
  have hi : Try.prog.underlying 3 = some (.int .i64) := by kernel_rfl
  have hs : Try.prog.underlying 9 = some .string := by kernel_rfl
  simp [Op.eqFields, f1, f2, f3, g1, g2, g3, go_sem, hi, hs]
  by_cases h1 : a.toList = b.toList <;> by_cases h2 : x = y <;> simp [h1, h2]
theorem guard_fld : Try.prog.eqGuardType Try.prog.depth 45 = false := by kernel_rfl
theorem neq_ins (w : World) (a b c x y z : Int) :
    (binOp .neq 51 (.agg #[.int .i64 a, .int .i64 b, .int .i64 c]) (.agg #[.int .i64 x, .int .i64 y, .int .i64 z])).run Try.prog w = .ok (.bool (!(a == x && (b == y && c == z)))) w := by
  rw [run_neq_struct, run_equalIn_agg w 9999 _ _ _ (by kernel_rfl) (by kernel_rfl)]
  obtain ⟨f, g, k, hl, ⟨f1, f2, f3⟩, ⟨g1, g2, g3⟩, k1, k2, k3⟩ := fields3 (l := (Try.prog.fieldsOf 51).toList) (t := 3) (u := 2) (by kernel_rfl)
  rw [hl]
  have hi : Try.prog.underlying 3 = some (.int .i64) := by kernel_rfl
  have hj : Try.prog.underlying 2 = some (.int .i64) := by kernel_rfl
  simp [Op.eqFields, f1, f2, f3, g1, g2, g3, k1, k2, k3, go_sem, hi, hj]
  by_cases h1 : a = x <;> by_cases h2 : b = y <;> by_cases h3 : c = z <;> simp [h1, h2, h3]
theorem guard_ins : Try.prog.eqGuardType Try.prog.depth 51 = false := by kernel_rfl
/-! what of a program is compared -/
def fldP (f : FldD) : List UInt8 × Int := (f.name.toList, f.ty)
def clsP (c : ClsD) : List UInt8 × List (List UInt8 × Int) := (c.name.toList, c.fields.map fldP)
def insP (i : InsD) : Int × Int × Int := (i.op, i.a, i.b)
def funP (f : FunD) : List UInt8 × List Int × Int × List Int × List (Int × Int × Int) := (f.name.toList, f.params, f.result, f.locals, f.code.map insP)
def prgP (p : PrgD) : List (List UInt8 × List (List UInt8 × Int)) × List (List UInt8 × List Int × Int × List Int × List (Int × Int × Int)) := (p.classes.map clsP, p.funcs.map funP)
theorem map_eq_of {α β : Type} {f : α → β} {l1 l2 : List α} (h : l1.length = l2.length) (he : ∀ i, (h1 : i < l1.length) → (h2 : i < l2.length) → f l1[i] = f l2[i]) : l1.map f = l2.map f :=
  list_eq_of (by simpa using h) fun i h1 h2 => by simpa using he i (by simpa using h1) (by simpa using h2)
theorem map_ne_at {α β : Type} {f : α → β} {l1 l2 : List α} {i : Nat} (h1 : i < l1.length) (h2 : i < l2.length) (h : ¬ f l1[i] = f l2[i]) : ¬ l1.map f = l2.map f := fun e => h (by
  have q : (l1.map f)[i]? = (l2.map f)[i]? := by rw [e]
  simpa [List.getElem?_eq_getElem h1, List.getElem?_eq_getElem h2] using q)
theorem map_ne_len {α β : Type} {f : α → β} {l1 l2 : List α} (h : ¬ l1.length = l2.length) : ¬ l1.map f = l2.map f := fun e => h (by simpa using congrArg List.length e)
end Go.Proofs.Ytgcimjghkidoiaa
/- The document's SameClass and Same of classes. No condition. -/
namespace Go.Proofs.Ytgcimjghkidoiaa
open Go.RowKit
set_option linter.unusedVariables false
theorem fldP_eq {f g : FldD} : (f.name.toList == g.name.toList && f.ty == g.ty) = decide (fldP f = fldP g) := by
  unfold fldP
  by_cases h1 : f.name.toList = g.name.toList <;> by_cases h2 : f.ty = g.ty <;> simp [h1, h2]
theorem clsP_eq {f g : ClsD} : decide (clsP f = clsP g) = (decide (f.name.toList = g.name.toList) && decide (f.fields.map fldP = g.fields.map fldP)) := by
  unfold clsP
  by_cases h1 : f.name.toList = g.name.toList <;> by_cases h2 : f.fields.map fldP = g.fields.map fldP <;> simp [h1, h2]
set_option maxRecDepth 100000 in
set_option maxHeartbeats 4000000 in
theorem rsclass_any (w : World) (B : Nat) (v1 v2 : Value) (c d : ClsD) (hB : B ≤ w.heap.size) (h1 : RdRow 2 ElF B w v1 c.fields) (h2 : RdRow 2 ElF B w v2 d.fields) :
    Calls Try.prog 41 #[.agg #[.string c.name, v1], .agg #[.string d.name, v2]] w fun e w' => e = .returned (.bool (decide (clsP c = clsP d))) ∧ Below w.heap.size w w' := by
  have h1' := h1
  have h2' := h2
  obtain ⟨a1, q1, rfl⟩ := rd_shape h1'
  obtain ⟨a2, q2, rfl⟩ := rd_shape h2'
  have M1 : c.fields.length ≤ maxLen := by obtain ⟨_, _, _, h, _⟩ := h1; exact h
  unfold maxLen at M1
  have k1 : Blk ((w.alloc (.cells #[.string c.name, .slice a1 c.fields.length q1] 43)).alloc (.cells #[.string d.name, .slice a2 d.fields.length q2] 43)) w.heap.size #[.string c.name, .slice a1 c.fields.length q1] 43 := (Blk.new _ _ _).alloc _
  have k2 : Blk ((w.alloc (.cells #[.string c.name, .slice a1 c.fields.length q1] 43)).alloc (.cells #[.string d.name, .slice a2 d.fields.length q2] 43)) (w.heap.size + 1) #[.string d.name, .slice a2 d.fields.length q2] 43 := Blk.new' (by simp)
  have hb0 : Below w.heap.size w ((w.alloc (.cells #[.string c.name, .slice a1 c.fields.length q1] 43)).alloc (.cells #[.string d.name, .slice a2 d.fields.length q2] 43)) := ((Below.refl _ _).alloc (Nat.le_refl _) _).alloc (by simp) _
  have g1 := h1.keep (hb0.mono hB) fun _ _ _ e r => r.keep (hb0.mono hB) e
  have g2 := h2.keep (hb0.mono hB) fun _ _ _ e r => r.keep (hb0.mono hB) e
  have R1 := Lib.hid (fun i (hi : i < c.fields.length) => rd_at g1 hi)
  have R2 := Lib.hid (fun i (hi : i < d.fields.length) => rd_at g2 hi)
  have hb := Lib.hid hb0
  have CP := Lib.hid (clsP_eq (f := c) (g := d))
  clear h1 h2 h1' h2' hb0 g1 g2
  have c0 := k1.val 0 rfl
  have c1 := k1.val 1 rfl
  have d0 := k2.val 0 rfl
  have d1 := k2.val 1 rfl
  have hG := guard_fld
  by_cases hx : c.name.toList = d.name.toList
  · have hx' : (c.name.toList == d.name.toList) = true := by simp [hx]
    have HX := Lib.hid hx
    clear hx
    by_cases hn : c.fields.length = d.fields.length
    · have hne : ((c.fields.length : Int) != (d.fields.length : Int)) = false := by simp [hn]
      have HN := Lib.hid hn
      clear hn
      go_enter Try.func41, Try.ntmps41
      go_wp2
      generalize World.alloc (World.alloc _ _) _ = W at *
      generalize hS : w.heap.size = S at *
      have HS := Lib.hid hS
      clear hS
      go_loopw [5] (fun i wr => ∃ k : Nat, k ≤ c.fields.length ∧ i = .int .i64 k ∧ Quiet W wr ∧ ∀ j, (j1 : j < c.fields.length) → (j2 : j < d.fields.length) → j < k → fldP c.fields[j] = fldP d.fields[j]) (fun i _ => c.fields.length - (intOf i).toNat)
      case atStart => exact ⟨0, Nat.zero_le _, rfl, Quiet.refl _, fun j _ _ h => absurd h (by omega)⟩
      case round =>
        obtain ⟨k, hk, rfl, hq, hj⟩ := hrel
        have HJ := Lib.hid hj
        clear hj
        have c1 := (hq.cell _).trans c1
        have d1 := (hq.cell _).trans d1
        by_cases hlt : k < c.fields.length
        · have hlt2 : k < d.fields.length := by have := HN.out; omega
          obtain ⟨b1, o1, rfl, _, p1, p1', _⟩ := R1.out k hlt
          obtain ⟨b2, o2, rfl, _, p2, p2', _⟩ := R2.out k hlt2
          have p1 := (hq.cell _).trans p1
          have p2 := (hq.cell _).trans p2
          have p1' := (hq.cell _).trans p1'
          have p2' := (hq.cell _).trans p2'
          have hlt' : (k : Int) < (c.fields.length : Int) := by omega
          have hlt2' : (k : Int) < (d.fields.length : Int) := by omega
          have hge' : (0 : Int) ≤ (k : Int) := by omega
          have FP := Lib.hid (@fldP_eq c.fields[k] d.fields[k])
          have hE := fun W => neq_fld W c.fields[k].name d.fields[k].name c.fields[k].ty d.fields[k].ty
          have HM : Hid (¬ fldP c.fields[k] = fldP d.fields[k] → ¬ c.fields.map fldP = d.fields.map fldP) := map_ne_at hlt hlt2
          have HE : Hid (∀ (j1 : k < c.fields.length) (j2 : k < d.fields.length), fldP (c.fields[k]'j1) = fldP (c.fields[k]'hlt) ∧ fldP (d.fields[k]'j2) = fldP (d.fields[k]'hlt2)) := fun _ _ => ⟨rfl, rfl⟩
          generalize c.fields[k] = z1 at *
          generalize d.fields[k] = z2 at *
          rcases z1 with ⟨zn, zt⟩
          rcases z2 with ⟨yn, yt⟩
          simp only at p1 p2 p1' p2' hE
          by_cases hy : fldP ⟨zn, zt⟩ = fldP ⟨yn, yt⟩
          · have hv : (zn.toList == yn.toList && zt == yt) = true := by rw [show (zn.toList == yn.toList && zt == yt) = decide (fldP ⟨zn, zt⟩ = fldP ⟨yn, yt⟩) from FP.out]; simpa using hy
            have HY := Lib.hid hy
            clear hy
            go_wp2
            go_quiet (fail)
            go_wp2
            go_roundw
            case rel => exact ⟨k + 1, by omega, by go_num, hq.trans ⟨_, rfl⟩, fun j j1 j2 j3 => by
              rcases Nat.lt_or_ge j k with h | h
              · exact HJ.out j j1 j2 h
              · obtain rfl : j = k := by omega
                exact (HE.out j1 j2).1.trans (HY.out.trans (HE.out j1 j2).2.symm)⟩
            case measure => simp [intOf]; omega
          · have hv : (zn.toList == yn.toList && zt == yt) = false := by rw [show (zn.toList == yn.toList && zt == yt) = decide (fldP ⟨zn, zt⟩ = fldP ⟨yn, yt⟩) from FP.out]; simpa using hy
            have HY := Lib.hid hy
            clear hy
            go_wp2
            go_quiet (fail)
            go_wp2
            go_ret
            exact ⟨ret_bool (by rw [CP.out]; simp [HM.out HY.out]), by first | (rw [HS.out]; exact hb.out.trans (Quiet.below (hq.trans ⟨_, rfl⟩))) | exact hb.out.trans (Quiet.below (hq.trans ⟨_, rfl⟩))⟩
        · have hlt' : ¬ (k : Int) < (c.fields.length : Int) := by omega
          go_wp2
          go_ret
          exact ⟨ret_bool (by rw [CP.out]; simp [HX.out, map_eq_of HN.out fun i i1 i2 => HJ.out i i1 i2 (by omega)]), by first | (rw [HS.out]; exact hb.out.trans (Quiet.below hq)) | exact hb.out.trans (Quiet.below hq)⟩
    · have hne : ((c.fields.length : Int) != (d.fields.length : Int)) = true := by simp; omega
      have HM := Lib.hid (map_ne_len (f := fldP) hn)
      go_enter Try.func41, Try.ntmps41
      go_wp2
      go_ret
      exact ⟨ret_bool (by rw [CP.out]; simp [HM.out]), hb.out⟩
  · have hx' : (c.name.toList == d.name.toList) = false := by simpa using hx
    have HX := Lib.hid hx
    clear hx
    go_enter Try.func41, Try.ntmps41
    go_wp2
    go_ret
    exact ⟨ret_bool (by rw [CP.out]; simp [HX.out]), hb.out⟩
end Go.Proofs.Ytgcimjghkidoiaa
