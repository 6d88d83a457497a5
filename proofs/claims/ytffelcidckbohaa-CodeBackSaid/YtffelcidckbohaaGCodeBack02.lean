/- Texts of this seat, one behind the other: each says at its head what it holds. No condition of its own. -/
import Derived.Test.YtffelcidckbohaaGCodeBack01
/- code's Operands, Right and fold. No condition. -/
namespace Go.Proofs.Ytffelcidckbohaa
open Go.RowKit
set_option linter.unusedVariables false
def opsI (op : Int) : Int := if op < 1 ∨ 39 < op then -1 else if op = 25 ∨ op = 26 ∨ op = 27 then 2 else if op = 1 ∨ op = 3 ∨ op = 4 ∨ op = 18 ∨ op = 19 ∨ op = 20 ∨ op = 22 ∨ op = 33 ∨ op = 34 ∨ op = 35 then 1 else 0
def opB (op : Int) : Bool := decide (1 ≤ op ∧ op ≤ 39)
def smallB (a : Int) : Bool := decide (0 ≤ a ∧ a ≤ 2147483647)
def rightB (i : InsD) : Bool := if opsI i.op = 0 then decide (i.a = 0 ∧ i.b = 0) else if opsI i.op = 1 then decide ((i.op = 1 ∨ smallB i.a = true) ∧ i.b = 0) else if opsI i.op = 2 then smallB i.a && smallB i.b else false
def foldN (a : Int) : Nat := if a < 0 then (2 * (-a - 1) + 1).toNat else (2 * a).toNat
set_option maxHeartbeats 1000000 in
theorem isop_any (op : Int) (w : World) : Calls Try.prog 66 #[.int .i64 op] w fun e w' => e = .returned (.bool (opB op)) ∧ w = w' := by
  by_cases h1 : 1 ≤ op
  · by_cases h2 : op ≤ 39
    · go_enter Try.func66, Try.ntmps66
      go_wp2
      go_ret
      exact ⟨ret_bool (by simp [opB, h1, h2]), rfl⟩
    · go_enter Try.func66, Try.ntmps66
      go_wp2
      go_ret
      exact ⟨ret_bool (by simp [opB, h1, h2]), rfl⟩
  · go_enter Try.func66, Try.ntmps66
    go_wp2
    go_ret
    exact ⟨ret_bool (by simp [opB]; omega), rfl⟩
set_option maxHeartbeats 1000000 in
theorem isoperand_any (a : Int) (w : World) : Calls Try.prog 67 #[.int .i64 a] w fun e w' => e = .returned (.bool (smallB a)) ∧ w = w' := by
  by_cases h1 : 0 ≤ a
  · by_cases h2 : a ≤ 2147483647
    · go_enter Try.func67, Try.ntmps67
      go_wp2
      go_ret
      exact ⟨ret_bool (by simp [smallB, h1, h2]), rfl⟩
    · go_enter Try.func67, Try.ntmps67
      go_wp2
      go_ret
      exact ⟨ret_bool (by simp [smallB, h1, h2]), rfl⟩
  · go_enter Try.func67, Try.ntmps67
    go_wp2
    go_ret
    exact ⟨ret_bool (by simp [smallB]; omega), rfl⟩
set_option maxRecDepth 100000 in
set_option maxHeartbeats 4000000 in
theorem operands_any (op : Int) (w : World) : Calls Try.prog 61 #[.int .i64 op] w fun e w' => e = .returned (.int .i64 (opsI op)) ∧ w = w' := by
  by_cases h1 : opB op = true
  · have h1' : 1 ≤ op ∧ op ≤ 39 := by simpa [opB] using h1
    have HB := Lib.hid h1
    have HV : Hid (∀ x : Int, (opsI op = x) → opsI op = x) := fun _ h => h
    go_enter Try.func61, Try.ntmps61
    go_wp2_with fail
    refine (isop_any op _).mono ?_; rintro e w1 ⟨rfl, rfl⟩
    rw [HB.out]
    go_wp2
    all_goals
      go_ret
      refine ⟨ret_int ?_, rfl⟩
      simp only [beq_iff_eq, beq_eq_false_iff_ne, ne_eq] at *
      unfold opsI
      omega
  · have h1' : op < 1 ∨ 39 < op := by simp [opB] at h1; omega
    have HB : Hid (opB op = false) := by unfold Hid; simpa using h1
    clear h1
    go_enter Try.func61, Try.ntmps61
    go_wp2_with fail
    refine (isop_any op _).mono ?_; rintro e w1 ⟨rfl, rfl⟩
    rw [HB.out]
    go_wp2
    go_ret
    exact ⟨ret_int (by rw [opsI, if_pos h1']), rfl⟩
theorem or1 (y : Nat) (h : y < 9223372036854775808) : bits .or .u64 ((2 * y : Nat) : Int) 1 = ((2 * y + 1 : Nat) : Int) := by
  rw [show (1 : Int) = ((1 : Nat) : Int) from rfl, bits_or_u64_nat _ _ (by omega) (by decide)]
  congr 1
  apply Nat.eq_of_testBit_eq
  intro i
  cases i with
  | zero => simp
  | succ i =>
    rw [Nat.testBit_or, Nat.testBit_succ, Nat.testBit_succ, Nat.testBit_succ, show 2 * y / 2 = y by omega, show (2 * y + 1) / 2 = y by omega]
    simp
theorem not_neg (a : Int) (h1 : -9223372036854775808 ≤ a) (h2 : a < 0) : bits .xor .i64 (-1) a = -a - 1 := by
  show IntKind.i64.wrap ((BitVec.ofInt 64 (-1) ^^^ BitVec.ofInt 64 a).toNat : Int) = _
  have e1 : BitVec.ofInt 64 (-1) = BitVec.allOnes 64 := by decide
  have e2 : (BitVec.ofInt 64 a).toNat = (a + 18446744073709551616).toNat := by
    rw [BitVec.toNat_ofInt]; congr 1; omega
  rw [e1, BitVec.allOnes_xor, BitVec.toNat_not, e2, IntKind.wrap_i64]
  omega
theorem fold_bits (a : Int) (h1 : -9223372036854775808 ≤ a) (h2 : a < 0) : bits .or .u64 (IntKind.u64.wrap (IntKind.u64.wrap (bits .xor .i64 (-1) a) * 2)) 1 = ((foldN a : Nat) : Int) := by
  rw [not_neg a h1 h2]
  have e : IntKind.u64.wrap (IntKind.u64.wrap (-a - 1) * 2) = ((2 * (-a - 1).toNat : Nat) : Int) := by
    rw [IntKind.wrap_u64, IntKind.wrap_u64]; omega
  rw [e, or1 _ (by omega), foldN, if_pos h2]
  omega
theorem foldN_lt {a : Int} (h : I64 a) : foldN a < 18446744073709551616 := by
  obtain ⟨h1, h2⟩ := h
  unfold foldN; split <;> omega
set_option maxHeartbeats 1000000 in
theorem fold_any (a : Int) (w : World) (ha : I64 a) : Calls Try.prog 65 #[.int .i64 a] w fun e w' => e = .returned (.int .u64 (foldN a : Nat)) ∧ w = w' := by
  obtain ⟨h1, h2⟩ := ha
  by_cases h : a < 0
  · have HA := Lib.hid h
    go_enter Try.func65, Try.ntmps65
    go_wp2
    go_ret
    exact ⟨ret_int (fold_bits a h1 HA.out), rfl⟩
  · go_enter Try.func65, Try.ntmps65
    go_wp2
    go_ret
    exact ⟨ret_int (by unfold foldN; split <;> omega), rfl⟩
theorem beqd (b : Int) : (b == 0) = decide (b = 0) := by by_cases h : b = 0 <;> simp [h]
theorem opsI_cases (op : Int) : opsI op = -1 ∨ opsI op = 0 ∨ opsI op = 1 ∨ opsI op = 2 := by unfold opsI; split <;> (try split) <;> (try split) <;> simp
set_option maxRecDepth 100000 in
set_option maxHeartbeats 4000000 in
theorem right_any (i : InsD) (w : World) : Calls Try.prog 64 #[.agg #[.int .i64 i.op, .int .i64 i.a, .int .i64 i.b]] w fun e w' => e = .returned (.bool (rightB i)) ∧ Below w.heap.size w w' := by
  obtain ⟨op, a, b⟩ := i
  have hB : Below w.heap.size w (w.alloc (.cells #[.int .i64 op, .int .i64 a, .int .i64 b] 41)) := (Below.refl _ _).alloc (Nat.le_refl _) _
  have HR : Hid (∀ x, rightB ⟨op, a, b⟩ = x → rightB ⟨op, a, b⟩ = x) := fun _ h => h
  have HO := Lib.hid (fun W => operands_any op W)
  have hc := opsI_cases op
  have HD : Hid (rightB ⟨op, a, b⟩ = if opsI op = 0 then decide (a = 0 ∧ b = 0) else if opsI op = 1 then decide ((op = 1 ∨ smallB a = true) ∧ b = 0) else if opsI op = 2 then smallB a && smallB b else false) := rfl
  generalize rightB ⟨op, a, b⟩ = rb at *
  generalize opsI op = k at *
  rcases hc with rfl | rfl | rfl | rfl
  · go_enter Try.func64, Try.ntmps64
    go_wp2_with fail
    refine (HO.out _).mono ?_; rintro e w1 ⟨rfl, rfl⟩
    go_wp2
    go_ret
    exact ⟨ret_bool (by rw [HD.out]; rfl), hB⟩
  · by_cases ha : a = 0
    · subst ha
      go_enter Try.func64, Try.ntmps64
      go_wp2_with fail
      refine (HO.out _).mono ?_; rintro e w1 ⟨rfl, rfl⟩
      go_wp2
      go_ret
      exact ⟨ret_bool (by rw [HD.out]; simp [beqd]), hB⟩
    · have ha' : (a == 0) = false := by simpa using ha
      go_enter Try.func64, Try.ntmps64
      go_wp2_with fail
      refine (HO.out _).mono ?_; rintro e w1 ⟨rfl, rfl⟩
      go_wp2
      go_ret
      exact ⟨ret_bool (by rw [HD.out]; simp [ha]), hB⟩
  · by_cases ho : op = 1
    · subst ho
      go_enter Try.func64, Try.ntmps64
      go_wp2_with fail
      refine (HO.out _).mono ?_; rintro e w1 ⟨rfl, rfl⟩
      go_wp2
      go_ret
      exact ⟨ret_bool (by rw [HD.out]; simp [beqd]), hB⟩
    · have ho' : (op == 1) = false := by simpa using ho
      by_cases hs : smallB a = true
      · have HS := Lib.hid hs
        go_enter Try.func64, Try.ntmps64
        go_wp2_with fail
        refine (HO.out _).mono ?_; rintro e w1 ⟨rfl, rfl⟩
        go_wp2_with fail
        refine (isoperand_any a _).mono ?_; rintro e w1 ⟨rfl, rfl⟩
        rw [HS.out]
        go_wp2
        go_ret
        exact ⟨ret_bool (by rw [HD.out]; simp [beqd, ho, HS.out]), hB⟩
      · have HS : Hid (smallB a = false) := by unfold Hid; simpa using hs
        clear hs
        go_enter Try.func64, Try.ntmps64
        go_wp2_with fail
        refine (HO.out _).mono ?_; rintro e w1 ⟨rfl, rfl⟩
        go_wp2_with fail
        refine (isoperand_any a _).mono ?_; rintro e w1 ⟨rfl, rfl⟩
        rw [HS.out]
        go_wp2
        go_ret
        exact ⟨ret_bool (by rw [HD.out]; simp [ho, HS.out]), hB⟩
  · by_cases hs : smallB a = true
    · have HS := Lib.hid hs
      clear hs
      go_enter Try.func64, Try.ntmps64
      go_wp2_with fail
      refine (HO.out _).mono ?_; rintro e w1 ⟨rfl, rfl⟩
      go_wp2_with fail
      refine (isoperand_any a _).mono ?_; rintro e w1 ⟨rfl, rfl⟩
      rw [HS.out]
      go_wp2_with fail
      refine (isoperand_any b _).mono ?_; rintro e w1 ⟨rfl, rfl⟩
      go_wp2
      go_ret
      exact ⟨ret_bool (by rw [HD.out, HS.out]; simp), hB⟩
    · have HS : Hid (smallB a = false) := by unfold Hid; simpa using hs
      clear hs
      go_enter Try.func64, Try.ntmps64
      go_wp2_with fail
      refine (HO.out _).mono ?_; rintro e w1 ⟨rfl, rfl⟩
      go_wp2_with fail
      refine (isoperand_any a _).mono ?_; rintro e w1 ⟨rfl, rfl⟩
      rw [HS.out]
      go_wp2
      go_ret
      exact ⟨ret_bool (by rw [HD.out, HS.out]; simp), hB⟩
end Go.Proofs.Ytffelcidckbohaa
/- What bytes are a program's: the reader as a plain function of the bytes and the place. No condition. -/
namespace Go.Proofs.Ytffelcidckbohaa
open Go.RowKit
set_option linter.unusedVariables false
/-- an error and its place -/
abbrev DErr := Int × Int
/-- what is read, and the next place; or the first error -/
abbrev Rd (α : Type) := Except DErr (α × Nat)
def bindD {α β : Type} (r : Rd α) (f : α → Nat → Rd β) : Rd β := match r with | .error x => .error x | .ok q => f q.1 q.2
theorem bindD_ok {α β : Type} (a : α) (p : Nat) (f : α → Nat → Rd β) : bindD (.ok (a, p)) f = f a p := rfl
theorem bindD_err {α β : Type} (x : DErr) (f : α → Nat → Rd β) : bindD (.error x) f = .error x := rfl
theorem bindD_assoc {α β γ : Type} (r : Rd α) (f : α → Nat → Rd β) (g : β → Nat → Rd γ) : bindD (bindD r f) g = bindD r fun a p => bindD (f a p) g := by
  cases r <;> rfl
abbrev St := Except DErr Nat
/-- a reading from a state -/
def after {α : Type} (st : St) (D : Nat → Rd α) : Rd α := match st with | .error x => .error x | .ok p => D p
theorem after_ok {α : Type} (p : Nat) (D : Nat → Rd α) : after (.ok p) D = D p := rfl
theorem after_err {α : Type} (x : DErr) (D : Nat → Rd α) : after (.error x) D = .error x := rfl
/-- the value and the state that come of a reading; of a value in error nothing is said -/
def Gets {α : Type} (r : Rd α) (a : α) (st : St) : Prop := (∃ p, r = .ok (a, p) ∧ st = .ok p) ∨ ∃ x, r = .error x ∧ st = .error x
theorem Gets.bind {α β : Type} {r : Rd α} {a : α} {st st' : St} {b : β} {f : α → Nat → Rd β} (h : Gets r a st) (h' : Gets (after st (f a)) b st') : Gets (bindD r f) b st' := by
  rcases h with ⟨p, rfl, rfl⟩ | ⟨x, rfl, rfl⟩
  · exact h'
  · rcases h' with ⟨p, h1, _⟩ | ⟨y, h1, h2⟩
    · cases h1
    · rw [after_err] at h1
      injection h1 with h1
      subst h1
      exact .inr ⟨_, rfl, h2⟩
theorem Gets.map {α β : Type} {r : Rd α} {a : α} {st : St} (h : Gets r a st) (f : α → β) : Gets (bindD r fun a p => .ok (f a, p)) (f a) st := by
  rcases h with ⟨p, rfl, rfl⟩ | ⟨x, rfl, rfl⟩
  · exact .inl ⟨p, rfl, rfl⟩
  · exact .inr ⟨x, rfl, rfl⟩
/-- in error, unless it was read -/
theorem Gets.ok {α : Type} {r : Rd α} {a : α} {p : Nat} (h : Gets r a (.ok p)) : r = .ok (a, p) := by
  rcases h with ⟨q, h1, h2⟩ | ⟨x, h1, h2⟩
  · injection h2 with h2; subst h2; exact h1
  · cases h2
theorem Gets.err {α : Type} {r : Rd α} {a : α} {x : DErr} (h : Gets r a (.error x)) : r = .error x := by
  rcases h with ⟨q, h1, h2⟩ | ⟨y, h1, h2⟩
  · cases h2
  · injection h2 with h2; subst h2; exact h1
section
variable (bs : List UInt8)
def nextD (p : Nat) : Rd UInt8 := match bs[p]? with | some b => .ok (b, p + 1) | none => .error (10, bs.length)
/-- bytes up to the first one below 128, so many at most -/
def gathD : Nat → Nat → Option (List UInt8)
  | 0, _ => some []
  | k + 1, p => match bs[p]? with | none => none | some b => if 128 ≤ b.toNat then (gathD k (p + 1)).map (b :: ·) else some [b]
def valD : List UInt8 → Nat
  | [] => 0
  | b :: l => b.toNat % 128 + 128 * valD l
def lastD (l : List UInt8) : UInt8 := l.getLastD 0
def numD (most p : Nat) : Rd Nat := match gathD bs 10 p with
  | none => .error (10, bs.length)
  | some l => if l.length = 10 ∧ 1 < (lastD l).toNat then .error (3, p) else if 1 < l.length ∧ (lastD l).toNat = 0 then .error (13, p) else if most < valD l then .error (3, p) else .ok (valD l, p + l.length)
def seqD {α : Type} (D : Nat → Rd α) : Nat → Nat → Rd (List α)
  | 0, p => .ok ([], p)
  | n + 1, p => bindD (seqD D n p) fun l q => bindD (D q) fun a r => .ok (l ++ [a], r)
def listD {α : Type} (D : Nat → Rd α) (most p : Nat) : Rd (List α) := bindD (numD bs most p) fun n q => seqD D n q
def kindD (p : Nat) : Rd Int := bindD (nextD bs p) fun b q => if 2 < b.toNat then .error (32, p) else .ok ((b.toNat : Int), q)
def txtD (p : Nat) : Rd (List UInt8) := listD bs (nextD bs) 16 p
def unfI (n : Nat) : Int := if n % 2 = 1 then -((n / 2 : Nat) : Int) - 1 else ((n / 2 : Nat) : Int)
def argA (b q : Nat) : Rd Int := if b = 1 then bindD (numD bs 18446744073709551615 q) fun n r => .ok (unfI n, r) else if 1 ≤ opsI (b : Int) then bindD (numD bs 2147483647 q) fun n r => .ok ((n : Int), r) else .ok (0, q)
def argB (b q : Nat) : Rd Int := if opsI (b : Int) = 2 then bindD (numD bs 2147483647 q) fun n r => .ok ((n : Int), r) else .ok (0, q)
def insD (p : Nat) : Rd InsD := bindD (nextD bs p) fun b q =>
  if opsI (b.toNat : Int) < 0 then .error (30, p) else bindD (argA bs b.toNat q) fun a r => bindD (argB bs b.toNat r) fun m s => .ok (⟨b.toNat, a, m⟩, s)
def bytA (l : List UInt8) : ByteArray := ⟨l.toArray⟩
def fldD (p : Nat) : Rd FldD := bindD (txtD bs p) fun l q => bindD (kindD bs q) fun t r => .ok (⟨bytA l, t⟩, r)
def clsD (p : Nat) : Rd ClsD := bindD (txtD bs p) fun l q => bindD (listD bs (fldD bs) 15 q) fun fs r => .ok (⟨bytA l, fs⟩, r)
def funD (p : Nat) : Rd FunD := bindD (txtD bs p) fun l q => bindD (listD bs (kindD bs) 6 q) fun ps r => bindD (kindD bs r) fun t s => bindD (listD bs (kindD bs) 16 s) fun ls u => bindD (listD bs (insD bs) 256 u) fun is v => .ok (⟨bytA l, ps, t, ls, is⟩, v)
def magB : List UInt8 := [87, 68, 82, 49]
/-- the first so many bytes of the magic -/
def magD : Nat → Rd Unit
  | 0 => .ok ((), 0)
  | i + 1 => bindD (magD i) fun _ p => bindD (nextD bs p) fun b q => if b = magB.getD i 0 then .ok ((), q) else .error (12, (i : Int))
def decI : Rd PrgD := bindD (magD bs 4) fun _ p => bindD (listD bs (clsD bs) 16 p) fun cs q => bindD (listD bs (funD bs) 16 q) fun fs r => .ok (⟨cs, fs⟩, r)
def decD : Except DErr PrgD := if 65536 < bs.length then .error (3, 0) else match decI bs with | .error x => .error x | .ok q => if q.2 < bs.length then .error (11, (q.2 : Int)) else .ok q.1
end
theorem valD_lt (l : List UInt8) : valD l < 128 ^ l.length := by
  induction l with
  | nil => simp [valD]
  | cons b l ih => rw [valD, List.length_cons, Nat.pow_succ]; omega
theorem valD_app (l : List UInt8) (b : UInt8) : valD (l ++ [b]) = valD l + b.toNat % 128 * 128 ^ l.length := by
  induction l with
  | nil => simp [valD]
  | cons c l ih =>
    rw [List.cons_append, valD, ih, valD, List.length_cons, Nat.pow_succ, Nat.mul_add, ← Nat.add_assoc]
    congr 1
    rw [Nat.mul_comm 128, Nat.mul_assoc]
theorem gathD_len (bs : List UInt8) : ∀ k p l, gathD bs k p = some l → l.length ≤ k ∧ p + l.length ≤ bs.length ∨ k = 0
  | 0, p, l, h => .inr rfl
  | k + 1, p, l, h => by
    rw [gathD] at h
    cases hb : bs[p]? with
    | none => rw [hb] at h; cases h
    | some b =>
      rw [hb] at h
      have hp := (List.getElem?_eq_some_iff.1 hb).1
      simp only at h
      split at h
      · cases hg : gathD bs k (p + 1) with
        | none => rw [hg] at h; cases h
        | some m =>
          rw [hg] at h
          simp only [Option.map_some, Option.some.injEq] at h
          subst h
          rw [List.length_cons]
          rcases gathD_len bs k (p + 1) m hg with h1 | h1
          · left; omega
          · subst h1
            rw [gathD] at hg
            injection hg with hg
            subst hg
            left; simp; omega
      · injection h with h
        subst h
        left; simp; omega
theorem seqD_len {α : Type} {D : Nat → Rd α} : ∀ {n p : Nat} {l : List α} {q : Nat}, seqD D n p = .ok (l, q) → l.length = n
  | 0, p, l, q, h => by rw [seqD] at h; injection h with h; injection h with h1 h2; subst h1; rfl
  | n + 1, p, l, q, h => by
    rw [seqD] at h
    cases hs : seqD D n p with
    | error x => rw [hs] at h; cases h
    | ok z =>
      obtain ⟨z1, z2⟩ := z
      rw [hs, bindD_ok] at h
      cases hd : D z2 with
      | error x => rw [hd] at h; cases h
      | ok y =>
        obtain ⟨y1, y2⟩ := y
        rw [hd, bindD_ok] at h
        injection h with h
        injection h with h1 h2
        subst h1
        have := seqD_len hs
        rw [List.length_append, this]
        rfl
/-- once an error, always that error -/
theorem seqD_err {α : Type} {D : Nat → Rd α} {i p : Nat} {x : DErr} (h : seqD D i p = .error x) : ∀ n, i ≤ n → seqD D n p = .error x := by
  intro n hn
  induction n with
  | zero => obtain rfl : i = 0 := by omega
            exact h
  | succ n ih =>
    by_cases e : i = n + 1
    · subst e; exact h
    · rw [seqD, ih (by omega)]; rfl
/-- so many next bytes are a part of the bytes -/
theorem seqD_next (bs : List UInt8) (p : Nat) (hp : p ≤ bs.length) : ∀ n, seqD (nextD bs) n p = if p + n ≤ bs.length then .ok ((bs.drop p).take n, p + n) else .error (10, bs.length)
  | 0 => by rw [seqD, if_pos (by omega)]; simp
  | n + 1 => by
    rw [seqD, seqD_next bs p hp n]
    by_cases h : p + n ≤ bs.length
    · rw [if_pos h, bindD_ok, nextD]
      by_cases h1 : p + (n + 1) ≤ bs.length
      · rw [if_pos h1, List.getElem?_eq_getElem (by omega)]
        simp only [bindD]
        rw [List.take_add_one, List.getElem?_drop, List.getElem?_eq_getElem (by omega)]
        rfl
      · rw [if_neg h1, List.getElem?_eq_none (by omega)]
        rfl
    · rw [if_neg h, if_neg (by omega)]; rfl
end Go.Proofs.Ytffelcidckbohaa
/- code's writer, its small calls by what they do to bytes or an error: kind; lists. Condition: its blocks are there. -/
namespace Go.Proofs.Ytffelcidckbohaa
open Go.RowKit
set_option linter.unusedVariables false
abbrev Res := Except Int (List UInt8)
def andE (a b : Res) : Res := match a with | .error e => .error e | .ok l => match b with | .error e => .error e | .ok m => .ok (l ++ m)
theorem andE_ok (l m : List UInt8) : andE (.ok l) (.ok m) = .ok (l ++ m) := rfl
theorem andE_err (l : List UInt8) (e : Int) : andE (.ok l) (.error e) = .error e := rfl
theorem andE_nil (a : Res) : andE a (.ok []) = a := by cases a <;> simp [andE]
theorem nil_andE (a : Res) : andE (.ok []) a = a := by cases a <;> simp [andE]
theorem andE_assoc (a b c : Res) : andE (andE a b) c = andE a (andE b c) := by cases a <;> cases b <;> cases c <;> simp [andE]
def seqE (f : Nat → Res) : Nat → Res
  | 0 => .ok []
  | n + 1 => andE (seqE f n) (f n)
def listE (n most : Nat) (f : Nat → Res) : Res := if most < n then .error 3 else andE (.ok (numB n)) (seqE f n)
def lenE (r : Res) (M : Nat) : Prop := ∀ l, r = .ok l → l.length ≤ M
theorem lenE_and {a b : Res} {M N : Nat} (ha : lenE a M) (hb : lenE b N) : lenE (andE a b) (M + N) := by
  intro l h
  cases a with
  | error e => simp [andE] at h
  | ok x => cases b with
    | error e => simp [andE] at h
    | ok y => simp [andE] at h; subst h; have := ha x rfl; have := hb y rfl; simp; omega
theorem lenE_seq {f : Nat → Res} {n M : Nat} (hf : ∀ i, i < n → lenE (f i) M) : lenE (seqE f n) (n * M) := by
  induction n with
  | zero => intro l h; simp [seqE] at h; subst h; simp
  | succ n ih =>
    have := lenE_and (ih fun i hi => hf i (by omega)) (hf n (by omega))
    rw [show n * M + M = (n + 1) * M by rw [Nat.succ_mul]] at this
    exact this
theorem lenE_mono {r : Res} {M N : Nat} (h : lenE r M) (hN : M ≤ N) : lenE r N := fun l e => Nat.le_trans (h l e) hN
theorem lenE_list {f : Nat → Res} {n most M : Nat} (hm : most < 1000000) (hf : ∀ i, i < n → lenE (f i) M) : lenE (listE n most f) (10 + most * M) := by
  unfold listE
  split
  · intro l h; simp at h
  · have h1 : lenE (.ok (numB n)) 10 := fun l e => by injection e with e; subst e; exact numB_len10 (by omega)
    exact lenE_mono (lenE_and h1 (lenE_seq hf)) (Nat.add_le_add_left (Nat.mul_le_mul_right M (by omega)) 10)
theorem seqE_err {f : Nat → Res} {i : Nat} {e : Int} (h : seqE f i = .error e) : ∀ n, i ≤ n → seqE f n = .error e := by
  intro n hn
  induction n with
  | zero => obtain rfl : i = 0 := by omega
            exact h
  | succ n ih =>
    by_cases hi : i = n + 1
    · subst hi; exact h
    · show andE (seqE f n) (f n) = _
      rw [ih (by omega)]; rfl
def kindE (t : Int) : Res := if t = 0 ∨ t = 1 ∨ t = 2 then .ok [UInt8.ofNat t.toNat] else .error 32
theorem lenE_kind (t : Int) : lenE (kindE t) 1 := by
  intro l h; unfold kindE at h; split at h
  · injection h with h; subst h; simp
  · simp at h
/-- The writer with bytes, or in error. -/
def WrP (w : World) (B b : Nat) (r : Res) (K : Nat → Prop) : Prop := match r with | .ok l => WrX w B b l 0 K | .error e => e ≠ 0 ∧ WrE w B b e K
section
variable {w w' : World} {B b : Nat} {r : Res} {e : Int} {K K' : Nat → Prop}
theorem WrP.bw (h : WrP w B b r K) : B ≤ w.heap.size := by
  cases r with
  | ok l => exact WrX.bw h
  | error e => exact h.2.bw
theorem WrP.map {w' : World} (h : WrP w B b r K) (f : ∀ l, WrX w B b l 0 K → WrX w' B b l 0 K') (g : ∀ e, WrE w B b e K → WrE w' B b e K') : WrP w' B b r K' := by
  cases r with
  | ok l => exact f _ h
  | error e => exact ⟨h.1, g _ h.2⟩
theorem WrP.touch {R : Nat → Prop} (h : WrP w B b r K) (ht : Touch R w w') (hR : ∀ x, R x → K x) : WrP w' B b r K := h.map (fun _ q => q.touch ht hR) fun _ q => q.touch ht hR
theorem WrP.grew (h : WrP w B b r K) (hb : Below w.heap.size w w') : WrP w' B b r K := h.map (fun _ q => q.grew hb) fun _ q => q.grew hb
theorem WrP.add (h : WrP w B b r K) (hb : Below w.heap.size w w') {m : Nat} (hm : w.heap.size ≤ m) (hm' : m < w'.heap.size) : WrP w' B b r (fun x => x = m ∨ K x) := h.map (fun _ q => q.add hb hm hm') fun _ q => q.add hb hm hm'
theorem WrP.sub (h : WrP w B b r K) (hs : ∀ x, K' x → K x) : WrP w B b r K' := h.map (fun _ q => q.sub hs) fun _ q => q.sub hs
theorem WrT.refl (B : Nat) (K : Nat → Prop) (w : World) : WrT B K w w := Touch.refl _ _
theorem WrT.trans {a c d : World} (h : WrT B K a c) (k : WrT B K c d) : WrT B K a d := Touch.trans h k
theorem WrT.sub (h : WrT B K w w') (hs : ∀ x, K' x → K x) : WrT B K' w w' := Touch.mono h fun x _ hx => ⟨hx.1, fun r => hx.2 (hs _ r)⟩
theorem WrT.of (hb : Below w.heap.size w w') : WrT B K w w' := Touch.of hb
theorem WrT.below (h : WrT B K w w') (hB : B ≤ w.heap.size) : Below B w w' := Touch.below h hB fun _ r => r.1
theorem WrT.kept {c : Nat} {cs : Array Value} {t : TypeId} (h : WrT B K w w') (hc : Blk w c cs t) (hK : K c) : Blk w' c cs t := hc.touch h fun r => r.2 hK
end
theorem u8_of_int (t : Int) (h0 : 0 ≤ t) (h1 : t < 256) : t = (((UInt8.ofNat t.toNat).toNat : Nat) : Int) := by
  simp
  omega
theorem one_new' (w : World) (x : Value) (t : TypeId) {y : Value} (h : x = y) : ∀ j u, [x][j]? = some u → (w.alloc (.cells #[y] t)).cell? ((⟨w.heap.size, 0, none⟩ : Addr).add j) = some u := h ▸ one_new w x t
set_option maxRecDepth 100000 in
set_option maxHeartbeats 1000000 in
theorem kind_err (B b : Nat) (e : Int) (K : Nat → Prop) (t : Int) (w : World) (h : WrE w B b e K) (he : e ≠ 0) :
    Calls Try.prog 52 #[.pointer (some ⟨b, 0, none⟩), .int .i64 t] w fun e' w' => (∃ u, e' = .returned u) ∧ w = w' := by
  obtain ⟨h1, h2⟩ := h.errCell
  have he' : (e != 0) = true := by simpa using he
  clear h he
  go_enter Try.func52, Try.ntmps52
  go_wp2
  refine bodyPost_ret (results_none rfl _ _ _) rfl ?_
  exact ⟨⟨_, rfl⟩, rfl⟩
set_option maxRecDepth 100000 in
set_option maxHeartbeats 1000000 in
theorem kind_bad (B b : Nat) (l : List UInt8) (K : Nat → Prop) (t : Int) (w : World) (h : WrX w B b l 0 K) (ht : ¬ (t = 0 ∨ t = 1 ∨ t = 2)) :
    Calls Try.prog 52 #[.pointer (some ⟨b, 0, none⟩), .int .i64 t] w fun e' w' => (∃ u, e' = .returned u) ∧ WrX w' B b l 32 K ∧ WrT B K w w' := by
  obtain ⟨h1, h2⟩ := h.errCell
  have H := Lib.hid (h.fail 32)
  have t0 : (t != 0) = true := by simp; omega
  have t1 : (t != 1) = true := by simp; omega
  have t2 : (t != 2) = true := by simp; omega
  clear h ht
  go_enter Try.func52, Try.ntmps52
  go_wp2
  refine bodyPost_ret (results_none rfl _ _ _) rfl ?_
  exact ⟨⟨_, rfl⟩, H.out⟩
set_option maxRecDepth 100000 in
set_option maxHeartbeats 1000000 in
theorem kind_ok (B b : Nat) (l : List UInt8) (K : Nat → Prop) (t : Int) (w : World) (h : WrX w B b l 0 K) (ht : t = 0 ∨ t = 1 ∨ t = 2) (hl : l.length ≤ 1000000000) :
    Calls Try.prog 52 #[.pointer (some ⟨b, 0, none⟩), .int .i64 t] w fun e' w' => (∃ u, e' = .returned u) ∧ WrX w' B b (l ++ [UInt8.ofNat t.toNat]) 0 K ∧ WrT B K w w' := by
  obtain ⟨i0, hi, hz0, hz1, hz2⟩ := info_parts info_u8
  obtain ⟨⟨v, h1, h2, h3⟩, h4, h5, h6, h7⟩ := h
  have c0 := h1.val 0 rfl
  have c1 := h1.val 1 rfl
  have HL := Lib.hid hl
  rcases ht with rfl | rfl | rfl
  · go_enter Try.func52, Try.ntmps52
    go_wp2_with (at_builtin; refine wpList_append_own_at _ rfl _ _ 22 rfl B 5 i0 (.int .u8 0) 1 1 Try.underlying22 hi hz0 hz1 hz2 rfl (by decide) _ _ _ rfl (h2.alloc _) ⟨w.heap.size, 0, none⟩ 1 1 [Value.int .u8 ((UInt8.ofNat 0).toNat : Int)] rfl rfl (one_new' _ _ _ rfl) (by simp [Value.oneCell']) (by unfold maxLen; omega) (by omega) (by simp; omega) ?_; intro v' w1 hown' hgrow _ hat; obtain ⟨ga, gc, rfl⟩ := row_shape hown'; obtain ⟨hb1, hX1, hT1⟩ := Wr_app h1 h2 h3 h4 h5 h6 h7 hown' hgrow hat; have f1 := hb1.frozen 0; have g1 := hb1.val 0 rfl; clear hown' hgrow hat h1 h2 h3 h4 h5 h6 h7 hb1)
    go_end0
    exact ⟨⟨_, rfl⟩, hX1, hT1⟩
  · go_enter Try.func52, Try.ntmps52
    go_wp2_with (at_builtin; refine wpList_append_own_at _ rfl _ _ 22 rfl B 5 i0 (.int .u8 0) 1 1 Try.underlying22 hi hz0 hz1 hz2 rfl (by decide) _ _ _ rfl (h2.alloc _) ⟨w.heap.size, 0, none⟩ 1 1 [Value.int .u8 ((UInt8.ofNat 1).toNat : Int)] rfl rfl (one_new' _ _ _ rfl) (by simp [Value.oneCell']) (by unfold maxLen; omega) (by omega) (by simp; omega) ?_; intro v' w1 hown' hgrow _ hat; obtain ⟨ga, gc, rfl⟩ := row_shape hown'; obtain ⟨hb1, hX1, hT1⟩ := Wr_app h1 h2 h3 h4 h5 h6 h7 hown' hgrow hat; have f1 := hb1.frozen 0; have g1 := hb1.val 0 rfl; clear hown' hgrow hat h1 h2 h3 h4 h5 h6 h7 hb1)
    go_end0
    exact ⟨⟨_, rfl⟩, hX1, hT1⟩
  · go_enter Try.func52, Try.ntmps52
    go_wp2_with (at_builtin; refine wpList_append_own_at _ rfl _ _ 22 rfl B 5 i0 (.int .u8 0) 1 1 Try.underlying22 hi hz0 hz1 hz2 rfl (by decide) _ _ _ rfl (h2.alloc _) ⟨w.heap.size, 0, none⟩ 1 1 [Value.int .u8 ((UInt8.ofNat 2).toNat : Int)] rfl rfl (one_new' _ _ _ rfl) (by simp [Value.oneCell']) (by unfold maxLen; omega) (by omega) (by simp; omega) ?_; intro v' w1 hown' hgrow _ hat; obtain ⟨ga, gc, rfl⟩ := row_shape hown'; obtain ⟨hb1, hX1, hT1⟩ := Wr_app h1 h2 h3 h4 h5 h6 h7 hown' hgrow hat; have f1 := hb1.frozen 0; have g1 := hb1.val 0 rfl; clear hown' hgrow hat h1 h2 h3 h4 h5 h6 h7 hb1)
    go_end0
    exact ⟨⟨_, rfl⟩, hX1, hT1⟩
theorem kind_any (B b : Nat) (r : Res) (K : Nat → Prop) (t : Int) (w : World) (h : WrP w B b r K) (hl : lenE r 1000000000) :
    Calls Try.prog 52 #[.pointer (some ⟨b, 0, none⟩), .int .i64 t] w fun e' w' => (∃ u, e' = .returned u) ∧ WrP w' B b (andE r (kindE t)) K ∧ WrT B K w w' := by
  cases r with
  | error e =>
    obtain ⟨he, hX⟩ := h
    exact (kind_err B b e K t w hX he).mono fun e' w' ⟨hu, hw⟩ => ⟨hu, by subst hw; exact ⟨he, hX⟩, by subst hw; exact WrT.refl _ _ _⟩
  | ok l =>
    by_cases ht : t = 0 ∨ t = 1 ∨ t = 2
    · refine (kind_ok B b l K t w h ht (hl l rfl)).mono fun e' w' ⟨hu, hX, hT⟩ => ⟨hu, ?_, hT⟩
      rw [kindE, if_pos ht]; exact hX
    · refine (kind_bad B b l K t w h ht).mono fun e' w' ⟨hu, hX, hT⟩ => ⟨hu, ?_, hT⟩
      rw [kindE, if_neg ht]; exact ⟨by decide, hX.e⟩
end Go.Proofs.Ytffelcidckbohaa
