/- Texts of this seat, one behind the other: each says at its head what it holds. No condition of its own. -/
import Derived.Test.YtffelcidckbohaaGCodeReads11
/- What is read: its integers are in range, its lists short. No condition. -/
namespace Go.Proofs.Ytffelcidckbohaa
open Go.RowKit
set_option linter.unusedVariables false
theorem bind_ok {α β : Type} {r : Rd α} {f : α → Nat → Rd β} {b : β} {p : Nat} (h : bindD r f = .ok (b, p)) : ∃ a q, r = .ok (a, q) ∧ f a q = .ok (b, p) := by
  cases r with
  | error x => cases h
  | ok z => exact ⟨z.1, z.2, rfl, h⟩
theorem seq_all {α : Type} {D : Nat → Rd α} {P : α → Prop} (hD : ∀ p a q, D p = .ok (a, q) → P a) : ∀ {n p : Nat} {l : List α} {q : Nat}, seqD D n p = .ok (l, q) → ∀ x ∈ l, P x
  | 0, p, l, q, h => by rw [seqD] at h; injection h with h; injection h with h1 h2; subst h1; intro x hx; cases hx
  | n + 1, p, l, q, h => by
    rw [seqD] at h
    obtain ⟨l0, q0, h1, h2⟩ := bind_ok h
    obtain ⟨a, r, h3, h4⟩ := bind_ok h2
    injection h4 with h4
    injection h4 with h4 h5
    subst h4
    intro x hx
    rcases List.mem_append.1 hx with h6 | h6
    · exact seq_all hD h1 x h6
    · obtain rfl : x = a := by simpa using h6
      exact hD _ _ _ h3
theorem numD_le {bs : List UInt8} {most p n q : Nat} (h : numD bs most p = .ok (n, q)) : n ≤ most := num_le (st := .ok p) (st1 := .ok q) (.inl ⟨q, h, rfl⟩) fun y e => by cases e
theorem list_all {α : Type} {bs : List UInt8} {D : Nat → Rd α} {P : α → Prop} (hD : ∀ p a q, D p = .ok (a, q) → P a) {most p : Nat} {l : List α} {q : Nat} (h : listD bs D most p = .ok (l, q)) : (∀ x ∈ l, P x) ∧ l.length ≤ most := by
  obtain ⟨n, r, h1, h2⟩ := bind_ok h
  exact ⟨seq_all hD h2, by rw [seqD_len h2]; exact numD_le h1⟩
theorem kindD_bd {bs : List UInt8} {p : Nat} {x : Int} {q : Nat} (h : kindD bs p = .ok (x, q)) : 0 ≤ x ∧ x ≤ 2 := by
  obtain ⟨b, r, h1, h2⟩ := bind_ok h
  split at h2
  · cases h2
  · injection h2 with h2
    injection h2 with h2 h3
    omega
theorem I64_of {x : Int} (h : -9223372036854775808 ≤ x) (h' : x < 9223372036854775808) : I64 x := ⟨h, h'⟩
theorem unfI_64 {n : Nat} (h : n ≤ 18446744073709551615) : I64 (unfI n) := by
  unfold unfI; split <;> exact I64_of (by omega) (by omega)
theorem argA_64 {bs : List UInt8} {b p : Nat} {a : Int} {q : Nat} (h : argA bs b p = .ok (a, q)) : I64 a := by
  unfold argA at h
  split at h
  · obtain ⟨n, r, h1, h2⟩ := bind_ok h
    injection h2 with h2
    injection h2 with h2 h3
    subst h2
    exact unfI_64 (numD_le h1)
  · split at h
    · obtain ⟨n, r, h1, h2⟩ := bind_ok h
      injection h2 with h2
      injection h2 with h2 h3
      have := numD_le h1
      exact I64_of (by omega) (by omega)
    · injection h with h
      injection h with h2 h3
      exact I64_of (by omega) (by omega)
theorem argB_64 {bs : List UInt8} {b p : Nat} {a : Int} {q : Nat} (h : argB bs b p = .ok (a, q)) : I64 a := by
  unfold argB at h
  split at h
  · obtain ⟨n, r, h1, h2⟩ := bind_ok h
    injection h2 with h2
    injection h2 with h2 h3
    have := numD_le h1
    exact I64_of (by omega) (by omega)
  · injection h with h
    injection h with h2 h3
    exact I64_of (by omega) (by omega)
theorem insD_64 {bs : List UInt8} {p : Nat} {i : InsD} {q : Nat} (h : insD bs p = .ok (i, q)) : I64 i.op ∧ I64 i.a ∧ I64 i.b := by
  obtain ⟨b, r, h1, h2⟩ := bind_ok h
  split at h2
  · cases h2
  · obtain ⟨a, s, h3, h4⟩ := bind_ok h2
    obtain ⟨m, u, h5, h6⟩ := bind_ok h4
    injection h6 with h6
    injection h6 with h6 h7
    subst h6
    have := b.toNat_lt
    exact ⟨I64_of (by show _ ≤ ((b.toNat : Nat) : Int); omega) (by show ((b.toNat : Nat) : Int) < _; omega), argA_64 h3, argB_64 h5⟩
theorem clsD_bd {bs : List UInt8} {p : Nat} {c : ClsD} {q : Nat} (h : clsD bs p = .ok (c, q)) : (∀ f ∈ c.fields, I64 f.ty) ∧ c.fields.length ≤ 15 := by
  obtain ⟨l, r, h1, h2⟩ := bind_ok h
  obtain ⟨fs, s, h3, h4⟩ := bind_ok h2
  injection h4 with h4
  injection h4 with h4 h5
  subst h4
  refine list_all (fun p f q hf => ?_) h3
  obtain ⟨l', r', h6, h7⟩ := bind_ok hf
  obtain ⟨t, r'', h8, h9⟩ := bind_ok h7
  injection h9 with h9
  injection h9 with h9 h10
  subst h9
  have := kindD_bd h8
  exact I64_of (by show _ ≤ t; omega) (by show t < _; omega)
theorem funD_bd {bs : List UInt8} {p : Nat} {f : FunD} {q : Nat} (h : funD bs p = .ok (f, q)) : (I64 f.result ∧ (∀ x ∈ f.params, I64 x) ∧ (∀ x ∈ f.locals, I64 x) ∧ ∀ i ∈ f.code, I64 i.op ∧ I64 i.a ∧ I64 i.b) ∧ f.params.length ≤ 6 ∧ f.locals.length ≤ 16 ∧ f.code.length ≤ 256 := by
  obtain ⟨l, r, h1, h2⟩ := bind_ok h
  obtain ⟨ps, r2, h3, h4⟩ := bind_ok h2
  obtain ⟨t, r3, h5, h6⟩ := bind_ok h4
  obtain ⟨ls, r4, h7, h8⟩ := bind_ok h6
  obtain ⟨is, r5, h9, h10⟩ := bind_ok h8
  injection h10 with h10
  injection h10 with h10 h11
  subst h10
  have hk : ∀ p a q, kindD bs p = .ok (a, q) → I64 a := fun p a q h => by have := kindD_bd h; exact I64_of (by omega) (by omega)
  have a1 := list_all hk h3
  have a2 := list_all hk h7
  have a3 := list_all (fun p a q h => insD_64 h) h9
  exact ⟨⟨hk _ _ _ h5, a1.1, a2.1, a3.1⟩, a1.2, a2.2, a3.2⟩
theorem decI_ok {bs : List UInt8} {p : PrgD} {q : Nat} (h : decI bs = .ok (p, q)) : OkP p ∧ LtP p := by
  obtain ⟨_, r, h1, h2⟩ := bind_ok h
  obtain ⟨cs, r2, h3, h4⟩ := bind_ok h2
  obtain ⟨fs, r3, h5, h6⟩ := bind_ok h4
  injection h6 with h6
  injection h6 with h6 h7
  subst h6
  have a1 := list_all (fun p a q h => clsD_bd h) h3
  have a2 := list_all (fun p a q h => funD_bd h) h5
  refine ⟨⟨fun c hc => (a1.1 c hc).1, fun f hf => (a2.1 f hf).1⟩, by show cs.length ≤ 40; have := a1.2; omega, by show fs.length ≤ 40; have := a2.2; omega, fun c hc => by have := (a1.1 c hc).2; omega, fun f hf => ?_⟩
  have := (a2.1 f hf).2
  exact ⟨by omega, by omega, by omega⟩
end Go.Proofs.Ytffelcidckbohaa
/- The document's reader: one, fail. Condition: the reader is there. -/
namespace Go.Proofs.Ytffelcidckbohaa
open Go.RowKit
set_option linter.unusedVariables false
section
variable {w : World} {B b : Nat} {bs : List UInt8} {p e bad : Int}
set_option maxRecDepth 100000 in
set_option maxHeartbeats 1000000 in
theorem rfail_old (t : TypeId) (at' x : Int) (h : RdAt t w B b bs p e bad) (he : e ≠ 0) :
    Calls Try.prog 20 #[.pointer (some ⟨b, 0, none⟩), .int .i64 x, .int .i64 at'] w fun e' w' => (∃ u, e' = .returned u) ∧ w = w' := by
  obtain ⟨⟨v, h1, h2⟩, h3, h4⟩ := h
  have c2 := h1.val 2 rfl
  have he' : (e == 0) = false := by simpa using he
  clear h1 h2 h3 h4 he
  go_enter Try.func20, Try.ntmps20
  go_wp2
  go_end0
  exact ⟨⟨_, rfl⟩, rfl⟩
set_option maxRecDepth 100000 in
set_option maxHeartbeats 1000000 in
theorem rfail_new (t : TypeId) (at' x : Int) (h : RdAt t w B b bs p 0 bad) :
    Calls Try.prog 20 #[.pointer (some ⟨b, 0, none⟩), .int .i64 x, .int .i64 at'] w fun e' w' => (∃ u, e' = .returned u) ∧ RdAt t w' B b bs p x at' ∧ RdT b w w' := by
  have H := Lib.hid (h.fail32 at' x)
  obtain ⟨⟨v, h1, h2⟩, h3, h4⟩ := h
  have c2 := h1.val 2 rfl
  have c3 := h1.val 3 rfl
  have f2 := h1.frozen 2
  have f3 := h1.frozen 3
  clear h1 h2 h3 h4
  go_enter Try.func20, Try.ntmps20
  go_wp2
  go_end0
  exact ⟨⟨_, rfl⟩, H.out⟩
end
theorem RdS.rfailed {t : TypeId} {w : World} {B b : Nat} {bs : List UInt8} {st : St} (h : RdS t w B b bs st) (at' x : Int) (hx : x ≠ 0) :
    Calls Try.prog 20 #[.pointer (some ⟨b, 0, none⟩), .int .i64 x, .int .i64 at'] w fun e' w' => (∃ u, e' = .returned u) ∧ RdS t w' B b bs (failS st (x, at')) ∧ RdT b w w' := by
  cases st with
  | ok p =>
    obtain ⟨⟨bad, h⟩, h2⟩ := h
    exact (rfail_new t at' x h).mono fun e' w' ⟨hu, hA, hT⟩ => ⟨hu, ⟨hx, p, h2, hA⟩, hT⟩
  | error y =>
    obtain ⟨h0, q, h1, h⟩ := h
    exact (rfail_old t at' x h h0).mono fun e' w' ⟨hu, hw⟩ => ⟨hu, by subst hw; exact ⟨h0, q, h1, h⟩, by subst hw; exact Touch.refl _ _⟩
set_option maxRecDepth 100000 in
set_option maxHeartbeats 1000000 in
theorem rone_in (t : TypeId) (w : World) (B b : Nat) (bs : List UInt8) (p : Nat) (bad : Int) (h : RdAt t w B b bs (p : Int) 0 bad) (hp : p < bs.length) :
    Calls Try.prog 19 #[.pointer (some ⟨b, 0, none⟩)] w fun e' w' => e' = .returned (.int .i64 ((bs[p]).toNat : Int)) ∧ RdAt t w' B b bs ((p + 1 : Nat) : Int) 0 bad ∧ RdT b w w' := by
  have hlb := h.lb
  have HH := Lib.hid h
  obtain ⟨⟨v, h1, h2⟩, h3, h4⟩ := h
  obtain ⟨a, c, rfl⟩ := rd_shape h2.1
  have c0 := h1.val 0 rfl
  have c1 := h1.val 1 rfl
  have c2 := h1.val 2 rfl
  have hp3 : decide ((bs.length : Int) ≤ (p : Int)) = false := by simp; omega
  clear h1 h2 h3 h4
  go_enter Try.func19, Try.ntmps19
  go_wp2
  go_quiet (fail)
  have hq1 : Quiet w (w.drewN nq) := ⟨nq, rfl⟩
  have H1 := Lib.hid (HH.out.quiet hq1)
  have HQ := Lib.hid hq1
  clear hq1 c0 c1 c2 HH
  generalize w.drewN nq = w1 at *
  obtain ⟨⟨v, h1, h2⟩, h3, h4⟩ := H1.out
  obtain ⟨a', c', rfl⟩ := rd_shape h2.1
  have c0 := h1.val 0 rfl
  have c1 := h1.val 1 rfl
  have c2 := h1.val 2 rfl
  have f1 := h1.frozen 1
  have H2 := Lib.hid (H1.out.set1 ((p + 1 : Nat) : Int))
  clear h1 h2 h3 h4
  go_upto_region 6 with fail
  clear c0 c1 c2 f1 H1
  have e1 : ((p + 1 : Nat) : Int) = (p : Int) + 1 := by omega
  rw [e1] at H2
  generalize World.setCell _ _ _ = w2 at *
  obtain ⟨⟨v, h1, h2⟩, h3, h4⟩ := H2.out.1
  obtain ⟨a', c', rfl⟩ := rd_shape h2.1
  obtain ⟨d, o, rfl, hdB, cx⟩ := rd_at h2.1 hp
  unfold ElB at cx
  rw [Nat.mul_one] at cx
  have c0 := h1.val 0 rfl
  have c1 := h1.val 1 rfl
  have hp2 : (0 : Int) ≤ (p : Int) ∧ (p : Int) < (bs.length : Int) := ⟨by omega, by omega⟩
  have hp4 : 0 < bs.length := by omega
  have hx := (bs[p]).toNat_lt
  clear h1 h2 h3 h4
  obtain ⟨x, hxe⟩ : ∃ x, x = (bs[p]).toNat := ⟨_, rfl⟩
  rw [← hxe] at cx hx
  have HXE := Lib.hid hxe
  clear hxe
  go_quiet (fail)
  go_wp2
  go_ret
  exact ⟨by rw [← HXE.out]; rfl, by rw [e1]; exact H2.out.1.quiet ⟨_, rfl⟩, ((RdT.quiet HQ.out).trans H2.out.2).trans (RdT.quiet ⟨_, rfl⟩)⟩
set_option maxRecDepth 100000 in
set_option maxHeartbeats 1000000 in
theorem rone_end (t : TypeId) (w : World) (B b : Nat) (bs : List UInt8) (bad : Int) (h : RdAt t w B b bs (bs.length : Int) 0 bad) :
    Calls Try.prog 19 #[.pointer (some ⟨b, 0, none⟩)] w fun e' w' => e' = .returned (.int .i64 0) ∧ RdAt t w' B b bs (bs.length : Int) 10 (bs.length : Int) ∧ RdT b w w' := by
  have HH := Lib.hid h
  obtain ⟨⟨v, h1, h2⟩, h3, h4⟩ := h
  obtain ⟨a, c, rfl⟩ := rd_shape h2.1
  have c0 := h1.val 0 rfl
  have c1 := h1.val 1 rfl
  have c2 := h1.val 2 rfl
  have hp3 : decide ((bs.length : Int) ≤ (bs.length : Int)) = true := by simp
  clear h1 h2 h3 h4
  go_enter Try.func19, Try.ntmps19
  go_wp2
  go_quiet (fail)
  have hq1 : Quiet w (w.drewN nq) := ⟨nq, rfl⟩
  have H1 := Lib.hid (HH.out.quiet hq1)
  have HQ := Lib.hid hq1
  clear hq1 c0 c1 c2 HH
  generalize w.drewN nq = w1 at *
  have F := Lib.hid (rfail_new t (bs.length : Int) 10 H1.out)
  obtain ⟨⟨v, h1, h2⟩, h3, h4⟩ := H1.out
  obtain ⟨a', c', rfl⟩ := rd_shape h2.1
  have c0 := h1.val 0 rfl
  clear h1 h2 h3 h4
  go_wp2_with fail
  refine F.out.mono ?_
  rintro e' w2 ⟨⟨u, rfl⟩, hA, hT⟩
  have H := Lib.hid (And.intro hA (Touch.trans (RdT.quiet HQ.out) hT))
  obtain ⟨⟨v, h1, h2⟩, h3, h4⟩ := hA
  have c2 := h1.val 2 rfl
  clear h1 h2 h3 h4 hT c0
  go_wp2
  go_ret
  exact ⟨rfl, H.out⟩
set_option maxRecDepth 100000 in
set_option maxHeartbeats 1000000 in
theorem rone_err (t : TypeId) (w : World) (B b : Nat) (bs : List UInt8) (p : Nat) (e bad : Int) (h : RdAt t w B b bs (p : Int) e bad) (he : e ≠ 0) :
    Calls Try.prog 19 #[.pointer (some ⟨b, 0, none⟩)] w fun e' w' => e' = .returned (.int .i64 0) ∧ Quiet w w' := by
  obtain ⟨⟨v, h1, h2⟩, h3, h4⟩ := h
  obtain ⟨a, c, rfl⟩ := rd_shape h2.1
  have c0 := h1.val 0 rfl
  have c1 := h1.val 1 rfl
  have c2 := h1.val 2 rfl
  have he' : (e != 0) = true := by simpa using he
  have he2 : (e == 0) = false := by simpa using he
  clear h1 h2 h3 h4
  go_enter Try.func19, Try.ntmps19
  go_wp2
  refine wp_region_held_drew (S := (fun W' => W'.cell? ⟨b, 2, none⟩ = some (.int .i64 e))) (by kernel_rfl) c2 (fun hHeld => ?_)
  refine wpAnyH_take (i := 0) (oi := _) (v := ?_) (op_atC rfl) (by kernel_rfl) (by kernel_rfl) (by kernel_rfl) (fun _ _ _ h => h) (Or.inl ⟨by rfl, ?_⟩) hHeld ?_
  rotate_left 1
  focus (intro W hSw; (try dsimp only at hSw); go_simp; (try (with_reducible rfl)))
  (try simp only [Act.put, List.setIfInBounds_toArray, List.set_cons_zero, List.set_cons_succ])
  refine wpAnyH_take (i := 1) (oi := _) (v := ?_) (op_atC rfl) (by kernel_rfl) (by kernel_rfl) (by kernel_rfl) (fun _ _ _ h => h) (Or.inl ⟨by rfl, ?_⟩) hHeld ?_
  rotate_left 1
  focus (intro W hSw; (try dsimp only at hSw); go_simp; (try (with_reducible rfl)))
  (try simp only [Act.put, List.setIfInBounds_toArray, List.set_cons_zero, List.set_cons_succ])
  refine wpAnyH_take (i := 2) (oi := _) (v := ?_) (op_atC rfl) (by kernel_rfl) (by kernel_rfl) (by kernel_rfl) (fun _ _ _ h => h) (Or.inl ⟨by rfl, ?_⟩) hHeld ?_
  rotate_left 1
  focus (intro W hSw; (try dsimp only at hSw); go_simp; (try (with_reducible rfl)))
  (try simp only [Act.put, List.setIfInBounds_toArray, List.set_cons_zero, List.set_cons_succ])
  refine wpAnyH_take (i := 3) (oi := _) (v := ?_) (op_atC rfl) (by kernel_rfl) (by kernel_rfl) (by kernel_rfl) (fun _ _ _ h => h) (Or.inl ⟨by rfl, ?_⟩) hHeld ?_
  rotate_left 1
  focus (intro W hSw; (try dsimp only at hSw); go_simp; (try (with_reducible rfl)))
  (try simp only [Act.put, List.setIfInBounds_toArray, List.set_cons_zero, List.set_cons_succ])
  refine wpAnyH_take (i := 4) (oi := _) (v := ?_) (op_atC rfl) (by kernel_rfl) (by kernel_rfl) (by kernel_rfl) (fun _ _ _ h => h) (Or.inl ⟨by rfl, ?_⟩) hHeld ?_
  rotate_left 1
  focus (intro W hSw; (try dsimp only at hSw); go_simp; (try (with_reducible rfl)))
  (try simp only [Act.put, List.setIfInBounds_toArray, List.set_cons_zero, List.set_cons_succ])
  refine wpAnyH_take (i := 5) (oi := _) (v := ?_) (op_atC rfl) (by kernel_rfl) (by kernel_rfl) (by kernel_rfl) (fun _ _ _ h => h) (Or.inl ⟨by rfl, ?_⟩) hHeld ?_
  rotate_left 1
  focus (intro W hSw; (try dsimp only at hSw); go_simp; (try (with_reducible rfl)))
  (try simp only [Act.put, List.setIfInBounds_toArray, List.set_cons_zero, List.set_cons_succ])
  refine wpAnyH_take (i := 6) (oi := _) (v := undef) (op_atC rfl) (by kernel_rfl) (by kernel_rfl) (by kernel_rfl) (fun _ _ _ h => h) (Or.inr ⟨by rfl, rfl⟩) hHeld ?_
  (try simp only [Act.put, List.setIfInBounds_toArray, List.set_cons_zero, List.set_cons_succ])
  refine wpAnyH_take (i := 7) (oi := _) (v := undef) (op_atC rfl) (by kernel_rfl) (by kernel_rfl) (by kernel_rfl) (fun _ _ _ h => h) (Or.inr ⟨by rfl, rfl⟩) hHeld ?_
  (try simp only [Act.put, List.setIfInBounds_toArray, List.set_cons_zero, List.set_cons_succ])
  refine wpAnyH_take (i := 8) (oi := _) (v := undef) (op_atC rfl) (by kernel_rfl) (by kernel_rfl) (by kernel_rfl) (fun _ _ _ h => h) (Or.inr ⟨by rfl, rfl⟩) hHeld ?_
  (try simp only [Act.put, List.setIfInBounds_toArray, List.set_cons_zero, List.set_cons_succ])
  refine wpAnyH_take (i := 9) (oi := _) (v := undef) (op_atC rfl) (by kernel_rfl) (by kernel_rfl) (by kernel_rfl) (fun _ _ _ h => h) (Or.inr ⟨by rfl, rfl⟩) hHeld ?_
  (try simp only [Act.put, List.setIfInBounds_toArray, List.set_cons_zero, List.set_cons_succ])
  refine wpAnyH_take (i := 10) (oi := _) (v := undef) (op_atC rfl) (by kernel_rfl) (by kernel_rfl) (by kernel_rfl) (fun _ _ _ h => h) (Or.inr ⟨by rfl, rfl⟩) hHeld ?_
  (try simp only [Act.put, List.setIfInBounds_toArray, List.set_cons_zero, List.set_cons_succ])
  refine wpAnyH_take (i := 11) (oi := _) (v := undef) (op_atC rfl) (by kernel_rfl) (by kernel_rfl) (by kernel_rfl) (fun _ _ _ h => h) (Or.inr ⟨by rfl, rfl⟩) hHeld ?_
  (try simp only [Act.put, List.setIfInBounds_toArray, List.set_cons_zero, List.set_cons_succ])
  refine wpAnyH_take (i := 12) (oi := _) (v := undef) (op_atC rfl) (by kernel_rfl) (by kernel_rfl) (by kernel_rfl) (fun _ _ _ h => h) (Or.inr ⟨by rfl, rfl⟩) hHeld ?_
  (try simp only [Act.put, List.setIfInBounds_toArray, List.set_cons_zero, List.set_cons_succ])
  refine wpAnyH_take (i := 13) (oi := _) (v := undef) (op_atC rfl) (by kernel_rfl) (by kernel_rfl) (by kernel_rfl) (fun _ _ _ h => h) (Or.inr ⟨by rfl, rfl⟩) hHeld ?_
  (try simp only [Act.put, List.setIfInBounds_toArray, List.set_cons_zero, List.set_cons_succ])
  refine wpAnyH_take (i := 14) (oi := _) (v := undef) (op_atC rfl) (by kernel_rfl) (by kernel_rfl) (by kernel_rfl) (fun _ _ _ h => h) (Or.inr ⟨by rfl, rfl⟩) hHeld ?_
  (try simp only [Act.put, List.setIfInBounds_toArray, List.set_cons_zero, List.set_cons_succ])
  refine wpAnyH_take (i := 15) (oi := _) (v := undef) (op_atC rfl) (by kernel_rfl) (by kernel_rfl) (by kernel_rfl) (fun _ _ _ h => h) (Or.inr ⟨by rfl, rfl⟩) hHeld ?_
  (try simp only [Act.put, List.setIfInBounds_toArray, List.set_cons_zero, List.set_cons_succ])
  refine wpAnyH_take (i := 16) (oi := _) (v := ?_) (op_atC rfl) (by kernel_rfl) (by kernel_rfl) (by kernel_rfl) (fun _ _ _ h => h) (Or.inl ⟨by rfl, ?_⟩) hHeld ?_
  rotate_left 1
  focus (intro W hSw; (try dsimp only at hSw); go_simp; (try (with_reducible rfl)))
  (try simp only [Act.put, List.setIfInBounds_toArray, List.set_cons_zero, List.set_cons_succ])
  refine wpAnyH_done (by kernel_rfl) ?_ _
  go_wp2
  go_ret
  exact ⟨rfl, 1, rfl⟩
/-- one, from any state -/
theorem rone_any (t : TypeId) (w : World) (B b : Nat) (bs : List UInt8) (st : St) (h : RdS t w B b bs st) :
    Calls Try.prog 19 #[.pointer (some ⟨b, 0, none⟩)] w fun e' w' => ∃ (x : UInt8) (st' : St), e' = .returned (.int .i64 (x.toNat : Int)) ∧ Gets (after st (nextD bs)) x st' ∧ (∀ y, st' = .error y → x = 0) ∧ RdS t w' B b bs st' ∧ RdT b w w' := by
  cases st with
  | ok p =>
    obtain ⟨⟨bad, h⟩, h2⟩ := h
    by_cases hp : p < bs.length
    · refine (rone_in t w B b bs p bad h hp).mono fun e' w' ⟨hu, hA, hT⟩ => ⟨bs[p], .ok (p + 1), hu, .inl ⟨p + 1, ?_, rfl⟩, fun y hy => (by cases hy), ⟨⟨bad, hA⟩, hp⟩, hT⟩
      rw [after_ok, nextD, List.getElem?_eq_getElem hp]
    · obtain rfl : p = bs.length := by omega
      refine (rone_end t w B b bs bad h).mono fun e' w' ⟨hu, hA, hT⟩ => ⟨0, .error (10, bs.length), hu, .inr ⟨_, ?_, rfl⟩, fun y hy => rfl, ⟨show (10 : Int) ≠ 0 by decide, _, Nat.le_refl _, hA⟩, hT⟩
      rw [after_ok, nextD, List.getElem?_eq_none (Nat.le_refl _)]
  | error y =>
    obtain ⟨h0, q, h1, h⟩ := h
    exact (rone_err t w B b bs q y.1 y.2 h h0).mono fun e' w' ⟨hu, hw⟩ => ⟨0, .error y, hu, .inr ⟨y, rfl, rfl⟩, fun _ _ => rfl, ⟨h0, q, h1, h.quiet hw⟩, RdT.quiet hw⟩
end Go.Proofs.Ytffelcidckbohaa
/- The document's reader: number. Condition: the reader is there. -/
namespace Go.Proofs.Ytffelcidckbohaa
open Go.RowKit
set_option linter.unusedVariables false
def bytI (x : UInt8) : List Value := [.int .i64 (x.toNat : Int)]
def sLen : Value → Nat | .slice _ n _ => n | _ => 0
/-- what the rounds of number know: fine so far, or in error -/
def RNum (t : TypeId) (W : World) (B b : Nat) (bs : List UInt8) (st : St) (D : Rd Nat) (L : List UInt8) (c : Nat) (s : St) : Prop :=
  RdS t W B b bs s ∧ L.length ≤ 10 ∧ c < 256 ∧
  ((∃ p, st = .ok p ∧ s = .ok (p + L.length) ∧ (L.length = 0 → c = 128) ∧ (0 < L.length → c = (lastD L).toNat) ∧ ¬ (L.length = 10 ∧ 1 < c) ∧
    (128 ≤ c → gathD bs 10 p = (gathD bs (10 - L.length) (p + L.length)).map (L ++ ·)) ∧ (c < 128 → gathD bs 10 p = some L)) ∨
   (∃ ex, s = .error ex ∧ D = .error ex))
theorem RNum.start {t : TypeId} {W : World} {B b : Nat} {bs : List UInt8} {st : St} {most : Nat} (h : RdS t W B b bs st) : RNum t W B b bs st (after st (numD bs most)) [] 128 st := by
  refine ⟨h, by simp, by decide, ?_⟩
  cases st with
  | ok p => exact .inl ⟨p, rfl, rfl, fun _ => rfl, fun h => absurd h (by simp), by simp, fun _ => by simp, fun h => absurd h (by omega)⟩
  | error x => exact .inr ⟨x, rfl, rfl⟩
/-- a round that goes on -/
theorem RNum.next {t : TypeId} {W W' : World} {B b : Nat} {bs : List UInt8} {p most c : Nat} {L : List UInt8} {x : UInt8} {s1 : St} (h : RNum t W B b bs (.ok p) (numD bs most p) L c (.ok (p + L.length))) (hc : 128 ≤ c)
    (hG : Gets (after (.ok (p + L.length)) (nextD bs)) x s1) (h0 : ∀ y, s1 = .error y → x = 0) (hS : RdS t W' B b bs s1) (hx : ∀ q, s1 = .ok q → ¬ (L.length + 1 = 10 ∧ 1 < x.toNat)) : RNum t W' B b bs (.ok p) (numD bs most p) (L ++ [x]) x.toNat s1 := by
  obtain ⟨_, hl, _, h⟩ := h
  rcases h with ⟨p', e1, e2, h1, h2, h3, h4, h5⟩ | ⟨ex, e1, _⟩
  · injection e1 with e1
    subst e1
    have hl9 : L.length < 10 := by
      by_cases e : L.length = 10
      · exact absurd ⟨e, by omega⟩ h3
      · omega
    have hy := h4 hc
    refine ⟨hS, by simp; omega, x.toNat_lt, ?_⟩
    rw [after_ok, nextD] at hG
    cases hb : bs[p + L.length]? with
    | none =>
      rw [hb] at hG
      rcases hG with ⟨q, g1, g2⟩ | ⟨e, g1, g2⟩
      · cases g1
      · injection g1 with g1
        subst g1
        exact .inr ⟨_, g2, num_none (gath_none hy hl9 hb)⟩
    | some d =>
      rw [hb] at hG
      rcases hG with ⟨q, g1, g2⟩ | ⟨e, g1, g2⟩
      · injection g1 with g1
        injection g1 with g1 g3
        subst g1 g3
        obtain ⟨k1, k2⟩ := gath_step hy hl9 hb
        refine .inl ⟨p, rfl, by rw [g2, List.length_append]; rfl, fun h => absurd h (by simp), fun _ => by simp [lastD], ?_, ?_, k2⟩
        · rw [List.length_append]; exact hx _ g2
        · intro hx; rw [List.length_append]; exact k1 hx
      · cases g1
  · cases e1
/-- a round that ends in a tenth byte too great -/
theorem RNum.big {t : TypeId} {W : World} {B b : Nat} {bs : List UInt8} {p most c : Nat} {L : List UInt8} {x : UInt8} {q : Nat} (h : RNum t W B b bs (.ok p) (numD bs most p) L c (.ok (p + L.length))) (hc : 128 ≤ c)
    (hG : Gets (after (.ok (p + L.length)) (nextD bs)) x (.ok q)) (hx : L.length + 1 = 10 ∧ 1 < x.toNat) : numD bs most p = .error (3, (p : Int)) := by
  obtain ⟨_, hl, _, h⟩ := h
  rcases h with ⟨p', e1, e2, h1, h2, h3, h4, h5⟩ | ⟨ex, e1, _⟩
  · injection e1 with e1
    subst e1
    have hy := h4 hc
    have hb : bs[p + L.length]? = some x := by
      have := hG.ok
      rw [after_ok, nextD] at this
      cases hb : bs[p + L.length]? with
      | none => rw [hb] at this; cases this
      | some d => rw [hb] at this; injection this with this; injection this with this; rw [this]
    obtain ⟨k1, k2⟩ := gath_step hy (by omega) hb
    have hg : gathD bs 10 p = some (L ++ [x]) := by
      by_cases h128 : 128 ≤ x.toNat
      · have := k1 h128
        rw [show L.length + 1 = 10 from hx.1] at this
        exact gath_end this
      · exact k2 (by omega)
    rw [num_some hg, if_pos ⟨by rw [List.length_append]; exact hx.1, by simpa [lastD] using hx.2⟩]
  · cases e1
/-- behind the rounds, not in error -/
theorem RNum.fine {t : TypeId} {W : World} {B b : Nat} {bs : List UInt8} {st : St} {most c q : Nat} {L : List UInt8} (h : RNum t W B b bs st (after st (numD bs most)) L c (.ok q)) (hc : c < 128) :
    ∃ p, st = .ok p ∧ q = p + L.length ∧ 0 < L.length ∧ L.length ≤ 10 ∧ c = (lastD L).toNat ∧ (after st (numD bs most) = if 1 < L.length ∧ c = 0 then .error (13, (p : Int)) else if most < valD L then .error (3, (p : Int)) else .ok (valD L, q)) ∧ valD L < 18446744073709551616 := by
  obtain ⟨_, hl, _, h⟩ := h
  rcases h with ⟨p, e1, e2, h1, h2, h3, h4, h5⟩ | ⟨ex, e1, _⟩
  · subst e1
    injection e2 with e2
    have hpos : 0 < L.length := by
      rcases Nat.eq_zero_or_pos L.length with e | e
      · have := h1 e; omega
      · exact e
    have hcl := h2 hpos
    rw [hcl] at h3
    refine ⟨p, rfl, e2, hpos, hl, hcl, ?_, val_fit hl h3⟩
    rw [after_ok, num_some (h5 hc), if_neg h3, ← hcl, e2]
  · cases e1
theorem valD_drop (L : List UInt8) (i : Nat) (hi : i < L.length) : valD (L.drop i) = (L[i]).toNat % 128 + 128 * valD (L.drop (i + 1)) := by
  rw [List.drop_eq_getElem_cons hi, valD]
end Go.Proofs.Ytffelcidckbohaa
