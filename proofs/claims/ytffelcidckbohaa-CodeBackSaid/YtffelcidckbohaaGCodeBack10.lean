/- Texts of this seat, one behind the other: each says at its head what it holds. No condition of its own. -/
import Derived.Test.YtffelcidckbohaaGCodeBack08
import Derived.Test.YtffelcidckbohaaGCodeBack09
/- light, with what it tells. Condition: the argument reads as a program. -/
namespace Go.Proofs.Ytffelcidckbohaa
open Go.RowKit
set_option linter.unusedVariables false
/-- a program of few parts -/
def LtP (p : PrgD) : Prop := p.classes.length ≤ 40 ∧ p.funcs.length ≤ 40 ∧ (∀ c ∈ p.classes, c.fields.length ≤ 40) ∧ ∀ f ∈ p.funcs, f.params.length ≤ 40 ∧ f.locals.length ≤ 40 ∧ f.code.length ≤ 400
def SomeL (p : PrgD) (w : World) (e : Ending) (w' : World) : Prop := ∃ b, e = .returned (.bool b) ∧ Below w.heap.size w w' ∧ (b = true → LtP p)
theorem all_at {α : Type} {p : α → Prop} {l : List α} (h : ∀ q (hq : q < l.length), p l[q]) : ∀ x ∈ l, p x := by
  intro x hx
  obtain ⟨i, hi, rfl⟩ := List.getElem_of_mem hx
  exact h i hi
set_option maxRecDepth 100000 in
set_option maxHeartbeats 4000000 in
theorem lightp_any (p : PrgD) (v1 v2 : Value) (w : World) (B0 : Nat) (hB0 : B0 ≤ w.heap.size) (h : RdPrg B0 w v1 v2 p) :
    Calls Try.prog 9 #[.agg #[v1, v2]] w (SomeL p w) := by
  obtain ⟨a1, p1, s1⟩ := rd_shape h.1
  obtain ⟨a2, p2, s2⟩ := rd_shape h.2
  subst s1 s2
  have hb : Below w.heap.size w (w.alloc (.cells #[.slice a1 p.classes.length p1, .slice a2 p.funcs.length p2] 27)) := (Below.refl _ _).alloc (Nat.le_refl _) _
  have hr := (h.mono hB0).keep hb
  have k0 : Blk (w.alloc (.cells #[.slice a1 p.classes.length p1, .slice a2 p.funcs.length p2] 27)) w.heap.size #[.slice a1 p.classes.length p1, .slice a2 p.funcs.length p2] 27 := Blk.new _ _ _
  have y0 := k0.val 0 rfl
  have y1 := k0.val 1 rfl
  have hmx1 : p.classes.length ≤ maxLen := by obtain ⟨_, _, _, q, _⟩ := hr.1; exact q
  have hmx2 : p.funcs.length ≤ maxLen := by obtain ⟨_, _, _, q, _⟩ := hr.2; exact q
  unfold maxLen at hmx1 hmx2
  have HR := Lib.hid hr
  have HB := Lib.hid hb
  clear h hB0 hr hb k0
  go_enter Try.func9, Try.ntmps9
  by_cases c1 : 40 < p.classes.length
  · have c1' : (40 : Int) < (p.classes.length : Int) := by omega
    go_wp2
    go_ret
    exact ⟨_, rfl, HB.out, fun h => by simp at h⟩
  have c1' : ¬ (40 : Int) < (p.classes.length : Int) := by omega
  by_cases c2 : 40 < p.funcs.length
  · have c2' : (40 : Int) < (p.funcs.length : Int) := by omega
    go_wp2
    go_ret
    exact ⟨_, rfl, HB.out, fun h => by simp at h⟩
  have c2' : ¬ (40 : Int) < (p.funcs.length : Int) := by omega
  go_wp2
  go_loop [3] (fun x => ∃ i : Nat, i ≤ p.classes.length ∧ x = .int .i64 i ∧ ∀ q (hq : q < p.classes.length), q < i → p.classes[q].fields.length ≤ 40) (fun x => p.classes.length - (intOf x).toNat)
  case atStart => exact ⟨0, by omega, rfl, fun q _ h => absurd h (by omega)⟩
  case round =>
    obtain ⟨i, hi, rfl, hc⟩ := hrel
    have HC := Lib.hid hc
    clear hc
    by_cases hlt : i < p.classes.length
    · have hlt' : (i : Int) < (p.classes.length : Int) := by omega
      obtain ⟨_, _, hva, _, hel⟩ := HR.out.1
      injection hva with hva1 hva2 hva3
      subst hva1 hva3
      obtain ⟨d, o, hdo, hdB, t1, vf, t2, hvf⟩ := hel i hlt
      subst hdo
      obtain ⟨fa, fc, hfs⟩ := rd_shape hvf
      subst hfs
      have i1 : (0 : Int) ≤ (i : Int) ∧ (i : Int) < (p.classes.length : Int) := ⟨by omega, by omega⟩
      have i2 : 0 < p.classes.length := by omega
      clear hel hvf
      obtain ⟨m, hm⟩ : ∃ m, m = (p.classes[i]'hlt).fields.length := ⟨_, rfl⟩
      have HE := Lib.hid hm
      rw [← hm] at t2
      clear hm
      by_cases c3 : 40 < m
      · have c3' : (40 : Int) < (m : Int) := by omega
        go_wp2
        go_ret
        exact ⟨_, rfl, HB.out, fun h => by simp at h⟩
      · have c3' : ¬ (40 : Int) < (m : Int) := by omega
        go_wp2
        go_round
        case rel => exact ⟨i + 1, by omega, by go_num, fun q hq h => by
          rcases Nat.lt_or_ge q i with h1 | h1
          · exact HC.out q hq h1
          · obtain rfl : q = i := by omega
            have := HE.out
            omega⟩
        case measure => simp [intOf]; omega
    · have hlt' : ¬ (i : Int) < (p.classes.length : Int) := by omega
      go_wp2
      go_loop [4] (fun x => ∃ i : Nat, i ≤ p.funcs.length ∧ x = .int .i64 i ∧ ∀ q (hq : q < p.funcs.length), q < i → (p.funcs[q].params.length ≤ 40 ∧ p.funcs[q].locals.length ≤ 40 ∧ p.funcs[q].code.length ≤ 400)) (fun x => p.funcs.length - (intOf x).toNat)
      case atStart => exact ⟨0, by omega, rfl, fun q _ h => absurd h (by omega)⟩
      case round =>
        obtain ⟨j, hj, rfl, hjj⟩ := hrel
        have HJ := Lib.hid hjj
        clear hjj
        by_cases hltj : j < p.funcs.length
        · have hlt' : (j : Int) < (p.funcs.length : Int) := by omega
          obtain ⟨_, _, hva, _, hel⟩ := HR.out.2
          injection hva with hva1 hva2 hva3
          subst hva1 hva3
          obtain ⟨d, o, hdo, hdB, t1, ⟨u1, t2, r1⟩, ⟨t3, _⟩, ⟨u3, t4, r3⟩, u4, t5, r4⟩ := hel j hltj
          subst hdo
          obtain ⟨fa1, fc1, hf1⟩ := rd_shape r1
          obtain ⟨fa3, fc3, hf3⟩ := rd_shape r3
          obtain ⟨fa4, fc4, hf4⟩ := rd_shape r4
          subst hf1 hf3 hf4
          have i1 : (0 : Int) ≤ (j : Int) ∧ (j : Int) < (p.funcs.length : Int) := ⟨by omega, by omega⟩
          have i2 : 0 < p.funcs.length := by omega
          clear hel r1 r3 r4
          obtain ⟨m1, hm1⟩ : ∃ m, m = (p.funcs[j]'hltj).params.length := ⟨_, rfl⟩
          obtain ⟨m2, hm2⟩ : ∃ m, m = (p.funcs[j]'hltj).locals.length := ⟨_, rfl⟩
          obtain ⟨m3, hm3⟩ : ∃ m, m = (p.funcs[j]'hltj).code.length := ⟨_, rfl⟩
          have HE := Lib.hid (And.intro hm1 (And.intro hm2 hm3))
          rw [← hm1] at t2
          rw [← hm2] at t4
          rw [← hm3] at t5
          clear hm1 hm2 hm3
          by_cases c3 : 400 < m3
          · have c3' : (400 : Int) < (m3 : Int) := by omega
            go_wp2
            go_ret
            exact ⟨_, rfl, HB.out, fun h => by simp at h⟩
          have c3' : ¬ (400 : Int) < (m3 : Int) := by omega
          by_cases c4 : 40 < m1
          · have c4' : (40 : Int) < (m1 : Int) := by omega
            go_wp2
            go_ret
            exact ⟨_, rfl, HB.out, fun h => by simp at h⟩
          have c4' : ¬ (40 : Int) < (m1 : Int) := by omega
          by_cases c5 : 40 < m2
          · have c5' : (40 : Int) < (m2 : Int) := by omega
            go_wp2
            go_ret
            exact ⟨_, rfl, HB.out, fun h => by simp at h⟩
          have c5' : ¬ (40 : Int) < (m2 : Int) := by omega
          go_wp2
          go_round
          case rel => exact ⟨j + 1, by omega, by go_num, fun q hq h => by
            rcases Nat.lt_or_ge q j with h1 | h1
            · exact HJ.out q hq h1
            · obtain rfl : q = j := by omega
              have := HE.out
              omega⟩
          case measure => simp [intOf]; omega
        · have hlt' : ¬ (j : Int) < (p.funcs.length : Int) := by omega
          go_wp2
          go_ret
          exact ⟨_, rfl, HB.out, fun _ => ⟨by omega, by omega, all_at fun q hq => HC.out q hq (by omega), all_at fun q hq => HJ.out q hq (by omega)⟩⟩
end Go.Proofs.Ytffelcidckbohaa
/- Classes and functions in rows of one's own. No condition. -/
namespace Go.Proofs.Ytffelcidckbohaa
open Go.RowKit
set_option linter.unusedVariables false
structure COwn (w : World) (lo : Nat) (v : Value) (l : List (ClsD × Value)) : Prop where
  row : w.ownsRow lo 52 2 v l.length (l.flatMap clsC)
  inner : ∀ x ∈ l, w.ownsRow lo 66 2 x.2 x.1.fields.length (x.1.fields.flatMap fldC)
  apart : ∀ x ∈ l, ∀ g, x.2.ownBlock = some g → v.ownBlock ≠ some g
structure UOwn (w : World) (lo : Nat) (v : Value) (l : List (FunD × Value × Value × Value)) : Prop where
  row : w.ownsRow lo 45 5 v l.length (l.flatMap funC)
  inner1 : ∀ x ∈ l, w.ownsRow lo 3 1 x.2.1 x.1.params.length (x.1.params.flatMap intC)
  inner3 : ∀ x ∈ l, w.ownsRow lo 3 1 x.2.2.1 x.1.locals.length (x.1.locals.flatMap intC)
  inner4 : ∀ x ∈ l, w.ownsRow lo 41 3 x.2.2.2 x.1.code.length (x.1.code.flatMap insC)
  apart1 : ∀ x ∈ l, ∀ g, x.2.1.ownBlock = some g → v.ownBlock ≠ some g
  apart3 : ∀ x ∈ l, ∀ g, x.2.2.1.ownBlock = some g → v.ownBlock ≠ some g
  apart4 : ∀ x ∈ l, ∀ g, x.2.2.2.ownBlock = some g → v.ownBlock ≠ some g
section
variable {w w' : World} {lo : Nat} {v v' : Value}
theorem COwn.nil (w : World) (lo : Nat) : COwn w lo (.slice none 0 0) [] := ⟨⟨by simp, .inl ⟨rfl, rfl⟩⟩, fun x hx => (by cases hx), fun x hx => (by cases hx)⟩
theorem UOwn.nil (w : World) (lo : Nat) : UOwn w lo (.slice none 0 0) [] := ⟨⟨by simp, .inl ⟨rfl, rfl⟩⟩, fun x hx => (by cases hx), fun x hx => (by cases hx), fun x hx => (by cases hx), fun x hx => (by cases hx), fun x hx => (by cases hx), fun x hx => (by cases hx)⟩
theorem COwn.grew {l : List (ClsD × Value)} (h : COwn w lo v l) (hb : Below w.heap.size w w') : COwn w' lo v l := ⟨own_grewG h.row hb, fun x hx => own_grewG (h.inner x hx) hb, h.apart⟩
theorem UOwn.grew {l : List (FunD × Value × Value × Value)} (h : UOwn w lo v l) (hb : Below w.heap.size w w') : UOwn w' lo v l :=
  ⟨own_grewG h.row hb, fun x hx => own_grewG (h.inner1 x hx) hb, fun x hx => own_grewG (h.inner3 x hx) hb, fun x hx => own_grewG (h.inner4 x hx) hb, h.apart1, h.apart3, h.apart4⟩
theorem COwn.touch {R : Nat → Prop} {l : List (ClsD × Value)} (h : COwn w lo v l) (hT : Touch R w w') (hr : ∀ g, lo ≤ g → g < w.heap.size → ¬ R g) : COwn w' lo v l :=
  ⟨own_touch h.row hT (fun g hg => hr g (own_ltG h.row hg).1 (own_ltG h.row hg).2), fun x hx => own_touch (h.inner x hx) hT (fun g hg => hr g (own_ltG (h.inner x hx) hg).1 (own_ltG (h.inner x hx) hg).2), h.apart⟩
theorem UOwn.touch {R : Nat → Prop} {l : List (FunD × Value × Value × Value)} (h : UOwn w lo v l) (hT : Touch R w w') (hr : ∀ g, lo ≤ g → g < w.heap.size → ¬ R g) : UOwn w' lo v l :=
  ⟨own_touch h.row hT (fun g hg => hr g (own_ltG h.row hg).1 (own_ltG h.row hg).2), fun x hx => own_touch (h.inner1 x hx) hT (fun g hg => hr g (own_ltG (h.inner1 x hx) hg).1 (own_ltG (h.inner1 x hx) hg).2),
    fun x hx => own_touch (h.inner3 x hx) hT (fun g hg => hr g (own_ltG (h.inner3 x hx) hg).1 (own_ltG (h.inner3 x hx) hg).2), fun x hx => own_touch (h.inner4 x hx) hT (fun g hg => hr g (own_ltG (h.inner4 x hx) hg).1 (own_ltG (h.inner4 x hx) hg).2), h.apart1, h.apart3, h.apart4⟩
theorem COwn.sub {lo' : Nat} {l : List (ClsD × Value)} (h : COwn w lo v l) (hl : lo' ≤ lo) : COwn w lo' v l := ⟨own_sub h.row hl, fun x hx => own_sub (h.inner x hx) hl, h.apart⟩
theorem own_kept {b : Nat} {e : TypeId} {size : Nat} {u : Value} {n : Nat} {xs : List Value} (h : w.ownsRow b e size u n xs) (hg : w.grownBy w' v.ownBlock) (hne : ∀ g, u.ownBlock = some g → v.ownBlock ≠ some g) : w'.ownsRow b e size u n xs :=
  h.kept hg (by
    cases hu : u.ownBlock with
    | none => exact .inl rfl
    | some g => exact .inr fun e => hne g hu e.symm)
theorem apart_new {b : Nat} {e : TypeId} {size : Nat} {u : Value} {n : Nat} {xs : List Value} {q : Nat} (h : w.ownsRow b e size u n xs) (hv : v'.ownBlock = some q) (hat : v.ownBlock = some q ∨ q = w.heap.size) (hne : ∀ g, u.ownBlock = some g → v.ownBlock ≠ some g) : ∀ g, u.ownBlock = some g → v'.ownBlock ≠ some g := by
  intro g hg e
  rcases hat with h1 | h1
  · rw [hv] at e; exact hne g hg (h1.trans e)
  · rw [hv] at e
    have := (own_ltG h hg).2
    have := Option.some.inj e
    omega
theorem COwn.app {l : List (ClsD × Value)} {x : ClsD × Value} {q : Nat} (h : COwn w lo v l) (hx : w.ownsRow lo 66 2 x.2 x.1.fields.length (x.1.fields.flatMap fldC)) (hap : ∀ g, x.2.ownBlock = some g → v.ownBlock ≠ some g)
    (hg : w.grownBy w' v.ownBlock) (hown : w'.ownsRow lo 52 2 v' (l.length + 1) (l.flatMap clsC ++ clsC x)) (hv : v'.ownBlock = some q) (hat : v.ownBlock = some q ∨ q = w.heap.size) : COwn w' lo v' (l ++ [x]) := by
  have hi : ∀ y ∈ l ++ [x], w.ownsRow lo 66 2 y.2 y.1.fields.length (y.1.fields.flatMap fldC) ∧ ∀ g, y.2.ownBlock = some g → v.ownBlock ≠ some g := by
    intro y hy
    rcases List.mem_append.1 hy with h1 | h1
    · exact ⟨h.inner y h1, h.apart y h1⟩
    · obtain rfl : y = x := by simpa using h1
      exact ⟨hx, hap⟩
  exact ⟨by rw [List.flatMap_append, List.length_append]; simpa using hown, fun y hy => own_kept (hi y hy).1 hg (hi y hy).2, fun y hy => apart_new (hi y hy).1 hv hat (hi y hy).2⟩
theorem UOwn.app {l : List (FunD × Value × Value × Value)} {x : FunD × Value × Value × Value} {q : Nat} (h : UOwn w lo v l) (h1 : w.ownsRow lo 3 1 x.2.1 x.1.params.length (x.1.params.flatMap intC)) (h3 : w.ownsRow lo 3 1 x.2.2.1 x.1.locals.length (x.1.locals.flatMap intC))
    (h4 : w.ownsRow lo 41 3 x.2.2.2 x.1.code.length (x.1.code.flatMap insC)) (a1 : ∀ g, x.2.1.ownBlock = some g → v.ownBlock ≠ some g) (a3 : ∀ g, x.2.2.1.ownBlock = some g → v.ownBlock ≠ some g) (a4 : ∀ g, x.2.2.2.ownBlock = some g → v.ownBlock ≠ some g)
    (hg : w.grownBy w' v.ownBlock) (hown : w'.ownsRow lo 45 5 v' (l.length + 1) (l.flatMap funC ++ funC x)) (hv : v'.ownBlock = some q) (hat : v.ownBlock = some q ∨ q = w.heap.size) : UOwn w' lo v' (l ++ [x]) := by
  have i1 : ∀ y ∈ l ++ [x], w.ownsRow lo 3 1 y.2.1 y.1.params.length (y.1.params.flatMap intC) ∧ ∀ g, y.2.1.ownBlock = some g → v.ownBlock ≠ some g := by
    intro y hy
    rcases List.mem_append.1 hy with r | r
    · exact ⟨h.inner1 y r, h.apart1 y r⟩
    · obtain rfl : y = x := by simpa using r
      exact ⟨h1, a1⟩
  have i3 : ∀ y ∈ l ++ [x], w.ownsRow lo 3 1 y.2.2.1 y.1.locals.length (y.1.locals.flatMap intC) ∧ ∀ g, y.2.2.1.ownBlock = some g → v.ownBlock ≠ some g := by
    intro y hy
    rcases List.mem_append.1 hy with r | r
    · exact ⟨h.inner3 y r, h.apart3 y r⟩
    · obtain rfl : y = x := by simpa using r
      exact ⟨h3, a3⟩
  have i4 : ∀ y ∈ l ++ [x], w.ownsRow lo 41 3 y.2.2.2 y.1.code.length (y.1.code.flatMap insC) ∧ ∀ g, y.2.2.2.ownBlock = some g → v.ownBlock ≠ some g := by
    intro y hy
    rcases List.mem_append.1 hy with r | r
    · exact ⟨h.inner4 y r, h.apart4 y r⟩
    · obtain rfl : y = x := by simpa using r
      exact ⟨h4, a4⟩
  exact ⟨by rw [List.flatMap_append, List.length_append]; simpa using hown, fun y hy => own_kept (i1 y hy).1 hg (i1 y hy).2, fun y hy => own_kept (i3 y hy).1 hg (i3 y hy).2, fun y hy => own_kept (i4 y hy).1 hg (i4 y hy).2,
    fun y hy => apart_new (i1 y hy).1 hv hat (i1 y hy).2, fun y hy => apart_new (i3 y hy).1 hv hat (i3 y hy).2, fun y hy => apart_new (i4 y hy).1 hv hat (i4 y hy).2⟩
end
end Go.Proofs.Ytffelcidckbohaa
/- code's reader: a class, a function. Condition: the reader is there. -/
namespace Go.Proofs.Ytffelcidckbohaa
open Go.RowKit
set_option linter.unusedVariables false
theorem ReadsV.plain {α β : Type} {mk : α → Value} {π : α → β} {Inn : World → Nat → α → Prop} {t : TypeId} {B b : Nat} {bs : List UInt8} {r : Rd β} {w : World} {e' : Ending} {w' : World} (h : ReadsV mk π Inn t B b bs r w e' w') : ReadsV mk π NoInn t B b bs r w e' w' := by
  obtain ⟨a, s, h1, h2, _, h4⟩ := h
  exact ⟨a, s, h1, h2, trivial, h4⟩
theorem gets_cls {bs : List UInt8} {st s1 s2 : St} {l : List UInt8} {fs : List FldD} (h1 : Gets (after st (txtD bs)) l s1) (h2 : Gets (after s1 (listD bs (fldD bs) 15)) fs s2) : Gets (after st (clsD bs)) (ClsD.mk (bytA l) fs) s2 := by
  have e : after st (clsD bs) = bindD (after st (txtD bs)) fun l q => bindD (listD bs (fldD bs) 15 q) fun fs r => .ok (⟨bytA l, fs⟩, r) := after_bind st _ _
  rw [e]
  refine h1.bind ?_
  rw [after_bind]
  exact h2.map fun fs => ClsD.mk (bytA l) fs
theorem gets_fun {bs : List UInt8} {st s1 s2 s3 s4 s5 : St} {l : List UInt8} {ps ls : List Int} {r : Int} {is : List InsD} (h1 : Gets (after st (txtD bs)) l s1) (h2 : Gets (after s1 (listD bs (kindD bs) 6)) ps s2) (h3 : Gets (after s2 (kindD bs)) r s3) (h4 : Gets (after s3 (listD bs (kindD bs) 16)) ls s4) (h5 : Gets (after s4 (listD bs (insD bs) 256)) is s5) :
    Gets (after st (funD bs)) (FunD.mk (bytA l) ps r ls is) s5 := by
  have e : after st (funD bs) = bindD (after st (txtD bs)) fun l q => bindD (listD bs (kindD bs) 6 q) fun ps r => bindD (kindD bs r) fun t s => bindD (listD bs (kindD bs) 16 s) fun ls u => bindD (listD bs (insD bs) 256 u) fun is v => .ok (⟨bytA l, ps, t, ls, is⟩, v) := after_bind st _ _
  rw [e]
  refine h1.bind ?_
  rw [after_bind]
  refine h2.bind ?_
  rw [after_bind]
  refine h3.bind ?_
  rw [after_bind]
  refine h4.bind ?_
  rw [after_bind]
  exact h5.map fun is => FunD.mk (bytA l) ps r ls is
/-- a class that was read, its fields in a row of one's own -/
def InnC (w : World) (lo : Nat) (x : ClsD × Value) : Prop := w.ownsRow lo 66 2 x.2 x.1.fields.length (x.1.fields.flatMap fldC) ∧ x.1.fields.length ≤ 15
def InnU (w : World) (lo : Nat) (x : FunD × Value × Value × Value) : Prop := (w.ownsRow lo 3 1 x.2.1 x.1.params.length (x.1.params.flatMap intC) ∧ w.ownsRow lo 3 1 x.2.2.1 x.1.locals.length (x.1.locals.flatMap intC) ∧ w.ownsRow lo 41 3 x.2.2.2 x.1.code.length (x.1.code.flatMap insC)) ∧ x.1.params.length ≤ 6 ∧ x.1.locals.length ≤ 16 ∧ x.1.code.length ≤ 256
set_option maxRecDepth 100000 in
set_option maxHeartbeats 2000000 in
theorem rdclass_any (t : TypeId) (w : World) (B b : Nat) (bs : List UInt8) (st : St) (h : RdS t w B b bs st) :
    Calls Try.prog 15 #[.pointer (some ⟨b, 0, none⟩)] w (ReadsV (fun x : ClsD × Value => Value.agg #[.string x.1.name, x.2]) (fun x => x.1) InnC t B b bs (after st (clsD bs)) w) := by
  have hb0 := (Below.refl w.heap.size w).alloc (Nat.le_refl _) (.cells #[.string ⟨#[]⟩, .slice none 0 0] 52)
  have hbl := h.lt
  have N := Lib.hid (rdname_any t _ B b bs st (h.grew hb0))
  have k0 := Lib.hid (Blk.new w #[.string ⟨#[]⟩, .slice none 0 0] 52)
  have HB0 := Lib.hid hb0
  clear h hb0
  go_enter Try.func15, Try.ntmps15
  go_wp2_with fail
  refine N.out.mono ?_
  rintro e' w1 ⟨l, s1, rfl, hG1, _, hS1, hT1⟩
  have k1 := Lib.hid (k0.out.touch hT1 (by omega))
  have K := Lib.hid (list_fld t w1 B b bs s1 15 hS1 (by decide) (fun W s hs => rdfield_any t W B b bs s hs))
  have HG1 := Lib.hid hG1
  have HT1 := Lib.hid (Touch.trans (Touch.of HB0.out) hT1)
  clear hG1 hS1 hT1 N k0 HB0
  go_wp2_with fail
  refine K.out.mono ?_
  rintro e' w2 ⟨v, fs, s2, rfl, hG2, hf, hO, hS2, hT2⟩
  rw [map_id'] at hG2
  unfold OwnR at hO
  have k2 := k1.out.touch hT2 (by omega)
  have hw1 := k1.out.lt
  obtain ⟨va, vc, rfl⟩ := row_shape hO
  have y0 := k2.val 0 rfl
  have y1 := k2.val 1 rfl
  have f0 := k2.frozen 0
  have f1 := k2.frozen 1
  have hT3 := ((Touch.refl (fun y => y = w.heap.size) w2).setCell (p := ⟨w.heap.size, 0, none⟩) rfl (.string (bytA l))).setCell (p := ⟨w.heap.size, 1, none⟩) rfl (.slice va fs.length vc)
  have hO3 := own_sub (own_touch hO hT3 (fun g hg e => by have := (own_ltG hO hg).1; omega)) (show w.heap.size ≤ w1.heap.size by omega)
  have HZ := Lib.hid ((k2.set 0 (.string (bytA l))).set 1 (.slice va fs.length vc))
  have HE := Lib.hid (And.intro (gets_cls HG1.out hG2) (And.intro (And.intro hO3 hf) (new_kept hS2 hbl (HT1.out.trans hT2) (hT3.mono fun y _ e => by omega))))
  clear hG2 hS2 hT2 K k1 k2 HG1 HT1 hT3 hO hO3 hf
  go_wp2
  generalize World.setCell (World.setCell _ _ _) _ _ = W9 at *
  have z0 := HZ.out.val 0 rfl
  have z1 := HZ.out.val 1 rfl
  refine bodyPost_ret (v := .agg #[.string (bytA l), .slice va fs.length vc]) (by simp [results, Try.results15, go_sem, z0, z1]) rfl ⟨(⟨bytA l, fs⟩, .slice va fs.length vc), s2, rfl, HE.out.1, HE.out.2.1, HE.out.2.2⟩
set_option maxRecDepth 100000 in
set_option maxHeartbeats 4000000 in
theorem rdfun_any (t : TypeId) (w : World) (B b : Nat) (bs : List UInt8) (st : St) (h : RdS t w B b bs st) :
    Calls Try.prog 17 #[.pointer (some ⟨b, 0, none⟩)] w (ReadsV (fun x : FunD × Value × Value × Value => Value.agg #[.string x.1.name, x.2.1, .int .i64 x.1.result, x.2.2.1, x.2.2.2]) (fun x => x.1) InnU t B b bs (after st (funD bs)) w) := by
  have hb0 := (Below.refl w.heap.size w).alloc (Nat.le_refl _) (.cells #[.string ⟨#[]⟩, .slice none 0 0, .int .i64 0, .slice none 0 0, .slice none 0 0] 45)
  have hbl := h.lt
  have N := Lib.hid (rdname_any t _ B b bs st (h.grew hb0))
  have k0 := Lib.hid (Blk.new w #[.string ⟨#[]⟩, .slice none 0 0, .int .i64 0, .slice none 0 0, .slice none 0 0] 45)
  have HB0 := Lib.hid hb0
  clear h hb0
  go_enter Try.func17, Try.ntmps17
  go_wp2_with fail
  refine N.out.mono ?_
  rintro e' w1 ⟨l, s1, rfl, hG1, _, hS1, hT1⟩
  have k1 := Lib.hid (k0.out.touch hT1 (by omega))
  have hw1 := k1.out.lt
  have K := Lib.hid (list_int t w1 B b bs s1 6 hS1 (by decide) (fun W s hs => rdkind_any t W B b bs s hs))
  have HG1 := Lib.hid hG1
  have HT1 := Lib.hid (Touch.trans (Touch.of HB0.out) hT1)
  clear hG1 hS1 hT1 N k0 HB0
  go_wp2_with fail
  refine K.out.mono ?_
  rintro e' w2 ⟨v1, ps, s2, rfl, hG2, hl1, hO1, hS2, hT2⟩
  rw [map_id'] at hG2
  have hbl2 : b < w1.heap.size := by omega
  have k2 := Lib.hid (k1.out.touch hT2 (by omega))
  have HG2 := Lib.hid hG2
  have HT2 := Lib.hid (HT1.out.trans hT2)
  have HO1 := Lib.hid hO1
  have R := Lib.hid (rdkind_any t w2 B b bs s2 hS2)
  have hsz2 := hT2.size
  clear hG2 hS2 hT2 K k1 HT1 hO1
  go_wp2_with fail
  refine R.out.mono ?_
  rintro e' w3 ⟨rt, s3, rfl, hG3, _, hS3, hT3⟩
  have k3 := Lib.hid (k2.out.touch hT3 (by omega))
  have HG3 := Lib.hid hG3
  have HO1 := Lib.hid (HO1.out.touch hT3 hbl2)
  have HT3 := Lib.hid (HT2.out.trans hT3)
  have K := Lib.hid (list_int t w3 B b bs s3 16 hS3 (by decide) (fun W s hs => rdkind_any t W B b bs s hs))
  have hsz3 := hT3.size
  clear hG3 hS3 hT3 R k2 HT2
  go_wp2_with fail
  refine K.out.mono ?_
  rintro e' w4 ⟨v3, ls, s4, rfl, hG4, hl3, hO3, hS4, hT4⟩
  rw [map_id'] at hG4
  have k4 := Lib.hid (k3.out.touch hT4 (by omega))
  have HG4 := Lib.hid hG4
  have HO1 := Lib.hid (HO1.out.touch hT4 hbl2)
  have HO3 := Lib.hid hO3
  have HT4 := Lib.hid (HT3.out.trans hT4)
  have K := Lib.hid (list_ins t w4 B b bs s4 256 hS4 (by decide) (fun W s hs => rdins_any t W B b bs s hs))
  have hsz4 := hT4.size
  clear hG4 hS4 hT4 k3 HT3 hO3
  go_wp2_with fail
  refine K.out.mono ?_
  rintro e' w5 ⟨v4, is, s5, rfl, hG5, hl4, hO4, hS5, hT5⟩
  rw [map_id'] at hG5
  have k5 := k4.out.touch hT5 (by omega)
  have hO1 := HO1.out.touch hT5 hbl2
  have hO3 := HO3.out.touch hT5 (by omega)
  unfold OwnR at hO1 hO3 hO4
  obtain ⟨a1, c1, rfl⟩ := row_shape hO1
  obtain ⟨a3, c3, rfl⟩ := row_shape hO3
  obtain ⟨a4, c4, rfl⟩ := row_shape hO4
  have y0 := k5.val 0 rfl
  have y1 := k5.val 1 rfl
  have y2 := k5.val 2 rfl
  have y3 := k5.val 3 rfl
  have y4 := k5.val 4 rfl
  have f0 := k5.frozen 0
  have f1 := k5.frozen 1
  have f2 := k5.frozen 2
  have f3 := k5.frozen 3
  have f4 := k5.frozen 4
  have hT6 := (((((Touch.refl (fun y => y = w.heap.size) w5).setCell (p := ⟨w.heap.size, 0, none⟩) rfl (.string (bytA l))).setCell (p := ⟨w.heap.size, 1, none⟩) rfl (.slice a1 ps.length c1)).setCell (p := ⟨w.heap.size, 2, none⟩) rfl (.int .i64 rt)).setCell (p := ⟨w.heap.size, 3, none⟩) rfl (.slice a3 ls.length c3)).setCell (p := ⟨w.heap.size, 4, none⟩) rfl (.slice a4 is.length c4)
  have q1 := own_sub (own_touch hO1 hT6 (fun g hg e => by have := (own_ltG hO1 hg).1; omega)) (show w.heap.size ≤ w1.heap.size by omega)
  have q3 := own_sub (own_touch hO3 hT6 (fun g hg e => by have := (own_ltG hO3 hg).1; omega)) (show w.heap.size ≤ w3.heap.size by omega)
  have q4 := own_sub (own_touch hO4 hT6 (fun g hg e => by have := (own_ltG hO4 hg).1; omega)) (show w.heap.size ≤ w4.heap.size by omega)
  have HZ := Lib.hid (((((k5.set 0 (.string (bytA l))).set 1 (.slice a1 ps.length c1)).set 2 (.int .i64 rt)).set 3 (.slice a3 ls.length c3)).set 4 (.slice a4 is.length c4))
  have HE := Lib.hid (And.intro (gets_fun HG1.out HG2.out HG3.out HG4.out hG5) (And.intro (And.intro (And.intro q1 (And.intro q3 q4)) (And.intro hl1 (And.intro hl3 hl4))) (new_kept hS5 hbl (HT4.out.trans hT5) (hT6.mono fun y _ e => by omega))))
  clear hG5 hS5 hT5 K k4 k5 HG1 HG2 HG3 HG4 HT4 HO1 HO3 hT6 hO1 hO3 hO4 hl1 hl3 hl4 q1 q3 q4
  go_wp2
  generalize World.setCell (World.setCell (World.setCell (World.setCell (World.setCell _ _ _) _ _) _ _) _ _) _ _ = W9 at *
  have z0 := HZ.out.val 0 rfl
  have z1 := HZ.out.val 1 rfl
  have z2 := HZ.out.val 2 rfl
  have z3 := HZ.out.val 3 rfl
  have z4 := HZ.out.val 4 rfl
  refine bodyPost_ret (v := .agg #[.string (bytA l), .slice a1 ps.length c1, .int .i64 rt, .slice a3 ls.length c3, .slice a4 is.length c4]) (by simp [results, Try.results17, go_sem, z0, z1, z2, z3, z4]) rfl ⟨(⟨bytA l, ps, rt, ls, is⟩, .slice a1 ps.length c1, .slice a3 ls.length c3, .slice a4 is.length c4), s5, rfl, HE.out.1, HE.out.2.1, HE.out.2.2⟩
end Go.Proofs.Ytffelcidckbohaa
/- code's reader: list, at classes. Condition: what a call of the closure does is given. -/
namespace Go.Proofs.Ytffelcidckbohaa
open Go.RowKit
set_option linter.unusedVariables false
def COwnP (w : World) (lo : Nat) (v : Value) (l : List (ClsD × Value)) : Prop := COwn w lo v l ∧ ∀ x ∈ l, x.1.fields.length ≤ 15
section
variable {w w' : World} {lo b : Nat} {v v' : Value} {l : List (ClsD × Value)} {x : ClsD × Value}
theorem COwnP.nil (w : World) (lo : Nat) : COwnP w lo (.slice none 0 0) [] := ⟨COwn.nil w lo, fun x hx => by cases hx⟩
theorem COwnP.touch (h : COwnP w lo v l) (hT : RdT b w w') (hb : b < lo) : COwnP w' lo v l := ⟨h.1.touch hT (fun g h1 _ e => by omega), h.2⟩
theorem COwnP.apart (h : COwnP w lo v l) (hx : InnC w' w.heap.size x) : ∀ g, x.2.ownBlock = some g → v.ownBlock ≠ some g := fun g hg e => by
  have h1 := (own_ltG hx.1 hg).1
  have h2 := (own_ltG h.1.row e).2
  omega
theorem InnC.sub {lo' : Nat} (h : InnC w lo x) (hl : lo' ≤ lo) : InnC w lo' x := ⟨own_sub h.1 hl, h.2⟩
theorem InnC.one (h : InnC w lo x) : ∀ u ∈ clsC x, u.oneCell' = true := by
  obtain ⟨a, c, e⟩ := row_shape h.1
  intro u hu
  simp [clsC] at hu
  rcases hu with rfl | rfl
  · rfl
  · rw [e]; rfl
theorem COwnP.app {o : Obj} (h : COwnP w lo v l) (hx : InnC w lo x) (hap : ∀ g, x.2.ownBlock = some g → v.ownBlock ≠ some g) (hg : (w.alloc o).grownBy w' v.ownBlock)
    (hown : w'.ownsRow lo 52 2 v' (l.length + 1) (l.flatMap clsC ++ clsC x)) (hat : v'.ownBlock = v.ownBlock ∨ v'.ownBlock = some (w.alloc o).heap.size) : COwnP w' lo v' (l ++ [x]) := by
  obtain ⟨q, cap, rfl, _⟩ := own_cellG hown (by omega)
  have hb := (Below.refl w.heap.size w).alloc (Nat.le_refl _) o
  refine ⟨COwn.app (h.1.grew hb) (own_grewG hx.1 hb) hap hg hown rfl ?_, fun y hy => ?_⟩
  · rcases hat with h1 | h1
    · exact .inl h1.symm
    · exact .inr (Option.some.inj h1)
  · rcases List.mem_append.1 hy with h1 | h1
    · exact h.2 y h1
    · obtain rfl : y = x := by simpa using h1
      exact hx.2
end
set_option maxRecDepth 100000 in
set_option maxHeartbeats 2000000 in
theorem list_cls (t : TypeId) (w : World) (B b : Nat) (bs : List UInt8) (st : St) (most : Nat) (h : RdS t w B b bs st) (hm : most ≤ 1000)
    (ST : Hid (∀ (W : World) (s : St), RdS t W B b bs s → Calls Try.prog 15 #[.pointer (some ⟨b, 0, none⟩)] W (ReadsV (fun x : ClsD × Value => Value.agg #[.string x.1.name, x.2]) (fun x => x.1) InnC t B b bs (after s (clsD bs)) W))) :
    Calls Try.prog 14 #[.pointer (some ⟨b, 0, none⟩), .int .i64 most, .func (.func 15) #[.pointer (some ⟨b, 0, none⟩)] #[]] w (ReadsL COwnP (fun x => x.1) most t B b bs (after st (listD bs (clsD bs) most)) w) := by
  obtain ⟨i0, hi, hz0, hz1, hz2⟩ := info_parts info_cls
  have Z := Lib.hid (And.intro hi (And.intro hz0 (And.intro hz1 hz2)))
  have hbl := h.lt
  have NU := Lib.hid (numr_any t w B b bs st most h (by omega))
  clear h hi hz0 hz1 hz2
  go_enter Try.func14, Try.ntmps14
  go_wp2_with fail
  refine NU.out.mono ?_
  rintro e' w1 ⟨n, st1, rfl, hG, h0, hS, hT⟩
  have hn := num_le hG h0
  have HG := Lib.hid hG
  have HS := Lib.hid hS
  have HT := Lib.hid hT
  clear hG h0 hS hT NU
  go_wp2_with fail
  go_loopw [7, 9] (fun v x wr => ∃ (i : Nat) (ls : List (ClsD × Value)) (s : St), x = .int .i64 i ∧ i ≤ n ∧ Hid (ls.length = i) ∧ COwnP wr w.heap.size v ls ∧ Gets (after st1 (seqD (clsD bs) i)) (ls.map fun x => x.1) s ∧ RdS t wr B b bs s ∧ RdT b w wr) (fun _ x _ => n - (intOf x).toNat)
  case atStart => exact ⟨0, [], st1, rfl, Nat.zero_le _, rfl, COwnP.nil _ _, gets_none _ _, HS.out, HT.out⟩
  case round =>
    obtain ⟨i, ls, s, rfl, hin, hil, hO, hGi, hSi, hTi⟩ := hrel
    obtain ⟨va, vc, rfl⟩ := row_shape hO.1.row
    have HGi := Lib.hid hGi
    have HTi := Lib.hid hTi
    have hsz := hTi.size
    clear hGi hTi
    by_cases hlt : i < n
    · have hlt' : (i : Int) < (n : Int) := by omega
      cases s with
      | error x =>
        obtain ⟨c2, _, c2', _⟩ := hSi.errC
        have HSi := Lib.hid hSi
        clear hSi
        go_wp2
        go_ret
        exact ⟨_, ls, .error x, rfl, gets_list HG.out (gets_late HGi.out hin), by have := hil.out; omega, hO, HSi.out, HTi.out⟩
      | ok p =>
        obtain ⟨c2, _⟩ := hSi.okC
        have NX := Lib.hid (ST.out wr _ hSi)
        clear hSi
        go_wp2_with fail
        refine NX.out.mono ?_
        rintro e' w2 ⟨a, s', rfl, hG2, hI2, hS2, hT2⟩
        have hap := hO.apart hI2
        have hI2 := hI2.sub hsz
        have hO2 := hO.touch hT2 hbl
        have hR2 := hO2.1.row
        have HO2 := Lib.hid (And.intro hO2 (And.intro hI2 hap))
        clear hO2 hI2 hap
        have HG2 := Lib.hid hG2
        have HS2 := Lib.hid hS2
        have HT2 := Lib.hid (HTi.out.trans hT2)
        have hsz2 := hT2.size
        clear hG2 hS2 hT2 NX c2 hO
        go_wp2_with (at_builtin; refine wpList_append_own_at _ rfl _ _ 24 rfl w.heap.size 52 i0 _ 2 40 Try.underlying24 Z.out.1 Z.out.2.1 Z.out.2.2.1 Z.out.2.2.2 rfl (by decide) _ ls.length (ls.flatMap clsC) rfl (own_grewG hR2 ((Below.refl _ _).alloc (Nat.le_refl _) _)) ⟨w2.heap.size, 0, none⟩ 1 1 (clsC a) rfl rfl (World.news_of_block (Blk.new _ _ _)) HO2.out.2.1.one (by have := hil.out; unfold maxLen; omega) (by have := hil.out; omega) (by simp; omega) ?_; intro v' w3 hown' hgrow _ hat; obtain ⟨ga, gc, rfl⟩ := row_shape hown'; have HA := Lib.hid (list_kept HS2.out hbl hR2 hgrow HT2.out); have HOA := Lib.hid (COwnP.app HO2.out.1 HO2.out.2.1 HO2.out.2.2 hgrow hown' hat); clear hgrow hat hown')
        go_roundw
        case rel => exact ⟨i + 1, ls ++ [a], s', by go_num, by omega, by unfold Hid; rw [List.length_append, hil.out]; rfl, HOA.out, by rw [List.map_append]; exact gets_one HGi.out HG2.out, HA.out.1, HA.out.2⟩
        case measure => simp [intOf]; omega
    · have hlt' : ¬ (i : Int) < (n : Int) := by omega
      obtain rfl : i = n := by omega
      have HSi := Lib.hid hSi
      clear hSi
      go_wp2
      go_ret
      exact ⟨_, ls, s, rfl, gets_list HG.out HGi.out, by have := hil.out; omega, hO, HSi.out, HTi.out⟩
end Go.Proofs.Ytffelcidckbohaa
/- code's reader: list, at functions. Condition: what a call of the closure does is given. -/
namespace Go.Proofs.Ytffelcidckbohaa
open Go.RowKit
set_option linter.unusedVariables false
def UOwnP (w : World) (lo : Nat) (v : Value) (l : List (FunD × Value × Value × Value)) : Prop := UOwn w lo v l ∧ ∀ x ∈ l, x.1.params.length ≤ 6 ∧ x.1.locals.length ≤ 16 ∧ x.1.code.length ≤ 256
section
variable {w w' : World} {lo b : Nat} {v v' : Value} {l : List (FunD × Value × Value × Value)} {x : FunD × Value × Value × Value}
theorem UOwnP.nil (w : World) (lo : Nat) : UOwnP w lo (.slice none 0 0) [] := ⟨UOwn.nil w lo, fun x hx => by cases hx⟩
theorem UOwnP.touch (h : UOwnP w lo v l) (hT : RdT b w w') (hb : b < lo) : UOwnP w' lo v l := ⟨h.1.touch hT (fun g h1 _ e => by omega), h.2⟩
def ApU (x : FunD × Value × Value × Value) (v : Value) : Prop := (∀ g, x.2.1.ownBlock = some g → v.ownBlock ≠ some g) ∧ (∀ g, x.2.2.1.ownBlock = some g → v.ownBlock ≠ some g) ∧ ∀ g, x.2.2.2.ownBlock = some g → v.ownBlock ≠ some g
theorem UOwnP.apart (h : UOwnP w lo v l) (hx : InnU w' w.heap.size x) : ApU x v :=
  ⟨fun g hg e => by have h1 := (own_ltG hx.1.1 hg).1; have h2 := (own_ltG h.1.row e).2; omega,
   fun g hg e => by have h1 := (own_ltG hx.1.2.1 hg).1; have h2 := (own_ltG h.1.row e).2; omega,
   fun g hg e => by have h1 := (own_ltG hx.1.2.2 hg).1; have h2 := (own_ltG h.1.row e).2; omega⟩
theorem InnU.sub {lo' : Nat} (h : InnU w lo x) (hl : lo' ≤ lo) : InnU w lo' x := ⟨⟨own_sub h.1.1 hl, own_sub h.1.2.1 hl, own_sub h.1.2.2 hl⟩, h.2⟩
theorem InnU.one (h : InnU w lo x) : ∀ u ∈ funC x, u.oneCell' = true := by
  obtain ⟨a1, c1, e1⟩ := row_shape h.1.1
  obtain ⟨a3, c3, e3⟩ := row_shape h.1.2.1
  obtain ⟨a4, c4, e4⟩ := row_shape h.1.2.2
  intro u hu
  simp [funC] at hu
  rcases hu with rfl | rfl | rfl | rfl | rfl
  · rfl
  · rw [e1]; rfl
  · rfl
  · rw [e3]; rfl
  · rw [e4]; rfl
theorem UOwn.grewD (h : UOwn w lo v l) (hb : Below w.heap.size w w') : UOwn w' lo v l := h.touch (R := fun _ => False) (Touch.of hb) (fun _ _ _ e => e)
theorem UOwnP.app {o : Obj} (h : UOwnP w lo v l) (hx : InnU w lo x) (hap : ApU x v) (hg : (w.alloc o).grownBy w' v.ownBlock)
    (hown : w'.ownsRow lo 45 5 v' (l.length + 1) (l.flatMap funC ++ funC x)) (hat : v'.ownBlock = v.ownBlock ∨ v'.ownBlock = some (w.alloc o).heap.size) : UOwnP w' lo v' (l ++ [x]) := by
  obtain ⟨q, cap, rfl, _⟩ := own_cellG hown (by omega)
  have hb := (Below.refl w.heap.size w).alloc (Nat.le_refl _) o
  refine ⟨UOwn.app (h.1.grewD hb) (own_grewG hx.1.1 hb) (own_grewG hx.1.2.1 hb) (own_grewG hx.1.2.2 hb) hap.1 hap.2.1 hap.2.2 hg hown rfl ?_, fun y hy => ?_⟩
  · rcases hat with h1 | h1
    · exact .inl h1.symm
    · exact .inr (Option.some.inj h1)
  · rcases List.mem_append.1 hy with h1 | h1
    · exact h.2 y h1
    · obtain rfl : y = x := by simpa using h1
      exact hx.2
end
set_option maxRecDepth 100000 in
set_option maxHeartbeats 2000000 in
theorem list_fun (t : TypeId) (w : World) (B b : Nat) (bs : List UInt8) (st : St) (most : Nat) (h : RdS t w B b bs st) (hm : most ≤ 1000)
    (ST : Hid (∀ (W : World) (s : St), RdS t W B b bs s → Calls Try.prog 17 #[.pointer (some ⟨b, 0, none⟩)] W (ReadsV (fun x : FunD × Value × Value × Value => Value.agg #[.string x.1.name, x.2.1, .int .i64 x.1.result, x.2.2.1, x.2.2.2]) (fun x => x.1) InnU t B b bs (after s (funD bs)) W))) :
    Calls Try.prog 16 #[.pointer (some ⟨b, 0, none⟩), .int .i64 most, .func (.func 17) #[.pointer (some ⟨b, 0, none⟩)] #[]] w (ReadsL UOwnP (fun x => x.1) most t B b bs (after st (listD bs (funD bs) most)) w) := by
  obtain ⟨i0, hi, hz0, hz1, hz2⟩ := info_parts info_fun
  have Z := Lib.hid (And.intro hi (And.intro hz0 (And.intro hz1 hz2)))
  have hbl := h.lt
  have NU := Lib.hid (numr_any t w B b bs st most h (by omega))
  clear h hi hz0 hz1 hz2
  go_enter Try.func16, Try.ntmps16
  go_wp2_with fail
  refine NU.out.mono ?_
  rintro e' w1 ⟨n, st1, rfl, hG, h0, hS, hT⟩
  have hn := num_le hG h0
  have HG := Lib.hid hG
  have HS := Lib.hid hS
  have HT := Lib.hid hT
  clear hG h0 hS hT NU
  go_wp2_with fail
  go_loopw [7, 9] (fun v x wr => ∃ (i : Nat) (ls : List (FunD × Value × Value × Value)) (s : St), x = .int .i64 i ∧ i ≤ n ∧ Hid (ls.length = i) ∧ UOwnP wr w.heap.size v ls ∧ Gets (after st1 (seqD (funD bs) i)) (ls.map fun x => x.1) s ∧ RdS t wr B b bs s ∧ RdT b w wr) (fun _ x _ => n - (intOf x).toNat)
  case atStart => exact ⟨0, [], st1, rfl, Nat.zero_le _, rfl, UOwnP.nil _ _, gets_none _ _, HS.out, HT.out⟩
  case round =>
    obtain ⟨i, ls, s, rfl, hin, hil, hO, hGi, hSi, hTi⟩ := hrel
    obtain ⟨va, vc, rfl⟩ := row_shape hO.1.row
    have HGi := Lib.hid hGi
    have HTi := Lib.hid hTi
    have hsz := hTi.size
    clear hGi hTi
    by_cases hlt : i < n
    · have hlt' : (i : Int) < (n : Int) := by omega
      cases s with
      | error x =>
        obtain ⟨c2, _, c2', _⟩ := hSi.errC
        have HSi := Lib.hid hSi
        clear hSi
        go_wp2
        go_ret
        exact ⟨_, ls, .error x, rfl, gets_list HG.out (gets_late HGi.out hin), by have := hil.out; omega, hO, HSi.out, HTi.out⟩
      | ok p =>
        obtain ⟨c2, _⟩ := hSi.okC
        have NX := Lib.hid (ST.out wr _ hSi)
        clear hSi
        go_wp2_with fail
        refine NX.out.mono ?_
        rintro e' w2 ⟨a, s', rfl, hG2, hI2, hS2, hT2⟩
        have hap := hO.apart hI2
        have hI2 := hI2.sub hsz
        have hO2 := hO.touch hT2 hbl
        have hR2 := hO2.1.row
        have HO2 := Lib.hid (And.intro hO2 (And.intro hI2 hap))
        clear hO2 hI2 hap
        have HG2 := Lib.hid hG2
        have HS2 := Lib.hid hS2
        have HT2 := Lib.hid (HTi.out.trans hT2)
        have hsz2 := hT2.size
        clear hG2 hS2 hT2 NX c2 hO
        go_wp2_with (at_builtin; refine wpList_append_own_at _ rfl _ _ 25 rfl w.heap.size 45 i0 _ 5 96 Try.underlying25 Z.out.1 Z.out.2.1 Z.out.2.2.1 Z.out.2.2.2 rfl (by decide) _ ls.length (ls.flatMap funC) rfl (own_grewG hR2 ((Below.refl _ _).alloc (Nat.le_refl _) _)) ⟨w2.heap.size, 0, none⟩ 1 1 (funC a) rfl rfl (World.news_of_block (Blk.new _ _ _)) HO2.out.2.1.one (by have := hil.out; unfold maxLen; omega) (by have := hil.out; omega) (by simp; omega) ?_; intro v' w3 hown' hgrow _ hat; obtain ⟨ga, gc, rfl⟩ := row_shape hown'; have HA := Lib.hid (list_kept HS2.out hbl hR2 hgrow HT2.out); have HOA := Lib.hid (UOwnP.app HO2.out.1 HO2.out.2.1 HO2.out.2.2 hgrow hown' hat); clear hgrow hat hown')
        go_roundw
        case rel => exact ⟨i + 1, ls ++ [a], s', by go_num, by omega, by unfold Hid; rw [List.length_append, hil.out]; rfl, HOA.out, by rw [List.map_append]; exact gets_one HGi.out HG2.out, HA.out.1, HA.out.2⟩
        case measure => simp [intOf]; omega
    · have hlt' : ¬ (i : Int) < (n : Int) := by omega
      obtain rfl : i = n := by omega
      have HSi := Lib.hid hSi
      clear hSi
      go_wp2
      go_ret
      exact ⟨_, ls, s, rfl, gets_list HG.out HGi.out, by have := hil.out; omega, hO, HSi.out, HTi.out⟩
end Go.Proofs.Ytffelcidckbohaa
/- code's reader: the magic; Decode, whole. Condition: the bytes are there. -/
namespace Go.Proofs.Ytffelcidckbohaa
open Go.RowKit
set_option linter.unusedVariables false
theorem gets_mag_bad {bs : List UInt8} {s s1 : St} {x : UInt8} {i : Nat} (hi : i < 4) (h : Gets (magD bs i) () s) (hG : Gets (after s (nextD bs)) x s1) (h0 : ∀ y, s1 = .error y → x = 0) (hx : x ≠ magB.getD i 0) : Gets (magD bs (i + 1)) () (failS s1 (12, (i : Int))) := by
  rw [magD]
  rcases h with ⟨p, h1, rfl⟩ | ⟨y, h1, rfl⟩
  · rw [h1, bindD_ok]
    rw [after_ok] at hG
    rcases hG with ⟨q, h2, rfl⟩ | ⟨y, h2, rfl⟩
    · rw [h2, bindD_ok, if_neg hx]
      exact .inr ⟨_, rfl, rfl⟩
    · rw [h2]
      exact .inr ⟨_, rfl, rfl⟩
  · rw [h1]
    rw [after_err] at hG
    have := hG
    rcases hG with ⟨q, h2, _⟩ | ⟨z, h2, rfl⟩
    · cases h2
    · injection h2 with h2
      subst h2
      exact .inr ⟨_, rfl, rfl⟩
theorem gets_mag_ok {bs : List UInt8} {s s1 : St} {x : UInt8} {i : Nat} (hi : i < 4) (h : Gets (magD bs i) () s) (hG : Gets (after s (nextD bs)) x s1) (h0 : ∀ y, s1 = .error y → x = 0) (hx : x = magB.getD i 0) : Gets (magD bs (i + 1)) () s1 := by
  have hne : x ≠ 0 := by
    rw [hx]
    match i, hi with
    | 0, _ => decide
    | 1, _ => decide
    | 2, _ => decide
    | 3, _ => decide
  rw [magD]
  rcases h with ⟨p, h1, rfl⟩ | ⟨y, h1, rfl⟩
  · rw [h1, bindD_ok]
    rw [after_ok] at hG
    rcases hG with ⟨q, h2, rfl⟩ | ⟨y, h2, rfl⟩
    · rw [h2, bindD_ok, if_pos hx]
      exact .inl ⟨q, rfl, rfl⟩
    · exact absurd (h0 _ rfl) hne
  · rw [after_err] at hG
    rcases hG with ⟨q, h2, _⟩ | ⟨z, h2, rfl⟩
    · cases h2
    · exact absurd (h0 _ rfl) hne
/-- what the loop's test asks, and how it goes on -/
theorem mag_byte (x : UInt8) (k : Nat) (c : UInt8) (hc : c.toNat = k) : ((x.toNat : Int) != (k : Int)) = decide (x ≠ c) := by
  by_cases h : x = c
  · subst h; simp [hc]
  · have : x.toNat ≠ k := fun e => h (by rw [← UInt8.toNat_inj, e, hc])
    rw [decide_eq_true h]
    simp; omega
set_option maxRecDepth 100000 in
set_option maxHeartbeats 4000000 in
theorem rdmagic_any (t : TypeId) (w : World) (B b : Nat) (bs : List UInt8) (h : RdS t w B b bs (.ok 0)) :
    Calls Try.prog 13 #[.pointer (some ⟨b, 0, none⟩)] w fun e' w' => (∃ u, e' = .returned u) ∧ ∃ s, Gets (magD bs 4) () s ∧ RdS t w' B b bs s ∧ RdT b w w' := by
  have HS := Lib.hid h
  clear h
  go_enter Try.func13, Try.ntmps13
  go_wp2
  go_loopw [3] (fun x wr => ∃ (i : Nat) (s : St), x = .int .i64 i ∧ i ≤ 4 ∧ Gets (magD bs i) () s ∧ RdS t wr B b bs s ∧ RdT b w wr) (fun x _ => 4 - (intOf x).toNat)
  case atStart => exact ⟨0, .ok 0, rfl, by omega, .inl ⟨0, rfl, rfl⟩, HS.out, Touch.refl _ _⟩
  case round =>
    obtain ⟨i, s, rfl, hi, hG, hS, hT⟩ := hrel
    have HG := Lib.hid hG
    have HT := Lib.hid hT
    clear hG hT
    by_cases hlt : i < 4
    · have hS1 := hS.quiet (w' := wr.drew) ⟨1, rfl⟩
      have N := Lib.hid (next_any t wr.drew B b bs s hS1)
      have HD : Hid (RdT b wr wr.drew) := RdT.quiet ⟨1, rfl⟩
      clear hS hS1
      have HX : ∀ (x : UInt8) (s1 : St) (w2 : World), x ≠ magB.getD i 0 → Gets (after s (nextD bs)) x s1 → (∀ y, s1 = .error y → x = 0) → RdS t w2 B b bs s1 → RdT b wr.drew w2 → Calls Try.prog 18 #[.pointer (some ⟨b, 0, none⟩), .int .i64 i, .int .i64 12] w2 fun e' w' => (∃ u, e' = .returned u) ∧ ∃ s', Gets (magD bs (i + 1)) () s' ∧ RdS t w' B b bs s' ∧ RdT b w w' := fun x s1 w2 hx hG1 h0 hS2 hT2 =>
        (hS2.failed (i : Int) 12 (by decide)).mono fun e' w' ⟨hu, hS3, hT3⟩ => ⟨hu, _, gets_mag_bad hlt HG.out hG1 h0 hx, hS3, (HT.out.trans HD.out).trans (hT2.trans hT3)⟩
      have HX := Lib.hid HX
      have HY : Hid (∀ (x : UInt8) (s1 : St) (w2 : World), x = magB.getD i 0 → Gets (after s (nextD bs)) x s1 → (∀ y, s1 = .error y → x = 0) → RdS t w2 B b bs s1 → RdT b wr.drew w2 → Gets (magD bs (i + 1)) () s1 ∧ RdS t w2 B b bs s1 ∧ RdT b w w2) := fun x s1 w2 hx hG1 h0 hS2 hT2 =>
        ⟨gets_mag_ok hlt HG.out hG1 h0 hx, hS2, (HT.out.trans HD.out).trans hT2⟩
      clear HG HT HD
      generalize hq : i = q at *
      by_cases h0 : q = 0
      · obtain rfl : q = 0 := by omega
        go_wp2_with fail
        refine wp_region_held_drew (S := (fun _ => True)) (by kernel_rfl) trivial (fun hHeld => ?_)
        refine wpAnyH_take (i := 0) (oi := _) (v := ?_) (op_atC rfl) (by kernel_rfl) (by kernel_rfl) (by kernel_rfl) (fun _ _ _ h => h) (Or.inl ⟨by rfl, ?_⟩) hHeld ?_
        rotate_left 1
        focus (intro W hSw; (try dsimp only at hSw); go_simp; (try (with_reducible rfl)))
        (try simp only [Act.put, List.setIfInBounds_toArray, List.set_cons_zero, List.set_cons_succ])
        refine wpAnyH_take (i := 2) (oi := _) (v := ?_) (op_atC rfl) (by kernel_rfl) (by kernel_rfl) (by kernel_rfl) (fun _ _ _ h => h) (Or.inl ⟨by rfl, ?_⟩) hHeld ?_
        rotate_left 1
        focus (intro W hSw; (try dsimp only at hSw); go_simp; (try (with_reducible rfl)))
        (try simp only [Act.put, List.setIfInBounds_toArray, List.set_cons_zero, List.set_cons_succ])
        refine wpAnyH_take (i := 3) (oi := _) (v := ?_) (op_atC rfl) (by kernel_rfl) (by kernel_rfl) (by kernel_rfl) (fun _ _ _ h => h) (Or.inl ⟨by rfl, ?_⟩) hHeld ?_
        rotate_left 1
        focus (intro W hSw; (try dsimp only at hSw); go_simp; (try (with_reducible rfl)))
        (try simp only [Act.put, List.setIfInBounds_toArray, List.set_cons_zero, List.set_cons_succ])
        refine wpAnyH_ready (rs := [1]) (by kernel_rfl) (by simp) ?_
        refine AllReadyH.cons (o := _) (op_atC rfl) (fun Kc hKc => ?_) AllReadyH.nil
        go_simp
        go_at_call 37
        (with_reducible refine (N.out).mono ?_)
        rintro e' w2 ⟨x, s1, rfl, hG1, h0, hS2, hT2⟩
        go_wp2_with fail
        refine hKc.out _ _ trivial (fun hHeld => ?_)
        clear hKc Kc
        (try simp only [Act.put, List.setIfInBounds_toArray, List.set_cons_zero, List.set_cons_succ])
        refine wpAnyH_take (i := 4) (oi := _) (v := ?_) (op_atC rfl) (by kernel_rfl) (by kernel_rfl) (by kernel_rfl) (fun _ _ _ h => h) (Or.inl ⟨by rfl, ?_⟩) hHeld ?_
        rotate_left 1
        focus (intro W hSw; (try dsimp only at hSw); go_simp; (try (with_reducible rfl)))
        (try simp only [Act.put, List.setIfInBounds_toArray, List.set_cons_zero, List.set_cons_succ])
        refine wpAnyH_done (by kernel_rfl) ?_ _
        have HM : ((x.toNat : Int) != ((({ data := #[87, 68, 82, 49] } : ByteArray)[0]'(by decide)).toNat : Int)) = decide (x ≠ 87) := mag_byte x 87 87 rfl
        by_cases hx : x = 87
        · have HA := Lib.hid (HY.out x s1 w2 hx hG1 h0 hS2 hT2)
          replace HM := HM.trans (decide_eq_false (fun h => h hx))
          clear hG1 h0 hS2 hT2 hx
          go_wp2
          go_roundw
          case rel => exact ⟨1, s1, rfl, by omega, HA.out⟩
          case measure => simp [intOf]
        · have HA := Lib.hid (HX.out x s1 w2 hx hG1 h0 hS2 hT2)
          replace HM := HM.trans (decide_eq_true hx)
          clear hG1 h0 hS2 hT2 hx
          go_wp2_with fail
          refine HA.out.mono ?_
          rintro e' w3 ⟨⟨u, rfl⟩, s3, hR⟩
          have HR := Lib.hid hR
          clear hR
          go_wp2
          go_roundw
          case rel => exact ⟨1, s3, rfl, by omega, HR.out⟩
          case measure => simp [intOf]
      by_cases h1 : q = 1
      · obtain rfl : q = 1 := by omega
        go_wp2_with fail
        refine wp_region_held_drew (S := (fun _ => True)) (by kernel_rfl) trivial (fun hHeld => ?_)
        refine wpAnyH_take (i := 0) (oi := _) (v := ?_) (op_atC rfl) (by kernel_rfl) (by kernel_rfl) (by kernel_rfl) (fun _ _ _ h => h) (Or.inl ⟨by rfl, ?_⟩) hHeld ?_
        rotate_left 1
        focus (intro W hSw; (try dsimp only at hSw); go_simp; (try (with_reducible rfl)))
        (try simp only [Act.put, List.setIfInBounds_toArray, List.set_cons_zero, List.set_cons_succ])
        refine wpAnyH_take (i := 2) (oi := _) (v := ?_) (op_atC rfl) (by kernel_rfl) (by kernel_rfl) (by kernel_rfl) (fun _ _ _ h => h) (Or.inl ⟨by rfl, ?_⟩) hHeld ?_
        rotate_left 1
        focus (intro W hSw; (try dsimp only at hSw); go_simp; (try (with_reducible rfl)))
        (try simp only [Act.put, List.setIfInBounds_toArray, List.set_cons_zero, List.set_cons_succ])
        refine wpAnyH_take (i := 3) (oi := _) (v := ?_) (op_atC rfl) (by kernel_rfl) (by kernel_rfl) (by kernel_rfl) (fun _ _ _ h => h) (Or.inl ⟨by rfl, ?_⟩) hHeld ?_
        rotate_left 1
        focus (intro W hSw; (try dsimp only at hSw); go_simp; (try (with_reducible rfl)))
        (try simp only [Act.put, List.setIfInBounds_toArray, List.set_cons_zero, List.set_cons_succ])
        refine wpAnyH_ready (rs := [1]) (by kernel_rfl) (by simp) ?_
        refine AllReadyH.cons (o := _) (op_atC rfl) (fun Kc hKc => ?_) AllReadyH.nil
        go_simp
        go_at_call 37
        (with_reducible refine (N.out).mono ?_)
        rintro e' w2 ⟨x, s1, rfl, hG1, h0, hS2, hT2⟩
        go_wp2_with fail
        refine hKc.out _ _ trivial (fun hHeld => ?_)
        clear hKc Kc
        (try simp only [Act.put, List.setIfInBounds_toArray, List.set_cons_zero, List.set_cons_succ])
        refine wpAnyH_take (i := 4) (oi := _) (v := ?_) (op_atC rfl) (by kernel_rfl) (by kernel_rfl) (by kernel_rfl) (fun _ _ _ h => h) (Or.inl ⟨by rfl, ?_⟩) hHeld ?_
        rotate_left 1
        focus (intro W hSw; (try dsimp only at hSw); go_simp; (try (with_reducible rfl)))
        (try simp only [Act.put, List.setIfInBounds_toArray, List.set_cons_zero, List.set_cons_succ])
        refine wpAnyH_done (by kernel_rfl) ?_ _
        have HM : ((x.toNat : Int) != ((({ data := #[87, 68, 82, 49] } : ByteArray)[1]'(by decide)).toNat : Int)) = decide (x ≠ 68) := mag_byte x 68 68 rfl
        by_cases hx : x = 68
        · have HA := Lib.hid (HY.out x s1 w2 hx hG1 h0 hS2 hT2)
          replace HM := HM.trans (decide_eq_false (fun h => h hx))
          clear hG1 h0 hS2 hT2 hx
          go_wp2
          go_roundw
          case rel => exact ⟨2, s1, rfl, by omega, HA.out⟩
          case measure => simp [intOf]
        · have HA := Lib.hid (HX.out x s1 w2 hx hG1 h0 hS2 hT2)
          replace HM := HM.trans (decide_eq_true hx)
          clear hG1 h0 hS2 hT2 hx
          go_wp2_with fail
          refine HA.out.mono ?_
          rintro e' w3 ⟨⟨u, rfl⟩, s3, hR⟩
          have HR := Lib.hid hR
          clear hR
          go_wp2
          go_roundw
          case rel => exact ⟨2, s3, rfl, by omega, HR.out⟩
          case measure => simp [intOf]
      by_cases h2 : q = 2
      · obtain rfl : q = 2 := by omega
        go_wp2_with fail
        refine wp_region_held_drew (S := (fun _ => True)) (by kernel_rfl) trivial (fun hHeld => ?_)
        refine wpAnyH_take (i := 0) (oi := _) (v := ?_) (op_atC rfl) (by kernel_rfl) (by kernel_rfl) (by kernel_rfl) (fun _ _ _ h => h) (Or.inl ⟨by rfl, ?_⟩) hHeld ?_
        rotate_left 1
        focus (intro W hSw; (try dsimp only at hSw); go_simp; (try (with_reducible rfl)))
        (try simp only [Act.put, List.setIfInBounds_toArray, List.set_cons_zero, List.set_cons_succ])
        refine wpAnyH_take (i := 2) (oi := _) (v := ?_) (op_atC rfl) (by kernel_rfl) (by kernel_rfl) (by kernel_rfl) (fun _ _ _ h => h) (Or.inl ⟨by rfl, ?_⟩) hHeld ?_
        rotate_left 1
        focus (intro W hSw; (try dsimp only at hSw); go_simp; (try (with_reducible rfl)))
        (try simp only [Act.put, List.setIfInBounds_toArray, List.set_cons_zero, List.set_cons_succ])
        refine wpAnyH_take (i := 3) (oi := _) (v := ?_) (op_atC rfl) (by kernel_rfl) (by kernel_rfl) (by kernel_rfl) (fun _ _ _ h => h) (Or.inl ⟨by rfl, ?_⟩) hHeld ?_
        rotate_left 1
        focus (intro W hSw; (try dsimp only at hSw); go_simp; (try (with_reducible rfl)))
        (try simp only [Act.put, List.setIfInBounds_toArray, List.set_cons_zero, List.set_cons_succ])
        refine wpAnyH_ready (rs := [1]) (by kernel_rfl) (by simp) ?_
        refine AllReadyH.cons (o := _) (op_atC rfl) (fun Kc hKc => ?_) AllReadyH.nil
        go_simp
        go_at_call 37
        (with_reducible refine (N.out).mono ?_)
        rintro e' w2 ⟨x, s1, rfl, hG1, h0, hS2, hT2⟩
        go_wp2_with fail
        refine hKc.out _ _ trivial (fun hHeld => ?_)
        clear hKc Kc
        (try simp only [Act.put, List.setIfInBounds_toArray, List.set_cons_zero, List.set_cons_succ])
        refine wpAnyH_take (i := 4) (oi := _) (v := ?_) (op_atC rfl) (by kernel_rfl) (by kernel_rfl) (by kernel_rfl) (fun _ _ _ h => h) (Or.inl ⟨by rfl, ?_⟩) hHeld ?_
        rotate_left 1
        focus (intro W hSw; (try dsimp only at hSw); go_simp; (try (with_reducible rfl)))
        (try simp only [Act.put, List.setIfInBounds_toArray, List.set_cons_zero, List.set_cons_succ])
        refine wpAnyH_done (by kernel_rfl) ?_ _
        have HM : ((x.toNat : Int) != ((({ data := #[87, 68, 82, 49] } : ByteArray)[2]'(by decide)).toNat : Int)) = decide (x ≠ 82) := mag_byte x 82 82 rfl
        by_cases hx : x = 82
        · have HA := Lib.hid (HY.out x s1 w2 hx hG1 h0 hS2 hT2)
          replace HM := HM.trans (decide_eq_false (fun h => h hx))
          clear hG1 h0 hS2 hT2 hx
          go_wp2
          go_roundw
          case rel => exact ⟨3, s1, rfl, by omega, HA.out⟩
          case measure => simp [intOf]
        · have HA := Lib.hid (HX.out x s1 w2 hx hG1 h0 hS2 hT2)
          replace HM := HM.trans (decide_eq_true hx)
          clear hG1 h0 hS2 hT2 hx
          go_wp2_with fail
          refine HA.out.mono ?_
          rintro e' w3 ⟨⟨u, rfl⟩, s3, hR⟩
          have HR := Lib.hid hR
          clear hR
          go_wp2
          go_roundw
          case rel => exact ⟨3, s3, rfl, by omega, HR.out⟩
          case measure => simp [intOf]
      · obtain rfl : q = 3 := by omega
        go_wp2_with fail
        refine wp_region_held_drew (S := (fun _ => True)) (by kernel_rfl) trivial (fun hHeld => ?_)
        refine wpAnyH_take (i := 0) (oi := _) (v := ?_) (op_atC rfl) (by kernel_rfl) (by kernel_rfl) (by kernel_rfl) (fun _ _ _ h => h) (Or.inl ⟨by rfl, ?_⟩) hHeld ?_
        rotate_left 1
        focus (intro W hSw; (try dsimp only at hSw); go_simp; (try (with_reducible rfl)))
        (try simp only [Act.put, List.setIfInBounds_toArray, List.set_cons_zero, List.set_cons_succ])
        refine wpAnyH_take (i := 2) (oi := _) (v := ?_) (op_atC rfl) (by kernel_rfl) (by kernel_rfl) (by kernel_rfl) (fun _ _ _ h => h) (Or.inl ⟨by rfl, ?_⟩) hHeld ?_
        rotate_left 1
        focus (intro W hSw; (try dsimp only at hSw); go_simp; (try (with_reducible rfl)))
        (try simp only [Act.put, List.setIfInBounds_toArray, List.set_cons_zero, List.set_cons_succ])
        refine wpAnyH_take (i := 3) (oi := _) (v := ?_) (op_atC rfl) (by kernel_rfl) (by kernel_rfl) (by kernel_rfl) (fun _ _ _ h => h) (Or.inl ⟨by rfl, ?_⟩) hHeld ?_
        rotate_left 1
        focus (intro W hSw; (try dsimp only at hSw); go_simp; (try (with_reducible rfl)))
        (try simp only [Act.put, List.setIfInBounds_toArray, List.set_cons_zero, List.set_cons_succ])
        refine wpAnyH_ready (rs := [1]) (by kernel_rfl) (by simp) ?_
        refine AllReadyH.cons (o := _) (op_atC rfl) (fun Kc hKc => ?_) AllReadyH.nil
        go_simp
        go_at_call 37
        (with_reducible refine (N.out).mono ?_)
        rintro e' w2 ⟨x, s1, rfl, hG1, h0, hS2, hT2⟩
        go_wp2_with fail
        refine hKc.out _ _ trivial (fun hHeld => ?_)
        clear hKc Kc
        (try simp only [Act.put, List.setIfInBounds_toArray, List.set_cons_zero, List.set_cons_succ])
        refine wpAnyH_take (i := 4) (oi := _) (v := ?_) (op_atC rfl) (by kernel_rfl) (by kernel_rfl) (by kernel_rfl) (fun _ _ _ h => h) (Or.inl ⟨by rfl, ?_⟩) hHeld ?_
        rotate_left 1
        focus (intro W hSw; (try dsimp only at hSw); go_simp; (try (with_reducible rfl)))
        (try simp only [Act.put, List.setIfInBounds_toArray, List.set_cons_zero, List.set_cons_succ])
        refine wpAnyH_done (by kernel_rfl) ?_ _
        have HM : ((x.toNat : Int) != ((({ data := #[87, 68, 82, 49] } : ByteArray)[3]'(by decide)).toNat : Int)) = decide (x ≠ 49) := mag_byte x 49 49 rfl
        by_cases hx : x = 49
        · have HA := Lib.hid (HY.out x s1 w2 hx hG1 h0 hS2 hT2)
          replace HM := HM.trans (decide_eq_false (fun h => h hx))
          clear hG1 h0 hS2 hT2 hx
          go_wp2
          go_roundw
          case rel => exact ⟨4, s1, rfl, by omega, HA.out⟩
          case measure => simp [intOf]
        · have HA := Lib.hid (HX.out x s1 w2 hx hG1 h0 hS2 hT2)
          replace HM := HM.trans (decide_eq_true hx)
          clear hG1 h0 hS2 hT2 hx
          go_wp2_with fail
          refine HA.out.mono ?_
          rintro e' w3 ⟨⟨u, rfl⟩, s3, hR⟩
          have HR := Lib.hid hR
          clear hR
          go_wp2
          go_roundw
          case rel => exact ⟨4, s3, rfl, by omega, HR.out⟩
          case measure => simp [intOf]
    · obtain rfl : i = 4 := by omega
      have HS2 := Lib.hid hS
      clear hS
      go_wp2
      go_end0
      exact ⟨⟨_, rfl⟩, s, HG.out, HS2.out, HT.out⟩
end Go.Proofs.Ytffelcidckbohaa
/- Copy: a program of one's own. Condition: the program is there, of few parts, its texts are not too long. -/
namespace Go.Proofs.Ytffelcidckbohaa
open Go.RowKit
set_option linter.unusedVariables false
def CopyPost (w : World) (p : PrgD) (e : Ending) (w' : World) : Prop :=
  ∃ u0 u1 lc lf s1, e = .returned (.agg #[u0, u1]) ∧ COwn w' w.heap.size u0 lc ∧ lc.map (·.1) = p.classes ∧ UOwn w' s1 u1 lf ∧ lf.map (·.1) = p.funcs ∧ w.heap.size ≤ s1 ∧ (∀ g, u0.ownBlock = some g → g < s1) ∧ (∀ x ∈ lc, ∀ g, x.2.ownBlock = some g → g < s1) ∧ Below w.heap.size w w'
end Go.Proofs.Ytffelcidckbohaa
