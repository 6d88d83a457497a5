/- Texts of this seat, one behind the other: each says at its head what it holds. No condition of its own. -/
import Derived.Maps.AppendAt
import Derived.Deep.AppendLies
import Derived.Deep.RegionHeld3
import Derived.Lib.Hide
import Derived.Laws.DeepNot64
import Derived.Test.YtffelcidckbohaaGCodeReads06
import Derived.Test.YtffelcidckbohaaGCodeReads07
/- Rows of structs of one's own: flat lists, an append of a foreign slice to nothing, what a row reads as. No condition. -/
namespace Go.Proofs.Ytffelcidckbohaa
open Go.RowKit
set_option linter.unusedVariables false
theorem op_atC {l : List Oper} {i : Nat} {o : Oper} (h : l[i]? = some o) : l.toArray[i]? = some o := by simpa using h
theorem flat_len {α : Type} (f : α → List Value) (k : Nat) (hk : ∀ x, (f x).length = k) : ∀ l : List α, (l.flatMap f).length = l.length * k
  | [] => by simp
  | x :: r => by rw [List.flatMap_cons, List.length_append, hk, flat_len f k hk r, List.length_cons, Nat.add_mul]; omega
theorem flat_at {α : Type} (f : α → List Value) (k : Nat) (hk : ∀ x, (f x).length = k) : ∀ (l : List α) (i j : Nat) (hi : i < l.length), j < k → (l.flatMap f)[i * k + j]? = (f (l[i]'hi))[j]?
  | x :: r, 0, j, hi, hj => by
    rw [List.flatMap_cons, List.getElem?_append_left (by rw [hk]; omega)]
    simp
  | x :: r, i + 1, j, hi, hj => by
    rw [List.flatMap_cons, List.getElem?_append_right (by rw [hk, Nat.add_mul]; omega), hk, show (i + 1) * k + j - k = i * k + j by rw [Nat.add_mul]; omega]
    exact flat_at f k hk r i j (by simpa using hi) hj
theorem flat_in {α : Type} {f : α → List Value} {l : List α} (h : ∀ x, ∀ u ∈ f x, u.oneCell' = true) : ∀ u ∈ l.flatMap f, u.oneCell' = true := by
  intro u hu
  obtain ⟨x, _, hx⟩ := List.mem_flatMap.1 hu
  exact h x u hx
theorem own_grewG {w w' : World} {base : Nat} {e : TypeId} {size : Nat} {v : Value} {n : Nat} {xs : List Value} (h : w.ownsRow base e size v n xs) (hb : Below w.heap.size w w') : w'.ownsRow base e size v n xs := by
  obtain ⟨e1, e2⟩ := h
  refine ⟨e1, ?_⟩
  rcases e2 with e2 | ⟨g, cap, cur, a1, a2, a3, a4⟩
  · exact .inl e2
  · exact .inr ⟨g, cap, cur, a1, a2, (hb.block g (Array.getElem?_eq_some_iff.1 a3).1).trans a3, a4⟩
theorem own_touch {R : Nat → Prop} {w w' : World} {base : Nat} {e : TypeId} {size : Nat} {v : Value} {n : Nat} {xs : List Value} (h : w.ownsRow base e size v n xs) (hT : Touch R w w') (hr : ∀ g, v.ownBlock = some g → ¬ R g) : w'.ownsRow base e size v n xs := by
  obtain ⟨e1, e2⟩ := h
  refine ⟨e1, ?_⟩
  rcases e2 with e2 | ⟨g, cap, cur, a1, a2, a3, a4⟩
  · exact .inl e2
  · exact .inr ⟨g, cap, cur, a1, a2, (hT.block g (Array.getElem?_eq_some_iff.1 a3).1 (hr g (by rw [a1]; rfl))).trans a3, a4⟩
theorem own_sub {w : World} {b b' : Nat} {e : TypeId} {size : Nat} {v : Value} {n : Nat} {xs : List Value} (h : w.ownsRow b e size v n xs) (hb : b' ≤ b) : w.ownsRow b' e size v n xs := by
  obtain ⟨e1, e2⟩ := h
  refine ⟨e1, ?_⟩
  rcases e2 with e2 | ⟨g, cap, cur, a1, a2, a3⟩
  · exact .inl e2
  · exact .inr ⟨g, cap, cur, a1, by omega, a3⟩
theorem own_ltG {w : World} {b : Nat} {e : TypeId} {size : Nat} {v : Value} {n : Nat} {xs : List Value} (h : w.ownsRow b e size v n xs) {g : Nat} (hg : v.ownBlock = some g) : b ≤ g ∧ g < w.heap.size := by
  rcases h.2 with ⟨h1, _⟩ | ⟨q, cap, cur, a1, a2, a3, _⟩
  · rw [h1] at hg; cases hg
  · rw [a1] at hg
    obtain rfl : q = g := Option.some.inj hg
    exact ⟨a2, (Array.getElem?_eq_some_iff.1 a3).1⟩
/-- the cells of a row of one's own -/
theorem own_cellG {w : World} {b : Nat} {e : TypeId} {size : Nat} {v : Value} {n : Nat} {xs : List Value} (h : w.ownsRow b e size v n xs) (hn : 0 < n) : ∃ g cap, v = .slice (some ⟨g, 0, none⟩) n cap ∧ b ≤ g ∧ g < w.heap.size ∧ n ≤ cap ∧ cap ≤ maxLen ∧ ∀ j u, xs[j]? = some u → w.cell? ⟨g, j, none⟩ = some u := by
  obtain ⟨e1, e2⟩ := h
  rcases e2 with ⟨_, h0⟩ | ⟨g, cap, cur, a1, a2, a3, a4, a5, a6, a7⟩
  · omega
  · refine ⟨g, cap, a1, a2, (Array.getElem?_eq_some_iff.1 a3).1, a4, a5, fun j u hu => ?_⟩
    rw [cell_of_row w g j cur e (0, 0) a3]
    rw [← a7] at hu
    have h5 := (List.getElem?_eq_some_iff.1 hu).1
    rw [List.length_take] at h5
    rw [List.getElem?_take, if_pos (by omega)] at hu
    simpa using hu
/-- append of a slice of somebody else's to nothing -/
theorem app_nil {e t : TypeId} {sz bytes : Nat} {z : Value} {i0 : TypeInfo} (ht : Try.prog.underlying t = some (.slice e)) (hi : Try.prog.info? e = some i0) (hz : i0.zero = some z) (hs : i0.size = sz) (hb : i0.bytes = bytes) (hzs : z.cells.size = sz) (hsz : 0 < sz)
    (w : World) (ty : TypeId) (a : Option Addr) (n c : Nat) (news : List Value) (hl : news.length = n * sz) (h1 : ∀ u ∈ news, u.oneCell' = true) (hnews : ∀ j u, news[j]? = some u → ∃ ad, a = some ad ∧ w.cell? (ad.add j) = some u) (hn : n ≤ 1000) (hby : bytes ≤ 1000) :
    ∃ v' w', (Builtin.append_ #[t, t] ty #[.slice none 0 0, .slice a n c]).run Try.prog w = .ok v' w' ∧ w'.ownsRow w.heap.size e sz v' n news ∧ Below w.heap.size w w' := by
  cases a with
  | none =>
    have hn0 : n = 0 := by
      rcases Nat.eq_zero_or_pos n with h | h
      · exact h
      · have h2 : 0 < news.length := by rw [hl]; exact Nat.mul_pos h hsz
        obtain ⟨ad, h3, _⟩ := hnews 0 _ (List.getElem?_eq_getElem h2)
        cases h3
    subst hn0
    have hnn : news = [] := List.eq_nil_of_length_eq_zero (by omega)
    subst hnn
    refine ⟨.slice none 0 0, w, ?_, ⟨by simp, .inl ⟨rfl, rfl⟩⟩, Below.refl _ _⟩
    have ht' := run_underlying (P := Try.prog) (w := w) ht
    simp [Builtin.append_, ht', sizeOf, typeInfo, hi, Builtin.lenOf, Builtin.firstCells]
  | some ad =>
    obtain ⟨v', w', hr, h2, h3, _⟩ := run_append_own_at (P := Try.prog) w w.heap.size t ty e i0 z sz bytes ht hi hz hs hb hzs hsz (.slice none 0 0) 0 [] ⟨by simp, .inl ⟨rfl, rfl⟩⟩ ad n c news hl (fun j u hu => by
      obtain ⟨ad', e1, e2⟩ := hnews j u hu
      obtain rfl := Option.some.inj e1
      exact e2) h1 (by unfold maxLen; omega) (by
        have : (0 + n) * bytes ≤ 1000 * 1000 := Nat.mul_le_mul (by omega) hby
        omega) (Nat.le_refl _)
    exact ⟨v', w', hr, by simpa using h2, (Below.refl _ _).grown h3 (Nat.le_refl _) (fun k hk => by cases hk)⟩
def fldC (f : FldD) : List Value := [.string f.name, .int .i64 f.ty]
def insC (f : InsD) : List Value := [.int .i64 f.op, .int .i64 f.a, .int .i64 f.b]
def intC (x : Int) : List Value := [.int .i64 x]
def clsC (x : ClsD × Value) : List Value := [.string x.1.name, x.2]
def funC (x : FunD × Value × Value × Value) : List Value := [.string x.1.name, x.2.1, .int .i64 x.1.result, x.2.2.1, x.2.2.2]
theorem add_at (b o k : Nat) : (⟨b, o, none⟩ : Addr).add k = ⟨b, o + k, none⟩ := by unfold Addr.add; split <;> simp_all
/-- what a foreign row's cells are, place by place -/
theorem rd_news {α : Type} {sz B : Nat} {el : World → Nat → Nat → α → Prop} {f : α → List Value} {w : World} {a : Option Addr} {n c : Nat} {l : List α} (hsz : 0 < sz) (hf : ∀ x, (f x).length = sz) (hel : ∀ b k x, el w b k x → ∀ j u, (f x)[j]? = some u → w.cell? ⟨b, k + j, none⟩ = some u) (h : RdRow sz el B w (.slice a n c) l) :
    ∀ j u, (l.flatMap f)[j]? = some u → ∃ ad, a = some ad ∧ w.cell? (ad.add j) = some u := by
  intro j u hu
  have hj := (List.getElem?_eq_some_iff.1 hu).1
  rw [flat_len f sz hf] at hj
  have hi : j / sz < l.length := Nat.div_lt_of_lt_mul (by rw [Nat.mul_comm]; exact hj)
  have hd : j / sz * sz + j % sz = j := by rw [Nat.mul_comm]; exact Nat.div_add_mod j sz
  have hfa := flat_at f sz hf l (j / sz) (j % sz) hi (Nat.mod_lt _ hsz)
  rw [hd, hu] at hfa
  obtain ⟨a', c', hv, _, hall⟩ := h
  injection hv with hv1 _ _
  subst hv1
  obtain ⟨b, o, e1, _, e3⟩ := hall _ hi
  refine ⟨_, e1, ?_⟩
  have := hel _ _ _ e3 _ _ hfa.symm
  rw [add_at, ← this, Nat.add_assoc, hd]
/-- a row of one's own reads as what it holds -/
theorem own_rd {α : Type} {sz B b : Nat} {el : World → Nat → Nat → α → Prop} {f : α → List Value} {e : TypeId} {w : World} {v : Value} {l : List α} (hsz : 0 < sz) (hf : ∀ x, (f x).length = sz) (h : w.ownsRow b e sz v l.length (l.flatMap f)) (hB : w.heap.size ≤ B)
    (hel : ∀ g k x, x ∈ l → (∀ j u, (f x)[j]? = some u → w.cell? ⟨g, k + j, none⟩ = some u) → el w g k x) : RdRow sz el B w v l := by
  rcases Nat.eq_zero_or_pos l.length with h0 | h0
  · obtain rfl := List.eq_nil_of_length_eq_zero h0
    obtain ⟨a, c, rfl⟩ := row_shape h
    exact ⟨a, c, rfl, by unfold maxLen; simp, fun i hi => absurd hi (by simp)⟩
  · obtain ⟨g, cap, rfl, q1, q2, q3, q4, q5⟩ := own_cellG h h0
    refine ⟨some ⟨g, 0, none⟩, cap, rfl, by omega, fun i hi => ⟨g, 0, rfl, by omega, hel _ _ _ (List.getElem_mem hi) fun j u hu => ?_⟩⟩
    have hj : j < sz := by
      have := (List.getElem?_eq_some_iff.1 hu).1
      rw [hf] at this
      exact this
    have := q5 (i * sz + j) u (by rw [flat_at f sz hf l i j hi hj]; exact hu)
    rw [Nat.zero_add]
    exact this
theorem info_fld : (Try.prog.info? 66).map (fun i => (i.zero, i.size, i.bytes)) = some (some (.agg #[.string ⟨#[]⟩, .int .i64 0]), 2, 24) := by kernel_rfl
theorem info_cls : (Try.prog.info? 52).map (fun i => (i.zero, i.size, i.bytes)) = some (some (.agg #[.string ⟨#[]⟩, .slice none 0 0]), 2, 40) := by kernel_rfl
theorem info_ins : (Try.prog.info? 41).map (fun i => (i.zero, i.size, i.bytes)) = some (some (.agg #[.int .i64 0, .int .i64 0, .int .i64 0]), 3, 24) := by kernel_rfl
theorem info_fun : (Try.prog.info? 45).map (fun i => (i.zero, i.size, i.bytes)) = some (some (.agg #[.string ⟨#[]⟩, .slice none 0 0, .int .i64 0, .slice none 0 0, .slice none 0 0]), 5, 96) := by kernel_rfl
theorem info_intC : (Try.prog.info? 3).map (fun i => (i.zero, i.size, i.bytes)) = some (some (.int .i64 0), 1, 8) := by kernel_rfl
end Go.Proofs.Ytffelcidckbohaa
/- code's reader: what a list of things read is, plainly. No condition. -/
namespace Go.Proofs.Ytffelcidckbohaa
open Go.RowKit
set_option linter.unusedVariables false
theorem after_bind {α β : Type} (st : St) (D : Nat → Rd α) (g : α → Nat → Rd β) : after st (fun p => bindD (D p) g) = bindD (after st D) g := by cases st <;> rfl
theorem num_le {bs : List UInt8} {most n : Nat} {st st1 : St} (h : Gets (after st (numD bs most)) n st1) (h0 : ∀ y, st1 = .error y → n = 0) : n ≤ most := by
  rcases h with ⟨p, h1, h2⟩ | ⟨x, h1, h2⟩
  · cases st with
    | error x => cases h1
    | ok q =>
      rw [after_ok, numD] at h1
      split at h1
      · cases h1
      · split at h1
        · cases h1
        · split at h1
          · cases h1
          · split at h1
            · cases h1
            · injection h1 with h1
              injection h1 with h1 h3
              omega
  · rw [h0 _ h2]; exact Nat.zero_le _
theorem gets_none {α : Type} (D : Nat → Rd α) (st : St) : Gets (after st (seqD D 0)) [] st := by
  cases st with
  | ok q => exact .inl ⟨q, rfl, rfl⟩
  | error x => exact .inr ⟨x, rfl, rfl⟩
theorem gets_one {α : Type} {D : Nat → Rd α} {st1 s s' : St} {i : Nat} {L : List α} {a : α} (h : Gets (after st1 (seqD D i)) L s) (h' : Gets (after s D) a s') : Gets (after st1 (seqD D (i + 1))) (L ++ [a]) s' := by
  have e : after st1 (seqD D (i + 1)) = bindD (after st1 (seqD D i)) fun l q => bindD (D q) fun a r => .ok (l ++ [a], r) := after_bind st1 (seqD D i) _
  rw [e]
  refine h.bind ?_
  rw [after_bind]
  exact h'.map fun a => L ++ [a]
theorem gets_late {α : Type} {D : Nat → Rd α} {st1 : St} {x : DErr} {i n : Nat} {L : List α} (h : Gets (after st1 (seqD D i)) L (.error x)) (hn : i ≤ n) : Gets (after st1 (seqD D n)) L (.error x) := by
  have h1 := h.err
  cases st1 with
  | error y => exact .inr ⟨x, h1, rfl⟩
  | ok q => exact .inr ⟨x, seqD_err h1 n hn, rfl⟩
theorem gets_list {α : Type} {bs : List UInt8} {D : Nat → Rd α} {st st1 s : St} {most n : Nat} {L : List α} (h : Gets (after st (numD bs most)) n st1) (h' : Gets (after st1 (seqD D n)) L s) : Gets (after st (listD bs D most)) L s := by
  have e : after st (listD bs D most) = bindD (after st (numD bs most)) fun n q => seqD D n q := after_bind st _ _
  rw [e]
  exact h.bind h'
/-- something was read: its value, the state behind it, what it owns -/
def ReadsV {α β : Type} (mk : α → Value) (π : α → β) (Inn : World → Nat → α → Prop) (t : TypeId) (B b : Nat) (bs : List UInt8) (r : Rd β) (w : World) (e' : Ending) (w' : World) : Prop :=
  ∃ (a : α) (st' : St), e' = .returned (mk a) ∧ Gets r (π a) st' ∧ Inn w' w.heap.size a ∧ RdS t w' B b bs st' ∧ RdT b w w'
/-- a list was read -/
def ReadsL {α β : Type} (Row : World → Nat → Value → List α → Prop) (π : α → β) (most : Nat) (t : TypeId) (B b : Nat) (bs : List UInt8) (r : Rd (List β)) (w : World) (e' : Ending) (w' : World) : Prop :=
  ∃ (v : Value) (l : List α) (st' : St), e' = .returned v ∧ Gets r (l.map π) st' ∧ l.length ≤ most ∧ Row w' w.heap.size v l ∧ RdS t w' B b bs st' ∧ RdT b w w'
def NoInn {α : Type} : World → Nat → α → Prop := fun _ _ _ => True
def OwnR {α : Type} (T : TypeId) (sz : Nat) (f : α → List Value) (w : World) (lo : Nat) (v : Value) (l : List α) : Prop := w.ownsRow lo T sz v l.length (l.flatMap f)
def bytC (x : UInt8) : List Value := [.int .u8 (x.toNat : Int)]
theorem own_app {α : Type} {T : TypeId} {sz : Nat} {f : α → List Value} {w : World} {lo : Nat} {v : Value} {l : List α} {a : α} (h : w.ownsRow lo T sz v (l.length + 1) (l.flatMap f ++ f a)) : OwnR T sz f w lo v (l ++ [a]) := by
  unfold OwnR
  rw [List.flatMap_append, List.length_append]
  simpa using h
theorem OwnR.nil {α : Type} (T : TypeId) (sz : Nat) (f : α → List Value) (w : World) (lo : Nat) : OwnR T sz f w lo (.slice none 0 0) [] := ⟨by simp, .inl ⟨rfl, rfl⟩⟩
theorem OwnR.touch {α : Type} {T : TypeId} {sz : Nat} {f : α → List Value} {w w' : World} {lo b : Nat} {v : Value} {l : List α} (h : OwnR T sz f w lo v l) (hT : RdT b w w') (hb : b < lo) : OwnR T sz f w' lo v l :=
  own_touch h hT (fun g hg e => by have := (own_ltG h hg).1; omega)
/-- behind an append to a row of one's own: the reader is as it was -/
theorem list_kept {t : TypeId} {w W2 W3 : World} {B b : Nat} {bs : List UInt8} {s : St} {T : TypeId} {sz n : Nat} {v : Value} {xs : List Value} {o : Obj} (h : RdS t W2 B b bs s) (hb : b < w.heap.size) (hO : W2.ownsRow w.heap.size T sz v n xs) (hg : (W2.alloc o).grownBy W3 v.ownBlock) (hT : RdT b w W2) :
    RdS t W3 B b bs s ∧ RdT b w W3 := by
  have hT2 : Touch (fun x => w.heap.size ≤ x) W2 W3 := ((Touch.refl _ W2).alloc o).grown hg (fun k hk => .inl (own_ltG hO hk).1)
  have hB := h.bb
  refine ⟨h.touch hT2 (fun x hx => ⟨by omega, by omega⟩), ?_⟩
  exact Touch.mono (R := fun x => x = b ∨ w.heap.size ≤ x) ((hT.mono fun x _ hx => .inl hx).trans (hT2.mono fun x _ hx => .inr hx)) fun k hk hx => hx.elim id fun q => by omega
/-- behind stores into blocks of one's own -/
theorem new_kept {t : TypeId} {w W2 W3 : World} {B b : Nat} {bs : List UInt8} {s : St} (h : RdS t W2 B b bs s) (hb : b < w.heap.size) (hT : RdT b w W2) (hT2 : Touch (fun x => w.heap.size ≤ x) W2 W3) : RdS t W3 B b bs s ∧ RdT b w W3 := by
  have hB := h.bb
  refine ⟨h.touch hT2 (fun x hx => ⟨by omega, by omega⟩), ?_⟩
  exact Touch.mono (R := fun x => x = b ∨ w.heap.size ≤ x) ((hT.mono fun x _ hx => .inl hx).trans (hT2.mono fun x _ hx => .inr hx)) fun k hk hx => hx.elim id fun q => by omega
end Go.Proofs.Ytffelcidckbohaa
/- code's reader: list, at bytes. Condition: what a call of the closure does is given. -/
namespace Go.Proofs.Ytffelcidckbohaa
open Go.RowKit
set_option linter.unusedVariables false
set_option maxRecDepth 100000 in
set_option maxHeartbeats 2000000 in
theorem list_byt (t : TypeId) (w : World) (B b : Nat) (bs : List UInt8) (st : St) (most : Nat) (h : RdS t w B b bs st) (hm : most ≤ 1000)
    (ST : Hid (∀ (W : World) (s : St), RdS t W B b bs s → Calls Try.prog 37 #[.pointer (some ⟨b, 0, none⟩)] W (ReadsV (fun x : UInt8 => Value.int .u8 (x.toNat : Int)) (fun x => x) NoInn t B b bs (after s (nextD bs)) W))) :
    Calls Try.prog 60 #[.pointer (some ⟨b, 0, none⟩), .int .i64 most, .func (.func 37) #[.pointer (some ⟨b, 0, none⟩)] #[]] w (ReadsL (OwnR 5 1 bytC) (fun x => x) most t B b bs (after st (listD bs (nextD bs) most)) w) := by
  obtain ⟨i0, hi, hz0, hz1, hz2⟩ := info_parts info_u8
  have Z := Lib.hid (And.intro hi (And.intro hz0 (And.intro hz1 hz2)))
  have hbl := h.lt
  have NU := Lib.hid (numr_any t w B b bs st most h (by omega))
  clear h hi hz0 hz1 hz2
  go_enter Try.func60, Try.ntmps60
  go_wp2_with fail
  refine NU.out.mono ?_
  rintro e' w1 ⟨n, st1, rfl, hG, h0, hS, hT⟩
  have hn := num_le hG h0
  have HG := Lib.hid hG
  have HS := Lib.hid hS
  have HT := Lib.hid hT
  clear hG h0 hS hT NU
  go_wp2_with fail
  go_loopw [7, 9] (fun v x wr => ∃ (i : Nat) (ls : List UInt8) (s : St), x = .int .i64 i ∧ i ≤ n ∧ Hid (ls.length = i) ∧ OwnR 5 1 bytC wr w.heap.size v ls ∧ Gets (after st1 (seqD (nextD bs) i)) (ls.map fun x => x) s ∧ RdS t wr B b bs s ∧ RdT b w wr) (fun _ x _ => n - (intOf x).toNat)
  case atStart => exact ⟨0, [], st1, rfl, Nat.zero_le _, rfl, OwnR.nil _ _ _ _ _, gets_none _ _, HS.out, HT.out⟩
  case round =>
    obtain ⟨i, ls, s, rfl, hin, hil, hO, hGi, hSi, hTi⟩ := hrel
    obtain ⟨va, vc, rfl⟩ := row_shape hO
    have HGi := Lib.hid hGi
    have HTi := Lib.hid hTi
    have hsz := hTi.size
    clear hGi hTi
    by_cases hlt : i < n
    · have hlt' : (i : Int) < (n : Int) := by omega
      cases s with
      | error x =>
        obtain ⟨c2, _, c2', _⟩ := hSi.errC
        have HSi := Lib.hid hSi
        clear hSi
        go_wp2
        go_ret
        exact ⟨_, ls, .error x, rfl, gets_list HG.out (gets_late HGi.out hin), by have := hil.out; omega, hO, HSi.out, HTi.out⟩
      | ok p =>
        obtain ⟨c2, _⟩ := hSi.okC
        have NX := Lib.hid (ST.out wr _ hSi)
        clear hSi
        go_wp2_with fail
        refine NX.out.mono ?_
        rintro e' w2 ⟨a, s', rfl, hG2, _, hS2, hT2⟩
        have hO2 := hO.touch hT2 hbl
        have HG2 := Lib.hid hG2
        have HS2 := Lib.hid hS2
        have HT2 := Lib.hid (HTi.out.trans hT2)
        have hsz2 := hT2.size
        clear hG2 hS2 hT2 NX c2 hO
        go_wp2_with (at_builtin; refine wpList_append_own_at _ rfl _ _ 22 rfl w.heap.size 5 i0 _ 1 1 Try.underlying22 Z.out.1 Z.out.2.1 Z.out.2.2.1 Z.out.2.2.2 rfl (by decide) _ ls.length (ls.flatMap bytC) rfl (own_grewG hO2 ((Below.refl _ _).alloc (Nat.le_refl _) _)) ⟨w2.heap.size, 0, none⟩ 1 1 (bytC a) rfl rfl (World.news_of_block (Blk.new _ _ _)) (by simp [Value.oneCell', bytC]) (by have := hil.out; unfold maxLen; omega) (by have := hil.out; omega) (by simp; omega) ?_; intro v' w3 hown' hgrow _ hat; obtain ⟨ga, gc, rfl⟩ := row_shape hown'; have HA := Lib.hid (list_kept HS2.out hbl hO2 hgrow HT2.out); clear hgrow hat)
        go_roundw
        case rel => exact ⟨i + 1, ls ++ [a], s', by go_num, by omega, by unfold Hid; rw [List.length_append, hil.out]; rfl, own_app hown', by rw [List.map_append]; exact gets_one HGi.out HG2.out, HA.out.1, HA.out.2⟩
        case measure => simp [intOf]; omega
    · have hlt' : ¬ (i : Int) < (n : Int) := by omega
      obtain rfl : i = n := by omega
      have HSi := Lib.hid hSi
      clear hSi
      go_wp2
      go_ret
      exact ⟨_, ls, s, rfl, gets_list HG.out HGi.out, by have := hil.out; omega, hO, HSi.out, HTi.out⟩
end Go.Proofs.Ytffelcidckbohaa
/- code's reader: list, at types. Condition: what a call of the closure does is given. -/
namespace Go.Proofs.Ytffelcidckbohaa
open Go.RowKit
set_option linter.unusedVariables false
set_option maxRecDepth 100000 in
set_option maxHeartbeats 2000000 in
theorem list_int (t : TypeId) (w : World) (B b : Nat) (bs : List UInt8) (st : St) (most : Nat) (h : RdS t w B b bs st) (hm : most ≤ 1000)
    (ST : Hid (∀ (W : World) (s : St), RdS t W B b bs s → Calls Try.prog 43 #[.pointer (some ⟨b, 0, none⟩)] W (ReadsV (fun x : Int => Value.int .i64 x) (fun x => x) NoInn t B b bs (after s (kindD bs)) W))) :
    Calls Try.prog 42 #[.pointer (some ⟨b, 0, none⟩), .int .i64 most, .func (.func 43) #[.pointer (some ⟨b, 0, none⟩)] #[]] w (ReadsL (OwnR 3 1 intC) (fun x => x) most t B b bs (after st (listD bs (kindD bs) most)) w) := by
  obtain ⟨i0, hi, hz0, hz1, hz2⟩ := info_parts info_intC
  have Z := Lib.hid (And.intro hi (And.intro hz0 (And.intro hz1 hz2)))
  have hbl := h.lt
  have NU := Lib.hid (numr_any t w B b bs st most h (by omega))
  clear h hi hz0 hz1 hz2
  go_enter Try.func42, Try.ntmps42
  go_wp2_with fail
  refine NU.out.mono ?_
  rintro e' w1 ⟨n, st1, rfl, hG, h0, hS, hT⟩
  have hn := num_le hG h0
  have HG := Lib.hid hG
  have HS := Lib.hid hS
  have HT := Lib.hid hT
  clear hG h0 hS hT NU
  go_wp2_with fail
  go_loopw [7, 9] (fun v x wr => ∃ (i : Nat) (ls : List Int) (s : St), x = .int .i64 i ∧ i ≤ n ∧ Hid (ls.length = i) ∧ OwnR 3 1 intC wr w.heap.size v ls ∧ Gets (after st1 (seqD (kindD bs) i)) (ls.map fun x => x) s ∧ RdS t wr B b bs s ∧ RdT b w wr) (fun _ x _ => n - (intOf x).toNat)
  case atStart => exact ⟨0, [], st1, rfl, Nat.zero_le _, rfl, OwnR.nil _ _ _ _ _, gets_none _ _, HS.out, HT.out⟩
  case round =>
    obtain ⟨i, ls, s, rfl, hin, hil, hO, hGi, hSi, hTi⟩ := hrel
    obtain ⟨va, vc, rfl⟩ := row_shape hO
    have HGi := Lib.hid hGi
    have HTi := Lib.hid hTi
    have hsz := hTi.size
    clear hGi hTi
    by_cases hlt : i < n
    · have hlt' : (i : Int) < (n : Int) := by omega
      cases s with
      | error x =>
        obtain ⟨c2, _, c2', _⟩ := hSi.errC
        have HSi := Lib.hid hSi
        clear hSi
        go_wp2
        go_ret
        exact ⟨_, ls, .error x, rfl, gets_list HG.out (gets_late HGi.out hin), by have := hil.out; omega, hO, HSi.out, HTi.out⟩
      | ok p =>
        obtain ⟨c2, _⟩ := hSi.okC
        have NX := Lib.hid (ST.out wr _ hSi)
        clear hSi
        go_wp2_with fail
        refine NX.out.mono ?_
        rintro e' w2 ⟨a, s', rfl, hG2, _, hS2, hT2⟩
        have hO2 := hO.touch hT2 hbl
        have HG2 := Lib.hid hG2
        have HS2 := Lib.hid hS2
        have HT2 := Lib.hid (HTi.out.trans hT2)
        have hsz2 := hT2.size
        clear hG2 hS2 hT2 NX c2 hO
        go_wp2_with (at_builtin; refine wpList_append_own_at _ rfl _ _ 43 rfl w.heap.size 3 i0 _ 1 8 Try.underlying43 Z.out.1 Z.out.2.1 Z.out.2.2.1 Z.out.2.2.2 rfl (by decide) _ ls.length (ls.flatMap intC) rfl (own_grewG hO2 ((Below.refl _ _).alloc (Nat.le_refl _) _)) ⟨w2.heap.size, 0, none⟩ 1 1 (intC a) rfl rfl (World.news_of_block (Blk.new _ _ _)) (by simp [Value.oneCell', intC]) (by have := hil.out; unfold maxLen; omega) (by have := hil.out; omega) (by simp; omega) ?_; intro v' w3 hown' hgrow _ hat; obtain ⟨ga, gc, rfl⟩ := row_shape hown'; have HA := Lib.hid (list_kept HS2.out hbl hO2 hgrow HT2.out); clear hgrow hat)
        go_roundw
        case rel => exact ⟨i + 1, ls ++ [a], s', by go_num, by omega, by unfold Hid; rw [List.length_append, hil.out]; rfl, own_app hown', by rw [List.map_append]; exact gets_one HGi.out HG2.out, HA.out.1, HA.out.2⟩
        case measure => simp [intOf]; omega
    · have hlt' : ¬ (i : Int) < (n : Int) := by omega
      obtain rfl : i = n := by omega
      have HSi := Lib.hid hSi
      clear hSi
      go_wp2
      go_ret
      exact ⟨_, ls, s, rfl, gets_list HG.out HGi.out, by have := hil.out; omega, hO, HSi.out, HTi.out⟩
end Go.Proofs.Ytffelcidckbohaa
/- code's reader: list, at fields. Condition: what a call of the closure does is given. -/
namespace Go.Proofs.Ytffelcidckbohaa
open Go.RowKit
set_option linter.unusedVariables false
set_option maxRecDepth 100000 in
set_option maxHeartbeats 2000000 in
theorem list_fld (t : TypeId) (w : World) (B b : Nat) (bs : List UInt8) (st : St) (most : Nat) (h : RdS t w B b bs st) (hm : most ≤ 1000)
    (ST : Hid (∀ (W : World) (s : St), RdS t W B b bs s → Calls Try.prog 41 #[.pointer (some ⟨b, 0, none⟩)] W (ReadsV (fun x : FldD => Value.agg #[.string x.name, .int .i64 x.ty]) (fun x => x) NoInn t B b bs (after s (fldD bs)) W))) :
    Calls Try.prog 40 #[.pointer (some ⟨b, 0, none⟩), .int .i64 most, .func (.func 41) #[.pointer (some ⟨b, 0, none⟩)] #[]] w (ReadsL (OwnR 66 2 fldC) (fun x => x) most t B b bs (after st (listD bs (fldD bs) most)) w) := by
  obtain ⟨i0, hi, hz0, hz1, hz2⟩ := info_parts info_fld
  have Z := Lib.hid (And.intro hi (And.intro hz0 (And.intro hz1 hz2)))
  have hbl := h.lt
  have NU := Lib.hid (numr_any t w B b bs st most h (by omega))
  clear h hi hz0 hz1 hz2
  go_enter Try.func40, Try.ntmps40
  go_wp2_with fail
  refine NU.out.mono ?_
  rintro e' w1 ⟨n, st1, rfl, hG, h0, hS, hT⟩
  have hn := num_le hG h0
  have HG := Lib.hid hG
  have HS := Lib.hid hS
  have HT := Lib.hid hT
  clear hG h0 hS hT NU
  go_wp2_with fail
  go_loopw [7, 9] (fun v x wr => ∃ (i : Nat) (ls : List FldD) (s : St), x = .int .i64 i ∧ i ≤ n ∧ Hid (ls.length = i) ∧ OwnR 66 2 fldC wr w.heap.size v ls ∧ Gets (after st1 (seqD (fldD bs) i)) (ls.map fun x => x) s ∧ RdS t wr B b bs s ∧ RdT b w wr) (fun _ x _ => n - (intOf x).toNat)
  case atStart => exact ⟨0, [], st1, rfl, Nat.zero_le _, rfl, OwnR.nil _ _ _ _ _, gets_none _ _, HS.out, HT.out⟩
  case round =>
    obtain ⟨i, ls, s, rfl, hin, hil, hO, hGi, hSi, hTi⟩ := hrel
    obtain ⟨va, vc, rfl⟩ := row_shape hO
    have HGi := Lib.hid hGi
    have HTi := Lib.hid hTi
    have hsz := hTi.size
    clear hGi hTi
    by_cases hlt : i < n
    · have hlt' : (i : Int) < (n : Int) := by omega
      cases s with
      | error x =>
        obtain ⟨c2, _, c2', _⟩ := hSi.errC
        have HSi := Lib.hid hSi
        clear hSi
        go_wp2
        go_ret
        exact ⟨_, ls, .error x, rfl, gets_list HG.out (gets_late HGi.out hin), by have := hil.out; omega, hO, HSi.out, HTi.out⟩
      | ok p =>
        obtain ⟨c2, _⟩ := hSi.okC
        have NX := Lib.hid (ST.out wr _ hSi)
        clear hSi
        go_wp2_with fail
        refine NX.out.mono ?_
        rintro e' w2 ⟨a, s', rfl, hG2, _, hS2, hT2⟩
        have hO2 := hO.touch hT2 hbl
        have HG2 := Lib.hid hG2
        have HS2 := Lib.hid hS2
        have HT2 := Lib.hid (HTi.out.trans hT2)
        have hsz2 := hT2.size
        clear hG2 hS2 hT2 NX c2 hO
        go_wp2_with (at_builtin; refine wpList_append_own_at _ rfl _ _ 50 rfl w.heap.size 66 i0 _ 2 24 Try.underlying50 Z.out.1 Z.out.2.1 Z.out.2.2.1 Z.out.2.2.2 rfl (by decide) _ ls.length (ls.flatMap fldC) rfl (own_grewG hO2 ((Below.refl _ _).alloc (Nat.le_refl _) _)) ⟨w2.heap.size, 0, none⟩ 1 1 (fldC a) rfl rfl (World.news_of_block (Blk.new _ _ _)) (by simp [Value.oneCell', fldC]) (by have := hil.out; unfold maxLen; omega) (by have := hil.out; omega) (by simp; omega) ?_; intro v' w3 hown' hgrow _ hat; obtain ⟨ga, gc, rfl⟩ := row_shape hown'; have HA := Lib.hid (list_kept HS2.out hbl hO2 hgrow HT2.out); clear hgrow hat)
        go_roundw
        case rel => exact ⟨i + 1, ls ++ [a], s', by go_num, by omega, by unfold Hid; rw [List.length_append, hil.out]; rfl, own_app hown', by rw [List.map_append]; exact gets_one HGi.out HG2.out, HA.out.1, HA.out.2⟩
        case measure => simp [intOf]; omega
    · have hlt' : ¬ (i : Int) < (n : Int) := by omega
      obtain rfl : i = n := by omega
      have HSi := Lib.hid hSi
      clear hSi
      go_wp2
      go_ret
      exact ⟨_, ls, s, rfl, gets_list HG.out HGi.out, by have := hil.out; omega, hO, HSi.out, HTi.out⟩
end Go.Proofs.Ytffelcidckbohaa
/- code's reader: list, at instructions. Condition: what a call of the closure does is given. -/
namespace Go.Proofs.Ytffelcidckbohaa
open Go.RowKit
set_option linter.unusedVariables false
set_option maxRecDepth 100000 in
set_option maxHeartbeats 2000000 in
theorem list_ins (t : TypeId) (w : World) (B b : Nat) (bs : List UInt8) (st : St) (most : Nat) (h : RdS t w B b bs st) (hm : most ≤ 1000)
    (ST : Hid (∀ (W : World) (s : St), RdS t W B b bs s → Calls Try.prog 45 #[.pointer (some ⟨b, 0, none⟩)] W (ReadsV (fun x : InsD => Value.agg #[.int .i64 x.op, .int .i64 x.a, .int .i64 x.b]) (fun x => x) NoInn t B b bs (after s (insD bs)) W))) :
    Calls Try.prog 44 #[.pointer (some ⟨b, 0, none⟩), .int .i64 most, .func (.func 45) #[.pointer (some ⟨b, 0, none⟩)] #[]] w (ReadsL (OwnR 41 3 insC) (fun x => x) most t B b bs (after st (listD bs (insD bs) most)) w) := by
  obtain ⟨i0, hi, hz0, hz1, hz2⟩ := info_parts info_ins
  have Z := Lib.hid (And.intro hi (And.intro hz0 (And.intro hz1 hz2)))
  have hbl := h.lt
  have NU := Lib.hid (numr_any t w B b bs st most h (by omega))
  clear h hi hz0 hz1 hz2
  go_enter Try.func44, Try.ntmps44
  go_wp2_with fail
  refine NU.out.mono ?_
  rintro e' w1 ⟨n, st1, rfl, hG, h0, hS, hT⟩
  have hn := num_le hG h0
  have HG := Lib.hid hG
  have HS := Lib.hid hS
  have HT := Lib.hid hT
  clear hG h0 hS hT NU
  go_wp2_with fail
  go_loopw [7, 9] (fun v x wr => ∃ (i : Nat) (ls : List InsD) (s : St), x = .int .i64 i ∧ i ≤ n ∧ Hid (ls.length = i) ∧ OwnR 41 3 insC wr w.heap.size v ls ∧ Gets (after st1 (seqD (insD bs) i)) (ls.map fun x => x) s ∧ RdS t wr B b bs s ∧ RdT b w wr) (fun _ x _ => n - (intOf x).toNat)
  case atStart => exact ⟨0, [], st1, rfl, Nat.zero_le _, rfl, OwnR.nil _ _ _ _ _, gets_none _ _, HS.out, HT.out⟩
  case round =>
    obtain ⟨i, ls, s, rfl, hin, hil, hO, hGi, hSi, hTi⟩ := hrel
    obtain ⟨va, vc, rfl⟩ := row_shape hO
    have HGi := Lib.hid hGi
    have HTi := Lib.hid hTi
    have hsz := hTi.size
    clear hGi hTi
    by_cases hlt : i < n
    · have hlt' : (i : Int) < (n : Int) := by omega
      cases s with
      | error x =>
        obtain ⟨c2, _, c2', _⟩ := hSi.errC
        have HSi := Lib.hid hSi
        clear hSi
        go_wp2
        go_ret
        exact ⟨_, ls, .error x, rfl, gets_list HG.out (gets_late HGi.out hin), by have := hil.out; omega, hO, HSi.out, HTi.out⟩
      | ok p =>
        obtain ⟨c2, _⟩ := hSi.okC
        have NX := Lib.hid (ST.out wr _ hSi)
        clear hSi
        go_wp2_with fail
        refine NX.out.mono ?_
        rintro e' w2 ⟨a, s', rfl, hG2, _, hS2, hT2⟩
        have hO2 := hO.touch hT2 hbl
        have HG2 := Lib.hid hG2
        have HS2 := Lib.hid hS2
        have HT2 := Lib.hid (HTi.out.trans hT2)
        have hsz2 := hT2.size
        clear hG2 hS2 hT2 NX c2 hO
        go_wp2_with (at_builtin; refine wpList_append_own_at _ rfl _ _ 42 rfl w.heap.size 41 i0 _ 3 24 Try.underlying42 Z.out.1 Z.out.2.1 Z.out.2.2.1 Z.out.2.2.2 rfl (by decide) _ ls.length (ls.flatMap insC) rfl (own_grewG hO2 ((Below.refl _ _).alloc (Nat.le_refl _) _)) ⟨w2.heap.size, 0, none⟩ 1 1 (insC a) rfl rfl (World.news_of_block (Blk.new _ _ _)) (by simp [Value.oneCell', insC]) (by have := hil.out; unfold maxLen; omega) (by have := hil.out; omega) (by simp; omega) ?_; intro v' w3 hown' hgrow _ hat; obtain ⟨ga, gc, rfl⟩ := row_shape hown'; have HA := Lib.hid (list_kept HS2.out hbl hO2 hgrow HT2.out); clear hgrow hat)
        go_roundw
        case rel => exact ⟨i + 1, ls ++ [a], s', by go_num, by omega, by unfold Hid; rw [List.length_append, hil.out]; rfl, own_app hown', by rw [List.map_append]; exact gets_one HGi.out HG2.out, HA.out.1, HA.out.2⟩
        case measure => simp [intOf]; omega
    · have hlt' : ¬ (i : Int) < (n : Int) := by omega
      obtain rfl : i = n := by omega
      have HSi := Lib.hid hSi
      clear hSi
      go_wp2
      go_ret
      exact ⟨_, ls, s, rfl, gets_list HG.out HGi.out, by have := hil.out; omega, hO, HSi.out, HTi.out⟩
end Go.Proofs.Ytffelcidckbohaa
/- code's reader: names, types, fields, instructions. Condition: the reader is there. -/
namespace Go.Proofs.Ytffelcidckbohaa
open Go.RowKit
set_option linter.unusedVariables false
theorem conv_rowD {w : World} {B : Nat} {v : Value} {l : List UInt8} (h : w.ownsRow B 5 1 v l.length (u8L l)) : (convert 22 9 v).run Try.prog w = .ok (.string ⟨l.toArray⟩) w := by
  obtain ⟨a, c, rfl⟩ := row_shape h
  rcases Nat.eq_zero_or_pos l.length with h0 | h0
  · obtain rfl := List.eq_nil_of_length_eq_zero h0
    cases a with
    | none => exact run_convert_bytes_string w 22 9 5 none 0 c Try.underlying22 Try.underlying5 Try.underlying9
    | some ad => exact run_convert_bytes_back w 22 9 5 ad c [] Try.underlying22 Try.underlying5 Try.underlying9 (fun j hj => absurd hj (by simp))
  · obtain ⟨g, cap, e1, q1, q2, q3, q4, q5⟩ := own_cellG h h0
    injection e1 with e1 e2 e3
    subst e1 e3
    exact run_convert_bytes_back w 22 9 5 ⟨g, 0, none⟩ _ l Try.underlying22 Try.underlying5 Try.underlying9 (fun j hj => by
      rw [add_at, Nat.zero_add]
      exact q5 j _ (by simp [u8L, hj]))
section
variable {t : TypeId} {w : World} {B b : Nat} {bs : List UInt8} {st : St}
theorem RdS.atC (h : RdS t w B b bs st) : ∃ q : Nat, q ≤ 65536 ∧ w.cell? ⟨b, 1, none⟩ = some (.int .i64 (q : Int)) ∧ ∀ p, st = .ok p → q = p := by
  cases st with
  | ok p => exact ⟨p, h.okC.2.2, h.okC.2.1, fun _ e => by injection e⟩
  | error x => obtain ⟨_, _, _, q, h1, h2⟩ := h.errC; exact ⟨q, h1, h2, fun _ e => by cases e⟩
end
theorem flat_byt (l : List UInt8) : l.flatMap bytC = u8L l := by
  induction l with
  | nil => rfl
  | cons x l ih => rw [List.flatMap_cons, ih]; rfl
theorem map_id' {α : Type} (l : List α) : l.map (fun x => x) = l := by simp
theorem nextV (t : TypeId) (w : World) (B b : Nat) (bs : List UInt8) (st : St) (h : RdS t w B b bs st) :
    Calls Try.prog 37 #[.pointer (some ⟨b, 0, none⟩)] w (ReadsV (fun x : UInt8 => Value.int .u8 (x.toNat : Int)) (fun x => x) NoInn t B b bs (after st (nextD bs)) w) :=
  (next_any t w B b bs st h).mono fun e' w' ⟨x, s, h1, h2, h3, h4, h5⟩ => ⟨x, s, h1, h2, trivial, h4, h5⟩
set_option maxRecDepth 100000 in
set_option maxHeartbeats 2000000 in
theorem rdname_any (t : TypeId) (w : World) (B b : Nat) (bs : List UInt8) (st : St) (h : RdS t w B b bs st) :
    Calls Try.prog 39 #[.pointer (some ⟨b, 0, none⟩)] w (ReadsV (fun l : List UInt8 => Value.string (bytA l)) (fun x => x) NoInn t B b bs (after st (txtD bs)) w) := by
  have L := Lib.hid (list_byt t w B b bs st 16 h (by decide) (fun W s hs => nextV t W B b bs s hs))
  clear h
  go_enter Try.func39, Try.ntmps39
  go_wp2_with fail
  refine L.out.mono ?_
  rintro e' w1 ⟨v, l, s, rfl, hG, hl, hO, hS, hT⟩
  unfold OwnR at hO
  rw [flat_byt] at hO
  have HC := conv_rowD hO
  obtain ⟨va, vc, rfl⟩ := row_shape hO
  rw [map_id'] at hG
  have HH := Lib.hid (And.intro hG (And.intro hS hT))
  clear hG hS hT hO L
  go_wp2
  go_ret
  exact ⟨l, s, rfl, HH.out.1, trivial, HH.out.2⟩
theorem gets_kind_big {bs : List UInt8} {st s1 : St} {x : UInt8} {q : Nat} (hG : Gets (after st (nextD bs)) x s1) (h0 : ∀ y, s1 = .error y → x = 0) (hq : ∀ p, st = .ok p → q = p) (h2 : 2 < x.toNat) : Gets (after st (kindD bs)) (x.toNat : Int) (failS s1 (32, (q : Int))) := by
  rcases hG with ⟨p, h1, h3⟩ | ⟨e, h1, h3⟩
  · cases st with
    | error y => cases h1
    | ok p0 =>
      subst h3
      obtain rfl := hq _ rfl
      rw [after_ok] at h1
      exact .inr ⟨_, by rw [after_ok, kindD, h1, bindD_ok, if_pos h2], rfl⟩
  · rw [h0 _ h3] at h2
    exact absurd h2 (by decide)
theorem gets_kind_ok {bs : List UInt8} {st s1 : St} {x : UInt8} (hG : Gets (after st (nextD bs)) x s1) (h2 : ¬ 2 < x.toNat) : Gets (after st (kindD bs)) (x.toNat : Int) s1 := by
  rcases hG with ⟨p, h1, h3⟩ | ⟨e, h1, h3⟩
  · cases st with
    | error y => cases h1
    | ok p0 =>
      rw [after_ok] at h1
      exact .inl ⟨p, by rw [after_ok, kindD, h1, bindD_ok, if_neg h2], h3⟩
  · cases st with
    | error y => exact .inr ⟨e, by rw [after_err] at h1 ⊢; injection h1 with h1; rw [h1], h3⟩
    | ok p0 =>
      rw [after_ok] at h1
      exact .inr ⟨e, by rw [after_ok, kindD, h1, bindD_err], h3⟩
set_option maxRecDepth 100000 in
set_option maxHeartbeats 2000000 in
theorem rdkind_any (t : TypeId) (w : World) (B b : Nat) (bs : List UInt8) (st : St) (h : RdS t w B b bs st) :
    Calls Try.prog 43 #[.pointer (some ⟨b, 0, none⟩)] w (ReadsV (fun x : Int => Value.int .i64 x) (fun x => x) NoInn t B b bs (after st (kindD bs)) w) := by
  obtain ⟨q, hq6, c1, hq⟩ := h.atC
  have N := Lib.hid (next_any t w B b bs st h)
  have HQ := Lib.hid hq
  clear h hq
  go_enter Try.func43, Try.ntmps43
  go_wp2_with fail
  refine N.out.mono ?_
  rintro e' w1 ⟨x, s1, rfl, hG, h0, hS, hT⟩
  have hx := x.toNat_lt
  have HG := Lib.hid (And.intro hG h0)
  have HS := Lib.hid hS
  have HT := Lib.hid hT
  clear hG h0 hS hT N c1
  by_cases h2 : 2 < x.toNat
  · have h2' : (2 : Int) < (x.toNat : Int) := by omega
    go_wp2_with fail
    refine (HS.out.failed (q : Int) 32 (by decide)).mono ?_
    rintro e' w2 ⟨⟨u, rfl⟩, hS2, hT2⟩
    have H2 := Lib.hid (And.intro hS2 hT2)
    clear hS2 hT2
    go_wp2
    go_ret
    exact ⟨(x.toNat : Int), _, rfl, gets_kind_big HG.out.1 HG.out.2 HQ.out h2, trivial, H2.out.1, HT.out.trans H2.out.2⟩
  · have h2' : ¬ (2 : Int) < (x.toNat : Int) := by omega
    go_wp2
    go_ret
    exact ⟨(x.toNat : Int), _, rfl, gets_kind_ok HG.out.1 h2, trivial, HS.out, HT.out⟩
theorem gets_fld {bs : List UInt8} {st s1 s2 : St} {l : List UInt8} {x : Int} (h1 : Gets (after st (txtD bs)) l s1) (h2 : Gets (after s1 (kindD bs)) x s2) : Gets (after st (fldD bs)) (FldD.mk (bytA l) x) s2 := by
  have e : after st (fldD bs) = bindD (after st (txtD bs)) fun l q => bindD (kindD bs q) fun t r => .ok (⟨bytA l, t⟩, r) := after_bind st _ _
  rw [e]
  refine h1.bind ?_
  rw [after_bind]
  exact h2.map fun t => FldD.mk (bytA l) t
set_option maxRecDepth 100000 in
set_option maxHeartbeats 2000000 in
theorem rdfield_any (t : TypeId) (w : World) (B b : Nat) (bs : List UInt8) (st : St) (h : RdS t w B b bs st) :
    Calls Try.prog 41 #[.pointer (some ⟨b, 0, none⟩)] w (ReadsV (fun x : FldD => Value.agg #[.string x.name, .int .i64 x.ty]) (fun x => x) NoInn t B b bs (after st (fldD bs)) w) := by
  have hb0 := (Below.refl w.heap.size w).alloc (Nat.le_refl _) (.cells #[.string ⟨#[]⟩, .int .i64 0] 66)
  have hbl := h.lt
  have N := Lib.hid (rdname_any t _ B b bs st (h.grew hb0))
  have k0 := Lib.hid (Blk.new w #[.string ⟨#[]⟩, .int .i64 0] 66)
  have HB0 := Lib.hid hb0
  clear h hb0
  go_enter Try.func41, Try.ntmps41
  go_wp2_with fail
  refine N.out.mono ?_
  rintro e' w1 ⟨l, s1, rfl, hG1, _, hS1, hT1⟩
  have k1 := Lib.hid (k0.out.touch hT1 (by omega))
  have K := Lib.hid (rdkind_any t w1 B b bs s1 hS1)
  have HG1 := Lib.hid hG1
  have HT1 := Lib.hid (Touch.trans (Touch.of HB0.out) hT1)
  clear hG1 hS1 hT1 N k0 HB0
  go_wp2_with fail
  refine K.out.mono ?_
  rintro e' w2 ⟨x, s2, rfl, hG2, _, hS2, hT2⟩
  have k2 := k1.out.touch hT2 (by omega)
  have y0 := k2.val 0 rfl
  have y1 := k2.val 1 rfl
  have f0 := k2.frozen 0
  have f1 := k2.frozen 1
  have hsz := HT1.out.size
  have hT3 := ((Touch.refl (fun y => w.heap.size ≤ y) w2).setCell (p := ⟨w.heap.size, 0, none⟩) (Nat.le_refl _) (.string (bytA l))).setCell (p := ⟨w.heap.size, 1, none⟩) (Nat.le_refl _) (.int .i64 x)
  have HZ := Lib.hid ((k2.set 0 (.string (bytA l))).set 1 (.int .i64 x))
  have HE := Lib.hid (And.intro (gets_fld HG1.out hG2) (new_kept hS2 hbl (HT1.out.trans hT2) hT3))
  clear hG2 hS2 hT2 K k1 k2 HG1 HT1 hT3
  go_wp2
  generalize World.setCell (World.setCell _ _ _) _ _ = W9 at *
  have z0 := HZ.out.val 0 rfl
  have z1 := HZ.out.val 1 rfl
  refine bodyPost_ret (v := .agg #[.string (bytA l), .int .i64 x]) (by simp [results, Try.results41, go_sem, z0, z1]) rfl ⟨⟨bytA l, x⟩, s2, rfl, HE.out.1, trivial, HE.out.2⟩
end Go.Proofs.Ytffelcidckbohaa
/- code's reader: an instruction. Condition: the reader is there. -/
namespace Go.Proofs.Ytffelcidckbohaa
open Go.RowKit
set_option linter.unusedVariables false
set_option maxHeartbeats 1000000 in
theorem unfold_any (n : Nat) (w : World) (hn : n < 18446744073709551616) : Calls Try.prog 62 #[.int .u64 n] w fun e w' => e = .returned (.int .i64 (unfI n)) ∧ w = w' := by
  have e1 : bits .and .u64 (n : Int) 1 = ((n % 2 : Nat) : Int) := by
    rw [show (1 : Int) = ((1 : Nat) : Int) from rfl, bits_and_u64_nat _ _ hn (by decide), Nat.and_one_is_mod]
  have HX : Hid (bits .xor .i64 (-1) ((n / 2 : Nat) : Int) = -1 - ((n / 2 : Nat) : Int)) := i64_not _ (by omega)
  have E1 := Lib.hid e1
  by_cases h : n % 2 = 1
  · have HU : Hid (-1 - ((n / 2 : Nat) : Int) = unfI n) := by unfold Hid unfI; rw [if_pos h]; omega
    have hc : (bits .and .u64 (n : Int) 1 == 1) = true := by rw [e1, h]; rfl
    clear e1
    go_enter Try.func62, Try.ntmps62
    go_wp2
    go_ret
    refine ⟨ret_int ?_, rfl⟩
    rw [← HU.out, ← HX.out]
    congr 1
  · have HU : Hid (((n / 2 : Nat) : Int) = unfI n) := by unfold Hid unfI; rw [if_neg h]
    have hc : (bits .and .u64 (n : Int) 1 == 1) = false := by rw [e1]; simp; omega
    clear e1
    go_enter Try.func62, Try.ntmps62
    go_wp2
    go_ret
    refine ⟨ret_int ?_, rfl⟩
    rw [← HU.out]
    omega
theorem gets_pure {α : Type} (s : St) (a : α) : Gets (after s (fun q => (.ok (a, q) : Rd α))) a s := by
  cases s with
  | ok q => exact .inl ⟨q, rfl, rfl⟩
  | error x => exact .inr ⟨x, rfl, rfl⟩
theorem gets_ins {bs : List UInt8} {st s1 s2 s3 : St} {x : UInt8} {a m : Int} (h1 : Gets (after st (nextD bs)) x s1) (hx : ¬ opsI (x.toNat : Int) < 0) (h2 : Gets (after s1 (argA bs x.toNat)) a s2) (h3 : Gets (after s2 (argB bs x.toNat)) m s3) : Gets (after st (insD bs)) (InsD.mk x.toNat a m) s3 := by
  have e : after st (insD bs) = bindD (after st (nextD bs)) fun b q => if opsI (b.toNat : Int) < 0 then .error (30, 0) else bindD (argA bs b.toNat q) fun a r => bindD (argB bs b.toNat r) fun m s => .ok (⟨b.toNat, a, m⟩, s) := by
    cases st with
    | error y => rfl
    | ok p =>
      rw [after_ok, after_ok, insD]
      rcases h1 with ⟨q, h1, _⟩ | ⟨y, h1, _⟩
      · rw [after_ok] at h1
        rw [h1, bindD_ok, bindD_ok, if_neg hx, if_neg hx]
      · rw [after_ok] at h1
        rw [h1]; rfl
  rw [e]
  refine h1.bind ?_
  have e2 : after s1 (fun q => if opsI (x.toNat : Int) < 0 then (.error (30, 0) : Rd InsD) else bindD (argA bs x.toNat q) fun a r => bindD (argB bs x.toNat r) fun m s => .ok (⟨x.toNat, a, m⟩, s)) = bindD (after s1 (argA bs x.toNat)) fun a r => bindD (argB bs x.toNat r) fun m s => .ok (⟨x.toNat, a, m⟩, s) := by
    cases s1 with
    | error y => rfl
    | ok p => rw [after_ok, if_neg hx]; rfl
  rw [e2]
  refine h2.bind ?_
  rw [after_bind]
  exact h3.map fun m => InsD.mk x.toNat a m
theorem gets_ins_bad {bs : List UInt8} {st s1 : St} {x : UInt8} {q : Nat} (h1 : Gets (after st (nextD bs)) x s1) (hq : ∀ p, st = .ok p → q = p) (hx : opsI (x.toNat : Int) < 0) (a m : Int) : Gets (after st (insD bs)) (InsD.mk x.toNat a m) (failS s1 (30, (q : Int))) := by
  rcases h1 with ⟨p, h1, h3⟩ | ⟨e, h1, h3⟩
  · cases st with
    | error y => cases h1
    | ok p0 =>
      subst h3
      obtain rfl := hq _ rfl
      rw [after_ok] at h1
      exact .inr ⟨_, by rw [after_ok, insD, h1, bindD_ok, if_pos hx], rfl⟩
  · subst h3
    cases st with
    | error y => exact .inr ⟨e, by rw [after_err] at h1 ⊢; injection h1 with h1; rw [h1], rfl⟩
    | ok p0 =>
      rw [after_ok] at h1
      exact .inr ⟨e, by rw [after_ok, insD, h1, bindD_err], rfl⟩
theorem argA_one {bs : List UInt8} {s s' : St} {n : Nat} (h : Gets (after s (numD bs 18446744073709551615)) n s') : Gets (after s (argA bs 1)) (unfI n) s' := by
  have e : argA bs 1 = fun q => bindD (numD bs 18446744073709551615 q) fun n r => .ok (unfI n, r) := by funext q; rw [argA, if_pos rfl]
  rw [e, after_bind]
  exact h.map unfI
theorem argA_num {bs : List UInt8} {s s' : St} {n x : Nat} (hx : x ≠ 1) (ho : 1 ≤ opsI (x : Int)) (h : Gets (after s (numD bs 2147483647)) n s') : Gets (after s (argA bs x)) (n : Int) s' := by
  have e : argA bs x = fun q => bindD (numD bs 2147483647 q) fun n r => .ok ((n : Int), r) := by funext q; rw [argA, if_neg hx, if_pos ho]
  rw [e, after_bind]
  exact h.map fun n => (n : Int)
theorem argA_no {bs : List UInt8} {s : St} {x : Nat} (hx : x ≠ 1) (ho : ¬ 1 ≤ opsI (x : Int)) : Gets (after s (argA bs x)) 0 s := by
  have e : argA bs x = fun q => .ok (0, q) := by funext q; rw [argA, if_neg hx, if_neg ho]
  rw [e]
  exact gets_pure s 0
theorem argB_num {bs : List UInt8} {s s' : St} {n x : Nat} (ho : opsI (x : Int) = 2) (h : Gets (after s (numD bs 2147483647)) n s') : Gets (after s (argB bs x)) (n : Int) s' := by
  have e : argB bs x = fun q => bindD (numD bs 2147483647 q) fun n r => .ok ((n : Int), r) := by funext q; rw [argB, if_pos ho]
  rw [e, after_bind]
  exact h.map fun n => (n : Int)
theorem argB_no {bs : List UInt8} {s : St} {x : Nat} (ho : ¬ opsI (x : Int) = 2) : Gets (after s (argB bs x)) 0 s := by
  have e : argB bs x = fun q => .ok (0, q) := by funext q; rw [argB, if_neg ho]
  rw [e]
  exact gets_pure s 0
/-- the reader, the result's block and the instruction's, between two calls -/
structure InS (t : TypeId) (w : World) (B b bi : Nat) (bs : List UInt8) (x a m : Int) (s : St) (W : World) : Prop where
  rd : RdS t W B b bs s
  k0 : Blk W w.heap.size #[.int .i64 0, .int .i64 0, .int .i64 0] 41
  ki : Blk W bi #[.int .i64 x, .int .i64 a, .int .i64 m] 41
  tb : RdT b w W
  bl : b < w.heap.size
  il : w.heap.size < bi
section
variable {t : TypeId} {w W W' : World} {B b bi : Nat} {bs : List UInt8} {x a m : Int} {s s' : St}
theorem InS.step (h : InS t w B b bi bs x a m s W) (hS : RdS t W' B b bs s') (hT : RdT b W W') : InS t w B b bi bs x a m s' W' :=
  ⟨hS, h.k0.touch hT (fun e => by have := h.bl; omega), h.ki.touch hT (fun e => by have := h.bl; have := h.il; omega), h.tb.trans hT, h.bl, h.il⟩
theorem InS.seta (h : InS t w B b bi bs x a m s W) (v : Int) : InS t w B b bi bs x v m s (W.setCell ⟨bi, 1, none⟩ (.int .i64 v)) := by
  have hT := (Touch.refl (fun y => y = bi) W).setCell (p := ⟨bi, 1, none⟩) rfl (.int .i64 v)
  obtain ⟨h1, h2⟩ := new_kept h.rd h.bl h.tb (hT.mono fun y _ e => by have := h.il; omega)
  exact ⟨h1, h.k0.touch hT (fun e => by have := h.il; omega), h.ki.set 1 _, h2, h.bl, h.il⟩
theorem InS.setm (h : InS t w B b bi bs x a m s W) (v : Int) : InS t w B b bi bs x a v s (W.setCell ⟨bi, 2, none⟩ (.int .i64 v)) := by
  have hT := (Touch.refl (fun y => y = bi) W).setCell (p := ⟨bi, 2, none⟩) rfl (.int .i64 v)
  obtain ⟨h1, h2⟩ := new_kept h.rd h.bl h.tb (hT.mono fun y _ e => by have := h.il; omega)
  exact ⟨h1, h.k0.touch hT (fun e => by have := h.il; omega), h.ki.set 2 _, h2, h.bl, h.il⟩
theorem InS.cells (h : InS t w B b bi bs x a m s W) : (W.cell? ⟨bi, 0, none⟩ = some (.int .i64 x) ∧ W.cell? ⟨bi, 1, none⟩ = some (.int .i64 a) ∧ W.cell? ⟨bi, 2, none⟩ = some (.int .i64 m)) ∧ W.frozen? ⟨bi, 1, none⟩ = false ∧ W.frozen? ⟨bi, 2, none⟩ = false :=
  ⟨⟨h.ki.val 0 rfl, h.ki.val 1 rfl, h.ki.val 2 rfl⟩, h.ki.frozen 1, h.ki.frozen 2⟩
theorem InS.res (h : InS t w B b bi bs x a m s W) : (W.cell? ⟨w.heap.size, 0, none⟩ = some (.int .i64 0) ∧ W.cell? ⟨w.heap.size, 1, none⟩ = some (.int .i64 0) ∧ W.cell? ⟨w.heap.size, 2, none⟩ = some (.int .i64 0)) ∧ W.frozen? ⟨w.heap.size, 0, none⟩ = false ∧ W.frozen? ⟨w.heap.size, 1, none⟩ = false ∧ W.frozen? ⟨w.heap.size, 2, none⟩ = false :=
  ⟨⟨h.k0.val 0 rfl, h.k0.val 1 rfl, h.k0.val 2 rfl⟩, h.k0.frozen 0, h.k0.frozen 1, h.k0.frozen 2⟩
theorem InS.out (h : InS t w B b bi bs x a m s W) : Blk (((W.setCell ⟨w.heap.size, 0, none⟩ (.int .i64 x)).setCell ⟨w.heap.size, 1, none⟩ (.int .i64 a)).setCell ⟨w.heap.size, 2, none⟩ (.int .i64 m)) w.heap.size #[.int .i64 x, .int .i64 a, .int .i64 m] 41 ∧
    RdS t (((W.setCell ⟨w.heap.size, 0, none⟩ (.int .i64 x)).setCell ⟨w.heap.size, 1, none⟩ (.int .i64 a)).setCell ⟨w.heap.size, 2, none⟩ (.int .i64 m)) B b bs s ∧ RdT b w (((W.setCell ⟨w.heap.size, 0, none⟩ (.int .i64 x)).setCell ⟨w.heap.size, 1, none⟩ (.int .i64 a)).setCell ⟨w.heap.size, 2, none⟩ (.int .i64 m)) :=
  ⟨((h.k0.set 0 _).set 1 _).set 2 _, new_kept h.rd h.bl h.tb ((((Touch.refl (fun y => w.heap.size ≤ y) W).setCell (p := ⟨w.heap.size, 0, none⟩) (Nat.le_refl _) _).setCell (p := ⟨w.heap.size, 1, none⟩) (Nat.le_refl _) _).setCell (p := ⟨w.heap.size, 2, none⟩) (Nat.le_refl _) _)⟩
end
set_option maxRecDepth 100000 in
set_option maxHeartbeats 4000000 in
theorem rdins_any (t : TypeId) (w : World) (B b : Nat) (bs : List UInt8) (st : St) (h : RdS t w B b bs st) :
    Calls Try.prog 45 #[.pointer (some ⟨b, 0, none⟩)] w (ReadsV (fun x : InsD => Value.agg #[.int .i64 x.op, .int .i64 x.a, .int .i64 x.b]) (fun x => x) NoInn t B b bs (after st (insD bs)) w) := by
  have hb0 := (Below.refl w.heap.size w).alloc (Nat.le_refl _) (.cells #[.int .i64 0, .int .i64 0, .int .i64 0] 41)
  have hbl := h.lt
  obtain ⟨q, hq6, c1, hq⟩ := (h.grew hb0).atC
  have N := Lib.hid (next_any t _ B b bs st (h.grew hb0))
  have k0 := Lib.hid (Blk.new w #[.int .i64 0, .int .i64 0, .int .i64 0] 41)
  have HB0 := Lib.hid hb0
  have HQ := Lib.hid hq
  clear h hb0 hq
  go_enter Try.func45, Try.ntmps45
  go_wp2_with fail
  refine N.out.mono ?_
  rintro e' w1 ⟨x, s1, rfl, hG, h0, hS, hT⟩
  have hx := x.toNat_lt
  have hT1 := Touch.trans (Touch.of HB0.out) hT
  have kI : InS t w B b w1.heap.size bs (x.toNat : Int) 0 0 s1 (w1.alloc (.cells #[.int .i64 (x.toNat : Int), .int .i64 0, .int .i64 0] 41)) :=
    ⟨hS.grew ((Below.refl _ _).alloc (Nat.le_refl _) _), (k0.out.touch hT (by omega)).alloc _, Blk.new _ _ _, hT1.alloc _, hbl, by have := (k0.out.touch hT (by omega)).lt; omega⟩
  have HG := Lib.hid (And.intro hG h0)
  clear hG h0 hS hT hT1 N k0 HB0 c1
  obtain ⟨⟨y0, y1, y2⟩, f1, f2⟩ := kI.cells
  go_wp2_with fail
  have HI := Lib.hid kI
  clear kI
  generalize w1.alloc (.cells #[.int .i64 (x.toNat : Int), .int .i64 0, .int .i64 0] 41) = w2 at *
  generalize w1.heap.size = bi at *
  refine (operands_any _ _).mono ?_
  rintro e' w3 ⟨rfl, rfl⟩
  by_cases hneg : opsI (x.toNat : Int) < 0
  · have HF := Lib.hid (gets_ins_bad HG.out.1 HQ.out hneg 0 0)
    have hn1 : ((x.toNat : Int) == 1) = false := by
      have : ¬ x.toNat = 1 := fun e => by rw [e] at hneg; exact absurd hneg (by decide)
      simp; omega
    generalize opsI (x.toNat : Int) = op at *
    have ho1 : ¬ (1 : Int) ≤ op := by omega
    have ho2 : (op == 2) = false := by simp; omega
    go_wp2_with fail
    refine (HI.out.rd.failed (q : Int) 30 (by decide)).mono ?_
    rintro e' w4 ⟨⟨u, rfl⟩, hS4, hT4⟩
    have I4 := Lib.hid (HI.out.step hS4 hT4)
    clear hS4 hT4 HI y0 y1 y2 f1 f2
    obtain ⟨⟨y0, y1, y2⟩, _, _⟩ := I4.out.cells
    obtain ⟨⟨r0, r1, r2⟩, g0, g1, g2⟩ := I4.out.res
    have HZ := Lib.hid I4.out.out
    clear I4
    go_wp2
    generalize World.setCell (World.setCell (World.setCell _ _ _) _ _) _ _ = W9 at *
    have z0 := HZ.out.1.val 0 rfl
    have z1 := HZ.out.1.val 1 rfl
    have z2 := HZ.out.1.val 2 rfl
    refine bodyPost_ret (v := .agg #[.int .i64 (x.toNat : Int), .int .i64 (0), .int .i64 (0)]) (by simp [results, Try.results45, go_sem, z0, z1, z2]) rfl ⟨⟨x.toNat, 0, 0⟩, _, rfl, HF.out, trivial, HZ.out.2⟩
  · by_cases hone : x.toNat = 1
    · have hx1 : x = 1 := by rw [← UInt8.toNat_inj]; exact hone
      subst hx1
      have ho : opsI (((1 : UInt8).toNat : Nat) : Int) = 1 := by decide
      have HO := Lib.hid ho
      have HH := Lib.hid hneg
      have HI : Hid (InS t w B b bi bs 1 0 0 s1 w2) := HI
      have y0 : w2.cell? ⟨bi, 0, none⟩ = some (.int .i64 1) := y0
      rw [ho]
      clear hneg ho hone hx
      go_wp2_with fail
      refine (numr_any t _ B b bs _ 18446744073709551615 HI.out.rd (by decide)).mono ?_
      rintro e' w4n ⟨n, s4, rfl, hGn, h0n, hSn, hTn⟩
      have hnn := num_le hGn h0n
      have HNn := Lib.hid hGn
      have In := Lib.hid (HI.out.step hSn hTn)
      clear hGn h0n hSn hTn
      obtain ⟨⟨y0, y1, y2⟩, f1, f2⟩ := In.out.cells
      go_wp2_with fail
      refine (unfold_any n _ (by omega)).mono ?_
      rintro e' w5n ⟨rfl, rfl⟩
      have I4 := Lib.hid (In.out.seta (unfI n))
      clear In HI
      obtain ⟨⟨y0, y1, y2⟩, _, _⟩ := I4.out.cells
      obtain ⟨⟨r0, r1, r2⟩, g0, g1, g2⟩ := I4.out.res
      have HZ := Lib.hid I4.out.out
      clear I4
      go_wp2
      generalize World.setCell (World.setCell (World.setCell _ _ _) _ _) _ _ = W9 at *
      have z0 := HZ.out.1.val 0 rfl
      have z1 := HZ.out.1.val 1 rfl
      have z2 := HZ.out.1.val 2 rfl
      refine bodyPost_ret (v := .agg #[.int .i64 1, .int .i64 (unfI n), .int .i64 (0)]) (by simp [results, Try.results45, go_sem, z0, z1, z2]) rfl ⟨⟨(((1 : UInt8).toNat : Nat) : Int), unfI n, 0⟩, s4, rfl, gets_ins HG.out.1 (by have := HH.out; omega) (argA_one HNn.out) (argB_no (by rw [HO.out]; decide)), trivial, HZ.out.2⟩
    · have hn1 : ((x.toNat : Int) == 1) = false := by simp; omega
      have HH := Lib.hid hneg
      have HC := Lib.hid (opsI_cases (x.toNat : Int))
      by_cases h2 : opsI (x.toNat : Int) = 2
      · have HO := Lib.hid h2
        rw [h2]
        clear h2 hneg
        go_wp2_with fail
        refine (numr_any t _ B b bs _ 2147483647 HI.out.rd (by decide)).mono ?_
        rintro e' w4n ⟨n, s4, rfl, hGn, h0n, hSn, hTn⟩
        have hnn := num_le hGn h0n
        have HNn := Lib.hid hGn
        have In := Lib.hid (HI.out.step hSn hTn)
        clear hGn h0n hSn hTn
        obtain ⟨⟨y0, y1, y2⟩, f1, f2⟩ := In.out.cells
        have I4 := Lib.hid (In.out.seta ((n : Int)))
        clear In HI
        go_wp2_with fail
        refine (numr_any t _ B b bs _ 2147483647 I4.out.rd (by decide)).mono ?_
        rintro e' w4m ⟨m, s5, rfl, hGm, h0m, hSm, hTm⟩
        have hnm := num_le hGm h0m
        have HNm := Lib.hid hGm
        have Im := Lib.hid (I4.out.step hSm hTm)
        clear hGm h0m hSm hTm
        obtain ⟨⟨y0, y1, y2⟩, f1, f2⟩ := Im.out.cells
        have I5 := Lib.hid (Im.out.setm ((m : Int)))
        clear Im I4
        obtain ⟨⟨y0, y1, y2⟩, _, _⟩ := I5.out.cells
        obtain ⟨⟨r0, r1, r2⟩, g0, g1, g2⟩ := I5.out.res
        have HZ := Lib.hid I5.out.out
        clear I5
        go_wp2
        generalize World.setCell (World.setCell (World.setCell _ _ _) _ _) _ _ = W9 at *
        have z0 := HZ.out.1.val 0 rfl
        have z1 := HZ.out.1.val 1 rfl
        have z2 := HZ.out.1.val 2 rfl
        refine bodyPost_ret (v := .agg #[.int .i64 (x.toNat : Int), .int .i64 ((n : Int)), .int .i64 ((m : Int))]) (by simp [results, Try.results45, go_sem, z0, z1, z2]) rfl ⟨⟨x.toNat, (n : Int), (m : Int)⟩, s5, rfl, gets_ins HG.out.1 (by have := HH.out; omega) (argA_num hone (by rw [HO.out]; decide) HNn.out) (argB_num HO.out HNm.out), trivial, HZ.out.2⟩
      · by_cases h1 : opsI (x.toNat : Int) = 1
        · have HO := Lib.hid h1
          rw [h1]
          clear h1 h2 hneg
          go_wp2_with fail
          refine (numr_any t _ B b bs _ 2147483647 HI.out.rd (by decide)).mono ?_
          rintro e' w4n ⟨n, s4, rfl, hGn, h0n, hSn, hTn⟩
          have hnn := num_le hGn h0n
          have HNn := Lib.hid hGn
          have In := Lib.hid (HI.out.step hSn hTn)
          clear hGn h0n hSn hTn
          obtain ⟨⟨y0, y1, y2⟩, f1, f2⟩ := In.out.cells
          have I4 := Lib.hid (In.out.seta ((n : Int)))
          clear In HI
          obtain ⟨⟨y0, y1, y2⟩, _, _⟩ := I4.out.cells
          obtain ⟨⟨r0, r1, r2⟩, g0, g1, g2⟩ := I4.out.res
          have HZ := Lib.hid I4.out.out
          clear I4
          go_wp2
          generalize World.setCell (World.setCell (World.setCell _ _ _) _ _) _ _ = W9 at *
          have z0 := HZ.out.1.val 0 rfl
          have z1 := HZ.out.1.val 1 rfl
          have z2 := HZ.out.1.val 2 rfl
          refine bodyPost_ret (v := .agg #[.int .i64 (x.toNat : Int), .int .i64 ((n : Int)), .int .i64 (0)]) (by simp [results, Try.results45, go_sem, z0, z1, z2]) rfl ⟨⟨x.toNat, (n : Int), 0⟩, s4, rfl, gets_ins HG.out.1 (by have := HH.out; omega) (argA_num hone (by rw [HO.out]; decide) HNn.out) (argB_no (by rw [HO.out]; decide)), trivial, HZ.out.2⟩
        · have h0 : opsI (x.toNat : Int) = 0 := by rcases HC.out with h | h | h | h <;> omega
          have HO := Lib.hid h0
          rw [h0]
          clear h1 h2 hneg h0
          obtain ⟨⟨y0, y1, y2⟩, _, _⟩ := HI.out.cells
          obtain ⟨⟨r0, r1, r2⟩, g0, g1, g2⟩ := HI.out.res
          have HZ := Lib.hid HI.out.out
          clear HI
          go_wp2
          generalize World.setCell (World.setCell (World.setCell _ _ _) _ _) _ _ = W9 at *
          have z0 := HZ.out.1.val 0 rfl
          have z1 := HZ.out.1.val 1 rfl
          have z2 := HZ.out.1.val 2 rfl
          refine bodyPost_ret (v := .agg #[.int .i64 (x.toNat : Int), .int .i64 (0), .int .i64 (0)]) (by simp [results, Try.results45, go_sem, z0, z1, z2]) rfl ⟨⟨x.toNat, 0, 0⟩, s1, rfl, gets_ins HG.out.1 (by have := HH.out; omega) (argA_no hone (by rw [HO.out]; decide)) (argB_no (by rw [HO.out]; decide)), trivial, HZ.out.2⟩
end Go.Proofs.Ytffelcidckbohaa
/- copyClass: a class of one's own. Condition: the class is there, its texts are not too long. -/
namespace Go.Proofs.Ytffelcidckbohaa
open Go.RowKit
set_option linter.unusedVariables false
end Go.Proofs.Ytffelcidckbohaa
