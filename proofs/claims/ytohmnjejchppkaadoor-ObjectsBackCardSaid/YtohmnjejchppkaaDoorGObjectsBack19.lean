/- Texts of this seat, one behind the other: each says at its head what it holds. No condition of its own. -/
import Derived.Maps.AppendAt
import Derived.Deep.AppendLies
import Derived.Deep.RegionHeld3
import Derived.Lib.Slices
import Derived.Lib.Walk
import Derived.StillTailTactics
import Derived.Test.YtohmnjejchppkaaDoorGObjectsBack01
import Derived.Test.YtohmnjejchppkaaDoorGObjectsBack18
/- Rows of structs of one's own (where a seat has classes alone). No condition. -/
namespace Go.Proofs.YtohmnjejchppkaaDoor
open Go.RowKit
set_option linter.unusedVariables false
theorem row_shape {W : World} {base n : Nat} {e : TypeId} {v : Value} {k : Nat} {xs : List Value} (h : W.ownsRow base e n v k xs) : ∃ a c, v = .slice a k c := by
  rcases h.2 with ⟨h1, h2⟩ | ⟨g, cap, cur, h1, _⟩
  · subst h2; exact ⟨_, _, h1⟩
  · exact ⟨_, _, h1⟩
theorem rd_shape {α : Type} {sz B : Nat} {el : World → Nat → Nat → α → Prop} {w : World} {v : Value} {l : List α} (h : RdRow sz el B w v l) : ∃ a c, v = .slice a l.length c := by
  obtain ⟨a, c, e, _⟩ := h; exact ⟨a, c, e⟩
theorem rd_at {α : Type} {sz B : Nat} {el : World → Nat → Nat → α → Prop} {w : World} {a : Option Addr} {n c i : Nat} {l : List α} (h : RdRow sz el B w (.slice a n c) l) (hi : i < l.length) : ∃ b o, a = some ⟨b, o, none⟩ ∧ b < B ∧ el w b (o + i * sz) l[i] := by
  obtain ⟨a', c', q, _, h3⟩ := h
  injection q with q1 q2 q3
  subst q1
  exact h3 i hi
theorem own_drew {w : World} {B n m : Nat} {e : TypeId} {v : Value} {xs : List Value} (h : w.ownsRow B e n v m xs) : w.drew.ownsRow B e n v m xs := h
theorem op_atC {l : List Oper} {i : Nat} {o : Oper} (h : l[i]? = some o) : l.toArray[i]? = some o := by simpa using h
theorem flat_len {α : Type} (f : α → List Value) (k : Nat) (hk : ∀ x, (f x).length = k) : ∀ l : List α, (l.flatMap f).length = l.length * k
  | [] => by simp
  | x :: r => by rw [List.flatMap_cons, List.length_append, hk, flat_len f k hk r, List.length_cons, Nat.add_mul]; omega
theorem flat_at {α : Type} (f : α → List Value) (k : Nat) (hk : ∀ x, (f x).length = k) : ∀ (l : List α) (i j : Nat) (hi : i < l.length), j < k → (l.flatMap f)[i * k + j]? = (f (l[i]'hi))[j]?
  | x :: r, 0, j, hi, hj => by
    rw [List.flatMap_cons, List.getElem?_append_left (by rw [hk]; omega)]
    simp
  | x :: r, i + 1, j, hi, hj => by
    rw [List.flatMap_cons, List.getElem?_append_right (by rw [hk, Nat.add_mul]; omega), hk, show (i + 1) * k + j - k = i * k + j by rw [Nat.add_mul]; omega]
    exact flat_at f k hk r i j (by simpa using hi) hj
theorem flat_in {α : Type} {f : α → List Value} {l : List α} (h : ∀ x, ∀ u ∈ f x, u.oneCell' = true) : ∀ u ∈ l.flatMap f, u.oneCell' = true := by
  intro u hu
  obtain ⟨x, _, hx⟩ := List.mem_flatMap.1 hu
  exact h x u hx
theorem own_grewG {w w' : World} {base : Nat} {e : TypeId} {size : Nat} {v : Value} {n : Nat} {xs : List Value} (h : w.ownsRow base e size v n xs) (hb : Below w.heap.size w w') : w'.ownsRow base e size v n xs := by
  obtain ⟨e1, e2⟩ := h
  refine ⟨e1, ?_⟩
  rcases e2 with e2 | ⟨g, cap, cur, a1, a2, a3, a4⟩
  · exact .inl e2
  · exact .inr ⟨g, cap, cur, a1, a2, (hb.block g (Array.getElem?_eq_some_iff.1 a3).1).trans a3, a4⟩
theorem own_sub {w : World} {b b' : Nat} {e : TypeId} {size : Nat} {v : Value} {n : Nat} {xs : List Value} (h : w.ownsRow b e size v n xs) (hb : b' ≤ b) : w.ownsRow b' e size v n xs := by
  obtain ⟨e1, e2⟩ := h
  refine ⟨e1, ?_⟩
  rcases e2 with e2 | ⟨g, cap, cur, a1, a2, a3⟩
  · exact .inl e2
  · exact .inr ⟨g, cap, cur, a1, by omega, a3⟩
theorem own_ltG {w : World} {b : Nat} {e : TypeId} {size : Nat} {v : Value} {n : Nat} {xs : List Value} (h : w.ownsRow b e size v n xs) {g : Nat} (hg : v.ownBlock = some g) : b ≤ g ∧ g < w.heap.size := by
  rcases h.2 with ⟨h1, _⟩ | ⟨q, cap, cur, a1, a2, a3, _⟩
  · rw [h1] at hg; cases hg
  · rw [a1] at hg
    obtain rfl : q = g := Option.some.inj hg
    exact ⟨a2, (Array.getElem?_eq_some_iff.1 a3).1⟩
/-- the cells of a row of one's own -/
theorem own_cellG {w : World} {b : Nat} {e : TypeId} {size : Nat} {v : Value} {n : Nat} {xs : List Value} (h : w.ownsRow b e size v n xs) (hn : 0 < n) : ∃ g cap, v = .slice (some ⟨g, 0, none⟩) n cap ∧ b ≤ g ∧ g < w.heap.size ∧ n ≤ cap ∧ cap ≤ maxLen ∧ ∀ j u, xs[j]? = some u → w.cell? ⟨g, j, none⟩ = some u := by
  obtain ⟨e1, e2⟩ := h
  rcases e2 with ⟨_, h0⟩ | ⟨g, cap, cur, a1, a2, a3, a4, a5, a6, a7⟩
  · omega
  · refine ⟨g, cap, a1, a2, (Array.getElem?_eq_some_iff.1 a3).1, a4, a5, fun j u hu => ?_⟩
    rw [cell_of_row w g j cur e (0, 0) a3]
    rw [← a7] at hu
    have h5 := (List.getElem?_eq_some_iff.1 hu).1
    rw [List.length_take] at h5
    rw [List.getElem?_take, if_pos (by omega)] at hu
    simpa using hu
/-- append of a slice of somebody else's to nothing -/
theorem app_nil {e t : TypeId} {sz bytes : Nat} {z : Value} {i0 : TypeInfo} (ht : Tryd.prog.underlying t = some (.slice e)) (hi : Tryd.prog.info? e = some i0) (hz : i0.zero = some z) (hs : i0.size = sz) (hb : i0.bytes = bytes) (hzs : z.cells.size = sz) (hsz : 0 < sz)
    (w : World) (ty : TypeId) (a : Option Addr) (n c : Nat) (news : List Value) (hl : news.length = n * sz) (h1 : ∀ u ∈ news, u.oneCell' = true) (hnews : ∀ j u, news[j]? = some u → ∃ ad, a = some ad ∧ w.cell? (ad.add j) = some u) (hn : n ≤ 1000) (hby : bytes ≤ 1000) :
    ∃ v' w', (Builtin.append_ #[t, t] ty #[.slice none 0 0, .slice a n c]).run Tryd.prog w = .ok v' w' ∧ w'.ownsRow w.heap.size e sz v' n news ∧ Below w.heap.size w w' := by
  cases a with
  | none =>
    have hn0 : n = 0 := by
      rcases Nat.eq_zero_or_pos n with h | h
      · exact h
      · have h2 : 0 < news.length := by rw [hl]; exact Nat.mul_pos h hsz
        obtain ⟨ad, h3, _⟩ := hnews 0 _ (List.getElem?_eq_getElem h2)
        cases h3
    subst hn0
    have hnn : news = [] := List.eq_nil_of_length_eq_zero (by omega)
    subst hnn
    refine ⟨.slice none 0 0, w, ?_, ⟨by simp, .inl ⟨rfl, rfl⟩⟩, Below.refl _ _⟩
    have ht' := run_underlying (P := Tryd.prog) (w := w) ht
    simp [Builtin.append_, ht', sizeOf, typeInfo, hi, Builtin.lenOf, Builtin.firstCells]
  | some ad =>
    obtain ⟨v', w', hr, h2, h3, _⟩ := run_append_own_at (P := Tryd.prog) w w.heap.size t ty e i0 z sz bytes ht hi hz hs hb hzs hsz (.slice none 0 0) 0 [] ⟨by simp, .inl ⟨rfl, rfl⟩⟩ ad n c news hl (fun j u hu => by
      obtain ⟨ad', e1, e2⟩ := hnews j u hu
      obtain rfl := Option.some.inj e1
      exact e2) h1 (by unfold maxLen; omega) (by
        have : (0 + n) * bytes ≤ 1000 * 1000 := Nat.mul_le_mul (by omega) hby
        omega) (Nat.le_refl _)
    exact ⟨v', w', hr, by simpa using h2, (Below.refl _ _).grown h3 (Nat.le_refl _) (fun k hk => by cases hk)⟩
def fldC (f : FldD) : List Value := [.string f.name, .int .i64 f.ty]
def intC (x : Int) : List Value := [.int .i64 x]
def clsC (x : ClsD × Value) : List Value := [.string x.1.name, x.2]
theorem add_at (b o k : Nat) : (⟨b, o, none⟩ : Addr).add k = ⟨b, o + k, none⟩ := by unfold Addr.add; split <;> simp_all
/-- what a foreign row's cells are, place by place -/
theorem rd_news {α : Type} {sz B : Nat} {el : World → Nat → Nat → α → Prop} {f : α → List Value} {w : World} {a : Option Addr} {n c : Nat} {l : List α} (hsz : 0 < sz) (hf : ∀ x, (f x).length = sz) (hel : ∀ b k x, el w b k x → ∀ j u, (f x)[j]? = some u → w.cell? ⟨b, k + j, none⟩ = some u) (h : RdRow sz el B w (.slice a n c) l) :
    ∀ j u, (l.flatMap f)[j]? = some u → ∃ ad, a = some ad ∧ w.cell? (ad.add j) = some u := by
  intro j u hu
  have hj := (List.getElem?_eq_some_iff.1 hu).1
  rw [flat_len f sz hf] at hj
  have hi : j / sz < l.length := Nat.div_lt_of_lt_mul (by rw [Nat.mul_comm]; exact hj)
  have hd : j / sz * sz + j % sz = j := by rw [Nat.mul_comm]; exact Nat.div_add_mod j sz
  have hfa := flat_at f sz hf l (j / sz) (j % sz) hi (Nat.mod_lt _ hsz)
  rw [hd, hu] at hfa
  obtain ⟨a', c', hv, _, hall⟩ := h
  injection hv with hv1 _ _
  subst hv1
  obtain ⟨b, o, e1, _, e3⟩ := hall _ hi
  refine ⟨_, e1, ?_⟩
  have := hel _ _ _ e3 _ _ hfa.symm
  rw [add_at, ← this, Nat.add_assoc, hd]
/-- a row of one's own reads as what it holds -/
theorem own_rd {α : Type} {sz B b : Nat} {el : World → Nat → Nat → α → Prop} {f : α → List Value} {e : TypeId} {w : World} {v : Value} {l : List α} (hsz : 0 < sz) (hf : ∀ x, (f x).length = sz) (h : w.ownsRow b e sz v l.length (l.flatMap f)) (hB : w.heap.size ≤ B)
    (hel : ∀ g k x, x ∈ l → (∀ j u, (f x)[j]? = some u → w.cell? ⟨g, k + j, none⟩ = some u) → el w g k x) : RdRow sz el B w v l := by
  rcases Nat.eq_zero_or_pos l.length with h0 | h0
  · obtain rfl := List.eq_nil_of_length_eq_zero h0
    obtain ⟨a, c, rfl⟩ := row_shape h
    exact ⟨a, c, rfl, by unfold maxLen; simp, fun i hi => absurd hi (by simp)⟩
  · obtain ⟨g, cap, rfl, q1, q2, q3, q4, q5⟩ := own_cellG h h0
    refine ⟨some ⟨g, 0, none⟩, cap, rfl, by omega, fun i hi => ⟨g, 0, rfl, by omega, hel _ _ _ (List.getElem_mem hi) fun j u hu => ?_⟩⟩
    have hj : j < sz := by
      have := (List.getElem?_eq_some_iff.1 hu).1
      rw [hf] at this
      exact this
    have := q5 (i * sz + j) u (by rw [flat_at f sz hf l i j hi hj]; exact hu)
    rw [Nat.zero_add]
    exact this
theorem info_fld : (Tryd.prog.info? 128).map (fun i => (i.zero, i.size, i.bytes)) = some (some (.agg #[.string ⟨#[]⟩, .int .i64 0]), 2, 24) := by kernel_rfl
theorem info_cls : (Tryd.prog.info? 104).map (fun i => (i.zero, i.size, i.bytes)) = some (some (.agg #[.string ⟨#[]⟩, .slice none 0 0]), 2, 40) := by kernel_rfl
theorem info_intC : (Tryd.prog.info? 3).map (fun i => (i.zero, i.size, i.bytes)) = some (some (.int .i64 0), 1, 8) := by kernel_rfl
end Go.Proofs.YtohmnjejchppkaaDoor
/- slices.Clone at fields. Condition: the fields are there. -/
namespace Go.Proofs.YtohmnjejchppkaaDoor
open Go.RowKit
set_option linter.unusedVariables false
theorem elF_at {w : World} (b k : Nat) (x : FldD) (h : ElF w b k x) : ∀ j u, (fldC x)[j]? = some u → w.cell? ⟨b, k + j, none⟩ = some u := by
  intro j u hu
  match j with
  | 0 => simp [fldC] at hu; subst hu; exact h.1
  | 1 => simp [fldC] at hu; subst hu; exact h.2.1
  | j + 2 => simp [fldC] at hu
set_option maxRecDepth 100000 in
set_option maxHeartbeats 1000000 in
theorem fclone_any (w : World) (B : Nat) (v : Value) (l : List FldD) (h : RdRow 2 ElF B w v l) (hB : B ≤ w.heap.size) (hn : l.length ≤ 1000) :
    Calls Tryd.prog 54 #[v] w fun e w' => ∃ v', e = .returned v' ∧ w'.ownsRow w.heap.size 128 2 v' l.length (l.flatMap fldC) ∧ Below w.heap.size w w' := by
  obtain ⟨a, c, rfl⟩ := rd_shape h
  obtain ⟨i0, hi, hz0, hz1, hz2⟩ := info_parts info_fld
  have hnil := fun W => Lib.run_eql_slice_nil (P := Tryd.prog) W 102 128 a l.length c 0 0 Tryd.underlying102
  cases a with
  | none =>
    have h0 : l = [] := by
      rcases Nat.eq_zero_or_pos l.length with e | e
      · exact List.eq_nil_of_length_eq_zero e
      · obtain ⟨b, o, e1, _⟩ := rd_at h e
        cases e1
    subst h0
    clear h hi hz0 hz1 hz2 hnil
    have hnil := fun W => Lib.run_eql_slice_nil (P := Tryd.prog) W 102 128 none 0 c 0 0 Tryd.underlying102
    simp only [List.length_nil]
    go_enter Tryd.func54, Tryd.ntmps54
    go_wp2
    go_ret
    exact ⟨_, rfl, World.ownsRow_nil _ _ _ _, Below.refl _ _⟩
  | some ad =>
    have hb1 : Below w.heap.size w (w.alloc (.cells #[] 128)) := (Below.refl _ _).alloc (Nat.le_refl _) _
    have HN := Lib.hid (rd_news (f := fldC) (by decide) (fun _ => rfl) elF_at (h.keep (hb1.mono hB) fun _ _ _ e r => r.keep (hb1.mono hB) e))
    have Z := Lib.hid (And.intro hi (And.intro hz0 (And.intro hz1 hz2)))
    have HL := Lib.hid hn
    clear h hi hz0 hz1 hz2 hb1 hn
    go_enter Tryd.func54, Tryd.ntmps54
    go_wp2_with (at_builtin; refine wpList_append_own_at _ rfl _ _ 102 rfl w.heap.size 128 i0 _ 2 24 Tryd.underlying102 Z.out.1 Z.out.2.1 Z.out.2.2.1 Z.out.2.2.2 rfl (by decide) _ 0 [] rfl (World.ownsRow_made w #[] 0 (Nat.le_refl _) (by decide) rfl) ad l.length c (l.flatMap fldC) rfl (flat_len fldC 2 (fun _ => rfl) _) (fun j u hu => by obtain ⟨ad', e1, e2⟩ := HN.out j u hu; obtain rfl := Option.some.inj e1; exact e2) (flat_in (by simp [fldC, Value.oneCell'])) (by have := HL.out; unfold maxLen; omega) (by have := HL.out; omega) (by simp) ?_)
    intro v' w2 hown2 hgrow _ _
    have hb : Below w.heap.size w w2 := ((Below.refl _ _).alloc (Nat.le_refl _) _).grown hgrow (by simp) (fun k hk => by have : w.heap.size = k := Option.some.inj hk; omega)
    have HO : Hid (w2.ownsRow w.heap.size 128 2 v' l.length (l.flatMap fldC)) := by unfold Hid; simpa using hown2
    clear hnil hown2 hgrow
    go_wp2
    go_ret
    exact ⟨v', rfl, HO.out, hb⟩
end Go.Proofs.YtohmnjejchppkaaDoor
/- inspect: what the table keeps of a class. Condition: the table, its map and the class are there. -/
namespace Go.Proofs.YtohmnjejchppkaaDoor
open Go.RowKit
set_option linter.unusedVariables false
def Z3 : Value := .agg #[.string ⟨#[]⟩, .slice none 0 0, .map none]
def InsPost (w : World) (m : Nat) (seen : List Nm) (c : ClsD) (e : Ending) (w' : World) : Prop :=
  Touch (fun x => x = m) w w' ∧ ((clsE seen c ≠ 0 ∧ e = .returned (.tuple #[.agg #[.string ⟨#[]⟩, .slice none 0 0, .map none], .int .i64 (clsE seen c)])) ∨
    (clsE seen c = 0 ∧ ∃ fv mi, e = .returned (.tuple #[.agg #[.string c.name, fv, .map (some mi)], .int .i64 0]) ∧ w'.ownsRow w.heap.size 128 2 fv c.fields.length (c.fields.flatMap fldC) ∧ w.heap.size ≤ mi ∧ MapN w' mi (fnames c.fields) ∧ MapN w' m (seen ++ [nmB c.name])))
theorem touch_new {R : Nat → Prop} {w w1 w2 : World} {n : Nat} (h : Touch R w w1) (h2 : Touch (fun x => x = n) w1 w2) (hn : w.heap.size ≤ n) : Touch R w w2 :=
  ⟨h2.os.trans h.os, h2.tape.trans h.tape, h2.output.trans h.output, Nat.le_trans h.size h2.size, fun k hk hr => (h2.block k (Nat.lt_of_lt_of_le hk h.size) (by omega)).trans (h.block k hk hr)⟩
theorem clsE_bad {seen : List Nm} {c : ClsD} (h : entE seen c.name ≠ 0) : clsE seen c = entE seen c.name := by
  unfold entE at h ⊢
  unfold clsE
  split
  · rfl
  · split
    · rfl
    · rename_i h1 h2; rw [if_neg h1, if_neg h2] at h; exact absurd rfl h
theorem clsE_ok {seen : List Nm} {c : ClsD} (h : entE seen c.name = 0) : clsE seen c = (if 15 < c.fields.length then 3 else fldsE [] c.fields) := by
  unfold entE at h
  unfold clsE
  split at h
  · cases h
  · split at h
    · cases h
    · rename_i h1 h2; rw [if_neg h1, if_neg h2]
theorem fldsE_ent {seen : List Nm} {f : FldD} (h : entE seen f.name ≠ 0) : fldsE seen [f] = entE seen f.name := by
  unfold entE at h ⊢
  rw [fldsE]
  split
  · rfl
  · split
    · rfl
    · rename_i h1 h2; rw [if_neg h1, if_neg h2] at h; exact absurd rfl h
theorem fldsE_ty {seen : List Nm} {f : FldD} (h : entE seen f.name = 0) : fldsE seen [f] = (if f.ty ≠ 1 ∧ f.ty ≠ 2 then 32 else 0) := by
  unfold entE at h
  rw [fldsE, fldsE]
  split at h
  · cases h
  · split at h
    · cases h
    · rename_i h1 h2; rw [if_neg h1, if_neg h2]
theorem fldsE_bad' {l : List FldD} {k : Nat} (hk : k < l.length) (h0 : fldsE [] (l.take k) = 0) {x : Int} (hx : fldsE (fnames (l.take k)) [l[k]] = x) (hne : x ≠ 0) : fldsE [] l = x := fldsE_bad hk h0 (by simpa using hx) hne
theorem fldsE_next' {l : List FldD} {k : Nat} (hk : k < l.length) (h0 : fldsE [] (l.take k) = 0) (hx : fldsE (fnames (l.take k)) [l[k]] = 0) : fldsE [] (l.take (k + 1)) = 0 := by
  rw [List.take_add_one, List.getElem?_eq_getElem hk, fldsE_app _ _ _ h0]
  simpa using hx
theorem fnames_next {l : List FldD} {k : Nat} (hk : k < l.length) : fnames (l.take (k + 1)) = fnames (l.take k) ++ [nmB l[k].name] := by
  unfold fnames
  rw [List.take_add_one, List.getElem?_eq_getElem hk, List.map_append]
  rfl
set_option maxRecDepth 100000 in
set_option maxHeartbeats 8000000 in
theorem inspect_any (w : World) (B t m : Nat) (tv : Value) (seen : List Nm) (c : ClsD) (v : Value) (h : RdRow 2 ElF B w v c.fields) (hB : B ≤ w.heap.size) (hT : Blk w t #[tv, .map (some m)] 101) (hM : MapN w m seen) (hBm : B ≤ m) (hs : seen.length ≤ 1000) :
    Calls Tryd.prog 41 #[.pointer (some ⟨t, 0, none⟩), .agg #[.string c.name, v]] w (InsPost w m seen c) := by
  obtain ⟨a, q, rfl⟩ := rd_shape h
  have R1 := Lib.hid (fun W (hb : Below B w W) i (hi : i < c.fields.length) => rd_at (h.keep hb fun _ _ _ e r => r.keep hb e) hi)
  have RF := Lib.hid (fun W (hb : Below B w W) => h.keep hb fun _ _ _ e r => r.keep hb e)
  have hmx : c.fields.length ≤ maxLen := by obtain ⟨_, _, _, q, _⟩ := h; exact q
  unfold maxLen at hmx
  have HS := Lib.hid hs
  have HB := Lib.hid (And.intro hB hBm)
  have k1 : Blk ((w.alloc (.cells #[.string c.name, .slice a c.fields.length q] 104)).alloc (.cells #[.string ⟨#[]⟩, .slice none 0 0, .map none] 106)) w.heap.size #[.string c.name, .slice a c.fields.length q] 104 := (Blk.new _ _ _).alloc _
  have k2 : Blk ((w.alloc (.cells #[.string c.name, .slice a c.fields.length q] 104)).alloc (.cells #[.string ⟨#[]⟩, .slice none 0 0, .map none] 106)) (w.heap.size + 1) #[.string ⟨#[]⟩, .slice none 0 0, .map none] 106 := Blk.new' (by simp)
  have hb0 : Below w.heap.size w ((w.alloc (.cells #[.string c.name, .slice a c.fields.length q] 104)).alloc (.cells #[.string ⟨#[]⟩, .slice none 0 0, .map none] 106)) := ((Below.refl _ _).alloc (Nat.le_refl _) _).alloc (by simp) _
  have kt := hT.grew hb0
  have y0 := k1.val 0 rfl
  have y1 := k1.val 1 rfl
  have x1 := kt.val 1 rfl
  have KA := Lib.hid (And.intro (hM.grew hb0) (And.intro k1 (And.intro k2 hb0)))
  have lm := hM.lt
  clear h hs hB hT hM hBm k1 k2 hb0 kt
  go_enter Tryd.func41, Tryd.ntmps41
  go_wp2_with fail
  generalize World.alloc _ _ = w0 at *
  obtain ⟨hM, k1, k2, hb0⟩ := KA.out
  go_still_tail 6, (by kernel_rfl)
  change wpList _ _ _ _ _ w0.drew
  have hM := hM.of (w' := w0.drew) rfl
  have k1 := k1.drew
  have k2 := k2.drew
  have hb0 := hb0.drew
  have l1 := k1.lt
  have l2 := k2.lt
  clear KA y0 y1 x1
  generalize w0.drew = w5 at *
  go_wp2_with fail
  refine (enter_any c.name m seen w5 hM HS.out).mono ?_
  rintro e w6 ⟨rfl, hM6, hg6⟩
  have hTW : Touch (fun x => x = m) w w6 := (Touch.of hb0).grown hg6 (fun k hk => .inl (Option.some.inj hk).symm)
  have k1 := k1.of (hg6.block _ k1.lt (by simp; omega))
  have k2 := k2.of (hg6.block _ k2.lt (by simp; omega))
  have l1 := k1.lt
  have l2 := k2.lt
  clear hM hg6 hb0
  by_cases he : entE seen c.name = 0
  · rw [he]
    have hM6' : MapN w6 m (seen ++ [nmB c.name]) := by unfold entL at hM6; rw [if_pos he] at hM6; exact hM6
    have HC := Lib.hid (clsE_ok he)
    clear hM6 he
    have y0 := k1.val 0 rfl
    have y1 := k1.val 1 rfl
    by_cases h15 : 15 < c.fields.length
    · have h15' : (15 : Int) < (c.fields.length : Int) := by omega
      have HE : Hid (clsE seen c = 3) := by unfold Hid; rw [HC.out, if_pos h15]
      have z0 := k2.val 0 rfl
      have z1 := k2.val 1 rfl
      have z2 := k2.val 2 rfl
      have f0 := k2.frozen 0
      have f1 := k2.frozen 1
      have f2 := k2.frozen 2
      have hTs := (((Touch.refl (fun x => x = w.heap.size + 1) w6).setCell (p := ⟨w.heap.size + 1, 0, none⟩) rfl (.string ⟨#[]⟩)).setCell (p := ⟨w.heap.size + 1, 1, none⟩) rfl (.slice none 0 0)).setCell (p := ⟨w.heap.size + 1, 2, none⟩) rfl (.map none)
      have HT := Lib.hid (touch_new hTW hTs (by omega))
      have K2 := Lib.hid (((k2.set 0 (.string ⟨#[]⟩)).set 1 (.slice none 0 0)).set 2 (.map none))
      clear hTs hTW k1 k2
      go_wp2
      clear z0 z1 z2
      have z0 := K2.out.val 0 rfl
      have z1 := K2.out.val 1 rfl
      have z2 := K2.out.val 2 rfl
      refine bodyPost_ret (v := .tuple #[.agg #[.string ⟨#[]⟩, .slice none 0 0, .map none], .int .i64 3]) (by simp [results, Tryd.results41, go_sem, z0, z1, z2]) rfl ⟨HT.out, .inl ⟨by rw [HE.out]; decide, by rw [HE.out]⟩⟩
    · have h15' : ¬ (15 : Int) < (c.fields.length : Int) := by omega
      have HE : Hid (clsE seen c = fldsE [] c.fields) := by unfold Hid; rw [HC.out, if_neg h15]
      have HM6 := Lib.hid hM6'
      have K1 := Lib.hid k1
      have K2 := Lib.hid k2
      have HT6 := Lib.hid hTW
      clear hM6' k1 k2 hTW HC
      have hmk : ∀ W : World, (Instr.makeMap 98 none).run Tryd.prog W = .ok (.map (some W.heap.size)) (W.alloc (.map #[] 0)) := fun W => rfl
      go_wp2
      clear hmk
      have hb7 := (Below.refl w6.heap.size w6).alloc (Nat.le_refl _) (.map #[] 0)
      have hMi : MapN (w6.alloc (.map #[] 0)) w6.heap.size [] := MapN.made rfl
      have hMm := HM6.out.grew hb7
      have k1 := K1.out.grew hb7
      have k2 := K2.out.grew hb7
      have hTW := HT6.out.trans (Touch.of hb7)
      have hlm : w.heap.size + 1 < w6.heap.size := l2
      clear hb7 HM6 K1 K2 HT6 y0 y1 l1 l2
      generalize w6.alloc _ = w7 at *
      generalize w6.heap.size = mi at *
      go_loopw [31] (fun x wr => ∃ k : Nat, k ≤ c.fields.length ∧ x = .int .i64 k ∧ fldsE [] (c.fields.take k) = 0 ∧ MapN wr mi (fnames (c.fields.take k)) ∧ MapN wr m (seen ++ [nmB c.name]) ∧ Blk wr w.heap.size #[.string c.name, .slice a c.fields.length q] 104 ∧ Blk wr (w.heap.size + 1) #[.string ⟨#[]⟩, .slice none 0 0, .map none] 106 ∧ Touch (fun x => x = m) w wr) (fun x _ => c.fields.length - (intOf x).toNat)
      case atStart => exact ⟨0, Nat.zero_le _, rfl, rfl, hMi, hMm, k1, k2, hTW⟩
      case round =>
        clear hMi hMm k1 k2 hTW
        obtain ⟨k, hk, rfl, h0, hMi, hMm, k1, k2, hTW⟩ := hrel
        by_cases hlt : k < c.fields.length
        · have hlt' : (k : Int) < (c.fields.length : Int) := by omega
          have i1 : (0 : Int) ≤ (k : Int) ∧ (k : Int) < (c.fields.length : Int) := ⟨by omega, by omega⟩
          have i2 : 0 < c.fields.length := by omega
          obtain ⟨b, o, rfl, _, e1, e2, e3⟩ := R1.out wr (hTW.below HB.out.1 (fun x e => e ▸ HB.out.2)) k hlt
          have HN1 : Hid (∀ x, fldsE (fnames (c.fields.take k)) [c.fields[k]] = x → x ≠ 0 → fldsE [] c.fields = x) := fun x hx hn => fldsE_bad' hlt h0 hx hn
          have HN2 : Hid (fldsE (fnames (c.fields.take k)) [c.fields[k]] = 0 → fldsE [] (c.fields.take (k + 1)) = 0) := fun hx => fldsE_next' hlt h0 hx
          have HN3 := Lib.hid (fnames_next hlt)
          have hfl : (fnames (c.fields.take k)).length ≤ 1000 := by unfold fnames; rw [List.length_map, List.length_take]; omega
          generalize c.fields[k] = f at *
          have hb4 := (Below.refl wr.heap.size wr).alloc (Nat.le_refl _) (.cells #[.string f.name, .int .i64 f.ty] 128)
          have k4 := Blk.new wr #[.string f.name, .int .i64 f.ty] 128
          have hmi := hMi.lt
          have hMi := hMi.grew hb4
          have hMm := hMm.grew hb4
          have k1 := k1.grew hb4
          have k2 := k2.grew hb4
          have hTW := hTW.trans (Touch.of hb4)
          have KA := Lib.hid (And.intro k4 (And.intro k1 (And.intro k2 (And.intro hMi (And.intro hMm hTW)))))
          clear k4 k1 k2 hMi hMm hTW hb4 h0
          go_wp2_with fail
          obtain ⟨k4, k1, k2, hMi, hMm, hTW⟩ := KA.out
          clear KA e1 e2
          generalize wr.alloc _ = w8 at *
          generalize wr.heap.size = X at *
          refine (enter_any f.name mi _ w8 hMi hfl).mono ?_
          rintro e w9 ⟨rfl, hMi9, hg9⟩
          have k1 := k1.of (hg9.block _ k1.lt (by simp; omega))
          have k2 := k2.of (hg9.block _ k2.lt (by simp; omega))
          have k4 := k4.of (hg9.block _ k4.lt (by simp; omega))
          have hMm := hMm.grown hg9 (by simp; omega)
          have hTW := hTW.grown hg9 (fun k hk => .inr (by have := Option.some.inj hk; omega))
          have v1 := k4.val 1 rfl
          clear hMi hg9 k4
          by_cases he : entE (fnames (c.fields.take k)) f.name = 0
          · rw [he]
            have hty := fldsE_ty he
            unfold entL at hMi9
            rw [if_pos he] at hMi9
            clear he
            by_cases t1 : f.ty = 1
            · have t1' : (f.ty != 1) = false := by simp [t1]
              have HG := Lib.hid (HN2.out (by rw [hty, if_neg (by omega)]))
              clear t1 hty
              go_wp2
              go_roundw
              case rel => exact ⟨k + 1, by omega, by go_num, HG.out, HN3.out ▸ hMi9, hMm, k1, k2, hTW⟩
              case measure => simp [intOf]; omega
            · have t1' : (f.ty != 1) = true := by simpa using t1
              by_cases t2 : f.ty = 2
              · have t2' : (f.ty != 2) = false := by simp [t2]
                have HG := Lib.hid (HN2.out (by rw [hty, if_neg (by omega)]))
                clear t1 t2 hty
                go_wp2
                go_roundw
                case rel => exact ⟨k + 1, by omega, by go_num, HG.out, HN3.out ▸ hMi9, hMm, k1, k2, hTW⟩
                case measure => simp [intOf]; omega
              · have t2' : (f.ty != 2) = true := by simpa using t2
                have HE := Lib.hid (HE.out.trans (HN1.out 32 (by rw [hty, if_pos ⟨t1, t2⟩]) (by decide)))
                clear t1 t2 hty
                have z0 := k2.val 0 rfl
                have z1 := k2.val 1 rfl
                have z2 := k2.val 2 rfl
                have f0 := k2.frozen 0
                have f1 := k2.frozen 1
                have f2 := k2.frozen 2
                have hTs := (((Touch.refl (fun x => x = w.heap.size + 1) w9).setCell (p := ⟨w.heap.size + 1, 0, none⟩) rfl (.string ⟨#[]⟩)).setCell (p := ⟨w.heap.size + 1, 1, none⟩) rfl (.slice none 0 0)).setCell (p := ⟨w.heap.size + 1, 2, none⟩) rfl (.map none)
                have HT := Lib.hid (touch_new hTW hTs (by omega))
                have K2 := Lib.hid (((k2.set 0 (.string ⟨#[]⟩)).set 1 (.slice none 0 0)).set 2 (.map none))
                clear hTs hTW k1 k2
                go_wp2
                clear z0 z1 z2
                have z0 := K2.out.val 0 rfl
                have z1 := K2.out.val 1 rfl
                have z2 := K2.out.val 2 rfl
                refine bodyPost_ret (v := .tuple #[.agg #[.string ⟨#[]⟩, .slice none 0 0, .map none], .int .i64 32]) (by simp [results, Tryd.results41, go_sem, z0, z1, z2]) rfl ⟨HT.out, .inl ⟨by rw [HE.out]; decide, by rw [HE.out]⟩⟩
          · have hne : (entE (fnames (c.fields.take k)) f.name != 0) = true := by simpa using he
            have HE := Lib.hid (HE.out.trans (HN1.out _ (fldsE_ent he) he))
            have HZ := Lib.hid he
            generalize entE (fnames (c.fields.take k)) f.name = ee at *
            clear he hMi9
            have z0 := k2.val 0 rfl
            have z1 := k2.val 1 rfl
            have z2 := k2.val 2 rfl
            have f0 := k2.frozen 0
            have f1 := k2.frozen 1
            have f2 := k2.frozen 2
            have hTs := (((Touch.refl (fun x => x = w.heap.size + 1) w9).setCell (p := ⟨w.heap.size + 1, 0, none⟩) rfl (.string ⟨#[]⟩)).setCell (p := ⟨w.heap.size + 1, 1, none⟩) rfl (.slice none 0 0)).setCell (p := ⟨w.heap.size + 1, 2, none⟩) rfl (.map none)
            have HT := Lib.hid (touch_new hTW hTs (by omega))
            have K2 := Lib.hid (((k2.set 0 (.string ⟨#[]⟩)).set 1 (.slice none 0 0)).set 2 (.map none))
            clear hTs hTW k1 k2
            go_wp2
            clear z0 z1 z2
            have z0 := K2.out.val 0 rfl
            have z1 := K2.out.val 1 rfl
            have z2 := K2.out.val 2 rfl
            refine bodyPost_ret (v := .tuple #[.agg #[.string ⟨#[]⟩, .slice none 0 0, .map none], .int .i64 ee]) (by simp [results, Tryd.results41, go_sem, z0, z1, z2]) rfl ⟨HT.out, .inl ⟨by rw [HE.out]; exact HZ.out, by rw [HE.out]⟩⟩
        · have hlt' : ¬ (k : Int) < (c.fields.length : Int) := by omega
          have hk' : k = c.fields.length := by omega
          rw [hk', List.take_length] at h0 hMi
          have HF0 := Lib.hid (HE.out.trans h0)
          have hlen : c.fields.length ≤ 1000 := by omega
          clear h0 hk' hk
          go_wp2_with fail
          refine wp_region_held_drew (S := (fun W' => W'.cell? ⟨w.heap.size, 0, none⟩ = some (.string c.name) ∧ W'.cell? ⟨w.heap.size, 1, none⟩ = some (.slice a c.fields.length q))) (by kernel_rfl) ⟨k1.drew.val 0 rfl, k1.drew.val 1 rfl⟩ (fun hHeld => ?_)
          have hb := (Below.refl wr.heap.size wr).drew
          have k2 := k2.drew
          have hMi := hMi.grew hb
          have hMm := hMm.grew hb
          have hTW := hTW.trans (Touch.of hb)
          have lw := hTW.size
          clear k1 hb
          generalize wr.drew = w8 at *
          refine wpAnyH_take (i := 0) (oi := _) (v := ?_) (op_atC rfl) (by kernel_rfl) (by kernel_rfl) (by kernel_rfl) (fun _ _ _ h => h) (Or.inl ⟨by rfl, ?_⟩) hHeld ?_
          rotate_left 1
          focus (intro W hSw; (try dsimp only at hSw); go_simp; (try (with_reducible rfl)))
          (try simp only [Act.put, List.setIfInBounds_toArray, List.set_cons_zero, List.set_cons_succ])
          refine wpAnyH_take (i := 1) (oi := _) (v := ?_) (op_atC rfl) (by kernel_rfl) (by kernel_rfl) (by kernel_rfl) (fun _ _ _ h => h) (Or.inl ⟨by rfl, ?_⟩) hHeld ?_
          rotate_left 1
          focus (intro W hSw; (try dsimp only at hSw); go_simp; (try (with_reducible rfl)))
          (try simp only [Act.put, List.setIfInBounds_toArray, List.set_cons_zero, List.set_cons_succ])
          refine wpAnyH_take (i := 2) (oi := _) (v := ?_) (op_atC rfl) (by kernel_rfl) (by kernel_rfl) (by kernel_rfl) (fun _ _ _ h => h) (Or.inl ⟨by rfl, ?_⟩) hHeld ?_
          rotate_left 1
          focus (intro W hSw; (try dsimp only at hSw); go_simp; (try (with_reducible rfl)))
          (try simp only [Act.put, List.setIfInBounds_toArray, List.set_cons_zero, List.set_cons_succ])
          refine wpAnyH_take (i := 3) (oi := _) (v := ?_) (op_atC rfl) (by kernel_rfl) (by kernel_rfl) (by kernel_rfl) (fun _ _ _ h => h) (Or.inl ⟨by rfl, ?_⟩) hHeld ?_
          rotate_left 1
          focus (intro W hSw; (try dsimp only at hSw); go_simp; (try (with_reducible rfl)))
          (try simp only [Act.put, List.setIfInBounds_toArray, List.set_cons_zero, List.set_cons_succ])
          refine wpAnyH_take (i := 5) (oi := _) (v := ?_) (op_atC rfl) (by kernel_rfl) (by kernel_rfl) (by kernel_rfl) (fun _ _ _ h => h) (Or.inl ⟨by rfl, ?_⟩) hHeld ?_
          rotate_left 1
          focus (intro W hSw; (try dsimp only at hSw); go_simp; (try (with_reducible rfl)))
          (try simp only [Act.put, List.setIfInBounds_toArray, List.set_cons_zero, List.set_cons_succ])
          refine wpAnyH_ready (rs := [4]) (by kernel_rfl) (by simp) ?_
          refine AllReadyH.cons (o := _) (op_atC rfl) (fun Kc hKc => ?_) AllReadyH.nil
          go_simp
          go_at_call 54
          (with_reducible refine (fclone_any w8 B _ c.fields (RF.out _ (hTW.below HB.out.1 (fun x e => e ▸ HB.out.2))) (Nat.le_trans HB.out.1 hTW.size) hlen).mono ?_)
          rintro e9 w9 ⟨fv, rfl, ho, hb⟩
          have lk2 := k2.lt
          have k2 := k2.grew hb
          have hMi := hMi.grew hb
          have hMm := hMm.grew hb
          have hTW := hTW.trans (Touch.of hb)
          have hlo : ∀ g, fv.ownBlock = some g → g ≠ w.heap.size + 1 := fun g hg e => by have := (own_ltG ho hg).1; omega
          have ho := own_sub ho lw
          obtain ⟨fa, fc, hfv⟩ := row_shape ho
          subst hfv
          go_wp2_with fail
          refine hKc.out _ _ ?_ (fun hHeld' => ?_)
          focus exact ⟨(hb.cell (World.block_lt_of_cell? _ _ hHeld.1)).trans hHeld.1, (hb.cell (World.block_lt_of_cell? _ _ hHeld.2)).trans hHeld.2⟩
          clear hHeld hb
          have hHeld := hHeld'
          clear hHeld'
          clear hKc Kc
          (try simp only [Act.put, List.setIfInBounds_toArray, List.set_cons_zero, List.set_cons_succ])
          refine wpAnyH_take (i := 6) (oi := _) (v := ?_) (op_atC rfl) (by kernel_rfl) (by kernel_rfl) (by kernel_rfl) (fun _ _ _ h => h) (Or.inl ⟨by rfl, ?_⟩) hHeld ?_
          rotate_left 1
          focus (intro W hSw; (try dsimp only at hSw); go_simp; (try (with_reducible rfl)))
          (try simp only [Act.put, List.setIfInBounds_toArray, List.set_cons_zero, List.set_cons_succ])
          refine wpAnyH_ready (rs := [7]) (by kernel_rfl) (by simp) ?_
          refine AllReadyH.cons (o := _) (op_atC rfl) (fun Kc hKc => ?_) AllReadyH.nil
          have f0 := k2.frozen 0
          have f1 := k2.frozen 1
          have f2 := k2.frozen 2
          have z0 := k2.val 0 rfl
          have z1 := k2.val 1 rfl
          have z2 := k2.val 2 rfl
          go_simp
          have hTs := (((Touch.refl (fun x => x = w.heap.size + 1) w9).setCell (p := ⟨w.heap.size + 1, 0, none⟩) rfl (.string c.name)).setCell (p := ⟨w.heap.size + 1, 1, none⟩) rfl (.slice fa c.fields.length fc)).setCell (p := ⟨w.heap.size + 1, 2, none⟩) rfl (.map (some mi))
          have K2 := Lib.hid (((k2.set 0 (.string c.name)).set 1 (.slice fa c.fields.length fc)).set 2 (.map (some mi)))
          refine hKc.out _ _ ?_ (fun hHeld' => ?_)
          focus exact ⟨(World.cell?_setCell_far _ _ _ _ (by simp)).trans ((World.cell?_setCell_far _ _ _ _ (by simp)).trans ((World.cell?_setCell_far _ _ _ _ (by simp)).trans hHeld.1)), (World.cell?_setCell_far _ _ _ _ (by simp)).trans ((World.cell?_setCell_far _ _ _ _ (by simp)).trans ((World.cell?_setCell_far _ _ _ _ (by simp)).trans hHeld.2))⟩
          have HR := Lib.hid (And.intro (touch_new hTW hTs (by omega)) (And.intro (own_touch ho hTs (fun g hg => hlo g hg)) (And.intro (hMi.touch hTs (by omega)) (hMm.touch hTs (by omega)))))
          clear hHeld hTs hTW ho hMi hMm k2 z0 z1 z2 f0 f1 f2
          have hHeld := hHeld'
          clear hHeld'
          generalize World.setCell _ _ _ = w10 at *
          clear hKc Kc
          (try simp only [Act.put, List.setIfInBounds_toArray, List.set_cons_zero, List.set_cons_succ])
          refine wpAnyH_ready (rs := [8]) (by kernel_rfl) (by simp) ?_
          refine AllReadyH.cons (o := _) (op_atC rfl) (fun Kc hKc => ?_) AllReadyH.nil
          go_simp
          refine hKc.out _ _ ?_ (fun hHeld' => ?_)
          focus exact hHeld
          clear hKc Kc
          (try simp only [Act.put, List.setIfInBounds_toArray, List.set_cons_zero, List.set_cons_succ])
          refine wpAnyH_done (by kernel_rfl) ?_ _
          clear hHeld hHeld'
          go_wp2
          have z0 := K2.out.val 0 rfl
          have z1 := K2.out.val 1 rfl
          have z2 := K2.out.val 2 rfl
          refine bodyPost_ret (v := .tuple #[.agg #[.string c.name, .slice fa c.fields.length fc, .map (some mi)], .int .i64 0]) (by simp [results, Tryd.results41, go_sem, z0, z1, z2]) rfl ⟨HR.out.1, .inr ⟨HF0.out, _, mi, rfl, HR.out.2.1, by omega, HR.out.2.2.1, HR.out.2.2.2⟩⟩
  · have hne : (entE seen c.name != 0) = true := by simpa using he
    have HE := Lib.hid (clsE_bad he)
    have HZ := Lib.hid he
    generalize entE seen c.name = ee at *
    clear he
    have z0 := k2.val 0 rfl
    have z1 := k2.val 1 rfl
    have z2 := k2.val 2 rfl
    have f0 := k2.frozen 0
    have f1 := k2.frozen 1
    have f2 := k2.frozen 2
    have hTs := (((Touch.refl (fun x => x = w.heap.size + 1) w6).setCell (p := ⟨w.heap.size + 1, 0, none⟩) rfl (.string ⟨#[]⟩)).setCell (p := ⟨w.heap.size + 1, 1, none⟩) rfl (.slice none 0 0)).setCell (p := ⟨w.heap.size + 1, 2, none⟩) rfl (.map none)
    have HT := Lib.hid (touch_new hTW hTs (by omega))
    have K2 := Lib.hid (((k2.set 0 (.string ⟨#[]⟩)).set 1 (.slice none 0 0)).set 2 (.map none))
    clear hTs hTW k1 k2
    go_wp2
    clear z0 z1 z2
    have z0 := K2.out.val 0 rfl
    have z1 := K2.out.val 1 rfl
    have z2 := K2.out.val 2 rfl
    refine bodyPost_ret (v := .tuple #[.agg #[.string ⟨#[]⟩, .slice none 0 0, .map none], .int .i64 ee]) (by simp [results, Tryd.results41, go_sem, z0, z1, z2]) rfl ⟨HT.out, .inl ⟨by rw [HE.out]; exact HZ.out, by rw [HE.out]⟩⟩
end Go.Proofs.YtohmnjejchppkaaDoor
/- A table of classes in memory. No condition. -/
namespace Go.Proofs.YtohmnjejchppkaaDoor
open Go.RowKit
set_option linter.unusedVariables false
theorem elC_at {B : Nat} {w : World} (b k : Nat) (x : ClsD) (h : ElC B w b k x) : w.cell? ⟨b, k, none⟩ = some (.string x.name) := h.1
def rowC (x : ClsD × Value × Nat) : List Value := [.string x.1.name, x.2.1, .map (some x.2.2)]
theorem own_apart {w : World} {l1 l2 s1 s2 n1 n2 : Nat} {e1 e2 : TypeId} {v u : Value} {xs ys : List Value} (h1 : w.ownsRow l1 e1 s1 v n1 xs) (h2 : w.ownsRow l2 e2 s2 u n2 ys) (hne : e1 ≠ e2) : ∀ g, u.ownBlock = some g → v.ownBlock ≠ some g := by
  intro g hu hv
  rcases h1.2 with ⟨q, _⟩ | ⟨g1, c1, cur1, a1, _, a3, _⟩
  · rw [q] at hv; cases hv
  rcases h2.2 with ⟨q, _⟩ | ⟨g2, c2, cur2, b1, _, b3, _⟩
  · rw [q] at hu; cases hu
  rw [a1] at hv
  rw [b1] at hu
  obtain rfl : g1 = g := Option.some.inj hv
  obtain rfl : g2 = g1 := Option.some.inj hu
  rw [a3] at b3
  injection b3 with b3
  injection b3 with _ b4
  exact hne b4
theorem own_notmap {w : World} {l1 s1 n1 b : Nat} {e1 : TypeId} {v : Value} {xs : List Value} {l : List Nm} (h1 : w.ownsRow l1 e1 s1 v n1 xs) (h2 : MapN w b l) : v.ownBlock ≠ some b := by
  intro hv
  rcases h1.2 with ⟨q, _⟩ | ⟨g1, c1, cur1, a1, _, a3, _⟩
  · rw [q] at hv; cases hv
  rw [a1] at hv
  obtain rfl : g1 = b := Option.some.inj hv
  obtain ⟨D, ⟨es, clock, hb, _⟩, _⟩ := h2
  rw [a3] at hb
  cases hb
theorem own_notblk {w : World} {l1 s1 n1 b : Nat} {e1 e2 : TypeId} {v : Value} {xs : List Value} {cs : Array Value} (h1 : w.ownsRow l1 e1 s1 v n1 xs) (h2 : Blk w b cs e2) (hne : e1 ≠ e2) : v.ownBlock ≠ some b := by
  intro hv
  rcases h1.2 with ⟨q, _⟩ | ⟨g1, c1, cur1, a1, _, a3, _⟩
  · rw [q] at hv; cases hv
  rw [a1] at hv
  obtain rfl : g1 = b := Option.some.inj hv
  unfold Blk at h2
  rw [a3] at h2
  injection h2 with h2
  injection h2 with _ h3
  exact hne h3
theorem own_kept {w w' : World} {v : Value} {b : Nat} {e : TypeId} {size : Nat} {u : Value} {n : Nat} {xs : List Value} (h : w.ownsRow b e size u n xs) (hg : w.grownBy w' v.ownBlock) (hne : ∀ g, u.ownBlock = some g → v.ownBlock ≠ some g) : w'.ownsRow b e size u n xs :=
  h.kept hg (by
    cases hu : u.ownBlock with
    | none => exact .inl rfl
    | some g => exact .inr fun e => hne g hu e.symm)
/-- what the table's row of classes leads to -/
structure RowsS (w : World) (lo : Nat) (v : Value) (l : List (ClsD × Value × Nat)) : Prop where
  row : w.ownsRow lo 106 3 v l.length (l.flatMap rowC)
  inner : ∀ x ∈ l, w.ownsRow lo 128 2 x.2.1 x.1.fields.length (x.1.fields.flatMap fldC) ∧ lo ≤ x.2.2 ∧ MapN w x.2.2 (fnames x.1.fields)
structure TabS (w : World) (lo t : Nat) (v : Value) (m : Nat) (l : List (ClsD × Value × Nat)) : Prop where
  blk : Blk w t #[v, .map (some m)] 101
  map : MapN w m (cnames (l.map (·.1)))
  rows : RowsS w lo v l
  lot : lo ≤ t
  lom : lo ≤ m
section
variable {w w' : World} {lo t m : Nat} {v v' : Value} {l : List (ClsD × Value × Nat)}
theorem RowsS.nil (w : World) (lo : Nat) : RowsS w lo (.slice none 0 0) [] := ⟨⟨by simp, .inl ⟨rfl, rfl⟩⟩, fun x hx => (by cases hx)⟩
theorem RowsS.grew (h : RowsS w lo v l) (hb : Below w.heap.size w w') : RowsS w' lo v l := ⟨own_grewG h.row hb, fun x hx => ⟨own_grewG (h.inner x hx).1 hb, (h.inner x hx).2.1, (h.inner x hx).2.2.grew hb⟩⟩
theorem TabS.grew (h : TabS w lo t v m l) (hb : Below w.heap.size w w') : TabS w' lo t v m l := ⟨h.blk.grew hb, h.map.grew hb, h.rows.grew hb, h.lot, h.lom⟩
theorem RowsS.touch {R : Nat → Prop} (h : RowsS w lo v l) (hT : Touch R w w') (hr : ∀ g, lo ≤ g → g < w.heap.size → (∀ l', ¬ MapN w g l') → ¬ R g) (hq : ∀ x ∈ l, ¬ R x.2.2) : RowsS w' lo v l :=
  ⟨own_touch h.row hT (fun g hg => hr g (own_ltG h.row hg).1 (own_ltG h.row hg).2 (fun l' hm => own_notmap h.row hm hg)), fun x hx => ⟨own_touch (h.inner x hx).1 hT (fun g hg => hr g (own_ltG (h.inner x hx).1 hg).1 (own_ltG (h.inner x hx).1 hg).2 (fun l' hm => own_notmap (h.inner x hx).1 hm hg)), (h.inner x hx).2.1, (h.inner x hx).2.2.touch hT (hq x hx)⟩⟩
theorem TabS.touch {R : Nat → Prop} (h : TabS w lo t v m l) (hT : Touch R w w') (hr : ∀ g, lo ≤ g → g < w.heap.size → ¬ R g) : TabS w' lo t v m l :=
  ⟨h.blk.touch hT (hr t h.lot h.blk.lt), h.map.touch hT (hr m h.lom h.map.lt), h.rows.touch hT (fun g h1 h2 _ => hr g h1 h2) (fun x hx => hr _ (h.rows.inner x hx).2.1 (h.rows.inner x hx).2.2.lt), h.lot, h.lom⟩
theorem RowsS.app {x : ClsD × Value × Nat} (h : RowsS w lo v l) (hx : w.ownsRow lo 128 2 x.2.1 x.1.fields.length (x.1.fields.flatMap fldC) ∧ lo ≤ x.2.2 ∧ MapN w x.2.2 (fnames x.1.fields))
    (hg : w.grownBy w' v.ownBlock) (hown : w'.ownsRow lo 106 3 v' (l.length + 1) (l.flatMap rowC ++ rowC x)) : RowsS w' lo v' (l ++ [x]) := by
  refine ⟨by rw [List.flatMap_append, List.length_append]; simpa using hown, fun y hy => ?_⟩
  have hi : w.ownsRow lo 128 2 y.2.1 y.1.fields.length (y.1.fields.flatMap fldC) ∧ lo ≤ y.2.2 ∧ MapN w y.2.2 (fnames y.1.fields) := by
    rcases List.mem_append.1 hy with h1 | h1
    · exact h.inner y h1
    · obtain rfl : y = x := by simpa using h1
      exact hx
  exact ⟨own_kept hi.1 hg (own_apart h.row hi.1 (by decide)), hi.2.1, hi.2.2.grown hg (fun e => own_notmap h.row hi.2.2 e.symm)⟩
end
end Go.Proofs.YtohmnjejchppkaaDoor
