/- Texts of this seat, one behind the other: each says at its head what it holds. No condition of its own. -/
import Derived.Maps.OwnSet
import Derived.Maps.OwnOps
import Derived.StringKeys
import Derived.Lib.Hide
import Derived.Maps.AppendAt
import Derived.Deep.AppendLies
import Derived.Deep.RegionHeld3
import Derived.Lib.Slices
import Derived.Lib.Walk
import Derived.Deep.CutBlock
import Derived.Deep.DeepCutAuto
import Derived.Test.YtnodeojeijekcaaGreatGB01
import Derived.Test.YtnodeojeijekcaaGreatGB10
import Derived.Test.YtnodeojeijekcaaGreatGB19
/- Maps from names to their numbers. No condition. -/
namespace Go.Proofs.YtnodeojeijekcaaGreat
open Go.RowKit Go.Maps
set_option linter.unusedVariables false
abbrev Nm := List UInt8
/-- block b is a map that gives each of these names its place -/
def MapN (w : World) (b : Nat) (l : List Nm) : Prop :=
  ∃ D : DataW Unit, w.ownsMap Tryz.prog 9 (plainElem Tryz.prog 3) b l.length D ∧ Maps.size D = l.length ∧ (∀ s : Nm, Maps.has D (.string s) = decide (s ∈ l)) ∧ ∀ s ∈ l, D.atKey (.string s) (.lit (.int .i64 0)) = .lit (.int .i64 (l.idxOf s : Nat))
theorem MapN.lt {w : World} {b : Nat} {l : List Nm} (h : MapN w b l) : b < w.heap.size := by
  obtain ⟨D, h1, _⟩ := h
  exact h1.lt
theorem MapN.of {w w' : World} {b : Nat} {l : List Nm} (h : MapN w b l) (he : w'.heap[b]? = w.heap[b]?) : MapN w' b l := by
  obtain ⟨D, ⟨es, clock, hb, r⟩, h2⟩ := h
  exact ⟨D, ⟨es, clock, he.trans hb, r⟩, h2⟩
theorem MapN.grew {w w' : World} {b : Nat} {l : List Nm} (h : MapN w b l) (hb : Below w.heap.size w w') : MapN w' b l := h.of (hb.block b h.lt)
theorem MapN.touch {R : Nat → Prop} {w w' : World} {b : Nat} {l : List Nm} (h : MapN w b l) (hT : Touch R w w') (hr : ¬ R b) : MapN w' b l := h.of (hT.block b h.lt hr)
theorem MapN.grown {w w' : World} {b : Nat} {l : List Nm} {row : Option Nat} (h : MapN w b l) (hg : w.grownBy w' row) (hr : some b ≠ row) : MapN w' b l := h.of (hg.block b h.lt hr)
theorem MapN.made {w : World} {n : Nat} (hn : n = w.heap.size) : MapN (w.alloc (.map #[] 0)) n [] := by
  subst hn
  exact ⟨.map [], World.ownsMap_made _ _ _ _, rfl, fun s => by simp [has_eq], fun s h => by cases h⟩
theorem lawS : Keyed Tryz.prog 9 := Go.Maps.string_keyed Tryz.underlying9
theorem keyS {s : ByteArray} (h : s.size ≤ maxLen) : keyOf Tryz.prog 9 (.string s) = some (.string s.data.toList) := Go.WideMaps.keyOf_string_mk Tryz.underlying9 h
theorem idx_app {l : List Nm} {s k : Nm} (h : k ∈ l) : (l ++ [s]).idxOf k = l.idxOf k := by rw [List.idxOf_append, if_pos h]
theorem idx_new {l : List Nm} {s : Nm} (h : s ∉ l) : (l ++ [s]).idxOf s = l.length := by rw [List.idxOf_append, if_neg h]; simp
/-- what a store of the next number makes of it -/
theorem mapN_put {D : DataW Unit} {l : List Nm} {s : Nm} (hI : Maps.IsMap D) (hT : Maps.Tidy D) (h2 : Maps.size D = l.length) (h3 : ∀ k : Nm, Maps.has D (.string k) = decide (k ∈ l)) (h4 : ∀ k ∈ l, D.atKey (.string k) (.lit (.int .i64 0)) = .lit (.int .i64 (l.idxOf k : Nat))) (hs : s ∉ l) :
    Maps.size (D.put (.string s) (.lit (.int .i64 (l.length : Nat)))) = (l ++ [s]).length ∧ (∀ k : Nm, Maps.has (D.put (.string s) (.lit (.int .i64 (l.length : Nat)))) (.string k) = decide (k ∈ l ++ [s])) ∧ ∀ k ∈ l ++ [s], (D.put (.string s) (.lit (.int .i64 (l.length : Nat)))).atKey (.string k) (.lit (.int .i64 0)) = .lit (.int .i64 ((l ++ [s]).idxOf k : Nat)) := by
  have hk : WideAt.IsKeyLit (.string s) := trivial
  refine ⟨?_, fun k => ?_, fun k hm => ?_⟩
  · rw [size_put hT, h3, h2]
    simp [hs]
  · by_cases e : k = s
    · subst e
      rw [has_put_same hI hk]
      simp
    · rw [has_put_other (by simpa using e), h3]
      simp [e]
  · by_cases e : k = s
    · subst e
      rw [atKey_put_same hI hk, idx_new hs]
    · have hm' : k ∈ l := by simpa [e] using hm
      rw [atKey_put_other (by simpa using e), h4 k hm', idx_app hm']
end Go.Proofs.YtnodeojeijekcaaGreat
/- What classes may be, as plain functions. No condition. -/
namespace Go.Proofs.YtnodeojeijekcaaGreat
open Go.RowKit
set_option linter.unusedVariables false
def letrI (x : Int) : Bool := (decide (97 ≤ x) && decide (x ≤ 122)) || (decide (65 ≤ x) && decide (x ≤ 90))
def laterI (x : Int) : Bool := (decide (48 ≤ x) && decide (x ≤ 57)) || decide (x = 95)
/-- may this byte stand at this place of a name? -/
def chB (i : Nat) (x : UInt8) : Bool := letrI (x.toNat : Int) || (decide (0 < i) && laterI (x.toNat : Int))
def nameB (s : Nm) : Bool := decide (1 ≤ s.length) && (decide (s.length ≤ 16) && decide (∀ i (h : i < s.length), chB i s[i] = true))
abbrev nmB (s : ByteArray) : Nm := s.data.toList
def fldsE (seen : List Nm) : List FldD → Int
  | [] => 0
  | f :: r => if nameB (nmB f.name) = false then 20 else if nmB f.name ∈ seen then 41 else if f.ty ≠ 1 ∧ f.ty ≠ 2 then 32 else fldsE (seen ++ [nmB f.name]) r
def clsE (seen : List Nm) (c : ClsD) : Int := if nameB (nmB c.name) = false then 20 else if nmB c.name ∈ seen then 41 else if 15 < c.fields.length then 3 else fldsE [] c.fields
def newE (i : Nat) (seen : List Nm) : List ClsD → Nat × Int
  | [] => (0, 0)
  | c :: r => if clsE seen c = 0 then newE (i + 1) (seen ++ [nmB c.name]) r else (i, clsE seen c)
def tabE (l : List ClsD) : Nat × Int := if 16 < l.length then (0, 3) else newE 0 [] l
def fnames (l : List FldD) : List Nm := l.map fun f => nmB f.name
def cnames (l : List ClsD) : List Nm := l.map fun c => nmB c.name
theorem fldsE_app (r : List FldD) : ∀ (l : List FldD) (seen : List Nm), fldsE seen l = 0 → fldsE seen (l ++ r) = fldsE (seen ++ fnames l) r
  | [], seen, _ => by simp [fnames]
  | f :: l, seen, h => by
    rw [fldsE] at h
    rw [List.cons_append, fldsE]
    split at h
    · cases h
    · split at h
      · cases h
      · split at h
        · cases h
        · rw [if_neg (by assumption), if_neg (by assumption), if_neg (by assumption), fldsE_app r l _ h]
          simp [fnames]
theorem newE_app (r : List ClsD) : ∀ (l : List ClsD) (i : Nat) (seen : List Nm), (newE i seen l).2 = 0 → newE i seen (l ++ r) = newE (i + l.length) (seen ++ cnames l) r
  | [], i, seen, _ => by simp [cnames]
  | c :: l, i, seen, h => by
    rw [newE] at h
    rw [List.cons_append, newE]
    by_cases e : clsE seen c = 0
    · rw [if_pos e] at h ⊢
      rw [newE_app r l _ _ h, List.length_cons, show i + 1 + l.length = i + (l.length + 1) by omega]
      simp [cnames]
    · rw [if_neg e] at h
      exact absurd h e
theorem fldsE_bad {seen : List Nm} {l : List FldD} {k : Nat} (hk : k < l.length) (h0 : fldsE seen (l.take k) = 0) {x : Int} (hx : fldsE (seen ++ fnames (l.take k)) [l[k]] = x) (hne : x ≠ 0) : fldsE seen l = x := by
  have e : l = l.take k ++ (l[k] :: l.drop (k + 1)) := by rw [List.getElem_cons_drop, List.take_append_drop]
  rw [e, fldsE_app _ _ _ h0]
  rw [fldsE] at hx ⊢
  split at hx
  · rw [if_pos (by assumption)]; exact hx
  · rw [if_neg (by assumption)]
    split at hx
    · rw [if_pos (by assumption)]; exact hx
    · rw [if_neg (by assumption)]
      split at hx
      · rw [if_pos (by assumption)]; exact hx
      · rw [fldsE] at hx; exact absurd hx.symm hne
theorem fldsE_next {seen : List Nm} {l : List FldD} {k : Nat} (hk : k < l.length) (h0 : fldsE seen (l.take k) = 0) (h1 : nameB (nmB l[k].name) = true) (h2 : ¬ nmB l[k].name ∈ seen ++ fnames (l.take k)) (h3 : l[k].ty = 1 ∨ l[k].ty = 2) : fldsE seen (l.take (k + 1)) = 0 := by
  rw [List.take_add_one, List.getElem?_eq_getElem hk, fldsE_app _ _ _ h0]
  simp only [Option.toList_some]
  rw [fldsE, if_neg (by simp [h1]), if_neg h2, if_neg (by omega), fldsE]
theorem newE_bad {l : List ClsD} {k : Nat} (hk : k < l.length) (h0 : (newE 0 [] (l.take k)).2 = 0) {x : Int} (hx : clsE (cnames (l.take k)) l[k] = x) (hne : x ≠ 0) : newE 0 [] l = (k, x) := by
  have e : l = l.take k ++ (l[k] :: l.drop (k + 1)) := by rw [List.getElem_cons_drop, List.take_append_drop]
  have e2 := newE_app (l[k] :: l.drop (k + 1)) (l.take k) 0 [] h0
  rw [← e] at e2
  rw [e2, newE, List.nil_append, if_neg (by rw [hx]; exact hne), hx, List.length_take]
  simp; omega
theorem newE_next {l : List ClsD} {k : Nat} (hk : k < l.length) (h0 : (newE 0 [] (l.take k)).2 = 0) (hx : clsE (cnames (l.take k)) l[k] = 0) : (newE 0 [] (l.take (k + 1))).2 = 0 := by
  rw [List.take_add_one, List.getElem?_eq_getElem hk, newE_app _ _ _ _ h0]
  simp only [Option.toList_some]
  rw [newE, List.nil_append, if_pos hx, newE]
end Go.Proofs.YtnodeojeijekcaaGreat
/- IsName, enter. Condition: the map is there. -/
namespace Go.Proofs.YtnodeojeijekcaaGreat
open Go.RowKit
set_option linter.unusedVariables false
theorem ret_b {a b : Bool} (h : a = b) : Ending.returned (Value.bool b) = Ending.returned (Value.bool a) := by rw [h]
set_option maxRecDepth 100000 in
set_option maxHeartbeats 2000000 in
/-- a name is given the next number, if it is one and has none -/
def entE (l : List Nm) (s : ByteArray) : Int := if nameB (nmB s) = false then 20 else if nmB s ∈ l then 41 else 0
theorem name_len {s : ByteArray} (h : nameB (nmB s) = true) : s.size ≤ 16 := by
  unfold nameB at h
  simp only [Bool.and_eq_true, decide_eq_true_eq] at h
  have := h.2.1
  simpa using this
/-- what a name does to a map of names -/
def entL (l : List Nm) (s : ByteArray) : List Nm := if entE l s = 0 then l ++ [nmB s] else l
end Go.Proofs.YtnodeojeijekcaaGreat
/- Rows of structs of one's own (where a seat has classes alone). No condition. -/
namespace Go.Proofs.YtnodeojeijekcaaGreat
open Go.RowKit
set_option linter.unusedVariables false
theorem row_shape {W : World} {base n : Nat} {e : TypeId} {v : Value} {k : Nat} {xs : List Value} (h : W.ownsRow base e n v k xs) : ∃ a c, v = .slice a k c := by
  rcases h.2 with ⟨h1, h2⟩ | ⟨g, cap, cur, h1, _⟩
  · subst h2; exact ⟨_, _, h1⟩
  · exact ⟨_, _, h1⟩
theorem rd_shape {α : Type} {sz B : Nat} {el : World → Nat → Nat → α → Prop} {w : World} {v : Value} {l : List α} (h : RdRow sz el B w v l) : ∃ a c, v = .slice a l.length c := by
  obtain ⟨a, c, e, _⟩ := h; exact ⟨a, c, e⟩
theorem rd_at {α : Type} {sz B : Nat} {el : World → Nat → Nat → α → Prop} {w : World} {a : Option Addr} {n c i : Nat} {l : List α} (h : RdRow sz el B w (.slice a n c) l) (hi : i < l.length) : ∃ b o, a = some ⟨b, o, none⟩ ∧ b < B ∧ el w b (o + i * sz) l[i] := by
  obtain ⟨a', c', q, _, h3⟩ := h
  injection q with q1 q2 q3
  subst q1
  exact h3 i hi
theorem own_drew {w : World} {B n m : Nat} {e : TypeId} {v : Value} {xs : List Value} (h : w.ownsRow B e n v m xs) : w.drew.ownsRow B e n v m xs := h
theorem op_atC {l : List Oper} {i : Nat} {o : Oper} (h : l[i]? = some o) : l.toArray[i]? = some o := by simpa using h
theorem flat_len {α : Type} (f : α → List Value) (k : Nat) (hk : ∀ x, (f x).length = k) : ∀ l : List α, (l.flatMap f).length = l.length * k
  | [] => by simp
  | x :: r => by rw [List.flatMap_cons, List.length_append, hk, flat_len f k hk r, List.length_cons, Nat.add_mul]; omega
theorem flat_at {α : Type} (f : α → List Value) (k : Nat) (hk : ∀ x, (f x).length = k) : ∀ (l : List α) (i j : Nat) (hi : i < l.length), j < k → (l.flatMap f)[i * k + j]? = (f (l[i]'hi))[j]?
  | x :: r, 0, j, hi, hj => by
    rw [List.flatMap_cons, List.getElem?_append_left (by rw [hk]; omega)]
    simp
  | x :: r, i + 1, j, hi, hj => by
    rw [List.flatMap_cons, List.getElem?_append_right (by rw [hk, Nat.add_mul]; omega), hk, show (i + 1) * k + j - k = i * k + j by rw [Nat.add_mul]; omega]
    exact flat_at f k hk r i j (by simpa using hi) hj
theorem flat_in {α : Type} {f : α → List Value} {l : List α} (h : ∀ x, ∀ u ∈ f x, u.oneCell' = true) : ∀ u ∈ l.flatMap f, u.oneCell' = true := by
  intro u hu
  obtain ⟨x, _, hx⟩ := List.mem_flatMap.1 hu
  exact h x u hx
theorem own_grewG {w w' : World} {base : Nat} {e : TypeId} {size : Nat} {v : Value} {n : Nat} {xs : List Value} (h : w.ownsRow base e size v n xs) (hb : Below w.heap.size w w') : w'.ownsRow base e size v n xs := by
  obtain ⟨e1, e2⟩ := h
  refine ⟨e1, ?_⟩
  rcases e2 with e2 | ⟨g, cap, cur, a1, a2, a3, a4⟩
  · exact .inl e2
  · exact .inr ⟨g, cap, cur, a1, a2, (hb.block g (Array.getElem?_eq_some_iff.1 a3).1).trans a3, a4⟩
theorem own_sub {w : World} {b b' : Nat} {e : TypeId} {size : Nat} {v : Value} {n : Nat} {xs : List Value} (h : w.ownsRow b e size v n xs) (hb : b' ≤ b) : w.ownsRow b' e size v n xs := by
  obtain ⟨e1, e2⟩ := h
  refine ⟨e1, ?_⟩
  rcases e2 with e2 | ⟨g, cap, cur, a1, a2, a3⟩
  · exact .inl e2
  · exact .inr ⟨g, cap, cur, a1, by omega, a3⟩
theorem own_ltG {w : World} {b : Nat} {e : TypeId} {size : Nat} {v : Value} {n : Nat} {xs : List Value} (h : w.ownsRow b e size v n xs) {g : Nat} (hg : v.ownBlock = some g) : b ≤ g ∧ g < w.heap.size := by
  rcases h.2 with ⟨h1, _⟩ | ⟨q, cap, cur, a1, a2, a3, _⟩
  · rw [h1] at hg; cases hg
  · rw [a1] at hg
    obtain rfl : q = g := Option.some.inj hg
    exact ⟨a2, (Array.getElem?_eq_some_iff.1 a3).1⟩
/-- the cells of a row of one's own -/
theorem own_cellG {w : World} {b : Nat} {e : TypeId} {size : Nat} {v : Value} {n : Nat} {xs : List Value} (h : w.ownsRow b e size v n xs) (hn : 0 < n) : ∃ g cap, v = .slice (some ⟨g, 0, none⟩) n cap ∧ b ≤ g ∧ g < w.heap.size ∧ n ≤ cap ∧ cap ≤ maxLen ∧ ∀ j u, xs[j]? = some u → w.cell? ⟨g, j, none⟩ = some u := by
  obtain ⟨e1, e2⟩ := h
  rcases e2 with ⟨_, h0⟩ | ⟨g, cap, cur, a1, a2, a3, a4, a5, a6, a7⟩
  · omega
  · refine ⟨g, cap, a1, a2, (Array.getElem?_eq_some_iff.1 a3).1, a4, a5, fun j u hu => ?_⟩
    rw [cell_of_row w g j cur e (0, 0) a3]
    rw [← a7] at hu
    have h5 := (List.getElem?_eq_some_iff.1 hu).1
    rw [List.length_take] at h5
    rw [List.getElem?_take, if_pos (by omega)] at hu
    simpa using hu
/-- append of a slice of somebody else's to nothing -/
theorem app_nil {e t : TypeId} {sz bytes : Nat} {z : Value} {i0 : TypeInfo} (ht : Tryz.prog.underlying t = some (.slice e)) (hi : Tryz.prog.info? e = some i0) (hz : i0.zero = some z) (hs : i0.size = sz) (hb : i0.bytes = bytes) (hzs : z.cells.size = sz) (hsz : 0 < sz)
    (w : World) (ty : TypeId) (a : Option Addr) (n c : Nat) (news : List Value) (hl : news.length = n * sz) (h1 : ∀ u ∈ news, u.oneCell' = true) (hnews : ∀ j u, news[j]? = some u → ∃ ad, a = some ad ∧ w.cell? (ad.add j) = some u) (hn : n ≤ 1000) (hby : bytes ≤ 1000) :
    ∃ v' w', (Builtin.append_ #[t, t] ty #[.slice none 0 0, .slice a n c]).run Tryz.prog w = .ok v' w' ∧ w'.ownsRow w.heap.size e sz v' n news ∧ Below w.heap.size w w' := by
  cases a with
  | none =>
    have hn0 : n = 0 := by
      rcases Nat.eq_zero_or_pos n with h | h
      · exact h
      · have h2 : 0 < news.length := by rw [hl]; exact Nat.mul_pos h hsz
        obtain ⟨ad, h3, _⟩ := hnews 0 _ (List.getElem?_eq_getElem h2)
        cases h3
    subst hn0
    have hnn : news = [] := List.eq_nil_of_length_eq_zero (by omega)
    subst hnn
    refine ⟨.slice none 0 0, w, ?_, ⟨by simp, .inl ⟨rfl, rfl⟩⟩, Below.refl _ _⟩
    have ht' := run_underlying (P := Tryz.prog) (w := w) ht
    simp [Builtin.append_, ht', sizeOf, typeInfo, hi, Builtin.lenOf, Builtin.firstCells]
  | some ad =>
    obtain ⟨v', w', hr, h2, h3, _⟩ := run_append_own_at (P := Tryz.prog) w w.heap.size t ty e i0 z sz bytes ht hi hz hs hb hzs hsz (.slice none 0 0) 0 [] ⟨by simp, .inl ⟨rfl, rfl⟩⟩ ad n c news hl (fun j u hu => by
      obtain ⟨ad', e1, e2⟩ := hnews j u hu
      obtain rfl := Option.some.inj e1
      exact e2) h1 (by unfold maxLen; omega) (by
        have : (0 + n) * bytes ≤ 1000 * 1000 := Nat.mul_le_mul (by omega) hby
        omega) (Nat.le_refl _)
    exact ⟨v', w', hr, by simpa using h2, (Below.refl _ _).grown h3 (Nat.le_refl _) (fun k hk => by cases hk)⟩
def fldC (f : FldD) : List Value := [.string f.name, .int .i64 f.ty]
def intC (x : Int) : List Value := [.int .i64 x]
def clsC (x : ClsD × Value) : List Value := [.string x.1.name, x.2]
theorem add_at (b o k : Nat) : (⟨b, o, none⟩ : Addr).add k = ⟨b, o + k, none⟩ := by unfold Addr.add; split <;> simp_all
/-- what a foreign row's cells are, place by place -/
theorem rd_news {α : Type} {sz B : Nat} {el : World → Nat → Nat → α → Prop} {f : α → List Value} {w : World} {a : Option Addr} {n c : Nat} {l : List α} (hsz : 0 < sz) (hf : ∀ x, (f x).length = sz) (hel : ∀ b k x, el w b k x → ∀ j u, (f x)[j]? = some u → w.cell? ⟨b, k + j, none⟩ = some u) (h : RdRow sz el B w (.slice a n c) l) :
    ∀ j u, (l.flatMap f)[j]? = some u → ∃ ad, a = some ad ∧ w.cell? (ad.add j) = some u := by
  intro j u hu
  have hj := (List.getElem?_eq_some_iff.1 hu).1
  rw [flat_len f sz hf] at hj
  have hi : j / sz < l.length := Nat.div_lt_of_lt_mul (by rw [Nat.mul_comm]; exact hj)
  have hd : j / sz * sz + j % sz = j := by rw [Nat.mul_comm]; exact Nat.div_add_mod j sz
  have hfa := flat_at f sz hf l (j / sz) (j % sz) hi (Nat.mod_lt _ hsz)
  rw [hd, hu] at hfa
  obtain ⟨a', c', hv, _, hall⟩ := h
  injection hv with hv1 _ _
  subst hv1
  obtain ⟨b, o, e1, _, e3⟩ := hall _ hi
  refine ⟨_, e1, ?_⟩
  have := hel _ _ _ e3 _ _ hfa.symm
  rw [add_at, ← this, Nat.add_assoc, hd]
/-- a row of one's own reads as what it holds -/
theorem own_rd {α : Type} {sz B b : Nat} {el : World → Nat → Nat → α → Prop} {f : α → List Value} {e : TypeId} {w : World} {v : Value} {l : List α} (hsz : 0 < sz) (hf : ∀ x, (f x).length = sz) (h : w.ownsRow b e sz v l.length (l.flatMap f)) (hB : w.heap.size ≤ B)
    (hel : ∀ g k x, x ∈ l → (∀ j u, (f x)[j]? = some u → w.cell? ⟨g, k + j, none⟩ = some u) → el w g k x) : RdRow sz el B w v l := by
  rcases Nat.eq_zero_or_pos l.length with h0 | h0
  · obtain rfl := List.eq_nil_of_length_eq_zero h0
    obtain ⟨a, c, rfl⟩ := row_shape h
    exact ⟨a, c, rfl, by unfold maxLen; simp, fun i hi => absurd hi (by simp)⟩
  · obtain ⟨g, cap, rfl, q1, q2, q3, q4, q5⟩ := own_cellG h h0
    refine ⟨some ⟨g, 0, none⟩, cap, rfl, by omega, fun i hi => ⟨g, 0, rfl, by omega, hel _ _ _ (List.getElem_mem hi) fun j u hu => ?_⟩⟩
    have hj : j < sz := by
      have := (List.getElem?_eq_some_iff.1 hu).1
      rw [hf] at this
      exact this
    have := q5 (i * sz + j) u (by rw [flat_at f sz hf l i j hi hj]; exact hu)
    rw [Nat.zero_add]
    exact this
theorem info_intC : (Tryz.prog.info? 3).map (fun i => (i.zero, i.size, i.bytes)) = some (some (.int .i64 0), 1, 8) := by kernel_rfl
end Go.Proofs.YtnodeojeijekcaaGreat
/- The laws' own 'lay': a field with an arena of pages, the document's beside it. Condition: the pages are read in full. -/
namespace Go.Proofs.YtnodeojeijekcaaGreat
open Go.RowKit
set_option linter.unusedVariables false
/-- a page, as the law is given it -/
structure PgD where
  (k c s o y odd al ma : Int)
def ElPg (w : World) (b i : Nat) (x : PgD) : Prop := (w.cell? ⟨b, i, none⟩ = some (.int .i64 x.k) ∧ w.cell? ⟨b, i + 1, none⟩ = some (.int .i64 x.c) ∧ w.cell? ⟨b, i + 2, none⟩ = some (.int .i64 x.s) ∧ w.cell? ⟨b, i + 3, none⟩ = some (.int .i64 x.o) ∧ w.cell? ⟨b, i + 4, none⟩ = some (.int .i64 x.y)) ∧
  (w.cell? ⟨b, i + 5, none⟩ = some (.int .u64 x.odd) ∧ w.cell? ⟨b, i + 6, none⟩ = some (.int .u64 x.al) ∧ w.cell? ⟨b, i + 7, none⟩ = some (.int .u64 x.ma)) ∧ U64 x.odd ∧ U64 x.al ∧ U64 x.ma
theorem ElPg.keep {B : Nat} {w w' : World} {b k : Nat} {x : PgD} (hb : Below B w w') (h0 : b < B) (h : ElPg w b k x) : ElPg w' b k x := by
  obtain ⟨⟨a1, a2, a3, a4, a5⟩, ⟨a6, a7, a8⟩, h⟩ := h
  exact ⟨⟨(hb.cell (p := ⟨b, _, none⟩) h0).trans a1, (hb.cell (p := ⟨b, _, none⟩) h0).trans a2, (hb.cell (p := ⟨b, _, none⟩) h0).trans a3, (hb.cell (p := ⟨b, _, none⟩) h0).trans a4, (hb.cell (p := ⟨b, _, none⟩) h0).trans a5⟩, ⟨(hb.cell (p := ⟨b, _, none⟩) h0).trans a6, (hb.cell (p := ⟨b, _, none⟩) h0).trans a7, (hb.cell (p := ⟨b, _, none⟩) h0).trans a8⟩, h⟩
def pgW (x : PgD) : Int := if x.odd = 0 then eencV x.k x.c x.s x.o x.y else x.odd
def pE (T : Int) : Nat := (tabI T 1).toNat
def stP (P T : Int) (cs : List Int) (k : Nat) (x : PgD) : List Int := ((cs.set (pE T + k) (pgW x)).set (pE T + P.toNat + k) x.al).set (pE T + 2 * P.toNat + k) x.ma
def layK (P T : Int) (l : List PgD) : Nat → List Int
  | 0 => List.replicate (cellsN P T 1) 0
  | k + 1 => stP P T (layK P T l k) k (l.getD k ⟨0, 0, 0, 0, 0, 0, 0, 0⟩)
theorem stP_len (P T : Int) (cs : List Int) (k : Nat) (x : PgD) : (stP P T cs k x).length = cs.length := by simp [stP]
theorem layK_len (P T : Int) (l : List PgD) : ∀ k, (layK P T l k).length = cellsN P T 1
  | 0 => by simp [layK]
  | k + 1 => by rw [layK, stP_len]; exact layK_len P T l k
theorem right_small {P T : Int} (hP : 1 ≤ P ∧ P ≤ 5) (hT : 1 ≤ T ∧ T ≤ 3) : Right P T 1 := ⟨⟨hP.1, by omega⟩, ⟨hT.1, by omega⟩, by omega, by omega⟩
/-- where the words of a page stand -/
theorem pq_at {P T : Int} {k : Nat} (hP : 1 ≤ P ∧ P ≤ 5) (hT : 1 ≤ T ∧ T ≤ 3) (hk : (k : Int) < P) :
    (wrap64 (tabI T 1 + (k : Int)) = ((pE T + k : Nat) : Int) ∧ pE T + k < cellsN P T 1) ∧ (wrap64 (wrap64 (tabI T 1 + P) + (k : Int)) = ((pE T + P.toNat + k : Nat) : Int) ∧ pE T + P.toNat + k < cellsN P T 1) ∧ (wrap64 (wrap64 (tabI T 1 + wrap64 (2 * P)) + (k : Int)) = ((pE T + 2 * P.toNat + k : Nat) : Int) ∧ pE T + 2 * P.toNat + k < cellsN P T 1) := by
  have hr := right_small hP hT
  obtain ⟨hN, _, _⟩ := cellsN_bd hr
  have hb := base_bd hr
  have ht := tab_bd hr
  have htab : tabI T 1 = 16 + T * (5 + 1) := rfl
  unfold pE
  rw [htab] at *
  have e1 : wrap64 (2 * P) = 2 * P := IntWalk.wrap64_in _ (by omega)
  have e2 : wrap64 (16 + T * (5 + 1) + P) = 16 + T * (5 + 1) + P := IntWalk.wrap64_in _ (by omega)
  have e3 : wrap64 (16 + T * (5 + 1) + 2 * P) = 16 + T * (5 + 1) + 2 * P := IntWalk.wrap64_in _ (by omega)
  rw [e1, e2, e3, IntWalk.wrap64_in _ (by omega), IntWalk.wrap64_in _ (by omega), IntWalk.wrap64_in _ (by omega)]
  refine ⟨⟨?_, ?_⟩, ⟨?_, ?_⟩, ?_, ?_⟩ <;> omega
def flV (P T : Int) (a M p : Option Addr) : Array Value := #[.int .i64 P, .int .i64 T, .int .i64 1, .int .i64 P, .int .i64 T, .int .i64 1, .int .i64 (baseI P T 1), .int .i64 (tabI T 1), .int .i64 (baseI P T 1 + 64 * P), .pointer a, .pointer M, .pointer p]
/-- a field under way -/
structure LaS (w : World) (B f M d a c : Nat) (P T : Int) (cs cs2 : List Int) (W : World) : Prop where
  fl : Blk W f (flV P T (some ⟨a, 0, none⟩) (some ⟨M, 0, none⟩) none) 38
  doc : Blk W M #[.slice (some ⟨d, 0, none⟩) cs.length cs.length, .slice none 0 0, .int .i64 0] 65
  row : Blk W d (cs.map (Value.int .u64)).toArray 47
  ary : Ary W B a c cs2 0 [d, M, f]
  bel : Below B w W
  lo : B ≤ f ∧ B ≤ M ∧ B ≤ d
section
variable {w W W' : World} {B f M d a c : Nat} {P T : Int} {cs cs2 : List Int}
theorem LaS.grew (h : LaS w B f M d a c P T cs cs2 W) (hb : Below W.heap.size W W') : LaS w B f M d a c P T cs cs2 W' := ⟨h.fl.grew hb, h.doc.grew hb, h.row.grew hb, h.ary.grew hb, h.bel.trans (hb.mono h.ary.bw), h.lo⟩
theorem LaS.drew (h : LaS w B f M d a c P T cs cs2 W) : LaS w B f M d a c P T cs cs2 W.drew := h.grew (Quiet.below ⟨1, rfl⟩)
theorem LaS.cells (h : LaS w B f M d a c P T cs cs2 W) : (W.cell? ⟨f, 3, none⟩ = some (.int .i64 P) ∧ W.cell? ⟨f, 4, none⟩ = some (.int .i64 T) ∧ W.cell? ⟨f, 5, none⟩ = some (.int .i64 1) ∧ W.cell? ⟨f, 6, none⟩ = some (.int .i64 (baseI P T 1)) ∧ W.cell? ⟨f, 7, none⟩ = some (.int .i64 (tabI T 1)) ∧ W.cell? ⟨f, 8, none⟩ = some (.int .i64 (baseI P T 1 + 64 * P))) ∧ W.cell? ⟨f, 10, none⟩ = some (.pointer (some ⟨M, 0, none⟩)) ∧ W.cell? ⟨M, 0, none⟩ = some (.slice (some ⟨d, 0, none⟩) cs.length cs.length) ∧ W.cell? ⟨f, 0, none⟩ = some (.int .i64 P) :=
  ⟨⟨h.fl.val 3 rfl, h.fl.val 4 rfl, h.fl.val 5 rfl, h.fl.val 6 rfl, h.fl.val 7 rfl, h.fl.val 8 rfl⟩, h.fl.val 10 rfl, h.doc.val 0 rfl, h.fl.val 0 rfl⟩
theorem blk_ne {w : World} {b b' : Nat} {x y : Array Value} {t t' : TypeId} (h : Blk w b x t) (h' : Blk w b' y t') (ht : t ≠ t') : b ≠ b' := by
  rintro rfl
  unfold Blk at h h'
  rw [h] at h'
  injection h' with h'
  injection h' with _ h'
  exact ht h'
theorem LaS.put (h : LaS w B f M d a c P T cs cs2 W) (i : Nat) (v : Int) : LaS w B f M d a c P T (cs.set i v) cs2 (W.setCell ⟨d, i, none⟩ (.int .u64 v)) := by
  have h1 := blk_ne h.fl h.row (by decide)
  have h2 := blk_ne h.doc h.row (by decide)
  refine ⟨h.fl.other _ _ h1, by rw [List.length_set]; exact h.doc.other _ _ h2, ?_, h.ary.touch ((Touch.refl (fun b => b = d) W).setCell (p := ⟨d, i, none⟩) rfl _) (fun b e => by rw [e]; simp), h.bel.setCell (p := ⟨d, i, none⟩) h.lo.2.2 _, h.lo⟩
  have := h.row.set i (.int .u64 v)
  rw [List.map_set, ← List.setIfInBounds_toArray]
  exact this
theorem LaS.poke {i : Nat} (h : LaS w B f M d a c P T cs cs2 W) (v : Int) (hi : i < cs2.length) (hm : cs2.length ≤ 1000000) :
    Calls Tryz.prog 27 #[.pointer (some ⟨a, 0, none⟩), .int .i64 i, .int .u64 v] W fun e w' => e = .returned (.int .i64 0) ∧ LaS w B f M d a c P T cs (cs2.set i v) w' := by
  have hc := h.ary.cne
  refine (apoke v h.ary hi hm).mono fun e w' ⟨he, hA, hT⟩ => ⟨he, h.fl.touch hT (fun e => hc.1 (by simp [← e])), h.doc.touch hT (fun e => hc.1 (by simp [← e])), h.row.touch hT (fun e => hc.1 (by simp [← e])), hA, h.bel.trans (hT.below (Nat.le_of_lt (Nat.lt_of_le_of_lt h.lo.1 h.fl.lt)) (fun b e => by rw [e]; exact hc.2.1)), h.lo⟩
end
end Go.Proofs.YtnodeojeijekcaaGreat
