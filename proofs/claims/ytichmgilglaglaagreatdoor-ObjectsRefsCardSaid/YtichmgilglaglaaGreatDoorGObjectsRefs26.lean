/- Texts of this seat, one behind the other: each says at its head what it holds. No condition of its own. -/
import Derived.Deep.QuietTactic
import Derived.BigQuiet
import Derived.Lib.Strings
import Derived.Laws.StructEq
import Derived.RangeFuncBox
import Derived.RangeFuncWrites
import Derived.Test.YtichmgilglaglaaGreatDoorGObjectsRefs01
import Derived.Test.YtichmgilglaglaaGreatDoorGObjectsRefs24
/- IsRef; the law's own example. Condition: the table is there. -/
namespace Go.Proofs.YtichmgilglaglaaGreatDoor
open Go.RowKit Go.Shelf
set_option linter.unusedVariables false
attribute [local go_sem] Oper.semAt_some
def isrI (cl : List ClsD) (c k n i : Int) : Bool := decide (∃ j ∈ ptrL cl c k n, ((j : Nat) : Int) = i)
theorem isr_hit {cl : List ClsD} {c k n i : Int} {pre : List Nat} {x : Nat} (h : (pre ++ [x]) <+: ptrL cl c k n) (hx : ((x : Nat) : Int) = i) : isrI cl c k n i = true := by
  unfold isrI
  simp only [decide_eq_true_eq]
  exact ⟨x, h.subset (by simp), hx⟩
theorem isr_miss {cl : List ClsD} {c k n i : Int} (h : ∀ x ∈ ptrL cl c k n, ((x : Nat) : Int) ≠ i) : isrI cl c k n i = false := by
  unfold isrI
  simp only [decide_eq_false_iff_not]
  rintro ⟨j, hj, e⟩
  exact h j hj e
end Go.Proofs.YtichmgilglaglaaGreatDoor
/- The law's own example: a class's references are told. No condition. -/
namespace Go.Proofs.YtichmgilglaglaaGreatDoor
open Go.RowKit
set_option linter.unusedVariables false
def fld0 : FldD := ⟨⟨#[110, 101, 120, 116]⟩, 2⟩
def fld1 : FldD := ⟨⟨#[110]⟩, 1⟩
def cls0 : ClsD := ⟨⟨#[110, 111, 100, 101]⟩, [fld0, fld1]⟩
theorem tab0 : tabE [cls0] = (0, 0) := by decide +kernel
theorem isr0 : isrI [cls0] 0 1 2 0 = true := by decide +kernel
theorem isr1 : isrI [cls0] 0 1 2 1 = false := by decide +kernel
theorem isr2 : isrI [cls0] 0 3 3 2 = true := by decide +kernel
theorem cls0_rd (w : World) : RdRow 2 (ElC (w.heap.size + 2)) (w.heap.size + 2) ((w.alloc (.cells #[.string ⟨#[110, 101, 120, 116]⟩, .int .i64 2, .string ⟨#[110]⟩, .int .i64 1] 186)).alloc (.cells #[.string ⟨#[110, 111, 100, 101]⟩, .slice (some ⟨w.heap.size, 0, none⟩) 2 2] 145)) (.slice (some ⟨w.heap.size + 1, 0, none⟩) 1 1) [cls0] := by
  have k1 : Blk ((w.alloc (.cells #[.string ⟨#[110, 101, 120, 116]⟩, .int .i64 2, .string ⟨#[110]⟩, .int .i64 1] 186)).alloc (.cells #[.string ⟨#[110, 111, 100, 101]⟩, .slice (some ⟨w.heap.size, 0, none⟩) 2 2] 145)) w.heap.size #[.string ⟨#[110, 101, 120, 116]⟩, .int .i64 2, .string ⟨#[110]⟩, .int .i64 1] 186 := (Blk.new _ _ _).alloc _
  have k2 : Blk ((w.alloc (.cells #[.string ⟨#[110, 101, 120, 116]⟩, .int .i64 2, .string ⟨#[110]⟩, .int .i64 1] 186)).alloc (.cells #[.string ⟨#[110, 111, 100, 101]⟩, .slice (some ⟨w.heap.size, 0, none⟩) 2 2] 145)) (w.heap.size + 1) #[.string ⟨#[110, 111, 100, 101]⟩, .slice (some ⟨w.heap.size, 0, none⟩) 2 2] 145 := Blk.new' (by simp)
  refine ⟨some ⟨w.heap.size + 1, 0, none⟩, 1, rfl, by unfold maxLen; simp, fun i hi => ⟨w.heap.size + 1, 0, rfl, by omega, ?_⟩⟩
  obtain rfl : i = 0 := by simpa using hi
  refine ⟨k2.val 0 rfl, _, k2.val 1 rfl, some ⟨w.heap.size, 0, none⟩, 2, rfl, by unfold maxLen; simp [cls0], fun j hj => ⟨w.heap.size, 0, rfl, by omega, ?_⟩⟩
  match j, hj with
  | 0, _ => exact ⟨k1.val 0 rfl, k1.val 1 rfl, (show I64 (2 : Int) from ⟨by omega, by omega⟩)⟩
  | 1, _ => exact ⟨k1.val 2 rfl, k1.val 3 rfl, (show I64 (1 : Int) from ⟨by omega, by omega⟩)⟩
  | j + 2, h => exact absurd h (by simp [cls0])
end Go.Proofs.YtichmgilglaglaaGreatDoor
/- The document's Name; the law ClassesNames. No condition. -/
namespace Go.Proofs.YtichmgilglaglaaGreatDoor
open Go.RowKit
set_option linter.unusedVariables false
end Go.Proofs.YtichmgilglaglaaGreatDoor
/- The document's Check of classes. Condition: the classes are there. -/
namespace Go.Proofs.YtichmgilglaglaaGreatDoor
open Go.RowKit
set_option linter.unusedVariables false
def fldsR (l : List FldD) : Int := if 15 < l.length then 3 else fldsE [] l
theorem nm_yes {a b : ByteArray} (h : nmB a = nmB b) : (a.toList == b.toList) = true := by rw [Lib.toList_data, Lib.toList_data]; simpa using h
theorem nm_no {a b : ByteArray} (h : nmB a ≠ nmB b) : (a.toList == b.toList) = false := by rw [Lib.toList_data, Lib.toList_data]; simpa using h
theorem fnames_mem {l : List FldD} {i : Nat} {s : Nm} : s ∈ fnames (l.take i) ↔ ∃ j, ∃ (h : j < l.length), j < i ∧ nmB l[j].name = s := by
  unfold fnames
  rw [List.mem_map]
  constructor
  · rintro ⟨f, hf, rfl⟩
    obtain ⟨j, hj, rfl⟩ := List.getElem_of_mem hf
    rw [List.length_take] at hj
    exact ⟨j, by omega, by omega, by rw [List.getElem_take]⟩
  · rintro ⟨j, h1, h2, rfl⟩
    exact ⟨l[j], List.mem_take_iff_getElem.2 ⟨j, by omega, rfl⟩, rfl⟩
end Go.Proofs.YtichmgilglaglaaGreatDoor
/- The document's Check of classes, its walk. Condition: the classes are there. -/
namespace Go.Proofs.YtichmgilglaglaaGreatDoor
open Go.RowKit
set_option linter.unusedVariables false
theorem cnames_mem {l : List ClsD} {i : Nat} {s : Nm} : s ∈ cnames (l.take i) ↔ ∃ j, ∃ (h : j < l.length), j < i ∧ nmB l[j].name = s := by
  unfold cnames
  rw [List.mem_map]
  constructor
  · rintro ⟨f, hf, rfl⟩
    obtain ⟨j, hj, rfl⟩ := List.getElem_of_mem hf
    rw [List.length_take] at hj
    exact ⟨j, by omega, by omega, by rw [List.getElem_take]⟩
  · rintro ⟨j, h1, h2, rfl⟩
    exact ⟨l[j], List.mem_take_iff_getElem.2 ⟨j, by omega, rfl⟩, rfl⟩
theorem newE_zero' : ∀ (l : List ClsD) (i : Nat) (seen : List Nm), (newE i seen l).2 = 0 → newE i seen l = (0, 0)
  | [], i, seen, _ => rfl
  | c :: r, i, seen, h => by
    rw [newE] at h ⊢
    by_cases e : clsE seen c = 0
    · rw [if_pos e] at h ⊢
      exact newE_zero' r _ _ h
    · rw [if_neg e] at h
      exact absurd h e
theorem newE_zero {l : List ClsD} (h : (newE 0 [] l).2 = 0) : newE 0 [] l = (0, 0) := newE_zero' l 0 [] h
end Go.Proofs.YtichmgilglaglaaGreatDoor
/- The document's SameClass (where a seat has classes alone). No condition. -/
namespace Go.Proofs.YtichmgilglaglaaGreatDoor
open Go.RowKit
set_option linter.unusedVariables false
theorem list_eq_of {α : Type} {l1 l2 : List α} (h : l1.length = l2.length) (he : ∀ i, (h1 : i < l1.length) → (h2 : i < l2.length) → l1[i] = l2[i]) : l1 = l2 := List.ext_getElem h he
theorem fields2 {l : List Field} {t u : TypeId} (h : l.map (fun f => (f.type, f.offset, f.name == "_")) = [(t, 0, false), (u, 1, false)]) :
    ∃ f g, l = [f, g] ∧ (f.type = t ∧ f.offset = 0 ∧ ¬ f.name = "_") ∧ (g.type = u ∧ g.offset = 1 ∧ ¬ g.name = "_") := by
  rcases l with _ | ⟨f0, _ | ⟨f1, _ | ⟨f2, l⟩⟩⟩ <;> simp only [List.map_cons, List.map_nil, List.cons.injEq, Prod.mk.injEq, beq_eq_false_iff_ne, ne_eq, and_true, reduceCtorEq, and_false] at h
  exact ⟨f0, f1, rfl, h.1, h.2⟩
theorem neq_fld (w : World) (a b : ByteArray) (x y : Int) :
    (binOp .neq 186 (.agg #[.string a, .int .i64 x]) (.agg #[.string b, .int .i64 y])).run Tryz.prog w = .ok (.bool (!(a.toList == b.toList && x == y))) w := by
  rw [run_neq_struct, run_equalIn_agg w 9999 _ _ _ (by kernel_rfl) (by kernel_rfl)]
  obtain ⟨f, g, hl, ⟨f1, f2, f3⟩, g1, g2, g3⟩ := fields2 (l := (Tryz.prog.fieldsOf 186).toList) (t := 9) (u := 3) (by kernel_rfl)
  rw [hl]
  have hi : Tryz.prog.underlying 3 = some (.int .i64) := by kernel_rfl
  have hs : Tryz.prog.underlying 9 = some .string := by kernel_rfl
  simp [Op.eqFields, f1, f2, f3, g1, g2, g3, go_sem, hi, hs]
  by_cases h1 : a.toList = b.toList <;> by_cases h2 : x = y <;> simp [h1, h2]
theorem guard_fld : Tryz.prog.eqGuardType Tryz.prog.depth 186 = false := by kernel_rfl
def fldP (f : FldD) : List UInt8 × Int := (f.name.toList, f.ty)
def clsP (c : ClsD) : List UInt8 × List (List UInt8 × Int) := (c.name.toList, c.fields.map fldP)
theorem map_eq_of {α β : Type} {f : α → β} {l1 l2 : List α} (h : l1.length = l2.length) (he : ∀ i, (h1 : i < l1.length) → (h2 : i < l2.length) → f l1[i] = f l2[i]) : l1.map f = l2.map f :=
  list_eq_of (by simpa using h) fun i h1 h2 => by simpa using he i (by simpa using h1) (by simpa using h2)
theorem map_ne_at {α β : Type} {f : α → β} {l1 l2 : List α} {i : Nat} (h1 : i < l1.length) (h2 : i < l2.length) (h : ¬ f l1[i] = f l2[i]) : ¬ l1.map f = l2.map f := fun e => h (by
  have q : (l1.map f)[i]? = (l2.map f)[i]? := by rw [e]
  simpa [List.getElem?_eq_getElem h1, List.getElem?_eq_getElem h2] using q)
theorem map_ne_len {α β : Type} {f : α → β} {l1 l2 : List α} (h : ¬ l1.length = l2.length) : ¬ l1.map f = l2.map f := fun e => h (by simpa using congrArg List.length e)
theorem fldP_eq {f g : FldD} : (f.name.toList == g.name.toList && f.ty == g.ty) = decide (fldP f = fldP g) := by
  unfold fldP
  by_cases h1 : f.name.toList = g.name.toList <;> by_cases h2 : f.ty = g.ty <;> simp [h1, h2]
theorem clsP_eq {f g : ClsD} : decide (clsP f = clsP g) = (decide (f.name.toList = g.name.toList) && decide (f.fields.map fldP = g.fields.map fldP)) := by
  unfold clsP
  by_cases h1 : f.name.toList = g.name.toList <;> by_cases h2 : f.fields.map fldP = g.fields.map fldP <;> simp [h1, h2]
end Go.Proofs.YtichmgilglaglaaGreatDoor
/- Table.Class: a class, in memory of its own. Condition: the table is there. -/
namespace Go.Proofs.YtichmgilglaglaaGreatDoor
open Go.RowKit
set_option linter.unusedVariables false
end Go.Proofs.YtichmgilglaglaaGreatDoor
/- The law ClassesMakes. Condition: the argument reads as classes. -/
namespace Go.Proofs.YtichmgilglaglaaGreatDoor
open Go.RowKit
set_option linter.unusedVariables false
theorem newE_all : ∀ (l : List ClsD) (i : Nat) (seen : List Nm), (newE i seen l).2 = 0 → ∀ c ∈ l, c.fields.length ≤ 15
  | [], _, _, _, c, hc => by cases hc
  | d :: r, i, seen, h, c, hc => by
    rw [newE] at h
    by_cases e : clsE seen d = 0
    · rw [if_pos e] at h
      rcases List.mem_cons.1 hc with q | q
      · subst q
        unfold clsE at e
        split at e
        · cases e
        · split at e
          · cases e
          · split at e
            · cases e
            · omega
      · exact newE_all r _ _ h c q
    · rw [if_neg e] at h
      exact absurd h e
theorem tabE_zero {l : List ClsD} (h : (tabE l).2 = 0) : tabE l = (0, 0) ∧ ∀ c ∈ l, c.fields.length ≤ 15 := by
  unfold tabE at h ⊢
  split at h
  · cases h
  · rename_i e
    rw [if_neg e]
    exact ⟨newE_zero h, newE_all l 0 [] h⟩
theorem rd_mem {α : Type} {sz B : Nat} {el : World → Nat → Nat → α → Prop} {w : World} {v : Value} {l : List α} (h : RdRow sz el B w v l) {x : α} (hx : x ∈ l) : ∃ b k, el w b k x := by
  obtain ⟨a, c, h1, h2, h3⟩ := h
  obtain ⟨i, hi, rfl⟩ := List.getElem_of_mem hx
  obtain ⟨b, o, _, _, e⟩ := h3 i hi
  exact ⟨b, _, e⟩
theorem okC_of {B : Nat} {w : World} {v : Value} {l : List ClsD} (h : RdRow 2 (ElC B) B w v l) : ∀ c ∈ l, ∀ f ∈ c.fields, I64 f.ty := fun c hc f hf => by
  obtain ⟨_, _, _, v, _, r⟩ := rd_mem h hc
  obtain ⟨_, _, _, _, q⟩ := rd_mem r hf
  exact q
end Go.Proofs.YtichmgilglaglaaGreatDoor
/- Find, Field, and the document's Find, Field, Type. Condition: the table, the classes are there. -/
namespace Go.Proofs.YtichmgilglaglaaGreatDoor
open Go.RowKit
set_option linter.unusedVariables false
theorem idxOf_first {s : Nm} : ∀ (l : List Nm) (k : Nat) (hk : k < l.length), l[k] = s → (∀ j (hj : j < l.length), j < k → l[j] ≠ s) → l.idxOf s = k
  | x :: r, 0, _, h, _ => by
    have h' : x = s := h
    subst h'
    simp
  | x :: r, k + 1, hk, h, hn => by
    have hx : x ≠ s := hn 0 (by simp) (by omega)
    have hr := idxOf_first r k (by simpa using hk) (by simpa using h) (fun j hj hjk => by
      have := hn (j + 1) (by simpa using hj) (by omega)
      simpa using this)
    rw [List.idxOf_cons, beq_eq_false_iff_ne.2 hx, hr]
    rfl
def seekI (l : List Nm) (s : Nm) (e : Int) : Int × Int := if s ∈ l then (((l.idxOf s : Nat) : Int), 0) else (0, e)
theorem seek_hit {l : List Nm} {s : Nm} {e : Int} {k : Nat} (hk : k < l.length) (h : l[k] = s) (hn : ∀ j (hj : j < l.length), j < k → l[j] ≠ s) : seekI l s e = ((k : Int), 0) := by
  unfold seekI
  rw [if_pos (h ▸ List.getElem_mem hk), idxOf_first l k hk h hn]
theorem seek_miss {l : List Nm} {s : Nm} {e : Int} (hn : ∀ j (hj : j < l.length), l[j] ≠ s) : seekI l s e = (0, e) := by
  unfold seekI
  rw [if_neg]
  intro hm
  obtain ⟨j, hj, h⟩ := List.getElem_of_mem hm
  exact hn j hj h
theorem cnames_at {l : List ClsD} {i : Nat} (hi : i < l.length) : (cnames l)[i]'(by unfold cnames; rw [List.length_map]; exact hi) = nmB l[i].name := by simp [cnames]
theorem fnames_at {l : List FldD} {i : Nat} (hi : i < l.length) : (fnames l)[i]'(by unfold fnames; rw [List.length_map]; exact hi) = nmB l[i].name := by simp [fnames]
def fieldI (cl : List ClsD) (c : Int) (s : Nm) : Int × Int := if atB cl.length c then (match cl[c.toNat]? with | some d => seekI (fnames d.fields) s 22 | none => (0, 21)) else (0, 21)
theorem fieldI_at {cl : List ClsD} {c : Nat} (hc : c < cl.length) (s : Nm) : fieldI cl c s = seekI (fnames cl[c].fields) s 22 := by
  unfold fieldI
  rw [if_pos (by unfold atB; simp; omega)]
  simp [hc]
theorem fieldI_no {cl : List ClsD} {c : Int} (hc : atB cl.length c = false) (s : Nm) : fieldI cl c s = (0, 21) := by
  unfold fieldI
  rw [if_neg (by rw [hc]; decide)]
end Go.Proofs.YtichmgilglaglaaGreatDoor
/- The document's Find, Field, Type. Condition: the classes are there. -/
namespace Go.Proofs.YtichmgilglaglaaGreatDoor
open Go.RowKit
set_option linter.unusedVariables false
theorem atB_neg {n : Nat} {i : Int} (h : atB n i = false) (h0 : ¬ i < 0) : (n : Int) ≤ i := by
  unfold atB at h
  simp at h
  exact h (by omega)
end Go.Proofs.YtichmgilglaglaaGreatDoor
/- The reference's headers: what may be one, what fits, which words are references. Condition: the classes are there. -/
namespace Go.Proofs.YtichmgilglaglaaGreatDoor
open Go.RowKit
set_option linter.unusedVariables false
theorem validI_eq1 (c l : Int) : validI c 1 l = decide (0 ≤ c ∧ c ≤ 15 ∧ 0 ≤ l ∧ l ≤ 15) := by
  unfold validI
  rw [if_pos rfl, ← Bool.decide_and, ← Bool.decide_and, ← Bool.decide_and]
  exact decide_eq_decide.2 (by omega)
theorem validI_eq23 (c k l : Int) (hk : k = 2 ∨ k = 3) : validI c k l = decide (c = 0 ∧ 0 ≤ l ∧ l ≤ 255) := by
  unfold validI
  rw [if_neg (by omega), if_pos hk, ← Bool.decide_and, ← Bool.decide_and]

set_option maxHeartbeats 1000000 in
theorem isHead_anyRmap (c k l : Int) (w : World) :
    Calls Tryz.prog 14 #[.agg #[.int .i64 c, .int .i64 k, .int .i64 l]] w fun e w' => e = .returned (.bool (validI c k l)) ∧ Below w.heap.size w w' := by
  by_cases k1 : k = 1
  · subst k1
    by_cases h1 : 0 ≤ c
    · by_cases h2 : c ≤ 15
      · by_cases h3 : 0 ≤ l
        · have hb : validI c 1 l = decide (l ≤ 15) := by rw [validI_eq1]; exact decide_eq_decide.2 (by omega)
          rw [hb]; clear hb
          go_enter Tryz.func14, Tryz.ntmps14
          go_wp2
          go_ret
          exact ⟨rfl, (Below.refl _ _).alloc (Nat.le_refl _) _⟩
        · have hb : validI c 1 l = false := by rw [validI_eq1]; exact decide_eq_false (by omega)
          rw [hb]; clear hb
          go_enter Tryz.func14, Tryz.ntmps14
          go_wp2
          go_ret
          exact ⟨rfl, (Below.refl _ _).alloc (Nat.le_refl _) _⟩
      · have hb : validI c 1 l = false := by rw [validI_eq1]; exact decide_eq_false (by omega)
        rw [hb]; clear hb
        go_enter Tryz.func14, Tryz.ntmps14
        go_wp2
        go_ret
        exact ⟨rfl, (Below.refl _ _).alloc (Nat.le_refl _) _⟩
    · have hb : validI c 1 l = false := by rw [validI_eq1]; exact decide_eq_false (by omega)
      rw [hb]; clear hb
      go_enter Tryz.func14, Tryz.ntmps14
      go_wp2
      go_ret
      exact ⟨rfl, (Below.refl _ _).alloc (Nat.le_refl _) _⟩
  · by_cases hk : k = 2 ∨ k = 3
    · by_cases h1 : c = 0
      · subst h1
        by_cases h3 : 0 ≤ l
        · have hb : validI 0 k l = decide (l ≤ 255) := by rw [validI_eq23 _ _ _ hk]; exact decide_eq_decide.2 (by omega)
          rw [hb]; clear hb
          rcases hk with rfl | rfl
          all_goals
            go_enter Tryz.func14, Tryz.ntmps14
            go_wp2
            go_ret
            exact ⟨rfl, (Below.refl _ _).alloc (Nat.le_refl _) _⟩
        · have hb : validI 0 k l = false := by rw [validI_eq23 _ _ _ hk]; exact decide_eq_false (by omega)
          rw [hb]; clear hb
          rcases hk with rfl | rfl
          all_goals
            go_enter Tryz.func14, Tryz.ntmps14
            go_wp2
            go_ret
            exact ⟨rfl, (Below.refl _ _).alloc (Nat.le_refl _) _⟩
      · have hb : validI c k l = false := by rw [validI_eq23 _ _ _ hk]; exact decide_eq_false (by omega)
        rw [hb]; clear hb
        have hc : (c == 0) = false := beq_eq_false_iff_ne.2 h1
        clear h1
        rcases hk with rfl | rfl
        all_goals
          go_enter Tryz.func14, Tryz.ntmps14
          go_wp2
          go_ret
          exact ⟨rfl, (Below.refl _ _).alloc (Nat.le_refl _) _⟩
    · rw [show validI c k l = false by unfold validI; rw [if_neg k1, if_neg hk]]
      have e1 : (k == 1) = false := beq_eq_false_iff_ne.2 k1
      have e2 : (k == 2) = false := beq_eq_false_iff_ne.2 (by omega)
      have e3 : (k == 3) = false := beq_eq_false_iff_ne.2 (by omega)
      clear k1 hk
      go_enter Tryz.func14, Tryz.ntmps14
      go_wp2
      go_ret
      exact ⟨rfl, (Below.refl _ _).alloc (Nat.le_refl _) _⟩


set_option maxRecDepth 100000 in
set_option maxHeartbeats 1000000 in
theorem rfits_any (w : World) (B : Nat) (v : Value) (cl : List ClsD) (c k n : Int) (h : RdRow 2 (ElC B) B w v cl) (hB : B ≤ w.heap.size) (hl : cl.length ≤ 16) (hf : ∀ d ∈ cl, d.fields.length ≤ 15) :
    Calls Tryz.prog 75 #[v, .agg #[.int .i64 c, .int .i64 k, .int .i64 n]] w fun e w' => e = .returned (.bool (fitI cl c k n)) ∧ Below w.heap.size w w' := by
  obtain ⟨a, q, rfl⟩ := rd_shape h
  have hb := (Below.refl w.heap.size w).alloc (Nat.le_refl _) (.cells #[.int .i64 c, .int .i64 k, .int .i64 n] 25)
  have k1 := Blk.new w #[.int .i64 c, .int .i64 k, .int .i64 n] 25
  have HB := Lib.hid hb
  have K1 := Lib.hid k1
  have y0 := k1.val 0 rfl
  have y1 := k1.val 1 rfl
  have y2 := k1.val 2 rfl
  have HR := Lib.hid (fun W (hb : Below w.heap.size w W) => h.keep (hb.mono hB) fun _ _ _ e r => r.keep (hb.mono hB) e)
  have hFV : fitI cl c k n = true → validI c k n = true := fun q => by
    unfold fitI at q
    split at q
    next e =>
      split at q
      next d hd =>
        have hm := List.mem_of_getElem? hd
        have h1 := hf d hm
        have h2 := (List.getElem?_eq_some_iff.1 hd).1
        simp at q
        unfold validI
        rw [if_pos e]
        simp
        omega
      next => cases q
    next e => exact q
  have IH := Lib.hid (isHead_anyRmap c k n (w.alloc (.cells #[.int .i64 c, .int .i64 k, .int .i64 n] 25)))
  clear h hb k1
  cases hv : validI c k n with
  | false =>
    have HX : Hid (fitI cl c k n = false) := by
      cases e : fitI cl c k n with
      | false => rfl
      | true => rw [hFV e] at hv; cases hv
    rw [hv] at IH
    clear hFV
    go_enter Tryz.func75, Tryz.ntmps75
    go_wp2_with fail
    refine IH.out.mono ?_
    rintro e w2 ⟨rfl, hb2⟩
    have HB2 := Lib.hid (HB.out.trans (hb2.mono HB.out.size))
    clear hb2
    go_wp2
    go_ret
    exact ⟨by rw [HX.out]; rfl, HB2.out⟩
  | true =>
    rw [hv] at IH
    by_cases hk : k = 1
    · subst hk
      have hv' := hv
      unfold validI at hv'
      simp at hv'
      obtain ⟨ci, rfl⟩ : ∃ ci : Nat, c = (ci : Int) := ⟨c.toNat, by omega⟩
      by_cases hc : ci < cl.length
      · have hc' : (ci : Int) < (cl.length : Int) := by omega
        have hc2 : decide ((ci : Int) < (cl.length : Int)) = true := by simpa using hc
        have i1 : (0 : Int) ≤ (ci : Int) ∧ (ci : Int) < (cl.length : Int) := ⟨by omega, by omega⟩
        have i2 : 0 < cl.length := by omega
        have HX := Lib.hid (fitI_at hc n)
        have EL := Lib.hid (fun W (hb : Below w.heap.size w W) => rd_at (HR.out W hb) hc)
        clear hFV hv' hv
        go_enter Tryz.func75, Tryz.ntmps75
        go_wp2_with fail
        refine IH.out.mono ?_
        rintro e w2 ⟨rfl, hb2⟩
        have hbb := HB.out.trans (hb2.mono HB.out.size)
        obtain ⟨b, o, rfl, _, e1, vf, e2, e3⟩ := EL.out w2 hbb
        obtain ⟨fa, fc, hvf⟩ := rd_shape e3
        subst hvf
        have HB2 := Lib.hid hbb
        have k1 := K1.out.grew hb2
        clear y0 y1 y2
        have y0 := k1.val 0 rfl
        have y1 := k1.val 1 rfl
        have y2 := k1.val 2 rfl
        generalize cl[ci] = d at *
        clear hb2 hbb k1 e3
        go_wp2_with fail
        go_quiet (fail)
        go_wp2
        go_ret
        exact ⟨by rw [HX.out]; rfl, HB2.out.trans ((Quiet.below ⟨nq, rfl⟩).mono HB2.out.size)⟩
      · have hc2 : decide ((ci : Int) < (cl.length : Int)) = false := by simpa using hc
        have HX : Hid (fitI cl ci 1 n = false) := fitI_no (by unfold atB; simp; omega) n
        clear hFV hv' hv
        go_enter Tryz.func75, Tryz.ntmps75
        go_wp2_with fail
        refine IH.out.mono ?_
        rintro e w2 ⟨rfl, hb2⟩
        have HB2 := Lib.hid (HB.out.trans (hb2.mono HB.out.size))
        have k1 := K1.out.grew hb2
        clear y0 y1 y2
        have y0 := k1.val 0 rfl
        have y1 := k1.val 1 rfl
        have y2 := k1.val 2 rfl
        clear hb2 k1
        go_wp2_with fail
        go_quiet (fail)
        go_wp2
        go_ret
        exact ⟨by rw [HX.out]; rfl, HB2.out.trans ((Quiet.below ⟨nq, rfl⟩).mono HB2.out.size)⟩
    · have hk' : (k != 1) = true := by simpa using hk
      have HX : Hid (fitI cl c k n = true) := by unfold Hid fitI; rw [if_neg hk]; exact hv
      clear hFV hv
      go_enter Tryz.func75, Tryz.ntmps75
      go_wp2_with fail
      refine IH.out.mono ?_
      rintro e w2 ⟨rfl, hb2⟩
      have HB2 := Lib.hid (HB.out.trans (hb2.mono HB.out.size))
      have k1 := K1.out.grew hb2
      clear y0 y1 y2
      have y1 := k1.val 1 rfl
      clear hb2 k1
      go_wp2
      go_ret
      exact ⟨by rw [HX.out]; rfl, HB2.out⟩
theorem isrI_eq {cl : List ClsD} {c k n i : Int} : isrI cl c k n i = (fitI cl c k n && (decide (0 ≤ i) && decide (i < n)) && refI cl c k i) := by
  unfold isrI ptrL ptrs
  cases hf : fitI cl c k n with
  | false => simp
  | true =>
    by_cases h0 : 0 ≤ i
    · obtain ⟨j, rfl⟩ : ∃ j : Nat, i = (j : Int) := ⟨i.toNat, by omega⟩
      by_cases h1 : (j : Int) < n
      · have h2 : j < n.toNat := by omega
        cases hr : refI cl c k (j : Int) with
        | true =>
          simp [h1]
          exact ⟨j, ⟨h1, hr⟩, rfl⟩
        | false =>
          simp [h1]
          intro x _ hx e
          obtain rfl : x = j := by omega
          rw [hr] at hx
          cases hx
      · simp [h1]
        intro q
        omega
    · simp [h0]
      intro x _ _ e
      omega
set_option maxRecDepth 100000 in
set_option maxHeartbeats 8000000 in
theorem risref_any (w : World) (B : Nat) (v : Value) (cl : List ClsD) (c k n i : Int) (h : RdRow 2 (ElC B) B w v cl) (hB : B ≤ w.heap.size) (hl : cl.length ≤ 16) (hf : ∀ d ∈ cl, d.fields.length ≤ 15) :
    Calls Tryz.prog 119 #[v, .agg #[.int .i64 c, .int .i64 k, .int .i64 n], .int .i64 i] w fun e w' => e = .returned (.bool (isrI cl c k n i)) ∧ Below w.heap.size w w' := by
  obtain ⟨a, q, rfl⟩ := rd_shape h
  have hb := (Below.refl w.heap.size w).alloc (Nat.le_refl _) (.cells #[.int .i64 c, .int .i64 k, .int .i64 n] 25)
  have k1 := Blk.new w #[.int .i64 c, .int .i64 k, .int .i64 n] 25
  have HB := Lib.hid hb
  have K1 := Lib.hid k1
  have y0 := k1.val 0 rfl
  have y1 := k1.val 1 rfl
  have y2 := k1.val 2 rfl
  have HR := Lib.hid (fun W (hb : Below w.heap.size w W) => h.keep (hb.mono hB) fun _ _ _ e r => r.keep (hb.mono hB) e)
  have FT := Lib.hid (rfits_any _ B _ cl c k n (HR.out _ hb) (Nat.le_trans hB hb.size) hl hf)
  have HQ := Lib.hid (@isrI_eq cl c k n i)
  clear h hb k1
  cases hft : fitI cl c k n with
  | false =>
    rw [hft] at FT HQ
    go_enter Tryz.func119, Tryz.ntmps119
    go_wp2_with fail
    refine FT.out.mono ?_
    rintro e w2 ⟨rfl, hb2⟩
    have HB2 := Lib.hid (HB.out.trans (hb2.mono HB.out.size))
    clear hb2
    go_wp2
    go_ret
    exact ⟨by rw [HQ.out]; rfl, HB2.out⟩
  | true =>
    rw [hft] at FT HQ
    by_cases h0 : i < 0
    · have HX : Hid (isrI cl c k n i = false) := by rw [Hid, HQ.out]; simp; omega
      go_enter Tryz.func119, Tryz.ntmps119
      go_wp2_with fail
      refine FT.out.mono ?_
      rintro e w2 ⟨rfl, hb2⟩
      have HB2 := Lib.hid (HB.out.trans (hb2.mono HB.out.size))
      clear hb2
      go_wp2
      go_ret
      exact ⟨by rw [HX.out]; rfl, HB2.out⟩
    by_cases h1 : n ≤ i
    · have HX : Hid (isrI cl c k n i = false) := by rw [Hid, HQ.out]; simp; omega
      go_enter Tryz.func119, Tryz.ntmps119
      go_wp2_with fail
      refine FT.out.mono ?_
      rintro e w2 ⟨rfl, hb2⟩
      have HB2 := Lib.hid (HB.out.trans (hb2.mono HB.out.size))
      have k1 := K1.out.grew hb2
      clear y0 y1 y2
      have y2 := k1.val 2 rfl
      clear hb2 k1
      go_wp2
      go_ret
      exact ⟨by rw [HX.out]; rfl, HB2.out⟩
    obtain ⟨j, rfl⟩ : ∃ j : Nat, i = (j : Int) := ⟨i.toNat, by omega⟩
    have HX : Hid (isrI cl c k n j = refI cl c k j) := by
      rw [Hid, HQ.out, show decide ((0 : Int) ≤ (j : Int)) = true by simp, show decide ((j : Int) < n) = true by simp; omega]
      rfl
    by_cases hk : k = 1
    · subst hk
      have hk' : ((1 : Int) == 1) = true := rfl
      unfold fitI at hft
      rw [if_pos rfl] at hft
      split at hft
      next d hd =>
        simp at hft
        obtain ⟨ci, rfl⟩ : ∃ ci : Nat, c = (ci : Int) := ⟨c.toNat, by omega⟩
        have hc : ci < cl.length := (List.getElem?_eq_some_iff.1 hd).1
        have hdd : cl[ci] = d := (List.getElem?_eq_some_iff.1 hd).2
        subst hdd
        have hj : j < cl[ci].fields.length := by omega
        have HY : Hid (refI cl ci 1 j = (cl[ci].fields[j].ty == 2)) := by
          unfold Hid refI
          rw [if_pos rfl, typeI_in hc hj]
          simp
          rfl
        have i1 : (0 : Int) ≤ (ci : Int) ∧ (ci : Int) < (cl.length : Int) := ⟨by omega, by omega⟩
        have i2 : 0 < cl.length := by omega
        have EL := Lib.hid (fun W (hb : Below w.heap.size w W) => rd_at (HR.out W hb) hc)
        have j1 : (0 : Int) ≤ (j : Int) ∧ (j : Int) < (cl[ci].fields.length : Int) := ⟨by omega, by omega⟩
        have j2 : 0 < cl[ci].fields.length := by omega
        have HJ := Lib.hid hj
        obtain ⟨z, HYz, HZ⟩ : ∃ z : FldD, Hid (refI cl ci 1 j = (z.ty == 2)) ∧ Hid (∀ h : j < cl[ci].fields.length, cl[ci].fields[j]'h = z) := ⟨_, HY, fun _ => rfl⟩
        clear HY
        have HY := HYz
        clear HYz
        clear hd HR
        generalize cl[ci] = d at *
        clear hft hf hl hc hj
        go_enter Tryz.func119, Tryz.ntmps119
        go_wp2_with fail
        refine FT.out.mono ?_
        rintro e w2 ⟨rfl, hb2⟩
        have hbb := HB.out.trans (hb2.mono HB.out.size)
        obtain ⟨b, o, rfl, _, e1, vf, e2, e3⟩ := EL.out w2 hbb
        obtain ⟨fa, fc, hvf⟩ := rd_shape e3
        subst hvf
        obtain ⟨b2, o2, rfl, _, q0, q1, q9⟩ := rd_at e3 HJ.out
        have HB2 := Lib.hid hbb
        have k1 := K1.out.grew hb2
        clear y0 y1 y2
        have y0 := k1.val 0 rfl
        have y1 := k1.val 1 rfl
        have y2 := k1.val 2 rfl
        clear hb2 hbb k1 e3
        rw [HZ.out] at q0 q1
        clear q9
        clear HZ HJ EL
        generalize d.fields.length = m1 at *
        go_wp2
        go_ret
        exact ⟨by rw [HX.out, HY.out]; rfl, HB2.out⟩
      next => cases hft
    · have hk' : (k == 1) = false := by simpa using hk
      have HY : Hid (refI cl c k j = (k == 3)) := by
        unfold Hid refI
        rw [if_neg hk]
        rfl
      go_enter Tryz.func119, Tryz.ntmps119
      go_wp2_with fail
      refine FT.out.mono ?_
      rintro e w2 ⟨rfl, hb2⟩
      have HB2 := Lib.hid (HB.out.trans (hb2.mono HB.out.size))
      have k1 := K1.out.grew hb2
      clear y0 y1 y2
      have y1 := k1.val 1 rfl
      have y2 := k1.val 2 rfl
      clear hb2 k1
      go_wp2
      go_ret
      exact ⟨by rw [HX.out, HY.out]; rfl, HB2.out⟩
end Go.Proofs.YtichmgilglaglaaGreatDoor
/- The reference's Pointers. Condition: the classes are there. -/
namespace Go.Proofs.YtichmgilglaglaaGreatDoor
open Go.RowKit
set_option linter.unusedVariables false
theorem fit_valid {cl : List ClsD} {c k n : Int} (hl : cl.length ≤ 16) (hf : ∀ d ∈ cl, d.fields.length ≤ 15) (q : fitI cl c k n = true) : validI c k n = true := by
  unfold fitI at q
  split at q
  next e =>
    split at q
    next d hd =>
      have hm := List.mem_of_getElem? hd
      have h1 := hf d hm
      have h2 := (List.getElem?_eq_some_iff.1 hd).1
      simp at q
      unfold validI
      rw [if_pos e]
      simp
      omega
    next => cases q
  next e => exact q
def natC (l : List Nat) : List Value := l.map fun j : Nat => Value.int .i64 (j : Int)
theorem info_intR : (Tryz.prog.info? 3).map (fun i => (i.zero, i.size, i.bytes)) = some (some (.int .i64 0), 1, 8) := by kernel_rfl
theorem ptrs_len (cl : List ClsD) (c k : Int) (m : Nat) : (ptrs cl c k m).length ≤ m := by
  unfold ptrs
  have := List.length_filter_le (fun i : Nat => refI cl c k (i : Nat)) (List.range m)
  simpa using this
set_option maxRecDepth 100000 in
set_option maxHeartbeats 4000000 in
theorem rpointers_any (w : World) (B : Nat) (v : Value) (cl : List ClsD) (c k n : Int) (h : RdRow 2 (ElC B) B w v cl) (hB : B ≤ w.heap.size) (hl : cl.length ≤ 16) (hf : ∀ d ∈ cl, d.fields.length ≤ 15) :
    Calls Tryz.prog 85 #[v, .agg #[.int .i64 c, .int .i64 k, .int .i64 n]] w fun e w' => ∃ u, e = .returned u ∧ w'.ownsRow w.heap.size 3 1 u (ptrL cl c k n).length (natC (ptrL cl c k n)) ∧ Below w.heap.size w w' := by
  obtain ⟨a, q, rfl⟩ := rd_shape h
  have hb := (Below.refl w.heap.size w).alloc (Nat.le_refl _) (.cells #[.int .i64 c, .int .i64 k, .int .i64 n] 25)
  have k1 := Blk.new w #[.int .i64 c, .int .i64 k, .int .i64 n] 25
  have HB := Lib.hid hb
  have K1 := Lib.hid k1
  have y0 := k1.val 0 rfl
  have y1 := k1.val 1 rfl
  have y2 := k1.val 2 rfl
  have HR := Lib.hid (fun W (hb : Below w.heap.size w W) => h.keep (hb.mono hB) fun _ _ _ e r => r.keep (hb.mono hB) e)
  have FT := Lib.hid (rfits_any _ B _ cl c k n (HR.out _ hb) (Nat.le_trans hB hb.size) hl hf)
  have FV := Lib.hid (@fit_valid cl c k n hl hf)
  have HS := Lib.hid hB
  have HLF := Lib.hid (And.intro hl hf)
  clear h hb k1 hl hf hB
  cases hft : fitI cl c k n with
  | false =>
    have HP : Hid (ptrL cl c k n = []) := by unfold Hid ptrL; rw [hft]; rfl
    rw [hft] at FT
    clear hft
    go_enter Tryz.func85, Tryz.ntmps85
    go_wp2_with fail
    refine FT.out.mono ?_
    rintro e w2 ⟨rfl, hb2⟩
    have HB2 := Lib.hid (HB.out.trans (hb2.mono HB.out.size))
    clear hb2
    go_wp2
    go_ret
    exact ⟨_, rfl, by rw [HP.out]; exact World.ownsRow_nil _ _ _ _, HB2.out⟩
  | true =>
    have hv := valid_len (FV.out hft)
    obtain ⟨N, rfl⟩ : ∃ N : Nat, n = (N : Int) := ⟨n.toNat, by omega⟩
    have HP : Hid (ptrL cl c k N = ptrs cl c k N) := by unfold Hid ptrL; rw [hft]; simp
    have HI : Hid (∀ i : Nat, i < N → isrI cl c k N i = refI cl c k i) := fun i hi => by
      rw [isrI_eq, hft, show decide ((0 : Int) ≤ (i : Int)) = true by simp, show decide ((i : Int) < (N : Int)) = true by simp; omega]
      rfl
    have hN : N ≤ 255 := by omega
    rw [hft] at FT
    obtain ⟨i0, Z⟩ := info_parts info_intR
    have Z := Lib.hid Z
    clear hft hv FV
    go_enter Tryz.func85, Tryz.ntmps85
    go_wp2_with fail
    refine FT.out.mono ?_
    rintro e w2 ⟨rfl, hb2⟩
    have k2 := K1.out.grew hb2
    have hb := HB.out.trans (hb2.mono HB.out.size)
    clear hb2 y0 y1 y2 HB FT K1
    go_wp2
    go_loopw [5, 6] (fun x y wr => ∃ (i : Nat) (u : Value), i ≤ N ∧ y = .int .i64 i ∧ u = x ∧ wr.ownsRow (w.heap.size + 1) 3 1 u (ptrs cl c k i).length (natC (ptrs cl c k i)) ∧ Blk wr w.heap.size #[.int .i64 c, .int .i64 k, .int .i64 N] 25 ∧ Below w.heap.size w wr) (fun _ y _ => N - (intOf y).toNat)
    case atStart => exact ⟨0, _, Nat.zero_le _, rfl, rfl, World.ownsRow_nil _ _ _ _, k2, hb⟩
    case round =>
      clear k2 hb
      obtain ⟨i, u, hi, rfl, rfl, ho, k2, hb⟩ := hrel
      have y0 := k2.val 0 rfl
      have y1 := k2.val 1 rfl
      have y2 := k2.val 2 rfl
      by_cases hlt : i < N
      · have hlt' : (i : Int) < (N : Int) := by omega
        have IR := risref_any wr B _ cl c k N i (HR.out _ hb) (Nat.le_trans HS.out hb.size) HLF.out.1 HLF.out.2
        rw [HI.out i hlt] at IR
        have IR := Lib.hid IR
        have HO := Lib.hid ho
        have HK := Lib.hid k2
        have HBW := Lib.hid hb
        clear ho k2 hb
        go_wp2_with fail
        refine IR.out.mono ?_
        rintro e w4 ⟨rfl, hb4⟩
        have ho := own_grewG HO.out hb4
        have k2 := HK.out.grew hb4
        have hb := HBW.out.trans (hb4.mono HBW.out.size)
        clear IR HO HK HBW hb4 y0 y1 y2
        cases hr : refI cl c k (i : Nat) with
        | false =>
          have HPN := Lib.hid (ptrs_no hr)
          have HE := Lib.hid (And.intro ho (And.intro k2 hb))
          clear ho k2 hb hr
          go_wp2
          go_roundw
          case rel => exact ⟨i + 1, _, by omega, by go_num, rfl, by rw [HPN.out]; exact HE.out.1, HE.out.2.1, HE.out.2.2⟩
          case measure => simp [intOf]; omega
        | true =>
          have HPN := Lib.hid (ptrs_yes hr)
          have hpl := ptrs_len cl c k i
          have hb5 := (Below.refl w4.heap.size w4).alloc (Nat.le_refl _) (.cells #[.int .i64 (i : Int)] 3)
          have kS := Blk.new w4 #[.int .i64 (i : Int)] 3
          have HO := Lib.hid (own_grewG ho hb5)
          have HE := Lib.hid (And.intro (k2.grew hb5) (hb.trans (hb5.mono hb.size)))
          have HKS := Lib.hid kS
          have HLT := Lib.hid hpl
          have HSZ := Lib.hid (Nat.le_trans (Nat.succ_le_of_lt k2.lt) hb5.size)
          clear ho k2 hb hr hb5 kS hpl
          go_wp2_with (at_builtin; refine wpList_append_own_at _ rfl _ _ 168 rfl (w.heap.size + 1) 3 i0 _ 1 8 Tryz.underlying168 Z.out.1 Z.out.2.1 Z.out.2.2.1 Z.out.2.2.2 rfl (by decide) u (ptrs cl c k i).length (natC (ptrs cl c k i)) rfl HO.out ⟨w4.heap.size, 0, none⟩ 1 1 [.int .i64 (i : Int)] rfl rfl (World.news_of_block HKS.out) (by simp [Value.oneCell']) (by have := HLT.out; unfold maxLen; omega) (by have := HLT.out; omega) HSZ.out ?_)
          intro u' w6 hown hgrow _ _
          have k2 := HE.out.1.of (hgrow.block _ HE.out.1.lt (fun e => by have := (own_ltG HO.out e.symm).1; omega))
          have hb := HE.out.2.grown hgrow HE.out.2.size (fun q hq => by have := (own_ltG HO.out hq).1; omega)
          have HF := Lib.hid (And.intro hown (And.intro k2 hb))
          clear hown hgrow k2 hb HE HO
          go_wp2
          go_roundw
          case rel => exact ⟨i + 1, _, by omega, by go_num, rfl, by rw [HPN.out]; unfold natC; rw [List.map_append, List.length_append]; exact HF.out.1, HF.out.2.1, HF.out.2.2⟩
          case measure => simp [intOf]; omega
      · have hlt' : ¬ (i : Int) < (N : Int) := by omega
        have hiN : i = N := by omega
        have HE := Lib.hid (And.intro ho hb)
        clear ho k2 hb
        go_wp2
        go_ret
        exact ⟨_, rfl, by rw [HP.out, ← hiN]; exact own_sub HE.out.1 (by omega), HE.out.2⟩
end Go.Proofs.YtichmgilglaglaaGreatDoor
/- What Ints of the document returns at two slices of the same words. No condition. -/
namespace Go.Proofs.YtichmgilglaglaaGreatDoor
open Go.RowKit
end Go.Proofs.YtichmgilglaglaaGreatDoor
/- Boxes and rows of numbers, for the walk of ClassesMaps (out of WordBits' walk). No condition. -/
namespace Go.Proofs.YtichmgilglaglaaGreatDoor
open Go.RowKit Go.Shelf
set_option linter.unusedVariables false
attribute [local go_sem] Oper.semAt_some
theorem ownsRow_lowMapl {W : World} {base base' : Nat} {e : TypeId} {size : Nat} {v : Value} {k : Nat} {xs : List Value} (h : W.ownsRow base e size v k xs) (hb : base' ≤ base) : W.ownsRow base' e size v k xs := by
  refine ⟨h.1, ?_⟩
  rcases h.2 with h1 | ⟨g, cap, cur, h1, h2, h3⟩
  · exact .inl h1
  · exact .inr ⟨g, cap, cur, h1, Nat.le_trans hb h2, h3⟩
/-- an element more, the slice in its box -/
theorem appended_touch {W w1 : World} {base B : Nat} {t e : TypeId} {v v' : Value} {k m : Nat} {xs ys : List Value} {tmp : Obj} (hv : Boxed W B t v) (hte : t ≠ e) (hrow : W.ownsRow base e 1 v k xs) (hown' : w1.ownsRow base e 1 v' m ys) (hgrow : (W.alloc tmp).grownBy w1 v.ownBlock) :
    Boxed w1 B t v ∧ Boxed (w1.setCell ⟨B, 0, none⟩ v') B t v' ∧ (w1.setCell ⟨B, 0, none⟩ v').ownsRow base e 1 v' m ys ∧ KeepsOthers W (w1.setCell ⟨B, 0, none⟩ v') ∧
    (∀ W0, Touch (· = B) W0 W → W0.heap.size ≤ base → Touch (· = B) W0 (w1.setCell ⟨B, 0, none⟩ v')) ∧
    (∀ n, n ≤ base → n ≤ W.heap.size → n ≤ B → Below n W (w1.setCell ⟨B, 0, none⟩ v')) := by
  obtain ⟨h1, h2, h3, h4, h5⟩ := hv.appended hte (ownsRow_lowMapl hrow (Nat.zero_le _)) (Nat.zero_le _) (Nat.zero_le _) (ownsRow_lowMapl hown' (Nat.zero_le _)) hgrow
  refine ⟨h1, h2, hown'.kept (grownBy_setCell' w1 B v') (.inr (h1.not_row hte hown').symm), h4, fun W0 ht hb => ?_, fun n h1 h2 h3 => (hv.appended hte (ownsRow_lowMapl hrow h1) h2 h3 (ownsRow_lowMapl hown' h1) hgrow).2.2.2.2⟩
  have ht2 := (ht.alloc tmp).grown hgrow (fun k hk => .inr (Nat.le_trans hb (hrow.lt k hk).1))
  exact ht2.setCell rfl _
theorem ownsRow_form {W : World} {base : Nat} {e : TypeId} {v : Value} {k : Nat} {xs : List Value} (h : W.ownsRow base e 1 v k xs) : ∃ a c, v = .slice a k c := by
  rcases h.2 with ⟨h1, h2⟩ | ⟨g, cap, cur, h1, _⟩
  · exact ⟨none, 0, by rw [h1, h2]⟩
  · exact ⟨_, cap, h1⟩
theorem Touch.at_below {B n : Nat} {w w' : World} (h : Touch (· = B) w w') (hn : n ≤ w.heap.size) (hB : n ≤ B) : Below n w w' := h.below hn (fun k hk => by omega)
theorem Boxed.touched {B b : Nat} {w w' : World} {t : TypeId} {v : Value} (h : Boxed w b t v) (ht : Touch (· = B) w w') (hne : b ≠ B) : Boxed w' b t v := (ht.block b h.lt hne).trans h
/-- a row of numbers isn't the box of a value that is no number -/
theorem Lst.touched {k : IntKind} {w w' : World} {v u : Value} {zs : List Int} {B : Nat} {t : TypeId} (h : Lst k w v zs) (hb : Boxed w B t u) (ht : Touch (· = B) w w') (hu : ∀ i, u ≠ .int k i := by intro i e; cases e) : Lst k w' v zs := by
  rcases h with h | ⟨b, off, cap, h1, h2, h3, h4⟩
  · exact .inl h
  · refine .inr ⟨b, off, cap, h1, h2, h3, fun i hi => ?_⟩
    have hc := h4 i hi
    have hlt := World.block_lt_of_cell? w _ hc
    have hne : b ≠ B := by
      intro e
      subst e
      rw [Blk.cell (cs := #[u]) (t := t) hb] at hc
      rcases Nat.eq_zero_or_pos (off + i) with h0 | h0
      · rw [h0] at hc
        simp at hc
        exact hu _ hc
      · rw [Array.getElem?_eq_none (by simp; omega)] at hc
        cases hc
    have he := ht.block b hlt hne
    unfold World.cell? at hc ⊢
    rw [he]
    exact hc
theorem own_subL {w : World} {base : Nat} {e : TypeId} {v : Value} {n : Nat} {zs q : List Int} (h : w.ownsRow base e 1 v n (zs.map (Value.int .i64))) (hn : zs.length = n) (hq : q <+: zs) : ∃ a c, v = .slice a n c ∧ n ≤ c ∧ Lst .i64 w (.slice a q.length c) q := by
  have hle := hq.length_le
  rcases h.2 with ⟨h1, h2⟩ | ⟨g, cap, cur, h1, h2, h3, h4, h5, h6⟩
  · have hq0 : q = [] := List.eq_nil_of_length_eq_zero (by omega)
    exact ⟨none, 0, by rw [h1, h2], by omega, .inl ⟨hq0, none, 0, by rw [hq0]; rfl⟩⟩
  · refine ⟨_, cap, h1, by omega, ?_⟩
    rcases Nat.eq_zero_or_pos q.length with h0 | h0
    · exact .inl ⟨List.eq_nil_of_length_eq_zero h0, _, cap, by rw [h0]⟩
    · refine .inr ⟨g, 0, cap, rfl, h0, by omega, fun i hi => ?_⟩
      subst h1
      have hc := h.cellAt i (by omega)
      obtain ⟨r, rfl⟩ := hq
      rw [Nat.zero_add, hc]
      simp [List.getD_eq_getElem?_getD, List.getElem?_append_left, hi]
theorem cell_set_ne {W : World} {B : Nat} {v : Value} {p : Addr} (h : p.block ≠ B) : (W.setCell ⟨B, 0, none⟩ v).cell? p = W.cell? p := by
  unfold World.cell?
  rw [Below.heap_setCell _ _ _ _ h]
section
variable {B : Nat} {w3 W W' : World} {p r : Addr} {x y : Value} {t : TypeId}
theorem bkeep (h : (W.cell? p = some x ∧ W.cell? r = some y) ∧ Touch (· = B) w3 W ∧ ∃ u, Boxed W B t (.bool u)) (hq : Quiet W W') : (W'.cell? p = some x ∧ W'.cell? r = some y) ∧ Touch (· = B) w3 W' ∧ ∃ u, Boxed W' B t (.bool u) :=
  ⟨⟨(hq.cell _).trans h.1.1, (hq.cell _).trans h.1.2⟩, h.2.1.trans (.of hq.below), h.2.2.elim fun u hu => ⟨u, Blk.quiet hu hq⟩⟩
theorem bset (h : (W.cell? p = some x ∧ W.cell? r = some y) ∧ Touch (· = B) w3 W ∧ ∃ u, Boxed W B t (.bool u)) {u : Bool} (hp : p.block ≠ B) (hr : r.block ≠ B) : ((W.setCell ⟨B, 0, none⟩ (.bool u)).cell? p = some x ∧ (W.setCell ⟨B, 0, none⟩ (.bool u)).cell? r = some y) ∧ Touch (· = B) w3 (W.setCell ⟨B, 0, none⟩ (.bool u)) ∧ ∃ u', Boxed (W.setCell ⟨B, 0, none⟩ (.bool u)) B t (.bool u') :=
  ⟨⟨(cell_set_ne hp).trans h.1.1, (cell_set_ne hr).trans h.1.2⟩, h.2.1.setCell rfl _, h.2.2.elim fun _ hu => ⟨u, hu.set _⟩⟩
theorem blst {v : Value} {zs : List Int} {b0 : Bool} (h : (W.cell? p = some x ∧ W.cell? r = some y) ∧ Touch (· = B) w3 W ∧ ∃ u, Boxed W B t (.bool u)) (hl : Lst .i64 w3 v zs) (hb : Boxed w3 B t (.bool b0)) : Lst .i64 W v zs := hl.touched hb h.2.1
end
theorem ownFrom_touchMapl {β : Type} {R : Nat → Prop} {B : Nat} {W0 : World} (hB : W0.heap.size ≤ B) : OwnFrom B (fun (_ : β) W => Touch R W0 W) :=
  fun s W W' row h hg hr => h.grown hg (fun k hk => .inr (Nat.le_trans hB (hr k hk).1))

end Go.Proofs.YtichmgilglaglaaGreatDoor
