/- Texts of this seat, one behind the other: each says at its head what it holds. No condition of its own. -/
import Derived.RangeFuncNested
import Derived.RangeFuncBound
import Derived.RangeFuncCalls
import Derived.RangeFuncLeaves
import Derived.RangeFuncFrom
import Derived.Shelf.Abstract
import Derived.Shelf.RegionOpen
import Derived.WalkKit
import Derived.OwnWalkIn
import Derived.TacticsInMore
import Derived.LoopNIn
import Derived.LoopIn
import Derived.Deep.QuietTactic
import Derived.BigQuiet
import Derived.Lib.Strings
import Derived.Laws.StructEq
import Derived.Deep.AppendLies
import Derived.BigGuard
import Derived.Test.YtohmnjejchppkaaDoorGObjectsBack20
import Derived.Test.YtohmnjejchppkaaDoorGObjectsBack21
/- Pointers: the iterator of the words that are references; IsRef. Condition: the table is there. -/
namespace Go.Proofs.YtohmnjejchppkaaDoor
open Go.RowKit Go.Shelf
set_option linter.unusedVariables false
attribute [local go_sem] Oper.semAt_some
/-- the words below m that are references -/
def ptrs (cl : List ClsD) (c k : Int) (m : Nat) : List Nat := (List.range m).filter fun i => refI cl c k (i : Nat)
def ptrL (cl : List ClsD) (c k n : Int) : List Nat := if fitI cl c k n then ptrs cl c k n.toNat else []
theorem ptrs_yes {cl : List ClsD} {c k : Int} {m : Nat} (h : refI cl c k (m : Nat) = true) : ptrs cl c k (m + 1) = ptrs cl c k m ++ [m] := by
  unfold ptrs
  rw [List.range_succ, List.filter_append]
  simp [h]
theorem ptrs_no {cl : List ClsD} {c k : Int} {m : Nat} (h : refI cl c k (m : Nat) = false) : ptrs cl c k (m + 1) = ptrs cl c k m := by
  unfold ptrs
  rw [List.range_succ, List.filter_append]
  simp [h]
theorem ptrs_pre (cl : List ClsD) (c k : Int) {m n : Nat} (h : m ≤ n) : ptrs cl c k m <+: ptrs cl c k n := by
  induction n with
  | zero => obtain rfl : m = 0 := by omega
            exact List.prefix_rfl
  | succ n ih =>
    rcases Nat.lt_or_ge m (n + 1) with q | q
    · refine (ih (by omega)).trans ?_
      cases e : refI cl c k (n : Nat) with
      | true => rw [ptrs_yes e]; exact List.prefix_append _ _
      | false => rw [ptrs_no e]; exact List.prefix_rfl
    · obtain rfl : m = n + 1 := by omega
      exact List.prefix_rfl
theorem fit_len {cl : List ClsD} {c k n : Int} (h : fitI cl c k n = true) : 0 ≤ n := by
  unfold fitI at h
  split at h
  · split at h
    · simp at h; omega
    · cases h
  · exact (valid_len h).1
theorem fit_le {w : World} {lo t m : Nat} {v : Value} {L : List (ClsD × Value × Nat)} {c k n : Int} (hT : TabS w lo t v m L) (h : fitI (L.map (·.1)) c k n = true) : n ≤ 9223372036854775807 := by
  unfold fitI at h
  split at h
  · split at h
    · rename_i d hd
      have hm := List.mem_of_getElem? hd
      obtain ⟨x, hx, rfl⟩ := List.mem_map.1 hm
      have ho := (hT.rows.inner x hx).1
      simp at h
      rcases Nat.eq_zero_or_pos x.1.fields.length with e | e
      · omega
      · obtain ⟨_, _, _, _, _, h1, h2, _⟩ := own_cellG ho e
        unfold maxLen at h2
        omega
    · cases h
  · have := valid_len h; omega
theorem grown_below {w w' : World} (h : Below w.heap.size w w') : w.grownBy w' none := ⟨h.os, h.tape, h.output, h.size, fun k hk _ => h.block k hk⟩
abbrev ptrEnc (i : Nat) : Array Value := #[.int .i64 (i : Nat)]
end Go.Proofs.YtohmnjejchppkaaDoor
/- IsRef; the law's own example. Condition: the table is there. -/
namespace Go.Proofs.YtohmnjejchppkaaDoor
open Go.RowKit Go.Shelf
set_option linter.unusedVariables false
attribute [local go_sem] Oper.semAt_some
def isrI (cl : List ClsD) (c k n i : Int) : Bool := decide (∃ j ∈ ptrL cl c k n, ((j : Nat) : Int) = i)
theorem isr_hit {cl : List ClsD} {c k n i : Int} {pre : List Nat} {x : Nat} (h : (pre ++ [x]) <+: ptrL cl c k n) (hx : ((x : Nat) : Int) = i) : isrI cl c k n i = true := by
  unfold isrI
  simp only [decide_eq_true_eq]
  exact ⟨x, h.subset (by simp), hx⟩
theorem isr_miss {cl : List ClsD} {c k n i : Int} (h : ∀ x ∈ ptrL cl c k n, ((x : Nat) : Int) ≠ i) : isrI cl c k n i = false := by
  unfold isrI
  simp only [decide_eq_false_iff_not]
  rintro ⟨j, hj, e⟩
  exact h j hj e
end Go.Proofs.YtohmnjejchppkaaDoor
/- The law's own example: a class's references are told. No condition. -/
namespace Go.Proofs.YtohmnjejchppkaaDoor
open Go.RowKit
set_option linter.unusedVariables false
def fld0 : FldD := ⟨⟨#[110, 101, 120, 116]⟩, 2⟩
def fld1 : FldD := ⟨⟨#[110]⟩, 1⟩
def cls0 : ClsD := ⟨⟨#[110, 111, 100, 101]⟩, [fld0, fld1]⟩
theorem tab0 : tabE [cls0] = (0, 0) := by decide +kernel
theorem isr0 : isrI [cls0] 0 1 2 0 = true := by decide +kernel
theorem isr1 : isrI [cls0] 0 1 2 1 = false := by decide +kernel
theorem isr2 : isrI [cls0] 0 3 3 2 = true := by decide +kernel
theorem cls0_rd (w : World) : RdRow 2 (ElC (w.heap.size + 2)) (w.heap.size + 2) ((w.alloc (.cells #[.string ⟨#[110, 101, 120, 116]⟩, .int .i64 2, .string ⟨#[110]⟩, .int .i64 1] 128)).alloc (.cells #[.string ⟨#[110, 111, 100, 101]⟩, .slice (some ⟨w.heap.size, 0, none⟩) 2 2] 104)) (.slice (some ⟨w.heap.size + 1, 0, none⟩) 1 1) [cls0] := by
  have k1 : Blk ((w.alloc (.cells #[.string ⟨#[110, 101, 120, 116]⟩, .int .i64 2, .string ⟨#[110]⟩, .int .i64 1] 128)).alloc (.cells #[.string ⟨#[110, 111, 100, 101]⟩, .slice (some ⟨w.heap.size, 0, none⟩) 2 2] 104)) w.heap.size #[.string ⟨#[110, 101, 120, 116]⟩, .int .i64 2, .string ⟨#[110]⟩, .int .i64 1] 128 := (Blk.new _ _ _).alloc _
  have k2 : Blk ((w.alloc (.cells #[.string ⟨#[110, 101, 120, 116]⟩, .int .i64 2, .string ⟨#[110]⟩, .int .i64 1] 128)).alloc (.cells #[.string ⟨#[110, 111, 100, 101]⟩, .slice (some ⟨w.heap.size, 0, none⟩) 2 2] 104)) (w.heap.size + 1) #[.string ⟨#[110, 111, 100, 101]⟩, .slice (some ⟨w.heap.size, 0, none⟩) 2 2] 104 := Blk.new' (by simp)
  refine ⟨some ⟨w.heap.size + 1, 0, none⟩, 1, rfl, by unfold maxLen; simp, fun i hi => ⟨w.heap.size + 1, 0, rfl, by omega, ?_⟩⟩
  obtain rfl : i = 0 := by simpa using hi
  refine ⟨k2.val 0 rfl, _, k2.val 1 rfl, some ⟨w.heap.size, 0, none⟩, 2, rfl, by unfold maxLen; simp [cls0], fun j hj => ⟨w.heap.size, 0, rfl, by omega, ?_⟩⟩
  match j, hj with
  | 0, _ => exact ⟨k1.val 0 rfl, k1.val 1 rfl, (show I64 (2 : Int) from ⟨by omega, by omega⟩)⟩
  | 1, _ => exact ⟨k1.val 2 rfl, k1.val 3 rfl, (show I64 (1 : Int) from ⟨by omega, by omega⟩)⟩
  | j + 2, h => exact absurd h (by simp [cls0])
end Go.Proofs.YtohmnjejchppkaaDoor
/- The document's Name; the law ClassesNames. No condition. -/
namespace Go.Proofs.YtohmnjejchppkaaDoor
open Go.RowKit
set_option linter.unusedVariables false
end Go.Proofs.YtohmnjejchppkaaDoor
/- The document's Check of classes. Condition: the classes are there. -/
namespace Go.Proofs.YtohmnjejchppkaaDoor
open Go.RowKit
set_option linter.unusedVariables false
def fldsR (l : List FldD) : Int := if 15 < l.length then 3 else fldsE [] l
theorem nm_yes {a b : ByteArray} (h : nmB a = nmB b) : (a.toList == b.toList) = true := by rw [Lib.toList_data, Lib.toList_data]; simpa using h
theorem nm_no {a b : ByteArray} (h : nmB a ≠ nmB b) : (a.toList == b.toList) = false := by rw [Lib.toList_data, Lib.toList_data]; simpa using h
theorem fnames_mem {l : List FldD} {i : Nat} {s : Nm} : s ∈ fnames (l.take i) ↔ ∃ j, ∃ (h : j < l.length), j < i ∧ nmB l[j].name = s := by
  unfold fnames
  rw [List.mem_map]
  constructor
  · rintro ⟨f, hf, rfl⟩
    obtain ⟨j, hj, rfl⟩ := List.getElem_of_mem hf
    rw [List.length_take] at hj
    exact ⟨j, by omega, by omega, by rw [List.getElem_take]⟩
  · rintro ⟨j, h1, h2, rfl⟩
    exact ⟨l[j], List.mem_take_iff_getElem.2 ⟨j, by omega, rfl⟩, rfl⟩
end Go.Proofs.YtohmnjejchppkaaDoor
/- The document's Check of classes, its walk. Condition: the classes are there. -/
namespace Go.Proofs.YtohmnjejchppkaaDoor
open Go.RowKit
set_option linter.unusedVariables false
theorem cnames_mem {l : List ClsD} {i : Nat} {s : Nm} : s ∈ cnames (l.take i) ↔ ∃ j, ∃ (h : j < l.length), j < i ∧ nmB l[j].name = s := by
  unfold cnames
  rw [List.mem_map]
  constructor
  · rintro ⟨f, hf, rfl⟩
    obtain ⟨j, hj, rfl⟩ := List.getElem_of_mem hf
    rw [List.length_take] at hj
    exact ⟨j, by omega, by omega, by rw [List.getElem_take]⟩
  · rintro ⟨j, h1, h2, rfl⟩
    exact ⟨l[j], List.mem_take_iff_getElem.2 ⟨j, by omega, rfl⟩, rfl⟩
theorem newE_zero' : ∀ (l : List ClsD) (i : Nat) (seen : List Nm), (newE i seen l).2 = 0 → newE i seen l = (0, 0)
  | [], i, seen, _ => rfl
  | c :: r, i, seen, h => by
    rw [newE] at h ⊢
    by_cases e : clsE seen c = 0
    · rw [if_pos e] at h ⊢
      exact newE_zero' r _ _ h
    · rw [if_neg e] at h
      exact absurd h e
theorem newE_zero {l : List ClsD} (h : (newE 0 [] l).2 = 0) : newE 0 [] l = (0, 0) := newE_zero' l 0 [] h
end Go.Proofs.YtohmnjejchppkaaDoor
/- The document's SameClass (where a seat has classes alone). No condition. -/
namespace Go.Proofs.YtohmnjejchppkaaDoor
open Go.RowKit
set_option linter.unusedVariables false
theorem list_eq_of {α : Type} {l1 l2 : List α} (h : l1.length = l2.length) (he : ∀ i, (h1 : i < l1.length) → (h2 : i < l2.length) → l1[i] = l2[i]) : l1 = l2 := List.ext_getElem h he
theorem fields2 {l : List Field} {t u : TypeId} (h : l.map (fun f => (f.type, f.offset, f.name == "_")) = [(t, 0, false), (u, 1, false)]) :
    ∃ f g, l = [f, g] ∧ (f.type = t ∧ f.offset = 0 ∧ ¬ f.name = "_") ∧ (g.type = u ∧ g.offset = 1 ∧ ¬ g.name = "_") := by
  rcases l with _ | ⟨f0, _ | ⟨f1, _ | ⟨f2, l⟩⟩⟩ <;> simp only [List.map_cons, List.map_nil, List.cons.injEq, Prod.mk.injEq, beq_eq_false_iff_ne, ne_eq, and_true, reduceCtorEq, and_false] at h
  exact ⟨f0, f1, rfl, h.1, h.2⟩
theorem neq_fld (w : World) (a b : ByteArray) (x y : Int) :
    (binOp .neq 128 (.agg #[.string a, .int .i64 x]) (.agg #[.string b, .int .i64 y])).run Tryd.prog w = .ok (.bool (!(a.toList == b.toList && x == y))) w := by
  rw [run_neq_struct, run_equalIn_agg w 9999 _ _ _ (by kernel_rfl) (by kernel_rfl)]
  obtain ⟨f, g, hl, ⟨f1, f2, f3⟩, g1, g2, g3⟩ := fields2 (l := (Tryd.prog.fieldsOf 128).toList) (t := 9) (u := 3) (by kernel_rfl)
  rw [hl]
  have hi : Tryd.prog.underlying 3 = some (.int .i64) := by kernel_rfl
  have hs : Tryd.prog.underlying 9 = some .string := by kernel_rfl
  simp [Op.eqFields, f1, f2, f3, g1, g2, g3, go_sem, hi, hs]
  by_cases h1 : a.toList = b.toList <;> by_cases h2 : x = y <;> simp [h1, h2]
theorem guard_fld : Tryd.prog.eqGuardType Tryd.prog.depth 128 = false := by kernel_rfl
def fldP (f : FldD) : List UInt8 × Int := (f.name.toList, f.ty)
def clsP (c : ClsD) : List UInt8 × List (List UInt8 × Int) := (c.name.toList, c.fields.map fldP)
theorem map_eq_of {α β : Type} {f : α → β} {l1 l2 : List α} (h : l1.length = l2.length) (he : ∀ i, (h1 : i < l1.length) → (h2 : i < l2.length) → f l1[i] = f l2[i]) : l1.map f = l2.map f :=
  list_eq_of (by simpa using h) fun i h1 h2 => by simpa using he i (by simpa using h1) (by simpa using h2)
theorem map_ne_at {α β : Type} {f : α → β} {l1 l2 : List α} {i : Nat} (h1 : i < l1.length) (h2 : i < l2.length) (h : ¬ f l1[i] = f l2[i]) : ¬ l1.map f = l2.map f := fun e => h (by
  have q : (l1.map f)[i]? = (l2.map f)[i]? := by rw [e]
  simpa [List.getElem?_eq_getElem h1, List.getElem?_eq_getElem h2] using q)
theorem map_ne_len {α β : Type} {f : α → β} {l1 l2 : List α} (h : ¬ l1.length = l2.length) : ¬ l1.map f = l2.map f := fun e => h (by simpa using congrArg List.length e)
theorem fldP_eq {f g : FldD} : (f.name.toList == g.name.toList && f.ty == g.ty) = decide (fldP f = fldP g) := by
  unfold fldP
  by_cases h1 : f.name.toList = g.name.toList <;> by_cases h2 : f.ty = g.ty <;> simp [h1, h2]
theorem clsP_eq {f g : ClsD} : decide (clsP f = clsP g) = (decide (f.name.toList = g.name.toList) && decide (f.fields.map fldP = g.fields.map fldP)) := by
  unfold clsP
  by_cases h1 : f.name.toList = g.name.toList <;> by_cases h2 : f.fields.map fldP = g.fields.map fldP <;> simp [h1, h2]
end Go.Proofs.YtohmnjejchppkaaDoor
/- Table.Class: a class, in memory of its own. Condition: the table is there. -/
namespace Go.Proofs.YtohmnjejchppkaaDoor
open Go.RowKit
set_option linter.unusedVariables false
end Go.Proofs.YtohmnjejchppkaaDoor
/- The law ClassesMakes. Condition: the argument reads as classes. -/
namespace Go.Proofs.YtohmnjejchppkaaDoor
open Go.RowKit
set_option linter.unusedVariables false
theorem newE_all : ∀ (l : List ClsD) (i : Nat) (seen : List Nm), (newE i seen l).2 = 0 → ∀ c ∈ l, c.fields.length ≤ 15
  | [], _, _, _, c, hc => by cases hc
  | d :: r, i, seen, h, c, hc => by
    rw [newE] at h
    by_cases e : clsE seen d = 0
    · rw [if_pos e] at h
      rcases List.mem_cons.1 hc with q | q
      · subst q
        unfold clsE at e
        split at e
        · cases e
        · split at e
          · cases e
          · split at e
            · cases e
            · omega
      · exact newE_all r _ _ h c q
    · rw [if_neg e] at h
      exact absurd h e
theorem tabE_zero {l : List ClsD} (h : (tabE l).2 = 0) : tabE l = (0, 0) ∧ ∀ c ∈ l, c.fields.length ≤ 15 := by
  unfold tabE at h ⊢
  split at h
  · cases h
  · rename_i e
    rw [if_neg e]
    exact ⟨newE_zero h, newE_all l 0 [] h⟩
theorem rd_mem {α : Type} {sz B : Nat} {el : World → Nat → Nat → α → Prop} {w : World} {v : Value} {l : List α} (h : RdRow sz el B w v l) {x : α} (hx : x ∈ l) : ∃ b k, el w b k x := by
  obtain ⟨a, c, h1, h2, h3⟩ := h
  obtain ⟨i, hi, rfl⟩ := List.getElem_of_mem hx
  obtain ⟨b, o, _, _, e⟩ := h3 i hi
  exact ⟨b, _, e⟩
theorem okC_of {B : Nat} {w : World} {v : Value} {l : List ClsD} (h : RdRow 2 (ElC B) B w v l) : ∀ c ∈ l, ∀ f ∈ c.fields, I64 f.ty := fun c hc f hf => by
  obtain ⟨_, _, _, v, _, r⟩ := rd_mem h hc
  obtain ⟨_, _, _, _, q⟩ := rd_mem r hf
  exact q
end Go.Proofs.YtohmnjejchppkaaDoor
/- Find, Field, and the document's Find, Field, Type. Condition: the table, the classes are there. -/
namespace Go.Proofs.YtohmnjejchppkaaDoor
open Go.RowKit
set_option linter.unusedVariables false
theorem idxOf_first {s : Nm} : ∀ (l : List Nm) (k : Nat) (hk : k < l.length), l[k] = s → (∀ j (hj : j < l.length), j < k → l[j] ≠ s) → l.idxOf s = k
  | x :: r, 0, _, h, _ => by
    have h' : x = s := h
    subst h'
    simp
  | x :: r, k + 1, hk, h, hn => by
    have hx : x ≠ s := hn 0 (by simp) (by omega)
    have hr := idxOf_first r k (by simpa using hk) (by simpa using h) (fun j hj hjk => by
      have := hn (j + 1) (by simpa using hj) (by omega)
      simpa using this)
    rw [List.idxOf_cons, beq_eq_false_iff_ne.2 hx, hr]
    rfl
def seekI (l : List Nm) (s : Nm) (e : Int) : Int × Int := if s ∈ l then (((l.idxOf s : Nat) : Int), 0) else (0, e)
theorem seek_hit {l : List Nm} {s : Nm} {e : Int} {k : Nat} (hk : k < l.length) (h : l[k] = s) (hn : ∀ j (hj : j < l.length), j < k → l[j] ≠ s) : seekI l s e = ((k : Int), 0) := by
  unfold seekI
  rw [if_pos (h ▸ List.getElem_mem hk), idxOf_first l k hk h hn]
theorem seek_miss {l : List Nm} {s : Nm} {e : Int} (hn : ∀ j (hj : j < l.length), l[j] ≠ s) : seekI l s e = (0, e) := by
  unfold seekI
  rw [if_neg]
  intro hm
  obtain ⟨j, hj, h⟩ := List.getElem_of_mem hm
  exact hn j hj h
theorem cnames_at {l : List ClsD} {i : Nat} (hi : i < l.length) : (cnames l)[i]'(by unfold cnames; rw [List.length_map]; exact hi) = nmB l[i].name := by simp [cnames]
theorem fnames_at {l : List FldD} {i : Nat} (hi : i < l.length) : (fnames l)[i]'(by unfold fnames; rw [List.length_map]; exact hi) = nmB l[i].name := by simp [fnames]
def fieldI (cl : List ClsD) (c : Int) (s : Nm) : Int × Int := if atB cl.length c then (match cl[c.toNat]? with | some d => seekI (fnames d.fields) s 22 | none => (0, 21)) else (0, 21)
theorem fieldI_at {cl : List ClsD} {c : Nat} (hc : c < cl.length) (s : Nm) : fieldI cl c s = seekI (fnames cl[c].fields) s 22 := by
  unfold fieldI
  rw [if_pos (by unfold atB; simp; omega)]
  simp [hc]
theorem fieldI_no {cl : List ClsD} {c : Int} (hc : atB cl.length c = false) (s : Nm) : fieldI cl c s = (0, 21) := by
  unfold fieldI
  rw [if_neg (by rw [hc]; decide)]
end Go.Proofs.YtohmnjejchppkaaDoor
/- The document's Find, Field, Type. Condition: the classes are there. -/
namespace Go.Proofs.YtohmnjejchppkaaDoor
open Go.RowKit
set_option linter.unusedVariables false
theorem atB_neg {n : Nat} {i : Int} (h : atB n i = false) (h0 : ¬ i < 0) : (n : Int) ≤ i := by
  unfold atB at h
  simp at h
  exact h (by omega)
end Go.Proofs.YtohmnjejchppkaaDoor
/- The reference's headers: what may be one, what fits, which words are references. Condition: the classes are there. -/
namespace Go.Proofs.YtohmnjejchppkaaDoor
open Go.RowKit
set_option linter.unusedVariables false
theorem validI_eq1 (c l : Int) : validI c 1 l = decide (0 ≤ c ∧ c ≤ 15 ∧ 0 ≤ l ∧ l ≤ 15) := by
  unfold validI
  rw [if_pos rfl, ← Bool.decide_and, ← Bool.decide_and, ← Bool.decide_and]
  exact decide_eq_decide.2 (by omega)
theorem validI_eq23 (c k l : Int) (hk : k = 2 ∨ k = 3) : validI c k l = decide (c = 0 ∧ 0 ≤ l ∧ l ≤ 255) := by
  unfold validI
  rw [if_neg (by omega), if_pos hk, ← Bool.decide_and, ← Bool.decide_and]

theorem isrI_eq {cl : List ClsD} {c k n i : Int} : isrI cl c k n i = (fitI cl c k n && (decide (0 ≤ i) && decide (i < n)) && refI cl c k i) := by
  unfold isrI ptrL ptrs
  cases hf : fitI cl c k n with
  | false => simp
  | true =>
    by_cases h0 : 0 ≤ i
    · obtain ⟨j, rfl⟩ : ∃ j : Nat, i = (j : Int) := ⟨i.toNat, by omega⟩
      by_cases h1 : (j : Int) < n
      · have h2 : j < n.toNat := by omega
        cases hr : refI cl c k (j : Int) with
        | true =>
          simp [h1]
          exact ⟨j, ⟨h1, hr⟩, rfl⟩
        | false =>
          simp [h1]
          intro x _ hx e
          obtain rfl : x = j := by omega
          rw [hr] at hx
          cases hx
      · simp [h1]
        intro q
        omega
    · simp [h0]
      intro x _ _ e
      omega
end Go.Proofs.YtohmnjejchppkaaDoor
/- The document's objects: Look's errors. Conditions: the plan is a plan, the cells are a row of their own, the classes are read. -/
namespace Go.Proofs.YtohmnjejchppkaaDoor
open Go.RowKit
set_option linter.unusedVariables false
structure RkS (w : World) (P T R bs tb z : Int) (d : Nat) (cs : List Int) (B : Nat) (v : Value) (cl : List ClsD) (W : World) : Prop where
  mp : Blk W w.heap.size #[.int .i64 P, .int .i64 T, .int .i64 R, .int .i64 bs, .int .i64 tb, .int .i64 z] 32
  res : Blk W (w.heap.size + 1) #[.int .i64 0, .int .i64 0, .int .i64 0, .slice none 0 0] 70
  row : Blk W d (cs.map (Value.int .u64)).toArray 26
  cls : RdRow 2 (ElC B) B W v cl
  bw : B ≤ w.heap.size
  bel : Below w.heap.size w W
section
variable {w W W' : World} {P T R bs tb z : Int} {d : Nat} {cs : List Int} {B : Nat} {v : Value} {cl : List ClsD}
theorem RkS.grew (h : RkS w P T R bs tb z d cs B v cl W) (hb : Below W.heap.size W W') : RkS w P T R bs tb z d cs B v cl W' :=
  ⟨h.mp.grew hb, h.res.grew hb, h.row.grew hb, h.cls.keep (hb.mono (Nat.le_trans h.bw h.bel.size)) fun _ _ _ e r => r.keep (hb.mono (Nat.le_trans h.bw h.bel.size)) e, h.bw, h.bel.trans (hb.mono h.bel.size)⟩
theorem RkS.new (P T R bs tb z : Int) (hd : Blk w d (cs.map (Value.int .u64)).toArray 26) (hc : RdRow 2 (ElC B) B w v cl) (hB : B ≤ w.heap.size) : RkS w P T R bs tb z d cs B v cl ((w.alloc (.cells #[.int .i64 P, .int .i64 T, .int .i64 R, .int .i64 bs, .int .i64 tb, .int .i64 z] 32)).alloc (.cells #[.int .i64 0, .int .i64 0, .int .i64 0, .slice none 0 0] 70)) :=
  have hb : Below w.heap.size w ((w.alloc (.cells #[.int .i64 P, .int .i64 T, .int .i64 R, .int .i64 bs, .int .i64 tb, .int .i64 z] 32)).alloc (.cells #[.int .i64 0, .int .i64 0, .int .i64 0, .slice none 0 0] 70)) := ((Below.refl _ _).alloc (Nat.le_refl _) _).alloc (by simp) _
  ⟨(Blk.new _ _ _).alloc _, Blk.new' (by simp), hd.grew hb, hc.keep (hb.mono hB) fun _ _ _ e r => r.keep (hb.mono hB) e, hB, hb⟩
theorem RkS.put (h : RkS w P T R bs tb z d cs B v cl W) (v0 v1 v2 v3 : Value) :
    Blk ((((W.setCell ⟨w.heap.size + 1, 0, none⟩ v0).setCell ⟨w.heap.size + 1, 1, none⟩ v1).setCell ⟨w.heap.size + 1, 2, none⟩ v2).setCell ⟨w.heap.size + 1, 3, none⟩ v3) (w.heap.size + 1) #[v0, v1, v2, v3] 70 ∧
    Below w.heap.size w ((((W.setCell ⟨w.heap.size + 1, 0, none⟩ v0).setCell ⟨w.heap.size + 1, 1, none⟩ v1).setCell ⟨w.heap.size + 1, 2, none⟩ v2).setCell ⟨w.heap.size + 1, 3, none⟩ v3) :=
  ⟨(((h.res.set 0 v0).set 1 v1).set 2 v2).set 3 v3, (((h.bel.setCell (p := ⟨w.heap.size + 1, 0, none⟩) (by simp) _).setCell (p := ⟨w.heap.size + 1, 1, none⟩) (by simp) _).setCell (p := ⟨w.heap.size + 1, 2, none⟩) (by simp) _).setCell (p := ⟨w.heap.size + 1, 3, none⟩) (by simp) _⟩
theorem RkS.rest (h : RkS w P T R bs tb z d cs B v cl W) : (W.cell? ⟨w.heap.size + 1, 0, none⟩ = some (.int .i64 0) ∧ W.cell? ⟨w.heap.size + 1, 1, none⟩ = some (.int .i64 0) ∧ W.cell? ⟨w.heap.size + 1, 2, none⟩ = some (.int .i64 0) ∧ W.cell? ⟨w.heap.size + 1, 3, none⟩ = some (.slice none 0 0)) ∧
    (W.frozen? ⟨w.heap.size + 1, 0, none⟩ = false ∧ W.frozen? ⟨w.heap.size + 1, 1, none⟩ = false ∧ W.frozen? ⟨w.heap.size + 1, 2, none⟩ = false ∧ W.frozen? ⟨w.heap.size + 1, 3, none⟩ = false) :=
  ⟨⟨h.res.val 0 rfl, h.res.val 1 rfl, h.res.val 2 rfl, h.res.val 3 rfl⟩, h.res.frozen 0, h.res.frozen 1, h.res.frozen 2, h.res.frozen 3⟩
def RkNo (n : Int) (w : World) (e : Ending) (w' : World) : Prop := e = .returned (.tuple #[.agg #[.int .i64 0, .int .i64 0, .int .i64 0, .slice none 0 0], .int .i64 n]) ∧ Below w.heap.size w w'
end
end Go.Proofs.YtohmnjejchppkaaDoor
/- The document's objects: Look's success. Conditions: the plan is a plan, the cells are a row of their own, the classes are read. -/
namespace Go.Proofs.YtohmnjejchppkaaDoor
open Go.RowKit
set_option linter.unusedVariables false
section
variable {w W W' : World} {P T R bs tb z : Int} {d : Nat} {cs : List Int} {B : Nat} {v : Value} {cl : List ClsD}
end
end Go.Proofs.YtohmnjejchppkaaDoor
/- objects: the program's 'fits' and the document's 'room' are one, where the entry and the header are valid. -/
namespace Go.Proofs.YtohmnjejchppkaaDoor
open Go.RowKit
set_option linter.unusedVariables false
theorem fits_room {P k c pg m : Int} (hk : k = 1 ∨ k = 2) (he : k = 1 → errI c = 0) (hm : 1 ≤ m ∧ m ≤ 256) : fitsB P k c pg m = roomB P k c pg m := by
  unfold fitsB roomB
  rcases hk with rfl | rfl
  · rw [if_pos rfl, if_neg (by decide), he rfl]; rfl
  · have hp : pgE m = 0 := by unfold pgE; rw [if_neg (by omega), if_neg (by omega)]
    rw [if_neg (by decide), if_pos rfl, hp]
    have hb : (pgV m == c) = decide (pgV m = c) := by by_cases h : pgV m = c <;> simp [h]
    rw [hb]; simp
theorem head_words {x : Int} (hx : U64 x) (h : hdE x = 0) : 1 ≤ wordsV (hdC x) (hdK x) (hdN x) ∧ wordsV (hdC x) (hdK x) (hdN x) ≤ 256 := by
  have hd : decOk x = true := by
    unfold hdE at h
    cases e : decOk x with
    | true => rfl
    | false => rw [e] at h; simp at h
  unfold hdC hdK hdN wordsV
  rw [hd]
  simp only [if_true]
  have hh : headB (x / 256 % 256) (x % 256) (x / 65536 % 256) = true := by unfold decOk at hd; rw [Bool.and_eq_true] at hd; exact hd.1
  rw [if_pos hh]
  omega
theorem ent_err {E : Int} (h : edecOk E = true) (hk : E % 4 = 1) : errI (E / 4 % 16) = 0 := by
  unfold edecOk at h
  rw [Bool.and_eq_true] at h
  have h1 := h.1
  unfold entB at h1
  rw [hk] at h1
  simp [kindBEnt, inB] at h1
  unfold errI clsB
  rw [decide_eq_true (by omega)]
  rfl
theorem beg_kind {k c wd : Int} (h : begB k c wd = true) : k = 1 ∨ k = 2 := by
  unfold begB at h
  by_cases h1 : k = 1
  · exact .inl h1
  · by_cases h2 : k = 2
    · exact .inr h2
    · rw [if_neg h1, if_neg h2] at h; cases h
end Go.Proofs.YtohmnjejchppkaaDoor
/- Package objects: Look's errors. Conditions: the arena is there, with as many cells as the plan says; the table is there; sizes' table lies as the start lays it. -/
namespace Go.Proofs.YtohmnjejchppkaaDoor
open Go.RowKit
set_option linter.unusedVariables false
section
variable {w W W' : World} {P T R : Int} {B a c n : Nat} {cs : List Int} {K : List Nat} {lo t m : Nat} {tv : Value} {L : List (ClsD × Value × Nat)}
theorem holder_no (x : Int) (hA : Ary w B a c cs n K) (hW : Wid w) (hl : 0 ≤ (placeI P T R x).1 → cs.length = cellsN P T R) (hU : ∀ z ∈ cs, U64 z) (h : holdB P T R cs x = false) :
    Calls Tryd.prog 42 #[.pointer (some ⟨a, 0, none⟩), .agg #[.int .i64 P, .int .i64 T, .int .i64 R], .int .i64 x] w fun e w' => e = .returned (.tuple #[.int .i64 0, zeroE, .bool false]) ∧ Below w.heap.size w w' := by
  by_cases h0 : 0 ≤ (placeI P T R x).1
  · have hl := hl h0
    cases h1 : edecOk (cs.getD (rowN P T R 0 (placeI P T R x).1) 0) with
    | false => exact holder_ent P T R x hA hW h0 hl (getD_U hU _) h1
    | true =>
      cases h2 : begB (cs.getD (rowN P T R 0 (placeI P T R x).1) 0 % 4) (cs.getD (rowN P T R 0 (placeI P T R x).1) 0 / 4 % 16) (placeI P T R x).2 with
      | false => exact holder_beg P T R x hA hW h0 hl (getD_U hU _) h1 h2
      | true =>
        cases h3 : bitB (cs.getD (rowN P T R 1 (placeI P T R x).1) 0) (placeI P T R x).2 with
        | false => exact holder_bit P T R x hA hW h0 hl (getD_U hU _) h1 h2 h3 (getD_U hU _)
        | true =>
          unfold holdB at h
          rw [h1, h2, h3, decide_eq_true h0] at h
          cases h
  · exact holder_none P T R x hA hW (by omega)
def lkP (w : World) (W : World) (v0 v1 v2 v3 : Value) : World := (((W.setCell ⟨w.heap.size + 1, 0, none⟩ v0).setCell ⟨w.heap.size + 1, 1, none⟩ v1).setCell ⟨w.heap.size + 1, 2, none⟩ v2).setCell ⟨w.heap.size + 1, 3, none⟩ v3
theorem LkS.put (h : LkS w P T R B a c n cs K lo t m tv L W) (v0 v1 v2 v3 : Value) :
    Blk ((((W.setCell ⟨w.heap.size + 1, 0, none⟩ v0).setCell ⟨w.heap.size + 1, 1, none⟩ v1).setCell ⟨w.heap.size + 1, 2, none⟩ v2).setCell ⟨w.heap.size + 1, 3, none⟩ v3) (w.heap.size + 1) #[v0, v1, v2, v3] 70 ∧
    Below w.heap.size w ((((W.setCell ⟨w.heap.size + 1, 0, none⟩ v0).setCell ⟨w.heap.size + 1, 1, none⟩ v1).setCell ⟨w.heap.size + 1, 2, none⟩ v2).setCell ⟨w.heap.size + 1, 3, none⟩ v3) :=
  ⟨(((h.res.set 0 v0).set 1 v1).set 2 v2).set 3 v3, (((h.bel.setCell (p := ⟨w.heap.size + 1, 0, none⟩) (by simp) _).setCell (p := ⟨w.heap.size + 1, 1, none⟩) (by simp) _).setCell (p := ⟨w.heap.size + 1, 2, none⟩) (by simp) _).setCell (p := ⟨w.heap.size + 1, 3, none⟩) (by simp) _⟩
theorem LkS.rest (h : LkS w P T R B a c n cs K lo t m tv L W) : (W.cell? ⟨w.heap.size + 1, 0, none⟩ = some (.int .i64 0) ∧ W.cell? ⟨w.heap.size + 1, 1, none⟩ = some (.int .i64 0) ∧ W.cell? ⟨w.heap.size + 1, 2, none⟩ = some (.int .i64 0) ∧ W.cell? ⟨w.heap.size + 1, 3, none⟩ = some (.slice none 0 0)) ∧
    (W.frozen? ⟨w.heap.size + 1, 0, none⟩ = false ∧ W.frozen? ⟨w.heap.size + 1, 1, none⟩ = false ∧ W.frozen? ⟨w.heap.size + 1, 2, none⟩ = false ∧ W.frozen? ⟨w.heap.size + 1, 3, none⟩ = false) :=
  ⟨⟨h.res.val 0 rfl, h.res.val 1 rfl, h.res.val 2 rfl, h.res.val 3 rfl⟩, h.res.frozen 0, h.res.frozen 1, h.res.frozen 2, h.res.frozen 3⟩
def LkNo (n : Int) (w : World) (e : Ending) (w' : World) : Prop := e = .returned (.tuple #[.agg #[.int .i64 0, .int .i64 0, .int .i64 0, .slice none 0 0], .int .i64 n]) ∧ Below w.heap.size w w'
set_option maxRecDepth 100000 in
set_option maxHeartbeats 8000000 in
theorem look_addr (x : Int) (hA : Ary w B a c cs n K) (hW : Wid w) (hT : TabS w lo t tv m L) (hl : 0 ≤ (placeI P T R x).1 → cs.length = cellsN P T R) (hU : ∀ z ∈ cs, U64 z) (h : holdB P T R cs x = false) :
    Calls Tryd.prog 24 #[.pointer (some ⟨a, 0, none⟩), .agg #[.int .i64 P, .int .i64 T, .int .i64 R], .pointer (some ⟨t, 0, none⟩), .int .i64 x] w (LkNo 5 w) := by
  have HO := Lib.hid (fun W (hA : Ary W B a c cs n K) (hW : Wid W) => holder_no (P := P) (T := T) (R := R) x hA hW hl hU h)
  unfold zeroE at HO
  have hS := LkS.new (P := P) (T := T) (R := R) hA hW hT
  clear hA hW hT hl hU h
  unfold LkNo
  obtain ⟨a0, a1, a2⟩ := hS.pl.three.1
  go_enter Tryd.func24, Tryd.ntmps24
  go_wp2_with fail
  refine (HO.out _ hS.ary hS.wid).mono ?_; rintro e w1 ⟨rfl, hb1⟩
  have hS1 := hS.grew hb1
  clear hS hb1 a0 a1 a2 HO
  have hS2 := hS1.alloc (.cells #[.int .i64 0, .int .i64 0, .int .i64 0, .int .i64 0, .int .i64 0] 109)
  clear hS1
  go_upto_region 3 with fail
  generalize w1.alloc (.cells #[.int .i64 0, .int .i64 0, .int .i64 0, .int .i64 0, .int .i64 0] 109) = w2 at *
  obtain ⟨⟨r0, r1, r2, r3⟩, f0, f1, f2, f3⟩ := hS2.rest
  have HF := Lib.hid (hS2.put (.int .i64 0) (.int .i64 0) (.int .i64 0) (.slice none 0 0))
  go_wp2
  generalize World.setCell (World.setCell (World.setCell (World.setCell _ _ _) _ _) _ _) _ _ = W9 at *
  obtain ⟨hZ, hB9⟩ := HF.out
  have z0 := hZ.val 0 rfl
  have z1 := hZ.val 1 rfl
  have z2 := hZ.val 2 rfl
  have z3 := hZ.val 3 rfl
  exact bodyPost_ret (v := .tuple #[.agg #[.int .i64 0, .int .i64 0, .int .i64 0, .slice none 0 0], .int .i64 5]) (by simp [results, Tryd.results24, go_sem, z0, z1, z2, z3]) rfl ⟨rfl, hB9⟩
set_option maxRecDepth 100000 in
set_option maxHeartbeats 8000000 in
theorem look_head (x : Nat) (hA : Ary w B a c cs n K) (hW : Wid w) (hT : TabS w lo t tv m L) (hl : cs.length = cellsN P T R) (hU : ∀ z ∈ cs, U64 z) (hx : x < cs.length)
    (h1 : holdB P T R cs x = true) (h2 : hdE (cs.getD x 0) = 4) :
    Calls Tryd.prog 24 #[.pointer (some ⟨a, 0, none⟩), .agg #[.int .i64 P, .int .i64 T, .int .i64 R], .pointer (some ⟨t, 0, none⟩), .int .i64 (x : Int)] w (LkNo 4 w) := by
  obtain ⟨p0, p1, p2, p3⟩ := holdB_parts h1
  have hr := place_right p0
  have hcl := (cellsN_bd hr).2.2
  have hpb := place_bdO P T R x
  have HO := Lib.hid (fun W (hA : Ary W B a c cs n K) (hW : Wid W) => holder_yes P T R x hA hW p0 hl (getD_U hU _) p1 p2 p3 (getD_U hU _))
  have HA := Lib.hid (fun W (hA : Ary W B a c cs n K) => headAt_any x hA (by omega) (by omega) (getD_U hU _))
  have FT := Lib.hid (fun W (hT : TabS W lo t tv m L) => fits_any W lo t m tv L (hdC (cs.getD x 0)) (hdK (cs.getD x 0)) (hdN (cs.getD x 0)) hT)
  have WD := Lib.hid (fun W => words_anyRhead (hdC (cs.getD x 0)) (hdK (cs.getD x 0)) (hdN (cs.getD x 0)) W)
  have FS := Lib.hid (fun W (hW : Wid W) => fits_anyO P T R (placeI P T R x).1 (cs.getD (rowN P T R 0 (placeI P T R x).1) 0 % 4) (cs.getD (rowN P T R 0 (placeI P T R x).1) 0 / 4 % 16) (cs.getD (rowN P T R 0 (placeI P T R x).1) 0 / 64 % 4) (cs.getD (rowN P T R 0 (placeI P T R x).1) 0 / 256 % 16) (cs.getD (rowN P T R 0 (placeI P T R x).1) 0 / 65536 % 4294967296) (wordsV (hdC (cs.getD x 0)) (hdK (cs.getD x 0)) (hdN (cs.getD x 0))) W hW p0 hpb.2.1)
  unfold entV at HO
  rw [h2] at HA
  have hS := LkS.new (P := P) (T := T) (R := R) hA hW hT
  clear h1 h2 hA hW hT hU hl p0 p1 p2 p3 hr hcl
  unfold LkNo
  generalize wordsV (hdC (cs.getD x 0)) (hdK (cs.getD x 0)) (hdN (cs.getD x 0)) = M at *
  generalize hdC (cs.getD x 0) = hc at *
  generalize hdK (cs.getD x 0) = hk at *
  generalize hdN (cs.getD x 0) = hn at *
  generalize cs.getD (rowN P T R 0 (placeI P T R x).1) 0 % 4 = q0 at *
  generalize cs.getD (rowN P T R 0 (placeI P T R x).1) 0 / 4 % 16 = q1 at *
  generalize cs.getD (rowN P T R 0 (placeI P T R x).1) 0 / 64 % 4 = q2 at *
  generalize cs.getD (rowN P T R 0 (placeI P T R x).1) 0 / 256 % 16 = q3 at *
  generalize cs.getD (rowN P T R 0 (placeI P T R x).1) 0 / 65536 % 4294967296 = q4 at *
  generalize (placeI P T R x).1 = pg at *
  obtain ⟨a0, a1, a2⟩ := hS.pl.three.1
  go_enter Tryd.func24, Tryd.ntmps24
  go_wp2_with fail
  refine (HO.out _ hS.ary hS.wid).mono ?_; rintro e w1 ⟨rfl, hb1⟩
  have hS1 := hS.grew hb1
  clear hS hb1 a0 a1 a2 HO
  go_upto_region 4 with fail
  have hE := entNew w1 q0 q1 q2 q3 q4 109
  have hS2 := hS1.alloc (.cells #[.int .i64 q0, .int .i64 q1, .int .i64 q2, .int .i64 q3, .int .i64 q4] 109)
  clear hS1
  generalize hw2 : w1.alloc (.cells #[.int .i64 q0, .int .i64 q1, .int .i64 q2, .int .i64 q3, .int .i64 q4] 109) = w2 at *
  replace hw2 := Lib.hid hw2
  generalize w1.heap.size = be at *
  go_wp2_with fail
  refine (HA.out _ hS2.ary).mono ?_; rintro e w3 ⟨rfl, hb3⟩
  have hS3 := hS2.grew hb3
  have hE3 := hE.grew hb3
  clear hS2 hE hb3 HA
  go_upto_region 5 with fail
  have hH := Blk.new w3 #[.int .i64 hc, .int .i64 hk, .int .i64 hn] 56
  have hS4 := hS3.alloc (.cells #[.int .i64 hc, .int .i64 hk, .int .i64 hn] 56)
  have hE4 := hE3.alloc (.cells #[.int .i64 hc, .int .i64 hk, .int .i64 hn] 56)
  clear hS3 hE3
  generalize hw4 : w3.alloc (.cells #[.int .i64 hc, .int .i64 hk, .int .i64 hn] 56) = w4 at *
  replace hw4 := Lib.hid hw4
  generalize w3.heap.size = bh at *
  clear FT FS WD hE4
  go_quiet (fail)
  have hS7 := hS4.grew (show Below w4.heap.size w4 (w4.drewN nq) from Quiet.below ⟨nq, rfl⟩)
  clear hS4
  generalize w4.drewN nq = w7 at *
  obtain ⟨⟨r0, r1, r2, r3⟩, f0, f1, f2, f3⟩ := hS7.rest
  have HF := Lib.hid (hS7.put (.int .i64 0) (.int .i64 0) (.int .i64 0) (.slice none 0 0))
  clear hS7
  go_wp2
  generalize World.setCell (World.setCell (World.setCell (World.setCell _ _ _) _ _) _ _) _ _ = W9 at *
  obtain ⟨hZ, hB9⟩ := HF.out
  have z0 := hZ.val 0 rfl
  have z1 := hZ.val 1 rfl
  have z2 := hZ.val 2 rfl
  have z3 := hZ.val 3 rfl
  exact bodyPost_ret (v := .tuple #[.agg #[.int .i64 0, .int .i64 0, .int .i64 0, .slice none 0 0], .int .i64 4]) (by simp [results, Tryd.results24, go_sem, z0, z1, z2, z3]) rfl ⟨rfl, hB9⟩
end
end Go.Proofs.YtohmnjejchppkaaDoor
/- Package objects: Look's error: a header of no class. Conditions as in XObm. -/
namespace Go.Proofs.YtohmnjejchppkaaDoor
open Go.RowKit
set_option linter.unusedVariables false
section
variable {w W W' : World} {P T R : Int} {B a c n : Nat} {cs : List Int} {K : List Nat} {lo t m : Nat} {tv : Value} {L : List (ClsD × Value × Nat)}
set_option maxRecDepth 100000 in
set_option maxHeartbeats 8000000 in
theorem look_class (x : Nat) (hA : Ary w B a c cs n K) (hW : Wid w) (hT : TabS w lo t tv m L) (hl : cs.length = cellsN P T R) (hU : ∀ z ∈ cs, U64 z) (hx : x < cs.length)
    (h1 : holdB P T R cs x = true) (h2 : hdE (cs.getD x 0) = 0) (h3 : fitI (L.map (·.1)) (hdC (cs.getD x 0)) (hdK (cs.getD x 0)) (hdN (cs.getD x 0)) = false) :
    Calls Tryd.prog 24 #[.pointer (some ⟨a, 0, none⟩), .agg #[.int .i64 P, .int .i64 T, .int .i64 R], .pointer (some ⟨t, 0, none⟩), .int .i64 (x : Int)] w (LkNo 4 w) := by
  obtain ⟨p0, p1, p2, p3⟩ := holdB_parts h1
  have hr := place_right p0
  have hcl := (cellsN_bd hr).2.2
  have hpb := place_bdO P T R x
  have HO := Lib.hid (fun W (hA : Ary W B a c cs n K) (hW : Wid W) => holder_yes P T R x hA hW p0 hl (getD_U hU _) p1 p2 p3 (getD_U hU _))
  have HA := Lib.hid (fun W (hA : Ary W B a c cs n K) => headAt_any x hA (by omega) (by omega) (getD_U hU _))
  have FT := Lib.hid (fun W (hT : TabS W lo t tv m L) => fits_any W lo t m tv L (hdC (cs.getD x 0)) (hdK (cs.getD x 0)) (hdN (cs.getD x 0)) hT)
  have WD := Lib.hid (fun W => words_anyRhead (hdC (cs.getD x 0)) (hdK (cs.getD x 0)) (hdN (cs.getD x 0)) W)
  have FS := Lib.hid (fun W (hW : Wid W) => fits_anyO P T R (placeI P T R x).1 (cs.getD (rowN P T R 0 (placeI P T R x).1) 0 % 4) (cs.getD (rowN P T R 0 (placeI P T R x).1) 0 / 4 % 16) (cs.getD (rowN P T R 0 (placeI P T R x).1) 0 / 64 % 4) (cs.getD (rowN P T R 0 (placeI P T R x).1) 0 / 256 % 16) (cs.getD (rowN P T R 0 (placeI P T R x).1) 0 / 65536 % 4294967296) (wordsV (hdC (cs.getD x 0)) (hdK (cs.getD x 0)) (hdN (cs.getD x 0))) W hW p0 hpb.2.1)
  unfold entV at HO
  rw [h2] at HA
  rw [h3] at FT
  have hS := LkS.new (P := P) (T := T) (R := R) hA hW hT
  clear h1 h2 h3 hA hW hT hU hl p0 p1 p2 p3 hr hcl
  unfold LkNo
  generalize wordsV (hdC (cs.getD x 0)) (hdK (cs.getD x 0)) (hdN (cs.getD x 0)) = M at *
  generalize hdC (cs.getD x 0) = hc at *
  generalize hdK (cs.getD x 0) = hk at *
  generalize hdN (cs.getD x 0) = hn at *
  generalize cs.getD (rowN P T R 0 (placeI P T R x).1) 0 % 4 = q0 at *
  generalize cs.getD (rowN P T R 0 (placeI P T R x).1) 0 / 4 % 16 = q1 at *
  generalize cs.getD (rowN P T R 0 (placeI P T R x).1) 0 / 64 % 4 = q2 at *
  generalize cs.getD (rowN P T R 0 (placeI P T R x).1) 0 / 256 % 16 = q3 at *
  generalize cs.getD (rowN P T R 0 (placeI P T R x).1) 0 / 65536 % 4294967296 = q4 at *
  generalize (placeI P T R x).1 = pg at *
  obtain ⟨a0, a1, a2⟩ := hS.pl.three.1
  go_enter Tryd.func24, Tryd.ntmps24
  go_wp2_with fail
  refine (HO.out _ hS.ary hS.wid).mono ?_; rintro e w1 ⟨rfl, hb1⟩
  have hS1 := hS.grew hb1
  clear hS hb1 a0 a1 a2 HO
  go_upto_region 4 with fail
  have hE := entNew w1 q0 q1 q2 q3 q4 109
  have hS2 := hS1.alloc (.cells #[.int .i64 q0, .int .i64 q1, .int .i64 q2, .int .i64 q3, .int .i64 q4] 109)
  clear hS1
  generalize hw2 : w1.alloc (.cells #[.int .i64 q0, .int .i64 q1, .int .i64 q2, .int .i64 q3, .int .i64 q4] 109) = w2 at *
  replace hw2 := Lib.hid hw2
  generalize w1.heap.size = be at *
  go_wp2_with fail
  refine (HA.out _ hS2.ary).mono ?_; rintro e w3 ⟨rfl, hb3⟩
  have hS3 := hS2.grew hb3
  have hE3 := hE.grew hb3
  clear hS2 hE hb3 HA
  go_upto_region 5 with fail
  have hH := Blk.new w3 #[.int .i64 hc, .int .i64 hk, .int .i64 hn] 56
  have hS4 := hS3.alloc (.cells #[.int .i64 hc, .int .i64 hk, .int .i64 hn] 56)
  have hE4 := hE3.alloc (.cells #[.int .i64 hc, .int .i64 hk, .int .i64 hn] 56)
  clear hS3 hE3
  generalize hw4 : w3.alloc (.cells #[.int .i64 hc, .int .i64 hk, .int .i64 hn] 56) = w4 at *
  replace hw4 := Lib.hid hw4
  generalize w3.heap.size = bh at *
  have B4 : Below w4.heap.size w4 w4.drew := Quiet.below ⟨1, rfl⟩
  have HF := Lib.hid (fun W (hb : Below w4.heap.size w4 W) => FT.out W (hS4.grew hb).tab)
  have HC := Lib.hid (fun W (hb : Below w4.heap.size w4 W) => (hH.grew hb).three.1)
  have HS4 := Lib.hid hS4
  clear FT WD FS hE4 hS4 hH
  refine wp_region_held_drew (S := fun W => (W.cell? ⟨bh, 0, none⟩ = some (.int .i64 hc) ∧ W.cell? ⟨bh, 1, none⟩ = some (.int .i64 hk) ∧ W.cell? ⟨bh, 2, none⟩ = some (.int .i64 hn)) ∧ Below w4.heap.size w4 W) (by kernel_rfl) ⟨HC.out _ B4, B4⟩ (fun hHeld => ?_)
  refine wpAnyH_take (i := 0) (oi := _) (v := ?_) (op_at rfl) (by kernel_rfl) (by kernel_rfl) (by kernel_rfl) (fun _ _ _ h => h) (Or.inl ⟨by rfl, ?_⟩) hHeld ?_
  rotate_left 1
  focus (intro W hSw; (try dsimp only at hSw); go_simp; (try (with_reducible rfl)))
  (try simp only [Act.put, List.setIfInBounds_toArray, List.set_cons_zero, List.set_cons_succ])
  refine wpAnyH_take (i := 1) (oi := _) (v := ?_) (op_at rfl) (by kernel_rfl) (by kernel_rfl) (by kernel_rfl) (fun _ _ _ h => h) (Or.inl ⟨by rfl, ?_⟩) hHeld ?_
  rotate_left 1
  focus (intro W hSw; (try dsimp only at hSw); go_simp; (try (with_reducible rfl)))
  (try simp only [Act.put, List.setIfInBounds_toArray, List.set_cons_zero, List.set_cons_succ])
  refine wpAnyH_take (i := 2) (oi := _) (v := ?_) (op_at rfl) (by kernel_rfl) (by kernel_rfl) (by kernel_rfl) (fun _ _ _ h => h) (Or.inl ⟨by rfl, ?_⟩) hHeld ?_
  rotate_left 1
  focus (intro W hSw; (try dsimp only at hSw); go_simp; (try (with_reducible rfl)))
  (try simp only [Act.put, List.setIfInBounds_toArray, List.set_cons_zero, List.set_cons_succ])
  refine wpAnyH_take (i := 3) (oi := _) (v := ?_) (op_at rfl) (by kernel_rfl) (by kernel_rfl) (by kernel_rfl) (fun _ _ _ h => h) (Or.inl ⟨by rfl, ?_⟩) hHeld ?_
  rotate_left 1
  focus (intro W hSw; (try dsimp only at hSw); go_simp; (try (with_reducible rfl)))
  (try simp only [Act.put, List.setIfInBounds_toArray, List.set_cons_zero, List.set_cons_succ])
  refine wpAnyH_take (i := 4) (oi := _) (v := ?_) (op_at rfl) (by kernel_rfl) (by kernel_rfl) (by kernel_rfl) (fun _ _ _ h => h) (Or.inl ⟨by rfl, ?_⟩) hHeld ?_
  rotate_left 1
  focus (intro W hSw; (try dsimp only at hSw); go_simp; (try (with_reducible rfl)))
  (try simp only [Act.put, List.setIfInBounds_toArray, List.set_cons_zero, List.set_cons_succ])
  refine wpAnyH_ready (rs := [5]) (by kernel_rfl) (by simp) ?_
  refine AllReadyH.cons (o := _) (op_at rfl) (fun Kc hKc => ?_) AllReadyH.nil
  go_simp
  go_at_call 44
  (with_reducible refine (HF.out _ hHeld.2).mono ?_)
  rintro e w5 ⟨rfl, hb5⟩
  have hg5 := hHeld.2.trans (hb5.mono hHeld.2.size)
  go_wp2_with fail
  refine hKc.out _ _ ?_ (fun hHeld => ?_)
  focus exact ⟨HC.out _ hg5, hg5⟩
  clear hKc Kc
  (try simp only [Act.put, List.setIfInBounds_toArray, List.set_cons_zero, List.set_cons_succ])
  refine wpAnyH_take (i := 6) (oi := _) (v := ?_) (op_at rfl) (by kernel_rfl) (by kernel_rfl) (by kernel_rfl) (fun _ _ _ h => h) (Or.inl ⟨by rfl, ?_⟩) hHeld ?_
  rotate_left 1
  focus (intro W hSw; (try dsimp only at hSw); go_simp; (try (with_reducible rfl)))
  (try simp only [Act.put, List.setIfInBounds_toArray, List.set_cons_zero, List.set_cons_succ])
  refine wpAnyH_take (i := 7) (oi := _) (v := ?_) (op_at rfl) (by kernel_rfl) (by kernel_rfl) (by kernel_rfl) (fun _ _ _ h => h) (Or.inl ⟨by rfl, ?_⟩) hHeld ?_
  rotate_left 1
  focus (intro W hSw; (try dsimp only at hSw); go_simp; (try (with_reducible rfl)))
  (try simp only [Act.put, List.setIfInBounds_toArray, List.set_cons_zero, List.set_cons_succ])
  refine wpAnyH_take (i := 8) (oi := _) (v := ?_) (op_at rfl) (by kernel_rfl) (by kernel_rfl) (by kernel_rfl) (fun _ _ _ h => h) (Or.inl ⟨by rfl, ?_⟩) hHeld ?_
  rotate_left 1
  focus (intro W hSw; (try dsimp only at hSw); go_simp; (try (with_reducible rfl)))
  (try simp only [Act.put, List.setIfInBounds_toArray, List.set_cons_zero, List.set_cons_succ])
  refine wpAnyH_take (i := 9) (oi := _) (v := undef) (op_at rfl) (by kernel_rfl) (by kernel_rfl) (by kernel_rfl) (fun _ _ _ h => h) (Or.inr ⟨by rfl, rfl⟩) hHeld ?_
  (try simp only [Act.put, List.setIfInBounds_toArray, List.set_cons_zero, List.set_cons_succ])
  refine wpAnyH_take (i := 10) (oi := _) (v := undef) (op_at rfl) (by kernel_rfl) (by kernel_rfl) (by kernel_rfl) (fun _ _ _ h => h) (Or.inr ⟨by rfl, rfl⟩) hHeld ?_
  (try simp only [Act.put, List.setIfInBounds_toArray, List.set_cons_zero, List.set_cons_succ])
  refine wpAnyH_take (i := 11) (oi := _) (v := undef) (op_at rfl) (by kernel_rfl) (by kernel_rfl) (by kernel_rfl) (fun _ _ _ h => h) (Or.inr ⟨by rfl, rfl⟩) hHeld ?_
  (try simp only [Act.put, List.setIfInBounds_toArray, List.set_cons_zero, List.set_cons_succ])
  refine wpAnyH_take (i := 12) (oi := _) (v := undef) (op_at rfl) (by kernel_rfl) (by kernel_rfl) (by kernel_rfl) (fun _ _ _ h => h) (Or.inr ⟨by rfl, rfl⟩) hHeld ?_
  (try simp only [Act.put, List.setIfInBounds_toArray, List.set_cons_zero, List.set_cons_succ])
  refine wpAnyH_take (i := 13) (oi := _) (v := undef) (op_at rfl) (by kernel_rfl) (by kernel_rfl) (by kernel_rfl) (fun _ _ _ h => h) (Or.inr ⟨by rfl, rfl⟩) hHeld ?_
  (try simp only [Act.put, List.setIfInBounds_toArray, List.set_cons_zero, List.set_cons_succ])
  refine wpAnyH_take (i := 14) (oi := _) (v := undef) (op_at rfl) (by kernel_rfl) (by kernel_rfl) (by kernel_rfl) (fun _ _ _ h => h) (Or.inr ⟨by rfl, rfl⟩) hHeld ?_
  (try simp only [Act.put, List.setIfInBounds_toArray, List.set_cons_zero, List.set_cons_succ])
  refine wpAnyH_take (i := 15) (oi := _) (v := undef) (op_at rfl) (by kernel_rfl) (by kernel_rfl) (by kernel_rfl) (fun _ _ _ h => h) (Or.inr ⟨by rfl, rfl⟩) hHeld ?_
  (try simp only [Act.put, List.setIfInBounds_toArray, List.set_cons_zero, List.set_cons_succ])
  refine wpAnyH_take (i := 16) (oi := _) (v := ?_) (op_at rfl) (by kernel_rfl) (by kernel_rfl) (by kernel_rfl) (fun _ _ _ h => h) (Or.inl ⟨by rfl, ?_⟩) hHeld ?_
  rotate_left 1
  focus (intro W hSw; (try dsimp only at hSw); go_simp; (try (with_reducible rfl)))
  (try simp only [Act.put, List.setIfInBounds_toArray, List.set_cons_zero, List.set_cons_succ])
  refine wpAnyH_done (by kernel_rfl) ?_ _
  have hS7 := HS4.out.grew hHeld.2
  obtain ⟨⟨r0, r1, r2, r3⟩, f0, f1, f2, f3⟩ := hS7.rest
  have HF := Lib.hid (hS7.put (.int .i64 0) (.int .i64 0) (.int .i64 0) (.slice none 0 0))
  clear hS7
  go_wp2
  generalize World.setCell (World.setCell (World.setCell (World.setCell _ _ _) _ _) _ _) _ _ = W9 at *
  obtain ⟨hZ, hB9⟩ := HF.out
  have z0 := hZ.val 0 rfl
  have z1 := hZ.val 1 rfl
  have z2 := hZ.val 2 rfl
  have z3 := hZ.val 3 rfl
  exact bodyPost_ret (v := .tuple #[.agg #[.int .i64 0, .int .i64 0, .int .i64 0, .slice none 0 0], .int .i64 4]) (by simp [results, Tryd.results24, go_sem, z0, z1, z2, z3]) rfl ⟨rfl, hB9⟩
end
end Go.Proofs.YtohmnjejchppkaaDoor
/- Package objects: Look's errors: a header of no class, an object that finds no room. Conditions as in XObm. -/
namespace Go.Proofs.YtohmnjejchppkaaDoor
open Go.RowKit
set_option linter.unusedVariables false
section
variable {w W W' : World} {P T R : Int} {B a c n : Nat} {cs : List Int} {K : List Nat} {lo t m : Nat} {tv : Value} {L : List (ClsD × Value × Nat)}
set_option maxRecDepth 100000 in
set_option maxHeartbeats 8000000 in
theorem look_room (x : Nat) (hA : Ary w B a c cs n K) (hW : Wid w) (hT : TabS w lo t tv m L) (hl : cs.length = cellsN P T R) (hU : ∀ z ∈ cs, U64 z) (hx : x < cs.length)
    (h1 : holdB P T R cs x = true) (h2 : hdE (cs.getD x 0) = 0) (h3 : fitI (L.map (·.1)) (hdC (cs.getD x 0)) (hdK (cs.getD x 0)) (hdN (cs.getD x 0)) = true)
    (h4 : fitsB P (cs.getD (rowN P T R 0 (placeI P T R x).1) 0 % 4) (cs.getD (rowN P T R 0 (placeI P T R x).1) 0 / 4 % 16) (placeI P T R x).1 (wordsV (hdC (cs.getD x 0)) (hdK (cs.getD x 0)) (hdN (cs.getD x 0))) = false) :
    Calls Tryd.prog 24 #[.pointer (some ⟨a, 0, none⟩), .agg #[.int .i64 P, .int .i64 T, .int .i64 R], .pointer (some ⟨t, 0, none⟩), .int .i64 (x : Int)] w (LkNo 4 w) := by
  obtain ⟨p0, p1, p2, p3⟩ := holdB_parts h1
  have hr := place_right p0
  have hcl := (cellsN_bd hr).2.2
  have hpb := place_bdO P T R x
  have HO := Lib.hid (fun W (hA : Ary W B a c cs n K) (hW : Wid W) => holder_yes P T R x hA hW p0 hl (getD_U hU _) p1 p2 p3 (getD_U hU _))
  have HA := Lib.hid (fun W (hA : Ary W B a c cs n K) => headAt_any x hA (by omega) (by omega) (getD_U hU _))
  have FT := Lib.hid (fun W (hT : TabS W lo t tv m L) => fits_any W lo t m tv L (hdC (cs.getD x 0)) (hdK (cs.getD x 0)) (hdN (cs.getD x 0)) hT)
  have WD := Lib.hid (fun W => words_anyRhead (hdC (cs.getD x 0)) (hdK (cs.getD x 0)) (hdN (cs.getD x 0)) W)
  have FS := Lib.hid (fun W (hW : Wid W) => fits_anyO P T R (placeI P T R x).1 (cs.getD (rowN P T R 0 (placeI P T R x).1) 0 % 4) (cs.getD (rowN P T R 0 (placeI P T R x).1) 0 / 4 % 16) (cs.getD (rowN P T R 0 (placeI P T R x).1) 0 / 64 % 4) (cs.getD (rowN P T R 0 (placeI P T R x).1) 0 / 256 % 16) (cs.getD (rowN P T R 0 (placeI P T R x).1) 0 / 65536 % 4294967296) (wordsV (hdC (cs.getD x 0)) (hdK (cs.getD x 0)) (hdN (cs.getD x 0))) W hW p0 hpb.2.1)
  unfold entV at HO
  rw [h2] at HA
  rw [h3] at FT
  rw [h4] at FS
  have hS := LkS.new (P := P) (T := T) (R := R) hA hW hT
  clear h1 h2 h3 h4 hA hW hT hU hl p0 p1 p2 p3 hr hcl
  unfold LkNo
  generalize wordsV (hdC (cs.getD x 0)) (hdK (cs.getD x 0)) (hdN (cs.getD x 0)) = M at *
  generalize hdC (cs.getD x 0) = hc at *
  generalize hdK (cs.getD x 0) = hk at *
  generalize hdN (cs.getD x 0) = hn at *
  generalize cs.getD (rowN P T R 0 (placeI P T R x).1) 0 % 4 = q0 at *
  generalize cs.getD (rowN P T R 0 (placeI P T R x).1) 0 / 4 % 16 = q1 at *
  generalize cs.getD (rowN P T R 0 (placeI P T R x).1) 0 / 64 % 4 = q2 at *
  generalize cs.getD (rowN P T R 0 (placeI P T R x).1) 0 / 256 % 16 = q3 at *
  generalize cs.getD (rowN P T R 0 (placeI P T R x).1) 0 / 65536 % 4294967296 = q4 at *
  generalize (placeI P T R x).1 = pg at *
  obtain ⟨a0, a1, a2⟩ := hS.pl.three.1
  go_enter Tryd.func24, Tryd.ntmps24
  go_wp2_with fail
  refine (HO.out _ hS.ary hS.wid).mono ?_; rintro e w1 ⟨rfl, hb1⟩
  have hS1 := hS.grew hb1
  clear hS hb1 a0 a1 a2 HO
  go_upto_region 4 with fail
  have hE := entNew w1 q0 q1 q2 q3 q4 109
  have hS2 := hS1.alloc (.cells #[.int .i64 q0, .int .i64 q1, .int .i64 q2, .int .i64 q3, .int .i64 q4] 109)
  clear hS1
  generalize hw2 : w1.alloc (.cells #[.int .i64 q0, .int .i64 q1, .int .i64 q2, .int .i64 q3, .int .i64 q4] 109) = w2 at *
  replace hw2 := Lib.hid hw2
  generalize w1.heap.size = be at *
  go_wp2_with fail
  refine (HA.out _ hS2.ary).mono ?_; rintro e w3 ⟨rfl, hb3⟩
  have hS3 := hS2.grew hb3
  have hE3 := hE.grew hb3
  clear hS2 hE hb3 HA
  go_upto_region 5 with fail
  have hH := Blk.new w3 #[.int .i64 hc, .int .i64 hk, .int .i64 hn] 56
  have hS4 := hS3.alloc (.cells #[.int .i64 hc, .int .i64 hk, .int .i64 hn] 56)
  have hE4 := hE3.alloc (.cells #[.int .i64 hc, .int .i64 hk, .int .i64 hn] 56)
  clear hS3 hE3
  generalize hw4 : w3.alloc (.cells #[.int .i64 hc, .int .i64 hk, .int .i64 hn] 56) = w4 at *
  replace hw4 := Lib.hid hw4
  generalize w3.heap.size = bh at *
  have SQ := Lib.hid (fun W (hb : Below w4.heap.size w4 W) => show (W.cell? ⟨w.heap.size, 0, none⟩ = some (.int .i64 P) ∧ W.cell? ⟨w.heap.size, 1, none⟩ = some (.int .i64 T) ∧ W.cell? ⟨w.heap.size, 2, none⟩ = some (.int .i64 R)) ∧ (W.cell? ⟨be, 0, none⟩ = some (.int .i64 q0) ∧ W.cell? ⟨be, 1, none⟩ = some (.int .i64 q1) ∧ W.cell? ⟨be, 2, none⟩ = some (.int .i64 q2) ∧ W.cell? ⟨be, 3, none⟩ = some (.int .i64 q3) ∧ W.cell? ⟨be, 4, none⟩ = some (.int .i64 q4)) ∧ (W.cell? ⟨bh, 0, none⟩ = some (.int .i64 hc) ∧ W.cell? ⟨bh, 1, none⟩ = some (.int .i64 hk) ∧ W.cell? ⟨bh, 2, none⟩ = some (.int .i64 hn)) from
    ⟨(hS4.grew hb).pl.three.1, five_at (hE4.grew hb), (hH.grew hb).three.1⟩)
  have HF := Lib.hid (fun W (hb : Below w4.heap.size w4 W) => FT.out W (hS4.grew hb).tab)
  have HS := Lib.hid (fun W (hb : Below w4.heap.size w4 W) => FS.out W (hS4.grew hb).wid)
  have B4 : Below w4.heap.size w4 w4.drew := Quiet.below ⟨1, rfl⟩
  have KB := Lib.hid (fun (A C : World) (hb : Below A.heap.size A C) (h : Below w4.heap.size w4 A) => h.trans (hb.mono h.size))
  clear FT FS
  go_region_held3 (fun W => ((W.cell? ⟨w.heap.size, 0, none⟩ = some (.int .i64 P) ∧ W.cell? ⟨w.heap.size, 1, none⟩ = some (.int .i64 T) ∧ W.cell? ⟨w.heap.size, 2, none⟩ = some (.int .i64 R)) ∧ (W.cell? ⟨be, 0, none⟩ = some (.int .i64 q0) ∧ W.cell? ⟨be, 1, none⟩ = some (.int .i64 q1) ∧ W.cell? ⟨be, 2, none⟩ = some (.int .i64 q2) ∧ W.cell? ⟨be, 3, none⟩ = some (.int .i64 q3) ∧ W.cell? ⟨be, 4, none⟩ = some (.int .i64 q4)) ∧ (W.cell? ⟨bh, 0, none⟩ = some (.int .i64 hc) ∧ W.cell? ⟨bh, 1, none⟩ = some (.int .i64 hk) ∧ W.cell? ⟨bh, 2, none⟩ = some (.int .i64 hn))) ∧ Below w4.heap.size w4 W)
    (first | (with_reducible exact ⟨SQ.out _ B4, B4⟩) | (with_reducible exact ⟨SQ.out _ hg7, hg7⟩) | (have hg := KB.out _ _ (by assumption) (And.right (by assumption)); exact ⟨SQ.out _ hg, hg⟩))
    (first
      | (go_at_call 44; refine (HF.out _ (And.right (by assumption))).mono ?_; rintro e w5 ⟨rfl, hb5⟩)
      | (go_at_call 36; refine (WD.out _).mono ?_; rintro e w6 ⟨rfl, hb6⟩)
      | (go_at_call 45; refine (HS.out _ (And.right (by assumption))).mono ?_; rintro e w7 ⟨rfl, hb7⟩; have hg7 := KB.out _ _ hb7 (And.right (by assumption))))
  have hS7 := hS4.grew hg7
  clear hS4 hE4 hH SQ HF HS B4 KB WD
  obtain ⟨⟨r0, r1, r2, r3⟩, f0, f1, f2, f3⟩ := hS7.rest
  have HF := Lib.hid (hS7.put (.int .i64 0) (.int .i64 0) (.int .i64 0) (.slice none 0 0))
  clear hS7
  go_wp2
  generalize World.setCell (World.setCell (World.setCell (World.setCell _ _ _) _ _) _ _) _ _ = W9 at *
  obtain ⟨hZ, hB9⟩ := HF.out
  have z0 := hZ.val 0 rfl
  have z1 := hZ.val 1 rfl
  have z2 := hZ.val 2 rfl
  have z3 := hZ.val 3 rfl
  exact bodyPost_ret (v := .tuple #[.agg #[.int .i64 0, .int .i64 0, .int .i64 0, .slice none 0 0], .int .i64 4]) (by simp [results, Tryd.results24, go_sem, z0, z1, z2, z3]) rfl ⟨rfl, hB9⟩
end
end Go.Proofs.YtohmnjejchppkaaDoor
/- Package objects: Allocated. Conditions as in XObm. -/
namespace Go.Proofs.YtohmnjejchppkaaDoor
open Go.RowKit
set_option linter.unusedVariables false
section
variable {w W W' : World} {P T R : Int} {B a c n : Nat} {cs : List Int} {K : List Nat}
end
end Go.Proofs.YtohmnjejchppkaaDoor
