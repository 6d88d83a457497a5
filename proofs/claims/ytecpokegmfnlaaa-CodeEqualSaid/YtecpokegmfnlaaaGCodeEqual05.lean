/- Texts of this seat, one behind the other: each says at its head what it holds. No condition of its own. -/
import Derived.Laws.StructEq
import Derived.Deep.QuietTactic
import Derived.BigQuiet
import Derived.StillTailTactics
import Derived.Test.YtecpokegmfnlaaaGCodeEqual04
/- code's writer: a function, and all: Encode. Condition: what is written lies in blocks below its own. -/
namespace Go.Proofs.Ytecpokegmfnlaaa
open Go.RowKit
set_option linter.unusedVariables false
def kindsE (l : List Int) (most : Nat) : Res := listE l.length most (fun i => kindE (l.getD i 0))
def ins0 : InsD := ⟨0, 0, 0⟩
def codeE (l : List InsD) : Res := listE l.length 256 (fun i => insE (l.getD i ins0))
def funE (f : FunD) : Res := andE (andE (andE (andE (nameE f.name) (kindsE f.params 6)) (kindE f.result)) (kindsE f.locals 16)) (codeE f.code)
theorem lenE_kinds (l : List Int) (most : Nat) (h : most < 1000000) : lenE (kindsE l most) (10 + most * 1) := lenE_list h fun _ _ => lenE_kind _
def codeOk (l : List InsD) : Prop := ∀ i, i < l.length → I64 (l.getD i ins0).a
theorem lenE_code (l : List InsD) (h : codeOk l) : lenE (codeE l) 5386 := lenE_list (by decide) fun i hi => lenE_ins _ (h i hi)
theorem lenE_fun (f : FunD) (h : codeOk f.code) : lenE (funE f) 5600 :=
  lenE_mono (lenE_and (lenE_and (lenE_and (lenE_and (lenE_name _) (lenE_kinds _ _ (by decide))) (lenE_kind _)) (lenE_kinds _ _ (by decide))) (lenE_code _ h)) (by decide)
def funV (f : FunD) (v1 v3 v4 : Value) : Array Value := #[.string f.name, v1, .int .i64 f.result, v3, v4]
set_option maxRecDepth 100000 in
set_option maxHeartbeats 2000000 in
theorem fun1_any (B b c1 c2 i : Nat) (l : List UInt8) (f : FunD) (v1 v3 v4 : Value) (K : Nat → Prop) (w : World) (h : WrX w B b l 0 K) (hc1 : Blk w c1 #[.pointer (some ⟨b, 0, none⟩)] 58) (hc2 : Blk w c2 #[.string f.name, v1, .int .i64 f.result, v3, v4] 54) (hv : RdRow 1 ElI B w v1 f.params) (hi : i < f.params.length) (hl : l.length ≤ 10000000) :
    Calls Try.prog 61 #[.int .i64 i, .pointer (some ⟨c1, 0, none⟩), .pointer (some ⟨c2, 0, none⟩)] w fun e' w' => (∃ u, e' = .returned u) ∧ WrP w' B b (andE (.ok l) (kindE (f.params.getD i 0))) K ∧ WrT B K w w' := by
  have hg : f.params.getD i 0 = f.params[i] := by simp [List.getD_eq_getElem?_getD, hi]
  rw [hg]
  obtain ⟨a, cap, rfl, hmx, hel⟩ := hv
  obtain ⟨d, o, rfl, hd, e1, _⟩ := hel i hi
  rw [Nat.mul_one] at e1
  clear hel hg
  generalize f.params[i] = t at *
  have hbw := h.bw
  have i1 : (0 : Int) ≤ (i : Int) ∧ (i : Int) < (f.params.length : Int) := ⟨by omega, by omega⟩
  have i2 : 0 < f.params.length := by omega
  generalize f.params.length = n at *
  have d1 := hc1.val 0 rfl
  have d2 := hc2.val 1 rfl
  have HL : Hid (lenE (.ok l) 1000000000) := fun q e => by injection e with e; subst e; omega
  have HX : Hid (WrP w.drew B b (.ok l) K) := h.quiet ⟨1, rfl⟩
  have T0 : Hid (WrT B K w w.drew) := WrT.of (Below.refl _ _).drew
  clear h hbw hc1 hc2
  go_enter Try.func61, Try.ntmps61
  go_wp2_with fail
  go_still_tail 6, (by kernel_rfl)
  change wpList _ _ _ _ _ w.drew
  generalize w.drew = w2 at *
  go_wp2_with fail
  refine (kind_any B b _ K t _ HX.out HL.out).mono ?_
  rintro e w3 ⟨⟨u, rfl⟩, hP3, hT3⟩
  go_wp2
  go_end0
  exact ⟨⟨_, rfl⟩, hP3, T0.out.trans hT3⟩
set_option maxRecDepth 100000 in
set_option maxHeartbeats 2000000 in
theorem fun2_any (B b c1 c2 i : Nat) (l : List UInt8) (f : FunD) (v1 v3 v4 : Value) (K : Nat → Prop) (w : World) (h : WrX w B b l 0 K) (hc1 : Blk w c1 #[.pointer (some ⟨b, 0, none⟩)] 58) (hc2 : Blk w c2 #[.string f.name, v1, .int .i64 f.result, v3, v4] 54) (hv : RdRow 1 ElI B w v3 f.locals) (hi : i < f.locals.length) (hl : l.length ≤ 10000000) :
    Calls Try.prog 62 #[.int .i64 i, .pointer (some ⟨c1, 0, none⟩), .pointer (some ⟨c2, 0, none⟩)] w fun e' w' => (∃ u, e' = .returned u) ∧ WrP w' B b (andE (.ok l) (kindE (f.locals.getD i 0))) K ∧ WrT B K w w' := by
  have hg : f.locals.getD i 0 = f.locals[i] := by simp [List.getD_eq_getElem?_getD, hi]
  rw [hg]
  obtain ⟨a, cap, rfl, hmx, hel⟩ := hv
  obtain ⟨d, o, rfl, hd, e1, _⟩ := hel i hi
  rw [Nat.mul_one] at e1
  clear hel hg
  generalize f.locals[i] = t at *
  have hbw := h.bw
  have i1 : (0 : Int) ≤ (i : Int) ∧ (i : Int) < (f.locals.length : Int) := ⟨by omega, by omega⟩
  have i2 : 0 < f.locals.length := by omega
  generalize f.locals.length = n at *
  have d1 := hc1.val 0 rfl
  have d2 := hc2.val 3 rfl
  have HL : Hid (lenE (.ok l) 1000000000) := fun q e => by injection e with e; subst e; omega
  have HX : Hid (WrP w.drew B b (.ok l) K) := h.quiet ⟨1, rfl⟩
  have T0 : Hid (WrT B K w w.drew) := WrT.of (Below.refl _ _).drew
  clear h hbw hc1 hc2
  go_enter Try.func62, Try.ntmps62
  go_wp2_with fail
  go_still_tail 6, (by kernel_rfl)
  change wpList _ _ _ _ _ w.drew
  generalize w.drew = w2 at *
  go_wp2_with fail
  refine (kind_any B b _ K t _ HX.out HL.out).mono ?_
  rintro e w3 ⟨⟨u, rfl⟩, hP3, hT3⟩
  go_wp2
  go_end0
  exact ⟨⟨_, rfl⟩, hP3, T0.out.trans hT3⟩
set_option maxRecDepth 100000 in
set_option maxHeartbeats 2000000 in
theorem fun3_any (B b c1 c2 i : Nat) (l : List UInt8) (f : FunD) (v1 v3 v4 : Value) (K : Nat → Prop) (w : World) (h : WrX w B b l 0 K) (hc1 : Blk w c1 #[.pointer (some ⟨b, 0, none⟩)] 58) (hc2 : Blk w c2 #[.string f.name, v1, .int .i64 f.result, v3, v4] 54) (hv : RdRow 3 ElN B w v4 f.code) (hi : i < f.code.length) (hl : l.length ≤ 10000000) :
    Calls Try.prog 63 #[.int .i64 i, .pointer (some ⟨c1, 0, none⟩), .pointer (some ⟨c2, 0, none⟩)] w fun e' w' => (∃ u, e' = .returned u) ∧ WrP w' B b (andE (.ok l) (insE (f.code.getD i ins0))) K ∧ WrT B K w w' := by
  have hg : f.code.getD i ins0 = f.code[i] := by simp [List.getD_eq_getElem?_getD, hi]
  rw [hg]
  obtain ⟨a, cap, rfl, hmx, hel⟩ := hv
  obtain ⟨d, o, rfl, hd, e1, e2, e3, j1, j2, j3⟩ := hel i hi
  clear hel hg
  generalize f.code[i] = t at *
  have hbw := h.bw
  have i1 : (0 : Int) ≤ (i : Int) ∧ (i : Int) < (f.code.length : Int) := ⟨by omega, by omega⟩
  have i2 : 0 < f.code.length := by omega
  generalize f.code.length = n at *
  have d1 := hc1.val 0 rfl
  have d2 := hc2.val 4 rfl
  have IN := Lib.hid (fun W (X : WrX W B b l 0 K) => ins_any B b l K t W X j2 j3 (by omega))
  have HX : Hid (WrX w.drew B b l 0 K) := h.quiet ⟨1, rfl⟩
  have T0 : Hid (WrT B K w w.drew) := WrT.of (Below.refl _ _).drew
  clear h hbw hc1 hc2 j1 j2 j3
  obtain ⟨op, a, c⟩ := t
  go_enter Try.func63, Try.ntmps63
  go_wp2_with fail
  go_still_tail 6, (by kernel_rfl)
  change wpList _ _ _ _ _ w.drew
  generalize w.drew = w2 at *
  go_wp2_with fail
  refine (IN.out _ HX.out).mono ?_
  rintro e w3 ⟨⟨u, rfl⟩, hP3, hT3⟩
  go_wp2
  go_end0
  exact ⟨⟨_, rfl⟩, hP3, T0.out.trans hT3⟩
theorem rd_shape {α : Type} {sz B : Nat} {el : World → Nat → Nat → α → Prop} {w : World} {v : Value} {l : List α} (h : RdRow sz el B w v l) : ∃ a c, v = .slice a l.length c := by
  obtain ⟨a, c, e, _⟩ := h; exact ⟨a, c, e⟩
theorem codeOk_of {B : Nat} {w : World} {v : Value} {l : List InsD} (h : RdRow 3 ElN B w v l) : codeOk l := by
  obtain ⟨a, c, _, _, hel⟩ := h
  intro i hi
  obtain ⟨d, o, _, _, e⟩ := hel i hi
  have hg : l.getD i ins0 = l[i] := by simp [List.getD_eq_getElem?_getD, hi]
  rw [hg]; exact e.2.2.2.2.1
set_option maxRecDepth 100000 in
set_option maxHeartbeats 4000000 in
theorem fun_any (B b : Nat) (r : Res) (f : FunD) (v1 v3 v4 : Value) (K : Nat → Prop) (w : World) (h : WrP w B b r K) (g1 : RdRow 1 ElI B w v1 f.params) (g3 : RdRow 1 ElI B w v3 f.locals) (g4 : RdRow 3 ElN B w v4 f.code) (hl : lenE r 5000000) :
    Calls Try.prog 29 #[.pointer (some ⟨b, 0, none⟩), .agg #[.string f.name, v1, .int .i64 f.result, v3, v4]] w fun e' w' => (∃ u, e' = .returned u) ∧ WrP w' B b (andE r (funE f)) K ∧ WrT B K w w' := by
  have hbw : B ≤ w.heap.size := h.bw
  have hck := codeOk_of g4
  obtain ⟨hP, hb⟩ := two_boxes h (.cells #[.pointer (some ⟨b, 0, none⟩)] 58) (.cells #[.string f.name, v1, .int .i64 f.result, v3, v4] 54)
  have k1 : Blk ((w.alloc (.cells #[.pointer (some ⟨b, 0, none⟩)] 58)).alloc (.cells #[.string f.name, v1, .int .i64 f.result, v3, v4] 54)) w.heap.size #[.pointer (some ⟨b, 0, none⟩)] 58 := (Blk.new _ _ _).alloc _
  have k2 : Blk ((w.alloc (.cells #[.pointer (some ⟨b, 0, none⟩)] 58)).alloc (.cells #[.string f.name, v1, .int .i64 f.result, v3, v4] 54)) (w.heap.size + 1) #[.string f.name, v1, .int .i64 f.result, v3, v4] 54 := Blk.new' (by simp)
  have R1 := Lib.hid (fun W (hb' : Below B w W) => g1.keep hb' fun _ _ _ e r => r.keep hb' e)
  have R3 := Lib.hid (fun W (hb' : Below B w W) => g3.keep hb' fun _ _ _ e r => r.keep hb' e)
  have R4 := Lib.hid (fun W (hb' : Below B w W) => g4.keep hb' fun _ _ _ e r => r.keep hb' e)
  have bw2 := hb.mono hbw
  have c1 := k1.val 0 rfl
  have c2 := k2.val 0 rfl
  obtain ⟨a1, p1, s1⟩ := rd_shape g1
  obtain ⟨a3, p3, s3⟩ := rd_shape g3
  obtain ⟨a4, p4, s4⟩ := rd_shape g4
  have NM := Lib.hid (name_any B b r _ f.name _ hP (lenE_mono hl (by decide)))
  have HV := Lib.hid (And.intro s1 (And.intro s3 s4))
  have HB : Hid (B ≤ ((w.alloc (.cells #[.pointer (some ⟨b, 0, none⟩)] 58)).alloc (.cells #[.string f.name, v1, .int .i64 f.result, v3, v4] 54)).heap.size) := by unfold Hid; simp; omega
  have HT0 : Hid (WrT B K w ((w.alloc (.cells #[.pointer (some ⟨b, 0, none⟩)] 58)).alloc (.cells #[.string f.name, v1, .int .i64 f.result, v3, v4] 54))) := WrT.of hb
  clear hP h g1 g3 g4 s1 s3 s4 hb
  go_enter Try.func29, Try.ntmps29
  go_wp2_with fail
  clear c1 c2
  generalize (w.alloc (.cells #[.pointer (some ⟨b, 0, none⟩)] 58)).alloc (.cells #[.string f.name, v1, .int .i64 f.result, v3, v4] 54) = w2 at *
  refine NM.out.mono ?_
  rintro e w3 ⟨⟨u, rfl⟩, hP3, hT3⟩
  have r1 := hT3.kept k1 (.inr (.inl rfl))
  have r2 := hT3.kept k2 (.inl rfl)
  have B3 := bw2.trans (hT3.below HB.out)
  have hs3 := Nat.le_trans HB.out hT3.size
  have d1 := r1.val 0 rfl
  have d2 := r2.val 1 rfl
  rw [HV.out.1] at d2
  have l3 := lenE_and hl (lenE_name f.name)
  have ST := Lib.hid (list_anyFun1 B b w.heap.size (w.heap.size + 1) _ _ f.params.length 6 5000026 1 (fun i => kindE (f.params.getD i 0)) _ hP3 (by decide) l3 (by decide) (fun _ _ => lenE_kind _) (fun i l W hi hn hX hT hl => fun1_any B b _ _ i l f v1 v3 v4 _ W hX (hT.kept r1 (.inr (.inl rfl))) (hT.kept r2 (.inl rfl)) (R1.out W (B3.trans (hT.below hs3))) hi (by omega)))
  have HT := Lib.hid (HT0.out.trans (hT3.sub fun x hx => .inr (.inr hx)))
  have L3 := Lib.hid l3
  have HB3 := Lib.hid hs3
  have HB3' := Lib.hid B3
  clear hP3 hT3 k1 k2 l3 hs3 B3 bw2 HB NM HT0
  go_wp2_with fail
  refine ST.out.mono ?_
  rintro e w4 ⟨⟨u, rfl⟩, hP4, hT4⟩
  have k1 := hT4.kept r1 (.inr (.inl rfl))
  have k2 := hT4.kept r2 (.inl rfl)
  have B4 := HB3'.out.trans (hT4.below HB3.out)
  have hs4 := Nat.le_trans HB3.out hT4.size
  have d1 := k1.val 0 rfl
  have d2 := k2.val 2 rfl
  have l4 := lenE_and L3.out (lenE_kinds f.params 6 (by decide))
  have KD := Lib.hid (kind_any B b _ _ f.result _ hP4 (lenE_mono l4 (by decide)))
  have HT4 := Lib.hid (HT.out.trans (hT4.sub fun x hx => .inr (.inr hx)))
  have L4 := Lib.hid l4
  have HB4 := Lib.hid hs4
  have HB4' := Lib.hid B4
  clear hP4 hT4 r1 r2 l4 hs4 B4 ST HT L3 HB3 HB3'
  go_wp2_with fail
  refine KD.out.mono ?_
  rintro e w5 ⟨⟨u, rfl⟩, hP5, hT5⟩
  have r1 := hT5.kept k1 (.inr (.inl rfl))
  have r2 := hT5.kept k2 (.inl rfl)
  have B5 := HB4'.out.trans (hT5.below HB4.out)
  have hs5 := Nat.le_trans HB4.out hT5.size
  have d1 := r1.val 0 rfl
  have d2 := r2.val 3 rfl
  rw [HV.out.2.1] at d2
  have l5 := lenE_and L4.out (lenE_kind f.result)
  have ST := Lib.hid (list_anyFun2 B b w.heap.size (w.heap.size + 1) _ _ f.locals.length 16 _ 1 (fun i => kindE (f.locals.getD i 0)) _ hP5 (by decide) l5 (by decide) (fun _ _ => lenE_kind _) (fun i l W hi hn hX hT hl => fun2_any B b _ _ i l f v1 v3 v4 _ W hX (hT.kept r1 (.inr (.inl rfl))) (hT.kept r2 (.inl rfl)) (R3.out W (B5.trans (hT.below hs5))) hi (by omega)))
  have HT5 := Lib.hid (HT4.out.trans (hT5.sub fun x hx => .inr (.inr hx)))
  have L5 := Lib.hid l5
  have HB5 := Lib.hid hs5
  have HB5' := Lib.hid B5
  clear hP5 hT5 k1 k2 l5 hs5 B5 KD HT4 L4 HB4 HB4'
  go_wp2_with fail
  refine ST.out.mono ?_
  rintro e w6 ⟨⟨u, rfl⟩, hP6, hT6⟩
  have k1 := hT6.kept r1 (.inr (.inl rfl))
  have k2 := hT6.kept r2 (.inl rfl)
  have B6 := HB5'.out.trans (hT6.below HB5.out)
  have hs6 := Nat.le_trans HB5.out hT6.size
  have d1 := k1.val 0 rfl
  have d2 := k2.val 4 rfl
  rw [HV.out.2.2] at d2
  have l6 := lenE_and L5.out (lenE_kinds f.locals 16 (by decide))
  have ST2 := Lib.hid (list_anyFun3 B b w.heap.size (w.heap.size + 1) _ _ f.code.length 256 _ 21 (fun i => insE (f.code.getD i ins0)) _ hP6 (by decide) l6 (by decide) (fun i hi => lenE_ins _ (hck i hi)) (fun i l W hi hn hX hT hl => fun3_any B b _ _ i l f v1 v3 v4 _ W hX (hT.kept k1 (.inr (.inl rfl))) (hT.kept k2 (.inl rfl)) (R4.out W (B6.trans (hT.below hs6))) hi (by omega)))
  have HT6 := Lib.hid (HT5.out.trans (hT6.sub fun x hx => .inr (.inr hx)))
  clear hP6 hT6 r1 r2 l6 hs6 B6 ST HT5 L5 HB5 HB5'
  go_wp2_with fail
  refine ST2.out.mono ?_
  rintro e w7 ⟨⟨u, rfl⟩, hP7, hT7⟩
  go_wp2
  go_end0
  refine ⟨⟨_, rfl⟩, ?_, HT6.out.trans (hT7.sub fun x hx => .inr (.inr hx))⟩
  have e : andE r (funE f) = andE (andE (andE (andE (andE r (nameE f.name)) (kindsE f.params 6)) (kindE f.result)) (kindsE f.locals 16)) (codeE f.code) := by simp only [funE, andE_assoc]
  rw [e]
  exact hP7.sub fun x hx => .inr (.inr hx)
end Go.Proofs.Ytecpokegmfnlaaa
/- The document's sameInts of two rows of numbers. No condition. -/
namespace Go.Proofs.Ytecpokegmfnlaaa
open Go.RowKit
set_option linter.unusedVariables false
theorem list_eq_of {α : Type} {l1 l2 : List α} (h : l1.length = l2.length) (he : ∀ i, (h1 : i < l1.length) → (h2 : i < l2.length) → l1[i] = l2[i]) : l1 = l2 := List.ext_getElem h he
theorem rd_at {α : Type} {sz B : Nat} {el : World → Nat → Nat → α → Prop} {w : World} {a : Option Addr} {n c i : Nat} {l : List α} (h : RdRow sz el B w (.slice a n c) l) (hi : i < l.length) : ∃ b o, a = some ⟨b, o, none⟩ ∧ b < B ∧ el w b (o + i * sz) l[i] := by
  obtain ⟨a', c', q, _, h3⟩ := h
  injection q with q1 q2 q3
  subst q1
  exact h3 i hi
set_option maxRecDepth 100000 in
set_option maxHeartbeats 4000000 in
theorem rsints_any (w : World) (B : Nat) (v1 v2 : Value) (l1 l2 : List Int) (h1 : RdRow 1 ElI B w v1 l1) (h2 : RdRow 1 ElI B w v2 l2) :
    Calls Try.prog 48 #[v1, v2] w fun e w' => e = .returned (.bool (decide (l1 = l2))) ∧ Quiet w w' := by
  have h1' := h1
  have h2' := h2
  obtain ⟨a1, c1, rfl⟩ := rd_shape h1'
  obtain ⟨a2, c2, rfl⟩ := rd_shape h2'
  have M1 : l1.length ≤ maxLen := by obtain ⟨_, _, _, h, _⟩ := h1; exact h
  unfold maxLen at M1
  have R1 := Lib.hid (fun i (hi : i < l1.length) => rd_at h1 hi)
  have R2 := Lib.hid (fun i (hi : i < l2.length) => rd_at h2 hi)
  clear h1 h2 h1' h2'
  by_cases hn : l1.length = l2.length
  · have hne : ((l1.length : Int) != (l2.length : Int)) = false := by simp [hn]
    go_enter Try.func48, Try.ntmps48
    go_wp2
    go_loopw [5] (fun i wr => ∃ k : Nat, k ≤ l1.length ∧ i = .int .i64 k ∧ Quiet w wr ∧ ∀ j, (j1 : j < l1.length) → (j2 : j < l2.length) → j < k → l1[j] = l2[j]) (fun i _ => l1.length - (intOf i).toNat)
    case atStart => exact ⟨0, Nat.zero_le _, rfl, Quiet.refl _, fun j _ _ h => absurd h (by omega)⟩
    case round =>
      obtain ⟨k, hk, rfl, hq, hj⟩ := hrel
      have HJ := Lib.hid hj
      clear hj
      by_cases hlt : k < l1.length
      · have hlt2 : k < l2.length := by omega
        obtain ⟨b1, o1, rfl, _, p1, _⟩ := R1.out k hlt
        obtain ⟨b2, o2, rfl, _, p2, _⟩ := R2.out k hlt2
        rw [Nat.mul_one] at p1 p2
        have p1 := (hq.cell _).trans p1
        have p2 := (hq.cell _).trans p2
        have hlt' : (k : Int) < (l1.length : Int) := by omega
        have hlt2' : (k : Int) < (l2.length : Int) := by omega
        have hge' : (0 : Int) ≤ (k : Int) := by omega
        have hne2 := Lib.hid hn
        by_cases hx : l1[k] = l2[k]
        · have hx' : (l1[k] != l2[k]) = false := by simp [hx]
          have HX : Hid (∀ (j1 : k < l1.length) (j2 : k < l2.length), l1[k]'j1 = l2[k]'j2) := fun _ _ => hx
          clear hx
          generalize l1[k] = z1 at *
          generalize l2[k] = z2 at *
          go_wp2
          go_quiet (fail)
          go_wp2
          go_roundw
          case rel => exact ⟨k + 1, by omega, by go_num, hq.trans ⟨_, rfl⟩, fun j j1 j2 j3 => by
            rcases Nat.lt_or_ge j k with h | h
            · exact HJ.out j j1 j2 h
            · obtain rfl : j = k := by omega
              exact HX.out j1 j2⟩
          case measure => simp [intOf]; omega
        · have hx' : (l1[k] != l2[k]) = true := by simp [hx]
          have HX : Hid (¬ l1 = l2) := fun h => hx (by subst h; rfl)
          clear hx
          generalize l1[k] = z1 at *
          generalize l2[k] = z2 at *
          go_wp2
          go_quiet (fail)
          go_wp2
          go_ret
          exact ⟨ret_bool (by simp [HX.out]), hq.trans ⟨_, rfl⟩⟩
      · have hlt' : ¬ (k : Int) < (l1.length : Int) := by omega
        go_wp2
        go_ret
        exact ⟨ret_bool (by simp [list_eq_of hn fun i i1 i2 => HJ.out i i1 i2 (by omega)]), hq⟩
  · have hne : ((l1.length : Int) != (l2.length : Int)) = true := by simp; omega
    have HX : Hid (¬ l1 = l2) := fun h => hn (by rw [h])
    go_enter Try.func48, Try.ntmps48
    go_wp2
    go_ret
    exact ⟨ret_bool (by simp [HX.out]), Quiet.refl _⟩
end Go.Proofs.Ytecpokegmfnlaaa
/- Fields and instructions compared. No condition. -/
namespace Go.Proofs.Ytecpokegmfnlaaa
open Go.RowKit
set_option linter.unusedVariables false
theorem fields2 {l : List Field} {t u : TypeId} (h : l.map (fun f => (f.type, f.offset, f.name == "_")) = [(t, 0, false), (u, 1, false)]) :
    ∃ f g, l = [f, g] ∧ (f.type = t ∧ f.offset = 0 ∧ ¬ f.name = "_") ∧ (g.type = u ∧ g.offset = 1 ∧ ¬ g.name = "_") := by
  rcases l with _ | ⟨f0, _ | ⟨f1, _ | ⟨f2, l⟩⟩⟩ <;> simp only [List.map_cons, List.map_nil, List.cons.injEq, Prod.mk.injEq, beq_eq_false_iff_ne, ne_eq, and_true, reduceCtorEq, and_false] at h
  exact ⟨f0, f1, rfl, h.1, h.2⟩
theorem fields3 {l : List Field} {t u : TypeId} (h : l.map (fun f => (f.type, f.offset, f.name == "_")) = [(t, 0, false), (u, 1, false), (u, 2, false)]) :
    ∃ f g k, l = [f, g, k] ∧ (f.type = t ∧ f.offset = 0 ∧ ¬ f.name = "_") ∧ (g.type = u ∧ g.offset = 1 ∧ ¬ g.name = "_") ∧ (k.type = u ∧ k.offset = 2 ∧ ¬ k.name = "_") := by
  rcases l with _ | ⟨f0, _ | ⟨f1, _ | ⟨f2, _ | ⟨f3, l⟩⟩⟩⟩ <;> simp only [List.map_cons, List.map_nil, List.cons.injEq, Prod.mk.injEq, beq_eq_false_iff_ne, ne_eq, and_true, reduceCtorEq, and_false] at h
  exact ⟨f0, f1, f2, rfl, h.1, h.2⟩
theorem neq_fld (w : World) (a b : ByteArray) (x y : Int) :
    (binOp .neq 50 (.agg #[.string a, .int .i64 x]) (.agg #[.string b, .int .i64 y])).run Try.prog w = .ok (.bool (!(a.toList == b.toList && x == y))) w := by
  rw [run_neq_struct, run_equalIn_agg w 9999 _ _ _ (by kernel_rfl) (by kernel_rfl)]
  obtain ⟨f, g, hl, ⟨f1, f2, f3⟩, g1, g2, g3⟩ := fields2 (l := (Try.prog.fieldsOf 50).toList) (t := 9) (u := 3) (by kernel_rfl)
  rw [hl]
  have hi : Try.prog.underlying 3 = some (.int .i64) := by kernel_rfl
  have hs : Try.prog.underlying 9 = some .string := by kernel_rfl
  simp [Op.eqFields, f1, f2, f3, g1, g2, g3, go_sem, hi, hs]
  by_cases h1 : a.toList = b.toList <;> by_cases h2 : x = y <;> simp [h1, h2]
theorem guard_fld : Try.prog.eqGuardType Try.prog.depth 50 = false := by kernel_rfl
theorem neq_ins (w : World) (a b c x y z : Int) :
    (binOp .neq 23 (.agg #[.int .i64 a, .int .i64 b, .int .i64 c]) (.agg #[.int .i64 x, .int .i64 y, .int .i64 z])).run Try.prog w = .ok (.bool (!(a == x && (b == y && c == z)))) w := by
  rw [run_neq_struct, run_equalIn_agg w 9999 _ _ _ (by kernel_rfl) (by kernel_rfl)]
  obtain ⟨f, g, k, hl, ⟨f1, f2, f3⟩, ⟨g1, g2, g3⟩, k1, k2, k3⟩ := fields3 (l := (Try.prog.fieldsOf 23).toList) (t := 3) (u := 2) (by kernel_rfl)
  rw [hl]
  have hi : Try.prog.underlying 3 = some (.int .i64) := by kernel_rfl
  have hj : Try.prog.underlying 2 = some (.int .i64) := by kernel_rfl
  simp [Op.eqFields, f1, f2, f3, g1, g2, g3, k1, k2, k3, go_sem, hi, hj]
  by_cases h1 : a = x <;> by_cases h2 : b = y <;> by_cases h3 : c = z <;> simp [h1, h2, h3]
theorem guard_ins : Try.prog.eqGuardType Try.prog.depth 23 = false := by kernel_rfl
/-! what of a program is compared -/
def fldP (f : FldD) : List UInt8 × Int := (f.name.toList, f.ty)
def clsP (c : ClsD) : List UInt8 × List (List UInt8 × Int) := (c.name.toList, c.fields.map fldP)
def insP (i : InsD) : Int × Int × Int := (i.op, i.a, i.b)
def funP (f : FunD) : List UInt8 × List Int × Int × List Int × List (Int × Int × Int) := (f.name.toList, f.params, f.result, f.locals, f.code.map insP)
def prgP (p : PrgD) : List (List UInt8 × List (List UInt8 × Int)) × List (List UInt8 × List Int × Int × List Int × List (Int × Int × Int)) := (p.classes.map clsP, p.funcs.map funP)
theorem map_eq_of {α β : Type} {f : α → β} {l1 l2 : List α} (h : l1.length = l2.length) (he : ∀ i, (h1 : i < l1.length) → (h2 : i < l2.length) → f l1[i] = f l2[i]) : l1.map f = l2.map f :=
  list_eq_of (by simpa using h) fun i h1 h2 => by simpa using he i (by simpa using h1) (by simpa using h2)
theorem map_ne_at {α β : Type} {f : α → β} {l1 l2 : List α} {i : Nat} (h1 : i < l1.length) (h2 : i < l2.length) (h : ¬ f l1[i] = f l2[i]) : ¬ l1.map f = l2.map f := fun e => h (by
  have q : (l1.map f)[i]? = (l2.map f)[i]? := by rw [e]
  simpa [List.getElem?_eq_getElem h1, List.getElem?_eq_getElem h2] using q)
theorem map_ne_len {α β : Type} {f : α → β} {l1 l2 : List α} (h : ¬ l1.length = l2.length) : ¬ l1.map f = l2.map f := fun e => h (by simpa using congrArg List.length e)
end Go.Proofs.Ytecpokegmfnlaaa
/- The document's SameClass and Same of classes. No condition. -/
namespace Go.Proofs.Ytecpokegmfnlaaa
open Go.RowKit
set_option linter.unusedVariables false
theorem fldP_eq {f g : FldD} : (f.name.toList == g.name.toList && f.ty == g.ty) = decide (fldP f = fldP g) := by
  unfold fldP
  by_cases h1 : f.name.toList = g.name.toList <;> by_cases h2 : f.ty = g.ty <;> simp [h1, h2]
theorem clsP_eq {f g : ClsD} : decide (clsP f = clsP g) = (decide (f.name.toList = g.name.toList) && decide (f.fields.map fldP = g.fields.map fldP)) := by
  unfold clsP
  by_cases h1 : f.name.toList = g.name.toList <;> by_cases h2 : f.fields.map fldP = g.fields.map fldP <;> simp [h1, h2]
set_option maxRecDepth 100000 in
set_option maxHeartbeats 4000000 in
theorem rsclass_any (w : World) (B : Nat) (v1 v2 : Value) (c d : ClsD) (hB : B ≤ w.heap.size) (h1 : RdRow 2 ElF B w v1 c.fields) (h2 : RdRow 2 ElF B w v2 d.fields) :
    Calls Try.prog 55 #[.agg #[.string c.name, v1], .agg #[.string d.name, v2]] w fun e w' => e = .returned (.bool (decide (clsP c = clsP d))) ∧ Below w.heap.size w w' := by
  have h1' := h1
  have h2' := h2
  obtain ⟨a1, q1, rfl⟩ := rd_shape h1'
  obtain ⟨a2, q2, rfl⟩ := rd_shape h2'
  have M1 : c.fields.length ≤ maxLen := by obtain ⟨_, _, _, h, _⟩ := h1; exact h
  unfold maxLen at M1
  have k1 : Blk ((w.alloc (.cells #[.string c.name, .slice a1 c.fields.length q1] 48)).alloc (.cells #[.string d.name, .slice a2 d.fields.length q2] 48)) w.heap.size #[.string c.name, .slice a1 c.fields.length q1] 48 := (Blk.new _ _ _).alloc _
  have k2 : Blk ((w.alloc (.cells #[.string c.name, .slice a1 c.fields.length q1] 48)).alloc (.cells #[.string d.name, .slice a2 d.fields.length q2] 48)) (w.heap.size + 1) #[.string d.name, .slice a2 d.fields.length q2] 48 := Blk.new' (by simp)
  have hb0 : Below w.heap.size w ((w.alloc (.cells #[.string c.name, .slice a1 c.fields.length q1] 48)).alloc (.cells #[.string d.name, .slice a2 d.fields.length q2] 48)) := ((Below.refl _ _).alloc (Nat.le_refl _) _).alloc (by simp) _
  have g1 := h1.keep (hb0.mono hB) fun _ _ _ e r => r.keep (hb0.mono hB) e
  have g2 := h2.keep (hb0.mono hB) fun _ _ _ e r => r.keep (hb0.mono hB) e
  have R1 := Lib.hid (fun i (hi : i < c.fields.length) => rd_at g1 hi)
  have R2 := Lib.hid (fun i (hi : i < d.fields.length) => rd_at g2 hi)
  have hb := Lib.hid hb0
  have CP := Lib.hid (clsP_eq (f := c) (g := d))
  clear h1 h2 h1' h2' hb0 g1 g2
  have c0 := k1.val 0 rfl
  have c1 := k1.val 1 rfl
  have d0 := k2.val 0 rfl
  have d1 := k2.val 1 rfl
  have hG := guard_fld
  by_cases hx : c.name.toList = d.name.toList
  · have hx' : (c.name.toList == d.name.toList) = true := by simp [hx]
    have HX := Lib.hid hx
    clear hx
    by_cases hn : c.fields.length = d.fields.length
    · have hne : ((c.fields.length : Int) != (d.fields.length : Int)) = false := by simp [hn]
      have HN := Lib.hid hn
      clear hn
      go_enter Try.func55, Try.ntmps55
      go_wp2
      generalize World.alloc (World.alloc _ _) _ = W at *
      generalize hS : w.heap.size = S at *
      have HS := Lib.hid hS
      clear hS
      go_loopw [5] (fun i wr => ∃ k : Nat, k ≤ c.fields.length ∧ i = .int .i64 k ∧ Quiet W wr ∧ ∀ j, (j1 : j < c.fields.length) → (j2 : j < d.fields.length) → j < k → fldP c.fields[j] = fldP d.fields[j]) (fun i _ => c.fields.length - (intOf i).toNat)
      case atStart => exact ⟨0, Nat.zero_le _, rfl, Quiet.refl _, fun j _ _ h => absurd h (by omega)⟩
      case round =>
        obtain ⟨k, hk, rfl, hq, hj⟩ := hrel
        have HJ := Lib.hid hj
        clear hj
        have c1 := (hq.cell _).trans c1
        have d1 := (hq.cell _).trans d1
        by_cases hlt : k < c.fields.length
        · have hlt2 : k < d.fields.length := by have := HN.out; omega
          obtain ⟨b1, o1, rfl, _, p1, p1', _⟩ := R1.out k hlt
          obtain ⟨b2, o2, rfl, _, p2, p2', _⟩ := R2.out k hlt2
          have p1 := (hq.cell _).trans p1
          have p2 := (hq.cell _).trans p2
          have p1' := (hq.cell _).trans p1'
          have p2' := (hq.cell _).trans p2'
          have hlt' : (k : Int) < (c.fields.length : Int) := by omega
          have hlt2' : (k : Int) < (d.fields.length : Int) := by omega
          have hge' : (0 : Int) ≤ (k : Int) := by omega
          have FP := Lib.hid (@fldP_eq c.fields[k] d.fields[k])
          have hE := fun W => neq_fld W c.fields[k].name d.fields[k].name c.fields[k].ty d.fields[k].ty
          have HM : Hid (¬ fldP c.fields[k] = fldP d.fields[k] → ¬ c.fields.map fldP = d.fields.map fldP) := map_ne_at hlt hlt2
          have HE : Hid (∀ (j1 : k < c.fields.length) (j2 : k < d.fields.length), fldP (c.fields[k]'j1) = fldP (c.fields[k]'hlt) ∧ fldP (d.fields[k]'j2) = fldP (d.fields[k]'hlt2)) := fun _ _ => ⟨rfl, rfl⟩
          generalize c.fields[k] = z1 at *
          generalize d.fields[k] = z2 at *
          rcases z1 with ⟨zn, zt⟩
          rcases z2 with ⟨yn, yt⟩
          simp only at p1 p2 p1' p2' hE
          by_cases hy : fldP ⟨zn, zt⟩ = fldP ⟨yn, yt⟩
          · have hv : (zn.toList == yn.toList && zt == yt) = true := by rw [show (zn.toList == yn.toList && zt == yt) = decide (fldP ⟨zn, zt⟩ = fldP ⟨yn, yt⟩) from FP.out]; simpa using hy
            have HY := Lib.hid hy
            clear hy
            go_wp2
            go_quiet (fail)
            go_wp2
            go_roundw
            case rel => exact ⟨k + 1, by omega, by go_num, hq.trans ⟨_, rfl⟩, fun j j1 j2 j3 => by
              rcases Nat.lt_or_ge j k with h | h
              · exact HJ.out j j1 j2 h
              · obtain rfl : j = k := by omega
                exact (HE.out j1 j2).1.trans (HY.out.trans (HE.out j1 j2).2.symm)⟩
            case measure => simp [intOf]; omega
          · have hv : (zn.toList == yn.toList && zt == yt) = false := by rw [show (zn.toList == yn.toList && zt == yt) = decide (fldP ⟨zn, zt⟩ = fldP ⟨yn, yt⟩) from FP.out]; simpa using hy
            have HY := Lib.hid hy
            clear hy
            go_wp2
            go_quiet (fail)
            go_wp2
            go_ret
            exact ⟨ret_bool (by rw [CP.out]; simp [HM.out HY.out]), by first | (rw [HS.out]; exact hb.out.trans (Quiet.below (hq.trans ⟨_, rfl⟩))) | exact hb.out.trans (Quiet.below (hq.trans ⟨_, rfl⟩))⟩
        · have hlt' : ¬ (k : Int) < (c.fields.length : Int) := by omega
          go_wp2
          go_ret
          exact ⟨ret_bool (by rw [CP.out]; simp [HX.out, map_eq_of HN.out fun i i1 i2 => HJ.out i i1 i2 (by omega)]), by first | (rw [HS.out]; exact hb.out.trans (Quiet.below hq)) | exact hb.out.trans (Quiet.below hq)⟩
    · have hne : ((c.fields.length : Int) != (d.fields.length : Int)) = true := by simp; omega
      have HM := Lib.hid (map_ne_len (f := fldP) hn)
      go_enter Try.func55, Try.ntmps55
      go_wp2
      go_ret
      exact ⟨ret_bool (by rw [CP.out]; simp [HM.out]), hb.out⟩
  · have hx' : (c.name.toList == d.name.toList) = false := by simpa using hx
    have HX := Lib.hid hx
    clear hx
    go_enter Try.func55, Try.ntmps55
    go_wp2
    go_ret
    exact ⟨ret_bool (by rw [CP.out]; simp [HX.out]), hb.out⟩
end Go.Proofs.Ytecpokegmfnlaaa
/- The document's Same of two rows of classes. No condition. -/
namespace Go.Proofs.Ytecpokegmfnlaaa
open Go.RowKit
set_option linter.unusedVariables false
set_option maxRecDepth 100000 in
set_option maxHeartbeats 4000000 in
theorem rsclasses_any (w : World) (B : Nat) (v1 v2 : Value) (l1 l2 : List ClsD) (hB : B ≤ w.heap.size) (h1 : RdRow 2 (ElC B) B w v1 l1) (h2 : RdRow 2 (ElC B) B w v2 l2) :
    Calls Try.prog 21 #[v1, v2] w fun e w' => e = .returned (.bool (decide (l1.map clsP = l2.map clsP))) ∧ Below w.heap.size w w' := by
  have h1' := h1
  have h2' := h2
  obtain ⟨a1, c1, rfl⟩ := rd_shape h1'
  obtain ⟨a2, c2, rfl⟩ := rd_shape h2'
  have M1 : l1.length ≤ maxLen := by obtain ⟨_, _, _, h, _⟩ := h1; exact h
  unfold maxLen at M1
  have R1 := Lib.hid (fun W (hb : Below B w W) i (hi : i < l1.length) => rd_at (h1.keep hb fun _ _ _ e r => r.keep hb e) hi)
  have R2 := Lib.hid (fun W (hb : Below B w W) i (hi : i < l2.length) => rd_at (h2.keep hb fun _ _ _ e r => r.keep hb e) hi)
  have HB := Lib.hid hB
  clear h1 h2 h1' h2' hB
  by_cases hn : l1.length = l2.length
  · have hne : ((l1.length : Int) != (l2.length : Int)) = false := by simp [hn]
    have HN := Lib.hid hn
    clear hn
    go_enter Try.func21, Try.ntmps21
    go_wp2
    go_loopw [5] (fun i wr => ∃ k : Nat, k ≤ l1.length ∧ i = .int .i64 k ∧ Below w.heap.size w wr ∧ ∀ j, (j1 : j < l1.length) → (j2 : j < l2.length) → j < k → clsP l1[j] = clsP l2[j]) (fun i _ => l1.length - (intOf i).toNat)
    case atStart => exact ⟨0, Nat.zero_le _, rfl, Below.refl _ _, fun j _ _ h => absurd h (by omega)⟩
    case round =>
      obtain ⟨k, hk, rfl, hq, hj⟩ := hrel
      have HJ := Lib.hid hj
      have HQ := Lib.hid hq
      clear hj hq
      by_cases hlt : k < l1.length
      · have hlt2 : k < l2.length := by have := HN.out; omega
        have hbw := HQ.out.mono HB.out
        obtain ⟨b1, o1, rfl, _, p1, x1, y1, z1⟩ := R1.out wr hbw k hlt
        obtain ⟨b2, o2, rfl, _, p2, x2, y2, z2⟩ := R2.out wr hbw k hlt2
        obtain ⟨fa1, fc1, hx1⟩ := rd_shape z1
        obtain ⟨fa2, fc2, hx2⟩ := rd_shape z2
        have hlt' : (k : Int) < (l1.length : Int) := by omega
        have i1 : (0 : Int) ≤ (k : Int) ∧ (k : Int) < (l1.length : Int) := ⟨by omega, by omega⟩
        have i2 : (0 : Int) ≤ (k : Int) ∧ (k : Int) < (l2.length : Int) := ⟨by omega, by omega⟩
        have m1 : 0 < l1.length := by omega
        have m2 : 0 < l2.length := by omega
        have CL := Lib.hid (rsclass_any wr.drew B x1 x2 l1[k] l2[k] (Nat.le_trans HB.out HQ.out.size) (z1.keep (Below.refl _ _).drew fun _ _ _ e r => r.keep (Below.refl _ _).drew e) (z2.keep (Below.refl _ _).drew fun _ _ _ e r => r.keep (Below.refl _ _).drew e))
        have HM : Hid (¬ clsP l1[k] = clsP l2[k] → ¬ l1.map clsP = l2.map clsP) := map_ne_at hlt hlt2
        have HE : Hid (∀ (j1 : k < l1.length) (j2 : k < l2.length), clsP (l1[k]'j1) = clsP (l1[k]'hlt) ∧ clsP (l2[k]'j2) = clsP (l2[k]'hlt2)) := fun _ _ => ⟨rfl, rfl⟩
        have HT : Hid (Below wr.heap.size wr wr.drew) := (Below.refl _ _).drew
        generalize l1[k] = e1 at *
        generalize l2[k] = e2 at *
        clear z1 z2 hx1 hx2 hbw
        go_wp2_with fail
        go_still_tail 8, (by kernel_rfl)
        change wpList _ _ _ _ _ wr.drew
        generalize wr.drew = w5 at *
        go_wp2_with fail
        refine CL.out.mono ?_
        rintro e9 w6 ⟨rfl, hb6⟩
        have HB6 := Lib.hid (HT.out.trans (hb6.mono HT.out.size))
        clear hb6 CL
        by_cases hy : clsP e1 = clsP e2
        · have hv : decide (clsP e1 = clsP e2) = true := by simpa using hy
          have HY := Lib.hid hy
          clear hy
          go_wp2
          go_roundw
          case rel => exact ⟨k + 1, by omega, by go_num, HQ.out.trans (HB6.out.mono HQ.out.size), fun j j1 j2 j3 => by
            rcases Nat.lt_or_ge j k with h | h
            · exact HJ.out j j1 j2 h
            · obtain rfl : j = k := by omega
              exact (HE.out j1 j2).1.trans (HY.out.trans (HE.out j1 j2).2.symm)⟩
          case measure => simp [intOf]; omega
        · have hv : decide (clsP e1 = clsP e2) = false := by simpa using hy
          have HY := Lib.hid hy
          clear hy
          go_wp2
          go_ret
          exact ⟨ret_bool (by simp [HM.out HY.out]), HQ.out.trans (HB6.out.mono HQ.out.size)⟩
      · have hlt' : ¬ (k : Int) < (l1.length : Int) := by omega
        go_wp2
        go_ret
        exact ⟨ret_bool (by simp [map_eq_of HN.out fun i i1 i2 => HJ.out i i1 i2 (by omega)]), HQ.out⟩
  · have hne : ((l1.length : Int) != (l2.length : Int)) = true := by simp; omega
    have HM := Lib.hid (map_ne_len (f := clsP) hn)
    go_enter Try.func21, Try.ntmps21
    go_wp2
    go_ret
    exact ⟨ret_bool (by simp [HM.out]), Below.refl _ _⟩
end Go.Proofs.Ytecpokegmfnlaaa
