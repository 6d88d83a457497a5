/- Texts of this seat, one behind the other: each says at its head what it holds. No condition of its own. -/
import Derived.Test.YtecpokegmfnlaaaDoorGCodeNames04
/- code's writer: a function, and all: Encode. Condition: what is written lies in blocks below its own. -/
namespace Go.Proofs.YtecpokegmfnlaaaDoor
open Go.RowKit
set_option linter.unusedVariables false
def kindsE (l : List Int) (most : Nat) : Res := listE l.length most (fun i => kindE (l.getD i 0))
def ins0 : InsD := ⟨0, 0, 0⟩
def codeE (l : List InsD) : Res := listE l.length 256 (fun i => insE (l.getD i ins0))
def funE (f : FunD) : Res := andE (andE (andE (andE (nameE f.name) (kindsE f.params 6)) (kindE f.result)) (kindsE f.locals 16)) (codeE f.code)
theorem lenE_kinds (l : List Int) (most : Nat) (h : most < 1000000) : lenE (kindsE l most) (10 + most * 1) := lenE_list h fun _ _ => lenE_kind _
def codeOk (l : List InsD) : Prop := ∀ i, i < l.length → I64 (l.getD i ins0).a
theorem lenE_code (l : List InsD) (h : codeOk l) : lenE (codeE l) 5386 := lenE_list (by decide) fun i hi => lenE_ins _ (h i hi)
theorem lenE_fun (f : FunD) (h : codeOk f.code) : lenE (funE f) 5600 :=
  lenE_mono (lenE_and (lenE_and (lenE_and (lenE_and (lenE_name _) (lenE_kinds _ _ (by decide))) (lenE_kind _)) (lenE_kinds _ _ (by decide))) (lenE_code _ h)) (by decide)
def funV (f : FunD) (v1 v3 v4 : Value) : Array Value := #[.string f.name, v1, .int .i64 f.result, v3, v4]
set_option maxRecDepth 100000 in
set_option maxHeartbeats 2000000 in
theorem fun1_any (B b c1 c2 i : Nat) (l : List UInt8) (f : FunD) (v1 v3 v4 : Value) (K : Nat → Prop) (w : World) (h : WrX w B b l 0 K) (hc1 : Blk w c1 #[.pointer (some ⟨b, 0, none⟩)] 45) (hc2 : Blk w c2 #[.string f.name, v1, .int .i64 f.result, v3, v4] 36) (hv : RdRow 1 ElI B w v1 f.params) (hi : i < f.params.length) (hl : l.length ≤ 10000000) :
    Calls Tryd.prog 23 #[.int .i64 i, .pointer (some ⟨c1, 0, none⟩), .pointer (some ⟨c2, 0, none⟩)] w fun e' w' => (∃ u, e' = .returned u) ∧ WrP w' B b (andE (.ok l) (kindE (f.params.getD i 0))) K ∧ WrT B K w w' := by
  have hg : f.params.getD i 0 = f.params[i] := by simp [List.getD_eq_getElem?_getD, hi]
  rw [hg]
  obtain ⟨a, cap, rfl, hmx, hel⟩ := hv
  obtain ⟨d, o, rfl, hd, e1, _⟩ := hel i hi
  rw [Nat.mul_one] at e1
  clear hel hg
  generalize f.params[i] = t at *
  have hbw := h.bw
  have i1 : (0 : Int) ≤ (i : Int) ∧ (i : Int) < (f.params.length : Int) := ⟨by omega, by omega⟩
  have i2 : 0 < f.params.length := by omega
  generalize f.params.length = n at *
  have d1 := hc1.val 0 rfl
  have d2 := hc2.val 1 rfl
  have HL : Hid (lenE (.ok l) 1000000000) := fun q e => by injection e with e; subst e; omega
  have HX : Hid (WrP w.drew B b (.ok l) K) := h.quiet ⟨1, rfl⟩
  have T0 : Hid (WrT B K w w.drew) := WrT.of (Below.refl _ _).drew
  clear h hbw hc1 hc2
  go_enter Tryd.func23, Tryd.ntmps23
  go_wp2_with fail
  go_still_tail 6, (by kernel_rfl)
  change wpList _ _ _ _ _ w.drew
  generalize w.drew = w2 at *
  go_wp2_with fail
  refine (kind_any B b _ K t _ HX.out HL.out).mono ?_
  rintro e w3 ⟨⟨u, rfl⟩, hP3, hT3⟩
  go_wp2
  go_end0
  exact ⟨⟨_, rfl⟩, hP3, T0.out.trans hT3⟩
set_option maxRecDepth 100000 in
set_option maxHeartbeats 2000000 in
theorem fun2_any (B b c1 c2 i : Nat) (l : List UInt8) (f : FunD) (v1 v3 v4 : Value) (K : Nat → Prop) (w : World) (h : WrX w B b l 0 K) (hc1 : Blk w c1 #[.pointer (some ⟨b, 0, none⟩)] 45) (hc2 : Blk w c2 #[.string f.name, v1, .int .i64 f.result, v3, v4] 36) (hv : RdRow 1 ElI B w v3 f.locals) (hi : i < f.locals.length) (hl : l.length ≤ 10000000) :
    Calls Tryd.prog 24 #[.int .i64 i, .pointer (some ⟨c1, 0, none⟩), .pointer (some ⟨c2, 0, none⟩)] w fun e' w' => (∃ u, e' = .returned u) ∧ WrP w' B b (andE (.ok l) (kindE (f.locals.getD i 0))) K ∧ WrT B K w w' := by
  have hg : f.locals.getD i 0 = f.locals[i] := by simp [List.getD_eq_getElem?_getD, hi]
  rw [hg]
  obtain ⟨a, cap, rfl, hmx, hel⟩ := hv
  obtain ⟨d, o, rfl, hd, e1, _⟩ := hel i hi
  rw [Nat.mul_one] at e1
  clear hel hg
  generalize f.locals[i] = t at *
  have hbw := h.bw
  have i1 : (0 : Int) ≤ (i : Int) ∧ (i : Int) < (f.locals.length : Int) := ⟨by omega, by omega⟩
  have i2 : 0 < f.locals.length := by omega
  generalize f.locals.length = n at *
  have d1 := hc1.val 0 rfl
  have d2 := hc2.val 3 rfl
  have HL : Hid (lenE (.ok l) 1000000000) := fun q e => by injection e with e; subst e; omega
  have HX : Hid (WrP w.drew B b (.ok l) K) := h.quiet ⟨1, rfl⟩
  have T0 : Hid (WrT B K w w.drew) := WrT.of (Below.refl _ _).drew
  clear h hbw hc1 hc2
  go_enter Tryd.func24, Tryd.ntmps24
  go_wp2_with fail
  go_still_tail 6, (by kernel_rfl)
  change wpList _ _ _ _ _ w.drew
  generalize w.drew = w2 at *
  go_wp2_with fail
  refine (kind_any B b _ K t _ HX.out HL.out).mono ?_
  rintro e w3 ⟨⟨u, rfl⟩, hP3, hT3⟩
  go_wp2
  go_end0
  exact ⟨⟨_, rfl⟩, hP3, T0.out.trans hT3⟩
set_option maxRecDepth 100000 in
set_option maxHeartbeats 2000000 in
theorem fun3_any (B b c1 c2 i : Nat) (l : List UInt8) (f : FunD) (v1 v3 v4 : Value) (K : Nat → Prop) (w : World) (h : WrX w B b l 0 K) (hc1 : Blk w c1 #[.pointer (some ⟨b, 0, none⟩)] 45) (hc2 : Blk w c2 #[.string f.name, v1, .int .i64 f.result, v3, v4] 36) (hv : RdRow 3 ElN B w v4 f.code) (hi : i < f.code.length) (hl : l.length ≤ 10000000) :
    Calls Tryd.prog 25 #[.int .i64 i, .pointer (some ⟨c1, 0, none⟩), .pointer (some ⟨c2, 0, none⟩)] w fun e' w' => (∃ u, e' = .returned u) ∧ WrP w' B b (andE (.ok l) (insE (f.code.getD i ins0))) K ∧ WrT B K w w' := by
  have hg : f.code.getD i ins0 = f.code[i] := by simp [List.getD_eq_getElem?_getD, hi]
  rw [hg]
  obtain ⟨a, cap, rfl, hmx, hel⟩ := hv
  obtain ⟨d, o, rfl, hd, e1, e2, e3, j1, j2, j3⟩ := hel i hi
  clear hel hg
  generalize f.code[i] = t at *
  have hbw := h.bw
  have i1 : (0 : Int) ≤ (i : Int) ∧ (i : Int) < (f.code.length : Int) := ⟨by omega, by omega⟩
  have i2 : 0 < f.code.length := by omega
  generalize f.code.length = n at *
  have d1 := hc1.val 0 rfl
  have d2 := hc2.val 4 rfl
  have IN := Lib.hid (fun W (X : WrX W B b l 0 K) => ins_any B b l K t W X j2 j3 (by omega))
  have HX : Hid (WrX w.drew B b l 0 K) := h.quiet ⟨1, rfl⟩
  have T0 : Hid (WrT B K w w.drew) := WrT.of (Below.refl _ _).drew
  clear h hbw hc1 hc2 j1 j2 j3
  obtain ⟨op, a, c⟩ := t
  go_enter Tryd.func25, Tryd.ntmps25
  go_wp2_with fail
  go_still_tail 6, (by kernel_rfl)
  change wpList _ _ _ _ _ w.drew
  generalize w.drew = w2 at *
  go_wp2_with fail
  refine (IN.out _ HX.out).mono ?_
  rintro e w3 ⟨⟨u, rfl⟩, hP3, hT3⟩
  go_wp2
  go_end0
  exact ⟨⟨_, rfl⟩, hP3, T0.out.trans hT3⟩
theorem rd_shape {α : Type} {sz B : Nat} {el : World → Nat → Nat → α → Prop} {w : World} {v : Value} {l : List α} (h : RdRow sz el B w v l) : ∃ a c, v = .slice a l.length c := by
  obtain ⟨a, c, e, _⟩ := h; exact ⟨a, c, e⟩
theorem codeOk_of {B : Nat} {w : World} {v : Value} {l : List InsD} (h : RdRow 3 ElN B w v l) : codeOk l := by
  obtain ⟨a, c, _, _, hel⟩ := h
  intro i hi
  obtain ⟨d, o, _, _, e⟩ := hel i hi
  have hg : l.getD i ins0 = l[i] := by simp [List.getD_eq_getElem?_getD, hi]
  rw [hg]; exact e.2.2.2.2.1
set_option maxRecDepth 100000 in
set_option maxHeartbeats 4000000 in
theorem fun_any (B b : Nat) (r : Res) (f : FunD) (v1 v3 v4 : Value) (K : Nat → Prop) (w : World) (h : WrP w B b r K) (g1 : RdRow 1 ElI B w v1 f.params) (g3 : RdRow 1 ElI B w v3 f.locals) (g4 : RdRow 3 ElN B w v4 f.code) (hl : lenE r 5000000) :
    Calls Tryd.prog 18 #[.pointer (some ⟨b, 0, none⟩), .agg #[.string f.name, v1, .int .i64 f.result, v3, v4]] w fun e' w' => (∃ u, e' = .returned u) ∧ WrP w' B b (andE r (funE f)) K ∧ WrT B K w w' := by
  have hbw : B ≤ w.heap.size := h.bw
  have hck := codeOk_of g4
  obtain ⟨hP, hb⟩ := two_boxes h (.cells #[.pointer (some ⟨b, 0, none⟩)] 45) (.cells #[.string f.name, v1, .int .i64 f.result, v3, v4] 36)
  have k1 : Blk ((w.alloc (.cells #[.pointer (some ⟨b, 0, none⟩)] 45)).alloc (.cells #[.string f.name, v1, .int .i64 f.result, v3, v4] 36)) w.heap.size #[.pointer (some ⟨b, 0, none⟩)] 45 := (Blk.new _ _ _).alloc _
  have k2 : Blk ((w.alloc (.cells #[.pointer (some ⟨b, 0, none⟩)] 45)).alloc (.cells #[.string f.name, v1, .int .i64 f.result, v3, v4] 36)) (w.heap.size + 1) #[.string f.name, v1, .int .i64 f.result, v3, v4] 36 := Blk.new' (by simp)
  have R1 := Lib.hid (fun W (hb' : Below B w W) => g1.keep hb' fun _ _ _ e r => r.keep hb' e)
  have R3 := Lib.hid (fun W (hb' : Below B w W) => g3.keep hb' fun _ _ _ e r => r.keep hb' e)
  have R4 := Lib.hid (fun W (hb' : Below B w W) => g4.keep hb' fun _ _ _ e r => r.keep hb' e)
  have bw2 := hb.mono hbw
  have c1 := k1.val 0 rfl
  have c2 := k2.val 0 rfl
  obtain ⟨a1, p1, s1⟩ := rd_shape g1
  obtain ⟨a3, p3, s3⟩ := rd_shape g3
  obtain ⟨a4, p4, s4⟩ := rd_shape g4
  have NM := Lib.hid (name_any B b r _ f.name _ hP (lenE_mono hl (by decide)))
  have HV := Lib.hid (And.intro s1 (And.intro s3 s4))
  have HB : Hid (B ≤ ((w.alloc (.cells #[.pointer (some ⟨b, 0, none⟩)] 45)).alloc (.cells #[.string f.name, v1, .int .i64 f.result, v3, v4] 36)).heap.size) := by unfold Hid; simp; omega
  have HT0 : Hid (WrT B K w ((w.alloc (.cells #[.pointer (some ⟨b, 0, none⟩)] 45)).alloc (.cells #[.string f.name, v1, .int .i64 f.result, v3, v4] 36))) := WrT.of hb
  clear hP h g1 g3 g4 s1 s3 s4 hb
  go_enter Tryd.func18, Tryd.ntmps18
  go_wp2_with fail
  clear c1 c2
  generalize (w.alloc (.cells #[.pointer (some ⟨b, 0, none⟩)] 45)).alloc (.cells #[.string f.name, v1, .int .i64 f.result, v3, v4] 36) = w2 at *
  refine NM.out.mono ?_
  rintro e w3 ⟨⟨u, rfl⟩, hP3, hT3⟩
  have r1 := hT3.kept k1 (.inr (.inl rfl))
  have r2 := hT3.kept k2 (.inl rfl)
  have B3 := bw2.trans (hT3.below HB.out)
  have hs3 := Nat.le_trans HB.out hT3.size
  have d1 := r1.val 0 rfl
  have d2 := r2.val 1 rfl
  rw [HV.out.1] at d2
  have l3 := lenE_and hl (lenE_name f.name)
  have ST := Lib.hid (list_anyFun1 B b w.heap.size (w.heap.size + 1) _ _ f.params.length 6 5000026 1 (fun i => kindE (f.params.getD i 0)) _ hP3 (by decide) l3 (by decide) (fun _ _ => lenE_kind _) (fun i l W hi hn hX hT hl => fun1_any B b _ _ i l f v1 v3 v4 _ W hX (hT.kept r1 (.inr (.inl rfl))) (hT.kept r2 (.inl rfl)) (R1.out W (B3.trans (hT.below hs3))) hi (by omega)))
  have HT := Lib.hid (HT0.out.trans (hT3.sub fun x hx => .inr (.inr hx)))
  have L3 := Lib.hid l3
  have HB3 := Lib.hid hs3
  have HB3' := Lib.hid B3
  clear hP3 hT3 k1 k2 l3 hs3 B3 bw2 HB NM HT0
  go_wp2_with fail
  refine ST.out.mono ?_
  rintro e w4 ⟨⟨u, rfl⟩, hP4, hT4⟩
  have k1 := hT4.kept r1 (.inr (.inl rfl))
  have k2 := hT4.kept r2 (.inl rfl)
  have B4 := HB3'.out.trans (hT4.below HB3.out)
  have hs4 := Nat.le_trans HB3.out hT4.size
  have d1 := k1.val 0 rfl
  have d2 := k2.val 2 rfl
  have l4 := lenE_and L3.out (lenE_kinds f.params 6 (by decide))
  have KD := Lib.hid (kind_any B b _ _ f.result _ hP4 (lenE_mono l4 (by decide)))
  have HT4 := Lib.hid (HT.out.trans (hT4.sub fun x hx => .inr (.inr hx)))
  have L4 := Lib.hid l4
  have HB4 := Lib.hid hs4
  have HB4' := Lib.hid B4
  clear hP4 hT4 r1 r2 l4 hs4 B4 ST HT L3 HB3 HB3'
  go_wp2_with fail
  refine KD.out.mono ?_
  rintro e w5 ⟨⟨u, rfl⟩, hP5, hT5⟩
  have r1 := hT5.kept k1 (.inr (.inl rfl))
  have r2 := hT5.kept k2 (.inl rfl)
  have B5 := HB4'.out.trans (hT5.below HB4.out)
  have hs5 := Nat.le_trans HB4.out hT5.size
  have d1 := r1.val 0 rfl
  have d2 := r2.val 3 rfl
  rw [HV.out.2.1] at d2
  have l5 := lenE_and L4.out (lenE_kind f.result)
  have ST := Lib.hid (list_anyFun2 B b w.heap.size (w.heap.size + 1) _ _ f.locals.length 16 _ 1 (fun i => kindE (f.locals.getD i 0)) _ hP5 (by decide) l5 (by decide) (fun _ _ => lenE_kind _) (fun i l W hi hn hX hT hl => fun2_any B b _ _ i l f v1 v3 v4 _ W hX (hT.kept r1 (.inr (.inl rfl))) (hT.kept r2 (.inl rfl)) (R3.out W (B5.trans (hT.below hs5))) hi (by omega)))
  have HT5 := Lib.hid (HT4.out.trans (hT5.sub fun x hx => .inr (.inr hx)))
  have L5 := Lib.hid l5
  have HB5 := Lib.hid hs5
  have HB5' := Lib.hid B5
  clear hP5 hT5 k1 k2 l5 hs5 B5 KD HT4 L4 HB4 HB4'
  go_wp2_with fail
  refine ST.out.mono ?_
  rintro e w6 ⟨⟨u, rfl⟩, hP6, hT6⟩
  have k1 := hT6.kept r1 (.inr (.inl rfl))
  have k2 := hT6.kept r2 (.inl rfl)
  have B6 := HB5'.out.trans (hT6.below HB5.out)
  have hs6 := Nat.le_trans HB5.out hT6.size
  have d1 := k1.val 0 rfl
  have d2 := k2.val 4 rfl
  rw [HV.out.2.2] at d2
  have l6 := lenE_and L5.out (lenE_kinds f.locals 16 (by decide))
  have ST2 := Lib.hid (list_anyFun3 B b w.heap.size (w.heap.size + 1) _ _ f.code.length 256 _ 21 (fun i => insE (f.code.getD i ins0)) _ hP6 (by decide) l6 (by decide) (fun i hi => lenE_ins _ (hck i hi)) (fun i l W hi hn hX hT hl => fun3_any B b _ _ i l f v1 v3 v4 _ W hX (hT.kept k1 (.inr (.inl rfl))) (hT.kept k2 (.inl rfl)) (R4.out W (B6.trans (hT.below hs6))) hi (by omega)))
  have HT6 := Lib.hid (HT5.out.trans (hT6.sub fun x hx => .inr (.inr hx)))
  clear hP6 hT6 r1 r2 l6 hs6 B6 ST HT5 L5 HB5 HB5'
  go_wp2_with fail
  refine ST2.out.mono ?_
  rintro e w7 ⟨⟨u, rfl⟩, hP7, hT7⟩
  go_wp2
  go_end0
  refine ⟨⟨_, rfl⟩, ?_, HT6.out.trans (hT7.sub fun x hx => .inr (.inr hx))⟩
  have e : andE r (funE f) = andE (andE (andE (andE (andE r (nameE f.name)) (kindsE f.params 6)) (kindE f.result)) (kindsE f.locals 16)) (codeE f.code) := by simp only [funE, andE_assoc]
  rw [e]
  exact hP7.sub fun x hx => .inr (.inr hx)
end Go.Proofs.YtecpokegmfnlaaaDoor
/- What code.Encode returns of any program. Condition: it reads as a program. -/
namespace Go.Proofs.YtecpokegmfnlaaaDoor
open Go.RowKit
set_option linter.unusedVariables false
def cls0 : ClsD := ⟨.empty, []⟩
def fun0 : FunD := ⟨.empty, [], 0, [], []⟩
def magicL : List UInt8 := [87, 68, 82, 49]
def clssE (p : PrgD) : Res := listE p.classes.length 16 (fun i => clsE (p.classes.getD i cls0))
def funsE (p : PrgD) : Res := listE p.funcs.length 16 (fun i => funE (p.funcs.getD i fun0))
def encE (p : PrgD) : Res := andE (andE (.ok magicL) (clssE p)) (funsE p)
set_option maxRecDepth 100000 in
set_option maxHeartbeats 2000000 in
theorem enc1_any (B b c1 c2 i : Nat) (l : List UInt8) (p : PrgD) (v1 v2 : Value) (K : Nat → Prop) (w : World) (h : WrX w B b l 0 K) (hc1 : Blk w c1 #[.pointer (some ⟨b, 0, none⟩)] 45) (hc2 : Blk w c2 #[v1, v2] 40) (hv : RdRow 2 (ElC B) B w v1 p.classes) (hi : i < p.classes.length) (hl : l.length ≤ 1000000) :
    Calls Tryd.prog 15 #[.int .i64 i, .pointer (some ⟨c1, 0, none⟩), .pointer (some ⟨c2, 0, none⟩)] w fun e' w' => (∃ u, e' = .returned u) ∧ WrP w' B b (andE (.ok l) (clsE (p.classes.getD i cls0))) K ∧ WrT B K w w' := by
  have hg : p.classes.getD i cls0 = p.classes[i] := by simp [List.getD_eq_getElem?_getD, hi]
  rw [hg]
  obtain ⟨a, cap, rfl, hmx, hel⟩ := hv
  obtain ⟨d, o, rfl, hd, e1, v, e2, e3⟩ := hel i hi
  clear hel hg
  generalize p.classes[i] = t at *
  have hbw := h.bw
  have i1 : (0 : Int) ≤ (i : Int) ∧ (i : Int) < (p.classes.length : Int) := ⟨by omega, by omega⟩
  have i2 : 0 < p.classes.length := by omega
  generalize p.classes.length = n at *
  have d1 := hc1.val 0 rfl
  have d2 := hc2.val 0 rfl
  have QB : Below B w w.drew := (Below.refl _ _).drew
  have CL := Lib.hid (cls_any B b (.ok l) t v K w.drew (h.quiet ⟨1, rfl⟩) (e3.keep QB fun _ _ _ e r => r.keep QB e) (fun q e => by injection e with e; subst e; omega))
  have T0 : Hid (WrT B K w w.drew) := WrT.of (Below.refl _ _).drew
  obtain ⟨va, vc, hva⟩ := rd_shape e3
  subst hva
  clear h hbw hc1 hc2 e3 QB
  go_enter Tryd.func15, Tryd.ntmps15
  go_wp2_with fail
  go_still_tail 6, (by kernel_rfl)
  change wpList _ _ _ _ _ w.drew
  generalize w.drew = w2 at *
  go_wp2_with fail
  refine CL.out.mono ?_
  rintro e w3 ⟨⟨u, rfl⟩, hP3, hT3⟩
  go_wp2
  go_end0
  exact ⟨⟨_, rfl⟩, hP3, T0.out.trans hT3⟩
set_option maxRecDepth 100000 in
set_option maxHeartbeats 2000000 in
theorem enc2_any (B b c1 c2 i : Nat) (l : List UInt8) (p : PrgD) (v1 v2 : Value) (K : Nat → Prop) (w : World) (h : WrX w B b l 0 K) (hc1 : Blk w c1 #[.pointer (some ⟨b, 0, none⟩)] 45) (hc2 : Blk w c2 #[v1, v2] 40) (hv : RdRow 5 (ElU B) B w v2 p.funcs) (hi : i < p.funcs.length) (hl : l.length ≤ 1000000) :
    Calls Tryd.prog 17 #[.int .i64 i, .pointer (some ⟨c1, 0, none⟩), .pointer (some ⟨c2, 0, none⟩)] w fun e' w' => (∃ u, e' = .returned u) ∧ WrP w' B b (andE (.ok l) (funE (p.funcs.getD i fun0))) K ∧ WrT B K w w' := by
  have hg : p.funcs.getD i fun0 = p.funcs[i] := by simp [List.getD_eq_getElem?_getD, hi]
  rw [hg]
  obtain ⟨a, cap, rfl, hmx, hel⟩ := hv
  obtain ⟨d, o, rfl, hd, e1, ⟨u1, e2, g1⟩, ⟨e3, _⟩, ⟨u3, e4, g3⟩, u4, e5, g4⟩ := hel i hi
  clear hel hg
  generalize p.funcs[i] = t at *
  have hbw := h.bw
  have i1 : (0 : Int) ≤ (i : Int) ∧ (i : Int) < (p.funcs.length : Int) := ⟨by omega, by omega⟩
  have i2 : 0 < p.funcs.length := by omega
  generalize p.funcs.length = n at *
  have d1 := hc1.val 0 rfl
  have d2 := hc2.val 1 rfl
  have QB : Below B w w.drew := (Below.refl _ _).drew
  have CL := Lib.hid (fun_any B b (.ok l) t u1 u3 u4 K w.drew (h.quiet ⟨1, rfl⟩) (g1.keep QB fun _ _ _ e r => r.keep QB e) (g3.keep QB fun _ _ _ e r => r.keep QB e) (g4.keep QB fun _ _ _ e r => r.keep QB e) (fun q e => by injection e with e; subst e; omega))
  have T0 : Hid (WrT B K w w.drew) := WrT.of (Below.refl _ _).drew
  obtain ⟨_, _, hva⟩ := rd_shape g1
  subst hva
  obtain ⟨_, _, hva⟩ := rd_shape g3
  subst hva
  obtain ⟨_, _, hva⟩ := rd_shape g4
  subst hva
  clear h hbw hc1 hc2 g1 g3 g4 QB
  go_enter Tryd.func17, Tryd.ntmps17
  go_wp2_with fail
  go_still_tail 6, (by kernel_rfl)
  change wpList _ _ _ _ _ w.drew
  generalize w.drew = w2 at *
  go_wp2_with fail
  refine CL.out.mono ?_
  rintro e w3 ⟨⟨u, rfl⟩, hP3, hT3⟩
  go_wp2
  go_end0
  exact ⟨⟨_, rfl⟩, hP3, T0.out.trans hT3⟩
set_option maxRecDepth 100000 in
set_option maxHeartbeats 2000000 in
theorem number_first (B b g n : Nat) (K : Nat → Prop) (w : World) (hb : Blk w b #[.slice (some ⟨g, 0, none⟩) 4 4, .int .i64 0] 47) (hg : Hid (∀ j u, (u8L magicL)[j]? = some u → w.cell? ((⟨g, 0, none⟩ : Addr).add j) = some u)) (nb : ¬ K b) (bb : B ≤ b) (bw : B ≤ w.heap.size) (lt : ∀ x, K x → x < w.heap.size) (hn : n < 128) :
    Calls Tryd.prog 19 #[.pointer (some ⟨b, 0, none⟩), .int .u64 n] w fun e' w' => (∃ u, e' = .returned u) ∧ WrX w' B b (magicL ++ numB n) 0 K ∧ WrT B K w w' := by
  obtain ⟨i0, hi, hz0, hz1, hz2⟩ := info_parts info_u8
  have c0 := hb.val 0 rfl
  have lb := hb.lt
  have hn' : ¬ (128 : Int) ≤ (n : Int) := by omega
  have HO := Lib.hid (lo8 n hn)
  have HG : Hid (∀ j u, (u8L magicL)[j]? = some u → (w.alloc (.cells #[Value.int .u8 (n : Int)] 5)).cell? ((⟨g, 0, none⟩ : Addr).add j) = some u) := fun j u hu => by
    have h1 := hg.out j u hu
    rw [World.cell?_alloc_lt _ _ _ (World.block_lt_of_cell? w _ h1), h1]
  have fin : ∀ (v' : Value) (w1 : World), w1.ownsRow (w.alloc (.cells #[Value.int .u8 (n : Int)] 5)).heap.size 5 1 v' (4 + 1) (u8L magicL ++ [Value.int .u8 ((UInt8.ofNat n).toNat : Int)]) → (w.alloc (.cells #[Value.int .u8 (n : Int)] 5)).grownBy w1 none →
      Blk w1 b #[.slice (some ⟨g, 0, none⟩) 4 4, .int .i64 0] 47 ∧ WrX (w1.setCell ⟨b, 0, none⟩ v') B b (magicL ++ [UInt8.ofNat n]) 0 K ∧ WrT B K w (w1.setCell ⟨b, 0, none⟩ v') := by
    intro v' w1 hown hgrow
    have hT1 : Touch (fun y => B ≤ y ∧ ¬ K y) w w1 := ((Touch.refl _ w).alloc _).grown hgrow (fun k hk => by cases hk)
    have hb1 : Blk w1 b #[.slice (some ⟨g, 0, none⟩) 4 4, .int .i64 0] 47 := (hb.alloc _).of (hgrow.block b (by simp; omega) (by simp))
    have hT2 : Touch (fun y => y = b) w1 (w1.setCell ⟨b, 0, none⟩ v') := (Touch.refl (fun y => y = b) w1).setCell (p := ⟨b, 0, none⟩) rfl _
    have hsz : (w.alloc (.cells #[Value.int .u8 (n : Int)] 5)).heap.size = w.heap.size + 1 := by simp
    obtain ⟨e1, e2⟩ := hown
    rcases e2 with e2 | ⟨q, cap, cur, a1, a2, a3, a4⟩
    · exact absurd e2.2 (by decide)
    · refine ⟨hb1, ⟨⟨v', hb1.set 0 v', ⟨by simp [u8L, magicL], .inr ⟨q, cap, cur, a1, by omega, ?_, by simpa [u8L, magicL] using a4⟩⟩, fun q' hq => ?_⟩, nb, bb, Nat.le_trans bw (Nat.le_trans hT1.size hT2.size), fun y hy => Nat.lt_of_lt_of_le (lt y hy) (Nat.le_trans hT1.size hT2.size)⟩, Touch.trans hT1 (hT2.mono fun y _ e => by subst e; exact ⟨bb, nb⟩)⟩
      · rw [hT2.block q (Array.getElem?_eq_some_iff.1 a3).1 (by omega)]; exact a3
      · rw [a1] at hq
        obtain rfl : q = q' := Option.some.inj hq
        exact ⟨fun r => by have := lt _ r; omega, by omega⟩
  have HF := Lib.hid fin
  clear fin hg bb bw
  go_enter Tryd.func19, Tryd.ntmps19
  go_wp2
  go_loopw [1] (fun x wr => x = .int .u64 n ∧ wr = w) (fun x _ => 0)
  case atStart => exact ⟨rfl, rfl⟩
  case round =>
    obtain ⟨rfl, rfl⟩ := hrel
    go_wp2_with (at_builtin; refine wpList_append_grows _ rfl _ _ 27 rfl 5 i0 (.int .u8 0) 1 1 Tryd.underlying27 hi hz0 hz1 hz2 rfl (by decide) (some ⟨g, 0, none⟩) 4 4 (u8L magicL) rfl (fun h => by cases h) rfl (fun b hb => by obtain rfl := Option.some.inj hb; exact HG.out) ⟨wr.heap.size, 0, none⟩ 1 1 [Value.int .u8 ((UInt8.ofNat n).toNat : Int)] rfl rfl (by rw [← HO.out]; exact one_new _ _ _) (by simp [Value.oneCell']) (by decide) (by decide) (by decide) ?_; intro v' w1 hown' hgrow; obtain ⟨ga, gc, rfl⟩ := row_shape hown'; obtain ⟨hb1, hX1, hT1⟩ := HF.out _ _ hown' hgrow; have f1 := hb1.frozen 0; have g1 := hb1.val 0 rfl; clear hown' hgrow hb1 hb)
    go_end0
    exact ⟨⟨_, rfl⟩, by rw [numB_lo hn]; exact hX1, hT1⟩
/-- bytes in a row of the call's own, or an error -/
def EncPost (r : Res) (w : World) (e : Ending) (w' : World) : Prop := (match r with | .ok l => ∃ v, e = .returned (.tuple #[v, .int .i64 0]) ∧ w'.ownsRow w.heap.size 5 1 v l.length (u8L l) | .error x => x ≠ 0 ∧ e = .returned (.tuple #[.slice none 0 0, .int .i64 x])) ∧ Below w.heap.size w w'
theorem run_conv_bytes (w : World) (C : Array Value) (n m : Nat) : (convert 27 27 (.slice (some ⟨w.heap.size, 0, none⟩) n m)).run Tryd.prog (w.alloc (.cells C 5)) = .ok (.slice (some ⟨w.heap.size, 0, none⟩) n m) (w.alloc (.cells C 5 (C.size, C.size + 1))) := by
  have hsh : (w.alloc (.cells C 5)).shape? w.heap.size = some (5, C.size) := by
    have : (w.alloc (.cells C 5)).heap[w.heap.size]? = some (.cells C 5) := by
      show (w.heap.push (.cells C 5))[w.heap.size]? = _
      simp
    unfold World.shape?
    rw [this]
  have hfr : (w.alloc (.cells C 5)).freeze ⟨w.heap.size, C.size, none⟩ 1 = w.alloc (.cells C 5 (C.size, C.size + 1)) := by
    have hm : ∀ (a : Array Obj) (x : Obj) (f : Obj → Obj), (a.push x).modify a.size f = a.push (f x) := by
      intro a x f
      apply Array.ext
      · simp
      · intro i h1 h2
        simp only [Array.getElem_modify, Array.getElem_push]
        by_cases h : a.size = i
        · subst h
          simp
        · have hi : i < a.size := by simp at h1; omega
          simp [h, hi]
    unfold World.freeze
    rw [if_neg (by decide)]
    show ({ w.alloc (.cells C 5) with heap := (w.heap.push (.cells C 5)).modify w.heap.size _ } : World) = _
    rw [hm]
    rfl
  simp [convert, run_underlying Tryd.underlying27, run_underlying Tryd.underlying5, markStringish, hsh]
  exact hfr
theorem list_first (B b c1 c2 n M : Nat) (K : Nat → Prop) (f : Nat → Res) (w : World) (h : WrE w B b 0 K) (NB : n < 128 → Calls Tryd.prog 19 #[.pointer (some ⟨b, 0, none⟩), .int .u64 n] w fun e' w' => (∃ u, e' = .returned u) ∧ WrX w' B b (magicL ++ numB n) 0 K ∧ WrT B K w w')
    (hM : M ≤ 1000000) (hf : ∀ i, i < n → lenE (f i) M) (hst : StepOk 15 c1 c2 B b K w n 16 4 M f) :
    Calls Tryd.prog 14 #[.pointer (some ⟨b, 0, none⟩), .int .i64 n, .int .i64 16, .func (.func 15) #[] #[.pointer (some ⟨c1, 0, none⟩), .pointer (some ⟨c2, 0, none⟩)]] w fun e' w' => (∃ u, e' = .returned u) ∧ WrP w' B b (andE (.ok magicL) (listE n 16 f)) K ∧ WrT B K w w' := by
  by_cases hn : n ≤ 16
  · exact list_okEnc1 B b c1 c2 magicL K n 16 4 M f w h (NB (by omega)) hn (by decide) (by decide) (by omega) hf hst
  · refine (list_bigEnc1 B b c1 c2 K n 16 w h (by omega)).mono fun e' w' ⟨hu, hX, hT⟩ => ⟨hu, ?_, hT⟩
    rw [listE, if_pos (by omega)]; exact ⟨by decide, hX⟩
theorem funs_ok {B : Nat} {w : World} {v : Value} {l : List FunD} (h : RdRow 5 (ElU B) B w v l) : ∀ i, i < l.length → lenE (funE (l.getD i fun0)) 5600 := by
  obtain ⟨a, c, _, _, hel⟩ := h
  intro i hi
  obtain ⟨d, o, _, _, _, _, _, _, u4, _, g4⟩ := hel i hi
  have hg : l.getD i fun0 = l[i] := by simp [List.getD_eq_getElem?_getD, hi]
  rw [hg]; exact lenE_fun _ (codeOk_of g4)
/-- what Encode has laid when it comes to its first list -/
theorem enc_laid (w : World) (s1 s2 : Value) {W : World} (hW : W = ((((w.alloc (.cells #[s1, s2] 40)).alloc (.cells #[.int .u8 87, .int .u8 68, .int .u8 82, .int .u8 49] 5 (4, 5))).alloc (.cells #[.slice (some ⟨w.heap.size + 1, 0, none⟩) 4 4, .int .i64 0] 47)).alloc (.cells #[.pointer (some ⟨w.heap.size + 1 + 1, 0, none⟩)] 45))) :
    Blk W (w.heap.size + 1 + 1) #[.slice (some ⟨w.heap.size + 1, 0, none⟩) 4 4, .int .i64 0] 47 ∧ Blk W (w.heap.size + 1 + 1 + 1) #[.pointer (some ⟨w.heap.size + 1 + 1, 0, none⟩)] 45 ∧ Blk W w.heap.size #[s1, s2] 40 ∧
    (∀ j u, (u8L magicL)[j]? = some u → W.cell? ((⟨w.heap.size + 1, 0, none⟩ : Addr).add j) = some u) ∧ Below w.heap.size w W ∧ W.heap.size = w.heap.size + 4 := by
  subst hW
  refine ⟨(Blk.new' (by simp)).alloc _, Blk.new' (by simp), (((Blk.new _ _ _).alloc _).alloc _).alloc _, fun j u hu => ?_, ((((Below.refl _ _).alloc (Nat.le_refl _) _).alloc (by simp) _).alloc (by simp; omega) _).alloc (by simp; omega) _, by simp⟩
  have hb : ((((w.alloc (.cells #[s1, s2] 40)).alloc (.cells #[.int .u8 87, .int .u8 68, .int .u8 82, .int .u8 49] 5 (4, 5))).alloc (.cells #[.slice (some ⟨w.heap.size + 1, 0, none⟩) 4 4, .int .i64 0] 47)).alloc (.cells #[.pointer (some ⟨w.heap.size + 1 + 1, 0, none⟩)] 45)).heap[w.heap.size + 1]? = some (.cells #[.int .u8 87, .int .u8 68, .int .u8 82, .int .u8 49] 5 (4, 5)) := by
    rw [Below.heap_alloc _ _ _ (by simp), Below.heap_alloc _ _ _ (by simp), show w.heap.size + 1 = (w.alloc (.cells #[s1, s2] 40)).heap.size by simp]
    exact heap_alloc_new _ _
  exact World.news_of_block (cs := #[.int .u8 87, .int .u8 68, .int .u8 82, .int .u8 49]) hb j u hu
set_option maxRecDepth 100000 in
set_option maxHeartbeats 4000000 in
theorem encode_any (p : PrgD) (v1 v2 : Value) (w : World) (B0 : Nat) (hB0 : B0 ≤ w.heap.size) (h : RdPrg B0 w v1 v2 p) :
    Calls Tryd.prog 11 #[.agg #[v1, v2]] w (EncPost (encE p) w) := by
  obtain ⟨a1, p1, s1⟩ := rd_shape h.1
  obtain ⟨a2, p2, s2⟩ := rd_shape h.2
  subst s1 s2
  have hcv : (convert 27 27 (.slice (some ⟨w.heap.size + 1, 0, none⟩) 4 4)).run Tryd.prog ((w.alloc (.cells #[.slice a1 p.classes.length p1, .slice a2 p.funcs.length p2] 40)).alloc (.cells #[.int .u8 87, .int .u8 68, .int .u8 82, .int .u8 49] 5)) = .ok (.slice (some ⟨w.heap.size + 1, 0, none⟩) 4 4) ((w.alloc (.cells #[.slice a1 p.classes.length p1, .slice a2 p.funcs.length p2] 40)).alloc (.cells #[.int .u8 87, .int .u8 68, .int .u8 82, .int .u8 49] 5 (4, 5))) := by
    have := run_conv_bytes (w.alloc (.cells #[.slice a1 p.classes.length p1, .slice a2 p.funcs.length p2] 40)) #[.int .u8 87, .int .u8 68, .int .u8 82, .int .u8 49] 4 4
    simpa using this
  have RP := Lib.hid (fun W (hb : Below w.heap.size w W) => ((h.mono hB0).keep hb))
  have HFU := Lib.hid (funs_ok (h.mono hB0).2)
  clear h hB0
  go_enter Tryd.func11, Tryd.ntmps11
  go_wp2_with fail
  clear hcv
  generalize hW : World.alloc _ _ = W
  obtain ⟨kb, kc1, kc2, hg, hbel, hsz⟩ := enc_laid w _ _ hW.symm
  clear hW
  generalize hS : w.heap.size = S at *
  have hE : WrE W S (S + 1 + 1) 0 (fun x => x = S + 1 + 1 + 1 ∨ x = S) := ⟨⟨_, kb⟩, by omega, by omega, by omega, fun x hx => by omega⟩
  have ST := Lib.hid (list_first S (S + 1 + 1) (S + 1 + 1 + 1) S p.classes.length 441 _ (fun i => clsE (p.classes.getD i cls0)) W hE (fun hn => number_first S _ _ _ _ W kb hg hE.nb hE.bb hE.bw hE.lt hn) (by decide) (fun i _ => lenE_cls _)
    (fun i l W' hi hn hX hT hl => enc1_any S _ _ _ i l p _ _ _ W' hX (hT.kept kc1 (.inl rfl)) (hT.kept kc2 (.inr rfl)) (RP.out W' (hbel.trans (hT.below hE.bw))).1 hi (by omega)))
  have hHE := Lib.hid hE
  have hHB := Lib.hid hbel
  have HS := Lib.hid hsz
  clear hg kb hE hbel hsz
  refine ST.out.mono ?_
  rintro e w1 ⟨⟨u, rfl⟩, hP1, hT1⟩
  have r1 := hT1.kept kc1 (.inl rfl)
  have r2 := hT1.kept kc2 (.inr rfl)
  have d1 := r1.val 0 rfl
  have d2 := r2.val 1 rfl
  have hb1 := hHB.out.trans (hT1.below hHE.out.bw)
  have hs1 := Nat.le_trans hHE.out.bw hT1.size
  have l1 : lenE (andE (.ok magicL) (clssE p)) 7070 := lenE_mono (lenE_and (M := 4) (fun q e => by injection e with e; subst e; decide) (lenE_list (by decide) fun i _ => lenE_cls _)) (by decide)
  have ST2 := Lib.hid (list_anyEnc2 S (S + 1 + 1) (S + 1 + 1 + 1) S _ _ p.funcs.length 16 7070 5600 (fun i => funE (p.funcs.getD i fun0)) w1 hP1 (by decide) l1 (by decide) HFU.out
    (fun i l W' hi hn hX hT hl => enc2_any S _ _ _ i l p _ _ _ W' hX (hT.kept r1 (.inl rfl)) (hT.kept r2 (.inr rfl)) (RP.out W' (hb1.trans (hT.below hs1))).2 hi (by omega)))
  have hHB1 := Lib.hid (And.intro hb1 hs1)
  clear ST hP1 hT1 hb1 hs1 l1 kc1 kc2
  go_wp2_with fail
  refine ST2.out.mono ?_
  rintro e w2 ⟨⟨u, rfl⟩, hP2, hT2⟩
  have k1 := hT2.kept r1 (.inl rfl)
  have d1 := k1.val 0 rfl
  have hb2 := Lib.hid (hHB1.out.1.trans (hT2.below hHB1.out.2))
  clear ST2 r1 r2 d2 hT2 k1
  obtain ⟨x, c0, cf, hcase⟩ := hP2.cell
  clear hP2
  rcases hcase with ⟨e0, m, hm1, hX1⟩ | ⟨e0, hm1, hX1⟩
  · obtain rfl : x = 0 := by simpa using e0
    obtain ⟨⟨v, h1, h2, h3⟩, _⟩ := hX1
    have c1 := h1.val 0 rfl
    obtain ⟨va, vc, rfl⟩ := row_shape h2
    have HM : Hid (encE p = .ok m) := hm1
    have HO := Lib.hid h2
    clear h1 h2 h3 hm1 e0
    go_wp2
    go_ret2
    refine ⟨?_, by rw [hS]; exact hb2.out⟩
    rw [HM.out, hS]
    exact ⟨_, rfl, HO.out⟩
  · have e1 : (x != 0) = true := by simpa using e0
    have HM : Hid (encE p = .error x ∧ x ≠ 0) := ⟨hm1, by simpa using e0⟩
    clear hm1 e0 hX1
    go_wp2
    go_quiet (fail)
    go_wp2
    go_ret2
    refine ⟨?_, by rw [hS]; exact below_drewN hb2.out _⟩
    rw [HM.out.1]
    exact ⟨HM.out.2, rfl⟩
end Go.Proofs.YtecpokegmfnlaaaDoor
/- The law's own example: an instruction has its bytes. No condition. -/
namespace Go.Proofs.YtecpokegmfnlaaaDoor
open Go.RowKit
set_option linter.unusedVariables false
def i0D : InsD := ⟨25, 1, 300⟩
def p0D : PrgD := ⟨[], [⟨⟨#[102]⟩, [], 0, [], [i0D]⟩]⟩
theorem ins0_eq : insE i0D = .ok [25, 1, 172, 2] := by
  have h1 : rightB i0D = true := by decide
  rw [insE, if_pos h1]
  simp [insL, i0D, opsI, numB_lo, numB_hi]
theorem enc0_eq : encE p0D = .ok [87, 68, 82, 49, 0, 1, 1, 102, 0, 0, 0, 1, 25, 1, 172, 2] := by
  have n0 : numB 0 = [0] := numB_lo (by decide)
  have n1 : numB 1 = [1] := numB_lo (by decide)
  have nm : nameE ⟨#[102]⟩ = .ok [1, 102] := by
    show listE 1 16 _ = _
    simp [listE, seqE, n1, andE, nameF]
  have kd : ∀ m, kindsE [] m = .ok [0] := fun m => by simp [kindsE, listE, seqE, n0, andE]
  have cd : codeE [i0D] = .ok [1, 25, 1, 172, 2] := by simp [codeE, listE, seqE, n1, andE, ins0_eq]
  have fn : funE ⟨⟨#[102]⟩, [], 0, [], [i0D]⟩ = .ok [1, 102, 0, 0, 0, 1, 25, 1, 172, 2] := by
    simp [funE, nm, kd, cd, kindE, andE]
  simp [encE, p0D, clssE, funsE, listE, seqE, n0, n1, fn, andE, magicL]
theorem rd_nil {α : Type} (sz : Nat) (el : World → Nat → Nat → α → Prop) (B : Nat) (w : World) : RdRow sz el B w (.slice none 0 0) [] := ⟨none, 0, rfl, by unfold maxLen; simp, fun i hi => absurd hi (by simp)⟩
theorem coded_prg (w : World) : RdPrg (w.heap.size + 2) ((w.alloc (.cells #[.int .i64 25, .int .i64 1, .int .i64 300] 32)).alloc (.cells #[.string ⟨#[102]⟩, .slice none 0 0, .int .i64 0, .slice none 0 0, .slice (some ⟨w.heap.size, 0, none⟩) 1 1] 36)) (.slice none 0 0) (.slice (some ⟨w.heap.size + 1, 0, none⟩) 1 1) p0D := by
  have h1 : Blk ((w.alloc (.cells #[.int .i64 25, .int .i64 1, .int .i64 300] 32)).alloc (.cells #[.string ⟨#[102]⟩, .slice none 0 0, .int .i64 0, .slice none 0 0, .slice (some ⟨w.heap.size, 0, none⟩) 1 1] 36)) w.heap.size #[.int .i64 25, .int .i64 1, .int .i64 300] 32 := (Blk.new _ _ _).alloc _
  have h2 : Blk ((w.alloc (.cells #[.int .i64 25, .int .i64 1, .int .i64 300] 32)).alloc (.cells #[.string ⟨#[102]⟩, .slice none 0 0, .int .i64 0, .slice none 0 0, .slice (some ⟨w.heap.size, 0, none⟩) 1 1] 36)) (w.heap.size + 1) #[.string ⟨#[102]⟩, .slice none 0 0, .int .i64 0, .slice none 0 0, .slice (some ⟨w.heap.size, 0, none⟩) 1 1] 36 := Blk.new' (by simp)
  refine ⟨rd_nil _ _ _ _, some ⟨w.heap.size + 1, 0, none⟩, 1, rfl, by unfold maxLen; decide, fun i hi => ?_⟩
  obtain rfl : i = 0 := by simpa [p0D] using hi
  refine ⟨w.heap.size + 1, 0, rfl, by omega, h2.val 0 rfl, ⟨_, h2.val 1 rfl, rd_nil _ _ _ _⟩, ⟨h2.val 2 rfl, (⟨by decide, by decide⟩ : I64 0)⟩, ⟨_, h2.val 3 rfl, rd_nil _ _ _ _⟩, _, h2.val 4 rfl, ?_⟩
  refine ⟨some ⟨w.heap.size, 0, none⟩, 1, rfl, (by unfold maxLen; decide : 1 ≤ maxLen), fun i hi => ?_⟩
  obtain rfl : i = 0 := by simpa [p0D] using hi
  exact ⟨w.heap.size, 0, rfl, by omega, h1.val 0 rfl, h1.val 1 rfl, h1.val 2 rfl, (⟨by decide, by decide⟩ : I64 25), (⟨by decide, by decide⟩ : I64 1), (⟨by decide, by decide⟩ : I64 300)⟩
theorem own_cells {w : World} {B : Nat} {v : Value} {l : List UInt8} (h : w.ownsRow B 5 1 v l.length (u8L l)) (hl : 0 < l.length) : ∃ g cap, v = .slice (some ⟨g, 0, none⟩) l.length cap ∧ l.length ≤ cap ∧ ∀ j (hj : j < l.length), w.cell? ⟨g, j, none⟩ = some (.int .u8 (l[j].toNat : Int)) := by
  have hc := fun g (hg : v.ownBlock = some g) => h.cells hg
  rcases h.2 with ⟨e1, e2⟩ | ⟨g, cap, cur, e1, e2, e3, e4, _⟩
  · omega
  · refine ⟨g, cap, e1, e4, fun j hj => ?_⟩
    have := hc g (by rw [e1]; rfl) j (.int .u8 (l[j].toNat : Int)) (by simp [u8L, hj])
    have e : (⟨g, 0, none⟩ : Addr).add j = ⟨g, j, none⟩ := by unfold Addr.add; split <;> simp_all
    rw [e] at this
    exact this
set_option maxRecDepth 100000 in
set_option maxHeartbeats 2000000 in
theorem coded_any (w : World) : Calls Tryd.prog 4 #[] w fun e w' => e = .returned (.bool true) ∧ Below w.heap.size w w' := by
  have EN := Lib.hid (encode_any p0D _ _ _ (w.heap.size + 2) (by simp) (coded_prg w))
  have hb0 : Below w.heap.size w ((w.alloc (.cells #[.int .i64 25, .int .i64 1, .int .i64 300] 32)).alloc (.cells #[.string ⟨#[102]⟩, .slice none 0 0, .int .i64 0, .slice none 0 0, .slice (some ⟨w.heap.size, 0, none⟩) 1 1] 36)) := ((Below.refl _ _).alloc (Nat.le_refl _) _).alloc (by simp) _
  have HB := Lib.hid hb0
  clear hb0
  go_enter Tryd.func4, Tryd.ntmps4
  go_wp2_with fail
  refine EN.out.mono ?_
  rintro e w1 ⟨h1, h2⟩
  rw [enc0_eq] at h1
  obtain ⟨v, rfl, ho⟩ := h1
  obtain ⟨g, cap, rfl, hcap, hcell⟩ := own_cells ho (by decide)
  have hb1 := Lib.hid (HB.out.trans (h2.mono HB.out.size))
  have hcap' : (16 : Int) ≤ (cap : Int) := by simp at hcap; omega
  have hcv : (convert 27 9 (.slice (some ⟨g, 12, none⟩) 4 (cap - 12))).run Tryd.prog w1 = .ok (.string ⟨#[25, 1, 172, 2]⟩) w1 := run_convert_bytes_back (P := Tryd.prog) w1 27 9 5 ⟨g, 12, none⟩ (cap - 12) [25, 1, 172, 2] Tryd.underlying27 Tryd.underlying5 Tryd.underlying9 (fun j hj => by
    have e : (⟨g, 12, none⟩ : Addr).add j = ⟨g, 12 + j, none⟩ := by unfold Addr.add; split <;> simp_all
    rw [e, hcell (12 + j) (by simp at hj; simp; omega)]
    match j, hj with
    | 0, _ => rfl
    | 1, _ => rfl
    | 2, _ => rfl
    | 3, _ => rfl)
  clear hcell ho h2 hcap
  go_wp2
  go_ret
  exact ⟨rfl, hb1.out⟩
end Go.Proofs.YtecpokegmfnlaaaDoor
/- The document's Operands and Right of an instruction. No condition. -/
namespace Go.Proofs.YtecpokegmfnlaaaDoor
open Go.RowKit
set_option linter.unusedVariables false
set_option maxRecDepth 100000 in
set_option maxHeartbeats 4000000 in
theorem roperands_any (op : Int) (w : World) : Calls Tryd.prog 10 #[.int .i64 op] w fun e w' => e = .returned (.int .i64 (opsI op)) ∧ Below w.heap.size w w' := by
  by_cases h1 : op < 1
  · go_enter Tryd.func10, Tryd.ntmps10
    go_wp2
    go_ret
    exact ⟨ret_int (by unfold opsI; rw [if_pos (.inl (by assumption))]), Below.refl _ _⟩
  by_cases h2 : 39 < op
  · go_enter Tryd.func10, Tryd.ntmps10
    go_wp2
    go_ret
    exact ⟨ret_int (by unfold opsI; rw [if_pos (.inr (by assumption))]), Below.refl _ _⟩
  have H12 : Hid (¬ (op < 1 ∨ 39 < op)) := fun h => h.elim h1 h2
  have k1 : Blk ((w.alloc (.cells #[.int .i64 25, .int .i64 26, .int .i64 27] 3)).alloc (.cells #[.int .i64 1, .int .i64 3, .int .i64 4, .int .i64 18, .int .i64 19, .int .i64 20, .int .i64 22, .int .i64 33, .int .i64 34, .int .i64 35] 3)) w.heap.size #[.int .i64 25, .int .i64 26, .int .i64 27] 3 := (Blk.new _ _ _).alloc _
  have k2 : Blk ((w.alloc (.cells #[.int .i64 25, .int .i64 26, .int .i64 27] 3)).alloc (.cells #[.int .i64 1, .int .i64 3, .int .i64 4, .int .i64 18, .int .i64 19, .int .i64 20, .int .i64 22, .int .i64 33, .int .i64 34, .int .i64 35] 3)) (w.heap.size + 1) #[.int .i64 1, .int .i64 3, .int .i64 4, .int .i64 18, .int .i64 19, .int .i64 20, .int .i64 22, .int .i64 33, .int .i64 34, .int .i64 35] 3 := Blk.new' (by simp)
  have hb : Hid (Below w.heap.size w ((w.alloc (.cells #[.int .i64 25, .int .i64 26, .int .i64 27] 3)).alloc (.cells #[.int .i64 1, .int .i64 3, .int .i64 4, .int .i64 18, .int .i64 19, .int .i64 20, .int .i64 22, .int .i64 33, .int .i64 34, .int .i64 35] 3))) := ((Below.refl _ _).alloc (Nat.le_refl _) _).alloc (by simp) _
  go_enter Tryd.func10, Tryd.ntmps10
  go_wp2
  generalize World.alloc _ _ = W at *
  generalize hS : w.heap.size = S at *
  have HS := Lib.hid hS
  clear hS
  go_loop [5] (fun i => ∃ k : Nat, k ≤ 3 ∧ i = .int .i64 k ∧ ∀ j, j < k → [25, 26, 27].getD j 0 ≠ op) (fun i => 3 - (intOf i).toNat)
  case atStart => exact ⟨0, by omega, rfl, fun j hj => absurd hj (by omega)⟩
  case round =>
    obtain ⟨k, hk, rfl, hno⟩ := hrel
    have HNO := Lib.hid hno
    clear hno
    rcases (show k = 0 ∨ k = 1 ∨ k = 2 ∨ k = 3 by omega) with rfl | rfl | rfl | rfl
    · by_cases he : (25 : Int) = op
      · subst he
        have c := k1.val 0 rfl
        go_wp2
        go_ret
        exact ⟨ret_int (by decide), by rw [HS.out]; exact hb.out⟩
      · have he' : ((25 : Int) == op) = false := by simpa using he
        have HE := Lib.hid he
        clear he
        have c := k1.val 0 rfl
        go_wp2
        go_round
        case rel => exact ⟨1, by omega, by go_num, fun j hj => by
          rcases Nat.lt_or_ge j 0 with h | h
          · exact HNO.out j h
          · obtain rfl : j = 0 := by omega
            exact HE.out⟩
        case measure => simp [intOf]
    · by_cases he : (26 : Int) = op
      · subst he
        have c := k1.val 1 rfl
        go_wp2
        go_ret
        exact ⟨ret_int (by decide), by rw [HS.out]; exact hb.out⟩
      · have he' : ((26 : Int) == op) = false := by simpa using he
        have HE := Lib.hid he
        clear he
        have c := k1.val 1 rfl
        go_wp2
        go_round
        case rel => exact ⟨2, by omega, by go_num, fun j hj => by
          rcases Nat.lt_or_ge j 1 with h | h
          · exact HNO.out j h
          · obtain rfl : j = 1 := by omega
            exact HE.out⟩
        case measure => simp [intOf]
    · by_cases he : (27 : Int) = op
      · subst he
        have c := k1.val 2 rfl
        go_wp2
        go_ret
        exact ⟨ret_int (by decide), by rw [HS.out]; exact hb.out⟩
      · have he' : ((27 : Int) == op) = false := by simpa using he
        have HE := Lib.hid he
        clear he
        have c := k1.val 2 rfl
        go_wp2
        go_round
        case rel => exact ⟨3, by omega, by go_num, fun j hj => by
          rcases Nat.lt_or_ge j 2 with h | h
          · exact HNO.out j h
          · obtain rfl : j = 2 := by omega
            exact HE.out⟩
        case measure => simp [intOf]
    · have hn : op ≠ 25 ∧ op ≠ 26 ∧ op ≠ 27 := ⟨fun e => HNO.out 0 (by decide) e.symm, fun e => HNO.out 1 (by decide) e.symm, fun e => HNO.out 2 (by decide) e.symm⟩
      have HN := Lib.hid hn
      clear hn
      go_wp2
      go_loop [6] (fun i => ∃ k : Nat, k ≤ 10 ∧ i = .int .i64 k ∧ ∀ j, j < k → [1, 3, 4, 18, 19, 20, 22, 33, 34, 35].getD j 0 ≠ op) (fun i => 10 - (intOf i).toNat)
      case atStart => exact ⟨0, by omega, rfl, fun j hj => absurd hj (by omega)⟩
      case round =>
        obtain ⟨k, hk, rfl, hno⟩ := hrel
        have HNO2 := Lib.hid hno
        clear hno
        rcases (show k = 0 ∨ k = 1 ∨ k = 2 ∨ k = 3 ∨ k = 4 ∨ k = 5 ∨ k = 6 ∨ k = 7 ∨ k = 8 ∨ k = 9 ∨ k = 10 by omega) with rfl | rfl | rfl | rfl | rfl | rfl | rfl | rfl | rfl | rfl | rfl
        · by_cases he : (1 : Int) = op
          · subst he
            have c := k2.val 0 rfl
            go_wp2
            go_ret
            exact ⟨ret_int (by decide), by rw [HS.out]; exact hb.out⟩
          · have he' : ((1 : Int) == op) = false := by simpa using he
            have HE := Lib.hid he
            clear he
            have c := k2.val 0 rfl
            go_wp2
            go_round
            case rel => exact ⟨1, by omega, by go_num, fun j hj => by
              rcases Nat.lt_or_ge j 0 with h | h
              · exact HNO2.out j h
              · obtain rfl : j = 0 := by omega
                exact HE.out⟩
            case measure => simp [intOf]
        · by_cases he : (3 : Int) = op
          · subst he
            have c := k2.val 1 rfl
            go_wp2
            go_ret
            exact ⟨ret_int (by decide), by rw [HS.out]; exact hb.out⟩
          · have he' : ((3 : Int) == op) = false := by simpa using he
            have HE := Lib.hid he
            clear he
            have c := k2.val 1 rfl
            go_wp2
            go_round
            case rel => exact ⟨2, by omega, by go_num, fun j hj => by
              rcases Nat.lt_or_ge j 1 with h | h
              · exact HNO2.out j h
              · obtain rfl : j = 1 := by omega
                exact HE.out⟩
            case measure => simp [intOf]
        · by_cases he : (4 : Int) = op
          · subst he
            have c := k2.val 2 rfl
            go_wp2
            go_ret
            exact ⟨ret_int (by decide), by rw [HS.out]; exact hb.out⟩
          · have he' : ((4 : Int) == op) = false := by simpa using he
            have HE := Lib.hid he
            clear he
            have c := k2.val 2 rfl
            go_wp2
            go_round
            case rel => exact ⟨3, by omega, by go_num, fun j hj => by
              rcases Nat.lt_or_ge j 2 with h | h
              · exact HNO2.out j h
              · obtain rfl : j = 2 := by omega
                exact HE.out⟩
            case measure => simp [intOf]
        · by_cases he : (18 : Int) = op
          · subst he
            have c := k2.val 3 rfl
            go_wp2
            go_ret
            exact ⟨ret_int (by decide), by rw [HS.out]; exact hb.out⟩
          · have he' : ((18 : Int) == op) = false := by simpa using he
            have HE := Lib.hid he
            clear he
            have c := k2.val 3 rfl
            go_wp2
            go_round
            case rel => exact ⟨4, by omega, by go_num, fun j hj => by
              rcases Nat.lt_or_ge j 3 with h | h
              · exact HNO2.out j h
              · obtain rfl : j = 3 := by omega
                exact HE.out⟩
            case measure => simp [intOf]
        · by_cases he : (19 : Int) = op
          · subst he
            have c := k2.val 4 rfl
            go_wp2
            go_ret
            exact ⟨ret_int (by decide), by rw [HS.out]; exact hb.out⟩
          · have he' : ((19 : Int) == op) = false := by simpa using he
            have HE := Lib.hid he
            clear he
            have c := k2.val 4 rfl
            go_wp2
            go_round
            case rel => exact ⟨5, by omega, by go_num, fun j hj => by
              rcases Nat.lt_or_ge j 4 with h | h
              · exact HNO2.out j h
              · obtain rfl : j = 4 := by omega
                exact HE.out⟩
            case measure => simp [intOf]
        · by_cases he : (20 : Int) = op
          · subst he
            have c := k2.val 5 rfl
            go_wp2
            go_ret
            exact ⟨ret_int (by decide), by rw [HS.out]; exact hb.out⟩
          · have he' : ((20 : Int) == op) = false := by simpa using he
            have HE := Lib.hid he
            clear he
            have c := k2.val 5 rfl
            go_wp2
            go_round
            case rel => exact ⟨6, by omega, by go_num, fun j hj => by
              rcases Nat.lt_or_ge j 5 with h | h
              · exact HNO2.out j h
              · obtain rfl : j = 5 := by omega
                exact HE.out⟩
            case measure => simp [intOf]
        · by_cases he : (22 : Int) = op
          · subst he
            have c := k2.val 6 rfl
            go_wp2
            go_ret
            exact ⟨ret_int (by decide), by rw [HS.out]; exact hb.out⟩
          · have he' : ((22 : Int) == op) = false := by simpa using he
            have HE := Lib.hid he
            clear he
            have c := k2.val 6 rfl
            go_wp2
            go_round
            case rel => exact ⟨7, by omega, by go_num, fun j hj => by
              rcases Nat.lt_or_ge j 6 with h | h
              · exact HNO2.out j h
              · obtain rfl : j = 6 := by omega
                exact HE.out⟩
            case measure => simp [intOf]
        · by_cases he : (33 : Int) = op
          · subst he
            have c := k2.val 7 rfl
            go_wp2
            go_ret
            exact ⟨ret_int (by decide), by rw [HS.out]; exact hb.out⟩
          · have he' : ((33 : Int) == op) = false := by simpa using he
            have HE := Lib.hid he
            clear he
            have c := k2.val 7 rfl
            go_wp2
            go_round
            case rel => exact ⟨8, by omega, by go_num, fun j hj => by
              rcases Nat.lt_or_ge j 7 with h | h
              · exact HNO2.out j h
              · obtain rfl : j = 7 := by omega
                exact HE.out⟩
            case measure => simp [intOf]
        · by_cases he : (34 : Int) = op
          · subst he
            have c := k2.val 8 rfl
            go_wp2
            go_ret
            exact ⟨ret_int (by decide), by rw [HS.out]; exact hb.out⟩
          · have he' : ((34 : Int) == op) = false := by simpa using he
            have HE := Lib.hid he
            clear he
            have c := k2.val 8 rfl
            go_wp2
            go_round
            case rel => exact ⟨9, by omega, by go_num, fun j hj => by
              rcases Nat.lt_or_ge j 8 with h | h
              · exact HNO2.out j h
              · obtain rfl : j = 8 := by omega
                exact HE.out⟩
            case measure => simp [intOf]
        · by_cases he : (35 : Int) = op
          · subst he
            have c := k2.val 9 rfl
            go_wp2
            go_ret
            exact ⟨ret_int (by decide), by rw [HS.out]; exact hb.out⟩
          · have he' : ((35 : Int) == op) = false := by simpa using he
            have HE := Lib.hid he
            clear he
            have c := k2.val 9 rfl
            go_wp2
            go_round
            case rel => exact ⟨10, by omega, by go_num, fun j hj => by
              rcases Nat.lt_or_ge j 9 with h | h
              · exact HNO2.out j h
              · obtain rfl : j = 9 := by omega
                exact HE.out⟩
            case measure => simp [intOf]
        · go_wp2
          go_ret
          have q : op ≠ 1 ∧ op ≠ 3 ∧ op ≠ 4 ∧ op ≠ 18 ∧ op ≠ 19 ∧ op ≠ 20 ∧ op ≠ 22 ∧ op ≠ 33 ∧ op ≠ 34 ∧ op ≠ 35 := ⟨fun e => HNO2.out 0 (by decide) e.symm, fun e => HNO2.out 1 (by decide) e.symm, fun e => HNO2.out 2 (by decide) e.symm, fun e => HNO2.out 3 (by decide) e.symm, fun e => HNO2.out 4 (by decide) e.symm, fun e => HNO2.out 5 (by decide) e.symm, fun e => HNO2.out 6 (by decide) e.symm, fun e => HNO2.out 7 (by decide) e.symm, fun e => HNO2.out 8 (by decide) e.symm, fun e => HNO2.out 9 (by decide) e.symm⟩
          have hn := HN.out
          exact ⟨ret_int (by unfold opsI; rw [if_neg H12.out, if_neg (by omega), if_neg (by omega)]), by rw [HS.out]; exact hb.out⟩
end Go.Proofs.YtecpokegmfnlaaaDoor
