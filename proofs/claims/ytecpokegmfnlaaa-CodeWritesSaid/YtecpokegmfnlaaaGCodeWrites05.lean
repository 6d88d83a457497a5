/- Texts of this seat, one behind the other: each says at its head what it holds. No condition of its own. -/
import Derived.Test.YtecpokegmfnlaaaGCodeWrites04
/- code's writer: a function, and all: Encode. Condition: what is written lies in blocks below its own. -/
namespace Go.Proofs.Ytecpokegmfnlaaa
open Go.RowKit
set_option linter.unusedVariables false
def kindsE (l : List Int) (most : Nat) : Res := listE l.length most (fun i => kindE (l.getD i 0))
def ins0 : InsD := ⟨0, 0, 0⟩
def codeE (l : List InsD) : Res := listE l.length 256 (fun i => insE (l.getD i ins0))
def funE (f : FunD) : Res := andE (andE (andE (andE (nameE f.name) (kindsE f.params 6)) (kindE f.result)) (kindsE f.locals 16)) (codeE f.code)
theorem lenE_kinds (l : List Int) (most : Nat) (h : most < 1000000) : lenE (kindsE l most) (10 + most * 1) := lenE_list h fun _ _ => lenE_kind _
def codeOk (l : List InsD) : Prop := ∀ i, i < l.length → I64 (l.getD i ins0).a
theorem lenE_code (l : List InsD) (h : codeOk l) : lenE (codeE l) 5386 := lenE_list (by decide) fun i hi => lenE_ins _ (h i hi)
theorem lenE_fun (f : FunD) (h : codeOk f.code) : lenE (funE f) 5600 :=
  lenE_mono (lenE_and (lenE_and (lenE_and (lenE_and (lenE_name _) (lenE_kinds _ _ (by decide))) (lenE_kind _)) (lenE_kinds _ _ (by decide))) (lenE_code _ h)) (by decide)
def funV (f : FunD) (v1 v3 v4 : Value) : Array Value := #[.string f.name, v1, .int .i64 f.result, v3, v4]
set_option maxRecDepth 100000 in
set_option maxHeartbeats 2000000 in
theorem fun1_any (B b c1 c2 i : Nat) (l : List UInt8) (f : FunD) (v1 v3 v4 : Value) (K : Nat → Prop) (w : World) (h : WrX w B b l 0 K) (hc1 : Blk w c1 #[.pointer (some ⟨b, 0, none⟩)] 58) (hc2 : Blk w c2 #[.string f.name, v1, .int .i64 f.result, v3, v4] 54) (hv : RdRow 1 ElI B w v1 f.params) (hi : i < f.params.length) (hl : l.length ≤ 10000000) :
    Calls Try.prog 61 #[.int .i64 i, .pointer (some ⟨c1, 0, none⟩), .pointer (some ⟨c2, 0, none⟩)] w fun e' w' => (∃ u, e' = .returned u) ∧ WrP w' B b (andE (.ok l) (kindE (f.params.getD i 0))) K ∧ WrT B K w w' := by
  have hg : f.params.getD i 0 = f.params[i] := by simp [List.getD_eq_getElem?_getD, hi]
  rw [hg]
  obtain ⟨a, cap, rfl, hmx, hel⟩ := hv
  obtain ⟨d, o, rfl, hd, e1, _⟩ := hel i hi
  rw [Nat.mul_one] at e1
  clear hel hg
  generalize f.params[i] = t at *
  have hbw := h.bw
  have i1 : (0 : Int) ≤ (i : Int) ∧ (i : Int) < (f.params.length : Int) := ⟨by omega, by omega⟩
  have i2 : 0 < f.params.length := by omega
  generalize f.params.length = n at *
  have d1 := hc1.val 0 rfl
  have d2 := hc2.val 1 rfl
  have HL : Hid (lenE (.ok l) 1000000000) := fun q e => by injection e with e; subst e; omega
  have HX : Hid (WrP w.drew B b (.ok l) K) := h.quiet ⟨1, rfl⟩
  have T0 : Hid (WrT B K w w.drew) := WrT.of (Below.refl _ _).drew
  clear h hbw hc1 hc2
  go_enter Try.func61, Try.ntmps61
  go_wp2_with fail
  go_still_tail 6, (by kernel_rfl)
  change wpList _ _ _ _ _ w.drew
  generalize w.drew = w2 at *
  go_wp2_with fail
  refine (kind_any B b _ K t _ HX.out HL.out).mono ?_
  rintro e w3 ⟨⟨u, rfl⟩, hP3, hT3⟩
  go_wp2
  go_end0
  exact ⟨⟨_, rfl⟩, hP3, T0.out.trans hT3⟩
set_option maxRecDepth 100000 in
set_option maxHeartbeats 2000000 in
theorem fun2_any (B b c1 c2 i : Nat) (l : List UInt8) (f : FunD) (v1 v3 v4 : Value) (K : Nat → Prop) (w : World) (h : WrX w B b l 0 K) (hc1 : Blk w c1 #[.pointer (some ⟨b, 0, none⟩)] 58) (hc2 : Blk w c2 #[.string f.name, v1, .int .i64 f.result, v3, v4] 54) (hv : RdRow 1 ElI B w v3 f.locals) (hi : i < f.locals.length) (hl : l.length ≤ 10000000) :
    Calls Try.prog 62 #[.int .i64 i, .pointer (some ⟨c1, 0, none⟩), .pointer (some ⟨c2, 0, none⟩)] w fun e' w' => (∃ u, e' = .returned u) ∧ WrP w' B b (andE (.ok l) (kindE (f.locals.getD i 0))) K ∧ WrT B K w w' := by
  have hg : f.locals.getD i 0 = f.locals[i] := by simp [List.getD_eq_getElem?_getD, hi]
  rw [hg]
  obtain ⟨a, cap, rfl, hmx, hel⟩ := hv
  obtain ⟨d, o, rfl, hd, e1, _⟩ := hel i hi
  rw [Nat.mul_one] at e1
  clear hel hg
  generalize f.locals[i] = t at *
  have hbw := h.bw
  have i1 : (0 : Int) ≤ (i : Int) ∧ (i : Int) < (f.locals.length : Int) := ⟨by omega, by omega⟩
  have i2 : 0 < f.locals.length := by omega
  generalize f.locals.length = n at *
  have d1 := hc1.val 0 rfl
  have d2 := hc2.val 3 rfl
  have HL : Hid (lenE (.ok l) 1000000000) := fun q e => by injection e with e; subst e; omega
  have HX : Hid (WrP w.drew B b (.ok l) K) := h.quiet ⟨1, rfl⟩
  have T0 : Hid (WrT B K w w.drew) := WrT.of (Below.refl _ _).drew
  clear h hbw hc1 hc2
  go_enter Try.func62, Try.ntmps62
  go_wp2_with fail
  go_still_tail 6, (by kernel_rfl)
  change wpList _ _ _ _ _ w.drew
  generalize w.drew = w2 at *
  go_wp2_with fail
  refine (kind_any B b _ K t _ HX.out HL.out).mono ?_
  rintro e w3 ⟨⟨u, rfl⟩, hP3, hT3⟩
  go_wp2
  go_end0
  exact ⟨⟨_, rfl⟩, hP3, T0.out.trans hT3⟩
set_option maxRecDepth 100000 in
set_option maxHeartbeats 2000000 in
theorem fun3_any (B b c1 c2 i : Nat) (l : List UInt8) (f : FunD) (v1 v3 v4 : Value) (K : Nat → Prop) (w : World) (h : WrX w B b l 0 K) (hc1 : Blk w c1 #[.pointer (some ⟨b, 0, none⟩)] 58) (hc2 : Blk w c2 #[.string f.name, v1, .int .i64 f.result, v3, v4] 54) (hv : RdRow 3 ElN B w v4 f.code) (hi : i < f.code.length) (hl : l.length ≤ 10000000) :
    Calls Try.prog 63 #[.int .i64 i, .pointer (some ⟨c1, 0, none⟩), .pointer (some ⟨c2, 0, none⟩)] w fun e' w' => (∃ u, e' = .returned u) ∧ WrP w' B b (andE (.ok l) (insE (f.code.getD i ins0))) K ∧ WrT B K w w' := by
  have hg : f.code.getD i ins0 = f.code[i] := by simp [List.getD_eq_getElem?_getD, hi]
  rw [hg]
  obtain ⟨a, cap, rfl, hmx, hel⟩ := hv
  obtain ⟨d, o, rfl, hd, e1, e2, e3, j1, j2, j3⟩ := hel i hi
  clear hel hg
  generalize f.code[i] = t at *
  have hbw := h.bw
  have i1 : (0 : Int) ≤ (i : Int) ∧ (i : Int) < (f.code.length : Int) := ⟨by omega, by omega⟩
  have i2 : 0 < f.code.length := by omega
  generalize f.code.length = n at *
  have d1 := hc1.val 0 rfl
  have d2 := hc2.val 4 rfl
  have IN := Lib.hid (fun W (X : WrX W B b l 0 K) => ins_any B b l K t W X j2 j3 (by omega))
  have HX : Hid (WrX w.drew B b l 0 K) := h.quiet ⟨1, rfl⟩
  have T0 : Hid (WrT B K w w.drew) := WrT.of (Below.refl _ _).drew
  clear h hbw hc1 hc2 j1 j2 j3
  obtain ⟨op, a, c⟩ := t
  go_enter Try.func63, Try.ntmps63
  go_wp2_with fail
  go_still_tail 6, (by kernel_rfl)
  change wpList _ _ _ _ _ w.drew
  generalize w.drew = w2 at *
  go_wp2_with fail
  refine (IN.out _ HX.out).mono ?_
  rintro e w3 ⟨⟨u, rfl⟩, hP3, hT3⟩
  go_wp2
  go_end0
  exact ⟨⟨_, rfl⟩, hP3, T0.out.trans hT3⟩
theorem rd_shape {α : Type} {sz B : Nat} {el : World → Nat → Nat → α → Prop} {w : World} {v : Value} {l : List α} (h : RdRow sz el B w v l) : ∃ a c, v = .slice a l.length c := by
  obtain ⟨a, c, e, _⟩ := h; exact ⟨a, c, e⟩
theorem codeOk_of {B : Nat} {w : World} {v : Value} {l : List InsD} (h : RdRow 3 ElN B w v l) : codeOk l := by
  obtain ⟨a, c, _, _, hel⟩ := h
  intro i hi
  obtain ⟨d, o, _, _, e⟩ := hel i hi
  have hg : l.getD i ins0 = l[i] := by simp [List.getD_eq_getElem?_getD, hi]
  rw [hg]; exact e.2.2.2.2.1
set_option maxRecDepth 100000 in
set_option maxHeartbeats 4000000 in
theorem fun_any (B b : Nat) (r : Res) (f : FunD) (v1 v3 v4 : Value) (K : Nat → Prop) (w : World) (h : WrP w B b r K) (g1 : RdRow 1 ElI B w v1 f.params) (g3 : RdRow 1 ElI B w v3 f.locals) (g4 : RdRow 3 ElN B w v4 f.code) (hl : lenE r 5000000) :
    Calls Try.prog 29 #[.pointer (some ⟨b, 0, none⟩), .agg #[.string f.name, v1, .int .i64 f.result, v3, v4]] w fun e' w' => (∃ u, e' = .returned u) ∧ WrP w' B b (andE r (funE f)) K ∧ WrT B K w w' := by
  have hbw : B ≤ w.heap.size := h.bw
  have hck := codeOk_of g4
  obtain ⟨hP, hb⟩ := two_boxes h (.cells #[.pointer (some ⟨b, 0, none⟩)] 58) (.cells #[.string f.name, v1, .int .i64 f.result, v3, v4] 54)
  have k1 : Blk ((w.alloc (.cells #[.pointer (some ⟨b, 0, none⟩)] 58)).alloc (.cells #[.string f.name, v1, .int .i64 f.result, v3, v4] 54)) w.heap.size #[.pointer (some ⟨b, 0, none⟩)] 58 := (Blk.new _ _ _).alloc _
  have k2 : Blk ((w.alloc (.cells #[.pointer (some ⟨b, 0, none⟩)] 58)).alloc (.cells #[.string f.name, v1, .int .i64 f.result, v3, v4] 54)) (w.heap.size + 1) #[.string f.name, v1, .int .i64 f.result, v3, v4] 54 := Blk.new' (by simp)
  have R1 := Lib.hid (fun W (hb' : Below B w W) => g1.keep hb' fun _ _ _ e r => r.keep hb' e)
  have R3 := Lib.hid (fun W (hb' : Below B w W) => g3.keep hb' fun _ _ _ e r => r.keep hb' e)
  have R4 := Lib.hid (fun W (hb' : Below B w W) => g4.keep hb' fun _ _ _ e r => r.keep hb' e)
  have bw2 := hb.mono hbw
  have c1 := k1.val 0 rfl
  have c2 := k2.val 0 rfl
  obtain ⟨a1, p1, s1⟩ := rd_shape g1
  obtain ⟨a3, p3, s3⟩ := rd_shape g3
  obtain ⟨a4, p4, s4⟩ := rd_shape g4
  have NM := Lib.hid (name_any B b r _ f.name _ hP (lenE_mono hl (by decide)))
  have HV := Lib.hid (And.intro s1 (And.intro s3 s4))
  have HB : Hid (B ≤ ((w.alloc (.cells #[.pointer (some ⟨b, 0, none⟩)] 58)).alloc (.cells #[.string f.name, v1, .int .i64 f.result, v3, v4] 54)).heap.size) := by unfold Hid; simp; omega
  have HT0 : Hid (WrT B K w ((w.alloc (.cells #[.pointer (some ⟨b, 0, none⟩)] 58)).alloc (.cells #[.string f.name, v1, .int .i64 f.result, v3, v4] 54))) := WrT.of hb
  clear hP h g1 g3 g4 s1 s3 s4 hb
  go_enter Try.func29, Try.ntmps29
  go_wp2_with fail
  clear c1 c2
  generalize (w.alloc (.cells #[.pointer (some ⟨b, 0, none⟩)] 58)).alloc (.cells #[.string f.name, v1, .int .i64 f.result, v3, v4] 54) = w2 at *
  refine NM.out.mono ?_
  rintro e w3 ⟨⟨u, rfl⟩, hP3, hT3⟩
  have r1 := hT3.kept k1 (.inr (.inl rfl))
  have r2 := hT3.kept k2 (.inl rfl)
  have B3 := bw2.trans (hT3.below HB.out)
  have hs3 := Nat.le_trans HB.out hT3.size
  have d1 := r1.val 0 rfl
  have d2 := r2.val 1 rfl
  rw [HV.out.1] at d2
  have l3 := lenE_and hl (lenE_name f.name)
  have ST := Lib.hid (list_anyFun1 B b w.heap.size (w.heap.size + 1) _ _ f.params.length 6 5000026 1 (fun i => kindE (f.params.getD i 0)) _ hP3 (by decide) l3 (by decide) (fun _ _ => lenE_kind _) (fun i l W hi hn hX hT hl => fun1_any B b _ _ i l f v1 v3 v4 _ W hX (hT.kept r1 (.inr (.inl rfl))) (hT.kept r2 (.inl rfl)) (R1.out W (B3.trans (hT.below hs3))) hi (by omega)))
  have HT := Lib.hid (HT0.out.trans (hT3.sub fun x hx => .inr (.inr hx)))
  have L3 := Lib.hid l3
  have HB3 := Lib.hid hs3
  have HB3' := Lib.hid B3
  clear hP3 hT3 k1 k2 l3 hs3 B3 bw2 HB NM HT0
  go_wp2_with fail
  refine ST.out.mono ?_
  rintro e w4 ⟨⟨u, rfl⟩, hP4, hT4⟩
  have k1 := hT4.kept r1 (.inr (.inl rfl))
  have k2 := hT4.kept r2 (.inl rfl)
  have B4 := HB3'.out.trans (hT4.below HB3.out)
  have hs4 := Nat.le_trans HB3.out hT4.size
  have d1 := k1.val 0 rfl
  have d2 := k2.val 2 rfl
  have l4 := lenE_and L3.out (lenE_kinds f.params 6 (by decide))
  have KD := Lib.hid (kind_any B b _ _ f.result _ hP4 (lenE_mono l4 (by decide)))
  have HT4 := Lib.hid (HT.out.trans (hT4.sub fun x hx => .inr (.inr hx)))
  have L4 := Lib.hid l4
  have HB4 := Lib.hid hs4
  have HB4' := Lib.hid B4
  clear hP4 hT4 r1 r2 l4 hs4 B4 ST HT L3 HB3 HB3'
  go_wp2_with fail
  refine KD.out.mono ?_
  rintro e w5 ⟨⟨u, rfl⟩, hP5, hT5⟩
  have r1 := hT5.kept k1 (.inr (.inl rfl))
  have r2 := hT5.kept k2 (.inl rfl)
  have B5 := HB4'.out.trans (hT5.below HB4.out)
  have hs5 := Nat.le_trans HB4.out hT5.size
  have d1 := r1.val 0 rfl
  have d2 := r2.val 3 rfl
  rw [HV.out.2.1] at d2
  have l5 := lenE_and L4.out (lenE_kind f.result)
  have ST := Lib.hid (list_anyFun2 B b w.heap.size (w.heap.size + 1) _ _ f.locals.length 16 _ 1 (fun i => kindE (f.locals.getD i 0)) _ hP5 (by decide) l5 (by decide) (fun _ _ => lenE_kind _) (fun i l W hi hn hX hT hl => fun2_any B b _ _ i l f v1 v3 v4 _ W hX (hT.kept r1 (.inr (.inl rfl))) (hT.kept r2 (.inl rfl)) (R3.out W (B5.trans (hT.below hs5))) hi (by omega)))
  have HT5 := Lib.hid (HT4.out.trans (hT5.sub fun x hx => .inr (.inr hx)))
  have L5 := Lib.hid l5
  have HB5 := Lib.hid hs5
  have HB5' := Lib.hid B5
  clear hP5 hT5 k1 k2 l5 hs5 B5 KD HT4 L4 HB4 HB4'
  go_wp2_with fail
  refine ST.out.mono ?_
  rintro e w6 ⟨⟨u, rfl⟩, hP6, hT6⟩
  have k1 := hT6.kept r1 (.inr (.inl rfl))
  have k2 := hT6.kept r2 (.inl rfl)
  have B6 := HB5'.out.trans (hT6.below HB5.out)
  have hs6 := Nat.le_trans HB5.out hT6.size
  have d1 := k1.val 0 rfl
  have d2 := k2.val 4 rfl
  rw [HV.out.2.2] at d2
  have l6 := lenE_and L5.out (lenE_kinds f.locals 16 (by decide))
  have ST2 := Lib.hid (list_anyFun3 B b w.heap.size (w.heap.size + 1) _ _ f.code.length 256 _ 21 (fun i => insE (f.code.getD i ins0)) _ hP6 (by decide) l6 (by decide) (fun i hi => lenE_ins _ (hck i hi)) (fun i l W hi hn hX hT hl => fun3_any B b _ _ i l f v1 v3 v4 _ W hX (hT.kept k1 (.inr (.inl rfl))) (hT.kept k2 (.inl rfl)) (R4.out W (B6.trans (hT.below hs6))) hi (by omega)))
  have HT6 := Lib.hid (HT5.out.trans (hT6.sub fun x hx => .inr (.inr hx)))
  clear hP6 hT6 r1 r2 l6 hs6 B6 ST HT5 L5 HB5 HB5'
  go_wp2_with fail
  refine ST2.out.mono ?_
  rintro e w7 ⟨⟨u, rfl⟩, hP7, hT7⟩
  go_wp2
  go_end0
  refine ⟨⟨_, rfl⟩, ?_, HT6.out.trans (hT7.sub fun x hx => .inr (.inr hx))⟩
  have e : andE r (funE f) = andE (andE (andE (andE (andE r (nameE f.name)) (kindsE f.params 6)) (kindE f.result)) (kindsE f.locals 16)) (codeE f.code) := by simp only [funE, andE_assoc]
  rw [e]
  exact hP7.sub fun x hx => .inr (.inr hx)
end Go.Proofs.Ytecpokegmfnlaaa
/- What code.Encode returns of any program. Condition: it reads as a program. -/
namespace Go.Proofs.Ytecpokegmfnlaaa
open Go.RowKit
set_option linter.unusedVariables false
def cls0 : ClsD := ⟨.empty, []⟩
def fun0 : FunD := ⟨.empty, [], 0, [], []⟩
def magicL : List UInt8 := [87, 68, 82, 49]
def clssE (p : PrgD) : Res := listE p.classes.length 16 (fun i => clsE (p.classes.getD i cls0))
def funsE (p : PrgD) : Res := listE p.funcs.length 16 (fun i => funE (p.funcs.getD i fun0))
def encE (p : PrgD) : Res := andE (andE (.ok magicL) (clssE p)) (funsE p)
set_option maxRecDepth 100000 in
set_option maxHeartbeats 2000000 in
theorem enc1_any (B b c1 c2 i : Nat) (l : List UInt8) (p : PrgD) (v1 v2 : Value) (K : Nat → Prop) (w : World) (h : WrX w B b l 0 K) (hc1 : Blk w c1 #[.pointer (some ⟨b, 0, none⟩)] 58) (hc2 : Blk w c2 #[v1, v2] 29) (hv : RdRow 2 (ElC B) B w v1 p.classes) (hi : i < p.classes.length) (hl : l.length ≤ 1000000) :
    Calls Try.prog 26 #[.int .i64 i, .pointer (some ⟨c1, 0, none⟩), .pointer (some ⟨c2, 0, none⟩)] w fun e' w' => (∃ u, e' = .returned u) ∧ WrP w' B b (andE (.ok l) (clsE (p.classes.getD i cls0))) K ∧ WrT B K w w' := by
  have hg : p.classes.getD i cls0 = p.classes[i] := by simp [List.getD_eq_getElem?_getD, hi]
  rw [hg]
  obtain ⟨a, cap, rfl, hmx, hel⟩ := hv
  obtain ⟨d, o, rfl, hd, e1, v, e2, e3⟩ := hel i hi
  clear hel hg
  generalize p.classes[i] = t at *
  have hbw := h.bw
  have i1 : (0 : Int) ≤ (i : Int) ∧ (i : Int) < (p.classes.length : Int) := ⟨by omega, by omega⟩
  have i2 : 0 < p.classes.length := by omega
  generalize p.classes.length = n at *
  have d1 := hc1.val 0 rfl
  have d2 := hc2.val 0 rfl
  have QB : Below B w w.drew := (Below.refl _ _).drew
  have CL := Lib.hid (cls_any B b (.ok l) t v K w.drew (h.quiet ⟨1, rfl⟩) (e3.keep QB fun _ _ _ e r => r.keep QB e) (fun q e => by injection e with e; subst e; omega))
  have T0 : Hid (WrT B K w w.drew) := WrT.of (Below.refl _ _).drew
  obtain ⟨va, vc, hva⟩ := rd_shape e3
  subst hva
  clear h hbw hc1 hc2 e3 QB
  go_enter Try.func26, Try.ntmps26
  go_wp2_with fail
  go_still_tail 6, (by kernel_rfl)
  change wpList _ _ _ _ _ w.drew
  generalize w.drew = w2 at *
  go_wp2_with fail
  refine CL.out.mono ?_
  rintro e w3 ⟨⟨u, rfl⟩, hP3, hT3⟩
  go_wp2
  go_end0
  exact ⟨⟨_, rfl⟩, hP3, T0.out.trans hT3⟩
set_option maxRecDepth 100000 in
set_option maxHeartbeats 2000000 in
theorem enc2_any (B b c1 c2 i : Nat) (l : List UInt8) (p : PrgD) (v1 v2 : Value) (K : Nat → Prop) (w : World) (h : WrX w B b l 0 K) (hc1 : Blk w c1 #[.pointer (some ⟨b, 0, none⟩)] 58) (hc2 : Blk w c2 #[v1, v2] 29) (hv : RdRow 5 (ElU B) B w v2 p.funcs) (hi : i < p.funcs.length) (hl : l.length ≤ 1000000) :
    Calls Try.prog 28 #[.int .i64 i, .pointer (some ⟨c1, 0, none⟩), .pointer (some ⟨c2, 0, none⟩)] w fun e' w' => (∃ u, e' = .returned u) ∧ WrP w' B b (andE (.ok l) (funE (p.funcs.getD i fun0))) K ∧ WrT B K w w' := by
  have hg : p.funcs.getD i fun0 = p.funcs[i] := by simp [List.getD_eq_getElem?_getD, hi]
  rw [hg]
  obtain ⟨a, cap, rfl, hmx, hel⟩ := hv
  obtain ⟨d, o, rfl, hd, e1, ⟨u1, e2, g1⟩, ⟨e3, _⟩, ⟨u3, e4, g3⟩, u4, e5, g4⟩ := hel i hi
  clear hel hg
  generalize p.funcs[i] = t at *
  have hbw := h.bw
  have i1 : (0 : Int) ≤ (i : Int) ∧ (i : Int) < (p.funcs.length : Int) := ⟨by omega, by omega⟩
  have i2 : 0 < p.funcs.length := by omega
  generalize p.funcs.length = n at *
  have d1 := hc1.val 0 rfl
  have d2 := hc2.val 1 rfl
  have QB : Below B w w.drew := (Below.refl _ _).drew
  have CL := Lib.hid (fun_any B b (.ok l) t u1 u3 u4 K w.drew (h.quiet ⟨1, rfl⟩) (g1.keep QB fun _ _ _ e r => r.keep QB e) (g3.keep QB fun _ _ _ e r => r.keep QB e) (g4.keep QB fun _ _ _ e r => r.keep QB e) (fun q e => by injection e with e; subst e; omega))
  have T0 : Hid (WrT B K w w.drew) := WrT.of (Below.refl _ _).drew
  obtain ⟨_, _, hva⟩ := rd_shape g1
  subst hva
  obtain ⟨_, _, hva⟩ := rd_shape g3
  subst hva
  obtain ⟨_, _, hva⟩ := rd_shape g4
  subst hva
  clear h hbw hc1 hc2 g1 g3 g4 QB
  go_enter Try.func28, Try.ntmps28
  go_wp2_with fail
  go_still_tail 6, (by kernel_rfl)
  change wpList _ _ _ _ _ w.drew
  generalize w.drew = w2 at *
  go_wp2_with fail
  refine CL.out.mono ?_
  rintro e w3 ⟨⟨u, rfl⟩, hP3, hT3⟩
  go_wp2
  go_end0
  exact ⟨⟨_, rfl⟩, hP3, T0.out.trans hT3⟩
set_option maxRecDepth 100000 in
set_option maxHeartbeats 2000000 in
theorem number_first (B b g n : Nat) (K : Nat → Prop) (w : World) (hb : Blk w b #[.slice (some ⟨g, 0, none⟩) 4 4, .int .i64 0] 60) (hg : Hid (∀ j u, (u8L magicL)[j]? = some u → w.cell? ((⟨g, 0, none⟩ : Addr).add j) = some u)) (nb : ¬ K b) (bb : B ≤ b) (bw : B ≤ w.heap.size) (lt : ∀ x, K x → x < w.heap.size) (hn : n < 128) :
    Calls Try.prog 57 #[.pointer (some ⟨b, 0, none⟩), .int .u64 n] w fun e' w' => (∃ u, e' = .returned u) ∧ WrX w' B b (magicL ++ numB n) 0 K ∧ WrT B K w w' := by
  obtain ⟨i0, hi, hz0, hz1, hz2⟩ := info_parts info_u8
  have c0 := hb.val 0 rfl
  have lb := hb.lt
  have hn' : ¬ (128 : Int) ≤ (n : Int) := by omega
  have HO := Lib.hid (lo8 n hn)
  have HG : Hid (∀ j u, (u8L magicL)[j]? = some u → (w.alloc (.cells #[Value.int .u8 (n : Int)] 5)).cell? ((⟨g, 0, none⟩ : Addr).add j) = some u) := fun j u hu => by
    have h1 := hg.out j u hu
    rw [World.cell?_alloc_lt _ _ _ (World.block_lt_of_cell? w _ h1), h1]
  have fin : ∀ (v' : Value) (w1 : World), w1.ownsRow (w.alloc (.cells #[Value.int .u8 (n : Int)] 5)).heap.size 5 1 v' (4 + 1) (u8L magicL ++ [Value.int .u8 ((UInt8.ofNat n).toNat : Int)]) → (w.alloc (.cells #[Value.int .u8 (n : Int)] 5)).grownBy w1 none →
      Blk w1 b #[.slice (some ⟨g, 0, none⟩) 4 4, .int .i64 0] 60 ∧ WrX (w1.setCell ⟨b, 0, none⟩ v') B b (magicL ++ [UInt8.ofNat n]) 0 K ∧ WrT B K w (w1.setCell ⟨b, 0, none⟩ v') := by
    intro v' w1 hown hgrow
    have hT1 : Touch (fun y => B ≤ y ∧ ¬ K y) w w1 := ((Touch.refl _ w).alloc _).grown hgrow (fun k hk => by cases hk)
    have hb1 : Blk w1 b #[.slice (some ⟨g, 0, none⟩) 4 4, .int .i64 0] 60 := (hb.alloc _).of (hgrow.block b (by simp; omega) (by simp))
    have hT2 : Touch (fun y => y = b) w1 (w1.setCell ⟨b, 0, none⟩ v') := (Touch.refl (fun y => y = b) w1).setCell (p := ⟨b, 0, none⟩) rfl _
    have hsz : (w.alloc (.cells #[Value.int .u8 (n : Int)] 5)).heap.size = w.heap.size + 1 := by simp
    obtain ⟨e1, e2⟩ := hown
    rcases e2 with e2 | ⟨q, cap, cur, a1, a2, a3, a4⟩
    · exact absurd e2.2 (by decide)
    · refine ⟨hb1, ⟨⟨v', hb1.set 0 v', ⟨by simp [u8L, magicL], .inr ⟨q, cap, cur, a1, by omega, ?_, by simpa [u8L, magicL] using a4⟩⟩, fun q' hq => ?_⟩, nb, bb, Nat.le_trans bw (Nat.le_trans hT1.size hT2.size), fun y hy => Nat.lt_of_lt_of_le (lt y hy) (Nat.le_trans hT1.size hT2.size)⟩, Touch.trans hT1 (hT2.mono fun y _ e => by subst e; exact ⟨bb, nb⟩)⟩
      · rw [hT2.block q (Array.getElem?_eq_some_iff.1 a3).1 (by omega)]; exact a3
      · rw [a1] at hq
        obtain rfl : q = q' := Option.some.inj hq
        exact ⟨fun r => by have := lt _ r; omega, by omega⟩
  have HF := Lib.hid fin
  clear fin hg bb bw
  go_enter Try.func57, Try.ntmps57
  go_wp2
  go_loopw [1] (fun x wr => x = .int .u64 n ∧ wr = w) (fun x _ => 0)
  case atStart => exact ⟨rfl, rfl⟩
  case round =>
    obtain ⟨rfl, rfl⟩ := hrel
    go_wp2_with (at_builtin; refine wpList_append_grows _ rfl _ _ 31 rfl 5 i0 (.int .u8 0) 1 1 Try.underlying31 hi hz0 hz1 hz2 rfl (by decide) (some ⟨g, 0, none⟩) 4 4 (u8L magicL) rfl (fun h => by cases h) rfl (fun b hb => by obtain rfl := Option.some.inj hb; exact HG.out) ⟨wr.heap.size, 0, none⟩ 1 1 [Value.int .u8 ((UInt8.ofNat n).toNat : Int)] rfl rfl (by rw [← HO.out]; exact one_new _ _ _) (by simp [Value.oneCell']) (by decide) (by decide) (by decide) ?_; intro v' w1 hown' hgrow; obtain ⟨ga, gc, rfl⟩ := row_shape hown'; obtain ⟨hb1, hX1, hT1⟩ := HF.out _ _ hown' hgrow; have f1 := hb1.frozen 0; have g1 := hb1.val 0 rfl; clear hown' hgrow hb1 hb)
    go_end0
    exact ⟨⟨_, rfl⟩, by rw [numB_lo hn]; exact hX1, hT1⟩
/-- bytes in a row of the call's own, or an error -/
def EncPost (r : Res) (w : World) (e : Ending) (w' : World) : Prop := (match r with | .ok l => ∃ v, e = .returned (.tuple #[v, .int .i64 0]) ∧ w'.ownsRow w.heap.size 5 1 v l.length (u8L l) | .error x => x ≠ 0 ∧ e = .returned (.tuple #[.slice none 0 0, .int .i64 x])) ∧ Below w.heap.size w w'
theorem run_conv_bytes (w : World) (C : Array Value) (n m : Nat) : (convert 31 31 (.slice (some ⟨w.heap.size, 0, none⟩) n m)).run Try.prog (w.alloc (.cells C 5)) = .ok (.slice (some ⟨w.heap.size, 0, none⟩) n m) (w.alloc (.cells C 5 (C.size, C.size + 1))) := by
  have hsh : (w.alloc (.cells C 5)).shape? w.heap.size = some (5, C.size) := by
    have : (w.alloc (.cells C 5)).heap[w.heap.size]? = some (.cells C 5) := by
      show (w.heap.push (.cells C 5))[w.heap.size]? = _
      simp
    unfold World.shape?
    rw [this]
  have hfr : (w.alloc (.cells C 5)).freeze ⟨w.heap.size, C.size, none⟩ 1 = w.alloc (.cells C 5 (C.size, C.size + 1)) := by
    have hm : ∀ (a : Array Obj) (x : Obj) (f : Obj → Obj), (a.push x).modify a.size f = a.push (f x) := by
      intro a x f
      apply Array.ext
      · simp
      · intro i h1 h2
        simp only [Array.getElem_modify, Array.getElem_push]
        by_cases h : a.size = i
        · subst h
          simp
        · have hi : i < a.size := by simp at h1; omega
          simp [h, hi]
    unfold World.freeze
    rw [if_neg (by decide)]
    show ({ w.alloc (.cells C 5) with heap := (w.heap.push (.cells C 5)).modify w.heap.size _ } : World) = _
    rw [hm]
    rfl
  simp [convert, run_underlying Try.underlying31, run_underlying Try.underlying5, markStringish, hsh]
  exact hfr
theorem list_first (B b c1 c2 n M : Nat) (K : Nat → Prop) (f : Nat → Res) (w : World) (h : WrE w B b 0 K) (NB : n < 128 → Calls Try.prog 57 #[.pointer (some ⟨b, 0, none⟩), .int .u64 n] w fun e' w' => (∃ u, e' = .returned u) ∧ WrX w' B b (magicL ++ numB n) 0 K ∧ WrT B K w w')
    (hM : M ≤ 1000000) (hf : ∀ i, i < n → lenE (f i) M) (hst : StepOk 26 c1 c2 B b K w n 16 4 M f) :
    Calls Try.prog 25 #[.pointer (some ⟨b, 0, none⟩), .int .i64 n, .int .i64 16, .func (.func 26) #[] #[.pointer (some ⟨c1, 0, none⟩), .pointer (some ⟨c2, 0, none⟩)]] w fun e' w' => (∃ u, e' = .returned u) ∧ WrP w' B b (andE (.ok magicL) (listE n 16 f)) K ∧ WrT B K w w' := by
  by_cases hn : n ≤ 16
  · exact list_okEnc1 B b c1 c2 magicL K n 16 4 M f w h (NB (by omega)) hn (by decide) (by decide) (by omega) hf hst
  · refine (list_bigEnc1 B b c1 c2 K n 16 w h (by omega)).mono fun e' w' ⟨hu, hX, hT⟩ => ⟨hu, ?_, hT⟩
    rw [listE, if_pos (by omega)]; exact ⟨by decide, hX⟩
theorem funs_ok {B : Nat} {w : World} {v : Value} {l : List FunD} (h : RdRow 5 (ElU B) B w v l) : ∀ i, i < l.length → lenE (funE (l.getD i fun0)) 5600 := by
  obtain ⟨a, c, _, _, hel⟩ := h
  intro i hi
  obtain ⟨d, o, _, _, _, _, _, _, u4, _, g4⟩ := hel i hi
  have hg : l.getD i fun0 = l[i] := by simp [List.getD_eq_getElem?_getD, hi]
  rw [hg]; exact lenE_fun _ (codeOk_of g4)
/-- what Encode has laid when it comes to its first list -/
theorem enc_laid (w : World) (s1 s2 : Value) {W : World} (hW : W = ((((w.alloc (.cells #[s1, s2] 29)).alloc (.cells #[.int .u8 87, .int .u8 68, .int .u8 82, .int .u8 49] 5 (4, 5))).alloc (.cells #[.slice (some ⟨w.heap.size + 1, 0, none⟩) 4 4, .int .i64 0] 60)).alloc (.cells #[.pointer (some ⟨w.heap.size + 1 + 1, 0, none⟩)] 58))) :
    Blk W (w.heap.size + 1 + 1) #[.slice (some ⟨w.heap.size + 1, 0, none⟩) 4 4, .int .i64 0] 60 ∧ Blk W (w.heap.size + 1 + 1 + 1) #[.pointer (some ⟨w.heap.size + 1 + 1, 0, none⟩)] 58 ∧ Blk W w.heap.size #[s1, s2] 29 ∧
    (∀ j u, (u8L magicL)[j]? = some u → W.cell? ((⟨w.heap.size + 1, 0, none⟩ : Addr).add j) = some u) ∧ Below w.heap.size w W ∧ W.heap.size = w.heap.size + 4 := by
  subst hW
  refine ⟨(Blk.new' (by simp)).alloc _, Blk.new' (by simp), (((Blk.new _ _ _).alloc _).alloc _).alloc _, fun j u hu => ?_, ((((Below.refl _ _).alloc (Nat.le_refl _) _).alloc (by simp) _).alloc (by simp; omega) _).alloc (by simp; omega) _, by simp⟩
  have hb : ((((w.alloc (.cells #[s1, s2] 29)).alloc (.cells #[.int .u8 87, .int .u8 68, .int .u8 82, .int .u8 49] 5 (4, 5))).alloc (.cells #[.slice (some ⟨w.heap.size + 1, 0, none⟩) 4 4, .int .i64 0] 60)).alloc (.cells #[.pointer (some ⟨w.heap.size + 1 + 1, 0, none⟩)] 58)).heap[w.heap.size + 1]? = some (.cells #[.int .u8 87, .int .u8 68, .int .u8 82, .int .u8 49] 5 (4, 5)) := by
    rw [Below.heap_alloc _ _ _ (by simp), Below.heap_alloc _ _ _ (by simp), show w.heap.size + 1 = (w.alloc (.cells #[s1, s2] 29)).heap.size by simp]
    exact heap_alloc_new _ _
  exact World.news_of_block (cs := #[.int .u8 87, .int .u8 68, .int .u8 82, .int .u8 49]) hb j u hu
set_option maxRecDepth 100000 in
set_option maxHeartbeats 4000000 in
theorem encode_any (p : PrgD) (v1 v2 : Value) (w : World) (B0 : Nat) (hB0 : B0 ≤ w.heap.size) (h : RdPrg B0 w v1 v2 p) :
    Calls Try.prog 13 #[.agg #[v1, v2]] w (EncPost (encE p) w) := by
  obtain ⟨a1, p1, s1⟩ := rd_shape h.1
  obtain ⟨a2, p2, s2⟩ := rd_shape h.2
  subst s1 s2
  have hcv : (convert 31 31 (.slice (some ⟨w.heap.size + 1, 0, none⟩) 4 4)).run Try.prog ((w.alloc (.cells #[.slice a1 p.classes.length p1, .slice a2 p.funcs.length p2] 29)).alloc (.cells #[.int .u8 87, .int .u8 68, .int .u8 82, .int .u8 49] 5)) = .ok (.slice (some ⟨w.heap.size + 1, 0, none⟩) 4 4) ((w.alloc (.cells #[.slice a1 p.classes.length p1, .slice a2 p.funcs.length p2] 29)).alloc (.cells #[.int .u8 87, .int .u8 68, .int .u8 82, .int .u8 49] 5 (4, 5))) := by
    have := run_conv_bytes (w.alloc (.cells #[.slice a1 p.classes.length p1, .slice a2 p.funcs.length p2] 29)) #[.int .u8 87, .int .u8 68, .int .u8 82, .int .u8 49] 4 4
    simpa using this
  have RP := Lib.hid (fun W (hb : Below w.heap.size w W) => ((h.mono hB0).keep hb))
  have HFU := Lib.hid (funs_ok (h.mono hB0).2)
  clear h hB0
  go_enter Try.func13, Try.ntmps13
  go_wp2_with fail
  clear hcv
  generalize hW : World.alloc _ _ = W
  obtain ⟨kb, kc1, kc2, hg, hbel, hsz⟩ := enc_laid w _ _ hW.symm
  clear hW
  generalize hS : w.heap.size = S at *
  have hE : WrE W S (S + 1 + 1) 0 (fun x => x = S + 1 + 1 + 1 ∨ x = S) := ⟨⟨_, kb⟩, by omega, by omega, by omega, fun x hx => by omega⟩
  have ST := Lib.hid (list_first S (S + 1 + 1) (S + 1 + 1 + 1) S p.classes.length 441 _ (fun i => clsE (p.classes.getD i cls0)) W hE (fun hn => number_first S _ _ _ _ W kb hg hE.nb hE.bb hE.bw hE.lt hn) (by decide) (fun i _ => lenE_cls _)
    (fun i l W' hi hn hX hT hl => enc1_any S _ _ _ i l p _ _ _ W' hX (hT.kept kc1 (.inl rfl)) (hT.kept kc2 (.inr rfl)) (RP.out W' (hbel.trans (hT.below hE.bw))).1 hi (by omega)))
  have hHE := Lib.hid hE
  have hHB := Lib.hid hbel
  have HS := Lib.hid hsz
  clear hg kb hE hbel hsz
  refine ST.out.mono ?_
  rintro e w1 ⟨⟨u, rfl⟩, hP1, hT1⟩
  have r1 := hT1.kept kc1 (.inl rfl)
  have r2 := hT1.kept kc2 (.inr rfl)
  have d1 := r1.val 0 rfl
  have d2 := r2.val 1 rfl
  have hb1 := hHB.out.trans (hT1.below hHE.out.bw)
  have hs1 := Nat.le_trans hHE.out.bw hT1.size
  have l1 : lenE (andE (.ok magicL) (clssE p)) 7070 := lenE_mono (lenE_and (M := 4) (fun q e => by injection e with e; subst e; decide) (lenE_list (by decide) fun i _ => lenE_cls _)) (by decide)
  have ST2 := Lib.hid (list_anyEnc2 S (S + 1 + 1) (S + 1 + 1 + 1) S _ _ p.funcs.length 16 7070 5600 (fun i => funE (p.funcs.getD i fun0)) w1 hP1 (by decide) l1 (by decide) HFU.out
    (fun i l W' hi hn hX hT hl => enc2_any S _ _ _ i l p _ _ _ W' hX (hT.kept r1 (.inl rfl)) (hT.kept r2 (.inr rfl)) (RP.out W' (hb1.trans (hT.below hs1))).2 hi (by omega)))
  have hHB1 := Lib.hid (And.intro hb1 hs1)
  clear ST hP1 hT1 hb1 hs1 l1 kc1 kc2
  go_wp2_with fail
  refine ST2.out.mono ?_
  rintro e w2 ⟨⟨u, rfl⟩, hP2, hT2⟩
  have k1 := hT2.kept r1 (.inl rfl)
  have d1 := k1.val 0 rfl
  have hb2 := Lib.hid (hHB1.out.1.trans (hT2.below hHB1.out.2))
  clear ST2 r1 r2 d2 hT2 k1
  obtain ⟨x, c0, cf, hcase⟩ := hP2.cell
  clear hP2
  rcases hcase with ⟨e0, m, hm1, hX1⟩ | ⟨e0, hm1, hX1⟩
  · obtain rfl : x = 0 := by simpa using e0
    obtain ⟨⟨v, h1, h2, h3⟩, _⟩ := hX1
    have c1 := h1.val 0 rfl
    obtain ⟨va, vc, rfl⟩ := row_shape h2
    have HM : Hid (encE p = .ok m) := hm1
    have HO := Lib.hid h2
    clear h1 h2 h3 hm1 e0
    go_wp2
    go_ret2
    refine ⟨?_, by rw [hS]; exact hb2.out⟩
    rw [HM.out, hS]
    exact ⟨_, rfl, HO.out⟩
  · have e1 : (x != 0) = true := by simpa using e0
    have HM : Hid (encE p = .error x ∧ x ≠ 0) := ⟨hm1, by simpa using e0⟩
    clear hm1 e0 hX1
    go_wp2
    go_quiet (fail)
    go_wp2
    go_ret2
    refine ⟨?_, by rw [hS]; exact below_drewN hb2.out _⟩
    rw [HM.out.1]
    exact ⟨HM.out.2, rfl⟩
end Go.Proofs.Ytecpokegmfnlaaa
/- The document's part (bytes and the first error): its state as a value; Number, put. Condition: its row is there. -/
namespace Go.Proofs.Ytecpokegmfnlaaa
open Go.RowKit
set_option linter.unusedVariables false
/-- bytes in a row of one's own, in none of K's blocks; or in a row that is full -/
def RowY (f : Bool) (w : World) (B : Nat) (v : Value) (l : List UInt8) (K : Nat → Prop) : Prop :=
  (w.ownsRow B 5 1 v l.length (u8L l) ∧ ∀ g, v.ownBlock = some g → ¬ K g) ∨
  (f = true ∧ ∃ g, v = .slice (some ⟨g, 0, none⟩) l.length l.length ∧ ¬ K g ∧ g < w.heap.size ∧ ∀ j u, (u8L l)[j]? = some u → w.cell? ((⟨g, 0, none⟩ : Addr).add j) = some u)
/-- A part: bytes, or in error; the blocks of K are none of its own. -/
structure PartV (f : Bool) (w : World) (B : Nat) (K : Nat → Prop) (vv : Value) (r : Res) : Prop where
  ex : ∃ a n c e, vv = .agg #[.slice a n c, .int .i64 e] ∧ (match r with | .ok l => e = 0 ∧ RowY f w B (.slice a n c) l K | .error x => e = x ∧ x ≠ 0)
  bw : B ≤ w.heap.size
  lt : ∀ x, K x → x < w.heap.size
section
variable {f : Bool} {w w' : World} {B : Nat} {K K' : Nat → Prop} {v vv : Value} {l : List UInt8} {r : Res}
theorem RowY.keep {R : Nat → Prop} (h : RowY f w B v l K) (ht : Touch R w w') (hR : ∀ x, R x → K x) : RowY f w' B v l K := by
  rcases h with ⟨⟨e1, e2⟩, h2⟩ | ⟨hf, g, h1, h2, hlt, h3⟩
  · refine .inl ⟨⟨e1, ?_⟩, h2⟩
    rcases e2 with e2 | ⟨g, cap, cur, a1, a2, a3, a4⟩
    · exact .inl e2
    · refine .inr ⟨g, cap, cur, a1, a2, ?_, a4⟩
      rw [ht.block g (Array.getElem?_eq_some_iff.1 a3).1 (fun r => h2 g (by rw [a1]; rfl) (hR _ r))]
      exact a3
  · refine .inr ⟨hf, g, h1, h2, Nat.lt_of_lt_of_le hlt ht.size, fun j u hu => ?_⟩
    have c := h3 j u hu
    have e : (⟨g, 0, none⟩ : Addr).add j = ⟨g, j, none⟩ := by unfold Addr.add; split <;> simp_all
    rw [e] at c ⊢
    rw [World.cell?_of_block (ht.block g (World.block_lt_of_cell? w _ c) (fun r => h2 (hR _ r)))]
    exact c
theorem RowY.sub (h : RowY f w B v l K) (hs : ∀ x, K' x → K x) : RowY f w B v l K' := by
  rcases h with ⟨h1, h2⟩ | ⟨hf, g, h1, h2, hlt, h3⟩
  · exact .inl ⟨h1, fun g e r => h2 g e (hs _ r)⟩
  · exact .inr ⟨hf, g, h1, fun r => h2 (hs _ r), hlt, h3⟩
theorem RowY.lt (h : RowY f w B v l K) : ∀ g, v.ownBlock = some g → g < w.heap.size := by
  rcases h with ⟨h1, h2⟩ | ⟨hf, g, h1, h2, hlt, h3⟩
  · exact fun g e => (h1.lt g e).2
  · intro g' e
    rw [h1] at e
    obtain rfl : g = g' := Option.some.inj e
    exact hlt
theorem RowY.up (h : RowY f w B v l K) (hK : ∀ g, v.ownBlock = some g → K' g → K g) : RowY f w B v l K' := by
  rcases h with ⟨h1, h2⟩ | ⟨hf, g, h1, h2, hlt, h3⟩
  · exact .inl ⟨h1, fun g e r => h2 g e (hK g e r)⟩
  · exact .inr ⟨hf, g, h1, fun r => h2 (hK g (by rw [h1]; rfl) r), hlt, h3⟩
theorem PartV.touch {R : Nat → Prop} (h : PartV f w B K vv r) (ht : Touch R w w') (hR : ∀ x, R x → K x) : PartV f w' B K vv r := by
  obtain ⟨⟨a, n, c, e, h1, h2⟩, h3, h4⟩ := h
  refine ⟨⟨a, n, c, e, h1, ?_⟩, Nat.le_trans h3 ht.size, fun x hx => Nat.lt_of_lt_of_le (h4 x hx) ht.size⟩
  cases r with
  | ok l => exact ⟨h2.1, h2.2.keep ht hR⟩
  | error x => exact h2
theorem PartV.grew (h : PartV f w B K vv r) (hb : Below w.heap.size w w') : PartV f w' B K vv r := h.touch (R := fun _ => False) (Touch.of hb) (fun _ q => q.elim)
theorem PartV.sub (h : PartV f w B K vv r) (hs : ∀ x, K' x → K x) : PartV f w B K' vv r := by
  obtain ⟨⟨a, n, c, e, h1, h2⟩, h3, h4⟩ := h
  refine ⟨⟨a, n, c, e, h1, ?_⟩, h3, fun x hx => h4 x (hs _ hx)⟩
  cases r with
  | ok l => exact ⟨h2.1, h2.2.sub hs⟩
  | error x => exact h2
theorem PartV.add (h : PartV f w B K vv r) (hb : Below w.heap.size w w') {m : Nat} (hm : w.heap.size ≤ m) (hm' : m < w'.heap.size) : PartV f w' B (fun x => x = m ∨ K x) vv r := by
  obtain ⟨⟨a, n, c, e, h1, h2⟩, h3, h4⟩ := h
  refine ⟨⟨a, n, c, e, h1, ?_⟩, Nat.le_trans h3 hb.size, fun x hx => hx.elim (fun q => by omega) (fun q => Nat.lt_of_lt_of_le (h4 x q) hb.size)⟩
  cases r with
  | error x => exact h2
  | ok l => exact ⟨h2.1, (h2.2.keep (R := fun _ => False) (Touch.of hb) (fun _ q => q.elim)).up fun g e r => r.elim (fun q => by have := h2.2.lt g e; omega) id⟩
end
/-- an append to it, of bytes that are there -/
theorem wpList_append_y {f : Bool} {w : World} {B : Nat} {K : Nat → Prop} {v : Value} {l : List UInt8} {ops : Array Oper} {rest : List Oper} {o : Oper} {a : Act} {Q : Exit → Act → World → Prop} (hgd : o.guard = none) (s x : Operand)
    (ho : o.op = .call { callee := .builtin .append, args := #[s, x], argTypes := #[31, 31] }) (hs : a.eval s = v) (hrow : RowY f w B v l K)
    (ad : Addr) (c : Nat) (m : List UInt8) (hx : a.eval x = .slice (some ad) m.length c) (hnews : ∀ j u, (u8L m)[j]? = some u → w.cell? (ad.add j) = some u) (hm : 0 < m.length ∨ f = false)
    (hsz : l.length + m.length ≤ 1000000000) (hB : B ≤ w.heap.size) (hlt : ∀ x, K x → x < w.heap.size)
    (h : ∀ a' n' c' w', n' = l.length + m.length → RowY false w' B (.slice a' n' c') (l ++ m) K → WrT B K w w' → wpList Try.prog ops Q rest (a.put o.dst (.slice a' n' c')) w') :
    wpList Try.prog ops Q (o :: rest) a w := by
  obtain ⟨i0, hi, hz0, hz1, hz2⟩ := info_parts info_u8
  have h1c : ∀ u ∈ u8L m, u.oneCell' = true := by
    intro u hu
    simp [u8L] at hu
    obtain ⟨y, _, rfl⟩ := hu
    rfl
  have hrow' : (w.ownsRow B 5 1 v l.length (u8L l) ∧ ∀ g, v.ownBlock = some g → ¬ K g) ∨ (∃ g, 0 < m.length ∧ v = .slice (some ⟨g, 0, none⟩) l.length l.length ∧ ¬ K g ∧ g < w.heap.size ∧ ∀ j u, (u8L l)[j]? = some u → w.cell? ((⟨g, 0, none⟩ : Addr).add j) = some u) := by
    rcases hrow with q | ⟨hf, g, r1, r2, r3, r4⟩
    · exact .inl q
    · rcases hm with hp | q
      · exact .inr ⟨g, hp, r1, r2, r3, r4⟩
      · rw [hf] at q; cases q
  rcases hrow' with ⟨r1, r2⟩ | ⟨g, hm', r1, r2, r3, r4⟩
  · refine wpList_append_own_at _ hgd s x 31 ho B 5 i0 (.int .u8 0) 1 1 Try.underlying31 hi hz0 hz1 hz2 rfl (by decide) v l.length (u8L l) hs r1 ad m.length c (u8L m) hx (by simp [u8L]) hnews h1c (by unfold maxLen; omega) (by omega) hB ?_
    intro v' w' hown hgrow _ hat
    obtain ⟨a', c', rfl⟩ := row_shape hown
    refine h a' _ c' w' rfl (.inl ⟨by rw [u8L_app, List.length_append]; exact hown, fun g e => ?_⟩) ((Touch.refl _ w).grown hgrow (fun k hk => .inl ⟨(r1.lt k hk).1, r2 k hk⟩))
    rcases hat with q | q
    · exact r2 g (q ▸ e)
    · rw [q] at e
      obtain rfl := Option.some.inj e
      exact fun r => by have := hlt _ r; omega
  · subst r1
    refine wpList_append_grows _ hgd s x 31 ho 5 i0 (.int .u8 0) 1 1 Try.underlying31 hi hz0 hz1 hz2 rfl (by decide) (some ⟨g, 0, none⟩) l.length l.length (u8L l) hs (fun h => by cases h) (by simp [u8L]) (fun b hb => by obtain rfl := Option.some.inj hb; exact r4) ad m.length c (u8L m) hx (by simp [u8L]) hnews h1c (by omega) (by unfold maxLen; omega) (by omega) ?_
    intro v' w' hown hgrow
    obtain ⟨a', c', rfl⟩ := row_shape hown
    have hlo : ∀ k, (Value.slice a' (l.length + m.length) c').ownBlock = some k → w.heap.size ≤ k := fun k hk => (hown.lt k hk).1
    refine h a' _ c' w' rfl (.inl ⟨?_, fun g e r => by have := hlt _ r; have := hlo g e; omega⟩) ((Touch.refl _ w).grown hgrow (fun k hk => by cases hk))
    rw [u8L_app, List.length_append]
    obtain ⟨e1, e2⟩ := hown
    refine ⟨e1, ?_⟩
    rcases e2 with e2 | ⟨q, cap, cur, a1, a2, a3⟩
    · exact .inl e2
    · exact .inr ⟨q, cap, cur, a1, by omega, a3⟩
end Go.Proofs.Ytecpokegmfnlaaa
/- The document's Number and put. Condition: the part's row is there. -/
namespace Go.Proofs.Ytecpokegmfnlaaa
open Go.RowKit
set_option linter.unusedVariables false
theorem hi8 (m : Nat) : ((128 : Int) + (m : Int) % 128) = (((UInt8.ofNat (128 + m % 128)).toNat : Nat) : Int) := by
  simp
  omega
set_option maxRecDepth 100000 in
set_option maxHeartbeats 1000000 in
theorem rnumber_any (n : Nat) (w : World) (hn : n < 18446744073709551616) :
    Calls Try.prog 66 #[.int .u64 n] w fun e w' => ∃ v, e = .returned v ∧ w'.ownsRow w.heap.size 5 1 v (numB n).length (u8L (numB n)) ∧ Below w.heap.size w w' := by
  obtain ⟨i0, hi, hz0, hz1, hz2⟩ := info_parts info_u8
  have HN := Lib.hid (numB_len10 hn)
  go_enter Try.func66, Try.ntmps66
  go_wp2
  go_loopw [0, 3] (fun x y wr => ∃ (m : Nat) (cs : List UInt8), x = .int .u64 m ∧ m ≤ n ∧ wr.ownsRow w.heap.size 5 1 y cs.length (u8L cs) ∧ Below w.heap.size w wr ∧ cs ++ numB m = numB n) (fun x _ _ => (intOf x).toNat)
  case atStart => exact ⟨n, [], rfl, Nat.le_refl _, World.ownsRow_nil _ _ _ _, Below.refl _ _, rfl⟩
  case round =>
    obtain ⟨m, cs, rfl, hmn, hO, hB, heq⟩ := hrel
    obtain ⟨va, vc, rfl⟩ := row_shape hO
    have hlen : cs.length + 1 ≤ 10 := by
      have := congrArg List.length heq
      simp only [List.length_append] at this
      have := HN.out
      have := numB_pos m
      omega
    have HE := Lib.hid heq
    clear heq
    have hsz := hB.size
    by_cases hm : 128 ≤ m
    · have hm' : (128 : Int) ≤ (m : Int) := by omega
      have HO := Lib.hid (hi8 m)
      go_wp2_with (at_builtin; refine wpList_append_own_at _ rfl _ _ 31 rfl w.heap.size 5 i0 (.int .u8 0) 1 1 Try.underlying31 hi hz0 hz1 hz2 rfl (by decide) _ _ _ rfl (hO.alloc _) ⟨wr.heap.size, 0, none⟩ 1 1 [Value.int .u8 ((UInt8.ofNat (128 + m % 128)).toNat : Int)] rfl rfl (by rw [← HO.out]; exact one_new _ _ _) (by simp [Value.oneCell']) (by unfold maxLen; omega) (by omega) (by simp; omega) ?_; intro v' w1 hown' hgrow _ hat; obtain ⟨ga, gc, rfl⟩ := row_shape hown'; have hB1 := (hB.alloc (by omega) _).grown hgrow (by simp; omega) (fun k hk => (hO.lt k hk).1); clear hgrow hat hO)
      go_roundw
      case rel => exact ⟨m / 128, cs ++ [UInt8.ofNat (128 + m % 128)], by go_num, by omega, by rw [u8L_app, List.length_append]; exact hown', hB1, by rw [List.append_assoc, List.singleton_append, ← numB_hi hm]; exact HE.out⟩
      case measure => simp [intOf]; omega
    · have hm' : ¬ (128 : Int) ≤ (m : Int) := by omega
      have HO := Lib.hid (lo8 m (by omega))
      go_wp2_with (at_builtin; refine wpList_append_own_at _ rfl _ _ 31 rfl w.heap.size 5 i0 (.int .u8 0) 1 1 Try.underlying31 hi hz0 hz1 hz2 rfl (by decide) _ _ _ rfl (hO.alloc _) ⟨wr.heap.size, 0, none⟩ 1 1 [Value.int .u8 ((UInt8.ofNat m).toNat : Int)] rfl rfl (by rw [← HO.out]; exact one_new _ _ _) (by simp [Value.oneCell']) (by unfold maxLen; omega) (by omega) (by simp; omega) ?_; intro v' w1 hown' hgrow _ hat; obtain ⟨ga, gc, rfl⟩ := row_shape hown'; have hB1 := (hB.alloc (by omega) _).grown hgrow (by simp; omega) (fun k hk => (hO.lt k hk).1); clear hgrow hat hO)
      go_ret
      refine ⟨_, rfl, ?_, hB1⟩
      rw [← HE.out, numB_lo (by omega), u8L_app, List.length_append]
      exact hown'
/-! put -/
theorem two_new (w : World) (o1 : Obj) (cs : Array Value) (t : TypeId) : Blk ((w.alloc o1).alloc (.cells cs t)) (w.heap.size + 1) cs t ∧ Below w.heap.size w ((w.alloc o1).alloc (.cells cs t)) :=
  ⟨Blk.new' (by simp), ((Below.refl _ _).alloc (Nat.le_refl _) _).alloc (by simp) _⟩
theorem PartV.err {f : Bool} {w : World} {B : Nat} {K : Nat → Prop} {vv : Value} {r : Res} (h : PartV f w B K vv r) (a : Option Addr) (n c : Nat) (x : Int) (hx : x ≠ 0) : PartV f w B K (.agg #[.slice a n c, .int .i64 x]) (.error x) :=
  ⟨⟨a, n, c, x, rfl, rfl, hx⟩, h.bw, h.lt⟩
theorem PartV.errF {f g : Bool} {w : World} {B : Nat} {K : Nat → Prop} {vv : Value} {x : Int} (h : PartV f w B K vv (.error x)) : PartV g w B K vv (.error x) := ⟨h.ex, h.bw, h.lt⟩
set_option maxRecDepth 100000 in
set_option maxHeartbeats 1000000 in
theorem put_old (f : Bool) (w : World) (B : Nat) (K : Nat → Prop) (vv v2 : Value) (x e2 : Int) (h : PartV f w B K vv (.error x)) (hv2 : ∃ a n c, v2 = .slice a n c) :
    Calls Try.prog 65 #[vv, v2, .int .i64 e2] w fun e' w' => ∃ vv', e' = .returned vv' ∧ PartV false w' B K vv' (.error x) ∧ Below w.heap.size w w' := by
  obtain ⟨a2, n2, c2, rfl⟩ := hv2
  have h0 := h
  obtain ⟨⟨a, n, c, e, rfl, rfl, h5⟩, h3, h4⟩ := h
  have h6 : (e != 0) = true := by simpa using h5
  obtain ⟨k2, hb⟩ := two_new w (.cells #[.slice a n c, .int .i64 e] 66) #[.slice a n c, .int .i64 e] 66
  have c0 := k2.val 0 rfl
  have c1 := k2.val 1 rfl
  have H0 := Lib.hid h0
  have HB := Lib.hid hb
  clear h0 h3 h4 h5 k2 hb
  go_enter Try.func65, Try.ntmps65
  go_wp2
  generalize World.alloc _ _ = W at *
  refine bodyPost_ret (v := .agg #[.slice a n c, .int .i64 e]) (by simp [results, Try.results65, go_sem, c0, c1]) rfl ⟨_, rfl, (H0.out.errF).grew HB.out, HB.out⟩
set_option maxRecDepth 100000 in
set_option maxHeartbeats 1000000 in
theorem put_new (f : Bool) (w : World) (B : Nat) (K : Nat → Prop) (vv v2 : Value) (l : List UInt8) (e2 : Int) (h : PartV f w B K vv (.ok l)) (he : e2 ≠ 0) (hv2 : ∃ a n c, v2 = .slice a n c) :
    Calls Try.prog 65 #[vv, v2, .int .i64 e2] w fun e' w' => ∃ vv', e' = .returned vv' ∧ PartV false w' B K vv' (.error e2) ∧ Below w.heap.size w w' := by
  obtain ⟨a2, n2, c2, rfl⟩ := hv2
  have h0 := h
  obtain ⟨⟨a, n, c, e, rfl, rfl, h5⟩, h3, h4⟩ := h
  have he2 : (e2 != 0) = true := by simpa using he
  obtain ⟨k2, hb⟩ := two_new w (.cells #[.slice a n c, .int .i64 0] 66) #[.slice none 0 0, .int .i64 e2] 66
  have c0 := k2.val 0 rfl
  have c1 := k2.val 1 rfl
  have H0 := Lib.hid (h0.err none 0 0 e2 he)
  have HB := Lib.hid hb
  clear h0 h3 h4 h5 k2 hb he
  go_enter Try.func65, Try.ntmps65
  go_wp2
  generalize World.alloc _ _ = W at *
  refine bodyPost_ret (v := .agg #[.slice none 0 0, .int .i64 e2]) (by simp [results, Try.results65, go_sem, c0, c1]) rfl ⟨_, rfl, (H0.out.errF).grew HB.out, HB.out⟩
set_option maxRecDepth 100000 in
set_option maxHeartbeats 2000000 in
theorem put_ok (f : Bool) (w : World) (B : Nat) (K : Nat → Prop) (vv : Value) (l m : List UInt8) (ad : Addr) (c2 : Nat) (h : PartV f w B K vv (.ok l)) (hm : ∀ j u, (u8L m)[j]? = some u → w.cell? (ad.add j) = some u) (hpos : 0 < m.length ∨ f = false) (hsz : l.length + m.length ≤ 1000000000) :
    Calls Try.prog 65 #[vv, .slice (some ad) m.length c2, .int .i64 0] w fun e' w' => ∃ vv', e' = .returned vv' ∧ PartV false w' B K vv' (.ok (l ++ m)) ∧ WrT B K w w' := by
  have h0 := h
  obtain ⟨⟨a, n, c, e, rfl, rfl, h5⟩, h3, h4⟩ := h
  have hb1 : Below w.heap.size w (w.alloc (.cells #[.slice a n c, .int .i64 0] 66)) := (Below.refl _ _).alloc (Nat.le_refl _) _
  have hP := (h0.add hb1 (m := w.heap.size) (Nat.le_refl _) (by simp)).add (w' := (w.alloc (.cells #[.slice a n c, .int .i64 0] 66)).alloc (.cells #[.slice none 0 0, .int .i64 0] 66)) ((Below.refl _ _).alloc (Nat.le_refl _) _) (m := w.heap.size + 1) (by simp) (by simp)
  obtain ⟨k2, hb⟩ := two_new w (.cells #[.slice a n c, .int .i64 0] 66) #[.slice none 0 0, .int .i64 0] 66
  have k1 : Blk ((w.alloc (.cells #[.slice a n c, .int .i64 0] 66)).alloc (.cells #[.slice none 0 0, .int .i64 0] 66)) w.heap.size #[.slice a n c, .int .i64 0] 66 := (Blk.new _ _ _).alloc _
  have hm2 : ∀ j u, (u8L m)[j]? = some u → ((w.alloc (.cells #[.slice a n c, .int .i64 0] 66)).alloc (.cells #[.slice none 0 0, .int .i64 0] 66)).cell? (ad.add j) = some u := fun j u hu => by
    have q := hm j u hu
    exact (hb.cell (World.block_lt_of_cell? w _ q)).trans q
  have HT0 : Hid (WrT B K w ((w.alloc (.cells #[.slice a n c, .int .i64 0] 66)).alloc (.cells #[.slice none 0 0, .int .i64 0] 66))) := WrT.of hb
  have hY : RowY f ((w.alloc (.cells #[.slice a n c, .int .i64 0] 66)).alloc (.cells #[.slice none 0 0, .int .i64 0] 66)) B (.slice a n c) l (fun x => x = w.heap.size + 1 ∨ (x = w.heap.size ∨ K x)) := by
    obtain ⟨⟨a', n', c', e', q1, q2, q3⟩, _⟩ := hP
    injection q1 with q1
    have e : (Value.slice a n c) = .slice a' n' c' := by
      have := congrArg (fun z => z[0]?) q1
      simpa using this
    rw [← e] at q3
    exact q3
  have HB := Lib.hid (And.intro hP.bw hP.lt)
  have HM := Lib.hid hm2
  have HY := Lib.hid hY
  have d0 := k1.val 0 rfl
  have d1 := k1.val 1 rfl
  have HK := Lib.hid (And.intro h3 h4)
  clear hP hY hm2 hm h0 h3 h4 h5 hb1 hb
  go_enter Try.func65, Try.ntmps65
  go_wp2_with (at_builtin; refine wpList_append_y rfl _ _ rfl rfl HY.out ad c2 m rfl HM.out hpos hsz HB.out.1 HB.out.2 ?_; intro a' n' c' w3 hn' hRY hT; have q2 := hT.kept k2 (.inl rfl); have g0 := q2.val 0 rfl; have g1 := q2.val 1 rfl; have f0 := q2.frozen 0; have f1 := q2.frozen 1; have HN := Lib.hid hn'; have HRY := Lib.hid hRY; have HT := Lib.hid hT; clear hn' hRY hT d0 d1 k1 k2)
  have k3 := (q2.set 0 (.slice a' n' c')).set 1 (.int .i64 0)
  have hT3 : Touch (fun x => x = w.heap.size + 1) w3 ((w3.setCell ⟨w.heap.size + 1, 0, none⟩ (.slice a' n' c')).setCell ⟨w.heap.size + 1, 1, none⟩ (.int .i64 0)) := ((Touch.refl (fun x => x = w.heap.size + 1) w3).setCell (p := ⟨w.heap.size + 1, 0, none⟩) rfl _).setCell (p := ⟨w.heap.size + 1, 1, none⟩) rfl _
  generalize (w3.setCell ⟨w.heap.size + 1, 0, none⟩ (.slice a' n' c')).setCell ⟨w.heap.size + 1, 1, none⟩ (.int .i64 0) = W at *
  have c0 := k3.val 0 rfl
  have c1 := k3.val 1 rfl
  have hsW := Nat.le_trans (Nat.le_trans HB.out.1 HT.out.size) hT3.size
  refine bodyPost_ret (v := .agg #[.slice a' n' c', .int .i64 0]) (by simp [results, Try.results65, go_sem, c0, c1]) rfl ⟨_, rfl, ⟨⟨a', n', c', 0, rfl, rfl, (HRY.out.keep hT3 (fun x e => .inl e)).sub fun x hx => .inr (.inr hx)⟩, hsW, fun x hx => ?_⟩, ?_⟩
  · exact Nat.lt_of_lt_of_le (HB.out.2 x (.inr (.inr hx))) (Nat.le_trans HT.out.size hT3.size)
  · refine HT0.out.trans (WrT.trans (HT.out.sub fun x hx => .inr (.inr hx)) (hT3.mono fun x _ e => ⟨by have := HK.out.1; omega, fun r => by have := HK.out.2 _ r; omega⟩))
end Go.Proofs.Ytecpokegmfnlaaa
/- The law's own example: an instruction has its bytes. No condition. -/
namespace Go.Proofs.Ytecpokegmfnlaaa
open Go.RowKit
set_option linter.unusedVariables false
def i0D : InsD := ⟨25, 1, 300⟩
def p0D : PrgD := ⟨[], [⟨⟨#[102]⟩, [], 0, [], [i0D]⟩]⟩
theorem ins0_eq : insE i0D = .ok [25, 1, 172, 2] := by
  have h1 : rightB i0D = true := by decide
  rw [insE, if_pos h1]
  simp [insL, i0D, opsI, numB_lo, numB_hi]
theorem enc0_eq : encE p0D = .ok [87, 68, 82, 49, 0, 1, 1, 102, 0, 0, 0, 1, 25, 1, 172, 2] := by
  have n0 : numB 0 = [0] := numB_lo (by decide)
  have n1 : numB 1 = [1] := numB_lo (by decide)
  have nm : nameE ⟨#[102]⟩ = .ok [1, 102] := by
    show listE 1 16 _ = _
    simp [listE, seqE, n1, andE, nameF]
  have kd : ∀ m, kindsE [] m = .ok [0] := fun m => by simp [kindsE, listE, seqE, n0, andE]
  have cd : codeE [i0D] = .ok [1, 25, 1, 172, 2] := by simp [codeE, listE, seqE, n1, andE, ins0_eq]
  have fn : funE ⟨⟨#[102]⟩, [], 0, [], [i0D]⟩ = .ok [1, 102, 0, 0, 0, 1, 25, 1, 172, 2] := by
    simp [funE, nm, kd, cd, kindE, andE]
  simp [encE, p0D, clssE, funsE, listE, seqE, n0, n1, fn, andE, magicL]
theorem rd_nil {α : Type} (sz : Nat) (el : World → Nat → Nat → α → Prop) (B : Nat) (w : World) : RdRow sz el B w (.slice none 0 0) [] := ⟨none, 0, rfl, by unfold maxLen; simp, fun i hi => absurd hi (by simp)⟩
theorem coded_prg (w : World) : RdPrg (w.heap.size + 2) ((w.alloc (.cells #[.int .i64 25, .int .i64 1, .int .i64 300] 23)).alloc (.cells #[.string ⟨#[102]⟩, .slice none 0 0, .int .i64 0, .slice none 0 0, .slice (some ⟨w.heap.size, 0, none⟩) 1 1] 54)) (.slice none 0 0) (.slice (some ⟨w.heap.size + 1, 0, none⟩) 1 1) p0D := by
  have h1 : Blk ((w.alloc (.cells #[.int .i64 25, .int .i64 1, .int .i64 300] 23)).alloc (.cells #[.string ⟨#[102]⟩, .slice none 0 0, .int .i64 0, .slice none 0 0, .slice (some ⟨w.heap.size, 0, none⟩) 1 1] 54)) w.heap.size #[.int .i64 25, .int .i64 1, .int .i64 300] 23 := (Blk.new _ _ _).alloc _
  have h2 : Blk ((w.alloc (.cells #[.int .i64 25, .int .i64 1, .int .i64 300] 23)).alloc (.cells #[.string ⟨#[102]⟩, .slice none 0 0, .int .i64 0, .slice none 0 0, .slice (some ⟨w.heap.size, 0, none⟩) 1 1] 54)) (w.heap.size + 1) #[.string ⟨#[102]⟩, .slice none 0 0, .int .i64 0, .slice none 0 0, .slice (some ⟨w.heap.size, 0, none⟩) 1 1] 54 := Blk.new' (by simp)
  refine ⟨rd_nil _ _ _ _, some ⟨w.heap.size + 1, 0, none⟩, 1, rfl, by unfold maxLen; decide, fun i hi => ?_⟩
  obtain rfl : i = 0 := by simpa [p0D] using hi
  refine ⟨w.heap.size + 1, 0, rfl, by omega, h2.val 0 rfl, ⟨_, h2.val 1 rfl, rd_nil _ _ _ _⟩, ⟨h2.val 2 rfl, (⟨by decide, by decide⟩ : I64 0)⟩, ⟨_, h2.val 3 rfl, rd_nil _ _ _ _⟩, _, h2.val 4 rfl, ?_⟩
  refine ⟨some ⟨w.heap.size, 0, none⟩, 1, rfl, (by unfold maxLen; decide : 1 ≤ maxLen), fun i hi => ?_⟩
  obtain rfl : i = 0 := by simpa [p0D] using hi
  exact ⟨w.heap.size, 0, rfl, by omega, h1.val 0 rfl, h1.val 1 rfl, h1.val 2 rfl, (⟨by decide, by decide⟩ : I64 25), (⟨by decide, by decide⟩ : I64 1), (⟨by decide, by decide⟩ : I64 300)⟩
theorem own_cells {w : World} {B : Nat} {v : Value} {l : List UInt8} (h : w.ownsRow B 5 1 v l.length (u8L l)) (hl : 0 < l.length) : ∃ g cap, v = .slice (some ⟨g, 0, none⟩) l.length cap ∧ l.length ≤ cap ∧ ∀ j (hj : j < l.length), w.cell? ⟨g, j, none⟩ = some (.int .u8 (l[j].toNat : Int)) := by
  have hc := fun g (hg : v.ownBlock = some g) => h.cells hg
  rcases h.2 with ⟨e1, e2⟩ | ⟨g, cap, cur, e1, e2, e3, e4, _⟩
  · omega
  · refine ⟨g, cap, e1, e4, fun j hj => ?_⟩
    have := hc g (by rw [e1]; rfl) j (.int .u8 (l[j].toNat : Int)) (by simp [u8L, hj])
    have e : (⟨g, 0, none⟩ : Addr).add j = ⟨g, j, none⟩ := by unfold Addr.add; split <;> simp_all
    rw [e] at this
    exact this
set_option maxRecDepth 100000 in
set_option maxHeartbeats 2000000 in
theorem coded_any (w : World) : Calls Try.prog 9 #[] w fun e w' => e = .returned (.bool true) ∧ Below w.heap.size w w' := by
  have EN := Lib.hid (encode_any p0D _ _ _ (w.heap.size + 2) (by simp) (coded_prg w))
  have hb0 : Below w.heap.size w ((w.alloc (.cells #[.int .i64 25, .int .i64 1, .int .i64 300] 23)).alloc (.cells #[.string ⟨#[102]⟩, .slice none 0 0, .int .i64 0, .slice none 0 0, .slice (some ⟨w.heap.size, 0, none⟩) 1 1] 54)) := ((Below.refl _ _).alloc (Nat.le_refl _) _).alloc (by simp) _
  have HB := Lib.hid hb0
  clear hb0
  go_enter Try.func9, Try.ntmps9
  go_wp2_with fail
  refine EN.out.mono ?_
  rintro e w1 ⟨h1, h2⟩
  rw [enc0_eq] at h1
  obtain ⟨v, rfl, ho⟩ := h1
  obtain ⟨g, cap, rfl, hcap, hcell⟩ := own_cells ho (by decide)
  have hb1 := Lib.hid (HB.out.trans (h2.mono HB.out.size))
  have hcap' : (16 : Int) ≤ (cap : Int) := by simp at hcap; omega
  have hcv : (convert 31 9 (.slice (some ⟨g, 12, none⟩) 4 (cap - 12))).run Try.prog w1 = .ok (.string ⟨#[25, 1, 172, 2]⟩) w1 := run_convert_bytes_back (P := Try.prog) w1 31 9 5 ⟨g, 12, none⟩ (cap - 12) [25, 1, 172, 2] Try.underlying31 Try.underlying5 Try.underlying9 (fun j hj => by
    have e : (⟨g, 12, none⟩ : Addr).add j = ⟨g, 12 + j, none⟩ := by unfold Addr.add; split <;> simp_all
    rw [e, hcell (12 + j) (by simp at hj; simp; omega)]
    match j, hj with
    | 0, _ => rfl
    | 1, _ => rfl
    | 2, _ => rfl
    | 3, _ => rfl)
  clear hcell ho h2 hcap
  go_wp2
  go_ret
  exact ⟨rfl, hb1.out⟩
end Go.Proofs.Ytecpokegmfnlaaa
