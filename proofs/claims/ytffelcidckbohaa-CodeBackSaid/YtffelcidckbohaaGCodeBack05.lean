/- Texts of this seat, one behind the other: each says at its head what it holds. No condition of its own. -/
import Derived.StillTailTactics
import Derived.Laws.StructEq
import Derived.Deep.QuietTactic
import Derived.BigQuiet
import Derived.Test.YtffelcidckbohaaGCodeBack01
import Derived.Test.YtffelcidckbohaaGCodeBack02
import Derived.Test.YtffelcidckbohaaGCodeBack03
import Derived.Test.YtffelcidckbohaaGCodeBack04
/- code's writer: a name, a class. Condition: its blocks are there; what is written lies in blocks below its own. -/
namespace Go.Proofs.Ytffelcidckbohaa
open Go.RowKit
set_option linter.unusedVariables false
theorem two_boxes {w : World} {B b : Nat} {r : Res} {K : Nat → Prop} (h : WrP w B b r K) (o1 o2 : Obj) :
    WrP ((w.alloc o1).alloc o2) B b r (fun x => x = w.heap.size + 1 ∨ (x = w.heap.size ∨ K x)) ∧ Below w.heap.size w ((w.alloc o1).alloc o2) := by
  have b1 : Below w.heap.size w (w.alloc o1) := (Below.refl _ _).alloc (Nat.le_refl _) _
  have b2 : Below (w.alloc o1).heap.size (w.alloc o1) ((w.alloc o1).alloc o2) := (Below.refl _ _).alloc (Nat.le_refl _) _
  exact ⟨(h.add b1 (Nat.le_refl _) (by simp)).add b2 (by simp) (by simp), b1.trans (b2.mono b1.size)⟩
set_option maxRecDepth 100000 in
set_option maxHeartbeats 2000000 in
theorem name_any (B b : Nat) (r : Res) (K : Nat → Prop) (s : ByteArray) (w : World) (h : WrP w B b r K) (hl : lenE r 50000000) :
    Calls Try.prog 50 #[.pointer (some ⟨b, 0, none⟩), .string s] w fun e' w' => (∃ u, e' = .returned u) ∧ WrP w' B b (andE r (nameE s)) K ∧ WrT B K w w' := by
  obtain ⟨hP, hb⟩ := two_boxes h (.cells #[.pointer (some ⟨b, 0, none⟩)] 71) (.cells #[.string s] 9)
  have k1 : Blk ((w.alloc (.cells #[.pointer (some ⟨b, 0, none⟩)] 71)).alloc (.cells #[.string s] 9)) w.heap.size #[.pointer (some ⟨b, 0, none⟩)] 71 := (Blk.new _ _ _).alloc _
  have k2 : Blk ((w.alloc (.cells #[.pointer (some ⟨b, 0, none⟩)] 71)).alloc (.cells #[.string s] 9)) (w.heap.size + 1) #[.string s] 9 := Blk.new' (by simp)
  have c1 := k1.val 0 rfl
  have c2 := k2.val 0 rfl
  have ST := Lib.hid (list_anyNam1 B b w.heap.size (w.heap.size + 1) r _ s.size 16 50000000 1 (nameF s) _ hP (by decide) hl (by decide) (fun _ _ => lenE_one _) (fun i l W hi hn hX hT hl => nam1_any B b _ _ i l s _ W hX (hT.kept k1 (.inr (.inl rfl))) (hT.kept k2 (.inl rfl)) (.inr (.inl rfl)) hi (by omega)))
  have hb := Lib.hid hb
  clear hP k1 k2 h
  go_enter Try.func50, Try.ntmps50
  go_wp2_with fail
  refine ST.out.mono ?_
  rintro e w3 ⟨⟨u, rfl⟩, hP3, hT3⟩
  go_wp2
  go_end0
  exact ⟨⟨_, rfl⟩, hP3.sub fun x hx => .inr (.inr hx), (WrT.of hb.out).trans (hT3.sub fun x hx => .inr (.inr hx))⟩
/-! a class -/
def fldE (f : FldD) : Res := andE (nameE f.name) (kindE f.ty)
def clsE (c : ClsD) : Res := andE (nameE c.name) (listE c.fields.length 15 (fun i => fldE (c.fields.getD i ⟨.empty, 0⟩)))
theorem lenE_fld (f : FldD) : lenE (fldE f) 27 := lenE_and (lenE_name _) (lenE_kind _)
theorem lenE_cls (c : ClsD) : lenE (clsE c) 441 := lenE_and (lenE_name _) (lenE_list (by decide) fun _ _ => lenE_fld _)
set_option maxRecDepth 100000 in
set_option maxHeartbeats 2000000 in
theorem cls1_any (B b c1 c2 i : Nat) (l : List UInt8) (c : ClsD) (v : Value) (K : Nat → Prop) (w : World) (h : WrX w B b l 0 K) (hc1 : Blk w c1 #[.pointer (some ⟨b, 0, none⟩)] 71) (hc2 : Blk w c2 #[.string c.name, v] 52) (k1 : K c1) (k2 : K c2) (hv : RdRow 2 ElF B w v c.fields) (hi : i < c.fields.length) (hl : l.length ≤ 10000000) :
    Calls Try.prog 51 #[.int .i64 i, .pointer (some ⟨c1, 0, none⟩), .pointer (some ⟨c2, 0, none⟩)] w fun e' w' => (∃ u, e' = .returned u) ∧ WrP w' B b (andE (.ok l) (fldE (c.fields.getD i ⟨.empty, 0⟩))) K ∧ WrT B K w w' := by
  have hg : c.fields.getD i ⟨.empty, 0⟩ = c.fields[i] := by simp [List.getD_eq_getElem?_getD, hi]
  rw [hg]
  obtain ⟨a, cap, rfl, hmx, hel⟩ := hv
  obtain ⟨d, o, rfl, hd, e1, e2, _⟩ := hel i hi
  clear hel hg
  generalize c.fields[i] = f at *
  have hbw := h.bw
  have i1 : (0 : Int) ≤ (i : Int) ∧ (i : Int) < (c.fields.length : Int) := ⟨by omega, by omega⟩
  have i2 : 0 < c.fields.length := by omega
  generalize c.fields.length = n at *
  have d1 := hc1.val 0 rfl
  have d2 := hc2.val 1 rfl
  have HL : Hid (lenE (.ok l) 50000000) := fun q e => by injection e with e; subst e; omega
  have q1 := hc1.drew
  have q2 := hc2.drew
  have QB : Below B w w.drew := (Below.refl _ _).drew
  have e1' := (QB.cell (p := ⟨d, o + i * 2, none⟩) hd).trans e1
  have e2' := (QB.cell (p := ⟨d, o + i * 2 + 1, none⟩) hd).trans e2
  have HX : Hid (WrP w.drew B b (.ok l) K) := h.quiet ⟨1, rfl⟩
  have HB : Hid (B ≤ w.drew.heap.size) := hbw
  have T0 : Hid (WrT B K w w.drew) := WrT.of (Below.refl _ _).drew
  clear h hbw
  go_enter Try.func51, Try.ntmps51
  go_wp2_with fail
  go_still_tail 7, (by kernel_rfl)
  change wpList _ _ _ _ _ w.drew
  clear d1 d2 e1 e2 QB
  generalize w.drew = w2 at *
  go_wp2_with fail
  refine (name_any B b _ K f.name _ HX.out HL.out).mono ?_
  rintro e w3 ⟨⟨u, rfl⟩, hP3, hT3⟩
  have r1 := hT3.kept q1 k1
  have r2 := hT3.kept q2 k2
  have QB := hT3.below HB.out
  have d1 := r1.val 0 rfl
  have d2 := r2.val 1 rfl
  have e2 := (QB.cell (p := ⟨d, o + i * 2 + 1, none⟩) hd).trans e2'
  have e1 := (QB.cell (p := ⟨d, o + i * 2, none⟩) hd).trans e1'
  have HT := Lib.hid (T0.out.trans hT3)
  have HX3 : Hid (WrP w3.drew B b (andE (.ok l) (nameE f.name)) K) := hP3.grew (Below.refl _ _).drew
  have T3 : Hid (WrT B K w3 w3.drew) := WrT.of (Below.refl _ _).drew
  clear q1 q2 e1' e2' hP3 hT3 QB
  go_wp2_with fail
  go_still_tail 7, (by kernel_rfl)
  change wpList _ _ _ _ _ w3.drew
  generalize w3.drew = w4 at *
  go_wp2_with fail
  refine (kind_any B b _ K f.ty _ HX3.out (lenE_mono (lenE_and (fun q e => by injection e with e; subst e; exact hl) (lenE_name _)) (by decide))).mono ?_
  rintro e w5 ⟨⟨u, rfl⟩, hP5, hT5⟩
  go_wp2
  go_end0
  exact ⟨⟨_, rfl⟩, by rw [fldE, ← andE_assoc]; exact hP5, (HT.out.trans T3.out).trans hT5⟩
set_option maxRecDepth 100000 in
set_option maxHeartbeats 2000000 in
theorem cls_any (B b : Nat) (r : Res) (c : ClsD) (v : Value) (K : Nat → Prop) (w : World) (h : WrP w B b r K) (hv : RdRow 2 ElF B w v c.fields) (hl : lenE r 5000000) :
    Calls Try.prog 30 #[.pointer (some ⟨b, 0, none⟩), .agg #[.string c.name, v]] w fun e' w' => (∃ u, e' = .returned u) ∧ WrP w' B b (andE r (clsE c)) K ∧ WrT B K w w' := by
  have hbw : B ≤ w.heap.size := h.bw
  obtain ⟨hP, hb⟩ := two_boxes h (.cells #[.pointer (some ⟨b, 0, none⟩)] 71) (.cells #[.string c.name, v] 52)
  have k1 : Blk ((w.alloc (.cells #[.pointer (some ⟨b, 0, none⟩)] 71)).alloc (.cells #[.string c.name, v] 52)) w.heap.size #[.pointer (some ⟨b, 0, none⟩)] 71 := (Blk.new _ _ _).alloc _
  have k2 : Blk ((w.alloc (.cells #[.pointer (some ⟨b, 0, none⟩)] 71)).alloc (.cells #[.string c.name, v] 52)) (w.heap.size + 1) #[.string c.name, v] 52 := Blk.new' (by simp)
  have hv2 := hv.keep (hb.mono hbw) fun _ _ _ e r => r.keep (hb.mono hbw) e
  have c1 := k1.val 0 rfl
  have c2 := k2.val 0 rfl
  have c3 := k2.val 1 rfl
  obtain ⟨a, cap, hva, hmx, hel⟩ := hv
  have NM := Lib.hid (name_any B b r _ c.name _ hP (lenE_mono hl (by decide)))
  have hb := Lib.hid hb
  have HV := Lib.hid hva
  have HB : Hid (B ≤ ((w.alloc (.cells #[.pointer (some ⟨b, 0, none⟩)] 71)).alloc (.cells #[.string c.name, v] 52)).heap.size) := by unfold Hid; simp; omega
  clear hP h hel hva
  go_enter Try.func30, Try.ntmps30
  go_wp2_with fail
  refine NM.out.mono ?_
  rintro e w3 ⟨⟨u, rfl⟩, hP3, hT3⟩
  have r1 := hT3.kept k1 (.inr (.inl rfl))
  have r2 := hT3.kept k2 (.inl rfl)
  have QB := hT3.below HB.out
  have hv3 := hv2.keep QB fun _ _ _ e r => r.keep QB e
  have d1 := r1.val 0 rfl
  have d2 := r2.val 1 rfl
  rw [HV.out] at d2
  have ST := Lib.hid (list_anyCls1 B b w.heap.size (w.heap.size + 1) (andE r (nameE c.name)) _ c.fields.length 15 5000026 27 (fun i => fldE (c.fields.getD i ⟨.empty, 0⟩)) _ hP3 (by decide) (lenE_and hl (lenE_name _)) (by decide) (fun _ _ => lenE_fld _) (fun i l W hi hn hX hT hl => cls1_any B b _ _ i l c v _ W hX (hT.kept r1 (.inr (.inl rfl))) (hT.kept r2 (.inl rfl)) (.inr (.inl rfl)) (.inl rfl) (hv3.keep (hT.below (Nat.le_trans HB.out hT3.size)) fun _ _ _ e r => r.keep (hT.below (Nat.le_trans HB.out hT3.size)) e) hi (by omega)))
  have HT := Lib.hid ((WrT.of (B := B) (K := K) hb.out).trans (hT3.sub fun x hx => .inr (.inr hx)))
  clear hP3 hT3 QB hv3 hv2 k1 k2 c1 c2 c3
  go_wp2_with fail
  refine ST.out.mono ?_
  rintro e w4 ⟨⟨u, rfl⟩, hP4, hT4⟩
  go_wp2
  go_end0
  exact ⟨⟨_, rfl⟩, by rw [clsE, ← andE_assoc]; exact hP4.sub fun x hx => .inr (.inr hx), HT.out.trans (hT4.sub fun x hx => .inr (.inr hx))⟩
end Go.Proofs.Ytffelcidckbohaa
/- code's writer: an instruction. Condition: its blocks are there, its numbers fit their kinds. -/
namespace Go.Proofs.Ytffelcidckbohaa
open Go.RowKit
set_option linter.unusedVariables false
def insL (i : InsD) : List UInt8 := UInt8.ofNat i.op.toNat :: ((if i.op = 1 then numB (foldN i.a) else if 1 ≤ opsI i.op then numB i.a.toNat else []) ++ (if opsI i.op = 2 then numB i.b.toNat else []))
def insE (i : InsD) : Res := if rightB i = true then .ok (insL i) else .error 30
theorem opB_of_right {i : InsD} (h : rightB i = true) : 1 ≤ i.op ∧ i.op ≤ 39 := by
  unfold rightB opsI at h
  by_cases e : i.op < 1 ∨ 39 < i.op
  · rw [if_pos e] at h; simp at h
  · omega
theorem u8op (op : Int) (h : 1 ≤ op ∧ op ≤ 39) : IntKind.u8.wrap op = (((UInt8.ofNat op.toNat).toNat : Nat) : Int) := by
  rw [IntKind.wrap_u8]; simp; omega
theorem right_parts {op a c : Int} (h : rightB ⟨op, a, c⟩ = true) : (op = 1 ∧ opsI op = 1) ∨ (op ≠ 1 ∧ opsI op = 0) ∨ (op ≠ 1 ∧ opsI op = 1 ∧ 0 ≤ a ∧ a ≤ 2147483647) ∨ (op ≠ 1 ∧ opsI op = 2 ∧ 0 ≤ a ∧ a ≤ 2147483647 ∧ 0 ≤ c ∧ c ≤ 2147483647) := by
  by_cases e : op = 1
  · exact .inl ⟨e, by subst e; rfl⟩
  · refine .inr ?_
    rcases opsI_cases op with k | k | k | k
    · simp [rightB, k] at h
    · exact .inl ⟨e, k⟩
    · simp [rightB, k, e, smallB] at h
      exact .inr (.inl ⟨e, k, h.1.1, h.1.2⟩)
    · simp [rightB, k, smallB] at h
      exact .inr (.inr ⟨e, k, h.1.1, h.1.2, h.2.1, h.2.2⟩)
set_option maxRecDepth 100000 in
set_option maxHeartbeats 1000000 in
theorem ins_bad (B b : Nat) (l : List UInt8) (K : Nat → Prop) (i : InsD) (w : World) (h : WrX w B b l 0 K) (hr : rightB i = false) :
    Calls Try.prog 56 #[.pointer (some ⟨b, 0, none⟩), .agg #[.int .i64 i.op, .int .i64 i.a, .int .i64 i.b]] w fun e' w' => (∃ u, e' = .returned u) ∧ WrX w' B b l 30 K ∧ WrT B K w w' := by
  have RA := Lib.hid (fun W => right_any i W)
  rw [hr] at RA
  clear hr
  obtain ⟨op, a, c⟩ := i
  have b0 : Below w.heap.size w (w.alloc (.cells #[.int .i64 op, .int .i64 a, .int .i64 c] 41)) := (Below.refl _ _).alloc (Nat.le_refl _) _
  have hI : Blk (w.alloc (.cells #[.int .i64 op, .int .i64 a, .int .i64 c] 41)) w.heap.size #[.int .i64 op, .int .i64 a, .int .i64 c] 41 := Blk.new _ _ _
  have q0 := hI.val 0 rfl
  have q1 := hI.val 1 rfl
  have q2 := hI.val 2 rfl
  go_enter Try.func56, Try.ntmps56
  go_wp2_with fail
  refine (RA.out _).mono ?_
  rintro e w1 ⟨rfl, hb1⟩
  have hb2 := b0.trans (hb1.mono b0.size)
  have hX := h.grew hb2
  have c1 := hX.errCell
  have H := Lib.hid (hX.fail 30)
  clear hX hb1 b0 hI q0 q1 q2
  go_wp2
  refine bodyPost_ret (results_none rfl _ _ _) rfl ?_
  exact ⟨⟨_, rfl⟩, H.out.1, (WrT.of hb2).trans H.out.2⟩
set_option maxRecDepth 100000 in
set_option maxHeartbeats 4000000 in
theorem ins_ok (B b : Nat) (l : List UInt8) (K : Nat → Prop) (op a c : Int) (w : World) (h : WrX w B b l 0 K) (hr : rightB ⟨op, a, c⟩ = true) (ha : I64 a) (hc : I64 c) (hl : l.length ≤ 100000000) :
    Calls Try.prog 56 #[.pointer (some ⟨b, 0, none⟩), .agg #[.int .i64 op, .int .i64 a, .int .i64 c]] w fun e' w' => (∃ u, e' = .returned u) ∧ WrX w' B b (l ++ insL ⟨op, a, c⟩) 0 K ∧ WrT B K w w' := by
  obtain ⟨i0, hi, hz0, hz1, hz2⟩ := info_parts info_u8
  have RA := Lib.hid (fun W => right_any ⟨op, a, c⟩ W)
  have hop := opB_of_right hr
  have HR : Hid (rightB ⟨op, a, c⟩ = true) := hr
  rw [hr] at RA
  clear hr
  have b0 : Below w.heap.size w (w.alloc (.cells #[.int .i64 op, .int .i64 a, .int .i64 c] 41)) := (Below.refl _ _).alloc (Nat.le_refl _) _
  have hI : Blk (w.alloc (.cells #[.int .i64 op, .int .i64 a, .int .i64 c] 41)) w.heap.size #[.int .i64 op, .int .i64 a, .int .i64 c] 41 := Blk.new _ _ _
  have q0 := hI.val 0 rfl
  have q1 := hI.val 1 rfl
  have q2 := hI.val 2 rfl
  have Z := Lib.hid (And.intro hi (And.intro hz0 (And.intro hz1 hz2)))
  have HU := Lib.hid (u8op op hop)
  clear hi hz0 hz1 hz2
  go_enter Try.func56, Try.ntmps56
  go_wp2_with fail
  refine (RA.out _).mono ?_
  rintro e w1 ⟨rfl, hb1⟩
  have hI1 := hI.grew hb1
  have hX := h.add (b0.trans (hb1.mono b0.size)) (m := w.heap.size) (Nat.le_refl _) hI1.lt
  have hT0 : WrT B K w w1 := WrT.of (b0.trans (hb1.mono b0.size))
  clear q0 q1 q2 hb1 hI b0 h
  generalize hS : w.heap.size = S at *
  clear hS
  obtain ⟨⟨v, h1, h2, h3⟩, h4, h5, h6, h7⟩ := hX
  have c0 := h1.val 0 rfl
  have f0 := h1.frozen 0
  have lb := h1.lt
  have lI := hI1.lt
  have q0 := hI1.val 0 rfl
  go_wp2_with fail
  go_region_law ((refine step_append_lies _ (by rfl) _ _ _ (by rfl) B 5 i0 _ 1 1 Try.underlying22 Z.out.1 Z.out.2.1 Z.out.2.2.1 Z.out.2.2.2 rfl (by omega) v l.length (u8L l) (by rfl) (own_drew (h2.alloc _)) ⟨w1.heap.size, 0, none⟩ 1 1 [Value.int .u8 ((UInt8.ofNat op.toNat).toNat : Int)] (by rfl) (by rfl) (by rw [← HU.out]; exact World.news_of_block (cs := #[Value.int .u8 (IntKind.u8.wrap op)]) (t := 5) (fr := (0, 0)) (heap_alloc_new w1 _)) (by simp [Value.oneCell']) (by omega) (by unfold maxLen; omega) (by omega) (by simp; omega) (w1.heap.size + 1) (by simp) ?_; intro g cap w5 hown5 hgrow hat hlt; obtain ⟨hb1, hX1, hT1, hK5⟩ := Wr_app_d h1 h2 h3 h4 h5 h6 h7 hown5 hgrow hat; have k2 := hb1.val 0 rfl; have kf := hb1.frozen 0))
  all_goals
    clear hown5 hgrow hat hK5 hb1 k2 kf h1 h2 h3 h4 h5 h6 h7 c0 f0 lb lI q0
    have hI6 := hT1.kept hI1 (.inl rfl)
    have hTT := WrT.trans hT0 (hT1.sub (K' := K) fun x hx => .inr hx)
    generalize w5.setCell _ _ = w6 at *
    clear hlt
    have q0 := hI6.val 0 rfl
    have q1 := hI6.val 1 rfl
    have q2 := hI6.val 2 rfl
    have HX := Lib.hid hX1
    have HT := Lib.hid hTT
    clear hX1 hTT hT1 hI1
    have OA := Lib.hid (fun W => operands_any op W)
    rcases right_parts HR.out with ⟨p1, p2⟩ | ⟨p1, p2⟩ | ⟨p1, p2, p3, p4⟩ | ⟨p1, p2, p3, p4, p5, p6⟩
    · subst p1
      rw [p2] at OA
      clear p2
      have FO := Lib.hid (fun W => fold_any a W ha)
      have NU := Lib.hid (fun W (X : WrX W B b (l ++ [UInt8.ofNat (1 : Int).toNat]) 0 (fun x => x = S ∨ K x)) => number_any B b _ 0 _ (foldN a) W X (foldN_lt ha) (by simp; omega))
      go_wp2_with fail
      refine (OA.out _).mono ?_; rintro e w7 ⟨rfl, rfl⟩
      go_wp2_with fail
      refine (FO.out _).mono ?_; rintro e w7 ⟨rfl, rfl⟩
      go_wp2_with fail
      refine (NU.out _ HX.out).mono ?_; rintro e w7 ⟨⟨u, rfl⟩, hX7, hT7⟩
      go_wp2
      go_end0
      refine ⟨⟨_, rfl⟩, ?_, HT.out.trans (hT7.sub fun x hx => .inr hx)⟩
      have e : l ++ insL ⟨1, a, c⟩ = l ++ [UInt8.ofNat (1 : Int).toNat] ++ numB (foldN a) := by simp [insL, show opsI 1 = 1 from rfl]
      rw [e]
      exact hX7.sub fun x hx => .inr hx
    · have p1' : (op == 1) = false := by simpa using p1
      have HP := Lib.hid (And.intro p1 p2)
      rw [p2] at OA
      clear p2 p1
      go_wp2_with fail
      refine (OA.out _).mono ?_; rintro e w7 ⟨rfl, rfl⟩
      go_wp2
      go_end0
      refine ⟨⟨_, rfl⟩, ?_, HT.out⟩
      have e : l ++ insL ⟨op, a, c⟩ = l ++ [UInt8.ofNat op.toNat] := by simp [insL, HP.out.1, HP.out.2]
      rw [e]
      exact HX.out.sub fun x hx => .inr hx
    · have p1' : (op == 1) = false := by simpa using p1
      have HP := Lib.hid (And.intro p1 p2)
      rw [p2] at OA
      clear p2 p1
      obtain ⟨an, rfl⟩ := Int.eq_ofNat_of_zero_le p3
      have NU := Lib.hid (fun W (X : WrX W B b (l ++ [UInt8.ofNat op.toNat]) 0 (fun x => x = S ∨ K x)) => number_any B b _ 0 _ an W X (by omega) (by simp; omega))
      go_wp2_with fail
      refine (OA.out _).mono ?_; rintro e w7 ⟨rfl, rfl⟩
      go_wp2_with fail
      refine (NU.out _ HX.out).mono ?_; rintro e w7 ⟨⟨u, rfl⟩, hX7, hT7⟩
      go_wp2
      go_end0
      refine ⟨⟨_, rfl⟩, ?_, HT.out.trans (hT7.sub fun x hx => .inr hx)⟩
      have e : l ++ insL ⟨op, an, c⟩ = l ++ [UInt8.ofNat op.toNat] ++ numB an := by simp [insL, HP.out.1, HP.out.2]
      rw [e]
      exact hX7.sub fun x hx => .inr hx
    · have p1' : (op == 1) = false := by simpa using p1
      have HP := Lib.hid (And.intro p1 p2)
      rw [p2] at OA
      clear p2 p1
      obtain ⟨an, rfl⟩ := Int.eq_ofNat_of_zero_le p3
      obtain ⟨cn, rfl⟩ := Int.eq_ofNat_of_zero_le p5
      have NU := Lib.hid (fun W (X : WrX W B b (l ++ [UInt8.ofNat op.toNat]) 0 (fun x => x = S ∨ K x)) => number_any B b _ 0 _ an W X (by omega) (by simp; omega))
      have hln : (numB an).length ≤ 10 := numB_len10 (by omega)
      have NV := Lib.hid (fun W (X : WrX W B b (l ++ [UInt8.ofNat op.toNat] ++ numB an) 0 (fun x => x = S ∨ K x)) => number_any B b _ 0 _ cn W X (by omega) (by simp; omega))
      clear hln
      go_wp2_with fail
      refine (OA.out _).mono ?_; rintro e w7 ⟨rfl, rfl⟩
      go_wp2_with fail
      refine (NU.out _ HX.out).mono ?_; rintro e w7 ⟨⟨u, rfl⟩, hX7, hT7⟩
      have hI7 := hT7.kept hI6 (.inl rfl)
      have r2 := hI7.val 2 rfl
      go_wp2_with fail
      refine (NV.out _ hX7).mono ?_; rintro e w8 ⟨⟨u, rfl⟩, hX8, hT8⟩
      go_wp2
      go_end0
      refine ⟨⟨_, rfl⟩, ?_, HT.out.trans ((hT7.trans hT8).sub fun x hx => .inr hx)⟩
      have e : l ++ insL ⟨op, an, cn⟩ = l ++ [UInt8.ofNat op.toNat] ++ numB an ++ numB cn := by simp [insL, HP.out.1, HP.out.2]
      rw [e]
      exact hX8.sub fun x hx => .inr hx
theorem lenE_ins (i : InsD) (ha : I64 i.a) : lenE (insE i) 21 := by
  intro l h
  unfold insE at h
  split at h
  · rename_i hr
    injection h with h
    subst h
    rcases right_parts (op := i.op) (a := i.a) (c := i.b) hr with ⟨p1, p2⟩ | ⟨p1, p2⟩ | ⟨p1, p2, p3, p4⟩ | ⟨p1, p2, p3, p4, p5, p6⟩
    · have := numB_len10 (foldN_lt ha)
      simp [insL, p1, show opsI 1 = 1 from rfl]; omega
    · simp [insL, p1, p2]
    · have := numB_len10 (n := i.a.toNat) (by omega)
      simp [insL, p1, p2]; omega
    · have := numB_len10 (n := i.a.toNat) (by omega)
      have := numB_len10 (n := i.b.toNat) (by omega)
      simp [insL, p1, p2]; omega
  · simp at h
theorem ins_any (B b : Nat) (l : List UInt8) (K : Nat → Prop) (i : InsD) (w : World) (h : WrX w B b l 0 K) (ha : I64 i.a) (hc : I64 i.b) (hl : l.length ≤ 100000000) :
    Calls Try.prog 56 #[.pointer (some ⟨b, 0, none⟩), .agg #[.int .i64 i.op, .int .i64 i.a, .int .i64 i.b]] w fun e' w' => (∃ u, e' = .returned u) ∧ WrP w' B b (andE (.ok l) (insE i)) K ∧ WrT B K w w' := by
  by_cases hr : rightB i = true
  · rw [insE, if_pos hr]
    exact ins_ok B b l K i.op i.a i.b w h hr ha hc hl
  · refine (ins_bad B b l K i w h (by simpa using hr)).mono fun e' w' ⟨hu, hX, hT⟩ => ⟨hu, ?_, hT⟩
    rw [insE, if_neg hr]
    exact ⟨by decide, hX.e⟩
end Go.Proofs.Ytffelcidckbohaa
/- code's writer: a function, and all: Encode. Condition: what is written lies in blocks below its own. -/
namespace Go.Proofs.Ytffelcidckbohaa
open Go.RowKit
set_option linter.unusedVariables false
def kindsE (l : List Int) (most : Nat) : Res := listE l.length most (fun i => kindE (l.getD i 0))
def ins0 : InsD := ⟨0, 0, 0⟩
def codeE (l : List InsD) : Res := listE l.length 256 (fun i => insE (l.getD i ins0))
def funE (f : FunD) : Res := andE (andE (andE (andE (nameE f.name) (kindsE f.params 6)) (kindE f.result)) (kindsE f.locals 16)) (codeE f.code)
theorem lenE_kinds (l : List Int) (most : Nat) (h : most < 1000000) : lenE (kindsE l most) (10 + most * 1) := lenE_list h fun _ _ => lenE_kind _
def codeOk (l : List InsD) : Prop := ∀ i, i < l.length → I64 (l.getD i ins0).a
theorem lenE_code (l : List InsD) (h : codeOk l) : lenE (codeE l) 5386 := lenE_list (by decide) fun i hi => lenE_ins _ (h i hi)
theorem lenE_fun (f : FunD) (h : codeOk f.code) : lenE (funE f) 5600 :=
  lenE_mono (lenE_and (lenE_and (lenE_and (lenE_and (lenE_name _) (lenE_kinds _ _ (by decide))) (lenE_kind _)) (lenE_kinds _ _ (by decide))) (lenE_code _ h)) (by decide)
def funV (f : FunD) (v1 v3 v4 : Value) : Array Value := #[.string f.name, v1, .int .i64 f.result, v3, v4]
set_option maxRecDepth 100000 in
set_option maxHeartbeats 2000000 in
theorem fun1_any (B b c1 c2 i : Nat) (l : List UInt8) (f : FunD) (v1 v3 v4 : Value) (K : Nat → Prop) (w : World) (h : WrX w B b l 0 K) (hc1 : Blk w c1 #[.pointer (some ⟨b, 0, none⟩)] 71) (hc2 : Blk w c2 #[.string f.name, v1, .int .i64 f.result, v3, v4] 45) (hv : RdRow 1 ElI B w v1 f.params) (hi : i < f.params.length) (hl : l.length ≤ 10000000) :
    Calls Try.prog 53 #[.int .i64 i, .pointer (some ⟨c1, 0, none⟩), .pointer (some ⟨c2, 0, none⟩)] w fun e' w' => (∃ u, e' = .returned u) ∧ WrP w' B b (andE (.ok l) (kindE (f.params.getD i 0))) K ∧ WrT B K w w' := by
  have hg : f.params.getD i 0 = f.params[i] := by simp [List.getD_eq_getElem?_getD, hi]
  rw [hg]
  obtain ⟨a, cap, rfl, hmx, hel⟩ := hv
  obtain ⟨d, o, rfl, hd, e1, _⟩ := hel i hi
  rw [Nat.mul_one] at e1
  clear hel hg
  generalize f.params[i] = t at *
  have hbw := h.bw
  have i1 : (0 : Int) ≤ (i : Int) ∧ (i : Int) < (f.params.length : Int) := ⟨by omega, by omega⟩
  have i2 : 0 < f.params.length := by omega
  generalize f.params.length = n at *
  have d1 := hc1.val 0 rfl
  have d2 := hc2.val 1 rfl
  have HL : Hid (lenE (.ok l) 1000000000) := fun q e => by injection e with e; subst e; omega
  have HX : Hid (WrP w.drew B b (.ok l) K) := h.quiet ⟨1, rfl⟩
  have T0 : Hid (WrT B K w w.drew) := WrT.of (Below.refl _ _).drew
  clear h hbw hc1 hc2
  go_enter Try.func53, Try.ntmps53
  go_wp2_with fail
  go_still_tail 6, (by kernel_rfl)
  change wpList _ _ _ _ _ w.drew
  generalize w.drew = w2 at *
  go_wp2_with fail
  refine (kind_any B b _ K t _ HX.out HL.out).mono ?_
  rintro e w3 ⟨⟨u, rfl⟩, hP3, hT3⟩
  go_wp2
  go_end0
  exact ⟨⟨_, rfl⟩, hP3, T0.out.trans hT3⟩
set_option maxRecDepth 100000 in
set_option maxHeartbeats 2000000 in
theorem fun2_any (B b c1 c2 i : Nat) (l : List UInt8) (f : FunD) (v1 v3 v4 : Value) (K : Nat → Prop) (w : World) (h : WrX w B b l 0 K) (hc1 : Blk w c1 #[.pointer (some ⟨b, 0, none⟩)] 71) (hc2 : Blk w c2 #[.string f.name, v1, .int .i64 f.result, v3, v4] 45) (hv : RdRow 1 ElI B w v3 f.locals) (hi : i < f.locals.length) (hl : l.length ≤ 10000000) :
    Calls Try.prog 54 #[.int .i64 i, .pointer (some ⟨c1, 0, none⟩), .pointer (some ⟨c2, 0, none⟩)] w fun e' w' => (∃ u, e' = .returned u) ∧ WrP w' B b (andE (.ok l) (kindE (f.locals.getD i 0))) K ∧ WrT B K w w' := by
  have hg : f.locals.getD i 0 = f.locals[i] := by simp [List.getD_eq_getElem?_getD, hi]
  rw [hg]
  obtain ⟨a, cap, rfl, hmx, hel⟩ := hv
  obtain ⟨d, o, rfl, hd, e1, _⟩ := hel i hi
  rw [Nat.mul_one] at e1
  clear hel hg
  generalize f.locals[i] = t at *
  have hbw := h.bw
  have i1 : (0 : Int) ≤ (i : Int) ∧ (i : Int) < (f.locals.length : Int) := ⟨by omega, by omega⟩
  have i2 : 0 < f.locals.length := by omega
  generalize f.locals.length = n at *
  have d1 := hc1.val 0 rfl
  have d2 := hc2.val 3 rfl
  have HL : Hid (lenE (.ok l) 1000000000) := fun q e => by injection e with e; subst e; omega
  have HX : Hid (WrP w.drew B b (.ok l) K) := h.quiet ⟨1, rfl⟩
  have T0 : Hid (WrT B K w w.drew) := WrT.of (Below.refl _ _).drew
  clear h hbw hc1 hc2
  go_enter Try.func54, Try.ntmps54
  go_wp2_with fail
  go_still_tail 6, (by kernel_rfl)
  change wpList _ _ _ _ _ w.drew
  generalize w.drew = w2 at *
  go_wp2_with fail
  refine (kind_any B b _ K t _ HX.out HL.out).mono ?_
  rintro e w3 ⟨⟨u, rfl⟩, hP3, hT3⟩
  go_wp2
  go_end0
  exact ⟨⟨_, rfl⟩, hP3, T0.out.trans hT3⟩
set_option maxRecDepth 100000 in
set_option maxHeartbeats 2000000 in
theorem fun3_any (B b c1 c2 i : Nat) (l : List UInt8) (f : FunD) (v1 v3 v4 : Value) (K : Nat → Prop) (w : World) (h : WrX w B b l 0 K) (hc1 : Blk w c1 #[.pointer (some ⟨b, 0, none⟩)] 71) (hc2 : Blk w c2 #[.string f.name, v1, .int .i64 f.result, v3, v4] 45) (hv : RdRow 3 ElN B w v4 f.code) (hi : i < f.code.length) (hl : l.length ≤ 10000000) :
    Calls Try.prog 55 #[.int .i64 i, .pointer (some ⟨c1, 0, none⟩), .pointer (some ⟨c2, 0, none⟩)] w fun e' w' => (∃ u, e' = .returned u) ∧ WrP w' B b (andE (.ok l) (insE (f.code.getD i ins0))) K ∧ WrT B K w w' := by
  have hg : f.code.getD i ins0 = f.code[i] := by simp [List.getD_eq_getElem?_getD, hi]
  rw [hg]
  obtain ⟨a, cap, rfl, hmx, hel⟩ := hv
  obtain ⟨d, o, rfl, hd, e1, e2, e3, j1, j2, j3⟩ := hel i hi
  clear hel hg
  generalize f.code[i] = t at *
  have hbw := h.bw
  have i1 : (0 : Int) ≤ (i : Int) ∧ (i : Int) < (f.code.length : Int) := ⟨by omega, by omega⟩
  have i2 : 0 < f.code.length := by omega
  generalize f.code.length = n at *
  have d1 := hc1.val 0 rfl
  have d2 := hc2.val 4 rfl
  have IN := Lib.hid (fun W (X : WrX W B b l 0 K) => ins_any B b l K t W X j2 j3 (by omega))
  have HX : Hid (WrX w.drew B b l 0 K) := h.quiet ⟨1, rfl⟩
  have T0 : Hid (WrT B K w w.drew) := WrT.of (Below.refl _ _).drew
  clear h hbw hc1 hc2 j1 j2 j3
  obtain ⟨op, a, c⟩ := t
  go_enter Try.func55, Try.ntmps55
  go_wp2_with fail
  go_still_tail 6, (by kernel_rfl)
  change wpList _ _ _ _ _ w.drew
  generalize w.drew = w2 at *
  go_wp2_with fail
  refine (IN.out _ HX.out).mono ?_
  rintro e w3 ⟨⟨u, rfl⟩, hP3, hT3⟩
  go_wp2
  go_end0
  exact ⟨⟨_, rfl⟩, hP3, T0.out.trans hT3⟩
theorem rd_shape {α : Type} {sz B : Nat} {el : World → Nat → Nat → α → Prop} {w : World} {v : Value} {l : List α} (h : RdRow sz el B w v l) : ∃ a c, v = .slice a l.length c := by
  obtain ⟨a, c, e, _⟩ := h; exact ⟨a, c, e⟩
theorem codeOk_of {B : Nat} {w : World} {v : Value} {l : List InsD} (h : RdRow 3 ElN B w v l) : codeOk l := by
  obtain ⟨a, c, _, _, hel⟩ := h
  intro i hi
  obtain ⟨d, o, _, _, e⟩ := hel i hi
  have hg : l.getD i ins0 = l[i] := by simp [List.getD_eq_getElem?_getD, hi]
  rw [hg]; exact e.2.2.2.2.1
set_option maxRecDepth 100000 in
set_option maxHeartbeats 4000000 in
theorem fun_any (B b : Nat) (r : Res) (f : FunD) (v1 v3 v4 : Value) (K : Nat → Prop) (w : World) (h : WrP w B b r K) (g1 : RdRow 1 ElI B w v1 f.params) (g3 : RdRow 1 ElI B w v3 f.locals) (g4 : RdRow 3 ElN B w v4 f.code) (hl : lenE r 5000000) :
    Calls Try.prog 32 #[.pointer (some ⟨b, 0, none⟩), .agg #[.string f.name, v1, .int .i64 f.result, v3, v4]] w fun e' w' => (∃ u, e' = .returned u) ∧ WrP w' B b (andE r (funE f)) K ∧ WrT B K w w' := by
  have hbw : B ≤ w.heap.size := h.bw
  have hck := codeOk_of g4
  obtain ⟨hP, hb⟩ := two_boxes h (.cells #[.pointer (some ⟨b, 0, none⟩)] 71) (.cells #[.string f.name, v1, .int .i64 f.result, v3, v4] 45)
  have k1 : Blk ((w.alloc (.cells #[.pointer (some ⟨b, 0, none⟩)] 71)).alloc (.cells #[.string f.name, v1, .int .i64 f.result, v3, v4] 45)) w.heap.size #[.pointer (some ⟨b, 0, none⟩)] 71 := (Blk.new _ _ _).alloc _
  have k2 : Blk ((w.alloc (.cells #[.pointer (some ⟨b, 0, none⟩)] 71)).alloc (.cells #[.string f.name, v1, .int .i64 f.result, v3, v4] 45)) (w.heap.size + 1) #[.string f.name, v1, .int .i64 f.result, v3, v4] 45 := Blk.new' (by simp)
  have R1 := Lib.hid (fun W (hb' : Below B w W) => g1.keep hb' fun _ _ _ e r => r.keep hb' e)
  have R3 := Lib.hid (fun W (hb' : Below B w W) => g3.keep hb' fun _ _ _ e r => r.keep hb' e)
  have R4 := Lib.hid (fun W (hb' : Below B w W) => g4.keep hb' fun _ _ _ e r => r.keep hb' e)
  have bw2 := hb.mono hbw
  have c1 := k1.val 0 rfl
  have c2 := k2.val 0 rfl
  obtain ⟨a1, p1, s1⟩ := rd_shape g1
  obtain ⟨a3, p3, s3⟩ := rd_shape g3
  obtain ⟨a4, p4, s4⟩ := rd_shape g4
  have NM := Lib.hid (name_any B b r _ f.name _ hP (lenE_mono hl (by decide)))
  have HV := Lib.hid (And.intro s1 (And.intro s3 s4))
  have HB : Hid (B ≤ ((w.alloc (.cells #[.pointer (some ⟨b, 0, none⟩)] 71)).alloc (.cells #[.string f.name, v1, .int .i64 f.result, v3, v4] 45)).heap.size) := by unfold Hid; simp; omega
  have HT0 : Hid (WrT B K w ((w.alloc (.cells #[.pointer (some ⟨b, 0, none⟩)] 71)).alloc (.cells #[.string f.name, v1, .int .i64 f.result, v3, v4] 45))) := WrT.of hb
  clear hP h g1 g3 g4 s1 s3 s4 hb
  go_enter Try.func32, Try.ntmps32
  go_wp2_with fail
  clear c1 c2
  generalize (w.alloc (.cells #[.pointer (some ⟨b, 0, none⟩)] 71)).alloc (.cells #[.string f.name, v1, .int .i64 f.result, v3, v4] 45) = w2 at *
  refine NM.out.mono ?_
  rintro e w3 ⟨⟨u, rfl⟩, hP3, hT3⟩
  have r1 := hT3.kept k1 (.inr (.inl rfl))
  have r2 := hT3.kept k2 (.inl rfl)
  have B3 := bw2.trans (hT3.below HB.out)
  have hs3 := Nat.le_trans HB.out hT3.size
  have d1 := r1.val 0 rfl
  have d2 := r2.val 1 rfl
  rw [HV.out.1] at d2
  have l3 := lenE_and hl (lenE_name f.name)
  have ST := Lib.hid (list_anyFun1 B b w.heap.size (w.heap.size + 1) _ _ f.params.length 6 5000026 1 (fun i => kindE (f.params.getD i 0)) _ hP3 (by decide) l3 (by decide) (fun _ _ => lenE_kind _) (fun i l W hi hn hX hT hl => fun1_any B b _ _ i l f v1 v3 v4 _ W hX (hT.kept r1 (.inr (.inl rfl))) (hT.kept r2 (.inl rfl)) (R1.out W (B3.trans (hT.below hs3))) hi (by omega)))
  have HT := Lib.hid (HT0.out.trans (hT3.sub fun x hx => .inr (.inr hx)))
  have L3 := Lib.hid l3
  have HB3 := Lib.hid hs3
  have HB3' := Lib.hid B3
  clear hP3 hT3 k1 k2 l3 hs3 B3 bw2 HB NM HT0
  go_wp2_with fail
  refine ST.out.mono ?_
  rintro e w4 ⟨⟨u, rfl⟩, hP4, hT4⟩
  have k1 := hT4.kept r1 (.inr (.inl rfl))
  have k2 := hT4.kept r2 (.inl rfl)
  have B4 := HB3'.out.trans (hT4.below HB3.out)
  have hs4 := Nat.le_trans HB3.out hT4.size
  have d1 := k1.val 0 rfl
  have d2 := k2.val 2 rfl
  have l4 := lenE_and L3.out (lenE_kinds f.params 6 (by decide))
  have KD := Lib.hid (kind_any B b _ _ f.result _ hP4 (lenE_mono l4 (by decide)))
  have HT4 := Lib.hid (HT.out.trans (hT4.sub fun x hx => .inr (.inr hx)))
  have L4 := Lib.hid l4
  have HB4 := Lib.hid hs4
  have HB4' := Lib.hid B4
  clear hP4 hT4 r1 r2 l4 hs4 B4 ST HT L3 HB3 HB3'
  go_wp2_with fail
  refine KD.out.mono ?_
  rintro e w5 ⟨⟨u, rfl⟩, hP5, hT5⟩
  have r1 := hT5.kept k1 (.inr (.inl rfl))
  have r2 := hT5.kept k2 (.inl rfl)
  have B5 := HB4'.out.trans (hT5.below HB4.out)
  have hs5 := Nat.le_trans HB4.out hT5.size
  have d1 := r1.val 0 rfl
  have d2 := r2.val 3 rfl
  rw [HV.out.2.1] at d2
  have l5 := lenE_and L4.out (lenE_kind f.result)
  have ST := Lib.hid (list_anyFun2 B b w.heap.size (w.heap.size + 1) _ _ f.locals.length 16 _ 1 (fun i => kindE (f.locals.getD i 0)) _ hP5 (by decide) l5 (by decide) (fun _ _ => lenE_kind _) (fun i l W hi hn hX hT hl => fun2_any B b _ _ i l f v1 v3 v4 _ W hX (hT.kept r1 (.inr (.inl rfl))) (hT.kept r2 (.inl rfl)) (R3.out W (B5.trans (hT.below hs5))) hi (by omega)))
  have HT5 := Lib.hid (HT4.out.trans (hT5.sub fun x hx => .inr (.inr hx)))
  have L5 := Lib.hid l5
  have HB5 := Lib.hid hs5
  have HB5' := Lib.hid B5
  clear hP5 hT5 k1 k2 l5 hs5 B5 KD HT4 L4 HB4 HB4'
  go_wp2_with fail
  refine ST.out.mono ?_
  rintro e w6 ⟨⟨u, rfl⟩, hP6, hT6⟩
  have k1 := hT6.kept r1 (.inr (.inl rfl))
  have k2 := hT6.kept r2 (.inl rfl)
  have B6 := HB5'.out.trans (hT6.below HB5.out)
  have hs6 := Nat.le_trans HB5.out hT6.size
  have d1 := k1.val 0 rfl
  have d2 := k2.val 4 rfl
  rw [HV.out.2.2] at d2
  have l6 := lenE_and L5.out (lenE_kinds f.locals 16 (by decide))
  have ST2 := Lib.hid (list_anyFun3 B b w.heap.size (w.heap.size + 1) _ _ f.code.length 256 _ 21 (fun i => insE (f.code.getD i ins0)) _ hP6 (by decide) l6 (by decide) (fun i hi => lenE_ins _ (hck i hi)) (fun i l W hi hn hX hT hl => fun3_any B b _ _ i l f v1 v3 v4 _ W hX (hT.kept k1 (.inr (.inl rfl))) (hT.kept k2 (.inl rfl)) (R4.out W (B6.trans (hT.below hs6))) hi (by omega)))
  have HT6 := Lib.hid (HT5.out.trans (hT6.sub fun x hx => .inr (.inr hx)))
  clear hP6 hT6 r1 r2 l6 hs6 B6 ST HT5 L5 HB5 HB5'
  go_wp2_with fail
  refine ST2.out.mono ?_
  rintro e w7 ⟨⟨u, rfl⟩, hP7, hT7⟩
  go_wp2
  go_end0
  refine ⟨⟨_, rfl⟩, ?_, HT6.out.trans (hT7.sub fun x hx => .inr (.inr hx))⟩
  have e : andE r (funE f) = andE (andE (andE (andE (andE r (nameE f.name)) (kindsE f.params 6)) (kindE f.result)) (kindsE f.locals 16)) (codeE f.code) := by simp only [funE, andE_assoc]
  rw [e]
  exact hP7.sub fun x hx => .inr (.inr hx)
end Go.Proofs.Ytffelcidckbohaa
/- The document's sameInts of two rows of numbers. No condition. -/
namespace Go.Proofs.Ytffelcidckbohaa
open Go.RowKit
set_option linter.unusedVariables false
theorem list_eq_of {α : Type} {l1 l2 : List α} (h : l1.length = l2.length) (he : ∀ i, (h1 : i < l1.length) → (h2 : i < l2.length) → l1[i] = l2[i]) : l1 = l2 := List.ext_getElem h he
theorem rd_at {α : Type} {sz B : Nat} {el : World → Nat → Nat → α → Prop} {w : World} {a : Option Addr} {n c i : Nat} {l : List α} (h : RdRow sz el B w (.slice a n c) l) (hi : i < l.length) : ∃ b o, a = some ⟨b, o, none⟩ ∧ b < B ∧ el w b (o + i * sz) l[i] := by
  obtain ⟨a', c', q, _, h3⟩ := h
  injection q with q1 q2 q3
  subst q1
  exact h3 i hi
set_option maxRecDepth 100000 in
set_option maxHeartbeats 4000000 in
theorem rsints_any (w : World) (B : Nat) (v1 v2 : Value) (l1 l2 : List Int) (h1 : RdRow 1 ElI B w v1 l1) (h2 : RdRow 1 ElI B w v2 l2) :
    Calls Try.prog 27 #[v1, v2] w fun e w' => e = .returned (.bool (decide (l1 = l2))) ∧ Quiet w w' := by
  have h1' := h1
  have h2' := h2
  obtain ⟨a1, c1, rfl⟩ := rd_shape h1'
  obtain ⟨a2, c2, rfl⟩ := rd_shape h2'
  have M1 : l1.length ≤ maxLen := by obtain ⟨_, _, _, h, _⟩ := h1; exact h
  unfold maxLen at M1
  have R1 := Lib.hid (fun i (hi : i < l1.length) => rd_at h1 hi)
  have R2 := Lib.hid (fun i (hi : i < l2.length) => rd_at h2 hi)
  clear h1 h2 h1' h2'
  by_cases hn : l1.length = l2.length
  · have hne : ((l1.length : Int) != (l2.length : Int)) = false := by simp [hn]
    go_enter Try.func27, Try.ntmps27
    go_wp2
    go_loopw [5] (fun i wr => ∃ k : Nat, k ≤ l1.length ∧ i = .int .i64 k ∧ Quiet w wr ∧ ∀ j, (j1 : j < l1.length) → (j2 : j < l2.length) → j < k → l1[j] = l2[j]) (fun i _ => l1.length - (intOf i).toNat)
    case atStart => exact ⟨0, Nat.zero_le _, rfl, Quiet.refl _, fun j _ _ h => absurd h (by omega)⟩
    case round =>
      obtain ⟨k, hk, rfl, hq, hj⟩ := hrel
      have HJ := Lib.hid hj
      clear hj
      by_cases hlt : k < l1.length
      · have hlt2 : k < l2.length := by omega
        obtain ⟨b1, o1, rfl, _, p1, _⟩ := R1.out k hlt
        obtain ⟨b2, o2, rfl, _, p2, _⟩ := R2.out k hlt2
        rw [Nat.mul_one] at p1 p2
        have p1 := (hq.cell _).trans p1
        have p2 := (hq.cell _).trans p2
        have hlt' : (k : Int) < (l1.length : Int) := by omega
        have hlt2' : (k : Int) < (l2.length : Int) := by omega
        have hge' : (0 : Int) ≤ (k : Int) := by omega
        have hne2 := Lib.hid hn
        by_cases hx : l1[k] = l2[k]
        · have hx' : (l1[k] != l2[k]) = false := by simp [hx]
          have HX : Hid (∀ (j1 : k < l1.length) (j2 : k < l2.length), l1[k]'j1 = l2[k]'j2) := fun _ _ => hx
          clear hx
          generalize l1[k] = z1 at *
          generalize l2[k] = z2 at *
          go_wp2
          go_quiet (fail)
          go_wp2
          go_roundw
          case rel => exact ⟨k + 1, by omega, by go_num, hq.trans ⟨_, rfl⟩, fun j j1 j2 j3 => by
            rcases Nat.lt_or_ge j k with h | h
            · exact HJ.out j j1 j2 h
            · obtain rfl : j = k := by omega
              exact HX.out j1 j2⟩
          case measure => simp [intOf]; omega
        · have hx' : (l1[k] != l2[k]) = true := by simp [hx]
          have HX : Hid (¬ l1 = l2) := fun h => hx (by subst h; rfl)
          clear hx
          generalize l1[k] = z1 at *
          generalize l2[k] = z2 at *
          go_wp2
          go_quiet (fail)
          go_wp2
          go_ret
          exact ⟨ret_bool (by simp [HX.out]), hq.trans ⟨_, rfl⟩⟩
      · have hlt' : ¬ (k : Int) < (l1.length : Int) := by omega
        go_wp2
        go_ret
        exact ⟨ret_bool (by simp [list_eq_of hn fun i i1 i2 => HJ.out i i1 i2 (by omega)]), hq⟩
  · have hne : ((l1.length : Int) != (l2.length : Int)) = true := by simp; omega
    have HX : Hid (¬ l1 = l2) := fun h => hn (by rw [h])
    go_enter Try.func27, Try.ntmps27
    go_wp2
    go_ret
    exact ⟨ret_bool (by simp [HX.out]), Quiet.refl _⟩
end Go.Proofs.Ytffelcidckbohaa
/- A reader of bytes: its state as one fact; next and fail of code's. Condition: the reader is there. -/
namespace Go.Proofs.Ytffelcidckbohaa
open Go.RowKit
set_option linter.unusedVariables false
def ElB (w : World) (b k : Nat) (x : UInt8) : Prop := w.cell? ⟨b, k, none⟩ = some (.int .u8 (x.toNat : Int))
/-- a slice of these bytes, in blocks below B -/
def RdBy (B : Nat) (w : World) (v : Value) (bs : List UInt8) : Prop := RdRow 1 ElB B w v bs ∧ ∃ a n c, v = .slice a n c ∧ n ≤ c
theorem RdBy.keep {B : Nat} {w w' : World} {v : Value} {bs : List UInt8} (h : RdBy B w v bs) (hb : Below B w w') : RdBy B w' v bs := ⟨h.1.keep hb fun c k x hc r => (hb.cell (p := ⟨c, k, none⟩) hc).trans r, h.2⟩
/-- The reader at block b, of type t: its bytes in blocks below B, the place, the error, where that is. -/
structure RdAt (t : TypeId) (w : World) (B b : Nat) (bs : List UInt8) (p e bad : Int) : Prop where
  ex : ∃ v, Blk w b #[v, .int .i64 p, .int .i64 e, .int .i64 bad] t ∧ RdBy B w v bs
  bb : B ≤ b
  lb : bs.length ≤ 65536
def RdS (t : TypeId) (w : World) (B b : Nat) (bs : List UInt8) : St → Prop
  | .ok p => (∃ bad, RdAt t w B b bs (p : Int) 0 bad) ∧ p ≤ bs.length
  | .error x => x.1 ≠ 0 ∧ ∃ p : Nat, p ≤ bs.length ∧ RdAt t w B b bs (p : Int) x.1 x.2
abbrev RdT (b : Nat) (w w' : World) : Prop := Touch (fun x => x = b) w w'
section
variable {t : TypeId} {w w' : World} {B b : Nat} {bs : List UInt8} {p e bad : Int} {st : St}
theorem RdAt.lt (h : RdAt t w B b bs p e bad) : b < w.heap.size := by obtain ⟨v, h1, _⟩ := h.ex; exact h1.lt
theorem RdAt.touch {R : Nat → Prop} (h : RdAt t w B b bs p e bad) (hT : Touch R w w') (hR : ∀ x, R x → x ≠ b ∧ B ≤ x) : RdAt t w' B b bs p e bad := by
  have hl := h.lt
  obtain ⟨⟨v, h1, h2⟩, h3, h4⟩ := h
  have hb : Below B w w' := hT.below (by omega) (fun k hk => (hR k hk).2)
  exact ⟨⟨v, h1.touch hT (fun r => (hR _ r).1 rfl), h2.keep hb⟩, h3, h4⟩
theorem RdAt.grew (h : RdAt t w B b bs p e bad) (hb : Below w.heap.size w w') : RdAt t w' B b bs p e bad := h.touch (R := fun _ => False) (Touch.of hb) (fun _ r => r.elim)
theorem RdAt.quiet (h : RdAt t w B b bs p e bad) (hq : Quiet w w') : RdAt t w' B b bs p e bad := h.grew hq.below
theorem RdS.lt (h : RdS t w B b bs st) : b < w.heap.size := by
  cases st with
  | ok p => obtain ⟨⟨_, h⟩, _⟩ := h; exact h.lt
  | error x => obtain ⟨_, _, _, h⟩ := h; exact h.lt
theorem RdS.bb (h : RdS t w B b bs st) : B ≤ b := by
  cases st with
  | ok p => obtain ⟨⟨_, h⟩, _⟩ := h; exact h.bb
  | error x => obtain ⟨_, _, _, h⟩ := h; exact h.bb
theorem RdS.lb (h : RdS t w B b bs st) : bs.length ≤ 65536 := by
  cases st with
  | ok p => obtain ⟨⟨_, h⟩, _⟩ := h; exact h.lb
  | error x => obtain ⟨_, _, _, h⟩ := h; exact h.lb
theorem RdS.touch {R : Nat → Prop} (h : RdS t w B b bs st) (hT : Touch R w w') (hR : ∀ x, R x → x ≠ b ∧ B ≤ x) : RdS t w' B b bs st := by
  cases st with
  | ok p => obtain ⟨⟨bad, h⟩, h2⟩ := h; exact ⟨⟨bad, h.touch hT hR⟩, h2⟩
  | error x => obtain ⟨h0, q, h1, h⟩ := h; exact ⟨h0, q, h1, h.touch hT hR⟩
theorem RdS.grew (h : RdS t w B b bs st) (hb : Below w.heap.size w w') : RdS t w' B b bs st := h.touch (R := fun _ => False) (Touch.of hb) (fun _ r => r.elim)
theorem RdS.quiet (h : RdS t w B b bs st) (hq : Quiet w w') : RdS t w' B b bs st := h.grew hq.below
theorem RdT.quiet (hq : Quiet w w') : RdT b w w' := Touch.of hq.below
theorem RdAt.set1 (h : RdAt t w B b bs p e bad) (q : Int) : RdAt t (w.setCell ⟨b, 1, none⟩ (.int .i64 q)) B b bs q e bad ∧ RdT b w (w.setCell ⟨b, 1, none⟩ (.int .i64 q)) := by
  have hT : Touch (fun y => y = b) w (w.setCell ⟨b, 1, none⟩ (.int .i64 q)) := (Touch.refl (fun y => y = b) w).setCell (p := ⟨b, 1, none⟩) rfl _
  have hl := h.lt
  obtain ⟨⟨v, h1, h2⟩, h3, h4⟩ := h
  have hb : Below B w (w.setCell ⟨b, 1, none⟩ (.int .i64 q)) := hT.below (by omega) (fun k hk => by omega)
  exact ⟨⟨⟨v, h1.set 1 _, h2.keep hb⟩, h3, h4⟩, hT⟩
theorem RdAt.set2 (h : RdAt t w B b bs p e bad) (q : Int) : RdAt t (w.setCell ⟨b, 2, none⟩ (.int .i64 q)) B b bs p q bad ∧ RdT b w (w.setCell ⟨b, 2, none⟩ (.int .i64 q)) := by
  have hT : Touch (fun y => y = b) w (w.setCell ⟨b, 2, none⟩ (.int .i64 q)) := (Touch.refl (fun y => y = b) w).setCell (p := ⟨b, 2, none⟩) rfl _
  have hl := h.lt
  obtain ⟨⟨v, h1, h2⟩, h3, h4⟩ := h
  have hb : Below B w (w.setCell ⟨b, 2, none⟩ (.int .i64 q)) := hT.below (by omega) (fun k hk => by omega)
  exact ⟨⟨⟨v, h1.set 2 _, h2.keep hb⟩, h3, h4⟩, hT⟩
theorem RdAt.set3 (h : RdAt t w B b bs p e bad) (q : Int) : RdAt t (w.setCell ⟨b, 3, none⟩ (.int .i64 q)) B b bs p e q ∧ RdT b w (w.setCell ⟨b, 3, none⟩ (.int .i64 q)) := by
  have hT : Touch (fun y => y = b) w (w.setCell ⟨b, 3, none⟩ (.int .i64 q)) := (Touch.refl (fun y => y = b) w).setCell (p := ⟨b, 3, none⟩) rfl _
  have hl := h.lt
  obtain ⟨⟨v, h1, h2⟩, h3, h4⟩ := h
  have hb : Below B w (w.setCell ⟨b, 3, none⟩ (.int .i64 q)) := hT.below (by omega) (fun k hk => by omega)
  exact ⟨⟨⟨v, h1.set 3 _, h2.keep hb⟩, h3, h4⟩, hT⟩
/-- a new error -/
theorem RdAt.fail23 (h : RdAt t w B b bs p e bad) (at' x : Int) : RdAt t ((w.setCell ⟨b, 3, none⟩ (.int .i64 at')).setCell ⟨b, 2, none⟩ (.int .i64 x)) B b bs p x at' ∧ RdT b w ((w.setCell ⟨b, 3, none⟩ (.int .i64 at')).setCell ⟨b, 2, none⟩ (.int .i64 x)) := by
  obtain ⟨h1, t1⟩ := h.set3 at'
  obtain ⟨h2, t2⟩ := h1.set2 x
  exact ⟨h2, t1.trans t2⟩
theorem RdAt.fail32 (h : RdAt t w B b bs p e bad) (at' x : Int) : RdAt t ((w.setCell ⟨b, 2, none⟩ (.int .i64 x)).setCell ⟨b, 3, none⟩ (.int .i64 at')) B b bs p x at' ∧ RdT b w ((w.setCell ⟨b, 2, none⟩ (.int .i64 x)).setCell ⟨b, 3, none⟩ (.int .i64 at')) := by
  obtain ⟨h1, t1⟩ := h.set2 x
  obtain ⟨h2, t2⟩ := h1.set3 at'
  exact ⟨h2, t1.trans t2⟩
/-- the first error -/
def failS (st : St) (x : DErr) : St := match st with | .ok _ => .error x | .error y => .error y
end
section
variable {w : World} {B b : Nat} {bs : List UInt8} {p e bad : Int}
set_option maxRecDepth 100000 in
set_option maxHeartbeats 1000000 in
theorem fail_old (t : TypeId) (at' x : Int) (h : RdAt t w B b bs p e bad) (he : e ≠ 0) :
    Calls Try.prog 18 #[.pointer (some ⟨b, 0, none⟩), .int .i64 at', .int .i64 x] w fun e' w' => (∃ u, e' = .returned u) ∧ w = w' := by
  obtain ⟨⟨v, h1, h2⟩, h3, h4⟩ := h
  have c2 := h1.val 2 rfl
  have he' : (e == 0) = false := by simpa using he
  clear h1 h2 h3 h4 he
  go_enter Try.func18, Try.ntmps18
  go_wp2
  go_end0
  exact ⟨⟨_, rfl⟩, rfl⟩
set_option maxRecDepth 100000 in
set_option maxHeartbeats 1000000 in
theorem fail_new (t : TypeId) (at' x : Int) (h : RdAt t w B b bs p 0 bad) :
    Calls Try.prog 18 #[.pointer (some ⟨b, 0, none⟩), .int .i64 at', .int .i64 x] w fun e' w' => (∃ u, e' = .returned u) ∧ RdAt t w' B b bs p x at' ∧ RdT b w w' := by
  have H := Lib.hid (h.fail23 at' x)
  obtain ⟨⟨v, h1, h2⟩, h3, h4⟩ := h
  have c2 := h1.val 2 rfl
  have c3 := h1.val 3 rfl
  have f2 := h1.frozen 2
  have f3 := h1.frozen 3
  clear h1 h2 h3 h4
  go_enter Try.func18, Try.ntmps18
  go_wp2
  go_end0
  exact ⟨⟨_, rfl⟩, H.out⟩
end
theorem RdS.failed {t : TypeId} {w : World} {B b : Nat} {bs : List UInt8} {st : St} (h : RdS t w B b bs st) (at' x : Int) (hx : x ≠ 0) :
    Calls Try.prog 18 #[.pointer (some ⟨b, 0, none⟩), .int .i64 at', .int .i64 x] w fun e' w' => (∃ u, e' = .returned u) ∧ RdS t w' B b bs (failS st (x, at')) ∧ RdT b w w' := by
  cases st with
  | ok p =>
    obtain ⟨⟨bad, h⟩, h2⟩ := h
    exact (fail_new t at' x h).mono fun e' w' ⟨hu, hA, hT⟩ => ⟨hu, ⟨hx, p, h2, hA⟩, hT⟩
  | error y =>
    obtain ⟨h0, q, h1, h⟩ := h
    exact (fail_old t at' x h h0).mono fun e' w' ⟨hu, hw⟩ => ⟨hu, by subst hw; exact ⟨h0, q, h1, h⟩, by subst hw; exact Touch.refl _ _⟩
/-! next -/
set_option maxRecDepth 100000 in
set_option maxHeartbeats 1000000 in
theorem next_in (t : TypeId) (w : World) (B b : Nat) (bs : List UInt8) (p : Nat) (bad : Int) (h : RdAt t w B b bs (p : Int) 0 bad) (hp : p < bs.length) :
    Calls Try.prog 37 #[.pointer (some ⟨b, 0, none⟩)] w fun e' w' => e' = .returned (.int .u8 ((bs[p]).toNat : Int)) ∧ RdAt t w' B b bs ((p + 1 : Nat) : Int) 0 bad ∧ RdT b w w' := by
  have hlb := h.lb
  have H := Lib.hid (fun W (hq : Quiet w W) => And.imp_right (Touch.trans (RdT.quiet hq)) ((h.quiet hq).set1 ((p + 1 : Nat) : Int)))
  obtain ⟨⟨v, h1, h2⟩, h3, h4⟩ := h
  obtain ⟨a, c, rfl⟩ := rd_shape h2.1
  obtain ⟨d, o, rfl, _, cx⟩ := rd_at h2.1 hp
  unfold ElB at cx
  rw [Nat.mul_one] at cx
  have c0 := h1.val 0 rfl
  have c1 := h1.val 1 rfl
  have c2 := h1.val 2 rfl
  have f1 := h1.frozen 1
  have hp' : ((p : Int) == (bs.length : Int)) = false := by simp; omega
  have hp2 : (0 : Int) ≤ (p : Int) ∧ (p : Int) < (bs.length : Int) := ⟨by omega, by omega⟩
  clear h1 h2 h3 h4
  generalize (bs[p]).toNat = x at *
  go_enter Try.func37, Try.ntmps37
  go_wp2
  go_quiet (fail)
  go_wp2
  go_quiet (fail)
  go_wp2
  go_ret
  exact ⟨rfl, H.out _ ⟨_, rfl⟩⟩
set_option maxRecDepth 100000 in
set_option maxHeartbeats 1000000 in
theorem next_end (t : TypeId) (w : World) (B b : Nat) (bs : List UInt8) (bad : Int) (h : RdAt t w B b bs (bs.length : Int) 0 bad) :
    Calls Try.prog 37 #[.pointer (some ⟨b, 0, none⟩)] w fun e' w' => e' = .returned (.int .u8 0) ∧ RdAt t w' B b bs (bs.length : Int) 10 (bs.length : Int) ∧ RdT b w w' := by
  have F := Lib.hid (fun W (hq : Quiet w W) => fail_new t (bs.length : Int) 10 (h.quiet hq))
  obtain ⟨⟨v, h1, h2⟩, h3, h4⟩ := h
  obtain ⟨a, c, rfl⟩ := rd_shape h2.1
  have c0 := h1.val 0 rfl
  have c1 := h1.val 1 rfl
  have c2 := h1.val 2 rfl
  clear h1 h2 h3 h4
  go_enter Try.func37, Try.ntmps37
  go_wp2_with fail
  go_quiet (fail)
  go_wp2_with fail
  refine (F.out _ ⟨_, rfl⟩).mono ?_
  rintro e' w2 ⟨⟨u, rfl⟩, hA, hT⟩
  have H := Lib.hid (And.intro hA (Touch.trans (RdT.quiet ⟨_, rfl⟩) hT))
  obtain ⟨⟨v, h1, h2⟩, h3, h4⟩ := hA
  have c2 := h1.val 2 rfl
  clear h1 h2 h3 h4 hT
  go_wp2
  go_ret
  exact ⟨rfl, H.out⟩
set_option maxRecDepth 100000 in
set_option maxHeartbeats 1000000 in
theorem next_err (t : TypeId) (w : World) (B b : Nat) (bs : List UInt8) (p : Nat) (e bad : Int) (h : RdAt t w B b bs (p : Int) e bad) (he : e ≠ 0) :
    Calls Try.prog 37 #[.pointer (some ⟨b, 0, none⟩)] w fun e' w' => e' = .returned (.int .u8 0) ∧ Quiet w w' := by
  have F := Lib.hid (fun W (hq : Quiet w W) q => fail_old t q 10 (h.quiet hq) he)
  obtain ⟨⟨v, h1, h2⟩, h3, h4⟩ := h
  obtain ⟨a, c, rfl⟩ := rd_shape h2.1
  have c0 := h1.val 0 rfl
  have c1 := h1.val 1 rfl
  have c2 := h1.val 2 rfl
  have he' : (e != 0) = true := by simpa using he
  clear h1 h2 h3 h4
  by_cases hp : p = bs.length
  · have hp' : ((p : Int) == (bs.length : Int)) = true := by simp [hp]
    clear hp
    go_enter Try.func37, Try.ntmps37
    go_wp2_with fail
    go_quiet (fail)
    go_wp2_with fail
    refine (F.out _ ⟨_, rfl⟩ _).mono ?_
    rintro e' w2 ⟨⟨u, rfl⟩, rfl⟩
    go_wp2
    go_ret
    exact ⟨rfl, _, rfl⟩
  · have hp' : ((p : Int) == (bs.length : Int)) = false := by simp; omega
    go_enter Try.func37, Try.ntmps37
    go_wp2
    go_quiet (fail)
    go_wp2
    go_ret
    exact ⟨rfl, _, rfl⟩
/-- next, from any state -/
theorem next_any (t : TypeId) (w : World) (B b : Nat) (bs : List UInt8) (st : St) (h : RdS t w B b bs st) :
    Calls Try.prog 37 #[.pointer (some ⟨b, 0, none⟩)] w fun e' w' => ∃ (x : UInt8) (st' : St), e' = .returned (.int .u8 (x.toNat : Int)) ∧ Gets (after st (nextD bs)) x st' ∧ (∀ y, st' = .error y → x = 0) ∧ RdS t w' B b bs st' ∧ RdT b w w' := by
  cases st with
  | ok p =>
    obtain ⟨⟨bad, h⟩, h2⟩ := h
    by_cases hp : p < bs.length
    · refine (next_in t w B b bs p bad h hp).mono fun e' w' ⟨hu, hA, hT⟩ => ⟨bs[p], .ok (p + 1), hu, .inl ⟨p + 1, ?_, rfl⟩, fun y hy => (by cases hy), ⟨⟨bad, hA⟩, hp⟩, hT⟩
      rw [after_ok, nextD, List.getElem?_eq_getElem hp]
    · obtain rfl : p = bs.length := by omega
      refine (next_end t w B b bs bad h).mono fun e' w' ⟨hu, hA, hT⟩ => ⟨0, .error (10, bs.length), hu, .inr ⟨_, ?_, rfl⟩, fun y hy => rfl, ⟨show (10 : Int) ≠ 0 by decide, _, Nat.le_refl _, hA⟩, hT⟩
      rw [after_ok, nextD, List.getElem?_eq_none (Nat.le_refl _)]
  | error y =>
    obtain ⟨h0, q, h1, h⟩ := h
    exact (next_err t w B b bs q y.1 y.2 h h0).mono fun e' w' ⟨hu, hw⟩ => ⟨0, .error y, hu, .inr ⟨y, rfl, rfl⟩, fun _ _ => rfl, ⟨h0, q, h1, h.quiet hw⟩, RdT.quiet hw⟩
end Go.Proofs.Ytffelcidckbohaa
/- code's reader: number. Condition: the reader is there. -/
namespace Go.Proofs.Ytffelcidckbohaa
open Go.RowKit
set_option linter.unusedVariables false
theorem or_shl (a x k : Nat) (ha : a < 2 ^ k) : a ||| (x * 2 ^ k) = a + x * 2 ^ k := by
  rw [Nat.or_comm, Nat.mul_comm, ← Nat.two_pow_add_eq_or_of_lt ha, Nat.add_comm]
theorem mod_shl (x k : Nat) (hk : k ≤ 64) : x * 2 ^ k % 2 ^ 64 = x % 2 ^ (64 - k) * 2 ^ k := by
  have : (2 : Nat) ^ 64 = 2 ^ (64 - k) * 2 ^ k := by rw [← Nat.pow_add]; congr 1; omega
  rw [this, Nat.mul_mod_mul_right]
theorem pow128 (k : Nat) : (128 : Nat) ^ k = 2 ^ (7 * k) := by rw [Nat.pow_mul]
/-- a group more -/
theorem val_step (l : List UInt8) (b : UInt8) (hk : l.length ≤ 9) : bits .or .u64 ((valD l : Nat) : Int) (IntKind.u64.wrap ((b.toNat : Int) % 128 * 2 ^ (7 * l.length))) = ((valD (l ++ [b]) % 18446744073709551616 : Nat) : Int) := by
  have h1 := valD_lt l
  rw [pow128] at h1
  have h2 : (2 : Nat) ^ (7 * l.length) ≤ 2 ^ 63 := Nat.pow_le_pow_right (by decide) (by omega)
  have e : (b.toNat : Int) % 128 * 2 ^ (7 * l.length) = ((b.toNat % 128 * 2 ^ (7 * l.length) : Nat) : Int) := by
    rw [Int.natCast_mul]; simp
  rw [e, IntKind.wrap_u64, show ((b.toNat % 128 * 2 ^ (7 * l.length) : Nat) : Int) % 18446744073709551616 = ((b.toNat % 128 * 2 ^ (7 * l.length) % 2 ^ 64 : Nat) : Int) by omega, bits_or_u64_nat _ _ (by omega) (by omega), mod_shl _ _ (by omega), or_shl _ _ _ h1, valD_app, pow128]
  have h3 := mod_shl (b.toNat % 128) (7 * l.length) (by omega)
  have h4 : b.toNat % 128 % 2 ^ (64 - 7 * l.length) * 2 ^ (7 * l.length) + valD l < 2 ^ 64 := by
    have h5 : b.toNat % 128 % 2 ^ (64 - 7 * l.length) + 1 ≤ 2 ^ (64 - 7 * l.length) := Nat.mod_lt _ (Nat.two_pow_pos _)
    have h6 := Nat.mul_le_mul_right (2 ^ (7 * l.length)) h5
    rw [← Nat.pow_add, show 64 - 7 * l.length + 7 * l.length = 64 by omega, Nat.add_mul] at h6
    omega
  rw [show (18446744073709551616 : Nat) = 2 ^ 64 from rfl] at *
  have h7 : valD l % 2 ^ 64 = valD l := Nat.mod_eq_of_lt (by omega)
  congr 1
  rw [Nat.add_mod (valD l), h3, h7]
  exact (Nat.mod_eq_of_lt (by omega)).symm
theorem and127 (b : UInt8) : bits .and .u8 (b.toNat : Int) 127 = (b.toNat : Int) % 128 := by
  have hb := b.toNat_lt
  rw [show (127 : Int) = ((127 : Nat) : Int) from rfl, u8_and_nat _ _ (by omega) (by omega), Nat.and_two_pow_sub_one_eq_mod (b.toNat) 7]
  simp
end Go.Proofs.Ytffelcidckbohaa
