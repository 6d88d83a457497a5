/- Texts of this seat, one behind the other: each says at its head what it holds. No condition of its own. -/
import Derived.Test.YtffelcidckbohaaGCodeReads08
import Derived.Test.YtffelcidckbohaaGCodeReads10
/- code's reader: a class, a function. Condition: the reader is there. -/
namespace Go.Proofs.Ytffelcidckbohaa
open Go.RowKit
set_option linter.unusedVariables false
theorem ReadsV.plain {α β : Type} {mk : α → Value} {π : α → β} {Inn : World → Nat → α → Prop} {t : TypeId} {B b : Nat} {bs : List UInt8} {r : Rd β} {w : World} {e' : Ending} {w' : World} (h : ReadsV mk π Inn t B b bs r w e' w') : ReadsV mk π NoInn t B b bs r w e' w' := by
  obtain ⟨a, s, h1, h2, _, h4⟩ := h
  exact ⟨a, s, h1, h2, trivial, h4⟩
theorem gets_cls {bs : List UInt8} {st s1 s2 : St} {l : List UInt8} {fs : List FldD} (h1 : Gets (after st (txtD bs)) l s1) (h2 : Gets (after s1 (listD bs (fldD bs) 15)) fs s2) : Gets (after st (clsD bs)) (ClsD.mk (bytA l) fs) s2 := by
  have e : after st (clsD bs) = bindD (after st (txtD bs)) fun l q => bindD (listD bs (fldD bs) 15 q) fun fs r => .ok (⟨bytA l, fs⟩, r) := after_bind st _ _
  rw [e]
  refine h1.bind ?_
  rw [after_bind]
  exact h2.map fun fs => ClsD.mk (bytA l) fs
theorem gets_fun {bs : List UInt8} {st s1 s2 s3 s4 s5 : St} {l : List UInt8} {ps ls : List Int} {r : Int} {is : List InsD} (h1 : Gets (after st (txtD bs)) l s1) (h2 : Gets (after s1 (listD bs (kindD bs) 6)) ps s2) (h3 : Gets (after s2 (kindD bs)) r s3) (h4 : Gets (after s3 (listD bs (kindD bs) 16)) ls s4) (h5 : Gets (after s4 (listD bs (insD bs) 256)) is s5) :
    Gets (after st (funD bs)) (FunD.mk (bytA l) ps r ls is) s5 := by
  have e : after st (funD bs) = bindD (after st (txtD bs)) fun l q => bindD (listD bs (kindD bs) 6 q) fun ps r => bindD (kindD bs r) fun t s => bindD (listD bs (kindD bs) 16 s) fun ls u => bindD (listD bs (insD bs) 256 u) fun is v => .ok (⟨bytA l, ps, t, ls, is⟩, v) := after_bind st _ _
  rw [e]
  refine h1.bind ?_
  rw [after_bind]
  refine h2.bind ?_
  rw [after_bind]
  refine h3.bind ?_
  rw [after_bind]
  refine h4.bind ?_
  rw [after_bind]
  exact h5.map fun is => FunD.mk (bytA l) ps r ls is
/-- a class that was read, its fields in a row of one's own -/
def InnC (w : World) (lo : Nat) (x : ClsD × Value) : Prop := w.ownsRow lo 66 2 x.2 x.1.fields.length (x.1.fields.flatMap fldC) ∧ x.1.fields.length ≤ 15
def InnU (w : World) (lo : Nat) (x : FunD × Value × Value × Value) : Prop := (w.ownsRow lo 3 1 x.2.1 x.1.params.length (x.1.params.flatMap intC) ∧ w.ownsRow lo 3 1 x.2.2.1 x.1.locals.length (x.1.locals.flatMap intC) ∧ w.ownsRow lo 41 3 x.2.2.2 x.1.code.length (x.1.code.flatMap insC)) ∧ x.1.params.length ≤ 6 ∧ x.1.locals.length ≤ 16 ∧ x.1.code.length ≤ 256
set_option maxRecDepth 100000 in
set_option maxHeartbeats 2000000 in
theorem rdclass_any (t : TypeId) (w : World) (B b : Nat) (bs : List UInt8) (st : St) (h : RdS t w B b bs st) :
    Calls Try.prog 15 #[.pointer (some ⟨b, 0, none⟩)] w (ReadsV (fun x : ClsD × Value => Value.agg #[.string x.1.name, x.2]) (fun x => x.1) InnC t B b bs (after st (clsD bs)) w) := by
  have hb0 := (Below.refl w.heap.size w).alloc (Nat.le_refl _) (.cells #[.string ⟨#[]⟩, .slice none 0 0] 52)
  have hbl := h.lt
  have N := Lib.hid (rdname_any t _ B b bs st (h.grew hb0))
  have k0 := Lib.hid (Blk.new w #[.string ⟨#[]⟩, .slice none 0 0] 52)
  have HB0 := Lib.hid hb0
  clear h hb0
  go_enter Try.func15, Try.ntmps15
  go_wp2_with fail
  refine N.out.mono ?_
  rintro e' w1 ⟨l, s1, rfl, hG1, _, hS1, hT1⟩
  have k1 := Lib.hid (k0.out.touch hT1 (by omega))
  have K := Lib.hid (list_fld t w1 B b bs s1 15 hS1 (by decide) (fun W s hs => rdfield_any t W B b bs s hs))
  have HG1 := Lib.hid hG1
  have HT1 := Lib.hid (Touch.trans (Touch.of HB0.out) hT1)
  clear hG1 hS1 hT1 N k0 HB0
  go_wp2_with fail
  refine K.out.mono ?_
  rintro e' w2 ⟨v, fs, s2, rfl, hG2, hf, hO, hS2, hT2⟩
  rw [map_id'] at hG2
  unfold OwnR at hO
  have k2 := k1.out.touch hT2 (by omega)
  have hw1 := k1.out.lt
  obtain ⟨va, vc, rfl⟩ := row_shape hO
  have y0 := k2.val 0 rfl
  have y1 := k2.val 1 rfl
  have f0 := k2.frozen 0
  have f1 := k2.frozen 1
  have hT3 := ((Touch.refl (fun y => y = w.heap.size) w2).setCell (p := ⟨w.heap.size, 0, none⟩) rfl (.string (bytA l))).setCell (p := ⟨w.heap.size, 1, none⟩) rfl (.slice va fs.length vc)
  have hO3 := own_sub (own_touch hO hT3 (fun g hg e => by have := (own_ltG hO hg).1; omega)) (show w.heap.size ≤ w1.heap.size by omega)
  have HZ := Lib.hid ((k2.set 0 (.string (bytA l))).set 1 (.slice va fs.length vc))
  have HE := Lib.hid (And.intro (gets_cls HG1.out hG2) (And.intro (And.intro hO3 hf) (new_kept hS2 hbl (HT1.out.trans hT2) (hT3.mono fun y _ e => by omega))))
  clear hG2 hS2 hT2 K k1 k2 HG1 HT1 hT3 hO hO3 hf
  go_wp2
  generalize World.setCell (World.setCell _ _ _) _ _ = W9 at *
  have z0 := HZ.out.val 0 rfl
  have z1 := HZ.out.val 1 rfl
  refine bodyPost_ret (v := .agg #[.string (bytA l), .slice va fs.length vc]) (by simp [results, Try.results15, go_sem, z0, z1]) rfl ⟨(⟨bytA l, fs⟩, .slice va fs.length vc), s2, rfl, HE.out.1, HE.out.2.1, HE.out.2.2⟩
set_option maxRecDepth 100000 in
set_option maxHeartbeats 4000000 in
theorem rdfun_any (t : TypeId) (w : World) (B b : Nat) (bs : List UInt8) (st : St) (h : RdS t w B b bs st) :
    Calls Try.prog 17 #[.pointer (some ⟨b, 0, none⟩)] w (ReadsV (fun x : FunD × Value × Value × Value => Value.agg #[.string x.1.name, x.2.1, .int .i64 x.1.result, x.2.2.1, x.2.2.2]) (fun x => x.1) InnU t B b bs (after st (funD bs)) w) := by
  have hb0 := (Below.refl w.heap.size w).alloc (Nat.le_refl _) (.cells #[.string ⟨#[]⟩, .slice none 0 0, .int .i64 0, .slice none 0 0, .slice none 0 0] 45)
  have hbl := h.lt
  have N := Lib.hid (rdname_any t _ B b bs st (h.grew hb0))
  have k0 := Lib.hid (Blk.new w #[.string ⟨#[]⟩, .slice none 0 0, .int .i64 0, .slice none 0 0, .slice none 0 0] 45)
  have HB0 := Lib.hid hb0
  clear h hb0
  go_enter Try.func17, Try.ntmps17
  go_wp2_with fail
  refine N.out.mono ?_
  rintro e' w1 ⟨l, s1, rfl, hG1, _, hS1, hT1⟩
  have k1 := Lib.hid (k0.out.touch hT1 (by omega))
  have hw1 := k1.out.lt
  have K := Lib.hid (list_int t w1 B b bs s1 6 hS1 (by decide) (fun W s hs => rdkind_any t W B b bs s hs))
  have HG1 := Lib.hid hG1
  have HT1 := Lib.hid (Touch.trans (Touch.of HB0.out) hT1)
  clear hG1 hS1 hT1 N k0 HB0
  go_wp2_with fail
  refine K.out.mono ?_
  rintro e' w2 ⟨v1, ps, s2, rfl, hG2, hl1, hO1, hS2, hT2⟩
  rw [map_id'] at hG2
  have hbl2 : b < w1.heap.size := by omega
  have k2 := Lib.hid (k1.out.touch hT2 (by omega))
  have HG2 := Lib.hid hG2
  have HT2 := Lib.hid (HT1.out.trans hT2)
  have HO1 := Lib.hid hO1
  have R := Lib.hid (rdkind_any t w2 B b bs s2 hS2)
  have hsz2 := hT2.size
  clear hG2 hS2 hT2 K k1 HT1 hO1
  go_wp2_with fail
  refine R.out.mono ?_
  rintro e' w3 ⟨rt, s3, rfl, hG3, _, hS3, hT3⟩
  have k3 := Lib.hid (k2.out.touch hT3 (by omega))
  have HG3 := Lib.hid hG3
  have HO1 := Lib.hid (HO1.out.touch hT3 hbl2)
  have HT3 := Lib.hid (HT2.out.trans hT3)
  have K := Lib.hid (list_int t w3 B b bs s3 16 hS3 (by decide) (fun W s hs => rdkind_any t W B b bs s hs))
  have hsz3 := hT3.size
  clear hG3 hS3 hT3 R k2 HT2
  go_wp2_with fail
  refine K.out.mono ?_
  rintro e' w4 ⟨v3, ls, s4, rfl, hG4, hl3, hO3, hS4, hT4⟩
  rw [map_id'] at hG4
  have k4 := Lib.hid (k3.out.touch hT4 (by omega))
  have HG4 := Lib.hid hG4
  have HO1 := Lib.hid (HO1.out.touch hT4 hbl2)
  have HO3 := Lib.hid hO3
  have HT4 := Lib.hid (HT3.out.trans hT4)
  have K := Lib.hid (list_ins t w4 B b bs s4 256 hS4 (by decide) (fun W s hs => rdins_any t W B b bs s hs))
  have hsz4 := hT4.size
  clear hG4 hS4 hT4 k3 HT3 hO3
  go_wp2_with fail
  refine K.out.mono ?_
  rintro e' w5 ⟨v4, is, s5, rfl, hG5, hl4, hO4, hS5, hT5⟩
  rw [map_id'] at hG5
  have k5 := k4.out.touch hT5 (by omega)
  have hO1 := HO1.out.touch hT5 hbl2
  have hO3 := HO3.out.touch hT5 (by omega)
  unfold OwnR at hO1 hO3 hO4
  obtain ⟨a1, c1, rfl⟩ := row_shape hO1
  obtain ⟨a3, c3, rfl⟩ := row_shape hO3
  obtain ⟨a4, c4, rfl⟩ := row_shape hO4
  have y0 := k5.val 0 rfl
  have y1 := k5.val 1 rfl
  have y2 := k5.val 2 rfl
  have y3 := k5.val 3 rfl
  have y4 := k5.val 4 rfl
  have f0 := k5.frozen 0
  have f1 := k5.frozen 1
  have f2 := k5.frozen 2
  have f3 := k5.frozen 3
  have f4 := k5.frozen 4
  have hT6 := (((((Touch.refl (fun y => y = w.heap.size) w5).setCell (p := ⟨w.heap.size, 0, none⟩) rfl (.string (bytA l))).setCell (p := ⟨w.heap.size, 1, none⟩) rfl (.slice a1 ps.length c1)).setCell (p := ⟨w.heap.size, 2, none⟩) rfl (.int .i64 rt)).setCell (p := ⟨w.heap.size, 3, none⟩) rfl (.slice a3 ls.length c3)).setCell (p := ⟨w.heap.size, 4, none⟩) rfl (.slice a4 is.length c4)
  have q1 := own_sub (own_touch hO1 hT6 (fun g hg e => by have := (own_ltG hO1 hg).1; omega)) (show w.heap.size ≤ w1.heap.size by omega)
  have q3 := own_sub (own_touch hO3 hT6 (fun g hg e => by have := (own_ltG hO3 hg).1; omega)) (show w.heap.size ≤ w3.heap.size by omega)
  have q4 := own_sub (own_touch hO4 hT6 (fun g hg e => by have := (own_ltG hO4 hg).1; omega)) (show w.heap.size ≤ w4.heap.size by omega)
  have HZ := Lib.hid (((((k5.set 0 (.string (bytA l))).set 1 (.slice a1 ps.length c1)).set 2 (.int .i64 rt)).set 3 (.slice a3 ls.length c3)).set 4 (.slice a4 is.length c4))
  have HE := Lib.hid (And.intro (gets_fun HG1.out HG2.out HG3.out HG4.out hG5) (And.intro (And.intro (And.intro q1 (And.intro q3 q4)) (And.intro hl1 (And.intro hl3 hl4))) (new_kept hS5 hbl (HT4.out.trans hT5) (hT6.mono fun y _ e => by omega))))
  clear hG5 hS5 hT5 K k4 k5 HG1 HG2 HG3 HG4 HT4 HO1 HO3 hT6 hO1 hO3 hO4 hl1 hl3 hl4 q1 q3 q4
  go_wp2
  generalize World.setCell (World.setCell (World.setCell (World.setCell (World.setCell _ _ _) _ _) _ _) _ _) _ _ = W9 at *
  have z0 := HZ.out.val 0 rfl
  have z1 := HZ.out.val 1 rfl
  have z2 := HZ.out.val 2 rfl
  have z3 := HZ.out.val 3 rfl
  have z4 := HZ.out.val 4 rfl
  refine bodyPost_ret (v := .agg #[.string (bytA l), .slice a1 ps.length c1, .int .i64 rt, .slice a3 ls.length c3, .slice a4 is.length c4]) (by simp [results, Try.results17, go_sem, z0, z1, z2, z3, z4]) rfl ⟨(⟨bytA l, ps, rt, ls, is⟩, .slice a1 ps.length c1, .slice a3 ls.length c3, .slice a4 is.length c4), s5, rfl, HE.out.1, HE.out.2.1, HE.out.2.2⟩
end Go.Proofs.Ytffelcidckbohaa
/- code's reader: list, at classes. Condition: what a call of the closure does is given. -/
namespace Go.Proofs.Ytffelcidckbohaa
open Go.RowKit
set_option linter.unusedVariables false
def COwnP (w : World) (lo : Nat) (v : Value) (l : List (ClsD × Value)) : Prop := COwn w lo v l ∧ ∀ x ∈ l, x.1.fields.length ≤ 15
section
variable {w w' : World} {lo b : Nat} {v v' : Value} {l : List (ClsD × Value)} {x : ClsD × Value}
theorem COwnP.nil (w : World) (lo : Nat) : COwnP w lo (.slice none 0 0) [] := ⟨COwn.nil w lo, fun x hx => by cases hx⟩
theorem COwnP.touch (h : COwnP w lo v l) (hT : RdT b w w') (hb : b < lo) : COwnP w' lo v l := ⟨h.1.touch hT (fun g h1 _ e => by omega), h.2⟩
theorem COwnP.apart (h : COwnP w lo v l) (hx : InnC w' w.heap.size x) : ∀ g, x.2.ownBlock = some g → v.ownBlock ≠ some g := fun g hg e => by
  have h1 := (own_ltG hx.1 hg).1
  have h2 := (own_ltG h.1.row e).2
  omega
theorem InnC.sub {lo' : Nat} (h : InnC w lo x) (hl : lo' ≤ lo) : InnC w lo' x := ⟨own_sub h.1 hl, h.2⟩
theorem InnC.one (h : InnC w lo x) : ∀ u ∈ clsC x, u.oneCell' = true := by
  obtain ⟨a, c, e⟩ := row_shape h.1
  intro u hu
  simp [clsC] at hu
  rcases hu with rfl | rfl
  · rfl
  · rw [e]; rfl
theorem COwnP.app {o : Obj} (h : COwnP w lo v l) (hx : InnC w lo x) (hap : ∀ g, x.2.ownBlock = some g → v.ownBlock ≠ some g) (hg : (w.alloc o).grownBy w' v.ownBlock)
    (hown : w'.ownsRow lo 52 2 v' (l.length + 1) (l.flatMap clsC ++ clsC x)) (hat : v'.ownBlock = v.ownBlock ∨ v'.ownBlock = some (w.alloc o).heap.size) : COwnP w' lo v' (l ++ [x]) := by
  obtain ⟨q, cap, rfl, _⟩ := own_cellG hown (by omega)
  have hb := (Below.refl w.heap.size w).alloc (Nat.le_refl _) o
  refine ⟨COwn.app (h.1.grew hb) (own_grewG hx.1 hb) hap hg hown rfl ?_, fun y hy => ?_⟩
  · rcases hat with h1 | h1
    · exact .inl h1.symm
    · exact .inr (Option.some.inj h1)
  · rcases List.mem_append.1 hy with h1 | h1
    · exact h.2 y h1
    · obtain rfl : y = x := by simpa using h1
      exact hx.2
end
set_option maxRecDepth 100000 in
set_option maxHeartbeats 2000000 in
theorem list_cls (t : TypeId) (w : World) (B b : Nat) (bs : List UInt8) (st : St) (most : Nat) (h : RdS t w B b bs st) (hm : most ≤ 1000)
    (ST : Hid (∀ (W : World) (s : St), RdS t W B b bs s → Calls Try.prog 15 #[.pointer (some ⟨b, 0, none⟩)] W (ReadsV (fun x : ClsD × Value => Value.agg #[.string x.1.name, x.2]) (fun x => x.1) InnC t B b bs (after s (clsD bs)) W))) :
    Calls Try.prog 14 #[.pointer (some ⟨b, 0, none⟩), .int .i64 most, .func (.func 15) #[.pointer (some ⟨b, 0, none⟩)] #[]] w (ReadsL COwnP (fun x => x.1) most t B b bs (after st (listD bs (clsD bs) most)) w) := by
  obtain ⟨i0, hi, hz0, hz1, hz2⟩ := info_parts info_cls
  have Z := Lib.hid (And.intro hi (And.intro hz0 (And.intro hz1 hz2)))
  have hbl := h.lt
  have NU := Lib.hid (numr_any t w B b bs st most h (by omega))
  clear h hi hz0 hz1 hz2
  go_enter Try.func14, Try.ntmps14
  go_wp2_with fail
  refine NU.out.mono ?_
  rintro e' w1 ⟨n, st1, rfl, hG, h0, hS, hT⟩
  have hn := num_le hG h0
  have HG := Lib.hid hG
  have HS := Lib.hid hS
  have HT := Lib.hid hT
  clear hG h0 hS hT NU
  go_wp2_with fail
  go_loopw [7, 9] (fun v x wr => ∃ (i : Nat) (ls : List (ClsD × Value)) (s : St), x = .int .i64 i ∧ i ≤ n ∧ Hid (ls.length = i) ∧ COwnP wr w.heap.size v ls ∧ Gets (after st1 (seqD (clsD bs) i)) (ls.map fun x => x.1) s ∧ RdS t wr B b bs s ∧ RdT b w wr) (fun _ x _ => n - (intOf x).toNat)
  case atStart => exact ⟨0, [], st1, rfl, Nat.zero_le _, rfl, COwnP.nil _ _, gets_none _ _, HS.out, HT.out⟩
  case round =>
    obtain ⟨i, ls, s, rfl, hin, hil, hO, hGi, hSi, hTi⟩ := hrel
    obtain ⟨va, vc, rfl⟩ := row_shape hO.1.row
    have HGi := Lib.hid hGi
    have HTi := Lib.hid hTi
    have hsz := hTi.size
    clear hGi hTi
    by_cases hlt : i < n
    · have hlt' : (i : Int) < (n : Int) := by omega
      cases s with
      | error x =>
        obtain ⟨c2, _, c2', _⟩ := hSi.errC
        have HSi := Lib.hid hSi
        clear hSi
        go_wp2
        go_ret
        exact ⟨_, ls, .error x, rfl, gets_list HG.out (gets_late HGi.out hin), by have := hil.out; omega, hO, HSi.out, HTi.out⟩
      | ok p =>
        obtain ⟨c2, _⟩ := hSi.okC
        have NX := Lib.hid (ST.out wr _ hSi)
        clear hSi
        go_wp2_with fail
        refine NX.out.mono ?_
        rintro e' w2 ⟨a, s', rfl, hG2, hI2, hS2, hT2⟩
        have hap := hO.apart hI2
        have hI2 := hI2.sub hsz
        have hO2 := hO.touch hT2 hbl
        have hR2 := hO2.1.row
        have HO2 := Lib.hid (And.intro hO2 (And.intro hI2 hap))
        clear hO2 hI2 hap
        have HG2 := Lib.hid hG2
        have HS2 := Lib.hid hS2
        have HT2 := Lib.hid (HTi.out.trans hT2)
        have hsz2 := hT2.size
        clear hG2 hS2 hT2 NX c2 hO
        go_wp2_with (at_builtin; refine wpList_append_own_at _ rfl _ _ 24 rfl w.heap.size 52 i0 _ 2 40 Try.underlying24 Z.out.1 Z.out.2.1 Z.out.2.2.1 Z.out.2.2.2 rfl (by decide) _ ls.length (ls.flatMap clsC) rfl (own_grewG hR2 ((Below.refl _ _).alloc (Nat.le_refl _) _)) ⟨w2.heap.size, 0, none⟩ 1 1 (clsC a) rfl rfl (World.news_of_block (Blk.new _ _ _)) HO2.out.2.1.one (by have := hil.out; unfold maxLen; omega) (by have := hil.out; omega) (by simp; omega) ?_; intro v' w3 hown' hgrow _ hat; obtain ⟨ga, gc, rfl⟩ := row_shape hown'; have HA := Lib.hid (list_kept HS2.out hbl hR2 hgrow HT2.out); have HOA := Lib.hid (COwnP.app HO2.out.1 HO2.out.2.1 HO2.out.2.2 hgrow hown' hat); clear hgrow hat hown')
        go_roundw
        case rel => exact ⟨i + 1, ls ++ [a], s', by go_num, by omega, by unfold Hid; rw [List.length_append, hil.out]; rfl, HOA.out, by rw [List.map_append]; exact gets_one HGi.out HG2.out, HA.out.1, HA.out.2⟩
        case measure => simp [intOf]; omega
    · have hlt' : ¬ (i : Int) < (n : Int) := by omega
      obtain rfl : i = n := by omega
      have HSi := Lib.hid hSi
      clear hSi
      go_wp2
      go_ret
      exact ⟨_, ls, s, rfl, gets_list HG.out HGi.out, by have := hil.out; omega, hO, HSi.out, HTi.out⟩
end Go.Proofs.Ytffelcidckbohaa
/- code's reader: list, at functions. Condition: what a call of the closure does is given. -/
namespace Go.Proofs.Ytffelcidckbohaa
open Go.RowKit
set_option linter.unusedVariables false
def UOwnP (w : World) (lo : Nat) (v : Value) (l : List (FunD × Value × Value × Value)) : Prop := UOwn w lo v l ∧ ∀ x ∈ l, x.1.params.length ≤ 6 ∧ x.1.locals.length ≤ 16 ∧ x.1.code.length ≤ 256
section
variable {w w' : World} {lo b : Nat} {v v' : Value} {l : List (FunD × Value × Value × Value)} {x : FunD × Value × Value × Value}
theorem UOwnP.nil (w : World) (lo : Nat) : UOwnP w lo (.slice none 0 0) [] := ⟨UOwn.nil w lo, fun x hx => by cases hx⟩
theorem UOwnP.touch (h : UOwnP w lo v l) (hT : RdT b w w') (hb : b < lo) : UOwnP w' lo v l := ⟨h.1.touch hT (fun g h1 _ e => by omega), h.2⟩
def ApU (x : FunD × Value × Value × Value) (v : Value) : Prop := (∀ g, x.2.1.ownBlock = some g → v.ownBlock ≠ some g) ∧ (∀ g, x.2.2.1.ownBlock = some g → v.ownBlock ≠ some g) ∧ ∀ g, x.2.2.2.ownBlock = some g → v.ownBlock ≠ some g
theorem UOwnP.apart (h : UOwnP w lo v l) (hx : InnU w' w.heap.size x) : ApU x v :=
  ⟨fun g hg e => by have h1 := (own_ltG hx.1.1 hg).1; have h2 := (own_ltG h.1.row e).2; omega,
   fun g hg e => by have h1 := (own_ltG hx.1.2.1 hg).1; have h2 := (own_ltG h.1.row e).2; omega,
   fun g hg e => by have h1 := (own_ltG hx.1.2.2 hg).1; have h2 := (own_ltG h.1.row e).2; omega⟩
theorem InnU.sub {lo' : Nat} (h : InnU w lo x) (hl : lo' ≤ lo) : InnU w lo' x := ⟨⟨own_sub h.1.1 hl, own_sub h.1.2.1 hl, own_sub h.1.2.2 hl⟩, h.2⟩
theorem InnU.one (h : InnU w lo x) : ∀ u ∈ funC x, u.oneCell' = true := by
  obtain ⟨a1, c1, e1⟩ := row_shape h.1.1
  obtain ⟨a3, c3, e3⟩ := row_shape h.1.2.1
  obtain ⟨a4, c4, e4⟩ := row_shape h.1.2.2
  intro u hu
  simp [funC] at hu
  rcases hu with rfl | rfl | rfl | rfl | rfl
  · rfl
  · rw [e1]; rfl
  · rfl
  · rw [e3]; rfl
  · rw [e4]; rfl
theorem UOwn.grewD (h : UOwn w lo v l) (hb : Below w.heap.size w w') : UOwn w' lo v l := h.touch (R := fun _ => False) (Touch.of hb) (fun _ _ _ e => e)
theorem UOwnP.app {o : Obj} (h : UOwnP w lo v l) (hx : InnU w lo x) (hap : ApU x v) (hg : (w.alloc o).grownBy w' v.ownBlock)
    (hown : w'.ownsRow lo 45 5 v' (l.length + 1) (l.flatMap funC ++ funC x)) (hat : v'.ownBlock = v.ownBlock ∨ v'.ownBlock = some (w.alloc o).heap.size) : UOwnP w' lo v' (l ++ [x]) := by
  obtain ⟨q, cap, rfl, _⟩ := own_cellG hown (by omega)
  have hb := (Below.refl w.heap.size w).alloc (Nat.le_refl _) o
  refine ⟨UOwn.app (h.1.grewD hb) (own_grewG hx.1.1 hb) (own_grewG hx.1.2.1 hb) (own_grewG hx.1.2.2 hb) hap.1 hap.2.1 hap.2.2 hg hown rfl ?_, fun y hy => ?_⟩
  · rcases hat with h1 | h1
    · exact .inl h1.symm
    · exact .inr (Option.some.inj h1)
  · rcases List.mem_append.1 hy with h1 | h1
    · exact h.2 y h1
    · obtain rfl : y = x := by simpa using h1
      exact hx.2
end
set_option maxRecDepth 100000 in
set_option maxHeartbeats 2000000 in
theorem list_fun (t : TypeId) (w : World) (B b : Nat) (bs : List UInt8) (st : St) (most : Nat) (h : RdS t w B b bs st) (hm : most ≤ 1000)
    (ST : Hid (∀ (W : World) (s : St), RdS t W B b bs s → Calls Try.prog 17 #[.pointer (some ⟨b, 0, none⟩)] W (ReadsV (fun x : FunD × Value × Value × Value => Value.agg #[.string x.1.name, x.2.1, .int .i64 x.1.result, x.2.2.1, x.2.2.2]) (fun x => x.1) InnU t B b bs (after s (funD bs)) W))) :
    Calls Try.prog 16 #[.pointer (some ⟨b, 0, none⟩), .int .i64 most, .func (.func 17) #[.pointer (some ⟨b, 0, none⟩)] #[]] w (ReadsL UOwnP (fun x => x.1) most t B b bs (after st (listD bs (funD bs) most)) w) := by
  obtain ⟨i0, hi, hz0, hz1, hz2⟩ := info_parts info_fun
  have Z := Lib.hid (And.intro hi (And.intro hz0 (And.intro hz1 hz2)))
  have hbl := h.lt
  have NU := Lib.hid (numr_any t w B b bs st most h (by omega))
  clear h hi hz0 hz1 hz2
  go_enter Try.func16, Try.ntmps16
  go_wp2_with fail
  refine NU.out.mono ?_
  rintro e' w1 ⟨n, st1, rfl, hG, h0, hS, hT⟩
  have hn := num_le hG h0
  have HG := Lib.hid hG
  have HS := Lib.hid hS
  have HT := Lib.hid hT
  clear hG h0 hS hT NU
  go_wp2_with fail
  go_loopw [7, 9] (fun v x wr => ∃ (i : Nat) (ls : List (FunD × Value × Value × Value)) (s : St), x = .int .i64 i ∧ i ≤ n ∧ Hid (ls.length = i) ∧ UOwnP wr w.heap.size v ls ∧ Gets (after st1 (seqD (funD bs) i)) (ls.map fun x => x.1) s ∧ RdS t wr B b bs s ∧ RdT b w wr) (fun _ x _ => n - (intOf x).toNat)
  case atStart => exact ⟨0, [], st1, rfl, Nat.zero_le _, rfl, UOwnP.nil _ _, gets_none _ _, HS.out, HT.out⟩
  case round =>
    obtain ⟨i, ls, s, rfl, hin, hil, hO, hGi, hSi, hTi⟩ := hrel
    obtain ⟨va, vc, rfl⟩ := row_shape hO.1.row
    have HGi := Lib.hid hGi
    have HTi := Lib.hid hTi
    have hsz := hTi.size
    clear hGi hTi
    by_cases hlt : i < n
    · have hlt' : (i : Int) < (n : Int) := by omega
      cases s with
      | error x =>
        obtain ⟨c2, _, c2', _⟩ := hSi.errC
        have HSi := Lib.hid hSi
        clear hSi
        go_wp2
        go_ret
        exact ⟨_, ls, .error x, rfl, gets_list HG.out (gets_late HGi.out hin), by have := hil.out; omega, hO, HSi.out, HTi.out⟩
      | ok p =>
        obtain ⟨c2, _⟩ := hSi.okC
        have NX := Lib.hid (ST.out wr _ hSi)
        clear hSi
        go_wp2_with fail
        refine NX.out.mono ?_
        rintro e' w2 ⟨a, s', rfl, hG2, hI2, hS2, hT2⟩
        have hap := hO.apart hI2
        have hI2 := hI2.sub hsz
        have hO2 := hO.touch hT2 hbl
        have hR2 := hO2.1.row
        have HO2 := Lib.hid (And.intro hO2 (And.intro hI2 hap))
        clear hO2 hI2 hap
        have HG2 := Lib.hid hG2
        have HS2 := Lib.hid hS2
        have HT2 := Lib.hid (HTi.out.trans hT2)
        have hsz2 := hT2.size
        clear hG2 hS2 hT2 NX c2 hO
        go_wp2_with (at_builtin; refine wpList_append_own_at _ rfl _ _ 25 rfl w.heap.size 45 i0 _ 5 96 Try.underlying25 Z.out.1 Z.out.2.1 Z.out.2.2.1 Z.out.2.2.2 rfl (by decide) _ ls.length (ls.flatMap funC) rfl (own_grewG hR2 ((Below.refl _ _).alloc (Nat.le_refl _) _)) ⟨w2.heap.size, 0, none⟩ 1 1 (funC a) rfl rfl (World.news_of_block (Blk.new _ _ _)) HO2.out.2.1.one (by have := hil.out; unfold maxLen; omega) (by have := hil.out; omega) (by simp; omega) ?_; intro v' w3 hown' hgrow _ hat; obtain ⟨ga, gc, rfl⟩ := row_shape hown'; have HA := Lib.hid (list_kept HS2.out hbl hR2 hgrow HT2.out); have HOA := Lib.hid (UOwnP.app HO2.out.1 HO2.out.2.1 HO2.out.2.2 hgrow hown' hat); clear hgrow hat hown')
        go_roundw
        case rel => exact ⟨i + 1, ls ++ [a], s', by go_num, by omega, by unfold Hid; rw [List.length_append, hil.out]; rfl, HOA.out, by rw [List.map_append]; exact gets_one HGi.out HG2.out, HA.out.1, HA.out.2⟩
        case measure => simp [intOf]; omega
    · have hlt' : ¬ (i : Int) < (n : Int) := by omega
      obtain rfl : i = n := by omega
      have HSi := Lib.hid hSi
      clear hSi
      go_wp2
      go_ret
      exact ⟨_, ls, s, rfl, gets_list HG.out HGi.out, by have := hil.out; omega, hO, HSi.out, HTi.out⟩
end Go.Proofs.Ytffelcidckbohaa
/- code's reader: the magic; Decode, whole. Condition: the bytes are there. -/
namespace Go.Proofs.Ytffelcidckbohaa
open Go.RowKit
set_option linter.unusedVariables false
theorem gets_mag_bad {bs : List UInt8} {s s1 : St} {x : UInt8} {i : Nat} (hi : i < 4) (h : Gets (magD bs i) () s) (hG : Gets (after s (nextD bs)) x s1) (h0 : ∀ y, s1 = .error y → x = 0) (hx : x ≠ magB.getD i 0) : Gets (magD bs (i + 1)) () (failS s1 (12, (i : Int))) := by
  rw [magD]
  rcases h with ⟨p, h1, rfl⟩ | ⟨y, h1, rfl⟩
  · rw [h1, bindD_ok]
    rw [after_ok] at hG
    rcases hG with ⟨q, h2, rfl⟩ | ⟨y, h2, rfl⟩
    · rw [h2, bindD_ok, if_neg hx]
      exact .inr ⟨_, rfl, rfl⟩
    · rw [h2]
      exact .inr ⟨_, rfl, rfl⟩
  · rw [h1]
    rw [after_err] at hG
    have := hG
    rcases hG with ⟨q, h2, _⟩ | ⟨z, h2, rfl⟩
    · cases h2
    · injection h2 with h2
      subst h2
      exact .inr ⟨_, rfl, rfl⟩
theorem gets_mag_ok {bs : List UInt8} {s s1 : St} {x : UInt8} {i : Nat} (hi : i < 4) (h : Gets (magD bs i) () s) (hG : Gets (after s (nextD bs)) x s1) (h0 : ∀ y, s1 = .error y → x = 0) (hx : x = magB.getD i 0) : Gets (magD bs (i + 1)) () s1 := by
  have hne : x ≠ 0 := by
    rw [hx]
    match i, hi with
    | 0, _ => decide
    | 1, _ => decide
    | 2, _ => decide
    | 3, _ => decide
  rw [magD]
  rcases h with ⟨p, h1, rfl⟩ | ⟨y, h1, rfl⟩
  · rw [h1, bindD_ok]
    rw [after_ok] at hG
    rcases hG with ⟨q, h2, rfl⟩ | ⟨y, h2, rfl⟩
    · rw [h2, bindD_ok, if_pos hx]
      exact .inl ⟨q, rfl, rfl⟩
    · exact absurd (h0 _ rfl) hne
  · rw [after_err] at hG
    rcases hG with ⟨q, h2, _⟩ | ⟨z, h2, rfl⟩
    · cases h2
    · exact absurd (h0 _ rfl) hne
/-- what the loop's test asks, and how it goes on -/
theorem mag_byte (x : UInt8) (k : Nat) (c : UInt8) (hc : c.toNat = k) : ((x.toNat : Int) != (k : Int)) = decide (x ≠ c) := by
  by_cases h : x = c
  · subst h; simp [hc]
  · have : x.toNat ≠ k := fun e => h (by rw [← UInt8.toNat_inj, e, hc])
    rw [decide_eq_true h]
    simp; omega
set_option maxRecDepth 100000 in
set_option maxHeartbeats 4000000 in
theorem rdmagic_any (t : TypeId) (w : World) (B b : Nat) (bs : List UInt8) (h : RdS t w B b bs (.ok 0)) :
    Calls Try.prog 13 #[.pointer (some ⟨b, 0, none⟩)] w fun e' w' => (∃ u, e' = .returned u) ∧ ∃ s, Gets (magD bs 4) () s ∧ RdS t w' B b bs s ∧ RdT b w w' := by
  have HS := Lib.hid h
  clear h
  go_enter Try.func13, Try.ntmps13
  go_wp2
  go_loopw [3] (fun x wr => ∃ (i : Nat) (s : St), x = .int .i64 i ∧ i ≤ 4 ∧ Gets (magD bs i) () s ∧ RdS t wr B b bs s ∧ RdT b w wr) (fun x _ => 4 - (intOf x).toNat)
  case atStart => exact ⟨0, .ok 0, rfl, by omega, .inl ⟨0, rfl, rfl⟩, HS.out, Touch.refl _ _⟩
  case round =>
    obtain ⟨i, s, rfl, hi, hG, hS, hT⟩ := hrel
    have HG := Lib.hid hG
    have HT := Lib.hid hT
    clear hG hT
    by_cases hlt : i < 4
    · have hS1 := hS.quiet (w' := wr.drew) ⟨1, rfl⟩
      have N := Lib.hid (next_any t wr.drew B b bs s hS1)
      have HD : Hid (RdT b wr wr.drew) := RdT.quiet ⟨1, rfl⟩
      clear hS hS1
      have HX : ∀ (x : UInt8) (s1 : St) (w2 : World), x ≠ magB.getD i 0 → Gets (after s (nextD bs)) x s1 → (∀ y, s1 = .error y → x = 0) → RdS t w2 B b bs s1 → RdT b wr.drew w2 → Calls Try.prog 18 #[.pointer (some ⟨b, 0, none⟩), .int .i64 i, .int .i64 12] w2 fun e' w' => (∃ u, e' = .returned u) ∧ ∃ s', Gets (magD bs (i + 1)) () s' ∧ RdS t w' B b bs s' ∧ RdT b w w' := fun x s1 w2 hx hG1 h0 hS2 hT2 =>
        (hS2.failed (i : Int) 12 (by decide)).mono fun e' w' ⟨hu, hS3, hT3⟩ => ⟨hu, _, gets_mag_bad hlt HG.out hG1 h0 hx, hS3, (HT.out.trans HD.out).trans (hT2.trans hT3)⟩
      have HX := Lib.hid HX
      have HY : Hid (∀ (x : UInt8) (s1 : St) (w2 : World), x = magB.getD i 0 → Gets (after s (nextD bs)) x s1 → (∀ y, s1 = .error y → x = 0) → RdS t w2 B b bs s1 → RdT b wr.drew w2 → Gets (magD bs (i + 1)) () s1 ∧ RdS t w2 B b bs s1 ∧ RdT b w w2) := fun x s1 w2 hx hG1 h0 hS2 hT2 =>
        ⟨gets_mag_ok hlt HG.out hG1 h0 hx, hS2, (HT.out.trans HD.out).trans hT2⟩
      clear HG HT HD
      generalize hq : i = q at *
      by_cases h0 : q = 0
      · obtain rfl : q = 0 := by omega
        go_wp2_with fail
        refine wp_region_held_drew (S := (fun _ => True)) (by kernel_rfl) trivial (fun hHeld => ?_)
        refine wpAnyH_take (i := 0) (oi := _) (v := ?_) (op_atC rfl) (by kernel_rfl) (by kernel_rfl) (by kernel_rfl) (fun _ _ _ h => h) (Or.inl ⟨by rfl, ?_⟩) hHeld ?_
        rotate_left 1
        focus (intro W hSw; (try dsimp only at hSw); go_simp; (try (with_reducible rfl)))
        (try simp only [Act.put, List.setIfInBounds_toArray, List.set_cons_zero, List.set_cons_succ])
        refine wpAnyH_take (i := 2) (oi := _) (v := ?_) (op_atC rfl) (by kernel_rfl) (by kernel_rfl) (by kernel_rfl) (fun _ _ _ h => h) (Or.inl ⟨by rfl, ?_⟩) hHeld ?_
        rotate_left 1
        focus (intro W hSw; (try dsimp only at hSw); go_simp; (try (with_reducible rfl)))
        (try simp only [Act.put, List.setIfInBounds_toArray, List.set_cons_zero, List.set_cons_succ])
        refine wpAnyH_take (i := 3) (oi := _) (v := ?_) (op_atC rfl) (by kernel_rfl) (by kernel_rfl) (by kernel_rfl) (fun _ _ _ h => h) (Or.inl ⟨by rfl, ?_⟩) hHeld ?_
        rotate_left 1
        focus (intro W hSw; (try dsimp only at hSw); go_simp; (try (with_reducible rfl)))
        (try simp only [Act.put, List.setIfInBounds_toArray, List.set_cons_zero, List.set_cons_succ])
        refine wpAnyH_ready (rs := [1]) (by kernel_rfl) (by simp) ?_
        refine AllReadyH.cons (o := _) (op_atC rfl) (fun Kc hKc => ?_) AllReadyH.nil
        go_simp
        go_at_call 37
        (with_reducible refine (N.out).mono ?_)
        rintro e' w2 ⟨x, s1, rfl, hG1, h0, hS2, hT2⟩
        go_wp2_with fail
        refine hKc.out _ _ trivial (fun hHeld => ?_)
        clear hKc Kc
        (try simp only [Act.put, List.setIfInBounds_toArray, List.set_cons_zero, List.set_cons_succ])
        refine wpAnyH_take (i := 4) (oi := _) (v := ?_) (op_atC rfl) (by kernel_rfl) (by kernel_rfl) (by kernel_rfl) (fun _ _ _ h => h) (Or.inl ⟨by rfl, ?_⟩) hHeld ?_
        rotate_left 1
        focus (intro W hSw; (try dsimp only at hSw); go_simp; (try (with_reducible rfl)))
        (try simp only [Act.put, List.setIfInBounds_toArray, List.set_cons_zero, List.set_cons_succ])
        refine wpAnyH_done (by kernel_rfl) ?_ _
        have HM : ((x.toNat : Int) != ((({ data := #[87, 68, 82, 49] } : ByteArray)[0]'(by decide)).toNat : Int)) = decide (x ≠ 87) := mag_byte x 87 87 rfl
        by_cases hx : x = 87
        · have HA := Lib.hid (HY.out x s1 w2 hx hG1 h0 hS2 hT2)
          replace HM := HM.trans (decide_eq_false (fun h => h hx))
          clear hG1 h0 hS2 hT2 hx
          go_wp2
          go_roundw
          case rel => exact ⟨1, s1, rfl, by omega, HA.out⟩
          case measure => simp [intOf]
        · have HA := Lib.hid (HX.out x s1 w2 hx hG1 h0 hS2 hT2)
          replace HM := HM.trans (decide_eq_true hx)
          clear hG1 h0 hS2 hT2 hx
          go_wp2_with fail
          refine HA.out.mono ?_
          rintro e' w3 ⟨⟨u, rfl⟩, s3, hR⟩
          have HR := Lib.hid hR
          clear hR
          go_wp2
          go_roundw
          case rel => exact ⟨1, s3, rfl, by omega, HR.out⟩
          case measure => simp [intOf]
      by_cases h1 : q = 1
      · obtain rfl : q = 1 := by omega
        go_wp2_with fail
        refine wp_region_held_drew (S := (fun _ => True)) (by kernel_rfl) trivial (fun hHeld => ?_)
        refine wpAnyH_take (i := 0) (oi := _) (v := ?_) (op_atC rfl) (by kernel_rfl) (by kernel_rfl) (by kernel_rfl) (fun _ _ _ h => h) (Or.inl ⟨by rfl, ?_⟩) hHeld ?_
        rotate_left 1
        focus (intro W hSw; (try dsimp only at hSw); go_simp; (try (with_reducible rfl)))
        (try simp only [Act.put, List.setIfInBounds_toArray, List.set_cons_zero, List.set_cons_succ])
        refine wpAnyH_take (i := 2) (oi := _) (v := ?_) (op_atC rfl) (by kernel_rfl) (by kernel_rfl) (by kernel_rfl) (fun _ _ _ h => h) (Or.inl ⟨by rfl, ?_⟩) hHeld ?_
        rotate_left 1
        focus (intro W hSw; (try dsimp only at hSw); go_simp; (try (with_reducible rfl)))
        (try simp only [Act.put, List.setIfInBounds_toArray, List.set_cons_zero, List.set_cons_succ])
        refine wpAnyH_take (i := 3) (oi := _) (v := ?_) (op_atC rfl) (by kernel_rfl) (by kernel_rfl) (by kernel_rfl) (fun _ _ _ h => h) (Or.inl ⟨by rfl, ?_⟩) hHeld ?_
        rotate_left 1
        focus (intro W hSw; (try dsimp only at hSw); go_simp; (try (with_reducible rfl)))
        (try simp only [Act.put, List.setIfInBounds_toArray, List.set_cons_zero, List.set_cons_succ])
        refine wpAnyH_ready (rs := [1]) (by kernel_rfl) (by simp) ?_
        refine AllReadyH.cons (o := _) (op_atC rfl) (fun Kc hKc => ?_) AllReadyH.nil
        go_simp
        go_at_call 37
        (with_reducible refine (N.out).mono ?_)
        rintro e' w2 ⟨x, s1, rfl, hG1, h0, hS2, hT2⟩
        go_wp2_with fail
        refine hKc.out _ _ trivial (fun hHeld => ?_)
        clear hKc Kc
        (try simp only [Act.put, List.setIfInBounds_toArray, List.set_cons_zero, List.set_cons_succ])
        refine wpAnyH_take (i := 4) (oi := _) (v := ?_) (op_atC rfl) (by kernel_rfl) (by kernel_rfl) (by kernel_rfl) (fun _ _ _ h => h) (Or.inl ⟨by rfl, ?_⟩) hHeld ?_
        rotate_left 1
        focus (intro W hSw; (try dsimp only at hSw); go_simp; (try (with_reducible rfl)))
        (try simp only [Act.put, List.setIfInBounds_toArray, List.set_cons_zero, List.set_cons_succ])
        refine wpAnyH_done (by kernel_rfl) ?_ _
        have HM : ((x.toNat : Int) != ((({ data := #[87, 68, 82, 49] } : ByteArray)[1]'(by decide)).toNat : Int)) = decide (x ≠ 68) := mag_byte x 68 68 rfl
        by_cases hx : x = 68
        · have HA := Lib.hid (HY.out x s1 w2 hx hG1 h0 hS2 hT2)
          replace HM := HM.trans (decide_eq_false (fun h => h hx))
          clear hG1 h0 hS2 hT2 hx
          go_wp2
          go_roundw
          case rel => exact ⟨2, s1, rfl, by omega, HA.out⟩
          case measure => simp [intOf]
        · have HA := Lib.hid (HX.out x s1 w2 hx hG1 h0 hS2 hT2)
          replace HM := HM.trans (decide_eq_true hx)
          clear hG1 h0 hS2 hT2 hx
          go_wp2_with fail
          refine HA.out.mono ?_
          rintro e' w3 ⟨⟨u, rfl⟩, s3, hR⟩
          have HR := Lib.hid hR
          clear hR
          go_wp2
          go_roundw
          case rel => exact ⟨2, s3, rfl, by omega, HR.out⟩
          case measure => simp [intOf]
      by_cases h2 : q = 2
      · obtain rfl : q = 2 := by omega
        go_wp2_with fail
        refine wp_region_held_drew (S := (fun _ => True)) (by kernel_rfl) trivial (fun hHeld => ?_)
        refine wpAnyH_take (i := 0) (oi := _) (v := ?_) (op_atC rfl) (by kernel_rfl) (by kernel_rfl) (by kernel_rfl) (fun _ _ _ h => h) (Or.inl ⟨by rfl, ?_⟩) hHeld ?_
        rotate_left 1
        focus (intro W hSw; (try dsimp only at hSw); go_simp; (try (with_reducible rfl)))
        (try simp only [Act.put, List.setIfInBounds_toArray, List.set_cons_zero, List.set_cons_succ])
        refine wpAnyH_take (i := 2) (oi := _) (v := ?_) (op_atC rfl) (by kernel_rfl) (by kernel_rfl) (by kernel_rfl) (fun _ _ _ h => h) (Or.inl ⟨by rfl, ?_⟩) hHeld ?_
        rotate_left 1
        focus (intro W hSw; (try dsimp only at hSw); go_simp; (try (with_reducible rfl)))
        (try simp only [Act.put, List.setIfInBounds_toArray, List.set_cons_zero, List.set_cons_succ])
        refine wpAnyH_take (i := 3) (oi := _) (v := ?_) (op_atC rfl) (by kernel_rfl) (by kernel_rfl) (by kernel_rfl) (fun _ _ _ h => h) (Or.inl ⟨by rfl, ?_⟩) hHeld ?_
        rotate_left 1
        focus (intro W hSw; (try dsimp only at hSw); go_simp; (try (with_reducible rfl)))
        (try simp only [Act.put, List.setIfInBounds_toArray, List.set_cons_zero, List.set_cons_succ])
        refine wpAnyH_ready (rs := [1]) (by kernel_rfl) (by simp) ?_
        refine AllReadyH.cons (o := _) (op_atC rfl) (fun Kc hKc => ?_) AllReadyH.nil
        go_simp
        go_at_call 37
        (with_reducible refine (N.out).mono ?_)
        rintro e' w2 ⟨x, s1, rfl, hG1, h0, hS2, hT2⟩
        go_wp2_with fail
        refine hKc.out _ _ trivial (fun hHeld => ?_)
        clear hKc Kc
        (try simp only [Act.put, List.setIfInBounds_toArray, List.set_cons_zero, List.set_cons_succ])
        refine wpAnyH_take (i := 4) (oi := _) (v := ?_) (op_atC rfl) (by kernel_rfl) (by kernel_rfl) (by kernel_rfl) (fun _ _ _ h => h) (Or.inl ⟨by rfl, ?_⟩) hHeld ?_
        rotate_left 1
        focus (intro W hSw; (try dsimp only at hSw); go_simp; (try (with_reducible rfl)))
        (try simp only [Act.put, List.setIfInBounds_toArray, List.set_cons_zero, List.set_cons_succ])
        refine wpAnyH_done (by kernel_rfl) ?_ _
        have HM : ((x.toNat : Int) != ((({ data := #[87, 68, 82, 49] } : ByteArray)[2]'(by decide)).toNat : Int)) = decide (x ≠ 82) := mag_byte x 82 82 rfl
        by_cases hx : x = 82
        · have HA := Lib.hid (HY.out x s1 w2 hx hG1 h0 hS2 hT2)
          replace HM := HM.trans (decide_eq_false (fun h => h hx))
          clear hG1 h0 hS2 hT2 hx
          go_wp2
          go_roundw
          case rel => exact ⟨3, s1, rfl, by omega, HA.out⟩
          case measure => simp [intOf]
        · have HA := Lib.hid (HX.out x s1 w2 hx hG1 h0 hS2 hT2)
          replace HM := HM.trans (decide_eq_true hx)
          clear hG1 h0 hS2 hT2 hx
          go_wp2_with fail
          refine HA.out.mono ?_
          rintro e' w3 ⟨⟨u, rfl⟩, s3, hR⟩
          have HR := Lib.hid hR
          clear hR
          go_wp2
          go_roundw
          case rel => exact ⟨3, s3, rfl, by omega, HR.out⟩
          case measure => simp [intOf]
      · obtain rfl : q = 3 := by omega
        go_wp2_with fail
        refine wp_region_held_drew (S := (fun _ => True)) (by kernel_rfl) trivial (fun hHeld => ?_)
        refine wpAnyH_take (i := 0) (oi := _) (v := ?_) (op_atC rfl) (by kernel_rfl) (by kernel_rfl) (by kernel_rfl) (fun _ _ _ h => h) (Or.inl ⟨by rfl, ?_⟩) hHeld ?_
        rotate_left 1
        focus (intro W hSw; (try dsimp only at hSw); go_simp; (try (with_reducible rfl)))
        (try simp only [Act.put, List.setIfInBounds_toArray, List.set_cons_zero, List.set_cons_succ])
        refine wpAnyH_take (i := 2) (oi := _) (v := ?_) (op_atC rfl) (by kernel_rfl) (by kernel_rfl) (by kernel_rfl) (fun _ _ _ h => h) (Or.inl ⟨by rfl, ?_⟩) hHeld ?_
        rotate_left 1
        focus (intro W hSw; (try dsimp only at hSw); go_simp; (try (with_reducible rfl)))
        (try simp only [Act.put, List.setIfInBounds_toArray, List.set_cons_zero, List.set_cons_succ])
        refine wpAnyH_take (i := 3) (oi := _) (v := ?_) (op_atC rfl) (by kernel_rfl) (by kernel_rfl) (by kernel_rfl) (fun _ _ _ h => h) (Or.inl ⟨by rfl, ?_⟩) hHeld ?_
        rotate_left 1
        focus (intro W hSw; (try dsimp only at hSw); go_simp; (try (with_reducible rfl)))
        (try simp only [Act.put, List.setIfInBounds_toArray, List.set_cons_zero, List.set_cons_succ])
        refine wpAnyH_ready (rs := [1]) (by kernel_rfl) (by simp) ?_
        refine AllReadyH.cons (o := _) (op_atC rfl) (fun Kc hKc => ?_) AllReadyH.nil
        go_simp
        go_at_call 37
        (with_reducible refine (N.out).mono ?_)
        rintro e' w2 ⟨x, s1, rfl, hG1, h0, hS2, hT2⟩
        go_wp2_with fail
        refine hKc.out _ _ trivial (fun hHeld => ?_)
        clear hKc Kc
        (try simp only [Act.put, List.setIfInBounds_toArray, List.set_cons_zero, List.set_cons_succ])
        refine wpAnyH_take (i := 4) (oi := _) (v := ?_) (op_atC rfl) (by kernel_rfl) (by kernel_rfl) (by kernel_rfl) (fun _ _ _ h => h) (Or.inl ⟨by rfl, ?_⟩) hHeld ?_
        rotate_left 1
        focus (intro W hSw; (try dsimp only at hSw); go_simp; (try (with_reducible rfl)))
        (try simp only [Act.put, List.setIfInBounds_toArray, List.set_cons_zero, List.set_cons_succ])
        refine wpAnyH_done (by kernel_rfl) ?_ _
        have HM : ((x.toNat : Int) != ((({ data := #[87, 68, 82, 49] } : ByteArray)[3]'(by decide)).toNat : Int)) = decide (x ≠ 49) := mag_byte x 49 49 rfl
        by_cases hx : x = 49
        · have HA := Lib.hid (HY.out x s1 w2 hx hG1 h0 hS2 hT2)
          replace HM := HM.trans (decide_eq_false (fun h => h hx))
          clear hG1 h0 hS2 hT2 hx
          go_wp2
          go_roundw
          case rel => exact ⟨4, s1, rfl, by omega, HA.out⟩
          case measure => simp [intOf]
        · have HA := Lib.hid (HX.out x s1 w2 hx hG1 h0 hS2 hT2)
          replace HM := HM.trans (decide_eq_true hx)
          clear hG1 h0 hS2 hT2 hx
          go_wp2_with fail
          refine HA.out.mono ?_
          rintro e' w3 ⟨⟨u, rfl⟩, s3, hR⟩
          have HR := Lib.hid hR
          clear hR
          go_wp2
          go_roundw
          case rel => exact ⟨4, s3, rfl, by omega, HR.out⟩
          case measure => simp [intOf]
    · obtain rfl : i = 4 := by omega
      have HS2 := Lib.hid hS
      clear hS
      go_wp2
      go_end0
      exact ⟨⟨_, rfl⟩, s, HG.out, HS2.out, HT.out⟩
end Go.Proofs.Ytffelcidckbohaa
/- Copy: a program of one's own. Condition: the program is there, of few parts, its texts are not too long. -/
namespace Go.Proofs.Ytffelcidckbohaa
open Go.RowKit
set_option linter.unusedVariables false
def CopyPost (w : World) (p : PrgD) (e : Ending) (w' : World) : Prop :=
  ∃ u0 u1 lc lf s1, e = .returned (.agg #[u0, u1]) ∧ COwn w' w.heap.size u0 lc ∧ lc.map (·.1) = p.classes ∧ UOwn w' s1 u1 lf ∧ lf.map (·.1) = p.funcs ∧ w.heap.size ≤ s1 ∧ (∀ g, u0.ownBlock = some g → g < s1) ∧ (∀ x ∈ lc, ∀ g, x.2.ownBlock = some g → g < s1) ∧ Below w.heap.size w w'
end Go.Proofs.Ytffelcidckbohaa
/- A program of one's own that is written over: what stays of it; what it reads as. No condition. -/
namespace Go.Proofs.Ytffelcidckbohaa
open Go.RowKit
set_option linter.unusedVariables false
/-- block g holds at least N cells that may be written, and those of H -/
def HdB (w : World) (g : Nat) (T : TypeId) (N : Nat) (H : Nat → Option Value) : Prop := ∃ cur, Blk w g cur T ∧ N ≤ cur.size ∧ ∀ j v, H j = some v → cur[j]? = some v
theorem HdB.set {w : World} {g : Nat} {T : TypeId} {N : Nat} {H : Nat → Option Value} (h : HdB w g T N H) (b j : Nat) (x : Value) (hj : b = g → H j = none) : HdB (w.setCell ⟨b, j, none⟩ x) g T N H := by
  obtain ⟨cur, h1, h2, h3⟩ := h
  by_cases e : b = g
  · subst e
    refine ⟨cur.setIfInBounds j x, h1.set j x, by simpa using h2, fun i v hv => ?_⟩
    have hne : j ≠ i := by
      rintro rfl
      rw [hj rfl] at hv
      cases hv
    rw [Array.getElem?_setIfInBounds_ne hne]
    exact h3 i v hv
  · exact ⟨cur, h1.other _ x (fun q => e q.symm), h2, h3⟩
theorem HdB.cell {w : World} {g : Nat} {T : TypeId} {N : Nat} {H : Nat → Option Value} (h : HdB w g T N H) {j : Nat} {v : Value} (hv : H j = some v) : w.cell? ⟨g, j, none⟩ = some v := by
  obtain ⟨cur, h1, h2, h3⟩ := h
  exact h1.val j (h3 j v hv)
theorem HdB.room {w : World} {g : Nat} {T : TypeId} {N : Nat} {H : Nat → Option Value} (h : HdB w g T N H) {j : Nat} (hj : j < N) : ∃ v, w.cell? ⟨g, j, none⟩ = some v := by
  obtain ⟨cur, h1, h2, h3⟩ := h
  exact ⟨cur[j]'(by omega), h1.val j (Array.getElem?_eq_getElem (by omega))⟩
theorem HdB.frozen {w : World} {g : Nat} {T : TypeId} {N : Nat} {H : Nat → Option Value} (h : HdB w g T N H) (j : Nat) : w.frozen? ⟨g, j, none⟩ = false := by
  obtain ⟨cur, h1, h2, h3⟩ := h
  exact h1.frozen j
theorem HdB.touch {R : Nat → Prop} {w w' : World} {g : Nat} {T : TypeId} {N : Nat} {H : Nat → Option Value} (h : HdB w g T N H) (hT : Touch R w w') (hr : ¬ R g) : HdB w' g T N H := by
  obtain ⟨cur, h1, h2, h3⟩ := h
  exact ⟨cur, h1.touch hT hr, h2, h3⟩
theorem hdb_of {w : World} {lo : Nat} {T : TypeId} {sz : Nat} {v : Value} {n : Nat} {xs : List Value} {g : Nat} (h : w.ownsRow lo T sz v n xs) (hg : v.ownBlock = some g) {H : Nat → Option Value} (hH : ∀ j u, H j = some u → xs[j]? = some u) : HdB w g T (n * sz) H := by
  rcases h.2 with ⟨h1, _⟩ | ⟨q, cap, cur, a1, a2, a3, a4, a5, a6, a7⟩
  · rw [h1] at hg; cases hg
  · rw [a1] at hg
    obtain rfl : q = g := Option.some.inj hg
    refine ⟨cur, a3, ?_, fun j u hu => ?_⟩
    · rw [a6]; exact Nat.mul_le_mul_right sz a4
    · have h1 := hH j u hu
      have h5 := (List.getElem?_eq_some_iff.1 h1).1
      rw [← a7, List.length_take] at h5
      rw [← a7, List.getElem?_take, if_pos (by omega)] at h1
      simpa using h1
def hdC (l : List (ClsD × Value)) (j : Nat) : Option Value := if j % 2 = 1 then (l[j / 2]?).map (·.2) else none
def hdU (l : List (FunD × Value × Value × Value)) (j : Nat) : Option Value := if j % 5 = 1 then (l[j / 5]?).map (·.2.1) else if j % 5 = 3 then (l[j / 5]?).map (·.2.2.1) else if j % 5 = 4 then (l[j / 5]?).map (·.2.2.2) else none
theorem hdC_in {l : List (ClsD × Value)} {j : Nat} {u : Value} (h : hdC l j = some u) : (l.flatMap clsC)[j]? = some u := by
  unfold hdC at h
  split at h
  next e =>
    cases hq : l[j / 2]? with
    | none => rw [hq] at h; cases h
    | some x =>
      rw [hq] at h
      obtain ⟨hi, hx⟩ := List.getElem?_eq_some_iff.1 hq
      have := flat_at clsC 2 (fun _ => rfl) l (j / 2) 1 hi (by decide)
      rw [show j / 2 * 2 + 1 = j by omega, hx] at this
      rw [this]
      simpa [clsC] using h
  next e => cases h
theorem hdU_in {l : List (FunD × Value × Value × Value)} {j : Nat} {u : Value} (h : hdU l j = some u) : (l.flatMap funC)[j]? = some u := by
  unfold hdU at h
  cases hq : l[j / 5]? with
  | none => rw [hq] at h; split at h <;> first | cases h | (split at h <;> first | cases h | (split at h <;> cases h))
  | some x =>
    rw [hq] at h
    obtain ⟨hi, hx⟩ := List.getElem?_eq_some_iff.1 hq
    have hf := fun q hq => flat_at funC 5 (fun _ => rfl) l (j / 5) q hi hq
    rw [hx] at hf
    split at h
    next e => have := hf 1 (by decide); rw [show j / 5 * 5 + 1 = j by omega] at this; rw [this]; simpa [funC] using h
    next _ =>
      split at h
      next e => have := hf 3 (by decide); rw [show j / 5 * 5 + 3 = j by omega] at this; rw [this]; simpa [funC] using h
      next _ =>
        split at h
        next e => have := hf 4 (by decide); rw [show j / 5 * 5 + 4 = j by omega] at this; rw [this]; simpa [funC] using h
        next _ => cases h
theorem hdC_at {l : List (ClsD × Value)} {i : Nat} (hi : i < l.length) : hdC l (i * 2 + 1) = some (l[i].2) := by
  unfold hdC
  rw [if_pos (by omega), show (i * 2 + 1) / 2 = i by omega, List.getElem?_eq_getElem hi]
  rfl
theorem hdC_no {l : List (ClsD × Value)} {i : Nat} : hdC l (i * 2) = none := by unfold hdC; rw [if_neg (by omega)]
theorem hdU_no {l : List (FunD × Value × Value × Value)} {i : Nat} : hdU l (i * 5) = none := by unfold hdU; rw [if_neg (by omega), if_neg (by omega), if_neg (by omega)]
theorem hdU_at1 {l : List (FunD × Value × Value × Value)} {i : Nat} (hi : i < l.length) : hdU l (i * 5 + 1) = some (l[i].2.1) := by
  unfold hdU
  rw [if_pos (by omega), show (i * 5 + 1) / 5 = i by omega, List.getElem?_eq_getElem hi]
  rfl
theorem hdU_at3 {l : List (FunD × Value × Value × Value)} {i : Nat} (hi : i < l.length) : hdU l (i * 5 + 3) = some (l[i].2.2.1) := by
  unfold hdU
  rw [if_neg (by omega), if_pos (by omega), show (i * 5 + 3) / 5 = i by omega, List.getElem?_eq_getElem hi]
  rfl
theorem hdU_at4 {l : List (FunD × Value × Value × Value)} {i : Nat} (hi : i < l.length) : hdU l (i * 5 + 4) = some (l[i].2.2.2) := by
  unfold hdU
  rw [if_neg (by omega), if_neg (by omega), if_pos (by omega), show (i * 5 + 4) / 5 = i by omega, List.getElem?_eq_getElem hi]
  rfl
/-- an inner row: its block is none of the two that hold the headers, and may be written -/
def InB (w : World) (lo hi : Nat) (q0 q1 u : Value) (T : TypeId) (N : Nat) : Prop := ∀ g, u.ownBlock = some g → lo ≤ g ∧ g < hi ∧ q0.ownBlock ≠ some g ∧ q1.ownBlock ≠ some g ∧ HdB w g T N (fun _ => none)
theorem InB.set {w : World} {lo hi : Nat} {q0 q1 u : Value} {T : TypeId} {N : Nat} (h : InB w lo hi q0 q1 u T N) (b j : Nat) (x : Value) : InB (w.setCell ⟨b, j, none⟩ x) lo hi q0 q1 u T N :=
  fun g hg => ⟨(h g hg).1, (h g hg).2.1, (h g hg).2.2.1, (h g hg).2.2.2.1, (h g hg).2.2.2.2.set b j x fun _ => rfl⟩
theorem InB.touch {R : Nat → Prop} {w w' : World} {lo hi : Nat} {q0 q1 u : Value} {T : TypeId} {N : Nat} (h : InB w lo hi q0 q1 u T N) (hT : Touch R w w') (hr : ∀ g, lo ≤ g → g < hi → ¬ R g) : InB w' lo hi q0 q1 u T N :=
  fun g hg => ⟨(h g hg).1, (h g hg).2.1, (h g hg).2.2.1, (h g hg).2.2.2.1, (h g hg).2.2.2.2.touch hT (hr g (h g hg).1 (h g hg).2.1)⟩
structure QS (w : World) (lo hi : Nat) (q0 q1 : Value) (lc : List (ClsD × Value)) (lf : List (FunD × Value × Value × Value)) : Prop where
  r0 : ∀ g, q0.ownBlock = some g → lo ≤ g ∧ g < hi ∧ HdB w g 52 (lc.length * 2) (hdC lc)
  r1 : ∀ g, q1.ownBlock = some g → lo ≤ g ∧ g < hi ∧ q0.ownBlock ≠ some g ∧ HdB w g 45 (lf.length * 5) (hdU lf)
  i0 : ∀ i (h : i < lc.length), InB w lo hi q0 q1 lc[i].2 66 (lc[i].1.fields.length * 2)
  i1 : ∀ i (h : i < lf.length), InB w lo hi q0 q1 lf[i].2.1 3 (lf[i].1.params.length * 1)
  i3 : ∀ i (h : i < lf.length), InB w lo hi q0 q1 lf[i].2.2.1 3 (lf[i].1.locals.length * 1)
  i4 : ∀ i (h : i < lf.length), InB w lo hi q0 q1 lf[i].2.2.2 41 (lf[i].1.code.length * 3)
theorem QS.set {w : World} {lo hi : Nat} {q0 q1 : Value} {lc : List (ClsD × Value)} {lf : List (FunD × Value × Value × Value)} (h : QS w lo hi q0 q1 lc lf) (b j : Nat) (x : Value) (h0 : q0.ownBlock = some b → hdC lc j = none) (h1 : q1.ownBlock = some b → hdU lf j = none) : QS (w.setCell ⟨b, j, none⟩ x) lo hi q0 q1 lc lf :=
  ⟨fun g hg => ⟨(h.r0 g hg).1, (h.r0 g hg).2.1, (h.r0 g hg).2.2.set b j x fun e => h0 (e ▸ hg)⟩, fun g hg => ⟨(h.r1 g hg).1, (h.r1 g hg).2.1, (h.r1 g hg).2.2.1, (h.r1 g hg).2.2.2.set b j x fun e => h1 (e ▸ hg)⟩,
    fun i hi => (h.i0 i hi).set b j x, fun i hi => (h.i1 i hi).set b j x, fun i hi => (h.i3 i hi).set b j x, fun i hi => (h.i4 i hi).set b j x⟩
theorem QS.touch {R : Nat → Prop} {w w' : World} {lo hi : Nat} {q0 q1 : Value} {lc : List (ClsD × Value)} {lf : List (FunD × Value × Value × Value)} (h : QS w lo hi q0 q1 lc lf) (hT : Touch R w w') (hr : ∀ g, lo ≤ g → g < hi → ¬ R g) : QS w' lo hi q0 q1 lc lf :=
  ⟨fun g hg => ⟨(h.r0 g hg).1, (h.r0 g hg).2.1, (h.r0 g hg).2.2.touch hT (hr g (h.r0 g hg).1 (h.r0 g hg).2.1)⟩, fun g hg => ⟨(h.r1 g hg).1, (h.r1 g hg).2.1, (h.r1 g hg).2.2.1, (h.r1 g hg).2.2.2.touch hT (hr g (h.r1 g hg).1 (h.r1 g hg).2.1)⟩,
    fun i hi => (h.i0 i hi).touch hT hr, fun i hi => (h.i1 i hi).touch hT hr, fun i hi => (h.i3 i hi).touch hT hr, fun i hi => (h.i4 i hi).touch hT hr⟩
theorem qs_of {w : World} {lo s1 : Nat} {q0 q1 : Value} {lc : List (ClsD × Value)} {lf : List (FunD × Value × Value × Value)} (hC : COwn w lo q0 lc) (hU : UOwn w s1 q1 lf) (hs : lo ≤ s1) (h0 : ∀ g, q0.ownBlock = some g → g < s1) (h1 : ∀ x ∈ lc, ∀ g, x.2.ownBlock = some g → g < s1) : QS w lo w.heap.size q0 q1 lc lf := by
  have n1 : ∀ g, q1.ownBlock = some g → s1 ≤ g := fun g hg => (own_ltG hU.row hg).1
  refine ⟨fun g hg => ⟨(own_ltG hC.row hg).1, (own_ltG hC.row hg).2, hdb_of hC.row hg fun j u hu => hdC_in hu⟩, fun g hg => ⟨by have := n1 g hg; omega, (own_ltG hU.row hg).2, fun e => by have := h0 g e; have := n1 g hg; omega, hdb_of hU.row hg fun j u hu => hdU_in hu⟩, fun i hi g hg => ?_, fun i hi g hg => ?_, fun i hi g hg => ?_, fun i hi g hg => ?_⟩
  · have hm := List.getElem_mem hi
    have hq := own_ltG (hC.inner _ hm) hg
    exact ⟨hq.1, hq.2, hC.apart _ hm g hg, fun e => by have := h1 _ hm g hg; have := n1 g e; omega, hdb_of (hC.inner _ hm) hg fun j u hu => by cases hu⟩
  · have hm := List.getElem_mem hi
    have hq := own_ltG (hU.inner1 _ hm) hg
    exact ⟨by omega, hq.2, fun e => by have := h0 g e; omega, hU.apart1 _ hm g hg, hdb_of (hU.inner1 _ hm) hg fun j u hu => by cases hu⟩
  · have hm := List.getElem_mem hi
    have hq := own_ltG (hU.inner3 _ hm) hg
    exact ⟨by omega, hq.2, fun e => by have := h0 g e; omega, hU.apart3 _ hm g hg, hdb_of (hU.inner3 _ hm) hg fun j u hu => by cases hu⟩
  · have hm := List.getElem_mem hi
    have hq := own_ltG (hU.inner4 _ hm) hg
    exact ⟨by omega, hq.2, fun e => by have := h0 g e; omega, hU.apart4 _ hm g hg, hdb_of (hU.inner4 _ hm) hg fun j u hu => by cases hu⟩
/-- numbers that are in their kind -/
def OkP (p : PrgD) : Prop := (∀ c ∈ p.classes, ∀ f ∈ c.fields, I64 f.ty) ∧ ∀ f ∈ p.funcs, I64 f.result ∧ (∀ x ∈ f.params, I64 x) ∧ (∀ x ∈ f.locals, I64 x) ∧ ∀ x ∈ f.code, I64 x.op ∧ I64 x.a ∧ I64 x.b
theorem rd_mem {α : Type} {sz B : Nat} {el : World → Nat → Nat → α → Prop} {w : World} {v : Value} {l : List α} (h : RdRow sz el B w v l) {x : α} (hx : x ∈ l) : ∃ b k, el w b k x := by
  obtain ⟨a, c, h1, h2, h3⟩ := h
  obtain ⟨i, hi, rfl⟩ := List.getElem_of_mem hx
  obtain ⟨b, o, _, _, e⟩ := h3 i hi
  exact ⟨b, _, e⟩
theorem okP_of {B : Nat} {w : World} {v0 v1 : Value} {p : PrgD} (h : RdPrg B w v0 v1 p) : OkP p := by
  refine ⟨fun c hc f hf => ?_, fun f hf => ?_⟩
  · obtain ⟨_, _, _, v, _, r⟩ := rd_mem h.1 hc
    obtain ⟨_, _, _, _, q⟩ := rd_mem r hf
    exact q
  · obtain ⟨_, _, _, ⟨_, _, r1⟩, ⟨_, r2⟩, ⟨_, _, r3⟩, _, _, r4⟩ := rd_mem h.2 hf
    refine ⟨r2, fun x hx => ?_, fun x hx => ?_, fun x hx => ?_⟩
    · obtain ⟨_, _, _, q⟩ := rd_mem r1 hx; exact q
    · obtain ⟨_, _, _, q⟩ := rd_mem r3 hx; exact q
    · obtain ⟨_, _, _, _, _, q⟩ := rd_mem r4 hx; exact q
theorem RdRow.map {α β : Type} {sz B : Nat} {el : World → Nat → Nat → β → Prop} {f : α → β} {w : World} {v : Value} {l : List α} (h : RdRow sz (fun w b k x => el w b k (f x)) B w v l) : RdRow sz el B w v (l.map f) := by
  obtain ⟨a, c, h1, h2, h3⟩ := h
  refine ⟨a, c, by rw [List.length_map]; exact h1, by rw [List.length_map]; exact h2, fun i hi => ?_⟩
  obtain ⟨b, o, e1, e2, e3⟩ := h3 i (by simpa using hi)
  exact ⟨b, o, e1, e2, by simpa using e3⟩
theorem prg_own {w : World} {lo s1 : Nat} {u0 u1 : Value} {lc : List (ClsD × Value)} {lf : List (FunD × Value × Value × Value)} {p : PrgD} (hC : COwn w lo u0 lc) (hU : UOwn w s1 u1 lf) (hc : lc.map (·.1) = p.classes) (hf : lf.map (·.1) = p.funcs) (hI : OkP p) : RdPrg w.heap.size w u0 u1 p := by
  refine ⟨?_, ?_⟩
  · rw [← hc]
    refine RdRow.map (own_rd (f := clsC) (by decide) (fun _ => rfl) hC.row (Nat.le_refl _) fun g k x hx hj => ?_)
    have hx' : x.1 ∈ p.classes := by rw [← hc]; exact List.mem_map.2 ⟨x, hx, rfl⟩
    exact ⟨hj 0 _ rfl, x.2, hj 1 _ rfl, own_rd (f := fldC) (by decide) (fun _ => rfl) (hC.inner x hx) (Nat.le_refl _) fun g k y hy hq => ⟨hq 0 _ rfl, hq 1 _ rfl, hI.1 _ hx' y hy⟩⟩
  · rw [← hf]
    refine RdRow.map (own_rd (f := funC) (by decide) (fun _ => rfl) hU.row (Nat.le_refl _) fun g k x hx hj => ?_)
    have hx' : x.1 ∈ p.funcs := by rw [← hf]; exact List.mem_map.2 ⟨x, hx, rfl⟩
    obtain ⟨o1, o2, o3, o4⟩ := hI.2 _ hx'
    exact ⟨hj 0 _ rfl, ⟨x.2.1, hj 1 _ rfl, own_rd (f := intC) (by decide) (fun _ => rfl) (hU.inner1 x hx) (Nat.le_refl _) fun g k y hy hq => ⟨hq 0 _ rfl, o2 y hy⟩⟩, ⟨hj 2 _ rfl, o1⟩,
      ⟨x.2.2.1, hj 3 _ rfl, own_rd (f := intC) (by decide) (fun _ => rfl) (hU.inner3 x hx) (Nat.le_refl _) fun g k y hy hq => ⟨hq 0 _ rfl, o3 y hy⟩⟩,
      x.2.2.2, hj 4 _ rfl, own_rd (f := insC) (by decide) (fun _ => rfl) (hU.inner4 x hx) (Nat.le_refl _) fun g k y hy hq => ⟨hq 0 _ rfl, hq 1 _ rfl, hq 2 _ rfl, o4 y hy⟩⟩
end Go.Proofs.Ytffelcidckbohaa
