/- What the document's Encode returns of any program. Condition: it reads as a program. -/
import Derived.Test.YtecpokegmfnlaaaGCodeWrites07
namespace Go.Proofs.Ytecpokegmfnlaaa
open Go.RowKit
set_option linter.unusedVariables false
theorem touch_below {B S : Nat} {w w' : World} (h : Touch (fun x => x = S) w w') (hS : B ≤ S) (hB : B ≤ w.heap.size) : Below B w w' := Touch.below h hB fun _ e => e ▸ hS
/-- what Encode has laid when it comes to its first count -/
theorem renc_laid (w : World) (s1 s2 : Value) {W : World} (hW : W = (((w.alloc (.cells #[s1, s2] 29)).alloc (.cells #[.int .u8 87, .int .u8 68, .int .u8 82, .int .u8 49] 5 (4, 5))).alloc (.cells #[.slice (some ⟨w.heap.size + 1, 0, none⟩) 4 4, .int .i64 0] 66))) :
    Blk W (w.heap.size + 1 + 1) #[.slice (some ⟨w.heap.size + 1, 0, none⟩) 4 4, .int .i64 0] 66 ∧ Blk W w.heap.size #[s1, s2] 29 ∧
    PartV true W w.heap.size (fun x => x = w.heap.size + 1 + 1 ∨ x = w.heap.size) (.agg #[.slice (some ⟨w.heap.size + 1, 0, none⟩) 4 4, .int .i64 0]) (.ok magicL) ∧ Below w.heap.size w W ∧ W.heap.size = w.heap.size + 3 := by
  subst hW
  have hsz : (((w.alloc (.cells #[s1, s2] 29)).alloc (.cells #[.int .u8 87, .int .u8 68, .int .u8 82, .int .u8 49] 5 (4, 5))).alloc (.cells #[.slice (some ⟨w.heap.size + 1, 0, none⟩) 4 4, .int .i64 0] 66)).heap.size = w.heap.size + 3 := by simp
  have hb : (((w.alloc (.cells #[s1, s2] 29)).alloc (.cells #[.int .u8 87, .int .u8 68, .int .u8 82, .int .u8 49] 5 (4, 5))).alloc (.cells #[.slice (some ⟨w.heap.size + 1, 0, none⟩) 4 4, .int .i64 0] 66)).heap[w.heap.size + 1]? = some (.cells #[.int .u8 87, .int .u8 68, .int .u8 82, .int .u8 49] 5 (4, 5)) := by
    rw [Below.heap_alloc _ _ _ (by simp), show w.heap.size + 1 = (w.alloc (.cells #[s1, s2] 29)).heap.size by simp]
    exact heap_alloc_new _ _
  refine ⟨Blk.new' (by simp), ((Blk.new _ _ _).alloc _).alloc _, ⟨⟨_, _, _, _, rfl, rfl, .inr ⟨rfl, w.heap.size + 1, rfl, by omega, by omega, fun j u hu => ?_⟩⟩, by omega, fun x hx => by omega⟩, (((Below.refl _ _).alloc (Nat.le_refl _) _).alloc (by simp) _).alloc (by simp; omega) _, hsz⟩
  exact World.news_of_block (cs := #[.int .u8 87, .int .u8 68, .int .u8 82, .int .u8 49]) hb j u hu
def fcls (p : PrgD) (i : Nat) : Res := clsE (p.classes.getD i cls0)
def ffun (p : PrgD) (i : Nat) : Res := funE (p.funcs.getD i fun0)
def ffld (c : ClsD) (i : Nat) : Res := fldE (c.fields.getD i ⟨.empty, 0⟩)
def fins (f : FunD) (i : Nat) : Res := insE (f.code.getD i ins0)
theorem cls_step (r : Res) (c : ClsD) : andE (cntE (andE r (nameE c.name)) c.fields.length 15) (seqE (ffld c) c.fields.length) = andE r (clsE c) := by
  rw [← cntE_list, andE_assoc]; rfl
theorem fun_step (r : Res) (f : FunD) : andE (cntE (andE (andE (andE (andE r (nameE f.name)) (kindsE f.params 6)) (kindE f.result)) (kindsE f.locals 16)) f.code.length 256) (seqE (fins f) f.code.length) = andE r (funE f) := by
  rw [← cntE_list]
  simp only [funE, andE_assoc]
  rfl
theorem renc_res (p : PrgD) : andE (cntE (andE (cntE (.ok magicL) p.classes.length 16) (seqE (fcls p) p.classes.length)) p.funcs.length 16) (seqE (ffun p) p.funcs.length) = encE p := by
  rw [← cntE_list, ← cntE_list]; rfl
def at1 (r : Res) (p : PrgD) (i : Nat) : Res := andE (cntE r p.classes.length 16) (seqE (fcls p) i)
set_option maxRecDepth 100000 in
set_option maxHeartbeats 16000000 in
theorem rencode_any (p : PrgD) (v1 v2 : Value) (w : World) (B0 : Nat) (hB0 : B0 ≤ w.heap.size) (h : RdPrg B0 w v1 v2 p) :
    Calls Try.prog 14 #[.agg #[v1, v2]] w (EncPost (encE p) w) := by
  obtain ⟨a1, p1, s1⟩ := rd_shape h.1
  obtain ⟨a2, p2, s2⟩ := rd_shape h.2
  subst s1 s2
  have hcv : (convert 31 31 (.slice (some ⟨w.heap.size + 1, 0, none⟩) 4 4)).run Try.prog ((w.alloc (.cells #[.slice a1 p.classes.length p1, .slice a2 p.funcs.length p2] 29)).alloc (.cells #[.int .u8 87, .int .u8 68, .int .u8 82, .int .u8 49] 5)) = .ok (.slice (some ⟨w.heap.size + 1, 0, none⟩) 4 4) ((w.alloc (.cells #[.slice a1 p.classes.length p1, .slice a2 p.funcs.length p2] 29)).alloc (.cells #[.int .u8 87, .int .u8 68, .int .u8 82, .int .u8 49] 5 (4, 5))) := by
    have := run_conv_bytes (w.alloc (.cells #[.slice a1 p.classes.length p1, .slice a2 p.funcs.length p2] 29)) #[.int .u8 87, .int .u8 68, .int .u8 82, .int .u8 49] 4 4
    simpa using this
  have RP := Lib.hid (fun W (hb : Below w.heap.size w W) => ((h.mono hB0).keep hb))
  have HFU := Lib.hid (funs_ok (h.mono hB0).2)
  clear h hB0
  go_enter Try.func14, Try.ntmps14
  go_wp2_with fail
  clear hcv
  generalize hW : World.alloc _ _ = W
  obtain ⟨kS, k0, hP0, hbel, hsz⟩ := renc_laid w _ _ hW.symm
  clear hW
  generalize hS : w.heap.size = S at *
  have HS := Lib.hid hS
  clear hS
  have CN := Lib.hid (rcount_any true _ S _ _ _ p.classes.length 16 hP0 (by decide) (fun q e => by injection e with e; subst e; decide))
  have d1 := k0.val 0 rfl
  have hbsz : S ≤ W.heap.size := by omega
  clear hP0 hsz
  refine CN.out.mono ?_
  rintro e9 w3 ⟨vv', rfl, hP, hT⟩
  have qS := hT.kept kS (.inl rfl)
  have q0 := hT.kept k0 (.inr rfl)
  have HPx := Lib.hid hP
  obtain ⟨⟨a6, n6, c6, x6, rfl, _⟩, _, _⟩ := hP
  have g0 := qS.val 0 rfl
  have g1 := qS.val 1 rfl
  have f0 := qS.frozen 0
  have f1 := qS.frozen 1
  obtain ⟨hP7, kS7, hT7⟩ := part_store HPx.out (.inl rfl) qS rfl rfl
  have k07 := q0.touch hT7 (by omega)
  have hb7 := (hbel.trans (hT.below hbsz)).trans (touch_below hT7 (by omega) (Nat.le_trans hbsz hT.size))
  clear CN hT kS k0 d1 hbsz hbel qS q0
  go_wp2
  clear g0 g1 f0 f1 hT7
  generalize World.setCell _ _ _ = W7 at *
  have HA0 : andE (cntE (.ok magicL) p.classes.length 16) (seqE (fcls p) 0) = andE (.ok magicL) (if 16 < p.classes.length then Except.error 3 else Except.ok (numB p.classes.length)) := by rw [seqE, andE_nil]; rfl
  rw [← HA0] at hP7
  clear HA0
  have hmx1 : p.classes.length ≤ maxLen := by obtain ⟨_, _, _, q, _⟩ := (RP.out W7 hb7).1; exact q
  have hmx2 : p.funcs.length ≤ maxLen := by obtain ⟨_, _, _, q, _⟩ := (RP.out W7 hb7).2; exact q
  unfold maxLen at hmx1 hmx2
  have HL1 : Hid (lenE (andE (cntE (.ok magicL) p.classes.length 16) (seqE (fcls p) p.classes.length)) 7100) := lenE_mono (lenE_at (r := .ok magicL) (n := p.classes.length) (most := 16) (M := 4) (L := 441) (f := fcls p) (fun q e => by injection e with e; subst e; decide) (by decide) (fun j _ => lenE_cls _) _ (Nat.le_refl _)) (by decide)
  obtain ⟨R1, hR1⟩ : ∃ R1, andE (cntE (.ok magicL) p.classes.length 16) (seqE (fcls p) p.classes.length) = R1 := ⟨_, rfl⟩
  rw [hR1] at HL1
  have HR1 := Lib.hid hR1
  clear hR1
  go_loopw [5] (fun x wr => ∃ (i : Nat) (a : Option Addr) (n c : Nat) (e : Int), i ≤ p.classes.length ∧ x = .int .i64 i ∧ PartV false wr S (fun x => x = S + 1 + 1 ∨ x = S) (.agg #[.slice a n c, .int .i64 e]) (andE (cntE (.ok magicL) p.classes.length 16) (seqE (fcls p) i)) ∧ Blk wr (S + 1 + 1) #[.slice a n c, .int .i64 e] 66 ∧ Blk wr S #[.slice a1 p.classes.length p1, .slice a2 p.funcs.length p2] 29 ∧ Below S w wr) (fun x _ => p.classes.length - (intOf x).toNat)
  case atStart => exact ⟨0, _, _, _, _, by omega, rfl, hP7, kS7, k07, hb7⟩
  case round =>
    clear hP7 kS7 k07 hb7
    obtain ⟨i, a5, n5, c5, e5, hi, rfl, hP5, kS, k0, hbel⟩ := hrel
    have hbsz := hP5.bw
    have y0 := k0.val 0 rfl
    have y1 := k0.val 1 rfl
    have s0 := kS.val 0 rfl
    have s1 := kS.val 1 rfl
    rcases hP5.cases with ⟨e0, q, hq⟩ | ⟨e0, hq⟩
    · by_cases hlt : i < p.classes.length
      · have hlt' : (i : Int) < (p.classes.length : Int) := by omega
        have HQ := Lib.hid hq
        clear hq
        obtain ⟨_, _, hva, _, hel⟩ := (RP.out wr hbel).1
        injection hva with hva1 hva2 hva3
        subst hva1 hva3
        obtain ⟨d, o, hdo, hdB, t1, vf, t2, hvf⟩ := hel i hlt
        subst hdo
        have hg : p.classes.getD i cls0 = p.classes[i] := by simp [List.getD_eq_getElem?_getD, hlt]
        have i1 : (0 : Int) ≤ (i : Int) ∧ (i : Int) < (p.classes.length : Int) := ⟨by omega, by omega⟩
        have i2 : 0 < p.classes.length := by omega
        have HF : Hid (fcls p i = clsE p.classes[i]) := by unfold Hid fcls; rw [hg]
        have HLi := Lib.hid (lenE_at (r := .ok magicL) (n := p.classes.length) (most := 16) (M := 4) (L := 441) (f := fcls p) (fun q e => by injection e with e; subst e; decide) (by decide) (fun j _ => lenE_cls _) i hi)
        have HE : Hid (andE (andE (cntE (.ok magicL) p.classes.length 16) (seqE (fcls p) i)) (fcls p i) = andE (cntE (.ok magicL) p.classes.length 16) (seqE (fcls p) (i + 1))) := by unfold Hid; rw [seqE, andE_assoc]
        clear hel hg
        generalize p.classes[i] = cl at *
        generalize andE (cntE (.ok magicL) p.classes.length 16) (seqE (fcls p) i) = ri at *
        have hRF := Lib.hid (fun W (hb : Below S wr W) => hvf.keep hb fun _ _ _ e r => r.keep hb e)
        obtain ⟨fa, fc, hfs⟩ := rd_shape hvf
        subst hfs
        clear hvf
        -- the box of the class
        have bC : Below wr.heap.size wr (wr.alloc (.cells #[.string cl.name, .slice fa cl.fields.length fc] 48)) := (Below.refl _ _).alloc (Nat.le_refl _) _
        have hPC := hP5.add bC (m := wr.heap.size) (Nat.le_refl _) (by simp)
        have kC : Blk (wr.alloc (.cells #[.string cl.name, .slice fa cl.fields.length fc] 48)) wr.heap.size #[.string cl.name, .slice fa cl.fields.length fc] 48 := Blk.new _ _ _
        have lS := kS.lt
        have l0 := k0.lt
        have kSa := kS.grew bC
        have k0a := k0.grew bC
        have z0 := kC.val 0 rfl
        have z1 := kC.val 1 rfl
        have hbw := hbel.trans (bC.mono hbsz)
        have HB0 := Lib.hid (bC.mono hbsz)
        have TX := Lib.hid (rtext_any false _ S _ _ ri cl.name hPC (lenE_mono HLi.out (by decide)))
        have hC1 : wr.heap.size ≠ S + 1 + 1 := by omega
        have hC0 : wr.heap.size ≠ S := by omega
        have hbs2 : S ≤ (wr.alloc (.cells #[.string cl.name, .slice fa cl.fields.length fc] 48)).heap.size := by simp; omega
        clear hP5 hPC kS k0 hbel hbsz bC
        go_wp2_with fail
        clear y0 y1 s0 s1 t1 t2 z0 z1
        generalize World.alloc wr _ = Wc at *
        generalize hCC : wr.heap.size = C at *
        have hHC := Lib.hid hCC
        clear hCC
        have hbel := hbw
        have hbsz := hbs2
        have kS := kSa
        have k0 := k0a
        have hP5 := trivial
        have HBr := Lib.hid HB0.out
        clear hbw hbs2 kSa k0a HB0
        refine (TX.out).mono ?_
        rintro e9 w6 ⟨vv', rfl, hP, hT⟩
        have qS := hT.kept kS (.inr (.inl rfl))
        have q0 := hT.kept k0 (.inr (.inr rfl))
        have qC := hT.kept kC (.inl rfl)
        have HPx := Lib.hid hP
        obtain ⟨⟨a6, n6, c6, x6, rfl, _⟩, _, _⟩ := hP
        have g0 := qS.val 0 rfl
        have g1 := qS.val 1 rfl
        have f0 := qS.frozen 0
        have f1 := qS.frozen 1
        have hTT := hT.below hbsz
        obtain ⟨hP7, kS7, hT7⟩ := part_store HPx.out (.inr (.inl rfl)) qS rfl rfl
        have k07 := q0.touch hT7 (by omega)
        have kC7 := qC.touch hT7 (by omega)
        have hb7 := (hbel.trans (hT.below hbsz)).trans (touch_below hT7 (by omega) (Nat.le_trans hbsz hT.size))
        have hTTs := touch_below hT7 (show S ≤ S + 1 + 1 by omega) (Nat.le_trans hbsz hT.size)
        have hz7 := Nat.le_trans (Nat.le_trans hbsz hT.size) hT7.size
        clear hT kS k0 hbel qS q0 hP5 hT7 hbsz qC kC
        clear TX
        have x0 := kC7.val 0 rfl
        have x1 := kC7.val 1 rfl
        have HBr7 := Lib.hid (HBr.out.trans ((hTT).trans hTTs))
        have HLc : lenE (andE ri (nameE cl.name)) 7100 := lenE_mono (lenE_and HLi.out (lenE_name _)) (by decide)
        have CX := Lib.hid (rcount_any false _ S _ _ _ cl.fields.length 15 hP7 (by decide) (lenE_mono HLc (by decide)))
        have HLcc := Lib.hid HLc
        clear HLc
        go_wp2_with fail
        clear g0 g1 f0 f1
        generalize World.setCell (World.setCell w6 _ _) _ _ = W8 at *
        have kS := kS7
        have k0 := k07
        have kC := kC7
        have hP5 := hP7
        have hbel := hb7
        have hbsz := hz7
        clear kS7 k07 kC7 hP7 hb7 hz7
        clear x0 x1
        have hmxf : cl.fields.length ≤ maxLen := by obtain ⟨_, _, _, q, _⟩ := hRF.out _ HBr7.out; exact q
        unfold maxLen at hmxf
        clear hTT hTTs
        refine (CX.out).mono ?_
        rintro e9 w9 ⟨vv', rfl, hP, hT⟩
        have qS := hT.kept kS (.inr (.inl rfl))
        have q0 := hT.kept k0 (.inr (.inr rfl))
        have qC := hT.kept kC (.inl rfl)
        have HPx := Lib.hid hP
        obtain ⟨⟨a6, n6, c6, x6, rfl, _⟩, _, _⟩ := hP
        have g0 := qS.val 0 rfl
        have g1 := qS.val 1 rfl
        have f0 := qS.frozen 0
        have f1 := qS.frozen 1
        have hTT := hT.below hbsz
        obtain ⟨hP7, kS7, hT7⟩ := part_store HPx.out (.inr (.inl rfl)) qS rfl rfl
        have k07 := q0.touch hT7 (by omega)
        have kC7 := qC.touch hT7 (by omega)
        have hb7 := (hbel.trans (hT.below hbsz)).trans (touch_below hT7 (by omega) (Nat.le_trans hbsz hT.size))
        have hTTs := touch_below hT7 (show S ≤ S + 1 + 1 by omega) (Nat.le_trans hbsz hT.size)
        have hz7 := Nat.le_trans (Nat.le_trans hbsz hT.size) hT7.size
        clear hT kS k0 hbel qS q0 hP5 hT7 hbsz qC kC
        clear CX
        have HBr8 := Lib.hid (HBr7.out.trans ((hTT).trans hTTs))
        clear hTT hTTs HBr7 HBr
        go_wp2
        clear g0 g1 f0 f1
        generalize World.setCell (World.setCell w9 _ _) _ _ = W10 at *
        have HB0 : andE (cntE (andE ri (nameE cl.name)) cl.fields.length 15) (seqE (ffld cl) 0) = andE (andE ri (nameE cl.name)) (if 15 < cl.fields.length then Except.error 3 else Except.ok (numB cl.fields.length)) := by rw [seqE, andE_nil]; rfl
        rw [← HB0] at hP7
        clear HB0
        generalize wr = wq at *
        go_loopw [7] (fun x wr2 => ∃ (k : Nat) (a : Option Addr) (n c : Nat) (e : Int), k ≤ cl.fields.length ∧ x = .int .i64 k ∧ PartV false wr2 S (fun x => x = C ∨ (x = S + 1 + 1 ∨ x = S)) (.agg #[.slice a n c, .int .i64 e]) (andE (cntE (andE ri (nameE cl.name)) cl.fields.length 15) (seqE (ffld cl) k)) ∧ Blk wr2 (S + 1 + 1) #[.slice a n c, .int .i64 e] 66 ∧ Blk wr2 S #[.slice (some ⟨d, o, none⟩) p.classes.length p1, .slice a2 p.funcs.length p2] 29 ∧ Blk wr2 C #[.string cl.name, .slice fa cl.fields.length fc] 48 ∧ Below S w wr2 ∧ Below S wq wr2) (fun x _ => cl.fields.length - (intOf x).toNat)
        case atStart => exact ⟨0, _, _, _, _, by omega, rfl, hP7, kS7, k07, kC7, hb7, HBr8.out⟩
        case round =>
          clear hP7 kS7 k07 kC7 hb7 hz7 HBr8
          obtain ⟨k, a5, n5, c5, e5, hk, rfl, hP5, kS, k0, kC, hbel, hbr⟩ := hrel
          have hbsz := hP5.bw
          have x0 := kC.val 0 rfl
          have x1 := kC.val 1 rfl
          have s0 := kS.val 0 rfl
          have s1 := kS.val 1 rfl
          rcases hP5.cases with ⟨e0, q2, hq⟩ | ⟨e0, hq⟩
          · by_cases hltk : k < cl.fields.length
            · have hltk' : (k : Int) < (cl.fields.length : Int) := by omega
              obtain ⟨_, _, hva, _, hel⟩ := hRF.out wr hbr
              injection hva with hva1 hva2 hva3
              subst hva1 hva3
              obtain ⟨d2, o2, hdo, hdB2, t1, t2, _⟩ := hel k hltk
              subst hdo
              have hg : cl.fields.getD k ⟨.empty, 0⟩ = cl.fields[k] := by simp [List.getD_eq_getElem?_getD, hltk]
              have j1 : (0 : Int) ≤ (k : Int) ∧ (k : Int) < (cl.fields.length : Int) := ⟨by omega, by omega⟩
              have j2 : 0 < cl.fields.length := by omega
              have HFk : Hid (ffld cl k = andE (nameE cl.fields[k].name) (kindE cl.fields[k].ty)) := by unfold Hid ffld fldE; rw [hg]
              have HLk := Lib.hid (lenE_at (r := andE ri (nameE cl.name)) (n := cl.fields.length) (most := 15) (L := 27) (f := ffld cl) HLcc.out (by decide) (fun j _ => lenE_fld _) k hk)
              have HEk : Hid (andE (andE (cntE (andE ri (nameE cl.name)) cl.fields.length 15) (seqE (ffld cl) k)) (ffld cl k) = andE (cntE (andE ri (nameE cl.name)) cl.fields.length 15) (seqE (ffld cl) (k + 1))) := by unfold Hid; rw [seqE, andE_assoc]
              clear hel hg hq
              generalize cl.fields[k] = fd at *
              generalize andE (cntE (andE ri (nameE cl.name)) cl.fields.length 15) (seqE (ffld cl) k) = rk at *
              have TX := Lib.hid (rtext_any false wr.drew S _ _ rk fd.name (hP5.grew (Below.refl _ _).drew) (lenE_mono HLk.out (by decide)))
              have QB : Below S wr wr.drew := (Below.refl _ _).drew
              have t1' := (QB.cell (p := ⟨d2, o2 + k * 2, none⟩) hdB2).trans t1
              have t2' := (QB.cell (p := ⟨d2, o2 + k * 2 + 1, none⟩) hdB2).trans t2
              have kSd := kS.drew
              have k0d := k0.drew
              have kCd := kC.drew
              have hbeld := hbel.trans QB
              have hbrd := Lib.hid (hbr.trans QB)
              have hbszd : S ≤ wr.drew.heap.size := hbsz
              go_wp2_with fail
              go_still_tail 7, (by kernel_rfl)
              change wpList _ _ _ _ _ wr.drew
              clear t1 t2 kS k0 kC hbel hbr hbsz QB x0 x1 s0 s1 hP5
              generalize wr.drew = wd at *
              have kS := kSd
              have k0 := k0d
              have kC := kCd
              have hbel := hbeld
              have hbsz := hbszd
              have hP5 := trivial
              clear kSd k0d kCd hbeld hbszd
              go_wp2_with fail
              refine (TX.out).mono ?_
              rintro e9 w11 ⟨vv', rfl, hP, hT⟩
              have qS := hT.kept kS (.inr (.inl rfl))
              have q0 := hT.kept k0 (.inr (.inr rfl))
              have qC := hT.kept kC (.inl rfl)
              have HPx := Lib.hid hP
              obtain ⟨⟨a6, n6, c6, x6, rfl, _⟩, _, _⟩ := hP
              have g0 := qS.val 0 rfl
              have g1 := qS.val 1 rfl
              have f0 := qS.frozen 0
              have f1 := qS.frozen 1
              have hTT := hT.below hbsz
              obtain ⟨hP7, kS7, hT7⟩ := part_store HPx.out (.inr (.inl rfl)) qS rfl rfl
              have k07 := q0.touch hT7 (by omega)
              have kC7 := qC.touch hT7 (by omega)
              have hb7 := (hbel.trans (hT.below hbsz)).trans (touch_below hT7 (by omega) (Nat.le_trans hbsz hT.size))
              have hTTs := touch_below hT7 (show S ≤ S + 1 + 1 by omega) (Nat.le_trans hbsz hT.size)
              have hz7 := Nat.le_trans (Nat.le_trans hbsz hT.size) hT7.size
              clear hT kS k0 hbel qS q0 hP5 hT7 hbsz qC kC
              clear TX
              have x0 := kC7.val 0 rfl
              have x1 := kC7.val 1 rfl
              have HBw := (hTT).trans hTTs
              have t1 := (HBw.cell (p := ⟨d2, o2 + k * 2, none⟩) hdB2).trans t1'
              have t2 := (HBw.cell (p := ⟨d2, o2 + k * 2 + 1, none⟩) hdB2).trans t2'
              have hbr7 := Lib.hid (hbrd.out.trans HBw)
              clear hTT hTTs hbrd HBw t1' t2'
              go_wp2_with fail
              clear g0 g1 f0 f1
              generalize World.setCell (World.setCell w11 _ _) _ _ = W12 at *
              have KX := Lib.hid (rkind_any false W12.drew S _ _ _ fd.ty (hP7.grew (Below.refl _ _).drew) (lenE_mono (lenE_and HLk.out (lenE_name fd.name)) (by decide)))
              have QB : Below S W12 W12.drew := (Below.refl _ _).drew
              have kSd := kS7.drew
              have k0d := k07.drew
              have kCd := kC7.drew
              have hbeld := hb7.trans QB
              have hbrd := Lib.hid (hbr7.out.trans QB)
              have hbszd : S ≤ W12.drew.heap.size := hz7
              have s0 := kS7.val 0 rfl
              have s1 := kS7.val 1 rfl
              go_still_tail 7, (by kernel_rfl)
              change wpList _ _ _ _ _ W12.drew
              clear t1 t2 kS7 k07 kC7 hb7 hbr7 hz7 QB x0 x1 hP7 s0 s1
              generalize W12.drew = wd2 at *
              have kS := kSd
              have k0 := k0d
              have kC := kCd
              have hbel := hbeld
              have hbsz := hbszd
              have hP5 := trivial
              clear kSd k0d kCd hbeld hbszd
              go_wp2_with fail
              refine (KX.out).mono ?_
              rintro e9 w13 ⟨vv', rfl, hP, hT⟩
              have qS := hT.kept kS (.inr (.inl rfl))
              have q0 := hT.kept k0 (.inr (.inr rfl))
              have qC := hT.kept kC (.inl rfl)
              have HPx := Lib.hid hP
              obtain ⟨⟨a6, n6, c6, x6, rfl, _⟩, _, _⟩ := hP
              have g0 := qS.val 0 rfl
              have g1 := qS.val 1 rfl
              have f0 := qS.frozen 0
              have f1 := qS.frozen 1
              have hTT := hT.below hbsz
              obtain ⟨hP7, kS7, hT7⟩ := part_store HPx.out (.inr (.inl rfl)) qS rfl rfl
              have k07 := q0.touch hT7 (by omega)
              have kC7 := qC.touch hT7 (by omega)
              have hb7 := (hbel.trans (hT.below hbsz)).trans (touch_below hT7 (by omega) (Nat.le_trans hbsz hT.size))
              have hTTs := touch_below hT7 (show S ≤ S + 1 + 1 by omega) (Nat.le_trans hbsz hT.size)
              have hz7 := Nat.le_trans (Nat.le_trans hbsz hT.size) hT7.size
              clear hT kS k0 hbel qS q0 hP5 hT7 hbsz qC kC
              clear KX
              have HBw := (hTT).trans hTTs
              have hbr7 := hbrd.out.trans HBw
              clear hTT hTTs hbrd HBw
              have hEq : andE (andE rk (nameE fd.name)) (kindE fd.ty) = andE (cntE (andE ri (nameE cl.name)) cl.fields.length 15) (seqE (ffld cl) (k + 1)) := by rw [← HEk.out, HFk.out, andE_assoc]
              rw [hEq] at hP7
              clear hEq
              go_wp2
              go_roundw
              case rel => exact ⟨k + 1, _, _, _, _, by omega, by go_num, hP7, kS7, k07, kC7, hb7, hbr7⟩
              case measure => simp [intOf]; omega
            · have hltk' : ¬ (k : Int) < (cl.fields.length : Int) := by omega
              obtain rfl : k = cl.fields.length := by omega
              clear hq
              have hP8 : PartV false wr S (fun x => x = S + 1 + 1 ∨ x = S) (.agg #[.slice a5 n5 c5, .int .i64 e5]) (andE (cntE (.ok magicL) p.classes.length 16) (seqE (fcls p) (i + 1))) := by
                have e : andE (cntE (andE ri (nameE cl.name)) cl.fields.length 15) (seqE (ffld cl) cl.fields.length) = andE (cntE (.ok magicL) p.classes.length 16) (seqE (fcls p) (i + 1)) := by rw [cls_step, ← HE.out, HF.out]
                rw [← e]
                exact hP5.sub fun x hx => .inr hx
              go_wp2
              go_roundw
              case rel => exact ⟨i + 1, _, _, _, _, by omega, by go_num, hP8, kS, k0, hbel⟩
              case measure => simp [intOf]; omega
          · have HQk := Lib.hid hq
            clear hq
            have hP8 : PartV false wr S (fun x => x = S + 1 + 1 ∨ x = S) (.agg #[.slice a5 n5 c5, .int .i64 e5]) (andE (cntE (.ok magicL) p.classes.length 16) (seqE (fcls p) (i + 1))) := by
              have e : andE (cntE (.ok magicL) p.classes.length 16) (seqE (fcls p) (i + 1)) = .error e5 := by
                rw [← HE.out, HF.out, ← cls_step]
                exact andE_seq_err HQk.out _ hk
              rw [e, ← HQk.out]
              exact hP5.sub fun x hx => .inr hx
            by_cases hltk : k < cl.fields.length
            all_goals
              first | (have hltk' : (k : Int) < (cl.fields.length : Int) := by omega) | (have hltk' : ¬ (k : Int) < (cl.fields.length : Int) := by omega)
              go_wp2
              go_roundw
              case rel => exact ⟨i + 1, _, _, _, _, by omega, by go_num, hP8, kS, k0, hbel⟩
              case measure => simp [intOf]; omega
      · have hlt' : ¬ (i : Int) < (p.classes.length : Int) := by omega
        have hP9 : PartV false wr S (fun x => x = S + 1 + 1 ∨ x = S) (.agg #[.slice a5 n5 c5, .int .i64 e5]) R1 := by
          obtain rfl : i = p.classes.length := by omega
          rw [← HR1.out]; exact hP5
        clear hq
        as_aux_lemma =>
        have CN := Lib.hid (rcount_any false _ S _ _ R1 p.funcs.length 16 hP9 (by decide) (lenE_mono HL1.out (by decide)))
        clear hP9
        go_wp2_with fail
        refine (CN.out).mono ?_
        rintro e9 w20 ⟨vv', rfl, hP, hT⟩
        have qS := hT.kept kS (.inl rfl)
        have q0 := hT.kept k0 (.inr rfl)
        have HPx := Lib.hid hP
        obtain ⟨⟨a6, n6, c6, x6, rfl, _⟩, _, _⟩ := hP
        have g0 := qS.val 0 rfl
        have g1 := qS.val 1 rfl
        have f0 := qS.frozen 0
        have f1 := qS.frozen 1
        have hTT := hT.below hbsz
        obtain ⟨hP7, kS7, hT7⟩ := part_store HPx.out (.inl rfl) qS rfl rfl
        have k07 := q0.touch hT7 (by omega)
        have hb7 := (hbel.trans (hT.below hbsz)).trans (touch_below hT7 (by omega) (Nat.le_trans hbsz hT.size))
        have hTTs := touch_below hT7 (show S ≤ S + 1 + 1 by omega) (Nat.le_trans hbsz hT.size)
        have hz7 := Nat.le_trans (Nat.le_trans hbsz hT.size) hT7.size
        clear hT kS k0 hbel qS q0 hP5 hT7 hbsz
        clear CN hTT hTTs
        have HA0 : andE (cntE R1 p.funcs.length 16) (seqE (ffun p) 0) = andE R1 (if 16 < p.funcs.length then Except.error 3 else Except.ok (numB p.funcs.length)) := by rw [seqE, andE_nil]; rfl
        rw [← HA0] at hP7
        clear HA0
        go_wp2
        clear g0 g1 f0 f1
        generalize World.setCell (World.setCell w20 _ _) _ _ = W21 at *
        clear y0 y1 s0 s1
        go_loopw [8] (fun x wr => ∃ (i : Nat) (a : Option Addr) (n c : Nat) (e : Int), i ≤ p.funcs.length ∧ x = .int .i64 i ∧ PartV false wr S (fun x => x = S + 1 + 1 ∨ x = S) (.agg #[.slice a n c, .int .i64 e]) (andE (cntE R1 p.funcs.length 16) (seqE (ffun p) i)) ∧ Blk wr (S + 1 + 1) #[.slice a n c, .int .i64 e] 66 ∧ Blk wr S #[.slice a1 p.classes.length p1, .slice a2 p.funcs.length p2] 29 ∧ Below S w wr) (fun x _ => p.funcs.length - (intOf x).toNat)
        case atStart => exact ⟨0, _, _, _, _, by omega, rfl, hP7, kS7, k07, hb7⟩
        case round =>
          clear hP7 kS7 k07 hb7 hz7
          obtain ⟨i, a5, n5, c5, e5, hi, rfl, hP5, kS, k0, hbel⟩ := hrel
          have hbsz := hP5.bw
          have y0 := k0.val 0 rfl
          have y1 := k0.val 1 rfl
          have s0 := kS.val 0 rfl
          have s1 := kS.val 1 rfl
          rcases hP5.cases with ⟨e0, q, hq⟩ | ⟨e0, hq⟩
          · by_cases hlt : i < p.funcs.length
            · have hlt' : (i : Int) < (p.funcs.length : Int) := by omega
              clear hq
              obtain ⟨_, _, hva, _, hel⟩ := (RP.out wr hbel).2
              injection hva with hva1 hva2 hva3
              subst hva1 hva3
              obtain ⟨d, o, hdo, hdB, t1, ⟨u1, t2, r1⟩, ⟨t3, _⟩, ⟨u3, t4, r3⟩, u4, t5, r4⟩ := hel i hlt
              subst hdo
              have hg : p.funcs.getD i fun0 = p.funcs[i] := by simp [List.getD_eq_getElem?_getD, hlt]
              have i1 : (0 : Int) ≤ (i : Int) ∧ (i : Int) < (p.funcs.length : Int) := ⟨by omega, by omega⟩
              have i2 : 0 < p.funcs.length := by omega
              have HF : Hid (ffun p i = funE p.funcs[i]) := by unfold Hid ffun; rw [hg]
              have HLi := Lib.hid (lenE_at (n := p.funcs.length) (most := 16) (M := 7100) (L := 5600) (f := ffun p) HL1.out (by decide) (fun j hj => HFU.out j hj) i hi)
              have HE : Hid (andE (andE (cntE R1 p.funcs.length 16) (seqE (ffun p) i)) (ffun p i) = andE (cntE R1 p.funcs.length 16) (seqE (ffun p) (i + 1))) := by unfold Hid; rw [seqE, andE_assoc]
              clear hel hg
              generalize p.funcs[i] = fn at *
              generalize andE (cntE R1 p.funcs.length 16) (seqE (ffun p) i) = ri at *
              have hR1v := Lib.hid (fun W (hb : Below S wr W) => r1.keep hb fun _ _ _ e r => r.keep hb e)
              have hR3v := Lib.hid (fun W (hb : Below S wr W) => r3.keep hb fun _ _ _ e r => r.keep hb e)
              have hR4v := Lib.hid (fun W (hb : Below S wr W) => r4.keep hb fun _ _ _ e r => r.keep hb e)
              have hck := Lib.hid (codeOk_of r4)
              obtain ⟨fa1, fc1, hf1⟩ := rd_shape r1
              obtain ⟨fa3, fc3, hf3⟩ := rd_shape r3
              obtain ⟨fa4, fc4, hf4⟩ := rd_shape r4
              subst hf1 hf3 hf4
              clear r1 r3 r4
              have bC : Below wr.heap.size wr (wr.alloc (.cells #[.string fn.name, .slice fa1 fn.params.length fc1, .int .i64 fn.result, .slice fa3 fn.locals.length fc3, .slice fa4 fn.code.length fc4] 54)) := (Below.refl _ _).alloc (Nat.le_refl _) _
              have hPC := hP5.add bC (m := wr.heap.size) (Nat.le_refl _) (by simp)
              have kC : Blk (wr.alloc (.cells #[.string fn.name, .slice fa1 fn.params.length fc1, .int .i64 fn.result, .slice fa3 fn.locals.length fc3, .slice fa4 fn.code.length fc4] 54)) wr.heap.size #[.string fn.name, .slice fa1 fn.params.length fc1, .int .i64 fn.result, .slice fa3 fn.locals.length fc3, .slice fa4 fn.code.length fc4] 54 := Blk.new _ _ _
              have lS := kS.lt
              have l0 := k0.lt
              have kSa := kS.grew bC
              have k0a := k0.grew bC
              have z0 := kC.val 0 rfl
              have hbw := hbel.trans (bC.mono hbsz)
              have HBr := Lib.hid (bC.mono hbsz)
              have TX := Lib.hid (rtext_any false _ S _ _ ri fn.name hPC (lenE_mono HLi.out (by decide)))
              have hC1 : wr.heap.size ≠ S + 1 + 1 := by omega
              have hC0 : wr.heap.size ≠ S := by omega
              have hbs2 : S ≤ (wr.alloc (.cells #[.string fn.name, .slice fa1 fn.params.length fc1, .int .i64 fn.result, .slice fa3 fn.locals.length fc3, .slice fa4 fn.code.length fc4] 54)).heap.size := by simp; omega
              clear hP5 hPC kS k0 hbel hbsz bC
              go_wp2_with fail
              clear y0 y1 s0 s1 t1 t2 t3 t4 t5 z0
              generalize World.alloc wr _ = Wc at *
              generalize hCC : wr.heap.size = C at *
              clear hCC
              have hbel := hbw
              have hbsz := hbs2
              have kS := kSa
              have k0 := k0a
              have hP5 := trivial
              clear hbw hbs2 kSa k0a
              refine (TX.out).mono ?_
              rintro e9 w22 ⟨vv', rfl, hP, hT⟩
              have qS := hT.kept kS (.inr (.inl rfl))
              have q0 := hT.kept k0 (.inr (.inr rfl))
              have qC := hT.kept kC (.inl rfl)
              have HPx := Lib.hid hP
              obtain ⟨⟨a6, n6, c6, x6, rfl, _⟩, _, _⟩ := hP
              have g0 := qS.val 0 rfl
              have g1 := qS.val 1 rfl
              have f0 := qS.frozen 0
              have f1 := qS.frozen 1
              have hTT := hT.below hbsz
              obtain ⟨hP7, kS7, hT7⟩ := part_store HPx.out (.inr (.inl rfl)) qS rfl rfl
              have k07 := q0.touch hT7 (by omega)
              have kC7 := qC.touch hT7 (by omega)
              have hb7 := (hbel.trans (hT.below hbsz)).trans (touch_below hT7 (by omega) (Nat.le_trans hbsz hT.size))
              have hTTs := touch_below hT7 (show S ≤ S + 1 + 1 by omega) (Nat.le_trans hbsz hT.size)
              have hz7 := Nat.le_trans (Nat.le_trans hbsz hT.size) hT7.size
              clear hT kS k0 hbel qS q0 hP5 hT7 hbsz qC kC
              clear TX
              have xx := kC7.val 1 rfl
              have HBr7 := Lib.hid (HBr.out.trans ((hTT).trans hTTs))
              clear hTT hTTs HBr
              have HBr := HBr7
              clear HBr7
              have hL7 := lenE_and HLi.out (lenE_name fn.name)
              have KA := Lib.hid (rkinds_any false _ S _ _ _ _ fn.params 6 hP7 (hR1v.out _ HBr.out) (by decide) (lenE_mono hL7 (by decide)))
              have HL7 := Lib.hid hL7
              clear hL7
              go_wp2_with fail
              clear g0 g1 f0 f1 xx
              generalize World.setCell (World.setCell w22 _ _) _ _ = W23 at *
              have kS := kS7
              have k0 := k07
              have kC := kC7
              have hP5 := hP7
              have hbel := hb7
              have hbsz := hz7
              clear kS7 k07 kC7 hP7 hb7 hz7
              refine (KA.out).mono ?_
              rintro e9 w24 ⟨vv', rfl, hP, hT⟩
              have qS := hT.kept kS (.inr (.inl rfl))
              have q0 := hT.kept k0 (.inr (.inr rfl))
              have qC := hT.kept kC (.inl rfl)
              have HPx := Lib.hid hP
              obtain ⟨⟨a6, n6, c6, x6, rfl, _⟩, _, _⟩ := hP
              have g0 := qS.val 0 rfl
              have g1 := qS.val 1 rfl
              have f0 := qS.frozen 0
              have f1 := qS.frozen 1
              have hTT := hT.below hbsz
              obtain ⟨hP7, kS7, hT7⟩ := part_store HPx.out (.inr (.inl rfl)) qS rfl rfl
              have k07 := q0.touch hT7 (by omega)
              have kC7 := qC.touch hT7 (by omega)
              have hb7 := (hbel.trans (hT.below hbsz)).trans (touch_below hT7 (by omega) (Nat.le_trans hbsz hT.size))
              have hTTs := touch_below hT7 (show S ≤ S + 1 + 1 by omega) (Nat.le_trans hbsz hT.size)
              have hz7 := Nat.le_trans (Nat.le_trans hbsz hT.size) hT7.size
              clear hT kS k0 hbel qS q0 hP5 hT7 hbsz qC kC
              clear KA
              have xx := kC7.val 2 rfl
              have HBr7 := Lib.hid (HBr.out.trans ((hTT).trans hTTs))
              clear hTT hTTs HBr
              have HBr := HBr7
              clear HBr7
              have hL7 := lenE_and HL7.out (lenE_kinds fn.params 6 (by decide))
              have KB := Lib.hid (rkind_any false _ S _ _ _ fn.result hP7 (lenE_mono hL7 (by decide)))
              have HL7b := Lib.hid hL7
              clear hL7
              go_wp2_with fail
              clear g0 g1 f0 f1 xx
              generalize World.setCell (World.setCell w24 _ _) _ _ = W25 at *
              have kS := kS7
              have k0 := k07
              have kC := kC7
              have hP5 := hP7
              have hbel := hb7
              have hbsz := hz7
              clear kS7 k07 kC7 hP7 hb7 hz7
              refine (KB.out).mono ?_
              rintro e9 w26 ⟨vv', rfl, hP, hT⟩
              have qS := hT.kept kS (.inr (.inl rfl))
              have q0 := hT.kept k0 (.inr (.inr rfl))
              have qC := hT.kept kC (.inl rfl)
              have HPx := Lib.hid hP
              obtain ⟨⟨a6, n6, c6, x6, rfl, _⟩, _, _⟩ := hP
              have g0 := qS.val 0 rfl
              have g1 := qS.val 1 rfl
              have f0 := qS.frozen 0
              have f1 := qS.frozen 1
              have hTT := hT.below hbsz
              obtain ⟨hP7, kS7, hT7⟩ := part_store HPx.out (.inr (.inl rfl)) qS rfl rfl
              have k07 := q0.touch hT7 (by omega)
              have kC7 := qC.touch hT7 (by omega)
              have hb7 := (hbel.trans (hT.below hbsz)).trans (touch_below hT7 (by omega) (Nat.le_trans hbsz hT.size))
              have hTTs := touch_below hT7 (show S ≤ S + 1 + 1 by omega) (Nat.le_trans hbsz hT.size)
              have hz7 := Nat.le_trans (Nat.le_trans hbsz hT.size) hT7.size
              clear hT kS k0 hbel qS q0 hP5 hT7 hbsz qC kC
              clear KB
              have xx := kC7.val 3 rfl
              have HBr7 := Lib.hid (HBr.out.trans ((hTT).trans hTTs))
              clear hTT hTTs HBr
              have HBr := HBr7
              clear HBr7
              have hL7 := lenE_and HL7b.out (lenE_kind fn.result)
              have KD := Lib.hid (rkinds_any false _ S _ _ _ _ fn.locals 16 hP7 (hR3v.out _ HBr.out) (by decide) (lenE_mono hL7 (by decide)))
              have HL7c := Lib.hid hL7
              clear hL7
              go_wp2_with fail
              clear g0 g1 f0 f1 xx
              generalize World.setCell (World.setCell w26 _ _) _ _ = W27 at *
              have kS := kS7
              have k0 := k07
              have kC := kC7
              have hP5 := hP7
              have hbel := hb7
              have hbsz := hz7
              clear kS7 k07 kC7 hP7 hb7 hz7
              refine (KD.out).mono ?_
              rintro e9 w28 ⟨vv', rfl, hP, hT⟩
              have qS := hT.kept kS (.inr (.inl rfl))
              have q0 := hT.kept k0 (.inr (.inr rfl))
              have qC := hT.kept kC (.inl rfl)
              have HPx := Lib.hid hP
              obtain ⟨⟨a6, n6, c6, x6, rfl, _⟩, _, _⟩ := hP
              have g0 := qS.val 0 rfl
              have g1 := qS.val 1 rfl
              have f0 := qS.frozen 0
              have f1 := qS.frozen 1
              have hTT := hT.below hbsz
              obtain ⟨hP7, kS7, hT7⟩ := part_store HPx.out (.inr (.inl rfl)) qS rfl rfl
              have k07 := q0.touch hT7 (by omega)
              have kC7 := qC.touch hT7 (by omega)
              have hb7 := (hbel.trans (hT.below hbsz)).trans (touch_below hT7 (by omega) (Nat.le_trans hbsz hT.size))
              have hTTs := touch_below hT7 (show S ≤ S + 1 + 1 by omega) (Nat.le_trans hbsz hT.size)
              have hz7 := Nat.le_trans (Nat.le_trans hbsz hT.size) hT7.size
              clear hT kS k0 hbel qS q0 hP5 hT7 hbsz qC kC
              clear KD
              have xx := kC7.val 4 rfl
              have HBr7 := Lib.hid (HBr.out.trans ((hTT).trans hTTs))
              clear hTT hTTs HBr
              have HBr := HBr7
              clear HBr7
              have hL7 := lenE_mono (lenE_and HL7c.out (lenE_kinds fn.locals 16 (by decide))) (show _ ≤ 200000 by decide)
              have CX := Lib.hid (rcount_any false _ S _ _ _ fn.code.length 256 hP7 (by decide) (lenE_mono hL7 (by decide)))
              have HL7d := Lib.hid hL7
              clear hL7
              go_wp2_with fail
              clear g0 g1 f0 f1 xx
              generalize World.setCell (World.setCell w28 _ _) _ _ = W29 at *
              have kS := kS7
              have k0 := k07
              have kC := kC7
              have hP5 := hP7
              have hbel := hb7
              have hbsz := hz7
              clear kS7 k07 kC7 hP7 hb7 hz7
              generalize hra : andE (andE (andE (andE ri (nameE fn.name)) (kindsE fn.params 6)) (kindE fn.result)) (kindsE fn.locals 16) = ra at *
              have HRA := Lib.hid hra
              clear hra
              refine (CX.out).mono ?_
              rintro e9 w30 ⟨vv', rfl, hP, hT⟩
              have qS := hT.kept kS (.inr (.inl rfl))
              have q0 := hT.kept k0 (.inr (.inr rfl))
              have qC := hT.kept kC (.inl rfl)
              have HPx := Lib.hid hP
              obtain ⟨⟨a6, n6, c6, x6, rfl, _⟩, _, _⟩ := hP
              have g0 := qS.val 0 rfl
              have g1 := qS.val 1 rfl
              have f0 := qS.frozen 0
              have f1 := qS.frozen 1
              have hTT := hT.below hbsz
              obtain ⟨hP7, kS7, hT7⟩ := part_store HPx.out (.inr (.inl rfl)) qS rfl rfl
              have k07 := q0.touch hT7 (by omega)
              have kC7 := qC.touch hT7 (by omega)
              have hb7 := (hbel.trans (hT.below hbsz)).trans (touch_below hT7 (by omega) (Nat.le_trans hbsz hT.size))
              have hTTs := touch_below hT7 (show S ≤ S + 1 + 1 by omega) (Nat.le_trans hbsz hT.size)
              have hz7 := Nat.le_trans (Nat.le_trans hbsz hT.size) hT7.size
              clear hT kS k0 hbel qS q0 hP5 hT7 hbsz qC kC
              clear CX
              have HBr8 := Lib.hid (HBr.out.trans ((hTT).trans hTTs))
              clear hTT hTTs HBr
              have hmxc : fn.code.length ≤ maxLen := by obtain ⟨_, _, _, q, _⟩ := hR4v.out _ HBr8.out; exact q
              unfold maxLen at hmxc
              go_wp2
              clear g0 g1 f0 f1
              generalize World.setCell (World.setCell w30 _ _) _ _ = W31 at *
              have HB0 : andE (cntE ra fn.code.length 256) (seqE (fins fn) 0) = andE ra (if 256 < fn.code.length then Except.error 3 else Except.ok (numB fn.code.length)) := by rw [seqE, andE_nil]; rfl
              rw [← HB0] at hP7
              clear HB0
              generalize wr = wq at *
              go_loopw [10] (fun x wr => ∃ (k : Nat) (a : Option Addr) (n c : Nat) (e : Int), k ≤ fn.code.length ∧ x = .int .i64 k ∧ PartV false wr S (fun x => x = C ∨ (x = S + 1 + 1 ∨ x = S)) (.agg #[.slice a n c, .int .i64 e]) (andE (cntE ra fn.code.length 256) (seqE (fins fn) k)) ∧ Blk wr (S + 1 + 1) #[.slice a n c, .int .i64 e] 66 ∧ Blk wr S #[.slice a1 p.classes.length p1, .slice (some ⟨d, o, none⟩) p.funcs.length p2] 29 ∧ Blk wr C #[.string fn.name, .slice fa1 fn.params.length fc1, .int .i64 fn.result, .slice fa3 fn.locals.length fc3, .slice fa4 fn.code.length fc4] 54 ∧ Below S w wr ∧ Below S wq wr) (fun x _ => fn.code.length - (intOf x).toNat)
              case atStart => exact ⟨0, _, _, _, _, by omega, rfl, hP7, kS7, k07, kC7, hb7, HBr8.out⟩
              case round =>
                clear hP7 kS7 k07 kC7 hb7 hz7 HBr8
                obtain ⟨k, a5, n5, c5, e5, hk, rfl, hP5, kS, k0, kC, hbel, hbr⟩ := hrel
                have hbsz := hP5.bw
                have x4 := kC.val 4 rfl
                have s0 := kS.val 0 rfl
                have s1 := kS.val 1 rfl
                rcases hP5.cases with ⟨e0, q2, hq⟩ | ⟨e0, hq⟩
                · by_cases hltk : k < fn.code.length
                  · have hltk' : (k : Int) < (fn.code.length : Int) := by omega
                    obtain ⟨_, _, hva, _, hel⟩ := hR4v.out wr hbr
                    injection hva with hva1 hva2 hva3
                    subst hva1 hva3
                    obtain ⟨d2, o2, hdo, hdB2, t1, t2, t3, _, iy, iz⟩ := hel k hltk
                    subst hdo
                    have hg : fn.code.getD k ins0 = fn.code[k] := by simp [List.getD_eq_getElem?_getD, hltk]
                    have j1 : (0 : Int) ≤ (k : Int) ∧ (k : Int) < (fn.code.length : Int) := ⟨by omega, by omega⟩
                    have j2 : 0 < fn.code.length := by omega
                    have HFk : Hid (fins fn k = insE fn.code[k]) := by unfold Hid fins; rw [hg]
                    have HLk := Lib.hid (lenE_at (n := fn.code.length) (most := 256) (L := 21) (f := fins fn) HL7d.out (by decide) (fun j hj => lenE_ins _ (hck.out j hj)) k hk)
                    have HEk : Hid (andE (andE (cntE ra fn.code.length 256) (seqE (fins fn) k)) (fins fn k) = andE (cntE ra fn.code.length 256) (seqE (fins fn) (k + 1))) := by unfold Hid; rw [seqE, andE_assoc]
                    clear hel hg hq
                    generalize fn.code[k] = ii at *
                    generalize andE (cntE ra fn.code.length 256) (seqE (fins fn) k) = rk at *
                    have IX := Lib.hid (rins_any false wr.drew S _ _ rk ii (hP5.grew (Below.refl _ _).drew) iy iz (lenE_mono HLk.out (by decide)))
                    have QB : Below S wr wr.drew := (Below.refl _ _).drew
                    have kSd := kS.drew
                    have k0d := k0.drew
                    have kCd := kC.drew
                    have hbeld := hbel.trans QB
                    have hbrd := Lib.hid (hbr.trans QB)
                    have hbszd : S ≤ wr.drew.heap.size := hbsz
                    obtain ⟨iop, ia, ib⟩ := ii
                    go_wp2_with fail
                    go_still_tail 6, (by kernel_rfl)
                    change wpList _ _ _ _ _ wr.drew
                    clear t1 t2 t3 kS k0 kC hbel hbr hbsz QB x4 s0 s1 hP5 iy iz
                    generalize wr.drew = wd at *
                    have kS := kSd
                    have k0 := k0d
                    have kC := kCd
                    have hbel := hbeld
                    have hbsz := hbszd
                    have hP5 := trivial
                    clear kSd k0d kCd hbeld hbszd
                    go_wp2_with fail
                    refine (IX.out).mono ?_
                    rintro e9 w32 ⟨vv', rfl, hP, hT⟩
                    have qS := hT.kept kS (.inr (.inl rfl))
                    have q0 := hT.kept k0 (.inr (.inr rfl))
                    have qC := hT.kept kC (.inl rfl)
                    have HPx := Lib.hid hP
                    obtain ⟨⟨a6, n6, c6, x6, rfl, _⟩, _, _⟩ := hP
                    have g0 := qS.val 0 rfl
                    have g1 := qS.val 1 rfl
                    have f0 := qS.frozen 0
                    have f1 := qS.frozen 1
                    have hTT := hT.below hbsz
                    obtain ⟨hP7, kS7, hT7⟩ := part_store HPx.out (.inr (.inl rfl)) qS rfl rfl
                    have k07 := q0.touch hT7 (by omega)
                    have kC7 := qC.touch hT7 (by omega)
                    have hb7 := (hbel.trans (hT.below hbsz)).trans (touch_below hT7 (by omega) (Nat.le_trans hbsz hT.size))
                    have hTTs := touch_below hT7 (show S ≤ S + 1 + 1 by omega) (Nat.le_trans hbsz hT.size)
                    have hz7 := Nat.le_trans (Nat.le_trans hbsz hT.size) hT7.size
                    clear hT kS k0 hbel qS q0 hP5 hT7 hbsz qC kC
                    clear IX
                    have HBw := (hTT).trans hTTs
                    have hbr7 := hbrd.out.trans HBw
                    clear hTT hTTs hbrd HBw
                    have hEq : andE rk (insE ⟨iop, ia, ib⟩) = andE (cntE ra fn.code.length 256) (seqE (fins fn) (k + 1)) := by rw [← HEk.out, HFk.out]
                    rw [hEq] at hP7
                    clear hEq
                    go_wp2
                    go_roundw
                    case rel => exact ⟨k + 1, _, _, _, _, by omega, by go_num, hP7, kS7, k07, kC7, hb7, hbr7⟩
                    case measure => simp [intOf]; omega
                  · have hltk' : ¬ (k : Int) < (fn.code.length : Int) := by omega
                    obtain rfl : k = fn.code.length := by omega
                    clear hq
                    have hP8 : PartV false wr S (fun x => x = S + 1 + 1 ∨ x = S) (.agg #[.slice a5 n5 c5, .int .i64 e5]) (andE (cntE R1 p.funcs.length 16) (seqE (ffun p) (i + 1))) := by
                      have e : andE (cntE ra fn.code.length 256) (seqE (fins fn) fn.code.length) = andE (cntE R1 p.funcs.length 16) (seqE (ffun p) (i + 1)) := by rw [← HRA.out, fun_step, ← HE.out, HF.out]
                      rw [← e]
                      exact hP5.sub fun x hx => .inr hx
                    go_wp2
                    go_roundw
                    case rel => exact ⟨i + 1, _, _, _, _, by omega, by go_num, hP8, kS, k0, hbel⟩
                    case measure => simp [intOf]; omega
                · have HQk := Lib.hid hq
                  clear hq
                  have hP8 : PartV false wr S (fun x => x = S + 1 + 1 ∨ x = S) (.agg #[.slice a5 n5 c5, .int .i64 e5]) (andE (cntE R1 p.funcs.length 16) (seqE (ffun p) (i + 1))) := by
                    have e : andE (cntE R1 p.funcs.length 16) (seqE (ffun p) (i + 1)) = .error e5 := by
                      rw [← HE.out, HF.out, ← fun_step, HRA.out]
                      exact andE_seq_err HQk.out _ hk
                    rw [e, ← HQk.out]
                    exact hP5.sub fun x hx => .inr hx
                  by_cases hltk : k < fn.code.length
                  all_goals
                    first | (have hltk' : (k : Int) < (fn.code.length : Int) := by omega) | (have hltk' : ¬ (k : Int) < (fn.code.length : Int) := by omega)
                    go_wp2
                    go_roundw
                    case rel => exact ⟨i + 1, _, _, _, _, by omega, by go_num, hP8, kS, k0, hbel⟩
                    case measure => simp [intOf]; omega
            · have hlt' : ¬ (i : Int) < (p.funcs.length : Int) := by omega
              obtain rfl : i = p.funcs.length := by omega
              obtain ⟨⟨a8, n8, c8, e8, q1, q2⟩, _⟩ := id hP5
              rw [hq] at q2
              injection q1 with q1
              obtain ⟨q3, q4⟩ : (Value.slice a5 n5 c5 = .slice a8 n8 c8) ∧ e5 = e8 := by
                have h1 := congrArg (fun z => z[0]?) q1
                have h2 := congrArg (fun z => z[1]?) q1
                exact ⟨by simpa using h1, by simpa using h2⟩
              obtain ⟨q5, q6⟩ := q2
              subst q4 q5
              rw [← q3] at q6
              have hO : wr.ownsRow S 5 1 (.slice a5 n5 c5) q.length (u8L q) := by
                rcases q6 with h6 | h6
                · exact h6.1
                · exact absurd h6.1 (by decide)
              have HM : Hid (encE p = .ok q) := by unfold Hid; rw [← renc_res, HR1.out]; exact hq
              have HO := Lib.hid hO
              have HBel := Lib.hid hbel
              clear hO q1 q3 q6 hq hP5 hbel
              go_wp2
              go_ret2
              refine ⟨?_, by rw [HS.out]; exact HBel.out⟩
              rw [HM.out, HS.out]
              exact ⟨_, rfl, HO.out⟩
          · have HM : Hid (encE p = .error e5) := by unfold Hid; rw [← renc_res, HR1.out]; exact andE_seq_err hq _ hi
            have e1 : (e5 != 0) = true := by simpa using e0
            have HN : Hid (e5 ≠ 0) := by unfold Hid; simpa using e0
            have HBel := Lib.hid hbel
            clear hq hP5 hbel
            by_cases hlt : i < p.funcs.length
            all_goals
              first | (have hlt' : (i : Int) < (p.funcs.length : Int) := by omega) | (have hlt' : ¬ (i : Int) < (p.funcs.length : Int) := by omega)
              go_wp2
              go_quiet (fail)
              go_wp2
              go_ret2
              refine ⟨?_, by rw [HS.out]; exact below_drewN HBel.out _⟩
              rw [HM.out]
              exact ⟨HN.out, rfl⟩
    · have hP9 : PartV false wr S (fun x => x = S + 1 + 1 ∨ x = S) (.agg #[.slice a5 n5 c5, .int .i64 e5]) R1 := by
        rw [← HR1.out, andE_seq_err hq _ hi, ← hq]; exact hP5
      clear hq
      by_cases hlt : i < p.classes.length
      all_goals
        first | (have hlt' : (i : Int) < (p.classes.length : Int) := by omega) | (have hlt' : ¬ (i : Int) < (p.classes.length : Int) := by omega)
        as_aux_lemma =>
        have CN := Lib.hid (rcount_any false _ S _ _ R1 p.funcs.length 16 hP9 (by decide) (lenE_mono HL1.out (by decide)))
        clear hP9
        go_wp2_with fail
        refine (CN.out).mono ?_
        rintro e9 w20 ⟨vv', rfl, hP, hT⟩
        have qS := hT.kept kS (.inl rfl)
        have q0 := hT.kept k0 (.inr rfl)
        have HPx := Lib.hid hP
        obtain ⟨⟨a6, n6, c6, x6, rfl, _⟩, _, _⟩ := hP
        have g0 := qS.val 0 rfl
        have g1 := qS.val 1 rfl
        have f0 := qS.frozen 0
        have f1 := qS.frozen 1
        have hTT := hT.below hbsz
        obtain ⟨hP7, kS7, hT7⟩ := part_store HPx.out (.inl rfl) qS rfl rfl
        have k07 := q0.touch hT7 (by omega)
        have hb7 := (hbel.trans (hT.below hbsz)).trans (touch_below hT7 (by omega) (Nat.le_trans hbsz hT.size))
        have hTTs := touch_below hT7 (show S ≤ S + 1 + 1 by omega) (Nat.le_trans hbsz hT.size)
        have hz7 := Nat.le_trans (Nat.le_trans hbsz hT.size) hT7.size
        clear hT kS k0 hbel qS q0 hP5 hT7 hbsz
        clear CN hTT hTTs
        have HA0 : andE (cntE R1 p.funcs.length 16) (seqE (ffun p) 0) = andE R1 (if 16 < p.funcs.length then Except.error 3 else Except.ok (numB p.funcs.length)) := by rw [seqE, andE_nil]; rfl
        rw [← HA0] at hP7
        clear HA0
        go_wp2
        clear g0 g1 f0 f1
        generalize World.setCell (World.setCell w20 _ _) _ _ = W21 at *
        clear y0 y1 s0 s1
        go_loopw [8] (fun x wr => ∃ (i : Nat) (a : Option Addr) (n c : Nat) (e : Int), i ≤ p.funcs.length ∧ x = .int .i64 i ∧ PartV false wr S (fun x => x = S + 1 + 1 ∨ x = S) (.agg #[.slice a n c, .int .i64 e]) (andE (cntE R1 p.funcs.length 16) (seqE (ffun p) i)) ∧ Blk wr (S + 1 + 1) #[.slice a n c, .int .i64 e] 66 ∧ Blk wr S #[.slice a1 p.classes.length p1, .slice a2 p.funcs.length p2] 29 ∧ Below S w wr) (fun x _ => p.funcs.length - (intOf x).toNat)
        case atStart => exact ⟨0, _, _, _, _, by omega, rfl, hP7, kS7, k07, hb7⟩
        case round =>
          clear hP7 kS7 k07 hb7 hz7
          obtain ⟨i, a5, n5, c5, e5, hi, rfl, hP5, kS, k0, hbel⟩ := hrel
          have hbsz := hP5.bw
          have y0 := k0.val 0 rfl
          have y1 := k0.val 1 rfl
          have s0 := kS.val 0 rfl
          have s1 := kS.val 1 rfl
          rcases hP5.cases with ⟨e0, q, hq⟩ | ⟨e0, hq⟩
          · by_cases hlt : i < p.funcs.length
            · have hlt' : (i : Int) < (p.funcs.length : Int) := by omega
              clear hq
              obtain ⟨_, _, hva, _, hel⟩ := (RP.out wr hbel).2
              injection hva with hva1 hva2 hva3
              subst hva1 hva3
              obtain ⟨d, o, hdo, hdB, t1, ⟨u1, t2, r1⟩, ⟨t3, _⟩, ⟨u3, t4, r3⟩, u4, t5, r4⟩ := hel i hlt
              subst hdo
              have hg : p.funcs.getD i fun0 = p.funcs[i] := by simp [List.getD_eq_getElem?_getD, hlt]
              have i1 : (0 : Int) ≤ (i : Int) ∧ (i : Int) < (p.funcs.length : Int) := ⟨by omega, by omega⟩
              have i2 : 0 < p.funcs.length := by omega
              have HF : Hid (ffun p i = funE p.funcs[i]) := by unfold Hid ffun; rw [hg]
              have HLi := Lib.hid (lenE_at (n := p.funcs.length) (most := 16) (M := 7100) (L := 5600) (f := ffun p) HL1.out (by decide) (fun j hj => HFU.out j hj) i hi)
              have HE : Hid (andE (andE (cntE R1 p.funcs.length 16) (seqE (ffun p) i)) (ffun p i) = andE (cntE R1 p.funcs.length 16) (seqE (ffun p) (i + 1))) := by unfold Hid; rw [seqE, andE_assoc]
              clear hel hg
              generalize p.funcs[i] = fn at *
              generalize andE (cntE R1 p.funcs.length 16) (seqE (ffun p) i) = ri at *
              have hR1v := Lib.hid (fun W (hb : Below S wr W) => r1.keep hb fun _ _ _ e r => r.keep hb e)
              have hR3v := Lib.hid (fun W (hb : Below S wr W) => r3.keep hb fun _ _ _ e r => r.keep hb e)
              have hR4v := Lib.hid (fun W (hb : Below S wr W) => r4.keep hb fun _ _ _ e r => r.keep hb e)
              have hck := Lib.hid (codeOk_of r4)
              obtain ⟨fa1, fc1, hf1⟩ := rd_shape r1
              obtain ⟨fa3, fc3, hf3⟩ := rd_shape r3
              obtain ⟨fa4, fc4, hf4⟩ := rd_shape r4
              subst hf1 hf3 hf4
              clear r1 r3 r4
              have bC : Below wr.heap.size wr (wr.alloc (.cells #[.string fn.name, .slice fa1 fn.params.length fc1, .int .i64 fn.result, .slice fa3 fn.locals.length fc3, .slice fa4 fn.code.length fc4] 54)) := (Below.refl _ _).alloc (Nat.le_refl _) _
              have hPC := hP5.add bC (m := wr.heap.size) (Nat.le_refl _) (by simp)
              have kC : Blk (wr.alloc (.cells #[.string fn.name, .slice fa1 fn.params.length fc1, .int .i64 fn.result, .slice fa3 fn.locals.length fc3, .slice fa4 fn.code.length fc4] 54)) wr.heap.size #[.string fn.name, .slice fa1 fn.params.length fc1, .int .i64 fn.result, .slice fa3 fn.locals.length fc3, .slice fa4 fn.code.length fc4] 54 := Blk.new _ _ _
              have lS := kS.lt
              have l0 := k0.lt
              have kSa := kS.grew bC
              have k0a := k0.grew bC
              have z0 := kC.val 0 rfl
              have hbw := hbel.trans (bC.mono hbsz)
              have HBr := Lib.hid (bC.mono hbsz)
              have TX := Lib.hid (rtext_any false _ S _ _ ri fn.name hPC (lenE_mono HLi.out (by decide)))
              have hC1 : wr.heap.size ≠ S + 1 + 1 := by omega
              have hC0 : wr.heap.size ≠ S := by omega
              have hbs2 : S ≤ (wr.alloc (.cells #[.string fn.name, .slice fa1 fn.params.length fc1, .int .i64 fn.result, .slice fa3 fn.locals.length fc3, .slice fa4 fn.code.length fc4] 54)).heap.size := by simp; omega
              clear hP5 hPC kS k0 hbel hbsz bC
              go_wp2_with fail
              clear y0 y1 s0 s1 t1 t2 t3 t4 t5 z0
              generalize World.alloc wr _ = Wc at *
              generalize hCC : wr.heap.size = C at *
              clear hCC
              have hbel := hbw
              have hbsz := hbs2
              have kS := kSa
              have k0 := k0a
              have hP5 := trivial
              clear hbw hbs2 kSa k0a
              refine (TX.out).mono ?_
              rintro e9 w22 ⟨vv', rfl, hP, hT⟩
              have qS := hT.kept kS (.inr (.inl rfl))
              have q0 := hT.kept k0 (.inr (.inr rfl))
              have qC := hT.kept kC (.inl rfl)
              have HPx := Lib.hid hP
              obtain ⟨⟨a6, n6, c6, x6, rfl, _⟩, _, _⟩ := hP
              have g0 := qS.val 0 rfl
              have g1 := qS.val 1 rfl
              have f0 := qS.frozen 0
              have f1 := qS.frozen 1
              have hTT := hT.below hbsz
              obtain ⟨hP7, kS7, hT7⟩ := part_store HPx.out (.inr (.inl rfl)) qS rfl rfl
              have k07 := q0.touch hT7 (by omega)
              have kC7 := qC.touch hT7 (by omega)
              have hb7 := (hbel.trans (hT.below hbsz)).trans (touch_below hT7 (by omega) (Nat.le_trans hbsz hT.size))
              have hTTs := touch_below hT7 (show S ≤ S + 1 + 1 by omega) (Nat.le_trans hbsz hT.size)
              have hz7 := Nat.le_trans (Nat.le_trans hbsz hT.size) hT7.size
              clear hT kS k0 hbel qS q0 hP5 hT7 hbsz qC kC
              clear TX
              have xx := kC7.val 1 rfl
              have HBr7 := Lib.hid (HBr.out.trans ((hTT).trans hTTs))
              clear hTT hTTs HBr
              have HBr := HBr7
              clear HBr7
              have hL7 := lenE_and HLi.out (lenE_name fn.name)
              have KA := Lib.hid (rkinds_any false _ S _ _ _ _ fn.params 6 hP7 (hR1v.out _ HBr.out) (by decide) (lenE_mono hL7 (by decide)))
              have HL7 := Lib.hid hL7
              clear hL7
              go_wp2_with fail
              clear g0 g1 f0 f1 xx
              generalize World.setCell (World.setCell w22 _ _) _ _ = W23 at *
              have kS := kS7
              have k0 := k07
              have kC := kC7
              have hP5 := hP7
              have hbel := hb7
              have hbsz := hz7
              clear kS7 k07 kC7 hP7 hb7 hz7
              refine (KA.out).mono ?_
              rintro e9 w24 ⟨vv', rfl, hP, hT⟩
              have qS := hT.kept kS (.inr (.inl rfl))
              have q0 := hT.kept k0 (.inr (.inr rfl))
              have qC := hT.kept kC (.inl rfl)
              have HPx := Lib.hid hP
              obtain ⟨⟨a6, n6, c6, x6, rfl, _⟩, _, _⟩ := hP
              have g0 := qS.val 0 rfl
              have g1 := qS.val 1 rfl
              have f0 := qS.frozen 0
              have f1 := qS.frozen 1
              have hTT := hT.below hbsz
              obtain ⟨hP7, kS7, hT7⟩ := part_store HPx.out (.inr (.inl rfl)) qS rfl rfl
              have k07 := q0.touch hT7 (by omega)
              have kC7 := qC.touch hT7 (by omega)
              have hb7 := (hbel.trans (hT.below hbsz)).trans (touch_below hT7 (by omega) (Nat.le_trans hbsz hT.size))
              have hTTs := touch_below hT7 (show S ≤ S + 1 + 1 by omega) (Nat.le_trans hbsz hT.size)
              have hz7 := Nat.le_trans (Nat.le_trans hbsz hT.size) hT7.size
              clear hT kS k0 hbel qS q0 hP5 hT7 hbsz qC kC
              clear KA
              have xx := kC7.val 2 rfl
              have HBr7 := Lib.hid (HBr.out.trans ((hTT).trans hTTs))
              clear hTT hTTs HBr
              have HBr := HBr7
              clear HBr7
              have hL7 := lenE_and HL7.out (lenE_kinds fn.params 6 (by decide))
              have KB := Lib.hid (rkind_any false _ S _ _ _ fn.result hP7 (lenE_mono hL7 (by decide)))
              have HL7b := Lib.hid hL7
              clear hL7
              go_wp2_with fail
              clear g0 g1 f0 f1 xx
              generalize World.setCell (World.setCell w24 _ _) _ _ = W25 at *
              have kS := kS7
              have k0 := k07
              have kC := kC7
              have hP5 := hP7
              have hbel := hb7
              have hbsz := hz7
              clear kS7 k07 kC7 hP7 hb7 hz7
              refine (KB.out).mono ?_
              rintro e9 w26 ⟨vv', rfl, hP, hT⟩
              have qS := hT.kept kS (.inr (.inl rfl))
              have q0 := hT.kept k0 (.inr (.inr rfl))
              have qC := hT.kept kC (.inl rfl)
              have HPx := Lib.hid hP
              obtain ⟨⟨a6, n6, c6, x6, rfl, _⟩, _, _⟩ := hP
              have g0 := qS.val 0 rfl
              have g1 := qS.val 1 rfl
              have f0 := qS.frozen 0
              have f1 := qS.frozen 1
              have hTT := hT.below hbsz
              obtain ⟨hP7, kS7, hT7⟩ := part_store HPx.out (.inr (.inl rfl)) qS rfl rfl
              have k07 := q0.touch hT7 (by omega)
              have kC7 := qC.touch hT7 (by omega)
              have hb7 := (hbel.trans (hT.below hbsz)).trans (touch_below hT7 (by omega) (Nat.le_trans hbsz hT.size))
              have hTTs := touch_below hT7 (show S ≤ S + 1 + 1 by omega) (Nat.le_trans hbsz hT.size)
              have hz7 := Nat.le_trans (Nat.le_trans hbsz hT.size) hT7.size
              clear hT kS k0 hbel qS q0 hP5 hT7 hbsz qC kC
              clear KB
              have xx := kC7.val 3 rfl
              have HBr7 := Lib.hid (HBr.out.trans ((hTT).trans hTTs))
              clear hTT hTTs HBr
              have HBr := HBr7
              clear HBr7
              have hL7 := lenE_and HL7b.out (lenE_kind fn.result)
              have KD := Lib.hid (rkinds_any false _ S _ _ _ _ fn.locals 16 hP7 (hR3v.out _ HBr.out) (by decide) (lenE_mono hL7 (by decide)))
              have HL7c := Lib.hid hL7
              clear hL7
              go_wp2_with fail
              clear g0 g1 f0 f1 xx
              generalize World.setCell (World.setCell w26 _ _) _ _ = W27 at *
              have kS := kS7
              have k0 := k07
              have kC := kC7
              have hP5 := hP7
              have hbel := hb7
              have hbsz := hz7
              clear kS7 k07 kC7 hP7 hb7 hz7
              refine (KD.out).mono ?_
              rintro e9 w28 ⟨vv', rfl, hP, hT⟩
              have qS := hT.kept kS (.inr (.inl rfl))
              have q0 := hT.kept k0 (.inr (.inr rfl))
              have qC := hT.kept kC (.inl rfl)
              have HPx := Lib.hid hP
              obtain ⟨⟨a6, n6, c6, x6, rfl, _⟩, _, _⟩ := hP
              have g0 := qS.val 0 rfl
              have g1 := qS.val 1 rfl
              have f0 := qS.frozen 0
              have f1 := qS.frozen 1
              have hTT := hT.below hbsz
              obtain ⟨hP7, kS7, hT7⟩ := part_store HPx.out (.inr (.inl rfl)) qS rfl rfl
              have k07 := q0.touch hT7 (by omega)
              have kC7 := qC.touch hT7 (by omega)
              have hb7 := (hbel.trans (hT.below hbsz)).trans (touch_below hT7 (by omega) (Nat.le_trans hbsz hT.size))
              have hTTs := touch_below hT7 (show S ≤ S + 1 + 1 by omega) (Nat.le_trans hbsz hT.size)
              have hz7 := Nat.le_trans (Nat.le_trans hbsz hT.size) hT7.size
              clear hT kS k0 hbel qS q0 hP5 hT7 hbsz qC kC
              clear KD
              have xx := kC7.val 4 rfl
              have HBr7 := Lib.hid (HBr.out.trans ((hTT).trans hTTs))
              clear hTT hTTs HBr
              have HBr := HBr7
              clear HBr7
              have hL7 := lenE_mono (lenE_and HL7c.out (lenE_kinds fn.locals 16 (by decide))) (show _ ≤ 200000 by decide)
              have CX := Lib.hid (rcount_any false _ S _ _ _ fn.code.length 256 hP7 (by decide) (lenE_mono hL7 (by decide)))
              have HL7d := Lib.hid hL7
              clear hL7
              go_wp2_with fail
              clear g0 g1 f0 f1 xx
              generalize World.setCell (World.setCell w28 _ _) _ _ = W29 at *
              have kS := kS7
              have k0 := k07
              have kC := kC7
              have hP5 := hP7
              have hbel := hb7
              have hbsz := hz7
              clear kS7 k07 kC7 hP7 hb7 hz7
              generalize hra : andE (andE (andE (andE ri (nameE fn.name)) (kindsE fn.params 6)) (kindE fn.result)) (kindsE fn.locals 16) = ra at *
              have HRA := Lib.hid hra
              clear hra
              refine (CX.out).mono ?_
              rintro e9 w30 ⟨vv', rfl, hP, hT⟩
              have qS := hT.kept kS (.inr (.inl rfl))
              have q0 := hT.kept k0 (.inr (.inr rfl))
              have qC := hT.kept kC (.inl rfl)
              have HPx := Lib.hid hP
              obtain ⟨⟨a6, n6, c6, x6, rfl, _⟩, _, _⟩ := hP
              have g0 := qS.val 0 rfl
              have g1 := qS.val 1 rfl
              have f0 := qS.frozen 0
              have f1 := qS.frozen 1
              have hTT := hT.below hbsz
              obtain ⟨hP7, kS7, hT7⟩ := part_store HPx.out (.inr (.inl rfl)) qS rfl rfl
              have k07 := q0.touch hT7 (by omega)
              have kC7 := qC.touch hT7 (by omega)
              have hb7 := (hbel.trans (hT.below hbsz)).trans (touch_below hT7 (by omega) (Nat.le_trans hbsz hT.size))
              have hTTs := touch_below hT7 (show S ≤ S + 1 + 1 by omega) (Nat.le_trans hbsz hT.size)
              have hz7 := Nat.le_trans (Nat.le_trans hbsz hT.size) hT7.size
              clear hT kS k0 hbel qS q0 hP5 hT7 hbsz qC kC
              clear CX
              have HBr8 := Lib.hid (HBr.out.trans ((hTT).trans hTTs))
              clear hTT hTTs HBr
              have hmxc : fn.code.length ≤ maxLen := by obtain ⟨_, _, _, q, _⟩ := hR4v.out _ HBr8.out; exact q
              unfold maxLen at hmxc
              go_wp2
              clear g0 g1 f0 f1
              generalize World.setCell (World.setCell w30 _ _) _ _ = W31 at *
              have HB0 : andE (cntE ra fn.code.length 256) (seqE (fins fn) 0) = andE ra (if 256 < fn.code.length then Except.error 3 else Except.ok (numB fn.code.length)) := by rw [seqE, andE_nil]; rfl
              rw [← HB0] at hP7
              clear HB0
              generalize wr = wq at *
              go_loopw [10] (fun x wr => ∃ (k : Nat) (a : Option Addr) (n c : Nat) (e : Int), k ≤ fn.code.length ∧ x = .int .i64 k ∧ PartV false wr S (fun x => x = C ∨ (x = S + 1 + 1 ∨ x = S)) (.agg #[.slice a n c, .int .i64 e]) (andE (cntE ra fn.code.length 256) (seqE (fins fn) k)) ∧ Blk wr (S + 1 + 1) #[.slice a n c, .int .i64 e] 66 ∧ Blk wr S #[.slice a1 p.classes.length p1, .slice (some ⟨d, o, none⟩) p.funcs.length p2] 29 ∧ Blk wr C #[.string fn.name, .slice fa1 fn.params.length fc1, .int .i64 fn.result, .slice fa3 fn.locals.length fc3, .slice fa4 fn.code.length fc4] 54 ∧ Below S w wr ∧ Below S wq wr) (fun x _ => fn.code.length - (intOf x).toNat)
              case atStart => exact ⟨0, _, _, _, _, by omega, rfl, hP7, kS7, k07, kC7, hb7, HBr8.out⟩
              case round =>
                clear hP7 kS7 k07 kC7 hb7 hz7 HBr8
                obtain ⟨k, a5, n5, c5, e5, hk, rfl, hP5, kS, k0, kC, hbel, hbr⟩ := hrel
                have hbsz := hP5.bw
                have x4 := kC.val 4 rfl
                have s0 := kS.val 0 rfl
                have s1 := kS.val 1 rfl
                rcases hP5.cases with ⟨e0, q2, hq⟩ | ⟨e0, hq⟩
                · by_cases hltk : k < fn.code.length
                  · have hltk' : (k : Int) < (fn.code.length : Int) := by omega
                    obtain ⟨_, _, hva, _, hel⟩ := hR4v.out wr hbr
                    injection hva with hva1 hva2 hva3
                    subst hva1 hva3
                    obtain ⟨d2, o2, hdo, hdB2, t1, t2, t3, _, iy, iz⟩ := hel k hltk
                    subst hdo
                    have hg : fn.code.getD k ins0 = fn.code[k] := by simp [List.getD_eq_getElem?_getD, hltk]
                    have j1 : (0 : Int) ≤ (k : Int) ∧ (k : Int) < (fn.code.length : Int) := ⟨by omega, by omega⟩
                    have j2 : 0 < fn.code.length := by omega
                    have HFk : Hid (fins fn k = insE fn.code[k]) := by unfold Hid fins; rw [hg]
                    have HLk := Lib.hid (lenE_at (n := fn.code.length) (most := 256) (L := 21) (f := fins fn) HL7d.out (by decide) (fun j hj => lenE_ins _ (hck.out j hj)) k hk)
                    have HEk : Hid (andE (andE (cntE ra fn.code.length 256) (seqE (fins fn) k)) (fins fn k) = andE (cntE ra fn.code.length 256) (seqE (fins fn) (k + 1))) := by unfold Hid; rw [seqE, andE_assoc]
                    clear hel hg hq
                    generalize fn.code[k] = ii at *
                    generalize andE (cntE ra fn.code.length 256) (seqE (fins fn) k) = rk at *
                    have IX := Lib.hid (rins_any false wr.drew S _ _ rk ii (hP5.grew (Below.refl _ _).drew) iy iz (lenE_mono HLk.out (by decide)))
                    have QB : Below S wr wr.drew := (Below.refl _ _).drew
                    have kSd := kS.drew
                    have k0d := k0.drew
                    have kCd := kC.drew
                    have hbeld := hbel.trans QB
                    have hbrd := Lib.hid (hbr.trans QB)
                    have hbszd : S ≤ wr.drew.heap.size := hbsz
                    obtain ⟨iop, ia, ib⟩ := ii
                    go_wp2_with fail
                    go_still_tail 6, (by kernel_rfl)
                    change wpList _ _ _ _ _ wr.drew
                    clear t1 t2 t3 kS k0 kC hbel hbr hbsz QB x4 s0 s1 hP5 iy iz
                    generalize wr.drew = wd at *
                    have kS := kSd
                    have k0 := k0d
                    have kC := kCd
                    have hbel := hbeld
                    have hbsz := hbszd
                    have hP5 := trivial
                    clear kSd k0d kCd hbeld hbszd
                    go_wp2_with fail
                    refine (IX.out).mono ?_
                    rintro e9 w32 ⟨vv', rfl, hP, hT⟩
                    have qS := hT.kept kS (.inr (.inl rfl))
                    have q0 := hT.kept k0 (.inr (.inr rfl))
                    have qC := hT.kept kC (.inl rfl)
                    have HPx := Lib.hid hP
                    obtain ⟨⟨a6, n6, c6, x6, rfl, _⟩, _, _⟩ := hP
                    have g0 := qS.val 0 rfl
                    have g1 := qS.val 1 rfl
                    have f0 := qS.frozen 0
                    have f1 := qS.frozen 1
                    have hTT := hT.below hbsz
                    obtain ⟨hP7, kS7, hT7⟩ := part_store HPx.out (.inr (.inl rfl)) qS rfl rfl
                    have k07 := q0.touch hT7 (by omega)
                    have kC7 := qC.touch hT7 (by omega)
                    have hb7 := (hbel.trans (hT.below hbsz)).trans (touch_below hT7 (by omega) (Nat.le_trans hbsz hT.size))
                    have hTTs := touch_below hT7 (show S ≤ S + 1 + 1 by omega) (Nat.le_trans hbsz hT.size)
                    have hz7 := Nat.le_trans (Nat.le_trans hbsz hT.size) hT7.size
                    clear hT kS k0 hbel qS q0 hP5 hT7 hbsz qC kC
                    clear IX
                    have HBw := (hTT).trans hTTs
                    have hbr7 := hbrd.out.trans HBw
                    clear hTT hTTs hbrd HBw
                    have hEq : andE rk (insE ⟨iop, ia, ib⟩) = andE (cntE ra fn.code.length 256) (seqE (fins fn) (k + 1)) := by rw [← HEk.out, HFk.out]
                    rw [hEq] at hP7
                    clear hEq
                    go_wp2
                    go_roundw
                    case rel => exact ⟨k + 1, _, _, _, _, by omega, by go_num, hP7, kS7, k07, kC7, hb7, hbr7⟩
                    case measure => simp [intOf]; omega
                  · have hltk' : ¬ (k : Int) < (fn.code.length : Int) := by omega
                    obtain rfl : k = fn.code.length := by omega
                    clear hq
                    have hP8 : PartV false wr S (fun x => x = S + 1 + 1 ∨ x = S) (.agg #[.slice a5 n5 c5, .int .i64 e5]) (andE (cntE R1 p.funcs.length 16) (seqE (ffun p) (i + 1))) := by
                      have e : andE (cntE ra fn.code.length 256) (seqE (fins fn) fn.code.length) = andE (cntE R1 p.funcs.length 16) (seqE (ffun p) (i + 1)) := by rw [← HRA.out, fun_step, ← HE.out, HF.out]
                      rw [← e]
                      exact hP5.sub fun x hx => .inr hx
                    go_wp2
                    go_roundw
                    case rel => exact ⟨i + 1, _, _, _, _, by omega, by go_num, hP8, kS, k0, hbel⟩
                    case measure => simp [intOf]; omega
                · have HQk := Lib.hid hq
                  clear hq
                  have hP8 : PartV false wr S (fun x => x = S + 1 + 1 ∨ x = S) (.agg #[.slice a5 n5 c5, .int .i64 e5]) (andE (cntE R1 p.funcs.length 16) (seqE (ffun p) (i + 1))) := by
                    have e : andE (cntE R1 p.funcs.length 16) (seqE (ffun p) (i + 1)) = .error e5 := by
                      rw [← HE.out, HF.out, ← fun_step, HRA.out]
                      exact andE_seq_err HQk.out _ hk
                    rw [e, ← HQk.out]
                    exact hP5.sub fun x hx => .inr hx
                  by_cases hltk : k < fn.code.length
                  all_goals
                    first | (have hltk' : (k : Int) < (fn.code.length : Int) := by omega) | (have hltk' : ¬ (k : Int) < (fn.code.length : Int) := by omega)
                    go_wp2
                    go_roundw
                    case rel => exact ⟨i + 1, _, _, _, _, by omega, by go_num, hP8, kS, k0, hbel⟩
                    case measure => simp [intOf]; omega
            · have hlt' : ¬ (i : Int) < (p.funcs.length : Int) := by omega
              obtain rfl : i = p.funcs.length := by omega
              obtain ⟨⟨a8, n8, c8, e8, q1, q2⟩, _⟩ := id hP5
              rw [hq] at q2
              injection q1 with q1
              obtain ⟨q3, q4⟩ : (Value.slice a5 n5 c5 = .slice a8 n8 c8) ∧ e5 = e8 := by
                have h1 := congrArg (fun z => z[0]?) q1
                have h2 := congrArg (fun z => z[1]?) q1
                exact ⟨by simpa using h1, by simpa using h2⟩
              obtain ⟨q5, q6⟩ := q2
              subst q4 q5
              rw [← q3] at q6
              have hO : wr.ownsRow S 5 1 (.slice a5 n5 c5) q.length (u8L q) := by
                rcases q6 with h6 | h6
                · exact h6.1
                · exact absurd h6.1 (by decide)
              have HM : Hid (encE p = .ok q) := by unfold Hid; rw [← renc_res, HR1.out]; exact hq
              have HO := Lib.hid hO
              have HBel := Lib.hid hbel
              clear hO q1 q3 q6 hq hP5 hbel
              go_wp2
              go_ret2
              refine ⟨?_, by rw [HS.out]; exact HBel.out⟩
              rw [HM.out, HS.out]
              exact ⟨_, rfl, HO.out⟩
          · have HM : Hid (encE p = .error e5) := by unfold Hid; rw [← renc_res, HR1.out]; exact andE_seq_err hq _ hi
            have e1 : (e5 != 0) = true := by simpa using e0
            have HN : Hid (e5 ≠ 0) := by unfold Hid; simpa using e0
            have HBel := Lib.hid hbel
            clear hq hP5 hbel
            by_cases hlt : i < p.funcs.length
            all_goals
              first | (have hlt' : (i : Int) < (p.funcs.length : Int) := by omega) | (have hlt' : ¬ (i : Int) < (p.funcs.length : Int) := by omega)
              go_wp2
              go_quiet (fail)
              go_wp2
              go_ret2
              refine ⟨?_, by rw [HS.out]; exact below_drewN HBel.out _⟩
              rw [HM.out]
              exact ⟨HN.out, rfl⟩
end Go.Proofs.Ytecpokegmfnlaaa
