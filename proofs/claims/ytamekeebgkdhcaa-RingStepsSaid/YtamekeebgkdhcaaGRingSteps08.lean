/- Texts of this seat, one behind the other: each says at its head what it holds. No condition of its own. -/
import Derived.Deep.RegionHeld3
import Derived.Test.YtamekeebgkdhcaaGRingSteps04
import Derived.Test.YtamekeebgkdhcaaGRingSteps06
import Derived.Test.YtamekeebgkdhcaaGRingSteps07
/- What a push asks of a tape, by the document. Condition: what was answered are words. -/
namespace Go.Proofs.Ytamekeebgkdhcaa
open Go.RowKit
set_option linter.unusedVariables false
def pushR (R t v : Int) (tp : Tp) : (Bool × Bool) × Tp :=
  if ((tp.ask 1 (ringC R t 4) 0 0).2.ask 1 (ringC R t 3) 0 0).2.st then ((false, false), ((tp.ask 1 (ringC R t 4) 0 0).2.ask 1 (ringC R t 3) 0 0).2) else
  if R ≤ IntKind.u64.wrap ((tp.ask 1 (ringC R t 4) 0 0).1 - ((tp.ask 1 (ringC R t 4) 0 0).2.ask 1 (ringC R t 3) 0 0).1) then ((true, true), ((tp.ask 1 (ringC R t 4) 0 0).2.ask 1 (ringC R t 3) 0 0).2) else
  ((!((((tp.ask 1 (ringC R t 4) 0 0).2.ask 1 (ringC R t 3) 0 0).2.ask 2 (ringC R t (5 + (tp.ask 1 (ringC R t 4) 0 0).1 % R)) 0 v).2.ask 2 (ringC R t 4) 0 (IntKind.u64.wrap ((tp.ask 1 (ringC R t 4) 0 0).1 + 1))).2.st, false),
    ((((tp.ask 1 (ringC R t 4) 0 0).2.ask 1 (ringC R t 3) 0 0).2.ask 2 (ringC R t (5 + (tp.ask 1 (ringC R t 4) 0 0).1 % R)) 0 v).2.ask 2 (ringC R t 4) 0 (IntKind.u64.wrap ((tp.ask 1 (ringC R t 4) 0 0).1 + 1))).2)
theorem ask_H (tp : Tp) (k a wn p : Int) : (tp.ask k a wn p).2.H = tp.H := by
  unfold Tp.ask
  by_cases h : tp.st = true
  · rw [if_pos h]
  · rw [if_neg h]
    by_cases h2 : tp.pos < tp.H.length
    · rw [if_pos h2]
    · rw [if_neg h2]
theorem ask_U {tp : Tp} (hU : ∀ z ∈ tp.H, U64 z) (k a wn p : Int) : U64 (tp.ask k a wn p).1 := by
  unfold Tp.ask
  by_cases h : tp.st = true
  · rw [if_pos h]; show U64 0; exact ⟨by decide, by decide⟩
  · rw [if_neg h]
    by_cases h2 : tp.pos < tp.H.length
    · rw [if_pos h2]
      refine hU _ ?_
      simp [List.getD_eq_getElem?_getD, h2]
    · rw [if_neg h2]; show U64 0; exact ⟨by decide, by decide⟩
theorem TapeAt.stop {w : World} {B x : Nat} {hv : Value} {t : Tp} (h : TapeAt w B x hv t) : w.cell? ⟨x, 9, none⟩ = some (.bool t.st) := h.own.val 9 rfl
structure TpW (w : World) (B x : Nat) (hv : Value) (ob : Nat) (cs : Array Value) (ty : TypeId) (tp : Tp) (W : World) : Prop where
  tape : TapeAt W B x hv tp
  box : Blk W ob cs ty
  tch : Touch (fun b => b = x) w W
  ne : ob ≠ x
section
variable {w W W' : World} {B x : Nat} {hv : Value} {ob : Nat} {cs : Array Value} {ty : TypeId} {tp tp' : Tp}
theorem TpW.below (h : TpW w B x hv ob cs ty tp W) (hb : Below W.heap.size W W') : TpW w B x hv ob cs ty tp W' :=
  ⟨h.tape.touch (R := fun _ => False) (.of hb) (fun e => e) (fun _ _ e => e), Blk.grew h.box hb, h.tch.trans (.of hb), h.ne⟩
theorem TpW.asked (h : TpW w B x hv ob cs ty tp W) (h1 : TapeAt W' B x hv tp') (h2 : Touch (· = x) W W') : TpW w B x hv ob cs ty tp' W' :=
  ⟨h1, Blk.touch h.box h2 h.ne, h.tch.trans h2, h.ne⟩
end
set_option maxRecDepth 100000 in
set_option maxHeartbeats 2000000 in
theorem rpush_any {B x : Nat} {hv : Value} {tp : Tp} {w : World} (P T R b1 b2 b3 t v : Int) (hT : TapeAt w B x hv tp) (hm : tp.H.length ≤ 1000000) (hU : ∀ z ∈ tp.H, U64 z) (hR : 1 ≤ R ∧ R ≤ 16) (ht : 0 ≤ t ∧ t ≤ 5) :
    Calls Try.prog 31 #[.pointer (some ⟨x, 0, none⟩), .agg #[.int .i64 P, .int .i64 T, .int .i64 R, .int .i64 b1, .int .i64 b2, .int .i64 b3], .int .i64 t, .int .u64 v] w fun e w' =>
      e = .returned (.tuple #[.bool (pushR R t v tp).1.1, .bool (pushR R t v tp).1.2]) ∧ TapeAt w' B x hv (pushR R t v tp).2 ∧ Touch (fun b => b = x) w w' := by
  have hMT := Lib.hid (fun W => mtail_any P T R b1 b2 b3 t W hR ht)
  have hMH := Lib.hid (fun W => mhead_any P T R b1 b2 b3 t W hR ht)
  have hMS := Lib.hid (fun n hn W => mslot_any P T R b1 b2 b3 t n W hn hR ht)
  have hx := Blk.lt hT.own
  have h0 : TpW w B x hv w.heap.size #[.int .i64 P, .int .i64 T, .int .i64 R, .int .i64 b1, .int .i64 b2, .int .i64 b3] 38 tp (w.alloc (.cells #[.int .i64 P, .int .i64 T, .int .i64 R, .int .i64 b1, .int .i64 b2, .int .i64 b3] 38)) :=
    ⟨hT.touch (R := fun _ => False) ((Touch.refl _ _).alloc _) (fun e => e) (fun _ _ e => e), Blk.new _ _ _, (Touch.refl _ _).alloc _, by omega⟩
  obtain ⟨r1, hr1⟩ : ∃ r, tp.ask 1 (ringC R t 4) 0 0 = r := ⟨_, rfl⟩
  obtain ⟨r2, hr2⟩ : ∃ r, r1.2.ask 1 (ringC R t 3) 0 0 = r := ⟨_, rfl⟩
  have hu1 : U64 r1.1 := hr1 ▸ ask_U hU _ _ _ _
  have hH1 : r1.2.H = tp.H := hr1 ▸ ask_H _ _ _ _ _
  have hH2 : r2.2.H = tp.H := (hr2 ▸ ask_H _ _ _ _ _ : r2.2.H = r1.2.H).trans hH1
  have hP : pushR R t v tp = if r2.2.st then ((false, false), r2.2) else if R ≤ IntKind.u64.wrap (r1.1 - r2.1) then ((true, true), r2.2) else ((!((r2.2.ask 2 (ringC R t (5 + r1.1 % R)) 0 v).2.ask 2 (ringC R t 4) 0 (IntKind.u64.wrap (r1.1 + 1))).2.st, false), ((r2.2.ask 2 (ringC R t (5 + r1.1 % R)) 0 v).2.ask 2 (ringC R t 4) 0 (IntKind.u64.wrap (r1.1 + 1))).2) := by
    unfold pushR; rw [hr1, hr2]
  rw [hP]
  have A1 := Lib.hid (fun W (h : TapeAt W B x hv tp) => (hr1 ▸ tload_any h hm (ringC R t 4) : Calls Try.prog 48 #[.pointer (some ⟨x, 0, none⟩), .int .i64 (ringC R t 4)] W fun e w' => e = .returned (.int .u64 r1.1) ∧ TapeAt w' B x hv r1.2 ∧ Touch (· = x) W w'))
  have A2 := Lib.hid (fun W (h : TapeAt W B x hv r1.2) => (hr2 ▸ tload_any h (by rw [hH1]; exact hm) (ringC R t 3) : Calls Try.prog 48 #[.pointer (some ⟨x, 0, none⟩), .int .i64 (ringC R t 3)] W fun e w' => e = .returned (.int .u64 r2.1) ∧ TapeAt w' B x hv r2.2 ∧ Touch (· = x) W w'))
  have A3 := Lib.hid (fun W a y (h : TapeAt W B x hv r2.2) => tstore_any h (by rw [hH2]; exact hm) a y)
  have A4 := Lib.hid (fun W q a y (hq : q.H = tp.H) (h : TapeAt W B x hv q) => tstore_any h (by rw [hq]; exact hm) a y)
  have HU := Lib.hid (And.intro hu1 hH2)
  have hRw : IntKind.u64.wrap R = R := by rw [IntKind.wrap_u64]; omega
  clear hT hm hU hr1 hr2 hP hH1 hH2 hu1
  by_cases hs : r2.2.st = true
  · rw [if_pos hs]
    go_enter Try.func31, Try.ntmps31
    have hZ := (Blk.six h0.box).1
    go_wp2_with fail
    generalize w.alloc (.cells #[.int .i64 P, .int .i64 T, .int .i64 R, .int .i64 b1, .int .i64 b2, .int .i64 b3] 38) = wa at *
    refine (hMT.out _).mono ?_
    rintro e w1 ⟨rfl, hb1⟩
    have h1 := h0.below hb1
    go_wp2_with fail
    refine (A1.out _ h1.tape).mono ?_
    rintro e w2 ⟨rfl, ht2, hc2⟩
    have h2 := h1.asked ht2 hc2
    have hZ2 := (Blk.six h2.box).1
    clear hZ h0 h1 hb1 ht2 hc2
    go_wp2_with fail
    refine (hMH.out _).mono ?_
    rintro e w3 ⟨rfl, hb3⟩
    have h3 := h2.below hb3
    clear hZ2
    go_wp2_with fail
    refine (A2.out _ h3.tape).mono ?_
    rintro e w4 ⟨rfl, ht4, hc4⟩
    have h4 := h3.asked ht4 hc4
    have hZ4 := (Blk.six h4.box).1
    have hst := h4.tape.stop
    clear h2 h3 hb3 ht4 hc4
    rw [hs] at hst
    go_wp2
    go_ret2
    exact ⟨rfl, h4.tape, h4.tch⟩
  · rw [if_neg hs]
    have hs' : r2.2.st = false := by simpa using hs
    by_cases hf : R ≤ IntKind.u64.wrap (r1.1 - r2.1)
    · rw [if_pos hf]
      go_enter Try.func31, Try.ntmps31
      have hZ := (Blk.six h0.box).1
      go_wp2_with fail
      generalize w.alloc (.cells #[.int .i64 P, .int .i64 T, .int .i64 R, .int .i64 b1, .int .i64 b2, .int .i64 b3] 38) = wa at *
      refine (hMT.out _).mono ?_
      rintro e w1 ⟨rfl, hb1⟩
      have h1 := h0.below hb1
      go_wp2_with fail
      refine (A1.out _ h1.tape).mono ?_
      rintro e w2 ⟨rfl, ht2, hc2⟩
      have h2 := h1.asked ht2 hc2
      have hZ2 := (Blk.six h2.box).1
      clear hZ h0 h1 hb1 ht2 hc2
      go_wp2_with fail
      refine (hMH.out _).mono ?_
      rintro e w3 ⟨rfl, hb3⟩
      have h3 := h2.below hb3
      clear hZ2
      go_wp2_with fail
      refine (A2.out _ h3.tape).mono ?_
      rintro e w4 ⟨rfl, ht4, hc4⟩
      have h4 := h3.asked ht4 hc4
      have hZ4 := (Blk.six h4.box).1
      have hst := h4.tape.stop
      clear h2 h3 hb3 ht4 hc4
      rw [hs'] at hst
      go_wp2
      go_ret2
      exact ⟨rfl, h4.tape, h4.tch⟩
    · rw [if_neg hf]
      go_enter Try.func31, Try.ntmps31
      have hZ := (Blk.six h0.box).1
      go_wp2_with fail
      generalize w.alloc (.cells #[.int .i64 P, .int .i64 T, .int .i64 R, .int .i64 b1, .int .i64 b2, .int .i64 b3] 38) = wa at *
      refine (hMT.out _).mono ?_
      rintro e w1 ⟨rfl, hb1⟩
      have h1 := h0.below hb1
      go_wp2_with fail
      refine (A1.out _ h1.tape).mono ?_
      rintro e w2 ⟨rfl, ht2, hc2⟩
      have h2 := h1.asked ht2 hc2
      have hZ2 := (Blk.six h2.box).1
      clear hZ h0 h1 hb1 ht2 hc2
      go_wp2_with fail
      refine (hMH.out _).mono ?_
      rintro e w3 ⟨rfl, hb3⟩
      have h3 := h2.below hb3
      clear hZ2
      go_wp2_with fail
      refine (A2.out _ h3.tape).mono ?_
      rintro e w4 ⟨rfl, ht4, hc4⟩
      have h4 := h3.asked ht4 hc4
      have hZ4 := (Blk.six h4.box).1
      have hst := h4.tape.stop
      clear h2 h3 hb3 ht4 hc4
      rw [hs'] at hst
      have MS := Lib.hid (hMS.out r1.1 HU.out.1)
      go_wp2_with fail
      refine (MS.out _).mono ?_
      rintro e w5 ⟨rfl, hb5⟩
      have h5 := h4.below hb5
      clear hZ4
      go_wp2_with fail
      refine (A3.out _ _ _ h5.tape).mono ?_
      rintro e w6 ⟨⟨u, rfl⟩, ht6, hc6⟩
      have h6 := h5.asked ht6 hc6
      have hZ6 := (Blk.six h6.box).1
      clear h4 h5 hb5 ht6 hc6
      go_wp2_with fail
      refine (hMT.out _).mono ?_
      rintro e w7 ⟨rfl, hb7⟩
      have h7 := h6.below hb7
      clear hZ6
      go_wp2_with fail
      refine (A4.out _ _ _ _ ((ask_H _ _ _ _ _).trans HU.out.2) h7.tape).mono ?_
      rintro e w8 ⟨⟨u, rfl⟩, ht8, hc8⟩
      have h8 := h7.asked ht8 hc8
      have hst8 := h8.tape.stop
      have H8 := Lib.hid h8
      clear h6 h7 hb7 ht8 hc8 h8
      go_wp2
      go_ret2
      exact ⟨rfl, H8.out.tape, H8.out.tch⟩
end Go.Proofs.Ytamekeebgkdhcaa
/- What a pop asks of a tape, by the document. Condition: what was answered are words. -/
namespace Go.Proofs.Ytamekeebgkdhcaa
open Go.RowKit
set_option linter.unusedVariables false
/-- over, empty, the word; the tape -/
def popR (R t : Int) (tp : Tp) : (Bool × Bool × Int) × Tp :=
  if ((tp.ask 1 (ringC R t 3) 0 0).2.ask 1 (ringC R t 4) 0 0).2.st then ((false, false, 0), ((tp.ask 1 (ringC R t 3) 0 0).2.ask 1 (ringC R t 4) 0 0).2) else
  if (tp.ask 1 (ringC R t 3) 0 0).1 = ((tp.ask 1 (ringC R t 3) 0 0).2.ask 1 (ringC R t 4) 0 0).1 then ((true, true, 0), ((tp.ask 1 (ringC R t 3) 0 0).2.ask 1 (ringC R t 4) 0 0).2) else
  if ((((tp.ask 1 (ringC R t 3) 0 0).2.ask 1 (ringC R t 4) 0 0).2.ask 1 (ringC R t (5 + (tp.ask 1 (ringC R t 3) 0 0).1 % R)) 0 0).2.ask 2 (ringC R t 3) 0 (IntKind.u64.wrap ((tp.ask 1 (ringC R t 3) 0 0).1 + 1))).2.st then
    ((false, false, 0), ((((tp.ask 1 (ringC R t 3) 0 0).2.ask 1 (ringC R t 4) 0 0).2.ask 1 (ringC R t (5 + (tp.ask 1 (ringC R t 3) 0 0).1 % R)) 0 0).2.ask 2 (ringC R t 3) 0 (IntKind.u64.wrap ((tp.ask 1 (ringC R t 3) 0 0).1 + 1))).2) else
  ((true, false, (((tp.ask 1 (ringC R t 3) 0 0).2.ask 1 (ringC R t 4) 0 0).2.ask 1 (ringC R t (5 + (tp.ask 1 (ringC R t 3) 0 0).1 % R)) 0 0).1), ((((tp.ask 1 (ringC R t 3) 0 0).2.ask 1 (ringC R t 4) 0 0).2.ask 1 (ringC R t (5 + (tp.ask 1 (ringC R t 3) 0 0).1 % R)) 0 0).2.ask 2 (ringC R t 3) 0 (IntKind.u64.wrap ((tp.ask 1 (ringC R t 3) 0 0).1 + 1))).2)
set_option maxRecDepth 100000 in
set_option maxHeartbeats 2000000 in
theorem rpop_any {B x : Nat} {hv : Value} {tp : Tp} {w : World} (P T R b1 b2 b3 t : Int) (hT : TapeAt w B x hv tp) (hm : tp.H.length ≤ 1000000) (hU : ∀ z ∈ tp.H, U64 z) (hR : 1 ≤ R ∧ R ≤ 16) (ht : 0 ≤ t ∧ t ≤ 5) :
    Calls Try.prog 37 #[.pointer (some ⟨x, 0, none⟩), .agg #[.int .i64 P, .int .i64 T, .int .i64 R, .int .i64 b1, .int .i64 b2, .int .i64 b3], .int .i64 t] w fun e w' =>
      e = .returned (.tuple #[.bool (popR R t tp).1.1, .bool (popR R t tp).1.2.1, .int .u64 (popR R t tp).1.2.2]) ∧ TapeAt w' B x hv (popR R t tp).2 ∧ Touch (fun b => b = x) w w' := by
  have hMT := Lib.hid (fun W => mtail_any P T R b1 b2 b3 t W hR ht)
  have hMH := Lib.hid (fun W => mhead_any P T R b1 b2 b3 t W hR ht)
  have hMS := Lib.hid (fun n hn W => mslot_any P T R b1 b2 b3 t n W hn hR ht)
  have hx := Blk.lt hT.own
  have h0 : TpW w B x hv w.heap.size #[.int .i64 P, .int .i64 T, .int .i64 R, .int .i64 b1, .int .i64 b2, .int .i64 b3] 38 tp (w.alloc (.cells #[.int .i64 P, .int .i64 T, .int .i64 R, .int .i64 b1, .int .i64 b2, .int .i64 b3] 38)) :=
    ⟨hT.touch (R := fun _ => False) ((Touch.refl _ _).alloc _) (fun e => e) (fun _ _ e => e), Blk.new _ _ _, (Touch.refl _ _).alloc _, by omega⟩
  obtain ⟨r1, hr1⟩ : ∃ r, tp.ask 1 (ringC R t 3) 0 0 = r := ⟨_, rfl⟩
  obtain ⟨r2, hr2⟩ : ∃ r, r1.2.ask 1 (ringC R t 4) 0 0 = r := ⟨_, rfl⟩
  have hu1 : U64 r1.1 := hr1 ▸ ask_U hU _ _ _ _
  have hH1 : r1.2.H = tp.H := hr1 ▸ ask_H _ _ _ _ _
  have hH2 : r2.2.H = tp.H := (hr2 ▸ ask_H _ _ _ _ _ : r2.2.H = r1.2.H).trans hH1
  have hP : popR R t tp = if r2.2.st then ((false, false, 0), r2.2) else if r1.1 = r2.1 then ((true, true, 0), r2.2) else if ((r2.2.ask 1 (ringC R t (5 + r1.1 % R)) 0 0).2.ask 2 (ringC R t 3) 0 (IntKind.u64.wrap (r1.1 + 1))).2.st then ((false, false, 0), ((r2.2.ask 1 (ringC R t (5 + r1.1 % R)) 0 0).2.ask 2 (ringC R t 3) 0 (IntKind.u64.wrap (r1.1 + 1))).2) else ((true, false, (r2.2.ask 1 (ringC R t (5 + r1.1 % R)) 0 0).1), ((r2.2.ask 1 (ringC R t (5 + r1.1 % R)) 0 0).2.ask 2 (ringC R t 3) 0 (IntKind.u64.wrap (r1.1 + 1))).2) := by
    unfold popR; rw [hr1, hr2]
  rw [hP]
  have A1 := Lib.hid (fun W (h : TapeAt W B x hv tp) => (hr1 ▸ tload_any h hm (ringC R t 3) : Calls Try.prog 48 #[.pointer (some ⟨x, 0, none⟩), .int .i64 (ringC R t 3)] W fun e w' => e = .returned (.int .u64 r1.1) ∧ TapeAt w' B x hv r1.2 ∧ Touch (· = x) W w'))
  have A2 := Lib.hid (fun W (h : TapeAt W B x hv r1.2) => (hr2 ▸ tload_any h (by rw [hH1]; exact hm) (ringC R t 4) : Calls Try.prog 48 #[.pointer (some ⟨x, 0, none⟩), .int .i64 (ringC R t 4)] W fun e w' => e = .returned (.int .u64 r2.1) ∧ TapeAt w' B x hv r2.2 ∧ Touch (· = x) W w'))
  obtain ⟨r3, hr3⟩ : ∃ r, r2.2.ask 1 (ringC R t (5 + r1.1 % R)) 0 0 = r := ⟨_, rfl⟩
  have hH3 : r3.2.H = tp.H := (hr3 ▸ ask_H _ _ _ _ _ : r3.2.H = r2.2.H).trans hH2
  have A3 := Lib.hid (fun W (h : TapeAt W B x hv r2.2) => (hr3 ▸ tload_any h (by rw [hH2]; exact hm) (ringC R t (5 + r1.1 % R)) : Calls Try.prog 48 #[.pointer (some ⟨x, 0, none⟩), .int .i64 (ringC R t (5 + r1.1 % R))] W fun e w' => e = .returned (.int .u64 r3.1) ∧ TapeAt w' B x hv r3.2 ∧ Touch (· = x) W w'))
  rw [hr3]
  have A4 := Lib.hid (fun W q a y (hq : q.H = tp.H) (h : TapeAt W B x hv q) => tstore_any h (by rw [hq]; exact hm) a y)
  have HU := Lib.hid (And.intro hu1 hH3)
  have hRw : IntKind.u64.wrap R = R := by rw [IntKind.wrap_u64]; omega
  clear hT hm hU hr1 hr2 hr3 hP hH1 hH2 hH3 hu1
  by_cases hs : r2.2.st = true
  · rw [if_pos hs]
    go_enter Try.func37, Try.ntmps37
    have hZ := (Blk.six h0.box).1
    go_wp2_with fail
    generalize w.alloc (.cells #[.int .i64 P, .int .i64 T, .int .i64 R, .int .i64 b1, .int .i64 b2, .int .i64 b3] 38) = wa at *
    refine (hMH.out _).mono ?_
    rintro e w1 ⟨rfl, hb1⟩
    have h1 := h0.below hb1
    go_wp2_with fail
    refine (A1.out _ h1.tape).mono ?_
    rintro e w2 ⟨rfl, ht2, hc2⟩
    have h2 := h1.asked ht2 hc2
    have hZ2 := (Blk.six h2.box).1
    clear hZ h0 h1 hb1 ht2 hc2
    go_wp2_with fail
    refine (hMT.out _).mono ?_
    rintro e w3 ⟨rfl, hb3⟩
    have h3 := h2.below hb3
    clear hZ2
    go_wp2_with fail
    refine (A2.out _ h3.tape).mono ?_
    rintro e w4 ⟨rfl, ht4, hc4⟩
    have h4 := h3.asked ht4 hc4
    have hZ4 := (Blk.six h4.box).1
    have hst := h4.tape.stop
    clear h2 h3 hb3 ht4 hc4
    rw [hs] at hst
    go_wp2
    go_ret3
    exact ⟨rfl, h4.tape, h4.tch⟩
  · rw [if_neg hs]
    have hs' : r2.2.st = false := by simpa using hs
    by_cases hf : r1.1 = r2.1
    · rw [if_pos hf]
      have hf2 : (r1.1 == r2.1) = true := by simpa using hf
      clear hf
      go_enter Try.func37, Try.ntmps37
      have hZ := (Blk.six h0.box).1
      go_wp2_with fail
      generalize w.alloc (.cells #[.int .i64 P, .int .i64 T, .int .i64 R, .int .i64 b1, .int .i64 b2, .int .i64 b3] 38) = wa at *
      refine (hMH.out _).mono ?_
      rintro e w1 ⟨rfl, hb1⟩
      have h1 := h0.below hb1
      go_wp2_with fail
      refine (A1.out _ h1.tape).mono ?_
      rintro e w2 ⟨rfl, ht2, hc2⟩
      have h2 := h1.asked ht2 hc2
      have hZ2 := (Blk.six h2.box).1
      clear hZ h0 h1 hb1 ht2 hc2
      go_wp2_with fail
      refine (hMT.out _).mono ?_
      rintro e w3 ⟨rfl, hb3⟩
      have h3 := h2.below hb3
      clear hZ2
      go_wp2_with fail
      refine (A2.out _ h3.tape).mono ?_
      rintro e w4 ⟨rfl, ht4, hc4⟩
      have h4 := h3.asked ht4 hc4
      have hZ4 := (Blk.six h4.box).1
      have hst := h4.tape.stop
      clear h2 h3 hb3 ht4 hc4
      rw [hs'] at hst
      go_wp2
      go_ret3
      exact ⟨rfl, h4.tape, h4.tch⟩
    · rw [if_neg hf]
      have hf2 : (r1.1 == r2.1) = false := by simpa using hf
      clear hf
      by_cases hq : ((r3.2.ask 2 (ringC R t 3) 0 (IntKind.u64.wrap (r1.1 + 1))).2.st) = true
      · rw [if_pos hq]
        go_enter Try.func37, Try.ntmps37
        have hZ := (Blk.six h0.box).1
        go_wp2_with fail
        generalize w.alloc (.cells #[.int .i64 P, .int .i64 T, .int .i64 R, .int .i64 b1, .int .i64 b2, .int .i64 b3] 38) = wa at *
        refine (hMH.out _).mono ?_
        rintro e w1 ⟨rfl, hb1⟩
        have h1 := h0.below hb1
        go_wp2_with fail
        refine (A1.out _ h1.tape).mono ?_
        rintro e w2 ⟨rfl, ht2, hc2⟩
        have h2 := h1.asked ht2 hc2
        have hZ2 := (Blk.six h2.box).1
        clear hZ h0 h1 hb1 ht2 hc2
        go_wp2_with fail
        refine (hMT.out _).mono ?_
        rintro e w3 ⟨rfl, hb3⟩
        have h3 := h2.below hb3
        clear hZ2
        go_wp2_with fail
        refine (A2.out _ h3.tape).mono ?_
        rintro e w4 ⟨rfl, ht4, hc4⟩
        have h4 := h3.asked ht4 hc4
        have hZ4 := (Blk.six h4.box).1
        have hst := h4.tape.stop
        clear h2 h3 hb3 ht4 hc4
        rw [hs'] at hst
        have MS := Lib.hid (hMS.out r1.1 HU.out.1)
        go_wp2_with fail
        refine (MS.out _).mono ?_
        rintro e w5 ⟨rfl, hb5⟩
        have h5 := h4.below hb5
        clear hZ4
        go_wp2_with fail
        refine (A3.out _ h5.tape).mono ?_
        rintro e w6 ⟨rfl, ht6, hc6⟩
        have h6 := h5.asked ht6 hc6
        have hZ6 := (Blk.six h6.box).1
        clear h4 h5 hb5 ht6 hc6
        go_wp2_with fail
        refine (hMH.out _).mono ?_
        rintro e w7 ⟨rfl, hb7⟩
        have h7 := h6.below hb7
        clear hZ6
        go_wp2_with fail
        refine (A4.out _ _ _ _ HU.out.2 h7.tape).mono ?_
        rintro e w8 ⟨⟨u, rfl⟩, ht8, hc8⟩
        have h8 := h7.asked ht8 hc8
        have hst8 := h8.tape.stop
        have H8 := Lib.hid h8
        clear h6 h7 hb7 ht8 hc8 h8
        rw [hq] at hst8
        go_wp2
        go_ret3
        exact ⟨rfl, H8.out.tape, H8.out.tch⟩
      · rw [if_neg hq]
        have hq' : ((r3.2.ask 2 (ringC R t 3) 0 (IntKind.u64.wrap (r1.1 + 1))).2.st) = false := by simpa using hq
        go_enter Try.func37, Try.ntmps37
        have hZ := (Blk.six h0.box).1
        go_wp2_with fail
        generalize w.alloc (.cells #[.int .i64 P, .int .i64 T, .int .i64 R, .int .i64 b1, .int .i64 b2, .int .i64 b3] 38) = wa at *
        refine (hMH.out _).mono ?_
        rintro e w1 ⟨rfl, hb1⟩
        have h1 := h0.below hb1
        go_wp2_with fail
        refine (A1.out _ h1.tape).mono ?_
        rintro e w2 ⟨rfl, ht2, hc2⟩
        have h2 := h1.asked ht2 hc2
        have hZ2 := (Blk.six h2.box).1
        clear hZ h0 h1 hb1 ht2 hc2
        go_wp2_with fail
        refine (hMT.out _).mono ?_
        rintro e w3 ⟨rfl, hb3⟩
        have h3 := h2.below hb3
        clear hZ2
        go_wp2_with fail
        refine (A2.out _ h3.tape).mono ?_
        rintro e w4 ⟨rfl, ht4, hc4⟩
        have h4 := h3.asked ht4 hc4
        have hZ4 := (Blk.six h4.box).1
        have hst := h4.tape.stop
        clear h2 h3 hb3 ht4 hc4
        rw [hs'] at hst
        have MS := Lib.hid (hMS.out r1.1 HU.out.1)
        go_wp2_with fail
        refine (MS.out _).mono ?_
        rintro e w5 ⟨rfl, hb5⟩
        have h5 := h4.below hb5
        clear hZ4
        go_wp2_with fail
        refine (A3.out _ h5.tape).mono ?_
        rintro e w6 ⟨rfl, ht6, hc6⟩
        have h6 := h5.asked ht6 hc6
        have hZ6 := (Blk.six h6.box).1
        clear h4 h5 hb5 ht6 hc6
        go_wp2_with fail
        refine (hMH.out _).mono ?_
        rintro e w7 ⟨rfl, hb7⟩
        have h7 := h6.below hb7
        clear hZ6
        go_wp2_with fail
        refine (A4.out _ _ _ _ HU.out.2 h7.tape).mono ?_
        rintro e w8 ⟨⟨u, rfl⟩, ht8, hc8⟩
        have h8 := h7.asked ht8 hc8
        have hst8 := h8.tape.stop
        have H8 := Lib.hid h8
        clear h6 h7 hb7 ht8 hc8 h8
        rw [hq'] at hst8
        go_wp2
        go_ret3
        exact ⟨rfl, H8.out.tape, H8.out.tch⟩
end Go.Proofs.Ytamekeebgkdhcaa
/- What a push and a pop ask next, by what they were answered. Numbers alone. -/
namespace Go.Proofs.Ytamekeebgkdhcaa
open Go.RowKit
set_option linter.unusedVariables false
def tpH (H : List Int) (t : Tp) : Tp := ⟨H, 0, t.k, t.a, t.wn, t.p, false⟩
def asks (H : List Int) (k a wn p : Int) : Tp := ⟨H, H.length, k, a, wn, p, true⟩
def tpEnd (H : List Int) (t : Tp) : Tp := ⟨H, H.length, t.k, t.a, t.wn, t.p, false⟩
section
variable (R t v : Int) (b : Tp)
theorem push_0 : pushR R t v (tpH [] b) = ((false, false), asks [] 1 (ringC R t 4) 0 0) := by
  simp [pushR, Tp.ask, tpH, asks]
theorem push_1 (tl : Int) : pushR R t v (tpH [tl] b) = ((false, false), asks [tl] 1 (ringC R t 3) 0 0) := by
  simp [pushR, Tp.ask, tpH, asks]
theorem push_2f (tl hd : Int) (hf : R ≤ IntKind.u64.wrap (tl - hd)) : pushR R t v (tpH [tl, hd] b) = ((true, true), tpEnd [tl, hd] b) := by
  simp [pushR, Tp.ask, tpH, tpEnd, hf]
theorem push_2r (tl hd : Int) (hf : ¬ R ≤ IntKind.u64.wrap (tl - hd)) : pushR R t v (tpH [tl, hd] b) = ((false, false), asks [tl, hd] 2 (ringC R t (5 + tl % R)) 0 v) := by
  simp [pushR, Tp.ask, tpH, asks, hf]
theorem push_3 (tl hd s0 : Int) (hf : ¬ R ≤ IntKind.u64.wrap (tl - hd)) : pushR R t v (tpH [tl, hd, s0] b) = ((false, false), asks [tl, hd, s0] 2 (ringC R t 4) 0 (IntKind.u64.wrap (tl + 1))) := by
  simp [pushR, Tp.ask, tpH, asks, hf]
theorem push_4 (tl hd s0 s1 : Int) (hf : ¬ R ≤ IntKind.u64.wrap (tl - hd)) : pushR R t v (tpH [tl, hd, s0, s1] b) = ((true, false), tpEnd [tl, hd, s0, s1] b) := by
  simp [pushR, Tp.ask, tpH, tpEnd, hf]
theorem pop_0 : popR R t (tpH [] b) = ((false, false, 0), asks [] 1 (ringC R t 3) 0 0) := by
  simp [popR, Tp.ask, tpH, asks]
theorem pop_1 (hd : Int) : popR R t (tpH [hd] b) = ((false, false, 0), asks [hd] 1 (ringC R t 4) 0 0) := by
  simp [popR, Tp.ask, tpH, asks]
theorem pop_2e (hd tl : Int) (hf : hd = tl) : popR R t (tpH [hd, tl] b) = ((true, true, 0), tpEnd [hd, tl] b) := by
  simp [popR, Tp.ask, tpH, tpEnd, hf]
theorem pop_2s (hd tl : Int) (hf : ¬ hd = tl) : popR R t (tpH [hd, tl] b) = ((false, false, 0), asks [hd, tl] 1 (ringC R t (5 + hd % R)) 0 0) := by
  simp [popR, Tp.ask, tpH, asks, hf]
theorem pop_3 (hd tl x : Int) (hf : ¬ hd = tl) : popR R t (tpH [hd, tl, x] b) = ((false, false, 0), asks [hd, tl, x] 2 (ringC R t 3) 0 (IntKind.u64.wrap (hd + 1))) := by
  simp [popR, Tp.ask, tpH, asks, hf]
theorem pop_4 (hd tl x s1 : Int) (hf : ¬ hd = tl) : popR R t (tpH [hd, tl, x, s1] b) = ((true, false, x), tpEnd [hd, tl, x, s1] b) := by
  simp [popR, Tp.ask, tpH, tpEnd, hf]
end
end Go.Proofs.Ytamekeebgkdhcaa
/- A step of a push beside the document's: the walk of 'pushes' where the machine isn't over and has a grant. Condition: what the tape asks is what the machine does. -/
namespace Go.Proofs.Ytamekeebgkdhcaa
open Go.RowKit
set_option linter.unusedVariables false
section
variable {w0 w w' : World} {R0 : Nat → Prop} {B a c p m sb M d xa : Nat} {who : Int} {mt st : TypeId} {sc mc : Array Value} {o : Bool} {cs : List Int} {xs : List Value} {n : Nat} {cs2 : List Int} {xs2 : List Value} {n2 : Nat} {tp : Tp} {lv lm hv : Value}
theorem Pq.make (q : Pq w0 R0 B a c p m sb M d xa who mt st sc mc o cs xs n cs2 xs2 n2 tp lv lm hv w) (i : Nat) (hk : kindB tp.k = true) (ha : tp.a = (i : Int)) (hi : i < cs2.length) (hm : n2 < 1000000) (hH : tp.H.length < 1000000) :
    Calls Try.prog 33 #[.pointer (some ⟨M, 0, none⟩), .pointer (some ⟨xa, 0, none⟩), .int .i64 who] w fun e w' => (∃ v, e = .returned v) ∧ ∃ lm' hv',
      Pq w0 R0 B a c p m sb M d xa who mt st sc mc o cs xs n (cs2.set i (leftI tp.k (cs2.getD i 0) tp.wn tp.p)) (xs2 ++ accV who tp.k i tp.wn tp.p (cs2.getD i 0) (leftI tp.k (cs2.getD i 0) tp.wn tp.p)) (n2 + 1) { tp with H := tp.H ++ [cs2.getD i 0] } lv lm' hv' w' := by
  have nd := nd8 q.pn.nd
  have hz := q.tch.size
  have hb := q.bw
  refine (make_yes who i q.doc q.tape (by simp [nd]) (by simp [nd]) (fun e => q.pn.gh M e (by simp)) (fun e => q.pn.gh d e (by simp)) (fun e => (q.pn.gm xa e).1 (by simp)) (fun g e r => (q.pn.gm g r).2 e) (by omega) (by omega) hm hH hk ha hi).mono ?_
  rintro e w' ⟨he, lm', hv', hD, hT, g1, g2, g3, ht⟩
  exact ⟨he, lm', hv', q.made hD hT g1 g2 g3 ht⟩
theorem Pq.nine {ob off : Nat} {v P T R b1 b2 b3 : Int} (q : Pq w0 R0 B a c p m sb M d xa who mt st sc mc o cs xs n cs2 xs2 n2 tp lv lm hv w)
    (hs : Hid (sc[off]? = some (.pointer (some ⟨m, 0, none⟩)) ∧ sc[off + 2]? = some (.pointer (some ⟨xa, 0, none⟩)) ∧ sc[off + 4]? = some (.int .u64 v)))
    (hb : Hid (Blk w0 ob #[.int .i64 P, .int .i64 T, .int .i64 R, .int .i64 b1, .int .i64 b2, .int .i64 b3] 38 ∧ ¬ R0 ob)) :
    (w.cell? ⟨sb, off, none⟩ = some (.pointer (some ⟨m, 0, none⟩)) ∧ w.cell? ⟨sb, off + 2, none⟩ = some (.pointer (some ⟨xa, 0, none⟩)) ∧ w.cell? ⟨sb, off + 4, none⟩ = some (.int .u64 v)) ∧
    (w.cell? ⟨ob, 0, none⟩ = some (.int .i64 P) ∧ w.cell? ⟨ob, 1, none⟩ = some (.int .i64 T) ∧ w.cell? ⟨ob, 2, none⟩ = some (.int .i64 R) ∧ w.cell? ⟨ob, 3, none⟩ = some (.int .i64 b1) ∧ w.cell? ⟨ob, 4, none⟩ = some (.int .i64 b2) ∧ w.cell? ⟨ob, 5, none⟩ = some (.int .i64 b3)) := by
  have hx := Blk.touch hb.out.1 q.tch hb.out.2
  exact ⟨⟨q.side.val off hs.out.1, q.side.val (off + 2) hs.out.2.1, q.side.val (off + 4) hs.out.2.2⟩, hx.val 0 rfl, hx.val 1 rfl, hx.val 2 rfl, hx.val 3 rfl, hx.val 4 rfl, hx.val 5 rfl⟩
end
set_option maxRecDepth 100000 in
set_option maxHeartbeats 4000000 in
theorem pushes_go {w0 w : World} {R0 : Nat → Prop} {B a c p m sb M d xa : Nat} {who : Int} {sc : Array Value} {o : Bool} {cs : List Int} {xs : List Value} {n : Nat} {cs2 : List Int} {xs2 : List Value} {n2 : Nat} {tp : Tp} {lv lm hv : Value} {P T R t v tl nx : Int} {fu : Bool} (b1 b2 b3 : Int) (off : Nat)
    (h : Pq w0 R0 B a c p m sb M d xa who 85 49 sc (puCells P T R t v tl nx fu) o cs xs n cs2 xs2 n2 tp lv lm hv w)
    (hs : Hid (sc[off]? = some (.pointer (some ⟨m, 0, none⟩)) ∧ sc[off + 2]? = some (.pointer (some ⟨xa, 0, none⟩)) ∧ sc[off + 4]? = some (.int .u64 v)))
    (hR : 1 ≤ R ∧ R ≤ 16) (ht : 0 ≤ t ∧ t ≤ 5) (hl : tp.H.length ≤ 100) (hU : ∀ z ∈ tp.H, U64 z) (q1 : Tp) (h1 : pushR R t v tp.again = ((false, false), q1)) (hq1 : q1.H = tp.H) (hk : kindB q1.k = true) (i : Nat) (ha : q1.a = (i : Int)) (hi : i < cs2.length) (hn2 : n2 < 1000000) (hz : U64 (cs2.getD i 0))
    (ov fl : Bool) (q3 : Tp) (h2 : pushR R t v (Tp.again { q1 with H := q1.H ++ [cs2.getD i 0] }) = ((ov, fl), q3)) (tl' nx' : Int) (cs' : List Int) (xs' : List Value) (n' : Nat) (hov : (nx' == 0) = ov)
    (ST : Hid (∀ {w1 : World} {R1 : Nat → Prop} {cs3 : List Int} {xs3 : List Value} {n3 : Nat} {tp' : Tp} {lv' lm' hv' : Value} {W : World}, Pq w1 R1 B a c p m sb M d xa who 85 49 sc (puCells P T R t v tl nx fu) true cs xs n cs3 xs3 n3 tp' lv' lm' hv' W →
      Calls Try.prog 35 #[.pointer (some ⟨m, 0, none⟩), .pointer (some ⟨p, 0, none⟩)] W fun e W' => e = .returned (.bool ov) ∧ ∃ lv'', Pq w1 R1 B a c p m sb M d xa who 85 49 sc (puCells P T R t v tl' nx' fl) false cs' xs' n' cs3 xs3 n3 tp' lv'' lm' hv' W')) :
    Calls Try.prog 12 #[.pointer (some ⟨sb, off, none⟩), .pointer (some ⟨p, 0, none⟩), .pointer (some ⟨M, 0, none⟩), .agg #[.int .i64 P, .int .i64 T, .int .i64 R, .int .i64 b1, .int .i64 b2, .int .i64 b3], .int .i64 t, .bool false] w fun e w' => e = .returned (.bool true) ∧
      ∃ lv' lm' hv', Pq w0 R0 B a c p m sb M d xa who 85 49 sc (puCells P T R t v tl' nx' fl) false cs' xs' n' (cs2.set i (leftI q1.k (cs2.getD i 0) q1.wn q1.p)) (xs2 ++ accV who q1.k i q1.wn q1.p (cs2.getD i 0) (leftI q1.k (cs2.getD i 0) q1.wn q1.p)) (n2 + 1) q3 lv' lm' hv' w' := by
  have hbel : Below w.heap.size w (w.alloc (.cells #[.int .i64 P, .int .i64 T, .int .i64 R, .int .i64 b1, .int .i64 b2, .int .i64 b3] 38)) := (Below.refl _ _).alloc (Nat.le_refl _) _
  have hg := h.grew hbel
  have hq := hg.rebase
  have hbx : Hid (Blk (w.alloc (.cells #[.int .i64 P, .int .i64 T, .int .i64 R, .int .i64 b1, .int .i64 b2, .int .i64 b3] 38)) w.heap.size #[.int .i64 P, .int .i64 T, .int .i64 R, .int .i64 b1, .int .i64 b2, .int .i64 b3] 38 ∧ ¬ foot a c p m M d xa lv lm hv w.heap.size) :=
    Lib.hid ⟨Blk.new _ _ _, fun hf => by have := h.footL _ hf; omega⟩
  have BK := Lib.hid (And.intro hg.tch (And.intro hg.bw (And.intro (fun b => hg.footR b) hg.fx)))
  have H1 := Lib.hid h1
  have H2 := Lib.hid h2
  have HL := Lib.hid (And.intro hl (And.intro hU (And.intro hz (And.intro hn2 hi))))
  have HQ := Lib.hid (And.intro hq1 (And.intro hk ha))
  have HO := Lib.hid hov
  clear h hg hbel h1 h2 hl hU hz hn2 hi hq1 hk ha hov
  go_enter Try.func12, Try.ntmps12
  generalize foot a c p m M d xa lv lm hv = F at *
  have hob := Blk.lt hbx.out.1
  obtain ⟨⟨e0, e2, e4⟩, m0, m1, m2, m3, m4, m5⟩ := hq.nine hs hbx
  go_wp2_with fail
  generalize hwb : w.alloc _ = wb at *
  clear hwb
  generalize w.heap.size = ob at *
  refine (again_at B xa hv tp _ hq.tape).mono ?_
  rintro e w2 ⟨⟨_, rfl⟩, hT2, ht2⟩
  have hq2 := hq.ask hT2 ht2
  have RP := Lib.hid (fun W (q : TapeAt W B xa hv tp.again) => rpush_any P T R b1 b2 b3 t v q (by have := HL.out.1; simp [Tp.again]; omega) HL.out.2.1 hR ht)
  rw [H1.out] at RP
  clear hq hT2 ht2 e0 e2 e4 m0 m1 m2 m3 m4 m5
  have hd := hq2.drew
  obtain ⟨⟨e0, e2, e4⟩, m0, m1, m2, m3, m4, m5⟩ := hq2.nine hs hbx
  go_wp2_with fail
  go_region_held3 (fun W => (W.cell? ⟨sb, off, none⟩ = some (.pointer (some ⟨m, 0, none⟩)) ∧ W.cell? ⟨sb, off + 2, none⟩ = some (.pointer (some ⟨xa, 0, none⟩)) ∧ W.cell? ⟨sb, off + 4, none⟩ = some (.int .u64 v)) ∧ (W.cell? ⟨ob, 0, none⟩ = some (.int .i64 P) ∧ W.cell? ⟨ob, 1, none⟩ = some (.int .i64 T) ∧ W.cell? ⟨ob, 2, none⟩ = some (.int .i64 R) ∧ W.cell? ⟨ob, 3, none⟩ = some (.int .i64 b1) ∧ W.cell? ⟨ob, 4, none⟩ = some (.int .i64 b2) ∧ W.cell? ⟨ob, 5, none⟩ = some (.int .i64 b3)))
    (first | (with_reducible exact hd.nine hs hbx) | (with_reducible exact Pq.nine (by assumption) hs hbx))
    (first | (go_at_call 31; refine (RP.out _ hd.tape).mono ?_; rintro e w3 ⟨rfl, hT3, ht3⟩; have hq3 := hd.ask hT3 ht3))
  clear hq2 hd RP hT3 ht3 e0 e2 e4 m0 m1 m2 m3 m4 m5
  go_wp2_with fail
  refine (grant_at p a who o _ hq3.port).mono ?_
  rintro e w4 ⟨⟨_, rfl⟩, hP4, ht4⟩
  have hq4 := hq3.granted hP4 ht4
  clear hq3 hP4 ht4
  have hd := hq4.drew
  obtain ⟨⟨e0, e2, e4⟩, m0, m1, m2, m3, m4, m5⟩ := hq4.nine hs hbx
  go_wp2_with fail
  go_region_held3 (fun W => (W.cell? ⟨sb, off, none⟩ = some (.pointer (some ⟨m, 0, none⟩)) ∧ W.cell? ⟨sb, off + 2, none⟩ = some (.pointer (some ⟨xa, 0, none⟩)) ∧ W.cell? ⟨sb, off + 4, none⟩ = some (.int .u64 v)) ∧ (W.cell? ⟨ob, 0, none⟩ = some (.int .i64 P) ∧ W.cell? ⟨ob, 1, none⟩ = some (.int .i64 T) ∧ W.cell? ⟨ob, 2, none⟩ = some (.int .i64 R) ∧ W.cell? ⟨ob, 3, none⟩ = some (.int .i64 b1) ∧ W.cell? ⟨ob, 4, none⟩ = some (.int .i64 b2) ∧ W.cell? ⟨ob, 5, none⟩ = some (.int .i64 b3)))
    (first | (with_reducible exact hd.nine hs hbx) | (with_reducible exact Pq.nine (by assumption) hs hbx))
    (first | (go_at_call 34; refine (who_at p a who true _ hd.port).mono ?_; rintro e w5 ⟨rfl, hqq5⟩; have hq5 := hd.quiet hqq5) | (go_at_call 33; refine (hq5.make i HQ.out.2.1 HQ.out.2.2 HL.out.2.2.2.2 HL.out.2.2.2.1 (by rw [HQ.out.1]; have := HL.out.1; omega)).mono ?_; rintro e w6 ⟨⟨_, rfl⟩, lm6, hv6, hq6⟩))
  clear hq4 hd hq5 hqq5 e0 e2 e4 m0 m1 m2 m3 m4 m5
  obtain ⟨⟨e0, e2, e4⟩, m0, m1, m2, m3, m4, m5⟩ := hq6.nine hs hbx
  go_wp2_with fail
  refine (again_at B xa hv6 _ _ hq6.tape).mono ?_
  rintro e w7 ⟨⟨_, rfl⟩, hT7, ht7⟩
  have hq7 := hq6.ask hT7 ht7
  have hL2 : (Tp.again { q1 with H := q1.H ++ [cs2.getD i 0] }).H.length ≤ 1000000 ∧ ∀ z ∈ (Tp.again { q1 with H := q1.H ++ [cs2.getD i 0] }).H, U64 z := by
    obtain ⟨hl, hU, hz, _, _⟩ := HL.out
    refine ⟨?_, fun z hz2 => ?_⟩
    · simp only [Tp.again, HQ.out.1, List.length_append, List.length_cons, List.length_nil]; omega
    · simp only [Tp.again, HQ.out.1, List.mem_append, List.mem_singleton] at hz2
      exact hz2.elim (hU z) (fun e => e ▸ hz)
  clear hq6 hT7 ht7 e0 e2 e4 m0 m1 m2 m3 m4 m5
  have H3 := H2.out
  generalize Tp.again { q1 with H := q1.H ++ [cs2.getD i 0] } = tp2 at *
  have RP := Lib.hid (fun W (q : TapeAt W B xa hv6 tp2) => rpush_any P T R b1 b2 b3 t v q hL2.1 hL2.2 hR ht)
  rw [H3] at RP
  clear H2 H3 hL2
  have hd := hq7.drew
  obtain ⟨⟨e0, e2, e4⟩, m0, m1, m2, m3, m4, m5⟩ := hq7.nine hs hbx
  go_wp2_with fail
  go_region_held3 (fun W => (W.cell? ⟨sb, off, none⟩ = some (.pointer (some ⟨m, 0, none⟩)) ∧ W.cell? ⟨sb, off + 2, none⟩ = some (.pointer (some ⟨xa, 0, none⟩)) ∧ W.cell? ⟨sb, off + 4, none⟩ = some (.int .u64 v)) ∧ (W.cell? ⟨ob, 0, none⟩ = some (.int .i64 P) ∧ W.cell? ⟨ob, 1, none⟩ = some (.int .i64 T) ∧ W.cell? ⟨ob, 2, none⟩ = some (.int .i64 R) ∧ W.cell? ⟨ob, 3, none⟩ = some (.int .i64 b1) ∧ W.cell? ⟨ob, 4, none⟩ = some (.int .i64 b2) ∧ W.cell? ⟨ob, 5, none⟩ = some (.int .i64 b3)))
    (first | (with_reducible exact hd.nine hs hbx) | (with_reducible exact Pq.nine (by assumption) hs hbx))
    (first | (go_at_call 31; refine (RP.out _ hd.tape).mono ?_; rintro e w8 ⟨rfl, hT8, ht8⟩; have hq8 := hd.ask hT8 ht8))
  clear hq7 hd RP hT8 ht8 e0 e2 e4 m0 m1 m2 m3 m4 m5
  obtain ⟨⟨e0, e2, e4⟩, m0, m1, m2, m3, m4, m5⟩ := hq8.nine hs hbx
  go_wp2_with fail
  refine (ST.out hq8).mono ?_
  rintro e w9 ⟨rfl, lv9, hq9⟩
  clear hq8 e0 e2 e4 m0 m1 m2 m3 m4 m5
  have OV := Lib.hid (fun W (h : PushAt W m P T R t v tl' nx' fl) => over_push h)
  rw [HO.out] at OV
  obtain ⟨⟨e0, e2, e4⟩, m0, m1, m2, m3, m4, m5⟩ := hq9.nine hs hbx
  go_wp2_with fail
  refine (OV.out _ hq9.mach).mono ?_
  rintro e w10 ⟨rfl, hqq10⟩
  have hq10 := hq9.quiet hqq10
  clear hq9 hqq10 e0 e2 e4 m0 m1 m2 m3 m4 m5
  obtain ⟨⟨e0, e2, e4⟩, m0, m1, m2, m3, m4, m5⟩ := hq10.nine hs hbx
  go_wp2_with fail
  refine (full_push hq10.mach).mono ?_
  rintro e w11 ⟨rfl, hqq11⟩
  have hq11 := hq10.quiet hqq11
  clear e0 e2 e4 m0 m1 m2 m3 m4 m5
  go_wp2
  go_ret
  exact ⟨rfl, _, _, _, hq11.debase BK.out.1 BK.out.2.1 BK.out.2.2.1 BK.out.2.2.2⟩
set_option maxRecDepth 100000 in
set_option maxHeartbeats 4000000 in
theorem pushes_still {w0 w : World} {R0 : Nat → Prop} {B a c p m sb M d xa : Nat} {who : Int} {sc : Array Value} {o : Bool} {cs : List Int} {xs : List Value} {n : Nat} {cs2 : List Int} {xs2 : List Value} {n2 : Nat} {tp : Tp} {lv lm hv : Value} {P T R t v tl nx : Int} {fu : Bool} (b1 b2 b3 : Int) (off : Nat) (bare : Bool)
    (h : Pq w0 R0 B a c p m sb M d xa who 85 49 sc (puCells P T R t v tl nx fu) o cs xs n cs2 xs2 n2 tp lv lm hv w)
    (hs : Hid (sc[off]? = some (.pointer (some ⟨m, 0, none⟩)) ∧ sc[off + 2]? = some (.pointer (some ⟨xa, 0, none⟩)) ∧ sc[off + 4]? = some (.int .u64 v)))
    (hR : 1 ≤ R ∧ R ≤ 16) (ht : 0 ≤ t ∧ t ≤ 5) (hl : tp.H.length ≤ 100) (hU : ∀ z ∈ tp.H, U64 z) (ov : Bool) (q1 : Tp) (h1 : pushR R t v tp.again = ((ov, fu), q1)) (hov : (nx == 0) = ov) (hbo : (!ov && !bare) = false)
    (ST : Hid (∀ {w1 : World} {R1 : Nat → Prop} {cs3 : List Int} {xs3 : List Value} {n3 : Nat} {tp' : Tp} {lv' lm' hv' : Value} {W : World}, Pq w1 R1 B a c p m sb M d xa who 85 49 sc (puCells P T R t v tl nx fu) o cs xs n cs3 xs3 n3 tp' lv' lm' hv' W →
      Calls Try.prog 35 #[.pointer (some ⟨m, 0, none⟩), .pointer (some ⟨p, 0, none⟩)] W fun e W' => e = .returned (.bool ov) ∧ ∃ lv'', Pq w1 R1 B a c p m sb M d xa who 85 49 sc (puCells P T R t v tl nx fu) o cs xs n cs3 xs3 n3 tp' lv'' lm' hv' W')) :
    Calls Try.prog 12 #[.pointer (some ⟨sb, off, none⟩), .pointer (some ⟨p, 0, none⟩), .pointer (some ⟨M, 0, none⟩), .agg #[.int .i64 P, .int .i64 T, .int .i64 R, .int .i64 b1, .int .i64 b2, .int .i64 b3], .int .i64 t, .bool bare] w fun e w' => e = .returned (.bool true) ∧
      ∃ lv' lm' hv', Pq w0 R0 B a c p m sb M d xa who 85 49 sc (puCells P T R t v tl nx fu) o cs xs n cs2 xs2 n2 q1 lv' lm' hv' w' := by
  have hbel : Below w.heap.size w (w.alloc (.cells #[.int .i64 P, .int .i64 T, .int .i64 R, .int .i64 b1, .int .i64 b2, .int .i64 b3] 38)) := (Below.refl _ _).alloc (Nat.le_refl _) _
  have hg := h.grew hbel
  have hq := hg.rebase
  have hbx : Hid (Blk (w.alloc (.cells #[.int .i64 P, .int .i64 T, .int .i64 R, .int .i64 b1, .int .i64 b2, .int .i64 b3] 38)) w.heap.size #[.int .i64 P, .int .i64 T, .int .i64 R, .int .i64 b1, .int .i64 b2, .int .i64 b3] 38 ∧ ¬ foot a c p m M d xa lv lm hv w.heap.size) :=
    Lib.hid ⟨Blk.new _ _ _, fun hf => by have := h.footL _ hf; omega⟩
  have BK := Lib.hid (And.intro hg.tch (And.intro hg.bw (And.intro (fun b => hg.footR b) hg.fx)))
  have H1 := Lib.hid h1
  have HL := Lib.hid (And.intro hl hU)
  have HO := Lib.hid hov
  clear h hg hbel h1 hl hU hov
  go_enter Try.func12, Try.ntmps12
  generalize foot a c p m M d xa lv lm hv = F at *
  obtain ⟨⟨e0, e2, e4⟩, m0, m1, m2, m3, m4, m5⟩ := hq.nine hs hbx
  go_wp2_with fail
  generalize hwb : w.alloc _ = wb at *
  clear hwb
  generalize w.heap.size = ob at *
  refine (again_at B xa hv tp _ hq.tape).mono ?_
  rintro e w2 ⟨⟨_, rfl⟩, hT2, ht2⟩
  have hq2 := hq.ask hT2 ht2
  have RP := Lib.hid (fun W (q : TapeAt W B xa hv tp.again) => rpush_any P T R b1 b2 b3 t v q (by have := HL.out.1; simp [Tp.again]; omega) HL.out.2 hR ht)
  rw [H1.out] at RP
  clear hq hT2 ht2 e0 e2 e4 m0 m1 m2 m3 m4 m5
  have hd := hq2.drew
  obtain ⟨⟨e0, e2, e4⟩, m0, m1, m2, m3, m4, m5⟩ := hq2.nine hs hbx
  go_wp2_with fail
  go_region_held3 (fun W => (W.cell? ⟨sb, off, none⟩ = some (.pointer (some ⟨m, 0, none⟩)) ∧ W.cell? ⟨sb, off + 2, none⟩ = some (.pointer (some ⟨xa, 0, none⟩)) ∧ W.cell? ⟨sb, off + 4, none⟩ = some (.int .u64 v)) ∧ (W.cell? ⟨ob, 0, none⟩ = some (.int .i64 P) ∧ W.cell? ⟨ob, 1, none⟩ = some (.int .i64 T) ∧ W.cell? ⟨ob, 2, none⟩ = some (.int .i64 R) ∧ W.cell? ⟨ob, 3, none⟩ = some (.int .i64 b1) ∧ W.cell? ⟨ob, 4, none⟩ = some (.int .i64 b2) ∧ W.cell? ⟨ob, 5, none⟩ = some (.int .i64 b3)))
    (first | (with_reducible exact hd.nine hs hbx) | (with_reducible exact Pq.nine (by assumption) hs hbx))
    (first | (go_at_call 31; refine (RP.out _ hd.tape).mono ?_; rintro e w3 ⟨rfl, hT3, ht3⟩; have hq8 := hd.ask hT3 ht3))
  clear hq2 hd RP hT3 ht3 e0 e2 e4 m0 m1 m2 m3 m4 m5
  have OV := Lib.hid (fun W (h : PushAt W m P T R t v tl nx fu) => over_push h)
  rw [HO.out] at OV
  obtain ⟨⟨e0, e2, e4⟩, m0, m1, m2, m3, m4, m5⟩ := hq8.nine hs hbx
  cases ov with
  | true =>
    go_wp2_with fail
    refine (ST.out hq8).mono ?_
    rintro e w9 ⟨rfl, lv9, hq9⟩
    clear hq8 e0 e2 e4 m0 m1 m2 m3 m4 m5
    obtain ⟨⟨e0, e2, e4⟩, m0, m1, m2, m3, m4, m5⟩ := hq9.nine hs hbx
    go_wp2_with fail
    refine (OV.out _ hq9.mach).mono ?_
    rintro e w10 ⟨rfl, hqq10⟩
    have hq10 := hq9.quiet hqq10
    clear hq9 hqq10 e0 e2 e4 m0 m1 m2 m3 m4 m5
    obtain ⟨⟨e0, e2, e4⟩, m0, m1, m2, m3, m4, m5⟩ := hq10.nine hs hbx
    go_wp2_with fail
    refine (full_push hq10.mach).mono ?_
    rintro e w11 ⟨rfl, hqq11⟩
    have hq11 := hq10.quiet hqq11
    clear e0 e2 e4 m0 m1 m2 m3 m4 m5
    go_wp2
    go_ret
    exact ⟨rfl, _, _, _, hq11.debase BK.out.1 BK.out.2.1 BK.out.2.2.1 BK.out.2.2.2⟩
  | false =>
    obtain rfl : bare = true := by cases bare <;> simp at hbo ⊢
    go_wp2_with fail
    refine (ST.out hq8).mono ?_
    rintro e w9 ⟨rfl, lv9, hq9⟩
    clear hq8 e0 e2 e4 m0 m1 m2 m3 m4 m5
    obtain ⟨⟨e0, e2, e4⟩, m0, m1, m2, m3, m4, m5⟩ := hq9.nine hs hbx
    go_wp2_with fail
    refine (OV.out _ hq9.mach).mono ?_
    rintro e w10 ⟨rfl, hqq10⟩
    have hq10 := hq9.quiet hqq10
    clear hq9 hqq10 e0 e2 e4 m0 m1 m2 m3 m4 m5
    obtain ⟨⟨e0, e2, e4⟩, m0, m1, m2, m3, m4, m5⟩ := hq10.nine hs hbx
    go_wp2_with fail
    refine (full_push hq10.mach).mono ?_
    rintro e w11 ⟨rfl, hqq11⟩
    have hq11 := hq10.quiet hqq11
    clear e0 e2 e4 m0 m1 m2 m3 m4 m5
    go_wp2
    go_ret
    exact ⟨rfl, _, _, _, hq11.debase BK.out.1 BK.out.2.1 BK.out.2.2.1 BK.out.2.2.2⟩
end Go.Proofs.Ytamekeebgkdhcaa
/- A step of a pop beside the document's: the walk of 'pops'. Condition: what the tape asks is what the machine does. -/
namespace Go.Proofs.Ytamekeebgkdhcaa
open Go.RowKit
set_option linter.unusedVariables false
section
variable {w0 w w' : World} {R0 : Nat → Prop} {B a c p m sb M d xa : Nat} {who : Int} {mt st : TypeId} {sc mc : Array Value} {o : Bool} {cs : List Int} {xs : List Value} {n : Nat} {cs2 : List Int} {xs2 : List Value} {n2 : Nat} {tp : Tp} {lv lm hv : Value}
theorem Pq.eight {ob off : Nat} {P T R b1 b2 b3 : Int} (q : Pq w0 R0 B a c p m sb M d xa who mt st sc mc o cs xs n cs2 xs2 n2 tp lv lm hv w)
    (hs : Hid (sc[off + 1]? = some (.pointer (some ⟨m, 0, none⟩)) ∧ sc[off + 3]? = some (.pointer (some ⟨xa, 0, none⟩))))
    (hb : Hid (Blk w0 ob #[.int .i64 P, .int .i64 T, .int .i64 R, .int .i64 b1, .int .i64 b2, .int .i64 b3] 38 ∧ ¬ R0 ob)) :
    (w.cell? ⟨sb, off + 1, none⟩ = some (.pointer (some ⟨m, 0, none⟩)) ∧ w.cell? ⟨sb, off + 3, none⟩ = some (.pointer (some ⟨xa, 0, none⟩))) ∧
    (w.cell? ⟨ob, 0, none⟩ = some (.int .i64 P) ∧ w.cell? ⟨ob, 1, none⟩ = some (.int .i64 T) ∧ w.cell? ⟨ob, 2, none⟩ = some (.int .i64 R) ∧ w.cell? ⟨ob, 3, none⟩ = some (.int .i64 b1) ∧ w.cell? ⟨ob, 4, none⟩ = some (.int .i64 b2) ∧ w.cell? ⟨ob, 5, none⟩ = some (.int .i64 b3)) := by
  have hx := Blk.touch hb.out.1 q.tch hb.out.2
  exact ⟨⟨q.side.val (off + 1) hs.out.1, q.side.val (off + 3) hs.out.2⟩, hx.val 0 rfl, hx.val 1 rfl, hx.val 2 rfl, hx.val 3 rfl, hx.val 4 rfl, hx.val 5 rfl⟩
end
set_option maxRecDepth 100000 in
set_option maxHeartbeats 4000000 in
theorem pops_go {w0 w : World} {R0 : Nat → Prop} {B a c p m sb M d xa : Nat} {who : Int} {sc : Array Value} {o : Bool} {cs : List Int} {xs : List Value} {n : Nat} {cs2 : List Int} {xs2 : List Value} {n2 : Nat} {tp : Tp} {lv lm hv : Value} {P T R t pv tl nx : Int} {fu : Bool} (b1 b2 b3 : Int) (off : Nat)
    (h : Pq w0 R0 B a c p m sb M d xa who 87 49 sc (poCells P T R t pv tl nx fu) o cs xs n cs2 xs2 n2 tp lv lm hv w)
    (hs : Hid (sc[off + 1]? = some (.pointer (some ⟨m, 0, none⟩)) ∧ sc[off + 3]? = some (.pointer (some ⟨xa, 0, none⟩))))
    (hR : 1 ≤ R ∧ R ≤ 16) (ht : 0 ≤ t ∧ t ≤ 5) (hl : tp.H.length ≤ 100) (hU : ∀ z ∈ tp.H, U64 z) (q1 : Tp) (h1 : popR R t tp.again = ((false, false, 0), q1)) (hq1 : q1.H = tp.H) (hk : kindB q1.k = true) (i : Nat) (ha : q1.a = (i : Int)) (hi : i < cs2.length) (hn2 : n2 < 1000000) (hz : U64 (cs2.getD i 0))
    (ov fl : Bool) (vl : Int) (q3 : Tp) (h2 : popR R t (Tp.again { q1 with H := q1.H ++ [cs2.getD i 0] }) = ((ov, fl, vl), q3)) (pv' tl' nx' : Int) (cs' : List Int) (xs' : List Value) (n' : Nat) (hov : (nx' == 0) = ov)
    (VL : Hid (∀ {W : World}, PopAt W m P T R t pv' tl' nx' fl → Calls Try.prog 41 #[.pointer (some ⟨m, 0, none⟩)] W fun e W' => e = .returned (.int .u64 vl) ∧ Quiet W W'))
    (ST : Hid (∀ {w1 : World} {R1 : Nat → Prop} {cs3 : List Int} {xs3 : List Value} {n3 : Nat} {tp' : Tp} {lv' lm' hv' : Value} {W : World}, Pq w1 R1 B a c p m sb M d xa who 87 49 sc (poCells P T R t pv tl nx fu) true cs xs n cs3 xs3 n3 tp' lv' lm' hv' W →
      Calls Try.prog 38 #[.pointer (some ⟨m, 0, none⟩), .pointer (some ⟨p, 0, none⟩)] W fun e W' => e = .returned (.bool ov) ∧ ∃ lv'', Pq w1 R1 B a c p m sb M d xa who 87 49 sc (poCells P T R t pv' tl' nx' fl) false cs' xs' n' cs3 xs3 n3 tp' lv'' lm' hv' W')) :
    Calls Try.prog 13 #[.pointer (some ⟨sb, off, none⟩), .pointer (some ⟨p, 0, none⟩), .pointer (some ⟨M, 0, none⟩), .agg #[.int .i64 P, .int .i64 T, .int .i64 R, .int .i64 b1, .int .i64 b2, .int .i64 b3], .int .i64 t, .bool false] w fun e w' => e = .returned (.bool true) ∧
      ∃ lv' lm' hv', Pq w0 R0 B a c p m sb M d xa who 87 49 sc (poCells P T R t pv' tl' nx' fl) false cs' xs' n' (cs2.set i (leftI q1.k (cs2.getD i 0) q1.wn q1.p)) (xs2 ++ accV who q1.k i q1.wn q1.p (cs2.getD i 0) (leftI q1.k (cs2.getD i 0) q1.wn q1.p)) (n2 + 1) q3 lv' lm' hv' w' := by
  have hbel : Below w.heap.size w (w.alloc (.cells #[.int .i64 P, .int .i64 T, .int .i64 R, .int .i64 b1, .int .i64 b2, .int .i64 b3] 38)) := (Below.refl _ _).alloc (Nat.le_refl _) _
  have hg := h.grew hbel
  have hq := hg.rebase
  have hbx : Hid (Blk (w.alloc (.cells #[.int .i64 P, .int .i64 T, .int .i64 R, .int .i64 b1, .int .i64 b2, .int .i64 b3] 38)) w.heap.size #[.int .i64 P, .int .i64 T, .int .i64 R, .int .i64 b1, .int .i64 b2, .int .i64 b3] 38 ∧ ¬ foot a c p m M d xa lv lm hv w.heap.size) :=
    Lib.hid ⟨Blk.new _ _ _, fun hf => by have := h.footL _ hf; omega⟩
  have BK := Lib.hid (And.intro hg.tch (And.intro hg.bw (And.intro (fun b => hg.footR b) hg.fx)))
  have H1 := Lib.hid h1
  have H2 := Lib.hid h2
  have HL := Lib.hid (And.intro hl (And.intro hU (And.intro hz (And.intro hn2 hi))))
  have HQ := Lib.hid (And.intro hq1 (And.intro hk ha))
  have HO := Lib.hid hov
  clear h hg hbel h1 h2 hl hU hz hn2 hi hq1 hk ha hov
  go_enter Try.func13, Try.ntmps13
  generalize foot a c p m M d xa lv lm hv = F at *
  have hob := Blk.lt hbx.out.1
  obtain ⟨⟨e0, e2⟩, m0, m1, m2, m3, m4, m5⟩ := hq.eight hs hbx
  go_wp2_with fail
  generalize hwb : w.alloc _ = wb at *
  clear hwb
  generalize w.heap.size = ob at *
  refine (again_at B xa hv tp _ hq.tape).mono ?_
  rintro e w2 ⟨⟨_, rfl⟩, hT2, ht2⟩
  have hq2 := hq.ask hT2 ht2
  have RP := Lib.hid (fun W (q : TapeAt W B xa hv tp.again) => rpop_any P T R b1 b2 b3 t q (by have := HL.out.1; simp [Tp.again]; omega) HL.out.2.1 hR ht)
  rw [H1.out] at RP
  clear hq hT2 ht2 e0 e2 m0 m1 m2 m3 m4 m5
  have hd := hq2.drew
  obtain ⟨⟨e0, e2⟩, m0, m1, m2, m3, m4, m5⟩ := hq2.eight hs hbx
  go_wp2_with fail
  go_region_held3 (fun W => (W.cell? ⟨sb, off + 1, none⟩ = some (.pointer (some ⟨m, 0, none⟩)) ∧ W.cell? ⟨sb, off + 3, none⟩ = some (.pointer (some ⟨xa, 0, none⟩))) ∧ (W.cell? ⟨ob, 0, none⟩ = some (.int .i64 P) ∧ W.cell? ⟨ob, 1, none⟩ = some (.int .i64 T) ∧ W.cell? ⟨ob, 2, none⟩ = some (.int .i64 R) ∧ W.cell? ⟨ob, 3, none⟩ = some (.int .i64 b1) ∧ W.cell? ⟨ob, 4, none⟩ = some (.int .i64 b2) ∧ W.cell? ⟨ob, 5, none⟩ = some (.int .i64 b3)))
    (first | (with_reducible exact hd.eight hs hbx) | (with_reducible exact Pq.eight (by assumption) hs hbx))
    (first | (go_at_call 37; refine (RP.out _ hd.tape).mono ?_; rintro e w3 ⟨rfl, hT3, ht3⟩; have hq3 := hd.ask hT3 ht3))
  clear hq2 hd RP hT3 ht3 e0 e2 m0 m1 m2 m3 m4 m5
  go_wp2_with fail
  refine (grant_at p a who o _ hq3.port).mono ?_
  rintro e w4 ⟨⟨_, rfl⟩, hP4, ht4⟩
  have hq4 := hq3.granted hP4 ht4
  clear hq3 hP4 ht4
  have hd := hq4.drew
  obtain ⟨⟨e0, e2⟩, m0, m1, m2, m3, m4, m5⟩ := hq4.eight hs hbx
  go_wp2_with fail
  go_region_held3 (fun W => (W.cell? ⟨sb, off + 1, none⟩ = some (.pointer (some ⟨m, 0, none⟩)) ∧ W.cell? ⟨sb, off + 3, none⟩ = some (.pointer (some ⟨xa, 0, none⟩))) ∧ (W.cell? ⟨ob, 0, none⟩ = some (.int .i64 P) ∧ W.cell? ⟨ob, 1, none⟩ = some (.int .i64 T) ∧ W.cell? ⟨ob, 2, none⟩ = some (.int .i64 R) ∧ W.cell? ⟨ob, 3, none⟩ = some (.int .i64 b1) ∧ W.cell? ⟨ob, 4, none⟩ = some (.int .i64 b2) ∧ W.cell? ⟨ob, 5, none⟩ = some (.int .i64 b3)))
    (first | (with_reducible exact hd.eight hs hbx) | (with_reducible exact Pq.eight (by assumption) hs hbx))
    (first | (go_at_call 34; refine (who_at p a who true _ hd.port).mono ?_; rintro e w5 ⟨rfl, hqq5⟩; have hq5 := hd.quiet hqq5) | (go_at_call 33; refine (hq5.make i HQ.out.2.1 HQ.out.2.2 HL.out.2.2.2.2 HL.out.2.2.2.1 (by rw [HQ.out.1]; have := HL.out.1; omega)).mono ?_; rintro e w6 ⟨⟨_, rfl⟩, lm6, hv6, hq6⟩))
  clear hq4 hd hq5 hqq5 e0 e2 m0 m1 m2 m3 m4 m5
  obtain ⟨⟨e0, e2⟩, m0, m1, m2, m3, m4, m5⟩ := hq6.eight hs hbx
  go_wp2_with fail
  refine (again_at B xa hv6 _ _ hq6.tape).mono ?_
  rintro e w7 ⟨⟨_, rfl⟩, hT7, ht7⟩
  have hq7 := hq6.ask hT7 ht7
  have hL2 : (Tp.again { q1 with H := q1.H ++ [cs2.getD i 0] }).H.length ≤ 1000000 ∧ ∀ z ∈ (Tp.again { q1 with H := q1.H ++ [cs2.getD i 0] }).H, U64 z := by
    obtain ⟨hl, hU, hz, _, _⟩ := HL.out
    refine ⟨?_, fun z hz2 => ?_⟩
    · simp only [Tp.again, HQ.out.1, List.length_append, List.length_cons, List.length_nil]; omega
    · simp only [Tp.again, HQ.out.1, List.mem_append, List.mem_singleton] at hz2
      exact hz2.elim (hU z) (fun e => e ▸ hz)
  clear hq6 hT7 ht7 e0 e2 m0 m1 m2 m3 m4 m5
  have H3 := H2.out
  generalize Tp.again { q1 with H := q1.H ++ [cs2.getD i 0] } = tp2 at *
  have RP := Lib.hid (fun W (q : TapeAt W B xa hv6 tp2) => rpop_any P T R b1 b2 b3 t q hL2.1 hL2.2 hR ht)
  rw [H3] at RP
  clear H2 H3 hL2
  have hd := hq7.drew
  obtain ⟨⟨e0, e2⟩, m0, m1, m2, m3, m4, m5⟩ := hq7.eight hs hbx
  go_wp2_with fail
  go_region_held3 (fun W => (W.cell? ⟨sb, off + 1, none⟩ = some (.pointer (some ⟨m, 0, none⟩)) ∧ W.cell? ⟨sb, off + 3, none⟩ = some (.pointer (some ⟨xa, 0, none⟩))) ∧ (W.cell? ⟨ob, 0, none⟩ = some (.int .i64 P) ∧ W.cell? ⟨ob, 1, none⟩ = some (.int .i64 T) ∧ W.cell? ⟨ob, 2, none⟩ = some (.int .i64 R) ∧ W.cell? ⟨ob, 3, none⟩ = some (.int .i64 b1) ∧ W.cell? ⟨ob, 4, none⟩ = some (.int .i64 b2) ∧ W.cell? ⟨ob, 5, none⟩ = some (.int .i64 b3)))
    (first | (with_reducible exact hd.eight hs hbx) | (with_reducible exact Pq.eight (by assumption) hs hbx))
    (first | (go_at_call 37; refine (RP.out _ hd.tape).mono ?_; rintro e w8 ⟨rfl, hT8, ht8⟩; have hq8 := hd.ask hT8 ht8))
  clear hq7 hd RP hT8 ht8 e0 e2 m0 m1 m2 m3 m4 m5
  obtain ⟨⟨e0, e2⟩, m0, m1, m2, m3, m4, m5⟩ := hq8.eight hs hbx
  go_wp2_with fail
  refine (ST.out hq8).mono ?_
  rintro e w9 ⟨rfl, lv9, hq9⟩
  clear hq8 e0 e2 m0 m1 m2 m3 m4 m5
  have OV := Lib.hid (fun W (h : PopAt W m P T R t pv' tl' nx' fl) => over_pop h)
  rw [HO.out] at OV
  obtain ⟨⟨e0, e2⟩, m0, m1, m2, m3, m4, m5⟩ := hq9.eight hs hbx
  go_wp2_with fail
  refine (OV.out _ hq9.mach).mono ?_
  rintro e w10 ⟨rfl, hqq10⟩
  have hq10 := hq9.quiet hqq10
  clear hq9 hqq10 e0 e2 m0 m1 m2 m3 m4 m5
  obtain ⟨⟨e0, e2⟩, m0, m1, m2, m3, m4, m5⟩ := hq10.eight hs hbx
  go_wp2_with fail
  refine (empty_pop hq10.mach).mono ?_
  rintro e w11 ⟨rfl, hqq11⟩
  have hq11 := hq10.quiet hqq11
  clear e0 e2 m0 m1 m2 m3 m4 m5
  obtain ⟨⟨e0, e2⟩, m0, m1, m2, m3, m4, m5⟩ := hq11.eight hs hbx
  go_wp2_with fail
  refine (VL.out hq11.mach).mono ?_
  rintro e w12 ⟨rfl, hqq12⟩
  have hq12 := hq11.quiet hqq12
  clear e0 e2 m0 m1 m2 m3 m4 m5
  go_wp2
  go_ret
  exact ⟨rfl, _, _, _, hq12.debase BK.out.1 BK.out.2.1 BK.out.2.2.1 BK.out.2.2.2⟩
set_option maxRecDepth 100000 in
set_option maxHeartbeats 4000000 in
theorem pops_still {w0 w : World} {R0 : Nat → Prop} {B a c p m sb M d xa : Nat} {who : Int} {sc : Array Value} {o : Bool} {cs : List Int} {xs : List Value} {n : Nat} {cs2 : List Int} {xs2 : List Value} {n2 : Nat} {tp : Tp} {lv lm hv : Value} {P T R t pv tl nx : Int} {fu : Bool} (b1 b2 b3 : Int) (off : Nat) (bare : Bool)
    (h : Pq w0 R0 B a c p m sb M d xa who 87 49 sc (poCells P T R t pv tl nx fu) o cs xs n cs2 xs2 n2 tp lv lm hv w)
    (hs : Hid (sc[off + 1]? = some (.pointer (some ⟨m, 0, none⟩)) ∧ sc[off + 3]? = some (.pointer (some ⟨xa, 0, none⟩))))
    (hR : 1 ≤ R ∧ R ≤ 16) (ht : 0 ≤ t ∧ t ≤ 5) (hl : tp.H.length ≤ 100) (hU : ∀ z ∈ tp.H, U64 z) (ov : Bool) (vl : Int) (q1 : Tp) (h1 : popR R t tp.again = ((ov, fu, vl), q1)) (hov : (nx == 0) = ov) (hbo : (!ov && !bare) = false)
    (VL : Hid (∀ {W : World}, PopAt W m P T R t pv tl nx fu → Calls Try.prog 41 #[.pointer (some ⟨m, 0, none⟩)] W fun e W' => e = .returned (.int .u64 vl) ∧ Quiet W W'))
    (ST : Hid (∀ {w1 : World} {R1 : Nat → Prop} {cs3 : List Int} {xs3 : List Value} {n3 : Nat} {tp' : Tp} {lv' lm' hv' : Value} {W : World}, Pq w1 R1 B a c p m sb M d xa who 87 49 sc (poCells P T R t pv tl nx fu) o cs xs n cs3 xs3 n3 tp' lv' lm' hv' W →
      Calls Try.prog 38 #[.pointer (some ⟨m, 0, none⟩), .pointer (some ⟨p, 0, none⟩)] W fun e W' => e = .returned (.bool ov) ∧ ∃ lv'', Pq w1 R1 B a c p m sb M d xa who 87 49 sc (poCells P T R t pv tl nx fu) o cs xs n cs3 xs3 n3 tp' lv'' lm' hv' W')) :
    Calls Try.prog 13 #[.pointer (some ⟨sb, off, none⟩), .pointer (some ⟨p, 0, none⟩), .pointer (some ⟨M, 0, none⟩), .agg #[.int .i64 P, .int .i64 T, .int .i64 R, .int .i64 b1, .int .i64 b2, .int .i64 b3], .int .i64 t, .bool bare] w fun e w' => e = .returned (.bool true) ∧
      ∃ lv' lm' hv', Pq w0 R0 B a c p m sb M d xa who 87 49 sc (poCells P T R t pv tl nx fu) o cs xs n cs2 xs2 n2 q1 lv' lm' hv' w' := by
  have hbel : Below w.heap.size w (w.alloc (.cells #[.int .i64 P, .int .i64 T, .int .i64 R, .int .i64 b1, .int .i64 b2, .int .i64 b3] 38)) := (Below.refl _ _).alloc (Nat.le_refl _) _
  have hg := h.grew hbel
  have hq := hg.rebase
  have hbx : Hid (Blk (w.alloc (.cells #[.int .i64 P, .int .i64 T, .int .i64 R, .int .i64 b1, .int .i64 b2, .int .i64 b3] 38)) w.heap.size #[.int .i64 P, .int .i64 T, .int .i64 R, .int .i64 b1, .int .i64 b2, .int .i64 b3] 38 ∧ ¬ foot a c p m M d xa lv lm hv w.heap.size) :=
    Lib.hid ⟨Blk.new _ _ _, fun hf => by have := h.footL _ hf; omega⟩
  have BK := Lib.hid (And.intro hg.tch (And.intro hg.bw (And.intro (fun b => hg.footR b) hg.fx)))
  have H1 := Lib.hid h1
  have HL := Lib.hid (And.intro hl hU)
  have HO := Lib.hid hov
  clear h hg hbel h1 hl hU hov
  go_enter Try.func13, Try.ntmps13
  generalize foot a c p m M d xa lv lm hv = F at *
  obtain ⟨⟨e0, e2⟩, m0, m1, m2, m3, m4, m5⟩ := hq.eight hs hbx
  go_wp2_with fail
  generalize hwb : w.alloc _ = wb at *
  clear hwb
  generalize w.heap.size = ob at *
  refine (again_at B xa hv tp _ hq.tape).mono ?_
  rintro e w2 ⟨⟨_, rfl⟩, hT2, ht2⟩
  have hq2 := hq.ask hT2 ht2
  have RP := Lib.hid (fun W (q : TapeAt W B xa hv tp.again) => rpop_any P T R b1 b2 b3 t q (by have := HL.out.1; simp [Tp.again]; omega) HL.out.2 hR ht)
  rw [H1.out] at RP
  clear hq hT2 ht2 e0 e2 m0 m1 m2 m3 m4 m5
  have hd := hq2.drew
  obtain ⟨⟨e0, e2⟩, m0, m1, m2, m3, m4, m5⟩ := hq2.eight hs hbx
  go_wp2_with fail
  go_region_held3 (fun W => (W.cell? ⟨sb, off + 1, none⟩ = some (.pointer (some ⟨m, 0, none⟩)) ∧ W.cell? ⟨sb, off + 3, none⟩ = some (.pointer (some ⟨xa, 0, none⟩))) ∧ (W.cell? ⟨ob, 0, none⟩ = some (.int .i64 P) ∧ W.cell? ⟨ob, 1, none⟩ = some (.int .i64 T) ∧ W.cell? ⟨ob, 2, none⟩ = some (.int .i64 R) ∧ W.cell? ⟨ob, 3, none⟩ = some (.int .i64 b1) ∧ W.cell? ⟨ob, 4, none⟩ = some (.int .i64 b2) ∧ W.cell? ⟨ob, 5, none⟩ = some (.int .i64 b3)))
    (first | (with_reducible exact hd.eight hs hbx) | (with_reducible exact Pq.eight (by assumption) hs hbx))
    (first | (go_at_call 37; refine (RP.out _ hd.tape).mono ?_; rintro e w3 ⟨rfl, hT3, ht3⟩; have hq8 := hd.ask hT3 ht3))
  clear hq2 hd RP hT3 ht3 e0 e2 m0 m1 m2 m3 m4 m5
  have OV := Lib.hid (fun W (h : PopAt W m P T R t pv tl nx fu) => over_pop h)
  rw [HO.out] at OV
  obtain ⟨⟨e0, e2⟩, m0, m1, m2, m3, m4, m5⟩ := hq8.eight hs hbx
  cases ov with
  | true =>
    go_wp2_with fail
    refine (ST.out hq8).mono ?_
    rintro e w9 ⟨rfl, lv9, hq9⟩
    clear hq8 e0 e2 m0 m1 m2 m3 m4 m5
    obtain ⟨⟨e0, e2⟩, m0, m1, m2, m3, m4, m5⟩ := hq9.eight hs hbx
    go_wp2_with fail
    refine (OV.out _ hq9.mach).mono ?_
    rintro e w10 ⟨rfl, hqq10⟩
    have hq10 := hq9.quiet hqq10
    clear hq9 hqq10 e0 e2 m0 m1 m2 m3 m4 m5
    obtain ⟨⟨e0, e2⟩, m0, m1, m2, m3, m4, m5⟩ := hq10.eight hs hbx
    go_wp2_with fail
    refine (empty_pop hq10.mach).mono ?_
    rintro e w11 ⟨rfl, hqq11⟩
    have hq11 := hq10.quiet hqq11
    clear e0 e2 m0 m1 m2 m3 m4 m5
    obtain ⟨⟨e0, e2⟩, m0, m1, m2, m3, m4, m5⟩ := hq11.eight hs hbx
    go_wp2_with fail
    refine (VL.out hq11.mach).mono ?_
    rintro e w12 ⟨rfl, hqq12⟩
    have hq12 := hq11.quiet hqq12
    clear e0 e2 m0 m1 m2 m3 m4 m5
    go_wp2
    go_ret
    exact ⟨rfl, _, _, _, hq12.debase BK.out.1 BK.out.2.1 BK.out.2.2.1 BK.out.2.2.2⟩
  | false =>
    obtain rfl : bare = true := by cases bare <;> simp at hbo ⊢
    go_wp2_with fail
    refine (ST.out hq8).mono ?_
    rintro e w9 ⟨rfl, lv9, hq9⟩
    clear hq8 e0 e2 m0 m1 m2 m3 m4 m5
    obtain ⟨⟨e0, e2⟩, m0, m1, m2, m3, m4, m5⟩ := hq9.eight hs hbx
    go_wp2_with fail
    refine (OV.out _ hq9.mach).mono ?_
    rintro e w10 ⟨rfl, hqq10⟩
    have hq10 := hq9.quiet hqq10
    clear hq9 hqq10 e0 e2 m0 m1 m2 m3 m4 m5
    obtain ⟨⟨e0, e2⟩, m0, m1, m2, m3, m4, m5⟩ := hq10.eight hs hbx
    go_wp2_with fail
    refine (empty_pop hq10.mach).mono ?_
    rintro e w11 ⟨rfl, hqq11⟩
    have hq11 := hq10.quiet hqq11
    clear e0 e2 m0 m1 m2 m3 m4 m5
    obtain ⟨⟨e0, e2⟩, m0, m1, m2, m3, m4, m5⟩ := hq11.eight hs hbx
    go_wp2_with fail
    refine (VL.out hq11.mach).mono ?_
    rintro e w12 ⟨rfl, hqq12⟩
    have hq12 := hq11.quiet hqq12
    clear e0 e2 m0 m1 m2 m3 m4 m5
    go_wp2
    go_ret
    exact ⟨rfl, _, _, _, hq12.debase BK.out.1 BK.out.2.1 BK.out.2.2.1 BK.out.2.2.2⟩
end Go.Proofs.Ytamekeebgkdhcaa
