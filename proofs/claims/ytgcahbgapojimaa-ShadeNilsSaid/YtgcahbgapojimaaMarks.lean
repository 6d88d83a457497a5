/- What a step of shade's Mark does. Condition: the arena, its port and the machine are there, its cell is one of the arena's. -/
import Derived.Test.YtgcahbgapojimaaShada
namespace Go.Proofs.Ytgcahbgapojimaa
open Go.RowKit
/-- the machine that marks, the arena and the port -/
structure MkS (w0 : World) (B a c p m : Nat) (ce : Nat) (bi nx : Int) (fr : Bool) (cs : List Int) (xs : List Value) (n : Nat) (K : List Nat) (who : Int) (o : Bool) (w : World) : Prop where
  mach : MarkAt w m ce bi nx fr
  arx : Arx w B a c cs xs n K
  port : PortAt w p a who o
  touch : Touch (fun b => b = p ∨ b = m ∨ (B ≤ b ∧ b ∉ K)) w0 w
section
variable {w0 w w' : World} {B a c p m : Nat} {ce : Nat} {bi nx : Int} {fr : Bool} {cs : List Int} {xs : List Value} {n : Nat} {K : List Nat} {who : Int} {o : Bool}
theorem MkS.start (hM : MarkAt w m ce bi nx fr) (hA : Arx w B a c cs xs n K) (hP : PortAt w p a who o) : MkS w B a c p m ce bi nx fr cs xs n K who o w := ⟨hM, hA, hP, Touch.refl _ _⟩
theorem MkS.grew (h : MkS w0 B a c p m ce bi nx fr cs xs n K who o w) (hb : Below w.heap.size w w') : MkS w0 B a c p m ce bi nx fr cs xs n K who o w' :=
  ⟨h.mach.grew hb, h.arx.grew hb, h.port.grew hb, h.touch.trans (Touch.of hb)⟩
theorem MkS.quiet (h : MkS w0 B a c p m ce bi nx fr cs xs n K who o w) (hq : Quiet w w') : MkS w0 B a c p m ce bi nx fr cs xs n K who o w' := h.grew hq.below
theorem MkS.drew (h : MkS w0 B a c p m ce bi nx fr cs xs n K who o w) : MkS w0 B a c p m ce bi nx fr cs xs n K who o w.drew := h.quiet ⟨1, rfl⟩
theorem MkS.cells (h : MkS w0 B a c p m ce bi nx fr cs xs n K who o w) : w.cell? ⟨m, 0, none⟩ = some (.int .i64 ce) ∧ w.cell? ⟨m, 1, none⟩ = some (.int .u64 bi) := ⟨h.mach.val 0 rfl, h.mach.val 1 rfl⟩
theorem MkS.nextCell (h : MkS w0 B a c p m ce bi nx fr cs xs n K who o w) : w.cell? ⟨m, 2, none⟩ = some (.int .i64 nx) ∧ w.frozen? ⟨m, 2, none⟩ = false := ⟨h.mach.val 2 rfl, h.mach.frozen 2⟩
theorem MkS.freshCell (h : MkS w0 B a c p m ce bi nx fr cs xs n K who o w) : w.cell? ⟨m, 3, none⟩ = some (.bool fr) ∧ w.frozen? ⟨m, 3, none⟩ = false := ⟨h.mach.val 3 rfl, h.mach.frozen 3⟩
theorem MkS.next (h : MkS w0 B a c p m ce bi nx fr cs xs n K who o w) (hp : m ≠ p) (hm : m ∈ K) (x : Int) : MkS w0 B a c p m ce bi x fr cs xs n K who o (w.setCell ⟨m, 2, none⟩ (.int .i64 x)) :=
  have hT : Touch (fun b => b = m) w (w.setCell ⟨m, 2, none⟩ (.int .i64 x)) := (Touch.refl (fun b => b = m) w).setCell (p := ⟨m, 2, none⟩) rfl _
  ⟨h.mach.set 2 _, h.arx.touch hT (fun _ e => e ▸ hm), h.port.touch hT (Ne.symm hp), h.touch.trans (hT.mono fun _ _ e => .inr (.inl e))⟩
theorem MkS.fresh (h : MkS w0 B a c p m ce bi nx fr cs xs n K who o w) (hp : m ≠ p) (hm : m ∈ K) (x : Bool) : MkS w0 B a c p m ce bi nx x cs xs n K who o (w.setCell ⟨m, 3, none⟩ (.bool x)) :=
  have hT : Touch (fun b => b = m) w (w.setCell ⟨m, 3, none⟩ (.bool x)) := (Touch.refl (fun b => b = m) w).setCell (p := ⟨m, 3, none⟩) rfl _
  ⟨h.mach.set 3 _, h.arx.touch hT (fun _ e => e ▸ hm), h.port.touch hT (Ne.symm hp), h.touch.trans (hT.mono fun _ _ e => .inr (.inl e))⟩
theorem MkS.over (h : MkS w0 B a c p m ce bi nx fr cs xs n K who o w) :
    Calls Try.prog 57 #[.pointer (some ⟨m, 0, none⟩)] w fun e w' => e = .returned (.bool (nx == 0)) ∧ MkS w0 B a c p m ce bi nx fr cs xs n K who o w' :=
  (over_mark h.mach).mono fun _ _ ⟨he, hq⟩ => ⟨he, h.quiet hq⟩
theorem MkS.open' (h : MkS w0 B a c p m ce bi nx fr cs xs n K who o w) :
    Calls Try.prog 93 #[.pointer (some ⟨p, 0, none⟩)] w fun e w' => e = .returned (.bool o) ∧ MkS w0 B a c p m ce bi nx fr cs xs n K who o w' :=
  (open_at p a who o w h.port).mono fun _ _ ⟨he, hq⟩ => ⟨he, h.quiet hq⟩
theorem or_x {i : Nat} (v : Int) (hA : Arx w B a c cs xs n K) (hP : PortAt w p a who true) (hp : p ∈ K) (hn : n < 1000000) (hi : i < cs.length) :
    Calls Try.prog 101 #[.pointer (some ⟨p, 0, none⟩), .int .i64 i, .int .u64 v] w fun e w' => e = .returned (.int .u64 (cs.getD i 0)) ∧ ArxStep B a c p cs xs n K i who 5 0 v w w' := by
  obtain ⟨lv, hL, hg⟩ := hA.ex
  exact (or_log B a c p cs lv xs n 0 who i v w hL hP (fun e => hA.na (e ▸ hp)) (fun e => hA.nc (e ▸ hp)) (fun e => hg p e hp) hA.bw hn hi).mono fun e w' ⟨he, hs⟩ => ⟨he, hs.arx hA hL hg⟩
theorem MkS.or {i : Nat} (v : Int) (h : MkS w0 B a c p m ce bi nx fr cs xs n K who true w) (hmp : m ≠ p) (hm : m ∈ K) (hp : p ∈ K) (hn : n < 1000000) (hi : i < cs.length) :
    Calls Try.prog 101 #[.pointer (some ⟨p, 0, none⟩), .int .i64 i, .int .u64 v] w fun e w' => e = .returned (.int .u64 (cs.getD i 0)) ∧
      MkS w0 B a c p m ce bi nx fr (cs.set i (bits .or .u64 (cs.getD i 0) v)) (xs ++ accV who 5 i 0 v (cs.getD i 0) (bits .or .u64 (cs.getD i 0) v)) (n + 1) K who false w' := by
  refine (or_x v h.arx h.port hp hn hi).mono fun e w' ⟨he, h1, h2, h3⟩ => ⟨he, h.mach.touch h3 (fun r => r.elim hmp (fun r => r.2 hm)), h1, h2, h.touch.trans (h3.mono fun _ _ hr => hr.elim .inl (fun r => .inr (.inr r)))⟩
set_option maxRecDepth 100000 in
set_option maxHeartbeats 2000000 in
theorem mark_step (h : MkS w0 B a c p m ce bi 1 fr cs xs n K who true w) (hmp : m ≠ p) (hm : m ∈ K) (hp : p ∈ K) (hn : n < 1000000) (hi : ce < cs.length) :
    Calls Try.prog 56 #[.pointer (some ⟨m, 0, none⟩), .pointer (some ⟨p, 0, none⟩)] w fun e w' => e = .returned (.bool true) ∧
      MkS w0 B a c p m ce bi 0 (bits .and .u64 (cs.getD ce 0) bi == 0) (cs.set ce (bits .or .u64 (cs.getD ce 0) bi)) (xs ++ accV who 5 ce 0 bi (cs.getD ce 0) (bits .or .u64 (cs.getD ce 0) bi)) (n + 1) K who false w' := by
  have OR := Lib.hid (fun W (h : MkS w0 B a c p m ce bi 1 fr cs xs n K who true W) => h.or bi hmp hm hp hn hi)
  have Hmp := Lib.hid hmp
  clear hmp hi hn
  generalize cs.getD ce 0 = z at *
  go_enter Try.func56, Try.ntmps56
  go_wp2_with fail
  refine h.over.mono ?_; rintro e w1 ⟨rfl, h1⟩
  go_wp2_with fail
  refine h1.open'.mono ?_; rintro e w2 ⟨rfl, h2⟩
  go_wp2_with fail
  have hS := h2.drew
  clear h h1 h2
  go_region_held3 (fun W => W.cell? ⟨m, 0, none⟩ = some (.int .i64 ce) ∧ W.cell? ⟨m, 1, none⟩ = some (.int .u64 bi))
    (with_reducible exact MkS.cells (by assumption))
    (first | (go_at_call 101; refine (OR.out _ (by assumption)).mono ?_; rintro e w4 ⟨rfl, h4⟩; have n4 := h4.freshCell; have h5 := h4.fresh Hmp.out hm (bits .and .u64 z bi == 0)))
  have n5 := h5.nextCell
  have h6 := h5.next Hmp.out hm 0
  go_wp2
  go_ret
  exact ⟨rfl, h6⟩
theorem mark_over (h : MkS w0 B a c p m ce bi 0 fr cs xs n K who o w) :
    Calls Try.prog 56 #[.pointer (some ⟨m, 0, none⟩), .pointer (some ⟨p, 0, none⟩)] w fun e w' => e = .returned (.bool true) ∧ MkS w0 B a c p m ce bi 0 fr cs xs n K who o w' := by
  go_enter Try.func56, Try.ntmps56
  go_wp2_with fail
  refine h.over.mono ?_; rintro e w1 ⟨rfl, h1⟩
  go_wp2_with fail
  refine h1.over.mono ?_; rintro e w2 ⟨rfl, h2⟩
  go_wp2
  go_ret
  exact ⟨rfl, h2⟩
end
end Go.Proofs.Ytgcahbgapojimaa
