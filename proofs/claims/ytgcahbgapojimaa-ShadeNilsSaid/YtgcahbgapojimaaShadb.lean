/- What a step of shade's Shade does. Condition: the arena, its port and the three machines are there, the thread is there. -/
import Derived.Test.YtgcahbgapojimaaMarks
namespace Go.Proofs.Ytgcahbgapojimaa
open Go.RowKit
/-- the three machines, the arena and the port -/
structure ShS (w0 : World) (B a c p s mk pu : Nat) (P T R t rf : Int) (ce : Nat) (bi nx : Int) (lo : Bool) (mn : Int) (mf : Bool) (tl pn : Int) (fu : Bool) (cs : List Int) (xs : List Value) (n : Nat) (K : List Nat) (who : Int) (o : Bool) (w : World) : Prop where
  shade : ShadeAt w s rf mk (some ⟨pu, 0, none⟩) nx lo
  mark : MarkAt w mk ce bi mn mf
  push : PushAt w pu P T R t rf tl pn fu
  arx : Arx w B a c cs xs n K
  port : PortAt w p a who o
  touch : Touch (fun b => b = p ∨ b = s ∨ b = mk ∨ b = pu ∨ (B ≤ b ∧ b ∉ K)) w0 w
/-- what all its steps need -/
structure ShR (P T R t : Int) (p s mk pu ce : Nat) (cs : List Int) (K : List Nat) : Prop where
  ex : exB P T R t = true
  sp : s ≠ p
  sm : s ≠ mk
  su : s ≠ pu
  mp : mk ≠ p
  mu : mk ≠ pu
  up : pu ≠ p
  hs : s ∈ K
  hm : mk ∈ K
  hu : pu ∈ K
  hp : p ∈ K
  len : cs.length = cellsN P T R
  hc : ce < cs.length
theorem ShR.set {P T R t : Int} {p s mk pu ce : Nat} {cs : List Int} {K : List Nat} (h : ShR P T R t p s mk pu ce cs K) (i : Nat) (x : Int) : ShR P T R t p s mk pu ce (cs.set i x) K :=
  ⟨h.ex, h.sp, h.sm, h.su, h.mp, h.mu, h.up, h.hs, h.hm, h.hu, h.hp, by rw [List.length_set]; exact h.len, by rw [List.length_set]; exact h.hc⟩
section
variable {w0 w w' : World} {B a c p s mk pu ce : Nat} {P T R t rf bi nx mn tl pn : Int} {lo mf fu : Bool} {cs : List Int} {xs : List Value} {n : Nat} {K : List Nat} {who : Int} {o : Bool}
theorem ShS.grew (h : ShS w0 B a c p s mk pu P T R t rf ce bi nx lo mn mf tl pn fu cs xs n K who o w) (hb : Below w.heap.size w w') : ShS w0 B a c p s mk pu P T R t rf ce bi nx lo mn mf tl pn fu cs xs n K who o w' :=
  ⟨h.shade.grew hb, h.mark.grew hb, h.push.grew hb, h.arx.grew hb, h.port.grew hb, h.touch.trans (Touch.of hb)⟩
theorem ShS.quiet (h : ShS w0 B a c p s mk pu P T R t rf ce bi nx lo mn mf tl pn fu cs xs n K who o w) (hq : Quiet w w') : ShS w0 B a c p s mk pu P T R t rf ce bi nx lo mn mf tl pn fu cs xs n K who o w' := h.grew hq.below
theorem ShS.next (h : ShS w0 B a c p s mk pu P T R t rf ce bi nx lo mn mf tl pn fu cs xs n K who o w) (hr : ShR P T R t p s mk pu ce cs K) (x : Int) : ShS w0 B a c p s mk pu P T R t rf ce bi x lo mn mf tl pn fu cs xs n K who o (w.setCell ⟨s, 3, none⟩ (.int .i64 x)) :=
  have hT : Touch (fun b => b = s) w (w.setCell ⟨s, 3, none⟩ (.int .i64 x)) := (Touch.refl (fun b => b = s) w).setCell (p := ⟨s, 3, none⟩) rfl _
  ⟨h.shade.set 3 _, h.mark.touch hT (Ne.symm hr.sm), h.push.touch hT (Ne.symm hr.su), h.arx.touch hT (fun _ e => e ▸ hr.hs), h.port.touch hT (Ne.symm hr.sp), h.touch.trans (hT.mono fun _ _ e => .inr (.inl e))⟩
theorem ShS.lost (h : ShS w0 B a c p s mk pu P T R t rf ce bi nx lo mn mf tl pn fu cs xs n K who o w) (hr : ShR P T R t p s mk pu ce cs K) (x : Bool) : ShS w0 B a c p s mk pu P T R t rf ce bi nx x mn mf tl pn fu cs xs n K who o (w.setCell ⟨s, 4, none⟩ (.bool x)) :=
  have hT : Touch (fun b => b = s) w (w.setCell ⟨s, 4, none⟩ (.bool x)) := (Touch.refl (fun b => b = s) w).setCell (p := ⟨s, 4, none⟩) rfl _
  ⟨h.shade.set 4 _, h.mark.touch hT (Ne.symm hr.sm), h.push.touch hT (Ne.symm hr.su), h.arx.touch hT (fun _ e => e ▸ hr.hs), h.port.touch hT (Ne.symm hr.sp), h.touch.trans (hT.mono fun _ _ e => .inr (.inl e))⟩
theorem ShS.nextCell (h : ShS w0 B a c p s mk pu P T R t rf ce bi nx lo mn mf tl pn fu cs xs n K who o w) : w.cell? ⟨s, 3, none⟩ = some (.int .i64 nx) ∧ w.frozen? ⟨s, 3, none⟩ = false := ⟨h.shade.val 3 rfl, h.shade.frozen 3⟩
theorem ShS.lostCell (h : ShS w0 B a c p s mk pu P T R t rf ce bi nx lo mn mf tl pn fu cs xs n K who o w) : w.cell? ⟨s, 4, none⟩ = some (.bool lo) ∧ w.frozen? ⟨s, 4, none⟩ = false := ⟨h.shade.val 4 rfl, h.shade.frozen 4⟩
theorem ShS.ptrs (h : ShS w0 B a c p s mk pu P T R t rf ce bi nx lo mn mf tl pn fu cs xs n K who o w) : w.cell? ⟨s, 1, none⟩ = some (.pointer (some ⟨mk, 0, none⟩)) ∧ w.cell? ⟨s, 2, none⟩ = some (.pointer (some ⟨pu, 0, none⟩)) := ⟨h.shade.val 1 rfl, h.shade.val 2 rfl⟩
theorem ShS.over (h : ShS w0 B a c p s mk pu P T R t rf ce bi nx lo mn mf tl pn fu cs xs n K who o w) :
    Calls Try.prog 60 #[.pointer (some ⟨s, 0, none⟩)] w fun e w' => e = .returned (.bool (nx == 0)) ∧ ShS w0 B a c p s mk pu P T R t rf ce bi nx lo mn mf tl pn fu cs xs n K who o w' :=
  (over_shade h.shade).mono fun _ _ ⟨he, hq⟩ => ⟨he, h.quiet hq⟩
theorem ShS.open' (h : ShS w0 B a c p s mk pu P T R t rf ce bi nx lo mn mf tl pn fu cs xs n K who o w) :
    Calls Try.prog 93 #[.pointer (some ⟨p, 0, none⟩)] w fun e w' => e = .returned (.bool o) ∧ ShS w0 B a c p s mk pu P T R t rf ce bi nx lo mn mf tl pn fu cs xs n K who o w' :=
  (open_at p a who o w h.port).mono fun _ _ ⟨he, hq⟩ => ⟨he, h.quiet hq⟩
theorem ShS.grant (h : ShS w0 B a c p s mk pu P T R t rf ce bi nx lo mn mf tl pn fu cs xs n K who o w) (hr : ShR P T R t p s mk pu ce cs K) :
    Calls Try.prog 67 #[.pointer (some ⟨p, 0, none⟩)] w fun e w' => (∃ v, e = .returned v) ∧ ShS w0 B a c p s mk pu P T R t rf ce bi nx lo mn mf tl pn fu cs xs n K who true w' :=
  (grant_at p a who o w h.port).mono fun _ _ ⟨he, hP, hT⟩ => ⟨he, h.shade.touch hT hr.sp, h.mark.touch hT hr.mp, h.push.touch hT hr.up, h.arx.touch hT (fun _ e => e ▸ hr.hp), hP, h.touch.trans (hT.mono fun _ _ e => .inl e)⟩
theorem ShS.freshM (h : ShS w0 B a c p s mk pu P T R t rf ce bi nx lo mn mf tl pn fu cs xs n K who o w) :
    Calls Try.prog 58 #[.pointer (some ⟨mk, 0, none⟩)] w fun e w' => e = .returned (.bool mf) ∧ ShS w0 B a c p s mk pu P T R t rf ce bi nx lo mn mf tl pn fu cs xs n K who o w' :=
  (fresh_mark h.mark).mono fun _ _ ⟨he, hq⟩ => ⟨he, h.quiet hq⟩
theorem ShS.fullP (h : ShS w0 B a c p s mk pu P T R t rf ce bi nx lo mn mf tl pn fu cs xs n K who o w) :
    Calls Try.prog 28 #[.pointer (some ⟨pu, 0, none⟩)] w fun e w' => e = .returned (.bool fu) ∧ ShS w0 B a c p s mk pu P T R t rf ce bi nx lo mn mf tl pn fu cs xs n K who o w' :=
  (full_push h.push).mono fun _ _ ⟨he, hq⟩ => ⟨he, h.quiet hq⟩
theorem ShS.markStep (h : ShS w0 B a c p s mk pu P T R t rf ce bi nx lo 1 mf tl pn fu cs xs n K who true w) (hr : ShR P T R t p s mk pu ce cs K) (hn : n < 1000000) :
    Calls Try.prog 56 #[.pointer (some ⟨mk, 0, none⟩), .pointer (some ⟨p, 0, none⟩)] w fun e w' => e = .returned (.bool true) ∧ ShS w0 B a c p s mk pu P T R t rf ce bi nx lo 0 (bits .and .u64 (cs.getD ce 0) bi == 0) tl pn fu (cs.set ce (bits .or .u64 (cs.getD ce 0) bi)) (xs ++ accV who 5 ce 0 bi (cs.getD ce 0) (bits .or .u64 (cs.getD ce 0) bi)) (n + 1) K who false w' := by
  refine (mark_step (MkS.start h.mark h.arx h.port) hr.mp hr.hm hr.hp hn hr.hc).mono fun e w' ⟨he, hk⟩ => ⟨he, h.shade.touch hk.touch ?_, hk.mach, h.push.touch hk.touch ?_, hk.arx, hk.port, h.touch.trans (hk.touch.mono fun b _ e => ?_)⟩
  · rintro (e | e | ⟨_, e⟩)
    · exact hr.sp e
    · exact hr.sm e
    · exact e hr.hs
  · rintro (e | e | ⟨_, e⟩)
    · exact hr.up e
    · exact hr.mu e.symm
    · exact e hr.hu
  · rcases e with e | e | e
    · exact .inl e
    · exact .inr (.inr (.inl e))
    · exact .inr (.inr (.inr (.inr e)))
/-- what a step of the push leaves -/
theorem ShS.pushed {tl' pn' : Int} {fu' o' : Bool} {cs' : List Int} {xs' : List Value} {n' : Nat} (h : ShS w0 B a c p s mk pu P T R t rf ce bi nx lo mn mf tl pn fu cs xs n K who o w) (hr : ShR P T R t p s mk pu ce cs K) (hk : PuS w B a c p pu P T R t rf tl' pn' fu' cs' xs' n' K who o' w') : ShS w0 B a c p s mk pu P T R t rf ce bi nx lo mn mf tl' pn' fu' cs' xs' n' K who o' w' := by
  refine ⟨h.shade.touch hk.touch ?_, h.mark.touch hk.touch ?_, hk.mach, hk.arx, hk.port, h.touch.trans (hk.touch.mono fun b _ e => ?_)⟩
  · rintro (e | e | ⟨_, e⟩)
    · exact hr.sp e
    · exact hr.su e
    · exact e hr.hs
  · rintro (e | e | ⟨_, e⟩)
    · exact hr.mp e
    · exact hr.mu e
    · exact e hr.hm
  · rcases e with e | e | e
    · exact .inl e
    · exact .inr (.inr (.inr (.inl e)))
    · exact .inr (.inr (.inr (.inr e)))
theorem ShS.store {i : Nat} (x : Int) (h : ShS w0 B a c p s mk pu P T R t rf ce bi nx lo mn mf tl pn fu cs xs n K who true w) (hr : ShR P T R t p s mk pu ce cs K) (hn : n < 1000000) (hi : i < cs.length) :
    Calls Try.prog 96 #[.pointer (some ⟨p, 0, none⟩), .int .i64 i, .int .u64 x] w fun e w' => (∃ u, e = .returned u) ∧ ShS w0 B a c p s mk pu P T R t rf ce bi nx lo mn mf tl pn fu (cs.set i x) (xs ++ accV who 2 i 0 x (cs.getD i 0) x) (n + 1) K who false w' := by
  refine (store_x x h.arx h.port hr.hp hn hi).mono fun e w' ⟨he, h1, h2, h3⟩ => ⟨he, h.shade.touch h3 ?_, h.mark.touch h3 ?_, h.push.touch h3 ?_, h1, h2, h.touch.trans (h3.mono fun b _ e => ?_)⟩
  · exact fun r => r.elim hr.sp (fun r => r.2 hr.hs)
  · exact fun r => r.elim hr.mp (fun r => r.2 hr.hm)
  · exact fun r => r.elim hr.up (fun r => r.2 hr.hu)
  · exact e.elim .inl (fun e => .inr (.inr (.inr (.inr e))))

set_option maxRecDepth 100000 in
set_option maxHeartbeats 2000000 in
theorem shade_step1_fresh (h : ShS w0 B a c p s mk pu P T R t rf ce bi 1 lo 1 mf tl pn fu cs xs n K who true w) (hr : ShR P T R t p s mk pu ce cs K) (hn : n < 1000000) (hf : (bits .and .u64 (cs.getD ce 0) bi == 0) = true) :
    Calls Try.prog 59 #[.pointer (some ⟨s, 0, none⟩), .pointer (some ⟨p, 0, none⟩)] w fun e w' => e = .returned (.bool false) ∧ ShS w0 B a c p s mk pu P T R t rf ce bi 2 lo 0 true tl pn fu (cs.set ce (bits .or .u64 (cs.getD ce 0) bi)) (xs ++ accV who 5 ce 0 bi (cs.getD ce 0) (bits .or .u64 (cs.getD ce 0) bi)) (n + 1) K who false w' := by
  have MS := Lib.hid (fun W (h : ShS w0 B a c p s mk pu P T R t rf ce bi 1 lo 1 mf tl pn fu cs xs n K who true W) => h.markStep hr hn)
  rw [hf] at MS
  have HR := hr.set ce (bits .or .u64 (cs.getD ce 0) bi)
  clear hf hn
  generalize bits .or .u64 (cs.getD ce 0) bi = y at *
  generalize cs.getD ce 0 = z at *
  go_enter Try.func59, Try.ntmps59
  go_wp2_with fail
  refine h.over.mono ?_; rintro e w1 ⟨rfl, h1⟩
  go_wp2_with fail
  refine h1.open'.mono ?_; rintro e w2 ⟨rfl, h2⟩
  have n2 := h2.nextCell
  have p2 := h2.ptrs
  go_wp2_with fail
  refine (MS.out _ h2).mono ?_; rintro e w3 ⟨rfl, h3⟩
  have n3 := h3.nextCell
  have h4 := h3.next HR 0
  have p4 := h4.ptrs
  go_wp2_with fail
  refine h4.freshM.mono ?_; rintro e w5 ⟨rfl, h5⟩
  have n5 := h5.nextCell
  have h5 := h5.next HR 2
  go_wp2_with fail
  refine h5.over.mono ?_; rintro e w6 ⟨rfl, h6⟩
  go_wp2
  go_ret
  exact ⟨rfl, h6⟩

set_option maxRecDepth 100000 in
set_option maxHeartbeats 2000000 in
theorem shade_step1_seen (h : ShS w0 B a c p s mk pu P T R t rf ce bi 1 lo 1 mf tl pn fu cs xs n K who true w) (hr : ShR P T R t p s mk pu ce cs K) (hn : n < 1000000) (hf : (bits .and .u64 (cs.getD ce 0) bi == 0) = false) :
    Calls Try.prog 59 #[.pointer (some ⟨s, 0, none⟩), .pointer (some ⟨p, 0, none⟩)] w fun e w' => e = .returned (.bool true) ∧ ShS w0 B a c p s mk pu P T R t rf ce bi 0 lo 0 false tl pn fu (cs.set ce (bits .or .u64 (cs.getD ce 0) bi)) (xs ++ accV who 5 ce 0 bi (cs.getD ce 0) (bits .or .u64 (cs.getD ce 0) bi)) (n + 1) K who false w' := by
  have MS := Lib.hid (fun W (h : ShS w0 B a c p s mk pu P T R t rf ce bi 1 lo 1 mf tl pn fu cs xs n K who true W) => h.markStep hr hn)
  rw [hf] at MS
  have HR := hr.set ce (bits .or .u64 (cs.getD ce 0) bi)
  clear hf hn
  generalize bits .or .u64 (cs.getD ce 0) bi = y at *
  generalize cs.getD ce 0 = z at *
  go_enter Try.func59, Try.ntmps59
  go_wp2_with fail
  refine h.over.mono ?_; rintro e w1 ⟨rfl, h1⟩
  go_wp2_with fail
  refine h1.open'.mono ?_; rintro e w2 ⟨rfl, h2⟩
  have n2 := h2.nextCell
  have p2 := h2.ptrs
  go_wp2_with fail
  refine (MS.out _ h2).mono ?_; rintro e w3 ⟨rfl, h3⟩
  have n3 := h3.nextCell
  have h4 := h3.next HR 0
  have p4 := h4.ptrs
  go_wp2_with fail
  refine h4.freshM.mono ?_; rintro e w5 ⟨rfl, h5⟩
  skip
  go_wp2_with fail
  refine h5.over.mono ?_; rintro e w6 ⟨rfl, h6⟩
  go_wp2
  go_ret
  exact ⟨rfl, h6⟩

set_option maxRecDepth 100000 in
set_option maxHeartbeats 2000000 in
theorem shade_step2_on {tl' pn' : Int} {cs' : List Int} {xs' : List Value} {n' : Nat} (h : ShS w0 B a c p s mk pu P T R t rf ce bi 2 lo mn mf tl pn fu cs xs n K who true w) (hr : ShR P T R t p s mk pu ce cs K) (_hr' : ShR P T R t p s mk pu ce cs' K)
    (hst : ∀ W, PuS W B a c p pu P T R t rf tl pn fu cs xs n K who true W → Calls Try.prog 40 #[.pointer (some ⟨pu, 0, none⟩), .pointer (some ⟨p, 0, none⟩)] W fun e w' => e = .returned (.bool false) ∧ PuS W B a c p pu P T R t rf tl' pn' false cs' xs' n' K who false w') :
    Calls Try.prog 59 #[.pointer (some ⟨s, 0, none⟩), .pointer (some ⟨p, 0, none⟩)] w fun e w' => e = .returned (.bool false) ∧ ShS w0 B a c p s mk pu P T R t rf ce bi 2 lo mn mf tl' pn' false cs' xs' n' K who false w' := by
  have ST := Lib.hid (fun W (h : ShS w0 B a c p s mk pu P T R t rf ce bi 2 lo mn mf tl pn fu cs xs n K who true W) => (hst W (PuS.start h.push h.arx h.port)).mono (R' := fun e w' => e = .returned (.bool false) ∧ ShS w0 B a c p s mk pu P T R t rf ce bi 2 lo mn mf tl' pn' false cs' xs' n' K who false w') fun e w' ⟨he, hk⟩ => ⟨he, h.pushed hr hk⟩)
  clear hst
  go_enter Try.func59, Try.ntmps59
  go_wp2_with fail
  refine h.over.mono ?_; rintro e w1 ⟨rfl, h1⟩
  go_wp2_with fail
  refine h1.open'.mono ?_; rintro e w2 ⟨rfl, h2⟩
  have n2 := h2.nextCell
  have p2 := h2.ptrs
  go_wp2_with fail
  refine (ST.out _ h2).mono ?_; rintro e w3 ⟨rfl, h3⟩
  have n3 := h3.nextCell
  have p3 := h3.ptrs
  have h4 := h3
  go_wp2_with fail
  refine h4.fullP.mono ?_; rintro e w5 ⟨rfl, h5⟩
  skip
  go_wp2_with fail
  refine h5.over.mono ?_; rintro e w6 ⟨rfl, h6⟩
  go_wp2
  go_ret
  exact ⟨rfl, h6⟩

set_option maxRecDepth 100000 in
set_option maxHeartbeats 2000000 in
theorem shade_step2_over {tl' pn' : Int} {cs' : List Int} {xs' : List Value} {n' : Nat} (h : ShS w0 B a c p s mk pu P T R t rf ce bi 2 lo mn mf tl pn fu cs xs n K who true w) (hr : ShR P T R t p s mk pu ce cs K) (hr' : ShR P T R t p s mk pu ce cs' K)
    (hst : ∀ W, PuS W B a c p pu P T R t rf tl pn fu cs xs n K who true W → Calls Try.prog 40 #[.pointer (some ⟨pu, 0, none⟩), .pointer (some ⟨p, 0, none⟩)] W fun e w' => e = .returned (.bool true) ∧ PuS W B a c p pu P T R t rf tl' pn' false cs' xs' n' K who false w') :
    Calls Try.prog 59 #[.pointer (some ⟨s, 0, none⟩), .pointer (some ⟨p, 0, none⟩)] w fun e w' => e = .returned (.bool true) ∧ ShS w0 B a c p s mk pu P T R t rf ce bi 0 lo mn mf tl' pn' false cs' xs' n' K who false w' := by
  have ST := Lib.hid (fun W (h : ShS w0 B a c p s mk pu P T R t rf ce bi 2 lo mn mf tl pn fu cs xs n K who true W) => (hst W (PuS.start h.push h.arx h.port)).mono (R' := fun e w' => e = .returned (.bool true) ∧ ShS w0 B a c p s mk pu P T R t rf ce bi 2 lo mn mf tl' pn' false cs' xs' n' K who false w') fun e w' ⟨he, hk⟩ => ⟨he, h.pushed hr hk⟩)
  clear hst
  go_enter Try.func59, Try.ntmps59
  go_wp2_with fail
  refine h.over.mono ?_; rintro e w1 ⟨rfl, h1⟩
  go_wp2_with fail
  refine h1.open'.mono ?_; rintro e w2 ⟨rfl, h2⟩
  have n2 := h2.nextCell
  have p2 := h2.ptrs
  go_wp2_with fail
  refine (ST.out _ h2).mono ?_; rintro e w3 ⟨rfl, h3⟩
  have n3 := h3.nextCell
  have p3 := h3.ptrs
  have h4 := h3.next hr' 0
  have p4 := h4.ptrs
  go_wp2_with fail
  refine h4.fullP.mono ?_; rintro e w5 ⟨rfl, h5⟩
  skip
  go_wp2_with fail
  refine h5.over.mono ?_; rintro e w6 ⟨rfl, h6⟩
  go_wp2
  go_ret
  exact ⟨rfl, h6⟩

set_option maxRecDepth 100000 in
set_option maxHeartbeats 2000000 in
theorem shade_step2_full {tl' pn' : Int} {cs' : List Int} {xs' : List Value} {n' : Nat} (h : ShS w0 B a c p s mk pu P T R t rf ce bi 2 lo mn mf tl pn fu cs xs n K who true w) (hr : ShR P T R t p s mk pu ce cs K) (hr' : ShR P T R t p s mk pu ce cs' K)
    (hst : ∀ W, PuS W B a c p pu P T R t rf tl pn fu cs xs n K who true W → Calls Try.prog 40 #[.pointer (some ⟨pu, 0, none⟩), .pointer (some ⟨p, 0, none⟩)] W fun e w' => e = .returned (.bool true) ∧ PuS W B a c p pu P T R t rf tl' pn' true cs' xs' n' K who false w') :
    Calls Try.prog 59 #[.pointer (some ⟨s, 0, none⟩), .pointer (some ⟨p, 0, none⟩)] w fun e w' => e = .returned (.bool false) ∧ ShS w0 B a c p s mk pu P T R t rf ce bi 3 lo mn mf tl' pn' true cs' xs' n' K who false w' := by
  have ST := Lib.hid (fun W (h : ShS w0 B a c p s mk pu P T R t rf ce bi 2 lo mn mf tl pn fu cs xs n K who true W) => (hst W (PuS.start h.push h.arx h.port)).mono (R' := fun e w' => e = .returned (.bool true) ∧ ShS w0 B a c p s mk pu P T R t rf ce bi 2 lo mn mf tl' pn' true cs' xs' n' K who false w') fun e w' ⟨he, hk⟩ => ⟨he, h.pushed hr hk⟩)
  clear hst
  go_enter Try.func59, Try.ntmps59
  go_wp2_with fail
  refine h.over.mono ?_; rintro e w1 ⟨rfl, h1⟩
  go_wp2_with fail
  refine h1.open'.mono ?_; rintro e w2 ⟨rfl, h2⟩
  have n2 := h2.nextCell
  have p2 := h2.ptrs
  go_wp2_with fail
  refine (ST.out _ h2).mono ?_; rintro e w3 ⟨rfl, h3⟩
  have n3 := h3.nextCell
  have p3 := h3.ptrs
  have h4 := h3.next hr' 0
  have p4 := h4.ptrs
  go_wp2_with fail
  refine h4.fullP.mono ?_; rintro e w5 ⟨rfl, h5⟩
  have n5 := h5.nextCell
  have h5 := h5.next hr' 3
  go_wp2_with fail
  refine h5.over.mono ?_; rintro e w6 ⟨rfl, h6⟩
  go_wp2
  go_ret
  exact ⟨rfl, h6⟩

set_option maxRecDepth 100000 in
set_option maxHeartbeats 2000000 in
theorem shade_step3 (h : ShS w0 B a c p s mk pu P T R t rf ce bi 3 lo mn mf tl pn fu cs xs n K who true w) (hr : ShR P T R t p s mk pu ce cs K) (hn : n < 1000000) (h4 : 4 < cs.length) :
    Calls Try.prog 59 #[.pointer (some ⟨s, 0, none⟩), .pointer (some ⟨p, 0, none⟩)] w fun e w' => e = .returned (.bool true) ∧ ShS w0 B a c p s mk pu P T R t rf ce bi 0 true mn mf tl pn fu (cs.set 4 1) (xs ++ accV who 2 4 0 1 (cs.getD 4 0) 1) (n + 1) K who false w' := by
  have ST := Lib.hid (fun W (h : ShS w0 B a c p s mk pu P T R t rf ce bi 3 lo mn mf tl pn fu cs xs n K who true W) => h.store (i := 4) 1 hr hn h4)
  have HR := hr.set 4 1
  clear hn h4
  generalize cs.getD 4 0 = z at *
  go_enter Try.func59, Try.ntmps59
  go_wp2_with fail
  refine h.over.mono ?_; rintro e w1 ⟨rfl, h1⟩
  go_wp2_with fail
  refine h1.open'.mono ?_; rintro e w2 ⟨rfl, h2⟩
  have n2 := h2.nextCell
  have p2 := h2.ptrs
  go_wp2_with fail
  refine (ST.out _ h2).mono ?_; rintro e w3 ⟨⟨u3, rfl⟩, h3⟩
  have n3 := h3.lostCell
  have h4 := h3.lost HR true
  have n4 := h4.nextCell
  have h5 := h4.next HR 0
  go_wp2_with fail
  refine h5.over.mono ?_; rintro e w6 ⟨rfl, h6⟩
  go_wp2
  go_ret
  exact ⟨rfl, h6⟩
set_option maxRecDepth 100000 in
set_option maxHeartbeats 2000000 in
theorem shade_over (h : ShS w0 B a c p s mk pu P T R t rf ce bi 0 lo mn mf tl pn fu cs xs n K who o w) :
    Calls Try.prog 59 #[.pointer (some ⟨s, 0, none⟩), .pointer (some ⟨p, 0, none⟩)] w fun e w' => e = .returned (.bool true) ∧ ShS w0 B a c p s mk pu P T R t rf ce bi 0 lo mn mf tl pn fu cs xs n K who o w' := by
  go_enter Try.func59, Try.ntmps59
  go_wp2_with fail
  refine h.over.mono ?_; rintro e w1 ⟨rfl, h1⟩
  go_wp2_with fail
  refine h1.over.mono ?_; rintro e w2 ⟨rfl, h2⟩
  go_wp2
  go_ret
  exact ⟨rfl, h2⟩
end
end Go.Proofs.Ytgcahbgapojimaa
