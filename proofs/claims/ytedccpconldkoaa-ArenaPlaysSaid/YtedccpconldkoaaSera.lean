/- ArenaSerial: what holds between two calls, and that each call keeps it. No condition but that few calls are made. -/
import Derived.Test.YtedccpconldkoaaSerm
import Derived.Test.YtedccpconldkoaaNewa
namespace Go.Proofs.Ytedccpconldkoaa
open Go.RowKit
set_option linter.unusedVariables false

structure SerS (a c x : Nat) (wx : Int) (gx : Bool) (y : Nat) (wy : Int) (gy : Bool) (zs : List Int) (k : Nat) (w0 w : World) (cs : List Int) (lv : Value) (m : Nat) (f : Int) (F : Nat → Nat → Int) : Prop where
  ar : ArenaL w w0.heap.size a c cs lv (flat F (List.range m)) m f
  px : PortAt w x a wx gx
  py : PortAt w y a wy gy
  low : Below w0.heap.size w0 w
  len : cs.length = zs.length
  rep : repl F m 0 zs = (some cs, 0, 0)
  mlk : m ≤ k
  f0 : 0 ≤ f
  fk : f ≤ k
  la : w0.heap.size ≤ a
  lc : w0.heap.size ≤ c
  lx : w0.heap.size ≤ x
  ly : w0.heap.size ≤ y
  xa : x ≠ a
  xc : x ≠ c
  ya : y ≠ a
  yc : y ≠ c
  xy : x ≠ y
  vx : lv.ownBlock ≠ some x
  vy : lv.ownBlock ≠ some y
def SerAt (a c x : Nat) (wx : Int) (gx : Bool) (y : Nat) (wy : Int) (gy : Bool) (zs : List Int) (k : Nat) (w0 w : World) : Prop := ∃ cs lv m f F, SerS a c x wx gx y wy gy zs k w0 w cs lv m f F
variable {a c x y : Nat} {wx wy : Int} {gx gy : Bool} {zs : List Int} {k : Nat} {w0 w w' : World}
theorem SerAt.swap (h : SerAt a c x wx gx y wy gy zs k w0 w) : SerAt a c y wy gy x wx gx zs k w0 w := by
  obtain ⟨cs, lv, m, f, F, h⟩ := h
  exact ⟨cs, lv, m, f, F, ⟨h.ar, h.py, h.px, h.low, h.len, h.rep, h.mlk, h.f0, h.fk, h.la, h.lc, h.ly, h.lx, h.ya, h.yc, h.xa, h.xc, Ne.symm h.xy, h.vy, h.vx⟩⟩
theorem SerAt.more (h : SerAt a c x wx gx y wy gy zs k w0 w) : SerAt a c x wx gx y wy gy zs (k + 1) w0 w := by
  obtain ⟨cs, lv, m, f, F, h⟩ := h
  exact ⟨cs, lv, m, f, F, { h with mlk := Nat.le_succ_of_le h.mlk, fk := by have := h.fk; omega }⟩
theorem SerAt.low (h : SerAt a c x wx gx y wy gy zs k w0 w) : Below w0.heap.size w0 w := by
  obtain ⟨cs, lv, m, f, F, h⟩ := h
  exact h.low
theorem SerAt.quiet (h : SerAt a c x wx gx y wy gy zs k w0 w) (hq : Quiet w w') : SerAt a c x wx gx y wy gy zs k w0 w' := by
  obtain ⟨cs, lv, m, f, F, h⟩ := h
  exact ⟨cs, lv, m, f, F, { h with ar := h.ar.quiet hq, px := Blk.quiet h.px hq, py := Blk.quiet h.py hq, low := h.low.trans hq.below }⟩
theorem ser_grant (h : SerAt a c x wx gx y wy gy zs k w0 w) :
    Calls Try.prog 15 #[.pointer (some ⟨x, 0, none⟩)] w fun e w' => (∃ v, e = .returned v) ∧ SerAt a c x wx true y wy gy zs k w0 w' := by
  obtain ⟨cs, lv, m, f, F, h⟩ := h
  refine (grant_at x a wx gx w h.px).mono ?_
  rintro e w' ⟨he, hp, ht⟩
  exact ⟨he, cs, lv, m, f, F, { h with ar := h.ar.touch ht (Ne.symm h.xa) (Ne.symm h.xc) (fun g hg e => h.vx (e ▸ hg)), px := hp, py := h.py.touch ht (Ne.symm h.xy), low := h.low.trans (ht.below h.low.size (fun b hb => hb ▸ h.lx)) }⟩
theorem ser_log {cs : List Int} {lv : Value} {m : Nat} {f : Int} {F : Nat → Nat → Int} (h : SerS a c x wx true y wy gy zs k w0 w cs lv m f F) {kk want put : Int} {i : Nat} (hk : kindB kk = true) (hi : i < cs.length)
    (hs : LogStep w0.heap.size a c x cs lv (flat F (List.range m)) m f i wx kk want put w w') : SerAt a c x wx false y wy gy zs (k + 1) w0 w' := by
  obtain ⟨lv', hL, hP, hg, hT⟩ := hs
  rw [← flat_more] at hL
  have lx := Blk.lt h.px
  have ly := Blk.lt h.py
  have hy : PortAt w' y a wy gy := h.py.touch hT (fun e => by
    rcases e with e | e | e | e
    · exact h.ya e
    · exact h.yc e
    · exact h.xy e.symm
    · exact h.vy e)
  refine ⟨_, lv', m + 1, f, _, ⟨hL, hP, hy, h.low.trans (hT.below h.low.size (fun b hb => ?_)), by rw [List.length_set]; exact h.len, repl_more1 F m zs cs wx kk want put i h.rep hk hi, by have := h.mlk; omega, h.f0, by have := h.fk; omega, h.la, h.lc, h.lx, h.ly, h.xa, h.xc, h.ya, h.yc, h.xy, ?_, ?_⟩⟩
  · rcases hb with e | e | e | e
    · exact e ▸ h.la
    · exact e ▸ h.lc
    · exact e ▸ h.lx
    · exact (h.ar.own.lt b e).1
  · intro e
    rcases hg x e with e | e
    · exact h.vx e
    · omega
  · intro e
    rcases hg y e with e | e
    · exact h.vy e
    · omega
theorem ser_fault {cs : List Int} {lv : Value} {m : Nat} {f : Int} {F : Nat → Nat → Int} (h : SerS a c x wx true y wy gy zs k w0 w cs lv m f F) (hs : FaultStep a c x cs true lv m f wx w w') : SerAt a c x wx false y wy gy zs (k + 1) w0 w' := by
  obtain ⟨hA, hP, hT⟩ := hs
  refine ⟨cs, lv, m, f + 1, F, { h with ar := ⟨hA, ?_, h.ar.apa, h.ar.apc⟩, px := hP, py := h.py.touch hT (fun e => by rcases e with e | e; exact h.ya e; exact h.xy e.symm), low := h.low.trans (hT.below h.low.size (fun b hb => by rcases hb with e | e; exact e ▸ h.la; exact e ▸ h.lx)), mlk := Nat.le_succ_of_le h.mlk, f0 := by have := h.f0; omega, fk := by have := h.fk; omega }⟩
  refine ⟨h.ar.own.1, ?_⟩
  rcases h.ar.own.2 with hn | ⟨g, cap, cur, h1, h2, h3, rest⟩
  · exact .inl hn
  · have hg : lv.ownBlock = some g := by rw [h1]; rfl
    exact .inr ⟨g, cap, cur, h1, h2, (hT.block g (Array.getElem?_eq_some_iff.1 h3).1 (fun e => by rcases e with e | e; exact h.ar.apa (e ▸ hg); exact h.vx (e ▸ hg))).trans h3, rest⟩
theorem ser_load (h : SerAt a c x wx true y wy gy zs k w0 w) (hk : k < 1000) (hz : zs.length ≤ 1000) (at' : Int) :
    Calls Try.prog 18 #[.pointer (some ⟨x, 0, none⟩), .int .i64 at'] w fun e w' => (∃ v, e = .returned v) ∧ SerAt a c x wx false y wy gy zs (k + 1) w0 w' := by
  obtain ⟨cs, lv, m, f, F, h⟩ := h
  have hm := h.mlk
  have hf := h.fk
  by_cases hi : insB cs.length at' = true
  · have hi' := of_decide_eq_true hi
    obtain ⟨i, rfl⟩ := Int.eq_ofNat_of_zero_le hi'.1
    have hin : i < cs.length := by omega
    refine (load_log w0.heap.size a c x cs lv (flat F (List.range m)) m f wx i w h.ar h.px h.xa h.xc h.vx h.low.size (by omega) hin).mono ?_
    rintro e w' ⟨he, hs⟩
    exact ⟨by first | exact he | exact ⟨_, he⟩, ser_log h (by decide) hin hs⟩
  · refine (load_fault a c x cs true lv m f true wx at' w h.ar.at' h.px h.xa h.xc h.f0 (by omega) (.inr (by simpa using hi))).mono ?_
    rintro e w' ⟨he, hs⟩
    exact ⟨by first | exact he | exact ⟨_, he⟩, ser_fault h hs⟩
theorem ser_store (h : SerAt a c x wx true y wy gy zs k w0 w) (hk : k < 1000) (hz : zs.length ≤ 1000) (at' : Int) (v : Int) :
    Calls Try.prog 20 #[.pointer (some ⟨x, 0, none⟩), .int .i64 at', .int .u64 v] w fun e w' => (∃ v, e = .returned v) ∧ SerAt a c x wx false y wy gy zs (k + 1) w0 w' := by
  obtain ⟨cs, lv, m, f, F, h⟩ := h
  have hm := h.mlk
  have hf := h.fk
  by_cases hi : insB cs.length at' = true
  · have hi' := of_decide_eq_true hi
    obtain ⟨i, rfl⟩ := Int.eq_ofNat_of_zero_le hi'.1
    have hin : i < cs.length := by omega
    refine (store_log w0.heap.size a c x cs lv (flat F (List.range m)) m f wx i v w h.ar h.px h.xa h.xc h.vx h.low.size (by omega) hin).mono ?_
    rintro e w' ⟨he, hs⟩
    exact ⟨by first | exact he | exact ⟨_, he⟩, ser_log h (by decide) hin hs⟩
  · refine (store_fault a c x cs true lv m f true wx at' v w h.ar.at' h.px h.xa h.xc h.f0 (by omega) (.inr (by simpa using hi))).mono ?_
    rintro e w' ⟨he, hs⟩
    exact ⟨by first | exact he | exact ⟨_, he⟩, ser_fault h hs⟩
theorem ser_swap (h : SerAt a c x wx true y wy gy zs k w0 w) (hk : k < 1000) (hz : zs.length ≤ 1000) (at' : Int) (v : Int) :
    Calls Try.prog 21 #[.pointer (some ⟨x, 0, none⟩), .int .i64 at', .int .u64 v] w fun e w' => (∃ v, e = .returned v) ∧ SerAt a c x wx false y wy gy zs (k + 1) w0 w' := by
  obtain ⟨cs, lv, m, f, F, h⟩ := h
  have hm := h.mlk
  have hf := h.fk
  by_cases hi : insB cs.length at' = true
  · have hi' := of_decide_eq_true hi
    obtain ⟨i, rfl⟩ := Int.eq_ofNat_of_zero_le hi'.1
    have hin : i < cs.length := by omega
    refine (swap_log w0.heap.size a c x cs lv (flat F (List.range m)) m f wx i v w h.ar h.px h.xa h.xc h.vx h.low.size (by omega) hin).mono ?_
    rintro e w' ⟨he, hs⟩
    exact ⟨by first | exact he | exact ⟨_, he⟩, ser_log h (by decide) hin hs⟩
  · refine (swap_fault a c x cs true lv m f true wx at' v w h.ar.at' h.px h.xa h.xc h.f0 (by omega) (.inr (by simpa using hi))).mono ?_
    rintro e w' ⟨he, hs⟩
    exact ⟨by first | exact he | exact ⟨_, he⟩, ser_fault h hs⟩
theorem ser_cas (h : SerAt a c x wx true y wy gy zs k w0 w) (hk : k < 1000) (hz : zs.length ≤ 1000) (at' : Int) (want v : Int) :
    Calls Try.prog 22 #[.pointer (some ⟨x, 0, none⟩), .int .i64 at', .int .u64 want, .int .u64 v] w fun e w' => (∃ v, e = .returned v) ∧ SerAt a c x wx false y wy gy zs (k + 1) w0 w' := by
  obtain ⟨cs, lv, m, f, F, h⟩ := h
  have hm := h.mlk
  have hf := h.fk
  by_cases hi : insB cs.length at' = true
  · have hi' := of_decide_eq_true hi
    obtain ⟨i, rfl⟩ := Int.eq_ofNat_of_zero_le hi'.1
    have hin : i < cs.length := by omega
    refine (cas_log w0.heap.size a c x cs lv (flat F (List.range m)) m f wx i want v w h.ar h.px h.xa h.xc h.vx h.low.size (by omega) hin).mono ?_
    rintro e w' ⟨he, hs⟩
    exact ⟨by first | exact he | exact ⟨_, he⟩, ser_log h (by decide) hin hs⟩
  · refine (cas_fault a c x cs true lv m f true wx at' want v w h.ar.at' h.px h.xa h.xc h.f0 (by omega) (.inr (by simpa using hi))).mono ?_
    rintro e w' ⟨he, hs⟩
    exact ⟨by first | exact he | exact ⟨_, he⟩, ser_fault h hs⟩
theorem ser_or (h : SerAt a c x wx true y wy gy zs k w0 w) (hk : k < 1000) (hz : zs.length ≤ 1000) (at' : Int) (v : Int) :
    Calls Try.prog 16 #[.pointer (some ⟨x, 0, none⟩), .int .i64 at', .int .u64 v] w fun e w' => (∃ v, e = .returned v) ∧ SerAt a c x wx false y wy gy zs (k + 1) w0 w' := by
  obtain ⟨cs, lv, m, f, F, h⟩ := h
  have hm := h.mlk
  have hf := h.fk
  by_cases hi : insB cs.length at' = true
  · have hi' := of_decide_eq_true hi
    obtain ⟨i, rfl⟩ := Int.eq_ofNat_of_zero_le hi'.1
    have hin : i < cs.length := by omega
    refine (or_log w0.heap.size a c x cs lv (flat F (List.range m)) m f wx i v w h.ar h.px h.xa h.xc h.vx h.low.size (by omega) hin).mono ?_
    rintro e w' ⟨he, hs⟩
    exact ⟨by first | exact he | exact ⟨_, he⟩, ser_log h (by decide) hin hs⟩
  · refine (or_fault a c x cs true lv m f true wx at' v w h.ar.at' h.px h.xa h.xc h.f0 (by omega) (.inr (by simpa using hi))).mono ?_
    rintro e w' ⟨he, hs⟩
    exact ⟨by first | exact he | exact ⟨_, he⟩, ser_fault h hs⟩
theorem ser_and (h : SerAt a c x wx true y wy gy zs k w0 w) (hk : k < 1000) (hz : zs.length ≤ 1000) (at' : Int) (v : Int) :
    Calls Try.prog 23 #[.pointer (some ⟨x, 0, none⟩), .int .i64 at', .int .u64 v] w fun e w' => (∃ v, e = .returned v) ∧ SerAt a c x wx false y wy gy zs (k + 1) w0 w' := by
  obtain ⟨cs, lv, m, f, F, h⟩ := h
  have hm := h.mlk
  have hf := h.fk
  by_cases hi : insB cs.length at' = true
  · have hi' := of_decide_eq_true hi
    obtain ⟨i, rfl⟩ := Int.eq_ofNat_of_zero_le hi'.1
    have hin : i < cs.length := by omega
    refine (and_log w0.heap.size a c x cs lv (flat F (List.range m)) m f wx i v w h.ar h.px h.xa h.xc h.vx h.low.size (by omega) hin).mono ?_
    rintro e w' ⟨he, hs⟩
    exact ⟨by first | exact he | exact ⟨_, he⟩, ser_log h (by decide) hin hs⟩
  · refine (and_fault a c x cs true lv m f true wx at' v w h.ar.at' h.px h.xa h.xc h.f0 (by omega) (.inr (by simpa using hi))).mono ?_
    rintro e w' ⟨he, hs⟩
    exact ⟨by first | exact he | exact ⟨_, he⟩, ser_fault h hs⟩
end Go.Proofs.Ytedccpconldkoaa
