/- code's writer: names. Condition: its blocks are there. -/
import Derived.Test.YtffelcidckbohaaGCodeBack03
namespace Go.Proofs.Ytffelcidckbohaa
open Go.RowKit
set_option linter.unusedVariables false
def nameF (s : ByteArray) (i : Nat) : Res := .ok [s.data.toList.getD i 0]
def nameE (s : ByteArray) : Res := listE s.size 16 (nameF s)
theorem lenE_one (x : UInt8) : lenE (.ok [x]) 1 := fun l e => by injection e with e; subst e; simp
theorem lenE_name (s : ByteArray) : lenE (nameE s) 26 := lenE_list (by decide) fun _ _ => lenE_one _
set_option maxRecDepth 100000 in
set_option maxHeartbeats 2000000 in
theorem nam1_any (B b c1 c2 i : Nat) (l : List UInt8) (s : ByteArray) (K : Nat → Prop) (w : World) (h : WrX w B b l 0 K) (hc1 : Blk w c1 #[.pointer (some ⟨b, 0, none⟩)] 71) (hc2 : Blk w c2 #[.string s] 9) (hk1 : K c1) (hi' : i < s.size) (hl : l.length ≤ 1000000000) :
    Calls Try.prog 63 #[.int .i64 i, .pointer (some ⟨c1, 0, none⟩), .pointer (some ⟨c2, 0, none⟩)] w fun e' w' => (∃ u, e' = .returned u) ∧ WrP w' B b (andE (.ok l) (nameF s i)) K ∧ WrT B K w w' := by
  obtain ⟨i0, hi, hz0, hz1, hz2⟩ := info_parts info_u8
  obtain ⟨⟨v, h1, h2, h3⟩, h4, h5, h6, h7⟩ := h
  have hs : nameF s i = .ok [s[i]'hi'] := by
    unfold nameF
    rw [List.getD_eq_getElem?_getD, List.getElem?_eq_getElem (by simpa using hi')]
    rfl
  rw [hs]
  clear hs
  have c0 := h1.val 0 rfl
  have f0 := h1.frozen 0
  have d1 := hc1.val 0 rfl
  have d2 := hc2.val 0 rfl
  have i1 : (0 : Int) ≤ (i : Int) ∧ (i : Int) < (s.size : Int) := ⟨by omega, by omega⟩
  have Z := Lib.hid (And.intro hi (And.intro hz0 (And.intro hz1 hz2)))
  have lb := h1.lt
  have lc1 := hc1.lt
  have lc2 := hc2.lt
  clear hi hz0 hz1 hz2 hc2
  go_enter Try.func63, Try.ntmps63
  go_wp2
  go_region_law ((refine step_append_lies _ (by rfl) _ _ _ (by rfl) B 5 i0 _ 1 1 Try.underlying22 Z.out.1 Z.out.2.1 Z.out.2.2.1 Z.out.2.2.2 rfl (by omega) v l.length (u8L l) (by rfl) (own_drew (h2.alloc _)) ⟨w.heap.size, 0, none⟩ 1 1 [Value.int .u8 ((s[i]'hi').toNat : Int)] (by rfl) (by rfl) (World.news_of_block (cs := #[Value.int .u8 ((s[i]'hi').toNat : Int)]) (t := 5) (fr := (0, 0)) (heap_alloc_new w _)) (by simp [Value.oneCell']) (by omega) (by unfold maxLen; omega) (by omega) (by simp; omega) (w.heap.size + 1) (by simp) ?_; intro g cap w5 hown5 hgrow hat hlt; obtain ⟨hb1, hX1, hT1, hK5⟩ := Wr_app_d h1 h2 h3 h4 h5 h6 h7 hown5 hgrow hat; have d5 := (hc1.of (hK5 c1 hk1)).val 0 rfl; clear hK5; have k2 := hb1.val 0 rfl; have kf := hb1.frozen 0))
  all_goals
    go_wp2
    go_end0
    exact ⟨⟨_, rfl⟩, hX1, hT1⟩
end Go.Proofs.Ytffelcidckbohaa
