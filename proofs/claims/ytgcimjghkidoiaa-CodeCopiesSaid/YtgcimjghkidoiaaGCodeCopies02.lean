/- Texts of this seat, one behind the other: each says at its head what it holds. No condition of its own. -/
import Derived.Maps.AppendAt
import Derived.Laws.IdiomStrings
import Derived.Test.YtgcimjghkidoiaaGCodeCopies01
/- code's writer: its state as one fact; what number, kind and name of it do. Condition: its blocks are there. -/
namespace Go.Proofs.Ytgcimjghkidoiaa
open Go.RowKit
set_option linter.unusedVariables false
/-- bytes as cells -/
def u8L (l : List UInt8) : List Value := l.map fun b => Value.int .u8 (b.toNat : Int)
theorem u8L_app (l m : List UInt8) : u8L (l ++ m) = u8L l ++ u8L m := by simp [u8L]
theorem u8L_len (l : List UInt8) : (u8L l).length = l.length := by simp [u8L]
/-- a number's bytes: groups of seven bits, the least first -/
def numB (n : Nat) : List UInt8 := if h : 128 ≤ n then UInt8.ofNat (128 + n % 128) :: numB (n / 128) else [UInt8.ofNat n]
termination_by n
decreasing_by omega
theorem numB_lo {n : Nat} (h : n < 128) : numB n = [UInt8.ofNat n] := by rw [numB, dif_neg (by omega)]
theorem numB_hi {n : Nat} (h : 128 ≤ n) : numB n = UInt8.ofNat (128 + n % 128) :: numB (n / 128) := by rw [numB, dif_pos h]
theorem numB_pos (n : Nat) : 1 ≤ (numB n).length := by
  rw [numB]; split <;> simp
theorem numB_len (k : Nat) : ∀ n, n < 128 ^ (k + 1) → (numB n).length ≤ k + 1 := by
  induction k with
  | zero => intro n hn; rw [numB_lo (by simpa using hn)]; simp
  | succ k ih =>
    intro n hn
    by_cases h : 128 ≤ n
    · rw [numB_hi h, List.length_cons]
      have := ih (n / 128) (by rw [Nat.div_lt_iff_lt_mul (by decide)]; rw [Nat.pow_succ] at hn; exact hn)
      omega
    · rw [numB_lo (by omega)]; simp
set_option maxRecDepth 10000 in
theorem or128 (n : Nat) : bits .or .u8 ((n : Int) % 256) 128 = (((UInt8.ofNat (128 + n % 128)).toNat : Nat) : Int) := by
  have e : (n : Int) % 256 = ((n % 256 : Nat) : Int) := by omega
  have h : ∀ k : Nat, k < 256 → k ||| 128 = 128 + k % 128 := by decide
  rw [e, show (128 : Int) = ((128 : Nat) : Int) from rfl, u8_or_nat _ _ (by omega) (by omega), h _ (by omega)]
  simp
  omega
theorem lo8 (n : Nat) (h : n < 128) : (n : Int) = (((UInt8.ofNat n).toNat : Nat) : Int) := by
  simp
  omega
theorem u64_lt_pow : (18446744073709551616 : Nat) ≤ 128 ^ 10 := by
  rw [show (10 : Nat) = 5 + 5 from rfl, Nat.pow_add]
  decide

theorem numB_len10 {n : Nat} (h : n < 18446744073709551616) : (numB n).length ≤ 10 := by
  refine numB_len 9 n (Nat.lt_of_lt_of_le h ?_)
  exact u64_lt_pow

/-- The writer at block b: what it has written, and its error; its row lies at or behind block B; the blocks of K are none of its own. -/
structure WrX (w : World) (B b : Nat) (bs : List UInt8) (e : Int) (K : Nat → Prop) : Prop where
  ex : ∃ v, Blk w b #[v, .int .i64 e] 74 ∧ w.ownsRow B 5 1 v bs.length (u8L bs) ∧ ∀ g, v.ownBlock = some g → ¬ K g ∧ g ≠ b
  nb : ¬ K b
  bb : B ≤ b
  bw : B ≤ w.heap.size
  lt : ∀ x, K x → x < w.heap.size
/-- The same in error: of its row nothing is told. -/
structure WrE (w : World) (B b : Nat) (e : Int) (K : Nat → Prop) : Prop where
  ex : ∃ v, Blk w b #[v, .int .i64 e] 74
  nb : ¬ K b
  bb : B ≤ b
  bw : B ≤ w.heap.size
  lt : ∀ x, K x → x < w.heap.size
theorem WrX.e {w : World} {B b : Nat} {bs : List UInt8} {e : Int} {K : Nat → Prop} (h : WrX w B b bs e K) : WrE w B b e K := ⟨h.ex.imp fun _ q => q.1, h.nb, h.bb, h.bw, h.lt⟩
section
variable {w w' : World} {B b : Nat} {e : Int} {K : Nat → Prop}
theorem WrE.touch {R : Nat → Prop} (h : WrE w B b e K) (ht : Touch R w w') (hR : ∀ x, R x → K x) : WrE w' B b e K :=
  ⟨h.ex.imp fun _ q => q.touch ht (fun r => h.nb (hR _ r)), h.nb, h.bb, Nat.le_trans h.bw ht.size, fun x hx => Nat.lt_of_lt_of_le (h.lt x hx) ht.size⟩
theorem WrE.grew (h : WrE w B b e K) (hb : Below w.heap.size w w') : WrE w' B b e K := h.touch (R := fun _ => False) (Touch.of hb) (fun _ r => r.elim)
theorem WrE.add (h : WrE w B b e K) (hb : Below w.heap.size w w') {m : Nat} (hm : w.heap.size ≤ m) (hm' : m < w'.heap.size) : WrE w' B b e (fun x => x = m ∨ K x) := by
  have h0 := h.grew hb
  obtain ⟨v, hv⟩ := h.ex
  have lb := hv.lt
  refine ⟨h0.ex, fun r => r.elim (fun q => by omega) h.nb, h0.bb, h0.bw, fun x r => r.elim (fun q => by omega) (h0.lt x)⟩
theorem WrE.sub {K' : Nat → Prop} (h : WrE w B b e K) (hs : ∀ x, K' x → K x) : WrE w B b e K' := ⟨h.ex, fun r => h.nb (hs _ r), h.bb, h.bw, fun x hx => h.lt x (hs _ hx)⟩
theorem WrE.errCell (h : WrE w B b e K) : w.cell? ⟨b, 1, none⟩ = some (.int .i64 e) ∧ w.frozen? ⟨b, 1, none⟩ = false := by
  obtain ⟨v, h1⟩ := h.ex
  exact ⟨h1.val 1 rfl, h1.frozen 1⟩
end
def WrT (B : Nat) (K : Nat → Prop) (w w' : World) : Prop := Touch (fun x => B ≤ x ∧ ¬ K x) w w'
section
variable {w w' : World} {B b : Nat} {bs : List UInt8} {e : Int} {K : Nat → Prop}
theorem WrX.touch {R : Nat → Prop} (h : WrX w B b bs e K) (ht : Touch R w w') (hR : ∀ x, R x → K x) : WrX w' B b bs e K := by
  obtain ⟨⟨v, h1, h2, h3⟩, h4, h5, h6, h7⟩ := h
  refine ⟨⟨v, h1.touch ht (fun r => h4 (hR _ r)), ?_, h3⟩, h4, h5, Nat.le_trans h6 ht.size, fun x hx => Nat.lt_of_lt_of_le (h7 x hx) ht.size⟩
  obtain ⟨e1, e2⟩ := h2
  refine ⟨e1, ?_⟩
  rcases e2 with e2 | ⟨g, cap, cur, a1, a2, a3, a4⟩
  · exact .inl e2
  · refine .inr ⟨g, cap, cur, a1, a2, ?_, a4⟩
    rw [ht.block g (Array.getElem?_eq_some_iff.1 a3).1 (fun r => (h3 g (by rw [a1]; rfl)).1 (hR _ r))]
    exact a3
theorem WrX.grew (h : WrX w B b bs e K) (hb : Below w.heap.size w w') : WrX w' B b bs e K := h.touch (R := fun _ => False) (Touch.of hb) (fun _ r => r.elim)
theorem WrX.quiet (h : WrX w B b bs e K) (hq : Quiet w w') : WrX w' B b bs e K := h.grew hq.below
theorem WrX.add (h : WrX w B b bs e K) (hb : Below w.heap.size w w') {m : Nat} (hm : w.heap.size ≤ m) (hm' : m < w'.heap.size) : WrX w' B b bs e (fun x => x = m ∨ K x) := by
  have h0 := h.grew hb
  obtain ⟨⟨v, h1, h2, h3⟩, h4, h5, h6, h7⟩ := h
  obtain ⟨⟨v', i1, i2, i3⟩, i4, i5, i6, i7⟩ := h0
  have hv : v' = v := by
    have a1 := Blk.grew h1 hb
    unfold Blk at a1 i1
    rw [a1] at i1
    injection i1 with i1; injection i1 with i1
    have := congrArg (fun q => q[0]?) i1
    simpa using this.symm
  subst hv
  have lb := h1.lt
  refine ⟨⟨v', i1, i2, fun g hg => ⟨?_, (i3 g hg).2⟩⟩, ?_, i5, i6, ?_⟩
  · rintro (e | r)
    · have := (h2.lt g hg).2; omega
    · exact (i3 g hg).1 r
  · rintro (e | r)
    · omega
    · exact i4 r
  · rintro x (e | r)
    · omega
    · exact i7 x r
theorem WrX.sub {K' : Nat → Prop} (h : WrX w B b bs e K) (hs : ∀ x, K' x → K x) : WrX w B b bs e K' := by
  obtain ⟨⟨v, h1, h2, h3⟩, h4, h5, h6, h7⟩ := h
  exact ⟨⟨v, h1, h2, fun g hg => ⟨fun r => (h3 g hg).1 (hs _ r), (h3 g hg).2⟩⟩, fun r => h4 (hs _ r), h5, h6, fun x hx => h7 x (hs _ hx)⟩
theorem WrX.errCell (h : WrX w B b bs e K) : w.cell? ⟨b, 1, none⟩ = some (.int .i64 e) ∧ w.frozen? ⟨b, 1, none⟩ = false := by
  obtain ⟨⟨v, h1, h2, h3⟩, _⟩ := h
  exact ⟨h1.val 1 rfl, h1.frozen 1⟩
theorem WrX.fail (h : WrX w B b bs e K) (x : Int) : WrX (w.setCell ⟨b, 1, none⟩ (.int .i64 x)) B b bs x K ∧ WrT B K w (w.setCell ⟨b, 1, none⟩ (.int .i64 x)) := by
  have hT : Touch (fun y => y = b) w (w.setCell ⟨b, 1, none⟩ (.int .i64 x)) := (Touch.refl (fun y => y = b) w).setCell (p := ⟨b, 1, none⟩) rfl _
  obtain ⟨⟨v, h1, h2, h3⟩, h4, h5, h6, h7⟩ := h
  refine ⟨⟨⟨v, h1.set 1 _, ?_, h3⟩, h4, h5, Nat.le_trans h6 hT.size, fun y hy => Nat.lt_of_lt_of_le (h7 y hy) hT.size⟩, hT.mono fun y _ e => by subst e; exact ⟨h5, h4⟩⟩
  obtain ⟨e1, e2⟩ := h2
  refine ⟨e1, ?_⟩
  rcases e2 with e2 | ⟨g, cap, cur, a1, a2, a3, a4⟩
  · exact .inl e2
  · refine .inr ⟨g, cap, cur, a1, a2, ?_, a4⟩
    rw [hT.block g (Array.getElem?_eq_some_iff.1 a3).1 (h3 g (by rw [a1]; rfl)).2]
    exact a3
theorem WrE.fail (h : WrE w B b e K) (x : Int) : WrE (w.setCell ⟨b, 1, none⟩ (.int .i64 x)) B b x K ∧ WrT B K w (w.setCell ⟨b, 1, none⟩ (.int .i64 x)) := by
  have hT : Touch (fun y => y = b) w (w.setCell ⟨b, 1, none⟩ (.int .i64 x)) := (Touch.refl (fun y => y = b) w).setCell (p := ⟨b, 1, none⟩) rfl _
  exact ⟨⟨h.ex.imp fun _ q => q.set 1 _, h.nb, h.bb, Nat.le_trans h.bw hT.size, fun y hy => Nat.lt_of_lt_of_le (h.lt y hy) hT.size⟩, hT.mono fun y _ e => by subst e; exact ⟨h.bb, h.nb⟩⟩
/-- behind an append of one byte, the longer row stored into the writer -/
theorem Wr_app {v v' : Value} {x : UInt8} {tmp : Obj} {w1 : World} (h1 : Blk w b #[v, .int .i64 e] 74) (h2 : w.ownsRow B 5 1 v bs.length (u8L bs)) (h3 : ∀ g, v.ownBlock = some g → ¬ K g ∧ g ≠ b) (h4 : ¬ K b) (h5 : B ≤ b) (h6 : B ≤ w.heap.size) (h7 : ∀ x, K x → x < w.heap.size)
    (hown : w1.ownsRow B 5 1 v' (bs.length + 1) (u8L bs ++ [Value.int .u8 (x.toNat : Int)])) (hgrow : (w.alloc tmp).grownBy w1 v.ownBlock) (hat : v'.ownBlock = v.ownBlock ∨ v'.ownBlock = some (w.alloc tmp).heap.size) :
    Blk w1 b #[v, .int .i64 e] 74 ∧ WrX (w1.setCell ⟨b, 0, none⟩ v') B b (bs ++ [x]) e K ∧ WrT B K w (w1.setCell ⟨b, 0, none⟩ v') := by
  have lb := h1.lt
  have hT1 : Touch (fun y => B ≤ y ∧ ¬ K y) w w1 := ((Touch.refl _ w).alloc tmp).grown hgrow (fun k hk => .inl ⟨(h2.lt k hk).1, (h3 k hk).1⟩)
  have hb1 : Blk w1 b #[v, .int .i64 e] 74 := by
    refine (h1.alloc tmp).of (hgrow.block b (by simp; omega) (fun e => ?_))
    exact (h3 b e.symm).2 rfl
  have hT2 : Touch (fun y => y = b) w1 (w1.setCell ⟨b, 0, none⟩ v') := (Touch.refl (fun y => y = b) w1).setCell (p := ⟨b, 0, none⟩) rfl _
  have hn : ∀ g, v'.ownBlock = some g → ¬ K g ∧ g ≠ b := by
    intro g hg
    rcases hat with e | e
    · exact h3 g (e ▸ hg)
    · rw [e] at hg
      obtain rfl := Option.some.inj hg
      simp
      exact ⟨fun r => by have := h7 _ r; omega, by omega⟩
  refine ⟨hb1, ⟨⟨v', hb1.set 0 v', ?_, hn⟩, h4, h5, Nat.le_trans h6 (Nat.le_trans hT1.size hT2.size), fun y hy => Nat.lt_of_lt_of_le (h7 y hy) (Nat.le_trans hT1.size hT2.size)⟩, Touch.trans hT1 (hT2.mono fun y _ e => by subst e; exact ⟨h5, h4⟩)⟩
  obtain ⟨e1, e2⟩ := hown
  refine ⟨by simp [u8L], ?_⟩
  rcases e2 with e2 | ⟨g, cap, cur, a1, a2, a3, a4⟩
  · exact absurd e2.2 (by omega)
  · refine .inr ⟨g, cap, cur, by rw [a1]; simp, a2, ?_, by simpa [u8L] using a4⟩
    rw [hT2.block g (Array.getElem?_eq_some_iff.1 a3).1 (hn g (by rw [a1]; rfl)).2]
    exact a3
end
theorem row_shape {W : World} {base n : Nat} {e : TypeId} {v : Value} {k : Nat} {xs : List Value} (h : W.ownsRow base e n v k xs) : ∃ a c, v = .slice a k c := by
  rcases h.2 with ⟨h1, h2⟩ | ⟨g, cap, cur, h1, _⟩
  · subst h2; exact ⟨_, _, h1⟩
  · exact ⟨_, _, h1⟩
theorem info_u8 : (Try.prog.info? 5).map (fun i => (i.zero, i.size, i.bytes)) = some (some (.int .u8 0), 1, 1) := by kernel_rfl
theorem one_new (w : World) (x : Value) (t : TypeId) : ∀ j u, [x][j]? = some u → (w.alloc (.cells #[x] t)).cell? ((⟨w.heap.size, 0, none⟩ : Addr).add j) = some u := by
  intro j u hj
  match j, hj with
  | 0, hj => simp at hj; subst hj; simp [Addr.add]
set_option maxRecDepth 100000 in
set_option maxHeartbeats 1000000 in
theorem number_any (B b : Nat) (bs : List UInt8) (e : Int) (K : Nat → Prop) (n : Nat) (w : World) (h : WrX w B b bs e K) (hn : n < 18446744073709551616) (hl : bs.length ≤ 1000000000) :
    Calls Try.prog 53 #[.pointer (some ⟨b, 0, none⟩), .int .u64 n] w fun e' w' => (∃ u, e' = .returned u) ∧ WrX w' B b (bs ++ numB n) e K ∧ WrT B K w w' := by
  obtain ⟨i0, hi, hz0, hz1, hz2⟩ := info_parts info_u8
  have hl10 := numB_len10 hn
  have HN := Lib.hid hl10
  clear hl10
  go_enter Try.func53, Try.ntmps53
  go_wp2
  go_loopw [1] (fun x wr => ∃ (m : Nat) (cs : List UInt8), x = .int .u64 m ∧ m ≤ n ∧ WrX wr B b cs e K ∧ WrT B K w wr ∧ cs ++ numB m = bs ++ numB n) (fun x _ => (intOf x).toNat)
  case atStart => exact ⟨n, bs, rfl, Nat.le_refl _, h, Touch.refl _ _, rfl⟩
  case round =>
    obtain ⟨m, cs, rfl, hmn, hX, hT, heq⟩ := hrel
    obtain ⟨⟨v, h1, h2, h3⟩, h4, h5, h6, h7⟩ := hX
    have c0 := h1.val 0 rfl
    have hlen : cs.length + 1 ≤ bs.length + 10 := by
      have := congrArg List.length heq
      simp only [List.length_append] at this
      have := HN.out
      have := numB_pos m
      omega
    have HE := Lib.hid heq
    clear heq
    by_cases hm : 128 ≤ m
    · have hm' : (128 : Int) ≤ (m : Int) := by omega
      have HO := Lib.hid (or128 m)
      go_wp2_with (at_builtin; refine wpList_append_own_at _ rfl _ _ 22 rfl B 5 i0 (.int .u8 0) 1 1 Try.underlying22 hi hz0 hz1 hz2 rfl (by decide) _ _ _ rfl (h2.alloc _) ⟨wr.heap.size, 0, none⟩ 1 1 [Value.int .u8 ((UInt8.ofNat (128 + m % 128)).toNat : Int)] rfl rfl (by rw [HO.out]; exact one_new _ _ _) (by simp [Value.oneCell']) (by unfold maxLen; omega) (by omega) (by simp; omega) ?_; intro v' w1 hown' hgrow _ hat; obtain ⟨ga, gc, rfl⟩ := row_shape hown'; obtain ⟨hb1, hX1, hT1⟩ := Wr_app h1 h2 h3 h4 h5 h6 h7 hown' hgrow hat; have f1 := hb1.frozen 0; have g1 := hb1.val 0 rfl; clear hown' hgrow hat h1 h2 h3 h4 h5 h6 h7 hb1)
      go_roundw
      case rel => exact ⟨m / 128, _, by go_num, by omega, hX1, hT.trans hT1, by rw [List.append_assoc, List.singleton_append, ← numB_hi hm]; exact HE.out⟩
      case measure => simp [intOf]; omega
    · have hm' : ¬ (128 : Int) ≤ (m : Int) := by omega
      have HO := Lib.hid (lo8 m (by omega))
      go_wp2_with (at_builtin; refine wpList_append_own_at _ rfl _ _ 22 rfl B 5 i0 (.int .u8 0) 1 1 Try.underlying22 hi hz0 hz1 hz2 rfl (by decide) _ _ _ rfl (h2.alloc _) ⟨wr.heap.size, 0, none⟩ 1 1 [Value.int .u8 ((UInt8.ofNat m).toNat : Int)] rfl rfl (by rw [← HO.out]; exact one_new _ _ _) (by simp [Value.oneCell']) (by unfold maxLen; omega) (by omega) (by simp; omega) ?_; intro v' w1 hown' hgrow _ hat; obtain ⟨ga, gc, rfl⟩ := row_shape hown'; obtain ⟨hb1, hX1, hT1⟩ := Wr_app h1 h2 h3 h4 h5 h6 h7 hown' hgrow hat; have f1 := hb1.frozen 0; have g1 := hb1.val 0 rfl; clear hown' hgrow hat h1 h2 h3 h4 h5 h6 h7 hb1)
      go_end0
      exact ⟨⟨_, rfl⟩, by rw [← HE.out, numB_lo (by omega)]; exact hX1, hT.trans hT1⟩
end Go.Proofs.Ytgcimjghkidoiaa
/- code's writer, its small calls by what they do to bytes or an error: kind; lists. Condition: its blocks are there. -/
namespace Go.Proofs.Ytgcimjghkidoiaa
open Go.RowKit
set_option linter.unusedVariables false
abbrev Res := Except Int (List UInt8)
def andE (a b : Res) : Res := match a with | .error e => .error e | .ok l => match b with | .error e => .error e | .ok m => .ok (l ++ m)
theorem andE_ok (l m : List UInt8) : andE (.ok l) (.ok m) = .ok (l ++ m) := rfl
theorem andE_err (l : List UInt8) (e : Int) : andE (.ok l) (.error e) = .error e := rfl
theorem andE_nil (a : Res) : andE a (.ok []) = a := by cases a <;> simp [andE]
theorem nil_andE (a : Res) : andE (.ok []) a = a := by cases a <;> simp [andE]
theorem andE_assoc (a b c : Res) : andE (andE a b) c = andE a (andE b c) := by cases a <;> cases b <;> cases c <;> simp [andE]
def seqE (f : Nat → Res) : Nat → Res
  | 0 => .ok []
  | n + 1 => andE (seqE f n) (f n)
def listE (n most : Nat) (f : Nat → Res) : Res := if most < n then .error 3 else andE (.ok (numB n)) (seqE f n)
def lenE (r : Res) (M : Nat) : Prop := ∀ l, r = .ok l → l.length ≤ M
theorem lenE_and {a b : Res} {M N : Nat} (ha : lenE a M) (hb : lenE b N) : lenE (andE a b) (M + N) := by
  intro l h
  cases a with
  | error e => simp [andE] at h
  | ok x => cases b with
    | error e => simp [andE] at h
    | ok y => simp [andE] at h; subst h; have := ha x rfl; have := hb y rfl; simp; omega
theorem lenE_seq {f : Nat → Res} {n M : Nat} (hf : ∀ i, i < n → lenE (f i) M) : lenE (seqE f n) (n * M) := by
  induction n with
  | zero => intro l h; simp [seqE] at h; subst h; simp
  | succ n ih =>
    have := lenE_and (ih fun i hi => hf i (by omega)) (hf n (by omega))
    rw [show n * M + M = (n + 1) * M by rw [Nat.succ_mul]] at this
    exact this
theorem lenE_mono {r : Res} {M N : Nat} (h : lenE r M) (hN : M ≤ N) : lenE r N := fun l e => Nat.le_trans (h l e) hN
theorem lenE_list {f : Nat → Res} {n most M : Nat} (hm : most < 1000000) (hf : ∀ i, i < n → lenE (f i) M) : lenE (listE n most f) (10 + most * M) := by
  unfold listE
  split
  · intro l h; simp at h
  · have h1 : lenE (.ok (numB n)) 10 := fun l e => by injection e with e; subst e; exact numB_len10 (by omega)
    exact lenE_mono (lenE_and h1 (lenE_seq hf)) (Nat.add_le_add_left (Nat.mul_le_mul_right M (by omega)) 10)
theorem seqE_err {f : Nat → Res} {i : Nat} {e : Int} (h : seqE f i = .error e) : ∀ n, i ≤ n → seqE f n = .error e := by
  intro n hn
  induction n with
  | zero => obtain rfl : i = 0 := by omega
            exact h
  | succ n ih =>
    by_cases hi : i = n + 1
    · subst hi; exact h
    · show andE (seqE f n) (f n) = _
      rw [ih (by omega)]; rfl
def kindE (t : Int) : Res := if t = 0 ∨ t = 1 ∨ t = 2 then .ok [UInt8.ofNat t.toNat] else .error 32
theorem lenE_kind (t : Int) : lenE (kindE t) 1 := by
  intro l h; unfold kindE at h; split at h
  · injection h with h; subst h; simp
  · simp at h
/-- The writer with bytes, or in error. -/
def WrP (w : World) (B b : Nat) (r : Res) (K : Nat → Prop) : Prop := match r with | .ok l => WrX w B b l 0 K | .error e => e ≠ 0 ∧ WrE w B b e K
section
variable {w w' : World} {B b : Nat} {r : Res} {e : Int} {K K' : Nat → Prop}
theorem WrP.bw (h : WrP w B b r K) : B ≤ w.heap.size := by
  cases r with
  | ok l => exact WrX.bw h
  | error e => exact h.2.bw
theorem WrP.map {w' : World} (h : WrP w B b r K) (f : ∀ l, WrX w B b l 0 K → WrX w' B b l 0 K') (g : ∀ e, WrE w B b e K → WrE w' B b e K') : WrP w' B b r K' := by
  cases r with
  | ok l => exact f _ h
  | error e => exact ⟨h.1, g _ h.2⟩
theorem WrP.touch {R : Nat → Prop} (h : WrP w B b r K) (ht : Touch R w w') (hR : ∀ x, R x → K x) : WrP w' B b r K := h.map (fun _ q => q.touch ht hR) fun _ q => q.touch ht hR
theorem WrP.grew (h : WrP w B b r K) (hb : Below w.heap.size w w') : WrP w' B b r K := h.map (fun _ q => q.grew hb) fun _ q => q.grew hb
theorem WrP.add (h : WrP w B b r K) (hb : Below w.heap.size w w') {m : Nat} (hm : w.heap.size ≤ m) (hm' : m < w'.heap.size) : WrP w' B b r (fun x => x = m ∨ K x) := h.map (fun _ q => q.add hb hm hm') fun _ q => q.add hb hm hm'
theorem WrP.sub (h : WrP w B b r K) (hs : ∀ x, K' x → K x) : WrP w B b r K' := h.map (fun _ q => q.sub hs) fun _ q => q.sub hs
theorem WrT.refl (B : Nat) (K : Nat → Prop) (w : World) : WrT B K w w := Touch.refl _ _
theorem WrT.trans {a c d : World} (h : WrT B K a c) (k : WrT B K c d) : WrT B K a d := Touch.trans h k
theorem WrT.sub (h : WrT B K w w') (hs : ∀ x, K' x → K x) : WrT B K' w w' := Touch.mono h fun x _ hx => ⟨hx.1, fun r => hx.2 (hs _ r)⟩
theorem WrT.of (hb : Below w.heap.size w w') : WrT B K w w' := Touch.of hb
theorem WrT.below (h : WrT B K w w') (hB : B ≤ w.heap.size) : Below B w w' := Touch.below h hB fun _ r => r.1
theorem WrT.kept {c : Nat} {cs : Array Value} {t : TypeId} (h : WrT B K w w') (hc : Blk w c cs t) (hK : K c) : Blk w' c cs t := hc.touch h fun r => r.2 hK
end
theorem u8_of_int (t : Int) (h0 : 0 ≤ t) (h1 : t < 256) : t = (((UInt8.ofNat t.toNat).toNat : Nat) : Int) := by
  simp
  omega
theorem one_new' (w : World) (x : Value) (t : TypeId) {y : Value} (h : x = y) : ∀ j u, [x][j]? = some u → (w.alloc (.cells #[y] t)).cell? ((⟨w.heap.size, 0, none⟩ : Addr).add j) = some u := h ▸ one_new w x t
set_option maxRecDepth 100000 in
set_option maxHeartbeats 1000000 in
theorem kind_err (B b : Nat) (e : Int) (K : Nat → Prop) (t : Int) (w : World) (h : WrE w B b e K) (he : e ≠ 0) :
    Calls Try.prog 56 #[.pointer (some ⟨b, 0, none⟩), .int .i64 t] w fun e' w' => (∃ u, e' = .returned u) ∧ w = w' := by
  obtain ⟨h1, h2⟩ := h.errCell
  have he' : (e != 0) = true := by simpa using he
  clear h he
  go_enter Try.func56, Try.ntmps56
  go_wp2
  refine bodyPost_ret (results_none rfl _ _ _) rfl ?_
  exact ⟨⟨_, rfl⟩, rfl⟩
set_option maxRecDepth 100000 in
set_option maxHeartbeats 1000000 in
theorem kind_bad (B b : Nat) (l : List UInt8) (K : Nat → Prop) (t : Int) (w : World) (h : WrX w B b l 0 K) (ht : ¬ (t = 0 ∨ t = 1 ∨ t = 2)) :
    Calls Try.prog 56 #[.pointer (some ⟨b, 0, none⟩), .int .i64 t] w fun e' w' => (∃ u, e' = .returned u) ∧ WrX w' B b l 32 K ∧ WrT B K w w' := by
  obtain ⟨h1, h2⟩ := h.errCell
  have H := Lib.hid (h.fail 32)
  have t0 : (t != 0) = true := by simp; omega
  have t1 : (t != 1) = true := by simp; omega
  have t2 : (t != 2) = true := by simp; omega
  clear h ht
  go_enter Try.func56, Try.ntmps56
  go_wp2
  refine bodyPost_ret (results_none rfl _ _ _) rfl ?_
  exact ⟨⟨_, rfl⟩, H.out⟩
set_option maxRecDepth 100000 in
set_option maxHeartbeats 1000000 in
theorem kind_ok (B b : Nat) (l : List UInt8) (K : Nat → Prop) (t : Int) (w : World) (h : WrX w B b l 0 K) (ht : t = 0 ∨ t = 1 ∨ t = 2) (hl : l.length ≤ 1000000000) :
    Calls Try.prog 56 #[.pointer (some ⟨b, 0, none⟩), .int .i64 t] w fun e' w' => (∃ u, e' = .returned u) ∧ WrX w' B b (l ++ [UInt8.ofNat t.toNat]) 0 K ∧ WrT B K w w' := by
  obtain ⟨i0, hi, hz0, hz1, hz2⟩ := info_parts info_u8
  obtain ⟨⟨v, h1, h2, h3⟩, h4, h5, h6, h7⟩ := h
  have c0 := h1.val 0 rfl
  have c1 := h1.val 1 rfl
  have HL := Lib.hid hl
  rcases ht with rfl | rfl | rfl
  · go_enter Try.func56, Try.ntmps56
    go_wp2_with (at_builtin; refine wpList_append_own_at _ rfl _ _ 22 rfl B 5 i0 (.int .u8 0) 1 1 Try.underlying22 hi hz0 hz1 hz2 rfl (by decide) _ _ _ rfl (h2.alloc _) ⟨w.heap.size, 0, none⟩ 1 1 [Value.int .u8 ((UInt8.ofNat 0).toNat : Int)] rfl rfl (one_new' _ _ _ rfl) (by simp [Value.oneCell']) (by unfold maxLen; omega) (by omega) (by simp; omega) ?_; intro v' w1 hown' hgrow _ hat; obtain ⟨ga, gc, rfl⟩ := row_shape hown'; obtain ⟨hb1, hX1, hT1⟩ := Wr_app h1 h2 h3 h4 h5 h6 h7 hown' hgrow hat; have f1 := hb1.frozen 0; have g1 := hb1.val 0 rfl; clear hown' hgrow hat h1 h2 h3 h4 h5 h6 h7 hb1)
    go_end0
    exact ⟨⟨_, rfl⟩, hX1, hT1⟩
  · go_enter Try.func56, Try.ntmps56
    go_wp2_with (at_builtin; refine wpList_append_own_at _ rfl _ _ 22 rfl B 5 i0 (.int .u8 0) 1 1 Try.underlying22 hi hz0 hz1 hz2 rfl (by decide) _ _ _ rfl (h2.alloc _) ⟨w.heap.size, 0, none⟩ 1 1 [Value.int .u8 ((UInt8.ofNat 1).toNat : Int)] rfl rfl (one_new' _ _ _ rfl) (by simp [Value.oneCell']) (by unfold maxLen; omega) (by omega) (by simp; omega) ?_; intro v' w1 hown' hgrow _ hat; obtain ⟨ga, gc, rfl⟩ := row_shape hown'; obtain ⟨hb1, hX1, hT1⟩ := Wr_app h1 h2 h3 h4 h5 h6 h7 hown' hgrow hat; have f1 := hb1.frozen 0; have g1 := hb1.val 0 rfl; clear hown' hgrow hat h1 h2 h3 h4 h5 h6 h7 hb1)
    go_end0
    exact ⟨⟨_, rfl⟩, hX1, hT1⟩
  · go_enter Try.func56, Try.ntmps56
    go_wp2_with (at_builtin; refine wpList_append_own_at _ rfl _ _ 22 rfl B 5 i0 (.int .u8 0) 1 1 Try.underlying22 hi hz0 hz1 hz2 rfl (by decide) _ _ _ rfl (h2.alloc _) ⟨w.heap.size, 0, none⟩ 1 1 [Value.int .u8 ((UInt8.ofNat 2).toNat : Int)] rfl rfl (one_new' _ _ _ rfl) (by simp [Value.oneCell']) (by unfold maxLen; omega) (by omega) (by simp; omega) ?_; intro v' w1 hown' hgrow _ hat; obtain ⟨ga, gc, rfl⟩ := row_shape hown'; obtain ⟨hb1, hX1, hT1⟩ := Wr_app h1 h2 h3 h4 h5 h6 h7 hown' hgrow hat; have f1 := hb1.frozen 0; have g1 := hb1.val 0 rfl; clear hown' hgrow hat h1 h2 h3 h4 h5 h6 h7 hb1)
    go_end0
    exact ⟨⟨_, rfl⟩, hX1, hT1⟩
theorem kind_any (B b : Nat) (r : Res) (K : Nat → Prop) (t : Int) (w : World) (h : WrP w B b r K) (hl : lenE r 1000000000) :
    Calls Try.prog 56 #[.pointer (some ⟨b, 0, none⟩), .int .i64 t] w fun e' w' => (∃ u, e' = .returned u) ∧ WrP w' B b (andE r (kindE t)) K ∧ WrT B K w w' := by
  cases r with
  | error e =>
    obtain ⟨he, hX⟩ := h
    exact (kind_err B b e K t w hX he).mono fun e' w' ⟨hu, hw⟩ => ⟨hu, by subst hw; exact ⟨he, hX⟩, by subst hw; exact WrT.refl _ _ _⟩
  | ok l =>
    by_cases ht : t = 0 ∨ t = 1 ∨ t = 2
    · refine (kind_ok B b l K t w h ht (hl l rfl)).mono fun e' w' ⟨hu, hX, hT⟩ => ⟨hu, ?_, hT⟩
      rw [kindE, if_pos ht]; exact hX
    · refine (kind_bad B b l K t w h ht).mono fun e' w' ⟨hu, hX, hT⟩ => ⟨hu, ?_, hT⟩
      rw [kindE, if_neg ht]; exact ⟨by decide, hX.e⟩
end Go.Proofs.Ytgcimjghkidoiaa
