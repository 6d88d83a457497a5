/- The walks of the laws on headers that use the program alone: headed, Words, HeaderBack. No condition but that each number fits its kind. -/
import Derived.Deep.DeepCutAuto
import Derived.Test.YtnodeojeijekcaaGreatGB14
namespace Go.Proofs.YtnodeojeijekcaaGreat
open Go.RowKit

theorem encH_U64 {c k l : Int} (h : headB c k l = true) : U64 (encH c k l) := by
  have := headB_bd h
  unfold encH
  exact ⟨by omega, by omega⟩
theorem encE_U64 {k c s o y : Int} (h : entB k c s o y = true) : U64 (encE k c s o y) := by
  have := entB_bd h
  unfold encE
  exact ⟨by omega, by omega⟩
theorem dec_of_enc {c k l : Int} (h : headB c k l = true) : encH c k l / 256 % 256 = c ∧ encH c k l % 256 = k ∧ encH c k l / 65536 % 256 = l ∧ decOk (encH c k l) = true := by
  have hb := headB_bd h
  have e1 : encH c k l / 256 % 256 = c := by unfold encH; omega
  have e2 : encH c k l % 256 = k := by unfold encH; omega
  have e3 : encH c k l / 65536 % 256 = l := by unfold encH; omega
  refine ⟨e1, e2, e3, ?_⟩
  unfold decOk
  rw [e1, e2, e3, h]
  simp
theorem edec_of_enc {k c s o y : Int} (h : entB k c s o y = true) : encE k c s o y % 4 = k ∧ encE k c s o y / 4 % 16 = c ∧ encE k c s o y / 64 % 4 = s ∧ encE k c s o y / 256 % 16 = o ∧ encE k c s o y / 65536 % 4294967296 = y ∧ edecOk (encE k c s o y) = true := by
  have hb := entB_bd h
  have e1 : encE k c s o y % 4 = k := by unfold encE; omega
  have e2 : encE k c s o y / 4 % 16 = c := by unfold encE; omega
  have e3 : encE k c s o y / 64 % 4 = s := by unfold encE; omega
  have e4 : encE k c s o y / 256 % 16 = o := by unfold encE; omega
  have e5 : encE k c s o y / 65536 % 4294967296 = y := by unfold encE; omega
  refine ⟨e1, e2, e3, e4, e5, ?_⟩
  unfold edecOk
  rw [e1, e2, e3, e4, e5, h]
  simp

/-! boxes of one's own, read in a world that has only grown -/
def HeadAt (W : World) (b : Nat) (c k l : Int) : Prop := W.cell? ⟨b, 0, none⟩ = some (.int .i64 c) ∧ W.cell? ⟨b, 1, none⟩ = some (.int .i64 k) ∧ W.cell? ⟨b, 2, none⟩ = some (.int .i64 l)
def EntAt (W : World) (b : Nat) (k c s o y : Int) : Prop := W.cell? ⟨b, 0, none⟩ = some (.int .i64 k) ∧ W.cell? ⟨b, 1, none⟩ = some (.int .i64 c) ∧ W.cell? ⟨b, 2, none⟩ = some (.int .i64 s) ∧ W.cell? ⟨b, 3, none⟩ = some (.int .i64 o) ∧ W.cell? ⟨b, 4, none⟩ = some (.int .i64 y)
theorem HeadAt.lt {W : World} {b : Nat} {c k l : Int} (h : HeadAt W b c k l) : b < W.heap.size := World.block_lt_of_cell? W ⟨b, 0, none⟩ h.1
theorem EntAt.lt {W : World} {b : Nat} {k c s o y : Int} (h : EntAt W b k c s o y) : b < W.heap.size := World.block_lt_of_cell? W ⟨b, 0, none⟩ h.1
theorem HeadAt.below {W W' : World} {b : Nat} {c k l : Int} (h : HeadAt W b c k l) (hb : Below W.heap.size W W') : HeadAt W' b c k l :=
  ⟨(hb.cell (p := ⟨b, 0, none⟩) h.lt).trans h.1, (hb.cell (p := ⟨b, 1, none⟩) h.lt).trans h.2.1, (hb.cell (p := ⟨b, 2, none⟩) h.lt).trans h.2.2⟩
theorem EntAt.below {W W' : World} {b : Nat} {k c s o y : Int} (h : EntAt W b k c s o y) (hb : Below W.heap.size W W') : EntAt W' b k c s o y :=
  ⟨(hb.cell (p := ⟨b, 0, none⟩) h.lt).trans h.1, (hb.cell (p := ⟨b, 1, none⟩) h.lt).trans h.2.1, (hb.cell (p := ⟨b, 2, none⟩) h.lt).trans h.2.2.1, (hb.cell (p := ⟨b, 3, none⟩) h.lt).trans h.2.2.2.1, (hb.cell (p := ⟨b, 4, none⟩) h.lt).trans h.2.2.2.2⟩
theorem headAt_new (W : World) (c k l : Int) (t : TypeId) : HeadAt (W.alloc (.cells #[.int .i64 c, .int .i64 k, .int .i64 l] t)) W.heap.size c k l := by
  refine ⟨?_, ?_, ?_⟩ <;> (rw [World.cell?_alloc_new]; rfl)
theorem entAt_new (W : World) (k c s o y : Int) (t : TypeId) : EntAt (W.alloc (.cells #[.int .i64 k, .int .i64 c, .int .i64 s, .int .i64 o, .int .i64 y] t)) W.heap.size k c s o y := by
  refine ⟨?_, ?_, ?_, ?_, ?_⟩ <;> (rw [World.cell?_alloc_new]; rfl)
theorem HeadAt.alloc {W : World} {b : Nat} {c k l : Int} (h : HeadAt W b c k l) (o : Obj) : HeadAt (W.alloc o) b c k l := h.below ((Below.refl _ _).alloc (Nat.le_refl _) _)
theorem EntAt.alloc {W : World} {b : Nat} {k c s o y : Int} (h : EntAt W b k c s o y) (ob : Obj) : EntAt (W.alloc ob) b k c s o y := h.below ((Below.refl _ _).alloc (Nat.le_refl _) _)

/-! the same contracts, whatever is given -/
def encV (c k l : Int) : Int := if headB c k l then encH c k l else 0
def encF (c k l : Int) : Int := if headB c k l then 0 else 4
def eencV (k c s o y : Int) : Int := if entB k c s o y then encE k c s o y else 0
def eencF (k c s o y : Int) : Int := if entB k c s o y then 0 else 4
def decD (b : Bool) (n : Int) : Int := if b then n else 0
def decF (b : Bool) : Int := if b then 0 else 4
theorem eenc_any (k c s o y : Int) (w : World) :
    Calls Tryz.prog 86 #[.agg #[.int .i64 k, .int .i64 c, .int .i64 s, .int .i64 o, .int .i64 y]] w fun e w' => e = .returned (.tuple #[.int .u64 (eencV k c s o y), .int .i64 (eencF k c s o y)]) ∧ Below w.heap.size w w' := by
  unfold eencV eencF
  cases h : entB k c s o y with
  | true => exact eenc_yes k c s o y w h
  | false => exact eenc_no k c s o y w h
theorem edec_any (x : Int) (w : World) (hx : U64 x) :
    Calls Tryz.prog 72 #[.int .u64 x] w fun e w' => e = .returned (.tuple #[.agg #[.int .i64 (decD (edecOk x) (x % 4)), .int .i64 (decD (edecOk x) (x / 4 % 16)), .int .i64 (decD (edecOk x) (x / 64 % 4)), .int .i64 (decD (edecOk x) (x / 256 % 16)), .int .i64 (decD (edecOk x) (x / 65536 % 4294967296))], .int .i64 (decF (edecOk x))]) ∧ Below w.heap.size w w' := by
  unfold decD decF
  cases h : edecOk x with
  | true => exact edec_yes x w hx h
  | false => exact edec_no x w hx h
theorem enc_of_dec {x : Int} (h : decOk x = true) : headB (decD (decOk x) (x / 256 % 256)) (decD (decOk x) (x % 256)) (decD (decOk x) (x / 65536 % 256)) = true ∧ encH (decD (decOk x) (x / 256 % 256)) (decD (decOk x) (x % 256)) (decD (decOk x) (x / 65536 % 256)) = x := by
  rw [h]
  unfold decOk at h
  rw [Bool.and_eq_true, beq_iff_eq] at h
  exact h
theorem eenc_of_dec {x : Int} (h : edecOk x = true) : entB (decD (edecOk x) (x % 4)) (decD (edecOk x) (x / 4 % 16)) (decD (edecOk x) (x / 64 % 4)) (decD (edecOk x) (x / 256 % 16)) (decD (edecOk x) (x / 65536 % 4294967296)) = true ∧
    encE (decD (edecOk x) (x % 4)) (decD (edecOk x) (x / 4 % 16)) (decD (edecOk x) (x / 64 % 4)) (decD (edecOk x) (x / 256 % 16)) (decD (edecOk x) (x / 65536 % 4294967296)) = x := by
  rw [h]
  unfold edecOk at h
  rw [Bool.and_eq_true, beq_iff_eq] at h
  exact h
theorem decF_yes {b : Bool} (h : b = true) : (decF b == 0) = true := by subst h; rfl
theorem decF_no {b : Bool} (h : b = false) : (decF b == 0) = false := by subst h; rfl
end Go.Proofs.YtnodeojeijekcaaGreat
