/-
  No cell of these rows narrows 'for every input' (looked for: loops, veiled, ifaces, maps, wideKeys, modest, calm, conditions, laid).
  DERIVED. THE GIVEN ROWS OF THIS SEAT. 10 by the template 'for every input the law returns true; each argument reads behind the call as it read before'; 0 by the template 'total and deterministic' (their statements: YtgcahbgapojimaaTotals.lean).
  GIVEN WITH THE SEED: the statements are not yours to turn. If you find one false, say at which input.
  Laid BY PROGRAM, IN A SANDBOX (cutbox-rows.mjs): the forced cells as the released guide's own fill.sh prints them over the translation 7b77f7a316d7836e… (all of the seat's roots in one cut). By AI agents, Wed Nov 11 2026. No macro, syntax, notation, axiom, sorry.
-/
import Derived.Test.YtgcahbgapojimaaChecked
import GoSem.Claim
import GoSem.ClaimJoined
import GoSem.ClaimMapViews
import Derived.JoinedTies
import Derived.KernelRfl
namespace Go.Proofs.Ytgcahbgapojimaa
/- THE CELL 'sum', in the pinned program and in every row, IS THE sha256 OF THE DUMP (.gsa) THAT YtgcahbgapojimaaProg.lean LOADS. Nothing in Lean hashes anything: it is a label: what it is worth is what the hold of that sum in a sandbox is worth. -/
noncomputable def Try.pinned : Pinned := { name := "ytgcahbgapojimaa", sum := "7b77f7a316d7836e30f42a93c6759645cdae12ac574bca3677923ebb57d8efcf", checked := Try.checked }
namespace Rows
def none {H : Type} : Left H := { results := [], args := [] }

/-- 'windrowlaw07.RingOrder': WHATEVER THE INPUT: true; the input reads as it did. -/
def ringOrderSpec : ChangeSpec := { name := "ringOrder", fn := fun _ => fun
  | [d1, d2, d3] => { results := [.lit (.bool true)], args := [d1, d2, d3] }
  | _ => none }
def ringOrderRow : OpenClaim := { program := "ytgcahbgapojimaa", sum := "7b77f7a316d7836e30f42a93c6759645cdae12ac574bca3677923ebb57d8efcf", func := "windrow/windrowlaw07.RingOrder", spec := "ringOrder", unfollowed := true, recurses := true, apart := false }
def RingOrderSaid : Prop := ringOrderRow.holds Try.pinned (OpenSpec.ofChange ringOrderSpec)

/-- ITS FALSE NEIGHBOUR: 'it returns false'. Refute it at one input. -/
def ringOrderWrong : ChangeSpec := { name := "ringOrder", fn := fun _ => fun
  | [d1, d2, d3] => { results := [.lit (.bool false)], args := [d1, d2, d3] }
  | _ => none }
def RingOrderWrongFalsely : Prop := ringOrderRow.holds Try.pinned (OpenSpec.ofChange ringOrderWrong)

/-- 'windrowlaw07.RingFull': WHATEVER THE INPUT: true; the input reads as it did. -/
def ringFullSpec : ChangeSpec := { name := "ringFull", fn := fun _ => fun
  | [d1, d2] => { results := [.lit (.bool true)], args := [d1, d2] }
  | _ => none }
def ringFullRow : OpenClaim := { program := "ytgcahbgapojimaa", sum := "7b77f7a316d7836e30f42a93c6759645cdae12ac574bca3677923ebb57d8efcf", func := "windrow/windrowlaw07.RingFull", spec := "ringFull", unfollowed := true, recurses := true, apart := false }
def RingFullSaid : Prop := ringFullRow.holds Try.pinned (OpenSpec.ofChange ringFullSpec)

/-- ITS FALSE NEIGHBOUR: 'it returns false'. Refute it at one input. -/
def ringFullWrong : ChangeSpec := { name := "ringFull", fn := fun _ => fun
  | [d1, d2] => { results := [.lit (.bool false)], args := [d1, d2] }
  | _ => none }
def RingFullWrongFalsely : Prop := ringFullRow.holds Try.pinned (OpenSpec.ofChange ringFullWrong)

/-- 'windrowlaw07.RingSides': WHATEVER THE INPUT: true; the input reads as it did. -/
def ringSidesSpec : ChangeSpec := { name := "ringSides", fn := fun _ => fun
  | [d] => { results := [.lit (.bool true)], args := [d] }
  | _ => none }
def ringSidesRow : OpenClaim := { program := "ytgcahbgapojimaa", sum := "7b77f7a316d7836e30f42a93c6759645cdae12ac574bca3677923ebb57d8efcf", func := "windrow/windrowlaw07.RingSides", spec := "ringSides", unfollowed := true, recurses := true, apart := false }
def RingSidesSaid : Prop := ringSidesRow.holds Try.pinned (OpenSpec.ofChange ringSidesSpec)

/-- ITS FALSE NEIGHBOUR: 'it returns false'. Refute it at one input. -/
def ringSidesWrong : ChangeSpec := { name := "ringSides", fn := fun _ => fun
  | [d] => { results := [.lit (.bool false)], args := [d] }
  | _ => none }
def RingSidesWrongFalsely : Prop := ringSidesRow.holds Try.pinned (OpenSpec.ofChange ringSidesWrong)

/-- 'windrowlaw07.RingSteps': WHATEVER THE INPUT: true; the input reads as it did. -/
def ringStepsSpec : ChangeSpec := { name := "ringSteps", fn := fun _ => fun
  | [d1, d2] => { results := [.lit (.bool true)], args := [d1, d2] }
  | _ => none }
def ringStepsRow : OpenClaim := { program := "ytgcahbgapojimaa", sum := "7b77f7a316d7836e30f42a93c6759645cdae12ac574bca3677923ebb57d8efcf", func := "windrow/windrowlaw07.RingSteps", spec := "ringSteps", unfollowed := true, recurses := true, apart := false }
def RingStepsSaid : Prop := ringStepsRow.holds Try.pinned (OpenSpec.ofChange ringStepsSpec)

/-- ITS FALSE NEIGHBOUR: 'it returns false'. Refute it at one input. -/
def ringStepsWrong : ChangeSpec := { name := "ringSteps", fn := fun _ => fun
  | [d1, d2] => { results := [.lit (.bool false)], args := [d1, d2] }
  | _ => none }
def RingStepsWrongFalsely : Prop := ringStepsRow.holds Try.pinned (OpenSpec.ofChange ringStepsWrong)

/-- 'windrowlaw07.RingNils': WHATEVER THE INPUT: true; the input reads as it did. -/
def ringNilsSpec : ChangeSpec := { name := "ringNils", fn := fun _ => fun
  | [d1, d2, d3] => { results := [.lit (.bool true)], args := [d1, d2, d3] }
  | _ => none }
def ringNilsRow : OpenClaim := { program := "ytgcahbgapojimaa", sum := "7b77f7a316d7836e30f42a93c6759645cdae12ac574bca3677923ebb57d8efcf", func := "windrow/windrowlaw07.RingNils", spec := "ringNils", unfollowed := true, recurses := true, apart := false }
def RingNilsSaid : Prop := ringNilsRow.holds Try.pinned (OpenSpec.ofChange ringNilsSpec)

/-- ITS FALSE NEIGHBOUR: 'it returns false'. Refute it at one input. -/
def ringNilsWrong : ChangeSpec := { name := "ringNils", fn := fun _ => fun
  | [d1, d2, d3] => { results := [.lit (.bool false)], args := [d1, d2, d3] }
  | _ => none }
def RingNilsWrongFalsely : Prop := ringNilsRow.holds Try.pinned (OpenSpec.ofChange ringNilsWrong)

/-- 'windrowlaw08.ShadeSteps': WHATEVER THE INPUT: true; the input reads as it did. -/
def shadeStepsSpec : ChangeSpec := { name := "shadeSteps", fn := fun _ => fun
  | [d1, d2] => { results := [.lit (.bool true)], args := [d1, d2] }
  | _ => none }
def shadeStepsRow : OpenClaim := { program := "ytgcahbgapojimaa", sum := "7b77f7a316d7836e30f42a93c6759645cdae12ac574bca3677923ebb57d8efcf", func := "windrow/windrowlaw08.ShadeSteps", spec := "shadeSteps", unfollowed := true, recurses := true, apart := false }
def ShadeStepsSaid : Prop := shadeStepsRow.holds Try.pinned (OpenSpec.ofChange shadeStepsSpec)

/-- ITS FALSE NEIGHBOUR: 'it returns false'. Refute it at one input. -/
def shadeStepsWrong : ChangeSpec := { name := "shadeSteps", fn := fun _ => fun
  | [d1, d2] => { results := [.lit (.bool false)], args := [d1, d2] }
  | _ => none }
def ShadeStepsWrongFalsely : Prop := shadeStepsRow.holds Try.pinned (OpenSpec.ofChange shadeStepsWrong)

/-- 'windrowlaw08.ShadeNils': WHATEVER THE INPUT: true; the input reads as it did. -/
def shadeNilsSpec : ChangeSpec := { name := "shadeNils", fn := fun _ => fun
  | [d1, d2, d3] => { results := [.lit (.bool true)], args := [d1, d2, d3] }
  | _ => none }
def shadeNilsRow : OpenClaim := { program := "ytgcahbgapojimaa", sum := "7b77f7a316d7836e30f42a93c6759645cdae12ac574bca3677923ebb57d8efcf", func := "windrow/windrowlaw08.ShadeNils", spec := "shadeNils", unfollowed := true, recurses := true, apart := false }
def ShadeNilsSaid : Prop := shadeNilsRow.holds Try.pinned (OpenSpec.ofChange shadeNilsSpec)

/-- ITS FALSE NEIGHBOUR: 'it returns false'. Refute it at one input. -/
def shadeNilsWrong : ChangeSpec := { name := "shadeNils", fn := fun _ => fun
  | [d1, d2, d3] => { results := [.lit (.bool false)], args := [d1, d2, d3] }
  | _ => none }
def ShadeNilsWrongFalsely : Prop := shadeNilsRow.holds Try.pinned (OpenSpec.ofChange shadeNilsWrong)

/-- 'windrowlaw08.ShadeOne': WHATEVER THE INPUT: true; the input reads as it did. -/
def shadeOneSpec : ChangeSpec := { name := "shadeOne", fn := fun _ => fun
  | [d] => { results := [.lit (.bool true)], args := [d] }
  | _ => none }
def shadeOneRow : OpenClaim := { program := "ytgcahbgapojimaa", sum := "7b77f7a316d7836e30f42a93c6759645cdae12ac574bca3677923ebb57d8efcf", func := "windrow/windrowlaw08.ShadeOne", spec := "shadeOne", unfollowed := true, recurses := true, apart := false }
def ShadeOneSaid : Prop := shadeOneRow.holds Try.pinned (OpenSpec.ofChange shadeOneSpec)

/-- ITS FALSE NEIGHBOUR: 'it returns false'. Refute it at one input. -/
def shadeOneWrong : ChangeSpec := { name := "shadeOne", fn := fun _ => fun
  | [d] => { results := [.lit (.bool false)], args := [d] }
  | _ => none }
def ShadeOneWrongFalsely : Prop := shadeOneRow.holds Try.pinned (OpenSpec.ofChange shadeOneWrong)

/-- 'windrowlaw08.ShadeKept': WHATEVER THE INPUT: true; the input reads as it did. -/
def shadeKeptSpec : ChangeSpec := { name := "shadeKept", fn := fun _ => fun
  | [d1, d2] => { results := [.lit (.bool true)], args := [d1, d2] }
  | _ => none }
def shadeKeptRow : OpenClaim := { program := "ytgcahbgapojimaa", sum := "7b77f7a316d7836e30f42a93c6759645cdae12ac574bca3677923ebb57d8efcf", func := "windrow/windrowlaw08.ShadeKept", spec := "shadeKept", unfollowed := true, recurses := true, apart := false }
def ShadeKeptSaid : Prop := shadeKeptRow.holds Try.pinned (OpenSpec.ofChange shadeKeptSpec)

/-- ITS FALSE NEIGHBOUR: 'it returns false'. Refute it at one input. -/
def shadeKeptWrong : ChangeSpec := { name := "shadeKept", fn := fun _ => fun
  | [d1, d2] => { results := [.lit (.bool false)], args := [d1, d2] }
  | _ => none }
def ShadeKeptWrongFalsely : Prop := shadeKeptRow.holds Try.pinned (OpenSpec.ofChange shadeKeptWrong)

/-- 'windrowtop.TopShades': WHATEVER THE INPUT: true; the input reads as it did. -/
def topShadesSpec : ChangeSpec := { name := "topShades", fn := fun _ => fun
  | [d1, d2, d3] => { results := [.lit (.bool true)], args := [d1, d2, d3] }
  | _ => none }
def topShadesRow : OpenClaim := { program := "ytgcahbgapojimaa", sum := "7b77f7a316d7836e30f42a93c6759645cdae12ac574bca3677923ebb57d8efcf", func := "windrow/windrowtop.TopShades", spec := "topShades", unfollowed := true, recurses := true, apart := false }
def TopShadesSaid : Prop := topShadesRow.holds Try.pinned (OpenSpec.ofChange topShadesSpec)

/-- ITS FALSE NEIGHBOUR: 'it returns false'. Refute it at one input. -/
def topShadesWrong : ChangeSpec := { name := "topShades", fn := fun _ => fun
  | [d1, d2, d3] => { results := [.lit (.bool false)], args := [d1, d2, d3] }
  | _ => none }
def TopShadesWrongFalsely : Prop := topShadesRow.holds Try.pinned (OpenSpec.ofChange topShadesWrong)

/- THE SECOND FORM. 'bulk': how many values and letters a reading holds, each counted each time it is reached (what is shared counts as often as it is met; a slice's spare places count too). A statement '..UptoSaid' is the law's where the arguments, and the package variables that the reading takes, are together of bulk at most 1048576: NARROWER than '..Said'. Prove '..Said' where nothing that the law and all that it calls make is longer than what came in: it says more and counts as full. Else prove '..UptoSaid'. A law counts once. -/
mutual
def uptoBulk {H : Type} : DataW H → Nat
  | .lit (.string bytes) => bytes.length + 1
  | .lit _ => 1
  | .nil => 1
  | .ptr d => uptoBulk d + 1
  | .slice elems spare => uptoBulkAll elems + uptoBulkAll spare + 1
  | .agg parts => uptoBulkAll parts + 1
  | .iface _ d => uptoBulk d + 1
  | .map entries => uptoBulkEntries entries + 1
  | .held _ => 1
def uptoBulkAll {H : Type} : List (DataW H) → Nat
  | [] => 0
  | d :: r => uptoBulk d + uptoBulkAll r
def uptoBulkEntries {H : Type} : List (Lit × DataW H) → Nat
  | [] => 0
  | x :: r => uptoBulkEntry x + uptoBulkEntries r
def uptoBulkEntry {H : Type} : Lit × DataW H → Nat
  | (.string bytes, d) => bytes.length + uptoBulk d + 1
  | (_, d) => uptoBulk d + 1
 end
def uptoSmall : (H : Type) → List (DataW H) → Bool := fun _ ds => decide (uptoBulkAll ds ≤ 1048576)
def OpenSpec.upto (s : _root_.Go.ChangeSpec) : _root_.Go.OpenSpec := { _root_.Go.OpenSpec.ofChange s with cond := some uptoSmall }

/-- 'windrowlaw07.RingOrder', WHERE WHAT IT READS IS OF BULK AT MOST 1048576: true; the input reads as it did. -/
def ringOrderUptoRow : OpenClaim := { program := "ytgcahbgapojimaa", sum := "7b77f7a316d7836e30f42a93c6759645cdae12ac574bca3677923ebb57d8efcf", func := "windrow/windrowlaw07.RingOrder", spec := "ringOrder", unfollowed := true, recurses := true, apart := false, narrowed := true }
def RingOrderUptoSaid : Prop := ringOrderUptoRow.holds Try.pinned (OpenSpec.upto ringOrderSpec)

/-- 'windrowlaw07.RingFull', WHERE WHAT IT READS IS OF BULK AT MOST 1048576: true; the input reads as it did. -/
def ringFullUptoRow : OpenClaim := { program := "ytgcahbgapojimaa", sum := "7b77f7a316d7836e30f42a93c6759645cdae12ac574bca3677923ebb57d8efcf", func := "windrow/windrowlaw07.RingFull", spec := "ringFull", unfollowed := true, recurses := true, apart := false, narrowed := true }
def RingFullUptoSaid : Prop := ringFullUptoRow.holds Try.pinned (OpenSpec.upto ringFullSpec)

/-- 'windrowlaw07.RingSides', WHERE WHAT IT READS IS OF BULK AT MOST 1048576: true; the input reads as it did. -/
def ringSidesUptoRow : OpenClaim := { program := "ytgcahbgapojimaa", sum := "7b77f7a316d7836e30f42a93c6759645cdae12ac574bca3677923ebb57d8efcf", func := "windrow/windrowlaw07.RingSides", spec := "ringSides", unfollowed := true, recurses := true, apart := false, narrowed := true }
def RingSidesUptoSaid : Prop := ringSidesUptoRow.holds Try.pinned (OpenSpec.upto ringSidesSpec)

/-- 'windrowlaw07.RingSteps', WHERE WHAT IT READS IS OF BULK AT MOST 1048576: true; the input reads as it did. -/
def ringStepsUptoRow : OpenClaim := { program := "ytgcahbgapojimaa", sum := "7b77f7a316d7836e30f42a93c6759645cdae12ac574bca3677923ebb57d8efcf", func := "windrow/windrowlaw07.RingSteps", spec := "ringSteps", unfollowed := true, recurses := true, apart := false, narrowed := true }
def RingStepsUptoSaid : Prop := ringStepsUptoRow.holds Try.pinned (OpenSpec.upto ringStepsSpec)

/-- 'windrowlaw07.RingNils', WHERE WHAT IT READS IS OF BULK AT MOST 1048576: true; the input reads as it did. -/
def ringNilsUptoRow : OpenClaim := { program := "ytgcahbgapojimaa", sum := "7b77f7a316d7836e30f42a93c6759645cdae12ac574bca3677923ebb57d8efcf", func := "windrow/windrowlaw07.RingNils", spec := "ringNils", unfollowed := true, recurses := true, apart := false, narrowed := true }
def RingNilsUptoSaid : Prop := ringNilsUptoRow.holds Try.pinned (OpenSpec.upto ringNilsSpec)

/-- 'windrowlaw08.ShadeSteps', WHERE WHAT IT READS IS OF BULK AT MOST 1048576: true; the input reads as it did. -/
def shadeStepsUptoRow : OpenClaim := { program := "ytgcahbgapojimaa", sum := "7b77f7a316d7836e30f42a93c6759645cdae12ac574bca3677923ebb57d8efcf", func := "windrow/windrowlaw08.ShadeSteps", spec := "shadeSteps", unfollowed := true, recurses := true, apart := false, narrowed := true }
def ShadeStepsUptoSaid : Prop := shadeStepsUptoRow.holds Try.pinned (OpenSpec.upto shadeStepsSpec)

/-- 'windrowlaw08.ShadeNils', WHERE WHAT IT READS IS OF BULK AT MOST 1048576: true; the input reads as it did. -/
def shadeNilsUptoRow : OpenClaim := { program := "ytgcahbgapojimaa", sum := "7b77f7a316d7836e30f42a93c6759645cdae12ac574bca3677923ebb57d8efcf", func := "windrow/windrowlaw08.ShadeNils", spec := "shadeNils", unfollowed := true, recurses := true, apart := false, narrowed := true }
def ShadeNilsUptoSaid : Prop := shadeNilsUptoRow.holds Try.pinned (OpenSpec.upto shadeNilsSpec)

/-- 'windrowlaw08.ShadeOne', WHERE WHAT IT READS IS OF BULK AT MOST 1048576: true; the input reads as it did. -/
def shadeOneUptoRow : OpenClaim := { program := "ytgcahbgapojimaa", sum := "7b77f7a316d7836e30f42a93c6759645cdae12ac574bca3677923ebb57d8efcf", func := "windrow/windrowlaw08.ShadeOne", spec := "shadeOne", unfollowed := true, recurses := true, apart := false, narrowed := true }
def ShadeOneUptoSaid : Prop := shadeOneUptoRow.holds Try.pinned (OpenSpec.upto shadeOneSpec)

/-- 'windrowlaw08.ShadeKept', WHERE WHAT IT READS IS OF BULK AT MOST 1048576: true; the input reads as it did. -/
def shadeKeptUptoRow : OpenClaim := { program := "ytgcahbgapojimaa", sum := "7b77f7a316d7836e30f42a93c6759645cdae12ac574bca3677923ebb57d8efcf", func := "windrow/windrowlaw08.ShadeKept", spec := "shadeKept", unfollowed := true, recurses := true, apart := false, narrowed := true }
def ShadeKeptUptoSaid : Prop := shadeKeptUptoRow.holds Try.pinned (OpenSpec.upto shadeKeptSpec)

/-- 'windrowtop.TopShades', WHERE WHAT IT READS IS OF BULK AT MOST 1048576: true; the input reads as it did. -/
def topShadesUptoRow : OpenClaim := { program := "ytgcahbgapojimaa", sum := "7b77f7a316d7836e30f42a93c6759645cdae12ac574bca3677923ebb57d8efcf", func := "windrow/windrowtop.TopShades", spec := "topShades", unfollowed := true, recurses := true, apart := false, narrowed := true }
def TopShadesUptoSaid : Prop := topShadesUptoRow.holds Try.pinned (OpenSpec.upto topShadesSpec)

end Rows
end Go.Proofs.Ytgcahbgapojimaa
