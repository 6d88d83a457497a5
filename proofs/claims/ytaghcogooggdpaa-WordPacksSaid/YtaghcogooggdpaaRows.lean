/-
  No cell of these rows narrows 'for every input' (looked for: loops, veiled, ifaces, maps, wideKeys, modest, calm, conditions, laid).
  DERIVED. THE GIVEN ROWS OF THIS SEAT. 8 by the template 'for every input the law returns true; each argument reads behind the call as it read before'; 0 by the template 'total and deterministic' (their statements: YtaghcogooggdpaaTotals.lean).
  GIVEN WITH THE SEED: the statements are not yours to turn. If you find one false, say at which input.
  Laid BY PROGRAM, IN A SANDBOX (cutbox-rows.mjs): the forced cells as the released guide's own fill.sh prints them over the translation a1cda72f8359eab3… (all of the seat's roots in one cut). By AI agents, Wed Nov 11 2026. No macro, syntax, notation, axiom, sorry.
-/
import Derived.Test.YtaghcogooggdpaaChecked
import GoSem.Claim
import GoSem.ClaimJoined
import GoSem.ClaimMapViews
import Derived.JoinedTies
import Derived.KernelRfl
namespace Go.Proofs.Ytaghcogooggdpaa
/- THE CELL 'sum', in the pinned program and in every row, IS THE sha256 OF THE DUMP (.gsa) THAT YtaghcogooggdpaaProg.lean LOADS. Nothing in Lean hashes anything: it is a label: what it is worth is what the hold of that sum in a sandbox is worth. -/
noncomputable def Try.pinned : Pinned := { name := "ytaghcogooggdpaa", sum := "a1cda72f8359eab3445a0fa07792532ea266e57833aeff0ad78b8cd169e7bbfe", checked := Try.checked }
namespace Rows
def none {H : Type} : Left H := { results := [], args := [] }

/-- 'windrowlaw01.WordKept': WHATEVER THE INPUT: true; the input reads as it did. -/
def wordKeptSpec : ChangeSpec := { name := "wordKept", fn := fun _ => fun
  | [d] => { results := [.lit (.bool true)], args := [d] }
  | _ => none }
def wordKeptRow : OpenClaim := { program := "ytaghcogooggdpaa", sum := "a1cda72f8359eab3445a0fa07792532ea266e57833aeff0ad78b8cd169e7bbfe", func := "windrow/windrowlaw01.WordKept", spec := "wordKept", apart := false }
def WordKeptSaid : Prop := wordKeptRow.holds Try.pinned (OpenSpec.ofChange wordKeptSpec)

/-- ITS FALSE NEIGHBOUR: 'it returns false'. Refute it at one input. -/
def wordKeptWrong : ChangeSpec := { name := "wordKept", fn := fun _ => fun
  | [d] => { results := [.lit (.bool false)], args := [d] }
  | _ => none }
def WordKeptWrongFalsely : Prop := wordKeptRow.holds Try.pinned (OpenSpec.ofChange wordKeptWrong)

/-- 'windrowlaw01.WordWheels': WHATEVER THE INPUT: true; the input reads as it did. -/
def wordWheelsSpec : ChangeSpec := { name := "wordWheels", fn := fun _ => fun
  | [d1, d2, d3] => { results := [.lit (.bool true)], args := [d1, d2, d3] }
  | _ => none }
def wordWheelsRow : OpenClaim := { program := "ytaghcogooggdpaa", sum := "a1cda72f8359eab3445a0fa07792532ea266e57833aeff0ad78b8cd169e7bbfe", func := "windrow/windrowlaw01.WordWheels", spec := "wordWheels", apart := false }
def WordWheelsSaid : Prop := wordWheelsRow.holds Try.pinned (OpenSpec.ofChange wordWheelsSpec)

/-- ITS FALSE NEIGHBOUR: 'it returns false'. Refute it at one input. -/
def wordWheelsWrong : ChangeSpec := { name := "wordWheels", fn := fun _ => fun
  | [d1, d2, d3] => { results := [.lit (.bool false)], args := [d1, d2, d3] }
  | _ => none }
def WordWheelsWrongFalsely : Prop := wordWheelsRow.holds Try.pinned (OpenSpec.ofChange wordWheelsWrong)

/-- 'windrowlaw01.WordHoles': WHATEVER THE INPUT: true; the input reads as it did. -/
def wordHolesSpec : ChangeSpec := { name := "wordHoles", fn := fun _ => fun
  | [d1, d2] => { results := [.lit (.bool true)], args := [d1, d2] }
  | _ => none }
def wordHolesRow : OpenClaim := { program := "ytaghcogooggdpaa", sum := "a1cda72f8359eab3445a0fa07792532ea266e57833aeff0ad78b8cd169e7bbfe", func := "windrow/windrowlaw01.WordHoles", spec := "wordHoles", apart := false }
def WordHolesSaid : Prop := wordHolesRow.holds Try.pinned (OpenSpec.ofChange wordHolesSpec)

/-- ITS FALSE NEIGHBOUR: 'it returns false'. Refute it at one input. -/
def wordHolesWrong : ChangeSpec := { name := "wordHoles", fn := fun _ => fun
  | [d1, d2] => { results := [.lit (.bool false)], args := [d1, d2] }
  | _ => none }
def WordHolesWrongFalsely : Prop := wordHolesRow.holds Try.pinned (OpenSpec.ofChange wordHolesWrong)

/-- 'windrowlaw01.WordRoom': WHATEVER THE INPUT: true; the input reads as it did. -/
def wordRoomSpec : ChangeSpec := { name := "wordRoom", fn := fun _ => fun
  | [d1, d2] => { results := [.lit (.bool true)], args := [d1, d2] }
  | _ => none }
def wordRoomRow : OpenClaim := { program := "ytaghcogooggdpaa", sum := "a1cda72f8359eab3445a0fa07792532ea266e57833aeff0ad78b8cd169e7bbfe", func := "windrow/windrowlaw01.WordRoom", spec := "wordRoom", apart := false }
def WordRoomSaid : Prop := wordRoomRow.holds Try.pinned (OpenSpec.ofChange wordRoomSpec)

/-- ITS FALSE NEIGHBOUR: 'it returns false'. Refute it at one input. -/
def wordRoomWrong : ChangeSpec := { name := "wordRoom", fn := fun _ => fun
  | [d1, d2] => { results := [.lit (.bool false)], args := [d1, d2] }
  | _ => none }
def WordRoomWrongFalsely : Prop := wordRoomRow.holds Try.pinned (OpenSpec.ofChange wordRoomWrong)

/-- 'windrowlaw01.WordFields': WHATEVER THE INPUT: true; the input reads as it did. -/
def wordFieldsSpec : ChangeSpec := { name := "wordFields", fn := fun _ => fun
  | [d] => { results := [.lit (.bool true)], args := [d] }
  | _ => none }
def wordFieldsRow : OpenClaim := { program := "ytaghcogooggdpaa", sum := "a1cda72f8359eab3445a0fa07792532ea266e57833aeff0ad78b8cd169e7bbfe", func := "windrow/windrowlaw01.WordFields", spec := "wordFields", apart := false }
def WordFieldsSaid : Prop := wordFieldsRow.holds Try.pinned (OpenSpec.ofChange wordFieldsSpec)

/-- ITS FALSE NEIGHBOUR: 'it returns false'. Refute it at one input. -/
def wordFieldsWrong : ChangeSpec := { name := "wordFields", fn := fun _ => fun
  | [d] => { results := [.lit (.bool false)], args := [d] }
  | _ => none }
def WordFieldsWrongFalsely : Prop := wordFieldsRow.holds Try.pinned (OpenSpec.ofChange wordFieldsWrong)

/-- 'windrowlaw01.WordGaps': WHATEVER THE INPUT: true; the input reads as it did. -/
def wordGapsSpec : ChangeSpec := { name := "wordGaps", fn := fun _ => fun
  | [d1, d2] => { results := [.lit (.bool true)], args := [d1, d2] }
  | _ => none }
def wordGapsRow : OpenClaim := { program := "ytaghcogooggdpaa", sum := "a1cda72f8359eab3445a0fa07792532ea266e57833aeff0ad78b8cd169e7bbfe", func := "windrow/windrowlaw01.WordGaps", spec := "wordGaps", apart := false }
def WordGapsSaid : Prop := wordGapsRow.holds Try.pinned (OpenSpec.ofChange wordGapsSpec)

/-- ITS FALSE NEIGHBOUR: 'it returns false'. Refute it at one input. -/
def wordGapsWrong : ChangeSpec := { name := "wordGaps", fn := fun _ => fun
  | [d1, d2] => { results := [.lit (.bool false)], args := [d1, d2] }
  | _ => none }
def WordGapsWrongFalsely : Prop := wordGapsRow.holds Try.pinned (OpenSpec.ofChange wordGapsWrong)

/-- 'windrowlaw01.WordTurns': WHATEVER THE INPUT: true; the input reads as it did. -/
def wordTurnsSpec : ChangeSpec := { name := "wordTurns", fn := fun _ => fun
  | [d1, d2] => { results := [.lit (.bool true)], args := [d1, d2] }
  | _ => none }
def wordTurnsRow : OpenClaim := { program := "ytaghcogooggdpaa", sum := "a1cda72f8359eab3445a0fa07792532ea266e57833aeff0ad78b8cd169e7bbfe", func := "windrow/windrowlaw01.WordTurns", spec := "wordTurns", apart := false }
def WordTurnsSaid : Prop := wordTurnsRow.holds Try.pinned (OpenSpec.ofChange wordTurnsSpec)

/-- ITS FALSE NEIGHBOUR: 'it returns false'. Refute it at one input. -/
def wordTurnsWrong : ChangeSpec := { name := "wordTurns", fn := fun _ => fun
  | [d1, d2] => { results := [.lit (.bool false)], args := [d1, d2] }
  | _ => none }
def WordTurnsWrongFalsely : Prop := wordTurnsRow.holds Try.pinned (OpenSpec.ofChange wordTurnsWrong)

/-- 'windrowlaw01.WordPacks': WHATEVER THE INPUT: true; the input reads as it did. -/
def wordPacksSpec : ChangeSpec := { name := "wordPacks", fn := fun _ => fun
  | [d1, d2, d3] => { results := [.lit (.bool true)], args := [d1, d2, d3] }
  | _ => none }
def wordPacksRow : OpenClaim := { program := "ytaghcogooggdpaa", sum := "a1cda72f8359eab3445a0fa07792532ea266e57833aeff0ad78b8cd169e7bbfe", func := "windrow/windrowlaw01.WordPacks", spec := "wordPacks", apart := false }
def WordPacksSaid : Prop := wordPacksRow.holds Try.pinned (OpenSpec.ofChange wordPacksSpec)

/-- ITS FALSE NEIGHBOUR: 'it returns false'. Refute it at one input. -/
def wordPacksWrong : ChangeSpec := { name := "wordPacks", fn := fun _ => fun
  | [d1, d2, d3] => { results := [.lit (.bool false)], args := [d1, d2, d3] }
  | _ => none }
def WordPacksWrongFalsely : Prop := wordPacksRow.holds Try.pinned (OpenSpec.ofChange wordPacksWrong)

/- THE SECOND FORM. 'bulk': how many values and letters a reading holds, each counted each time it is reached (what is shared counts as often as it is met; a slice's spare places count too). A statement '..UptoSaid' is the law's where the arguments, and the package variables that the reading takes, are together of bulk at most 1048576: NARROWER than '..Said'. Prove '..Said' where nothing that the law and all that it calls make is longer than what came in: it says more and counts as full. Else prove '..UptoSaid'. A law counts once. -/
mutual
def uptoBulk {H : Type} : DataW H → Nat
  | .lit (.string bytes) => bytes.length + 1
  | .lit _ => 1
  | .nil => 1
  | .ptr d => uptoBulk d + 1
  | .slice elems spare => uptoBulkAll elems + uptoBulkAll spare + 1
  | .agg parts => uptoBulkAll parts + 1
  | .iface _ d => uptoBulk d + 1
  | .map entries => uptoBulkEntries entries + 1
  | .held _ => 1
def uptoBulkAll {H : Type} : List (DataW H) → Nat
  | [] => 0
  | d :: r => uptoBulk d + uptoBulkAll r
def uptoBulkEntries {H : Type} : List (Lit × DataW H) → Nat
  | [] => 0
  | x :: r => uptoBulkEntry x + uptoBulkEntries r
def uptoBulkEntry {H : Type} : Lit × DataW H → Nat
  | (.string bytes, d) => bytes.length + uptoBulk d + 1
  | (_, d) => uptoBulk d + 1
 end
def uptoSmall : (H : Type) → List (DataW H) → Bool := fun _ ds => decide (uptoBulkAll ds ≤ 1048576)
def OpenSpec.upto (s : _root_.Go.ChangeSpec) : _root_.Go.OpenSpec := { _root_.Go.OpenSpec.ofChange s with cond := some uptoSmall }

/-- 'windrowlaw01.WordKept', WHERE WHAT IT READS IS OF BULK AT MOST 1048576: true; the input reads as it did. -/
def wordKeptUptoRow : OpenClaim := { program := "ytaghcogooggdpaa", sum := "a1cda72f8359eab3445a0fa07792532ea266e57833aeff0ad78b8cd169e7bbfe", func := "windrow/windrowlaw01.WordKept", spec := "wordKept", apart := false, narrowed := true }
def WordKeptUptoSaid : Prop := wordKeptUptoRow.holds Try.pinned (OpenSpec.upto wordKeptSpec)

/-- 'windrowlaw01.WordWheels', WHERE WHAT IT READS IS OF BULK AT MOST 1048576: true; the input reads as it did. -/
def wordWheelsUptoRow : OpenClaim := { program := "ytaghcogooggdpaa", sum := "a1cda72f8359eab3445a0fa07792532ea266e57833aeff0ad78b8cd169e7bbfe", func := "windrow/windrowlaw01.WordWheels", spec := "wordWheels", apart := false, narrowed := true }
def WordWheelsUptoSaid : Prop := wordWheelsUptoRow.holds Try.pinned (OpenSpec.upto wordWheelsSpec)

/-- 'windrowlaw01.WordHoles', WHERE WHAT IT READS IS OF BULK AT MOST 1048576: true; the input reads as it did. -/
def wordHolesUptoRow : OpenClaim := { program := "ytaghcogooggdpaa", sum := "a1cda72f8359eab3445a0fa07792532ea266e57833aeff0ad78b8cd169e7bbfe", func := "windrow/windrowlaw01.WordHoles", spec := "wordHoles", apart := false, narrowed := true }
def WordHolesUptoSaid : Prop := wordHolesUptoRow.holds Try.pinned (OpenSpec.upto wordHolesSpec)

/-- 'windrowlaw01.WordRoom', WHERE WHAT IT READS IS OF BULK AT MOST 1048576: true; the input reads as it did. -/
def wordRoomUptoRow : OpenClaim := { program := "ytaghcogooggdpaa", sum := "a1cda72f8359eab3445a0fa07792532ea266e57833aeff0ad78b8cd169e7bbfe", func := "windrow/windrowlaw01.WordRoom", spec := "wordRoom", apart := false, narrowed := true }
def WordRoomUptoSaid : Prop := wordRoomUptoRow.holds Try.pinned (OpenSpec.upto wordRoomSpec)

/-- 'windrowlaw01.WordFields', WHERE WHAT IT READS IS OF BULK AT MOST 1048576: true; the input reads as it did. -/
def wordFieldsUptoRow : OpenClaim := { program := "ytaghcogooggdpaa", sum := "a1cda72f8359eab3445a0fa07792532ea266e57833aeff0ad78b8cd169e7bbfe", func := "windrow/windrowlaw01.WordFields", spec := "wordFields", apart := false, narrowed := true }
def WordFieldsUptoSaid : Prop := wordFieldsUptoRow.holds Try.pinned (OpenSpec.upto wordFieldsSpec)

/-- 'windrowlaw01.WordGaps', WHERE WHAT IT READS IS OF BULK AT MOST 1048576: true; the input reads as it did. -/
def wordGapsUptoRow : OpenClaim := { program := "ytaghcogooggdpaa", sum := "a1cda72f8359eab3445a0fa07792532ea266e57833aeff0ad78b8cd169e7bbfe", func := "windrow/windrowlaw01.WordGaps", spec := "wordGaps", apart := false, narrowed := true }
def WordGapsUptoSaid : Prop := wordGapsUptoRow.holds Try.pinned (OpenSpec.upto wordGapsSpec)

/-- 'windrowlaw01.WordTurns', WHERE WHAT IT READS IS OF BULK AT MOST 1048576: true; the input reads as it did. -/
def wordTurnsUptoRow : OpenClaim := { program := "ytaghcogooggdpaa", sum := "a1cda72f8359eab3445a0fa07792532ea266e57833aeff0ad78b8cd169e7bbfe", func := "windrow/windrowlaw01.WordTurns", spec := "wordTurns", apart := false, narrowed := true }
def WordTurnsUptoSaid : Prop := wordTurnsUptoRow.holds Try.pinned (OpenSpec.upto wordTurnsSpec)

/-- 'windrowlaw01.WordPacks', WHERE WHAT IT READS IS OF BULK AT MOST 1048576: true; the input reads as it did. -/
def wordPacksUptoRow : OpenClaim := { program := "ytaghcogooggdpaa", sum := "a1cda72f8359eab3445a0fa07792532ea266e57833aeff0ad78b8cd169e7bbfe", func := "windrow/windrowlaw01.WordPacks", spec := "wordPacks", apart := false, narrowed := true }
def WordPacksUptoSaid : Prop := wordPacksUptoRow.holds Try.pinned (OpenSpec.upto wordPacksSpec)

end Rows
end Go.Proofs.Ytaghcogooggdpaa
