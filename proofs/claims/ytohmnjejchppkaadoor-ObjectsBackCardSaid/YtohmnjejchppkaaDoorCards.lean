/-
  DERIVED. GIVEN WITH THE SEED: THE CARDS: each row of YtohmnjejchppkaaDoorRows.lean that lists a variable, with what it lists TIED to the program's text (the seventh form; the later family's looks); each row that meets fmt, with fmt's text TOLD by the authors' own Lean function (tested against real Go, not proved from fmt's source: count such statements apart). THE CARD IS WHAT COUNTS. Prove the row's statement (the work); the ties are given (YtohmnjejchppkaaDoorTie.lean); close each card by the builder's one call (the guide's Derived/Test/ToyasCard.lean, 'card_holds'). Laid BY PROGRAM, IN A SANDBOX (cutbox-door.mjs). By AI agents, Wed Nov 11 2026. No macro, syntax, notation, axiom, sorry.
-/
import Derived.Test.YtohmnjejchppkaaDoorRows
import GoSem.ClaimSeven
namespace Go.Proofs.YtohmnjejchppkaaDoor
namespace Rows

/-- THE TIED CARD OF 'windrowlaw11.ObjectsBack'. -/
def objectsBackCard : Claim7 := { stood := { row := objectsBackRow, standIns := [], harness := (true, "f96cb0492e96db10f22a63f6255e7324d65a8994340baddab6ffc8615f840a87"), looks := false }, kinds := [], alts := [], laidByText := true, laidKinds := [.data], laidTests := true, laidLooks := .later }
def ObjectsBackCardSaid : Prop := Claim7.holds Tryd.pinned (.plain (OpenSpec.ofChange objectsBackSpec)) objectsBackCard

/-- THE SECOND FORM's CARD OF 'windrowlaw11.ObjectsBack'. -/
def objectsBackUptoCard : Claim7 := { stood := { row := objectsBackUptoRow, standIns := [], harness := (true, "f96cb0492e96db10f22a63f6255e7324d65a8994340baddab6ffc8615f840a87"), looks := false }, kinds := [], alts := [], laidByText := true, laidKinds := [.data], laidTests := true, laidLooks := .later }
def ObjectsBackUptoCardSaid : Prop := Claim7.holds Tryd.pinned (.plain (OpenSpec.upto objectsBackSpec)) objectsBackUptoCard
end Rows
end Go.Proofs.YtohmnjejchppkaaDoor
