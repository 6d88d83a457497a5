/-
  DERIVED. GIVEN WITH THE SEED: THE CARDS: each row of YtichmgilglaglaaDoorRows.lean that lists a variable, with what it lists TIED to the program's text (the seventh form; the later family's looks); each row that meets fmt, with fmt's text TOLD by the authors' own Lean function (tested against real Go, not proved from fmt's source: count such statements apart). THE CARD IS WHAT COUNTS. Prove the row's statement (the work); the ties are given (YtichmgilglaglaaDoorTie.lean); close each card by the builder's one call (the guide's Derived/Test/ToyasCard.lean, 'card_holds'). Laid BY PROGRAM, IN A SANDBOX (cutbox-door.mjs). By AI agents, Wed Nov 11 2026. No macro, syntax, notation, axiom, sorry.
-/
import Derived.Test.YtichmgilglaglaaDoorRows
import GoSem.ClaimSeven
namespace Go.Proofs.YtichmgilglaglaaDoor
namespace Rows

/-- THE TIED CARD OF 'windrowlaw11.ObjectsBack'. -/
def objectsBackCard : Claim7 := { stood := { row := objectsBackRow, standIns := [], harness := (true, "136a0510decb64e13dd95815172eee62c3b0ff22812f68e93f753147c62a2b6c"), looks := false }, kinds := [], alts := [], laidByText := true, laidKinds := [.data], laidTests := true, laidLooks := .later }
def ObjectsBackCardSaid : Prop := Claim7.holds Tryd.pinned (.plain (OpenSpec.ofChange objectsBackSpec)) objectsBackCard

/-- THE TIED CARD OF 'windrowlaw11.ObjectsLast'. -/
def objectsLastCard : Claim7 := { stood := { row := objectsLastRow, standIns := [], harness := (true, "136a0510decb64e13dd95815172eee62c3b0ff22812f68e93f753147c62a2b6c"), looks := false }, kinds := [], alts := [], laidByText := true, laidKinds := [.data], laidTests := true, laidLooks := .later }
def ObjectsLastCardSaid : Prop := Claim7.holds Tryd.pinned (.plain (OpenSpec.ofChange objectsLastSpec)) objectsLastCard

/-- THE TIED CARD OF 'windrowlaw11.ObjectsField'. -/
def objectsFieldCard : Claim7 := { stood := { row := objectsFieldRow, standIns := [], harness := (true, "136a0510decb64e13dd95815172eee62c3b0ff22812f68e93f753147c62a2b6c"), looks := false }, kinds := [], alts := [], laidByText := true, laidKinds := [.data], laidTests := true, laidLooks := .later }
def ObjectsFieldCardSaid : Prop := Claim7.holds Tryd.pinned (.plain (OpenSpec.ofChange objectsFieldSpec)) objectsFieldCard

/-- THE SECOND FORM's CARD OF 'windrowlaw11.ObjectsBack'. -/
def objectsBackUptoCard : Claim7 := { stood := { row := objectsBackUptoRow, standIns := [], harness := (true, "136a0510decb64e13dd95815172eee62c3b0ff22812f68e93f753147c62a2b6c"), looks := false }, kinds := [], alts := [], laidByText := true, laidKinds := [.data], laidTests := true, laidLooks := .later }
def ObjectsBackUptoCardSaid : Prop := Claim7.holds Tryd.pinned (.plain (OpenSpec.upto objectsBackSpec)) objectsBackUptoCard

/-- THE SECOND FORM's CARD OF 'windrowlaw11.ObjectsLast'. -/
def objectsLastUptoCard : Claim7 := { stood := { row := objectsLastUptoRow, standIns := [], harness := (true, "136a0510decb64e13dd95815172eee62c3b0ff22812f68e93f753147c62a2b6c"), looks := false }, kinds := [], alts := [], laidByText := true, laidKinds := [.data], laidTests := true, laidLooks := .later }
def ObjectsLastUptoCardSaid : Prop := Claim7.holds Tryd.pinned (.plain (OpenSpec.upto objectsLastSpec)) objectsLastUptoCard

/-- THE SECOND FORM's CARD OF 'windrowlaw11.ObjectsField'. -/
def objectsFieldUptoCard : Claim7 := { stood := { row := objectsFieldUptoRow, standIns := [], harness := (true, "136a0510decb64e13dd95815172eee62c3b0ff22812f68e93f753147c62a2b6c"), looks := false }, kinds := [], alts := [], laidByText := true, laidKinds := [.data], laidTests := true, laidLooks := .later }
def ObjectsFieldUptoCardSaid : Prop := Claim7.holds Tryd.pinned (.plain (OpenSpec.upto objectsFieldSpec)) objectsFieldUptoCard
end Rows
end Go.Proofs.YtichmgilglaglaaDoor
