/-
  DERIVED. GIVEN WITH THE SEED: THE CARDS: each row of YtpoddnfooaddgaaGreatDoorRows.lean that lists a variable, with what it lists TIED to the program's text (the seventh form; the later family's looks); each row that meets fmt, with fmt's text TOLD by the authors' own Lean function (tested against real Go, not proved from fmt's source: count such statements apart). THE CARD IS WHAT COUNTS. Prove the row's statement (the work); the ties are given (YtpoddnfooaddgaaGreatDoorTie.lean); close each card by the builder's one call (the guide's Derived/Test/ToyasCard.lean, 'card_holds'). Laid BY PROGRAM, IN A SANDBOX (cutbox-door.mjs). By AI agents, Wed Nov 11 2026. No macro, syntax, notation, axiom, sorry.
-/
import Derived.Test.YtpoddnfooaddgaaGreatDoorRows
import GoSem.ClaimSeven
namespace Go.Proofs.YtpoddnfooaddgaaGreatDoor
namespace Rows

/-- THE TIED CARD OF 'windrowlaw11.ObjectsBuilds'. -/
def objectsBuildsCard : Claim7 := { stood := { row := objectsBuildsRow, standIns := [], harness := (true, "1792d39a2b2344a351fd25f5ba3a6588c64ef10c53678906a41994379c979c14"), looks := false }, kinds := [], alts := [], laidByText := true, laidKinds := [.data], laidTests := true, laidLooks := .later }
def ObjectsBuildsCardSaid : Prop := Claim7.holds Tryz.pinned (.plain (OpenSpec.ofChange objectsBuildsSpec)) objectsBuildsCard

/-- THE TIED CARD OF 'windrowlaw11.ObjectsLooks'. -/
def objectsLooksCard : Claim7 := { stood := { row := objectsLooksRow, standIns := [], harness := (true, "1792d39a2b2344a351fd25f5ba3a6588c64ef10c53678906a41994379c979c14"), looks := false }, kinds := [], alts := [], laidByText := true, laidKinds := [.data], laidTests := true, laidLooks := .later }
def ObjectsLooksCardSaid : Prop := Claim7.holds Tryz.pinned (.plain (OpenSpec.ofChange objectsLooksSpec)) objectsLooksCard

/-- THE TIED CARD OF 'windrowlaw11.ObjectsAll'. -/
def objectsAllCard : Claim7 := { stood := { row := objectsAllRow, standIns := [], harness := (true, "1792d39a2b2344a351fd25f5ba3a6588c64ef10c53678906a41994379c979c14"), looks := false }, kinds := [], alts := [], laidByText := true, laidKinds := [.data, .data], laidTests := true, laidLooks := .later }
def ObjectsAllCardSaid : Prop := Claim7.holds Tryz.pinned (.plain (OpenSpec.ofChange objectsAllSpec)) objectsAllCard

/-- THE SECOND FORM's CARD OF 'windrowlaw11.ObjectsBuilds'. -/
def objectsBuildsUptoCard : Claim7 := { stood := { row := objectsBuildsUptoRow, standIns := [], harness := (true, "1792d39a2b2344a351fd25f5ba3a6588c64ef10c53678906a41994379c979c14"), looks := false }, kinds := [], alts := [], laidByText := true, laidKinds := [.data], laidTests := true, laidLooks := .later }
def ObjectsBuildsUptoCardSaid : Prop := Claim7.holds Tryz.pinned (.plain (OpenSpec.upto objectsBuildsSpec)) objectsBuildsUptoCard

/-- THE SECOND FORM's CARD OF 'windrowlaw11.ObjectsLooks'. -/
def objectsLooksUptoCard : Claim7 := { stood := { row := objectsLooksUptoRow, standIns := [], harness := (true, "1792d39a2b2344a351fd25f5ba3a6588c64ef10c53678906a41994379c979c14"), looks := false }, kinds := [], alts := [], laidByText := true, laidKinds := [.data], laidTests := true, laidLooks := .later }
def ObjectsLooksUptoCardSaid : Prop := Claim7.holds Tryz.pinned (.plain (OpenSpec.upto objectsLooksSpec)) objectsLooksUptoCard

/-- THE SECOND FORM's CARD OF 'windrowlaw11.ObjectsAll'. -/
def objectsAllUptoCard : Claim7 := { stood := { row := objectsAllUptoRow, standIns := [], harness := (true, "1792d39a2b2344a351fd25f5ba3a6588c64ef10c53678906a41994379c979c14"), looks := false }, kinds := [], alts := [], laidByText := true, laidKinds := [.data, .data], laidTests := true, laidLooks := .later }
def ObjectsAllUptoCardSaid : Prop := Claim7.holds Tryz.pinned (.plain (OpenSpec.upto objectsAllSpec)) objectsAllUptoCard
end Rows
end Go.Proofs.YtpoddnfooaddgaaGreatDoor
