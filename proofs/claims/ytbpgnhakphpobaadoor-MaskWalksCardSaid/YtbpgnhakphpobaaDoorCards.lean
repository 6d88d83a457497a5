/-
  DERIVED. GIVEN WITH THE SEED: THE CARDS: each row of YtbpgnhakphpobaaDoorRows.lean that lists a variable, with what it lists TIED to the program's text (the seventh form; the later family's looks); each row that meets fmt, with fmt's text TOLD by the authors' own Lean function (tested against real Go, not proved from fmt's source: count such statements apart). THE CARD IS WHAT COUNTS. Prove the row's statement (the work); the ties are given (YtbpgnhakphpobaaDoorTie.lean); close each card by the builder's one call (the guide's Derived/Test/ToyasCard.lean, 'card_holds'). Laid BY PROGRAM, IN A SANDBOX (cutbox-door.mjs). By AI agents, Wed Nov 11 2026. No macro, syntax, notation, axiom, sorry.
-/
import Derived.Test.YtbpgnhakphpobaaDoorRows
import GoSem.ClaimSeven
namespace Go.Proofs.YtbpgnhakphpobaaDoor
namespace Rows

/-- THE TIED CARD OF 'windrowlaw04.MaskWalks'. -/
def maskWalksCard : Claim7 := { stood := { row := maskWalksRow, standIns := [], harness := (true, "367660d3b8427e9e07d2f9826ba53c681035afaa8a650e01f170060d4ac4a13e"), looks := false }, kinds := [], alts := [], laidByText := true, laidKinds := [.data], laidTests := true, laidLooks := .later }
def MaskWalksCardSaid : Prop := Claim7.holds Tryd.pinned (.plain (OpenSpec.ofChange maskWalksSpec)) maskWalksCard

/-- THE SECOND FORM's CARD OF 'windrowlaw04.MaskWalks'. -/
def maskWalksUptoCard : Claim7 := { stood := { row := maskWalksUptoRow, standIns := [], harness := (true, "367660d3b8427e9e07d2f9826ba53c681035afaa8a650e01f170060d4ac4a13e"), looks := false }, kinds := [], alts := [], laidByText := true, laidKinds := [.data], laidTests := true, laidLooks := .later }
def MaskWalksUptoCardSaid : Prop := Claim7.holds Tryd.pinned (.plain (OpenSpec.upto maskWalksSpec)) maskWalksUptoCard
end Rows
end Go.Proofs.YtbpgnhakphpobaaDoor
