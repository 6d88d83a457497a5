/-
  DERIVED. GIVEN WITH THE SEED: THE CARDS: each row of YtjkfddjmldckeaaDoorRows.lean that lists a variable, with what it lists TIED to the program's text (the seventh form; the later family's looks); each row that meets fmt, with fmt's text TOLD by the authors' own Lean function (tested against real Go, not proved from fmt's source: count such statements apart). THE CARD IS WHAT COUNTS. Prove the row's statement (the work); the ties are given (YtjkfddjmldckeaaDoorTie.lean); close each card by the builder's one call (the guide's Derived/Test/ToyasCard.lean, 'card_holds'). Laid BY PROGRAM, IN A SANDBOX (cutbox-door.mjs). By AI agents, Wed Nov 11 2026. No macro, syntax, notation, axiom, sorry.
-/
import Derived.Test.YtjkfddjmldckeaaDoorRows
import GoSem.ClaimSeven
namespace Go.Proofs.YtjkfddjmldckeaaDoor
namespace Rows

/-- THE TIED CARD OF 'windrowlaw01.WordUndoes'. -/
def wordUndoesCard : Claim7 := { stood := { row := wordUndoesRow, standIns := [], harness := (true, "293d5878511ff6d8ff216aad6f2f6dc87e991e7f584c6a6cb6c57f1e37c89ea4"), looks := false }, kinds := [], alts := [], laidByText := true, laidKinds := [.data], laidTests := true, laidLooks := .later }
def WordUndoesCardSaid : Prop := Claim7.holds Tryd.pinned (.plain (OpenSpec.ofChange wordUndoesSpec)) wordUndoesCard

/-- THE TIED CARD OF 'windrowlaw01.WordCounts'. -/
def wordCountsCard : Claim7 := { stood := { row := wordCountsRow, standIns := [], harness := (true, "293d5878511ff6d8ff216aad6f2f6dc87e991e7f584c6a6cb6c57f1e37c89ea4"), looks := false }, kinds := [], alts := [], laidByText := true, laidKinds := [.data], laidTests := true, laidLooks := .later }
def WordCountsCardSaid : Prop := Claim7.holds Tryd.pinned (.plain (OpenSpec.ofChange wordCountsSpec)) wordCountsCard

/-- THE TIED CARD OF 'windrowlaw01.WordSelects'. -/
def wordSelectsCard : Claim7 := { stood := { row := wordSelectsRow, standIns := [], harness := (true, "293d5878511ff6d8ff216aad6f2f6dc87e991e7f584c6a6cb6c57f1e37c89ea4"), looks := false }, kinds := [], alts := [], laidByText := true, laidKinds := [.data], laidTests := true, laidLooks := .later }
def WordSelectsCardSaid : Prop := Claim7.holds Tryd.pinned (.plain (OpenSpec.ofChange wordSelectsSpec)) wordSelectsCard

/-- THE TIED CARD OF 'windrowlaw01.WordBits'. -/
def wordBitsCard : Claim7 := { stood := { row := wordBitsRow, standIns := [], harness := (true, "293d5878511ff6d8ff216aad6f2f6dc87e991e7f584c6a6cb6c57f1e37c89ea4"), looks := false }, kinds := [], alts := [], laidByText := true, laidKinds := [.data], laidTests := true, laidLooks := .later }
def WordBitsCardSaid : Prop := Claim7.holds Tryd.pinned (.plain (OpenSpec.ofChange wordBitsSpec)) wordBitsCard

/-- THE SECOND FORM's CARD OF 'windrowlaw01.WordUndoes'. -/
def wordUndoesUptoCard : Claim7 := { stood := { row := wordUndoesUptoRow, standIns := [], harness := (true, "293d5878511ff6d8ff216aad6f2f6dc87e991e7f584c6a6cb6c57f1e37c89ea4"), looks := false }, kinds := [], alts := [], laidByText := true, laidKinds := [.data], laidTests := true, laidLooks := .later }
def WordUndoesUptoCardSaid : Prop := Claim7.holds Tryd.pinned (.plain (OpenSpec.upto wordUndoesSpec)) wordUndoesUptoCard

/-- THE SECOND FORM's CARD OF 'windrowlaw01.WordCounts'. -/
def wordCountsUptoCard : Claim7 := { stood := { row := wordCountsUptoRow, standIns := [], harness := (true, "293d5878511ff6d8ff216aad6f2f6dc87e991e7f584c6a6cb6c57f1e37c89ea4"), looks := false }, kinds := [], alts := [], laidByText := true, laidKinds := [.data], laidTests := true, laidLooks := .later }
def WordCountsUptoCardSaid : Prop := Claim7.holds Tryd.pinned (.plain (OpenSpec.upto wordCountsSpec)) wordCountsUptoCard

/-- THE SECOND FORM's CARD OF 'windrowlaw01.WordSelects'. -/
def wordSelectsUptoCard : Claim7 := { stood := { row := wordSelectsUptoRow, standIns := [], harness := (true, "293d5878511ff6d8ff216aad6f2f6dc87e991e7f584c6a6cb6c57f1e37c89ea4"), looks := false }, kinds := [], alts := [], laidByText := true, laidKinds := [.data], laidTests := true, laidLooks := .later }
def WordSelectsUptoCardSaid : Prop := Claim7.holds Tryd.pinned (.plain (OpenSpec.upto wordSelectsSpec)) wordSelectsUptoCard

/-- THE SECOND FORM's CARD OF 'windrowlaw01.WordBits'. -/
def wordBitsUptoCard : Claim7 := { stood := { row := wordBitsUptoRow, standIns := [], harness := (true, "293d5878511ff6d8ff216aad6f2f6dc87e991e7f584c6a6cb6c57f1e37c89ea4"), looks := false }, kinds := [], alts := [], laidByText := true, laidKinds := [.data], laidTests := true, laidLooks := .later }
def WordBitsUptoCardSaid : Prop := Claim7.holds Tryd.pinned (.plain (OpenSpec.upto wordBitsSpec)) wordBitsUptoCard
end Rows
end Go.Proofs.YtjkfddjmldckeaaDoor
