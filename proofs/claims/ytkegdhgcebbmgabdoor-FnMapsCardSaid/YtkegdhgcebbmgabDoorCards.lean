/-
  DERIVED. GIVEN WITH THE SEED: THE CARDS: each row of YtkegdhgcebbmgabDoorRows.lean that lists a variable, with what it lists TIED to the program's text (the seventh form; the later family's looks); each row that meets fmt, with fmt's text TOLD by the authors' own Lean function (tested against real Go, not proved from fmt's source: count such statements apart). THE CARD IS WHAT COUNTS. Prove the row's statement (the work); the ties are given (YtkegdhgcebbmgabDoorTie.lean); close each card by the builder's one call (the guide's Derived/Test/ToyasCard.lean, 'card_holds'). Laid BY PROGRAM, IN A SANDBOX (cutbox-door.mjs). By AI agents, Wed Nov 11 2026. No macro, syntax, notation, axiom, sorry.
-/
import Derived.Test.YtkegdhgcebbmgabDoorRows
import GoSem.ClaimSeven
namespace Go.Proofs.YtkegdhgcebbmgabDoor
namespace Rows

/-- THE TIED CARD OF 'laws.FnPageSum'. -/
def fnPageSumCard : Claim7 := { stood := { row := fnPageSumRow, standIns := [], harness := (true, "0dda10bd850fcaaf38c5eb71a688e9c433703f19aa804a17fa05ed59c5f19c6f"), looks := false }, kinds := [], alts := [], laidByText := true, laidKinds := [.data, .data, .data], laidTests := true, laidLooks := .later }
def FnPageSumCardSaid : Prop := Claim7.holds Tryd.pinned (.plain (OpenSpec.ofChange fnPageSumSpec)) fnPageSumCard

/-- THE TIED CARD OF 'laws.FnMaps'. -/
def fnMapsCard : Claim7 := { stood := { row := fnMapsRow, standIns := [], harness := (true, "0dda10bd850fcaaf38c5eb71a688e9c433703f19aa804a17fa05ed59c5f19c6f"), looks := false }, kinds := [], alts := [], laidByText := true, laidKinds := [.data, .pinned], laidTests := true, laidLooks := .later }
def FnMapsCardSaid : Prop := Claim7.holds Tryd.pinned (.plain (OpenSpec.ofChange fnMapsSpec)) fnMapsCard

/-- THE SECOND FORM's CARD OF 'laws.FnPageSum'. -/
def fnPageSumUptoCard : Claim7 := { stood := { row := fnPageSumUptoRow, standIns := [], harness := (true, "0dda10bd850fcaaf38c5eb71a688e9c433703f19aa804a17fa05ed59c5f19c6f"), looks := false }, kinds := [], alts := [], laidByText := true, laidKinds := [.data, .data, .data], laidTests := true, laidLooks := .later }
def FnPageSumUptoCardSaid : Prop := Claim7.holds Tryd.pinned (.plain (OpenSpec.upto fnPageSumSpec)) fnPageSumUptoCard

/-- THE SECOND FORM's CARD OF 'laws.FnMaps'. -/
def fnMapsUptoCard : Claim7 := { stood := { row := fnMapsUptoRow, standIns := [], harness := (true, "0dda10bd850fcaaf38c5eb71a688e9c433703f19aa804a17fa05ed59c5f19c6f"), looks := false }, kinds := [], alts := [], laidByText := true, laidKinds := [.data, .pinned], laidTests := true, laidLooks := .later }
def FnMapsUptoCardSaid : Prop := Claim7.holds Tryd.pinned (.plain (OpenSpec.upto fnMapsSpec)) fnMapsUptoCard
end Rows
end Go.Proofs.YtkegdhgcebbmgabDoor
