/-
  DERIVED. GIVEN WITH THE SEED: THE CARDS: each row of YtkegdhgcebbmgaaDoorRows.lean that lists a variable, with what it lists TIED to the program's text (the seventh form; the later family's looks); each row that meets fmt, with fmt's text TOLD by the authors' own Lean function (tested against real Go, not proved from fmt's source: count such statements apart). THE CARD IS WHAT COUNTS. Prove the row's statement (the work); the ties are given (YtkegdhgcebbmgaaDoorTie.lean); close each card by the builder's one call (the guide's Derived/Test/ToyasCard.lean, 'card_holds'). Laid BY PROGRAM, IN A SANDBOX (cutbox-door.mjs). By AI agents, Wed Nov 11 2026. No macro, syntax, notation, axiom, sorry.
-/
import Derived.Test.YtkegdhgcebbmgaaDoorRows
import GoSem.ClaimSeven
namespace Go.Proofs.YtkegdhgcebbmgaaDoor
namespace Rows

/-- THE TIED CARD OF 'laws.FnExactReadMap'. -/
def fnExactReadMapCard : Claim7 := { stood := { row := fnExactReadMapRow, standIns := [], harness := (true, "9bde455f324afb4a5d1fe90bcb54da02ef8b332f8d94afd111748cbc9b43ab1f"), looks := false }, kinds := [], alts := [], laidByText := true, laidKinds := [.data, .pinned], laidTests := true, laidLooks := .later }
def FnExactReadMapCardSaid : Prop := Claim7.holds Tryd.pinned (.plain (OpenSpec.ofChange fnExactReadMapSpec)) fnExactReadMapCard

/-- THE TIED CARD OF 'laws.FnExactPageText'. -/
def fnExactPageTextCard : Claim7 := { stood := { row := fnExactPageTextRow, standIns := [], harness := (true, "9bde455f324afb4a5d1fe90bcb54da02ef8b332f8d94afd111748cbc9b43ab1f"), looks := false }, kinds := [], alts := [], laidByText := true, laidKinds := [.data, .data, .data], laidTests := true, laidLooks := .later }
def FnExactPageTextCardSaid : Prop := Claim7.holds Tryd.pinned (.plain (OpenSpec.ofChange fnExactPageTextSpec)) fnExactPageTextCard

/-- THE TIED CARD OF 'laws.FnExactSuperText'. -/
def fnExactSuperTextCard : Claim7 := { stood := { row := fnExactSuperTextRow, standIns := [], harness := (true, "9bde455f324afb4a5d1fe90bcb54da02ef8b332f8d94afd111748cbc9b43ab1f"), looks := false }, kinds := [], alts := [], laidByText := true, laidKinds := [.data, .data, .data], laidTests := true, laidLooks := .later }
def FnExactSuperTextCardSaid : Prop := Claim7.holds Tryd.pinned (.plain (OpenSpec.ofChange fnExactSuperTextSpec)) fnExactSuperTextCard

/-- THE SECOND FORM's CARD OF 'laws.FnExactReadMap'. -/
def fnExactReadMapUptoCard : Claim7 := { stood := { row := fnExactReadMapUptoRow, standIns := [], harness := (true, "9bde455f324afb4a5d1fe90bcb54da02ef8b332f8d94afd111748cbc9b43ab1f"), looks := false }, kinds := [], alts := [], laidByText := true, laidKinds := [.data, .pinned], laidTests := true, laidLooks := .later }
def FnExactReadMapUptoCardSaid : Prop := Claim7.holds Tryd.pinned (.plain (OpenSpec.upto fnExactReadMapSpec)) fnExactReadMapUptoCard

/-- THE SECOND FORM's CARD OF 'laws.FnExactPageText'. -/
def fnExactPageTextUptoCard : Claim7 := { stood := { row := fnExactPageTextUptoRow, standIns := [], harness := (true, "9bde455f324afb4a5d1fe90bcb54da02ef8b332f8d94afd111748cbc9b43ab1f"), looks := false }, kinds := [], alts := [], laidByText := true, laidKinds := [.data, .data, .data], laidTests := true, laidLooks := .later }
def FnExactPageTextUptoCardSaid : Prop := Claim7.holds Tryd.pinned (.plain (OpenSpec.upto fnExactPageTextSpec)) fnExactPageTextUptoCard

/-- THE SECOND FORM's CARD OF 'laws.FnExactSuperText'. -/
def fnExactSuperTextUptoCard : Claim7 := { stood := { row := fnExactSuperTextUptoRow, standIns := [], harness := (true, "9bde455f324afb4a5d1fe90bcb54da02ef8b332f8d94afd111748cbc9b43ab1f"), looks := false }, kinds := [], alts := [], laidByText := true, laidKinds := [.data, .data, .data], laidTests := true, laidLooks := .later }
def FnExactSuperTextUptoCardSaid : Prop := Claim7.holds Tryd.pinned (.plain (OpenSpec.upto fnExactSuperTextSpec)) fnExactSuperTextUptoCard
end Rows
end Go.Proofs.YtkegdhgcebbmgaaDoor
