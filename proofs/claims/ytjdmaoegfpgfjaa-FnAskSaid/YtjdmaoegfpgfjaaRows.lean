/-
  No cell of these rows narrows 'for every input' (looked for: loops, veiled, ifaces, maps, wideKeys, modest, calm, conditions, laid).
  DERIVED. THE GIVEN ROWS OF THIS SEAT. 11 by the template 'for every input the law returns true; each argument reads behind the call as it read before'; 0 by the template 'total and deterministic' (their statements: YtjdmaoegfpgfjaaTotals.lean).
  GIVEN WITH THE SEED: the statements are not yours to turn. If you find one false, say at which input.
  Laid BY PROGRAM, IN A SANDBOX (cutbox-rows.mjs): the forced cells as the released guide's own fill.sh prints them over the translation b6e1aa86bcd1ac22… (all of the seat's roots in one cut). By AI agents, Wed Nov 11 2026. No macro, syntax, notation, axiom, sorry.
-/
import Derived.Test.YtjdmaoegfpgfjaaChecked
import GoSem.Claim
import GoSem.ClaimJoined
import GoSem.ClaimMapViews
import Derived.JoinedTies
import Derived.KernelRfl
namespace Go.Proofs.Ytjdmaoegfpgfjaa
/- THE CELL 'sum', in the pinned program and in every row, IS THE sha256 OF THE DUMP (.gsa) THAT YtjdmaoegfpgfjaaProg.lean LOADS. Nothing in Lean hashes anything: it is a label: what it is worth is what the hold of that sum in a sandbox is worth. -/
noncomputable def Try.pinned : Pinned := { name := "ytjdmaoegfpgfjaa", sum := "b6e1aa86bcd1ac221b0726b15f08a7f4827be995d35cd9b7a315bdde2c16d93e", checked := Try.checked }
namespace Rows
def none {H : Type} : Left H := { results := [], args := [] }

/-- 'laws.FnExactRange': WHATEVER THE INPUT: true; the input reads as it did. -/
def fnExactRangeSpec : ChangeSpec := { name := "fnExactRange", fn := fun _ => fun
  | [d1, d2, d3] => { results := [.lit (.bool true)], args := [d1, d2, d3] }
  | _ => none }
def fnExactRangeRow : OpenClaim := { program := "ytjdmaoegfpgfjaa", sum := "b6e1aa86bcd1ac221b0726b15f08a7f4827be995d35cd9b7a315bdde2c16d93e", func := "loop.example/g00573/laws.FnExactRange", spec := "fnExactRange", unfollowed := true, recurses := true, apart := false }
def FnExactRangeSaid : Prop := fnExactRangeRow.holds Try.pinned (OpenSpec.ofChange fnExactRangeSpec)

/-- ITS FALSE NEIGHBOUR: 'it returns false'. Refute it at one input. -/
def fnExactRangeWrong : ChangeSpec := { name := "fnExactRange", fn := fun _ => fun
  | [d1, d2, d3] => { results := [.lit (.bool false)], args := [d1, d2, d3] }
  | _ => none }
def FnExactRangeWrongFalsely : Prop := fnExactRangeRow.holds Try.pinned (OpenSpec.ofChange fnExactRangeWrong)

/-- 'laws.FnRange': WHATEVER THE INPUT: true; the input reads as it did. -/
def fnRangeSpec : ChangeSpec := { name := "fnRange", fn := fun _ => fun
  | [d] => { results := [.lit (.bool true)], args := [d] }
  | _ => none }
def fnRangeRow : OpenClaim := { program := "ytjdmaoegfpgfjaa", sum := "b6e1aa86bcd1ac221b0726b15f08a7f4827be995d35cd9b7a315bdde2c16d93e", func := "loop.example/g00573/laws.FnRange", spec := "fnRange", unfollowed := true, recurses := true, apart := false }
def FnRangeSaid : Prop := fnRangeRow.holds Try.pinned (OpenSpec.ofChange fnRangeSpec)

/-- ITS FALSE NEIGHBOUR: 'it returns false'. Refute it at one input. -/
def fnRangeWrong : ChangeSpec := { name := "fnRange", fn := fun _ => fun
  | [d] => { results := [.lit (.bool false)], args := [d] }
  | _ => none }
def FnRangeWrongFalsely : Prop := fnRangeRow.holds Try.pinned (OpenSpec.ofChange fnRangeWrong)

/-- 'laws.FnMapPieces': WHATEVER THE INPUT: true; the input reads as it did. -/
def fnMapPiecesSpec : ChangeSpec := { name := "fnMapPieces", fn := fun _ => fun
  | [d] => { results := [.lit (.bool true)], args := [d] }
  | _ => none }
def fnMapPiecesRow : OpenClaim := { program := "ytjdmaoegfpgfjaa", sum := "b6e1aa86bcd1ac221b0726b15f08a7f4827be995d35cd9b7a315bdde2c16d93e", func := "loop.example/g00573/laws.FnMapPieces", spec := "fnMapPieces", unfollowed := true, recurses := true, apart := false }
def FnMapPiecesSaid : Prop := fnMapPiecesRow.holds Try.pinned (OpenSpec.ofChange fnMapPiecesSpec)

/-- ITS FALSE NEIGHBOUR: 'it returns false'. Refute it at one input. -/
def fnMapPiecesWrong : ChangeSpec := { name := "fnMapPieces", fn := fun _ => fun
  | [d] => { results := [.lit (.bool false)], args := [d] }
  | _ => none }
def FnMapPiecesWrongFalsely : Prop := fnMapPiecesRow.holds Try.pinned (OpenSpec.ofChange fnMapPiecesWrong)

/-- 'laws.FnFreeTwice': WHATEVER THE INPUT: true; the input reads as it did. -/
def fnFreeTwiceSpec : ChangeSpec := { name := "fnFreeTwice", fn := fun _ => fun
  | [d] => { results := [.lit (.bool true)], args := [d] }
  | _ => none }
def fnFreeTwiceRow : OpenClaim := { program := "ytjdmaoegfpgfjaa", sum := "b6e1aa86bcd1ac221b0726b15f08a7f4827be995d35cd9b7a315bdde2c16d93e", func := "loop.example/g00573/laws.FnFreeTwice", spec := "fnFreeTwice", unfollowed := true, recurses := true, apart := false }
def FnFreeTwiceSaid : Prop := fnFreeTwiceRow.holds Try.pinned (OpenSpec.ofChange fnFreeTwiceSpec)

/-- ITS FALSE NEIGHBOUR: 'it returns false'. Refute it at one input. -/
def fnFreeTwiceWrong : ChangeSpec := { name := "fnFreeTwice", fn := fun _ => fun
  | [d] => { results := [.lit (.bool false)], args := [d] }
  | _ => none }
def FnFreeTwiceWrongFalsely : Prop := fnFreeTwiceRow.holds Try.pinned (OpenSpec.ofChange fnFreeTwiceWrong)

/-- 'laws.FnGranted': WHATEVER THE INPUT: true; the input reads as it did. -/
def fnGrantedSpec : ChangeSpec := { name := "fnGranted", fn := fun _ => fun
  | [d] => { results := [.lit (.bool true)], args := [d] }
  | _ => none }
def fnGrantedRow : OpenClaim := { program := "ytjdmaoegfpgfjaa", sum := "b6e1aa86bcd1ac221b0726b15f08a7f4827be995d35cd9b7a315bdde2c16d93e", func := "loop.example/g00573/laws.FnGranted", spec := "fnGranted", unfollowed := true, recurses := true, apart := false }
def FnGrantedSaid : Prop := fnGrantedRow.holds Try.pinned (OpenSpec.ofChange fnGrantedSpec)

/-- ITS FALSE NEIGHBOUR: 'it returns false'. Refute it at one input. -/
def fnGrantedWrong : ChangeSpec := { name := "fnGranted", fn := fun _ => fun
  | [d] => { results := [.lit (.bool false)], args := [d] }
  | _ => none }
def FnGrantedWrongFalsely : Prop := fnGrantedRow.holds Try.pinned (OpenSpec.ofChange fnGrantedWrong)

/-- 'laws.FnFree': WHATEVER THE INPUT: true; the input reads as it did. -/
def fnFreeSpec : ChangeSpec := { name := "fnFree", fn := fun _ => fun
  | [d] => { results := [.lit (.bool true)], args := [d] }
  | _ => none }
def fnFreeRow : OpenClaim := { program := "ytjdmaoegfpgfjaa", sum := "b6e1aa86bcd1ac221b0726b15f08a7f4827be995d35cd9b7a315bdde2c16d93e", func := "loop.example/g00573/laws.FnFree", spec := "fnFree", unfollowed := true, recurses := true, apart := false }
def FnFreeSaid : Prop := fnFreeRow.holds Try.pinned (OpenSpec.ofChange fnFreeSpec)

/-- ITS FALSE NEIGHBOUR: 'it returns false'. Refute it at one input. -/
def fnFreeWrong : ChangeSpec := { name := "fnFree", fn := fun _ => fun
  | [d] => { results := [.lit (.bool false)], args := [d] }
  | _ => none }
def FnFreeWrongFalsely : Prop := fnFreeRow.holds Try.pinned (OpenSpec.ofChange fnFreeWrong)

/-- 'laws.FnWaits': WHATEVER THE INPUT: true; the input reads as it did. -/
def fnWaitsSpec : ChangeSpec := { name := "fnWaits", fn := fun _ => fun
  | [d] => { results := [.lit (.bool true)], args := [d] }
  | _ => none }
def fnWaitsRow : OpenClaim := { program := "ytjdmaoegfpgfjaa", sum := "b6e1aa86bcd1ac221b0726b15f08a7f4827be995d35cd9b7a315bdde2c16d93e", func := "loop.example/g00573/laws.FnWaits", spec := "fnWaits", unfollowed := true, recurses := true, apart := false }
def FnWaitsSaid : Prop := fnWaitsRow.holds Try.pinned (OpenSpec.ofChange fnWaitsSpec)

/-- ITS FALSE NEIGHBOUR: 'it returns false'. Refute it at one input. -/
def fnWaitsWrong : ChangeSpec := { name := "fnWaits", fn := fun _ => fun
  | [d] => { results := [.lit (.bool false)], args := [d] }
  | _ => none }
def FnWaitsWrongFalsely : Prop := fnWaitsRow.holds Try.pinned (OpenSpec.ofChange fnWaitsWrong)

/-- 'laws.FnAsk': WHATEVER THE INPUT: true; the input reads as it did. -/
def fnAskSpec : ChangeSpec := { name := "fnAsk", fn := fun _ => fun
  | [d] => { results := [.lit (.bool true)], args := [d] }
  | _ => none }
def fnAskRow : OpenClaim := { program := "ytjdmaoegfpgfjaa", sum := "b6e1aa86bcd1ac221b0726b15f08a7f4827be995d35cd9b7a315bdde2c16d93e", func := "loop.example/g00573/laws.FnAsk", spec := "fnAsk", unfollowed := true, recurses := true, apart := false }
def FnAskSaid : Prop := fnAskRow.holds Try.pinned (OpenSpec.ofChange fnAskSpec)

/-- ITS FALSE NEIGHBOUR: 'it returns false'. Refute it at one input. -/
def fnAskWrong : ChangeSpec := { name := "fnAsk", fn := fun _ => fun
  | [d] => { results := [.lit (.bool false)], args := [d] }
  | _ => none }
def FnAskWrongFalsely : Prop := fnAskRow.holds Try.pinned (OpenSpec.ofChange fnAskWrong)

/-- 'laws.FnExactDbOk': WHATEVER THE INPUT: true; the input reads as it did. -/
def fnExactDbOkSpec : ChangeSpec := { name := "fnExactDbOk", fn := fun _ => fun
  | [d] => { results := [.lit (.bool true)], args := [d] }
  | _ => none }
def fnExactDbOkRow : OpenClaim := { program := "ytjdmaoegfpgfjaa", sum := "b6e1aa86bcd1ac221b0726b15f08a7f4827be995d35cd9b7a315bdde2c16d93e", func := "loop.example/g00573/laws.FnExactDbOk", spec := "fnExactDbOk", unfollowed := true, recurses := true, apart := false }
def FnExactDbOkSaid : Prop := fnExactDbOkRow.holds Try.pinned (OpenSpec.ofChange fnExactDbOkSpec)

/-- ITS FALSE NEIGHBOUR: 'it returns false'. Refute it at one input. -/
def fnExactDbOkWrong : ChangeSpec := { name := "fnExactDbOk", fn := fun _ => fun
  | [d] => { results := [.lit (.bool false)], args := [d] }
  | _ => none }
def FnExactDbOkWrongFalsely : Prop := fnExactDbOkRow.holds Try.pinned (OpenSpec.ofChange fnExactDbOkWrong)

/-- 'laws.FnExactTreeOf': WHATEVER THE INPUT: true; the input reads as it did. -/
def fnExactTreeOfSpec : ChangeSpec := { name := "fnExactTreeOf", fn := fun _ => fun
  | [d] => { results := [.lit (.bool true)], args := [d] }
  | _ => none }
def fnExactTreeOfRow : OpenClaim := { program := "ytjdmaoegfpgfjaa", sum := "b6e1aa86bcd1ac221b0726b15f08a7f4827be995d35cd9b7a315bdde2c16d93e", func := "loop.example/g00573/laws.FnExactTreeOf", spec := "fnExactTreeOf", unfollowed := true, recurses := true, apart := false }
def FnExactTreeOfSaid : Prop := fnExactTreeOfRow.holds Try.pinned (OpenSpec.ofChange fnExactTreeOfSpec)

/-- ITS FALSE NEIGHBOUR: 'it returns false'. Refute it at one input. -/
def fnExactTreeOfWrong : ChangeSpec := { name := "fnExactTreeOf", fn := fun _ => fun
  | [d] => { results := [.lit (.bool false)], args := [d] }
  | _ => none }
def FnExactTreeOfWrongFalsely : Prop := fnExactTreeOfRow.holds Try.pinned (OpenSpec.ofChange fnExactTreeOfWrong)

/-- 'laws.FnTreeOf': WHATEVER THE INPUT: true; the input reads as it did. -/
def fnTreeOfSpec : ChangeSpec := { name := "fnTreeOf", fn := fun _ => fun
  | [d] => { results := [.lit (.bool true)], args := [d] }
  | _ => none }
def fnTreeOfRow : OpenClaim := { program := "ytjdmaoegfpgfjaa", sum := "b6e1aa86bcd1ac221b0726b15f08a7f4827be995d35cd9b7a315bdde2c16d93e", func := "loop.example/g00573/laws.FnTreeOf", spec := "fnTreeOf", unfollowed := true, recurses := true, apart := false }
def FnTreeOfSaid : Prop := fnTreeOfRow.holds Try.pinned (OpenSpec.ofChange fnTreeOfSpec)

/-- ITS FALSE NEIGHBOUR: 'it returns false'. Refute it at one input. -/
def fnTreeOfWrong : ChangeSpec := { name := "fnTreeOf", fn := fun _ => fun
  | [d] => { results := [.lit (.bool false)], args := [d] }
  | _ => none }
def FnTreeOfWrongFalsely : Prop := fnTreeOfRow.holds Try.pinned (OpenSpec.ofChange fnTreeOfWrong)

/- THE SECOND FORM. 'bulk': how many values and letters a reading holds, each counted each time it is reached (what is shared counts as often as it is met; a slice's spare places count too). A statement '..UptoSaid' is the law's where the arguments, and the package variables that the reading takes, are together of bulk at most 1048576: NARROWER than '..Said'. Prove '..Said' where nothing that the law and all that it calls make is longer than what came in: it says more and counts as full. Else prove '..UptoSaid'. A law counts once. -/
mutual
def uptoBulk {H : Type} : DataW H → Nat
  | .lit (.string bytes) => bytes.length + 1
  | .lit _ => 1
  | .nil => 1
  | .ptr d => uptoBulk d + 1
  | .slice elems spare => uptoBulkAll elems + uptoBulkAll spare + 1
  | .agg parts => uptoBulkAll parts + 1
  | .iface _ d => uptoBulk d + 1
  | .map entries => uptoBulkEntries entries + 1
  | .held _ => 1
def uptoBulkAll {H : Type} : List (DataW H) → Nat
  | [] => 0
  | d :: r => uptoBulk d + uptoBulkAll r
def uptoBulkEntries {H : Type} : List (Lit × DataW H) → Nat
  | [] => 0
  | x :: r => uptoBulkEntry x + uptoBulkEntries r
def uptoBulkEntry {H : Type} : Lit × DataW H → Nat
  | (.string bytes, d) => bytes.length + uptoBulk d + 1
  | (_, d) => uptoBulk d + 1
 end
def uptoSmall : (H : Type) → List (DataW H) → Bool := fun _ ds => decide (uptoBulkAll ds ≤ 1048576)
def OpenSpec.upto (s : _root_.Go.ChangeSpec) : _root_.Go.OpenSpec := { _root_.Go.OpenSpec.ofChange s with cond := some uptoSmall }

/-- 'laws.FnExactRange', WHERE WHAT IT READS IS OF BULK AT MOST 1048576: true; the input reads as it did. -/
def fnExactRangeUptoRow : OpenClaim := { program := "ytjdmaoegfpgfjaa", sum := "b6e1aa86bcd1ac221b0726b15f08a7f4827be995d35cd9b7a315bdde2c16d93e", func := "loop.example/g00573/laws.FnExactRange", spec := "fnExactRange", unfollowed := true, recurses := true, apart := false, narrowed := true }
def FnExactRangeUptoSaid : Prop := fnExactRangeUptoRow.holds Try.pinned (OpenSpec.upto fnExactRangeSpec)

/-- 'laws.FnRange', WHERE WHAT IT READS IS OF BULK AT MOST 1048576: true; the input reads as it did. -/
def fnRangeUptoRow : OpenClaim := { program := "ytjdmaoegfpgfjaa", sum := "b6e1aa86bcd1ac221b0726b15f08a7f4827be995d35cd9b7a315bdde2c16d93e", func := "loop.example/g00573/laws.FnRange", spec := "fnRange", unfollowed := true, recurses := true, apart := false, narrowed := true }
def FnRangeUptoSaid : Prop := fnRangeUptoRow.holds Try.pinned (OpenSpec.upto fnRangeSpec)

/-- 'laws.FnMapPieces', WHERE WHAT IT READS IS OF BULK AT MOST 1048576: true; the input reads as it did. -/
def fnMapPiecesUptoRow : OpenClaim := { program := "ytjdmaoegfpgfjaa", sum := "b6e1aa86bcd1ac221b0726b15f08a7f4827be995d35cd9b7a315bdde2c16d93e", func := "loop.example/g00573/laws.FnMapPieces", spec := "fnMapPieces", unfollowed := true, recurses := true, apart := false, narrowed := true }
def FnMapPiecesUptoSaid : Prop := fnMapPiecesUptoRow.holds Try.pinned (OpenSpec.upto fnMapPiecesSpec)

/-- 'laws.FnFreeTwice', WHERE WHAT IT READS IS OF BULK AT MOST 1048576: true; the input reads as it did. -/
def fnFreeTwiceUptoRow : OpenClaim := { program := "ytjdmaoegfpgfjaa", sum := "b6e1aa86bcd1ac221b0726b15f08a7f4827be995d35cd9b7a315bdde2c16d93e", func := "loop.example/g00573/laws.FnFreeTwice", spec := "fnFreeTwice", unfollowed := true, recurses := true, apart := false, narrowed := true }
def FnFreeTwiceUptoSaid : Prop := fnFreeTwiceUptoRow.holds Try.pinned (OpenSpec.upto fnFreeTwiceSpec)

/-- 'laws.FnGranted', WHERE WHAT IT READS IS OF BULK AT MOST 1048576: true; the input reads as it did. -/
def fnGrantedUptoRow : OpenClaim := { program := "ytjdmaoegfpgfjaa", sum := "b6e1aa86bcd1ac221b0726b15f08a7f4827be995d35cd9b7a315bdde2c16d93e", func := "loop.example/g00573/laws.FnGranted", spec := "fnGranted", unfollowed := true, recurses := true, apart := false, narrowed := true }
def FnGrantedUptoSaid : Prop := fnGrantedUptoRow.holds Try.pinned (OpenSpec.upto fnGrantedSpec)

/-- 'laws.FnFree', WHERE WHAT IT READS IS OF BULK AT MOST 1048576: true; the input reads as it did. -/
def fnFreeUptoRow : OpenClaim := { program := "ytjdmaoegfpgfjaa", sum := "b6e1aa86bcd1ac221b0726b15f08a7f4827be995d35cd9b7a315bdde2c16d93e", func := "loop.example/g00573/laws.FnFree", spec := "fnFree", unfollowed := true, recurses := true, apart := false, narrowed := true }
def FnFreeUptoSaid : Prop := fnFreeUptoRow.holds Try.pinned (OpenSpec.upto fnFreeSpec)

/-- 'laws.FnWaits', WHERE WHAT IT READS IS OF BULK AT MOST 1048576: true; the input reads as it did. -/
def fnWaitsUptoRow : OpenClaim := { program := "ytjdmaoegfpgfjaa", sum := "b6e1aa86bcd1ac221b0726b15f08a7f4827be995d35cd9b7a315bdde2c16d93e", func := "loop.example/g00573/laws.FnWaits", spec := "fnWaits", unfollowed := true, recurses := true, apart := false, narrowed := true }
def FnWaitsUptoSaid : Prop := fnWaitsUptoRow.holds Try.pinned (OpenSpec.upto fnWaitsSpec)

/-- 'laws.FnAsk', WHERE WHAT IT READS IS OF BULK AT MOST 1048576: true; the input reads as it did. -/
def fnAskUptoRow : OpenClaim := { program := "ytjdmaoegfpgfjaa", sum := "b6e1aa86bcd1ac221b0726b15f08a7f4827be995d35cd9b7a315bdde2c16d93e", func := "loop.example/g00573/laws.FnAsk", spec := "fnAsk", unfollowed := true, recurses := true, apart := false, narrowed := true }
def FnAskUptoSaid : Prop := fnAskUptoRow.holds Try.pinned (OpenSpec.upto fnAskSpec)

/-- 'laws.FnExactDbOk', WHERE WHAT IT READS IS OF BULK AT MOST 1048576: true; the input reads as it did. -/
def fnExactDbOkUptoRow : OpenClaim := { program := "ytjdmaoegfpgfjaa", sum := "b6e1aa86bcd1ac221b0726b15f08a7f4827be995d35cd9b7a315bdde2c16d93e", func := "loop.example/g00573/laws.FnExactDbOk", spec := "fnExactDbOk", unfollowed := true, recurses := true, apart := false, narrowed := true }
def FnExactDbOkUptoSaid : Prop := fnExactDbOkUptoRow.holds Try.pinned (OpenSpec.upto fnExactDbOkSpec)

/-- 'laws.FnExactTreeOf', WHERE WHAT IT READS IS OF BULK AT MOST 1048576: true; the input reads as it did. -/
def fnExactTreeOfUptoRow : OpenClaim := { program := "ytjdmaoegfpgfjaa", sum := "b6e1aa86bcd1ac221b0726b15f08a7f4827be995d35cd9b7a315bdde2c16d93e", func := "loop.example/g00573/laws.FnExactTreeOf", spec := "fnExactTreeOf", unfollowed := true, recurses := true, apart := false, narrowed := true }
def FnExactTreeOfUptoSaid : Prop := fnExactTreeOfUptoRow.holds Try.pinned (OpenSpec.upto fnExactTreeOfSpec)

/-- 'laws.FnTreeOf', WHERE WHAT IT READS IS OF BULK AT MOST 1048576: true; the input reads as it did. -/
def fnTreeOfUptoRow : OpenClaim := { program := "ytjdmaoegfpgfjaa", sum := "b6e1aa86bcd1ac221b0726b15f08a7f4827be995d35cd9b7a315bdde2c16d93e", func := "loop.example/g00573/laws.FnTreeOf", spec := "fnTreeOf", unfollowed := true, recurses := true, apart := false, narrowed := true }
def FnTreeOfUptoSaid : Prop := fnTreeOfUptoRow.holds Try.pinned (OpenSpec.upto fnTreeOfSpec)

end Rows
end Go.Proofs.Ytjdmaoegfpgfjaa
