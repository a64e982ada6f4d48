/-
  No cell of these rows narrows 'for every input' (looked for: loops, veiled, ifaces, maps, wideKeys, modest, calm, conditions, laid).
  DERIVED. THE GIVEN ROWS OF THIS SEAT. 8 by the template 'for every input the law returns true; each argument reads behind the call as it read before'; 0 by the template 'total and deterministic' (their statements: YtaiehccpefjbfabTotals.lean).
  GIVEN WITH THE SEED: the statements are not yours to turn. If you find one false, say at which input.
  Laid BY PROGRAM, IN A SANDBOX (cutbox-rows.mjs): the forced cells as the released guide's own fill.sh prints them over the translation fe8b1adb30ca6ce6… (all of the seat's roots in one cut). By AI agents, Wed Nov 11 2026. No macro, syntax, notation, axiom, sorry.
-/
import Derived.Test.YtaiehccpefjbfabChecked
import GoSem.Claim
import GoSem.ClaimJoined
import GoSem.ClaimMapViews
import Derived.JoinedTies
import Derived.KernelRfl
namespace Go.Proofs.Ytaiehccpefjbfab
/- THE CELL 'sum', in the pinned program and in every row, IS THE sha256 OF THE DUMP (.gsa) THAT YtaiehccpefjbfabProg.lean LOADS. Nothing in Lean hashes anything: it is a label: what it is worth is what the hold of that sum in a sandbox is worth. -/
noncomputable def Try.pinned : Pinned := { name := "ytaiehccpefjbfab", sum := "fe8b1adb30ca6ce60260979c2d887698cfc27c17008efa41f8dd4fd996f81e35", checked := Try.checked }
namespace Rows
def none {H : Type} : Left H := { results := [], args := [] }

/-- 'laws.FnExactSeek': WHATEVER THE INPUT: true; the input reads as it did. -/
def fnExactSeekSpec : ChangeSpec := { name := "fnExactSeek", fn := fun _ => fun
  | [d1, d2] => { results := [.lit (.bool true)], args := [d1, d2] }
  | _ => none }
def fnExactSeekRow : OpenClaim := { program := "ytaiehccpefjbfab", sum := "fe8b1adb30ca6ce60260979c2d887698cfc27c17008efa41f8dd4fd996f81e35", func := "loop.example/g00573/laws.FnExactSeek", spec := "fnExactSeek", unfollowed := true, recurses := true, apart := false }
def FnExactSeekSaid : Prop := fnExactSeekRow.holds Try.pinned (OpenSpec.ofChange fnExactSeekSpec)

/-- ITS FALSE NEIGHBOUR: 'it returns false'. Refute it at one input. -/
def fnExactSeekWrong : ChangeSpec := { name := "fnExactSeek", fn := fun _ => fun
  | [d1, d2] => { results := [.lit (.bool false)], args := [d1, d2] }
  | _ => none }
def FnExactSeekWrongFalsely : Prop := fnExactSeekRow.holds Try.pinned (OpenSpec.ofChange fnExactSeekWrong)

/-- 'laws.FnExactAfter': WHATEVER THE INPUT: true; the input reads as it did. -/
def fnExactAfterSpec : ChangeSpec := { name := "fnExactAfter", fn := fun _ => fun
  | [d1, d2] => { results := [.lit (.bool true)], args := [d1, d2] }
  | _ => none }
def fnExactAfterRow : OpenClaim := { program := "ytaiehccpefjbfab", sum := "fe8b1adb30ca6ce60260979c2d887698cfc27c17008efa41f8dd4fd996f81e35", func := "loop.example/g00573/laws.FnExactAfter", spec := "fnExactAfter", unfollowed := true, recurses := true, apart := false }
def FnExactAfterSaid : Prop := fnExactAfterRow.holds Try.pinned (OpenSpec.ofChange fnExactAfterSpec)

/-- ITS FALSE NEIGHBOUR: 'it returns false'. Refute it at one input. -/
def fnExactAfterWrong : ChangeSpec := { name := "fnExactAfter", fn := fun _ => fun
  | [d1, d2] => { results := [.lit (.bool false)], args := [d1, d2] }
  | _ => none }
def FnExactAfterWrongFalsely : Prop := fnExactAfterRow.holds Try.pinned (OpenSpec.ofChange fnExactAfterWrong)

/-- 'laws.FnExactBefore': WHATEVER THE INPUT: true; the input reads as it did. -/
def fnExactBeforeSpec : ChangeSpec := { name := "fnExactBefore", fn := fun _ => fun
  | [d1, d2] => { results := [.lit (.bool true)], args := [d1, d2] }
  | _ => none }
def fnExactBeforeRow : OpenClaim := { program := "ytaiehccpefjbfab", sum := "fe8b1adb30ca6ce60260979c2d887698cfc27c17008efa41f8dd4fd996f81e35", func := "loop.example/g00573/laws.FnExactBefore", spec := "fnExactBefore", unfollowed := true, recurses := true, apart := false }
def FnExactBeforeSaid : Prop := fnExactBeforeRow.holds Try.pinned (OpenSpec.ofChange fnExactBeforeSpec)

/-- ITS FALSE NEIGHBOUR: 'it returns false'. Refute it at one input. -/
def fnExactBeforeWrong : ChangeSpec := { name := "fnExactBefore", fn := fun _ => fun
  | [d1, d2] => { results := [.lit (.bool false)], args := [d1, d2] }
  | _ => none }
def FnExactBeforeWrongFalsely : Prop := fnExactBeforeRow.holds Try.pinned (OpenSpec.ofChange fnExactBeforeWrong)

/-- 'laws.FnExactRank': WHATEVER THE INPUT: true; the input reads as it did. -/
def fnExactRankSpec : ChangeSpec := { name := "fnExactRank", fn := fun _ => fun
  | [d1, d2] => { results := [.lit (.bool true)], args := [d1, d2] }
  | _ => none }
def fnExactRankRow : OpenClaim := { program := "ytaiehccpefjbfab", sum := "fe8b1adb30ca6ce60260979c2d887698cfc27c17008efa41f8dd4fd996f81e35", func := "loop.example/g00573/laws.FnExactRank", spec := "fnExactRank", unfollowed := true, recurses := true, apart := false }
def FnExactRankSaid : Prop := fnExactRankRow.holds Try.pinned (OpenSpec.ofChange fnExactRankSpec)

/-- ITS FALSE NEIGHBOUR: 'it returns false'. Refute it at one input. -/
def fnExactRankWrong : ChangeSpec := { name := "fnExactRank", fn := fun _ => fun
  | [d1, d2] => { results := [.lit (.bool false)], args := [d1, d2] }
  | _ => none }
def FnExactRankWrongFalsely : Prop := fnExactRankRow.holds Try.pinned (OpenSpec.ofChange fnExactRankWrong)

/-- 'laws.FnExactNth': WHATEVER THE INPUT: true; the input reads as it did. -/
def fnExactNthSpec : ChangeSpec := { name := "fnExactNth", fn := fun _ => fun
  | [d1, d2] => { results := [.lit (.bool true)], args := [d1, d2] }
  | _ => none }
def fnExactNthRow : OpenClaim := { program := "ytaiehccpefjbfab", sum := "fe8b1adb30ca6ce60260979c2d887698cfc27c17008efa41f8dd4fd996f81e35", func := "loop.example/g00573/laws.FnExactNth", spec := "fnExactNth", unfollowed := true, recurses := true, apart := false }
def FnExactNthSaid : Prop := fnExactNthRow.holds Try.pinned (OpenSpec.ofChange fnExactNthSpec)

/-- ITS FALSE NEIGHBOUR: 'it returns false'. Refute it at one input. -/
def fnExactNthWrong : ChangeSpec := { name := "fnExactNth", fn := fun _ => fun
  | [d1, d2] => { results := [.lit (.bool false)], args := [d1, d2] }
  | _ => none }
def FnExactNthWrongFalsely : Prop := fnExactNthRow.holds Try.pinned (OpenSpec.ofChange fnExactNthWrong)

/-- 'laws.FnExactScanUp': WHATEVER THE INPUT: true; the input reads as it did. -/
def fnExactScanUpSpec : ChangeSpec := { name := "fnExactScanUp", fn := fun _ => fun
  | [d1, d2, d3, d4] => { results := [.lit (.bool true)], args := [d1, d2, d3, d4] }
  | _ => none }
def fnExactScanUpRow : OpenClaim := { program := "ytaiehccpefjbfab", sum := "fe8b1adb30ca6ce60260979c2d887698cfc27c17008efa41f8dd4fd996f81e35", func := "loop.example/g00573/laws.FnExactScanUp", spec := "fnExactScanUp", unfollowed := true, recurses := true, apart := false }
def FnExactScanUpSaid : Prop := fnExactScanUpRow.holds Try.pinned (OpenSpec.ofChange fnExactScanUpSpec)

/-- ITS FALSE NEIGHBOUR: 'it returns false'. Refute it at one input. -/
def fnExactScanUpWrong : ChangeSpec := { name := "fnExactScanUp", fn := fun _ => fun
  | [d1, d2, d3, d4] => { results := [.lit (.bool false)], args := [d1, d2, d3, d4] }
  | _ => none }
def FnExactScanUpWrongFalsely : Prop := fnExactScanUpRow.holds Try.pinned (OpenSpec.ofChange fnExactScanUpWrong)

/-- 'laws.FnExactScanDown': WHATEVER THE INPUT: true; the input reads as it did. -/
def fnExactScanDownSpec : ChangeSpec := { name := "fnExactScanDown", fn := fun _ => fun
  | [d1, d2, d3] => { results := [.lit (.bool true)], args := [d1, d2, d3] }
  | _ => none }
def fnExactScanDownRow : OpenClaim := { program := "ytaiehccpefjbfab", sum := "fe8b1adb30ca6ce60260979c2d887698cfc27c17008efa41f8dd4fd996f81e35", func := "loop.example/g00573/laws.FnExactScanDown", spec := "fnExactScanDown", unfollowed := true, recurses := true, apart := false }
def FnExactScanDownSaid : Prop := fnExactScanDownRow.holds Try.pinned (OpenSpec.ofChange fnExactScanDownSpec)

/-- ITS FALSE NEIGHBOUR: 'it returns false'. Refute it at one input. -/
def fnExactScanDownWrong : ChangeSpec := { name := "fnExactScanDown", fn := fun _ => fun
  | [d1, d2, d3] => { results := [.lit (.bool false)], args := [d1, d2, d3] }
  | _ => none }
def FnExactScanDownWrongFalsely : Prop := fnExactScanDownRow.holds Try.pinned (OpenSpec.ofChange fnExactScanDownWrong)

/-- 'laws.FnExactCountIn': WHATEVER THE INPUT: true; the input reads as it did. -/
def fnExactCountInSpec : ChangeSpec := { name := "fnExactCountIn", fn := fun _ => fun
  | [d1, d2, d3] => { results := [.lit (.bool true)], args := [d1, d2, d3] }
  | _ => none }
def fnExactCountInRow : OpenClaim := { program := "ytaiehccpefjbfab", sum := "fe8b1adb30ca6ce60260979c2d887698cfc27c17008efa41f8dd4fd996f81e35", func := "loop.example/g00573/laws.FnExactCountIn", spec := "fnExactCountIn", unfollowed := true, recurses := true, apart := false }
def FnExactCountInSaid : Prop := fnExactCountInRow.holds Try.pinned (OpenSpec.ofChange fnExactCountInSpec)

/-- ITS FALSE NEIGHBOUR: 'it returns false'. Refute it at one input. -/
def fnExactCountInWrong : ChangeSpec := { name := "fnExactCountIn", fn := fun _ => fun
  | [d1, d2, d3] => { results := [.lit (.bool false)], args := [d1, d2, d3] }
  | _ => none }
def FnExactCountInWrongFalsely : Prop := fnExactCountInRow.holds Try.pinned (OpenSpec.ofChange fnExactCountInWrong)

/- THE SECOND FORM. 'bulk': how many values and letters a reading holds, each counted each time it is reached (what is shared counts as often as it is met; a slice's spare places count too). A statement '..UptoSaid' is the law's where the arguments, and the package variables that the reading takes, are together of bulk at most 1048576: NARROWER than '..Said'. Prove '..Said' where nothing that the law and all that it calls make is longer than what came in: it says more and counts as full. Else prove '..UptoSaid'. A law counts once. -/
mutual
def uptoBulk {H : Type} : DataW H → Nat
  | .lit (.string bytes) => bytes.length + 1
  | .lit _ => 1
  | .nil => 1
  | .ptr d => uptoBulk d + 1
  | .slice elems spare => uptoBulkAll elems + uptoBulkAll spare + 1
  | .agg parts => uptoBulkAll parts + 1
  | .iface _ d => uptoBulk d + 1
  | .map entries => uptoBulkEntries entries + 1
  | .held _ => 1
def uptoBulkAll {H : Type} : List (DataW H) → Nat
  | [] => 0
  | d :: r => uptoBulk d + uptoBulkAll r
def uptoBulkEntries {H : Type} : List (Lit × DataW H) → Nat
  | [] => 0
  | x :: r => uptoBulkEntry x + uptoBulkEntries r
def uptoBulkEntry {H : Type} : Lit × DataW H → Nat
  | (.string bytes, d) => bytes.length + uptoBulk d + 1
  | (_, d) => uptoBulk d + 1
 end
def uptoSmall : (H : Type) → List (DataW H) → Bool := fun _ ds => decide (uptoBulkAll ds ≤ 1048576)
def OpenSpec.upto (s : _root_.Go.ChangeSpec) : _root_.Go.OpenSpec := { _root_.Go.OpenSpec.ofChange s with cond := some uptoSmall }

/-- 'laws.FnExactSeek', WHERE WHAT IT READS IS OF BULK AT MOST 1048576: true; the input reads as it did. -/
def fnExactSeekUptoRow : OpenClaim := { program := "ytaiehccpefjbfab", sum := "fe8b1adb30ca6ce60260979c2d887698cfc27c17008efa41f8dd4fd996f81e35", func := "loop.example/g00573/laws.FnExactSeek", spec := "fnExactSeek", unfollowed := true, recurses := true, apart := false, narrowed := true }
def FnExactSeekUptoSaid : Prop := fnExactSeekUptoRow.holds Try.pinned (OpenSpec.upto fnExactSeekSpec)

/-- 'laws.FnExactAfter', WHERE WHAT IT READS IS OF BULK AT MOST 1048576: true; the input reads as it did. -/
def fnExactAfterUptoRow : OpenClaim := { program := "ytaiehccpefjbfab", sum := "fe8b1adb30ca6ce60260979c2d887698cfc27c17008efa41f8dd4fd996f81e35", func := "loop.example/g00573/laws.FnExactAfter", spec := "fnExactAfter", unfollowed := true, recurses := true, apart := false, narrowed := true }
def FnExactAfterUptoSaid : Prop := fnExactAfterUptoRow.holds Try.pinned (OpenSpec.upto fnExactAfterSpec)

/-- 'laws.FnExactBefore', WHERE WHAT IT READS IS OF BULK AT MOST 1048576: true; the input reads as it did. -/
def fnExactBeforeUptoRow : OpenClaim := { program := "ytaiehccpefjbfab", sum := "fe8b1adb30ca6ce60260979c2d887698cfc27c17008efa41f8dd4fd996f81e35", func := "loop.example/g00573/laws.FnExactBefore", spec := "fnExactBefore", unfollowed := true, recurses := true, apart := false, narrowed := true }
def FnExactBeforeUptoSaid : Prop := fnExactBeforeUptoRow.holds Try.pinned (OpenSpec.upto fnExactBeforeSpec)

/-- 'laws.FnExactRank', WHERE WHAT IT READS IS OF BULK AT MOST 1048576: true; the input reads as it did. -/
def fnExactRankUptoRow : OpenClaim := { program := "ytaiehccpefjbfab", sum := "fe8b1adb30ca6ce60260979c2d887698cfc27c17008efa41f8dd4fd996f81e35", func := "loop.example/g00573/laws.FnExactRank", spec := "fnExactRank", unfollowed := true, recurses := true, apart := false, narrowed := true }
def FnExactRankUptoSaid : Prop := fnExactRankUptoRow.holds Try.pinned (OpenSpec.upto fnExactRankSpec)

/-- 'laws.FnExactNth', WHERE WHAT IT READS IS OF BULK AT MOST 1048576: true; the input reads as it did. -/
def fnExactNthUptoRow : OpenClaim := { program := "ytaiehccpefjbfab", sum := "fe8b1adb30ca6ce60260979c2d887698cfc27c17008efa41f8dd4fd996f81e35", func := "loop.example/g00573/laws.FnExactNth", spec := "fnExactNth", unfollowed := true, recurses := true, apart := false, narrowed := true }
def FnExactNthUptoSaid : Prop := fnExactNthUptoRow.holds Try.pinned (OpenSpec.upto fnExactNthSpec)

/-- 'laws.FnExactScanUp', WHERE WHAT IT READS IS OF BULK AT MOST 1048576: true; the input reads as it did. -/
def fnExactScanUpUptoRow : OpenClaim := { program := "ytaiehccpefjbfab", sum := "fe8b1adb30ca6ce60260979c2d887698cfc27c17008efa41f8dd4fd996f81e35", func := "loop.example/g00573/laws.FnExactScanUp", spec := "fnExactScanUp", unfollowed := true, recurses := true, apart := false, narrowed := true }
def FnExactScanUpUptoSaid : Prop := fnExactScanUpUptoRow.holds Try.pinned (OpenSpec.upto fnExactScanUpSpec)

/-- 'laws.FnExactScanDown', WHERE WHAT IT READS IS OF BULK AT MOST 1048576: true; the input reads as it did. -/
def fnExactScanDownUptoRow : OpenClaim := { program := "ytaiehccpefjbfab", sum := "fe8b1adb30ca6ce60260979c2d887698cfc27c17008efa41f8dd4fd996f81e35", func := "loop.example/g00573/laws.FnExactScanDown", spec := "fnExactScanDown", unfollowed := true, recurses := true, apart := false, narrowed := true }
def FnExactScanDownUptoSaid : Prop := fnExactScanDownUptoRow.holds Try.pinned (OpenSpec.upto fnExactScanDownSpec)

/-- 'laws.FnExactCountIn', WHERE WHAT IT READS IS OF BULK AT MOST 1048576: true; the input reads as it did. -/
def fnExactCountInUptoRow : OpenClaim := { program := "ytaiehccpefjbfab", sum := "fe8b1adb30ca6ce60260979c2d887698cfc27c17008efa41f8dd4fd996f81e35", func := "loop.example/g00573/laws.FnExactCountIn", spec := "fnExactCountIn", unfollowed := true, recurses := true, apart := false, narrowed := true }
def FnExactCountInUptoSaid : Prop := fnExactCountInUptoRow.holds Try.pinned (OpenSpec.upto fnExactCountInSpec)

end Rows
end Go.Proofs.Ytaiehccpefjbfab
