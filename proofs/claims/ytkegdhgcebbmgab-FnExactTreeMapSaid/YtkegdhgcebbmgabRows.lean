/-
  No cell of these rows narrows 'for every input' (looked for: loops, veiled, ifaces, maps, wideKeys, modest, calm, conditions, laid).
  DERIVED. THE GIVEN ROWS OF THIS SEAT. 10 by the template 'for every input the law returns true; each argument reads behind the call as it read before'; 0 by the template 'total and deterministic' (their statements: YtkegdhgcebbmgabTotals.lean).
  GIVEN WITH THE SEED: the statements are not yours to turn. If you find one false, say at which input.
  Laid BY PROGRAM, IN A SANDBOX (cutbox-rows.mjs): the forced cells as the released guide's own fill.sh prints them over the translation 006f1610581dac6c… (all of the seat's roots in one cut). By AI agents, Wed Nov 11 2026. No macro, syntax, notation, axiom, sorry.
-/
import Derived.Test.YtkegdhgcebbmgabChecked
import GoSem.Claim
import GoSem.ClaimJoined
import GoSem.ClaimMapViews
import Derived.JoinedTies
import Derived.KernelRfl
namespace Go.Proofs.Ytkegdhgcebbmgab
/- THE CELL 'sum', in the pinned program and in every row, IS THE sha256 OF THE DUMP (.gsa) THAT YtkegdhgcebbmgabProg.lean LOADS. Nothing in Lean hashes anything: it is a label: what it is worth is what the hold of that sum in a sandbox is worth. -/
noncomputable def Try.pinned : Pinned := { name := "ytkegdhgcebbmgab", sum := "006f1610581dac6c3faf541eff81ee2bcbc485a13532693a8ec6ad33e5256b7b", checked := Try.checked }
namespace Rows
def none {H : Type} : Left H := { results := [], args := [] }

/-- 'laws.FnExactTreeOk': WHATEVER THE INPUT: true; the input reads as it did. -/
def fnExactTreeOkSpec : ChangeSpec := { name := "fnExactTreeOk", fn := fun _ => fun
  | [d] => { results := [.lit (.bool true)], args := [d] }
  | _ => none }
def fnExactTreeOkRow : OpenClaim := { program := "ytkegdhgcebbmgab", sum := "006f1610581dac6c3faf541eff81ee2bcbc485a13532693a8ec6ad33e5256b7b", func := "loop.example/g00573/laws.FnExactTreeOk", spec := "fnExactTreeOk", unfollowed := true, recurses := true, apart := false }
def FnExactTreeOkSaid : Prop := fnExactTreeOkRow.holds Try.pinned (OpenSpec.ofChange fnExactTreeOkSpec)

/-- ITS FALSE NEIGHBOUR: 'it returns false'. Refute it at one input. -/
def fnExactTreeOkWrong : ChangeSpec := { name := "fnExactTreeOk", fn := fun _ => fun
  | [d] => { results := [.lit (.bool false)], args := [d] }
  | _ => none }
def FnExactTreeOkWrongFalsely : Prop := fnExactTreeOkRow.holds Try.pinned (OpenSpec.ofChange fnExactTreeOkWrong)

/-- 'laws.FnExactTreeOf': WHATEVER THE INPUT: true; the input reads as it did. -/
def fnExactTreeOfSpec : ChangeSpec := { name := "fnExactTreeOf", fn := fun _ => fun
  | [d] => { results := [.lit (.bool true)], args := [d] }
  | _ => none }
def fnExactTreeOfRow : OpenClaim := { program := "ytkegdhgcebbmgab", sum := "006f1610581dac6c3faf541eff81ee2bcbc485a13532693a8ec6ad33e5256b7b", func := "loop.example/g00573/laws.FnExactTreeOf", spec := "fnExactTreeOf", unfollowed := true, recurses := true, apart := false }
def FnExactTreeOfSaid : Prop := fnExactTreeOfRow.holds Try.pinned (OpenSpec.ofChange fnExactTreeOfSpec)

/-- ITS FALSE NEIGHBOUR: 'it returns false'. Refute it at one input. -/
def fnExactTreeOfWrong : ChangeSpec := { name := "fnExactTreeOf", fn := fun _ => fun
  | [d] => { results := [.lit (.bool false)], args := [d] }
  | _ => none }
def FnExactTreeOfWrongFalsely : Prop := fnExactTreeOfRow.holds Try.pinned (OpenSpec.ofChange fnExactTreeOfWrong)

/-- 'laws.FnExactTreeMap': WHATEVER THE INPUT: true; the input reads as it did. -/
def fnExactTreeMapSpec : ChangeSpec := { name := "fnExactTreeMap", fn := fun _ => fun
  | [d] => { results := [.lit (.bool true)], args := [d] }
  | _ => none }
def fnExactTreeMapRow : OpenClaim := { program := "ytkegdhgcebbmgab", sum := "006f1610581dac6c3faf541eff81ee2bcbc485a13532693a8ec6ad33e5256b7b", func := "loop.example/g00573/laws.FnExactTreeMap", spec := "fnExactTreeMap", unfollowed := true, recurses := true, apart := false }
def FnExactTreeMapSaid : Prop := fnExactTreeMapRow.holds Try.pinned (OpenSpec.ofChange fnExactTreeMapSpec)

/-- ITS FALSE NEIGHBOUR: 'it returns false'. Refute it at one input. -/
def fnExactTreeMapWrong : ChangeSpec := { name := "fnExactTreeMap", fn := fun _ => fun
  | [d] => { results := [.lit (.bool false)], args := [d] }
  | _ => none }
def FnExactTreeMapWrongFalsely : Prop := fnExactTreeMapRow.holds Try.pinned (OpenSpec.ofChange fnExactTreeMapWrong)

/-- 'laws.FnExactTreeGet': WHATEVER THE INPUT: true; the input reads as it did. -/
def fnExactTreeGetSpec : ChangeSpec := { name := "fnExactTreeGet", fn := fun _ => fun
  | [d1, d2] => { results := [.lit (.bool true)], args := [d1, d2] }
  | _ => none }
def fnExactTreeGetRow : OpenClaim := { program := "ytkegdhgcebbmgab", sum := "006f1610581dac6c3faf541eff81ee2bcbc485a13532693a8ec6ad33e5256b7b", func := "loop.example/g00573/laws.FnExactTreeGet", spec := "fnExactTreeGet", unfollowed := true, recurses := true, apart := false }
def FnExactTreeGetSaid : Prop := fnExactTreeGetRow.holds Try.pinned (OpenSpec.ofChange fnExactTreeGetSpec)

/-- ITS FALSE NEIGHBOUR: 'it returns false'. Refute it at one input. -/
def fnExactTreeGetWrong : ChangeSpec := { name := "fnExactTreeGet", fn := fun _ => fun
  | [d1, d2] => { results := [.lit (.bool false)], args := [d1, d2] }
  | _ => none }
def FnExactTreeGetWrongFalsely : Prop := fnExactTreeGetRow.holds Try.pinned (OpenSpec.ofChange fnExactTreeGetWrong)

/-- 'laws.FnExactTreePut': WHATEVER THE INPUT: true; the input reads as it did. -/
def fnExactTreePutSpec : ChangeSpec := { name := "fnExactTreePut", fn := fun _ => fun
  | [d1, d2, d3] => { results := [.lit (.bool true)], args := [d1, d2, d3] }
  | _ => none }
def fnExactTreePutRow : OpenClaim := { program := "ytkegdhgcebbmgab", sum := "006f1610581dac6c3faf541eff81ee2bcbc485a13532693a8ec6ad33e5256b7b", func := "loop.example/g00573/laws.FnExactTreePut", spec := "fnExactTreePut", inPlace := ["slices.overlaps[*loop.example/g00573/impl.branch]"], unfollowed := true, recurses := true, apart := false }
def FnExactTreePutSaid : Prop := fnExactTreePutRow.holds Try.pinned (OpenSpec.ofChange fnExactTreePutSpec)

/-- ITS FALSE NEIGHBOUR: 'it returns false'. Refute it at one input. -/
def fnExactTreePutWrong : ChangeSpec := { name := "fnExactTreePut", fn := fun _ => fun
  | [d1, d2, d3] => { results := [.lit (.bool false)], args := [d1, d2, d3] }
  | _ => none }
def FnExactTreePutWrongFalsely : Prop := fnExactTreePutRow.holds Try.pinned (OpenSpec.ofChange fnExactTreePutWrong)

/-- 'laws.FnExactTreeDrop': WHATEVER THE INPUT: true; the input reads as it did. -/
def fnExactTreeDropSpec : ChangeSpec := { name := "fnExactTreeDrop", fn := fun _ => fun
  | [d1, d2] => { results := [.lit (.bool true)], args := [d1, d2] }
  | _ => none }
def fnExactTreeDropRow : OpenClaim := { program := "ytkegdhgcebbmgab", sum := "006f1610581dac6c3faf541eff81ee2bcbc485a13532693a8ec6ad33e5256b7b", func := "loop.example/g00573/laws.FnExactTreeDrop", spec := "fnExactTreeDrop", unfollowed := true, recurses := true, apart := false }
def FnExactTreeDropSaid : Prop := fnExactTreeDropRow.holds Try.pinned (OpenSpec.ofChange fnExactTreeDropSpec)

/-- ITS FALSE NEIGHBOUR: 'it returns false'. Refute it at one input. -/
def fnExactTreeDropWrong : ChangeSpec := { name := "fnExactTreeDrop", fn := fun _ => fun
  | [d1, d2] => { results := [.lit (.bool false)], args := [d1, d2] }
  | _ => none }
def FnExactTreeDropWrongFalsely : Prop := fnExactTreeDropRow.holds Try.pinned (OpenSpec.ofChange fnExactTreeDropWrong)

/-- 'laws.FnExactHeight': WHATEVER THE INPUT: true; the input reads as it did. -/
def fnExactHeightSpec : ChangeSpec := { name := "fnExactHeight", fn := fun _ => fun
  | [d] => { results := [.lit (.bool true)], args := [d] }
  | _ => none }
def fnExactHeightRow : OpenClaim := { program := "ytkegdhgcebbmgab", sum := "006f1610581dac6c3faf541eff81ee2bcbc485a13532693a8ec6ad33e5256b7b", func := "loop.example/g00573/laws.FnExactHeight", spec := "fnExactHeight", unfollowed := true, recurses := true, apart := false }
def FnExactHeightSaid : Prop := fnExactHeightRow.holds Try.pinned (OpenSpec.ofChange fnExactHeightSpec)

/-- ITS FALSE NEIGHBOUR: 'it returns false'. Refute it at one input. -/
def fnExactHeightWrong : ChangeSpec := { name := "fnExactHeight", fn := fun _ => fun
  | [d] => { results := [.lit (.bool false)], args := [d] }
  | _ => none }
def FnExactHeightWrongFalsely : Prop := fnExactHeightRow.holds Try.pinned (OpenSpec.ofChange fnExactHeightWrong)

/-- 'laws.FnTreeOf': WHATEVER THE INPUT: true; the input reads as it did. -/
def fnTreeOfSpec : ChangeSpec := { name := "fnTreeOf", fn := fun _ => fun
  | [d] => { results := [.lit (.bool true)], args := [d] }
  | _ => none }
def fnTreeOfRow : OpenClaim := { program := "ytkegdhgcebbmgab", sum := "006f1610581dac6c3faf541eff81ee2bcbc485a13532693a8ec6ad33e5256b7b", func := "loop.example/g00573/laws.FnTreeOf", spec := "fnTreeOf", unfollowed := true, recurses := true, apart := false }
def FnTreeOfSaid : Prop := fnTreeOfRow.holds Try.pinned (OpenSpec.ofChange fnTreeOfSpec)

/-- ITS FALSE NEIGHBOUR: 'it returns false'. Refute it at one input. -/
def fnTreeOfWrong : ChangeSpec := { name := "fnTreeOf", fn := fun _ => fun
  | [d] => { results := [.lit (.bool false)], args := [d] }
  | _ => none }
def FnTreeOfWrongFalsely : Prop := fnTreeOfRow.holds Try.pinned (OpenSpec.ofChange fnTreeOfWrong)

/-- 'laws.FnTreeGet': WHATEVER THE INPUT: true; the input reads as it did. -/
def fnTreeGetSpec : ChangeSpec := { name := "fnTreeGet", fn := fun _ => fun
  | [d] => { results := [.lit (.bool true)], args := [d] }
  | _ => none }
def fnTreeGetRow : OpenClaim := { program := "ytkegdhgcebbmgab", sum := "006f1610581dac6c3faf541eff81ee2bcbc485a13532693a8ec6ad33e5256b7b", func := "loop.example/g00573/laws.FnTreeGet", spec := "fnTreeGet", unfollowed := true, recurses := true, apart := false }
def FnTreeGetSaid : Prop := fnTreeGetRow.holds Try.pinned (OpenSpec.ofChange fnTreeGetSpec)

/-- ITS FALSE NEIGHBOUR: 'it returns false'. Refute it at one input. -/
def fnTreeGetWrong : ChangeSpec := { name := "fnTreeGet", fn := fun _ => fun
  | [d] => { results := [.lit (.bool false)], args := [d] }
  | _ => none }
def FnTreeGetWrongFalsely : Prop := fnTreeGetRow.holds Try.pinned (OpenSpec.ofChange fnTreeGetWrong)

/-- 'laws.FnHeight': WHATEVER THE INPUT: true; the input reads as it did. -/
def fnHeightSpec : ChangeSpec := { name := "fnHeight", fn := fun _ => fun
  | [d] => { results := [.lit (.bool true)], args := [d] }
  | _ => none }
def fnHeightRow : OpenClaim := { program := "ytkegdhgcebbmgab", sum := "006f1610581dac6c3faf541eff81ee2bcbc485a13532693a8ec6ad33e5256b7b", func := "loop.example/g00573/laws.FnHeight", spec := "fnHeight", unfollowed := true, recurses := true, apart := false }
def FnHeightSaid : Prop := fnHeightRow.holds Try.pinned (OpenSpec.ofChange fnHeightSpec)

/-- ITS FALSE NEIGHBOUR: 'it returns false'. Refute it at one input. -/
def fnHeightWrong : ChangeSpec := { name := "fnHeight", fn := fun _ => fun
  | [d] => { results := [.lit (.bool false)], args := [d] }
  | _ => none }
def FnHeightWrongFalsely : Prop := fnHeightRow.holds Try.pinned (OpenSpec.ofChange fnHeightWrong)

/- THE SECOND FORM. 'bulk': how many values and letters a reading holds, each counted each time it is reached (what is shared counts as often as it is met; a slice's spare places count too). A statement '..UptoSaid' is the law's where the arguments, and the package variables that the reading takes, are together of bulk at most 1048576: NARROWER than '..Said'. Prove '..Said' where nothing that the law and all that it calls make is longer than what came in: it says more and counts as full. Else prove '..UptoSaid'. A law counts once. -/
mutual
def uptoBulk {H : Type} : DataW H → Nat
  | .lit (.string bytes) => bytes.length + 1
  | .lit _ => 1
  | .nil => 1
  | .ptr d => uptoBulk d + 1
  | .slice elems spare => uptoBulkAll elems + uptoBulkAll spare + 1
  | .agg parts => uptoBulkAll parts + 1
  | .iface _ d => uptoBulk d + 1
  | .map entries => uptoBulkEntries entries + 1
  | .held _ => 1
def uptoBulkAll {H : Type} : List (DataW H) → Nat
  | [] => 0
  | d :: r => uptoBulk d + uptoBulkAll r
def uptoBulkEntries {H : Type} : List (Lit × DataW H) → Nat
  | [] => 0
  | x :: r => uptoBulkEntry x + uptoBulkEntries r
def uptoBulkEntry {H : Type} : Lit × DataW H → Nat
  | (.string bytes, d) => bytes.length + uptoBulk d + 1
  | (_, d) => uptoBulk d + 1
 end
def uptoSmall : (H : Type) → List (DataW H) → Bool := fun _ ds => decide (uptoBulkAll ds ≤ 1048576)
def OpenSpec.upto (s : _root_.Go.ChangeSpec) : _root_.Go.OpenSpec := { _root_.Go.OpenSpec.ofChange s with cond := some uptoSmall }

/-- 'laws.FnExactTreeOk', WHERE WHAT IT READS IS OF BULK AT MOST 1048576: true; the input reads as it did. -/
def fnExactTreeOkUptoRow : OpenClaim := { program := "ytkegdhgcebbmgab", sum := "006f1610581dac6c3faf541eff81ee2bcbc485a13532693a8ec6ad33e5256b7b", func := "loop.example/g00573/laws.FnExactTreeOk", spec := "fnExactTreeOk", unfollowed := true, recurses := true, apart := false, narrowed := true }
def FnExactTreeOkUptoSaid : Prop := fnExactTreeOkUptoRow.holds Try.pinned (OpenSpec.upto fnExactTreeOkSpec)

/-- 'laws.FnExactTreeOf', WHERE WHAT IT READS IS OF BULK AT MOST 1048576: true; the input reads as it did. -/
def fnExactTreeOfUptoRow : OpenClaim := { program := "ytkegdhgcebbmgab", sum := "006f1610581dac6c3faf541eff81ee2bcbc485a13532693a8ec6ad33e5256b7b", func := "loop.example/g00573/laws.FnExactTreeOf", spec := "fnExactTreeOf", unfollowed := true, recurses := true, apart := false, narrowed := true }
def FnExactTreeOfUptoSaid : Prop := fnExactTreeOfUptoRow.holds Try.pinned (OpenSpec.upto fnExactTreeOfSpec)

/-- 'laws.FnExactTreeMap', WHERE WHAT IT READS IS OF BULK AT MOST 1048576: true; the input reads as it did. -/
def fnExactTreeMapUptoRow : OpenClaim := { program := "ytkegdhgcebbmgab", sum := "006f1610581dac6c3faf541eff81ee2bcbc485a13532693a8ec6ad33e5256b7b", func := "loop.example/g00573/laws.FnExactTreeMap", spec := "fnExactTreeMap", unfollowed := true, recurses := true, apart := false, narrowed := true }
def FnExactTreeMapUptoSaid : Prop := fnExactTreeMapUptoRow.holds Try.pinned (OpenSpec.upto fnExactTreeMapSpec)

/-- 'laws.FnExactTreeGet', WHERE WHAT IT READS IS OF BULK AT MOST 1048576: true; the input reads as it did. -/
def fnExactTreeGetUptoRow : OpenClaim := { program := "ytkegdhgcebbmgab", sum := "006f1610581dac6c3faf541eff81ee2bcbc485a13532693a8ec6ad33e5256b7b", func := "loop.example/g00573/laws.FnExactTreeGet", spec := "fnExactTreeGet", unfollowed := true, recurses := true, apart := false, narrowed := true }
def FnExactTreeGetUptoSaid : Prop := fnExactTreeGetUptoRow.holds Try.pinned (OpenSpec.upto fnExactTreeGetSpec)

/-- 'laws.FnExactTreePut', WHERE WHAT IT READS IS OF BULK AT MOST 1048576: true; the input reads as it did. -/
def fnExactTreePutUptoRow : OpenClaim := { program := "ytkegdhgcebbmgab", sum := "006f1610581dac6c3faf541eff81ee2bcbc485a13532693a8ec6ad33e5256b7b", func := "loop.example/g00573/laws.FnExactTreePut", spec := "fnExactTreePut", inPlace := ["slices.overlaps[*loop.example/g00573/impl.branch]"], unfollowed := true, recurses := true, apart := false, narrowed := true }
def FnExactTreePutUptoSaid : Prop := fnExactTreePutUptoRow.holds Try.pinned (OpenSpec.upto fnExactTreePutSpec)

/-- 'laws.FnExactTreeDrop', WHERE WHAT IT READS IS OF BULK AT MOST 1048576: true; the input reads as it did. -/
def fnExactTreeDropUptoRow : OpenClaim := { program := "ytkegdhgcebbmgab", sum := "006f1610581dac6c3faf541eff81ee2bcbc485a13532693a8ec6ad33e5256b7b", func := "loop.example/g00573/laws.FnExactTreeDrop", spec := "fnExactTreeDrop", unfollowed := true, recurses := true, apart := false, narrowed := true }
def FnExactTreeDropUptoSaid : Prop := fnExactTreeDropUptoRow.holds Try.pinned (OpenSpec.upto fnExactTreeDropSpec)

/-- 'laws.FnExactHeight', WHERE WHAT IT READS IS OF BULK AT MOST 1048576: true; the input reads as it did. -/
def fnExactHeightUptoRow : OpenClaim := { program := "ytkegdhgcebbmgab", sum := "006f1610581dac6c3faf541eff81ee2bcbc485a13532693a8ec6ad33e5256b7b", func := "loop.example/g00573/laws.FnExactHeight", spec := "fnExactHeight", unfollowed := true, recurses := true, apart := false, narrowed := true }
def FnExactHeightUptoSaid : Prop := fnExactHeightUptoRow.holds Try.pinned (OpenSpec.upto fnExactHeightSpec)

/-- 'laws.FnTreeOf', WHERE WHAT IT READS IS OF BULK AT MOST 1048576: true; the input reads as it did. -/
def fnTreeOfUptoRow : OpenClaim := { program := "ytkegdhgcebbmgab", sum := "006f1610581dac6c3faf541eff81ee2bcbc485a13532693a8ec6ad33e5256b7b", func := "loop.example/g00573/laws.FnTreeOf", spec := "fnTreeOf", unfollowed := true, recurses := true, apart := false, narrowed := true }
def FnTreeOfUptoSaid : Prop := fnTreeOfUptoRow.holds Try.pinned (OpenSpec.upto fnTreeOfSpec)

/-- 'laws.FnTreeGet', WHERE WHAT IT READS IS OF BULK AT MOST 1048576: true; the input reads as it did. -/
def fnTreeGetUptoRow : OpenClaim := { program := "ytkegdhgcebbmgab", sum := "006f1610581dac6c3faf541eff81ee2bcbc485a13532693a8ec6ad33e5256b7b", func := "loop.example/g00573/laws.FnTreeGet", spec := "fnTreeGet", unfollowed := true, recurses := true, apart := false, narrowed := true }
def FnTreeGetUptoSaid : Prop := fnTreeGetUptoRow.holds Try.pinned (OpenSpec.upto fnTreeGetSpec)

/-- 'laws.FnHeight', WHERE WHAT IT READS IS OF BULK AT MOST 1048576: true; the input reads as it did. -/
def fnHeightUptoRow : OpenClaim := { program := "ytkegdhgcebbmgab", sum := "006f1610581dac6c3faf541eff81ee2bcbc485a13532693a8ec6ad33e5256b7b", func := "loop.example/g00573/laws.FnHeight", spec := "fnHeight", unfollowed := true, recurses := true, apart := false, narrowed := true }
def FnHeightUptoSaid : Prop := fnHeightUptoRow.holds Try.pinned (OpenSpec.upto fnHeightSpec)

end Rows
end Go.Proofs.Ytkegdhgcebbmgab
