/-
  No cell of these rows narrows 'for every input' (looked for: loops, veiled, ifaces, maps, wideKeys, modest, calm, conditions, laid).
  DERIVED. THE GIVEN ROWS OF THIS SEAT. 12 by the template 'for every input the law returns true; each argument reads behind the call as it read before'; 0 by the template 'total and deterministic' (their statements: YtnoelkghmmjdaaaTotals.lean).
  GIVEN WITH THE SEED: the statements are not yours to turn. If you find one false, say at which input.
  Laid BY PROGRAM, IN A SANDBOX (cutbox-rows.mjs): the forced cells as the released guide's own fill.sh prints them over the translation e386bfcde2bec038… (all of the seat's roots in one cut). By AI agents, Wed Nov 11 2026. No macro, syntax, notation, axiom, sorry.
-/
import Derived.Test.YtnoelkghmmjdaaaChecked
import GoSem.Claim
import GoSem.ClaimJoined
import GoSem.ClaimMapViews
import Derived.JoinedTies
import Derived.KernelRfl
namespace Go.Proofs.Ytnoelkghmmjdaaa
/- THE CELL 'sum', in the pinned program and in every row, IS THE sha256 OF THE DUMP (.gsa) THAT YtnoelkghmmjdaaaProg.lean LOADS. Nothing in Lean hashes anything: it is a label: what it is worth is what the hold of that sum in a sandbox is worth. -/
noncomputable def Try.pinned : Pinned := { name := "ytnoelkghmmjdaaa", sum := "e386bfcde2bec03827449394a53d4c3b5ce6fb40d267656bbc926b9bd5f48e41", checked := Try.checked }
namespace Rows
def none {H : Type} : Left H := { results := [], args := [] }

/-- 'laws.FnPut': WHATEVER THE INPUT: true; the input reads as it did. -/
def fnPutSpec : ChangeSpec := { name := "fnPut", fn := fun _ => fun
  | [d] => { results := [.lit (.bool true)], args := [d] }
  | _ => none }
def fnPutRow : OpenClaim := { program := "ytnoelkghmmjdaaa", sum := "e386bfcde2bec03827449394a53d4c3b5ce6fb40d267656bbc926b9bd5f48e41", func := "loop.example/g00573/laws.FnPut", spec := "fnPut", unfollowed := true, recurses := true, apart := false }
def FnPutSaid : Prop := fnPutRow.holds Try.pinned (OpenSpec.ofChange fnPutSpec)

/-- ITS FALSE NEIGHBOUR: 'it returns false'. Refute it at one input. -/
def fnPutWrong : ChangeSpec := { name := "fnPut", fn := fun _ => fun
  | [d] => { results := [.lit (.bool false)], args := [d] }
  | _ => none }
def FnPutWrongFalsely : Prop := fnPutRow.holds Try.pinned (OpenSpec.ofChange fnPutWrong)

/-- 'laws.FnDrop': WHATEVER THE INPUT: true; the input reads as it did. -/
def fnDropSpec : ChangeSpec := { name := "fnDrop", fn := fun _ => fun
  | [d] => { results := [.lit (.bool true)], args := [d] }
  | _ => none }
def fnDropRow : OpenClaim := { program := "ytnoelkghmmjdaaa", sum := "e386bfcde2bec03827449394a53d4c3b5ce6fb40d267656bbc926b9bd5f48e41", func := "loop.example/g00573/laws.FnDrop", spec := "fnDrop", unfollowed := true, recurses := true, apart := false }
def FnDropSaid : Prop := fnDropRow.holds Try.pinned (OpenSpec.ofChange fnDropSpec)

/-- ITS FALSE NEIGHBOUR: 'it returns false'. Refute it at one input. -/
def fnDropWrong : ChangeSpec := { name := "fnDrop", fn := fun _ => fun
  | [d] => { results := [.lit (.bool false)], args := [d] }
  | _ => none }
def FnDropWrongFalsely : Prop := fnDropRow.holds Try.pinned (OpenSpec.ofChange fnDropWrong)

/-- 'laws.FnRange': WHATEVER THE INPUT: true; the input reads as it did. -/
def fnRangeSpec : ChangeSpec := { name := "fnRange", fn := fun _ => fun
  | [d] => { results := [.lit (.bool true)], args := [d] }
  | _ => none }
def fnRangeRow : OpenClaim := { program := "ytnoelkghmmjdaaa", sum := "e386bfcde2bec03827449394a53d4c3b5ce6fb40d267656bbc926b9bd5f48e41", func := "loop.example/g00573/laws.FnRange", spec := "fnRange", unfollowed := true, recurses := true, apart := false }
def FnRangeSaid : Prop := fnRangeRow.holds Try.pinned (OpenSpec.ofChange fnRangeSpec)

/-- ITS FALSE NEIGHBOUR: 'it returns false'. Refute it at one input. -/
def fnRangeWrong : ChangeSpec := { name := "fnRange", fn := fun _ => fun
  | [d] => { results := [.lit (.bool false)], args := [d] }
  | _ => none }
def FnRangeWrongFalsely : Prop := fnRangeRow.holds Try.pinned (OpenSpec.ofChange fnRangeWrong)

/-- 'laws.FnOthers': WHATEVER THE INPUT: true; the input reads as it did. -/
def fnOthersSpec : ChangeSpec := { name := "fnOthers", fn := fun _ => fun
  | [d] => { results := [.lit (.bool true)], args := [d] }
  | _ => none }
def fnOthersRow : OpenClaim := { program := "ytnoelkghmmjdaaa", sum := "e386bfcde2bec03827449394a53d4c3b5ce6fb40d267656bbc926b9bd5f48e41", func := "loop.example/g00573/laws.FnOthers", spec := "fnOthers", unfollowed := true, recurses := true, apart := false }
def FnOthersSaid : Prop := fnOthersRow.holds Try.pinned (OpenSpec.ofChange fnOthersSpec)

/-- ITS FALSE NEIGHBOUR: 'it returns false'. Refute it at one input. -/
def fnOthersWrong : ChangeSpec := { name := "fnOthers", fn := fun _ => fun
  | [d] => { results := [.lit (.bool false)], args := [d] }
  | _ => none }
def FnOthersWrongFalsely : Prop := fnOthersRow.holds Try.pinned (OpenSpec.ofChange fnOthersWrong)

/-- 'laws.FnOneBit': WHATEVER THE INPUT: true; the input reads as it did. -/
def fnOneBitSpec : ChangeSpec := { name := "fnOneBit", fn := fun _ => fun
  | [d] => { results := [.lit (.bool true)], args := [d] }
  | _ => none }
def fnOneBitRow : OpenClaim := { program := "ytnoelkghmmjdaaa", sum := "e386bfcde2bec03827449394a53d4c3b5ce6fb40d267656bbc926b9bd5f48e41", func := "loop.example/g00573/laws.FnOneBit", spec := "fnOneBit", apart := false }
def FnOneBitSaid : Prop := fnOneBitRow.holds Try.pinned (OpenSpec.ofChange fnOneBitSpec)

/-- ITS FALSE NEIGHBOUR: 'it returns false'. Refute it at one input. -/
def fnOneBitWrong : ChangeSpec := { name := "fnOneBit", fn := fun _ => fun
  | [d] => { results := [.lit (.bool false)], args := [d] }
  | _ => none }
def FnOneBitWrongFalsely : Prop := fnOneBitRow.holds Try.pinned (OpenSpec.ofChange fnOneBitWrong)

/-- 'laws.FnMapPieces': WHATEVER THE INPUT: true; the input reads as it did. -/
def fnMapPiecesSpec : ChangeSpec := { name := "fnMapPieces", fn := fun _ => fun
  | [d] => { results := [.lit (.bool true)], args := [d] }
  | _ => none }
def fnMapPiecesRow : OpenClaim := { program := "ytnoelkghmmjdaaa", sum := "e386bfcde2bec03827449394a53d4c3b5ce6fb40d267656bbc926b9bd5f48e41", func := "loop.example/g00573/laws.FnMapPieces", spec := "fnMapPieces", unfollowed := true, recurses := true, apart := false }
def FnMapPiecesSaid : Prop := fnMapPiecesRow.holds Try.pinned (OpenSpec.ofChange fnMapPiecesSpec)

/-- ITS FALSE NEIGHBOUR: 'it returns false'. Refute it at one input. -/
def fnMapPiecesWrong : ChangeSpec := { name := "fnMapPieces", fn := fun _ => fun
  | [d] => { results := [.lit (.bool false)], args := [d] }
  | _ => none }
def FnMapPiecesWrongFalsely : Prop := fnMapPiecesRow.holds Try.pinned (OpenSpec.ofChange fnMapPiecesWrong)

/-- 'laws.FnExactShadowNew': WHATEVER THE INPUT: true; the input reads as it did. -/
def fnExactShadowNewSpec : ChangeSpec := { name := "fnExactShadowNew", fn := fun _ => fun
  | [] => { results := [.lit (.bool true)], args := [] }
  | _ => none }
def fnExactShadowNewRow : OpenClaim := { program := "ytnoelkghmmjdaaa", sum := "e386bfcde2bec03827449394a53d4c3b5ce6fb40d267656bbc926b9bd5f48e41", func := "loop.example/g00573/laws.FnExactShadowNew", spec := "fnExactShadowNew", apart := false }
def FnExactShadowNewSaid : Prop := fnExactShadowNewRow.holds Try.pinned (OpenSpec.ofChange fnExactShadowNewSpec)

/-- ITS FALSE NEIGHBOUR: 'it returns false'. Refute it at one input. -/
def fnExactShadowNewWrong : ChangeSpec := { name := "fnExactShadowNew", fn := fun _ => fun
  | [] => { results := [.lit (.bool false)], args := [] }
  | _ => none }
def FnExactShadowNewWrongFalsely : Prop := fnExactShadowNewRow.holds Try.pinned (OpenSpec.ofChange fnExactShadowNewWrong)

/-- 'laws.FnExactTreeOk': WHATEVER THE INPUT: true; the input reads as it did. -/
def fnExactTreeOkSpec : ChangeSpec := { name := "fnExactTreeOk", fn := fun _ => fun
  | [d] => { results := [.lit (.bool true)], args := [d] }
  | _ => none }
def fnExactTreeOkRow : OpenClaim := { program := "ytnoelkghmmjdaaa", sum := "e386bfcde2bec03827449394a53d4c3b5ce6fb40d267656bbc926b9bd5f48e41", func := "loop.example/g00573/laws.FnExactTreeOk", spec := "fnExactTreeOk", unfollowed := true, recurses := true, apart := false }
def FnExactTreeOkSaid : Prop := fnExactTreeOkRow.holds Try.pinned (OpenSpec.ofChange fnExactTreeOkSpec)

/-- ITS FALSE NEIGHBOUR: 'it returns false'. Refute it at one input. -/
def fnExactTreeOkWrong : ChangeSpec := { name := "fnExactTreeOk", fn := fun _ => fun
  | [d] => { results := [.lit (.bool false)], args := [d] }
  | _ => none }
def FnExactTreeOkWrongFalsely : Prop := fnExactTreeOkRow.holds Try.pinned (OpenSpec.ofChange fnExactTreeOkWrong)

/-- 'laws.FnExactTreeOf': WHATEVER THE INPUT: true; the input reads as it did. -/
def fnExactTreeOfSpec : ChangeSpec := { name := "fnExactTreeOf", fn := fun _ => fun
  | [d] => { results := [.lit (.bool true)], args := [d] }
  | _ => none }
def fnExactTreeOfRow : OpenClaim := { program := "ytnoelkghmmjdaaa", sum := "e386bfcde2bec03827449394a53d4c3b5ce6fb40d267656bbc926b9bd5f48e41", func := "loop.example/g00573/laws.FnExactTreeOf", spec := "fnExactTreeOf", unfollowed := true, recurses := true, apart := false }
def FnExactTreeOfSaid : Prop := fnExactTreeOfRow.holds Try.pinned (OpenSpec.ofChange fnExactTreeOfSpec)

/-- ITS FALSE NEIGHBOUR: 'it returns false'. Refute it at one input. -/
def fnExactTreeOfWrong : ChangeSpec := { name := "fnExactTreeOf", fn := fun _ => fun
  | [d] => { results := [.lit (.bool false)], args := [d] }
  | _ => none }
def FnExactTreeOfWrongFalsely : Prop := fnExactTreeOfRow.holds Try.pinned (OpenSpec.ofChange fnExactTreeOfWrong)

/-- 'laws.FnExactTreeMap': WHATEVER THE INPUT: true; the input reads as it did. -/
def fnExactTreeMapSpec : ChangeSpec := { name := "fnExactTreeMap", fn := fun _ => fun
  | [d] => { results := [.lit (.bool true)], args := [d] }
  | _ => none }
def fnExactTreeMapRow : OpenClaim := { program := "ytnoelkghmmjdaaa", sum := "e386bfcde2bec03827449394a53d4c3b5ce6fb40d267656bbc926b9bd5f48e41", func := "loop.example/g00573/laws.FnExactTreeMap", spec := "fnExactTreeMap", unfollowed := true, recurses := true, apart := false }
def FnExactTreeMapSaid : Prop := fnExactTreeMapRow.holds Try.pinned (OpenSpec.ofChange fnExactTreeMapSpec)

/-- ITS FALSE NEIGHBOUR: 'it returns false'. Refute it at one input. -/
def fnExactTreeMapWrong : ChangeSpec := { name := "fnExactTreeMap", fn := fun _ => fun
  | [d] => { results := [.lit (.bool false)], args := [d] }
  | _ => none }
def FnExactTreeMapWrongFalsely : Prop := fnExactTreeMapRow.holds Try.pinned (OpenSpec.ofChange fnExactTreeMapWrong)

/-- 'laws.FnExactTreeGet': WHATEVER THE INPUT: true; the input reads as it did. -/
def fnExactTreeGetSpec : ChangeSpec := { name := "fnExactTreeGet", fn := fun _ => fun
  | [d1, d2] => { results := [.lit (.bool true)], args := [d1, d2] }
  | _ => none }
def fnExactTreeGetRow : OpenClaim := { program := "ytnoelkghmmjdaaa", sum := "e386bfcde2bec03827449394a53d4c3b5ce6fb40d267656bbc926b9bd5f48e41", func := "loop.example/g00573/laws.FnExactTreeGet", spec := "fnExactTreeGet", unfollowed := true, recurses := true, apart := false }
def FnExactTreeGetSaid : Prop := fnExactTreeGetRow.holds Try.pinned (OpenSpec.ofChange fnExactTreeGetSpec)

/-- ITS FALSE NEIGHBOUR: 'it returns false'. Refute it at one input. -/
def fnExactTreeGetWrong : ChangeSpec := { name := "fnExactTreeGet", fn := fun _ => fun
  | [d1, d2] => { results := [.lit (.bool false)], args := [d1, d2] }
  | _ => none }
def FnExactTreeGetWrongFalsely : Prop := fnExactTreeGetRow.holds Try.pinned (OpenSpec.ofChange fnExactTreeGetWrong)

/-- 'laws.FnExactHeight': WHATEVER THE INPUT: true; the input reads as it did. -/
def fnExactHeightSpec : ChangeSpec := { name := "fnExactHeight", fn := fun _ => fun
  | [d] => { results := [.lit (.bool true)], args := [d] }
  | _ => none }
def fnExactHeightRow : OpenClaim := { program := "ytnoelkghmmjdaaa", sum := "e386bfcde2bec03827449394a53d4c3b5ce6fb40d267656bbc926b9bd5f48e41", func := "loop.example/g00573/laws.FnExactHeight", spec := "fnExactHeight", unfollowed := true, recurses := true, apart := false }
def FnExactHeightSaid : Prop := fnExactHeightRow.holds Try.pinned (OpenSpec.ofChange fnExactHeightSpec)

/-- ITS FALSE NEIGHBOUR: 'it returns false'. Refute it at one input. -/
def fnExactHeightWrong : ChangeSpec := { name := "fnExactHeight", fn := fun _ => fun
  | [d] => { results := [.lit (.bool false)], args := [d] }
  | _ => none }
def FnExactHeightWrongFalsely : Prop := fnExactHeightRow.holds Try.pinned (OpenSpec.ofChange fnExactHeightWrong)

/- THE SECOND FORM. 'bulk': how many values and letters a reading holds, each counted each time it is reached (what is shared counts as often as it is met; a slice's spare places count too). A statement '..UptoSaid' is the law's where the arguments, and the package variables that the reading takes, are together of bulk at most 1048576: NARROWER than '..Said'. Prove '..Said' where nothing that the law and all that it calls make is longer than what came in: it says more and counts as full. Else prove '..UptoSaid'. A law counts once. -/
mutual
def uptoBulk {H : Type} : DataW H → Nat
  | .lit (.string bytes) => bytes.length + 1
  | .lit _ => 1
  | .nil => 1
  | .ptr d => uptoBulk d + 1
  | .slice elems spare => uptoBulkAll elems + uptoBulkAll spare + 1
  | .agg parts => uptoBulkAll parts + 1
  | .iface _ d => uptoBulk d + 1
  | .map entries => uptoBulkEntries entries + 1
  | .held _ => 1
def uptoBulkAll {H : Type} : List (DataW H) → Nat
  | [] => 0
  | d :: r => uptoBulk d + uptoBulkAll r
def uptoBulkEntries {H : Type} : List (Lit × DataW H) → Nat
  | [] => 0
  | x :: r => uptoBulkEntry x + uptoBulkEntries r
def uptoBulkEntry {H : Type} : Lit × DataW H → Nat
  | (.string bytes, d) => bytes.length + uptoBulk d + 1
  | (_, d) => uptoBulk d + 1
 end
def uptoSmall : (H : Type) → List (DataW H) → Bool := fun _ ds => decide (uptoBulkAll ds ≤ 1048576)
def OpenSpec.upto (s : _root_.Go.ChangeSpec) : _root_.Go.OpenSpec := { _root_.Go.OpenSpec.ofChange s with cond := some uptoSmall }

/-- 'laws.FnPut', WHERE WHAT IT READS IS OF BULK AT MOST 1048576: true; the input reads as it did. -/
def fnPutUptoRow : OpenClaim := { program := "ytnoelkghmmjdaaa", sum := "e386bfcde2bec03827449394a53d4c3b5ce6fb40d267656bbc926b9bd5f48e41", func := "loop.example/g00573/laws.FnPut", spec := "fnPut", unfollowed := true, recurses := true, apart := false, narrowed := true }
def FnPutUptoSaid : Prop := fnPutUptoRow.holds Try.pinned (OpenSpec.upto fnPutSpec)

/-- 'laws.FnDrop', WHERE WHAT IT READS IS OF BULK AT MOST 1048576: true; the input reads as it did. -/
def fnDropUptoRow : OpenClaim := { program := "ytnoelkghmmjdaaa", sum := "e386bfcde2bec03827449394a53d4c3b5ce6fb40d267656bbc926b9bd5f48e41", func := "loop.example/g00573/laws.FnDrop", spec := "fnDrop", unfollowed := true, recurses := true, apart := false, narrowed := true }
def FnDropUptoSaid : Prop := fnDropUptoRow.holds Try.pinned (OpenSpec.upto fnDropSpec)

/-- 'laws.FnRange', WHERE WHAT IT READS IS OF BULK AT MOST 1048576: true; the input reads as it did. -/
def fnRangeUptoRow : OpenClaim := { program := "ytnoelkghmmjdaaa", sum := "e386bfcde2bec03827449394a53d4c3b5ce6fb40d267656bbc926b9bd5f48e41", func := "loop.example/g00573/laws.FnRange", spec := "fnRange", unfollowed := true, recurses := true, apart := false, narrowed := true }
def FnRangeUptoSaid : Prop := fnRangeUptoRow.holds Try.pinned (OpenSpec.upto fnRangeSpec)

/-- 'laws.FnOthers', WHERE WHAT IT READS IS OF BULK AT MOST 1048576: true; the input reads as it did. -/
def fnOthersUptoRow : OpenClaim := { program := "ytnoelkghmmjdaaa", sum := "e386bfcde2bec03827449394a53d4c3b5ce6fb40d267656bbc926b9bd5f48e41", func := "loop.example/g00573/laws.FnOthers", spec := "fnOthers", unfollowed := true, recurses := true, apart := false, narrowed := true }
def FnOthersUptoSaid : Prop := fnOthersUptoRow.holds Try.pinned (OpenSpec.upto fnOthersSpec)

/-- 'laws.FnOneBit', WHERE WHAT IT READS IS OF BULK AT MOST 1048576: true; the input reads as it did. -/
def fnOneBitUptoRow : OpenClaim := { program := "ytnoelkghmmjdaaa", sum := "e386bfcde2bec03827449394a53d4c3b5ce6fb40d267656bbc926b9bd5f48e41", func := "loop.example/g00573/laws.FnOneBit", spec := "fnOneBit", apart := false, narrowed := true }
def FnOneBitUptoSaid : Prop := fnOneBitUptoRow.holds Try.pinned (OpenSpec.upto fnOneBitSpec)

/-- 'laws.FnMapPieces', WHERE WHAT IT READS IS OF BULK AT MOST 1048576: true; the input reads as it did. -/
def fnMapPiecesUptoRow : OpenClaim := { program := "ytnoelkghmmjdaaa", sum := "e386bfcde2bec03827449394a53d4c3b5ce6fb40d267656bbc926b9bd5f48e41", func := "loop.example/g00573/laws.FnMapPieces", spec := "fnMapPieces", unfollowed := true, recurses := true, apart := false, narrowed := true }
def FnMapPiecesUptoSaid : Prop := fnMapPiecesUptoRow.holds Try.pinned (OpenSpec.upto fnMapPiecesSpec)

/-- 'laws.FnExactShadowNew', WHERE WHAT IT READS IS OF BULK AT MOST 1048576: true; the input reads as it did. -/
def fnExactShadowNewUptoRow : OpenClaim := { program := "ytnoelkghmmjdaaa", sum := "e386bfcde2bec03827449394a53d4c3b5ce6fb40d267656bbc926b9bd5f48e41", func := "loop.example/g00573/laws.FnExactShadowNew", spec := "fnExactShadowNew", apart := false, narrowed := true }
def FnExactShadowNewUptoSaid : Prop := fnExactShadowNewUptoRow.holds Try.pinned (OpenSpec.upto fnExactShadowNewSpec)

/-- 'laws.FnExactTreeOk', WHERE WHAT IT READS IS OF BULK AT MOST 1048576: true; the input reads as it did. -/
def fnExactTreeOkUptoRow : OpenClaim := { program := "ytnoelkghmmjdaaa", sum := "e386bfcde2bec03827449394a53d4c3b5ce6fb40d267656bbc926b9bd5f48e41", func := "loop.example/g00573/laws.FnExactTreeOk", spec := "fnExactTreeOk", unfollowed := true, recurses := true, apart := false, narrowed := true }
def FnExactTreeOkUptoSaid : Prop := fnExactTreeOkUptoRow.holds Try.pinned (OpenSpec.upto fnExactTreeOkSpec)

/-- 'laws.FnExactTreeOf', WHERE WHAT IT READS IS OF BULK AT MOST 1048576: true; the input reads as it did. -/
def fnExactTreeOfUptoRow : OpenClaim := { program := "ytnoelkghmmjdaaa", sum := "e386bfcde2bec03827449394a53d4c3b5ce6fb40d267656bbc926b9bd5f48e41", func := "loop.example/g00573/laws.FnExactTreeOf", spec := "fnExactTreeOf", unfollowed := true, recurses := true, apart := false, narrowed := true }
def FnExactTreeOfUptoSaid : Prop := fnExactTreeOfUptoRow.holds Try.pinned (OpenSpec.upto fnExactTreeOfSpec)

/-- 'laws.FnExactTreeMap', WHERE WHAT IT READS IS OF BULK AT MOST 1048576: true; the input reads as it did. -/
def fnExactTreeMapUptoRow : OpenClaim := { program := "ytnoelkghmmjdaaa", sum := "e386bfcde2bec03827449394a53d4c3b5ce6fb40d267656bbc926b9bd5f48e41", func := "loop.example/g00573/laws.FnExactTreeMap", spec := "fnExactTreeMap", unfollowed := true, recurses := true, apart := false, narrowed := true }
def FnExactTreeMapUptoSaid : Prop := fnExactTreeMapUptoRow.holds Try.pinned (OpenSpec.upto fnExactTreeMapSpec)

/-- 'laws.FnExactTreeGet', WHERE WHAT IT READS IS OF BULK AT MOST 1048576: true; the input reads as it did. -/
def fnExactTreeGetUptoRow : OpenClaim := { program := "ytnoelkghmmjdaaa", sum := "e386bfcde2bec03827449394a53d4c3b5ce6fb40d267656bbc926b9bd5f48e41", func := "loop.example/g00573/laws.FnExactTreeGet", spec := "fnExactTreeGet", unfollowed := true, recurses := true, apart := false, narrowed := true }
def FnExactTreeGetUptoSaid : Prop := fnExactTreeGetUptoRow.holds Try.pinned (OpenSpec.upto fnExactTreeGetSpec)

/-- 'laws.FnExactHeight', WHERE WHAT IT READS IS OF BULK AT MOST 1048576: true; the input reads as it did. -/
def fnExactHeightUptoRow : OpenClaim := { program := "ytnoelkghmmjdaaa", sum := "e386bfcde2bec03827449394a53d4c3b5ce6fb40d267656bbc926b9bd5f48e41", func := "loop.example/g00573/laws.FnExactHeight", spec := "fnExactHeight", unfollowed := true, recurses := true, apart := false, narrowed := true }
def FnExactHeightUptoSaid : Prop := fnExactHeightUptoRow.holds Try.pinned (OpenSpec.upto fnExactHeightSpec)

end Rows
end Go.Proofs.Ytnoelkghmmjdaaa
