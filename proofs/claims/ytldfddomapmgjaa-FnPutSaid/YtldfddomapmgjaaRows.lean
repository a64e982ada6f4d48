/-
  No cell of these rows narrows 'for every input' (looked for: loops, veiled, ifaces, maps, wideKeys, modest, calm, conditions, laid).
  DERIVED. THE GIVEN ROWS OF THIS SEAT. 10 by the template 'for every input the law returns true; each argument reads behind the call as it read before'; 0 by the template 'total and deterministic' (their statements: YtldfddomapmgjaaTotals.lean).
  GIVEN WITH THE SEED: the statements are not yours to turn. If you find one false, say at which input.
  Laid BY PROGRAM, IN A SANDBOX (cutbox-rows.mjs): the forced cells as the released guide's own fill.sh prints them over the translation b0202dbae8c19bc7… (all of the seat's roots in one cut). By AI agents, Wed Nov 11 2026. No macro, syntax, notation, axiom, sorry.
-/
import Derived.Test.YtldfddomapmgjaaChecked
import GoSem.Claim
import GoSem.ClaimJoined
import GoSem.ClaimMapViews
import Derived.JoinedTies
import Derived.KernelRfl
namespace Go.Proofs.Ytldfddomapmgjaa
/- THE CELL 'sum', in the pinned program and in every row, IS THE sha256 OF THE DUMP (.gsa) THAT YtldfddomapmgjaaProg.lean LOADS. Nothing in Lean hashes anything: it is a label: what it is worth is what the hold of that sum in a sandbox is worth. -/
noncomputable def Try.pinned : Pinned := { name := "ytldfddomapmgjaa", sum := "b0202dbae8c19bc71b254fa9f5b53ff7fe9a4633303a5d1d83a4afca3502ba60", checked := Try.checked }
namespace Rows
def none {H : Type} : Left H := { results := [], args := [] }

/-- 'laws.FnPut': WHATEVER THE INPUT: true; the input reads as it did. -/
def fnPutSpec : ChangeSpec := { name := "fnPut", fn := fun _ => fun
  | [d] => { results := [.lit (.bool true)], args := [d] }
  | _ => none }
def fnPutRow : OpenClaim := { program := "ytldfddomapmgjaa", sum := "b0202dbae8c19bc71b254fa9f5b53ff7fe9a4633303a5d1d83a4afca3502ba60", func := "loop.example/g00573/laws.FnPut", spec := "fnPut", unfollowed := true, recurses := true, apart := false }
def FnPutSaid : Prop := fnPutRow.holds Try.pinned (OpenSpec.ofChange fnPutSpec)

/-- ITS FALSE NEIGHBOUR: 'it returns false'. Refute it at one input. -/
def fnPutWrong : ChangeSpec := { name := "fnPut", fn := fun _ => fun
  | [d] => { results := [.lit (.bool false)], args := [d] }
  | _ => none }
def FnPutWrongFalsely : Prop := fnPutRow.holds Try.pinned (OpenSpec.ofChange fnPutWrong)

/-- 'laws.FnDrop': WHATEVER THE INPUT: true; the input reads as it did. -/
def fnDropSpec : ChangeSpec := { name := "fnDrop", fn := fun _ => fun
  | [d] => { results := [.lit (.bool true)], args := [d] }
  | _ => none }
def fnDropRow : OpenClaim := { program := "ytldfddomapmgjaa", sum := "b0202dbae8c19bc71b254fa9f5b53ff7fe9a4633303a5d1d83a4afca3502ba60", func := "loop.example/g00573/laws.FnDrop", spec := "fnDrop", unfollowed := true, recurses := true, apart := false }
def FnDropSaid : Prop := fnDropRow.holds Try.pinned (OpenSpec.ofChange fnDropSpec)

/-- ITS FALSE NEIGHBOUR: 'it returns false'. Refute it at one input. -/
def fnDropWrong : ChangeSpec := { name := "fnDrop", fn := fun _ => fun
  | [d] => { results := [.lit (.bool false)], args := [d] }
  | _ => none }
def FnDropWrongFalsely : Prop := fnDropRow.holds Try.pinned (OpenSpec.ofChange fnDropWrong)

/-- 'laws.FnRange': WHATEVER THE INPUT: true; the input reads as it did. -/
def fnRangeSpec : ChangeSpec := { name := "fnRange", fn := fun _ => fun
  | [d] => { results := [.lit (.bool true)], args := [d] }
  | _ => none }
def fnRangeRow : OpenClaim := { program := "ytldfddomapmgjaa", sum := "b0202dbae8c19bc71b254fa9f5b53ff7fe9a4633303a5d1d83a4afca3502ba60", func := "loop.example/g00573/laws.FnRange", spec := "fnRange", unfollowed := true, recurses := true, apart := false }
def FnRangeSaid : Prop := fnRangeRow.holds Try.pinned (OpenSpec.ofChange fnRangeSpec)

/-- ITS FALSE NEIGHBOUR: 'it returns false'. Refute it at one input. -/
def fnRangeWrong : ChangeSpec := { name := "fnRange", fn := fun _ => fun
  | [d] => { results := [.lit (.bool false)], args := [d] }
  | _ => none }
def FnRangeWrongFalsely : Prop := fnRangeRow.holds Try.pinned (OpenSpec.ofChange fnRangeWrong)

/-- 'laws.FnMapPieces': WHATEVER THE INPUT: true; the input reads as it did. -/
def fnMapPiecesSpec : ChangeSpec := { name := "fnMapPieces", fn := fun _ => fun
  | [d] => { results := [.lit (.bool true)], args := [d] }
  | _ => none }
def fnMapPiecesRow : OpenClaim := { program := "ytldfddomapmgjaa", sum := "b0202dbae8c19bc71b254fa9f5b53ff7fe9a4633303a5d1d83a4afca3502ba60", func := "loop.example/g00573/laws.FnMapPieces", spec := "fnMapPieces", unfollowed := true, recurses := true, apart := false }
def FnMapPiecesSaid : Prop := fnMapPiecesRow.holds Try.pinned (OpenSpec.ofChange fnMapPiecesSpec)

/-- ITS FALSE NEIGHBOUR: 'it returns false'. Refute it at one input. -/
def fnMapPiecesWrong : ChangeSpec := { name := "fnMapPieces", fn := fun _ => fun
  | [d] => { results := [.lit (.bool false)], args := [d] }
  | _ => none }
def FnMapPiecesWrongFalsely : Prop := fnMapPiecesRow.holds Try.pinned (OpenSpec.ofChange fnMapPiecesWrong)

/-- 'laws.FnOthers': WHATEVER THE INPUT: true; the input reads as it did. -/
def fnOthersSpec : ChangeSpec := { name := "fnOthers", fn := fun _ => fun
  | [d] => { results := [.lit (.bool true)], args := [d] }
  | _ => none }
def fnOthersRow : OpenClaim := { program := "ytldfddomapmgjaa", sum := "b0202dbae8c19bc71b254fa9f5b53ff7fe9a4633303a5d1d83a4afca3502ba60", func := "loop.example/g00573/laws.FnOthers", spec := "fnOthers", unfollowed := true, recurses := true, apart := false }
def FnOthersSaid : Prop := fnOthersRow.holds Try.pinned (OpenSpec.ofChange fnOthersSpec)

/-- ITS FALSE NEIGHBOUR: 'it returns false'. Refute it at one input. -/
def fnOthersWrong : ChangeSpec := { name := "fnOthers", fn := fun _ => fun
  | [d] => { results := [.lit (.bool false)], args := [d] }
  | _ => none }
def FnOthersWrongFalsely : Prop := fnOthersRow.holds Try.pinned (OpenSpec.ofChange fnOthersWrong)

/-- 'laws.FnTreeOf': WHATEVER THE INPUT: true; the input reads as it did. -/
def fnTreeOfSpec : ChangeSpec := { name := "fnTreeOf", fn := fun _ => fun
  | [d] => { results := [.lit (.bool true)], args := [d] }
  | _ => none }
def fnTreeOfRow : OpenClaim := { program := "ytldfddomapmgjaa", sum := "b0202dbae8c19bc71b254fa9f5b53ff7fe9a4633303a5d1d83a4afca3502ba60", func := "loop.example/g00573/laws.FnTreeOf", spec := "fnTreeOf", unfollowed := true, recurses := true, apart := false }
def FnTreeOfSaid : Prop := fnTreeOfRow.holds Try.pinned (OpenSpec.ofChange fnTreeOfSpec)

/-- ITS FALSE NEIGHBOUR: 'it returns false'. Refute it at one input. -/
def fnTreeOfWrong : ChangeSpec := { name := "fnTreeOf", fn := fun _ => fun
  | [d] => { results := [.lit (.bool false)], args := [d] }
  | _ => none }
def FnTreeOfWrongFalsely : Prop := fnTreeOfRow.holds Try.pinned (OpenSpec.ofChange fnTreeOfWrong)

/-- 'laws.FnTreePut': WHATEVER THE INPUT: true; the input reads as it did. -/
def fnTreePutSpec : ChangeSpec := { name := "fnTreePut", fn := fun _ => fun
  | [d] => { results := [.lit (.bool true)], args := [d] }
  | _ => none }
def fnTreePutRow : OpenClaim := { program := "ytldfddomapmgjaa", sum := "b0202dbae8c19bc71b254fa9f5b53ff7fe9a4633303a5d1d83a4afca3502ba60", func := "loop.example/g00573/laws.FnTreePut", spec := "fnTreePut", inPlace := ["slices.overlaps[*loop.example/g00573/impl.branch]"], unfollowed := true, recurses := true, apart := false }
def FnTreePutSaid : Prop := fnTreePutRow.holds Try.pinned (OpenSpec.ofChange fnTreePutSpec)

/-- ITS FALSE NEIGHBOUR: 'it returns false'. Refute it at one input. -/
def fnTreePutWrong : ChangeSpec := { name := "fnTreePut", fn := fun _ => fun
  | [d] => { results := [.lit (.bool false)], args := [d] }
  | _ => none }
def FnTreePutWrongFalsely : Prop := fnTreePutRow.holds Try.pinned (OpenSpec.ofChange fnTreePutWrong)

/-- 'laws.FnTreeDrop': WHATEVER THE INPUT: true; the input reads as it did. -/
def fnTreeDropSpec : ChangeSpec := { name := "fnTreeDrop", fn := fun _ => fun
  | [d] => { results := [.lit (.bool true)], args := [d] }
  | _ => none }
def fnTreeDropRow : OpenClaim := { program := "ytldfddomapmgjaa", sum := "b0202dbae8c19bc71b254fa9f5b53ff7fe9a4633303a5d1d83a4afca3502ba60", func := "loop.example/g00573/laws.FnTreeDrop", spec := "fnTreeDrop", unfollowed := true, recurses := true, apart := false }
def FnTreeDropSaid : Prop := fnTreeDropRow.holds Try.pinned (OpenSpec.ofChange fnTreeDropSpec)

/-- ITS FALSE NEIGHBOUR: 'it returns false'. Refute it at one input. -/
def fnTreeDropWrong : ChangeSpec := { name := "fnTreeDrop", fn := fun _ => fun
  | [d] => { results := [.lit (.bool false)], args := [d] }
  | _ => none }
def FnTreeDropWrongFalsely : Prop := fnTreeDropRow.holds Try.pinned (OpenSpec.ofChange fnTreeDropWrong)

/-- 'laws.FnTreeGet': WHATEVER THE INPUT: true; the input reads as it did. -/
def fnTreeGetSpec : ChangeSpec := { name := "fnTreeGet", fn := fun _ => fun
  | [d] => { results := [.lit (.bool true)], args := [d] }
  | _ => none }
def fnTreeGetRow : OpenClaim := { program := "ytldfddomapmgjaa", sum := "b0202dbae8c19bc71b254fa9f5b53ff7fe9a4633303a5d1d83a4afca3502ba60", func := "loop.example/g00573/laws.FnTreeGet", spec := "fnTreeGet", unfollowed := true, recurses := true, apart := false }
def FnTreeGetSaid : Prop := fnTreeGetRow.holds Try.pinned (OpenSpec.ofChange fnTreeGetSpec)

/-- ITS FALSE NEIGHBOUR: 'it returns false'. Refute it at one input. -/
def fnTreeGetWrong : ChangeSpec := { name := "fnTreeGet", fn := fun _ => fun
  | [d] => { results := [.lit (.bool false)], args := [d] }
  | _ => none }
def FnTreeGetWrongFalsely : Prop := fnTreeGetRow.holds Try.pinned (OpenSpec.ofChange fnTreeGetWrong)

/-- 'laws.FnHeight': WHATEVER THE INPUT: true; the input reads as it did. -/
def fnHeightSpec : ChangeSpec := { name := "fnHeight", fn := fun _ => fun
  | [d] => { results := [.lit (.bool true)], args := [d] }
  | _ => none }
def fnHeightRow : OpenClaim := { program := "ytldfddomapmgjaa", sum := "b0202dbae8c19bc71b254fa9f5b53ff7fe9a4633303a5d1d83a4afca3502ba60", func := "loop.example/g00573/laws.FnHeight", spec := "fnHeight", unfollowed := true, recurses := true, apart := false }
def FnHeightSaid : Prop := fnHeightRow.holds Try.pinned (OpenSpec.ofChange fnHeightSpec)

/-- ITS FALSE NEIGHBOUR: 'it returns false'. Refute it at one input. -/
def fnHeightWrong : ChangeSpec := { name := "fnHeight", fn := fun _ => fun
  | [d] => { results := [.lit (.bool false)], args := [d] }
  | _ => none }
def FnHeightWrongFalsely : Prop := fnHeightRow.holds Try.pinned (OpenSpec.ofChange fnHeightWrong)

/- THE SECOND FORM. 'bulk': how many values and letters a reading holds, each counted each time it is reached (what is shared counts as often as it is met; a slice's spare places count too). A statement '..UptoSaid' is the law's where the arguments, and the package variables that the reading takes, are together of bulk at most 1048576: NARROWER than '..Said'. Prove '..Said' where nothing that the law and all that it calls make is longer than what came in: it says more and counts as full. Else prove '..UptoSaid'. A law counts once. -/
mutual
def uptoBulk {H : Type} : DataW H → Nat
  | .lit (.string bytes) => bytes.length + 1
  | .lit _ => 1
  | .nil => 1
  | .ptr d => uptoBulk d + 1
  | .slice elems spare => uptoBulkAll elems + uptoBulkAll spare + 1
  | .agg parts => uptoBulkAll parts + 1
  | .iface _ d => uptoBulk d + 1
  | .map entries => uptoBulkEntries entries + 1
  | .held _ => 1
def uptoBulkAll {H : Type} : List (DataW H) → Nat
  | [] => 0
  | d :: r => uptoBulk d + uptoBulkAll r
def uptoBulkEntries {H : Type} : List (Lit × DataW H) → Nat
  | [] => 0
  | x :: r => uptoBulkEntry x + uptoBulkEntries r
def uptoBulkEntry {H : Type} : Lit × DataW H → Nat
  | (.string bytes, d) => bytes.length + uptoBulk d + 1
  | (_, d) => uptoBulk d + 1
 end
def uptoSmall : (H : Type) → List (DataW H) → Bool := fun _ ds => decide (uptoBulkAll ds ≤ 1048576)
def OpenSpec.upto (s : _root_.Go.ChangeSpec) : _root_.Go.OpenSpec := { _root_.Go.OpenSpec.ofChange s with cond := some uptoSmall }

/-- 'laws.FnPut', WHERE WHAT IT READS IS OF BULK AT MOST 1048576: true; the input reads as it did. -/
def fnPutUptoRow : OpenClaim := { program := "ytldfddomapmgjaa", sum := "b0202dbae8c19bc71b254fa9f5b53ff7fe9a4633303a5d1d83a4afca3502ba60", func := "loop.example/g00573/laws.FnPut", spec := "fnPut", unfollowed := true, recurses := true, apart := false, narrowed := true }
def FnPutUptoSaid : Prop := fnPutUptoRow.holds Try.pinned (OpenSpec.upto fnPutSpec)

/-- 'laws.FnDrop', WHERE WHAT IT READS IS OF BULK AT MOST 1048576: true; the input reads as it did. -/
def fnDropUptoRow : OpenClaim := { program := "ytldfddomapmgjaa", sum := "b0202dbae8c19bc71b254fa9f5b53ff7fe9a4633303a5d1d83a4afca3502ba60", func := "loop.example/g00573/laws.FnDrop", spec := "fnDrop", unfollowed := true, recurses := true, apart := false, narrowed := true }
def FnDropUptoSaid : Prop := fnDropUptoRow.holds Try.pinned (OpenSpec.upto fnDropSpec)

/-- 'laws.FnRange', WHERE WHAT IT READS IS OF BULK AT MOST 1048576: true; the input reads as it did. -/
def fnRangeUptoRow : OpenClaim := { program := "ytldfddomapmgjaa", sum := "b0202dbae8c19bc71b254fa9f5b53ff7fe9a4633303a5d1d83a4afca3502ba60", func := "loop.example/g00573/laws.FnRange", spec := "fnRange", unfollowed := true, recurses := true, apart := false, narrowed := true }
def FnRangeUptoSaid : Prop := fnRangeUptoRow.holds Try.pinned (OpenSpec.upto fnRangeSpec)

/-- 'laws.FnMapPieces', WHERE WHAT IT READS IS OF BULK AT MOST 1048576: true; the input reads as it did. -/
def fnMapPiecesUptoRow : OpenClaim := { program := "ytldfddomapmgjaa", sum := "b0202dbae8c19bc71b254fa9f5b53ff7fe9a4633303a5d1d83a4afca3502ba60", func := "loop.example/g00573/laws.FnMapPieces", spec := "fnMapPieces", unfollowed := true, recurses := true, apart := false, narrowed := true }
def FnMapPiecesUptoSaid : Prop := fnMapPiecesUptoRow.holds Try.pinned (OpenSpec.upto fnMapPiecesSpec)

/-- 'laws.FnOthers', WHERE WHAT IT READS IS OF BULK AT MOST 1048576: true; the input reads as it did. -/
def fnOthersUptoRow : OpenClaim := { program := "ytldfddomapmgjaa", sum := "b0202dbae8c19bc71b254fa9f5b53ff7fe9a4633303a5d1d83a4afca3502ba60", func := "loop.example/g00573/laws.FnOthers", spec := "fnOthers", unfollowed := true, recurses := true, apart := false, narrowed := true }
def FnOthersUptoSaid : Prop := fnOthersUptoRow.holds Try.pinned (OpenSpec.upto fnOthersSpec)

/-- 'laws.FnTreeOf', WHERE WHAT IT READS IS OF BULK AT MOST 1048576: true; the input reads as it did. -/
def fnTreeOfUptoRow : OpenClaim := { program := "ytldfddomapmgjaa", sum := "b0202dbae8c19bc71b254fa9f5b53ff7fe9a4633303a5d1d83a4afca3502ba60", func := "loop.example/g00573/laws.FnTreeOf", spec := "fnTreeOf", unfollowed := true, recurses := true, apart := false, narrowed := true }
def FnTreeOfUptoSaid : Prop := fnTreeOfUptoRow.holds Try.pinned (OpenSpec.upto fnTreeOfSpec)

/-- 'laws.FnTreePut', WHERE WHAT IT READS IS OF BULK AT MOST 1048576: true; the input reads as it did. -/
def fnTreePutUptoRow : OpenClaim := { program := "ytldfddomapmgjaa", sum := "b0202dbae8c19bc71b254fa9f5b53ff7fe9a4633303a5d1d83a4afca3502ba60", func := "loop.example/g00573/laws.FnTreePut", spec := "fnTreePut", inPlace := ["slices.overlaps[*loop.example/g00573/impl.branch]"], unfollowed := true, recurses := true, apart := false, narrowed := true }
def FnTreePutUptoSaid : Prop := fnTreePutUptoRow.holds Try.pinned (OpenSpec.upto fnTreePutSpec)

/-- 'laws.FnTreeDrop', WHERE WHAT IT READS IS OF BULK AT MOST 1048576: true; the input reads as it did. -/
def fnTreeDropUptoRow : OpenClaim := { program := "ytldfddomapmgjaa", sum := "b0202dbae8c19bc71b254fa9f5b53ff7fe9a4633303a5d1d83a4afca3502ba60", func := "loop.example/g00573/laws.FnTreeDrop", spec := "fnTreeDrop", unfollowed := true, recurses := true, apart := false, narrowed := true }
def FnTreeDropUptoSaid : Prop := fnTreeDropUptoRow.holds Try.pinned (OpenSpec.upto fnTreeDropSpec)

/-- 'laws.FnTreeGet', WHERE WHAT IT READS IS OF BULK AT MOST 1048576: true; the input reads as it did. -/
def fnTreeGetUptoRow : OpenClaim := { program := "ytldfddomapmgjaa", sum := "b0202dbae8c19bc71b254fa9f5b53ff7fe9a4633303a5d1d83a4afca3502ba60", func := "loop.example/g00573/laws.FnTreeGet", spec := "fnTreeGet", unfollowed := true, recurses := true, apart := false, narrowed := true }
def FnTreeGetUptoSaid : Prop := fnTreeGetUptoRow.holds Try.pinned (OpenSpec.upto fnTreeGetSpec)

/-- 'laws.FnHeight', WHERE WHAT IT READS IS OF BULK AT MOST 1048576: true; the input reads as it did. -/
def fnHeightUptoRow : OpenClaim := { program := "ytldfddomapmgjaa", sum := "b0202dbae8c19bc71b254fa9f5b53ff7fe9a4633303a5d1d83a4afca3502ba60", func := "loop.example/g00573/laws.FnHeight", spec := "fnHeight", unfollowed := true, recurses := true, apart := false, narrowed := true }
def FnHeightUptoSaid : Prop := fnHeightUptoRow.holds Try.pinned (OpenSpec.upto fnHeightSpec)

end Rows
end Go.Proofs.Ytldfddomapmgjaa
