/-
  Put, Drop, Range of both: contracts.
-/
import Derived.Test.YtaiehccpefjbfaaWithout
namespace Go.Proofs.Ytaiehccpefjbfaa
open Go.RowKit
theorem Made2.yes {w w' : World} {L L' : PS} {b : Bool} {A : Option Addr} {c : Nat} (hL : L = L') (hb : b = true) (ho : OwnP w' w.heap.size A c L') (h : Below w.heap.size w w') : Made2 w L b (.returned (.tuple #[.slice A L'.length c, .bool true])) w' := by
  subst hL hb
  exact ⟨A, c, rfl, ho, h⟩
theorem Fits.put {ps : PS} (h : Fits ps) {k v : ByteArray} (hk : k.size ≤ maxLen) (hv : v.size ≤ maxLen) : Fits (putL ps k v) := by
  intro p hp
  rcases putL_mem hp with h' | rfl
  · exact h p h'
  · exact ⟨hk, hv⟩
theorem putB_yes {ps : PS} {k v : ByteArray} (h1 : mapB ps = true) (h2 : keyB k = true) (h3 : keyB v = true) (h4 : (putL ps k v).length ≤ 60) : putB ps k v = true := by simp [putB, h1, h2, h3, h4]
theorem putR_yes {ps : PS} {k v : ByteArray} (h : putB ps k v = true) : putR ps k v = putL ps k v := by simp [putR, h]
theorem putR_no {ps : PS} {k v : ByteArray} (h : putB ps k v = false) : putR ps k v = [] := by simp [putR, h]

end Go.Proofs.Ytaiehccpefjbfaa
