/-
  Range of both: contracts.
-/
import Derived.Test.YtaiehccpefjbfaaPutDrop
import Derived.Lib.SliceRun
namespace Go.Proofs.Ytaiehccpefjbfaa
open Go.RowKit

theorem Made.of {w w' : World} {L L' : PS} {A : Option Addr} {c : Nat} (hL : L = L') (ho : OwnP w' w.heap.size A c L') (h : Below w.heap.size w w') : Made w w.heap.size L (.returned (.slice A L'.length c)) w' := by
  subst hL
  exact ⟨A, c, rfl, ho, h⟩

theorem Made.of_n {w w' : World} {L L' : PS} {A : Option Addr} {n c : Nat} (hL : L = L') (hn : n = L'.length) (ho : OwnP w' w.heap.size A c L') (h : Below w.heap.size w w') : Made w w.heap.size L (.returned (.slice A n c)) w' := by
  subst hn
  exact Made.of hL ho h

end Go.Proofs.Ytaiehccpefjbfaa
