/-
  Rows of pairs that a call made.
-/
import Derived.Test.YtooalnpfenhelaaMapOkI
namespace Go.Proofs.Ytooalnpfenhelaa
open Go.RowKit

theorem below_grown {w w' : World} (h : Below w.heap.size w w') : w.grownBy w' none := ⟨h.os, h.tape, h.output, h.size, fun k hk _ => h.block k hk⟩

end Go.Proofs.Ytooalnpfenhelaa
