/-
  A slice of pairs that came in, opened.
-/
import Derived.Test.YtooalnpfenhelaaToPair
import Derived.Test.YtooalnpfenhelaaPost
import Derived.Deep.Slices
import Derived.Deep.Fields
import Derived.ChangeSame
namespace Go.Proofs.Ytooalnpfenhelaa
open Go.ChangeShapes Go.WideShapes Go.ChangeAt Go.RowKit Go.Deep
theorem stringCells : Try.prog.cellsOf 9 = 1 := by kernel_rfl

end Go.Proofs.Ytooalnpfenhelaa
