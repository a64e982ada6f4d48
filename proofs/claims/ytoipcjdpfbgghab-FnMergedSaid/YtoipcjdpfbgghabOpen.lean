/-
  A slice of pairs that came in, opened.
-/
import Derived.Test.YtoipcjdpfbgghabToPair
import Derived.Test.YtoipcjdpfbgghabPost
import Derived.Deep.Slices
import Derived.Deep.Fields
import Derived.ChangeSame
namespace Go.Proofs.Ytoipcjdpfbgghab
open Go.ChangeShapes Go.WideShapes Go.ChangeAt Go.RowKit Go.Deep
theorem stringCells : Try.prog.cellsOf 9 = 1 := by kernel_rfl

end Go.Proofs.Ytoipcjdpfbgghab
