/-
  DeltaOk of both.
-/
import Derived.Test.YtaiehccpefjbfaaChgPlace
import Derived.Test.YtaiehccpefjbfaaMapOkI
import Derived.Lib.QuietBelow
import Derived.BigQuiet
namespace Go.Proofs.Ytaiehccpefjbfaa
open Go.RowKit
end Go.Proofs.Ytaiehccpefjbfaa
