/-
  The model's Put: contracts.
-/
import Derived.Test.YtaiehccpefjbfaaSpecLists
namespace Go.Proofs.Ytaiehccpefjbfaa
open Go.RowKit
end Go.Proofs.Ytaiehccpefjbfaa
