/-
  The model's SumOf: a contract.
-/
import Derived.Test.YtooalnpfenhelabDoorSums
namespace Go.Proofs.YtooalnpfenhelabDoor
open Go.RowKit
end Go.Proofs.YtooalnpfenhelabDoor
