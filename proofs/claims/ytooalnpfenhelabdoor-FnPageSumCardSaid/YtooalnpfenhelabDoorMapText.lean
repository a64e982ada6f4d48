/-
  MapText of both: contracts.
-/
import Derived.Test.YtooalnpfenhelabDoorMapOkI
import Derived.Test.YtooalnpfenhelabDoorText
import Derived.Test.YtooalnpfenhelabDoorToPair
namespace Go.Proofs.YtooalnpfenhelabDoor
open Go.RowKit

theorem ret_str {a b : ByteArray} (h : a = b) : Ending.returned (.string a) = .returned (.string b) := by rw [h]

end Go.Proofs.YtooalnpfenhelabDoor
