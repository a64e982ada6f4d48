/-
  ReadFile, the model's and the program's: contracts (tools/mkdsks4.py).
-/
import Derived.Test.YtaiehccpefjbfaaDskI3
namespace Go.Proofs.Ytaiehccpefjbfaa
open Go.RowKit

def readV (D : DK) (x : ByteArray) : ByteArray := if diskD D then valOf D.live x else ⟨#[]⟩
def readB (D : DK) (x : ByteArray) : Bool := diskD D && hasK D.live x

end Go.Proofs.Ytaiehccpefjbfaa
