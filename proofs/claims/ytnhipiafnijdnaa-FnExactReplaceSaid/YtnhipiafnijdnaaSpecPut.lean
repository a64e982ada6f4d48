/-
  The model's Put: contracts.
-/
import Derived.Test.YtnhipiafnijdnaaSpecLists
namespace Go.Proofs.Ytnhipiafnijdnaa
open Go.RowKit
end Go.Proofs.Ytnhipiafnijdnaa
