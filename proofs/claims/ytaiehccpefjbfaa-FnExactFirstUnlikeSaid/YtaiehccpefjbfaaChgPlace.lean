/-
  Changes by rising keys, in the program: whether they rise, the place of a key.
-/
import Derived.Test.YtaiehccpefjbfaaPlace
import Derived.Test.YtaiehccpefjbfaaDeltaF
namespace Go.Proofs.Ytaiehccpefjbfaa
open Go.RowKit

theorem method_sortKeyC (f : Nat) (k v : ByteArray) (g : Bool) (w : World) : (method (f + 1) 129 (.agg #[.string k, .string v, .bool g]) (slash "loop.example" (slash "g00573" "impl.sortKey"))).run Try.prog w = .ok (189, .agg #[.string k, .string v, .bool g]) w := by
  kernel_rfl

theorem sortKeyC_any (k v : ByteArray) (g : Bool) (w : World) :
    Calls Try.prog 189 #[.agg #[.string k, .string v, .bool g]] w fun e w' => e = .returned (.string k) ∧ w' = w.alloc (.cells #[.string k, .string v, .bool g] 129) := by
  go_enter Try.func189, Try.ntmps189
  go_wp2
  go_ret
  exact ⟨rfl, rfl⟩

end Go.Proofs.Ytaiehccpefjbfaa
