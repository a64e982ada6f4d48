/-
  The program's MapOk: keys that rise, asked through an interface of the project's own.
-/
import Derived.Test.YtooalnpfenhelaaMapOk
namespace Go.Proofs.Ytooalnpfenhelaa
open Go.RowKit

def slash (a b : String) : String := a ++ (String.singleton (Char.ofNat 47) ++ b)
theorem slash_def (a b : String) : slash a b = a ++ (String.singleton (Char.ofNat 47) ++ b) := rfl
theorem below2 {B : Nat} {w wr : World} {o o' : Obj} {n : Nat} (h : Below B w wr) (hB : B ≤ wr.heap.size) : Below B w (((wr.alloc o).alloc o').drewN n) := by
  have h2 := (h.alloc hB o).alloc (by simp; omega) o'
  exact ⟨h2.os, h2.tape, h2.output, h2.size, h2.block⟩

theorem risesB_ended {ps : PS} {k : Nat} (h : risesTo ps k) (hk : ps.length ≤ k) : risesB ps = true :=
  (rises_iff ps).2 fun i hi => h i hi (by omega)

end Go.Proofs.Ytooalnpfenhelaa
