/-
  What the exact laws of functions that make pairs go through.
-/
import Derived.Test.YtaiehccpefjbfaaMarks
import Derived.Test.YtaiehccpefjbfaaOpen
import Derived.Test.YtaiehccpefjbfaaAppend
namespace Go.Proofs.Ytaiehccpefjbfaa
open Go.RowKit

theorem RP.grown_hi {w w' : World} {B : Nat} {A : Option Addr} {ps : PS} {row : Option Nat} (h : RP w B A ps) (hg : w.grownBy w' row) (hB : B ≤ w.heap.size) (hr : ∀ k, row = some k → B ≤ k) : RP w' B A ps :=
  h.keep fun p hp => World.cell?_of_block (hg.block p.block (by omega) (fun e => by have := hr _ e.symm; omega))
theorem OwnP.grown_lo {w w' : World} {B c : Nat} {A : Option Addr} {ps : PS} {row : Option Nat} (h : OwnP w B A c ps) (hg : w.grownBy w' row) (hr : ∀ k, row = some k → k < B) : OwnP w' B A c ps := by
  refine World.ownsRow.kept h hg ?_
  cases hv : Value.ownBlock (.slice A ps.length c) with
  | none => exact .inl rfl
  | some k =>
    right
    intro e
    have h1 := (h.size k hv).1
    have h2 := hr k e.symm
    omega
theorem OwnP.keepG {w w' : World} {B c : Nat} {A : Option Addr} {ps : PS} {row : Option Nat} (h : OwnP w B A c ps) (hg : w.grownBy w' row) (hne : ∀ k, Value.ownBlock (.slice A ps.length c) = some k → some k ≠ row) : OwnP w' B A c ps := by
  refine World.ownsRow.kept h hg ?_
  cases hv : Value.ownBlock (.slice A ps.length c) with
  | none => exact .inl rfl
  | some k => exact .inr (hne k hv)
end Go.Proofs.Ytaiehccpefjbfaa
