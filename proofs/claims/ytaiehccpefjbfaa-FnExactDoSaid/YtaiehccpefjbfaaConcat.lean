/-
  slices.Grow at nil, slices.Concat, slices.Clone at pairs: contracts.
-/
import Derived.Test.YtaiehccpefjbfaaAppend
import Derived.Lib.AppendZerosOnto
import Derived.Lib.AppendZeros
import Derived.Lib.SliceRun
namespace Go.Proofs.Ytaiehccpefjbfaa
open Go.RowKit

theorem size_zeros (z : Array Value) (n : Nat) : (Builtin.zeroCells z n).size = n * z.size := by simp [Builtin.zeroCells]

/-- The slices of a list of slices. -/
structure SE where
  A : Option Addr
  c : Nat
  ps : PS
def RS (w : World) (B : Nat) (A : Option Addr) (L : List SE) : Prop :=
  L = [] ∨ ∃ b off, A = some ⟨b, off, none⟩ ∧ b < B ∧ ∀ (i : Nat) (s : SE), L[i]? = some s → w.cell? ⟨b, off + i, none⟩ = some (.slice s.A s.ps.length s.c) ∧ RP w B s.A s.ps
theorem RS.below {w w' : World} {B : Nat} {A : Option Addr} {L : List SE} (h : RS w B A L) (hb : Below B w w') : RS w' B A L := by
  rcases h with rfl | ⟨b, off, e, hbk, hc⟩
  · exact .inl rfl
  · exact .inr ⟨b, off, e, hbk, fun i s hs => ⟨(hb.cell hbk).trans (hc i s hs).1, (hc i s hs).2.below hb⟩⟩
def totL (L : List SE) : Nat := (L.flatMap SE.ps).length
theorem tot_take {L : List SE} {k : Nat} (h : k < L.length) : ((L.take (k + 1)).flatMap SE.ps) = (L.take k).flatMap SE.ps ++ L[k].ps := by
  rw [List.take_succ_eq_append_getElem h, List.flatMap_append]
  simp
theorem tot_le (L : List SE) (k : Nat) : ((L.take k).flatMap SE.ps).length ≤ totL L := by
  unfold totL
  conv => rhs; rw [← List.take_append_drop k L, List.flatMap_append, List.length_append]
  omega

end Go.Proofs.Ytaiehccpefjbfaa
