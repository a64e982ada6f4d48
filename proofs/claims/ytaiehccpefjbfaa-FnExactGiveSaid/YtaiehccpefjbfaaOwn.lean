/-
  Rows of pairs that a call made.
-/
import Derived.Test.YtaiehccpefjbfaaMapOkI
namespace Go.Proofs.Ytaiehccpefjbfaa
open Go.RowKit

theorem below_grown {w w' : World} (h : Below w.heap.size w w') : w.grownBy w' none := ⟨h.os, h.tape, h.output, h.size, fun k hk _ => h.block k hk⟩

theorem pairInfo : (Try.prog.info? 172).map (fun i => (i.zero, i.size, i.bytes)) = some (some (.agg #[.string ⟨#[]⟩, .string ⟨#[]⟩]), 2, 32) := by kernel_rfl

/-- A slice of pairs of the call's own. -/
def OwnP (w : World) (B : Nat) (A : Option Addr) (c : Nat) (ps : PS) : Prop := w.ownsRow B 172 2 (.slice A ps.length c) ps.length (pcells ps)
theorem OwnP.rp {w : World} {B c : Nat} {A : Option Addr} {ps : PS} (h : OwnP w B A c ps) : RP w w.heap.size A ps := RP.of_own h
theorem OwnP.below {w w' : World} {B c : Nat} {A : Option Addr} {ps : PS} (h : OwnP w B A c ps) (hb : Below w.heap.size w w') : OwnP w' B A c ps := h.kept (below_grown hb) (by
  cases hv : Value.ownBlock (.slice A ps.length c) <;> simp)
/-- The call made these pairs, and turned nothing that was there. -/
def Made (w : World) (B : Nat) (ps : PS) (e : Ending) (w' : World) : Prop := ∃ A c, e = .returned (.slice A ps.length c) ∧ OwnP w' B A c ps ∧ Below w.heap.size w w'
end Go.Proofs.Ytaiehccpefjbfaa
