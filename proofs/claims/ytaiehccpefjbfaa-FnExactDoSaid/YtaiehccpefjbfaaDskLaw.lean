/-
  Small facts for the laws of disks (tools/mkdk.py).
-/
import Derived.Test.YtaiehccpefjbfaaDskKit
namespace Go.Proofs.Ytaiehccpefjbfaa
open Go.RowKit
theorem SmallK.more {D : DK} {B B' : Nat} (h : SmallK D B) (hb : B ≤ B') : SmallK D B' :=
  ⟨h.1.more hb, h.2.1.more hb, fun x hx => ⟨Nat.le_trans (h.2.2 x hx).1 hb, Nat.le_trans (h.2.2 x hx).2.1 hb, Nat.le_trans (h.2.2 x hx).2.2 hb⟩⟩
theorem LenK.lim {D : DK} (h : LenK D 2000000) : LenK D 2000000 := h
end Go.Proofs.Ytaiehccpefjbfaa
