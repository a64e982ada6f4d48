/-
  Sync, the model's and the program's: contracts (tools/mkdskn.py).
-/
import Derived.Test.YtaiehccpefjbfaaDskE
namespace Go.Proofs.Ytaiehccpefjbfaa
open Go.RowKit Go.Shelf

theorem OwnK.nil_ (w : World) (B : Nat) : OwnK w B ⟨none, 0, none, 0, none, 0⟩ ⟨[], [], []⟩ := ⟨OwnPF.nil_ _ _, OwnPF.nil_ _ _, OwnD.nil_ _ _, fun _ h _ => by cases h⟩
def syncR (D : DK) : DK := if diskD D then ⟨D.live, D.live, []⟩ else ⟨[], [], []⟩
theorem diskD_len {D : DK} (h : diskD D = true) : LenK D 200 := by
  have h1 := diskB_iff.1 h
  have h2 := (fitB_iff.1 (filesB_iff.1 (diskB_live h)).1).1
  have h3 := (fitB_iff.1 (filesB_iff.1 h1.1).1).1
  exact ⟨by omega, by omega, h1.2.1⟩

theorem syncR_len (D : DK) : LenK (syncR D) 1000 := by
  unfold syncR
  split
  · rename_i h
    have := (diskD_len h).1
    exact ⟨Nat.le_trans this (by decide), Nat.le_trans this (by decide), Nat.zero_le _⟩
  · exact ⟨Nat.zero_le _, Nat.zero_le _, Nat.zero_le _⟩

/-! ### the program's -/
end Go.Proofs.Ytaiehccpefjbfaa
