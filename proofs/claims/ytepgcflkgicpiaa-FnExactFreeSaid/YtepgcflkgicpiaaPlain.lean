/-
  Plain definitions and facts on bytes and keys. Imports nothing of the dump.
-/
import Derived.Below
namespace Go.Proofs.Ytepgcflkgicpiaa
open Go.RowKit

theorem hid {p : Prop} (h : p) : Hid p := h

/-- A byte that a key may hold. -/
def okByte (c : UInt8) : Bool := decide (33 ≤ c.toNat ∧ c.toNat ≤ 126 ∧ c.toNat ≠ 61)
/-- A right key. -/
def keyB (s : ByteArray) : Bool := decide (1 ≤ s.size ∧ s.size ≤ 6) && s.data.toList.all okByte

def okTo (s : ByteArray) (k : Nat) : Prop := ∀ (i : Nat) (h : i < s.size), i < k → okByte s[i] = true

theorem okTo_zero (s : ByteArray) : okTo s 0 := fun i _ h => absurd h (by omega)
theorem okTo_succ {s : ByteArray} {k : Nat} (h : okTo s k) (hk : k < s.size) (hc : ¬ ((s[k].toNat : Int) < 33 ∨ 126 < (s[k].toNat : Int) ∨ (s[k].toNat : Int) = 61)) : okTo s (k + 1) := by
  intro i hi hlt
  by_cases e : i = k
  · subst e
    simp only [okByte, decide_eq_true_eq]
    omega
  · exact h i hi (by omega)
theorem all_bytes (s : ByteArray) (p : UInt8 → Bool) : s.data.toList.all p = true ↔ ∀ (i : Nat) (h : i < s.size), p s[i] = true := by
  rw [List.all_eq_true]
  constructor
  · intro h i hi
    exact h _ (Array.getElem_mem_toList (xs := s.data) hi)
  · intro h x hx
    obtain ⟨i, hi, rfl⟩ := List.getElem_of_mem hx
    exact h i (by simpa using hi)
theorem keyB_bad {s : ByteArray} {k : Nat} (hk : k < s.size) (hc : ((s[k].toNat : Int) < 33 ∨ 126 < (s[k].toNat : Int) ∨ (s[k].toNat : Int) = 61)) : keyB s = false := by
  rw [Bool.eq_false_iff]
  intro h
  simp only [keyB, Bool.and_eq_true] at h
  have := (all_bytes s okByte).1 h.2 k hk
  simp only [okByte, decide_eq_true_eq] at this
  omega
theorem keyB_end {s : ByteArray} (h : okTo s s.size) : keyB s = decide (1 ≤ s.size ∧ s.size ≤ 6) := by
  have : s.data.toList.all okByte = true := (all_bytes s okByte).2 fun i hi => h i hi hi
  simp [keyB, this]
theorem keyB_short {s : ByteArray} (h : s.size < 1) : keyB s = false := by simp [keyB]; omega
theorem keyB_long {s : ByteArray} (h : 6 < s.size) : keyB s = false := by simp [keyB]; omega
theorem keyB_size {s : ByteArray} (h : keyB s = true) : 1 ≤ s.size ∧ s.size ≤ 6 := by
  simp only [keyB, Bool.and_eq_true, decide_eq_true_eq] at h
  exact h.1
end Go.Proofs.Ytepgcflkgicpiaa
