/-
  What the exact laws go through: sizes, copies, comparisons of pairs.
-/
import Derived.Test.YtoipcjdpfbgghabOwn
namespace Go.Proofs.Ytoipcjdpfbgghab
open Go.RowKit

/-! ### sizes -/
def SzPost1 (p : BB) (l : Int) (w : World) (e : Ending) (w' : World) : Prop :=
  ∃ r : Int, e = .returned (.int .i64 r) ∧ -1 ≤ r ∧ r ≤ l ∧ (0 ≤ r → (p.1.size : Int) ≤ l ∧ (p.2.size : Int) ≤ l) ∧ Below w.heap.size w w'

def Small (ps : PS) (l : Int) : Prop := ∀ p ∈ ps, (p.1.size : Int) ≤ l ∧ (p.2.size : Int) ≤ l
def smallTo (ps : PS) (l : Int) (k : Nat) : Prop := ∀ (i : Nat) (h : i < ps.length), i < k → (ps[i].1.size : Int) ≤ l ∧ (ps[i].2.size : Int) ≤ l
theorem smallTo_succ {ps : PS} {l m : Int} {k : Nat} (h : smallTo ps l k) (hk : k < ps.length) (hm : m ≤ l) (he : (ps[k].1.size : Int) ≤ m ∧ (ps[k].2.size : Int) ≤ m) : smallTo ps l (k + 1) := by
  intro i hi hlt
  by_cases e : i = k
  · subst e
    omega
  · exact h i hi (by omega)
theorem smallTo_end {ps : PS} {l : Int} (h : smallTo ps l ps.length) : Small ps l := by
  intro p hp
  obtain ⟨i, hi, rfl⟩ := List.getElem_of_mem hp
  exact h i hi hi
def SzPost (ps : PS) (l : Int) (w : World) (e : Ending) (w' : World) : Prop :=
  ∃ r : Int, e = .returned (.int .i64 r) ∧ -1 ≤ r ∧ r ≤ l ∧ (0 ≤ r → (ps.length : Int) ≤ l ∧ Small ps l) ∧ Below w.heap.size w w'

/-! ### comparisons -/
def sameTo (ps qs : PS) (k : Nat) : Prop := ∀ (i : Nat) (h : i < ps.length) (h' : i < qs.length), i < k → ps[i] = qs[i]
theorem sameTo_succ {ps qs : PS} {k : Nat} (h : sameTo ps qs k) (hk : k < ps.length) (hk' : k < qs.length) (he : ps[k] = qs[k]) : sameTo ps qs (k + 1) := by
  intro i hi hi' hlt
  by_cases e : i = k
  · subst e
    exact he
  · exact h i hi hi' (by omega)
theorem sameTo_end {ps qs : PS} (h : sameTo ps qs ps.length) (hl : ps.length = qs.length) : ps = qs :=
  List.ext_getElem hl fun i h1 h2 => h i h1 h2 h1
theorem same_no {ps qs : PS} {k : Nat} (hk : k < ps.length) (hk' : k < qs.length) (he : ps[k] ≠ qs[k]) : decide (ps = qs) = false := by
  rw [decide_eq_false_iff_not]
  rintro rfl
  exact he rfl
theorem same_len {ps qs : PS} (h : ps.length ≠ qs.length) : decide (ps = qs) = false := by
  rw [decide_eq_false_iff_not]
  rintro rfl
  exact h rfl

end Go.Proofs.Ytoipcjdpfbgghab
