/-
  The model's Put, Drop, Range: contracts.
-/
import Derived.Test.YtaiehccpefjbfaaAppend
import Derived.Test.YtaiehccpefjbfaaLists
namespace Go.Proofs.Ytaiehccpefjbfaa
open Go.RowKit


theorem put_old {k v : ByteArray} {s : PS × Bool} {p : BB} (h : s.2 = true) (he : p.1 = k) : putStep k v s p = (s.1, true) := by simp [putStep, h, he]
theorem put_app {k v : ByteArray} {s : PS × Bool} {p : BB} (h : s.2 = true) (he : p.1 ≠ k) : putStep k v s p = (s.1 ++ [p], true) := by simp [putStep, h, he]
theorem put_low {k v : ByteArray} {s : PS × Bool} {p : BB} (h : s.2 = false) (hl : ltS p.1 k = true) : putStep k v s p = (s.1 ++ [p], false) := by simp [putStep, h, hl, ltS_ne hl]
theorem put_new {k v : ByteArray} {s : PS × Bool} {p : BB} (h : s.2 = false) (he : p.1 = k) : putStep k v s p = (s.1 ++ [(k, v)], true) := by simp [putStep, h, he, ltS_irrefl]
theorem put_two {k v : ByteArray} {s : PS × Bool} {p : BB} (h : s.2 = false) (hl : ltS p.1 k = false) (he : p.1 ≠ k) : putStep k v s p = (s.1 ++ [(k, v)] ++ [p], true) := by simp [putStep, h, hl, he]

theorem empty_yes {s : ByteArray} (h : s.size = 0) : s.toList = [] := by
  rw [ByteArray.toList_eq]
  exact List.eq_nil_of_length_eq_zero h
theorem empty_no {s : ByteArray} (h : s.size ≠ 0) : s.toList.isEmpty = false := by
  rw [ByteArray.toList_eq, List.isEmpty_eq_false_iff]
  intro e
  exact h (by have := congrArg List.length e; simpa using this)

end Go.Proofs.Ytaiehccpefjbfaa
