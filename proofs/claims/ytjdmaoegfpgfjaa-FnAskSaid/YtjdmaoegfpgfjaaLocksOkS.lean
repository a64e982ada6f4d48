/-
  The model's LocksOk.
-/
import Derived.Test.YtjdmaoegfpgfjaaModes
import Derived.Test.YtjdmaoegfpgfjaaLockMem
import Derived.Test.YtjdmaoegfpgfjaaMapOkI
namespace Go.Proofs.Ytjdmaoegfpgfjaa
open Go.RowKit

theorem holdB_txn {x : HD} (h : inB x.1 1 1000 = false) : holdB x = false := by
  simp only [inB] at h
  rw [holdB, ← Bool.and_assoc, h, Bool.false_and]
theorem holdB_in {x : HD} (h : inB x.1 1 1000 = true) : holdB x = (modeB x.2.2 && (decide (x.2.1.size = 0) || keyB x.2.1)) := by
  simp only [inB, Bool.and_eq_true] at h
  simp [holdB, h.1, h.2]
theorem eqE_true {s : ByteArray} (h : s.size = 0) : (s.toList == ([] : List UInt8)) = true := by
  have : s.toList = [] := by
    rw [ByteArray.toList_eq]
    have h2 : s.data = #[] := Array.eq_empty_of_size_eq_zero h
    rw [h2]
  rw [this]; rfl
theorem eqE_false {s : ByteArray} (h : s.size ≠ 0) : (s.toList == ([] : List UInt8)) = false := by
  rw [beq_eq_false_iff_ne]
  intro e
  rw [ByteArray.toList_eq] at e
  have : s.data.size = 0 := by
    have := congrArg List.length e
    simpa using this
  exact h this

set_option maxHeartbeats 1000000 in
theorem spec_l5Hold (x : HD) (w : World) (hs : x.2.1.size ≤ maxLen) :
    Calls Try.prog 84 #[.agg #[.int .i64 x.1, .string x.2.1, .int .i64 x.2.2]] w fun e w' => e = .returned (.bool (holdB x)) ∧ Below w.heap.size w w' := by
  have HB : Hid (∀ o : Obj, Below w.heap.size w (w.alloc o)) := fun o => (Below.refl _ _).alloc (Nat.le_refl _) o
  have HS := hid hs
  clear hs
  cases h1 : inB x.1 1 1000
  · have HE := hid (holdB_txn h1)
    go_enter Try.func84, Try.ntmps84
    go_wp2_with (go_at_call 100; refine (spec_l1In_any _ _ _ _).mono ?_; rintro e w' ⟨rfl, rfl⟩)
    go_ret
    exact ⟨ret_bool HE.out.symm, HB.out _⟩
  have HE := hid (holdB_in h1)
  cases h2 : modeB x.2.2
  · rw [h2] at HE
    go_enter Try.func84, Try.ntmps84
    go_wp2_with (first
      | (go_at_call 100; refine (spec_l1In_any _ _ _ _).mono ?_; rintro e w' ⟨rfl, rfl⟩)
      | (go_at_call 140; refine (spec_l5Mode _ _).mono ?_; rintro e w' ⟨rfl, rfl⟩))
    go_ret
    exact ⟨ret_bool HE.out.symm, HB.out _⟩
  rw [h2] at HE
  by_cases h3 : x.2.1.size = 0
  · have e3 := eqE_true h3
    rw [decide_eq_true h3] at HE
    clear h3
    go_enter Try.func84, Try.ntmps84
    go_wp2_with (first
      | (go_at_call 100; refine (spec_l1In_any _ _ _ _).mono ?_; rintro e w' ⟨rfl, rfl⟩)
      | (go_at_call 140; refine (spec_l5Mode _ _).mono ?_; rintro e w' ⟨rfl, rfl⟩))
    go_ret
    exact ⟨ret_bool HE.out.symm, HB.out _⟩
  · have e3 := eqE_false h3
    rw [decide_eq_false h3] at HE
    clear h3
    go_enter Try.func84, Try.ntmps84
    go_wp2_with (first
      | (go_at_call 100; refine (spec_l1In_any _ _ _ _).mono ?_; rintro e w' ⟨rfl, rfl⟩)
      | (go_at_call 140; refine (spec_l5Mode _ _).mono ?_; rintro e w' ⟨rfl, rfl⟩)
      | (go_at_call 135; refine (spec_KeyOk _ _ HS.out).mono ?_; rintro e w' ⟨rfl, rfl⟩))
    go_ret
    exact ⟨ret_bool HE.out.symm, HB.out _⟩

theorem ownsK {x y : HD} (h : ownB y x = true) : clashB y x = true := by
  have := ownB_iff.1 h
  simp [clashB, this.1, this.2]
end Go.Proofs.Ytjdmaoegfpgfjaa
