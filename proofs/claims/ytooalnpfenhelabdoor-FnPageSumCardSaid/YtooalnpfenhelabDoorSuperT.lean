/-
  SuperText of both: contracts.
-/
import Derived.Test.YtooalnpfenhelabDoorDec
import Derived.Test.YtooalnpfenhelabDoorSums
import Derived.Lib.Join
namespace Go.Proofs.YtooalnpfenhelabDoor
open Go.RowKit

def idV (n : Int) : Bool := decide (1 ≤ n) && decide (n ≤ 1000000)
/-- What leads to a root and is right. -/
def superB (g r x : Int) : Bool := decide (1 ≤ g ∧ g ≤ 1000000) && (decide (2 ≤ x ∧ x ≤ 1000000) && decide (1 ≤ r ∧ r ≤ x - 1))
def superWords (g r x : Int) : List (List UInt8) := [[115, 117, 112, 101, 114], Lib.decDigits g.toNat, Lib.decDigits r.toNat, Lib.decDigits x.toNat]
/-- The text without its sum. -/
def superBody (g r x : Int) : ByteArray := ⟨(Lib.join (superWords g r x) [32]).toArray⟩
/-- A text, a blank and its sum. -/
def summedB (s : ByteArray) : ByteArray := s ++ ⟨#[32]⟩ ++ decB (crcB s)
/-- What SuperText answers. -/
def superT (g r x : Int) : ByteArray := if superB g r x then summedB (superBody g r x) else ⟨#[]⟩

theorem l1In_any (n lo hi : Int) (w : World) :
    Calls Tryd.prog 51 #[.int .i64 n, .int .i64 lo, .int .i64 hi] w fun e w' => e = .returned (.bool (decide (lo ≤ n ∧ n ≤ hi))) ∧ w = w' := by
  by_cases h1 : lo ≤ n
  · by_cases h2 : n ≤ hi
    · have HE : Hid (decide (lo ≤ n ∧ n ≤ hi) = true) := by simp [Hid, h1, h2]
      go_enter Tryd.func51, Tryd.ntmps51
      go_wp2_with fail
      go_ret
      exact ⟨ret_bool (by first | exact HE.out.symm | (simp; omega) | (simp [h1])), rfl⟩
    · have HE : Hid (decide (lo ≤ n ∧ n ≤ hi) = false) := by simp [Hid, h2]
      go_enter Tryd.func51, Tryd.ntmps51
      go_wp2_with fail
      go_ret
      exact ⟨ret_bool (by first | exact HE.out.symm | (simp; omega) | (simp [h1])), rfl⟩
  · have HE : Hid (decide (lo ≤ n ∧ n ≤ hi) = false) := by simp [Hid, h1]
    go_enter Tryd.func51, Tryd.ntmps51
    go_wp2_with fail
    go_ret
    exact ⟨ret_bool (by first | exact HE.out.symm | (simp; omega) | (simp [h1])), rfl⟩

theorem idOk_any (n : Int) (w : World) :
    Calls Tryd.prog 46 #[.int .i64 n] w fun e w' => e = .returned (.bool (decide (1 ≤ n ∧ n ≤ 1000000))) ∧ w = w' := by
  by_cases h1 : 1 ≤ n
  · by_cases h2 : n ≤ 1000000
    · have HE : Hid (decide (1 ≤ n ∧ n ≤ 1000000) = true) := by simp [Hid, h1, h2]
      go_enter Tryd.func46, Tryd.ntmps46
      go_wp2_with fail
      go_ret
      exact ⟨ret_bool (by first | exact HE.out.symm | (simp; omega) | (simp [h1])), rfl⟩
    · have HE : Hid (decide (1 ≤ n ∧ n ≤ 1000000) = false) := by simp [Hid, h2]
      go_enter Tryd.func46, Tryd.ntmps46
      go_wp2_with fail
      go_ret
      exact ⟨ret_bool (by first | exact HE.out.symm | (simp; omega) | (simp [h1])), rfl⟩
  · have HE : Hid (decide (1 ≤ n ∧ n ≤ 1000000) = false) := by simp [Hid, h1]
    go_enter Tryd.func46, Tryd.ntmps46
    go_wp2_with fail
    go_ret
    exact ⟨ret_bool (by first | exact HE.out.symm | (simp; omega) | (simp [h1])), rfl⟩

set_option maxHeartbeats 1000000 in
theorem spec_l3Super (g r x : Int) (w : World) (hx : -9223372036854775808 ≤ x) (hx2 : x ≤ 9223372036854775807) :
    Calls Tryd.prog 65 #[.agg #[.int .i64 g, .int .i64 r, .int .i64 x]] w fun e w' => e = .returned (.bool (superB g r x)) ∧ Below w.heap.size w w' := by
  have HB : Hid (∀ o : Obj, Below w.heap.size w (w.alloc o)) := fun o => (Below.refl _ _).alloc (Nat.le_refl _) o
  have HS : Hid (superB g r x = (decide (1 ≤ g ∧ g ≤ 1000000) && (decide (2 ≤ x ∧ x ≤ 1000000) && decide (1 ≤ r ∧ r ≤ x - 1)))) := rfl
  cases h1 : decide (1 ≤ g ∧ g ≤ 1000000)
  · go_enter Tryd.func65, Tryd.ntmps65
    go_wp2_with (go_at_call 51; refine (l1In_any _ _ _ _).mono ?_; rintro e w' ⟨rfl, rfl⟩)
    go_ret
    exact ⟨ret_bool (by rw [HS.out, h1]; rfl), HB.out _⟩
  · cases h2 : decide (2 ≤ x ∧ x ≤ 1000000)
    · go_enter Tryd.func65, Tryd.ntmps65
      go_wp2_with (go_at_call 51; refine (l1In_any _ _ _ _).mono ?_; rintro e w' ⟨rfl, rfl⟩)
      go_ret
      exact ⟨ret_bool (by rw [HS.out, h1, h2]; rfl), HB.out _⟩
    · have hx3 := of_decide_eq_true h2
      have hw : wrap64 (x - 1) = x - 1 := by unfold wrap64; omega
      have hw2 : IntKind.i64.wrap (x - 1) = x - 1 := IntWalk.i64_in _ (by omega)
      go_enter Tryd.func65, Tryd.ntmps65
      go_wp2_with (go_at_call 51; refine (l1In_any _ _ _ _).mono ?_; rintro e w' ⟨rfl, rfl⟩)
      go_ret
      exact ⟨ret_bool (by rw [HS.out, h1, h2]; simp [Bool.decide_and]), HB.out _⟩

set_option maxHeartbeats 1000000 in
theorem impl_superOk (g r x : Int) (w : World) :
    Calls Tryd.prog 67 #[.agg #[.int .i64 g, .int .i64 r, .int .i64 x]] w fun e w' => e = .returned (.bool (superB g r x)) ∧ Below w.heap.size w w' := by
  have HB : Hid (∀ o : Obj, Below w.heap.size w (w.alloc o)) := fun o => (Below.refl _ _).alloc (Nat.le_refl _) o
  have HS : Hid (superB g r x = (decide (1 ≤ g ∧ g ≤ 1000000) && (decide (2 ≤ x ∧ x ≤ 1000000) && decide (1 ≤ r ∧ r ≤ x - 1)))) := rfl
  cases h1 : decide (1 ≤ g ∧ g ≤ 1000000)
  · go_enter Tryd.func67, Tryd.ntmps67
    go_wp2_with (go_at_call 46; refine (idOk_any _ _).mono ?_; rintro e w' ⟨rfl, rfl⟩)
    go_ret
    exact ⟨ret_bool (by rw [HS.out, h1]; rfl), HB.out _⟩
  · cases h2 : decide (1 ≤ x ∧ x ≤ 1000000)
    · have hf : superB g r x = false := by
        have := of_decide_eq_false h2
        have h3 : decide (2 ≤ x ∧ x ≤ 1000000) = false := by rw [decide_eq_false_iff_not]; omega
        rw [HS.out, h3]
        simp
      have HF := hid hf
      clear hf
      go_enter Tryd.func67, Tryd.ntmps67
      go_wp2_with (go_at_call 46; refine (idOk_any _ _).mono ?_; rintro e w' ⟨rfl, rfl⟩)
      go_ret
      exact ⟨ret_bool (by first | exact HF.out.symm | (rw [HF.out]; simp; omega)), HB.out _⟩
    · have hx3 := of_decide_eq_true h2
      by_cases h4 : 1 ≤ r
      · by_cases h5 : r < x
        · have hf : superB g r x = true := by
            have h3 : decide (2 ≤ x ∧ x ≤ 1000000) = true := by rw [decide_eq_true_eq]; omega
            have h6 : decide (1 ≤ r ∧ r ≤ x - 1) = true := by rw [decide_eq_true_eq]; omega
            rw [HS.out, h1, h3, h6]; rfl
          have HF := hid hf
          clear hf
          go_enter Tryd.func67, Tryd.ntmps67
          go_wp2_with (go_at_call 46; refine (idOk_any _ _).mono ?_; rintro e w' ⟨rfl, rfl⟩)
          go_ret
          exact ⟨ret_bool (by first | exact HF.out.symm | (rw [HF.out]; simp; omega)), HB.out _⟩
        · have hf : superB g r x = false := by
            have h6 : decide (1 ≤ r ∧ r ≤ x - 1) = false := by rw [decide_eq_false_iff_not]; omega
            rw [HS.out, h6]; simp
          have HF := hid hf
          clear hf
          go_enter Tryd.func67, Tryd.ntmps67
          go_wp2_with (go_at_call 46; refine (idOk_any _ _).mono ?_; rintro e w' ⟨rfl, rfl⟩)
          go_ret
          exact ⟨ret_bool (by first | exact HF.out.symm | (rw [HF.out]; simp; omega)), HB.out _⟩
      · have hf : superB g r x = false := by
          have h6 : decide (1 ≤ r ∧ r ≤ x - 1) = false := by rw [decide_eq_false_iff_not]; omega
          rw [HS.out, h6]; simp
        have HF := hid hf
        clear hf
        go_enter Tryd.func67, Tryd.ntmps67
        go_wp2_with (go_at_call 46; refine (idOk_any _ _).mono ?_; rintro e w' ⟨rfl, rfl⟩)
        go_ret
        exact ⟨ret_bool (by first | exact HF.out.symm | (rw [HF.out]; simp; omega)), HB.out _⟩

theorem crc_small (s : ByteArray) : crcB s ≤ 1000000000000 := by have := crcB_lt s; omega

theorem spec_l3Summed (s : ByteArray) (w : World) (hs : s.size ≤ 10000) :
    Calls Tryd.prog 25 #[.string s] w fun e w' => e = .returned (.string (summedB s)) ∧ Below w.heap.size w w' := by
  have hz := decB_size (crc_small s)
  go_enter Tryd.func25, Tryd.ntmps25
  go_wp2_with (first
    | (go_at_call 55; refine (spec_l3Sum s _ hs).mono ?_; rintro e w' ⟨rfl, rfl⟩)
    | (go_at_call 54; refine (spec_l1Dec (crcB s) _ (crc_small s)).mono ?_; rintro e w' ⟨rfl, hw⟩; have HW := hid hw; clear hw))
  go_ret
  exact ⟨rfl, HW.out⟩
end Go.Proofs.YtooalnpfenhelabDoor
