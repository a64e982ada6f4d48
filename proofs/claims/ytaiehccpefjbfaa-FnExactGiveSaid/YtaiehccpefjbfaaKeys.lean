/-
  The two programs' KeyOk: contracts.
-/
import Derived.Test.YtaiehccpefjbfaaProg
import Derived.Test.YtaiehccpefjbfaaPlain
import Derived.WalkKit
import Derived.WalkLawsBesides
namespace Go.Proofs.Ytaiehccpefjbfaa
open Go.RowKit

theorem ret_bool {a b : Bool} (h : a = b) : Ending.returned (.bool a) = .returned (.bool b) := by rw [h]

theorem dec_eq {p q : Prop} [Decidable p] [Decidable q] (h : p ↔ q) : decide p = decide q := by simp [h]

set_option maxHeartbeats 400000 in
theorem spec_KeyOk (s : ByteArray) (w : World) (hs : s.size ≤ maxLen) :
    Calls Try.prog 160 #[.string s] w fun e w' => e = .returned (.bool (keyB s)) ∧ w = w' := by
  unfold maxLen at hs
  go_enter Try.func160, Try.ntmps160
  go_wp2
  go_loop [3] (fun i => ∃ k : Nat, k ≤ s.size ∧ i = .int .i64 k ∧ okTo s k) (fun i => s.size - (intOf i).toNat)
  case atStart => exact ⟨0, Nat.zero_le _, rfl, okTo_zero s⟩
  case round =>
    obtain ⟨k, hk, rfl, hok⟩ := hrel
    by_cases hlt : k < s.size
    · have HS := hid (okTo_succ hok hlt)
      have HB := hid (@keyB_bad s k hlt)
      clear hok
      by_cases h1 : (s[k].toNat : Int) < 33
      · go_wp2
        go_ret
        exact ⟨ret_bool (HB.out (by omega)).symm, rfl⟩
      by_cases h2 : 126 < (s[k].toNat : Int)
      · go_wp2
        go_ret
        exact ⟨ret_bool (HB.out (by omega)).symm, rfl⟩
      by_cases h3 : (s[k].toNat : Int) = 61
      · have h3' : ((s[k].toNat : Int) == 61) = true := by simpa using h3
        have H3 := hid h3
        clear h3
        go_wp2
        go_ret
        exact ⟨ret_bool (HB.out (by have := H3.out; omega)).symm, rfl⟩
      · have h3' : ((s[k].toNat : Int) == 61) = false := by simpa using h3
        go_wp2
        go_round
        case rel => exact ⟨k + 1, by omega, by go_num, HS.out (by omega)⟩
        case measure => simp [intOf]; omega
    · obtain rfl : k = s.size := by omega
      have HE := hid (keyB_end hok)
      clear hok
      by_cases h1 : 1 ≤ s.size
      · go_wp2
        go_ret
        exact ⟨ret_bool (by rw [HE.out]; exact dec_eq (by omega)), rfl⟩
      · go_wp2
        go_ret
        exact ⟨ret_bool (by rw [HE.out]; simp; omega), rfl⟩

set_option maxHeartbeats 400000 in
theorem impl_KeyOk (s : ByteArray) (w : World) (hs : s.size ≤ maxLen) :
    Calls Try.prog 165 #[.string s] w fun e w' => e = .returned (.bool (keyB s)) ∧ w = w' := by
  unfold maxLen at hs
  by_cases g1 : s.size < 1
  · have HB := hid (keyB_short g1)
    go_enter Try.func165, Try.ntmps165
    go_wp2
    go_ret
    exact ⟨ret_bool HB.out.symm, rfl⟩
  by_cases g2 : 6 < s.size
  · have HB := hid (keyB_long g2)
    go_enter Try.func165, Try.ntmps165
    go_wp2
    go_ret
    exact ⟨ret_bool HB.out.symm, rfl⟩
  go_enter Try.func165, Try.ntmps165
  go_wp2
  go_loop [14] (fun i => ∃ k : Nat, k ≤ s.size ∧ i = .int .i64 k ∧ okTo s k) (fun i => s.size - (intOf i).toNat)
  case atStart => exact ⟨0, Nat.zero_le _, rfl, okTo_zero s⟩
  case round =>
    obtain ⟨k, hk, rfl, hok⟩ := hrel
    by_cases hlt : k < s.size
    · have HS := hid (okTo_succ hok hlt)
      have HB := hid (@keyB_bad s k hlt)
      clear hok
      by_cases h1 : (s[k].toNat : Int) < 33
      · go_wp2
        go_ret
        exact ⟨ret_bool (HB.out (by omega)).symm, rfl⟩
      by_cases h2 : 126 < (s[k].toNat : Int)
      · go_wp2
        go_ret
        exact ⟨ret_bool (HB.out (by omega)).symm, rfl⟩
      by_cases h3 : (s[k].toNat : Int) = 61
      · have h3' : ((s[k].toNat : Int) == 61) = true := by simpa using h3
        have H3 := hid h3
        clear h3
        go_wp2
        go_ret
        exact ⟨ret_bool (HB.out (by have := H3.out; omega)).symm, rfl⟩
      · have h3' : ((s[k].toNat : Int) == 61) = false := by simpa using h3
        go_wp2
        go_round
        case rel => exact ⟨k + 1, by omega, by go_num, HS.out (by omega)⟩
        case measure => simp [intOf]; omega
    · obtain rfl : k = s.size := by omega
      have HE := hid (keyB_end hok)
      clear hok
      go_wp2
      go_ret
      exact ⟨ret_bool (by rw [HE.out]; simp; omega), rfl⟩
end Go.Proofs.Ytaiehccpefjbfaa
