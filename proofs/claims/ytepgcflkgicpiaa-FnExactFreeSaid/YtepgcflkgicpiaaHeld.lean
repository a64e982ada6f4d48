/-
  heldPairS at pairs that are marks.
-/
import Derived.Test.YtepgcflkgicpiaaMarks
namespace Go.Proofs.Ytepgcflkgicpiaa
open Go.RowKit

set_option maxHeartbeats 1000000 in
theorem heldPairS_any (A : Option Addr) (c n k : Nat) (w : World) (hr : RP w w.heap.size A (marksL n k)) (hn : n ≤ 2000000) (hk : k ≤ 10000000000000) :
    Calls Try.prog 117 #[.slice A n c, .int .i64 k] w fun e w' => e = .returned (.int .i64 ((k + 2 * n : Nat) : Int)) ∧ Below w.heap.size w w' := by
  have HR := hid hr
  clear hr
  go_enter Try.func117, Try.ntmps117
  go_wp2_with fail
  go_loopw [1, 5] (fun q i wr => ∃ j m : Nat, j ≤ n ∧ m = k + 2 * j ∧ i = .int .i64 j ∧ q = .int .i64 m ∧ Below w.heap.size w wr) (fun _ i _ => n - (intOf i).toNat)
  case atStart => exact ⟨0, k, Nat.zero_le _, rfl, rfl, rfl, Below.refl _ _⟩
  case round =>
    obtain ⟨j, m, hj, hm, rfl, rfl, hbw⟩ := hrel
    have hmb : m ≤ 10000004001000 := by omega
    by_cases hlt : j < n
    · obtain ⟨b, off, rfl, hb, hc1, hc2⟩ := (HR.out.below hbw).at_ (k := j) (by rw [marksL_len]; exact hlt)
      rw [marksL_get] at hc1 hc2
      simp only [← hm] at hc1 hc2
      have HD := hid hbw
      have HE := hid hm
      have HW2 : Hid (∀ w2 : World, Below w.heap.size w w2 → w2.cell? ⟨b, off + j * 2 + 1, none⟩ = some (.string (mtxt (m + 1)))) := fun w2 h2 => (h2.cell (p := ⟨b, off + j * 2 + 1, none⟩) hb).trans ((hbw.cell (p := ⟨b, off + j * 2 + 1, none⟩) hb).symm.trans hc2)
      clear hbw hm hc2
      have e5 : (0 : Int) ≤ (j : Int) := by omega
      have e6 : (j : Int) < (n : Int) := by omega
      have hself : ((mtxt m).toList == (mtxt m).toList) = true := by simp
      have hself2 : ((mtxt (m + 1)).toList == (mtxt (m + 1)).toList) = true := by simp
      go_wp2_with fail
      go_region_held3 (fun w' => w'.cell? ⟨b, off + j * 2, none⟩ = some (.string (mtxt m))) (go_keep)
        (first | (go_at_call 116; refine (markText_at _ m _ rfl (by omega)).mono ?_; rintro e w1 ⟨rfl, hw1⟩; have hk1 : w1.cell? ⟨b, off + j * 2, none⟩ = some (.string (mtxt m)) := (hw1.cell (p := ⟨b, off + j * 2, none⟩) (by have := HD.out.size; simp; omega)).trans (by first | exact hc1 | go_simp); have HB1 := hid (HD.out.drew.trans (hw1.mono HD.out.size)); clear hw1))
      have hc3 := HW2.out w1 HB1.out
      clear hk1 hc1
      go_wp2_with fail
      go_region_held3 (fun w' => w'.cell? ⟨b, off + j * 2 + 1, none⟩ = some (.string (mtxt (m + 1)))) (go_keep)
        (first | (go_at_call 116; refine (markText_at _ (m + 1) _ (by omega) (by omega)).mono ?_; rintro e w3 ⟨rfl, hw3⟩; have hk3 : w3.cell? ⟨b, off + j * 2 + 1, none⟩ = some (.string (mtxt (m + 1))) := (hw3.cell (p := ⟨b, off + j * 2 + 1, none⟩) (by have := HB1.out.size; simp; omega)).trans (by first | exact hc3 | go_simp); have HB3 := hid (HB1.out.drew.trans (hw3.mono HB1.out.size)); clear hw3))
      clear hk3 hc3
      go_wp2_with fail
      refine ⟨⟨j + 1, m + 2, by omega, by have := HE.out; omega, by go_num, by go_num, HB3.out⟩, by simp [intOf]; omega⟩
    · obtain rfl : j = n := by omega
      have HE := hid hm
      have HD := hid hbw
      clear hbw hm
      go_wp2_with fail
      go_ret
      exact ⟨ret_int (by have := HE.out; omega), HD.out⟩
end Go.Proofs.Ytepgcflkgicpiaa
