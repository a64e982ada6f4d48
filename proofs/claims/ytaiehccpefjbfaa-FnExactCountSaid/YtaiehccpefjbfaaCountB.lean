/-
  Count of both: contracts.
-/
import Derived.Test.YtaiehccpefjbfaaPopI
namespace Go.Proofs.Ytaiehccpefjbfaa
open Go.RowKit

set_option maxHeartbeats 1000000 in
theorem impl_Count (n : Int) (A : Option Addr) (c : Nat) (xs : List Bool) (w : World) (hr : RB w w.heap.size A xs) :
    Calls Try.prog 30 #[.agg #[.int .i64 n, .slice A xs.length c]] w fun e w' => e = .returned (.int .i64 (bcnt (lenB n xs) (usedF xs) : Int)) ∧ Below w.heap.size w w' := by
  have HB : Hid (∀ o : Obj, Below w.heap.size w (w.alloc o)) := fun o => (Below.refl _ _).alloc (Nat.le_refl _) o
  have HR : Hid (∀ o : Obj, RB (w.alloc o) (w.alloc o).heap.size A xs) := fun o => (hr.below (HB.out o)).more (HB.out o).size
  have hl := lenB_le n xs
  clear hr
  have hbi := fun o => bitsIn_all n A c xs _ (HR.out o)
  obtain ⟨q, hq⟩ : ∃ q, q = bcnt (lenB n xs) (usedF xs) := ⟨_, rfl⟩
  obtain ⟨W, hW⟩ : ∃ W, W = bwd xs (lenB n xs) := ⟨_, rfl⟩
  have HC : Hid (∀ w, Calls Try.prog 71 #[wordsV W] w fun e w' => e = .returned (.int .i64 (q : Int)) ∧ Below w.heap.size w w') := fun w => by rw [hW, hq]; exact count_any xs (lenB n xs) w (by omega)
  rw [← hW] at hbi
  rw [← hq]
  have HI := hid hbi
  clear hW hq hbi
  unfold wordsV at HC HI
  go_enter Try.func30, Try.ntmps30
  go_wp2_with fail
  refine (HI.out _).mono ?_
  rintro e w1 ⟨rfl, hb1⟩
  have B1 := hid ((HB.out _).trans (hb1.mono (HB.out _).size))
  clear hb1
  go_wp2_with fail
  refine (HC.out _).mono ?_
  rintro e w2 ⟨rfl, hb2⟩
  go_wp2_with fail
  go_ret
  exact ⟨rfl, (B1.out.alloc B1.out.size _).trans (hb2.mono (B1.out.alloc B1.out.size _).size)⟩

set_option maxHeartbeats 2000000 in
theorem spec_Count (n : Int) (A : Option Addr) (c : Nat) (xs : List Bool) (w : World) (hr : RB w w.heap.size A xs) :
    Calls Try.prog 29 #[.agg #[.int .i64 n, .slice A xs.length c]] w fun e w' => e = .returned (.int .i64 (bcnt (lenB n xs) (usedF xs) : Int)) ∧ Below w.heap.size w w' := by
  have b0 : Below w.heap.size w (w.alloc (.cells #[.int .i64 n, .slice A xs.length c] 54)) := (Below.refl _ _).alloc (Nat.le_refl _) _
  have y0 := Row2.lit w 54 (.int .i64 n) (.slice A xs.length c)
  have B0 := hid b0
  have Y0 := hid y0
  have HR := hid hr
  have hxs : ∀ k (h : k < xs.length), usedF xs k = xs[k] := fun k h => by simp [usedF, List.getD, h]
  have HX := hid hxs
  have hl := lenB_le n xs
  have hxl : xs.length ≤ 200 ∨ bitsB n xs = false := by
    cases h : bitsB n xs with
    | true => left; have := of_decide_eq_true h; omega
    | false => right; rfl
  obtain ⟨C, hC⟩ : ∃ C : Nat → Nat, C = fun k => bcnt k (usedF xs) := ⟨_, rfl⟩
  have HC0 : Hid (C 0 = 0) := by rw [hC]; rfl
  have HCS : Hid (∀ k, C (k + 1) = C k + (usedF xs k).toNat) := by rw [hC]; exact fun k => rfl
  have HCL : Hid (∀ k, C k ≤ k) := by rw [hC]; exact fun k => bcnt_le k _
  have hq : bcnt (lenB n xs) (usedF xs) = C (lenB n xs) := by rw [hC]
  rw [hq]
  obtain ⟨L, hL⟩ : ∃ L, L = lenB n xs := ⟨_, rfl⟩
  have HLE : Hid (bitsB n xs = true → L = xs.length) := fun h => by rw [hL, lenB, if_pos h]
  have HLN : Hid (bitsB n xs = false → L = 0) := fun h => by rw [hL, lenB, if_neg (by simp [h])]
  rw [← hL] at hl ⊢
  clear hq hL hC hxs hr b0 y0
  go_enter Try.func29, Try.ntmps29
  go_wp2_with fail
  go_loopw [3, 4] (fun m i wr => ∃ k : Nat, k ≤ L ∧ i = .int .i64 k ∧ m = .int .i64 (C k : Int) ∧ Row2 wr w.heap.size 54 (.int .i64 n) (.slice A xs.length c) ∧ Below w.heap.size w wr) (fun _ i _ => L - (intOf i).toNat)
  case atStart => exact ⟨0, Nat.zero_le _, rfl, by rw [HC0.out]; rfl, Y0.out, B0.out⟩
  case round =>
    obtain ⟨k, hk, rfl, rfl, hrow, hbw⟩ := hrel
    have RW := hid hrow
    have HD := hid hbw
    have y0 := hrow.c0
    have y1 := hrow.c1
    have hcl := HCL.out k
    clear hrow hbw
    go_wp2_with fail
    refine (spec_BitsOk n A c xs _).mono ?_
    rintro e w1 ⟨rfl, hb1⟩
    have R1 := hid (RW.out.below hb1)
    have D1 := hid (HD.out.trans (hb1.mono HD.out.size))
    clear hb1 y0 y1
    have y0 := R1.out.c0
    have y1 := R1.out.c1
    by_cases hB : bitsB n xs = true
    · have hle := HLE.out hB
      have hx2 : xs.length ≤ 200 := by omega
      rw [hB]
      clear hxl hB
      by_cases hlt : k < xs.length
      · obtain ⟨b, off, rfl, hb, hc1⟩ := (HR.out.below D1.out).at_ hlt
        have hs := HCS.out k
        rw [HX.out k hlt] at hs
        by_cases ht : xs[k] = true
        · rw [ht] at hs hc1
          have HS := hid hs
          clear hs ht
          go_wp2_with fail
          refine ⟨⟨k + 1, by omega, by go_num, by rw [HS.out]; go_num, R1.out, D1.out⟩, by simp [intOf]; omega⟩
        · have hf : xs[k] = false := by simpa using ht
          rw [hf] at hs hc1
          have HS := hid hs
          clear hs ht
          go_wp2_with fail
          refine ⟨⟨k + 1, by omega, by go_num, by rw [HS.out]; rfl, R1.out, D1.out⟩, by simp [intOf]; omega⟩
      · have hkL : k = L := by omega
        have HKL := hid hkL
        clear hkL
        go_wp2_with fail
        go_ret
        exact ⟨by rw [← HKL.out]; rfl, D1.out⟩
    · have hf : bitsB n xs = false := by simpa using hB
      have hle := HLN.out hf
      have HKL : Hid (k = L) := by rw [Hid]; omega
      rw [hf]
      clear hxl hle hB hf
      go_wp2_with fail
      go_ret
      exact ⟨by rw [← HKL.out]; rfl, D1.out⟩
end Go.Proofs.Ytaiehccpefjbfaa
