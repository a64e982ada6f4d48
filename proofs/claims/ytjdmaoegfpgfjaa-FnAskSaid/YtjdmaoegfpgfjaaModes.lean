/-
  Modes: Fit and Both of both.
-/
import Derived.Test.YtjdmaoegfpgfjaaLockKit
import Derived.Test.YtjdmaoegfpgfjaaPageOk
namespace Go.Proofs.Ytjdmaoegfpgfjaa
open Go.RowKit

def inB (n lo hi : Int) : Bool := decide (lo ≤ n) && decide (n ≤ hi)
theorem modeB_in (m : Int) : inB m 1 4 = modeB m := rfl
theorem spec_l1In_any (n lo hi : Int) (w : World) :
    Calls Try.prog 100 #[.int .i64 n, .int .i64 lo, .int .i64 hi] w fun e w' => e = .returned (.bool (inB n lo hi)) ∧ w = w' := by
  by_cases h1 : lo ≤ n
  · by_cases h2 : n ≤ hi
    · have HE : Hid (inB n lo hi = true) := by simp [Hid, inB, h1, h2]
      go_enter Try.func100, Try.ntmps100
      go_wp2_with fail
      go_ret
      exact ⟨ret_bool HE.out.symm, rfl⟩
    · have HE : Hid (inB n lo hi = false) := by simp [Hid, inB, h2]
      go_enter Try.func100, Try.ntmps100
      go_wp2_with fail
      go_ret
      exact ⟨ret_bool HE.out.symm, rfl⟩
  · have HE : Hid (inB n lo hi = false) := by simp [Hid, inB, h1]
    go_enter Try.func100, Try.ntmps100
    go_wp2_with fail
    go_ret
    exact ⟨ret_bool HE.out.symm, rfl⟩

theorem spec_l5Mode (n : Int) (w : World) :
    Calls Try.prog 140 #[.int .i64 n] w fun e w' => e = .returned (.bool (modeB n)) ∧ w = w' := by
  go_enter Try.func140, Try.ntmps140
  go_wp2_with (go_at_call 100; refine (spec_l1In_any _ _ _ _).mono ?_; rintro e w' ⟨rfl, rfl⟩)
  go_ret
  exact ⟨rfl, rfl⟩
theorem impl_modeOk (n : Int) (w : World) :
    Calls Try.prog 86 #[.int .i64 n] w fun e w' => e = .returned (.bool (modeB n)) ∧ w = w' := by
  by_cases h1 : 1 ≤ n
  · by_cases h2 : n ≤ 4
    · have HE : Hid (modeB n = true) := by simp [Hid, modeB, h1, h2]
      go_enter Try.func86, Try.ntmps86
      go_wp2_with fail
      go_ret
      exact ⟨ret_bool HE.out.symm, rfl⟩
    · have HE : Hid (modeB n = false) := by simp [Hid, modeB, h2]
      go_enter Try.func86, Try.ntmps86
      go_wp2_with fail
      go_ret
      exact ⟨ret_bool HE.out.symm, rfl⟩
  · have HE : Hid (modeB n = false) := by simp [Hid, modeB, h1]
    go_enter Try.func86, Try.ntmps86
    go_wp2_with fail
    go_ret
    exact ⟨ret_bool HE.out.symm, rfl⟩

theorem spec_l5Fit (a b : Int) (w : World) :
    Calls Try.prog 85 #[.int .i64 a, .int .i64 b] w fun e w' => e = .returned (.bool (fitB a b)) ∧ w = w' := by
  have fin : ∀ v : Bool, fitB a b = v → Hid (fitB a b = v) := fun v h => h
  by_cases a4 : a = 4
  · have HE := fin false (by simp [fitB, a4])
    have e1 := eqI_true a4
    clear a4 fin
    go_enter Try.func85, Try.ntmps85
    go_wp2_with fail
    go_ret
    exact ⟨ret_bool HE.out.symm, rfl⟩
  by_cases b4 : b = 4
  · have HE := fin false (by simp [fitB, b4])
    have e1 := eqI_false a4
    have e2 := eqI_true b4
    clear a4 b4 fin
    go_enter Try.func85, Try.ntmps85
    go_wp2_with fail
    go_ret
    exact ⟨ret_bool HE.out.symm, rfl⟩
  by_cases a3 : a = 3
  · have e3 := eqI_true a3
    have e1 := eqI_false a4
    have e2 := eqI_false b4
    by_cases b2 : b = 2
    · have HE := fin false (by simp [fitB, a3, b2])
      have e4 := neI_false b2
      clear a4 b4 a3 b2 fin
      go_enter Try.func85, Try.ntmps85
      go_wp2_with fail
      go_ret
      exact ⟨ret_bool HE.out.symm, rfl⟩
    · have HE := fin true (by simp [fitB, a3, b2, b4])
      have e4 := neI_true b2
      clear a4 b4 a3 b2 fin
      go_enter Try.func85, Try.ntmps85
      go_wp2_with fail
      go_ret
      exact ⟨ret_bool HE.out.symm, rfl⟩
  have e3 := eqI_false a3
  have e1 := eqI_false a4
  have e2 := eqI_false b4
  by_cases b3 : b = 3
  · have e5 := eqI_true b3
    by_cases a2 : a = 2
    · have HE := fin false (by simp [fitB, b3, a2])
      have e4 := neI_false a2
      clear a4 b4 a3 b3 a2 fin
      go_enter Try.func85, Try.ntmps85
      go_wp2_with fail
      go_ret
      exact ⟨ret_bool HE.out.symm, rfl⟩
    · have HE := fin true (by simp [fitB, b3, a2, a3, a4])
      have e4 := neI_true a2
      clear a4 b4 a3 b3 a2 fin
      go_enter Try.func85, Try.ntmps85
      go_wp2_with fail
      go_ret
      exact ⟨ret_bool HE.out.symm, rfl⟩
  · have e5 := eqI_false b3
    have HE := fin true (by simp [fitB, b3, a3, a4, b4])
    clear a4 b4 a3 b3 fin
    go_enter Try.func85, Try.ntmps85
    go_wp2_with fail
    go_ret
    exact ⟨ret_bool HE.out.symm, rfl⟩

theorem spec_l5Both (a b : Int) (w : World) (ha : modeB a = true) (hb : modeB b = true) :
    Calls Try.prog 199 #[.int .i64 a, .int .i64 b] w fun e w' => e = .returned (.int .i64 (joinB a b)) ∧ w = w' := by
  rcases modeB_cases ha with rfl | rfl | rfl | rfl <;> rcases modeB_cases hb with rfl | rfl | rfl | rfl <;>
    (clear ha hb
     go_enter Try.func199, Try.ntmps199
     go_wp2_with fail
     go_ret
     exact ⟨rfl, rfl⟩)

theorem impl_Both (a b : Int) (w : World) :
    Calls Try.prog 43 #[.int .i64 a, .int .i64 b] w fun e w' => e = .returned (.int .i64 (bothF a b)) ∧ Below w.heap.size w w' := by
  cases ha : modeB a
  · have HE : Hid (bothF a b = 0) := by simp [Hid, bothF, ha]
    go_enter Try.func43, Try.ntmps43
    go_wp2_with (go_at_call 86; refine (impl_modeOk _ _).mono ?_; rintro e w' ⟨rfl, rfl⟩)
    go_ret
    exact ⟨ret_int HE.out.symm, Below.refl _ _⟩
  · cases hb : modeB b
    · have HE : Hid (bothF a b = 0) := by simp [Hid, bothF, hb]
      go_enter Try.func43, Try.ntmps43
      go_wp2_with (go_at_call 86; refine (impl_modeOk _ _).mono ?_; rintro e w' ⟨rfl, rfl⟩)
      go_ret
      exact ⟨ret_int HE.out.symm, Below.refl _ _⟩
    · rcases modeB_cases ha with rfl | rfl | rfl | rfl <;> rcases modeB_cases hb with rfl | rfl | rfl | rfl <;>
        (go_enter Try.func43, Try.ntmps43
         go_wp2_with (go_at_call 86; refine (impl_modeOk _ _).mono ?_; rintro e w' ⟨rfl, rfl⟩)
         go_ret
         exact ⟨rfl, Below.refl _ _⟩)

def fv (g : Nat) : Value := .func (.func g) #[] #[]
theorem lockModes_any (w : World) :
    Calls Try.prog 87 #[] w fun e w' => e = .returned (.agg #[.func (.func 141) #[] #[], .func (.func 142) #[] #[], .func (.func 143) #[] #[], .func (.func 144) #[] #[], .func (.func 141) #[] #[]]) ∧ Below w.heap.size w w' := by
  have hst : ∀ (g : Nat) (a : Addr) (m : Mode) (W : World), Sem.run Try.prog (store a (.func (.func g) #[] #[]) m) W = stored Try.prog W a (.func (.func g) #[] #[]) m := fun g a m W => run_store _ W a _ m rfl
  have HB : Hid (∀ o : Obj, Below w.heap.size w (w.alloc o)) := fun o => (Below.refl _ _).alloc (Nat.le_refl _) o
  go_enter Try.func87, Try.ntmps87
  go_wp2_with fail
  exact bodyPost_ret (v := .agg #[.func (.func 141) #[] #[], .func (.func 142) #[] #[], .func (.func 143) #[] #[], .func (.func 144) #[] #[], .func (.func 141) #[] #[]]) (by simp [results, Try.results87, go_sem]) rfl ⟨rfl, by first | exact HB.out _ | exact (((((HB.out _).setCell (by simp) _).setCell (by simp) _).setCell (by simp) _).setCell (by simp) _).setCell (by simp) _⟩
theorem lockModes1 (b : Int) (w : World) : Calls Try.prog 141 #[.int .i64 b] w fun e w' => e = .returned (.bool false) ∧ w = w' := by
  go_enter Try.func141, Try.ntmps141
  go_wp2_with fail
  go_ret
  exact ⟨rfl, rfl⟩
theorem lockModes2 (b : Int) (w : World) (hb : modeB b = true) : Calls Try.prog 142 #[.int .i64 b] w fun e w' => e = .returned (.bool (fitB 1 b)) ∧ w = w' := by
  rcases modeB_cases hb with rfl | rfl | rfl | rfl <;>
    (clear hb
     go_enter Try.func142, Try.ntmps142
     go_wp2_with fail
     go_ret
     exact ⟨rfl, rfl⟩)
theorem lockModes3 (b : Int) (w : World) (hb : modeB b = true) : Calls Try.prog 143 #[.int .i64 b] w fun e w' => e = .returned (.bool (fitB 2 b)) ∧ w = w' := by
  rcases modeB_cases hb with rfl | rfl | rfl | rfl <;>
    (clear hb
     go_enter Try.func143, Try.ntmps143
     go_wp2_with fail
     go_ret
     exact ⟨rfl, rfl⟩)
theorem lockModes4 (b : Int) (w : World) (hb : modeB b = true) : Calls Try.prog 144 #[.int .i64 b] w fun e w' => e = .returned (.bool (fitB 3 b)) ∧ w = w' := by
  rcases modeB_cases hb with rfl | rfl | rfl | rfl <;>
    (clear hb
     go_enter Try.func144, Try.ntmps144
     go_wp2_with fail
     go_ret
     exact ⟨rfl, rfl⟩)
set_option maxHeartbeats 4000000 in
set_option maxRecDepth 100000 in
theorem impl_Fit (a b : Int) (w : World) :
    Calls Try.prog 31 #[.int .i64 a, .int .i64 b] w fun e w' => e = .returned (.bool (fitF a b)) ∧ Below w.heap.size w w' := by
  cases ha : modeB a
  · have HE : Hid (fitF a b = false) := by simp [Hid, fitF, ha]
    go_enter Try.func31, Try.ntmps31
    go_wp2_with (go_at_call 86; refine (impl_modeOk _ _).mono ?_; rintro e w' ⟨rfl, rfl⟩)
    go_ret
    exact ⟨ret_bool HE.out.symm, Below.refl _ _⟩
  · cases hb : modeB b
    · have HE : Hid (fitF a b = false) := by simp [Hid, fitF, hb]
      go_enter Try.func31, Try.ntmps31
      go_wp2_with (go_at_call 86; refine (impl_modeOk _ _).mono ?_; rintro e w' ⟨rfl, rfl⟩)
      go_ret
      exact ⟨ret_bool HE.out.symm, Below.refl _ _⟩
    · have HE : Hid (fitF a b = fitB a b) := by simp [Hid, fitF, ha, hb]
      have HBM := hid hb
      have h4 : fitB 4 b = false := by simp [fitB]
      have H4 := hid h4
      clear h4
      have ix1 : ∀ W, (Instr.index 110 (.agg #[.func (.func 141) #[] #[], .func (.func 142) #[] #[], .func (.func 143) #[] #[], .func (.func 144) #[] #[], .func (.func 141) #[] #[]]) (.int .i64 1)).run Try.prog W = .ok (.func (.func 142) #[] #[]) W := fun _ => by kernel_rfl
      have ix2 : ∀ W, (Instr.index 110 (.agg #[.func (.func 141) #[] #[], .func (.func 142) #[] #[], .func (.func 143) #[] #[], .func (.func 144) #[] #[], .func (.func 141) #[] #[]]) (.int .i64 2)).run Try.prog W = .ok (.func (.func 143) #[] #[]) W := fun _ => by kernel_rfl
      have ix3 : ∀ W, (Instr.index 110 (.agg #[.func (.func 141) #[] #[], .func (.func 142) #[] #[], .func (.func 143) #[] #[], .func (.func 144) #[] #[], .func (.func 141) #[] #[]]) (.int .i64 3)).run Try.prog W = .ok (.func (.func 144) #[] #[]) W := fun _ => by kernel_rfl
      have ix4 : ∀ W, (Instr.index 110 (.agg #[.func (.func 141) #[] #[], .func (.func 142) #[] #[], .func (.func 143) #[] #[], .func (.func 144) #[] #[], .func (.func 141) #[] #[]]) (.int .i64 4)).run Try.prog W = .ok (.func (.func 141) #[] #[]) W := fun _ => by kernel_rfl
      rcases modeB_cases ha with rfl | rfl | rfl | rfl <;>
        (clear ha
         go_enter Try.func31, Try.ntmps31
         go_wp2_with (first
           | (go_at_call 86; refine (impl_modeOk _ _).mono ?_; rintro e w' ⟨rfl, rfl⟩)
           | (go_at_call 87; refine (lockModes_any _).mono ?_; rintro e w1 ⟨rfl, hb1⟩; have HB1 := hid hb1; clear hb1)
           | (go_at_call 141; refine (lockModes1 _ _).mono ?_; rintro e w' ⟨rfl, rfl⟩)
           | (go_at_call 142; refine (lockModes2 _ _ HBM.out).mono ?_; rintro e w' ⟨rfl, rfl⟩)
           | (go_at_call 143; refine (lockModes3 _ _ HBM.out).mono ?_; rintro e w' ⟨rfl, rfl⟩)
           | (go_at_call 144; refine (lockModes4 _ _ HBM.out).mono ?_; rintro e w' ⟨rfl, rfl⟩))
         go_ret
         exact ⟨ret_bool (HE.out.trans (by first | rfl | exact H4.out)).symm, HB1.out⟩)
end Go.Proofs.Ytjdmaoegfpgfjaa
