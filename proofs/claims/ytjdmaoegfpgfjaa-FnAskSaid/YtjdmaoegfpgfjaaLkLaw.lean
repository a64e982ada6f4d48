/-
  What the drawn laws of locks share.
-/
import Derived.Test.YtjdmaoegfpgfjaaDrawLk
import Derived.Test.YtjdmaoegfpgfjaaFreeI
import Derived.Test.YtjdmaoegfpgfjaaSameLocks
import Derived.Test.YtjdmaoegfpgfjaaBytesArg
namespace Go.Proofs.Ytjdmaoegfpgfjaa
open Go.RowKit

theorem bigK_any (A : Option Addr) (n c : Nat) (w : World) :
    Calls Try.prog 21 #[.slice A n c] w fun e w' => e = .returned (.bool (decide ((1048576 : Int) < (n : Int)))) ∧ w = w' := by
  go_enter Try.func21, Try.ntmps21
  go_wp2_with fail
  go_ret
  exact ⟨rfl, rfl⟩

def noInt (xs : List Int) (t : Int) (k : Nat) : Prop := ∀ (i : Nat) (h : i < xs.length), i < k → xs[i] ≠ t
theorem noInt_succ {xs : List Int} {t : Int} {k : Nat} (h : noInt xs t k) (hk : k < xs.length) (h1 : xs[k] ≠ t) : noInt xs t (k + 1) := by
  intro i hi hlt
  by_cases e : i = k
  · subst e; exact h1
  · exact h i hi (by omega)
theorem noInt_end {xs : List Int} {t : Int} (h : noInt xs t xs.length) : decide (t ∈ xs) = false := by
  rw [decide_eq_false_iff_not]
  intro hm
  obtain ⟨i, hi, e⟩ := List.getElem_of_mem hm
  exact h i hi hi e

set_option maxHeartbeats 1000000 in
theorem hasL_any (A : Option Addr) (c : Nat) (xs : List Int) (t : Int) (B : Nat) (w : World) (hr : RI w B A xs) (hn : xs.length ≤ maxLen) :
    Calls Try.prog 32 #[.slice A xs.length c, .int .i64 t] w fun e w' => e = .returned (.bool (decide (t ∈ xs))) ∧ Drawn w w' := by
  unfold maxLen at hn
  have HR := hid hr
  clear hr
  go_enter Try.func32, Try.ntmps32
  go_wp2_with fail
  go_loopw [5] (fun i wr => ∃ k : Nat, k ≤ xs.length ∧ i = .int .i64 (k : Int) ∧ Hid (noInt xs t k) ∧ Drawn w wr) (fun i _ => xs.length - (intOf i).toNat)
  case atStart => exact ⟨0, Nat.zero_le _, rfl, fun i hi h => absurd h (by omega), Drawn.refl w⟩
  case round =>
    obtain ⟨k, hk, rfl, HNO, hdr⟩ := hrel
    have HD := hid hdr
    by_cases hlt : k < xs.length
    · obtain ⟨b, off, rfl, hb, hc1⟩ := (HR.out.below (hdr.below _)).at_ hlt
      have e5 : (0 : Int) ≤ (k : Int) := by omega
      have e6 : (k : Int) < (xs.length : Int) := by omega
      clear hdr
      by_cases he : xs[k] = t
      · have HE : Hid (decide (t ∈ xs) = true) := by rw [Hid, decide_eq_true_eq, ← he]; exact List.getElem_mem hlt
        have g1 := eqI_true he
        clear he
        go_wp2_with fail
        go_ret
        exact ⟨ret_bool HE.out.symm, HD.out⟩
      · have HX := hid (noInt_succ HNO.out hlt he)
        have g1 := eqI_false he
        clear he
        go_wp2_with fail
        go_roundw
        case rel => exact ⟨k + 1, by omega, by go_num, HX.out, HD.out⟩
        case measure => simp [intOf]; omega
    · obtain rfl : k = xs.length := by omega
      have HE := hid (noInt_end HNO.out)
      clear hdr
      go_wp2_with fail
      go_ret
      exact ⟨ret_bool HE.out.symm, HD.out⟩

theorem keeps_fitF (y x : HD) : keepsB y x = (decide (y.2.1 = x.2.1) && (!decide (y.1 = x.1) && !fitF x.2.2 y.2.2)) := by rw [keepsB, fitF_symm]
theorem any_take_succ {α : Type} {l : List α} {k : Nat} (hk : k < l.length) (p : α → Bool) : (l.take (k + 1)).any p = ((l.take k).any p || p l[k]) := by
  rw [List.take_succ_eq_append_getElem hk, List.any_append]
  simp
end Go.Proofs.Ytjdmaoegfpgfjaa
