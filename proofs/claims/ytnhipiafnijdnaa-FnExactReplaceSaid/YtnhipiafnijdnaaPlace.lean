/-
  The program's place: a binary search by keys.
-/
import Derived.Test.YtnhipiafnijdnaaRises
import Derived.Test.YtnhipiafnijdnaaPlain
namespace Go.Proofs.Ytnhipiafnijdnaa
open Go.RowKit

theorem le60 {n : Nat} (h : n ≤ 900) : n ≤ 100000 := by omega

def cmpS (a b : ByteArray) : Int := if ltS a b then -1 else if ltS b a then 1 else 0
theorem cmpS_lt {a b : ByteArray} (h : ltS a b = true) : cmpS a b = -1 := by simp [cmpS, h]
theorem cmpS_eq (a : ByteArray) : cmpS a a = 0 := by simp [cmpS, ltS_irrefl]
theorem cmpS_gt {a b : ByteArray} (h : ltS b a = true) : cmpS a b = 1 := by simp [cmpS, h, ltS_asymm h]
theorem cmpS_not {a b : ByteArray} (h : ltS a b = false) : cmpS a b = 0 ∨ cmpS a b = 1 := by
  by_cases e : a = b
  · subst e
    exact .inl (cmpS_eq _)
  · exact .inr (cmpS_gt (ltS_of_not h e))
theorem ret_int {k : IntKind} {a b : Int} (h : a = b) : Ending.returned (.int k a) = .returned (.int k b) := by rw [h]

theorem compare_any (a b : ByteArray) (w : World) :
    Calls Try.prog 144 #[.string a, .string b] w fun e w' => e = .returned (.int .i64 (cmpS a b)) ∧ w = w' := by
  rcases ltS_total a b with h | rfl | h
  · have h1 : Op.bytesLess a.toList b.toList = true := h
    have HE := hid (cmpS_lt h)
    clear h
    go_enter Try.func144, Try.ntmps144
    go_wp2
    go_ret
    exact ⟨ret_int HE.out.symm, rfl⟩
  · have h1 : Op.bytesLess a.toList a.toList = false := bytesLess_irrefl _
    have HE := hid (cmpS_eq a)
    go_enter Try.func144, Try.ntmps144
    go_wp2
    go_ret
    exact ⟨ret_int HE.out.symm, rfl⟩
  · have h1 : Op.bytesLess a.toList b.toList = false := ltS_asymm h
    have h2 : (a.toList == b.toList) = false := by
      rw [beq_eq_false_iff_ne]
      exact fun e => ltS_ne h (toList_inj e.symm)
    have HE := hid (cmpS_gt h)
    clear h
    go_enter Try.func144, Try.ntmps144
    go_wp2
    go_ret
    exact ⟨ret_int HE.out.symm, rfl⟩

theorem ret_2 {i i' : Int} {b b' : Bool} (h : i = i') (h' : b = b') : Ending.returned (.tuple #[.int .i64 i, .bool b]) = .returned (.tuple #[.int .i64 i', .bool b']) := by rw [h, h']

end Go.Proofs.Ytnhipiafnijdnaa
