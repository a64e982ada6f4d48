/-
  The program's place: a binary search by keys.
-/
import Derived.Test.YtaiehccpefjbfabRises
import Derived.Test.YtaiehccpefjbfabPlain
namespace Go.Proofs.Ytaiehccpefjbfab
open Go.RowKit

theorem le60 {n : Nat} (h : n ≤ 900) : n ≤ 100000 := by omega

def cmpS (a b : ByteArray) : Int := if ltS a b then -1 else if ltS b a then 1 else 0
theorem cmpS_lt {a b : ByteArray} (h : ltS a b = true) : cmpS a b = -1 := by simp [cmpS, h]
theorem cmpS_eq (a : ByteArray) : cmpS a a = 0 := by simp [cmpS, ltS_irrefl]
theorem cmpS_gt {a b : ByteArray} (h : ltS b a = true) : cmpS a b = 1 := by simp [cmpS, h, ltS_asymm h]
theorem cmpS_not {a b : ByteArray} (h : ltS a b = false) : cmpS a b = 0 ∨ cmpS a b = 1 := by
  by_cases e : a = b
  · subst e
    exact .inl (cmpS_eq _)
  · exact .inr (cmpS_gt (ltS_of_not h e))
theorem ret_int {k : IntKind} {a b : Int} (h : a = b) : Ending.returned (.int k a) = .returned (.int k b) := by rw [h]

theorem ret_2 {i i' : Int} {b b' : Bool} (h : i = i') (h' : b = b') : Ending.returned (.tuple #[.int .i64 i, .bool b]) = .returned (.tuple #[.int .i64 i', .bool b']) := by rw [h, h']

end Go.Proofs.Ytaiehccpefjbfab
