/-
  Bits asked and taken away: plain facts. Imports nothing of the program.
-/
import Derived.Test.YtaiehccpefjbfaaPop
namespace Go.Proofs.Ytaiehccpefjbfaa

theorem bval_bit (g : Nat → Bool) : ∀ (n i : Nat), i < n → (bval n g).testBit i = g i := by
  intro n
  induction n with
  | zero => intro i h; omega
  | succ n ih =>
    intro i h
    have hlt := bval_lt n g
    rw [bval]
    cases hb : g n with
    | true =>
      rw [show bval n g + true.toNat * 2 ^ n = 2 ^ n + bval n g by simp; omega]
      by_cases e : i = n
      · subst e
        rw [Nat.testBit_two_pow_add_eq, Nat.testBit_lt_two_pow hlt, hb]
        rfl
      · rw [Nat.testBit_two_pow_add_gt (by omega), ih i (by omega)]
    | false =>
      rw [show bval n g + false.toNat * 2 ^ n = bval n g by simp]
      by_cases e : i = n
      · subst e
        rw [Nat.testBit_lt_two_pow hlt, hb]
      · exact ih i (by omega)
def hasF (f : Nat → Nat) (i : Nat) : Bool := (f (i / 64)).testBit (i % 64)
theorem and_bit (a k : Nat) : (a &&& 2 ^ k = 0) ↔ a.testBit k = false := by
  constructor
  · intro h
    have := congrArg (fun n => Nat.testBit n k) h
    simpa [Nat.testBit_and, Nat.testBit_two_pow] using this
  · intro h
    apply Nat.eq_of_testBit_eq
    intro j
    rw [Nat.testBit_and, Nat.testBit_two_pow, Nat.zero_testBit]
    by_cases e : k = j
    · subst e
      rw [h, Bool.false_and]
    · rw [decide_eq_false e, Bool.and_false]
theorem hasF_bwd (xs : List Bool) (n i : Nat) (h : i < n) : hasF (bwd xs n) i = xs.getD i false := by
  unfold hasF bwd
  rw [bval_bit _ 64 _ (Nat.mod_lt _ (by omega))]
  unfold bitF
  rw [show 64 * (i / 64) + i % 64 = i by omega, decide_eq_true h, Bool.true_and]
/-- The words without one bit. -/
def clrF (f : Nat → Nat) (i : Nat) : Nat → Nat := fun k => if k = i / 64 then f k &&& (18446744073709551615 - 2 ^ (i % 64)) else f k
theorem clrF_lt {f : Nat → Nat} (hf : ∀ k, f k < 18446744073709551616) (i k : Nat) : clrF f i k < 18446744073709551616 := by
  unfold clrF
  by_cases h : k = i / 64
  · rw [if_pos h]
    exact Nat.lt_of_le_of_lt Nat.and_le_left (hf k)
  · rw [if_neg h]
    exact hf k
theorem hasF_clr (f : Nat → Nat) (i k : Nat) : hasF (clrF f i) k = (hasF f k && !decide (k = i)) := by
  unfold hasF clrF
  have hp : 2 ^ (i % 64) < 2 ^ 64 := Nat.pow_lt_pow_right (by omega) (Nat.mod_lt _ (by omega))
  by_cases h : k / 64 = i / 64
  · rw [if_pos h, Nat.testBit_and, show 18446744073709551615 - 2 ^ (i % 64) = 2 ^ 64 - (2 ^ (i % 64) + 1) by omega, Nat.testBit_two_pow_sub_succ hp, decide_eq_true (Nat.mod_lt _ (by omega)), Bool.true_and, Nat.testBit_two_pow]
    by_cases e : k = i
    · subst e
      simp
    · rw [decide_eq_false (by omega), decide_eq_false e]
  · rw [if_neg h, decide_eq_false (by omega : ¬ k = i)]
    simp
/-- The list that n flags tell. -/
def flagsL (f : Nat → Nat) (n : Nat) : List Bool := (List.range n).map (hasF f)
theorem flagsL_length (f : Nat → Nat) (n : Nat) : (flagsL f n).length = n := by simp [flagsL]
theorem flagsL_get (f : Nat → Nat) (n k : Nat) (h : k < (flagsL f n).length) : (flagsL f n)[k] = hasF f k := by simp [flagsL]
theorem flags_clr (xs : List Bool) (i : Nat) : flagsL (clrF (bwd xs xs.length) i) xs.length = xs.set i false := by
  apply List.ext_getElem
  · simp [flagsL]
  · intro k h1 h2
    have hk : k < xs.length := by simpa [flagsL] using h1
    rw [flagsL_get, hasF_clr, hasF_bwd xs _ k hk, List.getElem_set, List.getD_eq_getElem?_getD, List.getElem?_eq_getElem hk, Option.getD_some]
    by_cases e : i = k
    · rw [if_pos e, decide_eq_true e.symm]
      simp
    · rw [if_neg e, decide_eq_false (fun h => e h.symm)]
      simp
end Go.Proofs.Ytaiehccpefjbfaa
