/-
  A sum bit by bit, and four bits at a time. Plain facts.
-/
import Derived.Test.YtooalnpfenhelabDoorPlain
namespace Go.Proofs.YtooalnpfenhelabDoor
open Go.RowKit

def crcP : Nat := 3988292384
/-- What one bit does. -/
def cstep (x : Nat) : Nat := if x % 2 = 1 then (x / 2) ^^^ crcP else x / 2
def csteps : Nat → Nat → Nat
  | 0, x => x
  | n + 1, x => cstep (csteps n x)
/-- The sum behind some bytes. -/
def crcL (c : Nat) : List UInt8 → Nat
  | [] => c
  | b :: r => crcL (csteps 8 (c ^^^ b.toNat)) r
def crcB (s : ByteArray) : Nat := crcL 4294967295 s.data.toList ^^^ 4294967295
/-- What SumOf answers. -/
def sumV (s : ByteArray) : Int := if 10000 < s.size then -1 else (crcB s : Int)

theorem cstep_lt {x : Nat} (h : x < 4294967296) : cstep x < 4294967296 := by
  unfold cstep
  split
  · exact Nat.xor_lt_two_pow (n := 32) (by omega) (by decide)
  · omega
theorem csteps_lt {x : Nat} (h : x < 4294967296) : ∀ n, csteps n x < 4294967296
  | 0 => h
  | n + 1 => cstep_lt (csteps_lt h n)
theorem cstep_odd {x : Nat} (h : x % 2 = 1) : cstep x = (x / 2) ^^^ crcP := by simp [cstep, h]
theorem cstep_even {x : Nat} (h : ¬ x % 2 = 1) : cstep x = x / 2 := by simp [cstep, h]
theorem xor_div2 (a b : Nat) : (a ^^^ b) / 2 = a / 2 ^^^ b / 2 := by
  have := Nat.shiftRight_xor_distrib (a := a) (b := b) (i := 1)
  simpa [Nat.shiftRight_eq_div_pow] using this
theorem xor_mod2 (a b : Nat) : (a ^^^ b) % 2 = (a + b) % 2 := by
  have h := Nat.xor_mod_two_pow (a := a) (b := b) (n := 1)
  simp only [Nat.pow_one] at h
  rw [h]
  rcases Nat.mod_two_eq_zero_or_one a with ha | ha <;> rcases Nat.mod_two_eq_zero_or_one b with hb | hb <;> rw [ha, hb] <;> simp [Nat.add_mod, ha, hb]
theorem cstep_xor (a b : Nat) : cstep (a ^^^ b) = cstep a ^^^ cstep b := by
  have hm := xor_mod2 a b
  have hd := xor_div2 a b
  by_cases ha : a % 2 = 1 <;> by_cases hb : b % 2 = 1
  · rw [cstep_even (by omega), cstep_odd ha, cstep_odd hb, hd]
    rw [Nat.xor_assoc, Nat.xor_comm crcP, Nat.xor_assoc, Nat.xor_self, Nat.xor_zero]
  · rw [cstep_odd (by omega), cstep_odd ha, cstep_even hb, hd]
    rw [Nat.xor_assoc, Nat.xor_assoc, Nat.xor_comm crcP]
  · rw [cstep_odd (by omega), cstep_even ha, cstep_odd hb, hd, Nat.xor_assoc]
  · rw [cstep_even (by omega), cstep_even ha, cstep_even hb, hd]
theorem csteps_xor (a b : Nat) : ∀ n, csteps n (a ^^^ b) = csteps n a ^^^ csteps n b
  | 0 => rfl
  | n + 1 => by rw [csteps, csteps_xor a b n, cstep_xor]; rfl
theorem csteps_add (x n : Nat) : ∀ m, csteps (n + m) x = csteps m (csteps n x)
  | 0 => rfl
  | m + 1 => by rw [← Nat.add_assoc, csteps, csteps_add x n m]; rfl
theorem split16 (x : Nat) : x = (16 * (x / 16)) ^^^ (x % 16) := by
  apply Nat.eq_of_testBit_eq
  intro j
  have h1 := Nat.testBit_two_pow_mul_add (x / 16) (i := 4) (b := x % 16) (by omega) j
  have h2 := Nat.testBit_two_pow_mul_add (x / 16) (i := 4) (b := 0) (by omega) j
  have e : 2 ^ 4 * (x / 16) + x % 16 = x := by omega
  have hb : 4 ≤ j → (x % 16).testBit j = false := fun hj => Nat.testBit_lt_two_pow (Nat.lt_of_lt_of_le (by omega : x % 16 < 2 ^ 4) (Nat.pow_le_pow_right (by omega) hj))
  rw [e] at h1
  simp only [Nat.add_zero] at h2
  rw [Nat.testBit_xor, h1]
  show _ = ((2 ^ 4 * (x / 16)).testBit j ^^ _)
  rw [h2]
  split
  · simp
  · rw [hb (by omega)]; simp
theorem cstep_two (z : Nat) : cstep (2 * z) = z := by rw [cstep_even (by omega)]; omega
theorem csteps_high (y : Nat) : csteps 4 (16 * y) = y := by
  show cstep (cstep (cstep (cstep (16 * y)))) = y
  rw [show 16 * y = 2 * (2 * (2 * (2 * y))) by omega, cstep_two, cstep_two, cstep_two, cstep_two]
theorem nibble (x : Nat) : csteps 4 x = (x / 16) ^^^ csteps 4 (x % 16) := by
  conv => lhs; rw [split16 x, csteps_xor, csteps_high]
theorem csteps8 (x : Nat) : csteps 8 x = csteps 4 (csteps 4 x) := csteps_add x 4 4
theorem crcL_snoc (l : List UInt8) (b : UInt8) : ∀ c, crcL c (l ++ [b]) = csteps 8 (crcL c l ^^^ b.toNat) := by
  induction l with
  | nil => intro _; rfl
  | cons a r ih => intro _; exact ih _
theorem u8_lt (b : UInt8) : b.toNat < 4294967296 := by have := b.toNat_lt; omega
theorem xor_lt32 {a b : Nat} (ha : a < 4294967296) (hb : b < 4294967296) : a ^^^ b < 4294967296 := Nat.xor_lt_two_pow (n := 32) ha hb
theorem crcL_lt : ∀ (l : List UInt8) {c : Nat}, c < 4294967296 → crcL c l < 4294967296
  | [], _, h => h
  | b :: r, _, h => crcL_lt r (csteps_lt (xor_lt32 h (u8_lt b)) 8)
/-- The sum behind the first k bytes. -/
def crcAt (s : ByteArray) (k : Nat) : Nat := crcL 4294967295 (s.data.toList.take k)
theorem crcAt_lt (s : ByteArray) (k : Nat) : crcAt s k < 4294967296 := crcL_lt _ (by omega)
theorem crcAt_zero (s : ByteArray) : crcAt s 0 = 4294967295 := rfl
theorem crcAt_succ {s : ByteArray} {k : Nat} (h : k < s.size) : crcAt s (k + 1) = csteps 8 (crcAt s k ^^^ s[k].toNat) := by
  have hl : k < s.data.toList.length := by simpa using h
  rw [crcAt, List.take_succ_eq_append_getElem hl, crcL_snoc]
  rfl
theorem crcAt_end (s : ByteArray) : crcB s = crcAt s s.size ^^^ 4294967295 := by
  have : s.data.toList.take s.size = s.data.toList := List.take_of_length_le (by simp)
  rw [crcB, crcAt, this]
theorem crcB_lt (s : ByteArray) : crcB s < 4294967296 := xor_lt32 (crcL_lt _ (by omega)) (by omega)
theorem xor_ones {x : Nat} (h : x < 4294967296) : x ^^^ 4294967295 = 4294967295 - x := by
  apply Nat.eq_of_testBit_eq
  intro j
  have h1 := Nat.testBit_two_pow_sub_succ (n := 32) h j
  have h2 := Nat.testBit_two_pow_sub_one 32 j
  have e : 2 ^ 32 - (x + 1) = 4294967295 - x := by omega
  rw [e] at h1
  have e2 : 2 ^ 32 - 1 = 4294967295 := by omega
  rw [e2] at h2
  rw [Nat.testBit_xor, h1, h2]
  by_cases hj : j < 32
  · simp [hj]
  · have : x.testBit j = false := Nat.testBit_lt_two_pow (Nat.lt_of_lt_of_le (by omega : x < 2 ^ 32) (Nat.pow_le_pow_right (by omega) (by omega)))
    simp [hj, this]
theorem and_15 (x : Nat) : x &&& 15 = x % 16 := Nat.and_two_pow_sub_one_eq_mod x 4
theorem and_1 (x : Nat) : x &&& 1 = x % 2 := Nat.and_two_pow_sub_one_eq_mod x 1
end Go.Proofs.YtooalnpfenhelabDoor
