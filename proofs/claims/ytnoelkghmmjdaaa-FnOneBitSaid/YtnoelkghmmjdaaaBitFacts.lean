/-
  A byte that is another one gives another sum. Plain facts.
-/
import Derived.Test.YtnoelkghmmjdaaaCrc
namespace Go.Proofs.Ytnoelkghmmjdaaa
open Go.RowKit

theorem cstep_zero {x : Nat} (h : x < 4294967296) (e : cstep x = 0) : x = 0 := by
  by_cases ho : x % 2 = 1
  · rw [cstep_odd ho] at e
    have e2 : x / 2 = crcP := by
      have := congrArg (· ^^^ crcP) e
      simpa [Nat.xor_assoc, Nat.xor_self] using this
    unfold crcP at e2
    omega
  · rw [cstep_even ho] at e
    omega
theorem xor_zero_eq {a b : Nat} (h : a ^^^ b = 0) : a = b := by
  have := congrArg (· ^^^ b) h
  simpa [Nat.xor_assoc, Nat.xor_self] using this
theorem cstep_inj {a b : Nat} (ha : a < 4294967296) (hb : b < 4294967296) (e : cstep a = cstep b) : a = b := by
  have h : cstep (a ^^^ b) = 0 := by rw [cstep_xor, e, Nat.xor_self]
  exact xor_zero_eq (cstep_zero (xor_lt32 ha hb) h)
theorem csteps_inj {a b : Nat} (ha : a < 4294967296) (hb : b < 4294967296) : ∀ n, csteps n a = csteps n b → a = b
  | 0, e => e
  | n + 1, e => csteps_inj ha hb n (cstep_inj (csteps_lt ha n) (csteps_lt hb n) e)
theorem xor_left_inj {a b c : Nat} (h : c ^^^ a = c ^^^ b) : a = b := by
  have := congrArg (c ^^^ ·) h
  simpa [← Nat.xor_assoc, Nat.xor_self] using this
theorem crcL_inj : ∀ (l : List UInt8) {c c' : Nat}, c < 4294967296 → c' < 4294967296 → crcL c l = crcL c' l → c = c'
  | [], _, _, _, _, e => e
  | b :: r, _, _, h, h', e => by
    have h1 := csteps_inj (xor_lt32 h (u8_lt b)) (xor_lt32 h' (u8_lt b)) 8 (crcL_inj r (csteps_lt (xor_lt32 h (u8_lt b)) 8) (csteps_lt (xor_lt32 h' (u8_lt b)) 8) e)
    rw [Nat.xor_comm _ b.toNat, Nat.xor_comm _ b.toNat] at h1
    exact xor_left_inj h1
theorem crcL_set : ∀ (l : List UInt8) (i : Nat) (h : i < l.length) (b : UInt8) {c : Nat}, c < 4294967296 → b ≠ l[i] → crcL c (l.set i b) ≠ crcL c l
  | [], _, h, _, _, _, _ => absurd h (by simp)
  | a :: r, 0, _, b, c, hc, hne => by
    intro e
    have h1 := csteps_inj (xor_lt32 hc (u8_lt b)) (xor_lt32 hc (u8_lt a)) 8 (crcL_inj r (csteps_lt (xor_lt32 hc (u8_lt b)) 8) (csteps_lt (xor_lt32 hc (u8_lt a)) 8) e)
    exact hne (UInt8.toNat_inj.1 (xor_left_inj h1))
  | a :: r, i + 1, h, b, c, hc, hne => crcL_set r i (by simpa using h) b (csteps_lt (xor_lt32 hc (u8_lt a)) 8) (by simpa using hne)

/-- The text with another byte at a place. -/
def setB (s : ByteArray) (i : Nat) (b : UInt8) : ByteArray := ⟨(s.data.toList.set i b).toArray⟩
theorem setB_size (s : ByteArray) (i : Nat) (b : UInt8) : (setB s i b).size = s.size := by
  show (s.data.toList.set i b).toArray.size = s.data.size
  simp
theorem sum_set {s : ByteArray} {i : Nat} (hi : i < s.size) (h40 : s.size ≤ 40) {b : UInt8} (hne : b ≠ s[i]) : sumV (setB s i b) ≠ sumV s := by
  have hl : i < s.data.toList.length := by simpa using hi
  have h1 := crcL_set s.data.toList i hl b (c := 4294967295) (by omega) hne
  intro e
  simp only [sumV, setB_size, if_neg (show ¬ 10000 < s.size by omega)] at e
  have e2 : crcB (setB s i b) = crcB s := by omega
  unfold crcB at e2
  rw [Nat.xor_comm _ 4294967295, Nat.xor_comm _ 4294967295] at e2
  have e3 := xor_left_inj e2
  exact h1 (by simpa [setB] using e3)
theorem sumV_low {s : ByteArray} (h40 : s.size ≤ 40) : 0 ≤ sumV s ∧ sumV s < 4294967296 := by
  have := crcB_lt s
  simp only [sumV, if_neg (show ¬ 10000 < s.size by omega)]
  omega
/-- A byte of which one bit is turned. -/
def flipU (b : UInt8) (r : Nat) : UInt8 := UInt8.ofNat (b.toNat ^^^ 2 ^ r)
theorem flip_lt (b : UInt8) {r : Nat} (hr : r < 8) : b.toNat ^^^ 2 ^ r < 256 := Nat.xor_lt_two_pow (n := 8) b.toNat_lt (Nat.pow_lt_pow_right (by omega) hr)
theorem flip_nat (b : UInt8) {r : Nat} (hr : r < 8) : (flipU b r).toNat = b.toNat ^^^ 2 ^ r := by
  unfold flipU
  rw [UInt8.toNat_ofNat']
  exact Nat.mod_eq_of_lt (flip_lt b hr)
theorem flip_ne (b : UInt8) {r : Nat} (hr : r < 8) : flipU b r ≠ b := by
  intro e
  have h := flip_nat b hr
  rw [e] at h
  have h2 : b.toNat ^^^ 0 = b.toNat ^^^ 2 ^ r := by rw [Nat.xor_zero]; exact h
  have := xor_left_inj h2
  have := Nat.pow_pos (n := r) (show 0 < 2 by omega)
  omega
end Go.Proofs.Ytnoelkghmmjdaaa
