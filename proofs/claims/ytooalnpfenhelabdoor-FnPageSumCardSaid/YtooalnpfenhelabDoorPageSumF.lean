/-
  A text that ends with a sum: plain facts. Imports nothing of the program.
-/
import Derived.Lib.ItoaNum
namespace Go.Proofs.YtooalnpfenhelabDoor

/-- What digits are worth. -/
def valD (l : List UInt8) : Nat := l.foldl (fun n c => 10 * n + (c.toNat - 48)) 0
theorem valD_snoc (l : List UInt8) (c : UInt8) : valD (l ++ [c]) = 10 * valD l + (c.toNat - 48) := by simp [valD, List.foldl_append]
theorem dig_toNat {i : Nat} (h : i < 10) : (UInt8.ofNat (48 + i)).toNat = 48 + i := by
  rw [UInt8.toNat_ofNat']
  omega
theorem valD_dec : ∀ n : Nat, valD (Lib.decDigits n) = n := by
  intro n
  induction n using Nat.strongRecOn with
  | ind n ih =>
    rw [Lib.decDigits]
    split
    · rename_i h
      simp only [valD, List.foldl_cons, List.foldl_nil, dig_toNat h]
      omega
    · rename_i h
      rw [valD_snoc, ih (n / 10) (by omega), dig_toNat (by omega)]
      omega
theorem dec_dig : ∀ (n : Nat) (c : UInt8), c ∈ Lib.decDigits n → 48 ≤ c.toNat ∧ c.toNat ≤ 57 := by
  intro n
  induction n using Nat.strongRecOn with
  | ind n ih =>
    intro c hc
    rw [Lib.decDigits] at hc
    split at hc
    · rename_i h
      rw [List.mem_singleton] at hc
      rw [hc, dig_toNat h]
      omega
    · rename_i h
      rcases List.mem_append.1 hc with hc | hc
      · exact ih (n / 10) (by omega) c hc
      · rw [List.mem_singleton] at hc
        rw [hc, dig_toNat (by omega)]
        omega
theorem valD_take_succ {l : List UInt8} {k : Nat} (h : k < l.length) : valD (l.take (k + 1)) = 10 * valD (l.take k) + (l[k].toNat - 48) := by
  rw [List.take_succ_eq_append_getElem h, valD_snoc]
theorem valD_le {l : List UInt8} (hl : ∀ c ∈ l, c.toNat ≤ 57) : valD l < 10 ^ l.length := by
  have : ∀ (l : List UInt8) (a : Nat), (∀ c ∈ l, c.toNat ≤ 57) → l.foldl (fun n c => 10 * n + (c.toNat - 48)) a < (a + 1) * 10 ^ l.length := by
    intro l
    induction l with
    | nil => intro a _; simp
    | cons c r ih =>
      intro a h
      have h1 := h c (by simp)
      have h2 := ih (10 * a + (c.toNat - 48)) (fun d hd => h d (by simp [hd]))
      simp only [List.foldl_cons, List.length_cons, Nat.pow_succ]
      refine Nat.lt_of_lt_of_le h2 ?_
      have : 10 * a + (c.toNat - 48) + 1 ≤ (a + 1) * 10 := by omega
      calc (10 * a + (c.toNat - 48) + 1) * 10 ^ r.length ≤ ((a + 1) * 10) * 10 ^ r.length := Nat.mul_le_mul_right _ this
        _ = (a + 1) * (10 ^ r.length * 10) := by rw [Nat.mul_assoc, Nat.mul_comm 10]
  have := this l 0 hl
  simpa [valD] using this

theorem valD_app (l r : List UInt8) : valD l ≤ valD (l ++ r) := by
  induction r generalizing l with
  | nil => simp
  | cons c r ih =>
    have h1 := ih (l ++ [c])
    rw [valD_snoc] at h1
    rw [show l ++ c :: r = (l ++ [c]) ++ r by simp]
    omega
theorem valD_take (l : List UInt8) (k : Nat) : valD (l.take k) ≤ valD l := by
  have := valD_app (l.take k) (l.drop k)
  rwa [List.take_append_drop] at this
/-- A text, a blank and digits behind it. -/
def tailT (b : ByteArray) (l : List UInt8) : ByteArray := b ++ ⟨#[32]⟩ ++ ⟨l.toArray⟩
theorem tailT_size (b : ByteArray) (l : List UInt8) : (tailT b l).size = b.size + 1 + l.length := by
  simp only [tailT, ByteArray.size_append]
  rfl
theorem tailT_list (b : ByteArray) (l : List UInt8) : (tailT b l).data.toList = b.data.toList ++ (32 :: l) := by
  simp [tailT, ByteArray.data_append]
theorem tailT_get {b : ByteArray} {l : List UInt8} {i : Nat} (h : i < (tailT b l).size) : (tailT b l)[i] = (b.data.toList ++ (32 :: l))[i]'(by rw [← tailT_list]; simpa using h) := by
  have : (tailT b l)[i] = (tailT b l).data.toList[i]'(by simpa using h) := by
    rw [Array.getElem_toList]
    rfl
  rw [this]
  simp only [tailT_list]
theorem tailT_blank {b : ByteArray} {l : List UInt8} (h : b.size < (tailT b l).size) : (tailT b l)[b.size] = 32 := by
  rw [tailT_get h, List.getElem_append_right (by simp)]
  simp
theorem tailT_dig {b : ByteArray} {l : List UInt8} {j : Nat} (hj : j < l.length) (h : b.size + 1 + j < (tailT b l).size) : (tailT b l)[b.size + 1 + j] = l[j] := by
  rw [tailT_get h, List.getElem_append_right (by simp; omega)]
  have : b.size + 1 + j - b.data.toList.length = j + 1 := by simp; omega
  simp only [this, List.getElem_cons_succ]
theorem tailT_head (b : ByteArray) (l : List UInt8) : (tailT b l).extract 0 b.size = b := by
  have h : ((tailT b l).extract 0 b.size).data.toList = b.data.toList := by
    have hb : b.data.toList.length = b.size := by rw [Array.length_toList]; rfl
    simp [tailT, ByteArray.data_append]
    exact List.take_of_length_le (by omega)
  have h2 : ((tailT b l).extract 0 b.size).data = b.data := Array.toList_inj.1 h
  cases b
  cases hh : (tailT _ l).extract 0 _
  rw [hh] at h2
  simpa using h2
end Go.Proofs.YtooalnpfenhelabDoor
