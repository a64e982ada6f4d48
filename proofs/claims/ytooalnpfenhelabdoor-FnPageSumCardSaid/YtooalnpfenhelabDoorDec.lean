/-
  Numbers in decimal: the model's l1Dec.
-/
import Derived.Test.YtooalnpfenhelabDoorRises
import Derived.Laws.BytesString
import Derived.Lib.ItoaLen
import Derived.Lib.ItoaMem
namespace Go.Proofs.YtooalnpfenhelabDoor
open Go.RowKit

theorem conv_digit (W : World) (d : Int) :
    (convert 22 9 (.slice (some ⟨W.heap.size, 0, none⟩) 1 1)).run Tryd.prog (W.alloc (.cells #[.int .u8 d] 5)) = .ok (.string ⟨#[UInt8.ofNat d.toNat]⟩) (W.alloc (.cells #[.int .u8 d] 5)) := by
  rw [run_convert_bytes_string _ _ _ 5 _ _ _ Tryd.underlying22 Tryd.underlying5 Tryd.underlying9]
  have hb : (W.alloc (.cells #[.int .u8 d] 5)).heap[W.heap.size]? = some (.cells #[.int .u8 d] 5 (0, 0)) := heap_alloc_new W _
  have hf := run_firstCells_some (P := Tryd.prog) (W.alloc (.cells #[.int .u8 d] 5)) 1 1 ⟨W.heap.size, 0, none⟩ 1 1 [.int .u8 d] rfl (fun j u hj => by
    rw [Addr.add_lit, cell_of_row _ _ _ _ _ _ hb]
    cases j with
    | zero => simpa using hj
    | succ j => simp at hj)
  have hl : (loadCells ⟨W.heap.size, 0, none⟩ 1).run Tryd.prog (W.alloc (.cells #[.int .u8 d] 5)) = .ok ([d].map (Value.int .u8)).toArray (W.alloc (.cells #[.int .u8 d] 5)) := hf
  rw [run_bytesToString _ _ _ _ [d] hl]
  rfl

/-- A number in decimal. -/
def decB (n : Nat) : ByteArray := ⟨(Lib.decDigits n).toArray⟩
/-- The digits, none of 0. -/
def dig0 (n : Nat) : List UInt8 := if n = 0 then [] else Lib.decDigits n
theorem dig0_step (n : Nat) : dig0 (n / 10) ++ [48 + UInt8.ofNat (n % 10)] = Lib.decDigits n := by
  have hc : (48 : UInt8) + UInt8.ofNat (n % 10) = UInt8.ofNat (48 + n % 10) := by
    rw [UInt8.ofNat_add]
    rfl
  rw [hc]
  by_cases h : n < 10
  · rw [dig0, if_pos (by omega), Lib.decDigits, dif_pos h, Nat.mod_eq_of_lt h]
    rfl
  · rw [dig0, if_neg (by omega)]
    conv => rhs; rw [Lib.decDigits, dif_neg h]
theorem dec_len {n : Nat} (h : n ≤ 1000000000000) : (Lib.decDigits n).length ≤ 21 := by
  have := Lib.itoa_length_le (n : Int) (by omega) (by omega)
  rwa [Lib.itoa_nonneg] at this
theorem dec_pos (n : Nat) : 1 ≤ (Lib.decDigits n).length := by rw [Lib.decDigits_length]; exact Lib.nDigits_pos n
theorem decB_size {n : Nat} (h : n ≤ 1000000000000) : (decB n).size ≤ 21 := by
  show (Lib.decDigits n).toArray.size ≤ 21
  simpa using dec_len h
theorem app_list' (a b : ByteArray) : (a ++ b).data.toList = a.data.toList ++ b.data.toList := by
  rw [ByteArray.data_append, Array.toList_append]
theorem some_isEmpty {s : ByteArray} (h : 0 < s.size) : s.toList.isEmpty = false := by
  rw [ByteArray.toList_eq, List.isEmpty_eq_false_iff]
  intro e
  have := congrArg List.length e
  have hs : s.data.toList.length = s.size := by simp
  rw [hs, List.length_nil] at this
  omega

/-- What is left to be written, and what is written. -/
def DecInv (n j : Nat) (s : ByteArray) : Prop := 0 < s.size ∧ dig0 j ++ s.data.toList = Lib.decDigits n
theorem decInv_first (n : Nat) : DecInv n (n / 10) (⟨#[48 + UInt8.ofNat (n % 10)]⟩ ++ ⟨#[]⟩) := by
  refine ⟨by simp only [ByteArray.size_append]; show 0 < 1 + 0; omega, ?_⟩
  rw [app_list']
  exact dig0_step n
theorem decInv_next {n j : Nat} {s : ByteArray} (h : DecInv n j s) (hj : j ≠ 0) : DecInv n (j / 10) (⟨#[48 + UInt8.ofNat (j % 10)]⟩ ++ s) := by
  refine ⟨by have := h.1; simp only [ByteArray.size_append]; omega, ?_⟩
  have h2 := h.2
  rw [dig0, if_neg hj, ← dig0_step j] at h2
  rw [app_list', ← h2, List.append_assoc]
theorem decInv_end {n : Nat} {s : ByteArray} (h : DecInv n 0 s) : s = decB n := by
  have h2 := h.2
  rw [dig0, if_pos rfl, List.nil_append] at h2
  unfold decB
  rw [← h2]
theorem decInv_size {n j : Nat} {s : ByteArray} (h : DecInv n j s) (hn : n ≤ 1000000000000) : s.size ≤ 21 := by
  have h2 := congrArg List.length h.2
  have h3 := dec_len hn
  rw [List.length_append] at h2
  have : s.data.toList.length = s.size := by simp
  omega
theorem ret_txt {a b : ByteArray} (h : a = b) : Ending.returned (.string a) = .returned (.string b) := by rw [h]
theorem neInt_true {x y : Int} (h : x ≠ y) : (x != y) = true := by simp [h]
theorem neInt_false {x y : Int} (h : x = y) : (x != y) = false := by simp [h]

set_option maxHeartbeats 1000000 in
theorem spec_l1Dec (n : Nat) (w : World) (hn : n ≤ 1000000000000) :
    Calls Tryd.prog 54 #[.int .i64 (n : Int)] w fun e w' => e = .returned (.string (decB n)) ∧ Below w.heap.size w w' := by
  have hconv := conv_digit
  have h0 : ¬ (n : Int) < 0 := by omega
  go_enter Tryd.func54, Tryd.ntmps54
  go_wp2_with fail
  go_loopw [0, 4] (fun q o wr => ∃ (j : Nat) (s : ByteArray), q = .int .i64 j ∧ o = .string s ∧ j ≤ n ∧ ((s = ⟨#[]⟩ ∧ j = n) ∨ DecInv n j s) ∧ Below w.heap.size w wr) (fun q o _ => (intOf q).toNat + (match o with | .string s => if s.size = 0 then 1 else 0 | _ => 0))
  case atStart => exact ⟨n, ⟨#[]⟩, rfl, rfl, Nat.le_refl _, .inl ⟨rfl, rfl⟩, Below.refl _ w⟩
  case round =>
    obtain ⟨j, s, rfl, rfl, hj, hinv, hbw⟩ := hrel
    have HD := hid hbw
    clear hbw
    have hd : (48 + (j : Int) % 10).toNat = 48 + j % 10 := by omega
    rcases hinv with ⟨rfl, rfl⟩ | hinv
    · have HI := hid (decInv_first j)
      go_wp2_with fail
      refine ⟨⟨j / 10, _, by go_num, rfl, by omega, .inr HI.out, HD.out.alloc HD.out.size _⟩, ?_⟩
      show (intOf (.int .i64 ((j : Int) / 10))).toNat + (if ((⟨#[48 + UInt8.ofNat (j % 10)]⟩ : ByteArray) ++ ⟨#[]⟩).size = 0 then 1 else 0) < (intOf (.int .i64 (j : Int))).toNat + (if (⟨#[]⟩ : ByteArray).size = 0 then 1 else 0)
      rw [if_neg (by have := HI.out.1; omega), if_pos (show (⟨#[]⟩ : ByteArray).size = 0 from rfl)]
      simp only [intOf]
      omega
    · have HI := hid (@decInv_next n j s hinv)
      have HE := hid (@decInv_end n s)
      have hsz := decInv_size hinv hn
      have g0 := some_isEmpty hinv.1
      have HV := hid hinv
      clear hinv
      by_cases hz : j = 0
      · subst hz
        go_wp2_with fail
        go_ret
        exact ⟨ret_txt (HE.out HV.out), HD.out⟩
      · have g1 : ((j : Int) != 0) = true := neInt_true (by omega)
        go_wp2_with fail
        refine ⟨⟨j / 10, _, by go_num, rfl, by omega, .inr (HI.out hz), HD.out.alloc HD.out.size _⟩, ?_⟩
        show (intOf (.int .i64 ((j : Int) / 10))).toNat + (if ((⟨#[48 + UInt8.ofNat (j % 10)]⟩ : ByteArray) ++ s).size = 0 then 1 else 0) < (intOf (.int .i64 (j : Int))).toNat + (if s.size = 0 then 1 else 0)
        rw [if_neg (by have := (HI.out hz).1; omega), if_neg (by have := HV.out.1; omega)]
        simp only [intOf]
        omega
end Go.Proofs.YtooalnpfenhelabDoor
