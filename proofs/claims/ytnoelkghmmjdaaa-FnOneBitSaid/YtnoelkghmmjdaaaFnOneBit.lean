/-
  FnOneBit: the walk.
-/
import Derived.Test.YtnoelkghmmjdaaaSameMap
import Derived.Test.YtnoelkghmmjdaaaBitFacts
import Derived.Test.YtnoelkghmmjdaaaDrawSum
import Derived.Test.YtnoelkghmmjdaaaSums
import Derived.Laws.IdiomStrings
namespace Go.Proofs.Ytnoelkghmmjdaaa
open Go.RowKit

/-- What '[]byte(s)' lays. -/
theorem bytes_laid (s : ByteArray) (w : World) : ∃ (cap : Nat) (w1 : World), (∀ j (hj : j < s.size), w1.cell? ⟨w.heap.size, j, none⟩ = some (.int .u8 (s[j].toNat : Int)) ∧ w1.frozen? ⟨w.heap.size, j, none⟩ = false) ∧ Below w.heap.size w w1 ∧ w.heap.size < w1.heap.size ∧
    (convert 9 22 (.string s)).run Try.prog w = .ok (.slice (some ⟨w.heap.size, 0, none⟩) s.size cap) w1 := by
  refine ⟨grownCap w s.size 0 5, _, fun j hj => ⟨?_, ?_⟩, (Below.refl _ _).drew.alloc (Nat.le_refl _) _, ?_, run_bytes_of_string w 9 22 5 s Try.underlying9 Try.underlying22 Try.underlying5⟩
  · have := World.cell?_alloc_mark w.drew (bytesRow s (grownCap w s.size 0 5)) 5 ((bytesRow s (grownCap w s.size 0 5)).size, (bytesRow s (grownCap w s.size 0 5)).size + 1) j
    exact this.trans (bytesRow_at s _ j hj)
  · have := World.frozen?_alloc_mark w.drew (bytesRow s (grownCap w s.size 0 5)) 5 (bytesRow s (grownCap w s.size 0 5)).size ((bytesRow s (grownCap w s.size 0 5)).size + 1) j
    refine this.trans ?_
    have h2 : s.size ≤ (bytesRow s (grownCap w s.size 0 5)).size := by
      unfold bytesRow
      rw [Array.size_append, Array.size_map]
      show s.data.size ≤ _
      omega
    simp
    omega
  · show _ < (w.heap.push _).size
    simp

/-- 'string(b)' where one byte was turned. -/
theorem bytes_back (s : ByteArray) (g i : Nat) (b : UInt8) (cap : Nat) (w : World) (hi : i < s.size) (hc : ∀ j (hj : j < s.size), w.cell? ⟨g, j, none⟩ = some (.int .u8 (s[j].toNat : Int))) :
    (convert 22 9 (.slice (some ⟨g, 0, none⟩) s.size cap)).run Try.prog (w.setCell ⟨g, i, none⟩ (.int .u8 (b.toNat : Int))) = .ok (.string (setB s i b)) (w.setCell ⟨g, i, none⟩ (.int .u8 (b.toNat : Int))) := by
  have hl : (s.data.toList.set i b).length = s.size := by simp
  have := run_convert_bytes_back (P := Try.prog) (w.setCell ⟨g, i, none⟩ (.int .u8 (b.toNat : Int))) 22 9 5 ⟨g, 0, none⟩ cap (s.data.toList.set i b) Try.underlying22 Try.underlying5 Try.underlying9 (fun j hj => by
    have hj' : j < s.size := by rw [hl] at hj; exact hj
    rw [Addr.add_lit, Nat.zero_add]
    by_cases e : i = j
    · subst e
      rw [World.cell?_setCell_same _ _ _ (hc i hi)]
      simp
    · rw [World.cell?_setCell_other _ _ _ _ (by intro h; injection h with _ h2 _; exact e h2), hc j hj']
      rw [List.getElem_set_ne e]
      rfl)
  rw [hl] at this
  exact this
theorem flip_bits (b : UInt8) {r : Nat} (hr : r < 8) : bits .xor .u8 (b.toNat : Int) ((2 : Int) ^ r % 256) = ((flipU b r).toNat : Int) := by
  have h2 : 2 ^ r < 256 := Nat.pow_lt_pow_right (n := 8) (by omega) hr
  have e : (2 : Int) ^ r % 256 = ((2 ^ r : Nat) : Int) := by
    rw [Int.emod_eq_of_lt]
    · simp
    · exact Int.le_of_lt (Int.pow_pos (by omega))
    · have : (((2 ^ r : Nat) : Int)) < 256 := by omega
      simpa using this
  rw [e, u8_xor_nat b.toNat (2 ^ r) b.toNat_lt h2, flip_nat b hr]

set_option maxHeartbeats 3000000 in
set_option maxRecDepth 200000 in
theorem fnOneBit_walk (A : Option Addr) (n c : Nat) (w : World) (hc : CB w w.heap.size A n) (hn : n ≤ maxLen) :
    Calls Try.prog 7 #[.slice A n c] w fun e w' => e = .returned (.bool true) ∧ Below w.heap.size w w' := by
  have HC := hid hc
  clear hc
  unfold maxLen at hn
  go_enter Try.func7, Try.ntmps7
  go_wp2_with fail
  refine (big_any A n c _).mono ?_
  rintro e w0 ⟨rfl, rfl⟩
  by_cases hbig : (1048576 : Int) < (n : Int)
  · go_wp2_with fail
    go_ret
    exact ⟨rfl, Below.refl _ _⟩
  go_wp2_with fail
  refine (drawSumOf_any A n c _ HC.out (by omega)).mono ?_
  rintro e w1 ⟨s, rfl, hs, hb1⟩
  have HB1 := hid hb1
  have hsz : s.size ≤ maxLen := by unfold maxLen; omega
  have HSZ := hid hsz
  clear hb1 hsz
  go_wp2_with fail
  refine (impl_SumOf s _ HSZ.out).mono ?_
  rintro e w2 ⟨rfl, hw2⟩
  have HB2 := hid (HB1.out.trans (hw2.mono HB1.out.size))
  clear hw2
  have HLOW := hid (sumV_low (s := s) (by omega))
  have hl0 : ¬ sumV s < 0 := by have := HLOW.out; omega
  have hl1 : sumV s < 4294967296 := HLOW.out.2
  have hnn : (sumV s != sumV s) = false := by simp
  have HNE : Hid (∀ (i : Nat) (hi : i < s.size) (r : Nat), r < 8 → (sumV (setB s i (flipU s[i] r)) == sumV s) = false) := fun i hi r hr => by
    have := sum_set hi (by omega) (flip_ne s[i] hr)
    simp [this]
  generalize hsv : sumV s = sv at *
  go_wp2_with fail
  refine (spec_SumOf s _ HSZ.out).mono ?_
  rintro e w3 ⟨rfl, rfl⟩
  rw [hsv]
  go_wp2_with fail
  go_loopw [5] (fun i wr => ∃ k : Nat, k ≤ 8 * s.size ∧ i = .int .i64 k ∧ Below w.heap.size w wr) (fun i _ => 8 * s.size - (intOf i).toNat)
  case atStart => exact ⟨0, Nat.zero_le _, rfl, HB2.out⟩
  case round =>
    obtain ⟨k, hk, rfl, hbw⟩ := hrel
    have HD := hid hbw
    clear hbw
    by_cases hlt : k < 8 * s.size
    · obtain ⟨cap, wb, hC, hwb, hszb, hconv⟩ := bytes_laid s wr
      have HC2 := hid hC
      have HWB := hid hwb
      have e1 : (0 : Int) ≤ (k : Int) := by omega
      have e2 : (k : Int) / 8 < (s.size : Int) := by omega
      have e3 : (0 : Int) ≤ (k : Int) / 8 := by omega
      have hi : k / 8 < s.size := by omega
      have hx := (hC _ hi).1
      have hf := (hC _ hi).2
      have hv := flip_bits s[k / 8] (Nat.mod_lt k (by omega : 0 < 8))
      have hback := bytes_back s wr.heap.size (k / 8) (flipU s[k / 8] (k % 8)) cap wb hi (fun j hj => (hC j hj).1)
      have hne := HNE.out (k / 8) hi (k % 8) (Nat.mod_lt k (by omega))
      have HB4 := hid ((HD.out.trans (hwb.mono HD.out.size)).setCell (p := ⟨wr.heap.size, k / 8, none⟩) HD.out.size (.int .u8 ((flipU s[k / 8] (k % 8)).toNat : Int)))
      clear hC hwb
      go_wp2_with fail
      refine (impl_SumOf (setB s (k / 8) (flipU s[k / 8] (k % 8))) _ (by rw [setB_size]; exact HSZ.out)).mono ?_
      rintro e w5 ⟨rfl, hw5⟩
      have HB5 := hid (HB4.out.trans (hw5.mono HB4.out.size))
      clear hw5
      go_wp2_with fail
      refine ⟨⟨k + 1, by omega, by go_num, HB5.out⟩, by simp [intOf]; omega⟩
    · obtain rfl : k = 8 * s.size := by omega
      go_wp2_with fail
      go_ret
      exact ⟨rfl, HD.out⟩
end Go.Proofs.Ytnoelkghmmjdaaa
